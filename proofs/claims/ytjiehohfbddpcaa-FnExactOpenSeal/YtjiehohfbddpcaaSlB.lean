/- The writer of bytes of one's own: what is written behind what it has. -/
import Derived.Test.YtjiehohfbddpcaaSlA
namespace Go.Proofs.Ytjiehohfbddpcaa
open Go.RowKit

/-- The writer at g has the bytes l. -/
def WrS (w : World) (B g : Nat) (l : List UInt8) : Prop :=
  B ≤ g ∧ ∃ v, w.heap[g]? = some (.cells #[v] 30 (0, 0)) ∧ ((v = .slice none 0 0 ∧ l = []) ∨ OwnL w B v l)
theorem WrS.below {w w' : World} {B g : Nat} {l : List UInt8} (h : WrS w B g l) (hb : Below w.heap.size w w') : WrS w' B g l := by
  obtain ⟨hB, v, hh, ho⟩ := h
  exact ⟨hB, v, (hb.block g (slab_lt hh)).trans hh, ho.imp id fun o => o.below hb⟩
theorem OwnL.other {w : World} {B : Nat} {v : Value} {l : List UInt8} (h : OwnL w B v l) {g : Nat} {cur : Array Value} {fz} (hg : w.heap[g]? = some (.cells cur 30 fz)) : v.ownBlock ≠ some g := by
  obtain ⟨b, cap, cur', fz', rfl, _, hh, _⟩ := h
  intro e
  cases e
  rw [hh] at hg
  cases hg
theorem OwnL.setOther {w : World} {B : Nat} {v : Value} {l : List UInt8} (h : OwnL w B v l) {g : Nat} (hne : v.ownBlock ≠ some g) (o : Nat) (x : Value) : OwnL (w.setCell ⟨g, o, none⟩ x) B v l := by
  obtain ⟨b, cap, cur', fz', rfl, hB, hh, r⟩ := h
  exact ⟨b, cap, cur', fz', rfl, hB, (Below.heap_setCell _ _ _ _ (fun e => hne (by rw [e]; rfl))).trans hh, r⟩
theorem one_facts {w : World} {g : Nat} {v : Value} {ty : TypeId} (h : w.heap[g]? = some (.cells #[v] ty (0, 0))) : w.cell? ⟨g, 0, none⟩ = some v ∧ w.frozen? ⟨g, 0, none⟩ = false := by
  constructor <;> simp [World.cell?, World.frozen?, h]

set_option maxRecDepth 100000 in
set_option maxHeartbeats 2000000 in
theorem write_any (g b off c : Nat) (l m : List UInt8) (B : Nat) (w : World) (h : WrS w B g l) (hx : ReadL w (some ⟨b, off, none⟩) m) (h0 : 0 < l.length + m.length) (hn : l.length + m.length ≤ 1000000) :
    Calls Try.prog 14 #[.pointer (some ⟨g, 0, none⟩), .slice (some ⟨b, off, none⟩) m.length c] w fun e w' => e = .returned (.tuple #[.int .i64 m.length, .nilIface]) ∧ WrS w' B g (l ++ m) ∧ Below B w w' := by
  obtain ⟨hB, v, hh, ho⟩ := h
  have hBw : B ≤ w.heap.size := Nat.le_trans hB (Nat.le_of_lt (slab_lt hh))
  obtain ⟨v', w1, hr, ho1, hb1, hh1, hne⟩ : ∃ v' w1, (Builtin.append_ #[22, 22] 22 #[v, .slice (some ⟨b, off, none⟩) m.length c]).run Try.prog w = .ok v' w1 ∧ OwnL w1 B v' (l ++ m) ∧ Below B w w1 ∧ w1.heap[g]? = some (.cells #[v] 30 (0, 0)) ∧ v'.ownBlock ≠ some g := by
    rcases ho with ⟨rfl, rfl⟩ | ho
    · obtain ⟨v', w1, hr, ho1, hb1⟩ := run_app_nil 22 b off c m hx (by simpa using h0) (by simp at hn; omega)
      have hh1 := (hb1.block g (slab_lt hh)).trans hh
      have ho2 : OwnL w1 B v' m := by obtain ⟨q, cap, cur, fz, e, hq, r⟩ := ho1; exact ⟨q, cap, cur, fz, e, Nat.le_trans hBw hq, r⟩
      exact ⟨v', w1, hr, ho2, hb1.mono hBw, hh1, ho2.other hh1⟩
    · obtain ⟨v', w1, hr, ho1, hg⟩ := run_app_bytes 22 b off c m ho hx hn hBw
      have hh1 := (hg.block g (slab_lt hh) (ho.other hh).symm).trans hh
      exact ⟨v', w1, hr, ho1, ho.grown hg (Below.refl _ _) (Nat.le_refl _) hBw, hh1, ho1.other hh1⟩
  obtain ⟨c0, f0⟩ := one_facts hh
  obtain ⟨c1, f1⟩ := one_facts hh1
  have HF : Hid (WrS (w1.setCell ⟨g, 0, none⟩ v') B g (l ++ m) ∧ Below B w (w1.setCell ⟨g, 0, none⟩ v')) :=
    ⟨⟨hB, v', slab_set hh1 v', .inr (ho1.setOther hne 0 v')⟩, hb1.setCell hB _⟩
  obtain ⟨g1, n1, c1', rfl, _, _, _⟩ := ho1.open
  clear ho ho1 hb1 hh hh1 hx hne
  generalize m.length = k at *
  go_enter Try.func14, Try.ntmps14
  go_wp2_with (at_builtin; refine Lib.wpList_append_run _ rfl _ _ _ _ rfl _ _ rfl rfl _ _ hr ?_)
  exact bodyPost_ret (v := .tuple #[.int .i64 k, .nilIface]) (by simp [results, Try.results14, go_sem]) rfl ⟨rfl, HF.out⟩

theorem meth36 : ((Try.prog.info? 36).bind (fun i => i.methods.find? (·.name == "Write"))).map (fun m => (m.name, m.path.toList.isEmpty, m.func)) = some ("Write", true, some (14, true)) := by kernel_rfl
theorem meth36' : ∃ i m, Try.prog.info? 36 = some i ∧ i.methods.find? (·.name == "Write") = some m ∧ m.path.toList = [] ∧ m.func = some (14, true) := by
  have h := meth36
  cases hi : Try.prog.info? 36 with
  | none => rw [hi] at h; cases h
  | some i =>
    rw [hi] at h
    simp only [Option.bind_some] at h
    cases hm : i.methods.find? (·.name == "Write") with
    | none => rw [hm] at h; cases h
    | some m =>
      rw [hm] at h
      simp only [Option.map_some, Option.some.injEq, Prod.mk.injEq] at h
      exact ⟨i, m, rfl, hm, List.isEmpty_iff.1 h.2.1, h.2.2⟩
theorem nilAhead_w (a : Option Addr) (n : Nat) (w : World) : Sem.run Try.prog (nilAhead (n + 1) 36 (.pointer a) "Write") w = .ok (some false) w := by
  obtain ⟨i, m, h1, h2, h3, h4⟩ := meth36'
  unfold nilAhead
  simp [typeInfo, h1, h2, h3, h4, followBlind]
theorem method_w (a : Addr) (n : Nat) (w : World) : Sem.run Try.prog (method (n + 1) 36 (.pointer (some a)) "Write") w = .ok (14, .pointer (some a)) w := by
  obtain ⟨i, m, h1, h2, h3, h4⟩ := meth36'
  unfold method
  simp [typeInfo, h1, h2, h3, h4, follow, receiverAt, Place.get]
theorem write_n (g b off c n : Nat) (l m : List UInt8) (B : Nat) (w : World) (h : WrS w B g l) (hx : ReadL w (some ⟨b, off, none⟩) m) (hl : Hid (m.length = n)) (h0 : 0 < l.length + n) (hn : l.length + n ≤ 1000000) :
    Calls Try.prog 14 #[.pointer (some ⟨g, 0, none⟩), .slice (some ⟨b, off, none⟩) n c] w fun e w' => e = .returned (.tuple #[.int .i64 n, .nilIface]) ∧ WrS w' B g (l ++ m) ∧ Below B w w' := by
  have e := hl.out
  subst e
  exact write_any g b off c l m B w h hx h0 hn
abbrev StB (B : Nat) (w w' : World) : Prop := Below B w w'
def StW (w : World) (B g : Nat) (l : List UInt8) (w' : World) : Prop := Below B w w' ∧ WrS w' B g l
theorem StW.start {w : World} {B g : Nat} {l : List UInt8} (h : WrS w B g l) : StW w B g l w.drew :=
  ⟨(Below.refl _ _).drew, h.below ((Below.refl _ _).drew)⟩
theorem StW.keep {w w1 w2 : World} {B g : Nat} {l : List UInt8} (h : StW w B g l w1) (hB : B ≤ w.heap.size) (hb : Below w1.heap.size w1 w2) : StW w B g l w2 :=
  ⟨below_step h.1 hB hb, h.2.below hb⟩

set_option maxRecDepth 100000 in
set_option maxHeartbeats 2000000 in
theorem writeNumber_any (g : Nat) (l : List UInt8) (n : Int) (B : Nat) (w : World) (h : WrS w B g l) (hn : l.length ≤ 900000) :
    Calls Try.prog 15 #[.iface 36 (.pointer (some ⟨g, 0, none⟩)), .int .i64 n, .int .i64 4] w fun e w' => e = .returned (.tuple #[]) ∧ WrS w' B g (l ++ num4 n) ∧ Below B w w' := by
  have HW : Hid (WrS w B g l) := h
  have HBw : Hid (B ≤ w.heap.size) := by obtain ⟨hB, v, hh, _⟩ := h; exact Nat.le_trans hB (Nat.le_of_lt (slab_lt hh))
  have HS : Hid (StW w B g l w.drew) := StW.start h
  have hM : ∀ w1, Sem.run Try.prog (method 167 36 (.pointer (some ⟨g, 0, none⟩)) "Write") w1 = .ok (14, .pointer (some ⟨g, 0, none⟩)) w1 := fun w1 => method_w _ 166 w1
  have hA : ∀ w1, Sem.run Try.prog (nilAhead 167 36 (.pointer (some ⟨g, 0, none⟩)) "Write") w1 = .ok (some false) w1 := fun w1 => nilAhead_w _ 166 w1
  clear h
  go_enter Try.func15, Try.ntmps15
  go_wp2_with fail
  go_region_held3 (StB B w) (first | exact HB3.out | exact HB2 | exact HS.out.1) ((first | (go_at_call 25; refine (appendNumber0 _ _).mono ?_; rintro e w1 ⟨v1, rfl, ho, hb⟩; obtain ⟨q, k, c, rfl, HN, _, HR⟩ := ho.open; have HS2 := StW.keep HS.out HBw.out hb; have HB2 := HS2.1; have hk : Hid (k = 4) := by show _ = _; rw [← HN.out, num4_len]) | (go_at_call 14; refine (write_n g q 0 c k l _ B w1 HS2.2 HR.out HN (by have := hk.out; omega) (by have := hk.out; omega)).mono ?_; rintro e w2 ⟨rfl, hw2, hb2⟩; have HB3 : Hid (StB B w w2) := HB2.trans hb2; have HW2 : Hid (WrS w2 B g (l ++ num4 n)) := hw2; clear hb2 hw2))) 
  all_goals
    go_wp2
    exact bodyPost_end (results_none rfl _ _ _) rfl ⟨rfl, HW2.out, HB3.out⟩
end Go.Proofs.Ytjiehohfbddpcaa
