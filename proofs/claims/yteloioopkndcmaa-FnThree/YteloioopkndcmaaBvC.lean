/- Which operands fit; predicates over lists of values (stage 12). -/
import Derived.Test.YteloioopkndcmaaBvB
namespace Go.Proofs.Yteloioopkndcmaa
open Go.RowKit

/-- A value as three parts. -/
abbrev V3 : Type := Int × Int × ByteArray
def nthV (vs : List V3) (i : Nat) : V3 := vs.getD i (0, 0, ⟨#[]⟩)
/-- Value i of a row in block b, from offset off on. -/
abbrev CellV (w : World) (b o : Nat) (v : V3) : Prop :=
  w.cell? ⟨b, o, none⟩ = some (.int .i64 v.1) ∧ w.cell? ⟨b, o + 1, none⟩ = some (.int .i64 v.2.1) ∧ w.cell? ⟨b, o + 2, none⟩ = some (.string v.2.2)
/-- A slice of values can be read. -/
def RowV (w : World) (a : Option Addr) (vs : List V3) : Prop :=
  ∀ i, i < vs.length → ∃ b off, a = some ⟨b, off, none⟩ ∧ b < w.heap.size ∧ CellV w b (off + i * 3) (nthV vs i) ∧ (nthV vs i).2.2.size ≤ maxLen
theorem RowV.below {w w' : World} {a : Option Addr} {vs : List V3} (h : RowV w a vs) (hb : Below w.heap.size w w') : RowV w' a vs := fun i hi => by
  obtain ⟨b, off, e, hlt, hc, hs⟩ := h i hi
  exact ⟨b, off, e, Nat.lt_of_lt_of_le hlt hb.size, ⟨(hb.cell (p := ⟨b, off + i * 3, none⟩) hlt).trans hc.1, (hb.cell (p := ⟨b, off + i * 3 + 1, none⟩) hlt).trans hc.2.1, (hb.cell (p := ⟨b, off + i * 3 + 2, none⟩) hlt).trans hc.2.2⟩, hs⟩
theorem nthV_get {vs : List V3} {i : Nat} (h : i < vs.length) : nthV vs i = vs[i] := by unfold nthV; simp [h]

/-- A function value that tells of a value, from this world on. -/
def PredW (w : World) (g : Nat) (cap : Array Value) (p : V3 → Bool) : Prop :=
  Ent g ∧ ∀ w', Below w.heap.size w w' → ∀ k n t, Calls Try.prog g (#[VV k n t] ++ cap) w' fun e w'' => e = .returned (.bool (p (k, n, t))) ∧ Below w'.heap.size w' w''
set_option maxRecDepth 100000 in
set_option maxHeartbeats 2000000 in
theorem indexFunc_any (vs : List V3) (p : V3 → Bool) (g : Nat) (cp : Array Value) (a : Option Addr) (cap : Nat) (w : World) (hrow : RowV w a vs) (hlen : vs.length ≤ maxLen) (hP : PredW w g cp p) :
    Calls Try.prog 102 #[.slice a vs.length cap, .func (.func g) #[] cp] w fun e w' => (∃ z : Int, e = .returned (.int .i64 z) ∧ decide (z ≥ 0) = vs.any p) ∧ Below w.heap.size w w' := by
  have HR : Hid (RowV w a vs) := hrow
  obtain ⟨hE, hP⟩ := hP
  have HP : Hid (∀ w', Below w.heap.size w w' → ∀ k n t, Calls Try.prog g (#[VV k n t] ++ cp) w' fun e w'' => e = .returned (.bool (p (k, n, t))) ∧ Below w'.heap.size w' w'') := hP
  unfold Ent at hE
  clear hrow hP
  unfold maxLen at hlen
  obtain ⟨len, hL⟩ : ∃ m, vs.length = m := ⟨_, rfl⟩
  have HL : Hid (vs.length = len) := hL
  rw [hL] at hlen ⊢
  clear hL
  go_enter Try.func102, Try.ntmps102
  go_wp2
  go_loopw [8] (fun i wr => ∃ k' : Nat, k' ≤ len ∧ i = .int .i64 k' ∧ Hid (∀ i, i < k' → p (nthV vs i) = false) ∧ Below w.heap.size w wr) (fun i _ => len - (intOf i).toNat)
  case atStart => exact ⟨0, by omega, rfl, fun i hi => by omega, Below.refl _ _⟩
  case round =>
    obtain ⟨j, hj, rfl, HS, hbl⟩ := hrel
    by_cases hjl : j < len
    · obtain ⟨b, off, rfl, hb, ⟨c0, c1, c2⟩, hs⟩ := (HR.out.below hbl) j (by rw [HL.out]; exact hjl)
      have hc := HP.out wr hbl (nthV vs j).1 (nthV vs j).2.1 (nthV vs j).2.2
      go_wp2_with fail
      refine hc.mono ?_
      rintro e w1 ⟨rfl, b1⟩
      have B1 := below_step hbl (Nat.le_refl _) b1
      clear b1 hbl hc c0 c1 c2
      cases hn : p ((nthV vs j).1, (nthV vs j).2.1, (nthV vs j).2.2) with
      | true =>
        have HT : Hid (vs.any p = true) := by
          show _ = _
          rw [List.any_eq_true]
          exact ⟨nthV vs j, by rw [nthV_get (by rw [HL.out]; exact hjl)]; exact List.getElem_mem _, hn⟩
        clear hn HS
        go_wp2
        go_ret
        exact ⟨⟨_, rfl, by rw [HT.out]; exact decide_eq_true (by omega)⟩, B1⟩
      | false =>
        have HS' : Hid (∀ i, i < j + 1 → p (nthV vs i) = false) := fun i hi => by
          rcases Nat.lt_or_ge i j with h | h
          · exact HS.out i h
          · obtain rfl : i = j := by omega
            exact hn
        clear hn HS
        go_wp2
        go_roundw
        case rel => exact ⟨j + 1, by omega, by go_num, HS', B1⟩
        case measure => simp [intOf]; omega
    · obtain rfl : j = len := by omega
      have HF : Hid (vs.any p = false) := by
        show _ = _
        rw [List.any_eq_false]
        intro x hx
        obtain ⟨i, hi, rfl⟩ := List.mem_iff_getElem.1 hx
        have := HS.out i (by rw [← HL.out]; exact hi)
        rw [nthV_get hi] at this
        simp [this]
      clear HS
      go_wp2
      go_ret
      exact ⟨⟨_, rfl, by rw [HF.out]; rfl⟩, hbl⟩
set_option maxRecDepth 100000 in
theorem containsFunc_any (vs : List V3) (p : V3 → Bool) (g : Nat) (cp : Array Value) (a : Option Addr) (cap : Nat) (w : World) (hrow : RowV w a vs) (hlen : vs.length ≤ maxLen) (hP : PredW w g cp p) :
    Calls Try.prog 72 #[.slice a vs.length cap, .func (.func g) #[] cp] w fun e w' => e = .returned (.bool (vs.any p)) ∧ Below w.heap.size w w' := by
  have hc := indexFunc_any vs p g cp a cap w hrow hlen hP
  clear hrow hP
  go_enter Try.func72, Try.ntmps72
  go_wp2_with fail
  refine hc.mono ?_
  rintro e w1 ⟨⟨z, rfl, hz⟩, b1⟩
  have HZ : Hid (decide (z ≥ 0) = vs.any p) := hz
  clear hz hc
  go_wp2
  go_ret
  exact ⟨ret_bool' HZ.out, b1⟩

def fitK (a b : Int) : Bool := a == b || a == 0 || b == 0
theorem wantKind_any (a b : Int) (w : World) : Calls Try.prog 74 #[.int .i64 a, .int .i64 b] w fun e w' => e = .returned (if fitK a b then .nilIface else .iface 115 (.int .i64 10)) ∧ w' = w := by
  have H : Hid (fitK a b = (a == b || a == 0 || b == 0)) := rfl
  generalize fitK a b = f at *
  go_enter Try.func74, Try.ntmps74
  go_wp2
  all_goals
    go_ret
    have h := H.out
    refine ⟨?_, rfl⟩
    simp_all
def opK (level left : Int) : Int := if level = 1 ∨ level = 2 ∨ level = 3 then 1 else if level = 4 then left else 2
theorem operandKind_any (l k : Int) (w : World) : Calls Try.prog 71 #[.int .i64 l, .int .i64 k] w fun e w' => e = .returned (.int .i64 (opK l k)) ∧ w' = w := by
  have H : Hid (opK l k = if l = 1 ∨ l = 2 ∨ l = 3 then 1 else if l = 4 then k else 2) := rfl
  generalize opK l k = f at *
  go_enter Try.func71, Try.ntmps71
  go_wp2
  all_goals
    go_ret
    have h := H.out
    refine ⟨?_, rfl⟩
    simp_all
set_option maxRecDepth 100000 in
theorem fits1_any (k n : Int) (t : ByteArray) (wt : Int) (bx : Nat) (w : World) (hlt : bx < w.heap.size) (hx : w.cell? ⟨bx, 0, none⟩ = some (.int .i64 wt)) :
    Calls Try.prog 73 #[VV k n t, .pointer (some ⟨bx, 0, none⟩)] w fun e w' => e = .returned (.bool (!fitK k wt)) ∧ Below w.heap.size w w' := by
  have hc := wantKind_any k wt (w.alloc (.cells #[.int .i64 k, .int .i64 n, .string t] 24))
  have B0 : Below w.heap.size w (w.alloc (.cells #[.int .i64 k, .int .i64 n, .string t] 24)) := (Below.refl _ _).alloc (Nat.le_refl _) _
  cases hf : fitK k wt
  all_goals
    rw [hf] at hc
    clear hf
    go_enter Try.func73, Try.ntmps73
    go_wp2_with fail
    refine hc.mono ?_
    rintro e w1 ⟨rfl, rfl⟩
    clear hc
    go_wp2
    go_ret
    exact ⟨rfl, B0⟩
theorem ent73 : Ent 73 := enters_of Try.func73 (by kernel_rfl) rfl
set_option maxRecDepth 100000 in
theorem operandsFit_any (l : Int) (vs : List V3) (a : Option Addr) (cap : Nat) (w : World) (hrow : RowV w a vs) (h0 : 0 < vs.length) (hlen : vs.length ≤ maxLen) :
    Calls Try.prog 39 #[.int .i64 l, .slice a vs.length cap] w fun e w' => e = .returned (.bool (!vs.any fun v => !fitK v.1 (opK l (nthV vs 0).1))) ∧ Below w.heap.size w w' := by
  obtain ⟨b, off, rfl, hb, ⟨c0, c1, c2⟩, _⟩ := hrow 0 h0
  simp only [Nat.zero_mul, Nat.add_zero] at c0 c1 c2
  have hc0 := operandKind_any l (nthV vs 0).1 w
  generalize opK l (nthV vs 0).1 = wt at *
  have hcell : (w.alloc (.cells #[.int .i64 wt] 3)).cell? ⟨w.heap.size, 0, none⟩ = some (.int .i64 wt) := by simp
  have B0 : Below w.heap.size w (w.alloc (.cells #[.int .i64 wt] 3)) := (Below.refl _ _).alloc (Nat.le_refl _) _
  have hc := containsFunc_any vs (fun v => !fitK v.1 wt) 73 #[.pointer (some ⟨w.heap.size, 0, none⟩)] _ cap (w.alloc (.cells #[.int .i64 wt] 3)) (hrow.below B0) hlen ⟨ent73, fun w' b k n t => fits1_any k n t wt w.heap.size w' (Nat.lt_of_lt_of_le (by simp) b.size) ((b.cell (p := ⟨w.heap.size, 0, none⟩) (by simp)).trans hcell)⟩
  generalize (vs.any fun v => !fitK v.1 wt) = r at *
  have h1 : (1 : Nat) ≤ vs.length := h0
  have h2 : ¬ vs.length = 0 := by omega
  clear hcell hrow
  generalize vs.length = len at *
  unfold maxLen at hlen
  go_enter Try.func39, Try.ntmps39
  go_wp2_with fail
  refine hc0.mono ?_
  rintro e w1 ⟨rfl, rfl⟩
  clear hc0
  go_wp2_with fail
  refine hc.mono ?_
  rintro e w2 ⟨rfl, b2⟩
  clear hc
  go_wp2
  go_ret
  exact ⟨rfl, B0.trans (b2.mono B0.size)⟩
end Go.Proofs.Yteloioopkndcmaa
