/- What impl reads of a sector. -/
import Derived.Test.YtgfgaiimigchkaaDoorReadA
namespace Go.Proofs.YtgfgaiimigchkaaDoor
open Go.RowKit Go.Shelf

attribute [local go_sem] Oper.semAt_some

/-- What readSector's own blocks hold. -/
structure Sec (n0 : Nat) (a a' : Option Addr) (len c num c' : Nat) (m : Nat) (W : World) : Prop where
  s0 : W.cell? ⟨n0, 0, none⟩ = some (.slice a len c)
  s1 : W.cell? ⟨n0, 1, none⟩ = some (.slice a' num c')
  at0 : W.cell? ⟨n0 + 1, 0, none⟩ = some (.int .i64 m)
  r0 : W.cell? ⟨n0 + 1 + 1, 0, none⟩ = some (.string ⟨#[]⟩)
  r1 : W.cell? ⟨n0 + 1 + 1 + 1, 0, none⟩ = some .nilIface
  f0 : W.frozen? ⟨n0 + 1 + 1, 0, none⟩ = false
  f1 : W.frozen? ⟨n0 + 1 + 1 + 1, 0, none⟩ = false
theorem Sec.below {n0 : Nat} {a a' : Option Addr} {len c num c' m : Nat} {W W' : World} (h : Sec n0 a a' len c num c' m W) (hb : Below W.heap.size W W') : Sec n0 a a' len c num c' m W' := by
  have lt := fun {p : Addr} {v : Value} (h : W.cell? p = some v) => World.block_lt_of_cell? W p h
  exact ⟨(hb.cell (lt h.s0)).trans h.s0, (hb.cell (lt h.s1)).trans h.s1, (hb.cell (lt h.at0)).trans h.at0, (hb.cell (lt h.r0)).trans h.r0, (hb.cell (lt h.r1)).trans h.r1, (hb.frozen (lt h.r0)).trans h.f0, (hb.frozen (lt h.r1)).trans h.f1⟩

theorem Sec.kept {n0 : Nat} {a a' : Option Addr} {len c num c' m : Nat} {A B : World} {row : Option Nat} (h : Sec n0 a a' len c num c' m A) (hg : A.grownBy B row) (hr : ∀ r, row = some r → ∃ o : Obj, A.heap[r]? = some o ∧ o.isCells = false) : Sec n0 a a' len c num c' m B :=
  ⟨cell_kept h.s0 hg hr, cell_kept h.s1 hg hr, cell_kept h.at0 hg hr, cell_kept h.r0 hg hr, cell_kept h.r1 hg hr, (frozen_kept h.r0 hg hr).trans h.f0, (frozen_kept h.r1 hg hr).trans h.f1⟩
theorem rowQ_of {w : World} {n0 : Nat} {a : Option Addr} {ps : List P2} (h : RowP w a ps) (hn : w.heap.size ≤ n0) : RowQ n0 w a ps := fun i hi => by
  obtain ⟨b, off, e, hlt, hc, _⟩ := h i hi
  exact ⟨b, off, e, Nat.lt_of_lt_of_le hlt hn, hc⟩
theorem readK_none {ss : List ByteArray} {ps : List P2} {x : Nat} : ∀ n, (∀ j, j < n → (nthP ps j).1 ≠ x) → readK ss ps x n = nthS ss x
  | 0, _ => rfl
  | n + 1, h => by
    show (if _ then _ else _) = _
    rw [if_neg (h n (by omega))]
    exact readK_none n (fun j hj => h j (by omega))
theorem readK_hit {ss : List ByteArray} {ps : List P2} {x i : Nat} (hx : (nthP ps i).1 = x) : ∀ n, i < n → (∀ j, i < j → j < n → (nthP ps j).1 ≠ x) → readK ss ps x n = (nthP ps i).2
  | 0, h, _ => by omega
  | n + 1, h, hn => by
    show (if _ then _ else _) = _
    by_cases e : i = n
    · subst e; rw [if_pos hx]
    · rw [if_neg (hn n (by omega) (by omega))]
      exact readK_hit hx n (by omega) (fun j h1 h2 => hn j h1 (by omega))

set_option maxRecDepth 100000 in
set_option maxHeartbeats 4000000 in
theorem readSector_ok (a a' : Option Addr) (c c' : Nat) (ss : List ByteArray) (ps : List P2) (m : Nat) (t0 t1 : TypeId) (v0 v1 : Value) (w : World) (hs : RowS w a ss) (hp : RowP w a' ps) (hg : Gl w (.iface t0 v0) (.iface t1 v1)) (hlp : ps.length ≤ 1048576) (hm : m < ss.length) :
    Calls Tryd.prog 60 #[DV a ss.length c a' ps.length c', .int .i64 m] w fun e w' => e = .returned (.tuple #[.string (readK ss ps m ps.length), .nilIface]) ∧ Below w.heap.size w w' := by
  have HS : Hid (RowS w a ss) := hs
  have HP : Hid (RowP w a' ps) := hp
  have HG : Hid (Gl w (.iface t0 v0) (.iface t1 v1)) := hg
  have hsec : secErr m ss.length (.iface t1 v1) = .nilIface := by unfold secErr okAt; rw [if_pos (decide_eq_true ⟨by omega, by omega⟩)]
  have HSec : Hid (secErr m ss.length (.iface t1 v1) = .nilIface) := hsec
  clear hs hp hg hsec
  refine (callsIn_wide (n := 3)).1 ?_
  refine callsIn_of_wp_marks Tryd.func60 rfl trivial ?_ rfl
  simp only [Tryd.ntmps60, List.size_toArray, List.length_cons, List.length_nil, Nat.reduceAdd, Nat.reduceSub, Array.replicate_succ, Array.replicate_zero, List.push_toArray, List.append_toArray, List.nil_append, List.cons_append]
  have A0 : Below w.heap.size w ((((w.alloc (.cells #[.slice a ss.length c, .slice a' ps.length c'] 28)).alloc (.cells #[.int .i64 (m : Int)] 3)).alloc (.cells #[.string ⟨#[]⟩] 9)).alloc (.cells #[.nilIface] 83)) := ((((Below.refl _ _).alloc (Nat.le_refl _) _).alloc (by simp) _).alloc (by simp; omega) _).alloc (by simp; omega) _
  have S0 : Sec w.heap.size a a' ss.length c ps.length c' m ((((w.alloc (.cells #[.slice a ss.length c, .slice a' ps.length c'] 28)).alloc (.cells #[.int .i64 (m : Int)] 3)).alloc (.cells #[.string ⟨#[]⟩] 9)).alloc (.cells #[.nilIface] 83)) :=
    ⟨by go_simp, by go_simp, by go_simp, by go_simp, by go_simp, by go_simp, by go_simp⟩
  have HS0 : Hid _ := S0
  clear S0
  gi_wp2_with fail
  refine ⟨trivial, ?_⟩
  refine (callsIn_wide.2 (checkSector_any (m : Int) a a' ss.length c ps.length c' t0 t1 v0 v1 _ (Gl.below HG.out A0))).mono ?_
  rintro e w1 ⟨rfl, hb1⟩
  rw [HSec.out]
  have B1 := A0.trans (hb1.mono A0.size)
  have S1 := HS0.out.below hb1
  have H1 : Hid (Sec w.heap.size a a' ss.length c ps.length c' m w1) := S1
  obtain ⟨q0, q1, q2, q3, q4, q5, q6⟩ := S1
  have hw1 : w.heap.size + 4 ≤ w1.heap.size := by have := hb1.size; simp at this; omega
  clear A0 hb1 HS0
  gi_wp2_with fail
  refine ⟨trivial, ?_⟩
  refine (backward_in Fence.wide _ trivial rfl _ _ _ _).mono ?_
  rintro e w2 ⟨rfl, rfl⟩
  gi_wp2
  have HW0 : Below w.heap.size w (w1.alloc (.cells #[.slice a' ps.length c'] 26)) := B1.alloc B1.size _
  have A1 : Below w1.heap.size w1 (w1.alloc (.cells #[.slice a' ps.length c'] 26)) := (Below.refl _ _).alloc (Nat.le_refl _) _
  have hS0 := H1.out.below A1
  have hRQ : RowQ (w1.heap.size + 1) (w1.alloc (.cells #[.slice a' ps.length c'] 26)) a' ps := rowQ_of (HP.out.below HW0) (by simp)
  refine wpIn_rangeFunc_ownH (F := Fence.wide) (n := 3) rfl (by omega) (gf := 98) (lb := #[.pointer (some ⟨w1.heap.size, 0, none⟩)]) rfl trivial (enters_of Tryd.func98 (by kernel_rfl) rfl)
    (back_stops Fence.wide (3 - 1) trivial rfl (by omega) w1.heap.size (w1.heap.size + 1) c' a' ps hlp _ (by omega) (by simp) (by go_simp) hRQ) belowK_t (belowK_b (by simp)) (Below.refl _ _) (fun _ => rfl)
    (fun pre W => (Sec w.heap.size a a' ss.length c ps.length c' m W ∧ (∀ p ∈ pre, p.2.1 ≠ (m : Int)) ∧ w1.heap.size + 1 ≤ W.heap.size) ∧ Below w.heap.size w W)
    (fun cd pre W => (cd = .ret ∧ ∃ ini last, pre = ini ++ [last] ∧ (∀ p ∈ ini, p.2.1 ≠ (m : Int)) ∧ last.2.1 = (m : Int) ∧ W.cell? ⟨w.heap.size + 1 + 1, 0, none⟩ = some (.string last.2.2) ∧ W.cell? ⟨w.heap.size + 1 + 1 + 1, 0, none⟩ = some .nilIface) ∧ Below w.heap.size w W)
    (OwnFrom.and (Own.from (fun s A B row hs hg hr => ⟨hs.1.kept hg hr, hs.2.1, Nat.le_trans hs.2.2 hg.size⟩) _) (ownFrom_below (Nat.le_refl _) (by simp; omega)))
    (fun cd => OwnFrom.and (Own.from (fun s A B row hs hg hr => by obtain ⟨hc, ini, last, e1, e2, e3, e4, e5⟩ := hs; exact ⟨hc, ini, last, e1, e2, e3, cell_kept e4 hg hr, cell_kept e5 hg hr⟩) _) (ownFrom_below (Nat.le_refl _) (by simp; omega)))
    ⟨⟨hS0, by simp, by simp⟩, HW0⟩
    (fun x b' W => ∃ Bx, w1.heap.size + 1 ≤ Bx ∧ W.cell? ⟨Bx, 0, none⟩ = some (.int .i64 x.2.1) ∧ W.cell? ⟨Bx, 1, none⟩ = some (.string x.2.2) ∧ b' = { tmps := #[DV a ss.length c a' ps.length c', .int .i64 m, .pointer (some ⟨w.heap.size, 0, none⟩), .pointer (some ⟨w.heap.size + 1, 0, none⟩), .pointer (some ⟨w.heap.size + 1 + 1, 0, none⟩), .pointer (some ⟨w.heap.size + 1 + 1 + 1, 0, none⟩), .nilIface, undef, .pointer (some ⟨Bx, 0, none⟩), .agg #[.slice a ss.length c, .slice a' ps.length c'], .int .i64 m, .nilIface, .nilIface, .bool false, undef, .pointer (some ⟨w.heap.size, 1, none⟩), .slice a' ps.length c', .func (.func 98) #[] #[.pointer (some ⟨w1.heap.size, 0, none⟩)], .int .i64 (x.1 : Int), .agg #[.int .i64 x.2.1, .string x.2.2], undef, undef, undef, undef, undef, undef, undef, undef, undef, undef, undef], defers := [] })
    (fun x b' _ X Y row hs hg hr => by obtain ⟨Bx, h1, h2, h3, h4⟩ := hs; exact ⟨Bx, h1, cell_kept h2 hg (fun r e => (hr r e).2), cell_kept h3 hg (fun r e => (hr r e).2), h4⟩)
    ?assign ?body ?done ?stop
  case assign =>
    rintro l pre x W K ⟨⟨hSec, hne, hsz⟩, hB⟩ hK
    have HK : Hid (∀ a' W', KeepsFrom _ W W' → Below _ W W' → _ → _ → K a' W') := hK
    clear q0 q1 q2 q3 q4 q5 q6 hS0 hRQ HW0 A1 hK
    gi_wp2
    exact HK.out _ _ ((KeepsOthers.alloc _ _).from _) ((Below.refl _ W).alloc hsz _) ⟨⟨hSec.below ((Below.refl _ _).alloc (Nat.le_refl _) _), hne, by simp; omega⟩, hB.alloc hB.size _⟩ ⟨W.heap.size, hsz, by go_simp, by go_simp, rfl⟩
  case body =>
    rintro l pre x b' W hl _ ⟨⟨hSec, hne, hsz⟩, hB⟩ ⟨Bx, hBx, b0, b1, rfl⟩ hlt
    clear q0 q1 q2 q3 q4 q5 q6 hS0 hRQ HW0 A1
    have z0 := hSec.at0
    have z1 := hSec.r0
    have z2 := hSec.r1
    have z3 := hSec.f0
    have z4 := hSec.f1
    by_cases hx : x.2.1 = (m : Int)
    · rw [hx] at b0
      have HX : Hid (x.2.1 = (m : Int)) := hx
      clear hx
      gi_wp2
      refine ⟨((KeepsOthers.setCell W ⟨w.heap.size + 1 + 1, 0, none⟩ (.string x.2.2)).trans (KeepsOthers.setCell _ ⟨w.heap.size + 1 + 1 + 1, 0, none⟩ .nilIface)).from _, ⟨rfl, pre, x, rfl, hne, HX.out, ?_, ?_⟩, ?_⟩
      · go_simp
      · go_simp
      · exact (hB.setCell (p := ⟨w.heap.size + 1 + 1, 0, none⟩) (by show w.heap.size ≤ w.heap.size + 1 + 1; omega) _).setCell (p := ⟨w.heap.size + 1 + 1 + 1, 0, none⟩) (by show w.heap.size ≤ w.heap.size + 1 + 1 + 1; omega) _
    · gi_wp2
      exact ⟨KeepsFrom.refl _ _, Below.refl _ _, ⟨hSec, fun p hp' => (List.mem_append.1 hp').elim (hne p) (fun e => by simp at e; subst e; exact hx), hsz⟩, hB⟩
  case done =>
    rintro D ys W hD rfl ⟨⟨hSec, hne, hsz⟩, hB⟩ hK
    clear q0 q1 q2 q3 q4 q5 q6 hS0 hRQ HW0 A1
    have z0 := hSec.at0
    have z1 := hSec.r0
    have z2 := hSec.r1
    have z3 := hSec.f0
    have z4 := hSec.f1
    have z5 := hSec.s0
    obtain ⟨b, off, rfl, hlb, hc0, _⟩ := (HS.out.below hB) m hm
    have HV : Hid (nthS ss m = readK ss ps m ps.length) := (readK_none ps.length (fun j hj => by
      have := hne (fromEnd ps (ps.length - 1 - j)) (by simp only [upto, List.mem_map, List.mem_range]; exact ⟨_, by omega, rfl⟩)
      have e : ps.length - 1 - (ps.length - 1 - j) = j := by omega
      simpa [fromEnd, e] using this)).symm
    have hmI : (m : Int) < (ss.length : Int) := by omega
    have HKK : Hid (W.heap[D]? = some (.deferred (some []))) := hK
    clear hne hSec hK
    gi_wp2
    have hK1 := (KeepsOthers.setCell W ⟨w.heap.size + 1 + 1, 0, none⟩ (.string (nthS ss m))).same D _ HKK.out rfl
    have hK2 := (KeepsOthers.setCell (W.setCell ⟨w.heap.size + 1 + 1, 0, none⟩ (.string (nthS ss m))) ⟨w.heap.size + 1 + 1 + 1, 0, none⟩ .nilIface).same D _ hK1 rfl
    refine ⟨by simp, .inl ⟨_, _, rfl, run_takeDeferred hK2, ?_⟩⟩
    have c5 : ((W.setCell ⟨w.heap.size + 1 + 1, 0, none⟩ (.string (nthS ss m))).setCell ⟨w.heap.size + 1 + 1 + 1, 0, none⟩ .nilIface).cell? ⟨w.heap.size + 1 + 1, 0, none⟩ = some (.string (nthS ss m)) := by go_simp
    have c6 : ((W.setCell ⟨w.heap.size + 1 + 1, 0, none⟩ (.string (nthS ss m))).setCell ⟨w.heap.size + 1 + 1 + 1, 0, none⟩ .nilIface).cell? ⟨w.heap.size + 1 + 1 + 1, 0, none⟩ = some .nilIface := by go_simp
    have k5 := cell_kept c5 (grownBy_putObj' _ D (.deferred none)) (fun r e => by cases e; exact ⟨_, hK2, rfl⟩)
    have k6 := cell_kept c6 (grownBy_putObj' _ D (.deferred none)) (fun r e => by cases e; exact ⟨_, hK2, rfl⟩)
    refine ⟨.tuple #[.string (nthS ss m), .nilIface], ?_, by rw [HV.out], ?_⟩
    · simp [results, Tryd.f60, go_sem, k5, k6]
    · exact ((hB.setCell (p := ⟨w.heap.size + 1 + 1, 0, none⟩) (by show w.heap.size ≤ w.heap.size + 1 + 1; omega) _).setCell (p := ⟨w.heap.size + 1 + 1 + 1, 0, none⟩) (by show w.heap.size ≤ w.heap.size + 1 + 1 + 1; omega) _).trans (belowK_b (w := w) (Nat.le_refl _) _ D _ _ (by simp at hD; omega) hK2 rfl rfl)
  case stop =>
    rintro D cd pre W hD ⟨k, hk, rfl⟩ ⟨⟨rfl, ini, last, e1, e2, e3, hr0, hr1⟩, hB⟩ hK
    clear q0 q1 q2 q3 q4 q5 q6 hS0 hRQ HW0 A1
    gi_wp2
    refine ⟨by simp, .inl ⟨_, _, rfl, run_takeDeferred hK, ?_⟩⟩
    have k5 := cell_kept hr0 (grownBy_putObj' _ D (.deferred none)) (fun r e => by cases e; exact ⟨_, hK, rfl⟩)
    have k6 := cell_kept hr1 (grownBy_putObj' _ D (.deferred none)) (fun r e => by cases e; exact ⟨_, hK, rfl⟩)
    obtain ⟨k', rfl⟩ : ∃ k', k = k' + 1 := by
      cases k with
      | zero => simp [upto] at e1
      | succ k' => exact ⟨k', rfl⟩
    rw [upto_succ] at e1
    obtain ⟨rfl, e5⟩ := List.append_inj' e1 rfl
    obtain rfl : fromEnd ps k' = last := by simpa using e5
    have HV : readK ss ps m ps.length = (fromEnd ps k').2.2 := readK_hit (i := ps.length - 1 - k') e3 ps.length (by omega) (fun j h1 h2 => by
      have := e2 (fromEnd ps (ps.length - 1 - j)) (by simp only [upto, List.mem_map, List.mem_range]; exact ⟨_, by omega, rfl⟩)
      have e : ps.length - 1 - (ps.length - 1 - j) = j := by omega
      simpa [fromEnd, e] using this)
    refine ⟨.tuple #[.string (fromEnd ps k').2.2, .nilIface], ?_, by rw [HV], hB.trans (belowK_b (w := w) (Nat.le_refl _) W D _ _ (by simp at hD; omega) hK rfl rfl)⟩
    simp [results, Tryd.f60, go_sem, k5, k6]
end Go.Proofs.YtgfgaiimigchkaaDoor
