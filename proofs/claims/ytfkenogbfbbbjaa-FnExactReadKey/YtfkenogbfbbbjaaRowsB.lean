/- Slices of values: equality, rightness and order, on spec's side and in the laws' helpers. -/
import Derived.Test.YtfkenogbfbbbjaaRowsA
namespace Go.Proofs.Ytfkenogbfbbbjaa
open Go.RowKit

theorem eqValue_same (k n : Int) (t : ByteArray) (w : World) :
    Calls Try.prog 47 #[VV k n t, VV k n t] w fun e w' => e = .returned (.bool true) ∧ Below w.heap.size w w' := by
  go_enter Try.func47, Try.ntmps47
  go_wp2
  go_ret
  exact ⟨rfl, ((Below.refl _ _).alloc (Nat.le_refl _) _).alloc (by simp) _⟩

/-- Two values in two rows; what lay in w lies there still. -/
abbrev Pair (w : World) (b1 o1 : Nat) (v1 : V3) (b2 o2 : Nat) (v2 : V3) (w' : World) : Prop :=
  CellV w' b1 o1 v1 ∧ CellV w' b2 o2 v2 ∧ b1 < w'.heap.size ∧ b2 < w'.heap.size ∧ Below w.heap.size w w'
theorem CellV.below {w w' : World} {b o : Nat} {v : V3} (h : CellV w b o v) (hlt : b < w.heap.size) (hb : Below w.heap.size w w') : CellV w' b o v :=
  ⟨(hb.cell (p := ⟨b, o, none⟩) hlt).trans h.1, (hb.cell (p := ⟨b, o + 1, none⟩) hlt).trans h.2.1, (hb.cell (p := ⟨b, o + 2, none⟩) hlt).trans h.2.2⟩
theorem Pair.keep {w : World} {b1 o1 : Nat} {v1 : V3} {b2 o2 : Nat} {v2 : V3} {w1 w2 : World} (h : Pair w b1 o1 v1 b2 o2 v2 w1) (hb : Below w1.heap.size w1 w2) : Pair w b1 o1 v1 b2 o2 v2 w2 :=
  ⟨h.1.below h.2.2.1 hb, h.2.1.below h.2.2.2.1 hb, Nat.lt_of_lt_of_le h.2.2.1 hb.size, Nat.lt_of_lt_of_le h.2.2.2.1 hb.size, below_step h.2.2.2.2 (Nat.le_refl _) hb⟩

set_option maxHeartbeats 1000000 in
theorem eqS_same (a1 a2 : Option Addr) (c1 c2 : Nat) (vs : List V3) (w : World) (h1 : RowV w a1 vs) (h2 : RowV w a2 vs) (hlen : vs.length ≤ 1048576) :
    Calls Try.prog 33 #[.slice a1 vs.length c1, .slice a2 vs.length c2] w fun e w' => e = .returned (.bool true) ∧ Below w.heap.size w w' := by
  have H1 : Hid (RowV w a1 vs) := h1
  have H2 : Hid (RowV w a2 vs) := h2
  clear h1 h2
  generalize hL : vs.length = len at *
  have HL : Hid (vs.length = len) := hL
  clear hL
  go_enter Try.func33, Try.ntmps33
  go_wp2
  go_loopw [5] (fun i wr => ∃ k : Nat, k ≤ len ∧ i = .int .i64 k ∧ Below w.heap.size w wr) (fun i _ => len - (intOf i).toNat)
  case atStart => exact ⟨0, by omega, rfl, Below.refl _ _⟩
  case round =>
    obtain ⟨k, hk, rfl, hbl⟩ := hrel
    by_cases hlt : k < len
    · obtain ⟨b1, o1, rfl, hlb1, hc1, hsz⟩ := (H1.out.below hbl) k (by rw [HL.out]; exact hlt)
      obtain ⟨b2, o2, rfl, hlb2, hc2, _⟩ := (H2.out.below hbl) k (by rw [HL.out]; exact hlt)
      generalize nthV vs k = v at *
      obtain ⟨x, y, t⟩ := v
      have hP : Pair w b1 (o1 + k * 3) (x, y, t) b2 (o2 + k * 3) (x, y, t) wr.drew := ⟨hc1, hc2, hlb1, hlb2, hbl.drew⟩
      have hltI : (k : Int) < (len : Int) := by omega
      clear hc1 hc2
      go_wp2_with fail
      go_region_held3 (Pair w b1 (o1 + k * 3) (x, y, t) b2 (o2 + k * 3) (x, y, t)) (first | exact hP | exact Pair.keep (by assumption) hb) (first | (go_at_call 47; refine (eqValue_same _ _ _ _).mono ?_; rintro e wA ⟨rfl, hb⟩))
      rename_i hPL
      have hB := hPL.2.2.2.2
      clear hP hPL
      go_wp2
      go_roundw
      case rel => exact ⟨k + 1, by omega, by go_num, hB⟩
      case measure => simp [intOf]; omega
    · go_wp2
      go_ret
      exact ⟨rfl, hbl⟩

def okV3 (v : V3) : Bool := okV v.1 v.2.1 v.2.2
/-- A right row. -/
def okRow (vs : List V3) : Bool := decide (vs.length ≤ 8) && vs.all okV3
theorem okRow_long {vs : List V3} (h : 8 < vs.length) : okRow vs = false := by
  unfold okRow; have : decide (vs.length ≤ 8) = false := by simp; omega
  rw [this]; rfl
theorem okRow_bad {vs : List V3} {k : Nat} (hk : k < vs.length) (h : okV3 (nthV vs k) = false) : okRow vs = false := by
  unfold okRow
  have : vs.all okV3 = false := by
    rw [List.all_eq_false]
    refine ⟨vs[k], List.getElem_mem hk, ?_⟩
    unfold nthV at h
    rw [List.getD_eq_getElem?_getD, List.getElem?_eq_getElem hk] at h
    simpa using h
  rw [this]; simp
theorem okRow_good {vs : List V3} (h8 : vs.length ≤ 8) (h : ∀ j, j < vs.length → okV3 (nthV vs j) = true) : okRow vs = true := by
  unfold okRow
  simp only [Bool.and_eq_true, decide_eq_true_eq, List.all_eq_true]
  refine ⟨h8, fun x hx => ?_⟩
  obtain ⟨i, hi, rfl⟩ := List.getElem_of_mem hx
  have := h i hi
  unfold nthV at this
  rwa [List.getD_eq_getElem?_getD, List.getElem?_eq_getElem hi] at this
theorem all_step' {P : Nat → Prop} {k : Nat} (h : ∀ j, j < k → P j) (hk : P k) : ∀ j, j < k + 1 → P j := fun j hj => by
  by_cases e : j = k
  · rw [e]; exact hk
  · exact h j (by omega)

set_option maxHeartbeats 1000000 in
theorem l01Row_any (a : Option Addr) (cap : Nat) (vs : List V3) (w : World) (hrow : RowV w a vs) (hlen : vs.length ≤ 1048576) :
    Calls Try.prog 57 #[.slice a vs.length cap] w fun e w' => e = .returned (.bool (okRow vs)) ∧ Below w.heap.size w w' := by
  have H1 : Hid (RowV w a vs) := hrow
  clear hrow
  generalize hL : vs.length = len at *
  have HL : Hid (vs.length = len) := hL
  clear hL
  by_cases h8 : 8 < len
  · have HR : Hid (okRow vs = false) := okRow_long (by rw [HL.out]; exact h8)
    go_enter Try.func57, Try.ntmps57
    go_wp2
    go_ret
    exact ⟨ret_bool' HR.out.symm, Below.refl _ _⟩
  go_enter Try.func57, Try.ntmps57
  go_wp2
  go_loopw [3] (fun i wr => ∃ k : Nat, k ≤ len ∧ i = .int .i64 k ∧ Hid (∀ j, j < k → okV3 (nthV vs j) = true) ∧ Below w.heap.size w wr) (fun i _ => len - (intOf i).toNat)
  case atStart => exact ⟨0, by omega, rfl, fun j hj => by omega, Below.refl _ _⟩
  case round =>
    obtain ⟨k, hk, rfl, HA, hbl⟩ := hrel
    by_cases hlt : k < len
    · obtain ⟨b, off, rfl, hlb, ⟨hc0, hc1, hc2⟩, hsz⟩ := (H1.out.below hbl) k (by rw [HL.out]; exact hlt)
      have hltI : (k : Int) < (len : Int) := by omega
      by_cases hok : okV (nthV vs k).1 (nthV vs k).2.1 (nthV vs k).2.2 = true
      · have HK : Hid (okV3 (nthV vs k) = true) := hok
        go_wp2_with fail
        refine (specValueOK_any _ _ _ _).mono ?_
        rintro e w1 ⟨rfl, hb1⟩
        have hB := below_step hbl (Nat.le_refl _) hb1
        clear hc0 hc1 hc2 hb1
        go_wp2
        go_roundw
        case rel => exact ⟨k + 1, by omega, by go_num, all_step' HA.out HK.out, hB⟩
        case measure => simp [intOf]; omega
      · have hok' : okV (nthV vs k).1 (nthV vs k).2.1 (nthV vs k).2.2 = false := by simpa using hok
        have HR : Hid (okRow vs = false) := okRow_bad (by rw [HL.out]; exact hlt) hok'
        clear hok
        go_wp2_with fail
        refine (specValueOK_any _ _ _ _).mono ?_
        rintro e w1 ⟨rfl, hb1⟩
        have hB := below_step hbl (Nat.le_refl _) hb1
        clear hc0 hc1 hc2 hb1
        go_wp2
        go_ret
        exact ⟨ret_bool' HR.out.symm, hB⟩
    · have HR : Hid (okRow vs = true) := okRow_good (by rw [HL.out]; omega) (fun j hj => HA.out j (by have := HL.out; omega))
      go_wp2
      go_ret
      exact ⟨ret_bool' HR.out.symm, hbl⟩
end Go.Proofs.Ytfkenogbfbbbjaa
