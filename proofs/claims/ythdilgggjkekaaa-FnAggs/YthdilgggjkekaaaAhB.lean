/- slices.DeleteFunc by what is null, over a row of ints and null (towards FnAggs, stage 12). -/
import Derived.Test.YthdilgggjkekaaaAhA
namespace Go.Proofs.Ythdilgggjkekaaa
open Go.RowKit

theorem ovs_at (os : List (Option Int)) (i : Nat) (h : i < os.length) : nthV (os.map ov) i = ov os[i] := nth_ov os i h
/-- What stands in the block when the first j have been looked at, and i kept. -/
def Kept (os : List (Option Int)) (us : List V3) (i j : Nat) : Prop :=
  us.length = os.length ∧ i = (vals (os.take j)).length ∧ i ≤ j ∧ (∀ k, k < i → nthV us k = iv ((vals (os.take j)).getD k 0)) ∧ ∀ k, j ≤ k → k < os.length → nthV us k = nthV (os.map ov) k
theorem Kept.null {os : List (Option Int)} {us : List V3} {i j : Nat} (h : Kept os us i j) (hj : j < os.length) (h0 : os[j] = none) : Kept os us i (j + 1) := by
  obtain ⟨h1, h2, h3, h4, h5⟩ := h
  have e : vals (os.take (j + 1)) = vals (os.take j) := by rw [vals_take os j hj, h0]; simp
  exact ⟨h1, by rw [e]; exact h2, by omega, by rw [e]; exact h4, fun k hk hl => h5 k (by omega) hl⟩
theorem Kept.some {os : List (Option Int)} {us : List V3} {i j : Nat} (h : Kept os us i j) (hj : j < os.length) {x : Int} (h0 : os[j] = some x) : Kept os (us.set i (iv x)) (i + 1) (j + 1) := by
  obtain ⟨h1, h2, h3, h4, h5⟩ := h
  have e : vals (os.take (j + 1)) = vals (os.take j) ++ [x] := by rw [vals_take os j hj, h0]
  refine ⟨by rw [List.length_set]; exact h1, by rw [e, List.length_append]; simp; exact h2, by omega, fun k hk => ?_, fun k hk hl => ?_⟩
  · rw [nthV_set us i k _ (by omega), e]
    by_cases hki : k = i
    · rw [if_pos hki, hki, h2]
      simp
    · rw [if_neg hki, h4 k (by omega)]
      rw [List.getD_eq_getElem?_getD, List.getD_eq_getElem?_getD, List.getElem?_append_left (by omega)]
  · rw [nthV_set us i k _ (by omega), if_neg (by omega)]
    exact h5 k (by omega) hl

/-- The first n of the values in a block. -/
theorem BlkO.row {w : World} {g cap : Nat} {us : List V3} (h : BlkO w g cap us) (xs : List Int) (hl : xs.length ≤ us.length) (hx : ∀ k, k < xs.length → nthV us k = iv (xs.getD k 0)) : RowV w (some ⟨g, 0, none⟩) (xs.map iv) := fun i hi => by
  have hi' : i < xs.length := by simpa using hi
  obtain ⟨a, b, c⟩ := h.cells (i := i) (by omega)
  have e : nthV (xs.map iv) i = nthV us i := by
    rw [hx i hi', nth_iv xs i hi']
    unfold iv
    rw [List.getD_eq_getElem?_getD, List.getElem?_eq_getElem hi']
    rfl
  refine ⟨g, 0, rfl, h.lt, ?_, ?_⟩
  · rw [e]
    simp only [Nat.zero_add]
    exact ⟨a, b, c⟩
  · rw [e, hx i hi']
    show (noT : ByteArray).size ≤ maxLen
    decide
end Go.Proofs.Ythdilgggjkekaaa
