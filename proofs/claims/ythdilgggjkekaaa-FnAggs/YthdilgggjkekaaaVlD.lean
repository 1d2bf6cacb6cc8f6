/- Rows of values, opened (stage 13). -/
import Derived.Test.YthdilgggjkekaaaVlB
import Derived.Deep.Slices
import Derived.Deep.Strs
namespace Go.Proofs.Ythdilgggjkekaaa.R
open Go.ChangeShapes Go.WideShapes Go.ChangeAt Go.RowKit Go.Joins

theorem exists_list {P : Nat → V3 → Prop} : ∀ n, (∀ i, i < n → ∃ v, P i v) → ∃ vs : List V3, vs.length = n ∧ ∀ i, i < n → P i (nthV vs i)
  | 0, _ => ⟨[], rfl, fun i hi => by omega⟩
  | n + 1, h => by
    obtain ⟨vs, hl, hv⟩ := exists_list n (fun i hi => h i (by omega))
    obtain ⟨v, hp⟩ := h n (by omega)
    refine ⟨vs ++ [v], by simp [hl], fun i hi => ?_⟩
    by_cases e : i = n
    · subst e
      have : nthV (vs ++ [v]) i = v := by unfold nthV; simp [List.getD_eq_getElem?_getD, hl]
      rw [this]; exact hp
    · have : nthV (vs ++ [v]) i = nthV vs i := by unfold nthV; rw [List.getD_eq_getElem?_getD, List.getD_eq_getElem?_getD, List.getElem?_append_left (by omega)]
      rw [this]; exact hv i (by omega)

theorem SlabK.row {w : World} {g : Nat} {vs : List V3} (h : SlabK w g vs.length vs vs.length) (hs : ∀ i, i < vs.length → (nthV vs i).2.2.size ≤ maxLen) : RowV w (some ⟨g, 0, none⟩) vs := fun i hi => by
  have hl := h.lt
  obtain ⟨cur, hh, _, hc⟩ := h
  have := hc i hi
  refine ⟨g, 0, rfl, hl, ⟨?_, ?_, ?_⟩, hs i hi⟩
  · rw [slab_cell hh, Nat.zero_add]; exact this.1
  · rw [slab_cell hh, Nat.zero_add]; exact this.2.1
  · rw [slab_cell hh, Nat.zero_add]; exact this.2.2
theorem RowV.size {w : World} {a : Option Addr} {vs : List V3} (h : RowV w a vs) : ∀ i, i < vs.length → (nthV vs i).2.2.size ≤ maxLen := fun i hi => by
  obtain ⟨_, _, _, _, _, hs⟩ := h i hi
  exact hs

end Go.Proofs.Ythdilgggjkekaaa.R
