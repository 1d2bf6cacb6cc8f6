/- Marks on an answer's own row, and what is held of them (stage 11). -/
import Derived.Test.YtffjnhhfplcloaaGreatDoorWdD
namespace Go.Proofs.YtffjnhhfplcloaaGreatDoor
open Go.RowKit

/-- The answer's n values are marked from 1 on, if it has any. -/
def HeldQ (ia : Option Addr) (n : Nat) (w : World) : Prop := n = 0 ∨ ∃ g N, ia = some ⟨g, 0, none⟩ ∧ n ≤ N ∧ MkV w g N 1 n
theorem HeldQ.below {ia : Option Addr} {n : Nat} {w w' : World} (h : HeldQ ia n w) (hb : Below w.heap.size w w') : HeldQ ia n w' := by
  rcases h with h | ⟨g, N, e, hn, hM⟩
  · exact .inl h
  · exact .inr ⟨g, N, e, hn, hM.below hb⟩
set_option maxRecDepth 100000 in
theorem markO_any (ia : Option Addr) (ic B : Nat) (l : List V3) (w : World) (h : OwnV w B (.slice ia l.length ic) l) (hl : l.length ≤ 9) :
    Calls Tryz.prog 44 #[.slice ia l.length ic, .int .i64 1] w fun r w' => r = .returned (.int .i64 (1 + 3 * l.length)) ∧ HeldQ ia l.length w' ∧ Kept (fun j => B ≤ j) w w' := by
  obtain ⟨_, ⟨e, h0⟩ | ⟨g, cap, cur, e, hg, hh, hc, _, hs, _⟩⟩ := h
  · rw [h0]
    refine (markV_nil ia ic 1 w).mono ?_
    rintro r w' ⟨rfl, rfl⟩
    exact ⟨by simp, .inl rfl, Kept.refl _ _⟩
  · cases e
    refine (markV_any g l.length ic ic 1 0 w ⟨cur, hh, hs, fun i hi => by omega⟩ hc (by omega) (by omega) (by omega)).mono ?_
    rintro r w' ⟨rfl, hM, hK⟩
    exact ⟨rfl, .inr ⟨g, ic, rfl, hc, hM⟩, hK.mono (fun x hx => by subst hx; exact hg)⟩
set_option maxRecDepth 100000 in
theorem heldO_any (ia : Option Addr) (ic n : Nat) (w : World) (h : HeldQ ia n w) (hl : n ≤ 9) :
    Calls Tryz.prog 51 #[.slice ia n ic, .int .i64 1] w fun r w' => r = .returned (.int .i64 (1 + 3 * n)) ∧ Below w.heap.size w w' := by
  rcases h with rfl | ⟨g, N, rfl, hn, hM⟩
  · refine (heldV_nil ia ic 1 w).mono ?_
    rintro r w' ⟨rfl, rfl⟩
    exact ⟨by simp, Below.refl _ _⟩
  · exact heldV_any g n ic N 1 w hM hn (by omega) (by omega) (by omega)
theorem wCode_zero {tb : Bool} {cs : List TC} {vs : List V3} {v : V3} (h : wCode tb cs vs v = 0) : vs.length ≤ 8 := by
  unfold wCode at h
  by_cases hq : (crow tb cs vs).1 = 0
  · exact okRow_len (crow_zero hq).2.1
  · rw [if_pos hq] at h
    exact absurd h hq
theorem wRow_small {tb : Bool} {cs : List TC} {vs : List V3} {k n : Int} {t : ByteArray} (h : ∀ i, i < vs.length → (nthV vs i).2.2.size ≤ maxLen) (ht : t.size ≤ maxLen) : (∀ i, i < (wRow tb cs vs (k, n, t)).length → (nthV (wRow tb cs vs (k, n, t)) i).2.2.size ≤ maxLen) ∧ (wRow tb cs vs (k, n, t)).length ≤ 9 := by
  unfold wRow
  split
  · rename_i hw
    have h8 := wCode_zero hw
    refine ⟨fun i hi => ?_, by simp; omega⟩
    rw [List.length_append, List.length_singleton] at hi
    by_cases e : i < vs.length
    · have : nthV (vs ++ [(k, n, t)]) i = nthV vs i := by unfold nthV; rw [List.getD_eq_getElem?_getD, List.getD_eq_getElem?_getD, List.getElem?_append_left e]
      rw [this]; exact h i e
    · obtain rfl : i = vs.length := by omega
      have : nthV (vs ++ [(k, n, t)]) vs.length = (k, n, t) := by unfold nthV; rw [List.getD_eq_getElem?_getD, List.getElem?_append_right (by omega)]; simp
      rw [this]; exact ht
  · exact ⟨fun i hi => by simp at hi, by simp⟩
end Go.Proofs.YtffjnhhfplcloaaGreatDoor
