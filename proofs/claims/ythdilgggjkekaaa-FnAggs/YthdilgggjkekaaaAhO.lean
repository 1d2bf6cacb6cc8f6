/- What the law FnAggs holds of each name: the answers of a list, of it turned, and the specification's are one (stage 12). -/
import Derived.Test.YthdilgggjkekaaaAhL
namespace Go.Proofs.Ythdilgggjkekaaa
open Go.RowKit

abbrev RX (X : V3) (W : World) : Ending → World → Prop := fun e w' => e = .returned (ansV (X, 0)) ∧ Below W.heap.size W w'
/-- All three calls by one name. -/
def Tri (g : ByteArray) (X : V3) (wr : World) (b6 c6 b7 c7 m : Nat) : Prop := ∀ W, Below wr.heap.size wr W →
  Calls Try.prog 5 #[.string g, .slice (some ⟨b6, 0, none⟩) m c6] W (RX X W) ∧ Calls Try.prog 5 #[.string g, .slice (some ⟨b7, 0, none⟩) m c7] W (RX X W) ∧ Calls Try.prog 6 #[.string g, .slice (some ⟨b6, 0, none⟩) m c6] W (RX X W)
theorem vals_rev_bd {os : List (Option Int)} (hv : ∀ x ∈ vals os, -1000000 ≤ x ∧ x ≤ 1000000) : ∀ x ∈ vals os.reverse, -1000000 ≤ x ∧ x ≤ 1000000 := fun x hx => hv x (by rw [vals_rev] at hx; simpa using hx)
theorem triCount {os : List (Option Int)} {wr : World} {b6 c6 b7 c7 m : Nat} (r6 : RowV wr (some ⟨b6, 0, none⟩) (os.map ov)) (r7 : RowV wr (some ⟨b7, 0, none⟩) (os.reverse.map ov)) (hl : os.length = m) (hm : m ≤ 7) (hv : ∀ x ∈ vals os, -1000000 ≤ x ∧ x ≤ 1000000) :
    ∃ X, Tri gCount X wr b6 c6 b7 c7 m := by
  refine ⟨((2, ((vals os).length : Int), noT) : V3), fun W hb => ⟨implAggCount os b6 0 c6 m W (r6.below hb) hl (by omega) hv, ?_, ?_⟩⟩
  · have := implAggCount os.reverse b7 0 c7 m W (r7.below hb) (by show _ = _; rw [List.length_reverse]; exact hl) (by omega) (vals_rev_bd hv)
    rw [vals_rev, List.length_reverse] at this
    exact this
  · have := specAggCount (((2, ((vals os).length : Int), noT) : V3)) os (some ⟨b6, 0, none⟩) c6 W (r6.below hb) (by omega) (fun w' hb' => l12AggCount os (some ⟨b6, 0, none⟩) c6 w' ((r6.below hb).below hb') (by omega) hv)
    rw [hl] at this
    exact this
theorem triSum {os : List (Option Int)} {wr : World} {b6 c6 b7 c7 m : Nat} (r6 : RowV wr (some ⟨b6, 0, none⟩) (os.map ov)) (r7 : RowV wr (some ⟨b7, 0, none⟩) (os.reverse.map ov)) (hl : os.length = m) (hm : m ≤ 7) (hv : ∀ x ∈ vals os, -1000000 ≤ x ∧ x ≤ 1000000) :
    ∃ X, Tri gSum X wr b6 c6 b7 c7 m := by
  refine ⟨ov (bestF sumF (vals os)), fun W hb => ⟨implAggSum os b6 0 c6 m W (r6.below hb) hl (by omega) hv, ?_, ?_⟩⟩
  · have := implAggSum os.reverse b7 0 c7 m W (r7.below hb) (by show _ = _; rw [List.length_reverse]; exact hl) (by omega) (vals_rev_bd hv)
    rw [vals_rev, bestF_rev sumF sumF_a sumF_c] at this
    exact this
  · have := specAggSum (ov (bestF sumF (vals os))) os (some ⟨b6, 0, none⟩) c6 W (r6.below hb) (by omega) (fun w' hb' => l12AggSum os (some ⟨b6, 0, none⟩) c6 w' ((r6.below hb).below hb') (by omega) hv)
    rw [hl] at this
    exact this
theorem triMin {os : List (Option Int)} {wr : World} {b6 c6 b7 c7 m : Nat} (r6 : RowV wr (some ⟨b6, 0, none⟩) (os.map ov)) (r7 : RowV wr (some ⟨b7, 0, none⟩) (os.reverse.map ov)) (hl : os.length = m) (hm : m ≤ 7) (hv : ∀ x ∈ vals os, -1000000 ≤ x ∧ x ≤ 1000000) :
    ∃ X, Tri gMin X wr b6 c6 b7 c7 m := by
  refine ⟨ov (bestF minF (vals os)), fun W hb => ⟨implAggMin os b6 0 c6 m W (r6.below hb) hl (by omega) hv, ?_, ?_⟩⟩
  · have := implAggMin os.reverse b7 0 c7 m W (r7.below hb) (by show _ = _; rw [List.length_reverse]; exact hl) (by omega) (vals_rev_bd hv)
    rw [vals_rev, bestF_rev minF minF_a minF_c] at this
    exact this
  · have := specAggMin (ov (bestF minF (vals os))) os (some ⟨b6, 0, none⟩) c6 W (r6.below hb) (by omega) (fun w' hb' => l12AggMin os (some ⟨b6, 0, none⟩) c6 w' ((r6.below hb).below hb') (by omega) hv)
    rw [hl] at this
    exact this
theorem triMax {os : List (Option Int)} {wr : World} {b6 c6 b7 c7 m : Nat} (r6 : RowV wr (some ⟨b6, 0, none⟩) (os.map ov)) (r7 : RowV wr (some ⟨b7, 0, none⟩) (os.reverse.map ov)) (hl : os.length = m) (hm : m ≤ 7) (hv : ∀ x ∈ vals os, -1000000 ≤ x ∧ x ≤ 1000000) :
    ∃ X, Tri gMax X wr b6 c6 b7 c7 m := by
  refine ⟨ov (bestF maxF (vals os)), fun W hb => ⟨implAggMax os b6 0 c6 m W (r6.below hb) hl (by omega) hv, ?_, ?_⟩⟩
  · have := implAggMax os.reverse b7 0 c7 m W (r7.below hb) (by show _ = _; rw [List.length_reverse]; exact hl) (by omega) (vals_rev_bd hv)
    rw [vals_rev, bestF_rev maxF maxF_a maxF_c] at this
    exact this
  · have := specAggMax (ov (bestF maxF (vals os))) os (some ⟨b6, 0, none⟩) c6 W (r6.below hb) (by omega) (fun w' hb' => l12AggMax os (some ⟨b6, 0, none⟩) c6 w' ((r6.below hb).below hb') (by omega) hv)
    rw [hl] at this
    exact this
/-- A part of a list. -/
theorem RowV.part {w : World} {b : Nat} {os : List (Option Int)} (h : RowV w (some ⟨b, 0, none⟩) (os.map ov)) (k : Nat) (hk : k ≤ os.length) : RowV w (some ⟨b, 0, none⟩) ((os.take k).map ov) ∧ RowV w (some ⟨b, k * 3, none⟩) ((os.drop k).map ov) := by
  refine ⟨fun i hi => ?_, fun i hi => ?_⟩
  · have hi' : i < k := by simp at hi; omega
    obtain ⟨b', off, e, hlt, hc, hs⟩ := h i (by simp; omega)
    have en : nthV ((os.take k).map ov) i = nthV (os.map ov) i := by
      unfold nthV
      rw [List.getD_eq_getElem?_getD, List.getD_eq_getElem?_getD, List.map_take, List.getElem?_take, if_pos hi']
    exact ⟨b', off, e, hlt, by rw [en]; exact hc, by rw [en]; exact hs⟩
  · have hi' : k + i < os.length := by simp at hi; omega
    obtain ⟨b', off, e, hlt, hc, hs⟩ := h (k + i) (by simp; omega)
    cases e
    have en : nthV ((os.drop k).map ov) i = nthV (os.map ov) (k + i) := by
      unfold nthV
      rw [List.getD_eq_getElem?_getD, List.getD_eq_getElem?_getD, List.map_drop, List.getElem?_drop]
    refine ⟨b, k * 3, rfl, hlt, ?_, by rw [en]; exact hs⟩
    rw [en]
    have e1 : k * 3 + i * 3 = 0 + (k + i) * 3 := by omega
    rw [e1]
    exact hc
end Go.Proofs.Ythdilgggjkekaaa
