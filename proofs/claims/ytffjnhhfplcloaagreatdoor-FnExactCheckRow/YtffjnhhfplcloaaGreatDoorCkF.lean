/- The closed facts of the row of CheckRow, one by one (stage 11). -/
import Derived.Test.YtffjnhhfplcloaaGreatDoorRows
import Derived.JoinedCond
namespace Go.Proofs.YtffjnhhfplcloaaGreatDoor
open Go

theorem checkRow_named : Tryz.pinned.checked.prog.funcNamed Rows.fnExactCheckRowRow.func = some 6 := by kernel_rfl
set_option maxRecDepth 100000 in
set_option maxHeartbeats 40000000 in
theorem checkRow_closed : joinedFacts Tryz.pinned.checked.prog 6 Tryz.f6 (OpenSpec.ofChange Rows.fnExactCheckRowSpec).bare Rows.fnExactCheckRowRow = true := by
  unfold joinedFacts
  repeat' (with_reducible refine Bool.and_eq_true_iff.2 ⟨?_, ?_⟩)
  all_goals (as_aux_lemma => kernel_rfl)
end Go.Proofs.YtffjnhhfplcloaaGreatDoor
