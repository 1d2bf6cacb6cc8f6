/- The closed facts of the row of WidenRow, one by one (stage 11). -/
import Derived.Test.YtffjnhhfplcloaaGreatDoorRows
import Derived.JoinedCond
namespace Go.Proofs.YtffjnhhfplcloaaGreatDoor
open Go

theorem widenRow_named : Tryz.pinned.checked.prog.funcNamed Rows.fnExactWidenRowRow.func = some 10 := by kernel_rfl
set_option maxRecDepth 100000 in
set_option maxHeartbeats 40000000 in
theorem widenRow_closed : joinedFacts Tryz.pinned.checked.prog 10 Tryz.f10 (OpenSpec.ofChange Rows.fnExactWidenRowSpec).bare Rows.fnExactWidenRowRow = true := by
  unfold joinedFacts
  repeat' (with_reducible refine Bool.and_eq_true_iff.2 ⟨?_, ?_⟩)
  all_goals (as_aux_lemma => kernel_rfl)
end Go.Proofs.YtffjnhhfplcloaaGreatDoor
