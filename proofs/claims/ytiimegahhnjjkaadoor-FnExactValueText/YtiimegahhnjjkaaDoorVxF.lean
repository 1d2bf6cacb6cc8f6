/- The closed facts of the row of ValueText, one by one (stage 1). -/
import Derived.Test.YtiimegahhnjjkaaDoorRows
import Derived.JoinedCond
namespace Go.Proofs.YtiimegahhnjjkaaDoor
open Go

theorem valueText_named : Tryd.pinned.checked.prog.funcNamed Rows.fnExactValueTextRow.func = some 3 := by kernel_rfl
set_option maxRecDepth 100000 in
set_option maxHeartbeats 40000000 in
theorem valueText_closed : joinedFacts Tryd.pinned.checked.prog 3 Tryd.f3 (OpenSpec.ofChange Rows.fnExactValueTextSpec).bare Rows.fnExactValueTextRow = true := by
  unfold joinedFacts
  repeat' (with_reducible refine Bool.and_eq_true_iff.2 ⟨?_, ?_⟩)
  all_goals (as_aux_lemma => kernel_rfl)
end Go.Proofs.YtiimegahhnjjkaaDoor
