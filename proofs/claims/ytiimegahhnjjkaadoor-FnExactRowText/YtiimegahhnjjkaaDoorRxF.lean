/- The closed facts of the row of RowText, one by one (stage 1). -/
import Derived.Test.YtiimegahhnjjkaaDoorRows
import Derived.JoinedCond
namespace Go.Proofs.YtiimegahhnjjkaaDoor
open Go

theorem rowText_named : Tryd.pinned.checked.prog.funcNamed Rows.fnExactRowTextRow.func = some 4 := by kernel_rfl
set_option maxRecDepth 100000 in
set_option maxHeartbeats 40000000 in
theorem rowText_closed : joinedFacts Tryd.pinned.checked.prog 4 Tryd.f4 (OpenSpec.ofChange Rows.fnExactRowTextSpec).bare Rows.fnExactRowTextRow = true := by
  unfold joinedFacts
  repeat' (with_reducible refine Bool.and_eq_true_iff.2 ⟨?_, ?_⟩)
  all_goals (as_aux_lemma => kernel_rfl)
end Go.Proofs.YtiimegahhnjjkaaDoor
