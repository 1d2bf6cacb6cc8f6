/- The closed facts of the row of IndexKey, one by one (stage 9). -/
import Derived.Test.YtepkdodicglilaaGreatDoorRows
import Derived.JoinedCond
namespace Go.Proofs.YtepkdodicglilaaGreatDoor
open Go

theorem indexKey_named : Tryz.pinned.checked.prog.funcNamed Rows.fnExactIndexKeyRow.func = some 5 := by kernel_rfl
set_option maxRecDepth 100000 in
set_option maxHeartbeats 40000000 in
theorem indexKey_closed : joinedFacts Tryz.pinned.checked.prog 5 Tryz.f5 (OpenSpec.ofChange Rows.fnExactIndexKeySpec).bare Rows.fnExactIndexKeyRow = true := by
  unfold joinedFacts
  repeat' (with_reducible refine Bool.and_eq_true_iff.2 ⟨?_, ?_⟩)
  all_goals (as_aux_lemma => kernel_rfl)
end Go.Proofs.YtepkdodicglilaaGreatDoor
