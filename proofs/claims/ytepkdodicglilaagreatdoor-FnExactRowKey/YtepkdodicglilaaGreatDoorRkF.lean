/- The closed facts of the row of RowKey, one by one (stage 9). -/
import Derived.Test.YtepkdodicglilaaGreatDoorRows
import Derived.JoinedCond
namespace Go.Proofs.YtepkdodicglilaaGreatDoor
open Go

theorem rowKey_named : Tryz.pinned.checked.prog.funcNamed Rows.fnExactRowKeyRow.func = some 4 := by kernel_rfl
set_option maxRecDepth 100000 in
set_option maxHeartbeats 40000000 in
theorem rowKey_closed : joinedFacts Tryz.pinned.checked.prog 4 Tryz.f4 (OpenSpec.ofChange Rows.fnExactRowKeySpec).bare Rows.fnExactRowKeyRow = true := by
  unfold joinedFacts
  repeat' (with_reducible refine Bool.and_eq_true_iff.2 ⟨?_, ?_⟩)
  all_goals (as_aux_lemma => kernel_rfl)
end Go.Proofs.YtepkdodicglilaaGreatDoor
