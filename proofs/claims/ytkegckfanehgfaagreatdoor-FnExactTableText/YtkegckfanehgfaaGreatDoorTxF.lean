/- The closed facts of the row of TableText, one by one (stage 9). -/
import Derived.Test.YtkegckfanehgfaaGreatDoorRows
import Derived.JoinedCond
namespace Go.Proofs.YtkegckfanehgfaaGreatDoor
open Go

theorem tableText_named : Tryz.pinned.checked.prog.funcNamed Rows.fnExactTableTextRow.func = some 3 := by kernel_rfl
set_option maxRecDepth 100000 in
set_option maxHeartbeats 40000000 in
theorem tableText_closed : joinedFacts Tryz.pinned.checked.prog 3 Tryz.f3 (OpenSpec.ofChange Rows.fnExactTableTextSpec).bare Rows.fnExactTableTextRow = true := by
  unfold joinedFacts
  repeat' (with_reducible refine Bool.and_eq_true_iff.2 ⟨?_, ?_⟩)
  all_goals (as_aux_lemma => kernel_rfl)
end Go.Proofs.YtkegckfanehgfaaGreatDoor
