/- The closed facts of the row of ScopeOf, one by one (stage 16). -/
import Derived.Test.YteejkmcljokloaaGreatDoorRows
import Derived.JoinedCond
namespace Go.Proofs.YteejkmcljokloaaGreatDoor
open Go

theorem scopeOf_named : Tryz.pinned.checked.prog.funcNamed Rows.fnExactScopeOfRow.func = some 3 := by kernel_rfl
set_option maxRecDepth 100000 in
set_option maxHeartbeats 40000000 in
theorem scopeOf_closed : joinedFacts Tryz.pinned.checked.prog 3 Tryz.f3 (OpenSpec.ofChange Rows.fnExactScopeOfSpec).bare Rows.fnExactScopeOfRow = true := by
  unfold joinedFacts
  repeat' (with_reducible refine Bool.and_eq_true_iff.2 ⟨?_, ?_⟩)
  all_goals (as_aux_lemma => kernel_rfl)
end Go.Proofs.YteejkmcljokloaaGreatDoor
