/- For every list of tables and tree, FnExactScopeOf returns true: impl.ScopeOf answers as spec.ScopeOf does, writes into no argument and keeps nothing of one, its answer owns its memory, the listed variable errors.errorType holding what the library's own text lays in it; both arguments read as before. -/
import Derived.Test.YteejkmcljokloaaGreatDoorSxG
namespace Go.Proofs.YteejkmcljokloaaGreatDoor
open Go.ChangeShapes Go.WideShapes Go.ChangeAt Go.RowKit Go.Joins

theorem fnExactScopeOf_plain (f : FuncId) (fn : Func) (hf : Tryz.pinned.checked.prog.funcNamed "loop.example/g00208/laws.FnExactScopeOf" = some f) (hfn : Tryz.pinned.checked.prog.funcs[f]? = some fn) :
    true = Tryz.pinned.checked.prog.looks [] ∧ ∀ (j : Nat) t, fn.params[j]? = some t → Tryz.pinned.checked.prog.wantsStandIn t = false := by
  obtain rfl : f = 3 := Option.some.inj ((show Tryz.prog.funcNamed "loop.example/g00208/laws.FnExactScopeOf" = some 3 by kernel_rfl).symm.trans hf) |>.symm
  obtain rfl : fn = Tryz.f3 := (Option.some.inj (Tryz.func3.symm.trans hfn)).symm
  refine ⟨by kernel_rfl, fun j t ht => ?_⟩
  rw [Tryz.params3] at ht
  have hm := Array.mem_of_getElem? ht
  simp at hm
  rcases hm with rfl | rfl
  · exact (show Tryz.prog.wantsStandIn 22 = false by kernel_rfl)
  · exact (show Tryz.prog.wantsStandIn 27 = false by kernel_rfl)

/-- The statement: the tied card. -/
theorem fnExactScopeOf_card : Rows.FnExactScopeOfCardSaid :=
  Claim7.holds_tied_plain_at .later [] _ _ _ _ fnExactScopeOf_said (fun _ h => by cases h) (by as_aux_lemma => kernel_rfl) (fun _ h => by cases h) fnExactScopeOf_row_tie rfl ⟨rfl, rfl⟩ (by as_aux_lemma => kernel_rfl) rfl fnExactScopeOf_plain (by as_aux_lemma => kernel_rfl)
end Go.Proofs.YteejkmcljokloaaGreatDoor
