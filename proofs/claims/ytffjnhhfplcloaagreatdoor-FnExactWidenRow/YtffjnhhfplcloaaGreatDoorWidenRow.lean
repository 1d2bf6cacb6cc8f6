/- For every table, row and value, FnExactWidenRow returns true: impl.WidenRow answers as spec.WidenRow does, writes into no argument and shares no memory with them, the listed variable errors.errorType holding what the library's own text lays in it; table, row and value read as before. -/
import Derived.Test.YtffjnhhfplcloaaGreatDoorWkG
namespace Go.Proofs.YtffjnhhfplcloaaGreatDoor
open Go.ChangeShapes Go.WideShapes Go.ChangeAt Go.RowKit Go.Joins

theorem fnExactWidenRow_plain (f : FuncId) (fn : Func) (hf : Tryz.pinned.checked.prog.funcNamed "loop.example/g00208/laws.FnExactWidenRow" = some f) (hfn : Tryz.pinned.checked.prog.funcs[f]? = some fn) :
    true = Tryz.pinned.checked.prog.looks [] ∧ ∀ (j : Nat) t, fn.params[j]? = some t → Tryz.pinned.checked.prog.wantsStandIn t = false := by
  obtain rfl : f = 10 := Option.some.inj ((show Tryz.prog.funcNamed "loop.example/g00208/laws.FnExactWidenRow" = some 10 by kernel_rfl).symm.trans hf) |>.symm
  obtain rfl : fn = Tryz.f10 := (Option.some.inj (Tryz.func10.symm.trans hfn)).symm
  refine ⟨by kernel_rfl, fun j t ht => ?_⟩
  rw [Tryz.params10] at ht
  have hm := Array.mem_of_getElem? ht
  simp at hm
  rcases hm with rfl | rfl | rfl
  · exact (show Tryz.prog.wantsStandIn 75 = false by kernel_rfl)
  · exact (show Tryz.prog.wantsStandIn 76 = false by kernel_rfl)
  · exact (show Tryz.prog.wantsStandIn 88 = false by kernel_rfl)

/-- The statement: the tied card. -/
theorem fnExactWidenRow_card : Rows.FnExactWidenRowCardSaid :=
  Claim7.holds_tied_plain_at .later [] _ _ _ _ fnExactWidenRow_said (fun _ h => by cases h) (by as_aux_lemma => kernel_rfl) (fun _ h => by cases h) fnExactWidenRow_row_tie rfl ⟨rfl, rfl⟩ (by as_aux_lemma => kernel_rfl) rfl fnExactWidenRow_plain (by as_aux_lemma => kernel_rfl)
end Go.Proofs.YtffjnhhfplcloaaGreatDoor
