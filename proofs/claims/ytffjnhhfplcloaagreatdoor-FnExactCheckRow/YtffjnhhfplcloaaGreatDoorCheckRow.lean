/- For every table and row, FnExactCheckRow returns true: impl.CheckRow answers as spec.CheckRow does (the code and the column at fault) and writes into no argument, the listed variable errors.errorType holding what the library's own text lays in it; table and row read as before. -/
import Derived.Test.YtffjnhhfplcloaaGreatDoorCkG
namespace Go.Proofs.YtffjnhhfplcloaaGreatDoor
open Go.ChangeShapes Go.WideShapes Go.ChangeAt Go.RowKit Go.Joins

theorem fnExactCheckRow_plain (f : FuncId) (fn : Func) (hf : Tryz.pinned.checked.prog.funcNamed "loop.example/g00208/laws.FnExactCheckRow" = some f) (hfn : Tryz.pinned.checked.prog.funcs[f]? = some fn) :
    true = Tryz.pinned.checked.prog.looks [] ∧ ∀ (j : Nat) t, fn.params[j]? = some t → Tryz.pinned.checked.prog.wantsStandIn t = false := by
  obtain rfl : f = 6 := Option.some.inj ((show Tryz.prog.funcNamed "loop.example/g00208/laws.FnExactCheckRow" = some 6 by kernel_rfl).symm.trans hf) |>.symm
  obtain rfl : fn = Tryz.f6 := (Option.some.inj (Tryz.func6.symm.trans hfn)).symm
  refine ⟨by kernel_rfl, fun j t ht => ?_⟩
  rw [Tryz.params6] at ht
  have hm := Array.mem_of_getElem? ht
  simp at hm
  rcases hm with rfl | rfl
  · exact (show Tryz.prog.wantsStandIn 75 = false by kernel_rfl)
  · exact (show Tryz.prog.wantsStandIn 76 = false by kernel_rfl)

/-- The statement: the tied card. -/
theorem fnExactCheckRow_card : Rows.FnExactCheckRowCardSaid :=
  Claim7.holds_tied_plain_at .later [] _ _ _ _ fnExactCheckRow_said (fun _ h => by cases h) (by as_aux_lemma => kernel_rfl) (fun _ h => by cases h) fnExactCheckRow_row_tie rfl ⟨rfl, rfl⟩ (by as_aux_lemma => kernel_rfl) rfl fnExactCheckRow_plain (by as_aux_lemma => kernel_rfl)
end Go.Proofs.YtffjnhhfplcloaaGreatDoor
