/- For every value, FnExactValueText returns true: impl.ValueText answers as spec.ValueText does (the text and the code) and writes into no argument, the listed variables uint64pow10, deBruijn32tab, deBruijn64tab, utf8.first and utf8.acceptRanges holding what the library's own text lays in them; the argument reads as before. -/
import Derived.Test.YtiimegahhnjjkaaDoorVxG
namespace Go.Proofs.YtiimegahhnjjkaaDoor
open Go.ChangeShapes Go.WideShapes Go.ChangeAt Go.RowKit Go.Joins

theorem fnExactValueText_plain (f : FuncId) (fn : Func) (hf : Tryd.pinned.checked.prog.funcNamed "loop.example/g00208/laws.FnExactValueText" = some f) (hfn : Tryd.pinned.checked.prog.funcs[f]? = some fn) :
    true = Tryd.pinned.checked.prog.looks [] ∧ ∀ (j : Nat) t, fn.params[j]? = some t → Tryd.pinned.checked.prog.wantsStandIn t = false := by
  obtain rfl : f = 3 := Option.some.inj ((show Tryd.prog.funcNamed "loop.example/g00208/laws.FnExactValueText" = some 3 by kernel_rfl).symm.trans hf) |>.symm
  obtain rfl : fn = Tryd.f3 := (Option.some.inj (Tryd.func3.symm.trans hfn)).symm
  refine ⟨by kernel_rfl, fun j t ht => ?_⟩
  rw [Tryd.params3] at ht
  obtain rfl : t = 23 := by simpa using Array.mem_of_getElem? ht
  exact (show Tryd.prog.wantsStandIn 23 = false by kernel_rfl)

/-- The statement: the tied card. -/
theorem fnExactValueText_card : Rows.FnExactValueTextCardSaid :=
  Claim7.holds_tied_plain_at .later [] _ _ _ _ fnExactValueText_said (fun _ h => by cases h) (by as_aux_lemma => kernel_rfl) (fun _ h => by cases h) fnExactValueText_row_tie rfl ⟨rfl, rfl⟩ (by as_aux_lemma => kernel_rfl) rfl fnExactValueText_plain (by as_aux_lemma => kernel_rfl)
end Go.Proofs.YtiimegahhnjjkaaDoor
