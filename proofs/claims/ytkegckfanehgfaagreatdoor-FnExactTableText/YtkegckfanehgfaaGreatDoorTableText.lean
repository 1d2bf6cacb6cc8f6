/- For every table, FnExactTableText returns true: impl.TableText answers as spec.TableText does (the text and the code) and writes into no argument, the listed variables typeWords, uint64pow10, deBruijn32tab and deBruijn64tab holding what the program's and the library's own text lays in them; table and variable read as before. -/
import Derived.Test.YtkegckfanehgfaaGreatDoorTxG
namespace Go.Proofs.YtkegckfanehgfaaGreatDoor
open Go.ChangeShapes Go.WideShapes Go.ChangeAt Go.RowKit Go.Joins

theorem fnExactTableText_plain (f : FuncId) (fn : Func) (hf : Tryz.pinned.checked.prog.funcNamed "loop.example/g00208/laws.FnExactTableText" = some f) (hfn : Tryz.pinned.checked.prog.funcs[f]? = some fn) :
    false = Tryz.pinned.checked.prog.looks [] ∧ ∀ (j : Nat) t, fn.params[j]? = some t → Tryz.pinned.checked.prog.wantsStandIn t = false := by
  obtain rfl : f = 3 := Option.some.inj ((show Tryz.prog.funcNamed "loop.example/g00208/laws.FnExactTableText" = some 3 by kernel_rfl).symm.trans hf) |>.symm
  obtain rfl : fn = Tryz.f3 := (Option.some.inj (Tryz.func3.symm.trans hfn)).symm
  refine ⟨by kernel_rfl, fun j t ht => ?_⟩
  rw [Tryz.params3] at ht
  obtain rfl : t = 25 := by simpa using Array.mem_of_getElem? ht
  exact (show Tryz.prog.wantsStandIn 25 = false by kernel_rfl)

/-- The statement: the tied card. -/
theorem fnExactTableText_card : Rows.FnExactTableTextCardSaid :=
  Claim7.holds_tied_plain_at .later [] _ _ _ _ fnExactTableText_said (fun _ h => by cases h) (by as_aux_lemma => kernel_rfl) (fun _ h => by cases h) fnExactTableText_row_tie rfl ⟨rfl, rfl⟩ (by as_aux_lemma => kernel_rfl) rfl fnExactTableText_plain (by as_aux_lemma => kernel_rfl)
end Go.Proofs.YtkegckfanehgfaaGreatDoor
