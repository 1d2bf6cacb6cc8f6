/- For every table, number and row, FnExactIndexKey returns true: impl.IndexKey answers as spec.IndexKey does, writes into no argument and keeps nothing of one, its answer owns its memory, the listed variable errors.errorType holding what the library's own text lays in it; table and row read as before. -/
import Derived.Test.YtepkdodicglilaaGreatDoorIkG
namespace Go.Proofs.YtepkdodicglilaaGreatDoor
open Go.ChangeShapes Go.WideShapes Go.ChangeAt Go.RowKit Go.Joins

theorem fnExactIndexKey_plain (f : FuncId) (fn : Func) (hf : Tryz.pinned.checked.prog.funcNamed "loop.example/g00208/laws.FnExactIndexKey" = some f) (hfn : Tryz.pinned.checked.prog.funcs[f]? = some fn) :
    true = Tryz.pinned.checked.prog.looks [] ∧ ∀ (j : Nat) t, fn.params[j]? = some t → Tryz.pinned.checked.prog.wantsStandIn t = false := by
  obtain rfl : f = 5 := Option.some.inj ((show Tryz.prog.funcNamed "loop.example/g00208/laws.FnExactIndexKey" = some 5 by kernel_rfl).symm.trans hf) |>.symm
  obtain rfl : fn = Tryz.f5 := (Option.some.inj (Tryz.func5.symm.trans hfn)).symm
  refine ⟨by kernel_rfl, fun j t ht => ?_⟩
  rw [Tryz.params5] at ht
  have hm := Array.mem_of_getElem? ht
  simp at hm
  rcases hm with rfl | rfl | rfl
  · exact (show Tryz.prog.wantsStandIn 25 = false by kernel_rfl)
  · exact (show Tryz.prog.wantsStandIn 3 = false by kernel_rfl)
  · exact (show Tryz.prog.wantsStandIn 26 = false by kernel_rfl)

/-- The statement: the tied card. -/
theorem fnExactIndexKey_card : Rows.FnExactIndexKeyCardSaid :=
  Claim7.holds_tied_plain_at .later [] _ _ _ _ fnExactIndexKey_said (fun _ h => by cases h) (by as_aux_lemma => kernel_rfl) (fun _ h => by cases h) fnExactIndexKey_row_tie rfl ⟨rfl, rfl⟩ (by as_aux_lemma => kernel_rfl) rfl fnExactIndexKey_plain (by as_aux_lemma => kernel_rfl)
end Go.Proofs.YtepkdodicglilaaGreatDoor
