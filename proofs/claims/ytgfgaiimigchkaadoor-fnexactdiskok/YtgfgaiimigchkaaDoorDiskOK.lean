/- For every disk, FnExactDiskOK returns true: impl.DiskOK answers as spec.DiskOK does and writes into no argument, the variables errNoSector and errSectorSize holding what the program's own text lays in them; the disk reads as before. -/
import Derived.Test.YtgfgaiimigchkaaDoorDiskH
import Derived.Test.YtgfgaiimigchkaaDoorLaid
import Derived.Test.YtgfgaiimigchkaaDoorCards
import Derived.Test.YtgfgaiimigchkaaDoorTie
namespace Go.Proofs.YtgfgaiimigchkaaDoor
open Go.ChangeShapes Go.WideShapes Go.ChangeAt Go.RowKit Go.Joins

theorem laid_ok (os : Os) (args : Array Value) : laidMet Tryd.prog Rows.fnExactDiskOKRow.laid ((laidWorld os).forCall (fun _ _ => 0) ⟨#[], args, []⟩).memory :=
  laidMet_of_run (ps := [.cell 1 0, .cell (low + 1) 0, .cell 0 0, .cell low 0]) 8 (by kernel_rfl) (by kernel_rfl) (by kernel_rfl)

set_option maxRecDepth 100000 in
theorem fnExactDiskOK_contract (H : Type) (enc : TypeId × Value → H) (W : World) (base : Nat) (args : Array Value) (ds gs : List (DataW H)) (before : List MemPlace)
    (hval : ∀ (j : Nat) t v, Tryd.f5.params[j]? = some t → args[j]? = some v → Value.okWide Tryd.prog W .any base t v)
    (hW : DataW.Whole enc Tryd.prog Tryd.f5.params.toList Rows.fnExactDiskOKSpec.vars false W args.toList ds gs before) (hL : laidMetH Tryd.prog Rows.fnExactDiskOKRow.laid W) :
    Calls Tryd.prog 5 args W fun e W' => ∃ v, e = .returned v ∧ Rows.fnExactDiskOKSpec.post enc Tryd.prog Tryd.f5 false true false false W args v W' := by
  have hW' := hW
  obtain ⟨p, q, hA0, hV, rfl, hfz, hnd⟩ := hW
  have hA : DataW.TrodAll enc Tryd.prog W 0 (fun _ => true) true Tryd.f5.params.toList args.toList ds p := hA0
  rw [Tryd.params5] at hA hval
  obtain ⟨v0, vs0, d0, ds0, p0, q0, hargs, rfl, rfl, h0, r0⟩ := trodAll_cons hA
  obtain ⟨rfl, rfl, rfl⟩ := trodAll_nil r0
  obtain rfl : args = #[v0] := by cases args; simp_all
  have k0 := h0
  have lt0 : ∀ x ∈ p0, x.block < W.heap.size := by obtain ⟨m, hm⟩ := k0; exact DataW.trod_lt m _ _ _ hm
  obtain ⟨x, y, rfl⟩ := vars_are2 hV
  obtain ⟨a, a', c, c', ss, ps, rfl, hs, hp, hl, hl'⟩ := open_disk (hval 0 49 v0 rfl rfl) h0
  clear hA0
  obtain ⟨e1, he1⟩ := sentinel (hL) gSec gSecT
  obtain ⟨e0, he0⟩ := sentinel (laidMet.tail (hL)) gSize gSizeT
  refine (lawDiskOK a a' c c' ss ps 165 165 e0 e1 W hs hp ⟨he0, he1⟩ hl hl').mono fun e W' ⟨he, bel⟩ => ?_
  subst he
  exact ⟨_, rfl, _, _, _, [], _, _, hW', trodAll_mk1 (shut_bool Tryd.underlying4 _), (trodAll_cons_mk (Below.trod laidOut (by kernel_rfl) (of_decide_eq_true (by kernel_rfl)) k0 bel lt0) trodAll_mk0), Below.trodVars laidOut bel (by kernel_rfl) hV, bel.frame _, fun h => by cases h⟩

set_option maxRecDepth 100000 in
theorem fnExactDiskOK_lifted (os : Os) (started : os.Started) (H : Type) (enc : TypeId × Value → H) (F : Stop.Interp) :
    ReturnsInHanded {} Tryd.checked os 5 .any ((OpenSpec.ofChange Rows.fnExactDiskOKSpec).preRow enc Tryd.prog Tryd.f5 Rows.fnExactDiskOKRow.domain false Rows.fnExactDiskOKRow.laid) (((OpenSpec.ofChange Rows.fnExactDiskOKSpec).at F).post enc Tryd.prog Tryd.f5 false true false false) := by
  refine returnsInHanded_of_row (C := Tryd.checked) (s := OpenSpec.ofChange Rows.fnExactDiskOKSpec) own started (by kernel_rfl) Tryd.func5
    (witness_row_at (enc := enc) (C := Tryd.checked) false (laidWorld os) #[.agg #[.slice none 0 0, .slice none 0 0]] rfl (by kernel_rfl) (by kernel_rfl) (by kernel_rfl)
      (OpenSpec.preRow_of_B rfl 8 (by kernel_rfl) (by kernel_rfl) (laid_ok os _))) ?_
  intro W base args ds gs before hval hW _ _ _ hL _ _
  exact fnExactDiskOK_contract H enc W base args ds gs before hval hW hL

theorem fnExactDiskOK_said : Rows.FnExactDiskOKSaid :=
  OpenClaim.holds_of_cond 5 Tryd.f5 rfl rfl rfl rfl rfl rfl rfl ⟨rfl, rfl, rfl, rfl, rfl⟩ rfl rfl rfl rfl rfl (by kernel_rfl) Tryd.func5 (by kernel_rfl)
    (of_decide_eq_true (by kernel_rfl)) (by unfold Func.isWrapper; first | (rw [if_pos (by decide +kernel)]; kernel_rfl) | (rw [if_neg (by decide +kernel)]; exact ⟨rfl, rfl⟩))
    (fun os started H enc _ F => by rw [OpenClaim.pre_eq_preRow]; exact fnExactDiskOK_lifted os started H enc F)

theorem fnExactDiskOK_plain (f : FuncId) (fn : Func) (hf : Tryd.pinned.checked.prog.funcNamed "loop.example/g00208/laws.FnExactDiskOK" = some f) (hfn : Tryd.pinned.checked.prog.funcs[f]? = some fn) :
    true = Tryd.pinned.checked.prog.looks [] ∧ ∀ (j : Nat) t, fn.params[j]? = some t → Tryd.pinned.checked.prog.wantsStandIn t = false := by
  obtain rfl : f = 5 := Option.some.inj ((show Tryd.prog.funcNamed "loop.example/g00208/laws.FnExactDiskOK" = some 5 by kernel_rfl).symm.trans hf) |>.symm
  obtain rfl : fn = Tryd.f5 := (Option.some.inj (Tryd.func5.symm.trans hfn)).symm
  refine ⟨by kernel_rfl, fun j t ht => ?_⟩
  rw [Tryd.params5] at ht
  obtain rfl : t = 49 := by simpa using Array.mem_of_getElem? ht
  exact (show Tryd.prog.wantsStandIn 49 = false by kernel_rfl)

/-- The statement: the tied card. -/
theorem fnExactDiskOK_card : Rows.FnExactDiskOKCardSaid :=
  Claim7.holds_tied_plain_at .later [] _ _ _ _ fnExactDiskOK_said (fun _ h => by cases h) (by kernel_rfl) (fun _ h => by cases h) fnExactDiskOK_row_tie rfl ⟨rfl, rfl⟩ (by kernel_rfl) rfl fnExactDiskOK_plain (by kernel_rfl)
end Go.Proofs.YtgfgaiimigchkaaDoor
