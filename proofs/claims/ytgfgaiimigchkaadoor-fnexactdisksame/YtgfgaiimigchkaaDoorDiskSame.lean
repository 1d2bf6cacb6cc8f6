/- For every two disks, FnExactDiskSame returns true: impl.DiskSame answers as spec.DiskSame does and writes into no argument, the variables errNoSector and errSectorSize holding what the program's own text lays in them; both disks read as before. -/
import Derived.Test.YtgfgaiimigchkaaDoorSameE
import Derived.Test.YtgfgaiimigchkaaDoorLaid
import Derived.Test.YtgfgaiimigchkaaDoorCards
import Derived.Test.YtgfgaiimigchkaaDoorTie
namespace Go.Proofs.YtgfgaiimigchkaaDoor
open Go.ChangeShapes Go.WideShapes Go.ChangeAt Go.RowKit Go.Joins

theorem laid_same (os : Os) (args : Array Value) : laidMet Tryd.prog Rows.fnExactDiskSameRow.laid ((laidWorld os).forCall (fun _ _ => 0) ⟨#[], args, []⟩).memory :=
  laidMet_of_run (ps := [.cell 1 0, .cell (low + 1) 0, .cell 0 0, .cell low 0]) 8 (by kernel_rfl) (by kernel_rfl) (by kernel_rfl)

set_option maxRecDepth 100000 in
theorem fnExactDiskSame_contract (H : Type) (enc : TypeId × Value → H) (W : World) (base : Nat) (args : Array Value) (ds gs : List (DataW H)) (before : List MemPlace)
    (hval : ∀ (j : Nat) t v, Tryd.f9.params[j]? = some t → args[j]? = some v → Value.okWide Tryd.prog W .any base t v)
    (hW : DataW.Whole enc Tryd.prog Tryd.f9.params.toList Rows.fnExactDiskSameSpec.vars false W args.toList ds gs before) (hL : laidMetH Tryd.prog Rows.fnExactDiskSameRow.laid W) :
    Calls Tryd.prog 9 args W fun e W' => ∃ v, e = .returned v ∧ Rows.fnExactDiskSameSpec.post enc Tryd.prog Tryd.f9 false true false false W args v W' := by
  have hW' := hW
  obtain ⟨p, q, hA0, hV, rfl, hfz, hnd⟩ := hW
  have hA : DataW.TrodAll enc Tryd.prog W 0 (fun _ => true) true Tryd.f9.params.toList args.toList ds p := hA0
  rw [Tryd.params9] at hA hval
  obtain ⟨v0, vs0, d0, ds0, p0, q0, hargs, rfl, rfl, h0, r0⟩ := trodAll_cons hA
  obtain ⟨v1, vs1, d1, ds1, p1, q1, rfl, rfl, rfl, h1, r1⟩ := trodAll_cons r0
  obtain ⟨rfl, rfl, rfl⟩ := trodAll_nil r1
  obtain rfl : args = #[v0, v1] := by cases args; simp_all
  have k0 := h0
  have lt0 : ∀ x ∈ p0, x.block < W.heap.size := by obtain ⟨m, hm⟩ := k0; exact DataW.trod_lt m _ _ _ hm
  have k1 := h1
  have lt1 : ∀ x ∈ p1, x.block < W.heap.size := by obtain ⟨m, hm⟩ := k1; exact DataW.trod_lt m _ _ _ hm
  obtain ⟨x, y, rfl⟩ := vars_are2 hV
  obtain ⟨a, a', c, c', ss, ps, rfl, hs, hp, hl, hl'⟩ := open_disk (hval 0 49 v0 rfl rfl) h0
  obtain ⟨b, b', d, d', us, qs, rfl, hs1, hp1, hl1, hl1'⟩ := open_disk (hval 1 49 v1 rfl rfl) h1
  clear hA0
  obtain ⟨e1, he1⟩ := sentinel hL gSec gSecT
  obtain ⟨e0, he0⟩ := sentinel (laidMet.tail hL) gSize gSizeT
  refine (lawDiskSame a a' b b' c c' d d' ss ps us qs 165 165 e0 e1 W hs hp hs1 hp1 ⟨he0, he1⟩ hl hl' hl1 hl1').mono fun e W' ⟨he, bel⟩ => ?_
  subst he
  exact ⟨_, rfl, _, _, _, [], _, _, hW', trodAll_mk1 (shut_bool Tryd.underlying4 _), (trodAll_cons_mk (Below.trod laidOut (by kernel_rfl) (of_decide_eq_true (by kernel_rfl)) k0 bel lt0) (trodAll_cons_mk (Below.trod laidOut (by kernel_rfl) (of_decide_eq_true (by kernel_rfl)) k1 bel lt1) trodAll_mk0)), Below.trodVars laidOut bel (by kernel_rfl) hV, bel.frame _, fun h => by cases h⟩

set_option maxRecDepth 100000 in
theorem fnExactDiskSame_lifted (os : Os) (started : os.Started) (H : Type) (enc : TypeId × Value → H) (F : Stop.Interp) :
    ReturnsInHanded {} Tryd.checked os 9 .any ((OpenSpec.ofChange Rows.fnExactDiskSameSpec).preRow enc Tryd.prog Tryd.f9 Rows.fnExactDiskSameRow.domain false Rows.fnExactDiskSameRow.laid) (((OpenSpec.ofChange Rows.fnExactDiskSameSpec).at F).post enc Tryd.prog Tryd.f9 false true false false) := by
  refine returnsInHanded_of_row (C := Tryd.checked) (s := OpenSpec.ofChange Rows.fnExactDiskSameSpec) own started (by kernel_rfl) Tryd.func9
    (witness_row_at (enc := enc) (C := Tryd.checked) false (laidWorld os) #[.agg #[.slice none 0 0, .slice none 0 0], .agg #[.slice none 0 0, .slice none 0 0]] rfl (by kernel_rfl) (by kernel_rfl) (by kernel_rfl)
      (OpenSpec.preRow_of_B rfl 8 (by kernel_rfl) (by kernel_rfl) (laid_same os _))) ?_
  intro W base args ds gs before hval hW _ _ _ hL _ _
  exact fnExactDiskSame_contract H enc W base args ds gs before hval hW hL

theorem fnExactDiskSame_said : Rows.FnExactDiskSameSaid :=
  OpenClaim.holds_of_cond 9 Tryd.f9 rfl rfl rfl rfl rfl rfl rfl ⟨rfl, rfl, rfl, rfl, rfl⟩ rfl rfl rfl rfl rfl (by kernel_rfl) Tryd.func9 (by kernel_rfl)
    (of_decide_eq_true (by kernel_rfl)) (by unfold Func.isWrapper; first | (rw [if_pos (by decide +kernel)]; kernel_rfl) | (rw [if_neg (by decide +kernel)]; exact ⟨rfl, rfl⟩))
    (fun os started H enc _ F => by rw [OpenClaim.pre_eq_preRow]; exact fnExactDiskSame_lifted os started H enc F)

theorem fnExactDiskSame_plain (f : FuncId) (fn : Func) (hf : Tryd.pinned.checked.prog.funcNamed "loop.example/g00208/laws.FnExactDiskSame" = some f) (hfn : Tryd.pinned.checked.prog.funcs[f]? = some fn) :
    true = Tryd.pinned.checked.prog.looks [] ∧ ∀ (j : Nat) t, fn.params[j]? = some t → Tryd.pinned.checked.prog.wantsStandIn t = false := by
  obtain rfl : f = 9 := Option.some.inj ((show Tryd.prog.funcNamed "loop.example/g00208/laws.FnExactDiskSame" = some 9 by kernel_rfl).symm.trans hf) |>.symm
  obtain rfl : fn = Tryd.f9 := (Option.some.inj (Tryd.func9.symm.trans hfn)).symm
  refine ⟨by kernel_rfl, fun j t ht => ?_⟩
  rw [Tryd.params9] at ht
  obtain rfl : t = 49 := by simpa using Array.mem_of_getElem? ht
  exact (show Tryd.prog.wantsStandIn 49 = false by kernel_rfl)

/-- The statement: the tied card. -/
theorem fnExactDiskSame_card : Rows.FnExactDiskSameCardSaid :=
  Claim7.holds_tied_plain_at .later [] _ _ _ _ fnExactDiskSame_said (fun _ h => by cases h) (by kernel_rfl) (fun _ h => by cases h) fnExactDiskSame_row_tie rfl ⟨rfl, rfl⟩ (by kernel_rfl) rfl fnExactDiskSame_plain (by kernel_rfl)
end Go.Proofs.YtgfgaiimigchkaaDoor
