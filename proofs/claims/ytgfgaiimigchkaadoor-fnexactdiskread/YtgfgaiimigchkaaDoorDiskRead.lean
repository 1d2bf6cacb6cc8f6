/- For every disk and number, FnExactDiskRead returns true: impl.DiskRead answers as spec.DiskRead does and writes into no argument, the four listed variables holding what the program's own text lays in them; the disk reads as before. -/
import Derived.Test.YtgfgaiimigchkaaDoorReadE
import Derived.Test.YtgfgaiimigchkaaDoorLaid
import Derived.Test.YtgfgaiimigchkaaDoorCards
import Derived.Test.YtgfgaiimigchkaaDoorTie
namespace Go.Proofs.YtgfgaiimigchkaaDoor
open Go.ChangeShapes Go.WideShapes Go.ChangeAt Go.RowKit Go.Joins

theorem laid_read (os : Os) (args : Array Value) : laidMet Tryd.prog Rows.fnExactDiskReadRow.laid ((laidWorld os).forCall (fun _ _ => 0) ⟨#[], args, []⟩).memory :=
  laidMet_of_run (ps := [.cell 1 0, .cell (low + 1) 0, .cell 0 0, .cell low 0, .cell 2 0, .cell (low + 2) 0, .cell 3 0, .cell (low + 3) 0]) 8 (by kernel_rfl) (by kernel_rfl) (by kernel_rfl)

theorem vars_are4 {H : Type} {enc : TypeId × Value → H} {P : Program} {W : World} {sp : Nat → Bool} {n1 n2 n3 n4 : String} {gs : List (DataW H)} {q : List MemPlace} (h : DataW.TrodVars enc P W sp [n1, n2, n3, n4] gs q) : ∃ x y z u, gs = [x, y, z, u] := by
  match gs, h with
  | [], h => exact h.elim
  | [x], h => obtain ⟨_, _, _, _, _, _, _, _, _, _, hs, _⟩ := h; exact hs.elim
  | [x, y], h =>
    obtain ⟨_, _, _, _, _, _, _, _, _, _, hs, _⟩ := h
    obtain ⟨_, _, _, _, _, _, _, _, _, _, hs', _⟩ := hs
    exact hs'.elim
  | [x, y, z], h =>
    obtain ⟨_, _, _, _, _, _, _, _, _, _, hs, _⟩ := h
    obtain ⟨_, _, _, _, _, _, _, _, _, _, hs', _⟩ := hs
    obtain ⟨_, _, _, _, _, _, _, _, _, _, hs'', _⟩ := hs'
    exact hs''.elim
  | [x, y, z, u], _ => exact ⟨x, y, z, u, rfl⟩
  | x :: y :: z :: u :: v :: r, h =>
    obtain ⟨_, _, _, _, _, _, _, _, _, _, hs, _⟩ := h
    obtain ⟨_, _, _, _, _, _, _, _, _, _, hs', _⟩ := hs
    obtain ⟨_, _, _, _, _, _, _, _, _, _, hs'', _⟩ := hs'
    obtain ⟨_, _, _, _, _, _, _, _, _, _, hs3, _⟩ := hs''
    exact hs3.elim

theorem gFull : Tryd.prog.globalNamed "loop.example/g00208/impl.errCacheFull" = some 2 := by kernel_rfl
theorem gAct : Tryd.prog.globalNamed "loop.example/g00208/impl.errNoAct" = some 3 := by kernel_rfl
theorem gFullT : (Tryd.prog.globals[2]?).map (·.type) = some 83 := by kernel_rfl
theorem gActT : (Tryd.prog.globals[3]?).map (·.type) = some 83 := by kernel_rfl
/-- The same as 'sentinel', with the pointer. -/
theorem sentinelP {W : World} {nm : String} {text : List UInt8} {g : Nat} {r : List (String × DataW Unit)} (h : laidMet Tryd.prog ((nm, .iface "*errors.errorString" (.ptr (.agg [.lit (.string text)]))) :: r) W)
    (hg : Tryd.prog.globalNamed nm = some g) (ht : (Tryd.prog.globals[g]?).map (·.type) = some 83) : ∃ b, W.cell? ⟨g, 0, none⟩ = some (.iface 165 (.pointer (some b))) := by
  obtain ⟨a0, s0, hv0, _⟩ := laid_sentinel h hg ht Tryd.underlying83 row165 Tryd.underlying165 Tryd.underlying187 rfl rfl Tryd.underlying9 cells187 cells9
  exact ⟨_, by simpa using World.var?_cell hg hv0 0⟩

set_option maxRecDepth 100000 in
theorem fnExactDiskRead_contract (H : Type) (enc : TypeId × Value → H) (W : World) (base : Nat) (args : Array Value) (ds gs : List (DataW H)) (before : List MemPlace)
    (hval : ∀ (j : Nat) t v, Tryd.f6.params[j]? = some t → args[j]? = some v → Value.okWide Tryd.prog W .any base t v)
    (hW : DataW.Whole enc Tryd.prog Tryd.f6.params.toList Rows.fnExactDiskReadSpec.vars false W args.toList ds gs before) (hL : laidMetH Tryd.prog Rows.fnExactDiskReadRow.laid W) :
    Calls Tryd.prog 6 args W fun e W' => ∃ v, e = .returned v ∧ Rows.fnExactDiskReadSpec.post enc Tryd.prog Tryd.f6 false true false false W args v W' := by
  have hW' := hW
  obtain ⟨p, q, hA0, hV, rfl, hfz, hnd⟩ := hW
  have hA : DataW.TrodAll enc Tryd.prog W 0 (fun _ => true) true Tryd.f6.params.toList args.toList ds p := hA0
  rw [Tryd.params6] at hA hval
  obtain ⟨v0, vs0, d0, ds0, p0, q0, hargs, rfl, rfl, h0, r0⟩ := trodAll_cons hA
  obtain ⟨v1, vs1, d1, ds1, p1, q1, rfl, rfl, rfl, h1, r1⟩ := trodAll_cons r0
  obtain ⟨rfl, rfl, rfl⟩ := trodAll_nil r1
  obtain rfl : args = #[v0, v1] := by cases args; simp_all
  have k0 := h0
  have lt0 : ∀ x ∈ p0, x.block < W.heap.size := by obtain ⟨m, hm⟩ := k0; exact DataW.trod_lt m _ _ _ hm
  have k1 := h1
  have lt1 : ∀ x ∈ p1, x.block < W.heap.size := by obtain ⟨m, hm⟩ := k1; exact DataW.trod_lt m _ _ _ hm
  obtain ⟨x, y, z, u, rfl⟩ := vars_are4 hV
  obtain ⟨a, a', c, c', ss, ps, rfl, hs, hp, hl, hl'⟩ := open_disk (hval 0 49 v0 rfl rfl) h0
  obtain ⟨k, rfl, rfl, rfl, wf⟩ := open_int Tryd.underlying3 (hval 1 3 v1 rfl rfl) h1
  clear hA0
  obtain ⟨e1, he1⟩ := sentinelP (hL) gSec gSecT
  obtain ⟨e0, he0⟩ := sentinel (laidMet.tail (hL)) gSize gSizeT
  obtain ⟨e2, he2⟩ := sentinel (laidMet.tail (laidMet.tail (hL))) gFull gFullT
  obtain ⟨e3, he3⟩ := sentinel (laidMet.tail (laidMet.tail (laidMet.tail (hL)))) gAct gActT
  refine (lawDiskRead a a' c c' ss ps k e1 (165, e0) (165, e2) (165, e3) W hs hp ⟨⟨he0, he1⟩, he2, he3⟩ hl hl').mono fun e W' ⟨he, bel⟩ => ?_
  subst he
  exact ⟨_, rfl, _, _, _, [], _, _, hW', trodAll_mk1 (shut_bool Tryd.underlying4 _), (trodAll_cons_mk (Below.trod laidOut (by kernel_rfl) (of_decide_eq_true (by kernel_rfl)) k0 bel lt0) (trodAll_cons_mk (Below.trod laidOut (by kernel_rfl) (of_decide_eq_true (by kernel_rfl)) k1 bel lt1) trodAll_mk0)), Below.trodVars laidOut bel (by kernel_rfl) hV, bel.frame _, fun h => by cases h⟩

set_option maxRecDepth 100000 in
theorem fnExactDiskRead_lifted (os : Os) (started : os.Started) (H : Type) (enc : TypeId × Value → H) (F : Stop.Interp) :
    ReturnsInHanded {} Tryd.checked os 6 .any ((OpenSpec.ofChange Rows.fnExactDiskReadSpec).preRow enc Tryd.prog Tryd.f6 Rows.fnExactDiskReadRow.domain false Rows.fnExactDiskReadRow.laid) (((OpenSpec.ofChange Rows.fnExactDiskReadSpec).at F).post enc Tryd.prog Tryd.f6 false true false false) := by
  refine returnsInHanded_of_row (C := Tryd.checked) (s := OpenSpec.ofChange Rows.fnExactDiskReadSpec) own started (by kernel_rfl) Tryd.func6
    (witness_row_at (enc := enc) (C := Tryd.checked) false (laidWorld os) #[.agg #[.slice none 0 0, .slice none 0 0], .int .i64 0] rfl (by kernel_rfl) (by kernel_rfl) (by kernel_rfl)
      (OpenSpec.preRow_of_B rfl 8 (by kernel_rfl) (by kernel_rfl) (laid_read os _))) ?_
  intro W base args ds gs before hval hW _ _ _ hL _ _
  exact fnExactDiskRead_contract H enc W base args ds gs before hval hW hL

theorem fnExactDiskRead_said : Rows.FnExactDiskReadSaid :=
  OpenClaim.holds_of_cond 6 Tryd.f6 rfl rfl rfl rfl rfl rfl rfl ⟨rfl, rfl, rfl, rfl, rfl⟩ rfl rfl rfl rfl rfl (by kernel_rfl) Tryd.func6 (by kernel_rfl)
    (of_decide_eq_true (by kernel_rfl)) (by unfold Func.isWrapper; first | (rw [if_pos (by decide +kernel)]; kernel_rfl) | (rw [if_neg (by decide +kernel)]; exact ⟨rfl, rfl⟩))
    (fun os started H enc _ F => by rw [OpenClaim.pre_eq_preRow]; exact fnExactDiskRead_lifted os started H enc F)

theorem fnExactDiskRead_plain (f : FuncId) (fn : Func) (hf : Tryd.pinned.checked.prog.funcNamed "loop.example/g00208/laws.FnExactDiskRead" = some f) (hfn : Tryd.pinned.checked.prog.funcs[f]? = some fn) :
    true = Tryd.pinned.checked.prog.looks [] ∧ ∀ (j : Nat) t, fn.params[j]? = some t → Tryd.pinned.checked.prog.wantsStandIn t = false := by
  obtain rfl : f = 6 := Option.some.inj ((show Tryd.prog.funcNamed "loop.example/g00208/laws.FnExactDiskRead" = some 6 by kernel_rfl).symm.trans hf) |>.symm
  obtain rfl : fn = Tryd.f6 := (Option.some.inj (Tryd.func6.symm.trans hfn)).symm
  refine ⟨by kernel_rfl, fun j t ht => ?_⟩
  rw [Tryd.params6] at ht
  have hm := Array.mem_of_getElem? ht
  simp at hm
  rcases hm with rfl | rfl
  · exact (show Tryd.prog.wantsStandIn 49 = false by kernel_rfl)
  · exact (show Tryd.prog.wantsStandIn 3 = false by kernel_rfl)

/-- The statement: the tied card. -/
theorem fnExactDiskRead_card : Rows.FnExactDiskReadCardSaid :=
  Claim7.holds_tied_plain_at .later [] _ _ _ _ fnExactDiskRead_said (fun _ h => by cases h) (by kernel_rfl) (fun _ h => by cases h) fnExactDiskRead_row_tie rfl ⟨rfl, rfl⟩ (by kernel_rfl) rfl fnExactDiskRead_plain (by kernel_rfl)
end Go.Proofs.YtgfgaiimigchkaaDoor
