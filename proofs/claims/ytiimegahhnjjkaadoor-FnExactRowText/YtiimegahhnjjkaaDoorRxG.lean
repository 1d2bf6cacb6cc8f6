/- The row of RowText (stage 1). -/
import Derived.Test.YtiimegahhnjjkaaDoorRtB
import Derived.Test.YtiimegahhnjjkaaDoorVxL
import Derived.Test.YtiimegahhnjjkaaDoorRxF
namespace Go.Proofs.YtiimegahhnjjkaaDoor
open Go.ChangeShapes Go.WideShapes Go.ChangeAt Go.RowKit Go.Joins

/-- What the row's list and the world's shape give a walk. -/
theorem tb_of_laidR {W : World} (h : laidMetH Tryd.prog Rows.fnExactRowTextRow.laid W) (hs : W.ShapedOpen Tryd.prog) : Tb W := by
  have h' : laidMet Tryd.prog Rows.fnExactRowTextRow.laid W := h
  obtain ⟨t, e, n, a1, a2, a3, a4, a5⟩ := gPowCells
  refine ⟨Lib.tabIs_of_head gPow a1 a2 a3 a4 a5 h', Go.Proofs.cell_of_shapedOpen_int (zero := #[.int .i64 0]) (t := 3) hs (of_decide_eq_true (by kernel_rfl)) (by kernel_rfl) rfl (by kernel_rfl) (by kernel_rfl) Tryd.underlying3⟩
theorem laidWorld_metR (os : Os) (args : Array Value) : laidMetH Tryd.prog Rows.fnExactRowTextRow.laid ((laidWorld os).forCall (fun _ _ => 0) ⟨#[], args, []⟩).memory :=
  laidMet_of_run' 8 (by kernel_rfl) (by kernel_rfl)
set_option maxRecDepth 100000 in
theorem open_rowW {H : Type} {enc : TypeId × Value → H} {W : World} {a : Option Addr} {len cap : Nat} {d : DataW H} {p : List MemPlace}
    (h : DataW.Trod enc Tryd.prog W 0 (fun _ => true) true 30 (.slice a len cap) d p) : ∃ vs : List V3, vs.length = len ∧ RowV W a vs ∧ RgV vs ∧ len ≤ maxLen := by
  obtain ⟨fuel, hf⟩ := h
  rcases Deep.open_slice Tryd.underlying30 hf with ⟨hcs, _⟩ | ⟨x, l, c, m, n, D, Pl, hcs, _, hl, hm, hmm, _, hel⟩
  · simp [Value.cells] at hcs
    obtain ⟨rfl, rfl, rfl⟩ := hcs
    exact ⟨[], rfl, fun i hi => by simp at hi, fun i hi => by simp at hi, Nat.zero_le _⟩
  · simp [Value.cells] at hcs
    obtain ⟨rfl, rfl, rfl⟩ := hcs
    simp at hmm
    subst hmm
    rw [cells23] at hel
    have key : ∀ i, i < len → ∃ v : V3, ∃ b off, some x = some ⟨b, off, none⟩ ∧ b < W.heap.size ∧ CellV W b (off + i * 3) v ∧ v.2.2.size ≤ maxLen ∧ Rg v.2.1 := fun i hi => by
      obtain ⟨cs', h1, h2⟩ := hel i (by omega)
      obtain ⟨_, hlen, hcell⟩ := World.cells?_some h1
      obtain ⟨y0, y1, y2, n', _, _, e0, e1, e2⟩ := Deep.trod_struct3 Tryd.underlying23 h2
      match cs', hlen with
      | [c0, c1, c2], _ =>
        obtain ⟨k, q0, _, _⟩ := DataW.trod_int Tryd.underlying3 e0
        obtain ⟨nn, q1, _, hwn⟩ := DataW.trod_int Tryd.underlying3 e1
        obtain ⟨t, q2, _, ht⟩ := DataW.trod_string Tryd.underlying9 e2
        have w3 : Tryd.prog.cellsOf 3 = 1 := by kernel_rfl
        have w9 : Tryd.prog.cellsOf 9 = 1 := by kernel_rfl
        simp [w3] at q0 q1
        simp [w9] at q2
        subst q0 q1 q2
        have d0 := hcell 0 (by omega)
        have d1 := hcell 1 (by omega)
        have d2 := hcell 2 (by omega)
        obtain ⟨b, off, spot⟩ := x
        obtain ⟨cs0, g1, _⟩ := hel 0 (by omega)
        have hs : spot = none := by
          have := World.cell?_spot ((World.cells?_some g1).2.2 0 (by omega) |>.trans (List.getElem?_eq_getElem (by rw [(World.cells?_some g1).2.1]; omega)))
          simpa [Addr.add] using this
        subst hs
        rw [add_plain, add_plain] at d0 d1 d2
        exact ⟨(k, nn, t), b, off, rfl, World.block_lt_of_cell? W _ d0, ⟨d0, d1, d2⟩, ht, rg_of hwn⟩
    obtain ⟨vs, hvl, hv⟩ := exists_list len key
    refine ⟨vs, hvl, fun i hi => ?_, fun i hi => ?_, Nat.le_trans hl hm⟩
    · obtain ⟨b, off, e, r1, r2, r3, _⟩ := hv i (by omega)
      exact ⟨b, off, e, r1, r2, r3⟩
    · obtain ⟨_, _, _, _, _, _, r⟩ := hv i (by omega)
      exact r

set_option maxRecDepth 100000 in
theorem fnExactRowText_contract (H : Type) (enc : TypeId × Value → H) (W : World) (base : Nat) (args : Array Value) (ds gs : List (DataW H)) (before : List MemPlace)
    (hval : ∀ (j : Nat) t v, Tryd.f4.params[j]? = some t → args[j]? = some v → Value.okWide Tryd.prog W .any base t v)
    (hW : DataW.Whole enc Tryd.prog Tryd.f4.params.toList Rows.fnExactRowTextSpec.vars false W args.toList ds gs before) (hL : laidMetH Tryd.prog Rows.fnExactRowTextRow.laid W) (hS : W.ShapedOpen Tryd.prog) :
    Calls Tryd.prog 4 args W fun e W' => ∃ v, e = .returned v ∧ Rows.fnExactRowTextSpec.post enc Tryd.prog Tryd.f4 false true false false W args v W' := by
  have hW' := hW
  obtain ⟨p, q, hA0, hV, rfl, hfz, hnd⟩ := hW
  have hA : DataW.TrodAll enc Tryd.prog W 0 (fun _ => true) true Tryd.f4.params.toList args.toList ds p := hA0
  rw [Tryd.params4] at hA hval
  obtain ⟨v0, vs0, d0, ds0, p0, q0, hargs, rfl, rfl, h0, r0⟩ := trodAll_cons hA
  obtain ⟨rfl, rfl, rfl⟩ := trodAll_nil r0
  obtain rfl : args = #[v0] := by cases args; simp_all
  obtain ⟨rfl, rfl⟩ := trodVars_none hV
  have k0 := h0
  have lt0 : ∀ x ∈ p0, x.block < W.heap.size := by obtain ⟨m, hm⟩ := k0; exact DataW.trod_lt m _ _ _ hm
  obtain ⟨a0, len0, cap0, rfl⟩ := okWide_slice Tryd.underlying30 (hval 0 30 v0 rfl rfl)
  obtain ⟨vs, rfl, hv, hr, lv⟩ := open_rowW h0
  clear hA0
  refine (lawRowText a0 cap0 vs W hv lv hr (tb_of_laidR hL hS)).mono fun e W' ⟨he, bel⟩ => ?_
  subst he
  exact ⟨_, rfl, _, _, _, [], _, _, hW', trodAll_mk1 (shut_bool Tryd.underlying4 _), (trodAll_cons_mk (Below.trod laidOut (by kernel_rfl) (of_decide_eq_true (by kernel_rfl)) k0 bel lt0) trodAll_mk0), rfl, bel.frame _, fun h => by cases h⟩

set_option maxRecDepth 100000 in
theorem fnExactRowText_lifted (os : Os) (started : os.Started) (H : Type) (enc : TypeId × Value → H) (F : Stop.Interp) :
    ReturnsInHanded {} Tryd.checked os 4 .any ((OpenSpec.ofChange Rows.fnExactRowTextSpec).preRow enc Tryd.prog Tryd.f4 Rows.fnExactRowTextRow.domain false Rows.fnExactRowTextRow.laid) (((OpenSpec.ofChange Rows.fnExactRowTextSpec).at F).post enc Tryd.prog Tryd.f4 false true false false) := by
  refine returnsInHanded_of_row (C := Tryd.checked) (s := OpenSpec.ofChange Rows.fnExactRowTextSpec) own started (by kernel_rfl) Tryd.func4
    (witness_row_at (enc := enc) (C := Tryd.checked) false (laidWorld os) #[.slice none 0 0] rfl (by kernel_rfl) (by kernel_rfl) (by kernel_rfl)
      (OpenSpec.preRow_of_B rfl 8 (by kernel_rfl) (by kernel_rfl) (laidWorld_metR os _))) ?_
  intro W base args ds gs before hval hW _ _ _ hL hS _
  exact fnExactRowText_contract H enc W base args ds gs before hval hW hL hS

theorem fnExactRowText_said : Rows.FnExactRowTextSaid :=
  OpenClaim.holds_of_cond 4 Tryd.f4 rfl rfl rfl rfl rfl rfl rfl ⟨rfl, rfl, rfl, rfl, rfl⟩ rfl rfl rfl rfl rfl rowText_named Tryd.func4 rowText_closed
    (of_decide_eq_true (by kernel_rfl)) (by unfold Func.isWrapper; first | (rw [if_pos (by decide +kernel)]; kernel_rfl) | (rw [if_neg (by decide +kernel)]; exact ⟨rfl, rfl⟩))
    (fun os started H enc _ F => by rw [OpenClaim.pre_eq_preRow]; exact fnExactRowText_lifted os started H enc F)
end Go.Proofs.YtiimegahhnjjkaaDoor
