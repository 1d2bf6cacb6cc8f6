/- For every text, FnExactCodeOf returns true: impl.CodeOf answers as spec.CodeOf does, the variable codeWords holding what the program's own text lays in it; argument and variable read as before. -/
import Derived.Test.YtipddjgoohnalaaDoorCodeWord
namespace Go.Proofs.YtipddjgoohnalaaDoor
open Go.ChangeShapes Go.WideShapes Go.ChangeAt Go.RowKit
open Go.ChangeMaps (open_string shut_string)

/-- The code of a word. -/
def codeI (s : ByteArray) : Int := ((List.range 20).find? fun j => (wordAt j).toList == s.toList).elim (-1) fun j => (j : Int)
theorem codeI_hit (s : ByteArray) (k : Nat) (hk : k < 20) (hno : ∀ j, j < k → ((wordAt j).toList == s.toList) = false) (hyes : ((wordAt k).toList == s.toList) = true) : (k : Int) = codeI s := by
  unfold codeI
  rw [show (List.range 20).find? (fun j => (wordAt j).toList == s.toList) = some k from ?_]
  · rfl
  · rw [List.find?_eq_some_iff_getElem]
    refine ⟨hyes, k, by simpa using hk, by simp, fun j hj => ?_⟩
    have := hno j hj
    simpa using this
theorem codeI_none (s : ByteArray) (hno : ∀ j, j < 20 → ((wordAt j).toList == s.toList) = false) : -1 = codeI s := by
  unfold codeI
  rw [show (List.range 20).find? (fun j => (wordAt j).toList == s.toList) = none from ?_]
  · rfl
  · rw [List.find?_eq_none]
    intro j hj
    have := hno j (by simpa using hj)
    simpa using this
theorem all_step {P : Nat → Prop} {k : Nat} (h : ∀ j, j < k → P j) (hk : P k) : ∀ j, j < k + 1 → P j := fun j hj => by
  by_cases e : j = k
  · rw [e]; exact hk
  · exact h j (by omega)

set_option maxHeartbeats 1000000 in
theorem specCodeOf_any (s : ByteArray) (w : World) :
    Calls Tryd.prog 9 #[.string s] w fun e w' => e = .returned (.int .i64 (codeI s)) ∧ Below w.heap.size w w' := by
  go_enter Tryd.func9, Tryd.ntmps9
  go_wp2
  go_loopw [3] (fun i wr => ∃ k : Nat, k ≤ 20 ∧ i = .int .i64 k ∧ Hid (∀ j, j < k → ((wordAt j).toList == s.toList) = false) ∧ Below w.heap.size w wr) (fun i _ => 20 - (intOf i).toNat)
  case atStart => exact ⟨0, by omega, rfl, fun j hj => by omega, Below.refl _ _⟩
  case round =>
    obtain ⟨k, hk, rfl, HN, hbl⟩ := hrel
    by_cases hlt : k < 20
    · by_cases hy : ((wordAt k).toList == s.toList) = true
      · have HR : Hid ((k : Int) = codeI s) := codeI_hit s k hlt HN.out hy
        go_wp2_with (go_at_call 7; refine (specWord_in k hlt _).mono ?_; rintro e w1 ⟨rfl, hb⟩)
        go_ret
        exact ⟨ret_int HR.out, hbl.trans (hb.mono hbl.size)⟩
      · have hy' : ((wordAt k).toList == s.toList) = false := by simpa using hy
        have HY : Hid (((wordAt k).toList == s.toList) = false) := hy'
        clear hy
        go_wp2_with (go_at_call 7; refine (specWord_in k hlt _).mono ?_; rintro e w1 ⟨rfl, hb⟩)
        go_roundw
        case rel => exact ⟨k + 1, by omega, by go_num, all_step HN.out HY.out, hbl.trans (hb.mono hbl.size)⟩
        case measure => simp [intOf]; omega
    · have HR : Hid (-1 = codeI s) := codeI_none s (fun j hj => HN.out j (by omega))
      go_wp2
      go_ret
      exact ⟨ret_int HR.out, hbl⟩

set_option maxHeartbeats 1000000 in
theorem implCodeOf_any (s : ByteArray) (w : World) (htab : Hid (∀ i, i < 20 → w.cell? ⟨0, i, none⟩ = some (.string (wordAt i)))) :
    Calls Tryd.prog 10 #[.string s] w fun e w' => e = .returned (.int .i64 (codeI s)) ∧ w' = w := by
  go_enter Tryd.func10, Tryd.ntmps10
  go_wp2
  go_loop [4] (fun i => ∃ k : Nat, k ≤ 20 ∧ i = .int .i64 k ∧ Hid (∀ j, j < k → ((wordAt j).toList == s.toList) = false)) (fun i => 20 - (intOf i).toNat)
  case atStart => exact ⟨0, by omega, rfl, fun j hj => by omega⟩
  case round =>
    obtain ⟨k, hk, rfl, HN⟩ := hrel
    by_cases hlt : k < 20
    · have hc := htab.out k hlt
      by_cases hy : ((wordAt k).toList == s.toList) = true
      · have HR : Hid ((k : Int) = codeI s) := codeI_hit s k hlt HN.out hy
        go_wp2
        go_ret
        exact ⟨ret_int HR.out, rfl⟩
      · have hy' : ((wordAt k).toList == s.toList) = false := by simpa using hy
        have HY : Hid (((wordAt k).toList == s.toList) = false) := hy'
        clear hy
        go_wp2
        go_round
        case rel => exact ⟨k + 1, by omega, by go_num, all_step HN.out HY.out⟩
        case measure => simp [intOf]; omega
    · have HR : Hid (-1 = codeI s) := codeI_none s (fun j hj => HN.out j (by omega))
      go_wp2
      go_ret
      exact ⟨ret_int HR.out, rfl⟩

theorem codeOf_walk (s : ByteArray) (w : World) (hs : s.size ≤ maxLen) (htab : Hid (∀ i, i < 20 → w.cell? ⟨0, i, none⟩ = some (.string (wordAt i)))) :
    Calls Tryd.prog 4 #[.string s] w fun e w' => e = .returned (.bool true) ∧ Below w.heap.size w w' := by
  unfold maxLen at hs
  by_cases hbig : 1048576 < s.size
  · go_enter Tryd.func4, Tryd.ntmps4
    go_wp2
    go_ret
    exact ⟨rfl, Below.refl _ _⟩
  · go_enter Tryd.func4, Tryd.ntmps4
    go_wp2_with fail
    refine (specCodeOf_any s _).mono ?_
    rintro e w1 ⟨rfl, hb⟩
    have htab1 : Hid (∀ i, i < 20 → w1.cell? ⟨0, i, none⟩ = some (.string (wordAt i))) := fun i hi => below0 (htab.out i hi) hb
    go_wp2_with fail
    refine (implCodeOf_any s _ htab1).mono ?_
    rintro e w2 ⟨rfl, rfl⟩
    go_wp2
    go_ret
    exact ⟨rfl, hb⟩

set_option maxRecDepth 100000 in
/-- What the walk gives, for every argument and every world that holds the table. -/
theorem fnExactCodeOf_contract (H : Type) (enc : TypeId × Value → H) (W : World) (base : Nat) (args : Array Value) (ds gs : List (DataW H)) (before : List MemPlace)
    (hval : ∀ (j : Nat) t v, Tryd.f4.params[j]? = some t → args[j]? = some v → Value.okWide Tryd.prog W .any base t v)
    (hW : DataW.Whole enc Tryd.prog Tryd.f4.params.toList Rows.fnExactCodeOfSpec.vars false W args.toList ds gs before) (hL : laidMetH Tryd.prog Rows.fnExactCodeOfRow.laid W) :
    Calls Tryd.prog 4 args W fun e W' => ∃ v, e = .returned v ∧ Rows.fnExactCodeOfSpec.post enc Tryd.prog Tryd.f4 false true false false W args v W' := by
  have hW' := hW
  obtain ⟨p, q, hA0, hV, rfl, hfz, hnd⟩ := hW
  have hA : DataW.TrodAll enc Tryd.prog W 0 (fun _ => true) true Tryd.f4.params.toList args.toList ds p := hA0
  rw [Tryd.params4] at hA hval
  obtain ⟨v0, vs0, d0, ds0, p0, q0, hargs, rfl, rfl, h0, r0⟩ := trodAll_cons hA
  obtain ⟨rfl, rfl, rfl⟩ := trodAll_nil r0
  obtain rfl : args = #[v0] := by cases args; simp_all
  have k0 := h0
  have lt0 : ∀ x ∈ p0, x.block < W.heap.size := by obtain ⟨m, hm⟩ := k0; exact DataW.trod_lt m _ _ _ hm
  have hgs : ∃ g, gs = [g] := by obtain ⟨_, _, _, _, d, _, hd, _⟩ := trodVars_one hV; exact ⟨d, hd⟩
  obtain ⟨g, rfl⟩ := hgs
  obtain ⟨s, rfl, rfl, rfl, hs⟩ := open_string Tryd.underlying9 (hval 0 9 v0 rfl rfl) h0
  clear hA0
  have htab : ∀ i, i < 20 → W.cell? ⟨0, i, none⟩ = some (.string (wordAt i)) := fun i hi => table hL i hi
  refine (codeOf_walk s W hs htab).mono fun e W' ⟨he, bel⟩ => ?_
  subst he
  exact ⟨_, rfl, _, _, _, [], _, _, hW', trodAll_mk1 (shut_bool Tryd.underlying4 _), (trodAll_cons_mk (Below.trod laidOut (by kernel_rfl) (of_decide_eq_true (by kernel_rfl)) k0 bel lt0) trodAll_mk0), Below.trodVars laidOut bel (by kernel_rfl) hV, bel.frame _, fun h => by cases h⟩

theorem fnExactCodeOf_met (os : Os) : laidMet Tryd.prog Rows.fnExactCodeOfRow.laid (({ World.holding Tryd.prog os ⟨#[], #[], []⟩ with heap := (World.holding Tryd.prog os ⟨#[], #[], []⟩).heap.modify 0 fun | .cells _ t frozen => .cells (words.map fun s => Value.string ⟨s.toArray⟩).toArray t frozen | o => o } : World).forCall (fun _ _ => 0) ⟨#[], #[.string ByteArray.empty], []⟩).memory :=
  laidMet_of_run' 8 (by kernel_rfl) (by kernel_rfl)
theorem fnExactCodeOf_reads (os : Os) {H : Type} (enc : TypeId × Value → H) : ∃ places, DataW.whole enc Tryd.prog (({ World.holding Tryd.prog os ⟨#[], #[], []⟩ with heap := (World.holding Tryd.prog os ⟨#[], #[], []⟩).heap.modify 0 fun | .cells _ t frozen => .cells (words.map fun s => Value.string ⟨s.toArray⟩).toArray t frozen | o => o } : World).forCall (fun _ _ => 0) ⟨#[], #[.string ByteArray.empty], []⟩).memory Tryd.f4.params.toList Rows.fnExactCodeOfSpec.vars false #[.string ByteArray.empty].toList 8 = some ([.lit (.string [])], [Rows.laid_loop_example_g00208_impl_codeWords], places) :=
  ⟨MemPlace.row ⟨0, 0, none⟩ 20, by kernel_rfl⟩

set_option maxRecDepth 100000 in
theorem fnExactCodeOf_lifted (os : Os) (started : os.Started) (H : Type) (enc : TypeId × Value → H) (F : Stop.Interp) :
    ReturnsInHanded {} Tryd.checked os 4 .any ((OpenSpec.ofChange Rows.fnExactCodeOfSpec).preRow enc Tryd.prog Tryd.f4 Rows.fnExactCodeOfRow.domain false Rows.fnExactCodeOfRow.laid) (((OpenSpec.ofChange Rows.fnExactCodeOfSpec).at F).post enc Tryd.prog Tryd.f4 false true false false) := by
  obtain ⟨places, hx⟩ := fnExactCodeOf_reads os enc
  refine returnsInHanded_of_row (C := Tryd.checked) (s := OpenSpec.ofChange Rows.fnExactCodeOfSpec) own started (by kernel_rfl) Tryd.func4
    (witness_row_at (enc := enc) (C := Tryd.checked) false ({ World.holding Tryd.prog os ⟨#[], #[], []⟩ with heap := (World.holding Tryd.prog os ⟨#[], #[], []⟩).heap.modify 0 fun | .cells _ t frozen => .cells (words.map fun s => Value.string ⟨s.toArray⟩).toArray t frozen | o => o } : World) #[.string ByteArray.empty] rfl (by kernel_rfl) (by kernel_rfl) (by kernel_rfl)
      (OpenSpec.preRow_of_cond 8 hx (by kernel_rfl) (fun k hk => by cases hk) (by kernel_rfl) (fnExactCodeOf_met os))) ?_
  intro W base args ds gs before hval hW _ _ _ hL _ _
  exact fnExactCodeOf_contract H enc W base args ds gs before hval hW hL

theorem fnExactCodeOf_said : Rows.FnExactCodeOfSaid :=
  OpenClaim.holds_of_cond 4 Tryd.f4 rfl rfl rfl rfl rfl rfl rfl ⟨rfl, rfl, rfl, rfl, rfl⟩ rfl rfl rfl rfl rfl (by kernel_rfl) Tryd.func4 (by kernel_rfl)
    (of_decide_eq_true (by kernel_rfl)) (by unfold Func.isWrapper; first | (rw [if_pos (by decide +kernel)]; kernel_rfl) | (rw [if_neg (by decide +kernel)]; exact ⟨rfl, rfl⟩))
    (fun os started H enc _ F => by rw [OpenClaim.pre_eq_preRow]; exact fnExactCodeOf_lifted os started H enc F)

theorem fnExactCodeOf_plain (f : FuncId) (fn : Func) (hf : Tryd.pinned.checked.prog.funcNamed "loop.example/g00208/laws.FnExactCodeOf" = some f) (hfn : Tryd.pinned.checked.prog.funcs[f]? = some fn) :
    true = Tryd.pinned.checked.prog.looks [] ∧ ∀ (j : Nat) t, fn.params[j]? = some t → Tryd.pinned.checked.prog.wantsStandIn t = false := by
  obtain rfl : f = 4 := Option.some.inj ((show Tryd.prog.funcNamed "loop.example/g00208/laws.FnExactCodeOf" = some 4 by kernel_rfl).symm.trans hf) |>.symm
  obtain rfl : fn = Tryd.f4 := (Option.some.inj (Tryd.func4.symm.trans hfn)).symm
  refine ⟨by kernel_rfl, fun j t ht => ?_⟩
  rw [Tryd.params4] at ht
  obtain rfl : t = 9 := by simpa using Array.mem_of_getElem? ht
  exact (show Tryd.prog.wantsStandIn 9 = false by kernel_rfl)

/-- The statement: the tied card. -/
theorem fnExactCodeOf_card : Rows.FnExactCodeOfCardSaid :=
  Claim7.holds_tied_plain_at .later [] _ _ _ _ fnExactCodeOf_said (fun _ h => by cases h) (by kernel_rfl) (fun _ h => by cases h) fnExactCodeOf_row_tie rfl ⟨rfl, rfl⟩ (by kernel_rfl) rfl fnExactCodeOf_plain (by kernel_rfl)
end Go.Proofs.YtipddjgoohnalaaDoor
