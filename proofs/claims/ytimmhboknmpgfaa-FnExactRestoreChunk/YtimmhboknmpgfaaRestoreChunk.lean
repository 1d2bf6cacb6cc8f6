/- For every restore and every text, FnExactRestoreChunk returns true: impl.RestoreChunk answers as spec.RestoreChunk does, the restore and the code; both arguments read as before. -/
import Derived.Test.YtimmhboknmpgfaaRsC
namespace Go.Proofs.Ytimmhboknmpgfaa
open Go.ChangeShapes Go.WideShapes Go.ChangeAt Go.RowKit Go.Joins
open Go.ChangeMaps (open_string)

theorem eqRestore_same (n : Int) (t : ByteArray) (d : Bool) (w : World) :
    Calls Try.prog 11 #[RV n t d, RV n t d] w fun e w' => e = .returned (.bool true) ∧ Below w.heap.size w w' := by
  go_enter Try.func11, Try.ntmps11
  go_wp2
  go_ret
  exact ⟨rfl, ((Below.refl _ _).alloc (Nat.le_refl _) _).alloc (by simp) _⟩
/-- A restore that the law was handed, in its block. -/
abbrev ArgB (w : World) (n : Int) (t : ByteArray) (d : Bool) (w' : World) : Prop :=
  (w'.cell? ⟨w.heap.size, 0, none⟩ = some (.int .i64 n) ∧ w'.cell? ⟨w.heap.size, 1, none⟩ = some (.string t) ∧ w'.cell? ⟨w.heap.size, 2, none⟩ = some (.bool d)) ∧ Hid (w.heap.size < w'.heap.size ∧ Below w.heap.size w w')
theorem ArgB.keep {w w1 w2 : World} {n : Int} {t : ByteArray} {d : Bool} (h : ArgB w n t d w1) (hb : Below w1.heap.size w1 w2) : ArgB w n t d w2 := by
  obtain ⟨⟨h1, h2, h3⟩, ⟨h4, h5⟩⟩ := h
  have hc := (bcell hb).1
  exact ⟨⟨(hc _ _ h4).trans h1, (hc _ _ h4).trans h2, (hc _ _ h4).trans h3⟩, ⟨Nat.lt_of_lt_of_le h4 hb.size, h5.trans (hb.mono h5.size)⟩⟩
theorem ArgB.start (w : World) (n : Int) (t : ByteArray) (d : Bool) (ty : TypeId) : ArgB w n t d (w.alloc (.cells #[.int .i64 n, .string t, .bool d] ty)) :=
  ⟨by simp, ⟨by simp, (Below.refl _ _).alloc (Nat.le_refl _) _⟩⟩
theorem rcR_is (n : Int) (t : ByteArray) (d : Bool) (c : ByteArray) : ∃ n' t' d' k', rcR n t d c = RC n' t' d' k' := by
  unfold rcR tkR
  repeat' split
  all_goals exact ⟨_, _, _, _, rfl⟩

set_option maxRecDepth 100000 in
set_option maxHeartbeats 2000000 in
theorem lawChunk_any (n : Int) (t : ByteArray) (d : Bool) (c : ByteArray) (w : World) (ht : t.size ≤ maxLen) (hm : c.size ≤ maxLen) :
    Calls Try.prog 4 #[RV n t d, .string c] w fun e w' => e = .returned (.bool true) ∧ Below w.heap.size w w' := by
  have A0 : Hid (ArgB w n t d _) := ArgB.start w n t d 23
  have hz := szRestore_any n 1048576 t d (w.alloc (.cells #[.int .i64 n, .string t, .bool d] 23)) (by omega) (by omega) ht
  have HT : Hid (∀ w1, Calls Try.prog 7 #[RV n t d] w1 fun e w' => e = .returned (RV n t d) ∧ Below w1.heap.size w1 w') := fun w1 => toRestore_any n t d w1
  have HS : Hid (∀ w1, Calls Try.prog 9 #[RV n t d, .string c] w1 fun e w' => e = .returned (rcR n t d c) ∧ Below w1.heap.size w1 w') := fun w1 => specChunk_any n t d c w1 ht hm
  have HI : Hid (∀ w1, Calls Try.prog 10 #[RV n t d, .string c] w1 fun e w' => e = .returned (rcR n t d c) ∧ Below w1.heap.size w1 w') := fun w1 => implChunk_any n t d c w1 ht hm
  obtain ⟨xn, xt, xd, xc, hx⟩ := rcR_is n t d c
  rw [hx] at HS HI
  clear hx
  generalize leftOf 1048576 t = lf at *
  clear ht
  unfold maxLen at hm
  by_cases hlong : 1048576 < c.size
  · have h' : (1048576 : Int) < (c.size : Int) := by omega
    go_enter Try.func4, Try.ntmps4
    go_wp2_with fail
    go_ret
    exact ⟨rfl, A0.out.2.out.2⟩
  obtain ⟨⟨u0, u1, u2⟩, _⟩ := A0.out
  go_enter Try.func4, Try.ntmps4
  go_wp2_with fail
  refine hz.mono ?_
  rintro e w1 ⟨rfl, b1⟩
  have A1 : Hid (ArgB w n t d w1) := ArgB.keep A0.out b1
  clear u0 u1 u2 b1 A0 hz
  by_cases hlf : lf < 0
  · go_wp2_with fail
    go_ret
    exact ⟨rfl, A1.out.2.out.2⟩
  obtain ⟨⟨u0, u1, u2⟩, _⟩ := A1.out
  go_wp2_with fail
  refine (HT.out _).mono ?_
  rintro e w2 ⟨rfl, b2⟩
  have A2 : Hid (ArgB w n t d w2) := ArgB.keep A1.out b2
  clear u0 u1 u2 b2 A1
  go_wp2_with fail
  refine (HS.out _).mono ?_
  rintro e w3 ⟨rfl, b3⟩
  have A3 : Hid (ArgB w n t d w3) := ArgB.keep A2.out b3
  clear b3 A2 HS
  have A4 : Hid (ArgB w n t d (w3.alloc (.cells #[.int .i64 xn, .string xt, .bool xd] 26))) := ArgB.keep A3.out ((Below.refl _ _).alloc (Nat.le_refl _) _)
  have R4 : Hid (BoxR (w3.alloc (.cells #[.int .i64 xn, .string xt, .bool xd] 26)) w3.heap.size xn xt xd) := heap_alloc_new w3 _
  have L4 : w3.heap.size < (w3.alloc (.cells #[.int .i64 xn, .string xt, .bool xd] 26)).heap.size := by simp
  obtain ⟨⟨u0, u1, u2⟩, _⟩ := A3.out
  have hl3 : w.heap.size < w3.heap.size := A3.out.2.out.1
  go_wp2_with fail
  refine (HT.out _).mono ?_
  rintro e w5 ⟨rfl, b5⟩
  have A5 : Hid (ArgB w n t d w5) := ArgB.keep A4.out b5
  have R5 : Hid (BoxR w5 w3.heap.size xn xt xd ∧ w3.heap.size < w5.heap.size) := ⟨(b5.block _ L4).trans R4.out, Nat.lt_of_lt_of_le L4 b5.size⟩
  clear u0 u1 u2 b5 A4 R4 L4 HT A3 hl3
  go_wp2_with fail
  refine (HI.out _).mono ?_
  rintro e w6 ⟨rfl, b6⟩
  have A6 : Hid (ArgB w n t d w6) := ArgB.keep A5.out b6
  have R6 : BoxR w6 w3.heap.size xn xt xd := (b6.block _ R5.out.2).trans R5.out.1
  have hl6 : w3.heap.size < w6.heap.size := Nat.lt_of_lt_of_le R5.out.2 b6.size
  obtain ⟨r0, r1, r2, _, _, _⟩ := two_facts R6
  clear b6 A5 R5 HI R6
  have E1 := eqRestore_same xn xt xd (w6.alloc (.cells #[.int .i64 xn, .string xt, .bool xd] 26))
  have A7 : Hid (ArgB w n t d (w6.alloc (.cells #[.int .i64 xn, .string xt, .bool xd] 26))) := ArgB.keep A6.out ((Below.refl _ _).alloc (Nat.le_refl _) _)
  clear A6
  go_wp2_with fail
  refine E1.mono ?_
  rintro e w8 ⟨rfl, b8⟩
  have A8 : Hid (ArgB w n t d w8) := ArgB.keep A7.out b8
  clear b8 A7 E1 r0 r1 r2
  go_wp2_with fail
  go_ret
  exact ⟨rfl, A8.out.2.out.2⟩

set_option maxRecDepth 100000 in
theorem fnExactRestoreChunk_lifted (os : Os) (started : os.Started) (H : Type) (enc : TypeId × Value → H) :
    ReturnsInHanded {} Try.checked os 4 .any (Rows.fnExactRestoreChunkSpec.pre6 enc Try.prog Try.f4 Rows.fnExactRestoreChunkRow.domain false) (Rows.fnExactRestoreChunkSpec.post enc Try.prog Try.f4 false true false false) := by
  refine returnsInHanded_of_change (C := Try.checked) own started (by kernel_rfl) Try.func4
    (ChangeSpec.witness6 (enc := enc) (C := Try.checked) false ⟨#[], #[.agg #[.int .i64 0, .string ByteArray.empty, .bool false], .string ByteArray.empty], []⟩ 8 (by kernel_rfl) (by kernel_rfl) (by kernel_rfl) (by kernel_rfl)) ?_
  intro W base args ds gs before hval0 hW hcnd _
  have hval : ∀ (j : Nat) t v, Try.f4.params[j]? = some t → args[j]? = some v → Value.okWide Try.prog W .any base t v := hval0
  have hW' := hW
  obtain ⟨p, q, hA0, hV, rfl, hfz, hnd⟩ := hW
  have hA : DataW.TrodAll enc Try.prog W 0 (fun _ => true) true Try.f4.params.toList args.toList ds p := hA0
  rw [Try.params4] at hA hval
  obtain ⟨v0, vs0, d0, ds0, p0, q0, hargs, rfl, rfl, h0, r0⟩ := trodAll_cons hA
  obtain ⟨v1, vs1, d1, ds1, p1, q1, rfl, rfl, rfl, h1, r1⟩ := trodAll_cons r0
  obtain ⟨rfl, rfl, rfl⟩ := trodAll_nil r1
  obtain rfl : args = #[v0, v1] := by cases args; simp_all
  obtain ⟨rfl, rfl⟩ := trodVars_none hV
  have k0 := h0
  have lt0 : ∀ x ∈ p0, x.block < W.heap.size := by obtain ⟨m, hm⟩ := k0; exact DataW.trod_lt m _ _ _ hm
  have k1 := h1
  have lt1 : ∀ x ∈ p1, x.block < W.heap.size := by obtain ⟨m, hm⟩ := k1; exact DataW.trod_lt m _ _ _ hm
  obtain ⟨n, t, d, rfl, _, ht⟩ := open_restore (hval 0 23 v0 rfl rfl) h0
  obtain ⟨s1, rfl, rfl, rfl, hs1⟩ := open_string Try.underlying9 (hval 1 9 v1 rfl rfl) h1
  clear hA0 hval0
  refine (lawChunk_any n t d s1 W ht hs1).mono fun e W' ⟨he, bel⟩ => ?_
  subst he
  exact ⟨_, rfl, _, _, _, [], _, [], hW', trodAll_mk1 (shut_bool Try.underlying4 _), (trodAll_cons_mk (Below.trod laidOut (by kernel_rfl) (of_decide_eq_true (by kernel_rfl)) k0 bel lt0) (trodAll_cons_mk (Below.trod laidOut (by kernel_rfl) (of_decide_eq_true (by kernel_rfl)) k1 bel lt1) trodAll_mk0)), rfl, bel.frame _, fun h => by cases h⟩

theorem fnExactRestoreChunk_over : Rows.fnExactRestoreChunkRow.holds Try.pinned (OpenSpec.ofChange Rows.fnExactRestoreChunkSpec) :=
  OpenClaim.holds_of_wide 4 Try.f4 rfl rfl rfl rfl rfl rfl rfl ⟨rfl, rfl, rfl, rfl, rfl⟩ rfl rfl rfl rfl rfl (by kernel_rfl) Try.func4 (by kernel_rfl)
    (of_decide_eq_true (by kernel_rfl)) (by unfold Func.isWrapper; first | (rw [if_pos (by decide +kernel)]; kernel_rfl) | (rw [if_neg (by decide +kernel)]; exact ⟨rfl, rfl⟩))
    (fun os started H enc _ => fnExactRestoreChunk_lifted os started H enc)

/-- The statement. -/
theorem fnExactRestoreChunk_proved : Rows.FnExactRestoreChunkSaid := fnExactRestoreChunk_over
end Go.Proofs.Ytimmhboknmpgfaa
