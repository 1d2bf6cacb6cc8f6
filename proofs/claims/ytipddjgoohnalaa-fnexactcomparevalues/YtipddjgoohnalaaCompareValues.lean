/- For every two values, FnExactCompareValues returns true: impl.CompareValues answers as spec.CompareValues does, and both read as before. -/
import Derived.Test.YtipddjgoohnalaaCompare
namespace Go.Proofs.Ytipddjgoohnalaa
open Go.ChangeShapes Go.WideShapes Go.ChangeAt Go.RowKit Go.Joins

/-- Two values lie in the first two blocks behind w; what lay in w lies there still. -/
abbrev Two (w : World) (k1 n1 : Int) (t1 : ByteArray) (k2 n2 : Int) (t2 : ByteArray) (w' : World) : Prop :=
  w'.cell? ⟨w.heap.size, 0, none⟩ = some (.int .i64 k1) ∧ w'.cell? ⟨w.heap.size, 1, none⟩ = some (.int .i64 n1) ∧ w'.cell? ⟨w.heap.size, 2, none⟩ = some (.string t1) ∧ w'.cell? ⟨w.heap.size + 1, 0, none⟩ = some (.int .i64 k2) ∧ w'.cell? ⟨w.heap.size + 1, 1, none⟩ = some (.int .i64 n2) ∧ w'.cell? ⟨w.heap.size + 1, 2, none⟩ = some (.string t2) ∧ w.heap.size + 1 < w'.heap.size ∧ Below w.heap.size w w'
theorem Two.keep {w : World} {k1 n1 : Int} {t1 : ByteArray} {k2 n2 : Int} {t2 : ByteArray} {w1 w2 : World} (h : Two w k1 n1 t1 k2 n2 t2 w1) (hb : Below w1.heap.size w1 w2) : Two w k1 n1 t1 k2 n2 t2 w2 := by
  obtain ⟨h1, h2, h3, h4, h5, h6, h7, h8⟩ := h
  have hc := (bcell hb).1
  have hs := hb.size
  exact ⟨(hc _ _ (by omega)).trans h1, (hc _ _ (by omega)).trans h2, (hc _ _ (by omega)).trans h3, (hc _ _ h7).trans h4, (hc _ _ h7).trans h5, (hc _ _ h7).trans h6, by omega, below_step h8 (Nat.le_refl _) hb⟩
theorem Two.drew {w : World} {k1 n1 : Int} {t1 : ByteArray} {k2 n2 : Int} {t2 : ByteArray} {w1 : World} (h : Two w k1 n1 t1 k2 n2 t2 w1) : Two w k1 n1 t1 k2 n2 t2 w1.drew :=
  ⟨h.1, h.2.1, h.2.2.1, h.2.2.2.1, h.2.2.2.2.1, h.2.2.2.2.2.1, h.2.2.2.2.2.2.1, h.2.2.2.2.2.2.2.drew⟩
theorem Two.of {w wr : World} {k1 n1 : Int} {t1 : ByteArray} {k2 n2 : Int} {t2 : ByteArray} {ty1 ty2 : TypeId}
    (hB : Below ((w.alloc (.cells #[.int .i64 k1, .int .i64 n1, .string t1] ty1)).alloc (.cells #[.int .i64 k2, .int .i64 n2, .string t2] ty2)).heap.size ((w.alloc (.cells #[.int .i64 k1, .int .i64 n1, .string t1] ty1)).alloc (.cells #[.int .i64 k2, .int .i64 n2, .string t2] ty2)) wr) :
    Two w k1 n1 t1 k2 n2 t2 wr := by
  refine Two.keep (w1 := (w.alloc (.cells #[.int .i64 k1, .int .i64 n1, .string t1] ty1)).alloc (.cells #[.int .i64 k2, .int .i64 n2, .string t2] ty2)) ?_ hB
  refine ⟨?_, ?_, ?_, ?_, ?_, ?_, ?_, (((Below.refl _ _).alloc (Nat.le_refl _) _).alloc (by simp) _)⟩ <;> go_simp

set_option maxHeartbeats 2000000 in
theorem lawCompareValues_any (k1 n1 : Int) (t1 : ByteArray) (k2 n2 : Int) (t2 : ByteArray) (w : World) (ht1 : t1.size ≤ maxLen) (ht2 : t2.size ≤ maxLen) :
    Calls Try.prog 7 #[VV k1 n1 t1, VV k2 n2 t2] w fun e w' => e = .returned (.bool true) ∧ Below w.heap.size w w' := by
  have hbd := leftOf_bd 1048576 t1 (by omega)
  by_cases hlt : leftOf 1048576 t1 < 0
  · go_enter Try.func7, Try.ntmps7
    go_wp2_with (go_at_call 26; refine (szValue_any _ _ _ _ _ (by omega) (by omega) ht1).mono ?_; rintro e w1 ⟨rfl, hb⟩)
    go_ret
    exact ⟨rfl, (((Below.refl _ _).alloc (Nat.le_refl _) _).alloc (by simp) _).trans (hb.mono (by simp; omega))⟩
  · by_cases hlt2 : leftOf (leftOf 1048576 t1) t2 < 0
    · go_enter Try.func7, Try.ntmps7
      go_wp2_with fail
      refine (szValue_any _ _ _ _ _ (by omega) (by omega) ht1).mono ?_
      rintro e w1 ⟨rfl, hb1⟩
      have hc1 := (bcell hb1).1
      go_wp2_with fail
      refine (szValue_any _ _ _ _ _ (by omega) (by omega) ht2).mono ?_
      rintro e w2 ⟨rfl, hb2⟩
      have hB2 := below_step hb1 (Nat.le_refl _) hb2
      clear hc1 hb1 hb2
      go_wp2
      go_ret
      exact ⟨rfl, (((Below.refl _ _).alloc (Nat.le_refl _) _).alloc (by simp) _).trans (hB2.mono (by simp; omega))⟩
    · go_enter Try.func7, Try.ntmps7
      go_wp2_with fail
      refine (szValue_any _ _ _ _ _ (by omega) (by omega) ht1).mono ?_
      rintro e w1 ⟨rfl, hb1⟩
      have hc1 := (bcell hb1).1
      go_wp2_with fail
      refine (szValue_any _ _ _ _ _ (by omega) (by omega) ht2).mono ?_
      rintro e w2 ⟨rfl, hb2⟩
      have hB2 := below_step hb1 (Nat.le_refl _) hb2
      clear hc1 hb1 hb2
      have hT : Two w k1 n1 t1 k2 n2 t2 w2.drew := Two.of hB2.drew
      clear hB2
      go_wp2_with fail
      go_region_held3 (Two w k1 n1 t1 k2 n2 t2) (first | exact hT | exact Two.keep (by assumption) hb) (first | (go_at_call 28; refine (toValue_any _ _ _ _).mono ?_; rintro e wA ⟨rfl, hb⟩) | (go_at_call 16; refine (specCompare_any _ _ _ _ _ _ _).mono ?_; rintro e wA ⟨rfl, hb⟩))
      rename_i _ _ _ _ hTL
      have hT2 := Two.drew hTL
      clear hT hTL
      go_wp2_with fail
      go_region_held3 (Two w k1 n1 t1 k2 n2 t2) (first | exact hT2 | exact Two.keep (by assumption) hb) (first | (go_at_call 28; refine (toValue_any _ _ _ _).mono ?_; rintro e wA ⟨rfl, hb⟩) | (go_at_call 15; refine (implCompare_any _ _ _ _ _ _ _).mono ?_; rintro e wA ⟨rfl, hb⟩))
      rename_i _ _ _ _ hTL
      have hE := hTL.2.2.2.2.2.2.2
      clear hT2 hTL
      go_wp2
      go_ret
      exact ⟨rfl, hE⟩

set_option maxRecDepth 100000 in
theorem fnExactCompareValues_lifted (os : Os) (started : os.Started) (H : Type) (enc : TypeId × Value → H) :
    ReturnsInHanded {} Try.checked os 7 .any (Rows.fnExactCompareValuesSpec.pre6 enc Try.prog Try.f7 Rows.fnExactCompareValuesRow.domain false) (Rows.fnExactCompareValuesSpec.post enc Try.prog Try.f7 false true false false) := by
  refine returnsInHanded_of_change (C := Try.checked) own started (by kernel_rfl) Try.func7
    (ChangeSpec.witness6 (enc := enc) (C := Try.checked) false ⟨#[], #[.agg #[.int .i64 0, .int .i64 0, .string ByteArray.empty], .agg #[.int .i64 0, .int .i64 0, .string ByteArray.empty]], []⟩ 8 (by kernel_rfl) (by kernel_rfl) (by kernel_rfl) (by kernel_rfl)) ?_
  intro W base args ds gs before hval0 hW hcnd _
  have hval : ∀ (j : Nat) t v, Try.f7.params[j]? = some t → args[j]? = some v → Value.okWide Try.prog W .any base t v := hval0
  have hW' := hW
  obtain ⟨p, q, hA0, hV, rfl, hfz, hnd⟩ := hW
  have hA : DataW.TrodAll enc Try.prog W 0 (fun _ => true) true Try.f7.params.toList args.toList ds p := hA0
  rw [Try.params7] at hA hval
  obtain ⟨v0, vs0, d0, ds0, p0, q0, hargs, rfl, rfl, h0, r0⟩ := trodAll_cons hA
  obtain ⟨v1, vs1, d1, ds1, p1, q1, rfl, rfl, rfl, h1, r1⟩ := trodAll_cons r0
  obtain ⟨rfl, rfl, rfl⟩ := trodAll_nil r1
  obtain rfl : args = #[v0, v1] := by cases args; simp_all
  obtain ⟨rfl, rfl⟩ := trodVars_none hV
  have k0 := h0
  have lt0 : ∀ x ∈ p0, x.block < W.heap.size := by obtain ⟨m, hm⟩ := k0; exact DataW.trod_lt m _ _ _ hm
  have k1 := h1
  have lt1 : ∀ x ∈ p1, x.block < W.heap.size := by obtain ⟨m, hm⟩ := k1; exact DataW.trod_lt m _ _ _ hm
  obtain ⟨ka, na, ta, rfl, _, _, hta⟩ := open_value (hval 0 39 v0 rfl rfl) h0
  obtain ⟨kb, nb, tb, rfl, _, _, htb⟩ := open_value (hval 1 39 v1 rfl rfl) h1
  clear hA0 hval0
  refine (lawCompareValues_any ka na ta kb nb tb W hta htb).mono fun e W' ⟨he, bel⟩ => ?_
  subst he
  exact ⟨_, rfl, _, _, _, [], _, [], hW', trodAll_mk1 (shut_bool Try.underlying4 _), (trodAll_cons_mk (Below.trod laidOut (by kernel_rfl) (of_decide_eq_true (by kernel_rfl)) k0 bel lt0) (trodAll_cons_mk (Below.trod laidOut (by kernel_rfl) (of_decide_eq_true (by kernel_rfl)) k1 bel lt1) trodAll_mk0)), rfl, bel.frame _, fun h => by cases h⟩

theorem fnExactCompareValues_over : Rows.fnExactCompareValuesRow.holds Try.pinned (OpenSpec.ofChange Rows.fnExactCompareValuesSpec) :=
  OpenClaim.holds_of_wide 7 Try.f7 rfl rfl rfl rfl rfl rfl rfl ⟨rfl, rfl, rfl, rfl, rfl⟩ rfl rfl rfl rfl rfl (by kernel_rfl) Try.func7 (by kernel_rfl)
    (of_decide_eq_true (by kernel_rfl)) (by unfold Func.isWrapper; first | (rw [if_pos (by decide +kernel)]; kernel_rfl) | (rw [if_neg (by decide +kernel)]; exact ⟨rfl, rfl⟩))
    (fun os started H enc _ => fnExactCompareValues_lifted os started H enc)

/-- The statement. -/
theorem fnExactCompareValues_proved : Rows.FnExactCompareValuesSaid := fnExactCompareValues_over
end Go.Proofs.Ytipddjgoohnalaa
