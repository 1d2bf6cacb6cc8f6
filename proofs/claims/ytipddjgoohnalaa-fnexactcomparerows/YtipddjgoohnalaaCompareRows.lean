/- For every two lists of values, FnExactCompareRows returns true: impl.CompareRows answers as spec.CompareRows does and writes into no argument; both lists read as before. -/
import Derived.Test.YtipddjgoohnalaaRowsF
namespace Go.Proofs.Ytipddjgoohnalaa
open Go.ChangeShapes Go.WideShapes Go.ChangeAt Go.RowKit Go.Joins

set_option maxRecDepth 100000 in
set_option maxHeartbeats 4000000 in
theorem lawCompareRows (a0 a1 : Option Addr) (c0 c1 : Nat) (vs us : List V3) (w : World) (r0 : RowV w a0 vs) (r1 : RowV w a1 us) (hl0 : vs.length ≤ maxLen) (hl1 : us.length ≤ maxLen) :
    Calls Try.prog 8 #[.slice a0 vs.length c0, .slice a1 us.length c1] w fun e w' => e = .returned (.bool true) ∧ Below w.heap.size w w' := by
  have H0 : Hid (RowV w a0 vs) := r0
  have H1 : Hid (RowV w a1 us) := r1
  have HM0 : Hid (vs.length ≤ maxLen) := hl0
  have HM1 : Hid (us.length ≤ maxLen) := hl1
  clear r0 r1 hl0 hl1
  go_enter Try.func8, Try.ntmps8
  go_wp2_with fail
  refine (szS_any a0 c0 vs _ w H0.out HM0.out (by omega) (by omega)).mono ?_
  rintro e w1 ⟨x, rfl, x0, x1, x2, hb1⟩
  by_cases hx : x < 0
  · clear x2
    go_wp2
    go_ret
    exact ⟨rfl, hb1⟩
  have g0 : vs.length ≤ 1048576 := by have := x2 (by omega); omega
  clear x2
  go_wp2_with fail
  refine (szS_any a1 c1 us x w1 (H1.out.below hb1) HM1.out (by omega) (by omega)).mono ?_
  rintro e w2 ⟨y, rfl, y0, y1, y2, hb2⟩
  have B2 := below_step hb1 (Nat.le_refl _) hb2
  clear hb1 hb2
  by_cases hy : y < 0
  · clear y2
    go_wp2
    go_ret
    exact ⟨rfl, B2⟩
  have g1 : us.length ≤ 1048576 := by have := y2 (by omega); omega
  clear y2
  go_wp2_with fail
  refine (toS_row a0 c0 vs w2 (H0.out.below B2) g0).mono ?_
  rintro e w3 ⟨p0, rfl, R0, hb3⟩
  have B3 := below_step B2 (Nat.le_refl _) hb3
  have K0 : Hid (RowV w3 (some ⟨p0, 0, none⟩) vs) := R0
  clear R0 hb3 B2
  go_wp2_with fail
  refine (toS_row a1 c1 us w3 (H1.out.below B3) g1).mono ?_
  rintro e w4 ⟨p1, rfl, R1, hb4⟩
  have B4 := below_step B3 (Nat.le_refl _) hb4
  have K0b : Hid (RowV w4 (some ⟨p0, 0, none⟩) vs) := K0.out.below hb4
  have K1 : Hid (RowV w4 (some ⟨p1, 0, none⟩) us) := R1
  clear R1 hb4 B3 K0
  go_wp2_with fail
  refine (specCompareRows_any _ _ _ _ vs us w4 K0b.out K1.out g0 g1).mono ?_
  rintro e w5 ⟨rfl, hb5⟩
  have B5 := below_step B4 (Nat.le_refl _) hb5
  clear hb5 B4 K0b K1
  go_wp2_with fail
  refine (toS_row a0 c0 vs w5 (H0.out.below B5) g0).mono ?_
  rintro e w6 ⟨q0, rfl, R0, hb6⟩
  have B6 := below_step B5 (Nat.le_refl _) hb6
  have L0 : Hid (RowV w6 (some ⟨q0, 0, none⟩) vs) := R0
  clear R0 hb6 B5
  go_wp2_with fail
  refine (toS_row a1 c1 us w6 (H1.out.below B6) g1).mono ?_
  rintro e w7 ⟨q1, rfl, R1, hb7⟩
  have B7 := below_step B6 (Nat.le_refl _) hb7
  have L0b : Hid (RowV w7 (some ⟨q0, 0, none⟩) vs) := L0.out.below hb7
  have L1 : Hid (RowV w7 (some ⟨q1, 0, none⟩) us) := R1
  clear R1 hb7 B6 L0
  go_wp2_with fail
  refine (implCompareRows_any _ _ _ _ vs us w7 L0b.out L1.out g0 g1).mono ?_
  rintro e w8 ⟨rfl, hb8⟩
  have B8 := below_step B7 (Nat.le_refl _) hb8
  have L0c : Hid (RowV w8 (some ⟨q0, 0, none⟩) vs) := L0b.out.below hb8
  have L1c : Hid (RowV w8 (some ⟨q1, 0, none⟩) us) := L1.out.below hb8
  clear hb8 B7 L0b L1
  go_wp2_with fail
  refine (toS_row a0 c0 vs w8 (H0.out.below B8) g0).mono ?_
  rintro e w9 ⟨s0, rfl, R0, hb9⟩
  have B9 := below_step B8 (Nat.le_refl _) hb9
  have L0d : Hid (RowV w9 (some ⟨q0, 0, none⟩) vs) := L0c.out.below hb9
  have L1d : Hid (RowV w9 (some ⟨q1, 0, none⟩) us) := L1c.out.below hb9
  have M0 : Hid (RowV w9 (some ⟨s0, 0, none⟩) vs) := R0
  clear R0 hb9 B8 L0c L1c
  go_wp2_with fail
  refine (eqS_same _ _ _ _ vs w9 L0d.out M0.out g0).mono ?_
  rintro e w10 ⟨rfl, hb10⟩
  have B10 := below_step B9 (Nat.le_refl _) hb10
  have L1e : Hid (RowV w10 (some ⟨q1, 0, none⟩) us) := L1d.out.below hb10
  clear hb10 B9 L0d L1d M0
  go_wp2_with fail
  refine (toS_row a1 c1 us w10 (H1.out.below B10) g1).mono ?_
  rintro e w11 ⟨s1, rfl, R1, hb11⟩
  have B11 := below_step B10 (Nat.le_refl _) hb11
  have L1f : Hid (RowV w11 (some ⟨q1, 0, none⟩) us) := L1e.out.below hb11
  have M1 : Hid (RowV w11 (some ⟨s1, 0, none⟩) us) := R1
  clear R1 hb11 B10 L1e
  go_wp2_with fail
  refine (eqS_same _ _ _ _ us w11 L1f.out M1.out g1).mono ?_
  rintro e w12 ⟨rfl, hb12⟩
  have B12 := below_step B11 (Nat.le_refl _) hb12
  clear hb12 B11 L1f M1
  go_wp2
  go_ret
  exact ⟨rfl, B12⟩

set_option maxRecDepth 100000 in
theorem fnExactCompareRows_lifted (os : Os) (started : os.Started) (H : Type) (enc : TypeId × Value → H) :
    ReturnsInHanded {} Try.checked os 8 .any (Rows.fnExactCompareRowsSpec.pre6 enc Try.prog Try.f8 Rows.fnExactCompareRowsRow.domain false) (Rows.fnExactCompareRowsSpec.post enc Try.prog Try.f8 false true false false) := by
  refine returnsInHanded_of_change (C := Try.checked) own started (by kernel_rfl) Try.func8
    (ChangeSpec.witness6 (enc := enc) (C := Try.checked) false ⟨#[], #[.slice none 0 0, .slice none 0 0], []⟩ 8 (by kernel_rfl) (by kernel_rfl) (by kernel_rfl) (by kernel_rfl)) ?_
  intro W base args ds gs before hval0 hW hcnd _
  have hval : ∀ (j : Nat) t v, Try.f8.params[j]? = some t → args[j]? = some v → Value.okWide Try.prog W .any base t v := hval0
  have hW' := hW
  obtain ⟨p, q, hA0, hV, rfl, hfz, hnd⟩ := hW
  have hA : DataW.TrodAll enc Try.prog W 0 (fun _ => true) true Try.f8.params.toList args.toList ds p := hA0
  rw [Try.params8] at hA hval
  obtain ⟨v0, vs0, d0, ds0, p0, q0, hargs, rfl, rfl, h0, r0⟩ := trodAll_cons hA
  obtain ⟨v1, vs1, d1, ds1, p1, q1, rfl, rfl, rfl, h1, r1⟩ := trodAll_cons r0
  obtain ⟨rfl, rfl, rfl⟩ := trodAll_nil r1
  obtain rfl : args = #[v0, v1] := by cases args; simp_all
  obtain ⟨rfl, rfl⟩ := trodVars_none hV
  have k0 := h0
  have lt0 : ∀ x ∈ p0, x.block < W.heap.size := by obtain ⟨m, hm⟩ := k0; exact DataW.trod_lt m _ _ _ hm
  have k1 := h1
  have lt1 : ∀ x ∈ p1, x.block < W.heap.size := by obtain ⟨m, hm⟩ := k1; exact DataW.trod_lt m _ _ _ hm
  obtain ⟨a0, len0, cap0, rfl⟩ := okWide_slice Try.underlying45 (hval 0 45 v0 rfl rfl)
  obtain ⟨z0, rfl, w0, m0⟩ := open_rowV h0
  obtain ⟨a1, len1, cap1, rfl⟩ := okWide_slice Try.underlying45 (hval 1 45 v1 rfl rfl)
  obtain ⟨z1, rfl, w1, m1⟩ := open_rowV h1
  clear hA0 hval0
  refine (lawCompareRows a0 a1 cap0 cap1 z0 z1 W w0 w1 m0 m1).mono fun e W' ⟨he, bel⟩ => ?_
  subst he
  exact ⟨_, rfl, _, _, _, [], _, [], hW', trodAll_mk1 (shut_bool Try.underlying4 _), (trodAll_cons_mk (Below.trod laidOut (by kernel_rfl) (of_decide_eq_true (by kernel_rfl)) k0 bel lt0) (trodAll_cons_mk (Below.trod laidOut (by kernel_rfl) (of_decide_eq_true (by kernel_rfl)) k1 bel lt1) trodAll_mk0)), rfl, bel.frame _, fun h => by cases h⟩

theorem fnExactCompareRows_over : Rows.fnExactCompareRowsRow.holds Try.pinned (OpenSpec.ofChange Rows.fnExactCompareRowsSpec) :=
  OpenClaim.holds_of_wide 8 Try.f8 rfl rfl rfl rfl rfl rfl rfl ⟨rfl, rfl, rfl, rfl, rfl⟩ rfl rfl rfl rfl rfl (by kernel_rfl) Try.func8 (by kernel_rfl)
    (of_decide_eq_true (by kernel_rfl)) (by unfold Func.isWrapper; first | (rw [if_pos (by decide +kernel)]; kernel_rfl) | (rw [if_neg (by decide +kernel)]; exact ⟨rfl, rfl⟩))
    (fun os started H enc _ => fnExactCompareRows_lifted os started H enc)

/-- The statement. -/
theorem fnExactCompareRows_proved : Rows.FnExactCompareRowsSaid := fnExactCompareRows_over
end Go.Proofs.Ytipddjgoohnalaa
