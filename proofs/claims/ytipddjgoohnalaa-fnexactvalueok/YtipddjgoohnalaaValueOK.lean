/- For every value, FnExactValueOK returns true: impl.ValueOK answers as spec.ValueOK does, and the value reads as before. -/
import Derived.Test.YtipddjgoohnalaaFrame
namespace Go.Proofs.Ytipddjgoohnalaa
open Go.ChangeShapes Go.WideShapes Go.ChangeAt Go.RowKit Go.Joins

set_option maxHeartbeats 1000000 in
theorem lawValueOK_any (k n : Int) (t : ByteArray) (w : World) (ht : t.size ≤ maxLen) :
    Calls Try.prog 6 #[VV k n t] w fun e w' => e = .returned (.bool true) ∧ Below w.heap.size w w' := by
  by_cases hlt : leftOf 1048576 t < 0
  · go_enter Try.func6, Try.ntmps6
    go_wp2_with (go_at_call 26; refine (szValue_any _ _ _ _ _ (by omega) (by omega) ht).mono ?_; rintro e w1 ⟨rfl, hb⟩)
    go_ret
    exact ⟨rfl, ((Below.refl _ _).alloc (Nat.le_refl _) _).trans (hb.mono (by simp))⟩
  · go_enter Try.func6, Try.ntmps6
    go_wp2_with fail
    refine (szValue_any _ _ _ _ _ (by omega) (by omega) ht).mono ?_
    rintro e w1 ⟨rfl, hb1⟩
    have hc1 := (bcell hb1).1
    go_wp2_with fail
    refine (toValue_any _ _ _ _).mono ?_
    rintro e w2 ⟨rfl, hb2⟩
    go_wp2_with fail
    refine (specValueOK_any _ _ _ _).mono ?_
    rintro e w3 ⟨rfl, hb3⟩
    have hB3 := below_step (below_step hb1 (Nat.le_refl _) hb2) (Nat.le_refl _) hb3
    clear hc1 hb1 hb2 hb3
    have hc3 := (bcell hB3).1
    go_wp2_with fail
    refine (toValue_any _ _ _ _).mono ?_
    rintro e w4 ⟨rfl, hb4⟩
    go_wp2_with fail
    refine (implValueOK_any _ _ _ _).mono ?_
    rintro e w5 ⟨rfl, hb5⟩
    have hB5 := below_step (below_step hB3 (Nat.le_refl _) hb4) (Nat.le_refl _) hb5
    clear hc3 hB3 hb4 hb5
    go_wp2
    go_ret
    exact ⟨rfl, ((Below.refl _ _).alloc (Nat.le_refl _) _).trans (hB5.mono (by simp))⟩

set_option maxRecDepth 100000 in
theorem valueOK_lifted (os : Os) (started : os.Started) (H : Type) (enc : TypeId × Value → H) :
    ReturnsInHanded {} Try.checked os 6 .any (Rows.fnExactValueOKSpec.pre6 enc Try.prog Try.f6 Rows.fnExactValueOKRow.domain false) (Rows.fnExactValueOKSpec.post enc Try.prog Try.f6 false true false false) := by
  refine returnsInHanded_of_change (C := Try.checked) own started (by kernel_rfl) Try.func6
    (ChangeSpec.witness6 (enc := enc) (C := Try.checked) false ⟨#[], #[.agg #[.int .i64 0, .int .i64 0, .string ByteArray.empty]], []⟩ 8 (by kernel_rfl) (by kernel_rfl) (by kernel_rfl) (by kernel_rfl)) ?_
  intro W base args ds gs before hval0 hW hcnd _
  have hval : ∀ (j : Nat) t v, Try.f6.params[j]? = some t → args[j]? = some v → Value.okWide Try.prog W .any base t v := hval0
  have hW' := hW
  obtain ⟨p, q, hA0, hV, rfl, hfz, hnd⟩ := hW
  have hA : DataW.TrodAll enc Try.prog W 0 (fun _ => true) true Try.f6.params.toList args.toList ds p := hA0
  rw [Try.params6] at hA hval
  obtain ⟨v0, vs0, d0, ds0, p0, q0, hargs, rfl, rfl, h0, r0⟩ := trodAll_cons hA
  obtain ⟨rfl, rfl, rfl⟩ := trodAll_nil r0
  obtain rfl : args = #[v0] := by cases args; simp_all
  obtain ⟨rfl, rfl⟩ := trodVars_none hV
  have k0 := h0
  have lt0 : ∀ x ∈ p0, x.block < W.heap.size := by obtain ⟨m, hm⟩ := k0; exact DataW.trod_lt m _ _ _ hm
  obtain ⟨k, n, t, rfl, _, _, ht⟩ := open_value (hval 0 39 v0 rfl rfl) h0
  clear hA0 hval0
  refine (lawValueOK_any k n t W ht).mono fun e W' ⟨he, bel⟩ => ?_
  subst he
  exact ⟨_, rfl, _, _, _, [], _, [], hW', trodAll_mk1 (shut_bool Try.underlying4 _), (trodAll_cons_mk (Below.trod laidOut (by kernel_rfl) (of_decide_eq_true (by kernel_rfl)) k0 bel lt0) trodAll_mk0), rfl, bel.frame _, fun h => by cases h⟩

theorem valueOK_over : Rows.fnExactValueOKRow.holds Try.pinned (OpenSpec.ofChange Rows.fnExactValueOKSpec) :=
  OpenClaim.holds_of_wide 6 Try.f6 rfl rfl rfl rfl rfl rfl rfl ⟨rfl, rfl, rfl, rfl, rfl⟩ rfl rfl rfl rfl rfl (by kernel_rfl) Try.func6 (by kernel_rfl)
    (of_decide_eq_true (by kernel_rfl)) (by unfold Func.isWrapper; first | (rw [if_pos (by decide +kernel)]; kernel_rfl) | (rw [if_neg (by decide +kernel)]; exact ⟨rfl, rfl⟩))
    (fun os started H enc _ => valueOK_lifted os started H enc)

/-- The statement. -/
theorem fnExactValueOK_proved : Rows.FnExactValueOKSaid := valueOK_over
end Go.Proofs.Ytipddjgoohnalaa
