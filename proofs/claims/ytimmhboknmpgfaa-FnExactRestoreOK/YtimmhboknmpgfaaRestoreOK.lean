/- For every restore, FnExactRestoreOK returns true: impl.RestoreOK answers as spec.RestoreOK does, and the restore reads as before. -/
import Derived.Test.YtimmhboknmpgfaaRsA
namespace Go.Proofs.Ytimmhboknmpgfaa
open Go.ChangeShapes Go.WideShapes Go.ChangeAt Go.RowKit Go.Joins

set_option maxHeartbeats 1000000 in
theorem lawRestoreOK_any (n : Int) (t : ByteArray) (d : Bool) (w : World) (ht : t.size ≤ maxLen) :
    Calls Try.prog 3 #[RV n t d] w fun e w' => e = .returned (.bool true) ∧ Below w.heap.size w w' := by
  by_cases hlt : leftOf 1048576 t < 0
  · go_enter Try.func3, Try.ntmps3
    go_wp2_with (go_at_call 5; refine (szRestore_any _ _ _ _ _ (by omega) (by omega) ht).mono ?_; rintro e w1 ⟨rfl, hb⟩)
    go_ret
    exact ⟨rfl, ((Below.refl _ _).alloc (Nat.le_refl _) _).trans (hb.mono (by simp))⟩
  · go_enter Try.func3, Try.ntmps3
    go_wp2_with fail
    refine (szRestore_any _ _ _ _ _ (by omega) (by omega) ht).mono ?_
    rintro e w1 ⟨rfl, hb1⟩
    have hc1 := (bcell hb1).1
    go_wp2_with fail
    refine (toRestore_any _ _ _ _).mono ?_
    rintro e w2 ⟨rfl, hb2⟩
    go_wp2_with fail
    refine (specRestoreOK_any _ _ _ _ ht).mono ?_
    rintro e w3 ⟨rfl, hb3⟩
    have hB3 := below_step (below_step hb1 (Nat.le_refl _) hb2) (Nat.le_refl _) hb3
    clear hc1 hb1 hb2 hb3
    have hc3 := (bcell hB3).1
    go_wp2_with fail
    refine (toRestore_any _ _ _ _).mono ?_
    rintro e w4 ⟨rfl, hb4⟩
    go_wp2_with fail
    refine (implRestoreOK_any _ _ _ _ ht).mono ?_
    rintro e w5 ⟨rfl, hb5⟩
    have hB5 := below_step (below_step hB3 (Nat.le_refl _) hb4) (Nat.le_refl _) hb5
    clear hc3 hB3 hb4 hb5
    go_wp2
    go_ret
    exact ⟨rfl, ((Below.refl _ _).alloc (Nat.le_refl _) _).trans (hB5.mono (by simp))⟩

set_option maxRecDepth 100000 in
theorem restoreOK_lifted (os : Os) (started : os.Started) (H : Type) (enc : TypeId × Value → H) :
    ReturnsInHanded {} Try.checked os 3 .any (Rows.fnExactRestoreOKSpec.pre6 enc Try.prog Try.f3 Rows.fnExactRestoreOKRow.domain false) (Rows.fnExactRestoreOKSpec.post enc Try.prog Try.f3 false true false false) := by
  refine returnsInHanded_of_change (C := Try.checked) own started (by kernel_rfl) Try.func3
    (ChangeSpec.witness6 (enc := enc) (C := Try.checked) false ⟨#[], #[.agg #[.int .i64 0, .string ByteArray.empty, .bool false]], []⟩ 8 (by kernel_rfl) (by kernel_rfl) (by kernel_rfl) (by kernel_rfl)) ?_
  intro W base args ds gs before hval0 hW hcnd _
  have hval : ∀ (j : Nat) t v, Try.f3.params[j]? = some t → args[j]? = some v → Value.okWide Try.prog W .any base t v := hval0
  have hW' := hW
  obtain ⟨p, q, hA0, hV, rfl, hfz, hnd⟩ := hW
  have hA : DataW.TrodAll enc Try.prog W 0 (fun _ => true) true Try.f3.params.toList args.toList ds p := hA0
  rw [Try.params3] at hA hval
  obtain ⟨v0, vs0, d0, ds0, p0, q0, hargs, rfl, rfl, h0, r0⟩ := trodAll_cons hA
  obtain ⟨rfl, rfl, rfl⟩ := trodAll_nil r0
  obtain rfl : args = #[v0] := by cases args; simp_all
  obtain ⟨rfl, rfl⟩ := trodVars_none hV
  have k0 := h0
  have lt0 : ∀ x ∈ p0, x.block < W.heap.size := by obtain ⟨m, hm⟩ := k0; exact DataW.trod_lt m _ _ _ hm
  obtain ⟨n, t, d, rfl, _, ht⟩ := open_restore (hval 0 23 v0 rfl rfl) h0
  clear hA0 hval0
  refine (lawRestoreOK_any n t d W ht).mono fun e W' ⟨he, bel⟩ => ?_
  subst he
  exact ⟨_, rfl, _, _, _, [], _, [], hW', trodAll_mk1 (shut_bool Try.underlying4 _), (trodAll_cons_mk (Below.trod laidOut (by kernel_rfl) (of_decide_eq_true (by kernel_rfl)) k0 bel lt0) trodAll_mk0), rfl, bel.frame _, fun h => by cases h⟩

theorem restoreOK_over : Rows.fnExactRestoreOKRow.holds Try.pinned (OpenSpec.ofChange Rows.fnExactRestoreOKSpec) :=
  OpenClaim.holds_of_wide 3 Try.f3 rfl rfl rfl rfl rfl rfl rfl ⟨rfl, rfl, rfl, rfl, rfl⟩ rfl rfl rfl rfl rfl (by kernel_rfl) Try.func3 (by kernel_rfl)
    (of_decide_eq_true (by kernel_rfl)) (by unfold Func.isWrapper; first | (rw [if_pos (by decide +kernel)]; kernel_rfl) | (rw [if_neg (by decide +kernel)]; exact ⟨rfl, rfl⟩))
    (fun os started H enc _ => restoreOK_lifted os started H enc)

/-- The statement. -/
theorem fnExactRestoreOK_proved : Rows.FnExactRestoreOKSaid := restoreOK_over
end Go.Proofs.Ytimmhboknmpgfaa
