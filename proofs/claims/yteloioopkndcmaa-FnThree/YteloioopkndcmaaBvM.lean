/- Binary signs: the specification's l12Binary (stage 12). -/
import Derived.Test.YteloioopkndcmaaBvK
namespace Go.Proofs.Yteloioopkndcmaa
open Go.RowKit

set_option maxRecDepth 100000 in
set_option maxHeartbeats 2000000 in
theorem binOr (k n : Int) (t : ByteArray) (k2 n2 : Int) (t2 : ByteArray) (w : World) :
    Calls Try.prog 44 #[.string gOr, VV k n t, VV k2 n2 t2] w fun e w' => e = .returned (ansV (lgOr (k, n, t) (k2, n2, t2), 0)) ∧ Below w.heap.size w w' := by
  have S0 : Hid (BiS w k n t k2 n2 t2 _) := BiS.start w k n t k2 n2 t2
  have hl := lvsOr (((w.alloc (.cells #[.int .i64 k, .int .i64 n, .string t] 24)).alloc (.cells #[.int .i64 k2, .int .i64 n2, .string t2] 24)).alloc (.cells #[.int .i64 0, .int .i64 0, .string noT] 24))
  have hc := logicOr k n t k2 n2 t2 (((w.alloc (.cells #[.int .i64 k, .int .i64 n, .string t] 24)).alloc (.cells #[.int .i64 k2, .int .i64 n2, .string t2] 24)).alloc (.cells #[.int .i64 0, .int .i64 0, .string noT] 24))
  generalize lgOr (k, n, t) (k2, n2, t2) = X at *
  obtain ⟨xk, xn, xt⟩ := X
  go_enter Try.func44, Try.ntmps44
  go_wp2_with fail
  refine hl.mono ?_
  rintro e w1 ⟨rfl, rfl⟩
  go_wp2_with fail
  refine hc.mono ?_
  rintro e w2 ⟨rfl, b2⟩
  have S2 : Hid (BiS w k n t k2 n2 t2 w2) := BiS.keep S0.out b2
  clear b2 S0 hl hc
  obtain ⟨_, _, ⟨v0, v1, v2⟩, ⟨y0, y1, y2⟩, _⟩ := S2.out
  go_wp2_with fail
  obtain ⟨r0, r1, r2, _, _, _⟩ := box_facts (box_set S2.out.2.2.2.2.out.2.2.2.2 xk xn xt)
  exact bodyPost_ret (v := VC xk xn xt 0) (by simp [results, Try.results44, go_sem, r0, r1, r2]) rfl ⟨rfl, below_set3 S2.out.2.2.2.2.out.2.1 (by omega) _ _ _⟩
set_option maxRecDepth 100000 in
set_option maxHeartbeats 2000000 in
theorem binAnd (k n : Int) (t : ByteArray) (k2 n2 : Int) (t2 : ByteArray) (w : World) :
    Calls Try.prog 44 #[.string gAnd, VV k n t, VV k2 n2 t2] w fun e w' => e = .returned (ansV (lgAnd (k, n, t) (k2, n2, t2), 0)) ∧ Below w.heap.size w w' := by
  have S0 : Hid (BiS w k n t k2 n2 t2 _) := BiS.start w k n t k2 n2 t2
  have hl := lvsAnd (((w.alloc (.cells #[.int .i64 k, .int .i64 n, .string t] 24)).alloc (.cells #[.int .i64 k2, .int .i64 n2, .string t2] 24)).alloc (.cells #[.int .i64 0, .int .i64 0, .string noT] 24))
  have hc := logicAnd k n t k2 n2 t2 (((w.alloc (.cells #[.int .i64 k, .int .i64 n, .string t] 24)).alloc (.cells #[.int .i64 k2, .int .i64 n2, .string t2] 24)).alloc (.cells #[.int .i64 0, .int .i64 0, .string noT] 24))
  generalize lgAnd (k, n, t) (k2, n2, t2) = X at *
  obtain ⟨xk, xn, xt⟩ := X
  go_enter Try.func44, Try.ntmps44
  go_wp2_with fail
  refine hl.mono ?_
  rintro e w1 ⟨rfl, rfl⟩
  go_wp2_with fail
  refine hc.mono ?_
  rintro e w2 ⟨rfl, b2⟩
  have S2 : Hid (BiS w k n t k2 n2 t2 w2) := BiS.keep S0.out b2
  clear b2 S0 hl hc
  obtain ⟨_, _, ⟨v0, v1, v2⟩, ⟨y0, y1, y2⟩, _⟩ := S2.out
  go_wp2_with fail
  obtain ⟨r0, r1, r2, _, _, _⟩ := box_facts (box_set S2.out.2.2.2.2.out.2.2.2.2 xk xn xt)
  exact bodyPost_ret (v := VC xk xn xt 0) (by simp [results, Try.results44, go_sem, r0, r1, r2]) rfl ⟨rfl, below_set3 S2.out.2.2.2.2.out.2.1 (by omega) _ _ _⟩
set_option maxRecDepth 100000 in
theorem cmpdEq (c : Int) (w : World) : Calls Try.prog 78 #[.string gEq, .int .i64 c] w fun e w' => e = .returned (.bool (c == 0)) ∧ w' = w := by
  go_enter Try.func78, Try.ntmps78
  go_wp2
  go_ret
  exact ⟨rfl, rfl⟩
set_option maxRecDepth 100000 in
set_option maxHeartbeats 2000000 in
theorem binEq (k n : Int) (t : ByteArray) (k2 n2 : Int) (t2 : ByteArray) (w : World) :
    Calls Try.prog 44 #[.string gEq, VV k n t, VV k2 n2 t2] w fun e w' => e = .returned (ansV (cmpA (fun c => c == 0) (k, n, t) (k2, n2, t2))) ∧ Below w.heap.size w w' := by
  have S0 : Hid (BiS w k n t k2 n2 t2 _) := BiS.start w k n t k2 n2 t2
  have LV := lvsEq
  have HC : Hid (∀ w1, Calls Try.prog 79 #[VV k n t, VV k2 n2 t2] w1 fun e w' => e = .returned (.int .i64 (cmpV k n t k2 n2 t2)) ∧ Below w1.heap.size w1 w') := fun w1 => l01Compare_any k n t k2 n2 t2 w1
  have HF : Hid ((k = 0 ∨ k2 = 0 → cmpA (fun c => c == 0) (k, n, t) (k2, n2, t2) = zA 0) ∧ (¬ (k = 0 ∨ k2 = 0) → cmpA (fun c => c == 0) (k, n, t) (k2, n2, t2) = ((1, bit ((fun c => c == 0) (cmpV k n t k2 n2 t2)), noT), 0))) := ⟨fun h => if_pos h, fun h => if_neg h⟩
  generalize cmpA (fun c => c == 0) (k, n, t) (k2, n2, t2) = FX at *
  generalize cmpV k n t k2 n2 t2 = c at *
  have hl := LV (((w.alloc (.cells #[.int .i64 k, .int .i64 n, .string t] 24)).alloc (.cells #[.int .i64 k2, .int .i64 n2, .string t2] 24)).alloc (.cells #[.int .i64 0, .int .i64 0, .string noT] 24))
  by_cases h0 : k = 0
  · subst h0
    have HE : Hid (FX = zA 0) := HF.out.1 (.inl rfl)
    clear HF
    go_enter Try.func44, Try.ntmps44
    go_wp2_with fail
    refine hl.mono ?_
    rintro e w1 ⟨rfl, rfl⟩
    go_wp2_with fail
    exact bodyPost_ret (v := VC 0 0 noT 0) (by simp [results, Try.results44, go_sem]) rfl ⟨by rw [HE.out], below3 w _ _ _⟩
  have h0' : (k == 0) = false := by simpa using h0
  by_cases h1 : k2 = 0
  · subst h1
    have HE : Hid (FX = zA 0) := HF.out.1 (.inr rfl)
    clear HF
    go_enter Try.func44, Try.ntmps44
    go_wp2_with fail
    refine hl.mono ?_
    rintro e w1 ⟨rfl, rfl⟩
    go_wp2_with fail
    exact bodyPost_ret (v := VC 0 0 noT 0) (by simp [results, Try.results44, go_sem]) rfl ⟨by rw [HE.out], below3 w _ _ _⟩
  have h1' : (k2 == 0) = false := by simpa using h1
  have HE : Hid (FX = ((1, bit (c == 0), noT), 0)) := HF.out.2 (fun h => h.elim h0 h1)
  have HP : Hid (∀ w1, Calls Try.prog 78 #[.string gEq, .int .i64 c] w1 fun e w' => e = .returned (.bool (c == 0)) ∧ w' = w1) := cmpdEq c
  have HB : Hid (∀ w1, Calls Try.prog 77 #[.bool (c == 0)] w1 fun e w' => e = .returned (VV 1 (bit (c == 0)) noT) ∧ Below w1.heap.size w1 w') := fun w1 => specBool_any _ w1
  clear HF
  generalize bit (c == 0) = x at *
  generalize (c == 0) = q at *
  go_enter Try.func44, Try.ntmps44
  go_wp2_with fail
  refine hl.mono ?_
  rintro e w1 ⟨rfl, rfl⟩
  go_wp2_with fail
  refine hl.mono ?_
  rintro e w1 ⟨rfl, rfl⟩
  go_wp2_with fail
  refine (HC.out _).mono ?_
  rintro e w2 ⟨rfl, b2⟩
  have S2 : Hid (BiS w k n t k2 n2 t2 w2) := BiS.keep S0.out b2
  clear b2 S0 hl HC LV
  go_wp2_with fail
  refine (HP.out _).mono ?_
  rintro e w3 ⟨rfl, rfl⟩
  go_wp2_with fail
  refine (HB.out _).mono ?_
  rintro e w4 ⟨rfl, b4⟩
  have S4 : Hid (BiS w k n t k2 n2 t2 w4) := BiS.keep S2.out b4
  clear b4 S2 HB HP
  obtain ⟨_, _, ⟨v0, v1, v2⟩, ⟨y0, y1, y2⟩, _⟩ := S4.out
  go_wp2_with fail
  obtain ⟨r0, r1, r2, _, _, _⟩ := box_facts (box_set S4.out.2.2.2.2.out.2.2.2.2 1 x noT)
  exact bodyPost_ret (v := VC 1 x noT 0) (by simp [results, Try.results44, go_sem, r0, r1, r2]) rfl ⟨by rw [HE.out], below_set3 S4.out.2.2.2.2.out.2.1 (by omega) _ _ _⟩
set_option maxRecDepth 100000 in
theorem cmpdNe (c : Int) (w : World) : Calls Try.prog 78 #[.string gNe, .int .i64 c] w fun e w' => e = .returned (.bool (c != 0)) ∧ w' = w := by
  go_enter Try.func78, Try.ntmps78
  go_wp2
  go_ret
  exact ⟨rfl, rfl⟩
set_option maxRecDepth 100000 in
set_option maxHeartbeats 2000000 in
theorem binNe (k n : Int) (t : ByteArray) (k2 n2 : Int) (t2 : ByteArray) (w : World) :
    Calls Try.prog 44 #[.string gNe, VV k n t, VV k2 n2 t2] w fun e w' => e = .returned (ansV (cmpA (fun c => c != 0) (k, n, t) (k2, n2, t2))) ∧ Below w.heap.size w w' := by
  have S0 : Hid (BiS w k n t k2 n2 t2 _) := BiS.start w k n t k2 n2 t2
  have LV := lvsNe
  have HC : Hid (∀ w1, Calls Try.prog 79 #[VV k n t, VV k2 n2 t2] w1 fun e w' => e = .returned (.int .i64 (cmpV k n t k2 n2 t2)) ∧ Below w1.heap.size w1 w') := fun w1 => l01Compare_any k n t k2 n2 t2 w1
  have HF : Hid ((k = 0 ∨ k2 = 0 → cmpA (fun c => c != 0) (k, n, t) (k2, n2, t2) = zA 0) ∧ (¬ (k = 0 ∨ k2 = 0) → cmpA (fun c => c != 0) (k, n, t) (k2, n2, t2) = ((1, bit ((fun c => c != 0) (cmpV k n t k2 n2 t2)), noT), 0))) := ⟨fun h => if_pos h, fun h => if_neg h⟩
  generalize cmpA (fun c => c != 0) (k, n, t) (k2, n2, t2) = FX at *
  generalize cmpV k n t k2 n2 t2 = c at *
  have hl := LV (((w.alloc (.cells #[.int .i64 k, .int .i64 n, .string t] 24)).alloc (.cells #[.int .i64 k2, .int .i64 n2, .string t2] 24)).alloc (.cells #[.int .i64 0, .int .i64 0, .string noT] 24))
  by_cases h0 : k = 0
  · subst h0
    have HE : Hid (FX = zA 0) := HF.out.1 (.inl rfl)
    clear HF
    go_enter Try.func44, Try.ntmps44
    go_wp2_with fail
    refine hl.mono ?_
    rintro e w1 ⟨rfl, rfl⟩
    go_wp2_with fail
    exact bodyPost_ret (v := VC 0 0 noT 0) (by simp [results, Try.results44, go_sem]) rfl ⟨by rw [HE.out], below3 w _ _ _⟩
  have h0' : (k == 0) = false := by simpa using h0
  by_cases h1 : k2 = 0
  · subst h1
    have HE : Hid (FX = zA 0) := HF.out.1 (.inr rfl)
    clear HF
    go_enter Try.func44, Try.ntmps44
    go_wp2_with fail
    refine hl.mono ?_
    rintro e w1 ⟨rfl, rfl⟩
    go_wp2_with fail
    exact bodyPost_ret (v := VC 0 0 noT 0) (by simp [results, Try.results44, go_sem]) rfl ⟨by rw [HE.out], below3 w _ _ _⟩
  have h1' : (k2 == 0) = false := by simpa using h1
  have HE : Hid (FX = ((1, bit (c != 0), noT), 0)) := HF.out.2 (fun h => h.elim h0 h1)
  have HP : Hid (∀ w1, Calls Try.prog 78 #[.string gNe, .int .i64 c] w1 fun e w' => e = .returned (.bool (c != 0)) ∧ w' = w1) := cmpdNe c
  have HB : Hid (∀ w1, Calls Try.prog 77 #[.bool (c != 0)] w1 fun e w' => e = .returned (VV 1 (bit (c != 0)) noT) ∧ Below w1.heap.size w1 w') := fun w1 => specBool_any _ w1
  clear HF
  generalize bit (c != 0) = x at *
  generalize (c != 0) = q at *
  go_enter Try.func44, Try.ntmps44
  go_wp2_with fail
  refine hl.mono ?_
  rintro e w1 ⟨rfl, rfl⟩
  go_wp2_with fail
  refine hl.mono ?_
  rintro e w1 ⟨rfl, rfl⟩
  go_wp2_with fail
  refine (HC.out _).mono ?_
  rintro e w2 ⟨rfl, b2⟩
  have S2 : Hid (BiS w k n t k2 n2 t2 w2) := BiS.keep S0.out b2
  clear b2 S0 hl HC LV
  go_wp2_with fail
  refine (HP.out _).mono ?_
  rintro e w3 ⟨rfl, rfl⟩
  go_wp2_with fail
  refine (HB.out _).mono ?_
  rintro e w4 ⟨rfl, b4⟩
  have S4 : Hid (BiS w k n t k2 n2 t2 w4) := BiS.keep S2.out b4
  clear b4 S2 HB HP
  obtain ⟨_, _, ⟨v0, v1, v2⟩, ⟨y0, y1, y2⟩, _⟩ := S4.out
  go_wp2_with fail
  obtain ⟨r0, r1, r2, _, _, _⟩ := box_facts (box_set S4.out.2.2.2.2.out.2.2.2.2 1 x noT)
  exact bodyPost_ret (v := VC 1 x noT 0) (by simp [results, Try.results44, go_sem, r0, r1, r2]) rfl ⟨by rw [HE.out], below_set3 S4.out.2.2.2.2.out.2.1 (by omega) _ _ _⟩
set_option maxRecDepth 100000 in
theorem cmpdLt (c : Int) (w : World) : Calls Try.prog 78 #[.string gLt, .int .i64 c] w fun e w' => e = .returned (.bool (decide (c < 0))) ∧ w' = w := by
  go_enter Try.func78, Try.ntmps78
  go_wp2
  go_ret
  exact ⟨rfl, rfl⟩
set_option maxRecDepth 100000 in
set_option maxHeartbeats 2000000 in
theorem binLt (k n : Int) (t : ByteArray) (k2 n2 : Int) (t2 : ByteArray) (w : World) :
    Calls Try.prog 44 #[.string gLt, VV k n t, VV k2 n2 t2] w fun e w' => e = .returned (ansV (cmpA (fun c => decide (c < 0)) (k, n, t) (k2, n2, t2))) ∧ Below w.heap.size w w' := by
  have S0 : Hid (BiS w k n t k2 n2 t2 _) := BiS.start w k n t k2 n2 t2
  have LV := lvsLt
  have HC : Hid (∀ w1, Calls Try.prog 79 #[VV k n t, VV k2 n2 t2] w1 fun e w' => e = .returned (.int .i64 (cmpV k n t k2 n2 t2)) ∧ Below w1.heap.size w1 w') := fun w1 => l01Compare_any k n t k2 n2 t2 w1
  have HF : Hid ((k = 0 ∨ k2 = 0 → cmpA (fun c => decide (c < 0)) (k, n, t) (k2, n2, t2) = zA 0) ∧ (¬ (k = 0 ∨ k2 = 0) → cmpA (fun c => decide (c < 0)) (k, n, t) (k2, n2, t2) = ((1, bit ((fun c => decide (c < 0)) (cmpV k n t k2 n2 t2)), noT), 0))) := ⟨fun h => if_pos h, fun h => if_neg h⟩
  generalize cmpA (fun c => decide (c < 0)) (k, n, t) (k2, n2, t2) = FX at *
  generalize cmpV k n t k2 n2 t2 = c at *
  have hl := LV (((w.alloc (.cells #[.int .i64 k, .int .i64 n, .string t] 24)).alloc (.cells #[.int .i64 k2, .int .i64 n2, .string t2] 24)).alloc (.cells #[.int .i64 0, .int .i64 0, .string noT] 24))
  by_cases h0 : k = 0
  · subst h0
    have HE : Hid (FX = zA 0) := HF.out.1 (.inl rfl)
    clear HF
    go_enter Try.func44, Try.ntmps44
    go_wp2_with fail
    refine hl.mono ?_
    rintro e w1 ⟨rfl, rfl⟩
    go_wp2_with fail
    exact bodyPost_ret (v := VC 0 0 noT 0) (by simp [results, Try.results44, go_sem]) rfl ⟨by rw [HE.out], below3 w _ _ _⟩
  have h0' : (k == 0) = false := by simpa using h0
  by_cases h1 : k2 = 0
  · subst h1
    have HE : Hid (FX = zA 0) := HF.out.1 (.inr rfl)
    clear HF
    go_enter Try.func44, Try.ntmps44
    go_wp2_with fail
    refine hl.mono ?_
    rintro e w1 ⟨rfl, rfl⟩
    go_wp2_with fail
    exact bodyPost_ret (v := VC 0 0 noT 0) (by simp [results, Try.results44, go_sem]) rfl ⟨by rw [HE.out], below3 w _ _ _⟩
  have h1' : (k2 == 0) = false := by simpa using h1
  have HE : Hid (FX = ((1, bit (decide (c < 0)), noT), 0)) := HF.out.2 (fun h => h.elim h0 h1)
  have HP : Hid (∀ w1, Calls Try.prog 78 #[.string gLt, .int .i64 c] w1 fun e w' => e = .returned (.bool (decide (c < 0))) ∧ w' = w1) := cmpdLt c
  have HB : Hid (∀ w1, Calls Try.prog 77 #[.bool (decide (c < 0))] w1 fun e w' => e = .returned (VV 1 (bit (decide (c < 0))) noT) ∧ Below w1.heap.size w1 w') := fun w1 => specBool_any _ w1
  clear HF
  generalize bit (decide (c < 0)) = x at *
  generalize (decide (c < 0)) = q at *
  go_enter Try.func44, Try.ntmps44
  go_wp2_with fail
  refine hl.mono ?_
  rintro e w1 ⟨rfl, rfl⟩
  go_wp2_with fail
  refine hl.mono ?_
  rintro e w1 ⟨rfl, rfl⟩
  go_wp2_with fail
  refine (HC.out _).mono ?_
  rintro e w2 ⟨rfl, b2⟩
  have S2 : Hid (BiS w k n t k2 n2 t2 w2) := BiS.keep S0.out b2
  clear b2 S0 hl HC LV
  go_wp2_with fail
  refine (HP.out _).mono ?_
  rintro e w3 ⟨rfl, rfl⟩
  go_wp2_with fail
  refine (HB.out _).mono ?_
  rintro e w4 ⟨rfl, b4⟩
  have S4 : Hid (BiS w k n t k2 n2 t2 w4) := BiS.keep S2.out b4
  clear b4 S2 HB HP
  obtain ⟨_, _, ⟨v0, v1, v2⟩, ⟨y0, y1, y2⟩, _⟩ := S4.out
  go_wp2_with fail
  obtain ⟨r0, r1, r2, _, _, _⟩ := box_facts (box_set S4.out.2.2.2.2.out.2.2.2.2 1 x noT)
  exact bodyPost_ret (v := VC 1 x noT 0) (by simp [results, Try.results44, go_sem, r0, r1, r2]) rfl ⟨by rw [HE.out], below_set3 S4.out.2.2.2.2.out.2.1 (by omega) _ _ _⟩
set_option maxRecDepth 100000 in
theorem cmpdLe (c : Int) (w : World) : Calls Try.prog 78 #[.string gLe, .int .i64 c] w fun e w' => e = .returned (.bool (decide (c ≤ 0))) ∧ w' = w := by
  go_enter Try.func78, Try.ntmps78
  go_wp2
  go_ret
  exact ⟨rfl, rfl⟩
set_option maxRecDepth 100000 in
set_option maxHeartbeats 2000000 in
theorem binLe (k n : Int) (t : ByteArray) (k2 n2 : Int) (t2 : ByteArray) (w : World) :
    Calls Try.prog 44 #[.string gLe, VV k n t, VV k2 n2 t2] w fun e w' => e = .returned (ansV (cmpA (fun c => decide (c ≤ 0)) (k, n, t) (k2, n2, t2))) ∧ Below w.heap.size w w' := by
  have S0 : Hid (BiS w k n t k2 n2 t2 _) := BiS.start w k n t k2 n2 t2
  have LV := lvsLe
  have HC : Hid (∀ w1, Calls Try.prog 79 #[VV k n t, VV k2 n2 t2] w1 fun e w' => e = .returned (.int .i64 (cmpV k n t k2 n2 t2)) ∧ Below w1.heap.size w1 w') := fun w1 => l01Compare_any k n t k2 n2 t2 w1
  have HF : Hid ((k = 0 ∨ k2 = 0 → cmpA (fun c => decide (c ≤ 0)) (k, n, t) (k2, n2, t2) = zA 0) ∧ (¬ (k = 0 ∨ k2 = 0) → cmpA (fun c => decide (c ≤ 0)) (k, n, t) (k2, n2, t2) = ((1, bit ((fun c => decide (c ≤ 0)) (cmpV k n t k2 n2 t2)), noT), 0))) := ⟨fun h => if_pos h, fun h => if_neg h⟩
  generalize cmpA (fun c => decide (c ≤ 0)) (k, n, t) (k2, n2, t2) = FX at *
  generalize cmpV k n t k2 n2 t2 = c at *
  have hl := LV (((w.alloc (.cells #[.int .i64 k, .int .i64 n, .string t] 24)).alloc (.cells #[.int .i64 k2, .int .i64 n2, .string t2] 24)).alloc (.cells #[.int .i64 0, .int .i64 0, .string noT] 24))
  by_cases h0 : k = 0
  · subst h0
    have HE : Hid (FX = zA 0) := HF.out.1 (.inl rfl)
    clear HF
    go_enter Try.func44, Try.ntmps44
    go_wp2_with fail
    refine hl.mono ?_
    rintro e w1 ⟨rfl, rfl⟩
    go_wp2_with fail
    exact bodyPost_ret (v := VC 0 0 noT 0) (by simp [results, Try.results44, go_sem]) rfl ⟨by rw [HE.out], below3 w _ _ _⟩
  have h0' : (k == 0) = false := by simpa using h0
  by_cases h1 : k2 = 0
  · subst h1
    have HE : Hid (FX = zA 0) := HF.out.1 (.inr rfl)
    clear HF
    go_enter Try.func44, Try.ntmps44
    go_wp2_with fail
    refine hl.mono ?_
    rintro e w1 ⟨rfl, rfl⟩
    go_wp2_with fail
    exact bodyPost_ret (v := VC 0 0 noT 0) (by simp [results, Try.results44, go_sem]) rfl ⟨by rw [HE.out], below3 w _ _ _⟩
  have h1' : (k2 == 0) = false := by simpa using h1
  have HE : Hid (FX = ((1, bit (decide (c ≤ 0)), noT), 0)) := HF.out.2 (fun h => h.elim h0 h1)
  have HP : Hid (∀ w1, Calls Try.prog 78 #[.string gLe, .int .i64 c] w1 fun e w' => e = .returned (.bool (decide (c ≤ 0))) ∧ w' = w1) := cmpdLe c
  have HB : Hid (∀ w1, Calls Try.prog 77 #[.bool (decide (c ≤ 0))] w1 fun e w' => e = .returned (VV 1 (bit (decide (c ≤ 0))) noT) ∧ Below w1.heap.size w1 w') := fun w1 => specBool_any _ w1
  clear HF
  generalize bit (decide (c ≤ 0)) = x at *
  generalize (decide (c ≤ 0)) = q at *
  go_enter Try.func44, Try.ntmps44
  go_wp2_with fail
  refine hl.mono ?_
  rintro e w1 ⟨rfl, rfl⟩
  go_wp2_with fail
  refine hl.mono ?_
  rintro e w1 ⟨rfl, rfl⟩
  go_wp2_with fail
  refine (HC.out _).mono ?_
  rintro e w2 ⟨rfl, b2⟩
  have S2 : Hid (BiS w k n t k2 n2 t2 w2) := BiS.keep S0.out b2
  clear b2 S0 hl HC LV
  go_wp2_with fail
  refine (HP.out _).mono ?_
  rintro e w3 ⟨rfl, rfl⟩
  go_wp2_with fail
  refine (HB.out _).mono ?_
  rintro e w4 ⟨rfl, b4⟩
  have S4 : Hid (BiS w k n t k2 n2 t2 w4) := BiS.keep S2.out b4
  clear b4 S2 HB HP
  obtain ⟨_, _, ⟨v0, v1, v2⟩, ⟨y0, y1, y2⟩, _⟩ := S4.out
  go_wp2_with fail
  obtain ⟨r0, r1, r2, _, _, _⟩ := box_facts (box_set S4.out.2.2.2.2.out.2.2.2.2 1 x noT)
  exact bodyPost_ret (v := VC 1 x noT 0) (by simp [results, Try.results44, go_sem, r0, r1, r2]) rfl ⟨by rw [HE.out], below_set3 S4.out.2.2.2.2.out.2.1 (by omega) _ _ _⟩
set_option maxRecDepth 100000 in
theorem cmpdGt (c : Int) (w : World) : Calls Try.prog 78 #[.string gGt, .int .i64 c] w fun e w' => e = .returned (.bool (decide (0 < c))) ∧ w' = w := by
  go_enter Try.func78, Try.ntmps78
  go_wp2
  go_ret
  exact ⟨rfl, rfl⟩
set_option maxRecDepth 100000 in
set_option maxHeartbeats 2000000 in
theorem binGt (k n : Int) (t : ByteArray) (k2 n2 : Int) (t2 : ByteArray) (w : World) :
    Calls Try.prog 44 #[.string gGt, VV k n t, VV k2 n2 t2] w fun e w' => e = .returned (ansV (cmpA (fun c => decide (0 < c)) (k, n, t) (k2, n2, t2))) ∧ Below w.heap.size w w' := by
  have S0 : Hid (BiS w k n t k2 n2 t2 _) := BiS.start w k n t k2 n2 t2
  have LV := lvsGt
  have HC : Hid (∀ w1, Calls Try.prog 79 #[VV k n t, VV k2 n2 t2] w1 fun e w' => e = .returned (.int .i64 (cmpV k n t k2 n2 t2)) ∧ Below w1.heap.size w1 w') := fun w1 => l01Compare_any k n t k2 n2 t2 w1
  have HF : Hid ((k = 0 ∨ k2 = 0 → cmpA (fun c => decide (0 < c)) (k, n, t) (k2, n2, t2) = zA 0) ∧ (¬ (k = 0 ∨ k2 = 0) → cmpA (fun c => decide (0 < c)) (k, n, t) (k2, n2, t2) = ((1, bit ((fun c => decide (0 < c)) (cmpV k n t k2 n2 t2)), noT), 0))) := ⟨fun h => if_pos h, fun h => if_neg h⟩
  generalize cmpA (fun c => decide (0 < c)) (k, n, t) (k2, n2, t2) = FX at *
  generalize cmpV k n t k2 n2 t2 = c at *
  have hl := LV (((w.alloc (.cells #[.int .i64 k, .int .i64 n, .string t] 24)).alloc (.cells #[.int .i64 k2, .int .i64 n2, .string t2] 24)).alloc (.cells #[.int .i64 0, .int .i64 0, .string noT] 24))
  by_cases h0 : k = 0
  · subst h0
    have HE : Hid (FX = zA 0) := HF.out.1 (.inl rfl)
    clear HF
    go_enter Try.func44, Try.ntmps44
    go_wp2_with fail
    refine hl.mono ?_
    rintro e w1 ⟨rfl, rfl⟩
    go_wp2_with fail
    exact bodyPost_ret (v := VC 0 0 noT 0) (by simp [results, Try.results44, go_sem]) rfl ⟨by rw [HE.out], below3 w _ _ _⟩
  have h0' : (k == 0) = false := by simpa using h0
  by_cases h1 : k2 = 0
  · subst h1
    have HE : Hid (FX = zA 0) := HF.out.1 (.inr rfl)
    clear HF
    go_enter Try.func44, Try.ntmps44
    go_wp2_with fail
    refine hl.mono ?_
    rintro e w1 ⟨rfl, rfl⟩
    go_wp2_with fail
    exact bodyPost_ret (v := VC 0 0 noT 0) (by simp [results, Try.results44, go_sem]) rfl ⟨by rw [HE.out], below3 w _ _ _⟩
  have h1' : (k2 == 0) = false := by simpa using h1
  have HE : Hid (FX = ((1, bit (decide (0 < c)), noT), 0)) := HF.out.2 (fun h => h.elim h0 h1)
  have HP : Hid (∀ w1, Calls Try.prog 78 #[.string gGt, .int .i64 c] w1 fun e w' => e = .returned (.bool (decide (0 < c))) ∧ w' = w1) := cmpdGt c
  have HB : Hid (∀ w1, Calls Try.prog 77 #[.bool (decide (0 < c))] w1 fun e w' => e = .returned (VV 1 (bit (decide (0 < c))) noT) ∧ Below w1.heap.size w1 w') := fun w1 => specBool_any _ w1
  clear HF
  generalize bit (decide (0 < c)) = x at *
  generalize (decide (0 < c)) = q at *
  go_enter Try.func44, Try.ntmps44
  go_wp2_with fail
  refine hl.mono ?_
  rintro e w1 ⟨rfl, rfl⟩
  go_wp2_with fail
  refine hl.mono ?_
  rintro e w1 ⟨rfl, rfl⟩
  go_wp2_with fail
  refine (HC.out _).mono ?_
  rintro e w2 ⟨rfl, b2⟩
  have S2 : Hid (BiS w k n t k2 n2 t2 w2) := BiS.keep S0.out b2
  clear b2 S0 hl HC LV
  go_wp2_with fail
  refine (HP.out _).mono ?_
  rintro e w3 ⟨rfl, rfl⟩
  go_wp2_with fail
  refine (HB.out _).mono ?_
  rintro e w4 ⟨rfl, b4⟩
  have S4 : Hid (BiS w k n t k2 n2 t2 w4) := BiS.keep S2.out b4
  clear b4 S2 HB HP
  obtain ⟨_, _, ⟨v0, v1, v2⟩, ⟨y0, y1, y2⟩, _⟩ := S4.out
  go_wp2_with fail
  obtain ⟨r0, r1, r2, _, _, _⟩ := box_facts (box_set S4.out.2.2.2.2.out.2.2.2.2 1 x noT)
  exact bodyPost_ret (v := VC 1 x noT 0) (by simp [results, Try.results44, go_sem, r0, r1, r2]) rfl ⟨by rw [HE.out], below_set3 S4.out.2.2.2.2.out.2.1 (by omega) _ _ _⟩
set_option maxRecDepth 100000 in
theorem cmpdGe (c : Int) (w : World) : Calls Try.prog 78 #[.string gGe, .int .i64 c] w fun e w' => e = .returned (.bool (decide (0 ≤ c))) ∧ w' = w := by
  go_enter Try.func78, Try.ntmps78
  go_wp2
  go_ret
  exact ⟨rfl, rfl⟩
set_option maxRecDepth 100000 in
set_option maxHeartbeats 2000000 in
theorem binGe (k n : Int) (t : ByteArray) (k2 n2 : Int) (t2 : ByteArray) (w : World) :
    Calls Try.prog 44 #[.string gGe, VV k n t, VV k2 n2 t2] w fun e w' => e = .returned (ansV (cmpA (fun c => decide (0 ≤ c)) (k, n, t) (k2, n2, t2))) ∧ Below w.heap.size w w' := by
  have S0 : Hid (BiS w k n t k2 n2 t2 _) := BiS.start w k n t k2 n2 t2
  have LV := lvsGe
  have HC : Hid (∀ w1, Calls Try.prog 79 #[VV k n t, VV k2 n2 t2] w1 fun e w' => e = .returned (.int .i64 (cmpV k n t k2 n2 t2)) ∧ Below w1.heap.size w1 w') := fun w1 => l01Compare_any k n t k2 n2 t2 w1
  have HF : Hid ((k = 0 ∨ k2 = 0 → cmpA (fun c => decide (0 ≤ c)) (k, n, t) (k2, n2, t2) = zA 0) ∧ (¬ (k = 0 ∨ k2 = 0) → cmpA (fun c => decide (0 ≤ c)) (k, n, t) (k2, n2, t2) = ((1, bit ((fun c => decide (0 ≤ c)) (cmpV k n t k2 n2 t2)), noT), 0))) := ⟨fun h => if_pos h, fun h => if_neg h⟩
  generalize cmpA (fun c => decide (0 ≤ c)) (k, n, t) (k2, n2, t2) = FX at *
  generalize cmpV k n t k2 n2 t2 = c at *
  have hl := LV (((w.alloc (.cells #[.int .i64 k, .int .i64 n, .string t] 24)).alloc (.cells #[.int .i64 k2, .int .i64 n2, .string t2] 24)).alloc (.cells #[.int .i64 0, .int .i64 0, .string noT] 24))
  by_cases h0 : k = 0
  · subst h0
    have HE : Hid (FX = zA 0) := HF.out.1 (.inl rfl)
    clear HF
    go_enter Try.func44, Try.ntmps44
    go_wp2_with fail
    refine hl.mono ?_
    rintro e w1 ⟨rfl, rfl⟩
    go_wp2_with fail
    exact bodyPost_ret (v := VC 0 0 noT 0) (by simp [results, Try.results44, go_sem]) rfl ⟨by rw [HE.out], below3 w _ _ _⟩
  have h0' : (k == 0) = false := by simpa using h0
  by_cases h1 : k2 = 0
  · subst h1
    have HE : Hid (FX = zA 0) := HF.out.1 (.inr rfl)
    clear HF
    go_enter Try.func44, Try.ntmps44
    go_wp2_with fail
    refine hl.mono ?_
    rintro e w1 ⟨rfl, rfl⟩
    go_wp2_with fail
    exact bodyPost_ret (v := VC 0 0 noT 0) (by simp [results, Try.results44, go_sem]) rfl ⟨by rw [HE.out], below3 w _ _ _⟩
  have h1' : (k2 == 0) = false := by simpa using h1
  have HE : Hid (FX = ((1, bit (decide (0 ≤ c)), noT), 0)) := HF.out.2 (fun h => h.elim h0 h1)
  have HP : Hid (∀ w1, Calls Try.prog 78 #[.string gGe, .int .i64 c] w1 fun e w' => e = .returned (.bool (decide (0 ≤ c))) ∧ w' = w1) := cmpdGe c
  have HB : Hid (∀ w1, Calls Try.prog 77 #[.bool (decide (0 ≤ c))] w1 fun e w' => e = .returned (VV 1 (bit (decide (0 ≤ c))) noT) ∧ Below w1.heap.size w1 w') := fun w1 => specBool_any _ w1
  clear HF
  generalize bit (decide (0 ≤ c)) = x at *
  generalize (decide (0 ≤ c)) = q at *
  go_enter Try.func44, Try.ntmps44
  go_wp2_with fail
  refine hl.mono ?_
  rintro e w1 ⟨rfl, rfl⟩
  go_wp2_with fail
  refine hl.mono ?_
  rintro e w1 ⟨rfl, rfl⟩
  go_wp2_with fail
  refine (HC.out _).mono ?_
  rintro e w2 ⟨rfl, b2⟩
  have S2 : Hid (BiS w k n t k2 n2 t2 w2) := BiS.keep S0.out b2
  clear b2 S0 hl HC LV
  go_wp2_with fail
  refine (HP.out _).mono ?_
  rintro e w3 ⟨rfl, rfl⟩
  go_wp2_with fail
  refine (HB.out _).mono ?_
  rintro e w4 ⟨rfl, b4⟩
  have S4 : Hid (BiS w k n t k2 n2 t2 w4) := BiS.keep S2.out b4
  clear b4 S2 HB HP
  obtain ⟨_, _, ⟨v0, v1, v2⟩, ⟨y0, y1, y2⟩, _⟩ := S4.out
  go_wp2_with fail
  obtain ⟨r0, r1, r2, _, _, _⟩ := box_facts (box_set S4.out.2.2.2.2.out.2.2.2.2 1 x noT)
  exact bodyPost_ret (v := VC 1 x noT 0) (by simp [results, Try.results44, go_sem, r0, r1, r2]) rfl ⟨by rw [HE.out], below_set3 S4.out.2.2.2.2.out.2.1 (by omega) _ _ _⟩
set_option maxRecDepth 100000 in
set_option maxHeartbeats 2000000 in
theorem binAdd (k n : Int) (t : ByteArray) (k2 n2 : Int) (t2 : ByteArray) (w : World) (hn : In64 n) (hn2 : In64 n2) :
    Calls Try.prog 44 #[.string gAdd, VV k n t, VV k2 n2 t2] w fun e w' => e = .returned (ansV (reckA addR addC (k, n, t) (k2, n2, t2))) ∧ Below w.heap.size w w' := by
  have S0 : Hid (BiS w k n t k2 n2 t2 _) := BiS.start w k n t k2 n2 t2
  have LV := lvsAdd
  have HF : Hid ((k = 0 ∨ k2 = 0 → reckA addR addC (k, n, t) (k2, n2, t2) = zA 0) ∧ (¬ (k = 0 ∨ k2 = 0) → (addC n n2 = 0 → reckA addR addC (k, n, t) (k2, n2, t2) = ((2, addR n n2, noT), 0)) ∧ (addC n n2 ≠ 0 → reckA addR addC (k, n, t) (k2, n2, t2) = zA (addC n n2)))) := ⟨fun h => if_pos h, fun h => ⟨fun h2 => (if_neg h).trans (if_pos h2), fun h2 => (if_neg h).trans (if_neg h2)⟩⟩
  generalize reckA addR addC (k, n, t) (k2, n2, t2) = FX at *
  have hl := LV (((w.alloc (.cells #[.int .i64 k, .int .i64 n, .string t] 24)).alloc (.cells #[.int .i64 k2, .int .i64 n2, .string t2] 24)).alloc (.cells #[.int .i64 0, .int .i64 0, .string noT] 24))
  by_cases h0 : k = 0
  · subst h0
    have HE : Hid (FX = zA 0) := HF.out.1 (.inl rfl)
    clear HF
    go_enter Try.func44, Try.ntmps44
    go_wp2_with fail
    refine hl.mono ?_
    rintro e w1 ⟨rfl, rfl⟩
    go_wp2_with fail
    exact bodyPost_ret (v := VC 0 0 noT 0) (by simp [results, Try.results44, go_sem]) rfl ⟨by rw [HE.out], below3 w _ _ _⟩
  have h0' : (k == 0) = false := by simpa using h0
  by_cases h1 : k2 = 0
  · subst h1
    have HE : Hid (FX = zA 0) := HF.out.1 (.inr rfl)
    clear HF
    go_enter Try.func44, Try.ntmps44
    go_wp2_with fail
    refine hl.mono ?_
    rintro e w1 ⟨rfl, rfl⟩
    go_wp2_with fail
    exact bodyPost_ret (v := VC 0 0 noT 0) (by simp [results, Try.results44, go_sem]) rfl ⟨by rw [HE.out], below3 w _ _ _⟩
  have h1' : (k2 == 0) = false := by simpa using h1
  have HF2 := HF.out.2 (fun h => h.elim h0 h1)
  have HG : Hid (addC n n2 ≠ 0 → FX = zA (addC n n2)) := HF2.2
  have HFF : Hid (addC n n2 = 0 → FX = ((2, addR n n2, noT), 0)) := HF2.1
  clear HF HF2
  have HF : Hid (addC n n2 = 0 → FX = ((2, addR n n2, noT), 0)) := HFF
  clear HFF
  have HI : Hid (∀ w1, Calls Try.prog 80 #[.int .i64 (addR n n2)] w1 fun e w' => e = .returned (VV 2 (addR n n2) noT) ∧ Below w1.heap.size w1 w') := fun w1 => specInt_any _ w1
  have HC : Hid (∀ w1, Calls Try.prog 14 #[.int .i64 n, .int .i64 n2] w1 fun e w' => e = .returned (NC (addR n n2) (addC n n2)) ∧ Below w1.heap.size w1 w') := fun w1 => (specAdd_any n n2 w1 hn hn2).mono fun _ _ h => ⟨h.1, by rw [h.2]; exact Below.refl _ _⟩
  generalize addR n n2 = r at *
  generalize addC n n2 = c at *
  clear hn hn2
  go_enter Try.func44, Try.ntmps44
  go_wp2_with fail
  refine hl.mono ?_
  rintro e w1 ⟨rfl, rfl⟩
  go_wp2_with fail
  refine hl.mono ?_
  rintro e w1 ⟨rfl, rfl⟩
  clear hl LV
  go_wp2_with fail
  refine (HC.out _).mono ?_
  rintro e w2 ⟨rfl, b2⟩
  have S2 : Hid (BiS w k n t k2 n2 t2 w2) := BiS.keep S0.out b2
  clear b2 S0 HC
  by_cases hc0 : c = 0
  · have HE : Hid (FX = ((2, r, noT), 0)) := (HF.out hc0)
    subst hc0
    clear HF HG
    go_wp2_with fail
    refine (HI.out _).mono ?_
    rintro e w9 ⟨rfl, b9⟩
    have S9 : Hid (BiS w k n t k2 n2 t2 w9) := BiS.keep S2.out b9
    clear b9
    obtain ⟨_, _, ⟨v0, v1, v2⟩, ⟨y0, y1, y2⟩, _⟩ := S9.out
    go_wp2_with fail
    obtain ⟨r0, r1, r2, _, _, _⟩ := box_facts (box_set S9.out.2.2.2.2.out.2.2.2.2 2 r noT)
    exact bodyPost_ret (v := VC 2 r noT 0) (by simp [results, Try.results44, go_sem, r0, r1, r2]) rfl ⟨by rw [HE.out], below_set3 S9.out.2.2.2.2.out.2.1 (by omega) _ _ _⟩
  · have HE : Hid (FX = zA c) := HG.out hc0
    have hc1 : (c != 0) = true := by simpa using hc0
    clear HF HG
    obtain ⟨_, _, ⟨v0, v1, v2⟩, ⟨y0, y1, y2⟩, _⟩ := S2.out
    go_wp2_with fail
    obtain ⟨r0, r1, r2, _, _, _⟩ := box_facts (box_set S2.out.2.2.2.2.out.2.2.2.2 0 0 noT)
    exact bodyPost_ret (v := VC 0 0 noT c) (by simp [results, Try.results44, go_sem, r0, r1, r2]) rfl ⟨by rw [HE.out], below_set3 S2.out.2.2.2.2.out.2.1 (by omega) _ _ _⟩
set_option maxRecDepth 100000 in
set_option maxHeartbeats 2000000 in
theorem binMul (k n : Int) (t : ByteArray) (k2 n2 : Int) (t2 : ByteArray) (w : World) (hn : In64 n) (_ : In64 n2) :
    Calls Try.prog 44 #[.string gMul, VV k n t, VV k2 n2 t2] w fun e w' => e = .returned (ansV (reckA mulR mulC (k, n, t) (k2, n2, t2))) ∧ Below w.heap.size w w' := by
  have S0 : Hid (BiS w k n t k2 n2 t2 _) := BiS.start w k n t k2 n2 t2
  have LV := lvsMul
  have HF : Hid ((k = 0 ∨ k2 = 0 → reckA mulR mulC (k, n, t) (k2, n2, t2) = zA 0) ∧ (¬ (k = 0 ∨ k2 = 0) → (mulC n n2 = 0 → reckA mulR mulC (k, n, t) (k2, n2, t2) = ((2, mulR n n2, noT), 0)) ∧ (mulC n n2 ≠ 0 → reckA mulR mulC (k, n, t) (k2, n2, t2) = zA (mulC n n2)))) := ⟨fun h => if_pos h, fun h => ⟨fun h2 => (if_neg h).trans (if_pos h2), fun h2 => (if_neg h).trans (if_neg h2)⟩⟩
  generalize reckA mulR mulC (k, n, t) (k2, n2, t2) = FX at *
  have hl := LV (((w.alloc (.cells #[.int .i64 k, .int .i64 n, .string t] 24)).alloc (.cells #[.int .i64 k2, .int .i64 n2, .string t2] 24)).alloc (.cells #[.int .i64 0, .int .i64 0, .string noT] 24))
  by_cases h0 : k = 0
  · subst h0
    have HE : Hid (FX = zA 0) := HF.out.1 (.inl rfl)
    clear HF
    go_enter Try.func44, Try.ntmps44
    go_wp2_with fail
    refine hl.mono ?_
    rintro e w1 ⟨rfl, rfl⟩
    go_wp2_with fail
    exact bodyPost_ret (v := VC 0 0 noT 0) (by simp [results, Try.results44, go_sem]) rfl ⟨by rw [HE.out], below3 w _ _ _⟩
  have h0' : (k == 0) = false := by simpa using h0
  by_cases h1 : k2 = 0
  · subst h1
    have HE : Hid (FX = zA 0) := HF.out.1 (.inr rfl)
    clear HF
    go_enter Try.func44, Try.ntmps44
    go_wp2_with fail
    refine hl.mono ?_
    rintro e w1 ⟨rfl, rfl⟩
    go_wp2_with fail
    exact bodyPost_ret (v := VC 0 0 noT 0) (by simp [results, Try.results44, go_sem]) rfl ⟨by rw [HE.out], below3 w _ _ _⟩
  have h1' : (k2 == 0) = false := by simpa using h1
  have HF2 := HF.out.2 (fun h => h.elim h0 h1)
  have HG : Hid (mulC n n2 ≠ 0 → FX = zA (mulC n n2)) := HF2.2
  have HFF : Hid (mulC n n2 = 0 → FX = ((2, mulR n n2, noT), 0)) := HF2.1
  clear HF HF2
  have HF : Hid (mulC n n2 = 0 → FX = ((2, mulR n n2, noT), 0)) := HFF
  clear HFF
  have HI : Hid (∀ w1, Calls Try.prog 80 #[.int .i64 (mulR n n2)] w1 fun e w' => e = .returned (VV 2 (mulR n n2) noT) ∧ Below w1.heap.size w1 w') := fun w1 => specInt_any _ w1
  have HC : Hid (∀ w1, Calls Try.prog 16 #[.int .i64 n, .int .i64 n2] w1 fun e w' => e = .returned (NC (mulR n n2) (mulC n n2)) ∧ Below w1.heap.size w1 w') := fun w1 => specMul_any n n2 w1 hn
  generalize mulR n n2 = r at *
  generalize mulC n n2 = c at *
  clear hn
  go_enter Try.func44, Try.ntmps44
  go_wp2_with fail
  refine hl.mono ?_
  rintro e w1 ⟨rfl, rfl⟩
  go_wp2_with fail
  refine hl.mono ?_
  rintro e w1 ⟨rfl, rfl⟩
  clear hl LV
  go_wp2_with fail
  refine (HC.out _).mono ?_
  rintro e w2 ⟨rfl, b2⟩
  have S2 : Hid (BiS w k n t k2 n2 t2 w2) := BiS.keep S0.out b2
  clear b2 S0 HC
  by_cases hc0 : c = 0
  · have HE : Hid (FX = ((2, r, noT), 0)) := (HF.out hc0)
    subst hc0
    clear HF HG
    go_wp2_with fail
    refine (HI.out _).mono ?_
    rintro e w9 ⟨rfl, b9⟩
    have S9 : Hid (BiS w k n t k2 n2 t2 w9) := BiS.keep S2.out b9
    clear b9
    obtain ⟨_, _, ⟨v0, v1, v2⟩, ⟨y0, y1, y2⟩, _⟩ := S9.out
    go_wp2_with fail
    obtain ⟨r0, r1, r2, _, _, _⟩ := box_facts (box_set S9.out.2.2.2.2.out.2.2.2.2 2 r noT)
    exact bodyPost_ret (v := VC 2 r noT 0) (by simp [results, Try.results44, go_sem, r0, r1, r2]) rfl ⟨by rw [HE.out], below_set3 S9.out.2.2.2.2.out.2.1 (by omega) _ _ _⟩
  · have HE : Hid (FX = zA c) := HG.out hc0
    have hc1 : (c != 0) = true := by simpa using hc0
    clear HF HG
    obtain ⟨_, _, ⟨v0, v1, v2⟩, ⟨y0, y1, y2⟩, _⟩ := S2.out
    go_wp2_with fail
    obtain ⟨r0, r1, r2, _, _, _⟩ := box_facts (box_set S2.out.2.2.2.2.out.2.2.2.2 0 0 noT)
    exact bodyPost_ret (v := VC 0 0 noT c) (by simp [results, Try.results44, go_sem, r0, r1, r2]) rfl ⟨by rw [HE.out], below_set3 S2.out.2.2.2.2.out.2.1 (by omega) _ _ _⟩
set_option maxRecDepth 100000 in
set_option maxHeartbeats 2000000 in
theorem binDiv (k n : Int) (t : ByteArray) (k2 n2 : Int) (t2 : ByteArray) (w : World) (hn : In64 n) (_ : In64 n2) :
    Calls Try.prog 44 #[.string gDiv, VV k n t, VV k2 n2 t2] w fun e w' => e = .returned (ansV (reckA divQ divC (k, n, t) (k2, n2, t2))) ∧ Below w.heap.size w w' := by
  have S0 : Hid (BiS w k n t k2 n2 t2 _) := BiS.start w k n t k2 n2 t2
  have LV := lvsDiv
  have HF : Hid ((k = 0 ∨ k2 = 0 → reckA divQ divC (k, n, t) (k2, n2, t2) = zA 0) ∧ (¬ (k = 0 ∨ k2 = 0) → (divC n n2 = 0 → reckA divQ divC (k, n, t) (k2, n2, t2) = ((2, divQ n n2, noT), 0)) ∧ (divC n n2 ≠ 0 → reckA divQ divC (k, n, t) (k2, n2, t2) = zA (divC n n2)))) := ⟨fun h => if_pos h, fun h => ⟨fun h2 => (if_neg h).trans (if_pos h2), fun h2 => (if_neg h).trans (if_neg h2)⟩⟩
  generalize reckA divQ divC (k, n, t) (k2, n2, t2) = FX at *
  have hl := LV (((w.alloc (.cells #[.int .i64 k, .int .i64 n, .string t] 24)).alloc (.cells #[.int .i64 k2, .int .i64 n2, .string t2] 24)).alloc (.cells #[.int .i64 0, .int .i64 0, .string noT] 24))
  by_cases h0 : k = 0
  · subst h0
    have HE : Hid (FX = zA 0) := HF.out.1 (.inl rfl)
    clear HF
    go_enter Try.func44, Try.ntmps44
    go_wp2_with fail
    refine hl.mono ?_
    rintro e w1 ⟨rfl, rfl⟩
    go_wp2_with fail
    exact bodyPost_ret (v := VC 0 0 noT 0) (by simp [results, Try.results44, go_sem]) rfl ⟨by rw [HE.out], below3 w _ _ _⟩
  have h0' : (k == 0) = false := by simpa using h0
  by_cases h1 : k2 = 0
  · subst h1
    have HE : Hid (FX = zA 0) := HF.out.1 (.inr rfl)
    clear HF
    go_enter Try.func44, Try.ntmps44
    go_wp2_with fail
    refine hl.mono ?_
    rintro e w1 ⟨rfl, rfl⟩
    go_wp2_with fail
    exact bodyPost_ret (v := VC 0 0 noT 0) (by simp [results, Try.results44, go_sem]) rfl ⟨by rw [HE.out], below3 w _ _ _⟩
  have h1' : (k2 == 0) = false := by simpa using h1
  have HF2 := HF.out.2 (fun h => h.elim h0 h1)
  have HG : Hid (divC n n2 ≠ 0 → FX = zA (divC n n2)) := HF2.2
  have HFF : Hid (divC n n2 = 0 → FX = ((2, divQ n n2, noT), 0)) := HF2.1
  clear HF HF2
  have HF : Hid (divC n n2 = 0 → FX = ((2, divQ n n2, noT), 0)) := HFF
  clear HFF
  have HI : Hid (∀ w1, Calls Try.prog 80 #[.int .i64 (divQ n n2)] w1 fun e w' => e = .returned (VV 2 (divQ n n2) noT) ∧ Below w1.heap.size w1 w') := fun w1 => specInt_any _ w1
  have HC : Hid (∀ w1, Calls Try.prog 25 #[.int .i64 n, .int .i64 n2] w1 fun e w' => e = .returned (NNC (divQ n n2) (divM n n2) (divC n n2)) ∧ Below w1.heap.size w1 w') := fun w1 => specDiv_any n n2 w1 hn
  generalize divM n n2 = md at *
  generalize divQ n n2 = r at *
  generalize divC n n2 = c at *
  clear hn
  go_enter Try.func44, Try.ntmps44
  go_wp2_with fail
  refine hl.mono ?_
  rintro e w1 ⟨rfl, rfl⟩
  go_wp2_with fail
  refine hl.mono ?_
  rintro e w1 ⟨rfl, rfl⟩
  clear hl LV
  go_wp2_with fail
  refine (HC.out _).mono ?_
  rintro e w2 ⟨rfl, b2⟩
  have S2 : Hid (BiS w k n t k2 n2 t2 w2) := BiS.keep S0.out b2
  clear b2 S0 HC
  by_cases hc0 : c = 0
  · have HE : Hid (FX = ((2, r, noT), 0)) := (HF.out hc0)
    subst hc0
    clear HF HG
    go_wp2_with fail
    refine (HI.out _).mono ?_
    rintro e w9 ⟨rfl, b9⟩
    have S9 : Hid (BiS w k n t k2 n2 t2 w9) := BiS.keep S2.out b9
    clear b9
    obtain ⟨_, _, ⟨v0, v1, v2⟩, ⟨y0, y1, y2⟩, _⟩ := S9.out
    go_wp2_with fail
    obtain ⟨r0, r1, r2, _, _, _⟩ := box_facts (box_set S9.out.2.2.2.2.out.2.2.2.2 2 r noT)
    exact bodyPost_ret (v := VC 2 r noT 0) (by simp [results, Try.results44, go_sem, r0, r1, r2]) rfl ⟨by rw [HE.out], below_set3 S9.out.2.2.2.2.out.2.1 (by omega) _ _ _⟩
  · have HE : Hid (FX = zA c) := HG.out hc0
    have hc1 : (c != 0) = true := by simpa using hc0
    clear HF HG
    obtain ⟨_, _, ⟨v0, v1, v2⟩, ⟨y0, y1, y2⟩, _⟩ := S2.out
    go_wp2_with fail
    obtain ⟨r0, r1, r2, _, _, _⟩ := box_facts (box_set S2.out.2.2.2.2.out.2.2.2.2 0 0 noT)
    exact bodyPost_ret (v := VC 0 0 noT c) (by simp [results, Try.results44, go_sem, r0, r1, r2]) rfl ⟨by rw [HE.out], below_set3 S2.out.2.2.2.2.out.2.1 (by omega) _ _ _⟩
end Go.Proofs.Yteloioopkndcmaa
