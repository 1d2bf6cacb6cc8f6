/- Unary signs: the specification's UnaryValue (stage 12). -/
import Derived.Test.YteloioopkndcmaaBvE
namespace Go.Proofs.Yteloioopkndcmaa
open Go.RowKit

theorem ok_null {n : Int} {t : ByteArray} (h : okV 0 n t = true) : n = 0 ∧ t = noT := by
  unfold okV at h
  rw [if_pos rfl] at h
  simp only [Bool.and_eq_true, beq_iff_eq] at h
  refine ⟨h.1, bytes_eq ?_⟩
  have h2 := h.2
  rw [List.isEmpty_iff] at h2
  rw [h2]
  simp [ByteArray.toList_eq]
set_option maxRecDepth 100000 in
theorem l12Un_nul (k n : Int) (t : ByteArray) (w : World) : Calls Try.prog 53 #[.string sNul, VV k n t] w fun e w' => e = .returned (ansV ((1, bit (k == 0), noT), 0)) ∧ Below w.heap.size w w' := by
  have S0 : Hid (NgS w k n t _) := NgS.start w k n t
  have hc := specBool_any (k == 0) ((w.alloc (.cells #[.int .i64 k, .int .i64 n, .string t] 24)).alloc (.cells #[.int .i64 0, .int .i64 0, .string noT] 24))
  generalize bit (k == 0) = x at *
  obtain ⟨⟨u0, u1, u2⟩, _, _, _⟩ := S0.out
  go_enter Try.func53, Try.ntmps53
  go_wp2_with fail
  refine hc.mono ?_
  rintro e w1 ⟨rfl, b1⟩
  have S1 := NgS.keep S0.out b1
  clear u0 u1 u2 hc b1 S0
  obtain ⟨_, ⟨v0, v1, v2⟩, ⟨y0, y1, y2⟩, HX⟩ := S1
  go_wp2_with fail
  obtain ⟨q0, q1, q2, _, _, _⟩ := box_facts (box_set HX.out.2.2.2 1 x noT)
  exact bodyPost_ret (v := VC 1 x noT 0) (by simp [results, Try.results53, go_sem, q0, q1, q2]) rfl ⟨rfl, below_set3 HX.out.2.1 (by omega) _ _ _⟩
set_option maxRecDepth 100000 in
theorem l12Un_nnl (k n : Int) (t : ByteArray) (w : World) : Calls Try.prog 53 #[.string sNnl, VV k n t] w fun e w' => e = .returned (ansV ((1, bit (!(k == 0)), noT), 0)) ∧ Below w.heap.size w w' := by
  have S0 : Hid (NgS w k n t _) := NgS.start w k n t
  have hc0 : (k != 0) = !(k == 0) := rfl
  have hc := specBool_any (!(k == 0)) ((w.alloc (.cells #[.int .i64 k, .int .i64 n, .string t] 24)).alloc (.cells #[.int .i64 0, .int .i64 0, .string noT] 24))
  generalize bit (!(k == 0)) = x at *
  obtain ⟨⟨u0, u1, u2⟩, _, _, _⟩ := S0.out
  go_enter Try.func53, Try.ntmps53
  go_wp2_with fail
  refine hc.mono ?_
  rintro e w1 ⟨rfl, b1⟩
  have S1 := NgS.keep S0.out b1
  clear u0 u1 u2 hc b1 S0
  obtain ⟨_, ⟨v0, v1, v2⟩, ⟨y0, y1, y2⟩, HX⟩ := S1
  go_wp2_with fail
  obtain ⟨q0, q1, q2, _, _, _⟩ := box_facts (box_set HX.out.2.2.2 1 x noT)
  exact bodyPost_ret (v := VC 1 x noT 0) (by simp [results, Try.results53, go_sem, q0, q1, q2]) rfl ⟨rfl, below_set3 HX.out.2.1 (by omega) _ _ _⟩
set_option maxRecDepth 100000 in
theorem l12Un_not (k n : Int) (t : ByteArray) (w : World) (ho : okV k n t = true) : Calls Try.prog 53 #[.string sNot, VV k n t] w fun e w' => e = .returned (ansV (if k = 0 then zA 0 else ((1, bit (n == 0), noT), 0))) ∧ Below w.heap.size w w' := by
  by_cases hk : k = 0
  · subst hk
    obtain ⟨rfl, rfl⟩ := ok_null ho
    go_enter Try.func53, Try.ntmps53
    go_wp2_with fail
    exact bodyPost_ret (v := VC 0 0 noT 0) (by simp [results, Try.results53, go_sem]) rfl ⟨rfl, below2 w _ _⟩
  · have hk' : (k == 0) = false := by simpa using hk
    rw [if_neg hk]
    clear ho
    have S0 : Hid (NgS w k n t _) := NgS.start w k n t
    have hc := specBool_any (n == 0) ((w.alloc (.cells #[.int .i64 k, .int .i64 n, .string t] 24)).alloc (.cells #[.int .i64 0, .int .i64 0, .string noT] 24))
    generalize bit (n == 0) = x at *
    obtain ⟨⟨u0, u1, u2⟩, _, _, _⟩ := S0.out
    go_enter Try.func53, Try.ntmps53
    go_wp2_with fail
    refine hc.mono ?_
    rintro e w1 ⟨rfl, b1⟩
    have S1 := NgS.keep S0.out b1
    clear u0 u1 u2 hc b1 S0
    obtain ⟨_, ⟨v0, v1, v2⟩, ⟨y0, y1, y2⟩, HX⟩ := S1
    go_wp2_with fail
    obtain ⟨q0, q1, q2, _, _, _⟩ := box_facts (box_set HX.out.2.2.2 1 x noT)
    exact bodyPost_ret (v := VC 1 x noT 0) (by simp [results, Try.results53, go_sem, q0, q1, q2]) rfl ⟨rfl, below_set3 HX.out.2.1 (by omega) _ _ _⟩
theorem neg_math {n : Int} (hn : In64 n) : (n = -9223372036854775808 ∧ subC 0 n = 4) ∨ (n ≠ -9223372036854775808 ∧ subC 0 n = 0 ∧ IntKind.i64.wrap (-n) = subR 0 n) := by
  unfold In64 at hn
  by_cases h : n = -9223372036854775808
  · exact .inl ⟨h, by subst h; decide⟩
  · refine .inr ⟨h, if_pos (by unfold In64; omega), ?_⟩
    unfold subR
    rw [if_pos (by unfold In64; omega), wrap64]
    omega
set_option maxRecDepth 100000 in
theorem l12Un_neg (k n : Int) (t : ByteArray) (w : World) (hn : In64 n) (ho : okV k n t = true) : Calls Try.prog 53 #[.string sNeg, VV k n t] w fun e w' => e = .returned (ansV (reckA subR subC (2, 0, noT) (k, n, t))) ∧ Below w.heap.size w w' := by
  by_cases hk : k = 0
  · subst hk
    obtain ⟨rfl, rfl⟩ := ok_null ho
    go_enter Try.func53, Try.ntmps53
    go_wp2_with fail
    exact bodyPost_ret (v := VC 0 0 noT 0) (by simp [results, Try.results53, go_sem]) rfl ⟨by unfold reckA; rw [if_pos (.inr rfl)], below2 w _ _⟩
  · have hk' : (k == 0) = false := by simpa using hk
    have hl : ∀ w, Calls Try.prog 52 #[] w fun e w' => e = .returned (.int .i64 (-9223372036854775808)) ∧ w' = w := least_any
    rcases neg_math hn with ⟨h1, h2⟩ | ⟨h1, h2, h3⟩
    · have HX : Hid (reckA subR subC (2, 0, noT) (k, n, t) = zA 4) := by
        show _ = _
        unfold reckA
        rw [if_neg (by simp [hk])]
        simp [h2]
      generalize reckA subR subC (2, 0, noT) (k, n, t) = X at *
      clear hn ho h2
      subst h1
      go_enter Try.func53, Try.ntmps53
      go_wp2_with fail
      go_region_with (first | (go_at_call 52; refine (hl _).mono ?_; rintro e wA ⟨rfl, rfl⟩) | fail)
      all_goals
        go_wp2_with fail
        exact bodyPost_ret (v := VC 0 0 noT 4) (by simp [results, Try.results53, go_sem]) rfl ⟨by rw [HX.out], (below2 w _ _).drew⟩
    · have HX : Hid (reckA subR subC (2, 0, noT) (k, n, t) = ((2, subR 0 n, noT), 0)) := by
        show _ = _
        unfold reckA
        rw [if_neg (by simp [hk])]
        simp [h2]
      generalize reckA subR subC (2, 0, noT) (k, n, t) = X at *
      generalize subR 0 n = r at *
      have h1' : (n == -9223372036854775808) = false := by simpa using h1
      have S0 : Hid (NgS w k n t _) := NgS.start w k n t
      have HI : Hid (∀ w1, Calls Try.prog 80 #[.int .i64 r] w1 fun e w' => e = .returned (VV 2 r noT) ∧ Below w1.heap.size w1 w') := fun w1 => specInt_any r w1
      clear hn ho h2 h1
      go_enter Try.func53, Try.ntmps53
      go_wp2_with fail
      go_region_with (first | (go_at_call 52; refine (hl _).mono ?_; rintro e wA ⟨rfl, rfl⟩) | fail)
      all_goals
        go_wp2_with fail
        refine (HI.out _).mono ?_
        rintro e w1 ⟨rfl, b1⟩
        have S1 := NgS.keep (NgS.keep S0.out (Below.refl _ _).drew) b1
        clear HI b1 S0
        obtain ⟨_, ⟨v0, v1, v2⟩, ⟨y0, y1, y2⟩, HY⟩ := S1
        go_wp2_with fail
        obtain ⟨q0, q1, q2, _, _, _⟩ := box_facts (box_set HY.out.2.2.2 2 r noT)
        exact bodyPost_ret (v := VC 2 r noT 0) (by simp [results, Try.results53, go_sem, q0, q1, q2]) rfl ⟨by rw [HX.out], below_set3 HY.out.2.1 (by omega) _ _ _⟩
set_option maxRecDepth 100000 in
set_option maxHeartbeats 2000000 in
theorem specUn_neg (X : V3 × Int) (k n : Int) (t : ByteArray) (w : World) (hX : okV k n t = true → ∀ w, Calls Try.prog 53 #[.string sNeg, VV k n t] w fun e w' => e = .returned (ansV X) ∧ Below w.heap.size w w') :
    Calls Try.prog 29 #[.string sNeg, VV k n t] w fun e w' => e = .returned (ansV (unX 7 k n t X)) ∧ Below w.heap.size w w' := by
  have S0 : Hid (NgS w k n t _) := NgS.start w k n t
  have hc := specValueOK_any k n t ((w.alloc (.cells #[.int .i64 k, .int .i64 n, .string t] 24)).alloc (.cells #[.int .i64 0, .int .i64 0, .string noT] 24))
  have HX : Hid (okV k n t = true → ∀ w, Calls Try.prog 53 #[.string sNeg, VV k n t] w fun e w' => e = .returned (ansV X) ∧ Below w.heap.size w w') := hX
  have HX0 : Hid (unX 7 k n t X = if okV k n t = false then zA 1 else if fitK k (opK 7 k) = false then zA 10 else X) := rfl
  have HF : Hid (fitK k (opK 7 k) = (k == 2 || k == 0)) := by show _ = _; unfold fitK opK; simp
  generalize unX 7 k n t X = Y at *
  generalize okV k n t = ok at *
  generalize fitK k (opK 7 k) = ft at *
  obtain ⟨⟨xk, xn, xt⟩, xc⟩ := X
  obtain ⟨⟨u0, u1, u2⟩, _, _, _⟩ := S0.out
  clear hX
  go_enter Try.func29, Try.ntmps29
  go_wp2_with fail
  refine hc.mono ?_
  rintro e w1 ⟨rfl, b1⟩
  have S1 : Hid (NgS w k n t w1) := NgS.keep S0.out b1
  clear u0 u1 u2 hc b1 S0
  obtain ⟨⟨u0, u1, u2⟩, ⟨v0, v1, v2⟩, ⟨y0, y1, y2⟩, HY⟩ := S1.out
  cases ok with
  | false =>
    go_wp2_with fail
    obtain ⟨q0, q1, q2, _, _, _⟩ := box_facts (box_set HY.out.2.2.2 0 0 noT)
    exact bodyPost_ret (v := VC 0 0 noT 1) (by simp [results, Try.results29, go_sem, q0, q1, q2]) rfl ⟨by rw [HX0.out]; rfl, below_set3 HY.out.2.1 (by omega) _ _ _⟩
  | true =>
    have HC := HX.out rfl w1
    clear HX
    have done : ft = false → Hid (Y = zA 10) := fun h => by show _ = _; rw [HX0.out, h]; rfl
    have good : ft = true → Hid (Y = ((xk, xn, xt), xc)) := fun h => by show _ = _; rw [HX0.out, h]; rfl
    have fin : ∀ w2, Below w1.heap.size w1 w2 → Hid (NgS w k n t w2) := fun w2 b => NgS.keep S1.out b
    have hf := HF.out
    by_cases hk : k = 0
    · subst hk
      have HY0 := good (by rw [hf]; rfl)
      clear hf done good HF HX0
      clear v0 v1 v2 y0 y1 y2
      go_wp2_with fail
      refine HC.mono ?_
      rintro e w2 ⟨rfl, b2⟩
      have S2 := (fin w2 b2).out
      clear u0 u1 u2 b2 HC HY
      obtain ⟨_, ⟨v0, v1, v2⟩, ⟨y0, y1, y2⟩, HY⟩ := S2
      go_wp2_with fail
      obtain ⟨q0, q1, q2, _, _, _⟩ := box_facts (box_set HY.out.2.2.2 xk xn xt)
      exact bodyPost_ret (v := VC xk xn xt xc) (by simp [results, Try.results29, go_sem, q0, q1, q2]) rfl ⟨by rw [HY0.out], below_set3 HY.out.2.1 (by omega) _ _ _⟩
    · have hk' : (k != 0) = true := by simpa using hk
      by_cases hk2 : k = 2
      · subst hk2
        have HY0 := good (by rw [hf]; rfl)
        clear hf done good HF HX0 hk hk'
        clear v0 v1 v2 y0 y1 y2
        go_wp2_with fail
        refine HC.mono ?_
        rintro e w2 ⟨rfl, b2⟩
        have S2 := (fin w2 b2).out
        clear u0 u1 u2 b2 HC HY
        obtain ⟨_, ⟨v0, v1, v2⟩, ⟨y0, y1, y2⟩, HY⟩ := S2
        go_wp2_with fail
        obtain ⟨q0, q1, q2, _, _, _⟩ := box_facts (box_set HY.out.2.2.2 xk xn xt)
        exact bodyPost_ret (v := VC xk xn xt xc) (by simp [results, Try.results29, go_sem, q0, q1, q2]) rfl ⟨by rw [HY0.out], below_set3 HY.out.2.1 (by omega) _ _ _⟩
      · have HY0 := done (by rw [hf]; simp [hk, hk2])
        have hk2' : (k != 2) = true := by simpa using hk2
        clear hf done good HF HX0
        go_wp2_with fail
        obtain ⟨q0, q1, q2, _, _, _⟩ := box_facts (box_set HY.out.2.2.2 0 0 noT)
        exact bodyPost_ret (v := VC 0 0 noT 10) (by simp [results, Try.results29, go_sem, q0, q1, q2]) rfl ⟨by rw [HY0.out], below_set3 HY.out.2.1 (by omega) _ _ _⟩
set_option maxRecDepth 100000 in
set_option maxHeartbeats 2000000 in
theorem specUn_not (X : V3 × Int) (k n : Int) (t : ByteArray) (w : World) (hX : okV k n t = true → ∀ w, Calls Try.prog 53 #[.string sNot, VV k n t] w fun e w' => e = .returned (ansV X) ∧ Below w.heap.size w w') :
    Calls Try.prog 29 #[.string sNot, VV k n t] w fun e w' => e = .returned (ansV (unX 3 k n t X)) ∧ Below w.heap.size w w' := by
  have S0 : Hid (NgS w k n t _) := NgS.start w k n t
  have hc := specValueOK_any k n t ((w.alloc (.cells #[.int .i64 k, .int .i64 n, .string t] 24)).alloc (.cells #[.int .i64 0, .int .i64 0, .string noT] 24))
  have HX : Hid (okV k n t = true → ∀ w, Calls Try.prog 53 #[.string sNot, VV k n t] w fun e w' => e = .returned (ansV X) ∧ Below w.heap.size w w') := hX
  have HX0 : Hid (unX 3 k n t X = if okV k n t = false then zA 1 else if fitK k (opK 3 k) = false then zA 10 else X) := rfl
  have HF : Hid (fitK k (opK 3 k) = (k == 1 || k == 0)) := by show _ = _; unfold fitK opK; simp
  generalize unX 3 k n t X = Y at *
  generalize okV k n t = ok at *
  generalize fitK k (opK 3 k) = ft at *
  obtain ⟨⟨xk, xn, xt⟩, xc⟩ := X
  obtain ⟨⟨u0, u1, u2⟩, _, _, _⟩ := S0.out
  clear hX
  go_enter Try.func29, Try.ntmps29
  go_wp2_with fail
  refine hc.mono ?_
  rintro e w1 ⟨rfl, b1⟩
  have S1 : Hid (NgS w k n t w1) := NgS.keep S0.out b1
  clear u0 u1 u2 hc b1 S0
  obtain ⟨⟨u0, u1, u2⟩, ⟨v0, v1, v2⟩, ⟨y0, y1, y2⟩, HY⟩ := S1.out
  cases ok with
  | false =>
    go_wp2_with fail
    obtain ⟨q0, q1, q2, _, _, _⟩ := box_facts (box_set HY.out.2.2.2 0 0 noT)
    exact bodyPost_ret (v := VC 0 0 noT 1) (by simp [results, Try.results29, go_sem, q0, q1, q2]) rfl ⟨by rw [HX0.out]; rfl, below_set3 HY.out.2.1 (by omega) _ _ _⟩
  | true =>
    have HC := HX.out rfl w1
    clear HX
    have done : ft = false → Hid (Y = zA 10) := fun h => by show _ = _; rw [HX0.out, h]; rfl
    have good : ft = true → Hid (Y = ((xk, xn, xt), xc)) := fun h => by show _ = _; rw [HX0.out, h]; rfl
    have fin : ∀ w2, Below w1.heap.size w1 w2 → Hid (NgS w k n t w2) := fun w2 b => NgS.keep S1.out b
    have hf := HF.out
    by_cases hk : k = 0
    · subst hk
      have HY0 := good (by rw [hf]; rfl)
      clear hf done good HF HX0
      clear v0 v1 v2 y0 y1 y2
      go_wp2_with fail
      refine HC.mono ?_
      rintro e w2 ⟨rfl, b2⟩
      have S2 := (fin w2 b2).out
      clear u0 u1 u2 b2 HC HY
      obtain ⟨_, ⟨v0, v1, v2⟩, ⟨y0, y1, y2⟩, HY⟩ := S2
      go_wp2_with fail
      obtain ⟨q0, q1, q2, _, _, _⟩ := box_facts (box_set HY.out.2.2.2 xk xn xt)
      exact bodyPost_ret (v := VC xk xn xt xc) (by simp [results, Try.results29, go_sem, q0, q1, q2]) rfl ⟨by rw [HY0.out], below_set3 HY.out.2.1 (by omega) _ _ _⟩
    · have hk' : (k != 0) = true := by simpa using hk
      by_cases hk2 : k = 1
      · subst hk2
        have HY0 := good (by rw [hf]; rfl)
        clear hf done good HF HX0 hk hk'
        clear v0 v1 v2 y0 y1 y2
        go_wp2_with fail
        refine HC.mono ?_
        rintro e w2 ⟨rfl, b2⟩
        have S2 := (fin w2 b2).out
        clear u0 u1 u2 b2 HC HY
        obtain ⟨_, ⟨v0, v1, v2⟩, ⟨y0, y1, y2⟩, HY⟩ := S2
        go_wp2_with fail
        obtain ⟨q0, q1, q2, _, _, _⟩ := box_facts (box_set HY.out.2.2.2 xk xn xt)
        exact bodyPost_ret (v := VC xk xn xt xc) (by simp [results, Try.results29, go_sem, q0, q1, q2]) rfl ⟨by rw [HY0.out], below_set3 HY.out.2.1 (by omega) _ _ _⟩
      · have HY0 := done (by rw [hf]; simp [hk, hk2])
        have hk2' : (k != 1) = true := by simpa using hk2
        clear hf done good HF HX0
        go_wp2_with fail
        obtain ⟨q0, q1, q2, _, _, _⟩ := box_facts (box_set HY.out.2.2.2 0 0 noT)
        exact bodyPost_ret (v := VC 0 0 noT 10) (by simp [results, Try.results29, go_sem, q0, q1, q2]) rfl ⟨by rw [HY0.out], below_set3 HY.out.2.1 (by omega) _ _ _⟩
set_option maxRecDepth 100000 in
set_option maxHeartbeats 2000000 in
theorem specUn_nul (X : V3 × Int) (k n : Int) (t : ByteArray) (w : World) (hX : okV k n t = true → ∀ w, Calls Try.prog 53 #[.string sNul, VV k n t] w fun e w' => e = .returned (ansV X) ∧ Below w.heap.size w w') :
    Calls Try.prog 29 #[.string sNul, VV k n t] w fun e w' => e = .returned (ansV (unX 4 k n t X)) ∧ Below w.heap.size w w' := by
  have S0 : Hid (NgS w k n t _) := NgS.start w k n t
  have hc := specValueOK_any k n t ((w.alloc (.cells #[.int .i64 k, .int .i64 n, .string t] 24)).alloc (.cells #[.int .i64 0, .int .i64 0, .string noT] 24))
  have HX : Hid (okV k n t = true → ∀ w, Calls Try.prog 53 #[.string sNul, VV k n t] w fun e w' => e = .returned (ansV X) ∧ Below w.heap.size w w') := hX
  have HX0 : Hid (unX 4 k n t X = if okV k n t = false then zA 1 else if fitK k (opK 4 k) = false then zA 10 else X) := rfl
  have HF : Hid (fitK k (opK 4 k) = true) := by show _ = _; unfold fitK opK; simp
  generalize unX 4 k n t X = Y at *
  generalize okV k n t = ok at *
  generalize fitK k (opK 4 k) = ft at *
  obtain ⟨⟨xk, xn, xt⟩, xc⟩ := X
  obtain ⟨⟨u0, u1, u2⟩, _, _, _⟩ := S0.out
  clear hX
  go_enter Try.func29, Try.ntmps29
  go_wp2_with fail
  refine hc.mono ?_
  rintro e w1 ⟨rfl, b1⟩
  have S1 : Hid (NgS w k n t w1) := NgS.keep S0.out b1
  clear u0 u1 u2 hc b1 S0
  obtain ⟨⟨u0, u1, u2⟩, ⟨v0, v1, v2⟩, ⟨y0, y1, y2⟩, HY⟩ := S1.out
  cases ok with
  | false =>
    go_wp2_with fail
    obtain ⟨q0, q1, q2, _, _, _⟩ := box_facts (box_set HY.out.2.2.2 0 0 noT)
    exact bodyPost_ret (v := VC 0 0 noT 1) (by simp [results, Try.results29, go_sem, q0, q1, q2]) rfl ⟨by rw [HX0.out]; rfl, below_set3 HY.out.2.1 (by omega) _ _ _⟩
  | true =>
    have HC := HX.out rfl w1
    clear HX
    have done : ft = false → Hid (Y = zA 10) := fun h => by show _ = _; rw [HX0.out, h]; rfl
    have good : ft = true → Hid (Y = ((xk, xn, xt), xc)) := fun h => by show _ = _; rw [HX0.out, h]; rfl
    have fin : ∀ w2, Below w1.heap.size w1 w2 → Hid (NgS w k n t w2) := fun w2 b => NgS.keep S1.out b
    have HY0 := good HF.out
    clear done good HF HX0
    clear v0 v1 v2 y0 y1 y2
    go_wp2_with fail
    refine HC.mono ?_
    rintro e w2 ⟨rfl, b2⟩
    have S2 := (fin w2 b2).out
    clear u0 u1 u2 b2 HC HY
    obtain ⟨_, ⟨v0, v1, v2⟩, ⟨y0, y1, y2⟩, HY⟩ := S2
    go_wp2_with fail
    obtain ⟨q0, q1, q2, _, _, _⟩ := box_facts (box_set HY.out.2.2.2 xk xn xt)
    exact bodyPost_ret (v := VC xk xn xt xc) (by simp [results, Try.results29, go_sem, q0, q1, q2]) rfl ⟨by rw [HY0.out], below_set3 HY.out.2.1 (by omega) _ _ _⟩
set_option maxRecDepth 100000 in
set_option maxHeartbeats 2000000 in
theorem specUn_nnl (X : V3 × Int) (k n : Int) (t : ByteArray) (w : World) (hX : okV k n t = true → ∀ w, Calls Try.prog 53 #[.string sNnl, VV k n t] w fun e w' => e = .returned (ansV X) ∧ Below w.heap.size w w') :
    Calls Try.prog 29 #[.string sNnl, VV k n t] w fun e w' => e = .returned (ansV (unX 4 k n t X)) ∧ Below w.heap.size w w' := by
  have S0 : Hid (NgS w k n t _) := NgS.start w k n t
  have hc := specValueOK_any k n t ((w.alloc (.cells #[.int .i64 k, .int .i64 n, .string t] 24)).alloc (.cells #[.int .i64 0, .int .i64 0, .string noT] 24))
  have HX : Hid (okV k n t = true → ∀ w, Calls Try.prog 53 #[.string sNnl, VV k n t] w fun e w' => e = .returned (ansV X) ∧ Below w.heap.size w w') := hX
  have HX0 : Hid (unX 4 k n t X = if okV k n t = false then zA 1 else if fitK k (opK 4 k) = false then zA 10 else X) := rfl
  have HF : Hid (fitK k (opK 4 k) = true) := by show _ = _; unfold fitK opK; simp
  generalize unX 4 k n t X = Y at *
  generalize okV k n t = ok at *
  generalize fitK k (opK 4 k) = ft at *
  obtain ⟨⟨xk, xn, xt⟩, xc⟩ := X
  obtain ⟨⟨u0, u1, u2⟩, _, _, _⟩ := S0.out
  clear hX
  go_enter Try.func29, Try.ntmps29
  go_wp2_with fail
  refine hc.mono ?_
  rintro e w1 ⟨rfl, b1⟩
  have S1 : Hid (NgS w k n t w1) := NgS.keep S0.out b1
  clear u0 u1 u2 hc b1 S0
  obtain ⟨⟨u0, u1, u2⟩, ⟨v0, v1, v2⟩, ⟨y0, y1, y2⟩, HY⟩ := S1.out
  cases ok with
  | false =>
    go_wp2_with fail
    obtain ⟨q0, q1, q2, _, _, _⟩ := box_facts (box_set HY.out.2.2.2 0 0 noT)
    exact bodyPost_ret (v := VC 0 0 noT 1) (by simp [results, Try.results29, go_sem, q0, q1, q2]) rfl ⟨by rw [HX0.out]; rfl, below_set3 HY.out.2.1 (by omega) _ _ _⟩
  | true =>
    have HC := HX.out rfl w1
    clear HX
    have done : ft = false → Hid (Y = zA 10) := fun h => by show _ = _; rw [HX0.out, h]; rfl
    have good : ft = true → Hid (Y = ((xk, xn, xt), xc)) := fun h => by show _ = _; rw [HX0.out, h]; rfl
    have fin : ∀ w2, Below w1.heap.size w1 w2 → Hid (NgS w k n t w2) := fun w2 b => NgS.keep S1.out b
    have HY0 := good HF.out
    clear done good HF HX0
    clear v0 v1 v2 y0 y1 y2
    go_wp2_with fail
    refine HC.mono ?_
    rintro e w2 ⟨rfl, b2⟩
    have S2 := (fin w2 b2).out
    clear u0 u1 u2 b2 HC HY
    obtain ⟨_, ⟨v0, v1, v2⟩, ⟨y0, y1, y2⟩, HY⟩ := S2
    go_wp2_with fail
    obtain ⟨q0, q1, q2, _, _, _⟩ := box_facts (box_set HY.out.2.2.2 xk xn xt)
    exact bodyPost_ret (v := VC xk xn xt xc) (by simp [results, Try.results29, go_sem, q0, q1, q2]) rfl ⟨by rw [HY0.out], below_set3 HY.out.2.1 (by omega) _ _ _⟩
set_option maxRecDepth 100000 in
theorem specUn_long (s : ByteArray) (k n : Int) (t : ByteArray) (w : World) (hs : 65536 < s.size) (hm : s.size ≤ maxLen) :
    Calls Try.prog 29 #[.string s, VV k n t] w fun e w' => e = .returned (ansV (zA 2)) ∧ Below w.heap.size w w' := by
  unfold maxLen at hm
  go_enter Try.func29, Try.ntmps29
  go_wp2_with fail
  exact bodyPost_ret (v := VC 0 0 noT 2) (by simp [results, Try.results29, go_sem]) rfl ⟨rfl, below2 w _ _⟩
theorem str_ne {s r : ByteArray} (h : s ≠ r) : (s.toList == r.toList) = false := beq_eq_false_iff_ne.2 fun e => h (bytes_eq e)
set_option maxRecDepth 100000 in
theorem specUn_none (s : ByteArray) (k n : Int) (t : ByteArray) (w : World) (hs : s.size ≤ 65536) (h1 : s ≠ sNeg) (h2 : s ≠ sNot) (h3 : s ≠ sNul) (h4 : s ≠ sNnl) :
    Calls Try.prog 29 #[.string s, VV k n t] w fun e w' => e = .returned (ansV (zA 1)) ∧ Below w.heap.size w w' := by
  have S0 : Hid (NgS w k n t _) := NgS.start w k n t
  have hc := specValueOK_any k n t ((w.alloc (.cells #[.int .i64 k, .int .i64 n, .string t] 24)).alloc (.cells #[.int .i64 0, .int .i64 0, .string noT] 24))
  generalize okV k n t = ok at *
  have e1 : (s.toList == [45]) = false := by have := str_ne h1; simpa [ByteArray.toList_eq] using this
  have e2 : (s.toList == [110, 111, 116]) = false := by have := str_ne h2; simpa [ByteArray.toList_eq] using this
  have e3 : (s.toList == [105, 115, 110, 117, 108, 108]) = false := by have := str_ne h3; simpa [ByteArray.toList_eq] using this
  have e4 : (s.toList == [105, 115, 110, 111, 116, 110, 117, 108, 108]) = false := by have := str_ne h4; simpa [ByteArray.toList_eq] using this
  obtain ⟨⟨u0, u1, u2⟩, _, _, _⟩ := S0.out
  clear h1 h2 h3 h4
  go_enter Try.func29, Try.ntmps29
  go_wp2_with fail
  refine hc.mono ?_
  rintro e w1 ⟨rfl, b1⟩
  have S1 := NgS.keep S0.out b1
  clear u0 u1 u2 hc b1 S0
  obtain ⟨_, ⟨v0, v1, v2⟩, ⟨y0, y1, y2⟩, HY⟩ := S1
  cases ok
  all_goals
    go_wp2_with fail
    obtain ⟨q0, q1, q2, _, _, _⟩ := box_facts (box_set HY.out.2.2.2 0 0 noT)
    exact bodyPost_ret (v := VC 0 0 noT 1) (by simp [results, Try.results29, go_sem, q0, q1, q2]) rfl ⟨rfl, below_set3 HY.out.2.1 (by omega) _ _ _⟩
theorem specUnary_any (s : ByteArray) (k n : Int) (t : ByteArray) (w : World) (hm : s.size ≤ maxLen) (hn : In64 n) :
    Calls Try.prog 29 #[.string s, VV k n t] w fun e w' => e = .returned (ansV (unA s k n t)) ∧ Below w.heap.size w w' := by
  unfold unA
  by_cases hs : 65536 < s.size
  · rw [if_pos hs]
    exact specUn_long s k n t w hs hm
  · rw [if_neg hs]
    by_cases h1 : s = sNeg
    · rw [if_pos h1]; subst h1
      exact specUn_neg _ k n t w fun ho w => l12Un_neg k n t w hn ho
    rw [if_neg h1]
    by_cases h2 : s = sNot
    · rw [if_pos h2]; subst h2
      exact specUn_not _ k n t w fun ho w => l12Un_not k n t w ho
    rw [if_neg h2]
    by_cases h3 : s = sNul
    · rw [if_pos h3]; subst h3
      exact specUn_nul _ k n t w fun _ w => l12Un_nul k n t w
    rw [if_neg h3]
    by_cases h4 : s = sNnl
    · rw [if_pos h4]; subst h4
      exact specUn_nnl _ k n t w fun _ w => l12Un_nnl k n t w
    rw [if_neg h4]
    exact specUn_none s k n t w (by omega) h1 h2 h3 h4
end Go.Proofs.Yteloioopkndcmaa
