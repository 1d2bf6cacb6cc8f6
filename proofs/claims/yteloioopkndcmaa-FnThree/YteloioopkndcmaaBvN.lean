/- Binary signs: the specification's difference and rest, and its BinaryValue (stage 12). -/
import Derived.Test.YteloioopkndcmaaBvM
namespace Go.Proofs.Yteloioopkndcmaa
open Go.RowKit

theorem sub_least {a : Int} (ha : In64 a) : (0 ≤ a → subC a (-9223372036854775808) = 4) ∧ (a < 0 → subC a (-9223372036854775808) = 0 ∧ IntKind.i64.wrap (a - -9223372036854775808) = subR a (-9223372036854775808)) := by
  unfold In64 at ha
  refine ⟨fun h => if_neg (by unfold In64; omega), fun h => ⟨if_pos (by unfold In64; omega), ?_⟩⟩
  unfold subR
  rw [if_pos (by unfold In64; omega), wrap64]
  omega
theorem sub_else {a b : Int} (hb : In64 b) (h : b ≠ -9223372036854775808) : In64 (-b) ∧ IntKind.i64.wrap (-b) = -b ∧ addR a (-b) = subR a b ∧ addC a (-b) = subC a b := by
  have hn : In64 (-b) := by unfold In64 at *; omega
  refine ⟨hn, ?_, ?_, ?_⟩
  · rw [wrap64]; unfold In64 at hn; omega
  · unfold addR subR; rw [← Int.sub_eq_add_neg]
  · unfold addC subC; rw [← Int.sub_eq_add_neg]
set_option maxRecDepth 100000 in
set_option maxHeartbeats 2000000 in
theorem binSub (k n : Int) (t : ByteArray) (k2 n2 : Int) (t2 : ByteArray) (w : World) (hn : In64 n) (hn2 : In64 n2) :
    Calls Try.prog 44 #[.string gSub, VV k n t, VV k2 n2 t2] w fun e w' => e = .returned (ansV (reckA subR subC (k, n, t) (k2, n2, t2))) ∧ Below w.heap.size w w' := by
  have S0 : Hid (BiS w k n t k2 n2 t2 _) := BiS.start w k n t k2 n2 t2
  have LV := lvsSub
  have HF : Hid ((k = 0 ∨ k2 = 0 → reckA subR subC (k, n, t) (k2, n2, t2) = zA 0) ∧ (¬ (k = 0 ∨ k2 = 0) → (subC n n2 = 0 → reckA subR subC (k, n, t) (k2, n2, t2) = ((2, subR n n2, noT), 0)) ∧ (subC n n2 ≠ 0 → reckA subR subC (k, n, t) (k2, n2, t2) = zA (subC n n2)))) := ⟨fun h => if_pos h, fun h => ⟨fun h2 => (if_neg h).trans (if_pos h2), fun h2 => (if_neg h).trans (if_neg h2)⟩⟩
  generalize reckA subR subC (k, n, t) (k2, n2, t2) = FX at *
  have hl := LV (((w.alloc (.cells #[.int .i64 k, .int .i64 n, .string t] 24)).alloc (.cells #[.int .i64 k2, .int .i64 n2, .string t2] 24)).alloc (.cells #[.int .i64 0, .int .i64 0, .string noT] 24))
  by_cases h0 : k = 0
  · subst h0
    have HE : Hid (FX = zA 0) := HF.out.1 (.inl rfl)
    clear HF
    go_enter Try.func44, Try.ntmps44
    go_wp2_with fail
    refine hl.mono ?_
    rintro e w1 ⟨rfl, rfl⟩
    go_wp2_with fail
    exact bodyPost_ret (v := VC 0 0 noT 0) (by simp [results, Try.results44, go_sem]) rfl ⟨by rw [HE.out], below3 w _ _ _⟩
  have h0' : (k == 0) = false := by simpa using h0
  by_cases h1 : k2 = 0
  · subst h1
    have HE : Hid (FX = zA 0) := HF.out.1 (.inr rfl)
    clear HF
    go_enter Try.func44, Try.ntmps44
    go_wp2_with fail
    refine hl.mono ?_
    rintro e w1 ⟨rfl, rfl⟩
    go_wp2_with fail
    exact bodyPost_ret (v := VC 0 0 noT 0) (by simp [results, Try.results44, go_sem]) rfl ⟨by rw [HE.out], below3 w _ _ _⟩
  have h1' : (k2 == 0) = false := by simpa using h1
  have HF2 := HF.out.2 (fun h => h.elim h0 h1)
  have HG : Hid (subC n n2 ≠ 0 → FX = zA (subC n n2)) := HF2.2
  have HFF : Hid (subC n n2 = 0 → FX = ((2, subR n n2, noT), 0)) := HF2.1
  clear HF HF2
  have HF : Hid (subC n n2 = 0 → FX = ((2, subR n n2, noT), 0)) := HFF
  clear HFF
  have HI : Hid (∀ w1, Calls Try.prog 80 #[.int .i64 (subR n n2)] w1 fun e w' => e = .returned (VV 2 (subR n n2) noT) ∧ Below w1.heap.size w1 w') := fun w1 => specInt_any _ w1
  have hle : ∀ w, Calls Try.prog 52 #[] w fun e w' => e = .returned (.int .i64 (-9223372036854775808)) ∧ w' = w := least_any
  have SD : Hid (BiS w k n t k2 n2 t2 _) := BiS.keep S0.out (Below.refl _ _).drew
  by_cases hb : n2 = -9223372036854775808
  · subst hb
    obtain ⟨p1, p2⟩ := sub_least hn
    by_cases ha : 0 ≤ n
    · have HE : Hid (FX = zA 4) := by
        have h4 := p1 ha
        show _ = _
        rw [HG.out (by rw [h4]; decide), h4]
      clear HF HG p1 p2 HI hn hn2
      go_enter Try.func44, Try.ntmps44
      go_wp2_with fail
      refine hl.mono ?_
      rintro e w1 ⟨rfl, rfl⟩
      go_wp2_with fail
      refine hl.mono ?_
      rintro e w1 ⟨rfl, rfl⟩
      clear hl LV
      go_wp2_with fail
      go_region_with (first | (go_at_call 52; refine (hle _).mono ?_; rintro e wA ⟨rfl, rfl⟩) | fail)
      all_goals
        obtain ⟨_, _, ⟨v0, v1, v2⟩, ⟨y0, y1, y2⟩, _⟩ := SD.out
        go_wp2_with fail
        exact bodyPost_ret (v := VC 0 0 noT 4) (by simp [results, Try.results44, go_sem]) rfl ⟨by rw [HE.out], (below3 w _ _ _).drew⟩
    · have ha' : n < 0 := by omega
      have HE : Hid (FX = ((2, subR n (-9223372036854775808), noT), 0)) := HF.out (p2 ha').1
      have hw := (p2 ha').2
      have hw2 : RowKit.wrap64 (n + 9223372036854775808) = subR n (-9223372036854775808) := by
        rw [← hw, wrap_in (by unfold In64 at *; omega), wrap64]; unfold In64 at hn; omega
      have HI2 : Hid (∀ w1, Calls Try.prog 80 #[.int .i64 (RowKit.wrap64 (n + 9223372036854775808))] w1 fun e w' => e = .returned (VV 2 (subR n (-9223372036854775808)) noT) ∧ Below w1.heap.size w1 w') := fun w1 => by rw [hw2]; exact HI.out w1
      clear HF HG p1 p2 hn hn2 hw hw2 HI
      generalize subR n (-9223372036854775808) = r at *
      go_enter Try.func44, Try.ntmps44
      go_wp2_with fail
      refine hl.mono ?_
      rintro e w1 ⟨rfl, rfl⟩
      go_wp2_with fail
      refine hl.mono ?_
      rintro e w1 ⟨rfl, rfl⟩
      clear hl LV
      go_wp2_with fail
      go_region_with (first | (go_at_call 52; refine (hle _).mono ?_; rintro e wA ⟨rfl, rfl⟩) | fail)
      all_goals
        go_wp2_with fail
        refine (HI2.out _).mono ?_
        rintro e w9 ⟨rfl, b9⟩
        have S9 : Hid (BiS w k n t k2 (-9223372036854775808) t2 w9) := BiS.keep SD.out b9
        clear b9
        obtain ⟨_, _, ⟨v0, v1, v2⟩, ⟨y0, y1, y2⟩, _⟩ := S9.out
        go_wp2_with fail
        obtain ⟨r0, r1, r2, _, _, _⟩ := box_facts (box_set S9.out.2.2.2.2.out.2.2.2.2 2 r noT)
        exact bodyPost_ret (v := VC 2 r noT 0) (by simp [results, Try.results44, go_sem, r0, r1, r2]) rfl ⟨by rw [HE.out], below_set3 S9.out.2.2.2.2.out.2.1 (by omega) _ _ _⟩
  · obtain ⟨p0, p1, p2, p3⟩ := sub_else (a := n) hn2 hb
    have HC : Hid (∀ w1, Calls Try.prog 14 #[.int .i64 n, .int .i64 (-n2)] w1 fun e w' => e = .returned (NC (subR n n2) (subC n n2)) ∧ Below w1.heap.size w1 w') := fun w1 => by
      have := specAdd_any n (-n2) w1 hn p0
      rw [p2, p3] at this
      exact this.mono fun _ _ h => ⟨h.1, by rw [h.2]; exact Below.refl _ _⟩
    have hb' : (n2 == -9223372036854775808) = false := by simpa using hb
    clear p0 p2 p3 hn hn2
    generalize subR n n2 = r at *
    generalize subC n n2 = c at *
    go_enter Try.func44, Try.ntmps44
    go_wp2_with fail
    refine hl.mono ?_
    rintro e w1 ⟨rfl, rfl⟩
    go_wp2_with fail
    refine hl.mono ?_
    rintro e w1 ⟨rfl, rfl⟩
    clear hl LV
    go_wp2_with fail
    go_region_with (first | (go_at_call 52; refine (hle _).mono ?_; rintro e wA ⟨rfl, rfl⟩) | fail)
    all_goals
      go_wp2_with fail
      refine (HC.out _).mono ?_
      rintro e w2 ⟨rfl, b2⟩
      have S2 : Hid (BiS w k n t k2 n2 t2 w2) := BiS.keep SD.out b2
      clear b2 S0 SD HC
      by_cases hc0 : c = 0
      · have HE : Hid (FX = ((2, r, noT), 0)) := (HF.out hc0)
        subst hc0
        clear HF HG
        go_wp2_with fail
        refine (HI.out _).mono ?_
        rintro e w9 ⟨rfl, b9⟩
        have S9 : Hid (BiS w k n t k2 n2 t2 w9) := BiS.keep S2.out b9
        clear b9
        obtain ⟨_, _, ⟨v0, v1, v2⟩, ⟨y0, y1, y2⟩, _⟩ := S9.out
        go_wp2_with fail
        obtain ⟨r0, r1, r2, _, _, _⟩ := box_facts (box_set S9.out.2.2.2.2.out.2.2.2.2 2 r noT)
        exact bodyPost_ret (v := VC 2 r noT 0) (by simp [results, Try.results44, go_sem, r0, r1, r2]) rfl ⟨by rw [HE.out], below_set3 S9.out.2.2.2.2.out.2.1 (by omega) _ _ _⟩
      · have HE : Hid (FX = zA c) := HG.out hc0
        have hc1 : (c != 0) = true := by simpa using hc0
        clear HF HG
        obtain ⟨_, _, ⟨v0, v1, v2⟩, ⟨y0, y1, y2⟩, _⟩ := S2.out
        go_wp2_with fail
        obtain ⟨r0, r1, r2, _, _, _⟩ := box_facts (box_set S2.out.2.2.2.2.out.2.2.2.2 0 0 noT)
        exact bodyPost_ret (v := VC 0 0 noT c) (by simp [results, Try.results44, go_sem, r0, r1, r2]) rfl ⟨by rw [HE.out], below_set3 S2.out.2.2.2.2.out.2.1 (by omega) _ _ _⟩
set_option maxRecDepth 100000 in
set_option maxHeartbeats 2000000 in
theorem binRem (k n : Int) (t : ByteArray) (k2 n2 : Int) (t2 : ByteArray) (w : World) (hn : In64 n) (_ : In64 n2) :
    Calls Try.prog 44 #[.string gRem, VV k n t, VV k2 n2 t2] w fun e w' => e = .returned (ansV (reckA remR remC (k, n, t) (k2, n2, t2))) ∧ Below w.heap.size w w' := by
  have S0 : Hid (BiS w k n t k2 n2 t2 _) := BiS.start w k n t k2 n2 t2
  have LV := lvsRem
  have HF : Hid ((k = 0 ∨ k2 = 0 → reckA remR remC (k, n, t) (k2, n2, t2) = zA 0) ∧ (¬ (k = 0 ∨ k2 = 0) → (remC n n2 = 0 → reckA remR remC (k, n, t) (k2, n2, t2) = ((2, remR n n2, noT), 0)) ∧ (remC n n2 ≠ 0 → reckA remR remC (k, n, t) (k2, n2, t2) = zA (remC n n2)))) := ⟨fun h => if_pos h, fun h => ⟨fun h2 => (if_neg h).trans (if_pos h2), fun h2 => (if_neg h).trans (if_neg h2)⟩⟩
  generalize reckA remR remC (k, n, t) (k2, n2, t2) = FX at *
  have hl := LV (((w.alloc (.cells #[.int .i64 k, .int .i64 n, .string t] 24)).alloc (.cells #[.int .i64 k2, .int .i64 n2, .string t2] 24)).alloc (.cells #[.int .i64 0, .int .i64 0, .string noT] 24))
  by_cases h0 : k = 0
  · subst h0
    have HE : Hid (FX = zA 0) := HF.out.1 (.inl rfl)
    clear HF
    go_enter Try.func44, Try.ntmps44
    go_wp2_with fail
    refine hl.mono ?_
    rintro e w1 ⟨rfl, rfl⟩
    go_wp2_with fail
    exact bodyPost_ret (v := VC 0 0 noT 0) (by simp [results, Try.results44, go_sem]) rfl ⟨by rw [HE.out], below3 w _ _ _⟩
  have h0' : (k == 0) = false := by simpa using h0
  by_cases h1 : k2 = 0
  · subst h1
    have HE : Hid (FX = zA 0) := HF.out.1 (.inr rfl)
    clear HF
    go_enter Try.func44, Try.ntmps44
    go_wp2_with fail
    refine hl.mono ?_
    rintro e w1 ⟨rfl, rfl⟩
    go_wp2_with fail
    exact bodyPost_ret (v := VC 0 0 noT 0) (by simp [results, Try.results44, go_sem]) rfl ⟨by rw [HE.out], below3 w _ _ _⟩
  have h1' : (k2 == 0) = false := by simpa using h1
  have HF2 := HF.out.2 (fun h => h.elim h0 h1)
  have HG : Hid (remC n n2 ≠ 0 → FX = zA (remC n n2)) := HF2.2
  have HFF : Hid (remC n n2 = 0 → FX = ((2, remR n n2, noT), 0)) := HF2.1
  clear HF HF2
  have HF : Hid (remC n n2 = 0 → FX = ((2, remR n n2, noT), 0)) := HFF
  clear HFF
  have HI : Hid (∀ x w1, Calls Try.prog 80 #[.int .i64 x] w1 fun e w' => e = .returned (VV 2 x noT) ∧ Below w1.heap.size w1 w') := fun x w1 => specInt_any x w1
  have HC : Hid (∀ w1, Calls Try.prog 25 #[.int .i64 n, .int .i64 n2] w1 fun e w' => e = .returned (NNC (divQ n n2) (divM n n2) (divC n n2)) ∧ Below w1.heap.size w1 w') := fun w1 => specDiv_any n n2 w1 hn
  unfold remR remC at *
  generalize divQ n n2 = q at *
  generalize divM n n2 = r at *
  generalize divC n n2 = c at *
  clear hn
  by_cases h4 : c = 4
  · subst h4
    have HE : Hid (FX = ((2, 0, noT), 0)) := HF.out rfl
    clear HF HG
    go_enter Try.func44, Try.ntmps44
    go_wp2_with fail
    refine hl.mono ?_
    rintro e w1 ⟨rfl, rfl⟩
    go_wp2_with fail
    refine hl.mono ?_
    rintro e w1 ⟨rfl, rfl⟩
    clear hl LV
    go_wp2_with fail
    refine (HC.out _).mono ?_
    rintro e w2 ⟨rfl, b2⟩
    have S2 : Hid (BiS w k n t k2 n2 t2 w2) := BiS.keep S0.out b2
    clear b2 S0 HC
    go_wp2_with fail
    refine (HI.out _ _).mono ?_
    rintro e w9 ⟨rfl, b9⟩
    have S9 : Hid (BiS w k n t k2 n2 t2 w9) := BiS.keep S2.out b9
    clear b9
    obtain ⟨_, _, ⟨v0, v1, v2⟩, ⟨y0, y1, y2⟩, _⟩ := S9.out
    go_wp2_with fail
    obtain ⟨r0, r1, r2, _, _, _⟩ := box_facts (box_set S9.out.2.2.2.2.out.2.2.2.2 2 0 noT)
    exact bodyPost_ret (v := VC 2 0 noT 0) (by simp [results, Try.results44, go_sem, r0, r1, r2]) rfl ⟨by rw [HE.out], below_set3 S9.out.2.2.2.2.out.2.1 (by omega) _ _ _⟩
  · have h4' : (c == 4) = false := by simpa using h4
    have HF3 : Hid (c = 0 → FX = ((2, r, noT), 0)) := fun h => by have := HF.out; rw [if_neg h4, if_neg h4] at this; exact this h
    have HG3 : Hid (c ≠ 0 → FX = zA c) := fun h => by have := HG.out; rw [if_neg h4] at this; exact this h
    clear HF HG
    have HF := HF3
    have HG := HG3
    have HI3 : Hid (∀ w1, Calls Try.prog 80 #[.int .i64 r] w1 fun e w' => e = .returned (VV 2 r noT) ∧ Below w1.heap.size w1 w') := HI.out r
    clear HF3 HG3 HI
    have HI := HI3
    clear HI3
    go_enter Try.func44, Try.ntmps44
    go_wp2_with fail
    refine hl.mono ?_
    rintro e w1 ⟨rfl, rfl⟩
    go_wp2_with fail
    refine hl.mono ?_
    rintro e w1 ⟨rfl, rfl⟩
    clear hl LV
    go_wp2_with fail
    refine (HC.out _).mono ?_
    rintro e w2 ⟨rfl, b2⟩
    have S2 : Hid (BiS w k n t k2 n2 t2 w2) := BiS.keep S0.out b2
    clear b2 S0 HC
    by_cases hc0 : c = 0
    · have HE : Hid (FX = ((2, r, noT), 0)) := (HF.out hc0)
      subst hc0
      clear HF HG
      go_wp2_with fail
      refine (HI.out _).mono ?_
      rintro e w9 ⟨rfl, b9⟩
      have S9 : Hid (BiS w k n t k2 n2 t2 w9) := BiS.keep S2.out b9
      clear b9
      obtain ⟨_, _, ⟨v0, v1, v2⟩, ⟨y0, y1, y2⟩, _⟩ := S9.out
      go_wp2_with fail
      obtain ⟨r0, r1, r2, _, _, _⟩ := box_facts (box_set S9.out.2.2.2.2.out.2.2.2.2 2 r noT)
      exact bodyPost_ret (v := VC 2 r noT 0) (by simp [results, Try.results44, go_sem, r0, r1, r2]) rfl ⟨by rw [HE.out], below_set3 S9.out.2.2.2.2.out.2.1 (by omega) _ _ _⟩
    · have HE : Hid (FX = zA c) := HG.out hc0
      have hc1 : (c != 0) = true := by simpa using hc0
      clear HF HG
      obtain ⟨_, _, ⟨v0, v1, v2⟩, ⟨y0, y1, y2⟩, _⟩ := S2.out
      go_wp2_with fail
      obtain ⟨r0, r1, r2, _, _, _⟩ := box_facts (box_set S2.out.2.2.2.2.out.2.2.2.2 0 0 noT)
      exact bodyPost_ret (v := VC 0 0 noT c) (by simp [results, Try.results44, go_sem, r0, r1, r2]) rfl ⟨by rw [HE.out], below_set3 S2.out.2.2.2.2.out.2.1 (by omega) _ _ _⟩
set_option maxRecDepth 100000 in
set_option maxHeartbeats 4000000 in
theorem specBin_found (s : ByteArray) (X : V3 × Int) (l : Int) (hl0 : (l == 0) = false) (k n : Int) (t : ByteArray) (k2 n2 : Int) (t2 : ByteArray) (w : World) (hs : s.size ≤ 65536)
    (hL : ∀ w, Calls Try.prog 42 #[.string s] w fun e w' => e = .returned (.int .i64 l) ∧ w' = w)
    (hT : ∀ w, Calls Try.prog 43 #[.string s, VV k n t, VV k2 n2 t2] w fun e w' => e = .returned (.bool (fit2 l k k2)) ∧ Below w.heap.size w w')
    (hX : okV k n t = true → okV k2 n2 t2 = true → fit2 l k k2 = true → ∀ w, Calls Try.prog 44 #[.string s, VV k n t, VV k2 n2 t2] w fun e w' => e = .returned (ansV X) ∧ Below w.heap.size w w') :
    Calls Try.prog 20 #[.string s, VV k n t, VV k2 n2 t2] w fun e w' => e = .returned (ansV (biX l k n t k2 n2 t2 X)) ∧ Below w.heap.size w w' := by
  have S0 : Hid (BiS w k n t k2 n2 t2 _) := BiS.start w k n t k2 n2 t2
  have HK : Hid (∀ w1, Calls Try.prog 41 #[VV k n t] w1 fun e w' => e = .returned (.bool (okV k n t)) ∧ Below w1.heap.size w1 w') := fun w1 => specValueOK_any k n t w1
  have HK2 : Hid (∀ w1, Calls Try.prog 41 #[VV k2 n2 t2] w1 fun e w' => e = .returned (.bool (okV k2 n2 t2)) ∧ Below w1.heap.size w1 w') := fun w1 => specValueOK_any k2 n2 t2 w1
  have HL : Hid (∀ w, Calls Try.prog 42 #[.string s] w fun e w' => e = .returned (.int .i64 l) ∧ w' = w) := hL
  have HT : Hid (∀ w, Calls Try.prog 43 #[.string s, VV k n t, VV k2 n2 t2] w fun e w' => e = .returned (.bool (fit2 l k k2)) ∧ Below w.heap.size w w') := hT
  have HX : Hid (okV k n t = true → okV k2 n2 t2 = true → fit2 l k k2 = true → ∀ w, Calls Try.prog 44 #[.string s, VV k n t, VV k2 n2 t2] w fun e w' => e = .returned (ansV X) ∧ Below w.heap.size w w') := hX
  have HX0 : Hid (biX l k n t k2 n2 t2 X = if okV k n t = false ∨ okV k2 n2 t2 = false then zA 1 else if fit2 l k k2 = false then zA 10 else X) := rfl
  generalize biX l k n t k2 n2 t2 X = Y at *
  generalize okV k n t = ok at *
  generalize okV k2 n2 t2 = ok2 at *
  generalize fit2 l k k2 = ft at *
  obtain ⟨⟨xk, xn, xt⟩, xc⟩ := X
  clear hL hT hX
  go_enter Try.func20, Try.ntmps20
  go_wp2_with fail
  refine (HK.out _).mono ?_
  rintro e w1 ⟨rfl, b1⟩
  have S1 : Hid (BiS w k n t k2 n2 t2 w1) := BiS.keep S0.out b1
  clear b1 S0 HK
  cases ok with
  | false =>
    obtain ⟨_, _, ⟨v0, v1, v2⟩, ⟨y0, y1, y2⟩, _⟩ := S1.out
    have HE : Hid (Y = zA 1) := HX0.out.trans (if_pos (.inl rfl))
    clear HX HX0
    go_wp2_with fail
    obtain ⟨r0, r1, r2, _, _, _⟩ := box_facts (box_set S1.out.2.2.2.2.out.2.2.2.2 0 0 noT)
    exact bodyPost_ret (v := VC 0 0 noT 1) (by simp [results, Try.results20, go_sem, r0, r1, r2]) rfl ⟨by rw [HE.out], below_set3 S1.out.2.2.2.2.out.2.1 (by omega) _ _ _⟩
  | true =>
    obtain ⟨_, ⟨z0, z1, z2⟩, _, _, _⟩ := S1.out
    go_wp2_with fail
    refine (HK2.out _).mono ?_
    rintro e w2 ⟨rfl, b2⟩
    have S2 : Hid (BiS w k n t k2 n2 t2 w2) := BiS.keep S1.out b2
    clear b2 S1 HK2 z0 z1 z2
    cases ok2 with
    | false =>
      obtain ⟨_, _, ⟨v0, v1, v2⟩, ⟨y0, y1, y2⟩, _⟩ := S2.out
      have HE : Hid (Y = zA 1) := HX0.out.trans (if_pos (.inr rfl))
      clear HX HX0
      go_wp2_with fail
      obtain ⟨r0, r1, r2, _, _, _⟩ := box_facts (box_set S2.out.2.2.2.2.out.2.2.2.2 0 0 noT)
      exact bodyPost_ret (v := VC 0 0 noT 1) (by simp [results, Try.results20, go_sem, r0, r1, r2]) rfl ⟨by rw [HE.out], below_set3 S2.out.2.2.2.2.out.2.1 (by omega) _ _ _⟩
    | true =>
      have HY0 : Hid (Y = if ft = false then zA 10 else ((xk, xn, xt), xc)) := HX0.out.trans (if_neg (by simp))
      clear HX0
      have HX1 : Hid (ft = true → ∀ w, Calls Try.prog 44 #[.string s, VV k n t, VV k2 n2 t2] w fun e w' => e = .returned (ansV ((xk, xn, xt), xc)) ∧ Below w.heap.size w w') := HX.out (by simp) (by simp)
      clear HX
      go_wp2_with fail
      refine (HL.out _).mono ?_
      rintro e w3 ⟨rfl, rfl⟩
      obtain ⟨⟨u0, u1, u2⟩, ⟨z0, z1, z2⟩, _, _, _⟩ := S2.out
      go_wp2_with fail
      refine (HT.out _).mono ?_
      rintro e w4 ⟨rfl, b4⟩
      have S4 : Hid (BiS w k n t k2 n2 t2 w4) := BiS.keep S2.out b4
      clear b4 S2 HT HL u0 u1 u2 z0 z1 z2
      obtain ⟨⟨u0, u1, u2⟩, ⟨z0, z1, z2⟩, ⟨v0, v1, v2⟩, ⟨y0, y1, y2⟩, _⟩ := S4.out
      cases ft with
      | false =>
        have HE : Hid (Y = zA 10) := HY0.out
        go_wp2_with fail
        obtain ⟨r0, r1, r2, _, _, _⟩ := box_facts (box_set S4.out.2.2.2.2.out.2.2.2.2 0 0 noT)
        exact bodyPost_ret (v := VC 0 0 noT 10) (by simp [results, Try.results20, go_sem, r0, r1, r2]) rfl ⟨by rw [HE.out], below_set3 S4.out.2.2.2.2.out.2.1 (by omega) _ _ _⟩
      | true =>
        have HE : Hid (Y = ((xk, xn, xt), xc)) := HY0.out
        have HC := HX1.out (by simp) w4
        clear HX1 HY0 v0 v1 v2 y0 y1 y2
        go_wp2_with fail
        refine HC.mono ?_
        rintro e w5 ⟨rfl, b5⟩
        have S5 : Hid (BiS w k n t k2 n2 t2 w5) := BiS.keep S4.out b5
        clear b5 S4 HC u0 u1 u2 z0 z1 z2
        obtain ⟨_, _, ⟨v0, v1, v2⟩, ⟨y0, y1, y2⟩, _⟩ := S5.out
        go_wp2_with fail
        obtain ⟨r0, r1, r2, _, _, _⟩ := box_facts (box_set S5.out.2.2.2.2.out.2.2.2.2 xk xn xt)
        exact bodyPost_ret (v := VC xk xn xt xc) (by simp [results, Try.results20, go_sem, r0, r1, r2]) rfl ⟨by rw [HE.out], below_set3 S5.out.2.2.2.2.out.2.1 (by omega) _ _ _⟩
end Go.Proofs.Yteloioopkndcmaa
