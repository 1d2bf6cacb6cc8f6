/- Binary signs: the specification's types and logic (stage 12). -/
import Derived.Test.YteloioopkndcmaaBvJ
import Derived.Test.YteloioopkndcmaaBvF
namespace Go.Proofs.Yteloioopkndcmaa
open Go.RowKit

theorem ok_bool {n : Int} {t : ByteArray} (h : okV 1 n t = true) : (n = 0 ∨ n = 1) ∧ t = noT := by
  unfold okV at h
  rw [if_neg (by decide), if_pos rfl] at h
  simp only [Bool.and_eq_true, inB, decide_eq_true_eq] at h
  refine ⟨by omega, bytes_eq ?_⟩
  have h2 := h.2
  rw [List.isEmpty_iff] at h2
  rw [h2]
  simp [ByteArray.toList_eq]
theorem box_over {w : World} {g : Nat} {k n : Int} {t : ByteArray} (h : BoxV w g k n t) (k' n' : Int) (t' : ByteArray) (o : Obj) : BoxV ((((w.setCell ⟨g, 0, none⟩ (.int .i64 k')).setCell ⟨g, 1, none⟩ (.int .i64 n')).setCell ⟨g, 2, none⟩ (.string t')).alloc o) g k' n' t' :=
  (Below.heap_alloc _ _ _ (lt_blk (box_set h k' n' t'))).trans (box_set h k' n' t')
theorem below_over {B : Nat} {w w' : World} (h : Below B w w') {g : Nat} (hg : B ≤ g) (hB : B ≤ w'.heap.size) (a b c : Value) (o : Obj) : Below B w ((((w'.setCell ⟨g, 0, none⟩ a).setCell ⟨g, 1, none⟩ b).setCell ⟨g, 2, none⟩ c).alloc o) :=
  (below_set3 h hg a b c).alloc (by simpa using hB) _
theorem fit2_1 (k k2 : Int) : fit2 1 k k2 = ((k == 1 || k == 0) && (k2 == 1 || k2 == 0)) := by unfold fit2 fitK opK; simp
set_option maxRecDepth 100000 in
set_option maxHeartbeats 2000000 in
theorem types1 (s : ByteArray) (k n : Int) (t : ByteArray) (k2 n2 : Int) (t2 : ByteArray) (w : World) (hl : ∀ w, Calls Try.prog 42 #[.string s] w fun e w' => e = .returned (.int .i64 1) ∧ w' = w) :
    Calls Try.prog 43 #[.string s, VV k n t, VV k2 n2 t2] w fun e w' => e = .returned (.bool (fit2 1 k k2)) ∧ Below w.heap.size w w' := by
  have H : Hid (fit2 1 k k2 = ((k == 1 || k == 0) && (k2 == 1 || k2 == 0))) := fit2_1 k k2
  generalize fit2 1 k k2 = f at *
  have hc := hl ((w.alloc (.cells #[.int .i64 k, .int .i64 n, .string t] 24)).alloc (.cells #[.int .i64 k2, .int .i64 n2, .string t2] 24))
  go_enter Try.func43, Try.ntmps43
  go_wp2_with fail
  refine hc.mono ?_
  rintro e w1 ⟨rfl, rfl⟩
  clear hc hl
  by_cases h0 : k = 0
  · have h0' : (k == 0) = true := by simpa using h0
    by_cases h1 : k2 = 0
    · have HF : Hid (f = true) := by show _ = _; rw [H.out, h0, h1]; simp
      have h1' : (k2 == 0) = true := by simpa using h1
      go_wp2
      go_ret
      exact ⟨ret_bool' HF.out.symm, below2 w _ _⟩
    · have h1' : (k2 == 0) = false := by simpa using h1
      have HF : Hid (f = (k2 == 1)) := by show _ = _; rw [H.out, h0, h1']; simp
      go_wp2
      go_ret
      exact ⟨ret_bool' HF.out.symm, below2 w _ _⟩
  have h0' : (k == 0) = false := by simpa using h0
  by_cases h2 : k = 1
  · have h2' : (k == 1) = true := by simpa using h2
    by_cases h1 : k2 = 0
    · have HF : Hid (f = true) := by show _ = _; rw [H.out, h2, h1]; simp
      have h1' : (k2 == 0) = true := by simpa using h1
      go_wp2
      go_ret
      exact ⟨ret_bool' HF.out.symm, below2 w _ _⟩
    · have h1' : (k2 == 0) = false := by simpa using h1
      have HF : Hid (f = (k2 == 1)) := by show _ = _; rw [H.out, h2, h1']; simp
      go_wp2
      go_ret
      exact ⟨ret_bool' HF.out.symm, below2 w _ _⟩
  have h2' : (k == 1) = false := by simpa using h2
  have HF : Hid (f = false) := by show _ = _; rw [H.out, h0', h2']; simp
  go_wp2
  go_ret
  exact ⟨ret_bool' HF.out.symm, below2 w _ _⟩
theorem fit2_2 (k k2 : Int) : fit2 2 k k2 = ((k == 1 || k == 0) && (k2 == 1 || k2 == 0)) := by unfold fit2 fitK opK; simp
set_option maxRecDepth 100000 in
set_option maxHeartbeats 2000000 in
theorem types2 (s : ByteArray) (k n : Int) (t : ByteArray) (k2 n2 : Int) (t2 : ByteArray) (w : World) (hl : ∀ w, Calls Try.prog 42 #[.string s] w fun e w' => e = .returned (.int .i64 2) ∧ w' = w) :
    Calls Try.prog 43 #[.string s, VV k n t, VV k2 n2 t2] w fun e w' => e = .returned (.bool (fit2 2 k k2)) ∧ Below w.heap.size w w' := by
  have H : Hid (fit2 2 k k2 = ((k == 1 || k == 0) && (k2 == 1 || k2 == 0))) := fit2_2 k k2
  generalize fit2 2 k k2 = f at *
  have hc := hl ((w.alloc (.cells #[.int .i64 k, .int .i64 n, .string t] 24)).alloc (.cells #[.int .i64 k2, .int .i64 n2, .string t2] 24))
  go_enter Try.func43, Try.ntmps43
  go_wp2_with fail
  refine hc.mono ?_
  rintro e w1 ⟨rfl, rfl⟩
  clear hc hl
  by_cases h0 : k = 0
  · have h0' : (k == 0) = true := by simpa using h0
    by_cases h1 : k2 = 0
    · have HF : Hid (f = true) := by show _ = _; rw [H.out, h0, h1]; simp
      have h1' : (k2 == 0) = true := by simpa using h1
      go_wp2
      go_ret
      exact ⟨ret_bool' HF.out.symm, below2 w _ _⟩
    · have h1' : (k2 == 0) = false := by simpa using h1
      have HF : Hid (f = (k2 == 1)) := by show _ = _; rw [H.out, h0, h1']; simp
      go_wp2
      go_ret
      exact ⟨ret_bool' HF.out.symm, below2 w _ _⟩
  have h0' : (k == 0) = false := by simpa using h0
  by_cases h2 : k = 1
  · have h2' : (k == 1) = true := by simpa using h2
    by_cases h1 : k2 = 0
    · have HF : Hid (f = true) := by show _ = _; rw [H.out, h2, h1]; simp
      have h1' : (k2 == 0) = true := by simpa using h1
      go_wp2
      go_ret
      exact ⟨ret_bool' HF.out.symm, below2 w _ _⟩
    · have h1' : (k2 == 0) = false := by simpa using h1
      have HF : Hid (f = (k2 == 1)) := by show _ = _; rw [H.out, h2, h1']; simp
      go_wp2
      go_ret
      exact ⟨ret_bool' HF.out.symm, below2 w _ _⟩
  have h2' : (k == 1) = false := by simpa using h2
  have HF : Hid (f = false) := by show _ = _; rw [H.out, h0', h2']; simp
  go_wp2
  go_ret
  exact ⟨ret_bool' HF.out.symm, below2 w _ _⟩
theorem fit2_4 (k k2 : Int) : fit2 4 k k2 = (k2 == k || k2 == 0 || k == 0) := by unfold fit2 fitK opK; simp
set_option maxRecDepth 100000 in
set_option maxHeartbeats 2000000 in
theorem types4 (s : ByteArray) (k n : Int) (t : ByteArray) (k2 n2 : Int) (t2 : ByteArray) (w : World) (hl : ∀ w, Calls Try.prog 42 #[.string s] w fun e w' => e = .returned (.int .i64 4) ∧ w' = w) :
    Calls Try.prog 43 #[.string s, VV k n t, VV k2 n2 t2] w fun e w' => e = .returned (.bool (fit2 4 k k2)) ∧ Below w.heap.size w w' := by
  have H : Hid (fit2 4 k k2 = (k2 == k || k2 == 0 || k == 0)) := fit2_4 k k2
  generalize fit2 4 k k2 = f at *
  have hc := hl ((w.alloc (.cells #[.int .i64 k, .int .i64 n, .string t] 24)).alloc (.cells #[.int .i64 k2, .int .i64 n2, .string t2] 24))
  go_enter Try.func43, Try.ntmps43
  go_wp2_with fail
  refine hc.mono ?_
  rintro e w1 ⟨rfl, rfl⟩
  clear hc hl
  by_cases h0 : k = 0
  · have HF : Hid (f = true) := by show _ = _; rw [H.out, h0]; simp
    have h0' : (k == 0) = true := by simpa using h0
    go_wp2
    go_ret
    exact ⟨ret_bool' HF.out.symm, below2 w _ _⟩
  have h0' : (k == 0) = false := by simpa using h0
  by_cases h1 : k2 = 0
  · have HF : Hid (f = true) := by show _ = _; rw [H.out, h1]; simp
    have h1' : (k2 == 0) = true := by simpa using h1
    go_wp2
    go_ret
    exact ⟨ret_bool' HF.out.symm, below2 w _ _⟩
  have h1' : (k2 == 0) = false := by simpa using h1
  have HF : Hid (f = (k == k2)) := by show _ = _; rw [H.out, h0', h1']; simp only [Bool.or_false]; exact BEq.comm
  go_wp2
  go_ret
  exact ⟨ret_bool' HF.out.symm, below2 w _ _⟩
theorem fit2_5 (k k2 : Int) : fit2 5 k k2 = ((k == 2 || k == 0) && (k2 == 2 || k2 == 0)) := by unfold fit2 fitK opK; simp
set_option maxRecDepth 100000 in
set_option maxHeartbeats 2000000 in
theorem types5 (s : ByteArray) (k n : Int) (t : ByteArray) (k2 n2 : Int) (t2 : ByteArray) (w : World) (hl : ∀ w, Calls Try.prog 42 #[.string s] w fun e w' => e = .returned (.int .i64 5) ∧ w' = w) :
    Calls Try.prog 43 #[.string s, VV k n t, VV k2 n2 t2] w fun e w' => e = .returned (.bool (fit2 5 k k2)) ∧ Below w.heap.size w w' := by
  have H : Hid (fit2 5 k k2 = ((k == 2 || k == 0) && (k2 == 2 || k2 == 0))) := fit2_5 k k2
  generalize fit2 5 k k2 = f at *
  have hc := hl ((w.alloc (.cells #[.int .i64 k, .int .i64 n, .string t] 24)).alloc (.cells #[.int .i64 k2, .int .i64 n2, .string t2] 24))
  go_enter Try.func43, Try.ntmps43
  go_wp2_with fail
  refine hc.mono ?_
  rintro e w1 ⟨rfl, rfl⟩
  clear hc hl
  by_cases h0 : k = 0
  · have h0' : (k == 0) = true := by simpa using h0
    by_cases h1 : k2 = 0
    · have HF : Hid (f = true) := by show _ = _; rw [H.out, h0, h1]; simp
      have h1' : (k2 == 0) = true := by simpa using h1
      go_wp2
      go_ret
      exact ⟨ret_bool' HF.out.symm, below2 w _ _⟩
    · have h1' : (k2 == 0) = false := by simpa using h1
      have HF : Hid (f = (k2 == 2)) := by show _ = _; rw [H.out, h0, h1']; simp
      go_wp2
      go_ret
      exact ⟨ret_bool' HF.out.symm, below2 w _ _⟩
  have h0' : (k == 0) = false := by simpa using h0
  by_cases h2 : k = 2
  · have h2' : (k == 2) = true := by simpa using h2
    by_cases h1 : k2 = 0
    · have HF : Hid (f = true) := by show _ = _; rw [H.out, h2, h1]; simp
      have h1' : (k2 == 0) = true := by simpa using h1
      go_wp2
      go_ret
      exact ⟨ret_bool' HF.out.symm, below2 w _ _⟩
    · have h1' : (k2 == 0) = false := by simpa using h1
      have HF : Hid (f = (k2 == 2)) := by show _ = _; rw [H.out, h2, h1']; simp
      go_wp2
      go_ret
      exact ⟨ret_bool' HF.out.symm, below2 w _ _⟩
  have h2' : (k == 2) = false := by simpa using h2
  have HF : Hid (f = false) := by show _ = _; rw [H.out, h0', h2']; simp
  go_wp2
  go_ret
  exact ⟨ret_bool' HF.out.symm, below2 w _ _⟩
theorem fit2_6 (k k2 : Int) : fit2 6 k k2 = ((k == 2 || k == 0) && (k2 == 2 || k2 == 0)) := by unfold fit2 fitK opK; simp
set_option maxRecDepth 100000 in
set_option maxHeartbeats 2000000 in
theorem types6 (s : ByteArray) (k n : Int) (t : ByteArray) (k2 n2 : Int) (t2 : ByteArray) (w : World) (hl : ∀ w, Calls Try.prog 42 #[.string s] w fun e w' => e = .returned (.int .i64 6) ∧ w' = w) :
    Calls Try.prog 43 #[.string s, VV k n t, VV k2 n2 t2] w fun e w' => e = .returned (.bool (fit2 6 k k2)) ∧ Below w.heap.size w w' := by
  have H : Hid (fit2 6 k k2 = ((k == 2 || k == 0) && (k2 == 2 || k2 == 0))) := fit2_6 k k2
  generalize fit2 6 k k2 = f at *
  have hc := hl ((w.alloc (.cells #[.int .i64 k, .int .i64 n, .string t] 24)).alloc (.cells #[.int .i64 k2, .int .i64 n2, .string t2] 24))
  go_enter Try.func43, Try.ntmps43
  go_wp2_with fail
  refine hc.mono ?_
  rintro e w1 ⟨rfl, rfl⟩
  clear hc hl
  by_cases h0 : k = 0
  · have h0' : (k == 0) = true := by simpa using h0
    by_cases h1 : k2 = 0
    · have HF : Hid (f = true) := by show _ = _; rw [H.out, h0, h1]; simp
      have h1' : (k2 == 0) = true := by simpa using h1
      go_wp2
      go_ret
      exact ⟨ret_bool' HF.out.symm, below2 w _ _⟩
    · have h1' : (k2 == 0) = false := by simpa using h1
      have HF : Hid (f = (k2 == 2)) := by show _ = _; rw [H.out, h0, h1']; simp
      go_wp2
      go_ret
      exact ⟨ret_bool' HF.out.symm, below2 w _ _⟩
  have h0' : (k == 0) = false := by simpa using h0
  by_cases h2 : k = 2
  · have h2' : (k == 2) = true := by simpa using h2
    by_cases h1 : k2 = 0
    · have HF : Hid (f = true) := by show _ = _; rw [H.out, h2, h1]; simp
      have h1' : (k2 == 0) = true := by simpa using h1
      go_wp2
      go_ret
      exact ⟨ret_bool' HF.out.symm, below2 w _ _⟩
    · have h1' : (k2 == 0) = false := by simpa using h1
      have HF : Hid (f = (k2 == 2)) := by show _ = _; rw [H.out, h2, h1']; simp
      go_wp2
      go_ret
      exact ⟨ret_bool' HF.out.symm, below2 w _ _⟩
  have h2' : (k == 2) = false := by simpa using h2
  have HF : Hid (f = false) := by show _ = _; rw [H.out, h0', h2']; simp
  go_wp2
  go_ret
  exact ⟨ret_bool' HF.out.symm, below2 w _ _⟩
/-- What l12Logic answers. -/
def lgOr (a b : V3) : V3 := if a = (1, 1, noT) ∨ b = (1, 1, noT) then (1, 1, noT) else if a.1 = 0 ∨ b.1 = 0 then (0, 0, noT) else (1, 0, noT)
theorem boolSOr (w : World) : Calls Try.prog 77 #[.bool true] w fun e w' => e = .returned (VV 1 1 noT) ∧ Below w.heap.size w w' := specBool_any _ w
theorem lgOr_dec (a b : V3) (ha : okV a.1 a.2.1 a.2.2 = true) (hk : a.1 = 0 ∨ a.1 = 1) : (lgOr a b, (0 : Int)) = decA 1 a b := by
  obtain ⟨k, n, t⟩ := a
  unfold lgOr decA
  by_cases h1 : ((k, n, t) : V3) = (1, 1, noT) ∨ b = (1, 1, noT)
  · rw [if_pos h1, if_pos h1]
  · rw [if_neg h1, if_neg h1]
    by_cases h2 : k = 0 ∨ b.1 = 0
    · rw [if_pos h2, if_pos h2]
    · rw [if_neg h2, if_neg h2]
      rcases hk with hk | hk
      · exact absurd (.inl hk) h2
      · simp only at hk
        subst hk
        obtain ⟨hb, rfl⟩ := ok_bool (n := n) (t := t) ha
        have hn : n = 0 := by
          have : n ≠ 1 := fun e => h1 (.inl (by rw [e]))
          omega
        rw [hn]
set_option maxRecDepth 100000 in
set_option maxHeartbeats 2000000 in
theorem logicOr (k n : Int) (t : ByteArray) (k2 n2 : Int) (t2 : ByteArray) (w : World) :
    Calls Try.prog 76 #[.string gOr, VV k n t, VV k2 n2 t2] w fun e w' => e = .returned (VV (lgOr (k, n, t) (k2, n2, t2)).1 (lgOr (k, n, t) (k2, n2, t2)).2.1 (lgOr (k, n, t) (k2, n2, t2)).2.2) ∧ Below w.heap.size w w' := by
  have S0 : Hid (BiS w k n t k2 n2 t2 _) := BiS.start w k n t k2 n2 t2
  have hc := boolSOr (((w.alloc (.cells #[.int .i64 k, .int .i64 n, .string t] 24)).alloc (.cells #[.int .i64 k2, .int .i64 n2, .string t2] 24)).alloc (.cells #[.int .i64 0, .int .i64 0, .string noT] 24))
  have HB2 : Hid (∀ w1, Calls Try.prog 77 #[.bool false] w1 fun e w' => e = .returned (VV 1 0 noT) ∧ Below w1.heap.size w1 w') := fun w1 => specBool_any _ w1
  have q1 := fun W => eq_val k n t 1 1 noT W
  have q2 := fun W => eq_val k2 n2 t2 1 1 noT W
  have i1 := eqV3_iff (k, n, t) (1, 1, noT)
  have i2 := eqV3_iff (k2, n2, t2) (1, 1, noT)
  have HD : Hid (lgOr (k, n, t) (k2, n2, t2) = if (k, n, t) = (1, 1, noT) ∨ (k2, n2, t2) = (1, 1, noT) then (1, 1, noT) else if k = 0 ∨ k2 = 0 then (0, 0, noT) else (1, 0, noT)) := rfl
  generalize lgOr (k, n, t) (k2, n2, t2) = X at *
  generalize eqV3 (k, n, t) (1, 1, noT) = e1 at *
  generalize eqV3 (k2, n2, t2) (1, 1, noT) = e2 at *
  have H1 : Hid (e1 = true ↔ (k, n, t) = (1, 1, noT)) := i1
  have H2 : Hid (e2 = true ↔ (k2, n2, t2) = (1, 1, noT)) := i2
  clear i1 i2
  go_enter Try.func76, Try.ntmps76
  go_wp2_with fail
  refine hc.mono ?_
  rintro e w0 ⟨rfl, b0⟩
  have S1 : Hid (BiS w k n t k2 n2 t2 w0) := BiS.keep S0.out b0
  have S2 : Hid (BiS w k n t k2 n2 t2 (w0.alloc (.cells #[.int .i64 1, .int .i64 1, .string noT] 24))) := BiS.keep S1.out ((Below.refl _ _).alloc (Nat.le_refl _) _)
  have L0 : w.heap.size + 1 + 1 < w0.heap.size := S1.out.2.2.2.2.out.1
  have L1 : w.heap.size + 1 < w0.heap.size := by omega
  have L2 : w.heap.size < w0.heap.size := by omega
  obtain ⟨⟨u0, u1, u2⟩, ⟨z0, z1, z2⟩, ⟨v0, v1, v2⟩, ⟨y0, y1, y2⟩, _⟩ := S1.out
  clear S0 b0 hc
  cases e1 with
  | true =>
    have HE : Hid (X = (1, 1, noT)) := HD.out.trans (if_pos (.inl (H1.out.1 rfl)))
    clear HD H1 H2 HB2 S2
    go_wp2_with fail
    obtain ⟨r0, r1, r2, _, _, _⟩ := box_facts (box_over S1.out.2.2.2.2.out.2.2.2.2 1 1 noT (.cells #[.int .i64 1, .int .i64 1, .string noT] 24))
    exact bodyPost_ret (v := VV 1 1 noT) (by simp [results, Try.results76, go_sem, r0, r1, r2]) rfl ⟨by rw [HE.out], below_over (S1.out.2.2.2.2.out.2.1) (by omega) (by omega) _ _ _ _⟩
  | false =>
    cases e2 with
    | true =>
      have HE : Hid (X = (1, 1, noT)) := HD.out.trans (if_pos (.inr (H2.out.1 rfl)))
      clear HD H1 H2 HB2 S2
      go_wp2_with fail
      obtain ⟨r0, r1, r2, _, _, _⟩ := box_facts (box_over S1.out.2.2.2.2.out.2.2.2.2 1 1 noT (.cells #[.int .i64 1, .int .i64 1, .string noT] 24))
      exact bodyPost_ret (v := VV 1 1 noT) (by simp [results, Try.results76, go_sem, r0, r1, r2]) rfl ⟨by rw [HE.out], below_over (S1.out.2.2.2.2.out.2.1) (by omega) (by omega) _ _ _ _⟩
    | false =>
      have HD2 : Hid (X = if k = 0 ∨ k2 = 0 then (0, 0, noT) else (1, 0, noT)) := HD.out.trans (if_neg (fun h => h.elim (fun e => by cases H1.out.2 e) (fun e => by cases H2.out.2 e)))
      clear HD H1 H2
      by_cases h0 : k = 0
      · subst h0
        have HE : Hid (X = (0, 0, noT)) := HD2.out.trans (if_pos (.inl rfl))
        clear HD2 HB2 S2
        go_wp2_with fail
        obtain ⟨r0, r1, r2, _, _, _⟩ := box_facts (box_over S1.out.2.2.2.2.out.2.2.2.2 0 0 noT (.cells #[.int .i64 1, .int .i64 1, .string noT] 24))
        exact bodyPost_ret (v := VV 0 0 noT) (by simp [results, Try.results76, go_sem, r0, r1, r2]) rfl ⟨by rw [HE.out], below_over (S1.out.2.2.2.2.out.2.1) (by omega) (by omega) _ _ _ _⟩
      have h0' : (k == 0) = false := by simpa using h0
      by_cases h1 : k2 = 0
      · subst h1
        have HE : Hid (X = (0, 0, noT)) := HD2.out.trans (if_pos (.inr rfl))
        clear HD2 HB2 S2
        go_wp2_with fail
        obtain ⟨r0, r1, r2, _, _, _⟩ := box_facts (box_over S1.out.2.2.2.2.out.2.2.2.2 0 0 noT (.cells #[.int .i64 1, .int .i64 1, .string noT] 24))
        exact bodyPost_ret (v := VV 0 0 noT) (by simp [results, Try.results76, go_sem, r0, r1, r2]) rfl ⟨by rw [HE.out], below_over (S1.out.2.2.2.2.out.2.1) (by omega) (by omega) _ _ _ _⟩
      have h1' : (k2 == 0) = false := by simpa using h1
      have HE : Hid (X = (1, 0, noT)) := HD2.out.trans (if_neg (fun h => h.elim h0 h1))
      clear HD2
      go_wp2_with fail
      refine (HB2.out _).mono ?_
      rintro e w3 ⟨rfl, b3⟩
      have S3 : Hid (BiS w k n t k2 n2 t2 w3) := BiS.keep S2.out b3
      clear b3 S2 S1 HB2 L0 L1 L2 u0 u1 u2 z0 z1 z2 v0 v1 v2 y0 y1 y2
      obtain ⟨_, _, ⟨v0, v1, v2⟩, ⟨y0, y1, y2⟩, _⟩ := S3.out
      go_wp2_with fail
      obtain ⟨r0, r1, r2, _, _, _⟩ := box_facts (box_set S3.out.2.2.2.2.out.2.2.2.2 1 0 noT)
      exact bodyPost_ret (v := VV 1 0 noT) (by simp [results, Try.results76, go_sem, r0, r1, r2]) rfl ⟨by rw [HE.out], below_set3 S3.out.2.2.2.2.out.2.1 (by omega) _ _ _⟩
/-- What l12Logic answers. -/
def lgAnd (a b : V3) : V3 := if a = (1, 0, noT) ∨ b = (1, 0, noT) then (1, 0, noT) else if a.1 = 0 ∨ b.1 = 0 then (0, 0, noT) else (1, 1, noT)
theorem boolSAnd (w : World) : Calls Try.prog 77 #[.bool false] w fun e w' => e = .returned (VV 1 0 noT) ∧ Below w.heap.size w w' := specBool_any _ w
theorem lgAnd_dec (a b : V3) (ha : okV a.1 a.2.1 a.2.2 = true) (hk : a.1 = 0 ∨ a.1 = 1) : (lgAnd a b, (0 : Int)) = decA 0 a b := by
  obtain ⟨k, n, t⟩ := a
  unfold lgAnd decA
  by_cases h1 : ((k, n, t) : V3) = (1, 0, noT) ∨ b = (1, 0, noT)
  · rw [if_pos h1, if_pos h1]
  · rw [if_neg h1, if_neg h1]
    by_cases h2 : k = 0 ∨ b.1 = 0
    · rw [if_pos h2, if_pos h2]
    · rw [if_neg h2, if_neg h2]
      rcases hk with hk | hk
      · exact absurd (.inl hk) h2
      · simp only at hk
        subst hk
        obtain ⟨hb, rfl⟩ := ok_bool (n := n) (t := t) ha
        have hn : n = 1 := by
          have : n ≠ 0 := fun e => h1 (.inl (by rw [e]))
          omega
        rw [hn]
set_option maxRecDepth 100000 in
set_option maxHeartbeats 2000000 in
theorem logicAnd (k n : Int) (t : ByteArray) (k2 n2 : Int) (t2 : ByteArray) (w : World) :
    Calls Try.prog 76 #[.string gAnd, VV k n t, VV k2 n2 t2] w fun e w' => e = .returned (VV (lgAnd (k, n, t) (k2, n2, t2)).1 (lgAnd (k, n, t) (k2, n2, t2)).2.1 (lgAnd (k, n, t) (k2, n2, t2)).2.2) ∧ Below w.heap.size w w' := by
  have S0 : Hid (BiS w k n t k2 n2 t2 _) := BiS.start w k n t k2 n2 t2
  have hc := boolSAnd (((w.alloc (.cells #[.int .i64 k, .int .i64 n, .string t] 24)).alloc (.cells #[.int .i64 k2, .int .i64 n2, .string t2] 24)).alloc (.cells #[.int .i64 0, .int .i64 0, .string noT] 24))
  have HB2 : Hid (∀ w1, Calls Try.prog 77 #[.bool true] w1 fun e w' => e = .returned (VV 1 1 noT) ∧ Below w1.heap.size w1 w') := fun w1 => specBool_any _ w1
  have q1 := fun W => eq_val k n t 1 0 noT W
  have q2 := fun W => eq_val k2 n2 t2 1 0 noT W
  have i1 := eqV3_iff (k, n, t) (1, 0, noT)
  have i2 := eqV3_iff (k2, n2, t2) (1, 0, noT)
  have HD : Hid (lgAnd (k, n, t) (k2, n2, t2) = if (k, n, t) = (1, 0, noT) ∨ (k2, n2, t2) = (1, 0, noT) then (1, 0, noT) else if k = 0 ∨ k2 = 0 then (0, 0, noT) else (1, 1, noT)) := rfl
  generalize lgAnd (k, n, t) (k2, n2, t2) = X at *
  generalize eqV3 (k, n, t) (1, 0, noT) = e1 at *
  generalize eqV3 (k2, n2, t2) (1, 0, noT) = e2 at *
  have H1 : Hid (e1 = true ↔ (k, n, t) = (1, 0, noT)) := i1
  have H2 : Hid (e2 = true ↔ (k2, n2, t2) = (1, 0, noT)) := i2
  clear i1 i2
  go_enter Try.func76, Try.ntmps76
  go_wp2_with fail
  refine hc.mono ?_
  rintro e w0 ⟨rfl, b0⟩
  have S1 : Hid (BiS w k n t k2 n2 t2 w0) := BiS.keep S0.out b0
  have S2 : Hid (BiS w k n t k2 n2 t2 (w0.alloc (.cells #[.int .i64 1, .int .i64 0, .string noT] 24))) := BiS.keep S1.out ((Below.refl _ _).alloc (Nat.le_refl _) _)
  have L0 : w.heap.size + 1 + 1 < w0.heap.size := S1.out.2.2.2.2.out.1
  have L1 : w.heap.size + 1 < w0.heap.size := by omega
  have L2 : w.heap.size < w0.heap.size := by omega
  obtain ⟨⟨u0, u1, u2⟩, ⟨z0, z1, z2⟩, ⟨v0, v1, v2⟩, ⟨y0, y1, y2⟩, _⟩ := S1.out
  clear S0 b0 hc
  cases e1 with
  | true =>
    have HE : Hid (X = (1, 0, noT)) := HD.out.trans (if_pos (.inl (H1.out.1 rfl)))
    clear HD H1 H2 HB2 S2
    go_wp2_with fail
    obtain ⟨r0, r1, r2, _, _, _⟩ := box_facts (box_over S1.out.2.2.2.2.out.2.2.2.2 1 0 noT (.cells #[.int .i64 1, .int .i64 0, .string noT] 24))
    exact bodyPost_ret (v := VV 1 0 noT) (by simp [results, Try.results76, go_sem, r0, r1, r2]) rfl ⟨by rw [HE.out], below_over (S1.out.2.2.2.2.out.2.1) (by omega) (by omega) _ _ _ _⟩
  | false =>
    cases e2 with
    | true =>
      have HE : Hid (X = (1, 0, noT)) := HD.out.trans (if_pos (.inr (H2.out.1 rfl)))
      clear HD H1 H2 HB2 S2
      go_wp2_with fail
      obtain ⟨r0, r1, r2, _, _, _⟩ := box_facts (box_over S1.out.2.2.2.2.out.2.2.2.2 1 0 noT (.cells #[.int .i64 1, .int .i64 0, .string noT] 24))
      exact bodyPost_ret (v := VV 1 0 noT) (by simp [results, Try.results76, go_sem, r0, r1, r2]) rfl ⟨by rw [HE.out], below_over (S1.out.2.2.2.2.out.2.1) (by omega) (by omega) _ _ _ _⟩
    | false =>
      have HD2 : Hid (X = if k = 0 ∨ k2 = 0 then (0, 0, noT) else (1, 1, noT)) := HD.out.trans (if_neg (fun h => h.elim (fun e => by cases H1.out.2 e) (fun e => by cases H2.out.2 e)))
      clear HD H1 H2
      by_cases h0 : k = 0
      · subst h0
        have HE : Hid (X = (0, 0, noT)) := HD2.out.trans (if_pos (.inl rfl))
        clear HD2 HB2 S2
        go_wp2_with fail
        obtain ⟨r0, r1, r2, _, _, _⟩ := box_facts (box_over S1.out.2.2.2.2.out.2.2.2.2 0 0 noT (.cells #[.int .i64 1, .int .i64 0, .string noT] 24))
        exact bodyPost_ret (v := VV 0 0 noT) (by simp [results, Try.results76, go_sem, r0, r1, r2]) rfl ⟨by rw [HE.out], below_over (S1.out.2.2.2.2.out.2.1) (by omega) (by omega) _ _ _ _⟩
      have h0' : (k == 0) = false := by simpa using h0
      by_cases h1 : k2 = 0
      · subst h1
        have HE : Hid (X = (0, 0, noT)) := HD2.out.trans (if_pos (.inr rfl))
        clear HD2 HB2 S2
        go_wp2_with fail
        obtain ⟨r0, r1, r2, _, _, _⟩ := box_facts (box_over S1.out.2.2.2.2.out.2.2.2.2 0 0 noT (.cells #[.int .i64 1, .int .i64 0, .string noT] 24))
        exact bodyPost_ret (v := VV 0 0 noT) (by simp [results, Try.results76, go_sem, r0, r1, r2]) rfl ⟨by rw [HE.out], below_over (S1.out.2.2.2.2.out.2.1) (by omega) (by omega) _ _ _ _⟩
      have h1' : (k2 == 0) = false := by simpa using h1
      have HE : Hid (X = (1, 1, noT)) := HD2.out.trans (if_neg (fun h => h.elim h0 h1))
      clear HD2
      go_wp2_with fail
      refine (HB2.out _).mono ?_
      rintro e w3 ⟨rfl, b3⟩
      have S3 : Hid (BiS w k n t k2 n2 t2 w3) := BiS.keep S2.out b3
      clear b3 S2 S1 HB2 L0 L1 L2 u0 u1 u2 z0 z1 z2 v0 v1 v2 y0 y1 y2
      obtain ⟨_, _, ⟨v0, v1, v2⟩, ⟨y0, y1, y2⟩, _⟩ := S3.out
      go_wp2_with fail
      obtain ⟨r0, r1, r2, _, _, _⟩ := box_facts (box_set S3.out.2.2.2.2.out.2.2.2.2 1 1 noT)
      exact bodyPost_ret (v := VV 1 1 noT) (by simp [results, Try.results76, go_sem, r0, r1, r2]) rfl ⟨by rw [HE.out], below_set3 S3.out.2.2.2.2.out.2.1 (by omega) _ _ _⟩
end Go.Proofs.Yteloioopkndcmaa
