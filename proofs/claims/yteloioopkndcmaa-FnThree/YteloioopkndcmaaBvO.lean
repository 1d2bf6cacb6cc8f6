/- Binary signs: both BinaryValues answer the same (stage 12). -/
import Derived.Test.YteloioopkndcmaaBvN
namespace Go.Proofs.Yteloioopkndcmaa
open Go.RowKit

/-- What BinaryValue answers. -/
def binA (s : ByteArray) (k n : Int) (t : ByteArray) (k2 n2 : Int) (t2 : ByteArray) : V3 × Int :=
  if 65536 < s.size then zA 2
  else if s = gOr then biX 1 k n t k2 n2 t2 ((decA 1) (k, n, t) (k2, n2, t2))
  else if s = gAnd then biX 2 k n t k2 n2 t2 ((decA 0) (k, n, t) (k2, n2, t2))
  else if s = gEq then biX 4 k n t k2 n2 t2 ((cmpA (fun c => c == 0)) (k, n, t) (k2, n2, t2))
  else if s = gNe then biX 4 k n t k2 n2 t2 ((cmpA (fun c => c != 0)) (k, n, t) (k2, n2, t2))
  else if s = gLt then biX 4 k n t k2 n2 t2 ((cmpA (fun c => decide (c < 0))) (k, n, t) (k2, n2, t2))
  else if s = gLe then biX 4 k n t k2 n2 t2 ((cmpA (fun c => decide (c ≤ 0))) (k, n, t) (k2, n2, t2))
  else if s = gGt then biX 4 k n t k2 n2 t2 ((cmpA (fun c => decide (0 < c))) (k, n, t) (k2, n2, t2))
  else if s = gGe then biX 4 k n t k2 n2 t2 ((cmpA (fun c => decide (0 ≤ c))) (k, n, t) (k2, n2, t2))
  else if s = gAdd then biX 5 k n t k2 n2 t2 ((reckA addR addC) (k, n, t) (k2, n2, t2))
  else if s = gSub then biX 5 k n t k2 n2 t2 ((reckA subR subC) (k, n, t) (k2, n2, t2))
  else if s = gMul then biX 6 k n t k2 n2 t2 ((reckA mulR mulC) (k, n, t) (k2, n2, t2))
  else if s = gDiv then biX 6 k n t k2 n2 t2 ((reckA divQ divC) (k, n, t) (k2, n2, t2))
  else if s = gRem then biX 6 k n t k2 n2 t2 ((reckA remR remC) (k, n, t) (k2, n2, t2))
  else zA 1
theorem implBin_any (s : ByteArray) (k n : Int) (t : ByteArray) (k2 n2 : Int) (t2 : ByteArray) (w : World) (hm : s.size ≤ maxLen) (ht : t.size ≤ maxLen) (ht2 : t2.size ≤ maxLen) (hn : In64 n) (hn2 : In64 n2) :
    Calls Try.prog 19 #[.string s, VV k n t, VV k2 n2 t2] w fun e w' => e = .returned (ansV (binA s k n t k2 n2 t2)) ∧ Below w.heap.size w w' := by
  unfold binA
  by_cases hs : 65536 < s.size
  · rw [if_pos hs]
    exact implBin_long s k n t k2 n2 t2 w hs hm
  have hs' : s.size ≤ 65536 := by omega
  rw [if_neg hs]
  by_cases h0 : s = gOr
  · rw [if_pos h0]; subst h0
    exact implBin_found gOr (decA 1) 1 k n t k2 n2 t2 w hs' ht ht2 hn hn2 (by simp [BTab]) lviOr
  rw [if_neg h0]
  by_cases h1 : s = gAnd
  · rw [if_pos h1]; subst h1
    exact implBin_found gAnd (decA 0) 2 k n t k2 n2 t2 w hs' ht ht2 hn hn2 (by simp [BTab]) lviAnd
  rw [if_neg h1]
  by_cases h2 : s = gEq
  · rw [if_pos h2]; subst h2
    exact implBin_found gEq (cmpA (fun c => c == 0)) 4 k n t k2 n2 t2 w hs' ht ht2 hn hn2 (by simp [BTab]) lviEq
  rw [if_neg h2]
  by_cases h3 : s = gNe
  · rw [if_pos h3]; subst h3
    exact implBin_found gNe (cmpA (fun c => c != 0)) 4 k n t k2 n2 t2 w hs' ht ht2 hn hn2 (by simp [BTab]) lviNe
  rw [if_neg h3]
  by_cases h4 : s = gLt
  · rw [if_pos h4]; subst h4
    exact implBin_found gLt (cmpA (fun c => decide (c < 0))) 4 k n t k2 n2 t2 w hs' ht ht2 hn hn2 (by simp [BTab]) lviLt
  rw [if_neg h4]
  by_cases h5 : s = gLe
  · rw [if_pos h5]; subst h5
    exact implBin_found gLe (cmpA (fun c => decide (c ≤ 0))) 4 k n t k2 n2 t2 w hs' ht ht2 hn hn2 (by simp [BTab]) lviLe
  rw [if_neg h5]
  by_cases h6 : s = gGt
  · rw [if_pos h6]; subst h6
    exact implBin_found gGt (cmpA (fun c => decide (0 < c))) 4 k n t k2 n2 t2 w hs' ht ht2 hn hn2 (by simp [BTab]) lviGt
  rw [if_neg h6]
  by_cases h7 : s = gGe
  · rw [if_pos h7]; subst h7
    exact implBin_found gGe (cmpA (fun c => decide (0 ≤ c))) 4 k n t k2 n2 t2 w hs' ht ht2 hn hn2 (by simp [BTab]) lviGe
  rw [if_neg h7]
  by_cases h8 : s = gAdd
  · rw [if_pos h8]; subst h8
    exact implBin_found gAdd (reckA addR addC) 5 k n t k2 n2 t2 w hs' ht ht2 hn hn2 (by simp [BTab]) lviAdd
  rw [if_neg h8]
  by_cases h9 : s = gSub
  · rw [if_pos h9]; subst h9
    exact implBin_found gSub (reckA subR subC) 5 k n t k2 n2 t2 w hs' ht ht2 hn hn2 (by simp [BTab]) lviSub
  rw [if_neg h9]
  by_cases h10 : s = gMul
  · rw [if_pos h10]; subst h10
    exact implBin_found gMul (reckA mulR mulC) 6 k n t k2 n2 t2 w hs' ht ht2 hn hn2 (by simp [BTab]) lviMul
  rw [if_neg h10]
  by_cases h11 : s = gDiv
  · rw [if_pos h11]; subst h11
    exact implBin_found gDiv (reckA divQ divC) 6 k n t k2 n2 t2 w hs' ht ht2 hn hn2 (by simp [BTab]) lviDiv
  rw [if_neg h11]
  by_cases h12 : s = gRem
  · rw [if_pos h12]; subst h12
    exact implBin_found gRem (reckA remR remC) 6 k n t k2 n2 t2 w hs' ht ht2 hn hn2 (by simp [BTab]) lviRem
  rw [if_neg h12]
  refine implBin_none s k n t k2 n2 t2 w hs' ?_
  simp only [BTab, List.mem_cons, List.not_mem_nil, or_false]
  rintro p (rfl | rfl | rfl | rfl | rfl | rfl | rfl | rfl | rfl | rfl | rfl | rfl | rfl)
  · exact h12
  · exact h11
  · exact h10
  · exact h9
  · exact h8
  · exact h7
  · exact h6
  · exact h5
  · exact h4
  · exact h3
  · exact h2
  · exact h1
  · exact h0
set_option maxRecDepth 100000 in
set_option maxHeartbeats 2000000 in
theorem lvs_none (s : ByteArray) (h0 : s ≠ gOr) (h1 : s ≠ gAnd) (h2 : s ≠ gEq) (h3 : s ≠ gNe) (h4 : s ≠ gLt) (h5 : s ≠ gLe) (h6 : s ≠ gGt) (h7 : s ≠ gGe) (h8 : s ≠ gAdd) (h9 : s ≠ gSub) (h10 : s ≠ gMul) (h11 : s ≠ gDiv) (h12 : s ≠ gRem) (w : World) : Calls Try.prog 42 #[.string s] w fun e w' => e = .returned (.int .i64 0) ∧ w' = w := by
  have e0 : (s.toList == [111, 114]) = false := by have := str_ne h0; simpa [ByteArray.toList_eq] using this
  have e1 : (s.toList == [97, 110, 100]) = false := by have := str_ne h1; simpa [ByteArray.toList_eq] using this
  have e2 : (s.toList == [61]) = false := by have := str_ne h2; simpa [ByteArray.toList_eq] using this
  have e3 : (s.toList == [60, 62]) = false := by have := str_ne h3; simpa [ByteArray.toList_eq] using this
  have e4 : (s.toList == [60]) = false := by have := str_ne h4; simpa [ByteArray.toList_eq] using this
  have e5 : (s.toList == [60, 61]) = false := by have := str_ne h5; simpa [ByteArray.toList_eq] using this
  have e6 : (s.toList == [62]) = false := by have := str_ne h6; simpa [ByteArray.toList_eq] using this
  have e7 : (s.toList == [62, 61]) = false := by have := str_ne h7; simpa [ByteArray.toList_eq] using this
  have e8 : (s.toList == [43]) = false := by have := str_ne h8; simpa [ByteArray.toList_eq] using this
  have e9 : (s.toList == [45]) = false := by have := str_ne h9; simpa [ByteArray.toList_eq] using this
  have e10 : (s.toList == [42]) = false := by have := str_ne h10; simpa [ByteArray.toList_eq] using this
  have e11 : (s.toList == [47]) = false := by have := str_ne h11; simpa [ByteArray.toList_eq] using this
  have e12 : (s.toList == [37]) = false := by have := str_ne h12; simpa [ByteArray.toList_eq] using this
  clear h0 h1 h2 h3 h4 h5 h6 h7 h8 h9 h10 h11 h12
  go_enter Try.func42, Try.ntmps42
  go_wp2
  go_ret
  exact ⟨rfl, rfl⟩
set_option maxRecDepth 100000 in
theorem specBin_long (s : ByteArray) (k n : Int) (t : ByteArray) (k2 n2 : Int) (t2 : ByteArray) (w : World) (hs : 65536 < s.size) (hm : s.size ≤ maxLen) :
    Calls Try.prog 20 #[.string s, VV k n t, VV k2 n2 t2] w fun e w' => e = .returned (ansV (zA 2)) ∧ Below w.heap.size w w' := by
  unfold maxLen at hm
  go_enter Try.func20, Try.ntmps20
  go_wp2_with fail
  exact bodyPost_ret (v := VC 0 0 noT 2) (by simp [results, Try.results20, go_sem]) rfl ⟨rfl, below3 w _ _ _⟩
set_option maxRecDepth 100000 in
set_option maxHeartbeats 2000000 in
theorem specBin_none (s : ByteArray) (k n : Int) (t : ByteArray) (k2 n2 : Int) (t2 : ByteArray) (w : World) (hs : s.size ≤ 65536) (hL : ∀ w, Calls Try.prog 42 #[.string s] w fun e w' => e = .returned (.int .i64 0) ∧ w' = w) :
    Calls Try.prog 20 #[.string s, VV k n t, VV k2 n2 t2] w fun e w' => e = .returned (ansV (zA 1)) ∧ Below w.heap.size w w' := by
  have S0 : Hid (BiS w k n t k2 n2 t2 _) := BiS.start w k n t k2 n2 t2
  have HK : Hid (∀ w1, Calls Try.prog 41 #[VV k n t] w1 fun e w' => e = .returned (.bool (okV k n t)) ∧ Below w1.heap.size w1 w') := fun w1 => specValueOK_any k n t w1
  have HK2 : Hid (∀ w1, Calls Try.prog 41 #[VV k2 n2 t2] w1 fun e w' => e = .returned (.bool (okV k2 n2 t2)) ∧ Below w1.heap.size w1 w') := fun w1 => specValueOK_any k2 n2 t2 w1
  have HL : Hid (∀ w, Calls Try.prog 42 #[.string s] w fun e w' => e = .returned (.int .i64 0) ∧ w' = w) := hL
  generalize okV k n t = ok at *
  generalize okV k2 n2 t2 = ok2 at *
  clear hL
  go_enter Try.func20, Try.ntmps20
  go_wp2_with fail
  refine (HK.out _).mono ?_
  rintro e w1 ⟨rfl, b1⟩
  have S1 : Hid (BiS w k n t k2 n2 t2 w1) := BiS.keep S0.out b1
  clear b1 S0 HK
  cases ok with
  | false =>
    obtain ⟨_, _, ⟨v0, v1, v2⟩, ⟨y0, y1, y2⟩, _⟩ := S1.out
    go_wp2_with fail
    obtain ⟨r0, r1, r2, _, _, _⟩ := box_facts (box_set S1.out.2.2.2.2.out.2.2.2.2 0 0 noT)
    exact bodyPost_ret (v := VC 0 0 noT 1) (by simp [results, Try.results20, go_sem, r0, r1, r2]) rfl ⟨rfl, below_set3 S1.out.2.2.2.2.out.2.1 (by omega) _ _ _⟩
  | true =>
    obtain ⟨_, ⟨z0, z1, z2⟩, _, _, _⟩ := S1.out
    go_wp2_with fail
    refine (HK2.out _).mono ?_
    rintro e w2 ⟨rfl, b2⟩
    have S2 : Hid (BiS w k n t k2 n2 t2 w2) := BiS.keep S1.out b2
    clear b2 S1 HK2 z0 z1 z2
    obtain ⟨_, _, ⟨v0, v1, v2⟩, ⟨y0, y1, y2⟩, _⟩ := S2.out
    cases ok2 with
    | false =>
      go_wp2_with fail
      obtain ⟨r0, r1, r2, _, _, _⟩ := box_facts (box_set S2.out.2.2.2.2.out.2.2.2.2 0 0 noT)
      exact bodyPost_ret (v := VC 0 0 noT 1) (by simp [results, Try.results20, go_sem, r0, r1, r2]) rfl ⟨rfl, below_set3 S2.out.2.2.2.2.out.2.1 (by omega) _ _ _⟩
    | true =>
      go_wp2_with fail
      refine (HL.out _).mono ?_
      rintro e w3 ⟨rfl, rfl⟩
      go_wp2_with fail
      obtain ⟨r0, r1, r2, _, _, _⟩ := box_facts (box_set S2.out.2.2.2.2.out.2.2.2.2 0 0 noT)
      exact bodyPost_ret (v := VC 0 0 noT 1) (by simp [results, Try.results20, go_sem, r0, r1, r2]) rfl ⟨rfl, below_set3 S2.out.2.2.2.2.out.2.1 (by omega) _ _ _⟩
theorem kind01 {l k k2 : Int} (h : fit2 l k k2 = true) (hl : fit2 l k k2 = ((k == 1 || k == 0) && (k2 == 1 || k2 == 0))) : k = 0 ∨ k = 1 := by
  rw [hl] at h
  simp only [Bool.and_eq_true, Bool.or_eq_true, beq_iff_eq] at h
  omega
theorem specBin_any (s : ByteArray) (k n : Int) (t : ByteArray) (k2 n2 : Int) (t2 : ByteArray) (w : World) (hm : s.size ≤ maxLen) (hn : In64 n) (hn2 : In64 n2) :
    Calls Try.prog 20 #[.string s, VV k n t, VV k2 n2 t2] w fun e w' => e = .returned (ansV (binA s k n t k2 n2 t2)) ∧ Below w.heap.size w w' := by
  unfold binA
  by_cases hs : 65536 < s.size
  · rw [if_pos hs]
    exact specBin_long s k n t k2 n2 t2 w hs hm
  have hs' : s.size ≤ 65536 := by omega
  rw [if_neg hs]
  by_cases h0 : s = gOr
  · rw [if_pos h0]; subst h0
    exact specBin_found gOr _ 1 (by decide) k n t k2 n2 t2 w hs' lvsOr (fun w => types1 _ k n t k2 n2 t2 w lvsOr) (fun o1 _ f w => by have := binOr k n t k2 n2 t2 w; rw [lgOr_dec (k, n, t) (k2, n2, t2) o1 (kind01 f (fit2_1 k k2))] at this; exact this)
  rw [if_neg h0]
  by_cases h1 : s = gAnd
  · rw [if_pos h1]; subst h1
    exact specBin_found gAnd _ 2 (by decide) k n t k2 n2 t2 w hs' lvsAnd (fun w => types2 _ k n t k2 n2 t2 w lvsAnd) (fun o1 _ f w => by have := binAnd k n t k2 n2 t2 w; rw [lgAnd_dec (k, n, t) (k2, n2, t2) o1 (kind01 f (fit2_2 k k2))] at this; exact this)
  rw [if_neg h1]
  by_cases h2 : s = gEq
  · rw [if_pos h2]; subst h2
    exact specBin_found gEq _ 4 (by decide) k n t k2 n2 t2 w hs' lvsEq (fun w => types4 _ k n t k2 n2 t2 w lvsEq) (fun _ _ _ w => binEq k n t k2 n2 t2 w)
  rw [if_neg h2]
  by_cases h3 : s = gNe
  · rw [if_pos h3]; subst h3
    exact specBin_found gNe _ 4 (by decide) k n t k2 n2 t2 w hs' lvsNe (fun w => types4 _ k n t k2 n2 t2 w lvsNe) (fun _ _ _ w => binNe k n t k2 n2 t2 w)
  rw [if_neg h3]
  by_cases h4 : s = gLt
  · rw [if_pos h4]; subst h4
    exact specBin_found gLt _ 4 (by decide) k n t k2 n2 t2 w hs' lvsLt (fun w => types4 _ k n t k2 n2 t2 w lvsLt) (fun _ _ _ w => binLt k n t k2 n2 t2 w)
  rw [if_neg h4]
  by_cases h5 : s = gLe
  · rw [if_pos h5]; subst h5
    exact specBin_found gLe _ 4 (by decide) k n t k2 n2 t2 w hs' lvsLe (fun w => types4 _ k n t k2 n2 t2 w lvsLe) (fun _ _ _ w => binLe k n t k2 n2 t2 w)
  rw [if_neg h5]
  by_cases h6 : s = gGt
  · rw [if_pos h6]; subst h6
    exact specBin_found gGt _ 4 (by decide) k n t k2 n2 t2 w hs' lvsGt (fun w => types4 _ k n t k2 n2 t2 w lvsGt) (fun _ _ _ w => binGt k n t k2 n2 t2 w)
  rw [if_neg h6]
  by_cases h7 : s = gGe
  · rw [if_pos h7]; subst h7
    exact specBin_found gGe _ 4 (by decide) k n t k2 n2 t2 w hs' lvsGe (fun w => types4 _ k n t k2 n2 t2 w lvsGe) (fun _ _ _ w => binGe k n t k2 n2 t2 w)
  rw [if_neg h7]
  by_cases h8 : s = gAdd
  · rw [if_pos h8]; subst h8
    exact specBin_found gAdd _ 5 (by decide) k n t k2 n2 t2 w hs' lvsAdd (fun w => types5 _ k n t k2 n2 t2 w lvsAdd) (fun _ _ _ w => binAdd k n t k2 n2 t2 w hn hn2)
  rw [if_neg h8]
  by_cases h9 : s = gSub
  · rw [if_pos h9]; subst h9
    exact specBin_found gSub _ 5 (by decide) k n t k2 n2 t2 w hs' lvsSub (fun w => types5 _ k n t k2 n2 t2 w lvsSub) (fun _ _ _ w => binSub k n t k2 n2 t2 w hn hn2)
  rw [if_neg h9]
  by_cases h10 : s = gMul
  · rw [if_pos h10]; subst h10
    exact specBin_found gMul _ 6 (by decide) k n t k2 n2 t2 w hs' lvsMul (fun w => types6 _ k n t k2 n2 t2 w lvsMul) (fun _ _ _ w => binMul k n t k2 n2 t2 w hn hn2)
  rw [if_neg h10]
  by_cases h11 : s = gDiv
  · rw [if_pos h11]; subst h11
    exact specBin_found gDiv _ 6 (by decide) k n t k2 n2 t2 w hs' lvsDiv (fun w => types6 _ k n t k2 n2 t2 w lvsDiv) (fun _ _ _ w => binDiv k n t k2 n2 t2 w hn hn2)
  rw [if_neg h11]
  by_cases h12 : s = gRem
  · rw [if_pos h12]; subst h12
    exact specBin_found gRem _ 6 (by decide) k n t k2 n2 t2 w hs' lvsRem (fun w => types6 _ k n t k2 n2 t2 w lvsRem) (fun _ _ _ w => binRem k n t k2 n2 t2 w hn hn2)
  rw [if_neg h12]
  exact specBin_none s k n t k2 n2 t2 w hs' (lvs_none s h0 h1 h2 h3 h4 h5 h6 h7 h8 h9 h10 h11 h12)
end Go.Proofs.Yteloioopkndcmaa
