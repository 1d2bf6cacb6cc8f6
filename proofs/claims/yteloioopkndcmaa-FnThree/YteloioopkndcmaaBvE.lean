/- Unary signs: impl's UnaryValue (stage 12). -/
import Derived.Test.YteloioopkndcmaaBvD
namespace Go.Proofs.Yteloioopkndcmaa
open Go.RowKit

theorem NgS.start (w : World) (k n : Int) (t : ByteArray) : NgS w k n t ((w.alloc (.cells #[.int .i64 k, .int .i64 n, .string t] 24)).alloc (.cells #[.int .i64 0, .int .i64 0, .string noT] 24)) :=
  NgS.mk ⟨by simp, below2 w _ _, blk1' w _ _, blk2' w _ _⟩
theorem row1 {w : World} {g : Nat} {k n : Int} {t : ByteArray} (h : BoxV w g k n t) (ht : t.size ≤ maxLen) : RowV w (some ⟨g, 0, none⟩) [(k, n, t)] := fun i hi => by
  obtain rfl : i = 0 := by simp at hi; omega
  obtain ⟨a, b, c, _, _, _⟩ := box_facts h
  exact ⟨g, 0, rfl, (Array.getElem?_eq_some_iff.1 h).1, ⟨a, b, c⟩, ht⟩
theorem fit1 (l : Int) (v : V3) : (!([v].any fun u => !fitK u.1 (opK l (nthV [v] 0).1))) = fitK v.1 (opK l v.1) := by simp [nthV]
/-- What UnaryValue answers of a name that is found, with the level l and the work X. -/
def unX (l : Int) (k n : Int) (t : ByteArray) (X : V3 × Int) : V3 × Int := if okV k n t = false then zA 1 else if fitK k (opK l k) = false then zA 10 else X
set_option maxRecDepth 100000 in
theorem implUnary_long (s : ByteArray) (k n : Int) (t : ByteArray) (w : World) (hs : 65536 < s.size) (hm : s.size ≤ maxLen) :
    Calls Try.prog 21 #[.string s, VV k n t] w fun e w' => e = .returned (ansV (zA 2)) ∧ Below w.heap.size w w' := by
  unfold maxLen at hm
  go_enter Try.func21, Try.ntmps21
  go_wp2_with fail
  exact bodyPost_ret (v := VC 0 0 noT 2) (by simp [results, Try.results21, go_sem]) rfl ⟨rfl, below2 w _ _⟩
set_option maxRecDepth 100000 in
theorem implUnary_none (s : ByteArray) (k n : Int) (t : ByteArray) (w : World) (hs : s.size ≤ 65536) (hf : fU s.toList = none) :
    Calls Try.prog 21 #[.string s, VV k n t] w fun e w' => e = .returned (ansV (zA 1)) ∧ Below w.heap.size w w' := by
  have S0 : Hid (NgS w k n t _) := NgS.start w k n t
  have hu := unarySigns_any ((w.alloc (.cells #[.int .i64 k, .int .i64 n, .string t] 24)).alloc (.cells #[.int .i64 0, .int .i64 0, .string noT] 24))
  have HL : Hid (∀ w1 b, MapF w1 b 4 fU → (Instr.lookup 69 (.map (some b)) (.string s) true).run Try.prog w1 = .ok (.tuple #[.nilFunc, .bool false]) w1) := fun w1 b M => by
    have := M.look Try.underlying69 (Try.zeroValue67 w1) s (by unfold maxLen; omega)
    rw [hf] at this
    exact this
  clear hf
  go_enter Try.func21, Try.ntmps21
  go_wp2_with fail
  refine hu.mono ?_
  rintro e w1 ⟨b, rfl, M, b1⟩
  have hl := HL.out w1 b M
  have S1 := NgS.keep S0.out b1
  obtain ⟨_, ⟨v0, v1, v2⟩, ⟨y0, y1, y2⟩, HX⟩ := S1
  clear M b1 HL S0 hu
  go_wp2_with fail
  obtain ⟨q0, q1, q2, _, _, _⟩ := box_facts (box_set HX.out.2.2.2 0 0 noT)
  exact bodyPost_ret (v := VC 0 0 noT 1) (by simp [results, Try.results21, go_sem, q0, q1, q2]) rfl ⟨rfl, below_set3 HX.out.2.1 (by omega) _ _ _⟩
set_option maxRecDepth 100000 in
set_option maxHeartbeats 2000000 in
theorem implUnary_found (s : ByteArray) (g : Nat) (l : Int) (X : V3 × Int) (k n : Int) (t : ByteArray) (w : World) (hs : s.size ≤ 65536) (ht : t.size ≤ maxLen) (hf : fU s.toList = some (fnV g)) (hE : Ent g)
    (hL : ∀ w, Calls Try.prog 46 #[.string s] w fun e w' => e = .returned (.int .i64 l) ∧ w' = w) (hg : ∀ w, Calls Try.prog g #[VV k n t] w fun e w' => e = .returned (ansV X) ∧ Below w.heap.size w w') :
    Calls Try.prog 21 #[.string s, VV k n t] w fun e w' => e = .returned (ansV (unX l k n t X)) ∧ Below w.heap.size w w' := by
  have S0 : Hid (NgS w k n t _) := NgS.start w k n t
  have hu := unarySigns_any ((w.alloc (.cells #[.int .i64 k, .int .i64 n, .string t] 24)).alloc (.cells #[.int .i64 0, .int .i64 0, .string noT] 24))
  have HL : Hid (∀ w1 b, MapF w1 b 4 fU → (Instr.lookup 69 (.map (some b)) (.string s) true).run Try.prog w1 = .ok (.tuple #[fnV g, .bool true]) w1) := fun w1 b M => by
    have := M.look Try.underlying69 (Try.zeroValue67 w1) s (by unfold maxLen; omega)
    rw [hf] at this
    exact this
  have HK : Hid (∀ w1, Calls Try.prog 38 #[VV k n t] w1 fun e w' => e = .returned (.bool (okV k n t)) ∧ Below w1.heap.size w1 w') := fun w1 => implValueOK_any k n t w1
  have HLv : Hid (∀ w, Calls Try.prog 46 #[.string s] w fun e w' => e = .returned (.int .i64 l) ∧ w' = w) := hL
  have HG : Hid (∀ w, Calls Try.prog g #[VV k n t] w fun e w' => e = .returned (ansV X) ∧ Below w.heap.size w w') := hg
  have HO : Hid (∀ w1 b, BoxV w1 b k n t → Calls Try.prog 39 #[.int .i64 l, .slice (some ⟨b, 0, none⟩) 1 1] w1 fun e w' => e = .returned (.bool (fitK k (opK l k))) ∧ Below w1.heap.size w1 w') := fun w1 b hb => by
    have := operandsFit_any l [(k, n, t)] _ 1 w1 (row1 hb ht) (by simp) (by simp [maxLen])
    rw [fit1] at this
    exact this
  have HX0 : Hid (unX l k n t X = if okV k n t = false then zA 1 else if fitK k (opK l k) = false then zA 10 else X) := rfl
  generalize unX l k n t X = Y at *
  generalize okV k n t = ok at *
  generalize fitK k (opK l k) = ft at *
  obtain ⟨⟨xk, xn, xt⟩, xc⟩ := X
  unfold Ent at hE
  clear hf hL hg ht
  go_enter Try.func21, Try.ntmps21
  go_wp2_with fail
  refine hu.mono ?_
  rintro e w1 ⟨b, rfl, M, b1⟩
  have hl := HL.out w1 b M
  have S1 : Hid (NgS w k n t w1) := NgS.keep S0.out b1
  obtain ⟨⟨u0, u1, u2⟩, _, _, _⟩ := S1.out
  clear M b1 HL S0 hu
  go_wp2_with fail
  refine (HK.out w1).mono ?_
  rintro e w2 ⟨rfl, b2⟩
  have S2 : Hid (NgS w k n t w2) := NgS.keep S1.out b2
  clear b2 S1 u0 u1 u2 hl HK
  cases ok with
  | false =>
    obtain ⟨_, ⟨v0, v1, v2⟩, ⟨y0, y1, y2⟩, HX⟩ := S2.out
    go_wp2_with fail
    obtain ⟨q0, q1, q2, _, _, _⟩ := box_facts (box_set HX.out.2.2.2 0 0 noT)
    exact bodyPost_ret (v := VC 0 0 noT 1) (by simp [results, Try.results21, go_sem, q0, q1, q2]) rfl ⟨by rw [HX0.out]; rfl, below_set3 HX.out.2.1 (by omega) _ _ _⟩
  | true =>
    obtain ⟨⟨u0, u1, u2⟩, _, _, _⟩ := S2.out
    have hO := HO.out (w2.alloc (.cells #[.int .i64 k, .int .i64 n, .string t] 24)).drew w2.heap.size (heap_alloc_new w2 _)
    have HB : Hid (Below w2.heap.size w2 (w2.alloc (.cells #[.int .i64 k, .int .i64 n, .string t] 24)).drew) := ((Below.refl _ _).alloc (Nat.le_refl _) _).drew
    clear HO
    go_wp2_with fail
    go_region_with
      (first
      | (go_at_call 46; refine (HLv.out _).mono ?_; rintro e wA ⟨rfl, rfl⟩)
      | (go_at_call 39; refine hO.mono ?_; rintro e wB ⟨rfl, hb⟩; have S3 : Hid (NgS w k n t wB) := NgS.keep S2.out (HB.out.trans (hb.mono HB.out.size)); clear hb)
      | fail)
    all_goals
      clear hO HB u0 u1 u2 S2 HLv
      obtain ⟨⟨u0, u1, u2⟩, ⟨v0, v1, v2⟩, ⟨y0, y1, y2⟩, HX⟩ := S3.out
      cases ft with
      | false =>
        go_wp2_with fail
        obtain ⟨q0, q1, q2, _, _, _⟩ := box_facts (box_set HX.out.2.2.2 0 0 noT)
        exact bodyPost_ret (v := VC 0 0 noT 10) (by simp [results, Try.results21, go_sem, q0, q1, q2]) rfl ⟨by rw [HX0.out]; rfl, below_set3 HX.out.2.1 (by omega) _ _ _⟩
      | true =>
        clear v0 v1 v2 y0 y1 y2
        go_wp2_with fail
        refine (HG.out _).mono ?_
        rintro e w4 ⟨rfl, b4⟩
        have S4 := NgS.keep S3.out b4
        clear u0 u1 u2 HX S3 b4
        obtain ⟨_, ⟨v0, v1, v2⟩, ⟨y0, y1, y2⟩, HX⟩ := S4
        go_wp2_with fail
        obtain ⟨q0, q1, q2, _, _, _⟩ := box_facts (box_set HX.out.2.2.2 xk xn xt)
        exact bodyPost_ret (v := VC xk xn xt xc) (by simp [results, Try.results21, go_sem, q0, q1, q2]) rfl ⟨by rw [HX0.out]; rfl, below_set3 HX.out.2.1 (by omega) _ _ _⟩
theorem lvNeg (w : World) : Calls Try.prog 46 #[.string sNeg] w fun e w' => e = .returned (.int .i64 7) ∧ w' = w := by
  go_enter Try.func46, Try.ntmps46
  go_wp2
  go_ret
  exact ⟨rfl, rfl⟩
theorem lvNot (w : World) : Calls Try.prog 46 #[.string sNot] w fun e w' => e = .returned (.int .i64 3) ∧ w' = w := by
  go_enter Try.func46, Try.ntmps46
  go_wp2
  go_ret
  exact ⟨rfl, rfl⟩
theorem lvNul (w : World) : Calls Try.prog 46 #[.string sNul] w fun e w' => e = .returned (.int .i64 4) ∧ w' = w := by
  go_enter Try.func46, Try.ntmps46
  go_wp2
  go_ret
  exact ⟨rfl, rfl⟩
theorem lvNnl (w : World) : Calls Try.prog 46 #[.string sNnl] w fun e w' => e = .returned (.int .i64 4) ∧ w' = w := by
  go_enter Try.func46, Try.ntmps46
  go_wp2
  go_ret
  exact ⟨rfl, rfl⟩
/-- What UnaryValue answers. -/
def unA (s : ByteArray) (k n : Int) (t : ByteArray) : V3 × Int :=
  if 65536 < s.size then zA 2
  else if s = sNeg then unX 7 k n t (reckA subR subC (2, 0, noT) (k, n, t))
  else if s = sNot then unX 3 k n t (if k = 0 then zA 0 else ((1, bit (n == 0), noT), 0))
  else if s = sNul then unX 4 k n t ((1, bit (k == 0), noT), 0)
  else if s = sNnl then unX 4 k n t ((1, bit (!(k == 0)), noT), 0)
  else zA 1
theorem bytes_eq {s r : ByteArray} (h : s.toList = r.toList) : s = r := by
  rw [ByteArray.toList_eq, ByteArray.toList_eq] at h
  obtain ⟨⟨a⟩⟩ := s
  obtain ⟨⟨b⟩⟩ := r
  simp at h
  rw [h]
theorem fU_none {s : ByteArray} (h1 : s ≠ sNeg) (h2 : s ≠ sNot) (h3 : s ≠ sNul) (h4 : s ≠ sNnl) : fU s.toList = none := by
  unfold fU putF
  rw [if_neg (fun h => h4 (bytes_eq h)), if_neg (fun h => h3 (bytes_eq h)), if_neg (fun h => h2 (bytes_eq h)), if_neg (fun h => h1 (bytes_eq h))]
theorem fU_neg : fU sNeg.toList = some (fnV 81) := by simp [fU, putF, ByteArray.toList_eq]
theorem fU_not : fU sNot.toList = some (fnV 82) := by simp [fU, putF, ByteArray.toList_eq]
theorem fU_nul : fU sNul.toList = some (fnV 83) := by simp [fU, putF, ByteArray.toList_eq]
theorem fU_nnl : fU sNnl.toList = some (fnV 85) := by simp [fU, putF, ByteArray.toList_eq]
theorem implUnary_any (s : ByteArray) (k n : Int) (t : ByteArray) (w : World) (hm : s.size ≤ maxLen) (ht : t.size ≤ maxLen) (hn : In64 n) :
    Calls Try.prog 21 #[.string s, VV k n t] w fun e w' => e = .returned (ansV (unA s k n t)) ∧ Below w.heap.size w w' := by
  by_cases hs : 65536 < s.size
  · have : unA s k n t = zA 2 := if_pos hs
    rw [this]
    exact implUnary_long s k n t w hs hm
  · have hs' : s.size ≤ 65536 := by omega
    unfold unA
    rw [if_neg hs]
    by_cases h1 : s = sNeg
    · rw [if_pos h1]; subst h1
      exact implUnary_found sNeg 81 7 _ k n t w hs' ht fU_neg ent81 lvNeg fun w => negated_any k n t w hn
    rw [if_neg h1]
    by_cases h2 : s = sNot
    · rw [if_pos h2]; subst h2
      exact implUnary_found sNot 82 3 _ k n t w hs' ht fU_not ent82 lvNot fun w => turned_any k n t w
    rw [if_neg h2]
    by_cases h3 : s = sNul
    · rw [if_pos h3]; subst h3
      exact implUnary_found sNul 83 4 _ k n t w hs' ht fU_nul ent83 lvNul fun w => null83_any k n t w
    rw [if_neg h3]
    by_cases h4 : s = sNnl
    · rw [if_pos h4]; subst h4
      exact implUnary_found sNnl 85 4 _ k n t w hs' ht fU_nnl ent85 lvNnl fun w => null85_any k n t w
    rw [if_neg h4]
    exact implUnary_none s k n t w hs' (fU_none h1 h2 h3 h4)
end Go.Proofs.Yteloioopkndcmaa
