/- The sector of a page: the specification's; what both PageBytes answer. -/
import Derived.Test.YtbnnplelbbcanaaPagC
namespace Go.Proofs.Ytbnnplelbbcanaa
open Go.RowKit

set_option maxRecDepth 100000 in
set_option maxHeartbeats 4000000 in
theorem l03PageSum_any (page epoch : Int) (s : ByteArray) (w : World) (hs : s.size ≤ 1000) :
    Calls Try.prog 47 #[.int .i64 page, .int .i64 epoch, .string s] w fun e w' => e = .returned (.int .i64 (psum page epoch s.data.toList)) ∧ Below w.heap.size w w' := by
  have o0 : OwnL (w.alloc (.cells #[.int .u8 (page % 256)] 5)) w.heap.size (.slice (some ⟨w.heap.size, 0, none⟩) 1 1) [b8 page] := OwnL.made w _ [b8 page] _ (Nat.le_refl _) (by simp [cellsU, b8_nat]) (by unfold maxLen; show 1 ≤ _; omega)
  have B0 : Below w.heap.size w (w.alloc (.cells #[.int .u8 (page % 256)] 5)) := (Below.refl _ _).alloc (Nat.le_refl _) _
  have HO : Hid (OwnL (w.alloc (.cells #[.int .u8 (page % 256)] 5)) w.heap.size (.slice (some ⟨w.heap.size, 0, none⟩) 1 1) [b8 page]) := o0
  have HB0 : Hid (Below w.heap.size w (w.alloc (.cells #[.int .u8 (page % 256)] 5))) := B0
  clear o0 B0
  go_enter Try.func47, Try.ntmps47
  go_wp2_with fail
  refine (l03Four_any epoch _).mono ?_
  rintro e w1 ⟨v1, rfl, ho1, hb1⟩
  have hb1' := below_step HB0.out (Nat.le_refl _) hb1
  have hsz1 : w.heap.size ≤ w1.heap.size := hb1'.size
  have hoa := HO.out.below hb1
  obtain ⟨g1, n1, c1, rfl, HN1, _, HR1⟩ := ho1.open
  obtain ⟨v2, w2, hr2, ho2, hg2⟩ := run_app_bytes 22 g1 0 c1 (num4 epoch) hoa HR1.out (by show 1 + 4 ≤ _; omega) hsz1
  have e1 : (num4 epoch).length = n1 := HN1.out
  rw [e1] at hr2
  have hb2 := hoa.grown hg2 hb1' (Nat.le_refl _) hsz1
  obtain ⟨v3, w3, hr3, ho3, hg3⟩ := run_app_text 22 s ho2 (by rw [List.length_append, num4_len]; show 1 + 4 + _ ≤ _; omega) hb2.size
  have hb3 := ho2.grown hg3 hb2 (Nat.le_refl _) hb2.size
  obtain ⟨g2, n2, c2, rfl, _, _, _⟩ := ho2.open
  obtain ⟨g3, n3, c3, rfl, HN, _, HR⟩ := ho3.open
  have hn3 : n3 ≤ 1005 := by rw [← HN.out, List.length_append, List.length_append, num4_len]; show 1 + 4 + s.size ≤ _; omega
  clear ho1 ho2 ho3 hg2 hg3 hb1 hb2 HO HB0 hb1' hoa HN1 HR1 e1
  go_wp2_with (at_builtin; first | refine Lib.wpList_append_run _ rfl _ _ _ _ rfl _ _ rfl rfl _ _ hr2 ?_ | refine Lib.wpList_append_run _ rfl _ _ _ _ rfl _ _ rfl rfl _ _ hr3 ?_)
  refine (specSum_n _ _ _ _ w3 HR.out HN (by omega)).mono ?_
  rintro e w4 ⟨rfl, rfl⟩
  obtain ⟨x, hx⟩ : ∃ x, sumL ([b8 page] ++ num4 epoch ++ s.data.toList) = x := ⟨_, rfl⟩
  have HX : Hid (psum page epoch s.data.toList = x) := hx
  rw [hx]
  clear HR HN hx
  go_wp2
  go_ret
  exact ⟨ret_int' (by rw [HX.out]), hb3⟩

set_option maxRecDepth 100000 in
set_option maxHeartbeats 4000000 in
theorem l03Page_any (page next epoch : Int) (s : ByteArray) (w : World) (hs : s.size ≤ 27) :
    Calls Try.prog 32 #[.int .i64 page, .int .i64 next, .int .i64 epoch, .string s] w fun e w' => e = .returned (.string (tx (pageL page next epoch s.data.toList))) ∧ Below w.heap.size w w' := by
  have o0 : OwnL (w.alloc (.cells #[.int .u8 (next % 256)] 5)) w.heap.size (.slice (some ⟨w.heap.size, 0, none⟩) 1 1) [b8 next] := OwnL.made w _ [b8 next] _ (Nat.le_refl _) (by simp [cellsU, b8_nat]) (by unfold maxLen; show 1 ≤ _; omega)
  have B0 : Below w.heap.size w (w.alloc (.cells #[.int .u8 (next % 256)] 5)) := (Below.refl _ _).alloc (Nat.le_refl _) _
  obtain ⟨v1, w1, hr1, ho1, hg1⟩ := run_app_text 22 s o0 (by show 1 + _ ≤ _; omega) (by simp)
  have hb1 := o0.grown hg1 B0 (Nat.le_refl _) (by simp)
  obtain ⟨k, hk⟩ : ∃ k, s.size + k = 27 := ⟨27 - s.size, by omega⟩
  obtain ⟨v2, w2, hr2, ho2, hg2⟩ := run_app_zeros 22 k ho1 (by rw [List.length_append]; show 1 + s.size + _ ≤ _; omega) hb1.size
  have hb2 := ho1.grown hg2 hb1 (Nat.le_refl _) hb1.size
  have hbody : ([b8 next] ++ s.data.toList) ++ List.replicate k 0 = pbody next s.data.toList := by
    unfold pbody fill
    have : 28 - ([b8 next] ++ s.data.toList).length = k := by rw [List.length_append]; show 28 - (1 + s.size) = k; omega
    rw [this]
  rw [hbody] at ho2
  have HL : Hid ((pbody next s.data.toList).length = 28) := pbody_len next s.data.toList hs
  obtain ⟨g1, n1, c1, rfl, _, _, _⟩ := ho1.open
  obtain ⟨g2, n2, c2, rfl, HN2, _, HR2⟩ := ho2.open
  have HO2 : Hid (OwnL w2 w.heap.size (.slice (some ⟨g2, 0, none⟩) n2 c2) (pbody next s.data.toList)) := ho2
  have hcv2 := conv_n w2 g2 0 c2 n2 _ HR2.out HN2
  obtain ⟨T, hT⟩ : ∃ T, tx (pbody next s.data.toList) = T := ⟨_, rfl⟩
  have HT : Hid (T.data.toList = pbody next s.data.toList) := by show _ = _; rw [← hT]; rfl
  have HTs : Hid (T.size ≤ 1000) := by show _ ≤ _; rw [← hT, tx_size, HL.out]; omega
  rw [hT] at hcv2
  have hk' : (27 : Int) - (s.size : Int) = (k : Int) := by omega
  clear o0 B0 ho1 ho2 hg1 hg2 hT hbody HR2 hb1
  go_enter Try.func32, Try.ntmps32
  go_wp2_with (at_builtin; first | refine Lib.wpList_append_run _ rfl _ _ _ _ rfl _ _ rfl rfl _ _ hr1 ?_ | refine Lib.wpList_append_run _ rfl _ _ _ _ rfl _ _ rfl rfl _ _ hr2 ?_)
  refine (l03PageSum_any page epoch T w2 HTs.out).mono ?_
  rintro e w3 ⟨rfl, hb3⟩
  have hB3 := below_step hb2 (Nat.le_refl _) hb3
  have HV : Hid (tx (pageL page next epoch s.data.toList) = tx (pbody next s.data.toList ++ num4 (psum page epoch T.data.toList))) := by
    show _ = _
    rw [HT.out]
    rfl
  generalize psum page epoch T.data.toList = x at *
  have HO3 : Hid (OwnL w3 w.heap.size (.slice (some ⟨g2, 0, none⟩) n2 c2) (pbody next s.data.toList)) := HO2.out.below hb3
  clear hb2 hb3 HO2 hr1 hr2 hcv2
  go_wp2_with fail
  refine (l03Four_any x w3).mono ?_
  rintro e w4 ⟨v4, rfl, ho4, hb4⟩
  have hB4 := below_step hB3 (Nat.le_refl _) hb4
  have hoa := HO3.out.below hb4
  obtain ⟨g4, n4, c4, rfl, HN4, _, HR4⟩ := ho4.open
  obtain ⟨v5, w5, hr5, ho5, hg5⟩ := run_app_bytes 22 g4 0 c4 (num4 x) hoa HR4.out (by rw [HL.out]; show 28 + 4 ≤ _; omega) hB4.size
  have e1 : (num4 x).length = n4 := HN4.out
  rw [e1] at hr5
  have hb5 := hoa.grown hg5 hB4 (Nat.le_refl _) hB4.size
  obtain ⟨g5, n5, c5, rfl, HN5, _, HR5⟩ := ho5.open
  have hcv5 := conv_n w5 g5 0 c5 n5 _ HR5.out HN5
  rw [← HV.out] at hcv5
  obtain ⟨PP, hP⟩ : ∃ PP, tx (pageL page next epoch s.data.toList) = PP := ⟨_, rfl⟩
  have HP : Hid (tx (pageL page next epoch s.data.toList) = PP) := hP
  rw [hP] at hcv5
  clear hP HV ho4 ho5 hg5 hb4 hB3 hB4 hoa HN4 HR4 HN5 HR5 e1 HO3
  go_wp2_with (at_builtin; refine Lib.wpList_append_run _ rfl _ _ _ _ rfl _ _ rfl rfl _ _ hr5 ?_)
  go_ret
  exact ⟨ret_val (congrArg Value.string HP.out.symm), hb5⟩
end Go.Proofs.Ytbnnplelbbcanaa
