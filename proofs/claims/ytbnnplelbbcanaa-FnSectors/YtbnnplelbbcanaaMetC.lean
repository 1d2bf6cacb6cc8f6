/- The sector of a meta: the specification's. -/
import Derived.Test.YtbnnplelbbcanaaMetB
namespace Go.Proofs.Ytbnnplelbbcanaa
open Go.RowKit

theorem made3 (w : World) (x y z : Value) (a b c : Int) (hx : x = .int .u8 (a % 256)) (hy : y = .int .u8 (b % 256)) (hz : z = .int .u8 (c % 256)) : ReadL (w.alloc (.cells #[x, y, z] 5)) (some ⟨w.heap.size, 0, none⟩) [b8 a, b8 b, b8 c] := fun i hi => by
  subst hx hy hz
  refine ⟨w.heap.size, 0, rfl, by simp, ?_⟩
  rw [slab_cell (heap_new' _ _ _ rfl)]
  have : i = 0 ∨ i = 1 ∨ i = 2 := by simp at hi; omega
  rcases this with rfl | rfl | rfl
  · show some (Value.int .u8 (a % 256)) = some (Value.int .u8 ((b8 a).toNat : Int)); rw [b8_nat]
  · show some (Value.int .u8 (b % 256)) = some (Value.int .u8 ((b8 b).toNat : Int)); rw [b8_nat]
  · show some (Value.int .u8 (c % 256)) = some (Value.int .u8 ((b8 c).toNat : Int)); rw [b8_nat]
theorem b8_mod (l : Int) : b8 (l % 256) = b8 l := by unfold b8; rw [Int.emod_emod]

set_option maxRecDepth 100000 in
set_option maxHeartbeats 4000000 in
theorem l03Meta_any (e f l : Int) (w : World) (h0 : 0 ≤ l) (h1 : l ≤ 3000) :
    Calls Try.prog 41 #[MV e f l] w fun x w' => x = .returned (.string (tx (metaL e f l))) ∧ Below w.heap.size w w' := by
  have HO1 : Hid (OwnL (mtF w e f l) (w.heap.size + 1) (.slice (some ⟨w.heap.size + 1, 0, none⟩) 2 2) [77, 84]) := mtF_own w e f l
  have HX1 : Hid (StX w.heap.size f l (mtF w e f l)) := (boxW_X w e f l).keep (mtF_below w e f l) (by omega)
  have HB1 : Hid (Below w.heap.size w (mtF w e f l)) := (boxW_below w e f l).trans ((mtF_below w e f l).mono (by omega))
  have hc0 : (mtF w e f l).cell? ⟨w.heap.size, 0, none⟩ = some (.int .i64 e) := ((mtF_below w e f l).cell (p := ⟨w.heap.size, 0, none⟩) (Nat.lt_succ_self _)).trans (boxW_0 w e f l)
  have hzF : w.heap.size + 1 ≤ (mtF w e f l).heap.size := by have := (mtF_below w e f l).size; simp at this ⊢; omega
  have hcs := mtF_run w e f l
  obtain ⟨WF, hWF⟩ : ∃ WF, mtF w e f l = WF := ⟨_, rfl⟩
  rw [hWF] at HO1 HX1 HB1 hcs hc0 hzF
  clear hWF
  go_enter Try.func41, Try.ntmps41
  go_wp2_with fail
  refine (l03Four_any e _).mono ?_
  rintro x w2 ⟨v2, rfl, ho2, hb2⟩
  have hB2 := below_step HB1.out (Nat.le_refl _) hb2
  have hz2 : w.heap.size + 1 ≤ w2.heap.size := by have := hb2.size; omega
  have hx2 := HX1.out.keep hb2 (by omega)
  have hoa := HO1.out.below hb2
  obtain ⟨g2, n2, c2, rfl, HN2, _, HR2⟩ := ho2.open
  obtain ⟨v3, w3, hr3, ho3, hg3⟩ := run_app_bytes 22 g2 0 c2 (num4 e) hoa HR2.out (by show 2 + 4 ≤ _; omega) hz2
  have e2 : (num4 e).length = n2 := HN2.out
  rw [e2] at hr3
  have hb3 : Below (w.heap.size + 1) w2 w3 := hoa.grown hg3 (Below.refl _ _) (Nat.le_refl _) hz2
  have hB3 := hB2.trans (hb3.mono (by omega))
  have hz3 : w.heap.size + 1 ≤ w3.heap.size := Nat.le_trans hz2 hb3.size
  obtain ⟨hxf, hxl⟩ := hx2.keep hb3 (by omega)
  obtain ⟨g3, n3, c3, rfl, _, _, _⟩ := ho3.open
  have HO3 : Hid (OwnL w3 (w.heap.size + 1) (.slice (some ⟨g3, 0, none⟩) n3 c3) ([77, 84] ++ num4 e)) := ho3
  clear ho2 hb2 hoa ho3 hg3 hb3 HO1 HX1 HB1 hB2 hx2 HN2 HR2 e2
  have ho3a := HO3.out.alloc (.cells #[.int .u8 (f % 256), .int .u8 (l / 256), .int .u8 (l % 256)] 5)
  have hrd := made3 w3 (.int .u8 (f % 256)) (.int .u8 (l / 256)) (.int .u8 (l % 256)) f (l / 256) l rfl (congrArg (Value.int .u8) (by omega)) rfl
  obtain ⟨v4, w4, hr4, ho4, hg4⟩ := run_app_bytes 22 w3.heap.size 0 3 [b8 f, b8 (l / 256), b8 l] ho3a hrd (by rw [List.length_append, num4_len]; show 2 + 4 + 3 ≤ _; omega) (by simp; omega)
  have hb4 : Below (w.heap.size + 1) w3 w4 := ho3a.grown hg4 ((Below.refl _ _).alloc hz3 _) (Nat.le_refl _) (by simp; omega)
  have hB4 := hB3.trans (hb4.mono (by omega))
  have hz4 : w.heap.size + 1 ≤ w4.heap.size := Nat.le_trans hz3 hb4.size
  have ho4' : OwnL w4 (w.heap.size + 1) v4 (mhead e f l) := ho4
  obtain ⟨v5, w5, hr5, ho5, hg5⟩ := run_app_zeros 22 19 ho4' (by rw [mhead_len]; omega) hz4
  have hb5 : Below (w.heap.size + 1) w4 w5 := ho4'.grown hg5 (Below.refl _ _) (Nat.le_refl _) hz4
  have hB5 := hB4.trans (hb5.mono (by omega))
  have hz5 : w.heap.size + 1 ≤ w5.heap.size := Nat.le_trans hz4 hb5.size
  have ho5' : OwnL w5 (w.heap.size + 1) v5 (fill (mhead e f l)) := ho5
  obtain ⟨g4, c4, e4⟩ := ho4'.shape
  rw [mhead_len] at e4
  subst e4
  obtain ⟨g5, n5, c5, rfl, HN5, _, HR5⟩ := ho5'.open
  have HO5 : Hid (OwnL w5 (w.heap.size + 1) (.slice (some ⟨g5, 0, none⟩) n5 c5) (fill (mhead e f l))) := ho5'
  have hn5 : Hid (n5 ≤ 65536) := by show _ ≤ _; rw [← HN5.out, mbody_len]; omega
  have hr4' : (Builtin.append_ #[22, 22] 22 #[.slice (some ⟨g3, 0, none⟩) n3 c3, .slice (some ⟨w3.heap.size, 0, none⟩) 3 3]).run Try.prog (w3.alloc (.cells #[.int .u8 (f % 256), .int .u8 (l / 256), .int .u8 (l % 256)] 5)) = .ok (.slice (some ⟨g4, 0, none⟩) 9 c4) w4 := hr4
  have hr5' : (Builtin.append_ #[22, 3] 22 #[.slice (some ⟨g4, 0, none⟩) 9 c4, .int .i64 19]).run Try.prog w4 = .ok (.slice (some ⟨g5, 0, none⟩) n5 c5) w5 := hr5
  clear hr4 hr5 ho3a hrd ho4 ho4' ho5 ho5' hg4 hg5 hb4 hb5 hB3 hB4 HO3
  go_wp2_with (at_builtin; first | ((with_reducible change wpList _ _ _ _ _ w2); refine Lib.wpList_append_run _ rfl _ _ _ _ rfl _ _ rfl rfl _ _ hr3 ?_) | ((with_reducible change wpList _ _ _ _ _ (w3.alloc _)); refine Lib.wpList_append_run _ rfl _ _ _ _ rfl _ _ rfl rfl _ _ hr4' ?_) | ((with_reducible change wpList _ _ _ _ _ w4); refine Lib.wpList_append_run _ rfl _ _ _ _ rfl _ _ rfl rfl _ _ hr5' ?_))
  refine (specSum_n _ _ _ _ w5 HR5.out HN5 hn5.out).mono ?_
  rintro x w6 ⟨rfl, hq⟩
  obtain rfl := hq.symm
  have HV : Hid (tx (metaL e f l) = tx (fill (mhead e f l) ++ num4 (sumL (fill (mhead e f l))))) := rfl
  generalize sumL (fill (mhead e f l)) = q at *
  clear hr3 hr4' hr5' HR5
  go_wp2_with fail
  refine (l03Four_any q _).mono ?_
  rintro x w7 ⟨v7, rfl, ho7, hb7⟩
  have hB7 := below_step hB5 (Nat.le_refl _) hb7
  have hz7 : w.heap.size + 1 ≤ w7.heap.size := Nat.le_trans hz5 hb7.size
  have hoa := HO5.out.below hb7
  obtain ⟨g7, n7, c7, rfl, HN7, _, HR7⟩ := ho7.open
  obtain ⟨v8, w8, hr8, ho8, hg8⟩ := run_app_bytes 22 g7 0 c7 (num4 q) hoa HR7.out (by rw [mbody_len]; show 28 + 4 ≤ _; omega) hz7
  have e7 : (num4 q).length = n7 := HN7.out
  rw [e7] at hr8
  have hb8 : Below (w.heap.size + 1) w7 w8 := hoa.grown hg8 (Below.refl _ _) (Nat.le_refl _) hz7
  have hB8 := hB7.trans (hb8.mono (by omega))
  obtain ⟨g8, n8, c8, rfl, HN8, _, HR8⟩ := ho8.open
  have hcv8 := conv_n w8 g8 0 c8 n8 _ HR8.out HN8
  rw [← HV.out] at hcv8
  obtain ⟨PP, hP⟩ : ∃ PP, tx (metaL e f l) = PP := ⟨_, rfl⟩
  have HP : Hid (tx (metaL e f l) = PP) := hP
  rw [hP] at hcv8
  clear hP HV ho7 ho8 hg8 hb7 hb8 hB7 hoa HN7 HR7 HN8 HR8 e7 HO5 hB5
  go_wp2_with (at_builtin; refine Lib.wpList_append_run _ rfl _ _ _ _ rfl _ _ rfl rfl _ _ hr8 ?_)
  go_ret
  exact ⟨ret_val (congrArg Value.string HP.out.symm), hB8⟩
end Go.Proofs.Ytbnnplelbbcanaa
