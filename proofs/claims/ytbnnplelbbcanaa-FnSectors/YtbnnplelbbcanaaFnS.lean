/- FnSectors, walked. -/
import Derived.Test.YtbnnplelbbcanaaSecW
namespace Go.Proofs.Ytbnnplelbbcanaa
open Go.RowKit

set_option maxRecDepth 100000 in
set_option maxHeartbeats 4000000 in
theorem lawSectors (a1 a2 : Option Addr) (c1 c2 : Nat) (l1 l2 : List UInt8) (w : World) (h1 : ReadL w a1 l1) (h2 : ReadL w a2 l2) (m1 : l1.length ≤ maxLen) (m2 : l2.length ≤ maxLen) :
    Calls Try.prog 3 #[.slice a1 l1.length c1, .slice a2 l2.length c2] w fun e w' => e = .returned (.bool true) ∧ Below w.heap.size w w' := by
  have H1 : Hid (ReadL w a1 l1) := h1
  have H2 : Hid (ReadL w a2 l2) := h2
  clear h1 h2
  obtain ⟨n1, e1⟩ : ∃ n, l1.length = n := ⟨_, rfl⟩
  obtain ⟨n2, e2⟩ : ∃ n, l2.length = n := ⟨_, rfl⟩
  have L1 : Hid (l1.length = n1) := e1
  have L2 : Hid (l2.length = n2) := e2
  rw [e1] at m1 ⊢
  rw [e2] at m2 ⊢
  clear e1 e2
  unfold maxLen at m1 m2
  by_cases q1 : 1048576 < (n1 : Int)
  · go_enter Try.func3, Try.ntmps3
    go_wp2
    go_ret
    exact ⟨rfl, Below.refl _ _⟩
  by_cases q2 : 1048576 < (n2 : Int)
  · go_enter Try.func3, Try.ntmps3
    go_wp2
    go_ret
    exact ⟨rfl, Below.refl _ _⟩
  have b1 : n1 ≤ 1048576 := by omega
  have b2 : n2 ≤ 1048576 := by omega
  go_enter Try.func3, Try.ntmps3
  go_wp2_with fail
  refine (at_n H1.out L1 b1 0 254 (by omega) (by omega) (by omega)).mono ?_
  rintro e w1 ⟨r1, rfl, r10, r11, k1⟩
  go_wp2_with fail
  refine (at_n (H1.out.below k1) L1 b1 1 5000 (by omega) (by omega) (by omega)).mono ?_
  rintro e w2 ⟨r2, rfl, r20, r21, k2⟩
  have B2 := below_step k1 (Nat.le_refl _) k2
  clear k1 k2
  obtain ⟨page, hpage⟩ : ∃ p, 2 + r1 = p := ⟨_, rfl⟩
  obtain ⟨epoch, hepoch⟩ : ∃ p, 1 + r2 = p := ⟨_, rfl⟩
  have p0 : 2 ≤ page := by omega
  have p1 : page ≤ 255 := by omega
  have e0 : 1 ≤ epoch := by omega
  have e1 : epoch ≤ 5000 := by omega
  go_wp2_with fail
  clear hpage hepoch r10 r11 r20 r21
  refine (at_n (H1.out.below B2) L1 b1 2 254 (by omega) (by omega) (by omega)).mono ?_
  rintro e w3 ⟨r3, rfl, r30, r31, k3⟩
  have B3 := below_step B2 (Nat.le_refl _) k3
  have A3 : Below w.heap.size w (w3.alloc (.cells #[.int .i64 0, .int .i64 (2 + r3)] 3)) := B3.alloc B3.size _
  have HC : Hid (∀ k, k < 2 → (w3.alloc (.cells #[.int .i64 0, .int .i64 (2 + r3)] 3)).cell? ⟨w3.heap.size, k, none⟩ = some (.int .i64 (pairN r3 k))) := fun k hk => by
    rw [slab_cell (heap_new' _ _ _ rfl)]
    have : k = 0 ∨ k = 1 := by omega
    rcases this with rfl | rfl <;> rfl
  clear k3 B2
  go_wp2_with fail
  refine (at_n (H1.out.below A3) L1 b1 3 2 (by omega) (by omega) (by omega)).mono ?_
  rintro e w4 ⟨r4, rfl, r40, r41, k4⟩
  have B4 := below_step A3 (Nat.le_refl _) k4
  obtain ⟨k, rfl⟩ := Int.eq_ofNat_of_zero_le r40
  have hk2 : (k : Int) < 2 := by omega
  have hc4 := (k4.cell (p := ⟨w3.heap.size, k, none⟩) (by simp)).trans (HC.out k (by omega))
  obtain ⟨next, hnext⟩ : ∃ p, pairN r3 k = p := ⟨_, rfl⟩
  have hx : next = 0 ∨ (2 ≤ next ∧ next ≤ 255) := by
    rw [← hnext]; unfold pairN
    split
    · exact .inl rfl
    · exact .inr ⟨by omega, by omega⟩
  have HXn : Hid (next = 0 ∨ (2 ≤ next ∧ next ≤ 255)) := hx
  rw [hnext] at hc4
  clear hx hnext k4 HC A3 B3
  go_wp2_with fail
  clear hc4
  refine (blobOf_n (H1.out.below B4) L1 b1).mono ?_
  rintro e w5 ⟨t, rfl, ht, k5⟩
  have B5 := below_step B4 (Nat.le_refl _) k5
  clear k5 B4
  go_wp2_with fail
  obtain ⟨s, hs⟩ : ∃ s, t.extract 0 (min (t.size : Int) 27).toNat = s := ⟨_, rfl⟩
  have hs27 : s.size ≤ 27 := by rw [← hs, ByteArray.size_extract]; omega
  rw [hs]
  clear hs ht
  obtain ⟨T, hT⟩ : ∃ T, tx (pageL page next epoch s.data.toList) = T := ⟨_, rfl⟩
  have HT : Hid (tx (pageL page next epoch s.data.toList) = T) := hT
  have HS27 : Hid (s.size ≤ 27) := hs27
  have HTz : T.size = 32 := by rw [← hT]; exact (tx_size _).trans (pageL_len _ _ _ _ hs27)
  have E1 : Hid (pageR page next epoch s = (T, 0)) := by show _ = _; rw [pageR_ok p0 p1 HXn.out e0 e1 hs27, hT]
  obtain ⟨X, hX⟩ : ∃ X, T.extract 1 28 = X := ⟨_, rfl⟩
  have E2 : Hid (readV page epoch T = T3 next X 0) := by show _ = _; rw [← hT, readV_right p0 p1 HXn.out e0 e1 hs27, hT, hX]
  have hXz : X.size = 27 := by rw [← hX, ByteArray.size_extract]; omega
  have hXs : X.extract 0 s.size = s := by rw [← hX, ← hT]; exact back_data hs27
  clear hT hX
  refine (implPageBytes_any page next epoch s w5 (by unfold maxLen; omega)).mono ?_
  rw [E1.out]
  rintro e w6 ⟨rfl, k6⟩
  have B6 := below_step B5 (Nat.le_refl _) k6
  clear k6 B5
  go_wp2_with fail
  refine (specPageBytes_any page next epoch s w6 (by unfold maxLen; omega)).mono ?_
  rw [E1.out]
  rintro e w7 ⟨rfl, k7⟩
  have B7 := below_step B6 (Nat.le_refl _) k7
  clear k7 B6
  go_wp2_with fail
  refine (implReadPage_any page epoch T w7 (by unfold maxLen; omega)).mono ?_
  rw [E2.out]
  rintro e w8 ⟨rfl, k8⟩
  have B8 := below_step B7 (Nat.le_refl _) k8
  clear k8 B7
  go_wp2_with fail
  clear hXz hXs
  refine (at_n (H2.out.below B8) L2 b2 0 32 (by omega) (by omega) (by omega)).mono ?_
  rintro e w9 ⟨r9, rfl, r90, r91, k9⟩
  obtain ⟨k9', rfl⟩ := Int.eq_ofNat_of_zero_le r90
  have B9 := below_step B8 (Nat.le_refl _) k9
  clear k9 B8
  obtain ⟨W9, c9, hcv9, kc9, ho9⟩ := conv_there w9 T (by omega)
  have B9c := below_step B9 (Nat.le_refl _) kc9
  rw [HTz] at hcv9 ho9
  obtain ⟨hc9, hf9, hg9⟩ := ho9.look (k := k9') (by rw [show T.data.toList.length = 32 from HTz]; omega)
  obtain ⟨v9, hv9⟩ : ∃ v, byU T.data.toList k9' = v := ⟨_, rfl⟩
  have HV9 : Hid (byU T.data.toList k9' = v9) := hv9
  rw [hv9] at hc9
  have HR9 : Hid (ReadL W9 a2 l2) := H2.out.below B9c
  have HO9 : Hid (OwnL W9 w9.heap.size (.slice (some ⟨w9.heap.size, 0, none⟩) 32 c9) T.data.toList) := ho9
  have hk9 : (k9' : Int) < 32 := by omega
  clear hv9 ho9 kc9
  go_wp2_with fail
  clear hcv9
  go_region_with (go_at_call 9; refine (at_n (HR9.out.below (Below.refl _ _).drew) L2 b2 1 255 (by omega) (by omega) (by omega)).mono ?_; rintro e wA ⟨rA, rfl, rA0, rA1, kA⟩; have hcA : wA.cell? ⟨w9.heap.size, k9', none⟩ = some (.int .u8 v9) := (kA.cell (p := ⟨w9.heap.size, k9', none⟩) hg9).trans hc9; have hfA : wA.frozen? ⟨w9.heap.size, k9', none⟩ = false := (kA.frozen (p := ⟨w9.heap.size, k9', none⟩) hg9).trans hf9)
  all_goals
    have kB : Below W9.heap.size W9 wA := (Below.refl W9.heap.size W9).drew.trans kA
    obtain ⟨x, hx, hxne⟩ := xor_byte (T.data.toList.getD k9' 0) rA rA0 rA1
    have hw1 : bits .xor .u8 v9 (IntKind.u8.wrap (IntKind.i64.wrap (1 + rA))) = (x.toNat : Int) := by
      rw [wrap_small (1 + rA) (by omega) (by omega), ← HV9.out]
      exact hx
    rw [hw1]
    have HO : Hid (OwnL (wA.setCell ⟨w9.heap.size, k9', none⟩ (.int .u8 (x.toNat : Int))) w9.heap.size (.slice (some ⟨w9.heap.size, 0, none⟩) 32 c9) (T.data.toList.set k9' x)) := (HO9.out.below kB).put (by rw [show T.data.toList.length = 32 from HTz]; omega) x
    have BS : Below w.heap.size w (wA.setCell ⟨w9.heap.size, k9', none⟩ (.int .u8 (x.toNat : Int))) := (below_step B9c (Nat.le_refl _) kB).setCell (p := ⟨w9.heap.size, k9', none⟩) B9.size _
    have HTL : Hid (T.data.toList = pageL page next epoch s.data.toList) := by show _ = _; rw [← HT.out]; rfl
    generalize wA.setCell ⟨w9.heap.size, k9', none⟩ (.int .u8 (x.toNat : Int)) = W10 at *
    clear hcA hfA hw1 hx kA kB hc9 hf9 hg9 HO9 HR9
    obtain ⟨g10, n10, cap10, e10, HN10, _, HR10⟩ := HO.out.open
    cases e10
    have hcv10 := conv_n W10 _ 0 c9 _ _ HR10.out HN10
    obtain ⟨T', hT'⟩ : ∃ T', tx (T.data.toList.set k9' x) = T' := ⟨_, rfl⟩
    have HT'z : T'.size = 32 := by rw [← hT', tx_size, List.length_set]; exact HTz
    have E3 : Hid (readV page epoch T' = T3 0 ⟨#[]⟩ 8) := by
      show _ = _
      refine readV_bad p0 p1 e0 (by omega) HT'z ?_
      rw [← hT', HTL.out]
      exact page_changed _ _ _ _ HS27.out k9' (by omega) x (by rw [← HTL.out]; exact hxne)
    have E4 : Hid (readV page (epoch + 1) T = T3 0 ⟨#[]⟩ 8) := by
      show _ = _
      refine readV_bad p0 p1 (by omega) (by omega) HTz ?_
      rw [← HT.out]
      exact page_next _ _ _ _ HS27.out (by omega) (by omega)
    rw [hT'] at hcv10
    clear hT' HR10 HN10 HO
    go_wp2_with fail
    refine (implReadPage_any page epoch T' W10 (by unfold maxLen; omega)).mono ?_
    rw [E3.out]
    rintro e w11 ⟨rfl, k11⟩
    have B11 := below_step BS (Nat.le_refl _) k11
    clear k11 BS hcv10
    go_wp2_with fail
    refine (implReadPage_any page (epoch + 1) T w11 (by unfold maxLen; omega)).mono ?_
    rw [E4.out]
    rintro e w12 ⟨rfl, k12⟩
    have B12 := below_step B11 (Nat.le_refl _) k12
    clear k12 B11
    go_wp2_with fail
    refine (at_n (H2.out.below B12) L2 b2 2 200 (by omega) (by omega) (by omega)).mono ?_
    rintro e w13 ⟨r13, rfl, r130, r131, k13⟩
    have B13 := below_step B12 (Nat.le_refl _) k13
    clear k13 B12
    go_wp2_with fail
    refine (at_n (H2.out.below B13) L2 b2 3 2999 (by omega) (by omega) (by omega)).mono ?_
    rintro e w14 ⟨r14, rfl, r140, r141, k14⟩
    have B14 := below_step B13 (Nat.le_refl _) k14
    clear k14 B13
    obtain ⟨F, hF⟩ : ∃ F, 2 + r13 = F := ⟨_, rfl⟩
    obtain ⟨L, hL⟩ : ∃ L, 1 + r14 = L := ⟨_, rfl⟩
    have F0 : 2 ≤ F := by omega
    have F1 : F ≤ 255 := by omega
    have LL0 : 1 ≤ L := by omega
    have LL1 : L ≤ 3000 := by omega
    have A14 : Below w14.heap.size w14 (w14.alloc (.cells #[.int .i64 epoch, .int .i64 F, .int .i64 L] 31)) := (Below.refl _ _).alloc (Nat.le_refl _) _
    have B14' : Below w.heap.size w (w14.alloc (.cells #[.int .i64 epoch, .int .i64 F, .int .i64 L] 31)) := below_step B14 (Nat.le_refl _) A14
    have X14 : Hid ((w14.alloc (.cells #[.int .i64 epoch, .int .i64 F, .int .i64 L] 31)).heap[w14.heap.size]? = some (.cells #[.int .i64 epoch, .int .i64 F, .int .i64 L] 31 (0, 0))) := heap_new' _ _ _ rfl
    obtain ⟨U, hU⟩ : ∃ U, tx (metaL epoch F L) = U := ⟨_, rfl⟩
    have HU : Hid (tx (metaL epoch F L) = U) := hU
    have HUz : U.size = 32 := by rw [← hU, tx_size]; exact metaL_len _ _ _
    have E5 : Hid (metaR epoch F L = (U, 0)) := by show _ = _; rw [metaR_ok e0 e1 F0 F1 LL0 LL1, hU]
    have E6 : Hid (rmV U = T2 epoch F L 0) := by show _ = _; rw [← hU, rmV_right e0 e1 F0 F1 LL0 LL1]
    go_wp2_with fail
    clear hF hL r130 r131 r140 r141 hU A14 B14
    refine (implMetaBytes_any epoch F L _).mono ?_
    rw [E5.out]
    rintro e w15 ⟨rfl, k15⟩
    have B15 := below_step B14' (Nat.le_refl _) k15
    have X15 : Hid (w15.heap[w14.heap.size]? = some (.cells #[.int .i64 epoch, .int .i64 F, .int .i64 L] 31 (0, 0))) := (k15.block w14.heap.size (by simp)).trans X14.out
    clear k15 B14' X14
    go_wp2_with fail
    refine (implReadMeta_any U w15 (by unfold maxLen; omega)).mono ?_
    rw [E6.out]
    rintro e w16 ⟨rfl, k16⟩
    have B16 := below_step B15 (Nat.le_refl _) k16
    have X16 := (k16.block w14.heap.size (slab_lt X15.out)).trans X15.out
    have s16 : w14.heap.size < w16.heap.size := slab_lt X16
    have A16 : Below w16.heap.size w16 (w16.alloc (.cells #[.int .i64 epoch, .int .i64 F, .int .i64 L] 31)) := (Below.refl _ _).alloc (Nat.le_refl _) _
    have B16' : Below w.heap.size w (w16.alloc (.cells #[.int .i64 epoch, .int .i64 F, .int .i64 L] 31)) := below_step B16 (Nat.le_refl _) A16
    have Y16 : (w16.alloc (.cells #[.int .i64 epoch, .int .i64 F, .int .i64 L] 31)).heap[w14.heap.size]? = some (.cells #[.int .i64 epoch, .int .i64 F, .int .i64 L] 31 (0, 0)) := (heap_old _ _ _ s16).trans X16
    have Z16 : (w16.alloc (.cells #[.int .i64 epoch, .int .i64 F, .int .i64 L] 31)).heap[w16.heap.size]? = some (.cells #[.int .i64 epoch, .int .i64 F, .int .i64 L] 31 (0, 0)) := heap_new' _ _ _ rfl
    obtain ⟨W17, c17, hcv17, kc17, ho17⟩ := conv_there (w16.alloc (.cells #[.int .i64 epoch, .int .i64 F, .int .i64 L] 31)) U (by omega)
    have B17 := below_step B16' (Nat.le_refl _) kc17
    have Y17 : Hid (W17.heap[w14.heap.size]? = some (.cells #[.int .i64 epoch, .int .i64 F, .int .i64 L] 31 (0, 0))) := (kc17.block w14.heap.size (slab_lt Y16)).trans Y16
    have Z17 : Hid (W17.heap[w16.heap.size]? = some (.cells #[.int .i64 epoch, .int .i64 F, .int .i64 L] 31 (0, 0))) := (kc17.block w16.heap.size (slab_lt Z16)).trans Z16
    have g17e : (w16.alloc (.cells #[.int .i64 epoch, .int .i64 F, .int .i64 L] 31)).heap.size = w16.heap.size + 1 := by simp
    rw [HUz, g17e] at hcv17
    rw [HUz, g17e] at ho17
    obtain ⟨hc17, hf17, hg17⟩ := ho17.look (k := k9') (by rw [show U.data.toList.length = 32 from HUz]; omega)
    obtain ⟨v17, hv17⟩ : ∃ v, byU U.data.toList k9' = v := ⟨_, rfl⟩
    have HV17 : Hid (byU U.data.toList k9' = v17) := hv17
    rw [hv17] at hc17
    have HR17 : Hid (ReadL W17 a2 l2) := H2.out.below B17
    have HO17 : Hid (OwnL W17 (w16.heap.size + 1) (.slice (some ⟨w16.heap.size + 1, 0, none⟩) 32 c17) U.data.toList) := ho17
    have z17 : w.heap.size ≤ w16.heap.size := B16.size
    clear hv17 ho17 kc17 k16 B15 X15 A16 B16' Y16 Z16 g17e B16 X16
    go_wp2_with fail
    clear hcv17
    go_region_with (go_at_call 9; refine (at_n (HR17.out.below (Below.refl _ _).drew) L2 b2 1 255 (by omega) (by omega) (by omega)).mono ?_; rintro e wC ⟨rC, rfl, rC0, rC1, kC⟩; have hcC : wC.cell? ⟨w16.heap.size + 1, k9', none⟩ = some (.int .u8 v17) := (kC.cell (p := ⟨w16.heap.size + 1, k9', none⟩) hg17).trans hc17; have hfC : wC.frozen? ⟨w16.heap.size + 1, k9', none⟩ = false := (kC.frozen (p := ⟨w16.heap.size + 1, k9', none⟩) hg17).trans hf17)
    all_goals
      have kD : Below W17.heap.size W17 wC := (Below.refl W17.heap.size W17).drew.trans kC
      obtain ⟨y, hy, hyne⟩ := xor_byte (U.data.toList.getD k9' 0) rC rC0 rC1
      have hw2 : bits .xor .u8 v17 (IntKind.u8.wrap (IntKind.i64.wrap (1 + rC))) = (y.toNat : Int) := by
        rw [wrap_small (1 + rC) (by omega) (by omega), ← HV17.out]
        exact hy
      rw [hw2]
      have HP : Hid (OwnL (wC.setCell ⟨w16.heap.size + 1, k9', none⟩ (.int .u8 (y.toNat : Int))) (w16.heap.size + 1) (.slice (some ⟨w16.heap.size + 1, 0, none⟩) 32 c17) (U.data.toList.set k9' y)) := (HO17.out.below kD).put (by rw [show U.data.toList.length = 32 from HUz]; omega) y
      have BS2 : Below w.heap.size w (wC.setCell ⟨w16.heap.size + 1, k9', none⟩ (.int .u8 (y.toNat : Int))) := (below_step B17 (Nat.le_refl _) kD).setCell (p := ⟨w16.heap.size + 1, k9', none⟩) (Nat.le_trans z17 (Nat.le_succ _)) _
      have HUL : Hid (U.data.toList = metaL epoch F L) := by show _ = _; rw [← HU.out]; rfl
      have Y18 : Hid ((wC.setCell ⟨w16.heap.size + 1, k9', none⟩ (.int .u8 (y.toNat : Int))).heap[w14.heap.size]? = some (.cells #[.int .i64 epoch, .int .i64 F, .int .i64 L] 31 (0, 0))) := (set_oth _ (show w16.heap.size + 1 ≠ w14.heap.size by omega)).trans ((kD.block w14.heap.size (slab_lt Y17.out)).trans Y17.out)
      have Z18 : Hid ((wC.setCell ⟨w16.heap.size + 1, k9', none⟩ (.int .u8 (y.toNat : Int))).heap[w16.heap.size]? = some (.cells #[.int .i64 epoch, .int .i64 F, .int .i64 L] 31 (0, 0))) := (set_oth _ (show w16.heap.size + 1 ≠ w16.heap.size by omega)).trans ((kD.block w16.heap.size (slab_lt Z17.out)).trans Z17.out)
      generalize wC.setCell ⟨w16.heap.size + 1, k9', none⟩ (.int .u8 (y.toNat : Int)) = W18 at *
      clear hcC hfC hw2 hy kC kD hc17 hf17 hg17 HO17 HR17 Y17 Z17 B17
      obtain ⟨g18, n18, cap18, e18, HN18, _, HR18⟩ := HP.out.open
      cases e18
      have hcv18 := conv_n W18 _ 0 c17 _ _ HR18.out HN18
      obtain ⟨U', hU'⟩ : ∃ U', tx (U.data.toList.set k9' y) = U' := ⟨_, rfl⟩
      have HU'z : U'.size = 32 := by rw [← hU', tx_size, List.length_set]; exact HUz
      have E7 : Hid (rmV U' = T2 0 0 0 3) := by
        show _ = _
        refine rmV_bad HU'z ?_
        rw [← hU', HUL.out]
        exact meta_wrong _ _ _ k9' (by omega) y (by rw [← HUL.out]; exact hyne)
      rw [hU'] at hcv18
      clear hU' HR18 HN18 HP
      go_wp2_with fail
      refine (implReadMeta_any U' W18 (by unfold maxLen; omega)).mono ?_
      rw [E7.out]
      rintro e w19 ⟨rfl, k19⟩
      have B19 := below_step BS2 (Nat.le_refl _) k19
      have Y19 := (k19.block w14.heap.size (slab_lt Y18.out)).trans Y18.out
      have Z19 := (k19.block w16.heap.size (slab_lt Z18.out)).trans Z18.out
      have s19 : w16.heap.size < w19.heap.size := slab_lt Z19
      have B20 : Below w.heap.size w (w19.alloc (.cells #[.int .i64 0, .int .i64 0, .int .i64 0] 31)) := B19.alloc B19.size _
      have hy0 : w19.cell? ⟨w14.heap.size, 0, none⟩ = some (.int .i64 epoch) := slab_cell Y19
      have hy1 : w19.cell? ⟨w14.heap.size, 1, none⟩ = some (.int .i64 F) := slab_cell Y19
      have hy2 : w19.cell? ⟨w14.heap.size, 2, none⟩ = some (.int .i64 L) := slab_cell Y19
      have hz0 : w19.cell? ⟨w16.heap.size, 0, none⟩ = some (.int .i64 epoch) := slab_cell Z19
      have hz1 : w19.cell? ⟨w16.heap.size, 1, none⟩ = some (.int .i64 F) := slab_cell Z19
      have hz2 : w19.cell? ⟨w16.heap.size, 2, none⟩ = some (.int .i64 L) := slab_cell Z19
      have s19' : w14.heap.size < w19.heap.size := by omega
      have n19 : w19.heap.size ≠ w14.heap.size := by omega
      have n19' : w19.heap.size ≠ w16.heap.size := by omega
      obtain ⟨W21, c21, hcv21, kc21, ho21⟩ := conv_there (w19.alloc (.cells #[.int .i64 0, .int .i64 0, .int .i64 0] 31)) T (by omega)
      have B21 := below_step B20 (Nat.le_refl _) kc21
      obtain ⟨g21, n21, cap21, e21, HN21, _, HR21⟩ := ho21.open
      rw [e21] at hcv21
      have hn21 : Hid (n21 ≤ 65536) := by show _ ≤ _; rw [← HN21.out]; show T.size ≤ _; omega
      clear k19 Y19 Z19 Y18 Z18 BS2 B19 B20 kc21 ho21 hcv18 e21
      go_wp2_with fail
      refine (implSum_n _ _ _ _ W21 HR21.out HN21 hn21.out).mono ?_
      rintro e w22 ⟨rfl, k22⟩
      have B22 := below_step B21 (Nat.le_refl _) k22
      obtain ⟨W23, c23, hcv23, kc23, ho23⟩ := conv_there w22 T (by omega)
      have B23 := below_step B22 (Nat.le_refl _) kc23
      obtain ⟨g23, n23, cap23, e23, HN23, _, HR23⟩ := ho23.open
      rw [e23] at hcv23
      have hn23 : Hid (n23 ≤ 65536) := by show _ ≤ _; rw [← HN23.out]; show T.size ≤ _; omega
      clear hcv21 k22 B21 HR21 HN21 hn21 kc23 ho23 B22 e23 hy0 hy1 hy2 hz0 hz1 hz2
      obtain ⟨S, hS⟩ : ∃ S, sumL T.data.toList = S := ⟨_, rfl⟩
      have HS : Hid (sumL T.data.toList = S) := hS
      rw [hS]
      clear hS
      go_wp2_with fail
      refine (specPSum_n _ _ _ _ W23 HR23.out HN23 hn23.out).mono ?_
      rw [HS.out]
      rintro e w24 ⟨rfl, hq⟩
      obtain rfl := hq.symm
      go_wp2
      go_ret
      exact ⟨rfl, B23⟩
end Go.Proofs.Ytbnnplelbbcanaa
