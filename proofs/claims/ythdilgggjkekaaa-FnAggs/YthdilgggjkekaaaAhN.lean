/- The law FnAggs, walked (stage 12). -/
import Derived.Test.YthdilgggjkekaaaAhM
import Derived.Test.YthdilgggjkekaaaAhQ
namespace Go.Proofs.Ythdilgggjkekaaa
open Go.RowKit

set_option maxRecDepth 100000 in
set_option maxHeartbeats 16000000 in
theorem lawAggs (a0 a1 : Option Addr) (len0 cap0 len1 cap1 : Nat) (w : World) (h0 : R.Code w a0 len0) (h1 : R.Code w a1 len1) (m0 : len0 ≤ maxLen) (m1 : len1 ≤ maxLen) :
    Calls Try.prog 3 #[.slice a0 len0 cap0, .slice a1 len1 cap1] w fun e w' => e = .returned (.bool true) ∧ Below w.heap.size w w' := by
  unfold maxLen at m0 m1
  by_cases l0 : 1048576 < len0
  · have l0I : (1048576 : Int) < (len0 : Int) := by omega
    clear h0 h1
    go_enter Try.func3, Try.ntmps3
    go_wp2
    go_ret
    exact ⟨rfl, Below.refl _ _⟩
  have l0I : ¬ (1048576 : Int) < (len0 : Int) := by omega
  by_cases l1 : 1048576 < len1
  · have l1I : (1048576 : Int) < (len1 : Int) := by omega
    clear h0 h1
    go_enter Try.func3, Try.ntmps3
    go_wp2
    go_ret
    exact ⟨rfl, Below.refl _ _⟩
  have l1I : ¬ (1048576 : Int) < (len1 : Int) := by omega
  have R1 := R.rowsOf_any (cap := cap0) h0 (by omega)
  have H1 : Hid (R.Code w a1 len1) := h1
  have HL1 : Hid (len1 ≤ 1048576) := by show _ ≤ _; omega
  clear h0 h1 m0 m1 l0 l1
  go_enter Try.func3, Try.ntmps3
  go_wp2_with fail
  refine R1.mono ?_
  rintro e w1 ⟨v, rs, nw, rfl, hbl, hrl, ⟨hn1, hn3⟩, hg, b1⟩
  obtain ⟨ar, cr, rfl, hrow⟩ := rows_read hbl hg hn3 hrl
  have HG : Hid (R.GoodR nw rs ∧ 1 ≤ nw) := ⟨hg, hn1⟩
  have HROW : Hid (R.RowR w1 ar rs) := hrow
  have HB1 : Hid (Below w.heap.size w w1) := b1
  obtain ⟨m, hm⟩ : ∃ m, rs.length = m := ⟨_, rfl⟩
  have HM : Hid (rs.length = m) := hm
  have hrl' : m ≤ 7 := by rw [← hm]; exact hrl
  rw [show List.length rs = m from hm]
  have hnw : (0 : Int) < (nw : Int) := by omega
  have HS : Hid (Lp w1 _ _ _ _ []) := Lp.start w1
  clear R1 hbl hrl hn1 hn3 hg hrow b1 hm
  go_wp2
  go_loopw [6, 7, 8] (fun x y i wr => ∃ (q : Nat) (os : List (Option Int)), q ≤ m ∧ i = .int .i64 q ∧ os.length = q ∧ Hid (Lp w1 wr w1.heap.size x y os)) (fun _ _ i _ => m - (intOf i).toNat)
  case atStart => exact ⟨0, [], by omega, rfl, rfl, HS⟩
  case round =>
    obtain ⟨q, os, hq, rfl, hosl, HX⟩ := hrel
    clear HS
    by_cases hqm : q < m
    · obtain ⟨b, off, g, o, c, k, n, t, rfl, d0, d1, d2, d3, hok⟩ := rows_first (HROW.out.below (by exact HX.out.2.2.2.2)) HG.out.1 HG.out.2 q (by rw [HM.out]; exact hqm)
      have hqI : (q : Int) < (m : Int) := by omega
      by_cases hk2 : k = 2
      · subst hk2
        by_cases hb1 : 1000000 < n
        · clear hok
          obtain ⟨v6', w2, hr6, hbx2, v7', w3, hr7, HX'⟩ := Lp.step (W := (wr.alloc (.cells #[.int .i64 0, .int .i64 0, .string noT] 27))) HX.out (none) (by omega) (by intro x hx; simp [vals] at hx) HX.out.2.2.2.2.size rfl ((Below.refl _ _).alloc (Nat.le_refl _) _) (heap_alloc_new wr _)
          have HX' : Hid (Lp w1 w3 w1.heap.size v6' v7' (os ++ [none])) := HX'
          simp only [ov] at hr6 hr7 hbx2
          have eW : (wr.alloc (.cells #[.int .i64 0, .int .i64 0, .string noT] 27)).heap.size = wr.heap.size + 1 := by simp
          rw [eW] at hr6
          clear eW
          have hbW : BoxV (wr.alloc (.cells #[.int .i64 0, .int .i64 0, .string noT] 27)) wr.heap.size 0 0 noT := heap_alloc_new wr _
          obtain ⟨p0, p1, p2, _, _, _⟩ := box_facts hbW
          obtain ⟨s0, s1, s2, _, _, _⟩ := box_facts hbx2
          clear HX hbW hbx2
          go_wp2_with (at_builtin; first | refine Lib.wpList_append_run _ rfl _ _ _ _ rfl _ _ rfl rfl _ _ hr6 ?_ | refine Lib.wpList_append_run _ rfl _ _ _ _ rfl _ _ rfl rfl _ _ hr7 ?_)
          go_roundw
          case rel => exact ⟨q + 1, os ++ [none], by omega, by go_num, by simp [hosl], HX'⟩
          case measure => simp [intOf]; omega

        · by_cases hb2 : n < -1000000
          · clear hok
            obtain ⟨v6', w2, hr6, hbx2, v7', w3, hr7, HX'⟩ := Lp.step (W := (wr.alloc (.cells #[.int .i64 0, .int .i64 0, .string noT] 27))) HX.out (none) (by omega) (by intro x hx; simp [vals] at hx) HX.out.2.2.2.2.size rfl ((Below.refl _ _).alloc (Nat.le_refl _) _) (heap_alloc_new wr _)
            have HX' : Hid (Lp w1 w3 w1.heap.size v6' v7' (os ++ [none])) := HX'
            simp only [ov] at hr6 hr7 hbx2
            have eW : (wr.alloc (.cells #[.int .i64 0, .int .i64 0, .string noT] 27)).heap.size = wr.heap.size + 1 := by simp
            rw [eW] at hr6
            clear eW
            have hbW : BoxV (wr.alloc (.cells #[.int .i64 0, .int .i64 0, .string noT] 27)) wr.heap.size 0 0 noT := heap_alloc_new wr _
            obtain ⟨p0, p1, p2, _, _, _⟩ := box_facts hbW
            obtain ⟨s0, s1, s2, _, _, _⟩ := box_facts hbx2
            clear HX hbW hbx2
            go_wp2_with (at_builtin; first | refine Lib.wpList_append_run _ rfl _ _ _ _ rfl _ _ rfl rfl _ _ hr6 ?_ | refine Lib.wpList_append_run _ rfl _ _ _ _ rfl _ _ rfl rfl _ _ hr7 ?_)
            go_roundw
            case rel => exact ⟨q + 1, os ++ [none], by omega, by go_num, by simp [hosl], HX'⟩
            case measure => simp [intOf]; omega

          · obtain rfl := ok_int hok
            obtain ⟨v6', w2, hr6, hbx2, v7', w3, hr7, HX'⟩ := Lp.step (W := (wr.alloc (.cells #[.int .i64 2, .int .i64 n, .string noT] 27))) HX.out (some n) (by omega) (by intro x hx; simp [vals] at hx; omega) HX.out.2.2.2.2.size rfl ((Below.refl _ _).alloc (Nat.le_refl _) _) (heap_alloc_new wr _)
            have HX' : Hid (Lp w1 w3 w1.heap.size v6' v7' (os ++ [some n])) := HX'
            simp only [ov] at hr6 hr7 hbx2
            have eW : (wr.alloc (.cells #[.int .i64 2, .int .i64 n, .string noT] 27)).heap.size = wr.heap.size + 1 := by simp
            rw [eW] at hr6
            clear eW
            have hbW : BoxV (wr.alloc (.cells #[.int .i64 2, .int .i64 n, .string noT] 27)) wr.heap.size 2 n noT := heap_alloc_new wr _
            obtain ⟨p0, p1, p2, _, _, _⟩ := box_facts hbW
            obtain ⟨s0, s1, s2, _, _, _⟩ := box_facts hbx2
            clear HX hbW hbx2
            go_wp2_with (at_builtin; first | refine Lib.wpList_append_run _ rfl _ _ _ _ rfl _ _ rfl rfl _ _ hr6 ?_ | refine Lib.wpList_append_run _ rfl _ _ _ _ rfl _ _ rfl rfl _ _ hr7 ?_)
            go_roundw
            case rel => exact ⟨q + 1, os ++ [some n], by omega, by go_num, by simp [hosl], HX'⟩
            case measure => simp [intOf]; omega

      · by_cases hk0 : k = 0
        · subst hk0
          obtain ⟨rfl, rfl⟩ := ok_null hok
          obtain ⟨v6', w2, hr6, hbx2, v7', w3, hr7, HX'⟩ := Lp.step (W := (wr.alloc (.cells #[.int .i64 0, .int .i64 0, .string noT] 27))) HX.out (none) (by omega) (by intro x hx; simp [vals] at hx) HX.out.2.2.2.2.size rfl ((Below.refl _ _).alloc (Nat.le_refl _) _) (heap_alloc_new wr _)
          have HX' : Hid (Lp w1 w3 w1.heap.size v6' v7' (os ++ [none])) := HX'
          simp only [ov] at hr6 hr7 hbx2
          have eW : (wr.alloc (.cells #[.int .i64 0, .int .i64 0, .string noT] 27)).heap.size = wr.heap.size + 1 := by simp
          rw [eW] at hr6
          clear eW
          have hbW : BoxV (wr.alloc (.cells #[.int .i64 0, .int .i64 0, .string noT] 27)) wr.heap.size 0 0 noT := heap_alloc_new wr _
          obtain ⟨p0, p1, p2, _, _, _⟩ := box_facts hbW
          obtain ⟨s0, s1, s2, _, _, _⟩ := box_facts hbx2
          clear HX hbW hbx2
          go_wp2_with (at_builtin; first | refine Lib.wpList_append_run _ rfl _ _ _ _ rfl _ _ rfl rfl _ _ hr6 ?_ | refine Lib.wpList_append_run _ rfl _ _ _ _ rfl _ _ rfl rfl _ _ hr7 ?_)
          go_roundw
          case rel => exact ⟨q + 1, os ++ [none], by omega, by go_num, by simp [hosl], HX'⟩
          case measure => simp [intOf]; omega

        · clear hok
          obtain ⟨v6', w2, hr6, hbx2, v7', w3, hr7, HX'⟩ := Lp.step (W := (wr.alloc (.cells #[.int .i64 0, .int .i64 0, .string noT] 27))) HX.out (none) (by omega) (by intro x hx; simp [vals] at hx) HX.out.2.2.2.2.size rfl ((Below.refl _ _).alloc (Nat.le_refl _) _) (heap_alloc_new wr _)
          have HX' : Hid (Lp w1 w3 w1.heap.size v6' v7' (os ++ [none])) := HX'
          simp only [ov] at hr6 hr7 hbx2
          have eW : (wr.alloc (.cells #[.int .i64 0, .int .i64 0, .string noT] 27)).heap.size = wr.heap.size + 1 := by simp
          rw [eW] at hr6
          clear eW
          have hbW : BoxV (wr.alloc (.cells #[.int .i64 0, .int .i64 0, .string noT] 27)) wr.heap.size 0 0 noT := heap_alloc_new wr _
          obtain ⟨p0, p1, p2, _, _, _⟩ := box_facts hbW
          obtain ⟨s0, s1, s2, _, _, _⟩ := box_facts hbx2
          clear HX hbW hbx2
          go_wp2_with (at_builtin; first | refine Lib.wpList_append_run _ rfl _ _ _ _ rfl _ _ rfl rfl _ _ hr6 ?_ | refine Lib.wpList_append_run _ rfl _ _ _ _ rfl _ _ rfl rfl _ _ hr7 ?_)
          go_roundw
          case rel => exact ⟨q + 1, os ++ [none], by omega, by go_num, by simp [hosl], HX'⟩
          case measure => simp [intOf]; omega

    · obtain rfl : q = m := by omega
      have hqI : ¬ (q : Int) < (q : Int) := by omega
      obtain ⟨b6, c6, e6, hc6, r6⟩ := HX.out.1.row
      obtain ⟨b7, c7, e7, hc7, r7⟩ := HX.out.2.1.row
      rw [hosl] at e6 hc6
      rw [List.length_reverse, hosl] at e7 hc7
      subst e6 e7
      obtain ⟨X1, T1⟩ := triCount (c6 := c6) (c7 := c7) r6 r7 hosl hrl' HX.out.2.2.2.1
      obtain ⟨X2, T2⟩ := triSum (c6 := c6) (c7 := c7) r6 r7 hosl hrl' HX.out.2.2.2.1
      obtain ⟨X3, T3⟩ := triMin (c6 := c6) (c7 := c7) r6 r7 hosl hrl' HX.out.2.2.2.1
      obtain ⟨X4, T4⟩ := triMax (c6 := c6) (c7 := c7) r6 r7 hosl hrl' HX.out.2.2.2.1
      have H1' : Hid (∀ W, Below wr.heap.size wr W → R.Code W a1 len1) := fun W hb => (H1.out.kept (HB1.out.trans ((HX.out.2.2.2.2).mono HB1.out.size))).kept hb
      have HR6 : Hid (RowV wr (some ⟨b6, 0, none⟩) (os.map ov)) := r6
      have HV : Hid (∀ x ∈ vals os, -1000000 ≤ x ∧ x ≤ 1000000) := HX.out.2.2.2.1
      have HOS : Hid (os.length = q) := hosl
      have HT : Hid (Tri gCount X1 wr b6 c6 b7 c7 q ∧ Tri gSum X2 wr b6 c6 b7 c7 q ∧ Tri gMin X3 wr b6 c6 b7 c7 q ∧ Tri gMax X4 wr b6 c6 b7 c7 q) := ⟨T1, T2, T3, T4⟩
      have HBW : Hid (Below w.heap.size w wr) := HB1.out.trans ((HX.out.2.2.2.2).mono HB1.out.size)
      clear T1 T2 T3 T4 r6 r7 HX HROW HG hosl hc7 H1 HB1
      obtain ⟨wq, rfl⟩ : ∃ W, W = wr := ⟨_, rfl⟩

      have HW4 : Hid (Below wq.heap.size wq (wq.alloc (.cells #[.string gCount, .string gSum, .string gMin, .string gMax] 9))) := (Below.refl _ _).alloc (Nat.le_refl _) _
      have HNB : Hid ((wq.alloc (.cells #[.string gCount, .string gSum, .string gMin, .string gMax] 9)).heap[wq.heap.size]? = some (.cells #[.string gCount, .string gSum, .string gMin, .string gMax] 9 (0, 0))) := heap_alloc_new wq _
      have HL0 : Hid (Below (wq.heap.size + 1) (wq.alloc (.cells #[.string gCount, .string gSum, .string gMin, .string gMax] 9)) (wq.alloc (.cells #[.string gCount, .string gSum, .string gMin, .string gMax] 9))) := Below.refl _ _
      have hs4 : (wq.alloc (.cells #[.string gCount, .string gSum, .string gMin, .string gMax] 9)).heap.size = wq.heap.size + 1 := by simp
      have HS4 : Hid ((wq.alloc (.cells #[.string gCount, .string gSum, .string gMin, .string gMax] 9)).heap.size = wq.heap.size + 1) := hs4
      clear hs4
      obtain ⟨w4, hw4⟩ : ∃ W, (wq.alloc (.cells #[.string gCount, .string gSum, .string gMin, .string gMax] 9)) = W := ⟨_, rfl⟩
      rw [hw4] at HW4 HNB HL0 HS4
      go_wp2
      try rw [hw4]
      clear hw4
      go_loopw [11] (fun i wl => ∃ j : Nat, j ≤ 4 ∧ i = .int .i64 j ∧ Hid (Below (wq.heap.size + 1) w4 wl)) (fun i _ => 4 - (intOf i).toNat)
      case atStart => exact ⟨0, by omega, rfl, HL0⟩
      case round =>
        obtain ⟨j, hj, rfl, HX⟩ := hrel
        clear HL0
        by_cases hj4 : j < 4
        · have hS : j = 0 ∨ j = 1 ∨ j = 2 ∨ j = 3 := by omega
          rcases hS with rfl | rfl | rfl | rfl
          · have hC : ∀ W, Below (wq.heap.size + 1) w4 W → Calls Try.prog 5 #[.string gCount, .slice (some ⟨b6, 0, none⟩) q c6] W (RX X1 W) ∧ Calls Try.prog 5 #[.string gCount, .slice (some ⟨b7, 0, none⟩) q c7] W (RX X1 W) ∧ Calls Try.prog 6 #[.string gCount, .slice (some ⟨b6, 0, none⟩) q c6] W (RX X1 W) := fun W hb => HT.out.1 W (HW4.out.trans (hb.mono (Nat.le_succ _)))
            have HC : Hid (∀ W, Below (wq.heap.size + 1) w4 W → Calls Try.prog 5 #[.string gCount, .slice (some ⟨b6, 0, none⟩) q c6] W (RX X1 W) ∧ Calls Try.prog 5 #[.string gCount, .slice (some ⟨b7, 0, none⟩) q c7] W (RX X1 W) ∧ Calls Try.prog 6 #[.string gCount, .slice (some ⟨b6, 0, none⟩) q c6] W (RX X1 W)) := hC
            have HN : Hid (∀ W, Below (wq.heap.size + 1) w4 W → W.cell? ⟨wq.heap.size, 0, none⟩ = some (.string gCount)) := fun W hb => slab_cell ((hb.block _ (Nat.lt_succ_self _)).trans HNB.out)
            have p0 := HN.out _ HX.out
            clear hC
            have hz : wq.heap.size + 1 ≤ wr.heap.size := by have := HX.out.size; have := HS4.out; omega
            obtain ⟨xk, xn, xt⟩ := X1
            go_wp2_with fail
            refine (HC.out _ HX.out).1.mono ?_
            rintro e w5 ⟨rfl, b5⟩
            have D6 : Hid (Below (wq.heap.size + 1) w4 (w5.alloc (.cells #[.int .i64 xk, .int .i64 xn, .string xt] 27)) ∧ BoxV (w5.alloc (.cells #[.int .i64 xk, .int .i64 xn, .string xt] 27)) w5.heap.size xk xn xt) := ⟨(HX.out.trans (b5.mono hz)).alloc (Nat.le_trans hz b5.size) _, heap_alloc_new w5 _⟩
            have z5 : wq.heap.size + 1 ≤ w5.heap.size := Nat.le_trans hz b5.size
            have p1 := HN.out _ D6.out.1
            clear b5 p0
            go_wp2_with fail
            refine (HC.out _ D6.out.1).2.1.mono ?_
            rintro e w6 ⟨rfl, b6'⟩
            have h65 : w5.heap.size < w6.heap.size := Nat.lt_of_lt_of_le (lt_blk D6.out.2) b6'.size
            have zA : (w5.alloc (.cells #[.int .i64 xk, .int .i64 xn, .string xt] 27)).heap.size = w5.heap.size + 1 := by simp
            have D7 : Hid (Below (wq.heap.size + 1) w4 (w6.alloc (.cells #[.int .i64 xk, .int .i64 xn, .string xt] 27)) ∧ BoxV (w6.alloc (.cells #[.int .i64 xk, .int .i64 xn, .string xt] 27)) w5.heap.size xk xn xt ∧ BoxV (w6.alloc (.cells #[.int .i64 xk, .int .i64 xn, .string xt] 27)) w6.heap.size xk xn xt) := ⟨(D6.out.1.trans (b6'.mono (by omega))).alloc (by omega) _, (((Below.refl w6.heap.size w6).alloc (Nat.le_refl _) _).block _ h65).trans ((b6'.block _ (lt_blk D6.out.2)).trans D6.out.2), heap_alloc_new w6 _⟩
            have p2 := HN.out _ D7.out.1
            clear b6' p1 D6 zA
            go_wp2_with fail
            refine (HC.out _ D7.out.1).2.2.mono ?_
            rintro e w7 ⟨rfl, b7'⟩
            have h76 : w6.heap.size < w7.heap.size := Nat.lt_of_lt_of_le (lt_blk D7.out.2.2) b7'.size
            have zB : (w6.alloc (.cells #[.int .i64 xk, .int .i64 xn, .string xt] 27)).heap.size = w6.heap.size + 1 := by simp
            have D8 : Hid (Below (wq.heap.size + 1) w4 (w7.alloc (.cells #[.int .i64 xk, .int .i64 xn, .string xt] 27))) := (D7.out.1.trans (b7'.mono (by omega))).alloc (by omega) _
            have x5 : BoxV (w7.alloc (.cells #[.int .i64 xk, .int .i64 xn, .string xt] 27)) w5.heap.size xk xn xt := (((Below.refl w7.heap.size w7).alloc (Nat.le_refl _) _).block _ (by omega)).trans ((b7'.block _ (lt_blk D7.out.2.1)).trans D7.out.2.1)
            have x6 : BoxV (w7.alloc (.cells #[.int .i64 xk, .int .i64 xn, .string xt] 27)) w6.heap.size xk xn xt := (((Below.refl w7.heap.size w7).alloc (Nat.le_refl _) _).block _ (by omega)).trans ((b7'.block _ (lt_blk D7.out.2.2)).trans D7.out.2.2)
            have x7 : BoxV (w7.alloc (.cells #[.int .i64 xk, .int .i64 xn, .string xt] 27)) w7.heap.size xk xn xt := heap_alloc_new w7 _
            obtain ⟨a50, a51, a52, _, _, _⟩ := box_facts x5
            obtain ⟨a60, a61, a62, _, _, _⟩ := box_facts x6
            obtain ⟨a70, a71, a72, _, _, _⟩ := box_facts x7
            clear b7' p2 D7 zB x5 x6 x7 HC HN
            go_wp2
            go_roundw
            case rel => exact ⟨1, by omega, by go_num, D8⟩
            case measure => simp [intOf]
          · have hC : ∀ W, Below (wq.heap.size + 1) w4 W → Calls Try.prog 5 #[.string gSum, .slice (some ⟨b6, 0, none⟩) q c6] W (RX X2 W) ∧ Calls Try.prog 5 #[.string gSum, .slice (some ⟨b7, 0, none⟩) q c7] W (RX X2 W) ∧ Calls Try.prog 6 #[.string gSum, .slice (some ⟨b6, 0, none⟩) q c6] W (RX X2 W) := fun W hb => HT.out.2.1 W (HW4.out.trans (hb.mono (Nat.le_succ _)))
            have HC : Hid (∀ W, Below (wq.heap.size + 1) w4 W → Calls Try.prog 5 #[.string gSum, .slice (some ⟨b6, 0, none⟩) q c6] W (RX X2 W) ∧ Calls Try.prog 5 #[.string gSum, .slice (some ⟨b7, 0, none⟩) q c7] W (RX X2 W) ∧ Calls Try.prog 6 #[.string gSum, .slice (some ⟨b6, 0, none⟩) q c6] W (RX X2 W)) := hC
            have HN : Hid (∀ W, Below (wq.heap.size + 1) w4 W → W.cell? ⟨wq.heap.size, 1, none⟩ = some (.string gSum)) := fun W hb => slab_cell ((hb.block _ (Nat.lt_succ_self _)).trans HNB.out)
            have p0 := HN.out _ HX.out
            clear hC
            have hz : wq.heap.size + 1 ≤ wr.heap.size := by have := HX.out.size; have := HS4.out; omega
            obtain ⟨xk, xn, xt⟩ := X2
            go_wp2_with fail
            refine (HC.out _ HX.out).1.mono ?_
            rintro e w5 ⟨rfl, b5⟩
            have D6 : Hid (Below (wq.heap.size + 1) w4 (w5.alloc (.cells #[.int .i64 xk, .int .i64 xn, .string xt] 27)) ∧ BoxV (w5.alloc (.cells #[.int .i64 xk, .int .i64 xn, .string xt] 27)) w5.heap.size xk xn xt) := ⟨(HX.out.trans (b5.mono hz)).alloc (Nat.le_trans hz b5.size) _, heap_alloc_new w5 _⟩
            have z5 : wq.heap.size + 1 ≤ w5.heap.size := Nat.le_trans hz b5.size
            have p1 := HN.out _ D6.out.1
            clear b5 p0
            go_wp2_with fail
            refine (HC.out _ D6.out.1).2.1.mono ?_
            rintro e w6 ⟨rfl, b6'⟩
            have h65 : w5.heap.size < w6.heap.size := Nat.lt_of_lt_of_le (lt_blk D6.out.2) b6'.size
            have zA : (w5.alloc (.cells #[.int .i64 xk, .int .i64 xn, .string xt] 27)).heap.size = w5.heap.size + 1 := by simp
            have D7 : Hid (Below (wq.heap.size + 1) w4 (w6.alloc (.cells #[.int .i64 xk, .int .i64 xn, .string xt] 27)) ∧ BoxV (w6.alloc (.cells #[.int .i64 xk, .int .i64 xn, .string xt] 27)) w5.heap.size xk xn xt ∧ BoxV (w6.alloc (.cells #[.int .i64 xk, .int .i64 xn, .string xt] 27)) w6.heap.size xk xn xt) := ⟨(D6.out.1.trans (b6'.mono (by omega))).alloc (by omega) _, (((Below.refl w6.heap.size w6).alloc (Nat.le_refl _) _).block _ h65).trans ((b6'.block _ (lt_blk D6.out.2)).trans D6.out.2), heap_alloc_new w6 _⟩
            have p2 := HN.out _ D7.out.1
            clear b6' p1 D6 zA
            go_wp2_with fail
            refine (HC.out _ D7.out.1).2.2.mono ?_
            rintro e w7 ⟨rfl, b7'⟩
            have h76 : w6.heap.size < w7.heap.size := Nat.lt_of_lt_of_le (lt_blk D7.out.2.2) b7'.size
            have zB : (w6.alloc (.cells #[.int .i64 xk, .int .i64 xn, .string xt] 27)).heap.size = w6.heap.size + 1 := by simp
            have D8 : Hid (Below (wq.heap.size + 1) w4 (w7.alloc (.cells #[.int .i64 xk, .int .i64 xn, .string xt] 27))) := (D7.out.1.trans (b7'.mono (by omega))).alloc (by omega) _
            have x5 : BoxV (w7.alloc (.cells #[.int .i64 xk, .int .i64 xn, .string xt] 27)) w5.heap.size xk xn xt := (((Below.refl w7.heap.size w7).alloc (Nat.le_refl _) _).block _ (by omega)).trans ((b7'.block _ (lt_blk D7.out.2.1)).trans D7.out.2.1)
            have x6 : BoxV (w7.alloc (.cells #[.int .i64 xk, .int .i64 xn, .string xt] 27)) w6.heap.size xk xn xt := (((Below.refl w7.heap.size w7).alloc (Nat.le_refl _) _).block _ (by omega)).trans ((b7'.block _ (lt_blk D7.out.2.2)).trans D7.out.2.2)
            have x7 : BoxV (w7.alloc (.cells #[.int .i64 xk, .int .i64 xn, .string xt] 27)) w7.heap.size xk xn xt := heap_alloc_new w7 _
            obtain ⟨a50, a51, a52, _, _, _⟩ := box_facts x5
            obtain ⟨a60, a61, a62, _, _, _⟩ := box_facts x6
            obtain ⟨a70, a71, a72, _, _, _⟩ := box_facts x7
            clear b7' p2 D7 zB x5 x6 x7 HC HN
            go_wp2
            go_roundw
            case rel => exact ⟨2, by omega, by go_num, D8⟩
            case measure => simp [intOf]
          · have hC : ∀ W, Below (wq.heap.size + 1) w4 W → Calls Try.prog 5 #[.string gMin, .slice (some ⟨b6, 0, none⟩) q c6] W (RX X3 W) ∧ Calls Try.prog 5 #[.string gMin, .slice (some ⟨b7, 0, none⟩) q c7] W (RX X3 W) ∧ Calls Try.prog 6 #[.string gMin, .slice (some ⟨b6, 0, none⟩) q c6] W (RX X3 W) := fun W hb => HT.out.2.2.1 W (HW4.out.trans (hb.mono (Nat.le_succ _)))
            have HC : Hid (∀ W, Below (wq.heap.size + 1) w4 W → Calls Try.prog 5 #[.string gMin, .slice (some ⟨b6, 0, none⟩) q c6] W (RX X3 W) ∧ Calls Try.prog 5 #[.string gMin, .slice (some ⟨b7, 0, none⟩) q c7] W (RX X3 W) ∧ Calls Try.prog 6 #[.string gMin, .slice (some ⟨b6, 0, none⟩) q c6] W (RX X3 W)) := hC
            have HN : Hid (∀ W, Below (wq.heap.size + 1) w4 W → W.cell? ⟨wq.heap.size, 2, none⟩ = some (.string gMin)) := fun W hb => slab_cell ((hb.block _ (Nat.lt_succ_self _)).trans HNB.out)
            have p0 := HN.out _ HX.out
            clear hC
            have hz : wq.heap.size + 1 ≤ wr.heap.size := by have := HX.out.size; have := HS4.out; omega
            obtain ⟨xk, xn, xt⟩ := X3
            go_wp2_with fail
            refine (HC.out _ HX.out).1.mono ?_
            rintro e w5 ⟨rfl, b5⟩
            have D6 : Hid (Below (wq.heap.size + 1) w4 (w5.alloc (.cells #[.int .i64 xk, .int .i64 xn, .string xt] 27)) ∧ BoxV (w5.alloc (.cells #[.int .i64 xk, .int .i64 xn, .string xt] 27)) w5.heap.size xk xn xt) := ⟨(HX.out.trans (b5.mono hz)).alloc (Nat.le_trans hz b5.size) _, heap_alloc_new w5 _⟩
            have z5 : wq.heap.size + 1 ≤ w5.heap.size := Nat.le_trans hz b5.size
            have p1 := HN.out _ D6.out.1
            clear b5 p0
            go_wp2_with fail
            refine (HC.out _ D6.out.1).2.1.mono ?_
            rintro e w6 ⟨rfl, b6'⟩
            have h65 : w5.heap.size < w6.heap.size := Nat.lt_of_lt_of_le (lt_blk D6.out.2) b6'.size
            have zA : (w5.alloc (.cells #[.int .i64 xk, .int .i64 xn, .string xt] 27)).heap.size = w5.heap.size + 1 := by simp
            have D7 : Hid (Below (wq.heap.size + 1) w4 (w6.alloc (.cells #[.int .i64 xk, .int .i64 xn, .string xt] 27)) ∧ BoxV (w6.alloc (.cells #[.int .i64 xk, .int .i64 xn, .string xt] 27)) w5.heap.size xk xn xt ∧ BoxV (w6.alloc (.cells #[.int .i64 xk, .int .i64 xn, .string xt] 27)) w6.heap.size xk xn xt) := ⟨(D6.out.1.trans (b6'.mono (by omega))).alloc (by omega) _, (((Below.refl w6.heap.size w6).alloc (Nat.le_refl _) _).block _ h65).trans ((b6'.block _ (lt_blk D6.out.2)).trans D6.out.2), heap_alloc_new w6 _⟩
            have p2 := HN.out _ D7.out.1
            clear b6' p1 D6 zA
            go_wp2_with fail
            refine (HC.out _ D7.out.1).2.2.mono ?_
            rintro e w7 ⟨rfl, b7'⟩
            have h76 : w6.heap.size < w7.heap.size := Nat.lt_of_lt_of_le (lt_blk D7.out.2.2) b7'.size
            have zB : (w6.alloc (.cells #[.int .i64 xk, .int .i64 xn, .string xt] 27)).heap.size = w6.heap.size + 1 := by simp
            have D8 : Hid (Below (wq.heap.size + 1) w4 (w7.alloc (.cells #[.int .i64 xk, .int .i64 xn, .string xt] 27))) := (D7.out.1.trans (b7'.mono (by omega))).alloc (by omega) _
            have x5 : BoxV (w7.alloc (.cells #[.int .i64 xk, .int .i64 xn, .string xt] 27)) w5.heap.size xk xn xt := (((Below.refl w7.heap.size w7).alloc (Nat.le_refl _) _).block _ (by omega)).trans ((b7'.block _ (lt_blk D7.out.2.1)).trans D7.out.2.1)
            have x6 : BoxV (w7.alloc (.cells #[.int .i64 xk, .int .i64 xn, .string xt] 27)) w6.heap.size xk xn xt := (((Below.refl w7.heap.size w7).alloc (Nat.le_refl _) _).block _ (by omega)).trans ((b7'.block _ (lt_blk D7.out.2.2)).trans D7.out.2.2)
            have x7 : BoxV (w7.alloc (.cells #[.int .i64 xk, .int .i64 xn, .string xt] 27)) w7.heap.size xk xn xt := heap_alloc_new w7 _
            obtain ⟨a50, a51, a52, _, _, _⟩ := box_facts x5
            obtain ⟨a60, a61, a62, _, _, _⟩ := box_facts x6
            obtain ⟨a70, a71, a72, _, _, _⟩ := box_facts x7
            clear b7' p2 D7 zB x5 x6 x7 HC HN
            go_wp2
            go_roundw
            case rel => exact ⟨3, by omega, by go_num, D8⟩
            case measure => simp [intOf]
          · have hC : ∀ W, Below (wq.heap.size + 1) w4 W → Calls Try.prog 5 #[.string gMax, .slice (some ⟨b6, 0, none⟩) q c6] W (RX X4 W) ∧ Calls Try.prog 5 #[.string gMax, .slice (some ⟨b7, 0, none⟩) q c7] W (RX X4 W) ∧ Calls Try.prog 6 #[.string gMax, .slice (some ⟨b6, 0, none⟩) q c6] W (RX X4 W) := fun W hb => HT.out.2.2.2 W (HW4.out.trans (hb.mono (Nat.le_succ _)))
            have HC : Hid (∀ W, Below (wq.heap.size + 1) w4 W → Calls Try.prog 5 #[.string gMax, .slice (some ⟨b6, 0, none⟩) q c6] W (RX X4 W) ∧ Calls Try.prog 5 #[.string gMax, .slice (some ⟨b7, 0, none⟩) q c7] W (RX X4 W) ∧ Calls Try.prog 6 #[.string gMax, .slice (some ⟨b6, 0, none⟩) q c6] W (RX X4 W)) := hC
            have HN : Hid (∀ W, Below (wq.heap.size + 1) w4 W → W.cell? ⟨wq.heap.size, 3, none⟩ = some (.string gMax)) := fun W hb => slab_cell ((hb.block _ (Nat.lt_succ_self _)).trans HNB.out)
            have p0 := HN.out _ HX.out
            clear hC
            have hz : wq.heap.size + 1 ≤ wr.heap.size := by have := HX.out.size; have := HS4.out; omega
            obtain ⟨xk, xn, xt⟩ := X4
            go_wp2_with fail
            refine (HC.out _ HX.out).1.mono ?_
            rintro e w5 ⟨rfl, b5⟩
            have D6 : Hid (Below (wq.heap.size + 1) w4 (w5.alloc (.cells #[.int .i64 xk, .int .i64 xn, .string xt] 27)) ∧ BoxV (w5.alloc (.cells #[.int .i64 xk, .int .i64 xn, .string xt] 27)) w5.heap.size xk xn xt) := ⟨(HX.out.trans (b5.mono hz)).alloc (Nat.le_trans hz b5.size) _, heap_alloc_new w5 _⟩
            have z5 : wq.heap.size + 1 ≤ w5.heap.size := Nat.le_trans hz b5.size
            have p1 := HN.out _ D6.out.1
            clear b5 p0
            go_wp2_with fail
            refine (HC.out _ D6.out.1).2.1.mono ?_
            rintro e w6 ⟨rfl, b6'⟩
            have h65 : w5.heap.size < w6.heap.size := Nat.lt_of_lt_of_le (lt_blk D6.out.2) b6'.size
            have zA : (w5.alloc (.cells #[.int .i64 xk, .int .i64 xn, .string xt] 27)).heap.size = w5.heap.size + 1 := by simp
            have D7 : Hid (Below (wq.heap.size + 1) w4 (w6.alloc (.cells #[.int .i64 xk, .int .i64 xn, .string xt] 27)) ∧ BoxV (w6.alloc (.cells #[.int .i64 xk, .int .i64 xn, .string xt] 27)) w5.heap.size xk xn xt ∧ BoxV (w6.alloc (.cells #[.int .i64 xk, .int .i64 xn, .string xt] 27)) w6.heap.size xk xn xt) := ⟨(D6.out.1.trans (b6'.mono (by omega))).alloc (by omega) _, (((Below.refl w6.heap.size w6).alloc (Nat.le_refl _) _).block _ h65).trans ((b6'.block _ (lt_blk D6.out.2)).trans D6.out.2), heap_alloc_new w6 _⟩
            have p2 := HN.out _ D7.out.1
            clear b6' p1 D6 zA
            go_wp2_with fail
            refine (HC.out _ D7.out.1).2.2.mono ?_
            rintro e w7 ⟨rfl, b7'⟩
            have h76 : w6.heap.size < w7.heap.size := Nat.lt_of_lt_of_le (lt_blk D7.out.2.2) b7'.size
            have zB : (w6.alloc (.cells #[.int .i64 xk, .int .i64 xn, .string xt] 27)).heap.size = w6.heap.size + 1 := by simp
            have D8 : Hid (Below (wq.heap.size + 1) w4 (w7.alloc (.cells #[.int .i64 xk, .int .i64 xn, .string xt] 27))) := (D7.out.1.trans (b7'.mono (by omega))).alloc (by omega) _
            have x5 : BoxV (w7.alloc (.cells #[.int .i64 xk, .int .i64 xn, .string xt] 27)) w5.heap.size xk xn xt := (((Below.refl w7.heap.size w7).alloc (Nat.le_refl _) _).block _ (by omega)).trans ((b7'.block _ (lt_blk D7.out.2.1)).trans D7.out.2.1)
            have x6 : BoxV (w7.alloc (.cells #[.int .i64 xk, .int .i64 xn, .string xt] 27)) w6.heap.size xk xn xt := (((Below.refl w7.heap.size w7).alloc (Nat.le_refl _) _).block _ (by omega)).trans ((b7'.block _ (lt_blk D7.out.2.2)).trans D7.out.2.2)
            have x7 : BoxV (w7.alloc (.cells #[.int .i64 xk, .int .i64 xn, .string xt] 27)) w7.heap.size xk xn xt := heap_alloc_new w7 _
            obtain ⟨a50, a51, a52, _, _, _⟩ := box_facts x5
            obtain ⟨a60, a61, a62, _, _, _⟩ := box_facts x6
            obtain ⟨a70, a71, a72, _, _, _⟩ := box_facts x7
            clear b7' p2 D7 zB x5 x6 x7 HC HN
            go_wp2
            go_roundw
            case rel => exact ⟨4, by omega, by go_num, D8⟩
            case measure => simp [intOf]
        · obtain rfl : j = 4 := by omega
          have K0 : Hid (∀ W, Below (wq.heap.size + 1) w4 W → Below wq.heap.size wq W) := fun W hb => HW4.out.trans (hb.mono (Nat.le_succ _))
          have HK := atK (cap := cap1) (H1'.out wr (K0.out _ HX.out)) (by exact HL1.out) q hrl'
          clear HT
          go_wp2_with fail
          refine HK.mono ?_
          rintro e wk ⟨k, rfl, hk, bk⟩
          obtain ⟨n1, n2, hn1, hn2, hC⟩ := cntK (c6 := c6) HR6.out HOS.out hrl' hk hc6 HV.out
          have HC : Hid (∀ W, Below wq.heap.size wq W →
      Calls Try.prog 5 #[.string gCount, .slice (some ⟨b6, 0, none⟩) k c6] W (RX (2, (n1 : Int), noT) W) ∧
      Calls Try.prog 5 #[.string gCount, .slice (some ⟨b6, k * 3, none⟩) (q - k : Nat) (c6 - k : Nat)] W (RX (2, (n2 : Int), noT) W) ∧
      Calls Try.prog 5 #[.string gCount, .slice (some ⟨b6, 0, none⟩) q c6] W (RX (2, (n1 : Int) + (n2 : Int), noT) W) ∧
      (c6 ≤ k → Calls Try.prog 5 #[.string gCount, .slice (some ⟨b6, 0, none⟩) (q - k : Nat) 0] W (RX (2, (n2 : Int), noT) W))) := hC
          have E0 : Hid (Below wq.heap.size wq wk) := (K0.out _ HX.out).trans (bk.mono (K0.out _ HX.out).size)
          have hkc : k ≤ c6 := by omega
          clear HK hC bk HX K0 H1'
          go_wp2_with fail
          refine (HC.out _ E0.out).1.mono ?_
          rintro e w8 ⟨rfl, b8⟩
          have F0 : Hid (Below wq.heap.size wq (w8.alloc (.cells #[.int .i64 2, .int .i64 n1, .string noT] 27)) ∧ BoxV (w8.alloc (.cells #[.int .i64 2, .int .i64 n1, .string noT] 27)) w8.heap.size 2 n1 noT) := ⟨(E0.out.trans (b8.mono E0.out.size)).alloc (Nat.le_trans E0.out.size b8.size) _, heap_alloc_new w8 _⟩
          have z8 : wq.heap.size ≤ w8.heap.size := Nat.le_trans E0.out.size b8.size
          clear b8
          go_wp2_with fail
          · have hck : c6 = k := by omega
            subst hck
            refine ((HC.out _ F0.out.1).2.2.2 (by omega)).mono ?_
            rintro e w9 ⟨rfl, b9⟩
            have z9 : w8.heap.size < w9.heap.size := Nat.lt_of_lt_of_le (lt_blk F0.out.2) b9.size
            have F1 : Hid (Below wq.heap.size wq (w9.alloc (.cells #[.int .i64 2, .int .i64 n2, .string noT] 27)) ∧ BoxV (w9.alloc (.cells #[.int .i64 2, .int .i64 n2, .string noT] 27)) w8.heap.size 2 n1 noT ∧ BoxV (w9.alloc (.cells #[.int .i64 2, .int .i64 n2, .string noT] 27)) w9.heap.size 2 n2 noT) := ⟨(F0.out.1.trans (b9.mono F0.out.1.size)).alloc (by omega) _, (((Below.refl w9.heap.size w9).alloc (Nat.le_refl _) _).block _ z9).trans ((b9.block _ (lt_blk F0.out.2)).trans F0.out.2), heap_alloc_new w9 _⟩
            clear b9
            go_wp2_with fail
            refine (HC.out _ F1.out.1).2.2.1.mono ?_
            rintro e w10 ⟨rfl, b10⟩
            have z10 : w9.heap.size < w10.heap.size := Nat.lt_of_lt_of_le (lt_blk F1.out.2.2) b10.size
            have F2 : Hid (Below wq.heap.size wq (w10.alloc (.cells #[.int .i64 2, .int .i64 ((n1 : Int) + n2), .string noT] 27))) := (F1.out.1.trans (b10.mono F1.out.1.size)).alloc (by omega) _
            have x8 : BoxV (w10.alloc (.cells #[.int .i64 2, .int .i64 ((n1 : Int) + n2), .string noT] 27)) w8.heap.size 2 n1 noT := (((Below.refl w10.heap.size w10).alloc (Nat.le_refl _) _).block _ (by omega)).trans ((b10.block _ (lt_blk F1.out.2.1)).trans F1.out.2.1)
            have x9 : BoxV (w10.alloc (.cells #[.int .i64 2, .int .i64 ((n1 : Int) + n2), .string noT] 27)) w9.heap.size 2 n2 noT := (((Below.refl w10.heap.size w10).alloc (Nat.le_refl _) _).block _ (by omega)).trans ((b10.block _ (lt_blk F1.out.2.2)).trans F1.out.2.2)
            have x10 : BoxV (w10.alloc (.cells #[.int .i64 2, .int .i64 ((n1 : Int) + n2), .string noT] 27)) w10.heap.size 2 ((n1 : Int) + n2) noT := heap_alloc_new w10 _
            have FE : Hid (Below w.heap.size w (w10.alloc (.cells #[.int .i64 2, .int .i64 ((n1 : Int) + n2), .string noT] 27))) := HBW.out.trans (F2.out.mono HBW.out.size)
            obtain ⟨a80, a81, a82, _, _, _⟩ := box_facts x8
            obtain ⟨a90, a91, a92, _, _, _⟩ := box_facts x9
            obtain ⟨aa0, aa1, aa2, _, _, _⟩ := box_facts x10
            clear b10 x8 x9 x10 F0 F1 F2 HC E0
            go_wp2
            go_ret
            exact ⟨rfl, FE.out⟩
          · refine (HC.out _ F0.out.1).2.1.mono ?_
            rintro e w9 ⟨rfl, b9⟩
            have z9 : w8.heap.size < w9.heap.size := Nat.lt_of_lt_of_le (lt_blk F0.out.2) b9.size
            have F1 : Hid (Below wq.heap.size wq (w9.alloc (.cells #[.int .i64 2, .int .i64 n2, .string noT] 27)) ∧ BoxV (w9.alloc (.cells #[.int .i64 2, .int .i64 n2, .string noT] 27)) w8.heap.size 2 n1 noT ∧ BoxV (w9.alloc (.cells #[.int .i64 2, .int .i64 n2, .string noT] 27)) w9.heap.size 2 n2 noT) := ⟨(F0.out.1.trans (b9.mono F0.out.1.size)).alloc (by omega) _, (((Below.refl w9.heap.size w9).alloc (Nat.le_refl _) _).block _ z9).trans ((b9.block _ (lt_blk F0.out.2)).trans F0.out.2), heap_alloc_new w9 _⟩
            clear b9
            go_wp2_with fail
            refine (HC.out _ F1.out.1).2.2.1.mono ?_
            rintro e w10 ⟨rfl, b10⟩
            have z10 : w9.heap.size < w10.heap.size := Nat.lt_of_lt_of_le (lt_blk F1.out.2.2) b10.size
            have F2 : Hid (Below wq.heap.size wq (w10.alloc (.cells #[.int .i64 2, .int .i64 ((n1 : Int) + n2), .string noT] 27))) := (F1.out.1.trans (b10.mono F1.out.1.size)).alloc (by omega) _
            have x8 : BoxV (w10.alloc (.cells #[.int .i64 2, .int .i64 ((n1 : Int) + n2), .string noT] 27)) w8.heap.size 2 n1 noT := (((Below.refl w10.heap.size w10).alloc (Nat.le_refl _) _).block _ (by omega)).trans ((b10.block _ (lt_blk F1.out.2.1)).trans F1.out.2.1)
            have x9 : BoxV (w10.alloc (.cells #[.int .i64 2, .int .i64 ((n1 : Int) + n2), .string noT] 27)) w9.heap.size 2 n2 noT := (((Below.refl w10.heap.size w10).alloc (Nat.le_refl _) _).block _ (by omega)).trans ((b10.block _ (lt_blk F1.out.2.2)).trans F1.out.2.2)
            have x10 : BoxV (w10.alloc (.cells #[.int .i64 2, .int .i64 ((n1 : Int) + n2), .string noT] 27)) w10.heap.size 2 ((n1 : Int) + n2) noT := heap_alloc_new w10 _
            have FE : Hid (Below w.heap.size w (w10.alloc (.cells #[.int .i64 2, .int .i64 ((n1 : Int) + n2), .string noT] 27))) := HBW.out.trans (F2.out.mono HBW.out.size)
            obtain ⟨a80, a81, a82, _, _, _⟩ := box_facts x8
            obtain ⟨a90, a91, a92, _, _, _⟩ := box_facts x9
            obtain ⟨aa0, aa1, aa2, _, _, _⟩ := box_facts x10
            clear b10 x8 x9 x10 F0 F1 F2 HC E0
            go_wp2
            go_ret
            exact ⟨rfl, FE.out⟩
end Go.Proofs.Ythdilgggjkekaaa
