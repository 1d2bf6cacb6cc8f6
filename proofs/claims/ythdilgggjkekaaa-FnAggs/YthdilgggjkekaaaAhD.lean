/- slices.DeleteFunc by what is null: the walk (towards FnAggs, stage 12). -/
import Derived.Test.YthdilgggjkekaaaAhC
namespace Go.Proofs.Ythdilgggjkekaaa
open Go.RowKit

theorem vals_all (os : List (Option Int)) (h : ∀ i, i < (os.map ov).length → ((nthV (os.map ov) i).1 == 0) = false) : os.map ov = (vals os).map iv := by
  induction os with
  | nil => rfl
  | cons o r ih =>
    have h0 := h 0 (by simp)
    cases o with
    | none => simp [nthV, ov] at h0
    | some x =>
      have := ih fun i hi => by
        have := h (i + 1) (by simpa using hi)
        simpa [nthV] using this
      show iv x :: r.map ov = iv x :: (vals r).map iv
      rw [this]
theorem vals_pre (os : List (Option Int)) (k : Nat) (hk : k ≤ os.length) (h : ∀ i, i < k → ((nthV (os.map ov) i).1 == 0) = false) : (os.take k).map ov = (vals (os.take k)).map iv := by
  refine vals_all _ fun i hi => ?_
  have hi' : i < k := by simp at hi; omega
  have := h i hi'
  have e : nthV ((os.take k).map ov) i = nthV (os.map ov) i := by
    unfold nthV
    rw [List.getD_eq_getElem?_getD, List.getD_eq_getElem?_getD, List.map_take, List.getElem?_take, if_pos hi']
  rw [e]
  exact this
theorem Kept.start (os : List (Option Int)) (k : Nat) (hk : k < os.length) (hp : ((nthV (os.map ov) k).1 == 0) = true) (h : ∀ i, i < k → ((nthV (os.map ov) i).1 == 0) = false) : Kept os (os.map ov) k (k + 1) := by
  have hv := vals_pre os k (by omega) h
  have hl : (vals (os.take k)).length = k := by
    have := congrArg List.length hv
    simp at this
    omega
  have h0 : os[k] = none := by
    rw [ovs_at os k hk, nul_ov] at hp
    cases ho : os[k] with
    | none => rfl
    | some x => rw [ho] at hp; cases hp
  have e : vals (os.take (k + 1)) = vals (os.take k) := by rw [vals_take os k hk, h0]; simp
  refine ⟨by simp, by rw [e, hl], by omega, fun i hi => ?_, fun _ _ _ => rfl⟩
  rw [e]
  have h1 : nthV (os.map ov) i = nthV ((os.take k).map ov) i := by
    unfold nthV
    rw [List.getD_eq_getElem?_getD, List.getD_eq_getElem?_getD, List.map_take, List.getElem?_take, if_pos hi]
  rw [h1, hv, nth_iv _ i (by omega)]
  unfold iv
  rw [List.getD_eq_getElem?_getD, List.getElem?_eq_getElem (by omega)]
  rfl

set_option maxRecDepth 100000 in
set_option maxHeartbeats 8000000 in
theorem del_any (os : List (Option Int)) (g cap : Nat) (w : World) (hb : BlkO w g cap (os.map ov)) (hlen : os.length ≤ 4096) :
    Calls Try.prog 20 #[.slice (some ⟨g, 0, none⟩) os.length cap, fnV 22] w fun e w' => e = .returned (.slice (some ⟨g, 0, none⟩) (vals os).length cap) ∧ RowV w' (some ⟨g, 0, none⟩) ((vals os).map iv) ∧ Below g w w' := by
  have hrow : RowV w (some ⟨g, 0, none⟩) (os.map ov) := fun i hi => by
    obtain ⟨a, b, c⟩ := hb.cells hi
    refine ⟨g, 0, rfl, hb.lt, by simp only [Nat.zero_add]; exact ⟨a, b, c⟩, ?_⟩
    have hi' : i < os.length := by simpa using hi
    rw [ovs_at os i hi']
    cases os[i] <;> (show (noT : ByteArray).size ≤ maxLen; decide)
  have G := indexFunc_is (os.map ov) (fun v => v.1 == 0) 22 #[] (some ⟨g, 0, none⟩) cap w hrow (by simp [maxLen]; omega) ⟨ent22, fun w' _ k n t => nul_any k n t w'⟩
  rw [List.length_map] at G
  have HB : Hid (BlkO w g cap (os.map ov)) := hb
  have HG : Hid (g < w.heap.size) := hb.lt
  have HC : Hid (os.length ≤ cap) := by obtain ⟨_, _, _, h, _⟩ := hb; show _ ≤ _; simpa using h
  obtain ⟨n, hL⟩ : ∃ m, os.length = m := ⟨_, rfl⟩
  have HL : Hid (os.length = n) := hL
  rw [hL] at hlen G ⊢
  clear hL hb hrow
  have hE : ∀ (args : Array Value) (w : World), (callFunc 22 args).run Try.prog w = .ok (.enter 22 args) w := ent22
  go_enter Try.func20, Try.ntmps20
  go_wp2_with fail
  refine G.mono ?_
  rintro e w1 ⟨hk, b1⟩
  clear G
  have B1 : Hid (Below g w w1) := b1.mono (Nat.le_of_lt HG.out)
  have HB1 : Hid (BlkO w1 g cap (os.map ov)) := HB.out.below b1
  clear b1
  rcases hk with ⟨k, hk, rfl, hp, hpre⟩ | ⟨rfl, hall⟩
  · have HK : Hid (Kept os (os.map ov) k (k + 1)) := Kept.start os k (by rw [HL.out]; exact hk) hp hpre
    clear hp hpre
    go_wp2
    go_loopw [5, 6] (fun i j wr => ∃ (ki kj : Nat) (us : List V3), i = .int .i64 ki ∧ j = .int .i64 kj ∧ ki < kj ∧ kj ≤ n ∧ Hid (Kept os us ki kj ∧ BlkO wr g cap us ∧ Below g w wr)) (fun _ j _ => n - (intOf j).toNat)
    case atStart => exact ⟨k, k + 1, os.map ov, rfl, by go_num, by omega, by omega, HK.out, HB1.out, B1.out⟩
    case round =>
      obtain ⟨ki, kj, us, rfl, rfl, hij, hjn, HX⟩ := hrel
      clear HK HB1 B1
      have HU : Hid (us.length = n) := by show _ = _; rw [HX.out.1.1, HL.out]
      by_cases hj : kj < n
      · have hjo : kj < os.length := by rw [HL.out]; exact hj
        obtain ⟨c0, c1, c2⟩ := HX.out.2.1.cells (i := kj) (by rw [HU.out]; exact hj)
        rw [HX.out.1.2.2.2.2 kj (Nat.le_refl _) hjo, ovs_at os kj hjo] at c0 c1 c2
        have hjI : (kj : Int) < (n : Int) := by omega
        cases ho : os[kj] with
        | none =>
          have HK' : Hid (Kept os us ki (kj + 1)) := HX.out.1.null hjo ho
          rw [ho] at c0 c1 c2
          simp only [ov] at c0 c1 c2
          have HY : Hid (BlkO (wr.alloc (.cells #[.int .i64 0, .int .i64 0, .string noT] 27)) g cap us ∧ Below g w (wr.alloc (.cells #[.int .i64 0, .int .i64 0, .string noT] 27))) :=
            ⟨HX.out.2.1.below ((Below.refl _ _).alloc (Nat.le_refl _) _), HX.out.2.2.alloc (Nat.le_trans (Nat.le_of_lt HG.out) HX.out.2.2.size) _⟩
          clear ho HX
          go_wp2_with fail
          refine (nul_any 0 0 noT _).mono ?_
          rintro e w2 ⟨rfl, b2⟩
          have HZ : Hid (BlkO w2 g cap us ∧ Below g w w2) := ⟨HY.out.1.below b2, HY.out.2.trans (b2.mono (Nat.le_of_lt HY.out.1.lt))⟩
          clear b2 HY c0 c1 c2
          go_wp2
          go_roundw
          case rel =>
            refine ⟨_, _, _, _, _, _, _, _, _, _, _, _, _, _, _, _, _, _, _, _, _, _, _, ?_, rfl⟩
            exact ⟨ki, kj + 1, us, rfl, by go_num, by omega, by omega, HK'.out, HZ.out.1, HZ.out.2⟩
          case measure => simp [intOf]; omega
        | some x =>
          have hi : ki < us.length := by rw [HU.out]; omega
          have HK' : Hid (Kept os (us.set ki (iv x)) (ki + 1) (kj + 1)) := HX.out.1.some hjo ho
          rw [ho] at c0 c1 c2
          simp only [ov] at c0 c1 c2
          have HY : Hid (BlkO (wr.alloc (.cells #[.int .i64 2, .int .i64 x, .string noT] 27)) g cap us ∧ Below g w (wr.alloc (.cells #[.int .i64 2, .int .i64 x, .string noT] 27))) :=
            ⟨HX.out.2.1.below ((Below.refl _ _).alloc (Nat.le_refl _) _), HX.out.2.2.alloc (Nat.le_trans (Nat.le_of_lt HG.out) HX.out.2.2.size) _⟩
          clear ho HX
          go_wp2_with fail
          refine (nul_any 2 x noT _).mono ?_
          rintro e w2 ⟨rfl, b2⟩
          have HZ : Hid (BlkO w2 g cap us ∧ Below g w w2) := ⟨HY.out.1.below b2, HY.out.2.trans (b2.mono (Nat.le_of_lt HY.out.1.lt))⟩
          have hbx : w2.heap[wr.heap.size]? = some (.cells #[.int .i64 2, .int .i64 x, .string noT] 27 (0, 0)) := (b2.block _ (by simp)).trans (heap_alloc_new wr _)
          obtain ⟨x0, x1, x2⟩ : w2.cell? ⟨wr.heap.size, 0, none⟩ = some (.int .i64 2) ∧ w2.cell? ⟨wr.heap.size, 1, none⟩ = some (.int .i64 x) ∧ w2.cell? ⟨wr.heap.size, 2, none⟩ = some (.string noT) := by
            refine ⟨?_, ?_, ?_⟩ <;> (rw [slab_cell hbx]; rfl)
          obtain ⟨d0, d1, d2⟩ := HZ.out.1.cells hi
          have f0 := HZ.out.1.free (ki * 3)
          have f1 := HZ.out.1.free (ki * 3 + 1)
          have f2 := HZ.out.1.free (ki * 3 + 2)
          have HS : Hid (BlkO (((w2.setCell ⟨g, ki * 3, none⟩ (.int .i64 2)).setCell ⟨g, ki * 3 + 1, none⟩ (.int .i64 x)).setCell ⟨g, ki * 3 + 2, none⟩ (.string noT)) g cap (us.set ki (iv x)) ∧ Below g w (((w2.setCell ⟨g, ki * 3, none⟩ (.int .i64 2)).setCell ⟨g, ki * 3 + 1, none⟩ (.int .i64 x)).setCell ⟨g, ki * 3 + 2, none⟩ (.string noT))) :=
            ⟨HZ.out.1.set hi (iv x), ((HZ.out.2.setCell (Nat.le_refl _) _).setCell (Nat.le_refl _) _).setCell (Nat.le_refl _) _⟩
          have hiI : (ki : Int) < (n : Int) := by omega
          clear b2 HY c0 c1 c2 hbx HZ
          go_wp2
          go_roundw
          case rel =>
            refine ⟨_, _, _, _, _, _, _, _, _, _, _, _, _, _, _, _, _, _, _, _, _, _, _, ?_, rfl⟩
            exact ⟨ki + 1, kj + 1, us.set ki (iv x), by go_num, by go_num, by omega, by omega, HK'.out, HS.out.1, HS.out.2⟩
          case measure => simp [intOf]; omega
      · obtain rfl : kj = n := by omega
        have hki : ki < cap := by have := HC.out; rw [HL.out] at this; omega
        have hcn : ¬ cap = ki := by omega
        obtain ⟨cur, hh, hs, hl, hcc⟩ := HX.out.2.1
        obtain ⟨zs, hz⟩ := run_clear wr g cap ki (kj - ki) (cap - ki) cur hh hs (by omega) (by have := HC.out; rw [HL.out] at this; omega)
        obtain ⟨cur', q1, q2, q3⟩ := heap_setCells g zs (ki * 3) wr cur hh
        have HV : Hid (ki = (vals os).length ∧ ∀ k, k < ki → nthV us k = iv ((vals os).getD k 0)) := by
          have e : os.take kj = os := List.take_of_length_le (by rw [HL.out]; exact Nat.le_refl _)
          have h := HX.out.1
          unfold Kept at h
          rw [e] at h
          exact ⟨h.2.1, h.2.2.2.1⟩
        have HB2 : Hid (Below g w (wr.setCells g (ki * 3) zs)) := below_setCells g g (Nat.le_refl _) w zs (ki * 3) wr HX.out.2.2
        have HT : Hid (BlkO (wr.setCells g (ki * 3) zs) g cap (us.take ki)) := by
          refine ⟨cur', q1, by rw [q2]; exact hs, by rw [List.length_take]; omega, fun i hi => ?_⟩
          have hi' : i < ki := by rw [List.length_take] at hi; omega
          have e : nthV (us.take ki) i = nthV us i := by
            unfold nthV
            rw [List.getD_eq_getElem?_getD, List.getD_eq_getElem?_getD, List.getElem?_take, if_pos hi']
          obtain ⟨a, b, c⟩ := hcc i (by rw [HU.out]; omega)
          rw [e, q3 _ (by omega), q3 _ (by omega), q3 _ (by omega)]
          exact ⟨a, b, c⟩
        have HR : Hid (RowV (wr.setCells g (ki * 3) zs) (some ⟨g, 0, none⟩) ((vals os).map iv)) := by
          show RowV _ _ _
          refine HT.out.row (vals os) (by rw [List.length_take, HU.out, ← HV.out.1]; omega) fun k hk => ?_
          have hk' : k < ki := by rw [HV.out.1]; exact hk
          rw [← HV.out.2 k hk']
          unfold nthV
          rw [List.getD_eq_getElem?_getD, List.getD_eq_getElem?_getD, List.getElem?_take, if_pos hk']
        have hkI : (ki : Int) ≤ (kj : Int) := by omega
        have hkc : (ki : Int) ≤ (cap : Int) := by omega
        have hji : ¬ (kj : Int) < (kj : Int) := by omega
        clear hh hs hl hcc q1 q2 q3 HT HX
        go_wp2
        go_ret
        exact ⟨by rw [← HV.out.1]; simp, HR.out, HB2.out⟩
  · have HA : Hid (os.map ov = (vals os).map iv) := vals_all os fun i hi => hall i (by rw [← HL.out]; simpa using hi)
    have HN : Hid ((vals os).length = n) := by
      have := congrArg List.length HA.out
      simp at this
      have := HL.out
      show _ = _
      omega
    have HR : Hid (RowV w1 (some ⟨g, 0, none⟩) ((vals os).map iv)) := by
      show RowV _ _ _
      refine HB1.out.row (vals os) (by rw [List.length_map, HL.out, HN.out]; exact Nat.le_refl _) fun k hk => ?_
      rw [HA.out, nth_iv _ k hk]
      unfold iv
      rw [List.getD_eq_getElem?_getD, List.getElem?_eq_getElem hk]
      rfl
    clear hall
    go_wp2
    go_ret
    exact ⟨by rw [HN.out]; simp, HR.out, B1.out⟩
end Go.Proofs.Ythdilgggjkekaaa
