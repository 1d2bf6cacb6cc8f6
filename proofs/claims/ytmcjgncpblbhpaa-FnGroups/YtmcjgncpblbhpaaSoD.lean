/- One row merged into a list of rows ahead of it (stage 13). -/
import Derived.Test.YtmcjgncpblbhpaaSoC
namespace Go.Proofs.Ytmcjgncpblbhpaa
open Go.RowKit

set_option maxRecDepth 100000 in
set_option maxHeartbeats 8000000 in
theorem sym_last (g N cap n nn : Nat) (k : Cel) (cf : Nat → Nat → Int) (ho : LtO (ltF cf)) (P s1 S : List Nat) (y fg : Nat) (cp : Array Value) (w : World) (h : Dat w g N k (P ++ (s1 ++ y :: S))) (hn : (P ++ (s1 ++ y :: S)).length ≤ n) (hN : n ≤ 4096) (h2 : 2 ≤ s1.length) (hs : ∀ x ∈ y :: s1, x < nn) (p1 : s1.Pairwise (RO (ltF cf))) (hi : ∀ x ∈ s1, x < y) (hF : CmpW g k nn cf w fg cp) :
    Calls Try.prog 111 #[.slice (some ⟨g, 0, none⟩) n cap, .int .i64 (P.length : Nat), .int .i64 ((P.length + s1.length : Nat)), .int .i64 ((P.length + s1.length + 1 : Nat)), .func (.func fg) #[] cp] w fun e w' => e = .returned (.tuple #[]) ∧ Kept (fun x => x = g) w w' ∧ ∃ s', s'.Perm (s1 ++ [y]) ∧ s'.Pairwise (RO (ltF cf)) ∧ Dat w' g N k (P ++ (s' ++ S)) := by
  have HO : Hid (LtO (ltF cf)) := ho
  have HS : Hid ((∀ x ∈ y :: s1, x < nn) ∧ s1.Pairwise (RO (ltF cf)) ∧ ∀ x ∈ s1, x < y) := ⟨hs, p1, hi⟩
  have HF : Hid (CmpW g k nn cf w fg cp) := hF
  have hE := hF.1
  unfold Ent at hE
  have HD : Hid (Dat w g N k (P ++ (s1 ++ y :: S))) := h
  have hG0 : g < w.heap.size := h.lt
  simp only [List.length_append, List.length_cons] at hn
  obtain ⟨t, ht⟩ : ∃ t, s1.length = t := ⟨_, rfl⟩
  obtain ⟨a, ha⟩ : ∃ a, P.length = a := ⟨_, rfl⟩
  obtain ⟨m, hm⟩ : ∃ m, P.length + s1.length = m := ⟨_, rfl⟩
  obtain ⟨b, hb⟩ : ∃ b, m + 1 = b := ⟨_, rfl⟩
  have HP : Hid (P.length = a ∧ a + t = m ∧ s1.length = t ∧ m + 1 = b ∧ b ≤ n ∧ 2 ≤ t) := ⟨ha, by omega, ht, by omega, by omega, by omega⟩
  obtain ⟨d, hd⟩ : ∃ d : Nat, (m : Int) - (a : Int) = (d : Int) ∧ d ≠ 1 := ⟨t, by omega, by omega⟩
  have hma : (m : Int) - (a : Int) = (d : Int) := hd.1
  have hd1 : ((d : Int) == 1) = false := by simp; omega
  have hbm : (b : Int) - (m : Int) = 1 := by omega
  have hmn : m < n := by omega
  have hbn : b ≤ n := by omega
  have han : a < n := by omega
  rw [hm, hb, ha]
  clear h hn hs hF ho ht ha hm hb p1 hi h2 hd
  have Hwm : IntKind.i64.wrap (m : Int) = (m : Int) := wrap_nat (by omega)
  have cx : Hid (∀ W, Below w.heap.size w W → W.cell? ⟨g, m, none⟩ = some (k.v y)) := fun W hW => by
    have h0 := HP.out
    have em : m = (P ++ s1).length := by rw [List.length_append]; omega
    have h1 := (HD.out.below hW).cell (i := m) (by rw [em]; simp)
    have e1 : P ++ (s1 ++ y :: S) = (P ++ s1) ++ y :: S := by simp
    rw [e1, em, nthN_mid] at h1
    rw [em]; exact h1
  have cy : Hid (∀ W q, q < t → Below w.heap.size w W → W.cell? ⟨g, a + q, none⟩ = some (k.v (nthN s1 q))) := fun W q hq hW => by
    have h0 := HP.out
    have h1 := (HD.out.below hW).cell (i := a + q) (by simp; omega)
    have e : nthN (P ++ (s1 ++ y :: S)) (a + q) = nthN s1 q := by
      rw [← h0.1, nth_right, nth_left (by omega)]
    rw [e] at h1
    exact h1
  go_enter Try.func111, Try.ntmps111
  go_wp2
  go_loopw [14, 15] (fun i j wr => ∃ (u v i0 j0 : Nat), u ≤ v ∧ v ≤ t ∧ i = .int .i64 i0 ∧ j = .int .i64 j0 ∧ a + u = i0 ∧ a + v = j0 ∧ Hid ((u = 0 ∨ ltF cf y (nthN s1 (u - 1)) = false) ∧ (v = t ∨ ltF cf y (nthN s1 v) = true) ∧ Below w.heap.size w wr)) (fun i j _ => (intOf j).toNat - (intOf i).toNat)
  case atStart => exact ⟨0, t, a, m, by omega, by omega, rfl, rfl, by omega, HP.out.2.1, .inl rfl, .inl rfl, Below.refl _ _⟩
  case round =>
    obtain ⟨u, v, i0, j0, huv, hvt, rfl, rfl, hi0, hj0, HW⟩ := hrel
    by_cases hlt : u < v
    · have hltI : (i0 : Int) < (j0 : Int) := by omega
      obtain ⟨c0, f5⟩ : ∃ c0, c0 = (i0 + j0) / 2 := ⟨_, rfl⟩
      obtain ⟨s0, HM⟩ : ∃ s0 : Nat, Hid (wrap64 ((i0 : Int) + (j0 : Int)) = (s0 : Int) ∧ IntKind.u64.wrap (s0 : Int) = (s0 : Int) ∧ (s0 : Int) / 2 = (c0 : Int) ∧ wrap64 (c0 : Int) = (c0 : Int)) := mid_facts i0 j0 c0 (by have := HP.out; omega) f5
      obtain ⟨q, hq⟩ : ∃ q, a + q = c0 := ⟨c0 - a, by omega⟩
      have hqv : u ≤ q ∧ q < v := by omega
      have HQ : Hid (a + q = c0 ∧ u ≤ q ∧ q < v ∧ a + u = i0 ∧ a + v = j0) := ⟨hq, hqv.1, hqv.2, hi0, hj0⟩
      have d1 : wr.cell? ⟨g, c0, none⟩ = some (k.v (nthN s1 q)) := by have := cy.out wr q (by omega) HW.out.2.2; rw [hq] at this; exact this
      have d2 := cx.out wr HW.out.2.2
      have hC : Hid (StC wr g m c0 (k.v y) (k.v (nthN s1 q)) wr.drew) := ⟨d2, d1, (Below.refl _ _).drew⟩
      have hG : Hid (g < wr.heap.size) := Nat.lt_of_lt_of_le hG0 HW.out.2.2.size
      have hqm : nthN s1 q ∈ s1 := by rw [nthN_get (by have := HP.out; omega)]; exact List.getElem_mem _
      have HC : Hid (∀ W, StC wr g m c0 (k.v y) (k.v (nthN s1 q)) W → Calls Try.prog fg (#[k.v y, k.v (nthN s1 q)] ++ cp) W fun e w' => e = .returned (.int .i64 (cf y (nthN s1 q))) ∧ Below W.heap.size W w') := fun W hW => HF.out.2 W (Kept.of_below (below_step HW.out.2.2 (Nat.le_refl _) hW.2.2)) _ _ (HS.out.1 _ (List.mem_cons_self)) (HS.out.1 _ (List.mem_cons_of_mem _ hqm))
      have HBW : Hid (∀ W, StC wr g m c0 (k.v y) (k.v (nthN s1 q)) W → Below w.heap.size w W) := fun W hW => below_step HW.out.2.2 (Nat.le_refl _) hW.2.2
      have hcn : c0 < n := by have := HP.out; omega
      have Hwc : Hid (IntKind.i64.wrap (c0 : Int) = (c0 : Int)) := wrap_nat (by omega)
      have hqs : Hid ((u = 0 ∨ ltF cf y (nthN s1 (u - 1)) = false) ∧ (v = t ∨ ltF cf y (nthN s1 v) = true)) := ⟨HW.out.1, HW.out.2.1⟩
      clear d1 d2 HW f5 hq hqv hi0 hj0 hqm
      by_cases hcf : cf y (nthN s1 q) < 0
      · have HT : Hid (ltF cf y (nthN s1 (q + 1 - 1)) = true) := decide_eq_true hcf
        generalize nthN s1 q = z at *
        generalize cf y z = cc at *
        have hcf2 : (!decide (cc < 0)) = false := by simp; omega
        obtain ⟨f1, f2, f3, f4⟩ := HM.out
        have hwc := Hwc.out
        go_wp2_with fail
        refine wp_region_class (C := StC wr g m c0 (k.v y) (k.v z)) (by kernel_rfl) (by kernel_rfl) hC.out ?_
        repeat (first | go_big_quiet_skip | (go_big_quiet_want; apply Exists.intro; refine ⟨?_, ?_⟩; (focus (intro w' hw'; first | (obtain ⟨m0, m1, m2⟩ := hw'; go_simp; with_reducible rfl) | (go_simp; refine (HC.out w' hw').mono ?_; rintro e w'' ⟨rfl, hb⟩; exact ⟨rfl, hw'.keep hG.out hb⟩))); (try simp only [Act.put, List.setIfInBounds_toArray, List.set_cons_zero, List.set_cons_succ]); go_big_quiet_on))
        refine wpQuiet_nil ?_
        intro w2 hw2
        have hB := HBW.out w2 hw2
        clear hw2 hC HC HBW f1 f2 f3 f4 hwc
        go_wp2
        go_roundw
        case rel => exact ⟨u, q, i0, c0, HQ.out.2.1, by have := HQ.out; omega, rfl, rfl, HQ.out.2.2.2.1, HQ.out.1, hqs.out.1, .inr HT.out, hB⟩
        case measure => have := HQ.out; simp [intOf]; omega
      · have HT : Hid (ltF cf y (nthN s1 (q + 1 - 1)) = false) := decide_eq_false hcf
        generalize nthN s1 q = z at *
        generalize cf y z = cc at *
        have hcf2 : (!decide (cc < 0)) = true := by simp; omega
        obtain ⟨f1, f2, f3, f4⟩ := HM.out
        have hwc := Hwc.out
        go_wp2_with fail
        refine wp_region_class (C := StC wr g m c0 (k.v y) (k.v z)) (by kernel_rfl) (by kernel_rfl) hC.out ?_
        repeat (first | go_big_quiet_skip | (go_big_quiet_want; apply Exists.intro; refine ⟨?_, ?_⟩; (focus (intro w' hw'; first | (obtain ⟨m0, m1, m2⟩ := hw'; go_simp; with_reducible rfl) | (go_simp; refine (HC.out w' hw').mono ?_; rintro e w'' ⟨rfl, hb⟩; exact ⟨rfl, hw'.keep hG.out hb⟩))); (try simp only [Act.put, List.setIfInBounds_toArray, List.set_cons_zero, List.set_cons_succ]); go_big_quiet_on))
        refine wpQuiet_nil ?_
        intro w2 hw2
        have hB := HBW.out w2 hw2
        clear hw2 hC HC HBW f1 f2 f3 f4 hwc
        go_wp2
        go_roundw
        case rel => exact ⟨q + 1, v, c0 + 1, j0, by have := HQ.out; omega, hvt, by go_num, rfl, by have := HQ.out; omega, HQ.out.2.2.2.2, .inr HT.out, hqs.out.2, hB⟩
        case measure => have := HQ.out; simp [intOf]; omega
    · obtain rfl : u = v := by omega
      obtain rfl : i0 = j0 := by omega
      have hltI : ¬ (i0 : Int) < (i0 : Int) := by omega
      have e1 : s1.take u ++ s1.drop u = s1 := List.take_append_drop u s1
      have hul : u ≤ s1.length := by have := HP.out; omega
      have HR : Hid ((s1.take u ++ y :: s1.drop u).Perm (s1 ++ [y]) ∧ (s1.take u ++ y :: s1.drop u).Pairwise (RO (ltF cf))) := by
        have q1 := cut_le HO.out (s2 := [y]) HS.out.2.1 (List.pairwise_singleton _ _) (i := u) (j := 0) hul (by rcases HW.out.1 with h | h; exact .inl h; exact .inr (.inr h))
        have q2 := cut_lt HO.out (s2 := [y]) HS.out.2.1 (List.pairwise_singleton _ _) (i := u) (j := 1) (by simp) (by rcases HW.out.2.1 with h | h; exact .inl (by have := HP.out; omega); exact .inr (.inr h))
        refine ⟨?_, put_in HO.out (by rw [e1]; exact HS.out.2.1) (by rw [e1]; exact HS.out.2.2) (fun x hx => q1 x hx y (by simp)) (fun x hx => q2 y (by simp) x hx)⟩
        refine List.perm_middle.trans ?_
        rw [e1]
        exact (List.perm_append_singleton _ _).symm
      have HB : Hid (Dat wr g N k (P ++ (s1 ++ y :: S)) ∧ Kept (fun x => x = g) w wr) := ⟨HD.out.below HW.out.2.2, Kept.of_below HW.out.2.2⟩
      have Hi1 : Hid (a + u = i0 ∧ u ≤ s1.length ∧ P.length = a ∧ a + t = m ∧ s1.length = t) := ⟨hi0, hul, HP.out.1, HP.out.2.1, HP.out.2.2.1⟩
      have hin : i0 ≤ n := by have := HP.out; omega
      clear HW e1 hul hi0 hj0 cx cy
      go_wp2
      go_loopw [17] (fun i wr => ∃ (c j : Nat), i = .int .i64 j ∧ a + c = j ∧ u ≤ c ∧ c ≤ t ∧ Hid (Dat wr g N k ((P ++ s1.take c) ++ y :: (s1.drop c ++ S)) ∧ Kept (fun x => x = g) w wr)) (fun i _ => (intOf i).toNat)
      case atStart => exact ⟨t, m, rfl, Hi1.out.2.2.2.1, by have := Hi1.out; omega, by omega, by
        have e := Hi1.out.2.2.2.2
        have h1 := HB.out.1
        rw [← e, List.take_length, List.drop_length]
        simpa using h1, HB.out.2⟩
      case round =>
        clear HB
        obtain ⟨c, j, rfl, hcj, huc, hct, HW⟩ := hrel
        by_cases hlc : u < c
        · have hljI : (i0 : Int) < (j : Int) := by have := Hi1.out; omega
          obtain ⟨c', rfl⟩ : ∃ c', c = c' + 1 := ⟨c - 1, by omega⟩
          have hcl : c' < s1.length := by have := Hi1.out; omega
          obtain ⟨j1, hj1⟩ : ∃ j1, j1 + 1 = j := ⟨j - 1, by omega⟩
          have hj1I : (j : Int) - 1 = (j1 : Int) := by omega
          have lL : j1 = (P ++ s1.take c').length := by have := Hi1.out; rw [List.length_append, List.length_take]; omega
          have eS : s1.drop c' = s1[c'] :: s1.drop (c' + 1) := List.drop_eq_getElem_cons hcl
          have tU : s1.take (c' + 1) = s1.take c' ++ [s1[c']] := by rw [List.take_add_one, List.getElem?_eq_getElem hcl]; rfl
          have hD : Dat wr g N k ((P ++ s1.take c') ++ s1[c'] :: ([] ++ y :: (s1.drop (c' + 1) ++ S))) := by have := HW.out.1; rw [tU] at this; simp only [List.append_assoc, List.cons_append, List.nil_append] at this ⊢; exact this
          have c1 : wr.cell? ⟨g, j1, none⟩ = some (k.v s1[c']) := by
            have := hD.cell (i := j1) (by rw [lL]; simp)
            rw [lL, nthN_mid] at this
            rw [lL]; exact this
          have c2 : wr.cell? ⟨g, j, none⟩ = some (k.v y) := by
            have := hD.cell (i := j) (by rw [← hj1, lL]; simp; omega)
            have e2 : nthN ((P ++ s1.take c') ++ s1[c'] :: ([] ++ y :: (s1.drop (c' + 1) ++ S))) j = y := by
              have h3 := nthN_mid ((P ++ s1.take c') ++ [s1[c']]) (s1.drop (c' + 1) ++ S) y
              rw [show ((P ++ s1.take c') ++ [s1[c']]).length = j by rw [List.length_append, ← lL, ← hj1]; rfl] at h3
              simp only [List.append_assoc, List.cons_append, List.nil_append] at h3 ⊢
              exact h3
            rw [e2] at this
            exact this
          have HN : Hid (Dat ((wr.setCell ⟨g, j, none⟩ (k.v s1[c'])).setCell ⟨g, j1, none⟩ (k.v y)) g N k ((P ++ s1.take c') ++ y :: (s1.drop c' ++ S)) ∧ Kept (fun x => x = g) w ((wr.setCell ⟨g, j, none⟩ (k.v s1[c'])).setCell ⟨g, j1, none⟩ (k.v y))) := by
            have h1 := hD.swap2 (i := j1) (j := j) lL (by rw [← lL]; simp; omega)
            refine ⟨?_, kept_swap HW.out.2⟩
            rw [eS]
            simp only [List.append_assoc, List.cons_append, List.nil_append] at h1 ⊢
            exact h1
          have hf := hD.free
          have hjn : j < n := by have := Hi1.out; omega
          have hj1n : j1 < n := by omega
          have hne : ¬ j = j1 := by omega
          have hne' : ¬ j1 = j := by omega
          have HJ : Hid (a + (c' + 1) = j ∧ j1 + 1 = j ∧ u < c' + 1) := ⟨hcj, hj1, hlc⟩
          clear HW hD lL eS hj1 hcj tU
          generalize s1[c'] = z at *
          have d1 : wr.drew.cell? ⟨g, j1, none⟩ = some (k.v z) := c1
          have d2 : wr.drew.cell? ⟨g, j, none⟩ = some (k.v y) := c2
          have df : ∀ o, wr.drew.frozen? ⟨g, o, none⟩ = false := hf
          go_wp2_with fail
          go_region
          all_goals
            go_wp2
            go_roundw
            case rel => exact ⟨c', j1, by go_num, by have := HJ.out; omega, by omega, by omega, HN.out.1, kept_drew HN.out.2⟩
            case measure => have := HJ.out; simp [intOf]; omega
        · obtain rfl : c = u := by omega
          have hljI : ¬ (i0 : Int) < (j : Int) := by have := Hi1.out; omega
          have HE : Hid (Kept (fun x => x = g) w wr ∧ ∃ s', s'.Perm (s1 ++ [y]) ∧ s'.Pairwise (RO (ltF cf)) ∧ Dat wr g N k (P ++ (s' ++ S))) := ⟨HW.out.2, s1.take c ++ y :: s1.drop c, HR.out.1, HR.out.2, by have := HW.out.1; simp only [List.append_assoc, List.cons_append] at this ⊢; exact this⟩
          clear HW
          go_wp2
          (try simp only [Exit.inBlock, Exit.then])
          refine bodyPost_ret (results_none rfl _ _ _) rfl ?_
          exact ⟨rfl, HE.out.1, HE.out.2⟩
end Go.Proofs.Ytmcjgncpblbhpaa
