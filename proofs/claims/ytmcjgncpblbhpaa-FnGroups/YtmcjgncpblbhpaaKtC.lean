/- Two lists of rows with their keys in a block, merged in place: one row ahead (stage 13). -/
import Derived.Test.YtmcjgncpblbhpaaKtB
import Derived.Test.YtmcjgncpblbhpaaSoC
namespace Go.Proofs.Ytmcjgncpblbhpaa
open Go.RowKit

set_option maxRecDepth 100000 in
set_option maxHeartbeats 8000000 in
theorem sym_one2 (g N cap n nn : Nat) (k : Ce2) (cf : Nat → Nat → Int) (ho : LtO (ltF cf)) (P s2 S : List Nat) (x fg : Nat) (cp : Array Value) (w : World) (h : Da2 w g N k (P ++ x :: (s2 ++ S))) (hn : (P ++ x :: (s2 ++ S)).length ≤ n) (hN : n ≤ 4096) (hs : ∀ y ∈ x :: s2, y < nn) (p2 : s2.Pairwise (RO (ltF cf))) (hi : ∀ y ∈ s2, x < y) (hF : Cm2 g k nn cf w fg cp) :
    Calls Try.prog 117 #[.slice (some ⟨g, 0, none⟩) n cap, .int .i64 (P.length : Nat), .int .i64 ((P.length + 1 : Nat)), .int .i64 ((P.length + 1 + s2.length : Nat)), .func (.func fg) #[] cp] w fun e w' => e = .returned (.tuple #[]) ∧ Kept (fun x => x = g) w w' ∧ ∃ s', s'.Perm (x :: s2) ∧ s'.Pairwise (RO (ltF cf)) ∧ Da2 w' g N k (P ++ (s' ++ S)) := by
  have HO : Hid (LtO (ltF cf)) := ho
  have HS : Hid ((∀ y ∈ x :: s2, y < nn) ∧ s2.Pairwise (RO (ltF cf)) ∧ ∀ y ∈ s2, x < y) := ⟨hs, p2, hi⟩
  have HF : Hid (Cm2 g k nn cf w fg cp) := hF
  have hE := hF.1
  unfold Ent at hE
  have HD : Hid (Da2 w g N k (P ++ x :: (s2 ++ S))) := h
  have hG0 : g < w.heap.size := h.lt
  simp only [List.length_append, List.length_cons] at hn
  obtain ⟨t, ht⟩ : ∃ t, s2.length = t := ⟨_, rfl⟩
  obtain ⟨a, ha⟩ : ∃ a, P.length = a := ⟨_, rfl⟩
  obtain ⟨m, hm⟩ : ∃ m, P.length + 1 = m := ⟨_, rfl⟩
  obtain ⟨b, hb⟩ : ∃ b, m + s2.length = b := ⟨_, rfl⟩
  have HP : Hid (P.length = a ∧ a + 1 = m ∧ s2.length = t ∧ m + t = b ∧ b ≤ n) := ⟨ha, by omega, ht, by omega, by omega⟩
  have hma : (m : Int) - (a : Int) = 1 := by omega
  have hmn : m ≤ n := by omega
  have hbn : b ≤ n := by omega
  have han : a < n := by omega
  rw [hm, hb, ha]
  have hm0 : a + 1 = m := by omega
  have hmb : m ≤ b := by omega
  clear h hn hs hF ho ht ha hm hb p2 hi hm0
  have hwa : IntKind.i64.wrap (a : Int) = (a : Int) := wrap_nat (by omega)
  have cx : Hid (∀ W, Below w.heap.size w W → Cl W g (a) k (x)) := fun W hW => by
    have h1 := (HD.out.below hW).cell (i := a) (by rw [← HP.out.1]; simp)
    rw [← HP.out.1, nthN_mid] at h1
    rw [← HP.out.1]; exact h1
  have cy : Hid (∀ W q, q < t → Below w.heap.size w W → Cl W g (m + q) k ((nthN s2 q))) := fun W q hq hW => by
    have h0 := HP.out
    have h1 := (HD.out.below hW).cell (i := m + q) (by simp; omega)
    have e : nthN (P ++ x :: (s2 ++ S)) (m + q) = nthN s2 q := by
      have e1 : P ++ x :: (s2 ++ S) = (P ++ [x]) ++ (s2 ++ S) := by simp
      have e2 : m + q = (P ++ [x]).length + q := by simp; omega
      rw [e1, e2, nth_right, nth_left (by omega)]
    rw [e] at h1
    exact h1
  go_enter Try.func117, Try.ntmps117
  go_wp2
  go_loopw [10, 11] (fun i j wr => ∃ (u v i0 j0 : Nat), u ≤ v ∧ v ≤ t ∧ i = .int .i64 i0 ∧ j = .int .i64 j0 ∧ m + u = i0 ∧ m + v = j0 ∧ Hid ((u = 0 ∨ ltF cf (nthN s2 (u - 1)) x = true) ∧ (v = t ∨ ltF cf (nthN s2 v) x = false) ∧ Below w.heap.size w wr)) (fun i j _ => (intOf j).toNat - (intOf i).toNat)
  case atStart => exact ⟨0, t, m, b, by omega, by omega, rfl, rfl, by omega, HP.out.2.2.2.1, .inl rfl, .inl rfl, Below.refl _ _⟩
  case round =>
    obtain ⟨u, v, i0, j0, huv, hvt, rfl, rfl, hi0, hj0, HW⟩ := hrel
    by_cases hlt : u < v
    · have hltI : (i0 : Int) < (j0 : Int) := by omega
      obtain ⟨c0, f5⟩ : ∃ c0, c0 = (i0 + j0) / 2 := ⟨_, rfl⟩
      obtain ⟨s0, HM⟩ : ∃ s0 : Nat, Hid (wrap64 ((i0 : Int) + (j0 : Int)) = (s0 : Int) ∧ IntKind.u64.wrap (s0 : Int) = (s0 : Int) ∧ (s0 : Int) / 2 = (c0 : Int) ∧ wrap64 (c0 : Int) = (c0 : Int)) := mid_facts i0 j0 c0 (by have := HP.out; omega) f5
      obtain ⟨q, hq⟩ : ∃ q, m + q = c0 := ⟨c0 - m, by omega⟩
      have hqv : u ≤ q ∧ q < v := by omega
      have HQ : Hid (m + q = c0 ∧ u ≤ q ∧ q < v ∧ m + u = i0 ∧ m + v = j0) := ⟨hq, hqv.1, hqv.2, hi0, hj0⟩
      have d1 : Cl wr g (c0) k ((nthN s2 q)) := by have := cy.out wr q (by omega) HW.out.2.2; rw [hq] at this; exact this
      have d2 := cx.out wr HW.out.2.2
      have hC : Hid (St2 wr g c0 a k ((nthN s2 q)) (x) wr.drew) := ⟨d1, d2, (Below.refl _ _).drew⟩
      have hG : Hid (g < wr.heap.size) := Nat.lt_of_lt_of_le hG0 HW.out.2.2.size
      have hqm : nthN s2 q ∈ s2 := by rw [nthN_get (by have := HP.out; omega)]; exact List.getElem_mem _
      have HC : Hid (∀ W, St2 wr g c0 a k ((nthN s2 q)) (x) W → Calls Try.prog fg (#[k.v (nthN s2 q), k.v x] ++ cp) W fun e w' => e = .returned (.int .i64 (cf (nthN s2 q) x)) ∧ Below W.heap.size W w') := fun W hW => HF.out.2 W (Kept.of_below (below_step HW.out.2.2 (Nat.le_refl _) hW.2.2)) _ _ (HS.out.1 _ (List.mem_cons_of_mem _ hqm)) (HS.out.1 _ (List.mem_cons_self))
      have HBW : Hid (∀ W, St2 wr g c0 a k ((nthN s2 q)) (x) W → Below w.heap.size w W) := fun W hW => below_step HW.out.2.2 (Nat.le_refl _) hW.2.2
      have hcn : c0 < n := by have := HP.out; omega
      have Hwc : Hid (IntKind.i64.wrap (c0 : Int) = (c0 : Int)) := wrap_nat (by omega)
      have hqs : Hid ((u = 0 ∨ ltF cf (nthN s2 (u - 1)) x = true) ∧ (v = t ∨ ltF cf (nthN s2 v) x = false)) := ⟨HW.out.1, HW.out.2.1⟩
      clear d1 d2 HW f5 hq hqv hi0 hj0 hqm
      by_cases hcf : cf (nthN s2 q) x < 0
      · have HT : Hid (ltF cf (nthN s2 (q + 1 - 1)) x = true) := decide_eq_true hcf
        generalize nthN s2 q = y at *
        generalize cf y x = cc at *
        obtain ⟨f1, f2, f3, f4⟩ := HM.out
        have hwc := Hwc.out
        go_wp2_with fail
        refine wp_region_class (C := St2 wr g c0 a k (y) (x)) (by kernel_rfl) (by kernel_rfl) hC.out ?_
        repeat (first | go_big_quiet_skip | (go_big_quiet_want; apply Exists.intro; refine ⟨?_, ?_⟩; (focus (intro w' hw'; first | (obtain ⟨⟨m0, n0⟩, ⟨m1, n1⟩, m2⟩ := hw'; go_simp; with_reducible rfl) | (go_simp; refine (HC.out w' hw').mono ?_; rintro e w'' ⟨rfl, hb⟩; exact ⟨rfl, hw'.keep hG.out hb⟩))); (try simp only [Act.put, List.setIfInBounds_toArray, List.set_cons_zero, List.set_cons_succ]); go_big_quiet_on))
        refine wpQuiet_nil ?_
        intro w2 hw2
        have hB := HBW.out w2 hw2
        clear hw2 hC HC HBW f1 f2 f3 f4 hwc
        go_wp2
        go_roundw
        case rel => exact ⟨q + 1, v, c0 + 1, j0, by have := HQ.out; omega, hvt, by go_num, rfl, by have := HQ.out; omega, HQ.out.2.2.2.2, .inr HT.out, hqs.out.2, hB⟩
        case measure => have := HQ.out; simp [intOf]; omega
      · have HT : Hid (ltF cf (nthN s2 (q + 1 - 1)) x = false) := decide_eq_false hcf
        generalize nthN s2 q = y at *
        generalize cf y x = cc at *
        obtain ⟨f1, f2, f3, f4⟩ := HM.out
        have hwc := Hwc.out
        go_wp2_with fail
        refine wp_region_class (C := St2 wr g c0 a k (y) (x)) (by kernel_rfl) (by kernel_rfl) hC.out ?_
        repeat (first | go_big_quiet_skip | (go_big_quiet_want; apply Exists.intro; refine ⟨?_, ?_⟩; (focus (intro w' hw'; first | (obtain ⟨⟨m0, n0⟩, ⟨m1, n1⟩, m2⟩ := hw'; go_simp; with_reducible rfl) | (go_simp; refine (HC.out w' hw').mono ?_; rintro e w'' ⟨rfl, hb⟩; exact ⟨rfl, hw'.keep hG.out hb⟩))); (try simp only [Act.put, List.setIfInBounds_toArray, List.set_cons_zero, List.set_cons_succ]); go_big_quiet_on))
        refine wpQuiet_nil ?_
        intro w2 hw2
        have hB := HBW.out w2 hw2
        clear hw2 hC HC HBW f1 f2 f3 f4 hwc
        go_wp2
        go_roundw
        case rel => exact ⟨u, q, i0, c0, HQ.out.2.1, by have := HQ.out; omega, rfl, rfl, HQ.out.2.2.2.1, HQ.out.1, hqs.out.1, .inr HT.out, hB⟩
        case measure => have := HQ.out; simp [intOf]; omega
    · obtain rfl : u = v := by omega
      obtain rfl : i0 = j0 := by omega
      have hltI : ¬ (i0 : Int) < (i0 : Int) := by omega
      have e1 : s2.take u ++ s2.drop u = s2 := List.take_append_drop u s2
      have hul : u ≤ s2.length := by have := HP.out; omega
      have HR : Hid ((s2.take u ++ x :: s2.drop u).Perm (x :: s2) ∧ (s2.take u ++ x :: s2.drop u).Pairwise (RO (ltF cf))) := by
        have q1 := cut_lt HO.out (s1 := [x]) (List.pairwise_singleton _ _) HS.out.2.1 (i := 0) (j := u) hul (by rcases HW.out.1 with h | h; exact .inr (.inl h); exact .inr (.inr h))
        have q2 := cut_le HO.out (s1 := [x]) (List.pairwise_singleton _ _) HS.out.2.1 (i := 1) (j := u) (by simp) (by rcases HW.out.2.1 with h | h; exact .inr (.inl (by have := HP.out; omega)); exact .inr (.inr h))
        refine ⟨?_, put_back HO.out (by rw [e1]; exact HS.out.2.1) (by rw [e1]; exact HS.out.2.2) (fun y hy => q1 y hy x (by simp)) (fun y hy => q2 x (by simp) y hy)⟩
        refine List.perm_middle.trans ?_
        rw [e1]
      have HB : Hid (Da2 wr g N k (P ++ x :: (s2 ++ S)) ∧ Kept (fun x => x = g) w wr) := ⟨HD.out.below HW.out.2.2, Kept.of_below HW.out.2.2⟩
      have hiu : m + u = i0 := hi0
      have Hi1 : Hid (m + u = i0 ∧ u ≤ s2.length ∧ P.length = a ∧ a + 1 = m) := ⟨hi0, hul, HP.out.1, HP.out.2.1⟩
      have hin : i0 ≤ n := by have := HP.out; omega
      obtain ⟨i1, hi1⟩ : ∃ i1, i1 + 1 = i0 := ⟨i0 - 1, by have := Hi1.out; omega⟩
      have hi1I : (i0 : Int) - 1 = (i1 : Int) := by omega
      have Hi2 : Hid (i1 + 1 = i0 ∧ a + u = i1) := ⟨hi1, by have := Hi1.out; omega⟩
      have hain : i1 ≤ n := by omega
      clear HW e1 hul hi0 hj0 hiu hi1 cx cy
      go_wp2
      go_loopw [13] (fun i wr => ∃ (c j : Nat), i = .int .i64 j ∧ a + c = j ∧ c ≤ u ∧ Hid (Da2 wr g N k ((P ++ s2.take c) ++ x :: (s2.drop c ++ S)) ∧ Kept (fun x => x = g) w wr)) (fun i _ => i1 - (intOf i).toNat)
      case atStart => exact ⟨0, a, rfl, by omega, by omega, by simpa using HB.out.1, HB.out.2⟩
      case round =>
        clear HB
        obtain ⟨c, j, rfl, hcj, hcu, HW⟩ := hrel
        by_cases hlc : c < u
        · have hljI : (j : Int) < (i1 : Int) := by have := Hi2.out; omega
          have hcl : c < s2.length := by have := Hi1.out; omega
          obtain ⟨j1, hj1⟩ : ∃ j1, j + 1 = j1 := ⟨_, rfl⟩
          have hj1I : (j : Int) + 1 = (j1 : Int) := by omega
          have lL : j = (P ++ s2.take c).length := by have := Hi1.out; rw [List.length_append, List.length_take]; omega
          have eS : s2.drop c = s2[c] :: s2.drop (c + 1) := List.drop_eq_getElem_cons hcl
          have hD : Da2 wr g N k ((P ++ s2.take c) ++ x :: ([] ++ s2[c] :: (s2.drop (c + 1) ++ S))) := by have := HW.out.1; rw [eS] at this; simp only [List.append_assoc, List.cons_append, List.nil_append] at this ⊢; exact this
          have c1 : Cl wr g (j) k (x) := by
            have := hD.cell (i := j) (by rw [lL]; simp)
            rw [lL, nthN_mid] at this
            rw [lL]; exact this
          have c2 : Cl wr g (j1) k (s2[c]) := by
            have := hD.cell (i := j1) (by rw [← hj1, lL]; simp; omega)
            have e2 : nthN ((P ++ s2.take c) ++ x :: ([] ++ s2[c] :: (s2.drop (c + 1) ++ S))) j1 = s2[c] := by
              have h3 := nthN_mid ((P ++ s2.take c) ++ [x]) (s2.drop (c + 1) ++ S) s2[c]
              rw [show ((P ++ s2.take c) ++ [x]).length = j1 by rw [List.length_append, ← lL, ← hj1]; rfl] at h3
              simp only [List.append_assoc, List.cons_append, List.nil_append] at h3 ⊢
              exact h3
            rw [e2] at this
            exact this
          have HN : Hid (Da2 (set2 (set2 wr g (j) k (s2[c])) g (j1) k (x)) g N k ((P ++ s2.take (c + 1)) ++ x :: (s2.drop (c + 1) ++ S)) ∧ Kept (fun x => x = g) w (set2 (set2 wr g (j) k (s2[c])) g (j1) k (x))) := by
            have h1 := hD.swap (i := j) (j := j1) lL (by rw [← lL]; simp; omega)
            have tU : s2.take (c + 1) = s2.take c ++ [s2[c]] := by rw [List.take_add_one, List.getElem?_eq_getElem hcl]; rfl
            refine ⟨?_, kept_swap2 HW.out.2⟩
            rw [tU]
            simp only [List.append_assoc, List.cons_append, List.nil_append] at h1 ⊢
            exact h1
          have hf := hD.free
          have hjn : j < n := by have := Hi2.out; omega
          have hj1n : j1 < n := by have := Hi2.out; have := Hi1.out; omega
          have hne : ¬ j = j1 := by omega
          have hne' : ¬ j1 = j := by omega
          have HJ : Hid (a + c = j ∧ j + 1 = j1 ∧ c < u) := ⟨hcj, hj1, hlc⟩
          clear HW hD lL eS hj1 hcj
          generalize s2[c] = y at *
          have d1 : wr.drew.cell? ⟨g, (j) * 2, none⟩ = some (k.p x) := c1.1
          have d1' : wr.drew.cell? ⟨g, (j) * 2 + 1, none⟩ = some (k.q x) := c1.2
          have d2 : wr.drew.cell? ⟨g, (j1) * 2, none⟩ = some (k.p y) := c2.1
          have d2' : wr.drew.cell? ⟨g, (j1) * 2 + 1, none⟩ = some (k.q y) := c2.2
          have df : ∀ o, wr.drew.frozen? ⟨g, o, none⟩ = false := hf
          go_wp2_with fail
          go_region
          all_goals
            go_wp2
            go_roundw
            case rel => exact ⟨c + 1, j1, by go_num, by have := HJ.out; omega, by omega, HN.out.1, kept_drew HN.out.2⟩
            case measure => have := HJ.out; simp [intOf]; omega
        · obtain rfl : c = u := by omega
          have hljI : ¬ (j : Int) < (i1 : Int) := by have := Hi2.out; omega
          have HE : Hid (Kept (fun x => x = g) w wr ∧ ∃ s', s'.Perm (x :: s2) ∧ s'.Pairwise (RO (ltF cf)) ∧ Da2 wr g N k (P ++ (s' ++ S))) := ⟨HW.out.2, s2.take c ++ x :: s2.drop c, HR.out.1, HR.out.2, by have := HW.out.1; simp only [List.append_assoc, List.cons_append] at this ⊢; exact this⟩
          clear HW
          go_wp2
          (try simp only [Exit.inBlock, Exit.then])
          refine bodyPost_ret (results_none rfl _ _ _) rfl ?_
          exact ⟨rfl, HE.out.1, HE.out.2⟩
end Go.Proofs.Ytmcjgncpblbhpaa
