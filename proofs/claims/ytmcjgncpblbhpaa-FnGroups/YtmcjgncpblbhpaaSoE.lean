/- Two lists of rows merged in place (stage 13). -/
import Derived.Test.YtmcjgncpblbhpaaSoD
namespace Go.Proofs.Ytmcjgncpblbhpaa
open Go.RowKit

/-- Where two lists are cut: what is ahead of one cut may stand ahead of what is behind the other. -/
def SymEnd (lt : Nat → Nat → Bool) (s1 s2 : List Nat) (i j : Nat) : Prop := i ≤ s1.length ∧ j ≤ s2.length ∧ (i = 0 ∨ j = s2.length ∨ lt (nthN s2 j) (nthN s1 (i - 1)) = false) ∧ (i = s1.length ∨ j = 0 ∨ lt (nthN s2 (j - 1)) (nthN s1 i) = true)
/-- What merging answers. -/
def RetM (g N : Nat) (k : Cel) (cf : Nat → Nat → Int) (P s1 s2 S : List Nat) (w : World) (e : Ending) (w' : World) : Prop := e = .returned (.tuple #[]) ∧ Kept (fun x => x = g) w w' ∧ ∃ s', s'.Perm (s1 ++ s2) ∧ s'.Pairwise (RO (ltF cf)) ∧ Dat w' g N k (P ++ (s' ++ S))
/-- Merging does so of lists of up to L rows. -/
def MrgL (g N cap n nn : Nat) (k : Cel) (cf : Nat → Nat → Int) (fg : Nat) (cp : Array Value) (L : Nat) : Prop :=
  ∀ (P s1 s2 S : List Nat) (w : World), s1.length + s2.length ≤ L → 0 < s1.length → 0 < s2.length → Dat w g N k (P ++ (s1 ++ (s2 ++ S))) → (P ++ (s1 ++ (s2 ++ S))).length ≤ n → (∀ x ∈ s1 ++ s2, x < nn) → s1.Pairwise (RO (ltF cf)) → s2.Pairwise (RO (ltF cf)) → (∀ x ∈ s1, ∀ y ∈ s2, x < y) → CmpW g k nn cf w fg cp →
    Calls Try.prog 111 #[.slice (some ⟨g, 0, none⟩) n cap, .int .i64 (P.length : Nat), .int .i64 ((P.length + s1.length : Nat)), .int .i64 ((P.length + s1.length + s2.length : Nat)), .func (.func fg) #[] cp] w (RetM g N k cf P s1 s2 S w)
theorem sym_cut {lt : Nat → Nat → Bool} (ho : LtO lt) {s1 s2 : List Nat} (p1 : s1.Pairwise (RO lt)) (p2 : s2.Pairwise (RO lt)) {i j : Nat} (h : SymEnd lt s1 s2 i j) : ∃ A B C D, s1 = A ++ B ∧ s2 = C ++ D ∧ A.length = i ∧ C.length = j ∧ (∀ x ∈ A, ∀ y ∈ D, lt y x = false) ∧ ∀ y ∈ C, ∀ x ∈ B, lt y x = true :=
  ⟨s1.take i, s1.drop i, s2.take j, s2.drop j, (List.take_append_drop _ _).symm, (List.take_append_drop _ _).symm, by rw [List.length_take]; have := h.1; omega, by rw [List.length_take]; have := h.2.1; omega, cut_le ho p1 p2 h.1 h.2.2.1, cut_lt ho p1 p2 h.2.1 h.2.2.2⟩
set_option maxRecDepth 100000 in
set_option maxHeartbeats 16000000 in
theorem sym_two (g N cap n nn : Nat) (k : Cel) (cf : Nat → Nat → Int) (ho : LtO (ltF cf)) (fg : Nat) (cp : Array Value) (hN : n ≤ 4096) (L : Nat) (ih : MrgL g N cap n nn k cf fg cp L) (P s1 s2 S : List Nat) (w : World) (hL : s1.length + s2.length ≤ L + 1) (h1 : 2 ≤ s1.length) (h2 : 2 ≤ s2.length) (h : Dat w g N k (P ++ (s1 ++ (s2 ++ S)))) (hn : (P ++ (s1 ++ (s2 ++ S))).length ≤ n) (hs : ∀ x ∈ s1 ++ s2, x < nn) (p1 : s1.Pairwise (RO (ltF cf))) (p2 : s2.Pairwise (RO (ltF cf))) (hi : ∀ x ∈ s1, ∀ y ∈ s2, x < y) (hF : CmpW g k nn cf w fg cp) :
    Calls Try.prog 111 #[.slice (some ⟨g, 0, none⟩) n cap, .int .i64 (P.length : Nat), .int .i64 ((P.length + s1.length : Nat)), .int .i64 ((P.length + s1.length + s2.length : Nat)), .func (.func fg) #[] cp] w (RetM g N k cf P s1 s2 S w) := by
  have HO : Hid (LtO (ltF cf)) := ho
  have HS : Hid ((∀ x ∈ s1 ++ s2, x < nn) ∧ s1.Pairwise (RO (ltF cf)) ∧ s2.Pairwise (RO (ltF cf)) ∧ ∀ x ∈ s1, ∀ y ∈ s2, x < y) := ⟨hs, p1, p2, hi⟩
  have HF : Hid (CmpW g k nn cf w fg cp) := hF
  have hIH : Hid (MrgL g N cap n nn k cf fg cp L) := ih
  have hE := hF.1
  unfold Ent at hE
  have HD : Hid (Dat w g N k (P ++ (s1 ++ (s2 ++ S)))) := h
  have hG0 : g < w.heap.size := h.lt
  simp only [List.length_append] at hn
  obtain ⟨t1, ht1⟩ : ∃ t, s1.length = t := ⟨_, rfl⟩
  obtain ⟨t2, ht2⟩ : ∃ t, s2.length = t := ⟨_, rfl⟩
  obtain ⟨a, ha⟩ : ∃ a, P.length = a := ⟨_, rfl⟩
  obtain ⟨m, hm⟩ : ∃ m, P.length + s1.length = m := ⟨_, rfl⟩
  obtain ⟨b, hb⟩ : ∃ b, m + s2.length = b := ⟨_, rfl⟩
  obtain ⟨mi, hmi⟩ : ∃ mi, mi = (a + b) / 2 := ⟨_, rfl⟩
  obtain ⟨nq, hnq⟩ : ∃ nq, mi + m = nq := ⟨_, rfl⟩
  obtain ⟨pq, hpq⟩ : ∃ pq, pq + 1 = nq := ⟨nq - 1, by omega⟩
  have HP : Hid (P.length = a ∧ a + t1 = m ∧ s1.length = t1 ∧ m + t2 = b ∧ s2.length = t2 ∧ b ≤ n ∧ 2 ≤ t1 ∧ 2 ≤ t2 ∧ 2 * mi ≤ a + b ∧ a + b ≤ 2 * mi + 1 ∧ mi + m = nq ∧ pq + 1 = nq ∧ t1 + t2 ≤ L + 1 ∧ P.length + (s1.length + (s2.length + S.length)) ≤ n) := by refine ⟨?_, ?_, ?_, ?_, ?_, ?_, ?_, ?_, ?_, ?_, ?_, ?_, ?_, ?_⟩ <;> omega
  obtain ⟨d, hma, hd0⟩ : ∃ d : Nat, (m : Int) - (a : Int) = (d : Int) ∧ d ≠ 1 := ⟨t1, by omega, by omega⟩
  have hd1 : ((d : Int) == 1) = false := by simp; omega
  obtain ⟨d', hbm, hd0'⟩ : ∃ d : Nat, (b : Int) - (m : Int) = (d : Int) ∧ d ≠ 1 := ⟨t2, by omega, by omega⟩
  have hd1' : ((d' : Int) == 1) = false := by simp; omega
  have hmnI : (mi : Int) + (m : Int) = (nq : Int) := by omega
  have hpqI : (nq : Int) - 1 = (pq : Int) := by omega
  have hmn : m < n := by omega
  have hbn : b ≤ n := by omega
  have han : a < n := by omega
  have hnn : nq ≤ 8192 := by omega
  rw [hm, hb, ha]
  clear h hn hs hF ho ht1 ht2 ha hm hb p1 p2 hi h1 h2 hd0 hd0' hL ih hmi hnq hpq
  have c1 : Hid (∀ W q, q < t1 → Below w.heap.size w W → W.cell? ⟨g, a + q, none⟩ = some (k.v (nthN s1 q))) := fun W q hq hW => by
    have h0 := HP.out
    have h1 := (HD.out.below hW).cell (i := a + q) (by simp; omega)
    have e : nthN (P ++ (s1 ++ (s2 ++ S))) (a + q) = nthN s1 q := by rw [← h0.1, nth_right, nth_left (by omega)]
    rw [e] at h1
    exact h1
  have c2 : Hid (∀ W q, q < t2 → Below w.heap.size w W → W.cell? ⟨g, m + q, none⟩ = some (k.v (nthN s2 q))) := fun W q hq hW => by
    have h0 := HP.out
    have h1 := (HD.out.below hW).cell (i := m + q) (by simp; omega)
    have e : nthN (P ++ (s1 ++ (s2 ++ S))) (m + q) = nthN s2 q := by
      rw [show m + q = P.length + (s1.length + q) by omega, nth_right, nth_right, nth_left (by omega)]
    rw [e] at h1
    exact h1
  by_cases hmm : mi < m
  · have hmI : (mi : Int) < (m : Int) := by omega
    obtain ⟨x0, hx0⟩ : ∃ x0, x0 + b = nq := ⟨nq - b, by have := HP.out; omega⟩
    have hx0I : (nq : Int) - (b : Int) = (x0 : Int) := by omega
    obtain ⟨r0, hr0⟩ : ∃ r0, mi = r0 := ⟨_, rfl⟩
    have HX0 : Hid (a ≤ x0 ∧ x0 ≤ r0 ∧ r0 ≤ m ∧ r0 ≤ mi ∧ (x0 = a ∨ mi + m - x0 = b) ∧ (r0 = m ∨ r0 = mi) ∧ m ≤ mi + m - r0 ∧ mi + m - x0 ≤ b) := by have := HP.out; refine ⟨?_, ?_, ?_, ?_, ?_, ?_, ?_, ?_⟩ <;> omega
    have HR0 : Hid (mi = r0) := hr0
    clear hr0
    clear hx0 hmm
    obtain ⟨s9, g1, g2, g3⟩ : ∃ s9 : Nat, IntKind.u64.wrap ((a : Int) + (b : Int)) = (s9 : Int) ∧ (s9 : Int) / 2 = (mi : Int) ∧ s9 ≤ 8192 := ⟨a + b, by have h0 := HP.out; simp only [IntKind.wrap, IntKind.signed, IntKind.bits]; simp; omega, by have h0 := HP.out; push_cast; omega, by have h0 := HP.out; omega⟩
    have hmin : mi ≤ n := by have := HP.out; omega
    go_enter Try.func111, Try.ntmps111
    go_wp2
    clear g1 g2 g3
    go_loopw [20, 21] (fun i j wr => ∃ x z : Nat, x0 ≤ x ∧ x ≤ z ∧ z ≤ r0 ∧ i = .int .i64 x ∧ j = .int .i64 z ∧ Hid ((x = x0 ∨ ltF cf (nthN s2 (mi - x)) (nthN s1 (x - 1 - a)) = false) ∧ (z = r0 ∨ ltF cf (nthN s2 (mi - 1 - z)) (nthN s1 (z - a)) = true) ∧ Below w.heap.size w wr)) (fun i j _ => (intOf j).toNat - (intOf i).toNat)
    case atStart => exact ⟨x0, r0, by omega, HX0.out.2.1, by omega, rfl, by rw [HR0.out], .inl rfl, .inl rfl, Below.refl _ _⟩
    case round =>
      obtain ⟨x, z, hx0, hxz, hzr, rfl, rfl, HW⟩ := hrel
      by_cases hlt : x < z
      · have hltI : (x : Int) < (z : Int) := by omega
        have HX := HX0.out
        obtain ⟨c0, f5⟩ : ∃ c0, c0 = (x + z) / 2 := ⟨_, rfl⟩
        obtain ⟨s0, HM⟩ : ∃ s0 : Nat, Hid (wrap64 ((x : Int) + (z : Int)) = (s0 : Int) ∧ IntKind.u64.wrap (s0 : Int) = (s0 : Int) ∧ (s0 : Int) / 2 = (c0 : Int) ∧ wrap64 (c0 : Int) = (c0 : Int)) := mid_facts x z c0 (by have := HP.out; omega) f5
        have hcv : x ≤ c0 ∧ c0 < z := by omega
        obtain ⟨q, hq⟩ : ∃ q, a + q = c0 := ⟨c0 - a, by omega⟩
        obtain ⟨pc, hpc⟩ : ∃ pc : Nat, (pq : Int) - (c0 : Int) = (pc : Int) ∧ pc = pq - c0 := ⟨pq - c0, by have := HP.out; omega, rfl⟩
        obtain ⟨r, hr⟩ : ∃ r, m + r = pc := ⟨pc - m, by have := HP.out; omega⟩
        have hrq : r = mi - 1 - c0 ∧ q = c0 - a ∧ r < t2 ∧ q < t1 := by have := HP.out; omega
        have hpc1 : (pq : Int) - (c0 : Int) = (pc : Int) := hpc.1
        have d1 : wr.cell? ⟨g, c0, none⟩ = some (k.v (nthN s1 q)) := by have := c1.out wr q hrq.2.2.2 HW.out.2.2; rw [hq] at this; exact this
        have d2 : wr.cell? ⟨g, pc, none⟩ = some (k.v (nthN s2 r)) := by have := c2.out wr r hrq.2.2.1 HW.out.2.2; rw [hr] at this; exact this
        have hC : Hid (StC wr g pc c0 (k.v (nthN s2 r)) (k.v (nthN s1 q)) wr.drew) := ⟨d2, d1, (Below.refl _ _).drew⟩
        have hG : Hid (g < wr.heap.size) := Nat.lt_of_lt_of_le hG0 HW.out.2.2.size
        have hqm : nthN s1 q ∈ s1 := by rw [nthN_get (by have := HP.out; omega)]; exact List.getElem_mem _
        have hrm : nthN s2 r ∈ s2 := by rw [nthN_get (by have := HP.out; omega)]; exact List.getElem_mem _
        have HC : Hid (∀ W, StC wr g pc c0 (k.v (nthN s2 r)) (k.v (nthN s1 q)) W → Calls Try.prog fg (#[k.v (nthN s2 r), k.v (nthN s1 q)] ++ cp) W fun e w' => e = .returned (.int .i64 (cf (nthN s2 r) (nthN s1 q))) ∧ Below W.heap.size W w') := fun W hW => HF.out.2 W (Kept.of_below (below_step HW.out.2.2 (Nat.le_refl _) hW.2.2)) _ _ (HS.out.1 _ (List.mem_append_right _ hrm)) (HS.out.1 _ (List.mem_append_left _ hqm))
        have HBW : Hid (∀ W, StC wr g pc c0 (k.v (nthN s2 r)) (k.v (nthN s1 q)) W → Below w.heap.size w W) := fun W hW => below_step HW.out.2.2 (Nat.le_refl _) hW.2.2
        have hcn : c0 < n := by have := HP.out; omega
        have hpn : pc < n := by have := HP.out; omega
        have Hwc : Hid (IntKind.i64.wrap (c0 : Int) = (c0 : Int) ∧ IntKind.i64.wrap (pc : Int) = (pc : Int)) := ⟨wrap_nat (by omega), wrap_nat (by omega)⟩
        have hqs : Hid ((x = x0 ∨ ltF cf (nthN s2 (mi - x)) (nthN s1 (x - 1 - a)) = false) ∧ (z = r0 ∨ ltF cf (nthN s2 (mi - 1 - z)) (nthN s1 (z - a)) = true)) := ⟨HW.out.1, HW.out.2.1⟩
        have HQ : Hid (x ≤ c0 ∧ c0 < z ∧ r = mi - 1 - c0 ∧ q = c0 - a ∧ x0 ≤ x ∧ z ≤ r0) := ⟨hcv.1, hcv.2, hrq.1, hrq.2.1, hx0, hzr⟩
        have HT : Hid (ltF cf (nthN s2 (mi - 1 - c0)) (nthN s1 (c0 - a)) = ltF cf (nthN s2 r) (nthN s1 q)) := by rw [hrq.1, hrq.2.1]; rfl
        clear d1 d2 HW f5 hq hcv hqm hrm HX hpc hr hrq hx0 hzr hxz
        by_cases hcf : cf (nthN s2 r) (nthN s1 q) < 0
        · have HT2 : Hid (ltF cf (nthN s2 (mi - 1 - c0)) (nthN s1 (c0 - a)) = true) := HT.out.trans (decide_eq_true hcf)
          clear HT
          generalize nthN s2 r = y at *
          generalize nthN s1 q = x' at *
          generalize cf y x' = cc at *
          have hcf2 : (!decide (cc < 0)) = false := by simp; omega
          obtain ⟨f1, f2, f3, f4⟩ := HM.out
          obtain ⟨hwc, hwp⟩ := Hwc.out
          go_wp2_with fail
          refine wp_region_class (C := StC wr g pc c0 (k.v y) (k.v x')) (by kernel_rfl) (by kernel_rfl) hC.out ?_
          repeat (first | go_big_quiet_skip | (go_big_quiet_want; apply Exists.intro; refine ⟨?_, ?_⟩; (focus (intro w' hw'; first | (obtain ⟨m0, m1, m2⟩ := hw'; go_simp; with_reducible rfl) | (go_simp; refine (HC.out w' hw').mono ?_; rintro e w'' ⟨rfl, hb⟩; exact ⟨rfl, hw'.keep hG.out hb⟩))); (try simp only [Act.put, List.setIfInBounds_toArray, List.set_cons_zero, List.set_cons_succ]); go_big_quiet_on))
          refine wpQuiet_nil ?_
          intro w2 hw2
          have hB := HBW.out w2 hw2
          clear hw2 hC HC HBW f1 f2 f3 f4 hwc hwp
          go_wp2
          go_roundw
          case rel => exact ⟨x, c0, HQ.out.2.2.2.2.1, HQ.out.1, by have := HQ.out; omega, rfl, rfl, hqs.out.1, .inr HT2.out, hB⟩
          case measure => have := HQ.out; simp [intOf]; omega
        · have HT2 : Hid (ltF cf (nthN s2 (mi - (c0 + 1))) (nthN s1 (c0 + 1 - 1 - a)) = false) := by
            have e : mi - (c0 + 1) = mi - 1 - c0 := by omega
            rw [e]
            exact HT.out.trans (decide_eq_false hcf)
          clear HT
          generalize nthN s2 r = y at *
          generalize nthN s1 q = x' at *
          generalize cf y x' = cc at *
          have hcf2 : (!decide (cc < 0)) = true := by simp; omega
          obtain ⟨f1, f2, f3, f4⟩ := HM.out
          obtain ⟨hwc, hwp⟩ := Hwc.out
          go_wp2_with fail
          refine wp_region_class (C := StC wr g pc c0 (k.v y) (k.v x')) (by kernel_rfl) (by kernel_rfl) hC.out ?_
          repeat (first | go_big_quiet_skip | (go_big_quiet_want; apply Exists.intro; refine ⟨?_, ?_⟩; (focus (intro w' hw'; first | (obtain ⟨m0, m1, m2⟩ := hw'; go_simp; with_reducible rfl) | (go_simp; refine (HC.out w' hw').mono ?_; rintro e w'' ⟨rfl, hb⟩; exact ⟨rfl, hw'.keep hG.out hb⟩))); (try simp only [Act.put, List.setIfInBounds_toArray, List.set_cons_zero, List.set_cons_succ]); go_big_quiet_on))
          refine wpQuiet_nil ?_
          intro w2 hw2
          have hB := HBW.out w2 hw2
          clear hw2 hC HC HBW f1 f2 f3 f4 hwc hwp
          go_wp2
          go_roundw
          case rel => exact ⟨c0 + 1, z, by have := HQ.out; omega, by have := HQ.out; omega, HQ.out.2.2.2.2.2, by go_num, rfl, .inr HT2.out, hqs.out.2, hB⟩
          case measure => have := HQ.out; simp [intOf]; omega
      · obtain rfl : x = z := by omega
        have hltI : ¬ (x : Int) < (x : Int) := by omega
        have HX := HX0.out
        obtain ⟨e, he⟩ : ∃ e, mi + m - x = e := ⟨_, rfl⟩
        have heI : (nq : Int) - (x : Int) = (e : Int) := by have := HP.out; omega
        have HE : SymEnd (ltF cf) s1 s2 (x - a) (mi - x) := ⟨by have := HP.out; omega, by have := HP.out; omega, by
          rcases HW.out.1 with h | h
          · have := HP.out; omega
          · exact .inr (.inr (by rw [show x - a - 1 = x - 1 - a by omega]; exact h)), by
          rcases HW.out.2.1 with h | h
          · have := HP.out; omega
          · exact .inr (.inr (by rw [show mi - x - 1 = mi - 1 - x by omega]; exact h))⟩
        obtain ⟨A, B, C, D, e1, e2, lA, lC, hAD, hCB⟩ := sym_cut HO.out HS.out.2.1 HS.out.2.2.1 HE
        have lB : A.length + B.length = s1.length := by rw [e1, List.length_append]
        have lD : C.length + D.length = s2.length := by rw [e2, List.length_append]
        have HQ : Hid (a + A.length = x ∧ x + B.length = m ∧ m + C.length = e ∧ e + D.length = b ∧ x + C.length = mi ∧ mi + B.length = e ∧ P.length = a ∧ A.length + B.length + (C.length + D.length) ≤ L + 1 ∧ 2 ≤ A.length + B.length ∧ 2 ≤ C.length + D.length ∧ P.length + (A.length + B.length + (C.length + D.length + S.length)) ≤ n ∧ a + 2 ≤ mi ∧ mi + 2 ≤ b) := by have := HP.out; refine ⟨?_, ?_, ?_, ?_, ?_, ?_, ?_, ?_, ?_, ?_, ?_, ?_, ?_⟩ <;> omega
        have KW : Hid (Kept (fun x => x = g) w wr ∧ Dat wr g N k (P ++ (A ++ (B ++ (C ++ (D ++ S)))))) := ⟨Kept.of_below HW.out.2.2, by have := HD.out.below HW.out.2.2; rw [e1, e2] at this; simp only [List.append_assoc] at this; exact this⟩
        have HS3 : Hid ((∀ x ∈ (A ++ B) ++ (C ++ D), x < nn) ∧ (A ++ B).Pairwise (RO (ltF cf)) ∧ (C ++ D).Pairwise (RO (ltF cf)) ∧ ∀ x ∈ A ++ B, ∀ y ∈ C ++ D, x < y) := by have := HS.out; rw [e1, e2] at this; exact this
        have HR : Hid (∀ W, 0 < B.length → 0 < C.length → Dat W g N k (P ++ (A ++ (B ++ (C ++ (D ++ S))))) → Calls Try.prog 115 #[.slice (some ⟨g, 0, none⟩) n cap, .int .i64 (x : Nat), .int .i64 (m : Nat), .int .i64 (e : Nat), .func (.func fg) #[] cp] W fun r w' => r = .returned (.tuple #[]) ∧ Dat w' g N k (P ++ (A ++ (C ++ (B ++ (D ++ S))))) ∧ Kept (fun x => x = g) W w') := fun W h1 h2 h3 => by
          have h0 := HQ.out
          have := rotate_any g N cap n k (P ++ A) B C (D ++ S) (.func (.func fg) #[] cp) W (by simp only [List.append_assoc]; exact h3) (by simp only [List.length_append]; omega) hN h1 h2
          rw [show (P ++ A).length + B.length = m by rw [List.length_append]; omega, show (P ++ A).length = x by rw [List.length_append]; omega, show m + C.length = e by omega] at this
          simp only [List.append_assoc] at this
          exact this
        have HLf : Hid (∀ W, 0 < A.length → 0 < C.length → Dat W g N k (P ++ (A ++ (C ++ (B ++ (D ++ S))))) → Kept (fun x => x = g) w W → Calls Try.prog 111 #[.slice (some ⟨g, 0, none⟩) n cap, .int .i64 (a : Nat), .int .i64 (x : Nat), .int .i64 (mi : Nat), .func (.func fg) #[] cp] W (RetM g N k cf P A C (B ++ (D ++ S)) W)) := fun W h1 h2 h3 hK => by
          have h0 := HQ.out
          have hs := HS3.out
          have := hIH.out P A C (B ++ (D ++ S)) W (by omega) h1 h2 h3 (by simp only [List.length_append]; omega) (fun x hx => hs.1 x (by rcases List.mem_append.1 hx with h | h; exact List.mem_append_left _ (List.mem_append_left _ h); exact List.mem_append_right _ (List.mem_append_left _ h))) (List.pairwise_append.1 hs.2.1).1 (List.pairwise_append.1 hs.2.2.1).1 (fun x hx y hy => hs.2.2.2 x (List.mem_append_left _ hx) y (List.mem_append_left _ hy)) (HF.out.kept hK)
          rw [show P.length + A.length = x by omega, show P.length = a by omega, show x + C.length = mi by omega] at this
          exact this
        have HRt : Hid (∀ (X : List Nat) W, X.length = A.length + C.length → 0 < B.length → 0 < D.length → Dat W g N k (P ++ (X ++ (B ++ (D ++ S)))) → Kept (fun x => x = g) w W → Calls Try.prog 111 #[.slice (some ⟨g, 0, none⟩) n cap, .int .i64 (mi : Nat), .int .i64 (e : Nat), .int .i64 (b : Nat), .func (.func fg) #[] cp] W (RetM g N k cf (P ++ X) B D S W)) := fun X W hX h1 h2 h3 hK => by
          have h0 := HQ.out
          have hs := HS3.out
          have := hIH.out (P ++ X) B D S W (by omega) h1 h2 (by simp only [List.append_assoc]; exact h3) (by simp only [List.length_append]; omega) (fun x hx => hs.1 x (by rcases List.mem_append.1 hx with h | h; exact List.mem_append_left _ (List.mem_append_right _ h); exact List.mem_append_right _ (List.mem_append_right _ h))) (List.pairwise_append.1 hs.2.1).2.1 (List.pairwise_append.1 hs.2.2.1).2.1 (fun x hx y hy => hs.2.2.2 x (List.mem_append_right _ hx) y (List.mem_append_right _ hy)) (HF.out.kept hK)
          rw [show (P ++ X).length + B.length = e by rw [List.length_append]; omega, show (P ++ X).length = mi by rw [List.length_append]; omega, show e + D.length = b by omega] at this
          exact this
        have HFn : Hid (∀ X Y W, X.Perm (A ++ C) → X.Pairwise (RO (ltF cf)) → Y.Perm (B ++ D) → Y.Pairwise (RO (ltF cf)) → Dat W g N k (P ++ (X ++ (Y ++ S))) → Kept (fun x => x = g) w W → RetM g N k cf P s1 s2 S w (.returned (.tuple #[])) W) := fun X Y W h1 h2 h3 h4 h5 h6 => by
          have hs := HS3.out
          obtain ⟨j1, j2⟩ := sym_join hs.2.1 hs.2.2.1 hs.2.2.2 hAD hCB HO.out h1 h3 h2 h4
          refine ⟨rfl, h6, X ++ Y, ?_, j1, by simp only [List.append_assoc]; exact h5⟩
          rw [e1, e2]
          exact j2
        have HTr : Hid ((A.length = 0 ∨ C.length = 0 → (A ++ C).Pairwise (RO (ltF cf))) ∧ (B.length = 0 ∨ D.length = 0 → (B ++ D).Pairwise (RO (ltF cf)))) := by
          have hs := HS3.out
          constructor
          · rintro (h | h)
            · rw [List.eq_nil_of_length_eq_zero h]; exact (List.pairwise_append.1 hs.2.2.1).1
            · rw [List.eq_nil_of_length_eq_zero h, List.append_nil]; exact (List.pairwise_append.1 hs.2.1).1
          · rintro (h | h)
            · rw [List.eq_nil_of_length_eq_zero h]; exact (List.pairwise_append.1 hs.2.2.1).2.1
            · rw [List.eq_nil_of_length_eq_zero h, List.append_nil]; exact (List.pairwise_append.1 hs.2.1).2.1
        have hen : e ≤ n := by have := HQ.out; have := HP.out; omega
        clear HW HE hAD hCB e1 e2 lA lC lB lD he HX hx0 hxz hzr
        have hb : 0 < B.length := by have := HQ.out; omega
        by_cases hc : 0 < C.length
        · skip
          by_cases ha : 0 < A.length
          · skip
            by_cases hd : 0 < D.length
            · skip
              have u1 : (x : Int) < (m : Int) := by have := HQ.out; omega
              have u2 : (m : Int) < (e : Int) := by have := HQ.out; omega
              have u3 : (a : Int) < (x : Int) := by have := HQ.out; omega
              have u4 : (x : Int) < (mi : Int) := by have := HQ.out; omega
              have u5 : (mi : Int) < (e : Int) := by have := HQ.out; omega
              have u6 : (e : Int) < (b : Int) := by have := HQ.out; omega
              go_wp2_with fail
              refine (HR.out wr (by omega) (by omega) KW.out.2).mono ?_
              rintro r wa ⟨rfl, d1, k1⟩
              have K1 : Hid (Kept (fun x => x = g) w wa ∧ Dat wa g N k (P ++ (A ++ (C ++ (B ++ (D ++ S)))))) := ⟨KW.out.1.trans k1, d1⟩
              clear d1 k1
              go_wp2_with fail
              refine (HLf.out wa (by omega) (by omega) K1.out.2 K1.out.1).mono ?_
              rintro r wb ⟨rfl, k2, X, hX, pX, d2⟩
              have K2 : Hid (Kept (fun x => x = g) w wb ∧ Dat wb g N k (P ++ (X ++ (B ++ (D ++ S)))) ∧ X.Perm (A ++ C) ∧ X.Pairwise (RO (ltF cf)) ∧ X.length = A.length + C.length) := ⟨K1.out.1.trans k2, d2, hX, pX, by rw [hX.length_eq, List.length_append]⟩
              clear k2 d2 hX pX
              clear K1 KW HR HLf
              go_wp2_with fail
              refine (HRt.out X wb K2.out.2.2.2.2 (by omega) (by omega) K2.out.2.1 K2.out.1).mono ?_
              rintro r wc ⟨rfl, k3, Y, hY, pY, d3⟩
              have K3 : Hid (RetM g N k cf P s1 s2 S w (.returned (.tuple #[])) wc) := HFn.out X Y wc K2.out.2.2.1 K2.out.2.2.2.1 hY pY (by simp only [List.append_assoc] at d3; exact d3) (K2.out.1.trans k3)
              clear k3 d3 hY pY
              clear K2 HRt HFn HTr
              go_wp2
              go_end0
              exact K3.out
            · skip
              have u1 : (x : Int) < (m : Int) := by have := HQ.out; omega
              have u2 : (m : Int) < (e : Int) := by have := HQ.out; omega
              have u3 : (a : Int) < (x : Int) := by have := HQ.out; omega
              have u4 : (x : Int) < (mi : Int) := by have := HQ.out; omega
              have u5 : (mi : Int) < (e : Int) := by have := HQ.out; omega
              have u6 : ¬ (e : Int) < (b : Int) := by have := HQ.out; omega
              go_wp2_with fail
              refine (HR.out wr (by omega) (by omega) KW.out.2).mono ?_
              rintro r wa ⟨rfl, d1, k1⟩
              have K1 : Hid (Kept (fun x => x = g) w wa ∧ Dat wa g N k (P ++ (A ++ (C ++ (B ++ (D ++ S)))))) := ⟨KW.out.1.trans k1, d1⟩
              clear d1 k1
              go_wp2_with fail
              refine (HLf.out wa (by omega) (by omega) K1.out.2 K1.out.1).mono ?_
              rintro r wb ⟨rfl, k2, X, hX, pX, d2⟩
              have K2 : Hid (Kept (fun x => x = g) w wb ∧ Dat wb g N k (P ++ (X ++ (B ++ (D ++ S)))) ∧ X.Perm (A ++ C) ∧ X.Pairwise (RO (ltF cf)) ∧ X.length = A.length + C.length) := ⟨K1.out.1.trans k2, d2, hX, pX, by rw [hX.length_eq, List.length_append]⟩
              clear k2 d2 hX pX
              clear K1 KW HR HLf
              have K3 : Hid (RetM g N k cf P s1 s2 S w (.returned (.tuple #[])) wb) := HFn.out X (B ++ D) wb K2.out.2.2.1 K2.out.2.2.2.1 (List.Perm.refl _) (HTr.out.2 (by omega)) (by simp only [List.append_assoc]; exact K2.out.2.1) K2.out.1
              clear K2 HRt HFn HTr
              go_wp2
              go_end0
              exact K3.out
          · skip
            by_cases hd : 0 < D.length
            · skip
              have u1 : (x : Int) < (m : Int) := by have := HQ.out; omega
              have u2 : (m : Int) < (e : Int) := by have := HQ.out; omega
              have u3 : ¬ (a : Int) < (x : Int) := by have := HQ.out; omega
              have u4 : (x : Int) < (mi : Int) := by have := HQ.out; omega
              have u5 : (mi : Int) < (e : Int) := by have := HQ.out; omega
              have u6 : (e : Int) < (b : Int) := by have := HQ.out; omega
              go_wp2_with fail
              refine (HR.out wr (by omega) (by omega) KW.out.2).mono ?_
              rintro r wa ⟨rfl, d1, k1⟩
              have K1 : Hid (Kept (fun x => x = g) w wa ∧ Dat wa g N k (P ++ (A ++ (C ++ (B ++ (D ++ S)))))) := ⟨KW.out.1.trans k1, d1⟩
              clear d1 k1
              obtain ⟨X, K2⟩ : ∃ X, Hid (Kept (fun x => x = g) w wa ∧ Dat wa g N k (P ++ (X ++ (B ++ (D ++ S)))) ∧ X.Perm (A ++ C) ∧ X.Pairwise (RO (ltF cf)) ∧ X.length = A.length + C.length) := ⟨A ++ C, K1.out.1, by have h9 := K1.out.2; simp only [List.append_assoc]; exact h9, List.Perm.refl _, HTr.out.1 (by omega), by rw [List.length_append]⟩
              clear K1 KW HR HLf
              go_wp2_with fail
              refine (HRt.out X wa K2.out.2.2.2.2 (by omega) (by omega) K2.out.2.1 K2.out.1).mono ?_
              rintro r wc ⟨rfl, k3, Y, hY, pY, d3⟩
              have K3 : Hid (RetM g N k cf P s1 s2 S w (.returned (.tuple #[])) wc) := HFn.out X Y wc K2.out.2.2.1 K2.out.2.2.2.1 hY pY (by simp only [List.append_assoc] at d3; exact d3) (K2.out.1.trans k3)
              clear k3 d3 hY pY
              clear K2 HRt HFn HTr
              go_wp2
              go_end0
              exact K3.out
            · skip
              have u1 : (x : Int) < (m : Int) := by have := HQ.out; omega
              have u2 : (m : Int) < (e : Int) := by have := HQ.out; omega
              have u3 : ¬ (a : Int) < (x : Int) := by have := HQ.out; omega
              have u4 : (x : Int) < (mi : Int) := by have := HQ.out; omega
              have u5 : (mi : Int) < (e : Int) := by have := HQ.out; omega
              have u6 : ¬ (e : Int) < (b : Int) := by have := HQ.out; omega
              go_wp2_with fail
              refine (HR.out wr (by omega) (by omega) KW.out.2).mono ?_
              rintro r wa ⟨rfl, d1, k1⟩
              have K1 : Hid (Kept (fun x => x = g) w wa ∧ Dat wa g N k (P ++ (A ++ (C ++ (B ++ (D ++ S)))))) := ⟨KW.out.1.trans k1, d1⟩
              clear d1 k1
              obtain ⟨X, K2⟩ : ∃ X, Hid (Kept (fun x => x = g) w wa ∧ Dat wa g N k (P ++ (X ++ (B ++ (D ++ S)))) ∧ X.Perm (A ++ C) ∧ X.Pairwise (RO (ltF cf)) ∧ X.length = A.length + C.length) := ⟨A ++ C, K1.out.1, by have h9 := K1.out.2; simp only [List.append_assoc]; exact h9, List.Perm.refl _, HTr.out.1 (by omega), by rw [List.length_append]⟩
              clear K1 KW HR HLf
              have K3 : Hid (RetM g N k cf P s1 s2 S w (.returned (.tuple #[])) wa) := HFn.out X (B ++ D) wa K2.out.2.2.1 K2.out.2.2.2.1 (List.Perm.refl _) (HTr.out.2 (by omega)) (by simp only [List.append_assoc]; exact K2.out.2.1) K2.out.1
              clear K2 HRt HFn HTr
              go_wp2
              go_end0
              exact K3.out
        · have hd : 0 < D.length := by have := HQ.out; omega
          have ha : 0 < A.length := by have := HQ.out; omega
          have u1 : (x : Int) < (m : Int) := by have := HQ.out; omega
          have u2 : ¬ (m : Int) < (e : Int) := by have := HQ.out; omega
          have u3 : (a : Int) < (x : Int) := by have := HQ.out; omega
          have u4 : ¬ (x : Int) < (mi : Int) := by have := HQ.out; omega
          have u5 : (mi : Int) < (e : Int) := by have := HQ.out; omega
          have u6 : (e : Int) < (b : Int) := by have := HQ.out; omega
          have K1 : Hid (Kept (fun x => x = g) w wr ∧ Dat wr g N k (P ++ (A ++ (C ++ (B ++ (D ++ S)))))) := ⟨KW.out.1, by have h9 := KW.out.2; rw [List.eq_nil_of_length_eq_zero (show C.length = 0 by omega)] at h9 ⊢; exact h9⟩
          obtain ⟨X, K2⟩ : ∃ X, Hid (Kept (fun x => x = g) w wr ∧ Dat wr g N k (P ++ (X ++ (B ++ (D ++ S)))) ∧ X.Perm (A ++ C) ∧ X.Pairwise (RO (ltF cf)) ∧ X.length = A.length + C.length) := ⟨A ++ C, K1.out.1, by have h9 := K1.out.2; simp only [List.append_assoc]; exact h9, List.Perm.refl _, HTr.out.1 (by omega), by rw [List.length_append]⟩
          clear K1 KW HR HLf
          go_wp2_with fail
          refine (HRt.out X wr K2.out.2.2.2.2 (by omega) (by omega) K2.out.2.1 K2.out.1).mono ?_
          rintro r wc ⟨rfl, k3, Y, hY, pY, d3⟩
          have K3 : Hid (RetM g N k cf P s1 s2 S w (.returned (.tuple #[])) wc) := HFn.out X Y wc K2.out.2.2.1 K2.out.2.2.2.1 hY pY (by simp only [List.append_assoc] at d3; exact d3) (K2.out.1.trans k3)
          clear k3 d3 hY pY
          clear K2 HRt HFn HTr
          go_wp2
          go_end0
          exact K3.out

  · have hmI : ¬ (mi : Int) < (m : Int) := by omega
    obtain ⟨x0, hx0⟩ : ∃ x0, a = x0 := ⟨_, rfl⟩
    obtain ⟨r0, hr0⟩ : ∃ r0, m = r0 := ⟨_, rfl⟩
    have HX0 : Hid (a ≤ x0 ∧ x0 ≤ r0 ∧ r0 ≤ m ∧ r0 ≤ mi ∧ (x0 = a ∨ mi + m - x0 = b) ∧ (r0 = m ∨ r0 = mi) ∧ m ≤ mi + m - r0 ∧ mi + m - x0 ≤ b) := by have := HP.out; refine ⟨?_, ?_, ?_, ?_, ?_, ?_, ?_, ?_⟩ <;> omega
    have HR0 : Hid (m = r0 ∧ a = x0) := ⟨hr0, hx0⟩
    clear hr0 hx0 hmm
    obtain ⟨s9, g1, g2, g3⟩ : ∃ s9 : Nat, IntKind.u64.wrap ((a : Int) + (b : Int)) = (s9 : Int) ∧ (s9 : Int) / 2 = (mi : Int) ∧ s9 ≤ 8192 := ⟨a + b, by have h0 := HP.out; simp only [IntKind.wrap, IntKind.signed, IntKind.bits]; simp; omega, by have h0 := HP.out; push_cast; omega, by have h0 := HP.out; omega⟩
    have hmin : mi ≤ n := by have := HP.out; omega
    go_enter Try.func111, Try.ntmps111
    go_wp2
    clear g1 g2 g3
    go_loopw [20, 21] (fun i j wr => ∃ x z : Nat, x0 ≤ x ∧ x ≤ z ∧ z ≤ r0 ∧ i = .int .i64 x ∧ j = .int .i64 z ∧ Hid ((x = x0 ∨ ltF cf (nthN s2 (mi - x)) (nthN s1 (x - 1 - a)) = false) ∧ (z = r0 ∨ ltF cf (nthN s2 (mi - 1 - z)) (nthN s1 (z - a)) = true) ∧ Below w.heap.size w wr)) (fun i j _ => (intOf j).toNat - (intOf i).toNat)
    case atStart => exact ⟨x0, r0, by omega, HX0.out.2.1, by omega, by rw [HR0.out.2], by rw [HR0.out.1], .inl rfl, .inl rfl, Below.refl _ _⟩
    case round =>
      obtain ⟨x, z, hx0, hxz, hzr, rfl, rfl, HW⟩ := hrel
      by_cases hlt : x < z
      · have hltI : (x : Int) < (z : Int) := by omega
        have HX := HX0.out
        obtain ⟨c0, f5⟩ : ∃ c0, c0 = (x + z) / 2 := ⟨_, rfl⟩
        obtain ⟨s0, HM⟩ : ∃ s0 : Nat, Hid (wrap64 ((x : Int) + (z : Int)) = (s0 : Int) ∧ IntKind.u64.wrap (s0 : Int) = (s0 : Int) ∧ (s0 : Int) / 2 = (c0 : Int) ∧ wrap64 (c0 : Int) = (c0 : Int)) := mid_facts x z c0 (by have := HP.out; omega) f5
        have hcv : x ≤ c0 ∧ c0 < z := by omega
        obtain ⟨q, hq⟩ : ∃ q, a + q = c0 := ⟨c0 - a, by omega⟩
        obtain ⟨pc, hpc⟩ : ∃ pc : Nat, (pq : Int) - (c0 : Int) = (pc : Int) ∧ pc = pq - c0 := ⟨pq - c0, by have := HP.out; omega, rfl⟩
        obtain ⟨r, hr⟩ : ∃ r, m + r = pc := ⟨pc - m, by have := HP.out; omega⟩
        have hrq : r = mi - 1 - c0 ∧ q = c0 - a ∧ r < t2 ∧ q < t1 := by have := HP.out; omega
        have hpc1 : (pq : Int) - (c0 : Int) = (pc : Int) := hpc.1
        have d1 : wr.cell? ⟨g, c0, none⟩ = some (k.v (nthN s1 q)) := by have := c1.out wr q hrq.2.2.2 HW.out.2.2; rw [hq] at this; exact this
        have d2 : wr.cell? ⟨g, pc, none⟩ = some (k.v (nthN s2 r)) := by have := c2.out wr r hrq.2.2.1 HW.out.2.2; rw [hr] at this; exact this
        have hC : Hid (StC wr g pc c0 (k.v (nthN s2 r)) (k.v (nthN s1 q)) wr.drew) := ⟨d2, d1, (Below.refl _ _).drew⟩
        have hG : Hid (g < wr.heap.size) := Nat.lt_of_lt_of_le hG0 HW.out.2.2.size
        have hqm : nthN s1 q ∈ s1 := by rw [nthN_get (by have := HP.out; omega)]; exact List.getElem_mem _
        have hrm : nthN s2 r ∈ s2 := by rw [nthN_get (by have := HP.out; omega)]; exact List.getElem_mem _
        have HC : Hid (∀ W, StC wr g pc c0 (k.v (nthN s2 r)) (k.v (nthN s1 q)) W → Calls Try.prog fg (#[k.v (nthN s2 r), k.v (nthN s1 q)] ++ cp) W fun e w' => e = .returned (.int .i64 (cf (nthN s2 r) (nthN s1 q))) ∧ Below W.heap.size W w') := fun W hW => HF.out.2 W (Kept.of_below (below_step HW.out.2.2 (Nat.le_refl _) hW.2.2)) _ _ (HS.out.1 _ (List.mem_append_right _ hrm)) (HS.out.1 _ (List.mem_append_left _ hqm))
        have HBW : Hid (∀ W, StC wr g pc c0 (k.v (nthN s2 r)) (k.v (nthN s1 q)) W → Below w.heap.size w W) := fun W hW => below_step HW.out.2.2 (Nat.le_refl _) hW.2.2
        have hcn : c0 < n := by have := HP.out; omega
        have hpn : pc < n := by have := HP.out; omega
        have Hwc : Hid (IntKind.i64.wrap (c0 : Int) = (c0 : Int) ∧ IntKind.i64.wrap (pc : Int) = (pc : Int)) := ⟨wrap_nat (by omega), wrap_nat (by omega)⟩
        have hqs : Hid ((x = x0 ∨ ltF cf (nthN s2 (mi - x)) (nthN s1 (x - 1 - a)) = false) ∧ (z = r0 ∨ ltF cf (nthN s2 (mi - 1 - z)) (nthN s1 (z - a)) = true)) := ⟨HW.out.1, HW.out.2.1⟩
        have HQ : Hid (x ≤ c0 ∧ c0 < z ∧ r = mi - 1 - c0 ∧ q = c0 - a ∧ x0 ≤ x ∧ z ≤ r0) := ⟨hcv.1, hcv.2, hrq.1, hrq.2.1, hx0, hzr⟩
        have HT : Hid (ltF cf (nthN s2 (mi - 1 - c0)) (nthN s1 (c0 - a)) = ltF cf (nthN s2 r) (nthN s1 q)) := by rw [hrq.1, hrq.2.1]; rfl
        clear d1 d2 HW f5 hq hcv hqm hrm HX hpc hr hrq hx0 hzr hxz
        by_cases hcf : cf (nthN s2 r) (nthN s1 q) < 0
        · have HT2 : Hid (ltF cf (nthN s2 (mi - 1 - c0)) (nthN s1 (c0 - a)) = true) := HT.out.trans (decide_eq_true hcf)
          clear HT
          generalize nthN s2 r = y at *
          generalize nthN s1 q = x' at *
          generalize cf y x' = cc at *
          have hcf2 : (!decide (cc < 0)) = false := by simp; omega
          obtain ⟨f1, f2, f3, f4⟩ := HM.out
          obtain ⟨hwc, hwp⟩ := Hwc.out
          go_wp2_with fail
          refine wp_region_class (C := StC wr g pc c0 (k.v y) (k.v x')) (by kernel_rfl) (by kernel_rfl) hC.out ?_
          repeat (first | go_big_quiet_skip | (go_big_quiet_want; apply Exists.intro; refine ⟨?_, ?_⟩; (focus (intro w' hw'; first | (obtain ⟨m0, m1, m2⟩ := hw'; go_simp; with_reducible rfl) | (go_simp; refine (HC.out w' hw').mono ?_; rintro e w'' ⟨rfl, hb⟩; exact ⟨rfl, hw'.keep hG.out hb⟩))); (try simp only [Act.put, List.setIfInBounds_toArray, List.set_cons_zero, List.set_cons_succ]); go_big_quiet_on))
          refine wpQuiet_nil ?_
          intro w2 hw2
          have hB := HBW.out w2 hw2
          clear hw2 hC HC HBW f1 f2 f3 f4 hwc hwp
          go_wp2
          go_roundw
          case rel => exact ⟨x, c0, HQ.out.2.2.2.2.1, HQ.out.1, by have := HQ.out; omega, rfl, rfl, hqs.out.1, .inr HT2.out, hB⟩
          case measure => have := HQ.out; simp [intOf]; omega
        · have HT2 : Hid (ltF cf (nthN s2 (mi - (c0 + 1))) (nthN s1 (c0 + 1 - 1 - a)) = false) := by
            have e : mi - (c0 + 1) = mi - 1 - c0 := by omega
            rw [e]
            exact HT.out.trans (decide_eq_false hcf)
          clear HT
          generalize nthN s2 r = y at *
          generalize nthN s1 q = x' at *
          generalize cf y x' = cc at *
          have hcf2 : (!decide (cc < 0)) = true := by simp; omega
          obtain ⟨f1, f2, f3, f4⟩ := HM.out
          obtain ⟨hwc, hwp⟩ := Hwc.out
          go_wp2_with fail
          refine wp_region_class (C := StC wr g pc c0 (k.v y) (k.v x')) (by kernel_rfl) (by kernel_rfl) hC.out ?_
          repeat (first | go_big_quiet_skip | (go_big_quiet_want; apply Exists.intro; refine ⟨?_, ?_⟩; (focus (intro w' hw'; first | (obtain ⟨m0, m1, m2⟩ := hw'; go_simp; with_reducible rfl) | (go_simp; refine (HC.out w' hw').mono ?_; rintro e w'' ⟨rfl, hb⟩; exact ⟨rfl, hw'.keep hG.out hb⟩))); (try simp only [Act.put, List.setIfInBounds_toArray, List.set_cons_zero, List.set_cons_succ]); go_big_quiet_on))
          refine wpQuiet_nil ?_
          intro w2 hw2
          have hB := HBW.out w2 hw2
          clear hw2 hC HC HBW f1 f2 f3 f4 hwc hwp
          go_wp2
          go_roundw
          case rel => exact ⟨c0 + 1, z, by have := HQ.out; omega, by have := HQ.out; omega, HQ.out.2.2.2.2.2, by go_num, rfl, .inr HT2.out, hqs.out.2, hB⟩
          case measure => have := HQ.out; simp [intOf]; omega
      · obtain rfl : x = z := by omega
        have hltI : ¬ (x : Int) < (x : Int) := by omega
        have HX := HX0.out
        obtain ⟨e, he⟩ : ∃ e, mi + m - x = e := ⟨_, rfl⟩
        have heI : (nq : Int) - (x : Int) = (e : Int) := by have := HP.out; omega
        have HE : SymEnd (ltF cf) s1 s2 (x - a) (mi - x) := ⟨by have := HP.out; omega, by have := HP.out; omega, by
          rcases HW.out.1 with h | h
          · have := HP.out; omega
          · exact .inr (.inr (by rw [show x - a - 1 = x - 1 - a by omega]; exact h)), by
          rcases HW.out.2.1 with h | h
          · have := HP.out; omega
          · exact .inr (.inr (by rw [show mi - x - 1 = mi - 1 - x by omega]; exact h))⟩
        obtain ⟨A, B, C, D, e1, e2, lA, lC, hAD, hCB⟩ := sym_cut HO.out HS.out.2.1 HS.out.2.2.1 HE
        have lB : A.length + B.length = s1.length := by rw [e1, List.length_append]
        have lD : C.length + D.length = s2.length := by rw [e2, List.length_append]
        have HQ : Hid (a + A.length = x ∧ x + B.length = m ∧ m + C.length = e ∧ e + D.length = b ∧ x + C.length = mi ∧ mi + B.length = e ∧ P.length = a ∧ A.length + B.length + (C.length + D.length) ≤ L + 1 ∧ 2 ≤ A.length + B.length ∧ 2 ≤ C.length + D.length ∧ P.length + (A.length + B.length + (C.length + D.length + S.length)) ≤ n ∧ a + 2 ≤ mi ∧ mi + 2 ≤ b) := by have := HP.out; refine ⟨?_, ?_, ?_, ?_, ?_, ?_, ?_, ?_, ?_, ?_, ?_, ?_, ?_⟩ <;> omega
        have KW : Hid (Kept (fun x => x = g) w wr ∧ Dat wr g N k (P ++ (A ++ (B ++ (C ++ (D ++ S)))))) := ⟨Kept.of_below HW.out.2.2, by have := HD.out.below HW.out.2.2; rw [e1, e2] at this; simp only [List.append_assoc] at this; exact this⟩
        have HS3 : Hid ((∀ x ∈ (A ++ B) ++ (C ++ D), x < nn) ∧ (A ++ B).Pairwise (RO (ltF cf)) ∧ (C ++ D).Pairwise (RO (ltF cf)) ∧ ∀ x ∈ A ++ B, ∀ y ∈ C ++ D, x < y) := by have := HS.out; rw [e1, e2] at this; exact this
        have HR : Hid (∀ W, 0 < B.length → 0 < C.length → Dat W g N k (P ++ (A ++ (B ++ (C ++ (D ++ S))))) → Calls Try.prog 115 #[.slice (some ⟨g, 0, none⟩) n cap, .int .i64 (x : Nat), .int .i64 (m : Nat), .int .i64 (e : Nat), .func (.func fg) #[] cp] W fun r w' => r = .returned (.tuple #[]) ∧ Dat w' g N k (P ++ (A ++ (C ++ (B ++ (D ++ S))))) ∧ Kept (fun x => x = g) W w') := fun W h1 h2 h3 => by
          have h0 := HQ.out
          have := rotate_any g N cap n k (P ++ A) B C (D ++ S) (.func (.func fg) #[] cp) W (by simp only [List.append_assoc]; exact h3) (by simp only [List.length_append]; omega) hN h1 h2
          rw [show (P ++ A).length + B.length = m by rw [List.length_append]; omega, show (P ++ A).length = x by rw [List.length_append]; omega, show m + C.length = e by omega] at this
          simp only [List.append_assoc] at this
          exact this
        have HLf : Hid (∀ W, 0 < A.length → 0 < C.length → Dat W g N k (P ++ (A ++ (C ++ (B ++ (D ++ S))))) → Kept (fun x => x = g) w W → Calls Try.prog 111 #[.slice (some ⟨g, 0, none⟩) n cap, .int .i64 (a : Nat), .int .i64 (x : Nat), .int .i64 (mi : Nat), .func (.func fg) #[] cp] W (RetM g N k cf P A C (B ++ (D ++ S)) W)) := fun W h1 h2 h3 hK => by
          have h0 := HQ.out
          have hs := HS3.out
          have := hIH.out P A C (B ++ (D ++ S)) W (by omega) h1 h2 h3 (by simp only [List.length_append]; omega) (fun x hx => hs.1 x (by rcases List.mem_append.1 hx with h | h; exact List.mem_append_left _ (List.mem_append_left _ h); exact List.mem_append_right _ (List.mem_append_left _ h))) (List.pairwise_append.1 hs.2.1).1 (List.pairwise_append.1 hs.2.2.1).1 (fun x hx y hy => hs.2.2.2 x (List.mem_append_left _ hx) y (List.mem_append_left _ hy)) (HF.out.kept hK)
          rw [show P.length + A.length = x by omega, show P.length = a by omega, show x + C.length = mi by omega] at this
          exact this
        have HRt : Hid (∀ (X : List Nat) W, X.length = A.length + C.length → 0 < B.length → 0 < D.length → Dat W g N k (P ++ (X ++ (B ++ (D ++ S)))) → Kept (fun x => x = g) w W → Calls Try.prog 111 #[.slice (some ⟨g, 0, none⟩) n cap, .int .i64 (mi : Nat), .int .i64 (e : Nat), .int .i64 (b : Nat), .func (.func fg) #[] cp] W (RetM g N k cf (P ++ X) B D S W)) := fun X W hX h1 h2 h3 hK => by
          have h0 := HQ.out
          have hs := HS3.out
          have := hIH.out (P ++ X) B D S W (by omega) h1 h2 (by simp only [List.append_assoc]; exact h3) (by simp only [List.length_append]; omega) (fun x hx => hs.1 x (by rcases List.mem_append.1 hx with h | h; exact List.mem_append_left _ (List.mem_append_right _ h); exact List.mem_append_right _ (List.mem_append_right _ h))) (List.pairwise_append.1 hs.2.1).2.1 (List.pairwise_append.1 hs.2.2.1).2.1 (fun x hx y hy => hs.2.2.2 x (List.mem_append_right _ hx) y (List.mem_append_right _ hy)) (HF.out.kept hK)
          rw [show (P ++ X).length + B.length = e by rw [List.length_append]; omega, show (P ++ X).length = mi by rw [List.length_append]; omega, show e + D.length = b by omega] at this
          exact this
        have HFn : Hid (∀ X Y W, X.Perm (A ++ C) → X.Pairwise (RO (ltF cf)) → Y.Perm (B ++ D) → Y.Pairwise (RO (ltF cf)) → Dat W g N k (P ++ (X ++ (Y ++ S))) → Kept (fun x => x = g) w W → RetM g N k cf P s1 s2 S w (.returned (.tuple #[])) W) := fun X Y W h1 h2 h3 h4 h5 h6 => by
          have hs := HS3.out
          obtain ⟨j1, j2⟩ := sym_join hs.2.1 hs.2.2.1 hs.2.2.2 hAD hCB HO.out h1 h3 h2 h4
          refine ⟨rfl, h6, X ++ Y, ?_, j1, by simp only [List.append_assoc]; exact h5⟩
          rw [e1, e2]
          exact j2
        have HTr : Hid ((A.length = 0 ∨ C.length = 0 → (A ++ C).Pairwise (RO (ltF cf))) ∧ (B.length = 0 ∨ D.length = 0 → (B ++ D).Pairwise (RO (ltF cf)))) := by
          have hs := HS3.out
          constructor
          · rintro (h | h)
            · rw [List.eq_nil_of_length_eq_zero h]; exact (List.pairwise_append.1 hs.2.2.1).1
            · rw [List.eq_nil_of_length_eq_zero h, List.append_nil]; exact (List.pairwise_append.1 hs.2.1).1
          · rintro (h | h)
            · rw [List.eq_nil_of_length_eq_zero h]; exact (List.pairwise_append.1 hs.2.2.1).2.1
            · rw [List.eq_nil_of_length_eq_zero h, List.append_nil]; exact (List.pairwise_append.1 hs.2.1).2.1
        have hen : e ≤ n := by have := HQ.out; have := HP.out; omega
        clear HW HE hAD hCB e1 e2 lA lC lB lD he HX hx0 hxz hzr
        by_cases hb : 0 < B.length
        · have hc : 0 < C.length := by have := HQ.out; omega
          by_cases ha : 0 < A.length
          · skip
            by_cases hd : 0 < D.length
            · skip
              have u1 : (x : Int) < (m : Int) := by have := HQ.out; omega
              have u2 : (m : Int) < (e : Int) := by have := HQ.out; omega
              have u3 : (a : Int) < (x : Int) := by have := HQ.out; omega
              have u4 : (x : Int) < (mi : Int) := by have := HQ.out; omega
              have u5 : (mi : Int) < (e : Int) := by have := HQ.out; omega
              have u6 : (e : Int) < (b : Int) := by have := HQ.out; omega
              go_wp2_with fail
              refine (HR.out wr (by omega) (by omega) KW.out.2).mono ?_
              rintro r wa ⟨rfl, d1, k1⟩
              have K1 : Hid (Kept (fun x => x = g) w wa ∧ Dat wa g N k (P ++ (A ++ (C ++ (B ++ (D ++ S)))))) := ⟨KW.out.1.trans k1, d1⟩
              clear d1 k1
              go_wp2_with fail
              refine (HLf.out wa (by omega) (by omega) K1.out.2 K1.out.1).mono ?_
              rintro r wb ⟨rfl, k2, X, hX, pX, d2⟩
              have K2 : Hid (Kept (fun x => x = g) w wb ∧ Dat wb g N k (P ++ (X ++ (B ++ (D ++ S)))) ∧ X.Perm (A ++ C) ∧ X.Pairwise (RO (ltF cf)) ∧ X.length = A.length + C.length) := ⟨K1.out.1.trans k2, d2, hX, pX, by rw [hX.length_eq, List.length_append]⟩
              clear k2 d2 hX pX
              clear K1 KW HR HLf
              go_wp2_with fail
              refine (HRt.out X wb K2.out.2.2.2.2 (by omega) (by omega) K2.out.2.1 K2.out.1).mono ?_
              rintro r wc ⟨rfl, k3, Y, hY, pY, d3⟩
              have K3 : Hid (RetM g N k cf P s1 s2 S w (.returned (.tuple #[])) wc) := HFn.out X Y wc K2.out.2.2.1 K2.out.2.2.2.1 hY pY (by simp only [List.append_assoc] at d3; exact d3) (K2.out.1.trans k3)
              clear k3 d3 hY pY
              clear K2 HRt HFn HTr
              go_wp2
              go_end0
              exact K3.out
            · skip
              have u1 : (x : Int) < (m : Int) := by have := HQ.out; omega
              have u2 : (m : Int) < (e : Int) := by have := HQ.out; omega
              have u3 : (a : Int) < (x : Int) := by have := HQ.out; omega
              have u4 : (x : Int) < (mi : Int) := by have := HQ.out; omega
              have u5 : (mi : Int) < (e : Int) := by have := HQ.out; omega
              have u6 : ¬ (e : Int) < (b : Int) := by have := HQ.out; omega
              go_wp2_with fail
              refine (HR.out wr (by omega) (by omega) KW.out.2).mono ?_
              rintro r wa ⟨rfl, d1, k1⟩
              have K1 : Hid (Kept (fun x => x = g) w wa ∧ Dat wa g N k (P ++ (A ++ (C ++ (B ++ (D ++ S)))))) := ⟨KW.out.1.trans k1, d1⟩
              clear d1 k1
              go_wp2_with fail
              refine (HLf.out wa (by omega) (by omega) K1.out.2 K1.out.1).mono ?_
              rintro r wb ⟨rfl, k2, X, hX, pX, d2⟩
              have K2 : Hid (Kept (fun x => x = g) w wb ∧ Dat wb g N k (P ++ (X ++ (B ++ (D ++ S)))) ∧ X.Perm (A ++ C) ∧ X.Pairwise (RO (ltF cf)) ∧ X.length = A.length + C.length) := ⟨K1.out.1.trans k2, d2, hX, pX, by rw [hX.length_eq, List.length_append]⟩
              clear k2 d2 hX pX
              clear K1 KW HR HLf
              have K3 : Hid (RetM g N k cf P s1 s2 S w (.returned (.tuple #[])) wb) := HFn.out X (B ++ D) wb K2.out.2.2.1 K2.out.2.2.2.1 (List.Perm.refl _) (HTr.out.2 (by omega)) (by simp only [List.append_assoc]; exact K2.out.2.1) K2.out.1
              clear K2 HRt HFn HTr
              go_wp2
              go_end0
              exact K3.out
          · skip
            by_cases hd : 0 < D.length
            · skip
              have u1 : (x : Int) < (m : Int) := by have := HQ.out; omega
              have u2 : (m : Int) < (e : Int) := by have := HQ.out; omega
              have u3 : ¬ (a : Int) < (x : Int) := by have := HQ.out; omega
              have u4 : (x : Int) < (mi : Int) := by have := HQ.out; omega
              have u5 : (mi : Int) < (e : Int) := by have := HQ.out; omega
              have u6 : (e : Int) < (b : Int) := by have := HQ.out; omega
              go_wp2_with fail
              refine (HR.out wr (by omega) (by omega) KW.out.2).mono ?_
              rintro r wa ⟨rfl, d1, k1⟩
              have K1 : Hid (Kept (fun x => x = g) w wa ∧ Dat wa g N k (P ++ (A ++ (C ++ (B ++ (D ++ S)))))) := ⟨KW.out.1.trans k1, d1⟩
              clear d1 k1
              obtain ⟨X, K2⟩ : ∃ X, Hid (Kept (fun x => x = g) w wa ∧ Dat wa g N k (P ++ (X ++ (B ++ (D ++ S)))) ∧ X.Perm (A ++ C) ∧ X.Pairwise (RO (ltF cf)) ∧ X.length = A.length + C.length) := ⟨A ++ C, K1.out.1, by have h9 := K1.out.2; simp only [List.append_assoc]; exact h9, List.Perm.refl _, HTr.out.1 (by omega), by rw [List.length_append]⟩
              clear K1 KW HR HLf
              go_wp2_with fail
              refine (HRt.out X wa K2.out.2.2.2.2 (by omega) (by omega) K2.out.2.1 K2.out.1).mono ?_
              rintro r wc ⟨rfl, k3, Y, hY, pY, d3⟩
              have K3 : Hid (RetM g N k cf P s1 s2 S w (.returned (.tuple #[])) wc) := HFn.out X Y wc K2.out.2.2.1 K2.out.2.2.2.1 hY pY (by simp only [List.append_assoc] at d3; exact d3) (K2.out.1.trans k3)
              clear k3 d3 hY pY
              clear K2 HRt HFn HTr
              go_wp2
              go_end0
              exact K3.out
            · skip
              have u1 : (x : Int) < (m : Int) := by have := HQ.out; omega
              have u2 : (m : Int) < (e : Int) := by have := HQ.out; omega
              have u3 : ¬ (a : Int) < (x : Int) := by have := HQ.out; omega
              have u4 : (x : Int) < (mi : Int) := by have := HQ.out; omega
              have u5 : (mi : Int) < (e : Int) := by have := HQ.out; omega
              have u6 : ¬ (e : Int) < (b : Int) := by have := HQ.out; omega
              go_wp2_with fail
              refine (HR.out wr (by omega) (by omega) KW.out.2).mono ?_
              rintro r wa ⟨rfl, d1, k1⟩
              have K1 : Hid (Kept (fun x => x = g) w wa ∧ Dat wa g N k (P ++ (A ++ (C ++ (B ++ (D ++ S)))))) := ⟨KW.out.1.trans k1, d1⟩
              clear d1 k1
              obtain ⟨X, K2⟩ : ∃ X, Hid (Kept (fun x => x = g) w wa ∧ Dat wa g N k (P ++ (X ++ (B ++ (D ++ S)))) ∧ X.Perm (A ++ C) ∧ X.Pairwise (RO (ltF cf)) ∧ X.length = A.length + C.length) := ⟨A ++ C, K1.out.1, by have h9 := K1.out.2; simp only [List.append_assoc]; exact h9, List.Perm.refl _, HTr.out.1 (by omega), by rw [List.length_append]⟩
              clear K1 KW HR HLf
              have K3 : Hid (RetM g N k cf P s1 s2 S w (.returned (.tuple #[])) wa) := HFn.out X (B ++ D) wa K2.out.2.2.1 K2.out.2.2.2.1 (List.Perm.refl _) (HTr.out.2 (by omega)) (by simp only [List.append_assoc]; exact K2.out.2.1) K2.out.1
              clear K2 HRt HFn HTr
              go_wp2
              go_end0
              exact K3.out
        · have ha : 0 < A.length := by have := HQ.out; omega
          by_cases hc : 0 < C.length
          · skip
            by_cases hd : 0 < D.length
            · skip
              have u1 : ¬ (x : Int) < (m : Int) := by have := HQ.out; omega
              have u2 : (m : Int) < (e : Int) := by have := HQ.out; omega
              have u3 : (a : Int) < (x : Int) := by have := HQ.out; omega
              have u4 : (x : Int) < (mi : Int) := by have := HQ.out; omega
              have u5 : ¬ (mi : Int) < (e : Int) := by have := HQ.out; omega
              have u6 : (e : Int) < (b : Int) := by have := HQ.out; omega
              have K1 : Hid (Kept (fun x => x = g) w wr ∧ Dat wr g N k (P ++ (A ++ (C ++ (B ++ (D ++ S)))))) := ⟨KW.out.1, by have h9 := KW.out.2; rw [List.eq_nil_of_length_eq_zero (show B.length = 0 by omega)] at h9 ⊢; exact h9⟩
              go_wp2_with fail
              refine (HLf.out wr (by omega) (by omega) K1.out.2 K1.out.1).mono ?_
              rintro r wb ⟨rfl, k2, X, hX, pX, d2⟩
              have K2 : Hid (Kept (fun x => x = g) w wb ∧ Dat wb g N k (P ++ (X ++ (B ++ (D ++ S)))) ∧ X.Perm (A ++ C) ∧ X.Pairwise (RO (ltF cf)) ∧ X.length = A.length + C.length) := ⟨K1.out.1.trans k2, d2, hX, pX, by rw [hX.length_eq, List.length_append]⟩
              clear k2 d2 hX pX
              clear K1 KW HR HLf
              have K3 : Hid (RetM g N k cf P s1 s2 S w (.returned (.tuple #[])) wb) := HFn.out X (B ++ D) wb K2.out.2.2.1 K2.out.2.2.2.1 (List.Perm.refl _) (HTr.out.2 (by omega)) (by simp only [List.append_assoc]; exact K2.out.2.1) K2.out.1
              clear K2 HRt HFn HTr
              go_wp2
              go_end0
              exact K3.out
            · skip
              have u1 : ¬ (x : Int) < (m : Int) := by have := HQ.out; omega
              have u2 : (m : Int) < (e : Int) := by have := HQ.out; omega
              have u3 : (a : Int) < (x : Int) := by have := HQ.out; omega
              have u4 : (x : Int) < (mi : Int) := by have := HQ.out; omega
              have u5 : ¬ (mi : Int) < (e : Int) := by have := HQ.out; omega
              have u6 : ¬ (e : Int) < (b : Int) := by have := HQ.out; omega
              have K1 : Hid (Kept (fun x => x = g) w wr ∧ Dat wr g N k (P ++ (A ++ (C ++ (B ++ (D ++ S)))))) := ⟨KW.out.1, by have h9 := KW.out.2; rw [List.eq_nil_of_length_eq_zero (show B.length = 0 by omega)] at h9 ⊢; exact h9⟩
              go_wp2_with fail
              refine (HLf.out wr (by omega) (by omega) K1.out.2 K1.out.1).mono ?_
              rintro r wb ⟨rfl, k2, X, hX, pX, d2⟩
              have K2 : Hid (Kept (fun x => x = g) w wb ∧ Dat wb g N k (P ++ (X ++ (B ++ (D ++ S)))) ∧ X.Perm (A ++ C) ∧ X.Pairwise (RO (ltF cf)) ∧ X.length = A.length + C.length) := ⟨K1.out.1.trans k2, d2, hX, pX, by rw [hX.length_eq, List.length_append]⟩
              clear k2 d2 hX pX
              clear K1 KW HR HLf
              have K3 : Hid (RetM g N k cf P s1 s2 S w (.returned (.tuple #[])) wb) := HFn.out X (B ++ D) wb K2.out.2.2.1 K2.out.2.2.2.1 (List.Perm.refl _) (HTr.out.2 (by omega)) (by simp only [List.append_assoc]; exact K2.out.2.1) K2.out.1
              clear K2 HRt HFn HTr
              go_wp2
              go_end0
              exact K3.out
          · have hd : 0 < D.length := by have := HQ.out; omega
            have u1 : ¬ (x : Int) < (m : Int) := by have := HQ.out; omega
            have u2 : ¬ (m : Int) < (e : Int) := by have := HQ.out; omega
            have u3 : (a : Int) < (x : Int) := by have := HQ.out; omega
            have u4 : ¬ (x : Int) < (mi : Int) := by have := HQ.out; omega
            have u5 : ¬ (mi : Int) < (e : Int) := by have := HQ.out; omega
            have u6 : (e : Int) < (b : Int) := by have := HQ.out; omega
            have K1 : Hid (Kept (fun x => x = g) w wr ∧ Dat wr g N k (P ++ (A ++ (C ++ (B ++ (D ++ S)))))) := ⟨KW.out.1, by have h9 := KW.out.2; rw [List.eq_nil_of_length_eq_zero (show B.length = 0 by omega)] at h9 ⊢; exact h9⟩
            obtain ⟨X, K2⟩ : ∃ X, Hid (Kept (fun x => x = g) w wr ∧ Dat wr g N k (P ++ (X ++ (B ++ (D ++ S)))) ∧ X.Perm (A ++ C) ∧ X.Pairwise (RO (ltF cf)) ∧ X.length = A.length + C.length) := ⟨A ++ C, K1.out.1, by have h9 := K1.out.2; simp only [List.append_assoc]; exact h9, List.Perm.refl _, HTr.out.1 (by omega), by rw [List.length_append]⟩
            clear K1 KW HR HLf
            have K3 : Hid (RetM g N k cf P s1 s2 S w (.returned (.tuple #[])) wr) := HFn.out X (B ++ D) wr K2.out.2.2.1 K2.out.2.2.2.1 (List.Perm.refl _) (HTr.out.2 (by omega)) (by simp only [List.append_assoc]; exact K2.out.2.1) K2.out.1
            clear K2 HRt HFn HTr
            go_wp2
            go_end0
            exact K3.out

end Go.Proofs.Ytmcjgncpblbhpaa
