/- The law on products (stage 13). -/
import Derived.Test.YtmcjgncpblbhpaaPdA
namespace Go.Proofs.Ytmcjgncpblbhpaa
open Go.RowKit

theorem Code.keep {w w' : World} {a : Option Addr} {len : Nat} (h : Code w a len) (hb : Below w.heap.size w w') : Code w' a len := h.below hb (fun x e hl => h.lt hl x e)
theorem product_lst (va vb : Value) (aa bb : Rs) (w : World) (ha : LstA w va aa) (hb : LstA w vb bb) (sa : SmallR aa) (sb : SmallR bb) (hc : prC aa bb = 0) :
    Calls Try.prog 11 #[va, vb] w fun e w' => ∃ v hi, e = .returned (.tuple #[v, .int .i64 0]) ∧ BldR w' w.heap.size hi v (prodL aa bb) ∧ Below w.heap.size w w' := by
  obtain ⟨a1, c1, rfl, r1⟩ := ha.row
  obtain ⟨a2, c2, rfl, r2⟩ := hb.row
  refine (implProduct_any a1 a2 c1 c2 aa bb w r1 r2 sa sb).mono ?_
  rintro e w' ⟨v, hi, rfl, h1, h2⟩
  have : prR aa bb = prodL aa bb := if_pos hc
  rw [this] at h1
  exact ⟨v, hi, by rw [hc], h1, h2⟩
/-- Three rows of lists; what lay in w lies there still. -/
abbrev StY (w : World) (b1 o1 : Nat) (v1 : Value) (b2 o2 : Nat) (v2 : Value) (b3 o3 : Nat) (v3 : Value) (w' : World) : Prop :=
  w'.cell? ⟨b1, o1, none⟩ = some v1 ∧ w'.cell? ⟨b2, o2, none⟩ = some v2 ∧ w'.cell? ⟨b3, o3, none⟩ = some v3 ∧ Below w.heap.size w w'
theorem StY.keep {w : World} {b1 o1 : Nat} {v1 : Value} {b2 o2 : Nat} {v2 : Value} {b3 o3 : Nat} {v3 : Value} {w1 w2 : World} (h : StY w b1 o1 v1 b2 o2 v2 b3 o3 v3 w1) (l1 : b1 < w.heap.size) (l2 : b2 < w.heap.size) (l3 : b3 < w.heap.size) (hb : Below w1.heap.size w1 w2) : StY w b1 o1 v1 b2 o2 v2 b3 o3 v3 w2 :=
  ⟨(hb.cell (p := ⟨b1, o1, none⟩) (Nat.lt_of_lt_of_le l1 h.2.2.2.size)).trans h.1, (hb.cell (p := ⟨b2, o2, none⟩) (Nat.lt_of_lt_of_le l2 h.2.2.2.size)).trans h.2.1, (hb.cell (p := ⟨b3, o3, none⟩) (Nat.lt_of_lt_of_le l3 h.2.2.2.size)).trans h.2.2.1, below_step h.2.2.2 (Nat.le_refl _) hb⟩
theorem push_any {w W w1 : World} {rs : Rs} {vs : List V3} {v u : Value} {t : TypeId} (hO : BldR W w.heap.size W.heap.size v rs) (hB : Below w.heap.size w W) (hl : rs.length < 4096) (hb : Below W.heap.size W w1) (hu : OwnV w1 W.heap.size u vs) :
    ∃ v' w', (Builtin.append_ #[23, 23] 23 #[v, .slice (some ⟨w1.heap.size, 0, none⟩) 1 1]).run Try.prog (w1.alloc (.cells #[u] t)) = .ok v' w' ∧ BldR w' w.heap.size w'.heap.size v' (rs ++ [vs]) ∧ Below w.heap.size w w' := by
  have b2 : Below w1.heap.size w1 (w1.alloc (.cells #[u] t)) := (Below.refl _ _).alloc (Nat.le_refl _) _
  have hB1 : Below w.heap.size w (w1.alloc (.cells #[u] t)) := below_step (below_step hB (Nat.le_refl _) hb) (Nat.le_refl _) b2
  have hO2 := (hO.below hb).below b2
  obtain ⟨v', w', hr, h1, h2⟩ := app_R (c := 1) hO2 hB1.size hl (World.cell?_alloc_at _ _ _ _ rfl) (OwnV.below hu b2) (Nat.le_refl _) hB.size
  exact ⟨v', w', hr, h1, BldR.grown hB1 hB1.size hO2 h2⟩
/-- Two rows of lists. -/
abbrev StU (b1 o1 : Nat) (v1 : Value) (b2 o2 : Nat) (v2 : Value) (w' : World) : Prop := w'.cell? ⟨b1, o1, none⟩ = some v1 ∧ w'.cell? ⟨b2, o2, none⟩ = some v2
theorem StU.keep {b1 o1 : Nat} {v1 : Value} {b2 o2 : Nat} {v2 : Value} {w1 w2 : World} {B : Nat} (h : StU b1 o1 v1 b2 o2 v2 w1) (hb : Below B w1 w2) (l1 : b1 < B) (l2 : b2 < B) : StU b1 o1 v1 b2 o2 v2 w2 :=
  ⟨(hb.cell (p := ⟨b1, o1, none⟩) l1).trans h.1, (hb.cell (p := ⟨b2, o2, none⟩) l2).trans h.2⟩
set_option maxRecDepth 100000 in
set_option maxHeartbeats 8000000 in
theorem lawProd_small (a0 : Option Addr) (len0 cap0 : Nat) (a1 : Option Addr) (len1 cap1 : Nat) (w : World) (c0 : Code w a0 len0) (c1 : Code w a1 len1) (hl0 : len0 ≤ 1048576) (hl1 : len1 ≤ 1048576) :
    Calls Try.prog 3 #[.slice a0 len0 cap0, .slice a1 len1 cap1] w fun e w' => e = .returned (.bool true) ∧ Below w.heap.size w w' := by
  have R1 := rowsOf_any (cap := cap0) c0 (by omega)
  have R2 : Hid (∀ W, Below w.heap.size w W → Calls Try.prog 10 #[.slice a1 len1 cap1] W fun e w' => ∃ v rs nw, e = .returned v ∧ BldR w' W.heap.size w'.heap.size v rs ∧ rs.length ≤ 7 ∧ (1 ≤ nw ∧ nw ≤ 3) ∧ GoodR nw rs ∧ Below W.heap.size W w') := fun W hW => rowsOf_any (cap := cap1) (c1.keep hW) (by omega)
  clear c0 c1
  go_enter Try.func3, Try.ntmps3
  go_wp2_with fail
  refine R1.mono ?_
  rintro e w1 ⟨v1, aa, nw, rfl, O1, la, hnw, ga, b1⟩
  have r2 := R2.out w1 b1
  have H1 : Hid (BldR w1 w.heap.size w1.heap.size v1 aa) := O1
  clear R1 R2 O1
  go_wp2_with fail
  refine r2.mono ?_
  rintro e w2 ⟨v2, bb, nv, rfl, O2, lb, hnv, gb, b2⟩
  have B2 := below_step b1 (Nat.le_refl _) b2
  have hnm : aa.length * bb.length ≤ 7 * 7 := Nat.mul_le_mul la lb
  have hnm' : bb.length * aa.length ≤ 7 * 7 := Nat.mul_le_mul lb la
  have sa := ga.small (by omega) (by omega)
  have sb := gb.small (by omega) (by omega)
  have L2 : Hid (LstA w2 v1 aa ∧ LstA w2 v2 bb) := ⟨(H1.out.below b2).lst (fun i hi => by rw [ga.len hi]; omega) ga.text sa, O2.lst (fun i hi => by rw [gb.len hi]; omega) gb.text sb⟩
  have oa := ga.ok (wd := 8) (by omega) (by omega)
  have ob := gb.ok (wd := 8) (by omega) (by omega)
  have p1 : prC aa bb = 0 := by unfold prC; rw [if_neg (by omega), if_pos ⟨oa, ob⟩, if_neg (by omega)]
  have p2 : prC bb aa = 0 := by unfold prC; rw [if_neg (by omega), if_pos ⟨ob, oa⟩, if_neg (by omega)]
  have C3 := product_lst v1 v2 aa bb w2 L2.out.1 L2.out.2 sa sb p1
  have C4 : Hid (∀ W, Below w2.heap.size w2 W → Calls Try.prog 11 #[v2, v1] W fun e w' => ∃ v hi, e = .returned (.tuple #[v, .int .i64 0]) ∧ BldR w' W.heap.size hi v (prodL bb aa) ∧ Below W.heap.size W w') := fun W hW => product_lst v2 v1 bb aa W (L2.out.2.below hW) (L2.out.1.below hW) sb sa p2
  have HG : Hid (GoodR nw aa ∧ GoodR nv bb ∧ 1 ≤ nw ∧ nw ≤ 3 ∧ 1 ≤ nv ∧ nv ≤ 3 ∧ aa.length ≤ 7 ∧ bb.length ≤ 7) := ⟨ga, gb, hnw.1, hnw.2, hnv.1, hnv.2, la, lb⟩
  clear r2 H1 O2 b1 b2 sa sb oa ob p1 p2 ga gb hnw hnv
  go_wp2_with fail
  refine C3.mono ?_
  rintro e w3 ⟨v3, hi3, rfl, O3, b3⟩
  have B3 := below_step B2 (Nat.le_refl _) b3
  have c4 := C4.out w3 b3
  have H3 : Hid (BldR w3 w2.heap.size hi3 v3 (prodL aa bb)) := O3
  clear C3 C4 O3
  go_wp2_with fail
  refine c4.mono ?_
  rintro e w4 ⟨v4, hi4, rfl, O4, b4⟩
  have B4 := below_step B3 (Nat.le_refl _) b4
  have hg3 := good_gen HG.out.1 HG.out.2.1
  have hg4 := good_gen HG.out.2.1 HG.out.1
  obtain ⟨a3, k3, rfl, r3⟩ := (H3.out.below b4).rowC (fun i hi => by rw [hg3.len hi]; have := HG.out; omega) hg3.text
  have l4 : LstA w4 v4 (prodL bb aa) := O4.lst (fun i hi => by rw [hg4.len hi]; have := HG.out; omega) hg4.text (hg4.small (by rw [prodL_len]; omega) (by have := HG.out; omega))
  obtain ⟨x1, y1, rfl, ra⟩ := L2.out.1.row
  obtain ⟨x2, y2, rfl, rb⟩ := L2.out.2.row
  have HF : Hid (RowC w4 a3 (prodL aa bb) ∧ LstA w4 v4 (prodL bb aa) ∧ RowA w4 x1 aa ∧ RowA w4 x2 bb) := ⟨r3, l4, (ra.below b3).below b4, (rb.below b3).below b4⟩
  clear c4 H3 O4 b3 b4 hg3 hg4 r3 l4 ra rb L2 B2 B3
  rw [prodL_len]
  obtain ⟨n, hn⟩ : ∃ n, aa.length = n := ⟨_, rfl⟩
  obtain ⟨m, hm⟩ : ∃ m, bb.length = m := ⟨_, rfl⟩
  obtain ⟨nm, hq⟩ : ∃ nm, aa.length * bb.length = nm := ⟨_, rfl⟩
  have HN : Hid (aa.length = n ∧ bb.length = m ∧ aa.length * bb.length = nm ∧ n * m = nm) := ⟨hn, hm, hq, by rw [← hn, ← hm]; exact hq⟩
  have hmul : (n : Int) * (m : Int) = (nm : Int) := by rw [← hq, hn, hm]; push_cast; rfl
  rw [hq, hn, hm]
  rw [hq] at hnm
  rw [hn] at la
  rw [hm] at lb
  clear hnm' hn hm hq
  have B0 : Below w4.heap.size w4 (w4.alloc (.cells #[] 28)) := (Below.refl _ _).alloc (Nat.le_refl _) _
  have O0 : Hid (BldR (w4.alloc (.cells #[] 28)) w4.heap.size (w4.alloc (.cells #[] 28)).heap.size (.slice (some ⟨w4.heap.size, 0, none⟩) 0 0) ((turnL aa bb).take 0)) := BldR.made (Nat.le_refl _)
  go_wp2
  go_loopw [11, 12] (fun t i wr => ∃ q : Nat, q ≤ nm ∧ i = .int .i64 q ∧ Hid (BldR wr w4.heap.size wr.heap.size t ((turnL aa bb).take q)) ∧ Below w4.heap.size w4 wr) (fun _ i _ => nm - (intOf i).toNat)
  case atStart => exact ⟨0, by omega, rfl, O0.out, B0⟩
  case round =>
    clear O0 B0
    obtain ⟨q, hq, rfl, HO, hbl⟩ := hrel
    by_cases hlt : q < nm
    · have hltI : (q : Int) < (nm : Int) := by omega
      have m0 : 0 < m := by
        rcases Nat.eq_zero_or_pos m with h0 | h0
        · have := HN.out.2.2.2; rw [h0] at this; omega
        · exact h0
      by_cases h1 : 1 < m
      · obtain ⟨k, hk⟩ : ∃ k, q / m = k := ⟨_, rfl⟩
        obtain ⟨j, hj⟩ : ∃ j, q % m = j := ⟨_, rfl⟩
        have hk7 : k ≤ q := by rw [← hk]; exact Nat.div_le_self _ _
        have hdiv : wrap64 ((q : Int) / (m : Int)) = (k : Int) := by
          rw [show ((q : Int) / (m : Int)) = ((q / m : Nat) : Int) by push_cast; rfl, hk]
          unfold wrap64
          omega
        have hmod : (q : Int) % (m : Int) = (j : Int) := by rw [← hj]; push_cast; rfl
        have hjm : j < m := by rw [← hj]; exact Nat.mod_lt _ m0
        have hkn : k < n := by
          rw [← hk]
          exact Nat.div_lt_of_lt_mul (by rw [Nat.mul_comm, HN.out.2.2.2]; exact hlt)
        have h1I : (1 : Int) < (m : Int) := by omega
        have hx : nthR (prodL aa bb) q = nthR aa k ++ nthR bb j := by
          have := genL_nth (fun x y => x ++ y) aa bb q (by rw [HN.out.2.2.1]; exact hlt)
          rw [HN.out.2.1, hk, hj] at this
          exact this
        have ht : nthR (turnL aa bb) q = nthR bb j ++ nthR aa k := by
          have := genL_nth (fun x y => y ++ x) aa bb q (by rw [HN.out.2.2.1]; exact hlt)
          rw [HN.out.2.1, hk, hj] at this
          exact this
        clear hk hj
        have hqx : q < (prodL aa bb).length := by rw [prodL_len, HN.out.2.2.1]; exact hlt
        obtain ⟨b3, o3, p3, s3, d3, rfl, l3, c3, r3, hd3⟩ := HF.out.1 q hqx
        obtain ⟨b1, o1, p1, s1, d1, rfl, l1, c1, r1, _⟩ := HF.out.2.2.1 k (by rw [HN.out.1]; omega)
        obtain ⟨b2, o2, p2, s2, d2, rfl, l2, c2, r2, _⟩ := HF.out.2.2.2 j (by rw [HN.out.2.1]; omega)
        rw [hx] at c3 r3 hd3
        have hla := HG.out.1.len (i := k) (by rw [HN.out.1]; omega)
        have hlb := HG.out.2.1.len (i := j) (by rw [HN.out.2.1]; omega)
        have hw0 : 1 ≤ nw ∧ nw ≤ 3 ∧ 1 ≤ nv ∧ nv ≤ 3 := by have := HG.out; omega
        have S1 : Hid (∀ W, Below w4.heap.size w4 W → Calls Try.prog 12 #[.slice (some ⟨p3, s3, none⟩) nw d3, .slice (some ⟨p1, s1, none⟩) nw d1] W fun e w' => e = .returned (.bool true) ∧ Below W.heap.size W w') := fun W hW => by
          have := sameRow_any (some ⟨p3, s3, none⟩) (some ⟨p1, s1, none⟩) d3 d1 (nthR aa k) (nthR aa k) W (r3.pre.below hW) (r1.below hW) (by rw [hla]; unfold maxLen; omega)
          rw [hla, (eqRow_iff _ _).2 rfl] at this
          exact this
        have S2 : Hid (∀ W, Below w4.heap.size w4 W → Calls Try.prog 12 #[.slice (some ⟨p3, s3 + nw * 3, none⟩) nv (d3 - nw), .slice (some ⟨p2, s2, none⟩) nv d2] W fun e w' => e = .returned (.bool true) ∧ Below W.heap.size W w') := fun W hW => by
          have h3 := r3.suf
          rw [hla] at h3
          have := sameRow_any (some ⟨p3, s3 + nw * 3, none⟩) (some ⟨p2, s2, none⟩) (d3 - nw) d2 (nthR bb j) (nthR bb j) W (h3.below hW) (r2.below hW) (by rw [hlb]; unfold maxLen; omega)
          rw [hlb, (eqRow_iff _ _).2 rfl] at this
          exact this
        have HP : Hid (RowV w4 (some ⟨p3, s3, none⟩) (nthR aa k) ∧ RowV w4 (some ⟨p3, s3 + nw * 3, none⟩) (nthR bb j)) := ⟨r3.pre, by have h3 := r3.suf; rw [hla] at h3; exact h3⟩
        have HLL : Hid ((nthR aa k).length = nw ∧ (nthR bb j).length = nv) := ⟨hla, hlb⟩
        have HTT : Hid ((turnL aa bb).take (q + 1) = (turnL aa bb).take q ++ [nthR bb j ++ nthR aa k]) := by
          show _ = _
          rw [take_next (by unfold turnL; rw [genL_len, HN.out.2.2.1]; exact hlt), ht]
        rw [List.length_append, hla, hlb] at c3 hd3
        rw [hla] at c1
        rw [hlb] at c2
        have HU : Hid (∀ W, Below w4.heap.size w4 W → StU b3 (o3 + q) (.slice (some ⟨p3, s3, none⟩) (nw + nv) d3) b1 (o1 + k) (.slice (some ⟨p1, s1, none⟩) nw d1) W) := fun W hW => ⟨(hW.cell (p := ⟨b3, o3 + q, none⟩) l3).trans c3, (hW.cell (p := ⟨b1, o1 + k, none⟩) l1).trans c1⟩
        have k1 : wr.cell? ⟨b1, o1 + k, none⟩ = some (.slice (some ⟨p1, s1, none⟩) nw d1) := (hbl.cell (p := ⟨b1, o1 + k, none⟩) l1).trans c1
        have k2 : wr.cell? ⟨b2, o2 + j, none⟩ = some (.slice (some ⟨p2, s2, none⟩) nv d2) := (hbl.cell (p := ⟨b2, o2 + j, none⟩) l2).trans c2
        have k3 : wr.cell? ⟨b3, o3 + q, none⟩ = some (.slice (some ⟨p3, s3, none⟩) (nw + nv) d3) := (hbl.cell (p := ⟨b3, o3 + q, none⟩) l3).trans c3
        have hY : Hid (StY wr b3 (o3 + q) (.slice (some ⟨p3, s3, none⟩) (nw + nv) d3) b1 (o1 + k) (.slice (some ⟨p1, s1, none⟩) nw d1) b2 (o2 + j) (.slice (some ⟨p2, s2, none⟩) nv d2) wr.drew) := ⟨k3, k1, k2, (Below.refl _ _).drew⟩
        have HLT : Hid (b1 < wr.heap.size ∧ b2 < wr.heap.size ∧ b3 < wr.heap.size) := ⟨Nat.lt_of_lt_of_le l1 hbl.size, Nat.lt_of_lt_of_le l2 hbl.size, Nat.lt_of_lt_of_le l3 hbl.size⟩
        have f1 : nw ≤ d3 := by omega
        have f2 : ¬ d3 = nw := by omega
        have f3 : nw ≤ nw + nv := by omega
        have f4 : (nw : Int) ≤ (nw : Int) + (nv : Int) := by omega
        have HBW : Hid (∀ W, Below wr.heap.size wr W → Below w4.heap.size w4 W) := fun W hW => below_step hbl (Nat.le_refl _) hW
        clear r1 r2 r3 c1 c2 c3 hx ht hla hlb hqx l1 l2 l3
        go_wp2_with fail
        refine wp_region_class (C := StY wr b3 (o3 + q) (.slice (some ⟨p3, s3, none⟩) (nw + nv) d3) b1 (o1 + k) (.slice (some ⟨p1, s1, none⟩) nw d1) b2 (o2 + j) (.slice (some ⟨p2, s2, none⟩) nv d2)) (by kernel_rfl) (by kernel_rfl) hY.out ?_
        repeat (first | go_big_quiet_skip | (go_big_quiet_want; apply Exists.intro; refine ⟨?_, ?_⟩; (focus (intro w' hw'; first | (obtain ⟨m0, m1, m2, m3⟩ := hw'; go_simp; with_reducible rfl) | (go_simp; (with_reducible refine (S1.out w' (HBW.out w' hw'.2.2.2)).mono ?_); rintro e w'' ⟨rfl, hb⟩; exact ⟨rfl, hw'.keep HLT.out.2.2 HLT.out.1 HLT.out.2.1 hb⟩) | (go_simp; (with_reducible refine (S2.out w' (HBW.out w' hw'.2.2.2)).mono ?_); rintro e w'' ⟨rfl, hb⟩; exact ⟨rfl, hw'.keep HLT.out.2.2 HLT.out.1 HLT.out.2.1 hb⟩))); (try simp only [Act.put, List.setIfInBounds_toArray, List.set_cons_zero, List.set_cons_succ]); go_big_quiet_on))
        refine wpQuiet_nil ?_
        intro w5 hw5
        obtain ⟨e3, e1, e2, hb5⟩ := hw5
        have hB5 := HBW.out w5 hb5
        have RP := HP.out.1.below hB5
        have RS := HP.out.2.below hB5
        have A0 : Below w5.heap.size w5 (w5.alloc (.cells #[] 39)).drew := ((Below.refl _ _).alloc (Nat.le_refl _) _).drew
        have V0 : OwnV (w5.alloc (.cells #[] 39)).drew w5.heap.size (.slice (some ⟨w5.heap.size, 0, none⟩) 0 0) [] := OwnV.empty (Nat.le_refl _)
        obtain ⟨x1, w6, run1, V1, g1⟩ := app_V _ [] (nthR bb j) _ w5.heap.size p3 (s3 + nw * 3) (d3 - nw) V0 (by rw [HLL.out.2]; simp; omega) (RS.below A0) A0.size
        have A1 := own_grown A0 A0.size V0 g1
        rw [List.nil_append] at V1
        obtain ⟨x2, w7, run2, V2, g2⟩ := app_V x1 (nthR bb j) (nthR aa k) w6 w5.heap.size p3 s3 d3 V1 (by rw [HLL.out.1, HLL.out.2]; omega) (RP.below A1) A1.size
        have A2 := own_grown A1 A1.size V1 g2
        obtain ⟨ua, un, uc, rfl⟩ := OwnV.shape V2
        have hlen7 : ((turnL aa bb).take q).length < 4096 := by rw [List.length_take]; omega
        obtain ⟨x3, w8, run3, T8, B8⟩ := push_any (t := 28) ((HO.out.below hb5).mono hb5.size) hB5 hlen7 A2 V2
        rw [HLL.out.2] at run1
        rw [HLL.out.1] at run2
        have run1' : Sem.run Try.prog (Builtin.append_ #[28, 28] 28 #[.slice (some ⟨w5.heap.size, 0, none⟩) 0 0, .slice (some ⟨p3, s3 + nw * 3, none⟩) nv (d3 - nw)]) (w5.alloc (.cells #[] 39)).drew = .ok x1 w6 := run1
        have run2' : Sem.run Try.prog (Builtin.append_ #[28, 28] 28 #[x1, .slice (some ⟨p3, s3, none⟩) nw d3]) w6 = .ok (.slice ua un uc) w7 := run2
        have T8' : Hid (BldR w8 w4.heap.size w8.heap.size x3 ((turnL aa bb).take (q + 1)) ∧ Below w4.heap.size w4 w8) := ⟨by rw [HTT.out]; exact T8, B8⟩
        have L5 : Hid (b1 < w5.heap.size ∧ b3 < w5.heap.size) := ⟨Nat.lt_of_lt_of_le HLT.out.1 hb5.size, Nat.lt_of_lt_of_le HLT.out.2.2 hb5.size⟩
        have U0 : StU b3 (o3 + q) (.slice (some ⟨p3, s3, none⟩) (nw + nv) d3) b1 (o1 + k) (.slice (some ⟨p1, s1, none⟩) nw d1) w5 := ⟨e3, e1⟩
        have U0' : Hid (StU b3 (o3 + q) (.slice (some ⟨p3, s3, none⟩) (nw + nv) d3) b1 (o1 + k) (.slice (some ⟨p1, s1, none⟩) nw d1) w5.drew) := U0
        have U1 : Hid (StU b3 (o3 + q) (.slice (some ⟨p3, s3, none⟩) (nw + nv) d3) b1 (o1 + k) (.slice (some ⟨p1, s1, none⟩) nw d1) (w5.alloc (.cells #[] 39)).drew) := U0.keep A0 L5.out.2 L5.out.1
        have U2 : Hid (StU b3 (o3 + q) (.slice (some ⟨p3, s3, none⟩) (nw + nv) d3) b1 (o1 + k) (.slice (some ⟨p1, s1, none⟩) nw d1) w6) := U0.keep A1 L5.out.2 L5.out.1
        have U3 : Hid (StU b3 (o3 + q) (.slice (some ⟨p3, s3, none⟩) (nw + nv) d3) b1 (o1 + k) (.slice (some ⟨p1, s1, none⟩) nw d1) w7) := U0.keep A2 L5.out.2 L5.out.1
        have A3 : Below w5.heap.size w5 (w7.alloc (.cells #[.slice ua un uc] 28)) := A2.alloc A2.size _
        have U4 : Hid (StU b3 (o3 + q) (.slice (some ⟨p3, s3, none⟩) (nw + nv) d3) b1 (o1 + k) (.slice (some ⟨p1, s1, none⟩) nw d1) (w7.alloc (.cells #[.slice ua un uc] 28))) := U0.keep A3 L5.out.2 L5.out.1
        have U5 : Hid (StU b3 (o3 + q) (.slice (some ⟨p3, s3, none⟩) (nw + nv) d3) b1 (o1 + k) (.slice (some ⟨p1, s1, none⟩) nw d1) w8) := HU.out w8 B8
        clear HO T8 B8 V0 V1 V2 g1 g2 A0 A1 A2 A3 RP RS run1 run2 e1 e2 e3 hb5 hB5 U0 HP S1 S2 hY HBW
        go_wp2_with fail
        go_region_held3 (StU b3 (o3 + q) (.slice (some ⟨p3, s3, none⟩) (nw + nv) d3) b1 (o1 + k) (.slice (some ⟨p1, s1, none⟩) nw d1)) (first | exact U0'.out | exact U1.out | exact U2.out | exact U3.out | exact U4.out | exact U5.out) (first | (refine step_append_run (by rfl) _ _ _ _ (by rfl) _ _ (by rfl) (by rfl) _ _ run1' ?_) | (refine step_append_run (by rfl) _ _ _ _ (by rfl) _ _ (by rfl) (by rfl) _ _ run2' ?_) | (refine step_append_run (by rfl) _ _ _ _ (by rfl) _ _ (by rfl) (by rfl) _ _ run3 ?_) | fail)
        all_goals
          go_wp2
          go_roundw
          case rel => exact ⟨q + 1, by omega, by go_num, T8'.out.1, T8'.out.2⟩
          case measure => simp [intOf]; omega
      · have m1 : m = 1 := by omega
        have hqn : q < n := by have := HN.out.2.2.2; rw [m1] at this; omega
        have h1I : ¬ (1 : Int) < (m : Int) := by omega
        have hx : nthR (prodL aa bb) q = nthR aa q ++ nthR bb 0 := by
          have := genL_nth (fun x y => x ++ y) aa bb q (by rw [HN.out.2.2.1]; exact hlt)
          rw [HN.out.2.1, m1, Nat.div_one, Nat.mod_one] at this
          exact this
        have ht : nthR (turnL aa bb) q = nthR bb 0 ++ nthR aa q := by
          have := genL_nth (fun x y => y ++ x) aa bb q (by rw [HN.out.2.2.1]; exact hlt)
          rw [HN.out.2.1, m1, Nat.div_one, Nat.mod_one] at this
          exact this
        have HM1 : Hid (m = 1) := m1
        clear m1
        have hqx : q < (prodL aa bb).length := by rw [prodL_len, HN.out.2.2.1]; exact hlt
        obtain ⟨b3, o3, p3, s3, d3, rfl, l3, c3, r3, hd3⟩ := HF.out.1 q hqx
        obtain ⟨b1, o1, p1, s1, d1, rfl, l1, c1, r1, _⟩ := HF.out.2.2.1 q (by rw [HN.out.1]; omega)
        obtain ⟨b2, o2, p2, s2, d2, rfl, l2, c2, r2, _⟩ := HF.out.2.2.2 0 (by rw [HN.out.2.1]; omega)
        rw [Nat.add_zero] at c2
        rw [hx] at c3 r3 hd3
        have hla := HG.out.1.len (i := q) (by rw [HN.out.1]; omega)
        have hlb := HG.out.2.1.len (i := 0) (by rw [HN.out.2.1]; omega)
        have hw0 : 1 ≤ nw ∧ nw ≤ 3 ∧ 1 ≤ nv ∧ nv ≤ 3 := by have := HG.out; omega
        have S1 : Hid (∀ W, Below w4.heap.size w4 W → Calls Try.prog 12 #[.slice (some ⟨p3, s3, none⟩) nw d3, .slice (some ⟨p1, s1, none⟩) nw d1] W fun e w' => e = .returned (.bool true) ∧ Below W.heap.size W w') := fun W hW => by
          have := sameRow_any (some ⟨p3, s3, none⟩) (some ⟨p1, s1, none⟩) d3 d1 (nthR aa q) (nthR aa q) W (r3.pre.below hW) (r1.below hW) (by rw [hla]; unfold maxLen; omega)
          rw [hla, (eqRow_iff _ _).2 rfl] at this
          exact this
        have S2 : Hid (∀ W, Below w4.heap.size w4 W → Calls Try.prog 12 #[.slice (some ⟨p3, s3 + nw * 3, none⟩) nv (d3 - nw), .slice (some ⟨p2, s2, none⟩) nv d2] W fun e w' => e = .returned (.bool true) ∧ Below W.heap.size W w') := fun W hW => by
          have h3 := r3.suf
          rw [hla] at h3
          have := sameRow_any (some ⟨p3, s3 + nw * 3, none⟩) (some ⟨p2, s2, none⟩) (d3 - nw) d2 (nthR bb 0) (nthR bb 0) W (h3.below hW) (r2.below hW) (by rw [hlb]; unfold maxLen; omega)
          rw [hlb, (eqRow_iff _ _).2 rfl] at this
          exact this
        have HP : Hid (RowV w4 (some ⟨p3, s3, none⟩) (nthR aa q) ∧ RowV w4 (some ⟨p3, s3 + nw * 3, none⟩) (nthR bb 0)) := ⟨r3.pre, by have h3 := r3.suf; rw [hla] at h3; exact h3⟩
        have HLL : Hid ((nthR aa q).length = nw ∧ (nthR bb 0).length = nv) := ⟨hla, hlb⟩
        have HTT : Hid ((turnL aa bb).take (q + 1) = (turnL aa bb).take q ++ [nthR bb 0 ++ nthR aa q]) := by
          show _ = _
          rw [take_next (by unfold turnL; rw [genL_len, HN.out.2.2.1]; exact hlt), ht]
        rw [List.length_append, hla, hlb] at c3 hd3
        rw [hla] at c1
        rw [hlb] at c2
        have HU : Hid (∀ W, Below w4.heap.size w4 W → StU b3 (o3 + q) (.slice (some ⟨p3, s3, none⟩) (nw + nv) d3) b1 (o1 + q) (.slice (some ⟨p1, s1, none⟩) nw d1) W) := fun W hW => ⟨(hW.cell (p := ⟨b3, o3 + q, none⟩) l3).trans c3, (hW.cell (p := ⟨b1, o1 + q, none⟩) l1).trans c1⟩
        have k1 : wr.cell? ⟨b1, o1 + q, none⟩ = some (.slice (some ⟨p1, s1, none⟩) nw d1) := (hbl.cell (p := ⟨b1, o1 + q, none⟩) l1).trans c1
        have k2 : wr.cell? ⟨b2, o2, none⟩ = some (.slice (some ⟨p2, s2, none⟩) nv d2) := (hbl.cell (p := ⟨b2, o2, none⟩) l2).trans c2
        have k3 : wr.cell? ⟨b3, o3 + q, none⟩ = some (.slice (some ⟨p3, s3, none⟩) (nw + nv) d3) := (hbl.cell (p := ⟨b3, o3 + q, none⟩) l3).trans c3
        have hY : Hid (StY wr b3 (o3 + q) (.slice (some ⟨p3, s3, none⟩) (nw + nv) d3) b1 (o1 + q) (.slice (some ⟨p1, s1, none⟩) nw d1) b2 (o2) (.slice (some ⟨p2, s2, none⟩) nv d2) wr.drew) := ⟨k3, k1, k2, (Below.refl _ _).drew⟩
        have HLT : Hid (b1 < wr.heap.size ∧ b2 < wr.heap.size ∧ b3 < wr.heap.size) := ⟨Nat.lt_of_lt_of_le l1 hbl.size, Nat.lt_of_lt_of_le l2 hbl.size, Nat.lt_of_lt_of_le l3 hbl.size⟩
        have f1 : nw ≤ d3 := by omega
        have f2 : ¬ d3 = nw := by omega
        have f3 : nw ≤ nw + nv := by omega
        have f4 : (nw : Int) ≤ (nw : Int) + (nv : Int) := by omega
        have HBW : Hid (∀ W, Below wr.heap.size wr W → Below w4.heap.size w4 W) := fun W hW => below_step hbl (Nat.le_refl _) hW
        clear r1 r2 r3 c1 c2 c3 hx ht hla hlb hqx l1 l2 l3
        go_wp2_with fail
        refine wp_region_class (C := StY wr b3 (o3 + q) (.slice (some ⟨p3, s3, none⟩) (nw + nv) d3) b1 (o1 + q) (.slice (some ⟨p1, s1, none⟩) nw d1) b2 (o2) (.slice (some ⟨p2, s2, none⟩) nv d2)) (by kernel_rfl) (by kernel_rfl) hY.out ?_
        repeat (first | go_big_quiet_skip | (go_big_quiet_want; apply Exists.intro; refine ⟨?_, ?_⟩; (focus (intro w' hw'; first | (obtain ⟨m0, m1, m2, m3⟩ := hw'; go_simp; with_reducible rfl) | (go_simp; (with_reducible refine (S1.out w' (HBW.out w' hw'.2.2.2)).mono ?_); rintro e w'' ⟨rfl, hb⟩; exact ⟨rfl, hw'.keep HLT.out.2.2 HLT.out.1 HLT.out.2.1 hb⟩) | (go_simp; (with_reducible refine (S2.out w' (HBW.out w' hw'.2.2.2)).mono ?_); rintro e w'' ⟨rfl, hb⟩; exact ⟨rfl, hw'.keep HLT.out.2.2 HLT.out.1 HLT.out.2.1 hb⟩))); (try simp only [Act.put, List.setIfInBounds_toArray, List.set_cons_zero, List.set_cons_succ]); go_big_quiet_on))
        refine wpQuiet_nil ?_
        intro w5 hw5
        obtain ⟨e3, e1, e2, hb5⟩ := hw5
        have hB5 := HBW.out w5 hb5
        have RP := HP.out.1.below hB5
        have RS := HP.out.2.below hB5
        have A0 : Below w5.heap.size w5 (w5.alloc (.cells #[] 39)).drew := ((Below.refl _ _).alloc (Nat.le_refl _) _).drew
        have V0 : OwnV (w5.alloc (.cells #[] 39)).drew w5.heap.size (.slice (some ⟨w5.heap.size, 0, none⟩) 0 0) [] := OwnV.empty (Nat.le_refl _)
        obtain ⟨x1, w6, run1, V1, g1⟩ := app_V _ [] (nthR bb 0) _ w5.heap.size p3 (s3 + nw * 3) (d3 - nw) V0 (by rw [HLL.out.2]; simp; omega) (RS.below A0) A0.size
        have A1 := own_grown A0 A0.size V0 g1
        rw [List.nil_append] at V1
        obtain ⟨x2, w7, run2, V2, g2⟩ := app_V x1 (nthR bb 0) (nthR aa q) w6 w5.heap.size p3 s3 d3 V1 (by rw [HLL.out.1, HLL.out.2]; omega) (RP.below A1) A1.size
        have A2 := own_grown A1 A1.size V1 g2
        obtain ⟨ua, un, uc, rfl⟩ := OwnV.shape V2
        have hlen7 : ((turnL aa bb).take q).length < 4096 := by rw [List.length_take]; omega
        obtain ⟨x3, w8, run3, T8, B8⟩ := push_any (t := 28) ((HO.out.below hb5).mono hb5.size) hB5 hlen7 A2 V2
        rw [HLL.out.2] at run1
        rw [HLL.out.1] at run2
        have run1' : Sem.run Try.prog (Builtin.append_ #[28, 28] 28 #[.slice (some ⟨w5.heap.size, 0, none⟩) 0 0, .slice (some ⟨p3, s3 + nw * 3, none⟩) nv (d3 - nw)]) (w5.alloc (.cells #[] 39)).drew = .ok x1 w6 := run1
        have run2' : Sem.run Try.prog (Builtin.append_ #[28, 28] 28 #[x1, .slice (some ⟨p3, s3, none⟩) nw d3]) w6 = .ok (.slice ua un uc) w7 := run2
        have T8' : Hid (BldR w8 w4.heap.size w8.heap.size x3 ((turnL aa bb).take (q + 1)) ∧ Below w4.heap.size w4 w8) := ⟨by rw [HTT.out]; exact T8, B8⟩
        have L5 : Hid (b1 < w5.heap.size ∧ b3 < w5.heap.size) := ⟨Nat.lt_of_lt_of_le HLT.out.1 hb5.size, Nat.lt_of_lt_of_le HLT.out.2.2 hb5.size⟩
        have U0 : StU b3 (o3 + q) (.slice (some ⟨p3, s3, none⟩) (nw + nv) d3) b1 (o1 + q) (.slice (some ⟨p1, s1, none⟩) nw d1) w5 := ⟨e3, e1⟩
        have U0' : Hid (StU b3 (o3 + q) (.slice (some ⟨p3, s3, none⟩) (nw + nv) d3) b1 (o1 + q) (.slice (some ⟨p1, s1, none⟩) nw d1) w5.drew) := U0
        have U1 : Hid (StU b3 (o3 + q) (.slice (some ⟨p3, s3, none⟩) (nw + nv) d3) b1 (o1 + q) (.slice (some ⟨p1, s1, none⟩) nw d1) (w5.alloc (.cells #[] 39)).drew) := U0.keep A0 L5.out.2 L5.out.1
        have U2 : Hid (StU b3 (o3 + q) (.slice (some ⟨p3, s3, none⟩) (nw + nv) d3) b1 (o1 + q) (.slice (some ⟨p1, s1, none⟩) nw d1) w6) := U0.keep A1 L5.out.2 L5.out.1
        have U3 : Hid (StU b3 (o3 + q) (.slice (some ⟨p3, s3, none⟩) (nw + nv) d3) b1 (o1 + q) (.slice (some ⟨p1, s1, none⟩) nw d1) w7) := U0.keep A2 L5.out.2 L5.out.1
        have A3 : Below w5.heap.size w5 (w7.alloc (.cells #[.slice ua un uc] 28)) := A2.alloc A2.size _
        have U4 : Hid (StU b3 (o3 + q) (.slice (some ⟨p3, s3, none⟩) (nw + nv) d3) b1 (o1 + q) (.slice (some ⟨p1, s1, none⟩) nw d1) (w7.alloc (.cells #[.slice ua un uc] 28))) := U0.keep A3 L5.out.2 L5.out.1
        have U5 : Hid (StU b3 (o3 + q) (.slice (some ⟨p3, s3, none⟩) (nw + nv) d3) b1 (o1 + q) (.slice (some ⟨p1, s1, none⟩) nw d1) w8) := HU.out w8 B8
        clear HO T8 B8 V0 V1 V2 g1 g2 A0 A1 A2 A3 RP RS run1 run2 e1 e2 e3 hb5 hB5 U0 HP S1 S2 hY HBW
        go_wp2_with fail
        go_region_held3 (StU b3 (o3 + q) (.slice (some ⟨p3, s3, none⟩) (nw + nv) d3) b1 (o1 + q) (.slice (some ⟨p1, s1, none⟩) nw d1)) (first | exact U0'.out | exact U1.out | exact U2.out | exact U3.out | exact U4.out | exact U5.out) (first | (refine step_append_run (by rfl) _ _ _ _ (by rfl) _ _ (by rfl) (by rfl) _ _ run1' ?_) | (refine step_append_run (by rfl) _ _ _ _ (by rfl) _ _ (by rfl) (by rfl) _ _ run2' ?_) | (refine step_append_run (by rfl) _ _ _ _ (by rfl) _ _ (by rfl) (by rfl) _ _ run3 ?_) | fail)
        all_goals
          go_wp2
          go_roundw
          case rel => exact ⟨q + 1, by omega, by go_num, T8'.out.1, T8'.out.2⟩
          case measure => simp [intOf]; omega
    · obtain rfl : q = nm := by omega
      have hltI : ¬ (q : Int) < (q : Int) := by omega
      have gt : GoodR (nv + nw) (turnL aa bb) := (good_gen HG.out.2.1 HG.out.1).perm (turn_perm aa bb)
      have gp : GoodR (nv + nw) (prodL bb aa) := good_gen HG.out.2.1 HG.out.1
      have hwx : 1 ≤ nv + nw ∧ nv + nw ≤ 6 := by have := HG.out; omega
      have lt : (turnL aa bb).length = q := by unfold turnL; rw [genL_len]; exact HN.out.2.2.1
      have lp : (prodL bb aa).length ≤ 400 := by
        have := (turn_perm aa bb).length_eq
        omega
      have HT : BldR wr w4.heap.size wr.heap.size u11 (turnL aa bb) := by
        have := HO.out
        rw [List.take_of_length_le (by omega)] at this
        exact this
      have C9 := implSame_lst u11 v4 (turnL aa bb) (prodL bb aa) wr (HT.lst (fun i hi => by rw [gt.len hi]; omega) gt.text (gt.small (by omega) (by omega))) (HF.out.2.1.below hbl) (gt.small (by omega) (by omega)) (gp.small lp (by omega)) (gt.ok (by omega) (by omega)) (gp.ok lp (by omega))
      have z0 : sbC (turnL aa bb) (prodL bb aa) = 0 := by
        unfold sbC
        rw [if_neg (by omega), if_pos ⟨gt.ok (by omega) (by omega), gp.ok lp (by omega)⟩]
      have z1 : sbR (turnL aa bb) (prodL bb aa) = true := by
        unfold sbR
        rw [z0]
        simp [turn_perm aa bb]
      unfold RetB at C9
      rw [z0, z1] at C9
      have B9 : Hid (∀ W, Below wr.heap.size wr W → Below w.heap.size w W) := fun W hW => below_step (below_step B4 (Nat.le_refl _) hbl) (Nat.le_refl _) hW
      clear HO gt gp hwx lt lp HT z0 z1
      go_wp2_with fail
      refine C9.mono ?_
      rintro e w9 ⟨rfl, b9⟩
      have hE := B9.out w9 b9
      clear C9 B9 b9
      go_wp2
      go_ret
      exact ⟨rfl, hE⟩
end Go.Proofs.Ytmcjgncpblbhpaa
