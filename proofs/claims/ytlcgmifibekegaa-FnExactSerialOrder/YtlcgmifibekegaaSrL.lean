/- The law on SerialHistory, walked (stage 8). -/
import Derived.Test.YtlcgmifibekegaaSrE
import Derived.Test.YtlcgmifibekegaaHoL
namespace Go.Proofs.Ytlcgmifibekegaa
open Go.ChangeShapes Go.WideShapes Go.ChangeAt Go.RowKit Go.Joins

theorem exists_listI {P : Nat → Int → Prop} : ∀ n, (∀ i, i < n → ∃ v, P i v) → ∃ vs : List Int, vs.length = n ∧ ∀ i, i < n → P i (nthI vs i)
  | 0, _ => ⟨[], rfl, fun i hi => by omega⟩
  | n + 1, h => by
    obtain ⟨vs, hl, hv⟩ := exists_listI n (fun i hi => h i (by omega))
    obtain ⟨v, hp⟩ := h n (by omega)
    refine ⟨vs ++ [v], by simp [hl], fun i hi => ?_⟩
    by_cases e : i = n
    · subst e
      have : nthI (vs ++ [v]) i = v := by unfold nthI; simp [List.getD_eq_getElem?_getD, hl]
      rw [this]; exact hp
    · have : nthI (vs ++ [v]) i = nthI vs i := by unfold nthI; rw [List.getD_eq_getElem?_getD, List.getD_eq_getElem?_getD, List.getElem?_append_left (by omega)]
      rw [this]; exact hv i (by omega)
set_option maxRecDepth 100000 in
theorem open_rowI {H : Type} {enc : TypeId × Value → H} {W : World} {fuel : Nat} {v : Value} {x : DataW H × List MemPlace}
    (hf : DataW.trod enc Try.prog W 0 (fun _ => true) true fuel 25 [v] = some x) : ∃ a len cap, v = .slice a len cap ∧ ∃ ss : List Int, ss.length = len ∧ RowI W a ss ∧ len ≤ maxLen := by
  rcases Deep.open_slice1 Try.underlying25 cells3 hf with ⟨hcs, _⟩ | ⟨ad, l, c, m, n, V, D, Pl, hcs, _, hl, hm, hmm, _, hel⟩
  · simp at hcs
    exact ⟨none, 0, 0, hcs, [], rfl, fun i hi => by simp at hi, Nat.zero_le _⟩
  · simp at hcs hmm
    subst hcs hmm
    refine ⟨_, _, _, rfl, ?_⟩
    have key : ∀ i, i < l → ∃ s : Int, ∃ b off, some ad = some ⟨b, off, none⟩ ∧ b < W.heap.size ∧ W.cell? ⟨b, off + i, none⟩ = some (.int .i64 s) := fun i hi => by
      obtain ⟨h1, h2⟩ := hel i (by omega)
      obtain ⟨t, q, _, ht⟩ := DataW.trod_int Try.underlying3 h2
      simp at q
      rw [q] at h1
      obtain ⟨b, off, spot⟩ := ad
      have hs : spot = none := by simpa [Addr.add] using World.cell?_spot (hel 0 (by omega)).1
      subst hs
      rw [add_plain] at h1
      exact ⟨t, b, off, rfl, World.block_lt_of_cell? W _ h1, h1⟩
    obtain ⟨ss, hsl, hss⟩ := exists_listI l key
    refine ⟨ss, hsl, fun i hi => ?_, Nat.le_trans hl hm⟩
    obtain ⟨b, off, e, r⟩ := hss i (by omega)
    exact ⟨b, off, e, r⟩

set_option maxRecDepth 100000 in
set_option maxHeartbeats 8000000 in
theorem lawSerialHistory (a a' : Option Addr) (cap cap' : Nat) (ss : List TH) (ord : List Int) (w : World) (hv : RowH w a ss) (hv' : RowI w a' ord) (lv : ss.length ≤ maxLen) (lv' : ord.length ≤ maxLen) :
    Calls Try.prog 11 #[.slice a ss.length cap, .slice a' ord.length cap'] w fun r w' => r = .returned (.bool true) ∧ Below w.heap.size w w' := by
  have H : Hid (RowH w a ss ∧ RowI w a' ord) := ⟨hv, hv'⟩
  have M : Hid (ss.length ≤ maxLen) := lv
  unfold maxLen at lv'
  clear hv hv' lv
  by_cases h20 : (1048576 : Int) < (ord.length : Int)
  · go_enter Try.func11, Try.ntmps11
    go_wp2
    go_ret
    exact ⟨rfl, Below.refl _ _⟩
  have LO : Hid (ord.length ≤ 1048576) := (by omega : ord.length ≤ 1048576)
  go_enter Try.func11, Try.ntmps11
  go_wp2_with fail
  refine (szH_any a cap ss 1048576 w H.out.1 M.out (by omega) (by omega)).mono ?_
  rintro r w1 ⟨x, rfl, x0, x1, x2, B1⟩
  by_cases hx : x < 0
  · clear x2
    go_wp2
    go_ret
    exact ⟨rfl, B1⟩
  have L : Hid (ss.length ≤ 1048576 ∧ ∀ i, i < ss.length → SmallH (nthH ss i)) := ⟨by have := (x2 (by omega)).1; omega, (x2 (by omega)).2⟩
  clear x2
  have HZ0 : ∀ i, i < (shL ss ord).length → (nthH (shL ss ord) i).2.2.1.size ≤ maxLen ∧ (nthH (shL ss ord) i).2.2.2.size ≤ maxLen := fun i hi => by
    obtain ⟨j, hj, e⟩ := List.mem_iff_getElem.1 (shL_mem (mem_nthH hi))
    have := L.out.2 j hj
    rw [nthH_get hj, e] at this
    unfold SmallH at this
    unfold maxLen
    omega
  obtain ⟨Ls, hLs⟩ : ∃ l, shL ss ord = l := ⟨_, rfl⟩
  obtain ⟨C, hC⟩ : ∃ c, shC ss ord = c := ⟨_, rfl⟩
  rw [hLs] at HZ0
  have HZ : Hid (∀ i, i < Ls.length → (nthH Ls i).2.2.1.size ≤ maxLen ∧ (nthH Ls i).2.2.2.size ≤ maxLen) := HZ0
  have LL : Hid (Ls.length ≤ 245760) := by show _ ≤ _; rw [← hLs]; exact shL_len ss ord
  have LM : Hid (Ls.length ≤ 1048576) := Nat.le_trans LL.out (by decide)
  have HL : Hid (shL ss ord = Ls) := hLs
  have HC : Hid (shC ss ord = C) := hC
  clear hLs hC HZ0
  go_wp2_with fail
  refine (toH_any a cap ss w1 (H.out.1.below B1) L.out.1).mono ?_
  rintro r w2 ⟨g1, rfl, G1, S1, b2⟩
  have B2 := below_step B1 (Nat.le_refl _) b2
  have K1 : Hid (RowH w2 (some ⟨g1, 0, none⟩) ss) := S1.row L.out.2
  clear S1 b2 B1 G1
  go_wp2_with fail
  refine (toI_any a' cap' ord w2 (H.out.2.below B2) LO.out).mono ?_
  rintro r w3 ⟨g2, rfl, G2, S2, b3⟩
  have B3 := below_step B2 (Nat.le_refl _) b3
  have K2 : Hid (RowH w3 (some ⟨g1, 0, none⟩) ss ∧ RowI w3 (some ⟨g2, 0, none⟩) ord) := ⟨K1.out.below b3, S2.row⟩
  clear S2 b3 B2 G2 K1
  go_wp2_with fail
  refine (specSerialHistory_any _ _ _ _ ss ord w3 K2.out.1 K2.out.2 L.out.1 LO.out (Nat.le_refl _)).mono ?_
  rw [HL.out, HC.out]
  rintro r w4 ⟨vs, rfl, os, b4⟩
  have OS4 : Hid (OwnH w4 w3.heap.size vs Ls) := os
  have B4 := below_step B3 (Nat.le_refl _) b4
  have Z4 : Hid (w.heap.size ≤ w3.heap.size ∧ w3.heap.size ≤ w4.heap.size) := ⟨B3.size, b4.size⟩
  clear K2 b4 B3 os
  go_wp2_with fail
  refine (toH_any a cap ss w4 (H.out.1.below B4) L.out.1).mono ?_
  rintro r w5 ⟨h1, rfl, G1, S1, b5⟩
  have B5 := below_step B4 (Nat.le_refl _) b5
  have S5 : Hid (SlabH w5 h1 ss.length ss ss.length) := S1
  have OS5 : Hid (OwnH w5 w3.heap.size vs Ls) := OS4.out.below b5
  have Z5 : Hid (w4.heap.size ≤ h1 ∧ h1 < w5.heap.size) := ⟨G1, S1.lt⟩
  clear S1 b5 B4 G1
  go_wp2_with fail
  refine (toI_any a' cap' ord w5 (H.out.2.below B5) LO.out).mono ?_
  rintro r w6 ⟨h2, rfl, G2, S2, b6⟩
  have B6 := below_step B5 (Nat.le_refl _) b6
  have S6 : Hid (SlabH w6 h1 ss.length ss ss.length ∧ SlabI w6 h2 ord.length ord ord.length) := ⟨S5.out.below b6 S5.out.lt, S2⟩
  have OS6 : Hid (OwnH w6 w3.heap.size vs Ls) := OS5.out.below b6
  have Z6 : Hid (w5.heap.size ≤ h2 ∧ h2 < w6.heap.size) := ⟨G2, S2.lt⟩
  clear S2 b6 B5 G2 S5 OS5
  go_wp2_with fail
  refine (implSerialHistory_any _ _ _ _ ss ord w6 (S6.out.1.row L.out.2) S6.out.2.row L.out.1 LO.out).mono ?_
  rw [HL.out, HC.out]
  rintro r w7 ⟨vi, rfl, oi, b7⟩
  have B7 := below_step B6 (Nat.le_refl _) b7
  have OI7 : Hid (OwnH w7 w6.heap.size vi Ls) := oi
  have OS7 : Hid (OwnH w7 w3.heap.size vs Ls) := OS6.out.below b7
  have S7 : Hid (SlabH w7 h1 ss.length ss ss.length ∧ SlabI w7 h2 ord.length ord ord.length) := ⟨S6.out.1.below b7 S6.out.1.lt, S6.out.2.below b7 S6.out.2.lt⟩
  have Z7 : Hid (w6.heap.size ≤ w7.heap.size) := b7.size
  clear S6 b7 B6 oi OS6
  go_wp2_with fail
  refine (eqH_own OI7.out OS7.out HZ.out LM.out).mono ?_
  rintro r w8 ⟨rfl, b8⟩
  have B8 := below_step B7 (Nat.le_refl _) b8
  have OI8 : Hid (OwnH w8 w6.heap.size vi Ls) := OI7.out.below b8
  have OS8 : Hid (OwnH w8 w3.heap.size vs Ls) := OS7.out.below b8
  have S8 : Hid (SlabH w8 h1 ss.length ss ss.length ∧ SlabI w8 h2 ord.length ord ord.length) := ⟨S7.out.1.below b8 S7.out.1.lt, S7.out.2.below b8 S7.out.2.lt⟩
  clear OI7 OS7 S7 b8 B7
  go_wp2_with fail
  refine (toH_any a cap ss w8 (H.out.1.below B8) L.out.1).mono ?_
  rintro r w9 ⟨g3, rfl, G3, S3, b9⟩
  have B9 := below_step B8 (Nat.le_refl _) b9
  have OI9 : Hid (OwnH w9 w6.heap.size vi Ls) := OI8.out.below b9
  have OS9 : Hid (OwnH w9 w3.heap.size vs Ls) := OS8.out.below b9
  have S9 : Hid (SlabH w9 h1 ss.length ss ss.length ∧ SlabI w9 h2 ord.length ord ord.length) := ⟨S8.out.1.below b9 S8.out.1.lt, S8.out.2.below b9 S8.out.2.lt⟩
  have K9 : Hid (RowH w9 (some ⟨g3, 0, none⟩) ss) := S3.row L.out.2
  clear OI8 OS8 S8 b9 B8 S3 G3
  go_wp2_with fail
  refine (eqH_same _ _ _ _ ss w9 (S9.out.1.row L.out.2) K9.out L.out.1).mono ?_
  rintro r w10 ⟨rfl, b10⟩
  have B10 := below_step B9 (Nat.le_refl _) b10
  have OI10 : Hid (OwnH w10 w6.heap.size vi Ls) := OI9.out.below b10
  have OS10 : Hid (OwnH w10 w3.heap.size vs Ls) := OS9.out.below b10
  have S10 : Hid (SlabH w10 h1 ss.length ss ss.length ∧ SlabI w10 h2 ord.length ord ord.length) := ⟨S9.out.1.below b10 S9.out.1.lt, S9.out.2.below b10 S9.out.2.lt⟩
  clear OI9 OS9 S9 b10 B9 K9
  go_wp2_with fail
  refine (toI_any a' cap' ord w10 (H.out.2.below B10) LO.out).mono ?_
  rintro r w11 ⟨g4, rfl, G4, S4, b11⟩
  have B11 := below_step B10 (Nat.le_refl _) b11
  have OI11 : Hid (OwnH w11 w6.heap.size vi Ls) := OI10.out.below b11
  have OS11 : Hid (OwnH w11 w3.heap.size vs Ls) := OS10.out.below b11
  have S11 : Hid (SlabH w11 h1 ss.length ss ss.length ∧ SlabI w11 h2 ord.length ord ord.length) := ⟨S10.out.1.below b11 S10.out.1.lt, S10.out.2.below b11 S10.out.2.lt⟩
  have K11 : Hid (RowI w11 (some ⟨g4, 0, none⟩) ord) := S4.row
  clear OI10 OS10 S10 b11 B10 S4 G4
  go_wp2_with fail
  refine (eqI_same _ _ _ _ ord w11 S11.out.2.row K11.out LO.out).mono ?_
  rintro r w12 ⟨rfl, b12⟩
  have B12 := below_step B11 (Nat.le_refl _) b12
  have OI12 : Hid (OwnH w12 w6.heap.size vi Ls) := OI11.out.below b12
  have OS12 : Hid (OwnH w12 w3.heap.size vs Ls) := OS11.out.below b12
  have S12 : Hid (SlabH w12 h1 ss.length ss ss.length ∧ SlabI w12 h2 ord.length ord ord.length) := ⟨S11.out.1.below b12 S11.out.1.lt, S11.out.2.below b12 S11.out.2.lt⟩
  clear OI11 OS11 S11 b12 B11 K11
  go_wp2_with fail
  refine (markH_slab h1 ss.length _ ss w12 S12.out.1 L.out.1 1 (by omega) (by omega)).mono ?_
  rintro r w13 ⟨rfl, k13⟩
  have B13 : Below w.heap.size w w13 := B12.trans (k13.below B12.size (fun j hj => by have := Z4.out; have := Z5.out; omega))
  have OI13 : Hid (OwnH w13 w6.heap.size vi Ls) := OI12.out.kept k13 (fun j hj h => by have := (own_lt OI12.out hj).1; have := Z5.out; have := Z6.out; omega)
  have OS13 : Hid (OwnH w13 w3.heap.size vs Ls) := OS12.out.kept k13 (fun j hj h => by have := (own_lt OS4.out hj).2; have := Z5.out; omega)
  have S13 : Hid (SlabI w13 h2 ord.length ord ord.length) := S12.out.2.kept k13 (fun h => by have := Z5.out; have := Z6.out; omega)
  obtain ⟨x13, hx13⟩ : ∃ x : Int, 1 + 4 * (ss.length : Int) = x := ⟨_, rfl⟩
  have hb13 : 0 ≤ x13 ∧ x13 ≤ 100000000 := by have := L.out.1; omega
  rw [hx13]
  clear S12 k13 B12 OI12 OS12 hx13
  go_wp2_with fail
  refine (markI_slabK h2 ord.length _ ord w13 S13.out LO.out x13 hb13.1 hb13.2).mono ?_
  rintro r w14 ⟨rfl, k14⟩
  have B14 : Below w.heap.size w w14 := B13.trans (k14.below B13.size (fun j hj => by have := Z4.out; have := Z5.out; have := Z6.out; omega))
  have OI14 : Hid (OwnH w14 w6.heap.size vi Ls) := OI13.out.kept k14 (fun j hj h => by have := (own_lt OI13.out hj).1; have := Z6.out; omega)
  have OS14 : Hid (OwnH w14 w3.heap.size vs Ls) := OS13.out.kept k14 (fun j hj h => by have := (own_lt OS4.out hj).2; have := Z5.out; have := Z6.out; omega)
  obtain ⟨x14, hx14⟩ : ∃ x : Int, x13 + (ord.length : Int) = x := ⟨_, rfl⟩
  have hn14 : ¬ x14 < 0 := by omega
  rw [hx14]
  clear S13 k14 B13 OI13 OS13 hx14
  go_wp2_with fail
  refine (eqH_own OI14.out OS14.out HZ.out LM.out).mono ?_
  rintro r w15 ⟨rfl, b15⟩
  have B15 := below_step B14 (Nat.le_refl _) b15
  have OI15 : Hid (OwnH w15 w6.heap.size vi Ls) := OI14.out.below b15
  have OS15 : Hid (OwnH w15 w3.heap.size vs Ls) := OS14.out.below b15
  clear B14 OS14 OI14 b15
  obtain ⟨n, hn⟩ : ∃ n, Ls.length = n := ⟨_, rfl⟩
  have LN : n ≤ 245760 := by rw [← hn]; exact LL.out
  have hmark := markH_own OI15.out LM.out 1 (by omega) (by omega)
  rw [hn] at hmark
  go_wp2_with fail
  refine hmark.mono ?_
  rintro r w16 ⟨rfl, om, k16⟩
  have HOM : Hid (OwnH w16 w6.heap.size vi (marksH 1 n)) := om
  have B16 : Below w.heap.size w w16 := B15.trans (k16.below B15.size (fun j hj => by have := (own_lt OI15.out hj).1; have := Z4.out; have := Z5.out; have := Z6.out; omega))
  have OS16 : Hid (OwnH w16 w3.heap.size vs Ls) := OS15.out.kept k16 (fun j hj h => by have := (own_lt OS4.out hj).2; have := (own_lt OI15.out h).1; have := Z5.out; have := Z6.out; omega)
  clear om k16 B15 OS15 OI15 hn hmark
  go_wp2_with fail
  refine (heldH_own HOM.out (by omega) (by omega) (by omega)).mono ?_
  rintro r w17 ⟨rfl, b17⟩
  have B17 := below_step B16 (Nat.le_refl _) b17
  have OM17 : Hid (OwnH w17 w6.heap.size vi (marksH 1 n)) := HOM.out.below b17
  have OS17 : Hid (OwnH w17 w3.heap.size vs Ls) := OS16.out.below b17
  have hN0 : ¬ (1 : Int) + 4 * (n : Int) < 0 := by omega
  clear B16 HOM OS16 b17
  go_wp2_with fail
  refine (toH_any a cap ss w17 (H.out.1.below B17) L.out.1).mono ?_
  rintro r w18 ⟨g5, rfl, G5, S5', b18⟩
  have B18 := below_step B17 (Nat.le_refl _) b18
  have OM18 : Hid (OwnH w18 w6.heap.size vi (marksH 1 n)) := OM17.out.below b18
  have OS18 : Hid (OwnH w18 w3.heap.size vs Ls) := OS17.out.below b18
  have K18 : Hid (RowH w18 (some ⟨g5, 0, none⟩) ss) := S5'.row L.out.2
  clear B17 OM17 OS17 b18 S5' G5
  go_wp2_with fail
  refine (toI_any a' cap' ord w18 (H.out.2.below B18) LO.out).mono ?_
  rintro r w19 ⟨g6, rfl, G6, S6', b19⟩
  have B19 := below_step B18 (Nat.le_refl _) b19
  have OM19 : Hid (OwnH w19 w6.heap.size vi (marksH 1 n)) := OM18.out.below b19
  have OS19 : Hid (OwnH w19 w3.heap.size vs Ls) := OS18.out.below b19
  have K19 : Hid (RowH w19 (some ⟨g5, 0, none⟩) ss ∧ RowI w19 (some ⟨g6, 0, none⟩) ord) := ⟨K18.out.below b19, S6'.row⟩
  clear B18 OM18 OS18 b19 S6' G6 K18
  go_wp2_with fail
  refine (implSerialHistory_any _ _ _ _ ss ord w19 K19.out.1 K19.out.2 L.out.1 LO.out).mono ?_
  rw [HL.out, HC.out]
  rintro r w20 ⟨vh, rfl, oh, b20⟩
  have B20 := below_step B19 (Nat.le_refl _) b20
  have OH20 : Hid (OwnH w20 w19.heap.size vh Ls) := oh
  have OM20 : Hid (OwnH w20 w6.heap.size vi (marksH 1 n)) := OM19.out.below b20
  have OS20 : Hid (OwnH w20 w3.heap.size vs Ls) := OS19.out.below b20
  clear B19 OM19 OS19 b20 oh K19
  go_wp2_with fail
  refine (eqH_own OH20.out OS20.out HZ.out LM.out).mono ?_
  rintro r w21 ⟨rfl, b21⟩
  have B21 := below_step B20 (Nat.le_refl _) b21
  have OM21 : Hid (OwnH w21 w6.heap.size vi (marksH 1 n)) := OM20.out.below b21
  clear B20 OM20 OS20 OH20 b21
  go_wp2_with fail
  refine (heldH_own OM21.out (by omega) (by omega) (by omega)).mono ?_
  rintro r w22 ⟨rfl, b22⟩
  have B22 := below_step B21 (Nat.le_refl _) b22
  clear B21 OM21 b22
  go_wp2
  go_ret
  exact ⟨rfl, B22⟩
end Go.Proofs.Ytlcgmifibekegaa
