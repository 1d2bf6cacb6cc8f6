/- The law on PlayHistory, walked (stage 8). -/
import Derived.Test.YtlcgmifibekegaaPlC
import Derived.Test.YtlcgmifibekegaaHoL
namespace Go.Proofs.Ytlcgmifibekegaa
open Go.RowKit

/-- Two lists of an answer. -/
abbrev Two (w : World) (B : Nat) (v1 v2 : Value) (L : List TS × List TY) : Prop := OwnS w B v1 L.1 ∧ OwnY w B v2 L.2
theorem Two.below {w w' : World} {B : Nat} {v1 v2 : Value} {L : List TS × List TY} (h : Two w B v1 v2 L) (hb : Below w.heap.size w w') : Two w' B v1 v2 L := ⟨h.1.below hb, h.2.below hb⟩
theorem Two.kept {S : Nat → Prop} {w w' : World} {B : Nat} {v1 v2 : Value} {L : List TS × List TY} (h : Two w B v1 v2 L) (hK : Kept S w w') (h1 : ∀ j, v1.ownBlock = some j → ¬ S j) (h2 : ∀ j, v2.ownBlock = some j → ¬ S j) : Two w' B v1 v2 L := ⟨h.1.kept hK h1, h.2.kept hK h2⟩
theorem apart_blk {w : World} {B B' e e' m m' n n' : Nat} {v v' : Value} {xs xs' : List Value} (h : w.ownsRow B e m v n xs) (h' : w.ownsRow B' e' m' v' n' xs') (he : e ≠ e') : ∀ j, v.ownBlock = some j → ¬ v'.ownBlock = some j := fun j hj hj' => by
  obtain ⟨c, hc⟩ := own_rowS_blk h hj
  obtain ⟨c', hc'⟩ := own_rowS_blk h' hj'
  rw [hc] at hc'
  cases hc'
  exact he rfl

set_option maxRecDepth 100000 in
set_option maxHeartbeats 8000000 in
theorem lawPlayHistory (a : Option Addr) (cap : Nat) (ss : List TH) (w : World) (hv : RowH w a ss) (lv : ss.length ≤ maxLen) :
    Calls Try.prog 10 #[.slice a ss.length cap] w fun r w' => r = .returned (.bool true) ∧ Below w.heap.size w w' := by
  have H : Hid (RowH w a ss) := hv
  have M : Hid (ss.length ≤ maxLen) := lv
  clear hv lv
  go_enter Try.func10, Try.ntmps10
  go_wp2_with fail
  refine (szH_any a cap ss 1048576 w H.out M.out (by omega) (by omega)).mono ?_
  rintro r w1 ⟨x, rfl, x0, x1, x2, B1⟩
  by_cases hx : x < 0
  · clear x2
    go_wp2
    go_ret
    exact ⟨rfl, B1⟩
  have L : Hid (ss.length ≤ 1048576 ∧ ∀ i, i < ss.length → SmallH (nthH ss i)) := ⟨by have := (x2 (by omega)).1; omega, (x2 (by omega)).2⟩
  clear x2
  obtain ⟨Ls, hLs⟩ : ∃ l, plV ss = l := ⟨_, rfl⟩
  obtain ⟨C, hC⟩ : ∃ c, hisC ss = c := ⟨_, rfl⟩
  have LL : Hid (Ls.1.length ≤ 60 ∧ Ls.2.length ≤ 60) := by show _ ∧ _; rw [← hLs]; exact plV_len ss
  have L1 : Hid (Ls.1.length ≤ 1048576) := Nat.le_trans LL.out.1 (by decide)
  have L2 : Hid (Ls.2.length ≤ 1048576) := Nat.le_trans LL.out.2 (by decide)
  have HL : Hid (plV ss = Ls) := hLs
  have HC : Hid (hisC ss = C) := hC
  clear hLs hC
  go_wp2_with fail
  refine (toH_any a cap ss w1 (H.out.below B1) L.out.1).mono ?_
  rintro r w2 ⟨g1, rfl, G1, S1, b2⟩
  have B2 := below_step B1 (Nat.le_refl _) b2
  have K1 : Hid (RowH w2 (some ⟨g1, 0, none⟩) ss) := S1.row L.out.2
  clear S1 b2 B1 G1
  go_wp2_with fail
  refine (specPlayHistory_any _ _ ss w2 K1.out L.out.1).mono ?_
  rw [HL.out, HC.out]
  rintro r w3 ⟨vs1, vs2, rfl, os1, os2, b3⟩
  have OS3 : Hid (Two w3 w2.heap.size vs1 vs2 Ls) := ⟨os1, os2⟩
  have B3 := below_step B2 (Nat.le_refl _) b3
  have Z3 : Hid (w2.heap.size ≤ w3.heap.size) := b3.size
  clear K1 b3 os1 os2
  go_wp2_with fail
  refine (toH_any a cap ss w3 (H.out.below B3) L.out.1).mono ?_
  rintro r w4 ⟨g2, rfl, G2, S2, b4⟩
  have B4 := below_step B3 (Nat.le_refl _) b4
  have S4 : Hid (SlabH w4 g2 ss.length ss ss.length) := S2
  have OS4 : Hid (Two w4 w2.heap.size vs1 vs2 Ls) := OS3.out.below b4
  have Z : Hid (w.heap.size ≤ w2.heap.size ∧ w2.heap.size ≤ w3.heap.size ∧ w3.heap.size ≤ g2 ∧ g2 < w4.heap.size) := ⟨B2.size, Z3.out, G2, S2.lt⟩
  clear S2 b4 B3 G2 B2
  go_wp2_with fail
  refine (implPlayHistory_any _ _ ss w4 (S4.out.row L.out.2) L.out.1).mono ?_
  rw [HL.out, HC.out]
  rintro r w5 ⟨vi1, vi2, rfl, oi1, oi2, b5⟩
  have B5 := below_step B4 (Nat.le_refl _) b5
  have OI5 : Hid (Two w5 w4.heap.size vi1 vi2 Ls) := ⟨oi1, oi2⟩
  have OS5 : Hid (Two w5 w2.heap.size vs1 vs2 Ls) := OS4.out.below b5
  have S5 : Hid (SlabH w5 g2 ss.length ss ss.length) := S4.out.below b5 S4.out.lt
  clear S4 b5 B4 oi1 oi2 OS4
  go_wp2_with fail
  refine (eqS_own OI5.out.1 OS5.out.1 L1.out).mono ?_
  rintro r w5a ⟨rfl, b5a⟩
  have B5a := below_step B5 (Nat.le_refl _) b5a
  have OI5a : Hid (Two w5a w4.heap.size vi1 vi2 Ls) := OI5.out.below b5a
  have OS5a : Hid (Two w5a w2.heap.size vs1 vs2 Ls) := OS5.out.below b5a
  have S5a : Hid (SlabH w5a g2 ss.length ss ss.length) := S5.out.below b5a S5.out.lt
  clear OI5 OS5 S5 b5a B5
  go_wp2_with fail
  refine (eqY_own OI5a.out.2 OS5a.out.2 L2.out).mono ?_
  rintro r w6 ⟨rfl, b6⟩
  have B6 := below_step B5a (Nat.le_refl _) b6
  have OI6 : Hid (Two w6 w4.heap.size vi1 vi2 Ls) := OI5a.out.below b6
  have OS6 : Hid (Two w6 w2.heap.size vs1 vs2 Ls) := OS5a.out.below b6
  have S6 : Hid (SlabH w6 g2 ss.length ss ss.length) := S5a.out.below b6 S5a.out.lt
  clear OI5a OS5a S5a b6 B5a
  go_wp2_with fail
  refine (toH_any a cap ss w6 (H.out.below B6) L.out.1).mono ?_
  rintro r w7 ⟨g3, rfl, G3, S3, b7⟩
  have B7 := below_step B6 (Nat.le_refl _) b7
  have OI7 : Hid (Two w7 w4.heap.size vi1 vi2 Ls) := OI6.out.below b7
  have OS7 : Hid (Two w7 w2.heap.size vs1 vs2 Ls) := OS6.out.below b7
  have S7 : Hid (SlabH w7 g2 ss.length ss ss.length) := S6.out.below b7 S6.out.lt
  have K7 : Hid (RowH w7 (some ⟨g3, 0, none⟩) ss) := S3.row L.out.2
  clear OI6 OS6 S6 b7 B6 S3 G3
  go_wp2_with fail
  refine (eqH_same _ _ _ _ ss w7 (S7.out.row L.out.2) K7.out L.out.1).mono ?_
  rintro r w8 ⟨rfl, b8⟩
  have B8 := below_step B7 (Nat.le_refl _) b8
  have OI8 : Hid (Two w8 w4.heap.size vi1 vi2 Ls) := OI7.out.below b8
  have OS8 : Hid (Two w8 w2.heap.size vs1 vs2 Ls) := OS7.out.below b8
  have S8 : Hid (SlabH w8 g2 ss.length ss ss.length) := S7.out.below b8 S7.out.lt
  clear OI7 OS7 S7 b8 B7 K7
  go_wp2_with fail
  refine (markH_slab g2 ss.length _ ss w8 S8.out L.out.1 1 (by omega) (by omega)).mono ?_
  rintro r w9 ⟨rfl, k9⟩
  have B9 : Below w.heap.size w w9 := B8.trans (k9.below B8.size (fun j hj => by have := Z.out; omega))
  have OI9 : Hid (Two w9 w4.heap.size vi1 vi2 Ls) := OI8.out.kept k9 (fun j hj h => by have := (own_lt OI8.out.1 hj).1; have := Z.out; omega) (fun j hj h => by have := (own_lt OI8.out.2 hj).1; have := Z.out; omega)
  have OS9 : Hid (Two w9 w2.heap.size vs1 vs2 Ls) := OS8.out.kept k9 (fun j hj h => by have := (own_lt OS3.out.1 hj).2; have := Z.out; omega) (fun j hj h => by have := (own_lt OS3.out.2 hj).2; have := Z.out; omega)
  obtain ⟨x9, hx9⟩ : ∃ x : Int, 1 + 4 * (ss.length : Int) = x := ⟨_, rfl⟩
  rw [hx9]
  have hn9 : ¬ x9 < 0 := by omega
  clear S8 k9 B8 OI8 OS8 hx9
  go_wp2_with fail
  refine (eqS_own OI9.out.1 OS9.out.1 L1.out).mono ?_
  rintro r w9a ⟨rfl, b9a⟩
  have B9a := below_step B9 (Nat.le_refl _) b9a
  have OI9a : Hid (Two w9a w4.heap.size vi1 vi2 Ls) := OI9.out.below b9a
  have OS9a : Hid (Two w9a w2.heap.size vs1 vs2 Ls) := OS9.out.below b9a
  clear OI9 OS9 b9a B9
  go_wp2_with fail
  refine (eqY_own OI9a.out.2 OS9a.out.2 L2.out).mono ?_
  rintro r w10 ⟨rfl, b10⟩
  have B10 := below_step B9a (Nat.le_refl _) b10
  have OI10 : Hid (Two w10 w4.heap.size vi1 vi2 Ls) := OI9a.out.below b10
  have OS10 : Hid (Two w10 w2.heap.size vs1 vs2 Ls) := OS9a.out.below b10
  clear B9a OS9a OI9a b10
  obtain ⟨n, hn⟩ : ∃ n, Ls.1.length = n := ⟨_, rfl⟩
  obtain ⟨m, hm⟩ : ∃ m, Ls.2.length = m := ⟨_, rfl⟩
  have LN : n ≤ 60 := by rw [← hn]; exact LL.out.1
  have LM : m ≤ 60 := by rw [← hm]; exact LL.out.2
  have hmark := markS_own OI10.out.1 L1.out 1 (by omega) (by omega)
  rw [hn] at hmark
  go_wp2_with fail
  refine hmark.mono ?_
  rintro r w11 ⟨rfl, om, k11⟩
  have OM11 : Hid (OwnS w11 w4.heap.size vi1 (marksS 1 n)) := om
  have OY11 : Hid (OwnY w11 w4.heap.size vi2 Ls.2) := OI10.out.2.kept k11 (apart_blk OI10.out.2 OI10.out.1 (by decide))
  have B11 : Below w.heap.size w w11 := B10.trans (k11.below B10.size (fun j hj => by have := (own_lt OI10.out.1 hj).1; have := Z.out; omega))
  have OS11 : Hid (Two w11 w2.heap.size vs1 vs2 Ls) := OS10.out.kept k11 (fun j hj h => by have := (own_lt OS3.out.1 hj).2; have := (own_lt OI10.out.1 h).1; have := Z.out; omega) (fun j hj h => by have := (own_lt OS3.out.2 hj).2; have := (own_lt OI10.out.1 h).1; have := Z.out; omega)
  clear om k11 B10 OS10 OI10 hn hmark
  have hmark := markY_own OY11.out L2.out (1 + n) (by omega) (by omega)
  rw [hm] at hmark
  go_wp2_with fail
  refine hmark.mono ?_
  rintro r w12 ⟨rfl, om, k12⟩
  have OY12 : Hid (OwnY w12 w4.heap.size vi2 (marksY (1 + n) m)) := om
  have OM12 : Hid (OwnS w12 w4.heap.size vi1 (marksS 1 n)) := OM11.out.kept k12 (apart_blk OM11.out OY11.out (by decide))
  have B12 : Below w.heap.size w w12 := B11.trans (k12.below B11.size (fun j hj => by have := (own_lt OY11.out hj).1; have := Z.out; omega))
  have OS12 : Hid (Two w12 w2.heap.size vs1 vs2 Ls) := OS11.out.kept k12 (fun j hj h => by have := (own_lt OS3.out.1 hj).2; have := (own_lt OY11.out h).1; have := Z.out; omega) (fun j hj h => by have := (own_lt OS3.out.2 hj).2; have := (own_lt OY11.out h).1; have := Z.out; omega)
  clear om k12 B11 OS11 OY11 OM11 hm hmark
  go_wp2_with fail
  refine (heldS_own OM12.out (by omega) (by omega) (by omega)).mono ?_
  rintro r w13 ⟨rfl, b13⟩
  have B13 := below_step B12 (Nat.le_refl _) b13
  have OM13 : Hid (OwnS w13 w4.heap.size vi1 (marksS 1 n)) := OM12.out.below b13
  have OY13 : Hid (OwnY w13 w4.heap.size vi2 (marksY (1 + n) m)) := OY12.out.below b13
  have OS13 : Hid (Two w13 w2.heap.size vs1 vs2 Ls) := OS12.out.below b13
  have hN0 : ¬ (1 : Int) + (n : Int) < 0 := by omega
  clear B12 OM12 OY12 OS12 b13
  go_wp2_with fail
  refine (heldY_own OY13.out (by omega) (by omega) (by omega)).mono ?_
  rintro r w14 ⟨rfl, b14⟩
  have B14 := below_step B13 (Nat.le_refl _) b14
  have OM14 : Hid (OwnS w14 w4.heap.size vi1 (marksS 1 n)) := OM13.out.below b14
  have OY14 : Hid (OwnY w14 w4.heap.size vi2 (marksY (1 + n) m)) := OY13.out.below b14
  have OS14 : Hid (Two w14 w2.heap.size vs1 vs2 Ls) := OS13.out.below b14
  have hN1 : ¬ (1 : Int) + (n : Int) + 2 * (m : Int) < 0 := by omega
  clear B13 OM13 OY13 OS13 b14
  go_wp2_with fail
  refine (toH_any a cap ss w14 (H.out.below B14) L.out.1).mono ?_
  rintro r w15 ⟨g4, rfl, G4, S4, b15⟩
  have B15 := below_step B14 (Nat.le_refl _) b15
  have OM15 : Hid (OwnS w15 w4.heap.size vi1 (marksS 1 n)) := OM14.out.below b15
  have OY15 : Hid (OwnY w15 w4.heap.size vi2 (marksY (1 + n) m)) := OY14.out.below b15
  have OS15 : Hid (Two w15 w2.heap.size vs1 vs2 Ls) := OS14.out.below b15
  have K15 : Hid (RowH w15 (some ⟨g4, 0, none⟩) ss) := S4.row L.out.2
  clear B14 OM14 OY14 OS14 b15 S4 G4
  go_wp2_with fail
  refine (implPlayHistory_any _ _ ss w15 K15.out L.out.1).mono ?_
  rw [HL.out, HC.out]
  rintro r w16 ⟨vh1, vh2, rfl, oh1, oh2, b16⟩
  have B16 := below_step B15 (Nat.le_refl _) b16
  have OH16 : Hid (Two w16 w15.heap.size vh1 vh2 Ls) := ⟨oh1, oh2⟩
  have OM16 : Hid (OwnS w16 w4.heap.size vi1 (marksS 1 n)) := OM15.out.below b16
  have OY16 : Hid (OwnY w16 w4.heap.size vi2 (marksY (1 + n) m)) := OY15.out.below b16
  have OS16 : Hid (Two w16 w2.heap.size vs1 vs2 Ls) := OS15.out.below b16
  clear B15 OM15 OY15 OS15 b16 oh1 oh2 K15
  go_wp2_with fail
  refine (eqS_own OH16.out.1 OS16.out.1 L1.out).mono ?_
  rintro r w17 ⟨rfl, b17⟩
  have B17 := below_step B16 (Nat.le_refl _) b17
  have OH17 : Hid (Two w17 w15.heap.size vh1 vh2 Ls) := OH16.out.below b17
  have OM17 : Hid (OwnS w17 w4.heap.size vi1 (marksS 1 n)) := OM16.out.below b17
  have OY17 : Hid (OwnY w17 w4.heap.size vi2 (marksY (1 + n) m)) := OY16.out.below b17
  have OS17 : Hid (Two w17 w2.heap.size vs1 vs2 Ls) := OS16.out.below b17
  clear B16 OM16 OY16 OS16 OH16 b17
  go_wp2_with fail
  refine (eqY_own OH17.out.2 OS17.out.2 L2.out).mono ?_
  rintro r w18 ⟨rfl, b18⟩
  have B18 := below_step B17 (Nat.le_refl _) b18
  have OM18 : Hid (OwnS w18 w4.heap.size vi1 (marksS 1 n)) := OM17.out.below b18
  have OY18 : Hid (OwnY w18 w4.heap.size vi2 (marksY (1 + n) m)) := OY17.out.below b18
  clear B17 OM17 OY17 OS17 OH17 b18
  go_wp2_with fail
  refine (heldS_own OM18.out (by omega) (by omega) (by omega)).mono ?_
  rintro r w19 ⟨rfl, b19⟩
  have B19 := below_step B18 (Nat.le_refl _) b19
  have OY19 : Hid (OwnY w19 w4.heap.size vi2 (marksY (1 + n) m)) := OY18.out.below b19
  clear B18 OM18 OY18 b19
  go_wp2_with fail
  refine (heldY_own OY19.out (by omega) (by omega) (by omega)).mono ?_
  rintro r w20 ⟨rfl, b20⟩
  have B20 := below_step B19 (Nat.le_refl _) b20
  clear B19 OY19 b20
  go_wp2
  go_ret
  exact ⟨rfl, B20⟩
end Go.Proofs.Ytlcgmifibekegaa
