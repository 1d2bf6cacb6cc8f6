/- The law on Conflicts, walked (stage 8). -/
import Derived.Test.YtlcgmifibekegaaCfF
import Derived.Test.YtlcgmifibekegaaHoL
namespace Go.Proofs.Ytlcgmifibekegaa
open Go.RowKit

set_option maxRecDepth 100000 in
set_option maxHeartbeats 8000000 in
theorem lawConflicts (a : Option Addr) (cap : Nat) (ss : List TH) (w : World) (hv : RowH w a ss) (lv : ss.length ≤ maxLen) :
    Calls Try.prog 8 #[.slice a ss.length cap] w fun r w' => r = .returned (.bool true) ∧ Below w.heap.size w w' := by
  have H : Hid (RowH w a ss) := hv
  have M : Hid (ss.length ≤ maxLen) := lv
  clear hv lv
  go_enter Try.func8, Try.ntmps8
  go_wp2_with fail
  refine (szH_any a cap ss 1048576 w H.out M.out (by omega) (by omega)).mono ?_
  rintro r w1 ⟨x, rfl, x0, x1, x2, B1⟩
  by_cases hx : x < 0
  · clear x2
    go_wp2
    go_ret
    exact ⟨rfl, B1⟩
  have L : Hid (ss.length ≤ 1048576 ∧ ∀ i, i < ss.length → SmallH (nthH ss i)) := ⟨by have := (x2 (by omega)).1; omega, (x2 (by omega)).2⟩
  clear x2
  obtain ⟨Ls, hLs⟩ : ∃ l, cfL ss = l := ⟨_, rfl⟩
  obtain ⟨C, hC⟩ : ∃ c, hisC ss = c := ⟨_, rfl⟩
  have LL : Hid (Ls.length ≤ 36) := by show _ ≤ _; rw [← hLs]; exact cfL_len ss
  have HL : Hid (cfL ss = Ls) := hLs
  have HC : Hid (hisC ss = C) := hC
  clear hLs hC
  go_wp2_with fail
  refine (toH_any a cap ss w1 (H.out.below B1) L.out.1).mono ?_
  rintro r w2 ⟨g1, rfl, G1, S1, b2⟩
  have B2 := below_step B1 (Nat.le_refl _) b2
  have K1 : Hid (RowH w2 (some ⟨g1, 0, none⟩) ss) := S1.row L.out.2
  clear S1 b2 B1 G1
  go_wp2_with fail
  refine (specConflicts_any _ _ ss w2 K1.out L.out.1).mono ?_
  rw [HL.out, HC.out]
  rintro r w3 ⟨vs, rfl, os, b3⟩
  have OS3 : Hid (OwnP w3 w2.heap.size vs Ls) := os
  have B3 := below_step B2 (Nat.le_refl _) b3
  have Z3 : Hid (w2.heap.size ≤ w3.heap.size) := b3.size
  clear K1 b3 os
  go_wp2_with fail
  refine (toH_any a cap ss w3 (H.out.below B3) L.out.1).mono ?_
  rintro r w4 ⟨g2, rfl, G2, S2, b4⟩
  have B4 := below_step B3 (Nat.le_refl _) b4
  have S4 : Hid (SlabH w4 g2 ss.length ss ss.length) := S2
  have OS4 : Hid (OwnP w4 w2.heap.size vs Ls) := OS3.out.below b4
  have Z : Hid (w.heap.size ≤ w2.heap.size ∧ w2.heap.size ≤ w3.heap.size ∧ w3.heap.size ≤ g2 ∧ g2 < w4.heap.size) := ⟨B2.size, Z3.out, G2, S2.lt⟩
  clear S2 b4 B3 G2 B2
  go_wp2_with fail
  refine (implConflicts_any _ _ ss w4 (S4.out.row L.out.2) L.out.1 L.out.2).mono ?_
  rw [HL.out, HC.out]
  rintro r w5 ⟨vi, rfl, oi, b5⟩
  have B5 := below_step B4 (Nat.le_refl _) b5
  have OI5 : Hid (OwnP w5 w4.heap.size vi Ls) := oi
  have OS5 : Hid (OwnP w5 w2.heap.size vs Ls) := OS4.out.below b5
  have S5 : Hid (SlabH w5 g2 ss.length ss ss.length) := S4.out.below b5 S4.out.lt
  clear S4 b5 B4 oi OS4
  go_wp2_with fail
  refine (eqP_own OI5.out OS5.out (Nat.le_trans LL.out (by decide))).mono ?_
  rintro r w6 ⟨rfl, b6⟩
  have B6 := below_step B5 (Nat.le_refl _) b6
  have OI6 : Hid (OwnP w6 w4.heap.size vi Ls) := OI5.out.below b6
  have OS6 : Hid (OwnP w6 w2.heap.size vs Ls) := OS5.out.below b6
  have S6 : Hid (SlabH w6 g2 ss.length ss ss.length) := S5.out.below b6 S5.out.lt
  clear OI5 OS5 S5 b6 B5
  go_wp2_with fail
  refine (toH_any a cap ss w6 (H.out.below B6) L.out.1).mono ?_
  rintro r w7 ⟨g3, rfl, G3, S3, b7⟩
  have B7 := below_step B6 (Nat.le_refl _) b7
  have OI7 : Hid (OwnP w7 w4.heap.size vi Ls) := OI6.out.below b7
  have OS7 : Hid (OwnP w7 w2.heap.size vs Ls) := OS6.out.below b7
  have S7 : Hid (SlabH w7 g2 ss.length ss ss.length) := S6.out.below b7 S6.out.lt
  have K7 : Hid (RowH w7 (some ⟨g3, 0, none⟩) ss) := S3.row L.out.2
  clear OI6 OS6 S6 b7 B6 S3 G3
  go_wp2_with fail
  refine (eqH_same _ _ _ _ ss w7 (S7.out.row L.out.2) K7.out L.out.1).mono ?_
  rintro r w8 ⟨rfl, b8⟩
  have B8 := below_step B7 (Nat.le_refl _) b8
  have OI8 : Hid (OwnP w8 w4.heap.size vi Ls) := OI7.out.below b8
  have OS8 : Hid (OwnP w8 w2.heap.size vs Ls) := OS7.out.below b8
  have S8 : Hid (SlabH w8 g2 ss.length ss ss.length) := S7.out.below b8 S7.out.lt
  clear OI7 OS7 S7 b8 B7 K7
  go_wp2_with fail
  refine (markH_slab g2 ss.length _ ss w8 S8.out L.out.1 1 (by omega) (by omega)).mono ?_
  rintro r w9 ⟨rfl, k9⟩
  have B9 : Below w.heap.size w w9 := B8.trans (k9.below B8.size (fun j hj => by have := Z.out; omega))
  have OI9 : Hid (OwnP w9 w4.heap.size vi Ls) := OI8.out.kept k9 (fun j hj h => by have := (own_lt OI8.out hj).1; have := Z.out; omega)
  have OS9 : Hid (OwnP w9 w2.heap.size vs Ls) := OS8.out.kept k9 (fun j hj h => by have := (own_lt OS3.out hj).2; have := Z.out; omega)
  obtain ⟨x9, hx9⟩ : ∃ x : Int, 1 + 4 * (ss.length : Int) = x := ⟨_, rfl⟩
  rw [hx9]
  have hn9 : ¬ x9 < 0 := by omega
  clear S8 k9 B8 OI8 OS8 hx9
  go_wp2_with fail
  refine (eqP_own OI9.out OS9.out (Nat.le_trans LL.out (by decide))).mono ?_
  rintro r w10 ⟨rfl, b10⟩
  have B10 := below_step B9 (Nat.le_refl _) b10
  have OI10 : Hid (OwnP w10 w4.heap.size vi Ls) := OI9.out.below b10
  have OS10 : Hid (OwnP w10 w2.heap.size vs Ls) := OS9.out.below b10
  clear B9 OS9 OI9 b10
  obtain ⟨n, hn⟩ : ∃ n, Ls.length = n := ⟨_, rfl⟩
  have LN : n ≤ 36 := by rw [← hn]; exact LL.out
  have hmark := markE_own OI10.out (Nat.le_trans LL.out (by decide)) 1 (by omega) (by omega)
  rw [hn] at hmark
  go_wp2_with fail
  refine hmark.mono ?_
  rintro r w11 ⟨rfl, om, k11⟩
  have HOM : Hid (OwnP w11 w4.heap.size vi (marksP 1 n)) := om
  have B11 : Below w.heap.size w w11 := B10.trans (k11.below B10.size (fun j hj => by have := (own_lt OI10.out hj).1; have := Z.out; omega))
  have OS11 : Hid (OwnP w11 w2.heap.size vs Ls) := OS10.out.kept k11 (fun j hj h => by have := (own_lt OS3.out hj).2; have := (own_lt OI10.out h).1; have := Z.out; omega)
  clear om k11 B10 OS10 OI10 hn hmark
  go_wp2_with fail
  refine (heldE_ownB HOM.out (by omega) (by omega) (by omega)).mono ?_
  rintro r w12 ⟨rfl, b12⟩
  have B12 := below_step B11 (Nat.le_refl _) b12
  have OM12 : Hid (OwnP w12 w4.heap.size vi (marksP 1 n)) := HOM.out.below b12
  have OS12 : Hid (OwnP w12 w2.heap.size vs Ls) := OS11.out.below b12
  have hN0 : ¬ (1 : Int) + 2 * (n : Int) < 0 := by omega
  clear B11 HOM OS11 b12
  go_wp2_with fail
  refine (toH_any a cap ss w12 (H.out.below B12) L.out.1).mono ?_
  rintro r w13 ⟨g4, rfl, G4, S4, b13⟩
  have B13 := below_step B12 (Nat.le_refl _) b13
  have OM13 : Hid (OwnP w13 w4.heap.size vi (marksP 1 n)) := OM12.out.below b13
  have OS13 : Hid (OwnP w13 w2.heap.size vs Ls) := OS12.out.below b13
  have K13 : Hid (RowH w13 (some ⟨g4, 0, none⟩) ss) := S4.row L.out.2
  clear B12 OM12 OS12 b13 S4 G4
  go_wp2_with fail
  refine (implConflicts_any _ _ ss w13 K13.out L.out.1 L.out.2).mono ?_
  rw [HL.out, HC.out]
  rintro r w14 ⟨vh, rfl, oh, b14⟩
  have B14 := below_step B13 (Nat.le_refl _) b14
  have OH14 : Hid (OwnP w14 w13.heap.size vh Ls) := oh
  have OM14 : Hid (OwnP w14 w4.heap.size vi (marksP 1 n)) := OM13.out.below b14
  have OS14 : Hid (OwnP w14 w2.heap.size vs Ls) := OS13.out.below b14
  clear B13 OM13 OS13 b14 oh K13
  go_wp2_with fail
  refine (eqP_own OH14.out OS14.out (Nat.le_trans LL.out (by decide))).mono ?_
  rintro r w15 ⟨rfl, b15⟩
  have B15 := below_step B14 (Nat.le_refl _) b15
  have OM15 : Hid (OwnP w15 w4.heap.size vi (marksP 1 n)) := OM14.out.below b15
  clear B14 OM14 OS14 OH14 b15
  go_wp2_with fail
  refine (heldE_ownB OM15.out (by omega) (by omega) (by omega)).mono ?_
  rintro r w16 ⟨rfl, b16⟩
  have B16 := below_step B15 (Nat.le_refl _) b16
  clear B15 OM15 b16
  go_wp2
  go_ret
  exact ⟨rfl, B16⟩
end Go.Proofs.Ytlcgmifibekegaa
