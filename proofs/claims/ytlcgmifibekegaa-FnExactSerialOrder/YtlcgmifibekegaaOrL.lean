/- The law on SerialOrder, walked (stage 8). -/
import Derived.Test.YtlcgmifibekegaaOrG
import Derived.Test.YtlcgmifibekegaaOrH
import Derived.Test.YtlcgmifibekegaaSrL
namespace Go.Proofs.Ytlcgmifibekegaa
open Go.ChangeShapes Go.WideShapes Go.ChangeAt Go.RowKit Go.Joins

set_option maxRecDepth 100000 in
set_option maxHeartbeats 8000000 in
theorem lawSerialOrder (a a' : Option Addr) (cap cap' : Nat) (ns : List Int) (es : List P2) (w : World) (hv : RowI w a ns) (hv' : RowP w a' es) (lv : ns.length ≤ maxLen) (lv' : es.length ≤ maxLen) :
    Calls Try.prog 9 #[.slice a ns.length cap, .slice a' es.length cap'] w fun r w' => r = .returned (.bool true) ∧ Below w.heap.size w w' := by
  have H : Hid (RowI w a ns ∧ RowP w a' es) := ⟨hv, hv'⟩
  have M : Hid (es.length ≤ maxLen) := lv'
  unfold maxLen at lv lv'
  clear hv hv'
  by_cases h20 : (1048576 : Int) < (ns.length : Int)
  · go_enter Try.func9, Try.ntmps9
    go_wp2
    go_ret
    exact ⟨rfl, Below.refl _ _⟩
  have LO : Hid (ns.length ≤ 1048576) := (by omega : ns.length ≤ 1048576)
  go_enter Try.func9, Try.ntmps9
  go_wp2_with fail
  refine (szP_any a' cap' es 1048576 w M.out (by omega) (by omega)).mono ?_
  rintro r w1 ⟨x, rfl, x0, x1, x2, B1⟩
  by_cases hx : x < 0
  · clear x2
    go_wp2
    go_ret
    exact ⟨rfl, B1⟩
  have LE : Hid (es.length ≤ 1048576) := (by have := x2 (by omega); omega : es.length ≤ 1048576)
  clear x2
  obtain ⟨Ls, hLs⟩ : ∃ l, soL ns es = l := ⟨_, rfl⟩
  obtain ⟨C, hC⟩ : ∃ c, soC ns es = c := ⟨_, rfl⟩
  have LL : Hid (Ls.length ≤ 4096) := by show _ ≤ _; rw [← hLs]; exact soL_len ns es
  have LM : Hid (Ls.length ≤ 1048576) := Nat.le_trans LL.out (by decide)
  have HL : Hid (soL ns es = Ls) := hLs
  have HC : Hid (soC ns es = C) := hC
  clear hLs hC
  go_wp2_with fail
  refine (toI_any a cap ns w1 (H.out.1.below B1) LO.out).mono ?_
  rintro r w2 ⟨g1, rfl, G1, S1, b2⟩
  have B2 := below_step B1 (Nat.le_refl _) b2
  have K1 : Hid (RowI w2 (some ⟨g1, 0, none⟩) ns) := S1.row
  clear S1 b2 B1 G1
  go_wp2_with fail
  refine (toP_any a' cap' es w2 (H.out.2.below B2) LE.out).mono ?_
  rintro r w3 ⟨g2, rfl, G2, S2, b3⟩
  have B3 := below_step B2 (Nat.le_refl _) b3
  have K2 : Hid (RowI w3 (some ⟨g1, 0, none⟩) ns ∧ RowP w3 (some ⟨g2, 0, none⟩) es) := ⟨K1.out.below b3, S2.row⟩
  clear S2 b3 B2 G2 K1
  go_wp2_with fail
  refine (specSerialOrder_any _ _ _ _ ns es w3 K2.out.1 K2.out.2 LO.out LE.out (Nat.le_refl _)).mono ?_
  rw [HL.out, HC.out]
  rintro r w4 ⟨vs, rfl, os, b4⟩
  have OS4 : Hid (OwnI w4 w3.heap.size vs Ls) := os
  have B4 := below_step B3 (Nat.le_refl _) b4
  have Z4 : Hid (w.heap.size ≤ w3.heap.size ∧ w3.heap.size ≤ w4.heap.size) := ⟨B3.size, b4.size⟩
  clear K2 b4 B3 os
  go_wp2_with fail
  refine (toI_any a cap ns w4 (H.out.1.below B4) LO.out).mono ?_
  rintro r w5 ⟨h1, rfl, G1, S1, b5⟩
  have B5 := below_step B4 (Nat.le_refl _) b5
  have S5 : Hid (SlabI w5 h1 ns.length ns ns.length) := S1
  have OS5 : Hid (OwnI w5 w3.heap.size vs Ls) := OS4.out.below b5
  have Z5 : Hid (w4.heap.size ≤ h1 ∧ h1 < w5.heap.size) := ⟨G1, S1.lt⟩
  clear S1 b5 B4 G1
  go_wp2_with fail
  refine (toP_any a' cap' es w5 (H.out.2.below B5) LE.out).mono ?_
  rintro r w6 ⟨h2, rfl, G2, S2, b6⟩
  have B6 := below_step B5 (Nat.le_refl _) b6
  have S6 : Hid (SlabI w6 h1 ns.length ns ns.length ∧ SlabP w6 h2 es.length es es.length) := ⟨S5.out.below b6 S5.out.lt, S2⟩
  have OS6 : Hid (OwnI w6 w3.heap.size vs Ls) := OS5.out.below b6
  have Z6 : Hid (w5.heap.size ≤ h2 ∧ h2 < w6.heap.size) := ⟨G2, S2.lt⟩
  clear S2 b6 B5 G2 S5 OS5
  go_wp2_with fail
  refine (implSerialOrder_any _ _ _ _ ns es w6 S6.out.1.row S6.out.2.row LO.out LE.out).mono ?_
  rw [HL.out, HC.out]
  rintro r w7 ⟨vi, rfl, oi, b7⟩
  have B7 := below_step B6 (Nat.le_refl _) b7
  have OI7 : Hid (OwnI w7 w6.heap.size vi Ls) := oi
  have OS7 : Hid (OwnI w7 w3.heap.size vs Ls) := OS6.out.below b7
  have S7 : Hid (SlabI w7 h1 ns.length ns ns.length ∧ SlabP w7 h2 es.length es es.length) := ⟨S6.out.1.below b7 S6.out.1.lt, S6.out.2.below b7 S6.out.2.lt⟩
  have Z7 : Hid (w6.heap.size ≤ w7.heap.size) := b7.size
  clear S6 b7 B6 oi OS6
  go_wp2_with fail
  refine (eqI_ownK OI7.out OS7.out LM.out).mono ?_
  rintro r w8 ⟨rfl, b8⟩
  have B8 := below_step B7 (Nat.le_refl _) b8
  have OI8 : Hid (OwnI w8 w6.heap.size vi Ls) := OI7.out.below b8
  have OS8 : Hid (OwnI w8 w3.heap.size vs Ls) := OS7.out.below b8
  have S8 : Hid (SlabI w8 h1 ns.length ns ns.length ∧ SlabP w8 h2 es.length es es.length) := ⟨S7.out.1.below b8 S7.out.1.lt, S7.out.2.below b8 S7.out.2.lt⟩
  clear OI7 OS7 S7 b8 B7
  go_wp2_with fail
  refine (toI_any a cap ns w8 (H.out.1.below B8) LO.out).mono ?_
  rintro r w9 ⟨g3, rfl, G3, S3, b9⟩
  have B9 := below_step B8 (Nat.le_refl _) b9
  have OI9 : Hid (OwnI w9 w6.heap.size vi Ls) := OI8.out.below b9
  have OS9 : Hid (OwnI w9 w3.heap.size vs Ls) := OS8.out.below b9
  have S9 : Hid (SlabI w9 h1 ns.length ns ns.length ∧ SlabP w9 h2 es.length es es.length) := ⟨S8.out.1.below b9 S8.out.1.lt, S8.out.2.below b9 S8.out.2.lt⟩
  have K9 : Hid (RowI w9 (some ⟨g3, 0, none⟩) ns) := S3.row
  clear OI8 OS8 S8 b9 B8 S3 G3
  go_wp2_with fail
  refine (eqI_same _ _ _ _ ns w9 S9.out.1.row K9.out LO.out).mono ?_
  rintro r w10 ⟨rfl, b10⟩
  have B10 := below_step B9 (Nat.le_refl _) b10
  have OI10 : Hid (OwnI w10 w6.heap.size vi Ls) := OI9.out.below b10
  have OS10 : Hid (OwnI w10 w3.heap.size vs Ls) := OS9.out.below b10
  have S10 : Hid (SlabI w10 h1 ns.length ns ns.length ∧ SlabP w10 h2 es.length es es.length) := ⟨S9.out.1.below b10 S9.out.1.lt, S9.out.2.below b10 S9.out.2.lt⟩
  clear OI9 OS9 S9 b10 B9 K9
  go_wp2_with fail
  refine (toP_any a' cap' es w10 (H.out.2.below B10) LE.out).mono ?_
  rintro r w11 ⟨g4, rfl, G4, S4, b11⟩
  have B11 := below_step B10 (Nat.le_refl _) b11
  have OI11 : Hid (OwnI w11 w6.heap.size vi Ls) := OI10.out.below b11
  have OS11 : Hid (OwnI w11 w3.heap.size vs Ls) := OS10.out.below b11
  have S11 : Hid (SlabI w11 h1 ns.length ns ns.length ∧ SlabP w11 h2 es.length es es.length) := ⟨S10.out.1.below b11 S10.out.1.lt, S10.out.2.below b11 S10.out.2.lt⟩
  have K11 : Hid (RowP w11 (some ⟨g4, 0, none⟩) es) := S4.row
  clear OI10 OS10 S10 b11 B10 S4 G4
  go_wp2_with fail
  refine (eqP_same _ _ _ _ es w11 S11.out.2.row K11.out LE.out).mono ?_
  rintro r w12 ⟨rfl, b12⟩
  have B12 := below_step B11 (Nat.le_refl _) b12
  have OI12 : Hid (OwnI w12 w6.heap.size vi Ls) := OI11.out.below b12
  have OS12 : Hid (OwnI w12 w3.heap.size vs Ls) := OS11.out.below b12
  have S12 : Hid (SlabI w12 h1 ns.length ns ns.length ∧ SlabP w12 h2 es.length es es.length) := ⟨S11.out.1.below b12 S11.out.1.lt, S11.out.2.below b12 S11.out.2.lt⟩
  clear OI11 OS11 S11 b12 B11 K11
  go_wp2_with fail
  refine (markI_slabK h1 ns.length _ ns w12 S12.out.1 LO.out 1 (by omega) (by omega)).mono ?_
  rintro r w13 ⟨rfl, k13⟩
  have B13 : Below w.heap.size w w13 := B12.trans (k13.below B12.size (fun j hj => by have := Z4.out; have := Z5.out; omega))
  have OI13 : Hid (OwnI w13 w6.heap.size vi Ls) := OI12.out.kept k13 (fun j hj h => by have := (own_lt OI12.out hj).1; have := Z5.out; have := Z6.out; omega)
  have OS13 : Hid (OwnI w13 w3.heap.size vs Ls) := OS12.out.kept k13 (fun j hj h => by have := (own_lt OS4.out hj).2; have := Z5.out; omega)
  have S13 : Hid (SlabP w13 h2 es.length es es.length) := S12.out.2.kept k13 (fun h => by have := Z5.out; have := Z6.out; omega)
  obtain ⟨x13, hx13⟩ : ∃ x : Int, 1 + (ns.length : Int) = x := ⟨_, rfl⟩
  have hb13 : 0 ≤ x13 ∧ x13 ≤ 100000000 := by have := LO.out; omega
  rw [hx13]
  clear S12 k13 B12 OI12 OS12 hx13
  go_wp2_with fail
  refine (markP_slab h2 es.length _ es w13 S13.out LE.out x13 hb13.1 (by omega)).mono ?_
  rintro r w14 ⟨rfl, k14⟩
  have B14 : Below w.heap.size w w14 := B13.trans (k14.below B13.size (fun j hj => by have := Z4.out; have := Z5.out; have := Z6.out; omega))
  have OI14 : Hid (OwnI w14 w6.heap.size vi Ls) := OI13.out.kept k14 (fun j hj h => by have := (own_lt OI13.out hj).1; have := Z6.out; omega)
  have OS14 : Hid (OwnI w14 w3.heap.size vs Ls) := OS13.out.kept k14 (fun j hj h => by have := (own_lt OS4.out hj).2; have := Z5.out; have := Z6.out; omega)
  obtain ⟨x14, hx14⟩ : ∃ x : Int, x13 + 2 * (es.length : Int) = x := ⟨_, rfl⟩
  have hn14 : ¬ x14 < 0 := by omega
  rw [hx14]
  clear S13 k14 B13 OI13 OS13 hx14
  go_wp2_with fail
  refine (eqI_ownK OI14.out OS14.out LM.out).mono ?_
  rintro r w15 ⟨rfl, b15⟩
  have B15 := below_step B14 (Nat.le_refl _) b15
  have OI15 : Hid (OwnI w15 w6.heap.size vi Ls) := OI14.out.below b15
  have OS15 : Hid (OwnI w15 w3.heap.size vs Ls) := OS14.out.below b15
  clear B14 OS14 OI14 b15
  obtain ⟨n, hn⟩ : ∃ n, Ls.length = n := ⟨_, rfl⟩
  have LN : n ≤ 4096 := by rw [← hn]; exact LL.out
  have hmark := markI_ownK OI15.out LM.out 1 (by omega) (by omega)
  rw [hn] at hmark
  go_wp2_with fail
  refine hmark.mono ?_
  rintro r w16 ⟨rfl, om, k16⟩
  have HOM : Hid (OwnI w16 w6.heap.size vi (marksL 1 n)) := om
  have B16 : Below w.heap.size w w16 := B15.trans (k16.below B15.size (fun j hj => by have := (own_lt OI15.out hj).1; have := Z4.out; have := Z5.out; have := Z6.out; omega))
  have OS16 : Hid (OwnI w16 w3.heap.size vs Ls) := OS15.out.kept k16 (fun j hj h => by have := (own_lt OS4.out hj).2; have := (own_lt OI15.out h).1; have := Z5.out; have := Z6.out; omega)
  clear om k16 B15 OS15 OI15 hn hmark
  go_wp2_with fail
  refine (heldI_ownK HOM.out (by omega) (by omega) (by omega)).mono ?_
  rintro r w17 ⟨rfl, h17⟩
  obtain rfl := h17.symm
  have hN0 : ¬ (1 : Int) + (n : Int) < 0 := by omega
  go_wp2_with fail
  refine (toI_any a cap ns w16 (H.out.1.below B16) LO.out).mono ?_
  rintro r w18 ⟨g5, rfl, G5, S5', b18⟩
  have B18 := below_step B16 (Nat.le_refl _) b18
  have OM18 : Hid (OwnI w18 w6.heap.size vi (marksL 1 n)) := HOM.out.below b18
  have OS18 : Hid (OwnI w18 w3.heap.size vs Ls) := OS16.out.below b18
  have K18 : Hid (RowI w18 (some ⟨g5, 0, none⟩) ns) := S5'.row
  clear B16 HOM OS16 b18 S5' G5
  go_wp2_with fail
  refine (toP_any a' cap' es w18 (H.out.2.below B18) LE.out).mono ?_
  rintro r w19 ⟨g6, rfl, G6, S6', b19⟩
  have B19 := below_step B18 (Nat.le_refl _) b19
  have OM19 : Hid (OwnI w19 w6.heap.size vi (marksL 1 n)) := OM18.out.below b19
  have OS19 : Hid (OwnI w19 w3.heap.size vs Ls) := OS18.out.below b19
  have K19 : Hid (RowI w19 (some ⟨g5, 0, none⟩) ns ∧ RowP w19 (some ⟨g6, 0, none⟩) es) := ⟨K18.out.below b19, S6'.row⟩
  clear B18 OM18 OS18 b19 S6' G6 K18
  go_wp2_with fail
  refine (implSerialOrder_any _ _ _ _ ns es w19 K19.out.1 K19.out.2 LO.out LE.out).mono ?_
  rw [HL.out, HC.out]
  rintro r w20 ⟨vh, rfl, oh, b20⟩
  have B20 := below_step B19 (Nat.le_refl _) b20
  have OH20 : Hid (OwnI w20 w19.heap.size vh Ls) := oh
  have OM20 : Hid (OwnI w20 w6.heap.size vi (marksL 1 n)) := OM19.out.below b20
  have OS20 : Hid (OwnI w20 w3.heap.size vs Ls) := OS19.out.below b20
  clear B19 OM19 OS19 b20 oh K19
  go_wp2_with fail
  refine (eqI_ownK OH20.out OS20.out LM.out).mono ?_
  rintro r w21 ⟨rfl, b21⟩
  have B21 := below_step B20 (Nat.le_refl _) b21
  have OM21 : Hid (OwnI w21 w6.heap.size vi (marksL 1 n)) := OM20.out.below b21
  clear B20 OM20 OS20 OH20 b21
  go_wp2_with fail
  refine (heldI_ownK OM21.out (by omega) (by omega) (by omega)).mono ?_
  rintro r w22 ⟨rfl, h22⟩
  obtain rfl := h22.symm
  go_wp2
  go_ret
  exact ⟨rfl, B21⟩
end Go.Proofs.Ytlcgmifibekegaa
