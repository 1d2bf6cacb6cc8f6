/- The law on DataOK, walked (stage 13). -/
import Derived.Test.YtepkdodicglilaaGreatDoD
import Derived.Test.YtepkdodicglilaaGreatOpT
namespace Go.Proofs.YtepkdodicglilaaGreat
open Go.ChangeShapes Go.WideShapes Go.ChangeAt Go.RowKit Go.Joins

set_option maxRecDepth 100000 in
set_option maxHeartbeats 4000000 in
theorem lawDataOK (a : Option Addr) (cap : Nat) (ss : List TT) (b : Option Addr) (dcap : Nat) (ds : List TD) (w : World) (hv : RowT w a ss) (hd : RowD w b ds) (lv : ss.length ≤ maxLen) (ld : ds.length ≤ maxLen) :
    Calls Tryz.prog 3 #[.slice a ss.length cap, .slice b ds.length dcap] w fun r w' => r = .returned (.bool true) ∧ Below w.heap.size w w' := by
  have H : Hid (RowT w a ss ∧ RowD w b ds) := ⟨hv, hd⟩
  have M : Hid (ss.length ≤ maxLen ∧ ds.length ≤ maxLen) := ⟨lv, ld⟩
  have TX : Hid (TextD ds) := hd.text
  clear hv hd lv ld
  go_enter Tryz.func3, Tryz.ntmps3
  go_wp2_with fail
  refine (szTS_any a cap ss 1048576 w H.out.1 M.out.1 (by omega) (by omega)).mono ?_
  rintro r w1 ⟨x, rfl, x0, x1, x2, B1⟩
  by_cases hx : x < 0
  · clear x2
    go_wp2
    go_ret
    exact ⟨rfl, B1⟩
  have LS : Hid (ss.length ≤ 1048576 ∧ ∀ i, i < ss.length → SmallT (nthT ss i)) := ⟨by have := (x2 (by omega)).1; omega, (x2 (by omega)).2⟩
  clear x2
  go_wp2_with fail
  refine (szD_any b dcap ds x w1 (H.out.2.below B1) M.out.2 (by omega) (by omega)).mono ?_
  rintro r w1' ⟨z, rfl, z0, z1, z2, b1⟩
  have B1' := B1.trans (b1.mono B1.size)
  by_cases hz : z < 0
  · clear z2
    go_wp2
    go_ret
    exact ⟨rfl, B1'⟩
  have LD : Hid (ds.length ≤ 1048576 ∧ ∀ i, i < ds.length → SmallD (nthD ds i)) := ⟨by have := (z2 (by omega)).1; omega, (z2 (by omega)).2⟩
  clear z2 B1 b1
  go_wp2_with fail
  refine (toTS_any a cap ss w1' (H.out.1.below B1') LS.out.1 LS.out.2).mono ?_
  rintro r w2 ⟨h1, rfl, _, S1, b2⟩
  have B2 := B1'.trans (b2.mono B1'.size)
  have KS : Hid (RowT w2 (some ⟨h1, 0, none⟩) ss) := S1.row LS.out.2
  clear S1 B1' b2
  go_wp2_with fail
  refine (toD_any b dcap ds w2 (H.out.2.below B2) LD.out.1 LD.out.2).mono ?_
  rintro r w3 ⟨h3, rfl, _, S3, b3⟩
  have B3 := B2.trans (b3.mono B2.size)
  have KC : Hid (RowT w3 (some ⟨h1, 0, none⟩) ss ∧ RowD w3 (some ⟨h3, 0, none⟩) ds) := ⟨KS.out.below b3, S3.row LD.out.2 TX.out⟩
  clear KS b3 S3 B2
  go_wp2_with fail
  refine (specDataOK_any _ _ ss _ _ ds w3 KC.out.1 KC.out.2 LS.out.1 LD.out.1 LS.out.2 LD.out.2).mono ?_
  rintro r w4 ⟨rfl, b4⟩
  have B4 := B3.trans (b4.mono B3.size)
  clear KC B3 b4
  go_wp2_with fail
  refine (toTS_any a cap ss w4 (H.out.1.below B4) LS.out.1 LS.out.2).mono ?_
  rintro r w5 ⟨g1, rfl, _, S1, b5⟩
  have B5 := B4.trans (b5.mono B4.size)
  have KS : Hid (RowT w5 (some ⟨g1, 0, none⟩) ss) := S1.row LS.out.2
  clear S1 B4 b5
  go_wp2_with fail
  refine (toD_any b dcap ds w5 (H.out.2.below B5) LD.out.1 LD.out.2).mono ?_
  rintro r w6 ⟨g3, rfl, _, S3, b6⟩
  have B6 := B5.trans (b6.mono B5.size)
  have KC : Hid (RowT w6 (some ⟨g1, 0, none⟩) ss ∧ RowD w6 (some ⟨g3, 0, none⟩) ds) := ⟨KS.out.below b6, S3.row LD.out.2 TX.out⟩
  clear KS b6 S3 B5
  go_wp2_with fail
  refine (implDataOK_any _ _ ss _ _ ds w6 KC.out.1 KC.out.2 LS.out.1 LD.out.1 LS.out.2 LD.out.2).mono ?_
  rintro r w7 ⟨rfl, b7⟩
  have B7 := B6.trans (b7.mono B6.size)
  have KD : Hid (RowT w7 (some ⟨g1, 0, none⟩) ss ∧ RowD w7 (some ⟨g3, 0, none⟩) ds) := ⟨KC.out.1.below b7, KC.out.2.below b7⟩
  clear KC b7 B6
  generalize asB (DatP ss ds) = ans
  go_wp2_with fail
  refine (toTS_any a cap ss w7 (H.out.1.below B7) LS.out.1 LS.out.2).mono ?_
  rintro r w8 ⟨g4, rfl, _, S4, b8⟩
  have B8 := B7.trans (b8.mono B7.size)
  have KE : Hid (RowT w8 (some ⟨g1, 0, none⟩) ss ∧ RowD w8 (some ⟨g3, 0, none⟩) ds ∧ RowT w8 (some ⟨g4, 0, none⟩) ss) := ⟨KD.out.1.below b8, KD.out.2.below b8, S4.row LS.out.2⟩
  clear KD b8 S4 B7
  go_wp2_with fail
  refine (eqTS_same _ _ _ _ ss w8 KE.out.1 KE.out.2.2 LS.out.1 LS.out.2).mono ?_
  rintro r w9 ⟨rfl, b9⟩
  have B9 := B8.trans (b9.mono B8.size)
  have KF : Hid (RowD w9 (some ⟨g3, 0, none⟩) ds) := KE.out.2.1.below b9
  clear KE b9 B8
  go_wp2_with fail
  refine (toD_any b dcap ds w9 (H.out.2.below B9) LD.out.1 LD.out.2).mono ?_
  rintro r w10 ⟨g5, rfl, _, S5, b10⟩
  have B10 := B9.trans (b10.mono B9.size)
  have KG : Hid (RowD w10 (some ⟨g3, 0, none⟩) ds ∧ RowD w10 (some ⟨g5, 0, none⟩) ds) := ⟨KF.out.below b10, S5.row LD.out.2 TX.out⟩
  clear KF b10 S5 B9
  go_wp2_with fail
  refine (eqD_same _ _ _ _ ds w10 KG.out.1 KG.out.2 LD.out.1 LD.out.2).mono ?_
  rintro r w11 ⟨rfl, b11⟩
  have B11 := B10.trans (b11.mono B10.size)
  clear KG b11 B10
  go_wp2
  go_ret
  exact ⟨rfl, B11⟩
end Go.Proofs.YtepkdodicglilaaGreat
