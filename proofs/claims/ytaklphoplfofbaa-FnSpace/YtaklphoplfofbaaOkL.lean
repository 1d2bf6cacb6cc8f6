/- The law on SpaceOK, walked (stage 4). -/
import Derived.Test.YtaklphoplfofbaaOkT
import Derived.Test.YtaklphoplfofbaaOpenS
namespace Go.Proofs.Ytaklphoplfofbaa
open Go.RowKit

/-- The argument and a copy of it lie in two blocks; what lay in w lies there still. -/
def RowsIn (a1 a2 a3 : Option Addr) (ss : List Int) (ps : List P2) (qs : List Int) (w : World) : Prop := RowI w a1 ss ∧ RowP w a2 ps ∧ RowI w a3 qs
theorem RowsIn.below {a1 a2 a3 : Option Addr} {ss : List Int} {ps : List P2} {qs : List Int} {w w' : World} (h : RowsIn a1 a2 a3 ss ps qs w) (hb : Below w.heap.size w w') : RowsIn a1 a2 a3 ss ps qs w' :=
  ⟨h.1.below hb, h.2.1.below hb, h.2.2.below hb⟩
abbrev TwoS (w : World) (b x : Nat) (t e : Int) (a1 a2 a3 : Option Addr) (c1 c2 c3 g1 g2 g3 : Nat) (ss : List Int) (ps : List P2) (qs : List Int) (w' : World) : Prop :=
  BoxS b t e (.slice a1 ss.length c1) (.slice a2 ps.length c2) (.slice a3 qs.length c3) w' ∧ BoxS x t e (fullS g1 ss.length) (fullS g2 ps.length) (fullS g3 qs.length) w' ∧
  RowsIn a1 a2 a3 ss ps qs w' ∧ RowsIn (some ⟨g1, 0, none⟩) (some ⟨g2, 0, none⟩) (some ⟨g3, 0, none⟩) ss ps qs w' ∧ Below w.heap.size w w'
theorem TwoS.keep {w : World} {b x : Nat} {t e : Int} {a1 a2 a3 : Option Addr} {c1 c2 c3 g1 g2 g3 : Nat} {ss : List Int} {ps : List P2} {qs : List Int} {w1 w2 : World} (h : TwoS w b x t e a1 a2 a3 c1 c2 c3 g1 g2 g3 ss ps qs w1) (hb : Below w1.heap.size w1 w2) : TwoS w b x t e a1 a2 a3 c1 c2 c3 g1 g2 g3 ss ps qs w2 :=
  ⟨h.1.below hb h.1.2.2.2.2.2, h.2.1.below hb h.2.1.2.2.2.2.2, h.2.2.1.below hb, h.2.2.2.1.below hb, below_step h.2.2.2.2 (Nat.le_refl _) hb⟩

set_option maxRecDepth 100000 in
set_option maxHeartbeats 4000000 in
theorem lawSpaceOK (t e : Int) (a1 a2 a3 : Option Addr) (c1 c2 c3 : Nat) (ss : List Int) (ps : List P2) (qs : List Int) (w : World) (h1 : RowI w a1 ss) (h2 : RowP w a2 ps) (h3 : RowI w a3 qs) (m1 : ss.length ≤ maxLen) (m2 : ps.length ≤ maxLen) (m3 : qs.length ≤ maxLen) :
    Calls Try.prog 5 #[SV t e (.slice a1 ss.length c1) (.slice a2 ps.length c2) (.slice a3 qs.length c3)] w fun r w' => r = .returned (.bool true) ∧ Below w.heap.size w w' := by
  have H : Hid (RowsIn a1 a2 a3 ss ps qs w) := ⟨h1, h2, h3⟩
  have M1 : Hid (ss.length ≤ maxLen) := m1
  have M2 : Hid (ps.length ≤ maxLen) := m2
  have M3 : Hid (qs.length ≤ maxLen) := m3
  clear h1 h2 h3 m1 m2 m3
  have B0 : Below w.heap.size w (w.alloc (SC t e (.slice a1 ss.length c1) (.slice a2 ps.length c2) (.slice a3 qs.length c3) 51)) := (Below.refl _ _).alloc (Nat.le_refl _) _
  have X0 : Hid (BoxS w.heap.size t e (.slice a1 ss.length c1) (.slice a2 ps.length c2) (.slice a3 qs.length c3) (w.alloc (SC t e (.slice a1 ss.length c1) (.slice a2 ps.length c2) (.slice a3 qs.length c3) 51))) := BoxS.new 51
  go_enter Try.func5, Try.ntmps5
  go_wp2_with fail
  refine (szSpace_any t e a1 a2 a3 _ _ _ c1 c2 c3 1048576 _ M1.out M2.out M3.out (by omega) (by omega)).mono ?_
  rintro r w1 ⟨x, rfl, x0, x1, x2, b1⟩
  have B1 := B0.trans (b1.mono B0.size)
  have X1 := X0.out.below b1 X0.out.2.2.2.2.2
  clear B0 X0 b1
  by_cases hx : x < 0
  · clear x2 X1
    go_wp2
    go_ret
    exact ⟨rfl, B1⟩
  have L1 : Hid (ss.length ≤ 1048576) := (x2 (by omega)).1
  have L2 : Hid (ps.length ≤ 1048576) := (x2 (by omega)).2.1
  have L3 : Hid (qs.length ≤ 1048576) := (x2 (by omega)).2.2
  clear x2
  have Y1 : Hid (BoxS _ _ _ _ _ _ w1) := X1
  obtain ⟨y0, y1, y2, y3, y4, y5⟩ := X1
  have R1 := H.out.below B1
  go_wp2_with fail
  refine (toSpace_any t e a1 a2 a3 c1 c2 c3 ss ps qs w1 R1.1 R1.2.1 R1.2.2 L1.out L2.out L3.out).mono ?_
  rintro r w2 ⟨g1, g2, g3, rfl, S1, S2, S3, _, _, _, _, _, _, b2⟩
  have B2 := B1.trans (b2.mono B1.size)
  have Y2 : Hid (BoxS _ _ _ _ _ _ w2) := Y1.out.below b2 Y1.out.2.2.2.2.2
  have KS : Hid (RowsIn (some ⟨g1, 0, none⟩) (some ⟨g2, 0, none⟩) (some ⟨g3, 0, none⟩) ss ps qs w2) := ⟨S1.row, S2.row, S3.row⟩
  clear S1 S2 S3 y0 y1 y2 y3 y4 y5 B1 b2 Y1 R1
  go_wp2_with fail
  refine (specSpaceOK_any t e _ _ _ _ _ _ ss ps qs w2 KS.out.1 KS.out.2.1 KS.out.2.2 L1.out L2.out L3.out).mono ?_
  rintro r w3 ⟨rfl, b3⟩
  have B3 := B2.trans (b3.mono B2.size)
  have X3 := Y2.out.below b3 Y2.out.2.2.2.2.2
  have Y3 : Hid (BoxS _ _ _ _ _ _ w3) := X3
  obtain ⟨y0, y1, y2, y3, y4, y5⟩ := X3
  clear KS B2 b3 Y2
  have R3 := H.out.below B3
  go_wp2_with fail
  refine (toSpace_any t e a1 a2 a3 c1 c2 c3 ss ps qs w3 R3.1 R3.2.1 R3.2.2 L1.out L2.out L3.out).mono ?_
  rintro r w4 ⟨g1, g2, g3, rfl, S1, S2, S3, _, _, _, _, _, _, b4⟩
  have B4 := B3.trans (b4.mono B3.size)
  have A4 : Below w4.heap.size w4 (w4.alloc (SC t e (fullS g1 ss.length) (fullS g2 ps.length) (fullS g3 qs.length) 29)) := (Below.refl _ _).alloc (Nat.le_refl _) _
  have B5 := B4.trans (A4.mono B4.size)
  have Y4 := Y3.out.below b4 Y3.out.2.2.2.2.2
  have Y5 : Hid (BoxS _ _ _ _ _ _ (w4.alloc (SC t e (fullS g1 ss.length) (fullS g2 ps.length) (fullS g3 qs.length) 29))) := Y4.below A4 Y4.2.2.2.2.2
  have Z5 : Hid (BoxS w4.heap.size t e (fullS g1 ss.length) (fullS g2 ps.length) (fullS g3 qs.length) (w4.alloc (SC t e (fullS g1 ss.length) (fullS g2 ps.length) (fullS g3 qs.length) 29))) := BoxS.new 29
  have KS : Hid (RowsIn (some ⟨g1, 0, none⟩) (some ⟨g2, 0, none⟩) (some ⟨g3, 0, none⟩) ss ps qs (w4.alloc (SC t e (fullS g1 ss.length) (fullS g2 ps.length) (fullS g3 qs.length) 29))) := (show RowsIn _ _ _ _ _ _ _ from ⟨S1.row, S2.row, S3.row⟩).below A4
  clear S1 S2 S3 y0 y1 y2 y3 y4 y5 B3 b4 Y3 A4 B4 Y4 R3
  go_wp2_with fail
  refine (implSpaceOK_any t e _ _ _ _ _ _ ss ps qs _ KS.out.1 KS.out.2.1 KS.out.2.2 L1.out L2.out L3.out).mono ?_
  rintro r w6 ⟨rfl, b6⟩
  have B6 := B5.trans (b6.mono B5.size)
  have hL : TwoS w w.heap.size w4.heap.size t e a1 a2 a3 c1 c2 c3 g1 g2 g3 ss ps qs w6.drew :=
    (show TwoS w w.heap.size w4.heap.size t e a1 a2 a3 c1 c2 c3 g1 g2 g3 ss ps qs w6 from ⟨Y5.out.below b6 Y5.out.2.2.2.2.2, Z5.out.below b6 Z5.out.2.2.2.2.2, H.out.below B6, KS.out.below b6, B6⟩).keep (Below.refl _ _).drew
  clear Y5 Z5 KS b6 B5 B6
  generalize asB (OkSp t e ss ps qs) = ans
  go_wp2_with fail
  go_region_held3 (TwoS w w.heap.size w4.heap.size t e a1 a2 a3 c1 c2 c3 g1 g2 g3 ss ps qs) (first | exact hL | exact TwoS.keep (by assumption) hb)
    (first | (go_at_call 24; refine (toSpace_any t e a1 a2 a3 c1 c2 c3 ss ps qs _ (show TwoS w w.heap.size w4.heap.size t e a1 a2 a3 c1 c2 c3 g1 g2 g3 ss ps qs _ by assumption).2.2.1.1 (show TwoS w w.heap.size w4.heap.size t e a1 a2 a3 c1 c2 c3 g1 g2 g3 ss ps qs _ by assumption).2.2.1.2.1 (show TwoS w w.heap.size w4.heap.size t e a1 a2 a3 c1 c2 c3 g1 g2 g3 ss ps qs _ by assumption).2.2.1.2.2 L1.out L2.out L3.out).mono ?_; rintro r wA ⟨k1, k2, k3, rfl, S1, S2, S3, _, _, _, _, _, _, hb⟩)
           | (go_at_call 19; refine (eqSpace_same t e _ _ _ _ _ _ _ _ _ _ _ _ ss ps qs _ (show TwoS w w.heap.size w4.heap.size t e a1 a2 a3 c1 c2 c3 g1 g2 g3 ss ps qs _ by assumption).2.2.2.1.1 (show TwoS w w.heap.size w4.heap.size t e a1 a2 a3 c1 c2 c3 g1 g2 g3 ss ps qs _ by assumption).2.2.2.1.2.1 (show TwoS w w.heap.size w4.heap.size t e a1 a2 a3 c1 c2 c3 g1 g2 g3 ss ps qs _ by assumption).2.2.2.1.2.2 S1.row S2.row S3.row L1.out L2.out L3.out).mono ?_; rintro r wA ⟨rfl, hb⟩))
  rename_i hLL
  have hE := hLL.2.2.2.2
  clear hL hLL
  go_wp2
  go_ret
  exact ⟨rfl, hE⟩
end Go.Proofs.Ytaklphoplfofbaa
