/- The law on GuardOK, walked (stage 15). -/
import Derived.Test.YtepkdodicglilaaGreatGdD
import Derived.Test.YtepkdodicglilaaGreatOpT
namespace Go.Proofs.YtepkdodicglilaaGreat
open Go.ChangeShapes Go.WideShapes Go.ChangeAt Go.RowKit Go.Joins

/-- A guard lies in a block. -/
abbrev BoxG (b : Nat) (nm : ByteArray) (col : Int) (v : Value) (w : World) : Prop := w.cell? ⟨b, 0, none⟩ = some (.string nm) ∧ w.cell? ⟨b, 1, none⟩ = some (.int .i64 col) ∧ w.cell? ⟨b, 2, none⟩ = some v ∧ b < w.heap.size
theorem BoxG.below {b : Nat} {nm : ByteArray} {col : Int} {v : Value} {w w' : World} (h : BoxG b nm col v w) (hb : Below w.heap.size w w') : BoxG b nm col v w' := ⟨(hb.cell (p := ⟨b, 0, none⟩) h.2.2.2).trans h.1, (hb.cell (p := ⟨b, 1, none⟩) h.2.2.2).trans h.2.1, (hb.cell (p := ⟨b, 2, none⟩) h.2.2.2).trans h.2.2.1, Nat.lt_of_lt_of_le h.2.2.2 hb.size⟩
theorem BoxG.new {nm : ByteArray} {col : Int} {v : Value} {w : World} (ty : TypeId) : BoxG w.heap.size nm col v (w.alloc (.cells #[.string nm, .int .i64 col, v] ty)) := ⟨slab_cell (heap_new' _ _ _ rfl), slab_cell (heap_new' _ _ _ rfl), slab_cell (heap_new' _ _ _ rfl), by simp⟩
/-- A guard and a copy of it lie in two blocks. -/
abbrev TwoG (w : World) (b y : Nat) (nm : ByteArray) (col : Int) (ya : Option Addr) (yc g1 : Nat) (ys : List TY) (w' : World) : Prop :=
  BoxG b nm col (.slice ya ys.length yc) w' ∧ BoxG y nm col (fullS g1 ys.length) w' ∧ RowY w' ya ys ∧ RowY w' (some ⟨g1, 0, none⟩) ys ∧ Below w.heap.size w w'
theorem TwoG.keep {w : World} {b y : Nat} {nm : ByteArray} {col : Int} {ya : Option Addr} {yc g1 : Nat} {ys : List TY} {w1 w2 : World} (h : TwoG w b y nm col ya yc g1 ys w1) (hb : Below w1.heap.size w1 w2) : TwoG w b y nm col ya yc g1 ys w2 :=
  ⟨h.1.below hb, h.2.1.below hb, h.2.2.1.below hb, h.2.2.2.1.below hb, below_step h.2.2.2.2 (Nat.le_refl _) hb⟩

set_option maxRecDepth 100000 in
set_option maxHeartbeats 4000000 in
theorem lawGuardOK (nm : ByteArray) (col : Int) (ya : Option Addr) (yc : Nat) (ys : List TY) (a : Option Addr) (cap : Nat) (ss : List TT) (w : World) (hy : RowY w ya ys) (hv : RowT w a ss) (ln : nm.size ≤ maxLen) (ly : ys.length ≤ maxLen) (lv : ss.length ≤ maxLen) :
    Calls Tryz.prog 4 #[GdV nm col (.slice ya ys.length yc), .slice a ss.length cap] w fun r w' => r = .returned (.bool true) ∧ Below w.heap.size w w' := by
  have H : Hid (RowT w a ss ∧ RowY w ya ys) := ⟨hv, hy⟩
  have M : Hid (nm.size ≤ maxLen ∧ ys.length ≤ maxLen ∧ ss.length ≤ maxLen) := ⟨ln, ly, lv⟩
  clear hv hy ln ly lv
  have B0 : Below w.heap.size w (w.alloc (.cells #[.string nm, .int .i64 col, .slice ya ys.length yc] 36)) := (Below.refl _ _).alloc (Nat.le_refl _) _
  have X0 : Hid (BoxG w.heap.size nm col (.slice ya ys.length yc) (w.alloc (.cells #[.string nm, .int .i64 col, .slice ya ys.length yc] 36))) := BoxG.new 36
  go_enter Tryz.func4, Tryz.ntmps4
  go_wp2_with fail
  refine (szG_any nm col ya yc ys 1048576 _ (H.out.2.below B0) M.out.1 M.out.2.1 (by omega) (by omega)).mono ?_
  rintro r w1 ⟨x, rfl, x0, x1, x2, b1⟩
  have B1 := B0.trans (b1.mono B0.size)
  have X1 := X0.out.below b1
  clear B0 X0 b1
  by_cases hx : x < 0
  · clear x2 X1
    go_wp2
    go_ret
    exact ⟨rfl, B1⟩
  have LG : Hid (SmallG nm ys) := x2 (by omega)
  clear x2
  have Y1 : Hid (BoxG _ _ _ _ w1) := X1
  clear X1
  go_wp2_with fail
  refine (szTS_any a cap ss x w1 (H.out.1.below B1) M.out.2.2 (by omega) (by omega)).mono ?_
  rintro r w1' ⟨z, rfl, z0, z1, z2, b1⟩
  have B1' := B1.trans (b1.mono B1.size)
  have X1 := Y1.out.below b1
  clear Y1 b1
  by_cases hz : z < 0
  · clear z2 X1
    go_wp2
    go_ret
    exact ⟨rfl, B1'⟩
  have LS : Hid (ss.length ≤ 1048576 ∧ ∀ i, i < ss.length → SmallT (nthT ss i)) := ⟨by have := (z2 (by omega)).1; omega, (z2 (by omega)).2⟩
  clear z2 B1
  have Y1 : Hid (BoxG _ _ _ _ w1') := X1
  obtain ⟨y0, y1, y2, _⟩ := X1
  go_wp2_with fail
  refine (toG_any nm col ya yc ys w1' (H.out.2.below B1') LG.out.2.1).mono ?_
  rintro r w2 ⟨h1, rfl, _, S1, b2⟩
  have B2 := B1'.trans (b2.mono B1'.size)
  have Y2 : Hid (BoxG _ _ _ _ w2) := Y1.out.below b2
  have KS : Hid (RowY w2 (some ⟨h1, 0, none⟩) ys) := S1.row LG.out.2.2
  clear S1 y0 y1 y2 B1' b2 Y1
  go_wp2_with fail
  refine (toTS_any a cap ss w2 (H.out.1.below B2) LS.out.1 LS.out.2).mono ?_
  rintro r w3 ⟨h3, rfl, _, S3, b3⟩
  have B3 := B2.trans (b3.mono B2.size)
  have Y3 : Hid (BoxG _ _ _ _ w3) := Y2.out.below b3
  have KC : Hid (RowY w3 (some ⟨h1, 0, none⟩) ys ∧ RowT w3 (some ⟨h3, 0, none⟩) ss) := ⟨KS.out.below b3, S3.row LS.out.2⟩
  clear KS Y2 b3 S3 B2
  go_wp2_with fail
  refine (specGuardOK_any nm col _ _ ys _ _ ss w3 KC.out.1 KC.out.2 LG.out.2.1 LS.out.1 LS.out.2).mono ?_
  rintro r w4 ⟨rfl, b4⟩
  have B4 := B3.trans (b4.mono B3.size)
  have X4 := Y3.out.below b4
  have Y4 : Hid (BoxG _ _ _ _ w4) := X4
  obtain ⟨y0, y1, y2, _⟩ := X4
  clear KC B3 b4 Y3
  go_wp2_with fail
  refine (toG_any nm col ya yc ys w4 (H.out.2.below B4) LG.out.2.1).mono ?_
  rintro r w5 ⟨g1, rfl, _, S1, b5⟩
  have B5 := B4.trans (b5.mono B4.size)
  have A5 : Below w5.heap.size w5 (w5.alloc (.cells #[.string nm, .int .i64 col, fullS g1 ys.length] 41)) := (Below.refl _ _).alloc (Nat.le_refl _) _
  have B6 := B5.trans (A5.mono B5.size)
  have Y6 : Hid (BoxG _ _ _ _ (w5.alloc (.cells #[.string nm, .int .i64 col, fullS g1 ys.length] 41))) := (Y4.out.below b5).below A5
  have Z6 : Hid (BoxG w5.heap.size nm col (fullS g1 ys.length) (w5.alloc (.cells #[.string nm, .int .i64 col, fullS g1 ys.length] 41))) := BoxG.new 41
  have KS : Hid (RowY (w5.alloc (.cells #[.string nm, .int .i64 col, fullS g1 ys.length] 41)) (some ⟨g1, 0, none⟩) ys) := (S1.row LG.out.2.2).below A5
  clear S1 y0 y1 y2 B4 b5 Y4 A5 B5
  go_wp2_with fail
  refine (toTS_any a cap ss _ (H.out.1.below B6) LS.out.1 LS.out.2).mono ?_
  rintro r w7 ⟨g3, rfl, _, S3, b7⟩
  have B7 := B6.trans (b7.mono B6.size)
  have X7 := Z6.out.below b7
  have Y7 : Hid (BoxG _ _ _ _ w7) := Y6.out.below b7
  have Z7 : Hid (BoxG w5.heap.size nm col (fullS g1 ys.length) w7) := X7
  have KC : Hid (RowY w7 (some ⟨g1, 0, none⟩) ys ∧ RowT w7 (some ⟨g3, 0, none⟩) ss) := ⟨KS.out.below b7, S3.row LS.out.2⟩
  obtain ⟨y0, y1, y2, _⟩ := X7
  clear KS Y6 Z6 b7 S3 B6
  go_wp2_with fail
  refine (implGuardOK_any nm col _ _ ys _ _ ss w7 KC.out.1 KC.out.2 LG.out.2.1 LS.out.1 LS.out.2).mono ?_
  rintro r w8 ⟨rfl, b8⟩
  have B8 := B7.trans (b8.mono B7.size)
  have hL : TwoG w w.heap.size w5.heap.size nm col ya yc g1 ys w8.drew :=
    (show TwoG w w.heap.size w5.heap.size nm col ya yc g1 ys w8 from ⟨Y7.out.below b8, Z7.out.below b8, H.out.2.below B8, KC.out.1.below b8, B8⟩).keep (Below.refl _ _).drew
  have KT : Hid (RowT w8 (some ⟨g3, 0, none⟩) ss) := KC.out.2.below b8
  have KD : Hid (Below w8.heap.size w8 w8.drew) := (Below.refl _ _).drew
  clear Y7 Z7 KC b8 B7 B8 y0 y1 y2
  generalize asB (GrdP ss nm col ys) = ans
  go_wp2_with fail
  go_region_held3 (fun w' => TwoG w w.heap.size w5.heap.size nm col ya yc g1 ys w' ∧ Below w8.heap.size w8 w') (first | exact ⟨hL, KD.out⟩ | exact ⟨TwoG.keep (show TwoG w w.heap.size w5.heap.size nm col ya yc g1 ys _ ∧ Below w8.heap.size w8 _ by assumption).1 hb, below_step (show TwoG w w.heap.size w5.heap.size nm col ya yc g1 ys _ ∧ Below w8.heap.size w8 _ by assumption).2 (Nat.le_refl _) hb⟩)
    (first | (go_at_call 15; refine (toG_any nm col ya yc ys _ (show TwoG w w.heap.size w5.heap.size nm col ya yc g1 ys _ ∧ Below w8.heap.size w8 _ by assumption).1.2.2.1 LG.out.2.1).mono ?_; rintro r wA ⟨k1, rfl, _, S1, hb⟩)
           | (go_at_call 17; refine (eqG_same nm col _ _ _ _ ys _ (show TwoG w w.heap.size w5.heap.size nm col ya yc g1 ys _ ∧ Below w8.heap.size w8 _ by assumption).1.2.2.2.1 (S1.row LG.out.2.2) LG.out.2.1).mono ?_; rintro r wA ⟨rfl, hb⟩))
  rename_i hLL
  have hE := hLL.1.2.2.2.2
  have KV : Hid (RowT _ (some ⟨g3, 0, none⟩) ss) := KT.out.below hLL.2
  clear hL hLL
  go_wp2_with fail
  refine (toTS_any a cap ss _ (H.out.1.below hE) LS.out.1 LS.out.2).mono ?_
  rintro r w9 ⟨g4, rfl, _, S4, b9⟩
  have B9 := hE.trans (b9.mono hE.size)
  have KW : Hid (RowT w9 (some ⟨g3, 0, none⟩) ss ∧ RowT w9 (some ⟨g4, 0, none⟩) ss) := ⟨KV.out.below b9, S4.row LS.out.2⟩
  clear S4 KV
  go_wp2_with fail
  refine (eqTS_same _ _ _ _ ss w9 KW.out.1 KW.out.2 LS.out.1 LS.out.2).mono ?_
  rintro r w10 ⟨rfl, b10⟩
  have B10 := B9.trans (b10.mono B9.size)
  clear KW
  go_wp2
  go_ret
  exact ⟨rfl, B10⟩
end Go.Proofs.YtepkdodicglilaaGreat
