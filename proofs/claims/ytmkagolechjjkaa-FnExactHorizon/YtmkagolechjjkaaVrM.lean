/- The law on BaseOK, walked (stage 7). -/
import Derived.Test.YtmkagolechjjkaaVrK
import Derived.Test.YtmkagolechjjkaaVrL
import Derived.Deep.RegionHeld3
namespace Go.Proofs.Ytmkagolechjjkaa
open Go.RowKit

/-- A base in a block. -/
abbrev BoxT (b : Nat) (t : Int) (v x : Value) (w : World) : Prop := w.cell? ⟨b, 0, none⟩ = some (.int .i64 t) ∧ w.cell? ⟨b, 1, none⟩ = some v ∧ w.cell? ⟨b, 2, none⟩ = some x ∧ b < w.heap.size
theorem BoxT.below {b : Nat} {t : Int} {v x : Value} {w w' : World} (h : BoxT b t v x w) (hb : Below w.heap.size w w') : BoxT b t v x w' := ⟨(hb.cell (p := ⟨b, 0, none⟩) h.2.2.2).trans h.1, (hb.cell (p := ⟨b, 1, none⟩) h.2.2.2).trans h.2.1, (hb.cell (p := ⟨b, 2, none⟩) h.2.2.2).trans h.2.2.1, Nat.lt_of_lt_of_le h.2.2.2 hb.size⟩
theorem BoxT.new {t : Int} {v x : Value} {w : World} (ty : TypeId) : BoxT w.heap.size t v x (w.alloc (.cells #[.int .i64 t, v, x] ty)) := ⟨slab_cell (heap_new' _ _ _ rfl), slab_cell (heap_new' _ _ _ rfl), slab_cell (heap_new' _ _ _ rfl), by simp⟩
/-- The argument and a copy of it lie in two blocks; what lay in w lies there still. -/
abbrev TwoB (w : World) (b y : Nat) (t : Int) (va xa : Option Addr) (vc xc g1 g2 : Nat) (vs : List TV) (xs : List TX) (w' : World) : Prop :=
  BoxT b t (.slice va vs.length vc) (.slice xa xs.length xc) w' ∧ BoxT y t (fullS g1 vs.length) (fullS g2 xs.length) w' ∧ (RowV w' va vs ∧ RowX w' xa xs) ∧ (RowV w' (some ⟨g1, 0, none⟩) vs ∧ RowX w' (some ⟨g2, 0, none⟩) xs) ∧ Below w.heap.size w w'
theorem TwoB.keep {w : World} {b y : Nat} {t : Int} {va xa : Option Addr} {vc xc g1 g2 : Nat} {vs : List TV} {xs : List TX} {w1 w2 : World} (h : TwoB w b y t va xa vc xc g1 g2 vs xs w1) (hb : Below w1.heap.size w1 w2) : TwoB w b y t va xa vc xc g1 g2 vs xs w2 :=
  ⟨h.1.below hb, h.2.1.below hb, ⟨h.2.2.1.1.below hb, h.2.2.1.2.below hb⟩, ⟨h.2.2.2.1.1.below hb, h.2.2.2.1.2.below hb⟩, below_step h.2.2.2.2 (Nat.le_refl _) hb⟩

set_option maxRecDepth 100000 in
set_option maxHeartbeats 4000000 in
theorem lawBaseOK (t : Int) (va xa : Option Addr) (vc xc : Nat) (vs : List TV) (xs : List TX) (w : World) (hv : RowV w va vs) (hx : RowX w xa xs) (lv : vs.length ≤ maxLen) (lx : xs.length ≤ maxLen) :
    Calls Try.prog 4 #[BW t (.slice va vs.length vc) (.slice xa xs.length xc)] w fun r w' => r = .returned (.bool true) ∧ Below w.heap.size w w' := by
  have H : Hid (RowV w va vs ∧ RowX w xa xs) := ⟨hv, hx⟩
  have M : Hid (vs.length ≤ maxLen ∧ xs.length ≤ maxLen) := ⟨lv, lx⟩
  clear hv hx lv lx
  have B0 : Below w.heap.size w (w.alloc (.cells #[.int .i64 t, .slice va vs.length vc, .slice xa xs.length xc] 33)) := (Below.refl _ _).alloc (Nat.le_refl _) _
  have X0 : Hid (BoxT w.heap.size t (.slice va vs.length vc) (.slice xa xs.length xc) (w.alloc (.cells #[.int .i64 t, .slice va vs.length vc, .slice xa xs.length xc] 33))) := BoxT.new 33
  go_enter Try.func4, Try.ntmps4
  go_wp2_with fail
  refine (szB_any t va xa vc xc vs xs 1048576 _ (H.out.1.below B0) (H.out.2.below B0) M.out.1 M.out.2 (by omega) (by omega)).mono ?_
  rintro r w1 ⟨x, rfl, x0, x1, x2, b1⟩
  have B1 := B0.trans (b1.mono B0.size)
  have X1 := X0.out.below b1
  clear B0 X0 b1
  by_cases hx : x < 0
  · clear x2 X1
    go_wp2
    go_ret
    exact ⟨rfl, B1⟩
  have L1 : Hid (vs.length ≤ 1048576 ∧ ∀ i, i < vs.length → SmallV (nthV vs i)) := (x2 (by omega)).1
  have L2 : Hid (xs.length ≤ 1048576 ∧ ∀ i, i < xs.length → SmallX (nthX xs i)) := (x2 (by omega)).2
  clear x2
  have Y1 : Hid (BoxT _ _ _ _ w1) := X1
  obtain ⟨y0, y1, y2, _⟩ := X1
  go_wp2_with fail
  refine (toB_any t va xa vc xc vs xs w1 (H.out.1.below B1) (H.out.2.below B1) L1.out.1 L2.out.1 L2.out.2).mono ?_
  rintro r w2 ⟨_, rfl, ⟨h1, h2, rfl, S1, S2⟩, b2⟩
  have B2 := B1.trans (b2.mono B1.size)
  have Y2 : Hid (BoxT _ _ _ _ w2) := Y1.out.below b2
  have KS : Hid (RowV w2 (some ⟨h1, 0, none⟩) vs ∧ RowX w2 (some ⟨h2, 0, none⟩) xs) := ⟨S1.row L1.out.2, S2.row L2.out.2⟩
  clear S1 S2 y0 y1 y2 B1 b2 Y1
  go_wp2_with fail
  refine (specBaseOK_any t _ _ _ _ vs xs w2 KS.out.1 KS.out.2 L1.out.1 L2.out.2).mono ?_
  rintro r w3 ⟨rfl, b3⟩
  have B3 := B2.trans (b3.mono B2.size)
  have X3 := Y2.out.below b3
  have Y3 : Hid (BoxT _ _ _ _ w3) := X3
  obtain ⟨y0, y1, y2, _⟩ := X3
  clear KS B2 b3 Y2
  go_wp2_with fail
  refine (toB_any t va xa vc xc vs xs w3 (H.out.1.below B3) (H.out.2.below B3) L1.out.1 L2.out.1 L2.out.2).mono ?_
  rintro r w4 ⟨_, rfl, ⟨g1, g2, rfl, S1, S2⟩, b4⟩
  have B4 := B3.trans (b4.mono B3.size)
  have A4 : Below w4.heap.size w4 (w4.alloc (.cells #[.int .i64 t, fullS g1 vs.length, fullS g2 xs.length] 25)) := (Below.refl _ _).alloc (Nat.le_refl _) _
  have B5 := B4.trans (A4.mono B4.size)
  have Y5 : Hid (BoxT _ _ _ _ (w4.alloc (.cells #[.int .i64 t, fullS g1 vs.length, fullS g2 xs.length] 25))) := (Y3.out.below b4).below A4
  have Z5 : Hid (BoxT w4.heap.size t (fullS g1 vs.length) (fullS g2 xs.length) (w4.alloc (.cells #[.int .i64 t, fullS g1 vs.length, fullS g2 xs.length] 25))) := BoxT.new 25
  have KS : Hid (RowV (w4.alloc (.cells #[.int .i64 t, fullS g1 vs.length, fullS g2 xs.length] 25)) (some ⟨g1, 0, none⟩) vs ∧ RowX (w4.alloc (.cells #[.int .i64 t, fullS g1 vs.length, fullS g2 xs.length] 25)) (some ⟨g2, 0, none⟩) xs) := ⟨(S1.row L1.out.2).below A4, (S2.row L2.out.2).below A4⟩
  clear S1 S2 y0 y1 y2 B3 b4 Y3 A4 B4
  go_wp2_with fail
  refine (implBaseOK_any t _ _ _ _ vs xs _ KS.out.1 KS.out.2 L1.out.1 L2.out.2).mono ?_
  rintro r w6 ⟨rfl, b6⟩
  have B6 := B5.trans (b6.mono B5.size)
  have hL : TwoB w w.heap.size w4.heap.size t va xa vc xc g1 g2 vs xs w6.drew :=
    (show TwoB w w.heap.size w4.heap.size t va xa vc xc g1 g2 vs xs w6 from ⟨Y5.out.below b6, Z5.out.below b6, ⟨H.out.1.below B6, H.out.2.below B6⟩, ⟨KS.out.1.below b6, KS.out.2.below b6⟩, B6⟩).keep (Below.refl _ _).drew
  clear Y5 Z5 KS b6 B5 B6
  generalize asB (BaseP t vs xs) = ans
  go_wp2_with fail
  go_region_held3 (TwoB w w.heap.size w4.heap.size t va xa vc xc g1 g2 vs xs) (first | exact hL | exact TwoB.keep (by assumption) hb)
    (first | (go_at_call 15; refine (toB_any t va xa vc xc vs xs _ (show TwoB w w.heap.size w4.heap.size t va xa vc xc g1 g2 vs xs _ by assumption).2.2.1.1 (show TwoB w w.heap.size w4.heap.size t va xa vc xc g1 g2 vs xs _ by assumption).2.2.1.2 L1.out.1 L2.out.1 L2.out.2).mono ?_; rintro r wA ⟨_, rfl, ⟨k1, k2, rfl, S1, S2⟩, hb⟩)
           | (go_at_call 10; refine (eqB_same t _ _ _ _ _ _ _ _ vs xs _ (show TwoB w w.heap.size w4.heap.size t va xa vc xc g1 g2 vs xs _ by assumption).2.2.2.1.1 (show TwoB w w.heap.size w4.heap.size t va xa vc xc g1 g2 vs xs _ by assumption).2.2.2.1.2 (S1.row L1.out.2) (S2.row L2.out.2) L1.out.1 L2.out.1 L2.out.2).mono ?_; rintro r wA ⟨rfl, hb⟩))
  rename_i hLL
  have hE := hLL.2.2.2.2
  clear hL hLL
  go_wp2
  go_ret
  exact ⟨rfl, hE⟩
end Go.Proofs.Ytmkagolechjjkaa
