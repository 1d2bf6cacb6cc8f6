/- The law on TableText, walked (stage 9). -/
import Derived.Test.YtkegckfanehgfaaGreatDoorTtH
import Derived.Deep.RegionHeld3
namespace Go.Proofs.YtkegckfanehgfaaGreatDoor
open Go.RowKit

/-- A table in a block. -/
abbrev BoxT (b : Nat) (nm : ByteArray) (c : Value) (key : Int) (x : Value) (w : World) : Prop := w.cell? ⟨b, 0, none⟩ = some (.string nm) ∧ w.cell? ⟨b, 1, none⟩ = some c ∧ w.cell? ⟨b, 2, none⟩ = some (.int .i64 key) ∧ w.cell? ⟨b, 3, none⟩ = some x ∧ b < w.heap.size
theorem BoxT.below {b : Nat} {nm : ByteArray} {c x : Value} {key : Int} {w w' : World} (h : BoxT b nm c key x w) (hb : Below w.heap.size w w') : BoxT b nm c key x w' := ⟨(hb.cell (p := ⟨b, 0, none⟩) h.2.2.2.2).trans h.1, (hb.cell (p := ⟨b, 1, none⟩) h.2.2.2.2).trans h.2.1, (hb.cell (p := ⟨b, 2, none⟩) h.2.2.2.2).trans h.2.2.1, (hb.cell (p := ⟨b, 3, none⟩) h.2.2.2.2).trans h.2.2.2.1, Nat.lt_of_lt_of_le h.2.2.2.2 hb.size⟩
theorem BoxT.new {nm : ByteArray} {c x : Value} {key : Int} {w : World} (ty : TypeId) : BoxT w.heap.size nm c key x (w.alloc (.cells #[.string nm, c, .int .i64 key, x] ty)) := ⟨slab_cell (heap_new' _ _ _ rfl), slab_cell (heap_new' _ _ _ rfl), slab_cell (heap_new' _ _ _ rfl), slab_cell (heap_new' _ _ _ rfl), by simp⟩
/-- The argument and a copy of it lie in two blocks; what lay in w lies there still. -/
abbrev TwoT (w : World) (b y : Nat) (nm : ByteArray) (key : Int) (ca xa : Option Addr) (cc xc g1 g2 : Nat) (cs : List TC) (xs : List TX) (w' : World) : Prop :=
  BoxT b nm (.slice ca cs.length cc) key (.slice xa xs.length xc) w' ∧ BoxT y nm (fullS g1 cs.length) key (fullS g2 xs.length) w' ∧ (RowC w' ca cs ∧ RowX w' xa xs) ∧ (RowC w' (some ⟨g1, 0, none⟩) cs ∧ RowX w' (some ⟨g2, 0, none⟩) xs) ∧ Below w.heap.size w w'
theorem TwoT.keep {w : World} {b y : Nat} {nm : ByteArray} {key : Int} {ca xa : Option Addr} {cc xc g1 g2 : Nat} {cs : List TC} {xs : List TX} {w1 w2 : World} (h : TwoT w b y nm key ca xa cc xc g1 g2 cs xs w1) (hb : Below w1.heap.size w1 w2) : TwoT w b y nm key ca xa cc xc g1 g2 cs xs w2 :=
  ⟨h.1.below hb, h.2.1.below hb, ⟨h.2.2.1.1.below hb, h.2.2.1.2.below hb⟩, ⟨h.2.2.2.1.1.below hb, h.2.2.2.1.2.below hb⟩, below_step h.2.2.2.2 (Nat.le_refl _) hb⟩
theorem small_max {n : Nat} (h : n ≤ 1048576) : n ≤ maxLen := by unfold maxLen; omega

set_option maxRecDepth 100000 in
set_option maxHeartbeats 4000000 in
theorem lawTableText (nm : ByteArray) (ca xa : Option Addr) (cc xc : Nat) (cs : List TC) (key : Int) (xs : List TX) (w : World) (hW : Wrd w) (hv : RowC w ca cs) (hx : RowX w xa xs) (lv : cs.length ≤ maxLen) (lx : xs.length ≤ maxLen) (ln : nm.size ≤ maxLen) :
    Calls Tryz.prog 3 #[TbV nm (.slice ca cs.length cc) key (.slice xa xs.length xc)] w fun r w' => r = .returned (.bool true) ∧ Below w.heap.size w w' := by
  have H : Hid (RowC w ca cs ∧ RowX w xa xs) := ⟨hv, hx⟩
  have M : Hid (cs.length ≤ maxLen ∧ xs.length ≤ maxLen ∧ nm.size ≤ maxLen) := ⟨lv, lx, ln⟩
  have G : Hid (Wrd w) := hW
  clear hv hx lv lx ln hW
  have B0 : Below w.heap.size w (w.alloc (.cells #[.string nm, .slice ca cs.length cc, .int .i64 key, .slice xa xs.length xc] 25)) := (Below.refl _ _).alloc (Nat.le_refl _) _
  have X0 : Hid (BoxT w.heap.size nm (.slice ca cs.length cc) key (.slice xa xs.length xc) (w.alloc (.cells #[.string nm, .slice ca cs.length cc, .int .i64 key, .slice xa xs.length xc] 25))) := BoxT.new 25
  go_enter Tryz.func3, Tryz.ntmps3
  go_wp2_with fail
  refine (szT_any nm ca xa cc xc cs key xs 1048576 _ (H.out.1.below B0) (H.out.2.below B0) M.out.2.2 M.out.1 M.out.2.1 (by omega) (by omega)).mono ?_
  rintro r w1 ⟨x, rfl, x0, x1, x2, b1⟩
  have B1 := B0.trans (b1.mono B0.size)
  have X1 := X0.out.below b1
  clear B0 X0 b1
  by_cases hx : x < 0
  · clear x2 X1
    go_wp2
    go_ret
    exact ⟨rfl, B1⟩
  have LS : Hid (SmallT (nm, cs, key, xs)) := x2 (by omega)
  clear x2
  have Y1 : Hid (BoxT _ _ _ _ _ w1) := X1
  obtain ⟨y0, y1, y2, y3, _⟩ := X1
  go_wp2_with fail
  refine (toT_any nm ca xa cc xc cs key xs w1 (H.out.1.below B1) (H.out.2.below B1) LS.out).mono ?_
  rintro r w2 ⟨_, rfl, ⟨h1, h2, rfl, ⟨_, S1⟩, _, S2⟩, b2⟩
  have B2 := B1.trans (b2.mono B1.size)
  have Y2 : Hid (BoxT _ _ _ _ _ w2) := Y1.out.below b2
  have KS : Hid (RowC w2 (some ⟨h1, 0, none⟩) cs ∧ RowX w2 (some ⟨h2, 0, none⟩) xs) := ⟨S1.row LS.out.2.1.2, S2.row LS.out.2.2.2⟩
  clear S1 S2 y0 y1 y2 y3 B1 b2 Y1
  go_wp2_with fail
  refine (specText_any nm _ _ _ _ cs key xs w2 KS.out.1 KS.out.2 (small_max LS.out.1) LS.out.2.1.1 LS.out.2.2.1 LS.out.2.2.2 (Nat.le_refl _) (Nat.le_refl _)).mono ?_
  rintro r w3 ⟨rfl, b3⟩
  obtain ⟨sr, cr, hr⟩ := retT_pair nm cs key xs
  have HRT : Hid (retT nm cs key xs = .tuple #[.string sr, .int .i64 cr]) := hr
  rw [hr]
  clear hr
  have B3 := B2.trans (b3.mono B2.size)
  have X3 := Y2.out.below b3
  have Y3 : Hid (BoxT _ _ _ _ _ w3) := X3
  obtain ⟨y0, y1, y2, y3, _⟩ := X3
  clear KS B2 b3 Y2
  go_wp2_with fail
  refine (toT_any nm ca xa cc xc cs key xs w3 (H.out.1.below B3) (H.out.2.below B3) LS.out).mono ?_
  rintro r w4 ⟨_, rfl, ⟨g1, g2, rfl, ⟨_, S1⟩, _, S2⟩, b4⟩
  have B4 := B3.trans (b4.mono B3.size)
  have A4 : Below w4.heap.size w4 (w4.alloc (.cells #[.string nm, fullS g1 cs.length, .int .i64 key, fullS g2 xs.length] 32)) := (Below.refl _ _).alloc (Nat.le_refl _) _
  have B5 := B4.trans (A4.mono B4.size)
  have Y5 : Hid (BoxT _ _ _ _ _ (w4.alloc (.cells #[.string nm, fullS g1 cs.length, .int .i64 key, fullS g2 xs.length] 32))) := (Y3.out.below b4).below A4
  have Z5 : Hid (BoxT w4.heap.size nm (fullS g1 cs.length) key (fullS g2 xs.length) (w4.alloc (.cells #[.string nm, fullS g1 cs.length, .int .i64 key, fullS g2 xs.length] 32))) := BoxT.new 32
  have KS : Hid (RowC (w4.alloc (.cells #[.string nm, fullS g1 cs.length, .int .i64 key, fullS g2 xs.length] 32)) (some ⟨g1, 0, none⟩) cs ∧ RowX (w4.alloc (.cells #[.string nm, fullS g1 cs.length, .int .i64 key, fullS g2 xs.length] 32)) (some ⟨g2, 0, none⟩) xs) := ⟨(S1.row LS.out.2.1.2).below A4, (S2.row LS.out.2.2.2).below A4⟩
  clear S1 S2 y0 y1 y2 y3 B3 b4 Y3 A4 B4
  go_wp2_with fail
  refine (implText_any nm _ _ _ _ cs key xs _ KS.out.1 KS.out.2 (small_max LS.out.1) LS.out.2.1.1 LS.out.2.2.1 LS.out.2.2.2 (Nat.le_refl _) (Nat.le_refl _) (G.out.below B5)).mono ?_
  rintro r w6 ⟨rfl, b6⟩
  rw [HRT.out]
  have B6 := B5.trans (b6.mono B5.size)
  have hL : TwoT w w.heap.size w4.heap.size nm key ca xa cc xc g1 g2 cs xs w6.drew :=
    (show TwoT w w.heap.size w4.heap.size nm key ca xa cc xc g1 g2 cs xs w6 from ⟨Y5.out.below b6, Z5.out.below b6, ⟨H.out.1.below B6, H.out.2.below B6⟩, ⟨KS.out.1.below b6, KS.out.2.below b6⟩, B6⟩).keep (Below.refl _ _).drew
  clear Y5 Z5 KS b6 B5 B6
  go_wp2_with fail
  go_region_held3 (TwoT w w.heap.size w4.heap.size nm key ca xa cc xc g1 g2 cs xs) (first | exact hL | exact TwoT.keep (by assumption) hb)
    (first | (go_at_call 6; refine (toT_any nm ca xa cc xc cs key xs _ (show TwoT w w.heap.size w4.heap.size nm key ca xa cc xc g1 g2 cs xs _ by assumption).2.2.1.1 (show TwoT w w.heap.size w4.heap.size nm key ca xa cc xc g1 g2 cs xs _ by assumption).2.2.1.2 LS.out).mono ?_; rintro r wA ⟨_, rfl, ⟨k1, k2, rfl, ⟨_, S1⟩, _, S2⟩, hb⟩)
           | (go_at_call 8; refine (eqT_same nm _ _ _ _ _ _ _ _ cs key xs _ (show TwoT w w.heap.size w4.heap.size nm key ca xa cc xc g1 g2 cs xs _ by assumption).2.2.2.1.1 (show TwoT w w.heap.size w4.heap.size nm key ca xa cc xc g1 g2 cs xs _ by assumption).2.2.2.1.2 (S1.row LS.out.2.1.2) (S2.row LS.out.2.2.2) LS.out).mono ?_; rintro r wA ⟨rfl, hb⟩))
  rename_i hLL
  have hE := hLL.2.2.2.2
  clear hL hLL
  go_wp2
  go_ret
  exact ⟨rfl, hE⟩
end Go.Proofs.YtkegckfanehgfaaGreatDoor
