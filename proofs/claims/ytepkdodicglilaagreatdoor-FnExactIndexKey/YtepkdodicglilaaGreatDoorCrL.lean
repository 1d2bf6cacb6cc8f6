/- The law on CheckRow, walked (stage 11). -/
import Derived.Test.YtepkdodicglilaaGreatDoorTbM
import Derived.Test.YtepkdodicglilaaGreatDoorCrD
namespace Go.Proofs.YtepkdodicglilaaGreatDoor
open Go.RowKit

/-- The table and a copy of it lie in two blocks, and a copy of the row beside them. -/
abbrev TwoR (w : World) (b y : Nat) (nm : ByteArray) (key : Int) (ca xa : Option Addr) (cc xc g1 g2 : Nat) (cs : List TC) (xs : List TX) (g3 : Nat) (vs : List V3) (w' : World) : Prop :=
  TwoT w b y nm key ca xa cc xc g1 g2 cs xs w' ∧ RowV w' (some ⟨g3, 0, none⟩) vs
theorem TwoR.keep {w : World} {b y : Nat} {nm : ByteArray} {key : Int} {ca xa : Option Addr} {cc xc g1 g2 : Nat} {cs : List TC} {xs : List TX} {g3 : Nat} {vs : List V3} {w1 w2 : World} (h : TwoR w b y nm key ca xa cc xc g1 g2 cs xs g3 vs w1) (hb : Below w1.heap.size w1 w2) : TwoR w b y nm key ca xa cc xc g1 g2 cs xs g3 vs w2 :=
  ⟨h.1.keep hb, h.2.below hb⟩
set_option maxRecDepth 100000 in
set_option maxHeartbeats 4000000 in
theorem lawCheckRow (nm : ByteArray) (ca xa : Option Addr) (cc xc : Nat) (cs : List TC) (key : Int) (xs : List TX) (a : Option Addr) (cap : Nat) (vs : List V3) (w : World) (hg : ErrT w) (hv : RowC w ca cs) (hx : RowX w xa xs) (hw : RowV w a vs) (lv : cs.length ≤ maxLen) (lx : xs.length ≤ maxLen) (ln : nm.size ≤ maxLen) (lw : vs.length ≤ maxLen) :
    Calls Tryz.prog 3 #[TbV nm (.slice ca cs.length cc) key (.slice xa xs.length xc), .slice a vs.length cap] w fun r w' => r = .returned (.bool true) ∧ Below w.heap.size w w' := by
  have H : Hid (RowC w ca cs ∧ RowX w xa xs ∧ RowV w a vs) := ⟨hv, hx, hw⟩
  have G : Hid (∀ w1, Below w.heap.size w w1 → ErrT w1) := fun w1 b => hg.below b hg.2
  have M : Hid (cs.length ≤ maxLen ∧ xs.length ≤ maxLen ∧ nm.size ≤ maxLen ∧ vs.length ≤ maxLen) := ⟨lv, lx, ln, lw⟩
  clear hv hx hw lv lx ln lw hg
  have B0 : Below w.heap.size w (w.alloc (.cells #[.string nm, .slice ca cs.length cc, .int .i64 key, .slice xa xs.length xc] 25)) := (Below.refl _ _).alloc (Nat.le_refl _) _
  have X0 : Hid (BoxT w.heap.size nm (.slice ca cs.length cc) key (.slice xa xs.length xc) (w.alloc (.cells #[.string nm, .slice ca cs.length cc, .int .i64 key, .slice xa xs.length xc] 25))) := BoxT.new 25
  go_enter Tryz.func3, Tryz.ntmps3
  go_wp2_with fail
  refine (szT_any nm ca xa cc xc cs key xs 1048576 _ (H.out.1.below B0) (H.out.2.1.below B0) M.out.2.2.1 M.out.1 M.out.2.1 (by omega) (by omega)).mono ?_
  rintro r w1 ⟨x, rfl, x0, x1, x2, b1⟩
  have B1 := B0.trans (b1.mono B0.size)
  have X1 := X0.out.below b1
  clear B0 X0 b1
  by_cases hx : x < 0
  · clear x2 X1
    go_wp2
    go_ret
    exact ⟨rfl, B1⟩
  have LS : Hid (SmallT (nm, cs, key, xs)) := x2 (by omega)
  clear x2
  have Y1 : Hid (BoxT _ _ _ _ _ w1) := X1
  clear X1
  go_wp2_with fail
  refine (szS_any a cap vs x w1 (H.out.2.2.below B1) M.out.2.2.2 (by omega) (by omega)).mono ?_
  rintro r w1' ⟨z, rfl, z0, z1, z2, b1⟩
  have B1' := B1.trans (b1.mono B1.size)
  have X1 := Y1.out.below b1
  clear Y1 b1
  by_cases hz : z < 0
  · clear z2 X1
    go_wp2
    go_ret
    exact ⟨rfl, B1'⟩
  have LW : Hid (vs.length ≤ 1048576) := by have := z2 (by omega); show _ ≤ _; omega
  clear z2 B1
  have Y1 : Hid (BoxT _ _ _ _ _ w1') := X1
  obtain ⟨y0, y1, y2, y3, _⟩ := X1
  go_wp2_with fail
  refine (toT_any nm ca xa cc xc cs key xs w1' (H.out.1.below B1') (H.out.2.1.below B1') LS.out).mono ?_
  rintro r w2 ⟨_, rfl, ⟨h1, h2, rfl, ⟨_, S1⟩, _, S2⟩, b2⟩
  have B2 := B1'.trans (b2.mono B1'.size)
  have Y2 : Hid (BoxT _ _ _ _ _ w2) := Y1.out.below b2
  have KS : Hid (RowC w2 (some ⟨h1, 0, none⟩) cs ∧ RowX w2 (some ⟨h2, 0, none⟩) xs) := ⟨S1.row LS.out.2.1.2, S2.row LS.out.2.2.2⟩
  clear S1 S2 y0 y1 y2 y3 B1' b2 Y1
  go_wp2_with fail
  refine (toS_row a cap vs w2 (H.out.2.2.below B2) LW.out).mono ?_
  rintro r w3 ⟨h3, rfl, RV, b3⟩
  have B3 := B2.trans (b3.mono B2.size)
  have Y3 : Hid (BoxT _ _ _ _ _ w3) := Y2.out.below b3
  have KC : Hid (RowC w3 (some ⟨h1, 0, none⟩) cs ∧ RowX w3 (some ⟨h2, 0, none⟩) xs ∧ RowV w3 (some ⟨h3, 0, none⟩) vs) := ⟨KS.out.1.below b3, KS.out.2.below b3, RV⟩
  clear KS Y2 b3 RV B2
  go_wp2_with fail
  refine (specCheckRow_any nm _ _ cs key _ _ _ vs (asB (TabP nm cs key xs)) w3 KC.out.1 KC.out.2.2 LS.out.2.1.1 LW.out (fun w1 b => specTableOK_any nm _ _ _ _ cs key xs w1 (KC.out.1.below b) (KC.out.2.1.below b) (small_max LS.out.1) LS.out.2.1.1 LS.out.2.2.1 LS.out.2.2.2 (Nat.le_refl _) (Nat.le_refl _))).mono ?_
  rintro r w4 ⟨rfl, b4⟩
  have B4 := B3.trans (b4.mono B3.size)
  have X4 := Y3.out.below b4
  have Y4 : Hid (BoxT _ _ _ _ _ w4) := X4
  obtain ⟨y0, y1, y2, y3, _⟩ := X4
  clear KC B3 b4 Y3
  go_wp2_with fail
  refine (toT_any nm ca xa cc xc cs key xs w4 (H.out.1.below B4) (H.out.2.1.below B4) LS.out).mono ?_
  rintro r w5 ⟨_, rfl, ⟨g1, g2, rfl, ⟨_, S1⟩, _, S2⟩, b5⟩
  have B5 := B4.trans (b5.mono B4.size)
  have A5 : Below w5.heap.size w5 (w5.alloc (.cells #[.string nm, fullS g1 cs.length, .int .i64 key, fullS g2 xs.length] 34)) := (Below.refl _ _).alloc (Nat.le_refl _) _
  have B6 := B5.trans (A5.mono B5.size)
  have Y6 : Hid (BoxT _ _ _ _ _ (w5.alloc (.cells #[.string nm, fullS g1 cs.length, .int .i64 key, fullS g2 xs.length] 34))) := (Y4.out.below b5).below A5
  have Z6 : Hid (BoxT w5.heap.size nm (fullS g1 cs.length) key (fullS g2 xs.length) (w5.alloc (.cells #[.string nm, fullS g1 cs.length, .int .i64 key, fullS g2 xs.length] 34))) := BoxT.new 34
  have KS : Hid (RowC (w5.alloc (.cells #[.string nm, fullS g1 cs.length, .int .i64 key, fullS g2 xs.length] 34)) (some ⟨g1, 0, none⟩) cs ∧ RowX (w5.alloc (.cells #[.string nm, fullS g1 cs.length, .int .i64 key, fullS g2 xs.length] 34)) (some ⟨g2, 0, none⟩) xs) := ⟨(S1.row LS.out.2.1.2).below A5, (S2.row LS.out.2.2.2).below A5⟩
  clear S1 S2 y0 y1 y2 y3 B4 b5 Y4 A5 B5
  go_wp2_with fail
  refine (toS_row a cap vs _ (H.out.2.2.below B6) LW.out).mono ?_
  rintro r w7 ⟨g3, rfl, RV, b7⟩
  have B7 := B6.trans (b7.mono B6.size)
  have X7 := Z6.out.below b7
  have Y7 : Hid (BoxT _ _ _ _ _ w7) := Y6.out.below b7
  have Z7 : Hid (BoxT w5.heap.size nm (fullS g1 cs.length) key (fullS g2 xs.length) w7) := X7
  have KC : Hid (RowC w7 (some ⟨g1, 0, none⟩) cs ∧ RowX w7 (some ⟨g2, 0, none⟩) xs ∧ RowV w7 (some ⟨g3, 0, none⟩) vs) := ⟨KS.out.1.below b7, KS.out.2.below b7, RV⟩
  obtain ⟨y0, y1, y2, y3, _⟩ := X7
  clear KS Y6 Z6 b7 RV B6
  go_wp2_with fail
  refine (implCheckRow_any nm _ _ cs key _ _ _ vs (asB (TabP nm cs key xs)) w7 KC.out.1 KC.out.2.2 LS.out.2.1.1 LW.out (fun w1 b => implTableOK_any nm _ _ _ _ cs key xs w1 (KC.out.1.below b) (KC.out.2.1.below b) (small_max LS.out.1) LS.out.2.1.1 LS.out.2.2.1 LS.out.2.2.2 (Nat.le_refl _) (Nat.le_refl _)) (G.out _ B7)).mono ?_
  rintro r w8 ⟨rfl, b8⟩
  have B8 := B7.trans (b8.mono B7.size)
  have hL : TwoR w w.heap.size w5.heap.size nm key ca xa cc xc g1 g2 cs xs g3 vs w8.drew :=
    (show TwoR w w.heap.size w5.heap.size nm key ca xa cc xc g1 g2 cs xs g3 vs w8 from ⟨⟨Y7.out.below b8, Z7.out.below b8, ⟨H.out.1.below B8, H.out.2.1.below B8⟩, ⟨KC.out.1.below b8, KC.out.2.1.below b8⟩, B8⟩, KC.out.2.2.below b8⟩).keep (Below.refl _ _).drew
  clear Y7 Z7 KC b8 B7 B8 y0 y1 y2 y3
  generalize crow (asB (TabP nm cs key xs)) cs vs = ans
  go_wp2_with fail
  go_region_held3 (TwoR w w.heap.size w5.heap.size nm key ca xa cc xc g1 g2 cs xs g3 vs) (first | exact hL | exact TwoR.keep (by assumption) hb)
    (first | (go_at_call 9; refine (toT_any nm ca xa cc xc cs key xs _ (show TwoR w w.heap.size w5.heap.size nm key ca xa cc xc g1 g2 cs xs g3 vs _ by assumption).1.2.2.1.1 (show TwoR w w.heap.size w5.heap.size nm key ca xa cc xc g1 g2 cs xs g3 vs _ by assumption).1.2.2.1.2 LS.out).mono ?_; rintro r wA ⟨_, rfl, ⟨k1, k2, rfl, ⟨_, S1⟩, _, S2⟩, hb⟩)
           | (go_at_call 12; refine (eqT_same nm _ _ _ _ _ _ _ _ cs key xs _ (show TwoR w w.heap.size w5.heap.size nm key ca xa cc xc g1 g2 cs xs g3 vs _ by assumption).1.2.2.2.1.1 (show TwoR w w.heap.size w5.heap.size nm key ca xa cc xc g1 g2 cs xs g3 vs _ by assumption).1.2.2.2.1.2 (S1.row LS.out.2.1.2) (S2.row LS.out.2.2.2) LS.out).mono ?_; rintro r wA ⟨rfl, hb⟩))
  rename_i hLL
  have hE := hLL.1.2.2.2.2
  have KV : Hid (RowV _ (some ⟨g3, 0, none⟩) vs) := hLL.2
  clear hL hLL
  go_wp2_with fail
  refine (toS_row a cap vs _ (H.out.2.2.below hE) LW.out).mono ?_
  rintro r w9 ⟨g4, rfl, RV, b9⟩
  have B9 := hE.trans (b9.mono hE.size)
  have KW := KV.out.below b9
  go_wp2_with fail
  refine (eqS_same _ _ _ _ vs w9 KW RV LW.out).mono ?_
  rintro r w10 ⟨rfl, b10⟩
  have B10 := B9.trans (b10.mono B9.size)
  clear KW RV
  go_wp2
  go_ret
  exact ⟨rfl, B10⟩
end Go.Proofs.YtepkdodicglilaaGreatDoor
