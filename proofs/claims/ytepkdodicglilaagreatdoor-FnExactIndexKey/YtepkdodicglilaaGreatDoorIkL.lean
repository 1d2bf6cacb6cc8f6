/- The law on IndexKey, walked (stage 9). -/
import Derived.Test.YtepkdodicglilaaGreatDoorRkB
import Derived.Test.YtepkdodicglilaaGreatDoorIkE
namespace Go.Proofs.YtepkdodicglilaaGreatDoor
open Go.RowKit

set_option maxRecDepth 100000 in
set_option maxHeartbeats 8000000 in
theorem lawIndexKey (nm : ByteArray) (ca xa : Option Addr) (cc xc : Nat) (cs : List TC) (key : Int) (xs : List TX) (ix : Int) (a : Option Addr) (cap : Nat) (vs : List V3) (w : World) (hg : ErrT w) (hv : RowC w ca cs) (hx : RowX w xa xs) (hw : RowV w a vs) (lv : cs.length ≤ maxLen) (lx : xs.length ≤ maxLen) (ln : nm.size ≤ maxLen) (lw : vs.length ≤ maxLen) :
    Calls Tryz.prog 5 #[TbV nm (.slice ca cs.length cc) key (.slice xa xs.length xc), .int .i64 ix, .slice a vs.length cap] w fun r w' => r = .returned (.bool true) ∧ Below w.heap.size w w' := by
  have H : Hid (RowC w ca cs ∧ RowX w xa xs ∧ RowV w a vs) := ⟨hv, hx, hw⟩
  have G : Hid (∀ w1, Below w.heap.size w w1 → ErrT w1) := fun w1 b => hg.below b hg.2
  have M : Hid (cs.length ≤ maxLen ∧ xs.length ≤ maxLen ∧ nm.size ≤ maxLen ∧ vs.length ≤ maxLen) := ⟨lv, lx, ln, lw⟩
  clear hv hx hw lv lx ln lw hg
  obtain ⟨W0, hW0⟩ : ∃ W0, w.alloc (.cells #[.string nm, .slice ca cs.length cc, .int .i64 key, .slice xa xs.length xc] 25) = W0 := ⟨_, rfl⟩
  have B0 : Below w.heap.size w W0 := hW0 ▸ (Below.refl _ _).alloc (Nat.le_refl _) _
  have XB : Hid (W0.heap[w.heap.size]? = some (.cells #[.string nm, .slice ca cs.length cc, .int .i64 key, .slice xa xs.length xc] 25 (0, 0))) := (hW0 ▸ heap_new' _ _ _ rfl : W0.heap[w.heap.size]? = _)
  have X0 : ArgR w w.heap.size nm key ca xa cc xc cs xs a vs W0 := ⟨⟨slab_cell XB.out, slab_cell XB.out, slab_cell XB.out, slab_cell XB.out, slab_lt XB.out⟩, ⟨H.out.1.below B0, H.out.2.1.below B0, H.out.2.2.below B0⟩, B0⟩
  have Y0 : Hid (ArgR w w.heap.size nm key ca xa cc xc cs xs a vs W0) := X0
  obtain ⟨⟨y0, y1, y2, y3, _⟩, _, _⟩ := X0
  clear XB
  go_enter Tryz.func5, Tryz.ntmps5
  go_wp2_with fail
  refine (szT_any nm ca xa cc xc cs key xs 1048576 _ Y0.out.2.1.1 Y0.out.2.1.2.1 M.out.2.2.1 M.out.1 M.out.2.1 (by omega) (by omega)).mono ?_
  rintro r w1 ⟨x, rfl, x0, x1, x2, b1⟩
  have Y1 : Hid (ArgR w w.heap.size nm key ca xa cc xc cs xs a vs w1) := Y0.out.keep b1
  clear Y0 b1 y0 y1 y2 y3 B0 hW0
  by_cases hx : x < 0
  · clear x2
    have hB := Y1.out.2.2
    go_wp2
    go_ret
    exact ⟨rfl, hB⟩
  have LS : Hid (SmallT (nm, cs, key, xs)) := x2 (by omega)
  clear x2
  go_wp2_with fail
  refine (szS_any a cap vs x w1 Y1.out.2.1.2.2 M.out.2.2.2 (by omega) (by omega)).mono ?_
  rintro r w2 ⟨z, rfl, z0, z1, z2, b2⟩
  have X2 := Y1.out.keep b2
  have Y2 : Hid (ArgR w w.heap.size nm key ca xa cc xc cs xs a vs w2) := X2
  clear Y1 b2
  by_cases hz : z < 0
  · clear z2
    have hB := Y2.out.2.2
    go_wp2
    go_ret
    exact ⟨rfl, hB⟩
  have LW : Hid (vs.length ≤ 1048576) := by have := z2 (by omega); show _ ≤ _; omega
  clear z2
  have hkey : asB (TabP nm cs key xs) = true → 1 ≤ key ∧ key ≤ cs.length := fun h => by
    obtain ⟨_, _, _, h4, h5, _⟩ := asB_is h
    exact ⟨h4, h5⟩
  have SPC : Hid (∀ (w1 : World) (h1 h2 h3 : Nat), (RowC w1 (some ⟨h1, 0, none⟩) cs ∧ RowX w1 (some ⟨h2, 0, none⟩) xs) → RowV w1 (some ⟨h3, 0, none⟩) vs → Calls Tryz.prog 21 #[TbV nm (fullS h1 cs.length) key (fullS h2 xs.length), .int .i64 ix, .slice (some ⟨h3, 0, none⟩) vs.length vs.length] w1 fun e w' => ∃ a2 c, e = .returned (.tuple #[.slice a2 (ikB (asB (TabP nm cs key xs)) cs key xs vs ix).length c, .int .i64 (ikC (asB (TabP nm cs key xs)) cs vs ix xs.length)]) ∧ ReadB w' a2 (ikB (asB (TabP nm cs key xs)) cs key xs vs ix).length (byteVal (ikB (asB (TabP nm cs key xs)) cs key xs vs ix)) ∧ Below w1.heap.size w1 w') := fun w1 h1 h2 h3 hK hR =>
    specIndexKey_any nm _ _ _ _ cs key xs ix _ _ vs (asB (TabP nm cs key xs)) w1 hK.1 hK.2 hR LS.out.2.1.1 LS.out.2.2.1 LW.out (Nat.le_refl _) (fun h => tabP_ix (asB_is h)) (fun w2 b => specTableOK_any nm _ _ _ _ cs key xs w2 (hK.1.below b) (hK.2.below b) (small_max LS.out.1) LS.out.2.1.1 LS.out.2.2.1 LS.out.2.2.2 (Nat.le_refl _) (Nat.le_refl _))
  have IMC : Hid (∀ (w1 : World) (h1 h2 h3 : Nat), ErrT w1 → (RowC w1 (some ⟨h1, 0, none⟩) cs ∧ RowX w1 (some ⟨h2, 0, none⟩) xs) → RowV w1 (some ⟨h3, 0, none⟩) vs → Calls Tryz.prog 22 #[TbV nm (fullS h1 cs.length) key (fullS h2 xs.length), .int .i64 ix, .slice (some ⟨h3, 0, none⟩) vs.length vs.length] w1 fun e w' => ∃ a2 c, e = .returned (.tuple #[.slice a2 (ikB (asB (TabP nm cs key xs)) cs key xs vs ix).length c, .int .i64 (ikC (asB (TabP nm cs key xs)) cs vs ix xs.length)]) ∧ NewB w1.heap.size a2 (ikB (asB (TabP nm cs key xs)) cs key xs vs ix).length ∧ OwnB w' a2 (ikB (asB (TabP nm cs key xs)) cs key xs vs ix).length (byteVal (ikB (asB (TabP nm cs key xs)) cs key xs vs ix)) ∧ Below w1.heap.size w1 w') := fun w1 h1 h2 h3 hE hK hR =>
    implIndexKey_any nm _ _ _ _ cs key xs ix _ _ vs (asB (TabP nm cs key xs)) w1 hK.1 hK.2 hR LS.out.2.1.1 LS.out.2.2.1 LW.out (Nat.le_refl _) (fun h => tabP_ix (asB_is h)) (fun w2 b => implTableOK_any nm _ _ _ _ cs key xs w2 (hK.1.below b) (hK.2.below b) (small_max LS.out.1) LS.out.2.1.1 LS.out.2.2.1 LS.out.2.2.2 (Nat.le_refl _) (Nat.le_refl _)) hE
  have hn : (ikB (asB (TabP nm cs key xs)) cs key xs vs ix).length ≤ 4194304 := ikB_le _ _ _ _ _ _ (fun h => tabP_ix (asB_is h))
  clear hkey
  generalize ikC (asB (TabP nm cs key xs)) cs vs ix xs.length = cod at *
  generalize byteVal (ikB (asB (TabP nm cs key xs)) cs key xs vs ix) = f at *
  generalize (ikB (asB (TabP nm cs key xs)) cs key xs vs ix).length = n at *
  obtain ⟨⟨y0, y1, y2, y3, _⟩, _, _⟩ := X2
  go_wp2_with fail
  refine (toT_any nm ca xa cc xc cs key xs w2 Y2.out.2.1.1 Y2.out.2.1.2.1 LS.out).mono ?_
  rintro r w3 ⟨_, rfl, ⟨h1, h2, rfl, ⟨_, S1⟩, _, S2⟩, b3⟩
  have Y3 : Hid (ArgR w w.heap.size nm key ca xa cc xc cs xs a vs w3) := Y2.out.keep b3
  have KC : Hid (RowC w3 (some ⟨h1, 0, none⟩) cs ∧ RowX w3 (some ⟨h2, 0, none⟩) xs) := ⟨S1.row LS.out.2.1.2, S2.row LS.out.2.2.2⟩
  clear S1 S2 y0 y1 y2 y3 Y2 b3
  go_wp2_with fail
  refine (toS_row a cap vs w3 Y3.out.2.1.2.2 LW.out).mono ?_
  rintro r w4 ⟨h3, rfl, KV, b4⟩
  have Y4 : Hid (ArgR w w.heap.size nm key ca xa cc xc cs xs a vs w4) := Y3.out.keep b4
  have KD : Hid ((RowC w4 (some ⟨h1, 0, none⟩) cs ∧ RowX w4 (some ⟨h2, 0, none⟩) xs) ∧ RowV w4 (some ⟨h3, 0, none⟩) vs) := ⟨⟨KC.out.1.below b4, KC.out.2.below b4⟩, KV⟩
  clear KC KV b4 Y3
  go_wp2_with fail
  refine (SPC.out w4 h1 h2 h3 KD.out.1 KD.out.2).mono ?_
  rintro r wA ⟨ua, uc, rfl, UR, bA⟩
  have XA := Y4.out.keep bA
  have U4 : Hid (ArgR w w.heap.size nm key ca xa cc xc cs xs a vs wA ∧ ReadB wA ua n f) := ⟨XA, UR⟩
  clear KD Y4 bA UR SPC
  obtain ⟨⟨y0, y1, y2, y3, _⟩, _, _⟩ := XA
  go_wp2_with fail
  refine (toT_any nm ca xa cc xc cs key xs wA U4.out.1.2.1.1 U4.out.1.2.1.2.1 LS.out).mono ?_
  rintro r w5 ⟨_, rfl, ⟨g1, g2, rfl, ⟨hg1, S1⟩, ⟨hg2, hg12⟩, S2⟩, b5⟩
  obtain ⟨W5, hW5⟩ : ∃ W5, w5.alloc (.cells #[.string nm, fullS g1 cs.length, .int .i64 key, fullS g2 xs.length] 34) = W5 := ⟨_, rfl⟩
  have b5' : Below w5.heap.size w5 W5 := hW5 ▸ (Below.refl _ _).alloc (Nat.le_refl _) _
  have X5 : ArgR w w.heap.size nm key ca xa cc xc cs xs a vs W5 := (U4.out.1.keep b5).keep b5'
  have Y5 : Hid (ArgR w w.heap.size nm key ca xa cc xc cs xs a vs W5 ∧ ReadB W5 ua n f) := ⟨X5, (U4.out.2.below b5).below b5'⟩
  have K5 : Hid ((RowC W5 (some ⟨g1, 0, none⟩) cs ∧ RowX W5 (some ⟨g2, 0, none⟩) xs) ∧ (ShpC W5 g1 cs.length ∧ ShpX W5 w5.heap.size g2 xs.length (fun i => (nthX xs i).2.length))) := ⟨⟨(S1.row LS.out.2.1.2).below b5', (S2.row LS.out.2.2.2).below b5'⟩, S1.shp.below b5', S2.shp.below b5'⟩
  have Z5 : Hid (BoxT w5.heap.size nm (fullS g1 cs.length) key (fullS g2 xs.length) W5) := hW5 ▸ BoxT.new 34
  have L5 : Hid (wA.heap.size ≤ g1 ∧ g1 < g2 ∧ wA.heap.size ≤ w5.heap.size ∧ W5.heap.size = w5.heap.size + 1) := ⟨hg1, hg12, b5.size, by rw [← hW5]; simp⟩
  have BA5 : Hid (Below wA.heap.size wA W5) := b5.trans (b5'.mono b5.size)
  clear S1 S2 y0 y1 y2 y3 b5 b5' hg1 hg2 hg12 X5
  go_wp2_with fail
  refine (toS_any a cap vs W5 Y5.out.1.2.1.2.2 LW.out).mono ?_
  rintro r w6 ⟨g3, rfl, hg3, S3, b6⟩
  clear hW5
  have L6 : Hid (w5.heap.size < g3 ∧ g3 < w6.heap.size) := ⟨by have := L5.out.2.2.2; omega, S3.lt⟩
  have C6 : CpyR w5.heap.size w5.heap.size g1 g2 g3 nm key cs xs vs w6 := ⟨Z5.out.below b6, ⟨⟨K5.out.1.1.below b6, K5.out.1.2.below b6⟩, S3.row H.out.2.2.size⟩, ⟨K5.out.2.1.below b6, K5.out.2.2.below b6, S3.shp⟩⟩
  have Y6 : Hid ((ArgR w w.heap.size nm key ca xa cc xc cs xs a vs w6 ∧ CpyR w5.heap.size w5.heap.size g1 g2 g3 nm key cs xs vs w6) ∧ ReadB w6 ua n f ∧ Below wA.heap.size wA w6) := ⟨⟨Y5.out.1.keep b6, C6⟩, Y5.out.2.below b6, BA5.out.trans (b6.mono BA5.out.size)⟩
  clear Y5 K5 Z5 S3 hg3 b6 BA5
  obtain ⟨⟨y0, y1, y2, y3, _⟩, _, _⟩ := C6
  go_wp2_with fail
  refine (IMC.out w6 g1 g2 g3 (G.out _ Y6.out.1.1.2.2) Y6.out.1.2.2.1.1 Y6.out.1.2.2.1.2).mono ?_
  rintro r w7 ⟨ia, ic, rfl, hnew, OI, b7⟩
  have NB : Hid (NewB w6.heap.size ia n) := hnew
  have Y7 : Hid (BigR (ArgR w w.heap.size nm key ca xa cc xc cs xs a vs) (CpyR w5.heap.size w5.heap.size g1 g2 g3 nm key cs xs vs) n f ua ia wA w7) := ⟨⟨Y6.out.1.1.keep b7, Y6.out.1.2.keep b7⟩, ⟨Y6.out.2.1.below b7, OI⟩, below_step Y6.out.2.2 (Nat.le_refl _) b7⟩
  have LL : Hid (w6.heap.size ≤ w7.heap.size) := b7.size
  clear Y6 b7 OI hnew y0 y1 y2 y3
  go_wp2_with fail
  refine (eqB_same ia ua ic uc n f w7 Y7.out.2.1.2.read Y7.out.2.1.1 hn).mono ?_
  rintro r w8 ⟨rfl, b8⟩
  have Y8 : Hid (BigR (ArgR w w.heap.size nm key ca xa cc xc cs xs a vs) (CpyR w5.heap.size w5.heap.size g1 g2 g3 nm key cs xs vs) n f ua ia wA w8) := Y7.out.keep (fun _ _ h hb => h.keep hb) (fun _ _ h hb => h.keep hb) b8
  have L8 : Hid (w6.heap.size ≤ w8.heap.size) := Nat.le_trans LL.out b8.size
  clear Y7 b8 LL
  have P8 : BigR (ArgR w w.heap.size nm key ca xa cc xc cs xs a vs) (CpyR w5.heap.size w5.heap.size g1 g2 g3 nm key cs xs vs) n f ua ia wA w8.drew := Y8.out.keep (fun _ _ h hb => h.keep hb) (fun _ _ h hb => h.keep hb) (Below.refl _ _).drew
  have KD8 : Hid (Below w8.heap.size w8 w8.drew) := (Below.refl _ _).drew
  go_wp2_with fail
  go_region_held3 (fun w' => BigR (ArgR w w.heap.size nm key ca xa cc xc cs xs a vs) (CpyR w5.heap.size w5.heap.size g1 g2 g3 nm key cs xs vs) n f ua ia wA w' ∧ Below w8.heap.size w8 w') (first | exact ⟨P8, KD8.out⟩ | exact ⟨BigR.keep (fun _ _ h hb => h.keep hb) (fun _ _ h hb => h.keep hb) (show BigR (ArgR w w.heap.size nm key ca xa cc xc cs xs a vs) (CpyR w5.heap.size w5.heap.size g1 g2 g3 nm key cs xs vs) n f ua ia wA _ ∧ Below w8.heap.size w8 _ by assumption).1 hb, below_step (show BigR (ArgR w w.heap.size nm key ca xa cc xc cs xs a vs) (CpyR w5.heap.size w5.heap.size g1 g2 g3 nm key cs xs vs) n f ua ia wA _ ∧ Below w8.heap.size w8 _ by assumption).2 (Nat.le_refl _) hb⟩)
    (first
    | (go_at_call 9; refine (toT_any nm ca xa cc xc cs key xs _ (show BigR (ArgR w w.heap.size nm key ca xa cc xc cs xs a vs) (CpyR w5.heap.size w5.heap.size g1 g2 g3 nm key cs xs vs) n f ua ia wA _ ∧ Below w8.heap.size w8 _ by assumption).1.1.1.2.1.1 (show BigR (ArgR w w.heap.size nm key ca xa cc xc cs xs a vs) (CpyR w5.heap.size w5.heap.size g1 g2 g3 nm key cs xs vs) n f ua ia wA _ ∧ Below w8.heap.size w8 _ by assumption).1.1.1.2.1.2.1 LS.out).mono ?_; rintro r wD ⟨_, rfl, ⟨k1, k2, rfl, ⟨_, S1⟩, _, S2⟩, hb⟩)
    | (go_at_call 12; refine (eqT_same nm _ _ _ _ _ _ _ _ cs key xs _ (show BigR (ArgR w w.heap.size nm key ca xa cc xc cs xs a vs) (CpyR w5.heap.size w5.heap.size g1 g2 g3 nm key cs xs vs) n f ua ia wA _ ∧ Below w8.heap.size w8 _ by assumption).1.1.2.2.1.1.1 (show BigR (ArgR w w.heap.size nm key ca xa cc xc cs xs a vs) (CpyR w5.heap.size w5.heap.size g1 g2 g3 nm key cs xs vs) n f ua ia wA _ ∧ Below w8.heap.size w8 _ by assumption).1.1.2.2.1.1.2 (S1.row LS.out.2.1.2) (S2.row LS.out.2.2.2) LS.out).mono ?_; rintro r wE ⟨rfl, hb⟩)
    | fail)
  rename_i hLL
  have Y9 : Hid (BigR (ArgR w w.heap.size nm key ca xa cc xc cs xs a vs) (CpyR w5.heap.size w5.heap.size g1 g2 g3 nm key cs xs vs) n f ua ia wA wE) := hLL.1
  have L9 : Hid (w6.heap.size ≤ wE.heap.size) := Nat.le_trans L8.out hLL.2.size
  clear hLL P8 Y8 L8 S1 S2 hb KD8
  go_wp2_with fail
  refine (toS_row a cap vs wE Y9.out.1.1.2.1.2.2 LW.out).mono ?_
  rintro r w9 ⟨h4, rfl, R4, b9⟩
  have Y10 : Hid (BigR (ArgR w w.heap.size nm key ca xa cc xc cs xs a vs) (CpyR w5.heap.size w5.heap.size g1 g2 g3 nm key cs xs vs) n f ua ia wA w9) := Y9.out.keep (fun _ _ h hb => h.keep hb) (fun _ _ h hb => h.keep hb) b9
  have L10 : Hid (w6.heap.size ≤ w9.heap.size) := Nat.le_trans L9.out b9.size
  clear Y9 L9 b9
  go_wp2_with fail
  refine (eqS_same _ _ _ _ vs w9 Y10.out.1.2.2.1.2 R4 LW.out).mono ?_
  rintro r w10 ⟨rfl, b10⟩
  have X11 : BigR (ArgR w w.heap.size nm key ca xa cc xc cs xs a vs) (CpyR w5.heap.size w5.heap.size g1 g2 g3 nm key cs xs vs) n f ua ia wA w10 := Y10.out.keep (fun _ _ h hb => h.keep hb) (fun _ _ h hb => h.keep hb) b10
  have Y11 : Hid (BigR (ArgR w w.heap.size nm key ca xa cc xc cs xs a vs) (CpyR w5.heap.size w5.heap.size g1 g2 g3 nm key cs xs vs) n f ua ia wA w10) := X11
  have L11 : Hid (w6.heap.size ≤ w10.heap.size) := Nat.le_trans L10.out b10.size
  clear Y10 L10 b10 R4
  obtain ⟨⟨_, ⟨y0, y1, y2, y3, _⟩, _, _⟩, _, _⟩ := X11
  go_wp2_with fail
  refine (markT_any wA.heap.size w5.heap.size nm g1 g2 cs.length xs.length (fun i => (nthX xs i).2.length) key w10 Y11.out.1.2.2.2.1 Y11.out.1.2.2.2.2.1 L5.out.1 L5.out.2.1 (fun i hi => (LS.out.2.2.2 i hi).2) LS.out.2.1.1 LS.out.2.2.1).mono ?_
  rintro r w11 ⟨q, rfl, q0, q1, K11⟩
  have M11 : MkV w11 g3 vs.length 0 0 := Y11.out.1.2.2.2.2.2.kept K11 (fun h => by have := L6.out; have := h.2; omega)
  clear y0 y1 y2 y3
  go_wp2_with fail
  refine (markV_any g3 vs.length vs.length vs.length q 0 w11 M11 (Nat.le_refl _) (by omega) (by omega) (by have := LW.out; omega)).mono ?_
  rintro r w12 ⟨rfl, _, K12⟩
  have O12 : OwnB w12 ia n f := (Y11.out.2.1.2.kept K11 (fun g' e h => by have := NB.out.at g' e; have := L6.out; have := h.2; omega)).kept K12 (fun g' e h => by have h' : g' = g3 := h; have := NB.out.at g' e; have := L6.out; omega)
  have B11 : Below wA.heap.size w10 w11 := K11.below Y11.out.2.2.size (fun x hx => hx.1)
  have B12 : Below wA.heap.size w11 w12 := K12.below (Nat.le_trans Y11.out.2.2.size K11.size) (fun x hx => by have h' : x = g3 := hx; have := L6.out; have := L5.out; omega)
  have BA12 : Below wA.heap.size wA w12 := (Y11.out.2.2.trans B11).trans B12
  have Y12 : Hid (OwnB w12 ia n f ∧ Below wA.heap.size wA w12 ∧ w6.heap.size ≤ w12.heap.size) := ⟨O12, BA12, Nat.le_trans L11.out (Nat.le_trans K11.size K12.size)⟩
  have hq0 : ¬ q + 3 * (vs.length : Int) < 0 := by omega
  clear K11 K12 M11 O12 B11 B12 BA12 Y11 L11
  generalize q + 3 * (vs.length : Int) = q9 at *
  go_wp2_with fail
  refine (eqB_same ia ua ic uc n f w12 Y12.out.1.read (U4.out.2.below Y12.out.2.1) hn).mono ?_
  rintro r w13 ⟨rfl, b13⟩
  have Y13 : Hid (OwnB w13 ia n f ∧ Below wA.heap.size wA w13 ∧ w6.heap.size ≤ w13.heap.size) := ⟨Y12.out.1.below b13, below_step Y12.out.2.1 (Nat.le_refl _) b13, Nat.le_trans Y12.out.2.2 b13.size⟩
  clear Y12 b13
  go_wp2_with fail
  refine (markB_new w6.heap.size ia ic n f 1 w13 NB.out Y13.out.1 hn (by omega) (by omega)).mono ?_
  rintro r w14 ⟨rfl, RM, hside⟩
  have BA14 : Below wA.heap.size wA w14 := hside.below Y13.out.2.1 Y13.out.2.1.size (fun g' e => by have := NB.out.at g' e; have := L6.out; have := L5.out; omega)
  have Y14 : Hid (EndR (ArgR w w.heap.size nm key ca xa cc xc cs xs a vs) n ia wA w14) := ⟨U4.out.1.keep BA14, RM, BA14⟩
  clear Y13 hside RM BA14
  go_wp2_with fail
  refine (heldB_any ia ic n 1 w14 Y14.out.2.1 hn (by omega) (by omega)).mono ?_
  rintro r w15 ⟨rfl, hq15⟩
  obtain rfl := hq15.symm
  have X15 := Y14.out.1
  obtain ⟨⟨y0, y1, y2, y3, _⟩, _, _⟩ := X15
  have hl3 : ¬ (1 : Int) + (n : Int) < 0 := by omega
  go_wp2_with fail
  refine (toT_any nm ca xa cc xc cs key xs w14 Y14.out.1.2.1.1 Y14.out.1.2.1.2.1 LS.out).mono ?_
  rintro r w16 ⟨_, rfl, ⟨h1, h2, rfl, ⟨_, S1⟩, _, S2⟩, b16⟩
  have Y16 : Hid (EndR (ArgR w w.heap.size nm key ca xa cc xc cs xs a vs) n ia wA w16) := Y14.out.keep (fun _ _ h hb => h.keep hb) b16
  have KC : Hid (RowC w16 (some ⟨h1, 0, none⟩) cs ∧ RowX w16 (some ⟨h2, 0, none⟩) xs) := ⟨S1.row LS.out.2.1.2, S2.row LS.out.2.2.2⟩
  clear S1 S2 y0 y1 y2 y3 b16 Y14
  go_wp2_with fail
  refine (toS_row a cap vs w16 Y16.out.1.2.1.2.2 LW.out).mono ?_
  rintro r w17 ⟨h3, rfl, KV, b17⟩
  have Y17 : Hid (EndR (ArgR w w.heap.size nm key ca xa cc xc cs xs a vs) n ia wA w17) := Y16.out.keep (fun _ _ h hb => h.keep hb) b17
  have KD : Hid ((RowC w17 (some ⟨h1, 0, none⟩) cs ∧ RowX w17 (some ⟨h2, 0, none⟩) xs) ∧ RowV w17 (some ⟨h3, 0, none⟩) vs) := ⟨⟨KC.out.1.below b17, KC.out.2.below b17⟩, KV⟩
  clear KC KV b17 Y16
  go_wp2_with fail
  refine (IMC.out w17 h1 h2 h3 (G.out _ Y17.out.1.2.2) KD.out.1 KD.out.2).mono ?_
  rintro r w18 ⟨ja, jc, rfl, _, OJ, b18⟩
  have Y18 : Hid (EndR (ArgR w w.heap.size nm key ca xa cc xc cs xs a vs) n ia wA w18 ∧ ReadB w18 ja n f) := ⟨Y17.out.keep (fun _ _ h hb => h.keep hb) b18, OJ.read⟩
  clear Y17 KD b18 OJ
  go_wp2_with fail
  refine (eqB_same ja ua jc uc n f w18 Y18.out.2 (U4.out.2.below Y18.out.1.2.2) hn).mono ?_
  rintro r w19 ⟨rfl, b19⟩
  have Y19 : Hid (EndR (ArgR w w.heap.size nm key ca xa cc xc cs xs a vs) n ia wA w19) := Y18.out.1.keep (fun _ _ h hb => h.keep hb) b19
  clear Y18 b19
  go_wp2_with fail
  refine (heldB_any ia ic n 1 w19 Y19.out.2.1 hn (by omega) (by omega)).mono ?_
  rintro r w20 ⟨rfl, hq20⟩
  obtain rfl := hq20.symm
  have hE : Below w.heap.size w w19 := Y19.out.1.2.2
  clear Y19
  go_wp2
  go_ret
  exact ⟨rfl, hE⟩
end Go.Proofs.YtepkdodicglilaaGreatDoor
