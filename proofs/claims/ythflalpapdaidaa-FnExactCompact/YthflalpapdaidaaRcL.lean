/- The law on Reached, walked (stage 5). -/
import Derived.Test.YthflalpapdaidaaRcE
import Derived.Deep.RegionHeld3
namespace Go.Proofs.Ythflalpapdaidaa
open Go.RowKit

theorem rcL_len (ns : List Nd) (rs : List Int) : (rcL ns rs).length ≤ ns.length := by
  unfold rcL
  split
  · exact upL_len _ _
  · simp
theorem ShpN.below {w w' : World} {lo hi g n : Nat} (h : ShpN w lo hi g n) (b0 : Below w.heap.size w w') : ShpN w' lo hi g n := by
  obtain ⟨a1, a2, a3, cur, hh, hsz, hc⟩ := h
  refine ⟨a1, a2, Nat.le_trans a3 b0.size, cur, (b0.block g (slab_lt hh)).trans hh, hsz, fun i hi => ?_⟩
  obtain ⟨g1, g2, g3, n1, n2, n3, b1, b2, b3, b4, c1, c2, c3, ⟨e1, d1, f1⟩, ⟨e2, d2, f2⟩, ⟨e3, d3, f3⟩⟩ := hc i hi
  exact ⟨g1, g2, g3, n1, n2, n3, b1, b2, b3, b4, c1, c2, c3, ⟨e1, (b0.block _ (slab_lt d1)).trans d1, f1⟩, ⟨e2, (b0.block _ (slab_lt d2)).trans d2, f2⟩, ⟨e3, (b0.block _ (slab_lt d3)).trans d3, f3⟩⟩
theorem BoxF.kept {S : Nat → Prop} {b : Nat} {v : Value} {w w' : World} (h : BoxF b v w) (hk : Kept S w w') (hS : ¬ S b) : BoxF b v w' := ⟨(World.cell?_of_block (w := w) (hk.block b h.2 hS)).trans h.1, Nat.lt_of_lt_of_le h.2 hk.size⟩
/-- The argument and a copy lie in two blocks, both lists are read; what lay in w lies there still. -/
abbrev TwR (w u : World) (b y : Nat) (a : Option Addr) (c g : Nat) (ns : List Nd) (w' : World) : Prop :=
  BoxF b (.slice a ns.length c) w' ∧ BoxF y (fullS g ns.length) w' ∧ RowN w' a ns ∧ RowN w' (some ⟨g, 0, none⟩) ns ∧ Below w.heap.size w w' ∧ Below u.heap.size u w'
theorem TwR.keep {w u : World} {b y : Nat} {a : Option Addr} {c g : Nat} {ns : List Nd} {w1 w2 : World} (h : TwR w u b y a c g ns w1) (hb : Below w1.heap.size w1 w2) : TwR w u b y a c g ns w2 :=
  ⟨h.1.below hb, h.2.1.below hb, h.2.2.1.below hb, h.2.2.2.1.below hb, below_step h.2.2.2.2.1 (Nat.le_refl _) hb, below_step h.2.2.2.2.2 (Nat.le_refl _) hb⟩

set_option maxRecDepth 100000 in
set_option maxHeartbeats 8000000 in
theorem lawReached (a ra : Option Addr) (c rc : Nat) (ns : List Nd) (rs : List Int) (w : World) (h : RowN w a ns) (hr : RowI w ra rs) (m : ns.length ≤ maxLen) (mr : rs.length ≤ maxLen) :
    Calls Try.prog 12 #[FV (.slice a ns.length c), .slice ra rs.length rc] w fun e w' => e = .returned (.bool true) ∧ Below w.heap.size w w' := by
  have H : Hid (RowN w a ns ∧ RowI w ra rs) := ⟨h, hr⟩
  have M : Hid (ns.length ≤ maxLen) := m
  have HT : Hid (TextsN ns) := h.texts
  clear h hr m
  unfold maxLen at mr
  have B0 : Below w.heap.size w (w.alloc (.cells #[.slice a ns.length c] 55)) := (Below.refl _ _).alloc (Nat.le_refl _) _
  have X0 : Hid (BoxF w.heap.size (.slice a ns.length c) (w.alloc (.cells #[.slice a ns.length c] 55))) := BoxF.new 55
  by_cases hbig : (1048576 : Int) < (rs.length : Int)
  · go_enter Try.func12, Try.ntmps12
    go_wp2
    go_ret
    exact ⟨rfl, B0⟩
  have HRL : Hid (rs.length ≤ 1048576) := by show _ ≤ _; omega
  go_enter Try.func12, Try.ntmps12
  go_wp2_with fail
  refine (szF_any a c ns 1048576 _ (H.out.1.below B0) M.out (by omega) (by omega)).mono ?_
  rintro e w1 ⟨x, rfl, x0, x1, x2, b1⟩
  have B1 := B0.trans (b1.mono B0.size)
  have Y1 := X0.out.below b1
  clear B0 X0 b1
  by_cases hx : x < 0
  · clear x2 Y1
    go_wp2
    go_ret
    exact ⟨rfl, B1⟩
  have LS : Hid (ns.length ≤ 1048576 ∧ ∀ i, i < ns.length → SmallN (nthN ns i)) := by
    obtain ⟨p, q⟩ := x2 (by omega)
    exact ⟨by omega, q⟩
  have LL : Hid ((rcL ns rs).length ≤ 1048576) := by show _ ≤ _; have := rcL_len ns rs; have := LS.out.1; omega
  clear x2 hbig mr
  have X1 : Hid (BoxF w.heap.size (.slice a ns.length c) w1) := Y1
  obtain ⟨y0, _⟩ := Y1
  go_wp2_with fail
  refine (toF_any a c ns w1 (H.out.1.below B1) LS.out.1 LS.out.2).mono ?_
  rintro e w2 ⟨h1, rfl, g1, S1, b2⟩
  have B2 := below_step B1 (Nat.le_refl _) b2
  have X2 : Hid (BoxF w.heap.size (.slice a ns.length c) w2) := X1.out.below b2
  have K1 : Hid (RowN w2 (some ⟨h1, 0, none⟩) ns) := S1.row HT.out LS.out.2
  clear S1 b2 B1 X1 y0 g1
  go_wp2_with fail
  refine (toI_any ra rc rs w2 (H.out.2.below B2) HRL.out).mono ?_
  rintro e w3 ⟨h2, rfl, g2, S2, b3⟩
  have B3 := below_step B2 (Nat.le_refl _) b3
  have X3 : Hid (BoxF w.heap.size (.slice a ns.length c) w3) := X2.out.below b3
  have K3 : Hid (RowN w3 (some ⟨h1, 0, none⟩) ns ∧ RowI w3 (some ⟨h2, 0, none⟩) rs) := ⟨K1.out.below b3, S2.row⟩
  clear S2 b3 B2 X2 K1 g2
  go_wp2_with fail
  refine (specReached_any _ _ _ _ ns rs w3 K3.out.1 K3.out.2 LS.out.1 LS.out.2 HRL.out).mono ?_
  rintro e w4 ⟨v6, rfl, o6, b4⟩
  have B4 := below_step B3 (Nat.le_refl _) b4
  have Y4 := X3.out.below b4
  have X4 : Hid (BoxF w.heap.size (.slice a ns.length c) w4) := Y4
  have O4 : Hid (OwnI w4 w3.heap.size v6 (rcL ns rs) ∧ ∀ j, v6.ownBlock = some j → w.heap.size < j ∧ j < w4.heap.size) := ⟨o6, fun j hj => by have := o6.blk hj; have := X3.out.2; omega⟩
  obtain ⟨y0, _⟩ := Y4
  clear o6 b4 B3 X3 K3
  go_wp2_with fail
  refine (toF_any a c ns w4 (H.out.1.below B4) LS.out.1 LS.out.2).mono ?_
  rintro e w5 ⟨h3, rfl, g3, S3, b5⟩
  have A5 : Below w5.heap.size w5 (w5.alloc (.cells #[fullS h3 ns.length] 25)) := (Below.refl _ _).alloc (Nat.le_refl _) _
  have B5 := below_step (below_step B4 (Nat.le_refl _) b5) (Nat.le_refl _) A5
  have X5 : Hid (BoxF w.heap.size (.slice a ns.length c) (w5.alloc (.cells #[fullS h3 ns.length] 25))) := (X4.out.below b5).below A5
  have Z5 : Hid (BoxF w5.heap.size (fullS h3 ns.length) (w5.alloc (.cells #[fullS h3 ns.length] 25))) := BoxF.new 25
  have P5 : Hid (ShpN (w5.alloc (.cells #[fullS h3 ns.length] 25)) w4.heap.size w5.heap.size h3 ns.length) := (S3.shp g3 LS.out.2).below A5
  have K5 : Hid (RowN (w5.alloc (.cells #[fullS h3 ns.length] 25)) (some ⟨h3, 0, none⟩) ns) := (S3.row HT.out LS.out.2).below A5
  have O5 : Hid (OwnI (w5.alloc (.cells #[fullS h3 ns.length] 25)) w3.heap.size v6 (rcL ns rs)) := (O4.out.1.below b5).below A5
  have N5 : Hid (w4.heap.size ≤ w5.heap.size ∧ (w5.alloc (.cells #[fullS h3 ns.length] 25)).heap.size = w5.heap.size + 1 ∧ w.heap.size < w4.heap.size) := ⟨b5.size, by simp, X4.out.2⟩
  have D6 : Hid (∀ j, v6.ownBlock = some j → w.heap.size < j ∧ j < w4.heap.size) := O4.out.2
  clear S3 b5 A5 B4 X4 O4 y0 g3
  generalize hW5 : w5.alloc (.cells #[fullS h3 ns.length] 25) = W5 at *
  go_wp2_with fail
  refine (toI_any ra rc rs W5 (H.out.2.below B5) HRL.out).mono ?_
  rintro e w6 ⟨h4, rfl, g4, S4, b6⟩
  have B6 := below_step B5 (Nat.le_refl _) b6
  have Y6 := Z5.out.below b6
  have Z6 : Hid (BoxF w5.heap.size (fullS h3 ns.length) w6) := Y6
  have X6 : Hid (BoxF w.heap.size (.slice a ns.length c) w6) := X5.out.below b6
  have P6 : Hid (ShpN w6 w4.heap.size w5.heap.size h3 ns.length) := P5.out.below b6
  have K6 : Hid (RowN w6 (some ⟨h3, 0, none⟩) ns ∧ RowI w6 (some ⟨h4, 0, none⟩) rs) := ⟨K5.out.below b6, S4.row⟩
  have I6 : Hid (SlabI w6 h4 rs.length rs rs.length) := S4
  have O6 : Hid (OwnI w6 w3.heap.size v6 (rcL ns rs)) := O5.out.below b6
  have N6 : Hid (w4.heap.size ≤ w5.heap.size ∧ w5.heap.size < h4 ∧ h4 < w6.heap.size ∧ w.heap.size < w4.heap.size) := ⟨N5.out.1, by have := N5.out.2.1; omega, S4.lt, N5.out.2.2⟩
  obtain ⟨y0, _⟩ := Y6
  clear S4 b6 B5 X5 Z5 P5 K5 O5 N5 g4 hW5
  go_wp2_with fail
  refine (implReached_any _ _ _ _ ns rs w6 K6.out.1 K6.out.2 LS.out.1 LS.out.2 HRL.out).mono ?_
  rintro e w7 ⟨v10, rfl, o10, b7⟩
  have B7 := below_step B6 (Nat.le_refl _) b7
  have Z7 : Hid (BoxF w5.heap.size (fullS h3 ns.length) w7) := Z6.out.below b7
  have X7 : Hid (BoxF w.heap.size (.slice a ns.length c) w7) := X6.out.below b7
  have P7 : Hid (ShpN w7 w4.heap.size w5.heap.size h3 ns.length) := P6.out.below b7
  have K7 : Hid (RowN w7 (some ⟨h3, 0, none⟩) ns ∧ RowI w7 (some ⟨h4, 0, none⟩) rs) := ⟨K6.out.1.below b7, K6.out.2.below b7⟩
  have I7 : Hid (SlabI w7 h4 rs.length rs rs.length) := I6.out.below b7 N6.out.2.2.1
  have O7 : Hid (OwnI w7 w3.heap.size v6 (rcL ns rs) ∧ OwnI w7 w6.heap.size v10 (rcL ns rs)) := ⟨O6.out.below b7, o10⟩
  have D10 : Hid (∀ j, v10.ownBlock = some j → w6.heap.size ≤ j) := fun j hj => (o10.blk hj).1
  clear o10 b7 B6 X6 Z6 P6 K6 I6 O6 y0
  obtain ⟨code, hcode⟩ : ∃ code, rtC ns rs = code := ⟨_, rfl⟩
  have HCD : Hid (rtC ns rs = code) := hcode
  rw [hcode]
  clear hcode
  go_wp2_with fail
  refine (eqI_ownK O7.out.2 O7.out.1 LL.out).mono ?_
  rintro e w8 ⟨rfl, b8⟩
  have B8 := below_step B7 (Nat.le_refl _) b8
  have hL : TwR w w8 w.heap.size w5.heap.size a c h3 ns w8.drew := (show TwR w w8 w.heap.size w5.heap.size a c h3 ns w8 from ⟨X7.out.below b8, Z7.out.below b8, H.out.1.below B8, K7.out.1.below b8, B8, Below.refl _ _⟩).keep (Below.refl _ _).drew
  have T8 : Hid (∀ W, Below w8.heap.size w8 W → ShpN W w4.heap.size w5.heap.size h3 ns.length ∧ SlabI W h4 rs.length rs rs.length ∧ OwnI W w3.heap.size v6 (rcL ns rs) ∧ OwnI W w6.heap.size v10 (rcL ns rs)) := fun W hW => ⟨(P7.out.below b8).below hW, (I7.out.below b8 I7.out.lt).below hW (I7.out.below b8 I7.out.lt).lt, (O7.out.1.below b8).below hW, (O7.out.2.below b8).below hW⟩
  have B78 : Hid (Below w.heap.size w w8) := B8
  clear b8 B7 B8 X7 Z7 P7 K7 I7 O7
  go_wp2_with fail
  go_region_held3 (TwR w w8 w.heap.size w5.heap.size a c h3 ns) (first | exact hL | exact TwR.keep (by assumption) hb)
    (first | (go_at_call 36; refine (toF_any a c ns _ (show TwR w w8 w.heap.size w5.heap.size a c h3 ns _ by assumption).2.2.1 LS.out.1 LS.out.2).mono ?_; rintro r wA ⟨k1, rfl, _, S1, hb⟩)
           | (go_at_call 37; refine (eqF_same _ _ _ _ ns _ (show TwR w w8 w.heap.size w5.heap.size a c h3 ns _ by assumption).2.2.2.1 (S1.row HT.out LS.out.2) LS.out.1 LS.out.2).mono ?_; rintro r wA ⟨rfl, hb⟩))
  rename_i hLL
  have X9 := hLL.1
  have Z9 := hLL.2.1
  have B9 := hLL.2.2.2.2.1
  have T9 := T8.out _ hLL.2.2.2.2.2
  have HX9 : Hid (BoxF w.heap.size (.slice a ns.length c) _ ∧ BoxF w5.heap.size (fullS h3 ns.length) _) := ⟨X9, Z9⟩
  have HT9 : Hid (ShpN _ w4.heap.size w5.heap.size h3 ns.length ∧ SlabI _ h4 rs.length rs rs.length ∧ OwnI _ w3.heap.size v6 (rcL ns rs) ∧ OwnI _ w6.heap.size v10 (rcL ns rs)) := T9
  clear hL hLL X9 Z9 T9 T8 B78
  go_wp2_with fail
  refine (toI_any ra rc rs _ (H.out.2.below B9) HRL.out).mono ?_
  rintro e w10 ⟨h5, rfl, g5, S5, b10⟩
  have B10 := below_step B9 (Nat.le_refl _) b10
  have X10 : Hid (BoxF w.heap.size (.slice a ns.length c) w10 ∧ BoxF w5.heap.size (fullS h3 ns.length) w10) := ⟨HX9.out.1.below b10, HX9.out.2.below b10⟩
  have T10 : Hid (ShpN w10 w4.heap.size w5.heap.size h3 ns.length ∧ SlabI w10 h4 rs.length rs rs.length ∧ OwnI w10 w3.heap.size v6 (rcL ns rs) ∧ OwnI w10 w6.heap.size v10 (rcL ns rs)) := ⟨HT9.out.1.below b10, HT9.out.2.1.below b10 HT9.out.2.1.lt, HT9.out.2.2.1.below b10, HT9.out.2.2.2.below b10⟩
  have R10 : Hid (RowI w10 (some ⟨h5, 0, none⟩) rs) := S5.row
  clear S5 b10 B9 HX9 HT9 g5
  go_wp2_with fail
  refine (eqI_same _ _ _ _ rs w10 T10.out.2.1.row R10.out HRL.out).mono ?_
  rintro e w11 ⟨rfl, b11⟩
  have B11 := below_step B10 (Nat.le_refl _) b11
  have X11 : Hid (BoxF w.heap.size (.slice a ns.length c) w11 ∧ BoxF w5.heap.size (fullS h3 ns.length) w11) := ⟨X10.out.1.below b11, X10.out.2.below b11⟩
  have T11 : Hid (ShpN w11 w4.heap.size w5.heap.size h3 ns.length ∧ SlabI w11 h4 rs.length rs rs.length ∧ OwnI w11 w3.heap.size v6 (rcL ns rs) ∧ OwnI w11 w6.heap.size v10 (rcL ns rs)) := ⟨T10.out.1.below b11, T10.out.2.1.below b11 T10.out.2.1.lt, T10.out.2.2.1.below b11, T10.out.2.2.2.below b11⟩
  obtain ⟨z0, _⟩ := X11.out.2
  clear b11 B10 X10 T10 R10
  go_wp2_with fail
  refine (markF_any h3 ns.length w4.heap.size w5.heap.size 1 w11 T11.out.1 LS.out.1 (by omega) (by omega)).mono ?_
  rintro e w12 ⟨r12, rfl, q0, q1, K12⟩
  have B12 := B11.trans (K12.below B11.size (fun k hk => by have := N6.out; omega))
  have X12 : Hid (BoxF w.heap.size (.slice a ns.length c) w12) := X11.out.1.kept K12 (by have := N6.out; omega)
  have T12 : Hid (SlabI w12 h4 rs.length rs rs.length ∧ OwnI w12 w3.heap.size v6 (rcL ns rs) ∧ OwnI w12 w6.heap.size v10 (rcL ns rs)) := ⟨by
      obtain ⟨cur, hh, r⟩ := T11.out.2.1
      exact ⟨cur, (K12.block h4 (slab_lt hh) (by have := N6.out; omega)).trans hh, r⟩, T11.out.2.2.1.kept K12 (fun j hj => by have := D6.out j hj; omega), T11.out.2.2.2.kept K12 (fun j hj => by have := D10.out j hj; have := N6.out; omega)⟩
  have hr12 : r12 ≤ 4194304000001 := by have := LS.out.1; omega
  clear K12 B11 X11 T11 z0 q1
  obtain ⟨cur4, hh4, hs4, _⟩ := T12.out.1
  have hcall := markI_slab h4 rs.length rs.length rs.length cur4 r12 w12 hh4 hs4 (Nat.le_refl _) q0 (by omega) HRL.out
  clear hh4 hs4
  go_wp2_with fail
  refine hcall.mono ?_
  rintro e w13 ⟨rfl, _, K13⟩
  have B13 := B12.trans (K13.below B12.size (fun k hk => by have := N6.out; omega))
  have X13 : Hid (BoxF w.heap.size (.slice a ns.length c) w13) := X12.out.kept K13 (by have := N6.out; omega)
  have T13 : Hid (OwnI w13 w3.heap.size v6 (rcL ns rs) ∧ OwnI w13 w6.heap.size v10 (rcL ns rs)) := ⟨T12.out.2.1.kept K13 (fun j hj => by have := D6.out j hj; have := N6.out; omega), T12.out.2.2.kept K13 (fun j hj => by have := D10.out j hj; have := N6.out; omega)⟩
  have hneg : ¬ (r12 + (rs.length : Int) < 0) := by omega
  clear K13 B12 X12 T12 hcall
  go_wp2_with fail
  refine (eqI_ownK T13.out.2 T13.out.1 LL.out).mono ?_
  rintro e w14 ⟨rfl, b14⟩
  have B14 := below_step B13 (Nat.le_refl _) b14
  have X14 : Hid (BoxF w.heap.size (.slice a ns.length c) w14) := X13.out.below b14
  have T14 : Hid (OwnI w14 w3.heap.size v6 (rcL ns rs) ∧ OwnI w14 w6.heap.size v10 (rcL ns rs)) := ⟨T13.out.1.below b14, T13.out.2.below b14⟩
  clear b14 B13 X13 T13
  go_wp2_with fail
  refine (markI_ownK T14.out.2 LL.out 1 (by omega) (by omega)).mono ?_
  rintro e w15 ⟨rfl, o15, K15⟩
  have B15 := B14.trans (K15.below B14.size (fun k hk => by have := D10.out k hk; have := N6.out; omega))
  have X15 : Hid (BoxF w.heap.size (.slice a ns.length c) w15) := X14.out.kept K15 (fun hk => by have := D10.out _ hk; have := N6.out; omega)
  have T15 : Hid (OwnI w15 w3.heap.size v6 (rcL ns rs) ∧ OwnI w15 w6.heap.size v10 (marksL 1 (rcL ns rs).length)) := ⟨T14.out.1.kept K15 (fun j hj hk => by have := D6.out j hj; have := D10.out j hk; have := N6.out; omega), o15⟩
  clear K15 B14 X14 T14 o15
  generalize hlen : (rcL ns rs).length = len at *
  have HLn : Hid ((rcL ns rs).length = len) := hlen
  clear hlen
  have hl0 : ¬ ((1 : Int) + (len : Int) < 0) := by omega
  go_wp2_with fail
  refine (heldI_ownK T15.out.2 (by omega) (by omega) LL.out).mono ?_
  rintro e w16 ⟨rfl, hw16⟩
  obtain rfl := hw16.symm
  obtain ⟨y0, _⟩ := X15.out
  go_wp2_with fail
  refine (toF_any a c ns w15 (H.out.1.below B15) LS.out.1 LS.out.2).mono ?_
  rintro e w17 ⟨h6, rfl, g6, S6, b17⟩
  have B17 := below_step B15 (Nat.le_refl _) b17
  have T17 : Hid (OwnI w17 w3.heap.size v6 (rcL ns rs) ∧ OwnI w17 w6.heap.size v10 (marksL 1 len)) := ⟨T15.out.1.below b17, T15.out.2.below b17⟩
  have K17 : Hid (RowN w17 (some ⟨h6, 0, none⟩) ns) := S6.row HT.out LS.out.2
  clear S6 b17 B15 X15 T15 y0 g6
  go_wp2_with fail
  refine (toI_any ra rc rs w17 (H.out.2.below B17) HRL.out).mono ?_
  rintro e w18 ⟨h7, rfl, g7, S7, b18⟩
  have B18 := below_step B17 (Nat.le_refl _) b18
  have T18 : Hid (OwnI w18 w3.heap.size v6 (rcL ns rs) ∧ OwnI w18 w6.heap.size v10 (marksL 1 len)) := ⟨T17.out.1.below b18, T17.out.2.below b18⟩
  have K18 : Hid (RowN w18 (some ⟨h6, 0, none⟩) ns ∧ RowI w18 (some ⟨h7, 0, none⟩) rs) := ⟨K17.out.below b18, S7.row⟩
  clear S7 b18 B17 T17 K17 g7
  have hcl := implReached_any _ _ ns.length rs.length ns rs w18 K18.out.1 K18.out.2 LS.out.1 LS.out.2 HRL.out
  unfold RetR at hcl
  rw [HCD.out] at hcl
  go_wp2_with fail
  refine hcl.mono ?_
  rintro e w19 ⟨v15, rfl, o19, b19⟩
  have B19 := below_step B18 (Nat.le_refl _) b19
  have T19 : Hid (OwnI w19 w3.heap.size v6 (rcL ns rs) ∧ OwnI w19 w6.heap.size v10 (marksL 1 len) ∧ OwnI w19 w18.heap.size v15 (rcL ns rs)) := ⟨T18.out.1.below b19, T18.out.2.below b19, o19⟩
  clear hcl o19 b19 B18 T18 K18
  go_wp2_with fail
  refine (eqI_ownK T19.out.2.2 T19.out.1 (by rw [HLn.out]; exact LL.out)).mono ?_
  rintro e w20 ⟨rfl, b20⟩
  have B20 := below_step B19 (Nat.le_refl _) b20
  have T20 : Hid (OwnI w20 w6.heap.size v10 (marksL 1 len)) := T19.out.2.1.below b20
  clear b20 B19 T19
  go_wp2_with fail
  refine (heldI_ownK T20.out (by omega) (by omega) LL.out).mono ?_
  rintro e w21 ⟨rfl, hw21⟩
  obtain rfl := hw21.symm
  go_wp2
  go_ret
  exact ⟨rfl, B20⟩
end Go.Proofs.Ythflalpapdaidaa
