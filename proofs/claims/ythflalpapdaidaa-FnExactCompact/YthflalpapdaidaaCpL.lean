/- The law on Compact, walked (stage 5). -/
import Derived.Test.YthflalpapdaidaaCpR
import Derived.Test.YthflalpapdaidaaCpD
import Derived.Deep.RegionHeld3
namespace Go.Proofs.Ythflalpapdaidaa
open Go.RowKit

/-- What stands behind the two programs' answers. -/
structure Bun (w U : World) (b6 b9 b11 lo9 h4 lo mid hi : Nat) (a ra a6 a7 a8 a9 : Option Addr) (c c6 c8 c9 h3 : Nat) (ns cf : List Nd) (rs cr : List Int) (W : World) : Prop where
  bU : Below U.heap.size U W
  bw : Below w.heap.size w W
  t2 : BoxF w.heap.size (.slice a ns.length c) W
  t6 : BoxF b6 (.slice a6 cf.length c6) W
  t9 : BoxF b9 (fullS h3 ns.length) W
  t11 : BoxF b11 (.slice a8 cf.length c8) W
  r3 : RowN W (some ⟨h3, 0, none⟩) ns
  shp : ShpN W lo9 b9 h3 ns.length
  ids : SlabI W h4 rs.length rs rs.length
  own : OwnL 3 W lo mid (.slice a9 cr.length c9) (vI cr)
  nod : ForD W mid hi (.slice a8 cf.length c8) cf
theorem Bun.below {w U : World} {b6 b9 b11 lo9 h4 lo mid hi : Nat} {a ra a6 a7 a8 a9 : Option Addr} {c c6 c8 c9 h3 : Nat} {ns cf : List Nd} {rs cr : List Int} {W W' : World} (H : Bun w U b6 b9 b11 lo9 h4 lo mid hi a ra a6 a7 a8 a9 c c6 c8 c9 h3 ns cf rs cr W) (hb : Below W.heap.size W W') : Bun w U b6 b9 b11 lo9 h4 lo mid hi a ra a6 a7 a8 a9 c c6 c8 c9 h3 ns cf rs cr W' :=
  ⟨below_step H.bU (Nat.le_refl _) hb, below_step H.bw (Nat.le_refl _) hb, H.t2.below hb, H.t6.below hb, H.t9.below hb, H.t11.below hb, H.r3.below hb, H.shp.below hb, H.ids.below hb H.ids.lt, H.own.same fun b _ _ q => hb.block b q, H.nod.below hb⟩
/-- What is left of it when the copies of the arguments are marked. -/
structure Bu2 (w U : World) (b6 b11 lo mid hi : Nat) (a a6 : Option Addr) (v8 v9 : Value) (c c6 : Nat) (ns cf cfm : List Nd) (crm : List Int) (W : World) : Prop where
  bU : Below U.heap.size U W
  bw : Below w.heap.size w W
  t2 : BoxF w.heap.size (.slice a ns.length c) W
  t6 : BoxF b6 (.slice a6 cf.length c6) W
  t11 : BoxF b11 v8 W
  own : OwnL 3 W lo mid v9 (vI crm)
  nod : ForD W mid hi v8 cfm
theorem Bu2.below {w U : World} {b6 b11 lo mid hi : Nat} {a a6 : Option Addr} {v8 v9 : Value} {c c6 : Nat} {ns cf cfm : List Nd} {crm : List Int} {W W' : World} (H : Bu2 w U b6 b11 lo mid hi a a6 v8 v9 c c6 ns cf cfm crm W) (hb : Below W.heap.size W W') : Bu2 w U b6 b11 lo mid hi a a6 v8 v9 c c6 ns cf cfm crm W' :=
  ⟨below_step H.bU (Nat.le_refl _) hb, below_step H.bw (Nat.le_refl _) hb, H.t2.below hb, H.t6.below hb, H.t11.below hb, H.own.same fun b _ _ q => hb.block b q, H.nod.below hb⟩
theorem Bu2.upd {w U : World} {b6 b11 lo mid hi : Nat} {a a6 : Option Addr} {v8 v9 : Value} {c c6 : Nat} {ns cf cfm cfm' : List Nd} {crm crm' : List Int} {W W' : World} {S : Nat → Prop} (H : Bu2 w U b6 b11 lo mid hi a a6 v8 v9 c c6 ns cf cfm crm W) (hK : Kept S W W') (hU : ∀ b, S b → U.heap.size ≤ b) (h11 : ¬ S b11) (hw : w.heap.size < U.heap.size) (h6 : b6 < U.heap.size)
    (ho : OwnL 3 W' lo mid v9 (vI crm')) (hn : ForD W' mid hi v8 cfm') : Bu2 w U b6 b11 lo mid hi a a6 v8 v9 c c6 ns cf cfm' crm' W' :=
  ⟨H.bU.trans (hK.below H.bU.size hU), H.bw.trans (hK.below H.bw.size fun k hk => by have := hU k hk; omega), H.t2.kept hK fun h => by have := hU _ h; omega, H.t6.kept hK fun h => by have := hU _ h; omega, H.t11.kept hK h11, ho, hn⟩
set_option maxRecDepth 100000 in
set_option maxHeartbeats 16000000 in
theorem lawCompact (a ra : Option Addr) (c rc : Nat) (ns : List Nd) (rs : List Int) (w : World) (h : RowN w a ns) (hr : RowI w ra rs) (m : ns.length ≤ maxLen) (mr : rs.length ≤ maxLen) :
    Calls Try.prog 13 #[FV (.slice a ns.length c), .slice ra rs.length rc] w fun e w' => e = .returned (.bool true) ∧ Below w.heap.size w w' := by
  have H : Hid (RowN w a ns ∧ RowI w ra rs) := ⟨h, hr⟩
  have M : Hid (ns.length ≤ maxLen) := m
  have HT : Hid (TextsN ns) := h.texts
  clear h hr m
  unfold maxLen at mr
  have B0 : Below w.heap.size w (w.alloc (.cells #[.slice a ns.length c] 55)) := (Below.refl _ _).alloc (Nat.le_refl _) _
  have X0 : Hid (BoxF w.heap.size (.slice a ns.length c) (w.alloc (.cells #[.slice a ns.length c] 55))) := BoxF.new 55
  by_cases hbig : (1048576 : Int) < (rs.length : Int)
  · go_enter Try.func13, Try.ntmps13
    go_wp2
    go_ret
    exact ⟨rfl, B0⟩
  have HRL : Hid (rs.length ≤ 1048576) := by show _ ≤ _; omega
  go_enter Try.func13, Try.ntmps13
  go_wp2_with fail
  refine (szF_any a c ns 1048576 _ (H.out.1.below B0) M.out (by omega) (by omega)).mono ?_
  rintro e w1 ⟨x, rfl, x0, x1, x2, b1⟩
  have B1 := B0.trans (b1.mono B0.size)
  have Y1 := X0.out.below b1
  clear B0 X0 b1
  by_cases hx : x < 0
  · clear x2 Y1
    go_wp2
    go_ret
    exact ⟨rfl, B1⟩
  have LS : Hid (ns.length ≤ 1048576 ∧ ∀ i, i < ns.length → SmallN (nthN ns i)) := by
    obtain ⟨p, q⟩ := x2 (by omega)
    exact ⟨by omega, q⟩
  have LC : Hid ((cmF ns rs).length ≤ 1048576 ∧ (∀ i, i < (cmF ns rs).length → SmallN (nthN (cmF ns rs) i)) ∧ TextsN (cmF ns rs) ∧ (cmR ns rs).length ≤ 1048576) := ⟨Nat.le_trans (cmF_len _ _) LS.out.1, cmF_small LS.out.2, cmF_texts HT.out, Nat.le_trans (cmR_len _ _) HRL.out⟩
  have HSP : Hid (∀ a0 ra0 c0 d0 W, RowZ W a0 ns → RowI W ra0 rs → Calls Try.prog 32 #[FV (.slice a0 ns.length c0), .slice ra0 rs.length d0] W fun e w' => ∃ a c a2 c2, e = .returned (.tuple #[.agg #[.slice a (cmF ns rs).length c], .slice a2 (cmR ns rs).length c2, .int .i64 (rtC ns rs)]) ∧ RowN w' a (cmF ns rs) ∧ RowI w' a2 (cmR ns rs) ∧ Below W.heap.size W w') := fun a0 ra0 c0 d0 W p q => specCompact_any a0 ra0 c0 d0 ns rs W p q LS.out.1 LS.out.2 HRL.out
  have HIM : Hid (∀ a0 ra0 c0 d0 W, RowN W a0 ns → RowI W ra0 rs → Calls Try.prog 31 #[FV (.slice a0 ns.length c0), .slice ra0 rs.length d0] W fun e w' => ∃ a c a2 c2 mid, e = .returned (.tuple #[.agg #[.slice a (cmF ns rs).length c], .slice a2 (cmR ns rs).length c2, .int .i64 (rtC ns rs)]) ∧ W.heap.size ≤ mid ∧ mid ≤ w'.heap.size ∧ OwnL 3 w' W.heap.size mid (.slice a2 (cmR ns rs).length c2) (vI (cmR ns rs)) ∧ ForD w' mid w'.heap.size (.slice a (cmF ns rs).length c) (cmF ns rs) ∧ Below W.heap.size W w') := fun a0 ra0 c0 d0 W p q => (implCompact_any a0 ra0 c0 d0 ns rs W p q LS.out.1 LS.out.2 HRL.out).mono (by
    rintro e w' ⟨a, n, c, a2, n2, c2, mid, rfl, m1, m2, o, f, b⟩
    obtain ⟨_, _, e1, _⟩ := f.row LC.out.2.2.1 LC.out.2.1
    obtain ⟨_, _, e2, _⟩ := o.rowI
    simp only [Value.slice.injEq] at e1 e2
    obtain ⟨_, rfl, _⟩ := e1
    obtain ⟨_, rfl, _⟩ := e2
    exact ⟨a, c, a2, c2, mid, rfl, m1, m2, o, f, b⟩)
  generalize rtC ns rs = code at *
  generalize cmF ns rs = cf at *
  generalize cmR ns rs = cr at *
  have HFR : Hid (∀ {W lo hi a c}, ForD W lo hi (.slice a cf.length c) cf → RowN W a cf) := fun f => by
    obtain ⟨_, _, e1, r⟩ := f.row LC.out.2.2.1 LC.out.2.1
    simp only [Value.slice.injEq] at e1
    rw [e1.1]
    exact r
  have HOR : Hid (∀ {W lo hi a c}, OwnL 3 W lo hi (.slice a cr.length c) (vI cr) → RowI W a cr) := fun f => by
    obtain ⟨_, _, e1, r⟩ := f.rowI
    simp only [Value.slice.injEq] at e1
    rw [e1.1]
    exact r
  clear x2 hbig mr
  have X1 : Hid (BoxF w.heap.size (.slice a ns.length c) w1) := Y1
  obtain ⟨y0, _⟩ := Y1
  go_wp2_with fail
  refine (toF_any a c ns w1 (H.out.1.below B1) LS.out.1 LS.out.2).mono ?_
  rintro e w2 ⟨h1, rfl, g1, S1, b2⟩
  have B2 := below_step B1 (Nat.le_refl _) b2
  have X2 : Hid (BoxF w.heap.size (.slice a ns.length c) w2) := X1.out.below b2
  have K1 : Hid (RowZ w2 (some ⟨h1, 0, none⟩) ns) := S1.rowZ HT.out LS.out.2
  clear S1 b2 B1 X1 y0 g1
  go_wp2_with fail
  refine (toI_any ra rc rs w2 (H.out.2.below B2) HRL.out).mono ?_
  rintro e w3 ⟨h2, rfl, g2, S2, b3⟩
  have B3 := below_step B2 (Nat.le_refl _) b3
  have X3 : Hid (BoxF w.heap.size (.slice a ns.length c) w3) := X2.out.below b3
  have K3 : Hid (RowZ w3 (some ⟨h1, 0, none⟩) ns ∧ RowI w3 (some ⟨h2, 0, none⟩) rs) := ⟨K1.out.below b3, S2.row⟩
  clear S2 b3 B2 X2 K1 g2
  go_wp2_with fail
  refine (HSP.out _ _ _ _ w3 K3.out.1 K3.out.2).mono ?_
  rintro e w4 ⟨a6, c6, a7, c7, rfl, r6, i7, b4⟩
  have A4 : Below w4.heap.size w4 (w4.alloc (.cells #[.slice a6 cf.length c6] 25)) := (Below.refl _ _).alloc (Nat.le_refl _) _
  have B4 := below_step (below_step B3 (Nat.le_refl _) b4) (Nat.le_refl _) A4
  have X4 : Hid (BoxF w.heap.size (.slice a ns.length c) (w4.alloc (.cells #[.slice a6 cf.length c6] 25)) ∧ BoxF w4.heap.size (.slice a6 cf.length c6) (w4.alloc (.cells #[.slice a6 cf.length c6] 25))) := ⟨(X3.out.below b4).below A4, BoxF.new 25⟩
  have K4 : Hid (RowN (w4.alloc (.cells #[.slice a6 cf.length c6] 25)) a6 cf ∧ RowI (w4.alloc (.cells #[.slice a6 cf.length c6] 25)) a7 cr) := ⟨r6.below A4, i7.below A4⟩
  have y0 := X4.out.1.1
  clear r6 i7 b4 B3 X3 K3 A4 HSP
  generalize hU : w4.alloc (.cells #[.slice a6 cf.length c6] 25) = U at *
  go_wp2_with fail
  refine (toF_any a c ns U (H.out.1.below B4) LS.out.1 LS.out.2).mono ?_
  rintro e w5 ⟨h3, rfl, g3, S3, b5⟩
  have hUU : Below U.heap.size U U := Below.refl _ _
  have A5 : Below w5.heap.size w5 (w5.alloc (.cells #[fullS h3 ns.length] 25)) := (Below.refl _ _).alloc (Nat.le_refl _) _
  have B5 := below_step (below_step B4 (Nat.le_refl _) b5) (Nat.le_refl _) A5
  have C5 : Hid (Below U.heap.size U (w5.alloc (.cells #[fullS h3 ns.length] 25)) ∧ w.heap.size < U.heap.size ∧ w4.heap.size < U.heap.size) := ⟨below_step b5 (Nat.le_refl _) A5, X4.out.1.2, X4.out.2.2⟩
  have Z5 : Hid (BoxF w5.heap.size (fullS h3 ns.length) (w5.alloc (.cells #[fullS h3 ns.length] 25))) := BoxF.new 25
  have P5 : Hid (ShpN (w5.alloc (.cells #[fullS h3 ns.length] 25)) U.heap.size w5.heap.size h3 ns.length) := (S3.shp g3 LS.out.2).below A5
  have K5 : Hid (RowN (w5.alloc (.cells #[fullS h3 ns.length] 25)) (some ⟨h3, 0, none⟩) ns) := (S3.row HT.out LS.out.2).below A5
  have N5 : Hid (U.heap.size ≤ w5.heap.size ∧ (w5.alloc (.cells #[fullS h3 ns.length] 25)).heap.size = w5.heap.size + 1) := ⟨b5.size, by simp⟩
  clear S3 b5 A5 B4 y0 g3 hUU hU
  generalize hW5 : w5.alloc (.cells #[fullS h3 ns.length] 25) = W5 at *
  go_wp2_with fail
  refine (toI_any ra rc rs W5 (H.out.2.below B5) HRL.out).mono ?_
  rintro e w6 ⟨h4, rfl, g4, S4, b6⟩
  have B6 := below_step B5 (Nat.le_refl _) b6
  have C6 : Hid (Below U.heap.size U w6) := below_step C5.out.1 (Nat.le_refl _) b6
  have Y6 := Z5.out.below b6
  have Z6 : Hid (BoxF w5.heap.size (fullS h3 ns.length) w6) := Y6
  have P6 : Hid (ShpN w6 U.heap.size w5.heap.size h3 ns.length) := P5.out.below b6
  have K6 : Hid (RowN w6 (some ⟨h3, 0, none⟩) ns ∧ RowI w6 (some ⟨h4, 0, none⟩) rs) := ⟨K5.out.below b6, S4.row⟩
  have I6 : Hid (SlabI w6 h4 rs.length rs rs.length) := S4
  have N6 : Hid (U.heap.size ≤ w5.heap.size ∧ w5.heap.size < h4 ∧ h4 < w6.heap.size ∧ w.heap.size < U.heap.size ∧ w4.heap.size < U.heap.size) := ⟨N5.out.1, by have := N5.out.2; omega, S4.lt, C5.out.2.1, C5.out.2.2⟩
  obtain ⟨y0, _⟩ := Y6
  clear S4 b6 B5 C5 Z5 P5 K5 N5 g4 hW5
  go_wp2_with fail
  refine (HIM.out _ _ _ _ w6 K6.out.1 K6.out.2).mono ?_
  rintro e w7 ⟨a8, c8, a9, c9, mid, rfl, m1, m2, o9, f8, b7⟩
  have A7 : Below w7.heap.size w7 (w7.alloc (.cells #[.slice a8 cf.length c8] 25)) := (Below.refl _ _).alloc (Nat.le_refl _) _
  have B67 := below_step b7 (Nat.le_refl _) A7
  have HV : Hid (Bun w U w4.heap.size w5.heap.size w7.heap.size U.heap.size h4 w6.heap.size mid w7.heap.size a ra a6 a7 a8 a9 c c6 c8 c9 h3 ns cf rs cr (w7.alloc (.cells #[.slice a8 cf.length c8] 25))) :=
    ⟨below_step C6.out (Nat.le_refl _) B67, below_step B6 (Nat.le_refl _) B67, ((X4.out.1.below C6.out).below B67), ((X4.out.2.below C6.out).below B67), Z6.out.below B67, BoxF.new 25, K6.out.1.below B67, P6.out.below B67, I6.out.below B67 I6.out.lt, (o9.same fun b _ _ q => A7.block b q), f8.below A7⟩
  have N7 : Hid (U.heap.size ≤ w5.heap.size ∧ w5.heap.size < h4 ∧ h4 < w6.heap.size ∧ w.heap.size < U.heap.size ∧ w4.heap.size < U.heap.size ∧ w6.heap.size ≤ mid ∧ mid ≤ w7.heap.size) := ⟨N6.out.1, N6.out.2.1, N6.out.2.2.1, N6.out.2.2.2.1, N6.out.2.2.2.2, m1, m2⟩
  have R4 : Hid (∀ W, Below U.heap.size U W → RowN W a6 cf ∧ RowI W a7 cr) := fun W hW => ⟨K4.out.1.below hW, K4.out.2.below hW⟩
  have y11 := HV.out.t11.1
  have y6 := HV.out.t6.1
  clear m1 m2 o9 f8 b7 A7 B67 B6 C6 Z6 P6 K6 I6 N6 X4 K4 y0
  generalize hV : w7.alloc (.cells #[.slice a8 cf.length c8] 25) = V at *
  go_wp2_with fail
  refine (eqF_same _ _ _ _ cf V (HFR.out HV.out.nod) (R4.out V HV.out.bU).1 LC.out.1 LC.out.2.1).mono ?_
  rintro e w8 ⟨rfl, b8⟩
  have HV8 : Hid (Bun w U w4.heap.size w5.heap.size w7.heap.size U.heap.size h4 w6.heap.size mid w7.heap.size a ra a6 a7 a8 a9 c c6 c8 c9 h3 ns cf rs cr w8) := HV.out.below b8
  clear b8 HV y11 y6 hV
  go_wp2_with fail
  refine (eqI_same _ _ _ _ cr w8 (HOR.out HV8.out.own) (R4.out w8 HV8.out.bU).2 LC.out.2.2.2).mono ?_
  rintro e w9 ⟨rfl, b9⟩
  have HV9 : Hid (Bun w U w4.heap.size w5.heap.size w7.heap.size U.heap.size h4 w6.heap.size mid w7.heap.size a ra a6 a7 a8 a9 c c6 c8 c9 h3 ns cf rs cr w9) := HV8.out.below b9
  clear b9 HV8
  have hL : TwR w w9 w.heap.size w5.heap.size a c h3 ns w9.drew := (show TwR w w9 w.heap.size w5.heap.size a c h3 ns w9 from ⟨HV9.out.t2, HV9.out.t9, H.out.1.below HV9.out.bw, HV9.out.r3, HV9.out.bw, Below.refl _ _⟩).keep (Below.refl _ _).drew
  go_wp2_with fail
  go_region_held3 (TwR w w9 w.heap.size w5.heap.size a c h3 ns) (first | exact hL | exact TwR.keep (by assumption) hb)
    (first | (go_at_call 36; refine (toF_any a c ns _ (show TwR w w9 w.heap.size w5.heap.size a c h3 ns _ by assumption).2.2.1 LS.out.1 LS.out.2).mono ?_; rintro r wA ⟨k1, rfl, _, S1, hb⟩)
           | (go_at_call 37; refine (eqF_same _ _ _ _ ns _ (show TwR w w9 w.heap.size w5.heap.size a c h3 ns _ by assumption).2.2.2.1 (S1.row HT.out LS.out.2) LS.out.1 LS.out.2).mono ?_; rintro r wA ⟨rfl, hb⟩))
  rename_i hLL
  have HV10 : Hid (Bun w U w4.heap.size w5.heap.size w7.heap.size U.heap.size h4 w6.heap.size mid w7.heap.size a ra a6 a7 a8 a9 c c6 c8 c9 h3 ns cf rs cr _) := HV9.out.below hLL.2.2.2.2.2
  clear hL hLL HV9
  go_wp2_with fail
  refine (toI_any ra rc rs _ (H.out.2.below HV10.out.bw) HRL.out).mono ?_
  rintro e w10 ⟨h5, rfl, g5, S5, b10⟩
  have HV11 : Hid (Bun w U w4.heap.size w5.heap.size w7.heap.size U.heap.size h4 w6.heap.size mid w7.heap.size a ra a6 a7 a8 a9 c c6 c8 c9 h3 ns cf rs cr w10) := HV10.out.below b10
  have R10 : Hid (RowI w10 (some ⟨h5, 0, none⟩) rs) := S5.row
  clear S5 b10 HV10 g5
  go_wp2_with fail
  refine (eqI_same _ _ _ _ rs w10 HV11.out.ids.row R10.out HRL.out).mono ?_
  rintro e w11 ⟨rfl, b11⟩
  have HV12 : Hid (Bun w U w4.heap.size w5.heap.size w7.heap.size U.heap.size h4 w6.heap.size mid w7.heap.size a ra a6 a7 a8 a9 c c6 c8 c9 h3 ns cf rs cr w11) := HV11.out.below b11
  have z0 := HV12.out.t9.1
  clear b11 HV11 R10
  go_wp2_with fail
  refine (markF_any h3 ns.length U.heap.size w5.heap.size 1 w11 HV12.out.shp LS.out.1 (by omega) (by omega)).mono ?_
  rintro e w12 ⟨r12, rfl, q0, q1, K12⟩
  have HB12 : Hid (Bu2 w U w4.heap.size w7.heap.size w6.heap.size mid w7.heap.size a a6 (.slice a8 cf.length c8) (.slice a9 cr.length c9) c c6 ns cf cf cr w12) := (Bu2.mk (b6 := w4.heap.size) HV12.out.bU HV12.out.bw HV12.out.t2 HV12.out.t6 HV12.out.t11 HV12.out.own HV12.out.nod).upd K12 (fun b hb => by omega) (by have := N7.out; omega) N7.out.2.2.2.1 N7.out.2.2.2.2.1 (HV12.out.own.same fun b p _ q => K12.block b q (by have := N7.out; omega)) (HV12.out.nod.kept K12 fun b p _ => by have := N7.out; omega)
  have I12 : Hid (SlabI w12 h4 rs.length rs rs.length) := by
    obtain ⟨cur, hh, r⟩ := HV12.out.ids
    exact ⟨cur, (K12.block h4 (slab_lt hh) (by have := N7.out; omega)).trans hh, r⟩
  have hr12 : r12 ≤ 4194304000001 := by have := LS.out.1; omega
  clear K12 HV12 z0 q1
  obtain ⟨cur4, hh4, hs4, _⟩ := I12.out
  have hcall := markI_slab h4 rs.length rs.length rs.length cur4 r12 w12 hh4 hs4 (Nat.le_refl _) q0 (by omega) HRL.out
  clear hh4 hs4
  go_wp2_with fail
  refine hcall.mono ?_
  rintro e w13 ⟨rfl, _, K13⟩
  have HB13 : Hid (Bu2 w U w4.heap.size w7.heap.size w6.heap.size mid w7.heap.size a a6 (.slice a8 cf.length c8) (.slice a9 cr.length c9) c c6 ns cf cf cr w13) := HB12.out.upd K13 (fun b hb => by have := N7.out; omega) (by have := N7.out; omega) N7.out.2.2.2.1 N7.out.2.2.2.2.1 (HB12.out.own.same fun b p _ q => K13.block b q (by have := N7.out; omega)) (HB12.out.nod.kept K13 fun b p _ => by have := N7.out; omega)
  have hneg : ¬ (r12 + (rs.length : Int) < 0) := by omega
  have y11 := HB13.out.t11.1
  have y6 := HB13.out.t6.1
  clear K13 HB12 hcall I12
  go_wp2_with fail
  refine (eqF_same _ _ _ _ cf w13 (HFR.out HB13.out.nod) (R4.out w13 HB13.out.bU).1 LC.out.1 LC.out.2.1).mono ?_
  rintro e w14 ⟨rfl, b14⟩
  have HB14 : Hid (Bu2 w U w4.heap.size w7.heap.size w6.heap.size mid w7.heap.size a a6 (.slice a8 cf.length c8) (.slice a9 cr.length c9) c c6 ns cf cf cr w14) := HB13.out.below b14
  clear b14 HB13 y11 y6
  go_wp2_with fail
  refine (eqI_same _ _ _ _ cr w14 (HOR.out HB14.out.own) (R4.out w14 HB14.out.bU).2 LC.out.2.2.2).mono ?_
  rintro e w15 ⟨rfl, b15⟩
  have HB15 : Hid (Bu2 w U w4.heap.size w7.heap.size w6.heap.size mid w7.heap.size a a6 (.slice a8 cf.length c8) (.slice a9 cr.length c9) c c6 ns cf cf cr w15) := HB14.out.below b15
  have y11 := HB15.out.t11.1
  clear b15 HB14
  have hMF := markF_exact 1 HB15.out.nod LC.out.1 LC.out.2.1 (by omega) (by omega)
  have HHF : Hid (∀ W, ForD W mid w7.heap.size (.slice a8 cf.length c8) (labF cf 1) → Calls Try.prog 41 #[FV (.slice a8 cf.length c8), .int .i64 1] W fun e w' => e = .returned (.int .i64 (1 + szTo cf cf.length)) ∧ Below W.heap.size W w') := fun W hW => heldF_exact 1 hW LC.out.1 LC.out.2.1 (by omega) (by omega)
  have hz := szTo_le LC.out.2.1 cf.length (Nat.le_refl _)
  have hcl := LC.out.1
  generalize szTo cf cf.length = z at *
  have hzb : z ≤ 3298535931904 := by omega
  have hz0 : ¬ (1 + (z : Int) < 0) := by omega
  clear hz hcl
  go_wp2_with fail
  refine hMF.mono ?_
  rintro e w16 ⟨rfl, f16, K16⟩
  have HB16 : Hid (Bu2 w U w4.heap.size w7.heap.size w6.heap.size mid w7.heap.size a a6 (.slice a8 cf.length c8) (.slice a9 cr.length c9) c c6 ns cf (labF cf 1) cr w16) := HB15.out.upd K16 (fun b hb => by have := N7.out; omega) (by have := N7.out; omega) N7.out.2.2.2.1 N7.out.2.2.2.2.1 (HB15.out.own.same fun b _ p q => K16.block b q (by omega)) f16
  clear f16 K16 HB15 hMF y11
  have hMI := markI_own (1 + (z : Int)) HB16.out.own LC.out.2.2.2 (by omega) (by omega)
  have HHI : Hid (∀ W, OwnL 3 W w6.heap.size mid (.slice a9 cr.length c9) (vI (marksL (1 + (z : Int)) cr.length)) → Calls Try.prog 48 #[.slice a9 cr.length c9, .int .i64 (1 + (z : Int))] W fun e w' => e = .returned (.int .i64 (1 + (z : Int) + cr.length)) ∧ w' = W) := fun W hW => heldI_own hW LC.out.2.2.2 (by omega) (by omega)
  have hn0 : ¬ (1 + (z : Int) + (cr.length : Int) < 0) := by omega
  go_wp2_with fail
  refine hMI.mono ?_
  rintro e w17 ⟨rfl, o17, K17⟩
  have HB17 : Hid (Bu2 w U w4.heap.size w7.heap.size w6.heap.size mid w7.heap.size a a6 (.slice a8 cf.length c8) (.slice a9 cr.length c9) c c6 ns cf (labF cf 1) (marksL (1 + (z : Int)) cr.length) w17) := HB16.out.upd K17 (fun b hb => by have := N7.out; omega) (by have := N7.out; omega) N7.out.2.2.2.1 N7.out.2.2.2.2.1 o17 (HB16.out.nod.kept K17 fun b p _ => by omega)
  have y11 := HB17.out.t11.1
  clear o17 K17 HB16 hMI
  go_wp2_with fail
  refine (HHF.out w17 HB17.out.nod).mono ?_
  rintro e w18 ⟨rfl, b18⟩
  have HB18 : Hid (Bu2 w U w4.heap.size w7.heap.size w6.heap.size mid w7.heap.size a a6 (.slice a8 cf.length c8) (.slice a9 cr.length c9) c c6 ns cf (labF cf 1) (marksL (1 + (z : Int)) cr.length) w18) := HB17.out.below b18
  clear b18 HB17 y11
  go_wp2_with fail
  refine (HHI.out w18 HB18.out.own).mono ?_
  rintro e w18' ⟨rfl, hw18⟩
  obtain rfl := hw18.symm
  have y0 := HB18.out.t2.1
  go_wp2_with fail
  refine (toF_any a c ns w18 (H.out.1.below HB18.out.bw) LS.out.1 LS.out.2).mono ?_
  rintro e w19 ⟨h6, rfl, g6, S6, b19⟩
  have HB19 : Hid (Bu2 w U w4.heap.size w7.heap.size w6.heap.size mid w7.heap.size a a6 (.slice a8 cf.length c8) (.slice a9 cr.length c9) c c6 ns cf (labF cf 1) (marksL (1 + (z : Int)) cr.length) w19) := HB18.out.below b19
  have K19 : Hid (RowN w19 (some ⟨h6, 0, none⟩) ns) := S6.row HT.out LS.out.2
  clear S6 b19 HB18 y0 g6
  go_wp2_with fail
  refine (toI_any ra rc rs w19 (H.out.2.below HB19.out.bw) HRL.out).mono ?_
  rintro e w20 ⟨h7, rfl, g7, S7, b20⟩
  have HB20 : Hid (Bu2 w U w4.heap.size w7.heap.size w6.heap.size mid w7.heap.size a a6 (.slice a8 cf.length c8) (.slice a9 cr.length c9) c c6 ns cf (labF cf 1) (marksL (1 + (z : Int)) cr.length) w20) := HB19.out.below b20
  have K20 : Hid (RowN w20 (some ⟨h6, 0, none⟩) ns ∧ RowI w20 (some ⟨h7, 0, none⟩) rs) := ⟨K19.out.below b20, S7.row⟩
  clear S7 b20 HB19 K19 g7
  go_wp2_with fail
  refine (HIM.out _ _ _ _ w20 K20.out.1 K20.out.2).mono ?_
  rintro e w21 ⟨a10, c10, a11, c11, mid2, rfl, m1, m2, o21, f21, b21⟩
  have A21 : Below w21.heap.size w21 (w21.alloc (.cells #[.slice a10 cf.length c10] 25)) := (Below.refl _ _).alloc (Nat.le_refl _) _
  have HB22 : Hid (Bu2 w U w4.heap.size w7.heap.size w6.heap.size mid w7.heap.size a a6 (.slice a8 cf.length c8) (.slice a9 cr.length c9) c c6 ns cf (labF cf 1) (marksL (1 + (z : Int)) cr.length) (w21.alloc (.cells #[.slice a10 cf.length c10] 25))) := (HB20.out.below b21).below A21
  have X22 : Hid (BoxF w21.heap.size (.slice a10 cf.length c10) (w21.alloc (.cells #[.slice a10 cf.length c10] 25))) := BoxF.new 25
  have R22 : Hid (RowN (w21.alloc (.cells #[.slice a10 cf.length c10] 25)) a10 cf ∧ RowI (w21.alloc (.cells #[.slice a10 cf.length c10] 25)) a11 cr) := ⟨(HFR.out f21).below A21, (HOR.out o21).below A21⟩
  have y17 := X22.out.1
  have y6 := HB22.out.t6.1
  clear m1 m2 o21 f21 b21 A21 HB20 K20
  generalize hV2 : w21.alloc (.cells #[.slice a10 cf.length c10] 25) = V2 at *
  go_wp2_with fail
  refine (eqF_same _ _ _ _ cf V2 R22.out.1 (R4.out V2 HB22.out.bU).1 LC.out.1 LC.out.2.1).mono ?_
  rintro e w23 ⟨rfl, b23⟩
  have HB23 : Hid (Bu2 w U w4.heap.size w7.heap.size w6.heap.size mid w7.heap.size a a6 (.slice a8 cf.length c8) (.slice a9 cr.length c9) c c6 ns cf (labF cf 1) (marksL (1 + (z : Int)) cr.length) w23 ∧ RowI w23 a11 cr) := ⟨HB22.out.below b23, R22.out.2.below b23⟩
  clear b23 HB22 R22 X22 y17 y6 hV2
  go_wp2_with fail
  refine (eqI_same _ _ _ _ cr w23 HB23.out.2 (R4.out w23 HB23.out.1.bU).2 LC.out.2.2.2).mono ?_
  rintro e w24 ⟨rfl, b24⟩
  have HB24 : Hid (Bu2 w U w4.heap.size w7.heap.size w6.heap.size mid w7.heap.size a a6 (.slice a8 cf.length c8) (.slice a9 cr.length c9) c c6 ns cf (labF cf 1) (marksL (1 + (z : Int)) cr.length) w24) := HB23.out.1.below b24
  have y11 := HB24.out.t11.1
  clear b24 HB23
  go_wp2_with fail
  refine (HHF.out w24 HB24.out.nod).mono ?_
  rintro e w25 ⟨rfl, b25⟩
  have HB25 : Hid (Bu2 w U w4.heap.size w7.heap.size w6.heap.size mid w7.heap.size a a6 (.slice a8 cf.length c8) (.slice a9 cr.length c9) c c6 ns cf (labF cf 1) (marksL (1 + (z : Int)) cr.length) w25) := HB24.out.below b25
  clear b25 HB24 y11
  go_wp2_with fail
  refine (HHI.out w25 HB25.out.own).mono ?_
  rintro e w26 ⟨rfl, hw26⟩
  obtain rfl := hw26.symm
  have HBW : Hid (Below w.heap.size w w25) := HB25.out.bw
  clear HB25
  go_wp2
  go_ret
  exact ⟨rfl, HBW.out⟩
end Go.Proofs.Ythflalpapdaidaa
