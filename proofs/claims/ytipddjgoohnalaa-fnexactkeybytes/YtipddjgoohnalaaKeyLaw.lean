/- The law KeyBytes, walked. -/
import Derived.Test.YtipddjgoohnalaaKeyE
namespace Go.Proofs.Ytipddjgoohnalaa
open Go.RowKit

set_option maxRecDepth 100000 in
set_option maxHeartbeats 8000000 in
theorem lawKeyBytes (a : Option Addr) (cap : Nat) (vs : List V3) (w : World) (hrow : RowV w a vs) (hl : vs.length ≤ maxLen) :
    Calls Try.prog 9 #[.slice a vs.length cap] w fun e w' => e = .returned (.bool true) ∧ Below w.heap.size w w' := by
  have H0 : Hid (RowV w a vs) := hrow
  have HM : Hid (vs.length ≤ maxLen) := hl
  clear hrow hl
  go_enter Try.func9, Try.ntmps9
  go_wp2_with fail
  refine (szS_any a cap vs _ w H0.out HM.out (by omega) (by omega)).mono ?_
  rintro e w1 ⟨x, rfl, x0, x1, x2, hb1⟩
  by_cases hx : x < 0
  · clear x2
    go_wp2
    go_ret
    exact ⟨rfl, hb1⟩
  have g0 : Hid (vs.length ≤ 1048576) := by have := x2 (by omega); show _ ≤ _; omega
  clear x2
  -- spec's answer
  go_wp2_with fail
  refine (toS_row a cap vs w1 (H0.out.below hb1) g0.out).mono ?_
  rintro e w2 ⟨p0, rfl, R0, hb2⟩
  have B2 := below_step hb1 (Nat.le_refl _) hb2
  have K0 : Hid (RowV w2 (some ⟨p0, 0, none⟩) vs) := R0
  clear R0 hb2 hb1
  go_wp2_with fail
  refine (specKeyBytes_any _ _ vs w2 K0.out g0.out).mono ?_
  rintro e w3 ⟨a4, c4, rfl, R4, hb3⟩
  have B3 := below_step B2 (Nat.le_refl _) hb3
  have HR4 : Hid (ReadB w3 a4 (keyN vs) (byteVal (encKey vs))) := R4
  clear R4 hb3 B2 K0
  obtain ⟨n, hn⟩ : ∃ n, keyN vs = n := ⟨_, rfl⟩
  have HNN : Hid (keyN vs = n) := hn
  have hnle : n ≤ 4194304 := by rw [← hn]; exact keyN_le vs
  rw [hn]
  clear hn
  obtain ⟨code, hcd⟩ : ∃ code, rowCode vs = code := ⟨_, rfl⟩
  have HD : Hid (rowCode vs = code) := hcd
  rw [hcd]
  clear hcd
  have HR : Hid (ReadB w3 a4 n (byteVal (encKey vs))) := by show ReadB _ _ _ _; rw [← HNN.out]; exact HR4.out
  clear HR4
  -- impl's answer
  go_wp2_with fail
  refine (toS_any a cap vs w3 (H0.out.below B3) g0.out).mono ?_
  rintro e w4 ⟨g6, rfl, hg6, S6, hb4⟩
  have B4 := below_step B3 (Nat.le_refl _) hb4
  have HS6 : Hid (SlabK w4 g6 vs.length vs vs.length) := S6
  have HR' : Hid (ReadB w4 a4 n (byteVal (encKey vs))) := HR.out.below hb4
  have G6 : Hid (w3.heap.size ≤ g6) := hg6
  clear S6 hb4 hg6
  go_wp2_with fail
  refine (implKeyBytes_any _ _ vs w4 (HS6.out.row H0.out.size) g0.out).mono ?_
  rintro e w5 ⟨a7, c7, rfl, hnew, hown, hb5⟩
  rw [HNN.out] at hnew hown ⊢
  rw [HD.out]
  have B5 := below_step B4 (Nat.le_refl _) hb5
  have HW : Hid (NewB w4.heap.size a7 n) := hnew
  have HO : Hid (OwnB w5 a7 n (byteVal (encKey vs))) := hown
  have HS : Hid (SlabK w5 g6 vs.length vs vs.length) := HS6.out.below hb5 HS6.out.lt
  have HQ : Hid (ReadB w5 a4 n (byteVal (encKey vs))) := HR'.out.below hb5
  have L6 : Hid (g6 < w4.heap.size) := HS6.out.lt
  have B3' : Hid (Below w.heap.size w w3) := B3
  have B4' : Hid (Below w.heap.size w w4) := B4
  clear hnew hown hb5 HS6 HR' B3 B4
  go_wp2_with fail
  refine (eqB_same a7 a4 _ _ n (byteVal (encKey vs)) w5 HO.out.read HQ.out hnle).mono ?_
  rintro e w6 ⟨rfl, hb6⟩
  have B6 := below_step B5 (Nat.le_refl _) hb6
  have HO6 : Hid (OwnB w6 a7 n (byteVal (encKey vs))) := HO.out.below hb6
  have HS6 : Hid (SlabK w6 g6 vs.length vs vs.length) := HS.out.below hb6 HS.out.lt
  have HQ6 : Hid (ReadB w6 a4 n (byteVal (encKey vs))) := HQ.out.below hb6
  clear HO HS HQ hb6 B5
  -- the argument is as it was
  go_wp2_with fail
  refine (toS_row a cap vs w6 (H0.out.below B6) g0.out).mono ?_
  rintro e w7 ⟨s0, rfl, R7, hb7⟩
  have B7 := below_step B6 (Nat.le_refl _) hb7
  have HO7 : Hid (OwnB w7 a7 n (byteVal (encKey vs))) := HO6.out.below hb7
  have HS7 : Hid (SlabK w7 g6 vs.length vs vs.length) := HS6.out.below hb7 HS6.out.lt
  have HQ7 : Hid (ReadB w7 a4 n (byteVal (encKey vs))) := HQ6.out.below hb7
  have M7 : Hid (RowV w7 (some ⟨s0, 0, none⟩) vs) := R7
  clear HO6 HS6 HQ6 hb7 B6 R7
  go_wp2_with fail
  refine (eqS_same _ _ _ _ vs w7 (HS7.out.row H0.out.size) M7.out g0.out).mono ?_
  rintro e w8 ⟨rfl, hb8⟩
  have B8 := below_step B7 (Nat.le_refl _) hb8
  have HO8 : Hid (OwnB w8 a7 n (byteVal (encKey vs))) := HO7.out.below hb8
  have HS8 : Hid (SlabK w8 g6 vs.length vs vs.length) := HS7.out.below hb8 HS7.out.lt
  have HQ8 : Hid (ReadB w8 a4 n (byteVal (encKey vs))) := HQ7.out.below hb8
  clear HO7 HS7 HQ7 hb8 B7 M7
  -- the argument is marked
  go_wp2_with fail
  refine (markS_any g6 vs.length vs 1 w8 (own_any HS8.out) g0.out (by omega) (by omega)).mono ?_
  rintro e w9 ⟨rfl, hbut⟩
  have hws8 := B8.size
  have B9 : Below w.heap.size w w9 := hbut.below B8 (Nat.le_trans B3'.out.size G6.out) B8.size
  have HO9 : Hid (OwnB w9 a7 n (byteVal (encKey vs))) := HO8.out.but hbut (fun g7 e => by have := HW.out.at g7 e; have := L6.out; omega)
  have HQ9 : Hid (ReadB w9 a4 n (byteVal (encKey vs))) := HQ8.out.but HR.out hbut G6.out
  clear HO8 HS8 HQ8 hbut B8 hws8
  have hg0 := g0.out
  go_wp2_with fail
  refine (eqB_same a7 a4 _ _ n (byteVal (encKey vs)) w9 HO9.out.read HQ9.out hnle).mono ?_
  rintro e w10 ⟨rfl, hb10⟩
  have B10 := below_step B9 (Nat.le_refl _) hb10
  have HO10 : Hid (OwnB w10 a7 n (byteVal (encKey vs))) := HO9.out.below hb10
  have HQ10 : Hid (ReadB w10 a4 n (byteVal (encKey vs))) := HQ9.out.below hb10
  clear HO9 HQ9 hb10 B9
  -- the answer is marked
  go_wp2_with fail
  refine (markB_new w4.heap.size a7 _ n (byteVal (encKey vs)) 1 w10 HW.out HO10.out hnle (by omega) (by omega)).mono ?_
  rintro e w11 ⟨rfl, RM, hside⟩
  have B11 : Below w.heap.size w w11 := hside.below B10 B10.size (fun g e => Nat.le_trans B4'.out.size (HW.out.at g e))
  have HQ11 : Hid (ReadB w11 a4 n (byteVal (encKey vs))) := HQ10.out.side HR.out hside (fun g e => by have := HW.out.at g e; have := L6.out; have := G6.out; omega)
  have HM11 : Hid (ReadB w11 a7 n (markB 1)) := RM
  clear HO10 HQ10 hside B10 RM
  go_wp2_with fail
  refine (heldB_any a7 _ n 1 w11 HM11.out hnle (by omega) (by omega)).mono ?_
  rintro e w12 ⟨rfl, rfl⟩
  -- once more
  go_wp2_with fail
  refine (toS_row a cap vs _ (H0.out.below B11) g0.out).mono ?_
  rintro e w13 ⟨t0, rfl, R13, hb13⟩
  have B13 := below_step B11 (Nat.le_refl _) hb13
  have HQ13 : Hid (ReadB w13 a4 n (byteVal (encKey vs))) := HQ11.out.below hb13
  have HM13 : Hid (ReadB w13 a7 n (markB 1)) := HM11.out.below hb13
  have M13 : Hid (RowV w13 (some ⟨t0, 0, none⟩) vs) := R13
  clear HQ11 HM11 hb13 B11 R13
  go_wp2_with fail
  refine (implKeyBytes_any _ _ vs w13 M13.out g0.out).mono ?_
  rintro e w14 ⟨a12, c12, rfl, _, hown, hb14⟩
  rw [HNN.out] at hown ⊢
  rw [HD.out]
  have B14 := below_step B13 (Nat.le_refl _) hb14
  have HO14 : Hid (OwnB w14 a12 n (byteVal (encKey vs))) := hown
  have HQ14 : Hid (ReadB w14 a4 n (byteVal (encKey vs))) := HQ13.out.below hb14
  have HM14 : Hid (ReadB w14 a7 n (markB 1)) := HM13.out.below hb14
  clear HQ13 HM13 hb14 B13 M13 hown
  go_wp2_with fail
  refine (eqB_same a12 a4 _ _ n (byteVal (encKey vs)) w14 HO14.out.read HQ14.out hnle).mono ?_
  rintro e w15 ⟨rfl, hb15⟩
  have B15 := below_step B14 (Nat.le_refl _) hb15
  have HM15 : Hid (ReadB w15 a7 n (markB 1)) := HM14.out.below hb15
  clear HO14 HQ14 HM14 hb15 B14
  go_wp2_with fail
  refine (heldB_any a7 _ n 1 w15 HM15.out hnle (by omega) (by omega)).mono ?_
  rintro e w16 ⟨rfl, rfl⟩
  go_wp2
  go_ret
  exact ⟨rfl, B15⟩
end Go.Proofs.Ytipddjgoohnalaa
