/- The law on NewSpace, walked. -/
import Derived.Test.YtaklphoplfofbaaNewA
namespace Go.Proofs.Ytaklphoplfofbaa
open Go.RowKit

set_option maxRecDepth 100000 in
theorem eqSpace_nil (t e : Int) (a1 a2 a3 b1 b2 b3 : Option Addr) (c1 c2 c3 d1 d2 d3 : Nat) (w : World) :
    Calls Try.prog 19 #[SV t e (.slice a1 0 c1) (.slice a2 0 c2) (.slice a3 0 c3), SV t e (.slice b1 0 d1) (.slice b2 0 d2) (.slice b3 0 d3)] w fun x w' => x = .returned (.bool true) ∧ Below w.heap.size w w' := by
  go_enter Try.func19, Try.ntmps19
  go_wp2_with fail
  refine (eqI_nil a1 b1 c1 d1 _).mono ?_
  rintro x w1 ⟨rfl, hq⟩
  obtain rfl := hq.symm
  go_wp2_with fail
  refine (eqH_nil a2 b2 c2 d2 _).mono ?_
  rintro x w1 ⟨rfl, hq⟩
  obtain rfl := hq.symm
  go_wp2_with fail
  refine (eqI_nil a3 b3 c3 d3 _).mono ?_
  rintro x w1 ⟨rfl, hq⟩
  obtain rfl := hq.symm
  go_wp2
  go_ret
  exact ⟨rfl, ((Below.refl _ _).alloc (Nat.le_refl _) _).alloc (by simp) _⟩
set_option maxRecDepth 100000 in
theorem markSpace_nil (t e k : Int) (a1 a2 a3 : Option Addr) (c1 c2 c3 : Nat) (w : World) :
    Calls Try.prog 20 #[SV t e (.slice a1 0 c1) (.slice a2 0 c2) (.slice a3 0 c3), .int .i64 k] w fun x w' => x = .returned (.int .i64 k) ∧ Below w.heap.size w w' := by
  go_enter Try.func20, Try.ntmps20
  go_wp2_with fail
  refine (markI_nil a1 c1 k _).mono ?_
  rintro x w1 ⟨rfl, hq⟩
  obtain rfl := hq.symm
  go_wp2_with fail
  refine (markH_nil a2 c2 k _).mono ?_
  rintro x w1 ⟨rfl, hq⟩
  obtain rfl := hq.symm
  go_wp2_with fail
  refine (markI_nil a3 c3 k _).mono ?_
  rintro x w1 ⟨rfl, hq⟩
  obtain rfl := hq.symm
  go_wp2
  go_ret
  exact ⟨rfl, (Below.refl _ _).alloc (Nat.le_refl _) _⟩
set_option maxRecDepth 100000 in
theorem heldSpace_nil (t e k : Int) (hk : 0 ≤ k) (a1 a2 a3 : Option Addr) (c1 c2 c3 : Nat) (w : World) :
    Calls Try.prog 21 #[SV t e (.slice a1 0 c1) (.slice a2 0 c2) (.slice a3 0 c3), .int .i64 k] w fun x w' => x = .returned (.int .i64 k) ∧ Below w.heap.size w w' := by
  have hk' : ¬ k < 0 := by omega
  go_enter Try.func21, Try.ntmps21
  go_wp2_with fail
  refine (heldI_nil a1 c1 k _).mono ?_
  rintro x w1 ⟨rfl, hq⟩
  obtain rfl := hq.symm
  go_wp2_with fail
  refine (heldH_nil a2 c2 k _).mono ?_
  rintro x w1 ⟨rfl, hq⟩
  obtain rfl := hq.symm
  go_wp2_with fail
  refine (heldI_nil a3 c3 k _).mono ?_
  rintro x w1 ⟨rfl, hq⟩
  obtain rfl := hq.symm
  go_wp2
  go_ret
  exact ⟨rfl, (Below.refl _ _).alloc (Nat.le_refl _) _⟩

set_option maxRecDepth 100000 in
set_option maxHeartbeats 4000000 in
theorem lawNewSpace (n : Int) (w : World) : Calls Try.prog 4 #[.int .i64 n] w fun e w' => e = .returned (.bool true) ∧ Below w.heap.size w w' := by
  go_enter Try.func4, Try.ntmps4
  go_wp2_with fail
  refine (specNew_any n w).mono ?_
  rintro e w1 ⟨a1, a2, a3, c1, c2, c3, rfl, b1⟩
  have X0 : Hid (BoxS w1.heap.size (newT n) 0 (.slice a1 0 c1) (.slice a2 0 c2) (.slice a3 0 c3) (w1.alloc (SC (newT n) 0 (.slice a1 0 c1) (.slice a2 0 c2) (.slice a3 0 c3) 29))) := BoxS.new 29
  have B1 : Below w.heap.size w (w1.alloc (SC (newT n) 0 (.slice a1 0 c1) (.slice a2 0 c2) (.slice a3 0 c3) 29)) := b1.alloc b1.size _
  clear b1
  go_wp2_with fail
  refine (implNew_any n _).mono ?_
  rintro e w2 ⟨a4, a5, a6, c4, c5, c6, rfl, b2⟩
  obtain ⟨T, hT⟩ : ∃ T, newT n = T := ⟨_, rfl⟩
  obtain ⟨C, hC⟩ : ∃ C, newC n = C := ⟨_, rfl⟩
  have HT : Hid (newT n = T) := hT
  have HC : Hid (newC n = C) := hC
  rw [hT] at X0 B1 b2 ⊢
  rw [hC]
  clear hT hC
  have B2 := below_step B1 (Nat.le_refl _) b2
  have X1 := X0.out.below b2 (by simp)
  have A2 : Below w2.heap.size w2 (w2.alloc (SC T 0 (.slice a4 0 c4) (.slice a5 0 c5) (.slice a6 0 c6) 29)) := (Below.refl _ _).alloc (Nat.le_refl _) _
  have HB2 : Hid (Below w.heap.size w (w2.alloc (SC T 0 (.slice a4 0 c4) (.slice a5 0 c5) (.slice a6 0 c6) 29))) := below_step B2 (Nat.le_refl _) A2
  have X2 : Hid (BoxS w1.heap.size T 0 (.slice a1 0 c1) (.slice a2 0 c2) (.slice a3 0 c3) (w2.alloc (SC T 0 (.slice a4 0 c4) (.slice a5 0 c5) (.slice a6 0 c6) 29))) := X1.below A2 X1.2.2.2.2.2
  have Y2 : Hid (BoxS w2.heap.size T 0 (.slice a4 0 c4) (.slice a5 0 c5) (.slice a6 0 c6) (w2.alloc (SC T 0 (.slice a4 0 c4) (.slice a5 0 c5) (.slice a6 0 c6) 29))) := BoxS.new 29
  clear B1 b2 B2 A2 X0
  obtain ⟨x0, x1, x2, x3, x4, x5⟩ := X1
  go_wp2_with fail
  refine (eqSpace_nil T 0 a4 a5 a6 a1 a2 a3 c4 c5 c6 c1 c2 c3 _).mono ?_
  rintro e w3 ⟨rfl, b3⟩
  have B3 := below_step HB2.out (Nat.le_refl _) b3
  have X3 : Hid (BoxS w1.heap.size T 0 (.slice a1 0 c1) (.slice a2 0 c2) (.slice a3 0 c3) w3) := X2.out.below b3 X2.out.2.2.2.2.2
  have y3 := Y2.out.below b3 Y2.out.2.2.2.2.2
  have Y3 : Hid (BoxS w2.heap.size T 0 (.slice a4 0 c4) (.slice a5 0 c5) (.slice a6 0 c6) w3) := y3
  clear HB2 X2 Y2 b3 x0 x1 x2 x3 x4 x5
  obtain ⟨y0, y1, y2, y3, y4, y5⟩ := y3
  go_wp2_with fail
  refine (markSpace_nil T 0 1 a4 a5 a6 c4 c5 c6 _).mono ?_
  rintro e w4 ⟨rfl, b4⟩
  have B4 := below_step B3 (Nat.le_refl _) b4
  have X4 : Hid (BoxS w1.heap.size T 0 (.slice a1 0 c1) (.slice a2 0 c2) (.slice a3 0 c3) w4) := X3.out.below b4 X3.out.2.2.2.2.2
  have z4 := Y3.out.below b4 Y3.out.2.2.2.2.2
  have Y4 : Hid (BoxS w2.heap.size T 0 (.slice a4 0 c4) (.slice a5 0 c5) (.slice a6 0 c6) w4) := z4
  clear B3 X3 Y3 b4 y0 y1 y2 y3 y4 y5
  obtain ⟨y0, y1, y2, y3, y4, y5⟩ := z4
  go_wp2_with fail
  refine (heldSpace_nil T 0 1 (by omega) a4 a5 a6 c4 c5 c6 _).mono ?_
  rintro e w5 ⟨rfl, b5⟩
  have B5 := below_step B4 (Nat.le_refl _) b5
  have X5 : Hid (BoxS w1.heap.size T 0 (.slice a1 0 c1) (.slice a2 0 c2) (.slice a3 0 c3) w5) := X4.out.below b5 X4.out.2.2.2.2.2
  have Y5 : Hid (BoxS w2.heap.size T 0 (.slice a4 0 c4) (.slice a5 0 c5) (.slice a6 0 c6) w5) := Y4.out.below b5 Y4.out.2.2.2.2.2
  clear B4 X4 Y4 b5 y0 y1 y2 y3 y4 y5
  go_wp2_with fail
  refine (implNew_any n _).mono ?_
  rw [HT.out, HC.out]
  rintro e w6 ⟨a7, a8, a9, c7, c8, c9, rfl, b6⟩
  have B6 := below_step B5 (Nat.le_refl _) b6
  have x6 := X5.out.below b6 X5.out.2.2.2.2.2
  have A6 : Below w6.heap.size w6 (w6.alloc (SC T 0 (.slice a7 0 c7) (.slice a8 0 c8) (.slice a9 0 c9) 29)) := (Below.refl _ _).alloc (Nat.le_refl _) _
  have HB6 : Hid (Below w.heap.size w (w6.alloc (SC T 0 (.slice a7 0 c7) (.slice a8 0 c8) (.slice a9 0 c9) 29))) := below_step B6 (Nat.le_refl _) A6
  have y6 := Y5.out.below b6 Y5.out.2.2.2.2.2
  have Y6 : Hid (BoxS w2.heap.size T 0 (.slice a4 0 c4) (.slice a5 0 c5) (.slice a6 0 c6) (w6.alloc (SC T 0 (.slice a7 0 c7) (.slice a8 0 c8) (.slice a9 0 c9) 29))) := y6.below A6 y6.2.2.2.2.2
  clear B5 b6 B6 A6 X5 Y5 y6
  obtain ⟨x0, x1, x2, x3, x4, x5⟩ := x6
  go_wp2_with fail
  refine (eqSpace_nil T 0 a7 a8 a9 a1 a2 a3 c7 c8 c9 c1 c2 c3 _).mono ?_
  rintro e w7 ⟨rfl, b7⟩
  have B7 := below_step HB6.out (Nat.le_refl _) b7
  obtain ⟨y0, y1, y2, y3, y4, y5⟩ := Y6.out.below b7 Y6.out.2.2.2.2.2
  clear HB6 Y6 b7 x0 x1 x2 x3 x4 x5
  go_wp2_with fail
  refine (heldSpace_nil T 0 1 (by omega) a4 a5 a6 c4 c5 c6 _).mono ?_
  rintro e w8 ⟨rfl, b8⟩
  have B8 := below_step B7 (Nat.le_refl _) b8
  clear B7 b8 y0 y1 y2 y3 y4 y5
  go_wp2
  go_ret
  exact ⟨rfl, B8⟩
end Go.Proofs.Ytaklphoplfofbaa
