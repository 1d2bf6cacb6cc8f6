/- The law on NewBase, walked (stage 7). -/
import Derived.Test.YtmkagolechjjkaaNbB
namespace Go.Proofs.Ytmkagolechjjkaa
open Go.RowKit

abbrev Zx (w : World) (g : Nat) : Prop := w.heap[g]? = some (.cells Z12 62 (0, 0))
set_option maxRecDepth 100000 in
theorem eqBase_new (a a' : Option Addr) (c c' g g' : Nat) (w : World) (h : Zx w g) (h' : Zx w g') : Calls Try.prog 10 #[BV 0 (.slice a 0 c) (XV g), BV 0 (.slice a' 0 c') (XV g')] w fun e w' => e = .returned (.bool true) ∧ Below w.heap.size w w' := by
  obtain ⟨W0, hW0⟩ : ∃ W0, (w.alloc (.cells #[.int .i64 0, .slice a 0 c, XV g] 25)).alloc (.cells #[.int .i64 0, .slice a' 0 c', XV g'] 25) = W0 := ⟨_, rfl⟩
  have b0 : Below w.heap.size w W0 := hW0 ▸ ((Below.refl _ _).alloc (Nat.le_refl _) _).alloc (by simp) _
  have xa : W0.heap[w.heap.size]? = some (.cells #[.int .i64 0, .slice a 0 c, XV g] 25 (0, 0)) := hW0 ▸ (heap_old _ _ _ (by simp)).trans (heap_new' _ _ _ rfl)
  have xb : W0.heap[w.heap.size + 1]? = some (.cells #[.int .i64 0, .slice a' 0 c', XV g'] 25 (0, 0)) := hW0 ▸ heap_new' _ _ _ (by simp)
  have p0 : W0.cell? ⟨w.heap.size, 0, none⟩ = some (.int .i64 0) := by simp [World.cell?, xa]
  have p1 : W0.cell? ⟨w.heap.size, 1, none⟩ = some (.slice a 0 c) := by simp [World.cell?, xa]
  have p2 : W0.cell? ⟨w.heap.size, 2, none⟩ = some (XV g) := by simp [World.cell?, xa]
  have q0 : W0.cell? ⟨w.heap.size + 1, 0, none⟩ = some (.int .i64 0) := by simp [World.cell?, xb]
  have q1 : W0.cell? ⟨w.heap.size + 1, 1, none⟩ = some (.slice a' 0 c') := by simp [World.cell?, xb]
  have q2 : W0.cell? ⟨w.heap.size + 1, 2, none⟩ = some (XV g') := by simp [World.cell?, xb]
  have HZ : Hid (Zx W0 g ∧ Zx W0 g') := ⟨keepBlk h b0 (slab_lt h), keepBlk h' b0 (slab_lt h')⟩
  clear xa xb h h'
  go_enter Try.func10, Try.ntmps10
  go_wp2_with fail
  refine (eqV_nil a a' c c' W0).mono ?_
  rintro e w1 ⟨rfl, hq⟩
  obtain rfl := hq.symm
  go_wp2_with fail
  refine (eqTxS_zero g g' W0 HZ.out.1 HZ.out.2).mono ?_
  rintro e w2 ⟨rfl, b2⟩
  have bw := below_step b0 (Nat.le_refl _) b2
  go_wp2
  go_ret
  exact ⟨rfl, bw⟩
set_option maxRecDepth 100000 in
theorem markBase_new (a : Option Addr) (c g : Nat) (w : World) (h : Zx w g) : Calls Try.prog 11 #[BV 0 (.slice a 0 c) (XV g), .int .i64 1] w fun e w' => e = .returned (.int .i64 9) ∧ InvT g 4 w' ∧ Kept (fun j => j = g) w w' := by
  obtain ⟨W0, hW0⟩ : ∃ W0, w.alloc (.cells #[.int .i64 0, .slice a 0 c, XV g] 25) = W0 := ⟨_, rfl⟩
  have b0 : Below w.heap.size w W0 := hW0 ▸ (Below.refl _ _).alloc (Nat.le_refl _) _
  have xa : W0.heap[w.heap.size]? = some (.cells #[.int .i64 0, .slice a 0 c, XV g] 25 (0, 0)) := hW0 ▸ heap_new' _ _ _ rfl
  have p1 : W0.cell? ⟨w.heap.size, 1, none⟩ = some (.slice a 0 c) := by simp [World.cell?, xa]
  have p2 : W0.cell? ⟨w.heap.size, 2, none⟩ = some (XV g) := by simp [World.cell?, xa]
  have HZ : Hid (Zx W0 g) := keepBlk h b0 (slab_lt h)
  have K0 : Kept (fun j => j = g) w W0 := Kept.of_below b0
  clear xa h
  go_enter Try.func11, Try.ntmps11
  go_wp2_with fail
  refine (markV_nil a c 1 W0).mono ?_
  rintro e w1 ⟨rfl, hq⟩
  obtain rfl := hq.symm
  go_wp2_with fail
  refine (markTxS_zero g W0 HZ.out).mono ?_
  rintro e w2 ⟨rfl, inv, k2⟩
  have INV : Hid (InvT g 4 w2) := inv
  have KK : Kept (fun j => j = g) w w2 := K0.trans k2
  clear inv k2 K0
  go_wp2
  go_ret
  exact ⟨rfl, INV.out, KK⟩
set_option maxRecDepth 100000 in
theorem heldBase_marks (a : Option Addr) (c g : Nat) (w : World) (h : InvT g 4 w) : Calls Try.prog 12 #[BV 0 (.slice a 0 c) (XV g), .int .i64 1] w fun e w' => e = .returned (.int .i64 9) ∧ Below w.heap.size w w' := by
  obtain ⟨W0, hW0⟩ : ∃ W0, w.alloc (.cells #[.int .i64 0, .slice a 0 c, XV g] 25) = W0 := ⟨_, rfl⟩
  have b0 : Below w.heap.size w W0 := hW0 ▸ (Below.refl _ _).alloc (Nat.le_refl _) _
  have xa : W0.heap[w.heap.size]? = some (.cells #[.int .i64 0, .slice a 0 c, XV g] 25 (0, 0)) := hW0 ▸ heap_new' _ _ _ rfl
  have p1 : W0.cell? ⟨w.heap.size, 1, none⟩ = some (.slice a 0 c) := by simp [World.cell?, xa]
  have p2 : W0.cell? ⟨w.heap.size, 2, none⟩ = some (XV g) := by simp [World.cell?, xa]
  have HZ : Hid (InvT g 4 W0) := h.at (b0.block g h.lt)
  clear xa h
  go_enter Try.func12, Try.ntmps12
  go_wp2_with fail
  refine (heldV_nil a c 1 W0).mono ?_
  rintro e w1 ⟨rfl, hq⟩
  obtain rfl := hq.symm
  go_wp2_with fail
  refine (heldTxS_marks g W0 HZ.out).mono ?_
  rintro e w2 ⟨rfl, hq⟩
  obtain rfl := hq.symm
  go_wp2
  go_ret
  exact ⟨rfl, b0⟩
/-- A base in block b. -/
abbrev BoxB (b : Nat) (v x : Value) (w : World) : Prop := w.heap[b]? = some (.cells #[.int .i64 0, v, x] 25 (0, 0))
theorem boxB {b : Nat} {v x : Value} {w : World} (h : BoxB b v x w) : w.cell? ⟨b, 0, none⟩ = some (.int .i64 0) ∧ w.cell? ⟨b, 1, none⟩ = some v ∧ w.cell? ⟨b, 2, none⟩ = some x := ⟨by simp [World.cell?, h], by simp [World.cell?, h], by simp [World.cell?, h]⟩

set_option maxRecDepth 100000 in
set_option maxHeartbeats 4000000 in
theorem lawNewBase (w : World) : Calls Try.prog 3 #[] w fun e w' => e = .returned (.bool true) ∧ Below w.heap.size w w' := by
  go_enter Try.func3, Try.ntmps3
  go_wp2_with fail
  refine (specNew_any w).mono ?_
  rintro e w1 ⟨a, c, g, rfl, hg, hh, b1⟩
  obtain ⟨A1, hA1⟩ : ∃ A1, w1.alloc (.cells #[.int .i64 0, .slice a 0 c, XV g] 25) = A1 := ⟨_, rfl⟩
  have a1 : Below w1.heap.size w1 A1 := hA1 ▸ (Below.refl _ _).alloc (Nat.le_refl _) _
  have X1 : Hid (BoxB w1.heap.size (.slice a 0 c) (XV g) A1 ∧ Zx A1 g) := ⟨hA1 ▸ heap_new' _ _ _ rfl, keepBlk hh a1 (slab_lt hh)⟩
  have HB1 : Hid (Below w.heap.size w A1) := b1.trans (a1.mono b1.size)
  have G1 : Hid (g < w1.heap.size ∧ w.heap.size ≤ w1.heap.size ∧ A1.heap.size = w1.heap.size + 1) := ⟨slab_lt hh, b1.size, by rw [← hA1]; simp⟩
  clear hh b1 a1
  go_wp2_with fail
  refine (implNew_any A1).mono ?_
  clear hA1
  rintro e w2 ⟨g', rfl, hg', hh, b2⟩
  obtain ⟨A2, hA2⟩ : ∃ A2, w2.alloc (.cells #[.int .i64 0, .slice none 0 0, XV g'] 25) = A2 := ⟨_, rfl⟩
  have a2 : Below w2.heap.size w2 A2 := hA2 ▸ (Below.refl _ _).alloc (Nat.le_refl _) _
  have c2 : Below A1.heap.size A1 A2 := b2.trans (a2.mono b2.size)
  have X2 : Hid (BoxB w1.heap.size (.slice a 0 c) (XV g) A2 ∧ Zx A2 g ∧ BoxB w2.heap.size (.slice none 0 0) (XV g') A2 ∧ Zx A2 g') := ⟨keepBlk X1.out.1 c2 (slab_lt X1.out.1), keepBlk X1.out.2 c2 (slab_lt X1.out.2), hA2 ▸ heap_new' _ _ _ rfl, keepBlk hh a2 (slab_lt hh)⟩
  have HB2 : Hid (Below w.heap.size w A2) := HB1.out.trans (c2.mono HB1.out.size)
  have G2 : Hid (g < g' ∧ w1.heap.size < g' ∧ g' < w2.heap.size ∧ w.heap.size ≤ g') := ⟨by have := G1.out; omega, by have := G1.out; omega, slab_lt hh, by have := G1.out; omega⟩
  obtain ⟨p0, p1, p2⟩ := boxB X2.out.1
  obtain ⟨q0, q1, q2⟩ := boxB X2.out.2.2.1
  clear hh b2 a2 c2 X1 HB1 hg hg'
  go_wp2_with fail
  refine (eqBase_new none a 0 c g' g A2 X2.out.2.2.2 X2.out.2.1).mono ?_
  clear hA2
  rintro e w3 ⟨rfl, b3⟩
  have X3 : Hid (BoxB w1.heap.size (.slice a 0 c) (XV g) w3 ∧ Zx w3 g ∧ BoxB w2.heap.size (.slice none 0 0) (XV g') w3 ∧ Zx w3 g') := ⟨keepBlk X2.out.1 b3 (slab_lt X2.out.1), keepBlk X2.out.2.1 b3 (slab_lt X2.out.2.1), keepBlk X2.out.2.2.1 b3 (slab_lt X2.out.2.2.1), keepBlk X2.out.2.2.2 b3 (slab_lt X2.out.2.2.2)⟩
  have HB3 : Hid (Below w.heap.size w w3) := below_step HB2.out (Nat.le_refl _) b3
  clear b3 X2 HB2 p0 p1 p2 q0 q1 q2
  obtain ⟨q0, q1, q2⟩ := boxB X3.out.2.2.1
  go_wp2_with fail
  refine (markBase_new none 0 g' w3 X3.out.2.2.2).mono ?_
  rintro e w4 ⟨rfl, inv, k4⟩
  have X4 : Hid (BoxB w1.heap.size (.slice a 0 c) (XV g) w4 ∧ Zx w4 g ∧ BoxB w2.heap.size (.slice none 0 0) (XV g') w4 ∧ InvT g' 4 w4) := ⟨(k4.block _ (slab_lt X3.out.1) (by have := G2.out; omega)).trans X3.out.1, (k4.block _ (slab_lt X3.out.2.1) (by have := G2.out; omega)).trans X3.out.2.1, (k4.block _ (slab_lt X3.out.2.2.1) (by have := G2.out; omega)).trans X3.out.2.2.1, inv⟩
  have HB4 : Hid (Below w.heap.size w w4) := HB3.out.trans (k4.below HB3.out.size (fun j hj => by have e : j = g' := hj; have := G2.out; omega))
  clear inv k4 X3 HB3 q0 q1 q2
  obtain ⟨q0, q1, q2⟩ := boxB X4.out.2.2.1
  go_wp2_with fail
  refine (heldBase_marks none 0 g' w4 X4.out.2.2.2).mono ?_
  rintro e w5 ⟨rfl, b5⟩
  have X5 : Hid (BoxB w1.heap.size (.slice a 0 c) (XV g) w5 ∧ Zx w5 g ∧ BoxB w2.heap.size (.slice none 0 0) (XV g') w5 ∧ InvT g' 4 w5) := ⟨keepBlk X4.out.1 b5 (slab_lt X4.out.1), keepBlk X4.out.2.1 b5 (slab_lt X4.out.2.1), keepBlk X4.out.2.2.1 b5 (slab_lt X4.out.2.2.1), X4.out.2.2.2.at (b5.block _ X4.out.2.2.2.lt)⟩
  have HB5 : Hid (Below w.heap.size w w5) := below_step HB4.out (Nat.le_refl _) b5
  clear b5 X4 HB4 q0 q1 q2
  go_wp2_with fail
  refine (implNew_any w5).mono ?_
  rintro e w6 ⟨g3, rfl, hg3, hh, b6⟩
  obtain ⟨A6, hA6⟩ : ∃ A6, w6.alloc (.cells #[.int .i64 0, .slice none 0 0, XV g3] 25) = A6 := ⟨_, rfl⟩
  have a6 : Below w6.heap.size w6 A6 := hA6 ▸ (Below.refl _ _).alloc (Nat.le_refl _) _
  have c6 : Below w5.heap.size w5 A6 := b6.trans (a6.mono b6.size)
  have X6 : Hid (BoxB w1.heap.size (.slice a 0 c) (XV g) A6 ∧ Zx A6 g ∧ BoxB w2.heap.size (.slice none 0 0) (XV g') A6 ∧ InvT g' 4 A6 ∧ BoxB w6.heap.size (.slice none 0 0) (XV g3) A6 ∧ Zx A6 g3) := ⟨keepBlk X5.out.1 c6 (slab_lt X5.out.1), keepBlk X5.out.2.1 c6 (slab_lt X5.out.2.1), keepBlk X5.out.2.2.1 c6 (slab_lt X5.out.2.2.1), X5.out.2.2.2.at (c6.block _ X5.out.2.2.2.lt), hA6 ▸ heap_new' _ _ _ rfl, keepBlk hh a6 (slab_lt hh)⟩
  have HB6 : Hid (Below w.heap.size w A6) := HB5.out.trans (c6.mono HB5.out.size)
  obtain ⟨p0, p1, p2⟩ := boxB X6.out.1
  obtain ⟨q0, q1, q2⟩ := boxB X6.out.2.2.2.2.1
  clear hh b6 a6 c6 X5 HB5 hg3
  go_wp2_with fail
  refine (eqBase_new none a 0 c g3 g A6 X6.out.2.2.2.2.2 X6.out.2.1).mono ?_
  clear hA6
  rintro e w7 ⟨rfl, b7⟩
  have X7 : Hid (BoxB w2.heap.size (.slice none 0 0) (XV g') w7 ∧ InvT g' 4 w7) := ⟨keepBlk X6.out.2.2.1 b7 (slab_lt X6.out.2.2.1), X6.out.2.2.2.1.at (b7.block _ X6.out.2.2.2.1.lt)⟩
  have HB7 : Hid (Below w.heap.size w w7) := below_step HB6.out (Nat.le_refl _) b7
  clear b7 X6 HB6 p0 p1 p2 q0 q1 q2
  obtain ⟨q0, q1, q2⟩ := boxB X7.out.1
  go_wp2_with fail
  refine (heldBase_marks none 0 g' w7 X7.out.2).mono ?_
  rintro e w8 ⟨rfl, b8⟩
  have HB8 := below_step HB7.out (Nat.le_refl _) b8
  clear b8
  go_wp2
  go_ret
  exact ⟨rfl, HB8⟩
end Go.Proofs.Ytmkagolechjjkaa
