/- The law on NewDisk, walked. -/
import Derived.Test.YtgfgaiimigchkaaNewD
namespace Go.Proofs.Ytgfgaiimigchkaa
open Go.RowKit

/-- A disk lies in block b. -/
abbrev BoxN (b : Nat) (a : Option Addr) (n c : Nat) (w : World) : Prop := w.cell? ⟨b, 0, none⟩ = some (.slice a n c) ∧ w.cell? ⟨b, 1, none⟩ = some (.slice none 0 0) ∧ b < w.heap.size
theorem BoxN.below {b : Nat} {a : Option Addr} {n c : Nat} {w w' : World} (h : BoxN b a n c w) (hb : Below w.heap.size w w') : BoxN b a n c w' :=
  ⟨(hb.cell (p := ⟨b, 0, none⟩) h.2.2).trans h.1, (hb.cell (p := ⟨b, 1, none⟩) h.2.2).trans h.2.1, Nat.lt_of_lt_of_le h.2.2 hb.size⟩
theorem BoxN.but {b g : Nat} {a : Option Addr} {n c : Nat} {w w' : World} (h : BoxN b a n c w) (hb : But g w w') (hne : b ≠ g) : BoxN b a n c w' :=
  ⟨(hb.cell (p := ⟨b, 0, none⟩) h.2.2 hne).trans h.1, (hb.cell (p := ⟨b, 1, none⟩) h.2.2 hne).trans h.2.1, Nat.lt_of_lt_of_le h.2.2 hb.size⟩
theorem BoxN.new {a : Option Addr} {n c : Nat} {w : World} (t : TypeId) : BoxN w.heap.size a n c (w.alloc (.cells #[.slice a n c, .slice none 0 0] t)) := ⟨by go_simp, by go_simp, by simp⟩

set_option maxRecDepth 100000 in
theorem markDisk_any (g n c : Nat) (f : Nat → ByteArray) (w : World) (h : SlabT w g f n) (hn : n ≤ 1000) :
    Calls Try.prog 7 #[DN (some ⟨g, 0, none⟩) n c, .int .i64 1] w fun e w' => e = .returned (.int .i64 (1 + n)) ∧ SlabT w' g (fun j => markT (1 + j)) n ∧ But g w w' := by
  have A0 : Below w.heap.size w (w.alloc (.cells #[.slice (some ⟨g, 0, none⟩) n c, .slice none 0 0] 25)) := (Below.refl _ _).alloc (Nat.le_refl _) _
  have HS : Hid (SlabT (w.alloc (.cells #[.slice (some ⟨g, 0, none⟩) n c, .slice none 0 0] 25)) g f n) := h.below A0 h.lt
  have hne : w.heap.size ≠ g := by have := h.lt; omega
  have X0 : BoxN w.heap.size (some ⟨g, 0, none⟩) n c (w.alloc (.cells #[.slice (some ⟨g, 0, none⟩) n c, .slice none 0 0] 25)) := BoxN.new 25
  clear h
  go_enter Try.func7, Try.ntmps7
  go_wp2_with fail
  refine (markS_any g n c f 1 _ HS.out hn (by omega) (by omega)).mono ?_
  rintro e w1 ⟨rfl, hM, hB⟩
  obtain ⟨x0, x1, _⟩ := X0.but hB hne
  have HB : Hid (But g w w1) := (But.of_below A0).trans hB
  have HM : Hid (SlabT w1 g (fun j => markT (1 + j)) n) := hM
  clear X0 hB hM A0 HS
  go_wp2_with fail
  refine (markP_none _ w1).mono ?_
  rintro e w2 ⟨rfl, hw⟩
  rw [hw]
  clear hw
  go_wp2
  go_ret
  exact ⟨ret_int' (by omega), HM.out, HB.out⟩

set_option maxRecDepth 100000 in
theorem markDisk_none (w : World) :
    Calls Try.prog 7 #[DN none 0 0, .int .i64 1] w fun e w' => e = .returned (.int .i64 1) ∧ Below w.heap.size w w' := by
  have A0 : Below w.heap.size w (w.alloc (.cells #[.slice none 0 0, .slice none 0 0] 25)) := (Below.refl _ _).alloc (Nat.le_refl _) _
  go_enter Try.func7, Try.ntmps7
  go_wp2_with fail
  refine (markS_none _ _).mono ?_
  rintro e w1 ⟨rfl, hw⟩
  rw [hw]
  clear hw
  go_wp2_with fail
  refine (markP_none _ _).mono ?_
  rintro e w2 ⟨rfl, hw⟩
  rw [hw]
  clear hw
  go_wp2
  go_ret
  exact ⟨rfl, A0⟩

set_option maxRecDepth 100000 in
theorem heldDisk_any (a : Option Addr) (n c : Nat) (w : World) (h : ReadT w a n (fun j => markT (1 + j))) (hn : n ≤ 1000) :
    Calls Try.prog 8 #[DN a n c, .int .i64 1] w fun e w' => e = .returned (.int .i64 (1 + n)) ∧ Below w.heap.size w w' := by
  have A0 : Below w.heap.size w (w.alloc (.cells #[.slice a n c, .slice none 0 0] 25)) := (Below.refl _ _).alloc (Nat.le_refl _) _
  have X0 : BoxN w.heap.size a n c (w.alloc (.cells #[.slice a n c, .slice none 0 0] 25)) := BoxN.new 25
  have HR : Hid (ReadT (w.alloc (.cells #[.slice a n c, .slice none 0 0] 25)) a n (fun j => markT (1 + j))) := h.below A0
  clear h
  go_enter Try.func8, Try.ntmps8
  go_wp2_with fail
  refine (heldS_any a n c 1 _ HR.out hn (by omega) (by omega)).mono ?_
  rintro e w1 ⟨rfl, hb1⟩
  obtain ⟨x0, x1, _⟩ := X0.below hb1
  have B1 := A0.trans (hb1.mono A0.size)
  clear X0 hb1 A0 HR
  go_wp2_with fail
  refine (heldP_none _ w1).mono ?_
  rintro e w2 ⟨rfl, hw⟩
  rw [hw]
  clear hw
  go_wp2
  go_ret
  exact ⟨ret_int' (by omega), B1⟩

set_option maxRecDepth 100000 in
set_option maxHeartbeats 8000000 in
theorem lawNewDisk_ok (n : Nat) (w : World) (h1 : 1 ≤ n) (h2 : n ≤ 256) :
    Calls Try.prog 3 #[.int .i64 n] w fun e w' => e = .returned (.bool true) ∧ Below w.heap.size w w' := by
  have hn : n ≤ 1000 := by omega
  have hn' : n ≤ 1048576 := by omega
  go_enter Try.func3, Try.ntmps3
  go_wp2_with fail
  refine (specNewDisk_ok n w h1 h2).mono ?_
  rintro e w1 ⟨g0, c0, rfl, S0, hb1⟩
  have A1 : Below w1.heap.size w1 (w1.alloc (.cells #[.slice (some ⟨g0, 0, none⟩) n c0, .slice none 0 0] 25)) := (Below.refl _ _).alloc (Nat.le_refl _) _
  have B1 := hb1.trans (A1.mono hb1.size)
  have X3 : Hid (BoxN w1.heap.size (some ⟨g0, 0, none⟩) n c0 (w1.alloc (.cells #[.slice (some ⟨g0, 0, none⟩) n c0, .slice none 0 0] 25))) := BoxN.new 25
  have R0 : Hid (ReadT (w1.alloc (.cells #[.slice (some ⟨g0, 0, none⟩) n c0, .slice none 0 0] 25)) (some ⟨g0, 0, none⟩) n (fun _ => blank)) := (S0.below A1 S0.lt).read
  have L0 : Hid (g0 < w1.heap.size) := S0.lt
  have W1 : Hid (w.heap.size ≤ w1.heap.size) := hb1.size
  clear S0 hb1 A1
  go_wp2_with fail
  refine (implNewDisk_ok n _ h1 h2).mono ?_
  rintro e w2 ⟨g5, rfl, hg5, S5, hb2⟩
  have A2 : Below w2.heap.size w2 (w2.alloc (.cells #[.slice (some ⟨g5, 0, none⟩) n n, .slice none 0 0] 25)) := (Below.refl _ _).alloc (Nat.le_refl _) _
  have B2 := below_step (below_step B1 (Nat.le_refl _) hb2) (Nat.le_refl _) A2
  have G5 : Hid (w1.heap.size + 1 ≤ g5) := by show _ ≤ _; simpa using hg5
  have L5 : Hid (g5 < w2.heap.size) := S5.lt
  have hx3 := (X3.out.below hb2).below A2
  have hx5 : BoxN w2.heap.size (some ⟨g5, 0, none⟩) n n (w2.alloc (.cells #[.slice (some ⟨g5, 0, none⟩) n n, .slice none 0 0] 25)) := BoxN.new 25
  have H3 : Hid (BoxN w1.heap.size (some ⟨g0, 0, none⟩) n c0 _) := hx3
  have H5 : Hid (BoxN w2.heap.size (some ⟨g5, 0, none⟩) n n _) := hx5
  have R0b : Hid (ReadT _ (some ⟨g0, 0, none⟩) n (fun _ => blank)) := (R0.out.below hb2).below A2
  have S5b : Hid (SlabT _ g5 (fun _ => blank) n) := S5.below A2 S5.lt
  clear X3 R0 S5 hb2 A2 B1 hg5 hx5
  obtain ⟨y0, y1, y2⟩ := hx3
  go_wp2_with fail
  refine (eqDisk_same _ _ _ _ n (fun _ => blank) _ S5b.out.read R0b.out hn').mono ?_
  rintro e w3 ⟨rfl, hb3⟩
  have B3 := below_step B2 (Nat.le_refl _) hb3
  have S5c : Hid (SlabT w3 g5 (fun _ => blank) n) := S5b.out.below hb3 S5b.out.lt
  have R0c : Hid (ReadT w3 (some ⟨g0, 0, none⟩) n (fun _ => blank)) := R0b.out.below hb3
  have K3 : Hid (BoxN w1.heap.size (some ⟨g0, 0, none⟩) n c0 w3) := H3.out.below hb3
  have K5 : Hid (BoxN w2.heap.size (some ⟨g5, 0, none⟩) n n w3) := H5.out.below hb3
  clear S5b R0b H3 H5 hb3 B2 y0 y1 y2
  obtain ⟨y0, y1, y2⟩ := K5.out
  go_wp2_with fail
  refine (markDisk_any g5 n n (fun _ => blank) w3 S5c.out hn).mono ?_
  rintro e w4 ⟨rfl, hM, hB4⟩
  have B4 : Below w.heap.size w w4 := hB4.below B3 (by have := G5.out; have := W1.out; omega) B3.size
  have R0d : Hid (ReadT w4 (some ⟨g0, 0, none⟩) n (fun _ => blank)) := R0c.out.but hB4 (fun b e => by cases e; have := L0.out; have := G5.out; omega)
  have K3d : Hid (BoxN w1.heap.size (some ⟨g0, 0, none⟩) n c0 w4) := K3.out.but hB4 (by have := G5.out; omega)
  have K5d : Hid (BoxN w2.heap.size (some ⟨g5, 0, none⟩) n n w4) := K5.out.but hB4 (by have := L5.out; omega)
  have M4 : Hid (SlabT w4 g5 (fun j => markT (1 + j)) n) := hM
  clear S5c R0c K3 K5 hM hB4 B3 y0 y1 y2
  obtain ⟨y0, y1, y2⟩ := K5d.out
  go_wp2_with fail
  refine (heldDisk_any _ n n w4 M4.out.read hn).mono ?_
  rintro e w5 ⟨rfl, hb5⟩
  have B5 := below_step B4 (Nat.le_refl _) hb5
  have R0e : Hid (ReadT w5 (some ⟨g0, 0, none⟩) n (fun _ => blank)) := R0d.out.below hb5
  have K3e : Hid (BoxN w1.heap.size (some ⟨g0, 0, none⟩) n c0 w5) := K3d.out.below hb5
  have K5e : Hid (BoxN w2.heap.size (some ⟨g5, 0, none⟩) n n w5) := K5d.out.below hb5
  have M5 : Hid (SlabT w5 g5 (fun j => markT (1 + j)) n) := M4.out.below hb5 M4.out.lt
  clear R0d K3d K5d M4 hb5 B4 y0 y1 y2
  go_wp2_with fail
  refine (implNewDisk_ok n w5 h1 h2).mono ?_
  rintro e w6 ⟨g9, rfl, _, S9, hb6⟩
  have A6 : Below w6.heap.size w6 (w6.alloc (.cells #[.slice (some ⟨g9, 0, none⟩) n n, .slice none 0 0] 25)) := (Below.refl _ _).alloc (Nat.le_refl _) _
  have B6 := below_step (below_step B5 (Nat.le_refl _) hb6) (Nat.le_refl _) A6
  have R0f : Hid (ReadT _ (some ⟨g0, 0, none⟩) n (fun _ => blank)) := (R0e.out.below hb6).below A6
  have hx3 := (K3e.out.below hb6).below A6
  have K5f : Hid (BoxN w2.heap.size (some ⟨g5, 0, none⟩) n n _) := (K5e.out.below hb6).below A6
  have M6 : Hid (SlabT _ g5 (fun j => markT (1 + j)) n) := (M5.out.below hb6 M5.out.lt).below A6 (Nat.lt_of_lt_of_le M5.out.lt hb6.size)
  have R9 : Hid (ReadT _ (some ⟨g9, 0, none⟩) n (fun _ => blank)) := (S9.below A6 S9.lt).read
  clear R0e K3e K5e M5 S9 hb6 A6 B5
  obtain ⟨y0, y1, y2⟩ := hx3
  go_wp2_with fail
  refine (eqDisk_same _ _ _ _ n (fun _ => blank) _ R9.out R0f.out hn').mono ?_
  rintro e w7 ⟨rfl, hb7⟩
  have B7 := below_step B6 (Nat.le_refl _) hb7
  have M7 : Hid (SlabT w7 g5 (fun j => markT (1 + j)) n) := M6.out.below hb7 M6.out.lt
  have K5g := K5f.out.below hb7
  clear R0f R9 M6 K5f hb7 B6 y0 y1 y2
  obtain ⟨y0, y1, y2⟩ := K5g
  go_wp2_with fail
  refine (heldDisk_any _ n n w7 M7.out.read hn).mono ?_
  rintro e w8 ⟨rfl, hb8⟩
  have B8 := below_step B7 (Nat.le_refl _) hb8
  clear hb8 B7 y0 y1 y2
  go_wp2
  go_ret
  exact ⟨rfl, B8⟩

set_option maxRecDepth 100000 in
set_option maxHeartbeats 8000000 in
theorem lawNewDisk_bad (s : Int) (w : World) (h : s < 1 ∨ 256 < s) :
    Calls Try.prog 3 #[.int .i64 s] w fun e w' => e = .returned (.bool true) ∧ Below w.heap.size w w' := by
  have HH : Hid (s < 1 ∨ 256 < s) := h
  have T0 : Hid (∀ (x : World), ReadT x none 0 (fun _ => blank)) := fun x i hi => by omega
  have T1 : Hid (∀ (x : World), ReadT x none 0 (fun j => markT (1 + j))) := fun x i hi => by omega
  clear h
  go_enter Try.func3, Try.ntmps3
  go_wp2_with fail
  refine (specNewDisk_bad s w HH.out).mono ?_
  rintro e w1 ⟨rfl, hb1⟩
  have A1 : Below w1.heap.size w1 (w1.alloc (.cells #[.slice none 0 0, .slice none 0 0] 25)) := (Below.refl _ _).alloc (Nat.le_refl _) _
  have B1 := hb1.trans (A1.mono hb1.size)
  have X3 : Hid (BoxN w1.heap.size none 0 0 (w1.alloc (.cells #[.slice none 0 0, .slice none 0 0] 25))) := BoxN.new 25
  clear hb1 A1
  go_wp2_with fail
  refine (implNewDisk_bad s _ HH.out).mono ?_
  rintro e w2 ⟨rfl, hb2⟩
  have A2 : Below w2.heap.size w2 (w2.alloc (.cells #[.slice none 0 0, .slice none 0 0] 25)) := (Below.refl _ _).alloc (Nat.le_refl _) _
  have B2 := below_step (below_step B1 (Nat.le_refl _) hb2) (Nat.le_refl _) A2
  have hx3 := (X3.out.below hb2).below A2
  have hx5 : BoxN w2.heap.size none 0 0 (w2.alloc (.cells #[.slice none 0 0, .slice none 0 0] 25)) := BoxN.new 25
  have H3 : Hid (BoxN w1.heap.size none 0 0 _) := hx3
  have H5 : Hid (BoxN w2.heap.size none 0 0 _) := hx5
  clear X3 hb2 A2 B1 hx5
  obtain ⟨y0, y1, y2⟩ := hx3
  go_wp2_with fail
  refine (eqDisk_same none none 0 0 0 (fun _ => blank) _ (T0.out _) (T0.out _) (by omega)).mono ?_
  rintro e w3 ⟨rfl, hb3⟩
  have B3 := below_step B2 (Nat.le_refl _) hb3
  have K3 : Hid (BoxN w1.heap.size none 0 0 w3) := H3.out.below hb3
  have K5 : Hid (BoxN w2.heap.size none 0 0 w3) := H5.out.below hb3
  clear H3 H5 hb3 B2 y0 y1 y2
  obtain ⟨y0, y1, y2⟩ := K5.out
  go_wp2_with fail
  refine (markDisk_none w3).mono ?_
  rintro e w4 ⟨rfl, hb4⟩
  have B4 := below_step B3 (Nat.le_refl _) hb4
  have K3d : Hid (BoxN w1.heap.size none 0 0 w4) := K3.out.below hb4
  have K5d : Hid (BoxN w2.heap.size none 0 0 w4) := K5.out.below hb4
  clear K3 K5 hb4 B3 y0 y1 y2
  obtain ⟨y0, y1, y2⟩ := K5d.out
  go_wp2_with fail
  refine (heldDisk_any none 0 0 w4 (T1.out _) (by omega)).mono ?_
  rintro e w5 ⟨rfl, hb5⟩
  have B5 := below_step B4 (Nat.le_refl _) hb5
  have K3e : Hid (BoxN w1.heap.size none 0 0 w5) := K3d.out.below hb5
  have K5e : Hid (BoxN w2.heap.size none 0 0 w5) := K5d.out.below hb5
  clear K3d K5d hb5 B4 y0 y1 y2
  go_wp2_with fail
  refine (implNewDisk_bad s w5 HH.out).mono ?_
  rintro e w6 ⟨rfl, hb6⟩
  have A6 : Below w6.heap.size w6 (w6.alloc (.cells #[.slice none 0 0, .slice none 0 0] 25)) := (Below.refl _ _).alloc (Nat.le_refl _) _
  have B6 := below_step (below_step B5 (Nat.le_refl _) hb6) (Nat.le_refl _) A6
  have hx3 := (K3e.out.below hb6).below A6
  have K5f : Hid (BoxN w2.heap.size none 0 0 _) := (K5e.out.below hb6).below A6
  clear K3e K5e hb6 A6 B5
  obtain ⟨y0, y1, y2⟩ := hx3
  go_wp2_with fail
  refine (eqDisk_same none none 0 0 0 (fun _ => blank) _ (T0.out _) (T0.out _) (by omega)).mono ?_
  rintro e w7 ⟨rfl, hb7⟩
  have B7 := below_step B6 (Nat.le_refl _) hb7
  have K5g := K5f.out.below hb7
  clear K5f hb7 B6 y0 y1 y2
  obtain ⟨y0, y1, y2⟩ := K5g
  go_wp2_with fail
  refine (heldDisk_any none 0 0 w7 (T1.out _) (by omega)).mono ?_
  rintro e w8 ⟨rfl, hb8⟩
  have B8 := below_step B7 (Nat.le_refl _) hb8
  clear hb8 B7 y0 y1 y2
  go_wp2
  go_ret
  exact ⟨rfl, B8⟩

theorem lawNewDisk (s : Int) (w : World) : Calls Try.prog 3 #[.int .i64 s] w fun e w' => e = .returned (.bool true) ∧ Below w.heap.size w w' := by
  by_cases h : s < 1 ∨ 256 < s
  · exact lawNewDisk_bad s w h
  · obtain ⟨n, rfl⟩ := Int.eq_ofNat_of_zero_le (show 0 ≤ s by omega)
    exact lawNewDisk_ok n w (by omega) (by omega)
end Go.Proofs.Ytgfgaiimigchkaa
