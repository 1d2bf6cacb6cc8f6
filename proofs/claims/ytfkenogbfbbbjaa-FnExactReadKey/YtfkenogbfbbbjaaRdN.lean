/- The law ReadRow, walked. -/
import Derived.Test.YtfkenogbfbbbjaaRdM
import Derived.Test.YtfkenogbfbbbjaaRdR
namespace Go.Proofs.Ytfkenogbfbbbjaa
open Go.RowKit

theorem RowV.but {w w' : World} {a : Option Addr} {vs : List V3} {g : Nat} (h : RowV w a vs) (hB : But g w w') (hne : ∀ i, i < vs.length → ∀ b off, a = some ⟨b, off, none⟩ → b ≠ g) : RowV w' a vs := fun i hi => by
  obtain ⟨b, off, e, hlt, hc, hs⟩ := h i hi
  have hb := hne i hi b off e
  exact ⟨b, off, e, Nat.lt_of_lt_of_le hlt hB.size, ⟨(hB.cell (p := ⟨b, off + i * 3, none⟩) hlt hb).trans hc.1, (hB.cell (p := ⟨b, off + i * 3 + 1, none⟩) hlt hb).trans hc.2.1, (hB.cell (p := ⟨b, off + i * 3 + 2, none⟩) hlt hb).trans hc.2.2⟩, hs⟩
/-- A row that was read earlier lies below what was made later. -/
theorem RowV.far {w0 : World} {a : Option Addr} {vs : List V3} {g : Nat} (h : RowV w0 a vs) (hg : w0.heap.size ≤ g) : ∀ i, i < vs.length → ∀ b off, a = some ⟨b, off, none⟩ → b ≠ g := fun i hi b off e => by
  obtain ⟨b', off', e', hlt, _⟩ := h i hi
  rw [e] at e'
  cases e'
  omega
/-- A row of n values in a block of its own from B on (none where there is none). -/
def OwnM (w : World) (B : Nat) (a : Option Addr) (n : Nat) (k0 : Int) (j : Nat) : Prop := n = 0 ∨ ∃ g, a = some ⟨g, 0, none⟩ ∧ B ≤ g ∧ MarkV w g n k0 j
theorem OwnM.below {w w' : World} {B n j : Nat} {a : Option Addr} {k0 : Int} (h : OwnM w B a n k0 j) (hb : Below w.heap.size w w') : OwnM w' B a n k0 j := by
  rcases h with h | ⟨g, e, hB, hm⟩
  · exact .inl h
  · exact .inr ⟨g, e, hB, hm.below hb⟩
theorem MarkV.but {w w' : World} {g g2 n : Nat} {k0 : Int} {j : Nat} (h : MarkV w g n k0 j) (hB : But g2 w w') (hne : g ≠ g2) : MarkV w' g n k0 j := by
  have hl := h.lt
  obtain ⟨cur, hh, r⟩ := h
  exact ⟨cur, (hB.block g hl hne).trans hh, r⟩
theorem OwnM.but {w w' : World} {B n j g2 : Nat} {a : Option Addr} {k0 : Int} (h : OwnM w B a n k0 j) (hB : But g2 w w') (hg : g2 < B) : OwnM w' B a n k0 j := by
  rcases h with h | ⟨g, e, hBg, hm⟩
  · exact .inl h
  · exact .inr ⟨g, e, hBg, hm.but hB (by omega)⟩
theorem own_M {w : World} {B : Nat} {a : Option Addr} {c : Nat} {vs : List V3} (k0 : Int) (h : w.ownsRow B 24 3 (.slice a vs.length c) vs.length (cells3 vs)) : OwnM w B a vs.length k0 0 := by
  rcases h.2 with ⟨_, h0⟩ | ⟨g, cap, cur, e, hB, hh, hn, _, hcs, _⟩
  · exact .inl h0
  · cases e
    exact .inr ⟨g, rfl, hB, cur, hh, by rw [hcs]; exact Nat.mul_le_mul_right 3 hn, fun i hi => by omega⟩

theorem markN_none (a : Option Addr) (cap : Nat) (k0 : Int) (w : World) :
    Calls Try.prog 35 #[.slice a 0 cap, .int .i64 k0] w fun e w' => e = .returned (.int .i64 k0) ∧ w' = w := by
  go_enter Try.func35, Try.ntmps35
  go_wp2
  go_loopw [1, 5] (fun kk i wr => kk = .int .i64 k0 ∧ i = .int .i64 0 ∧ wr = w) (fun _ _ _ => 0)
  case atStart => exact ⟨rfl, rfl, rfl⟩
  case round =>
    obtain ⟨rfl, rfl, rfl⟩ := hrel
    go_wp2
    go_ret
    exact ⟨rfl, rfl⟩
theorem heldN_none (a : Option Addr) (cap : Nat) (k0 : Int) (w : World) :
    Calls Try.prog 40 #[.slice a 0 cap, .int .i64 k0] w fun e w' => e = .returned (.int .i64 k0) ∧ w' = w := by
  go_enter Try.func40, Try.ntmps40
  go_wp2
  go_loopw [1, 5] (fun kk i wr => kk = .int .i64 k0 ∧ i = .int .i64 0 ∧ wr = w) (fun _ _ _ => 0)
  case atStart => exact ⟨rfl, rfl, rfl⟩
  case round =>
    obtain ⟨rfl, rfl, rfl⟩ := hrel
    go_wp2
    go_ret
    exact ⟨rfl, rfl⟩
theorem markM_any (a : Option Addr) (B n cap : Nat) (k0 : Int) (w : World) (h : OwnM w B a n k0 0) (hn : n ≤ 1048576) (h0 : 0 ≤ k0) (h1 : k0 ≤ 1000) :
    Calls Try.prog 35 #[.slice a n cap, .int .i64 k0] w fun e w' => e = .returned (.int .i64 (k0 + 3 * n)) ∧ OwnM w' B a n k0 n ∧ (w' = w ∨ ∃ g, B ≤ g ∧ But g w w') := by
  rcases h with rfl | ⟨g, rfl, hB, hm⟩
  · refine (markN_none a cap k0 w).mono ?_
    rintro e w' ⟨rfl, rfl⟩
    exact ⟨ret_int' (by simp), .inl rfl, .inl rfl⟩
  · refine (markV_any g n cap k0 w hm hn h0 h1).mono ?_
    rintro e w' ⟨rfl, hm', hb⟩
    exact ⟨rfl, .inr ⟨g, rfl, hB, hm'⟩, .inr ⟨g, hB, hb⟩⟩
theorem heldM_any (a : Option Addr) (B n cap : Nat) (k0 : Int) (w : World) (h : OwnM w B a n k0 n) (hn : n ≤ 1048576) (h0 : 0 ≤ k0) (h1 : k0 ≤ 1000) :
    Calls Try.prog 40 #[.slice a n cap, .int .i64 k0] w fun e w' => e = .returned (.int .i64 (k0 + 3 * n)) ∧ Below w.heap.size w w' := by
  rcases h with rfl | ⟨g, rfl, hB, hm⟩
  · refine (heldN_none a cap k0 w).mono ?_
    rintro e w' ⟨rfl, rfl⟩
    exact ⟨ret_int' (by simp), Below.refl _ _⟩
  · exact heldV_any g n cap k0 w hm hn h0 h1

theorem SlabB.own {w : World} {g n : Nat} {f : Nat → Int} (h : SlabB w g n f n) : OwnB w (some ⟨g, 0, none⟩) n f := by
  obtain ⟨cur, hh, hs, hc⟩ := h
  exact .inr ⟨g, cur, 0, 0, rfl, hh, by omega, .inl rfl, hc⟩
theorem SlabB.below {w w' : World} {g n k : Nat} {f : Nat → Int} (h : SlabB w g n f k) (hb : Below w.heap.size w w') : SlabB w' g n f k := by
  have hl := h.lt
  obtain ⟨cur, hh, r⟩ := h
  exact ⟨cur, (hb.block g hl).trans hh, r⟩

set_option maxRecDepth 100000 in
set_option maxHeartbeats 8000000 in
theorem lawReadRow (a : Option Addr) (cap n : Nat) (f : Nat → Int) (w : World) (h : ReadB w a n f) (hf : Bys f n) (hl : n ≤ maxLen) :
    Calls Try.prog 12 #[.slice a n cap] w fun e w' => e = .returned (.bool true) ∧ Below w.heap.size w w' := by
  have H0 : Hid (ReadB w a n f) := h
  have HF : Hid (Bys f n) := hf
  clear h hf
  unfold maxLen at hl
  by_cases hx : 1048576 < n
  · have hxI : (1048576 : Int) < (n : Int) := by omega
    go_enter Try.func12, Try.ntmps12
    go_wp2
    go_ret
    exact ⟨rfl, Below.refl _ _⟩
  have hn : n ≤ 1048576 := by omega
  have hxI : ¬ (1048576 : Int) < (n : Int) := by omega
  obtain ⟨hs8, hsz⟩ := rowR_small f n
  have HZ : Hid (∀ u ∈ (rowR f n).2, u.2.2.size ≤ 255) := hsz
  obtain ⟨vs, hvs⟩ : ∃ vs, (rowR f n).2 = vs := ⟨_, rfl⟩
  obtain ⟨cd, hcd⟩ : ∃ cd, (rowR f n).1 = cd := ⟨_, rfl⟩
  rw [hvs] at hs8 HZ
  have HP : Hid (rowR f n = (cd, vs)) := by show _ = _; rw [← hvs, ← hcd]
  have hg0 : vs.length ≤ 1048576 := by omega
  have HG : Hid (vs.length ≤ 1048576) := hg0
  clear hsz hvs hcd hx
  go_enter Try.func12, Try.ntmps12
  -- spec's answer
  go_wp2_with fail
  refine (toB_any a cap n f w H0.out hn).mono ?_
  rintro e w1 ⟨g1, rfl, _, S1, B1⟩
  have K1 : Hid (SlabB w1 g1 n f n) := S1
  clear S1
  go_wp2_with fail
  refine (specReadRow_any g1 0 n n f w1 K1.out.read K1.out.lt HF.out (Nat.le_refl _) hn).mono ?_
  rw [HP.out]
  rintro e w2 ⟨v2, rfl, ho2, b2⟩
  obtain ⟨a4, c4, rfl, R4⟩ := own_rowV ho2 HZ.out
  have B2 := below_step B1 (Nat.le_refl _) b2
  have HR2 : Hid (RowV w2 a4 vs) := R4
  clear ho2 R4 b2 B1 K1
  -- impl's answer
  go_wp2_with fail
  refine (toB_any a cap n f w2 (H0.out.below B2) hn).mono ?_
  rintro e w3 ⟨g6, rfl, hg6, S6, b3⟩
  have B3 := below_step B2 (Nat.le_refl _) b3
  have K6 : Hid (SlabB w3 g6 n f n) := S6
  have G6 : Hid (w2.heap.size ≤ g6) := hg6
  have L6 : Hid (g6 < w3.heap.size) := S6.lt
  have HR3 : Hid (RowV w3 a4 vs) := HR2.out.below b3
  have HB2 : Hid (Below w.heap.size w w2) := B2
  clear S6 hg6 b3 B2
  go_wp2_with fail
  refine (implReadRow_any (some ⟨g6, 0, none⟩) n n f w3 K6.out.read HF.out (Nat.le_refl _) hn).mono ?_
  rw [HP.out]
  rintro e w4 ⟨v4, rfl, ho4, b4⟩
  obtain ⟨a7, c7, rfl, R7⟩ := own_rowV ho4 HZ.out
  have B4 := below_step B3 (Nat.le_refl _) b4
  have HM4 : Hid (OwnM w4 w3.heap.size a7 vs.length 1 0) := own_M 1 ho4
  have F7 : Hid (∀ i, i < vs.length → ∀ b off, a7 = some ⟨b, off, none⟩ → b ≠ g6) := fun i hi b off e => by
    have hL := L6.out
    rcases ho4.2 with ⟨h, h0⟩ | ⟨g, cp, cur, h, hB, _⟩
    · simp only at h0; omega
    · subst e; cases h; omega
  have HR4 : Hid (RowV w4 a4 vs) := HR3.out.below b4
  have HR7 : Hid (RowV w4 a7 vs) := R7
  have K64 : Hid (SlabB w4 g6 n f n) := K6.out.below b4
  have HB3 : Hid (Below w.heap.size w w3) := B3
  clear ho4 R7 b4 HR3 K6 B3
  go_wp2_with fail
  refine (eqS_same a7 a4 _ _ vs w4 HR7.out HR4.out HG.out).mono ?_
  rintro e w5 ⟨rfl, b5⟩
  have B5 := below_step B4 (Nat.le_refl _) b5
  have HM5 : Hid (OwnM w5 w3.heap.size a7 vs.length 1 0) := HM4.out.below b5
  have HR45 : Hid (RowV w5 a4 vs) := HR4.out.below b5
  have HR75 : Hid (RowV w5 a7 vs) := HR7.out.below b5
  have K65 : Hid (SlabB w5 g6 n f n) := K64.out.below b5
  clear HM4 HR4 HR7 K64 b5 B4
  -- the argument is as it was
  go_wp2_with fail
  refine (toB_any a cap n f w5 (H0.out.below B5) hn).mono ?_
  rintro e w6 ⟨g8, rfl, _, S8, b6⟩
  have B6 := below_step B5 (Nat.le_refl _) b6
  have HM6 : Hid (OwnM w6 w3.heap.size a7 vs.length 1 0) := HM5.out.below b6
  have HR46 : Hid (RowV w6 a4 vs) := HR45.out.below b6
  have HR76 : Hid (RowV w6 a7 vs) := HR75.out.below b6
  have K66 : Hid (SlabB w6 g6 n f n) := K65.out.below b6
  have K8 : Hid (SlabB w6 g8 n f n) := S8
  clear HM5 HR45 HR75 K65 b6 B5 S8
  go_wp2_with fail
  refine (eqB_same _ _ _ _ n f w6 K66.out.read K8.out.read (by omega)).mono ?_
  rintro e w7 ⟨rfl, b7⟩
  have B7 := below_step B6 (Nat.le_refl _) b7
  have HM7 : Hid (OwnM w7 w3.heap.size a7 vs.length 1 0) := HM6.out.below b7
  have HR47 : Hid (RowV w7 a4 vs) := HR46.out.below b7
  have HR77 : Hid (RowV w7 a7 vs) := HR76.out.below b7
  have K67 : Hid (SlabB w7 g6 n f n) := K66.out.below b7
  clear HM6 HR46 HR76 K66 K8 b7 B6
  -- the argument is marked
  go_wp2_with fail
  refine (markB_any (some ⟨g6, 0, none⟩) _ n f 1 w7 K67.out.own (by omega) (by omega) (by omega)).mono ?_
  rintro e w8 ⟨rfl, _, hbut, hz8⟩
  have hbut' : But g6 w7 w8 := hbut
  have B8 : Below w.heap.size w w8 := hbut'.below B7 (Nat.le_trans HB2.out.size G6.out) B7.size
  have HM8 : Hid (OwnM w8 w3.heap.size a7 vs.length 1 0) := HM7.out.but hbut' L6.out
  have HR48 : Hid (RowV w8 a4 vs) := HR47.out.but hbut' (HR2.out.far G6.out)
  have HR78 : Hid (RowV w8 a7 vs) := HR77.out.but hbut' F7.out
  clear HM7 HR47 HR77 K67 hbut hbut' hz8 B7
  go_wp2_with fail
  refine (eqS_same a7 a4 _ _ vs w8 HR78.out HR48.out HG.out).mono ?_
  rintro e w9 ⟨rfl, b9⟩
  have B9 := below_step B8 (Nat.le_refl _) b9
  have HM9 : Hid (OwnM w9 w3.heap.size a7 vs.length 1 0) := HM8.out.below b9
  have HR49 : Hid (RowV w9 a4 vs) := HR48.out.below b9
  clear HM8 HR48 HR78 b9 B8
  -- the answer is marked
  go_wp2_with fail
  refine (markM_any a7 w3.heap.size vs.length _ 1 w9 HM9.out HG.out (by omega) (by omega)).mono ?_
  rintro e w10 ⟨rfl, hm10, hside⟩
  have hB10 : Below w.heap.size w w10 ∧ RowV w10 a4 vs := by
    rcases hside with rfl | ⟨g, hg, hb⟩
    · exact ⟨B9, HR49.out⟩
    · have hsz := HB3.out.size
      have h2 := L6.out
      have h3 := G6.out
      exact ⟨hb.below B9 (by omega) B9.size, HR49.out.but hb (HR2.out.far (by omega))⟩
  obtain ⟨B10, R410⟩ := hB10
  have HM10 : Hid (OwnM w10 w3.heap.size a7 vs.length 1 vs.length) := hm10
  have HR410 : Hid (RowV w10 a4 vs) := R410
  clear hm10 hside HM9 HR49 R410 B9
  go_wp2_with fail
  refine (heldM_any a7 w3.heap.size vs.length _ 1 w10 HM10.out HG.out (by omega) (by omega)).mono ?_
  rintro e w11 ⟨rfl, b11⟩
  have B11 := below_step B10 (Nat.le_refl _) b11
  have HM11 : Hid (OwnM w11 w3.heap.size a7 vs.length 1 vs.length) := HM10.out.below b11
  have HR411 : Hid (RowV w11 a4 vs) := HR410.out.below b11
  clear HM10 HR410 b11 B10
  -- once more
  go_wp2_with fail
  refine (toB_any a cap n f w11 (H0.out.below B11) hn).mono ?_
  rintro e w12 ⟨g12, rfl, _, S12, b12⟩
  have B12 := below_step B11 (Nat.le_refl _) b12
  have HM12 : Hid (OwnM w12 w3.heap.size a7 vs.length 1 vs.length) := HM11.out.below b12
  have HR412 : Hid (RowV w12 a4 vs) := HR411.out.below b12
  have K12 : Hid (SlabB w12 g12 n f n) := S12
  clear HM11 HR411 b12 B11 S12
  go_wp2_with fail
  refine (implReadRow_any (some ⟨g12, 0, none⟩) n n f w12 K12.out.read HF.out (Nat.le_refl _) hn).mono ?_
  rw [HP.out]
  rintro e w13 ⟨v13, rfl, ho13, b13⟩
  obtain ⟨a13, c13, rfl, R13⟩ := own_rowV ho13 HZ.out
  have B13 := below_step B12 (Nat.le_refl _) b13
  have HM13 : Hid (OwnM w13 w3.heap.size a7 vs.length 1 vs.length) := HM12.out.below b13
  have HR413 : Hid (RowV w13 a4 vs) := HR412.out.below b13
  have HR13 : Hid (RowV w13 a13 vs) := R13
  clear HM12 HR412 b13 B12 K12 ho13 R13
  go_wp2_with fail
  refine (eqS_same a13 a4 _ _ vs w13 HR13.out HR413.out HG.out).mono ?_
  rintro e w14 ⟨rfl, b14⟩
  have B14 := below_step B13 (Nat.le_refl _) b14
  have HM14 : Hid (OwnM w14 w3.heap.size a7 vs.length 1 vs.length) := HM13.out.below b14
  clear HM13 HR413 HR13 b14 B13
  go_wp2_with fail
  refine (heldM_any a7 w3.heap.size vs.length _ 1 w14 HM14.out HG.out (by omega) (by omega)).mono ?_
  rintro e w15 ⟨rfl, b15⟩
  have B15 := below_step B14 (Nat.le_refl _) b15
  clear HM14 b15 B14
  go_wp2
  go_ret
  exact ⟨rfl, B15⟩
end Go.Proofs.Ytfkenogbfbbbjaa
