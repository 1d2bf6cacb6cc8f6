/- Tables: measured, copied, compared (stage 11). -/
import Derived.Test.YteejkmcljokloaaGreatDoorIxB
namespace Go.Proofs.YteejkmcljokloaaGreatDoor
open Go.RowKit

abbrev fullB (g n : Nat) : Value := .slice (some ⟨g, 0, none⟩) n n
/-- A table: its name, its columns, its key, its indexes. -/
abbrev TT : Type := ByteArray × List TC × Int × List TX
/-- Its texts and lists are short. -/
def SmallT (x : TT) : Prop := x.1.size ≤ 1048576 ∧ (x.2.1.length ≤ 1048576 ∧ ∀ i, i < x.2.1.length → SmallC (nthC x.2.1 i)) ∧ x.2.2.2.length ≤ 1048576 ∧ ∀ i, i < x.2.2.2.length → SmallX (nthX x.2.2.2 i)
theorem SlabC.set {w : World} {g n k b o : Nat} {xs : List TC} {c : Array Value} (h : SlabC w g n xs k) (hb : w.heap[b]? = some (.cells c 59 (0, 0))) (v : Value) : SlabC (w.setCell ⟨b, o, none⟩ v) g n xs k := by
  obtain ⟨cur, hh, hs⟩ := h
  have ne : g ≠ b := fun e => by subst e; rw [hh] at hb; cases hb
  exact SlabC.at ⟨cur, hh, hs⟩ (Below.heap_setCell _ _ _ _ ne)
theorem SlabX.set {w : World} {g n k b o : Nat} {xs : List TX} {c : Array Value} (h : SlabX w g n xs k) (hb : w.heap[b]? = some (.cells c 59 (0, 0))) (v : Value) : SlabX (w.setCell ⟨b, o, none⟩ v) g n xs k := by
  obtain ⟨cur, hh, hs, hc⟩ := h
  have ne : g ≠ b := fun e => by subst e; rw [hh] at hb; cases hb
  refine ⟨cur, (Below.heap_setCell _ _ _ _ ne).trans hh, hs, fun i hi => ?_⟩
  obtain ⟨gi, h1, h2, h3, h5⟩ := hc i hi
  refine ⟨gi, h1, h2, h3, h5.at (Below.heap_setCell _ _ _ _ fun e => ?_)⟩
  obtain ⟨cu, hu, _⟩ := h5
  subst e
  rw [hu] at hb; cases hb

set_option maxRecDepth 100000 in
theorem szTb_any (nm : ByteArray) (ca xa : Option Addr) (cc xc : Nat) (cs : List TC) (key : Int) (xs : List TX) (left : Int) (w : World) (hc : RowC w ca cs) (hx : RowX w xa xs) (hn : nm.size ≤ maxLen) (lc : cs.length ≤ maxLen) (lx : xs.length ≤ maxLen) (h0 : 0 ≤ left) (h1 : left ≤ 1048576) :
    Calls Tryz.prog 17 #[TbV nm (.slice ca cs.length cc) key (.slice xa xs.length xc), .int .i64 left] w fun e w' => ∃ r : Int, e = .returned (.int .i64 r) ∧ -1 ≤ r ∧ r ≤ left ∧ (0 ≤ r → SmallT (nm, cs, key, xs)) ∧ Below w.heap.size w w' := by
  have HV : Hid (RowC w ca cs ∧ cs.length ≤ maxLen) := ⟨hc, lc⟩
  have HX : Hid (RowX w xa xs ∧ xs.length ≤ maxLen) := ⟨hx, lx⟩
  clear hc hx lc lx
  unfold maxLen at hn
  obtain ⟨W0, hW0⟩ : ∃ W0, w.alloc (.cells #[.string nm, .slice ca cs.length cc, .int .i64 key, .slice xa xs.length xc] 51) = W0 := ⟨_, rfl⟩
  have B0 : Below w.heap.size w W0 := hW0 ▸ (Below.refl _ _).alloc (Nat.le_refl _) _
  have X0 : Hid (W0.heap[w.heap.size]? = some (.cells #[.string nm, .slice ca cs.length cc, .int .i64 key, .slice xa xs.length xc] 51 (0, 0))) := (hW0 ▸ heap_new' _ _ _ rfl : W0.heap[w.heap.size]? = _)
  have c0 : W0.cell? ⟨w.heap.size, 0, none⟩ = some (.string nm) := by simp [World.cell?, X0.out]
  have c1 : W0.cell? ⟨w.heap.size, 1, none⟩ = some (.slice ca cs.length cc) := by simp [World.cell?, X0.out]
  by_cases d1 : left - (nm.size : Int) < 0
  · go_enter Tryz.func17, Tryz.ntmps17
    go_wp2
    go_ret
    exact ⟨-1, rfl, by omega, by omega, fun h => by omega, B0⟩
  go_enter Tryz.func17, Tryz.ntmps17
  go_wp2_with fail
  refine (szC_any ca cc cs (left - (nm.size : Int)) W0 (HV.out.1.below B0) HV.out.2 (by omega) (by omega)).mono ?_
  rintro e w1 ⟨x, rfl, x0, x1, x2, b1⟩
  have B1 := below_step B0 (Nat.le_refl _) b1
  have xx := kpBk X0.out b1 (slab_lt X0.out)
  have c3 : w1.cell? ⟨w.heap.size, 3, none⟩ = some (.slice xa xs.length xc) := by simp [World.cell?, xx]
  clear xx b1 B0 c1 c0 X0
  by_cases hx : x < 0
  · go_wp2
    go_ret
    exact ⟨-1, rfl, by omega, by omega, fun h => by omega, B1⟩
  have HS : Hid (cs.length ≤ 1048576 ∧ ∀ i, i < cs.length → SmallC (nthC cs i)) := ⟨by have := (x2 (by omega)).1; omega, (x2 (by omega)).2⟩
  clear x2
  go_wp2_with fail
  refine (szX_any xa xc xs x w1 (HX.out.1.below B1) HX.out.2 (by omega) (by omega)).mono ?_
  rintro e w2 ⟨y, rfl, y0, y1, y2, b2⟩
  have B2 := below_step B1 (Nat.le_refl _) b2
  by_cases hy : y < 0
  · go_wp2
    go_ret
    exact ⟨-1, rfl, by omega, by omega, fun h => by omega, B2⟩
  have HT : Hid (SmallT (nm, cs, key, xs)) := ⟨by show nm.size ≤ _; omega, HS.out, by have := (y2 (by omega)).1; show xs.length ≤ _; omega, (y2 (by omega)).2⟩
  clear y2
  go_wp2
  go_ret
  exact ⟨y, rfl, by omega, by omega, fun _ => HT.out, B2⟩

/-- What the law's copy of a table has; its lists lie from B on. -/
def TabIn (w : World) (B : Nat) (x : TT) (v : Value) : Prop := ∃ g1 g2, v = TbV x.1 (fullB g1 x.2.1.length) x.2.2.1 (fullB g2 x.2.2.2.length) ∧ (B ≤ g1 ∧ SlabC w g1 x.2.1.length x.2.1 x.2.1.length) ∧ (B ≤ g2 ∧ g1 < g2) ∧ SlabX w g2 x.2.2.2.length x.2.2.2 x.2.2.2.length
set_option maxRecDepth 100000 in
set_option maxHeartbeats 2000000 in
theorem toTb_any (nm : ByteArray) (ca xa : Option Addr) (cc xc : Nat) (cs : List TC) (key : Int) (xs : List TX) (w : World) (hc : RowC w ca cs) (hx : RowX w xa xs) (hz : SmallT (nm, cs, key, xs)) :
    Calls Tryz.prog 23 #[TbV nm (.slice ca cs.length cc) key (.slice xa xs.length xc)] w fun e w' => ∃ v, e = .returned v ∧ TabIn w' w.heap.size (nm, cs, key, xs) v ∧ Below w.heap.size w w' := by
  have HR : Hid (RowC w ca cs ∧ RowX w xa xs) := ⟨hc, hx⟩
  have HZ : Hid (SmallT (nm, cs, key, xs)) := hz
  clear hc hx hz
  obtain ⟨W0, hW0⟩ : ∃ W0, ((w.alloc (.cells #[.string nm, .slice ca cs.length cc, .int .i64 key, .slice xa xs.length xc] 51)).alloc (.cells #[.string ⟨#[]⟩, .slice none 0 0, .int .i64 0, .slice none 0 0] 59)).alloc (.cells #[.string nm, .slice none 0 0, .int .i64 0, .slice none 0 0] 59) = W0 := ⟨_, rfl⟩
  have B0 : Below w.heap.size w W0 := hW0 ▸ (((Below.refl _ _).alloc (Nat.le_refl _) _).alloc (by simp) _).alloc (by simp; omega) _
  have z0 : W0.heap.size = w.heap.size + 3 := by rw [← hW0]; simp
  have XP : Hid (W0.heap[w.heap.size]? = some (.cells #[.string nm, .slice ca cs.length cc, .int .i64 key, .slice xa xs.length xc] 51 (0, 0))) := (hW0 ▸ (heap_old _ _ _ (by simp; omega)).trans ((heap_old _ _ _ (by simp)).trans (heap_new' _ _ _ rfl)) : W0.heap[w.heap.size]? = _)
  have X1 : Hid (W0.heap[w.heap.size + 1]? = some (.cells #[.string ⟨#[]⟩, .slice none 0 0, .int .i64 0, .slice none 0 0] 59 (0, 0))) := (hW0 ▸ (heap_old _ _ _ (by simp)).trans (heap_new' _ _ _ (by simp)) : W0.heap[w.heap.size + 1]? = _)
  have X2 : Hid (W0.heap[w.heap.size + 1 + 1]? = some (.cells #[.string nm, .slice none 0 0, .int .i64 0, .slice none 0 0] 59 (0, 0))) := (hW0 ▸ heap_new' _ _ _ (by simp) : W0.heap[w.heap.size + 1 + 1]? = _)
  have c01 : W0.cell? ⟨w.heap.size, 1, none⟩ = some (.slice ca cs.length cc) := by simp [World.cell?, XP.out]
  go_enter Tryz.func23, Tryz.ntmps23
  go_wp2_with fail
  refine (toC_any ca cc cs W0 (HR.out.1.below B0) HZ.out.2.1.1).mono ?_
  rintro e w1 ⟨g1, rfl, hg1, hS1, b1⟩
  have xp := kpBk XP.out b1 (slab_lt XP.out)
  have x1 := kpBk X1.out b1 (slab_lt X1.out)
  have x2 := kpBk X2.out b1 (slab_lt X2.out)
  have B1 : Below w.heap.size w w1 := B0.trans (b1.mono B0.size)
  have z1 : W0.heap.size ≤ w1.heap.size := b1.size
  have c12 : w1.cell? ⟨w.heap.size, 2, none⟩ = some (.int .i64 key) := by simp [World.cell?, xp]
  have c21 : w1.cell? ⟨w.heap.size + 1 + 1, 1, none⟩ = some (.slice none 0 0) := by simp [World.cell?, x2]
  have c22 : w1.cell? ⟨w.heap.size + 1 + 1, 2, none⟩ = some (.int .i64 0) := by simp [World.cell?, x2]
  have f2 : ∀ q, w1.frozen? ⟨w.heap.size + 1 + 1, q, none⟩ = false := fun q => slab_free x2
  obtain ⟨W1, hW1⟩ : ∃ W1, (w1.setCell ⟨w.heap.size + 1 + 1, 1, none⟩ (fullB g1 cs.length)).setCell ⟨w.heap.size + 1 + 1, 2, none⟩ (.int .i64 key) = W1 := ⟨_, rfl⟩
  have YP : Hid (W1.heap[w.heap.size]? = some (.cells #[.string nm, .slice ca cs.length cc, .int .i64 key, .slice xa xs.length xc] 51 (0, 0))) := (hW1 ▸ (Below.heap_setCell _ _ _ _ (by simp; omega)).trans ((Below.heap_setCell _ _ _ _ (by simp; omega)).trans xp) : W1.heap[w.heap.size]? = _)
  have Y1 : Hid (W1.heap[w.heap.size + 1]? = some (.cells #[.string ⟨#[]⟩, .slice none 0 0, .int .i64 0, .slice none 0 0] 59 (0, 0))) := (hW1 ▸ (Below.heap_setCell _ _ _ _ (by simp)).trans ((Below.heap_setCell _ _ _ _ (by simp)).trans x1) : W1.heap[w.heap.size + 1]? = _)
  have Y2 : Hid (W1.heap[w.heap.size + 1 + 1]? = some (.cells #[.string nm, fullB g1 cs.length, .int .i64 key, .slice none 0 0] 59 (0, 0))) := (hW1 ▸ slab_set (slab_set x2 _) _ : W1.heap[w.heap.size + 1 + 1]? = _)
  have HS1 : Hid (SlabC W1 g1 cs.length cs cs.length) := (hW1 ▸ (hS1.set x2 _).set (slab_set x2 _) _ : SlabC W1 g1 cs.length cs cs.length)
  have B2 : Below w.heap.size w W1 := hW1 ▸ (B1.setCell (p := ⟨w.heap.size + 1 + 1, 1, none⟩) (by simp; omega) _).setCell (p := ⟨w.heap.size + 1 + 1, 2, none⟩) (by simp; omega) _
  have z2 : W1.heap.size = w1.heap.size := by rw [← hW1]; simp [World.setCell]
  have c13 : W1.cell? ⟨w.heap.size, 3, none⟩ = some (.slice xa xs.length xc) := by simp [World.cell?, YP.out]
  have HG : Hid (w.heap.size ≤ g1) := (by omega : w.heap.size ≤ g1)
  clear xp x1 x2 hS1 b1 XP X1 X2 B0 hW0 c01 hg1
  go_wp2_with fail
  refine (toX_any xa xc xs W1 (HR.out.2.below B2) HZ.out.2.2.1 HZ.out.2.2.2).mono ?_
  rintro e w2 ⟨g2, rfl, hg2, hS2, b2⟩
  have x1 := kpBk Y1.out b2 (slab_lt Y1.out)
  have x2 := kpBk Y2.out b2 (slab_lt Y2.out)
  have hV := HS1.out.below b2 HS1.out.lt
  have B3 : Below w.heap.size w w2 := B2.trans (b2.mono B2.size)
  have HG2 : Hid (w.heap.size ≤ g2 ∧ g1 < g2) := ⟨by omega, Nat.lt_of_lt_of_le HS1.out.lt hg2⟩
  have d10 : w2.cell? ⟨w.heap.size + 1, 0, none⟩ = some (.string ⟨#[]⟩) := by simp [World.cell?, x1]
  have d11 : w2.cell? ⟨w.heap.size + 1, 1, none⟩ = some (.slice none 0 0) := by simp [World.cell?, x1]
  have d12 : w2.cell? ⟨w.heap.size + 1, 2, none⟩ = some (.int .i64 0) := by simp [World.cell?, x1]
  have d13 : w2.cell? ⟨w.heap.size + 1, 3, none⟩ = some (.slice none 0 0) := by simp [World.cell?, x1]
  have d20 : w2.cell? ⟨w.heap.size + 1 + 1, 0, none⟩ = some (.string nm) := by simp [World.cell?, x2]
  have d21 : w2.cell? ⟨w.heap.size + 1 + 1, 1, none⟩ = some (fullB g1 cs.length) := by simp [World.cell?, x2]
  have d22 : w2.cell? ⟨w.heap.size + 1 + 1, 2, none⟩ = some (.int .i64 key) := by simp [World.cell?, x2]
  have d23 : w2.cell? ⟨w.heap.size + 1 + 1, 3, none⟩ = some (.slice none 0 0) := by simp [World.cell?, x2]
  have f1 : ∀ q, w2.frozen? ⟨w.heap.size + 1, q, none⟩ = false := fun q => slab_free x1
  have f3 : ∀ q, w2.frozen? ⟨w.heap.size + 1 + 1, q, none⟩ = false := fun q => slab_free x2
  have y1 : (w2.setCell ⟨w.heap.size + 1 + 1, 3, none⟩ (fullB g2 xs.length)).heap[w.heap.size + 1]? = _ := (Below.heap_setCell _ _ _ _ (by simp)).trans x1
  have HF : Hid (SlabC (((((w2.setCell ⟨w.heap.size + 1 + 1, 3, none⟩ (fullB g2 xs.length)).setCell ⟨w.heap.size + 1, 0, none⟩ (.string nm)).setCell ⟨w.heap.size + 1, 1, none⟩ (fullB g1 cs.length)).setCell ⟨w.heap.size + 1, 2, none⟩ (.int .i64 key)).setCell ⟨w.heap.size + 1, 3, none⟩ (fullB g2 xs.length)) g1 cs.length cs cs.length ∧ SlabX (((((w2.setCell ⟨w.heap.size + 1 + 1, 3, none⟩ (fullB g2 xs.length)).setCell ⟨w.heap.size + 1, 0, none⟩ (.string nm)).setCell ⟨w.heap.size + 1, 1, none⟩ (fullB g1 cs.length)).setCell ⟨w.heap.size + 1, 2, none⟩ (.int .i64 key)).setCell ⟨w.heap.size + 1, 3, none⟩ (fullB g2 xs.length)) g2 xs.length xs xs.length) :=
    ⟨((((hV.set x2 _).set y1 _).set (slab_set y1 _) _).set (slab_set (slab_set y1 _) _) _).set (slab_set (slab_set (slab_set y1 _) _) _) _, ((((hS2.set x2 _).set y1 _).set (slab_set y1 _) _).set (slab_set (slab_set y1 _) _) _).set (slab_set (slab_set (slab_set y1 _) _) _) _⟩
  clear x1 x2 y1 hS2 hV b2 B2 Y1 Y2 YP hW1 c13 c21 c22 c12 f2 HS1
  go_wp2
  refine bodyPost_ret (v := TbV nm (fullB g1 cs.length) key (fullB g2 xs.length)) (by go_simp; simp [results, Tryz.results23, go_sem, d10, d11, d12, d13]) rfl ⟨_, rfl, ⟨g1, g2, rfl, ⟨HG.out, HF.out.1⟩, HG2.out, HF.out.2⟩, ?_⟩
  exact ((((B3.setCell (p := ⟨w.heap.size + 1 + 1, 3, none⟩) (by simp; omega) _).setCell (p := ⟨w.heap.size + 1, 0, none⟩) (by simp) _).setCell (p := ⟨w.heap.size + 1, 1, none⟩) (by simp) _).setCell (p := ⟨w.heap.size + 1, 2, none⟩) (by simp) _).setCell (p := ⟨w.heap.size + 1, 3, none⟩) (by simp) _

set_option maxRecDepth 100000 in
theorem eqTb_same (nm : ByteArray) (ca xa ca' xa' : Option Addr) (cc xc cc' xc' : Nat) (cs : List TC) (key : Int) (xs : List TX) (w : World) (hv : RowC w ca cs) (hx : RowX w xa xs) (hv' : RowC w ca' cs) (hx' : RowX w xa' xs) (hz : SmallT (nm, cs, key, xs)) :
    Calls Tryz.prog 30 #[TbV nm (.slice ca cs.length cc) key (.slice xa xs.length xc), TbV nm (.slice ca' cs.length cc') key (.slice xa' xs.length xc')] w fun e w' => e = .returned (.bool true) ∧ Below w.heap.size w w' := by
  obtain ⟨W0, hW0⟩ : ∃ W0, (w.alloc (.cells #[.string nm, .slice ca cs.length cc, .int .i64 key, .slice xa xs.length xc] 59)).alloc (.cells #[.string nm, .slice ca' cs.length cc', .int .i64 key, .slice xa' xs.length xc'] 59) = W0 := ⟨_, rfl⟩
  have B0 : Below w.heap.size w W0 := hW0 ▸ ((Below.refl _ _).alloc (Nat.le_refl _) _).alloc (by simp) _
  have H1 : Hid (W0.heap[w.heap.size]? = some (.cells #[.string nm, .slice ca cs.length cc, .int .i64 key, .slice xa xs.length xc] 59 (0, 0)) ∧ W0.heap[w.heap.size + 1]? = some (.cells #[.string nm, .slice ca' cs.length cc', .int .i64 key, .slice xa' xs.length xc'] 59 (0, 0))) := ⟨hW0 ▸ (heap_old _ _ _ (by simp)).trans (heap_new' _ _ _ rfl), hW0 ▸ heap_new' _ _ _ (by simp)⟩
  have HR : Hid ((RowC W0 ca cs ∧ RowC W0 ca' cs) ∧ RowX W0 xa xs ∧ RowX W0 xa' xs) := ⟨⟨hv.below B0, hv'.below B0⟩, hx.below B0, hx'.below B0⟩
  have HZ : Hid (SmallT (nm, cs, key, xs)) := hz
  clear hv hx hv' hx' hz
  have p0 : W0.cell? ⟨w.heap.size, 0, none⟩ = some (.string nm) := by simp [World.cell?, H1.out.1]
  have p1 : W0.cell? ⟨w.heap.size, 1, none⟩ = some (.slice ca cs.length cc) := by simp [World.cell?, H1.out.1]
  have q0 : W0.cell? ⟨w.heap.size + 1, 0, none⟩ = some (.string nm) := by simp [World.cell?, H1.out.2]
  have q1 : W0.cell? ⟨w.heap.size + 1, 1, none⟩ = some (.slice ca' cs.length cc') := by simp [World.cell?, H1.out.2]
  go_enter Tryz.func30, Tryz.ntmps30
  go_wp2_with fail
  refine (eqC_same ca ca' cc cc' cs W0 HR.out.1.1 HR.out.1.2 HZ.out.2.1.1).mono ?_
  rintro e w1 ⟨rfl, b1⟩
  have B1 := below_step B0 (Nat.le_refl _) b1
  have x1 := kpBk H1.out.1 b1 (slab_lt H1.out.1)
  have x2 := kpBk H1.out.2 b1 (slab_lt H1.out.2)
  have p2 : w1.cell? ⟨w.heap.size, 2, none⟩ = some (.int .i64 key) := by simp [World.cell?, x1]
  have q2 : w1.cell? ⟨w.heap.size + 1, 2, none⟩ = some (.int .i64 key) := by simp [World.cell?, x2]
  have p3 : w1.cell? ⟨w.heap.size, 3, none⟩ = some (.slice xa xs.length xc) := by simp [World.cell?, x1]
  have q3 : w1.cell? ⟨w.heap.size + 1, 3, none⟩ = some (.slice xa' xs.length xc') := by simp [World.cell?, x2]
  have HR2 : Hid (RowX w1 xa xs ∧ RowX w1 xa' xs) := ⟨HR.out.2.1.below b1, HR.out.2.2.below b1⟩
  clear x1 x2 b1 p0 p1 q0 q1 H1 HR
  go_wp2_with fail
  refine (eqX_same xa xa' xc xc' xs w1 HR2.out.1 HR2.out.2 HZ.out.2.2.1 HZ.out.2.2.2).mono ?_
  rintro e w2 ⟨rfl, b2⟩
  have B2 := below_step B1 (Nat.le_refl _) b2
  clear b2
  go_wp2
  go_ret
  exact ⟨rfl, B2⟩
end Go.Proofs.YteejkmcljokloaaGreatDoor
