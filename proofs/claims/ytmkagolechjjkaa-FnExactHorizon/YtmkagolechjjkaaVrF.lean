/- Bases: copied, compared (stage 7). -/
import Derived.Test.YtmkagolechjjkaaVrE
namespace Go.Proofs.Ytmkagolechjjkaa
open Go.RowKit

abbrev fullS (g n : Nat) : Value := .slice (some ⟨g, 0, none⟩) n n
theorem SlabV.set {w : World} {g n k b o : Nat} {xs : List TV} {c : Array Value} (h : SlabV w g n xs k) (hb : w.heap[b]? = some (.cells c 25 (0, 0))) (v : Value) : SlabV (w.setCell ⟨b, o, none⟩ v) g n xs k := by
  obtain ⟨cur, hh, hs⟩ := h
  have ne : g ≠ b := fun e => by subst e; rw [hh] at hb; cases hb
  exact SlabV.at ⟨cur, hh, hs⟩ (Below.heap_setCell _ _ _ _ ne)
theorem SlabX.set {w : World} {g n k b o : Nat} {xs : List TX} {c : Array Value} (h : SlabX w g n xs k) (hb : w.heap[b]? = some (.cells c 25 (0, 0))) (v : Value) : SlabX (w.setCell ⟨b, o, none⟩ v) g n xs k := by
  obtain ⟨cur, hh, hs, hc⟩ := h
  have ne : g ≠ b := fun e => by subst e; rw [hh] at hb; cases hb
  refine ⟨cur, (Below.heap_setCell _ _ _ _ ne).trans hh, hs, fun i hi => ?_⟩
  obtain ⟨gi, h1, h2, h3, h4, h5⟩ := hc i hi
  refine ⟨gi, h1, h2, h3, h4, h5.at (Below.heap_setCell _ _ _ _ fun e => ?_)⟩
  obtain ⟨cu, hu, _⟩ := h5
  subst e
  rw [hu] at hb; cases hb

/-- What the law's copy of a base has. -/
def BaseIn (w : World) (t : Int) (vs : List TV) (xs : List TX) (v : Value) : Prop := ∃ g1 g2, v = BW t (fullS g1 vs.length) (fullS g2 xs.length) ∧ SlabV w g1 vs.length vs vs.length ∧ SlabX w g2 xs.length xs xs.length
set_option maxRecDepth 100000 in
set_option maxHeartbeats 2000000 in
theorem toB_any (t : Int) (va xa : Option Addr) (vc xc : Nat) (vs : List TV) (xs : List TX) (w : World) (hv : RowV w va vs) (hx : RowX w xa xs) (lv : vs.length ≤ 1048576) (lx : xs.length ≤ 1048576) (hz : ∀ i, i < xs.length → SmallX (nthX xs i)) :
    Calls Try.prog 15 #[BW t (.slice va vs.length vc) (.slice xa xs.length xc)] w fun e w' => ∃ v, e = .returned v ∧ BaseIn w' t vs xs v ∧ Below w.heap.size w w' := by
  have HR : Hid (RowV w va vs ∧ RowX w xa xs) := ⟨hv, hx⟩
  have HZ : Hid (∀ i, i < xs.length → SmallX (nthX xs i)) := hz
  clear hv hx hz
  obtain ⟨W0, hW0⟩ : ∃ W0, ((w.alloc (.cells #[.int .i64 t, .slice va vs.length vc, .slice xa xs.length xc] 33)).alloc (.cells #[.int .i64 0, .slice none 0 0, .slice none 0 0] 25)).alloc (.cells #[.int .i64 t, .slice none 0 0, .slice none 0 0] 25) = W0 := ⟨_, rfl⟩
  have B0 : Below w.heap.size w W0 := hW0 ▸ (((Below.refl _ _).alloc (Nat.le_refl _) _).alloc (by simp) _).alloc (by simp; omega) _
  have z0 : W0.heap.size = w.heap.size + 3 := by rw [← hW0]; simp
  have XP : Hid (W0.heap[w.heap.size]? = some (.cells #[.int .i64 t, .slice va vs.length vc, .slice xa xs.length xc] 33 (0, 0))) := (hW0 ▸ (heap_old _ _ _ (by simp; omega)).trans ((heap_old _ _ _ (by simp)).trans (heap_new' _ _ _ rfl)) : W0.heap[w.heap.size]? = _)
  have X1 : Hid (W0.heap[w.heap.size + 1]? = some (.cells #[.int .i64 0, .slice none 0 0, .slice none 0 0] 25 (0, 0))) := (hW0 ▸ (heap_old _ _ _ (by simp)).trans (heap_new' _ _ _ (by simp)) : W0.heap[w.heap.size + 1]? = _)
  have X2 : Hid (W0.heap[w.heap.size + 1 + 1]? = some (.cells #[.int .i64 t, .slice none 0 0, .slice none 0 0] 25 (0, 0))) := (hW0 ▸ heap_new' _ _ _ (by simp) : W0.heap[w.heap.size + 1 + 1]? = _)
  have c01 : W0.cell? ⟨w.heap.size, 1, none⟩ = some (.slice va vs.length vc) := by simp [World.cell?, XP.out]
  go_enter Try.func15, Try.ntmps15
  go_wp2_with fail
  refine (toV_any va vc vs W0 (HR.out.1.below B0) lv).mono ?_
  rintro e w1 ⟨g1, rfl, hg1, hS1, b1⟩
  have xp := kpBlk XP.out b1 (slab_lt XP.out)
  have x1 := kpBlk X1.out b1 (slab_lt X1.out)
  have x2 := kpBlk X2.out b1 (slab_lt X2.out)
  have B1 : Below w.heap.size w w1 := B0.trans (b1.mono B0.size)
  have c21 : w1.cell? ⟨w.heap.size + 1 + 1, 1, none⟩ = some (.slice none 0 0) := by simp [World.cell?, x2]
  have f2 : ∀ q, w1.frozen? ⟨w.heap.size + 1 + 1, q, none⟩ = false := fun q => slab_free x2
  obtain ⟨W1, hW1⟩ : ∃ W1, w1.setCell ⟨w.heap.size + 1 + 1, 1, none⟩ (fullS g1 vs.length) = W1 := ⟨_, rfl⟩
  have YP : Hid (W1.heap[w.heap.size]? = some (.cells #[.int .i64 t, .slice va vs.length vc, .slice xa xs.length xc] 33 (0, 0))) := (hW1 ▸ (Below.heap_setCell _ _ _ _ (by simp; omega)).trans xp : W1.heap[w.heap.size]? = _)
  have Y1 : Hid (W1.heap[w.heap.size + 1]? = some (.cells #[.int .i64 0, .slice none 0 0, .slice none 0 0] 25 (0, 0))) := (hW1 ▸ (Below.heap_setCell _ _ _ _ (by simp)).trans x1 : W1.heap[w.heap.size + 1]? = _)
  have Y2 : Hid (W1.heap[w.heap.size + 1 + 1]? = some (.cells #[.int .i64 t, fullS g1 vs.length, .slice none 0 0] 25 (0, 0))) := (hW1 ▸ slab_set x2 _ : W1.heap[w.heap.size + 1 + 1]? = _)
  have HS1 : Hid (SlabV W1 g1 vs.length vs vs.length) := (hW1 ▸ hS1.set x2 _ : SlabV W1 g1 vs.length vs vs.length)
  have B2 : Below w.heap.size w W1 := hW1 ▸ B1.setCell (p := ⟨w.heap.size + 1 + 1, 1, none⟩) (by simp; omega) _
  have c12 : W1.cell? ⟨w.heap.size, 2, none⟩ = some (.slice xa xs.length xc) := by simp [World.cell?, YP.out]
  clear xp x1 x2 hS1 b1 XP X1 X2 B0 hW0 c01 hg1
  go_wp2_with fail
  refine (toX_any xa xc xs W1 (HR.out.2.below B2) lx HZ.out).mono ?_
  rintro e w2 ⟨g2, rfl, hg2, hS2, b2⟩
  have x1 := kpBlk Y1.out b2 (slab_lt Y1.out)
  have x2 := kpBlk Y2.out b2 (slab_lt Y2.out)
  have hV := HS1.out.below b2 HS1.out.lt
  have B3 : Below w.heap.size w w2 := B2.trans (b2.mono B2.size)
  have d10 : w2.cell? ⟨w.heap.size + 1, 0, none⟩ = some (.int .i64 0) := by simp [World.cell?, x1]
  have d11 : w2.cell? ⟨w.heap.size + 1, 1, none⟩ = some (.slice none 0 0) := by simp [World.cell?, x1]
  have d12 : w2.cell? ⟨w.heap.size + 1, 2, none⟩ = some (.slice none 0 0) := by simp [World.cell?, x1]
  have d20 : w2.cell? ⟨w.heap.size + 1 + 1, 0, none⟩ = some (.int .i64 t) := by simp [World.cell?, x2]
  have d21 : w2.cell? ⟨w.heap.size + 1 + 1, 1, none⟩ = some (fullS g1 vs.length) := by simp [World.cell?, x2]
  have d22 : w2.cell? ⟨w.heap.size + 1 + 1, 2, none⟩ = some (.slice none 0 0) := by simp [World.cell?, x2]
  have f1 : ∀ q, w2.frozen? ⟨w.heap.size + 1, q, none⟩ = false := fun q => slab_free x1
  have f3 : ∀ q, w2.frozen? ⟨w.heap.size + 1 + 1, q, none⟩ = false := fun q => slab_free x2
  have y1 : (w2.setCell ⟨w.heap.size + 1 + 1, 2, none⟩ (fullS g2 xs.length)).heap[w.heap.size + 1]? = _ := (Below.heap_setCell _ _ _ _ (by simp)).trans x1
  have HF : Hid (SlabV ((((w2.setCell ⟨w.heap.size + 1 + 1, 2, none⟩ (fullS g2 xs.length)).setCell ⟨w.heap.size + 1, 0, none⟩ (.int .i64 t)).setCell ⟨w.heap.size + 1, 1, none⟩ (fullS g1 vs.length)).setCell ⟨w.heap.size + 1, 2, none⟩ (fullS g2 xs.length)) g1 vs.length vs vs.length ∧ SlabX ((((w2.setCell ⟨w.heap.size + 1 + 1, 2, none⟩ (fullS g2 xs.length)).setCell ⟨w.heap.size + 1, 0, none⟩ (.int .i64 t)).setCell ⟨w.heap.size + 1, 1, none⟩ (fullS g1 vs.length)).setCell ⟨w.heap.size + 1, 2, none⟩ (fullS g2 xs.length)) g2 xs.length xs xs.length) :=
    ⟨(((hV.set x2 _).set y1 _).set (slab_set y1 _) _).set (slab_set (slab_set y1 _) _) _, (((hS2.set x2 _).set y1 _).set (slab_set y1 _) _).set (slab_set (slab_set y1 _) _) _⟩
  clear x1 x2 y1 hS2 hV b2 B2 Y1 Y2 YP hW1 c12 c21 f2 HS1
  go_wp2
  refine bodyPost_ret (v := BW t (fullS g1 vs.length) (fullS g2 xs.length)) (by go_simp; simp [results, Try.results15, go_sem, d10, d11, d12]) rfl ⟨_, rfl, ⟨g1, g2, rfl, HF.out.1, HF.out.2⟩, ?_⟩
  exact (((B3.setCell (p := ⟨w.heap.size + 1 + 1, 2, none⟩) (by simp; omega) _).setCell (p := ⟨w.heap.size + 1, 0, none⟩) (by simp) _).setCell (p := ⟨w.heap.size + 1, 1, none⟩) (by simp) _).setCell (p := ⟨w.heap.size + 1, 2, none⟩) (by simp) _

set_option maxRecDepth 100000 in
theorem eqB_same (t : Int) (va xa va' xa' : Option Addr) (vc xc vc' xc' : Nat) (vs : List TV) (xs : List TX) (w : World) (hv : RowV w va vs) (hx : RowX w xa xs) (hv' : RowV w va' vs) (hx' : RowX w xa' xs) (lv : vs.length ≤ 1048576) (lx : xs.length ≤ 1048576) (hz : ∀ i, i < xs.length → SmallX (nthX xs i)) :
    Calls Try.prog 10 #[BW t (.slice va vs.length vc) (.slice xa xs.length xc), BW t (.slice va' vs.length vc') (.slice xa' xs.length xc')] w fun e w' => e = .returned (.bool true) ∧ Below w.heap.size w w' := by
  obtain ⟨W0, hW0⟩ : ∃ W0, (w.alloc (.cells #[.int .i64 t, .slice va vs.length vc, .slice xa xs.length xc] 25)).alloc (.cells #[.int .i64 t, .slice va' vs.length vc', .slice xa' xs.length xc'] 25) = W0 := ⟨_, rfl⟩
  have B0 : Below w.heap.size w W0 := hW0 ▸ ((Below.refl _ _).alloc (Nat.le_refl _) _).alloc (by simp) _
  have H1 : Hid (W0.heap[w.heap.size]? = some (.cells #[.int .i64 t, .slice va vs.length vc, .slice xa xs.length xc] 25 (0, 0)) ∧ W0.heap[w.heap.size + 1]? = some (.cells #[.int .i64 t, .slice va' vs.length vc', .slice xa' xs.length xc'] 25 (0, 0))) := ⟨hW0 ▸ (heap_old _ _ _ (by simp)).trans (heap_new' _ _ _ rfl), hW0 ▸ heap_new' _ _ _ (by simp)⟩
  have HR : Hid ((RowV W0 va vs ∧ RowV W0 va' vs) ∧ RowX W0 xa xs ∧ RowX W0 xa' xs) := ⟨⟨hv.below B0, hv'.below B0⟩, hx.below B0, hx'.below B0⟩
  have HZ : Hid (∀ i, i < xs.length → SmallX (nthX xs i)) := hz
  clear hv hx hv' hx' hz
  have p0 : W0.cell? ⟨w.heap.size, 0, none⟩ = some (.int .i64 t) := by simp [World.cell?, H1.out.1]
  have p1 : W0.cell? ⟨w.heap.size, 1, none⟩ = some (.slice va vs.length vc) := by simp [World.cell?, H1.out.1]
  have q0 : W0.cell? ⟨w.heap.size + 1, 0, none⟩ = some (.int .i64 t) := by simp [World.cell?, H1.out.2]
  have q1 : W0.cell? ⟨w.heap.size + 1, 1, none⟩ = some (.slice va' vs.length vc') := by simp [World.cell?, H1.out.2]
  go_enter Try.func10, Try.ntmps10
  go_wp2_with fail
  refine (eqV_same va va' vc vc' vs W0 HR.out.1.1 HR.out.1.2 lv).mono ?_
  rintro e w1 ⟨rfl, b1⟩
  have B1 := below_step B0 (Nat.le_refl _) b1
  have x1 := kpBlk H1.out.1 b1 (slab_lt H1.out.1)
  have x2 := kpBlk H1.out.2 b1 (slab_lt H1.out.2)
  have p2 : w1.cell? ⟨w.heap.size, 2, none⟩ = some (.slice xa xs.length xc) := by simp [World.cell?, x1]
  have q2 : w1.cell? ⟨w.heap.size + 1, 2, none⟩ = some (.slice xa' xs.length xc') := by simp [World.cell?, x2]
  have HR2 : Hid (RowX w1 xa xs ∧ RowX w1 xa' xs) := ⟨HR.out.2.1.below b1, HR.out.2.2.below b1⟩
  clear x1 x2 b1 p0 p1 q0 q1 H1 HR
  go_wp2_with fail
  refine (eqX_same xa xa' xc xc' xs w1 HR2.out.1 HR2.out.2 lx HZ.out).mono ?_
  rintro e w2 ⟨rfl, b2⟩
  have B2 := below_step B1 (Nat.le_refl _) b2
  clear b2
  go_wp2
  go_ret
  exact ⟨rfl, B2⟩
end Go.Proofs.Ytmkagolechjjkaa
