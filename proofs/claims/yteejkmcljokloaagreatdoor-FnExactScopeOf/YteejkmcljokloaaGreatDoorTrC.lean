/- Trees: copied (stage 11). -/
import Derived.Test.YteejkmcljokloaaGreatDoorTrB
namespace Go.Proofs.YteejkmcljokloaaGreatDoor
open Go.RowKit

set_option maxRecDepth 100000 in
theorem toV_any (x : ND) (w : World) : Calls Tryz.prog 24 #[ValV x] w fun e w' => e = .returned (ValV x) ∧ Below w.heap.size w w' := by
  obtain ⟨k, n, nm, of, vk, vn, vt⟩ := x
  go_enter Tryz.func24, Tryz.ntmps24
  go_wp2
  exact bodyPost_ret (v := .agg #[.int .i64 vk, .int .i64 vn, .string vt]) (by simp [results, Tryz.results24, go_sem]) rfl ⟨rfl, (((Below.refl _ _).alloc (Nat.le_refl _) _).alloc (by simp) _).alloc (by simp; omega) _⟩

theorem infoT : (Tryz.prog.info? 38).map (fun i => (i.zero, i.size, i.bytes)) = some (some (.agg #[.int .i64 0, .int .i64 0, .string ⟨#[]⟩, .string ⟨#[]⟩, .int .i64 0, .int .i64 0, .string ⟨#[]⟩, .slice none 0 0]), 8, 104) := by kernel_rfl
theorem kpBlk {w w' : World} {b : Nat} {o : Obj} (h : w.heap[b]? = some o) (hb : Below w.heap.size w w') (hl : b < w.heap.size) : w'.heap[b]? = some o := (hb.block b hl).trans h
/-- A full slice of a block. -/
abbrev fullS (g n : Nat) : Value := .slice (some ⟨g, 0, none⟩) n n
/-- What toTreeS answers of the trees of f: they lie in new memory. -/
def ToS (f : Fo) : Prop := ∀ (a : Option Addr) (cap : Nat) (w : World), RowT 0 w a 0 f → f.len ≤ 1048576 → SmallF f → f.size ≤ 1048576 →
    Calls Tryz.prog 25 #[.slice a f.len cap] w fun e w' => ∃ g, e = .returned (fullS g f.len) ∧ w.heap.size ≤ g ∧ RowT w.heap.size w' (some ⟨g, 0, none⟩) 0 f ∧ Below w.heap.size w w'

set_option maxRecDepth 100000 in
set_option maxHeartbeats 2000000 in
theorem toT_any (x : ND) (ks : Fo) (hS : ToS ks) (ka : Option Addr) (kc : Nat) (w : World) (hrow : RowT 0 w ka 0 ks) (hlen : ks.len ≤ 1048576) (hz : SmallF ks) (hsz : ks.size ≤ 1048576) :
    Calls Tryz.prog 8 #[ValT x (.slice ka ks.len kc)] w fun e w' => ∃ g, e = .returned (ValT x (fullS g ks.len)) ∧ w.heap.size ≤ g ∧ RowT w.heap.size w' (some ⟨g, 0, none⟩) 0 ks ∧ Below w.heap.size w w' := by
  have HR : Hid (RowT 0 w ka 0 ks ∧ ks.len ≤ 1048576 ∧ SmallF ks ∧ ks.size ≤ 1048576) := ⟨hrow, hlen, hz, hsz⟩
  have HS : Hid (ToS ks) := hS
  have HV := fun w => toV_any x w
  clear hrow hlen hS hz hsz
  obtain ⟨k, n, nm, of, vk, vn, vt⟩ := x
  obtain ⟨W0, hW0⟩ : ∃ W0, ((w.alloc (.cells #[.int .i64 k, .int .i64 n, .string nm, .string of, .int .i64 vk, .int .i64 vn, .string vt, .slice ka ks.len kc] 27)).alloc (.cells #[.int .i64 0, .int .i64 0, .string ⟨#[]⟩, .string ⟨#[]⟩, .int .i64 0, .int .i64 0, .string ⟨#[]⟩, .slice none 0 0] 38)).alloc (.cells #[.int .i64 k, .int .i64 n, .string nm, .string of, .int .i64 0, .int .i64 0, .string ⟨#[]⟩, .slice none 0 0] 38) = W0 := ⟨_, rfl⟩
  have B0 : Below w.heap.size w W0 := hW0 ▸ (((Below.refl _ _).alloc (Nat.le_refl _) _).alloc (by simp) _).alloc (by simp; omega) _
  have z0 : W0.heap.size = w.heap.size + 3 := by rw [← hW0]; simp
  have XP : Hid (W0.heap[w.heap.size]? = some (.cells #[.int .i64 k, .int .i64 n, .string nm, .string of, .int .i64 vk, .int .i64 vn, .string vt, .slice ka ks.len kc] 27 (0, 0))) := (hW0 ▸ (heap_old _ _ _ (by simp; omega)).trans ((heap_old _ _ _ (by simp)).trans (heap_new' _ _ _ rfl)) : W0.heap[w.heap.size]? = _)
  have X1 : Hid (W0.heap[w.heap.size + 1]? = some (.cells #[.int .i64 0, .int .i64 0, .string ⟨#[]⟩, .string ⟨#[]⟩, .int .i64 0, .int .i64 0, .string ⟨#[]⟩, .slice none 0 0] 38 (0, 0))) := (hW0 ▸ (heap_old _ _ _ (by simp)).trans (heap_new' _ _ _ (by simp)) : W0.heap[w.heap.size + 1]? = _)
  have X2 : Hid (W0.heap[w.heap.size + 1 + 1]? = some (.cells #[.int .i64 k, .int .i64 n, .string nm, .string of, .int .i64 0, .int .i64 0, .string ⟨#[]⟩, .slice none 0 0] 38 (0, 0))) := (hW0 ▸ heap_new' _ _ _ (by simp) : W0.heap[w.heap.size + 1 + 1]? = _)
  have c04 : W0.cell? ⟨w.heap.size, 4, none⟩ = some (.int .i64 vk) := by simp [World.cell?, XP.out]
  have c05 : W0.cell? ⟨w.heap.size, 5, none⟩ = some (.int .i64 vn) := by simp [World.cell?, XP.out]
  have c06 : W0.cell? ⟨w.heap.size, 6, none⟩ = some (.string vt) := by simp [World.cell?, XP.out]
  go_enter Tryz.func8, Tryz.ntmps8
  go_wp2_with fail
  refine (HV _).mono ?_
  rintro e w1 ⟨rfl, b1⟩
  have xp := kpBlk XP.out b1 (slab_lt XP.out)
  have x1 := kpBlk X1.out b1 (slab_lt X1.out)
  have x2 := kpBlk X2.out b1 (slab_lt X2.out)
  have B1 : Below w.heap.size w w1 := B0.trans (b1.mono B0.size)
  have z1 : W0.heap.size ≤ w1.heap.size := b1.size
  have c21 : w1.cell? ⟨w.heap.size + 1 + 1, 4, none⟩ = some (.int .i64 0) := by simp [World.cell?, x2]
  have c22 : w1.cell? ⟨w.heap.size + 1 + 1, 5, none⟩ = some (.int .i64 0) := by simp [World.cell?, x2]
  have c23 : w1.cell? ⟨w.heap.size + 1 + 1, 6, none⟩ = some (.string ⟨#[]⟩) := by simp [World.cell?, x2]
  have f2 : ∀ q, w1.frozen? ⟨w.heap.size + 1 + 1, q, none⟩ = false := fun q => slab_free x2
  obtain ⟨W1, hW1⟩ : ∃ W1, ((w1.setCell ⟨w.heap.size + 1 + 1, 4, none⟩ (.int .i64 vk)).setCell ⟨w.heap.size + 1 + 1, 5, none⟩ (.int .i64 vn)).setCell ⟨w.heap.size + 1 + 1, 6, none⟩ (.string vt) = W1 := ⟨_, rfl⟩
  have YP : Hid (W1.heap[w.heap.size]? = some (.cells #[.int .i64 k, .int .i64 n, .string nm, .string of, .int .i64 vk, .int .i64 vn, .string vt, .slice ka ks.len kc] 27 (0, 0))) := (hW1 ▸ (Below.heap_setCell _ _ _ _ (by simp; omega)).trans ((Below.heap_setCell _ _ _ _ (by simp; omega)).trans ((Below.heap_setCell _ _ _ _ (by simp; omega)).trans xp)) : W1.heap[w.heap.size]? = _)
  have Y1 : Hid (W1.heap[w.heap.size + 1]? = some (.cells #[.int .i64 0, .int .i64 0, .string ⟨#[]⟩, .string ⟨#[]⟩, .int .i64 0, .int .i64 0, .string ⟨#[]⟩, .slice none 0 0] 38 (0, 0))) := (hW1 ▸ (Below.heap_setCell _ _ _ _ (by simp)).trans ((Below.heap_setCell _ _ _ _ (by simp)).trans ((Below.heap_setCell _ _ _ _ (by simp)).trans x1)) : W1.heap[w.heap.size + 1]? = _)
  have Y2 : Hid (W1.heap[w.heap.size + 1 + 1]? = some (.cells #[.int .i64 k, .int .i64 n, .string nm, .string of, .int .i64 vk, .int .i64 vn, .string vt, .slice none 0 0] 38 (0, 0))) := (hW1 ▸ slab_set (slab_set (slab_set x2 _) _) _ : W1.heap[w.heap.size + 1 + 1]? = _)
  have B2 : Below w.heap.size w W1 := hW1 ▸ ((B1.setCell (p := ⟨w.heap.size + 1 + 1, 4, none⟩) (by simp; omega) _).setCell (p := ⟨w.heap.size + 1 + 1, 5, none⟩) (by simp; omega) _).setCell (p := ⟨w.heap.size + 1 + 1, 6, none⟩) (by simp; omega) _
  have z2 : W1.heap.size = w1.heap.size := by rw [← hW1]; simp [World.setCell]
  have c13 : W1.cell? ⟨w.heap.size, 7, none⟩ = some (.slice ka ks.len kc) := by simp [World.cell?, YP.out]
  clear xp x1 x2 b1 XP X1 X2 B0 hW0 HV c04 c05 c06
  go_wp2_with fail
  refine (HS.out ka kc W1 (HR.out.1.below B2) HR.out.2.1 HR.out.2.2.1 HR.out.2.2.2).mono ?_
  rintro e w2 ⟨g, rfl, hg, hrow, b2⟩
  have x1 := kpBlk Y1.out b2 (slab_lt Y1.out)
  have x2 := kpBlk Y2.out b2 (slab_lt Y2.out)
  have z3 : W1.heap.size ≤ w2.heap.size := b2.size
  have B3 : Below w.heap.size w w2 := B2.trans (b2.mono B2.size)
  have d : ∀ j v, (#[.int .i64 0, .int .i64 0, .string ⟨#[]⟩, .string ⟨#[]⟩, .int .i64 0, .int .i64 0, .string ⟨#[]⟩, .slice none 0 0] : Array Value)[j]? = some v → w2.cell? ⟨w.heap.size + 1, j, none⟩ = some v := fun j v h => (slab_cell x1).trans h
  have d10 := d 0 (.int .i64 0) rfl
  have d11 := d 1 (.int .i64 0) rfl
  have d12 := d 2 (.string ⟨#[]⟩) rfl
  have d13 := d 3 (.string ⟨#[]⟩) rfl
  have d14 := d 4 (.int .i64 0) rfl
  have d15 := d 5 (.int .i64 0) rfl
  have d16 := d 6 (.string ⟨#[]⟩) rfl
  have d17 := d 7 (.slice none 0 0) rfl
  have e : ∀ j v, (#[.int .i64 k, .int .i64 n, .string nm, .string of, .int .i64 vk, .int .i64 vn, .string vt, .slice none 0 0] : Array Value)[j]? = some v → w2.cell? ⟨w.heap.size + 1 + 1, j, none⟩ = some v := fun j v h => (slab_cell x2).trans h
  have d20 := e 0 (.int .i64 k) rfl
  have d21 := e 1 (.int .i64 n) rfl
  have d22 := e 2 (.string nm) rfl
  have d23 := e 3 (.string of) rfl
  have d24 := e 4 (.int .i64 vk) rfl
  have d25 := e 5 (.int .i64 vn) rfl
  have d26 := e 6 (.string vt) rfl
  have d27 := e 7 (.slice none 0 0) rfl
  clear d e
  have f1 : ∀ q, w2.frozen? ⟨w.heap.size + 1, q, none⟩ = false := fun q => slab_free x1
  have f3 : ∀ q, w2.frozen? ⟨w.heap.size + 1 + 1, q, none⟩ = false := fun q => slab_free x2
  have HG : Hid (w.heap.size ≤ g) := (by omega : w.heap.size ≤ g)
  have HF : Hid (∀ w3 : World, w2.heap.size ≤ w3.heap.size → (∀ b, W1.heap.size ≤ b → w3.heap[b]? = w2.heap[b]?) → RowT w.heap.size w3 (some ⟨g, 0, none⟩) 0 ks) := fun w3 h1 h2 => (hrow.same h1 fun b hb _ => h2 b hb).weak (by omega)
  have HZ : Hid (w.heap.size + 3 ≤ W1.heap.size) := (by omega : _ ≤ _)
  have HB : Hid (Below w.heap.size w w2) := B3
  clear x1 x2 b2 B2 B3 Y1 Y2 YP hW1 c13 c21 c22 c23 f2 hrow
  go_wp2
  refine bodyPost_ret (v := ValT ⟨k, n, nm, of, vk, vn, vt⟩ (fullS g ks.len)) (by go_simp; simp [results, Tryz.results8, go_sem, d10, d11, d12, d13, d14, d15, d16, d17]) rfl ⟨g, rfl, HG.out, ?_, ?_⟩
  · refine HF.out _ (by simp [World.setCell]) fun b hb => ?_
    have := HZ.out
    repeat refine (Below.heap_setCell _ _ _ _ (by first | (simp only; omega) | omega)).trans ?_
    rfl
  · have := HB.out
    repeat (refine Below.setCell ?_ (by first | (simp; done) | (simp; omega)) _)
    exact this

/-- A block of the call's own of n trees, of which the first k are those of f; their kids lie in blocks behind it. -/
def SlabT (w : World) (g n : Nat) (f : Fo) (k : Nat) : Prop :=
  ∃ cur : Array Value, w.heap[g]? = some (.cells cur 38 (0, 0)) ∧ cur.size = n * 8 ∧ ∀ i, i < k → ∃ ka, RowT (g + 1) w ka 0 (f.kids i) ∧ cur[i * 8]? = some (.int .i64 (f.node i).k) ∧ cur[i * 8 + 1]? = some (.int .i64 (f.node i).n) ∧ cur[i * 8 + 2]? = some (.string (f.node i).nm) ∧ cur[i * 8 + 3]? = some (.string (f.node i).of) ∧ cur[i * 8 + 4]? = some (.int .i64 (f.node i).vk) ∧ cur[i * 8 + 5]? = some (.int .i64 (f.node i).vn) ∧ cur[i * 8 + 6]? = some (.string (f.node i).vt) ∧ cur[i * 8 + 7]? = some (.slice ka (f.kids i).len (f.kids i).len)
theorem SlabT.lt {w : World} {g n k : Nat} {f : Fo} (h : SlabT w g n f k) : g < w.heap.size := by
  obtain ⟨cur, hh, _⟩ := h
  exact slab_lt hh
theorem SlabT.below {w w' : World} {g n k : Nat} {f : Fo} (h : SlabT w g n f k) (hb : Below w.heap.size w w') : SlabT w' g n f k := by
  obtain ⟨cur, hh, hs, hc⟩ := h
  refine ⟨cur, (hb.block g (slab_lt hh)).trans hh, hs, fun i hi => ?_⟩
  obtain ⟨ka, hr, h⟩ := hc i hi
  exact ⟨ka, hr.below hb, h⟩
theorem SlabT.there {w : World} {g n k j : Nat} {f : Fo} (h : SlabT w g n f k) (hj : j < n * 8) : ∃ v, w.cell? ⟨g, j, none⟩ = some v := by
  obtain ⟨cur, hh, hs, _⟩ := h
  exact ⟨cur[j]'(by omega), by rw [slab_cell hh]; exact Array.getElem?_eq_getElem _⟩
theorem SlabT.free {w : World} {g n k : Nat} {f : Fo} (h : SlabT w g n f k) (o : Nat) : w.frozen? ⟨g, o, none⟩ = false := by
  obtain ⟨cur, hh, _⟩ := h
  exact slab_free hh
/-- The k-th tree is stored. -/
abbrev putT (w : World) (g k : Nat) (x : ND) (s : Value) : World := (((((((w.setCell ⟨g, k * 8, none⟩ (.int .i64 x.k)).setCell ⟨g, k * 8 + 1, none⟩ (.int .i64 x.n)).setCell ⟨g, k * 8 + 2, none⟩ (.string x.nm)).setCell ⟨g, k * 8 + 3, none⟩ (.string x.of)).setCell ⟨g, k * 8 + 4, none⟩ (.int .i64 x.vk)).setCell ⟨g, k * 8 + 5, none⟩ (.int .i64 x.vn)).setCell ⟨g, k * 8 + 6, none⟩ (.string x.vt)).setCell ⟨g, k * 8 + 7, none⟩ s
theorem put_below {B g k : Nat} {w w2 : World} {x : ND} {s : Value} (h : Below B w w2) (hg : B ≤ g) : Below B w (putT w2 g k x s) :=
  (((((((h.setCell (p := ⟨g, k * 8, none⟩) hg _).setCell (p := ⟨g, k * 8 + 1, none⟩) hg _).setCell (p := ⟨g, k * 8 + 2, none⟩) hg _).setCell (p := ⟨g, k * 8 + 3, none⟩) hg _).setCell (p := ⟨g, k * 8 + 4, none⟩) hg _).setCell (p := ⟨g, k * 8 + 5, none⟩) hg _).setCell (p := ⟨g, k * 8 + 6, none⟩) hg _).setCell (p := ⟨g, k * 8 + 7, none⟩) hg _
theorem SlabT.step {w : World} {g n k : Nat} {f : Fo} {ka : Option Addr} (h : SlabT w g n f k) (hk : k < n) (hr : RowT (g + 1) w ka 0 (f.kids k)) :
    SlabT (putT w g k (f.node k) (.slice ka (f.kids k).len (f.kids k).len)) g n f (k + 1) := by
  obtain ⟨cur, hh, hs, hc⟩ := h
  refine ⟨_, slab_set (slab_set (slab_set (slab_set (slab_set (slab_set (slab_set (slab_set hh _) _) _) _) _) _) _) _, by simpa using hs, fun i hi => ?_⟩
  by_cases e : i = k
  · subst e
    refine ⟨ka, hr.set.set.set.set.set.set.set.set, ?_, ?_, ?_, ?_, ?_, ?_, ?_, ?_⟩
    all_goals
      repeat rw [Array.getElem?_setIfInBounds_ne (by omega)]
      rw [Array.getElem?_setIfInBounds_self_of_lt (by first | omega | (simp; omega))]
  · obtain ⟨kb, hb, h0, h1, h2, h3, h4, h5, h6, h7⟩ := hc i (by omega)
    refine ⟨kb, hb.set.set.set.set.set.set.set.set, ?_, ?_, ?_, ?_, ?_, ?_, ?_, ?_⟩
    all_goals
      repeat rw [Array.getElem?_setIfInBounds_ne (by omega)]
      assumption
theorem SlabT.row {w : World} {g B : Nat} {f : Fo} (h : SlabT w g f.len f f.len) (hB : B ≤ g) (hz : SmallF f) (hl : f.size ≤ 1048576) : RowT B w (some ⟨g, 0, none⟩) 0 f := by
  have hg := h.lt
  obtain ⟨cur, hh, _, hc⟩ := h
  refine RowT.mk fun i hi => ?_
  obtain ⟨ka, hr, h0, h1, h2, h3, h4, h5, h6, h7⟩ := hc i hi
  have h8 := f.kids_lt i hi
  have h9 := (f.kids i).len_le
  obtain ⟨⟨t0, t1, t2⟩, _⟩ := hz.at i hi
  rw [Nat.zero_add]
  refine ⟨g, 0, ka, _, rfl, hB, hg, ?_, ⟨Nat.le_refl _, by unfold maxLen; omega, by unfold maxLen; omega, by unfold maxLen; omega, by unfold maxLen; omega⟩, hr.weak (by omega)⟩
  rw [Nat.zero_add]
  exact ⟨(slab_cell hh).trans h0, (slab_cell hh).trans h1, (slab_cell hh).trans h2, (slab_cell hh).trans h3, (slab_cell hh).trans h4, (slab_cell hh).trans h5, (slab_cell hh).trans h6, (slab_cell hh).trans h7⟩

set_option maxRecDepth 100000 in
set_option maxHeartbeats 2000000 in
theorem toS_step (f : Fo) (ih : ∀ ks : Fo, ks.size < f.size → ToS ks) : ToS f := by
  intro a cap w hrow hlen hz hsz
  have HR : Hid (RowT 0 w a 0 f) := hrow
  have HZ : Hid (SmallF f ∧ f.size ≤ 1048576) := ⟨hz, hsz⟩
  have IH : Hid (∀ i, i < f.len → ToS (f.kids i)) := fun i hi => ih _ (f.kids_lt i hi)
  clear hrow ih hz hsz
  obtain ⟨len, hL⟩ : ∃ m, f.len = m := ⟨_, rfl⟩
  have HL : Hid (f.len = len) := hL
  rw [hL] at hlen ⊢
  clear hL
  obtain ⟨i0, hi, hz0, hz1, hz2⟩ := info_parts infoT
  go_enter Tryz.func25, Tryz.ntmps25
  go_wp2_with (at_make; refine wpList_make_full _ rfl _ _ 36 rfl w.heap.size 38 i0 _ 8 Tryz.underlying36 hi hz0 hz1 .i64 .i64 _ _ len rfl rfl rfl rfl ?m1 ?m2 (Nat.le_refl _) ?_)
  case m1 => rw [hz2]; omega
  case m2 => unfold maxLen; omega
  intro w1 hown hgr
  have hB1 : Below w.heap.size w w1 := (Below.refl _ _).grown hgr (Nat.le_refl _) (fun k hk => by cases hk)
  have hS : SlabT w1 w.heap.size len f 0 := by
    rcases hown.2 with ⟨h, _⟩ | ⟨g, c, cur, h, _, hh, _, _, hcs, _⟩
    · cases h
    · cases h
      exact ⟨cur, hh, hcs, fun i hi => by omega⟩
  clear hown hgr hi hz0 hz1 hz2
  go_wp2
  go_loopw [4] (fun i wr => ∃ k : Nat, k ≤ len ∧ i = .int .i64 k ∧ SlabT wr w.heap.size len f k ∧ Below w.heap.size w wr) (fun i _ => len - (intOf i).toNat)
  case atStart => exact ⟨0, by omega, rfl, hS, hB1⟩
  case round =>
    obtain ⟨k, hk, rfl, hSk, hbl⟩ := hrel
    by_cases hlt : k < len
    · have hkf : k < f.len := by rw [HL.out]; exact hlt
      obtain ⟨b, off, ka, kc, rfl, _, hlb, ⟨c0, c1, c2, c3, c4, c5, c6, c7⟩, ⟨_, hkl, htx⟩, hkr⟩ := (HR.out.below hbl).at k hkf
      have HZ' : Hid (ToS (f.kids k) ∧ RowT 0 wr ka 0 (f.kids k) ∧ SmallF (f.kids k) ∧ (f.kids k).size ≤ 1048576) := ⟨IH.out k hkf, hkr, (HZ.out.1.at k hkf).2, by have := f.kids_lt k hkf; have := HZ.out.2; omega⟩
      have hkl' : (f.kids k).len ≤ 1048576 := Nat.le_trans (Fo.len_le _) HZ'.out.2.2.2
      have hlw : w.heap.size < wr.heap.size := hSk.lt
      clear hkr hkl htx hkf
      go_wp2_with fail
      refine (toT_any (f.node k) (f.kids k) HZ'.out.1 ka kc wr HZ'.out.2.1 hkl' HZ'.out.2.2.1 HZ'.out.2.2.2).mono ?_
      rintro e w2 ⟨g, rfl, hg, hrow, hb2⟩
      have hS2 := hSk.below hb2
      have hB2 := below_step hbl (Nat.le_refl _) hb2
      obtain ⟨v0, hv0⟩ := hS2.there (j := k * 8) (by omega)
      obtain ⟨v1, hv1⟩ := hS2.there (j := k * 8 + 1) (by omega)
      obtain ⟨v2, hv2⟩ := hS2.there (j := k * 8 + 2) (by omega)
      obtain ⟨v3, hv3⟩ := hS2.there (j := k * 8 + 3) (by omega)
      obtain ⟨v4, hv4⟩ := hS2.there (j := k * 8 + 4) (by omega)
      obtain ⟨v5, hv5⟩ := hS2.there (j := k * 8 + 5) (by omega)
      obtain ⟨v6, hv6⟩ := hS2.there (j := k * 8 + 6) (by omega)
      obtain ⟨v7, hv7⟩ := hS2.there (j := k * 8 + 7) (by omega)
      have hf := hS2.free
      have HN : Hid (SlabT _ _ _ _ (k + 1)) := hS2.step hlt (hrow.weak (by omega))
      have HB : Hid (Below w.heap.size w (putT w2 w.heap.size k (f.node k) (fullS g (f.kids k).len))) := put_below hB2 (Nat.le_refl _)
      clear c0 c1 c2 c3 c4 c5 c6 c7 hb2 hlb hSk hbl hS2 hS hB1 hB2 hrow HZ' hg
      go_wp2
      go_roundw
      case rel => exact ⟨k + 1, by omega, by go_num, HN.out, HB.out⟩
      case measure => simp [intOf]; omega
    · obtain rfl : k = len := by omega
      have HF : Hid (RowT w.heap.size wr (some ⟨w.heap.size, 0, none⟩) 0 f) := SlabT.row (by rw [HL.out]; exact hSk) (Nat.le_refl _) HZ.out.1 HZ.out.2
      go_wp2
      go_ret
      exact ⟨_, rfl, Nat.le_refl _, HF.out, hbl⟩
theorem toS_all : ∀ (n : Nat) (f : Fo), f.size ≤ n → ToS f
  | 0, f, h => toS_step f fun ks hk => by omega
  | n + 1, f, h => toS_step f fun ks hk => toS_all n ks (by omega)
theorem toS_any (f : Fo) : ToS f := toS_all _ f (Nat.le_refl _)
end Go.Proofs.YteejkmcljokloaaGreatDoor
