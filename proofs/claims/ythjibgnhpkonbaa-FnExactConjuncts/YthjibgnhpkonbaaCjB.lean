/- Copies of trees own their memory (stage 14). -/
import Derived.Test.YthjibgnhpkonbaaCjA
namespace Go.Proofs.Ythjibgnhpkonbaa
open Go.RowKit

/-- What toTreeS answers of the trees of f: they own their memory. -/
def ToD (f : Fo) : Prop := ∀ (a : Option Addr) (cap : Nat) (w : World), RowT 0 w a 0 f → f.len ≤ 1048576 → SmallF f → f.size ≤ 1048576 →
    Calls Try.prog 21 #[.slice a f.len cap] w fun e w' => ∃ g, e = .returned (fullS g f.len) ∧ KidD w' w.heap.size w'.heap.size (fullS g f.len) f ∧ Below w.heap.size w w'

set_option maxRecDepth 100000 in
set_option maxHeartbeats 2000000 in
theorem toTD_any (x : ND) (ks : Fo) (hS : ToD ks) (ka : Option Addr) (kc : Nat) (w : World) (hrow : RowT 0 w ka 0 ks) (hlen : ks.len ≤ 1048576) (hz : SmallF ks) (hsz : ks.size ≤ 1048576) :
    Calls Try.prog 7 #[ValT x (.slice ka ks.len kc)] w fun e w' => ∃ g, e = .returned (ValT x (fullS g ks.len)) ∧ KidD w' w.heap.size w'.heap.size (fullS g ks.len) ks ∧ Below w.heap.size w w' := by
  have HR : Hid (RowT 0 w ka 0 ks ∧ ks.len ≤ 1048576 ∧ SmallF ks ∧ ks.size ≤ 1048576) := ⟨hrow, hlen, hz, hsz⟩
  have HS : Hid (ToD ks) := hS
  have HV := fun w => toV_any x w
  clear hrow hlen hS hz hsz
  obtain ⟨k, n, nm, of, vk, vn, vt⟩ := x
  obtain ⟨W0, hW0⟩ : ∃ W0, ((w.alloc (.cells #[.int .i64 k, .int .i64 n, .string nm, .string of, .int .i64 vk, .int .i64 vn, .string vt, .slice ka ks.len kc] 26)).alloc (.cells #[.int .i64 0, .int .i64 0, .string ⟨#[]⟩, .string ⟨#[]⟩, .int .i64 0, .int .i64 0, .string ⟨#[]⟩, .slice none 0 0] 33)).alloc (.cells #[.int .i64 k, .int .i64 n, .string nm, .string of, .int .i64 0, .int .i64 0, .string ⟨#[]⟩, .slice none 0 0] 33) = W0 := ⟨_, rfl⟩
  have B0 : Below w.heap.size w W0 := hW0 ▸ (((Below.refl _ _).alloc (Nat.le_refl _) _).alloc (by simp) _).alloc (by simp; omega) _
  have z0 : W0.heap.size = w.heap.size + 3 := by rw [← hW0]; simp
  have XP : Hid (W0.heap[w.heap.size]? = some (.cells #[.int .i64 k, .int .i64 n, .string nm, .string of, .int .i64 vk, .int .i64 vn, .string vt, .slice ka ks.len kc] 26 (0, 0))) := (hW0 ▸ (heap_old _ _ _ (by simp; omega)).trans ((heap_old _ _ _ (by simp)).trans (heap_new' _ _ _ rfl)) : W0.heap[w.heap.size]? = _)
  have X1 : Hid (W0.heap[w.heap.size + 1]? = some (.cells #[.int .i64 0, .int .i64 0, .string ⟨#[]⟩, .string ⟨#[]⟩, .int .i64 0, .int .i64 0, .string ⟨#[]⟩, .slice none 0 0] 33 (0, 0))) := (hW0 ▸ (heap_old _ _ _ (by simp)).trans (heap_new' _ _ _ (by simp)) : W0.heap[w.heap.size + 1]? = _)
  have X2 : Hid (W0.heap[w.heap.size + 1 + 1]? = some (.cells #[.int .i64 k, .int .i64 n, .string nm, .string of, .int .i64 0, .int .i64 0, .string ⟨#[]⟩, .slice none 0 0] 33 (0, 0))) := (hW0 ▸ heap_new' _ _ _ (by simp) : W0.heap[w.heap.size + 1 + 1]? = _)
  have c04 : W0.cell? ⟨w.heap.size, 4, none⟩ = some (.int .i64 vk) := by simp [World.cell?, XP.out]
  have c05 : W0.cell? ⟨w.heap.size, 5, none⟩ = some (.int .i64 vn) := by simp [World.cell?, XP.out]
  have c06 : W0.cell? ⟨w.heap.size, 6, none⟩ = some (.string vt) := by simp [World.cell?, XP.out]
  go_enter Try.func7, Try.ntmps7
  go_wp2_with fail
  refine (HV _).mono ?_
  rintro e w1 ⟨rfl, b1⟩
  have xp := kpBlk XP.out b1 (slab_lt XP.out)
  have x1 := kpBlk X1.out b1 (slab_lt X1.out)
  have x2 := kpBlk X2.out b1 (slab_lt X2.out)
  have B1 : Below w.heap.size w w1 := B0.trans (b1.mono B0.size)
  have z1 : W0.heap.size ≤ w1.heap.size := b1.size
  have c21 : w1.cell? ⟨w.heap.size + 1 + 1, 4, none⟩ = some (.int .i64 0) := by simp [World.cell?, x2]
  have c22 : w1.cell? ⟨w.heap.size + 1 + 1, 5, none⟩ = some (.int .i64 0) := by simp [World.cell?, x2]
  have c23 : w1.cell? ⟨w.heap.size + 1 + 1, 6, none⟩ = some (.string ⟨#[]⟩) := by simp [World.cell?, x2]
  have f2 : ∀ q, w1.frozen? ⟨w.heap.size + 1 + 1, q, none⟩ = false := fun q => slab_free x2
  obtain ⟨W1, hW1⟩ : ∃ W1, ((w1.setCell ⟨w.heap.size + 1 + 1, 4, none⟩ (.int .i64 vk)).setCell ⟨w.heap.size + 1 + 1, 5, none⟩ (.int .i64 vn)).setCell ⟨w.heap.size + 1 + 1, 6, none⟩ (.string vt) = W1 := ⟨_, rfl⟩
  have YP : Hid (W1.heap[w.heap.size]? = some (.cells #[.int .i64 k, .int .i64 n, .string nm, .string of, .int .i64 vk, .int .i64 vn, .string vt, .slice ka ks.len kc] 26 (0, 0))) := (hW1 ▸ (Below.heap_setCell _ _ _ _ (by simp; omega)).trans ((Below.heap_setCell _ _ _ _ (by simp; omega)).trans ((Below.heap_setCell _ _ _ _ (by simp; omega)).trans xp)) : W1.heap[w.heap.size]? = _)
  have Y1 : Hid (W1.heap[w.heap.size + 1]? = some (.cells #[.int .i64 0, .int .i64 0, .string ⟨#[]⟩, .string ⟨#[]⟩, .int .i64 0, .int .i64 0, .string ⟨#[]⟩, .slice none 0 0] 33 (0, 0))) := (hW1 ▸ (Below.heap_setCell _ _ _ _ (by simp)).trans ((Below.heap_setCell _ _ _ _ (by simp)).trans ((Below.heap_setCell _ _ _ _ (by simp)).trans x1)) : W1.heap[w.heap.size + 1]? = _)
  have Y2 : Hid (W1.heap[w.heap.size + 1 + 1]? = some (.cells #[.int .i64 k, .int .i64 n, .string nm, .string of, .int .i64 vk, .int .i64 vn, .string vt, .slice none 0 0] 33 (0, 0))) := (hW1 ▸ slab_set (slab_set (slab_set x2 _) _) _ : W1.heap[w.heap.size + 1 + 1]? = _)
  have B2 : Below w.heap.size w W1 := hW1 ▸ ((B1.setCell (p := ⟨w.heap.size + 1 + 1, 4, none⟩) (by simp; omega) _).setCell (p := ⟨w.heap.size + 1 + 1, 5, none⟩) (by simp; omega) _).setCell (p := ⟨w.heap.size + 1 + 1, 6, none⟩) (by simp; omega) _
  have z2 : W1.heap.size = w1.heap.size := by rw [← hW1]; simp [World.setCell]
  have c13 : W1.cell? ⟨w.heap.size, 7, none⟩ = some (.slice ka ks.len kc) := by simp [World.cell?, YP.out]
  clear xp x1 x2 b1 XP X1 X2 B0 hW0 HV c04 c05 c06
  go_wp2_with fail
  refine (HS.out ka kc W1 (HR.out.1.below B2) HR.out.2.1 HR.out.2.2.1 HR.out.2.2.2).mono ?_
  rintro e w2 ⟨g, rfl, hrow, b2⟩
  have x1 := kpBlk Y1.out b2 (slab_lt Y1.out)
  have x2 := kpBlk Y2.out b2 (slab_lt Y2.out)
  have z3 : W1.heap.size ≤ w2.heap.size := b2.size
  have B3 : Below w.heap.size w w2 := B2.trans (b2.mono B2.size)
  have d : ∀ j v, (#[.int .i64 0, .int .i64 0, .string ⟨#[]⟩, .string ⟨#[]⟩, .int .i64 0, .int .i64 0, .string ⟨#[]⟩, .slice none 0 0] : Array Value)[j]? = some v → w2.cell? ⟨w.heap.size + 1, j, none⟩ = some v := fun j v h => (slab_cell x1).trans h
  have d10 := d 0 (.int .i64 0) rfl
  have d11 := d 1 (.int .i64 0) rfl
  have d12 := d 2 (.string ⟨#[]⟩) rfl
  have d13 := d 3 (.string ⟨#[]⟩) rfl
  have d14 := d 4 (.int .i64 0) rfl
  have d15 := d 5 (.int .i64 0) rfl
  have d16 := d 6 (.string ⟨#[]⟩) rfl
  have d17 := d 7 (.slice none 0 0) rfl
  have e : ∀ j v, (#[.int .i64 k, .int .i64 n, .string nm, .string of, .int .i64 vk, .int .i64 vn, .string vt, .slice none 0 0] : Array Value)[j]? = some v → w2.cell? ⟨w.heap.size + 1 + 1, j, none⟩ = some v := fun j v h => (slab_cell x2).trans h
  have d20 := e 0 (.int .i64 k) rfl
  have d21 := e 1 (.int .i64 n) rfl
  have d22 := e 2 (.string nm) rfl
  have d23 := e 3 (.string of) rfl
  have d24 := e 4 (.int .i64 vk) rfl
  have d25 := e 5 (.int .i64 vn) rfl
  have d26 := e 6 (.string vt) rfl
  have d27 := e 7 (.slice none 0 0) rfl
  clear d e
  have f1 : ∀ q, w2.frozen? ⟨w.heap.size + 1, q, none⟩ = false := fun q => slab_free x1
  have f3 : ∀ q, w2.frozen? ⟨w.heap.size + 1 + 1, q, none⟩ = false := fun q => slab_free x2
  have HF : Hid (∀ w3 : World, w2.heap.size ≤ w3.heap.size → (∀ b, W1.heap.size ≤ b → w3.heap[b]? = w2.heap[b]?) → KidD w3 w.heap.size w3.heap.size (fullS g ks.len) ks) := fun w3 h1 h2 => (hrow.same fun b hb _ _ => h2 b hb).mono (by omega) h1
  have HZ : Hid (w.heap.size + 3 ≤ W1.heap.size) := (by omega : _ ≤ _)
  have HB : Hid (Below w.heap.size w w2) := B3
  clear x1 x2 b2 B2 B3 Y1 Y2 YP hW1 c13 c21 c22 c23 f2 hrow
  go_wp2
  refine bodyPost_ret (v := ValT ⟨k, n, nm, of, vk, vn, vt⟩ (fullS g ks.len)) (by go_simp; simp [results, Try.results7, go_sem, d10, d11, d12, d13, d14, d15, d16, d17]) rfl ⟨g, rfl, ?_, ?_⟩
  · refine HF.out _ (by simp [World.setCell]) fun b hb => ?_
    have := HZ.out
    repeat refine (Below.heap_setCell _ _ _ _ (by first | (simp only; omega) | omega)).trans ?_
    rfl
  · have := HB.out
    repeat (refine Below.setCell ?_ (by first | (simp; done) | (simp; omega)) _)
    exact this

/-- A tree's cells. -/
def ElC (cur : Array Value) (i : Nat) (x : ND) (v : Value) : Prop := cur[i * 8]? = some (.int .i64 x.k) ∧ cur[i * 8 + 1]? = some (.int .i64 x.n) ∧ cur[i * 8 + 2]? = some (.string x.nm) ∧ cur[i * 8 + 3]? = some (.string x.of) ∧ cur[i * 8 + 4]? = some (.int .i64 x.vk) ∧ cur[i * 8 + 5]? = some (.int .i64 x.vn) ∧ cur[i * 8 + 6]? = some (.string x.vt) ∧ cur[i * 8 + 7]? = some v
theorem ElC.cell {w : World} {g i : Nat} {cur : Array Value} {x : ND} {v : Value} (h : ElC cur i x v) (hg : w.heap[g]? = some (.cells cur 33 (0, 0))) : CellT w g (i * 8) x v := by
  obtain ⟨h0, h1, h2, h3, h4, h5, h6, h7⟩ := h
  exact ⟨(slab_cell hg).trans h0, (slab_cell hg).trans h1, (slab_cell hg).trans h2, (slab_cell hg).trans h3, (slab_cell hg).trans h4, (slab_cell hg).trans h5, (slab_cell hg).trans h6, (slab_cell hg).trans h7⟩
theorem ElC.of {w : World} {g i : Nat} {cur : Array Value} {x : ND} {v : Value} (h : CellT w g (i * 8) x v) (hg : w.heap[g]? = some (.cells cur 33 (0, 0))) : ElC cur i x v := by
  obtain ⟨h0, h1, h2, h3, h4, h5, h6, h7⟩ := h
  rw [slab_cell hg] at h0 h1 h2 h3 h4 h5 h6 h7
  exact ⟨h0, h1, h2, h3, h4, h5, h6, h7⟩
theorem ElC.same {cur cur' : Array Value} {i : Nat} {x : ND} {v : Value} (h : ElC cur i x v) (e : ∀ o, i * 8 ≤ o → o < i * 8 + 8 → cur'[o]? = cur[o]?) : ElC cur' i x v := by
  obtain ⟨h0, h1, h2, h3, h4, h5, h6, h7⟩ := h
  exact ⟨(e _ (by omega) (by omega)).trans h0, (e _ (by omega) (by omega)).trans h1, (e _ (by omega) (by omega)).trans h2, (e _ (by omega) (by omega)).trans h3, (e _ (by omega) (by omega)).trans h4, (e _ (by omega) (by omega)).trans h5, (e _ (by omega) (by omega)).trans h6, (e _ (by omega) (by omega)).trans h7⟩
/-- A block of n trees, of which the first k are those of f, with kids of their own. -/
def SlabD (w : World) (lo g n : Nat) (f : Fo) (k : Nat) : Prop :=
  ∃ (cur : Array Value) (ms : Nat → Nat), w.heap[g]? = some (.cells cur 33 (0, 0)) ∧ cur.size = n * 8 ∧ lo ≤ ms 0 ∧ (∀ i, i < k → ms i ≤ ms (i + 1)) ∧ ms k ≤ w.heap.size ∧ ∀ i, i < k → ∃ v, KidD w (ms i) (ms (i + 1)) v (f.kids i) ∧ ElC cur i (f.node i) v
theorem SlabD.zero {w : World} {g n : Nat} {cur : Array Value} (f : Fo) (h : w.heap[g]? = some (.cells cur 33 (0, 0))) (hs : cur.size = n * 8) : SlabD w (g + 1) g n f 0 :=
  ⟨cur, fun _ => g + 1, h, hs, Nat.le_refl _, fun i hi => by omega, slab_lt h, fun i hi => by omega⟩
theorem SlabD.lt {w : World} {lo g n k : Nat} {f : Fo} (h : SlabD w lo g n f k) : g < w.heap.size := by
  obtain ⟨cur, ms, hh, _⟩ := h
  exact slab_lt hh
theorem SlabD.there {w : World} {lo g n k j : Nat} {f : Fo} (h : SlabD w lo g n f k) (hj : j < n * 8) : ∃ v, w.cell? ⟨g, j, none⟩ = some v := by
  obtain ⟨cur, ms, hh, hs, _⟩ := h
  exact ⟨cur[j]'(by omega), by rw [slab_cell hh]; exact Array.getElem?_eq_getElem _⟩
theorem SlabD.free {w : World} {lo g n k : Nat} {f : Fo} (h : SlabD w lo g n f k) (o : Nat) : w.frozen? ⟨g, o, none⟩ = false := by
  obtain ⟨cur, ms, hh, _⟩ := h
  exact slab_free hh
theorem ms_le {ms : Nat → Nat} {k : Nat} (h : ∀ i, i < k → ms i ≤ ms (i + 1)) : ∀ i j, i ≤ j → j ≤ k → ms i ≤ ms j
  | i, 0, h1, _ => by obtain rfl : i = 0 := (by omega); exact Nat.le_refl _
  | i, j + 1, h1, h2 => by
    by_cases e : i = j + 1
    · rw [e]; exact Nat.le_refl _
    · exact Nat.le_trans (ms_le h i j (by omega) (by omega)) (h j (by omega))
theorem SlabD.below {w w' : World} {lo g n k : Nat} {f : Fo} (h : SlabD w lo g n f k) (hb : Below w.heap.size w w') : SlabD w' lo g n f k := by
  obtain ⟨cur, ms, hh, hs, q1, q2, q3, q4⟩ := h
  refine ⟨cur, ms, (hb.block g (slab_lt hh)).trans hh, hs, q1, q2, Nat.le_trans q3 hb.size, fun i hi => ?_⟩
  obtain ⟨v, hk, he⟩ := q4 i hi
  exact ⟨v, hk.below hb, he⟩
/-- One more tree stands there. -/
theorem SlabD.push {w w' : World} {lo g n k : Nat} {f : Fo} {v : Value} (h : SlabD w lo g n f k) (hlo : g < lo) (hsz : w.heap.size ≤ w'.heap.size) (hb : ∀ b, b ≠ g → b < w.heap.size → w'.heap[b]? = w.heap[b]?)
    (hg : ∀ cur : Array Value, w.heap[g]? = some (.cells cur 33 (0, 0)) → cur.size = n * 8 → ∃ cur' : Array Value, w'.heap[g]? = some (.cells cur' 33 (0, 0)) ∧ cur'.size = n * 8 ∧ (∀ o, o < k * 8 → cur'[o]? = cur[o]?) ∧ ElC cur' k (f.node k) v)
    (hk : KidD w' w.heap.size w'.heap.size v (f.kids k)) : SlabD w' lo g n f (k + 1) := by
  obtain ⟨cur, ms, hh, hs, q1, q2, q3, q4⟩ := h
  obtain ⟨cur', h1, h2, h3, h4⟩ := hg cur hh hs
  obtain ⟨mz, z1, z2⟩ : ∃ mz : Nat → Nat, (∀ i, i ≤ k → mz i = ms i) ∧ mz (k + 1) = w'.heap.size := ⟨fun i => if i ≤ k then ms i else w'.heap.size, fun i hi => if_pos hi, if_neg (by omega)⟩
  refine ⟨cur', mz, h1, h2, by rw [z1 0 (by omega)]; exact q1, fun i hi => ?_, by rw [z2]; exact Nat.le_refl _, fun i hi => ?_⟩
  · by_cases e : i = k
    · subst e
      rw [z1 i (Nat.le_refl _), z2]
      omega
    · rw [z1 i (by omega), z1 (i + 1) (by omega)]
      exact q2 i (by omega)
  · by_cases e : i = k
    · subst e
      rw [z1 i (Nat.le_refl _), z2]
      exact ⟨v, hk.mono q3 (Nat.le_refl _), h4⟩
    · rw [z1 i (by omega), z1 (i + 1) (by omega)]
      obtain ⟨v', hk', he'⟩ := q4 i (by omega)
      have hm := ms_le q2 0 i (by omega) (by omega)
      exact ⟨v', hk'.same fun b p1 p2 p3 => hb b (by omega) p3, he'.same fun o p1 p2 => h3 o (by omega)⟩
theorem SlabD.kid {w : World} {lo g c : Nat} {f : Fo} (h : SlabD w (g + 1) g c f f.len) (hc : f.len ≤ c) (hlo : lo ≤ g) : KidD w lo w.heap.size (.slice (some ⟨g, 0, none⟩) f.len c) f := by
  obtain ⟨cur, ms, hh, hs, q1, q2, q3, q4⟩ := h
  refine .inr ⟨g, c, cur, rfl, hc, hlo, slab_lt hh, hh, hs, DeepT.mk ms q1 q2 q3 fun j hj => ?_⟩
  obtain ⟨v, hk, he⟩ := q4 j hj
  exact ⟨v, by rw [Nat.zero_add]; exact he.cell hh, hk⟩
theorem arr_put {cur : Array Value} {n k : Nat} (hs : cur.size = n * 8) (hk : k < n) (x : ND) (v : Value) : ∃ cur' : Array Value, cur' = ((((((((cur.setIfInBounds (k * 8) (.int .i64 x.k)).setIfInBounds (k * 8 + 1) (.int .i64 x.n)).setIfInBounds (k * 8 + 2) (.string x.nm)).setIfInBounds (k * 8 + 3) (.string x.of)).setIfInBounds (k * 8 + 4) (.int .i64 x.vk)).setIfInBounds (k * 8 + 5) (.int .i64 x.vn)).setIfInBounds (k * 8 + 6) (.string x.vt)).setIfInBounds (k * 8 + 7) v) ∧ cur'.size = n * 8 ∧ (∀ o, o < k * 8 → cur'[o]? = cur[o]?) ∧ ElC cur' k x v := by
  refine ⟨_, rfl, by simpa using hs, fun o ho => ?_, ?_, ?_, ?_, ?_, ?_, ?_, ?_, ?_⟩
  · repeat rw [Array.getElem?_setIfInBounds_ne (by omega)]
  all_goals
    repeat rw [Array.getElem?_setIfInBounds_ne (by omega)]
    rw [Array.getElem?_setIfInBounds_self_of_lt (by first | omega | (simp; omega))]
theorem set_ne {w : World} {g o b : Nat} (v : Value) (h : b ≠ g) : (w.setCell ⟨g, o, none⟩ v).heap[b]? = w.heap[b]? := Below.heap_setCell _ _ _ _ (by show b ≠ g; exact h)
theorem SlabD.step {wr w : World} {lo g n k : Nat} {f : Fo} {v : Value} (h : SlabD wr lo g n f k) (hlo : g < lo) (hb : Below wr.heap.size wr w) (hk : k < n) (hv : KidD w wr.heap.size w.heap.size v (f.kids k)) :
    SlabD (putT w g k (f.node k) v) lo g n f (k + 1) := by
  have hlt := h.lt
  refine h.push (v := v) hlo (by simpa [World.setCell] using hb.size) (fun b h1 h2 => ?_) (fun cur hh hs => ?_) ?_
  · repeat rw [set_ne _ h1]
    exact hb.block b h2
  · obtain ⟨cur', e, h1, h2, h3⟩ := arr_put hs hk (f.node k) v
    refine ⟨cur', ?_, h1, h2, h3⟩
    rw [e]
    exact slab_set (slab_set (slab_set (slab_set (slab_set (slab_set (slab_set (slab_set ((hb.block g hlt).trans hh) _) _) _) _) _) _) _) _
  · have e : (putT w g k (f.node k) v).heap.size = w.heap.size := by simp [World.setCell]
    rw [e]
    refine hv.same fun b h1 _ _ => ?_
    repeat rw [set_ne _ (by omega : b ≠ g)]

set_option maxRecDepth 100000 in
set_option maxHeartbeats 2000000 in
theorem toD_step (f : Fo) (ih : ∀ ks : Fo, ks.size < f.size → ToD ks) : ToD f := by
  intro a cap w hrow hlen hz hsz
  have HR : Hid (RowT 0 w a 0 f) := hrow
  have HZ : Hid (SmallF f ∧ f.size ≤ 1048576) := ⟨hz, hsz⟩
  have IH : Hid (∀ i, i < f.len → ToD (f.kids i)) := fun i hi => ih _ (f.kids_lt i hi)
  clear hrow ih hz hsz
  obtain ⟨len, hL⟩ : ∃ m, f.len = m := ⟨_, rfl⟩
  have HL : Hid (f.len = len) := hL
  rw [hL] at hlen ⊢
  clear hL
  obtain ⟨i0, hi, hz0, hz1, hz2⟩ := info_parts infoT
  go_enter Try.func21, Try.ntmps21
  go_wp2_with (at_make; refine wpList_make_full _ rfl _ _ 31 rfl w.heap.size 33 i0 _ 8 Try.underlying31 hi hz0 hz1 .i64 .i64 _ _ len rfl rfl rfl rfl ?m1 ?m2 (Nat.le_refl _) ?_)
  case m1 => rw [hz2]; omega
  case m2 => unfold maxLen; omega
  intro w1 hown hgr
  have hB1 : Below w.heap.size w w1 := (Below.refl _ _).grown hgr (Nat.le_refl _) (fun k hk => by cases hk)
  have hS : SlabD w1 (w.heap.size + 1) w.heap.size len f 0 := by
    rcases hown.2 with ⟨h, _⟩ | ⟨g, c, cur, h, _, hh, _, _, hcs, _⟩
    · cases h
    · cases h
      exact SlabD.zero f hh hcs
  clear hown hgr hi hz0 hz1 hz2
  go_wp2
  go_loopw [4] (fun i wr => ∃ k : Nat, k ≤ len ∧ i = .int .i64 k ∧ SlabD wr (w.heap.size + 1) w.heap.size len f k ∧ Below w.heap.size w wr) (fun i _ => len - (intOf i).toNat)
  case atStart => exact ⟨0, by omega, rfl, hS, hB1⟩
  case round =>
    obtain ⟨k, hk, rfl, hSk, hbl⟩ := hrel
    by_cases hlt : k < len
    · have hkf : k < f.len := by rw [HL.out]; exact hlt
      obtain ⟨b, off, ka, kc, rfl, _, hlb, ⟨c0, c1, c2, c3, c4, c5, c6, c7⟩, ⟨_, hkl, htx⟩, hkr⟩ := (HR.out.below hbl).at k hkf
      have HZ' : Hid (ToD (f.kids k) ∧ RowT 0 wr ka 0 (f.kids k) ∧ SmallF (f.kids k) ∧ (f.kids k).size ≤ 1048576) := ⟨IH.out k hkf, hkr, (HZ.out.1.at k hkf).2, by have := f.kids_lt k hkf; have := HZ.out.2; omega⟩
      have hkl' : (f.kids k).len ≤ 1048576 := Nat.le_trans (Fo.len_le _) HZ'.out.2.2.2
      have hlw : w.heap.size < wr.heap.size := hSk.lt
      clear hkr hkl htx hkf
      go_wp2_with fail
      refine (toTD_any (f.node k) (f.kids k) HZ'.out.1 ka kc wr HZ'.out.2.1 hkl' HZ'.out.2.2.1 HZ'.out.2.2.2).mono ?_
      rintro e w2 ⟨g, rfl, hrow, hb2⟩
      have hS2 := hSk.below hb2
      have hB2 := below_step hbl (Nat.le_refl _) hb2
      obtain ⟨v0, hv0⟩ := hS2.there (j := k * 8) (by omega)
      obtain ⟨v1, hv1⟩ := hS2.there (j := k * 8 + 1) (by omega)
      obtain ⟨v2, hv2⟩ := hS2.there (j := k * 8 + 2) (by omega)
      obtain ⟨v3, hv3⟩ := hS2.there (j := k * 8 + 3) (by omega)
      obtain ⟨v4, hv4⟩ := hS2.there (j := k * 8 + 4) (by omega)
      obtain ⟨v5, hv5⟩ := hS2.there (j := k * 8 + 5) (by omega)
      obtain ⟨v6, hv6⟩ := hS2.there (j := k * 8 + 6) (by omega)
      obtain ⟨v7, hv7⟩ := hS2.there (j := k * 8 + 7) (by omega)
      have hf := hS2.free
      have HN : Hid (SlabD _ _ _ _ _ (k + 1)) := hSk.step (Nat.lt_succ_self _) hb2 hlt hrow
      have HB : Hid (Below w.heap.size w (putT w2 w.heap.size k (f.node k) (fullS g (f.kids k).len))) := put_below hB2 (Nat.le_refl _)
      clear c0 c1 c2 c3 c4 c5 c6 c7 hb2 hlb hSk hbl hS2 hS hB1 hB2 hrow HZ'
      go_wp2
      go_roundw
      case rel => exact ⟨k + 1, by omega, by go_num, HN.out, HB.out⟩
      case measure => simp [intOf]; omega
    · obtain rfl : k = len := by omega
      have HF : Hid (KidD wr w.heap.size wr.heap.size (fullS w.heap.size f.len) f) := SlabD.kid (by rw [HL.out]; exact hSk) (Nat.le_refl _) (Nat.le_refl _)
      have HK : KidD wr w.heap.size wr.heap.size (fullS w.heap.size f.len) f := HF.out
      go_wp2
      go_ret
      exact ⟨_, rfl, by rw [HL.out] at HK; exact HK, hbl⟩
theorem toD_all : ∀ (n : Nat) (f : Fo), f.size ≤ n → ToD f
  | 0, f, h => toD_step f fun ks hk => by omega
  | n + 1, f, h => toD_step f fun ks hk => toD_all n ks (by omega)
theorem toD_any (f : Fo) : ToD f := toD_all _ f (Nat.le_refl _)
end Go.Proofs.Ythjibgnhpkonbaa
