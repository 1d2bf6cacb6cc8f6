/- l04Step: a kind that is none (stage 4). -/
import Derived.Test.YtaklphoplfofbaaStN
import Derived.Test.YtaklphoplfofbaaStS
namespace Go.Proofs.Ytaklphoplfofbaa
open Go.RowKit

/-- The boxes that the specification's act begins with. -/
abbrev W6 (w : World) (t e : Int) (v1 v2 v3 : Value) (kk n : Int) : World := (((((w.alloc (SC t e v1 v2 v3 29)).alloc (.cells #[.int .i64 kk, .int .i64 n] 39)).alloc (.cells #[.int .i64 0, .int .i64 0, .slice none 0 0, .slice none 0 0, .slice none 0 0] 29)).alloc (.cells #[.int .i64 0, .slice none 0 0] 37)).alloc (.cells #[] 3)).alloc (.cells #[.int .i64 0, .slice (some ⟨w.heap.size + 1 + 1 + 1 + 1, 0, none⟩) 0 0] 37)
theorem below_W6 (w : World) (t e : Int) (v1 v2 v3 : Value) (kk n : Int) : Below w.heap.size w (W6 w t e v1 v2 v3 kk n) := ((below_W4 w t e v1 v2 v3 kk n).alloc (by simp; omega) _).alloc (by simp; omega) _
theorem W6_size (w : World) (t e : Int) (v1 v2 v3 : Value) (kk n : Int) : (W6 w t e v1 v2 v3 kk n).heap.size = w.heap.size + 6 := by simp
theorem W6_old (w : World) (t e : Int) (v1 v2 v3 : Value) (kk n : Int) (g : Nat) (h : g < w.heap.size + 4) : (W6 w t e v1 v2 v3 kk n).heap[g]? = (W4 w t e v1 v2 v3 kk n).heap[g]? := (heap_old _ _ _ (by simp; omega)).trans (heap_old _ _ _ (by simp; omega))
theorem W6_b (w : World) (t e : Int) (v1 v2 v3 : Value) (kk n : Int) : (W6 w t e v1 v2 v3 kk n).heap[w.heap.size]? = some (.cells #[.int .i64 t, .int .i64 e, v1, v2, v3] 29 (0, 0)) := (W6_old w t e v1 v2 v3 kk n _ (by omega)).trans (W4_b w t e v1 v2 v3 kk n)
theorem W6_a (w : World) (t e : Int) (v1 v2 v3 : Value) (kk n : Int) : (W6 w t e v1 v2 v3 kk n).heap[w.heap.size + 1]? = some (.cells #[.int .i64 kk, .int .i64 n] 39 (0, 0)) := (W6_old w t e v1 v2 v3 kk n _ (by omega)).trans (W4_a w t e v1 v2 v3 kk n)
theorem W6_r (w : World) (t e : Int) (v1 v2 v3 : Value) (kk n : Int) : (W6 w t e v1 v2 v3 kk n).heap[w.heap.size + 1 + 1]? = some (.cells #[.int .i64 0, .int .i64 0, .slice none 0 0, .slice none 0 0, .slice none 0 0] 29 (0, 0)) := (W6_old w t e v1 v2 v3 kk n _ (by omega)).trans (W4_r w t e v1 v2 v3 kk n)
theorem W6_q (w : World) (t e : Int) (v1 v2 v3 : Value) (kk n : Int) : (W6 w t e v1 v2 v3 kk n).heap[w.heap.size + 1 + 1 + 1]? = some (.cells #[.int .i64 0, .slice none 0 0] 37 (0, 0)) := (W6_old w t e v1 v2 v3 kk n _ (by omega)).trans (W4_q w t e v1 v2 v3 kk n)
theorem W6_e (w : World) (t e : Int) (v1 v2 v3 : Value) (kk n : Int) : (W6 w t e v1 v2 v3 kk n).heap[w.heap.size + 1 + 1 + 1 + 1]? = some (.cells #[] 3 (0, 0)) := (heap_old _ _ _ (by simp)).trans (heap_new' _ _ _ (by simp))
theorem W6_p (w : World) (t e : Int) (v1 v2 v3 : Value) (kk n : Int) : (W6 w t e v1 v2 v3 kk n).heap[w.heap.size + 1 + 1 + 1 + 1 + 1]? = some (.cells #[.int .i64 0, .slice (some ⟨w.heap.size + 1 + 1 + 1 + 1, 0, none⟩) 0 0] 37 (0, 0)) := heap_new' _ _ _ (by simp)

set_option maxRecDepth 100000 in
set_option maxHeartbeats 8000000 in
theorem stepS_form (t : Nat) (e kk n : Int) (v1 v2 v3 : Value) (ss : List Int) (ps : List P2) (qs : List Int) (w : World) (h1 : ReadI w v1 ss) (h2 : ReadP w v2 ps) (h3 : ReadI w v3 qs) (l1 : ss.length ≤ 1048576) (l2 : ps.length ≤ 1048576) (l3 : qs.length ≤ 1048576) (k1 : ¬ kk = 1) (k2 : ¬ kk = 2) (k3 : ¬ kk = 3) :
    Calls Try.prog 45 #[SV t e v1 v2 v3, .agg #[.int .i64 kk, .int .i64 n]] w (QS w v1 v2 v3 ss ps qs t ⟨e, ss, ps, qs, 3, []⟩) := by
  have HL1 : Hid (ss.length ≤ 1048576) := l1
  have HL2 : Hid (ps.length ≤ 1048576) := l2
  have HL3 : Hid (qs.length ≤ 1048576) := l3
  have HR1 : Hid (ReadI w v1 ss) := h1
  have HR2 : Hid (ReadP w v2 ps) := h2
  have HR3 : Hid (ReadI w v3 qs) := h3
  obtain ⟨a1, c1, rfl, _⟩ := h1.row
  obtain ⟨a2, c2, rfl, _⟩ := h2.row
  obtain ⟨a3, c3, rfl, _⟩ := h3.row
  clear h1 h2 h3
  obtain ⟨x, hx⟩ : ∃ x, ss.length = x := ⟨_, rfl⟩
  obtain ⟨z, hz⟩ : ∃ z, ps.length = z := ⟨_, rfl⟩
  obtain ⟨y, hy⟩ : ∃ y, qs.length = y := ⟨_, rfl⟩
  have HX : Hid (ss.length = x) := hx
  have HZ : Hid (ps.length = z) := hz
  have HY : Hid (qs.length = y) := hy
  rw [hx] at HR1 ⊢
  rw [hz] at HR2 ⊢
  rw [hy] at HR3 ⊢
  try rw [hx] at l1
  try rw [hz] at l2
  try rw [hy] at l3
  clear hx hy hz
  obtain ⟨W0, hW0⟩ : ∃ W0, W6 w t e (.slice a1 x c1) (.slice a2 z c2) (.slice a3 y c3) kk n = W0 := ⟨_, rfl⟩
  have B0 : Below w.heap.size w W0 := hW0 ▸ below_W6 w t e _ _ _ _ _
  have z0 : W0.heap.size = w.heap.size + 6 := hW0 ▸ W6_size w t e _ _ _ _ _
  have xbW0 : W0.heap[w.heap.size]? = some (.cells #[.int .i64 t, .int .i64 e, .slice a1 x c1, .slice a2 z c2, .slice a3 y c3] 29 (0, 0)) := hW0 ▸ W6_b w t e _ _ _ _ _
  have xaW0 : W0.heap[w.heap.size + 1]? = some (.cells #[.int .i64 kk, .int .i64 n] 39 (0, 0)) := hW0 ▸ W6_a w t e _ _ _ _ _
  have xrW0 : W0.heap[w.heap.size + 1 + 1]? = some (.cells #[.int .i64 0, .int .i64 0, .slice none 0 0, .slice none 0 0, .slice none 0 0] 29 (0, 0)) := hW0 ▸ W6_r w t e _ _ _ _ _
  have xqW0 : W0.heap[w.heap.size + 1 + 1 + 1]? = some (.cells #[.int .i64 0, .slice none 0 0] 37 (0, 0)) := hW0 ▸ W6_q w t e _ _ _ _ _
  have xeW0 : W0.heap[w.heap.size + 1 + 1 + 1 + 1]? = some (.cells #[] 3 (0, 0)) := hW0 ▸ W6_e w t e _ _ _ _ _
  have xpW0 : W0.heap[w.heap.size + 1 + 1 + 1 + 1 + 1]? = some (.cells #[.int .i64 0, .slice (some ⟨w.heap.size + 1 + 1 + 1 + 1, 0, none⟩) 0 0] 37 (0, 0)) := hW0 ▸ W6_p w t e _ _ _ _ _
  have cb0W0 : W0.cell? ⟨w.heap.size, 0, none⟩ = some (.int .i64 t) := (by simp [World.cell?, xbW0])
  have cb1W0 : W0.cell? ⟨w.heap.size, 1, none⟩ = some (.int .i64 e) := (by simp [World.cell?, xbW0])
  have cb2W0 : W0.cell? ⟨w.heap.size, 2, none⟩ = some (.slice a1 x c1) := (by simp [World.cell?, xbW0])
  have cb3W0 : W0.cell? ⟨w.heap.size, 3, none⟩ = some (.slice a2 z c2) := (by simp [World.cell?, xbW0])
  have cb4W0 : W0.cell? ⟨w.heap.size, 4, none⟩ = some (.slice a3 y c3) := (by simp [World.cell?, xbW0])
  have fbW0 : ∀ o, W0.frozen? ⟨w.heap.size, o, none⟩ = false := fun o => (by simp [World.frozen?, xbW0])
  have ca0W0 : W0.cell? ⟨w.heap.size + 1, 0, none⟩ = some (.int .i64 kk) := (by simp [World.cell?, xaW0])
  have ca1W0 : W0.cell? ⟨w.heap.size + 1, 1, none⟩ = some (.int .i64 n) := (by simp [World.cell?, xaW0])
  have faW0 : ∀ o, W0.frozen? ⟨w.heap.size + 1, o, none⟩ = false := fun o => (by simp [World.frozen?, xaW0])
  have cr0W0 : W0.cell? ⟨w.heap.size + 1 + 1, 0, none⟩ = some (.int .i64 0) := (by simp [World.cell?, xrW0])
  have cr1W0 : W0.cell? ⟨w.heap.size + 1 + 1, 1, none⟩ = some (.int .i64 0) := (by simp [World.cell?, xrW0])
  have cr2W0 : W0.cell? ⟨w.heap.size + 1 + 1, 2, none⟩ = some (.slice none 0 0) := (by simp [World.cell?, xrW0])
  have cr3W0 : W0.cell? ⟨w.heap.size + 1 + 1, 3, none⟩ = some (.slice none 0 0) := (by simp [World.cell?, xrW0])
  have cr4W0 : W0.cell? ⟨w.heap.size + 1 + 1, 4, none⟩ = some (.slice none 0 0) := (by simp [World.cell?, xrW0])
  have frW0 : ∀ o, W0.frozen? ⟨w.heap.size + 1 + 1, o, none⟩ = false := fun o => (by simp [World.frozen?, xrW0])
  have cq0W0 : W0.cell? ⟨w.heap.size + 1 + 1 + 1, 0, none⟩ = some (.int .i64 0) := (by simp [World.cell?, xqW0])
  have cq1W0 : W0.cell? ⟨w.heap.size + 1 + 1 + 1, 1, none⟩ = some (.slice none 0 0) := (by simp [World.cell?, xqW0])
  have fqW0 : ∀ o, W0.frozen? ⟨w.heap.size + 1 + 1 + 1, o, none⟩ = false := fun o => (by simp [World.frozen?, xqW0])
  have cp0W0 : W0.cell? ⟨w.heap.size + 1 + 1 + 1 + 1 + 1, 0, none⟩ = some (.int .i64 0) := (by simp [World.cell?, xpW0])
  have cp1W0 : W0.cell? ⟨w.heap.size + 1 + 1 + 1 + 1 + 1, 1, none⟩ = some (.slice (some ⟨w.heap.size + 1 + 1 + 1 + 1, 0, none⟩) 0 0) := (by simp [World.cell?, xpW0])
  have fpW0 : ∀ o, W0.frozen? ⟨w.heap.size + 1 + 1 + 1 + 1 + 1, o, none⟩ = false := fun o => (by simp [World.frozen?, xpW0])
  obtain ⟨W1, hW1⟩ : ∃ W1, W0.setCell ⟨w.heap.size + 1 + 1 + 1 + 1 + 1, 0, none⟩ (.int .i64 3) = W1 := ⟨_, rfl⟩
  have ho1 : ∀ g, g ≠ w.heap.size + 1 + 1 + 1 + 1 + 1 → W1.heap[g]? = W0.heap[g]? := fun g hg => by rw [← hW1]; exact Below.heap_setCell _ _ _ _ hg
  have z1 : W1.heap.size = W0.heap.size := by rw [← hW1]; simp [World.setCell]
  have xb1 : W1.heap[w.heap.size]? = some (.cells #[.int .i64 t, .int .i64 e, .slice a1 x c1, .slice a2 z c2, .slice a3 y c3] 29 (0, 0)) := (ho1 _ (by omega)).trans xbW0
  have xr1 : W1.heap[w.heap.size + 1 + 1]? = some (.cells #[.int .i64 0, .int .i64 0, .slice none 0 0, .slice none 0 0, .slice none 0 0] 29 (0, 0)) := (ho1 _ (by omega)).trans xrW0
  have xq1 : W1.heap[w.heap.size + 1 + 1 + 1]? = some (.cells #[.int .i64 0, .slice none 0 0] 37 (0, 0)) := (ho1 _ (by omega)).trans xqW0
  have xe1 : W1.heap[w.heap.size + 1 + 1 + 1 + 1]? = some (.cells #[] 3 (0, 0)) := (ho1 _ (by omega)).trans xeW0
  have xp1 : W1.heap[w.heap.size + 1 + 1 + 1 + 1 + 1]? = some (.cells #[.int .i64 3, .slice (some ⟨w.heap.size + 1 + 1 + 1 + 1, 0, none⟩) 0 0] 37 (0, 0)) := by rw [← hW1]; exact slab_set xpW0 _
  have cr0W1 : W1.cell? ⟨w.heap.size + 1 + 1, 0, none⟩ = some (.int .i64 0) := (by simp [World.cell?, xr1])
  have cr1W1 : W1.cell? ⟨w.heap.size + 1 + 1, 1, none⟩ = some (.int .i64 0) := (by simp [World.cell?, xr1])
  have cr2W1 : W1.cell? ⟨w.heap.size + 1 + 1, 2, none⟩ = some (.slice none 0 0) := (by simp [World.cell?, xr1])
  have cr3W1 : W1.cell? ⟨w.heap.size + 1 + 1, 3, none⟩ = some (.slice none 0 0) := (by simp [World.cell?, xr1])
  have cr4W1 : W1.cell? ⟨w.heap.size + 1 + 1, 4, none⟩ = some (.slice none 0 0) := (by simp [World.cell?, xr1])
  have frW1 : ∀ o, W1.frozen? ⟨w.heap.size + 1 + 1, o, none⟩ = false := fun o => (by simp [World.frozen?, xr1])
  have cq0W1 : W1.cell? ⟨w.heap.size + 1 + 1 + 1, 0, none⟩ = some (.int .i64 0) := (by simp [World.cell?, xq1])
  have cq1W1 : W1.cell? ⟨w.heap.size + 1 + 1 + 1, 1, none⟩ = some (.slice none 0 0) := (by simp [World.cell?, xq1])
  have fqW1 : ∀ o, W1.frozen? ⟨w.heap.size + 1 + 1 + 1, o, none⟩ = false := fun o => (by simp [World.frozen?, xq1])
  have T00 : Hid (Box72 (w.heap.size) (w.heap.size + 1 + 1 + 1 + 1 + 1) t e (.slice a1 x c1) (.slice a2 z c2) (.slice a3 y c3) 3 (.slice (some ⟨w.heap.size + 1 + 1 + 1 + 1, 0, none⟩) 0 0) W1) := box72_of xb1 xp1
  have T0 : Hid (Box72 (w.heap.size) (w.heap.size + 1 + 1 + 1 + 1 + 1) t e (.slice a1 x c1) (.slice a2 z c2) (.slice a3 y c3) 3 (.slice (some ⟨w.heap.size + 1 + 1 + 1 + 1, 0, none⟩) 0 0) W1.drew) := box72_of xb1 xp1
  have OE : Hid (OwnI W1 (w.heap.size + 1 + 1 + 1 + 1) (.slice (some ⟨w.heap.size + 1 + 1 + 1 + 1, 0, none⟩) 0 0) []) := ⟨rfl, .inr ⟨_, 0, #[], rfl, Nat.le_refl _, xe1, Nat.le_refl _, by decide, rfl, rfl⟩⟩
  have B1 : Below w.heap.size w W1 := hW1 ▸ B0.setCell (p := ⟨w.heap.size + 1 + 1 + 1 + 1 + 1, 0, none⟩) (by show _ ≤ _ + 5; omega) _
  clear xb1 xr1 xq1 xe1 xp1 ho1
  have XB : Hid (W0.heap[w.heap.size]? = some (.cells #[.int .i64 t, .int .i64 e, .slice a1 x c1, .slice a2 z c2, .slice a3 y c3] 29 (0, 0))) := xbW0
  have XA : Hid (W0.heap[w.heap.size + 1]? = some (.cells #[.int .i64 kk, .int .i64 n] 39 (0, 0))) := xaW0
  have XR : Hid (W0.heap[w.heap.size + 1 + 1]? = some (.cells #[.int .i64 0, .int .i64 0, .slice none 0 0, .slice none 0 0, .slice none 0 0] 29 (0, 0))) := xrW0
  have XQ : Hid (W0.heap[w.heap.size + 1 + 1 + 1]? = some (.cells #[.int .i64 0, .slice none 0 0] 37 (0, 0))) := xqW0
  have XE : Hid (W0.heap[w.heap.size + 1 + 1 + 1 + 1]? = some (.cells #[] 3 (0, 0))) := xeW0
  have XP : Hid (W0.heap[w.heap.size + 1 + 1 + 1 + 1 + 1]? = some (.cells #[.int .i64 0, .slice (some ⟨w.heap.size + 1 + 1 + 1 + 1, 0, none⟩) 0 0] 37 (0, 0))) := xpW0
  clear xbW0 xaW0 xrW0 xqW0 xeW0 xpW0
  go_enter Try.func45, Try.ntmps45
  go_wp2_with fail
  go_region_held3 (Box72 (w.heap.size) (w.heap.size + 1 + 1 + 1 + 1 + 1) t e (.slice a1 x c1) (.slice a2 z c2) (.slice a3 y c3) 3 (.slice (some ⟨w.heap.size + 1 + 1 + 1 + 1, 0, none⟩) 0 0)) (with_reducible (first | exact T0.out | (repeat (first | exact T00.out | refine box72_drew ?_ | refine box72_set ?_ (by omega) (by omega))))) (fail)
  go_wp2
  refine bodyPost_ret (v := .tuple #[SV t e (.slice a1 x c1) (.slice a2 z c2) (.slice a3 y c3), .agg #[.int .i64 3, .slice (some ⟨w.heap.size + 1 + 1 + 1 + 1, 0, none⟩) 0 0]]) (by go_simp; simp [results, Try.results45, go_sem, cr0W1, cr1W1, cr2W1, cr3W1, cr4W1, cq0W1, cq1W1]) rfl ⟨_, _, _, _, rfl, .inl ⟨rfl, rfl⟩, .inl ⟨rfl, rfl⟩, .inl ⟨rfl, rfl⟩, own_drew (res_own OE.out (by omega) (by omega) _ _ _ _ _ _ _), (res_below B1 (by omega) _ _ _ _ _ _ _).drew⟩

set_option maxRecDepth 100000 in
set_option maxHeartbeats 8000000 in
theorem stepS_pinfull (t : Nat) (e n : Int) (v1 v2 v3 : Value) (ss : List Int) (ps : List P2) (qs : List Int) (w : World) (h1 : ReadI w v1 ss) (h2 : ReadP w v2 ps) (h3 : ReadI w v3 qs) (l1 : ss.length ≤ 1048576) (l2 : ps.length ≤ 1048576) (l3 : qs.length ≤ 1048576) (hq : qs.length = 4) :
    Calls Try.prog 45 #[SV t e v1 v2 v3, .agg #[.int .i64 2, .int .i64 n]] w (QS w v1 v2 v3 ss ps qs t ⟨e, ss, ps, qs, 7, []⟩) := by
  have HL1 : Hid (ss.length ≤ 1048576) := l1
  have HL2 : Hid (ps.length ≤ 1048576) := l2
  have HL3 : Hid (qs.length ≤ 1048576) := l3
  have HR1 : Hid (ReadI w v1 ss) := h1
  have HR2 : Hid (ReadP w v2 ps) := h2
  have HR3 : Hid (ReadI w v3 qs) := h3
  obtain ⟨a1, c1, rfl, _⟩ := h1.row
  obtain ⟨a2, c2, rfl, _⟩ := h2.row
  obtain ⟨a3, c3, rfl, _⟩ := h3.row
  clear h1 h2 h3
  obtain ⟨x, hx⟩ : ∃ x, ss.length = x := ⟨_, rfl⟩
  obtain ⟨z, hz⟩ : ∃ z, ps.length = z := ⟨_, rfl⟩
  obtain ⟨y, hy⟩ : ∃ y, qs.length = y := ⟨_, rfl⟩
  have HX : Hid (ss.length = x) := hx
  have HZ : Hid (ps.length = z) := hz
  have HY : Hid (qs.length = y) := hy
  rw [hx] at HR1 ⊢
  rw [hz] at HR2 ⊢
  rw [hy] at HR3 ⊢
  try rw [hx] at l1
  try rw [hz] at l2
  try rw [hy] at l3
  rw [hy] at hq
  clear hx hy hz
  have hq' : ((y : Int) == 4) = true := by simp; omega
  clear hq
  obtain ⟨W0, hW0⟩ : ∃ W0, W6 w t e (.slice a1 x c1) (.slice a2 z c2) (.slice a3 y c3) 2 n = W0 := ⟨_, rfl⟩
  have B0 : Below w.heap.size w W0 := hW0 ▸ below_W6 w t e _ _ _ _ _
  have z0 : W0.heap.size = w.heap.size + 6 := hW0 ▸ W6_size w t e _ _ _ _ _
  have xbW0 : W0.heap[w.heap.size]? = some (.cells #[.int .i64 t, .int .i64 e, .slice a1 x c1, .slice a2 z c2, .slice a3 y c3] 29 (0, 0)) := hW0 ▸ W6_b w t e _ _ _ _ _
  have xaW0 : W0.heap[w.heap.size + 1]? = some (.cells #[.int .i64 2, .int .i64 n] 39 (0, 0)) := hW0 ▸ W6_a w t e _ _ _ _ _
  have xrW0 : W0.heap[w.heap.size + 1 + 1]? = some (.cells #[.int .i64 0, .int .i64 0, .slice none 0 0, .slice none 0 0, .slice none 0 0] 29 (0, 0)) := hW0 ▸ W6_r w t e _ _ _ _ _
  have xqW0 : W0.heap[w.heap.size + 1 + 1 + 1]? = some (.cells #[.int .i64 0, .slice none 0 0] 37 (0, 0)) := hW0 ▸ W6_q w t e _ _ _ _ _
  have xeW0 : W0.heap[w.heap.size + 1 + 1 + 1 + 1]? = some (.cells #[] 3 (0, 0)) := hW0 ▸ W6_e w t e _ _ _ _ _
  have xpW0 : W0.heap[w.heap.size + 1 + 1 + 1 + 1 + 1]? = some (.cells #[.int .i64 0, .slice (some ⟨w.heap.size + 1 + 1 + 1 + 1, 0, none⟩) 0 0] 37 (0, 0)) := hW0 ▸ W6_p w t e _ _ _ _ _
  have cb0W0 : W0.cell? ⟨w.heap.size, 0, none⟩ = some (.int .i64 t) := (by simp [World.cell?, xbW0])
  have cb1W0 : W0.cell? ⟨w.heap.size, 1, none⟩ = some (.int .i64 e) := (by simp [World.cell?, xbW0])
  have cb2W0 : W0.cell? ⟨w.heap.size, 2, none⟩ = some (.slice a1 x c1) := (by simp [World.cell?, xbW0])
  have cb3W0 : W0.cell? ⟨w.heap.size, 3, none⟩ = some (.slice a2 z c2) := (by simp [World.cell?, xbW0])
  have cb4W0 : W0.cell? ⟨w.heap.size, 4, none⟩ = some (.slice a3 y c3) := (by simp [World.cell?, xbW0])
  have fbW0 : ∀ o, W0.frozen? ⟨w.heap.size, o, none⟩ = false := fun o => (by simp [World.frozen?, xbW0])
  have ca0W0 : W0.cell? ⟨w.heap.size + 1, 0, none⟩ = some (.int .i64 2) := (by simp [World.cell?, xaW0])
  have ca1W0 : W0.cell? ⟨w.heap.size + 1, 1, none⟩ = some (.int .i64 n) := (by simp [World.cell?, xaW0])
  have faW0 : ∀ o, W0.frozen? ⟨w.heap.size + 1, o, none⟩ = false := fun o => (by simp [World.frozen?, xaW0])
  have cr0W0 : W0.cell? ⟨w.heap.size + 1 + 1, 0, none⟩ = some (.int .i64 0) := (by simp [World.cell?, xrW0])
  have cr1W0 : W0.cell? ⟨w.heap.size + 1 + 1, 1, none⟩ = some (.int .i64 0) := (by simp [World.cell?, xrW0])
  have cr2W0 : W0.cell? ⟨w.heap.size + 1 + 1, 2, none⟩ = some (.slice none 0 0) := (by simp [World.cell?, xrW0])
  have cr3W0 : W0.cell? ⟨w.heap.size + 1 + 1, 3, none⟩ = some (.slice none 0 0) := (by simp [World.cell?, xrW0])
  have cr4W0 : W0.cell? ⟨w.heap.size + 1 + 1, 4, none⟩ = some (.slice none 0 0) := (by simp [World.cell?, xrW0])
  have frW0 : ∀ o, W0.frozen? ⟨w.heap.size + 1 + 1, o, none⟩ = false := fun o => (by simp [World.frozen?, xrW0])
  have cq0W0 : W0.cell? ⟨w.heap.size + 1 + 1 + 1, 0, none⟩ = some (.int .i64 0) := (by simp [World.cell?, xqW0])
  have cq1W0 : W0.cell? ⟨w.heap.size + 1 + 1 + 1, 1, none⟩ = some (.slice none 0 0) := (by simp [World.cell?, xqW0])
  have fqW0 : ∀ o, W0.frozen? ⟨w.heap.size + 1 + 1 + 1, o, none⟩ = false := fun o => (by simp [World.frozen?, xqW0])
  have cp0W0 : W0.cell? ⟨w.heap.size + 1 + 1 + 1 + 1 + 1, 0, none⟩ = some (.int .i64 0) := (by simp [World.cell?, xpW0])
  have cp1W0 : W0.cell? ⟨w.heap.size + 1 + 1 + 1 + 1 + 1, 1, none⟩ = some (.slice (some ⟨w.heap.size + 1 + 1 + 1 + 1, 0, none⟩) 0 0) := (by simp [World.cell?, xpW0])
  have fpW0 : ∀ o, W0.frozen? ⟨w.heap.size + 1 + 1 + 1 + 1 + 1, o, none⟩ = false := fun o => (by simp [World.frozen?, xpW0])
  obtain ⟨W1, hW1⟩ : ∃ W1, W0.setCell ⟨w.heap.size + 1 + 1 + 1 + 1 + 1, 0, none⟩ (.int .i64 7) = W1 := ⟨_, rfl⟩
  have ho1 : ∀ g, g ≠ w.heap.size + 1 + 1 + 1 + 1 + 1 → W1.heap[g]? = W0.heap[g]? := fun g hg => by rw [← hW1]; exact Below.heap_setCell _ _ _ _ hg
  have z1 : W1.heap.size = W0.heap.size := by rw [← hW1]; simp [World.setCell]
  have xb1 : W1.heap[w.heap.size]? = some (.cells #[.int .i64 t, .int .i64 e, .slice a1 x c1, .slice a2 z c2, .slice a3 y c3] 29 (0, 0)) := (ho1 _ (by omega)).trans xbW0
  have xr1 : W1.heap[w.heap.size + 1 + 1]? = some (.cells #[.int .i64 0, .int .i64 0, .slice none 0 0, .slice none 0 0, .slice none 0 0] 29 (0, 0)) := (ho1 _ (by omega)).trans xrW0
  have xq1 : W1.heap[w.heap.size + 1 + 1 + 1]? = some (.cells #[.int .i64 0, .slice none 0 0] 37 (0, 0)) := (ho1 _ (by omega)).trans xqW0
  have xe1 : W1.heap[w.heap.size + 1 + 1 + 1 + 1]? = some (.cells #[] 3 (0, 0)) := (ho1 _ (by omega)).trans xeW0
  have xp1 : W1.heap[w.heap.size + 1 + 1 + 1 + 1 + 1]? = some (.cells #[.int .i64 7, .slice (some ⟨w.heap.size + 1 + 1 + 1 + 1, 0, none⟩) 0 0] 37 (0, 0)) := by rw [← hW1]; exact slab_set xpW0 _
  have cr0W1 : W1.cell? ⟨w.heap.size + 1 + 1, 0, none⟩ = some (.int .i64 0) := (by simp [World.cell?, xr1])
  have cr1W1 : W1.cell? ⟨w.heap.size + 1 + 1, 1, none⟩ = some (.int .i64 0) := (by simp [World.cell?, xr1])
  have cr2W1 : W1.cell? ⟨w.heap.size + 1 + 1, 2, none⟩ = some (.slice none 0 0) := (by simp [World.cell?, xr1])
  have cr3W1 : W1.cell? ⟨w.heap.size + 1 + 1, 3, none⟩ = some (.slice none 0 0) := (by simp [World.cell?, xr1])
  have cr4W1 : W1.cell? ⟨w.heap.size + 1 + 1, 4, none⟩ = some (.slice none 0 0) := (by simp [World.cell?, xr1])
  have frW1 : ∀ o, W1.frozen? ⟨w.heap.size + 1 + 1, o, none⟩ = false := fun o => (by simp [World.frozen?, xr1])
  have cq0W1 : W1.cell? ⟨w.heap.size + 1 + 1 + 1, 0, none⟩ = some (.int .i64 0) := (by simp [World.cell?, xq1])
  have cq1W1 : W1.cell? ⟨w.heap.size + 1 + 1 + 1, 1, none⟩ = some (.slice none 0 0) := (by simp [World.cell?, xq1])
  have fqW1 : ∀ o, W1.frozen? ⟨w.heap.size + 1 + 1 + 1, o, none⟩ = false := fun o => (by simp [World.frozen?, xq1])
  have T00 : Hid (Box72 (w.heap.size) (w.heap.size + 1 + 1 + 1 + 1 + 1) t e (.slice a1 x c1) (.slice a2 z c2) (.slice a3 y c3) 7 (.slice (some ⟨w.heap.size + 1 + 1 + 1 + 1, 0, none⟩) 0 0) W1) := box72_of xb1 xp1
  have T0 : Hid (Box72 (w.heap.size) (w.heap.size + 1 + 1 + 1 + 1 + 1) t e (.slice a1 x c1) (.slice a2 z c2) (.slice a3 y c3) 7 (.slice (some ⟨w.heap.size + 1 + 1 + 1 + 1, 0, none⟩) 0 0) W1.drew) := box72_of xb1 xp1
  have OE : Hid (OwnI W1 (w.heap.size + 1 + 1 + 1 + 1) (.slice (some ⟨w.heap.size + 1 + 1 + 1 + 1, 0, none⟩) 0 0) []) := ⟨rfl, .inr ⟨_, 0, #[], rfl, Nat.le_refl _, xe1, Nat.le_refl _, by decide, rfl, rfl⟩⟩
  have B1 : Below w.heap.size w W1 := hW1 ▸ B0.setCell (p := ⟨w.heap.size + 1 + 1 + 1 + 1 + 1, 0, none⟩) (by show _ ≤ _ + 5; omega) _
  clear xb1 xr1 xq1 xe1 xp1 ho1
  have XB : Hid (W0.heap[w.heap.size]? = some (.cells #[.int .i64 t, .int .i64 e, .slice a1 x c1, .slice a2 z c2, .slice a3 y c3] 29 (0, 0))) := xbW0
  have XA : Hid (W0.heap[w.heap.size + 1]? = some (.cells #[.int .i64 2, .int .i64 n] 39 (0, 0))) := xaW0
  have XR : Hid (W0.heap[w.heap.size + 1 + 1]? = some (.cells #[.int .i64 0, .int .i64 0, .slice none 0 0, .slice none 0 0, .slice none 0 0] 29 (0, 0))) := xrW0
  have XQ : Hid (W0.heap[w.heap.size + 1 + 1 + 1]? = some (.cells #[.int .i64 0, .slice none 0 0] 37 (0, 0))) := xqW0
  have XE : Hid (W0.heap[w.heap.size + 1 + 1 + 1 + 1]? = some (.cells #[] 3 (0, 0))) := xeW0
  have XP : Hid (W0.heap[w.heap.size + 1 + 1 + 1 + 1 + 1]? = some (.cells #[.int .i64 0, .slice (some ⟨w.heap.size + 1 + 1 + 1 + 1, 0, none⟩) 0 0] 37 (0, 0))) := xpW0
  clear xbW0 xaW0 xrW0 xqW0 xeW0 xpW0
  go_enter Try.func45, Try.ntmps45
  go_wp2_with fail
  go_region_held3 (Box72 (w.heap.size) (w.heap.size + 1 + 1 + 1 + 1 + 1) t e (.slice a1 x c1) (.slice a2 z c2) (.slice a3 y c3) 7 (.slice (some ⟨w.heap.size + 1 + 1 + 1 + 1, 0, none⟩) 0 0)) (with_reducible (first | exact T0.out | (repeat (first | exact T00.out | refine box72_drew ?_ | refine box72_set ?_ (by omega) (by omega))))) (fail)
  go_wp2
  refine bodyPost_ret (v := .tuple #[SV t e (.slice a1 x c1) (.slice a2 z c2) (.slice a3 y c3), .agg #[.int .i64 7, .slice (some ⟨w.heap.size + 1 + 1 + 1 + 1, 0, none⟩) 0 0]]) (by go_simp; simp [results, Try.results45, go_sem, cr0W1, cr1W1, cr2W1, cr3W1, cr4W1, cq0W1, cq1W1]) rfl ⟨_, _, _, _, rfl, .inl ⟨rfl, rfl⟩, .inl ⟨rfl, rfl⟩, .inl ⟨rfl, rfl⟩, own_drew (res_own OE.out (by omega) (by omega) _ _ _ _ _ _ _), (res_below B1 (by omega) _ _ _ _ _ _ _).drew⟩

set_option maxRecDepth 100000 in
set_option maxHeartbeats 8000000 in
theorem stepS_unpinnone (t : Nat) (e n : Int) (v1 v2 v3 : Value) (ss : List Int) (ps : List P2) (qs : List Int) (w : World) (h1 : ReadI w v1 ss) (h2 : ReadP w v2 ps) (h3 : ReadI w v3 qs) (l1 : ss.length ≤ 1048576) (l2 : ps.length ≤ 1048576) (l3 : qs.length ≤ 1048576) (hn : ¬ (0 ≤ n ∧ n < qs.length)) :
    Calls Try.prog 45 #[SV t e v1 v2 v3, .agg #[.int .i64 3, .int .i64 n]] w (QS w v1 v2 v3 ss ps qs t ⟨e, ss, ps, qs, 5, []⟩) := by
  have HL1 : Hid (ss.length ≤ 1048576) := l1
  have HL2 : Hid (ps.length ≤ 1048576) := l2
  have HL3 : Hid (qs.length ≤ 1048576) := l3
  have HR1 : Hid (ReadI w v1 ss) := h1
  have HR2 : Hid (ReadP w v2 ps) := h2
  have HR3 : Hid (ReadI w v3 qs) := h3
  obtain ⟨a1, c1, rfl, _⟩ := h1.row
  obtain ⟨a2, c2, rfl, _⟩ := h2.row
  obtain ⟨a3, c3, rfl, _⟩ := h3.row
  clear h1 h2 h3
  obtain ⟨x, hx⟩ : ∃ x, ss.length = x := ⟨_, rfl⟩
  obtain ⟨z, hz⟩ : ∃ z, ps.length = z := ⟨_, rfl⟩
  obtain ⟨y, hy⟩ : ∃ y, qs.length = y := ⟨_, rfl⟩
  have HX : Hid (ss.length = x) := hx
  have HZ : Hid (ps.length = z) := hz
  have HY : Hid (qs.length = y) := hy
  rw [hx] at HR1 ⊢
  rw [hz] at HR2 ⊢
  rw [hy] at HR3 ⊢
  try rw [hx] at l1
  try rw [hz] at l2
  try rw [hy] at l3
  rw [hy] at hn
  clear hx hy hz
  obtain ⟨W0, hW0⟩ : ∃ W0, W6 w t e (.slice a1 x c1) (.slice a2 z c2) (.slice a3 y c3) 3 n = W0 := ⟨_, rfl⟩
  have B0 : Below w.heap.size w W0 := hW0 ▸ below_W6 w t e _ _ _ _ _
  have z0 : W0.heap.size = w.heap.size + 6 := hW0 ▸ W6_size w t e _ _ _ _ _
  have xbW0 : W0.heap[w.heap.size]? = some (.cells #[.int .i64 t, .int .i64 e, .slice a1 x c1, .slice a2 z c2, .slice a3 y c3] 29 (0, 0)) := hW0 ▸ W6_b w t e _ _ _ _ _
  have xaW0 : W0.heap[w.heap.size + 1]? = some (.cells #[.int .i64 3, .int .i64 n] 39 (0, 0)) := hW0 ▸ W6_a w t e _ _ _ _ _
  have xrW0 : W0.heap[w.heap.size + 1 + 1]? = some (.cells #[.int .i64 0, .int .i64 0, .slice none 0 0, .slice none 0 0, .slice none 0 0] 29 (0, 0)) := hW0 ▸ W6_r w t e _ _ _ _ _
  have xqW0 : W0.heap[w.heap.size + 1 + 1 + 1]? = some (.cells #[.int .i64 0, .slice none 0 0] 37 (0, 0)) := hW0 ▸ W6_q w t e _ _ _ _ _
  have xeW0 : W0.heap[w.heap.size + 1 + 1 + 1 + 1]? = some (.cells #[] 3 (0, 0)) := hW0 ▸ W6_e w t e _ _ _ _ _
  have xpW0 : W0.heap[w.heap.size + 1 + 1 + 1 + 1 + 1]? = some (.cells #[.int .i64 0, .slice (some ⟨w.heap.size + 1 + 1 + 1 + 1, 0, none⟩) 0 0] 37 (0, 0)) := hW0 ▸ W6_p w t e _ _ _ _ _
  have cb0W0 : W0.cell? ⟨w.heap.size, 0, none⟩ = some (.int .i64 t) := (by simp [World.cell?, xbW0])
  have cb1W0 : W0.cell? ⟨w.heap.size, 1, none⟩ = some (.int .i64 e) := (by simp [World.cell?, xbW0])
  have cb2W0 : W0.cell? ⟨w.heap.size, 2, none⟩ = some (.slice a1 x c1) := (by simp [World.cell?, xbW0])
  have cb3W0 : W0.cell? ⟨w.heap.size, 3, none⟩ = some (.slice a2 z c2) := (by simp [World.cell?, xbW0])
  have cb4W0 : W0.cell? ⟨w.heap.size, 4, none⟩ = some (.slice a3 y c3) := (by simp [World.cell?, xbW0])
  have fbW0 : ∀ o, W0.frozen? ⟨w.heap.size, o, none⟩ = false := fun o => (by simp [World.frozen?, xbW0])
  have ca0W0 : W0.cell? ⟨w.heap.size + 1, 0, none⟩ = some (.int .i64 3) := (by simp [World.cell?, xaW0])
  have ca1W0 : W0.cell? ⟨w.heap.size + 1, 1, none⟩ = some (.int .i64 n) := (by simp [World.cell?, xaW0])
  have faW0 : ∀ o, W0.frozen? ⟨w.heap.size + 1, o, none⟩ = false := fun o => (by simp [World.frozen?, xaW0])
  have cr0W0 : W0.cell? ⟨w.heap.size + 1 + 1, 0, none⟩ = some (.int .i64 0) := (by simp [World.cell?, xrW0])
  have cr1W0 : W0.cell? ⟨w.heap.size + 1 + 1, 1, none⟩ = some (.int .i64 0) := (by simp [World.cell?, xrW0])
  have cr2W0 : W0.cell? ⟨w.heap.size + 1 + 1, 2, none⟩ = some (.slice none 0 0) := (by simp [World.cell?, xrW0])
  have cr3W0 : W0.cell? ⟨w.heap.size + 1 + 1, 3, none⟩ = some (.slice none 0 0) := (by simp [World.cell?, xrW0])
  have cr4W0 : W0.cell? ⟨w.heap.size + 1 + 1, 4, none⟩ = some (.slice none 0 0) := (by simp [World.cell?, xrW0])
  have frW0 : ∀ o, W0.frozen? ⟨w.heap.size + 1 + 1, o, none⟩ = false := fun o => (by simp [World.frozen?, xrW0])
  have cq0W0 : W0.cell? ⟨w.heap.size + 1 + 1 + 1, 0, none⟩ = some (.int .i64 0) := (by simp [World.cell?, xqW0])
  have cq1W0 : W0.cell? ⟨w.heap.size + 1 + 1 + 1, 1, none⟩ = some (.slice none 0 0) := (by simp [World.cell?, xqW0])
  have fqW0 : ∀ o, W0.frozen? ⟨w.heap.size + 1 + 1 + 1, o, none⟩ = false := fun o => (by simp [World.frozen?, xqW0])
  have cp0W0 : W0.cell? ⟨w.heap.size + 1 + 1 + 1 + 1 + 1, 0, none⟩ = some (.int .i64 0) := (by simp [World.cell?, xpW0])
  have cp1W0 : W0.cell? ⟨w.heap.size + 1 + 1 + 1 + 1 + 1, 1, none⟩ = some (.slice (some ⟨w.heap.size + 1 + 1 + 1 + 1, 0, none⟩) 0 0) := (by simp [World.cell?, xpW0])
  have fpW0 : ∀ o, W0.frozen? ⟨w.heap.size + 1 + 1 + 1 + 1 + 1, o, none⟩ = false := fun o => (by simp [World.frozen?, xpW0])
  obtain ⟨W1, hW1⟩ : ∃ W1, W0.setCell ⟨w.heap.size + 1 + 1 + 1 + 1 + 1, 0, none⟩ (.int .i64 5) = W1 := ⟨_, rfl⟩
  have ho1 : ∀ g, g ≠ w.heap.size + 1 + 1 + 1 + 1 + 1 → W1.heap[g]? = W0.heap[g]? := fun g hg => by rw [← hW1]; exact Below.heap_setCell _ _ _ _ hg
  have z1 : W1.heap.size = W0.heap.size := by rw [← hW1]; simp [World.setCell]
  have xb1 : W1.heap[w.heap.size]? = some (.cells #[.int .i64 t, .int .i64 e, .slice a1 x c1, .slice a2 z c2, .slice a3 y c3] 29 (0, 0)) := (ho1 _ (by omega)).trans xbW0
  have xr1 : W1.heap[w.heap.size + 1 + 1]? = some (.cells #[.int .i64 0, .int .i64 0, .slice none 0 0, .slice none 0 0, .slice none 0 0] 29 (0, 0)) := (ho1 _ (by omega)).trans xrW0
  have xq1 : W1.heap[w.heap.size + 1 + 1 + 1]? = some (.cells #[.int .i64 0, .slice none 0 0] 37 (0, 0)) := (ho1 _ (by omega)).trans xqW0
  have xe1 : W1.heap[w.heap.size + 1 + 1 + 1 + 1]? = some (.cells #[] 3 (0, 0)) := (ho1 _ (by omega)).trans xeW0
  have xp1 : W1.heap[w.heap.size + 1 + 1 + 1 + 1 + 1]? = some (.cells #[.int .i64 5, .slice (some ⟨w.heap.size + 1 + 1 + 1 + 1, 0, none⟩) 0 0] 37 (0, 0)) := by rw [← hW1]; exact slab_set xpW0 _
  have cr0W1 : W1.cell? ⟨w.heap.size + 1 + 1, 0, none⟩ = some (.int .i64 0) := (by simp [World.cell?, xr1])
  have cr1W1 : W1.cell? ⟨w.heap.size + 1 + 1, 1, none⟩ = some (.int .i64 0) := (by simp [World.cell?, xr1])
  have cr2W1 : W1.cell? ⟨w.heap.size + 1 + 1, 2, none⟩ = some (.slice none 0 0) := (by simp [World.cell?, xr1])
  have cr3W1 : W1.cell? ⟨w.heap.size + 1 + 1, 3, none⟩ = some (.slice none 0 0) := (by simp [World.cell?, xr1])
  have cr4W1 : W1.cell? ⟨w.heap.size + 1 + 1, 4, none⟩ = some (.slice none 0 0) := (by simp [World.cell?, xr1])
  have frW1 : ∀ o, W1.frozen? ⟨w.heap.size + 1 + 1, o, none⟩ = false := fun o => (by simp [World.frozen?, xr1])
  have cq0W1 : W1.cell? ⟨w.heap.size + 1 + 1 + 1, 0, none⟩ = some (.int .i64 0) := (by simp [World.cell?, xq1])
  have cq1W1 : W1.cell? ⟨w.heap.size + 1 + 1 + 1, 1, none⟩ = some (.slice none 0 0) := (by simp [World.cell?, xq1])
  have fqW1 : ∀ o, W1.frozen? ⟨w.heap.size + 1 + 1 + 1, o, none⟩ = false := fun o => (by simp [World.frozen?, xq1])
  have T00 : Hid (Box72 (w.heap.size) (w.heap.size + 1 + 1 + 1 + 1 + 1) t e (.slice a1 x c1) (.slice a2 z c2) (.slice a3 y c3) 5 (.slice (some ⟨w.heap.size + 1 + 1 + 1 + 1, 0, none⟩) 0 0) W1) := box72_of xb1 xp1
  have T0 : Hid (Box72 (w.heap.size) (w.heap.size + 1 + 1 + 1 + 1 + 1) t e (.slice a1 x c1) (.slice a2 z c2) (.slice a3 y c3) 5 (.slice (some ⟨w.heap.size + 1 + 1 + 1 + 1, 0, none⟩) 0 0) W1.drew) := box72_of xb1 xp1
  have OE : Hid (OwnI W1 (w.heap.size + 1 + 1 + 1 + 1) (.slice (some ⟨w.heap.size + 1 + 1 + 1 + 1, 0, none⟩) 0 0) []) := ⟨rfl, .inr ⟨_, 0, #[], rfl, Nat.le_refl _, xe1, Nat.le_refl _, by decide, rfl, rfl⟩⟩
  have B1 : Below w.heap.size w W1 := hW1 ▸ B0.setCell (p := ⟨w.heap.size + 1 + 1 + 1 + 1 + 1, 0, none⟩) (by show _ ≤ _ + 5; omega) _
  clear xb1 xr1 xq1 xe1 xp1 ho1
  have XB : Hid (W0.heap[w.heap.size]? = some (.cells #[.int .i64 t, .int .i64 e, .slice a1 x c1, .slice a2 z c2, .slice a3 y c3] 29 (0, 0))) := xbW0
  have XA : Hid (W0.heap[w.heap.size + 1]? = some (.cells #[.int .i64 3, .int .i64 n] 39 (0, 0))) := xaW0
  have XR : Hid (W0.heap[w.heap.size + 1 + 1]? = some (.cells #[.int .i64 0, .int .i64 0, .slice none 0 0, .slice none 0 0, .slice none 0 0] 29 (0, 0))) := xrW0
  have XQ : Hid (W0.heap[w.heap.size + 1 + 1 + 1]? = some (.cells #[.int .i64 0, .slice none 0 0] 37 (0, 0))) := xqW0
  have XE : Hid (W0.heap[w.heap.size + 1 + 1 + 1 + 1]? = some (.cells #[] 3 (0, 0))) := xeW0
  have XP : Hid (W0.heap[w.heap.size + 1 + 1 + 1 + 1 + 1]? = some (.cells #[.int .i64 0, .slice (some ⟨w.heap.size + 1 + 1 + 1 + 1, 0, none⟩) 0 0] 37 (0, 0))) := xpW0
  clear xbW0 xaW0 xrW0 xqW0 xeW0 xpW0
  have HI : Hid (inB n 0 ((y : Int) - 1) = false) := decide_eq_false (by omega)
  go_enter Try.func45, Try.ntmps45
  go_wp2_with fail
  refine (l01In_any n 0 _ W0).mono ?_
  rintro r w1' ⟨rfl, hq⟩
  obtain rfl := hq.symm
  rw [HI.out]
  go_wp2_with fail
  go_region_held3 (Box72 (w.heap.size) (w.heap.size + 1 + 1 + 1 + 1 + 1) t e (.slice a1 x c1) (.slice a2 z c2) (.slice a3 y c3) 5 (.slice (some ⟨w.heap.size + 1 + 1 + 1 + 1, 0, none⟩) 0 0)) (with_reducible (first | exact T0.out | (repeat (first | exact T00.out | refine box72_drew ?_ | refine box72_set ?_ (by omega) (by omega))))) (fail)
  go_wp2
  refine bodyPost_ret (v := .tuple #[SV t e (.slice a1 x c1) (.slice a2 z c2) (.slice a3 y c3), .agg #[.int .i64 5, .slice (some ⟨w.heap.size + 1 + 1 + 1 + 1, 0, none⟩) 0 0]]) (by go_simp; simp [results, Try.results45, go_sem, cr0W1, cr1W1, cr2W1, cr3W1, cr4W1, cq0W1, cq1W1]) rfl ⟨_, _, _, _, rfl, .inl ⟨rfl, rfl⟩, .inl ⟨rfl, rfl⟩, .inl ⟨rfl, rfl⟩, own_drew (res_own OE.out (by omega) (by omega) _ _ _ _ _ _ _), (res_below B1 (by omega) _ _ _ _ _ _ _).drew⟩
end Go.Proofs.Ytaklphoplfofbaa
