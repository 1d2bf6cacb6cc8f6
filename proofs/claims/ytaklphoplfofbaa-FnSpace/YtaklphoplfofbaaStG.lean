/- pinEpoch, where there is no room (stage 4). -/
import Derived.Test.YtaklphoplfofbaaStF
namespace Go.Proofs.Ytaklphoplfofbaa
open Go.RowKit

/-- What an act answers: the space, its lists as they were or new, and the reply. -/
def SQ (w : World) (v1 v2 v3 : Value) (ss : List Int) (ps : List P2) (qs : List Int) (t e' : Int) (ss' : List Int) (ps' : List P2) (qs' : List Int) (c : Int) (pg : List Int) (r : Ending) (w' : World) : Prop :=
  ∃ u1 u2 u3 u4, r = .returned (.tuple #[SV t e' u1 u2 u3, .agg #[.int .i64 c, u4]]) ∧ (u1 = v1 ∧ ss' = ss ∨ OwnI w' w.heap.size u1 ss') ∧ (u2 = v2 ∧ ps' = ps ∨ OwnP w' w.heap.size u2 ps') ∧ (u3 = v3 ∧ qs' = qs ∨ OwnI w' w.heap.size u3 qs') ∧ OwnI w' w.heap.size u4 pg ∧ (u1 = v1 ∨ SepN w.heap.size u1 u4) ∧ (u3 = v3 ∨ SepN w.heap.size u3 u4) ∧ (u1 = v1 ∨ u3 = v3 ∨ SepN w.heap.size u1 u3)
/-- The three boxes that an act begins with. -/
abbrev W3 (w : World) (t e : Int) (v1 v2 v3 : Value) : World := ((w.alloc (SC t e v1 v2 v3 29)).alloc (.cells #[.int .i64 0, .int .i64 0, .slice none 0 0, .slice none 0 0, .slice none 0 0] 29)).alloc (.cells #[.int .i64 0, .slice none 0 0] 37)
theorem below_W3 (w : World) (t e : Int) (v1 v2 v3 : Value) : Below w.heap.size w (W3 w t e v1 v2 v3) := (((Below.refl _ _).alloc (Nat.le_refl _) _).alloc (by simp) _).alloc (by simp; omega) _
theorem W3_size (w : World) (t e : Int) (v1 v2 v3 : Value) : (W3 w t e v1 v2 v3).heap.size = w.heap.size + 3 := by simp
theorem W3_b (w : World) (t e : Int) (v1 v2 v3 : Value) : (W3 w t e v1 v2 v3).heap[w.heap.size]? = some (.cells #[.int .i64 t, .int .i64 e, v1, v2, v3] 29 (0, 0)) :=
  (heap_old _ _ _ (by simp; omega)).trans ((heap_old _ _ _ (by simp)).trans (heap_new' _ _ _ rfl))
theorem W3_r (w : World) (t e : Int) (v1 v2 v3 : Value) : (W3 w t e v1 v2 v3).heap[w.heap.size + 1]? = some (.cells #[.int .i64 0, .int .i64 0, .slice none 0 0, .slice none 0 0, .slice none 0 0] 29 (0, 0)) :=
  (heap_old _ _ _ (by simp)).trans (heap_new' _ _ _ (by simp))
theorem W3_q (w : World) (t e : Int) (v1 v2 v3 : Value) : (W3 w t e v1 v2 v3).heap[w.heap.size + 1 + 1]? = some (.cells #[.int .i64 0, .slice none 0 0] 37 (0, 0)) := heap_new' _ _ _ (by simp)

/-- The answer lies in the boxes r and r + 1. -/
abbrev Res (w : World) (r : Nat) (a b c d f h k : Value) : World := (((((((w.setCell ⟨r, 0, none⟩ a).setCell ⟨r, 1, none⟩ b).setCell ⟨r, 2, none⟩ c).setCell ⟨r, 3, none⟩ d).setCell ⟨r, 4, none⟩ f).setCell ⟨r + 1, 0, none⟩ h).setCell ⟨r + 1, 1, none⟩ k)
theorem res_other (w : World) (r : Nat) (a b c d f h k : Value) (g : Nat) (h1 : g ≠ r) (h2 : g ≠ r + 1) : (Res w r a b c d f h k).heap[g]? = w.heap[g]? := by
  rw [Below.heap_setCell _ _ _ _ h2, Below.heap_setCell _ _ _ _ h2, Below.heap_setCell _ _ _ _ h1, Below.heap_setCell _ _ _ _ h1, Below.heap_setCell _ _ _ _ h1, Below.heap_setCell _ _ _ _ h1, Below.heap_setCell _ _ _ _ h1]
theorem res_below {B : Nat} {u w : World} {r : Nat} (hb : Below B u w) (hr : B ≤ r) (a b c d f h k : Value) : Below B u (Res w r a b c d f h k) :=
  ((((((hb.setCell (p := ⟨r, 0, none⟩) hr a).setCell (p := ⟨r, 1, none⟩) hr b).setCell (p := ⟨r, 2, none⟩) hr c).setCell (p := ⟨r, 3, none⟩) hr d).setCell (p := ⟨r, 4, none⟩) hr f).setCell (p := ⟨r + 1, 0, none⟩) (Nat.le_succ_of_le hr) h).setCell (p := ⟨r + 1, 1, none⟩) (Nat.le_succ_of_le hr) k
theorem res_own {w : World} {r B B' e m n : Nat} {v : Value} {xs : List Value} (ho : w.ownsRow B e m v n xs) (h1 : r + 1 < B) (hB : B' ≤ B) (a b c d f h k : Value) : (Res w r a b c d f h k).ownsRow B' e m v n xs :=
  own_mono (own_keep ho fun g hg _ => res_other w r a b c d f h k g (by omega) (by omega)) hB

set_option maxRecDepth 100000 in
set_option maxHeartbeats 4000000 in
theorem pin_full (t e : Int) (v1 v2 v3 : Value) (ss : List Int) (ps : List P2) (qs : List Int) (w : World) (h1 : ReadI w v1 ss) (h2 : ReadP w v2 ps) (h3 : ReadI w v3 qs) (l3 : 4 ≤ qs.length) :
    Calls Try.prog 65 #[SV t e v1 v2 v3] w fun r w' => SQ w v1 v2 v3 ss ps qs t e ss ps qs 7 [] r w' ∧ Below w.heap.size w w' := by
  have HR1 : Hid (ReadI w v1 ss) := h1
  have HR2 : Hid (ReadP w v2 ps) := h2
  have HR3 : Hid (ReadI w v3 qs) := h3
  obtain ⟨a1, c1, rfl, _⟩ := h1.row
  obtain ⟨a2, c2, rfl, _⟩ := h2.row
  obtain ⟨a3, c3, rfl, _⟩ := h3.row
  clear h1 h2 h3
  obtain ⟨x, hx⟩ : ∃ x, ss.length = x := ⟨_, rfl⟩
  obtain ⟨z, hz⟩ : ∃ z, ps.length = z := ⟨_, rfl⟩
  obtain ⟨y, hy⟩ : ∃ y, qs.length = y := ⟨_, rfl⟩
  have HX : Hid (ss.length = x) := hx
  have HZ : Hid (ps.length = z) := hz
  have HY : Hid (qs.length = y) := hy
  rw [hx] at HR1 ⊢
  rw [hz] at HR2 ⊢
  rw [hy] at HR3 ⊢
  try rw [hx] at l1
  try rw [hz] at l2
  try rw [hy] at l3
  clear hx hy hz
  obtain ⟨W0, hW0⟩ : ∃ W0, W3 w t e (.slice a1 x c1) (.slice a2 z c2) (.slice a3 y c3) = W0 := ⟨_, rfl⟩
  have B0 : Below w.heap.size w W0 := hW0 ▸ below_W3 w t e _ _ _
  have z0 : W0.heap.size = w.heap.size + 3 := hW0 ▸ W3_size w t e _ _ _
  have xb : W0.heap[w.heap.size]? = some (.cells #[.int .i64 t, .int .i64 e, .slice a1 x c1, .slice a2 z c2, .slice a3 y c3] 29 (0, 0)) := hW0 ▸ W3_b w t e _ _ _
  have xr : W0.heap[w.heap.size + 1]? = some (.cells #[.int .i64 0, .int .i64 0, .slice none 0 0, .slice none 0 0, .slice none 0 0] 29 (0, 0)) := hW0 ▸ W3_r w t e _ _ _
  have xq : W0.heap[w.heap.size + 1 + 1]? = some (.cells #[.int .i64 0, .slice none 0 0] 37 (0, 0)) := hW0 ▸ W3_q w t e _ _ _
  have cb0W0 : W0.cell? ⟨w.heap.size, 0, none⟩ = some (.int .i64 t) := (by simp [World.cell?, xb])
  have cb1W0 : W0.cell? ⟨w.heap.size, 1, none⟩ = some (.int .i64 e) := (by simp [World.cell?, xb])
  have cb2W0 : W0.cell? ⟨w.heap.size, 2, none⟩ = some (.slice a1 x c1) := (by simp [World.cell?, xb])
  have cb3W0 : W0.cell? ⟨w.heap.size, 3, none⟩ = some (.slice a2 z c2) := (by simp [World.cell?, xb])
  have cb4W0 : W0.cell? ⟨w.heap.size, 4, none⟩ = some (.slice a3 y c3) := (by simp [World.cell?, xb])
  have fbW0 : ∀ o, W0.frozen? ⟨w.heap.size, o, none⟩ = false := fun o => (by simp [World.frozen?, xb])
  have cr0W0 : W0.cell? ⟨w.heap.size + 1, 0, none⟩ = some (.int .i64 0) := (by simp [World.cell?, xr])
  have cr1W0 : W0.cell? ⟨w.heap.size + 1, 1, none⟩ = some (.int .i64 0) := (by simp [World.cell?, xr])
  have cr2W0 : W0.cell? ⟨w.heap.size + 1, 2, none⟩ = some (.slice none 0 0) := (by simp [World.cell?, xr])
  have cr3W0 : W0.cell? ⟨w.heap.size + 1, 3, none⟩ = some (.slice none 0 0) := (by simp [World.cell?, xr])
  have cr4W0 : W0.cell? ⟨w.heap.size + 1, 4, none⟩ = some (.slice none 0 0) := (by simp [World.cell?, xr])
  have frW0 : ∀ o, W0.frozen? ⟨w.heap.size + 1, o, none⟩ = false := fun o => (by simp [World.frozen?, xr])
  have cq0W0 : W0.cell? ⟨w.heap.size + 1 + 1, 0, none⟩ = some (.int .i64 0) := (by simp [World.cell?, xq])
  have cq1W0 : W0.cell? ⟨w.heap.size + 1 + 1, 1, none⟩ = some (.slice none 0 0) := (by simp [World.cell?, xq])
  have fqW0 : ∀ o, W0.frozen? ⟨w.heap.size + 1 + 1, o, none⟩ = false := fun o => (by simp [World.frozen?, xq])
  clear xb xr xq
  have hlI : (4 : Int) ≤ (y : Int) := by omega
  go_enter Try.func65, Try.ntmps65
  go_wp2
  refine bodyPost_ret (v := .tuple #[SV t e (.slice a1 x c1) (.slice a2 z c2) (.slice a3 y c3), .agg #[.int .i64 7, .slice none 0 0]]) (by go_simp; simp [results, Try.results65, go_sem, cr0W0, cr1W0, cr2W0, cr3W0, cr4W0, cq0W0, cq1W0]) rfl ⟨⟨_, _, _, _, rfl, .inl ⟨rfl, rfl⟩, .inl ⟨rfl, rfl⟩, .inl ⟨rfl, rfl⟩, OwnI.nil _ _, .inl rfl, .inl rfl, .inl rfl⟩, ?_⟩
  exact (((((((B0.setCell (p := ⟨w.heap.size + 1, 0, none⟩) (by simp) _).setCell (p := ⟨w.heap.size + 1, 1, none⟩) (by simp) _).setCell (p := ⟨w.heap.size + 1, 2, none⟩) (by simp) _).setCell (p := ⟨w.heap.size + 1, 3, none⟩) (by simp) _).setCell (p := ⟨w.heap.size + 1, 4, none⟩) (by simp) _).setCell (p := ⟨w.heap.size + 1 + 1, 0, none⟩) (by simp; omega) _).setCell (p := ⟨w.heap.size + 1 + 1, 1, none⟩) (by simp; omega) _)
end Go.Proofs.Ytaklphoplfofbaa
