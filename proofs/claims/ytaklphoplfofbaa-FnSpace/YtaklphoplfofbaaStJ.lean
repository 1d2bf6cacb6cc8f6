/- commitPages (stage 4). -/
import Derived.Test.YtaklphoplfofbaaStI
namespace Go.Proofs.Ytaklphoplfofbaa
open Go.RowKit Go.Maps Go.WideShapes Go.ChangeMaps Go.MapKept

theorem own_shq {w : World} {B e m n : Nat} {v : Value} {xs : List Value} (h : w.ownsRow B e m v n xs) : ∃ a k c, v = .slice a k c := by
  obtain ⟨a, c, h⟩ := own_shp h
  exact ⟨a, n, c, h⟩
theorem own_cut' {w : World} {B n k cap : Nat} {a : Option Addr} {l : List Int} (h : OwnI w B (.slice a n cap) l) (hk : k ≤ l.length) : OwnI w B (.slice a k cap) (l.take k) ∧ n = l.length ∧ l.length ≤ cap ∧ (a = none ∨ ∃ p, a = some p) := by
  rcases h.2 with ⟨e, h0⟩ | ⟨g, cap', cur, e, hB, hh, hc, hm, hs, ht⟩
  · cases e
    obtain rfl := List.eq_nil_of_length_eq_zero h0
    obtain rfl : k = 0 := by simpa using hk
    exact ⟨OwnI.nil _ _, rfl, by simp, .inl rfl⟩
  · cases e
    exact ⟨own_cut h hk, rfl, hc, .inr ⟨_, rfl⟩⟩

set_option maxRecDepth 100000 in
set_option maxHeartbeats 4000000 in
theorem commit_range (t e n : Int) (vm v1 v2 v3 : Value) (ss : List Int) (ps : List P2) (qs : List Int) (w : World) (h1 : ReadI w v1 ss) (h2 : ReadP w v2 ps) (h3 : ReadI w v3 qs) (l3 : ¬ (0 ≤ n ∧ n ≤ 64)) :
    Calls Try.prog 64 #[SV t e v1 v2 v3, .int .i64 n, vm] w fun r w' => SQ w v1 v2 v3 ss ps qs t e ss ps qs 4 [] r w' ∧ Below w.heap.size w w' := by
  have HR1 : Hid (ReadI w v1 ss) := h1
  have HR2 : Hid (ReadP w v2 ps) := h2
  have HR3 : Hid (ReadI w v3 qs) := h3
  obtain ⟨a1, c1, rfl, _⟩ := h1.row
  obtain ⟨a2, c2, rfl, _⟩ := h2.row
  obtain ⟨a3, c3, rfl, _⟩ := h3.row
  clear h1 h2 h3
  obtain ⟨x, hx⟩ : ∃ x, ss.length = x := ⟨_, rfl⟩
  obtain ⟨z, hz⟩ : ∃ z, ps.length = z := ⟨_, rfl⟩
  obtain ⟨y, hy⟩ : ∃ y, qs.length = y := ⟨_, rfl⟩
  have HX : Hid (ss.length = x) := hx
  have HZ : Hid (ps.length = z) := hz
  have HY : Hid (qs.length = y) := hy
  rw [hx] at HR1 ⊢
  rw [hz] at HR2 ⊢
  rw [hy] at HR3 ⊢
  try rw [hx] at l1
  try rw [hz] at l2
  try rw [hy] at l3
  clear hx hy hz
  obtain ⟨W0, hW0⟩ : ∃ W0, W3 w t e (.slice a1 x c1) (.slice a2 z c2) (.slice a3 y c3) = W0 := ⟨_, rfl⟩
  have B0 : Below w.heap.size w W0 := hW0 ▸ below_W3 w t e _ _ _
  have z0 : W0.heap.size = w.heap.size + 3 := hW0 ▸ W3_size w t e _ _ _
  have xb : W0.heap[w.heap.size]? = some (.cells #[.int .i64 t, .int .i64 e, .slice a1 x c1, .slice a2 z c2, .slice a3 y c3] 29 (0, 0)) := hW0 ▸ W3_b w t e _ _ _
  have xr : W0.heap[w.heap.size + 1]? = some (.cells #[.int .i64 0, .int .i64 0, .slice none 0 0, .slice none 0 0, .slice none 0 0] 29 (0, 0)) := hW0 ▸ W3_r w t e _ _ _
  have xq : W0.heap[w.heap.size + 1 + 1]? = some (.cells #[.int .i64 0, .slice none 0 0] 37 (0, 0)) := hW0 ▸ W3_q w t e _ _ _
  have cb0W0 : W0.cell? ⟨w.heap.size, 0, none⟩ = some (.int .i64 t) := (by simp [World.cell?, xb])
  have cb1W0 : W0.cell? ⟨w.heap.size, 1, none⟩ = some (.int .i64 e) := (by simp [World.cell?, xb])
  have cb2W0 : W0.cell? ⟨w.heap.size, 2, none⟩ = some (.slice a1 x c1) := (by simp [World.cell?, xb])
  have cb3W0 : W0.cell? ⟨w.heap.size, 3, none⟩ = some (.slice a2 z c2) := (by simp [World.cell?, xb])
  have cb4W0 : W0.cell? ⟨w.heap.size, 4, none⟩ = some (.slice a3 y c3) := (by simp [World.cell?, xb])
  have fbW0 : ∀ o, W0.frozen? ⟨w.heap.size, o, none⟩ = false := fun o => (by simp [World.frozen?, xb])
  have cr0W0 : W0.cell? ⟨w.heap.size + 1, 0, none⟩ = some (.int .i64 0) := (by simp [World.cell?, xr])
  have cr1W0 : W0.cell? ⟨w.heap.size + 1, 1, none⟩ = some (.int .i64 0) := (by simp [World.cell?, xr])
  have cr2W0 : W0.cell? ⟨w.heap.size + 1, 2, none⟩ = some (.slice none 0 0) := (by simp [World.cell?, xr])
  have cr3W0 : W0.cell? ⟨w.heap.size + 1, 3, none⟩ = some (.slice none 0 0) := (by simp [World.cell?, xr])
  have cr4W0 : W0.cell? ⟨w.heap.size + 1, 4, none⟩ = some (.slice none 0 0) := (by simp [World.cell?, xr])
  have frW0 : ∀ o, W0.frozen? ⟨w.heap.size + 1, o, none⟩ = false := fun o => (by simp [World.frozen?, xr])
  have cq0W0 : W0.cell? ⟨w.heap.size + 1 + 1, 0, none⟩ = some (.int .i64 0) := (by simp [World.cell?, xq])
  have cq1W0 : W0.cell? ⟨w.heap.size + 1 + 1, 1, none⟩ = some (.slice none 0 0) := (by simp [World.cell?, xq])
  have fqW0 : ∀ o, W0.frozen? ⟨w.heap.size + 1 + 1, o, none⟩ = false := fun o => (by simp [World.frozen?, xq])
  clear xb xr xq
  rcases (show n < 0 ∨ (¬ n < 0 ∧ 64 < n) by omega) with hn | ⟨hn, hn2⟩
  all_goals
    go_enter Try.func64, Try.ntmps64
    go_wp2
    refine bodyPost_ret (v := .tuple #[SV t e (.slice a1 x c1) (.slice a2 z c2) (.slice a3 y c3), .agg #[.int .i64 4, .slice none 0 0]]) (by go_simp; simp [results, Try.results64, go_sem, cr0W0, cr1W0, cr2W0, cr3W0, cr4W0, cq0W0, cq1W0]) rfl ⟨⟨_, _, _, _, rfl, .inl ⟨rfl, rfl⟩, .inl ⟨rfl, rfl⟩, .inl ⟨rfl, rfl⟩, OwnI.nil _ _, .inl rfl, .inl rfl, .inl rfl⟩, res_below B0 (by omega) _ _ _ _ _ _ _⟩

set_option maxRecDepth 100000 in
set_option maxHeartbeats 8000000 in
theorem commit_full (t : Nat) (e : Int) (k m c : Nat) (v1 v2 v3 : Value) (ss : List Int) (ps : List P2) (qs : List Int) (w : World) (h1 : ReadI w v1 ss) (h2 : ReadP w v2 ps) (h3 : ReadI w v3 qs) (hk : k ≤ 64) (hm : MapOf w m c (dOf (kvOf e ss ps))) (ht : t ≤ 64) (hf : (freeK (usedB ss ps) t).length < k ∨ e = 1000000) :
    Calls Try.prog 64 #[SV t e v1 v2 v3, .int .i64 k, .map (some m)] w fun r w' => SQ w v1 v2 v3 ss ps qs t e ss ps qs 7 [] r w' ∧ Below w.heap.size w w' := by
  have HM : Hid (MapOf w m c (dOf (kvOf e ss ps))) := hm
  clear hm
  have HR1 : Hid (ReadI w v1 ss) := h1
  have HR2 : Hid (ReadP w v2 ps) := h2
  have HR3 : Hid (ReadI w v3 qs) := h3
  obtain ⟨a1, c1, rfl, _⟩ := h1.row
  obtain ⟨a2, c2, rfl, _⟩ := h2.row
  obtain ⟨a3, c3, rfl, _⟩ := h3.row
  clear h1 h2 h3
  obtain ⟨x, hx⟩ : ∃ x, ss.length = x := ⟨_, rfl⟩
  obtain ⟨z, hz⟩ : ∃ z, ps.length = z := ⟨_, rfl⟩
  obtain ⟨y, hy⟩ : ∃ y, qs.length = y := ⟨_, rfl⟩
  have HX : Hid (ss.length = x) := hx
  have HZ : Hid (ps.length = z) := hz
  have HY : Hid (qs.length = y) := hy
  rw [hx] at HR1 ⊢
  rw [hz] at HR2 ⊢
  rw [hy] at HR3 ⊢
  try rw [hx] at l1
  try rw [hz] at l2
  try rw [hy] at l3
  clear hx hy hz
  obtain ⟨W0, hW0⟩ : ∃ W0, W3 w t e (.slice a1 x c1) (.slice a2 z c2) (.slice a3 y c3) = W0 := ⟨_, rfl⟩
  have B0 : Below w.heap.size w W0 := hW0 ▸ below_W3 w t e _ _ _
  have z0 : W0.heap.size = w.heap.size + 3 := hW0 ▸ W3_size w t e _ _ _
  have xb : W0.heap[w.heap.size]? = some (.cells #[.int .i64 t, .int .i64 e, .slice a1 x c1, .slice a2 z c2, .slice a3 y c3] 29 (0, 0)) := hW0 ▸ W3_b w t e _ _ _
  have xr : W0.heap[w.heap.size + 1]? = some (.cells #[.int .i64 0, .int .i64 0, .slice none 0 0, .slice none 0 0, .slice none 0 0] 29 (0, 0)) := hW0 ▸ W3_r w t e _ _ _
  have xq : W0.heap[w.heap.size + 1 + 1]? = some (.cells #[.int .i64 0, .slice none 0 0] 37 (0, 0)) := hW0 ▸ W3_q w t e _ _ _
  have cb0W0 : W0.cell? ⟨w.heap.size, 0, none⟩ = some (.int .i64 t) := (by simp [World.cell?, xb])
  have cb1W0 : W0.cell? ⟨w.heap.size, 1, none⟩ = some (.int .i64 e) := (by simp [World.cell?, xb])
  have cb2W0 : W0.cell? ⟨w.heap.size, 2, none⟩ = some (.slice a1 x c1) := (by simp [World.cell?, xb])
  have cb3W0 : W0.cell? ⟨w.heap.size, 3, none⟩ = some (.slice a2 z c2) := (by simp [World.cell?, xb])
  have cb4W0 : W0.cell? ⟨w.heap.size, 4, none⟩ = some (.slice a3 y c3) := (by simp [World.cell?, xb])
  have fbW0 : ∀ o, W0.frozen? ⟨w.heap.size, o, none⟩ = false := fun o => (by simp [World.frozen?, xb])
  have cr0W0 : W0.cell? ⟨w.heap.size + 1, 0, none⟩ = some (.int .i64 0) := (by simp [World.cell?, xr])
  have cr1W0 : W0.cell? ⟨w.heap.size + 1, 1, none⟩ = some (.int .i64 0) := (by simp [World.cell?, xr])
  have cr2W0 : W0.cell? ⟨w.heap.size + 1, 2, none⟩ = some (.slice none 0 0) := (by simp [World.cell?, xr])
  have cr3W0 : W0.cell? ⟨w.heap.size + 1, 3, none⟩ = some (.slice none 0 0) := (by simp [World.cell?, xr])
  have cr4W0 : W0.cell? ⟨w.heap.size + 1, 4, none⟩ = some (.slice none 0 0) := (by simp [World.cell?, xr])
  have frW0 : ∀ o, W0.frozen? ⟨w.heap.size + 1, o, none⟩ = false := fun o => (by simp [World.frozen?, xr])
  have cq0W0 : W0.cell? ⟨w.heap.size + 1 + 1, 0, none⟩ = some (.int .i64 0) := (by simp [World.cell?, xq])
  have cq1W0 : W0.cell? ⟨w.heap.size + 1 + 1, 1, none⟩ = some (.slice none 0 0) := (by simp [World.cell?, xq])
  have fqW0 : ∀ o, W0.frozen? ⟨w.heap.size + 1 + 1, o, none⟩ = false := fun o => (by simp [World.frozen?, xq])
  have XB : Hid (W0.heap[w.heap.size]? = some (.cells #[.int .i64 t, .int .i64 e, .slice a1 x c1, .slice a2 z c2, .slice a3 y c3] 29 (0, 0))) := xb
  have XR : Hid (W0.heap[w.heap.size + 1]? = some (.cells #[.int .i64 0, .int .i64 0, .slice none 0 0, .slice none 0 0, .slice none 0 0] 29 (0, 0))) := xr
  have XQ : Hid (W0.heap[w.heap.size + 1 + 1]? = some (.cells #[.int .i64 0, .slice none 0 0] 37 (0, 0))) := xq
  clear xb xr xq
  have hk1 : ¬ (k : Int) < 0 := by omega
  have hk2 : ¬ 64 < (k : Int) := by omega
  have MP : Hid (MapOf W0 m c (dOf (kvOf e ss ps))) := HM.out.kept (row := none) ⟨B0.os, B0.tape, B0.output, B0.size, fun i hi _ => B0.block i hi⟩ (by simp)
  go_enter Try.func64, Try.ntmps64
  go_wp2_with fail
  refine (implFree_any m c t e ss ps W0 MP.out ht).mono ?_
  rintro r w1 ⟨u1, rfl, ho1, hb1⟩
  obtain ⟨af, cf, rfl⟩ := own_shp ho1
  have B1 : Below w.heap.size w w1 := B0.trans (hb1.mono B0.size)
  have xb1 := keepBlk XB.out hb1 (by omega)
  have xr1 := keepBlk XR.out hb1 (by omega)
  have xq1 := keepBlk XQ.out hb1 (by omega)
  clear cb0W0 cb1W0 cb2W0 cb3W0 cb4W0 fbW0 cr0W0 cr1W0 cr2W0 cr3W0 cr4W0 frW0 cq0W0 cq1W0 fqW0
  have cb0w1 : w1.cell? ⟨w.heap.size, 0, none⟩ = some (.int .i64 t) := (by simp [World.cell?, xb1])
  have cb1w1 : w1.cell? ⟨w.heap.size, 1, none⟩ = some (.int .i64 e) := (by simp [World.cell?, xb1])
  have cb2w1 : w1.cell? ⟨w.heap.size, 2, none⟩ = some (.slice a1 x c1) := (by simp [World.cell?, xb1])
  have cb3w1 : w1.cell? ⟨w.heap.size, 3, none⟩ = some (.slice a2 z c2) := (by simp [World.cell?, xb1])
  have cb4w1 : w1.cell? ⟨w.heap.size, 4, none⟩ = some (.slice a3 y c3) := (by simp [World.cell?, xb1])
  have fbw1 : ∀ o, w1.frozen? ⟨w.heap.size, o, none⟩ = false := fun o => (by simp [World.frozen?, xb1])
  have cr0w1 : w1.cell? ⟨w.heap.size + 1, 0, none⟩ = some (.int .i64 0) := (by simp [World.cell?, xr1])
  have cr1w1 : w1.cell? ⟨w.heap.size + 1, 1, none⟩ = some (.int .i64 0) := (by simp [World.cell?, xr1])
  have cr2w1 : w1.cell? ⟨w.heap.size + 1, 2, none⟩ = some (.slice none 0 0) := (by simp [World.cell?, xr1])
  have cr3w1 : w1.cell? ⟨w.heap.size + 1, 3, none⟩ = some (.slice none 0 0) := (by simp [World.cell?, xr1])
  have cr4w1 : w1.cell? ⟨w.heap.size + 1, 4, none⟩ = some (.slice none 0 0) := (by simp [World.cell?, xr1])
  have frw1 : ∀ o, w1.frozen? ⟨w.heap.size + 1, o, none⟩ = false := fun o => (by simp [World.frozen?, xr1])
  have cq0w1 : w1.cell? ⟨w.heap.size + 1 + 1, 0, none⟩ = some (.int .i64 0) := (by simp [World.cell?, xq1])
  have cq1w1 : w1.cell? ⟨w.heap.size + 1 + 1, 1, none⟩ = some (.slice none 0 0) := (by simp [World.cell?, xq1])
  have fqw1 : ∀ o, w1.frozen? ⟨w.heap.size + 1 + 1, o, none⟩ = false := fun o => (by simp [World.frozen?, xq1])
  clear xb1 xr1 xq1 ho1 XB XR XQ
  generalize (freeK (usedB ss ps) t).length = nf at *
  rcases (show (nf : Int) < (k : Int) ∨ (¬ (nf : Int) < (k : Int) ∧ e = 1000000) by omega) with hn | ⟨hn, hn2⟩
  all_goals
    go_wp2
    refine bodyPost_ret (v := .tuple #[SV t e (.slice a1 x c1) (.slice a2 z c2) (.slice a3 y c3), .agg #[.int .i64 7, .slice none 0 0]]) (by go_simp; simp [results, Try.results64, go_sem, cr0w1, cr1w1, cr2w1, cr3w1, cr4w1, cq0w1, cq1w1]) rfl ⟨⟨_, _, _, _, rfl, .inl ⟨rfl, rfl⟩, .inl ⟨rfl, rfl⟩, .inl ⟨rfl, rfl⟩, OwnI.nil _ _, .inl rfl, .inl rfl, .inl rfl⟩, res_below B1 (by omega) _ _ _ _ _ _ _⟩

set_option maxRecDepth 100000 in
set_option maxHeartbeats 16000000 in
theorem commit_ok (t : Nat) (e : Int) (k m c : Nat) (v1 v2 v3 : Value) (ss : List Int) (ps : List P2) (qs : List Int) (w : World) (h1 : ReadI w v1 ss) (h2 : ReadP w v2 ps) (h3 : ReadI w v3 qs) (l3 : qs.length ≤ 64) (hk : k ≤ 64) (hm : MapOf w m c (dOf (kvOf e ss ps))) (ht : t ≤ 64) (hf : k ≤ (freeK (usedB ss ps) t).length) (he : 0 ≤ e) (he2 : e < 1000000) :
    Calls Try.prog 64 #[SV t e v1 v2 v3, .int .i64 k, .map (some m)] w fun r w' => SQ w v1 v2 v3 ss ps qs t (e + 1) ((freeK (usedB ss ps) t).take k) (heldK (e + 1) (oldN (e + 1) qs) (kvOf e ss ps) t) qs 0 ((freeK (usedB ss ps) t).take k) r w' ∧ Below w.heap.size w w' := by
  have HM : Hid (MapOf w m c (dOf (kvOf e ss ps))) := hm
  have HF : Hid (k ≤ (freeK (usedB ss ps) t).length) := hf
  clear hm
  have HR1 : Hid (ReadI w v1 ss) := h1
  have HR2 : Hid (ReadP w v2 ps) := h2
  have HR3 : Hid (ReadI w v3 qs) := h3
  obtain ⟨a1, c1, rfl, _⟩ := h1.row
  obtain ⟨a2, c2, rfl, _⟩ := h2.row
  obtain ⟨a3, c3, rfl, _⟩ := h3.row
  clear h1 h2 h3
  obtain ⟨x, hx⟩ : ∃ x, ss.length = x := ⟨_, rfl⟩
  obtain ⟨z, hz⟩ : ∃ z, ps.length = z := ⟨_, rfl⟩
  obtain ⟨y, hy⟩ : ∃ y, qs.length = y := ⟨_, rfl⟩
  have HX : Hid (ss.length = x) := hx
  have HZ : Hid (ps.length = z) := hz
  have HY : Hid (qs.length = y) := hy
  rw [hx] at HR1 ⊢
  rw [hz] at HR2 ⊢
  rw [hy] at HR3 ⊢
  try rw [hx] at l1
  try rw [hz] at l2
  try rw [hy] at l3
  clear hx hy hz
  obtain ⟨W0, hW0⟩ : ∃ W0, W3 w t e (.slice a1 x c1) (.slice a2 z c2) (.slice a3 y c3) = W0 := ⟨_, rfl⟩
  have B0 : Below w.heap.size w W0 := hW0 ▸ below_W3 w t e _ _ _
  have z0 : W0.heap.size = w.heap.size + 3 := hW0 ▸ W3_size w t e _ _ _
  have xb : W0.heap[w.heap.size]? = some (.cells #[.int .i64 t, .int .i64 e, .slice a1 x c1, .slice a2 z c2, .slice a3 y c3] 29 (0, 0)) := hW0 ▸ W3_b w t e _ _ _
  have xr : W0.heap[w.heap.size + 1]? = some (.cells #[.int .i64 0, .int .i64 0, .slice none 0 0, .slice none 0 0, .slice none 0 0] 29 (0, 0)) := hW0 ▸ W3_r w t e _ _ _
  have xq : W0.heap[w.heap.size + 1 + 1]? = some (.cells #[.int .i64 0, .slice none 0 0] 37 (0, 0)) := hW0 ▸ W3_q w t e _ _ _
  have cb0W0 : W0.cell? ⟨w.heap.size, 0, none⟩ = some (.int .i64 t) := (by simp [World.cell?, xb])
  have cb1W0 : W0.cell? ⟨w.heap.size, 1, none⟩ = some (.int .i64 e) := (by simp [World.cell?, xb])
  have cb2W0 : W0.cell? ⟨w.heap.size, 2, none⟩ = some (.slice a1 x c1) := (by simp [World.cell?, xb])
  have cb3W0 : W0.cell? ⟨w.heap.size, 3, none⟩ = some (.slice a2 z c2) := (by simp [World.cell?, xb])
  have cb4W0 : W0.cell? ⟨w.heap.size, 4, none⟩ = some (.slice a3 y c3) := (by simp [World.cell?, xb])
  have fbW0 : ∀ o, W0.frozen? ⟨w.heap.size, o, none⟩ = false := fun o => (by simp [World.frozen?, xb])
  have cr0W0 : W0.cell? ⟨w.heap.size + 1, 0, none⟩ = some (.int .i64 0) := (by simp [World.cell?, xr])
  have cr1W0 : W0.cell? ⟨w.heap.size + 1, 1, none⟩ = some (.int .i64 0) := (by simp [World.cell?, xr])
  have cr2W0 : W0.cell? ⟨w.heap.size + 1, 2, none⟩ = some (.slice none 0 0) := (by simp [World.cell?, xr])
  have cr3W0 : W0.cell? ⟨w.heap.size + 1, 3, none⟩ = some (.slice none 0 0) := (by simp [World.cell?, xr])
  have cr4W0 : W0.cell? ⟨w.heap.size + 1, 4, none⟩ = some (.slice none 0 0) := (by simp [World.cell?, xr])
  have frW0 : ∀ o, W0.frozen? ⟨w.heap.size + 1, o, none⟩ = false := fun o => (by simp [World.frozen?, xr])
  have cq0W0 : W0.cell? ⟨w.heap.size + 1 + 1, 0, none⟩ = some (.int .i64 0) := (by simp [World.cell?, xq])
  have cq1W0 : W0.cell? ⟨w.heap.size + 1 + 1, 1, none⟩ = some (.slice none 0 0) := (by simp [World.cell?, xq])
  have fqW0 : ∀ o, W0.frozen? ⟨w.heap.size + 1 + 1, o, none⟩ = false := fun o => (by simp [World.frozen?, xq])
  have XB : Hid (W0.heap[w.heap.size]? = some (.cells #[.int .i64 t, .int .i64 e, .slice a1 x c1, .slice a2 z c2, .slice a3 y c3] 29 (0, 0))) := xb
  have XR : Hid (W0.heap[w.heap.size + 1]? = some (.cells #[.int .i64 0, .int .i64 0, .slice none 0 0, .slice none 0 0, .slice none 0 0] 29 (0, 0))) := xr
  have XQ : Hid (W0.heap[w.heap.size + 1 + 1]? = some (.cells #[.int .i64 0, .slice none 0 0] 37 (0, 0))) := xq
  clear xb xr xq
  have hk1 : ¬ (k : Int) < 0 := by omega
  have hk2 : ¬ 64 < (k : Int) := by omega
  have MP : Hid (MapOf W0 m c (dOf (kvOf e ss ps))) := HM.out.kept (row := none) ⟨B0.os, B0.tape, B0.output, B0.size, fun i hi _ => B0.block i hi⟩ (by simp)
  go_enter Try.func64, Try.ntmps64
  go_wp2_with fail
  refine (implFree_any m c t e ss ps W0 MP.out ht).mono ?_
  rintro r w1 ⟨u1, rfl, ho1, hb1⟩
  obtain ⟨af, cf, rfl⟩ := own_shp ho1
  obtain ⟨hoc, _, hcap, hsome⟩ := own_cut' ho1 HF.out
  have HO1 : Hid (OwnI w1 W0.heap.size (.slice af k cf) ((freeK (usedB ss ps) t).take k)) := hoc
  generalize hnf : (freeK (usedB ss ps) t).length = nf at *
  clear hnf HF
  have hnk : ¬ (nf : Int) < (k : Int) := by omega
  have he3 : ¬ e = 1000000 := by omega
  have hd1 : decide (nf < k) = false := decide_eq_false (by omega)
  have hd2 : (e == 1000000) = false := by simpa using he3
  have xbp := keepBlk XB.out hb1 (by omega)
  have xrp := keepBlk XR.out hb1 (by omega)
  have xqp := keepBlk XQ.out hb1 (by omega)
  have n1 : W0.heap.size ≤ w1.heap.size := hb1.size
  clear cb0W0 cb1W0 cb2W0 cb3W0 cb4W0 fbW0 cr0W0 cr1W0 cr2W0 cr3W0 cr4W0 frW0 cq0W0 cq1W0 fqW0
  have cb0w1 : w1.cell? ⟨w.heap.size, 0, none⟩ = some (.int .i64 t) := (by simp [World.cell?, xbp])
  have cb1w1 : w1.cell? ⟨w.heap.size, 1, none⟩ = some (.int .i64 e) := (by simp [World.cell?, xbp])
  have cb2w1 : w1.cell? ⟨w.heap.size, 2, none⟩ = some (.slice a1 x c1) := (by simp [World.cell?, xbp])
  have cb3w1 : w1.cell? ⟨w.heap.size, 3, none⟩ = some (.slice a2 z c2) := (by simp [World.cell?, xbp])
  have cb4w1 : w1.cell? ⟨w.heap.size, 4, none⟩ = some (.slice a3 y c3) := (by simp [World.cell?, xbp])
  have fbw1 : ∀ o, w1.frozen? ⟨w.heap.size, o, none⟩ = false := fun o => (by simp [World.frozen?, xbp])
  obtain ⟨W1, hW1⟩ : ∃ W, w1.setCell ⟨w.heap.size, 1, none⟩ (.int .i64 (e + 1)) = W := ⟨_, rfl⟩
  have hoth1 : ∀ g, g ≠ w.heap.size → W1.heap[g]? = w1.heap[g]? := fun g hg => by rw [← hW1]; exact Below.heap_setCell _ _ _ _ hg
  have z1 : W1.heap.size = w1.heap.size := by rw [← hW1]; simp [World.setCell]
  have xb1 : W1.heap[w.heap.size]? = some (.cells #[.int .i64 t, .int .i64 (e + 1), .slice a1 x c1, .slice a2 z c2, .slice a3 y c3] 29 (0, 0)) := by rw [← hW1]; exact slab_set xbp _
  have xr1 : W1.heap[w.heap.size + 1]? = some (.cells #[.int .i64 0, .int .i64 0, .slice none 0 0, .slice none 0 0, .slice none 0 0] 29 (0, 0)) := (hoth1 _ (by omega)).trans xrp
  have xq1 : W1.heap[w.heap.size + 1 + 1]? = some (.cells #[.int .i64 0, .slice none 0 0] 37 (0, 0)) := (hoth1 _ (by omega)).trans xqp
  have O1 : Hid (OwnI W1 W0.heap.size (.slice af k cf) ((freeK (usedB ss ps) t).take k)) := own_keep HO1.out (fun g hg _ => hoth1 g (by omega))
  have B1 : Below w.heap.size w W1 := hW1 ▸ (B0.trans (hb1.mono B0.size)).setCell (p := ⟨w.heap.size, 1, none⟩) (by simp) _
  have cb0W1 : W1.cell? ⟨w.heap.size, 0, none⟩ = some (.int .i64 t) := (by simp [World.cell?, xb1])
  have cb1W1 : W1.cell? ⟨w.heap.size, 1, none⟩ = some (.int .i64 (e + 1)) := (by simp [World.cell?, xb1])
  have cb2W1 : W1.cell? ⟨w.heap.size, 2, none⟩ = some (.slice a1 x c1) := (by simp [World.cell?, xb1])
  have cb3W1 : W1.cell? ⟨w.heap.size, 3, none⟩ = some (.slice a2 z c2) := (by simp [World.cell?, xb1])
  have cb4W1 : W1.cell? ⟨w.heap.size, 4, none⟩ = some (.slice a3 y c3) := (by simp [World.cell?, xb1])
  have fbW1 : ∀ o, W1.frozen? ⟨w.heap.size, o, none⟩ = false := fun o => (by simp [World.frozen?, xb1])
  have cr0W1 : W1.cell? ⟨w.heap.size + 1, 0, none⟩ = some (.int .i64 0) := (by simp [World.cell?, xr1])
  have cr1W1 : W1.cell? ⟨w.heap.size + 1, 1, none⟩ = some (.int .i64 0) := (by simp [World.cell?, xr1])
  have cr2W1 : W1.cell? ⟨w.heap.size + 1, 2, none⟩ = some (.slice none 0 0) := (by simp [World.cell?, xr1])
  have cr3W1 : W1.cell? ⟨w.heap.size + 1, 3, none⟩ = some (.slice none 0 0) := (by simp [World.cell?, xr1])
  have cr4W1 : W1.cell? ⟨w.heap.size + 1, 4, none⟩ = some (.slice none 0 0) := (by simp [World.cell?, xr1])
  have frW1 : ∀ o, W1.frozen? ⟨w.heap.size + 1, o, none⟩ = false := fun o => (by simp [World.frozen?, xr1])
  have cq0W1 : W1.cell? ⟨w.heap.size + 1 + 1, 0, none⟩ = some (.int .i64 0) := (by simp [World.cell?, xq1])
  have cq1W1 : W1.cell? ⟨w.heap.size + 1 + 1, 1, none⟩ = some (.slice none 0 0) := (by simp [World.cell?, xq1])
  have fqW1 : ∀ o, W1.frozen? ⟨w.heap.size + 1 + 1, o, none⟩ = false := fun o => (by simp [World.frozen?, xq1])
  have XB1 : Hid (W1.heap[w.heap.size]? = some (.cells #[.int .i64 t, .int .i64 (e + 1), .slice a1 x c1, .slice a2 z c2, .slice a3 y c3] 29 (0, 0))) := xb1
  have XR1 : Hid (W1.heap[w.heap.size + 1]? = some (.cells #[.int .i64 0, .int .i64 0, .slice none 0 0, .slice none 0 0, .slice none 0 0] 29 (0, 0))) := xr1
  have XQ1 : Hid (W1.heap[w.heap.size + 1 + 1]? = some (.cells #[.int .i64 0, .slice none 0 0] 37 (0, 0))) := xq1
  clear xb1 xr1 xq1 xbp xrp xqp
  have MP1 : Hid (MapOf W1 m c (dOf (kvOf e ss ps))) := HM.out.kept (row := none) ⟨B1.os, B1.tape, B1.output, B1.size, fun i hi _ => B1.block i hi⟩ (by simp)
  have RP : Hid (RowI W1 a3 qs) := by
    obtain ⟨a, cc, e, r⟩ := (HR3.out.below B1).row
    cases e
    exact r
  clear HO1 ho1 hoc hb1 XB XR XQ hoth1
  go_wp2_with fail
  refine (by have hh := implHeld_any m c t (e + 1) (kvOf e ss ps) (.slice a1 x c1) (.slice a2 z c2) a3 c3 qs W1 MP1.out RP.out (by rw [HY.out]; exact l3) ht (by omega) (by omega); rw [HY.out] at hh; exact hh : Calls Try.prog 75 #[.map (some m), SV t (e + 1) (.slice a1 x c1) (.slice a2 z c2) (.slice a3 y c3)] W1 _).mono ?_
  rintro r w2 ⟨u2, rfl, ho2, hb2⟩
  obtain ⟨a7, c7, rfl⟩ := own_shp ho2
  generalize (heldK (e + 1) (oldN (e + 1) qs) (kvOf e ss ps) t).length = n7 at *
  have n2 : W1.heap.size ≤ w2.heap.size := hb2.size
  have xbp := keepBlk XB1.out hb2 (by omega)
  have xrp := keepBlk XR1.out hb2 (by omega)
  have xqp := keepBlk XQ1.out hb2 (by omega)
  clear cb0W1 cb1W1 cb2W1 cb3W1 cb4W1 fbW1 cr0W1 cr1W1 cr2W1 cr3W1 cr4W1 frW1 cq0W1 cq1W1 fqW1 cb0w1 cb1w1 cb2w1 cb3w1 cb4w1 fbw1
  have cb0w2 : w2.cell? ⟨w.heap.size, 0, none⟩ = some (.int .i64 t) := (by simp [World.cell?, xbp])
  have cb1w2 : w2.cell? ⟨w.heap.size, 1, none⟩ = some (.int .i64 (e + 1)) := (by simp [World.cell?, xbp])
  have cb2w2 : w2.cell? ⟨w.heap.size, 2, none⟩ = some (.slice a1 x c1) := (by simp [World.cell?, xbp])
  have cb3w2 : w2.cell? ⟨w.heap.size, 3, none⟩ = some (.slice a2 z c2) := (by simp [World.cell?, xbp])
  have cb4w2 : w2.cell? ⟨w.heap.size, 4, none⟩ = some (.slice a3 y c3) := (by simp [World.cell?, xbp])
  have fbw2 : ∀ o, w2.frozen? ⟨w.heap.size, o, none⟩ = false := fun o => (by simp [World.frozen?, xbp])
  obtain ⟨W2, hW2⟩ : ∃ W, w2.setCell ⟨w.heap.size, 3, none⟩ (.slice a7 n7 c7) = W := ⟨_, rfl⟩
  have hoth2 : ∀ g, g ≠ w.heap.size → W2.heap[g]? = w2.heap[g]? := fun g hg => by rw [← hW2]; exact Below.heap_setCell _ _ _ _ hg
  have z2 : W2.heap.size = w2.heap.size := by rw [← hW2]; simp [World.setCell]
  have xb2 : W2.heap[w.heap.size]? = some (.cells #[.int .i64 t, .int .i64 (e + 1), .slice a1 x c1, .slice a7 n7 c7, .slice a3 y c3] 29 (0, 0)) := by rw [← hW2]; exact slab_set xbp _
  have xr2 : W2.heap[w.heap.size + 1]? = some (.cells #[.int .i64 0, .int .i64 0, .slice none 0 0, .slice none 0 0, .slice none 0 0] 29 (0, 0)) := (hoth2 _ (by omega)).trans xrp
  have xq2 : W2.heap[w.heap.size + 1 + 1]? = some (.cells #[.int .i64 0, .slice none 0 0] 37 (0, 0)) := (hoth2 _ (by omega)).trans xqp
  have P2 : Hid (OwnP W2 W1.heap.size (.slice a7 n7 c7) (heldK (e + 1) (oldN (e + 1) qs) (kvOf e ss ps) t)) := own_keep ho2 (fun g hg _ => hoth2 g (by omega))
  have O2 : Hid (OwnI W2 W0.heap.size (.slice af k cf) ((freeK (usedB ss ps) t).take k)) := own_keep O1.out (fun g hg hl => (hoth2 g (by omega)).trans (hb2.block g hl))
  have B2 : Below w.heap.size w W2 := hW2 ▸ (B1.trans (hb2.mono B1.size)).setCell (p := ⟨w.heap.size, 3, none⟩) (by simp) _
  have cb0W2 : W2.cell? ⟨w.heap.size, 0, none⟩ = some (.int .i64 t) := (by simp [World.cell?, xb2])
  have cb1W2 : W2.cell? ⟨w.heap.size, 1, none⟩ = some (.int .i64 (e + 1)) := (by simp [World.cell?, xb2])
  have cb2W2 : W2.cell? ⟨w.heap.size, 2, none⟩ = some (.slice a1 x c1) := (by simp [World.cell?, xb2])
  have cb3W2 : W2.cell? ⟨w.heap.size, 3, none⟩ = some (.slice a7 n7 c7) := (by simp [World.cell?, xb2])
  have cb4W2 : W2.cell? ⟨w.heap.size, 4, none⟩ = some (.slice a3 y c3) := (by simp [World.cell?, xb2])
  have fbW2 : ∀ o, W2.frozen? ⟨w.heap.size, o, none⟩ = false := fun o => (by simp [World.frozen?, xb2])
  have cr0W2 : W2.cell? ⟨w.heap.size + 1, 0, none⟩ = some (.int .i64 0) := (by simp [World.cell?, xr2])
  have cr1W2 : W2.cell? ⟨w.heap.size + 1, 1, none⟩ = some (.int .i64 0) := (by simp [World.cell?, xr2])
  have cr2W2 : W2.cell? ⟨w.heap.size + 1, 2, none⟩ = some (.slice none 0 0) := (by simp [World.cell?, xr2])
  have cr3W2 : W2.cell? ⟨w.heap.size + 1, 3, none⟩ = some (.slice none 0 0) := (by simp [World.cell?, xr2])
  have cr4W2 : W2.cell? ⟨w.heap.size + 1, 4, none⟩ = some (.slice none 0 0) := (by simp [World.cell?, xr2])
  have frW2 : ∀ o, W2.frozen? ⟨w.heap.size + 1, o, none⟩ = false := fun o => (by simp [World.frozen?, xr2])
  have cq0W2 : W2.cell? ⟨w.heap.size + 1 + 1, 0, none⟩ = some (.int .i64 0) := (by simp [World.cell?, xq2])
  have cq1W2 : W2.cell? ⟨w.heap.size + 1 + 1, 1, none⟩ = some (.slice none 0 0) := (by simp [World.cell?, xq2])
  have fqW2 : ∀ o, W2.frozen? ⟨w.heap.size + 1 + 1, o, none⟩ = false := fun o => (by simp [World.frozen?, xq2])
  have XB2 : Hid (W2.heap[w.heap.size]? = some (.cells #[.int .i64 t, .int .i64 (e + 1), .slice a1 x c1, .slice a7 n7 c7, .slice a3 y c3] 29 (0, 0))) := xb2
  have XR2 : Hid (W2.heap[w.heap.size + 1]? = some (.cells #[.int .i64 0, .int .i64 0, .slice none 0 0, .slice none 0 0, .slice none 0 0] 29 (0, 0))) := xr2
  have XQ2 : Hid (W2.heap[w.heap.size + 1 + 1]? = some (.cells #[.int .i64 0, .slice none 0 0] 37 (0, 0))) := xq2
  clear xb2 xr2 xq2 xbp xrp xqp
  clear ho2 hb2 XB1 XR1 XQ1 hoth2 O1
  have xbp := XB2.out
  have xrp := XR2.out
  have xqp := XQ2.out
  obtain ⟨W3, hW3⟩ : ∃ W, W2.setCell ⟨w.heap.size, 2, none⟩ (.slice af k cf) = W := ⟨_, rfl⟩
  have hoth3 : ∀ g, g ≠ w.heap.size → W3.heap[g]? = W2.heap[g]? := fun g hg => by rw [← hW3]; exact Below.heap_setCell _ _ _ _ hg
  have z3 : W3.heap.size = W2.heap.size := by rw [← hW3]; simp [World.setCell]
  have xb3 : W3.heap[w.heap.size]? = some (.cells #[.int .i64 t, .int .i64 (e + 1), .slice af k cf, .slice a7 n7 c7, .slice a3 y c3] 29 (0, 0)) := by rw [← hW3]; exact slab_set xbp _
  have xr3 : W3.heap[w.heap.size + 1]? = some (.cells #[.int .i64 0, .int .i64 0, .slice none 0 0, .slice none 0 0, .slice none 0 0] 29 (0, 0)) := (hoth3 _ (by omega)).trans xrp
  have xq3 : W3.heap[w.heap.size + 1 + 1]? = some (.cells #[.int .i64 0, .slice none 0 0] 37 (0, 0)) := (hoth3 _ (by omega)).trans xqp
  have P3 : Hid (OwnP W3 W1.heap.size (.slice a7 n7 c7) (heldK (e + 1) (oldN (e + 1) qs) (kvOf e ss ps) t)) := own_keep P2.out (fun g hg _ => hoth3 g (by omega))
  have O3 : Hid (OwnI W3 W0.heap.size (.slice af k cf) ((freeK (usedB ss ps) t).take k)) := own_keep O2.out (fun g hg _ => hoth3 g (by omega))
  have B3 : Below w.heap.size w W3 := hW3 ▸ B2.setCell (p := ⟨w.heap.size, 2, none⟩) (by simp) _
  have XB3 : Hid (W3.heap[w.heap.size]? = some (.cells #[.int .i64 t, .int .i64 (e + 1), .slice af k cf, .slice a7 n7 c7, .slice a3 y c3] 29 (0, 0))) := xb3
  have XR3 : Hid (W3.heap[w.heap.size + 1]? = some (.cells #[.int .i64 0, .int .i64 0, .slice none 0 0, .slice none 0 0, .slice none 0 0] 29 (0, 0))) := xr3
  have XQ3 : Hid (W3.heap[w.heap.size + 1 + 1]? = some (.cells #[.int .i64 0, .slice none 0 0] 37 (0, 0))) := xq3
  clear xb3 xr3 xq3 xbp xrp xqp
  have T1 : Hid (Box5 w.heap.size t (e + 1) (.slice af k cf) (.slice a7 n7 c7) (.slice a3 y c3) W3.drew) := box5_of (keepBlk XB3.out below_draw (by omega))
  have R1 : Hid (ReadI W3.drew (.slice af k cf) ((freeK (usedB ss ps) t).take k)) := O3.out.read.below (w' := W3.drew) below_draw
  have HTL : Hid (((freeK (usedB ss ps) t).take k).length ≤ 1048576) := by show _ ≤ _; rw [List.length_take]; omega
  clear XB2 XR2 XQ2 hoth3 O2 P2
  rcases hsome with rfl | ⟨pf, rfl⟩
  · go_wp2_with fail
    go_region_held3 (Box5 w.heap.size t (e + 1) (.slice none k cf) (.slice a7 n7 c7) (.slice a3 y c3)) (with_reducible (first | exact T1.out | (repeat (first | exact T4.out | refine box5_set ?_ (by omega))))) (first | (go_at_call 72; refine (cloneI_read _ _ _ R1.out HTL.out).mono ?_; rintro r w4 ⟨u4, rfl, ho4, hb4⟩; have xr4 := keepBlk XR3.out (below_draw.trans (hb4.mono (Nat.le_refl _))) (by omega); have xq4 := keepBlk XQ3.out (below_draw.trans (hb4.mono (Nat.le_refl _))) (by omega); have xb4 := keepBlk XB3.out (below_draw.trans (hb4.mono (Nat.le_refl _))) (by omega); have cr0w4 : w4.cell? ⟨w.heap.size + 1, 0, none⟩ = some (.int .i64 0) := (by simp [World.cell?, xr4]); have cr1w4 : w4.cell? ⟨w.heap.size + 1, 1, none⟩ = some (.int .i64 0) := (by simp [World.cell?, xr4]); have cr2w4 : w4.cell? ⟨w.heap.size + 1, 2, none⟩ = some (.slice none 0 0) := (by simp [World.cell?, xr4]); have cr3w4 : w4.cell? ⟨w.heap.size + 1, 3, none⟩ = some (.slice none 0 0) := (by simp [World.cell?, xr4]); have cr4w4 : w4.cell? ⟨w.heap.size + 1, 4, none⟩ = some (.slice none 0 0) := (by simp [World.cell?, xr4]); have frw4 : ∀ o, w4.frozen? ⟨w.heap.size + 1, o, none⟩ = false := fun o => (by simp [World.frozen?, xr4]); have cq0w4 : w4.cell? ⟨w.heap.size + 1 + 1, 0, none⟩ = some (.int .i64 0) := (by simp [World.cell?, xq4]); have cq1w4 : w4.cell? ⟨w.heap.size + 1 + 1, 1, none⟩ = some (.slice none 0 0) := (by simp [World.cell?, xq4]); have fqw4 : ∀ o, w4.frozen? ⟨w.heap.size + 1 + 1, o, none⟩ = false := fun o => (by simp [World.frozen?, xq4]); have T4 : Hid (Box5 w.heap.size t (e + 1) (.slice none k cf) (.slice a7 n7 c7) (.slice a3 y c3) w4) := box5_of xb4; obtain ⟨a6, n6, c6, rfl⟩ := own_shq ho4; clear xr4 xq4 xb4))
    have hb34 : Below W3.heap.size W3 w4 := below_draw.trans (hb4.mono (Nat.le_refl _))
    have O4 : Hid (OwnI w4 W0.heap.size (.slice none k cf) ((freeK (usedB ss ps) t).take k)) := own_keep O3.out (fun g _ hg => hb34.block g hg)
    have P4 : Hid (OwnP w4 W1.heap.size (.slice a7 n7 c7) (heldK (e + 1) (oldN (e + 1) qs) (kvOf e ss ps) t)) := own_keep P3.out (fun g _ hg => hb34.block g hg)
    have HO4 : Hid (OwnI w4 W3.heap.size (.slice a6 n6 c6) ((freeK (usedB ss ps) t).take k)) := ho4
    have B4 : Hid (Below w.heap.size w w4) := B3.trans (hb34.mono B3.size)
    clear ho4 hb4 hb34 T4
    go_wp2
    refine bodyPost_ret (v := .tuple #[SV t (e + 1) (.slice none k cf) (.slice a7 n7 c7) (.slice a3 y c3), .agg #[.int .i64 0, .slice a6 n6 c6]]) (by go_simp; simp [results, Try.results64, go_sem, cr0w4, cr1w4, cr2w4, cr3w4, cr4w4, cq0w4, cq1w4]) rfl ⟨⟨_, _, _, _, rfl, .inr (res_own O4.out (by omega) (by omega) _ _ _ _ _ _ _), .inr (res_own P4.out (by omega) (by omega) _ _ _ _ _ _ _), .inl ⟨rfl, rfl⟩, res_own HO4.out (by omega) (by omega) _ _ _ _ _ _ _, .inr (sep_of O3.out HO4.out (Nat.le_refl _) _), .inl rfl, .inr (.inl rfl)⟩, res_below B4.out (by omega) _ _ _ _ _ _ _⟩
  · go_wp2_with fail
    go_region_held3 (Box5 w.heap.size t (e + 1) (.slice (some pf) k cf) (.slice a7 n7 c7) (.slice a3 y c3)) (with_reducible (first | exact T1.out | (repeat (first | exact T4.out | refine box5_set ?_ (by omega))))) (first | (go_at_call 72; refine (cloneI_read _ _ _ R1.out HTL.out).mono ?_; rintro r w4 ⟨u4, rfl, ho4, hb4⟩; have xr4 := keepBlk XR3.out (below_draw.trans (hb4.mono (Nat.le_refl _))) (by omega); have xq4 := keepBlk XQ3.out (below_draw.trans (hb4.mono (Nat.le_refl _))) (by omega); have xb4 := keepBlk XB3.out (below_draw.trans (hb4.mono (Nat.le_refl _))) (by omega); have cr0w4 : w4.cell? ⟨w.heap.size + 1, 0, none⟩ = some (.int .i64 0) := (by simp [World.cell?, xr4]); have cr1w4 : w4.cell? ⟨w.heap.size + 1, 1, none⟩ = some (.int .i64 0) := (by simp [World.cell?, xr4]); have cr2w4 : w4.cell? ⟨w.heap.size + 1, 2, none⟩ = some (.slice none 0 0) := (by simp [World.cell?, xr4]); have cr3w4 : w4.cell? ⟨w.heap.size + 1, 3, none⟩ = some (.slice none 0 0) := (by simp [World.cell?, xr4]); have cr4w4 : w4.cell? ⟨w.heap.size + 1, 4, none⟩ = some (.slice none 0 0) := (by simp [World.cell?, xr4]); have frw4 : ∀ o, w4.frozen? ⟨w.heap.size + 1, o, none⟩ = false := fun o => (by simp [World.frozen?, xr4]); have cq0w4 : w4.cell? ⟨w.heap.size + 1 + 1, 0, none⟩ = some (.int .i64 0) := (by simp [World.cell?, xq4]); have cq1w4 : w4.cell? ⟨w.heap.size + 1 + 1, 1, none⟩ = some (.slice none 0 0) := (by simp [World.cell?, xq4]); have fqw4 : ∀ o, w4.frozen? ⟨w.heap.size + 1 + 1, o, none⟩ = false := fun o => (by simp [World.frozen?, xq4]); have T4 : Hid (Box5 w.heap.size t (e + 1) (.slice (some pf) k cf) (.slice a7 n7 c7) (.slice a3 y c3) w4) := box5_of xb4; obtain ⟨a6, n6, c6, rfl⟩ := own_shq ho4; clear xr4 xq4 xb4))
    have hb34 : Below W3.heap.size W3 w4 := below_draw.trans (hb4.mono (Nat.le_refl _))
    have O4 : Hid (OwnI w4 W0.heap.size (.slice (some pf) k cf) ((freeK (usedB ss ps) t).take k)) := own_keep O3.out (fun g _ hg => hb34.block g hg)
    have P4 : Hid (OwnP w4 W1.heap.size (.slice a7 n7 c7) (heldK (e + 1) (oldN (e + 1) qs) (kvOf e ss ps) t)) := own_keep P3.out (fun g _ hg => hb34.block g hg)
    have HO4 : Hid (OwnI w4 W3.heap.size (.slice a6 n6 c6) ((freeK (usedB ss ps) t).take k)) := ho4
    have B4 : Hid (Below w.heap.size w w4) := B3.trans (hb34.mono B3.size)
    clear ho4 hb4 hb34 T4
    go_wp2
    refine bodyPost_ret (v := .tuple #[SV t (e + 1) (.slice (some pf) k cf) (.slice a7 n7 c7) (.slice a3 y c3), .agg #[.int .i64 0, .slice a6 n6 c6]]) (by go_simp; simp [results, Try.results64, go_sem, cr0w4, cr1w4, cr2w4, cr3w4, cr4w4, cq0w4, cq1w4]) rfl ⟨⟨_, _, _, _, rfl, .inr (res_own O4.out (by omega) (by omega) _ _ _ _ _ _ _), .inr (res_own P4.out (by omega) (by omega) _ _ _ _ _ _ _), .inl ⟨rfl, rfl⟩, res_own HO4.out (by omega) (by omega) _ _ _ _ _ _ _, .inr (sep_of O3.out HO4.out (Nat.le_refl _) _), .inl rfl, .inr (.inl rfl)⟩, res_below B4.out (by omega) _ _ _ _ _ _ _⟩
end Go.Proofs.Ytaklphoplfofbaa
