/- unpinEpoch (stage 4). -/
import Derived.Test.YtaklphoplfofbaaStG
import Derived.Test.YtaklphoplfofbaaStH
import Derived.Test.YtaklphoplfofbaaDel
namespace Go.Proofs.Ytaklphoplfofbaa
open Go.RowKit Go.Maps Go.WideShapes Go.ChangeMaps Go.MapKept

set_option maxRecDepth 100000 in
set_option maxHeartbeats 4000000 in
theorem unpin_none (t e n : Int) (vm v1 v2 v3 : Value) (ss : List Int) (ps : List P2) (qs : List Int) (w : World) (h1 : ReadI w v1 ss) (h2 : ReadP w v2 ps) (h3 : ReadI w v3 qs) (l3 : ¬ (0 ≤ n ∧ n < qs.length)) :
    Calls Try.prog 66 #[SV t e v1 v2 v3, .int .i64 n, vm] w fun r w' => SQ w v1 v2 v3 ss ps qs t e ss ps qs 5 [] r w' ∧ Below w.heap.size w w' := by
  have HR1 : Hid (ReadI w v1 ss) := h1
  have HR2 : Hid (ReadP w v2 ps) := h2
  have HR3 : Hid (ReadI w v3 qs) := h3
  obtain ⟨a1, c1, rfl, _⟩ := h1.row
  obtain ⟨a2, c2, rfl, _⟩ := h2.row
  obtain ⟨a3, c3, rfl, _⟩ := h3.row
  clear h1 h2 h3
  obtain ⟨x, hx⟩ : ∃ x, ss.length = x := ⟨_, rfl⟩
  obtain ⟨z, hz⟩ : ∃ z, ps.length = z := ⟨_, rfl⟩
  obtain ⟨y, hy⟩ : ∃ y, qs.length = y := ⟨_, rfl⟩
  have HX : Hid (ss.length = x) := hx
  have HZ : Hid (ps.length = z) := hz
  have HY : Hid (qs.length = y) := hy
  rw [hx] at HR1 ⊢
  rw [hz] at HR2 ⊢
  rw [hy] at HR3 ⊢
  try rw [hx] at l1
  try rw [hz] at l2
  try rw [hy] at l3
  clear hx hy hz
  obtain ⟨W0, hW0⟩ : ∃ W0, W3 w t e (.slice a1 x c1) (.slice a2 z c2) (.slice a3 y c3) = W0 := ⟨_, rfl⟩
  have B0 : Below w.heap.size w W0 := hW0 ▸ below_W3 w t e _ _ _
  have z0 : W0.heap.size = w.heap.size + 3 := hW0 ▸ W3_size w t e _ _ _
  have xb : W0.heap[w.heap.size]? = some (.cells #[.int .i64 t, .int .i64 e, .slice a1 x c1, .slice a2 z c2, .slice a3 y c3] 29 (0, 0)) := hW0 ▸ W3_b w t e _ _ _
  have xr : W0.heap[w.heap.size + 1]? = some (.cells #[.int .i64 0, .int .i64 0, .slice none 0 0, .slice none 0 0, .slice none 0 0] 29 (0, 0)) := hW0 ▸ W3_r w t e _ _ _
  have xq : W0.heap[w.heap.size + 1 + 1]? = some (.cells #[.int .i64 0, .slice none 0 0] 37 (0, 0)) := hW0 ▸ W3_q w t e _ _ _
  have cb0W0 : W0.cell? ⟨w.heap.size, 0, none⟩ = some (.int .i64 t) := (by simp [World.cell?, xb])
  have cb1W0 : W0.cell? ⟨w.heap.size, 1, none⟩ = some (.int .i64 e) := (by simp [World.cell?, xb])
  have cb2W0 : W0.cell? ⟨w.heap.size, 2, none⟩ = some (.slice a1 x c1) := (by simp [World.cell?, xb])
  have cb3W0 : W0.cell? ⟨w.heap.size, 3, none⟩ = some (.slice a2 z c2) := (by simp [World.cell?, xb])
  have cb4W0 : W0.cell? ⟨w.heap.size, 4, none⟩ = some (.slice a3 y c3) := (by simp [World.cell?, xb])
  have fbW0 : ∀ o, W0.frozen? ⟨w.heap.size, o, none⟩ = false := fun o => (by simp [World.frozen?, xb])
  have cr0W0 : W0.cell? ⟨w.heap.size + 1, 0, none⟩ = some (.int .i64 0) := (by simp [World.cell?, xr])
  have cr1W0 : W0.cell? ⟨w.heap.size + 1, 1, none⟩ = some (.int .i64 0) := (by simp [World.cell?, xr])
  have cr2W0 : W0.cell? ⟨w.heap.size + 1, 2, none⟩ = some (.slice none 0 0) := (by simp [World.cell?, xr])
  have cr3W0 : W0.cell? ⟨w.heap.size + 1, 3, none⟩ = some (.slice none 0 0) := (by simp [World.cell?, xr])
  have cr4W0 : W0.cell? ⟨w.heap.size + 1, 4, none⟩ = some (.slice none 0 0) := (by simp [World.cell?, xr])
  have frW0 : ∀ o, W0.frozen? ⟨w.heap.size + 1, o, none⟩ = false := fun o => (by simp [World.frozen?, xr])
  have cq0W0 : W0.cell? ⟨w.heap.size + 1 + 1, 0, none⟩ = some (.int .i64 0) := (by simp [World.cell?, xq])
  have cq1W0 : W0.cell? ⟨w.heap.size + 1 + 1, 1, none⟩ = some (.slice none 0 0) := (by simp [World.cell?, xq])
  have fqW0 : ∀ o, W0.frozen? ⟨w.heap.size + 1 + 1, o, none⟩ = false := fun o => (by simp [World.frozen?, xq])
  clear xb xr xq
  rcases (show n < 0 ∨ (¬ n < 0 ∧ (y : Int) ≤ n) by omega) with hn | ⟨hn, hn2⟩
  all_goals
    go_enter Try.func66, Try.ntmps66
    go_wp2
    refine bodyPost_ret (v := .tuple #[SV t e (.slice a1 x c1) (.slice a2 z c2) (.slice a3 y c3), .agg #[.int .i64 5, .slice none 0 0]]) (by go_simp; simp [results, Try.results66, go_sem, cr0W0, cr1W0, cr2W0, cr3W0, cr4W0, cq0W0, cq1W0]) rfl ⟨⟨_, _, _, _, rfl, .inl ⟨rfl, rfl⟩, .inl ⟨rfl, rfl⟩, .inl ⟨rfl, rfl⟩, OwnI.nil _ _, .inl rfl, .inl rfl, .inl rfl⟩, res_below B0 (by omega) _ _ _ _ _ _ _⟩

set_option maxRecDepth 100000 in
set_option maxHeartbeats 8000000 in
theorem unpin_ok (t : Nat) (e : Int) (k m c : Nat) (kv : List P2) (v1 v2 v3 : Value) (ss : List Int) (ps : List P2) (qs : List Int) (w : World) (h1 : ReadI w v1 ss) (h2 : ReadP w v2 ps) (h3 : ReadI w v3 qs) (l3 : k < qs.length) (hq : qs.length ≤ 64) (hm : MapOf w m c (dOf kv)) (ht : t ≤ 64) (he : 0 ≤ e) (he2 : e ≤ 1000000) :
    Calls Try.prog 66 #[SV t e v1 v2 v3, .int .i64 k, .map (some m)] w fun r w' => SQ w v1 v2 v3 ss ps qs t e ss (heldK e (oldN e (qs.eraseIdx k)) kv t) (qs.eraseIdx k) 0 [] r w' ∧ Below w.heap.size w w' := by
  have HM : Hid (MapOf w m c (dOf kv)) := hm
  have HK : Hid (k < qs.length) := l3
  clear hm
  have HR1 : Hid (ReadI w v1 ss) := h1
  have HR2 : Hid (ReadP w v2 ps) := h2
  have HR3 : Hid (ReadI w v3 qs) := h3
  obtain ⟨a1, c1, rfl, _⟩ := h1.row
  obtain ⟨a2, c2, rfl, _⟩ := h2.row
  obtain ⟨a3, c3, rfl, _⟩ := h3.row
  clear h1 h2 h3
  obtain ⟨x, hx⟩ : ∃ x, ss.length = x := ⟨_, rfl⟩
  obtain ⟨z, hz⟩ : ∃ z, ps.length = z := ⟨_, rfl⟩
  obtain ⟨y, hy⟩ : ∃ y, qs.length = y := ⟨_, rfl⟩
  have HX : Hid (ss.length = x) := hx
  have HZ : Hid (ps.length = z) := hz
  have HY : Hid (qs.length = y) := hy
  rw [hx] at HR1 ⊢
  rw [hz] at HR2 ⊢
  rw [hy] at HR3 ⊢
  try rw [hx] at l1
  try rw [hz] at l2
  try rw [hy] at l3
  rw [hy] at hq
  clear hx hy hz
  obtain ⟨W0, hW0⟩ : ∃ W0, W3 w t e (.slice a1 x c1) (.slice a2 z c2) (.slice a3 y c3) = W0 := ⟨_, rfl⟩
  have B0 : Below w.heap.size w W0 := hW0 ▸ below_W3 w t e _ _ _
  have z0 : W0.heap.size = w.heap.size + 3 := hW0 ▸ W3_size w t e _ _ _
  have xb : W0.heap[w.heap.size]? = some (.cells #[.int .i64 t, .int .i64 e, .slice a1 x c1, .slice a2 z c2, .slice a3 y c3] 29 (0, 0)) := hW0 ▸ W3_b w t e _ _ _
  have xr : W0.heap[w.heap.size + 1]? = some (.cells #[.int .i64 0, .int .i64 0, .slice none 0 0, .slice none 0 0, .slice none 0 0] 29 (0, 0)) := hW0 ▸ W3_r w t e _ _ _
  have xq : W0.heap[w.heap.size + 1 + 1]? = some (.cells #[.int .i64 0, .slice none 0 0] 37 (0, 0)) := hW0 ▸ W3_q w t e _ _ _
  have cb0W0 : W0.cell? ⟨w.heap.size, 0, none⟩ = some (.int .i64 t) := (by simp [World.cell?, xb])
  have cb1W0 : W0.cell? ⟨w.heap.size, 1, none⟩ = some (.int .i64 e) := (by simp [World.cell?, xb])
  have cb2W0 : W0.cell? ⟨w.heap.size, 2, none⟩ = some (.slice a1 x c1) := (by simp [World.cell?, xb])
  have cb3W0 : W0.cell? ⟨w.heap.size, 3, none⟩ = some (.slice a2 z c2) := (by simp [World.cell?, xb])
  have cb4W0 : W0.cell? ⟨w.heap.size, 4, none⟩ = some (.slice a3 y c3) := (by simp [World.cell?, xb])
  have fbW0 : ∀ o, W0.frozen? ⟨w.heap.size, o, none⟩ = false := fun o => (by simp [World.frozen?, xb])
  have cr0W0 : W0.cell? ⟨w.heap.size + 1, 0, none⟩ = some (.int .i64 0) := (by simp [World.cell?, xr])
  have cr1W0 : W0.cell? ⟨w.heap.size + 1, 1, none⟩ = some (.int .i64 0) := (by simp [World.cell?, xr])
  have cr2W0 : W0.cell? ⟨w.heap.size + 1, 2, none⟩ = some (.slice none 0 0) := (by simp [World.cell?, xr])
  have cr3W0 : W0.cell? ⟨w.heap.size + 1, 3, none⟩ = some (.slice none 0 0) := (by simp [World.cell?, xr])
  have cr4W0 : W0.cell? ⟨w.heap.size + 1, 4, none⟩ = some (.slice none 0 0) := (by simp [World.cell?, xr])
  have frW0 : ∀ o, W0.frozen? ⟨w.heap.size + 1, o, none⟩ = false := fun o => (by simp [World.frozen?, xr])
  have cq0W0 : W0.cell? ⟨w.heap.size + 1 + 1, 0, none⟩ = some (.int .i64 0) := (by simp [World.cell?, xq])
  have cq1W0 : W0.cell? ⟨w.heap.size + 1 + 1, 1, none⟩ = some (.slice none 0 0) := (by simp [World.cell?, xq])
  have fqW0 : ∀ o, W0.frozen? ⟨w.heap.size + 1 + 1, o, none⟩ = false := fun o => (by simp [World.frozen?, xq])
  have hk1 : ¬ (k : Int) < 0 := by omega
  have hk2 : ¬ (y : Int) ≤ (k : Int) := by omega
  have XB : Hid (W0.heap[w.heap.size]? = some (.cells #[.int .i64 t, .int .i64 e, .slice a1 x c1, .slice a2 z c2, .slice a3 y c3] 29 (0, 0))) := xb
  have XR : Hid (W0.heap[w.heap.size + 1]? = some (.cells #[.int .i64 0, .int .i64 0, .slice none 0 0, .slice none 0 0, .slice none 0 0] 29 (0, 0))) := xr
  have XQ : Hid (W0.heap[w.heap.size + 1 + 1]? = some (.cells #[.int .i64 0, .slice none 0 0] 37 (0, 0))) := xq
  clear xb xr xq
  go_enter Try.func66, Try.ntmps66
  go_wp2_with fail
  refine (cloneI_read _ qs W0 (HR3.out.below B0) (by rw [HY.out]; omega)).mono ?_
  rintro r w1 ⟨u1, rfl, ho1, hb1⟩
  have HO1 : Hid (OwnI w1 W0.heap.size u1 qs) := ho1
  obtain ⟨a5, c5, rfl⟩ := own_shp ho1
  clear ho1 cb0W0 cb1W0 cb2W0 cb3W0 cb4W0 fbW0 cr0W0 cr1W0 cr2W0 cr3W0 cr4W0 frW0 cq0W0 cq1W0 fqW0
  go_wp2_with fail
  refine (del_own (n := k) HO1.out HK.out).mono ?_
  rintro r w2 ⟨u2, rfl, ho2, hb2⟩
  obtain ⟨a6, c6, rfl⟩ := own_shp ho2
  have hb12 : Below W0.heap.size W0 w2 := hb1.trans hb2
  have n2 : W0.heap.size ≤ w2.heap.size := hb12.size
  have xbp := keepBlk XB.out hb12 (by omega)
  have xrp := keepBlk XR.out hb12 (by omega)
  have xqp := keepBlk XQ.out hb12 (by omega)
  obtain ⟨W1, hW1⟩ : ∃ W, w2.setCell ⟨w.heap.size, 4, none⟩ (.slice a6 (qs.eraseIdx k).length c6) = W := ⟨_, rfl⟩
  have hoth1 : ∀ g, g ≠ w.heap.size → W1.heap[g]? = w2.heap[g]? := fun g hg => by rw [← hW1]; exact Below.heap_setCell _ _ _ _ hg
  have z1 : W1.heap.size = w2.heap.size := by rw [← hW1]; simp [World.setCell]
  have xb1 : W1.heap[w.heap.size]? = some (.cells #[.int .i64 t, .int .i64 e, .slice a1 x c1, .slice a2 z c2, .slice a6 (qs.eraseIdx k).length c6] 29 (0, 0)) := by rw [← hW1]; exact slab_set xbp _
  have xr1 : W1.heap[w.heap.size + 1]? = some (.cells #[.int .i64 0, .int .i64 0, .slice none 0 0, .slice none 0 0, .slice none 0 0] 29 (0, 0)) := (hoth1 _ (by omega)).trans xrp
  have xq1 : W1.heap[w.heap.size + 1 + 1]? = some (.cells #[.int .i64 0, .slice none 0 0] 37 (0, 0)) := (hoth1 _ (by omega)).trans xqp
  have O1 : Hid (OwnI W1 W0.heap.size (.slice a6 (qs.eraseIdx k).length c6) (qs.eraseIdx k)) := own_keep ho2 (fun g hg _ => hoth1 g (by omega))
  have B1 : Below w.heap.size w W1 := hW1 ▸ (B0.trans (hb12.mono B0.size)).setCell (p := ⟨w.heap.size, 4, none⟩) (by simp) _
  have cb4w2 : w2.cell? ⟨w.heap.size, 4, none⟩ = some (.slice a3 y c3) := (by simp [World.cell?, xbp])
  have fbw2 : ∀ o, w2.frozen? ⟨w.heap.size, o, none⟩ = false := fun o => (by simp [World.frozen?, xbp])
  have cb0W1 : W1.cell? ⟨w.heap.size, 0, none⟩ = some (.int .i64 t) := (by simp [World.cell?, xb1])
  have cb1W1 : W1.cell? ⟨w.heap.size, 1, none⟩ = some (.int .i64 e) := (by simp [World.cell?, xb1])
  have cb2W1 : W1.cell? ⟨w.heap.size, 2, none⟩ = some (.slice a1 x c1) := (by simp [World.cell?, xb1])
  have cb3W1 : W1.cell? ⟨w.heap.size, 3, none⟩ = some (.slice a2 z c2) := (by simp [World.cell?, xb1])
  have cb4W1 : W1.cell? ⟨w.heap.size, 4, none⟩ = some (.slice a6 (qs.eraseIdx k).length c6) := (by simp [World.cell?, xb1])
  have fbW1 : ∀ o, W1.frozen? ⟨w.heap.size, o, none⟩ = false := fun o => (by simp [World.frozen?, xb1])
  have cr0W1 : W1.cell? ⟨w.heap.size + 1, 0, none⟩ = some (.int .i64 0) := (by simp [World.cell?, xr1])
  have cr1W1 : W1.cell? ⟨w.heap.size + 1, 1, none⟩ = some (.int .i64 0) := (by simp [World.cell?, xr1])
  have cr2W1 : W1.cell? ⟨w.heap.size + 1, 2, none⟩ = some (.slice none 0 0) := (by simp [World.cell?, xr1])
  have cr3W1 : W1.cell? ⟨w.heap.size + 1, 3, none⟩ = some (.slice none 0 0) := (by simp [World.cell?, xr1])
  have cr4W1 : W1.cell? ⟨w.heap.size + 1, 4, none⟩ = some (.slice none 0 0) := (by simp [World.cell?, xr1])
  have frW1 : ∀ o, W1.frozen? ⟨w.heap.size + 1, o, none⟩ = false := fun o => (by simp [World.frozen?, xr1])
  have cq0W1 : W1.cell? ⟨w.heap.size + 1 + 1, 0, none⟩ = some (.int .i64 0) := (by simp [World.cell?, xq1])
  have cq1W1 : W1.cell? ⟨w.heap.size + 1 + 1, 1, none⟩ = some (.slice none 0 0) := (by simp [World.cell?, xq1])
  have fqW1 : ∀ o, W1.frozen? ⟨w.heap.size + 1 + 1, o, none⟩ = false := fun o => (by simp [World.frozen?, xq1])
  have XB1 : Hid (W1.heap[w.heap.size]? = some (.cells #[.int .i64 t, .int .i64 e, .slice a1 x c1, .slice a2 z c2, .slice a6 (qs.eraseIdx k).length c6] 29 (0, 0))) := xb1
  have XR1 : Hid (W1.heap[w.heap.size + 1]? = some (.cells #[.int .i64 0, .int .i64 0, .slice none 0 0, .slice none 0 0, .slice none 0 0] 29 (0, 0))) := xr1
  have XQ1 : Hid (W1.heap[w.heap.size + 1 + 1]? = some (.cells #[.int .i64 0, .slice none 0 0] 37 (0, 0))) := xq1
  have RP : Hid (RowI W1 a6 (qs.eraseIdx k)) := by
    obtain ⟨a, cc, e, r⟩ := O1.out.read.row
    cases e
    exact r
  have MP : Hid (MapOf W1 m c (dOf kv)) := HM.out.kept (row := none) ⟨B1.os, B1.tape, B1.output, B1.size, fun i hi _ => B1.block i hi⟩ (by simp)
  clear xb1 xr1 xq1 xbp xrp xqp ho2 hb12 hb1 hb2 hoth1 XB XR XQ
  go_wp2_with fail
  refine (implHeld_any m c t e kv (.slice a1 x c1) (.slice a2 z c2) a6 c6 (qs.eraseIdx k) W1 MP.out RP.out (by rw [List.length_eraseIdx]; have := HY.out; split <;> omega) ht he (by omega)).mono ?_
  rintro r w3 ⟨u3, rfl, ho3, hb3⟩
  obtain ⟨a7, c7, rfl⟩ := own_shp ho3
  generalize hn7 : (heldK e (oldN e (qs.eraseIdx k)) kv t).length = n7 at *
  have HN7 : Hid ((heldK e (oldN e (qs.eraseIdx k)) kv t).length = n7) := hn7
  clear hn7 HN7
  have n3 : W1.heap.size ≤ w3.heap.size := hb3.size
  have xbp := keepBlk XB1.out hb3 (by omega)
  have xrp := keepBlk XR1.out hb3 (by omega)
  have xqp := keepBlk XQ1.out hb3 (by omega)
  obtain ⟨W2, hW2⟩ : ∃ W, w3.setCell ⟨w.heap.size, 3, none⟩ (.slice a7 n7 c7) = W := ⟨_, rfl⟩
  have hoth2 : ∀ g, g ≠ w.heap.size → W2.heap[g]? = w3.heap[g]? := fun g hg => by rw [← hW2]; exact Below.heap_setCell _ _ _ _ hg
  have z2 : W2.heap.size = w3.heap.size := by rw [← hW2]; simp [World.setCell]
  have xb2 : W2.heap[w.heap.size]? = some (.cells #[.int .i64 t, .int .i64 e, .slice a1 x c1, .slice a7 n7 c7, .slice a6 (qs.eraseIdx k).length c6] 29 (0, 0)) := by rw [← hW2]; exact slab_set xbp _
  have xr2 : W2.heap[w.heap.size + 1]? = some (.cells #[.int .i64 0, .int .i64 0, .slice none 0 0, .slice none 0 0, .slice none 0 0] 29 (0, 0)) := (hoth2 _ (by omega)).trans xrp
  have xq2 : W2.heap[w.heap.size + 1 + 1]? = some (.cells #[.int .i64 0, .slice none 0 0] 37 (0, 0)) := (hoth2 _ (by omega)).trans xqp
  have O2 : Hid (OwnP W2 W1.heap.size (.slice a7 n7 c7) (heldK e (oldN e (qs.eraseIdx k)) kv t)) := own_keep ho3 (fun g hg _ => hoth2 g (by omega))
  have O3 : Hid (OwnI W2 W0.heap.size (.slice a6 (qs.eraseIdx k).length c6) (qs.eraseIdx k)) := own_keep O1.out (fun g hg hl => (hoth2 g (by omega)).trans (hb3.block g hl))
  have B2 : Below w.heap.size w W2 := hW2 ▸ (B1.trans (hb3.mono B1.size)).setCell (p := ⟨w.heap.size, 3, none⟩) (by simp) _
  have cb3w3 : w3.cell? ⟨w.heap.size, 3, none⟩ = some (.slice a2 z c2) := (by simp [World.cell?, xbp])
  have fbw3 : ∀ o, w3.frozen? ⟨w.heap.size, o, none⟩ = false := fun o => (by simp [World.frozen?, xbp])
  clear cb0W1 cb1W1 cb2W1 cb3W1 cb4W1 fbW1 cr0W1 cr1W1 cr2W1 cr3W1 cr4W1 frW1 cq0W1 cq1W1 fqW1
  have cb0W2 : W2.cell? ⟨w.heap.size, 0, none⟩ = some (.int .i64 t) := (by simp [World.cell?, xb2])
  have cb1W2 : W2.cell? ⟨w.heap.size, 1, none⟩ = some (.int .i64 e) := (by simp [World.cell?, xb2])
  have cb2W2 : W2.cell? ⟨w.heap.size, 2, none⟩ = some (.slice a1 x c1) := (by simp [World.cell?, xb2])
  have cb3W2 : W2.cell? ⟨w.heap.size, 3, none⟩ = some (.slice a7 n7 c7) := (by simp [World.cell?, xb2])
  have cb4W2 : W2.cell? ⟨w.heap.size, 4, none⟩ = some (.slice a6 (qs.eraseIdx k).length c6) := (by simp [World.cell?, xb2])
  have fbW2 : ∀ o, W2.frozen? ⟨w.heap.size, o, none⟩ = false := fun o => (by simp [World.frozen?, xb2])
  have cr0W2 : W2.cell? ⟨w.heap.size + 1, 0, none⟩ = some (.int .i64 0) := (by simp [World.cell?, xr2])
  have cr1W2 : W2.cell? ⟨w.heap.size + 1, 1, none⟩ = some (.int .i64 0) := (by simp [World.cell?, xr2])
  have cr2W2 : W2.cell? ⟨w.heap.size + 1, 2, none⟩ = some (.slice none 0 0) := (by simp [World.cell?, xr2])
  have cr3W2 : W2.cell? ⟨w.heap.size + 1, 3, none⟩ = some (.slice none 0 0) := (by simp [World.cell?, xr2])
  have cr4W2 : W2.cell? ⟨w.heap.size + 1, 4, none⟩ = some (.slice none 0 0) := (by simp [World.cell?, xr2])
  have frW2 : ∀ o, W2.frozen? ⟨w.heap.size + 1, o, none⟩ = false := fun o => (by simp [World.frozen?, xr2])
  have cq0W2 : W2.cell? ⟨w.heap.size + 1 + 1, 0, none⟩ = some (.int .i64 0) := (by simp [World.cell?, xq2])
  have cq1W2 : W2.cell? ⟨w.heap.size + 1 + 1, 1, none⟩ = some (.slice none 0 0) := (by simp [World.cell?, xq2])
  have fqW2 : ∀ o, W2.frozen? ⟨w.heap.size + 1 + 1, o, none⟩ = false := fun o => (by simp [World.frozen?, xq2])
  clear xb2 xr2 xq2 xbp xrp xqp ho3 hb3 hoth2 XB1 XR1 XQ1
  go_wp2
  refine bodyPost_ret (v := .tuple #[SV t e (.slice a1 x c1) (.slice a7 n7 c7) (.slice a6 (qs.eraseIdx k).length c6), .agg #[.int .i64 0, .slice none 0 0]]) (by go_simp; simp [results, Try.results66, go_sem, cr0W2, cr1W2, cr2W2, cr3W2, cr4W2, cq0W2, cq1W2]) rfl ⟨⟨_, _, _, _, rfl, .inl ⟨rfl, rfl⟩, .inr (res_own O2.out (by omega) (by omega) _ _ _ _ _ _ _), .inr (res_own O3.out (by omega) (by omega) _ _ _ _ _ _ _), OwnI.nil _ _, .inl rfl, .inr (SepN.none _ _ _ _), .inl rfl⟩, res_below B2 (by omega) _ _ _ _ _ _ _⟩
end Go.Proofs.Ytaklphoplfofbaa
