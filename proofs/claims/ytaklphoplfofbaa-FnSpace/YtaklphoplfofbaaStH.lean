/- pinEpoch (stage 4). -/
import Derived.Test.YtaklphoplfofbaaStG
namespace Go.Proofs.Ytaklphoplfofbaa
open Go.RowKit

theorem keepBlk {w w' : World} {B g : Nat} {o : Obj} (h : w.heap[g]? = some o) (hb : Below B w w') (hg : g < B) : w'.heap[g]? = some o := (hb.block g hg).trans h
/-- Five cells of a block. -/
abbrev Box5 (b : Nat) (t e : Int) (n h p : Value) (w : World) : Prop := w.cell? ⟨b, 0, none⟩ = some (.int .i64 t) ∧ w.cell? ⟨b, 1, none⟩ = some (.int .i64 e) ∧ w.cell? ⟨b, 2, none⟩ = some n ∧ w.cell? ⟨b, 3, none⟩ = some h ∧ w.cell? ⟨b, 4, none⟩ = some p
theorem box5_of {b : Nat} {t e : Int} {n h p : Value} {w : World} {ty : TypeId} (x : w.heap[b]? = some (.cells #[.int .i64 t, .int .i64 e, n, h, p] ty (0, 0))) : Box5 b t e n h p w :=
  ⟨by simp [World.cell?, x], by simp [World.cell?, x], by simp [World.cell?, x], by simp [World.cell?, x], by simp [World.cell?, x]⟩
theorem box5_set {b g o : Nat} {t e : Int} {n h p v : Value} {w : World} (x : Box5 b t e n h p w) (hg : g ≠ b) : Box5 b t e n h p (w.setCell ⟨g, o, none⟩ v) := by
  have k : ∀ i, (w.setCell ⟨g, o, none⟩ v).cell? ⟨b, i, none⟩ = w.cell? ⟨b, i, none⟩ := fun i => World.cell?_of_block (a := ⟨b, i, none⟩) (Below.heap_setCell _ _ _ _ (fun h => hg h.symm))
  exact ⟨(k 0).trans x.1, (k 1).trans x.2.1, (k 2).trans x.2.2.1, (k 3).trans x.2.2.2.1, (k 4).trans x.2.2.2.2⟩
theorem below_draw {w : World} : Below w.heap.size w w.drew := ⟨rfl, rfl, rfl, Nat.le_refl _, fun _ _ => rfl⟩
theorem below_grow {w w' : World} {o : Obj} (g : (w.drew.alloc o).grownBy w' none) : Below w.heap.size w w' :=
  (below_draw.alloc (Nat.le_refl _) o).grown g (by simp) (fun k hk => by cases hk)

set_option maxRecDepth 100000 in
set_option maxHeartbeats 8000000 in
theorem pin_room (t e : Int) (v1 v2 v3 : Value) (ss : List Int) (ps : List P2) (qs : List Int) (w : World) (h1 : ReadI w v1 ss) (h2 : ReadP w v2 ps) (h3 : ReadI w v3 qs) (l1 : ss.length ≤ 1048576) (l3 : qs.length < 4) :
    Calls Try.prog 65 #[SV t e v1 v2 v3] w fun r w' => SQ w v1 v2 v3 ss ps qs t e ss ps (qs ++ [e]) 0 ss r w' ∧ Below w.heap.size w w' := by
  have HR1 : Hid (ReadI w v1 ss) := h1
  have HR2 : Hid (ReadP w v2 ps) := h2
  have HR3 : Hid (ReadI w v3 qs) := h3
  obtain ⟨a1, c1, rfl, _⟩ := h1.row
  obtain ⟨a2, c2, rfl, _⟩ := h2.row
  obtain ⟨a3, c3, rfl, _⟩ := h3.row
  clear h1 h2 h3
  obtain ⟨x, hx⟩ : ∃ x, ss.length = x := ⟨_, rfl⟩
  obtain ⟨z, hz⟩ : ∃ z, ps.length = z := ⟨_, rfl⟩
  obtain ⟨y, hy⟩ : ∃ y, qs.length = y := ⟨_, rfl⟩
  have HX : Hid (ss.length = x) := hx
  have HZ : Hid (ps.length = z) := hz
  have HY : Hid (qs.length = y) := hy
  rw [hx] at HR1 ⊢
  rw [hz] at HR2 ⊢
  rw [hy] at HR3 ⊢
  try rw [hx] at l1
  try rw [hz] at l2
  try rw [hy] at l3
  clear hx hy hz
  obtain ⟨W0, hW0⟩ : ∃ W0, W3 w t e (.slice a1 x c1) (.slice a2 z c2) (.slice a3 y c3) = W0 := ⟨_, rfl⟩
  have B0 : Below w.heap.size w W0 := hW0 ▸ below_W3 w t e _ _ _
  have z0 : W0.heap.size = w.heap.size + 3 := hW0 ▸ W3_size w t e _ _ _
  have xb : W0.heap[w.heap.size]? = some (.cells #[.int .i64 t, .int .i64 e, .slice a1 x c1, .slice a2 z c2, .slice a3 y c3] 29 (0, 0)) := hW0 ▸ W3_b w t e _ _ _
  have xr : W0.heap[w.heap.size + 1]? = some (.cells #[.int .i64 0, .int .i64 0, .slice none 0 0, .slice none 0 0, .slice none 0 0] 29 (0, 0)) := hW0 ▸ W3_r w t e _ _ _
  have xq : W0.heap[w.heap.size + 1 + 1]? = some (.cells #[.int .i64 0, .slice none 0 0] 37 (0, 0)) := hW0 ▸ W3_q w t e _ _ _
  have cb0W0 : W0.cell? ⟨w.heap.size, 0, none⟩ = some (.int .i64 t) := (by simp [World.cell?, xb])
  have cb1W0 : W0.cell? ⟨w.heap.size, 1, none⟩ = some (.int .i64 e) := (by simp [World.cell?, xb])
  have cb2W0 : W0.cell? ⟨w.heap.size, 2, none⟩ = some (.slice a1 x c1) := (by simp [World.cell?, xb])
  have cb3W0 : W0.cell? ⟨w.heap.size, 3, none⟩ = some (.slice a2 z c2) := (by simp [World.cell?, xb])
  have cb4W0 : W0.cell? ⟨w.heap.size, 4, none⟩ = some (.slice a3 y c3) := (by simp [World.cell?, xb])
  have fbW0 : ∀ o, W0.frozen? ⟨w.heap.size, o, none⟩ = false := fun o => (by simp [World.frozen?, xb])
  have cr0W0 : W0.cell? ⟨w.heap.size + 1, 0, none⟩ = some (.int .i64 0) := (by simp [World.cell?, xr])
  have cr1W0 : W0.cell? ⟨w.heap.size + 1, 1, none⟩ = some (.int .i64 0) := (by simp [World.cell?, xr])
  have cr2W0 : W0.cell? ⟨w.heap.size + 1, 2, none⟩ = some (.slice none 0 0) := (by simp [World.cell?, xr])
  have cr3W0 : W0.cell? ⟨w.heap.size + 1, 3, none⟩ = some (.slice none 0 0) := (by simp [World.cell?, xr])
  have cr4W0 : W0.cell? ⟨w.heap.size + 1, 4, none⟩ = some (.slice none 0 0) := (by simp [World.cell?, xr])
  have frW0 : ∀ o, W0.frozen? ⟨w.heap.size + 1, o, none⟩ = false := fun o => (by simp [World.frozen?, xr])
  have cq0W0 : W0.cell? ⟨w.heap.size + 1 + 1, 0, none⟩ = some (.int .i64 0) := (by simp [World.cell?, xq])
  have cq1W0 : W0.cell? ⟨w.heap.size + 1 + 1, 1, none⟩ = some (.slice none 0 0) := (by simp [World.cell?, xq])
  have fqW0 : ∀ o, W0.frozen? ⟨w.heap.size + 1 + 1, o, none⟩ = false := fun o => (by simp [World.frozen?, xq])
  have hlI : (y : Int) < 4 := by omega
  have hd : Below W0.heap.size W0 (W0.drew.alloc (.cells #[.int .i64 e] 3)) := below_draw.alloc (Nat.le_refl _) _
  obtain ⟨u3, w1, hr1, ho1, g1⟩ := app_pin a3 c3 qs (W0.drew.alloc (.cells #[.int .i64 e] 3)) y ((HR3.out.below B0).below hd) HY.out (by omega) e (w.heap.size + 3) (slab_cell (heap_new' _ _ _ (by show _ = W0.heap.size; omega)))
  have hb1 : Below W0.heap.size W0 w1 := below_grow g1
  obtain ⟨a5, c5, rfl⟩ := own_shp ho1
  have hsh : (∃ p, a3 = some p ∧ y ≤ c3) ∨ (a3 = none ∧ y ≤ c3) := by
    rcases HR3.out with ⟨h, _⟩ | ⟨p, c, h, hc, _⟩
    · injection h with h1 h2 h3; exact .inr ⟨h1, by omega⟩
    · injection h with h1 _ h3; subst h1 h3; exact .inl ⟨p, rfl, by rw [HY.out] at hc; exact hc⟩
  have xb1w := keepBlk xb hb1 (by omega)
  have xr1w := keepBlk xr hb1 (by omega)
  have xq1w := keepBlk xq hb1 (by omega)
  have cb0w1 : w1.cell? ⟨w.heap.size, 0, none⟩ = some (.int .i64 t) := (by simp [World.cell?, xb1w])
  have cb1w1 : w1.cell? ⟨w.heap.size, 1, none⟩ = some (.int .i64 e) := (by simp [World.cell?, xb1w])
  have cb2w1 : w1.cell? ⟨w.heap.size, 2, none⟩ = some (.slice a1 x c1) := (by simp [World.cell?, xb1w])
  have cb3w1 : w1.cell? ⟨w.heap.size, 3, none⟩ = some (.slice a2 z c2) := (by simp [World.cell?, xb1w])
  have cb4w1 : w1.cell? ⟨w.heap.size, 4, none⟩ = some (.slice a3 y c3) := (by simp [World.cell?, xb1w])
  have fbw1 : ∀ o, w1.frozen? ⟨w.heap.size, o, none⟩ = false := fun o => (by simp [World.frozen?, xb1w])
  have S0 : Hid (Box5 w.heap.size t e (.slice a1 x c1) (.slice a2 z c2) (.slice a3 y c3) W0.drew) := box5_of (keepBlk xb below_draw (by omega))
  have S0a : Hid (Box5 w.heap.size t e (.slice a1 x c1) (.slice a2 z c2) (.slice a3 y c3) (W0.drew.alloc (.cells #[.int .i64 e] 3))) := box5_of (keepBlk xb hd (by omega))
  have S1w : Hid (Box5 w.heap.size t e (.slice a1 x c1) (.slice a2 z c2) (.slice a3 y c3) w1) := box5_of xb1w
  obtain ⟨W1, hW1⟩ : ∃ W, w1.setCell ⟨w.heap.size, 4, none⟩ (.slice a5 (y + 1) c5) = W := ⟨_, rfl⟩
  have hoth : ∀ g, g ≠ w.heap.size → W1.heap[g]? = w1.heap[g]? := fun g hg => by rw [← hW1]; exact Below.heap_setCell _ _ _ _ hg
  have z1 : W1.heap.size = w1.heap.size := by rw [← hW1]; simp [World.setCell]
  have n1 : W0.heap.size ≤ w1.heap.size := hb1.size
  have B1 : Below w.heap.size w W1 := hW1 ▸ (B0.trans (hb1.mono B0.size)).setCell (p := ⟨w.heap.size, 4, none⟩) (by simp) _
  have xb1 : W1.heap[w.heap.size]? = some (.cells #[.int .i64 t, .int .i64 e, .slice a1 x c1, .slice a2 z c2, .slice a5 (y + 1) c5] 29 (0, 0)) := by rw [← hW1]; exact slab_set xb1w _
  have xr1 : W1.heap[w.heap.size + 1]? = some (.cells #[.int .i64 0, .int .i64 0, .slice none 0 0, .slice none 0 0, .slice none 0 0] 29 (0, 0)) := (hoth _ (by omega)).trans xr1w
  have xq1 : W1.heap[w.heap.size + 1 + 1]? = some (.cells #[.int .i64 0, .slice none 0 0] 37 (0, 0)) := (hoth _ (by omega)).trans xq1w
  have T1 : Hid (Box5 w.heap.size t e (.slice a1 x c1) (.slice a2 z c2) (.slice a5 (y + 1) c5) W1.drew) := box5_of (keepBlk xb1 below_draw (by omega))
  have O1 : Hid (World.ownsRow W1 W0.heap.size 3 1 (.slice a5 (y + 1) c5) (y + 1) ((qs ++ [e]).map (Value.int .i64))) := own_keep (own_mono ho1 (by simp)) (fun g hg _ => hoth g (by omega))
  have R1 : Hid (ReadI W1.drew (.slice a1 x c1) ss) := (HR1.out.below B1).below (w' := W1.drew) below_draw
  have XR : Hid (W1.heap[w.heap.size + 1]? = some (.cells #[.int .i64 0, .int .i64 0, .slice none 0 0, .slice none 0 0, .slice none 0 0] 29 (0, 0))) := xr1
  have XB : Hid (W1.heap[w.heap.size]? = some (.cells #[.int .i64 t, .int .i64 e, .slice a1 x c1, .slice a2 z c2, .slice a5 (y + 1) c5] 29 (0, 0))) := xb1
  have XQ : Hid (W1.heap[w.heap.size + 1 + 1]? = some (.cells #[.int .i64 0, .slice none 0 0] 37 (0, 0))) := xq1
  clear xb xr xq xb1w xr1w xq1w xr1 xq1 xb1 ho1 g1 hb1 hd hoth
  rcases hsh with ⟨p3, rfl, hcap⟩ | ⟨rfl, hcap⟩
  · go_enter Try.func65, Try.ntmps65
    go_wp2_with fail
    go_region_law (first | (refine step_append_run (by rfl) _ _ _ _ (by rfl) _ _ (by rfl) (by rfl) _ _ hr1 ?_))
    all_goals
      go_wp2_with fail
      go_region_held3 (Box5 w.heap.size t e (.slice a1 x c1) (.slice a2 z c2) (.slice a5 (y + 1) c5)) (with_reducible (first | exact T1.out | (repeat (first | exact T2.out | refine box5_set ?_ (by omega))))) (first | (go_at_call 72; refine (cloneI_read _ ss _ R1.out (by rw [HX.out]; exact l1)).mono ?_; rintro r w2 ⟨u4, rfl, ho2, hb2⟩; have xr2 := keepBlk XR.out (below_draw.trans (hb2.mono (Nat.le_refl _))) (by omega); have xq2 := keepBlk XQ.out (below_draw.trans (hb2.mono (Nat.le_refl _))) (by omega); have xb2 := keepBlk XB.out (below_draw.trans (hb2.mono (Nat.le_refl _))) (by omega); have cr0w2 : w2.cell? ⟨w.heap.size + 1, 0, none⟩ = some (.int .i64 0) := (by simp [World.cell?, xr2]); have cr1w2 : w2.cell? ⟨w.heap.size + 1, 1, none⟩ = some (.int .i64 0) := (by simp [World.cell?, xr2]); have cr2w2 : w2.cell? ⟨w.heap.size + 1, 2, none⟩ = some (.slice none 0 0) := (by simp [World.cell?, xr2]); have cr3w2 : w2.cell? ⟨w.heap.size + 1, 3, none⟩ = some (.slice none 0 0) := (by simp [World.cell?, xr2]); have cr4w2 : w2.cell? ⟨w.heap.size + 1, 4, none⟩ = some (.slice none 0 0) := (by simp [World.cell?, xr2]); have frw2 : ∀ o, w2.frozen? ⟨w.heap.size + 1, o, none⟩ = false := fun o => (by simp [World.frozen?, xr2]); have cq0w2 : w2.cell? ⟨w.heap.size + 1 + 1, 0, none⟩ = some (.int .i64 0) := (by simp [World.cell?, xq2]); have cq1w2 : w2.cell? ⟨w.heap.size + 1 + 1, 1, none⟩ = some (.slice none 0 0) := (by simp [World.cell?, xq2]); have fqw2 : ∀ o, w2.frozen? ⟨w.heap.size + 1 + 1, o, none⟩ = false := fun o => (by simp [World.frozen?, xq2]); have T2 : Hid (Box5 w.heap.size t e (.slice a1 x c1) (.slice a2 z c2) (.slice a5 (y + 1) c5) w2) := box5_of xb2; obtain ⟨a6, c6, rfl⟩ := own_shp ho2; clear xr2 xq2 xb2))
      have hb12 : Below W1.heap.size W1 w2 := below_draw.trans (hb2.mono (Nat.le_refl _))
      have O2 : Hid (World.ownsRow w2 W0.heap.size 3 1 (.slice a5 (y + 1) c5) (y + 1) ((qs ++ [e]).map (Value.int .i64))) := own_keep O1.out (fun g _ hg => hb12.block g hg)
      have HO2 : Hid (OwnI w2 W1.heap.size (.slice a6 ss.length c6) ss) := ho2
      have B2 : Hid (Below w.heap.size w w2) := B1.trans (hb12.mono B1.size)
      clear ho2 hb2 hb12 T2
      go_wp2
      refine bodyPost_ret (v := .tuple #[SV t e (.slice a1 x c1) (.slice a2 z c2) (.slice a5 (y + 1) c5), .agg #[.int .i64 0, .slice a6 ss.length c6]]) (by go_simp; simp [results, Try.results65, go_sem, cr0w2, cr1w2, cr2w2, cr3w2, cr4w2, cq0w2, cq1w2]) rfl ⟨⟨_, _, _, _, rfl, .inl ⟨rfl, rfl⟩, .inl ⟨rfl, rfl⟩, .inr (ownI_of (res_own O2.out (by omega) (by omega) _ _ _ _ _ _ _)), ownI_of (res_own HO2.out (by omega) (by omega) _ _ _ _ _ _ _), .inl rfl, .inr (sep_of O1.out HO2.out (Nat.le_refl _) _), .inl rfl⟩, res_below B2.out (by omega) _ _ _ _ _ _ _⟩
  · go_enter Try.func65, Try.ntmps65
    go_wp2_with fail
    go_region_law (first | (refine step_append_run (by rfl) _ _ _ _ (by rfl) _ _ (by rfl) (by rfl) _ _ hr1 ?_))
    all_goals
      go_wp2_with fail
      go_region_held3 (Box5 w.heap.size t e (.slice a1 x c1) (.slice a2 z c2) (.slice a5 (y + 1) c5)) (with_reducible (first | exact T1.out | (repeat (first | exact T2.out | refine box5_set ?_ (by omega))))) (first | (go_at_call 72; refine (cloneI_read _ ss _ R1.out (by rw [HX.out]; exact l1)).mono ?_; rintro r w2 ⟨u4, rfl, ho2, hb2⟩; have xr2 := keepBlk XR.out (below_draw.trans (hb2.mono (Nat.le_refl _))) (by omega); have xq2 := keepBlk XQ.out (below_draw.trans (hb2.mono (Nat.le_refl _))) (by omega); have xb2 := keepBlk XB.out (below_draw.trans (hb2.mono (Nat.le_refl _))) (by omega); have cr0w2 : w2.cell? ⟨w.heap.size + 1, 0, none⟩ = some (.int .i64 0) := (by simp [World.cell?, xr2]); have cr1w2 : w2.cell? ⟨w.heap.size + 1, 1, none⟩ = some (.int .i64 0) := (by simp [World.cell?, xr2]); have cr2w2 : w2.cell? ⟨w.heap.size + 1, 2, none⟩ = some (.slice none 0 0) := (by simp [World.cell?, xr2]); have cr3w2 : w2.cell? ⟨w.heap.size + 1, 3, none⟩ = some (.slice none 0 0) := (by simp [World.cell?, xr2]); have cr4w2 : w2.cell? ⟨w.heap.size + 1, 4, none⟩ = some (.slice none 0 0) := (by simp [World.cell?, xr2]); have frw2 : ∀ o, w2.frozen? ⟨w.heap.size + 1, o, none⟩ = false := fun o => (by simp [World.frozen?, xr2]); have cq0w2 : w2.cell? ⟨w.heap.size + 1 + 1, 0, none⟩ = some (.int .i64 0) := (by simp [World.cell?, xq2]); have cq1w2 : w2.cell? ⟨w.heap.size + 1 + 1, 1, none⟩ = some (.slice none 0 0) := (by simp [World.cell?, xq2]); have fqw2 : ∀ o, w2.frozen? ⟨w.heap.size + 1 + 1, o, none⟩ = false := fun o => (by simp [World.frozen?, xq2]); have T2 : Hid (Box5 w.heap.size t e (.slice a1 x c1) (.slice a2 z c2) (.slice a5 (y + 1) c5) w2) := box5_of xb2; obtain ⟨a6, c6, rfl⟩ := own_shp ho2; clear xr2 xq2 xb2))
      have hb12 : Below W1.heap.size W1 w2 := below_draw.trans (hb2.mono (Nat.le_refl _))
      have O2 : Hid (World.ownsRow w2 W0.heap.size 3 1 (.slice a5 (y + 1) c5) (y + 1) ((qs ++ [e]).map (Value.int .i64))) := own_keep O1.out (fun g _ hg => hb12.block g hg)
      have HO2 : Hid (OwnI w2 W1.heap.size (.slice a6 ss.length c6) ss) := ho2
      have B2 : Hid (Below w.heap.size w w2) := B1.trans (hb12.mono B1.size)
      clear ho2 hb2 hb12 T2
      go_wp2
      refine bodyPost_ret (v := .tuple #[SV t e (.slice a1 x c1) (.slice a2 z c2) (.slice a5 (y + 1) c5), .agg #[.int .i64 0, .slice a6 ss.length c6]]) (by go_simp; simp [results, Try.results65, go_sem, cr0w2, cr1w2, cr2w2, cr3w2, cr4w2, cq0w2, cq1w2]) rfl ⟨⟨_, _, _, _, rfl, .inl ⟨rfl, rfl⟩, .inl ⟨rfl, rfl⟩, .inr (ownI_of (res_own O2.out (by omega) (by omega) _ _ _ _ _ _ _)), ownI_of (res_own HO2.out (by omega) (by omega) _ _ _ _ _ _ _), .inl rfl, .inr (sep_of O1.out HO2.out (Nat.le_refl _) _), .inl rfl⟩, res_below B2.out (by omega) _ _ _ _ _ _ _⟩
end Go.Proofs.Ytaklphoplfofbaa
