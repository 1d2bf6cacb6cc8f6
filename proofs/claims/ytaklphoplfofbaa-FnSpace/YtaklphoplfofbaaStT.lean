/- l04Commit where it is done (stage 4). -/
import Derived.Test.YtaklphoplfofbaaStS
namespace Go.Proofs.Ytaklphoplfofbaa
open Go.RowKit

theorem dropI {ss : List Int} {k : Nat} (h : k < ss.length) : ss.drop k = nthI ss k :: ss.drop (k + 1) := by
  rw [nthI_get h]
  exact List.drop_eq_getElem_cons h
theorem dropP {ps : List P2} {k : Nat} (h : k < ps.length) : ps.drop k = nthP ps k :: ps.drop (k + 1) := by
  rw [nthP_get h]
  exact List.drop_eq_getElem_cons h
theorem mer_nil (e : Int) (ps : List P2) : mer e [] ps = ps := by unfold mer; rfl
theorem mer_now (e : Int) (s : Int) (ss : List Int) : mer e (s :: ss) [] = (s, e) :: mer e ss [] := by
  conv => lhs; unfold mer
theorem mer_lt (e : Int) (s : Int) (ss : List Int) (p : P2) (ps : List P2) (h : s < p.1) : mer e (s :: ss) (p :: ps) = (s, e) :: mer e ss (p :: ps) := by
  conv => lhs; unfold mer
  rw [if_pos h]
theorem mer_ge (e : Int) (s : Int) (ss : List Int) (p : P2) (ps : List P2) (h : ¬ s < p.1) : mer e (s :: ss) (p :: ps) = p :: mer e (s :: ss) ps := by
  conv => lhs; unfold mer
  rw [if_neg h]
theorem mer_len (e : Int) (ss : List Int) (ps : List P2) : (mer e ss ps).length = ss.length + ps.length := by
  rw [(mer_perm e ss ps).length_eq]
  unfold kvOf
  simp

set_option maxRecDepth 100000 in
set_option maxHeartbeats 16000000 in
theorem commitS_ok (t : Nat) (e : Int) (k : Nat) (v1 v2 v3 : Value) (ss : List Int) (ps : List P2) (qs : List Int) (w : World) (h1 : ReadI w v1 ss) (h2 : ReadP w v2 ps) (h3 : ReadI w v3 qs) (l1 : ss.length ≤ 1048576) (l2 : ps.length ≤ 1048576) (l3 : qs.length ≤ 1048576) (ht : t ≤ 64) (m1 : ss.length ≤ 500000) (m2 : ps.length ≤ 500000) (hk : k ≤ 64) (hf : k ≤ (freeK (usedB ss ps) t).length) (he : 0 ≤ e) (he2 : e < 1000000) :
    Calls Try.prog 67 #[SV t e v1 v2 v3, .int .i64 k] w (QS w v1 v2 v3 ss ps qs t ⟨e + 1, (freeK (usedB ss ps) t).take k, relP (e + 1) qs (mer e ss ps), qs, 0, (freeK (usedB ss ps) t).take k⟩) := by
  have HF : Hid (k ≤ (freeK (usedB ss ps) t).length) := hf
  have HM1 : Hid (ss.length ≤ 500000) := m1
  have HM2 : Hid (ps.length ≤ 500000) := m2
  clear m1 m2
  have HL1 : Hid (ss.length ≤ 1048576) := l1
  have HL2 : Hid (ps.length ≤ 1048576) := l2
  have HL3 : Hid (qs.length ≤ 1048576) := l3
  have HR1 : Hid (ReadI w v1 ss) := h1
  have HR2 : Hid (ReadP w v2 ps) := h2
  have HR3 : Hid (ReadI w v3 qs) := h3
  obtain ⟨a1, c1, rfl, _⟩ := h1.row
  obtain ⟨a2, c2, rfl, _⟩ := h2.row
  obtain ⟨a3, c3, rfl, _⟩ := h3.row
  clear h1 h2 h3
  obtain ⟨x, hx⟩ : ∃ x, ss.length = x := ⟨_, rfl⟩
  obtain ⟨z, hz⟩ : ∃ z, ps.length = z := ⟨_, rfl⟩
  obtain ⟨y, hy⟩ : ∃ y, qs.length = y := ⟨_, rfl⟩
  have HX : Hid (ss.length = x) := hx
  have HZ : Hid (ps.length = z) := hz
  have HY : Hid (qs.length = y) := hy
  rw [hx] at HR1 ⊢
  rw [hz] at HR2 ⊢
  rw [hy] at HR3 ⊢
  try rw [hx] at l1
  try rw [hz] at l2
  try rw [hy] at l3
  clear hx hy hz
  obtain ⟨W0, hW0⟩ : ∃ W0, W3 w t e (.slice a1 x c1) (.slice a2 z c2) (.slice a3 y c3) = W0 := ⟨_, rfl⟩
  have B0 : Below w.heap.size w W0 := hW0 ▸ below_W3 w t e _ _ _
  have z0 : W0.heap.size = w.heap.size + 3 := hW0 ▸ W3_size w t e _ _ _
  have xb : W0.heap[w.heap.size]? = some (.cells #[.int .i64 t, .int .i64 e, .slice a1 x c1, .slice a2 z c2, .slice a3 y c3] 29 (0, 0)) := hW0 ▸ W3_b w t e _ _ _
  have xr : W0.heap[w.heap.size + 1]? = some (.cells #[.int .i64 0, .int .i64 0, .slice none 0 0, .slice none 0 0, .slice none 0 0] 29 (0, 0)) := hW0 ▸ W3_r w t e _ _ _
  have xq : W0.heap[w.heap.size + 1 + 1]? = some (.cells #[.int .i64 0, .slice none 0 0] 37 (0, 0)) := hW0 ▸ W3_q w t e _ _ _
  have cb0W0 : W0.cell? ⟨w.heap.size, 0, none⟩ = some (.int .i64 t) := (by simp [World.cell?, xb])
  have cb1W0 : W0.cell? ⟨w.heap.size, 1, none⟩ = some (.int .i64 e) := (by simp [World.cell?, xb])
  have cb2W0 : W0.cell? ⟨w.heap.size, 2, none⟩ = some (.slice a1 x c1) := (by simp [World.cell?, xb])
  have cb3W0 : W0.cell? ⟨w.heap.size, 3, none⟩ = some (.slice a2 z c2) := (by simp [World.cell?, xb])
  have cb4W0 : W0.cell? ⟨w.heap.size, 4, none⟩ = some (.slice a3 y c3) := (by simp [World.cell?, xb])
  have fbW0 : ∀ o, W0.frozen? ⟨w.heap.size, o, none⟩ = false := fun o => (by simp [World.frozen?, xb])
  have cr0W0 : W0.cell? ⟨w.heap.size + 1, 0, none⟩ = some (.int .i64 0) := (by simp [World.cell?, xr])
  have cr1W0 : W0.cell? ⟨w.heap.size + 1, 1, none⟩ = some (.int .i64 0) := (by simp [World.cell?, xr])
  have cr2W0 : W0.cell? ⟨w.heap.size + 1, 2, none⟩ = some (.slice none 0 0) := (by simp [World.cell?, xr])
  have cr3W0 : W0.cell? ⟨w.heap.size + 1, 3, none⟩ = some (.slice none 0 0) := (by simp [World.cell?, xr])
  have cr4W0 : W0.cell? ⟨w.heap.size + 1, 4, none⟩ = some (.slice none 0 0) := (by simp [World.cell?, xr])
  have frW0 : ∀ o, W0.frozen? ⟨w.heap.size + 1, o, none⟩ = false := fun o => (by simp [World.frozen?, xr])
  have cq0W0 : W0.cell? ⟨w.heap.size + 1 + 1, 0, none⟩ = some (.int .i64 0) := (by simp [World.cell?, xq])
  have cq1W0 : W0.cell? ⟨w.heap.size + 1 + 1, 1, none⟩ = some (.slice none 0 0) := (by simp [World.cell?, xq])
  have fqW0 : ∀ o, W0.frozen? ⟨w.heap.size + 1 + 1, o, none⟩ = false := fun o => (by simp [World.frozen?, xq])
  have XB : Hid (W0.heap[w.heap.size]? = some (.cells #[.int .i64 t, .int .i64 e, .slice a1 x c1, .slice a2 z c2, .slice a3 y c3] 29 (0, 0))) := xb
  have XR : Hid (W0.heap[w.heap.size + 1]? = some (.cells #[.int .i64 0, .int .i64 0, .slice none 0 0, .slice none 0 0, .slice none 0 0] 29 (0, 0))) := xr
  have XQ : Hid (W0.heap[w.heap.size + 1 + 1]? = some (.cells #[.int .i64 0, .slice none 0 0] 37 (0, 0))) := xq
  clear xb xr xq
  have FREE : Hid (Calls Try.prog 59 #[SV t e (.slice a1 x c1) (.slice a2 z c2) (.slice a3 y c3)] W0 fun r w' => ∃ v, r = .returned v ∧ OwnI w' W0.heap.size v (freeK (usedB ss ps) t) ∧ Below W0.heap.size W0 w') := by
    obtain ⟨a, cc, e1, r1⟩ := (HR1.out.below B0).row
    obtain ⟨a', cc', e2, r2⟩ := (HR2.out.below B0).row
    have hh := l04Free_any t e a a' cc cc' (.slice a3 y c3) ss ps W0 r1 r2 HL1.out HL2.out ht
    rw [← e1, ← e2] at hh
    exact hh
  have HI : Hid (inB (k : Int) 0 64 = true) := decide_eq_true (by omega)
  go_enter Try.func67, Try.ntmps67
  go_wp2_with fail
  refine FREE.out.mono ?_
  rintro r w1 ⟨vf, rfl, ho1, hb1⟩
  obtain ⟨af, cf, rfl⟩ := own_shp ho1
  have n1 : W0.heap.size ≤ w1.heap.size := hb1.size
  have sz0 : w.heap.size < w1.heap.size := by omega
  have sz1 : w.heap.size + 1 < w1.heap.size := by omega
  have sz2 : w.heap.size + 1 + 1 < w1.heap.size := by omega
  have B1 : Below w.heap.size w w1 := B0.trans (hb1.mono B0.size)
  have xb1 := keepBlk XB.out hb1 (by omega)
  have xr1 := keepBlk XR.out hb1 (by omega)
  have xq1 := keepBlk XQ.out hb1 (by omega)
  clear cb0W0 cb1W0 cb2W0 cb3W0 cb4W0 fbW0 cr0W0 cr1W0 cr2W0 cr3W0 cr4W0 frW0 cq0W0 cq1W0 fqW0
  have cb0w1 : w1.cell? ⟨w.heap.size, 0, none⟩ = some (.int .i64 t) := (by simp [World.cell?, xb1])
  have cb1w1 : w1.cell? ⟨w.heap.size, 1, none⟩ = some (.int .i64 e) := (by simp [World.cell?, xb1])
  have cb2w1 : w1.cell? ⟨w.heap.size, 2, none⟩ = some (.slice a1 x c1) := (by simp [World.cell?, xb1])
  have cb3w1 : w1.cell? ⟨w.heap.size, 3, none⟩ = some (.slice a2 z c2) := (by simp [World.cell?, xb1])
  have cb4w1 : w1.cell? ⟨w.heap.size, 4, none⟩ = some (.slice a3 y c3) := (by simp [World.cell?, xb1])
  have fbw1 : ∀ o, w1.frozen? ⟨w.heap.size, o, none⟩ = false := fun o => (by simp [World.frozen?, xb1])
  have cr0w1 : w1.cell? ⟨w.heap.size + 1, 0, none⟩ = some (.int .i64 0) := (by simp [World.cell?, xr1])
  have cr1w1 : w1.cell? ⟨w.heap.size + 1, 1, none⟩ = some (.int .i64 0) := (by simp [World.cell?, xr1])
  have cr2w1 : w1.cell? ⟨w.heap.size + 1, 2, none⟩ = some (.slice none 0 0) := (by simp [World.cell?, xr1])
  have cr3w1 : w1.cell? ⟨w.heap.size + 1, 3, none⟩ = some (.slice none 0 0) := (by simp [World.cell?, xr1])
  have cr4w1 : w1.cell? ⟨w.heap.size + 1, 4, none⟩ = some (.slice none 0 0) := (by simp [World.cell?, xr1])
  have frw1 : ∀ o, w1.frozen? ⟨w.heap.size + 1, o, none⟩ = false := fun o => (by simp [World.frozen?, xr1])
  have cq0w1 : w1.cell? ⟨w.heap.size + 1 + 1, 0, none⟩ = some (.int .i64 0) := (by simp [World.cell?, xq1])
  have cq1w1 : w1.cell? ⟨w.heap.size + 1 + 1, 1, none⟩ = some (.slice none 0 0) := (by simp [World.cell?, xq1])
  have fqw1 : ∀ o, w1.frozen? ⟨w.heap.size + 1 + 1, o, none⟩ = false := fun o => (by simp [World.frozen?, xq1])
  have XB1 : Hid (w1.heap[w.heap.size]? = some (.cells #[.int .i64 t, .int .i64 e, .slice a1 x c1, .slice a2 z c2, .slice a3 y c3] 29 (0, 0))) := xb1
  have XR1 : Hid (w1.heap[w.heap.size + 1]? = some (.cells #[.int .i64 0, .int .i64 0, .slice none 0 0, .slice none 0 0, .slice none 0 0] 29 (0, 0))) := xr1
  have XQ1 : Hid (w1.heap[w.heap.size + 1 + 1]? = some (.cells #[.int .i64 0, .slice none 0 0] 37 (0, 0))) := xq1
  clear xb1 xr1 xq1 XB XR XQ FREE
  go_wp2_with fail
  refine (l01In_any k 0 64 w1).mono ?_
  rintro r w1' ⟨rfl, hq⟩
  obtain rfl := hq.symm
  rw [HI.out]
  obtain ⟨hoc, _, hcap, hsome⟩ := own_cut' ho1 HF.out
  have OC : Hid (OwnI w1 W0.heap.size (.slice af k cf) ((freeK (usedB ss ps) t).take k)) := hoc
  have HTL : Hid (((freeK (usedB ss ps) t).take k).length ≤ 1048576) := by show _ ≤ _; rw [List.length_take]; omega
  generalize hnf : (freeK (usedB ss ps) t).length = nf at *
  clear hnf HF hoc ho1
  have hd1 : decide (nf < k) = false := decide_eq_false (by omega)
  have hd2 : (e == 1000000) = false := by simpa using (show ¬ e = 1000000 by omega)
  go_wp2_with fail
  refine (l04Own_any t e _ _ _ ss ps qs w1 (HR1.out.below B1) (HR2.out.below B1) (HR3.out.below B1) HL1.out HL2.out HL3.out).mono ?_
  rintro r w2 ⟨u1, u2, u3, rfl, o1, o2, o3, _, b2⟩
  obtain ⟨b1, n1, d1, rfl⟩ := own_shr o1
  obtain ⟨b2', n2, d2, rfl⟩ := own_shr o2
  obtain ⟨b3, n3, d3, rfl⟩ := own_shr o3
  have s2 : w1.heap.size ≤ w2.heap.size := b2.size
  have XB2 : Hid (w2.heap[w.heap.size]? = some (.cells #[.int .i64 t, .int .i64 e, .slice a1 x c1, .slice a2 z c2, .slice a3 y c3] 29 (0, 0))) := keepBlk XB1.out b2 (by omega)
  have XR2 : Hid (w2.heap[w.heap.size + 1]? = some (.cells #[.int .i64 0, .int .i64 0, .slice none 0 0, .slice none 0 0, .slice none 0 0] 29 (0, 0))) := keepBlk XR1.out b2 (by omega)
  have XQ2 : Hid (w2.heap[w.heap.size + 1 + 1]? = some (.cells #[.int .i64 0, .slice none 0 0] 37 (0, 0))) := keepBlk XQ1.out b2 (by omega)
  have B2 : Below w.heap.size w w2 := B1.trans (b2.mono B1.size)
  have O3 : Hid (OwnI w2 w1.heap.size (.slice b3 n3 d3) qs) := o3
  have OC2 : Hid (OwnI w2 W0.heap.size (.slice af k cf) ((freeK (usedB ss ps) t).take k)) := own_keep OC.out (fun g _ hl => b2.block g hl)
  clear o1 o2 o3 b2 OC XB1 XR1 XQ1 cb0w1 cb1w1 cb2w1 cb3w1 cb4w1 fbw1 cr0w1 cr1w1 cr2w1 cr3w1 cr4w1 frw1 cq0w1 cq1w1 fqw1
  obtain ⟨WA, hWA⟩ : ∃ WA, ((w2.alloc (.cells #[.int .i64 t, .int .i64 (e + 1), .slice b1 n1 d1, .slice b2' n2 d2, .slice b3 n3 d3] 29)).alloc (.cells #[] 3)) = WA := ⟨_, rfl⟩
  have zA : WA.heap.size = w2.heap.size + 2 := by rw [← hWA]; simp
  have bA : Below w2.heap.size w2 WA := hWA ▸ ((Below.refl _ _).alloc (Nat.le_refl _) _).alloc (by simp) _
  have xA : WA.heap[w2.heap.size]? = some (.cells #[.int .i64 t, .int .i64 (e + 1), .slice b1 n1 d1, .slice b2' n2 d2, .slice b3 n3 d3] 29 (0, 0)) := hWA ▸ (heap_old _ _ _ (by simp)).trans (heap_new' _ _ _ rfl)
  have xE : WA.heap[w2.heap.size + 1]? = some (.cells #[] 3 (0, 0)) := hWA ▸ heap_new' _ _ _ (by simp)
  obtain ⟨un, w3, hrn, hon, hgn, _⟩ := app_I (.slice af k cf) ((freeK (usedB ss ps) t).take k) WA ((OC2.out.read).below bA) HTL.out (w2.heap.size + 1) xE (w2.heap.size + 1) (Nat.le_refl _)
  obtain ⟨an, nn, cn, rfl⟩ := own_shr hon
  have s3 : w2.heap.size + 2 ≤ w3.heap.size := by have := hgn.size; omega
  have x3 : w3.heap[w2.heap.size]? = some (.cells #[.int .i64 t, .int .i64 (e + 1), .slice b1 n1 d1, .slice b2' n2 d2, .slice b3 n3 d3] 29 (0, 0)) := (hgn.block _ (by omega) (by simp)).trans xA
  have B23 : Below w2.heap.size w2 w3 := bA.grown hgn (by omega) (fun q hq => by cases hq; omega)
  have ON : Hid (OwnI w3 (w2.heap.size + 1) (.slice an nn cn) ((freeK (usedB ss ps) t).take k)) := hon
  have y3c : w3.cell? ⟨w2.heap.size, 2, none⟩ = some (.slice b1 n1 d1) := (by simp [World.cell?, x3])
  have y3d : w3.cell? ⟨w2.heap.size, 3, none⟩ = some (.slice b2' n2 d2) := (by simp [World.cell?, x3])
  have f3 : ∀ o, w3.frozen? ⟨w2.heap.size, o, none⟩ = false := fun o => (by simp [World.frozen?, x3])
  have lt3 : w2.heap.size < w3.heap.size := by omega
  have ZK : Hid (ss.length ≤ 500000 ∧ ps.length ≤ 500000) := ⟨HM1.out, HM2.out⟩
  clear hsome
  · go_wp2_with (at_builtin; refine Lib.wpList_append_run _ rfl _ _ _ _ rfl _ _ rfl rfl _ _ hrn ?_)
    have x4a : (w3.setCell ⟨w2.heap.size, 2, none⟩ (.slice an nn cn)).heap[w2.heap.size]? = some (.cells #[.int .i64 t, .int .i64 (e + 1), .slice an nn cn, .slice b2' n2 d2, .slice b3 n3 d3] 29 (0, 0)) := slab_set x3 _
    have x4 : ((w3.setCell ⟨w2.heap.size, 2, none⟩ (.slice an nn cn)).setCell ⟨w2.heap.size, 3, none⟩ (.slice (some ⟨w3.heap.size, 0, none⟩) 0 0)).heap[w2.heap.size]? = some (.cells #[.int .i64 t, .int .i64 (e + 1), .slice an nn cn, .slice (some ⟨w3.heap.size, 0, none⟩) 0 0, .slice b3 n3 d3] 29 (0, 0)) := slab_set x4a _
    obtain ⟨W4, hW4⟩ : ∃ W4, (((w3.setCell ⟨w2.heap.size, 2, none⟩ (.slice an nn cn)).setCell ⟨w2.heap.size, 3, none⟩ (.slice (some ⟨w3.heap.size, 0, none⟩) 0 0)).alloc (.cells #[] 88)) = W4 := ⟨_, rfl⟩
    have A0 : Hid (W4.heap[w2.heap.size]? = some (.cells #[.int .i64 t, .int .i64 (e + 1), .slice an nn cn, .slice (some ⟨w3.heap.size, 0, none⟩) 0 0, .slice b3 n3 d3] 29 (0, 0)) ∧ OwnP W4 w3.heap.size (.slice (some ⟨w3.heap.size, 0, none⟩) 0 0) [] ∧ Kept (fun j => j = w2.heap.size) w3 W4) := by
      rw [← hW4]
      refine ⟨(heap_old _ _ _ (by simp [World.setCell]; omega)).trans x4, ⟨rfl, .inr ⟨w3.heap.size, 0, #[], rfl, Nat.le_refl _, heap_new' _ _ _ (by simp [World.setCell]), Nat.le_refl _, by decide, rfl, rfl⟩⟩, Kept.alloc (Kept.set (S := fun j => j = w2.heap.size) (Kept.set (S := fun j => j = w2.heap.size) (Kept.refl _ _) _ rfl) _ rfl) _⟩
    clear x4a x4 y3c y3d f3 x3 hrn hon
    go_wp2
    go_loopw [8, 9] (fun kk ii wx => ∃ k' i : Nat, k' ≤ x ∧ i ≤ z ∧ kk = .int .i64 k' ∧ ii = .int .i64 i ∧ ∃ v L, L ++ mer e (ss.drop k') (ps.drop i) = mer e ss ps ∧ wx.heap[w2.heap.size]? = some (.cells #[.int .i64 t, .int .i64 (e + 1), .slice an nn cn, v, .slice b3 n3 d3] 29 (0, 0)) ∧ OwnP wx w3.heap.size (v) L ∧ Kept (fun j => j = w2.heap.size) w3 wx) (fun kk ii _ => (x - (intOf kk).toNat) + (z - (intOf ii).toNat))
    case atStart => exact ⟨0, 0, by omega, by omega, rfl, rfl, .slice (some ⟨w3.heap.size, 0, none⟩) 0 0, [], by simp, by rw [hW4]; exact A0.out⟩
    case round =>
      clear A0
      obtain ⟨k', i, hk', hi', rfl, rfl, v, L, hL, hA⟩ := hrel
      rename World => wx
      have HA : Hid (wx.heap[w2.heap.size]? = some (.cells #[.int .i64 t, .int .i64 (e + 1), .slice an nn cn, v, .slice b3 n3 d3] 29 (0, 0)) ∧ OwnP wx w3.heap.size (v) L ∧ Kept (fun j => j = w2.heap.size) w3 wx) := hA
      have HL : Hid (L ++ mer e (ss.drop k') (ps.drop i) = mer e ss ps) := hL
      clear hA hL
      obtain ⟨av, nv, cv, rfl⟩ := own_shr HA.out.2.1
      have s4 : w3.heap.size ≤ wx.heap.size := HA.out.2.2.size
      have HBX : Hid (Below w.heap.size w wx) := (B2.trans (B23.mono B2.size)).trans (HA.out.2.2.below (by omega) (fun q hq => by have : q = w2.heap.size := hq; omega))
      have xbx : wx.heap[w.heap.size]? = some (.cells #[.int .i64 t, .int .i64 e, .slice a1 x c1, .slice a2 z c2, .slice a3 y c3] 29 (0, 0)) := (HA.out.2.2.block _ (by omega) (by show ¬ _ = _; omega)).trans (keepBlk XB2.out B23 (by omega))
      have q1 : wx.cell? ⟨w.heap.size, 1, none⟩ = some (.int .i64 e) := (by simp [World.cell?, xbx])
      have q2 : wx.cell? ⟨w.heap.size, 2, none⟩ = some (.slice a1 x c1) := (by simp [World.cell?, xbx])
      have q3 : wx.cell? ⟨w.heap.size, 3, none⟩ = some (.slice a2 z c2) := (by simp [World.cell?, xbx])
      have sx1 : w2.heap.size < wx.heap.size := by omega
      have sx2 : w.heap.size < wx.heap.size := by omega
      have HLK : Hid (L.length ≤ 1048576) := by
        show _ ≤ _
        have := congrArg List.length HL.out
        rw [List.length_append, mer_len e ss ps] at this
        have := ZK.out
        omega
      clear xbx
      by_cases hi : i < z
      · have hiI : (i : Int) < (z : Int) := by omega
        have hi1 : decide ((i : Int) = (z : Int)) = false := decide_eq_false (by omega)
        have hi2 : ((i : Int) == (z : Int)) = false := by simp; omega
        have hi3 : (i == z) = false := by simp; omega
        have hi4 : decide (i < z) = true := decide_eq_true hi
        obtain ⟨a2', c2', e2, r2⟩ := (HR2.out.below HBX.out).row
        injection e2 with e2a e2b e2c
        subst e2a e2c
        clear e2b
        obtain ⟨b, off, rfl, hlb, hc0, hc1⟩ := r2 i (by rw [HZ.out]; exact hi)
        clear r2
        have HDP : Hid (ps.drop i = nthP ps i :: ps.drop (i + 1)) := dropP (by rw [HZ.out]; exact hi)
        obtain ⟨pp, hpp⟩ : ∃ pp, nthP ps i = pp := ⟨_, rfl⟩
        rw [hpp] at HDP hc0 hc1
        clear hpp
        obtain ⟨pg, pe⟩ := pp
        by_cases hx : k' < x
        · have hxI : (k' : Int) < (x : Int) := by omega
          obtain ⟨a1', c1', e1, r1⟩ := (HR1.out.below HBX.out).row
          injection e1 with e1a e1b e1c
          subst e1a e1c
          clear e1b
          obtain ⟨bs, os, rfl, hls, hcs⟩ := r1 k' (by rw [HX.out]; exact hx)
          clear r1
          have HDI : Hid (ss.drop k' = nthI ss k' :: ss.drop (k' + 1)) := dropI (by rw [HX.out]; exact hx)
          obtain ⟨sv, hsv⟩ : ∃ sv, nthI ss k' = sv := ⟨_, rfl⟩
          rw [hsv] at HDI hcs
          clear hsv
          have hx1 : decide ((k' : Int) < (x : Int)) = true := decide_eq_true hxI
          have hx2 : decide (k' < x) = true := decide_eq_true hx
          by_cases hsp : sv < pg
          · have hs1 : decide (sv < pg) = true := decide_eq_true hsp
            have HN : Hid (L ++ [(sv, e)] ++ mer e (ss.drop (k' + 1)) (ps.drop i) = mer e ss ps) := by show _ = _; rw [← HL.out, HDI.out, HDP.out, mer_lt e sv _ (pg, pe) _ hsp]; simp
            go_wp2_with fail
            go_quiet (fail)
            obtain ⟨WB, hWB⟩ : ∃ WB, (wx.drewN (nq + 1)).alloc (.cells #[.int .i64 sv, .int .i64 e] 88) = WB := ⟨_, rfl⟩
            have hda : Below wx.heap.size wx WB := hWB ▸ (below_drewN (Below.refl _ wx) (nq + 1)).alloc (Nat.le_refl _) _
            have zB : WB.heap.size = wx.heap.size + 1 := by rw [← hWB]; show (wx.heap.push _).size = _; simp
            have hnb : WB.heap[wx.heap.size]? = some (.cells #[.int .i64 sv, .int .i64 e] 88 (0, 0)) := hWB ▸ heap_new' _ _ _ rfl
            obtain ⟨v', wq, hr', ho', hg'⟩ := app_held (.slice av nv cv) L WB w3.heap.size (own_keep HA.out.2.1 (fun g _ hl => hda.block g hl)) HLK.out (sv, e) wx.heap.size hnb (by omega)
            obtain ⟨ax, nx, cx, rfl⟩ := own_shr ho'
            have xo := HA.out.1
            have y30 : wx.cell? ⟨w2.heap.size, 3, none⟩ = some (.slice av nv cv) := (by simp [World.cell?, xo])
            have y31 : WB.cell? ⟨w2.heap.size, 3, none⟩ = some (.slice av nv cv) := (hda.cell (p := ⟨w2.heap.size, 3, none⟩) sx1).trans y30
            have qa1 : WB.cell? ⟨w.heap.size, 1, none⟩ = some (.int .i64 e) := (hda.cell (p := ⟨w.heap.size, 1, none⟩) sx2).trans q1
            have qa2 : WB.cell? ⟨w.heap.size, 2, none⟩ = some (.slice (some ⟨bs, os, none⟩) x c1) := (hda.cell (p := ⟨w.heap.size, 2, none⟩) sx2).trans q2
            have qa3 : WB.cell? ⟨bs, os + k', none⟩ = some (.int .i64 sv) := (hda.cell (p := ⟨bs, os + k', none⟩) hls).trans hcs
            have hbl2 : wq.heap[w2.heap.size]? = some (.cells #[.int .i64 t, .int .i64 (e + 1), .slice an nn cn, .slice av nv cv, .slice b3 n3 d3] 29 (0, 0)) := (hg'.block _ (by omega) (by intro hq; have := (own_lt HA.out.2.1 hq.symm).1; omega)).trans ((hda.block _ (by omega)).trans xo)
            have y32 : wq.cell? ⟨w2.heap.size, 3, none⟩ = some (.slice av nv cv) := (by simp [World.cell?, hbl2])
            have f32 : ∀ o, wq.frozen? ⟨w2.heap.size, o, none⟩ = false := fun o => (by simp [World.frozen?, hbl2])
            have HP2 : Hid (OwnP wq w3.heap.size (.slice ax nx cx) (L ++ [(sv, e)])) := ho'
            have HK2 : Hid (Kept (fun j => j = w2.heap.size) w3 wq) := ⟨hg'.os.trans (hda.os.trans HA.out.2.2.os), hg'.tape.trans (hda.tape.trans HA.out.2.2.tape), hg'.output.trans (hda.output.trans HA.out.2.2.output), Nat.le_trans s4 (Nat.le_trans hda.size hg'.size), fun g hg hS => (hg'.block g (by omega) (by intro hq; have := (own_lt HA.out.2.1 hq.symm).1; omega)).trans ((hda.block g (by omega)).trans (HA.out.2.2.block g hg hS))⟩
            have HX2 : Hid (wq.heap[w2.heap.size]? = some (.cells #[.int .i64 t, .int .i64 (e + 1), .slice an nn cn, .slice av nv cv, .slice b3 n3 d3] 29 (0, 0))) := hbl2
            clear ho' hg' hda xo hbl2 hnb
            go_wp2_with fail
            go_region_law (first | (refine step_append_run (by rfl) _ _ _ _ (by rfl) _ _ (by rfl) (by rfl) _ _ hr' ?_))
            all_goals
              go_wp2
              go_roundw
              case rel => exact ⟨k' + 1, i, by omega, by omega, by go_num, by go_num, _, L ++ [(sv, e)], HN.out, slab_set HX2.out _, own_keep HP2.out (fun g hg _ => Below.heap_setCell _ _ _ _ (by show g ≠ w2.heap.size; omega)), HK2.out.set _ rfl⟩
              case measure => simp [intOf]; omega
          · have hs1 : decide (sv < pg) = false := decide_eq_false hsp
            have HN : Hid (L ++ [(pg, pe)] ++ mer e (ss.drop k') (ps.drop (i + 1)) = mer e ss ps) := by show _ = _; rw [← HL.out, HDI.out, HDP.out, mer_ge e sv _ (pg, pe) _ hsp]; simp
            go_wp2_with fail
            go_quiet (fail)
            obtain ⟨WB, hWB⟩ : ∃ WB, (wx.drewN (nq + 1)).alloc (.cells #[.int .i64 pg, .int .i64 pe] 88) = WB := ⟨_, rfl⟩
            have hda : Below wx.heap.size wx WB := hWB ▸ (below_drewN (Below.refl _ wx) (nq + 1)).alloc (Nat.le_refl _) _
            have zB : WB.heap.size = wx.heap.size + 1 := by rw [← hWB]; show (wx.heap.push _).size = _; simp
            have hnb : WB.heap[wx.heap.size]? = some (.cells #[.int .i64 pg, .int .i64 pe] 88 (0, 0)) := hWB ▸ heap_new' _ _ _ rfl
            obtain ⟨v', wq, hr', ho', hg'⟩ := app_held (.slice av nv cv) L WB w3.heap.size (own_keep HA.out.2.1 (fun g _ hl => hda.block g hl)) HLK.out (pg, pe) wx.heap.size hnb (by omega)
            obtain ⟨ax, nx, cx, rfl⟩ := own_shr ho'
            have xo := HA.out.1
            have y30 : wx.cell? ⟨w2.heap.size, 3, none⟩ = some (.slice av nv cv) := (by simp [World.cell?, xo])
            have y31 : WB.cell? ⟨w2.heap.size, 3, none⟩ = some (.slice av nv cv) := (hda.cell (p := ⟨w2.heap.size, 3, none⟩) sx1).trans y30
            have qa2 : WB.cell? ⟨w.heap.size, 3, none⟩ = some (.slice (some ⟨b, off, none⟩) z c2) := (hda.cell (p := ⟨w.heap.size, 3, none⟩) sx2).trans q3
            have qa3 : WB.cell? ⟨b, off + i * 2, none⟩ = some (.int .i64 pg) := (hda.cell (p := ⟨b, off + i * 2, none⟩) hlb).trans hc0
            have qa4 : WB.cell? ⟨b, off + i * 2 + 1, none⟩ = some (.int .i64 pe) := (hda.cell (p := ⟨b, off + i * 2 + 1, none⟩) hlb).trans hc1
            have hbl2 : wq.heap[w2.heap.size]? = some (.cells #[.int .i64 t, .int .i64 (e + 1), .slice an nn cn, .slice av nv cv, .slice b3 n3 d3] 29 (0, 0)) := (hg'.block _ (by omega) (by intro hq; have := (own_lt HA.out.2.1 hq.symm).1; omega)).trans ((hda.block _ (by omega)).trans xo)
            have y32 : wq.cell? ⟨w2.heap.size, 3, none⟩ = some (.slice av nv cv) := (by simp [World.cell?, hbl2])
            have f32 : ∀ o, wq.frozen? ⟨w2.heap.size, o, none⟩ = false := fun o => (by simp [World.frozen?, hbl2])
            have HP2 : Hid (OwnP wq w3.heap.size (.slice ax nx cx) (L ++ [(pg, pe)])) := ho'
            have HK2 : Hid (Kept (fun j => j = w2.heap.size) w3 wq) := ⟨hg'.os.trans (hda.os.trans HA.out.2.2.os), hg'.tape.trans (hda.tape.trans HA.out.2.2.tape), hg'.output.trans (hda.output.trans HA.out.2.2.output), Nat.le_trans s4 (Nat.le_trans hda.size hg'.size), fun g hg hS => (hg'.block g (by omega) (by intro hq; have := (own_lt HA.out.2.1 hq.symm).1; omega)).trans ((hda.block g (by omega)).trans (HA.out.2.2.block g hg hS))⟩
            have HX2 : Hid (wq.heap[w2.heap.size]? = some (.cells #[.int .i64 t, .int .i64 (e + 1), .slice an nn cn, .slice av nv cv, .slice b3 n3 d3] 29 (0, 0))) := hbl2
            clear ho' hg' hda xo hbl2 hnb
            go_wp2_with fail
            go_region_law (first | (refine step_append_run (by rfl) _ _ _ _ (by rfl) _ _ (by rfl) (by rfl) _ _ hr' ?_))
            all_goals
              go_wp2
              go_roundw
              case rel => exact ⟨k', i + 1, by omega, by omega, by go_num, by go_num, _, L ++ [(pg, pe)], HN.out, slab_set HX2.out _, own_keep HP2.out (fun g hg _ => Below.heap_setCell _ _ _ _ (by show g ≠ w2.heap.size; omega)), HK2.out.set _ rfl⟩
              case measure => simp [intOf]; omega
        · obtain rfl : k' = x := by omega
          have hx1 : decide ((k' : Int) < (k' : Int)) = false := decide_eq_false (by omega)
          have hx2 : decide (k' < k') = false := decide_eq_false (by omega)
          have HN : Hid (L ++ [(pg, pe)] ++ mer e (ss.drop k') (ps.drop (i + 1)) = mer e ss ps) := by show _ = _; rw [← HL.out, HDP.out, List.drop_eq_nil_of_le (by rw [HX.out]; exact Nat.le_refl _), mer_nil, mer_nil]; simp
          go_wp2_with fail
          go_quiet (fail)
          obtain ⟨WB, hWB⟩ : ∃ WB, (wx.drewN (nq + 1)).alloc (.cells #[.int .i64 pg, .int .i64 pe] 88) = WB := ⟨_, rfl⟩
          have hda : Below wx.heap.size wx WB := hWB ▸ (below_drewN (Below.refl _ wx) (nq + 1)).alloc (Nat.le_refl _) _
          have zB : WB.heap.size = wx.heap.size + 1 := by rw [← hWB]; show (wx.heap.push _).size = _; simp
          have hnb : WB.heap[wx.heap.size]? = some (.cells #[.int .i64 pg, .int .i64 pe] 88 (0, 0)) := hWB ▸ heap_new' _ _ _ rfl
          obtain ⟨v', wq, hr', ho', hg'⟩ := app_held (.slice av nv cv) L WB w3.heap.size (own_keep HA.out.2.1 (fun g _ hl => hda.block g hl)) HLK.out (pg, pe) wx.heap.size hnb (by omega)
          obtain ⟨ax, nx, cx, rfl⟩ := own_shr ho'
          have xo := HA.out.1
          have y30 : wx.cell? ⟨w2.heap.size, 3, none⟩ = some (.slice av nv cv) := (by simp [World.cell?, xo])
          have y31 : WB.cell? ⟨w2.heap.size, 3, none⟩ = some (.slice av nv cv) := (hda.cell (p := ⟨w2.heap.size, 3, none⟩) sx1).trans y30
          have qa2 : WB.cell? ⟨w.heap.size, 3, none⟩ = some (.slice (some ⟨b, off, none⟩) z c2) := (hda.cell (p := ⟨w.heap.size, 3, none⟩) sx2).trans q3
          have qa3 : WB.cell? ⟨b, off + i * 2, none⟩ = some (.int .i64 pg) := (hda.cell (p := ⟨b, off + i * 2, none⟩) hlb).trans hc0
          have qa4 : WB.cell? ⟨b, off + i * 2 + 1, none⟩ = some (.int .i64 pe) := (hda.cell (p := ⟨b, off + i * 2 + 1, none⟩) hlb).trans hc1
          have hbl2 : wq.heap[w2.heap.size]? = some (.cells #[.int .i64 t, .int .i64 (e + 1), .slice an nn cn, .slice av nv cv, .slice b3 n3 d3] 29 (0, 0)) := (hg'.block _ (by omega) (by intro hq; have := (own_lt HA.out.2.1 hq.symm).1; omega)).trans ((hda.block _ (by omega)).trans xo)
          have y32 : wq.cell? ⟨w2.heap.size, 3, none⟩ = some (.slice av nv cv) := (by simp [World.cell?, hbl2])
          have f32 : ∀ o, wq.frozen? ⟨w2.heap.size, o, none⟩ = false := fun o => (by simp [World.frozen?, hbl2])
          have HP2 : Hid (OwnP wq w3.heap.size (.slice ax nx cx) (L ++ [(pg, pe)])) := ho'
          have HK2 : Hid (Kept (fun j => j = w2.heap.size) w3 wq) := ⟨hg'.os.trans (hda.os.trans HA.out.2.2.os), hg'.tape.trans (hda.tape.trans HA.out.2.2.tape), hg'.output.trans (hda.output.trans HA.out.2.2.output), Nat.le_trans s4 (Nat.le_trans hda.size hg'.size), fun g hg hS => (hg'.block g (by omega) (by intro hq; have := (own_lt HA.out.2.1 hq.symm).1; omega)).trans ((hda.block g (by omega)).trans (HA.out.2.2.block g hg hS))⟩
          have HX2 : Hid (wq.heap[w2.heap.size]? = some (.cells #[.int .i64 t, .int .i64 (e + 1), .slice an nn cn, .slice av nv cv, .slice b3 n3 d3] 29 (0, 0))) := hbl2
          clear ho' hg' hda xo hbl2 hnb
          go_wp2_with fail
          go_region_law (first | (refine step_append_run (by rfl) _ _ _ _ (by rfl) _ _ (by rfl) (by rfl) _ _ hr' ?_))
          all_goals
            go_wp2
            go_roundw
            case rel => exact ⟨k', i + 1, by omega, by omega, by go_num, by go_num, _, L ++ [(pg, pe)], HN.out, slab_set HX2.out _, own_keep HP2.out (fun g hg _ => Below.heap_setCell _ _ _ _ (by show g ≠ w2.heap.size; omega)), HK2.out.set _ rfl⟩
            case measure => simp [intOf]; omega
      · obtain rfl : i = z := by omega
        by_cases hx : k' < x
        · have hxI : (k' : Int) < (x : Int) := by omega
          obtain ⟨a1', c1', e1, r1⟩ := (HR1.out.below HBX.out).row
          injection e1 with e1a e1b e1c
          subst e1a e1c
          clear e1b
          obtain ⟨bs, os, rfl, hls, hcs⟩ := r1 k' (by rw [HX.out]; exact hx)
          clear r1
          have HDI : Hid (ss.drop k' = nthI ss k' :: ss.drop (k' + 1)) := dropI (by rw [HX.out]; exact hx)
          obtain ⟨sv, hsv⟩ : ∃ sv, nthI ss k' = sv := ⟨_, rfl⟩
          rw [hsv] at HDI hcs
          clear hsv
          have HN : Hid (L ++ [(sv, e)] ++ mer e (ss.drop (k' + 1)) (ps.drop i) = mer e ss ps) := by show _ = _; have e0 : ps.drop i = [] := List.drop_eq_nil_of_le (by rw [HZ.out]; exact Nat.le_refl _); rw [← HL.out, HDI.out, e0, mer_now]; simp
          go_wp2_with fail
          go_quiet (fail)
          obtain ⟨WB, hWB⟩ : ∃ WB, (wx.drewN (nq + 1)).alloc (.cells #[.int .i64 sv, .int .i64 e] 88) = WB := ⟨_, rfl⟩
          have hda : Below wx.heap.size wx WB := hWB ▸ (below_drewN (Below.refl _ wx) (nq + 1)).alloc (Nat.le_refl _) _
          have zB : WB.heap.size = wx.heap.size + 1 := by rw [← hWB]; show (wx.heap.push _).size = _; simp
          have hnb : WB.heap[wx.heap.size]? = some (.cells #[.int .i64 sv, .int .i64 e] 88 (0, 0)) := hWB ▸ heap_new' _ _ _ rfl
          obtain ⟨v', wq, hr', ho', hg'⟩ := app_held (.slice av nv cv) L WB w3.heap.size (own_keep HA.out.2.1 (fun g _ hl => hda.block g hl)) HLK.out (sv, e) wx.heap.size hnb (by omega)
          obtain ⟨ax, nx, cx, rfl⟩ := own_shr ho'
          have xo := HA.out.1
          have y30 : wx.cell? ⟨w2.heap.size, 3, none⟩ = some (.slice av nv cv) := (by simp [World.cell?, xo])
          have y31 : WB.cell? ⟨w2.heap.size, 3, none⟩ = some (.slice av nv cv) := (hda.cell (p := ⟨w2.heap.size, 3, none⟩) sx1).trans y30
          have qa1 : WB.cell? ⟨w.heap.size, 1, none⟩ = some (.int .i64 e) := (hda.cell (p := ⟨w.heap.size, 1, none⟩) sx2).trans q1
          have qa2 : WB.cell? ⟨w.heap.size, 2, none⟩ = some (.slice (some ⟨bs, os, none⟩) x c1) := (hda.cell (p := ⟨w.heap.size, 2, none⟩) sx2).trans q2
          have qa3 : WB.cell? ⟨bs, os + k', none⟩ = some (.int .i64 sv) := (hda.cell (p := ⟨bs, os + k', none⟩) hls).trans hcs
          have hbl2 : wq.heap[w2.heap.size]? = some (.cells #[.int .i64 t, .int .i64 (e + 1), .slice an nn cn, .slice av nv cv, .slice b3 n3 d3] 29 (0, 0)) := (hg'.block _ (by omega) (by intro hq; have := (own_lt HA.out.2.1 hq.symm).1; omega)).trans ((hda.block _ (by omega)).trans xo)
          have y32 : wq.cell? ⟨w2.heap.size, 3, none⟩ = some (.slice av nv cv) := (by simp [World.cell?, hbl2])
          have f32 : ∀ o, wq.frozen? ⟨w2.heap.size, o, none⟩ = false := fun o => (by simp [World.frozen?, hbl2])
          have HP2 : Hid (OwnP wq w3.heap.size (.slice ax nx cx) (L ++ [(sv, e)])) := ho'
          have HK2 : Hid (Kept (fun j => j = w2.heap.size) w3 wq) := ⟨hg'.os.trans (hda.os.trans HA.out.2.2.os), hg'.tape.trans (hda.tape.trans HA.out.2.2.tape), hg'.output.trans (hda.output.trans HA.out.2.2.output), Nat.le_trans s4 (Nat.le_trans hda.size hg'.size), fun g hg hS => (hg'.block g (by omega) (by intro hq; have := (own_lt HA.out.2.1 hq.symm).1; omega)).trans ((hda.block g (by omega)).trans (HA.out.2.2.block g hg hS))⟩
          have HX2 : Hid (wq.heap[w2.heap.size]? = some (.cells #[.int .i64 t, .int .i64 (e + 1), .slice an nn cn, .slice av nv cv, .slice b3 n3 d3] 29 (0, 0))) := hbl2
          clear ho' hg' hda xo hbl2 hnb
          go_wp2_with fail
          go_region_law (first | (refine step_append_run (by rfl) _ _ _ _ (by rfl) _ _ (by rfl) (by rfl) _ _ hr' ?_))
          all_goals
            go_wp2
            go_roundw
            case rel => exact ⟨k' + 1, i, by omega, by omega, by go_num, by go_num, _, L ++ [(sv, e)], HN.out, slab_set HX2.out _, own_keep HP2.out (fun g hg _ => Below.heap_setCell _ _ _ _ (by show g ≠ w2.heap.size; omega)), HK2.out.set _ rfl⟩
            case measure => simp [intOf]; omega
        · obtain rfl : k' = x := by omega
          have HN : Hid (L = mer e ss ps) := by show _ = _; rw [← HL.out, List.drop_eq_nil_of_le (by rw [HX.out]; exact Nat.le_refl _), List.drop_eq_nil_of_le (by rw [HZ.out]; exact Nat.le_refl _), mer_nil]; simp
          go_wp2_with fail
          have hkc : (k : Int) ≤ (cf : Int) := by omega
          have hkn : (k : Int) ≤ (nf : Int) := by omega
          have hk00 : (0 : Int) ≤ (k : Int) := by omega
          have HIN : Hid (wx.heap[w2.heap.size]? = some (.cells #[.int .i64 t, .int .i64 (e + 1), .slice an nn cn, .slice av nv cv, .slice b3 n3 d3] 29 (0, 0))) := HA.out.1
          have HML : Hid ((mer e ss ps).length ≤ 1048576) := by show _ ≤ _; rw [mer_len]; have := ZK.out; omega
          have OV : Hid (OwnP wx w3.heap.size (.slice av nv cv) (mer e ss ps)) := by show OwnP _ _ _ _; rw [← HN.out]; exact HA.out.2.1
          have ONx : Hid (OwnI wx (w2.heap.size + 1) (.slice an nn cn) ((freeK (usedB ss ps) t).take k)) := own_keep ON.out (fun g hg hl => HA.out.2.2.block g hl (by show ¬ g = w2.heap.size; omega))
          have O3x : Hid (OwnI wx w1.heap.size (.slice b3 n3 d3) qs) := own_keep O3.out (fun g hg hl => (HA.out.2.2.block g (by omega) (by show ¬ g = w2.heap.size; omega)).trans (B23.block g hl))
          have OCx : Hid (OwnI wx W0.heap.size (.slice af k cf) ((freeK (usedB ss ps) t).take k)) := own_keep OC2.out (fun g hg hl => (HA.out.2.2.block g (by omega) (by show ¬ g = w2.heap.size; omega)).trans (B23.block g hl))
          have HXR : Hid (wx.heap[w.heap.size + 1]? = some (.cells #[.int .i64 0, .int .i64 0, .slice none 0 0, .slice none 0 0, .slice none 0 0] 29 (0, 0))) := (HA.out.2.2.block _ (by omega) (by show ¬ _ = _; omega)).trans (keepBlk XR2.out B23 (by omega))
          have HXQ : Hid (wx.heap[w.heap.size + 1 + 1]? = some (.cells #[.int .i64 0, .slice none 0 0] 37 (0, 0))) := (HA.out.2.2.block _ (by omega) (by show ¬ _ = _; omega)).trans (keepBlk XQ2.out B23 (by omega))
          have bd : Below wx.heap.size wx wx.drew := below_draw
          have ba : Below wx.heap.size wx ((wx.alloc (.cells #[] 3)).drew) := (below_draw (w := wx)).alloc (Nat.le_refl _) _
          have T0 : Hid (Box5 w2.heap.size t (e + 1) (.slice an nn cn) (.slice av nv cv) (.slice b3 n3 d3) wx.drew) := box5_of (keepBlk HIN.out bd sx1)
          have T0a : Hid (Box5 w2.heap.size t (e + 1) (.slice an nn cn) (.slice av nv cv) (.slice b3 n3 d3) ((wx.alloc (.cells #[] 3)).drew)) := box5_of (keepBlk HIN.out ba sx1)
          go_region_held3 (Box5 w2.heap.size t (e + 1) (.slice an nn cn) (.slice av nv cv) (.slice b3 n3 d3)) (with_reducible (first | exact T0.out | exact T0a.out | exact T5.out | exact T5a.out | (repeat (first | exact T6.out | refine box5_set ?_ (by omega))))) (first
            | (go_at_call 68; (with_reducible refine (release_any t (e + 1) (.slice an nn cn) (.slice av nv cv) (.slice b3 n3 d3) ((freeK (usedB ss ps) t).take k) (mer e ss ps) qs wx.drew ((ONx.out.read).below bd) ((OwnP.read OV.out).below bd) ((O3x.out.read).below bd) HTL.out HML.out HL3.out (by omega) (by omega)).mono ?_); rintro r w5 ⟨y1, y2, y3, rfl, p1, p2, p3, b5⟩; have c5 : Below wx.heap.size wx w5 := bd.trans b5; have n5 : wx.heap.size ≤ w5.heap.size := c5.size; (obtain ⟨e1, m1, g1, rfl⟩ := own_shr p1); (obtain ⟨e2, m2, g2, rfl⟩ := own_shr p2); (obtain ⟨e3, m3, g3, rfl⟩ := own_shr p3); have T5 : Hid (Box5 w2.heap.size t (e + 1) (.slice an nn cn) (.slice av nv cv) (.slice b3 n3 d3) w5) := box5_of (keepBlk HIN.out c5 sx1); have T5a : Hid (Box5 w2.heap.size t (e + 1) (.slice an nn cn) (.slice av nv cv) (.slice b3 n3 d3) (w5.alloc (.cells #[] 3))) := box5_of (keepBlk HIN.out (c5.alloc n5 _) sx1); have HP5 : Hid (OwnI w5 wx.heap.size (.slice e1 m1 g1) ((freeK (usedB ss ps) t).take k) ∧ OwnP w5 wx.heap.size (.slice e2 m2 g2) (relP (e + 1) qs (mer e ss ps)) ∧ OwnI w5 wx.heap.size (.slice e3 m3 g3) qs) := ⟨p1, p2, p3⟩; have C5 : Hid (Below wx.heap.size wx w5) := c5; clear p1 p2 p3 b5 c5; (obtain ⟨u4, w6, hr6, o6, g6, _⟩ := app_I (.slice af k cf) ((freeK (usedB ss ps) t).take k) (w5.alloc (.cells #[] 3)) ((OCx.out.read).below (C5.out.alloc C5.out.size _)) HTL.out w5.heap.size (heap_new' _ _ _ rfl) wx.heap.size C5.out.size); (obtain ⟨e4, m4, g4, rfl⟩ := own_shr o6); have c6 : Below wx.heap.size wx w6 := (C5.out.alloc C5.out.size _).grown g6 (by first | (simp; done) | (simp; omega) | omega) (fun q hq => by cases hq; exact C5.out.size); have T6 : Hid (Box5 w2.heap.size t (e + 1) (.slice an nn cn) (.slice av nv cv) (.slice b3 n3 d3) w6) := box5_of (keepBlk HIN.out c6 sx1); have HP6 : Hid ((OwnI w6 wx.heap.size (.slice e1 m1 g1) ((freeK (usedB ss ps) t).take k) ∧ OwnP w6 wx.heap.size (.slice e2 m2 g2) (relP (e + 1) qs (mer e ss ps)) ∧ OwnI w6 wx.heap.size (.slice e3 m3 g3) qs) ∧ OwnI w6 wx.heap.size (.slice e4 m4 g4) ((freeK (usedB ss ps) t).take k) ∧ Below wx.heap.size wx w6) := ⟨⟨own_keep HP5.out.1 (fun g hg hl => (g6.block g (by first | (simp; done) | (simp; omega) | omega) (by first | (simp; done) | (simp; omega) | omega)).trans (heap_old _ _ _ hl)), own_keep HP5.out.2.1 (fun g hg hl => (g6.block g (by first | (simp; done) | (simp; omega) | omega) (by first | (simp; done) | (simp; omega) | omega)).trans (heap_old _ _ _ hl)), own_keep HP5.out.2.2 (fun g hg hl => (g6.block g (by first | (simp; done) | (simp; omega) | omega) (by first | (simp; done) | (simp; omega) | omega)).trans (heap_old _ _ _ hl))⟩, o6, c6⟩; have xr6 := keepBlk HXR.out c6 (by omega); have xq6 := keepBlk HXQ.out c6 (by omega); have cr0w6 : w6.cell? ⟨w.heap.size + 1, 0, none⟩ = some (.int .i64 0) := (by simp [World.cell?, xr6]); have cr1w6 : w6.cell? ⟨w.heap.size + 1, 1, none⟩ = some (.int .i64 0) := (by simp [World.cell?, xr6]); have cr2w6 : w6.cell? ⟨w.heap.size + 1, 2, none⟩ = some (.slice none 0 0) := (by simp [World.cell?, xr6]); have cr3w6 : w6.cell? ⟨w.heap.size + 1, 3, none⟩ = some (.slice none 0 0) := (by simp [World.cell?, xr6]); have cr4w6 : w6.cell? ⟨w.heap.size + 1, 4, none⟩ = some (.slice none 0 0) := (by simp [World.cell?, xr6]); have frw6 : ∀ o, w6.frozen? ⟨w.heap.size + 1, o, none⟩ = false := fun o => (by simp [World.frozen?, xr6]); have cq0w6 : w6.cell? ⟨w.heap.size + 1 + 1, 0, none⟩ = some (.int .i64 0) := (by simp [World.cell?, xq6]); have cq1w6 : w6.cell? ⟨w.heap.size + 1 + 1, 1, none⟩ = some (.slice none 0 0) := (by simp [World.cell?, xq6]); have fqw6 : ∀ o, w6.frozen? ⟨w.heap.size + 1 + 1, o, none⟩ = false := fun o => (by simp [World.frozen?, xq6]); clear o6 g6 c6 xr6 xq6)
            | (go_at_call 68; (with_reducible refine (release_any t (e + 1) (.slice an nn cn) (.slice av nv cv) (.slice b3 n3 d3) ((freeK (usedB ss ps) t).take k) (mer e ss ps) qs ((wx.alloc (.cells #[] 3)).drew) ((ONx.out.read).below ba) ((OwnP.read OV.out).below ba) ((O3x.out.read).below ba) HTL.out HML.out HL3.out (by omega) (by omega)).mono ?_); rintro r w5 ⟨y1, y2, y3, rfl, p1, p2, p3, b5⟩; have c5 : Below wx.heap.size wx w5 := ba.trans (b5.mono (by first | (simp; done) | (simp; omega) | omega)); have n5 : wx.heap.size + 1 ≤ w5.heap.size := (by have := b5.size; simp at this; omega); (obtain ⟨e1, m1, g1, rfl⟩ := own_shr p1); (obtain ⟨e2, m2, g2, rfl⟩ := own_shr p2); (obtain ⟨e3, m3, g3, rfl⟩ := own_shr p3); have T5 : Hid (Box5 w2.heap.size t (e + 1) (.slice an nn cn) (.slice av nv cv) (.slice b3 n3 d3) w5) := box5_of (keepBlk HIN.out c5 sx1); have HP5 : Hid (OwnI w5 (wx.heap.size + 1) (.slice e1 m1 g1) ((freeK (usedB ss ps) t).take k) ∧ OwnP w5 (wx.heap.size + 1) (.slice e2 m2 g2) (relP (e + 1) qs (mer e ss ps)) ∧ OwnI w5 (wx.heap.size + 1) (.slice e3 m3 g3) qs) := ⟨own_mono p1 (by first | (simp; done) | (simp; omega) | omega), own_mono p2 (by first | (simp; done) | (simp; omega) | omega), own_mono p3 (by first | (simp; done) | (simp; omega) | omega)⟩; have C5 : Hid (Below wx.heap.size wx w5) := c5; have HG5 : Hid (w5.heap[wx.heap.size]? = some (.cells #[] 3 (0, 0))) := (b5.block _ (by first | (simp; done) | (simp; omega) | omega)).trans (heap_new' _ _ _ rfl); clear p1 p2 p3 b5 c5; (obtain ⟨u4, w6, hr6, o6, g6, _⟩ := app_I (.slice af k cf) ((freeK (usedB ss ps) t).take k) w5 ((OCx.out.read).below C5.out) HTL.out wx.heap.size HG5.out wx.heap.size (Nat.le_refl _)); (obtain ⟨e4, m4, g4, rfl⟩ := own_shr o6); have c6 : Below wx.heap.size wx w6 := C5.out.grown g6 C5.out.size (fun q hq => by cases hq; exact Nat.le_refl _); have T6 : Hid (Box5 w2.heap.size t (e + 1) (.slice an nn cn) (.slice av nv cv) (.slice b3 n3 d3) w6) := box5_of (keepBlk HIN.out c6 sx1); have HP6 : Hid ((OwnI w6 wx.heap.size (.slice e1 m1 g1) ((freeK (usedB ss ps) t).take k) ∧ OwnP w6 wx.heap.size (.slice e2 m2 g2) (relP (e + 1) qs (mer e ss ps)) ∧ OwnI w6 wx.heap.size (.slice e3 m3 g3) qs) ∧ OwnI w6 wx.heap.size (.slice e4 m4 g4) ((freeK (usedB ss ps) t).take k) ∧ Below wx.heap.size wx w6) := ⟨⟨own_mono (own_keep HP5.out.1 (fun g hg hl => g6.block g hl (by first | (simp; done) | (simp; omega) | omega))) (by omega), own_mono (own_keep HP5.out.2.1 (fun g hg hl => g6.block g hl (by first | (simp; done) | (simp; omega) | omega))) (by omega), own_mono (own_keep HP5.out.2.2 (fun g hg hl => g6.block g hl (by first | (simp; done) | (simp; omega) | omega))) (by omega)⟩, o6, c6⟩; have xr6 := keepBlk HXR.out c6 (by omega); have xq6 := keepBlk HXQ.out c6 (by omega); have cr0w6 : w6.cell? ⟨w.heap.size + 1, 0, none⟩ = some (.int .i64 0) := (by simp [World.cell?, xr6]); have cr1w6 : w6.cell? ⟨w.heap.size + 1, 1, none⟩ = some (.int .i64 0) := (by simp [World.cell?, xr6]); have cr2w6 : w6.cell? ⟨w.heap.size + 1, 2, none⟩ = some (.slice none 0 0) := (by simp [World.cell?, xr6]); have cr3w6 : w6.cell? ⟨w.heap.size + 1, 3, none⟩ = some (.slice none 0 0) := (by simp [World.cell?, xr6]); have cr4w6 : w6.cell? ⟨w.heap.size + 1, 4, none⟩ = some (.slice none 0 0) := (by simp [World.cell?, xr6]); have frw6 : ∀ o, w6.frozen? ⟨w.heap.size + 1, o, none⟩ = false := fun o => (by simp [World.frozen?, xr6]); have cq0w6 : w6.cell? ⟨w.heap.size + 1 + 1, 0, none⟩ = some (.int .i64 0) := (by simp [World.cell?, xq6]); have cq1w6 : w6.cell? ⟨w.heap.size + 1 + 1, 1, none⟩ = some (.slice none 0 0) := (by simp [World.cell?, xq6]); have fqw6 : ∀ o, w6.frozen? ⟨w.heap.size + 1 + 1, o, none⟩ = false := fun o => (by simp [World.frozen?, xq6]); clear o6 g6 c6 xr6 xq6)
            | (refine step_append_run (by rfl) _ _ _ _ (by rfl) _ _ (by rfl) (by rfl) _ _ hr6 ?_)
            | fail)
          all_goals
            try clear T6
            go_wp2
            refine bodyPost_ret (v := .tuple #[SV t (e + 1) (.slice e1 m1 g1) (.slice e2 m2 g2) (.slice e3 m3 g3), .agg #[.int .i64 0, .slice e4 m4 g4]]) (by go_simp; simp [results, Try.results67, go_sem, cr0w6, cr1w6, cr2w6, cr3w6, cr4w6, cq0w6, cq1w6]) rfl ⟨_, _, _, _, rfl, .inr (res_own HP6.out.1.1 (by omega) (by omega) _ _ _ _ _ _ _), .inr (res_own HP6.out.1.2.1 (by omega) (by omega) _ _ _ _ _ _ _), .inr (res_own HP6.out.1.2.2 (by omega) (by omega) _ _ _ _ _ _ _), res_own HP6.out.2.1 (by omega) (by omega) _ _ _ _ _ _ _, res_below (HBX.out.trans (HP6.out.2.2.mono (by omega))) (by omega) _ _ _ _ _ _ _⟩
end Go.Proofs.Ytaklphoplfofbaa
