/- A copy of a space, its lists apart (stage 4). -/
import Derived.Test.YtaklphoplfofbaaStF
namespace Go.Proofs.Ytaklphoplfofbaa
open Go.RowKit

set_option maxRecDepth 100000 in
set_option maxHeartbeats 4000000 in
theorem copySpace_sep (t e : Int) (p1 p2 p3 : Addr) (c1 c2 c3 : Nat) (ss : List Int) (ps : List P2) (qs : List Int) (w : World) (h1 : RowI w (some p1) ss) (h2 : RowP w (some p2) ps) (h3 : RowI w (some p3) qs) (l1 : ss.length ≤ 1048576) (l2 : ps.length ≤ 1048576) (l3 : qs.length ≤ 1048576) :
    Calls Try.prog 60 #[SV t e (.slice (some p1) ss.length c1) (.slice (some p2) ps.length c2) (.slice (some p3) qs.length c3)] w fun r w' => ∃ v1 v2 v3, r = .returned (SV t e v1 v2 v3) ∧ OwnI w' w.heap.size v1 ss ∧ OwnP w' w.heap.size v2 ps ∧ OwnI w' w.heap.size v3 qs ∧ SepN 0 v1 v3 ∧ Below w.heap.size w w' := by
  have H1 : Hid (RowI w (some p1) ss) := h1
  have H2 : Hid (RowP w (some p2) ps) := h2
  have H3 : Hid (RowI w (some p3) qs) := h3
  have M1 : Hid (ss.length ≤ 1048576) := l1
  have M2 : Hid (ps.length ≤ 1048576) := l2
  have M3 : Hid (qs.length ≤ 1048576) := l3
  clear h1 h2 h3 l1 l2 l3
  obtain ⟨W0, hW0⟩ : ∃ W0, ((w.alloc (SC t e (.slice (some p1) ss.length c1) (.slice (some p2) ps.length c2) (.slice (some p3) qs.length c3) 29)).alloc (.cells #[.int .i64 0, .int .i64 0, .slice none 0 0, .slice none 0 0, .slice none 0 0] 29)) = W0 := ⟨_, rfl⟩
  have B0 : Below w.heap.size w W0 := hW0 ▸ (((Below.refl _ _).alloc (Nat.le_refl _) _).alloc (by simp) _)
  have z0 : W0.heap.size = w.heap.size + 2 := by rw [← hW0]; simp
  have xbW0 : W0.heap[w.heap.size]? = some (.cells #[.int .i64 t, .int .i64 e, .slice (some p1) ss.length c1, .slice (some p2) ps.length c2, .slice (some p3) qs.length c3] 29 (0, 0)) := by
    rw [← hW0]
    exact (heap_old _ _ _ (by simp)).trans (heap_new' _ _ _ rfl)
  have xrW0 : W0.heap[w.heap.size + 1]? = some (.cells #[.int .i64 0, .int .i64 0, .slice none 0 0, .slice none 0 0, .slice none 0 0] 29 (0, 0)) := by
    rw [← hW0]
    exact heap_new' _ _ _ (by simp)
  have cb0W0 : W0.cell? ⟨w.heap.size, 0, none⟩ = some (.int .i64 t) := by simp [World.cell?, xbW0]
  have cb1W0 : W0.cell? ⟨w.heap.size, 1, none⟩ = some (.int .i64 e) := by simp [World.cell?, xbW0]
  have cb2W0 : W0.cell? ⟨w.heap.size, 2, none⟩ = some (.slice (some p1) ss.length c1) := by simp [World.cell?, xbW0]
  have cb3W0 : W0.cell? ⟨w.heap.size, 3, none⟩ = some (.slice (some p2) ps.length c2) := by simp [World.cell?, xbW0]
  have cb4W0 : W0.cell? ⟨w.heap.size, 4, none⟩ = some (.slice (some p3) qs.length c3) := by simp [World.cell?, xbW0]
  have cr0W0 : W0.cell? ⟨w.heap.size + 1, 0, none⟩ = some (.int .i64 0) := by simp [World.cell?, xrW0]
  have cr1W0 : W0.cell? ⟨w.heap.size + 1, 1, none⟩ = some (.int .i64 0) := by simp [World.cell?, xrW0]
  have cr2W0 : W0.cell? ⟨w.heap.size + 1, 2, none⟩ = some (.slice none 0 0) := by simp [World.cell?, xrW0]
  have cr3W0 : W0.cell? ⟨w.heap.size + 1, 3, none⟩ = some (.slice none 0 0) := by simp [World.cell?, xrW0]
  have cr4W0 : W0.cell? ⟨w.heap.size + 1, 4, none⟩ = some (.slice none 0 0) := by simp [World.cell?, xrW0]
  have fbW0 : ∀ o, W0.frozen? ⟨w.heap.size, o, none⟩ = false := fun o => by simp [World.frozen?, xbW0]
  have frW0 : ∀ o, W0.frozen? ⟨w.heap.size + 1, o, none⟩ = false := fun o => by simp [World.frozen?, xrW0]
  go_enter Try.func60, Try.ntmps60
  go_wp2_with fail
  refine (cloneI_any p1 c1 ss W0 (H1.out.below B0) M1.out).mono ?_
  rintro r w1 ⟨VV1, rfl, ho1, hb1⟩
  obtain ⟨av1, cv1, rfl⟩ := own_shp ho1
  have n1 : W0.heap.size ≤ w1.heap.size := hb1.size
  clear cb0W0 cb1W0 cb2W0 cb3W0 cb4W0 cr0W0 cr1W0 cr2W0 cr3W0 cr4W0 fbW0 frW0
  obtain ⟨W1, hW1⟩ : ∃ W, w1.setCell ⟨w.heap.size, 2, none⟩ (.slice av1 ss.length cv1) = W := ⟨_, rfl⟩
  have z1 : W1.heap.size = w1.heap.size := by rw [← hW1]; simp [World.setCell]
  have hoth1 : ∀ g, g ≠ w.heap.size → W1.heap[g]? = w1.heap[g]? := fun g hg => by rw [← hW1]; exact Below.heap_setCell _ _ _ _ hg
  have B1 : Below w.heap.size w W1 := hW1 ▸ (B0.trans (hb1.mono B0.size)).setCell (p := ⟨w.heap.size, 2, none⟩) (by simp) _
  have xbW1 : W1.heap[w.heap.size]? = some (.cells #[.int .i64 t, .int .i64 e, (.slice av1 ss.length cv1), .slice (some p2) ps.length c2, .slice (some p3) qs.length c3] 29 (0, 0)) := by rw [← hW1]; exact slab_set ((hb1.block _ (by omega)).trans xbW0) _
  have xrW1 : W1.heap[w.heap.size + 1]? = some (.cells #[.int .i64 0, .int .i64 0, .slice none 0 0, .slice none 0 0, .slice none 0 0] 29 (0, 0)) := (hoth1 _ (by omega)).trans ((hb1.block _ (by omega)).trans xrW0)
  have xbw1 : w1.heap[w.heap.size]? = some (.cells #[.int .i64 t, .int .i64 e, .slice (some p1) ss.length c1, .slice (some p2) ps.length c2, .slice (some p3) qs.length c3] 29 (0, 0)) := (hb1.block _ (by omega)).trans xbW0
  have u1c : ∃ x, w1.cell? ⟨w.heap.size, 2, none⟩ = some x := ⟨_, by simp [World.cell?, xbw1]; rfl⟩
  obtain ⟨x1, u1⟩ := u1c
  have f1 : ∀ o, w1.frozen? ⟨w.heap.size, o, none⟩ = false := fun o => by simp [World.frozen?, xbw1]
  have K1_1 : Hid (World.ownsRow W1 (w.heap.size + 2) 3 1 (.slice av1 ss.length cv1) ss.length (ss.map (Value.int .i64))) := own_keep (own_mono ho1 (by omega)) (fun g hg _ => hoth1 g (by omega))
  clear xbw1 ho1 hb1 xbW0 xrW0 B0 hW0
  have cb0W1 : W1.cell? ⟨w.heap.size, 0, none⟩ = some (.int .i64 t) := by simp [World.cell?, xbW1]
  have cb1W1 : W1.cell? ⟨w.heap.size, 1, none⟩ = some (.int .i64 e) := by simp [World.cell?, xbW1]
  have cb2W1 : W1.cell? ⟨w.heap.size, 2, none⟩ = some ((.slice av1 ss.length cv1)) := by simp [World.cell?, xbW1]
  have cb3W1 : W1.cell? ⟨w.heap.size, 3, none⟩ = some (.slice (some p2) ps.length c2) := by simp [World.cell?, xbW1]
  have cb4W1 : W1.cell? ⟨w.heap.size, 4, none⟩ = some (.slice (some p3) qs.length c3) := by simp [World.cell?, xbW1]
  have cr0W1 : W1.cell? ⟨w.heap.size + 1, 0, none⟩ = some (.int .i64 0) := by simp [World.cell?, xrW1]
  have cr1W1 : W1.cell? ⟨w.heap.size + 1, 1, none⟩ = some (.int .i64 0) := by simp [World.cell?, xrW1]
  have cr2W1 : W1.cell? ⟨w.heap.size + 1, 2, none⟩ = some (.slice none 0 0) := by simp [World.cell?, xrW1]
  have cr3W1 : W1.cell? ⟨w.heap.size + 1, 3, none⟩ = some (.slice none 0 0) := by simp [World.cell?, xrW1]
  have cr4W1 : W1.cell? ⟨w.heap.size + 1, 4, none⟩ = some (.slice none 0 0) := by simp [World.cell?, xrW1]
  have fbW1 : ∀ o, W1.frozen? ⟨w.heap.size, o, none⟩ = false := fun o => by simp [World.frozen?, xbW1]
  have frW1 : ∀ o, W1.frozen? ⟨w.heap.size + 1, o, none⟩ = false := fun o => by simp [World.frozen?, xrW1]
  go_wp2_with fail
  refine (cloneP_any p2 c2 ps W1 (H2.out.below B1) M2.out).mono ?_
  rintro r w2 ⟨VV2, rfl, ho2, hb2⟩
  obtain ⟨av2, cv2, rfl⟩ := own_shp ho2
  have n2 : W1.heap.size ≤ w2.heap.size := hb2.size
  clear cb0W1 cb1W1 cb2W1 cb3W1 cb4W1 cr0W1 cr1W1 cr2W1 cr3W1 cr4W1 fbW1 frW1
  obtain ⟨W2, hW2⟩ : ∃ W, w2.setCell ⟨w.heap.size, 3, none⟩ (.slice av2 ps.length cv2) = W := ⟨_, rfl⟩
  have z2 : W2.heap.size = w2.heap.size := by rw [← hW2]; simp [World.setCell]
  have hoth2 : ∀ g, g ≠ w.heap.size → W2.heap[g]? = w2.heap[g]? := fun g hg => by rw [← hW2]; exact Below.heap_setCell _ _ _ _ hg
  have B2 : Below w.heap.size w W2 := hW2 ▸ (B1.trans (hb2.mono B1.size)).setCell (p := ⟨w.heap.size, 3, none⟩) (by simp) _
  have xbW2 : W2.heap[w.heap.size]? = some (.cells #[.int .i64 t, .int .i64 e, (.slice av1 ss.length cv1), (.slice av2 ps.length cv2), .slice (some p3) qs.length c3] 29 (0, 0)) := by rw [← hW2]; exact slab_set ((hb2.block _ (by omega)).trans xbW1) _
  have xrW2 : W2.heap[w.heap.size + 1]? = some (.cells #[.int .i64 0, .int .i64 0, .slice none 0 0, .slice none 0 0, .slice none 0 0] 29 (0, 0)) := (hoth2 _ (by omega)).trans ((hb2.block _ (by omega)).trans xrW1)
  have xbw2 : w2.heap[w.heap.size]? = some (.cells #[.int .i64 t, .int .i64 e, (.slice av1 ss.length cv1), .slice (some p2) ps.length c2, .slice (some p3) qs.length c3] 29 (0, 0)) := (hb2.block _ (by omega)).trans xbW1
  have u2c : ∃ x, w2.cell? ⟨w.heap.size, 3, none⟩ = some x := ⟨_, by simp [World.cell?, xbw2]; rfl⟩
  obtain ⟨x2, u2⟩ := u2c
  have f2 : ∀ o, w2.frozen? ⟨w.heap.size, o, none⟩ = false := fun o => by simp [World.frozen?, xbw2]
  have K1_2 : Hid (World.ownsRow W2 (w.heap.size + 2) 3 1 (.slice av1 ss.length cv1) ss.length (ss.map (Value.int .i64))) := own_keep K1_1.out (fun g hg hl => (hoth2 g (by omega)).trans (hb2.block g (by omega)))
  have K2_2 : Hid (World.ownsRow W2 (w.heap.size + 2) 88 2 (.slice av2 ps.length cv2) ps.length (cellsP ps)) := own_keep (own_mono ho2 (by omega)) (fun g hg _ => hoth2 g (by omega))
  clear xbw2 ho2 hb2 xbW1 xrW1 B1 K1_1
  have cb0W2 : W2.cell? ⟨w.heap.size, 0, none⟩ = some (.int .i64 t) := by simp [World.cell?, xbW2]
  have cb1W2 : W2.cell? ⟨w.heap.size, 1, none⟩ = some (.int .i64 e) := by simp [World.cell?, xbW2]
  have cb2W2 : W2.cell? ⟨w.heap.size, 2, none⟩ = some ((.slice av1 ss.length cv1)) := by simp [World.cell?, xbW2]
  have cb3W2 : W2.cell? ⟨w.heap.size, 3, none⟩ = some ((.slice av2 ps.length cv2)) := by simp [World.cell?, xbW2]
  have cb4W2 : W2.cell? ⟨w.heap.size, 4, none⟩ = some (.slice (some p3) qs.length c3) := by simp [World.cell?, xbW2]
  have cr0W2 : W2.cell? ⟨w.heap.size + 1, 0, none⟩ = some (.int .i64 0) := by simp [World.cell?, xrW2]
  have cr1W2 : W2.cell? ⟨w.heap.size + 1, 1, none⟩ = some (.int .i64 0) := by simp [World.cell?, xrW2]
  have cr2W2 : W2.cell? ⟨w.heap.size + 1, 2, none⟩ = some (.slice none 0 0) := by simp [World.cell?, xrW2]
  have cr3W2 : W2.cell? ⟨w.heap.size + 1, 3, none⟩ = some (.slice none 0 0) := by simp [World.cell?, xrW2]
  have cr4W2 : W2.cell? ⟨w.heap.size + 1, 4, none⟩ = some (.slice none 0 0) := by simp [World.cell?, xrW2]
  have fbW2 : ∀ o, W2.frozen? ⟨w.heap.size, o, none⟩ = false := fun o => by simp [World.frozen?, xbW2]
  have frW2 : ∀ o, W2.frozen? ⟨w.heap.size + 1, o, none⟩ = false := fun o => by simp [World.frozen?, xrW2]
  go_wp2_with fail
  refine (cloneI_any p3 c3 qs W2 (H3.out.below B2) M3.out).mono ?_
  rintro r w3 ⟨VV3, rfl, ho3, hb3⟩
  obtain ⟨av3, cv3, rfl⟩ := own_shp ho3
  have SP : Hid (SepN 0 (.slice av1 ss.length cv1) (.slice av3 qs.length cv3)) := sep_of K1_2.out ho3 (Nat.le_refl _) 0
  have n3 : W2.heap.size ≤ w3.heap.size := hb3.size
  clear cb0W2 cb1W2 cb2W2 cb3W2 cb4W2 cr0W2 cr1W2 cr2W2 cr3W2 cr4W2 fbW2 frW2
  obtain ⟨W3, hW3⟩ : ∃ W, w3.setCell ⟨w.heap.size, 4, none⟩ (.slice av3 qs.length cv3) = W := ⟨_, rfl⟩
  have z3 : W3.heap.size = w3.heap.size := by rw [← hW3]; simp [World.setCell]
  have hoth3 : ∀ g, g ≠ w.heap.size → W3.heap[g]? = w3.heap[g]? := fun g hg => by rw [← hW3]; exact Below.heap_setCell _ _ _ _ hg
  have B3 : Below w.heap.size w W3 := hW3 ▸ (B2.trans (hb3.mono B2.size)).setCell (p := ⟨w.heap.size, 4, none⟩) (by simp) _
  have xbW3 : W3.heap[w.heap.size]? = some (.cells #[.int .i64 t, .int .i64 e, (.slice av1 ss.length cv1), (.slice av2 ps.length cv2), (.slice av3 qs.length cv3)] 29 (0, 0)) := by rw [← hW3]; exact slab_set ((hb3.block _ (by omega)).trans xbW2) _
  have xrW3 : W3.heap[w.heap.size + 1]? = some (.cells #[.int .i64 0, .int .i64 0, .slice none 0 0, .slice none 0 0, .slice none 0 0] 29 (0, 0)) := (hoth3 _ (by omega)).trans ((hb3.block _ (by omega)).trans xrW2)
  have xbw3 : w3.heap[w.heap.size]? = some (.cells #[.int .i64 t, .int .i64 e, (.slice av1 ss.length cv1), (.slice av2 ps.length cv2), .slice (some p3) qs.length c3] 29 (0, 0)) := (hb3.block _ (by omega)).trans xbW2
  have u3c : ∃ x, w3.cell? ⟨w.heap.size, 4, none⟩ = some x := ⟨_, by simp [World.cell?, xbw3]; rfl⟩
  obtain ⟨x3, u3⟩ := u3c
  have f3 : ∀ o, w3.frozen? ⟨w.heap.size, o, none⟩ = false := fun o => by simp [World.frozen?, xbw3]
  have K1_3 : Hid (World.ownsRow W3 (w.heap.size + 2) 3 1 (.slice av1 ss.length cv1) ss.length (ss.map (Value.int .i64))) := own_keep K1_2.out (fun g hg hl => (hoth3 g (by omega)).trans (hb3.block g (by omega)))
  have K2_3 : Hid (World.ownsRow W3 (w.heap.size + 2) 88 2 (.slice av2 ps.length cv2) ps.length (cellsP ps)) := own_keep K2_2.out (fun g hg hl => (hoth3 g (by omega)).trans (hb3.block g (by omega)))
  have K3_3 : Hid (World.ownsRow W3 (w.heap.size + 2) 3 1 (.slice av3 qs.length cv3) qs.length (qs.map (Value.int .i64))) := own_keep (own_mono ho3 (by omega)) (fun g hg _ => hoth3 g (by omega))
  clear xbw3 ho3 hb3 xbW2 xrW2 B2 K1_2 K2_2
  have cb0W3 : W3.cell? ⟨w.heap.size, 0, none⟩ = some (.int .i64 t) := by simp [World.cell?, xbW3]
  have cb1W3 : W3.cell? ⟨w.heap.size, 1, none⟩ = some (.int .i64 e) := by simp [World.cell?, xbW3]
  have cb2W3 : W3.cell? ⟨w.heap.size, 2, none⟩ = some ((.slice av1 ss.length cv1)) := by simp [World.cell?, xbW3]
  have cb3W3 : W3.cell? ⟨w.heap.size, 3, none⟩ = some ((.slice av2 ps.length cv2)) := by simp [World.cell?, xbW3]
  have cb4W3 : W3.cell? ⟨w.heap.size, 4, none⟩ = some ((.slice av3 qs.length cv3)) := by simp [World.cell?, xbW3]
  have cr0W3 : W3.cell? ⟨w.heap.size + 1, 0, none⟩ = some (.int .i64 0) := by simp [World.cell?, xrW3]
  have cr1W3 : W3.cell? ⟨w.heap.size + 1, 1, none⟩ = some (.int .i64 0) := by simp [World.cell?, xrW3]
  have cr2W3 : W3.cell? ⟨w.heap.size + 1, 2, none⟩ = some (.slice none 0 0) := by simp [World.cell?, xrW3]
  have cr3W3 : W3.cell? ⟨w.heap.size + 1, 3, none⟩ = some (.slice none 0 0) := by simp [World.cell?, xrW3]
  have cr4W3 : W3.cell? ⟨w.heap.size + 1, 4, none⟩ = some (.slice none 0 0) := by simp [World.cell?, xrW3]
  have fbW3 : ∀ o, W3.frozen? ⟨w.heap.size, o, none⟩ = false := fun o => by simp [World.frozen?, xbW3]
  have frW3 : ∀ o, W3.frozen? ⟨w.heap.size + 1, o, none⟩ = false := fun o => by simp [World.frozen?, xrW3]
  go_wp2
  have hset : ∀ (wx : World) (a b c d f : Value), ∀ g, g ≠ w.heap.size + 1 → (((((wx.setCell ⟨w.heap.size + 1, 0, none⟩ a).setCell ⟨w.heap.size + 1, 1, none⟩ b).setCell ⟨w.heap.size + 1, 2, none⟩ c).setCell ⟨w.heap.size + 1, 3, none⟩ d).setCell ⟨w.heap.size + 1, 4, none⟩ f).heap[g]? = wx.heap[g]? := fun wx a b c d f g hg => by
    rw [Below.heap_setCell _ _ _ _ hg, Below.heap_setCell _ _ _ _ hg, Below.heap_setCell _ _ _ _ hg, Below.heap_setCell _ _ _ _ hg, Below.heap_setCell _ _ _ _ hg]
  refine bodyPost_ret (v := SV t e (.slice av1 ss.length cv1) (.slice av2 ps.length cv2) (.slice av3 qs.length cv3)) (by go_simp; simp [results, Try.results60, go_sem, cr0W3, cr1W3, cr2W3, cr3W3, cr4W3]) rfl ⟨_, _, _, rfl, ?_, ?_, ?_, SP.out, ?_⟩
  · exact own_mono (own_keep K1_3.out (fun g hg _ => hset _ _ _ _ _ _ g (by omega))) (by omega)
  · exact own_mono (own_keep K2_3.out (fun g hg _ => hset _ _ _ _ _ _ g (by omega))) (by omega)
  · exact own_mono (own_keep K3_3.out (fun g hg _ => hset _ _ _ _ _ _ g (by omega))) (by omega)
  · exact ((((B3.setCell (p := ⟨w.heap.size + 1, 0, none⟩) (by simp) _).setCell (p := ⟨w.heap.size + 1, 1, none⟩) (by simp) _).setCell (p := ⟨w.heap.size + 1, 2, none⟩) (by simp) _).setCell (p := ⟨w.heap.size + 1, 3, none⟩) (by simp) _).setCell (p := ⟨w.heap.size + 1, 4, none⟩) (by simp) _
end Go.Proofs.Ytaklphoplfofbaa
