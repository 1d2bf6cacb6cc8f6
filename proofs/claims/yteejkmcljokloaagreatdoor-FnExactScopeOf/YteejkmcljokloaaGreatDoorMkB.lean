/- Marks on the law's copy of a table (stage 11). -/
import Derived.Test.YteejkmcljokloaaGreatDoorMkA
import Derived.Test.YteejkmcljokloaaGreatDoorTbC
namespace Go.Proofs.YteejkmcljokloaaGreatDoor
open Go.RowKit

/-- A block of n columns, whatever they are. -/
def ShpC (w : World) (g n : Nat) : Prop := ∃ cur : Array Value, w.heap[g]? = some (.cells cur 101 (0, 0)) ∧ cur.size = n * 3
theorem ShpC.there {w : World} {g n j : Nat} (h : ShpC w g n) (hj : j < n * 3) : ∃ v, w.cell? ⟨g, j, none⟩ = some v := by
  obtain ⟨cur, hh, hs⟩ := h
  exact blk_there hh (by omega)
theorem ShpC.free {w : World} {g n : Nat} (h : ShpC w g n) (o : Nat) : w.frozen? ⟨g, o, none⟩ = false := by
  obtain ⟨cur, hh, _⟩ := h
  exact slab_free hh
theorem ShpC.set {w : World} {g n o : Nat} (h : ShpC w g n) (v : Value) : ShpC (w.setCell ⟨g, o, none⟩ v) g n := by
  obtain ⟨cur, hh, hs⟩ := h
  exact ⟨_, slab_set hh v, by simpa using hs⟩
theorem ShpC.lt {w : World} {g n : Nat} (h : ShpC w g n) : g < w.heap.size := by
  obtain ⟨cur, hh, _⟩ := h
  exact slab_lt hh
theorem ShpC.below {w w' : World} {g n : Nat} (h : ShpC w g n) (hb : Below w.heap.size w w') : ShpC w' g n := by
  obtain ⟨cur, hh, hs⟩ := h
  exact ⟨cur, (hb.block g (slab_lt hh)).trans hh, hs⟩
theorem SlabC.shp {w : World} {g n k : Nat} {ss : List TC} (h : SlabC w g n ss k) : ShpC w g n := by
  obtain ⟨cur, hh, hs, _⟩ := h
  exact ⟨cur, hh, hs⟩
set_option maxRecDepth 100000 in
set_option maxHeartbeats 4000000 in
theorem markC_any (g n c : Nat) (k : Int) (w : World) (h : ShpC w g n) (k0 : 0 ≤ k) (k1 : k ≤ 4000000000000000000) (hn : n ≤ 1048576) :
    Calls Tryz.prog 34 #[.slice (some ⟨g, 0, none⟩) n c, .int .i64 k] w fun r w' => r = .returned (.int .i64 (k + 3 * n)) ∧ Kept (fun j => j = g) w w' := by
  have HH : Hid (ShpC w g n) := h
  clear h
  go_enter Tryz.func34, Tryz.ntmps34
  go_wp2
  go_loopw [1, 5] (fun m i wr => ∃ j : Nat, j ≤ n ∧ i = .int .i64 j ∧ m = .int .i64 (k + 3 * j) ∧ ShpC wr g n ∧ Kept (fun j => j = g) w wr) (fun _ i _ => n - (intOf i).toNat)
  case atStart => exact ⟨0, by omega, rfl, by simp, HH.out, Kept.refl _ _⟩
  case round =>
    obtain ⟨j, hj, rfl, rfl, hS, hK⟩ := hrel
    have HS : Hid (ShpC wr g n) := hS
    clear hS
    by_cases hlt : j < n
    · have hltI : (j : Int) < (n : Int) := by omega
      go_wp2_with fail
      refine (markText_any (k + 3 * j) wr (by omega) (by omega)).mono ?_
      rintro e w1 ⟨rfl, hm, b1⟩
      have S1 := HS.out.below b1
      have K1 := hK.trans (Kept.of_below b1)
      obtain ⟨v0, hv0⟩ := S1.there (j := j * 3) (by omega)
      obtain ⟨v1, hv1⟩ := S1.there (j := j * 3 + 1) (by omega)
      obtain ⟨v2, hv2⟩ := S1.there (j := j * 3 + 2) (by omega)
      have hf := S1.free
      have HS1 : Hid (ShpC w1 g n ∧ Kept (fun j => j = g) w w1) := ⟨S1, K1⟩
      clear S1 K1 b1 hK HS
      generalize mtx (k + 3 * j) = tx
      go_wp2
      exact ⟨⟨j + 1, by omega, by go_num, by congr 1; push_cast; omega, ((HS1.out.1.set _).set _).set _, ((HS1.out.2.set _ rfl).set _ rfl).set _ rfl⟩, by simp [intOf]; omega⟩
    · obtain rfl : j = n := by omega
      go_wp2
      go_ret
      exact ⟨rfl, hK⟩
/-- The blocks from lo up to hi. -/
def Rng (lo hi : Nat) (j : Nat) : Prop := lo ≤ j ∧ j < hi
/-- A block of m indexes, whatever they are, their lists in blocks behind it. -/
def ShpX (w : World) (hi g m : Nat) (ls : Nat → Nat) : Prop := g < hi ∧ ∃ cur : Array Value, w.heap[g]? = some (.cells cur 104 (0, 0)) ∧ cur.size = m * 2 ∧ ∀ i, i < m → ∃ gi, g < gi ∧ gi < hi ∧ cur[i * 2 + 1]? = some (.slice (some ⟨gi, 0, none⟩) (ls i) (ls i)) ∧ ∃ cu : Array Value, w.heap[gi]? = some (.cells cu 3 (0, 0)) ∧ cu.size = ls i
theorem SlabX.shp {w : World} {g n : Nat} {xs : List TX} (h : SlabX w g n xs n) : ShpX w w.heap.size g n (fun i => (nthX xs i).2.length) := by
  obtain ⟨cur, hh, hs, hc⟩ := h
  refine ⟨slab_lt hh, cur, hh, hs, fun i hi => ?_⟩
  obtain ⟨gi, h1, _, h3, h4⟩ := hc i hi
  obtain ⟨cu, hu, hz, _⟩ := h4
  exact ⟨gi, h1, slab_lt hu, h3, cu, hu, hz⟩
theorem ShpX.below {w w' : World} {hi g m : Nat} {ls : Nat → Nat} (h : ShpX w hi g m ls) (hb : Below w.heap.size w w') : ShpX w' hi g m ls := by
  obtain ⟨h0, cur, hh, hs, hc⟩ := h
  refine ⟨h0, cur, (hb.block g (slab_lt hh)).trans hh, hs, fun i hi => ?_⟩
  obtain ⟨gi, h1, h2, h3, cu, hu, hz⟩ := hc i hi
  exact ⟨gi, h1, h2, h3, cu, (hb.block gi (slab_lt hu)).trans hu, hz⟩
theorem ShpX.kept {S : Nat → Prop} {w w' : World} {hi g m : Nat} {ls : Nat → Nat} (h : ShpX w hi g m ls) (hK : Kept S w w') (hg : ¬ S g) (hS : ∀ j, g < j → j < hi → ¬ S j) : ShpX w' hi g m ls := by
  obtain ⟨h0, cur, hh, hs, hc⟩ := h
  refine ⟨h0, cur, (hK.block g (slab_lt hh) hg).trans hh, hs, fun i hi => ?_⟩
  obtain ⟨gi, h1, h2, h3, cu, hu, hz⟩ := hc i hi
  exact ⟨gi, h1, h2, h3, cu, (hK.block gi (slab_lt hu) (hS gi h1 h2)).trans hu, hz⟩
theorem ShpX.name {w : World} {hi g m i : Nat} {ls : Nat → Nat} (h : ShpX w hi g m ls) (v : Value) : ShpX (w.setCell ⟨g, i * 2, none⟩ v) hi g m ls := by
  obtain ⟨h0, cur, hh, hs, hc⟩ := h
  refine ⟨h0, _, slab_set hh v, by simpa using hs, fun j hj => ?_⟩
  obtain ⟨gi, h1, h2, h3, cu, hu, hz⟩ := hc j hj
  exact ⟨gi, h1, h2, by rw [Array.getElem?_setIfInBounds_ne (by omega)]; exact h3, cu, (Below.heap_setCell _ _ _ _ (by simp; omega)).trans hu, hz⟩
/-- One of the lists was marked. -/
theorem ShpX.marked {w w' : World} {hi g m gi N : Nat} {ls : Nat → Nat} (h : ShpX w hi g m ls) (hg : g < gi) (hu : ∃ cu : Array Value, w.heap[gi]? = some (.cells cu 3 (0, 0)) ∧ cu.size = N) (hu' : ∃ cu : Array Value, w'.heap[gi]? = some (.cells cu 3 (0, 0)) ∧ cu.size = N) (hK : Kept (fun j => j = gi) w w') : ShpX w' hi g m ls := by
  obtain ⟨h0, cur, hh, hs, hc⟩ := h
  refine ⟨h0, cur, (hK.block g (slab_lt hh) (by omega)).trans hh, hs, fun j hj => ?_⟩
  obtain ⟨gj, h1, h2, h3, cu, hv, hz⟩ := hc j hj
  refine ⟨gj, h1, h2, h3, ?_⟩
  by_cases e : gj = gi
  · subst e
    obtain ⟨c1, e1, z1⟩ := hu
    obtain ⟨c2, e2, z2⟩ := hu'
    rw [hv] at e1
    cases e1
    exact ⟨c2, e2, by omega⟩
  · exact ⟨cu, (hK.block gj (slab_lt hv) e).trans hv, hz⟩
set_option maxRecDepth 100000 in
set_option maxHeartbeats 4000000 in
theorem markX_any (lo hi g m c : Nat) (ls : Nat → Nat) (k : Int) (w : World) (h : ShpX w hi g m ls) (hlo : lo ≤ g) (hls : ∀ i, i < m → ls i ≤ 1048576) (k0 : 0 ≤ k) (k1 : k ≤ 4000000000000000000) (hm : m ≤ 1048576) :
    Calls Tryz.prog 35 #[.slice (some ⟨g, 0, none⟩) m c, .int .i64 k] w fun r w' => ∃ q : Int, r = .returned (.int .i64 q) ∧ k ≤ q ∧ q ≤ k + 1048577 * m ∧ Kept (Rng lo hi) w w' := by
  have HH : Hid (ShpX w hi g m ls) := h
  have HL : Hid (∀ i, i < m → ls i ≤ 1048576) := hls
  clear h hls
  go_enter Tryz.func35, Tryz.ntmps35
  go_wp2
  go_loopw [1, 5] (fun u i wr => ∃ (j : Nat) (q : Int), j ≤ m ∧ i = .int .i64 j ∧ u = .int .i64 q ∧ k ≤ q ∧ q ≤ k + 1048577 * j ∧ ShpX wr hi g m ls ∧ Kept (Rng lo hi) w wr) (fun _ i _ => m - (intOf i).toNat)
  case atStart => exact ⟨0, k, by omega, rfl, rfl, by omega, by omega, HH.out, Kept.refl _ _⟩
  case round =>
    obtain ⟨j, q, hj, rfl, rfl, q0, q1, hS, hK⟩ := hrel
    have HS : Hid (ShpX wr hi g m ls) := hS
    clear hS
    by_cases hlt : j < m
    · have hltI : (j : Int) < (m : Int) := by omega
      go_wp2_with fail
      refine (markText_any q wr (by omega) (by omega)).mono ?_
      rintro e w1 ⟨rfl, ht, b1⟩
      have S1 := HS.out.below b1
      have K1 := hK.trans (Kept.of_below b1)
      generalize mtx q = tx
      have S2 : ShpX (w1.setCell ⟨g, j * 2, none⟩ (.string tx)) hi g m ls := S1.name _
      have K2 : Kept (Rng lo hi) w (w1.setCell ⟨g, j * 2, none⟩ (.string tx)) := K1.set _ ⟨hlo, S1.1⟩
      obtain ⟨h0, cur, hh, hs, hc⟩ := S1
      obtain ⟨v0, hv0⟩ := blk_there hh (show j * 2 < cur.size by omega)
      have hf : w1.frozen? ⟨g, j * 2, none⟩ = false := slab_free hh
      obtain ⟨gi, h1, h2, h3, cu, hu, hz⟩ := hc j hlt
      have hv1 : w1.cell? ⟨g, j * 2 + 1, none⟩ = some (.slice (some ⟨gi, 0, none⟩) (ls j) (ls j)) := by rw [slab_cell hh]; exact h3
      have HU : Hid (∃ cu : Array Value, (w1.setCell ⟨g, j * 2, none⟩ (.string tx)).heap[gi]? = some (.cells cu 3 (0, 0)) ∧ cu.size = ls j) := ⟨cu, (Below.heap_setCell _ _ _ _ (by simp; omega)).trans hu, hz⟩
      have HS2 : Hid (ShpX (w1.setCell ⟨g, j * 2, none⟩ (.string tx)) hi g m ls ∧ Kept (Rng lo hi) w (w1.setCell ⟨g, j * 2, none⟩ (.string tx))) := ⟨S2, K2⟩
      have HB := HL.out j hlt
      clear S2 K2 hh hs hc h3 hu hz b1 K1 HS hK ht
      generalize ls j = nj at *
      go_wp2_with fail
      obtain ⟨cu0, hu0, hz0⟩ := HU.out
      refine (markI_slab gi nj nj nj cu0 (q + 1) _ hu0 hz0 (Nat.le_refl _) (by omega) (by omega) HB).mono ?_
      rintro r w3 ⟨rfl, ⟨cu1, hu1, hz1, _⟩, K3⟩
      have S3 := HS2.out.1.marked h1 HU.out ⟨cu1, hu1, hz1⟩ K3
      have K4 := HS2.out.2.trans (K3.mono (S' := Rng lo hi) (fun x hx => by subst hx; exact ⟨by omega, h2⟩))
      have H4 : Hid (ShpX w3 hi g m ls ∧ Kept (Rng lo hi) w w3) := ⟨S3, K4⟩
      clear S3 K4 K3 hu1 hz1 hu0 hz0 HS2 HU hv0 hv1 hf
      go_wp2
      go_roundw
      case rel => exact ⟨j + 1, q + 1 + nj, by omega, by go_num, by go_num, by omega, by push_cast; omega, H4.out.1, H4.out.2⟩
      case measure => simp [intOf]; omega
    · obtain rfl : j = m := by omega
      go_wp2
      go_ret
      exact ⟨q, rfl, q0, q1, hK⟩
end Go.Proofs.YteejkmcljokloaaGreatDoor
