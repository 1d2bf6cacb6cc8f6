/- Marks on rows of values (stage 11). -/
import Derived.Test.YtepkdodicglilaaGreatDoorMkA
import Derived.Test.YtepkdodicglilaaGreatDoorVlD
import Derived.Deep.RegionHeld3
namespace Go.Proofs.YtepkdodicglilaaGreatDoor
open Go.RowKit

/-- A block with room for N values, the first n of them marked from k on. -/
def MkV (w : World) (g N : Nat) (k : Int) (n : Nat) : Prop := ∃ cur : Array Value, w.heap[g]? = some (.cells cur 59 (0, 0)) ∧ cur.size = N * 3 ∧ ∀ i, i < n → cur[i * 3]? = some (.int .i64 (k + 3 * i)) ∧ cur[i * 3 + 1]? = some (.int .i64 (k + 3 * i + 1)) ∧ cur[i * 3 + 2]? = some (.string (mtx (k + 3 * i + 2)))
theorem MkV.zero {w : World} {g N n : Nat} {k k' : Int} (h : MkV w g N k n) : MkV w g N k' 0 := by
  obtain ⟨cur, hh, hs, _⟩ := h
  exact ⟨cur, hh, hs, fun i hi => by omega⟩
theorem MkV.lt {w : World} {g N n : Nat} {k : Int} (h : MkV w g N k n) : g < w.heap.size := by
  obtain ⟨cur, hh, _⟩ := h
  exact slab_lt hh
theorem MkV.there {w : World} {g N n j : Nat} {k : Int} (h : MkV w g N k n) (hj : j < N * 3) : ∃ v, w.cell? ⟨g, j, none⟩ = some v := by
  obtain ⟨cur, hh, hs, _⟩ := h
  exact blk_there hh (by omega)
theorem MkV.free {w : World} {g N n : Nat} {k : Int} (h : MkV w g N k n) (o : Nat) : w.frozen? ⟨g, o, none⟩ = false := by
  obtain ⟨cur, hh, _⟩ := h
  exact slab_free hh
theorem MkV.kept {S : Nat → Prop} {w w' : World} {g N n : Nat} {k : Int} (h : MkV w g N k n) (hK : Kept S w w') (hg : ¬ S g) : MkV w' g N k n := by
  obtain ⟨cur, hh, hs, hc⟩ := h
  exact ⟨cur, (hK.block g (slab_lt hh) hg).trans hh, hs, hc⟩
theorem MkV.below {w w' : World} {g N n : Nat} {k : Int} (h : MkV w g N k n) (hb : Below w.heap.size w w') : MkV w' g N k n := by
  obtain ⟨cur, hh, hs, hc⟩ := h
  exact ⟨cur, (hb.block g (slab_lt hh)).trans hh, hs, hc⟩
/-- The next value's numbers are marked, too. -/
def MkV2 (w : World) (g N : Nat) (k : Int) (n : Nat) : Prop := ∃ cur : Array Value, w.heap[g]? = some (.cells cur 59 (0, 0)) ∧ cur.size = N * 3 ∧ (∀ i, i < n → cur[i * 3]? = some (.int .i64 (k + 3 * i)) ∧ cur[i * 3 + 1]? = some (.int .i64 (k + 3 * i + 1)) ∧ cur[i * 3 + 2]? = some (.string (mtx (k + 3 * i + 2)))) ∧ cur[n * 3]? = some (.int .i64 (k + 3 * n)) ∧ cur[n * 3 + 1]? = some (.int .i64 (k + 3 * n + 1))
theorem MkV.two {w : World} {g N n : Nat} {k : Int} (h : MkV w g N k n) (hn : n < N) : MkV2 ((w.setCell ⟨g, n * 3, none⟩ (.int .i64 (k + 3 * n))).setCell ⟨g, n * 3 + 1, none⟩ (.int .i64 (k + 3 * n + 1))) g N k n := by
  obtain ⟨cur, hh, hs, hc⟩ := h
  refine ⟨_, slab_set (slab_set hh _) _, by simpa using hs, fun i hi => ?_, ?_, ?_⟩
  · obtain ⟨h1, h2, h3⟩ := hc i hi
    refine ⟨?_, ?_, ?_⟩
    · rw [Array.getElem?_setIfInBounds_ne (by omega), Array.getElem?_setIfInBounds_ne (by omega)]; exact h1
    · rw [Array.getElem?_setIfInBounds_ne (by omega), Array.getElem?_setIfInBounds_ne (by omega)]; exact h2
    · rw [Array.getElem?_setIfInBounds_ne (by omega), Array.getElem?_setIfInBounds_ne (by omega)]; exact h3
  · rw [Array.getElem?_setIfInBounds_ne (by omega), Array.getElem?_setIfInBounds_self_of_lt (by omega)]
  · rw [Array.getElem?_setIfInBounds_self_of_lt (by simp; omega)]
theorem MkV2.below {w w' : World} {g N n : Nat} {k : Int} (h : MkV2 w g N k n) (hb : Below w.heap.size w w') : MkV2 w' g N k n := by
  obtain ⟨cur, hh, hs, hc⟩ := h
  exact ⟨cur, (hb.block g (slab_lt hh)).trans hh, hs, hc⟩
theorem MkV2.third {w : World} {g N n : Nat} {k : Int} (h : MkV2 w g N k n) (hn : n < N) : MkV (w.setCell ⟨g, n * 3 + 2, none⟩ (.string (mtx (k + 3 * n + 2)))) g N k (n + 1) := by
  obtain ⟨cur, hh, hs, hc, e1, e2⟩ := h
  refine ⟨_, slab_set hh _, by simpa using hs, fun i hi => ?_⟩
  by_cases e : i = n
  · subst e
    refine ⟨?_, ?_, ?_⟩
    · rw [Array.getElem?_setIfInBounds_ne (by omega)]; exact e1
    · rw [Array.getElem?_setIfInBounds_ne (by omega)]; exact e2
    · rw [Array.getElem?_setIfInBounds_self_of_lt (by omega)]
  · obtain ⟨h1, h2, h3⟩ := hc i (by omega)
    refine ⟨?_, ?_, ?_⟩
    · rw [Array.getElem?_setIfInBounds_ne (by omega)]; exact h1
    · rw [Array.getElem?_setIfInBounds_ne (by omega)]; exact h2
    · rw [Array.getElem?_setIfInBounds_ne (by omega)]; exact h3
theorem MkV2.there {w : World} {g N n j : Nat} {k : Int} (h : MkV2 w g N k n) (hj : j < N * 3) : ∃ v, w.cell? ⟨g, j, none⟩ = some v := by
  obtain ⟨cur, hh, hs, _⟩ := h
  exact blk_there hh (by omega)
theorem MkV2.free {w : World} {g N n : Nat} {k : Int} (h : MkV2 w g N k n) (o : Nat) : w.frozen? ⟨g, o, none⟩ = false := by
  obtain ⟨cur, hh, _⟩ := h
  exact slab_free hh
theorem SlabK.shp {w : World} {g n k : Nat} {vs : List V3} (h : SlabK w g n vs k) : MkV w g n 0 0 := by
  obtain ⟨cur, hh, hs, _⟩ := h
  exact ⟨cur, hh, hs, fun i hi => by omega⟩
set_option maxRecDepth 100000 in
set_option maxHeartbeats 4000000 in
theorem markV_any (g n c N : Nat) (k kx : Int) (w : World) (h : MkV w g N kx 0) (hN : n ≤ N) (k0 : 0 ≤ k) (k1 : k ≤ 288230376151711744) (hn : n ≤ 1048577) :
    Calls Tryz.prog 18 #[.slice (some ⟨g, 0, none⟩) n c, .int .i64 k] w fun r w' => r = .returned (.int .i64 (k + 3 * n)) ∧ MkV w' g N k n ∧ Kept (fun j => j = g) w w' := by
  have HH : Hid (MkV w g N k 0) := h.zero
  clear h
  go_enter Tryz.func18, Tryz.ntmps18
  go_wp2
  go_loopw [1, 5] (fun m i wr => ∃ j : Nat, j ≤ n ∧ i = .int .i64 j ∧ m = .int .i64 (k + 3 * j) ∧ MkV wr g N k j ∧ Kept (fun j => j = g) w wr) (fun _ i _ => n - (intOf i).toNat)
  case atStart => exact ⟨0, by omega, rfl, by simp, HH.out, Kept.refl _ _⟩
  case round =>
    obtain ⟨j, hj, rfl, rfl, hS, hK⟩ := hrel
    have HS : Hid (MkV wr g N k j ∧ Kept (fun j => j = g) w wr) := ⟨hS, hK⟩
    clear hS hK
    by_cases hlt : j < n
    · have hltI : (j : Int) < (n : Int) := by omega
      obtain ⟨v0, hv0⟩ := HS.out.1.there (j := j * 3) (by omega)
      obtain ⟨v1, hv1⟩ := HS.out.1.there (j := j * 3 + 1) (by omega)
      have hf := HS.out.1.free
      go_wp2_with fail
      refine (markText_any (k + 3 * j + 1 + 1) _ (by omega) (by omega)).mono ?_
      rintro e w1 ⟨rfl, ht, b1⟩
      have K2 : Kept (fun j => j = g) w ((wr.setCell ⟨g, j * 3, none⟩ (.int .i64 (k + 3 * j))).setCell ⟨g, j * 3 + 1, none⟩ (.int .i64 (k + 3 * j + 1))) := (HS.out.2.set _ rfl).set _ rfl
      have T1 := (HS.out.1.two (by omega)).below b1
      have K3 := K2.trans (Kept.of_below b1)
      have hx : k + 3 * (j : Int) + 1 + 1 = k + 3 * j + 2 := by omega
      have HX : Hid (MkV (w1.setCell ⟨g, j * 3 + 2, none⟩ (.string (mtx (k + 3 * j + 1 + 1)))) g N k (j + 1) ∧ Kept (fun j => j = g) w (w1.setCell ⟨g, j * 3 + 2, none⟩ (.string (mtx (k + 3 * j + 1 + 1))))) := by
        rw [hx]
        exact ⟨T1.third (by omega), K3.set _ rfl⟩
      obtain ⟨v2, hv2⟩ := T1.there (j := j * 3 + 2) (by omega)
      have hf1 := T1.free
      clear K2 T1 K3 hx b1 hv0 hv1 hf HS ht
      generalize mtx (k + 3 * j + 1 + 1) = tx at *
      go_wp2
      exact ⟨⟨j + 1, by omega, by go_num, by congr 1; push_cast; omega, HX.out.1, HX.out.2⟩, by simp [intOf]; omega⟩
    · obtain rfl : j = n := by omega
      go_wp2
      go_ret
      exact ⟨rfl, HS.out.1, HS.out.2⟩
set_option maxRecDepth 100000 in
theorem markV_nil (a : Option Addr) (c : Nat) (k : Int) (w : World) : Calls Tryz.prog 18 #[.slice a 0 c, .int .i64 k] w fun e w' => e = .returned (.int .i64 k) ∧ w' = w := by
  go_enter Tryz.func18, Tryz.ntmps18
  go_wp2
  go_loop [1, 5] (fun m i => m = .int .i64 k ∧ i = .int .i64 0) (fun _ _ => 0)
  case atStart => exact ⟨rfl, rfl⟩
  case round =>
    obtain ⟨rfl, rfl⟩ := hrel
    go_wp2
    go_ret
    exact ⟨rfl, rfl⟩
/-- A text stands there. -/
abbrev StT (W : World) (g o : Nat) (tx : ByteArray) (w' : World) : Prop := w'.cell? ⟨g, o, none⟩ = some (.string tx) ∧ g < w'.heap.size ∧ Below W.heap.size W w'
theorem StT.keep {W : World} {g o : Nat} {tx : ByteArray} {w1 w2 : World} (h : StT W g o tx w1) (hb : Below w1.heap.size w1 w2) : StT W g o tx w2 := ⟨(hb.cell (p := ⟨g, o, none⟩) h.2.1).trans h.1, Nat.lt_of_lt_of_le h.2.1 hb.size, below_step h.2.2 (Nat.le_refl _) hb⟩
end Go.Proofs.YtepkdodicglilaaGreatDoor
