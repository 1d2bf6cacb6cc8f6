/- Marks on rows of values (stage 13). -/
import Derived.Test.YthdilgggjkekaaaMkA
import Derived.Test.YthdilgggjkekaaaVlD
import Derived.Deep.RegionHeld3
namespace Go.Proofs.Ythdilgggjkekaaa.R
open Go.RowKit

/-- A block with room for N values, the first n of them marked from k on. -/
def MkV (w : World) (g N : Nat) (k : Int) (n : Nat) : Prop := ∃ cur : Array Value, w.heap[g]? = some (.cells cur 27 (0, 0)) ∧ cur.size = N * 3 ∧ ∀ i, i < n → cur[i * 3]? = some (.int .i64 (k + 3 * i)) ∧ cur[i * 3 + 1]? = some (.int .i64 (k + 3 * i + 1)) ∧ cur[i * 3 + 2]? = some (.string (mtx (k + 3 * i + 2)))
theorem MkV.zero {w : World} {g N n : Nat} {k k' : Int} (h : MkV w g N k n) : MkV w g N k' 0 := by
  obtain ⟨cur, hh, hs, _⟩ := h
  exact ⟨cur, hh, hs, fun i hi => by omega⟩
theorem MkV.lt {w : World} {g N n : Nat} {k : Int} (h : MkV w g N k n) : g < w.heap.size := by
  obtain ⟨cur, hh, _⟩ := h
  exact slab_lt hh
theorem MkV.there {w : World} {g N n j : Nat} {k : Int} (h : MkV w g N k n) (hj : j < N * 3) : ∃ v, w.cell? ⟨g, j, none⟩ = some v := by
  obtain ⟨cur, hh, hs, _⟩ := h
  exact blk_there hh (by omega)
theorem MkV.free {w : World} {g N n : Nat} {k : Int} (h : MkV w g N k n) (o : Nat) : w.frozen? ⟨g, o, none⟩ = false := by
  obtain ⟨cur, hh, _⟩ := h
  exact slab_free hh
theorem MkV.kept {S : Nat → Prop} {w w' : World} {g N n : Nat} {k : Int} (h : MkV w g N k n) (hK : Kept S w w') (hg : ¬ S g) : MkV w' g N k n := by
  obtain ⟨cur, hh, hs, hc⟩ := h
  exact ⟨cur, (hK.block g (slab_lt hh) hg).trans hh, hs, hc⟩
theorem MkV.below {w w' : World} {g N n : Nat} {k : Int} (h : MkV w g N k n) (hb : Below w.heap.size w w') : MkV w' g N k n := by
  obtain ⟨cur, hh, hs, hc⟩ := h
  exact ⟨cur, (hb.block g (slab_lt hh)).trans hh, hs, hc⟩
/-- The next value's numbers are marked, too. -/
def MkV2 (w : World) (g N : Nat) (k : Int) (n : Nat) : Prop := ∃ cur : Array Value, w.heap[g]? = some (.cells cur 27 (0, 0)) ∧ cur.size = N * 3 ∧ (∀ i, i < n → cur[i * 3]? = some (.int .i64 (k + 3 * i)) ∧ cur[i * 3 + 1]? = some (.int .i64 (k + 3 * i + 1)) ∧ cur[i * 3 + 2]? = some (.string (mtx (k + 3 * i + 2)))) ∧ cur[n * 3]? = some (.int .i64 (k + 3 * n)) ∧ cur[n * 3 + 1]? = some (.int .i64 (k + 3 * n + 1))
theorem MkV.two {w : World} {g N n : Nat} {k : Int} (h : MkV w g N k n) (hn : n < N) : MkV2 ((w.setCell ⟨g, n * 3, none⟩ (.int .i64 (k + 3 * n))).setCell ⟨g, n * 3 + 1, none⟩ (.int .i64 (k + 3 * n + 1))) g N k n := by
  obtain ⟨cur, hh, hs, hc⟩ := h
  refine ⟨_, slab_set (slab_set hh _) _, by simpa using hs, fun i hi => ?_, ?_, ?_⟩
  · obtain ⟨h1, h2, h3⟩ := hc i hi
    refine ⟨?_, ?_, ?_⟩
    · rw [Array.getElem?_setIfInBounds_ne (by omega), Array.getElem?_setIfInBounds_ne (by omega)]; exact h1
    · rw [Array.getElem?_setIfInBounds_ne (by omega), Array.getElem?_setIfInBounds_ne (by omega)]; exact h2
    · rw [Array.getElem?_setIfInBounds_ne (by omega), Array.getElem?_setIfInBounds_ne (by omega)]; exact h3
  · rw [Array.getElem?_setIfInBounds_ne (by omega), Array.getElem?_setIfInBounds_self_of_lt (by omega)]
  · rw [Array.getElem?_setIfInBounds_self_of_lt (by simp; omega)]
theorem MkV2.below {w w' : World} {g N n : Nat} {k : Int} (h : MkV2 w g N k n) (hb : Below w.heap.size w w') : MkV2 w' g N k n := by
  obtain ⟨cur, hh, hs, hc⟩ := h
  exact ⟨cur, (hb.block g (slab_lt hh)).trans hh, hs, hc⟩
theorem MkV2.third {w : World} {g N n : Nat} {k : Int} (h : MkV2 w g N k n) (hn : n < N) : MkV (w.setCell ⟨g, n * 3 + 2, none⟩ (.string (mtx (k + 3 * n + 2)))) g N k (n + 1) := by
  obtain ⟨cur, hh, hs, hc, e1, e2⟩ := h
  refine ⟨_, slab_set hh _, by simpa using hs, fun i hi => ?_⟩
  by_cases e : i = n
  · subst e
    refine ⟨?_, ?_, ?_⟩
    · rw [Array.getElem?_setIfInBounds_ne (by omega)]; exact e1
    · rw [Array.getElem?_setIfInBounds_ne (by omega)]; exact e2
    · rw [Array.getElem?_setIfInBounds_self_of_lt (by omega)]
  · obtain ⟨h1, h2, h3⟩ := hc i (by omega)
    refine ⟨?_, ?_, ?_⟩
    · rw [Array.getElem?_setIfInBounds_ne (by omega)]; exact h1
    · rw [Array.getElem?_setIfInBounds_ne (by omega)]; exact h2
    · rw [Array.getElem?_setIfInBounds_ne (by omega)]; exact h3
theorem MkV2.there {w : World} {g N n j : Nat} {k : Int} (h : MkV2 w g N k n) (hj : j < N * 3) : ∃ v, w.cell? ⟨g, j, none⟩ = some v := by
  obtain ⟨cur, hh, hs, _⟩ := h
  exact blk_there hh (by omega)
theorem MkV2.free {w : World} {g N n : Nat} {k : Int} (h : MkV2 w g N k n) (o : Nat) : w.frozen? ⟨g, o, none⟩ = false := by
  obtain ⟨cur, hh, _⟩ := h
  exact slab_free hh
theorem SlabK.shp {w : World} {g n k : Nat} {vs : List V3} (h : SlabK w g n vs k) : MkV w g n 0 0 := by
  obtain ⟨cur, hh, hs, _⟩ := h
  exact ⟨cur, hh, hs, fun i hi => by omega⟩
/-- A text stands there. -/
abbrev StT (W : World) (g o : Nat) (tx : ByteArray) (w' : World) : Prop := w'.cell? ⟨g, o, none⟩ = some (.string tx) ∧ g < w'.heap.size ∧ Below W.heap.size W w'
theorem StT.keep {W : World} {g o : Nat} {tx : ByteArray} {w1 w2 : World} (h : StT W g o tx w1) (hb : Below w1.heap.size w1 w2) : StT W g o tx w2 := ⟨(hb.cell (p := ⟨g, o, none⟩) h.2.1).trans h.1, Nat.lt_of_lt_of_le h.2.1 hb.size, below_step h.2.2 (Nat.le_refl _) hb⟩
end Go.Proofs.Ythdilgggjkekaaa.R
