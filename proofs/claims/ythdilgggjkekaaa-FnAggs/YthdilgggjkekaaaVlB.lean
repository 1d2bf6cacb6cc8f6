/- Rows of values: measured, copied, compared, right (stage 13). -/
import Derived.Test.YthdilgggjkekaaaVlA
import Derived.Deep.RegionHeld3
namespace Go.Proofs.Ythdilgggjkekaaa.R
open Go.ChangeShapes Go.WideShapes Go.ChangeAt Go.RowKit Go.Joins

/-- A value as three parts. -/
abbrev V3 : Type := Int × Int × ByteArray
def nthV (vs : List V3) (i : Nat) : V3 := vs.getD i (0, 0, ⟨#[]⟩)
/-- Value i of a row in block b, from offset off on. -/
abbrev CellV (w : World) (b o : Nat) (v : V3) : Prop :=
  w.cell? ⟨b, o, none⟩ = some (.int .i64 v.1) ∧ w.cell? ⟨b, o + 1, none⟩ = some (.int .i64 v.2.1) ∧ w.cell? ⟨b, o + 2, none⟩ = some (.string v.2.2)
/-- A slice of values can be read. -/
def RowV (w : World) (a : Option Addr) (vs : List V3) : Prop :=
  ∀ i, i < vs.length → ∃ b off, a = some ⟨b, off, none⟩ ∧ b < w.heap.size ∧ CellV w b (off + i * 3) (nthV vs i) ∧ (nthV vs i).2.2.size ≤ maxLen

theorem RowV.below {w w' : World} {a : Option Addr} {vs : List V3} (h : RowV w a vs) (hb : Below w.heap.size w w') : RowV w' a vs := fun i hi => by
  obtain ⟨b, off, e, hlt, hc, hs⟩ := h i hi
  exact ⟨b, off, e, Nat.lt_of_lt_of_le hlt hb.size, ⟨(hb.cell (p := ⟨b, off + i * 3, none⟩) hlt).trans hc.1, (hb.cell (p := ⟨b, off + i * 3 + 1, none⟩) hlt).trans hc.2.1, (hb.cell (p := ⟨b, off + i * 3 + 2, none⟩) hlt).trans hc.2.2⟩, hs⟩

theorem infoV : (Try.prog.info? 27).map (fun i => (i.zero, i.size, i.bytes)) = some (some (.agg #[.int .i64 0, .int .i64 0, .string ⟨#[]⟩]), 3, 32) := by kernel_rfl

/-- A block of the call's own of n values, of which the first k are those of vs. -/
def SlabK (w : World) (g n : Nat) (vs : List V3) (k : Nat) : Prop :=
  ∃ cur, w.heap[g]? = some (.cells cur 27 (0, 0)) ∧ cur.size = n * 3 ∧
    ∀ i, i < k → cur[i * 3]? = some (.int .i64 (nthV vs i).1) ∧ cur[i * 3 + 1]? = some (.int .i64 (nthV vs i).2.1) ∧ cur[i * 3 + 2]? = some (.string (nthV vs i).2.2)
theorem SlabK.below {w w' : World} {g n k B : Nat} {vs : List V3} (h : SlabK w g n vs k) (hb : Below B w w') (hg : g < B) : SlabK w' g n vs k := by
  obtain ⟨cur, hh, r⟩ := h
  exact ⟨cur, (hb.block g hg).trans hh, r⟩
theorem SlabK.lt {w : World} {g n k : Nat} {vs : List V3} (h : SlabK w g n vs k) : g < w.heap.size := by
  obtain ⟨cur, hh, _⟩ := h
  rcases Nat.lt_or_ge g w.heap.size with h | h
  · exact h
  · rw [Array.getElem?_eq_none h] at hh; cases hh
theorem SlabK.step {w : World} {g n k : Nat} {vs : List V3} (h : SlabK w g n vs k) (hk : k < n) :
    SlabK (((w.setCell ⟨g, k * 3, none⟩ (.int .i64 (nthV vs k).1)).setCell ⟨g, k * 3 + 1, none⟩ (.int .i64 (nthV vs k).2.1)).setCell ⟨g, k * 3 + 2, none⟩ (.string (nthV vs k).2.2)) g n vs (k + 1) := by
  obtain ⟨cur, hh, hs, hc⟩ := h
  refine ⟨_, slab_set (slab_set (slab_set hh _) _) _, by simpa using hs, fun i hi => ?_⟩
  by_cases e : i = k
  · subst e
    refine ⟨?_, ?_, ?_⟩
    · rw [Array.getElem?_setIfInBounds_ne (by omega), Array.getElem?_setIfInBounds_ne (by omega), Array.getElem?_setIfInBounds_self_of_lt (by omega)]
    · rw [Array.getElem?_setIfInBounds_ne (by omega), Array.getElem?_setIfInBounds_self_of_lt (by simp; omega)]
    · rw [Array.getElem?_setIfInBounds_self_of_lt (by simp; omega)]
  · have := hc i (by omega)
    refine ⟨?_, ?_, ?_⟩
    · rw [Array.getElem?_setIfInBounds_ne (by omega), Array.getElem?_setIfInBounds_ne (by omega), Array.getElem?_setIfInBounds_ne (by omega)]; exact this.1
    · rw [Array.getElem?_setIfInBounds_ne (by omega), Array.getElem?_setIfInBounds_ne (by omega), Array.getElem?_setIfInBounds_ne (by omega)]; exact this.2.1
    · rw [Array.getElem?_setIfInBounds_ne (by omega), Array.getElem?_setIfInBounds_ne (by omega), Array.getElem?_setIfInBounds_ne (by omega)]; exact this.2.2
theorem SlabK.there {w : World} {g n k j : Nat} {vs : List V3} (h : SlabK w g n vs k) (hj : j < n * 3) : ∃ v, w.cell? ⟨g, j, none⟩ = some v := by
  obtain ⟨cur, hh, hs, _⟩ := h
  exact ⟨cur[j]'(by omega), by rw [slab_cell hh]; exact Array.getElem?_eq_getElem _⟩
theorem SlabK.free {w : World} {g n k : Nat} {vs : List V3} (h : SlabK w g n vs k) (o : Nat) : w.frozen? ⟨g, o, none⟩ = false := by
  obtain ⟨cur, hh, _⟩ := h
  exact slab_free hh

/-- Two values in two rows; what lay in w lies there still. -/
abbrev Pair (w : World) (b1 o1 : Nat) (v1 : V3) (b2 o2 : Nat) (v2 : V3) (w' : World) : Prop :=
  CellV w' b1 o1 v1 ∧ CellV w' b2 o2 v2 ∧ b1 < w'.heap.size ∧ b2 < w'.heap.size ∧ Below w.heap.size w w'
theorem CellV.below {w w' : World} {b o : Nat} {v : V3} (h : CellV w b o v) (hlt : b < w.heap.size) (hb : Below w.heap.size w w') : CellV w' b o v :=
  ⟨(hb.cell (p := ⟨b, o, none⟩) hlt).trans h.1, (hb.cell (p := ⟨b, o + 1, none⟩) hlt).trans h.2.1, (hb.cell (p := ⟨b, o + 2, none⟩) hlt).trans h.2.2⟩
theorem Pair.keep {w : World} {b1 o1 : Nat} {v1 : V3} {b2 o2 : Nat} {v2 : V3} {w1 w2 : World} (h : Pair w b1 o1 v1 b2 o2 v2 w1) (hb : Below w1.heap.size w1 w2) : Pair w b1 o1 v1 b2 o2 v2 w2 :=
  ⟨h.1.below h.2.2.1 hb, h.2.1.below h.2.2.2.1 hb, Nat.lt_of_lt_of_le h.2.2.1 hb.size, Nat.lt_of_lt_of_le h.2.2.2.1 hb.size, below_step h.2.2.2.2 (Nat.le_refl _) hb⟩

def okV3 (v : V3) : Bool := okV v.1 v.2.1 v.2.2
theorem allV_step' {P : Nat → Prop} {k : Nat} (h : ∀ j, j < k → P j) (hk : P k) : ∀ j, j < k + 1 → P j := fun j hj => by
  by_cases e : j = k
  · rw [e]; exact hk
  · exact h j (by omega)

end Go.Proofs.Ythdilgggjkekaaa.R
