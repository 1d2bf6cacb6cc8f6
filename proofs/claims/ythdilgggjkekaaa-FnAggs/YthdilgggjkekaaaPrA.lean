/- Lists of rows: measured, copied, compared (stage 13). -/
import Derived.Test.YthdilgggjkekaaaVlD
import Derived.Test.YthdilgggjkekaaaMkC
import Derived.Deep.RegionHeld3
namespace Go.Proofs.Ythdilgggjkekaaa.R
open Go.ChangeShapes Go.WideShapes Go.ChangeAt Go.RowKit Go.Joins

/-- Rows of values. -/
abbrev Rs : Type := List (List V3)
def nthR (rs : Rs) (i : Nat) : List V3 := rs.getD i []
theorem nthR_get {rs : Rs} {i : Nat} (h : i < rs.length) : nthR rs i = rs[i] := by unfold nthR; simp [h]
/-- A slice of rows can be read. -/
def RowR (w : World) (a : Option Addr) (rs : Rs) : Prop :=
  ∀ i, i < rs.length → ∃ b off ai ci, a = some ⟨b, off, none⟩ ∧ b < w.heap.size ∧ w.cell? ⟨b, off + i, none⟩ = some (.slice ai (nthR rs i).length ci) ∧ RowV w ai (nthR rs i) ∧ (nthR rs i).length ≤ maxLen
theorem RowR.below {w w' : World} {a : Option Addr} {rs : Rs} (h : RowR w a rs) (hb : Below w.heap.size w w') : RowR w' a rs := fun i hi => by
  obtain ⟨b, off, ai, ci, e, hlt, hc, hr, hs⟩ := h i hi
  exact ⟨b, off, ai, ci, e, Nat.lt_of_lt_of_le hlt hb.size, (hb.cell (p := ⟨b, off + i, none⟩) hlt).trans hc, hr.below hb, hs⟩
/-- Few rows of few values. -/
def SmallR (rs : Rs) : Prop := rs.length ≤ 1048576 ∧ ∀ i, i < rs.length → (nthR rs i).length ≤ 1048576

theorem infoR : (Try.prog.info? 25).map (fun i => (i.zero, i.size, i.bytes)) = some (some (.slice none 0 0), 1, 24) := by kernel_rfl
/-- A block of the call's own of n rows, of which the first k are those of rs, each in a block of its own. -/
def SlabR (w : World) (g n : Nat) (rs : Rs) (k : Nat) : Prop :=
  ∃ (cur : Array Value) (gs : Nat → Nat), w.heap[g]? = some (.cells cur 25 (0, 0)) ∧ cur.size = n ∧
    (∀ i, i < k → cur[i]? = some (.slice (some ⟨gs i, 0, none⟩) (nthR rs i).length (nthR rs i).length) ∧ g < gs i ∧ SlabK w (gs i) (nthR rs i).length (nthR rs i) (nthR rs i).length) ∧ ∀ i j, i < j → j < k → gs i < gs j
theorem SlabR.below {w w' : World} {g n k : Nat} {rs : Rs} (h : SlabR w g n rs k) (hb : Below w.heap.size w w') : SlabR w' g n rs k := by
  obtain ⟨cur, gs, hh, hn, hc, hm⟩ := h
  exact ⟨cur, gs, (hb.block g (slab_lt hh)).trans hh, hn, fun i hi => ⟨(hc i hi).1, (hc i hi).2.1, (hc i hi).2.2.below hb (hc i hi).2.2.lt⟩, hm⟩
theorem SlabR.lt {w : World} {g n k : Nat} {rs : Rs} (h : SlabR w g n rs k) : g < w.heap.size := by
  obtain ⟨cur, gs, hh, _⟩ := h
  exact slab_lt hh
theorem SlabR.there {w : World} {g n k j : Nat} {rs : Rs} (h : SlabR w g n rs k) (hj : j < n) : ∃ v, w.cell? ⟨g, j, none⟩ = some v := by
  obtain ⟨cur, gs, hh, hs, _⟩ := h
  exact blk_there hh (by omega)
theorem SlabR.free {w : World} {g n k : Nat} {rs : Rs} (h : SlabR w g n rs k) (o : Nat) : w.frozen? ⟨g, o, none⟩ = false := by
  obtain ⟨cur, gs, hh, _⟩ := h
  exact slab_free hh
theorem SlabK.set {w : World} {g n k : Nat} {vs : List V3} (h : SlabK w g n vs k) {p : Addr} (v : Value) (hp : p.block ≠ g) : SlabK (w.setCell p v) g n vs k := by
  obtain ⟨cur, hh, r⟩ := h
  exact ⟨cur, (set_other v hp).trans hh, r⟩
theorem SlabR.step {w w' : World} {g n k gk : Nat} {rs : Rs} (h : SlabR w g n rs k) (hb : Below w.heap.size w w') (hk : k < n) (hgk : w.heap.size ≤ gk) (hS : SlabK w' gk (nthR rs k).length (nthR rs k) (nthR rs k).length) :
    SlabR (w'.setCell ⟨g, k, none⟩ (.slice (some ⟨gk, 0, none⟩) (nthR rs k).length (nthR rs k).length)) g n rs (k + 1) := by
  have hlt := h.lt
  obtain ⟨cur, gs, hh0, hn, hc0, hm⟩ := h
  have hh : w'.heap[g]? = some (.cells cur 25 (0, 0)) := (hb.block g hlt).trans hh0
  refine ⟨cur.setIfInBounds k _, fun i => if i = k then gk else gs i, slab_set hh _, by simpa using hn, fun i hi => ?_, fun i j hij hj => ?_⟩
  · by_cases e : i = k
    · subst e
      refine ⟨?_, by simp; omega, ?_⟩
      · rw [Array.getElem?_setIfInBounds_self_of_lt (by omega)]; simp
      · simp only [if_pos]
        exact hS.set _ (by show g ≠ gk; omega)
    · obtain ⟨e1, e2, e3⟩ := hc0 i (by omega)
      refine ⟨?_, by simp [e]; exact e2, ?_⟩
      · rw [Array.getElem?_setIfInBounds_ne (by omega)]; simp [e]; exact e1
      · simp only [if_neg e]
        exact (e3.below hb e3.lt).set _ (by show g ≠ gs i; omega)
  · by_cases e : j = k
    · subst e
      simp only [if_neg (show ¬ i = j by omega), if_pos]
      exact Nat.lt_of_lt_of_le (hc0 i (by omega)).2.2.lt hgk
    · simp only [if_neg e, if_neg (show ¬ i = k by omega)]
      exact hm i j hij (by omega)

/-- Two rows; what lay in w lies there still. -/
abbrev PairR (w : World) (b1 o1 : Nat) (x1 : Option Addr) (c1 : Nat) (b2 o2 : Nat) (x2 : Option Addr) (c2 : Nat) (vs : List V3) (w' : World) : Prop :=
  w'.cell? ⟨b1, o1, none⟩ = some (.slice x1 vs.length c1) ∧ w'.cell? ⟨b2, o2, none⟩ = some (.slice x2 vs.length c2) ∧ (RowV w' x1 vs ∧ RowV w' x2 vs) ∧ b1 < w'.heap.size ∧ b2 < w'.heap.size ∧ Below w.heap.size w w'
theorem PairR.keep {w : World} {b1 o1 : Nat} {x1 : Option Addr} {c1 b2 o2 : Nat} {x2 : Option Addr} {c2 : Nat} {vs : List V3} {w1 w2 : World} (h : PairR w b1 o1 x1 c1 b2 o2 x2 c2 vs w1) (hb : Below w1.heap.size w1 w2) : PairR w b1 o1 x1 c1 b2 o2 x2 c2 vs w2 :=
  ⟨(hb.cell (p := ⟨b1, o1, none⟩) h.2.2.2.1).trans h.1, (hb.cell (p := ⟨b2, o2, none⟩) h.2.2.2.2.1).trans h.2.1, ⟨h.2.2.1.1.below hb, h.2.2.1.2.below hb⟩, Nat.lt_of_lt_of_le h.2.2.2.1 hb.size, Nat.lt_of_lt_of_le h.2.2.2.2.1 hb.size, below_step h.2.2.2.2.2 (Nat.le_refl _) hb⟩
/-- The texts of some rows are no longer than a text may be. -/
def TextR (rs : Rs) : Prop := ∀ i, i < rs.length → (∀ j, j < (nthR rs i).length → (nthV (nthR rs i) j).2.2.size ≤ maxLen)
theorem RowR.text {w : World} {a : Option Addr} {rs : Rs} (h : RowR w a rs) : TextR rs := fun i hi => by
  obtain ⟨_, _, _, _, _, _, _, hr, _⟩ := h i hi
  exact hr.size
theorem small_max {n : Nat} (h : n ≤ 1048576) : n ≤ maxLen := by unfold maxLen; omega
theorem SlabR.row {w : World} {g : Nat} {rs : Rs} (h : SlabR w g rs.length rs rs.length) (ht : TextR rs) (hs : SmallR rs) : RowR w (some ⟨g, 0, none⟩) rs := fun i hi => by
  have hl := h.lt
  obtain ⟨cur, gs, hh, hn, hc, _⟩ := h
  obtain ⟨e1, e2, e3⟩ := hc i hi
  exact ⟨g, 0, some ⟨gs i, 0, none⟩, _, rfl, hl, by rw [slab_cell hh, Nat.zero_add]; exact e1, e3.row (ht i hi), small_max (hs.2 i hi)⟩
end Go.Proofs.Ythdilgggjkekaaa.R
