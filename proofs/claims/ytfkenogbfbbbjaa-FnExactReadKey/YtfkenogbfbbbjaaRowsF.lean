/- How a slice of values that is handed to a law is opened; copies of it. -/
import Derived.Test.YtfkenogbfbbbjaaRowsE
import Derived.Deep.Slices
import Derived.Deep.Strs
namespace Go.Proofs.Ytfkenogbfbbbjaa
open Go.ChangeShapes Go.WideShapes Go.ChangeAt Go.RowKit Go.Joins

theorem exists_list {P : Nat → V3 → Prop} : ∀ n, (∀ i, i < n → ∃ v, P i v) → ∃ vs : List V3, vs.length = n ∧ ∀ i, i < n → P i (nthV vs i)
  | 0, _ => ⟨[], rfl, fun i hi => by omega⟩
  | n + 1, h => by
    obtain ⟨vs, hl, hv⟩ := exists_list n (fun i hi => h i (by omega))
    obtain ⟨v, hp⟩ := h n (by omega)
    refine ⟨vs ++ [v], by simp [hl], fun i hi => ?_⟩
    by_cases e : i = n
    · subst e
      have : nthV (vs ++ [v]) i = v := by unfold nthV; simp [List.getD_eq_getElem?_getD, hl]
      rw [this]; exact hp
    · have : nthV (vs ++ [v]) i = nthV vs i := by unfold nthV; rw [List.getD_eq_getElem?_getD, List.getD_eq_getElem?_getD, List.getElem?_append_left (by omega)]
      rw [this]; exact hv i (by omega)

set_option maxRecDepth 100000 in
theorem open_rowV {H : Type} {enc : TypeId × Value → H} {W : World} {a : Option Addr} {len cap : Nat} {d : DataW H} {p : List MemPlace}
    (h : DataW.Trod enc Try.prog W 0 (fun _ => true) true 45 (.slice a len cap) d p) : ∃ vs : List V3, vs.length = len ∧ RowV W a vs ∧ len ≤ maxLen := by
  obtain ⟨fuel, hf⟩ := h
  rcases Deep.open_slice Try.underlying45 hf with ⟨hcs, _⟩ | ⟨x, l, c, m, n, D, Pl, hcs, _, hl, hm, hmm, _, hel⟩
  · simp [Value.cells] at hcs
    obtain ⟨rfl, rfl, rfl⟩ := hcs
    exact ⟨[], rfl, fun i hi => by simp at hi, Nat.zero_le _⟩
  · simp [Value.cells] at hcs
    obtain ⟨rfl, rfl, rfl⟩ := hcs
    simp at hmm
    subst hmm
    rw [cells39] at hel
    have key : ∀ i, i < len → ∃ v : V3, ∃ b off, some x = some ⟨b, off, none⟩ ∧ b < W.heap.size ∧ CellV W b (off + i * 3) v ∧ v.2.2.size ≤ maxLen := fun i hi => by
      obtain ⟨cs', h1, h2⟩ := hel i (by omega)
      obtain ⟨_, hlen, hcell⟩ := World.cells?_some h1
      obtain ⟨y0, y1, y2, n', _, _, e0, e1, e2⟩ := Deep.trod_struct3 Try.underlying39 h2
      match cs', hlen with
      | [c0, c1, c2], _ =>
        obtain ⟨k, q0, _, _⟩ := DataW.trod_int Try.underlying3 e0
        obtain ⟨nn, q1, _, _⟩ := DataW.trod_int Try.underlying3 e1
        obtain ⟨t, q2, _, ht⟩ := DataW.trod_string Try.underlying9 e2
        have w3 : Try.prog.cellsOf 3 = 1 := by kernel_rfl
        have w9 : Try.prog.cellsOf 9 = 1 := by kernel_rfl
        simp [w3] at q0 q1
        simp [w9] at q2
        subst q0 q1 q2
        have d0 := hcell 0 (by omega)
        have d1 := hcell 1 (by omega)
        have d2 := hcell 2 (by omega)
        obtain ⟨b, off, spot⟩ := x
        obtain ⟨cs0, g1, _⟩ := hel 0 (by omega)
        have hs : spot = none := by
          have := World.cell?_spot ((World.cells?_some g1).2.2 0 (by omega) |>.trans (List.getElem?_eq_getElem (by rw [(World.cells?_some g1).2.1]; omega)))
          simpa [Addr.add] using this
        subst hs
        rw [add_plain, add_plain] at d0 d1 d2
        exact ⟨(k, nn, t), b, off, rfl, World.block_lt_of_cell? W _ d0, ⟨d0, d1, d2⟩, ht⟩
    obtain ⟨vs, hvl, hv⟩ := exists_list len key
    refine ⟨vs, hvl, fun i hi => ?_, Nat.le_trans hl hm⟩
    obtain ⟨b, off, e, r⟩ := hv i (by omega)
    exact ⟨b, off, e, r⟩

theorem SlabK.row {w : World} {g : Nat} {vs : List V3} (h : SlabK w g vs.length vs vs.length) (hs : ∀ i, i < vs.length → (nthV vs i).2.2.size ≤ maxLen) : RowV w (some ⟨g, 0, none⟩) vs := fun i hi => by
  have hl := h.lt
  obtain ⟨cur, hh, _, hc⟩ := h
  have := hc i hi
  refine ⟨g, 0, rfl, hl, ⟨?_, ?_, ?_⟩, hs i hi⟩
  · rw [slab_cell hh, Nat.zero_add]; exact this.1
  · rw [slab_cell hh, Nat.zero_add]; exact this.2.1
  · rw [slab_cell hh, Nat.zero_add]; exact this.2.2
theorem RowV.size {w : World} {a : Option Addr} {vs : List V3} (h : RowV w a vs) : ∀ i, i < vs.length → (nthV vs i).2.2.size ≤ maxLen := fun i hi => by
  obtain ⟨_, _, _, _, _, hs⟩ := h i hi
  exact hs

theorem toS_row (a : Option Addr) (cap : Nat) (vs : List V3) (w : World) (hrow : RowV w a vs) (hlen : vs.length ≤ 1048576) :
    Calls Try.prog 32 #[.slice a vs.length cap] w fun e w' => ∃ g, e = .returned (.slice (some ⟨g, 0, none⟩) vs.length vs.length) ∧ RowV w' (some ⟨g, 0, none⟩) vs ∧ Below w.heap.size w w' := by
  refine (toS_any a cap vs w hrow hlen).mono ?_
  rintro e w' ⟨g, rfl, _, hS, hb⟩
  exact ⟨g, rfl, hS.row hrow.size, hb⟩
end Go.Proofs.Ytfkenogbfbbbjaa
