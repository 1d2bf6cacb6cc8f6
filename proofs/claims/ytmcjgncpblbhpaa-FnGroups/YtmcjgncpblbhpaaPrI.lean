/- Lists of rows, opened (stage 13). -/
import Derived.Test.YtmcjgncpblbhpaaPrA
import Derived.Deep.Slices
import Derived.Deep.Strs
import Derived.Lib.SmallJoins
namespace Go.Proofs.Ytmcjgncpblbhpaa
open Go.ChangeShapes Go.WideShapes Go.ChangeAt Go.RowKit Go.Joins

theorem cells82 : Try.prog.cellsOf 82 = 1 := by kernel_rfl
theorem exists_listR {P : Nat → List V3 → Prop} : ∀ n, (∀ i, i < n → ∃ v, P i v) → ∃ vs : Rs, vs.length = n ∧ ∀ i, i < n → P i (nthR vs i)
  | 0, _ => ⟨[], rfl, fun i hi => by omega⟩
  | n + 1, h => by
    obtain ⟨vs, hl, hv⟩ := exists_listR n (fun i hi => h i (by omega))
    obtain ⟨v, hp⟩ := h n (by omega)
    refine ⟨vs ++ [v], by simp [hl], fun i hi => ?_⟩
    by_cases e : i = n
    · subst e
      have : nthR (vs ++ [v]) i = v := by unfold nthR; simp [List.getD_eq_getElem?_getD, hl]
      rw [this]; exact hp
    · have : nthR (vs ++ [v]) i = nthR vs i := by unfold nthR; rw [List.getD_eq_getElem?_getD, List.getD_eq_getElem?_getD, List.getElem?_append_left (by omega)]
      rw [this]; exact hv i (by omega)
theorem open_rowF {H : Type} {enc : TypeId × Value → H} {W : World} {fuel : Nat} {v : Value} {x : DataW H × List MemPlace}
    (hf : DataW.trod enc Try.prog W 0 (fun _ => true) true fuel 82 [v] = some x) : ∃ a len cap, v = .slice a len cap ∧ ∃ vs : List V3, vs.length = len ∧ RowV W a vs ∧ len ≤ maxLen := by
  have hsh : ∃ a len cap, v = .slice a len cap := by
    rcases Deep.open_slice Try.underlying82 hf with ⟨hcs, _⟩ | ⟨ad, l, c, m, n, D, Pl, hcs, _⟩
    · simp at hcs; exact ⟨_, _, _, hcs⟩
    · simp at hcs; exact ⟨_, _, _, hcs⟩
  obtain ⟨a, len, cap, rfl⟩ := hsh
  obtain ⟨d, p⟩ := x
  exact ⟨a, len, cap, rfl, open_rowV (cap := cap) ⟨fuel, hf⟩⟩
set_option maxRecDepth 100000 in
theorem open_rowR {H : Type} {enc : TypeId × Value → H} {W : World} {a : Option Addr} {len cap : Nat} {d : DataW H} {p : List MemPlace}
    (h : DataW.Trod enc Try.prog W 0 (fun _ => true) true 44 (.slice a len cap) d p) : ∃ rs : Rs, rs.length = len ∧ RowR W a rs ∧ len ≤ maxLen := by
  obtain ⟨fuel, hf⟩ := h
  rcases Deep.open_slice1 Try.underlying44 cells82 hf with ⟨hcs, _⟩ | ⟨ad, l, c, m, n, V, D, Pl, hcs, _, hl, hm, hmm, _, hel⟩
  · simp [Value.cells] at hcs
    obtain ⟨rfl, rfl, rfl⟩ := hcs
    exact ⟨[], rfl, fun i hi => by simp at hi, Nat.zero_le _⟩
  · simp [Value.cells] at hcs
    obtain ⟨rfl, rfl, rfl⟩ := hcs
    simp at hmm
    subst hmm
    have key : ∀ i, i < len → ∃ vs : List V3, ∃ b off ai ci, some ad = some ⟨b, off, none⟩ ∧ b < W.heap.size ∧ W.cell? ⟨b, off + i, none⟩ = some (.slice ai vs.length ci) ∧ RowV W ai vs ∧ vs.length ≤ maxLen := fun i hi => by
      obtain ⟨h1, h2⟩ := hel i (by omega)
      obtain ⟨ai, il, ci, q, vs, rfl, hr, hl'⟩ := open_rowF h2
      rw [q] at h1
      obtain ⟨b, off, spot⟩ := ad
      have hs : spot = none := by simpa [Addr.add] using World.cell?_spot (hel 0 (by omega)).1
      subst hs
      rw [add_plain] at h1
      exact ⟨vs, b, off, ai, ci, rfl, World.block_lt_of_cell? W _ h1, h1, hr, hl'⟩
    obtain ⟨rs, hrl, hr⟩ := exists_listR len key
    refine ⟨rs, hrl, fun i hi => ?_, Nat.le_trans hl hm⟩
    obtain ⟨b, off, ai, ci, e, r⟩ := hr i (by omega)
    exact ⟨b, off, ai, ci, e, r⟩
end Go.Proofs.Ytmcjgncpblbhpaa
