/- Lists of data, opened (stage 13). -/
import Derived.Test.YtepkdodicglilaaGreatDtA
import Derived.Test.YtepkdodicglilaaGreatTbO
import Derived.Deep.Slices
import Derived.Deep.Strs
import Derived.Lib.SmallJoins
namespace Go.Proofs.YtepkdodicglilaaGreat
open Go.ChangeShapes Go.WideShapes Go.ChangeAt Go.RowKit Go.Joins

theorem cells120 : Tryz.prog.cellsOf 120 = 1 := by kernel_rfl
theorem exists_listR {P : Nat → List V3 → Prop} : ∀ n, (∀ i, i < n → ∃ v, P i v) → ∃ vs : Rs, vs.length = n ∧ ∀ i, i < n → P i (nthR vs i)
  | 0, _ => ⟨[], rfl, fun i hi => by omega⟩
  | n + 1, h => by
    obtain ⟨vs, hl, hv⟩ := exists_listR n (fun i hi => h i (by omega))
    obtain ⟨v, hp⟩ := h n (by omega)
    refine ⟨vs ++ [v], by simp [hl], fun i hi => ?_⟩
    by_cases e : i = n
    · subst e
      have : nthR (vs ++ [v]) i = v := by unfold nthR; simp [List.getD_eq_getElem?_getD, hl]
      rw [this]; exact hp
    · have : nthR (vs ++ [v]) i = nthR vs i := by unfold nthR; rw [List.getD_eq_getElem?_getD, List.getD_eq_getElem?_getD, List.getElem?_append_left (by omega)]
      rw [this]; exact hv i (by omega)
theorem open_rowF {H : Type} {enc : TypeId × Value → H} {W : World} {fuel : Nat} {v : Value} {x : DataW H × List MemPlace}
    (hf : DataW.trod enc Tryz.prog W 0 (fun _ => true) true fuel 120 [v] = some x) : ∃ a len cap, v = .slice a len cap ∧ (∃ vs : List V3, vs.length = len ∧ RowV W a vs ∧ len ≤ maxLen) ∧ len ≤ cap := by
  have hsh : ∃ a len cap, v = .slice a len cap ∧ len ≤ cap := by
    rcases Deep.open_slice Tryz.underlying120 hf with ⟨hcs, _⟩ | ⟨ad, l, c, m, n, D, Pl, hcs, _, hl, _⟩
    · simp at hcs; exact ⟨_, _, _, hcs, Nat.le_refl _⟩
    · simp at hcs; exact ⟨_, _, _, hcs, hl⟩
  obtain ⟨a, len, cap, rfl, hlc⟩ := hsh
  obtain ⟨d, p⟩ := x
  exact ⟨a, len, cap, rfl, open_rowV (cap := cap) ⟨fuel, hf⟩, hlc⟩
set_option maxRecDepth 100000 in
theorem open_rowR {H : Type} {enc : TypeId × Value → H} {W : World} {a : Option Addr} {len cap : Nat} {d : DataW H} {p : List MemPlace}
    (h : DataW.Trod enc Tryz.prog W 0 (fun _ => true) true 51 (.slice a len cap) d p) : ∃ rs : Rs, rs.length = len ∧ RowR W a rs ∧ len ≤ maxLen := by
  obtain ⟨fuel, hf⟩ := h
  rcases Deep.open_slice1 Tryz.underlying51 cells120 hf with ⟨hcs, _⟩ | ⟨ad, l, c, m, n, V, D, Pl, hcs, _, hl, hm, hmm, _, hel⟩
  · simp [Value.cells] at hcs
    obtain ⟨rfl, rfl, rfl⟩ := hcs
    exact ⟨[], rfl, fun i hi => by simp at hi, Nat.zero_le _⟩
  · simp [Value.cells] at hcs
    obtain ⟨rfl, rfl, rfl⟩ := hcs
    simp at hmm
    subst hmm
    have key : ∀ i, i < len → ∃ vs : List V3, ∃ b off ai ci, some ad = some ⟨b, off, none⟩ ∧ b < W.heap.size ∧ W.cell? ⟨b, off + i, none⟩ = some (.slice ai vs.length ci) ∧ RowV W ai vs ∧ vs.length ≤ maxLen ∧ vs.length ≤ ci := fun i hi => by
      obtain ⟨h1, h2⟩ := hel i (by omega)
      obtain ⟨ai, il, ci, q, ⟨vs, rfl, hr, hl'⟩, hc'⟩ := open_rowF h2
      rw [q] at h1
      obtain ⟨b, off, spot⟩ := ad
      have hs : spot = none := by simpa [Addr.add] using World.cell?_spot (hel 0 (by omega)).1
      subst hs
      rw [add_plain] at h1
      exact ⟨vs, b, off, ai, ci, rfl, World.block_lt_of_cell? W _ h1, h1, hr, hl', hc'⟩
    obtain ⟨rs, hrl, hr⟩ := exists_listR len key
    refine ⟨rs, hrl, fun i hi => ?_, Nat.le_trans hl hm⟩
    obtain ⟨b, off, ai, ci, e, r⟩ := hr i (by omega)
    exact ⟨b, off, ai, ci, e, r⟩
theorem cells53 : Tryz.prog.cellsOf 53 = 2 := by kernel_rfl
theorem cells51 : Tryz.prog.cellsOf 51 = 1 := by kernel_rfl
theorem exists_listD {P : Nat → TD → Prop} : ∀ n, (∀ i, i < n → ∃ v, P i v) → ∃ vs : List (TD), vs.length = n ∧ ∀ i, i < n → P i (nthD vs i)
  | 0, _ => ⟨[], rfl, fun i hi => by omega⟩
  | n + 1, h => by
    obtain ⟨vs, hl, hv⟩ := exists_listD n (fun i hi => h i (by omega))
    obtain ⟨v, hp⟩ := h n (by omega)
    refine ⟨vs ++ [v], by simp [hl], fun i hi => ?_⟩
    by_cases e : i = n
    · subst e
      have : nthD (vs ++ [v]) i = v := by unfold nthD; simp [List.getD_eq_getElem?_getD, hl]
      rw [this]; exact hp
    · have : nthD (vs ++ [v]) i = nthD vs i := by unfold nthD; rw [List.getD_eq_getElem?_getD, List.getD_eq_getElem?_getD, List.getElem?_append_left (by omega)]
      rw [this]; exact hv i (by omega)
theorem open_rowRv {H : Type} {enc : TypeId × Value → H} {W : World} {fuel : Nat} {v : Value} {x : DataW H × List MemPlace}
    (hf : DataW.trod enc Tryz.prog W 0 (fun _ => true) true fuel 51 [v] = some x) : ∃ a len cap, v = .slice a len cap ∧ (∃ rs : Rs, rs.length = len ∧ RowR W a rs ∧ len ≤ maxLen) ∧ len ≤ cap := by
  have hsh : ∃ a len cap, v = .slice a len cap ∧ len ≤ cap := by
    rcases Deep.open_slice Tryz.underlying51 hf with ⟨hcs, _⟩ | ⟨ad, l, c, m, n, D, Pl, hcs, _, hl, _⟩
    · simp at hcs; exact ⟨_, _, _, hcs, Nat.le_refl _⟩
    · simp at hcs; exact ⟨_, _, _, hcs, hl⟩
  obtain ⟨a, len, cap, rfl, hlc⟩ := hsh
  obtain ⟨d, p⟩ := x
  exact ⟨a, len, cap, rfl, open_rowR (cap := cap) ⟨fuel, hf⟩, hlc⟩
set_option maxRecDepth 100000 in
theorem open_rowD {H : Type} {enc : TypeId × Value → H} {W : World} {fuel : Nat} {v : Value} {x : DataW H × List MemPlace}
    (hf : DataW.trod enc Tryz.prog W 0 (fun _ => true) true fuel 23 [v] = some x) : ∃ a len cap, v = .slice a len cap ∧ ∃ ns : List TD, ns.length = len ∧ RowD W a ns ∧ len ≤ maxLen := by
  rcases Deep.open_slice Tryz.underlying23 hf with ⟨hcs, _⟩ | ⟨ad, l, c, m, n, D, Pl, hcs, _, hl, hm, hmm, _, hel⟩
  · simp at hcs
    exact ⟨none, 0, 0, hcs, [], rfl, fun i hi => by simp at hi, Nat.zero_le _⟩
  · simp at hcs hmm
    subst hcs hmm
    refine ⟨_, _, _, rfl, ?_⟩
    rw [cells53] at hel
    have key : ∀ i, i < l → ∃ p : TD, ∃ b off ia ic, some ad = some ⟨b, off, none⟩ ∧ b < W.heap.size ∧ CellD W b (off + i * 2) ia ic p ∧ RowR W ia p.2 ∧ p.2.length ≤ maxLen ∧ p.1.size ≤ maxLen ∧ p.2.length ≤ ic := fun i hi => by
      obtain ⟨cs', h1, h2⟩ := hel i (by omega)
      obtain ⟨_, hlen, hcell⟩ := World.cells?_some h1
      match cs', hlen with
      | [c0, c1], _ =>
        obtain ⟨y0, y1, n', _, _, e0, e1⟩ := trod_struct2 Tryz.underlying53 h2
        simp [cells9, cells51] at e0 e1
        obtain ⟨k, q0, _, z0⟩ := DataW.trod_string Tryz.underlying9 e0
        obtain ⟨ia, il, ic, q1, ⟨rs, rfl, hw, lw⟩, lc⟩ := open_rowRv e1
        simp at q0
        subst q0 q1
        have d0 := hcell 0 (by omega)
        have d1 := hcell 1 (by omega)
        obtain ⟨b, off, spot⟩ := ad
        obtain ⟨cs0, g1, _⟩ := hel 0 (by omega)
        have hs : spot = none := by
          have := World.cell?_spot ((World.cells?_some g1).2.2 0 (by omega) |>.trans (List.getElem?_eq_getElem (by rw [(World.cells?_some g1).2.1]; omega)))
          simpa [Addr.add] using this
        subst hs
        rw [add_plain, add_plain] at d0 d1
        exact ⟨(k, rs), b, off, ia, ic, rfl, World.block_lt_of_cell? W _ d0, ⟨d0, d1⟩, hw, lw, z0, lc⟩
    obtain ⟨ns, hpl, hps⟩ := exists_listD l key
    exact ⟨ns, hpl, fun i hi => hps i (by omega), Nat.le_trans hl hm⟩
end Go.Proofs.YtepkdodicglilaaGreat
