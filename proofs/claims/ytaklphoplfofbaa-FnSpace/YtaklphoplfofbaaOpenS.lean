/- How lists of numbers, of held pages, and spaces that are handed to a law are opened (stage 4). -/
import Derived.Test.YtaklphoplfofbaaOkM
namespace Go.Proofs.Ytaklphoplfofbaa
open Go.ChangeShapes Go.WideShapes Go.ChangeAt Go.RowKit Go.Joins

theorem cells51 : Try.prog.cellsOf 51 = 5 := by kernel_rfl
theorem cells102 : Try.prog.cellsOf 102 = 2 := by kernel_rfl
theorem cells3 : Try.prog.cellsOf 3 = 1 := by kernel_rfl

theorem exists_listI {P : Nat → Int → Prop} : ∀ n, (∀ i, i < n → ∃ v, P i v) → ∃ vs : List Int, vs.length = n ∧ ∀ i, i < n → P i (nthI vs i)
  | 0, _ => ⟨[], rfl, fun i hi => by omega⟩
  | n + 1, h => by
    obtain ⟨vs, hl, hv⟩ := exists_listI n (fun i hi => h i (by omega))
    obtain ⟨v, hp⟩ := h n (by omega)
    refine ⟨vs ++ [v], by simp [hl], fun i hi => ?_⟩
    by_cases e : i = n
    · subst e
      have : nthI (vs ++ [v]) i = v := by unfold nthI; simp [List.getD_eq_getElem?_getD, hl]
      rw [this]; exact hp
    · have : nthI (vs ++ [v]) i = nthI vs i := by unfold nthI; rw [List.getD_eq_getElem?_getD, List.getD_eq_getElem?_getD, List.getElem?_append_left (by omega)]
      rw [this]; exact hv i (by omega)
theorem exists_listP {P : Nat → P2 → Prop} : ∀ n, (∀ i, i < n → ∃ v, P i v) → ∃ vs : List P2, vs.length = n ∧ ∀ i, i < n → P i (nthP vs i)
  | 0, _ => ⟨[], rfl, fun i hi => by omega⟩
  | n + 1, h => by
    obtain ⟨vs, hl, hv⟩ := exists_listP n (fun i hi => h i (by omega))
    obtain ⟨v, hp⟩ := h n (by omega)
    refine ⟨vs ++ [v], by simp [hl], fun i hi => ?_⟩
    by_cases e : i = n
    · subst e
      have : nthP (vs ++ [v]) i = v := by unfold nthP; simp [List.getD_eq_getElem?_getD, hl]
      rw [this]; exact hp
    · have : nthP (vs ++ [v]) i = nthP vs i := by unfold nthP; rw [List.getD_eq_getElem?_getD, List.getD_eq_getElem?_getD, List.getElem?_append_left (by omega)]
      rw [this]; exact hv i (by omega)

set_option maxRecDepth 100000 in
theorem open_rowI {H : Type} {enc : TypeId × Value → H} {W : World} {fuel : Nat} {v : Value} {x : DataW H × List MemPlace}
    (hf : DataW.trod enc Try.prog W 0 (fun _ => true) true fuel 26 [v] = some x) : ∃ a len cap, v = .slice a len cap ∧ ∃ ss : List Int, ss.length = len ∧ RowI W a ss ∧ len ≤ maxLen := by
  rcases Deep.open_slice1 Try.underlying26 cells3 hf with ⟨hcs, _⟩ | ⟨ad, l, c, m, n, V, D, Pl, hcs, _, hl, hm, hmm, _, hel⟩
  · simp at hcs
    exact ⟨none, 0, 0, hcs, [], rfl, fun i hi => by simp at hi, Nat.zero_le _⟩
  · simp at hcs hmm
    subst hcs hmm
    refine ⟨_, _, _, rfl, ?_⟩
    have key : ∀ i, i < l → ∃ s : Int, ∃ b off, some ad = some ⟨b, off, none⟩ ∧ b < W.heap.size ∧ W.cell? ⟨b, off + i, none⟩ = some (.int .i64 s) := fun i hi => by
      obtain ⟨h1, h2⟩ := hel i (by omega)
      obtain ⟨t, q, _, ht⟩ := DataW.trod_int Try.underlying3 h2
      simp at q
      rw [q] at h1
      obtain ⟨b, off, spot⟩ := ad
      have hs : spot = none := by simpa [Addr.add] using World.cell?_spot (hel 0 (by omega)).1
      subst hs
      rw [add_plain] at h1
      exact ⟨t, b, off, rfl, World.block_lt_of_cell? W _ h1, h1⟩
    obtain ⟨ss, hsl, hss⟩ := exists_listI l key
    refine ⟨ss, hsl, fun i hi => ?_, Nat.le_trans hl hm⟩
    obtain ⟨b, off, e, r⟩ := hss i (by omega)
    exact ⟨b, off, e, r⟩

set_option maxRecDepth 100000 in
theorem open_rowP {H : Type} {enc : TypeId × Value → H} {W : World} {fuel : Nat} {v : Value} {x : DataW H × List MemPlace}
    (hf : DataW.trod enc Try.prog W 0 (fun _ => true) true fuel 49 [v] = some x) : ∃ a len cap, v = .slice a len cap ∧ ∃ ps : List P2, ps.length = len ∧ RowP W a ps ∧ len ≤ maxLen := by
  rcases Deep.open_slice Try.underlying49 hf with ⟨hcs, _⟩ | ⟨ad, l, c, m, n, D, Pl, hcs, _, hl, hm, hmm, _, hel⟩
  · simp at hcs
    exact ⟨none, 0, 0, hcs, [], rfl, fun i hi => by simp at hi, Nat.zero_le _⟩
  · simp at hcs hmm
    subst hcs hmm
    refine ⟨_, _, _, rfl, ?_⟩
    rw [cells102] at hel
    have key : ∀ i, i < l → ∃ p : P2, ∃ b off, some ad = some ⟨b, off, none⟩ ∧ b < W.heap.size ∧ CellP W b (off + i * 2) p := fun i hi => by
      obtain ⟨cs', h1, h2⟩ := hel i (by omega)
      obtain ⟨_, hlen, hcell⟩ := World.cells?_some h1
      obtain ⟨y0, y1, n', _, _, e0, e1⟩ := trod_struct2 Try.underlying102 h2
      match cs', hlen with
      | [c0, c1], _ =>
        obtain ⟨k, q0, _, _⟩ := DataW.trod_int Try.underlying3 e0
        obtain ⟨t, q1, _, ht⟩ := DataW.trod_int Try.underlying3 e1
        simp [cells3] at q0
        simp [cells3] at q1
        subst q0 q1
        have d0 := hcell 0 (by omega)
        have d1 := hcell 1 (by omega)
        obtain ⟨b, off, spot⟩ := ad
        obtain ⟨cs0, g1, _⟩ := hel 0 (by omega)
        have hs : spot = none := by
          have := World.cell?_spot ((World.cells?_some g1).2.2 0 (by omega) |>.trans (List.getElem?_eq_getElem (by rw [(World.cells?_some g1).2.1]; omega)))
          simpa [Addr.add] using this
        subst hs
        rw [add_plain, add_plain] at d0 d1
        exact ⟨(k, t), b, off, rfl, World.block_lt_of_cell? W _ d0, ⟨d0, d1⟩⟩
    obtain ⟨ps, hpl, hps⟩ := exists_listP l key
    refine ⟨ps, hpl, fun i hi => ?_, Nat.le_trans hl hm⟩
    obtain ⟨b, off, e, r⟩ := hps i (by omega)
    exact ⟨b, off, e, r⟩

theorem array5 {α : Type} {cs : Array α} (h : cs.size = 5) : ∃ c0 c1 c2 c3 c4, cs = #[c0, c1, c2, c3, c4] := by
  obtain ⟨l⟩ := cs
  match l, h with
  | [c0, c1, c2, c3, c4], _ => exact ⟨c0, c1, c2, c3, c4, rfl⟩
theorem five_of {α : Type} {l : List α} (h : l.length = 5) : ∃ a b c d e, l = [a, b, c, d, e] := by
  match l, h with
  | [a, b, c, d, e], _ => exact ⟨a, b, c, d, e, rfl⟩

set_option maxRecDepth 100000 in
theorem open_space {H : Type} {enc : TypeId × Value → H} {W : World} {base : Nat} {v : Value} {d : DataW H} {p : List MemPlace}
    (hv : Value.okWide Try.prog W .any base 51 v) (h : DataW.Trod enc Try.prog W 0 (fun _ => true) true 51 v d p) :
    ∃ (t e : Int) (a1 a2 a3 : Option Addr) (c1 c2 c3 : Nat) (ss : List Int) (ps : List P2) (qs : List Int), v = SV t e (.slice a1 ss.length c1) (.slice a2 ps.length c2) (.slice a3 qs.length c3) ∧ RowI W a1 ss ∧ RowP W a2 ps ∧ RowI W a3 qs ∧ ss.length ≤ maxLen ∧ ps.length ≤ maxLen ∧ qs.length ≤ maxLen := by
  obtain ⟨cs, rfl, hsz⟩ := okWide_struct Try.underlying51 hv
  obtain ⟨v0, v1, v2, v3, v4, rfl⟩ := array5 (hsz.trans cells51)
  obtain ⟨fuel, hf⟩ := h
  obtain ⟨xs, n, _, _, hl, hlen, hfs⟩ := DataW.trod_struct Try.underlying51 hf
  obtain ⟨y0, y1, y2, y3, y4, rfl⟩ := five_of (by simpa using hlen)
  have z0 := hfs 0 _ rfl
  have z1 := hfs 1 _ rfl
  have z2 := hfs 2 _ rfl
  have z3 := hfs 3 _ rfl
  have z4 := hfs 4 _ rfl
  have k26 : Try.prog.cellsOf 26 = 1 := by kernel_rfl
  have k49 : Try.prog.cellsOf 49 = 1 := by kernel_rfl
  simp [Value.cells, cells3, k26, k49] at z0 z1 z2 z3 z4
  obtain ⟨t, e0, _, _⟩ := DataW.trod_int Try.underlying3 z0
  obtain ⟨e, e1, _, _⟩ := DataW.trod_int Try.underlying3 z1
  simp at e0 e1
  subst e0 e1
  obtain ⟨a1, n1, c1, rfl, ss, rfl, h1, l1⟩ := open_rowI z2
  obtain ⟨a2, n2, c2, rfl, ps, rfl, h2, l2⟩ := open_rowP z3
  obtain ⟨a3, n3, c3, rfl, qs, rfl, h3, l3⟩ := open_rowI z4
  exact ⟨t, e, a1, a2, a3, c1, c2, c3, ss, ps, qs, rfl, h1, h2, h3, l1, l2, l3⟩
end Go.Proofs.Ytaklphoplfofbaa
