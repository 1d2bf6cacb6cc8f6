/- How a list of tables that is handed to a law is opened (stage 15). -/
import Derived.Test.YtepkdodicglilaaGreatTbD
import Derived.Test.YtepkdodicglilaaGreatTbO
import Derived.Deep.RegionHeld3
namespace Go.Proofs.YtepkdodicglilaaGreat
open Go.ChangeShapes Go.WideShapes Go.ChangeAt Go.RowKit Go.Joins

theorem small_maxC {n : Nat} (h : n ≤ 1048576) : n ≤ maxLen := by unfold maxLen; omega
theorem exists_listT {P : Nat → TT → Prop} : ∀ n, (∀ i, i < n → ∃ v, P i v) → ∃ vs : List (TT), vs.length = n ∧ ∀ i, i < n → P i (nthT vs i)
  | 0, _ => ⟨[], rfl, fun i hi => by omega⟩
  | n + 1, h => by
    obtain ⟨vs, hl, hv⟩ := exists_listT n (fun i hi => h i (by omega))
    obtain ⟨v, hp⟩ := h n (by omega)
    refine ⟨vs ++ [v], by simp [hl], fun i hi => ?_⟩
    by_cases e : i = n
    · subst e
      have : nthT (vs ++ [v]) i = v := by unfold nthT; simp [List.getD_eq_getElem?_getD, hl]
      rw [this]; exact hp
    · have : nthT (vs ++ [v]) i = nthT vs i := by unfold nthT; rw [List.getD_eq_getElem?_getD, List.getD_eq_getElem?_getD, List.getElem?_append_left (by omega)]
      rw [this]; exact hv i (by omega)
set_option maxRecDepth 100000 in
theorem open_rowCc {H : Type} {enc : TypeId × Value → H} {W : World} {fuel : Nat} {v : Value} {x : DataW H × List MemPlace}
    (hf : DataW.trod enc Tryz.prog W 0 (fun _ => true) true fuel 46 [v] = some x) : ∃ a len cap, v = .slice a len cap ∧ ∃ ns : List TC, ns.length = len ∧ RowC W a ns ∧ len ≤ maxLen ∧ len ≤ cap := by
  rcases Deep.open_slice Tryz.underlying46 hf with ⟨hcs, _⟩ | ⟨ad, l, c, m, n, D, Pl, hcs, _, hl, hm, hmm, _, hel⟩
  · simp at hcs
    exact ⟨none, 0, 0, hcs, [], rfl, fun i hi => by simp at hi, Nat.zero_le _, Nat.le_refl _⟩
  · simp at hcs hmm
    subst hcs hmm
    refine ⟨_, _, _, rfl, ?_⟩
    rw [cells114] at hel
    have key : ∀ i, i < l → ∃ p : TC, ∃ b off, some ad = some ⟨b, off, none⟩ ∧ b < W.heap.size ∧ CellC W b (off + i * 3) p ∧ p.1.size ≤ maxLen := fun i hi => by
      obtain ⟨cs', h1, h2⟩ := hel i (by omega)
      obtain ⟨_, hlen, hcell⟩ := World.cells?_some h1
      match cs', hlen with
      | [c0, c1, c2], _ =>
        obtain ⟨y0, y1, y2, n', _, _, e0, e1, e2⟩ := Deep.trod_struct3 Tryz.underlying114 h2
        simp [cells9, cells3, cells4] at e0 e1 e2
        obtain ⟨k, q0, _, z0⟩ := DataW.trod_string Tryz.underlying9 e0
        obtain ⟨p1, q1, _, _⟩ := DataW.trod_int Tryz.underlying3 e1
        obtain ⟨g, q2, _⟩ := DataW.trod_bool Tryz.underlying4 e2
        simp at q0 q1 q2
        subst q0 q1 q2
        have d0 := hcell 0 (by omega)
        have d1 := hcell 1 (by omega)
        have d2 := hcell 2 (by omega)
        obtain ⟨b, off, spot⟩ := ad
        obtain ⟨cs0, g1, _⟩ := hel 0 (by omega)
        have hs : spot = none := by
          have := World.cell?_spot ((World.cells?_some g1).2.2 0 (by omega) |>.trans (List.getElem?_eq_getElem (by rw [(World.cells?_some g1).2.1]; omega)))
          simpa [Addr.add] using this
        subst hs
        rw [add_plain, add_plain] at d0 d1 d2
        exact ⟨(k, p1, g), b, off, rfl, World.block_lt_of_cell? W _ d0, ⟨d0, d1, d2⟩, z0⟩
    obtain ⟨ns, hpl, hps⟩ := exists_listC l key
    exact ⟨ns, hpl, fun i hi => hps i (by omega), Nat.le_trans hl hm, hl⟩
set_option maxRecDepth 100000 in
theorem open_rowXc {H : Type} {enc : TypeId × Value → H} {W : World} {fuel : Nat} {v : Value} {x : DataW H × List MemPlace}
    (hf : DataW.trod enc Tryz.prog W 0 (fun _ => true) true fuel 47 [v] = some x) : ∃ a len cap, v = .slice a len cap ∧ ∃ ns : List TX, ns.length = len ∧ RowX W a ns ∧ len ≤ maxLen ∧ len ≤ cap := by
  rcases Deep.open_slice Tryz.underlying47 hf with ⟨hcs, _⟩ | ⟨ad, l, c, m, n, D, Pl, hcs, _, hl, hm, hmm, _, hel⟩
  · simp at hcs
    exact ⟨none, 0, 0, hcs, [], rfl, fun i hi => by simp at hi, Nat.zero_le _, Nat.le_refl _⟩
  · simp at hcs hmm
    subst hcs hmm
    refine ⟨_, _, _, rfl, ?_⟩
    rw [cells118] at hel
    have key : ∀ i, i < l → ∃ p : TX, ∃ b off ia ic, some ad = some ⟨b, off, none⟩ ∧ b < W.heap.size ∧ CellX W b (off + i * 2) ia ic p ∧ RowI W ia p.2 ∧ p.2.length ≤ maxLen ∧ p.1.size ≤ maxLen ∧ p.2.length ≤ ic := fun i hi => by
      obtain ⟨cs', h1, h2⟩ := hel i (by omega)
      obtain ⟨_, hlen, hcell⟩ := World.cells?_some h1
      match cs', hlen with
      | [c0, c1], _ =>
        obtain ⟨y0, y1, n', _, _, e0, e1⟩ := trod_struct2 Tryz.underlying118 h2
        simp [cells9, cells116] at e0 e1
        obtain ⟨k, q0, _, z0⟩ := DataW.trod_string Tryz.underlying9 e0
        obtain ⟨ia, il, ic, q1, is, rfl, hw, lw, lc⟩ := open_rowI e1
        simp at q0
        subst q0 q1
        have d0 := hcell 0 (by omega)
        have d1 := hcell 1 (by omega)
        obtain ⟨b, off, spot⟩ := ad
        obtain ⟨cs0, g1, _⟩ := hel 0 (by omega)
        have hs : spot = none := by
          have := World.cell?_spot ((World.cells?_some g1).2.2 0 (by omega) |>.trans (List.getElem?_eq_getElem (by rw [(World.cells?_some g1).2.1]; omega)))
          simpa [Addr.add] using this
        subst hs
        rw [add_plain, add_plain] at d0 d1
        exact ⟨(k, is), b, off, ia, ic, rfl, World.block_lt_of_cell? W _ d0, ⟨d0, d1⟩, hw, lw, z0, lc⟩
    obtain ⟨ns, hpl, hps⟩ := exists_listX l key
    exact ⟨ns, hpl, fun i hi => hps i (by omega), Nat.le_trans hl hm, hl⟩
set_option maxRecDepth 100000 in
theorem open_rowT {H : Type} {enc : TypeId × Value → H} {W : World} {fuel : Nat} {v : Value} {x : DataW H × List MemPlace}
    (hf : DataW.trod enc Tryz.prog W 0 (fun _ => true) true fuel 22 [v] = some x) : ∃ a len cap, v = .slice a len cap ∧ ∃ ns : List TT, ns.length = len ∧ RowT W a ns ∧ len ≤ maxLen := by
  rcases Deep.open_slice Tryz.underlying22 hf with ⟨hcs, _⟩ | ⟨ad, l, c, m, n, D, Pl, hcs, _, hl, hm, hmm, _, hel⟩
  · simp at hcs
    exact ⟨none, 0, 0, hcs, [], rfl, fun i hi => by simp at hi, Nat.zero_le _⟩
  · simp at hcs hmm
    subst hcs hmm
    refine ⟨_, _, _, rfl, ?_⟩
    rw [cells49] at hel
    have key : ∀ i, i < l → ∃ p : TT, ∃ b off ca cc xa xc, some ad = some ⟨b, off, none⟩ ∧ b < W.heap.size ∧ CellT W b (off + i * 4) ca cc xa xc p ∧ RowC W ca p.2.1 ∧ RowX W xa p.2.2.2 ∧ p.1.size ≤ maxLen ∧ p.2.1.length ≤ maxLen ∧ p.2.2.2.length ≤ maxLen ∧ p.2.1.length ≤ cc ∧ p.2.2.2.length ≤ xc := fun i hi => by
      obtain ⟨cs', h1, h2⟩ := hel i (by omega)
      obtain ⟨_, hlen, hcell⟩ := World.cells?_some h1
      match cs', hlen with
      | [c0, c1, c2, c3], _ =>
        obtain ⟨y0, y1, y2, y3, n', _, _, e0, e1, e2, e3⟩ := trod_struct4 Tryz.underlying49 h2
        simp [cells9, cells46, cells3, cells47] at e0 e1 e2 e3
        obtain ⟨nm, q0, _, z0⟩ := DataW.trod_string Tryz.underlying9 e0
        obtain ⟨ky, q2, _, _⟩ := DataW.trod_int Tryz.underlying3 e2
        obtain ⟨ca, cl, cc, q1, cs, rfl, hc, lc, kc⟩ := open_rowCc e1
        obtain ⟨xa, xl, xc, q3, xs, rfl, hx, lx, kx⟩ := open_rowXc e3
        simp at q0 q2
        subst q0 q1 q2 q3
        have d0 := hcell 0 (by omega)
        have d1 := hcell 1 (by omega)
        have d2 := hcell 2 (by omega)
        have d3 := hcell 3 (by omega)
        obtain ⟨b, off, spot⟩ := ad
        obtain ⟨cs0, g1, _⟩ := hel 0 (by omega)
        have hs : spot = none := by
          have := World.cell?_spot ((World.cells?_some g1).2.2 0 (by omega) |>.trans (List.getElem?_eq_getElem (by rw [(World.cells?_some g1).2.1]; omega)))
          simpa [Addr.add] using this
        subst hs
        rw [add_plain, add_plain] at d0 d1 d2 d3
        exact ⟨(nm, cs, ky, xs), b, off, ca, cc, xa, xc, rfl, World.block_lt_of_cell? W _ d0, ⟨d0, d1, d2, d3⟩, hc, hx, z0, lc, lx, kc, kx⟩
    obtain ⟨ns, hpl, hps⟩ := exists_listT l key
    exact ⟨ns, hpl, fun i hi => hps i (by omega), Nat.le_trans hl hm⟩

end Go.Proofs.YtepkdodicglilaaGreat
