/- How a guard that is handed to a law is opened (stage 15). -/
import Derived.Test.YtepkdodicglilaaGreatGdA
import Derived.Test.YtepkdodicglilaaGreatTbO
namespace Go.Proofs.YtepkdodicglilaaGreat
open Go.ChangeShapes Go.WideShapes Go.ChangeAt Go.RowKit Go.Joins

theorem cells36 : Tryz.prog.cellsOf 36 = 3 := by kernel_rfl
theorem cells34 : Tryz.prog.cellsOf 34 = 1 := by kernel_rfl
theorem cells106 : Tryz.prog.cellsOf 106 = 2 := by kernel_rfl
theorem array3 {α : Type} {cs : Array α} (h : cs.size = 3) : ∃ c0 c1 c2, cs = #[c0, c1, c2] := by
  obtain ⟨l⟩ := cs
  match l, h with
  | [c0, c1, c2], _ => exact ⟨c0, c1, c2, rfl⟩
theorem exists_listY {P : Nat → TY → Prop} : ∀ n, (∀ i, i < n → ∃ v, P i v) → ∃ vs : List (TY), vs.length = n ∧ ∀ i, i < n → P i (nthY vs i)
  | 0, _ => ⟨[], rfl, fun i hi => by omega⟩
  | n + 1, h => by
    obtain ⟨vs, hl, hv⟩ := exists_listY n (fun i hi => h i (by omega))
    obtain ⟨v, hp⟩ := h n (by omega)
    refine ⟨vs ++ [v], by simp [hl], fun i hi => ?_⟩
    by_cases e : i = n
    · subst e
      have : nthY (vs ++ [v]) i = v := by unfold nthY; simp [List.getD_eq_getElem?_getD, hl]
      rw [this]; exact hp
    · have : nthY (vs ++ [v]) i = nthY vs i := by unfold nthY; rw [List.getD_eq_getElem?_getD, List.getD_eq_getElem?_getD, List.getElem?_append_left (by omega)]
      rw [this]; exact hv i (by omega)
set_option maxRecDepth 100000 in
theorem open_rowY {H : Type} {enc : TypeId × Value → H} {W : World} {fuel : Nat} {v : Value} {x : DataW H × List MemPlace}
    (hf : DataW.trod enc Tryz.prog W 0 (fun _ => true) true fuel 34 [v] = some x) : ∃ a len cap, v = .slice a len cap ∧ ∃ ns : List TY, ns.length = len ∧ RowY W a ns ∧ len ≤ maxLen := by
  rcases Deep.open_slice Tryz.underlying34 hf with ⟨hcs, _⟩ | ⟨ad, l, c, m, n, D, Pl, hcs, _, hl, hm, hmm, _, hel⟩
  · simp at hcs
    exact ⟨none, 0, 0, hcs, [], rfl, fun i hi => by simp at hi, Nat.zero_le _⟩
  · simp at hcs hmm
    subst hcs hmm
    refine ⟨_, _, _, rfl, ?_⟩
    rw [cells106] at hel
    have key : ∀ i, i < l → ∃ p : TY, ∃ b off, some ad = some ⟨b, off, none⟩ ∧ b < W.heap.size ∧ CellY W b (off + i * 2) p ∧ p.1.size ≤ maxLen ∧ p.2.size ≤ maxLen := fun i hi => by
      obtain ⟨cs', h1, h2⟩ := hel i (by omega)
      obtain ⟨_, hlen, hcell⟩ := World.cells?_some h1
      match cs', hlen with
      | [c0, c1], _ =>
        obtain ⟨y0, y1, n', _, _, e0, e1⟩ := trod_struct2 Tryz.underlying106 h2
        simp [cells9] at e0 e1
        obtain ⟨k, q0, _, z0⟩ := DataW.trod_string Tryz.underlying9 e0
        obtain ⟨g, q1, _, z1⟩ := DataW.trod_string Tryz.underlying9 e1
        simp at q0 q1
        subst q0 q1
        have d0 := hcell 0 (by omega)
        have d1 := hcell 1 (by omega)
        obtain ⟨b, off, spot⟩ := ad
        obtain ⟨cs0, g1, _⟩ := hel 0 (by omega)
        have hs : spot = none := by
          have := World.cell?_spot ((World.cells?_some g1).2.2 0 (by omega) |>.trans (List.getElem?_eq_getElem (by rw [(World.cells?_some g1).2.1]; omega)))
          simpa [Addr.add] using this
        subst hs
        rw [add_plain, add_plain] at d0 d1
        exact ⟨(k, g), b, off, rfl, World.block_lt_of_cell? W _ d0, ⟨d0, d1⟩, z0, z1⟩
    obtain ⟨ns, hpl, hps⟩ := exists_listY l key
    exact ⟨ns, hpl, fun i hi => hps i (by omega), Nat.le_trans hl hm⟩
set_option maxRecDepth 100000 in
theorem open_guard {H : Type} {enc : TypeId × Value → H} {W : World} {base : Nat} {v : Value} {d : DataW H} {p : List MemPlace}
    (hv : Value.okWide Tryz.prog W .any base 36 v) (h : DataW.Trod enc Tryz.prog W 0 (fun _ => true) true 36 v d p) :
    ∃ (nm : ByteArray) (col : Int) (ya : Option Addr) (yc : Nat) (ys : List TY), v = GdV nm col (.slice ya ys.length yc) ∧ RowY W ya ys ∧ ys.length ≤ maxLen ∧ nm.size ≤ maxLen := by
  obtain ⟨cs, rfl, hsz⟩ := okWide_struct Tryz.underlying36 hv
  obtain ⟨v0, v1, v2, rfl⟩ := array3 (hsz.trans cells36)
  obtain ⟨fuel, hf⟩ := h
  obtain ⟨y0, y1, y2, n, _, _, e0, e1, e2⟩ := Deep.trod_struct3 Tryz.underlying36 hf
  simp [Value.cells, cells9, cells3, cells34] at e0 e1 e2
  obtain ⟨nm, q0, _, z0⟩ := DataW.trod_string Tryz.underlying9 e0
  obtain ⟨col, q1, _, _⟩ := DataW.trod_int Tryz.underlying3 e1
  simp at q0 q1
  subst q0 q1
  obtain ⟨ya, n1, yc, rfl, ys, rfl, h1, l1⟩ := open_rowY e2
  exact ⟨nm, col, ya, yc, ys, rfl, h1, l1, z0⟩
end Go.Proofs.YtepkdodicglilaaGreat
