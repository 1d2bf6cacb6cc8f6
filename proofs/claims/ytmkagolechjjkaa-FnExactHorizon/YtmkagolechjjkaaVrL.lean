/- How a base that is handed to a law is opened (stage 7). -/
import Derived.Test.YtmkagolechjjkaaVrC
import Derived.Deep.Slices
import Derived.Deep.Strs
import Derived.Deep.DeepHandedRow
import Derived.Lib.SmallJoins
namespace Go.Proofs.Ytmkagolechjjkaa
open Go.ChangeShapes Go.WideShapes Go.ChangeAt Go.RowKit Go.Joins

theorem cells33 : Try.prog.cellsOf 33 = 3 := by kernel_rfl
theorem cells30 : Try.prog.cellsOf 30 = 1 := by kernel_rfl
theorem cells31 : Try.prog.cellsOf 31 = 1 := by kernel_rfl
theorem cells87 : Try.prog.cellsOf 87 = 4 := by kernel_rfl
theorem cells91 : Try.prog.cellsOf 91 = 3 := by kernel_rfl
theorem cells89 : Try.prog.cellsOf 89 = 1 := by kernel_rfl
theorem cells111 : Try.prog.cellsOf 111 = 3 := by kernel_rfl
theorem cells9 : Try.prog.cellsOf 9 = 1 := by kernel_rfl
theorem cells4 : Try.prog.cellsOf 4 = 1 := by kernel_rfl
theorem cells3 : Try.prog.cellsOf 3 = 1 := by kernel_rfl

theorem exists_listV {P : Nat → TV → Prop} : ∀ n, (∀ i, i < n → ∃ v, P i v) → ∃ vs : List TV, vs.length = n ∧ ∀ i, i < n → P i (nthV vs i)
  | 0, _ => ⟨[], rfl, fun i hi => by omega⟩
  | n + 1, h => by
    obtain ⟨vs, hl, hv⟩ := exists_listV n (fun i hi => h i (by omega))
    obtain ⟨v, hp⟩ := h n (by omega)
    refine ⟨vs ++ [v], by simp [hl], fun i hi => ?_⟩
    by_cases e : i = n
    · subst e
      have : nthV (vs ++ [v]) i = v := by unfold nthV; simp [List.getD_eq_getElem?_getD, hl]
      rw [this]; exact hp
    · have : nthV (vs ++ [v]) i = nthV vs i := by unfold nthV; rw [List.getD_eq_getElem?_getD, List.getD_eq_getElem?_getD, List.getElem?_append_left (by omega)]
      rw [this]; exact hv i (by omega)
theorem exists_listW {P : Nat → TW → Prop} : ∀ n, (∀ i, i < n → ∃ v, P i v) → ∃ vs : List TW, vs.length = n ∧ ∀ i, i < n → P i (nthW vs i)
  | 0, _ => ⟨[], rfl, fun i hi => by omega⟩
  | n + 1, h => by
    obtain ⟨vs, hl, hv⟩ := exists_listW n (fun i hi => h i (by omega))
    obtain ⟨v, hp⟩ := h n (by omega)
    refine ⟨vs ++ [v], by simp [hl], fun i hi => ?_⟩
    by_cases e : i = n
    · subst e
      have : nthW (vs ++ [v]) i = v := by unfold nthW; simp [List.getD_eq_getElem?_getD, hl]
      rw [this]; exact hp
    · have : nthW (vs ++ [v]) i = nthW vs i := by unfold nthW; rw [List.getD_eq_getElem?_getD, List.getD_eq_getElem?_getD, List.getElem?_append_left (by omega)]
      rw [this]; exact hv i (by omega)
theorem exists_listX {P : Nat → TX → Prop} : ∀ n, (∀ i, i < n → ∃ v, P i v) → ∃ vs : List TX, vs.length = n ∧ ∀ i, i < n → P i (nthX vs i)
  | 0, _ => ⟨[], rfl, fun i hi => by omega⟩
  | n + 1, h => by
    obtain ⟨vs, hl, hv⟩ := exists_listX n (fun i hi => h i (by omega))
    obtain ⟨v, hp⟩ := h n (by omega)
    refine ⟨vs ++ [v], by simp [hl], fun i hi => ?_⟩
    by_cases e : i = n
    · subst e
      have : nthX (vs ++ [v]) i = v := by unfold nthX; simp [List.getD_eq_getElem?_getD, hl]
      rw [this]; exact hp
    · have : nthX (vs ++ [v]) i = nthX vs i := by unfold nthX; rw [List.getD_eq_getElem?_getD, List.getD_eq_getElem?_getD, List.getElem?_append_left (by omega)]
      rw [this]; exact hv i (by omega)
set_option maxRecDepth 100000 in
theorem open_rowV {H : Type} {enc : TypeId × Value → H} {W : World} {fuel : Nat} {v : Value} {x : DataW H × List MemPlace}
    (hf : DataW.trod enc Try.prog W 0 (fun _ => true) true fuel 30 [v] = some x) : ∃ a len cap, v = .slice a len cap ∧ ∃ ns : List TV, ns.length = len ∧ RowV W a ns ∧ len ≤ maxLen := by
  rcases Deep.open_slice Try.underlying30 hf with ⟨hcs, _⟩ | ⟨ad, l, c, m, n, D, Pl, hcs, _, hl, hm, hmm, _, hel⟩
  · simp at hcs
    exact ⟨none, 0, 0, hcs, [], rfl, fun i hi => by simp at hi, Nat.zero_le _⟩
  · simp at hcs hmm
    subst hcs hmm
    refine ⟨_, _, _, rfl, ?_⟩
    rw [cells87] at hel
    have key : ∀ i, i < l → ∃ p : TV, ∃ b off, some ad = some ⟨b, off, none⟩ ∧ b < W.heap.size ∧ CellV W b (off + i * 4) p ∧ p.1.size ≤ maxLen ∧ p.2.2.2.size ≤ maxLen := fun i hi => by
      obtain ⟨cs', h1, h2⟩ := hel i (by omega)
      obtain ⟨_, hlen, hcell⟩ := World.cells?_some h1
      match cs', hlen with
      | [c0, c1, c2, c3], _ =>
        obtain ⟨y0, y1, y2, y3, n', _, _, e0, e1, e2, e3⟩ := trod_struct4 Try.underlying87 h2
        simp [cells9, cells3] at e0 e1 e2 e3
        obtain ⟨k, q0, _, z0⟩ := DataW.trod_string Try.underlying9 e0
        obtain ⟨p1, q1, _, _⟩ := DataW.trod_int Try.underlying3 e1
        obtain ⟨p2, q2, _, _⟩ := DataW.trod_int Try.underlying3 e2
        obtain ⟨v, q3, _, z3⟩ := DataW.trod_string Try.underlying9 e3
        simp at q0 q1 q2 q3
        subst q0 q1 q2 q3
        have d0 := hcell 0 (by omega)
        have d1 := hcell 1 (by omega)
        have d2 := hcell 2 (by omega)
        have d3 := hcell 3 (by omega)
        obtain ⟨b, off, spot⟩ := ad
        obtain ⟨cs0, g1, _⟩ := hel 0 (by omega)
        have hs : spot = none := by
          have := World.cell?_spot ((World.cells?_some g1).2.2 0 (by omega) |>.trans (List.getElem?_eq_getElem (by rw [(World.cells?_some g1).2.1]; omega)))
          simpa [Addr.add] using this
        subst hs
        rw [add_plain, add_plain] at d0 d1 d2 d3
        exact ⟨(k, p1, p2, v), b, off, rfl, World.block_lt_of_cell? W _ d0, ⟨d0, d1, d2, d3⟩, z0, z3⟩
    obtain ⟨ns, hpl, hps⟩ := exists_listV l key
    exact ⟨ns, hpl, fun i hi => hps i (by omega), Nat.le_trans hl hm⟩
set_option maxRecDepth 100000 in
theorem open_rowW {H : Type} {enc : TypeId × Value → H} {W : World} {fuel : Nat} {v : Value} {x : DataW H × List MemPlace}
    (hf : DataW.trod enc Try.prog W 0 (fun _ => true) true fuel 89 [v] = some x) : ∃ a len cap, v = .slice a len cap ∧ ∃ ns : List TW, ns.length = len ∧ RowW W a ns ∧ len ≤ maxLen := by
  rcases Deep.open_slice Try.underlying89 hf with ⟨hcs, _⟩ | ⟨ad, l, c, m, n, D, Pl, hcs, _, hl, hm, hmm, _, hel⟩
  · simp at hcs
    exact ⟨none, 0, 0, hcs, [], rfl, fun i hi => by simp at hi, Nat.zero_le _⟩
  · simp at hcs hmm
    subst hcs hmm
    refine ⟨_, _, _, rfl, ?_⟩
    rw [cells111] at hel
    have key : ∀ i, i < l → ∃ p : TW, ∃ b off, some ad = some ⟨b, off, none⟩ ∧ b < W.heap.size ∧ CellW W b (off + i * 3) p ∧ p.1.size ≤ maxLen ∧ p.2.1.size ≤ maxLen := fun i hi => by
      obtain ⟨cs', h1, h2⟩ := hel i (by omega)
      obtain ⟨_, hlen, hcell⟩ := World.cells?_some h1
      match cs', hlen with
      | [c0, c1, c2], _ =>
        obtain ⟨y0, y1, y2, n', _, _, e0, e1, e2⟩ := Deep.trod_struct3 Try.underlying111 h2
        simp [cells9, cells4] at e0 e1 e2
        obtain ⟨k, q0, _, z0⟩ := DataW.trod_string Try.underlying9 e0
        obtain ⟨v, q1, _, z1⟩ := DataW.trod_string Try.underlying9 e1
        obtain ⟨g, q2, _⟩ := DataW.trod_bool Try.underlying4 e2
        simp at q0 q1 q2
        subst q0 q1 q2
        have d0 := hcell 0 (by omega)
        have d1 := hcell 1 (by omega)
        have d2 := hcell 2 (by omega)
        obtain ⟨b, off, spot⟩ := ad
        obtain ⟨cs0, g1, _⟩ := hel 0 (by omega)
        have hs : spot = none := by
          have := World.cell?_spot ((World.cells?_some g1).2.2 0 (by omega) |>.trans (List.getElem?_eq_getElem (by rw [(World.cells?_some g1).2.1]; omega)))
          simpa [Addr.add] using this
        subst hs
        rw [add_plain, add_plain] at d0 d1 d2
        exact ⟨(k, v, g), b, off, rfl, World.block_lt_of_cell? W _ d0, ⟨d0, d1, d2⟩, z0, z1⟩
    obtain ⟨ns, hpl, hps⟩ := exists_listW l key
    exact ⟨ns, hpl, fun i hi => hps i (by omega), Nat.le_trans hl hm⟩
set_option maxRecDepth 100000 in
theorem open_rowX {H : Type} {enc : TypeId × Value → H} {W : World} {fuel : Nat} {v : Value} {x : DataW H × List MemPlace}
    (hf : DataW.trod enc Try.prog W 0 (fun _ => true) true fuel 31 [v] = some x) : ∃ a len cap, v = .slice a len cap ∧ ∃ ns : List TX, ns.length = len ∧ RowX W a ns ∧ len ≤ maxLen := by
  rcases Deep.open_slice Try.underlying31 hf with ⟨hcs, _⟩ | ⟨ad, l, c, m, n, D, Pl, hcs, _, hl, hm, hmm, _, hel⟩
  · simp at hcs
    exact ⟨none, 0, 0, hcs, [], rfl, fun i hi => by simp at hi, Nat.zero_le _⟩
  · simp at hcs hmm
    subst hcs hmm
    refine ⟨_, _, _, rfl, ?_⟩
    rw [cells91] at hel
    have key : ∀ i, i < l → ∃ p : TX, ∃ b off wa wc, some ad = some ⟨b, off, none⟩ ∧ b < W.heap.size ∧ CellX W b (off + i * 3) wa wc p ∧ RowW W wa p.2.2 ∧ p.2.2.length ≤ maxLen := fun i hi => by
      obtain ⟨cs', h1, h2⟩ := hel i (by omega)
      obtain ⟨_, hlen, hcell⟩ := World.cells?_some h1
      match cs', hlen with
      | [c0, c1, c2], _ =>
        obtain ⟨y0, y1, y2, n', _, _, e0, e1, e2⟩ := Deep.trod_struct3 Try.underlying91 h2
        simp [cells4, cells3, cells89] at e0 e1 e2
        obtain ⟨o, q0, _⟩ := DataW.trod_bool Try.underlying4 e0
        obtain ⟨s, q1, _, _⟩ := DataW.trod_int Try.underlying3 e1
        obtain ⟨wa, wl, wc, q2, ws, rfl, hw, lw⟩ := open_rowW e2
        simp at q0 q1
        subst q0 q1 q2
        have d0 := hcell 0 (by omega)
        have d1 := hcell 1 (by omega)
        have d2 := hcell 2 (by omega)
        obtain ⟨b, off, spot⟩ := ad
        obtain ⟨cs0, g1, _⟩ := hel 0 (by omega)
        have hs : spot = none := by
          have := World.cell?_spot ((World.cells?_some g1).2.2 0 (by omega) |>.trans (List.getElem?_eq_getElem (by rw [(World.cells?_some g1).2.1]; omega)))
          simpa [Addr.add] using this
        subst hs
        rw [add_plain, add_plain] at d0 d1 d2
        exact ⟨(o, s, ws), b, off, wa, wc, rfl, World.block_lt_of_cell? W _ d0, ⟨d0, d1, d2⟩, hw, lw⟩
    obtain ⟨ns, hpl, hps⟩ := exists_listX l key
    exact ⟨ns, hpl, fun i hi => hps i (by omega), Nat.le_trans hl hm⟩
theorem array3 {α : Type} {cs : Array α} (h : cs.size = 3) : ∃ c0 c1 c2, cs = #[c0, c1, c2] := by
  obtain ⟨l⟩ := cs
  match l, h with
  | [c0, c1, c2], _ => exact ⟨c0, c1, c2, rfl⟩
set_option maxRecDepth 100000 in
theorem open_base {H : Type} {enc : TypeId × Value → H} {W : World} {base : Nat} {v : Value} {d : DataW H} {p : List MemPlace}
    (hv : Value.okWide Try.prog W .any base 33 v) (h : DataW.Trod enc Try.prog W 0 (fun _ => true) true 33 v d p) :
    ∃ (t : Int) (va xa : Option Addr) (vc xc : Nat) (vs : List TV) (xs : List TX), v = BW t (.slice va vs.length vc) (.slice xa xs.length xc) ∧ RowV W va vs ∧ RowX W xa xs ∧ vs.length ≤ maxLen ∧ xs.length ≤ maxLen := by
  obtain ⟨cs, rfl, hsz⟩ := okWide_struct Try.underlying33 hv
  obtain ⟨v0, v1, v2, rfl⟩ := array3 (hsz.trans cells33)
  obtain ⟨fuel, hf⟩ := h
  obtain ⟨y0, y1, y2, n, _, _, e0, e1, e2⟩ := Deep.trod_struct3 Try.underlying33 hf
  simp [Value.cells, cells3, cells30, cells31] at e0 e1 e2
  obtain ⟨t, q0, _, _⟩ := DataW.trod_int Try.underlying3 e0
  simp at q0
  subst q0
  obtain ⟨va, n1, vc, rfl, vs, rfl, h1, l1⟩ := open_rowV e1
  obtain ⟨xa, n2, xc, rfl, xs, rfl, h2, l2⟩ := open_rowX e2
  exact ⟨t, va, xa, vc, xc, vs, xs, rfl, h1, h2, l1, l2⟩
end Go.Proofs.Ytmkagolechjjkaa
