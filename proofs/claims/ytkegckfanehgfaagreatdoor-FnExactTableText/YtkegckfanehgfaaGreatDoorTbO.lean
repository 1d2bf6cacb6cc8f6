/- How a table that is handed to a law is opened (stage 11). -/
import Derived.Test.YtkegckfanehgfaaGreatDoorTbC
import Derived.Deep.Slices
import Derived.Deep.Strs
import Derived.Deep.DeepHandedRow
import Derived.Lib.SmallJoins
namespace Go.Proofs.YtkegckfanehgfaaGreatDoor
open Go.ChangeShapes Go.WideShapes Go.ChangeAt Go.RowKit Go.Joins

theorem cells25 : Tryz.prog.cellsOf 25 = 4 := by kernel_rfl
theorem cells22 : Tryz.prog.cellsOf 22 = 1 := by kernel_rfl
theorem cells23 : Tryz.prog.cellsOf 23 = 1 := by kernel_rfl
theorem cells63 : Tryz.prog.cellsOf 63 = 3 := by kernel_rfl
theorem cells65 : Tryz.prog.cellsOf 65 = 2 := by kernel_rfl
theorem cells55 : Tryz.prog.cellsOf 55 = 1 := by kernel_rfl
theorem cells9 : Tryz.prog.cellsOf 9 = 1 := by kernel_rfl
theorem cells4 : Tryz.prog.cellsOf 4 = 1 := by kernel_rfl
theorem cells3 : Tryz.prog.cellsOf 3 = 1 := by kernel_rfl
theorem exists_listI {P : Nat → Int → Prop} : ∀ n, (∀ i, i < n → ∃ v, P i v) → ∃ vs : List (Int), vs.length = n ∧ ∀ i, i < n → P i (nthI vs i)
  | 0, _ => ⟨[], rfl, fun i hi => by omega⟩
  | n + 1, h => by
    obtain ⟨vs, hl, hv⟩ := exists_listI n (fun i hi => h i (by omega))
    obtain ⟨v, hp⟩ := h n (by omega)
    refine ⟨vs ++ [v], by simp [hl], fun i hi => ?_⟩
    by_cases e : i = n
    · subst e
      have : nthI (vs ++ [v]) i = v := by unfold nthI; simp [List.getD_eq_getElem?_getD, hl]
      rw [this]; exact hp
    · have : nthI (vs ++ [v]) i = nthI vs i := by unfold nthI; rw [List.getD_eq_getElem?_getD, List.getD_eq_getElem?_getD, List.getElem?_append_left (by omega)]
      rw [this]; exact hv i (by omega)
theorem exists_listC {P : Nat → TC → Prop} : ∀ n, (∀ i, i < n → ∃ v, P i v) → ∃ vs : List (TC), vs.length = n ∧ ∀ i, i < n → P i (nthC vs i)
  | 0, _ => ⟨[], rfl, fun i hi => by omega⟩
  | n + 1, h => by
    obtain ⟨vs, hl, hv⟩ := exists_listC n (fun i hi => h i (by omega))
    obtain ⟨v, hp⟩ := h n (by omega)
    refine ⟨vs ++ [v], by simp [hl], fun i hi => ?_⟩
    by_cases e : i = n
    · subst e
      have : nthC (vs ++ [v]) i = v := by unfold nthC; simp [List.getD_eq_getElem?_getD, hl]
      rw [this]; exact hp
    · have : nthC (vs ++ [v]) i = nthC vs i := by unfold nthC; rw [List.getD_eq_getElem?_getD, List.getD_eq_getElem?_getD, List.getElem?_append_left (by omega)]
      rw [this]; exact hv i (by omega)
theorem exists_listX {P : Nat → TX → Prop} : ∀ n, (∀ i, i < n → ∃ v, P i v) → ∃ vs : List (TX), vs.length = n ∧ ∀ i, i < n → P i (nthX vs i)
  | 0, _ => ⟨[], rfl, fun i hi => by omega⟩
  | n + 1, h => by
    obtain ⟨vs, hl, hv⟩ := exists_listX n (fun i hi => h i (by omega))
    obtain ⟨v, hp⟩ := h n (by omega)
    refine ⟨vs ++ [v], by simp [hl], fun i hi => ?_⟩
    by_cases e : i = n
    · subst e
      have : nthX (vs ++ [v]) i = v := by unfold nthX; simp [List.getD_eq_getElem?_getD, hl]
      rw [this]; exact hp
    · have : nthX (vs ++ [v]) i = nthX vs i := by unfold nthX; rw [List.getD_eq_getElem?_getD, List.getD_eq_getElem?_getD, List.getElem?_append_left (by omega)]
      rw [this]; exact hv i (by omega)
set_option maxRecDepth 100000 in
theorem open_rowI {H : Type} {enc : TypeId × Value → H} {W : World} {fuel : Nat} {v : Value} {x : DataW H × List MemPlace}
    (hf : DataW.trod enc Tryz.prog W 0 (fun _ => true) true fuel 55 [v] = some x) : ∃ a len cap, v = .slice a len cap ∧ ∃ ss : List Int, ss.length = len ∧ RowI W a ss ∧ len ≤ maxLen ∧ len ≤ cap := by
  rcases Deep.open_slice1 Tryz.underlying55 cells3 hf with ⟨hcs, _⟩ | ⟨ad, l, c, m, n, V, D, Pl, hcs, _, hl, hm, hmm, _, hel⟩
  · simp at hcs
    exact ⟨none, 0, 0, hcs, [], rfl, fun i hi => by simp at hi, Nat.zero_le _, Nat.le_refl _⟩
  · simp at hcs hmm
    subst hcs hmm
    refine ⟨_, _, _, rfl, ?_⟩
    have key : ∀ i, i < l → ∃ s : Int, ∃ b off, some ad = some ⟨b, off, none⟩ ∧ b < W.heap.size ∧ W.cell? ⟨b, off + i, none⟩ = some (.int .i64 s) := fun i hi => by
      obtain ⟨h1, h2⟩ := hel i (by omega)
      obtain ⟨t, q, _, ht⟩ := DataW.trod_int Tryz.underlying3 h2
      simp at q
      rw [q] at h1
      obtain ⟨b, off, spot⟩ := ad
      have hs : spot = none := by simpa [Addr.add] using World.cell?_spot (hel 0 (by omega)).1
      subst hs
      rw [add_plain] at h1
      exact ⟨t, b, off, rfl, World.block_lt_of_cell? W _ h1, h1⟩
    obtain ⟨ss, hsl, hss⟩ := exists_listI l key
    refine ⟨ss, hsl, fun i hi => ?_, Nat.le_trans hl hm, hl⟩
    obtain ⟨b, off, e, r⟩ := hss i (by omega)
    exact ⟨b, off, e, r⟩

set_option maxRecDepth 100000 in
theorem open_rowC {H : Type} {enc : TypeId × Value → H} {W : World} {fuel : Nat} {v : Value} {x : DataW H × List MemPlace}
    (hf : DataW.trod enc Tryz.prog W 0 (fun _ => true) true fuel 22 [v] = some x) : ∃ a len cap, v = .slice a len cap ∧ ∃ ns : List TC, ns.length = len ∧ RowC W a ns ∧ len ≤ maxLen := by
  rcases Deep.open_slice Tryz.underlying22 hf with ⟨hcs, _⟩ | ⟨ad, l, c, m, n, D, Pl, hcs, _, hl, hm, hmm, _, hel⟩
  · simp at hcs
    exact ⟨none, 0, 0, hcs, [], rfl, fun i hi => by simp at hi, Nat.zero_le _⟩
  · simp at hcs hmm
    subst hcs hmm
    refine ⟨_, _, _, rfl, ?_⟩
    rw [cells63] at hel
    have key : ∀ i, i < l → ∃ p : TC, ∃ b off, some ad = some ⟨b, off, none⟩ ∧ b < W.heap.size ∧ CellC W b (off + i * 3) p ∧ p.1.size ≤ maxLen := fun i hi => by
      obtain ⟨cs', h1, h2⟩ := hel i (by omega)
      obtain ⟨_, hlen, hcell⟩ := World.cells?_some h1
      match cs', hlen with
      | [c0, c1, c2], _ =>
        obtain ⟨y0, y1, y2, n', _, _, e0, e1, e2⟩ := Deep.trod_struct3 Tryz.underlying63 h2
        simp [cells9, cells3, cells4] at e0 e1 e2
        obtain ⟨k, q0, _, z0⟩ := DataW.trod_string Tryz.underlying9 e0
        obtain ⟨p1, q1, _, _⟩ := DataW.trod_int Tryz.underlying3 e1
        obtain ⟨g, q2, _⟩ := DataW.trod_bool Tryz.underlying4 e2
        simp at q0 q1 q2
        subst q0 q1 q2
        have d0 := hcell 0 (by omega)
        have d1 := hcell 1 (by omega)
        have d2 := hcell 2 (by omega)
        obtain ⟨b, off, spot⟩ := ad
        obtain ⟨cs0, g1, _⟩ := hel 0 (by omega)
        have hs : spot = none := by
          have := World.cell?_spot ((World.cells?_some g1).2.2 0 (by omega) |>.trans (List.getElem?_eq_getElem (by rw [(World.cells?_some g1).2.1]; omega)))
          simpa [Addr.add] using this
        subst hs
        rw [add_plain, add_plain] at d0 d1 d2
        exact ⟨(k, p1, g), b, off, rfl, World.block_lt_of_cell? W _ d0, ⟨d0, d1, d2⟩, z0⟩
    obtain ⟨ns, hpl, hps⟩ := exists_listC l key
    exact ⟨ns, hpl, fun i hi => hps i (by omega), Nat.le_trans hl hm⟩
set_option maxRecDepth 100000 in
theorem open_rowX {H : Type} {enc : TypeId × Value → H} {W : World} {fuel : Nat} {v : Value} {x : DataW H × List MemPlace}
    (hf : DataW.trod enc Tryz.prog W 0 (fun _ => true) true fuel 23 [v] = some x) : ∃ a len cap, v = .slice a len cap ∧ ∃ ns : List TX, ns.length = len ∧ RowX W a ns ∧ len ≤ maxLen := by
  rcases Deep.open_slice Tryz.underlying23 hf with ⟨hcs, _⟩ | ⟨ad, l, c, m, n, D, Pl, hcs, _, hl, hm, hmm, _, hel⟩
  · simp at hcs
    exact ⟨none, 0, 0, hcs, [], rfl, fun i hi => by simp at hi, Nat.zero_le _⟩
  · simp at hcs hmm
    subst hcs hmm
    refine ⟨_, _, _, rfl, ?_⟩
    rw [cells65] at hel
    have key : ∀ i, i < l → ∃ p : TX, ∃ b off ia ic, some ad = some ⟨b, off, none⟩ ∧ b < W.heap.size ∧ CellX W b (off + i * 2) ia ic p ∧ RowI W ia p.2 ∧ p.2.length ≤ maxLen ∧ p.1.size ≤ maxLen ∧ p.2.length ≤ ic := fun i hi => by
      obtain ⟨cs', h1, h2⟩ := hel i (by omega)
      obtain ⟨_, hlen, hcell⟩ := World.cells?_some h1
      match cs', hlen with
      | [c0, c1], _ =>
        obtain ⟨y0, y1, n', _, _, e0, e1⟩ := trod_struct2 Tryz.underlying65 h2
        simp [cells9, cells55] at e0 e1
        obtain ⟨k, q0, _, z0⟩ := DataW.trod_string Tryz.underlying9 e0
        obtain ⟨ia, il, ic, q1, is, rfl, hw, lw, lc⟩ := open_rowI e1
        simp at q0
        subst q0 q1
        have d0 := hcell 0 (by omega)
        have d1 := hcell 1 (by omega)
        obtain ⟨b, off, spot⟩ := ad
        obtain ⟨cs0, g1, _⟩ := hel 0 (by omega)
        have hs : spot = none := by
          have := World.cell?_spot ((World.cells?_some g1).2.2 0 (by omega) |>.trans (List.getElem?_eq_getElem (by rw [(World.cells?_some g1).2.1]; omega)))
          simpa [Addr.add] using this
        subst hs
        rw [add_plain, add_plain] at d0 d1
        exact ⟨(k, is), b, off, ia, ic, rfl, World.block_lt_of_cell? W _ d0, ⟨d0, d1⟩, hw, lw, z0, lc⟩
    obtain ⟨ns, hpl, hps⟩ := exists_listX l key
    exact ⟨ns, hpl, fun i hi => hps i (by omega), Nat.le_trans hl hm⟩
theorem array4 {α : Type} {cs : Array α} (h : cs.size = 4) : ∃ c0 c1 c2 c3, cs = #[c0, c1, c2, c3] := by
  obtain ⟨l⟩ := cs
  match l, h with
  | [c0, c1, c2, c3], _ => exact ⟨c0, c1, c2, c3, rfl⟩
set_option maxRecDepth 100000 in
theorem open_table {H : Type} {enc : TypeId × Value → H} {W : World} {base : Nat} {v : Value} {d : DataW H} {p : List MemPlace}
    (hv : Value.okWide Tryz.prog W .any base 25 v) (h : DataW.Trod enc Tryz.prog W 0 (fun _ => true) true 25 v d p) :
    ∃ (nm : ByteArray) (ca xa : Option Addr) (cc xc : Nat) (cs : List TC) (key : Int) (xs : List TX), v = TbV nm (.slice ca cs.length cc) key (.slice xa xs.length xc) ∧ RowC W ca cs ∧ RowX W xa xs ∧ cs.length ≤ maxLen ∧ xs.length ≤ maxLen ∧ nm.size ≤ maxLen := by
  obtain ⟨cs, rfl, hsz⟩ := okWide_struct Tryz.underlying25 hv
  obtain ⟨v0, v1, v2, v3, rfl⟩ := array4 (hsz.trans cells25)
  obtain ⟨fuel, hf⟩ := h
  obtain ⟨y0, y1, y2, y3, n, _, _, e0, e1, e2, e3⟩ := trod_struct4 Tryz.underlying25 hf
  simp [Value.cells, cells9, cells22, cells3, cells23] at e0 e1 e2 e3
  obtain ⟨nm, q0, _, z0⟩ := DataW.trod_string Tryz.underlying9 e0
  obtain ⟨key, q2, _, _⟩ := DataW.trod_int Tryz.underlying3 e2
  simp at q0 q2
  subst q0 q2
  obtain ⟨ca, n1, cc, rfl, cs, rfl, h1, l1⟩ := open_rowC e1
  obtain ⟨xa, n2, xc, rfl, xs, rfl, h2, l2⟩ := open_rowX e3
  exact ⟨nm, ca, xa, cc, xc, cs, key, xs, rfl, h1, h2, l1, l2, z0⟩
end Go.Proofs.YtkegckfanehgfaaGreatDoor
