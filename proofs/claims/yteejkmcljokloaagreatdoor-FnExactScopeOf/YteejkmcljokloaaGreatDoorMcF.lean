/- How the arguments are opened, and the library's variable (stage 16). -/
import Derived.Test.YteejkmcljokloaaGreatDoorTbC
import Derived.Deep.Slices
import Derived.Deep.Strs
import Derived.Deep.DeepHandedRow
import Derived.Lib.SmallJoins
import Derived.Test.YteejkmcljokloaaGreatDoorTbD
import Derived.Deep.RegionHeld3
import Derived.Test.YteejkmcljokloaaGreatDoorTrA
import Derived.Test.YteejkmcljokloaaGreatDoorAsD
import Derived.Test.YteejkmcljokloaaGreatDoorCards
import Derived.Test.YteejkmcljokloaaGreatDoorTie
import Derived.LaidLaws
import Derived.LaidHandle
import Derived.ChangeVars
import Derived.OpenVars
namespace Go.Proofs.YteejkmcljokloaaGreatDoor
open Go.ChangeShapes Go.WideShapes Go.ChangeAt Go.RowKit Go.Joins

theorem cells51 : Tryz.prog.cellsOf 51 = 4 := by kernel_rfl
theorem cells48 : Tryz.prog.cellsOf 48 = 1 := by kernel_rfl
theorem cells49 : Tryz.prog.cellsOf 49 = 1 := by kernel_rfl
theorem cells107 : Tryz.prog.cellsOf 107 = 3 := by kernel_rfl
theorem cells109 : Tryz.prog.cellsOf 109 = 2 := by kernel_rfl
theorem cells102 : Tryz.prog.cellsOf 102 = 1 := by kernel_rfl
theorem cells9b : Tryz.prog.cellsOf 9 = 1 := by kernel_rfl
theorem cells4 : Tryz.prog.cellsOf 4 = 1 := by kernel_rfl
theorem cells3b : Tryz.prog.cellsOf 3 = 1 := by kernel_rfl
theorem exists_listI {P : Nat → Int → Prop} : ∀ n, (∀ i, i < n → ∃ v, P i v) → ∃ vs : List (Int), vs.length = n ∧ ∀ i, i < n → P i (nthI vs i)
  | 0, _ => ⟨[], rfl, fun i hi => by omega⟩
  | n + 1, h => by
    obtain ⟨vs, hl, hv⟩ := exists_listI n (fun i hi => h i (by omega))
    obtain ⟨v, hp⟩ := h n (by omega)
    refine ⟨vs ++ [v], by simp [hl], fun i hi => ?_⟩
    by_cases e : i = n
    · subst e
      have : nthI (vs ++ [v]) i = v := by unfold nthI; simp [List.getD_eq_getElem?_getD, hl]
      rw [this]; exact hp
    · have : nthI (vs ++ [v]) i = nthI vs i := by unfold nthI; rw [List.getD_eq_getElem?_getD, List.getD_eq_getElem?_getD, List.getElem?_append_left (by omega)]
      rw [this]; exact hv i (by omega)
theorem exists_listC {P : Nat → TC → Prop} : ∀ n, (∀ i, i < n → ∃ v, P i v) → ∃ vs : List (TC), vs.length = n ∧ ∀ i, i < n → P i (nthC vs i)
  | 0, _ => ⟨[], rfl, fun i hi => by omega⟩
  | n + 1, h => by
    obtain ⟨vs, hl, hv⟩ := exists_listC n (fun i hi => h i (by omega))
    obtain ⟨v, hp⟩ := h n (by omega)
    refine ⟨vs ++ [v], by simp [hl], fun i hi => ?_⟩
    by_cases e : i = n
    · subst e
      have : nthC (vs ++ [v]) i = v := by unfold nthC; simp [List.getD_eq_getElem?_getD, hl]
      rw [this]; exact hp
    · have : nthC (vs ++ [v]) i = nthC vs i := by unfold nthC; rw [List.getD_eq_getElem?_getD, List.getD_eq_getElem?_getD, List.getElem?_append_left (by omega)]
      rw [this]; exact hv i (by omega)
theorem exists_listX {P : Nat → TX → Prop} : ∀ n, (∀ i, i < n → ∃ v, P i v) → ∃ vs : List (TX), vs.length = n ∧ ∀ i, i < n → P i (nthX vs i)
  | 0, _ => ⟨[], rfl, fun i hi => by omega⟩
  | n + 1, h => by
    obtain ⟨vs, hl, hv⟩ := exists_listX n (fun i hi => h i (by omega))
    obtain ⟨v, hp⟩ := h n (by omega)
    refine ⟨vs ++ [v], by simp [hl], fun i hi => ?_⟩
    by_cases e : i = n
    · subst e
      have : nthX (vs ++ [v]) i = v := by unfold nthX; simp [List.getD_eq_getElem?_getD, hl]
      rw [this]; exact hp
    · have : nthX (vs ++ [v]) i = nthX vs i := by unfold nthX; rw [List.getD_eq_getElem?_getD, List.getD_eq_getElem?_getD, List.getElem?_append_left (by omega)]
      rw [this]; exact hv i (by omega)
set_option maxRecDepth 100000 in
theorem open_rowI {H : Type} {enc : TypeId × Value → H} {W : World} {fuel : Nat} {v : Value} {x : DataW H × List MemPlace}
    (hf : DataW.trod enc Tryz.prog W 0 (fun _ => true) true fuel 102 [v] = some x) : ∃ a len cap, v = .slice a len cap ∧ ∃ ss : List Int, ss.length = len ∧ RowI W a ss ∧ len ≤ maxLen ∧ len ≤ cap := by
  rcases Deep.open_slice1 Tryz.underlying102 cells3b hf with ⟨hcs, _⟩ | ⟨ad, l, c, m, n, V, D, Pl, hcs, _, hl, hm, hmm, _, hel⟩
  · simp at hcs
    exact ⟨none, 0, 0, hcs, [], rfl, fun i hi => by simp at hi, Nat.zero_le _, Nat.le_refl _⟩
  · simp at hcs hmm
    subst hcs hmm
    refine ⟨_, _, _, rfl, ?_⟩
    have key : ∀ i, i < l → ∃ s : Int, ∃ b off, some ad = some ⟨b, off, none⟩ ∧ b < W.heap.size ∧ W.cell? ⟨b, off + i, none⟩ = some (.int .i64 s) := fun i hi => by
      obtain ⟨h1, h2⟩ := hel i (by omega)
      obtain ⟨t, q, _, ht⟩ := DataW.trod_int Tryz.underlying3 h2
      simp at q
      rw [q] at h1
      obtain ⟨b, off, spot⟩ := ad
      have hs : spot = none := by simpa [Addr.add] using World.cell?_spot (hel 0 (by omega)).1
      subst hs
      rw [add_plain] at h1
      exact ⟨t, b, off, rfl, World.block_lt_of_cell? W _ h1, h1⟩
    obtain ⟨ss, hsl, hss⟩ := exists_listI l key
    refine ⟨ss, hsl, fun i hi => ?_, Nat.le_trans hl hm, hl⟩
    obtain ⟨b, off, e, r⟩ := hss i (by omega)
    exact ⟨b, off, e, r⟩

set_option maxRecDepth 100000 in
theorem open_rowC {H : Type} {enc : TypeId × Value → H} {W : World} {fuel : Nat} {v : Value} {x : DataW H × List MemPlace}
    (hf : DataW.trod enc Tryz.prog W 0 (fun _ => true) true fuel 48 [v] = some x) : ∃ a len cap, v = .slice a len cap ∧ ∃ ns : List TC, ns.length = len ∧ RowC W a ns ∧ len ≤ maxLen := by
  rcases Deep.open_slice Tryz.underlying48 hf with ⟨hcs, _⟩ | ⟨ad, l, c, m, n, D, Pl, hcs, _, hl, hm, hmm, _, hel⟩
  · simp at hcs
    exact ⟨none, 0, 0, hcs, [], rfl, fun i hi => by simp at hi, Nat.zero_le _⟩
  · simp at hcs hmm
    subst hcs hmm
    refine ⟨_, _, _, rfl, ?_⟩
    rw [cells107] at hel
    have key : ∀ i, i < l → ∃ p : TC, ∃ b off, some ad = some ⟨b, off, none⟩ ∧ b < W.heap.size ∧ CellC W b (off + i * 3) p ∧ p.1.size ≤ maxLen := fun i hi => by
      obtain ⟨cs', h1, h2⟩ := hel i (by omega)
      obtain ⟨_, hlen, hcell⟩ := World.cells?_some h1
      match cs', hlen with
      | [c0, c1, c2], _ =>
        obtain ⟨y0, y1, y2, n', _, _, e0, e1, e2⟩ := Deep.trod_struct3 Tryz.underlying107 h2
        simp [cells9b, cells3b, cells4] at e0 e1 e2
        obtain ⟨k, q0, _, z0⟩ := DataW.trod_string Tryz.underlying9 e0
        obtain ⟨p1, q1, _, _⟩ := DataW.trod_int Tryz.underlying3 e1
        obtain ⟨g, q2, _⟩ := DataW.trod_bool Tryz.underlying4 e2
        simp at q0 q1 q2
        subst q0 q1 q2
        have d0 := hcell 0 (by omega)
        have d1 := hcell 1 (by omega)
        have d2 := hcell 2 (by omega)
        obtain ⟨b, off, spot⟩ := ad
        obtain ⟨cs0, g1, _⟩ := hel 0 (by omega)
        have hs : spot = none := by
          have := World.cell?_spot ((World.cells?_some g1).2.2 0 (by omega) |>.trans (List.getElem?_eq_getElem (by rw [(World.cells?_some g1).2.1]; omega)))
          simpa [Addr.add] using this
        subst hs
        rw [add_plain, add_plain] at d0 d1 d2
        exact ⟨(k, p1, g), b, off, rfl, World.block_lt_of_cell? W _ d0, ⟨d0, d1, d2⟩, z0⟩
    obtain ⟨ns, hpl, hps⟩ := exists_listC l key
    exact ⟨ns, hpl, fun i hi => hps i (by omega), Nat.le_trans hl hm⟩
set_option maxRecDepth 100000 in
theorem open_rowX {H : Type} {enc : TypeId × Value → H} {W : World} {fuel : Nat} {v : Value} {x : DataW H × List MemPlace}
    (hf : DataW.trod enc Tryz.prog W 0 (fun _ => true) true fuel 49 [v] = some x) : ∃ a len cap, v = .slice a len cap ∧ ∃ ns : List TX, ns.length = len ∧ RowX W a ns ∧ len ≤ maxLen := by
  rcases Deep.open_slice Tryz.underlying49 hf with ⟨hcs, _⟩ | ⟨ad, l, c, m, n, D, Pl, hcs, _, hl, hm, hmm, _, hel⟩
  · simp at hcs
    exact ⟨none, 0, 0, hcs, [], rfl, fun i hi => by simp at hi, Nat.zero_le _⟩
  · simp at hcs hmm
    subst hcs hmm
    refine ⟨_, _, _, rfl, ?_⟩
    rw [cells109] at hel
    have key : ∀ i, i < l → ∃ p : TX, ∃ b off ia ic, some ad = some ⟨b, off, none⟩ ∧ b < W.heap.size ∧ CellX W b (off + i * 2) ia ic p ∧ RowI W ia p.2 ∧ p.2.length ≤ maxLen ∧ p.1.size ≤ maxLen ∧ p.2.length ≤ ic := fun i hi => by
      obtain ⟨cs', h1, h2⟩ := hel i (by omega)
      obtain ⟨_, hlen, hcell⟩ := World.cells?_some h1
      match cs', hlen with
      | [c0, c1], _ =>
        obtain ⟨y0, y1, n', _, _, e0, e1⟩ := trod_struct2 Tryz.underlying109 h2
        simp [cells9b, cells102] at e0 e1
        obtain ⟨k, q0, _, z0⟩ := DataW.trod_string Tryz.underlying9 e0
        obtain ⟨ia, il, ic, q1, is, rfl, hw, lw, lc⟩ := open_rowI e1
        simp at q0
        subst q0 q1
        have d0 := hcell 0 (by omega)
        have d1 := hcell 1 (by omega)
        obtain ⟨b, off, spot⟩ := ad
        obtain ⟨cs0, g1, _⟩ := hel 0 (by omega)
        have hs : spot = none := by
          have := World.cell?_spot ((World.cells?_some g1).2.2 0 (by omega) |>.trans (List.getElem?_eq_getElem (by rw [(World.cells?_some g1).2.1]; omega)))
          simpa [Addr.add] using this
        subst hs
        rw [add_plain, add_plain] at d0 d1
        exact ⟨(k, is), b, off, ia, ic, rfl, World.block_lt_of_cell? W _ d0, ⟨d0, d1⟩, hw, lw, z0, lc⟩
    obtain ⟨ns, hpl, hps⟩ := exists_listX l key
    exact ⟨ns, hpl, fun i hi => hps i (by omega), Nat.le_trans hl hm⟩
theorem array4 {α : Type} {cs : Array α} (h : cs.size = 4) : ∃ c0 c1 c2 c3, cs = #[c0, c1, c2, c3] := by
  obtain ⟨l⟩ := cs
  match l, h with
  | [c0, c1, c2, c3], _ => exact ⟨c0, c1, c2, c3, rfl⟩
set_option maxRecDepth 100000 in
theorem open_table {H : Type} {enc : TypeId × Value → H} {W : World} {base : Nat} {v : Value} {d : DataW H} {p : List MemPlace}
    (hv : Value.okWide Tryz.prog W .any base 51 v) (h : DataW.Trod enc Tryz.prog W 0 (fun _ => true) true 51 v d p) :
    ∃ (nm : ByteArray) (ca xa : Option Addr) (cc xc : Nat) (cs : List TC) (key : Int) (xs : List TX), v = TbV nm (.slice ca cs.length cc) key (.slice xa xs.length xc) ∧ RowC W ca cs ∧ RowX W xa xs ∧ cs.length ≤ maxLen ∧ xs.length ≤ maxLen ∧ nm.size ≤ maxLen := by
  obtain ⟨cs, rfl, hsz⟩ := okWide_struct Tryz.underlying51 hv
  obtain ⟨v0, v1, v2, v3, rfl⟩ := array4 (hsz.trans cells51)
  obtain ⟨fuel, hf⟩ := h
  obtain ⟨y0, y1, y2, y3, n, _, _, e0, e1, e2, e3⟩ := trod_struct4 Tryz.underlying51 hf
  simp [Value.cells, cells9b, cells48, cells3b, cells49] at e0 e1 e2 e3
  obtain ⟨nm, q0, _, z0⟩ := DataW.trod_string Tryz.underlying9 e0
  obtain ⟨key, q2, _, _⟩ := DataW.trod_int Tryz.underlying3 e2
  simp at q0 q2
  subst q0 q2
  obtain ⟨ca, n1, cc, rfl, cs, rfl, h1, l1⟩ := open_rowC e1
  obtain ⟨xa, n2, xc, rfl, xs, rfl, h2, l2⟩ := open_rowX e3
  exact ⟨nm, ca, xa, cc, xc, cs, key, xs, rfl, h1, h2, l1, l2, z0⟩
end Go.Proofs.YteejkmcljokloaaGreatDoor
namespace Go.Proofs.YteejkmcljokloaaGreatDoor
open Go.ChangeShapes Go.WideShapes Go.ChangeAt Go.RowKit Go.Joins

theorem small_maxC {n : Nat} (h : n ≤ 1048576) : n ≤ maxLen := by unfold maxLen; omega
theorem exists_listT {P : Nat → TT → Prop} : ∀ n, (∀ i, i < n → ∃ v, P i v) → ∃ vs : List (TT), vs.length = n ∧ ∀ i, i < n → P i (nthT vs i)
  | 0, _ => ⟨[], rfl, fun i hi => by omega⟩
  | n + 1, h => by
    obtain ⟨vs, hl, hv⟩ := exists_listT n (fun i hi => h i (by omega))
    obtain ⟨v, hp⟩ := h n (by omega)
    refine ⟨vs ++ [v], by simp [hl], fun i hi => ?_⟩
    by_cases e : i = n
    · subst e
      have : nthT (vs ++ [v]) i = v := by unfold nthT; simp [List.getD_eq_getElem?_getD, hl]
      rw [this]; exact hp
    · have : nthT (vs ++ [v]) i = nthT vs i := by unfold nthT; rw [List.getD_eq_getElem?_getD, List.getD_eq_getElem?_getD, List.getElem?_append_left (by omega)]
      rw [this]; exact hv i (by omega)
set_option maxRecDepth 100000 in
theorem open_rowCc {H : Type} {enc : TypeId × Value → H} {W : World} {fuel : Nat} {v : Value} {x : DataW H × List MemPlace}
    (hf : DataW.trod enc Tryz.prog W 0 (fun _ => true) true fuel 48 [v] = some x) : ∃ a len cap, v = .slice a len cap ∧ ∃ ns : List TC, ns.length = len ∧ RowC W a ns ∧ len ≤ maxLen ∧ len ≤ cap := by
  rcases Deep.open_slice Tryz.underlying48 hf with ⟨hcs, _⟩ | ⟨ad, l, c, m, n, D, Pl, hcs, _, hl, hm, hmm, _, hel⟩
  · simp at hcs
    exact ⟨none, 0, 0, hcs, [], rfl, fun i hi => by simp at hi, Nat.zero_le _, Nat.le_refl _⟩
  · simp at hcs hmm
    subst hcs hmm
    refine ⟨_, _, _, rfl, ?_⟩
    rw [cells107] at hel
    have key : ∀ i, i < l → ∃ p : TC, ∃ b off, some ad = some ⟨b, off, none⟩ ∧ b < W.heap.size ∧ CellC W b (off + i * 3) p ∧ p.1.size ≤ maxLen := fun i hi => by
      obtain ⟨cs', h1, h2⟩ := hel i (by omega)
      obtain ⟨_, hlen, hcell⟩ := World.cells?_some h1
      match cs', hlen with
      | [c0, c1, c2], _ =>
        obtain ⟨y0, y1, y2, n', _, _, e0, e1, e2⟩ := Deep.trod_struct3 Tryz.underlying107 h2
        simp [cells9b, cells3b, cells4] at e0 e1 e2
        obtain ⟨k, q0, _, z0⟩ := DataW.trod_string Tryz.underlying9 e0
        obtain ⟨p1, q1, _, _⟩ := DataW.trod_int Tryz.underlying3 e1
        obtain ⟨g, q2, _⟩ := DataW.trod_bool Tryz.underlying4 e2
        simp at q0 q1 q2
        subst q0 q1 q2
        have d0 := hcell 0 (by omega)
        have d1 := hcell 1 (by omega)
        have d2 := hcell 2 (by omega)
        obtain ⟨b, off, spot⟩ := ad
        obtain ⟨cs0, g1, _⟩ := hel 0 (by omega)
        have hs : spot = none := by
          have := World.cell?_spot ((World.cells?_some g1).2.2 0 (by omega) |>.trans (List.getElem?_eq_getElem (by rw [(World.cells?_some g1).2.1]; omega)))
          simpa [Addr.add] using this
        subst hs
        rw [add_plain, add_plain] at d0 d1 d2
        exact ⟨(k, p1, g), b, off, rfl, World.block_lt_of_cell? W _ d0, ⟨d0, d1, d2⟩, z0⟩
    obtain ⟨ns, hpl, hps⟩ := exists_listC l key
    exact ⟨ns, hpl, fun i hi => hps i (by omega), Nat.le_trans hl hm, hl⟩
set_option maxRecDepth 100000 in
theorem open_rowXc {H : Type} {enc : TypeId × Value → H} {W : World} {fuel : Nat} {v : Value} {x : DataW H × List MemPlace}
    (hf : DataW.trod enc Tryz.prog W 0 (fun _ => true) true fuel 49 [v] = some x) : ∃ a len cap, v = .slice a len cap ∧ ∃ ns : List TX, ns.length = len ∧ RowX W a ns ∧ len ≤ maxLen ∧ len ≤ cap := by
  rcases Deep.open_slice Tryz.underlying49 hf with ⟨hcs, _⟩ | ⟨ad, l, c, m, n, D, Pl, hcs, _, hl, hm, hmm, _, hel⟩
  · simp at hcs
    exact ⟨none, 0, 0, hcs, [], rfl, fun i hi => by simp at hi, Nat.zero_le _, Nat.le_refl _⟩
  · simp at hcs hmm
    subst hcs hmm
    refine ⟨_, _, _, rfl, ?_⟩
    rw [cells109] at hel
    have key : ∀ i, i < l → ∃ p : TX, ∃ b off ia ic, some ad = some ⟨b, off, none⟩ ∧ b < W.heap.size ∧ CellX W b (off + i * 2) ia ic p ∧ RowI W ia p.2 ∧ p.2.length ≤ maxLen ∧ p.1.size ≤ maxLen ∧ p.2.length ≤ ic := fun i hi => by
      obtain ⟨cs', h1, h2⟩ := hel i (by omega)
      obtain ⟨_, hlen, hcell⟩ := World.cells?_some h1
      match cs', hlen with
      | [c0, c1], _ =>
        obtain ⟨y0, y1, n', _, _, e0, e1⟩ := trod_struct2 Tryz.underlying109 h2
        simp [cells9b, cells102] at e0 e1
        obtain ⟨k, q0, _, z0⟩ := DataW.trod_string Tryz.underlying9 e0
        obtain ⟨ia, il, ic, q1, is, rfl, hw, lw, lc⟩ := open_rowI e1
        simp at q0
        subst q0 q1
        have d0 := hcell 0 (by omega)
        have d1 := hcell 1 (by omega)
        obtain ⟨b, off, spot⟩ := ad
        obtain ⟨cs0, g1, _⟩ := hel 0 (by omega)
        have hs : spot = none := by
          have := World.cell?_spot ((World.cells?_some g1).2.2 0 (by omega) |>.trans (List.getElem?_eq_getElem (by rw [(World.cells?_some g1).2.1]; omega)))
          simpa [Addr.add] using this
        subst hs
        rw [add_plain, add_plain] at d0 d1
        exact ⟨(k, is), b, off, ia, ic, rfl, World.block_lt_of_cell? W _ d0, ⟨d0, d1⟩, hw, lw, z0, lc⟩
    obtain ⟨ns, hpl, hps⟩ := exists_listX l key
    exact ⟨ns, hpl, fun i hi => hps i (by omega), Nat.le_trans hl hm, hl⟩
set_option maxRecDepth 100000 in
theorem open_rowTb {H : Type} {enc : TypeId × Value → H} {W : World} {fuel : Nat} {v : Value} {x : DataW H × List MemPlace}
    (hf : DataW.trod enc Tryz.prog W 0 (fun _ => true) true fuel 22 [v] = some x) : ∃ a len cap, v = .slice a len cap ∧ ∃ ns : List TT, ns.length = len ∧ RowTb W a ns ∧ len ≤ maxLen := by
  rcases Deep.open_slice Tryz.underlying22 hf with ⟨hcs, _⟩ | ⟨ad, l, c, m, n, D, Pl, hcs, _, hl, hm, hmm, _, hel⟩
  · simp at hcs
    exact ⟨none, 0, 0, hcs, [], rfl, fun i hi => by simp at hi, Nat.zero_le _⟩
  · simp at hcs hmm
    subst hcs hmm
    refine ⟨_, _, _, rfl, ?_⟩
    rw [cells51] at hel
    have key : ∀ i, i < l → ∃ p : TT, ∃ b off ca cc xa xc, some ad = some ⟨b, off, none⟩ ∧ b < W.heap.size ∧ CellTb W b (off + i * 4) ca cc xa xc p ∧ RowC W ca p.2.1 ∧ RowX W xa p.2.2.2 ∧ p.1.size ≤ maxLen ∧ p.2.1.length ≤ maxLen ∧ p.2.2.2.length ≤ maxLen ∧ p.2.1.length ≤ cc ∧ p.2.2.2.length ≤ xc := fun i hi => by
      obtain ⟨cs', h1, h2⟩ := hel i (by omega)
      obtain ⟨_, hlen, hcell⟩ := World.cells?_some h1
      match cs', hlen with
      | [c0, c1, c2, c3], _ =>
        obtain ⟨y0, y1, y2, y3, n', _, _, e0, e1, e2, e3⟩ := trod_struct4 Tryz.underlying51 h2
        simp [cells9b, cells48, cells3b, cells49] at e0 e1 e2 e3
        obtain ⟨nm, q0, _, z0⟩ := DataW.trod_string Tryz.underlying9 e0
        obtain ⟨ky, q2, _, _⟩ := DataW.trod_int Tryz.underlying3 e2
        obtain ⟨ca, cl, cc, q1, cs, rfl, hc, lc, kc⟩ := open_rowCc e1
        obtain ⟨xa, xl, xc, q3, xs, rfl, hx, lx, kx⟩ := open_rowXc e3
        simp at q0 q2
        subst q0 q1 q2 q3
        have d0 := hcell 0 (by omega)
        have d1 := hcell 1 (by omega)
        have d2 := hcell 2 (by omega)
        have d3 := hcell 3 (by omega)
        obtain ⟨b, off, spot⟩ := ad
        obtain ⟨cs0, g1, _⟩ := hel 0 (by omega)
        have hs : spot = none := by
          have := World.cell?_spot ((World.cells?_some g1).2.2 0 (by omega) |>.trans (List.getElem?_eq_getElem (by rw [(World.cells?_some g1).2.1]; omega)))
          simpa [Addr.add] using this
        subst hs
        rw [add_plain, add_plain] at d0 d1 d2 d3
        exact ⟨(nm, cs, ky, xs), b, off, ca, cc, xa, xc, rfl, World.block_lt_of_cell? W _ d0, ⟨d0, d1, d2, d3⟩, hc, hx, z0, lc, lx, kc, kx⟩
    obtain ⟨ns, hpl, hps⟩ := exists_listT l key
    exact ⟨ns, hpl, fun i hi => hps i (by omega), Nat.le_trans hl hm⟩

end Go.Proofs.YteejkmcljokloaaGreatDoor
namespace Go.Proofs.YteejkmcljokloaaGreatDoor
open Go.ChangeShapes Go.WideShapes Go.ChangeAt Go.RowKit Go.Joins

theorem cells27 : Tryz.prog.cellsOf 27 = 8 := by kernel_rfl
theorem cells25 : Tryz.prog.cellsOf 25 = 1 := by kernel_rfl
theorem cells24 : Tryz.prog.cellsOf 24 = 3 := by kernel_rfl
theorem cells9 : Tryz.prog.cellsOf 9 = 1 := by kernel_rfl
theorem cells3 : Tryz.prog.cellsOf 3 = 1 := by kernel_rfl
theorem exists_fo {P : Nat → ND → Fo → Prop} : ∀ (n j : Nat), (∀ i, i < n → ∃ x ks, P (j + i) x ks) → ∃ f : Fo, f.len = n ∧ ∀ i, i < n → P (j + i) (f.node i) (f.kids i)
  | 0, _, _ => ⟨.nil, rfl, fun i hi => by omega⟩
  | n + 1, j, h => by
    obtain ⟨x, ks, hx⟩ := h 0 (by omega)
    obtain ⟨f, hl, hf⟩ := exists_fo n (j + 1) (fun i hi => by have := h (i + 1) (by omega); rwa [show j + (i + 1) = j + 1 + i by omega] at this)
    refine ⟨.cons x ks f, by rw [Fo.len, hl], fun i hi => ?_⟩
    match i, hi with
    | 0, _ => exact hx
    | i + 1, hi => have := hf i (by omega); rw [show j + (i + 1) = j + 1 + i by omega]; exact this
theorem trod_struct6 {H : Type} {enc : TypeId × Value → H} {P : Program} {w : World} {base : Nat} {spare : Nat → Bool} {held : Bool} {t : TypeId} {f0 f1 f2 f3 f4 f5 : Field} {fuel : Nat} {cs : List Value} {x : DataW H × List MemPlace} (ht : P.underlying t = some (.struct #[f0, f1, f2, f3, f4, f5])) (h : DataW.trod enc P w base spare held fuel t cs = some x) :
    ∃ y0 y1 y2 y3 y4 y5 n, fuel = n + 1 ∧ cs.length = P.cellsOf t ∧ DataW.trod enc P w base spare held n f0.type ((cs.drop f0.offset).take (P.cellsOf f0.type)) = some y0 ∧
      DataW.trod enc P w base spare held n f1.type ((cs.drop f1.offset).take (P.cellsOf f1.type)) = some y1 ∧ DataW.trod enc P w base spare held n f2.type ((cs.drop f2.offset).take (P.cellsOf f2.type)) = some y2 ∧
      DataW.trod enc P w base spare held n f3.type ((cs.drop f3.offset).take (P.cellsOf f3.type)) = some y3 ∧ DataW.trod enc P w base spare held n f4.type ((cs.drop f4.offset).take (P.cellsOf f4.type)) = some y4 ∧
      DataW.trod enc P w base spare held n f5.type ((cs.drop f5.offset).take (P.cellsOf f5.type)) = some y5 := by
  obtain ⟨xs, n, hn, rfl, hl, hlen, hf⟩ := DataW.trod_struct ht h
  match xs, hlen with
  | [y0, y1, y2, y3, y4, y5], _ => exact ⟨y0, y1, y2, y3, y4, y5, n, hn, hl, by simpa using hf 0 f0 rfl, by simpa using hf 1 f1 rfl, by simpa using hf 2 f2 rfl, by simpa using hf 3 f3 rfl, by simpa using hf 4 f4 rfl, by simpa using hf 5 f5 rfl⟩
/-- The cells of a tree that is read: its node's, and the list of its kids. -/
theorem open_node {H : Type} {enc : TypeId × Value → H} {W : World} {fuel : Nat} {c0 c1 c2 c3 c4 c5 c6 c7 : Value} {x : DataW H × List MemPlace}
    (hf : DataW.trod enc Tryz.prog W 0 (fun _ => true) true fuel 27 [c0, c1, c2, c3, c4, c5, c6, c7] = some x) :
    ∃ (nd : ND) (n : Nat) (y : DataW H × List MemPlace), fuel = n + 1 ∧ c0 = .int .i64 nd.k ∧ c1 = .int .i64 nd.n ∧ c2 = .string nd.nm ∧ c3 = .string nd.of ∧ c4 = .int .i64 nd.vk ∧ c5 = .int .i64 nd.vn ∧ c6 = .string nd.vt ∧ TextsN maxLen nd ∧ DataW.trod enc Tryz.prog W 0 (fun _ => true) true n 25 [c7] = some y := by
  obtain ⟨y0, y1, y2, y3, y4, y5, n, hn, _, e0, e1, e2, e3, e4, e5⟩ := trod_struct6 Tryz.underlying27 hf
  simp [cells9, cells3, cells24, cells25] at e0 e1 e2 e3 e4 e5
  obtain ⟨k, q0, _, _⟩ := DataW.trod_int Tryz.underlying3 e0
  obtain ⟨m, q1, _, _⟩ := DataW.trod_int Tryz.underlying3 e1
  obtain ⟨nm, q2, _, z2⟩ := DataW.trod_string Tryz.underlying9 e2
  obtain ⟨of, q3, _, z3⟩ := DataW.trod_string Tryz.underlying9 e3
  obtain ⟨x0, x1, x2, n', _, _, d0, d1, d2⟩ := Deep.trod_struct3 Tryz.underlying24 e4
  simp [cells9, cells3] at d0 d1 d2
  obtain ⟨vk, q4, _, _⟩ := DataW.trod_int Tryz.underlying3 d0
  obtain ⟨vn, q5, _, _⟩ := DataW.trod_int Tryz.underlying3 d1
  obtain ⟨vt, q6, _, z6⟩ := DataW.trod_string Tryz.underlying9 d2
  simp at q0 q1 q2 q3 q4 q5 q6
  exact ⟨⟨k, m, nm, of, vk, vn, vt⟩, n, y5, hn, q0, q1, q2, q3, q4, q5, q6, ⟨z2, z3, z6⟩, e5⟩
set_option maxRecDepth 100000 in
theorem open_rowT {H : Type} {enc : TypeId × Value → H} {W : World} : ∀ (m fuel : Nat) (v : Value) (x : DataW H × List MemPlace), fuel ≤ m → DataW.trod enc Tryz.prog W 0 (fun _ => true) true fuel 25 [v] = some x →
    ∃ a cap, ∃ f : Fo, v = .slice a f.len cap ∧ RowT 0 W a 0 f ∧ f.len ≤ maxLen ∧ f.len ≤ cap
  | 0, 0, v, x, _, hf => by simp [DataW.trod] at hf
  | m + 1, fuel, v, x, hm, hf => by
    rcases DataW.trod_slice Tryz.underlying25 hf with ⟨hcs, _⟩ | ⟨ad, l, c, elems, rest, n, hn, hcs, _, _, hl, hc, hel, hE, _, _⟩
    · simp at hcs
      exact ⟨none, 0, .nil, hcs, trivial, Nat.zero_le _, Nat.le_refl _⟩
    · simp at hcs
      subst hcs
      rw [cells27] at hE
      have key : ∀ i, i < l → ∃ (y : ND) (ks : Fo), ElT 0 W (some ad) (0 + i) y ks := fun i hi => by
        have h0 := hE i hi
        rw [List.getElem?_eq_getElem (by omega)] at h0
        obtain ⟨cs', h1, h2⟩ := Option.bind_eq_some_iff.1 h0
        obtain ⟨_, hlen, hcell⟩ := World.cells?_some h1
        match cs', hlen with
        | [c0, c1, c2, c3, c4, c5, c6, c7], _ =>
          obtain ⟨nd, n', y, hn', rfl, rfl, rfl, rfl, rfl, rfl, rfl, ht, hk⟩ := open_node h2
          obtain ⟨ka, kc, ks, rfl, hr, hk1, hk2⟩ := open_rowT m n' _ _ (by omega) hk
          have d0 := hcell 0 (by omega)
          have d1 := hcell 1 (by omega)
          have d2 := hcell 2 (by omega)
          have d3 := hcell 3 (by omega)
          have d4 := hcell 4 (by omega)
          have d5 := hcell 5 (by omega)
          have d6 := hcell 6 (by omega)
          have d7 := hcell 7 (by omega)
          obtain ⟨b, off, spot⟩ := ad
          have hs : spot = none := by
            have g0 := hE 0 (by omega)
            rw [List.getElem?_eq_getElem (by omega)] at g0
            obtain ⟨cs0, g1, _⟩ := Option.bind_eq_some_iff.1 g0
            have := World.cell?_spot ((World.cells?_some g1).2.2 0 (by omega) |>.trans (List.getElem?_eq_getElem (by rw [(World.cells?_some g1).2.1]; omega)))
            simpa [Addr.add] using this
          subst hs
          rw [add_plain, add_plain] at d0 d1 d2 d3 d4 d5 d6 d7
          rw [Nat.zero_add]
          exact ⟨nd, ks, b, off, ka, kc, rfl, Nat.zero_le _, World.block_lt_of_cell? W _ d0, ⟨d0, d1, d2, d3, d4, d5, d6, d7⟩, ⟨hk2, hk1, ht⟩, hr⟩
      obtain ⟨f, hlen, hf'⟩ := exists_fo l 0 key
      subst hlen
      exact ⟨some ad, c, f, rfl, RowT.mk hf', Nat.le_trans hl hc, hl⟩
theorem array8 {α : Type} {cs : Array α} (h : cs.size = 8) : ∃ c0 c1 c2 c3 c4 c5 c6 c7, cs = #[c0, c1, c2, c3, c4, c5, c6, c7] := by
  obtain ⟨l⟩ := cs
  match l, h with
  | [c0, c1, c2, c3, c4, c5, c6, c7], _ => exact ⟨c0, c1, c2, c3, c4, c5, c6, c7, rfl⟩
set_option maxRecDepth 100000 in
theorem open_tree {H : Type} {enc : TypeId × Value → H} {W : World} {base : Nat} {v : Value} {d : DataW H} {p : List MemPlace}
    (hv : Value.okWide Tryz.prog W .any base 27 v) (h : DataW.Trod enc Tryz.prog W 0 (fun _ => true) true 27 v d p) :
    ∃ (x : ND) (ka : Option Addr) (kc : Nat) (ks : Fo), v = ValT x (.slice ka ks.len kc) ∧ RowT 0 W ka 0 ks ∧ ks.len ≤ maxLen ∧ TextsN maxLen x := by
  obtain ⟨cs, rfl, hsz⟩ := okWide_struct Tryz.underlying27 hv
  obtain ⟨v0, v1, v2, v3, v4, v5, v6, v7, rfl⟩ := array8 (hsz.trans cells27)
  obtain ⟨fuel, hf⟩ := h
  simp only [Value.cells] at hf
  obtain ⟨nd, n, y, _, rfl, rfl, rfl, rfl, rfl, rfl, rfl, ht, hk⟩ := open_node hf
  obtain ⟨ka, kc, ks, rfl, hr, hk1, _⟩ := open_rowT n n _ _ (Nat.le_refl _) hk
  exact ⟨nd, ka, kc, ks, rfl, hr, hk1, ht⟩
end Go.Proofs.YteejkmcljokloaaGreatDoor
namespace Go.Proofs.YteejkmcljokloaaGreatDoor
open Go.ChangeShapes Go.WideShapes Go.ChangeAt Go.RowKit Go.Joins

theorem errT_at : Tryz.prog.globalNamed "errors.errorType" = some 0 := by kernel_rfl
theorem rtypeT : (Tryz.prog.cutTypes.find? (·.1 == "internal/reflectlite.rtype")).map (·.2) = some 150 := by kernel_rfl
theorem oneError : ((List.range 241).filter fun t => Tryz.prog.rowNamed t [101, 114, 114, 111, 114]) = [64] := by kernel_rfl
theorem sizeTypes : Tryz.prog.types.size = 241 := by kernel_rfl
/-- What the row's hypothesis gives a walk: the variable's one cell. -/
theorem errT_of_laid {W : World} (h : laidMetH Tryz.prog [("errors.errorType", Rows.laid_errors_errorType)] W) : ErrT W := by
  have h' : laidMet Tryz.prog [] W ∧ handlesMet Tryz.prog [("errors.errorType", Rows.laid_errors_errorType)] W := h
  obtain ⟨name, u, ty, e1, e2, e3, e4, e5⟩ := h'.2 _ (List.mem_singleton.2 rfl)
  have en : name = [101, 114, 114, 111, 114] := (Option.some.inj e1).symm
  subst en
  obtain rfl := Option.some.inj (rtypeT.symm.trans e2)
  have hm : ty ∈ (List.range 241).filter fun t => Tryz.prog.rowNamed t [101, 114, 114, 111, 114] := List.mem_filter.2 ⟨List.mem_range.2 (by rw [← sizeTypes]; exact e3), e4⟩
  rw [oneError] at hm
  obtain rfl := List.mem_singleton.1 hm
  have hh : typeHandle Tryz.prog 64 = .pointer (some ⟨2, 64, none⟩) := by kernel_rfl
  rw [hh] at e5
  have hc : W.cell? ⟨0, 0, none⟩ = some (.iface 150 (.agg #[.pointer (some ⟨2, 64, none⟩)])) := by simpa using World.var?_cell errT_at e5 0
  exact ⟨hc, World.block_lt_of_cell? W ⟨0, 0, none⟩ hc⟩
/-- A world that meets the condition. -/
noncomputable def laidWorld (os : Os) : World :=
  let w0 := World.holding Tryz.prog os ⟨#[], #[], []⟩
  { w0 with heap := w0.heap.modify 0 fun
      | .cells _ t frozen => .cells #[.iface 150 (.agg #[.pointer (some ⟨2, 64, none⟩)])] t frozen
      | o => o }
theorem laidWorld_met (os : Os) (args : Array Value) : laidMetH Tryz.prog [("errors.errorType", Rows.laid_errors_errorType)] ((laidWorld os).forCall (fun _ _ => 0) ⟨#[], args, []⟩).memory :=
  laidMetH_of_parts (laidMet_nil _ _) (by kernel_rfl)
end Go.Proofs.YteejkmcljokloaaGreatDoor
