/- How a forest that is handed to a law is opened (stage 5). -/
import Derived.Test.YthflalpapdaidaaTreI
import Derived.Deep.Slices
import Derived.Deep.Strs
import Derived.Deep.DeepHandedRow
namespace Go.Proofs.Ythflalpapdaidaa
open Go.ChangeShapes Go.WideShapes Go.ChangeAt Go.RowKit Go.Joins

theorem cells55 : Try.prog.cellsOf 55 = 1 := by kernel_rfl
theorem cells53 : Try.prog.cellsOf 53 = 1 := by kernel_rfl
theorem cells143 : Try.prog.cellsOf 143 = 4 := by kernel_rfl
theorem cells91 : Try.prog.cellsOf 91 = 1 := by kernel_rfl
theorem cells47 : Try.prog.cellsOf 47 = 1 := by kernel_rfl
theorem cells9 : Try.prog.cellsOf 9 = 1 := by kernel_rfl
theorem cells4 : Try.prog.cellsOf 4 = 1 := by kernel_rfl
theorem cells3 : Try.prog.cellsOf 3 = 1 := by kernel_rfl

theorem exists_listS {P : Nat → ByteArray → Prop} : ∀ n, (∀ i, i < n → ∃ v, P i v) → ∃ vs : List ByteArray, vs.length = n ∧ ∀ i, i < n → P i (nthS vs i)
  | 0, _ => ⟨[], rfl, fun i hi => by omega⟩
  | n + 1, h => by
    obtain ⟨vs, hl, hv⟩ := exists_listS n (fun i hi => h i (by omega))
    obtain ⟨v, hp⟩ := h n (by omega)
    refine ⟨vs ++ [v], by simp [hl], fun i hi => ?_⟩
    by_cases e : i = n
    · subst e
      have : nthS (vs ++ [v]) i = v := by unfold nthS; simp [List.getD_eq_getElem?_getD, hl]
      rw [this]; exact hp
    · have : nthS (vs ++ [v]) i = nthS vs i := by unfold nthS; rw [List.getD_eq_getElem?_getD, List.getD_eq_getElem?_getD, List.getElem?_append_left (by omega)]
      rw [this]; exact hv i (by omega)
theorem exists_listI {P : Nat → Int → Prop} : ∀ n, (∀ i, i < n → ∃ v, P i v) → ∃ vs : List Int, vs.length = n ∧ ∀ i, i < n → P i (nthI vs i)
  | 0, _ => ⟨[], rfl, fun i hi => by omega⟩
  | n + 1, h => by
    obtain ⟨vs, hl, hv⟩ := exists_listI n (fun i hi => h i (by omega))
    obtain ⟨v, hp⟩ := h n (by omega)
    refine ⟨vs ++ [v], by simp [hl], fun i hi => ?_⟩
    by_cases e : i = n
    · subst e
      have : nthI (vs ++ [v]) i = v := by unfold nthI; simp [List.getD_eq_getElem?_getD, hl]
      rw [this]; exact hp
    · have : nthI (vs ++ [v]) i = nthI vs i := by unfold nthI; rw [List.getD_eq_getElem?_getD, List.getD_eq_getElem?_getD, List.getElem?_append_left (by omega)]
      rw [this]; exact hv i (by omega)
theorem exists_listN {P : Nat → Nd → Prop} : ∀ n, (∀ i, i < n → ∃ v, P i v) → ∃ vs : List Nd, vs.length = n ∧ ∀ i, i < n → P i (nthN vs i)
  | 0, _ => ⟨[], rfl, fun i hi => by omega⟩
  | n + 1, h => by
    obtain ⟨vs, hl, hv⟩ := exists_listN n (fun i hi => h i (by omega))
    obtain ⟨v, hp⟩ := h n (by omega)
    refine ⟨vs ++ [v], by simp [hl], fun i hi => ?_⟩
    by_cases e : i = n
    · subst e
      have : nthN (vs ++ [v]) i = v := by unfold nthN; simp [List.getD_eq_getElem?_getD, hl]
      rw [this]; exact hp
    · have : nthN (vs ++ [v]) i = nthN vs i := by unfold nthN; rw [List.getD_eq_getElem?_getD, List.getD_eq_getElem?_getD, List.getElem?_append_left (by omega)]
      rw [this]; exact hv i (by omega)
set_option maxRecDepth 100000 in
theorem open_rowS {H : Type} {enc : TypeId × Value → H} {W : World} {fuel : Nat} {v : Value} {x : DataW H × List MemPlace}
    (hf : DataW.trod enc Try.prog W 0 (fun _ => true) true fuel 91 [v] = some x) : ∃ a len cap, v = .slice a len cap ∧ ∃ ss : List ByteArray, ss.length = len ∧ RowS W a ss ∧ len ≤ maxLen := by
  rcases Deep.open_slice1 Try.underlying91 cells9 hf with ⟨hcs, _⟩ | ⟨ad, l, c, m, n, V, D, Pl, hcs, _, hl, hm, hmm, _, hel⟩
  · simp at hcs
    exact ⟨none, 0, 0, hcs, [], rfl, fun i hi => by simp at hi, Nat.zero_le _⟩
  · simp at hcs hmm
    subst hcs hmm
    refine ⟨_, _, _, rfl, ?_⟩
    have key : ∀ i, i < l → ∃ s : ByteArray, ∃ b off, some ad = some ⟨b, off, none⟩ ∧ b < W.heap.size ∧ W.cell? ⟨b, off + i, none⟩ = some (.string s) ∧ s.size ≤ maxLen := fun i hi => by
      obtain ⟨h1, h2⟩ := hel i (by omega)
      obtain ⟨t, q, _, ht⟩ := DataW.trod_string Try.underlying9 h2
      simp at q
      rw [q] at h1
      obtain ⟨b, off, spot⟩ := ad
      have hs : spot = none := by simpa [Addr.add] using World.cell?_spot (hel 0 (by omega)).1
      subst hs
      rw [add_plain] at h1
      exact ⟨t, b, off, rfl, World.block_lt_of_cell? W _ h1, h1, ht⟩
    obtain ⟨ss, hsl, hss⟩ := exists_listS l key
    refine ⟨ss, hsl, fun i hi => ?_, Nat.le_trans hl hm⟩
    obtain ⟨b, off, e, r⟩ := hss i (by omega)
    exact ⟨b, off, e, r⟩

set_option maxRecDepth 100000 in
theorem open_rowI {H : Type} {enc : TypeId × Value → H} {W : World} {fuel : Nat} {v : Value} {x : DataW H × List MemPlace}
    (hf : DataW.trod enc Try.prog W 0 (fun _ => true) true fuel 47 [v] = some x) : ∃ a len cap, v = .slice a len cap ∧ ∃ ss : List Int, ss.length = len ∧ RowI W a ss ∧ len ≤ maxLen := by
  rcases Deep.open_slice1 Try.underlying47 cells3 hf with ⟨hcs, _⟩ | ⟨ad, l, c, m, n, V, D, Pl, hcs, _, hl, hm, hmm, _, hel⟩
  · simp at hcs
    exact ⟨none, 0, 0, hcs, [], rfl, fun i hi => by simp at hi, Nat.zero_le _⟩
  · simp at hcs hmm
    subst hcs hmm
    refine ⟨_, _, _, rfl, ?_⟩
    have key : ∀ i, i < l → ∃ s : Int, ∃ b off, some ad = some ⟨b, off, none⟩ ∧ b < W.heap.size ∧ W.cell? ⟨b, off + i, none⟩ = some (.int .i64 s) := fun i hi => by
      obtain ⟨h1, h2⟩ := hel i (by omega)
      obtain ⟨t, q, _, ht⟩ := DataW.trod_int Try.underlying3 h2
      simp at q
      rw [q] at h1
      obtain ⟨b, off, spot⟩ := ad
      have hs : spot = none := by simpa [Addr.add] using World.cell?_spot (hel 0 (by omega)).1
      subst hs
      rw [add_plain] at h1
      exact ⟨t, b, off, rfl, World.block_lt_of_cell? W _ h1, h1⟩
    obtain ⟨ss, hsl, hss⟩ := exists_listI l key
    refine ⟨ss, hsl, fun i hi => ?_, Nat.le_trans hl hm⟩
    obtain ⟨b, off, e, r⟩ := hss i (by omega)
    exact ⟨b, off, e, r⟩


set_option maxRecDepth 100000 in
theorem open_node {H : Type} {enc : TypeId × Value → H} {W : World} {fuel : Nat} {c0 c1 c2 c3 : Value} {x : DataW H × List MemPlace}
    (h : DataW.trod enc Try.prog W 0 (fun _ => true) true fuel 143 [c0, c1, c2, c3] = some x) : ∃ (l : Bool) (ks vs : List ByteArray) (is : List Int) (ka va ia : Option Addr) (kc vc ic : Nat), c0 = .bool l ∧ c1 = .slice ka ks.length kc ∧ c2 = .slice va vs.length vc ∧ c3 = .slice ia is.length ic ∧ NodeR W ka va ia (l, ks, vs, is) := by
  obtain ⟨y0, y1, y2, y3, n, _, _, e0, e1, e2, e3⟩ := trod_struct4 Try.underlying143 h
  simp [cells4, cells91] at e0 e1 e2 e3
  obtain ⟨l, q0, _⟩ := DataW.trod_bool Try.underlying4 e0
  simp at q0
  subst q0
  obtain ⟨ka, n1, kc, rfl, ks, rfl, h1, l1⟩ := open_rowS e1
  obtain ⟨va, n2, vc, rfl, vs, rfl, h2, l2⟩ := open_rowS e2
  obtain ⟨ia, n3, ic, rfl, is, rfl, h3, l3⟩ := open_rowI e3
  exact ⟨l, ks, vs, is, ka, va, ia, kc, vc, ic, rfl, rfl, rfl, rfl, h1, h2, h3, l1, l2, l3⟩

set_option maxRecDepth 100000 in
theorem open_rowN {H : Type} {enc : TypeId × Value → H} {W : World} {fuel : Nat} {v : Value} {x : DataW H × List MemPlace}
    (hf : DataW.trod enc Try.prog W 0 (fun _ => true) true fuel 53 [v] = some x) : ∃ a len cap, v = .slice a len cap ∧ ∃ ns : List Nd, ns.length = len ∧ RowN W a ns ∧ len ≤ maxLen := by
  rcases Deep.open_slice Try.underlying53 hf with ⟨hcs, _⟩ | ⟨ad, l, c, m, n, D, Pl, hcs, _, hl, hm, hmm, _, hel⟩
  · simp at hcs
    exact ⟨none, 0, 0, hcs, [], rfl, fun i hi => by simp at hi, Nat.zero_le _⟩
  · simp at hcs hmm
    subst hcs hmm
    refine ⟨_, _, _, rfl, ?_⟩
    rw [cells143] at hel
    have key : ∀ i, i < l → ∃ p : Nd, ∃ b off, some ad = some ⟨b, off, none⟩ ∧ b < W.heap.size ∧ NodeAt W b (off + i * 4) p := fun i hi => by
      obtain ⟨cs', h1, h2⟩ := hel i (by omega)
      obtain ⟨_, hlen, hcell⟩ := World.cells?_some h1
      match cs', hlen with
      | [c0, c1, c2, c3], _ =>
        obtain ⟨nl, ks, vs, is, ka, va, ia, kc, vc, ic, rfl, rfl, rfl, rfl, hr⟩ := open_node h2
        have d0 := hcell 0 (by omega)
        have d1 := hcell 1 (by omega)
        have d2 := hcell 2 (by omega)
        have d3 := hcell 3 (by omega)
        obtain ⟨b, off, spot⟩ := ad
        obtain ⟨cs0, g1, _⟩ := hel 0 (by omega)
        have hs : spot = none := by
          have := World.cell?_spot ((World.cells?_some g1).2.2 0 (by omega) |>.trans (List.getElem?_eq_getElem (by rw [(World.cells?_some g1).2.1]; omega)))
          simpa [Addr.add] using this
        subst hs
        rw [add_plain, add_plain] at d0 d1 d2 d3
        exact ⟨(nl, ks, vs, is), b, off, rfl, World.block_lt_of_cell? W _ d0, ka, kc, va, vc, ia, ic, d0, d1, d2, d3, hr⟩
    obtain ⟨ns, hpl, hps⟩ := exists_listN l key
    refine ⟨ns, hpl, fun i hi => ?_, Nat.le_trans hl hm⟩
    obtain ⟨b, off, e, r⟩ := hps i (by omega)
    exact ⟨b, off, e, r⟩

theorem array1 {α : Type} {cs : Array α} (h : cs.size = 1) : ∃ c0, cs = #[c0] := by
  obtain ⟨l⟩ := cs
  match l, h with
  | [c0], _ => exact ⟨c0, rfl⟩

set_option maxRecDepth 100000 in
theorem open_forest {H : Type} {enc : TypeId × Value → H} {W : World} {base : Nat} {v : Value} {d : DataW H} {p : List MemPlace}
    (hv : Value.okWide Try.prog W .any base 55 v) (h : DataW.Trod enc Try.prog W 0 (fun _ => true) true 55 v d p) :
    ∃ (a : Option Addr) (c : Nat) (ns : List Nd), v = FV (.slice a ns.length c) ∧ RowN W a ns ∧ ns.length ≤ maxLen := by
  obtain ⟨cs, rfl, hsz⟩ := okWide_struct Try.underlying55 hv
  obtain ⟨v0, rfl⟩ := array1 (hsz.trans cells55)
  obtain ⟨fuel, hf⟩ := h
  obtain ⟨y0, n, _, _, e0⟩ := trod_struct1 Try.underlying55 hf
  simp [Value.cells, cells53] at e0
  obtain ⟨a, n1, c, rfl, ns, rfl, h1, l1⟩ := open_rowN e0
  exact ⟨a, c, ns, rfl, h1, l1⟩
end Go.Proofs.Ythflalpapdaidaa
