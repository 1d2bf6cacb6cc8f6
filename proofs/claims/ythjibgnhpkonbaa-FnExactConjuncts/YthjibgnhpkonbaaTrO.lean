/- How a tree that is handed to a law is opened (stage 11). -/
import Derived.Test.YthjibgnhpkonbaaTrA
import Derived.Deep.Slices
import Derived.Deep.Strs
import Derived.Deep.DeepHandedRow
import Derived.Lib.SmallJoins
namespace Go.Proofs.Ythjibgnhpkonbaa
open Go.ChangeShapes Go.WideShapes Go.ChangeAt Go.RowKit Go.Joins

theorem cells26 : Try.prog.cellsOf 26 = 8 := by kernel_rfl
theorem cells24 : Try.prog.cellsOf 24 = 1 := by kernel_rfl
theorem cells23 : Try.prog.cellsOf 23 = 3 := by kernel_rfl
theorem cells9 : Try.prog.cellsOf 9 = 1 := by kernel_rfl
theorem cells3 : Try.prog.cellsOf 3 = 1 := by kernel_rfl
theorem exists_fo {P : Nat → ND → Fo → Prop} : ∀ (n j : Nat), (∀ i, i < n → ∃ x ks, P (j + i) x ks) → ∃ f : Fo, f.len = n ∧ ∀ i, i < n → P (j + i) (f.node i) (f.kids i)
  | 0, _, _ => ⟨.nil, rfl, fun i hi => by omega⟩
  | n + 1, j, h => by
    obtain ⟨x, ks, hx⟩ := h 0 (by omega)
    obtain ⟨f, hl, hf⟩ := exists_fo n (j + 1) (fun i hi => by have := h (i + 1) (by omega); rwa [show j + (i + 1) = j + 1 + i by omega] at this)
    refine ⟨.cons x ks f, by rw [Fo.len, hl], fun i hi => ?_⟩
    match i, hi with
    | 0, _ => exact hx
    | i + 1, hi => have := hf i (by omega); rw [show j + (i + 1) = j + 1 + i by omega]; exact this
theorem trod_struct6 {H : Type} {enc : TypeId × Value → H} {P : Program} {w : World} {base : Nat} {spare : Nat → Bool} {held : Bool} {t : TypeId} {f0 f1 f2 f3 f4 f5 : Field} {fuel : Nat} {cs : List Value} {x : DataW H × List MemPlace} (ht : P.underlying t = some (.struct #[f0, f1, f2, f3, f4, f5])) (h : DataW.trod enc P w base spare held fuel t cs = some x) :
    ∃ y0 y1 y2 y3 y4 y5 n, fuel = n + 1 ∧ cs.length = P.cellsOf t ∧ DataW.trod enc P w base spare held n f0.type ((cs.drop f0.offset).take (P.cellsOf f0.type)) = some y0 ∧
      DataW.trod enc P w base spare held n f1.type ((cs.drop f1.offset).take (P.cellsOf f1.type)) = some y1 ∧ DataW.trod enc P w base spare held n f2.type ((cs.drop f2.offset).take (P.cellsOf f2.type)) = some y2 ∧
      DataW.trod enc P w base spare held n f3.type ((cs.drop f3.offset).take (P.cellsOf f3.type)) = some y3 ∧ DataW.trod enc P w base spare held n f4.type ((cs.drop f4.offset).take (P.cellsOf f4.type)) = some y4 ∧
      DataW.trod enc P w base spare held n f5.type ((cs.drop f5.offset).take (P.cellsOf f5.type)) = some y5 := by
  obtain ⟨xs, n, hn, rfl, hl, hlen, hf⟩ := DataW.trod_struct ht h
  match xs, hlen with
  | [y0, y1, y2, y3, y4, y5], _ => exact ⟨y0, y1, y2, y3, y4, y5, n, hn, hl, by simpa using hf 0 f0 rfl, by simpa using hf 1 f1 rfl, by simpa using hf 2 f2 rfl, by simpa using hf 3 f3 rfl, by simpa using hf 4 f4 rfl, by simpa using hf 5 f5 rfl⟩
/-- The cells of a tree that is read: its node's, and the list of its kids. -/
theorem open_node {H : Type} {enc : TypeId × Value → H} {W : World} {fuel : Nat} {c0 c1 c2 c3 c4 c5 c6 c7 : Value} {x : DataW H × List MemPlace}
    (hf : DataW.trod enc Try.prog W 0 (fun _ => true) true fuel 26 [c0, c1, c2, c3, c4, c5, c6, c7] = some x) :
    ∃ (nd : ND) (n : Nat) (y : DataW H × List MemPlace), fuel = n + 1 ∧ c0 = .int .i64 nd.k ∧ c1 = .int .i64 nd.n ∧ c2 = .string nd.nm ∧ c3 = .string nd.of ∧ c4 = .int .i64 nd.vk ∧ c5 = .int .i64 nd.vn ∧ c6 = .string nd.vt ∧ TextsN maxLen nd ∧ DataW.trod enc Try.prog W 0 (fun _ => true) true n 24 [c7] = some y := by
  obtain ⟨y0, y1, y2, y3, y4, y5, n, hn, _, e0, e1, e2, e3, e4, e5⟩ := trod_struct6 Try.underlying26 hf
  simp [cells9, cells3, cells23, cells24] at e0 e1 e2 e3 e4 e5
  obtain ⟨k, q0, _, _⟩ := DataW.trod_int Try.underlying3 e0
  obtain ⟨m, q1, _, _⟩ := DataW.trod_int Try.underlying3 e1
  obtain ⟨nm, q2, _, z2⟩ := DataW.trod_string Try.underlying9 e2
  obtain ⟨of, q3, _, z3⟩ := DataW.trod_string Try.underlying9 e3
  obtain ⟨x0, x1, x2, n', _, _, d0, d1, d2⟩ := Deep.trod_struct3 Try.underlying23 e4
  simp [cells9, cells3] at d0 d1 d2
  obtain ⟨vk, q4, _, _⟩ := DataW.trod_int Try.underlying3 d0
  obtain ⟨vn, q5, _, _⟩ := DataW.trod_int Try.underlying3 d1
  obtain ⟨vt, q6, _, z6⟩ := DataW.trod_string Try.underlying9 d2
  simp at q0 q1 q2 q3 q4 q5 q6
  exact ⟨⟨k, m, nm, of, vk, vn, vt⟩, n, y5, hn, q0, q1, q2, q3, q4, q5, q6, ⟨z2, z3, z6⟩, e5⟩
set_option maxRecDepth 100000 in
theorem open_rowT {H : Type} {enc : TypeId × Value → H} {W : World} : ∀ (m fuel : Nat) (v : Value) (x : DataW H × List MemPlace), fuel ≤ m → DataW.trod enc Try.prog W 0 (fun _ => true) true fuel 24 [v] = some x →
    ∃ a cap, ∃ f : Fo, v = .slice a f.len cap ∧ RowT 0 W a 0 f ∧ f.len ≤ maxLen ∧ f.len ≤ cap
  | 0, 0, v, x, _, hf => by simp [DataW.trod] at hf
  | m + 1, fuel, v, x, hm, hf => by
    rcases DataW.trod_slice Try.underlying24 hf with ⟨hcs, _⟩ | ⟨ad, l, c, elems, rest, n, hn, hcs, _, _, hl, hc, hel, hE, _, _⟩
    · simp at hcs
      exact ⟨none, 0, .nil, hcs, trivial, Nat.zero_le _, Nat.le_refl _⟩
    · simp at hcs
      subst hcs
      rw [cells26] at hE
      have key : ∀ i, i < l → ∃ (y : ND) (ks : Fo), ElT 0 W (some ad) (0 + i) y ks := fun i hi => by
        have h0 := hE i hi
        rw [List.getElem?_eq_getElem (by omega)] at h0
        obtain ⟨cs', h1, h2⟩ := Option.bind_eq_some_iff.1 h0
        obtain ⟨_, hlen, hcell⟩ := World.cells?_some h1
        match cs', hlen with
        | [c0, c1, c2, c3, c4, c5, c6, c7], _ =>
          obtain ⟨nd, n', y, hn', rfl, rfl, rfl, rfl, rfl, rfl, rfl, ht, hk⟩ := open_node h2
          obtain ⟨ka, kc, ks, rfl, hr, hk1, hk2⟩ := open_rowT m n' _ _ (by omega) hk
          have d0 := hcell 0 (by omega)
          have d1 := hcell 1 (by omega)
          have d2 := hcell 2 (by omega)
          have d3 := hcell 3 (by omega)
          have d4 := hcell 4 (by omega)
          have d5 := hcell 5 (by omega)
          have d6 := hcell 6 (by omega)
          have d7 := hcell 7 (by omega)
          obtain ⟨b, off, spot⟩ := ad
          have hs : spot = none := by
            have g0 := hE 0 (by omega)
            rw [List.getElem?_eq_getElem (by omega)] at g0
            obtain ⟨cs0, g1, _⟩ := Option.bind_eq_some_iff.1 g0
            have := World.cell?_spot ((World.cells?_some g1).2.2 0 (by omega) |>.trans (List.getElem?_eq_getElem (by rw [(World.cells?_some g1).2.1]; omega)))
            simpa [Addr.add] using this
          subst hs
          rw [add_plain, add_plain] at d0 d1 d2 d3 d4 d5 d6 d7
          rw [Nat.zero_add]
          exact ⟨nd, ks, b, off, ka, kc, rfl, Nat.zero_le _, World.block_lt_of_cell? W _ d0, ⟨d0, d1, d2, d3, d4, d5, d6, d7⟩, ⟨hk2, hk1, ht⟩, hr⟩
      obtain ⟨f, hlen, hf'⟩ := exists_fo l 0 key
      subst hlen
      exact ⟨some ad, c, f, rfl, RowT.mk hf', Nat.le_trans hl hc, hl⟩
theorem array8 {α : Type} {cs : Array α} (h : cs.size = 8) : ∃ c0 c1 c2 c3 c4 c5 c6 c7, cs = #[c0, c1, c2, c3, c4, c5, c6, c7] := by
  obtain ⟨l⟩ := cs
  match l, h with
  | [c0, c1, c2, c3, c4, c5, c6, c7], _ => exact ⟨c0, c1, c2, c3, c4, c5, c6, c7, rfl⟩
set_option maxRecDepth 100000 in
theorem open_tree {H : Type} {enc : TypeId × Value → H} {W : World} {base : Nat} {v : Value} {d : DataW H} {p : List MemPlace}
    (hv : Value.okWide Try.prog W .any base 26 v) (h : DataW.Trod enc Try.prog W 0 (fun _ => true) true 26 v d p) :
    ∃ (x : ND) (ka : Option Addr) (kc : Nat) (ks : Fo), v = ValT x (.slice ka ks.len kc) ∧ RowT 0 W ka 0 ks ∧ ks.len ≤ maxLen ∧ TextsN maxLen x := by
  obtain ⟨cs, rfl, hsz⟩ := okWide_struct Try.underlying26 hv
  obtain ⟨v0, v1, v2, v3, v4, v5, v6, v7, rfl⟩ := array8 (hsz.trans cells26)
  obtain ⟨fuel, hf⟩ := h
  simp only [Value.cells] at hf
  obtain ⟨nd, n, y, _, rfl, rfl, rfl, rfl, rfl, rfl, rfl, ht, hk⟩ := open_node hf
  obtain ⟨ka, kc, ks, rfl, hr, hk1, _⟩ := open_rowT n n _ _ (Nat.le_refl _) hk
  exact ⟨nd, ka, kc, ks, rfl, hr, hk1, ht⟩
end Go.Proofs.Ythjibgnhpkonbaa
