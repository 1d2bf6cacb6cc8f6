/- How a disk that is handed to a law is opened, and what the listed variables hold. -/
import Derived.Test.YtgfgaiimigchkaaDoorDiskG
import Derived.Lib.SmallJoins
import Derived.ShutString
import Derived.ChangeOld
import Derived.Deep.Slices
import Derived.Deep.Strs
import Derived.Deep.DeepHandedRow
import Derived.OpenVars
import Derived.Stop.LaidErr
namespace Go.Proofs.YtgfgaiimigchkaaDoor
open Go.ChangeShapes Go.WideShapes Go.ChangeAt Go.RowKit Go.Joins

theorem own : ownKnob Tryd.prog.godebug = none := by kernel_rfl
theorem laidOut : laidOutB Tryd.prog = true := by kernel_rfl
theorem cells49 : Tryd.prog.cellsOf 49 = 2 := by kernel_rfl
theorem cells117 : Tryd.prog.cellsOf 117 = 2 := by kernel_rfl
theorem cells9 : Tryd.prog.cellsOf 9 = 1 := by kernel_rfl
theorem cells3 : Tryd.prog.cellsOf 3 = 1 := by kernel_rfl
theorem cells187 : Tryd.prog.cellsOf 187 = 1 := by kernel_rfl

theorem add_plain (b off i : Nat) : (⟨b, off, none⟩ : Addr).add i = ⟨b, off + i, none⟩ := by
  unfold Addr.add
  split <;> simp_all

theorem exists_listS {P : Nat → ByteArray → Prop} : ∀ n, (∀ i, i < n → ∃ v, P i v) → ∃ vs : List ByteArray, vs.length = n ∧ ∀ i, i < n → P i (nthS vs i)
  | 0, _ => ⟨[], rfl, fun i hi => by omega⟩
  | n + 1, h => by
    obtain ⟨vs, hl, hv⟩ := exists_listS n (fun i hi => h i (by omega))
    obtain ⟨v, hp⟩ := h n (by omega)
    refine ⟨vs ++ [v], by simp [hl], fun i hi => ?_⟩
    by_cases e : i = n
    · subst e
      have : nthS (vs ++ [v]) i = v := by unfold nthS; simp [List.getD_eq_getElem?_getD, hl]
      rw [this]; exact hp
    · have : nthS (vs ++ [v]) i = nthS vs i := by unfold nthS; rw [List.getD_eq_getElem?_getD, List.getD_eq_getElem?_getD, List.getElem?_append_left (by omega)]
      rw [this]; exact hv i (by omega)
theorem exists_listP {P : Nat → P2 → Prop} : ∀ n, (∀ i, i < n → ∃ v, P i v) → ∃ vs : List P2, vs.length = n ∧ ∀ i, i < n → P i (nthP vs i)
  | 0, _ => ⟨[], rfl, fun i hi => by omega⟩
  | n + 1, h => by
    obtain ⟨vs, hl, hv⟩ := exists_listP n (fun i hi => h i (by omega))
    obtain ⟨v, hp⟩ := h n (by omega)
    refine ⟨vs ++ [v], by simp [hl], fun i hi => ?_⟩
    by_cases e : i = n
    · subst e
      have : nthP (vs ++ [v]) i = v := by unfold nthP; simp [List.getD_eq_getElem?_getD, hl]
      rw [this]; exact hp
    · have : nthP (vs ++ [v]) i = nthP vs i := by unfold nthP; rw [List.getD_eq_getElem?_getD, List.getD_eq_getElem?_getD, List.getElem?_append_left (by omega)]
      rw [this]; exact hv i (by omega)

set_option maxRecDepth 100000 in
theorem open_rowS {H : Type} {enc : TypeId × Value → H} {W : World} {fuel : Nat} {v : Value} {x : DataW H × List MemPlace}
    (hf : DataW.trod enc Tryd.prog W 0 (fun _ => true) true fuel 25 [v] = some x) : ∃ a len cap, v = .slice a len cap ∧ ∃ ss : List ByteArray, ss.length = len ∧ RowS W a ss ∧ len ≤ maxLen := by
  rcases Deep.open_slice1 Tryd.underlying25 cells9 hf with ⟨hcs, _⟩ | ⟨ad, l, c, m, n, V, D, Pl, hcs, _, hl, hm, hmm, _, hel⟩
  · simp at hcs
    exact ⟨none, 0, 0, hcs, [], rfl, fun i hi => by simp at hi, Nat.zero_le _⟩
  · simp at hcs hmm
    subst hcs hmm
    refine ⟨_, _, _, rfl, ?_⟩
    have key : ∀ i, i < l → ∃ s : ByteArray, ∃ b off, some ad = some ⟨b, off, none⟩ ∧ b < W.heap.size ∧ W.cell? ⟨b, off + i, none⟩ = some (.string s) ∧ s.size ≤ maxLen := fun i hi => by
      obtain ⟨h1, h2⟩ := hel i (by omega)
      obtain ⟨t, q, _, ht⟩ := DataW.trod_string Tryd.underlying9 h2
      simp at q
      rw [q] at h1
      obtain ⟨b, off, spot⟩ := ad
      have hs : spot = none := by simpa [Addr.add] using World.cell?_spot (hel 0 (by omega)).1
      subst hs
      rw [add_plain] at h1
      exact ⟨t, b, off, rfl, World.block_lt_of_cell? W _ h1, h1, ht⟩
    obtain ⟨ss, hsl, hss⟩ := exists_listS l key
    refine ⟨ss, hsl, fun i hi => ?_, Nat.le_trans hl hm⟩
    obtain ⟨b, off, e, r⟩ := hss i (by omega)
    exact ⟨b, off, e, r⟩

set_option maxRecDepth 100000 in
theorem open_rowP {H : Type} {enc : TypeId × Value → H} {W : World} {fuel : Nat} {v : Value} {x : DataW H × List MemPlace}
    (hf : DataW.trod enc Tryd.prog W 0 (fun _ => true) true fuel 47 [v] = some x) : ∃ a len cap, v = .slice a len cap ∧ ∃ ps : List P2, ps.length = len ∧ RowP W a ps ∧ len ≤ maxLen := by
  rcases Deep.open_slice Tryd.underlying47 hf with ⟨hcs, _⟩ | ⟨ad, l, c, m, n, D, Pl, hcs, _, hl, hm, hmm, _, hel⟩
  · simp at hcs
    exact ⟨none, 0, 0, hcs, [], rfl, fun i hi => by simp at hi, Nat.zero_le _⟩
  · simp at hcs hmm
    subst hcs hmm
    refine ⟨_, _, _, rfl, ?_⟩
    rw [cells117] at hel
    have key : ∀ i, i < l → ∃ p : P2, ∃ b off, some ad = some ⟨b, off, none⟩ ∧ b < W.heap.size ∧ CellP W b (off + i * 2) p ∧ p.2.size ≤ maxLen := fun i hi => by
      obtain ⟨cs', h1, h2⟩ := hel i (by omega)
      obtain ⟨_, hlen, hcell⟩ := World.cells?_some h1
      obtain ⟨y0, y1, n', _, _, e0, e1⟩ := trod_struct2 Tryd.underlying117 h2
      match cs', hlen with
      | [c0, c1], _ =>
        obtain ⟨k, q0, _, _⟩ := DataW.trod_int Tryd.underlying3 e0
        obtain ⟨t, q1, _, ht⟩ := DataW.trod_string Tryd.underlying9 e1
        simp [cells3] at q0
        simp [cells9] at q1
        subst q0 q1
        have d0 := hcell 0 (by omega)
        have d1 := hcell 1 (by omega)
        obtain ⟨b, off, spot⟩ := ad
        obtain ⟨cs0, g1, _⟩ := hel 0 (by omega)
        have hs : spot = none := by
          have := World.cell?_spot ((World.cells?_some g1).2.2 0 (by omega) |>.trans (List.getElem?_eq_getElem (by rw [(World.cells?_some g1).2.1]; omega)))
          simpa [Addr.add] using this
        subst hs
        rw [add_plain, add_plain] at d0 d1
        exact ⟨(k, t), b, off, rfl, World.block_lt_of_cell? W _ d0, ⟨d0, d1⟩, ht⟩
    obtain ⟨ps, hpl, hps⟩ := exists_listP l key
    refine ⟨ps, hpl, fun i hi => ?_, Nat.le_trans hl hm⟩
    obtain ⟨b, off, e, r⟩ := hps i (by omega)
    exact ⟨b, off, e, r⟩

set_option maxRecDepth 100000 in
theorem open_disk {H : Type} {enc : TypeId × Value → H} {W : World} {base : Nat} {v : Value} {d : DataW H} {p : List MemPlace}
    (hv : Value.okWide Tryd.prog W .any base 49 v) (h : DataW.Trod enc Tryd.prog W 0 (fun _ => true) true 49 v d p) :
    ∃ (a a' : Option Addr) (c c' : Nat) (ss : List ByteArray) (ps : List P2), v = DV a ss.length c a' ps.length c' ∧ RowS W a ss ∧ RowP W a' ps ∧ ss.length ≤ maxLen ∧ ps.length ≤ maxLen := by
  obtain ⟨c0, c1, y0, y1, m, rfl, _, _, hy0, hy1⟩ := open_agg2 Tryd.underlying49 (by kernel_rfl) cells49 hv h
  obtain ⟨a, n, c, rfl, ss, rfl, hs, hl⟩ := open_rowS hy0
  obtain ⟨a', n', c', rfl, ps, rfl, hp, hl'⟩ := open_rowP hy1
  exact ⟨a, a', c, c', ss, ps, rfl, hs, hp, hl, hl'⟩

theorem gSize : Tryd.prog.globalNamed "loop.example/g00208/impl.errSectorSize" = some 0 := by kernel_rfl
theorem gSec : Tryd.prog.globalNamed "loop.example/g00208/impl.errNoSector" = some 1 := by kernel_rfl
theorem gSizeT : (Tryd.prog.globals[0]?).map (·.type) = some 83 := by kernel_rfl
theorem gSecT : (Tryd.prog.globals[1]?).map (·.type) = some 83 := by kernel_rfl
theorem star : "*" ++ "errors.errorString" = "*errors.errorString" := by decide
theorem row165 (u : TypeId) (h : Tryd.prog.typeName? 3 u = some "*errors.errorString") : u = 165 :=
  typeName_ptr_named (nm := "errors.errorString") (by rw [star]; kernel_rfl) (by kernel_rfl) (by decide) u (by rw [star]; exact h)

/-- What the list gives at a variable that it lists first. -/
theorem sentinel {W : World} {nm : String} {text : List UInt8} {g : Nat} {r : List (String × DataW Unit)} (h : laidMet Tryd.prog ((nm, .iface "*errors.errorString" (.ptr (.agg [.lit (.string text)]))) :: r) W)
    (hg : Tryd.prog.globalNamed nm = some g) (ht : (Tryd.prog.globals[g]?).map (·.type) = some 83) : ∃ v, W.cell? ⟨g, 0, none⟩ = some (.iface 165 v) := by
  obtain ⟨a0, s0, hv0, _⟩ := laid_sentinel h hg ht Tryd.underlying83 row165 Tryd.underlying165 Tryd.underlying187 rfl rfl Tryd.underlying9 cells187 cells9
  exact ⟨_, by simpa using World.var?_cell hg hv0 0⟩
end Go.Proofs.YtgfgaiimigchkaaDoor
