/- A map of versions by their keys; its entries in order (stage 8). -/
import Derived.Test.YtlcgmifibekegaaPlB
import Derived.Test.YtlcgmifibekegaaIter
import Derived.Maps.OwnSet
import Derived.Maps.OwnOps
import Derived.StringKeys
namespace Go.Proofs.Ytlcgmifibekegaa
open Go.RowKit Go.Maps Go.Sort

/-- How a version in a map reads: when it began, its value. -/
def encP (p : Int × ByteArray) : DataW Nat := .agg [.lit (.int .i64 p.1), .lit (.string p.2.data.toList)]
def verR (v : Value) : Option (DataW Nat × List MemPlace) :=
  match v with
  | .agg cs => match cs.toList with
    | [.string _, .int .i64 b, .int .i64 _, .string x] => some (encP (b, x), [])
    | _ => none
  | _ => none
theorem verR_mk (k : ByteArray) (b e : Int) (x : ByteArray) : verR (.agg #[.string k, .int .i64 b, .int .i64 e, .string x]) = some (encP (b, x), []) := rfl
theorem verR_inv {v : Value} {z : DataW Nat × List MemPlace} (h : verR v = some z) : ∃ k b e x, v = .agg #[.string k, .int .i64 b, .int .i64 e, .string x] ∧ z = (encP (b, x), []) := by
  unfold verR at h
  split at h
  · rename_i cs
    split at h
    · rename_i k b e x hc
      obtain ⟨l⟩ := cs
      simp at hc
      subst hc
      simp at h
      exact ⟨k, b, e, x, rfl, h.symm⟩
    · cases h
  · cases h
theorem encP_inj {p q : Int × ByteArray} (h : encP p = encP q) : p.1 = q.1 ∧ p.2 = q.2 := by
  unfold encP at h
  simp at h
  refine ⟨h.1, ?_⟩
  obtain ⟨b, ⟨x⟩⟩ := p
  obtain ⟨c, ⟨y⟩⟩ := q
  simp at h
  simp [h.2]
abbrev noP : Int × ByteArray := (0, ⟨#[]⟩)
/-- Block b is a map of at most n versions, by their keys as f says. -/
def MapV (w : World) (b n : Nat) (f : List UInt8 → Option (Int × ByteArray)) : Prop :=
  ∃ D, w.ownsMap Try.prog 9 verR b n D ∧ ∀ x, Maps.has D (.string x) = (f x).isSome ∧ D.atKey (.string x) (encP noP) = encP ((f x).getD noP)
theorem keyed9 : Keyed Try.prog 9 := string_keyed Try.underlying9
theorem MapV.made (w : World) : MapV (w.alloc (.map #[] 0)) w.heap.size 0 fun _ => none :=
  ⟨.map [], World.ownsMap_made w Try.prog 9 verR, fun _ => ⟨rfl, rfl⟩⟩
theorem MapV.lt {w : World} {b n : Nat} {f : List UInt8 → Option (Int × ByteArray)} (h : MapV w b n f) : b < w.heap.size := by
  obtain ⟨D, hD, _⟩ := h
  exact hD.lt
theorem MapV.kept {w w' : World} {row : Option Nat} {b n : Nat} {f : List UInt8 → Option (Int × ByteArray)} (h : MapV w b n f) (hg : w.grownBy w' row) (hne : some b ≠ row) : MapV w' b n f := by
  obtain ⟨D, hD, r⟩ := h
  exact ⟨D, hD.kept hg hne, r⟩
theorem MapV.alloc {w : World} {b n : Nat} {f : List UInt8 → Option (Int × ByteArray)} (h : MapV w b n f) (o : Obj) : MapV (w.alloc o) b n f := by
  obtain ⟨D, hD, r⟩ := h
  exact ⟨D, hD.alloc o, r⟩
theorem MapV.below {w w' : World} {B b n : Nat} {f : List UInt8 → Option (Int × ByteArray)} (h : MapV w b n f) (hb : Below B w w') (hB : b < B) : MapV w' b n f := by
  obtain ⟨D, ⟨es, clock, hh, r1⟩, r⟩ := h
  exact ⟨D, ⟨es, clock, (hb.block b hB).trans hh, r1⟩, r⟩
/-- What stands under a key, or nothing. -/
theorem MapV.look {w : World} {b n : Nat} {f : List UInt8 → Option (Int × ByteArray)} (h : MapV w b n f) (k : ByteArray) (hk : k.size ≤ maxLen) :
    ∃ kx e, (Instr.lookup 110 (.map (some b)) (.string k) false).run Try.prog w = .ok (.agg #[.string kx, .int .i64 ((f k.toList).getD noP).1, .int .i64 e, .string ((f k.toList).getD noP).2]) w := by
  obtain ⟨D, hD, r⟩ := h
  obtain ⟨v, ps, hrun, hv⟩ := hD.lookup keyed9 Try.underlying110 (Try.zeroValue112 w) (verR_mk ⟨#[]⟩ 0 0 ⟨#[]⟩) (WideMaps.keyOf_string_mk Try.underlying9 hk)
  obtain ⟨kx, b', e, x, rfl, hz⟩ := verR_inv hv
  have h2 := (r k.toList).2
  rw [ByteArray.toList_eq] at h2
  simp only [Prod.mk.injEq] at hz
  have h3 : encP ((f k.data.toList).getD noP) = encP (b', x) := h2.symm.trans hz.1
  obtain ⟨e1, e2⟩ := encP_inj h3
  refine ⟨kx, e, ?_⟩
  rw [ByteArray.toList_eq, e1, e2]
  exact hrun
def putF (f : List UInt8 → Option (Int × ByteArray)) (k : ByteArray) (p : Int × ByteArray) : List UInt8 → Option (Int × ByteArray) := fun x => if x = k.toList then some p else f x
theorem MapV.put {w : World} {b n : Nat} {f : List UInt8 → Option (Int × ByteArray)} (h : MapV w b n f) (k : ByteArray) (hk : k.size ≤ maxLen) (hn : n < maxLen) (kx : ByteArray) (p : Int × ByteArray) (e : Int) :
    ∃ w', (Instr.mapUpdate 110 (.map (some b)) (.string k) (.agg #[.string kx, .int .i64 p.1, .int .i64 e, .string p.2])).run Try.prog w = .ok () w' ∧ MapV w' b (n + 1) (putF f k p) ∧ w.grownBy w' (some b) := by
  obtain ⟨D, hD, r⟩ := h
  obtain ⟨w', hrun, hO, hg⟩ := hD.update keyed9 Try.underlying110 hn (WideMaps.keyOf_string_mk Try.underlying9 hk) (verR_mk kx p.1 e p.2)
  refine ⟨w', hrun, ⟨_, hO, fun x => ?_⟩, hg⟩
  by_cases ex : x = k.toList
  · have ex' : x = k.data.toList := by rw [ex, ByteArray.toList_eq]
    unfold putF
    rw [if_pos ex, ex']
    exact ⟨Maps.has_put_same hD.isMap (k := .string k.data.toList) trivial _, Maps.atKey_put_same hD.isMap (k := .string k.data.toList) trivial _ _⟩
  · have ex' : Lit.string x ≠ Lit.string k.data.toList := fun e => ex (by rw [ByteArray.toList_eq]; cases e; rfl)
    unfold putF
    rw [if_neg ex, Maps.has_put_other ex', Maps.atKey_put_other ex']
    exact r x

/-- Entries that rise by their keys. -/
def RiseY (es : List TY) : Prop := es.Pairwise fun p q => Op.bytesLess p.1.toList q.1.toList = true
/-- The map f and the entries es say the same. -/
def LinkY (f : List UInt8 → Option (Int × ByteArray)) (es : List TY) : Prop := ∀ k : ByteArray, (f k.toList).map (fun p => p.2) = valY es k
def keysY (es : List TY) : List (List UInt8) := es.map fun e => e.1.toList
theorem less_ne {x y : List UInt8} (h : Op.bytesLess x y = true) : x ≠ y := by
  rw [bytesLess_eq] at h
  intro e
  subst e
  exact absurd (of_decide_eq_true h) (List.lt_irrefl x)
theorem less_le {x y : List UInt8} (h : Op.bytesLess x y = true) : x ≤ y := by
  rw [bytesLess_eq] at h
  exact List.le_of_lt (of_decide_eq_true h)
theorem RiseY.nodup {es : List TY} (h : RiseY es) : (keysY es).Nodup := List.pairwise_map.2 (h.imp fun h => less_ne h)
theorem RiseY.sorted {es : List TY} (h : RiseY es) : (keysY es).mergeSort (fun x y => decide (x ≤ y)) = keysY es :=
  List.mergeSort_of_pairwise (List.pairwise_map.2 (h.imp fun h => decide_eq_true (less_le h)))
theorem valY_some {es : List TY} {k : ByteArray} : (valY es k).isSome = true ↔ k.toList ∈ keysY es := by
  unfold valY keysY
  rw [Option.isSome_map, List.find?_isSome]
  simp only [List.mem_map, beq_iff_eq]
theorem RiseY.val {es : List TY} (h : RiseY es) {i : Nat} (hi : i < es.length) : valY es (nthY es i).1 = some (nthY es i).2 := by
  refine valY_at hi (fun j hj => ?_) (by simp)
  rw [nthY_get hi, nthY_get (by omega)]
  have := List.pairwise_iff_getElem.1 h j i (by omega) hi hj
  simpa using less_ne this
theorem bytes_of (x : List UInt8) : (⟨x.toArray⟩ : ByteArray).toList = x := by rw [ByteArray.toList_eq]
theorem LinkY.mem {f : List UInt8 → Option (Int × ByteArray)} {es : List TY} (h : LinkY f es) (x : List UInt8) : (f x).isSome = true ↔ x ∈ keysY es := by
  have h1 := h ⟨x.toArray⟩
  rw [bytes_of] at h1
  have h2 := valY_some (es := es) (k := ⟨x.toArray⟩)
  rw [bytes_of, ← h1, Option.isSome_map] at h2
  exact h2
theorem keysY_perm {w : World} {b n : Nat} {f : List UInt8 → Option (Int × ByteArray)} {es : List TY} {D : DataW Nat} (hD : w.ownsMap Try.prog 9 verR b n D) (r : ∀ x, Maps.has D (.string x) = (f x).isSome ∧ D.atKey (.string x) (encP noP) = encP ((f x).getD noP)) (hr : RiseY es) (hl : LinkY f es) : (keysY es).Perm (strKeys D) := by
  obtain ⟨l, e1, hp⟩ := hD.tidy keyed9
  obtain ⟨l', e2, hk⟩ := hD.keysOf
  rw [e1] at e2
  cases e2
  rw [e1]
  refine perm_strKeys hp (fun p hp' => ?_) hr.nodup (fun x => ?_)
  · obtain ⟨v, hv⟩ := hk p hp'
    obtain ⟨y, _, e, _⟩ := Maps.keyOf_str Try.underlying9 hv
    exact ⟨y, e⟩
  · rw [← e1, (r x).1, hl.mem]
/-- A key lies in a span. -/
def spanB (fr to : ByteArray) (bd : Bool) (k : ByteArray) : Bool := (!Op.bytesLess k.toList fr.toList) && (!bd || Op.bytesLess k.toList to.toList)
end Go.Proofs.Ytlcgmifibekegaa
