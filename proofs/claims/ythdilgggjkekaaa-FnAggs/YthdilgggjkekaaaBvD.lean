/- Unary signs: impl's (stage 12). -/
import Derived.Test.YthdilgggjkekaaaBvC
import Derived.Deep.RegionHeld3
namespace Go.Proofs.Ythdilgggjkekaaa
open Go.RowKit

abbrev sNeg : ByteArray := ⟨#[45]⟩
abbrev sNot : ByteArray := ⟨#[110, 111, 116]⟩
abbrev sNul : ByteArray := ⟨#[105, 115, 110, 117, 108, 108]⟩
abbrev sNnl : ByteArray := ⟨#[105, 115, 110, 111, 116, 110, 117, 108, 108]⟩
abbrev fnV (g : Nat) : Value := .func (.func g) #[] #[]
/-- An answer: a value and a code. -/
abbrev ansV (x : V3 × Int) : Value := VC x.1.1 x.1.2.1 x.1.2.2 x.2
abbrev zA (c : Int) : V3 × Int := ((0, 0, noT), c)

/-- What is reckoned of two values: a number, or a code alone. -/
def reckA (R C : Int → Int → Int) (a b : V3) : V3 × Int := if a.1 = 0 ∨ b.1 = 0 then zA 0 else if C a.2.1 b.2.1 = 0 then ((2, R a.2.1 b.2.1, noT), 0) else zA (C a.2.1 b.2.1)
abbrev BoxV (w : World) (g : Nat) (k n : Int) (t : ByteArray) : Prop := w.heap[g]? = some (.cells #[.int .i64 k, .int .i64 n, .string t] 27 (0, 0))
theorem box_facts {w : World} {g : Nat} {k n : Int} {t : ByteArray} (h : BoxV w g k n t) : w.cell? ⟨g, 0, none⟩ = some (.int .i64 k) ∧ w.cell? ⟨g, 1, none⟩ = some (.int .i64 n) ∧ w.cell? ⟨g, 2, none⟩ = some (.string t) ∧ w.frozen? ⟨g, 0, none⟩ = false ∧ w.frozen? ⟨g, 1, none⟩ = false ∧ w.frozen? ⟨g, 2, none⟩ = false := by
  refine ⟨?_, ?_, ?_, ?_, ?_, ?_⟩ <;> simp [World.cell?, World.frozen?, h]
theorem box_set {w : World} {g : Nat} {k n : Int} {t : ByteArray} (h : BoxV w g k n t) (k' n' : Int) (t' : ByteArray) : BoxV (((w.setCell ⟨g, 0, none⟩ (.int .i64 k')).setCell ⟨g, 1, none⟩ (.int .i64 n')).setCell ⟨g, 2, none⟩ (.string t')) g k' n' t' := by
  have q := slab_set (o := 2) (slab_set (o := 1) (slab_set (o := 0) h (.int .i64 k')) (.int .i64 n')) (.string t')
  exact q
theorem below_set3 {B : Nat} {w w' : World} (h : Below B w w') {g : Nat} (hg : B ≤ g) (a b c : Value) : Below B w (((w'.setCell ⟨g, 0, none⟩ a).setCell ⟨g, 1, none⟩ b).setCell ⟨g, 2, none⟩ c) := ((h.setCell hg _).setCell hg _).setCell hg _
theorem blk2 (w : World) (o1 o2 o3 : Obj) : (((w.alloc o1).alloc o2).alloc o3).heap[w.heap.size + 1]? = some o2 :=
  (Below.heap_alloc _ _ _ (by simp)).trans (by have := heap_alloc_new (w.alloc o1) o2; simpa using this)
theorem blk2' (w : World) (o1 o2 : Obj) : ((w.alloc o1).alloc o2).heap[w.heap.size + 1]? = some o2 := by have := heap_alloc_new (w.alloc o1) o2; simpa using this
theorem blk1' (w : World) (o1 o2 : Obj) : ((w.alloc o1).alloc o2).heap[w.heap.size]? = some o1 :=
  (Below.heap_alloc _ _ _ (by simp)).trans (heap_alloc_new w o1)
theorem below3 (w : World) (o1 o2 o3 : Obj) : Below w.heap.size w (((w.alloc o1).alloc o2).alloc o3) := (((Below.refl _ _).alloc (Nat.le_refl _) _).alloc (by simp) _).alloc (by simp; omega) _
theorem below2 (w : World) (o1 o2 : Obj) : Below w.heap.size w ((w.alloc o1).alloc o2) := ((Below.refl _ _).alloc (Nat.le_refl _) _).alloc (by simp) _
/-- What negated's region reads and writes. -/
abbrev NgS (w : World) (k n : Int) (t : ByteArray) (w' : World) : Prop := (w'.cell? ⟨w.heap.size, 0, none⟩ = some (.int .i64 k) ∧ w'.cell? ⟨w.heap.size, 1, none⟩ = some (.int .i64 n) ∧ w'.cell? ⟨w.heap.size, 2, none⟩ = some (.string t)) ∧
  (w'.cell? ⟨w.heap.size + 1, 0, none⟩ = some (.int .i64 0) ∧ w'.cell? ⟨w.heap.size + 1, 1, none⟩ = some (.int .i64 0) ∧ w'.cell? ⟨w.heap.size + 1, 2, none⟩ = some (.string noT)) ∧
  (w'.frozen? ⟨w.heap.size + 1, 0, none⟩ = false ∧ w'.frozen? ⟨w.heap.size + 1, 1, none⟩ = false ∧ w'.frozen? ⟨w.heap.size + 1, 2, none⟩ = false) ∧ Hid (w.heap.size + 1 < w'.heap.size ∧ Below w.heap.size w w' ∧ BoxV w' w.heap.size k n t ∧ BoxV w' (w.heap.size + 1) 0 0 noT)
theorem NgS.mk {w w' : World} {k n : Int} {t : ByteArray} (h : w.heap.size + 1 < w'.heap.size ∧ Below w.heap.size w w' ∧ BoxV w' w.heap.size k n t ∧ BoxV w' (w.heap.size + 1) 0 0 noT) : NgS w k n t w' := by
  obtain ⟨a0, a1, a2, _, _, _⟩ := box_facts h.2.2.1
  obtain ⟨b0, b1, b2, b3, b4, b5⟩ := box_facts h.2.2.2
  exact ⟨⟨a0, a1, a2⟩, ⟨b0, b1, b2⟩, ⟨b3, b4, b5⟩, h⟩
theorem NgS.keep {w w1 w2 : World} {k n : Int} {t : ByteArray} (h : NgS w k n t w1) (hb : Below w1.heap.size w1 w2) : NgS w k n t w2 := by
  obtain ⟨_, _, _, ⟨h1, h2, h3, h4⟩⟩ := h
  exact NgS.mk ⟨Nat.lt_of_lt_of_le h1 hb.size, h2.trans (hb.mono h2.size), (hb.block _ (by omega)).trans h3, (hb.block _ h1).trans h4⟩
theorem reck_below {w w' : World} {o1 o2 : Obj} (h : w' = (w.alloc o1).alloc o2) : Below w.heap.size w w' := by subst h; exact below2 w o1 o2
end Go.Proofs.Ythdilgggjkekaaa
