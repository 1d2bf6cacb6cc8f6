/- What the binary signs' functions are (stage 12). -/
import Derived.Test.YthdilgggjkekaaaBvE
import Derived.Test.YthdilgggjkekaaaCompare
namespace Go.Proofs.Ythdilgggjkekaaa
open Go.RowKit

/-- All blocks but b stay as they were. -/
def Keeps (b : Nat) (u u' : World) : Prop := u.heap.size ≤ u'.heap.size ∧ ∀ i, i < u.heap.size → i ≠ b → u'.heap[i]? = u.heap[i]?
theorem Keeps.refl (b : Nat) (u : World) : Keeps b u u := ⟨Nat.le_refl _, fun _ _ _ => rfl⟩
theorem Keeps.trans {b : Nat} {u u1 u2 : World} (h : Keeps b u u1) (k : Keeps b u1 u2) : Keeps b u u2 :=
  ⟨Nat.le_trans h.1 k.1, fun i hi hb => (k.2 i (Nat.lt_of_lt_of_le hi h.1) hb).trans (h.2 i hi hb)⟩
theorem Keeps.of_below {b : Nat} {u u' : World} (h : Below u.heap.size u u') : Keeps b u u' := ⟨h.size, fun i hi _ => h.block i hi⟩
theorem Keeps.of_grown {b : Nat} {u u' : World} (h : u.grownBy u' (some b)) : Keeps b u u' := ⟨h.size, fun i hi hb => h.block i hi (fun e => hb (by cases e; rfl))⟩
/-- A function value that works two values out as F says, as long as all blocks but b stay. -/
def Clo (b : Nat) (u : World) (v : Value) (F : V3 → V3 → V3 × Int) : Prop :=
  ∃ g cap, v = .func (.func g) #[] cap ∧ Ent g ∧ ∀ u', Keeps b u u' → ∀ x y : V3, In64 x.2.1 → In64 y.2.1 →
    Calls Try.prog g (#[VV x.1 x.2.1 x.2.2, VV y.1 y.2.1 y.2.2] ++ cap) u' fun e u'' => e = .returned (ansV (F x y)) ∧ Below u'.heap.size u' u''
theorem Clo.keep {b : Nat} {u u1 : World} {v : Value} {F : V3 → V3 → V3 × Int} (h : Clo b u v F) (k : Keeps b u u1) : Clo b u1 v F := by
  obtain ⟨g, cap, e, hE, hc⟩ := h
  exact ⟨g, cap, e, hE, fun u' k' => hc u' (k.trans k')⟩
theorem cell_blk {w : World} {g : Nat} {v : Value} {e : TypeId} (h : w.heap[g]? = some (.cells #[v] e (0, 0))) : w.cell? ⟨g, 0, none⟩ = some v := by simp [World.cell?, h]
theorem lt_blk {w : World} {g : Nat} {o : Obj} (h : w.heap[g]? = some o) : g < w.heap.size := (Array.getElem?_eq_some_iff.1 h).1

/-- A function of two numbers, in every world. -/
def IntsA (g : Nat) (R C : Int → Int → Int) : Prop := Ent g ∧ ∀ w a b, In64 a → In64 b → Calls Try.prog g #[.int .i64 a, .int .i64 b] w fun e w'' => e = .returned (NC (R a b) (C a b)) ∧ Below w.heap.size w w''
/-- What a comparison says of two values. -/
def cmpA (p : Int → Bool) (a b : V3) : V3 × Int := if a.1 = 0 ∨ b.1 = 0 then zA 0 else ((1, bit (p (cmpV a.1 a.2.1 a.2.2 b.1 b.2.1 b.2.2)), noT), 0)
/-- A function of an order, in every world. -/
def OrdA (h : Nat) (p : Int → Bool) : Prop := Ent h ∧ ∀ w c, Calls Try.prog h #[.int .i64 c] w fun e w' => e = .returned (.bool (p c)) ∧ w' = w
/-- What compared's function reads and writes. -/
abbrev CpS (w : World) (bx h : Nat) (k n : Int) (t : ByteArray) (k2 n2 : Int) (t2 : ByteArray) (w' : World) : Prop :=
  (w'.cell? ⟨w.heap.size, 0, none⟩ = some (.int .i64 k) ∧ w'.cell? ⟨w.heap.size, 1, none⟩ = some (.int .i64 n) ∧ w'.cell? ⟨w.heap.size, 2, none⟩ = some (.string t)) ∧
  (w'.cell? ⟨w.heap.size + 1, 0, none⟩ = some (.int .i64 k2) ∧ w'.cell? ⟨w.heap.size + 1, 1, none⟩ = some (.int .i64 n2) ∧ w'.cell? ⟨w.heap.size + 1, 2, none⟩ = some (.string t2)) ∧
  (w'.cell? ⟨w.heap.size + 1 + 1, 0, none⟩ = some (.int .i64 0) ∧ w'.cell? ⟨w.heap.size + 1 + 1, 1, none⟩ = some (.int .i64 0) ∧ w'.cell? ⟨w.heap.size + 1 + 1, 2, none⟩ = some (.string noT)) ∧
  (w'.frozen? ⟨w.heap.size + 1 + 1, 0, none⟩ = false ∧ w'.frozen? ⟨w.heap.size + 1 + 1, 1, none⟩ = false ∧ w'.frozen? ⟨w.heap.size + 1 + 1, 2, none⟩ = false) ∧
  (w'.cell? ⟨bx, 0, none⟩ = some (fnV h)) ∧
  Hid (w.heap.size + 1 + 1 < w'.heap.size ∧ Below w.heap.size w w' ∧ (BoxV w' w.heap.size k n t ∧ BoxV w' (w.heap.size + 1) k2 n2 t2 ∧ BoxV w' (w.heap.size + 1 + 1) 0 0 noT) ∧ bx < w'.heap.size)
theorem CpS.mk {w w' : World} {bx h : Nat} {k n : Int} {t : ByteArray} {k2 n2 : Int} {t2 : ByteArray} (hx : w'.cell? ⟨bx, 0, none⟩ = some (fnV h))
    (q : w.heap.size + 1 + 1 < w'.heap.size ∧ Below w.heap.size w w' ∧ (BoxV w' w.heap.size k n t ∧ BoxV w' (w.heap.size + 1) k2 n2 t2 ∧ BoxV w' (w.heap.size + 1 + 1) 0 0 noT) ∧ bx < w'.heap.size) : CpS w bx h k n t k2 n2 t2 w' := by
  obtain ⟨a0, a1, a2, _, _, _⟩ := box_facts q.2.2.1.1
  obtain ⟨b0, b1, b2, _, _, _⟩ := box_facts q.2.2.1.2.1
  obtain ⟨c0, c1, c2, c3, c4, c5⟩ := box_facts q.2.2.1.2.2
  exact ⟨⟨a0, a1, a2⟩, ⟨b0, b1, b2⟩, ⟨c0, c1, c2⟩, ⟨c3, c4, c5⟩, hx, q⟩
theorem CpS.keep {w w1 w2 : World} {bx h : Nat} {k n : Int} {t : ByteArray} {k2 n2 : Int} {t2 : ByteArray} (q : CpS w bx h k n t k2 n2 t2 w1) (hb : Below w1.heap.size w1 w2) : CpS w bx h k n t k2 n2 t2 w2 := by
  obtain ⟨_, _, _, _, hx, ⟨h1, h2, ⟨h3, h4, h5⟩, h6⟩⟩ := q
  exact CpS.mk ((hb.cell (p := ⟨bx, 0, none⟩) h6).trans hx) ⟨Nat.lt_of_lt_of_le h1 hb.size, h2.trans (hb.mono h2.size), ⟨(hb.block _ (by omega)).trans h3, (hb.block _ (by omega)).trans h4, (hb.block _ h1).trans h5⟩, Nat.lt_of_lt_of_le h6 hb.size⟩
theorem blk3 (w : World) (o1 o2 o3 : Obj) : (((w.alloc o1).alloc o2).alloc o3).heap[w.heap.size]? = some o1 ∧ (((w.alloc o1).alloc o2).alloc o3).heap[w.heap.size + 1]? = some o2 ∧ (((w.alloc o1).alloc o2).alloc o3).heap[w.heap.size + 1 + 1]? = some o3 :=
  ⟨(Below.heap_alloc _ _ _ (by simp; omega)).trans (blk1' w _ _), blk2 w _ _ _, by have := heap_alloc_new ((w.alloc o1).alloc o2) o3; simpa using this⟩
end Go.Proofs.Ythdilgggjkekaaa
