/- Bools and null as values; what is reckoned, with its deferred end (stage 12). -/
import Derived.Test.YthdilgggjkekaaaArB
import Derived.Defers
namespace Go.Proofs.Ythdilgggjkekaaa
open Go.RowKit

def bit (b : Bool) : Int := if b then 1 else 0
abbrev noT : ByteArray := ⟨#[]⟩
theorem specInt_any (n : Int) (w : World) : Calls Try.prog 30 #[.int .i64 n] w fun e w' => e = .returned (VV 2 n noT) ∧ Below w.heap.size w w' := by
  go_enter Try.func30, Try.ntmps30
  go_wp2
  exact bodyPost_ret (v := VV 2 n noT) (by simp [results, Try.results30, go_sem]) rfl ⟨rfl, (Below.refl _ _).alloc (Nat.le_refl _) _⟩
theorem isNull_any (k n : Int) (t : ByteArray) (w : World) : Calls Try.prog 22 #[VV k n t] w fun e w' => e = .returned (.bool (k == 0)) ∧ Below w.heap.size w w' := by
  go_enter Try.func22, Try.ntmps22
  go_wp2
  go_ret
  exact ⟨rfl, (Below.refl _ _).alloc (Nat.le_refl _) _⟩

/-- Blocks g and h hold a value and a code. -/
structure Two (w : World) (g h : Nat) (k n : Int) (t : ByteArray) (c : Int) : Prop where
  bv : w.heap[g]? = some (.cells #[.int .i64 k, .int .i64 n, .string t] 27 (0, 0))
  bc : w.heap[h]? = some (.cells #[.int .i64 c] 3 (0, 0))
  ne : g ≠ h
theorem slab_set {w : World} {g o : Nat} {cur : Array Value} {e : TypeId} (h : w.heap[g]? = some (.cells cur e (0, 0))) (v : Value) : (w.setCell ⟨g, o, none⟩ v).heap[g]? = some (.cells (cur.setIfInBounds o v) e (0, 0)) := by
  simp [World.setCell, Array.getElem?_modify, h]
theorem Two.s0 {w : World} {g h : Nat} {k n : Int} {t : ByteArray} {c : Int} (T : Two w g h k n t c) (x : Int) : Two (w.setCell ⟨g, 0, none⟩ (.int .i64 x)) g h x n t c := ⟨by rw [slab_set T.bv]; rfl, (Below.heap_setCell _ _ _ _ T.ne.symm).trans T.bc, T.ne⟩
theorem Two.s1 {w : World} {g h : Nat} {k n : Int} {t : ByteArray} {c : Int} (T : Two w g h k n t c) (x : Int) : Two (w.setCell ⟨g, 1, none⟩ (.int .i64 x)) g h k x t c := ⟨by rw [slab_set T.bv]; rfl, (Below.heap_setCell _ _ _ _ T.ne.symm).trans T.bc, T.ne⟩
theorem Two.s2 {w : World} {g h : Nat} {k n : Int} {t : ByteArray} {c : Int} (T : Two w g h k n t c) (x : ByteArray) : Two (w.setCell ⟨g, 2, none⟩ (.string x)) g h k n x c := ⟨by rw [slab_set T.bv]; rfl, (Below.heap_setCell _ _ _ _ T.ne.symm).trans T.bc, T.ne⟩
theorem Two.sc {w : World} {g h : Nat} {k n : Int} {t : ByteArray} {c : Int} (T : Two w g h k n t c) (x : Int) : Two (w.setCell ⟨h, 0, none⟩ (.int .i64 x)) g h k n t x := ⟨(Below.heap_setCell _ _ _ _ T.ne).trans T.bv, by rw [slab_set T.bc]; rfl, T.ne⟩
theorem Two.cells {w : World} {g h : Nat} {k n : Int} {t : ByteArray} {c : Int} (T : Two w g h k n t c) : w.cell? ⟨g, 0, none⟩ = some (.int .i64 k) ∧ w.cell? ⟨g, 1, none⟩ = some (.int .i64 n) ∧ w.cell? ⟨g, 2, none⟩ = some (.string t) ∧ w.cell? ⟨h, 0, none⟩ = some (.int .i64 c) := by
  refine ⟨?_, ?_, ?_, ?_⟩ <;> simp [World.cell?, T.bv, T.bc]
theorem Two.free {w : World} {g h : Nat} {k n : Int} {t : ByteArray} {c : Int} (T : Two w g h k n t c) : w.frozen? ⟨g, 0, none⟩ = false ∧ w.frozen? ⟨g, 1, none⟩ = false ∧ w.frozen? ⟨g, 2, none⟩ = false ∧ w.frozen? ⟨h, 0, none⟩ = false := by
  refine ⟨?_, ?_, ?_, ?_⟩ <;> simp [World.frozen?, T.bv, T.bc]
theorem Two.below {w w' : World} {B g h : Nat} {k n : Int} {t : ByteArray} {c : Int} (T : Two w g h k n t c) (b : Below B w w') (hg : g < B) (hh : h < B) : Two w' g h k n t c := ⟨(b.block g hg).trans T.bv, (b.block h hh).trans T.bc, T.ne⟩
theorem onlyCode_ok (g h : Nat) (w : World) (u : FrameMode) (c1 : w.cell? ⟨h, 0, none⟩ = some (.int .i64 0)) :
    CallsD Try.prog 37 #[.pointer (some ⟨g, 0, none⟩), .pointer (some ⟨h, 0, none⟩)] u w fun e u' w' => u' = u ∧ (e = .returned (.tuple #[]) ∧ w' = w) := by
  go_enter_d Try.func37, Try.ntmps37
  go_wp2
  exact bodyPost_end (v := .tuple #[]) (by simp [results, Try.results37, go_sem]) rfl ⟨rfl, rfl⟩
theorem onlyCode_bad (g h : Nat) (k n c : Int) (t : ByteArray) (w : World) (u : FrameMode) (hc : c ≠ 0) (c1 : w.cell? ⟨h, 0, none⟩ = some (.int .i64 c))
    (c2 : w.cell? ⟨g, 0, none⟩ = some (.int .i64 k)) (c3 : w.cell? ⟨g, 1, none⟩ = some (.int .i64 n)) (c4 : w.cell? ⟨g, 2, none⟩ = some (.string t))
    (z2 : w.frozen? ⟨g, 0, none⟩ = false) (z3 : w.frozen? ⟨g, 1, none⟩ = false) (z4 : w.frozen? ⟨g, 2, none⟩ = false) :
    CallsD Try.prog 37 #[.pointer (some ⟨g, 0, none⟩), .pointer (some ⟨h, 0, none⟩)] u w fun e u' w' => u' = u ∧ (e = .returned (.tuple #[]) ∧ w' = ((w.setCell ⟨g, 0, none⟩ (.int .i64 0)).setCell ⟨g, 1, none⟩ (.int .i64 0)).setCell ⟨g, 2, none⟩ (.string noT)) := by
  have hc' : (c != 0) = true := by simpa using hc
  go_enter_d Try.func37, Try.ntmps37
  go_wp2
  exact bodyPost_end (v := .tuple #[]) (by simp [results, Try.results37, go_sem]) rfl ⟨rfl, rfl⟩
/-- Function g has a body. -/
def Ent (g : Nat) : Prop := ∀ (args : Array Value) (w : World), (callFunc g args).run Try.prog w = .ok (.enter g args) w
/-- A function of two numbers, at its number g, from this world on. -/
def IntsW (w : World) (g : Nat) (R C : Int → Int → Int) : Prop := ∀ w', Below w.heap.size w w' → ∀ a b, In64 a → In64 b → Calls Try.prog g #[.int .i64 a, .int .i64 b] w' fun e w'' => e = .returned (NC (R a b) (C a b)) ∧ Below w'.heap.size w' w''
end Go.Proofs.Ythdilgggjkekaaa
