/- Trees as data, and where they lie (stage 11). -/
import Derived.Test.YteejkmcljokloaaGreatDoorBase
namespace Go.Proofs.YteejkmcljokloaaGreatDoor
open Go.RowKit

/-- What a node has beside its kids. -/
structure ND where
  k : Int
  n : Int
  nm : ByteArray
  of : ByteArray
  vk : Int
  vn : Int
  vt : ByteArray
/-- A list of trees: the first one's node, its kids, the others. -/
inductive Fo where
  | nil : Fo
  | cons (x : ND) (ks r : Fo) : Fo
namespace Fo
def len : Fo → Nat
  | nil => 0
  | cons _ _ r => r.len + 1
def size : Fo → Nat
  | nil => 0
  | cons _ ks r => ks.size + r.size + 1
def node : Fo → Nat → ND
  | nil, _ => ⟨0, 0, ⟨#[]⟩, ⟨#[]⟩, 0, 0, ⟨#[]⟩⟩
  | cons x _ _, 0 => x
  | cons _ _ r, i + 1 => r.node i
def kids : Fo → Nat → Fo
  | nil, _ => nil
  | cons _ ks _, 0 => ks
  | cons _ _ r, i + 1 => r.kids i
/-- How many nodes the first k trees have. -/
def upTo : Fo → Nat → Nat
  | nil, _ => 0
  | cons _ _ _, 0 => 0
  | cons _ ks r, k + 1 => ks.size + 1 + r.upTo k
theorem kids_lt : ∀ (f : Fo) (i : Nat), i < f.len → (f.kids i).size < f.size
  | nil, _, h => by simp [len] at h
  | cons _ ks r, 0, _ => by simp only [kids, size]; omega
  | cons _ ks r, i + 1, h => by
    have := kids_lt r i (by simp only [len] at h; omega)
    simp only [kids, size]; omega
theorem upTo_zero (f : Fo) : f.upTo 0 = 0 := by cases f <;> rfl
theorem upTo_succ : ∀ (f : Fo) (i : Nat), i < f.len → f.upTo (i + 1) = f.upTo i + (f.kids i).size + 1
  | nil, _, h => by simp [len] at h
  | cons _ ks r, 0, _ => by simp only [kids, upTo, upTo_zero]; omega
  | cons _ ks r, i + 1, h => by
    have := upTo_succ r i (by simp only [len] at h; omega)
    simp only [kids, upTo] at this ⊢; omega
theorem upTo_len : ∀ f : Fo, f.upTo f.len = f.size
  | nil => rfl
  | cons _ ks r => by have := upTo_len r; simp only [len, upTo, size]; omega
theorem upTo_le : ∀ (f : Fo) (i : Nat), f.upTo i ≤ f.size
  | nil, _ => by simp [upTo]
  | cons _ ks r, 0 => by simp [upTo]
  | cons _ ks r, i + 1 => by have := upTo_le r i; simp only [upTo, size]; omega
theorem len_le : ∀ f : Fo, f.len ≤ f.size
  | nil => Nat.le_refl _
  | cons _ ks r => by have := len_le r; simp only [len, size]; omega
end Fo

/-- Its texts are no longer than m. -/
def TextsN (m : Nat) (x : ND) : Prop := x.nm.size ≤ m ∧ x.of.size ≤ m ∧ x.vt.size ≤ m
/-- Its texts are short, in all its nodes. -/
def SmallF : Fo → Prop
  | .nil => True
  | .cons x ks r => TextsN 1048576 x ∧ SmallF ks ∧ SmallF r
theorem SmallF.at : ∀ {f : Fo} (_ : SmallF f) (i : Nat), i < f.len → TextsN 1048576 (f.node i) ∧ SmallF (f.kids i)
  | .nil, _, _, h => by simp [Fo.len] at h
  | .cons _ _ _, h, 0, _ => ⟨h.1, h.2.1⟩
  | .cons _ _ r, h, i + 1, hi => SmallF.at (f := r) h.2.2 i (by simp only [Fo.len] at hi; omega)
theorem SmallF.mk : ∀ {f : Fo} (_ : ∀ i, i < f.len → TextsN 1048576 (f.node i) ∧ SmallF (f.kids i)), SmallF f
  | .nil, _ => trivial
  | .cons x ks r, h => ⟨(h 0 (by simp [Fo.len])).1, (h 0 (by simp [Fo.len])).2, SmallF.mk (f := r) fun i hi => h (i + 1) (by simp only [Fo.len]; omega)⟩

/-- A tree as a value. -/
abbrev ValT (x : ND) (s : Value) : Value := .agg #[.int .i64 x.k, .int .i64 x.n, .string x.nm, .string x.of, .int .i64 x.vk, .int .i64 x.vn, .string x.vt, s]
abbrev CellT (w : World) (b o : Nat) (x : ND) (s : Value) : Prop := w.cell? ⟨b, o, none⟩ = some (.int .i64 x.k) ∧ w.cell? ⟨b, o + 1, none⟩ = some (.int .i64 x.n) ∧ w.cell? ⟨b, o + 2, none⟩ = some (.string x.nm) ∧ w.cell? ⟨b, o + 3, none⟩ = some (.string x.of) ∧ w.cell? ⟨b, o + 4, none⟩ = some (.int .i64 x.vk) ∧ w.cell? ⟨b, o + 5, none⟩ = some (.int .i64 x.vn) ∧ w.cell? ⟨b, o + 6, none⟩ = some (.string x.vt) ∧ w.cell? ⟨b, o + 7, none⟩ = some s
theorem CellT.same {w w' : World} {b o : Nat} {x : ND} {s : Value} (h : CellT w b o x s) (e : w'.heap[b]? = w.heap[b]?) : CellT w' b o x s := by
  have c : ∀ j, w'.cell? ⟨b, j, none⟩ = w.cell? ⟨b, j, none⟩ := fun j => World.cell?_of_block (w := w) e
  exact ⟨(c _).trans h.1, (c _).trans h.2.1, (c _).trans h.2.2.1, (c _).trans h.2.2.2.1, (c _).trans h.2.2.2.2.1, (c _).trans h.2.2.2.2.2.1, (c _).trans h.2.2.2.2.2.2.1, (c _).trans h.2.2.2.2.2.2.2⟩
/-- The trees of f can be read at a from the i-th place on, all in blocks from B on. -/
def RowT (B : Nat) (w : World) : Option Addr → Nat → Fo → Prop
  | _, _, .nil => True
  | a, i, .cons x ks r => (∃ b off ka kc, a = some ⟨b, off, none⟩ ∧ B ≤ b ∧ b < w.heap.size ∧ CellT w b (off + i * 8) x (.slice ka ks.len kc) ∧ (ks.len ≤ kc ∧ ks.len ≤ maxLen ∧ TextsN maxLen x) ∧ RowT B w ka 0 ks) ∧ RowT B w a (i + 1) r
theorem RowT.same {B : Nat} {w w' : World} (hs : w.heap.size ≤ w'.heap.size) (hb : ∀ b, B ≤ b → b < w.heap.size → w'.heap[b]? = w.heap[b]?) : ∀ {f : Fo} {a : Option Addr} {i : Nat}, RowT B w a i f → RowT B w' a i f
  | .nil, _, _, _ => trivial
  | .cons _ ks r, _, _, h => by
    obtain ⟨⟨b, off, ka, kc, e, h1, h2, h3, h4, h5⟩, h6⟩ := h
    exact ⟨⟨b, off, ka, kc, e, h1, Nat.lt_of_lt_of_le h2 hs, h3.same (hb b h1 h2), h4, RowT.same hs hb (f := ks) h5⟩, RowT.same hs hb (f := r) h6⟩
theorem RowT.below {B : Nat} {w w' : World} {f : Fo} {a : Option Addr} {i : Nat} (h : RowT B w a i f) (hb : Below w.heap.size w w') : RowT B w' a i f := h.same hb.size fun b _ h2 => hb.block b h2
theorem RowT.weak {B C : Nat} {w : World} (hC : C ≤ B) : ∀ {f : Fo} {a : Option Addr} {i : Nat}, RowT B w a i f → RowT C w a i f
  | .nil, _, _, _ => trivial
  | .cons _ ks r, _, _, h => by
    obtain ⟨⟨b, off, ka, kc, e, h1, h2, h3, h4, h5⟩, h6⟩ := h
    exact ⟨⟨b, off, ka, kc, e, Nat.le_trans hC h1, h2, h3, h4, RowT.weak hC (f := ks) h5⟩, RowT.weak hC (f := r) h6⟩
/-- A cell of block g is set, and no tree lies there. -/
theorem RowT.set {g o : Nat} {v : Value} {w : World} {f : Fo} {a : Option Addr} {i : Nat} (h : RowT (g + 1) w a i f) : RowT (g + 1) (w.setCell ⟨g, o, none⟩ v) a i f :=
  h.same (by simp [World.setCell]) fun b h1 _ => Below.heap_setCell _ _ _ _ (by show b ≠ g; omega)
/-- The i-th tree lies there. -/
abbrev ElT (B : Nat) (w : World) (a : Option Addr) (i : Nat) (x : ND) (ks : Fo) : Prop :=
  ∃ b off ka kc, a = some ⟨b, off, none⟩ ∧ B ≤ b ∧ b < w.heap.size ∧ CellT w b (off + i * 8) x (.slice ka ks.len kc) ∧ (ks.len ≤ kc ∧ ks.len ≤ maxLen ∧ TextsN maxLen x) ∧ RowT B w ka 0 ks
theorem RowT.nth {B : Nat} {w : World} : ∀ {f : Fo} {a : Option Addr} {j : Nat}, RowT B w a j f → ∀ i, i < f.len → ElT B w a (j + i) (f.node i) (f.kids i)
  | .nil, _, _, _, i, hi => by simp [Fo.len] at hi
  | .cons _ _ _, _, _, h, 0, _ => h.1
  | .cons _ _ r, a, j, h, i + 1, hi => by
    have := RowT.nth (f := r) h.2 i (by simp only [Fo.len] at hi; omega)
    rw [show j + (i + 1) = j + 1 + i by omega]
    exact this
theorem RowT.at {B : Nat} {w : World} {f : Fo} {a : Option Addr} (h : RowT B w a 0 f) (i : Nat) (hi : i < f.len) : ElT B w a i (f.node i) (f.kids i) := by
  have := h.nth i hi
  rwa [Nat.zero_add] at this
theorem RowT.mk {B : Nat} {w : World} : ∀ {f : Fo} {a : Option Addr} {j : Nat}, (∀ i, i < f.len → ElT B w a (j + i) (f.node i) (f.kids i)) → RowT B w a j f
  | .nil, _, _, _ => trivial
  | .cons _ _ r, a, j, h => ⟨h 0 (by simp [Fo.len]), RowT.mk (f := r) fun i hi => by
      have := h (i + 1) (by simp only [Fo.len]; omega)
      rw [show j + (i + 1) = j + 1 + i by omega] at this
      exact this⟩
end Go.Proofs.YteejkmcljokloaaGreatDoor
