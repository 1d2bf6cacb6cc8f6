/- The law FnAggs, walked (stage 12). -/
import Derived.Test.YthdilgggjkekaaaAhL
namespace Go.Proofs.Ythdilgggjkekaaa
open Go.RowKit

/-- Behind the first loop's rounds. -/
def Lp (u w : World) (B : Nat) (v6 v7 : Value) (os : List (Option Int)) : Prop :=
  Lst w B v6 os ∧ Lst w B v7 os.reverse ∧ (∀ g, v6.ownBlock = some g → v7.ownBlock ≠ some g) ∧ (∀ x ∈ vals os, -1000000 ≤ x ∧ x ≤ 1000000) ∧ Below B u w
theorem Lp.start (u : World) : Lp u ((u.alloc (.cells #[] 27)).alloc (.cells #[] 27)) u.heap.size (.slice (some ⟨u.heap.size, 0, none⟩) 0 0) (.slice (some ⟨u.heap.size + 1, 0, none⟩) 0 0) [] := by
  refine ⟨(Lst.empty (Nat.le_refl _)).below ((Below.refl _ _).alloc (Nat.le_refl _) _), ?_, fun g hg e => ?_, fun x hx => by simp [vals] at hx, below2 u _ _⟩
  · have := Lst.empty (w := u.alloc (.cells #[] 27)) (B := u.heap.size) (by simp)
    have e : (u.alloc (.cells #[] 27)).heap.size = u.heap.size + 1 := by simp
    rw [e] at this
    exact this
  · simp [Value.ownBlock] at hg e
    omega

/-- One round: v = ov o stands in the box g9; it is appended at either end. -/
theorem Lp.step {u wr W : World} {B g9 : Nat} {v6 v7 : Value} {os : List (Option Int)} (h : Lp u wr B v6 v7 os) (o : Option Int) (hl : os.length ≤ 90) (ho : ∀ x ∈ vals [o], -1000000 ≤ x ∧ x ≤ 1000000)
    (hB : B ≤ wr.heap.size) (h9 : g9 = wr.heap.size) (hW : Below wr.heap.size wr W) (hbx : BoxV W g9 (ov o).1 (ov o).2.1 (ov o).2.2) :
    ∃ v6' w2, (Builtin.append_ #[25, 25] 25 #[v6, .slice (some ⟨W.heap.size, 0, none⟩) 1 1]).run Try.prog (W.alloc (.cells #[.int .i64 (ov o).1, .int .i64 (ov o).2.1, .string (ov o).2.2] 27)) = .ok v6' w2 ∧ BoxV w2 g9 (ov o).1 (ov o).2.1 (ov o).2.2 ∧
      ∃ v7' w3, (Builtin.append_ #[25, 25] 25 #[.slice (some ⟨w2.heap.size, 0, none⟩) 1 1, v7]).run Try.prog (w2.alloc (.cells #[.int .i64 (ov o).1, .int .i64 (ov o).2.1, .string (ov o).2.2] 27)) = .ok v7' w3 ∧ Lp u w3 B v6' v7' (os ++ [o]) := by
  obtain ⟨L6, L7, hd, hv, hb⟩ := h
  have hBW : B ≤ W.heap.size := Nat.le_trans hB hW.size
  have hbW : Below B u W := hb.trans (hW.mono hB)
  have L6W := L6.below hW
  have L7W := L7.below hW
  have n6 : v6.ownBlock ≠ some g9 := fun e => by have := (L6.lt g9 e).2; omega
  obtain ⟨v6', w2, hr6, L6', b2, k6⟩ := L6W.snoc o (by omega) hBW hbW
  have hbx2 : BoxV w2 g9 (ov o).1 (ov o).2.1 (ov o).2.2 := k6 g9 _ hbx n6
  have L72 : Lst w2 B v7 os.reverse := L7W.keep fun g X hg hX => k6 g X hX (fun e => hd g e hg)
  have hB2 : B ≤ w2.heap.size := Nat.le_trans (by have := hb.size; have := L6'.2; exact Nat.le_refl _) (by
    rcases L6'.1.2 with ⟨e, _⟩ | ⟨g, cap, cur, e, hg, hh, _⟩
    · obtain ⟨b, cap, e2, _⟩ := L6'.2
      rw [e] at e2
      cases e2
    · exact Nat.le_trans hg (Nat.le_of_lt (slab_lt hh)))
  obtain ⟨v7', w3, hr7, L7', b3, k7, f7⟩ := L72.cons o (by simp; omega) hB2 b2
  refine ⟨v6', w2, hr6, hbx2, v7', w3, hr7, ?_, ?_, ?_, ?_, b3⟩
  · exact L6'.keep fun g X _ hX => k7 g X hX
  · rw [List.reverse_append]
    exact L7'
  · intro g hg e
    have h1 := (L6'.lt g hg).2
    have h2 := f7 g e
    omega
  · intro x hx
    rw [vals_app] at hx
    rcases List.mem_append.1 hx with h | h
    · exact hv x h
    · exact ho x h
end Go.Proofs.Ythdilgggjkekaaa
