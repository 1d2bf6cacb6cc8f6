/- The literal of a value, the specification's (stage 1). -/
import Derived.Test.YtiimegahhnjjkaaDoorVtE
import Derived.Deep.RegionHeld3
import Derived.Lib.AppendZeros
import Derived.Lib.SmallJoins
namespace Go.Proofs.YtiimegahhnjjkaaDoor
open Go.RowKit

theorem step_append_run {ops : Array Oper} {o : Oper} {a : Act} {w : World} {K : Act → World → Prop} {Q : Exit → Act → World → Prop} {E : Prop} (hgd : o.guard = none) (s x : Operand) (t tn : TypeId)
    (ho : o.op = .call { callee := .builtin .append, args := #[s, x], argTypes := #[t, tn] }) (vs vx : Value) (hs : a.eval s = vs) (hx : a.eval x = vx)
    (v' : Value) (w' : World) (hr : (Builtin.append_ #[t, tn] o.type #[vs, vx]).run Tryd.prog w = .ok v' w') (h : K (a.put o.dst v') w') :
    if Region.wanted o (yielded ops a.tmps) = true then Oper.wp Tryd.prog o a w K Q else E := by
  have hw : Region.wanted o (yielded ops a.tmps) = true := by simp [Region.wanted, hgd]
  rw [if_pos hw]
  exact Lib.wp_append_run w s x t tn ho vs vx hs hx v' w' hr h
/-- A list of bytes of the call's own. -/
def OwnC (w : World) (B : Nat) (v : Value) (l : List UInt8) : Prop := w.ownsRow B 5 1 v l.length (Lib.byteCells l)
theorem OwnC.below {w w' : World} {B : Nat} {v : Value} {l : List UInt8} (h : OwnC w B v l) (hb : Below w.heap.size w w') : OwnC w' B v l := ownb_below h hb
theorem OwnC.empty {u : World} {B : Nat} (hB : B ≤ u.heap.size) : OwnC (u.alloc (.cells #[] 5)) B (.slice (some ⟨u.heap.size, 0, none⟩) 0 0) [] :=
  ⟨rfl, .inr ⟨u.heap.size, 0, #[], rfl, hB, heap_new' _ _ _ rfl, by simp, by simp [maxLen], by simp, by simp [Lib.byteCells]⟩⟩
theorem OwnC.one {u : World} {B : Nat} (hB : B ≤ u.heap.size) (c : UInt8) : OwnC (u.alloc (.cells #[.int .u8 (c.toNat : Int)] 5)) B (.slice (some ⟨u.heap.size, 0, none⟩) 1 1) [c] :=
  ⟨rfl, .inr ⟨u.heap.size, 1, #[.int .u8 (c.toNat : Int)], rfl, hB, heap_new' _ _ _ rfl, by simp, by simp [maxLen], by simp, by simp [Lib.byteCells]⟩⟩
/-- One more byte, or two. -/
theorem app_one (v : Value) (l : List UInt8) (w : World) (B : Nat) (h : OwnC w B v l) (hl : l.length ≤ 1048576) (c : UInt8) (g : Nat) (hg : w.heap[g]? = some (.cells #[.int .u8 (c.toNat : Int)] 5 (0, 0))) (hB : B ≤ w.heap.size) :
    ∃ v' w', (Builtin.append_ #[49, 49] 49 #[v, .slice (some ⟨g, 0, none⟩) 1 1]).run Tryd.prog w = .ok v' w' ∧ OwnC w' B v' (l ++ [c]) ∧ w.grownBy w' v.ownBlock := by
  obtain ⟨i0, hi, hz0, hz1, hz2⟩ := info_parts info5
  obtain ⟨v', w', hrun, r1, r2, _⟩ := run_append_own (P := Tryd.prog) w B 49 49 5 i0 (.int .u8 0) 1 1 Tryd.underlying49 hi hz0 hz1 hz2 rfl (by decide) v l.length (Lib.byteCells l) h ⟨g, 0, none⟩ 1 1 [.int .u8 (c.toNat : Int)] rfl (fun j u hj => by
    match j, hj with
    | 0, hj => simp at hj; subst hj; rw [add_plain, slab_cell hg]; rfl) (by intro u hu; simp at hu; subst hu; rfl) (by unfold maxLen; omega) (by omega) hB
  refine ⟨v', w', hrun, ?_, r2⟩
  unfold OwnC
  rw [List.length_append, Lib.byteCells_append]
  exact r1
theorem app_two (v : Value) (l : List UInt8) (w : World) (B : Nat) (h : OwnC w B v l) (hl : l.length ≤ 1048576) (c d : UInt8) (g : Nat) (hg : w.heap[g]? = some (.cells #[.int .u8 (c.toNat : Int), .int .u8 (d.toNat : Int)] 5 (0, 0))) (hB : B ≤ w.heap.size) :
    ∃ v' w', (Builtin.append_ #[49, 49] 49 #[v, .slice (some ⟨g, 0, none⟩) 2 2]).run Tryd.prog w = .ok v' w' ∧ OwnC w' B v' (l ++ [c, d]) ∧ w.grownBy w' v.ownBlock := by
  obtain ⟨i0, hi, hz0, hz1, hz2⟩ := info_parts info5
  obtain ⟨v', w', hrun, r1, r2, _⟩ := run_append_own (P := Tryd.prog) w B 49 49 5 i0 (.int .u8 0) 1 1 Tryd.underlying49 hi hz0 hz1 hz2 rfl (by decide) v l.length (Lib.byteCells l) h ⟨g, 0, none⟩ 2 2 [.int .u8 (c.toNat : Int), .int .u8 (d.toNat : Int)] rfl (fun j u hj => by
    match j, hj with
    | 0, hj => simp at hj; subst hj; rw [add_plain, slab_cell hg]; rfl
    | 1, hj => simp at hj; subst hj; rw [add_plain, slab_cell hg]; rfl) (by intro u hu; simp at hu; rcases hu with rfl | rfl <;> rfl) (by unfold maxLen; omega) (by omega) hB
  refine ⟨v', w', hrun, ?_, r2⟩
  unfold OwnC
  rw [List.length_append, Lib.byteCells_append]
  exact r1
/-- The text of a list of bytes of the call's own. -/
theorem conv_own {w : World} {B : Nat} {v : Value} {l : List UInt8} (h : OwnC w B v l) : Sem.run Tryd.prog (convert 49 9 v) w = .ok (.string (tx l)) w := by
  obtain ⟨h1, h2⟩ := h
  rcases h2 with ⟨rfl, hx⟩ | ⟨g, cap, cur, rfl, hb, hh, h3, h4, h5, h6⟩
  · obtain rfl := List.eq_nil_of_length_eq_zero hx
    kernel_rfl
  · refine run_convert_bytes_back (P := Tryd.prog) w 49 9 5 ⟨g, 0, none⟩ cap l Tryd.underlying49 Tryd.underlying5 Tryd.underlying9 (fun j hj => ?_)
    have e : (Lib.byteCells l)[j]? = some (.int .u8 (l[j].toNat : Int)) := by unfold Lib.byteCells; rw [List.getElem?_map, List.getElem?_eq_getElem hj]; rfl
    rw [add_plain, Nat.zero_add, slab_cell hh, ← e, ← h6, List.getElem?_take, if_pos (by omega), Array.getElem?_toList]
end Go.Proofs.YtiimegahhnjjkaaDoor
