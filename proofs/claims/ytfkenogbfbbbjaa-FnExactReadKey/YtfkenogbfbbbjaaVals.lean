/- What the helpers on single values answer: szValue, toValue, l01In, spec.ValueOK, impl.cellOf, impl.ValueOK. -/
import Derived.Test.YtfkenogbfbbbjaaRows
import Derived.WalkKit
import Derived.WalkSpells
import Derived.WalkLawsBesides
import Derived.Outline
import Derived.Below
namespace Go.Proofs.Ytfkenogbfbbbjaa
open Go.RowKit

theorem ret_bool' {a b : Bool} (h : a = b) : Ending.returned (.bool a) = .returned (.bool b) := by rw [h]
theorem ret_int' {k : IntKind} {a b : Int} (h : a = b) : Ending.returned (.int k a) = .returned (.int k b) := by rw [h]

/-- A value as both sides' structs hold it. -/
abbrev VV (k n : Int) (t : ByteArray) : Value := .agg #[.int .i64 k, .int .i64 n, .string t]

def inB (n lo hi : Int) : Bool := decide (lo ≤ n ∧ n ≤ hi)

/-- A right value, as the document's chapter 2 has it. -/
def okV (k n : Int) (t : ByteArray) : Bool :=
  if k = 0 then n == 0 && t.toList.isEmpty else if k = 1 then inB n 0 1 && t.toList.isEmpty else if k = 2 then t.toList.isEmpty
  else if k = 3 ∨ k = 4 then n == 0 && decide ((t.size : Int) ≤ 60) else false

def leftOf (left : Int) (t : ByteArray) : Int := if left - t.size < 0 then -1 else left - t.size

theorem szValue_any (k n left : Int) (t : ByteArray) (w : World) (h0 : 0 ≤ left) (h1 : left ≤ 1048576) (ht : t.size ≤ maxLen) :
    Calls Try.prog 26 #[VV k n t, .int .i64 left] w fun e w' => e = .returned (.int .i64 (leftOf left t)) ∧ Below w.heap.size w w' := by
  unfold maxLen at ht
  by_cases hlt : left - t.size < 0
  · have H : Hid (leftOf left t = -1) := by show _ = _; unfold leftOf; rw [if_pos hlt]
    go_enter Try.func26, Try.ntmps26
    go_wp2
    go_ret
    exact ⟨ret_int' H.out.symm, (Below.refl _ _).alloc (Nat.le_refl _) _⟩
  · have H : Hid (leftOf left t = left - t.size) := by show _ = _; unfold leftOf; rw [if_neg hlt]
    go_enter Try.func26, Try.ntmps26
    go_wp2
    go_ret
    exact ⟨ret_int' H.out.symm, (Below.refl _ _).alloc (Nat.le_refl _) _⟩

theorem toValue_any (k n : Int) (t : ByteArray) (w : World) :
    Calls Try.prog 28 #[VV k n t] w fun e w' => e = .returned (VV k n t) ∧ Below w.heap.size w w' := by
  go_enter Try.func28, Try.ntmps28
  go_wp2
  exact bodyPost_ret (v := VV k n t) (by simp [results, Try.results28, go_sem]) rfl ⟨rfl, (((Below.refl _ _).alloc (Nat.le_refl _) _).alloc (by simp) _).alloc (by simp; omega) _⟩

theorem l01In_any (n lo hi : Int) (w : World) :
    Calls Try.prog 66 #[.int .i64 n, .int .i64 lo, .int .i64 hi] w fun e w' => e = .returned (.bool (inB n lo hi)) ∧ w' = w := by
  by_cases h1 : lo ≤ n
  · by_cases h2 : n ≤ hi
    · have H : Hid (inB n lo hi = true) := decide_eq_true ⟨h1, h2⟩
      go_enter Try.func66, Try.ntmps66
      go_wp2
      go_ret
      exact ⟨ret_bool' H.out.symm, rfl⟩
    · have H : Hid (inB n lo hi = false) := decide_eq_false (by omega)
      go_enter Try.func66, Try.ntmps66
      go_wp2
      go_ret
      exact ⟨ret_bool' H.out.symm, rfl⟩
  · have H : Hid (inB n lo hi = false) := decide_eq_false (by omega)
    go_enter Try.func66, Try.ntmps66
    go_wp2
    go_ret
    exact ⟨ret_bool' H.out.symm, rfl⟩
end Go.Proofs.Ytfkenogbfbbbjaa
