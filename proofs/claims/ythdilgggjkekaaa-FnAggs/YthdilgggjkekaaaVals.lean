/- What the helpers on single values answer: szValue, toValue, l01In, spec.ValueOK, impl.cellOf, impl.ValueOK. -/
import Derived.Test.YthdilgggjkekaaaRows
import Derived.WalkKit
import Derived.WalkSpells
import Derived.WalkLawsBesides
import Derived.Outline
import Derived.Below
namespace Go.Proofs.Ythdilgggjkekaaa
open Go.RowKit

theorem ret_bool' {a b : Bool} (h : a = b) : Ending.returned (.bool a) = .returned (.bool b) := by rw [h]
theorem ret_int' {k : IntKind} {a b : Int} (h : a = b) : Ending.returned (.int k a) = .returned (.int k b) := by rw [h]

/-- A value as both sides' structs hold it. -/
abbrev VV (k n : Int) (t : ByteArray) : Value := .agg #[.int .i64 k, .int .i64 n, .string t]

def inB (n lo hi : Int) : Bool := decide (lo ≤ n ∧ n ≤ hi)

/-- A right value, as the document's chapter 2 has it. -/
def okV (k n : Int) (t : ByteArray) : Bool :=
  if k = 0 then n == 0 && t.toList.isEmpty else if k = 1 then inB n 0 1 && t.toList.isEmpty else if k = 2 then t.toList.isEmpty
  else if k = 3 ∨ k = 4 then n == 0 && decide ((t.size : Int) ≤ 60) else false

def leftOf (left : Int) (t : ByteArray) : Int := if left - t.size < 0 then -1 else left - t.size

theorem l01In_any (n lo hi : Int) (w : World) :
    Calls Try.prog 27 #[.int .i64 n, .int .i64 lo, .int .i64 hi] w fun e w' => e = .returned (.bool (inB n lo hi)) ∧ w' = w := by
  by_cases h1 : lo ≤ n
  · by_cases h2 : n ≤ hi
    · have H : Hid (inB n lo hi = true) := decide_eq_true ⟨h1, h2⟩
      go_enter Try.func27, Try.ntmps27
      go_wp2
      go_ret
      exact ⟨ret_bool' H.out.symm, rfl⟩
    · have H : Hid (inB n lo hi = false) := decide_eq_false (by omega)
      go_enter Try.func27, Try.ntmps27
      go_wp2
      go_ret
      exact ⟨ret_bool' H.out.symm, rfl⟩
  · have H : Hid (inB n lo hi = false) := decide_eq_false (by omega)
    go_enter Try.func27, Try.ntmps27
    go_wp2
    go_ret
    exact ⟨ret_bool' H.out.symm, rfl⟩
end Go.Proofs.Ythdilgggjkekaaa
