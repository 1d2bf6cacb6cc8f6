/- What the byte tests of both sides answer: a letter (or the low line), a digit. -/
import Derived.Test.YtipddjgoohnalaaRows
import Derived.WalkKit
import Derived.WalkSpells
namespace Go.Proofs.Ytipddjgoohnalaa
open Go.RowKit

def letB (n : Int) : Bool := decide ((97 ≤ n ∧ n ≤ 122) ∨ (65 ≤ n ∧ n ≤ 90) ∨ n = 95)
def digB (n : Int) : Bool := decide (48 ≤ n ∧ n ≤ 57)

theorem ret_bool {a b : Bool} (h : a = b) : Ending.returned (.bool a) = .returned (.bool b) := by rw [h]

theorem l00Digit_any (n : Int) (w : World) :
    Calls Try.prog 90 #[.int .u8 n] w fun e w' => e = .returned (.bool (digB n)) ∧ w' = w := by
  go_enter Try.func90, Try.ntmps90
  go_wp2
  all_goals
    go_ret
    exact ⟨ret_bool (by unfold digB; simp; try omega), rfl⟩

theorem isDigit_any (n : Int) (w : World) :
    Calls Try.prog 64 #[.int .u8 n] w fun e w' => e = .returned (.bool (digB n)) ∧ w' = w := by
  go_enter Try.func64, Try.ntmps64
  go_wp2
  all_goals
    go_ret
    exact ⟨ret_bool (by unfold digB; simp; try omega), rfl⟩

theorem l00Letter_any (n : Int) (w : World) :
    Calls Try.prog 89 #[.int .u8 n] w fun e w' => e = .returned (.bool (letB n)) ∧ w' = w := by
  go_enter Try.func89, Try.ntmps89
  go_wp2
  all_goals
    go_ret
    exact ⟨ret_bool (by unfold letB; rw [Bool.eq_iff_iff]; simp <;> omega), rfl⟩

theorem isLetter_any (n : Int) (w : World) :
    Calls Try.prog 65 #[.int .u8 n] w fun e w' => e = .returned (.bool (letB n)) ∧ w' = w := by
  go_enter Try.func65, Try.ntmps65
  go_wp2
  all_goals
    go_ret
    exact ⟨ret_bool (by unfold letB; rw [Bool.eq_iff_iff]; simp <;> omega), rfl⟩
end Go.Proofs.Ytipddjgoohnalaa
