/- The eight bytes of an int, the highest bit turned: plain mathematics. -/
import Derived.Laws.BitsAllLaws
import Derived.WalkKit
namespace Go.Proofs.Ytfkenogbfbbbjaa
open Go.RowKit

theorem xor_high (a : Nat) (h : a < 2 ^ 64) : a ^^^ 2 ^ 63 = if a < 2 ^ 63 then a + 2 ^ 63 else a - 2 ^ 63 := by
  split
  · rename_i hl
    rw [Nat.xor_comm, Nat.add_comm]
    apply Nat.eq_of_testBit_eq
    intro i
    rw [Nat.testBit_xor, Nat.testBit_two_pow]
    by_cases e : i = 63
    · subst e
      rw [Nat.testBit_two_pow_add_eq, Nat.testBit_lt_two_pow hl]; rfl
    · rw [decide_eq_false (by omega), Bool.false_xor]
      rcases Nat.lt_or_ge i 63 with hi | hi
      · rw [Nat.testBit_two_pow_add_gt (by omega)]
      · rw [Nat.testBit_lt_two_pow (Nat.lt_of_lt_of_le hl (Nat.pow_le_pow_right (by omega) (by omega))), Nat.testBit_lt_two_pow (Nat.lt_of_lt_of_le (by omega : 2 ^ 63 + a < 2 ^ 64) (Nat.pow_le_pow_right (by omega) (by omega)))]
  · rename_i hl
    obtain ⟨c, rfl⟩ : ∃ c, a = 2 ^ 63 + c := ⟨a - 2 ^ 63, by omega⟩
    have hc : c < 2 ^ 63 := by omega
    rw [Nat.add_sub_cancel_left]
    apply Nat.eq_of_testBit_eq
    intro i
    rw [Nat.testBit_xor, Nat.testBit_two_pow]
    by_cases e : i = 63
    · subst e
      rw [Nat.testBit_two_pow_add_eq, Nat.testBit_lt_two_pow hc]; rfl
    · rw [decide_eq_false (by omega), Bool.xor_false]
      rcases Nat.lt_or_ge i 63 with hi | hi
      · rw [Nat.testBit_two_pow_add_gt (by omega)]
      · rw [Nat.testBit_lt_two_pow (Nat.lt_of_lt_of_le h (Nat.pow_le_pow_right (by omega) (by omega))), Nat.testBit_lt_two_pow (Nat.lt_of_lt_of_le hc (Nat.pow_le_pow_right (by omega) (by omega)))]

/-- The word whose bytes are written. -/
def uX (n : Int) : Int := bits .xor .u64 (IntKind.u64.wrap n) 9223372036854775808
theorem uX_eq (n : Int) (h1 : -9223372036854775808 ≤ n) (h2 : n ≤ 9223372036854775807) : uX n = n + 9223372036854775808 := by
  unfold uX
  have hw : IntKind.u64.wrap n = n % 18446744073709551616 := by simp [IntKind.wrap, IntKind.signed, IntKind.bits]
  rw [hw]
  have h0 : 0 ≤ n % 18446744073709551616 := by omega
  have h3 : n % 18446744073709551616 < 18446744073709551616 := by omega
  rw [u64_xor _ _ h0 h3 (by omega) (by omega)]
  have h4 : (9223372036854775808 : Int).toNat = 2 ^ 63 := by decide
  rw [h4, xor_high _ (by have : (2 : Nat) ^ 64 = 18446744073709551616 := by decide
                         omega)]
  have h63 : (2 : Nat) ^ 63 = 9223372036854775808 := by decide
  rw [h63]
  split <;> omega
end Go.Proofs.Ytfkenogbfbbbjaa
