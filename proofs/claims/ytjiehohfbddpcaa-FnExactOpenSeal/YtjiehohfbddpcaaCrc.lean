/- CRC-32, bit by bit and by halves of bytes: plain mathematics. -/
import Derived.Laws.BitsAllLaws
import Derived.WalkKit
namespace Go.Proofs.Ytjiehohfbddpcaa
open Go.RowKit

def bit1 (n : Nat) : Nat := if n % 2 = 1 then n / 2 ^^^ 3988292384 else n / 2
def bitK : Nat → Nat → Nat
  | 0, n => n
  | k + 1, n => bit1 (bitK k n)
/-- The register behind k bytes. -/
def crcN (f : Nat → Int) : Nat → Nat
  | 0 => 4294967295
  | k + 1 => bitK 8 (crcN f k ^^^ (f k).toNat)
/-- The sum of n bytes. -/
def crcS (f : Nat → Int) (n : Nat) : Int := ((crcN f n ^^^ 4294967295 : Nat) : Int)

theorem bit1_eq (n : Nat) : bit1 n = n / 2 ^^^ (if n % 2 = 1 then 3988292384 else 0) := by
  unfold bit1; split <;> simp
theorem bit1_xor (a b : Nat) : bit1 (a ^^^ b) = bit1 a ^^^ bit1 b := by
  rw [bit1_eq, bit1_eq, bit1_eq, Nat.xor_div_two]
  have h : (a ^^^ b) % 2 = (a + b) % 2 := by
    have h2 : (a ^^^ b) % 2 = a % 2 ^^^ b % 2 := Nat.xor_mod_two_pow (n := 1)
    rw [h2, Nat.add_mod]
    rcases Nat.mod_two_eq_zero_or_one a with ha | ha <;> rcases Nat.mod_two_eq_zero_or_one b with hb | hb <;> rw [ha, hb] <;> rfl
  have e : (if (a ^^^ b) % 2 = 1 then 3988292384 else 0) = (if a % 2 = 1 then 3988292384 else 0) ^^^ (if b % 2 = 1 then 3988292384 else 0) := by
    rcases Nat.mod_two_eq_zero_or_one a with ha | ha <;> rcases Nat.mod_two_eq_zero_or_one b with hb | hb
    · rw [if_neg (by omega), if_neg (by omega), if_neg (by omega)]; rfl
    · rw [if_pos (by omega), if_neg (by omega), if_pos (by omega)]; rfl
    · rw [if_pos (by omega), if_pos (by omega), if_neg (by omega)]; rfl
    · rw [if_neg (by omega), if_pos (by omega), if_pos (by omega)]; rfl
  rw [e]
  simp only [Nat.xor_assoc]
  congr 1
  simp only [← Nat.xor_assoc]
  congr 1
  rw [Nat.xor_comm]
theorem bitK_xor (k a b : Nat) : bitK k (a ^^^ b) = bitK k a ^^^ bitK k b := by
  induction k with
  | zero => rfl
  | succ k ih => show bit1 _ = bit1 _ ^^^ bit1 _; rw [ih, bit1_xor]
theorem bit1_double (n : Nat) : bit1 (2 * n) = n := by
  unfold bit1; rw [if_neg (by omega)]; omega
theorem bitK4_16 (n : Nat) : bitK 4 (16 * n) = n := by
  have e : 16 * n = 2 * (2 * (2 * (2 * n))) := by omega
  show bit1 (bit1 (bit1 (bit1 (16 * n)))) = n
  rw [e, bit1_double, bit1_double, bit1_double, bit1_double]
theorem split16 (n : Nat) : 16 * (n / 16) ^^^ n % 16 = n := by
  apply Nat.eq_of_testBit_eq
  intro i
  rw [Nat.testBit_xor]
  have h1 : (16 * (n / 16)).testBit i = (decide (4 ≤ i) && n.testBit i) := by
    have : 16 * (n / 16) = (n >>> 4) <<< 4 := by rw [Nat.shiftRight_eq_div_pow, Nat.shiftLeft_eq, Nat.mul_comm]
    rw [this, Nat.testBit_shiftLeft]
    by_cases h : 4 ≤ i
    · rw [Nat.testBit_shiftRight]
      have : 4 + (i - 4) = i := by omega
      rw [this]
    · simp [h]
  have h2 : (n % 16).testBit i = (decide (i < 4) && n.testBit i) := Nat.testBit_mod_two_pow n 4 i
  rw [h1, h2]
  by_cases h : i < 4
  · have : ¬ 4 ≤ i := by omega
    simp [h, this]
  · have : 4 ≤ i := by omega
    simp [h, this]
theorem half (n : Nat) : bitK 4 n = n / 16 ^^^ bitK 4 (n % 16) := by
  conv => lhs; rw [← split16 n]
  rw [bitK_xor, bitK4_16]
theorem bitK_add (j k n : Nat) : bitK (j + k) n = bitK j (bitK k n) := by
  induction j with
  | zero => rw [Nat.zero_add]; rfl
  | succ j ih => rw [Nat.succ_add]; show bit1 _ = bit1 _; rw [ih]
theorem bitK8 (n : Nat) : bitK 8 n = bitK 4 (bitK 4 n) := bitK_add 4 4 n
theorem xor32 {a b : Nat} (ha : a < 4294967296) (hb : b < 4294967296) : a ^^^ b < 4294967296 := Nat.xor_lt_two_pow (n := 32) ha hb
theorem bit1_lt {n : Nat} (h : n < 4294967296) : bit1 n < 4294967296 := by
  unfold bit1; split
  · exact xor32 (by omega) (by omega)
  · omega
theorem bitK_lt (k : Nat) {n : Nat} (h : n < 4294967296) : bitK k n < 4294967296 := by
  induction k with
  | zero => exact h
  | succ k ih => exact bit1_lt ih
theorem crcN_lt {f : Nat → Int} {n : Nat} (hf : ∀ i, i < n → 0 ≤ f i ∧ f i ≤ 255) : ∀ k, k ≤ n → crcN f k < 4294967296
  | 0, _ => by show 4294967295 < 4294967296; omega
  | k + 1, h => by
    have := hf k (by omega)
    exact bitK_lt 8 (xor32 (crcN_lt hf k (by omega)) (by omega))
/-- What stands of 32 bits as an int of 64. -/
theorem i64_xor (a b : Nat) (ha : a < 4294967296) (hb : b < 4294967296) : bits .xor .i64 (a : Int) (b : Int) = ((a ^^^ b : Nat) : Int) := by
  have h := xor32 ha hb
  unfold bits
  show IntKind.i64.wrap ((BitVec.ofInt 64 (a : Int) ^^^ BitVec.ofInt 64 (b : Int)).toNat : Int) = _
  rw [BitVec.toNat_xor, ofInt_u64 a (by omega), ofInt_u64 b (by omega)]
  simp only [IntKind.wrap, IntKind.signed, IntKind.bits]
  have e1 : (2 : Int) ^ 64 = 18446744073709551616 := by decide
  have e2 : (2 : Int) ^ (64 - 1) = 9223372036854775808 := by decide
  simp [e1, e2] <;> omega
end Go.Proofs.Ytjiehohfbddpcaa
