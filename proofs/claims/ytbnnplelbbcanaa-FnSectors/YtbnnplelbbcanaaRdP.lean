/- How both sides read a page: numbers out of bytes, the sum held against what stands behind. -/
import Derived.Test.YtbnnplelbbcanaaPagE
namespace Go.Proofs.Ytbnnplelbbcanaa
open Go.RowKit

/-- The number that bytes tell, the higher ones first. -/
def numOf (l : List UInt8) : Nat := l.foldl (fun n c => n * 256 + c.toNat) 0
theorem numOf_take (l : List UInt8) (k : Nat) (h : k < l.length) : numOf (l.take (k + 1)) = numOf (l.take k) * 256 + (l.getD k 0).toNat := by
  unfold numOf
  rw [List.take_succ_eq_append_getElem h, List.foldl_append, List.getD_eq_getElem?_getD, List.getElem?_eq_getElem h]; rfl
theorem numOf_lt (l : List UInt8) : ∀ k, k ≤ l.length → numOf (l.take k) < 256 ^ k
  | 0, _ => by simp [numOf]
  | k + 1, h => by
    have h1 := numOf_lt l k (by omega)
    have h2 := (l.getD k 0).toNat_lt
    rw [numOf_take l k (by omega), Nat.pow_succ]
    omega
theorem pow3 (k : Nat) (h : k ≤ 3) : 256 ^ k ≤ 16777216 := by
  have : k = 0 ∨ k = 1 ∨ k = 2 ∨ k = 3 := by omega
  rcases this with rfl | rfl | rfl | rfl <;> decide
theorem or_low (a c : Nat) (ha : a < 16777216) (hc : c < 256) : bits .or .i64 ((a : Int) * 256) (c : Int) = ((a * 256 + c : Nat) : Int) := by
  have h := Nat.shiftLeft_add_eq_or_of_lt (i := 8) (b := c) (by simpa using hc) a
  rw [Nat.shiftLeft_eq] at h
  have h' : (a * 256) ||| c = a * 256 + c := by simpa using h.symm
  unfold bits
  show IntKind.i64.wrap ((BitVec.ofInt 64 ((a : Int) * 256) ||| BitVec.ofInt 64 (c : Int)).toNat : Int) = _
  have e : ((a : Int) * 256) = ((a * 256 : Nat) : Int) := by omega
  rw [e, BitVec.toNat_or, ofInt_u64 (a * 256) (by omega), ofInt_u64 c (by omega), h', IntKind.wrap_i64]
  omega

/-- The byte of a text, as the walk reads it. -/
theorem getB (s : ByteArray) (k : Nat) (h : k < s.size) : s[k] = s.data.toList.getD k 0 := by
  rw [List.getD_eq_getElem?_getD, Array.getElem?_toList, Array.getElem?_eq_getElem h]; rfl

set_option maxRecDepth 100000 in
set_option maxHeartbeats 2000000 in
theorem numberOf_any (s : ByteArray) (w : World) (hs : s.size ≤ 4) :
    Calls Try.prog 34 #[.string s] w fun e w' => e = .returned (.int .i64 (numOf s.data.toList)) ∧ w' = w := by
  go_enter Try.func34, Try.ntmps34
  go_wp2
  go_loop [3, 4, 7] (fun n _ i => ∃ k : Nat, k ≤ s.size ∧ i = .int .i64 k ∧ n = .int .i64 (numOf (s.data.toList.take k))) (fun _ _ i => s.size - (intOf i).toNat)
  case atStart => exact ⟨0, by omega, rfl, rfl⟩
  case round =>
    obtain ⟨k, hk, rfl, rfl⟩ := hrel
    by_cases hlt : k < s.size
    · have hltI : (k : Int) < (s.size : Int) := by omega
      have h1 := numOf_lt s.data.toList k hk
      have h2 := pow3 k (by omega)
      have HT : Hid (numOf (s.data.toList.take (k + 1)) = numOf (s.data.toList.take k) * 256 + s[k].toNat) := by show _ = _; rw [numOf_take s.data.toList k hlt, getB s k hlt]
      have h3 := s[k].toNat_lt
      have h4 : numOf (s.data.toList.take k) < 16777216 := by omega
      have ho := or_low (numOf (s.data.toList.take k)) s[k].toNat h4 h3
      generalize numOf (s.data.toList.take k) = a at *
      clear h1 h2
      go_wp2
      go_round
      case rel => exact ⟨k + 1, by omega, by go_num, by rw [HT.out]; go_num⟩
      case measure => simp [intOf]; omega
    · obtain rfl : k = s.size := by omega
      have HT : Hid (s.data.toList.take s.size = s.data.toList) := List.take_of_length_le (by show s.data.toList.length ≤ s.size; rw [Array.length_toList]; exact Nat.le_refl _)
      rw [HT.out]
      go_wp2
      go_ret
      exact ⟨rfl, rfl⟩

set_option maxRecDepth 100000 in
set_option maxHeartbeats 2000000 in
theorem l03Of_any (s : ByteArray) (w : World) (hs : s.size ≤ 4) :
    Calls Try.prog 49 #[.string s] w fun e w' => e = .returned (.int .i64 (numOf s.data.toList)) ∧ w' = w := by
  go_enter Try.func49, Try.ntmps49
  go_wp2
  go_loop [3, 4] (fun n i => ∃ k : Nat, k ≤ s.size ∧ i = .int .i64 k ∧ n = .int .i64 (numOf (s.data.toList.take k))) (fun _ i => s.size - (intOf i).toNat)
  case atStart => exact ⟨0, by omega, rfl, rfl⟩
  case round =>
    obtain ⟨k, hk, rfl, rfl⟩ := hrel
    by_cases hlt : k < s.size
    · have hltI : (k : Int) < (s.size : Int) := by omega
      have h1 := numOf_lt s.data.toList k hk
      have h2 := pow3 k (by omega)
      have HT : Hid (numOf (s.data.toList.take (k + 1)) = numOf (s.data.toList.take k) * 256 + s[k].toNat) := by show _ = _; rw [numOf_take s.data.toList k hlt, getB s k hlt]
      have h3 := s[k].toNat_lt
      have h4 : numOf (s.data.toList.take k) < 16777216 := by omega
      generalize numOf (s.data.toList.take k) = a at *
      clear h1 h2
      go_wp2
      go_round
      case rel => exact ⟨k + 1, by omega, by go_num, by rw [HT.out]; go_num⟩
      case measure => simp [intOf]; omega
    · obtain rfl : k = s.size := by omega
      have HT : Hid (s.data.toList.take s.size = s.data.toList) := List.take_of_length_le (by show s.data.toList.length ≤ s.size; rw [Array.length_toList]; exact Nat.le_refl _)
      rw [HT.out]
      go_wp2
      go_ret
      exact ⟨rfl, rfl⟩
end Go.Proofs.Ytbnnplelbbcanaa
