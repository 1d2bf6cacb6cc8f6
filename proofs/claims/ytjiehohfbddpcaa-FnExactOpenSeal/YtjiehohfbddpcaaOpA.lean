/- Numbers out of bytes; bytes held against each other; a part of bytes; slices.Concat of one list. -/
import Derived.Test.YtjiehohfbddpcaaSlL
namespace Go.Proofs.Ytjiehohfbddpcaa
open Go.RowKit

/-- The number that bytes tell, the higher ones first. -/
def numOf (l : List UInt8) : Nat := l.foldl (fun n c => n * 256 + c.toNat) 0
theorem numOf_take (l : List UInt8) (k : Nat) (h : k < l.length) : numOf (l.take (k + 1)) = numOf (l.take k) * 256 + (l.getD k 0).toNat := by
  unfold numOf
  rw [List.take_succ_eq_append_getElem h, List.foldl_append, List.getD_eq_getElem?_getD, List.getElem?_eq_getElem h]; rfl
theorem numOf_lt (l : List UInt8) : ∀ k, k ≤ l.length → numOf (l.take k) < 256 ^ k
  | 0, _ => by simp [numOf]
  | k + 1, h => by
    have h1 := numOf_lt l k (by omega)
    have h2 := (l.getD k 0).toNat_lt
    rw [numOf_take l k (by omega), Nat.pow_succ]
    omega
theorem pow3 (k : Nat) (h : k ≤ 3) : 256 ^ k ≤ 16777216 := by
  have : k = 0 ∨ k = 1 ∨ k = 2 ∨ k = 3 := by omega
  rcases this with rfl | rfl | rfl | rfl <;> decide
theorem or_low (a c : Nat) (ha : a < 16777216) (hc : c < 256) : bits .or .i64 ((a : Int) * 256) (c : Int) = ((a * 256 + c : Nat) : Int) := by
  have h := Nat.shiftLeft_add_eq_or_of_lt (i := 8) (b := c) (by simpa using hc) a
  rw [Nat.shiftLeft_eq] at h
  have h' : (a * 256) ||| c = a * 256 + c := by simpa using h.symm
  unfold bits
  show IntKind.i64.wrap ((BitVec.ofInt 64 ((a : Int) * 256) ||| BitVec.ofInt 64 (c : Int)).toNat : Int) = _
  have e : ((a : Int) * 256) = ((a * 256 : Nat) : Int) := by omega
  rw [e, BitVec.toNat_or, ofInt_u64 (a * 256) (by omega), ofInt_u64 c (by omega), h', IntKind.wrap_i64]
  omega

/-- The byte of a text, as the walk reads it. -/
theorem getB (s : ByteArray) (k : Nat) (h : k < s.size) : s[k] = s.data.toList.getD k 0 := by
  rw [List.getD_eq_getElem?_getD, Array.getElem?_toList, Array.getElem?_eq_getElem h]; rfl

set_option maxRecDepth 100000 in
set_option maxHeartbeats 2000000 in
theorem numberOf_any (s : ByteArray) (w : World) (hs : s.size ≤ 4) :
    Calls Try.prog 19 #[.string s] w fun e w' => e = .returned (.int .i64 (numOf s.data.toList)) ∧ w' = w := by
  go_enter Try.func19, Try.ntmps19
  go_wp2
  go_loop [3, 4, 7] (fun n _ i => ∃ k : Nat, k ≤ s.size ∧ i = .int .i64 k ∧ n = .int .i64 (numOf (s.data.toList.take k))) (fun _ _ i => s.size - (intOf i).toNat)
  case atStart => exact ⟨0, by omega, rfl, rfl⟩
  case round =>
    obtain ⟨k, hk, rfl, rfl⟩ := hrel
    by_cases hlt : k < s.size
    · have hltI : (k : Int) < (s.size : Int) := by omega
      have h1 := numOf_lt s.data.toList k hk
      have h2 := pow3 k (by omega)
      have HT : Hid (numOf (s.data.toList.take (k + 1)) = numOf (s.data.toList.take k) * 256 + s[k].toNat) := by show _ = _; rw [numOf_take s.data.toList k hlt, getB s k hlt]
      have h3 := s[k].toNat_lt
      have h4 : numOf (s.data.toList.take k) < 16777216 := by omega
      have ho := or_low (numOf (s.data.toList.take k)) s[k].toNat h4 h3
      generalize numOf (s.data.toList.take k) = a at *
      clear h1 h2
      go_wp2
      go_round
      case rel => exact ⟨k + 1, by omega, by go_num, by rw [HT.out]; go_num⟩
      case measure => simp [intOf]; omega
    · obtain rfl : k = s.size := by omega
      have HT : Hid (s.data.toList.take s.size = s.data.toList) := List.take_of_length_le (by show s.data.toList.length ≤ s.size; rw [Array.length_toList]; exact Nat.le_refl _)
      rw [HT.out]
      go_wp2
      go_ret
      exact ⟨rfl, rfl⟩

set_option maxRecDepth 100000 in
set_option maxHeartbeats 2000000 in
theorem l03Of_any (s : ByteArray) (w : World) (hs : s.size ≤ 4) :
    Calls Try.prog 28 #[.string s] w fun e w' => e = .returned (.int .i64 (numOf s.data.toList)) ∧ w' = w := by
  go_enter Try.func28, Try.ntmps28
  go_wp2
  go_loop [3, 4] (fun n i => ∃ k : Nat, k ≤ s.size ∧ i = .int .i64 k ∧ n = .int .i64 (numOf (s.data.toList.take k))) (fun _ i => s.size - (intOf i).toNat)
  case atStart => exact ⟨0, by omega, rfl, rfl⟩
  case round =>
    obtain ⟨k, hk, rfl, rfl⟩ := hrel
    by_cases hlt : k < s.size
    · have hltI : (k : Int) < (s.size : Int) := by omega
      have h1 := numOf_lt s.data.toList k hk
      have h2 := pow3 k (by omega)
      have HT : Hid (numOf (s.data.toList.take (k + 1)) = numOf (s.data.toList.take k) * 256 + s[k].toNat) := by show _ = _; rw [numOf_take s.data.toList k hlt, getB s k hlt]
      have h3 := s[k].toNat_lt
      have h4 : numOf (s.data.toList.take k) < 16777216 := by omega
      generalize numOf (s.data.toList.take k) = a at *
      clear h1 h2
      go_wp2
      go_round
      case rel => exact ⟨k + 1, by omega, by go_num, by rw [HT.out]; go_num⟩
      case measure => simp [intOf]; omega
    · obtain rfl : k = s.size := by omega
      have HT : Hid (s.data.toList.take s.size = s.data.toList) := List.take_of_length_le (by show s.data.toList.length ≤ s.size; rw [Array.length_toList]; exact Nat.le_refl _)
      rw [HT.out]
      go_wp2
      go_ret
      exact ⟨rfl, rfl⟩

theorem ReadL.sub {w : World} {b off : Nat} {l : List UInt8} (h : ReadL w (some ⟨b, off, none⟩) l) (k m : Nat) (hk : k + m ≤ l.length) : ReadL w (some ⟨b, off + k, none⟩) ((l.drop k).take m) := fun i hi => by
  have hi' : i < m := by rw [List.length_take] at hi; omega
  obtain ⟨b', off', e, hlt, hc⟩ := h (k + i) (by omega)
  cases e
  refine ⟨b, off + k, rfl, hlt, ?_⟩
  rw [Nat.add_assoc, hc]
  unfold byU
  simp [List.getD_eq_getElem?_getD, hi', List.getElem?_drop]
theorem sub_len (l : List UInt8) (k m : Nat) (hk : k + m ≤ l.length) : ((l.drop k).take m).length = m := by
  rw [List.length_take, List.length_drop]; omega

set_option maxRecDepth 100000 in
theorem equal_n (a1 a2 : Addr) (c1 c2 n1 n2 : Nat) (l1 l2 : List UInt8) (w : World) (p1 : a1.spot = none) (p2 : a2.spot = none) (h1 : ReadL w (some a1) l1) (h2 : ReadL w (some a2) l2) (e1 : Hid (l1.length = n1)) (e2 : Hid (l2.length = n2)) :
    Calls Try.prog 20 #[.slice (some a1) n1 c1, .slice (some a2) n2 c2] w fun e w' => e = .returned (.bool (decide (l1 = l2))) ∧ w' = w := by
  obtain ⟨b1, o1, s1⟩ := a1
  obtain ⟨b2, o2, s2⟩ := a2
  cases p1
  cases p2
  have hc1 := conv_n w b1 o1 c1 n1 l1 h1 e1
  have hc2 := conv_n w b2 o2 c2 n2 l2 h2 e2
  have HE : Hid (((tx l1).toList == (tx l2).toList) = decide (l1 = l2)) := by
    show _ = _
    rw [ByteArray.toList_eq, ByteArray.toList_eq, tx_list, tx_list]
    by_cases h : l1 = l2
    · subst h; simp
    · rw [decide_eq_false h, beq_eq_false_iff_ne]; exact h
  clear h1 h2 e1 e2
  generalize tx l1 = t1 at *
  generalize tx l2 = t2 at *
  go_enter Try.func20, Try.ntmps20
  go_wp2
  go_ret
  exact ⟨ret_bool' HE.out, rfl⟩

set_option maxRecDepth 100000 in
theorem hasPrefix_n (b off c n g : Nat) (l : List UInt8) (w : World) (h : ReadL w (some ⟨b, off, none⟩) l) (hl : Hid (l.length = n)) (hn : 2 ≤ n) (hc : n ≤ c) (hm : c ≤ 1048576) (hg : ReadL w (some ⟨g, 0, none⟩) [66, 75]) :
    Calls Try.prog 18 #[.slice (some ⟨b, off, none⟩) n c, .slice (some ⟨g, 0, none⟩) 2 2] w fun e w' => e = .returned (.bool (decide (l.take 2 = [66, 75]))) ∧ w' = w := by
  have HE := equal_n ⟨b, off, none⟩ ⟨g, 0, none⟩ c 2 2 2 (l.take 2) [66, 75] w rfl rfl (by have := h.sub 0 2 (by have := hl.out; omega); simpa using this) hg (by have := hl.out; show _ = _; rw [List.length_take]; omega) rfl
  have h1 : (2 : Int) ≤ (n : Int) := by omega
  have h2 : (n : Int) ≤ (c : Int) := by omega
  have h3 : (2 : Int) ≤ (c : Int) := by omega
  generalize decide (l.take 2 = [66, 75]) = d at *
  clear h hg hl
  go_enter Try.func18, Try.ntmps18
  go_wp2_with fail
  refine HE.mono ?_
  rintro e w' ⟨rfl, rfl⟩
  go_wp2
  go_ret
  exact ⟨rfl, rfl⟩
end Go.Proofs.Ytjiehohfbddpcaa
