/- The sum of bytes: the specification's, bit by bit. -/
import Derived.Test.YtjiehohfbddpcaaBase
namespace Go.Proofs.Ytjiehohfbddpcaa
open Go.RowKit

theorem i64_xor' (x y : Int) (a b : Nat) (hx : x = a) (hy : y = b) (ha : a < 4294967296) (hb : b < 4294967296) : bits .xor .i64 x y = ((a ^^^ b : Nat) : Int) := by
  subst hx hy
  exact i64_xor a b ha hb

set_option maxRecDepth 100000 in
set_option maxHeartbeats 2000000 in
theorem l03Sum_any (a : Option Addr) (c : Nat) (l : List UInt8) (w : World) (h : ReadL w a l) (hn : l.length ≤ 1048576) :
    Calls Try.prog 24 #[.slice a l.length c] w fun e w' => e = .returned (.int .i64 (sumL l)) ∧ w' = w := by
  have H : Hid (ReadL w a l) := h
  clear h
  obtain ⟨n, hl⟩ : ∃ n, l.length = n := ⟨_, rfl⟩
  have HL : Hid (l.length = n) := hl
  rw [hl] at hn ⊢
  clear hl
  go_enter Try.func24, Try.ntmps24
  go_wp2
  go_loop [3, 4] (fun r i => ∃ k : Nat, k ≤ n ∧ i = .int .i64 k ∧ r = .int .i64 (crcL (l.take k))) (fun _ i => n - (intOf i).toNat)
  case atStart => exact ⟨0, by omega, rfl, by simp [crcL]⟩
  case round =>
    obtain ⟨k, hk, rfl, rfl⟩ := hrel
    by_cases hlt : k < n
    · obtain ⟨b, off, rfl, hlb, hc⟩ := H.out k (by rw [HL.out]; exact hlt)
      have hltI : (k : Int) < (n : Int) := by omega
      have HT : Hid (crcL (l.take (k + 1)) = bitK 8 (crcL (l.take k) ^^^ (l.getD k 0).toNat)) := crcL_take l k (by rw [HL.out]; exact hlt)
      have hr := crcL_lt (l.take k)
      have hu : byU l k = (((l.getD k 0).toNat : Nat) : Int) := rfl
      have hu2 := (l.getD k 0).toNat_lt
      rw [hu] at hc
      generalize (l.getD k 0).toNat = u at *
      generalize crcL (l.take k) = r at *
      have hx := i64_xor r u hr (by omega)
      have hx2 : r ^^^ u < 4294967296 := xor32 hr (by omega)
      clear hu
      go_wp2
      go_loop [3, 5] (fun r' j => ∃ m : Nat, m ≤ 8 ∧ j = .int .i64 m ∧ r' = .int .i64 (bitK m (r ^^^ u))) (fun _ j => 8 - (intOf j).toNat)
      case atStart => exact ⟨0, by omega, rfl, rfl⟩
      case round =>
        obtain ⟨m, hm, rfl, rfl⟩ := hrel
        by_cases hm8 : m < 8
        · have hmI : (m : Int) < 8 := by omega
          have hb := bitK_lt m hx2
          have HB : Hid (bitK (m + 1) (r ^^^ u) = bit1 (bitK m (r ^^^ u))) := rfl
          generalize bitK m (r ^^^ u) = q at *
          by_cases hodd : q % 2 = 1
          · have ho : (q : Int) % 2 = 1 := by omega
            have HE : Hid (bit1 q = q / 2 ^^^ 3988292384) := by show _ = _; unfold bit1; rw [if_pos hodd]
            go_wp2
            go_round
            case rel =>
              refine ⟨m + 1, by omega, by go_num, ?_⟩
              rw [HB.out, HE.out]
              exact congrArg (Value.int .i64) (i64_xor' _ _ (q / 2) 3988292384 (by omega) rfl (by omega) (by decide))
            case measure => simp [intOf]; omega
          · have ho : ¬ (q : Int) % 2 = 1 := by omega
            have HE : Hid (bit1 q = q / 2) := by show _ = _; unfold bit1; rw [if_neg hodd]
            go_wp2
            go_round
            case rel =>
              refine ⟨m + 1, by omega, by go_num, ?_⟩
              rw [HB.out, HE.out]
              exact congrArg (Value.int .i64) (by omega)
            case measure => simp [intOf]; omega
        · obtain rfl : m = 8 := by omega
          go_wp2
          go_round
          case rel => exact ⟨k + 1, by omega, by go_num, by rw [HT.out]⟩
          case measure => simp [intOf]; omega
    · obtain rfl : k = n := by omega
      have HT : Hid (l.take k = l) := List.take_of_length_le (by rw [HL.out]; exact Nat.le_refl _)
      rw [HT.out]
      have HS : Hid (sumL l = crcL l ^^^ 4294967295) := rfl
      have hr := crcL_lt l
      generalize crcL l = r at *
      go_wp2
      go_ret
      exact ⟨ret_int' (by rw [HS.out]; exact i64_xor r 4294967295 hr (by decide)), rfl⟩
end Go.Proofs.Ytjiehohfbddpcaa
