/- What a name is, on both sides (stage 11). -/
import Derived.Test.YteejkmcljokloaaGreatDoorBase
namespace Go.Proofs.YteejkmcljokloaaGreatDoor
open Go.RowKit

def letB (n : Int) : Bool := decide ((97 ≤ n ∧ n ≤ 122) ∨ (65 ≤ n ∧ n ≤ 90) ∨ n = 95)
def digB (n : Int) : Bool := decide (48 ≤ n ∧ n ≤ 57)
theorem ret_bool {a b : Bool} (h : a = b) : Ending.returned (.bool a) = .returned (.bool b) := by rw [h]
theorem l00Digit_any (n : Int) (w : World) :
    Calls Tryz.prog 113 #[.int .u8 n] w fun e w' => e = .returned (.bool (digB n)) ∧ w' = w := by
  go_enter Tryz.func113, Tryz.ntmps113
  go_wp2
  all_goals
    go_ret
    exact ⟨ret_bool (by unfold digB; simp; try omega), rfl⟩
theorem isDigit_any (n : Int) (w : World) :
    Calls Tryz.prog 125 #[.int .u8 n] w fun e w' => e = .returned (.bool (digB n)) ∧ w' = w := by
  go_enter Tryz.func125, Tryz.ntmps125
  go_wp2
  all_goals
    go_ret
    exact ⟨ret_bool (by unfold digB; simp; try omega), rfl⟩
theorem l00Letter_any (n : Int) (w : World) :
    Calls Tryz.prog 112 #[.int .u8 n] w fun e w' => e = .returned (.bool (letB n)) ∧ w' = w := by
  go_enter Tryz.func112, Tryz.ntmps112
  go_wp2
  all_goals
    go_ret
    exact ⟨ret_bool (by unfold letB; rw [Bool.eq_iff_iff]; simp <;> omega), rfl⟩
theorem isLetter_any (n : Int) (w : World) :
    Calls Tryz.prog 126 #[.int .u8 n] w fun e w' => e = .returned (.bool (letB n)) ∧ w' = w := by
  go_enter Tryz.func126, Tryz.ntmps126
  go_wp2
  all_goals
    go_ret
    exact ⟨ret_bool (by unfold letB; rw [Bool.eq_iff_iff]; simp <;> omega), rfl⟩
def byteAt (s : ByteArray) (j : Nat) : Int := ((s.data.toList.getD j 0).toNat : Int)
def chB (s : ByteArray) (j : Nat) : Bool := letB (byteAt s j) || digB (byteAt s j)
def nameB (s : ByteArray) : Bool := decide (1 ≤ s.size ∧ s.size ≤ 40) && letB (byteAt s 0) && (List.range s.size).all (chB s)
theorem byteAt_eq (s : ByteArray) (k : Nat) (h : k < s.size) : byteAt s k = (s[k].toNat : Int) := by
  unfold byteAt
  have h' : k < s.data.size := h
  rw [List.getD_eq_getElem?_getD, List.getElem?_eq_getElem (by simpa using h')]
  rfl
theorem letB_digB (n : Int) : digB n = true → letB n = false := by unfold letB digB; simp; omega
theorem nameB_small (s : ByteArray) (h : s.size < 1 ∨ 40 < s.size) : nameB s = false := by
  unfold nameB
  have : decide (1 ≤ s.size ∧ s.size ≤ 40) = false := by simp; omega
  simp [this]
theorem nameB_first (s : ByteArray) (h : letB (byteAt s 0) = false) : nameB s = false := by
  unfold nameB; simp [h]
theorem nameB_bad (s : ByteArray) (k : Nat) (hk : k < s.size) (h : chB s k = false) : nameB s = false := by
  unfold nameB
  have : (List.range s.size).all (chB s) = false := by
    rw [List.all_eq_false]; exact ⟨k, by simpa using hk, by simp [h]⟩
  simp [this]
theorem nameB_good (s : ByteArray) (h1 : 1 ≤ s.size) (h2 : s.size ≤ 40) (hl : letB (byteAt s 0) = true) (h : ∀ j, j < s.size → chB s j = true) : nameB s = true := by
  unfold nameB
  simp [h1, h2, hl]; exact h
set_option maxHeartbeats 400000 in
theorem l00Word_any (s : ByteArray) (w : World) (hs : s.size ≤ maxLen) :
    Calls Tryz.prog 89 #[.string s] w fun e w' => e = .returned (.bool (nameB s)) ∧ w' = w := by
  unfold maxLen at hs
  by_cases hlo : s.size < 1
  · have H : Hid (nameB s = false) := nameB_small s (.inl hlo)
    have h1 : (s.size : Int) < 1 := by omega
    go_enter Tryz.func89, Tryz.ntmps89
    go_wp2
    go_ret
    exact ⟨ret_bool H.out.symm, rfl⟩
  by_cases hhi : 40 < s.size
  · have H : Hid (nameB s = false) := nameB_small s (.inr hhi)
    have h1 : ¬ (s.size : Int) < 1 := by omega
    go_enter Tryz.func89, Tryz.ntmps89
    go_wp2
    go_ret
    exact ⟨ret_bool H.out.symm, rfl⟩
  have h0 : 0 < s.size := by omega
  by_cases hf : letB ((s[0].toNat : Int)) = true
  · have HF : Hid (letB (byteAt s 0) = true) := by rw [byteAt_eq s 0 h0]; exact hf
    go_enter Tryz.func89, Tryz.ntmps89
    go_wp2_with (go_at_call 112; refine (l00Letter_any _ _).mono ?_; rintro e w' ⟨rfl, rfl⟩)
    go_loop [3] (fun i => ∃ k : Nat, 1 ≤ k ∧ k ≤ s.size ∧ i = .int .i64 k ∧ Hid (∀ j, 0 < j → j < k → chB s j = true)) (fun i => s.size - (intOf i).toNat)
    case atStart => exact ⟨1, by omega, by omega, rfl, fun j h1 h2 => by omega⟩
    case round =>
      obtain ⟨k, hk1, hk2, rfl, HA⟩ := hrel
      by_cases hlt : k < s.size
      · by_cases hl : letB ((s[k].toNat : Int)) = true
        · have HC : Hid (chB s k = true) := by show chB s k = true; unfold chB; rw [byteAt_eq s k hlt, hl]; rfl
          go_wp2_with (first | (go_at_call 112; refine (l00Letter_any _ _).mono ?_; rintro e w' ⟨rfl, rfl⟩) | (go_at_call 113; refine (l00Digit_any _ _).mono ?_; rintro e w' ⟨rfl, rfl⟩))
          go_round
          case rel => exact ⟨k + 1, by omega, by omega, by go_num, fun j h1 h2 => by by_cases e : j = k; · rw [e]; exact HC.out
                                                                                     · exact HA.out j h1 (by omega)⟩
          case measure => simp [intOf]; omega
        · have hl' : letB ((s[k].toNat : Int)) = false := by simpa using hl
          clear hl
          by_cases hd : digB ((s[k].toNat : Int)) = true
          · have HC : Hid (chB s k = true) := by show chB s k = true; unfold chB; rw [byteAt_eq s k hlt, hd]; simp
            go_wp2_with (first | (go_at_call 112; refine (l00Letter_any _ _).mono ?_; rintro e w' ⟨rfl, rfl⟩) | (go_at_call 113; refine (l00Digit_any _ _).mono ?_; rintro e w' ⟨rfl, rfl⟩))
            go_round
            case rel => exact ⟨k + 1, by omega, by omega, by go_num, fun j h1 h2 => by by_cases e : j = k; · rw [e]; exact HC.out
                                                                                       · exact HA.out j h1 (by omega)⟩
            case measure => simp [intOf]; omega
          · have hd' : digB ((s[k].toNat : Int)) = false := by simpa using hd
            clear hd
            have HC : Hid (nameB s = false) := nameB_bad s k hlt (by unfold chB; rw [byteAt_eq s k hlt, hd', hl']; rfl)
            go_wp2_with (first | (go_at_call 112; refine (l00Letter_any _ _).mono ?_; rintro e w' ⟨rfl, rfl⟩) | (go_at_call 113; refine (l00Digit_any _ _).mono ?_; rintro e w' ⟨rfl, rfl⟩))
            go_ret
            exact ⟨ret_bool HC.out.symm, rfl⟩
      · have HC : Hid (nameB s = true) := nameB_good s (by omega) (by omega) HF.out (fun j hj => by
          by_cases e : j = 0
          · rw [e]; unfold chB; rw [HF.out]; rfl
          · exact HA.out j (by omega) (by omega))
        go_wp2
        go_ret
        exact ⟨ret_bool HC.out.symm, rfl⟩
  · have hf' : letB ((s[0].toNat : Int)) = false := by simpa using hf
    clear hf
    have H : Hid (nameB s = false) := nameB_first s (by rw [byteAt_eq s 0 h0]; exact hf')
    go_enter Tryz.func89, Tryz.ntmps89
    go_wp2_with (go_at_call 112; refine (l00Letter_any _ _).mono ?_; rintro e w' ⟨rfl, rfl⟩)
    go_ret
    exact ⟨ret_bool H.out.symm, rfl⟩
theorem all_step {P : Nat → Prop} {k : Nat} (h : ∀ j, j < k → P j) (hk : P k) : ∀ j, j < k + 1 → P j := fun j hj => by
  by_cases e : j = k
  · rw [e]; exact hk
  · exact h j (by omega)
set_option maxHeartbeats 400000 in
theorem implNameOK_any (s : ByteArray) (w : World) (hs : s.size ≤ maxLen) :
    Calls Tryz.prog 114 #[.string s] w fun e w' => e = .returned (.bool (nameB s)) ∧ w' = w := by
  unfold maxLen at hs
  by_cases hlo : s.size < 1
  · have H : Hid (nameB s = false) := nameB_small s (.inl hlo)
    have h1 : ((s.size : Int) == 0) = true := beq_iff_eq.2 (by omega)
    go_enter Tryz.func114, Tryz.ntmps114
    go_wp2
    go_ret
    exact ⟨ret_bool H.out.symm, rfl⟩
  have hz : ((s.size : Int) == 0) = false := beq_eq_false_iff_ne.2 (by omega)
  by_cases hhi : 40 < s.size
  · have H : Hid (nameB s = false) := nameB_small s (.inr hhi)
    go_enter Tryz.func114, Tryz.ntmps114
    go_wp2
    go_ret
    exact ⟨ret_bool H.out.symm, rfl⟩
  have h0 : 0 < s.size := by omega
  by_cases hf : digB ((s[0].toNat : Int)) = true
  · have H : Hid (nameB s = false) := nameB_first s (by rw [byteAt_eq s 0 h0]; exact letB_digB _ hf)
    go_enter Tryz.func114, Tryz.ntmps114
    go_wp2_with (go_at_call 125; refine (isDigit_any _ _).mono ?_; rintro e w' ⟨rfl, rfl⟩)
    go_ret
    exact ⟨ret_bool H.out.symm, rfl⟩
  have hf' : digB ((s[0].toNat : Int)) = false := by simpa using hf
  clear hf
  have HF : Hid (digB (byteAt s 0) = false) := by show digB (byteAt s 0) = false; rw [byteAt_eq s 0 h0]; exact hf'
  go_enter Tryz.func114, Tryz.ntmps114
  go_wp2_with (go_at_call 125; refine (isDigit_any _ _).mono ?_; rintro e w' ⟨rfl, rfl⟩)
  go_loop [19] (fun i => ∃ k : Nat, k ≤ s.size ∧ i = .int .i64 k ∧ Hid (∀ j, j < k → chB s j = true)) (fun i => s.size - (intOf i).toNat)
  case atStart => exact ⟨0, by omega, rfl, fun j h1 => by omega⟩
  case round =>
    obtain ⟨k, hk2, rfl, HA⟩ := hrel
    by_cases hlt : k < s.size
    · by_cases hl : letB ((s[k].toNat : Int)) = true
      · have HC : Hid (chB s k = true) := by show chB s k = true; unfold chB; rw [byteAt_eq s k hlt, hl]; rfl
        go_wp2_with (first | (go_at_call 126; refine (isLetter_any _ _).mono ?_; rintro e w' ⟨rfl, rfl⟩) | (go_at_call 125; refine (isDigit_any _ _).mono ?_; rintro e w' ⟨rfl, rfl⟩))
        go_round
        case rel => exact ⟨k + 1, by omega, by go_num, all_step HA.out HC.out⟩
        case measure => simp [intOf]; omega
      · have hl' : letB ((s[k].toNat : Int)) = false := by simpa using hl
        clear hl
        by_cases hd : digB ((s[k].toNat : Int)) = true
        · have HC : Hid (chB s k = true) := by show chB s k = true; unfold chB; rw [byteAt_eq s k hlt, hd]; simp
          go_wp2_with (first | (go_at_call 126; refine (isLetter_any _ _).mono ?_; rintro e w' ⟨rfl, rfl⟩) | (go_at_call 125; refine (isDigit_any _ _).mono ?_; rintro e w' ⟨rfl, rfl⟩))
          go_round
          case rel => exact ⟨k + 1, by omega, by go_num, all_step HA.out HC.out⟩
          case measure => simp [intOf]; omega
        · have hd' : digB ((s[k].toNat : Int)) = false := by simpa using hd
          clear hd
          have HC : Hid (nameB s = false) := nameB_bad s k hlt (by unfold chB; rw [byteAt_eq s k hlt, hd', hl']; rfl)
          go_wp2_with (first | (go_at_call 126; refine (isLetter_any _ _).mono ?_; rintro e w' ⟨rfl, rfl⟩) | (go_at_call 125; refine (isDigit_any _ _).mono ?_; rintro e w' ⟨rfl, rfl⟩))
          go_ret
          exact ⟨ret_bool HC.out.symm, rfl⟩
    · have HC : Hid (nameB s = true) := nameB_good s (by omega) (by omega) (by
        have h := HA.out 0 (by omega)
        unfold chB at h
        rw [HF.out] at h
        simpa using h) (fun j hj => HA.out j (by omega))
      go_wp2
      go_ret
      exact ⟨ret_bool HC.out.symm, rfl⟩
theorem specNameOK_any (s : ByteArray) (w : World) (hs : s.size ≤ maxLen) :
    Calls Tryz.prog 65 #[.string s] w fun e w' => e = .returned (.bool (nameB s)) ∧ w' = w := by
  go_enter Tryz.func65, Tryz.ntmps65
  go_wp2_with (go_at_call 89; refine (l00Word_any _ _ hs).mono ?_; rintro e w' ⟨rfl, rfl⟩)
  go_ret
  exact ⟨rfl, rfl⟩
end Go.Proofs.YteejkmcljokloaaGreatDoor
