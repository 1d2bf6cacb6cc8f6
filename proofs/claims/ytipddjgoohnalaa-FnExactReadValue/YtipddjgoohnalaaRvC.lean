/- Numbers with a sign, as the specification reads them. -/
import Derived.Test.YtipddjgoohnalaaRvB
namespace Go.Proofs.Ytipddjgoohnalaa
open Go.RowKit

set_option maxRecDepth 100000 in
set_option maxHeartbeats 8000000 in
theorem l00Number_any (s : ByteArray) (w : World) (hs : s.size ≤ 65536) :
    Calls Try.prog 97 #[.string s] w fun e w' => e = .returned (NumR (numV (byteAt s) s.size)) ∧ w' = w := by
  by_cases h0 : s.size = 0
  · have h0I : (s.size : Int) = 0 := by omega
    have HN : Hid (numV (byteAt s) s.size = none) := (numV_pos (by omega)).1 (.inl h0)
    go_enter Try.func97, Try.ntmps97
    go_wp2
    go_ret2
    rw [HN.out]
    exact ⟨rfl, rfl⟩
  have hpos : 0 < s.size := by omega
  have hposI : (0 : Int) < (s.size : Int) := by omega
  have h0I : ((s.size : Int) == 0) = false := beq_eq_false_iff_ne.2 (by omega)
  have hb := byteAt_eq s 0 hpos
  obtain ⟨c, hcv⟩ : ∃ c : Int, ((s[0]'hpos).toNat : Int) = c := ⟨_, rfl⟩
  rw [hcv] at hb
  by_cases hm : c = 45
  · obtain ⟨t, ht⟩ : ∃ t, s.extract 1 s.size = t := ⟨_, rfl⟩
    have htl : t.size = s.size - 1 := by rw [← ht]; exact ext_len s
    have hfn : (fun i => byteAt s (i + 1)) = byteAt t := by rw [← ht, ext_byte]
    have hf1 : byteAt s 1 = byteAt t 0 := by rw [← hfn]
    have HV := numV_neg (f := byteAt s) (n := s.size) ⟨hpos, by rw [hb]; exact hm⟩
    rw [hfn, hf1, ← htl] at HV
    obtain ⟨HV1', HV2'⟩ := HV
    have HV1 : Hid ((t.size = 0 ∨ 18 < t.size ∨ byteAt t 0 = 48) → numV (byteAt s) s.size = none) := HV1'
    have HV2 : Hid (¬ (t.size = 0 ∨ 18 < t.size ∨ byteAt t 0 = 48) → numV (byteAt s) s.size = (dig (byteAt t) t.size 0 0).map (fun x => -x)) := HV2'
    have hI : (1 : Int) ≤ (s.size : Int) := by omega
    have htb : t.size ≤ 65536 := by omega
    subst hm
    clear HV1' HV2' hb hf1 hfn htl
    by_cases t0 : t.size = 0
    · have t0I : (t.size : Int) = 0 := by omega
      have HN : Hid (numV (byteAt s) s.size = none) := HV1.out (.inl t0)
      go_enter Try.func97, Try.ntmps97
      go_wp2
      go_ret2
      rw [HN.out]
      exact ⟨rfl, rfl⟩
    have t0I : ((t.size : Int) == 0) = false := beq_eq_false_iff_ne.2 (by omega)
    by_cases t18 : (18 : Int) < (t.size : Int)
    · have HN : Hid (numV (byteAt s) s.size = none) := HV1.out (.inr (.inl (by omega)))
      go_enter Try.func97, Try.ntmps97
      go_wp2
      go_ret2
      rw [HN.out]
      exact ⟨rfl, rfl⟩
    have tpos : 0 < t.size := by omega
    have tb := byteAt_eq t 0 tpos
    obtain ⟨c2, hc2⟩ : ∃ c : Int, ((t[0]'tpos).toNat : Int) = c := ⟨_, rfl⟩
    rw [hc2] at tb
    by_cases t48 : c2 = 48
    · have HNn := HV1.out (.inr (.inr (by rw [tb]; exact t48)))
      have HNN : Hid (numV (byteAt s) s.size = none) := HNn
      subst t48
      clear HNn HV1 HV2 tb
      by_cases t1 : (1 : Int) < (t.size : Int)
      · have HN : Hid (numV (byteAt s) s.size = none) := HNN.out
        go_enter Try.func97, Try.ntmps97
        go_wp2
        go_ret2
        rw [HN.out]
        exact ⟨rfl, rfl⟩
      · have HN : Hid (numV (byteAt s) s.size = none) := HNN.out
        go_enter Try.func97, Try.ntmps97
        go_wp2
        go_ret2
        rw [HN.out]
        exact ⟨rfl, rfl⟩
    · have HD : Hid (numV (byteAt s) s.size = (dig (byteAt t) t.size 0 0).map (fun x => -x)) := HV2.out (by rintro (h | h | h); exact t0 h; omega; exact t48 (by rw [← tb]; exact h))
      have c48 : (c2 == 48) = false := beq_eq_false_iff_ne.2 t48
      clear HV1 HV2 tb t48
      go_enter Try.func97, Try.ntmps97
      go_wp2
      go_loopw [5, 6] (fun acc i wr => ∃ (k : Nat) (x : Int), k ≤ t.size ∧ i = .int .i64 k ∧ acc = .int .i64 x ∧ 0 ≤ x ∧ x < 10 ^ k ∧ Hid (dig (byteAt t) t.size 0 0 = dig (byteAt t) (t.size - k) k x) ∧ wr = w) (fun _ i _ => t.size - (intOf i).toNat)
      case atStart => exact ⟨0, 0, by omega, rfl, rfl, by omega, by decide, rfl, rfl⟩
      case round =>
        obtain ⟨k, x, hk, rfl, rfl, x0, x1, HI, rfl⟩ := hrel
        by_cases hlt : k < t.size
        · have hltI : (k : Int) < (t.size : Int) := by omega
          have hb := byteAt_eq t k hlt
          obtain ⟨v0, v1⟩ := byteAt_bd t k
          obtain ⟨m, hm⟩ : ∃ m, t.size - k = m + 1 := ⟨t.size - k - 1, by omega⟩
          have hm' : t.size - (k + 1) = m := by omega
          have hp : (10 : Int) ^ k ≤ 100000000000000000 := by
            have e : (10 : Int) ^ 17 = 100000000000000000 := by decide
            rw [← e]
            exact_mod_cast Nat.pow_le_pow_right (by omega) (show k ≤ 17 by omega)
          have HS : Hid (48 ≤ byteAt t k ∧ byteAt t k ≤ 57 → dig (byteAt t) t.size 0 0 = dig (byteAt t) (t.size - (k + 1)) (k + 1) (x * 10 + (byteAt t k - 48))) := fun h => by rw [HI.out, hm, hm', dig_step h]
          have HF : Hid (¬ (48 ≤ byteAt t k ∧ byteAt t k ≤ 57) → numV (byteAt s) s.size = none) := fun h => by rw [HD.out, HI.out, hm, dig_stop h]; rfl
          obtain ⟨d, hdv⟩ : ∃ d : Int, ((t[k]'hlt).toNat : Int) = d := ⟨_, rfl⟩
          rw [hb, hdv] at v0 v1 HS HF
          clear hm hm' hb HI
          by_cases h48 : d < 48
          · have HN : Hid (numV (byteAt s) s.size = none) := HF.out (by omega)
            clear HS HF
            go_wp2
            go_ret2
            rw [HN.out]
            exact ⟨rfl, rfl⟩
          by_cases h57 : 57 < d
          · have HN : Hid (numV (byteAt s) s.size = none) := HF.out (by omega)
            clear HS HF
            go_wp2
            go_ret2
            rw [HN.out]
            exact ⟨rfl, rfl⟩
          · have HN : Hid (dig (byteAt t) t.size 0 0 = dig (byteAt t) (t.size - (k + 1)) (k + 1) (x * 10 + (d - 48))) := HS.out (by omega)
            have hx : x * 10 + (d - 48) < 10 ^ (k + 1) := by rw [Int.pow_succ]; omega
            have hxe : x * 10 + d - 48 = x * 10 + (d - 48) := by omega
            clear HS HF
            go_wp2
            go_roundw
            case rel => exact ⟨k + 1, x * 10 + (d - 48), by omega, by go_num, by go_num, by omega, hx, HN, by first | trivial | rfl⟩
            case measure => simp [intOf]; omega
        · obtain rfl : k = t.size := by omega
          have HN : Hid (numV (byteAt s) s.size = some (-x)) := by show _ = _; rw [HD.out, HI.out, Nat.sub_self, dig]; rfl
          have hp := pow_le18 (m := t.size) (by omega)
          go_wp2
          go_ret2
          rw [HN.out]
          refine ⟨?_, rfl⟩
          simp
  · have hm1 : (c == 45) = false := beq_eq_false_iff_ne.2 hm
    have HV := numV_pos (f := byteAt s) (n := s.size) (fun h => hm (by rw [← hb]; exact h.2))
    obtain ⟨HV1', HV2'⟩ := HV
    have HV1 : Hid ((s.size = 0 ∨ 18 < s.size ∨ (byteAt s 0 = 48 ∧ 1 < s.size)) → numV (byteAt s) s.size = none) := HV1'
    have HV2 : Hid (¬ (s.size = 0 ∨ 18 < s.size ∨ (byteAt s 0 = 48 ∧ 1 < s.size)) → numV (byteAt s) s.size = dig (byteAt s) s.size 0 0) := HV2'
    clear HV1' HV2' hm
    by_cases t18 : (18 : Int) < (s.size : Int)
    · have HN : Hid (numV (byteAt s) s.size = none) := HV1.out (.inr (.inl (by omega)))
      go_enter Try.func97, Try.ntmps97
      go_wp2
      go_ret2
      rw [HN.out]
      exact ⟨rfl, rfl⟩
    by_cases t48 : c = 48
    · by_cases t1 : (1 : Int) < (s.size : Int)
      · have HNn := HV1.out (.inr (.inr ⟨by rw [hb]; exact t48, by omega⟩))
        have HNN : Hid (numV (byteAt s) s.size = none) := HNn
        subst t48
        clear HNn HV1 HV2 hb
        have HN : Hid (numV (byteAt s) s.size = none) := HNN.out
        go_enter Try.func97, Try.ntmps97
        go_wp2
        go_ret2
        rw [HN.out]
        exact ⟨rfl, rfl⟩
      · have HD : Hid (numV (byteAt s) s.size = dig (byteAt s) s.size 0 0) := HV2.out (by rintro (h | h | ⟨_, h⟩) <;> omega)
        subst t48
        clear HV1 HV2 hb
        go_enter Try.func97, Try.ntmps97
        go_wp2
        go_loopw [5, 6] (fun acc i wr => ∃ (k : Nat) (x : Int), k ≤ s.size ∧ i = .int .i64 k ∧ acc = .int .i64 x ∧ 0 ≤ x ∧ x < 10 ^ k ∧ Hid (dig (byteAt s) s.size 0 0 = dig (byteAt s) (s.size - k) k x) ∧ wr = w) (fun _ i _ => s.size - (intOf i).toNat)
        case atStart => exact ⟨0, 0, by omega, rfl, rfl, by omega, by decide, rfl, rfl⟩
        case round =>
          obtain ⟨k, x, hk, rfl, rfl, x0, x1, HI, rfl⟩ := hrel
          by_cases hlt : k < s.size
          · have hltI : (k : Int) < (s.size : Int) := by omega
            have hb := byteAt_eq s k hlt
            obtain ⟨v0, v1⟩ := byteAt_bd s k
            obtain ⟨m, hm⟩ : ∃ m, s.size - k = m + 1 := ⟨s.size - k - 1, by omega⟩
            have hm' : s.size - (k + 1) = m := by omega
            have hp : (10 : Int) ^ k ≤ 100000000000000000 := by
              have e : (10 : Int) ^ 17 = 100000000000000000 := by decide
              rw [← e]
              exact_mod_cast Nat.pow_le_pow_right (by omega) (show k ≤ 17 by omega)
            have HS : Hid (48 ≤ byteAt s k ∧ byteAt s k ≤ 57 → dig (byteAt s) s.size 0 0 = dig (byteAt s) (s.size - (k + 1)) (k + 1) (x * 10 + (byteAt s k - 48))) := fun h => by rw [HI.out, hm, hm', dig_step h]
            have HF : Hid (¬ (48 ≤ byteAt s k ∧ byteAt s k ≤ 57) → numV (byteAt s) s.size = none) := fun h => by rw [HD.out, HI.out, hm, dig_stop h]
            obtain ⟨d, hdv⟩ : ∃ d : Int, ((s[k]'hlt).toNat : Int) = d := ⟨_, rfl⟩
            rw [hb, hdv] at v0 v1 HS HF
            clear hm hm' hb HI
            by_cases h48 : d < 48
            · have HN : Hid (numV (byteAt s) s.size = none) := HF.out (by omega)
              clear HS HF
              go_wp2
              go_ret2
              rw [HN.out]
              exact ⟨rfl, rfl⟩
            by_cases h57 : 57 < d
            · have HN : Hid (numV (byteAt s) s.size = none) := HF.out (by omega)
              clear HS HF
              go_wp2
              go_ret2
              rw [HN.out]
              exact ⟨rfl, rfl⟩
            · have HN : Hid (dig (byteAt s) s.size 0 0 = dig (byteAt s) (s.size - (k + 1)) (k + 1) (x * 10 + (d - 48))) := HS.out (by omega)
              have hx : x * 10 + (d - 48) < 10 ^ (k + 1) := by rw [Int.pow_succ]; omega
              have hxe : x * 10 + d - 48 = x * 10 + (d - 48) := by omega
              clear HS HF
              go_wp2
              go_roundw
              case rel => exact ⟨k + 1, x * 10 + (d - 48), by omega, by go_num, by go_num, by omega, hx, HN, by first | trivial | rfl⟩
              case measure => simp [intOf]; omega
          · obtain rfl : k = s.size := by omega
            have HN : Hid (numV (byteAt s) s.size = some (x)) := by show _ = _; rw [HD.out, HI.out, Nat.sub_self, dig]
            have hp := pow_le18 (m := s.size) (by omega)
            go_wp2
            go_ret2
            rw [HN.out]
            refine ⟨?_, rfl⟩
            simp
    · have HD : Hid (numV (byteAt s) s.size = dig (byteAt s) s.size 0 0) := HV2.out (by rintro (h | h | ⟨h, _⟩); omega; omega; exact t48 (by rw [← hb]; exact h))
      have c48 : (c == 48) = false := beq_eq_false_iff_ne.2 t48
      clear HV1 HV2 hb t48
      go_enter Try.func97, Try.ntmps97
      go_wp2
      go_loopw [5, 6] (fun acc i wr => ∃ (k : Nat) (x : Int), k ≤ s.size ∧ i = .int .i64 k ∧ acc = .int .i64 x ∧ 0 ≤ x ∧ x < 10 ^ k ∧ Hid (dig (byteAt s) s.size 0 0 = dig (byteAt s) (s.size - k) k x) ∧ wr = w) (fun _ i _ => s.size - (intOf i).toNat)
      case atStart => exact ⟨0, 0, by omega, rfl, rfl, by omega, by decide, rfl, rfl⟩
      case round =>
        obtain ⟨k, x, hk, rfl, rfl, x0, x1, HI, rfl⟩ := hrel
        by_cases hlt : k < s.size
        · have hltI : (k : Int) < (s.size : Int) := by omega
          have hb := byteAt_eq s k hlt
          obtain ⟨v0, v1⟩ := byteAt_bd s k
          obtain ⟨m, hm⟩ : ∃ m, s.size - k = m + 1 := ⟨s.size - k - 1, by omega⟩
          have hm' : s.size - (k + 1) = m := by omega
          have hp : (10 : Int) ^ k ≤ 100000000000000000 := by
            have e : (10 : Int) ^ 17 = 100000000000000000 := by decide
            rw [← e]
            exact_mod_cast Nat.pow_le_pow_right (by omega) (show k ≤ 17 by omega)
          have HS : Hid (48 ≤ byteAt s k ∧ byteAt s k ≤ 57 → dig (byteAt s) s.size 0 0 = dig (byteAt s) (s.size - (k + 1)) (k + 1) (x * 10 + (byteAt s k - 48))) := fun h => by rw [HI.out, hm, hm', dig_step h]
          have HF : Hid (¬ (48 ≤ byteAt s k ∧ byteAt s k ≤ 57) → numV (byteAt s) s.size = none) := fun h => by rw [HD.out, HI.out, hm, dig_stop h]
          obtain ⟨d, hdv⟩ : ∃ d : Int, ((s[k]'hlt).toNat : Int) = d := ⟨_, rfl⟩
          rw [hb, hdv] at v0 v1 HS HF
          clear hm hm' hb HI
          by_cases h48 : d < 48
          · have HN : Hid (numV (byteAt s) s.size = none) := HF.out (by omega)
            clear HS HF
            go_wp2
            go_ret2
            rw [HN.out]
            exact ⟨rfl, rfl⟩
          by_cases h57 : 57 < d
          · have HN : Hid (numV (byteAt s) s.size = none) := HF.out (by omega)
            clear HS HF
            go_wp2
            go_ret2
            rw [HN.out]
            exact ⟨rfl, rfl⟩
          · have HN : Hid (dig (byteAt s) s.size 0 0 = dig (byteAt s) (s.size - (k + 1)) (k + 1) (x * 10 + (d - 48))) := HS.out (by omega)
            have hx : x * 10 + (d - 48) < 10 ^ (k + 1) := by rw [Int.pow_succ]; omega
            have hxe : x * 10 + d - 48 = x * 10 + (d - 48) := by omega
            clear HS HF
            go_wp2
            go_roundw
            case rel => exact ⟨k + 1, x * 10 + (d - 48), by omega, by go_num, by go_num, by omega, hx, HN, by first | trivial | rfl⟩
            case measure => simp [intOf]; omega
        · obtain rfl : k = s.size := by omega
          have HN : Hid (numV (byteAt s) s.size = some (x)) := by show _ = _; rw [HD.out, HI.out, Nat.sub_self, dig]
          have hp := pow_le18 (m := s.size) (by omega)
          go_wp2
          go_ret2
          rw [HN.out]
          refine ⟨?_, rfl⟩
          simp
end Go.Proofs.Ytipddjgoohnalaa
