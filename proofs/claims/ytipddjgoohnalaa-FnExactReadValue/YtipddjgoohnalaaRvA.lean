/- Numbers as both sides read them. -/
import Derived.Test.YtipddjgoohnalaaRkD
import Derived.Test.YtipddjgoohnalaaNames
namespace Go.Proofs.Ytipddjgoohnalaa
open Go.RowKit

/-- The number that m digits from byte k on make behind n; none where one is no digit. -/
def dig (f : Nat → Int) : Nat → Nat → Int → Option Int
  | 0, _, n => some n
  | m + 1, k, n => if 48 ≤ f k ∧ f k ≤ 57 then dig f m (k + 1) (n * 10 + (f k - 48)) else none
/-- Digits alone: 1 to 18, no nought ahead of another. -/
def rdD (f : Nat → Int) (n : Nat) : Option Int := if n = 0 ∨ 18 < n ∨ (1 < n ∧ f 0 = 48) then none else dig f n 0 0
/-- With a sign ahead: no nought. -/
def negV : Option Int → Option Int
  | some x => if x = 0 then none else some (-x)
  | none => none
/-- A number with or without a sign. -/
def numV (f : Nat → Int) (n : Nat) : Option Int :=
  if 0 < n ∧ f 0 = 45 then negV (rdD (fun i => f (i + 1)) (n - 1)) else rdD f n
theorem dig_bd (f : Nat → Int) : ∀ m k n x, 0 ≤ n → dig f m k n = some x → n ≤ x ∧ x < (n + 1) * 10 ^ m
  | 0, k, n, x, h, e => by
    unfold dig at e
    cases e
    simp
    omega
  | m + 1, k, n, x, h, e => by
    unfold dig at e
    split at e
    · rename_i hd
      have := dig_bd f m (k + 1) _ x (by omega) e
      obtain ⟨a, b⟩ := this
      refine ⟨by omega, Int.lt_of_lt_of_le b ?_⟩
      have h10 : (0 : Int) ≤ 10 ^ m := Int.le_of_lt (Int.pow_pos (by omega))
      have : n * 10 + (f k - 48) + 1 ≤ (n + 1) * 10 := by omega
      calc (n * 10 + (f k - 48) + 1) * 10 ^ m ≤ ((n + 1) * 10) * 10 ^ m := Int.mul_le_mul_of_nonneg_right this h10
        _ = (n + 1) * 10 ^ (m + 1) := by rw [Int.mul_assoc, Int.pow_succ, Int.mul_comm 10]
    · cases e
/-- A pair of a number and whether there is one. -/
abbrev NumR (o : Option Int) : Value := .tuple #[.int .i64 (o.getD 0), .bool o.isSome]
theorem pow_le18 {m : Nat} (h : m ≤ 18) : (10 : Int) ^ m ≤ 1000000000000000000 := by
  have e : (10 : Int) ^ 18 = 1000000000000000000 := by decide
  rw [← e]
  exact_mod_cast Nat.pow_le_pow_right (by omega) h
theorem dig_step {f : Nat → Int} {m k : Nat} {n : Int} (h : 48 ≤ f k ∧ f k ≤ 57) : dig f (m + 1) k n = dig f m (k + 1) (n * 10 + (f k - 48)) := by rw [dig, if_pos h]
theorem dig_stop {f : Nat → Int} {m k : Nat} {n : Int} (h : ¬ (48 ≤ f k ∧ f k ≤ 57)) : dig f (m + 1) k n = none := by rw [dig, if_neg h]
theorem byteAt_bd (s : ByteArray) (k : Nat) : 0 ≤ byteAt s k ∧ byteAt s k ≤ 255 := by
  unfold byteAt
  have := (s.data.toList.getD k 0).toNat_lt
  omega

set_option maxRecDepth 100000 in
set_option maxHeartbeats 4000000 in
theorem readDigits_any (s : ByteArray) (w : World) (hs : s.size ≤ 65536) :
    Calls Try.prog 114 #[.string s] w fun e w' => e = .returned (NumR (rdD (byteAt s) s.size)) ∧ w' = w := by
  by_cases h0 : s.size = 0
  · have H : Hid (rdD (byteAt s) s.size = none) := by show _ = _; unfold rdD; rw [if_pos (.inl h0)]
    have h0I : (s.size : Int) = 0 := by omega
    go_enter Try.func114, Try.ntmps114
    go_wp2
    go_ret2
    rw [H.out]
    exact ⟨rfl, rfl⟩
  have h0I : ((s.size : Int) == 0) = false := beq_eq_false_iff_ne.2 (by omega)
  by_cases h18 : (18 : Int) < (s.size : Int)
  · have H : Hid (rdD (byteAt s) s.size = none) := by show _ = _; unfold rdD; rw [if_pos (.inr (.inl (by omega)))]
    go_enter Try.func114, Try.ntmps114
    go_wp2
    go_ret2
    rw [H.out]
    exact ⟨rfl, rfl⟩
  have hpos : 0 < s.size := by omega
  have hb0 := byteAt_eq s 0 hpos
  have E : Hid (¬ (1 < s.size ∧ byteAt s 0 = 48) → rdD (byteAt s) s.size = dig (byteAt s) s.size 0 0) := fun h => by unfold rdD; rw [if_neg (by omega)]
  have HN : Hid ((1 < s.size ∧ byteAt s 0 = 48) → rdD (byteAt s) s.size = none) := fun h => by unfold rdD; rw [if_pos (.inr (.inr h))]
  have loop : ¬ (1 < s.size ∧ byteAt s 0 = 48) → Calls Try.prog 114 #[.string s] w fun e w' => e = .returned (NumR (rdD (byteAt s) s.size)) ∧ w' = w := fun hh => by
    have HD : Hid (rdD (byteAt s) s.size = dig (byteAt s) s.size 0 0) := E.out hh
    have hh' : ¬ (1 < s.size ∧ ((s[0]'hpos).toNat : Int) = 48) := by rw [← hb0]; exact hh
    clear E HN hh hb0
    have hc : (¬ (1 : Int) < (s.size : Int)) ∨ ((1 : Int) < (s.size : Int) ∧ (((s[0]'hpos).toNat : Int) == 48) = false) := by
      by_cases h1 : (1 : Int) < (s.size : Int)
      · exact .inr ⟨h1, beq_eq_false_iff_ne.2 (fun e => hh' ⟨by omega, e⟩)⟩
      · exact .inl h1
    have hsz18 : s.size ≤ 18 := by omega
    clear hh'
    rcases hc with c1 | ⟨c1, c2⟩
    all_goals
      go_enter Try.func114, Try.ntmps114
      go_wp2
      go_loopw [4, 26] (fun acc i wr => ∃ (k : Nat) (x : Int), k ≤ s.size ∧ i = .int .i64 k ∧ acc = .int .i64 x ∧ 0 ≤ x ∧ x < 10 ^ k ∧ Hid (dig (byteAt s) s.size 0 0 = dig (byteAt s) (s.size - k) k x) ∧ wr = w) (fun _ i _ => s.size - (intOf i).toNat)
      case atStart => exact ⟨0, 0, by omega, rfl, rfl, by omega, by decide, rfl, rfl⟩
      case round =>
        obtain ⟨k, x, hk, rfl, rfl, x0, x1, HI, rfl⟩ := hrel
        by_cases hlt : k < s.size
        · have hltI : (k : Int) < (s.size : Int) := by omega
          have hb := byteAt_eq s k hlt
          obtain ⟨v0, v1⟩ := byteAt_bd s k
          obtain ⟨m, hm⟩ : ∃ m, s.size - k = m + 1 := ⟨s.size - k - 1, by omega⟩
          have hm' : s.size - (k + 1) = m := by omega
          have hp : (10 : Int) ^ k ≤ 100000000000000000 := by
            have e : (10 : Int) ^ 17 = 100000000000000000 := by decide
            rw [← e]
            exact_mod_cast Nat.pow_le_pow_right (by omega) (show k ≤ 17 by omega)
          have HS : Hid (48 ≤ byteAt s k ∧ byteAt s k ≤ 57 → dig (byteAt s) s.size 0 0 = dig (byteAt s) (s.size - (k + 1)) (k + 1) (x * 10 + (byteAt s k - 48))) := fun h => by rw [HI.out, hm, hm', dig_step h]
          have HF : Hid (¬ (48 ≤ byteAt s k ∧ byteAt s k ≤ 57) → rdD (byteAt s) s.size = none) := fun h => by rw [HD.out, HI.out, hm, dig_stop h]
          obtain ⟨c, hcv⟩ : ∃ c : Int, ((s[k]'hlt).toNat : Int) = c := ⟨_, rfl⟩
          rw [hb, hcv] at v0 v1 HS HF
          clear hm hm' hb HI
          go_wp2_with fail
          refine (isDigit_any c _).mono ?_
          rintro e w' ⟨rfl, hq⟩
          obtain rfl := hq.symm
          by_cases hd : 48 ≤ c ∧ c ≤ 57
          · have hdB : digB c = true := decide_eq_true hd
            have HN : Hid (dig (byteAt s) s.size 0 0 = dig (byteAt s) (s.size - (k + 1)) (k + 1) (x * 10 + (c - 48))) := HS.out hd
            have hw : IntKind.u8.wrap (c - 48) = c - 48 := by rw [IntKind.wrap_u8]; omega
            rw [hdB]
            have hx : x * 10 + (c - 48) < 10 ^ (k + 1) := by rw [Int.pow_succ]; omega
            clear hdB HS HF
            go_wp2
            go_roundw
            case rel => exact ⟨k + 1, x * 10 + (c - 48), by omega, by go_num, by go_num, by omega, hx, HN, by first | trivial | rfl⟩
            case measure => simp [intOf]; omega
          · have hdB : digB c = false := decide_eq_false hd
            have HN : Hid (rdD (byteAt s) s.size = none) := HF.out hd
            rw [hdB]
            clear hdB HS HF
            go_wp2
            go_ret2
            rw [HN.out]
            exact ⟨rfl, rfl⟩
        · obtain rfl : k = s.size := by omega
          have HN : Hid (rdD (byteAt s) s.size = some x) := by show _ = _; rw [HD.out, HI.out, Nat.sub_self, dig]
          go_wp2
          go_ret2
          rw [HN.out]
          exact ⟨rfl, rfl⟩
  by_cases hz : 1 < s.size ∧ byteAt s 0 = 48
  · have H : Hid (rdD (byteAt s) s.size = none) := HN.out hz
    rw [hb0] at hz
    obtain ⟨z1, z2⟩ := hz
    have z1I : (1 : Int) < (s.size : Int) := by omega
    clear E HN loop hb0
    go_enter Try.func114, Try.ntmps114
    go_wp2
    go_ret2
    rw [H.out]
    exact ⟨rfl, rfl⟩
  · exact loop hz
end Go.Proofs.Ytipddjgoohnalaa
