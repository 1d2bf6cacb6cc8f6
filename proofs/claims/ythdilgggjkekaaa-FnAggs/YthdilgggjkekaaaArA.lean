/- Sums, products and quotients within 64 bits: both sides (stage 12). -/
import Derived.Test.YthdilgggjkekaaaFrame
import Derived.BigQuiet
import Derived.BigRegion
import Derived.Deep.QuietTactic
namespace Go.Proofs.Ythdilgggjkekaaa
open Go.RowKit

/-- A number of 64 bits. -/
def In64 (a : Int) : Prop := -9223372036854775808 ≤ a ∧ a ≤ 9223372036854775807
instance (a : Int) : Decidable (In64 a) := inferInstanceAs (Decidable (_ ∧ _))
/-- A number and a code as an answer. -/
abbrev NC (n c : Int) : Value := .tuple #[.int .i64 n, .int .i64 c]
def addR (a b : Int) : Int := if In64 (a + b) then a + b else 0
def addC (a b : Int) : Int := if In64 (a + b) then 0 else 4
def subR (a b : Int) : Int := if In64 (a - b) then a - b else 0
def subC (a b : Int) : Int := if In64 (a - b) then 0 else 4
theorem wrap64 (x : Int) : IntKind.i64.wrap x = (x + 9223372036854775808) % 18446744073709551616 - 9223372036854775808 := by
  simp only [IntKind.wrap_i64]
theorem add_bad {a b s : Int} (hs : IntKind.i64.wrap (a + b) = s) (h : (!decide (s < a) == decide (b < 0)) = true) : addR a b = 0 ∧ addC a b = 4 := by
  rw [wrap64] at hs
  have hn : ¬ In64 (a + b) := by
    intro h1
    unfold In64 at h1
    have : s = a + b := by omega
    subst this
    by_cases hb0 : b < 0
    · simp [hb0] at h
      omega
    · simp [hb0] at h
      omega
  exact ⟨if_neg hn, if_neg hn⟩
theorem add_ok {a b s : Int} (ha : In64 a) (hb : In64 b) (hs : IntKind.i64.wrap (a + b) = s) (h : (!decide (s < a) == decide (b < 0)) = false) : addR a b = s ∧ addC a b = 0 := by
  rw [wrap64] at hs
  unfold In64 at ha hb
  have hn : In64 (a + b) := by
    unfold In64
    by_cases hb0 : b < 0
    · simp [hb0] at h
      omega
    · simp [hb0] at h
      omega
  have : s = a + b := by unfold In64 at hn; omega
  exact ⟨by rw [this]; exact if_pos hn, if_pos hn⟩
theorem sub_bad {a b s : Int} (hs : IntKind.i64.wrap (a - b) = s) (h : (!decide (a < s) == decide (b < 0)) = true) : subR a b = 0 ∧ subC a b = 4 := by
  rw [wrap64] at hs
  have hn : ¬ In64 (a - b) := by
    intro h1
    unfold In64 at h1
    have : s = a - b := by omega
    subst this
    by_cases hb0 : b < 0
    · simp [hb0] at h
      omega
    · simp [hb0] at h
      omega
  exact ⟨if_neg hn, if_neg hn⟩
theorem sub_ok {a b s : Int} (ha : In64 a) (hb : In64 b) (hs : IntKind.i64.wrap (a - b) = s) (h : (!decide (a < s) == decide (b < 0)) = false) : subR a b = s ∧ subC a b = 0 := by
  rw [wrap64] at hs
  unfold In64 at ha hb
  have hn : In64 (a - b) := by
    unfold In64
    by_cases hb0 : b < 0
    · simp [hb0] at h
      omega
    · simp [hb0] at h
      omega
  have : s = a - b := by unfold In64 at hn; omega
  exact ⟨by rw [this]; exact if_pos hn, if_pos hn⟩
theorem nc_eq {a b c d : Int} (h : a = c ∧ b = d) : Ending.returned (NC c d) = .returned (NC a b) := by rw [h.1, h.2]

set_option maxRecDepth 100000 in
theorem implAdd_any (a b : Int) (w : World) (ha : In64 a) (hb : In64 b) :
    Calls Try.prog 38 #[.int .i64 a, .int .i64 b] w fun e w' => e = .returned (NC (addR a b) (addC a b)) ∧ w' = w := by
  have H : Hid (In64 a ∧ In64 b) := ⟨ha, hb⟩
  clear ha hb
  obtain ⟨s, hs⟩ : ∃ s, IntKind.i64.wrap (a + b) = s := ⟨_, rfl⟩
  have HS : Hid (IntKind.i64.wrap (a + b) = s) := hs
  go_enter Try.func38, Try.ntmps38
  go_wp2
  · rename_i h
    go_ret2
    exact ⟨nc_eq (add_bad HS.out h), rfl⟩
  · rename_i h
    go_ret2
    exact ⟨nc_eq (add_ok H.out.1 H.out.2 HS.out h), rfl⟩
/-- A number and whether it is one of 64 bits. -/
abbrev NB (n : Int) (c : Bool) : Value := .tuple #[.int .i64 n, .bool c]
theorem in64_of {c : Bool} {x : Int} (h1 : c = true → In64 x) (h2 : c = false → ¬ In64 x) : c = decide (In64 x) := by
  cases c
  · exact (decide_eq_false (h2 rfl)).symm
  · exact (decide_eq_true (h1 rfl)).symm
theorem nb_eq {n : Int} {c d : Bool} (h : c = d) : Ending.returned (NB n c) = .returned (NB n d) := by rw [h]
set_option maxRecDepth 100000 in
theorem l12Add_any (a b : Int) (w : World) (ha : In64 a) (hb : In64 b) :
    Calls Try.prog 28 #[.int .i64 a, .int .i64 b] w fun e w' => e = .returned (NB (IntKind.i64.wrap (a + b)) (decide (In64 (a + b)))) ∧ w' = w := by
  have H : Hid (In64 a ∧ In64 b) := ⟨ha, hb⟩
  clear ha hb
  obtain ⟨s, hs⟩ : ∃ s, IntKind.i64.wrap (a + b) = s := ⟨_, rfl⟩
  have HS : Hid (IntKind.i64.wrap (a + b) = s) := hs
  go_enter Try.func28, Try.ntmps28
  go_wp2
  all_goals
    go_ret2
    refine ⟨nb_eq ?_, rfl⟩
    have h1 := HS.out
    obtain ⟨h2, h3⟩ := H.out
    rw [wrap64] at h1
    unfold In64 at h2 h3
    refine in64_of (fun hc => ?_) (fun hc => ?_) <;> simp only [Bool.not_eq_true', Bool.not_eq_false', decide_eq_true_eq, decide_eq_false_iff_not, reduceCtorEq] at hc <;> unfold In64 <;> omega
theorem below_drewN {B : Nat} {w w' : World} (h : Below B w w') (n : Nat) : Below B w (w'.drewN n) := ⟨h.os, h.tape, h.output, h.size, h.block⟩
/-- The quotient, what is left, the code. -/
def divX (a b : Int) : Prop := b = 0 ∨ (a = -9223372036854775808 ∧ b = -1)
instance (a b : Int) : Decidable (divX a b) := inferInstanceAs (Decidable (_ ∨ _))
def divQ (a b : Int) : Int := if divX a b then 0 else a.tdiv b
def divM (a b : Int) : Int := if divX a b then 0 else a.tmod b
def divC (a b : Int) : Int := if b = 0 then 13 else if divX a b then 4 else 0
abbrev NNC (q m c : Int) : Value := .tuple #[.int .i64 q, .int .i64 m, .int .i64 c]
theorem tdiv_in {a b : Int} (ha : In64 a) (h : ¬ divX a b) : In64 (a.tdiv b) := by
  unfold divX at h
  unfold In64 at *
  have h0 : b ≠ 0 := fun e => h (.inl e)
  by_cases h1 : b = 1
  · subst h1; simpa using ha
  · by_cases h2 : b = -1
    · subst h2
      have h3 : a ≠ -9223372036854775808 := fun e => h (.inr ⟨e, rfl⟩)
      have h4 : a.tdiv (-1) = -a := by rw [Int.tdiv_neg, Int.tdiv_one]
      rw [h4]; omega
    · have h3 := Int.natAbs_tdiv a b
      have h4 : 2 ≤ b.natAbs := by omega
      have h5 : a.natAbs / b.natAbs ≤ a.natAbs / 2 := Nat.div_le_div_left h4 (by omega)
      have h3 : (a.tdiv b).natAbs = a.natAbs / b.natAbs := h3
      rw [← h3] at h5
      have h6 : a.natAbs ≤ 9223372036854775808 := by omega
      have h7 : a.natAbs / 2 ≤ 4611686018427387904 := Nat.div_le_of_le_mul (by omega)
      have h8 : (a.tdiv b).natAbs ≤ 4611686018427387904 := Nat.le_trans h5 h7
      omega
theorem tmod_le (a b : Int) : (0 ≤ a → 0 ≤ a.tmod b ∧ a.tmod b ≤ a) ∧ (a < 0 → a ≤ a.tmod b ∧ a.tmod b ≤ 0) := by
  have h1 := Int.natAbs_tmod a b
  have h2 : a.natAbs % b.natAbs ≤ a.natAbs := Nat.mod_le _ _
  refine ⟨fun h => ?_, fun h => ?_⟩
  · have := Int.tmod_nonneg b h
    omega
  · have h3 := Int.tmod_nonneg b (a := -a) (by omega)
    rw [Int.neg_tmod] at h3
    omega
theorem tmod_back {a b : Int} (ha : In64 a) : RowKit.wrap64 (a - RowKit.wrap64 (a.tdiv b * b)) = a.tmod b := by
  have h1 := Int.tmod_add_mul_tdiv a b
  have h2 := tmod_le a b
  rw [Int.mul_comm] at h1
  generalize a.tdiv b * b = y at *
  unfold In64 at ha
  unfold RowKit.wrap64
  rcases Int.lt_or_le a 0 with h | h
  · have := h2.2 h; omega
  · have := h2.1 h; omega
theorem wrap_in {x : Int} (h : In64 x) : RowKit.wrap64 x = x := by
  unfold In64 at h
  unfold RowKit.wrap64
  omega
theorem nnc_eq {a b c a' b' c' : Int} (h : a = a' ∧ b = b' ∧ c = c') : Ending.returned (NNC a b c) = .returned (NNC a' b' c') := by rw [h.1, h.2.1, h.2.2]
theorem div_zero (a : Int) : 0 = divQ a 0 ∧ 0 = divM a 0 ∧ 13 = divC a 0 := by
  have h : divX a 0 := .inl rfl
  unfold divQ divM divC
  rw [if_pos h, if_pos h, if_pos rfl]; exact ⟨rfl, rfl, rfl⟩
theorem div_range : 0 = divQ (-9223372036854775808) (-1) ∧ 0 = divM (-9223372036854775808) (-1) ∧ 4 = divC (-9223372036854775808) (-1) := by decide
theorem div_ok {a b : Int} (ha : In64 a) (h : ¬ divX a b) : RowKit.wrap64 (a.tdiv b) = divQ a b ∧ a.tmod b = divM a b ∧ 0 = divC a b := by
  have h0 : b ≠ 0 := fun e => h (.inl e)
  unfold divQ divM divC
  rw [if_neg h, if_neg h, if_neg h0, if_neg h, wrap_in (tdiv_in ha h)]; exact ⟨rfl, rfl, rfl⟩
theorem div_ok' {a b : Int} (ha : In64 a) (h : ¬ divX a b) : RowKit.wrap64 (a.tdiv b) = divQ a b ∧ RowKit.wrap64 (a - RowKit.wrap64 (RowKit.wrap64 (a.tdiv b) * b)) = divM a b ∧ 0 = divC a b := by
  have h1 := div_ok ha h
  refine ⟨h1.1, ?_, h1.2.2⟩
  rw [wrap_in (tdiv_in ha h), tmod_back ha]
  exact h1.2.1

/-- A product is right. -/
def mulX (a b : Int) : Prop := b = 0 ∨ ((IntKind.i64.wrap (a * b)).tdiv b = a ∧ ¬ (a = -9223372036854775808 ∧ b = -1))
instance (a b : Int) : Decidable (mulX a b) := inferInstanceAs (Decidable (_ ∨ _))
def mulR (a b : Int) : Int := if mulX a b then IntKind.i64.wrap (a * b) else 0
def mulC (a b : Int) : Int := if mulX a b then 0 else 4
theorem mul_bad {a b p : Int} (hp : IntKind.i64.wrap (a * b) = p) (h0 : b ≠ 0) (ha : In64 a) (h : (divQ p b != a) = true) : mulR a b = 0 ∧ mulC a b = 4 := by
  have hx : ¬ mulX a b := by
    rintro (e | ⟨e1, e2⟩)
    · exact h0 e
    · rw [hp] at e1
      simp only [bne_iff_ne, ne_eq] at h
      unfold divQ at h
      split at h
      · rename_i hd
        rcases hd with e | ⟨e3, e4⟩
        · exact h0 e
        · subst e3 e4
          have h2 : (-9223372036854775808 : Int).tdiv (-1) = 9223372036854775808 := by decide
          unfold In64 at ha
          omega
      · exact h e1
  exact ⟨if_neg hx, if_neg hx⟩
theorem mul_ok {a b p : Int} (hp : IntKind.i64.wrap (a * b) = p) (h0 : b ≠ 0) (ha : In64 a) (h : (divQ p b != a) = false) : mulR a b = p ∧ mulC a b = 0 := by
  simp only [bne_eq_false_iff_eq] at h
  have hx : mulX a b := by
    refine .inr ⟨?_, fun e => ?_⟩
    · rw [hp]
      unfold divQ at h
      split at h
      · rename_i hd
        rcases hd with e | ⟨e3, e4⟩
        · exact absurd e h0
        · subst e3 e4 h
          exact absurd hp (by decide)
      · exact h
    · obtain ⟨rfl, rfl⟩ := e
      have hp2 : p = -9223372036854775808 := by rw [← hp]; rfl
      subst hp2
      revert h; decide
  exact ⟨by unfold mulR; rw [if_pos hx, hp], if_pos hx⟩
theorem mulB_bad {a b p : Int} (ha : In64 a) (hp : IntKind.i64.wrap (a * b) = p) (h0 : b ≠ 0) (h : (RowKit.wrap64 (p.tdiv b) != a) = true ∨ (a = -9223372036854775808 ∧ b = -1)) : mulR a b = 0 ∧ decide (mulX a b) = false := by
  have hx : ¬ mulX a b := by
    rintro (e | ⟨e1, e2⟩)
    · exact h0 e
    · rcases h with h | h
      · rw [hp] at e1
        simp only [bne_iff_ne, ne_eq] at h
        have hpi : In64 p := by rw [← hp, wrap64]; unfold In64; omega
        by_cases hd : divX p b
        · rcases hd with e | ⟨e3, e4⟩
          · exact h0 e
          · subst e3 e4
            have h2 : (-9223372036854775808 : Int).tdiv (-1) = 9223372036854775808 := by decide
            unfold In64 at ha
            omega
        · exact h (by rw [wrap_in (tdiv_in hpi hd)]; exact e1)
      · exact e2 h
  exact ⟨if_neg hx, decide_eq_false hx⟩
theorem mulB_ok {a b p : Int} (hp : IntKind.i64.wrap (a * b) = p) (h0 : b ≠ 0) (hq : (RowKit.wrap64 (p.tdiv b) != a) = false) (h : ¬ (a = -9223372036854775808 ∧ b = -1)) : mulR a b = p ∧ decide (mulX a b) = true := by
  have hpi : In64 p := by rw [← hp, wrap64]; unfold In64; omega
  have hx : mulX a b := by
    refine .inr ⟨?_, h⟩
    rw [hp]
    simp only [bne_eq_false_iff_eq] at hq
    by_cases hd : divX p b
    · rcases hd with e | ⟨e3, e4⟩
      · exact absurd e h0
      · subst e3 e4
        exact absurd ⟨by rw [← hq]; unfold RowKit.wrap64; decide, rfl⟩ h
    · rw [wrap_in (tdiv_in hpi hd)] at hq; exact hq
  exact ⟨by unfold mulR; rw [if_pos hx, hp], decide_eq_true hx⟩
theorem nb_eq2 {n m : Int} {c d : Bool} (h : m = n ∧ d = c) : Ending.returned (NB n c) = .returned (NB m d) := by rw [h.1, h.2]
end Go.Proofs.Ythdilgggjkekaaa
