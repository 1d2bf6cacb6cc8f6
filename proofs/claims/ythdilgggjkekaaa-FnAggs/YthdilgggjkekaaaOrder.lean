/- How both sides order two values. -/
import Derived.Test.YthdilgggjkekaaaFrame
import Derived.Deep.RegionWith
namespace Go.Proofs.Ythdilgggjkekaaa
open Go.RowKit

/-- -1, 0 or 1 of two numbers. -/
def cmpI (a b : Int) : Int := if a < b then -1 else if b < a then 1 else 0
/-- -1, 0 or 1 of two texts, by their bytes. -/
def cmpS (a b : ByteArray) : Int := if Op.bytesLess a.toList b.toList = true then -1 else if a.toList == b.toList then 0 else 1
/-- The order of values: by kind, then number, then text. -/
def cmpV (k1 n1 : Int) (t1 : ByteArray) (k2 n2 : Int) (t2 : ByteArray) : Int :=
  if cmpI k1 k2 ≠ 0 then cmpI k1 k2 else if cmpI n1 n2 ≠ 0 then cmpI n1 n2 else cmpS t1 t2

theorem cmpI_bd (a b : Int) : -1 ≤ cmpI a b ∧ cmpI a b ≤ 1 := by unfold cmpI; split <;> (try split) <;> omega
theorem cmpS_bd (a b : ByteArray) : -1 ≤ cmpS a b ∧ cmpS a b ≤ 1 := by unfold cmpS; split <;> (try split) <;> omega

theorem cmpInt_any (a b : Int) (w : World) :
    Calls Try.prog 40 #[.int .i64 a, .int .i64 b] w fun e w' => e = .returned (.int .i64 (cmpI a b)) ∧ w' = w := by
  by_cases h1 : a < b
  · have H : Hid (cmpI a b = -1) := by show _ = _; unfold cmpI; rw [if_pos h1]
    go_enter Try.func40, Try.ntmps40
    go_wp2
    go_ret
    exact ⟨ret_int' H.out.symm, rfl⟩
  by_cases h2 : b < a
  · have H : Hid (cmpI a b = 1) := by show _ = _; unfold cmpI; rw [if_neg h1, if_pos h2]
    go_enter Try.func40, Try.ntmps40
    go_wp2
    go_ret
    exact ⟨ret_int' H.out.symm, rfl⟩
  · have H : Hid (cmpI a b = 0) := by show _ = _; unfold cmpI; rw [if_neg h1, if_neg h2]
    go_enter Try.func40, Try.ntmps40
    go_wp2
    go_ret
    exact ⟨ret_int' H.out.symm, rfl⟩

theorem cmpStr_any (a b : ByteArray) (w : World) :
    Calls Try.prog 41 #[.string a, .string b] w fun e w' => e = .returned (.int .i64 (cmpS a b)) ∧ w' = w := by
  go_enter Try.func41, Try.ntmps41
  go_wp2
  all_goals
    go_ret
    refine ⟨ret_int' ?_, rfl⟩
    simp_all [cmpS]

def orI (x y z : Int) : Int := if x ≠ 0 then x else if y ≠ 0 then y else z

theorem cmpOr_any (b : Nat) (x y z : Int) (w : World) (h0 : w.cell? ⟨b, 0, none⟩ = some (.int .i64 x)) (h1 : w.cell? ⟨b, 1, none⟩ = some (.int .i64 y)) (h2 : w.cell? ⟨b, 2, none⟩ = some (.int .i64 z)) :
    Calls Try.prog 39 #[.slice (some ⟨b, 0, none⟩) 3 3] w fun e w' => e = .returned (.int .i64 (orI x y z)) ∧ w' = w := by
  by_cases hx : x = 0
  · have HX : Hid (x = 0) := hx
    have tx : (x != 0) = false := by simp [hx]
    clear hx
    by_cases hy : y = 0
    · have HY : Hid (y = 0) := hy
      have ty : (y != 0) = false := by simp [hy]
      clear hy
      by_cases hz : z = 0
      · have HR : Hid (orI x y z = 0) := by show _ = _; unfold orI; rw [if_neg (by simp [HX.out]), if_neg (by simp [HY.out]), hz]
        have tz : (z != 0) = false := by simp [hz]
        clear hz
        go_enter Try.func39, Try.ntmps39
        go_wp2
        refine wp_loop_rounds 4 ?_
        rw [rounds_succ]
        go_wp2
        rw [rounds_succ]
        go_wp2
        rw [rounds_succ]
        go_wp2
        rw [rounds_succ]
        go_wp2
        go_ret
        exact ⟨ret_int' HR.out.symm, rfl⟩
      · have HR : Hid (orI x y z = z) := by show _ = _; unfold orI; rw [if_neg (by simp [HX.out]), if_neg (by simp [HY.out])]
        have tz : (z != 0) = true := by simpa using hz
        clear hz
        go_enter Try.func39, Try.ntmps39
        go_wp2
        refine wp_loop_rounds 3 ?_
        rw [rounds_succ]
        go_wp2
        rw [rounds_succ]
        go_wp2
        rw [rounds_succ]
        go_wp2
        go_ret
        exact ⟨ret_int' HR.out.symm, rfl⟩
    · have HR : Hid (orI x y z = y) := by show _ = _; unfold orI; rw [if_neg (by simp [HX.out]), if_pos hy]
      have ty : (y != 0) = true := by simpa using hy
      clear hy
      go_enter Try.func39, Try.ntmps39
      go_wp2
      refine wp_loop_rounds 2 ?_
      rw [rounds_succ]
      go_wp2
      rw [rounds_succ]
      go_wp2
      go_ret
      exact ⟨ret_int' HR.out.symm, rfl⟩
  · have HR : Hid (orI x y z = x) := by show _ = _; unfold orI; rw [if_pos hx]
    have tx : (x != 0) = true := by simpa using hx
    clear hx
    go_enter Try.func39, Try.ntmps39
    go_wp2
    refine wp_loop_rounds 1 ?_
    rw [rounds_succ]
    go_wp2
    go_ret
    exact ⟨ret_int' HR.out.symm, rfl⟩

theorem l01Sign_any (a b : Bool) (w : World) :
    Calls Try.prog 42 #[.bool a, .bool b] w fun e w' => e = .returned (.int .i64 (if a then -1 else if b then 0 else 1)) ∧ w' = w := by
  cases a <;> cases b <;> (go_enter Try.func42, Try.ntmps42; go_wp2; go_ret; exact ⟨rfl, rfl⟩)

section
variable {k1 n1 : Int} {t1 : ByteArray} {k2 n2 : Int} {t2 : ByteArray}
theorem cmpI_same {a b : Int} (h : (a != b) = false) : cmpI a b = 0 := by simp at h; unfold cmpI; rw [if_neg (by omega), if_neg (by omega)]
theorem cmpI_lt {a b : Int} (h : a < b) : cmpI a b = -1 := by unfold cmpI; rw [if_pos h]
theorem cmpI_gt {a b : Int} (h : (a != b) = true) (h2 : b ≤ a) : cmpI a b = 1 := by simp at h; unfold cmpI; rw [if_neg (by omega), if_pos (by omega)]
theorem cmpV_k (_ : (k1 != k2) = true) (h2 : k1 < k2) : -1 = cmpV k1 n1 t1 k2 n2 t2 := by unfold cmpV; rw [cmpI_lt h2]; simp
theorem cmpV_k' (h : (k1 != k2) = true) (h2 : k2 ≤ k1) : 1 = cmpV k1 n1 t1 k2 n2 t2 := by unfold cmpV; rw [cmpI_gt h h2]; simp
theorem cmpV_n (h : (k1 != k2) = false) (_ : (n1 != n2) = true) (h2 : n1 < n2) : -1 = cmpV k1 n1 t1 k2 n2 t2 := by unfold cmpV; rw [cmpI_same h, cmpI_lt h2]; simp
theorem cmpV_n' (h : (k1 != k2) = false) (h1 : (n1 != n2) = true) (h2 : n2 ≤ n1) : 1 = cmpV k1 n1 t1 k2 n2 t2 := by unfold cmpV; rw [cmpI_same h, cmpI_gt h1 h2]; simp
theorem cmpV_t (h : (k1 != k2) = false) (h1 : (n1 != n2) = false) (h2 : Op.bytesLess t1.toList t2.toList = true) : -1 = cmpV k1 n1 t1 k2 n2 t2 := by unfold cmpV; rw [cmpI_same h, cmpI_same h1]; simp [cmpS, h2]
theorem cmpV_t' (h : (k1 != k2) = false) (h1 : (n1 != n2) = false) (h2 : Op.bytesLess t1.toList t2.toList = false) (h3 : (t1.toList == t2.toList) = true) : 0 = cmpV k1 n1 t1 k2 n2 t2 := by unfold cmpV; rw [cmpI_same h, cmpI_same h1]; simp [cmpS, h2, h3]
theorem cmpV_t2 (h : (k1 != k2) = false) (h1 : (n1 != n2) = false) (h2 : Op.bytesLess t1.toList t2.toList = false) (h3 : (t1.toList == t2.toList) = false) : 1 = cmpV k1 n1 t1 k2 n2 t2 := by unfold cmpV; rw [cmpI_same h, cmpI_same h1]; simp [cmpS, h2, h3]
theorem cmpV_or : cmpV k1 n1 t1 k2 n2 t2 = orI (cmpI k1 k2) (cmpI n1 n2) (cmpS t1 t2) := rfl
end

theorem l01Compare_any (k1 n1 : Int) (t1 : ByteArray) (k2 n2 : Int) (t2 : ByteArray) (w : World) :
    Calls Try.prog 29 #[VV k1 n1 t1, VV k2 n2 t2] w fun e w' => e = .returned (.int .i64 (cmpV k1 n1 t1 k2 n2 t2)) ∧ Below w.heap.size w w' := by
  go_enter Try.func29, Try.ntmps29
  go_wp2
  all_goals
    go_ret
    refine ⟨ret_int' ?_, ((Below.refl _ _).alloc (Nat.le_refl _) _).alloc (by simp) _⟩
    first | exact cmpV_k ‹_› ‹_› | exact cmpV_k' ‹_› ‹_› | exact cmpV_n ‹_› ‹_› ‹_› | exact cmpV_n' ‹_› ‹_› ‹_› | exact cmpV_t ‹_› ‹_› ‹_› | exact cmpV_t' ‹_› ‹_› ‹_› ‹_› | exact cmpV_t2 ‹_› ‹_› ‹_› ‹_›

end Go.Proofs.Ythdilgggjkekaaa
