/- How both sides order two values (stage 13). -/
import Derived.Test.YthdilgggjkekaaaVlD
import Derived.Deep.RegionWith
import Derived.Deep.RegionHeld3
namespace Go.Proofs.Ythdilgggjkekaaa.R
open Go.RowKit

/-- -1, 0 or 1 of two numbers. -/
def cmpI (a b : Int) : Int := if a < b then -1 else if b < a then 1 else 0
/-- -1, 0 or 1 of two texts, by their bytes. -/
def cmpS (a b : ByteArray) : Int := if Op.bytesLess a.toList b.toList = true then -1 else if a.toList == b.toList then 0 else 1
/-- The order of values: by kind, then number, then text. -/
def cmpV (k1 n1 : Int) (t1 : ByteArray) (k2 n2 : Int) (t2 : ByteArray) : Int :=
  if cmpI k1 k2 ≠ 0 then cmpI k1 k2 else if cmpI n1 n2 ≠ 0 then cmpI n1 n2 else cmpS t1 t2

theorem cmpI_bd (a b : Int) : -1 ≤ cmpI a b ∧ cmpI a b ≤ 1 := by unfold cmpI; split <;> (try split) <;> omega
theorem cmpS_bd (a b : ByteArray) : -1 ≤ cmpS a b ∧ cmpS a b ≤ 1 := by unfold cmpS; split <;> (try split) <;> omega

theorem cmpInt_any (a b : Int) (w : World) :
    Calls Try.prog 40 #[.int .i64 a, .int .i64 b] w fun e w' => e = .returned (.int .i64 (cmpI a b)) ∧ w' = w := by
  by_cases h1 : a < b
  · have H : Hid (cmpI a b = -1) := by show _ = _; unfold cmpI; rw [if_pos h1]
    go_enter Try.func40, Try.ntmps40
    go_wp2
    go_ret
    exact ⟨ret_int' H.out.symm, rfl⟩
  by_cases h2 : b < a
  · have H : Hid (cmpI a b = 1) := by show _ = _; unfold cmpI; rw [if_neg h1, if_pos h2]
    go_enter Try.func40, Try.ntmps40
    go_wp2
    go_ret
    exact ⟨ret_int' H.out.symm, rfl⟩
  · have H : Hid (cmpI a b = 0) := by show _ = _; unfold cmpI; rw [if_neg h1, if_neg h2]
    go_enter Try.func40, Try.ntmps40
    go_wp2
    go_ret
    exact ⟨ret_int' H.out.symm, rfl⟩

theorem cmpStr_any (a b : ByteArray) (w : World) :
    Calls Try.prog 41 #[.string a, .string b] w fun e w' => e = .returned (.int .i64 (cmpS a b)) ∧ w' = w := by
  go_enter Try.func41, Try.ntmps41
  go_wp2
  all_goals
    go_ret
    refine ⟨ret_int' ?_, rfl⟩
    simp_all [cmpS]

def orI (x y z : Int) : Int := if x ≠ 0 then x else if y ≠ 0 then y else z

theorem cmpOr_any (b : Nat) (x y z : Int) (w : World) (h0 : w.cell? ⟨b, 0, none⟩ = some (.int .i64 x)) (h1 : w.cell? ⟨b, 1, none⟩ = some (.int .i64 y)) (h2 : w.cell? ⟨b, 2, none⟩ = some (.int .i64 z)) :
    Calls Try.prog 39 #[.slice (some ⟨b, 0, none⟩) 3 3] w fun e w' => e = .returned (.int .i64 (orI x y z)) ∧ w' = w := by
  by_cases hx : x = 0
  · have HX : Hid (x = 0) := hx
    have tx : (x != 0) = false := by simp [hx]
    clear hx
    by_cases hy : y = 0
    · have HY : Hid (y = 0) := hy
      have ty : (y != 0) = false := by simp [hy]
      clear hy
      by_cases hz : z = 0
      · have HR : Hid (orI x y z = 0) := by show _ = _; unfold orI; rw [if_neg (by simp [HX.out]), if_neg (by simp [HY.out]), hz]
        have tz : (z != 0) = false := by simp [hz]
        clear hz
        go_enter Try.func39, Try.ntmps39
        go_wp2
        refine wp_loop_rounds 4 ?_
        rw [rounds_succ]
        go_wp2
        rw [rounds_succ]
        go_wp2
        rw [rounds_succ]
        go_wp2
        rw [rounds_succ]
        go_wp2
        go_ret
        exact ⟨ret_int' HR.out.symm, rfl⟩
      · have HR : Hid (orI x y z = z) := by show _ = _; unfold orI; rw [if_neg (by simp [HX.out]), if_neg (by simp [HY.out])]
        have tz : (z != 0) = true := by simpa using hz
        clear hz
        go_enter Try.func39, Try.ntmps39
        go_wp2
        refine wp_loop_rounds 3 ?_
        rw [rounds_succ]
        go_wp2
        rw [rounds_succ]
        go_wp2
        rw [rounds_succ]
        go_wp2
        go_ret
        exact ⟨ret_int' HR.out.symm, rfl⟩
    · have HR : Hid (orI x y z = y) := by show _ = _; unfold orI; rw [if_neg (by simp [HX.out]), if_pos hy]
      have ty : (y != 0) = true := by simpa using hy
      clear hy
      go_enter Try.func39, Try.ntmps39
      go_wp2
      refine wp_loop_rounds 2 ?_
      rw [rounds_succ]
      go_wp2
      rw [rounds_succ]
      go_wp2
      go_ret
      exact ⟨ret_int' HR.out.symm, rfl⟩
  · have HR : Hid (orI x y z = x) := by show _ = _; unfold orI; rw [if_pos hx]
    have tx : (x != 0) = true := by simpa using hx
    clear hx
    go_enter Try.func39, Try.ntmps39
    go_wp2
    refine wp_loop_rounds 1 ?_
    rw [rounds_succ]
    go_wp2
    go_ret
    exact ⟨ret_int' HR.out.symm, rfl⟩

theorem l01Sign_any (a b : Bool) (w : World) :
    Calls Try.prog 42 #[.bool a, .bool b] w fun e w' => e = .returned (.int .i64 (if a then -1 else if b then 0 else 1)) ∧ w' = w := by
  cases a <;> cases b <;> (go_enter Try.func42, Try.ntmps42; go_wp2; go_ret; exact ⟨rfl, rfl⟩)

section
variable {k1 n1 : Int} {t1 : ByteArray} {k2 n2 : Int} {t2 : ByteArray}
theorem cmpI_same {a b : Int} (h : (a != b) = false) : cmpI a b = 0 := by simp at h; unfold cmpI; rw [if_neg (by omega), if_neg (by omega)]
theorem cmpI_lt {a b : Int} (h : a < b) : cmpI a b = -1 := by unfold cmpI; rw [if_pos h]
theorem cmpI_gt {a b : Int} (h : (a != b) = true) (h2 : b ≤ a) : cmpI a b = 1 := by simp at h; unfold cmpI; rw [if_neg (by omega), if_pos (by omega)]
theorem cmpV_k (_ : (k1 != k2) = true) (h2 : k1 < k2) : -1 = cmpV k1 n1 t1 k2 n2 t2 := by unfold cmpV; rw [cmpI_lt h2]; simp
theorem cmpV_k' (h : (k1 != k2) = true) (h2 : k2 ≤ k1) : 1 = cmpV k1 n1 t1 k2 n2 t2 := by unfold cmpV; rw [cmpI_gt h h2]; simp
theorem cmpV_n (h : (k1 != k2) = false) (_ : (n1 != n2) = true) (h2 : n1 < n2) : -1 = cmpV k1 n1 t1 k2 n2 t2 := by unfold cmpV; rw [cmpI_same h, cmpI_lt h2]; simp
theorem cmpV_n' (h : (k1 != k2) = false) (h1 : (n1 != n2) = true) (h2 : n2 ≤ n1) : 1 = cmpV k1 n1 t1 k2 n2 t2 := by unfold cmpV; rw [cmpI_same h, cmpI_gt h1 h2]; simp
theorem cmpV_t (h : (k1 != k2) = false) (h1 : (n1 != n2) = false) (h2 : Op.bytesLess t1.toList t2.toList = true) : -1 = cmpV k1 n1 t1 k2 n2 t2 := by unfold cmpV; rw [cmpI_same h, cmpI_same h1]; simp [cmpS, h2]
theorem cmpV_t' (h : (k1 != k2) = false) (h1 : (n1 != n2) = false) (h2 : Op.bytesLess t1.toList t2.toList = false) (h3 : (t1.toList == t2.toList) = true) : 0 = cmpV k1 n1 t1 k2 n2 t2 := by unfold cmpV; rw [cmpI_same h, cmpI_same h1]; simp [cmpS, h2, h3]
theorem cmpV_t2 (h : (k1 != k2) = false) (h1 : (n1 != n2) = false) (h2 : Op.bytesLess t1.toList t2.toList = false) (h3 : (t1.toList == t2.toList) = false) : 1 = cmpV k1 n1 t1 k2 n2 t2 := by unfold cmpV; rw [cmpI_same h, cmpI_same h1]; simp [cmpS, h2, h3]
theorem cmpV_or : cmpV k1 n1 t1 k2 n2 t2 = orI (cmpI k1 k2) (cmpI n1 n2) (cmpS t1 t2) := rfl
end

theorem l01Compare_any (k1 n1 : Int) (t1 : ByteArray) (k2 n2 : Int) (t2 : ByteArray) (w : World) :
    Calls Try.prog 29 #[VV k1 n1 t1, VV k2 n2 t2] w fun e w' => e = .returned (.int .i64 (cmpV k1 n1 t1 k2 n2 t2)) ∧ Below w.heap.size w w' := by
  go_enter Try.func29, Try.ntmps29
  go_wp2
  all_goals
    go_ret
    refine ⟨ret_int' ?_, ((Below.refl _ _).alloc (Nat.le_refl _) _).alloc (by simp) _⟩
    first | exact cmpV_k ‹_› ‹_› | exact cmpV_k' ‹_› ‹_› | exact cmpV_n ‹_› ‹_› ‹_› | exact cmpV_n' ‹_› ‹_› ‹_› | exact cmpV_t ‹_› ‹_› ‹_› | exact cmpV_t' ‹_› ‹_› ‹_› ‹_› | exact cmpV_t2 ‹_› ‹_› ‹_› ‹_›


def lexI (x y : Int) : Int := if x ≠ 0 then x else y
theorem lexI_neg (x y : Int) : lexI (-x) (-y) = -lexI x y := by unfold lexI; split <;> split <;> omega
theorem lexI_zero (x y : Int) : lexI x y = 0 ↔ x = 0 ∧ y = 0 := by unfold lexI; split <;> omega
theorem lexI_trans {x12 x23 x13 y12 y23 y13 : Int} (hx : x12 ≤ 0 → x23 ≤ 0 → x13 ≤ 0) (hx' : x12 ≤ 0 → x23 ≤ 0 → x13 = 0 → x12 = 0 ∧ x23 = 0) (hy : y12 ≤ 0 → y23 ≤ 0 → y13 ≤ 0) :
    lexI x12 y12 ≤ 0 → lexI x23 y23 ≤ 0 → lexI x13 y13 ≤ 0 := by
  unfold lexI
  intro h1 h2
  by_cases e12 : x12 = 0 <;> by_cases e23 : x23 = 0 <;> by_cases e13 : x13 = 0 <;> simp [e12, e23, e13] at h1 h2 ⊢ <;> omega

theorem cmpI_neg (a b : Int) : cmpI a b = -cmpI b a := by unfold cmpI; repeat' split <;> omega
theorem cmpI_zero (a b : Int) : cmpI a b = 0 ↔ a = b := by unfold cmpI; repeat' split <;> omega
theorem cmpI_trans (a b c : Int) : cmpI a b ≤ 0 → cmpI b c ≤ 0 → cmpI a c ≤ 0 := by unfold cmpI; repeat' split <;> omega
theorem cmpI_trans' (a b c : Int) : cmpI a b ≤ 0 → cmpI b c ≤ 0 → cmpI a c = 0 → cmpI a b = 0 ∧ cmpI b c = 0 := by unfold cmpI; repeat' split <;> omega

theorem bl_irrefl : ∀ x : List UInt8, Op.bytesLess x x = false
  | [] => rfl
  | a :: x => by simp [Op.bytesLess, bl_irrefl x]
theorem bl_asymm : ∀ x y : List UInt8, Op.bytesLess x y = true → Op.bytesLess y x = false
  | [], [], h => by simp [Op.bytesLess] at h
  | [], _ :: _, _ => rfl
  | _ :: _, [], h => by simp [Op.bytesLess] at h
  | a :: x, b :: y, h => by
    simp only [Op.bytesLess, Bool.or_eq_true, decide_eq_true_eq, Bool.and_eq_true, beq_iff_eq] at h
    simp only [Op.bytesLess, Bool.or_eq_false_iff, decide_eq_false_iff_not, Bool.and_eq_false_iff, beq_eq_false_iff_ne]
    rcases h with h | ⟨h, h2⟩
    · exact ⟨fun h' => UInt8.lt_irrefl _ (UInt8.lt_trans h h'), .inl (fun e => by subst e; exact UInt8.lt_irrefl _ h)⟩
    · subst h
      exact ⟨UInt8.lt_irrefl _, .inr (bl_asymm x y h2)⟩
theorem bl_total : ∀ x y : List UInt8, Op.bytesLess x y = false → x ≠ y → Op.bytesLess y x = true
  | [], [], _, h => absurd rfl h
  | [], _ :: _, h, _ => by simp [Op.bytesLess] at h
  | _ :: _, [], _, _ => rfl
  | a :: x, b :: y, h, hne => by
    simp only [Op.bytesLess, Bool.or_eq_false_iff, decide_eq_false_iff_not, Bool.and_eq_false_iff, beq_eq_false_iff_ne] at h
    simp only [Op.bytesLess, Bool.or_eq_true, decide_eq_true_eq, Bool.and_eq_true, beq_iff_eq]
    by_cases e : a = b
    · subst e
      exact .inr ⟨rfl, bl_total x y (h.2.resolve_left (fun h' => h' rfl)) (fun e => hne (by rw [e]))⟩
    · exact .inl (UInt8.lt_of_le_of_ne (UInt8.not_lt.1 h.1) (fun e' => e e'.symm))
theorem bl_trans : ∀ x y z : List UInt8, Op.bytesLess x y = true → Op.bytesLess y z = true → Op.bytesLess x z = true
  | _, [], _, h, _ => by cases ‹List UInt8› <;> simp [Op.bytesLess] at h
  | _, _ :: _, [], _, h => by simp [Op.bytesLess] at h
  | [], _ :: _, _ :: _, _, _ => rfl
  | a :: x, b :: y, c :: z, h, h2 => by
    simp only [Op.bytesLess, Bool.or_eq_true, decide_eq_true_eq, Bool.and_eq_true, beq_iff_eq] at h h2 ⊢
    rcases h with h | ⟨rfl, h⟩
    · rcases h2 with h2 | ⟨rfl, h2⟩
      · exact .inl (UInt8.lt_trans h h2)
      · exact .inl h
    · rcases h2 with h2 | ⟨rfl, h2⟩
      · exact .inl h2
      · exact .inr ⟨rfl, bl_trans x y z h h2⟩

theorem cmpS_lt {a b : ByteArray} (h : Op.bytesLess a.toList b.toList = true) : cmpS a b = -1 := by unfold cmpS; rw [if_pos h]
theorem cmpS_same {a b : ByteArray} (h : a.toList = b.toList) : cmpS a b = 0 := by unfold cmpS; simp [h, bl_irrefl]
theorem cmpS_gt {a b : ByteArray} (h : Op.bytesLess b.toList a.toList = true) : cmpS a b = 1 := by
  unfold cmpS
  have h1 := bl_asymm _ _ h
  have h2 : a.toList ≠ b.toList := fun e => by rw [e, bl_irrefl] at h; cases h
  simp [h1, h2]
theorem cmpS_cases (a b : ByteArray) : (Op.bytesLess a.toList b.toList = true ∧ cmpS a b = -1 ∧ cmpS b a = 1) ∨ (a.toList = b.toList ∧ cmpS a b = 0 ∧ cmpS b a = 0) ∨ (Op.bytesLess b.toList a.toList = true ∧ cmpS a b = 1 ∧ cmpS b a = -1) := by
  by_cases h : Op.bytesLess a.toList b.toList = true
  · exact .inl ⟨h, cmpS_lt h, cmpS_gt h⟩
  · by_cases e : a.toList = b.toList
    · exact .inr (.inl ⟨e, cmpS_same e, cmpS_same e.symm⟩)
    · have h' := bl_total _ _ (by simpa using h) e
      exact .inr (.inr ⟨h', cmpS_gt h', cmpS_lt h'⟩)
theorem cmpS_neg (a b : ByteArray) : cmpS a b = -cmpS b a := by
  rcases cmpS_cases a b with ⟨_, h1, h2⟩ | ⟨_, h1, h2⟩ | ⟨_, h1, h2⟩ <;> omega
theorem cmpS_zero (a b : ByteArray) : cmpS a b = 0 ↔ a.toList = b.toList := by
  rcases cmpS_cases a b with ⟨h, h1, h2⟩ | ⟨h, h1, h2⟩ | ⟨h, h1, h2⟩
  · exact ⟨fun e => by omega, fun e => by rw [e, bl_irrefl] at h; cases h⟩
  · exact ⟨fun _ => h, fun _ => h1⟩
  · exact ⟨fun e => by omega, fun e => by rw [e, bl_irrefl] at h; cases h⟩
theorem cmpS_trans (a b c : ByteArray) (h1 : cmpS a b ≤ 0) (h2 : cmpS b c ≤ 0) : cmpS a c ≤ 0 := by
  rcases cmpS_cases a b with ⟨p, q, _⟩ | ⟨p, q, _⟩ | ⟨p, q, _⟩
  · rcases cmpS_cases b c with ⟨p', q', _⟩ | ⟨p', q', _⟩ | ⟨p', q', _⟩
    · rw [cmpS_lt (bl_trans _ _ _ p p')]; omega
    · rw [p'] at p; rw [cmpS_lt p]; omega
    · omega
  · rcases cmpS_cases b c with ⟨p', q', _⟩ | ⟨p', q', _⟩ | ⟨p', q', _⟩
    · rw [← p] at p'; rw [cmpS_lt p']; omega
    · rw [cmpS_same (p.trans p')]; omega
    · omega
  · omega

section
variable (k1 n1 : Int) (t1 : ByteArray) (k2 n2 : Int) (t2 : ByteArray) (k3 n3 : Int) (t3 : ByteArray)
theorem cmpV_lex : cmpV k1 n1 t1 k2 n2 t2 = lexI (cmpI k1 k2) (lexI (cmpI n1 n2) (cmpS t1 t2)) := rfl
theorem cmpV_neg : cmpV k1 n1 t1 k2 n2 t2 = -cmpV k2 n2 t2 k1 n1 t1 := by
  rw [cmpV_lex, cmpV_lex, cmpI_neg k1 k2, cmpI_neg n1 n2, cmpS_neg t1 t2, lexI_neg, lexI_neg]
theorem cmpV_zero : cmpV k1 n1 t1 k2 n2 t2 = 0 ↔ k1 = k2 ∧ n1 = n2 ∧ t1.toList = t2.toList := by
  rw [cmpV_lex, lexI_zero, lexI_zero, cmpI_zero, cmpI_zero, cmpS_zero]
theorem cmpV_trans (h1 : cmpV k1 n1 t1 k2 n2 t2 ≤ 0) (h2 : cmpV k2 n2 t2 k3 n3 t3 ≤ 0) : cmpV k1 n1 t1 k3 n3 t3 ≤ 0 := by
  rw [cmpV_lex] at h1 h2 ⊢
  exact lexI_trans (cmpI_trans _ _ _) (cmpI_trans' _ _ _) (lexI_trans (cmpI_trans _ _ _) (cmpI_trans' _ _ _) (cmpS_trans _ _ _)) h1 h2
end
theorem cell3 (w : World) (o1 o2 : Obj) (C : Array Value) (i : Nat) (v : Value) (h : C[i]? = some v) :
    (((w.alloc o1).alloc o2).alloc (.cells C 3)).drew.cell? ⟨w.heap.size + 1 + 1, i, none⟩ = some v := by
  go_simp
set_option maxHeartbeats 1000000 in
theorem valueOrder_any (k1 n1 : Int) (t1 : ByteArray) (k2 n2 : Int) (t2 : ByteArray) (w : World) :
    Calls Try.prog 25 #[VV k1 n1 t1, VV k2 n2 t2] w fun e w' => e = .returned (.int .i64 (cmpV k1 n1 t1 k2 n2 t2)) ∧ Below w.heap.size w w' := by
  go_enter Try.func25, Try.ntmps25
  go_wp2
  go_region_held3 (fun w' => w'.cell? ⟨w.heap.size, 0, none⟩ = some (.int .i64 k1) ∧ w'.cell? ⟨w.heap.size, 1, none⟩ = some (.int .i64 n1) ∧ w'.cell? ⟨w.heap.size, 2, none⟩ = some (.string t1) ∧ w'.cell? ⟨w.heap.size + 1, 0, none⟩ = some (.int .i64 k2) ∧ w'.cell? ⟨w.heap.size + 1, 1, none⟩ = some (.int .i64 n2) ∧ w'.cell? ⟨w.heap.size + 1, 2, none⟩ = some (.string t2)) (go_simp) (first | (go_at_call 40; refine (cmpInt_any _ _ _).mono ?_; rintro e w' ⟨rfl, rfl⟩) | (go_at_call 41; refine (cmpStr_any _ _ _).mono ?_; rintro e w' ⟨rfl, rfl⟩) | (go_at_call 39; refine (cmpOr_any _ (cmpI k1 k2) (cmpI n1 n2) (cmpS t1 t2) _ ?_ ?_ ?_).mono ?_; exact cell3 _ _ _ _ _ _ rfl; exact cell3 _ _ _ _ _ _ rfl; exact cell3 _ _ _ _ _ _ rfl; rintro e w' ⟨rfl, rfl⟩))
  go_wp2
  go_ret
  exact ⟨ret_int' cmpV_or.symm, ((((Below.refl _ _).alloc (Nat.le_refl _) _).alloc (by simp) _).alloc (by simp; omega) _).drew⟩

end Go.Proofs.Ythdilgggjkekaaa.R
