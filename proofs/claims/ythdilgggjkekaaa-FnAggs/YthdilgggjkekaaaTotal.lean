/- The order of values is one order: plain mathematics. -/
import Derived.Test.YthdilgggjkekaaaOrder
namespace Go.Proofs.Ythdilgggjkekaaa
open Go.RowKit

def lexI (x y : Int) : Int := if x ≠ 0 then x else y
theorem lexI_neg (x y : Int) : lexI (-x) (-y) = -lexI x y := by unfold lexI; split <;> split <;> omega
theorem lexI_zero (x y : Int) : lexI x y = 0 ↔ x = 0 ∧ y = 0 := by unfold lexI; split <;> omega
theorem lexI_trans {x12 x23 x13 y12 y23 y13 : Int} (hx : x12 ≤ 0 → x23 ≤ 0 → x13 ≤ 0) (hx' : x12 ≤ 0 → x23 ≤ 0 → x13 = 0 → x12 = 0 ∧ x23 = 0) (hy : y12 ≤ 0 → y23 ≤ 0 → y13 ≤ 0) :
    lexI x12 y12 ≤ 0 → lexI x23 y23 ≤ 0 → lexI x13 y13 ≤ 0 := by
  unfold lexI
  intro h1 h2
  by_cases e12 : x12 = 0 <;> by_cases e23 : x23 = 0 <;> by_cases e13 : x13 = 0 <;> simp [e12, e23, e13] at h1 h2 ⊢ <;> omega

theorem cmpI_neg (a b : Int) : cmpI a b = -cmpI b a := by unfold cmpI; repeat' split <;> omega
theorem cmpI_zero (a b : Int) : cmpI a b = 0 ↔ a = b := by unfold cmpI; repeat' split <;> omega
theorem cmpI_trans (a b c : Int) : cmpI a b ≤ 0 → cmpI b c ≤ 0 → cmpI a c ≤ 0 := by unfold cmpI; repeat' split <;> omega
theorem cmpI_trans' (a b c : Int) : cmpI a b ≤ 0 → cmpI b c ≤ 0 → cmpI a c = 0 → cmpI a b = 0 ∧ cmpI b c = 0 := by unfold cmpI; repeat' split <;> omega

theorem bl_irrefl : ∀ x : List UInt8, Op.bytesLess x x = false
  | [] => rfl
  | a :: x => by simp [Op.bytesLess, bl_irrefl x]
theorem bl_asymm : ∀ x y : List UInt8, Op.bytesLess x y = true → Op.bytesLess y x = false
  | [], [], h => by simp [Op.bytesLess] at h
  | [], _ :: _, _ => rfl
  | _ :: _, [], h => by simp [Op.bytesLess] at h
  | a :: x, b :: y, h => by
    simp only [Op.bytesLess, Bool.or_eq_true, decide_eq_true_eq, Bool.and_eq_true, beq_iff_eq] at h
    simp only [Op.bytesLess, Bool.or_eq_false_iff, decide_eq_false_iff_not, Bool.and_eq_false_iff, beq_eq_false_iff_ne]
    rcases h with h | ⟨h, h2⟩
    · exact ⟨fun h' => UInt8.lt_irrefl _ (UInt8.lt_trans h h'), .inl (fun e => by subst e; exact UInt8.lt_irrefl _ h)⟩
    · subst h
      exact ⟨UInt8.lt_irrefl _, .inr (bl_asymm x y h2)⟩
theorem bl_total : ∀ x y : List UInt8, Op.bytesLess x y = false → x ≠ y → Op.bytesLess y x = true
  | [], [], _, h => absurd rfl h
  | [], _ :: _, h, _ => by simp [Op.bytesLess] at h
  | _ :: _, [], _, _ => rfl
  | a :: x, b :: y, h, hne => by
    simp only [Op.bytesLess, Bool.or_eq_false_iff, decide_eq_false_iff_not, Bool.and_eq_false_iff, beq_eq_false_iff_ne] at h
    simp only [Op.bytesLess, Bool.or_eq_true, decide_eq_true_eq, Bool.and_eq_true, beq_iff_eq]
    by_cases e : a = b
    · subst e
      exact .inr ⟨rfl, bl_total x y (h.2.resolve_left (fun h' => h' rfl)) (fun e => hne (by rw [e]))⟩
    · exact .inl (UInt8.lt_of_le_of_ne (UInt8.not_lt.1 h.1) (fun e' => e e'.symm))
theorem bl_trans : ∀ x y z : List UInt8, Op.bytesLess x y = true → Op.bytesLess y z = true → Op.bytesLess x z = true
  | _, [], _, h, _ => by cases ‹List UInt8› <;> simp [Op.bytesLess] at h
  | _, _ :: _, [], _, h => by simp [Op.bytesLess] at h
  | [], _ :: _, _ :: _, _, _ => rfl
  | a :: x, b :: y, c :: z, h, h2 => by
    simp only [Op.bytesLess, Bool.or_eq_true, decide_eq_true_eq, Bool.and_eq_true, beq_iff_eq] at h h2 ⊢
    rcases h with h | ⟨rfl, h⟩
    · rcases h2 with h2 | ⟨rfl, h2⟩
      · exact .inl (UInt8.lt_trans h h2)
      · exact .inl h
    · rcases h2 with h2 | ⟨rfl, h2⟩
      · exact .inl h2
      · exact .inr ⟨rfl, bl_trans x y z h h2⟩

theorem cmpS_lt {a b : ByteArray} (h : Op.bytesLess a.toList b.toList = true) : cmpS a b = -1 := by unfold cmpS; rw [if_pos h]
theorem cmpS_same {a b : ByteArray} (h : a.toList = b.toList) : cmpS a b = 0 := by unfold cmpS; simp [h, bl_irrefl]
theorem cmpS_gt {a b : ByteArray} (h : Op.bytesLess b.toList a.toList = true) : cmpS a b = 1 := by
  unfold cmpS
  have h1 := bl_asymm _ _ h
  have h2 : a.toList ≠ b.toList := fun e => by rw [e, bl_irrefl] at h; cases h
  simp [h1, h2]
theorem cmpS_cases (a b : ByteArray) : (Op.bytesLess a.toList b.toList = true ∧ cmpS a b = -1 ∧ cmpS b a = 1) ∨ (a.toList = b.toList ∧ cmpS a b = 0 ∧ cmpS b a = 0) ∨ (Op.bytesLess b.toList a.toList = true ∧ cmpS a b = 1 ∧ cmpS b a = -1) := by
  by_cases h : Op.bytesLess a.toList b.toList = true
  · exact .inl ⟨h, cmpS_lt h, cmpS_gt h⟩
  · by_cases e : a.toList = b.toList
    · exact .inr (.inl ⟨e, cmpS_same e, cmpS_same e.symm⟩)
    · have h' := bl_total _ _ (by simpa using h) e
      exact .inr (.inr ⟨h', cmpS_gt h', cmpS_lt h'⟩)
theorem cmpS_neg (a b : ByteArray) : cmpS a b = -cmpS b a := by
  rcases cmpS_cases a b with ⟨_, h1, h2⟩ | ⟨_, h1, h2⟩ | ⟨_, h1, h2⟩ <;> omega
theorem cmpS_zero (a b : ByteArray) : cmpS a b = 0 ↔ a.toList = b.toList := by
  rcases cmpS_cases a b with ⟨h, h1, h2⟩ | ⟨h, h1, h2⟩ | ⟨h, h1, h2⟩
  · exact ⟨fun e => by omega, fun e => by rw [e, bl_irrefl] at h; cases h⟩
  · exact ⟨fun _ => h, fun _ => h1⟩
  · exact ⟨fun e => by omega, fun e => by rw [e, bl_irrefl] at h; cases h⟩
theorem cmpS_trans (a b c : ByteArray) (h1 : cmpS a b ≤ 0) (h2 : cmpS b c ≤ 0) : cmpS a c ≤ 0 := by
  rcases cmpS_cases a b with ⟨p, q, _⟩ | ⟨p, q, _⟩ | ⟨p, q, _⟩
  · rcases cmpS_cases b c with ⟨p', q', _⟩ | ⟨p', q', _⟩ | ⟨p', q', _⟩
    · rw [cmpS_lt (bl_trans _ _ _ p p')]; omega
    · rw [p'] at p; rw [cmpS_lt p]; omega
    · omega
  · rcases cmpS_cases b c with ⟨p', q', _⟩ | ⟨p', q', _⟩ | ⟨p', q', _⟩
    · rw [← p] at p'; rw [cmpS_lt p']; omega
    · rw [cmpS_same (p.trans p')]; omega
    · omega
  · omega

section
variable (k1 n1 : Int) (t1 : ByteArray) (k2 n2 : Int) (t2 : ByteArray) (k3 n3 : Int) (t3 : ByteArray)
theorem cmpV_lex : cmpV k1 n1 t1 k2 n2 t2 = lexI (cmpI k1 k2) (lexI (cmpI n1 n2) (cmpS t1 t2)) := rfl
theorem cmpV_neg : cmpV k1 n1 t1 k2 n2 t2 = -cmpV k2 n2 t2 k1 n1 t1 := by
  rw [cmpV_lex, cmpV_lex, cmpI_neg k1 k2, cmpI_neg n1 n2, cmpS_neg t1 t2, lexI_neg, lexI_neg]
theorem cmpV_zero : cmpV k1 n1 t1 k2 n2 t2 = 0 ↔ k1 = k2 ∧ n1 = n2 ∧ t1.toList = t2.toList := by
  rw [cmpV_lex, lexI_zero, lexI_zero, cmpI_zero, cmpI_zero, cmpS_zero]
theorem cmpV_trans (h1 : cmpV k1 n1 t1 k2 n2 t2 ≤ 0) (h2 : cmpV k2 n2 t2 k3 n3 t3 ≤ 0) : cmpV k1 n1 t1 k3 n3 t3 ≤ 0 := by
  rw [cmpV_lex] at h1 h2 ⊢
  exact lexI_trans (cmpI_trans _ _ _) (cmpI_trans' _ _ _) (lexI_trans (cmpI_trans _ _ _) (cmpI_trans' _ _ _) (cmpS_trans _ _ _)) h1 h2
end
end Go.Proofs.Ythdilgggjkekaaa
