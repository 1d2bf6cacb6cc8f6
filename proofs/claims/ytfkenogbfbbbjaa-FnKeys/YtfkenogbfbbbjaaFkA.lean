/- Lists of numbers in the order of their first difference, and codes that keep an order whatever follows: plain mathematics. -/
import Derived.Below
namespace Go.Proofs.Ytfkenogbfbbbjaa

/-- The first list is ahead: by the first number that differs, a beginning ahead. -/
def lessI : List Int → List Int → Bool
  | _, [] => false
  | [], _ :: _ => true
  | a :: x, b :: y => decide (a < b) || (decide (a = b) && lessI x y)
/-- A is ahead of B, whatever follows. -/
def Ahead (A B : List Int) : Prop := ∀ x y, lessI (A ++ x) (B ++ y) = true ∧ lessI (B ++ y) (A ++ x) = false
theorem less_lt {a b : Int} (h : a < b) (x y : List Int) : lessI (a :: x) (b :: y) = true ∧ lessI (b :: y) (a :: x) = false := by
  unfold lessI
  rw [decide_eq_true h, decide_eq_false (show ¬ b < a by omega), decide_eq_false (show ¬ b = a by omega)]
  exact ⟨rfl, rfl⟩
theorem less_eq (a : Int) (x y : List Int) : lessI (a :: x) (a :: y) = lessI x y := by
  show (decide (a < a) || (decide (a = a) && lessI x y)) = _
  rw [decide_eq_false (show ¬ a < a by omega), decide_eq_true (rfl : a = a)]
  rfl
theorem less_irr : ∀ x : List Int, lessI x x = false
  | [] => rfl
  | a :: x => by rw [less_eq]; exact less_irr x
theorem Ahead.head {a b : Int} (h : a < b) (A B : List Int) : Ahead (a :: A) (b :: B) := fun x y => less_lt h (A ++ x) (B ++ y)
theorem Ahead.cons {A B : List Int} (h : Ahead A B) (a : Int) : Ahead (a :: A) (a :: B) := fun x y => by
  show lessI (a :: (A ++ x)) (a :: (B ++ y)) = true ∧ lessI (a :: (B ++ y)) (a :: (A ++ x)) = false
  rw [less_eq, less_eq]
  exact h x y
theorem Ahead.after {A B : List Int} (h : Ahead A B) : ∀ C : List Int, Ahead (C ++ A) (C ++ B)
  | [] => h
  | c :: C => (h.after C).cons c

/-- Digits of one length: their number tells which are ahead. -/
def val : List Int → Int
  | [] => 0
  | a :: l => a * 256 ^ l.length + val l
theorem val_bd : ∀ l : List Int, (∀ x ∈ l, 0 ≤ x ∧ x ≤ 255) → 0 ≤ val l ∧ val l < 256 ^ l.length
  | [], _ => by simp [val]
  | a :: l, h => by
    obtain ⟨h0, h1⟩ := val_bd l (fun x hx => h x (List.mem_cons_of_mem _ hx))
    obtain ⟨a0, a1⟩ := h a (List.mem_cons_self ..)
    have hp : (0 : Int) < 256 ^ l.length := Int.pow_pos (by omega)
    have e : (256 : Int) ^ (l.length + 1) = 256 ^ l.length * 256 := Int.pow_succ _ _
    unfold val
    rw [List.length_cons, e]
    have p1 : 0 ≤ a * 256 ^ l.length := Int.mul_nonneg a0 (Int.le_of_lt hp)
    have p2 : a * 256 ^ l.length ≤ 255 * 256 ^ l.length := Int.mul_le_mul_of_nonneg_right a1 (Int.le_of_lt hp)
    omega
theorem digits_cmp : ∀ A B : List Int, A.length = B.length → (∀ x ∈ A, 0 ≤ x ∧ x ≤ 255) → (∀ x ∈ B, 0 ≤ x ∧ x ≤ 255) → (val A = val B → A = B) ∧ (val A < val B → Ahead A B)
  | [], [], _, _, _ => ⟨fun _ => rfl, fun h => by simp [val] at h⟩
  | [], b :: B, h, _, _ => by simp at h
  | a :: A, [], h, _, _ => by simp at h
  | a :: A, b :: B, h, hA, hB => by
    have hl : A.length = B.length := by simpa using h
    have hA' : ∀ x ∈ A, 0 ≤ x ∧ x ≤ 255 := fun x hx => hA x (List.mem_cons_of_mem _ hx)
    have hB' : ∀ x ∈ B, 0 ≤ x ∧ x ≤ 255 := fun x hx => hB x (List.mem_cons_of_mem _ hx)
    obtain ⟨i1, i2⟩ := digits_cmp A B hl hA' hB'
    obtain ⟨u0, u1⟩ := val_bd A hA'
    obtain ⟨v0, v1⟩ := val_bd B hB'
    rw [hl] at u1
    have hp : (0 : Int) < 256 ^ B.length := Int.pow_pos (by omega)
    have e1 : val (a :: A) = a * 256 ^ B.length + val A := by rw [← hl]; rfl
    have e2 : val (b :: B) = b * 256 ^ B.length + val B := rfl
    rw [e1, e2]
    generalize (256 : Int) ^ B.length = P at *
    rcases Int.lt_trichotomy a b with hab | hab | hab
    · have q1 : (a + 1) * P ≤ b * P := Int.mul_le_mul_of_nonneg_right (by omega) (Int.le_of_lt hp)
      rw [Int.add_mul, Int.one_mul] at q1
      exact ⟨fun h => by omega, fun _ => Ahead.head hab A B⟩
    · subst hab
      exact ⟨fun h => by rw [i1 (by omega)], fun h => (i2 (by omega)).cons a⟩
    · have q1 : (b + 1) * P ≤ a * P := Int.mul_le_mul_of_nonneg_right (by omega) (Int.le_of_lt hp)
      rw [Int.add_mul, Int.one_mul] at q1
      exact ⟨fun h => by omega, fun h => by omega⟩

/-- A text's code: a nought is followed by 255, the end is 0 and 1. -/
def escI : List Int → List Int
  | [] => [0, 1]
  | b :: l => if b = 0 then 0 :: 255 :: escI l else b :: escI l
theorem esc_cmp : ∀ A B : List Int, (∀ x ∈ A, 0 ≤ x ∧ x ≤ 255) → (∀ x ∈ B, 0 ≤ x ∧ x ≤ 255) → A = B ∨ (lessI A B = true ∧ Ahead (escI A) (escI B)) ∨ (lessI B A = true ∧ Ahead (escI B) (escI A))
  | [], [], _, _ => .inl rfl
  | [], b :: B, _, hB => by
    have hb := hB b (List.mem_cons_self ..)
    refine .inr (.inl ⟨rfl, ?_⟩)
    show Ahead [0, 1] (if b = 0 then 0 :: 255 :: escI B else b :: escI B)
    split
    · exact (Ahead.head (show (1 : Int) < 255 by omega) [] _).cons 0
    · exact Ahead.head (by omega) _ _
  | a :: A, [], hA, _ => by
    have ha := hA a (List.mem_cons_self ..)
    refine .inr (.inr ⟨rfl, ?_⟩)
    show Ahead [0, 1] (if a = 0 then 0 :: 255 :: escI A else a :: escI A)
    split
    · exact (Ahead.head (show (1 : Int) < 255 by omega) [] _).cons 0
    · exact Ahead.head (by omega) _ _
  | a :: A, b :: B, hA, hB => by
    have ha := hA a (List.mem_cons_self ..)
    have hb := hB b (List.mem_cons_self ..)
    have ih := esc_cmp A B (fun x hx => hA x (List.mem_cons_of_mem _ hx)) (fun x hx => hB x (List.mem_cons_of_mem _ hx))
    have lt : ∀ (a b : Int) (A B : List Int), 0 ≤ a → a < b → Ahead (escI (a :: A)) (escI (b :: B)) := fun a b A B h0 h => by
      unfold escI
      rw [if_neg (show ¬ b = 0 by omega)]
      split
      · exact Ahead.head (by omega) _ _
      · exact Ahead.head h _ _
    rcases Int.lt_trichotomy a b with hab | hab | hab
    · exact .inr (.inl ⟨(less_lt hab A B).1, lt a b A B ha.1 hab⟩)
    · subst hab
      have up : ∀ {A B : List Int}, Ahead (escI A) (escI B) → Ahead (escI (a :: A)) (escI (a :: B)) := fun {A B} h => by
        show Ahead (if a = 0 then 0 :: 255 :: escI A else a :: escI A) (if a = 0 then 0 :: 255 :: escI B else a :: escI B)
        split
        · exact (h.cons 255).cons 0
        · exact h.cons a
      rcases ih with ih | ⟨i1, i2⟩ | ⟨i1, i2⟩
      · exact .inl (by rw [ih])
      · exact .inr (.inl ⟨by rw [less_eq]; exact i1, up i2⟩)
      · exact .inr (.inr ⟨by rw [less_eq]; exact i1, up i2⟩)
    · exact .inr (.inr ⟨(less_lt hab B A).1, lt b a B A hb.1 hab⟩)
end Go.Proofs.Ytfkenogbfbbbjaa
