/- Key bytes rise as rows do: plain mathematics. -/
import Derived.Test.YtfkenogbfbbbjaaFkA
import Derived.Test.YtfkenogbfbbbjaaKeyC
import Derived.Test.YtfkenogbfbbbjaaTotal
import Derived.Test.YtfkenogbfbbbjaaRowsD
namespace Go.Proofs.Ytfkenogbfbbbjaa
open Go.RowKit

def bytesI (t : ByteArray) : List Int := t.data.toList.map fun b => (b.toNat : Int)
theorem bytesI_bd (t : ByteArray) : ∀ x ∈ bytesI t, 0 ≤ x ∧ x ≤ 255 := fun x hx => by
  unfold bytesI at hx
  obtain ⟨b, _, rfl⟩ := List.mem_map.1 hx
  have := b.toNat_lt
  omega
def intI (n : Int) : List Int := [uX n / 72057594037927936 % 256, uX n / 281474976710656 % 256, uX n / 1099511627776 % 256, uX n / 4294967296 % 256, uX n / 16777216 % 256, uX n / 65536 % 256, uX n / 256 % 256, uX n % 256]
/-- The bytes of a value in a key, as numbers. -/
def encC (v : V3) : List Int := v.1 :: (if v.1 = 1 then [v.2.1] else if v.1 = 2 then intI v.2.1 else if v.1 = 3 ∨ v.1 = 4 then escI (bytesI v.2.2) else [])
def encR (vs : List V3) : List Int := vs.flatMap encC
theorem esc_is (l : List UInt8) : l.flatMap esc1 ++ [.int .u8 0, .int .u8 1] = (escI (l.map fun b => (b.toNat : Int))).map (Value.int .u8) := by
  induction l with
  | nil => rfl
  | cons b l ih =>
    rw [List.flatMap_cons, List.append_assoc, ih, List.map_cons]
    by_cases hb : b = 0
    · subst hb
      rfl
    · have hb' : ¬ ((b.toNat : Int) = 0) := fun h => hb (UInt8.toNat_inj.1 (by simpa using h))
      unfold esc1
      rw [if_neg hb]
      show _ = List.map _ (if (b.toNat : Int) = 0 then _ else _)
      rw [if_neg hb']
      rfl
theorem encK_is (v : V3) : encK v = (encC v).map (Value.int .u8) := by
  unfold encK encC
  rw [List.map_cons]
  congr 1
  split
  · rfl
  split
  · rfl
  split
  · unfold escT escK
    rw [List.take_of_length_le (Nat.le_of_eq (by show v.2.2.data.toList.length = v.2.2.data.size; simp))]
    exact esc_is _
  · rfl
theorem encKey_is (vs : List V3) : encKey vs = (encR vs).map (Value.int .u8) := by
  unfold encKey encR
  induction vs with
  | nil => rfl
  | cons v vs ih => rw [List.flatMap_cons, List.flatMap_cons, List.map_append, ih, encK_is]
theorem less_bytes : ∀ x y : List UInt8, lessI (x.map fun b => (b.toNat : Int)) (y.map fun b => (b.toNat : Int)) = Op.bytesLess x y
  | _, [] => by simp [lessI, Op.bytesLess]
  | [], b :: y => rfl
  | a :: x, b :: y => by
    have ih := less_bytes x y
    rw [List.map_cons, List.map_cons]
    unfold lessI Op.bytesLess
    rw [ih]
    have e1 : decide ((a.toNat : Int) < (b.toNat : Int)) = decide (a < b) := by
      rw [decide_eq_decide, UInt8.lt_iff_toNat_lt]
      omega
    have e2 : decide ((a.toNat : Int) = (b.toNat : Int)) = (a == b) := by
      by_cases h : a = b
      · subst h; simp
      · have : ¬ ((a.toNat : Int) = (b.toNat : Int)) := fun h' => h (UInt8.toNat_inj.1 (by omega))
        rw [decide_eq_false this]
        simp [h]
    rw [e1, e2]
theorem intI_bd (n : Int) : ∀ x ∈ intI n, 0 ≤ x ∧ x ≤ 255 := fun x hx => by
  unfold intI at hx
  simp only [List.mem_cons, List.not_mem_nil, or_false] at hx
  rcases hx with rfl | rfl | rfl | rfl | rfl | rfl | rfl | rfl <;> omega
/-- A number of 64 bits. -/
def In64 (n : Int) : Prop := -9223372036854775808 ≤ n ∧ n ≤ 9223372036854775807
theorem val_int (n : Int) (h : In64 n) : val (intI n) = n + 9223372036854775808 := by
  have hu := uX_eq n h.1 h.2
  obtain ⟨h1, h2⟩ := h
  unfold intI
  rw [hu]
  generalize hm : n + 9223372036854775808 = u
  have u0 : 0 ≤ u := by omega
  have u1 : u < 18446744073709551616 := by omega
  clear hu hm h1 h2
  simp only [val, List.length_cons, List.length_nil]
  have p7 : (256 : Int) ^ (0 + 1 + 1 + 1 + 1 + 1 + 1 + 1) = 72057594037927936 := by decide
  have p6 : (256 : Int) ^ (0 + 1 + 1 + 1 + 1 + 1 + 1) = 281474976710656 := by decide
  have p5 : (256 : Int) ^ (0 + 1 + 1 + 1 + 1 + 1) = 1099511627776 := by decide
  have p4 : (256 : Int) ^ (0 + 1 + 1 + 1 + 1) = 4294967296 := by decide
  have p3 : (256 : Int) ^ (0 + 1 + 1 + 1) = 16777216 := by decide
  have p2 : (256 : Int) ^ (0 + 1 + 1) = 65536 := by decide
  have p1 : (256 : Int) ^ (0 + 1) = 256 := by decide
  have p0 : (256 : Int) ^ 0 = 1 := by decide
  rw [p7, p6, p5, p4, p3, p2, p1, p0]
  omega
theorem int_cmp {n m : Int} (hn : In64 n) (hm : In64 m) (h : n < m) : Ahead (intI n) (intI m) :=
  (digits_cmp (intI n) (intI m) rfl (intI_bd n) (intI_bd m)).2 (by rw [val_int n hn, val_int m hm]; omega)
/-- A right value of 64 bits. -/
def Right (v : V3) : Prop := okV3 v = true ∧ In64 v.2.1
theorem toList_inj {a b : ByteArray} (h : a.toList = b.toList) : a = b := by
  rw [ByteArray.toList_eq, ByteArray.toList_eq] at h
  exact ByteArray.ext (Array.toList_inj.1 h)
theorem ok_split {k n : Int} {t : ByteArray} (h : okV k n t = true) : (k = 0 ∧ n = 0 ∧ t.toList = []) ∨ (k = 1 ∧ 0 ≤ n ∧ n ≤ 1 ∧ t.toList = []) ∨ (k = 2 ∧ t.toList = []) ∨ ((k = 3 ∨ k = 4) ∧ n = 0) := by
  unfold okV at h
  split at h
  · rename_i hk
    rw [Bool.and_eq_true] at h
    exact .inl ⟨hk, eq_of_beq h.1, List.isEmpty_iff.1 h.2⟩
  split at h
  · rename_i hk
    rw [Bool.and_eq_true] at h
    have := of_decide_eq_true h.1
    exact .inr (.inl ⟨hk, this.1, this.2, List.isEmpty_iff.1 h.2⟩)
  split at h
  · rename_i hk
    exact .inr (.inr (.inl ⟨hk, List.isEmpty_iff.1 h⟩))
  split at h
  · rename_i hk
    rw [Bool.and_eq_true] at h
    exact .inr (.inr (.inr ⟨hk, eq_of_beq h.1⟩))
  · cases h
theorem kI_lt {a b : Int} (h : a < b) : cmpI a b = -1 := by unfold cmpI; rw [if_pos h]
theorem kI_gt {a b : Int} (h : b < a) : cmpI a b = 1 := by unfold cmpI; rw [if_neg (by omega), if_pos h]
theorem kI_same (a : Int) : cmpI a a = 0 := (cmpI_zero a a).2 rfl

theorem nums_inj : ∀ x y : List UInt8, (x.map fun b => (b.toNat : Int)) = (y.map fun b => (b.toNat : Int)) → x = y
  | [], [], _ => rfl
  | [], _ :: _, h => by cases h
  | _ :: _, [], h => by cases h
  | a :: x, b :: y, h => by
    rw [List.map_cons, List.map_cons] at h
    injection h with h1 h2
    rw [UInt8.toNat_inj.1 (show a.toNat = b.toNat by omega), nums_inj x y h2]

theorem cell_cmp (v u : V3) (hv : Right v) (hu : Right u) : v = u ∨ (cmp3 v u < 0 ∧ Ahead (encC v) (encC u)) ∨ (0 < cmp3 v u ∧ Ahead (encC u) (encC v)) := by
  obtain ⟨k, n, t⟩ := v
  obtain ⟨k', n', t'⟩ := u
  obtain ⟨ov, iv⟩ := hv
  obtain ⟨ou, iu⟩ := hu
  have ov : okV k n t = true := ov
  have ou : okV k' n' t' = true := ou
  have iv : In64 n := iv
  have iu : In64 n' := iu
  have ec : cmp3 (k, n, t) (k', n', t') = if cmpI k k' ≠ 0 then cmpI k k' else if cmpI n n' ≠ 0 then cmpI n n' else cmpS t t' := rfl
  rcases Int.lt_trichotomy k k' with hk | hk | hk
  · refine .inr (.inl ⟨?_, Ahead.head hk _ _⟩)
    rw [ec, if_pos (by rw [kI_lt hk]; decide), kI_lt hk]
    decide
  · subst hk
    rw [ec, if_neg (by rw [kI_same]; decide)]
    have sv := ok_split ov
    have su := ok_split ou
    rcases sv with ⟨rfl, a2, a3⟩ | ⟨rfl, a2, a3, a4⟩ | ⟨rfl, a2⟩ | ⟨a1, a2⟩
    · rcases su with ⟨_, b2, b3⟩ | ⟨b1, _⟩ | ⟨b1, _⟩ | ⟨b1, _⟩
      · left
        rw [a2, b2, toList_inj (a3.trans b3.symm)]
      · omega
      · omega
      · omega
    · rcases su with ⟨b1, _⟩ | ⟨_, b2, b3, b4⟩ | ⟨b1, _⟩ | ⟨b1, _⟩
      · omega
      · have e1 : encC (1, n, t) = 1 :: [n] := by simp [encC]
        have e2 : encC (1, n', t') = 1 :: [n'] := by simp [encC]
        rw [e1, e2]
        have et := toList_inj (a4.trans b4.symm)
        rcases Int.lt_trichotomy n n' with hn | hn | hn
        · exact .inr (.inl ⟨by rw [if_pos (by rw [kI_lt hn]; decide), kI_lt hn]; decide, (Ahead.head hn [] []).cons 1⟩)
        · left; rw [hn, et]
        · exact .inr (.inr ⟨by rw [if_pos (by rw [kI_gt hn]; decide), kI_gt hn]; decide, (Ahead.head hn [] []).cons 1⟩)
      · omega
      · omega
    · rcases su with ⟨b1, _⟩ | ⟨b1, _⟩ | ⟨_, b2⟩ | ⟨b1, _⟩
      · omega
      · omega
      · have e1 : encC (2, n, t) = 2 :: intI n := by simp [encC]
        have e2 : encC (2, n', t') = 2 :: intI n' := by simp [encC]
        rw [e1, e2]
        have et := toList_inj (a2.trans b2.symm)
        rcases Int.lt_trichotomy n n' with hn | hn | hn
        · exact .inr (.inl ⟨by rw [if_pos (by rw [kI_lt hn]; decide), kI_lt hn]; decide, (int_cmp iv iu hn).cons 2⟩)
        · left; rw [hn, et]
        · exact .inr (.inr ⟨by rw [if_pos (by rw [kI_gt hn]; decide), kI_gt hn]; decide, (int_cmp iu iv hn).cons 2⟩)
      · omega
    · rcases su with ⟨b1, _⟩ | ⟨b1, _⟩ | ⟨b1, _⟩ | ⟨_, b2⟩
      · omega
      · omega
      · omega
      · subst a2 b2
        have e1 : encC (k, 0, t) = k :: escI (bytesI t) := by rcases a1 with rfl | rfl <;> simp [encC]
        have e2 : encC (k, 0, t') = k :: escI (bytesI t') := by rcases a1 with rfl | rfl <;> simp [encC]
        rw [e1, e2]
        rw [if_neg (by rw [kI_same]; decide)]
        rcases esc_cmp (bytesI t) (bytesI t') (bytesI_bd t) (bytesI_bd t') with h | ⟨h1, h2⟩ | ⟨h1, h2⟩
        · left
          have : t.toList = t'.toList := by
            rw [ByteArray.toList_eq, ByteArray.toList_eq]
            unfold bytesI at h
            exact nums_inj _ _ h
          rw [toList_inj this]
        · refine .inr (.inl ⟨?_, h2.cons k⟩)
          unfold bytesI at h1
          rw [less_bytes] at h1
          rw [cmpS_lt (by rw [ByteArray.toList_eq, ByteArray.toList_eq]; exact h1)]
          decide
        · refine .inr (.inr ⟨?_, h2.cons k⟩)
          unfold bytesI at h1
          rw [less_bytes] at h1
          rw [cmpS_gt (by rw [ByteArray.toList_eq, ByteArray.toList_eq]; exact h1)]
          decide
  · refine .inr (.inr ⟨?_, Ahead.head hk _ _⟩)
    rw [ec, if_pos (by rw [kI_gt hk]; decide), kI_gt hk]
    decide

theorem row_cmp : ∀ vs us : List V3, (∀ v ∈ vs, Right v) → (∀ v ∈ us, Right v) →
    (vs = us ∧ cmpRows vs us = 0) ∨ (cmpRows vs us < 0 ∧ lessI (encR vs) (encR us) = true ∧ lessI (encR us) (encR vs) = false) ∨ (0 < cmpRows vs us ∧ lessI (encR us) (encR vs) = true ∧ lessI (encR vs) (encR us) = false)
  | [], [], _, _ => .inl ⟨rfl, rfl⟩
  | [], u :: us, _, _ => .inr (.inl ⟨by show (-1 : Int) < 0; omega, rfl, rfl⟩)
  | v :: vs, [], _, _ => .inr (.inr ⟨by show (0 : Int) < 1; omega, rfl, rfl⟩)
  | v :: vs, u :: us, hv, hu => by
    have hc := cell_cmp v u (hv v (List.mem_cons_self ..)) (hu u (List.mem_cons_self ..))
    have er : cmpRows (v :: vs) (u :: us) = if cmp3 v u ≠ 0 then cmp3 v u else cmpRows vs us := rfl
    have e1 : encR (v :: vs) = encC v ++ encR vs := rfl
    have e2 : encR (u :: us) = encC u ++ encR us := rfl
    rw [er, e1, e2]
    rcases hc with rfl | ⟨h1, h2⟩ | ⟨h1, h2⟩
    · have hz : cmp3 v v = 0 := by unfold cmp3; exact (cmpV_zero _ _ _ _ _ _).2 ⟨rfl, rfl, rfl⟩
      rw [if_neg (by rw [hz]; decide)]
      have cancel : ∀ (C x y : List Int), lessI (C ++ x) (C ++ y) = lessI x y := fun C => by
        induction C with
        | nil => intro x y; rfl
        | cons c C ih => intro x y; rw [List.cons_append, List.cons_append, less_eq]; exact ih x y
      rw [cancel, cancel]
      rcases row_cmp vs us (fun x hx => hv x (List.mem_cons_of_mem _ hx)) (fun x hx => hu x (List.mem_cons_of_mem _ hx)) with ⟨h1, h2⟩ | h | h
      · exact .inl ⟨by rw [h1], h2⟩
      · exact .inr (.inl h)
      · exact .inr (.inr h)
    · rw [if_pos (by omega)]
      exact .inr (.inl ⟨h1, h2 _ _⟩)
    · rw [if_pos (by omega)]
      exact .inr (.inr ⟨h1, h2 _ _⟩)
end Go.Proofs.Ytfkenogbfbbbjaa
