/- A literal as both sides read it: plain mathematics. -/
import Derived.Test.YtipddjgoohnalaaRvG
namespace Go.Proofs.Ytipddjgoohnalaa
open Go.RowKit

theorem numV_head {f : Nat → Int} {n : Nat} {x : Int} (h : numV f n = some x) : 0 < n ∧ f 0 ≠ 39 ∧ f 0 ≠ 120 := by
  unfold numV at h
  split at h
  · rename_i h1
    omega
  · unfold rdD at h
    split at h
    · cases h
    · rename_i h1
      cases n with
      | zero => exact absurd (.inl rfl) h1
      | succ m =>
        unfold dig at h
        split at h
        · omega
        · cases h
theorem unq_congr {f g : Nat → Int} {m : Nat} (h : ∀ i, i < m → f i = g i) : ∀ (d k : Nat) (acc : List UInt8), m - k ≤ d → unq f m k acc = unq g m k acc := by
  intro d
  induction d with
  | zero => intro k acc hd; rw [unq_end acc (by omega), unq_end acc (by omega)]
  | succ d ih =>
    intro k acc hd
    by_cases h1 : k < m
    · have e1 := h k h1
      by_cases h2 : f k = 39
      · have h2' : g k = 39 := by rw [← e1]; exact h2
        by_cases h3 : k + 1 < m ∧ f (k + 1) = 39
        · have h3' : k + 1 < m ∧ g (k + 1) = 39 := ⟨h3.1, by rw [← h (k + 1) h3.1]; exact h3.2⟩
          rw [unq_two acc h1 h2 h3, unq_two acc h1 h2' h3']
          exact ih _ _ (by omega)
        · have h3' : ¬ (k + 1 < m ∧ g (k + 1) = 39) := fun hh => h3 ⟨hh.1, by rw [h (k + 1) hh.1]; exact hh.2⟩
          rw [unq_bad acc h1 h2 h3, unq_bad acc h1 h2' h3']
      · have h2' : ¬ g k = 39 := by rw [← e1]; exact h2
        rw [unq_byte acc h1 h2, unq_byte acc h1 h2', e1]
        exact ih _ _ (by omega)
    · rw [unq_end acc h1, unq_end acc h1]
theorem nib39 : nib 39 = -1 := by decide
theorem hx_no39 (f : Nat → Int) (n : Nat) : ∀ (d k : Nat) (acc b : List UInt8), n - k ≤ d → hx f n k acc = some b → ∀ i, k ≤ i → i < n → f i ≠ 39 := by
  intro d
  induction d with
  | zero => intro k acc b hd h i h1 h2; omega
  | succ d ih =>
    intro k acc b hd h i h1 h2 h39
    by_cases h3 : k + 1 < n
    · by_cases h4 : nib (f k) < 0 ∨ nib (f (k + 1)) < 0
      · rw [hx_bad acc h3 h4] at h; cases h
      · rw [hx_go acc h3 h4] at h
        by_cases e1 : i = k
        · rw [e1] at h39; rw [h39, nib39] at h4; exact h4 (.inl (by omega))
        · by_cases e2 : i = k + 1
          · rw [e2] at h39; rw [h39, nib39] at h4; exact h4 (.inr (by omega))
          · exact ih _ _ b (by omega) h i (by omega) h2 h39
    · rw [hx, if_neg h3, if_pos (by omega)] at h
      cases h
theorem unq_plain {f : Nat → Int} {m : Nat} : ∀ (d k : Nat) (acc : List UInt8), m - k ≤ d → (∀ i, k ≤ i → i < m → f i ≠ 39) → unq f m k acc = some (acc ++ (List.range' k (m - k)).map (fun i => byt (f i))) := by
  intro d
  induction d with
  | zero =>
    intro k acc hd h
    have : m - k = 0 := by omega
    rw [unq_end acc (by omega), this]
    simp
  | succ d ih =>
    intro k acc hd h
    by_cases h1 : k < m
    · rw [unq_byte acc h1 (h k (Nat.le_refl _) h1), ih (k + 1) _ (by omega) (fun i h2 h3 => h i (by omega) h3)]
      obtain ⟨j, hj⟩ : ∃ j, m - k = j + 1 := ⟨m - k - 1, by omega⟩
      have hj' : m - (k + 1) = j := by omega
      rw [hj, hj', List.range'_succ]
      simp
    · have : m - k = 0 := by omega
      rw [unq_end acc h1, this]
      simp
theorem unq_has {f : Nat → Int} {m : Nat} : ∀ (d k : Nat) (acc l : List UInt8), m - k ≤ d → unq f m k acc = some l → (39 ∈ acc ∨ ∃ i, k ≤ i ∧ i < m ∧ f i = 39) → 39 ∈ l := by
  intro d
  induction d with
  | zero =>
    intro k acc l hd h hh
    rw [unq_end acc (by omega)] at h
    cases h
    rcases hh with hh | ⟨i, h1, h2, _⟩
    · exact hh
    · omega
  | succ d ih =>
    intro k acc l hd h hh
    by_cases h1 : k < m
    · by_cases h2 : f k = 39
      · by_cases h3 : k + 1 < m ∧ f (k + 1) = 39
        · rw [unq_two acc h1 h2 h3] at h
          exact ih _ _ l (by omega) h (.inl (by simp))
        · rw [unq_bad acc h1 h2 h3] at h; cases h
      · rw [unq_byte acc h1 h2] at h
        refine ih _ _ l (by omega) h ?_
        rcases hh with hh | ⟨i, a1, a2, a3⟩
        · exact .inl (by simp [hh])
        · by_cases e : i = k
          · rw [e] at a3; exact absurd a3 h2
          · exact .inr ⟨i, by omega, a2, a3⟩
    · rw [unq_end acc h1] at h
      cases h
      rcases hh with hh | ⟨i, a1, a2, _⟩
      · exact hh
      · omega
theorem strOf_size (l : List UInt8) : (strOf l).size = l.length := by unfold strOf; show l.toArray.size = _; simp
theorem strOf_at (l : List UInt8) (i : Nat) : byteAt (strOf l) i = ((l.getD i 0).toNat : Int) := rfl
theorem bytes_back (t : ByteArray) : strOf ((List.range' 0 t.size).map (fun i => byt (byteAt t i))) = t := by
  unfold strOf
  have : (List.range' 0 t.size).map (fun i => byt (byteAt t i)) = t.data.toList := by
    apply List.ext_getElem?
    intro i
    have hl : t.size = t.data.toList.length := by simp
    by_cases hi : i < t.size
    · rw [List.getElem?_map, List.getElem?_range' (by omega)]
      simp only [Option.map_some]
      unfold byteAt byt
      rw [Nat.zero_add, Nat.one_mul, List.getD_eq_getElem?_getD, List.getElem?_eq_getElem (by omega)]
      simp
    · rw [List.getElem?_eq_none (by simp; omega), List.getElem?_eq_none (by omega)]
  rw [this]
theorem hexV_39 {l : List UInt8} (h : 39 ∈ l) : hexV (strOf l) = none := by
  unfold hexV
  cases hh : hx (byteAt (strOf l)) (strOf l).size 0 [] with
  | none => rfl
  | some b =>
    obtain ⟨i, hi, e⟩ := List.getElem_of_mem h
    have := hx_no39 _ _ _ 0 [] b (Nat.le_refl _) hh i (Nat.zero_le _) (by rw [strOf_size]; exact hi)
    rw [strOf_at, List.getD_eq_getElem?_getD, List.getElem?_eq_getElem hi, e] at this
    exact absurd rfl this
theorem hexV_unq {t : ByteArray} {l : List UInt8} (h : unq (byteAt t) t.size 0 [] = some l) : hexV (strOf l) = hexV t := by
  by_cases h39 : ∃ i, 0 ≤ i ∧ i < t.size ∧ byteAt t i = 39
  · rw [hexV_39 (unq_has _ 0 [] l (Nat.le_refl _) h (.inr h39))]
    unfold hexV
    cases hh : hx (byteAt t) t.size 0 [] with
    | none => rfl
    | some b =>
      obtain ⟨i, a1, a2, a3⟩ := h39
      exact absurd a3 (hx_no39 _ _ _ 0 [] b (Nat.le_refl _) hh i a1 a2)
  · have := unq_plain (f := byteAt t) (m := t.size) _ 0 [] (Nat.le_refl _) (fun i a1 a2 a3 => h39 ⟨i, a1, a2, a3⟩)
    rw [this] at h
    cases h
    simp only [List.nil_append, Nat.sub_zero]
    rw [bytes_back]
theorem unq_of_hexV {t b : ByteArray} (h : hexV t = some b) : ∃ l, unq (byteAt t) t.size 0 [] = some l := by
  unfold hexV at h
  obtain ⟨b', hb, _⟩ := Option.map_eq_some_iff.1 h
  exact ⟨_, unq_plain _ 0 [] (Nat.le_refl _) (hx_no39 _ _ _ 0 [] b' (Nat.le_refl _) hb)⟩
theorem ext_at (s : ByteArray) (a b i : Nat) (_ : b ≤ s.size) (hi : a + i < b) : byteAt (s.extract a b) i = byteAt s (a + i) := by
  unfold byteAt
  have e : (s.extract a b).data.toList = (s.data.toList.drop a).take (b - a) := by
    rw [ByteArray.data_extract, Array.toList_extract, List.extract_eq_take_drop]
  rw [e, List.getD_eq_getElem?_getD, List.getD_eq_getElem?_getD, List.getElem?_take_of_lt (by omega), List.getElem?_drop]
/-- What stands between the quotes, and what the specification reads from byte a on. -/
theorem quo_btw {s : ByteArray} {a : Nat} (ha : a < s.size) (h0 : byteAt s a = 39) :
    (∀ t, btw (s.extract a s.size) = some t → (∀ l, unq (byteAt t) t.size 0 [] = some l → quo (byteAt s) s.size (a + 1) [] = some (l, s.size)) ∧ (unq (byteAt t) t.size 0 [] = none → ∀ l, quo (byteAt s) s.size (a + 1) [] ≠ some (l, s.size)))
    ∧ (btw (s.extract a s.size) = none → ∀ l, quo (byteAt s) s.size (a + 1) [] ≠ some (l, s.size)) := by
  have hsz : (s.extract a s.size).size = s.size - a := by rw [ByteArray.size_extract]; omega
  have hat : ∀ i, a + i < s.size → byteAt (s.extract a s.size) i = byteAt s (a + i) := fun i hi => ext_at s a s.size i (Nat.le_refl _) hi
  generalize s.extract a s.size = E at *
  refine ⟨fun t ht => ?_, fun hn l hq => ?_⟩
  · unfold btw at ht
    split at ht
    · rename_i hc
      have ht' := Option.some.inj ht
      rw [hsz] at hc
      obtain ⟨c1, c2, c3⟩ := hc
      rw [hat _ (by omega)] at c3
      have e1 : a + (s.size - a - 1) = s.size - 1 := by omega
      rw [e1] at c3
      have hts : t.size = s.size - a - 2 := by rw [← ht', ByteArray.size_extract, hsz]; omega
      have hcg : ∀ i, i < s.size - a - 2 → byteAt t i = (fun i => byteAt s (a + 1 + i)) i := fun i hi => by
        rw [← ht', ext_at _ _ _ _ (by omega) (by omega), hat _ (by omega)]
        show byteAt s (a + (1 + i)) = byteAt s (a + 1 + i)
        rw [Nat.add_assoc]
      rw [hts, unq_congr hcg _ 0 [] (Nat.le_refl _)]
      exact quo_unq (byteAt s) s.size (a + 1) (s.size - a - 2) (by omega) c3 _ 0 [] (Nat.le_refl _) (Nat.zero_le _)
    · cases ht
  · have hq2 := quo_len _ _ _ _ [] l s.size (Nat.le_refl _) hq
    unfold btw at hn
    rw [if_pos] at hn
    · cases hn
    · rw [hsz]
      refine ⟨by omega, ?_, ?_⟩
      · rw [hat 0 (by omega)]; exact h0
      · rw [hat _ (by omega)]
        have e1 : a + (s.size - a - 1) = s.size - 1 := by omega
        rw [e1]
        exact hq2.2.2.2
end Go.Proofs.Ytipddjgoohnalaa
