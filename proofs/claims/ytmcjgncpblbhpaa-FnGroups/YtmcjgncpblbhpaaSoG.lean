/- Blocks of a list, sorted and merged: plain mathematics (stage 13). -/
import Derived.Test.YtmcjgncpblbhpaaSoF
namespace Go.Proofs.Ytmcjgncpblbhpaa
variable {lt : Nat → Nat → Bool}

theorem sg_mid (P s S : List Nat) : sg (P ++ (s ++ S)) P.length s.length = s := by
  rw [sg_right (Nat.le_refl _), Nat.sub_self, sg_left (by omega)]
  simp [sg]
theorem sg_nil {zs : List Nat} {lo len : Nat} (h : zs.length ≤ lo) : sg zs lo len = [] := by
  unfold sg
  rw [List.drop_of_length_le h]; simp
/-- Some of the list is put in another order: what is ahead and behind stays. -/
theorem sg_keep {P s s' S : List Nat} (hl : s'.length = s.length) {lo len : Nat} (h : lo + len ≤ P.length ∨ P.length + s.length ≤ lo) : sg (P ++ (s' ++ S)) lo len = sg (P ++ (s ++ S)) lo len := by
  rcases h with h | h
  · rw [sg_left h, sg_left h]
  · rw [sg_right (by omega), sg_right (by omega), sg_right (by omega), sg_right (by omega), hl]
theorem Srt.nil (lo : Nat) : Srt lt lo [] := ⟨List.Pairwise.nil, fun x hx => by simp at hx⟩
theorem Srt.perm {lo : Nat} {s s' : List Nat} (h : s'.Perm s) (hp : s'.Pairwise (RO lt)) (hs : ∀ x ∈ s, lo ≤ x ∧ x < lo + s.length) : Srt lt lo s' := ⟨hp, fun x hx => by rw [h.length_eq]; exact hs x (h.mem_iff.1 hx)⟩
/-- The rows up to a are sorted in blocks of 20, those behind stand as they stood. -/
def InsS (lt : Nat → Nat → Bool) (n a : Nat) (zs : List Nat) : Prop := zs.Perm (List.range n) ∧ (∃ q0, a = 20 * q0) ∧ (∀ q, 20 * q + 20 ≤ a → Srt lt (20 * q) (sg zs (20 * q) 20)) ∧ zs.drop a = List.range' a (n - a)
theorem InsS.start (n : Nat) : InsS lt n 0 (List.range n) := ⟨List.Perm.refl _, ⟨0, rfl⟩, fun q h => by omega, by rw [List.drop_zero, List.range_eq_range']; simp⟩
/-- Each block of bs is sorted. -/
def Lev (lt : Nat → Nat → Bool) (n bs : Nat) (zs : List Nat) : Prop := zs.Perm (List.range n) ∧ ∀ q, Srt lt (q * bs) (sg zs (q * bs) bs)
theorem InsS.part {n a : Nat} {zs : List Nat} (h : InsS lt n a zs) (c : Nat) (hc : a + c ≤ n) : zs = zs.take a ++ (List.range' a c ++ zs.drop (a + c)) ∧ (zs.take a).length = a ∧ zs.drop (a + c) = List.range' (a + c) (n - (a + c)) := by
  obtain ⟨hp, _, _, hd⟩ := h
  have hl : zs.length = n := by rw [hp.length_eq, List.length_range]
  have e : List.range' a (n - a) = List.range' a c ++ List.range' (a + c) (n - (a + c)) := by
    rw [List.range'_append_1]
    congr 1; omega
  have e2 : zs.drop (a + c) = List.range' (a + c) (n - (a + c)) := by
    rw [← List.drop_drop, hd, e, List.drop_append_of_le_length (by simp), List.drop_of_length_le (by simp), List.nil_append]
  refine ⟨?_, by rw [List.length_take]; omega, e2⟩
  rw [e2, ← e, ← hd, List.take_append_drop]
theorem range_in (a c : Nat) : (∀ x ∈ List.range' a c, a ≤ x ∧ x < a + (List.range' a c).length) := fun x hx => by
  rw [List.length_range']
  rw [List.mem_range'_1] at hx
  exact hx
theorem InsS.next {n a : Nat} {zs s' : List Nat} (h : InsS lt n a zs) (hc : a + 20 ≤ n) (hs : s'.Perm (List.range' a 20)) (hp : s'.Pairwise (RO lt)) : InsS lt n (a + 20) (zs.take a ++ (s' ++ zs.drop (a + 20))) := by
  obtain ⟨e, l, d⟩ := h.part 20 hc
  obtain ⟨hP, ⟨q0, hq⟩, hB, _⟩ := h
  have ls : s'.length = (List.range' a 20).length := hs.length_eq
  have l2 : s'.length = 20 := by rw [ls]; simp
  refine ⟨?_, ⟨q0 + 1, by omega⟩, fun q h2 => ?_, ?_⟩
  · refine List.Perm.trans ?_ hP
    conv => rhs; rw [e]
    exact (hs.append_right _).append_left _
  · by_cases hqq : 20 * q + 20 ≤ a
    · have := hB q hqq
      rw [e] at this
      rw [sg_keep ls (.inl (by omega))]; exact this
    · have ea : 20 * q = a := by omega
      have h3 := sg_mid (zs.take a) s' (zs.drop (a + 20))
      rw [l, l2] at h3
      rw [ea, h3]
      exact Srt.perm hs hp (range_in a 20)
  · rw [← d, ← List.append_assoc, List.drop_append, List.drop_of_length_le (by rw [List.length_append, l, l2]; omega)]
    simp [l, l2]
theorem InsS.last {n a : Nat} {zs s' : List Nat} (h : InsS lt n a zs) (ha : a ≤ n) (hc : n < a + 20) (hs : s'.Perm (List.range' a (n - a))) (hp : s'.Pairwise (RO lt)) : Lev lt n 20 (zs.take a ++ (s' ++ [])) := by
  obtain ⟨e, l, d⟩ := h.part (n - a) (by omega)
  obtain ⟨hP, ⟨q0, hq⟩, hB, _⟩ := h
  have hl : zs.length = n := by rw [hP.length_eq, List.length_range]
  have ed : zs.drop (a + (n - a)) = [] := List.drop_of_length_le (by omega)
  rw [ed] at e
  have ls : s'.length = (List.range' a (n - a)).length := hs.length_eq
  have l2 : s'.length = n - a := by rw [ls]; simp
  refine ⟨?_, fun q => ?_⟩
  · refine List.Perm.trans ?_ hP
    conv => rhs; rw [e]
    exact (hs.append_right _).append_left _
  · rw [Nat.mul_comm q 20]
    rcases Nat.lt_trichotomy (20 * q) a with h1 | h1 | h1
    · have := hB q (by omega)
      rw [e] at this
      rw [sg_keep ls (.inl (by omega))]; exact this
    · have h3 : sg (zs.take a ++ (s' ++ [])) (20 * q) 20 = s' := by
        rw [h1, List.append_nil, sg_right (by omega), l, Nat.sub_self]
        unfold sg
        rw [List.drop_zero, List.take_of_length_le (by omega)]
      rw [h3, h1]
      exact Srt.perm hs hp (range_in a (n - a))
    · rw [sg_nil (by rw [List.append_nil, List.length_append, l, l2]; omega)]
      exact Srt.nil _
theorem Lev.done {n bs : Nat} {zs : List Nat} (h : Lev lt n bs zs) (hb : n ≤ bs) : zs.Pairwise (RO lt) := by
  have hl : zs.length = n := by rw [h.1.length_eq, List.length_range]
  have := (h.2 0).1
  rw [Nat.zero_mul] at this
  unfold sg at this
  rw [List.drop_zero, List.take_of_length_le (by omega)] at this
  exact this
end Go.Proofs.Ytmcjgncpblbhpaa
