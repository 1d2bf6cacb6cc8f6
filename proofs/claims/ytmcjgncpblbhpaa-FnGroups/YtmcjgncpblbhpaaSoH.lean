/- Blocks merged two by two: plain mathematics (stage 13). -/
import Derived.Test.YtmcjgncpblbhpaaSoG
namespace Go.Proofs.Ytmcjgncpblbhpaa
variable {lt : Nat → Nat → Bool}

/-- The rows up to a are merged, the blocks of bs behind it are not yet. -/
def MgS (lt : Nat → Nat → Bool) (n bs a : Nat) (zs : List Nat) : Prop := zs.Perm (List.range n) ∧ ∃ q0, a = q0 * (2 * bs) ∧ (∀ q, q < q0 → Srt lt (q * (2 * bs)) (sg zs (q * (2 * bs)) (2 * bs))) ∧ ∀ q, 2 * q0 ≤ q → Srt lt (q * bs) (sg zs (q * bs) bs)
theorem MgS.start {n bs : Nat} {zs : List Nat} (h : Lev lt n bs zs) : MgS lt n bs 0 zs := ⟨h.1, 0, by simp, fun q hq => by omega, fun q _ => h.2 q⟩
theorem two_q (q0 bs : Nat) : 2 * q0 * bs = q0 * (2 * bs) ∧ (2 * q0 + 1) * bs = q0 * (2 * bs) + bs := by
  have h : 2 * q0 * bs = q0 * (2 * bs) := by rw [Nat.mul_comm 2 q0, Nat.mul_assoc]
  exact ⟨h, by rw [Nat.add_mul, Nat.one_mul, h]⟩
theorem MgS.two {n bs a : Nat} {zs : List Nat} (h : MgS lt n bs a zs) : Srt lt a (sg zs a bs) ∧ Srt lt (a + bs) (sg zs (a + bs) bs) := by
  obtain ⟨_, q0, rfl, _, hB⟩ := h
  obtain ⟨e1, e2⟩ := two_q q0 bs
  have h1 := hB (2 * q0) (Nat.le_refl _)
  have h2 := hB (2 * q0 + 1) (by omega)
  rw [e1] at h1
  rw [e2] at h2
  exact ⟨h1, h2⟩
theorem MgS.part (zs : List Nat) (a b c : Nat) : zs = zs.take a ++ (sg zs a b ++ (sg zs (a + b) c ++ zs.drop (a + b + c))) := by
  conv => lhs; rw [sg_cut zs a b]
  congr 2
  have e : zs.drop (a + b + c) = (zs.drop (a + b)).drop c := by rw [List.drop_drop]
  unfold sg
  rw [e, List.take_append_drop]
/-- What both blocks hold lies where they lie. -/
theorem both_in {a bs : Nat} {s1 s2 s' : List Nat} (h1 : Srt lt a s1) (h2 : Srt lt (a + bs) s2) (l1 : s1.length = bs) (hs : s'.Perm (s1 ++ s2)) (hp : s'.Pairwise (RO lt)) : Srt lt a s' := Srt.perm hs hp fun x hx => by
  rw [List.length_append]
  rcases List.mem_append.1 hx with h | h
  · have := h1.2 x h; omega
  · have := h2.2 x h; omega
theorem MgS.next {n bs a : Nat} {zs s' : List Nat} (h : MgS lt n bs a zs) (hb : 0 < bs) (hc : a + 2 * bs ≤ n) (hs : s'.Perm (sg zs a bs ++ sg zs (a + bs) bs)) (hp : s'.Pairwise (RO lt)) : MgS lt n bs (a + 2 * bs) (zs.take a ++ (s' ++ zs.drop (a + bs + bs))) := by
  obtain ⟨t1, t2⟩ := h.two
  obtain ⟨hP, q0, ha, hA, hB⟩ := h
  have hl : zs.length = n := by rw [hP.length_eq, List.length_range]
  have l : (zs.take a).length = a := by rw [List.length_take]; omega
  have l1 : (sg zs a bs).length = bs := sg_len (by omega)
  have l2 : (sg zs (a + bs) bs).length = bs := sg_len (by omega)
  have e : zs = zs.take a ++ ((sg zs a bs ++ sg zs (a + bs) bs) ++ zs.drop (a + bs + bs)) := by rw [List.append_assoc]; exact MgS.part zs a bs bs
  have ls : s'.length = (sg zs a bs ++ sg zs (a + bs) bs).length := hs.length_eq
  have l3 : s'.length = 2 * bs := by rw [ls, List.length_append]; omega
  have l4 : (sg zs a bs ++ sg zs (a + bs) bs).length = 2 * bs := by rw [List.length_append]; omega
  refine ⟨?_, q0 + 1, by rw [Nat.add_mul, Nat.one_mul, ← ha], fun q hq => ?_, fun q hq => ?_⟩
  · refine List.Perm.trans ?_ hP
    conv => rhs; rw [e]
    exact (hs.append_right _).append_left _
  · by_cases hqq : q < q0
    · have h1 := hA q hqq
      rw [e] at h1
      have h2 : (q + 1) * (2 * bs) ≤ q0 * (2 * bs) := Nat.mul_le_mul_right _ hqq
      rw [Nat.add_mul, Nat.one_mul] at h2
      rw [sg_keep ls (.inl (by omega))]; exact h1
    · obtain rfl : q = q0 := by omega
      have h3 := sg_mid (zs.take a) s' (zs.drop (a + bs + bs))
      rw [l, l3] at h3
      rw [← ha, h3]
      exact both_in t1 t2 l1 hs hp
  · have h1 := hB q (by omega)
    rw [e] at h1
    have h2 : (2 * (q0 + 1)) * bs ≤ q * bs := Nat.mul_le_mul_right _ hq
    rw [(two_q (q0 + 1) bs).1, Nat.add_mul, Nat.one_mul] at h2
    rw [sg_keep ls (.inr (by omega))]; exact h1
theorem MgS.last {n bs a : Nat} {zs s' : List Nat} (h : MgS lt n bs a zs) (hm : a + bs < n) (hc : n < a + 2 * bs) (hs : s'.Perm (sg zs a bs ++ sg zs (a + bs) (n - (a + bs)))) (hp : s'.Pairwise (RO lt)) : Lev lt n (2 * bs) (zs.take a ++ (s' ++ [])) := by
  obtain ⟨t1, t2⟩ := h.two
  obtain ⟨hP, q0, ha, hA, hB⟩ := h
  have hl : zs.length = n := by rw [hP.length_eq, List.length_range]
  have l : (zs.take a).length = a := by rw [List.length_take]; omega
  have l1 : (sg zs a bs).length = bs := sg_len (by omega)
  have l2 : (sg zs (a + bs) (n - (a + bs))).length = n - (a + bs) := sg_len (by omega)
  have eS : sg zs (a + bs) bs = sg zs (a + bs) (n - (a + bs)) := by
    unfold sg
    rw [List.take_of_length_le (by rw [List.length_drop]; omega), List.take_of_length_le (by rw [List.length_drop]; omega)]
  have ed : zs.drop (a + bs + (n - (a + bs))) = [] := List.drop_of_length_le (by omega)
  have e : zs = zs.take a ++ ((sg zs a bs ++ sg zs (a + bs) (n - (a + bs))) ++ []) := by rw [← ed, List.append_assoc]; exact MgS.part zs a bs _
  rw [eS] at t2
  have ls : s'.length = (sg zs a bs ++ sg zs (a + bs) (n - (a + bs))).length := hs.length_eq
  have l3 : s'.length = n - a := by rw [ls, List.length_append]; omega
  refine ⟨?_, fun q => ?_⟩
  · refine List.Perm.trans ?_ hP
    conv => rhs; rw [e]
    exact (hs.append_right _).append_left _
  · rcases Nat.lt_trichotomy q q0 with hqq | rfl | hqq
    · have h1 := hA q hqq
      rw [e] at h1
      have h2 : (q + 1) * (2 * bs) ≤ q0 * (2 * bs) := Nat.mul_le_mul_right _ hqq
      rw [Nat.add_mul, Nat.one_mul] at h2
      rw [sg_keep ls (.inl (by omega))]; exact h1
    · have h3 : sg (zs.take a ++ (s' ++ [])) a (2 * bs) = s' := by
        rw [List.append_nil, sg_right (by omega), l, Nat.sub_self]
        unfold sg
        rw [List.drop_zero, List.take_of_length_le (by omega)]
      rw [← ha, h3]
      exact both_in t1 t2 l1 hs hp
    · have h2 : (q0 + 1) * (2 * bs) ≤ q * (2 * bs) := Nat.mul_le_mul_right _ hqq
      rw [Nat.add_mul, Nat.one_mul] at h2
      rw [sg_nil (by rw [List.append_nil, List.length_append, l, l3]; omega)]
      exact Srt.nil _
theorem MgS.none {n bs a : Nat} {zs : List Nat} (h : MgS lt n bs a zs) (hm : n ≤ a + bs) : Lev lt n (2 * bs) zs := by
  obtain ⟨t1, _⟩ := h.two
  obtain ⟨hP, q0, ha, hA, hB⟩ := h
  have hl : zs.length = n := by rw [hP.length_eq, List.length_range]
  refine ⟨hP, fun q => ?_⟩
  rcases Nat.lt_trichotomy q q0 with hqq | rfl | hqq
  · exact hA q hqq
  · have h3 : sg zs a (2 * bs) = sg zs a bs := by
      unfold sg
      rw [List.take_of_length_le (by rw [List.length_drop]; omega), List.take_of_length_le (by rw [List.length_drop]; omega)]
    rw [← ha, h3]; exact t1
  · have h2 : (q0 + 1) * (2 * bs) ≤ q * (2 * bs) := Nat.mul_le_mul_right _ hqq
    rw [Nat.add_mul, Nat.one_mul] at h2
    rw [sg_nil (by omega)]
    exact Srt.nil _
end Go.Proofs.Ytmcjgncpblbhpaa
