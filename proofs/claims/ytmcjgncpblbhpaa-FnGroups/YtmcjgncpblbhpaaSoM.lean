/- Lists that are sorted, those that are alike as they stood: plain mathematics (stage 13). -/
import Derived.Test.YtmcjgncpblbhpaaSoA
namespace Go.Proofs.Ytmcjgncpblbhpaa

/-- An order by numbers of which those below nought say that one is ahead. -/
structure LtO (lt : Nat → Nat → Bool) : Prop where
  asym : ∀ x y, lt x y = true → lt y x = false
  trans : ∀ x y z, lt y x = false → lt z y = false → lt z x = false
/-- x may stand ahead of y, and must if they are alike and x stood ahead. -/
def RO (lt : Nat → Nat → Bool) (x y : Nat) : Prop := lt y x = false ∧ (lt x y = false → x < y)
variable {lt : Nat → Nat → Bool}
theorem LtO.irr (h : LtO lt) (x : Nat) : lt x x = false := by
  cases e : lt x x with
  | false => rfl
  | true => have := h.asym x x e; rw [e] at this; cases this
theorem LtO.step (h : LtO lt) {c c' b b' : Nat} (h1 : lt c c' = false) (h2 : lt c b = true) (h3 : lt b' b = false) : lt c' b' = true := by
  cases e : lt c' b' with
  | true => rfl
  | false =>
    have a1 := h.trans b b' c' h3 e
    have a2 := h.trans b c' c a1 h1
    rw [h2] at a2; cases a2
theorem pair_le (h : LtO lt) {s : List Nat} (hp : s.Pairwise (RO lt)) {i j : Nat} (hij : i ≤ j) (hj : j < s.length) : lt (nthN s j) (nthN s i) = false := by
  rcases Nat.lt_or_ge i j with e | e
  · have := List.pairwise_iff_getElem.1 hp i j (by omega) hj e
    rw [nthN_get hj, nthN_get (by omega)]
    exact this.1
  · obtain rfl : i = j := by omega
    exact h.irr _
theorem mem_take_nth {s : List Nat} {i y : Nat} (h : y ∈ s.take i) : ∃ q, q < i ∧ q < s.length ∧ y = nthN s q := by
  obtain ⟨q, hq, rfl⟩ := List.getElem_of_mem h
  rw [List.length_take] at hq
  refine ⟨q, by omega, by omega, ?_⟩
  rw [List.getElem_take, nthN_get (by omega)]
theorem mem_drop_nth {s : List Nat} {i y : Nat} (h : y ∈ s.drop i) : ∃ q, i ≤ q ∧ q < s.length ∧ y = nthN s q := by
  obtain ⟨q, hq, rfl⟩ := List.getElem_of_mem h
  rw [List.length_drop] at hq
  refine ⟨i + q, by omega, by omega, ?_⟩
  rw [List.getElem_drop, nthN_get (by omega)]
/-- A and B stood in order, so did C and D: what is worked out of A and C, and then of B and D, is in order. -/
theorem sym_join {A B C D X Y : List Nat} (h1 : (A ++ B).Pairwise (RO lt)) (h2 : (C ++ D).Pairwise (RO lt)) (hi : ∀ x ∈ A ++ B, ∀ y ∈ C ++ D, x < y) (hAD : ∀ x ∈ A, ∀ y ∈ D, lt y x = false) (hCB : ∀ y ∈ C, ∀ x ∈ B, lt y x = true) (ho : LtO lt)
    (hX : X.Perm (A ++ C)) (hY : Y.Perm (B ++ D)) (pX : X.Pairwise (RO lt)) (pY : Y.Pairwise (RO lt)) : (X ++ Y).Pairwise (RO lt) ∧ (X ++ Y).Perm ((A ++ B) ++ (C ++ D)) := by
  refine ⟨List.pairwise_append.2 ⟨pX, pY, fun x hx y hy => ?_⟩, ?_⟩
  · have hx' := hX.mem_iff.1 hx
    have hy' := hY.mem_iff.1 hy
    rcases List.mem_append.1 hx' with a | c
    · rcases List.mem_append.1 hy' with b | d
      · exact (List.pairwise_append.1 h1).2.2 x a y b
      · exact ⟨hAD x a y d, fun _ => hi x (List.mem_append_left _ a) y (List.mem_append_right _ d)⟩
    · rcases List.mem_append.1 hy' with b | d
      · have := hCB x c y b
        exact ⟨ho.asym x y this, fun h => by rw [this] at h; cases h⟩
      · exact (List.pairwise_append.1 h2).2.2 x c y d
  · refine (hX.append hY).trans ?_
    have e1 : (A ++ C ++ (B ++ D)) = A ++ (C ++ B) ++ D := by simp
    have e2 : (A ++ B ++ (C ++ D)) = A ++ (B ++ C) ++ D := by simp
    rw [e1, e2]
    exact ((List.perm_append_comm).append_left A).append_right D
theorem cut_le (ho : LtO lt) {s1 s2 : List Nat} (p1 : s1.Pairwise (RO lt)) (p2 : s2.Pairwise (RO lt)) {i j : Nat} (hi : i ≤ s1.length) (h : i = 0 ∨ j = s2.length ∨ lt (nthN s2 j) (nthN s1 (i - 1)) = false) : ∀ x ∈ s1.take i, ∀ y ∈ s2.drop j, lt y x = false := fun x hx y hy => by
  obtain ⟨q, q1, q2, rfl⟩ := mem_take_nth hx
  obtain ⟨r, r1, r2, rfl⟩ := mem_drop_nth hy
  rcases h with h | h | h
  · omega
  · omega
  · have a1 := pair_le ho p1 (i := q) (j := i - 1) (by omega) (by omega)
    have a2 := pair_le ho p2 (i := j) (j := r) r1 r2
    exact ho.trans _ _ _ (ho.trans _ _ _ a1 h) a2
theorem cut_lt (ho : LtO lt) {s1 s2 : List Nat} (p1 : s1.Pairwise (RO lt)) (p2 : s2.Pairwise (RO lt)) {i j : Nat} (hj : j ≤ s2.length) (h : i = s1.length ∨ j = 0 ∨ lt (nthN s2 (j - 1)) (nthN s1 i) = true) : ∀ y ∈ s2.take j, ∀ x ∈ s1.drop i, lt y x = true := fun y hy x hx => by
  obtain ⟨q, q1, q2, rfl⟩ := mem_take_nth hy
  obtain ⟨r, r1, r2, rfl⟩ := mem_drop_nth hx
  rcases h with h | h | h
  · omega
  · omega
  · have a1 := pair_le ho p2 (i := q) (j := j - 1) (by omega) (by omega)
    have a2 := pair_le ho p1 (i := i) (j := r) r1 r2
    exact ho.step a1 h a2
/-- One that was behind, put in its place. -/
theorem put_in {A B : List Nat} {y : Nat} (ho : LtO lt) (h1 : (A ++ B).Pairwise (RO lt)) (hi : ∀ x ∈ A ++ B, x < y) (hA : ∀ x ∈ A, lt y x = false) (hB : ∀ x ∈ B, lt y x = true) : (A ++ y :: B).Pairwise (RO lt) := by
  obtain ⟨pA, pB, pAB⟩ := List.pairwise_append.1 h1
  refine List.pairwise_append.2 ⟨pA, List.pairwise_cons.2 ⟨fun b hb => ?_, pB⟩, fun x hx z hz => ?_⟩
  · have := hB b hb
    exact ⟨ho.asym _ _ this, fun h => by rw [this] at h; cases h⟩
  · rcases List.mem_cons.1 hz with rfl | hz
    · exact ⟨hA x hx, fun _ => hi x (List.mem_append_left _ hx)⟩
    · exact pAB x hx z hz
/-- One that was ahead, put in its place. -/
theorem put_back {C D : List Nat} {x : Nat} (ho : LtO lt) (h1 : (C ++ D).Pairwise (RO lt)) (hi : ∀ y ∈ C ++ D, x < y) (hC : ∀ y ∈ C, lt y x = true) (hD : ∀ y ∈ D, lt y x = false) : (C ++ x :: D).Pairwise (RO lt) := by
  obtain ⟨pC, pD, pCD⟩ := List.pairwise_append.1 h1
  refine List.pairwise_append.2 ⟨pC, List.pairwise_cons.2 ⟨fun d hd => ⟨hD d hd, fun _ => hi d (List.mem_append_right _ hd)⟩, pD⟩, fun c hc z hz => ?_⟩
  rcases List.mem_cons.1 hz with rfl | hz
  · have := hC c hc
    exact ⟨ho.asym _ _ this, fun h => by rw [this] at h; cases h⟩
  · exact pCD c hc z hz
end Go.Proofs.Ytmcjgncpblbhpaa
