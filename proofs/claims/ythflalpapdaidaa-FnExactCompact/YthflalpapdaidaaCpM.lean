/- What Compact makes: numbers of nodes among those that are kept (stage 5). -/
import Derived.Test.YthflalpapdaidaaRcM
namespace Go.Proofs.Ythflalpapdaidaa
open Go.RowKit

/-- How many nodes below j are kept. -/
def rk (f : Nat → Bool) (j : Nat) : Nat := (upL f j).length
theorem rk_zero (f : Nat → Bool) : rk f 0 = 0 := rfl
theorem rk_succ (f : Nat → Bool) (n : Nat) : rk f (n + 1) = if f n = true then rk f n + 1 else rk f n := by
  unfold rk
  rw [upL_succ]
  split
  · rw [List.length_append]; rfl
  · rfl
theorem rk_mono (f : Nat → Bool) : ∀ {i j : Nat}, i ≤ j → rk f i ≤ rk f j
  | i, 0, h => by obtain rfl : i = 0 := (by omega); exact Nat.le_refl _
  | i, j + 1, h => by
    by_cases e : i = j + 1
    · rw [e]; exact Nat.le_refl _
    · have := rk_mono f (i := i) (j := j) (by omega)
      rw [rk_succ]
      split <;> omega
theorem rk_lt {f : Nat → Bool} {i j : Nat} (h : i < j) (hf : f i = true) : rk f i < rk f j := by
  have h1 := rk_mono f (i := i + 1) (j := j) h
  rw [rk_succ, if_pos hf] at h1
  omega
theorem rk_le (f : Nat → Bool) (n : Nat) : rk f n ≤ n := upL_len f n
theorem rk_inj {f : Nat → Bool} {i j : Nat} (hi : f i = true) (hj : f j = true) (h : rk f i = rk f j) : i = j := by
  rcases Nat.lt_trichotomy i j with p | p | p
  · have := rk_lt p hi; omega
  · exact p
  · have := rk_lt p hj; omega
/-- The i-th one that is kept. -/
theorem upL_at {f : Nat → Bool} : ∀ {n i : Nat}, i < (upL f n).length → ∃ j, j < n ∧ f j = true ∧ nthI (upL f n) i = (j : Int) ∧ rk f j = i
  | 0, i, h => by simp [upL] at h
  | n + 1, i, h => by
    rw [upL_succ] at h ⊢
    by_cases hf : f n = true
    · rw [if_pos hf] at h ⊢
      rw [List.length_append] at h
      by_cases hi : i < (upL f n).length
      · obtain ⟨j, h1, h2, h3, h4⟩ := upL_at hi
        refine ⟨j, by omega, h2, ?_, h4⟩
        unfold nthI at h3 ⊢
        rw [List.getD_eq_getElem?_getD, List.getElem?_append_left hi, ← List.getD_eq_getElem?_getD]
        exact h3
      · have e : i = (upL f n).length := by simp at h; omega
        refine ⟨n, by omega, hf, ?_, e.symm⟩
        unfold nthI
        rw [List.getD_eq_getElem?_getD, List.getElem?_append_right (by omega), e]
        simp
    · rw [if_neg hf] at h ⊢
      obtain ⟨j, h1, h2, h3, h4⟩ := upL_at h
      exact ⟨j, by omega, h2, h3, h4⟩
/-- A number moved. -/
def mv (f : Nat → Bool) (k : Int) : Int := if k < 0 then k else (rk f k.toNat : Int)
theorem mv_neg {f : Nat → Bool} {k : Int} (h : k < 0) : mv f k = k := if_pos h
theorem mv_nat (f : Nat → Bool) (k : Nat) : mv f (k : Int) = (rk f k : Int) := by unfold mv; rw [if_neg (by omega)]; rfl
/-- A node moved. -/
def mvN (f : Nat → Bool) (n : Nd) : Nd := (n.1, n.2.1, n.2.2.1, n.2.2.2.map (mv f))
/-- The kept ones of the first m nodes. -/
def cmpL (ns : List Nd) (f : Nat → Bool) (m : Nat) : List Nd := ((List.range m).filter f).map (fun j => mvN f (nthN ns j))
theorem cmpL_succ (ns : List Nd) (f : Nat → Bool) (n : Nat) : cmpL ns f (n + 1) = if f n = true then cmpL ns f n ++ [mvN f (nthN ns n)] else cmpL ns f n := by
  unfold cmpL
  rw [List.range_succ, List.filter_append, List.map_append]
  by_cases h : f n = true
  · rw [if_pos h]; simp [h]
  · rw [if_neg h]; simp [h]
theorem cmpL_len (ns : List Nd) (f : Nat → Bool) (n : Nat) : (cmpL ns f n).length = rk f n := by
  unfold cmpL rk upL
  rw [List.length_map, List.length_map]
theorem nthN_left {a b : List Nd} {i : Nat} (h : i < a.length) : nthN (a ++ b) i = nthN a i := by unfold nthN; rw [List.getD_eq_getElem?_getD, List.getD_eq_getElem?_getD, List.getElem?_append_left h]
theorem nthN_last {a : List Nd} {n : Nd} : nthN (a ++ [n]) a.length = n := by unfold nthN; rw [List.getD_eq_getElem?_getD, List.getElem?_append_right (Nat.le_refl _)]; simp
theorem cmpL_at {ns : List Nd} {f : Nat → Bool} : ∀ {n j : Nat}, j < n → f j = true → nthN (cmpL ns f n) (rk f j) = mvN f (nthN ns j)
  | 0, j, h, _ => by omega
  | n + 1, j, h, hf => by
    rw [cmpL_succ]
    by_cases e : j = n
    · subst e
      rw [if_pos hf, ← cmpL_len ns f j]
      exact nthN_last
    · have ih := cmpL_at (ns := ns) (n := n) (j := j) (by omega) hf
      by_cases hn : f n = true
      · rw [if_pos hn, nthN_left (by rw [cmpL_len]; exact rk_lt (by omega) hf)]
        exact ih
      · rw [if_neg hn]; exact ih
theorem cmpL_of {ns : List Nd} {f : Nat → Bool} {n i : Nat} (h : i < (cmpL ns f n).length) : ∃ j, j < n ∧ f j = true ∧ rk f j = i ∧ nthN (cmpL ns f n) i = mvN f (nthN ns j) := by
  rw [cmpL_len] at h
  obtain ⟨j, h1, h2, _, h4⟩ := upL_at (f := f) (n := n) (i := i) h
  exact ⟨j, h1, h2, h4, by rw [← h4]; exact cmpL_at h1 h2⟩
theorem cmpL_small {ns : List Nd} {f : Nat → Bool} {n : Nat} (hn : n ≤ ns.length) (h : ∀ i, i < ns.length → SmallN (nthN ns i)) : ∀ i, i < (cmpL ns f n).length → SmallN (nthN (cmpL ns f n) i) := fun i hi => by
  obtain ⟨j, h1, _, _, e⟩ := cmpL_of hi
  obtain ⟨a, b, c⟩ := h j (by omega)
  rw [e]
  exact ⟨a, b, by show (List.map _ _).length ≤ _; rw [List.length_map]; exact c⟩
theorem nthI_map {g : Int → Int} {l : List Int} {i : Nat} (h : i < l.length) : nthI (l.map g) i = g (nthI l i) := by
  unfold nthI
  rw [List.getD_eq_getElem?_getD, List.getD_eq_getElem?_getD, List.getElem?_map, List.getElem?_eq_getElem h]
  rfl
end Go.Proofs.Ythflalpapdaidaa
