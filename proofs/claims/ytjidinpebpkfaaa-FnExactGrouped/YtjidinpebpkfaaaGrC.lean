/- In a right query aggregates stand in items and orders alone, and groups among its parts (stage 11). -/
import Derived.Test.YtjidinpebpkfaaaGrB
import Derived.Test.YtjidinpebpkfaaaSqK
namespace Go.Proofs.Ytjidinpebpkfaaa
open Go.RowKit

/-- No part of a query stands in right expressions, and no aggregate where none may stand. -/
theorem allE_has : ∀ {f : Fo} {g : Bool}, allE f g = true → hasK f 9 = false ∧ (g = false → hasK f 17 = false)
  | .nil, _, _ => ⟨rfl, fun _ => rfl⟩
  | .cons x ks r, g, h => by
    unfold allE at h
    rw [Bool.and_eq_true] at h
    obtain ⟨h1, h2⟩ := h
    have hr := allE_has (f := r) (g := g) h2
    have hk : (x.k ≠ 9 ∧ hasK ks 9 = false) ∧ (g = false → x.k ≠ 17 ∧ hasK ks 17 = false) := by
      unfold exB at h1
      rw [Bool.and_eq_true] at h1
      obtain ⟨_, h1⟩ := h1
      by_cases e13 : x.k = 13 ∨ x.k = 14
      · rw [if_pos e13] at h1
        have hn : ks = .nil := by
          cases ks with
          | nil => rfl
          | cons _ _ _ => simp [Fo.len] at h1
        subst hn
        exact ⟨⟨by omega, rfl⟩, fun _ => ⟨by omega, rfl⟩⟩
      rw [if_neg e13] at h1
      by_cases e15 : x.k = 15
      · rw [if_pos e15, Bool.and_eq_true] at h1
        have hs := allE_has (f := ks) (g := g) h1.2
        exact ⟨⟨by omega, hs.1⟩, fun e => ⟨by omega, hs.2 e⟩⟩
      rw [if_neg e15] at h1
      by_cases e16 : x.k = 16
      · rw [if_pos e16, Bool.and_eq_true] at h1
        have hs := allE_has (f := ks) (g := g) h1.2
        exact ⟨⟨by omega, hs.1⟩, fun e => ⟨by omega, hs.2 e⟩⟩
      rw [if_neg e16] at h1
      by_cases e17 : x.k = 17
      · rw [if_pos e17, Bool.and_eq_true] at h1
        obtain ⟨hg, h1⟩ := h1
        refine ⟨⟨by omega, ?_⟩, fun e => by rw [e] at hg; cases hg⟩
        rcases Bool.or_eq_true_iff.1 h1 with h1 | h1
        · have hn : ks = .nil := by
            cases ks with
            | nil => rfl
            | cons _ _ _ => simp [Fo.len] at h1
          subst hn
          rfl
        · rw [Bool.and_eq_true] at h1
          exact (allE_has (f := ks) (g := false) h1.2).1
      · rw [if_neg e17] at h1
        cases h1
    unfold hasK
    refine ⟨?_, fun e => ?_⟩
    · rw [beq_eq_false_iff_ne.2 hk.1.1, hk.1.2, hr.1]; rfl
    · rw [beq_eq_false_iff_ne.2 (hk.2 e).1, (hk.2 e).2, hr.2 e]; rfl
theorem part_has {x : ND} {ks : Fo} (h : partB x ks = true) : grpP x ks = (hasN x ks 9 || hasN x ks 17) := by
  unfold partB at h
  rw [Bool.and_eq_true] at h
  obtain ⟨_, h⟩ := h
  unfold grpP hasN
  by_cases e6 : x.k = 6 ∨ x.k = 11
  · rw [if_pos e6] at h
    have hn : ks = .nil := by
      cases ks with
      | nil => rfl
      | cons _ _ _ => simp [Fo.len] at h
    subst hn
    rcases e6 with e | e <;> rw [e] <;> rfl
  rw [if_neg e6] at h
  by_cases e5 : x.k = 5 ∨ x.k = 10
  · rw [if_pos e5, Bool.and_eq_true] at h
    have hs := (allE_has h.2).1
    rw [hs]
    rcases e5 with e | e <;> rw [e] <;> simp
  rw [if_neg e5] at h
  by_cases e7 : x.k = 7 ∨ x.k = 8 ∨ x.k = 12
  · rw [if_pos e7, Bool.and_eq_true] at h
    have hs := allE_has h.2
    rw [hs.1, hs.2 rfl]
    rcases e7 with e | e | e <;> rw [e] <;> rfl
  rw [if_neg e7] at h
  by_cases e9 : x.k = 9
  · rw [e9]; rfl
  · rw [if_neg e9] at h
    cases h
theorem allP_has : ∀ {f : Fo}, allP f = true → grpF f = (hasK f 9 || hasK f 17)
  | .nil, _ => rfl
  | .cons x ks r, h => by
    unfold allP at h
    rw [Bool.and_eq_true] at h
    have h1 := part_has h.1
    have h2 := allP_has (f := r) h.2
    unfold grpF hasK
    rw [h1, h2]
    unfold hasN
    cases (x.k == 9) <;> cases (x.k == 17) <;> cases hasK ks 9 <;> cases hasK ks 17 <;> cases hasK r 9 <;> cases hasK r 17 <;> rfl
/-- A right query's rows are groups: both say the same. -/
theorem sql_grouped {x : ND} {ks : Fo} (hk : x.k = 1) (h : sqlB x ks = true) : (hasN x ks 9 || hasN x ks 17) = grpF ks := by
  unfold sqlB at h
  rw [Bool.and_eq_true, if_pos hk] at h
  have hs := h.2
  unfold selB at hs
  rw [Bool.and_eq_true] at hs
  rw [allP_has hs.2]
  unfold hasN
  rw [hk]
  simp
end Go.Proofs.Ytjidinpebpkfaaa
