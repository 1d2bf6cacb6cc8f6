/- Which statements are right, and impl's SqlOK (stage 11). -/
import Derived.Test.YteejkmcljokloaaGreatDoorSqI
import Derived.Test.YteejkmcljokloaaGreatDoorSqJ
namespace Go.Proofs.YteejkmcljokloaaGreatDoor
open Go.RowKit

noncomputable def asQ (p : Prop) : Bool := @decide p (Classical.propDecidable p)
theorem asQ_true {p : Prop} (h : p) : asQ p = true := @decide_eq_true p (Classical.propDecidable p) h
theorem asQ_false {p : Prop} (h : ¬ p) : asQ p = false := @decide_eq_false p (Classical.propDecidable p) h
/-- Sets and perhaps a where behind them (or a where alone, or nothing). -/
def EndP (sets : Bool) (f : Fo) : Prop := (∀ i, i < f.len → ((f.node i).k = 12 ∧ sets = true) ∨ ((f.node i).k = 8 ∧ i + 1 = f.len ∧ (0 < i ∨ sets = false))) ∧ (sets = true → 0 < f.len)
noncomputable def endB (sets : Bool) (f : Fo) : Bool := asQ (EndP sets f) && allP f
/-- The statement is right. -/
noncomputable def sqlB (x : ND) (ks : Fo) : Bool := bndB ks && fieldB x && (if x.k = 1 then selB ks else if x.k = 2 then decide (0 < ks.len) && allE ks false else if x.k = 3 then endB true ks else if x.k = 4 then endB false ks else false)

theorem rn_del (L : List Int) : (∃ c, rn [8] L = some [c] ∧ c ≤ 1) ↔ ∀ i (h : i < L.length), L[i] = 8 ∧ i + 1 = L.length := by
  rw [rn_one]
  constructor
  · rintro ⟨c, h, hc⟩ i hi
    by_cases ha : L.all (· == 8) = true
    · rw [if_pos ha] at h
      have hl : L.length = c := by simpa using h
      have h8 := List.all_eq_true.1 ha _ (List.getElem_mem hi)
      exact ⟨by simpa using h8, by omega⟩
    · rw [if_neg ha] at h
      cases h
  · intro h
    have ha : L.all (· == 8) = true := List.all_eq_true.2 fun x hx => by
      obtain ⟨i, hi, rfl⟩ := List.mem_iff_getElem.1 hx
      simpa using (h i hi).1
    rw [if_pos ha]
    refine ⟨L.length, rfl, ?_⟩
    rcases Nat.lt_or_ge 1 L.length with h1 | h1
    · have := (h 0 (by omega)).2
      omega
    · exact h1
theorem rn_updC : ∀ L : List Int, (∃ a b, rn1 12 (rn [8]) L = some [a, b] ∧ b ≤ 1) ↔ ∀ i (h : i < L.length), L[i] = 12 ∨ (L[i] = 8 ∧ i + 1 = L.length)
  | [] => ⟨fun _ i h => by simp at h, fun _ => ⟨0, 0, rfl, by omega⟩⟩
  | x :: L => by
    have ih := rn_updC L
    by_cases e : x = 12
    · subst e
      rw [rn1, if_pos rfl]
      constructor
      · rintro ⟨a, b, h, hb⟩ i hi
        obtain ⟨cs, h1, h2⟩ := Option.map_eq_some_iff.1 h
        match cs, h2 with
        | [a', b'], h2 =>
          have hbb : b' = b := by simp [inc] at h2; exact h2.2
          subst hbb
          match i, hi with
          | 0, _ => exact .inl rfl
          | i + 1, hi =>
            have := ih.1 ⟨a', b', h1, hb⟩ i (by simpa using hi)
            simpa using this
      · intro h
        obtain ⟨a, b, h1, h2⟩ := ih.2 fun i hi => by
          have := h (i + 1) (by simpa using hi)
          simpa using this
        exact ⟨a + 1, b, by rw [h1]; rfl, h2⟩
    · rw [rn1, if_neg e]
      constructor
      · rintro ⟨a, b, h, hb⟩ i hi
        obtain ⟨cs, h1, h2⟩ := Option.map_eq_some_iff.1 h
        match cs, h2 with
        | [b'], h2 =>
          have hbb : b' = b := by simp at h2; exact h2.2
          subst hbb
          exact .inr ((rn_del (x :: L)).1 ⟨b', h1, hb⟩ i hi)
      · intro h
        have h0 : x = 8 ∧ L = [] := by
          have := h 0 (by simp)
          simp [e] at this
          exact ⟨this.1, this.2⟩
        obtain ⟨rfl, rfl⟩ := h0
        exact ⟨0, 1, rfl, by omega⟩
theorem rn_upd (L : List Int) : (∃ a b, rn [12, 8] L = some [a, b] ∧ 0 < a ∧ b ≤ 1) ↔ (∀ i (h : i < L.length), L[i] = 12 ∨ (L[i] = 8 ∧ i + 1 = L.length ∧ 0 < i)) ∧ 0 < L.length := by
  show (∃ a b, rn1 12 (rn [8]) L = some [a, b] ∧ 0 < a ∧ b ≤ 1) ↔ _
  match L with
  | [] =>
    constructor
    · rintro ⟨a, b, h, ha, _⟩
      have : [0, 0] = [a, b] := Option.some.inj h
      simp at this
      omega
    · rintro ⟨_, h⟩
      simp at h
  | x :: L =>
    by_cases e : x = 12
    · subst e
      rw [rn1, if_pos rfl]
      constructor
      · rintro ⟨a, b, h, ha, hb⟩
        refine ⟨fun i hi => ?_, by simp⟩
        obtain ⟨cs, h1, h2⟩ := Option.map_eq_some_iff.1 h
        match cs, h2 with
        | [a', b'], h2 =>
          have hbb : b' = b := by simp [inc] at h2; exact h2.2
          subst hbb
          match i, hi with
          | 0, _ => exact .inl rfl
          | i + 1, hi =>
            have := (rn_updC L).1 ⟨a', b', h1, hb⟩ i (by simpa using hi)
            simpa using this
      · rintro ⟨h, _⟩
        obtain ⟨a, b, h1, h2⟩ := (rn_updC L).2 fun i hi => by
          have := h (i + 1) (by simpa using hi)
          simpa using this
        exact ⟨a + 1, b, by rw [h1]; rfl, by omega, h2⟩
    · rw [rn1, if_neg e]
      constructor
      · rintro ⟨a, b, h, ha, hb⟩
        obtain ⟨cs, h1, h2⟩ := Option.map_eq_some_iff.1 h
        simp at h2
        omega
      · rintro ⟨h, _⟩
        have := h 0 (by simp)
        simp [e] at this
theorem endP_upd (f : Fo) : EndP true f ↔ ∃ a b, rn [12, 8] (kindsF f) = some [a, b] ∧ 0 < a ∧ b ≤ 1 := by
  rw [rn_upd]
  unfold EndP
  constructor
  · rintro ⟨h, hl⟩
    refine ⟨fun i hi => ?_, by rw [kindsF_len]; exact hl rfl⟩
    rw [kindsF_get, kindsF_len]
    rw [kindsF_len] at hi
    have := h i hi
    simpa using this
  · rintro ⟨h, hl⟩
    rw [kindsF_len] at hl
    refine ⟨fun i hi => ?_, fun _ => hl⟩
    have := h i (by rw [kindsF_len]; exact hi)
    rw [kindsF_get, kindsF_len] at this
    simpa using this
theorem endP_del (f : Fo) : EndP false f ↔ ∃ c, rn [8] (kindsF f) = some [c] ∧ c ≤ 1 := by
  rw [rn_del]
  unfold EndP
  constructor
  · rintro ⟨h, hl⟩ i hi
    rw [kindsF_get, kindsF_len]
    rw [kindsF_len] at hi
    have := h i hi
    simpa using this
  · intro h
    refine ⟨fun i hi => ?_, fun e => by cases e⟩
    have := h i (by rw [kindsF_len]; exact hi)
    rw [kindsF_get, kindsF_len] at this
    simpa using this
end Go.Proofs.YteejkmcljokloaaGreatDoor
