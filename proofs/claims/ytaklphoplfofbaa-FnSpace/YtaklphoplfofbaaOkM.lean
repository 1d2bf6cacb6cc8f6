/- When a space is right: plain mathematics (stage 4). -/
import Derived.Test.YtaklphoplfofbaaFill
namespace Go.Proofs.Ytaklphoplfofbaa
open Go.RowKit Go.Maps Go.WideShapes Go.ChangeMaps Go.MapKept

/-- The first n numbers rise, from 0 to below t. -/
def RiseI (t : Int) (ss : List Int) (n : Nat) : Prop := (∀ i, i < n → 0 ≤ nthI ss i ∧ nthI ss i < t) ∧ ∀ i, i + 1 < n → nthI ss i < nthI ss (i + 1)
def RiseP (t e : Int) (ps : List P2) (n : Nat) : Prop := (∀ i, i < n → (0 ≤ (nthP ps i).1 ∧ (nthP ps i).1 < t) ∧ 0 ≤ (nthP ps i).2 ∧ (nthP ps i).2 < e) ∧ ∀ i, i + 1 < n → (nthP ps i).1 < (nthP ps (i + 1)).1
/-- A space is right. -/
def OkSp (t e : Int) (ss : List Int) (ps : List P2) (qs : List Int) : Prop :=
  (1 ≤ t ∧ t ≤ 64) ∧ (0 ≤ e ∧ e ≤ 1000000) ∧ RiseI t ss ss.length ∧ RiseP t e ps ps.length ∧ (∀ i, i < ss.length → ∀ j, j < ps.length → nthI ss i ≠ (nthP ps j).1) ∧ qs.length ≤ 4 ∧ ∀ i, i < qs.length → 0 ≤ nthI qs i ∧ nthI qs i ≤ e
open Classical in
noncomputable def okSp (t e : Int) (ss : List Int) (ps : List P2) (qs : List Int) : Bool := decide (OkSp t e ss ps qs)
theorem okSp_true {t e : Int} {ss : List Int} {ps : List P2} {qs : List Int} (h : OkSp t e ss ps qs) : okSp t e ss ps qs = true := by unfold okSp; exact @decide_eq_true _ (Classical.propDecidable _) h
theorem okSp_false {t e : Int} {ss : List Int} {ps : List P2} {qs : List Int} (h : ¬ OkSp t e ss ps qs) : okSp t e ss ps qs = false := by unfold okSp; exact @decide_eq_false _ (Classical.propDecidable _) h

theorem rise_lt {f : Nat → Int} {n : Nat} (h : ∀ i, i + 1 < n → f i < f (i + 1)) : ∀ d i, i + d + 1 < n → f i < f (i + d + 1)
  | 0, i, hi => h i hi
  | d + 1, i, hi => Int.lt_trans (rise_lt h d i (by omega)) (h (i + d + 1) hi)
theorem rise_lt' {f : Nat → Int} {n i j : Nat} (h : ∀ i, i + 1 < n → f i < f (i + 1)) (hij : i < j) (hj : j < n) : f i < f j := by
  have := rise_lt h (j - i - 1) i (by omega)
  have e : i + (j - i - 1) + 1 = j := by omega
  rwa [e] at this
/-- The number ahead of number k, -1 ahead of the first. -/
def lastI (ss : List Int) : Nat → Int
  | 0 => -1
  | k + 1 => nthI ss k
def lastP (ps : List P2) : Nat → Int
  | 0 => -1
  | k + 1 => (nthP ps k).1
theorem RiseI.last {t : Int} {ss : List Int} {k : Nat} (h : RiseI t ss k) : -1 ≤ lastI ss k := by
  cases k with
  | zero => exact Int.le_refl _
  | succ k => have := (h.1 k (by omega)).1; show -1 ≤ nthI ss k; omega
theorem RiseI.step {t : Int} {ss : List Int} {k : Nat} (h : RiseI t ss k) (h1 : lastI ss k < nthI ss k) (h2 : nthI ss k < t) : RiseI t ss (k + 1) := by
  have hl := h.last
  refine ⟨fun i hi => ?_, fun i hi => ?_⟩
  · by_cases e : i = k
    · subst e; exact ⟨by omega, h2⟩
    · exact h.1 i (by omega)
  · by_cases e : i + 1 = k
    · subst e; exact h1
    · exact h.2 i (by omega)
theorem RiseI.less {t : Int} {ss : List Int} {k n : Nat} (h : RiseI t ss n) (hk : k ≤ n) : RiseI t ss k := ⟨fun i hi => h.1 i (by omega), fun i hi => h.2 i (by omega)⟩
theorem RiseI.cond {t : Int} {ss : List Int} {k n : Nat} (h : RiseI t ss n) (hk : k < n) : lastI ss k < nthI ss k ∧ nthI ss k < t := by
  refine ⟨?_, (h.1 k hk).2⟩
  cases k with
  | zero => have := (h.1 0 hk).1; show -1 < _; omega
  | succ k => exact h.2 k hk
theorem RiseP.last {t e : Int} {ps : List P2} {k : Nat} (h : RiseP t e ps k) : -1 ≤ lastP ps k := by
  cases k with
  | zero => exact Int.le_refl _
  | succ k => have := (h.1 k (by omega)).1.1; show -1 ≤ (nthP ps k).1; omega
theorem RiseP.step {t e : Int} {ps : List P2} {k : Nat} (h : RiseP t e ps k) (h1 : lastP ps k < (nthP ps k).1) (h2 : (nthP ps k).1 < t) (h3 : 0 ≤ (nthP ps k).2) (h4 : (nthP ps k).2 < e) : RiseP t e ps (k + 1) := by
  have hl := h.last
  refine ⟨fun i hi => ?_, fun i hi => ?_⟩
  · by_cases e : i = k
    · subst e; exact ⟨⟨by omega, h2⟩, h3, h4⟩
    · exact h.1 i (by omega)
  · by_cases e : i + 1 = k
    · subst e; exact h1
    · exact h.2 i (by omega)
theorem RiseP.cond {t e : Int} {ps : List P2} {k n : Nat} (h : RiseP t e ps n) (hk : k < n) : lastP ps k < (nthP ps k).1 ∧ (nthP ps k).1 < t ∧ 0 ≤ (nthP ps k).2 ∧ (nthP ps k).2 < e := by
  refine ⟨?_, (h.1 k hk).1.2, (h.1 k hk).2⟩
  cases k with
  | zero => have := (h.1 0 hk).1.1; show -1 < _; omega
  | succ k => exact h.2 k hk

/-- What a set has. -/
theorem key_int (x : Int) : WideAt.IsKeyLit (.int .i64 x) := by simp [WideAt.IsKeyLit]
theorem isMap_dOf (kv : List P2) : Tidy (dOf kv) := by
  suffices ∀ (l : List P2) (D : DU), Tidy D → Tidy (l.foldl putE D) from this kv _ tidy_empty
  intro l
  induction l with
  | nil => intro D h; exact h
  | cons x l ih => intro D h; exact ih _ (h.put (key_int _) _)
theorem has_dOf (kv : List P2) (k : Int) : Maps.has (dOf kv) (.int .i64 k) = kv.any (fun x => x.1 == k) := by
  suffices ∀ (l : List P2) (D : DU), IsMap D → Maps.has (l.foldl putE D) (.int .i64 k) = (Maps.has D (.int .i64 k) || l.any (fun x => x.1 == k)) from (this kv _ isMap_empty).trans (by simp [Maps.has])
  intro l
  induction l with
  | nil => intro D _; simp
  | cons x l ih =>
    intro D h
    rw [List.foldl_cons, ih _ (by unfold putE; exact h.put _ _), List.any_cons]
    by_cases e : x.1 = k
    · unfold putE
      rw [← e, has_put_same h (key_int _)]
      simp
    · unfold putE
      rw [has_put_other (by simpa using fun h => e h.symm)]
      have : (x.1 == k) = false := by simpa using e
      simp [this]
theorem size_snoc (kv : List P2) (x : P2) : Maps.size (dOf (kv ++ [x])) = if kv.any (fun y => y.1 == x.1) then Maps.size (dOf kv) else Maps.size (dOf kv) + 1 := by
  rw [dOf_snoc]
  unfold putE
  rw [size_put (isMap_dOf kv), has_dOf]
theorem nodup_rev {α : Type} {l : List α} : l.reverse.Nodup ↔ l.Nodup := (List.reverse_perm l).nodup_iff
theorem size_dOf (kv : List P2) : Maps.size (dOf kv) ≤ kv.length ∧ (Maps.size (dOf kv) = kv.length ↔ (kv.map (·.1)).Nodup) := by
  suffices ∀ l : List P2, Maps.size (dOf l.reverse) ≤ l.length ∧ (Maps.size (dOf l.reverse) = l.length ↔ (l.map (·.1)).Nodup) by
    have h := this kv.reverse
    rw [List.reverse_reverse, List.length_reverse, List.map_reverse] at h
    exact ⟨h.1, h.2.trans nodup_rev⟩
  intro l
  induction l with
  | nil => simp [dOf, Maps.size]
  | cons x l ih =>
    rw [List.reverse_cons, size_snoc, List.any_reverse, List.map_cons, List.nodup_cons, List.length_cons]
    by_cases h : l.any (fun y => y.1 == x.1) = true
    · rw [if_pos h]
      refine ⟨by omega, ⟨fun h' => by omega, fun h' => absurd ?_ h'.1⟩⟩
      obtain ⟨y, hy, e⟩ := List.any_eq_true.1 h
      exact List.mem_map.2 ⟨y, hy, by simpa using e⟩
    · rw [if_neg h]
      refine ⟨by omega, ?_⟩
      have hn : x.1 ∉ l.map (·.1) := fun hm => by
        obtain ⟨y, hy, e⟩ := List.mem_map.1 hm
        exact h (List.any_eq_true.2 ⟨y, hy, by simpa using e⟩)
      constructor
      · intro h'; exact ⟨hn, ih.2.1 (by omega)⟩
      · intro h'; rw [ih.2.2 h'.2]
theorem nthI_get {ss : List Int} {k : Nat} (hk : k < ss.length) : nthI ss k = ss[k] := by
  unfold nthI; rw [List.getD_eq_getElem?_getD, List.getElem?_eq_getElem hk]; rfl
theorem nthP_get {ps : List P2} {k : Nat} (hk : k < ps.length) : nthP ps k = ps[k] := by
  unfold nthP; rw [List.getD_eq_getElem?_getD, List.getElem?_eq_getElem hk]; rfl
theorem RiseI.nodup {t : Int} {ss : List Int} (h : RiseI t ss ss.length) : ss.Nodup := List.pairwise_iff_getElem.2 fun i j hi hj hij => by
  have := rise_lt' h.2 hij hj
  rw [nthI_get hi, nthI_get hj] at this
  omega
theorem RiseP.nodup {t e : Int} {ps : List P2} (h : RiseP t e ps ps.length) : (ps.map (·.1)).Nodup := List.pairwise_iff_getElem.2 fun i j hi hj hij => by
  rw [List.length_map] at hi hj
  have := rise_lt' (f := fun i => (nthP ps i).1) h.2 hij hj
  simp only [nthP_get hi, nthP_get hj] at this
  rw [List.getElem_map, List.getElem_map]
  omega
theorem kv_keys (e : Int) (ss : List Int) (ps : List P2) : (kvOf e ss ps).map (·.1) = ss ++ ps.map (·.1) := by
  unfold kvOf
  rw [List.map_append, List.map_map]
  congr 1
  exact List.map_id _
/-- Two rising lists have no page in common just where the set has as many as both. -/
theorem size_both {t e : Int} {ss : List Int} {ps : List P2} (h1 : RiseI t ss ss.length) (h2 : RiseP t e ps ps.length) :
    Maps.size (dOf (kvOf e ss ps)) = ss.length + ps.length ↔ ∀ i, i < ss.length → ∀ j, j < ps.length → nthI ss i ≠ (nthP ps j).1 := by
  have hl : (kvOf e ss ps).length = ss.length + ps.length := by simp [kvOf]
  rw [← hl, (size_dOf _).2, kv_keys, List.nodup_append]
  constructor
  · rintro ⟨_, _, h⟩ i hi j hj
    rw [nthI_get hi, nthP_get hj]
    exact h _ (List.getElem_mem hi) _ (List.mem_map.2 ⟨_, List.getElem_mem hj, rfl⟩)
  · intro h
    refine ⟨h1.nodup, h2.nodup, fun a ha b hb => ?_⟩
    obtain ⟨i, hi, rfl⟩ := List.getElem_of_mem ha
    obtain ⟨y, hy, rfl⟩ := List.mem_map.1 hb
    obtain ⟨j, hj, rfl⟩ := List.getElem_of_mem hy
    have := h i hi j hj
    rwa [nthI_get hi, nthP_get hj] at this
/-- So many different numbers below t are at most t. -/
theorem pigeon : ∀ (t : Nat) (l : List Int), l.Nodup → (∀ x ∈ l, 0 ≤ x ∧ x < t) → l.length ≤ t
  | 0, l, _, h => by
    cases l with
    | nil => exact Nat.le_refl _
    | cons x l => have := h x (by simp); omega
  | t + 1, l, hn, h => by
    by_cases hm : (t : Int) ∈ l
    · have h1 := pigeon t (l.erase (t : Int)) (hn.erase _) (fun x hx => by
        have := (hn.mem_erase_iff).1 hx
        have h2 := h x this.2
        omega)
      rw [List.length_erase_of_mem hm] at h1
      omega
    · have := pigeon t l hn (fun x hx => by
        have h2 := h x hx
        have : x ≠ (t : Int) := fun e => hm (e ▸ hx)
        omega)
      omega
theorem ok_many {t e : Int} {ss : List Int} {ps : List P2} {qs : List Int} (h : OkSp t e ss ps qs) : (ss.length : Int) + ps.length ≤ t := by
  obtain ⟨ht, _, h1, h2, h3, _⟩ := h
  have hn : (ss ++ ps.map (·.1)).Nodup := by
    rw [← kv_keys e]
    have := (size_both (e := e) h1 h2).2 h3
    have hl : (kvOf e ss ps).length = ss.length + ps.length := by simp [kvOf]
    exact (size_dOf _).2.1 (by rw [hl]; exact this)
  have := pigeon t.toNat _ hn (fun x hx => by
    rcases List.mem_append.1 hx with hx | hx
    · obtain ⟨i, hi, rfl⟩ := List.getElem_of_mem hx
      have := h1.1 i hi
      rw [nthI_get hi] at this
      omega
    · obtain ⟨y, hy, rfl⟩ := List.mem_map.1 hx
      obtain ⟨i, hi, rfl⟩ := List.getElem_of_mem hy
      have := (h2.1 i hi).1
      rw [nthP_get hi] at this
      omega)
  rw [List.length_append, List.length_map] at this
  omega
end Go.Proofs.Ytaklphoplfofbaa
