/- Which nodes are reached: mathematics (stage 5). -/
import Derived.Test.YthflalpapdaidaaTreI
namespace Go.Proofs.Ythflalpapdaidaa
open Go.RowKit

/-- j is a kid of node m. -/
def KidOf (ns : List Nd) (m j : Nat) : Prop := ∃ i, i < (nthN ns m).2.2.2.length ∧ nthI (nthN ns m).2.2.2 i = (j : Int)
def RootOf (rs : List Int) (j : Nat) : Prop := ∃ i, i < rs.length ∧ nthI rs i = (j : Int)
/-- Node j is reached from these roots. -/
inductive Rch (ns : List Nd) (rs : List Int) : Nat → Prop where
  | root {j : Nat} (h : RootOf rs j) : Rch ns rs j
  | kid {m j : Nat} (h : Rch ns rs m) (hm : m < ns.length) (hk : KidOf ns m j) : Rch ns rs j
theorem Rch.parts {ns : List Nd} {rs : List Int} {j : Nat} (h : Rch ns rs j) : RootOf rs j ∨ ∃ m, m < ns.length ∧ Rch ns rs m ∧ KidOf ns m j := by
  cases h with
  | root h => exact .inl h
  | kid h hm hk => exact .inr ⟨_, hm, h, hk⟩
/-- Kids stand ahead of their nodes. -/
def KidsLt (ns : List Nd) : Prop := ∀ m, m < ns.length → ∀ i, i < (nthN ns m).2.2.2.length → 0 ≤ nthI (nthN ns m).2.2.2 i ∧ nthI (nthN ns m).2.2.2 i < (m : Int)
theorem ForOK.kids {ns : List Nd} (h : ForOK ns) : KidsLt ns := fun m hm i hi => by
  have hn := h.2 m hm
  generalize nthN ns m = nd at *
  obtain ⟨l, ks, vs, is⟩ := nd
  cases l with
  | true =>
    have := (NodeOK.leaf.1 hn).2.1
    simp only at hi
    omega
  | false =>
    have := (NodeOK.inner.1 hn).2.2
    exact this.2 i hi
theorem KidsLt.lt {ns : List Nd} (h : KidsLt ns) {m j : Nat} (hm : m < ns.length) (hk : KidOf ns m j) : j < m := by
  obtain ⟨i, hi, e⟩ := hk
  have := (h m hm i hi).2
  rw [e] at this
  omega
/-- Flags by which nodes from i on have told their kids. -/
def FlI (ns : List Nd) (rs : List Int) (i : Nat) (f : Nat → Bool) : Prop := ∀ j, j < ns.length → (f j = true ↔ RootOf rs j ∨ ∃ m, i ≤ m ∧ m < ns.length ∧ Rch ns rs m ∧ KidOf ns m j)
theorem FlI.at {ns : List Nd} {rs : List Int} {i t : Nat} {f : Nat → Bool} (hk : KidsLt ns) (h : FlI ns rs i f) (ht : t < ns.length) (hi : i ≤ t + 1) : f t = true ↔ Rch ns rs t := by
  rw [h t ht]
  constructor
  · rintro (h | ⟨m, _, hm, hr, hko⟩)
    · exact .root h
    · exact .kid hr hm hko
  · intro hr
    rcases hr.parts with h | ⟨m, hm, hr', hko⟩
    · exact .inl h
    · have := hk.lt hm hko
      exact .inr ⟨m, by omega, hm, hr', hko⟩
theorem FlI.step {ns : List Nd} {rs : List Int} {t : Nat} {f f' : Nat → Bool} (hk : KidsLt ns) (h : FlI ns rs (t + 1) f) (ht : t < ns.length) (hf : ∀ j, j < ns.length → (f' j = true ↔ f j = true ∨ (f t = true ∧ KidOf ns t j))) : FlI ns rs t f' := fun j hj => by
  rw [hf j hj, h j hj, h.at hk ht (Nat.le_refl _)]
  constructor
  · rintro ((h1 | ⟨m, h1, h2, h3, h4⟩) | ⟨h1, h2⟩)
    · exact .inl h1
    · exact .inr ⟨m, by omega, h2, h3, h4⟩
    · exact .inr ⟨t, Nat.le_refl _, ht, h1, h2⟩
  · rintro (h1 | ⟨m, h1, h2, h3, h4⟩)
    · exact .inl (.inl h1)
    · by_cases e : m = t
      · subst e; exact .inr ⟨h3, h4⟩
      · exact .inl (.inr ⟨m, by omega, h2, h3, h4⟩)
/-- What a search from node t adds to the flags: those below t, and of each one its kids. -/
structure Adds (ns : List Nd) (t : Nat) (f f' : Nat → Bool) : Prop where
  keep : ∀ j, f j = true → f' j = true
  here : f' t = true
  from_ : ∀ j, f' j = true → f j = true ∨ Rch ns [(t : Int)] j
  shut : ∀ j, j < ns.length → f' j = true → f j = false → ∀ m, KidOf ns j m → f' m = true
theorem rch_trans {ns : List Nd} {rs : List Int} {t j : Nat} (h : Rch ns [(t : Int)] j) (ht : Rch ns rs t) : Rch ns rs j := by
  induction h with
  | @root j' h =>
    obtain ⟨i, hi, e⟩ := h
    obtain rfl : i = 0 := by simpa using hi
    obtain rfl : t = j' := by
      have e' : (t : Int) = (j' : Int) := by simpa [nthI] using e
      omega
    exact ht
  | kid _ hm hk ih => exact .kid ih hm hk
theorem rch_self (ns : List Nd) (t : Nat) : Rch ns [(t : Int)] t := .root ⟨0, by simp, by simp [nthI]⟩
/-- The flags that a search over all roots leaves. -/
structure Seen (ns : List Nd) (rs : List Int) (k : Nat) (f : Nat → Bool) : Prop where
  roots : ∀ i, i < k → ∀ j : Nat, nthI rs i = (j : Int) → f j = true
  from_ : ∀ j, f j = true → Rch ns rs j
  shut : ∀ j, j < ns.length → f j = true → ∀ m, KidOf ns j m → f m = true
theorem Seen.all {ns : List Nd} {rs : List Int} {f : Nat → Bool} (h : Seen ns rs rs.length f) (j : Nat) : f j = true ↔ Rch ns rs j := by
  refine ⟨h.from_ j, fun hr => ?_⟩
  induction hr with
  | root h' =>
    obtain ⟨i, hi, e⟩ := h'
    exact h.roots i hi _ e
  | kid _ hm hk ih => exact h.shut _ hm ih _ hk
theorem Seen.step {ns : List Nd} {rs : List Int} {k t : Nat} {f f' : Nat → Bool} (h : Seen ns rs k f) (hk : k < rs.length) (e : nthI rs k = (t : Int)) (ha : Adds ns t f f') : Seen ns rs (k + 1) f' := by
  have ht : Rch ns rs t := .root ⟨k, hk, e⟩
  refine ⟨fun i hi j hj => ?_, fun j hj => ?_, fun j hj hf m hm => ?_⟩
  · by_cases ek : i = k
    · subst ek
      rw [e] at hj
      obtain rfl : t = j := by omega
      exact ha.here
    · exact ha.keep _ (h.roots i (by omega) j hj)
  · rcases ha.from_ j hj with h1 | h1
    · exact h.from_ j h1
    · exact rch_trans h1 ht
  · cases hfj : f j with
    | true => exact ha.keep _ (h.shut j hj hfj m hm)
    | false => exact ha.shut j hj hf hfj m hm
theorem Seen.skip {ns : List Nd} {rs : List Int} {k : Nat} {f : Nat → Bool} (h : Seen ns rs k f) (e : nthI rs k = -1) : Seen ns rs (k + 1) f := by
  refine ⟨fun i hi j hj => ?_, h.from_, h.shut⟩
  by_cases ek : i = k
  · subst ek
    rw [e] at hj
    omega
  · exact h.roots i (by omega) j hj
/-- A search that has marked t and gone into the first k of its kids. -/
structure Part (ns : List Nd) (t k : Nat) (f f' : Nat → Bool) : Prop where
  keep : ∀ j, f j = true → f' j = true
  here : f' t = true
  from_ : ∀ j, f' j = true → f j = true ∨ Rch ns [(t : Int)] j
  shut : ∀ j, j < ns.length → j ≠ t → f' j = true → f j = false → ∀ m, KidOf ns j m → f' m = true
  kids : ∀ i, i < k → ∀ j : Nat, nthI (nthN ns t).2.2.2 i = (j : Int) → f' j = true
theorem Part.start {ns : List Nd} {t : Nat} {f : Nat → Bool} : Part ns t 0 f (fun j => if j = t then true else f j) := by
  refine ⟨fun j hj => ?_, by simp, fun j hj => ?_, fun j _ hjt hj hf => ?_, fun i hi => by omega⟩
  · show (if j = t then true else f j) = true
    split <;> simp [hj]
  · by_cases e : j = t
    · subst e; exact .inr (rch_self ns j)
    · simp only [e, if_false] at hj
      exact .inl hj
  · simp only [hjt, if_false] at hj
    rw [hf] at hj
    cases hj
theorem Part.step {ns : List Nd} {t k c : Nat} {f f' f'' : Nat → Bool} (h : Part ns t k f f') (ht : t < ns.length) (hk : k < (nthN ns t).2.2.2.length) (e : nthI (nthN ns t).2.2.2 k = (c : Int)) (ha : Adds ns c f' f'') : Part ns t (k + 1) f f'' := by
  have hc : Rch ns [(t : Int)] c := .kid (rch_self ns t) ht ⟨k, hk, e⟩
  refine ⟨fun j hj => ha.keep _ (h.keep j hj), ha.keep _ h.here, fun j hj => ?_, fun j hj hjt hf hf0 m hm => ?_, fun i hi j hj => ?_⟩
  · rcases ha.from_ j hj with h1 | h1
    · exact h.from_ j h1
    · exact .inr (rch_trans h1 hc)
  · cases hfj : f' j with
    | true => exact ha.keep _ (h.shut j hj hjt hfj hf0 m hm)
    | false => exact ha.shut j hj hf hfj m hm
  · by_cases ek : i = k
    · subst ek
      rw [e] at hj
      obtain rfl : c = j := by omega
      exact ha.here
    · exact ha.keep _ (h.kids i (by omega) j hj)
theorem Part.done {ns : List Nd} {t : Nat} {f f' : Nat → Bool} (h : Part ns t (nthN ns t).2.2.2.length f f') : Adds ns t f f' := by
  refine ⟨h.keep, h.here, h.from_, fun j hj hf hf0 m hm => ?_⟩
  by_cases e : j = t
  · subst e
    obtain ⟨i, hi, e'⟩ := hm
    exact h.kids i hi m e'
  · exact h.shut j hj e hf hf0 m hm
theorem Adds.same {ns : List Nd} {t : Nat} {f : Nat → Bool} (h : f t = true) : Adds ns t f f :=
  ⟨fun _ h => h, h, fun _ h => .inl h, fun j _ h1 h2 => by rw [h1] at h2; cases h2⟩
/-- The list of those that are reached. -/
def upL (f : Nat → Bool) (n : Nat) : List Int := ((List.range n).filter f).map (fun j : Nat => (j : Int))
theorem upL_succ (f : Nat → Bool) (n : Nat) : upL f (n + 1) = if f n = true then upL f n ++ [(n : Int)] else upL f n := by
  unfold upL
  rw [List.range_succ, List.filter_append, List.map_append]
  by_cases h : f n = true
  · rw [if_pos h]; simp [h]
  · rw [if_neg h]; simp [h]
theorem upL_len (f : Nat → Bool) (n : Nat) : (upL f n).length ≤ n := by
  unfold upL
  rw [List.length_map]
  exact Nat.le_trans (List.length_filter_le _ _) (by simp)
theorem upL_congr {f f' : Nat → Bool} {n : Nat} (h : ∀ j, j < n → f j = f' j) : upL f n = upL f' n := by
  unfold upL
  congr 1
  exact List.filter_congr fun j hj => h j (by simpa using hj)
end Go.Proofs.Ythflalpapdaidaa
