/- What stays held is one list on both sides (stage 4): plain mathematics. -/
import Derived.Test.YtaklphoplfofbaaStD
namespace Go.Proofs.Ytaklphoplfofbaa

/-- Pages rise. -/
abbrev Ris (L : List P2) : Prop := L.Pairwise (fun a b => a.1 < b.1)

theorem foldl_none (k : Int) : ∀ (L : List P2) (z : Int), (∀ x ∈ L, x.1 ≠ k) → L.foldl (fun acc x => if x.1 = k then x.2 else acc) z = z
  | [], _, _ => rfl
  | x :: L, z, h => by
    rw [List.foldl_cons, if_neg (h x (by simp))]
    exact foldl_none k L z fun y hy => h y (by simp [hy])
theorem val_mem (k v : Int) : ∀ (L : List P2) (z : Int), L.Pairwise (fun a b => a.1 ≠ b.1) → (k, v) ∈ L → L.foldl (fun acc x => if x.1 = k then x.2 else acc) z = v
  | [], _, _, h => by cases h
  | x :: L, z, hp, h => by
    rw [List.pairwise_cons] at hp
    rw [List.foldl_cons]
    rcases List.mem_cons.mp h with e | h'
    · subst e
      rw [if_pos rfl]
      exact foldl_none k L v fun y hy => (hp.1 y hy).symm
    · exact val_mem k v L _ hp.2 h'
theorem valK_mem {L : List P2} {k v : Int} (hp : L.Pairwise (fun a b => a.1 ≠ b.1)) (h : (k, v) ∈ L) : valK L k = v := val_mem k v L 0 hp h
theorem any_key {L : List P2} {k : Int} : L.any (fun x => x.1 == k) = true ↔ ∃ v, (k, v) ∈ L := by
  rw [List.any_eq_true]
  constructor
  · rintro ⟨⟨a, b⟩, hx, he⟩
    have : a = k := by simpa using he
    subst this
    exact ⟨b, hx⟩
  · rintro ⟨v, hv⟩
    exact ⟨_, hv, by simp⟩

theorem heldK_succ (e o : Int) (kv : List P2) (k : Nat) : heldK e o kv (k + 1) = if kv.any (fun x => x.1 == (k : Int)) = true ∧ o ≤ valK kv k ∧ valK kv k < e then heldK e o kv k ++ [((k : Int), valK kv k)] else heldK e o kv k := rfl
/-- The same pages with the same epochs give the same list. -/
theorem heldK_perm {e o : Int} {L M : List P2} (h : L.Perm M) (hp : L.Pairwise (fun a b => a.1 ≠ b.1)) : ∀ k, heldK e o L k = heldK e o M k
  | 0 => rfl
  | k + 1 => by
    have ih := heldK_perm (e := e) (o := o) h hp k
    have hq : M.Pairwise (fun a b => a.1 ≠ b.1) := h.pairwise hp (fun hab => hab.symm)
    by_cases ha : ∃ v, ((k : Int), v) ∈ L
    · obtain ⟨v, hv⟩ := ha
      have v1 := valK_mem hp hv
      have v2 := valK_mem hq (h.mem_iff.mp hv)
      have a1 := any_key.mpr ⟨v, hv⟩
      have a2 := any_key.mpr ⟨v, h.mem_iff.mp hv⟩
      unfold heldK
      rw [ih, v1, v2, a1, a2]
    · have b1 : ¬ L.any (fun x => x.1 == (k : Int)) = true := fun c => ha (any_key.mp c)
      have b2 : ¬ M.any (fun x => x.1 == (k : Int)) = true := fun c => ha (by obtain ⟨v, hv⟩ := any_key.mp c; exact ⟨v, h.mem_iff.mpr hv⟩)
      unfold heldK
      rw [if_neg (fun c => b1 c.1), if_neg (fun c => b2 c.1), ih]

theorem filt_none {L : List P2} {p : P2 → Bool} (h : ∀ x ∈ L, p x = false) : L.filter p = [] := by
  rw [List.filter_eq_nil_iff]
  intro x hx
  rw [h x hx]
  decide
theorem filt_step (k : Nat) : ∀ (L : List P2), Ris L → L.filter (fun x => decide (x.1 < ((k + 1 : Nat) : Int))) = L.filter (fun x => decide (x.1 < (k : Int))) ++ L.filter (fun x => x.1 == (k : Int))
  | [], _ => rfl
  | x :: L, h => by
    rw [Ris, List.pairwise_cons] at h
    have ih := filt_step k L h.2
    rcases (show x.1 < (k : Int) ∨ x.1 = (k : Int) ∨ (k : Int) < x.1 by omega) with c | c | c
    · rw [List.filter_cons_of_pos (by simp; omega), List.filter_cons_of_pos (by simp; omega), List.filter_cons_of_neg (by simp; omega), ih, List.cons_append]
    · rw [List.filter_cons_of_pos (by simp; omega), List.filter_cons_of_neg (by simp; omega), List.filter_cons_of_pos (by simp; omega)]
      rw [filt_none (L := L) (fun y hy => by have := h.1 y hy; simp; omega), filt_none (L := L) (fun y hy => by have := h.1 y hy; simp; omega), filt_none (L := L) (fun y hy => by have := h.1 y hy; simp; omega)]
      rfl
    · rw [List.filter_cons_of_neg (by simp; omega), List.filter_cons_of_neg (by simp; omega), List.filter_cons_of_neg (by simp; omega), ih]
theorem filt_at (k : Int) : ∀ (L : List P2), Ris L → ∀ v, (k, v) ∈ L → L.filter (fun x => x.1 == k) = [(k, v)]
  | [], _, _, h => by cases h
  | x :: L, h, v, hv => by
    rw [Ris, List.pairwise_cons] at h
    rcases List.mem_cons.mp hv with c | c
    · subst c
      rw [List.filter_cons_of_pos (by simp), filt_none (L := L) (fun y hy => by have := h.1 y hy; simp; dsimp only at this; omega)]
    · have := h.1 _ c
      rw [List.filter_cons_of_neg (by simp; dsimp only at this; omega)]
      exact filt_at k L h.2 v c

/-- A list whose pages rise is cut to what stays. -/
theorem heldK_ris {e o : Int} {L : List P2} (h : Ris L) (hz : ∀ x ∈ L, 0 ≤ x.1) : ∀ k : Nat, heldK e o L k = (L.filter (fun x => decide (x.1 < (k : Int)))).filter (fun x => decide (o ≤ x.2 ∧ x.2 < e))
  | 0 => by
    rw [filt_none (L := L) (fun x hx => by have := hz x hx; simp; omega)]
    rfl
  | k + 1 => by
    have ih := heldK_ris (e := e) (o := o) h hz k
    have hp : L.Pairwise (fun a b => a.1 ≠ b.1) := List.Pairwise.imp (fun hab => by omega) h
    rw [filt_step k L h, List.filter_append, ← ih]
    by_cases ha : ∃ v, ((k : Int), v) ∈ L
    · obtain ⟨v, hv⟩ := ha
      have v1 := valK_mem hp hv
      have a1 := any_key.mpr ⟨v, hv⟩
      rw [filt_at (k : Int) L h v hv, heldK_succ, v1, a1]
      by_cases c : o ≤ v ∧ v < e
      · rw [if_pos ⟨rfl, c⟩, List.filter_cons_of_pos (by simpa using c)]
        rfl
      · rw [if_neg (fun d => c d.2), List.filter_cons_of_neg (by simpa using c)]
        simp
    · have b1 : ¬ L.any (fun x => x.1 == (k : Int)) = true := fun c => ha (any_key.mp c)
      have b2 : L.filter (fun x => x.1 == (k : Int)) = [] := filt_none fun x hx => by
        cases hc : x.1 == (k : Int)
        · rfl
        · exact absurd (List.any_eq_true.mpr ⟨x, hx, hc⟩) b1
      rw [b2, heldK_succ, if_neg (fun c => b1 c.1)]
      simp
theorem heldK_all {e o : Int} {L : List P2} {t : Nat} (h : Ris L) (hz : ∀ x ∈ L, 0 ≤ x.1 ∧ x.1 < (t : Int)) : heldK e o L t = L.filter (fun x => decide (o ≤ x.2 ∧ x.2 < e)) := by
  rw [heldK_ris h (fun x hx => (hz x hx).1) t]
  congr 1
  rw [List.filter_eq_self]
  intro x hx
  simpa using (hz x hx).2

/-- The pages of now and the held ones, by their numbers. -/
def mer (e : Int) : List Int → List P2 → List P2
  | [], ps => ps
  | s :: ss, [] => (s, e) :: mer e ss []
  | s :: ss, p :: ps => if s < p.1 then (s, e) :: mer e ss (p :: ps) else p :: mer e (s :: ss) ps
termination_by ss ps => ss.length + ps.length
theorem mer_perm (e : Int) (ss : List Int) (ps : List P2) : (mer e ss ps).Perm (kvOf e ss ps) := by
  induction ss, ps using mer.induct with
  | case1 ps => unfold mer kvOf; simp
  | case2 s ss ih =>
    unfold mer
    exact ih.cons _
  | case3 s ss p ps h ih =>
    unfold mer
    rw [if_pos h]
    exact ih.cons _
  | case4 s ss p ps h ih =>
    unfold mer
    rw [if_neg h]
    refine (ih.cons p).trans ?_
    unfold kvOf
    exact List.perm_middle.symm
theorem mer_ris (e : Int) (ss : List Int) (ps : List P2) (h1 : ss.Pairwise (· < ·)) (h2 : Ris ps) (h3 : ∀ s ∈ ss, ∀ p ∈ ps, s ≠ p.1) : Ris (mer e ss ps) := by
  induction ss, ps using mer.induct with
  | case1 ps => unfold mer; exact h2
  | case2 s ss ih =>
    unfold mer
    rw [List.pairwise_cons] at h1
    refine List.pairwise_cons.mpr ⟨fun x hx => ?_, ih h1.2 h2 (fun _ _ p hp => by cases hp)⟩
    have hm := (mer_perm e ss []).mem_iff.mp hx
    unfold kvOf at hm
    simp at hm
    obtain ⟨a, ha, rfl⟩ := hm
    exact h1.1 a ha
  | case3 s ss p ps h ih =>
    unfold mer
    rw [if_pos h]
    rw [List.pairwise_cons] at h1
    have h2' := List.pairwise_cons.mp h2
    refine List.pairwise_cons.mpr ⟨fun x hx => ?_, ih h1.2 h2 (fun a ha q hq => h3 a (by simp [ha]) q hq)⟩
    have hm := (mer_perm e ss (p :: ps)).mem_iff.mp hx
    unfold kvOf at hm
    rcases List.mem_append.mp hm with hm | hm
    · obtain ⟨a, ha, rfl⟩ := List.mem_map.mp hm
      exact h1.1 a ha
    · rcases List.mem_cons.mp hm with rfl | hm
      · exact h
      · have := h2'.1 x hm
        show s < x.1
        omega
  | case4 s ss p ps h ih =>
    unfold mer
    rw [if_neg h]
    have h1' := List.pairwise_cons.mp h1
    rw [Ris, List.pairwise_cons] at h2
    refine List.pairwise_cons.mpr ⟨fun x hx => ?_, ih h1 h2.2 (fun a ha q hq => h3 a ha q (by simp [hq]))⟩
    have hne := h3 s (by simp) p (by simp)
    have hm := (mer_perm e (s :: ss) ps).mem_iff.mp hx
    unfold kvOf at hm
    rcases List.mem_append.mp hm with hm | hm
    · obtain ⟨a, ha, rfl⟩ := List.mem_map.mp hm
      show p.1 < a
      rcases List.mem_cons.mp ha with rfl | ha
      · omega
      · have := h1'.1 a ha
        omega
    · exact h2.1 x hm

/-- Held pages that stay, as the document says: of the epoch ahead of e or later, or of a pin's or later. -/
def relP (e : Int) (qs : List Int) (ps : List P2) : List P2 := ps.filter fun p => decide (e - 1 ≤ p.2) || qs.any (fun q => decide (q ≤ p.2))
theorem fold_min (x : Int) : ∀ (qs : List Int) (z : Int), qs.foldl min z ≤ x ↔ z ≤ x ∨ ∃ q ∈ qs, q ≤ x
  | [], z => by simp
  | q :: qs, z => by
    rw [List.foldl_cons, fold_min x qs (min z q)]
    constructor
    · rintro (h | ⟨r, hr, h⟩)
      · rcases (show z ≤ x ∨ q ≤ x by omega) with h' | h'
        · exact .inl h'
        · exact .inr ⟨q, by simp, h'⟩
      · exact .inr ⟨r, by simp [hr], h⟩
    · rintro (h | ⟨r, hr, h⟩)
      · exact .inl (by omega)
      · rcases List.mem_cons.mp hr with rfl | hr
        · exact .inl (by omega)
        · exact .inr ⟨r, hr, h⟩
theorem oldN_le (e x : Int) (qs : List Int) (hx : 0 ≤ x) : oldN e qs ≤ x ↔ e - 1 ≤ x ∨ ∃ q ∈ qs, q ≤ x := by
  unfold oldN
  rw [fold_min]
  constructor
  · rintro (h | h)
    · exact .inl (by omega)
    · exact .inr h
  · rintro (h | h)
    · exact .inl (by omega)
    · exact .inr h
theorem keep_eq (e : Int) (qs : List Int) (L : List P2) (h : ∀ x ∈ L, 0 ≤ x.2 ∧ x.2 < e) : L.filter (fun x => decide (oldN e qs ≤ x.2 ∧ x.2 < e)) = relP e qs L := by
  unfold relP
  refine List.filter_congr fun x hx => ?_
  obtain ⟨h0, h1⟩ := h x hx
  rw [Bool.eq_iff_iff, Bool.or_eq_true, decide_eq_true_eq, decide_eq_true_eq, List.any_eq_true]
  constructor
  · rintro ⟨c, _⟩
    rcases (oldN_le e x.2 qs h0).mp c with c | ⟨q, hq, c⟩
    · exact .inl c
    · exact .inr ⟨q, hq, by simpa using c⟩
  · intro c
    refine ⟨(oldN_le e x.2 qs h0).mpr ?_, h1⟩
    rcases c with c | ⟨q, hq, c⟩
    · exact .inl c
    · exact .inr ⟨q, hq, by simpa using c⟩
theorem mer_filt (e : Int) (p : P2 → Bool) (hp : ∀ s, p (s, e) = false) (ss : List Int) (ps : List P2) : (mer e ss ps).filter p = ps.filter p := by
  induction ss, ps using mer.induct with
  | case1 ps => unfold mer; rfl
  | case2 s ss ih =>
    unfold mer
    rw [List.filter_cons_of_neg (by rw [hp]; decide), ih]
  | case3 s ss q ps h ih =>
    unfold mer
    rw [if_pos h, List.filter_cons_of_neg (by rw [hp]; decide), ih]
  | case4 s ss q ps h ih =>
    unfold mer
    rw [if_neg h, List.filter_cons, List.filter_cons, ih]
theorem riseI_pw {t : Int} {ss : List Int} (h : RiseI t ss ss.length) : ss.Pairwise (· < ·) := by
  rw [List.pairwise_iff_getElem]
  intro i j hi hj hij
  have key : ∀ d, i + d + 1 < ss.length → nthI ss i < nthI ss (i + d + 1) := by
    intro d
    induction d with
    | zero => intro hd; exact h.2 i hd
    | succ d ih => intro hd; have a := ih (by omega); have b := h.2 (i + d + 1) (by omega); rw [show i + (d + 1) + 1 = i + d + 1 + 1 by omega]; omega
  have r := key (j - i - 1) (by omega)
  rw [show i + (j - i - 1) + 1 = j by omega, nthI_get hi, nthI_get hj] at r
  exact r
theorem riseP_pw {t e : Int} {ps : List P2} (h : RiseP t e ps ps.length) : Ris ps := by
  rw [Ris, List.pairwise_iff_getElem]
  intro i j hi hj hij
  have key : ∀ d, i + d + 1 < ps.length → (nthP ps i).1 < (nthP ps (i + d + 1)).1 := by
    intro d
    induction d with
    | zero => intro hd; exact h.2 i hd
    | succ d ih => intro hd; have a := ih (by omega); have b := h.2 (i + d + 1) (by omega); rw [show i + (d + 1) + 1 = i + d + 1 + 1 by omega]; omega
  have r := key (j - i - 1) (by omega)
  rw [show i + (j - i - 1) + 1 = j by omega, nthP_get hi, nthP_get hj] at r
  exact r
theorem ok_ss {t e : Int} {ss : List Int} {ps : List P2} {qs : List Int} (h : OkSp t e ss ps qs) : ∀ s ∈ ss, 0 ≤ s ∧ s < t := fun s hs => by
  obtain ⟨i, hi, rfl⟩ := List.getElem_of_mem hs
  have := h.2.2.1.1 i hi
  rw [nthI_get hi] at this
  exact this
theorem ok_ps {t e : Int} {ss : List Int} {ps : List P2} {qs : List Int} (h : OkSp t e ss ps qs) : ∀ p ∈ ps, (0 ≤ p.1 ∧ p.1 < t) ∧ 0 ≤ p.2 ∧ p.2 < e := fun p hp => by
  obtain ⟨i, hi, rfl⟩ := List.getElem_of_mem hp
  have := h.2.2.2.1.1 i hi
  rw [nthP_get hi] at this
  exact this
theorem ok_ne {t e : Int} {ss : List Int} {ps : List P2} {qs : List Int} (h : OkSp t e ss ps qs) : ∀ s ∈ ss, ∀ p ∈ ps, s ≠ p.1 := fun s hs p hp => by
  obtain ⟨i, hi, rfl⟩ := List.getElem_of_mem hs
  obtain ⟨j, hj, rfl⟩ := List.getElem_of_mem hp
  have := h.2.2.2.2.1 i hi j hj
  rw [nthI_get hi, nthP_get hj] at this
  exact this
theorem ok_mer {t : Nat} {e : Int} {ss : List Int} {ps : List P2} {qs : List Int} (h : OkSp t e ss ps qs) (e' o : Int) : heldK e' o (kvOf e ss ps) t = (mer e ss ps).filter (fun x => decide (o ≤ x.2 ∧ x.2 < e')) := by
  have hr := mer_ris e ss ps (riseI_pw h.2.2.1) (riseP_pw h.2.2.2.1) (ok_ne h)
  have hp : (mer e ss ps).Pairwise (fun a b => a.1 ≠ b.1) := List.Pairwise.imp (fun hab => by omega) hr
  rw [← heldK_perm (mer_perm e ss ps) hp t]
  refine heldK_all hr fun x hx => ?_
  have hm := (mer_perm e ss ps).mem_iff.mp hx
  unfold kvOf at hm
  rcases List.mem_append.mp hm with hm | hm
  · obtain ⟨a, ha, rfl⟩ := List.mem_map.mp hm
    exact ok_ss h a ha
  · exact (ok_ps h x hm).1
/-- Behind a commit both sides hold the same pages. -/
theorem commit_held {t : Nat} {e : Int} {ss : List Int} {ps : List P2} {qs : List Int} (h : OkSp t e ss ps qs) : heldK (e + 1) (oldN (e + 1) qs) (kvOf e ss ps) t = relP (e + 1) qs (mer e ss ps) := by
  rw [ok_mer h]
  refine keep_eq _ _ _ fun x hx => ?_
  have hm := (mer_perm e ss ps).mem_iff.mp hx
  unfold kvOf at hm
  have he := h.2.1
  rcases List.mem_append.mp hm with hm | hm
  · obtain ⟨a, ha, rfl⟩ := List.mem_map.mp hm
    show 0 ≤ e ∧ e < e + 1
    omega
  · have := (ok_ps h x hm).2
    omega
/-- Behind an unpin both sides hold the same pages, whatever pins are left. -/
theorem unpin_held {t : Nat} {e : Int} {ss : List Int} {ps : List P2} {qs : List Int} (h : OkSp t e ss ps qs) (qs' : List Int) : heldK e (oldN e qs') (kvOf e ss ps) t = relP e qs' ps := by
  rw [ok_mer h, mer_filt e _ (fun s => by simp)]
  exact keep_eq _ _ _ fun x hx => (ok_ps h x hx).2
end Go.Proofs.Ytaklphoplfofbaa
