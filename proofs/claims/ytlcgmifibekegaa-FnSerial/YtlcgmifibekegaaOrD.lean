/- Orders, as values (stage 8). -/
import Derived.Test.YtlcgmifibekegaaOrC
namespace Go.Proofs.Ytlcgmifibekegaa
open Go.RowKit

/-- Those of ns that have not come. -/
def LeftV (ns L : List Int) (x : Int) : Prop := x ∈ ns ∧ x ∉ L
/-- x may come next: no edge leads to it from one that has not come. -/
def FreeV (es : List P2) (R : Int → Prop) (x : Int) : Prop := R x ∧ ∀ i, i < es.length → ¬ ((nthP es i).2 = x ∧ R (nthP es i).1)
/-- L came, each time the least that may. -/
inductive RunV (es : List P2) (ns : List Int) : List Int → Prop
  | nil : RunV es ns []
  | snoc {L : List Int} {x : Int} : RunV es ns L → FreeV es (LeftV ns L) x → (∀ y, FreeV es (LeftV ns L) y → x ≤ y) → RunV es ns (L ++ [x])
def DoneV (es : List P2) (ns L : List Int) : Prop := ∀ y, ¬ FreeV es (LeftV ns L) y
theorem RunV.at {es : List P2} {ns L : List Int} (h : RunV es ns L) : ∀ k (hk : k < L.length), FreeV es (LeftV ns (L.take k)) L[k] ∧ ∀ y, FreeV es (LeftV ns (L.take k)) y → L[k] ≤ y := by
  induction h with
  | nil => intro k hk; simp at hk
  | snoc h hf hm ih =>
    rename_i L x
    intro k hk
    rw [List.length_append] at hk
    simp only [List.length_cons, List.length_nil] at hk
    by_cases e : k < L.length
    · have := ih k e
      rw [List.take_append_of_le_length (by omega), List.getElem_append_left e]
      exact this
    · obtain rfl : k = L.length := by omega
      simp only [List.take_left, List.getElem_concat_length]
      exact ⟨hf, hm⟩
theorem RunV.pre {es : List P2} {ns L M : List Int} (h : RunV es ns L) (hM : RunV es ns M) : L.length ≤ M.length → L = M.take L.length := by
  induction h with
  | nil => intro _; simp
  | snoc h hf hm ih =>
    rename_i L x
    intro hl
    rw [List.length_append] at hl
    simp only [List.length_cons, List.length_nil] at hl
    have e := ih (by omega)
    obtain ⟨q1, q2⟩ := hM.at L.length (by omega)
    rw [← e] at q1 q2
    have ex : x = M[L.length] := by
      have h1 := hm _ q1
      have h2 := q2 _ hf
      omega
    rw [List.length_append]
    simp only [List.length_cons, List.length_nil]
    rw [List.take_succ_eq_append_getElem (by omega), ← e, ← ex]
theorem RunV.one {es : List P2} {ns L M : List Int} (h : RunV es ns L) (d : DoneV es ns L) (hM : RunV es ns M) (dM : DoneV es ns M) : L = M := by
  have key : ∀ {A B : List Int}, RunV es ns A → DoneV es ns A → RunV es ns B → ¬ A.length < B.length := fun {A B} hA dA hB hlt => by
    have e := hA.pre hB (by omega)
    obtain ⟨q1, _⟩ := hB.at A.length hlt
    rw [← e] at q1
    exact dA _ q1
  have h1 := key h d hM
  have h2 := key hM dM h
  have e := h.pre hM (by omega)
  rw [e]
  have : L.length = M.length := by omega
  rw [this, List.take_length]
/-- The order that comes. -/
noncomputable def ordV (es : List P2) (ns : List Int) : List Int := open Classical in if h : ∃ L, RunV es ns L ∧ DoneV es ns L then h.choose else []
theorem ordV_is {es : List P2} {ns L : List Int} (h : RunV es ns L) (d : DoneV es ns L) : ordV es ns = L := by
  have hx : ∃ L, RunV es ns L ∧ DoneV es ns L := ⟨L, h, d⟩
  unfold ordV
  rw [dif_pos hx]
  exact hx.choose_spec.1.one hx.choose_spec.2 h d
theorem RunV.sub {es : List P2} {ns L : List Int} (h : RunV es ns L) : ∀ x, x ∈ L → x ∈ ns := by
  induction h with
  | nil => intro x hx; cases hx
  | snoc h hf hm ih =>
    intro x hx
    rcases List.mem_append.1 hx with h1 | h1
    · exact ih x h1
    · cases List.mem_singleton.1 h1; exact hf.1.1

/-! Positions in a rising list. -/
theorem rise_at {zs : List Int} (hs : zs.Pairwise (· < ·)) {i j : Nat} (hij : i < j) (hj : j < zs.length) : nthI zs i < nthI zs j := by
  rw [nthI_get hj, nthI_get (by omega : i < zs.length)]
  exact List.pairwise_iff_getElem.1 hs i j (by omega) hj hij
theorem posI_nth {zs : List Int} (hs : zs.Pairwise (· < ·)) {i : Nat} (hi : i < zs.length) : posI zs (nthI zs i) = i := by
  unfold posI
  have e : zs = zs.take i ++ zs.drop i := (List.take_append_drop i zs).symm
  have h1 : (zs.take i).countP (fun y => decide (y < nthI zs i)) = i := by
    have : (zs.take i).countP (fun y => decide (y < nthI zs i)) = (zs.take i).length := List.countP_eq_length.2 (fun x hx => by
      obtain ⟨j, hj, rfl⟩ := List.mem_iff_getElem.1 hx
      rw [List.length_take] at hj
      rw [List.getElem_take, ← nthI_get (by omega : j < zs.length)]
      exact decide_eq_true (rise_at hs (by omega) hi))
    rw [this, List.length_take]; omega
  have h2 : (zs.drop i).countP (fun y => decide (y < nthI zs i)) = 0 := List.countP_eq_zero.2 (fun x hx => by
    obtain ⟨j, hj, rfl⟩ := List.mem_iff_getElem.1 hx
    rw [List.length_drop] at hj
    rw [List.getElem_drop, ← nthI_get (by omega : i + j < zs.length)]
    have : ¬ nthI zs (i + j) < nthI zs i := by
      by_cases e : j = 0
      · subst e; simp
      · have := rise_at hs (by omega : i < i + j) (by omega); omega
    simpa using this)
  calc zs.countP (fun y => decide (y < nthI zs i)) = (zs.take i ++ zs.drop i).countP (fun y => decide (y < nthI zs i)) := by rw [← e]
    _ = i := by rw [List.countP_append, h1, h2]; rfl
theorem nth_pos {zs : List Int} (hs : zs.Pairwise (· < ·)) {x : Int} (hx : x ∈ zs) : nthI zs (posI zs x) = x := by
  obtain ⟨j, hj, rfl⟩ := List.mem_iff_getElem.1 hx
  rw [← nthI_get hj, posI_nth hs hj]
theorem nth_mem {zs : List Int} {i : Nat} (hi : i < zs.length) : nthI zs i ∈ zs := by rw [nthI_get hi]; exact List.getElem_mem hi

/-! What impl finds. -/
/-- The flags tell who has not come. -/
def FlagsV (zs : List Int) (lf : Nat → Bool) (L : List Int) : Prop := ∀ i, lf i = true ↔ i < zs.length ∧ nthI zs i ∉ L
theorem cand_free {zs : List Int} {es : List P2} {lf : Nat → Bool} {L : List Int} (hs : zs.Pairwise (· < ·)) (hl : zs.length ≤ 20) (hf : FlagsV zs lf L) {i : Nat} (hi : i < zs.length) :
    CandI lf (edF zs es es.length) i ↔ FreeV es (LeftV zs L) (nthI zs i) := by
  constructor
  · rintro ⟨h1, h2⟩
    refine ⟨⟨nth_mem hi, ((hf i).1 h1).2⟩, ?_⟩
    rintro e he ⟨ht, hr⟩
    have hto : (nthP es e).2 ∈ zs := ht ▸ nth_mem hi
    have hb := posI_lt hr.1
    have c : comB lf (edF zs es es.length i) = true := (asB_true ⟨posI zs (nthP es e).1, by omega, (hf _).2 ⟨hb, by rw [nth_pos hs hr.1]; exact hr.2⟩, (asB_true ⟨e, he, hr.1, hto, by rw [ht]; exact posI_nth hs hi, rfl⟩).symm⟩).symm
    rw [c] at h2; cases h2
  · rintro ⟨⟨_, h1⟩, h2⟩
    refine ⟨(hf i).2 ⟨hi, h1⟩, (asB_false ?_).symm⟩
    rintro ⟨b, hb, hlb, hed⟩
    obtain ⟨e, he, m1, m2, p1, p2⟩ := asB_is hed
    refine h2 e he ⟨?_, m1, ?_⟩
    · rw [← p1]; exact (nth_pos hs m2).symm
    · have := ((hf b).1 hlb).2
      rw [← p2, nth_pos hs m1] at this
      exact this
theorem SrI.run {zs : List Int} {es : List P2} {lf : Nat → Bool} {L : List Int} (hs : zs.Pairwise (· < ·)) (hl : zs.length ≤ 20) (h : SrI zs es (edF zs es es.length) zs.length lf L) : RunV es zs L ∧ FlagsV zs lf L := by
  induction h with
  | start => exact ⟨.nil, fun i => by simp⟩
  | more h hz hk hc hn ih =>
    rename_i lf L k z
    obtain ⟨ih1, ih2⟩ := ih
    subst hz
    refine ⟨.snoc ih1 ((cand_free hs hl ih2 hk).1 hc) (fun y hy => ?_), fun i => ?_⟩
    · have hm := hy.1.1
      have hp := posI_lt hm
      have e := nth_pos hs hm
      rw [← e] at hy
      have hcy := (cand_free hs hl ih2 hp).2 hy
      rw [← e]
      rcases Nat.lt_trichotomy (posI zs y) k with h1 | h1 | h1
      · exact absurd hcy (hn _ h1)
      · rw [h1]; exact Int.le_refl _
      · exact Int.le_of_lt (rise_at hs h1 hp)
    · by_cases e : i = k
      · subst e
        rw [offI_at]
        simp
      · rw [offI_oth lf e, ih2 i]
        constructor
        · rintro ⟨h1, h2⟩
          refine ⟨h1, fun hx => ?_⟩
          rcases List.mem_append.1 hx with h3 | h3
          · exact h2 h3
          · have h4 := List.mem_singleton.1 h3
            have e1 := posI_nth hs h1
            rw [h4, posI_nth hs hk] at e1
            exact e e1.symm
        · rintro ⟨h1, h2⟩
          exact ⟨h1, fun hx => h2 (List.mem_append_left _ hx)⟩
theorem SrI.done {zs : List Int} {es : List P2} {lf : Nat → Bool} {L : List Int} (hs : zs.Pairwise (· < ·)) (hl : zs.length ≤ 20) (h : SrI zs es (edF zs es es.length) zs.length lf L) (hn : ∀ i, i < zs.length → ¬ CandI lf (edF zs es es.length) i) : DoneV es zs L := fun y hy => by
  have hm := hy.1.1
  have e := nth_pos hs hm
  rw [← e] at hy
  exact hn _ (posI_lt hm) ((cand_free hs hl (h.run hs hl).2 (posI_lt hm)).2 hy)
theorem left_perm {ms ns : List Int} (h : ∀ x, x ∈ ms ↔ x ∈ ns) (L : List Int) : LeftV ms L = LeftV ns L := funext fun x => propext ⟨fun ⟨a, b⟩ => ⟨(h x).1 a, b⟩, fun ⟨a, b⟩ => ⟨(h x).2 a, b⟩⟩
theorem RunV.perm {es : List P2} {ms ns L : List Int} (hp : ∀ x, x ∈ ms ↔ x ∈ ns) (h : RunV es ms L) : RunV es ns L := by
  induction h with
  | nil => exact .nil
  | snoc h hf hm ih => rw [left_perm hp] at hf hm; exact .snoc ih hf hm
theorem DoneV.perm {es : List P2} {ms ns L : List Int} (hp : ∀ x, x ∈ ms ↔ x ∈ ns) (h : DoneV es ms L) : DoneV es ns L := by
  unfold DoneV at *; rw [← left_perm hp]; exact h
theorem sortI_rise {ns : List Int} (h : ns.Nodup) : (sortI ns).Pairwise (· < ·) := by
  have h1 := sortI_pair ns
  have h2 : (sortI ns).Nodup := (sortI_perm ns).nodup_iff.2 h
  exact (h1.and h2).imp (fun ⟨a, b⟩ => by omega)

/-- The code and the answer of SerialOrder. -/
noncomputable def soC (ns : List Int) (es : List P2) : Int := if 4096 < ns.length ∨ 4096 < es.length then 2 else if 20 < ns.length ∨ 400 < es.length then 6 else if asB (¬ ns.Nodup) = true then 9 else if (ordV es ns).length < ns.length then 15 else 0
noncomputable def soL (ns : List Int) (es : List P2) : List Int := if soC ns es = 0 then ordV es ns else []
theorem RunV.len {es : List P2} {ns L : List Int} (h : RunV es ns L) : (ns.filter (fun y => decide (y ∉ L))).length + L.length ≤ ns.length := by
  induction h with
  | nil => simpa using List.length_filter_le _ ns
  | snoc h hf hm ih =>
    rename_i L x
    have e : ns.filter (fun y => decide (y ∉ L ++ [x])) = (ns.filter (fun y => decide (y ∉ L))).filter (fun y => decide (y ≠ x)) := by
      rw [List.filter_filter]
      refine List.filter_congr (fun y _ => ?_)
      by_cases h1 : y ∈ L <;> by_cases h2 : y = x <;> simp [h1, h2]
    have hlt : ((ns.filter (fun y => decide (y ∉ L))).filter (fun y => decide (y ≠ x))).length < (ns.filter (fun y => decide (y ∉ L))).length :=
      List.length_filter_lt_length_iff_exists.2 ⟨x, List.mem_filter.2 ⟨hf.1.1, by simpa using hf.1.2⟩, by simp⟩
    rw [e, List.length_append]
    simp only [List.length_cons, List.length_nil]
    omega
theorem ordV_len (es : List P2) (ns : List Int) : (ordV es ns).length ≤ ns.length := by
  unfold ordV
  split
  · rename_i h
    have := h.choose_spec.1.len
    omega
  · simp
theorem soL_len (ns : List Int) (es : List P2) : (soL ns es).length ≤ 4096 := by
  unfold soL
  split
  · rename_i h
    have := ordV_len es ns
    unfold soC at h
    by_cases h1 : 4096 < ns.length ∨ 4096 < es.length
    · rw [if_pos h1] at h; cases h
    · omega
  · simp
end Go.Proofs.Ytlcgmifibekegaa
