/- Conflict serializability of a history: its order, the history one by one, what both find and leave (stage 8; plain mathematics). -/
import Derived.Test.YtlcgmifibekegaaMsA
import Derived.Test.YtlcgmifibekegaaAcA
import Derived.Test.YtlcgmifibekegaaCfF
namespace Go.Proofs.Ytlcgmifibekegaa
open Go.RowKit Go.Maps Go.Sort

theorem RunV.nodup {es : List P2} {ns L : List Int} (h : RunV es ns L) : L.Nodup := by
  induction h with
  | nil => exact List.nodup_nil
  | snoc h hf hm ih =>
    rename_i L x
    refine List.nodup_append.2 ⟨ih, by simp, fun a ha b hb e => ?_⟩
    obtain rfl : b = x := by simpa using hb
    subst e
    exact hf.1.2 ha
theorem mem_rowE {f : Nat → Nat → Bool} {a b : Nat} (h : f a b = true) : ∀ m, b < m → ((a : Int), (b : Int)) ∈ rowE f a m
  | 0, hb => by omega
  | m + 1, hb => by
    unfold rowE
    by_cases e : b = m
    · subst e; rw [if_pos h]; simp
    · have ih := mem_rowE h m (by omega)
      split
      · exact List.mem_append_left _ ih
      · exact ih
theorem mem_allE {f : Nat → Nat → Bool} {a b : Nat} (h : f a b = true) (hb : b < 6) : ∀ m, a < m → ((a : Int), (b : Int)) ∈ allE f m
  | 0, ha => by omega
  | m + 1, ha => by
    unfold allE
    by_cases e : a = m
    · subst e; exact List.mem_append_right _ (mem_rowE h 6 hb)
    · exact List.mem_append_left _ (mem_allE h hb m (by omega))
theorem mem_setL {f : Nat → Bool} {k : Nat} {t : Int} : t ∈ setL f k ↔ ∃ T : Nat, t = T ∧ T < k ∧ f T = true := by
  induction k with
  | zero => simp [setL]
  | succ k ih =>
    unfold setL
    split
    · rename_i hf
      rw [List.mem_append, ih]
      constructor
      · rintro (⟨T, e, h1, h2⟩ | h)
        · exact ⟨T, e, by omega, h2⟩
        · exact ⟨k, by simpa using h, by omega, hf⟩
      · rintro ⟨T, e, h1, h2⟩
        by_cases ek : T = k
        · subst ek; exact .inr (by simp [e])
        · exact .inl ⟨T, e, by omega, h2⟩
    · rename_i hf
      rw [ih]
      constructor
      · rintro ⟨T, e, h1, h2⟩
        exact ⟨T, e, by omega, h2⟩
      · rintro ⟨T, e, h1, h2⟩
        have : T ≠ k := fun ek => hf (ek ▸ h2)
        exact ⟨T, e, by omega, h2⟩
theorem flat_congr {f g : Int → List TH} : ∀ {l : List Int}, (∀ t ∈ l, f t = g t) → l.flatMap f = l.flatMap g
  | [], _ => rfl
  | t :: l, h => by rw [List.flatMap_cons, List.flatMap_cons, h t (by simp), flat_congr fun u hu => h u (by simp [hu])]
/-- What the order of a history is, where there is one. -/
theorem order_is {ns : List Int} {es : List P2} (h : soC ns es = 0) : ∃ L, soL ns es = L ∧ RunV es ns L ∧ ¬ L.length < ns.length ∧ L.length ≤ 4096 := by
  have hlen := soL_len ns es
  unfold soL at hlen ⊢
  rw [if_pos h] at hlen ⊢
  refine ⟨_, rfl, ?_, ?_, hlen⟩
  · by_cases hx : ∃ L, RunV es ns L ∧ DoneV es ns L
    · obtain ⟨L, h1, h2⟩ := hx
      rw [ordV_is h1 h2]; exact h1
    · have e : ordV es ns = [] := by unfold ordV; rw [dif_neg hx]
      rw [e]; exact RunV.nil
  · unfold soC at h
    split at h
    · cases h
    · split at h
      · cases h
      · split at h
        · cases h
        · split at h
          · cases h
          · assumption
theorem code_two (ss : List TH) : soC (cmL ss) (cfL ss) = 0 ∨ soC (cmL ss) (cfL ss) = 15 := by
  have h1 := cmL_len ss
  have h2 := cfL_len ss
  have h3 : (cmL ss).Nodup := by
    unfold cmL
    split
    · exact setL_nodup _ _
    · exact List.nodup_nil
  unfold soC
  rw [if_neg (by omega), if_neg (by omega)]
  have h4 : asB (¬ (cmL ss).Nodup) = false := (asB_false (fun h => h h3)).symm
  rw [h4, if_neg (by decide)]
  split
  · exact .inr rfl
  · exact .inl rfl
section
variable {ss : List TH} {L : List Int} (hp : HistP ss) (h0 : hisC ss = 0) (hr : RunV (cfL ss) (cmL ss) L) (hl : ¬ L.length < (cmL ss).length)
include hp h0 hr hl
omit hp in
theorem ord_mem {t : Int} : t ∈ L ↔ ∃ T : Nat, t = T ∧ T < 6 ∧ comF ss ss.length T = true := by
  have e : cmL ss = setL (comF ss ss.length) 6 := by unfold cmL; rw [if_pos h0]
  rw [← mem_setL, ← e]
  exact ⟨hr.sub t, hr.all hl t⟩
theorem ops_mem : ∀ i, i < (comO ss).length → (nthH (comO ss) i).1 ∈ L := fun i hi => by
  have hm := mem_nthH hi
  have hm2 : nthH (comO ss) i ∈ ss.filter fun x => comF ss ss.length x.1.toNat := by
    rw [← selL_all]; exact hm
  obtain ⟨hs, hf⟩ := List.mem_filter.1 hm2
  obtain ⟨j, hj, e⟩ := List.mem_iff_getElem.1 hs
  have ht := hp.txs j hj
  rw [nthH_get hj, e] at ht
  exact (ord_mem h0 hr hl).2 ⟨(nthH (comO ss) i).1.toNat, by omega, by omega, hf⟩
theorem ord_dep : L.Pairwise fun t u => ∀ p q, p < q → q < (comO ss).length → (nthH (comO ss) p).1 = u → (nthH (comO ss) q).1 = t → cnfB (nthH (comO ss) p) (nthH (comO ss) q) = false := by
  refine List.pairwise_iff_getElem.2 fun i j hi hj hij p q hpq hq ep eq => ?_
  cases hc : cnfB (nthH (comO ss) p) (nthH (comO ss) q) with
  | false => rfl
  | true =>
    exfalso
    obtain ⟨U, eU, hU, fU⟩ := (ord_mem h0 hr hl).1 (ops_mem hp h0 hr hl p (by omega))
    obtain ⟨V, eV, hV, fV⟩ := (ord_mem h0 hr hl).1 (ops_mem hp h0 hr hl q hq)
    have hne : L[i] ≠ L[j] := List.pairwise_iff_getElem.1 hr.nodup i j hi hj hij
    have hhit : HitP (comO ss) p q U V := ⟨eU, eV, by rw [ep, eq]; exact fun e => hne e.symm, hc⟩
    have hf : cfF (comO ss) (comO ss).length 0 U V = true := (asB_true ⟨p, q, hpq, hq, .inl (by omega), hhit⟩).symm
    have hm : ((U : Int), (V : Int)) ∈ cfL ss := by unfold cfL; rw [if_pos h0]; exact mem_allE hf hV 6 hU
    obtain ⟨k, hk, ek⟩ := List.mem_iff_getElem.1 hm
    have ek' : nthP (cfL ss) k = ((U : Int), (V : Int)) := by rw [nthP_get hk]; exact ek
    have e0 : cmL ss = setL (comF ss ss.length) 6 := by unfold cmL; rw [if_pos h0]
    have ha := hr.ahead hl hk (by rw [ek', e0]; exact mem_setL.2 ⟨U, rfl, hU, fU⟩) (by rw [ek', e0]; exact mem_setL.2 ⟨V, rfl, hV, fV⟩)
    rw [ek'] at ha
    simp only at ha
    have p1 : plI L (U : Int) = j := plI_at hj (by rw [nthI_get hj, ← eU, ep]) (fun m hm e => by
      rw [nthI_get (by omega), ← eU, ep] at e
      exact List.pairwise_iff_getElem.1 hr.nodup m j (by omega) hj hm e)
    have p2 : plI L (V : Int) = i := plI_at hi (by rw [nthI_get hi, ← eV, eq]) (fun m hm e => by
      rw [nthI_get (by omega), ← eV, eq] at e
      exact List.pairwise_iff_getElem.1 hr.nodup m i (by omega) hi hm e)
    omega
omit hp in
theorem one_is : (L.flatMap fun t => (comO ss).filter fun x => x.1 == t) = L.flatMap fun t => ss.filter fun x => x.1 == t := by
  refine flat_congr fun t ht => ?_
  show (selL (comF ss ss.length) ss ss.length).filter _ = _
  rw [selL_all, List.filter_filter]
  refine List.filter_congr fun x _ => ?_
  obtain ⟨T, eT, _, fT⟩ := (ord_mem h0 hr hl).1 ht
  cases hx : (x.1 == t) with
  | false => rfl
  | true =>
    have e : x.1 = t := by simpa using hx
    rw [e, eT, show ((T : Int)).toNat = T from rfl, fT]; rfl
theorem one_hist : HistP (L.flatMap fun t => ss.filter fun x => x.1 == t) ∧ comO (L.flatMap fun t => ss.filter fun x => x.1 == t) = L.flatMap fun t => ss.filter fun x => x.1 == t := by
  have hn := hr.nodup
  obtain ⟨J, hJ⟩ : ∃ J, serI ss L = J := ⟨_, rfl⟩
  have hone := serI_map ss L
  have hnd := serI_nodup (ops := ss) hn
  have hmem : ∀ i, i ∈ J ↔ i < ss.length ∧ (nthH ss i).1 ∈ L := fun i => by
    rw [← hJ]
    unfold serI
    rw [List.mem_flatMap]
    constructor
    · rintro ⟨t, ht, hi⟩
      have := List.mem_filter.1 hi
      have e : (nthH ss i).1 = t := by simpa using this.2
      exact ⟨List.mem_range.1 this.1, e ▸ ht⟩
    · rintro ⟨hi, ht⟩
      exact ⟨_, ht, List.mem_filter.2 ⟨List.mem_range.2 hi, by simp⟩⟩
  have hpw : J.Pairwise fun a b => (nthH ss a).1 = (nthH ss b).1 → a < b := by
    rw [← hJ]
    refine List.pairwise_flatMap.2 ⟨fun t _ => ?_, hn.imp fun {t u} htu a ha b hb e => ?_⟩
    · exact List.Pairwise.imp (S := fun a b => (nthH ss a).1 = (nthH ss b).1 → a < b) (fun hab _ => hab) (List.pairwise_lt_range.filter _)
    · have h1 := (List.mem_filter.1 ha).2
      have h2 := (List.mem_filter.1 hb).2
      simp at h1 h2
      exact absurd (h1.symm.trans (e.trans h2)) htu
  have hlen : J.length ≤ ss.length := by
    have hperm : J.Perm ((List.range ss.length).filter fun i => decide ((nthH ss i).1 ∈ L)) := by
      refine (List.perm_ext_iff_of_nodup (hJ ▸ hnd) (List.nodup_range.filter _)).2 fun i => ?_
      rw [hmem i, List.mem_filter, List.mem_range]
      simp
    rw [hperm.length_eq]
    have := List.length_filter_le (fun i => decide ((nthH ss i).1 ∈ L)) (List.range ss.length)
    simpa using this
  rw [hJ] at hone
  rw [← hone]
  have hnth : ∀ i (hi : i < J.length), nthH (J.map (nthH ss)) i = nthH ss J[i] := fun i hi => by
    rw [nthH_get (by simpa using hi)]; simp
  have hpos : ∀ e, e ∈ J → ∃ k, k < J.length ∧ nthH (J.map (nthH ss)) k = nthH ss e := fun e he => by
    obtain ⟨k, hk, ek⟩ := List.mem_iff_getElem.1 he
    exact ⟨k, hk, by rw [hnth k hk, ek]⟩
  have hH : HistP (J.map (nthH ss)) := by
    refine ⟨by simp; have := hp.1; omega, fun i hi => ?_⟩
    have hi' : i < J.length := by simpa using hi
    have hji := (hmem J[i]).1 (List.getElem_mem hi')
    obtain ⟨⟨hok, hbef⟩, e, he, hend⟩ := hp.2 J[i] hji.1
    rw [hnth i hi']
    refine ⟨⟨by rw [hnth i hi']; exact hok, fun j hj hE => ?_⟩, ?_⟩
    · have hj' : j < J.length := by omega
      unfold EndAt at hE
      rw [hnth i hi', hnth j hj'] at hE
      have hlt := List.pairwise_iff_getElem.1 hpw j i hj' hi' hj hE.1
      exact hbef _ hlt hE
    · obtain ⟨k, hk, ek⟩ := hpos e ((hmem e).2 ⟨he, hend.1 ▸ hji.2⟩)
      exact ⟨k, by simpa using hk, by unfold EndAt; rw [ek]; exact hend⟩
  refine ⟨hH, ?_⟩
  show selL _ _ _ = _
  rw [selL_all]
  refine List.filter_eq_self.2 fun x hx => ?_
  obtain ⟨i, hi, rfl⟩ := List.mem_map.1 hx
  have hji := (hmem i).1 hi
  obtain ⟨U, eU, hU, fU⟩ := (ord_mem h0 hr hl).1 hji.2
  rw [eU, show ((U : Int)).toNat = U from rfl]
  obtain ⟨j, hj, e1, e2⟩ := asB_is fU
  obtain ⟨k, hk, ek⟩ := hpos j ((hmem j).2 ⟨hj, by rw [e1, ← eU]; exact hji.2⟩)
  exact (asB_true ⟨k, by simpa using hk, by rw [ek]; exact ⟨e1, e2⟩⟩).symm
/-- What the law asks of a history that has an order. -/
theorem serial_law : HistP (L.flatMap fun t => ss.filter fun x => x.1 == t) ∧ comO (L.flatMap fun t => ss.filter fun x => x.1 == t) = (L.flatMap fun t => ss.filter fun x => x.1 == t) ∧ (playL (L.flatMap fun t => ss.filter fun x => x.1 == t)).2 = (playL (comO ss)).2 ∧ ∀ t, rdsT t (L.flatMap fun t => ss.filter fun x => x.1 == t) = rdsT t (comO ss) := by
  have h1 := serial_same hr.nodup (ops_mem hp h0 hr hl) (ord_dep hp h0 hr hl)
  rw [one_is h0 hr hl] at h1
  have h2 := one_hist hp h0 hr hl
  exact ⟨h2.1, h2.2, h1.1, h1.2⟩
end
end Go.Proofs.Ytlcgmifibekegaa
