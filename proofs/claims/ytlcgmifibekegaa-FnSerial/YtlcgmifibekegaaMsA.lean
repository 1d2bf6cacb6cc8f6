/- The theorem of conflict serializability: acts in the order of their conflicts find and leave the same (stage 8; plain mathematics). -/
import Derived.Test.YtlcgmifibekegaaPlA
namespace Go.Proofs.Ytlcgmifibekegaa
open Go.RowKit Go.Maps Go.Sort

def wrB (k : List UInt8) (x : TH) : Bool := (x.2.1 == 2) && (x.2.2.1.toList == k)
def lastV (l : List TH) : Option ByteArray := l.getLast?.map fun x => x.2.2.2
theorem lastV_cons (x : TH) (l : List TH) : lastV (x :: l) = (lastV l).or (some x.2.2.2) := by
  unfold lastV
  rw [List.getLast?_cons]
  cases l.getLast? <;> rfl
theorem step_val (s : List TS × List TY) (x : TH) (k : ByteArray) : valY (stepP s x).2 k = if wrB k.toList x = true then some x.2.2.2 else valY s.2 k := by
  unfold stepP wrB
  by_cases h1 : x.2.1 = 1
  · rw [if_pos h1, if_neg (by simp [h1])]
  · rw [if_neg h1]
    by_cases h2 : x.2.1 = 2
    · rw [if_pos h2, over_val]
      by_cases e : k.toList = x.2.2.1.toList
      · rw [if_pos e, if_pos (by simp [h2, e])]
      · rw [if_neg e, if_neg (by simp [h2]; exact fun h => e h.symm)]
    · rw [if_neg h2, if_neg (by simp [h2])]
theorem fold_val (k : ByteArray) : ∀ (l : List TH) (s : List TS × List TY), valY (l.foldl stepP s).2 k = (lastV (l.filter (wrB k.toList))).or (valY s.2 k)
  | [], s => rfl
  | x :: l, s => by
    rw [List.foldl_cons, fold_val k l, step_val, List.filter_cons]
    cases hw : wrB k.toList x with
    | true => rw [if_pos rfl, if_pos rfl, lastV_cons, Option.or_assoc]; rfl
    | false => rw [if_neg (by decide), if_neg (by decide)]
theorem play_val (k : ByteArray) (l : List TH) : valY (playL l).2 k = lastV (l.filter (wrB k.toList)) := by
  unfold playL
  rw [fold_val]
  show (lastV (l.filter (wrB k.toList))).or none = _
  rw [Option.or_none]
theorem fold_rise : ∀ (l : List TH) (s : List TS × List TY), RiseY s.2 → RiseY (l.foldl stepP s).2
  | [], _, h => h
  | x :: l, s, h => by
    rw [List.foldl_cons]
    refine fold_rise l _ ?_
    unfold stepP
    split
    · exact h
    · split
      · exact over_rise _ _ _ h
      · exact h
theorem play_rise (l : List TH) : RiseY (playL l).2 := fold_rise l _ List.Pairwise.nil
theorem bytes_ext {a b : ByteArray} (h : a.toList = b.toList) : a = b := by
  rw [ByteArray.toList_eq, ByteArray.toList_eq] at h
  obtain ⟨⟨x⟩⟩ := a
  obtain ⟨⟨y⟩⟩ := b
  simp at h
  rw [h]
theorem rise_ext {a b : List TY} (ha : RiseY a) (hb : RiseY b) (h : ∀ k, valY a k = valY b k) : a = b := by
  have hk : keysY a = keysY b := by
    have hm : ∀ x, x ∈ keysY a ↔ x ∈ keysY b := fun x => by
      have h1 := valY_some (es := a) (k := ⟨x.toArray⟩)
      have h2 := valY_some (es := b) (k := ⟨x.toArray⟩)
      rw [bytes_of] at h1 h2
      rw [← h1, ← h2, h]
    have hp := (List.perm_ext_iff_of_nodup ha.nodup hb.nodup).2 hm
    refine List.Perm.eq_of_pairwise (le := fun x y => Op.bytesLess x y = true) (fun x y _ _ h1 h2 => absurd rfl (less_ne (less_trans h1 h2))) (List.pairwise_map.2 ha) (List.pairwise_map.2 hb) hp
  have hl : a.length = b.length := by have := congrArg List.length hk; simpa [keysY] using this
  refine List.ext_getElem hl fun i h1 h2 => ?_
  have e1 : a[i].1 = b[i].1 := by
    have := congrArg (fun l => l[i]?) hk
    simp [keysY, h1, h2] at this
    exact bytes_ext this
  have v1 := ha.val h1
  have v2 := hb.val h2
  rw [nthY_get h1] at v1
  rw [nthY_get h2, ← e1, ← h, v1] at v2
  exact Prod.ext e1 (Option.some.inj v2)

/-- What the reads of t find, from a state on. -/
def rdsF (t : Int) : List TS × List TY → List TH → List TS
  | _, [] => []
  | s, x :: l => (if x.2.1 = 1 ∧ x.1 = t then [(valY s.2 x.2.2.1).getD noT] else []) ++ rdsF t (stepP s x) l
def rdsT (t : Int) (l : List TH) : List TS := rdsF t ([], []) l
theorem tw_filter {p : Nat → Bool} {r : Nat} (hr : p r = true) : ∀ I : List Nat, (I.takeWhile (fun i => i != r)).filter p = (I.filter p).takeWhile (fun i => i != r)
  | [] => rfl
  | a :: I => by
    by_cases e : a = r
    · subst e
      rw [List.filter_cons, if_pos hr]
      simp
    · have e' : (a != r) = true := by simpa using e
      rw [List.takeWhile_cons, if_pos e', List.filter_cons, List.filter_cons]
      cases hp : p a with
      | true => rw [if_pos rfl, if_pos rfl, List.takeWhile_cons, if_pos e', tw_filter hr I]
      | false => rw [if_neg (by decide), if_neg (by decide), tw_filter hr I]
theorem tw_all {r : Nat} : ∀ (P I : List Nat), r ∉ P → (P ++ r :: I).takeWhile (fun i => i != r) = P
  | [], I, _ => by simp
  | a :: P, I, h => by
    have e' : (a != r) = true := by simp at h ⊢; exact fun e => h.1 e.symm
    rw [List.cons_append, List.takeWhile_cons, if_pos e', tw_all P I (fun hm => h (List.mem_cons_of_mem _ hm))]

/-- Is read r one of t? -/
def rdB (ops : List TH) (t : Int) (r : Nat) : Bool := ((nthH ops r).2.1 == 1) && ((nthH ops r).1 == t)
/-- What read r finds where the acts come as I says. -/
def fndV (ops : List TH) (I : List Nat) (r : Nat) : TS := (valY (playL ((I.takeWhile fun i => i != r).map (nthH ops))).2 (nthH ops r).2.2.1).getD noT
theorem rdsF_idx (ops : List TH) (t : Int) : ∀ (I P : List Nat), (P ++ I).Nodup → rdsF t (playL (P.map (nthH ops))) (I.map (nthH ops)) = (I.filter (rdB ops t)).map (fndV ops (P ++ I))
  | [], _, _ => rfl
  | x :: I, P, h => by
    have hx : x ∉ P := fun hm => (List.nodup_append.1 h).2.2 x hm x (by simp) rfl
    have ih := rdsF_idx ops t I (P ++ [x]) (by rw [List.append_assoc]; exact h)
    rw [List.map_append, List.map_cons, List.map_nil, playL_snoc, List.append_assoc] at ih
    rw [List.map_cons]
    show (if _ then _ else _) ++ rdsF t (stepP (playL (P.map (nthH ops))) (nthH ops x)) (I.map (nthH ops)) = _
    rw [ih, List.filter_cons]
    by_cases hr : (nthH ops x).2.1 = 1 ∧ (nthH ops x).1 = t
    · rw [if_pos hr, if_pos (by simp [rdB, hr])]
      rw [List.map_cons]
      show [_] ++ _ = fndV ops (P ++ x :: I) x :: _
      unfold fndV
      rw [tw_all P I hx]
      rfl
    · rw [if_neg hr, if_neg (by simp [rdB]; exact fun h1 h2 => hr ⟨h1, h2⟩)]
      rfl
theorem rdsT_idx (ops : List TH) (t : Int) (I : List Nat) (h : I.Nodup) : rdsT t (I.map (nthH ops)) = (I.filter (rdB ops t)).map (fndV ops I) := rdsF_idx ops t I [] h
/-- Two acts must stay in their order. -/
def DepP (ops : List TH) (a b : Nat) : Prop := (nthH ops a).1 = (nthH ops b).1 ∨ cnfB (nthH ops a) (nthH ops b) = true
theorem filter_same {ops : List TH} {J I : List Nat} (hp : J.Perm I) (hI : I.Pairwise (· < ·)) (hJ : J.Pairwise fun a b => ¬ (b < a ∧ DepP ops b a)) (hn : J.Nodup) {p : Nat → Bool} (hd : ∀ a b, a < b → p a = true → p b = true → DepP ops a b) : J.filter p = I.filter p := by
  refine List.Perm.eq_of_pairwise (le := fun a b => a < b) (fun a b _ _ h1 h2 => by omega) ?_ (hI.filter _) (hp.filter _)
  have h1 : (J.filter p).Pairwise fun a b => ¬ (b < a ∧ DepP ops b a) ∧ a ≠ b := (hJ.and hn).filter _
  refine h1.imp_of_mem fun {a b} ha hb h => ?_
  have pa := (List.mem_filter.1 ha).2
  have pb := (List.mem_filter.1 hb).2
  rcases Nat.lt_trichotomy a b with h2 | h2 | h2
  · exact h2
  · exact absurd h2 h.2
  · exact absurd ⟨h2, hd b a h2 pb pa⟩ h.1
theorem wr_dep {ops : List TH} {k : List UInt8} {a b : Nat} (ha : wrB k (nthH ops a) = true) (hb : wrB k (nthH ops b) = true) : DepP ops a b := by
  unfold wrB at ha hb
  simp at ha hb
  refine .inr ?_
  unfold cnfB
  simp [ha.1, ha.2, hb.2]
theorem rd_dep {ops : List TH} {r b : Nat} (hb : wrB (nthH ops r).2.2.1.toList (nthH ops b) = true) : DepP ops r b ∧ DepP ops b r := by
  unfold wrB at hb
  simp at hb
  refine ⟨.inr ?_, .inr ?_⟩ <;> unfold cnfB <;> simp [hb.1, hb.2]
theorem map_filter (ops : List TH) (I : List Nat) (q : TH → Bool) : (I.map (nthH ops)).filter q = (I.filter fun i => q (nthH ops i)).map (nthH ops) := List.filter_map

section
variable {ops : List TH} {J I : List Nat} (hp : J.Perm I) (hI : I.Pairwise (· < ·)) (hJ : J.Pairwise fun a b => ¬ (b < a ∧ DepP ops b a)) (hn : J.Nodup)
include hp hI hJ hn
theorem same_left : (playL (J.map (nthH ops))).2 = (playL (I.map (nthH ops))).2 := by
  refine rise_ext (play_rise _) (play_rise _) fun k => ?_
  rw [play_val, play_val, map_filter, map_filter, filter_same hp hI hJ hn (p := fun i => wrB k.toList (nthH ops i)) (fun a b _ ha hb => wr_dep ha hb)]
theorem same_found (r : Nat) : fndV ops J r = fndV ops I r := by
  unfold fndV
  rw [play_val, play_val, map_filter, map_filter]
  have hq : ∀ K : List Nat, (K.takeWhile fun i => i != r).filter (fun i => wrB (nthH ops r).2.2.1.toList (nthH ops i)) = ((K.filter fun i => wrB (nthH ops r).2.2.1.toList (nthH ops i) || i == r).takeWhile fun i => i != r).filter (fun i => wrB (nthH ops r).2.2.1.toList (nthH ops i)) := fun K => by
    rw [← tw_filter (p := fun i => wrB (nthH ops r).2.2.1.toList (nthH ops i) || i == r) (by simp), List.filter_filter]
    refine List.filter_congr fun i _ => ?_
    cases wrB (nthH ops r).2.2.1.toList (nthH ops i) <;> simp
  rw [hq J, hq I, filter_same hp hI hJ hn (p := fun i => wrB (nthH ops r).2.2.1.toList (nthH ops i) || i == r) (fun a b hab ha hb => ?_)]
  simp at ha hb
  rcases ha with ha | rfl
  · rcases hb with hb | rfl
    · exact wr_dep ha hb
    · exact (rd_dep ha).2
  · rcases hb with hb | rfl
    · exact (rd_dep hb).1
    · omega
theorem same_reads (t : Int) : rdsT t (J.map (nthH ops)) = rdsT t (I.map (nthH ops)) := by
  have hnI : I.Nodup := hI.imp fun h => by omega
  rw [rdsT_idx ops t J hn, rdsT_idx ops t I hnI, filter_same hp hI hJ hn (p := rdB ops t) (fun a b _ ha hb => ?_)]
  · exact List.map_congr_left fun r _ => same_found hp hI hJ hn r
  · unfold rdB at ha hb
    simp at ha hb
    exact .inl (ha.2.trans hb.2.symm)
end

/-- The acts, one transaction whole behind the other. -/
def serI (ops : List TH) (ord : List Int) : List Nat := ord.flatMap fun t => (List.range ops.length).filter fun i => (nthH ops i).1 == t
theorem ops_range (ops : List TH) : (List.range ops.length).map (nthH ops) = ops := by
  refine List.ext_getElem (by simp) fun i h1 h2 => ?_
  simp
  exact nthH_get h2
theorem serI_map (ops : List TH) (ord : List Int) : (serI ops ord).map (nthH ops) = ord.flatMap fun t => ops.filter fun x => x.1 == t := by
  unfold serI
  rw [List.map_flatMap]
  refine congrArg (fun g => ord.flatMap g) (funext fun t => ?_)
  exact (map_filter ops (List.range ops.length) (fun x => x.1 == t)).symm.trans (by rw [ops_range])
theorem serI_nodup {ops : List TH} {ord : List Int} (h : ord.Nodup) : (serI ops ord).Nodup := by
  refine List.pairwise_flatMap.2 ⟨fun t _ => List.nodup_range.filter _, h.imp fun {t u} htu a ha b hb e => ?_⟩
  have h1 := (List.mem_filter.1 ha).2
  have h2 := (List.mem_filter.1 hb).2
  simp at h1 h2
  subst e
  exact htu (h1.symm.trans h2)
theorem serI_perm {ops : List TH} {ord : List Int} (h : ord.Nodup) (h2 : ∀ i, i < ops.length → (nthH ops i).1 ∈ ord) : (serI ops ord).Perm (List.range ops.length) := by
  refine (List.perm_ext_iff_of_nodup (serI_nodup h) List.nodup_range).2 fun i => ?_
  unfold serI
  rw [List.mem_flatMap]
  constructor
  · rintro ⟨t, _, ht⟩
    exact (List.mem_filter.1 ht).1
  · intro hi
    exact ⟨(nthH ops i).1, h2 i (List.mem_range.1 hi), List.mem_filter.2 ⟨hi, by simp⟩⟩
theorem serI_dep {ops : List TH} {ord : List Int} (h : ord.Nodup) (h3 : ord.Pairwise fun t u => ∀ p q, p < q → q < ops.length → (nthH ops p).1 = u → (nthH ops q).1 = t → cnfB (nthH ops p) (nthH ops q) = false) : (serI ops ord).Pairwise fun a b => ¬ (b < a ∧ DepP ops b a) := by
  refine List.pairwise_flatMap.2 ⟨fun t _ => ?_, (h.and h3).imp fun {t u} htu a ha b hb hab => ?_⟩
  · have : ((List.range ops.length).filter fun i => (nthH ops i).1 == t).Pairwise (· < ·) := List.pairwise_lt_range.filter _
    exact this.imp fun hab h => by omega
  · have h1 := (List.mem_filter.1 ha)
    have h2 := (List.mem_filter.1 hb)
    have e1 : (nthH ops a).1 = t := by simpa using h1.2
    have e2 : (nthH ops b).1 = u := by simpa using h2.2
    rcases hab.2 with e | e
    · exact htu.1 (e1.symm.trans (e.symm.trans e2))
    · rw [htu.2 b a hab.1 (List.mem_range.1 h1.1) e2 e1] at e
      cases e
/-- The theorem: acts that come one transaction behind the other, in an order of their conflicts, leave the same, and each one's reads find the same. -/
theorem serial_same {ops : List TH} {ord : List Int} (h : ord.Nodup) (h2 : ∀ i, i < ops.length → (nthH ops i).1 ∈ ord) (h3 : ord.Pairwise fun t u => ∀ p q, p < q → q < ops.length → (nthH ops p).1 = u → (nthH ops q).1 = t → cnfB (nthH ops p) (nthH ops q) = false) :
    (playL (ord.flatMap fun t => ops.filter fun x => x.1 == t)).2 = (playL ops).2 ∧ ∀ t, rdsT t (ord.flatMap fun t => ops.filter fun x => x.1 == t) = rdsT t ops := by
  have a1 := same_left (serI_perm h h2) List.pairwise_lt_range (serI_dep h h3) (serI_nodup h)
  have a2 := same_reads (serI_perm h h2) List.pairwise_lt_range (serI_dep h h3) (serI_nodup h)
  rw [serI_map, ops_range] at a1
  refine ⟨a1, fun t => ?_⟩
  have := a2 t
  rw [serI_map, ops_range] at this
  exact this
end Go.Proofs.Ytlcgmifibekegaa
