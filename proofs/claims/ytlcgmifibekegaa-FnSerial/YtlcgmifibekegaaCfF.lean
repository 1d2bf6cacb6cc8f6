/- Conflicts: both answers are one (stage 8). -/
import Derived.Test.YtlcgmifibekegaaCfE
namespace Go.Proofs.Ytlcgmifibekegaa
open Go.RowKit

/-- Two of a list, one ahead of the other, are so. -/
def prl (R : TH → TH → Prop) : List TH → Prop
  | [] => False
  | x :: l => (∃ y, y ∈ l ∧ R x y) ∨ prl R l
theorem prl_iff (R : TH → TH → Prop) : ∀ l : List TH, prl R l ↔ ∃ p q, p < q ∧ q < l.length ∧ R (nthH l p) (nthH l q)
  | [] => ⟨fun h => h.elim, fun ⟨p, q, h1, h2, _⟩ => by simp at h2⟩
  | x :: l => by
    have ih := prl_iff R l
    constructor
    · rintro (⟨y, hy, hr⟩ | h)
      · obtain ⟨i, hi, e⟩ := List.mem_iff_getElem.1 hy
        refine ⟨0, i + 1, by omega, by simpa using hi, ?_⟩
        have e1 : nthH (x :: l) 0 = x := rfl
        have e2 : nthH (x :: l) (i + 1) = nthH l i := by simp [nthH]
        rw [e1, e2, nthH_get hi, e]
        exact hr
      · obtain ⟨p, q, h1, h2, h3⟩ := ih.1 h
        refine ⟨p + 1, q + 1, by omega, by simpa using h2, ?_⟩
        have e1 : nthH (x :: l) (p + 1) = nthH l p := by simp [nthH]
        have e2 : nthH (x :: l) (q + 1) = nthH l q := by simp [nthH]
        rw [e1, e2]
        exact h3
    · rintro ⟨p, q, h1, h2, h3⟩
      obtain ⟨q', rfl⟩ : ∃ q', q = q' + 1 := ⟨q - 1, by omega⟩
      have hq : q' < l.length := by simpa using h2
      have e2 : nthH (x :: l) (q' + 1) = nthH l q' := by simp [nthH]
      rw [e2] at h3
      cases p with
      | zero => exact .inl ⟨nthH l q', mem_nthH hq, h3⟩
      | succ p' =>
        have e1 : nthH (x :: l) (p' + 1) = nthH l p' := by simp [nthH]
        rw [e1] at h3
        exact .inr (ih.2 ⟨p', q', by omega, hq, h3⟩)
theorem prl_filter (R : TH → TH → Prop) (c : TH → Bool) : ∀ l : List TH, prl R (l.filter c) ↔ prl (fun x y => c x = true ∧ c y = true ∧ R x y) l
  | [] => Iff.rfl
  | x :: l => by
    have ih := prl_filter R c l
    rw [List.filter_cons]
    cases hx : c x with
    | true =>
      simp only [if_true]
      constructor
      · rintro (⟨y, hy, hr⟩ | h)
        · rw [List.mem_filter] at hy
          exact .inl ⟨y, hy.1, hx, hy.2, hr⟩
        · exact .inr (ih.1 h)
      · rintro (⟨y, hy, _, h2, hr⟩ | h)
        · exact .inl ⟨y, List.mem_filter.2 ⟨hy, h2⟩, hr⟩
        · exact .inr (ih.2 h)
    | false =>
      simp only [Bool.false_eq_true, if_false]
      constructor
      · exact fun h => .inr (ih.1 h)
      · rintro (⟨y, _, h1, _⟩ | h)
        · rw [hx] at h1; cases h1
        · exact ih.2 h
theorem size_of_toList {a b : ByteArray} (h : a.toList = b.toList) : a.size = b.size := by
  rw [ByteArray.toList_eq, ByteArray.toList_eq] at h
  have := congrArg List.length h
  simpa using this
theorem meet_iff {x y : TH} (hx : OpP x) (hy : OpP y) : cnfB x y = true ↔ x.2.1 ≤ 2 ∧ y.2.1 ≤ 2 ∧ y.2.2.1.toList = x.2.2.1.toList ∧ 2 < x.2.1 + y.2.1 := by
  obtain ⟨_, kx⟩ := hx
  obtain ⟨_, ky⟩ := hy
  unfold cnfB
  simp only [Bool.and_eq_true, Bool.or_eq_true, beq_iff_eq]
  constructor
  · rintro ⟨h, e⟩
    have hs := size_of_toList e
    have bx : x.2.1 ≤ 2 := by
      rcases h with h | h
      · omega
      · rcases ky with k | k | k
        · have := k.1; omega
        · have hk := k.2.1
          unfold KeyP at hk
          rcases kx with q | q | q
          · have := q.1; omega
          · have := q.1; omega
          · have := q.2.1; omega
        · have := k.1; omega
    have bb : y.2.1 ≤ 2 := by
      rcases h with h | h
      · rcases kx with k | k | k
        · have := k.1; omega
        · have hk := k.2.1
          unfold KeyP at hk
          rcases ky with q | q | q
          · have := q.1; omega
          · have := q.1; omega
          · have := q.2.1; omega
        · have := k.1; omega
      · omega
    have px : 1 ≤ x.2.1 := by rcases kx with q | q | q <;> have := q.1 <;> omega
    have py : 1 ≤ y.2.1 := by rcases ky with q | q | q <;> have := q.1 <;> omega
    exact ⟨bx, bb, e.symm, by omega⟩
  · rintro ⟨h1, h2, e, h3⟩
    have px : 1 ≤ x.2.1 := by rcases kx with q | q | q <;> have := q.1 <;> omega
    have py : 1 ≤ y.2.1 := by rcases ky with q | q | q <;> have := q.1 <;> omega
    exact ⟨by omega, e.symm⟩
theorem cfF_is {ss : List TH} (h : HistP ss) (i j : Nat) : cfF (comO ss) (comO ss).length 0 i j = (comF ss ss.length i && (comF ss ss.length j && (((i : Int) != (j : Int)) && ahB ss i j))) := by
  generalize hc : comF ss ss.length = c
  have e1 : comO ss = ss.filter (fun x => c x.1.toNat) := by unfold comO; rw [hc, selL_all]
  have k1 : (∃ p q, p < q ∧ q < (comO ss).length ∧ (p < (comO ss).length ∨ (p = (comO ss).length ∧ q < 0)) ∧ HitP (comO ss) p q i j) ↔ prl (fun x y => x.1 = (i : Int) ∧ y.1 = (j : Int) ∧ x.1 ≠ y.1 ∧ cnfB x y = true) (comO ss) := by
    rw [prl_iff]
    exact ⟨fun ⟨p, q, h1, h2, _, h4⟩ => ⟨p, q, h1, h2, h4⟩, fun ⟨p, q, h1, h2, h4⟩ => ⟨p, q, h1, h2, .inl (by omega), h4⟩⟩
  unfold cfF
  rw [asB_iff k1, e1]
  rw [asB_iff (prl_filter _ _ _), asB_iff (prl_iff _ _)]
  refine (asB_eq ?_).symm
  simp only [Bool.and_eq_true]
  constructor
  · rintro ⟨p, q, h1, h2, c1, c2, t1, t2, t3, t4⟩
    have m := (meet_iff (h.2 p (by omega)).1.1 (h.2 q h2).1.1).1 t4
    rw [t1] at c1
    rw [t2] at c2
    refine ⟨c1, c2, ?_, (asB_true ⟨p, q, h1, h2, t1, m.1, t2, m.2.1, m.2.2.1, m.2.2.2⟩).symm⟩
    rw [t1, t2] at t3
    simpa using t3
  · rintro ⟨c1, c2, t3, ha⟩
    obtain ⟨p, q, h1, h2, m1, m2, m3, m4, m5, m6⟩ := asB_is ha
    refine ⟨p, q, h1, h2, by rw [m1]; exact c1, by rw [m3]; exact c2, m1, m3, ?_, (meet_iff (h.2 p (by omega)).1.1 (h.2 q h2).1.1).2 ⟨m2, m4, m5, m6⟩⟩
    rw [m1, m3]
    simpa using t3
theorem rowS_is (c : Nat → Bool) (g : Int → Int → Bool) (f : Nat → Nat → Bool) (i : Nat) (hf : ∀ j, f i j = (c j && (((i : Int) != (j : Int)) && g i j))) : ∀ m, ((setL c m).filter (fun y => ((i : Int) != y) && g i y)).map (fun y => ((i : Int), y)) = rowE f i m
  | 0 => rfl
  | m + 1 => by
    have ih := rowS_is c g f i hf m
    unfold setL rowE
    rw [hf m]
    cases hc : c m with
    | false => simp only [Bool.false_and, Bool.false_eq_true, if_false]; exact ih
    | true =>
      simp only [if_true, Bool.true_and, List.filter_append, List.map_append, ih]
      cases hp : (((i : Int) != (m : Int)) && g i m)
      · simp only [List.filter_cons, hp]; simp
      · simp only [List.filter_cons, hp]; simp
theorem rowE_none {f : Nat → Nat → Bool} {i : Nat} (hf : ∀ j, f i j = false) : ∀ m, rowE f i m = []
  | 0 => rfl
  | m + 1 => by unfold rowE; rw [hf m, rowE_none hf m]; rfl
theorem allS_is (c : Nat → Bool) (g : Int → Int → Bool) (f : Nat → Nat → Bool) (L : List Int) (hL : setL c 6 = L) (hf : ∀ i j, f i j = (c i && (c j && (((i : Int) != (j : Int)) && g i j)))) : ∀ n, (setL c n).flatMap (fun x => rowS L g x L.length) = allE f n
  | 0 => rfl
  | n + 1 => by
    have ih := allS_is c g f L hL hf n
    unfold setL allE
    cases hc : c n with
    | false =>
      rw [rowE_none (fun j => by rw [hf, hc]; rfl), List.append_nil]
      exact ih
    | true =>
      rw [if_pos rfl, List.flatMap_append, ih]
      congr 1
      have := rowS_is c g f n (fun j => by rw [hf, hc]; rfl) 6
      simp only [List.flatMap_cons, List.flatMap_nil, List.append_nil]
      unfold rowS
      rw [List.take_length, ← hL]
      exact this
theorem cf_eq {ss : List TH} (h : HistP ss) : allS (setL (comG ss) 6) (ahB ss) (setL (comG ss) 6).length = allE (cfF (comO ss) (comO ss).length 0) 6 := by
  rw [setL_congr 6 (fun i _ => comG_F h i)]
  rw [← allS_is (comF ss ss.length) (ahB ss) _ _ rfl (fun i j => cfF_is h i j) 6]
  unfold allS
  rw [List.take_length]

set_option maxRecDepth 100000 in
set_option maxHeartbeats 2000000 in
theorem specConflicts_any (a : Option Addr) (cap : Nat) (ss : List TH) (w : World) (h : RowH w a ss) (hl : ss.length ≤ 1048576) :
    Calls Try.prog 16 #[.slice a ss.length cap] w (RetP w (cfL ss) (hisC ss)) := by
  have HR : Hid (RowH w a ss) := h
  have hcall := specHistoryOK_any a cap ss w h hl
  have HC : Hid (cfL ss = if hisC ss = 0 then allE (cfF (comO ss) (comO ss).length 0) 6 else []) := rfl
  have HS : Hid (hisC ss = if 4096 < ss.length then 2 else if asB (HistP ss) = true then 0 else 1) := rfl
  have HG : Hid (HistP ss → allS (setL (comG ss) 6) (ahB ss) (setL (comG ss) 6).length = allE (cfF (comO ss) (comO ss).length 0) 6) := cf_eq
  generalize hisC ss = c at *
  generalize cfL ss = L at *
  obtain ⟨F, hF⟩ : ∃ F, allE (cfF (comO ss) (comO ss).length 0) 6 = F := ⟨_, rfl⟩
  rw [hF] at HC HG
  clear hF h
  obtain ⟨len, hlen⟩ : ∃ m, ss.length = m := ⟨_, rfl⟩
  have HL : Hid (ss.length = len) := hlen
  rw [hlen] at hl hcall HS ⊢
  clear hlen
  by_cases h4 : (4096 : Int) < (len : Int)
  · have E1 : Hid (c = 2) := by show _ = _; rw [HS.out, if_pos (by omega)]
    have E2 : Hid (L = []) := by show _ = _; rw [HC.out, E1.out]; rfl
    have O1 : Hid (OwnP (w.alloc (.cells #[] 48)) w.heap.size (.slice (some ⟨w.heap.size, 0, none⟩) 0 0) []) := OwnP.made w w.heap.size (Nat.le_refl _)
    go_enter Try.func16, Try.ntmps16
    go_wp2
    go_ret2
    rw [E1.out, E2.out]
    exact ⟨_, rfl, O1.out, (Below.refl _ _).alloc (Nat.le_refl _) _⟩
  · go_enter Try.func16, Try.ntmps16
    go_wp2_with fail
    refine hcall.mono ?_
    rintro e w1 ⟨rfl, b1⟩
    clear hcall
    cases hp : asB (HistP ss) with
    | false =>
      have E1 : Hid (c = 1) := by show _ = _; rw [HS.out, if_neg (by omega), hp]; rfl
      have E2 : Hid (L = []) := by show _ = _; rw [HC.out, E1.out]; rfl
      have O1 : Hid (OwnP (w1.alloc (.cells #[] 48)) w.heap.size (.slice (some ⟨w1.heap.size, 0, none⟩) 0 0) []) := OwnP.made w1 w.heap.size b1.size
      clear hp
      go_wp2
      go_ret2
      rw [E1.out, E2.out]
      exact ⟨_, rfl, O1.out, b1.alloc b1.size _⟩
    | true =>
      have E1 : Hid (c = 0) := by show _ = _; rw [HS.out, if_neg (by omega), hp]; rfl
      have E2 : Hid (L = allS (setL (comG ss) 6) (ahB ss) (setL (comG ss) 6).length) := by show _ = _; rw [HC.out, E1.out, HG.out (asB_is hp)]; rfl
      have hcall := l08Conflicts_any a cap ss w1 (HR.out.below b1) (by rw [HL.out]; exact hl) (asB_is hp).kinds
      rw [HL.out] at hcall
      generalize allS (setL (comG ss) 6) (ahB ss) (setL (comG ss) 6).length = M at *
      clear hp
      go_wp2_with fail
      refine hcall.mono ?_
      rintro e w2 ⟨v, rfl, o2, b2⟩
      have O2 : Hid (OwnP w2 w.heap.size v M) := own_mono o2 b1.size
      have B2 := below_step b1 (Nat.le_refl _) b2
      clear o2 b2 b1 hcall
      go_wp2
      go_ret2
      rw [E1.out, E2.out]
      exact ⟨_, rfl, O2.out, B2⟩
end Go.Proofs.Ytlcgmifibekegaa
