/- impl's SortRows (stage 13). -/
import Derived.Test.YtmcjgncpblbhpaaKsD
namespace Go.Proofs.Ytmcjgncpblbhpaa
open Go.RowKit

theorem split_srt {lt : Nat → Nat → Bool} (ho : LtO lt) (y : Nat) : ∀ zs : List Nat, zs.Pairwise (RO lt) → ∃ A B, zs = A ++ B ∧ (∀ x ∈ A, lt y x = false) ∧ ∀ x ∈ B, lt y x = true
  | [], _ => ⟨[], [], rfl, fun x hx => by simp at hx, fun x hx => by simp at hx⟩
  | x :: zs, h => by
    obtain ⟨h1, h2⟩ := List.pairwise_cons.1 h
    cases e : lt y x with
    | true =>
      refine ⟨[], x :: zs, rfl, fun x hx => by simp at hx, fun z hz => ?_⟩
      rcases List.mem_cons.1 hz with rfl | hz
      · exact e
      · cases e2 : lt y z with
        | true => rfl
        | false =>
          have := ho.trans x z y (h1 z hz).1 e2
          rw [e] at this; cases this
    | false =>
      obtain ⟨A, B, rfl, hA, hB⟩ := split_srt ho y zs h2
      refine ⟨x :: A, B, rfl, fun z hz => ?_, hB⟩
      rcases List.mem_cons.1 hz with rfl | hz
      · exact e
      · exact hA z hz
theorem exists_srt {lt : Nat → Nat → Bool} (ho : LtO lt) : ∀ n, ∃ zs : List Nat, zs.Perm (List.range n) ∧ zs.Pairwise (RO lt)
  | 0 => ⟨[], by simp, List.Pairwise.nil⟩
  | n + 1 => by
    obtain ⟨zs, h1, h2⟩ := exists_srt ho n
    obtain ⟨A, B, rfl, hA, hB⟩ := split_srt ho n zs h2
    refine ⟨A ++ n :: B, ?_, put_in ho h2 (fun x hx => List.mem_range.1 (h1.mem_iff.1 hx)) hA hB⟩
    rw [List.range_succ]
    exact (List.perm_middle).trans ((h1.cons n).trans (List.perm_append_singleton _ _).symm)
theorem srt_uniq {lt : Nat → Nat → Bool} {n : Nat} {zs ys : List Nat} (h1 : zs.Perm (List.range n)) (h2 : zs.Pairwise (RO lt)) (h3 : ys.Perm (List.range n)) (h4 : ys.Pairwise (RO lt)) : zs = ys := by
  refine List.Perm.eq_of_pairwise (le := RO lt) (fun x y _ _ q1 q2 => ?_) h2 h4 (h1.trans h3.symm)
  have a := q1.2 q2.1
  have b := q2.2 q1.1
  omega
/-- The order by keys. -/
abbrev ltK (ks : Rs) (ds : List Bool) : Nat → Nat → Bool := ltF fun x y => cmpK ds (nthR ks x) (nthR ks y)
/-- The places of the rows, sorted. -/
noncomputable def srtN (ks : Rs) (ds : List Bool) : List Nat := Classical.choose (exists_srt (keys_lto ds ks) ks.length)
theorem srtN_spec (ks : Rs) (ds : List Bool) : (srtN ks ds).Perm (List.range ks.length) ∧ (srtN ks ds).Pairwise (RO (ltK ks ds)) := Classical.choose_spec (exists_srt (keys_lto ds ks) ks.length)
theorem srtN_eq {ks : Rs} {ds : List Bool} {zs : List Nat} (h1 : zs.Perm (List.range ks.length)) (h2 : zs.Pairwise (RO (ltK ks ds))) : zs = srtN ks ds := srt_uniq h1 h2 (srtN_spec ks ds).1 (srtN_spec ks ds).2
/-- Every key has so many values. -/
def allK (ks : Rs) (n : Nat) : Bool := !ks.any fun x => !decide (x.length = n)
theorem allK_true {ks : Rs} {n : Nat} (h : allK ks n = true) : ∀ i, i < ks.length → (nthR ks i).length = n := fun i hi => by
  unfold allK at h
  simp only [Bool.not_eq_true', List.any_eq_false, Bool.not_eq_true', decide_eq_false_iff_not, Decidable.not_not] at h
  rw [nthR_get hi]
  exact h _ (List.getElem_mem hi)
theorem allK_good {ks : Rs} {n : Nat} (h : ∀ i, i < ks.length → (nthR ks i).length = n) : allK ks n = true := by
  unfold allK
  simp only [Bool.not_eq_true', List.any_eq_false, Bool.not_eq_true', decide_eq_false_iff_not, Decidable.not_not]
  intro x hx
  obtain ⟨i, hi, rfl⟩ := List.getElem_of_mem hx
  rw [← nthR_get hi]
  exact h i hi
theorem allK_bad {ks : Rs} {n i : Nat} (hi : i < ks.length) (h : (nthR ks i).length ≠ n) : allK ks n = false := by
  cases e : allK ks n with
  | false => rfl
  | true => exact absurd (allK_true e i hi) h
/-- The code of SortRows. -/
def soC (ks : Rs) (ds : List Bool) (rs : Rs) : Int :=
  if 4096 < ks.length ∨ 4096 < ds.length ∨ 4096 < rs.length then 2 else if ks.length = rs.length ∧ okRs 16 ks = true ∧ okRs 16 rs = true ∧ ds.length ≤ 16 then (if allK ks ds.length = true then 0 else 12) else 1
/-- Its rows. -/
noncomputable def soR (ks : Rs) (ds : List Bool) (rs : Rs) : Rs := if soC ks ds rs = 0 then (srtN ks ds).map (nthR rs) else []
/-- What SortRows answers. -/
def RetO (ks : Rs) (ds : List Bool) (rs : Rs) (w : World) (r : Ending) (w' : World) : Prop := ∃ v hi, r = .returned (.tuple #[v, .int .i64 (soC ks ds rs)]) ∧ BldR w' w.heap.size hi v (soR ks ds rs) ∧ Below w.heap.size w w'
theorem RetO.bad {ks : Rs} {ds : List Bool} {rs : Rs} {w w' : World} {c : Int} {v : Value} {hi : Nat} (hc : soC ks ds rs = c) (h : c ≠ 0) (hv : BldR w' w.heap.size hi v []) (hb : Below w.heap.size w w') : RetO ks ds rs w (.returned (.tuple #[v, .int .i64 c])) w' := by
  refine ⟨v, hi, by rw [hc], ?_, hb⟩
  have : soR ks ds rs = [] := if_neg (by rw [hc]; exact h)
  rw [this]; exact hv
theorem RetO.good {ks : Rs} {ds : List Bool} {rs : Rs} {w w' : World} {v : Value} {hi : Nat} (hc : soC ks ds rs = 0) (hv : BldR w' w.heap.size hi v ((srtN ks ds).map (nthR rs))) (hb : Below w.heap.size w w') : RetO ks ds rs w (.returned (.tuple #[v, .int .i64 0])) w' := by
  refine ⟨v, hi, by rw [hc], ?_, hb⟩
  have : soR ks ds rs = (srtN ks ds).map (nthR rs) := if_pos hc
  rw [this]; exact hv
theorem ent46 : Ent 46 := enters_of Try.func46 (by kernel_rfl) rfl
set_option maxRecDepth 100000 in
theorem wrongLen_any (vs : List V3) (nd : Nat) (a : Option Addr) (c : Nat) (ad : Option Addr) (cd bx : Nat) (w : World) (hx : w.cell? ⟨bx, 0, none⟩ = some (.slice ad nd cd)) :
    Calls Try.prog 46 #[.slice a vs.length c, .pointer (some ⟨bx, 0, none⟩)] w fun e w' => e = .returned (.bool (!decide (vs.length = nd))) ∧ Below w.heap.size w w' := by
  generalize vs.length = n at *
  go_enter Try.func46, Try.ntmps46
  go_wp2
  go_ret
  refine ⟨ret_bool' ?_, Below.refl _ _⟩
  rw [Bool.eq_iff_iff]
  simp
  omega
theorem zip_cel {w : World} {k : Cel} {rs : Rs} {zs : List Nat} (hk : CelR w k rs) (hz : ∀ x ∈ zs, x < rs.length) : CelR w ⟨fun x => k.a (nthN zs x), fun x => k.l (nthN zs x), fun x => k.c (nthN zs x)⟩ (zs.map (nthR rs)) := fun x hx => by
  rw [List.length_map] at hx
  have hm : nthN zs x ∈ zs := by rw [nthN_get hx]; exact List.getElem_mem hx
  have en : nthR (zs.map (nthR rs)) x = nthR rs (nthN zs x) := by rw [nthR_get (by rw [List.length_map]; exact hx), List.getElem_map, nthN_get hx]
  rw [en]
  exact hk _ (hz _ hm)
set_option maxRecDepth 100000 in
set_option maxHeartbeats 8000000 in
theorem implSort_early (ak ad ar : Option Addr) (ck cd cr : Nat) (ks : Rs) (ds : List Bool) (rs : Rs) (w : World) (hk : RowA w ak ks) (hr : RowA w ar rs) (sk : SmallR ks) (sr : SmallR rs) (sd : ds.length ≤ 1048576) (h : soC ks ds rs ≠ 0 ∧ soC ks ds rs ≠ 12) :
    Calls Try.prog 15 #[.slice ak ks.length ck, .slice ad ds.length cd, .slice ar rs.length cr] w (RetO ks ds rs w) := by
  have lk := sk.1
  have lr := sr.1
  have b0 : Below w.heap.size w (w.alloc (.cells #[.slice ad ds.length cd] 32)) := (Below.refl _ _).alloc (Nat.le_refl _) _
  by_cases h1 : 4096 < ks.length ∨ 4096 < ds.length ∨ 4096 < rs.length
  · have HC : Hid (soC ks ds rs = 2) := if_pos h1
    clear hk hr sk sr h
    generalize ks.length = n at *
    generalize ds.length = m at *
    generalize rs.length = l at *
    by_cases h2 : 4096 < n
    · have h2I : (4096 : Int) < (n : Int) := by omega
      go_enter Try.func15, Try.ntmps15
      go_wp2
      go_ret2
      exact RetO.bad HC.out (by omega) (BldR.nil _ _ 0) b0
    · have h2I : ¬ (4096 : Int) < (n : Int) := by omega
      by_cases h3 : 4096 < m
      · have h3I : (4096 : Int) < (m : Int) := by omega
        go_enter Try.func15, Try.ntmps15
        go_wp2
        go_ret2
        exact RetO.bad HC.out (by omega) (BldR.nil _ _ 0) b0
      · have h3I : ¬ (4096 : Int) < (m : Int) := by omega
        have h4I : (4096 : Int) < (l : Int) := by omega
        go_enter Try.func15, Try.ntmps15
        go_wp2
        go_ret2
        exact RetO.bad HC.out (by omega) (BldR.nil _ _ 0) b0
  have HC0 : soC ks ds rs = if ks.length = rs.length ∧ okRs 16 ks = true ∧ okRs 16 rs = true ∧ ds.length ≤ 16 then (if allK ks ds.length = true then 0 else 12) else 1 := if_neg h1
  have hbad : ¬ (ks.length = rs.length ∧ okRs 16 ks = true ∧ okRs 16 rs = true ∧ ds.length ≤ 16) := fun hc => by
    rw [if_pos hc] at HC0
    rw [HC0] at h
    split at h
    · exact h.1 rfl
    · exact h.2 rfl
  have HC : Hid (soC ks ds rs = 1) := by show _ = _; rw [HC0, if_neg hbad]
  have g1 : ¬ (4096 : Int) < (ks.length : Int) := by omega
  have g2 : ¬ (4096 : Int) < (ds.length : Int) := by omega
  have g3 : ¬ (4096 : Int) < (rs.length : Int) := by omega
  have A1 := fun W (hW : Below w.heap.size w W) => rowsOK_any 16 ks ak ck W (hk.row.below hW) sk
  have A2 := fun W (hW : Below w.heap.size w W) => rowsOK_any 16 rs ar cr W (hr.row.below hW) sr
  have HX : Hid (∀ W, Below (w.alloc (.cells #[.slice ad ds.length cd] 32)).heap.size (w.alloc (.cells #[.slice ad ds.length cd] 32)) W → W.cell? ⟨w.heap.size, 0, none⟩ = some (.slice ad ds.length cd)) := fun W hW => (hW.cell (p := ⟨w.heap.size, 0, none⟩) (by simp)).trans (by simp)
  have HB : Hid (∀ W, Below (w.alloc (.cells #[.slice ad ds.length cd] 32)).heap.size (w.alloc (.cells #[.slice ad ds.length cd] 32)) W → Below w.heap.size w W) := fun W hW => b0.trans (hW.mono b0.size)
  clear hk hr sk sr h1 HC0 h
  by_cases e1 : ks.length = rs.length
  · have hne : ((ks.length : Int) != (rs.length : Int)) = false := by simp; omega
    rw [← e1] at A2 hne g3 ⊢
    have hb2 : ¬ (okRs 16 ks = true ∧ okRs 16 rs = true ∧ ds.length ≤ 16) := fun h => hbad ⟨e1, h⟩
    clear hbad e1 lr g3
    cases o1 : okRs 16 ks with
    | false =>
      rw [o1] at A1
      clear A2 o1 hb2 HX
      generalize ks.length = n at *
      generalize ds.length = m at *
      go_enter Try.func15, Try.ntmps15
      go_wp2_with (go_at_call 39; refine (A1 _ b0).mono ?_; rintro e w1 ⟨rfl, b1⟩)
      go_ret2
      exact RetO.bad HC.out (by omega) (BldR.nil _ _ 0) (HB.out _ b1)
    | true =>
      rw [o1] at A1
      cases o2 : okRs 16 rs with
      | false =>
        rw [o2] at A2
        clear o1 o2 hb2 HX
        generalize ks.length = n at *
        generalize ds.length = m at *
        go_enter Try.func15, Try.ntmps15
        go_wp2_with (first | (go_at_call 39; refine (A1 _ b0).mono ?_; rintro e w1 ⟨rfl, b1⟩; clear A1; have b1' := HB.out _ b1) | (go_at_call 39; refine (A2 _ b1').mono ?_; rintro e w2 ⟨rfl, b2⟩))
        go_ret2
        exact RetO.bad HC.out (by omega) (BldR.nil _ _ 0) (below_step b1' (Nat.le_refl _) b2)
      | true =>
        rw [o2] at A2
        have h6 : (16 : Int) < (ds.length : Int) := by
          rcases Nat.lt_or_ge 16 ds.length with h | h
          · omega
          · exact absurd ⟨o1, o2, h⟩ hb2
        clear o1 o2 hb2
        generalize ks.length = n at *
        generalize ds.length = m at *
        go_enter Try.func15, Try.ntmps15
        go_wp2_with (first | (go_at_call 39; refine (A1 _ b0).mono ?_; rintro e w1 ⟨rfl, b1⟩; clear A1; have b1' := HB.out _ b1) | (go_at_call 39; refine (A2 _ b1').mono ?_; rintro e w2 ⟨rfl, b2⟩; clear A2; have cx := HX.out w2 (below_step b1 (Nat.le_refl _) b2)))
        go_ret2
        exact RetO.bad HC.out (by omega) (BldR.nil _ _ 0) (below_step b1' (Nat.le_refl _) b2)
  · have hne : ((ks.length : Int) != (rs.length : Int)) = true := by simp; omega
    clear A1 A2 HX hbad
    generalize ks.length = n at *
    generalize ds.length = m at *
    generalize rs.length = l at *
    go_enter Try.func15, Try.ntmps15
    go_wp2
    go_ret2
    exact RetO.bad HC.out (by omega) (BldR.nil _ _ 0) b0
end Go.Proofs.Ytmcjgncpblbhpaa
