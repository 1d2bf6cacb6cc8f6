/- The specification's order: what each round keeps (stage 8). -/
import Derived.Test.YtlcgmifibekegaaOrD
import Derived.Test.YtlcgmifibekegaaSrD
namespace Go.Proofs.Ytlcgmifibekegaa
open Go.RowKit

/-- No edge of the first j leads to x from one of Rs. -/
noncomputable def okJ (es : List P2) (Rs : List Int) (x : Int) (j : Nat) : Bool := asB (∀ e, e < j → ¬ ((nthP es e).2 = x ∧ (nthP es e).1 ∈ Rs))
theorem okJ_zero (es : List P2) (Rs : List Int) (x : Int) : okJ es Rs x 0 = true := (asB_true (fun e he => by omega)).symm
theorem okJ_step (es : List P2) (Rs : List Int) (x : Int) (j : Nat) : okJ es Rs x (j + 1) = (okJ es Rs x j && !((nthP es j).2 == x && Rs.any (fun y => y == (nthP es j).1))) := by
  cases h1 : okJ es Rs x j with
  | false =>
    rw [Bool.false_and]
    refine (asB_false (fun h => ?_)).symm
    have : okJ es Rs x j = true := (asB_true (fun e he => h e (by omega))).symm
    rw [h1] at this; cases this
  | true =>
    rw [Bool.true_and]
    have h2 := asB_is h1
    by_cases h3 : (nthP es j).2 = x ∧ (nthP es j).1 ∈ Rs
    · have e1 : ((nthP es j).2 == x) = true := beq_iff_eq.2 h3.1
      have e2 : Rs.any (fun y => y == (nthP es j).1) = true := any_is.2 h3.2
      rw [e1, e2]
      exact (asB_false (fun h => h j (by omega) h3)).symm
    · have e1 : ((nthP es j).2 == x && Rs.any (fun y => y == (nthP es j).1)) = false := by
        cases h4 : ((nthP es j).2 == x) with
        | false => rfl
        | true =>
          cases h5 : Rs.any (fun y => y == (nthP es j).1) with
          | false => rfl
          | true => exact absurd ⟨beq_iff_eq.1 h4, any_is.1 h5⟩ h3
      rw [e1]
      refine (asB_true (fun e he => ?_)).symm
      by_cases q : e = j
      · subst q; exact h3
      · exact h2 e (by omega)
theorem okJ_free {es : List P2} {Rs : List Int} {k : Nat} (hk : k < Rs.length) : okJ es Rs (nthI Rs k) es.length = true ↔ FreeV es (fun x => x ∈ Rs) (nthI Rs k) :=
  ⟨fun h => ⟨nth_mem hk, asB_is h⟩, fun h => (asB_true h.2).symm⟩
/-- The best of the first k. -/
def BestP (es : List P2) (Rs : List Int) (k : Nat) (b : Int) : Prop :=
  (b = -1 ∧ ∀ j, j < k → ¬ FreeV es (fun x => x ∈ Rs) (nthI Rs j)) ∨ ∃ m : Nat, b = m ∧ m < k ∧ FreeV es (fun x => x ∈ Rs) (nthI Rs m) ∧ ∀ j, j < k → FreeV es (fun x => x ∈ Rs) (nthI Rs j) → nthI Rs m ≤ nthI Rs j
theorem BestP.skip {es : List P2} {Rs : List Int} {k : Nat} {b : Int} (h : BestP es Rs k b) (hn : ¬ FreeV es (fun x => x ∈ Rs) (nthI Rs k)) : BestP es Rs (k + 1) b := by
  rcases h with ⟨h1, h2⟩ | ⟨m, h1, h2, h3, h4⟩
  · refine .inl ⟨h1, fun j hj => ?_⟩
    by_cases e : j = k
    · subst e; exact hn
    · exact h2 j (by omega)
  · refine .inr ⟨m, h1, by omega, h3, fun j hj hf => ?_⟩
    by_cases e : j = k
    · subst e; exact absurd hf hn
    · exact h4 j (by omega) hf
theorem BestP.first {es : List P2} {Rs : List Int} {k : Nat} (h : BestP es Rs k (-1)) (hf : FreeV es (fun x => x ∈ Rs) (nthI Rs k)) : BestP es Rs (k + 1) (k : Nat) := by
  rcases h with ⟨_, h2⟩ | ⟨m, h1, _⟩
  · refine .inr ⟨k, rfl, by omega, hf, fun j hj hfj => ?_⟩
    by_cases e : j = k
    · subst e; exact Int.le_refl _
    · exact absurd hfj (h2 j (by omega))
  · omega
theorem BestP.less {es : List P2} {Rs : List Int} {k m : Nat} (h : BestP es Rs k (m : Nat)) (hf : FreeV es (fun x => x ∈ Rs) (nthI Rs k)) (hl : nthI Rs k < nthI Rs m) : BestP es Rs (k + 1) (k : Nat) := by
  rcases h with ⟨h1, _⟩ | ⟨m', h1, h2, h3, h4⟩
  · omega
  · obtain rfl : m = m' := by omega
    refine .inr ⟨k, rfl, by omega, hf, fun j hj hfj => ?_⟩
    by_cases e : j = k
    · subst e; exact Int.le_refl _
    · have := h4 j (by omega) hfj; omega
theorem BestP.more {es : List P2} {Rs : List Int} {k m : Nat} (h : BestP es Rs k (m : Nat)) (hl : ¬ nthI Rs k < nthI Rs m) : BestP es Rs (k + 1) (m : Nat) := by
  rcases h with ⟨h1, _⟩ | ⟨m', h1, h2, h3, h4⟩
  · omega
  · obtain rfl : m = m' := by omega
    refine .inr ⟨m, rfl, by omega, h3, fun j hj hfj => ?_⟩
    by_cases e : j = k
    · subst e; omega
    · exact h4 j (by omega) hfj
/-- What stands at each round. -/
structure IO (es : List P2) (ns Rs L : List Int) : Prop where
  run : RunV es ns L
  mem : ∀ x, x ∈ Rs ↔ LeftV ns L x
  nodup : Rs.Nodup
  len : Rs.length + L.length = ns.length
theorem IO.start {es : List P2} {ns : List Int} (h : ns.Nodup) : IO es ns ns [] := ⟨.nil, fun x => ⟨fun h => ⟨h, by simp⟩, fun h => h.1⟩, h, by simp⟩
theorem IO.same {es : List P2} {ns Rs L : List Int} (h : IO es ns Rs L) : LeftV ns L = fun x => x ∈ Rs := funext fun x => propext (h.mem x).symm
theorem IO.done {es : List P2} {ns Rs L : List Int} (h : IO es ns Rs L) (hb : BestP es Rs Rs.length (-1)) : DoneV es ns L := by
  rcases hb with ⟨_, h2⟩ | ⟨m, h1, _⟩
  · intro y hy
    rw [h.same] at hy
    obtain ⟨j, hj, e⟩ := List.mem_iff_getElem.1 hy.1
    refine h2 j hj ?_
    rw [nthI_get hj, e]; exact hy
  · omega
theorem IO.full {es : List P2} {ns Rs L : List Int} (h : IO es ns Rs L) (h0 : Rs.length = 0) : DoneV es ns L ∧ L.length = ns.length := by
  refine ⟨fun y hy => ?_, by have := h.len; omega⟩
  rw [h.same] at hy
  have := hy.1
  rw [List.length_eq_zero_iff.1 h0] at this
  cases this
theorem IO.step {es : List P2} {ns Rs L : List Int} (h : IO es ns Rs L) {m : Nat} (hb : BestP es Rs Rs.length (m : Nat)) : m < Rs.length ∧ IO es ns (Rs.take m ++ Rs.drop (m + 1)) (L ++ [nthI Rs m]) := by
  rcases hb with ⟨h1, _⟩ | ⟨m', h1, hm, h3, h4⟩
  · omega
  · obtain rfl : m = m' := by omega
    have e : Rs = Rs.take m ++ nthI Rs m :: Rs.drop (m + 1) := by
      rw [nthI_get hm, List.getElem_cons_drop, List.take_append_drop]
    have nd := h.nodup
    rw [e] at nd
    obtain ⟨_, n2, n3⟩ := List.nodup_append.1 nd
    have n4 := (List.nodup_cons.1 n2).1
    have n5 : nthI Rs m ∉ Rs.take m := fun hx => n3 _ hx _ (List.mem_cons_self ..) rfl
    refine ⟨hm, ?_, fun x => ?_, ?_, ?_⟩
    · refine .snoc h.run (by rw [h.same]; exact h3) (fun y hy => ?_)
      rw [h.same] at hy
      obtain ⟨j, hj, q⟩ := List.mem_iff_getElem.1 hy.1
      have := h4 j hj (by rw [nthI_get hj, q]; exact hy)
      rw [nthI_get hj, q] at this
      exact this
    · have hx : x ∈ Rs ↔ x ∈ Rs.take m ∨ x = nthI Rs m ∨ x ∈ Rs.drop (m + 1) := by
        conv => lhs; rw [e]
        rw [List.mem_append, List.mem_cons]
      have hl := h.mem x
      unfold LeftV at *
      rw [List.mem_append, List.mem_append, List.mem_singleton]
      constructor
      · rintro (q | q)
        · exact ⟨(hl.1 (hx.2 (.inl q))).1, fun r => r.elim (hl.1 (hx.2 (.inl q))).2 (fun r => n5 (r ▸ q))⟩
        · exact ⟨(hl.1 (hx.2 (.inr (.inr q)))).1, fun r => r.elim (hl.1 (hx.2 (.inr (.inr q)))).2 (fun r => n4 (r ▸ q))⟩
      · rintro ⟨q1, q2⟩
        rcases hx.1 (hl.2 ⟨q1, fun r => q2 (.inl r)⟩) with q | q | q
        · exact .inl q
        · exact absurd (.inr q) q2
        · exact .inr q
    · exact (List.Sublist.append (List.Sublist.refl _) (List.sublist_cons_self ..)).nodup nd
    · have := h.len
      rw [List.length_append, List.length_append, List.length_take, List.length_drop]
      simp only [List.length_cons, List.length_nil]
      omega

/-- A slice of ints is appended to a list of the call's own. -/
theorem app_I (v : Value) (l xs : List Int) (w : World) (B c : Nat) (h : OwnI w B v l) (hl : l.length + xs.length ≤ 1048576) (ad : Addr) (hx : ∀ j, j < xs.length → w.cell? (ad.add j) = some (.int .i64 (nthI xs j))) (hB : B ≤ w.heap.size) :
    ∃ v' w', (Builtin.append_ #[25, 25] 25 #[v, .slice (some ad) xs.length c]).run Try.prog w = .ok v' w' ∧ OwnI w' B v' (l ++ xs) ∧ w.grownBy w' v.ownBlock := by
  obtain ⟨i0, hi, hz0, hz1, hz2⟩ := info_parts info3
  obtain ⟨v', w', hrun, r1, r2, _⟩ := run_append_own (P := Try.prog) w B 25 25 3 i0 (.int .i64 0) 1 8 Try.underlying25 hi hz0 hz1 hz2 rfl (by decide) v l.length (l.map (Value.int .i64)) h ad xs.length c (xs.map (Value.int .i64)) (by simp) (fun j u hu => by
    have hj : j < xs.length := by
      rcases Nat.lt_or_ge j xs.length with q | q
      · exact q
      · rw [List.getElem?_eq_none (by simpa using q)] at hu; cases hu
    rw [List.getElem?_map, List.getElem?_eq_getElem hj] at hu
    rw [hx j hj, nthI_get hj]
    simpa using hu) (by intro u hu; obtain ⟨z, _, rfl⟩ := List.mem_map.1 hu; rfl) (by unfold maxLen; omega) (by omega) hB
  refine ⟨v', w', hrun, ?_, r2⟩
  show w'.ownsRow B 3 1 v' (l ++ xs).length ((l ++ xs).map (Value.int .i64))
  rw [List.length_append, List.map_append]
  exact r1
end Go.Proofs.Ytlcgmifibekegaa
