/- A row as the specification reads it, held against impl's reading: plain mathematics. -/
import Derived.Test.YtfkenogbfbbbjaaRdG
namespace Go.Proofs.Ytfkenogbfbbbjaa
open Go.RowKit

/-- Where the reader is, what it has read and how many are to come, and what that means for impl's answer. -/
def RowInv (f : Nat → Int) (n : Nat) (k : Int) (s : Nat × Bool) (vs : List V3) : Prop :=
  s.1 ≤ n ∧ n ≤ 65536 ∧ 1 ≤ n ∧
  ((s.2 = false ∧ (vs.length : Int) + k = f 0 ∧ ((okRow vs = true ∧ cellsRd rowTx 8 (shB f 1) (n - 1) = (cellsRd rowTx (8 - vs.length) (shB f s.1) (n - s.1)).map (vs ++ ·)) ∨ (okRow vs = false ∧ rowR f n = (3, []))))
   ∨ (s.2 = true ∧ rowR f n = (3, [])))

theorem okRow_snoc (vs : List V3) (v : V3) : okRow (vs ++ [v]) = (decide (vs.length + 1 ≤ 8) && (vs.all okV3 && okV3 v)) := by
  unfold okRow
  simp
theorem okRow_snoc_false {vs : List V3} (v : V3) (h : okRow vs = false) : okRow (vs ++ [v]) = false := by
  rw [okRow_snoc]
  unfold okRow at h
  rcases Bool.and_eq_false_iff.1 h with h | h
  · have h := of_decide_eq_false h
    rw [decide_eq_false (by omega)]
    rfl
  · rw [h]; simp
theorem rowR_none {f : Nat → Int} {n : Nat} (h1 : n ≤ 65536) (h2 : 1 ≤ n) (h : cellsRd rowTx 8 (shB f 1) (n - 1) = none) : rowR f n = (3, []) := by
  unfold rowR
  rw [if_neg (by omega), if_neg (by omega), h]
theorem rowR_some {f : Nat → Int} {n : Nat} {vs : List V3} (h1 : n ≤ 65536) (h2 : 1 ≤ n) (h : cellsRd rowTx 8 (shB f 1) (n - 1) = some vs) : rowR f n = if (vs.length : Int) = f 0 then (0, vs) else (3, []) := by
  unfold rowR
  rw [if_neg (by omega), if_neg (by omega), h]

theorem RowInv.start {f : Nat → Int} {n : Nat} (h1 : 1 ≤ n) (hn : n ≤ 65536) : RowInv f n (f 0) (1, false) [] :=
  ⟨h1, hn, h1, .inl ⟨rfl, by simp, .inl ⟨by decide, by simp⟩⟩⟩

theorem RowInv.step {f : Nat → Int} {n : Nat} {k : Int} {o : Nat} {vs : List V3} (hf : Bys f n) (hk : 0 < k) (h : RowInv f n k (o, false) vs) : RowInv f n (k - 1) (specCell f n (o, false)).2 (vs ++ [(specCell f n (o, false)).1]) := by
  obtain ⟨ho, hn, h1, h⟩ := h
  obtain ⟨hl, h⟩ : (vs.length : Int) + k = f 0 ∧ ((okRow vs = true ∧ cellsRd rowTx 8 (shB f 1) (n - 1) = (cellsRd rowTx (8 - vs.length) (shB f o) (n - o)).map (vs ++ ·)) ∨ (okRow vs = false ∧ rowR f n = (3, []))) := by
    rcases h with ⟨_, hl, h⟩ | ⟨h, _⟩
    · exact ⟨hl, h⟩
    · cases h
  simp only at ho
  have hl' : ((vs ++ [(specCell f n (o, false)).1]).length : Int) + (k - 1) = f 0 := by simp; omega
  by_cases hon : n ≤ o
  · have he := specCell_end f hon
    rw [he]
    refine ⟨ho, hn, h1, .inr ⟨rfl, ?_⟩⟩
    rcases h with ⟨_, hch⟩ | ⟨_, h⟩
    · have : n - o = 0 := by omega
      simp only [this, cellsRd_zero] at hch
      rw [rowR_some hn h1 hch, if_neg (by simp; omega)]
    · exact h
  · have hA := specCell_go hf (show o < n by omega)
    generalize hp : specCell f n (o, false) = p at *
    obtain ⟨v, o', bad⟩ := p
    rcases h with ⟨hok, hch⟩ | ⟨hok, h⟩
    · skip
      rcases hA with ⟨hb, hv, hq1, hq2, hlt, hle⟩ | ⟨hb, hq, hle⟩
      · simp only at hb hv hq1 hq2 hlt hle
        subst hb
        refine ⟨hle, hn, h1, .inl ⟨rfl, hl', ?_⟩⟩
        by_cases h8 : vs.length < 8
        · left
          refine ⟨?_, ?_⟩
          · rw [okRow_snoc, hv]
            unfold okRow at hok
            rw [(Bool.and_eq_true_iff.1 hok).2, decide_eq_true (by omega)]
            rfl
          · rw [hch]
            obtain ⟨j, hj⟩ : ∃ j, 8 - vs.length = j + 1 := ⟨7 - vs.length, by omega⟩
            have hj2 : 8 - (vs ++ [v]).length = j := by simp; omega
            have hz : (cellRd rowTx (shB f o) (n - o)).2.toNat = o' - o := by omega
            rw [hj, hj2, cellsRd_next j (by omega) (by omega), hz, hq1, shB_shB]
            have e1 : o + (o' - o) = o' := by omega
            have e2 : n - o - (o' - o) = n - o' := by omega
            rw [e1, e2]
            cases cellsRd rowTx j (shB f o') (n - o') <;> simp
        · right
          refine ⟨?_, ?_⟩
          · rw [okRow_snoc, decide_eq_false (by omega)]
            rfl
          · have : 8 - vs.length = 0 := by omega
            rw [this, cellsRd_full (by omega)] at hch
            exact rowR_none hn h1 hch
      · simp only at hb hle
        rw [cellsRd_bad _ (by omega) hq] at hch
        have hr := rowR_none hn h1 hch
        refine ⟨hle, hn, h1, ?_⟩
        cases bad with
        | true => exact .inr ⟨rfl, hr⟩
        | false =>
          rcases hb with hb | hb
          · cases hb
          · refine .inl ⟨rfl, hl', .inr ⟨?_, hr⟩⟩
            rw [okRow_snoc, hb]
            simp
    · refine ⟨?_, hn, h1, ?_⟩
      · rcases hA with ⟨_, _, _, _, _, hle⟩ | ⟨_, _, hle⟩ <;> exact hle
      · cases bad with
        | true => exact .inr ⟨rfl, h⟩
        | false => exact .inl ⟨rfl, hl', .inr ⟨okRow_snoc_false v hok, h⟩⟩

/-- What impl answers, once all is read. -/
theorem RowInv.done {f : Nat → Int} {n : Nat} {k : Int} {s : Nat × Bool} {vs : List V3} (h : RowInv f n k s vs) (hk : s.2 = true ∨ k = 0) :
    rowR f n = if s.2 = false ∧ okRow vs = true ∧ s.1 = n then (0, vs) else (3, []) := by
  obtain ⟨ho, hn, h1, h⟩ := h
  rcases h with ⟨hb, hl, h⟩ | ⟨hb, h⟩
  · have hk0 : k = 0 := by
      rcases hk with e | e
      · rw [hb] at e; cases e
      · exact e
    rcases h with ⟨hok, hch⟩ | ⟨hok, h⟩
    · by_cases hs : s.1 = n
      · rw [if_pos ⟨hb, hok, hs⟩]
        have : n - s.1 = 0 := by omega
        rw [this, cellsRd_zero] at hch
        rw [rowR_some hn h1 hch]
        simp
        omega
      · rw [if_neg (fun x => hs x.2.2)]
        cases hc : cellsRd rowTx (8 - vs.length) (shB f s.1) (n - s.1) with
        | none => rw [hc] at hch; exact rowR_none hn h1 hch
        | some us =>
          rw [hc] at hch
          rw [rowR_some hn h1 hch, if_neg]
          have : us ≠ [] := by
            intro e
            subst e
            cases hj : 8 - vs.length with
            | zero => rw [hj, cellsRd_full (by omega)] at hc; cases hc
            | succ j =>
              rw [hj] at hc
              have hc : (if _ then _ else _) = _ := hc
              rw [if_neg (by omega)] at hc
              split at hc
              · cases hc
              · simp at hc
          have : 0 < us.length := List.length_pos_iff.2 this
          simp
          omega
    · rw [if_neg (fun x => by rw [hok] at x; exact absurd x.2.1 (by decide))]
      exact h
  · rw [if_neg (fun x => by rw [hb] at x; exact absurd x.1 (by decide))]
    exact h
end Go.Proofs.Ytfkenogbfbbbjaa
