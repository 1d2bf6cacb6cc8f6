/- Rows of values that a callee made, and lists of such rows (stage 13). -/
import Derived.Test.YthdilgggjkekaaaPrB
import Derived.Lib.AppendZeros
import Derived.Laws.Cover3
namespace Go.Proofs.Ythdilgggjkekaaa.R
open Go.RowKit

/-- The cells of some values. -/
def cellsV : List V3 → List Value
  | [] => []
  | v :: vs => .int .i64 v.1 :: .int .i64 v.2.1 :: .string v.2.2 :: cellsV vs
theorem cellsV_len : ∀ l : List V3, (cellsV l).length = l.length * 3
  | [] => rfl
  | v :: vs => by simp only [cellsV, List.length_cons, cellsV_len vs]; omega
theorem cellsV_append : ∀ l r : List V3, cellsV (l ++ r) = cellsV l ++ cellsV r
  | [], _ => rfl
  | v :: vs, r => by simp only [cellsV, List.cons_append, cellsV_append vs r]
theorem cellsV_one : ∀ (l : List V3), ∀ u ∈ cellsV l, u.oneCell' = true
  | [], u, h => by simp [cellsV] at h
  | v :: vs, u, h => by
    simp only [cellsV, List.mem_cons] at h
    rcases h with rfl | rfl | rfl | h
    · rfl
    · rfl
    · rfl
    · exact cellsV_one vs u h
theorem cellsV_get : ∀ (l : List V3) (i : Nat), i < l.length → (cellsV l)[i * 3]? = some (.int .i64 (nthV l i).1) ∧ (cellsV l)[i * 3 + 1]? = some (.int .i64 (nthV l i).2.1) ∧ (cellsV l)[i * 3 + 2]? = some (.string (nthV l i).2.2)
  | [], _, h => by simp at h
  | v :: vs, 0, _ => ⟨rfl, rfl, rfl⟩
  | v :: vs, i + 1, h => by
    have ih := cellsV_get vs i (by simpa using h)
    have e1 : (i + 1) * 3 = i * 3 + 1 + 1 + 1 := by omega
    have e2 : (i + 1) * 3 + 1 = i * 3 + 1 + 1 + 1 + 1 := by omega
    have e3 : (i + 1) * 3 + 2 = i * 3 + 2 + 1 + 1 + 1 := by omega
    rw [e3, e2, e1]
    simp only [cellsV, List.getElem?_cons_succ]
    exact ih
/-- The cells of a row that can be read stand there. -/
theorem rowV_cells {w : World} {b off : Nat} {us : List V3} (h : RowV w (some ⟨b, off, none⟩) us) (j : Nat) (u : Value) (hj : (cellsV us)[j]? = some u) : w.cell? ((⟨b, off, none⟩ : Addr).add j) = some u := by
  have hl : j < us.length * 3 := by
    rw [← cellsV_len us]
    exact (List.getElem?_eq_some_iff.1 hj).1
  obtain ⟨i, r, hr, rfl⟩ : ∃ i r, r < 3 ∧ j = i * 3 + r := ⟨j / 3, j % 3, Nat.mod_lt _ (by omega), by omega⟩
  have hi : i < us.length := by omega
  obtain ⟨b', off', e, _, ⟨c0, c1, c2⟩, _⟩ := h i hi
  cases e
  obtain ⟨g0, g1, g2⟩ := cellsV_get us i hi
  rw [add_plain]
  match r, hr with
  | 0, _ =>
    rw [Nat.add_zero] at hj ⊢
    rw [g0] at hj
    rw [← hj]; exact c0
  | 1, _ =>
    rw [g1] at hj
    rw [← hj, ← Nat.add_assoc]; exact c1
  | 2, _ =>
    rw [g2] at hj
    rw [← hj, ← Nat.add_assoc]; exact c2
/-- A row of values of the call's own. -/
abbrev OwnV (w : World) (B : Nat) (v : Value) (l : List V3) : Prop := w.ownsRow B 27 3 v l.length (cellsV l)
theorem OwnV.nil (w : World) (B : Nat) : OwnV w B (.slice none 0 0) [] := ⟨rfl, .inl ⟨rfl, rfl⟩⟩
theorem OwnV.block {w w' : World} {B : Nat} {v : Value} {l : List V3} (h : OwnV w B v l) (hb : ∀ g, g < w.heap.size → B ≤ g → w'.heap[g]? = w.heap[g]?) : OwnV w' B v l := by
  obtain ⟨h1, h2⟩ := h
  refine ⟨h1, ?_⟩
  rcases h2 with h | ⟨g, cap, cur, e, hg, hh, r⟩
  · exact .inl h
  · exact .inr ⟨g, cap, cur, e, hg, (hb g (slab_lt hh) hg).trans hh, r⟩
theorem OwnV.below {w w' : World} {B : Nat} {v : Value} {l : List V3} (h : OwnV w B v l) (hb : Below w.heap.size w w') : OwnV w' B v l := h.block fun g hg _ => hb.block g hg
/-- It can be read. -/
theorem OwnV.row {w : World} {B : Nat} {v : Value} {l : List V3} (h : OwnV w B v l) (hz : ∀ i, i < l.length → (nthV l i).2.2.size ≤ maxLen) : ∃ a cap, v = .slice a l.length cap ∧ RowV w a l := by
  obtain ⟨_, h2⟩ := h
  rcases h2 with ⟨rfl, h0⟩ | ⟨g, cap, cur, rfl, _, hh, _, _, hs, ht⟩
  · exact ⟨none, 0, by rw [h0], fun i hi => by omega⟩
  · refine ⟨_, cap, rfl, fun i hi => ⟨g, 0, rfl, slab_lt hh, ?_, hz i hi⟩⟩
    have key : ∀ j u, (cellsV l)[j]? = some u → w.cell? ⟨g, j, none⟩ = some u := fun j u hj => by
      rw [slab_cell hh]
      rw [← ht, List.getElem?_take] at hj
      split at hj
      · rw [← Array.getElem?_toList]; exact hj
      · cases hj
    obtain ⟨g0, g1, g2⟩ := cellsV_get l i hi
    rw [Nat.zero_add]
    exact ⟨key _ _ g0, key _ _ g1, key _ _ g2⟩
set_option maxRecDepth 100000 in
/-- Values appended to a row of the call's own. -/
theorem app_V (v : Value) (l us : List V3) (w : World) (B b off c : Nat) (h : OwnV w B v l) (hl : l.length + us.length ≤ 2097152) (hx : RowV w (some ⟨b, off, none⟩) us) (hB : B ≤ w.heap.size) :
    ∃ v' w', (Builtin.append_ #[25, 25] 25 #[v, .slice (some ⟨b, off, none⟩) us.length c]).run Try.prog w = .ok v' w' ∧ OwnV w' B v' (l ++ us) ∧ w.grownBy w' v.ownBlock := by
  obtain ⟨i0, hi, hz0, hz1, hz2⟩ := info_parts infoV
  obtain ⟨v', w', h1, h2, h3, _⟩ := run_append_own (P := Try.prog) w B 25 25 27 i0 _ 3 32 Try.underlying25 hi hz0 hz1 hz2 rfl (by decide) v l.length (cellsV l) h ⟨b, off, none⟩ us.length c (cellsV us) (cellsV_len us) (fun j u hj => rowV_cells hx j u hj) (cellsV_one us) (by unfold maxLen; omega) (by omega)
    hB
  exact ⟨v', w', h1, by rw [← List.length_append, ← cellsV_append] at h2; exact h2, h3⟩
theorem OwnV.empty {w : World} {B : Nat} (hB : B ≤ w.heap.size) : OwnV (w.alloc (.cells #[] 27)) B (.slice (some ⟨w.heap.size, 0, none⟩) 0 0) [] :=
  ⟨rfl, .inr ⟨w.heap.size, 0, #[], rfl, hB, heap_alloc_new w _, by simp, by simp, by simp, by simp [cellsV]⟩⟩
theorem own_grown {B : Nat} {w u u' : World} {v : Value} {l : List V3} (h : Below B w u) (hB : B ≤ u.heap.size) (ho : OwnV u B v l) (hg : u.grownBy u' v.ownBlock) : Below B w u' :=
  h.grown hg hB fun k e => by
    obtain ⟨_, h2⟩ := ho
    rcases h2 with ⟨rfl, _⟩ | ⟨g, cap, cur, rfl, hg', _⟩
    · simp [Value.ownBlock] at e
    · simp [Value.ownBlock] at e
      omega

theorem OwnV.mono {w : World} {B B' : Nat} {v : Value} {l : List V3} (h : OwnV w B v l) (hB : B' ≤ B) : OwnV w B' v l := by
  obtain ⟨h1, h2⟩ := h
  refine ⟨h1, ?_⟩
  rcases h2 with h | ⟨g, cap, cur, e, hg, r⟩
  · exact .inl h
  · exact .inr ⟨g, cap, cur, e, Nat.le_trans hB hg, r⟩
/-- Where it lies, if it has a value. -/
theorem OwnV.slab {w : World} {B : Nat} {u : Value} {l : List V3} (h : OwnV w B u l) : ∃ a cap, u = .slice a l.length cap ∧ (0 < l.length → ∃ g, a = some ⟨g, 0, none⟩ ∧ B ≤ g ∧ l.length ≤ cap ∧ SlabK w g cap l l.length) := by
  obtain ⟨_, h2⟩ := h
  rcases h2 with ⟨rfl, h0⟩ | ⟨g, cap, cur, rfl, hg, hh, hc, _, hs, ht⟩
  · exact ⟨none, 0, by rw [h0], fun h => by omega⟩
  · refine ⟨_, cap, rfl, fun _ => ⟨g, rfl, hg, hc, cur, hh, hs, fun i hi => ?_⟩⟩
    have key : ∀ j u, (cellsV l)[j]? = some u → cur[j]? = some u := fun j u hj => by
      rw [← ht, List.getElem?_take] at hj
      split at hj
      · rw [← Array.getElem?_toList]; exact hj
      · cases hj
    obtain ⟨g0, g1, g2⟩ := cellsV_get l i hi
    exact ⟨key _ _ g0, key _ _ g1, key _ _ g2⟩

/-- A list of rows that is being made: its rows lie from B on and below hi. -/
def BldR (w : World) (B hi : Nat) (v : Value) (rs : Rs) : Prop := ∃ (xs : List Value) (gs ns cs : Nat → Nat) (ax : Nat → Option Addr), w.ownsRow B 25 1 v rs.length xs ∧
  (∀ i, i < rs.length → xs[i]? = some (.slice (ax i) (nthR rs i).length (cs i)) ∧ (0 < (nthR rs i).length → ax i = some ⟨gs i, 0, none⟩ ∧ B ≤ gs i ∧ gs i < hi ∧ (nthR rs i).length ≤ ns i ∧ SlabK w (gs i) (ns i) (nthR rs i) (nthR rs i).length)) ∧
  (∀ i j, i < j → j < rs.length → 0 < (nthR rs i).length → 0 < (nthR rs j).length → gs i ≠ gs j) ∧ ∀ i, i < rs.length → 0 < (nthR rs i).length → (nthR rs i).length ≤ cs i
theorem BldR.nil (w : World) (B hi : Nat) : BldR w B hi (.slice none 0 0) [] := ⟨[], fun _ => 0, fun _ => 0, fun _ => 0, fun _ => none, ⟨rfl, .inl ⟨rfl, rfl⟩⟩, fun i hi => by simp at hi, fun i j _ hj => by simp at hj, fun i hi => by simp at hi⟩
theorem BldR.made {w : World} {B hi : Nat} (hB : B ≤ w.heap.size) : BldR (w.alloc (.cells #[] 25)) B hi (.slice (some ⟨w.heap.size, 0, none⟩) 0 0) [] :=
  ⟨[], fun _ => 0, fun _ => 0, fun _ => 0, fun _ => none, ⟨rfl, .inr ⟨w.heap.size, 0, #[], rfl, hB, heap_alloc_new w _, by simp, by simp, by simp, by simp⟩⟩, fun i hi => by simp at hi, fun i j _ hj => by simp at hj, fun i hi => by simp at hi⟩
theorem BldR.mono {w : World} {B hi hi' : Nat} {v : Value} {rs : Rs} (h : BldR w B hi v rs) (hh : hi ≤ hi') : BldR w B hi' v rs := by
  obtain ⟨xs, gs, ns, cs, ax, ho, hc, hd⟩ := h
  exact ⟨xs, gs, ns, cs, ax, ho, fun i hi => ⟨(hc i hi).1, fun h0 => by obtain ⟨q1, q2, q3, q4, q5⟩ := (hc i hi).2 h0; exact ⟨q1, q2, by omega, q4, q5⟩⟩, hd⟩
theorem BldR.below {w w' : World} {B hi : Nat} {v : Value} {rs : Rs} (h : BldR w B hi v rs) (hb : Below w.heap.size w w') : BldR w' B hi v rs := by
  obtain ⟨xs, gs, ns, cs, ax, ho, hc, hd⟩ := h
  refine ⟨xs, gs, ns, cs, ax, ?_, fun i hi => ⟨(hc i hi).1, fun h0 => by obtain ⟨q1, q2, q3, q4, q5⟩ := (hc i hi).2 h0; exact ⟨q1, q2, q3, q4, q5.below hb q5.lt⟩⟩, hd⟩
  obtain ⟨h1, h2⟩ := ho
  refine ⟨h1, ?_⟩
  rcases h2 with h | ⟨g, cap, cur, e, hg, hh, r⟩
  · exact .inl h
  · exact .inr ⟨g, cap, cur, e, hg, (hb.block g (slab_lt hh)).trans hh, r⟩
theorem BldR.grown {B hi : Nat} {w u u' : World} {v : Value} {rs : Rs} (h : Below B w u) (hB : B ≤ u.heap.size) (ho : BldR u B hi v rs) (hg : u.grownBy u' v.ownBlock) : Below B w u' :=
  h.grown hg hB fun k e => by
    obtain ⟨xs, _, _, _, _, ⟨_, h2⟩, _⟩ := ho
    rcases h2 with ⟨rfl, _⟩ | ⟨g, cap, cur, rfl, hg', _⟩
    · simp [Value.ownBlock] at e
    · simp [Value.ownBlock] at e
      omega
theorem nthR_left {rs ts : Rs} {i : Nat} (h : i < rs.length) : nthR (rs ++ ts) i = nthR rs i := by unfold nthR; rw [List.getD_eq_getElem?_getD, List.getD_eq_getElem?_getD, List.getElem?_append_left h]
theorem nthR_last {rs : Rs} {vs : List V3} : nthR (rs ++ [vs]) rs.length = vs := by unfold nthR; rw [List.getD_eq_getElem?_getD, List.getElem?_append_right (Nat.le_refl _)]; simp
set_option maxRecDepth 100000 in
/-- A row appended. -/
theorem app_R {W : World} {B hi hi' b c : Nat} {v u : Value} {rs : Rs} {vs : List V3} (h : BldR W B hi v rs) (hB : B ≤ W.heap.size) (hl : rs.length < 4096) (hc : W.cell? ⟨b, 0, none⟩ = some u) (hu : OwnV W hi' u vs) (hh : hi ≤ hi') (hBh : B ≤ hi') :
    ∃ v' w', (Builtin.append_ #[23, 23] 23 #[v, .slice (some ⟨b, 0, none⟩) 1 c]).run Try.prog W = .ok v' w' ∧ BldR w' B w'.heap.size v' (rs ++ [vs]) ∧ W.grownBy w' v.ownBlock := by
  obtain ⟨i0, hi1, hz0, hz1, hz2⟩ := info_parts infoR
  obtain ⟨xs, gs, ns, cs, ax, ho, hr, hd⟩ := h
  obtain ⟨a, cap, rfl, hs⟩ := hu.slab
  obtain ⟨v', w', h1, h2, h3, _⟩ := run_append_own (P := Try.prog) W B 23 23 25 i0 _ 1 24 Try.underlying23 hi1 hz0 hz1 hz2 rfl (by decide) v rs.length xs ho ⟨b, 0, none⟩ 1 c [.slice a vs.length cap] rfl (fun j u hj => by
    match j, hj with
    | 0, hj => simp at hj; subst hj; rw [add_plain]; exact hc) (by intro u hu; simp at hu; subst hu; rfl) (by unfold maxLen; omega) (by omega) hB
  refine ⟨v', w', h1, ?_, h3⟩
  have hx : xs.length = rs.length := by have := ho.1; omega
  have kp : ∀ g n us m, SlabK W g n us m → SlabK w' g n us m := fun g n us m hS => hS.at (h3.block g hS.lt (fun e => by
    obtain ⟨cu, hq, _⟩ := hS
    obtain ⟨_, q2⟩ := ho
    rcases q2 with ⟨rfl, _⟩ | ⟨g', cap', cur', rfl, _, hq', _⟩
    · simp [Value.ownBlock] at e
    · simp [Value.ownBlock] at e
      subst e
      rw [hq] at hq'
      simp at hq'))
  refine ⟨xs ++ [.slice a vs.length cap], fun i => if i = rs.length then (match a with | some p => p.block | none => 0) else gs i, fun i => if i = rs.length then cap else ns i, fun i => if i = rs.length then cap else cs i, fun i => if i = rs.length then a else ax i, by rw [List.length_append]; exact h2, fun i hi => ?_, fun i j hij hj p1 p2 => ?_, fun i hi h0 => ?_⟩
  · rw [List.length_append, List.length_singleton] at hi
    by_cases e : i = rs.length
    · subst e
      rw [nthR_last]
      refine ⟨?_, fun h0 => ?_⟩
      · rw [List.getElem?_append_right (by omega), hx]; simp
      · obtain ⟨g, rfl, q1, q2, q3⟩ := hs h0
        have := kp _ _ _ _ q3
        refine ⟨by simp, by simp; omega, by simp; exact this.lt, by simp; exact q2, by simp; exact this⟩
    · have hi' : i < rs.length := by omega
      rw [nthR_left hi']
      obtain ⟨q0, q⟩ := hr i hi'
      refine ⟨?_, fun h0 => ?_⟩
      · rw [List.getElem?_append_left (by omega)]; simp [e]; exact q0
      · obtain ⟨q1, q2, q3, q4, q5⟩ := q h0
        have := kp _ _ _ _ q5
        refine ⟨by simp [e]; exact q1, by simp [e]; exact q2, by simp [e]; exact this.lt, by simp [e]; exact q4, by simp [e]; exact this⟩
  · rw [List.length_append, List.length_singleton] at hj
    have hi' : i < rs.length := by omega
    rw [nthR_left hi'] at p1
    have qi := (hr i hi').2 p1
    by_cases e : j = rs.length
    · subst e
      rw [nthR_last] at p2
      obtain ⟨g, rfl, q1, _⟩ := hs p2
      simp only [if_neg (show ¬ i = rs.length by omega), if_pos]
      have := qi.2.2.1
      omega
    · rw [nthR_left (by omega)] at p2
      simp only [if_neg (show ¬ i = rs.length by omega), if_neg e]
      exact hd.1 i j hij (by omega) p1 p2
  · rw [List.length_append, List.length_singleton] at hi
    by_cases e : i = rs.length
    · subst e
      rw [nthR_last] at h0 ⊢
      obtain ⟨g, rfl, q1, q2, q3⟩ := hs h0
      simp only [if_pos]
      exact q2
    · have hi' : i < rs.length := by omega
      rw [nthR_left hi'] at h0 ⊢
      simp only [if_neg e]
      exact hd.2 i hi' h0
/-- What was made owns its memory. -/
theorem BldR.own {w : World} {B hi : Nat} {v : Value} {rs : Rs} (h : BldR w B hi v rs) : ∃ a cap, v = .slice a rs.length cap ∧ OwnR w B w.heap.size a rs := by
  obtain ⟨xs, gs, ns, cs, ax, ⟨hx, ho⟩, hr, hd⟩ := h
  rcases ho with ⟨rfl, h0⟩ | ⟨g, cap, cur, rfl, hg, hh, hc, _, hs, ht⟩
  · exact ⟨none, 0, by rw [h0], .inl h0⟩
  · refine ⟨_, cap, rfl, .inr ⟨g, cur, gs, ns, cs, ax, rfl, hg, slab_lt hh, hh, fun i hi => ⟨?_, fun p => ?_⟩, hd.1⟩⟩
    · have := (hr i hi).1
      rw [← ht, List.getElem?_take] at this
      split at this
      · rw [← Array.getElem?_toList]; exact this
      · cases this
    · obtain ⟨q1, q2, q3, q4, q5⟩ := (hr i hi).2 p
      refine ⟨q1, fun e => ?_, q2, q5.lt, q4, q5⟩
      obtain ⟨cu, hq, _⟩ := q5
      rw [e, hh] at hq
      simp at hq
end Go.Proofs.Ythdilgggjkekaaa.R
