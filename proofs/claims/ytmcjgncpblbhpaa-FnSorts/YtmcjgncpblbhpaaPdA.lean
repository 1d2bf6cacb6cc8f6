/- Products of drawn rows: mathematics, and rows cut in two (stage 13). -/
import Derived.Test.YtmcjgncpblbhpaaSbQ
import Derived.Test.YtmcjgncpblbhpaaPrH
namespace Go.Proofs.Ytmcjgncpblbhpaa
open Go.RowKit

/-- What f makes of each of one list with each of the other. -/
def genL (f : List V3 → List V3 → List V3) (aa bb : Rs) : Rs := aa.flatMap fun x => bb.map fun y => f x y
theorem nthR_right {L R : Rs} {q : Nat} : nthR (L ++ R) (L.length + q) = nthR R q := by
  unfold nthR
  rw [List.getD_eq_getElem?_getD, List.getD_eq_getElem?_getD, List.getElem?_append_right (by omega)]
  congr 2
  omega
theorem nthR_map (f : List V3 → List V3) {bb : Rs} {i : Nat} (h : i < bb.length) : nthR (bb.map f) i = f (nthR bb i) := by
  rw [nthR_get (by simpa using h), nthR_get h, List.getElem_map]
theorem genL_len (f : List V3 → List V3 → List V3) : ∀ aa bb : Rs, (genL f aa bb).length = aa.length * bb.length
  | [], bb => by simp [genL]
  | x :: aa, bb => by
    have := genL_len f aa bb
    unfold genL at this ⊢
    rw [List.flatMap_cons, List.length_append, this, List.length_map, List.length_cons, Nat.add_mul]
    omega
theorem genL_nth (f : List V3 → List V3 → List V3) : ∀ (aa bb : Rs) (i : Nat), i < aa.length * bb.length → nthR (genL f aa bb) i = f (nthR aa (i / bb.length)) (nthR bb (i % bb.length))
  | [], bb, i, h => by simp at h
  | x :: aa, bb, i, h => by
    have hm : 0 < bb.length := by
      rcases Nat.eq_zero_or_pos bb.length with h0 | h0
      · rw [h0] at h; simp at h
      · exact h0
    have e : genL f (x :: aa) bb = bb.map (fun y => f x y) ++ genL f aa bb := by unfold genL; rw [List.flatMap_cons]
    rw [e]
    by_cases hi : i < bb.length
    · rw [nthR_left (by simpa using hi), nthR_map _ hi, Nat.div_eq_of_lt hi, Nat.mod_eq_of_lt hi]
      rfl
    · obtain ⟨q, rfl⟩ : ∃ q, i = bb.length + q := ⟨i - bb.length, by omega⟩
      have hq : q < aa.length * bb.length := by rw [List.length_cons, Nat.add_mul] at h; omega
      have := genL_nth f aa bb q hq
      have l1 : (bb.map (fun y => f x y)).length = bb.length := by simp
      have e2 := nthR_right (L := bb.map (fun y => f x y)) (R := genL f aa bb) (q := q)
      rw [l1] at e2
      rw [e2, this, Nat.add_div_left _ hm, Nat.add_mod_left]
      rfl
theorem flat_cons {α β : Type} (g : α → β) (h : α → List β) : ∀ l : List α, (l.flatMap fun y => g y :: h y).Perm (l.map g ++ l.flatMap h)
  | [] => List.Perm.refl _
  | y :: l => by
    rw [List.flatMap_cons, List.flatMap_cons, List.map_cons, List.cons_append, List.cons_append]
    refine List.Perm.cons _ ?_
    refine ((flat_cons g h l).append_left (h y)).trans ?_
    rw [← List.append_assoc, ← List.append_assoc]
    exact (List.perm_append_comm).append_right _
theorem gen_swap (f : List V3 → List V3 → List V3) : ∀ aa bb : Rs, (genL f aa bb).Perm (genL (fun y x => f x y) bb aa)
  | [], bb => by simp [genL]
  | x :: aa, bb => by
    have e : genL f (x :: aa) bb = bb.map (fun y => f x y) ++ genL f aa bb := by unfold genL; rw [List.flatMap_cons]
    rw [e]
    refine ((gen_swap f aa bb).append_left _).trans ?_
    have := flat_cons (fun y => f x y) (fun y => aa.map fun z => f z y) bb
    exact this.symm
/-- The product turned. -/
def turnL (aa bb : Rs) : Rs := genL (fun x y => y ++ x) aa bb
theorem turn_perm (aa bb : Rs) : (turnL aa bb).Perm (prodL bb aa) := gen_swap (fun x y => y ++ x) aa bb
theorem take_next {rs : Rs} {i : Nat} (h : i < rs.length) : rs.take (i + 1) = rs.take i ++ [nthR rs i] := by
  rw [List.take_add_one, List.getElem?_eq_getElem h, nthR_get h]
  rfl
/-- Rows with addresses, and room for their values. -/
def RowC (w : World) (a : Option Addr) (rs : Rs) : Prop :=
  ∀ i, i < rs.length → ∃ b off bi oi ci, a = some ⟨b, off, none⟩ ∧ b < w.heap.size ∧ w.cell? ⟨b, off + i, none⟩ = some (.slice (some ⟨bi, oi, none⟩) (nthR rs i).length ci) ∧ RowV w (some ⟨bi, oi, none⟩) (nthR rs i) ∧ (nthR rs i).length ≤ ci
theorem RowC.below {w w' : World} {a : Option Addr} {rs : Rs} (h : RowC w a rs) (hb : Below w.heap.size w w') : RowC w' a rs := fun i hi => by
  obtain ⟨b, off, bi, oi, ci, e, hlt, hc, hr, hs⟩ := h i hi
  exact ⟨b, off, bi, oi, ci, e, Nat.lt_of_lt_of_le hlt hb.size, (hb.cell (p := ⟨b, off + i, none⟩) hlt).trans hc, hr.below hb, hs⟩
theorem BldR.rowC {w : World} {B hi : Nat} {v : Value} {rs : Rs} (h : BldR w B hi v rs) (hp : ∀ i, i < rs.length → 0 < (nthR rs i).length) (ht : TextR rs) : ∃ a c, v = .slice a rs.length c ∧ RowC w a rs := by
  obtain ⟨xs, gs, ns, cs, ax, ⟨hx, ho⟩, hr, _, hcp⟩ := h
  rcases ho with ⟨rfl, h0⟩ | ⟨g, cap, cur, rfl, hg, hh, hc, _, hcs, htk⟩
  · exact ⟨none, 0, by rw [h0], fun i hi => by omega⟩
  · refine ⟨_, cap, rfl, fun i hi => ?_⟩
    obtain ⟨e1, e2⟩ := hr i hi
    obtain ⟨q1, q2, q3, q4, q5⟩ := e2 (hp i hi)
    rw [q1] at e1
    have hcell : cur[i]? = some (.slice (some ⟨gs i, 0, none⟩) (nthR rs i).length (cs i)) := by
      rw [← htk, List.getElem?_take] at e1
      split at e1
      · rw [← Array.getElem?_toList]; exact e1
      · cases e1
    refine ⟨g, 0, gs i, 0, cs i, rfl, slab_lt hh, by rw [slab_cell hh, Nat.zero_add]; exact hcell, ?_, hcp i hi (hp i hi)⟩
    intro j hj
    obtain ⟨cu, qh, _, qc⟩ := q5
    have := qc j hj
    refine ⟨gs i, 0, rfl, slab_lt qh, ⟨?_, ?_, ?_⟩, ht i hi j hj⟩
    · rw [slab_cell qh, Nat.zero_add]; exact this.1
    · rw [slab_cell qh, Nat.zero_add]; exact this.2.1
    · rw [slab_cell qh, Nat.zero_add]; exact this.2.2
theorem nthV_left {xs ys : List V3} {i : Nat} (h : i < xs.length) : nthV (xs ++ ys) i = nthV xs i := by unfold nthV; rw [List.getD_eq_getElem?_getD, List.getD_eq_getElem?_getD, List.getElem?_append_left h]
theorem nthV_right {xs ys : List V3} {i : Nat} : nthV (xs ++ ys) (xs.length + i) = nthV ys i := by
  unfold nthV
  rw [List.getD_eq_getElem?_getD, List.getD_eq_getElem?_getD, List.getElem?_append_right (by omega)]
  congr 2
  omega
theorem RowV.pre {w : World} {b o : Nat} {xs ys : List V3} (h : RowV w (some ⟨b, o, none⟩) (xs ++ ys)) : RowV w (some ⟨b, o, none⟩) xs := fun i hi => by
  obtain ⟨b', o', e, hl, hc, ht⟩ := h i (by rw [List.length_append]; omega)
  rw [nthV_left hi] at hc ht
  exact ⟨b', o', e, hl, hc, ht⟩
theorem RowV.suf {w : World} {b o : Nat} {xs ys : List V3} (h : RowV w (some ⟨b, o, none⟩) (xs ++ ys)) : RowV w (some ⟨b, o + xs.length * 3, none⟩) ys := fun i hi => by
  obtain ⟨b', o', e, hl, hc, ht⟩ := h (xs.length + i) (by rw [List.length_append]; omega)
  cases e
  rw [nthV_right] at hc ht
  refine ⟨b, o + xs.length * 3, rfl, hl, ?_, ht⟩
  rw [show o + xs.length * 3 + i * 3 = o + (xs.length + i) * 3 by omega]
  exact hc
/-- Rows that are drawn are right. -/
theorem GoodR.small {nw : Nat} {rs : Rs} (h : GoodR nw rs) (hl : rs.length ≤ 400) (hn : nw ≤ 16) : SmallR rs := ⟨by omega, fun i hi => by
  have := (h _ (by rw [nthR_get hi]; exact List.getElem_mem hi : nthR rs i ∈ rs)).1
  omega⟩
theorem GoodR.text {nw : Nat} {rs : Rs} (h : GoodR nw rs) : TextR rs := textR_of fun vs hv v hvv => by
  have := ((h vs hv).2 v hvv).2.2
  unfold maxLen
  omega
theorem GoodR.ok {nw wd : Nat} {rs : Rs} (h : GoodR nw rs) (hl : rs.length ≤ 400) (hn : nw ≤ wd) : okRs wd rs = true := by
  rw [okRs_good (fun j hj => ?_)]
  · simp; omega
  · have hm : nthR rs j ∈ rs := by rw [nthR_get hj]; exact List.getElem_mem hj
    unfold rowB
    simp only [Bool.and_eq_true, decide_eq_true_eq, List.all_eq_true]
    exact ⟨by rw [(h _ hm).1]; exact hn, fun v hv => ((h _ hm).2 v hv).1⟩
theorem GoodR.len {nw : Nat} {rs : Rs} (h : GoodR nw rs) {i : Nat} (hi : i < rs.length) : (nthR rs i).length = nw := (h _ (by rw [nthR_get hi]; exact List.getElem_mem hi)).1
theorem good_gen {nw nv : Nat} {aa bb : Rs} (ha : GoodR nw aa) (hb : GoodR nv bb) : GoodR (nw + nv) (prodL aa bb) := fun vs hv => by
  obtain ⟨x, hx, y, hy, rfl⟩ := mem_prod hv
  refine ⟨by rw [List.length_append, (ha x hx).1, (hb y hy).1], fun v hvv => ?_⟩
  rcases List.mem_append.1 hvv with h | h
  · exact (ha x hx).2 v h
  · exact (hb y hy).2 v h
theorem GoodR.perm {nw : Nat} {rs ts : Rs} (h : GoodR nw rs) (hp : ts.Perm rs) : GoodR nw ts := fun vs hv => h vs (hp.mem_iff.1 hv)
theorem GoodR.take {nw : Nat} {rs : Rs} (h : GoodR nw rs) (k : Nat) : GoodR nw (rs.take k) := fun vs hv => h vs (List.mem_of_mem_take hv)
end Go.Proofs.Ytmcjgncpblbhpaa
