/- Products of rows: what the specification answers (stage 13). -/
import Derived.Test.YthdilgggjkekaaaPrC
namespace Go.Proofs.Ythdilgggjkekaaa.R
open Go.RowKit

/-- A row of at most so many right values. -/
def rowB (wd : Nat) (vs : List V3) : Bool := decide (vs.length ≤ wd) && vs.all okV3
/-- Rows that are right. -/
def okRs (wd : Nat) (rs : Rs) : Bool := rs.all (rowB wd) && decide (rs.length ≤ 400)
theorem okRs_bad {wd : Nat} {rs : Rs} {k : Nat} (hk : k < rs.length) (h : rowB wd (nthR rs k) = false) : okRs wd rs = false := by
  unfold okRs
  have : rs.all (rowB wd) = false := by
    rw [List.all_eq_false]
    exact ⟨rs[k], List.getElem_mem hk, by rw [← nthR_get hk]; simp [h]⟩
  rw [this]; rfl
theorem okRs_good {wd : Nat} {rs : Rs} (h : ∀ j, j < rs.length → rowB wd (nthR rs j) = true) : okRs wd rs = decide (rs.length ≤ 400) := by
  unfold okRs
  have : rs.all (rowB wd) = true := by
    rw [List.all_eq_true]
    intro x hx
    obtain ⟨i, hi, rfl⟩ := List.getElem_of_mem hx
    rw [← nthR_get hi]; exact h i hi
  rw [this]; simp
theorem okRs_small {wd : Nat} {rs : Rs} (h : okRs wd rs = true) : rs.length ≤ 400 ∧ ∀ i, i < rs.length → (nthR rs i).length ≤ wd := by
  unfold okRs at h
  simp only [Bool.and_eq_true, decide_eq_true_eq, List.all_eq_true] at h
  refine ⟨h.2, fun i hi => ?_⟩
  have := h.1 rs[i] (List.getElem_mem hi)
  rw [← nthR_get hi] at this
  unfold rowB at this
  simp only [Bool.and_eq_true, decide_eq_true_eq] at this
  exact this.1
theorem rowB_long {wd : Nat} {vs : List V3} (h : wd < vs.length) : rowB wd vs = false := by
  unfold rowB
  have : decide (vs.length ≤ wd) = false := by simp; omega
  rw [this]; rfl
theorem rowB_bad {wd : Nat} {vs : List V3} {k : Nat} (hk : k < vs.length) (h : okV3 (nthV vs k) = false) : rowB wd vs = false := by
  unfold rowB
  have : vs.all okV3 = false := by
    rw [List.all_eq_false]
    refine ⟨vs[k], List.getElem_mem hk, ?_⟩
    unfold nthV at h
    rw [List.getD_eq_getElem?_getD, List.getElem?_eq_getElem hk] at h
    simpa using h
  rw [this]; simp
theorem rowB_good {wd : Nat} {vs : List V3} (h8 : vs.length ≤ wd) (h : ∀ j, j < vs.length → okV3 (nthV vs j) = true) : rowB wd vs = true := by
  unfold rowB
  simp only [Bool.and_eq_true, decide_eq_true_eq, List.all_eq_true]
  refine ⟨h8, fun x hx => ?_⟩
  obtain ⟨i, hi, rfl⟩ := List.getElem_of_mem hx
  have := h i hi
  unfold nthV at this
  rwa [List.getD_eq_getElem?_getD, List.getElem?_eq_getElem hi] at this

/-- Rows each of which has an address can be read. -/
def RowA (w : World) (a : Option Addr) (rs : Rs) : Prop :=
  ∀ i, i < rs.length → ∃ b off bi oi ci, a = some ⟨b, off, none⟩ ∧ b < w.heap.size ∧ w.cell? ⟨b, off + i, none⟩ = some (.slice (some ⟨bi, oi, none⟩) (nthR rs i).length ci) ∧ RowV w (some ⟨bi, oi, none⟩) (nthR rs i) ∧ (nthR rs i).length ≤ maxLen
theorem RowA.below {w w' : World} {a : Option Addr} {rs : Rs} (h : RowA w a rs) (hb : Below w.heap.size w w') : RowA w' a rs := fun i hi => by
  obtain ⟨b, off, bi, oi, ci, e, hlt, hc, hr, hs⟩ := h i hi
  exact ⟨b, off, bi, oi, ci, e, Nat.lt_of_lt_of_le hlt hb.size, (hb.cell (p := ⟨b, off + i, none⟩) hlt).trans hc, hr.below hb, hs⟩
theorem RowA.row {w : World} {a : Option Addr} {rs : Rs} (h : RowA w a rs) : RowR w a rs := fun i hi => by
  obtain ⟨b, off, bi, oi, ci, e, hlt, hc, hr, hs⟩ := h i hi
  exact ⟨b, off, _, ci, e, hlt, hc, hr, hs⟩
theorem SlabR.rowA {w : World} {g : Nat} {rs : Rs} (h : SlabR w g rs.length rs rs.length) (ht : TextR rs) (hs : SmallR rs) : RowA w (some ⟨g, 0, none⟩) rs := fun i hi => by
  have hl := h.lt
  obtain ⟨cur, gs, hh, hn, hc, _⟩ := h
  obtain ⟨e1, e2, e3⟩ := hc i hi
  exact ⟨g, 0, gs i, 0, _, rfl, hl, by rw [slab_cell hh, Nat.zero_add]; exact e1, e3.row (ht i hi), small_max (hs.2 i hi)⟩

/-- Each of one list before each of the other. -/
def prodL (aa bb : Rs) : Rs := aa.flatMap fun x => bb.map fun y => x ++ y
/-- What has come of it: all of the first i, and k of the next. -/
def prodK (aa bb : Rs) (i k : Nat) : Rs := prodL (aa.take i) bb ++ (bb.take k).map fun y => nthR aa i ++ y
theorem prodK_zero (aa bb : Rs) : prodK aa bb 0 0 = [] := by simp [prodK, prodL]
theorem prodK_step {aa bb : Rs} {i k : Nat} (h : k < bb.length) : prodK aa bb i (k + 1) = prodK aa bb i k ++ [nthR aa i ++ nthR bb k] := by
  unfold prodK
  rw [List.take_add_one, List.getElem?_eq_getElem h, List.map_append, ← List.append_assoc, nthR_get h]
  simp
theorem prodK_next {aa bb : Rs} {i : Nat} (h : i < aa.length) : prodK aa bb i bb.length = prodK aa bb (i + 1) 0 := by
  have e : aa.take (i + 1) = aa.take i ++ [aa[i]] := by rw [List.take_add_one, List.getElem?_eq_getElem h]; rfl
  unfold prodK prodL
  rw [e, nthR_get h, List.flatMap_append, List.take_length]
  simp
theorem prodK_all (aa bb : Rs) : prodK aa bb aa.length 0 = prodL aa bb := by simp [prodK]
theorem prodL_len : ∀ aa bb : Rs, (prodL aa bb).length = aa.length * bb.length
  | [], bb => by simp [prodL]
  | x :: aa, bb => by
    have := prodL_len aa bb
    unfold prodL at this ⊢
    rw [List.flatMap_cons, List.length_append, this, List.length_map, List.length_cons, Nat.add_mul]
    omega
theorem prodK_len {aa bb : Rs} {i k : Nat} (hi : i ≤ aa.length) (hk : k ≤ bb.length) : (prodK aa bb i k).length = i * bb.length + k := by
  unfold prodK
  rw [List.length_append, prodL_len, List.length_map, List.length_take, List.length_take, Nat.min_eq_left hi, Nat.min_eq_left hk]
theorem step_append_run {ops : Array Oper} {o : Oper} {a : Act} {w : World} {K : Act → World → Prop} {Q : Exit → Act → World → Prop} {E : Prop} (hgd : o.guard = none) (s x : Operand) (t tn : TypeId)
    (ho : o.op = .call { callee := .builtin .append, args := #[s, x], argTypes := #[t, tn] }) (vs vx : Value) (hs : a.eval s = vs) (hx : a.eval x = vx)
    (v' : Value) (w' : World) (hr : (Builtin.append_ #[t, tn] o.type #[vs, vx]).run Try.prog w = .ok v' w') (h : K (a.put o.dst v') w') :
    if Region.wanted o (yielded ops a.tmps) = true then Oper.wp Try.prog o a w K Q else E := by
  have hw : Region.wanted o (yielded ops a.tmps) = true := by simp [Region.wanted, hgd]
  rw [if_pos hw]
  exact Lib.wp_append_run w s x t tn ho vs vx hs hx v' w' hr h
/-- What a step of both products wants: two rows of right length, and what has been made. -/
theorem push_step {w W w1 : World} {aa bb : Rs} {i k : Nat} {v u : Value} {t : TypeId} (hO : BldR W w.heap.size W.heap.size v (prodK aa bb i k)) (hB : Below w.heap.size w W) (hk : k < bb.length) (hl : (prodK aa bb i k).length < 4096) (hb : Below W.heap.size W w1) (hu : OwnV w1 W.heap.size u (nthR aa i ++ nthR bb k)) :
    ∃ v' w', (Builtin.append_ #[23, 23] 23 #[v, .slice (some ⟨w1.heap.size, 0, none⟩) 1 1]).run Try.prog (w1.alloc (.cells #[u] t)) = .ok v' w' ∧ BldR w' w.heap.size w'.heap.size v' (prodK aa bb i (k + 1)) ∧ Below w.heap.size w w' := by
  have b2 : Below w1.heap.size w1 (w1.alloc (.cells #[u] t)) := (Below.refl _ _).alloc (Nat.le_refl _) _
  have hB1 : Below w.heap.size w (w1.alloc (.cells #[u] t)) := below_step (below_step hB (Nat.le_refl _) hb) (Nat.le_refl _) b2
  have hO2 := (hO.below hb).below b2
  obtain ⟨v', w', hr, h1, h2⟩ := app_R (c := 1) hO2 hB1.size hl (World.cell?_alloc_at _ _ _ _ rfl) (OwnV.below hu b2) (Nat.le_refl _) hB.size
  exact ⟨v', w', hr, by rw [prodK_step hk]; exact h1, BldR.grown hB1 hB1.size hO2 h2⟩
end Go.Proofs.Ythdilgggjkekaaa.R
