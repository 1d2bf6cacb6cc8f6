/- What the law FnAggs keeps: lists of ints and null that grow at either end; the first values of drawn rows (stage 12). -/
import Derived.Test.YthdilgggjkekaaaAhG
import Derived.Test.YthdilgggjkekaaaByA
import Derived.Test.YthdilgggjkekaaaFsA
namespace Go.Proofs.Ythdilgggjkekaaa
open Go.RowKit

/-- A list of the law's own. -/
def Lst (w : World) (B : Nat) (v : Value) (os : List (Option Int)) : Prop :=
  OwnV w B v (os.map ov) ∧ ∃ b cap, v = .slice (some ⟨b, 0, none⟩) os.length cap ∧ os.length ≤ cap
theorem Lst.below {w w' : World} {B : Nat} {v : Value} {os : List (Option Int)} (h : Lst w B v os) (hb : Below w.heap.size w w') : Lst w' B v os := ⟨h.1.below hb, h.2⟩
theorem ov_small (os : List (Option Int)) (i : Nat) (hi : i < (os.map ov).length) : (nthV (os.map ov) i).2.2.size ≤ maxLen := by
  have hi' : i < os.length := by simpa using hi
  rw [ovs_at os i hi']
  cases os[i] <;> (show (noT : ByteArray).size ≤ maxLen; decide)
theorem Lst.row {w : World} {B : Nat} {v : Value} {os : List (Option Int)} (h : Lst w B v os) : ∃ b cap, v = .slice (some ⟨b, 0, none⟩) os.length cap ∧ os.length ≤ cap ∧ RowV w (some ⟨b, 0, none⟩) (os.map ov) := by
  obtain ⟨ho, b, cap, rfl, hc⟩ := h
  obtain ⟨a, cap', e, hr⟩ := ho.row (ov_small os)
  rw [List.length_map] at e
  cases e
  exact ⟨b, _, rfl, hc, hr⟩
theorem Lst.empty {w : World} {B : Nat} (hB : B ≤ w.heap.size) : Lst (w.alloc (.cells #[] 27)) B (.slice (some ⟨w.heap.size, 0, none⟩) 0 0) [] :=
  ⟨OwnV.empty hB, w.heap.size, 0, rfl, Nat.le_refl _⟩
theorem one_V (w : World) (o : Option Int) : OwnV (w.alloc (.cells #[.int .i64 (ov o).1, .int .i64 (ov o).2.1, .string (ov o).2.2] 27)) w.heap.size (.slice (some ⟨w.heap.size, 0, none⟩) 1 1) [ov o] :=
  ⟨rfl, .inr ⟨w.heap.size, 1, _, rfl, Nat.le_refl _, heap_alloc_new w _, Nat.le_refl _, by unfold maxLen; omega, rfl, rfl⟩⟩
theorem one_R (w : World) (o : Option Int) : RowV (w.alloc (.cells #[.int .i64 (ov o).1, .int .i64 (ov o).2.1, .string (ov o).2.2] 27)) (some ⟨w.heap.size, 0, none⟩) [ov o] := by
  obtain ⟨a, c, e, hr⟩ := (one_V w o).row (fun i hi => ov_small [o] i (by simpa using hi))
  cases e
  exact hr
theorem OwnV.le {w : World} {B B' : Nat} {v : Value} {l : List V3} (h : OwnV w B v l) (hB : B' ≤ B) : OwnV w B' v l := by
  obtain ⟨h1, h2 | ⟨g, cap, cur, e, hg, r⟩⟩ := h
  · exact ⟨h1, .inl h2⟩
  · exact ⟨h1, .inr ⟨g, cap, cur, e, Nat.le_trans hB hg, r⟩⟩
theorem Lst.of {w : World} {B : Nat} {v : Value} {os : List (Option Int)} (h : OwnV w B v (os.map ov)) (h0 : 0 < os.length) : Lst w B v os := by
  obtain ⟨g, cap, e, _, hb⟩ := h.blk (by simpa using h0)
  rw [List.length_map] at e
  obtain ⟨_, _, _, hc, _⟩ := hb
  exact ⟨h, g, cap, e, by simpa using hc⟩

/-- 'append(list, v)'. -/
theorem Lst.snoc {u w : World} {B : Nat} {v : Value} {os : List (Option Int)} (h : Lst w B v os) (o : Option Int) (hl : os.length ≤ 100) (hB : B ≤ w.heap.size) (hb : Below B u w) :
    ∃ v' w', (Builtin.append_ #[25, 25] 25 #[v, .slice (some ⟨w.heap.size, 0, none⟩) 1 1]).run Try.prog (w.alloc (.cells #[.int .i64 (ov o).1, .int .i64 (ov o).2.1, .string (ov o).2.2] 27)) = .ok v' w' ∧ Lst w' B v' (os ++ [o]) ∧ Below B u w' ∧
      ∀ (g : Nat) (X : Obj), w.heap[g]? = some X → v.ownBlock ≠ some g → w'.heap[g]? = some X := by
  have h1 := h.below ((Below.refl w.heap.size w).alloc (Nat.le_refl _) (.cells #[.int .i64 (ov o).1, .int .i64 (ov o).2.1, .string (ov o).2.2] 27))
  obtain ⟨v', w', hr, ho, hg⟩ := app_V v (os.map ov) [ov o] _ B w.heap.size 0 1 h1.1 (by simp; omega) (one_R w o) (by simp; omega)
  have hL : Lst w' B v' (os ++ [o]) := Lst.of (by rw [List.map_append]; exact ho) (by simp)
  refine ⟨v', w', hr, hL, own_grown (hb.alloc hB _) (by simp; omega) h1.1 hg, fun g X hX hne => ?_⟩
  have hlt := slab_lt hX
  exact (hg.block g (by simp; omega) hne.symm).trans ((Below.heap_alloc _ _ _ hlt).trans hX)
/-- 'append([v], list...)'. -/
theorem Lst.cons {u w : World} {B : Nat} {v : Value} {os : List (Option Int)} (h : Lst w B v os) (o : Option Int) (hl : os.length ≤ 100) (hB : B ≤ w.heap.size) (hb : Below B u w) :
    ∃ v' w', (Builtin.append_ #[25, 25] 25 #[.slice (some ⟨w.heap.size, 0, none⟩) 1 1, v]).run Try.prog (w.alloc (.cells #[.int .i64 (ov o).1, .int .i64 (ov o).2.1, .string (ov o).2.2] 27)) = .ok v' w' ∧ Lst w' B v' (o :: os) ∧ Below B u w' ∧
      (∀ (g : Nat) (X : Obj), w.heap[g]? = some X → w'.heap[g]? = some X) ∧ ∀ g, v'.ownBlock = some g → w.heap.size ≤ g := by
  obtain ⟨b, cap, rfl, _, hr0⟩ := (h.below ((Below.refl w.heap.size w).alloc (Nat.le_refl _) (.cells #[.int .i64 (ov o).1, .int .i64 (ov o).2.1, .string (ov o).2.2] 27))).row
  obtain ⟨v', w', hr, ho, hg⟩ := app_V (.slice (some ⟨w.heap.size, 0, none⟩) 1 1) [ov o] (os.map ov) _ w.heap.size b 0 cap (one_V w o) (by simp; omega) hr0 (by simp)
  rw [List.length_map] at hr
  have hL : Lst w' B v' (o :: os) := Lst.of (ho.le hB) (by simp)
  refine ⟨v', w', hr, hL, (own_grown ((Below.refl w.heap.size w).alloc (Nat.le_refl _) _) (by simp) (one_V w o) hg).mono hB |> hb.trans, fun g X hX => ?_, fun g hg' => ?_⟩
  rotate_left
  · obtain ⟨_, ⟨rfl, _⟩ | ⟨g', cap', cur', rfl, hge, _⟩⟩ := ho
    · cases hg'
    · cases hg'
      exact hge
  have hlt := slab_lt hX
  have hne : (Value.slice (some ⟨w.heap.size, 0, none⟩) 1 1).ownBlock ≠ some g := by
    intro e
    simp [Value.ownBlock] at e
    omega
  exact (hg.block g (by simp; omega) hne.symm).trans ((Below.heap_alloc _ _ _ hlt).trans hX)

/-- A list whose own block stands. -/
theorem Lst.keep {w w' : World} {B : Nat} {v : Value} {os : List (Option Int)} (h : Lst w B v os) (hk : ∀ (g : Nat) (X : Obj), v.ownBlock = some g → w.heap[g]? = some X → w'.heap[g]? = some X) : Lst w' B v os := by
  obtain ⟨⟨h1, h2⟩, h3⟩ := h
  refine ⟨⟨h1, ?_⟩, h3⟩
  rcases h2 with h2 | ⟨g, cap, cur, rfl, hg, hh, r⟩
  · exact .inl h2
  · exact .inr ⟨g, cap, cur, rfl, hg, hk g _ rfl hh, r⟩
theorem Lst.lt {w : World} {B : Nat} {v : Value} {os : List (Option Int)} (h : Lst w B v os) : ∀ g, v.ownBlock = some g → B ≤ g ∧ g < w.heap.size := by
  intro g hg'
  obtain ⟨⟨_, ⟨rfl, _⟩ | ⟨g', cap', cur', rfl, hge, hh, _⟩⟩, _⟩ := h
  · cases hg'
  · cases hg'
    exact ⟨hge, slab_lt hh⟩
/-- What the law makes of a drawn value. -/
def toO (v : Int × Int × ByteArray) : Option Int := if v.1 = 2 ∧ -1000000 ≤ v.2.1 ∧ v.2.1 ≤ 1000000 then some v.2.1 else none
theorem toO_bd (v : Int × Int × ByteArray) : ∀ x ∈ vals [toO v], -1000000 ≤ x ∧ x ≤ 1000000 := by
  intro x hx
  unfold toO at hx
  split at hx
  · simp [vals] at hx
    subst hx
    omega
  · simp [vals] at hx
theorem ok_null {n : Int} {t : ByteArray} (h : R.okV 0 n t = true) : n = 0 ∧ t = noT := by
  unfold R.okV at h
  simp at h
  refine ⟨h.1, ?_⟩
  apply ByteArray.ext
  have := h.2
  rw [ByteArray.toList_eq] at this
  simpa using this
theorem ok_int {n : Int} {t : ByteArray} (h : R.okV 2 n t = true) : t = noT := by
  unfold R.okV at h
  simp at h
  apply ByteArray.ext
  rw [ByteArray.toList_eq] at h
  simpa using h
/-- The first value of a drawn row. -/
theorem rows_read {w : World} {B : Nat} {v : Value} {rs : R.Rs} {nw : Nat} (h : R.BldR w B w.heap.size v rs) (hg : R.GoodR nw rs) (h3 : nw ≤ 3) (hl : rs.length ≤ 7) : ∃ a cap, v = .slice a rs.length cap ∧ R.RowR w a rs := by
  obtain ⟨a, cap, e, ho⟩ := h.own
  have hm : ∀ i, i < rs.length → (R.nthR rs i).length = nw ∧ R.GoodV (R.nthR rs i) := fun i hi => by
    rw [R.nthR_get hi]
    exact hg _ (List.getElem_mem hi)
  refine ⟨a, cap, e, ho.row (fun i hi j hj => ?_) ⟨by omega, fun i hi => by rw [(hm i hi).1]; omega⟩⟩
  have := (hm i hi).2 (R.nthV (R.nthR rs i) j) (by unfold R.nthV; rw [List.getD_eq_getElem?_getD, List.getElem?_eq_getElem hj]; exact List.getElem_mem hj)
  unfold maxLen
  omega
theorem rows_first {w : World} {a : Option Addr} {rs : R.Rs} {nw : Nat} (h : R.RowR w a rs) (hg : R.GoodR nw rs) (h1 : 1 ≤ nw) (i : Nat) (hi : i < rs.length) :
    ∃ b off g o c k n t, a = some ⟨b, off, none⟩ ∧ w.cell? ⟨b, off + i, none⟩ = some (.slice (some ⟨g, o, none⟩) nw c) ∧ w.cell? ⟨g, o, none⟩ = some (.int .i64 k) ∧ w.cell? ⟨g, o + 1, none⟩ = some (.int .i64 n) ∧ w.cell? ⟨g, o + 2, none⟩ = some (.string t) ∧ R.okV k n t = true := by
  obtain ⟨b, off, ai, ci, rfl, _, hc, hr, _⟩ := h i hi
  have hm : (R.nthR rs i).length = nw ∧ R.GoodV (R.nthR rs i) := by
    rw [R.nthR_get hi]
    exact hg _ (List.getElem_mem hi)
  obtain ⟨g, o, rfl, _, ⟨c0, c1, c2⟩, _⟩ := hr 0 (by omega)
  have hv := hm.2 (R.nthV (R.nthR rs i) 0) (by unfold R.nthV; rw [List.getD_eq_getElem?_getD, List.getElem?_eq_getElem (by omega)]; exact List.getElem_mem _)
  simp only [Nat.zero_mul, Nat.add_zero] at c0 c1 c2
  rw [hm.1] at hc
  exact ⟨b, off, g, o, ci, _, _, _, rfl, hc, c0, c1, c2, hv.1⟩
end Go.Proofs.Ythdilgggjkekaaa
