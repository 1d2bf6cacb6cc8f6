/- Rows of values that a callee made (towards FnAggs, stage 12; carried from r11z's WdA); slices.Clone. -/
import Derived.Test.YthdilgggjkekaaaAgF
import Derived.Test.YthdilgggjkekaaaBytes
import Derived.Lib.AppendZeros
import Derived.Laws.Cover3
namespace Go.Proofs.Ythdilgggjkekaaa
open Go.RowKit

/-- The cells of some values. -/
def cellsV : List V3 → List Value
  | [] => []
  | v :: vs => .int .i64 v.1 :: .int .i64 v.2.1 :: .string v.2.2 :: cellsV vs
theorem cellsV_len : ∀ l : List V3, (cellsV l).length = l.length * 3
  | [] => rfl
  | v :: vs => by simp only [cellsV, List.length_cons, cellsV_len vs]; omega
theorem cellsV_append : ∀ l r : List V3, cellsV (l ++ r) = cellsV l ++ cellsV r
  | [], _ => rfl
  | v :: vs, r => by simp only [cellsV, List.cons_append, cellsV_append vs r]
theorem cellsV_one : ∀ (l : List V3), ∀ u ∈ cellsV l, u.oneCell' = true
  | [], u, h => by simp [cellsV] at h
  | v :: vs, u, h => by
    simp only [cellsV, List.mem_cons] at h
    rcases h with rfl | rfl | rfl | h
    · rfl
    · rfl
    · rfl
    · exact cellsV_one vs u h
theorem cellsV_get : ∀ (l : List V3) (i : Nat), i < l.length → (cellsV l)[i * 3]? = some (.int .i64 (nthV l i).1) ∧ (cellsV l)[i * 3 + 1]? = some (.int .i64 (nthV l i).2.1) ∧ (cellsV l)[i * 3 + 2]? = some (.string (nthV l i).2.2)
  | [], _, h => by simp at h
  | v :: vs, 0, _ => ⟨rfl, rfl, rfl⟩
  | v :: vs, i + 1, h => by
    have ih := cellsV_get vs i (by simpa using h)
    have e1 : (i + 1) * 3 = i * 3 + 1 + 1 + 1 := by omega
    have e2 : (i + 1) * 3 + 1 = i * 3 + 1 + 1 + 1 + 1 := by omega
    have e3 : (i + 1) * 3 + 2 = i * 3 + 2 + 1 + 1 + 1 := by omega
    rw [e3, e2, e1]
    simp only [cellsV, List.getElem?_cons_succ]
    exact ih
/-- The cells of a row that can be read stand there. -/
theorem rowV_cells {w : World} {b off : Nat} {us : List V3} (h : RowV w (some ⟨b, off, none⟩) us) (j : Nat) (u : Value) (hj : (cellsV us)[j]? = some u) : w.cell? ((⟨b, off, none⟩ : Addr).add j) = some u := by
  have hl : j < us.length * 3 := by
    rw [← cellsV_len us]
    exact (List.getElem?_eq_some_iff.1 hj).1
  obtain ⟨i, r, hr, rfl⟩ : ∃ i r, r < 3 ∧ j = i * 3 + r := ⟨j / 3, j % 3, Nat.mod_lt _ (by omega), by omega⟩
  have hi : i < us.length := by omega
  obtain ⟨b', off', e, _, ⟨c0, c1, c2⟩, _⟩ := h i hi
  cases e
  obtain ⟨g0, g1, g2⟩ := cellsV_get us i hi
  rw [add_plain]
  match r, hr with
  | 0, _ =>
    rw [Nat.add_zero] at hj ⊢
    rw [g0] at hj
    rw [← hj]; exact c0
  | 1, _ =>
    rw [g1] at hj
    rw [← hj, ← Nat.add_assoc]; exact c1
  | 2, _ =>
    rw [g2] at hj
    rw [← hj, ← Nat.add_assoc]; exact c2
/-- A row of values of the call's own. -/
abbrev OwnV (w : World) (B : Nat) (v : Value) (l : List V3) : Prop := w.ownsRow B 27 3 v l.length (cellsV l)
theorem OwnV.nil (w : World) (B : Nat) : OwnV w B (.slice none 0 0) [] := ⟨rfl, .inl ⟨rfl, rfl⟩⟩
theorem OwnV.block {w w' : World} {B : Nat} {v : Value} {l : List V3} (h : OwnV w B v l) (hb : ∀ g, g < w.heap.size → B ≤ g → w'.heap[g]? = w.heap[g]?) : OwnV w' B v l := by
  obtain ⟨h1, h2⟩ := h
  refine ⟨h1, ?_⟩
  rcases h2 with h | ⟨g, cap, cur, e, hg, hh, r⟩
  · exact .inl h
  · exact .inr ⟨g, cap, cur, e, hg, (hb g (lt_blk hh) hg).trans hh, r⟩
theorem OwnV.below {w w' : World} {B : Nat} {v : Value} {l : List V3} (h : OwnV w B v l) (hb : Below w.heap.size w w') : OwnV w' B v l := h.block fun g hg _ => hb.block g hg
/-- It can be read. -/
theorem OwnV.row {w : World} {B : Nat} {v : Value} {l : List V3} (h : OwnV w B v l) (hz : ∀ i, i < l.length → (nthV l i).2.2.size ≤ maxLen) : ∃ a cap, v = .slice a l.length cap ∧ RowV w a l := by
  obtain ⟨_, h2⟩ := h
  rcases h2 with ⟨rfl, h0⟩ | ⟨g, cap, cur, rfl, _, hh, _, _, hs, ht⟩
  · exact ⟨none, 0, by rw [h0], fun i hi => by omega⟩
  · refine ⟨_, cap, rfl, fun i hi => ⟨g, 0, rfl, lt_blk hh, ?_, hz i hi⟩⟩
    have key : ∀ j u, (cellsV l)[j]? = some u → w.cell? ⟨g, j, none⟩ = some u := fun j u hj => by
      rw [cell_of hh]
      rw [← ht, List.getElem?_take] at hj
      split at hj
      · rw [← Array.getElem?_toList]; exact hj
      · cases hj
    obtain ⟨g0, g1, g2⟩ := cellsV_get l i hi
    rw [Nat.zero_add]
    exact ⟨key _ _ g0, key _ _ g1, key _ _ g2⟩
theorem infoV : (Try.prog.info? 27).map (fun i => (i.zero, i.size, i.bytes)) = some (some (.agg #[.int .i64 0, .int .i64 0, .string ⟨#[]⟩]), 3, 32) := by kernel_rfl
set_option maxRecDepth 100000 in
/-- Values appended to a row of the call's own. -/
theorem app_V (v : Value) (l us : List V3) (w : World) (B b off c : Nat) (h : OwnV w B v l) (hl : l.length + us.length ≤ 2097152) (hx : RowV w (some ⟨b, off, none⟩) us) (hB : B ≤ w.heap.size) :
    ∃ v' w', (Builtin.append_ #[25, 25] 25 #[v, .slice (some ⟨b, off, none⟩) us.length c]).run Try.prog w = .ok v' w' ∧ OwnV w' B v' (l ++ us) ∧ w.grownBy w' v.ownBlock := by
  obtain ⟨i0, hi, hz0, hz1, hz2⟩ := info_parts infoV
  obtain ⟨v', w', h1, h2, h3, _⟩ := run_append_own (P := Try.prog) w B 25 25 27 i0 _ 3 32 Try.underlying25 hi hz0 hz1 hz2 rfl (by decide) v l.length (cellsV l) h ⟨b, off, none⟩ us.length c (cellsV us) (cellsV_len us) (fun j u hj => rowV_cells hx j u hj) (cellsV_one us) (by unfold maxLen; omega) (by omega)
    hB
  exact ⟨v', w', h1, by rw [← List.length_append, ← cellsV_append] at h2; exact h2, h3⟩
theorem OwnV.empty {w : World} {B : Nat} (hB : B ≤ w.heap.size) : OwnV (w.alloc (.cells #[] 27)) B (.slice (some ⟨w.heap.size, 0, none⟩) 0 0) [] :=
  ⟨rfl, .inr ⟨w.heap.size, 0, #[], rfl, hB, heap_alloc_new w _, by simp, by simp, by simp, by simp [cellsV]⟩⟩
theorem own_grown {B : Nat} {w u u' : World} {v : Value} {l : List V3} (h : Below B w u) (hB : B ≤ u.heap.size) (ho : OwnV u B v l) (hg : u.grownBy u' v.ownBlock) : Below B w u' :=
  h.grown hg hB fun k e => by
    obtain ⟨_, h2⟩ := ho
    rcases h2 with ⟨rfl, _⟩ | ⟨g, cap, cur, rfl, hg', _⟩
    · simp [Value.ownBlock] at e
    · simp [Value.ownBlock] at e
      omega
set_option maxRecDepth 100000 in
set_option maxHeartbeats 2000000 in
theorem clone_any (vs : List V3) (a : Option Addr) (cap : Nat) (w : World) (hrow : RowV w a vs) (hlen : vs.length ≤ 4096) (h0 : 0 < vs.length) :
    Calls Try.prog 21 #[.slice a vs.length cap] w fun e w' => ∃ v, e = .returned v ∧ OwnV w' w.heap.size v vs ∧ Below w.heap.size w w' := by
  obtain ⟨b, off, rfl, hb, _, _⟩ := hrow 0 h0
  have B0 : Below w.heap.size w (w.alloc (.cells #[] 27)) := (Below.refl _ _).alloc (Nat.le_refl _) _
  have O0 : OwnV (w.alloc (.cells #[] 27)) w.heap.size (.slice (some ⟨w.heap.size, 0, none⟩) 0 0) [] := OwnV.empty (Nat.le_refl _)
  obtain ⟨v', w', hrun, O1, hg⟩ := app_V (.slice (some ⟨w.heap.size, 0, none⟩) 0 0) [] vs (w.alloc (.cells #[] 27)) w.heap.size b off cap O0 (by simp; omega) (hrow.below B0) B0.size
  have HO : Hid (OwnV w' w.heap.size v' vs ∧ Below w.heap.size w w') := ⟨by simpa using O1, own_grown B0 B0.size O0 hg⟩
  clear hrow O0 O1 hg B0
  generalize vs.length = len at *
  have hq : ∀ W, (binOp .eql 25 (.slice (some ⟨b, off, none⟩) len cap) (.slice none 0 0)).run Try.prog W = .ok (.bool false) W := fun W => by
    simp only [binOp]
    simp [run_equal_slice_nil W 25 27 _ len cap Try.underlying25]
  go_enter Try.func21, Try.ntmps21
  go_wp2_with (at_builtin; refine Lib.wpList_append_run _ rfl _ _ _ _ rfl _ _ rfl rfl _ _ hrun ?_)
  go_ret
  exact ⟨_, rfl, HO.out.1, HO.out.2⟩
end Go.Proofs.Ythdilgggjkekaaa
