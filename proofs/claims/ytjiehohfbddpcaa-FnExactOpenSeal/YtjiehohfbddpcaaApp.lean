/- Bytes that a call owns, and what is appended to them: bytes, a text, noughts. -/
import Derived.Test.YtjiehohfbddpcaaSumD
import Derived.Lib.AppendStr
import Derived.Lib.AppendZerosOnto
import Derived.Lib.ConvBytes
import Derived.Laws.IdiomCopy
namespace Go.Proofs.Ytjiehohfbddpcaa
open Go.RowKit

def cellsU (l : List UInt8) : List Value := l.map fun b => .int .u8 (b.toNat : Int)
theorem cellsU_len (l : List UInt8) : (cellsU l).length = l.length := List.length_map _
theorem cellsU_at (l : List UInt8) (i : Nat) (h : i < l.length) : (cellsU l)[i]? = some (.int .u8 (byU l i)) := by
  unfold cellsU byU
  rw [List.getElem?_map, List.getElem?_eq_getElem h, List.getD_eq_getElem?_getD, List.getElem?_eq_getElem h]; rfl
theorem cellsU_one (l : List UInt8) : ∀ u ∈ cellsU l, u.oneCell' = true := fun u hu => by
  obtain ⟨b, _, rfl⟩ := List.mem_map.1 hu; rfl
theorem byU_app1 (l m : List UInt8) (i : Nat) (h : i < l.length) : byU (l ++ m) i = byU l i := by
  unfold byU; rw [List.getD_eq_getElem?_getD, List.getElem?_append_left h, ← List.getD_eq_getElem?_getD]
theorem byU_app2 (l m : List UInt8) (j : Nat) : byU (l ++ m) (l.length + j) = byU m j := by
  unfold byU; rw [List.getD_eq_getElem?_getD, List.getElem?_append_right (Nat.le_add_right _ _), Nat.add_sub_cancel_left, ← List.getD_eq_getElem?_getD]

/-- The slice v owns the bytes l: a block from B on, from its head on; what is frozen of it lies behind its end. -/
def OwnL (w : World) (B : Nat) (v : Value) (l : List UInt8) : Prop :=
  ∃ g cap cur fz, v = .slice (some ⟨g, 0, none⟩) l.length cap ∧ B ≤ g ∧ w.heap[g]? = some (.cells cur 5 fz) ∧ (fz.2 = 0 ∨ cap ≤ fz.1) ∧ l.length ≤ cap ∧ cap ≤ maxLen ∧ cur.size = cap ∧ ∀ i, i < l.length → cur[i]? = some (.int .u8 (byU l i))

theorem row_cell {w : World} {g o : Nat} {fz : Nat × Nat} {cur : Array Value} {e : TypeId} (h : w.heap[g]? = some (.cells cur e fz)) : w.cell? ⟨g, o, none⟩ = cur[o]? := by
  simp [World.cell?, h]
theorem row_free {w : World} {g o : Nat} {fz : Nat × Nat} {cur : Array Value} {e : TypeId} (h : w.heap[g]? = some (.cells cur e fz)) (hf : fz.2 = 0 ∨ o < fz.1) : w.frozen? ⟨g, o, none⟩ = false := by
  simp [World.frozen?, h]; omega
theorem row_set {w : World} {g o : Nat} {fz : Nat × Nat} {cur : Array Value} {e : TypeId} (h : w.heap[g]? = some (.cells cur e fz)) (v : Value) : (w.setCell ⟨g, o, none⟩ v).heap[g]? = some (.cells (cur.setIfInBounds o v) e fz) := by
  simp [World.setCell, Array.getElem?_modify, h]

theorem OwnL.read {w : World} {B : Nat} {v : Value} {l : List UInt8} (h : OwnL w B v l) : ∃ g cap, v = .slice (some ⟨g, 0, none⟩) l.length cap ∧ B ≤ g ∧ ReadL w (some ⟨g, 0, none⟩) l := by
  obtain ⟨g, cap, cur, fz, rfl, hB, hh, _, _, _, _, hc⟩ := h
  exact ⟨g, cap, rfl, hB, fun i hi => ⟨g, 0, rfl, slab_lt hh, by rw [row_cell hh, Nat.zero_add]; exact hc i hi⟩⟩
theorem OwnL.below {w w' : World} {B : Nat} {v : Value} {l : List UInt8} (h : OwnL w B v l) (hb : Below w.heap.size w w') : OwnL w' B v l := by
  obtain ⟨g, cap, cur, fz, rfl, hB, hh, r⟩ := h
  exact ⟨g, cap, cur, fz, rfl, hB, (hb.block g (slab_lt hh)).trans hh, r⟩
theorem OwnL.alloc {w : World} {B : Nat} {v : Value} {l : List UInt8} (h : OwnL w B v l) (o : Obj) : OwnL (w.alloc o) B v l :=
  h.below ((Below.refl _ _).alloc (Nat.le_refl _) _)
theorem OwnL.grown {w w' : World} {B C : Nat} {u : World} {v : Value} {l : List UInt8} (h : OwnL w B v l) (hg : w.grownBy w' v.ownBlock) (hb : Below C u w) (hC : C ≤ B) (hC2 : C ≤ w.heap.size) : Below C u w' :=
  hb.grown hg hC2 (fun k hk => by
    obtain ⟨g, cap, cur, fz, rfl, hB, _⟩ := h
    cases hk
    show C ≤ g
    omega)
/-- A slice that was just made of some bytes. -/
theorem OwnL.made (w : World) (B : Nat) (l : List UInt8) (cs : Array Value) (hB : B ≤ w.heap.size) (hcs : cs.toList = cellsU l) (hl : l.length ≤ maxLen) : OwnL (w.alloc (.cells cs 5)) B (.slice (some ⟨w.heap.size, 0, none⟩) l.length l.length) l := by
  have hs : cs.size = l.length := by rw [← Array.length_toList, hcs, cellsU_len]
  refine ⟨w.heap.size, l.length, cs, (0, 0), rfl, hB, heap_new' _ _ _ rfl, .inl rfl, Nat.le_refl _, hl, hs, fun i hi => ?_⟩
  rw [← Array.getElem?_toList, hcs]
  exact cellsU_at l i hi

theorem grown_setCells (g : Nat) : ∀ (vs : List Value) (o : Nat) (w : World), w.grownBy (w.setCells g o vs) (some g)
  | [], _, _ => ⟨rfl, rfl, rfl, Nat.le_refl _, fun _ _ _ => rfl⟩
  | v :: r, o, w => by
    have h := grown_setCells g r (o + 1) (w.setCell ⟨g, o, none⟩ v)
    refine ⟨h.os, h.tape, h.output, ?_, fun k hk hne => ?_⟩
    · have h2 : (w.setCell ⟨g, o, none⟩ v).heap.size = w.heap.size := by simp [World.setCell]
      have := h.size
      rw [h2] at this
      exact this
    · exact (h.block k (by simpa [World.setCell] using hk) hne).trans (Below.heap_setCell _ _ _ _ (fun e => hne (by rw [e])))
theorem heap_setCells (g : Nat) (fz : Nat × Nat) : ∀ (vs : List Value) (o : Nat) (w : World) (cur : Array Value), w.heap[g]? = some (.cells cur 5 fz) → o + vs.length ≤ cur.size →
    ∃ cur', (w.setCells g o vs).heap[g]? = some (.cells cur' 5 fz) ∧ cur'.size = cur.size ∧ (∀ i, i < o → cur'[i]? = cur[i]?) ∧ ∀ j, j < vs.length → cur'[o + j]? = vs[j]?
  | [], o, w, cur, hh, _ => ⟨cur, hh, rfl, fun _ _ => rfl, fun j hj => absurd hj (Nat.not_lt_zero _)⟩
  | v :: r, o, w, cur, hh, hf => by
    simp only [List.length_cons] at hf
    obtain ⟨cur', h1, h2, h3, h4⟩ := heap_setCells g fz r (o + 1) (w.setCell ⟨g, o, none⟩ v) _ (row_set hh v) (by simp; omega)
    refine ⟨cur', h1, by simpa using h2, fun i hi => ?_, fun j hj => ?_⟩
    · rw [h3 i (by omega), Array.getElem?_setIfInBounds_ne (by omega)]
    · cases j with
      | zero => rw [Nat.add_zero, h3 o (by omega), Array.getElem?_setIfInBounds_self_of_lt (by omega)]; rfl
      | succ j =>
        have := h4 j (by simpa using hj)
        rw [show o + (j + 1) = o + 1 + j by omega, this]
        rfl

/-- The bytes m are written behind the bytes l, where there is room. -/
theorem room_put {w : World} {B g cap : Nat} {cur : Array Value} {fz : Nat × Nat} (l m : List UInt8) (hB : B ≤ g) (hh : w.heap[g]? = some (.cells cur 5 fz)) (hz : fz.2 = 0 ∨ cap ≤ fz.1) (hm : cap ≤ maxLen) (hs : cur.size = cap)
    (hc : ∀ i, i < l.length → cur[i]? = some (.int .u8 (byU l i))) (hroom : l.length + m.length ≤ cap) :
    (storeCells ⟨g, l.length, none⟩ (cellsU m)).run Try.prog w = .ok () (w.setCells g l.length (cellsU m)) ∧
      OwnL (w.setCells g l.length (cellsU m)) B (.slice (some ⟨g, 0, none⟩) (l.length + m.length) cap) (l ++ m) := by
  have hl : l.length + (cellsU m).length ≤ cur.size := by rw [cellsU_len, hs]; exact hroom
  refine ⟨?_, ?_⟩
  · have := run_storeCells_cells (P := Try.prog) g l.length (cellsU m) 0 w (fun j hj => ?_) (fun j hj => ?_) (cellsU_one m)
    · simpa using this
    · rw [row_cell hh, Array.getElem?_eq_getElem (by omega)]; rfl
    · exact row_free hh (by omega)
  · obtain ⟨cur', h1, h2, h3, h4⟩ := heap_setCells g fz (cellsU m) l.length w cur hh hl
    refine ⟨g, cap, cur', fz, by rw [List.length_append], hB, h1, hz, by rw [List.length_append]; exact hroom, hm, h2.trans hs, fun i hi => ?_⟩
    rw [List.length_append] at hi
    by_cases e : i < l.length
    · rw [h3 i e, hc i e, byU_app1 l m i e]
    · obtain ⟨j, rfl⟩ : ∃ j, i = l.length + j := ⟨i - l.length, by omega⟩
      rw [h4 j (by rw [cellsU_len]; omega), cellsU_at m j (by omega), byU_app2]
/-- A new block with the bytes l, then m. -/
theorem grow_put {w : World} {B c : Nat} (l m : List UInt8) (rest : Array Value) (hB : B ≤ w.heap.size) (hm : c ≤ maxLen) (hlc : l.length + m.length ≤ c) (hr : rest.size = c - (l.length + m.length)) :
    OwnL (w.alloc (.cells ((cellsU l).toArray ++ (cellsU m).toArray ++ rest) 5)) B (.slice (some ⟨w.heap.size, 0, none⟩) (l.length + m.length) c) (l ++ m) := by
  refine ⟨w.heap.size, c, _, (0, 0), by rw [List.length_append], hB, heap_new' _ _ _ rfl, .inl rfl, by rw [List.length_append]; exact hlc, hm, ?_, fun i hi => ?_⟩
  · simp only [Array.size_append, List.size_toArray, cellsU_len]; omega
  · rw [List.length_append] at hi
    rw [Array.getElem?_append_left (by simp only [Array.size_append, List.size_toArray, cellsU_len]; omega)]
    by_cases e : i < l.length
    · rw [Array.getElem?_append_left (by simp only [List.size_toArray, cellsU_len]; exact e), List.getElem?_toArray, cellsU_at l i e, byU_app1 l m i e]
    · obtain ⟨j, rfl⟩ : ∃ j, i = l.length + j := ⟨i - l.length, by omega⟩
      rw [Array.getElem?_append_right (by simp only [List.size_toArray, cellsU_len]; omega), List.size_toArray, cellsU_len, Nat.add_sub_cancel_left, List.getElem?_toArray, cellsU_at m j (by omega), byU_app2]
theorem ReadL.news {w : World} {b off : Nat} {m : List UInt8} (h : ReadL w (some ⟨b, off, none⟩) m) : ∀ j u, (cellsU m)[j]? = some u → w.cell? ((⟨b, off, none⟩ : Addr).add j) = some u := fun j u hj => by
  have hlt : j < m.length := by
    rcases Nat.lt_or_ge j m.length with h | h
    · exact h
    · rw [List.getElem?_eq_none (by rw [cellsU_len]; exact h)] at hj; cases hj
  obtain ⟨b', off', e, _, hc⟩ := h j hlt
  cases e
  rw [add_plain, hc, ← hj, cellsU_at m j hlt]
theorem own_news {w : World} {g : Nat} {fz : Nat × Nat} {cur : Array Value} {l : List UInt8} (hh : w.heap[g]? = some (.cells cur 5 fz)) (hc : ∀ i, i < l.length → cur[i]? = some (.int .u8 (byU l i))) : ∀ j u, (cellsU l)[j]? = some u → w.cell? ((⟨g, 0, none⟩ : Addr).add j) = some u :=
  ReadL.news (fun i hi => ⟨g, 0, rfl, slab_lt hh, by rw [row_cell hh, Nat.zero_add]; exact hc i hi⟩)

/-- 'append(v, x...)': bytes behind bytes. -/
theorem run_app_bytes {w : World} {B : Nat} {v : Value} {l : List UInt8} (ty : TypeId) (b off c : Nat) (m : List UInt8) (h : OwnL w B v l) (hx : ReadL w (some ⟨b, off, none⟩) m) (hn : l.length + m.length ≤ 1000000) (hB : B ≤ w.heap.size) :
    ∃ v' w', (Builtin.append_ #[22, 22] ty #[v, .slice (some ⟨b, off, none⟩) m.length c]).run Try.prog w = .ok v' w' ∧ OwnL w' B v' (l ++ m) ∧ w.grownBy w' v.ownBlock := by
  obtain ⟨i0, hi, hz0, hz1, hz2⟩ := info_parts info5
  obtain ⟨g, cap, cur, fz, rfl, hBg, hh, hz, hlc, hcm, hs, hc⟩ := h
  by_cases hroom : l.length + m.length ≤ cap
  · obtain ⟨hst, ho⟩ := room_put l m hBg hh hz hcm hs hc hroom
    refine ⟨_, _, ?_, ho, grown_setCells g _ _ _⟩
    have hf := run_firstCells_some (P := Try.prog) w 1 m.length ⟨b, off, none⟩ m.length c (cellsU m) (by rw [cellsU_len]; omega) hx.news
    simp [Builtin.append_, run_underlying Try.underlying22, sizeOf, typeInfo, hi, hz1, Builtin.lenOf, hroom, hf, Addr.add_lit, hst]
  · have hr := run_append_grow (P := Try.prog) w 22 ty 5 i0 _ Try.underlying22 hi hz0 ⟨g, 0, none⟩ l.length cap (cellsU l) (by rw [cellsU_len, hz1]; omega) (own_news hh hc) ⟨b, off, none⟩ m.length c (cellsU m) (by rw [cellsU_len, hz1]; omega) hx.news (by omega) (by omega) (growslice_fits (by omega) (by rw [hz2]; omega))
    have hge := grownCap_ge w (l.length + m.length) cap 5
    have hle := grownCap_le_maxLen w (l.length + m.length) cap 5 (by unfold maxLen; omega)
    refine ⟨_, _, hr, ?_, ⟨rfl, rfl, rfl, by simp, fun k hk _ => heap_old w.drew _ k hk⟩⟩
    exact grow_put (w := w.drew) l m _ hB hle hge (by rw [size_zeroCells]; simp [Value.cells])
/-- 'append(v, s...)': a text behind bytes. -/
theorem run_app_text {w : World} {B : Nat} {v : Value} {l : List UInt8} (ty : TypeId) (s : ByteArray) (h : OwnL w B v l) (hn : l.length + s.size ≤ 1000000) (hB : B ≤ w.heap.size) :
    ∃ v' w', (Builtin.append_ #[22, 9] ty #[v, .string s]).run Try.prog w = .ok v' w' ∧ OwnL w' B v' (l ++ s.data.toList) ∧ w.grownBy w' v.ownBlock := by
  obtain ⟨i0, hi, hz0, hz1, hz2⟩ := info_parts info5
  obtain ⟨g, cap, cur, fz, rfl, hBg, hh, hz, hlc, hcm, hs, hc⟩ := h
  have hsz : s.data.toList.length = s.size := Array.length_toList
  have hsc : Lib.strCells s = cellsU s.data.toList := rfl
  by_cases hroom : l.length + s.size ≤ cap
  · obtain ⟨hst, ho⟩ := room_put l s.data.toList hBg hh hz hcm hs hc (by rw [hsz]; exact hroom)
    rw [hsz] at ho
    refine ⟨_, _, ?_, ho, grown_setCells g _ _ _⟩
    have hf := Lib.run_firstCells_string (P := Try.prog) w 1 s
    rw [hsc] at hf
    simp [Builtin.append_, run_underlying Try.underlying22, run_underlying Try.underlying9, sizeOf, typeInfo, hi, hz1, Builtin.lenOf, hroom, hf, Addr.add_lit, hst]
  · have hr := Lib.run_append_grow_string (P := Try.prog) w 22 9 ty 5 i0 _ Try.underlying22 Try.underlying9 hi hz0 ⟨g, 0, none⟩ l.length cap (cellsU l) (by rw [cellsU_len, hz1]; omega) (own_news hh hc) s (by omega) (by omega) (growslice_fits (by omega) (by rw [hz2]; omega))
    have hge := grownCap_ge w (l.length + s.size) cap 5
    have hle := grownCap_le_maxLen w (l.length + s.size) cap 5 (by unfold maxLen; omega)
    refine ⟨_, _, hr, ?_, ⟨rfl, rfl, rfl, by simp, fun k hk _ => heap_old w.drew _ k hk⟩⟩
    rw [hsc]
    have := grow_put (w := w.drew) (c := grownCap w (l.length + s.size) cap 5) l s.data.toList (Builtin.zeroCells (Value.int .u8 0).cells (grownCap w (l.length + s.size) cap 5 - (l.length + s.size))) hB hle (by rw [hsz]; exact hge) (by rw [size_zeroCells, hsz]; simp [Value.cells])
    rw [hsz] at this
    exact this
/-- 'append(v, make([]byte, k)...)': noughts behind bytes. -/
theorem run_app_zeros {w : World} {B : Nat} {v : Value} {l : List UInt8} (ty : TypeId) (k : Nat) (h : OwnL w B v l) (hn : l.length + k ≤ 1000000) (hB : B ≤ w.heap.size) :
    ∃ v' w', (Builtin.append_ #[22, 3] ty #[v, .int .i64 k]).run Try.prog w = .ok v' w' ∧ OwnL w' B v' (l ++ List.replicate k 0) ∧ w.grownBy w' v.ownBlock := by
  obtain ⟨i0, hi, hz0, hz1, hz2⟩ := info_parts info5
  obtain ⟨g, cap, cur, fz, rfl, hBg, hh, hz, hlc, hcm, hs, hc⟩ := h
  have hrl : (List.replicate k (0 : UInt8)).length = k := List.length_replicate
  have hw : IntKind.i64.wrap (k : Int) = k := by rw [IntKind.wrap_i64]; omega
  have hzc : Builtin.zeroCells (Value.int .u8 0).cells k = (cellsU (List.replicate k (0 : UInt8))).toArray := by
    apply Array.ext'
    apply List.ext_getElem
    · simp [Builtin.zeroCells, Value.cells, cellsU]
    · intro i h1 h2
      simp [Builtin.zeroCells, Value.cells, cellsU, Nat.mod_one]
  by_cases hroom : l.length + k ≤ cap
  · obtain ⟨hst, ho⟩ := room_put l (List.replicate k 0) hBg hh hz hcm hs hc (by rw [hrl]; exact hroom)
    rw [hrl] at ho
    refine ⟨_, _, ?_, ho, grown_setCells g _ _ _⟩
    by_cases hk : k = 0
    · subst hk
      have hw0 : IntKind.i64.wrap 0 = 0 := hw
      simp [Builtin.append_, run_underlying Try.underlying22, run_underlying Try.underlying3, sizeOf, typeInfo, hi, asInt, asIntOf, hw0, hlc, Addr.add_lit, cellsU, World.setCells, storeCells]
    · have hneg : ¬ ((k : Int) < 0) := by omega
      have hbig : ¬ ((281474976710656 : Int) < (k : Int)) := by omega
      simp [Builtin.append_, run_underlying Try.underlying22, run_underlying Try.underlying3, sizeOf, typeInfo, zeroValue, hi, hz0, hz1, hz2, asInt, asIntOf, hw, hk, hneg, hbig, hroom, hzc, Addr.add_lit, hst]
  · have hr := Lib.run_append_grow_zeros (P := Try.prog) w 22 3 ty 5 i0 _ .i64 .i64 Try.underlying22 Try.underlying3 hi hz0 (some ⟨g, 0, none⟩) l.length cap (cellsU l) (run_firstCells_some (P := Try.prog) w.drew i0.size l.length ⟨g, 0, none⟩ l.length cap (cellsU l) (by rw [cellsU_len, hz1]; omega) (by simpa using own_news hh hc)) k (by omega) (by omega) (by omega) (by omega) (by rw [hz2]; omega) (growslice_fits (by omega) (by rw [hz2]; omega))
    have hge := grownCap_ge w (l.length + k) cap 5
    have hle := grownCap_le_maxLen w (l.length + k) cap 5 (by unfold maxLen; omega)
    refine ⟨_, _, hr, ?_, ⟨rfl, rfl, rfl, by simp, fun k hk _ => heap_old w.drew _ k hk⟩⟩
    rw [hzc]
    have := grow_put (w := w.drew) (c := grownCap w (l.length + k) cap 5) l (List.replicate k 0) (Builtin.zeroCells (Value.int .u8 0).cells (grownCap w (l.length + k) cap 5 - (l.length + k))) hB hle (by rw [hrl]; exact hge) (by rw [size_zeroCells, hrl]; simp [Value.cells])
    rw [hrl] at this
    exact this
end Go.Proofs.Ytjiehohfbddpcaa
