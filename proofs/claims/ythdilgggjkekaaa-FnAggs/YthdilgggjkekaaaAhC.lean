/- slices.DeleteFunc by what is null, walked (towards FnAggs, stage 12). -/
import Derived.Test.YthdilgggjkekaaaAhB
import Derived.Laws.IdiomCopy
namespace Go.Proofs.Ythdilgggjkekaaa
open Go.RowKit

theorem heap_setCells (g : Nat) : ∀ (vs : List Value) (o : Nat) (w : World) (cur : Array Value), w.heap[g]? = some (.cells cur 27 (0, 0)) →
    ∃ cur', (w.setCells g o vs).heap[g]? = some (.cells cur' 27 (0, 0)) ∧ cur'.size = cur.size ∧ ∀ i, i < o → cur'[i]? = cur[i]?
  | [], _, _, cur, hh => ⟨cur, hh, rfl, fun _ _ => rfl⟩
  | v :: r, o, w, cur, hh => by
    obtain ⟨cur', h1, h2, h3⟩ := heap_setCells g r (o + 1) (w.setCell ⟨g, o, none⟩ v) _ (slab_set hh v)
    refine ⟨cur', h1, by simpa using h2, fun i hi => ?_⟩
    rw [h3 i (by omega), Array.getElem?_setIfInBounds_ne (by omega)]
theorem below_setCells (g B : Nat) (hB : B ≤ g) (u : World) : ∀ (vs : List Value) (o : Nat) (w : World), Below B u w → Below B u (w.setCells g o vs)
  | [], _, _, h => h
  | v :: r, o, w, h => below_setCells g B hB u r (o + 1) (w.setCell ⟨g, o, none⟩ v) (h.setCell hB v)
abbrev zV : List Value := [.int .i64 0, .int .i64 0, .string noT]
theorem run_clear (w : World) (g cap o n c : Nat) (cur : Array Value) (hh : w.heap[g]? = some (.cells cur 27 (0, 0))) (hs : cur.size = cap * 3) (hn : 0 < n) (hon : o + n ≤ cap) :
    ∃ zs : List Value, ∀ ty : TypeId, (Builtin.clear_ #[25] ty #[.slice (some ⟨g, o * 3, none⟩) n c]).run Try.prog w = .ok (.tuple #[]) (w.setCells g (o * 3) zs) := by
  obtain ⟨i0, hi, hz0, hz1, hz2⟩ := info_parts infoV
  have hlen : (Builtin.zeroCells (Value.agg #[.int .i64 0, .int .i64 0, .string ⟨#[]⟩]).cells n).toList.length = n * 3 := by
    rw [Array.length_toList, size_zeroCells]
    simp [Value.cells]
  refine ⟨(Builtin.zeroCells (Value.agg #[.int .i64 0, .int .i64 0, .string ⟨#[]⟩]).cells n).toList, fun ty => ?_⟩
  have hst : (storeCells ⟨g, o * 3, none⟩ (Builtin.zeroCells (Value.agg #[.int .i64 0, .int .i64 0, .string ⟨#[]⟩]).cells n).toList).run Try.prog w = .ok () (w.setCells g (o * 3) (Builtin.zeroCells (Value.agg #[.int .i64 0, .int .i64 0, .string ⟨#[]⟩]).cells n).toList) := by
    have := run_storeCells_cells (P := Try.prog) g (o * 3) (Builtin.zeroCells (Value.agg #[.int .i64 0, .int .i64 0, .string ⟨#[]⟩]).cells n).toList 0 w (fun j hj => ?_) (fun j hj => ?_) ?_
    · simpa using this
    · rw [hlen] at hj
      rw [slab_cell hh, Array.getElem?_eq_getElem (by omega)]; rfl
    · exact slab_free hh
    · intro u hu
      obtain ⟨i, hi', rfl⟩ := List.mem_iff_getElem.1 hu
      simp only [Builtin.zeroCells, Value.cells, Array.getElem_toList]
      rcases (by omega : i % 3 = 0 ∨ i % 3 = 1 ∨ i % 3 = 2) with h | h | h <;> simp [h] <;> rfl
  have hn0 : n ≠ 0 := by omega
  simp [Builtin.clear_, run_underlying Try.underlying25, zeroValue, typeInfo, hi, hz0, hst]
end Go.Proofs.Ythdilgggjkekaaa
