/- What impl.RowBytes answers: the bytes of a row, in new memory. -/
import Derived.Test.YtepkdodicglilaaGreatDoorKmA
import Derived.Test.YtepkdodicglilaaGreatDoorShelfB
import Derived.Test.YtepkdodicglilaaGreatDoorVlC
namespace Go.Proofs.YtepkdodicglilaaGreatDoor
open Go.RowKit

theorem bytes_list : ∀ bs : List Value, (∀ x ∈ bs, ∃ c : Int, x = .int .u8 c ∧ 0 ≤ c ∧ c ≤ 255) → ∃ l : List UInt8, bs = Lib.byteCells l
  | [], _ => ⟨[], rfl⟩
  | x :: bs, h => by
    obtain ⟨c, rfl, h0, h1⟩ := h x (by simp)
    obtain ⟨l, rfl⟩ := bytes_list bs (fun y hy => h y (by simp [hy]))
    refine ⟨UInt8.ofNat c.toNat :: l, ?_⟩
    have h2 : ((UInt8.ofNat c.toNat).toNat : Int) = c := by simp; omega
    show Value.int .u8 c :: Lib.byteCells l = Value.int .u8 ((UInt8.ofNat c.toNat).toNat : Int) :: Lib.byteCells l
    rw [h2]

theorem encI_bytes (n : Int) : ∀ x ∈ encI n, ∃ c : Int, x = .int .u8 c ∧ 0 ≤ c ∧ c ≤ 255 := by
  intro x hx
  simp only [encI, List.mem_cons, List.mem_nil_iff, or_false] at hx
  rcases hx with rfl | rfl | rfl | rfl | rfl | rfl | rfl | rfl <;> exact ⟨_, rfl, by omega, by omega⟩
theorem str_bytes (t : ByteArray) : ∀ x ∈ Lib.strCells t, ∃ c : Int, x = .int .u8 c ∧ 0 ≤ c ∧ c ≤ 255 := by
  intro x hx
  simp only [Lib.strCells, List.mem_map] at hx
  obtain ⟨c, _, rfl⟩ := hx
  exact ⟨_, rfl, by omega, by have := c.toNat_lt; omega⟩
theorem okRow_all {vs : List V3} (h : okRow vs = true) : vs.length ≤ 8 ∧ ∀ v ∈ vs, okV3 v = true := by
  unfold okRow at h
  simpa using h
def byteVal (bs : List Value) (i : Nat) : Int := match bs[i]? with | some (.int _ c) => c | _ => 0

/-- The cells of a row, as rowCells hands them on. -/
def RowCl (w : World) (a : Option Addr) (vs : List V3) : Prop :=
  ∀ i, i < vs.length → ∃ b, a = some ⟨b, 0, none⟩ ∧ b < w.heap.size ∧ w.cell? ⟨b, i, none⟩ = some (cellW (nthV vs i))
theorem RowCl.below {w w' : World} {a : Option Addr} {vs : List V3} (h : RowCl w a vs) (hb : Below w.heap.size w w') : RowCl w' a vs := fun i hi => by
  obtain ⟨b, e, hlt, hc⟩ := h i hi
  exact ⟨b, e, Nat.lt_of_lt_of_le hlt hb.size, (hb.cell (p := ⟨b, i, none⟩) hlt).trans hc⟩
theorem own_row {u : World} {B : Nat} {v : Value} {vs : List V3} (h : u.ownsRow B 109 1 v vs.length (vs.map cellW)) : ∃ a c, v = .slice a vs.length c ∧ RowCl u a vs := by
  obtain ⟨hl, h⟩ := h
  rcases h with ⟨rfl, h0⟩ | ⟨g, cap, cur, rfl, _, hh, hn, _, hcs, htk⟩
  · exact ⟨none, 0, by rw [h0], fun i hi => by omega⟩
  · refine ⟨_, _, rfl, fun i hi => ⟨g, rfl, ?_, ?_⟩⟩
    · rcases Nat.lt_or_ge g u.heap.size with h | h
      · exact h
      · rw [Array.getElem?_eq_none h] at hh; cases hh
    · have hxi : (vs.map cellW)[i]? = cur[i]? := by rw [← htk, List.getElem?_take, if_pos (by omega), Array.getElem?_toList]
      rw [slab_cell hh, ← hxi, List.getElem?_map, List.getElem?_eq_getElem hi]
      unfold nthV
      rw [List.getD_eq_getElem?_getD, List.getElem?_eq_getElem hi]
      rfl
theorem nth_mem {vs : List V3} {k : Nat} (h : k < vs.length) : nthV vs k ∈ vs := by
  unfold nthV
  rw [List.getD_eq_getElem?_getD, List.getElem?_eq_getElem h]
  exact List.getElem_mem h

theorem byteVal_cells (l : List UInt8) (i : Nat) (h : i < l.length) : byteVal (Lib.byteCells l) i = (l[i].toNat : Int) := by
  unfold byteVal Lib.byteCells
  rw [List.getElem?_map, List.getElem?_eq_getElem h]
  rfl
theorem own_bytes (w : World) (l : List UInt8) (c : Nat) : OwnB (w.alloc (.cells (bytesRow ⟨l.toArray⟩ c) 5 ((bytesRow ⟨l.toArray⟩ c).size, (bytesRow ⟨l.toArray⟩ c).size + 1))).drew (some ⟨w.heap.size, 0, none⟩) l.length (byteVal (Lib.byteCells l)) := by
  have hs : l.length ≤ (bytesRow ⟨l.toArray⟩ c).size := by unfold bytesRow; simp
  refine .inr ⟨w.heap.size, bytesRow ⟨l.toArray⟩ c, (bytesRow ⟨l.toArray⟩ c).size, (bytesRow ⟨l.toArray⟩ c).size + 1, rfl, ?_, hs, .inr hs, fun i hi => ?_⟩
  · show (w.heap.push _)[w.heap.size]? = _
    rw [Array.getElem?_push_size]
  · rw [bytesRow_at _ _ _ (by simpa using hi), byteVal_cells l i hi]
    rfl

/-- The empty slice that the law makes. -/
theorem own_empty {u : World} {B : Nat} (hB : B ≤ u.heap.size) : (u.alloc (.cells #[] 5)).ownsRow B 5 1 (.slice (some ⟨u.heap.size, 0, none⟩) 0 0) 0 [] :=
  ⟨rfl, .inr ⟨u.heap.size, 0, #[], rfl, hB, by show (u.heap.push _)[u.heap.size]? = _; simp, Nat.le_refl _, Nat.zero_le _, rfl, rfl⟩⟩

end Go.Proofs.YtepkdodicglilaaGreatDoor
