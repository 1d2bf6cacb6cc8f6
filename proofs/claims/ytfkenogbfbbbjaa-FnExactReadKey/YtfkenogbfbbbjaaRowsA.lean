/- Slices of values: how they are measured and copied. -/
import Derived.Test.YtfkenogbfbbbjaaBytes
namespace Go.Proofs.Ytfkenogbfbbbjaa
open Go.RowKit

/-- A value as three parts. -/
abbrev V3 : Type := Int × Int × ByteArray
def nthV (vs : List V3) (i : Nat) : V3 := vs.getD i (0, 0, ⟨#[]⟩)
/-- Value i of a row in block b, from offset off on. -/
abbrev CellV (w : World) (b o : Nat) (v : V3) : Prop :=
  w.cell? ⟨b, o, none⟩ = some (.int .i64 v.1) ∧ w.cell? ⟨b, o + 1, none⟩ = some (.int .i64 v.2.1) ∧ w.cell? ⟨b, o + 2, none⟩ = some (.string v.2.2)
/-- A slice of values can be read. -/
def RowV (w : World) (a : Option Addr) (vs : List V3) : Prop :=
  ∀ i, i < vs.length → ∃ b off, a = some ⟨b, off, none⟩ ∧ b < w.heap.size ∧ CellV w b (off + i * 3) (nthV vs i) ∧ (nthV vs i).2.2.size ≤ maxLen

theorem RowV.below {w w' : World} {a : Option Addr} {vs : List V3} (h : RowV w a vs) (hb : Below w.heap.size w w') : RowV w' a vs := fun i hi => by
  obtain ⟨b, off, e, hlt, hc, hs⟩ := h i hi
  exact ⟨b, off, e, Nat.lt_of_lt_of_le hlt hb.size, ⟨(hb.cell (p := ⟨b, off + i * 3, none⟩) hlt).trans hc.1, (hb.cell (p := ⟨b, off + i * 3 + 1, none⟩) hlt).trans hc.2.1, (hb.cell (p := ⟨b, off + i * 3 + 2, none⟩) hlt).trans hc.2.2⟩, hs⟩

theorem szS_any (a : Option Addr) (cap : Nat) (vs : List V3) (left : Int) (w : World) (hrow : RowV w a vs) (hlen : vs.length ≤ maxLen) (h0 : 0 ≤ left) (h1 : left ≤ 1048576) :
    Calls Try.prog 30 #[.slice a vs.length cap, .int .i64 left] w fun e w' => ∃ r : Int, e = .returned (.int .i64 r) ∧ -1 ≤ r ∧ r ≤ left ∧ (0 ≤ r → (vs.length : Int) ≤ left) ∧ Below w.heap.size w w' := by
  unfold maxLen at hlen
  have HR : Hid (RowV w a vs) := hrow
  clear hrow
  generalize hL : vs.length = len at *
  have HL : Hid (vs.length = len) := hL
  clear hL
  by_cases hlt : left - (len : Int) < 0
  · go_enter Try.func30, Try.ntmps30
    go_wp2
    go_ret
    exact ⟨-1, rfl, by omega, by omega, fun h => by omega, Below.refl _ _⟩
  · go_enter Try.func30, Try.ntmps30
    go_wp2
    go_loopw [1, 5] (fun l i wr => ∃ (k : Nat) (l' : Int), k ≤ len ∧ i = .int .i64 k ∧ l = .int .i64 l' ∧ 0 ≤ l' ∧ l' ≤ left ∧ Below w.heap.size w wr) (fun _ i _ => len - (intOf i).toNat)
    case atStart => exact ⟨0, _, by omega, rfl, rfl, by omega, by omega, Below.refl _ _⟩
    case round =>
      obtain ⟨k, l', hk, rfl, rfl, hl0, hl1, hbl⟩ := hrel
      by_cases hlt : k < len
      · obtain ⟨b, off, rfl, hlb, ⟨hc0, hc1, hc2⟩, hsz⟩ := (HR.out.below hbl) k (by rw [HL.out]; exact hlt)
        by_cases hneg : leftOf l' (nthV vs k).2.2 < 0
        · go_wp2_with fail
          refine (szValue_any _ _ _ _ _ hl0 (by omega) hsz).mono ?_
          rintro e w1 ⟨rfl, hb1⟩
          go_wp2
          go_ret
          exact ⟨-1, rfl, by omega, by omega, fun h => by omega, below_step hbl (Nat.le_refl _) hb1⟩
        · have hbd : 0 ≤ leftOf l' (nthV vs k).2.2 ∧ leftOf l' (nthV vs k).2.2 ≤ l' := by
            refine ⟨by omega, ?_⟩
            unfold leftOf
            split <;> omega
          go_wp2_with fail
          refine (szValue_any _ _ _ _ _ hl0 (by omega) hsz).mono ?_
          rintro e w1 ⟨rfl, hb1⟩
          have hB := below_step hbl (Nat.le_refl _) hb1
          clear hc0 hc1 hc2 hb1 hlb
          go_wp2
          go_roundw
          case rel => exact ⟨k + 1, _, by omega, by go_num, rfl, by omega, by omega, hB⟩
          case measure => simp [intOf]; omega
      · go_wp2
        go_ret
        exact ⟨l', rfl, by omega, by omega, fun _ => by omega, hbl⟩

theorem slab_set {w : World} {g o : Nat} {cur : Array Value} {e : TypeId} (h : w.heap[g]? = some (.cells cur e (0, 0))) (v : Value) : (w.setCell ⟨g, o, none⟩ v).heap[g]? = some (.cells (cur.setIfInBounds o v) e (0, 0)) := by
  simp [World.setCell, Array.getElem?_modify, h]
theorem slab_cell {w : World} {g o : Nat} {cur : Array Value} {e : TypeId} (h : w.heap[g]? = some (.cells cur e (0, 0))) : w.cell? ⟨g, o, none⟩ = cur[o]? := by
  simp [World.cell?, h]
theorem slab_free {w : World} {g o : Nat} {cur : Array Value} {e : TypeId} (h : w.heap[g]? = some (.cells cur e (0, 0))) : w.frozen? ⟨g, o, none⟩ = false := by
  simp [World.frozen?, h]
theorem info24 : (Try.prog.info? 24).map (fun i => (i.zero, i.size, i.bytes)) = some (some (.agg #[.int .i64 0, .int .i64 0, .string ⟨#[]⟩]), 3, 32) := by kernel_rfl

/-- A block of the call's own of n values, of which the first k are those of vs. -/
def SlabK (w : World) (g n : Nat) (vs : List V3) (k : Nat) : Prop :=
  ∃ cur, w.heap[g]? = some (.cells cur 24 (0, 0)) ∧ cur.size = n * 3 ∧
    ∀ i, i < k → cur[i * 3]? = some (.int .i64 (nthV vs i).1) ∧ cur[i * 3 + 1]? = some (.int .i64 (nthV vs i).2.1) ∧ cur[i * 3 + 2]? = some (.string (nthV vs i).2.2)
theorem SlabK.below {w w' : World} {g n k B : Nat} {vs : List V3} (h : SlabK w g n vs k) (hb : Below B w w') (hg : g < B) : SlabK w' g n vs k := by
  obtain ⟨cur, hh, r⟩ := h
  exact ⟨cur, (hb.block g hg).trans hh, r⟩
theorem SlabK.lt {w : World} {g n k : Nat} {vs : List V3} (h : SlabK w g n vs k) : g < w.heap.size := by
  obtain ⟨cur, hh, _⟩ := h
  rcases Nat.lt_or_ge g w.heap.size with h | h
  · exact h
  · rw [Array.getElem?_eq_none h] at hh; cases hh
theorem SlabK.step {w : World} {g n k : Nat} {vs : List V3} (h : SlabK w g n vs k) (hk : k < n) :
    SlabK (((w.setCell ⟨g, k * 3, none⟩ (.int .i64 (nthV vs k).1)).setCell ⟨g, k * 3 + 1, none⟩ (.int .i64 (nthV vs k).2.1)).setCell ⟨g, k * 3 + 2, none⟩ (.string (nthV vs k).2.2)) g n vs (k + 1) := by
  obtain ⟨cur, hh, hs, hc⟩ := h
  refine ⟨_, slab_set (slab_set (slab_set hh _) _) _, by simpa using hs, fun i hi => ?_⟩
  by_cases e : i = k
  · subst e
    refine ⟨?_, ?_, ?_⟩
    · rw [Array.getElem?_setIfInBounds_ne (by omega), Array.getElem?_setIfInBounds_ne (by omega), Array.getElem?_setIfInBounds_self_of_lt (by omega)]
    · rw [Array.getElem?_setIfInBounds_ne (by omega), Array.getElem?_setIfInBounds_self_of_lt (by simp; omega)]
    · rw [Array.getElem?_setIfInBounds_self_of_lt (by simp; omega)]
  · have := hc i (by omega)
    refine ⟨?_, ?_, ?_⟩
    · rw [Array.getElem?_setIfInBounds_ne (by omega), Array.getElem?_setIfInBounds_ne (by omega), Array.getElem?_setIfInBounds_ne (by omega)]; exact this.1
    · rw [Array.getElem?_setIfInBounds_ne (by omega), Array.getElem?_setIfInBounds_ne (by omega), Array.getElem?_setIfInBounds_ne (by omega)]; exact this.2.1
    · rw [Array.getElem?_setIfInBounds_ne (by omega), Array.getElem?_setIfInBounds_ne (by omega), Array.getElem?_setIfInBounds_ne (by omega)]; exact this.2.2
theorem SlabK.there {w : World} {g n k j : Nat} {vs : List V3} (h : SlabK w g n vs k) (hj : j < n * 3) : ∃ v, w.cell? ⟨g, j, none⟩ = some v := by
  obtain ⟨cur, hh, hs, _⟩ := h
  exact ⟨cur[j]'(by omega), by rw [slab_cell hh]; exact Array.getElem?_eq_getElem _⟩
theorem SlabK.free {w : World} {g n k : Nat} {vs : List V3} (h : SlabK w g n vs k) (o : Nat) : w.frozen? ⟨g, o, none⟩ = false := by
  obtain ⟨cur, hh, _⟩ := h
  exact slab_free hh

set_option maxHeartbeats 1000000 in
theorem toS_any (a : Option Addr) (cap : Nat) (vs : List V3) (w : World) (hrow : RowV w a vs) (hlen : vs.length ≤ 1048576) :
    Calls Try.prog 32 #[.slice a vs.length cap] w fun e w' => ∃ g, e = .returned (.slice (some ⟨g, 0, none⟩) vs.length vs.length) ∧ w.heap.size ≤ g ∧ SlabK w' g vs.length vs vs.length ∧ Below w.heap.size w w' := by
  have HR : Hid (RowV w a vs) := hrow
  clear hrow
  generalize hL : vs.length = len at *
  have HL : Hid (vs.length = len) := hL
  clear hL
  obtain ⟨i0, hi, hz0, hz1, hz2⟩ := info_parts info24
  go_enter Try.func32, Try.ntmps32
  go_wp2_with (at_make; refine wpList_make_full _ rfl _ _ 29 rfl w.heap.size 24 i0 _ 3 Try.underlying29 hi hz0 hz1 .i64 .i64 _ _ len rfl rfl rfl rfl ?m1 ?m2 (Nat.le_refl _) ?_)
  case m1 => rw [hz2]; omega
  case m2 => unfold maxLen; omega
  intro w1 hown hgr
  have hB1 : Below w.heap.size w w1 := (Below.refl _ _).grown hgr (Nat.le_refl _) (fun k hk => by cases hk)
  have hS : SlabK w1 w.heap.size len vs 0 := by
    rcases hown.2 with ⟨h, _⟩ | ⟨g, c, cur, h, _, hh, _, _, hcs, _⟩
    · cases h
    · cases h
      exact ⟨cur, hh, hcs, fun i hi => by omega⟩
  clear hown hgr hi hz0 hz1 hz2
  go_wp2
  go_loopw [4] (fun i wr => ∃ k : Nat, k ≤ len ∧ i = .int .i64 k ∧ SlabK wr w.heap.size len vs k ∧ Below w.heap.size w wr) (fun i _ => len - (intOf i).toNat)
  case atStart => exact ⟨0, by omega, rfl, hS, hB1⟩
  case round =>
    obtain ⟨k, hk, rfl, hSk, hbl⟩ := hrel
    by_cases hlt : k < len
    · obtain ⟨b, off, rfl, hlb, ⟨hc0, hc1, hc2⟩, hsz⟩ := (HR.out.below hbl) k (by rw [HL.out]; exact hlt)
      go_wp2_with fail
      refine (toValue_any _ _ _ _).mono ?_
      rintro e w2 ⟨rfl, hb2⟩
      have hS2 := hSk.below hb2 hSk.lt
      have hB2 := below_step hbl (Nat.le_refl _) hb2
      obtain ⟨v0, hv0⟩ := hS2.there (j := k * 3) (by omega)
      obtain ⟨v1, hv1⟩ := hS2.there (j := k * 3 + 1) (by omega)
      obtain ⟨v2, hv2⟩ := hS2.there (j := k * 3 + 2) (by omega)
      have hf := hS2.free
      have hN := hS2.step hlt
      have HN : Hid (SlabK _ _ _ _ (k + 1)) := hN
      clear hc0 hc1 hc2 hb2 hlb hSk hbl hS2 hN hS hB1
      go_wp2
      go_roundw
      case rel => exact ⟨k + 1, by omega, by go_num, HN.out, ((hB2.setCell (p := ⟨w.heap.size, k * 3, none⟩) (Nat.le_refl _) _).setCell (p := ⟨w.heap.size, k * 3 + 1, none⟩) (Nat.le_refl _) _).setCell (p := ⟨w.heap.size, k * 3 + 2, none⟩) (Nat.le_refl _) _⟩
      case measure => simp [intOf]; omega
    · have e : k = len := by omega
      subst e
      go_wp2
      go_ret
      exact ⟨w.heap.size, rfl, Nat.le_refl _, hSk, hbl⟩
end Go.Proofs.Ytfkenogbfbbbjaa
