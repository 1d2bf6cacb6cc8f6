/- Disks: how they are copied. -/
import Derived.Test.YtgfgaiimigchkaaDoorDiskA
namespace Go.Proofs.YtgfgaiimigchkaaDoor
open Go.RowKit

theorem slab_set {w : World} {g o : Nat} {cur : Array Value} {e : TypeId} (h : w.heap[g]? = some (.cells cur e (0, 0))) (v : Value) : (w.setCell ⟨g, o, none⟩ v).heap[g]? = some (.cells (cur.setIfInBounds o v) e (0, 0)) := by
  simp [World.setCell, Array.getElem?_modify, h]
theorem slab_cell {w : World} {g o : Nat} {cur : Array Value} {e : TypeId} (h : w.heap[g]? = some (.cells cur e (0, 0))) : w.cell? ⟨g, o, none⟩ = cur[o]? := by
  simp [World.cell?, h]
theorem slab_free {w : World} {g o : Nat} {cur : Array Value} {e : TypeId} (h : w.heap[g]? = some (.cells cur e (0, 0))) : w.frozen? ⟨g, o, none⟩ = false := by
  simp [World.frozen?, h]
theorem slab_lt {w : World} {g : Nat} {x : Obj} (hh : w.heap[g]? = some x) : g < w.heap.size := by
  rcases Nat.lt_or_ge g w.heap.size with h | h
  · exact h
  · rw [Array.getElem?_eq_none h] at hh; cases hh
theorem info9 : (Tryd.prog.info? 9).map (fun i => (i.zero, i.size, i.bytes)) = some (some (.string ⟨#[]⟩), 1, 16) := by kernel_rfl
theorem info46 : (Tryd.prog.info? 46).map (fun i => (i.zero, i.size, i.bytes)) = some (some (.agg #[.int .i64 0, .string ⟨#[]⟩]), 2, 24) := by kernel_rfl

/-- A block of the call's own of n texts, of which the first k are those of ss. -/
def SlabS (w : World) (g n : Nat) (ss : List ByteArray) (k : Nat) : Prop :=
  ∃ cur, w.heap[g]? = some (.cells cur 9 (0, 0)) ∧ cur.size = n ∧ ∀ i, i < k → cur[i]? = some (.string (nthS ss i))
theorem SlabS.below {w w' : World} {g n k B : Nat} {ss : List ByteArray} (h : SlabS w g n ss k) (hb : Below B w w') (hg : g < B) : SlabS w' g n ss k := by
  obtain ⟨cur, hh, r⟩ := h
  exact ⟨cur, (hb.block g hg).trans hh, r⟩
theorem SlabS.lt {w : World} {g n k : Nat} {ss : List ByteArray} (h : SlabS w g n ss k) : g < w.heap.size := by
  obtain ⟨cur, hh, _⟩ := h
  exact slab_lt hh
theorem SlabS.step {w : World} {g n k : Nat} {ss : List ByteArray} (h : SlabS w g n ss k) (hk : k < n) : SlabS (w.setCell ⟨g, k, none⟩ (.string (nthS ss k))) g n ss (k + 1) := by
  obtain ⟨cur, hh, hs, hc⟩ := h
  refine ⟨_, slab_set hh _, by simpa using hs, fun i hi => ?_⟩
  by_cases e : i = k
  · subst e
    rw [Array.getElem?_setIfInBounds_self_of_lt (by omega)]
  · rw [Array.getElem?_setIfInBounds_ne (by omega)]; exact hc i (by omega)
theorem SlabS.there {w : World} {g n k j : Nat} {ss : List ByteArray} (h : SlabS w g n ss k) (hj : j < n) : ∃ v, w.cell? ⟨g, j, none⟩ = some v := by
  obtain ⟨cur, hh, hs, _⟩ := h
  exact ⟨cur[j]'(by omega), by rw [slab_cell hh]; exact Array.getElem?_eq_getElem _⟩
theorem SlabS.free {w : World} {g n k : Nat} {ss : List ByteArray} (h : SlabS w g n ss k) (o : Nat) : w.frozen? ⟨g, o, none⟩ = false := by
  obtain ⟨cur, hh, _⟩ := h
  exact slab_free hh
theorem SlabS.row {w : World} {g : Nat} {ss : List ByteArray} (h : SlabS w g ss.length ss ss.length) (hs : ∀ i, i < ss.length → (nthS ss i).size ≤ maxLen) : RowS w (some ⟨g, 0, none⟩) ss := fun i hi => by
  have hl := h.lt
  obtain ⟨cur, hh, _, hc⟩ := h
  exact ⟨g, 0, rfl, hl, by rw [slab_cell hh, Nat.zero_add]; exact hc i hi, hs i hi⟩
theorem RowS.size {w : World} {a : Option Addr} {ss : List ByteArray} (h : RowS w a ss) : ∀ i, i < ss.length → (nthS ss i).size ≤ maxLen := fun i hi => by
  obtain ⟨_, _, _, _, _, hs⟩ := h i hi
  exact hs

/-- The same of pending writes. -/
def SlabP (w : World) (g n : Nat) (ps : List P2) (k : Nat) : Prop :=
  ∃ cur, w.heap[g]? = some (.cells cur 46 (0, 0)) ∧ cur.size = n * 2 ∧ ∀ i, i < k → cur[i * 2]? = some (.int .i64 (nthP ps i).1) ∧ cur[i * 2 + 1]? = some (.string (nthP ps i).2)
theorem SlabP.below {w w' : World} {g n k B : Nat} {ps : List P2} (h : SlabP w g n ps k) (hb : Below B w w') (hg : g < B) : SlabP w' g n ps k := by
  obtain ⟨cur, hh, r⟩ := h
  exact ⟨cur, (hb.block g hg).trans hh, r⟩
theorem SlabP.lt {w : World} {g n k : Nat} {ps : List P2} (h : SlabP w g n ps k) : g < w.heap.size := by
  obtain ⟨cur, hh, _⟩ := h
  exact slab_lt hh
theorem SlabP.step {w : World} {g n k : Nat} {ps : List P2} (h : SlabP w g n ps k) (hk : k < n) :
    SlabP ((w.setCell ⟨g, k * 2, none⟩ (.int .i64 (nthP ps k).1)).setCell ⟨g, k * 2 + 1, none⟩ (.string (nthP ps k).2)) g n ps (k + 1) := by
  obtain ⟨cur, hh, hs, hc⟩ := h
  refine ⟨_, slab_set (slab_set hh _) _, by simpa using hs, fun i hi => ?_⟩
  by_cases e : i = k
  · subst e
    refine ⟨?_, ?_⟩
    · rw [Array.getElem?_setIfInBounds_ne (by omega), Array.getElem?_setIfInBounds_self_of_lt (by omega)]
    · rw [Array.getElem?_setIfInBounds_self_of_lt (by simp; omega)]
  · have := hc i (by omega)
    refine ⟨?_, ?_⟩
    · rw [Array.getElem?_setIfInBounds_ne (by omega), Array.getElem?_setIfInBounds_ne (by omega)]; exact this.1
    · rw [Array.getElem?_setIfInBounds_ne (by omega), Array.getElem?_setIfInBounds_ne (by omega)]; exact this.2
theorem SlabP.there {w : World} {g n k j : Nat} {ps : List P2} (h : SlabP w g n ps k) (hj : j < n * 2) : ∃ v, w.cell? ⟨g, j, none⟩ = some v := by
  obtain ⟨cur, hh, hs, _⟩ := h
  exact ⟨cur[j]'(by omega), by rw [slab_cell hh]; exact Array.getElem?_eq_getElem _⟩
theorem SlabP.free {w : World} {g n k : Nat} {ps : List P2} (h : SlabP w g n ps k) (o : Nat) : w.frozen? ⟨g, o, none⟩ = false := by
  obtain ⟨cur, hh, _⟩ := h
  exact slab_free hh
theorem SlabP.row {w : World} {g : Nat} {ps : List P2} (h : SlabP w g ps.length ps ps.length) (hs : ∀ i, i < ps.length → (nthP ps i).2.size ≤ maxLen) : RowP w (some ⟨g, 0, none⟩) ps := fun i hi => by
  have hl := h.lt
  obtain ⟨cur, hh, _, hc⟩ := h
  have := hc i hi
  refine ⟨g, 0, rfl, hl, ⟨?_, ?_⟩, hs i hi⟩
  · rw [slab_cell hh, Nat.zero_add]; exact this.1
  · rw [slab_cell hh, Nat.zero_add]; exact this.2
theorem RowP.size {w : World} {a : Option Addr} {ps : List P2} (h : RowP w a ps) : ∀ i, i < ps.length → (nthP ps i).2.size ≤ maxLen := fun i hi => by
  obtain ⟨_, _, _, _, _, hs⟩ := h i hi
  exact hs

set_option maxHeartbeats 1000000 in
theorem toS_any (a : Option Addr) (cap : Nat) (ss : List ByteArray) (w : World) (hrow : RowS w a ss) (hlen : ss.length ≤ 1048576) :
    Calls Tryd.prog 55 #[.slice a ss.length cap] w fun e w' => ∃ g, e = .returned (.slice (some ⟨g, 0, none⟩) ss.length ss.length) ∧ w.heap.size ≤ g ∧ SlabS w' g ss.length ss ss.length ∧ Below w.heap.size w w' := by
  have HR : Hid (RowS w a ss) := hrow
  clear hrow
  generalize hL : ss.length = len at *
  have HL : Hid (ss.length = len) := hL
  clear hL
  obtain ⟨i0, hi, hz0, hz1, hz2⟩ := info_parts info9
  go_enter Tryd.func55, Tryd.ntmps55
  go_wp2_with (at_make; refine wpList_make_full _ rfl _ _ 25 rfl w.heap.size 9 i0 _ 1 Tryd.underlying25 hi hz0 hz1 .i64 .i64 _ _ len rfl rfl rfl rfl ?m1 ?m2 (Nat.le_refl _) ?_)
  case m1 => rw [hz2]; omega
  case m2 => unfold maxLen; omega
  intro w1 hown hgr
  have hB1 : Below w.heap.size w w1 := (Below.refl _ _).grown hgr (Nat.le_refl _) (fun k hk => by cases hk)
  have hS : SlabS w1 w.heap.size len ss 0 := by
    rcases hown.2 with ⟨h, _⟩ | ⟨g, c, cur, h, _, hh, _, _, hcs, _⟩
    · cases h
    · cases h
      exact ⟨cur, hh, by simpa using hcs, fun i hi => by omega⟩
  clear hown hgr hi hz0 hz1 hz2
  go_wp2
  go_loopw [4] (fun i wr => ∃ k : Nat, k ≤ len ∧ i = .int .i64 k ∧ SlabS wr w.heap.size len ss k ∧ Below w.heap.size w wr) (fun i _ => len - (intOf i).toNat)
  case atStart => exact ⟨0, by omega, rfl, hS, hB1⟩
  case round =>
    obtain ⟨k, hk, rfl, hSk, hbl⟩ := hrel
    by_cases hlt : k < len
    · obtain ⟨b, off, rfl, hlb, hc0, hsz⟩ := (HR.out.below hbl) k (by rw [HL.out]; exact hlt)
      obtain ⟨v0, hv0⟩ := hSk.there (j := k) (by omega)
      have hf := hSk.free
      have HN : Hid (SlabS _ _ _ _ (k + 1)) := hSk.step hlt
      clear hlb hSk hS hB1
      go_wp2
      go_roundw
      case rel => exact ⟨k + 1, by omega, by go_num, HN.out, hbl.setCell (p := ⟨w.heap.size, k, none⟩) (Nat.le_refl _) _⟩
      case measure => simp [intOf]; omega
    · obtain rfl : k = len := by omega
      go_wp2
      go_ret
      exact ⟨_, rfl, Nat.le_refl _, hSk, hbl⟩

theorem toPending_any (p : P2) (w : World) :
    Calls Tryd.prog 85 #[PV p] w fun e w' => e = .returned (PV p) ∧ Below w.heap.size w w' := by
  obtain ⟨n, t⟩ := p
  go_enter Tryd.func85, Tryd.ntmps85
  go_wp2
  exact bodyPost_ret (v := PV (n, t)) (by simp [results, Tryd.results85, go_sem]) rfl ⟨rfl, (((Below.refl _ _).alloc (Nat.le_refl _) _).alloc (by simp) _).alloc (by simp; omega) _⟩

set_option maxHeartbeats 1000000 in
theorem toP_any (a : Option Addr) (cap : Nat) (ps : List P2) (w : World) (hrow : RowP w a ps) (hlen : ps.length ≤ 1048576) :
    Calls Tryd.prog 56 #[.slice a ps.length cap] w fun e w' => ∃ g, e = .returned (.slice (some ⟨g, 0, none⟩) ps.length ps.length) ∧ w.heap.size ≤ g ∧ SlabP w' g ps.length ps ps.length ∧ Below w.heap.size w w' := by
  have HR : Hid (RowP w a ps) := hrow
  clear hrow
  generalize hL : ps.length = len at *
  have HL : Hid (ps.length = len) := hL
  clear hL
  obtain ⟨i0, hi, hz0, hz1, hz2⟩ := info_parts info46
  go_enter Tryd.func56, Tryd.ntmps56
  go_wp2_with (at_make; refine wpList_make_full _ rfl _ _ 26 rfl w.heap.size 46 i0 _ 2 Tryd.underlying26 hi hz0 hz1 .i64 .i64 _ _ len rfl rfl rfl rfl ?m1 ?m2 (Nat.le_refl _) ?_)
  case m1 => rw [hz2]; omega
  case m2 => unfold maxLen; omega
  intro w1 hown hgr
  have hB1 : Below w.heap.size w w1 := (Below.refl _ _).grown hgr (Nat.le_refl _) (fun k hk => by cases hk)
  have hS : SlabP w1 w.heap.size len ps 0 := by
    rcases hown.2 with ⟨h, _⟩ | ⟨g, c, cur, h, _, hh, _, _, hcs, _⟩
    · cases h
    · cases h
      exact ⟨cur, hh, hcs, fun i hi => by omega⟩
  clear hown hgr hi hz0 hz1 hz2
  go_wp2
  go_loopw [4] (fun i wr => ∃ k : Nat, k ≤ len ∧ i = .int .i64 k ∧ SlabP wr w.heap.size len ps k ∧ Below w.heap.size w wr) (fun i _ => len - (intOf i).toNat)
  case atStart => exact ⟨0, by omega, rfl, hS, hB1⟩
  case round =>
    obtain ⟨k, hk, rfl, hSk, hbl⟩ := hrel
    by_cases hlt : k < len
    · obtain ⟨b, off, rfl, hlb, ⟨hc0, hc1⟩, hsz⟩ := (HR.out.below hbl) k (by rw [HL.out]; exact hlt)
      go_wp2_with fail
      refine (toPending_any (nthP ps k) _).mono ?_
      rintro e w2 ⟨rfl, hb2⟩
      have hS2 := hSk.below hb2 hSk.lt
      have hB2 := below_step hbl (Nat.le_refl _) hb2
      obtain ⟨v0, hv0⟩ := hS2.there (j := k * 2) (by omega)
      obtain ⟨v1, hv1⟩ := hS2.there (j := k * 2 + 1) (by omega)
      have hf := hS2.free
      have hN := hS2.step hlt
      have HN : Hid (SlabP _ _ _ _ (k + 1)) := hN
      clear hc0 hc1 hb2 hlb hSk hbl hS2 hN hS hB1
      go_wp2
      go_roundw
      case rel => exact ⟨k + 1, by omega, by go_num, HN.out, (hB2.setCell (p := ⟨w.heap.size, k * 2, none⟩) (Nat.le_refl _) _).setCell (p := ⟨w.heap.size, k * 2 + 1, none⟩) (Nat.le_refl _) _⟩
      case measure => simp [intOf]; omega
    · obtain rfl : k = len := by omega
      go_wp2
      go_ret
      exact ⟨_, rfl, Nat.le_refl _, hSk, hbl⟩
end Go.Proofs.YtgfgaiimigchkaaDoor
