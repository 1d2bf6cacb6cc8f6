/- Lists of numbers and of held pages: read, copied, compared (stage 4). -/
import Derived.Test.YtaklphoplfofbaaBase
namespace Go.Proofs.Ytaklphoplfofbaa
open Go.RowKit

/-- A held page: its number, its epoch. -/
abbrev P2 : Type := Int × Int
def nthI (ss : List Int) (i : Nat) : Int := ss.getD i 0
def nthP (ps : List P2) (i : Nat) : P2 := ps.getD i (0, 0)
abbrev CellP (w : World) (b o : Nat) (p : P2) : Prop := w.cell? ⟨b, o, none⟩ = some (.int .i64 p.1) ∧ w.cell? ⟨b, o + 1, none⟩ = some (.int .i64 p.2)
/-- The numbers ss can be read at a. -/
def RowI (w : World) (a : Option Addr) (ss : List Int) : Prop :=
  ∀ i, i < ss.length → ∃ b off, a = some ⟨b, off, none⟩ ∧ b < w.heap.size ∧ w.cell? ⟨b, off + i, none⟩ = some (.int .i64 (nthI ss i))
/-- The held pages ps can be read at a. -/
def RowP (w : World) (a : Option Addr) (ps : List P2) : Prop :=
  ∀ i, i < ps.length → ∃ b off, a = some ⟨b, off, none⟩ ∧ b < w.heap.size ∧ CellP w b (off + i * 2) (nthP ps i)
theorem RowI.belowB {w w' : World} {a : Option Addr} {ss : List Int} (h : RowI w a ss) (hb : Below w.heap.size w w') : RowI w' a ss := fun i hi => by
  obtain ⟨b, off, e, hlt, hc⟩ := h i hi
  exact ⟨b, off, e, Nat.lt_of_lt_of_le hlt hb.size, (hb.cell (p := ⟨b, off + i, none⟩) hlt).trans hc⟩
theorem RowI.below {w w' : World} {a : Option Addr} {ss : List Int} (h : RowI w a ss) (hb : Below w.heap.size w w') : RowI w' a ss := h.belowB hb
theorem RowP.below {w w' : World} {a : Option Addr} {ps : List P2} (h : RowP w a ps) (hb : Below w.heap.size w w') : RowP w' a ps := fun i hi => by
  obtain ⟨b, off, e, hlt, hc⟩ := h i hi
  exact ⟨b, off, e, Nat.lt_of_lt_of_le hlt hb.size, (hb.cell (p := ⟨b, off + i * 2, none⟩) hlt).trans hc.1, (hb.cell (p := ⟨b, off + i * 2 + 1, none⟩) hlt).trans hc.2⟩
abbrev PV (p : P2) : Value := .agg #[.int .i64 p.1, .int .i64 p.2]
theorem info3 : (Try.prog.info? 3).map (fun i => (i.zero, i.size, i.bytes)) = some (some (.int .i64 0), 1, 8) := by kernel_rfl
theorem info88 : (Try.prog.info? 88).map (fun i => (i.zero, i.size, i.bytes)) = some (some (.agg #[.int .i64 0, .int .i64 0]), 2, 16) := by kernel_rfl

/-- A block of the call's own of n numbers, of which the first k are those of ss. -/
def SlabI (w : World) (g n : Nat) (ss : List Int) (k : Nat) : Prop :=
  ∃ cur, w.heap[g]? = some (.cells cur 3 (0, 0)) ∧ cur.size = n ∧ ∀ i, i < k → cur[i]? = some (.int .i64 (nthI ss i))
theorem SlabI.below {w w' : World} {g n k B : Nat} {ss : List Int} (h : SlabI w g n ss k) (hb : Below B w w') (hg : g < B) : SlabI w' g n ss k := by
  obtain ⟨cur, hh, r⟩ := h
  exact ⟨cur, (hb.block g hg).trans hh, r⟩
theorem SlabI.lt {w : World} {g n k : Nat} {ss : List Int} (h : SlabI w g n ss k) : g < w.heap.size := by
  obtain ⟨cur, hh, _⟩ := h
  exact slab_lt hh
theorem SlabI.step {w : World} {g n k : Nat} {ss : List Int} (h : SlabI w g n ss k) (hk : k < n) : SlabI (w.setCell ⟨g, k, none⟩ (.int .i64 (nthI ss k))) g n ss (k + 1) := by
  obtain ⟨cur, hh, hs, hc⟩ := h
  refine ⟨_, slab_set hh _, by simpa using hs, fun i hi => ?_⟩
  by_cases e : i = k
  · subst e
    rw [Array.getElem?_setIfInBounds_self_of_lt (by omega)]
  · rw [Array.getElem?_setIfInBounds_ne (by omega)]; exact hc i (by omega)
theorem SlabI.there {w : World} {g n k j : Nat} {ss : List Int} (h : SlabI w g n ss k) (hj : j < n) : ∃ v, w.cell? ⟨g, j, none⟩ = some v := by
  obtain ⟨cur, hh, hs, _⟩ := h
  exact ⟨cur[j]'(by omega), by rw [slab_cell hh]; exact Array.getElem?_eq_getElem _⟩
theorem SlabI.free {w : World} {g n k : Nat} {ss : List Int} (h : SlabI w g n ss k) (o : Nat) : w.frozen? ⟨g, o, none⟩ = false := by
  obtain ⟨cur, hh, _⟩ := h
  exact slab_free hh
theorem SlabI.row {w : World} {g : Nat} {ss : List Int} (h : SlabI w g ss.length ss ss.length) : RowI w (some ⟨g, 0, none⟩) ss := fun i hi => by
  have hl := h.lt
  obtain ⟨cur, hh, _, hc⟩ := h
  exact ⟨g, 0, rfl, hl, by rw [slab_cell hh, Nat.zero_add]; exact hc i hi⟩
/-- The same of held pages. -/
def SlabP (w : World) (g n : Nat) (ps : List P2) (k : Nat) : Prop :=
  ∃ cur, w.heap[g]? = some (.cells cur 88 (0, 0)) ∧ cur.size = n * 2 ∧ ∀ i, i < k → cur[i * 2]? = some (.int .i64 (nthP ps i).1) ∧ cur[i * 2 + 1]? = some (.int .i64 (nthP ps i).2)
theorem SlabP.below {w w' : World} {g n k B : Nat} {ps : List P2} (h : SlabP w g n ps k) (hb : Below B w w') (hg : g < B) : SlabP w' g n ps k := by
  obtain ⟨cur, hh, r⟩ := h
  exact ⟨cur, (hb.block g hg).trans hh, r⟩
theorem SlabP.lt {w : World} {g n k : Nat} {ps : List P2} (h : SlabP w g n ps k) : g < w.heap.size := by
  obtain ⟨cur, hh, _⟩ := h
  exact slab_lt hh
theorem SlabP.step {w : World} {g n k : Nat} {ps : List P2} (h : SlabP w g n ps k) (hk : k < n) :
    SlabP ((w.setCell ⟨g, k * 2, none⟩ (.int .i64 (nthP ps k).1)).setCell ⟨g, k * 2 + 1, none⟩ (.int .i64 (nthP ps k).2)) g n ps (k + 1) := by
  obtain ⟨cur, hh, hs, hc⟩ := h
  refine ⟨_, slab_set (slab_set hh _) _, by simpa using hs, fun i hi => ?_⟩
  by_cases e : i = k
  · subst e
    refine ⟨?_, ?_⟩
    · rw [Array.getElem?_setIfInBounds_ne (by omega), Array.getElem?_setIfInBounds_self_of_lt (by omega)]
    · rw [Array.getElem?_setIfInBounds_self_of_lt (by simp; omega)]
  · have := hc i (by omega)
    refine ⟨?_, ?_⟩
    · rw [Array.getElem?_setIfInBounds_ne (by omega), Array.getElem?_setIfInBounds_ne (by omega)]; exact this.1
    · rw [Array.getElem?_setIfInBounds_ne (by omega), Array.getElem?_setIfInBounds_ne (by omega)]; exact this.2
theorem SlabP.there {w : World} {g n k j : Nat} {ps : List P2} (h : SlabP w g n ps k) (hj : j < n * 2) : ∃ v, w.cell? ⟨g, j, none⟩ = some v := by
  obtain ⟨cur, hh, hs, _⟩ := h
  exact ⟨cur[j]'(by omega), by rw [slab_cell hh]; exact Array.getElem?_eq_getElem _⟩
theorem SlabP.free {w : World} {g n k : Nat} {ps : List P2} (h : SlabP w g n ps k) (o : Nat) : w.frozen? ⟨g, o, none⟩ = false := by
  obtain ⟨cur, hh, _⟩ := h
  exact slab_free hh
theorem SlabP.row {w : World} {g : Nat} {ps : List P2} (h : SlabP w g ps.length ps ps.length) : RowP w (some ⟨g, 0, none⟩) ps := fun i hi => by
  have hl := h.lt
  obtain ⟨cur, hh, _, hc⟩ := h
  have := hc i hi
  refine ⟨g, 0, rfl, hl, ⟨?_, ?_⟩⟩
  · rw [slab_cell hh, Nat.zero_add]; exact this.1
  · rw [slab_cell hh, Nat.zero_add]; exact this.2
set_option maxHeartbeats 1000000 in
theorem toI_any (a : Option Addr) (cap : Nat) (ss : List Int) (w : World) (hrow : RowI w a ss) (hlen : ss.length ≤ 1048576) :
    Calls Try.prog 57 #[.slice a ss.length cap] w fun e w' => ∃ g, e = .returned (.slice (some ⟨g, 0, none⟩) ss.length ss.length) ∧ w.heap.size ≤ g ∧ SlabI w' g ss.length ss ss.length ∧ Below w.heap.size w w' := by
  have HR : Hid (RowI w a ss) := hrow
  clear hrow
  generalize hL : ss.length = len at *
  have HL : Hid (ss.length = len) := hL
  clear hL
  obtain ⟨i0, hi, hz0, hz1, hz2⟩ := info_parts info3
  go_enter Try.func57, Try.ntmps57
  go_wp2_with (at_make; refine wpList_make_full _ rfl _ _ 26 rfl w.heap.size 3 i0 _ 1 Try.underlying26 hi hz0 hz1 .i64 .i64 _ _ len rfl rfl rfl rfl ?m1 ?m2 (Nat.le_refl _) ?_)
  case m1 => rw [hz2]; omega
  case m2 => unfold maxLen; omega
  intro w1 hown hgr
  have hB1 : Below w.heap.size w w1 := (Below.refl _ _).grown hgr (Nat.le_refl _) (fun k hk => by cases hk)
  have hS : SlabI w1 w.heap.size len ss 0 := by
    rcases hown.2 with ⟨h, _⟩ | ⟨g, c, cur, h, _, hh, _, _, hcs, _⟩
    · cases h
    · cases h
      exact ⟨cur, hh, by simpa using hcs, fun i hi => by omega⟩
  clear hown hgr hi hz0 hz1 hz2
  go_wp2
  go_loopw [4] (fun i wr => ∃ k : Nat, k ≤ len ∧ i = .int .i64 k ∧ SlabI wr w.heap.size len ss k ∧ Below w.heap.size w wr) (fun i _ => len - (intOf i).toNat)
  case atStart => exact ⟨0, by omega, rfl, hS, hB1⟩
  case round =>
    obtain ⟨k, hk, rfl, hSk, hbl⟩ := hrel
    by_cases hlt : k < len
    · obtain ⟨b, off, rfl, hlb, hc0⟩ := (HR.out.below hbl) k (by rw [HL.out]; exact hlt)
      obtain ⟨v0, hv0⟩ := hSk.there (j := k) (by omega)
      have hf := hSk.free
      have HN : Hid (SlabI _ _ _ _ (k + 1)) := hSk.step hlt
      clear hlb hSk hS hB1
      go_wp2
      go_roundw
      case rel => exact ⟨k + 1, by omega, by go_num, HN.out, hbl.setCell (p := ⟨w.heap.size, k, none⟩) (Nat.le_refl _) _⟩
      case measure => simp [intOf]; omega
    · obtain rfl : k = len := by omega
      go_wp2
      go_ret
      exact ⟨_, rfl, Nat.le_refl _, hSk, hbl⟩

theorem toHeld_any (p : P2) (w : World) :
    Calls Try.prog 70 #[PV p] w fun e w' => e = .returned (PV p) ∧ Below w.heap.size w w' := by
  obtain ⟨n, t⟩ := p
  go_enter Try.func70, Try.ntmps70
  go_wp2
  exact bodyPost_ret (v := PV (n, t)) (by simp [results, Try.results70, go_sem]) rfl ⟨rfl, (((Below.refl _ _).alloc (Nat.le_refl _) _).alloc (by simp) _).alloc (by simp; omega) _⟩

set_option maxHeartbeats 1000000 in
theorem toP_any (a : Option Addr) (cap : Nat) (ps : List P2) (w : World) (hrow : RowP w a ps) (hlen : ps.length ≤ 1048576) :
    Calls Try.prog 58 #[.slice a ps.length cap] w fun e w' => ∃ g, e = .returned (.slice (some ⟨g, 0, none⟩) ps.length ps.length) ∧ w.heap.size ≤ g ∧ SlabP w' g ps.length ps ps.length ∧ Below w.heap.size w w' := by
  have HR : Hid (RowP w a ps) := hrow
  clear hrow
  generalize hL : ps.length = len at *
  have HL : Hid (ps.length = len) := hL
  clear hL
  obtain ⟨i0, hi, hz0, hz1, hz2⟩ := info_parts info88
  go_enter Try.func58, Try.ntmps58
  go_wp2_with (at_make; refine wpList_make_full _ rfl _ _ 27 rfl w.heap.size 88 i0 _ 2 Try.underlying27 hi hz0 hz1 .i64 .i64 _ _ len rfl rfl rfl rfl ?m1 ?m2 (Nat.le_refl _) ?_)
  case m1 => rw [hz2]; omega
  case m2 => unfold maxLen; omega
  intro w1 hown hgr
  have hB1 : Below w.heap.size w w1 := (Below.refl _ _).grown hgr (Nat.le_refl _) (fun k hk => by cases hk)
  have hS : SlabP w1 w.heap.size len ps 0 := by
    rcases hown.2 with ⟨h, _⟩ | ⟨g, c, cur, h, _, hh, _, _, hcs, _⟩
    · cases h
    · cases h
      exact ⟨cur, hh, hcs, fun i hi => by omega⟩
  clear hown hgr hi hz0 hz1 hz2
  go_wp2
  go_loopw [4] (fun i wr => ∃ k : Nat, k ≤ len ∧ i = .int .i64 k ∧ SlabP wr w.heap.size len ps k ∧ Below w.heap.size w wr) (fun i _ => len - (intOf i).toNat)
  case atStart => exact ⟨0, by omega, rfl, hS, hB1⟩
  case round =>
    obtain ⟨k, hk, rfl, hSk, hbl⟩ := hrel
    by_cases hlt : k < len
    · obtain ⟨b, off, rfl, hlb, ⟨hc0, hc1⟩⟩ := (HR.out.below hbl) k (by rw [HL.out]; exact hlt)
      go_wp2_with fail
      refine (toHeld_any (nthP ps k) _).mono ?_
      rintro e w2 ⟨rfl, hb2⟩
      have hS2 := hSk.below hb2 hSk.lt
      have hB2 := below_step hbl (Nat.le_refl _) hb2
      obtain ⟨v0, hv0⟩ := hS2.there (j := k * 2) (by omega)
      obtain ⟨v1, hv1⟩ := hS2.there (j := k * 2 + 1) (by omega)
      have hf := hS2.free
      have hN := hS2.step hlt
      have HN : Hid (SlabP _ _ _ _ (k + 1)) := hN
      clear hc0 hc1 hb2 hlb hSk hbl hS2 hN hS hB1
      go_wp2
      go_roundw
      case rel => exact ⟨k + 1, by omega, by go_num, HN.out, (hB2.setCell (p := ⟨w.heap.size, k * 2, none⟩) (Nat.le_refl _) _).setCell (p := ⟨w.heap.size, k * 2 + 1, none⟩) (Nat.le_refl _) _⟩
      case measure => simp [intOf]; omega
    · obtain rfl : k = len := by omega
      go_wp2
      go_ret
      exact ⟨_, rfl, Nat.le_refl _, hSk, hbl⟩
end Go.Proofs.Ytaklphoplfofbaa
