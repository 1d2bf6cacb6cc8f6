/- Lists of columns: measured, copied, compared (stage 11). -/
import Derived.Test.YteejkmcljokloaaGreatDoorBase
import Derived.Deep.RegionHeld3
namespace Go.Proofs.YteejkmcljokloaaGreatDoor
open Go.RowKit

/-- A column. -/
abbrev TC : Type := ByteArray × Int × Bool
def nthC (ss : List TC) (i : Nat) : TC := ss.getD i (⟨#[]⟩, 0, false)
abbrev ValC (x : TC) : Value := .agg #[.string (x.1), .int .i64 (x.2.1), .bool (x.2.2)]
abbrev CellC (w : World) (b o : Nat) (x : TC) : Prop := w.cell? ⟨b, o, none⟩ = some (.string x.1) ∧ w.cell? ⟨b, o + 1, none⟩ = some (.int .i64 x.2.1) ∧ w.cell? ⟨b, o + 2, none⟩ = some (.bool x.2.2)
theorem CellC.below {w w' : World} {b o : Nat} {x : TC} (h : CellC w b o x) (hl : b < w.heap.size) (hb : Below w.heap.size w w') : CellC w' b o x := ⟨(hb.cell (p := ⟨b, o, none⟩) hl).trans h.1, (hb.cell (p := ⟨b, o + 1, none⟩) hl).trans h.2.1, (hb.cell (p := ⟨b, o + 2, none⟩) hl).trans h.2.2⟩
/-- The columns ss can be read at a. -/
def RowC (w : World) (a : Option Addr) (ss : List TC) : Prop := ∀ i, i < ss.length → ∃ b off, a = some ⟨b, off, none⟩ ∧ b < w.heap.size ∧ CellC w b (off + i * 3) (nthC ss i) ∧ ((nthC ss i).1).size ≤ maxLen
theorem RowC.below {w w' : World} {a : Option Addr} {ss : List TC} (h : RowC w a ss) (hb : Below w.heap.size w w') : RowC w' a ss := fun i hi => by
  obtain ⟨b, off, e, hlt, hc, hs⟩ := h i hi
  exact ⟨b, off, e, Nat.lt_of_lt_of_le hlt hb.size, hc.below hlt hb, hs⟩
/-- Its text is short. -/
def SmallC (x : TC) : Prop := (x.1).size ≤ 1048576

set_option maxRecDepth 100000 in
theorem szC1_any (x : TC) (left : Int) (w : World) (hs : (x.1).size ≤ maxLen) (h0 : 0 ≤ left) (h1 : left ≤ 1048576) :
    Calls Tryz.prog 58 #[ValC x, .int .i64 left] w fun e w' => ∃ r : Int, e = .returned (.int .i64 r) ∧ -1 ≤ r ∧ r ≤ left ∧ (0 ≤ r → SmallC x) ∧ Below w.heap.size w w' := by
  obtain ⟨kx, tx, nx⟩ := x
  have hB : Below w.heap.size w (w.alloc (.cells #[.string kx, .int .i64 tx, .bool nx] 107)) := (Below.refl _ _).alloc (Nat.le_refl _) _
  simp only at hs
  unfold maxLen at hs
  by_cases c1 : left - (kx.size : Int) < 0
  · go_enter Tryz.func58, Tryz.ntmps58
    go_wp2
    go_ret
    exact ⟨-1, rfl, by omega, by omega, fun h => by omega, hB⟩
  · have HS : Hid (SmallC (kx, tx, nx)) := (by show _ ≤ _; simp only; omega : SmallC _)
    go_enter Tryz.func58, Tryz.ntmps58
    go_wp2
    go_ret
    exact ⟨left - (kx.size : Int), by go_num, by omega, by omega, fun _ => HS.out, hB⟩

set_option maxRecDepth 100000 in
set_option maxHeartbeats 1000000 in
theorem szC_any (a : Option Addr) (cap : Nat) (ss : List TC) (left : Int) (w : World) (hrow : RowC w a ss) (hlen : ss.length ≤ maxLen) (h0 : 0 ≤ left) (h1 : left ≤ 1048576) :
    Calls Tryz.prog 37 #[.slice a ss.length cap, .int .i64 left] w fun e w' => ∃ r : Int, e = .returned (.int .i64 r) ∧ -1 ≤ r ∧ r ≤ left ∧ (0 ≤ r → (ss.length : Int) ≤ left ∧ ∀ i, i < ss.length → SmallC (nthC ss i)) ∧ Below w.heap.size w w' := by
  unfold maxLen at hlen
  have HR : Hid (RowC w a ss) := hrow
  clear hrow
  generalize hL : ss.length = len at *
  have HL : Hid (ss.length = len) := hL
  clear hL
  by_cases hlt : left - (len : Int) < 0
  · go_enter Tryz.func37, Tryz.ntmps37
    go_wp2
    go_ret
    exact ⟨-1, rfl, by omega, by omega, fun h => by omega, Below.refl _ _⟩
  · go_enter Tryz.func37, Tryz.ntmps37
    go_wp2
    go_loopw [1, 5] (fun l i wr => ∃ (k : Nat) (l' : Int), k ≤ len ∧ i = .int .i64 k ∧ l = .int .i64 l' ∧ 0 ≤ l' ∧ l' ≤ left ∧ Hid (∀ i, i < k → SmallC (nthC ss i)) ∧ Below w.heap.size w wr) (fun _ i _ => len - (intOf i).toNat)
    case atStart => exact ⟨0, _, by omega, rfl, rfl, by omega, by omega, fun i hi => by omega, Below.refl _ _⟩
    case round =>
      obtain ⟨k, l', hk, rfl, rfl, hl0, hl1, HS, hbl⟩ := hrel
      by_cases hlt : k < len
      · obtain ⟨b, off, rfl, hlb, ⟨q0, q1, q2⟩, hsz⟩ := (HR.out.below hbl) k (by rw [HL.out]; exact hlt)
        have HS' : Hid (SmallC (nthC ss k) → ∀ i, i < k + 1 → SmallC (nthC ss i)) := fun h i hi => by
          by_cases e : i = k
          · rw [e]; exact h
          · exact HS.out i (by omega)
        have HZ : Hid (((nthC ss k).1).size ≤ maxLen) := hsz
        clear hsz
        generalize nthC ss k = nd at *
        go_wp2_with fail
        refine (szC1_any nd l' wr HZ.out hl0 (by omega)).mono ?_
        rintro e w1 ⟨r, rfl, r0, r1, r2, hb1⟩
        have hB := below_step hbl (Nat.le_refl _) hb1
        by_cases hneg : r < 0
        · go_wp2
          go_ret
          exact ⟨-1, rfl, by omega, by omega, fun h => by omega, hB⟩
        · have HN : Hid (∀ i, i < k + 1 → SmallC (nthC ss i)) := HS'.out (r2 (by omega))
          clear q0 q1 q2 hb1 hlb r2 HS'
          go_wp2
          go_roundw
          case rel => exact ⟨k + 1, _, by omega, by go_num, rfl, by omega, by omega, HN, hB⟩
          case measure => simp [intOf]; omega
      · obtain rfl : k = len := by omega
        go_wp2
        go_ret
        exact ⟨l', rfl, by omega, by omega, fun _ => ⟨by omega, HS.out⟩, hbl⟩

theorem infoC : (Tryz.prog.info? 101).map (fun i => (i.zero, i.size, i.bytes)) = some (some (.agg #[.string ⟨#[]⟩, .int .i64 0, .bool false]), 3, 32) := by kernel_rfl
/-- A block of the call's own of n columns, of which the first k are those of ss. -/
def SlabC (w : World) (g n : Nat) (ss : List TC) (k : Nat) : Prop :=
  ∃ cur : Array Value, w.heap[g]? = some (.cells cur 101 (0, 0)) ∧ cur.size = n * 3 ∧ ∀ i, i < k → cur[i * 3]? = some (.string (nthC ss i).1) ∧ cur[i * 3 + 1]? = some (.int .i64 (nthC ss i).2.1) ∧ cur[i * 3 + 2]? = some (.bool (nthC ss i).2.2)
theorem SlabC.at {w w' : World} {g n k : Nat} {ss : List TC} (h : SlabC w g n ss k) (e : w'.heap[g]? = w.heap[g]?) : SlabC w' g n ss k := by
  obtain ⟨cur, hh, r⟩ := h
  exact ⟨cur, e.trans hh, r⟩
theorem SlabC.lt {w : World} {g n k : Nat} {ss : List TC} (h : SlabC w g n ss k) : g < w.heap.size := by
  obtain ⟨cur, hh, _⟩ := h
  exact slab_lt hh
theorem SlabC.below {w w' : World} {g n k B : Nat} {ss : List TC} (h : SlabC w g n ss k) (hb : Below B w w') (hg : g < B) : SlabC w' g n ss k := h.at (hb.block g hg)
theorem SlabC.step {w : World} {g n k : Nat} {ss : List TC} (h : SlabC w g n ss k) (hk : k < n) : SlabC (((w.setCell ⟨g, k * 3, none⟩ (.string (nthC ss k).1)).setCell ⟨g, k * 3 + 1, none⟩ (.int .i64 (nthC ss k).2.1)).setCell ⟨g, k * 3 + 2, none⟩ (.bool (nthC ss k).2.2)) g n ss (k + 1) := by
  obtain ⟨cur, hh, hs, hc⟩ := h
  refine ⟨_, (slab_set (slab_set (slab_set hh _) _) _), by simpa using hs, fun i hi => ?_⟩
  by_cases e : i = k
  · subst e
    refine ⟨?_, ?_, ?_⟩
    · rw [Array.getElem?_setIfInBounds_ne (by omega), Array.getElem?_setIfInBounds_ne (by omega), Array.getElem?_setIfInBounds_self_of_lt (by first | omega | (simp; omega))]
    · rw [Array.getElem?_setIfInBounds_ne (by omega), Array.getElem?_setIfInBounds_self_of_lt (by first | omega | (simp; omega))]
    · rw [Array.getElem?_setIfInBounds_self_of_lt (by first | omega | (simp; omega))]
  · have := hc i (by omega)
    refine ⟨?_, ?_, ?_⟩
    · rw [Array.getElem?_setIfInBounds_ne (by omega), Array.getElem?_setIfInBounds_ne (by omega), Array.getElem?_setIfInBounds_ne (by omega)]; exact this.1
    · rw [Array.getElem?_setIfInBounds_ne (by omega), Array.getElem?_setIfInBounds_ne (by omega), Array.getElem?_setIfInBounds_ne (by omega)]; exact this.2.1
    · rw [Array.getElem?_setIfInBounds_ne (by omega), Array.getElem?_setIfInBounds_ne (by omega), Array.getElem?_setIfInBounds_ne (by omega)]; exact this.2.2
theorem SlabC.there {w : World} {g n k j : Nat} {ss : List TC} (h : SlabC w g n ss k) (hj : j < n * 3) : ∃ v, w.cell? ⟨g, j, none⟩ = some v := by
  obtain ⟨cur, hh, hs, _⟩ := h
  exact ⟨cur[j]'(by omega), by rw [slab_cell hh]; exact Array.getElem?_eq_getElem _⟩
theorem SlabC.free {w : World} {g n k : Nat} {ss : List TC} (h : SlabC w g n ss k) (o : Nat) : w.frozen? ⟨g, o, none⟩ = false := by
  obtain ⟨cur, hh, _⟩ := h
  exact slab_free hh
theorem SlabC.row {w : World} {g : Nat} {ss : List TC} (h : SlabC w g ss.length ss ss.length) (hz : ∀ i, i < ss.length → SmallC (nthC ss i)) : RowC w (some ⟨g, 0, none⟩) ss := fun i hi => by
  have hl := h.lt
  obtain ⟨cur, hh, _, hc⟩ := h
  have := hc i hi
  have hz' := hz i hi
  unfold SmallC at hz'
  refine ⟨g, 0, rfl, hl, ⟨?_, ?_, ?_⟩, by unfold maxLen; omega⟩
  · rw [slab_cell hh, Nat.zero_add]; exact this.1
  · rw [slab_cell hh, Nat.zero_add]; exact this.2.1
  · rw [slab_cell hh, Nat.zero_add]; exact this.2.2

set_option maxRecDepth 100000 in
theorem toC1_any (x : TC) (w : World) : Calls Tryz.prog 69 #[ValC x] w fun e w' => e = .returned (ValC x) ∧ Below w.heap.size w w' := by
  obtain ⟨kx, tx, nx⟩ := x
  go_enter Tryz.func69, Tryz.ntmps69
  go_wp2
  exact bodyPost_ret (v := .agg #[.string kx, .int .i64 tx, .bool nx]) (by simp [results, Tryz.results69, go_sem]) rfl ⟨rfl, (((Below.refl _ _).alloc (Nat.le_refl _) _).alloc (by simp) _).alloc (by simp; omega) _⟩

set_option maxRecDepth 100000 in
set_option maxHeartbeats 2000000 in
theorem toC_any (a : Option Addr) (cap : Nat) (ss : List TC) (w : World) (hrow : RowC w a ss) (hlen : ss.length ≤ 1048576) :
    Calls Tryz.prog 48 #[.slice a ss.length cap] w fun e w' => ∃ g, e = .returned (.slice (some ⟨g, 0, none⟩) ss.length ss.length) ∧ w.heap.size ≤ g ∧ SlabC w' g ss.length ss ss.length ∧ Below w.heap.size w w' := by
  have HR : Hid (RowC w a ss) := hrow
  clear hrow
  generalize hL : ss.length = len at *
  have HL : Hid (ss.length = len) := hL
  clear hL
  obtain ⟨i0, hi, hz0, hz1, hz2⟩ := info_parts infoC
  go_enter Tryz.func48, Tryz.ntmps48
  go_wp2_with (at_make; refine wpList_make_full _ rfl _ _ 56 rfl w.heap.size 101 i0 _ 3 Tryz.underlying56 hi hz0 hz1 .i64 .i64 _ _ len rfl rfl rfl rfl ?m1 ?m2 (Nat.le_refl _) ?_)
  case m1 => rw [hz2]; omega
  case m2 => unfold maxLen; omega
  intro w1 hown hgr
  have hB1 : Below w.heap.size w w1 := (Below.refl _ _).grown hgr (Nat.le_refl _) (fun k hk => by cases hk)
  have hS : SlabC w1 w.heap.size len ss 0 := by
    rcases hown.2 with ⟨h, _⟩ | ⟨g, c, cur, h, _, hh, _, _, hcs, _⟩
    · cases h
    · cases h
      exact ⟨cur, hh, hcs, fun i hi => by omega⟩
  clear hown hgr hi hz0 hz1 hz2
  go_wp2
  go_loopw [4] (fun i wr => ∃ k : Nat, k ≤ len ∧ i = .int .i64 k ∧ SlabC wr w.heap.size len ss k ∧ Below w.heap.size w wr) (fun i _ => len - (intOf i).toNat)
  case atStart => exact ⟨0, by omega, rfl, hS, hB1⟩
  case round =>
    obtain ⟨k, hk, rfl, hSk, hbl⟩ := hrel
    by_cases hlt : k < len
    · obtain ⟨b, off, rfl, hlb, ⟨q0, q1, q2⟩, _⟩ := (HR.out.below hbl) k (by rw [HL.out]; exact hlt)
      go_wp2_with fail
      refine (toC1_any (nthC ss k) _).mono ?_
      rintro e w2 ⟨rfl, hb2⟩
      have hS2 := hSk.below hb2 hSk.lt
      have hB2 := below_step hbl (Nat.le_refl _) hb2
      obtain ⟨v0, hv0⟩ := hS2.there (j := k * 3) (by omega)
      obtain ⟨v1, hv1⟩ := hS2.there (j := k * 3 + 1) (by omega)
      obtain ⟨v2, hv2⟩ := hS2.there (j := k * 3 + 2) (by omega)
      have hf := hS2.free
      have hN := hS2.step hlt
      have HN : Hid (SlabC _ _ _ _ (k + 1)) := hN
      clear q0 q1 q2 hb2 hlb hSk hbl hS2 hN hS hB1
      go_wp2
      go_roundw
      case rel => exact ⟨k + 1, by omega, by go_num, HN.out, (((hB2.setCell (p := ⟨w.heap.size, k * 3, none⟩) (Nat.le_refl _) _).setCell (p := ⟨w.heap.size, k * 3 + 1, none⟩) (Nat.le_refl _) _).setCell (p := ⟨w.heap.size, k * 3 + 2, none⟩) (Nat.le_refl _) _)⟩
      case measure => simp [intOf]; omega
    · obtain rfl : k = len := by omega
      go_wp2
      go_ret
      exact ⟨_, rfl, Nat.le_refl _, hSk, hbl⟩

set_option maxRecDepth 100000 in
theorem eqC1_same (x : TC) (w : World) : Calls Tryz.prog 85 #[ValC x, ValC x] w fun e w' => e = .returned (.bool true) ∧ Below w.heap.size w w' := by
  obtain ⟨kx, tx, nx⟩ := x
  go_enter Tryz.func85, Tryz.ntmps85
  go_wp2
  go_ret
  exact ⟨rfl, ((Below.refl _ _).alloc (Nat.le_refl _) _).alloc (by simp) _⟩
abbrev PairC (w : World) (b1 o1 b2 o2 : Nat) (x : TC) (w' : World) : Prop := CellC w' b1 o1 x ∧ CellC w' b2 o2 x ∧ b1 < w'.heap.size ∧ b2 < w'.heap.size ∧ Below w.heap.size w w'
theorem PairC.keep {w : World} {b1 o1 b2 o2 : Nat} {x : TC} {w1 w2 : World} (h : PairC w b1 o1 b2 o2 x w1) (hb : Below w1.heap.size w1 w2) : PairC w b1 o1 b2 o2 x w2 := ⟨h.1.below h.2.2.1 hb, h.2.1.below h.2.2.2.1 hb, Nat.lt_of_lt_of_le h.2.2.1 hb.size, Nat.lt_of_lt_of_le h.2.2.2.1 hb.size, below_step h.2.2.2.2 (Nat.le_refl _) hb⟩
set_option maxRecDepth 100000 in
set_option maxHeartbeats 2000000 in
theorem eqC_same (a1 a2 : Option Addr) (c1 c2 : Nat) (ss : List TC) (w : World) (h1 : RowC w a1 ss) (h2 : RowC w a2 ss) (hlen : ss.length ≤ 1048576) :
    Calls Tryz.prog 55 #[.slice a1 ss.length c1, .slice a2 ss.length c2] w fun e w' => e = .returned (.bool true) ∧ Below w.heap.size w w' := by
  have H1 : Hid (RowC w a1 ss) := h1
  have H2 : Hid (RowC w a2 ss) := h2
  clear h1 h2
  generalize hL : ss.length = len at *
  have HL : Hid (ss.length = len) := hL
  clear hL
  go_enter Tryz.func55, Tryz.ntmps55
  go_wp2
  go_loopw [5] (fun i wr => ∃ k : Nat, k ≤ len ∧ i = .int .i64 k ∧ Below w.heap.size w wr) (fun i _ => len - (intOf i).toNat)
  case atStart => exact ⟨0, by omega, rfl, Below.refl _ _⟩
  case round =>
    obtain ⟨k, hk, rfl, hbl⟩ := hrel
    by_cases hlt : k < len
    · obtain ⟨b1, o1, rfl, hlb1, hc1, _⟩ := (H1.out.below hbl) k (by rw [HL.out]; exact hlt)
      obtain ⟨b2, o2, rfl, hlb2, hc2, _⟩ := (H2.out.below hbl) k (by rw [HL.out]; exact hlt)
      generalize nthC ss k = x at *
      have hP : PairC w b1 (o1 + k * 3) b2 (o2 + k * 3) x wr.drew := ⟨hc1, hc2, hlb1, hlb2, hbl.drew⟩
      have hltI : (k : Int) < (len : Int) := by omega
      clear hc1 hc2
      obtain ⟨kx, tx, nx⟩ := x
      go_wp2_with fail
      go_region_held3 (PairC w b1 (o1 + k * 3) b2 (o2 + k * 3) (kx, tx, nx)) (first | exact hP | exact PairC.keep (by assumption) hb) (first | (go_at_call 85; refine (eqC1_same (kx, tx, nx) _).mono ?_; rintro e wA ⟨rfl, hb⟩) | fail)
      rename_i hPL
      have hB := hPL.2.2.2.2
      clear hP hPL
      go_wp2
      go_roundw
      case rel => exact ⟨k + 1, by omega, by go_num, hB⟩
      case measure => simp [intOf]; omega
    · go_wp2
      go_ret
      exact ⟨rfl, hbl⟩
end Go.Proofs.YteejkmcljokloaaGreatDoor
