/- Lists of entries: measured, copied, compared (stage 15). -/
import Derived.Test.YtepkdodicglilaaGreatInA
import Derived.Deep.RegionHeld3
namespace Go.Proofs.YtepkdodicglilaaGreat
open Go.RowKit

/-- A entry. -/
abbrev TY : Type := ByteArray × ByteArray
def nthY (ss : List TY) (i : Nat) : TY := ss.getD i (⟨#[]⟩, ⟨#[]⟩)
abbrev ValY (x : TY) : Value := .agg #[.string (x.1), .string (x.2)]
abbrev CellY (w : World) (b o : Nat) (x : TY) : Prop := w.cell? ⟨b, o, none⟩ = some (.string x.1) ∧ w.cell? ⟨b, o + 1, none⟩ = some (.string x.2)
theorem CellY.below {w w' : World} {b o : Nat} {x : TY} (h : CellY w b o x) (hl : b < w.heap.size) (hb : Below w.heap.size w w') : CellY w' b o x := ⟨(hb.cell (p := ⟨b, o, none⟩) hl).trans h.1, (hb.cell (p := ⟨b, o + 1, none⟩) hl).trans h.2⟩
/-- The entrys ss can be read at a. -/
def RowY (w : World) (a : Option Addr) (ss : List TY) : Prop := ∀ i, i < ss.length → ∃ b off, a = some ⟨b, off, none⟩ ∧ b < w.heap.size ∧ CellY w b (off + i * 2) (nthY ss i) ∧ ((nthY ss i).1).size ≤ maxLen ∧ ((nthY ss i).2).size ≤ maxLen
theorem RowY.below {w w' : World} {a : Option Addr} {ss : List TY} (h : RowY w a ss) (hb : Below w.heap.size w w') : RowY w' a ss := fun i hi => by
  obtain ⟨b, off, e, hlt, hc, hs⟩ := h i hi
  exact ⟨b, off, e, Nat.lt_of_lt_of_le hlt hb.size, hc.below hlt hb, hs⟩
/-- Its texts are short. -/
def SmallY (x : TY) : Prop := (x.1).size ≤ 1048576 ∧ (x.2).size ≤ 1048576

set_option maxRecDepth 100000 in
theorem szY1_any (x : TY) (left : Int) (w : World) (hs : (x.1).size ≤ maxLen ∧ (x.2).size ≤ maxLen) (h0 : 0 ≤ left) (h1 : left ≤ 1048576) :
    Calls Tryz.prog 56 #[ValY x, .int .i64 left] w fun e w' => ∃ r : Int, e = .returned (.int .i64 r) ∧ -1 ≤ r ∧ r ≤ left ∧ (0 ≤ r → SmallY x) ∧ Below w.heap.size w w' := by
  obtain ⟨kx, vx⟩ := x
  have hB : Below w.heap.size w (w.alloc (.cells #[.string kx, .string vx] 106)) := (Below.refl _ _).alloc (Nat.le_refl _) _
  simp only at hs
  unfold maxLen at hs
  obtain ⟨hs1, hs2⟩ := hs
  by_cases c1 : left - (kx.size : Int) < 0
  · go_enter Tryz.func56, Tryz.ntmps56
    go_wp2
    go_ret
    exact ⟨-1, rfl, by omega, by omega, fun h => by omega, hB⟩
  · by_cases c2 : left - (kx.size : Int) - (vx.size : Int) < 0
    · go_enter Tryz.func56, Tryz.ntmps56
      go_wp2
      go_ret
      exact ⟨-1, rfl, by omega, by omega, fun h => by omega, hB⟩
    · have HS : Hid (SmallY (kx, vx)) := (by show _ ∧ _; simp only; omega : SmallY _)
      go_enter Tryz.func56, Tryz.ntmps56
      go_wp2
      go_ret
      exact ⟨left - (kx.size : Int) - (vx.size : Int), by go_num, by omega, by omega, fun _ => HS.out, hB⟩

set_option maxRecDepth 100000 in
set_option maxHeartbeats 1000000 in
theorem szY_any (a : Option Addr) (cap : Nat) (ss : List TY) (left : Int) (w : World) (hrow : RowY w a ss) (hlen : ss.length ≤ maxLen) (h0 : 0 ≤ left) (h1 : left ≤ 1048576) :
    Calls Tryz.prog 31 #[.slice a ss.length cap, .int .i64 left] w fun e w' => ∃ r : Int, e = .returned (.int .i64 r) ∧ -1 ≤ r ∧ r ≤ left ∧ (0 ≤ r → (ss.length : Int) ≤ left ∧ ∀ i, i < ss.length → SmallY (nthY ss i)) ∧ Below w.heap.size w w' := by
  unfold maxLen at hlen
  have HR : Hid (RowY w a ss) := hrow
  clear hrow
  generalize hL : ss.length = len at *
  have HL : Hid (ss.length = len) := hL
  clear hL
  by_cases hlt : left - (len : Int) < 0
  · go_enter Tryz.func31, Tryz.ntmps31
    go_wp2
    go_ret
    exact ⟨-1, rfl, by omega, by omega, fun h => by omega, Below.refl _ _⟩
  · go_enter Tryz.func31, Tryz.ntmps31
    go_wp2
    go_loopw [1, 5] (fun l i wr => ∃ (k : Nat) (l' : Int), k ≤ len ∧ i = .int .i64 k ∧ l = .int .i64 l' ∧ 0 ≤ l' ∧ l' ≤ left ∧ Hid (∀ i, i < k → SmallY (nthY ss i)) ∧ Below w.heap.size w wr) (fun _ i _ => len - (intOf i).toNat)
    case atStart => exact ⟨0, _, by omega, rfl, rfl, by omega, by omega, fun i hi => by omega, Below.refl _ _⟩
    case round =>
      obtain ⟨k, l', hk, rfl, rfl, hl0, hl1, HS, hbl⟩ := hrel
      by_cases hlt : k < len
      · obtain ⟨b, off, rfl, hlb, ⟨q0, q1⟩, hsz⟩ := (HR.out.below hbl) k (by rw [HL.out]; exact hlt)
        have HS' : Hid (SmallY (nthY ss k) → ∀ i, i < k + 1 → SmallY (nthY ss i)) := fun h i hi => by
          by_cases e : i = k
          · rw [e]; exact h
          · exact HS.out i (by omega)
        have HZ : Hid (((nthY ss k).1).size ≤ maxLen ∧ ((nthY ss k).2).size ≤ maxLen) := hsz
        clear hsz
        generalize nthY ss k = nd at *
        go_wp2_with fail
        refine (szY1_any nd l' wr HZ.out hl0 (by omega)).mono ?_
        rintro e w1 ⟨r, rfl, r0, r1, r2, hb1⟩
        have hB := below_step hbl (Nat.le_refl _) hb1
        by_cases hneg : r < 0
        · go_wp2
          go_ret
          exact ⟨-1, rfl, by omega, by omega, fun h => by omega, hB⟩
        · have HN : Hid (∀ i, i < k + 1 → SmallY (nthY ss i)) := HS'.out (r2 (by omega))
          clear q0 q1 hb1 hlb r2 HS'
          go_wp2
          go_roundw
          case rel => exact ⟨k + 1, _, by omega, by go_num, rfl, by omega, by omega, HN, hB⟩
          case measure => simp [intOf]; omega
      · obtain rfl : k = len := by omega
        go_wp2
        go_ret
        exact ⟨l', rfl, by omega, by omega, fun _ => ⟨by omega, HS.out⟩, hbl⟩

theorem info79 : (Tryz.prog.info? 79).map (fun i => (i.zero, i.size, i.bytes)) = some (some (.agg #[.string ⟨#[]⟩, .string ⟨#[]⟩]), 2, 32) := by kernel_rfl
/-- A block of the call's own of n entrys, of which the first k are those of ss. -/
def SlabY (w : World) (g n : Nat) (ss : List TY) (k : Nat) : Prop :=
  ∃ cur : Array Value, w.heap[g]? = some (.cells cur 79 (0, 0)) ∧ cur.size = n * 2 ∧ ∀ i, i < k → cur[i * 2]? = some (.string (nthY ss i).1) ∧ cur[i * 2 + 1]? = some (.string (nthY ss i).2)
theorem SlabY.at {w w' : World} {g n k : Nat} {ss : List TY} (h : SlabY w g n ss k) (e : w'.heap[g]? = w.heap[g]?) : SlabY w' g n ss k := by
  obtain ⟨cur, hh, r⟩ := h
  exact ⟨cur, e.trans hh, r⟩
theorem SlabY.lt {w : World} {g n k : Nat} {ss : List TY} (h : SlabY w g n ss k) : g < w.heap.size := by
  obtain ⟨cur, hh, _⟩ := h
  exact slab_lt hh
theorem SlabY.below {w w' : World} {g n k B : Nat} {ss : List TY} (h : SlabY w g n ss k) (hb : Below B w w') (hg : g < B) : SlabY w' g n ss k := h.at (hb.block g hg)
theorem SlabY.step {w : World} {g n k : Nat} {ss : List TY} (h : SlabY w g n ss k) (hk : k < n) : SlabY ((w.setCell ⟨g, k * 2, none⟩ (.string (nthY ss k).1)).setCell ⟨g, k * 2 + 1, none⟩ (.string (nthY ss k).2)) g n ss (k + 1) := by
  obtain ⟨cur, hh, hs, hc⟩ := h
  refine ⟨_, (slab_set (slab_set hh _) _), by simpa using hs, fun i hi => ?_⟩
  by_cases e : i = k
  · subst e
    refine ⟨?_, ?_⟩
    · rw [Array.getElem?_setIfInBounds_ne (by omega), Array.getElem?_setIfInBounds_self_of_lt (by first | omega | (simp; omega))]
    · rw [Array.getElem?_setIfInBounds_self_of_lt (by first | omega | (simp; omega))]
  · have := hc i (by omega)
    refine ⟨?_, ?_⟩
    · rw [Array.getElem?_setIfInBounds_ne (by omega), Array.getElem?_setIfInBounds_ne (by omega)]; exact this.1
    · rw [Array.getElem?_setIfInBounds_ne (by omega), Array.getElem?_setIfInBounds_ne (by omega)]; exact this.2
theorem SlabY.there {w : World} {g n k j : Nat} {ss : List TY} (h : SlabY w g n ss k) (hj : j < n * 2) : ∃ v, w.cell? ⟨g, j, none⟩ = some v := by
  obtain ⟨cur, hh, hs, _⟩ := h
  exact ⟨cur[j]'(by omega), by rw [slab_cell hh]; exact Array.getElem?_eq_getElem _⟩
theorem SlabY.free {w : World} {g n k : Nat} {ss : List TY} (h : SlabY w g n ss k) (o : Nat) : w.frozen? ⟨g, o, none⟩ = false := by
  obtain ⟨cur, hh, _⟩ := h
  exact slab_free hh
theorem SlabY.row {w : World} {g : Nat} {ss : List TY} (h : SlabY w g ss.length ss ss.length) (hz : ∀ i, i < ss.length → SmallY (nthY ss i)) : RowY w (some ⟨g, 0, none⟩) ss := fun i hi => by
  have hl := h.lt
  obtain ⟨cur, hh, _, hc⟩ := h
  have := hc i hi
  have hz' := hz i hi
  unfold SmallY at hz'
  refine ⟨g, 0, rfl, hl, ⟨?_, ?_⟩, by unfold maxLen; omega⟩
  · rw [slab_cell hh, Nat.zero_add]; exact this.1
  · rw [slab_cell hh, Nat.zero_add]; exact this.2

set_option maxRecDepth 100000 in
theorem toY1_any (x : TY) (w : World) : Calls Tryz.prog 57 #[ValY x] w fun e w' => e = .returned (ValY x) ∧ Below w.heap.size w w' := by
  obtain ⟨kx, vx⟩ := x
  go_enter Tryz.func57, Tryz.ntmps57
  go_wp2
  exact bodyPost_ret (v := .agg #[.string kx, .string vx]) (by simp [results, Tryz.results57, go_sem]) rfl ⟨rfl, (((Below.refl _ _).alloc (Nat.le_refl _) _).alloc (by simp) _).alloc (by simp; omega) _⟩

set_option maxRecDepth 100000 in
set_option maxHeartbeats 2000000 in
theorem toY_any (a : Option Addr) (cap : Nat) (ss : List TY) (w : World) (hrow : RowY w a ss) (hlen : ss.length ≤ 1048576) :
    Calls Tryz.prog 34 #[.slice a ss.length cap] w fun e w' => ∃ g, e = .returned (.slice (some ⟨g, 0, none⟩) ss.length ss.length) ∧ w.heap.size ≤ g ∧ SlabY w' g ss.length ss ss.length ∧ Below w.heap.size w w' := by
  have HR : Hid (RowY w a ss) := hrow
  clear hrow
  generalize hL : ss.length = len at *
  have HL : Hid (ss.length = len) := hL
  clear hL
  obtain ⟨i0, hi, hz0, hz1, hz2⟩ := info_parts info79
  go_enter Tryz.func34, Tryz.ntmps34
  go_wp2_with (at_make; refine wpList_make_full _ rfl _ _ 39 rfl w.heap.size 79 i0 _ 2 Tryz.underlying39 hi hz0 hz1 .i64 .i64 _ _ len rfl rfl rfl rfl ?m1 ?m2 (Nat.le_refl _) ?_)
  case m1 => rw [hz2]; omega
  case m2 => unfold maxLen; omega
  intro w1 hown hgr
  have hB1 : Below w.heap.size w w1 := (Below.refl _ _).grown hgr (Nat.le_refl _) (fun k hk => by cases hk)
  have hS : SlabY w1 w.heap.size len ss 0 := by
    rcases hown.2 with ⟨h, _⟩ | ⟨g, c, cur, h, _, hh, _, _, hcs, _⟩
    · cases h
    · cases h
      exact ⟨cur, hh, hcs, fun i hi => by omega⟩
  clear hown hgr hi hz0 hz1 hz2
  go_wp2
  go_loopw [4] (fun i wr => ∃ k : Nat, k ≤ len ∧ i = .int .i64 k ∧ SlabY wr w.heap.size len ss k ∧ Below w.heap.size w wr) (fun i _ => len - (intOf i).toNat)
  case atStart => exact ⟨0, by omega, rfl, hS, hB1⟩
  case round =>
    obtain ⟨k, hk, rfl, hSk, hbl⟩ := hrel
    by_cases hlt : k < len
    · obtain ⟨b, off, rfl, hlb, ⟨q0, q1⟩, _⟩ := (HR.out.below hbl) k (by rw [HL.out]; exact hlt)
      go_wp2_with fail
      refine (toY1_any (nthY ss k) _).mono ?_
      rintro e w2 ⟨rfl, hb2⟩
      have hS2 := hSk.below hb2 hSk.lt
      have hB2 := below_step hbl (Nat.le_refl _) hb2
      obtain ⟨v0, hv0⟩ := hS2.there (j := k * 2) (by omega)
      obtain ⟨v1, hv1⟩ := hS2.there (j := k * 2 + 1) (by omega)
      have hf := hS2.free
      have hN := hS2.step hlt
      have HN : Hid (SlabY _ _ _ _ (k + 1)) := hN
      clear q0 q1 hb2 hlb hSk hbl hS2 hN hS hB1
      go_wp2
      go_roundw
      case rel => exact ⟨k + 1, by omega, by go_num, HN.out, ((hB2.setCell (p := ⟨w.heap.size, k * 2, none⟩) (Nat.le_refl _) _).setCell (p := ⟨w.heap.size, k * 2 + 1, none⟩) (Nat.le_refl _) _)⟩
      case measure => simp [intOf]; omega
    · obtain rfl : k = len := by omega
      go_wp2
      go_ret
      exact ⟨_, rfl, Nat.le_refl _, hSk, hbl⟩

set_option maxRecDepth 100000 in
theorem eqY1_same (x : TY) (w : World) : Calls Tryz.prog 62 #[ValY x, ValY x] w fun e w' => e = .returned (.bool true) ∧ Below w.heap.size w w' := by
  obtain ⟨kx, vx⟩ := x
  go_enter Tryz.func62, Tryz.ntmps62
  go_wp2
  go_ret
  exact ⟨rfl, ((Below.refl _ _).alloc (Nat.le_refl _) _).alloc (by simp) _⟩
abbrev PairY (w : World) (b1 o1 b2 o2 : Nat) (x : TY) (w' : World) : Prop := CellY w' b1 o1 x ∧ CellY w' b2 o2 x ∧ b1 < w'.heap.size ∧ b2 < w'.heap.size ∧ Below w.heap.size w w'
theorem PairY.keep {w : World} {b1 o1 b2 o2 : Nat} {x : TY} {w1 w2 : World} (h : PairY w b1 o1 b2 o2 x w1) (hb : Below w1.heap.size w1 w2) : PairY w b1 o1 b2 o2 x w2 := ⟨h.1.below h.2.2.1 hb, h.2.1.below h.2.2.2.1 hb, Nat.lt_of_lt_of_le h.2.2.1 hb.size, Nat.lt_of_lt_of_le h.2.2.2.1 hb.size, below_step h.2.2.2.2 (Nat.le_refl _) hb⟩
set_option maxRecDepth 100000 in
set_option maxHeartbeats 2000000 in
theorem eqY_same (a1 a2 : Option Addr) (c1 c2 : Nat) (ss : List TY) (w : World) (h1 : RowY w a1 ss) (h2 : RowY w a2 ss) (hlen : ss.length ≤ 1048576) :
    Calls Tryz.prog 38 #[.slice a1 ss.length c1, .slice a2 ss.length c2] w fun e w' => e = .returned (.bool true) ∧ Below w.heap.size w w' := by
  have H1 : Hid (RowY w a1 ss) := h1
  have H2 : Hid (RowY w a2 ss) := h2
  clear h1 h2
  generalize hL : ss.length = len at *
  have HL : Hid (ss.length = len) := hL
  clear hL
  go_enter Tryz.func38, Tryz.ntmps38
  go_wp2
  go_loopw [5] (fun i wr => ∃ k : Nat, k ≤ len ∧ i = .int .i64 k ∧ Below w.heap.size w wr) (fun i _ => len - (intOf i).toNat)
  case atStart => exact ⟨0, by omega, rfl, Below.refl _ _⟩
  case round =>
    obtain ⟨k, hk, rfl, hbl⟩ := hrel
    by_cases hlt : k < len
    · obtain ⟨b1, o1, rfl, hlb1, hc1, _⟩ := (H1.out.below hbl) k (by rw [HL.out]; exact hlt)
      obtain ⟨b2, o2, rfl, hlb2, hc2, _⟩ := (H2.out.below hbl) k (by rw [HL.out]; exact hlt)
      generalize nthY ss k = x at *
      have hP : PairY w b1 (o1 + k * 2) b2 (o2 + k * 2) x wr.drew := ⟨hc1, hc2, hlb1, hlb2, hbl.drew⟩
      have hltI : (k : Int) < (len : Int) := by omega
      clear hc1 hc2
      obtain ⟨kx, vx⟩ := x
      go_wp2_with fail
      go_region_held3 (PairY w b1 (o1 + k * 2) b2 (o2 + k * 2) (kx, vx)) (first | exact hP | exact PairY.keep (by assumption) hb) (first | (go_at_call 62; refine (eqY1_same (kx, vx) _).mono ?_; rintro e wA ⟨rfl, hb⟩) | fail)
      rename_i hPL
      have hB := hPL.2.2.2.2
      clear hP hPL
      go_wp2
      go_roundw
      case rel => exact ⟨k + 1, by omega, by go_num, hB⟩
      case measure => simp [intOf]; omega
    · go_wp2
      go_ret
      exact ⟨rfl, hbl⟩
end Go.Proofs.YtepkdodicglilaaGreat
