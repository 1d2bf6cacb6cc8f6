/- Lists of tables: measured, copied, compared (stage 9). -/
import Derived.Test.YteejkmcljokloaaGreatDoorTbC
import Derived.Deep.RegionHeld3
namespace Go.Proofs.YteejkmcljokloaaGreatDoor
open Go.RowKit

def nthT (xs : List TT) (i : Nat) : TT := xs.getD i (⟨#[]⟩, [], 0, [])
/-- A table lies at o of block b, its columns at ca, its indexes at xa. -/
abbrev CellTb (w : World) (b o : Nat) (ca : Option Addr) (cc : Nat) (xa : Option Addr) (xc : Nat) (x : TT) : Prop := w.cell? ⟨b, o, none⟩ = some (.string x.1) ∧ w.cell? ⟨b, o + 1, none⟩ = some (.slice ca x.2.1.length cc) ∧ w.cell? ⟨b, o + 2, none⟩ = some (.int .i64 x.2.2.1) ∧ w.cell? ⟨b, o + 3, none⟩ = some (.slice xa x.2.2.2.length xc)
theorem CellTb.below {w w' : World} {b o : Nat} {ca xa : Option Addr} {cc xc : Nat} {x : TT} (h : CellTb w b o ca cc xa xc x) (hl : b < w.heap.size) (hb : Below w.heap.size w w') : CellTb w' b o ca cc xa xc x := ⟨(hb.cell (p := ⟨b, o, none⟩) hl).trans h.1, (hb.cell (p := ⟨b, o + 1, none⟩) hl).trans h.2.1, (hb.cell (p := ⟨b, o + 2, none⟩) hl).trans h.2.2.1, (hb.cell (p := ⟨b, o + 3, none⟩) hl).trans h.2.2.2⟩
/-- The tables xs can be read at a. -/
def RowTb (w : World) (a : Option Addr) (xs : List TT) : Prop := ∀ i, i < xs.length → ∃ b off ca cc xa xc, a = some ⟨b, off, none⟩ ∧ b < w.heap.size ∧ CellTb w b (off + i * 4) ca cc xa xc (nthT xs i) ∧ RowC w ca (nthT xs i).2.1 ∧ RowX w xa (nthT xs i).2.2.2 ∧ (nthT xs i).1.size ≤ maxLen ∧ (nthT xs i).2.1.length ≤ maxLen ∧ (nthT xs i).2.2.2.length ≤ maxLen ∧ (nthT xs i).2.1.length ≤ cc ∧ (nthT xs i).2.2.2.length ≤ xc
theorem RowTb.below {w w' : World} {a : Option Addr} {xs : List TT} (h : RowTb w a xs) (hb : Below w.heap.size w w') : RowTb w' a xs := fun i hi => by
  obtain ⟨b, off, ca, cc, xa, xc, e, hlt, hc, hr, hx, hl⟩ := h i hi
  exact ⟨b, off, ca, cc, xa, xc, e, Nat.lt_of_lt_of_le hlt hb.size, hc.below hlt hb, hr.below hb, hx.below hb, hl⟩

set_option maxRecDepth 100000 in
set_option maxHeartbeats 1000000 in
theorem szTS_any (a : Option Addr) (cap : Nat) (ss : List TT) (left : Int) (w : World) (hrow : RowTb w a ss) (hlen : ss.length ≤ maxLen) (h0 : 0 ≤ left) (h1 : left ≤ 1048576) :
    Calls Tryz.prog 4 #[.slice a ss.length cap, .int .i64 left] w fun e w' => ∃ r : Int, e = .returned (.int .i64 r) ∧ -1 ≤ r ∧ r ≤ left ∧ (0 ≤ r → (ss.length : Int) ≤ left ∧ ∀ i, i < ss.length → SmallT (nthT ss i)) ∧ Below w.heap.size w w' := by
  unfold maxLen at hlen
  have HR : Hid (RowTb w a ss) := hrow
  clear hrow
  generalize hL : ss.length = len at *
  have HL : Hid (ss.length = len) := hL
  clear hL
  by_cases hlt : left - (len : Int) < 0
  · go_enter Tryz.func4, Tryz.ntmps4
    go_wp2
    go_ret
    exact ⟨-1, rfl, by omega, by omega, fun h => by omega, Below.refl _ _⟩
  · go_enter Tryz.func4, Tryz.ntmps4
    go_wp2
    go_loopw [1, 5] (fun l i wr => ∃ (k : Nat) (l' : Int), k ≤ len ∧ i = .int .i64 k ∧ l = .int .i64 l' ∧ 0 ≤ l' ∧ l' ≤ left ∧ Hid (∀ i, i < k → SmallT (nthT ss i)) ∧ Below w.heap.size w wr) (fun _ i _ => len - (intOf i).toNat)
    case atStart => exact ⟨0, _, by omega, rfl, rfl, by omega, by omega, fun i hi => by omega, Below.refl _ _⟩
    case round =>
      obtain ⟨k, l', hk, rfl, rfl, hl0, hl1, HS, hbl⟩ := hrel
      by_cases hlt : k < len
      · obtain ⟨b, off, ca, cc, xa, xc, rfl, hlb, ⟨q0, q1, q2, q3⟩, hr, hx, hn, lc, lx, _⟩ := (HR.out.below hbl) k (by rw [HL.out]; exact hlt)
        have HS' : Hid (SmallT (nthT ss k) → ∀ i, i < k + 1 → SmallT (nthT ss i)) := fun h i hi => by
          by_cases e : i = k
          · rw [e]; exact h
          · exact HS.out i (by omega)
        have HRr : Hid ((RowC wr ca (nthT ss k).2.1 ∧ RowX wr xa (nthT ss k).2.2.2) ∧ (nthT ss k).1.size ≤ maxLen ∧ (nthT ss k).2.1.length ≤ maxLen ∧ (nthT ss k).2.2.2.length ≤ maxLen) := ⟨⟨hr, hx⟩, hn, lc, lx⟩
        clear hn lc lx hr hx
        generalize nthT ss k = nd at *
        obtain ⟨nx, cs, ky, xs⟩ := nd
        simp only at q0 q1 q2 q3
        go_wp2_with fail
        refine (szTb_any nx ca xa cc xc cs ky xs l' wr HRr.out.1.1 HRr.out.1.2 HRr.out.2.1 HRr.out.2.2.1 HRr.out.2.2.2 hl0 (by omega)).mono ?_
        rintro e w1 ⟨r, rfl, r0, r1, r2, hb1⟩
        have hB := below_step hbl (Nat.le_refl _) hb1
        by_cases hneg : r < 0
        · go_wp2
          go_ret
          exact ⟨-1, rfl, by omega, by omega, fun h => by omega, hB⟩
        · have HN : Hid (∀ i, i < k + 1 → SmallT (nthT ss i)) := HS'.out (r2 (by omega))
          clear q0 q1 q2 q3 hb1 hlb r2 HS'
          go_wp2
          go_roundw
          case rel => exact ⟨k + 1, _, by omega, by go_num, rfl, by omega, by omega, HN, hB⟩
          case measure => simp [intOf]; omega
      · obtain rfl : k = len := by omega
        go_wp2
        go_ret
        exact ⟨l', rfl, by omega, by omega, fun _ => ⟨by omega, HS.out⟩, hbl⟩

theorem infoTb : (Tryz.prog.info? 59).map (fun i => (i.zero, i.size, i.bytes)) = some (some (.agg #[.string ⟨#[]⟩, .slice none 0 0, .int .i64 0, .slice none 0 0]), 4, 72) := by kernel_rfl
/-- A block of the call's own of n tables, of which the first k are copies of those of xs; their lists lie in other blocks. -/
def SlabTb (w : World) (g n : Nat) (xs : List TT) (k : Nat) : Prop :=
  ∃ cur : Array Value, w.heap[g]? = some (.cells cur 59 (0, 0)) ∧ cur.size = n * 4 ∧ ∀ i, i < k → ∃ g1 g2, cur[i * 4]? = some (.string (nthT xs i).1) ∧ cur[i * 4 + 1]? = some (fullB g1 (nthT xs i).2.1.length) ∧ cur[i * 4 + 2]? = some (.int .i64 (nthT xs i).2.2.1) ∧ cur[i * 4 + 3]? = some (fullB g2 (nthT xs i).2.2.2.length) ∧ SlabC w g1 (nthT xs i).2.1.length (nthT xs i).2.1 (nthT xs i).2.1.length ∧ SlabX w g2 (nthT xs i).2.2.2.length (nthT xs i).2.2.2 (nthT xs i).2.2.2.length
theorem SlabTb.lt {w : World} {g n k : Nat} {xs : List TT} (h : SlabTb w g n xs k) : g < w.heap.size := by
  obtain ⟨cur, hh, _⟩ := h
  exact slab_lt hh
theorem SlabTb.below {w w' : World} {g n k : Nat} {xs : List TT} (h : SlabTb w g n xs k) (hb : Below w.heap.size w w') : SlabTb w' g n xs k := by
  obtain ⟨cur, hh, hs, hc⟩ := h
  refine ⟨cur, (hb.block g (slab_lt hh)).trans hh, hs, fun i hi => ?_⟩
  obtain ⟨g1, g2, h1, h2, h3, h4, h5, h6⟩ := hc i hi
  exact ⟨g1, g2, h1, h2, h3, h4, h5.below hb h5.lt, h6.below hb⟩
theorem SlabTb.there {w : World} {g n k j : Nat} {xs : List TT} (h : SlabTb w g n xs k) (hj : j < n * 4) : ∃ v, w.cell? ⟨g, j, none⟩ = some v := by
  obtain ⟨cur, hh, hs, _⟩ := h
  exact ⟨cur[j]'(by omega), by rw [slab_cell hh]; exact Array.getElem?_eq_getElem _⟩
theorem SlabTb.free {w : World} {g n k : Nat} {xs : List TT} (h : SlabTb w g n xs k) (o : Nat) : w.frozen? ⟨g, o, none⟩ = false := by
  obtain ⟨cur, hh, _⟩ := h
  exact slab_free hh
theorem SlabTb.step {w : World} {g n k g1 g2 : Nat} {xs : List TT} (h : SlabTb w g n xs k) (hk : k < n) (hC : SlabC w g1 (nthT xs k).2.1.length (nthT xs k).2.1 (nthT xs k).2.1.length) (hX : SlabX w g2 (nthT xs k).2.2.2.length (nthT xs k).2.2.2 (nthT xs k).2.2.2.length) :
    SlabTb ((((w.setCell ⟨g, k * 4, none⟩ (.string (nthT xs k).1)).setCell ⟨g, k * 4 + 1, none⟩ (fullB g1 (nthT xs k).2.1.length)).setCell ⟨g, k * 4 + 2, none⟩ (.int .i64 (nthT xs k).2.2.1)).setCell ⟨g, k * 4 + 3, none⟩ (fullB g2 (nthT xs k).2.2.2.length)) g n xs (k + 1) := by
  obtain ⟨cur, hh, hs, hc⟩ := h
  refine ⟨_, slab_set (slab_set (slab_set (slab_set hh _) _) _) _, by simpa using hs, fun i hi => ?_⟩
  by_cases e : i = k
  · subst e
    refine ⟨g1, g2, ?_, ?_, ?_, ?_, (((hC.set hh _).set (slab_set hh _) _).set (slab_set (slab_set hh _) _) _).set (slab_set (slab_set (slab_set hh _) _) _) _, (((hX.set hh _).set (slab_set hh _) _).set (slab_set (slab_set hh _) _) _).set (slab_set (slab_set (slab_set hh _) _) _) _⟩
    · rw [Array.getElem?_setIfInBounds_ne (by omega), Array.getElem?_setIfInBounds_ne (by omega), Array.getElem?_setIfInBounds_ne (by omega), Array.getElem?_setIfInBounds_self_of_lt (by omega)]
    · rw [Array.getElem?_setIfInBounds_ne (by omega), Array.getElem?_setIfInBounds_ne (by omega), Array.getElem?_setIfInBounds_self_of_lt (by simp; omega)]
    · rw [Array.getElem?_setIfInBounds_ne (by omega), Array.getElem?_setIfInBounds_self_of_lt (by simp; omega)]
    · rw [Array.getElem?_setIfInBounds_self_of_lt (by simp; omega)]
  · obtain ⟨k1, k2, h1, h2, h3, h4, h5, h6⟩ := hc i (by omega)
    refine ⟨k1, k2, ?_, ?_, ?_, ?_, (((h5.set hh _).set (slab_set hh _) _).set (slab_set (slab_set hh _) _) _).set (slab_set (slab_set (slab_set hh _) _) _) _, (((h6.set hh _).set (slab_set hh _) _).set (slab_set (slab_set hh _) _) _).set (slab_set (slab_set (slab_set hh _) _) _) _⟩
    · rw [Array.getElem?_setIfInBounds_ne (by omega), Array.getElem?_setIfInBounds_ne (by omega), Array.getElem?_setIfInBounds_ne (by omega), Array.getElem?_setIfInBounds_ne (by omega)]; exact h1
    · rw [Array.getElem?_setIfInBounds_ne (by omega), Array.getElem?_setIfInBounds_ne (by omega), Array.getElem?_setIfInBounds_ne (by omega), Array.getElem?_setIfInBounds_ne (by omega)]; exact h2
    · rw [Array.getElem?_setIfInBounds_ne (by omega), Array.getElem?_setIfInBounds_ne (by omega), Array.getElem?_setIfInBounds_ne (by omega), Array.getElem?_setIfInBounds_ne (by omega)]; exact h3
    · rw [Array.getElem?_setIfInBounds_ne (by omega), Array.getElem?_setIfInBounds_ne (by omega), Array.getElem?_setIfInBounds_ne (by omega), Array.getElem?_setIfInBounds_ne (by omega)]; exact h4
theorem SlabTb.row {w : World} {g : Nat} {xs : List TT} (h : SlabTb w g xs.length xs xs.length) (hz : ∀ i, i < xs.length → SmallT (nthT xs i)) : RowTb w (some ⟨g, 0, none⟩) xs := fun i hi => by
  have hl := h.lt
  obtain ⟨cur, hh, _, hc⟩ := h
  obtain ⟨g1, g2, h1, h2, h3, h4, h5, h6⟩ := hc i hi
  have hz' := hz i hi
  refine ⟨g, 0, some ⟨g1, 0, none⟩, _, some ⟨g2, 0, none⟩, _, rfl, hl, ⟨?_, ?_, ?_, ?_⟩, h5.row hz'.2.1.2, h6.row hz'.2.2.2, by have := hz'.1; unfold maxLen; omega, by have := hz'.2.1.1; unfold maxLen; omega, by have := hz'.2.2.1; unfold maxLen; omega, Nat.le_refl _, Nat.le_refl _⟩
  · rw [slab_cell hh, Nat.zero_add]; exact h1
  · rw [slab_cell hh, Nat.zero_add]; exact h2
  · rw [slab_cell hh, Nat.zero_add]; exact h3
  · rw [slab_cell hh, Nat.zero_add]; exact h4

set_option maxRecDepth 100000 in
set_option maxHeartbeats 2000000 in
theorem toTS_any (a : Option Addr) (cap : Nat) (ss : List TT) (w : World) (hrow : RowTb w a ss) (hlen : ss.length ≤ 1048576) (hz : ∀ i, i < ss.length → SmallT (nthT ss i)) :
    Calls Tryz.prog 7 #[.slice a ss.length cap] w fun e w' => ∃ g, e = .returned (.slice (some ⟨g, 0, none⟩) ss.length ss.length) ∧ w.heap.size ≤ g ∧ SlabTb w' g ss.length ss ss.length ∧ Below w.heap.size w w' := by
  have HR : Hid (RowTb w a ss) := hrow
  have HZ : Hid (∀ i, i < ss.length → SmallT (nthT ss i)) := hz
  clear hrow hz
  generalize hL : ss.length = len at *
  have HL : Hid (ss.length = len) := hL
  clear hL
  obtain ⟨i0, hi, hz0, hz1, hz2⟩ := info_parts infoTb
  go_enter Tryz.func7, Tryz.ntmps7
  go_wp2_with (at_make; refine wpList_make_full _ rfl _ _ 33 rfl w.heap.size 59 i0 _ 4 Tryz.underlying33 hi hz0 hz1 .i64 .i64 _ _ len rfl rfl rfl rfl ?m1 ?m2 (Nat.le_refl _) ?_)
  case m1 => rw [hz2]; omega
  case m2 => unfold maxLen; omega
  intro w1 hown hgr
  have hB1 : Below w.heap.size w w1 := (Below.refl _ _).grown hgr (Nat.le_refl _) (fun k hk => by cases hk)
  have hS : SlabTb w1 w.heap.size len ss 0 := by
    rcases hown.2 with ⟨h, _⟩ | ⟨g, c, cur, h, _, hh, _, _, hcs, _⟩
    · cases h
    · cases h
      exact ⟨cur, hh, hcs, fun i hi => by omega⟩
  clear hown hgr hi hz0 hz1 hz2
  go_wp2
  go_loopw [4] (fun i wr => ∃ k : Nat, k ≤ len ∧ i = .int .i64 k ∧ SlabTb wr w.heap.size len ss k ∧ Below w.heap.size w wr) (fun i _ => len - (intOf i).toNat)
  case atStart => exact ⟨0, by omega, rfl, hS, hB1⟩
  case round =>
    obtain ⟨k, hk, rfl, hSk, hbl⟩ := hrel
    by_cases hlt : k < len
    · obtain ⟨b, off, ca, cc, xa, xc, rfl, hlb, ⟨q0, q1, q2, q3⟩, hr, hx, _⟩ := (HR.out.below hbl) k (by rw [HL.out]; exact hlt)
      have HRr : Hid ((RowC wr ca (nthT ss k).2.1 ∧ RowX wr xa (nthT ss k).2.2.2) ∧ SmallT (nthT ss k)) := ⟨⟨hr, hx⟩, HZ.out k hlt⟩
      clear hr hx
      go_wp2_with fail
      refine (toTb_any (nthT ss k).1 ca xa cc xc (nthT ss k).2.1 (nthT ss k).2.2.1 (nthT ss k).2.2.2 wr HRr.out.1.1 HRr.out.1.2 HRr.out.2).mono ?_
      rintro e w2 ⟨_, rfl, ⟨g1, g2, rfl, ⟨_, S1⟩, _, S2⟩, hb2⟩
      have hS2 := hSk.below hb2
      have hB2 := below_step hbl (Nat.le_refl _) hb2
      obtain ⟨v0, hv0⟩ := hS2.there (j := k * 4) (by omega)
      obtain ⟨v1, hv1⟩ := hS2.there (j := k * 4 + 1) (by omega)
      obtain ⟨v2, hv2⟩ := hS2.there (j := k * 4 + 2) (by omega)
      obtain ⟨v3, hv3⟩ := hS2.there (j := k * 4 + 3) (by omega)
      have hf := hS2.free
      have hN := hS2.step hlt S1 S2
      have HN : Hid (SlabTb _ _ _ _ (k + 1)) := hN
      clear q0 q1 q2 q3 hb2 hlb hSk hbl hS2 hN hS hB1 S1 S2 HRr
      go_wp2
      go_roundw
      case rel => exact ⟨k + 1, by omega, by go_num, HN.out, (((hB2.setCell (p := ⟨w.heap.size, k * 4, none⟩) (Nat.le_refl _) _).setCell (p := ⟨w.heap.size, k * 4 + 1, none⟩) (Nat.le_refl _) _).setCell (p := ⟨w.heap.size, k * 4 + 2, none⟩) (Nat.le_refl _) _).setCell (p := ⟨w.heap.size, k * 4 + 3, none⟩) (Nat.le_refl _) _⟩
      case measure => simp [intOf]; omega
    · obtain rfl : k = len := by omega
      go_wp2
      go_ret
      exact ⟨_, rfl, Nat.le_refl _, hSk, hbl⟩

abbrev PairTb (w : World) (b1 o1 b2 o2 : Nat) (p1 : Option Addr) (q1 : Nat) (r1 : Option Addr) (s1 : Nat) (p2 : Option Addr) (q2 : Nat) (r2 : Option Addr) (s2 : Nat) (x : TT) (w' : World) : Prop := CellTb w' b1 o1 p1 q1 r1 s1 x ∧ CellTb w' b2 o2 p2 q2 r2 s2 x ∧ b1 < w'.heap.size ∧ b2 < w'.heap.size ∧ (RowC w' p1 x.2.1 ∧ RowX w' r1 x.2.2.2) ∧ (RowC w' p2 x.2.1 ∧ RowX w' r2 x.2.2.2) ∧ Below w.heap.size w w'
theorem PairTb.keep {w : World} {b1 o1 b2 o2 : Nat} {p1 r1 p2 r2 : Option Addr} {q1 s1 q2 s2 : Nat} {x : TT} {w1 w2 : World} (h : PairTb w b1 o1 b2 o2 p1 q1 r1 s1 p2 q2 r2 s2 x w1) (hb : Below w1.heap.size w1 w2) : PairTb w b1 o1 b2 o2 p1 q1 r1 s1 p2 q2 r2 s2 x w2 := ⟨h.1.below h.2.2.1 hb, h.2.1.below h.2.2.2.1 hb, Nat.lt_of_lt_of_le h.2.2.1 hb.size, Nat.lt_of_lt_of_le h.2.2.2.1 hb.size, ⟨h.2.2.2.2.1.1.below hb, h.2.2.2.2.1.2.below hb⟩, ⟨h.2.2.2.2.2.1.1.below hb, h.2.2.2.2.2.1.2.below hb⟩, below_step h.2.2.2.2.2.2 (Nat.le_refl _) hb⟩
set_option maxRecDepth 100000 in
set_option maxHeartbeats 2000000 in
theorem eqTS_same (a1 a2 : Option Addr) (c1 c2 : Nat) (ss : List TT) (w : World) (h1 : RowTb w a1 ss) (h2 : RowTb w a2 ss) (hlen : ss.length ≤ 1048576) (hz : ∀ i, i < ss.length → SmallT (nthT ss i)) :
    Calls Tryz.prog 11 #[.slice a1 ss.length c1, .slice a2 ss.length c2] w fun e w' => e = .returned (.bool true) ∧ Below w.heap.size w w' := by
  have H1 : Hid (RowTb w a1 ss) := h1
  have H2 : Hid (RowTb w a2 ss) := h2
  have HZ : Hid (∀ i, i < ss.length → SmallT (nthT ss i)) := hz
  clear h1 h2 hz
  generalize hL : ss.length = len at *
  have HL : Hid (ss.length = len) := hL
  clear hL
  go_enter Tryz.func11, Tryz.ntmps11
  go_wp2
  go_loopw [5] (fun i wr => ∃ k : Nat, k ≤ len ∧ i = .int .i64 k ∧ Below w.heap.size w wr) (fun i _ => len - (intOf i).toNat)
  case atStart => exact ⟨0, by omega, rfl, Below.refl _ _⟩
  case round =>
    obtain ⟨k, hk, rfl, hbl⟩ := hrel
    by_cases hlt : k < len
    · obtain ⟨b1, o1, p1, q1, r1, s1, rfl, hlb1, hc1, hr1, hx1, _⟩ := (H1.out.below hbl) k (by rw [HL.out]; exact hlt)
      obtain ⟨b2, o2, p2, q2, r2, s2, rfl, hlb2, hc2, hr2, hx2, _⟩ := (H2.out.below hbl) k (by rw [HL.out]; exact hlt)
      have HS : Hid (SmallT (nthT ss k)) := HZ.out k hlt
      generalize nthT ss k = x at *
      have hP : PairTb w b1 (o1 + k * 4) b2 (o2 + k * 4) p1 q1 r1 s1 p2 q2 r2 s2 x wr.drew := ⟨hc1, hc2, hlb1, hlb2, ⟨hr1, hx1⟩, ⟨hr2, hx2⟩, hbl.drew⟩
      have hltI : (k : Int) < (len : Int) := by omega
      have HP1 : Hid ((RowC wr.drew p1 x.2.1 ∧ RowX wr.drew r1 x.2.2.2) ∧ RowC wr.drew p2 x.2.1 ∧ RowX wr.drew r2 x.2.2.2) := ⟨⟨hr1, hx1⟩, hr2, hx2⟩
      clear hc1 hc2 hr1 hr2 hx1 hx2
      obtain ⟨nx, cs, ky, xs⟩ := x
      go_wp2_with fail
      go_region_held3 (PairTb w b1 (o1 + k * 4) b2 (o2 + k * 4) p1 q1 r1 s1 p2 q2 r2 s2 (nx, cs, ky, xs)) (first | exact hP | exact PairTb.keep (by assumption) hb) (first | (go_at_call 30; refine (eqTb_same nx p1 r1 p2 r2 q1 s1 q2 s2 cs ky xs _ HP1.out.1.1 HP1.out.1.2 HP1.out.2.1 HP1.out.2.2 HS.out).mono ?_; rintro e wA ⟨rfl, hb⟩) | fail)
      rename_i hPL
      have hB := hPL.2.2.2.2.2.2
      clear hP hPL
      go_wp2
      go_roundw
      case rel => exact ⟨k + 1, by omega, by go_num, hB⟩
      case measure => simp [intOf]; omega
    · go_wp2
      go_ret
      exact ⟨rfl, hbl⟩
end Go.Proofs.YteejkmcljokloaaGreatDoor
