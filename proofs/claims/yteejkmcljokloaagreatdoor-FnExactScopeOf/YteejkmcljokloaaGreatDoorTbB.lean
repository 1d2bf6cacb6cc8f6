/- Lists of indexes: measured, copied, compared (stage 11). -/
import Derived.Test.YteejkmcljokloaaGreatDoorInA
import Derived.Deep.RegionHeld3
namespace Go.Proofs.YteejkmcljokloaaGreatDoor
open Go.RowKit

theorem kpBk {w w' : World} {B g : Nat} {o : Obj} (h : w.heap[g]? = some o) (hb : Below B w w') (hg : g < B) : w'.heap[g]? = some o := (hb.block g hg).trans h
theorem SlabI.at {w w' : World} {g n k : Nat} {ss : List Int} (h : SlabI w g n ss k) (e : w'.heap[g]? = w.heap[g]?) : SlabI w' g n ss k := by
  obtain ⟨cur, hh, r⟩ := h
  exact ⟨cur, e.trans hh, r⟩
set_option maxRecDepth 100000 in
theorem szI_any (a : Option Addr) (cap : Nat) (zs : List Int) (left : Int) (w : World) (hlen : zs.length ≤ maxLen) (h0 : 0 ≤ left) (h1 : left ≤ 1048576) :
    Calls Tryz.prog 87 #[.slice a zs.length cap, .int .i64 left] w fun e w' => ∃ r : Int, e = .returned (.int .i64 r) ∧ -1 ≤ r ∧ r ≤ left ∧ (0 ≤ r → (zs.length : Int) ≤ left) ∧ Below w.heap.size w w' := by
  unfold maxLen at hlen
  generalize zs.length = len at *
  by_cases hlt : left - (len : Int) < 0
  · go_enter Tryz.func87, Tryz.ntmps87
    go_wp2
    go_ret
    exact ⟨-1, rfl, by omega, by omega, fun h => by omega, Below.refl _ _⟩
  · go_enter Tryz.func87, Tryz.ntmps87
    go_wp2
    go_ret
    exact ⟨left - (len : Int), by go_num, by omega, by omega, fun _ => by omega, Below.refl _ _⟩

/-- An index: its name, its columns. -/
abbrev TX : Type := ByteArray × List Int
def nthX (xs : List TX) (i : Nat) : TX := xs.getD i (⟨#[]⟩, [])
/-- An index lies at o of block b, its columns at ia. -/
abbrev CellX (w : World) (b o : Nat) (ia : Option Addr) (ic : Nat) (x : TX) : Prop := w.cell? ⟨b, o, none⟩ = some (.string x.1) ∧ w.cell? ⟨b, o + 1, none⟩ = some (.slice ia x.2.length ic)
theorem CellX.below {w w' : World} {b o : Nat} {ia : Option Addr} {ic : Nat} {x : TX} (h : CellX w b o ia ic x) (hl : b < w.heap.size) (hb : Below w.heap.size w w') : CellX w' b o ia ic x := ⟨(hb.cell (p := ⟨b, o, none⟩) hl).trans h.1, (hb.cell (p := ⟨b, o + 1, none⟩) hl).trans h.2⟩
/-- The indexes xs can be read at a. -/
def RowX (w : World) (a : Option Addr) (xs : List TX) : Prop := ∀ i, i < xs.length → ∃ b off ia ic, a = some ⟨b, off, none⟩ ∧ b < w.heap.size ∧ CellX w b (off + i * 2) ia ic (nthX xs i) ∧ RowI w ia (nthX xs i).2 ∧ (nthX xs i).2.length ≤ maxLen ∧ (nthX xs i).1.size ≤ maxLen ∧ (nthX xs i).2.length ≤ ic
theorem RowX.below {w w' : World} {a : Option Addr} {xs : List TX} (h : RowX w a xs) (hb : Below w.heap.size w w') : RowX w' a xs := fun i hi => by
  obtain ⟨b, off, ia, ic, e, hlt, hc, hr, hl⟩ := h i hi
  exact ⟨b, off, ia, ic, e, Nat.lt_of_lt_of_le hlt hb.size, hc.below hlt hb, hr.below hb, hl⟩
def SmallX (x : TX) : Prop := x.1.size ≤ 1048576 ∧ x.2.length ≤ 1048576
abbrev ValX (n : ByteArray) (v : Value) : Value := .agg #[.string n, v]

set_option maxRecDepth 100000 in
theorem szX1_any (nm : ByteArray) (ia : Option Addr) (ic : Nat) (is : List Int) (left : Int) (w : World) (hn : nm.size ≤ maxLen) (hl : is.length ≤ maxLen) (h0 : 0 ≤ left) (h1 : left ≤ 1048576) :
    Calls Tryz.prog 59 #[ValX nm (.slice ia is.length ic), .int .i64 left] w fun e w' => ∃ r : Int, e = .returned (.int .i64 r) ∧ -1 ≤ r ∧ r ≤ left ∧ (0 ≤ r → SmallX (nm, is)) ∧ Below w.heap.size w w' := by
  have HL : Hid (is.length ≤ maxLen) := hl
  clear hl
  unfold maxLen at hn
  have B0 : Below w.heap.size w (w.alloc (.cells #[.string nm, .slice ia is.length ic] 109)) := (Below.refl _ _).alloc (Nat.le_refl _) _
  by_cases c1 : left - (nm.size : Int) < 0
  · go_enter Tryz.func59, Tryz.ntmps59
    go_wp2
    go_ret
    exact ⟨-1, rfl, by omega, by omega, fun h => by omega, B0⟩
  go_enter Tryz.func59, Tryz.ntmps59
  go_wp2_with fail
  refine (szI_any ia ic is (left - (nm.size : Int)) _ HL.out (by omega) (by omega)).mono ?_
  rintro e w1 ⟨x, rfl, x0, x1, x2, b1⟩
  have B1 := below_step B0 (Nat.le_refl _) b1
  by_cases hx : x < 0
  · go_wp2
    go_ret
    exact ⟨-1, rfl, by omega, by omega, fun h => by omega, B1⟩
  have HS : Hid (SmallX (nm, is)) := ⟨by show nm.size ≤ _; omega, by have := x2 (by omega); show is.length ≤ _; omega⟩
  clear x2
  go_wp2
  go_ret
  exact ⟨x, rfl, by omega, by omega, fun _ => HS.out, B1⟩

set_option maxRecDepth 100000 in
set_option maxHeartbeats 1000000 in
theorem szX_any (a : Option Addr) (cap : Nat) (ss : List TX) (left : Int) (w : World) (hrow : RowX w a ss) (hlen : ss.length ≤ maxLen) (h0 : 0 ≤ left) (h1 : left ≤ 1048576) :
    Calls Tryz.prog 38 #[.slice a ss.length cap, .int .i64 left] w fun e w' => ∃ r : Int, e = .returned (.int .i64 r) ∧ -1 ≤ r ∧ r ≤ left ∧ (0 ≤ r → (ss.length : Int) ≤ left ∧ ∀ i, i < ss.length → SmallX (nthX ss i)) ∧ Below w.heap.size w w' := by
  unfold maxLen at hlen
  have HR : Hid (RowX w a ss) := hrow
  clear hrow
  generalize hL : ss.length = len at *
  have HL : Hid (ss.length = len) := hL
  clear hL
  by_cases hlt : left - (len : Int) < 0
  · go_enter Tryz.func38, Tryz.ntmps38
    go_wp2
    go_ret
    exact ⟨-1, rfl, by omega, by omega, fun h => by omega, Below.refl _ _⟩
  · go_enter Tryz.func38, Tryz.ntmps38
    go_wp2
    go_loopw [1, 5] (fun l i wr => ∃ (k : Nat) (l' : Int), k ≤ len ∧ i = .int .i64 k ∧ l = .int .i64 l' ∧ 0 ≤ l' ∧ l' ≤ left ∧ Hid (∀ i, i < k → SmallX (nthX ss i)) ∧ Below w.heap.size w wr) (fun _ i _ => len - (intOf i).toNat)
    case atStart => exact ⟨0, _, by omega, rfl, rfl, by omega, by omega, fun i hi => by omega, Below.refl _ _⟩
    case round =>
      obtain ⟨k, l', hk, rfl, rfl, hl0, hl1, HS, hbl⟩ := hrel
      by_cases hlt : k < len
      · obtain ⟨b, off, ia, ic, rfl, hlb, ⟨q0, q1⟩, _, hl, hn, _⟩ := (HR.out.below hbl) k (by rw [HL.out]; exact hlt)
        have HS' : Hid (SmallX (nthX ss k) → ∀ i, i < k + 1 → SmallX (nthX ss i)) := fun h i hi => by
          by_cases e : i = k
          · rw [e]; exact h
          · exact HS.out i (by omega)
        have HRr : Hid ((nthX ss k).1.size ≤ maxLen ∧ (nthX ss k).2.length ≤ maxLen) := ⟨hn, hl⟩
        clear hn hl
        generalize nthX ss k = nd at *
        obtain ⟨nx, ws⟩ := nd
        simp only at q0 q1
        go_wp2_with fail
        refine (szX1_any nx ia ic ws l' wr HRr.out.1 HRr.out.2 hl0 (by omega)).mono ?_
        rintro e w1 ⟨r, rfl, r0, r1, r2, hb1⟩
        have hB := below_step hbl (Nat.le_refl _) hb1
        by_cases hneg : r < 0
        · go_wp2
          go_ret
          exact ⟨-1, rfl, by omega, by omega, fun h => by omega, hB⟩
        · have HN : Hid (∀ i, i < k + 1 → SmallX (nthX ss i)) := HS'.out (r2 (by omega))
          clear q0 q1 hb1 hlb r2 HS'
          go_wp2
          go_roundw
          case rel => exact ⟨k + 1, _, by omega, by go_num, rfl, by omega, by omega, HN, hB⟩
          case measure => simp [intOf]; omega
      · obtain rfl : k = len := by omega
        go_wp2
        go_ret
        exact ⟨l', rfl, by omega, by omega, fun _ => ⟨by omega, HS.out⟩, hbl⟩

set_option maxRecDepth 100000 in
set_option maxHeartbeats 2000000 in
theorem toX1_any (nm : ByteArray) (ia : Option Addr) (ic : Nat) (is : List Int) (w : World) (h : RowI w ia is) (hl : is.length ≤ 1048576) :
    Calls Tryz.prog 70 #[ValX nm (.slice ia is.length ic)] w fun e w' => ∃ g, e = .returned (ValX nm (.slice (some ⟨g, 0, none⟩) is.length is.length)) ∧ w.heap.size ≤ g ∧ SlabI w' g is.length is is.length ∧ Below w.heap.size w w' := by
  have HR : Hid (RowI w ia is) := h
  clear h
  obtain ⟨W0, hW0⟩ : ∃ W0, ((w.alloc (.cells #[.string nm, .slice ia is.length ic] 109)).alloc (.cells #[.string ⟨#[]⟩, .slice none 0 0] 104)).alloc (.cells #[.string nm, .slice none 0 0] 104) = W0 := ⟨_, rfl⟩
  have B0 : Below w.heap.size w W0 := hW0 ▸ (((Below.refl _ _).alloc (Nat.le_refl _) _).alloc (by simp) _).alloc (by simp; omega) _
  have z0 : W0.heap.size = w.heap.size + 3 := by rw [← hW0]; simp
  have X1 : Hid (W0.heap[w.heap.size + 1]? = some (.cells #[.string ⟨#[]⟩, .slice none 0 0] 104 (0, 0))) := (hW0 ▸ (heap_old _ _ _ (by simp)).trans (heap_new' _ _ _ (by simp)) : W0.heap[w.heap.size + 1]? = _)
  have X2 : Hid (W0.heap[w.heap.size + 1 + 1]? = some (.cells #[.string nm, .slice none 0 0] 104 (0, 0))) := (hW0 ▸ heap_new' _ _ _ (by simp) : W0.heap[w.heap.size + 1 + 1]? = _)
  have c02 : W0.cell? ⟨w.heap.size, 1, none⟩ = some (.slice ia is.length ic) := by
    have : W0.heap[w.heap.size]? = some (.cells #[.string nm, .slice ia is.length ic] 109 (0, 0)) := hW0 ▸ (heap_old _ _ _ (by simp; omega)).trans ((heap_old _ _ _ (by simp)).trans (heap_new' _ _ _ rfl))
    simp [World.cell?, this]
  go_enter Tryz.func70, Tryz.ntmps70
  go_wp2_with fail
  refine (toI_any ia ic is W0 (HR.out.below B0) hl).mono ?_
  rintro e w1 ⟨g, rfl, hg, hS, b1⟩
  have x1 := kpBk X1.out b1 (slab_lt X1.out)
  have x2 := kpBk X2.out b1 (slab_lt X2.out)
  have B1 : Below w.heap.size w w1 := B0.trans (b1.mono B0.size)
  have HS : Hid (SlabI w1 g is.length is is.length) := hS
  have c10 : w1.cell? ⟨w.heap.size + 1, 0, none⟩ = some (.string ⟨#[]⟩) := by simp [World.cell?, x1]
  have c11 : w1.cell? ⟨w.heap.size + 1, 1, none⟩ = some (.slice none 0 0) := by simp [World.cell?, x1]
  have c20 : w1.cell? ⟨w.heap.size + 1 + 1, 0, none⟩ = some (.string nm) := by simp [World.cell?, x2]
  have c21 : w1.cell? ⟨w.heap.size + 1 + 1, 1, none⟩ = some (.slice none 0 0) := by simp [World.cell?, x2]
  have f1 : ∀ q, w1.frozen? ⟨w.heap.size + 1, q, none⟩ = false := fun q => slab_free x1
  have f2 : ∀ q, w1.frozen? ⟨w.heap.size + 1 + 1, q, none⟩ = false := fun q => slab_free x2
  clear x1 x2 hS b1 B0 X1 X2 hW0 c02
  go_wp2
  refine bodyPost_ret (v := ValX nm (.slice (some ⟨g, 0, none⟩) is.length is.length)) (by go_simp; simp [results, Tryz.results70, go_sem, c10, c11]) rfl ⟨g, rfl, by omega, ?_, ?_⟩
  · refine HS.out.at ?_
    rw [Below.heap_setCell _ _ _ _ (by simp; omega), Below.heap_setCell _ _ _ _ (by simp; omega), Below.heap_setCell _ _ _ _ (by simp; omega)]
  · exact ((B1.setCell (p := ⟨w.heap.size + 1 + 1, 1, none⟩) (by simp; omega) _).setCell (p := ⟨w.heap.size + 1, 0, none⟩) (by simp) _).setCell (p := ⟨w.heap.size + 1, 1, none⟩) (by simp) _

theorem infoX : (Tryz.prog.info? 104).map (fun i => (i.zero, i.size, i.bytes)) = some (some (.agg #[.string ⟨#[]⟩, .slice none 0 0]), 2, 40) := by kernel_rfl
/-- A block of the call's own of n indexes, of which the first k are copies of those of xs. -/
def SlabX (w : World) (g n : Nat) (xs : List TX) (k : Nat) : Prop :=
  ∃ cur : Array Value, w.heap[g]? = some (.cells cur 104 (0, 0)) ∧ cur.size = n * 2 ∧ ∀ i, i < k → ∃ gi, g < gi ∧ cur[i * 2]? = some (.string (nthX xs i).1) ∧ cur[i * 2 + 1]? = some (.slice (some ⟨gi, 0, none⟩) (nthX xs i).2.length (nthX xs i).2.length) ∧ SlabI w gi (nthX xs i).2.length (nthX xs i).2 (nthX xs i).2.length
theorem SlabX.lt {w : World} {g n k : Nat} {xs : List TX} (h : SlabX w g n xs k) : g < w.heap.size := by
  obtain ⟨cur, hh, _⟩ := h
  exact slab_lt hh
theorem SlabX.below {w w' : World} {g n k : Nat} {xs : List TX} (h : SlabX w g n xs k) (hb : Below w.heap.size w w') : SlabX w' g n xs k := by
  obtain ⟨cur, hh, hs, hc⟩ := h
  refine ⟨cur, (hb.block g (slab_lt hh)).trans hh, hs, fun i hi => ?_⟩
  obtain ⟨gi, h1, h2, h3, h5⟩ := hc i hi
  exact ⟨gi, h1, h2, h3, h5.below hb h5.lt⟩
theorem SlabX.there {w : World} {g n k j : Nat} {xs : List TX} (h : SlabX w g n xs k) (hj : j < n * 2) : ∃ v, w.cell? ⟨g, j, none⟩ = some v := by
  obtain ⟨cur, hh, hs, _⟩ := h
  exact ⟨cur[j]'(by omega), by rw [slab_cell hh]; exact Array.getElem?_eq_getElem _⟩
theorem SlabX.free {w : World} {g n k : Nat} {xs : List TX} (h : SlabX w g n xs k) (o : Nat) : w.frozen? ⟨g, o, none⟩ = false := by
  obtain ⟨cur, hh, _⟩ := h
  exact slab_free hh
theorem SlabX.step {w : World} {g n k gi : Nat} {xs : List TX} (h : SlabX w g n xs k) (hk : k < n) (hg : g < gi) (hS : SlabI w gi (nthX xs k).2.length (nthX xs k).2 (nthX xs k).2.length) :
    SlabX ((w.setCell ⟨g, k * 2, none⟩ (.string (nthX xs k).1)).setCell ⟨g, k * 2 + 1, none⟩ (.slice (some ⟨gi, 0, none⟩) (nthX xs k).2.length (nthX xs k).2.length)) g n xs (k + 1) := by
  obtain ⟨cur, hh, hs, hc⟩ := h
  have oth : ∀ j, j ≠ g → ((w.setCell ⟨g, k * 2, none⟩ (.string (nthX xs k).1)).setCell ⟨g, k * 2 + 1, none⟩ (.slice (some ⟨gi, 0, none⟩) (nthX xs k).2.length (nthX xs k).2.length)).heap[j]? = w.heap[j]? := fun j hj => by
    rw [Below.heap_setCell _ _ _ _ hj, Below.heap_setCell _ _ _ _ hj]
  refine ⟨_, slab_set (slab_set hh _) _, by simpa using hs, fun i hi => ?_⟩
  by_cases e : i = k
  · subst e
    refine ⟨gi, hg, ?_, ?_, hS.at (oth _ (by omega))⟩
    · rw [Array.getElem?_setIfInBounds_ne (by omega), Array.getElem?_setIfInBounds_self_of_lt (by omega)]
    · rw [Array.getElem?_setIfInBounds_self_of_lt (by simp; omega)]
  · obtain ⟨gj, h1, h2, h3, h5⟩ := hc i (by omega)
    have hne : gj ≠ g := by omega
    refine ⟨gj, h1, ?_, ?_, h5.at (oth _ hne)⟩
    · rw [Array.getElem?_setIfInBounds_ne (by omega), Array.getElem?_setIfInBounds_ne (by omega)]; exact h2
    · rw [Array.getElem?_setIfInBounds_ne (by omega), Array.getElem?_setIfInBounds_ne (by omega)]; exact h3
theorem SlabX.row {w : World} {g : Nat} {xs : List TX} (h : SlabX w g xs.length xs xs.length) (hz : ∀ i, i < xs.length → SmallX (nthX xs i)) : RowX w (some ⟨g, 0, none⟩) xs := fun i hi => by
  have hl := h.lt
  obtain ⟨cur, hh, _, hc⟩ := h
  obtain ⟨gi, h1, h2, h3, h5⟩ := hc i hi
  have hz' := hz i hi
  refine ⟨g, 0, some ⟨gi, 0, none⟩, (nthX xs i).2.length, rfl, hl, ⟨?_, ?_⟩, h5.row, by have := hz'.2; unfold maxLen; omega, by have := hz'.1; unfold maxLen; omega, Nat.le_refl _⟩
  · rw [slab_cell hh, Nat.zero_add]; exact h2
  · rw [slab_cell hh, Nat.zero_add]; exact h3

set_option maxRecDepth 100000 in
set_option maxHeartbeats 2000000 in
theorem toX_any (a : Option Addr) (cap : Nat) (ss : List TX) (w : World) (hrow : RowX w a ss) (hlen : ss.length ≤ 1048576) (hz : ∀ i, i < ss.length → SmallX (nthX ss i)) :
    Calls Tryz.prog 49 #[.slice a ss.length cap] w fun e w' => ∃ g, e = .returned (.slice (some ⟨g, 0, none⟩) ss.length ss.length) ∧ w.heap.size ≤ g ∧ SlabX w' g ss.length ss ss.length ∧ Below w.heap.size w w' := by
  have HR : Hid (RowX w a ss) := hrow
  have HZ : Hid (∀ i, i < ss.length → SmallX (nthX ss i)) := hz
  clear hrow hz
  generalize hL : ss.length = len at *
  have HL : Hid (ss.length = len) := hL
  clear hL
  obtain ⟨i0, hi, hz0, hz1, hz2⟩ := info_parts infoX
  go_enter Tryz.func49, Tryz.ntmps49
  go_wp2_with (at_make; refine wpList_make_full _ rfl _ _ 57 rfl w.heap.size 104 i0 _ 2 Tryz.underlying57 hi hz0 hz1 .i64 .i64 _ _ len rfl rfl rfl rfl ?m1 ?m2 (Nat.le_refl _) ?_)
  case m1 => rw [hz2]; omega
  case m2 => unfold maxLen; omega
  intro w1 hown hgr
  have hB1 : Below w.heap.size w w1 := (Below.refl _ _).grown hgr (Nat.le_refl _) (fun k hk => by cases hk)
  have hS : SlabX w1 w.heap.size len ss 0 := by
    rcases hown.2 with ⟨h, _⟩ | ⟨g, c, cur, h, _, hh, _, _, hcs, _⟩
    · cases h
    · cases h
      exact ⟨cur, hh, hcs, fun i hi => by omega⟩
  clear hown hgr hi hz0 hz1 hz2
  go_wp2
  go_loopw [4] (fun i wr => ∃ k : Nat, k ≤ len ∧ i = .int .i64 k ∧ SlabX wr w.heap.size len ss k ∧ Below w.heap.size w wr) (fun i _ => len - (intOf i).toNat)
  case atStart => exact ⟨0, by omega, rfl, hS, hB1⟩
  case round =>
    obtain ⟨k, hk, rfl, hSk, hbl⟩ := hrel
    by_cases hlt : k < len
    · obtain ⟨b, off, ia, ic, rfl, hlb, ⟨q0, q1⟩, hr, _⟩ := (HR.out.below hbl) k (by rw [HL.out]; exact hlt)
      have HRr : Hid (RowI wr ia (nthX ss k).2 ∧ (nthX ss k).2.length ≤ 1048576) := ⟨hr, (HZ.out k hlt).2⟩
      clear hr
      go_wp2_with fail
      refine (toX1_any (nthX ss k).1 ia ic (nthX ss k).2 wr HRr.out.1 HRr.out.2).mono ?_
      rintro e w2 ⟨gi, rfl, hgi, hW, hb2⟩
      have hS2 := hSk.below hb2
      have hB2 := below_step hbl (Nat.le_refl _) hb2
      obtain ⟨v0, hv0⟩ := hS2.there (j := k * 2) (by omega)
      obtain ⟨v1, hv1⟩ := hS2.there (j := k * 2 + 1) (by omega)
      have hf := hS2.free
      have hN := hS2.step hlt (by have := hSk.lt; omega) hW
      have HN : Hid (SlabX _ _ _ _ (k + 1)) := hN
      clear q0 q1 hb2 hlb hSk hbl hS2 hN hS hB1 hW HRr
      go_wp2
      go_roundw
      case rel => exact ⟨k + 1, by omega, by go_num, HN.out, (hB2.setCell (p := ⟨w.heap.size, k * 2, none⟩) (Nat.le_refl _) _).setCell (p := ⟨w.heap.size, k * 2 + 1, none⟩) (Nat.le_refl _) _⟩
      case measure => simp [intOf]; omega
    · obtain rfl : k = len := by omega
      go_wp2
      go_ret
      exact ⟨_, rfl, Nat.le_refl _, hSk, hbl⟩

set_option maxRecDepth 100000 in
theorem eqX1_same (nm : ByteArray) (a1 a2 : Option Addr) (c1 c2 : Nat) (is : List Int) (w : World) (h1 : RowI w a1 is) (h2 : RowI w a2 is) (hl : is.length ≤ 1048576) : Calls Tryz.prog 86 #[ValX nm (.slice a1 is.length c1), ValX nm (.slice a2 is.length c2)] w fun e w' => e = .returned (.bool true) ∧ Below w.heap.size w w' := by
  have H : Hid (RowI w a1 is ∧ RowI w a2 is) := ⟨h1, h2⟩
  clear h1 h2
  have B0 : Below w.heap.size w ((w.alloc (.cells #[.string nm, .slice a1 is.length c1] 104)).alloc (.cells #[.string nm, .slice a2 is.length c2] 104)) := ((Below.refl _ _).alloc (Nat.le_refl _) _).alloc (by simp) _
  go_enter Tryz.func86, Tryz.ntmps86
  go_wp2_with fail
  refine (eqI_same a1 a2 c1 c2 is _ (H.out.1.below B0) (H.out.2.below B0) hl).mono ?_
  rintro e w1 ⟨rfl, b1⟩
  have B1 := below_step B0 (Nat.le_refl _) b1
  go_wp2
  go_ret
  exact ⟨rfl, B1⟩
abbrev PairX (w : World) (b1 o1 b2 o2 : Nat) (p1 p2 : Option Addr) (q1 q2 : Nat) (x : TX) (w' : World) : Prop := CellX w' b1 o1 p1 q1 x ∧ CellX w' b2 o2 p2 q2 x ∧ b1 < w'.heap.size ∧ b2 < w'.heap.size ∧ RowI w' p1 x.2 ∧ RowI w' p2 x.2 ∧ Below w.heap.size w w'
theorem PairX.keep {w : World} {b1 o1 b2 o2 : Nat} {p1 p2 : Option Addr} {q1 q2 : Nat} {x : TX} {w1 w2 : World} (h : PairX w b1 o1 b2 o2 p1 p2 q1 q2 x w1) (hb : Below w1.heap.size w1 w2) : PairX w b1 o1 b2 o2 p1 p2 q1 q2 x w2 := ⟨h.1.below h.2.2.1 hb, h.2.1.below h.2.2.2.1 hb, Nat.lt_of_lt_of_le h.2.2.1 hb.size, Nat.lt_of_lt_of_le h.2.2.2.1 hb.size, h.2.2.2.2.1.below hb, h.2.2.2.2.2.1.below hb, below_step h.2.2.2.2.2.2 (Nat.le_refl _) hb⟩
set_option maxRecDepth 100000 in
set_option maxHeartbeats 2000000 in
theorem eqX_same (a1 a2 : Option Addr) (c1 c2 : Nat) (ss : List TX) (w : World) (h1 : RowX w a1 ss) (h2 : RowX w a2 ss) (hlen : ss.length ≤ 1048576) (hz : ∀ i, i < ss.length → SmallX (nthX ss i)) :
    Calls Tryz.prog 56 #[.slice a1 ss.length c1, .slice a2 ss.length c2] w fun e w' => e = .returned (.bool true) ∧ Below w.heap.size w w' := by
  have H1 : Hid (RowX w a1 ss) := h1
  have H2 : Hid (RowX w a2 ss) := h2
  have HZ : Hid (∀ i, i < ss.length → SmallX (nthX ss i)) := hz
  clear h1 h2 hz
  generalize hL : ss.length = len at *
  have HL : Hid (ss.length = len) := hL
  clear hL
  go_enter Tryz.func56, Tryz.ntmps56
  go_wp2
  go_loopw [5] (fun i wr => ∃ k : Nat, k ≤ len ∧ i = .int .i64 k ∧ Below w.heap.size w wr) (fun i _ => len - (intOf i).toNat)
  case atStart => exact ⟨0, by omega, rfl, Below.refl _ _⟩
  case round =>
    obtain ⟨k, hk, rfl, hbl⟩ := hrel
    by_cases hlt : k < len
    · obtain ⟨b1, o1, p1, q1, rfl, hlb1, hc1, hr1, _⟩ := (H1.out.below hbl) k (by rw [HL.out]; exact hlt)
      obtain ⟨b2, o2, p2, q2, rfl, hlb2, hc2, hr2, _⟩ := (H2.out.below hbl) k (by rw [HL.out]; exact hlt)
      have HS : Hid ((nthX ss k).2.length ≤ 1048576) := (HZ.out k hlt).2
      generalize nthX ss k = x at *
      have hP : PairX w b1 (o1 + k * 2) b2 (o2 + k * 2) p1 p2 q1 q2 x wr.drew := ⟨hc1, hc2, hlb1, hlb2, hr1, hr2, hbl.drew⟩
      have hltI : (k : Int) < (len : Int) := by omega
      have HP1 : Hid (RowI wr.drew p1 x.2 ∧ RowI wr.drew p2 x.2) := ⟨hr1, hr2⟩
      clear hc1 hc2 hr1 hr2
      obtain ⟨nx, ws⟩ := x
      go_wp2_with fail
      go_region_held3 (PairX w b1 (o1 + k * 2) b2 (o2 + k * 2) p1 p2 q1 q2 (nx, ws)) (first | exact hP | exact PairX.keep (by assumption) hb) (first | (go_at_call 86; refine (eqX1_same nx p1 p2 q1 q2 ws _ HP1.out.1 HP1.out.2 HS.out).mono ?_; rintro e wA ⟨rfl, hb⟩) | fail)
      rename_i hPL
      have hB := hPL.2.2.2.2.2.2
      clear hP hPL
      go_wp2
      go_roundw
      case rel => exact ⟨k + 1, by omega, by go_num, hB⟩
      case measure => simp [intOf]; omega
    · go_wp2
      go_ret
      exact ⟨rfl, hbl⟩
end Go.Proofs.YteejkmcljokloaaGreatDoor
