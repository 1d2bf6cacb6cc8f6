/- Rows of values: measured, copied, compared, right (stage 11). -/
import Derived.Test.YtiimegahhnjjkaaDoorVlA
import Derived.Deep.RegionHeld3
namespace Go.Proofs.YtiimegahhnjjkaaDoor
open Go.ChangeShapes Go.WideShapes Go.ChangeAt Go.RowKit Go.Joins

/-- A value as three parts. -/
abbrev V3 : Type := Int × Int × ByteArray
def nthV (vs : List V3) (i : Nat) : V3 := vs.getD i (0, 0, ⟨#[]⟩)
/-- Value i of a row in block b, from offset off on. -/
abbrev CellV (w : World) (b o : Nat) (v : V3) : Prop :=
  w.cell? ⟨b, o, none⟩ = some (.int .i64 v.1) ∧ w.cell? ⟨b, o + 1, none⟩ = some (.int .i64 v.2.1) ∧ w.cell? ⟨b, o + 2, none⟩ = some (.string v.2.2)
/-- A slice of values can be read. -/
def RowV (w : World) (a : Option Addr) (vs : List V3) : Prop :=
  ∀ i, i < vs.length → ∃ b off, a = some ⟨b, off, none⟩ ∧ b < w.heap.size ∧ CellV w b (off + i * 3) (nthV vs i) ∧ (nthV vs i).2.2.size ≤ maxLen

theorem RowV.below {w w' : World} {a : Option Addr} {vs : List V3} (h : RowV w a vs) (hb : Below w.heap.size w w') : RowV w' a vs := fun i hi => by
  obtain ⟨b, off, e, hlt, hc, hs⟩ := h i hi
  exact ⟨b, off, e, Nat.lt_of_lt_of_le hlt hb.size, ⟨(hb.cell (p := ⟨b, off + i * 3, none⟩) hlt).trans hc.1, (hb.cell (p := ⟨b, off + i * 3 + 1, none⟩) hlt).trans hc.2.1, (hb.cell (p := ⟨b, off + i * 3 + 2, none⟩) hlt).trans hc.2.2⟩, hs⟩

theorem szS_any (a : Option Addr) (cap : Nat) (vs : List V3) (left : Int) (w : World) (hrow : RowV w a vs) (hlen : vs.length ≤ maxLen) (h0 : 0 ≤ left) (h1 : left ≤ 1048576) :
    Calls Tryd.prog 9 #[.slice a vs.length cap, .int .i64 left] w fun e w' => ∃ r : Int, e = .returned (.int .i64 r) ∧ -1 ≤ r ∧ r ≤ left ∧ (0 ≤ r → (vs.length : Int) ≤ left) ∧ Below w.heap.size w w' := by
  unfold maxLen at hlen
  have HR : Hid (RowV w a vs) := hrow
  clear hrow
  generalize hL : vs.length = len at *
  have HL : Hid (vs.length = len) := hL
  clear hL
  by_cases hlt : left - (len : Int) < 0
  · go_enter Tryd.func9, Tryd.ntmps9
    go_wp2
    go_ret
    exact ⟨-1, rfl, by omega, by omega, fun h => by omega, Below.refl _ _⟩
  · go_enter Tryd.func9, Tryd.ntmps9
    go_wp2
    go_loopw [1, 5] (fun l i wr => ∃ (k : Nat) (l' : Int), k ≤ len ∧ i = .int .i64 k ∧ l = .int .i64 l' ∧ 0 ≤ l' ∧ l' ≤ left ∧ Below w.heap.size w wr) (fun _ i _ => len - (intOf i).toNat)
    case atStart => exact ⟨0, _, by omega, rfl, rfl, by omega, by omega, Below.refl _ _⟩
    case round =>
      obtain ⟨k, l', hk, rfl, rfl, hl0, hl1, hbl⟩ := hrel
      by_cases hlt : k < len
      · obtain ⟨b, off, rfl, hlb, ⟨hc0, hc1, hc2⟩, hsz⟩ := (HR.out.below hbl) k (by rw [HL.out]; exact hlt)
        by_cases hneg : leftOf l' (nthV vs k).2.2 < 0
        · go_wp2_with fail
          refine (szValue_any _ _ _ _ _ hl0 (by omega) hsz).mono ?_
          rintro e w1 ⟨rfl, hb1⟩
          go_wp2
          go_ret
          exact ⟨-1, rfl, by omega, by omega, fun h => by omega, below_step hbl (Nat.le_refl _) hb1⟩
        · have hbd : 0 ≤ leftOf l' (nthV vs k).2.2 ∧ leftOf l' (nthV vs k).2.2 ≤ l' := by
            refine ⟨by omega, ?_⟩
            unfold leftOf
            split <;> omega
          go_wp2_with fail
          refine (szValue_any _ _ _ _ _ hl0 (by omega) hsz).mono ?_
          rintro e w1 ⟨rfl, hb1⟩
          have hB := below_step hbl (Nat.le_refl _) hb1
          clear hc0 hc1 hc2 hb1 hlb
          go_wp2
          go_roundw
          case rel => exact ⟨k + 1, _, by omega, by go_num, rfl, by omega, by omega, hB⟩
          case measure => simp [intOf]; omega
      · go_wp2
        go_ret
        exact ⟨l', rfl, by omega, by omega, fun _ => by omega, hbl⟩

theorem info24 : (Tryd.prog.info? 27).map (fun i => (i.zero, i.size, i.bytes)) = some (some (.agg #[.int .i64 0, .int .i64 0, .string ⟨#[]⟩]), 3, 32) := by kernel_rfl

/-- A block of the call's own of n values, of which the first k are those of vs. -/
def SlabK (w : World) (g n : Nat) (vs : List V3) (k : Nat) : Prop :=
  ∃ cur, w.heap[g]? = some (.cells cur 27 (0, 0)) ∧ cur.size = n * 3 ∧
    ∀ i, i < k → cur[i * 3]? = some (.int .i64 (nthV vs i).1) ∧ cur[i * 3 + 1]? = some (.int .i64 (nthV vs i).2.1) ∧ cur[i * 3 + 2]? = some (.string (nthV vs i).2.2)
theorem SlabK.below {w w' : World} {g n k B : Nat} {vs : List V3} (h : SlabK w g n vs k) (hb : Below B w w') (hg : g < B) : SlabK w' g n vs k := by
  obtain ⟨cur, hh, r⟩ := h
  exact ⟨cur, (hb.block g hg).trans hh, r⟩
theorem SlabK.lt {w : World} {g n k : Nat} {vs : List V3} (h : SlabK w g n vs k) : g < w.heap.size := by
  obtain ⟨cur, hh, _⟩ := h
  rcases Nat.lt_or_ge g w.heap.size with h | h
  · exact h
  · rw [Array.getElem?_eq_none h] at hh; cases hh
theorem SlabK.step {w : World} {g n k : Nat} {vs : List V3} (h : SlabK w g n vs k) (hk : k < n) :
    SlabK (((w.setCell ⟨g, k * 3, none⟩ (.int .i64 (nthV vs k).1)).setCell ⟨g, k * 3 + 1, none⟩ (.int .i64 (nthV vs k).2.1)).setCell ⟨g, k * 3 + 2, none⟩ (.string (nthV vs k).2.2)) g n vs (k + 1) := by
  obtain ⟨cur, hh, hs, hc⟩ := h
  refine ⟨_, slab_set (slab_set (slab_set hh _) _) _, by simpa using hs, fun i hi => ?_⟩
  by_cases e : i = k
  · subst e
    refine ⟨?_, ?_, ?_⟩
    · rw [Array.getElem?_setIfInBounds_ne (by omega), Array.getElem?_setIfInBounds_ne (by omega), Array.getElem?_setIfInBounds_self_of_lt (by omega)]
    · rw [Array.getElem?_setIfInBounds_ne (by omega), Array.getElem?_setIfInBounds_self_of_lt (by simp; omega)]
    · rw [Array.getElem?_setIfInBounds_self_of_lt (by simp; omega)]
  · have := hc i (by omega)
    refine ⟨?_, ?_, ?_⟩
    · rw [Array.getElem?_setIfInBounds_ne (by omega), Array.getElem?_setIfInBounds_ne (by omega), Array.getElem?_setIfInBounds_ne (by omega)]; exact this.1
    · rw [Array.getElem?_setIfInBounds_ne (by omega), Array.getElem?_setIfInBounds_ne (by omega), Array.getElem?_setIfInBounds_ne (by omega)]; exact this.2.1
    · rw [Array.getElem?_setIfInBounds_ne (by omega), Array.getElem?_setIfInBounds_ne (by omega), Array.getElem?_setIfInBounds_ne (by omega)]; exact this.2.2
theorem SlabK.there {w : World} {g n k j : Nat} {vs : List V3} (h : SlabK w g n vs k) (hj : j < n * 3) : ∃ v, w.cell? ⟨g, j, none⟩ = some v := by
  obtain ⟨cur, hh, hs, _⟩ := h
  exact ⟨cur[j]'(by omega), by rw [slab_cell hh]; exact Array.getElem?_eq_getElem _⟩
theorem SlabK.free {w : World} {g n k : Nat} {vs : List V3} (h : SlabK w g n vs k) (o : Nat) : w.frozen? ⟨g, o, none⟩ = false := by
  obtain ⟨cur, hh, _⟩ := h
  exact slab_free hh

set_option maxHeartbeats 1000000 in
theorem toS_any (a : Option Addr) (cap : Nat) (vs : List V3) (w : World) (hrow : RowV w a vs) (hlen : vs.length ≤ 1048576) :
    Calls Tryd.prog 11 #[.slice a vs.length cap] w fun e w' => ∃ g, e = .returned (.slice (some ⟨g, 0, none⟩) vs.length vs.length) ∧ w.heap.size ≤ g ∧ SlabK w' g vs.length vs vs.length ∧ Below w.heap.size w w' := by
  have HR : Hid (RowV w a vs) := hrow
  clear hrow
  generalize hL : vs.length = len at *
  have HL : Hid (vs.length = len) := hL
  clear hL
  obtain ⟨i0, hi, hz0, hz1, hz2⟩ := info_parts info24
  go_enter Tryd.func11, Tryd.ntmps11
  go_wp2_with (at_make; refine wpList_make_full _ rfl _ _ 33 rfl w.heap.size 27 i0 _ 3 Tryd.underlying33 hi hz0 hz1 .i64 .i64 _ _ len rfl rfl rfl rfl ?m1 ?m2 (Nat.le_refl _) ?_)
  case m1 => rw [hz2]; omega
  case m2 => unfold maxLen; omega
  intro w1 hown hgr
  have hB1 : Below w.heap.size w w1 := (Below.refl _ _).grown hgr (Nat.le_refl _) (fun k hk => by cases hk)
  have hS : SlabK w1 w.heap.size len vs 0 := by
    rcases hown.2 with ⟨h, _⟩ | ⟨g, c, cur, h, _, hh, _, _, hcs, _⟩
    · cases h
    · cases h
      exact ⟨cur, hh, hcs, fun i hi => by omega⟩
  clear hown hgr hi hz0 hz1 hz2
  go_wp2
  go_loopw [4] (fun i wr => ∃ k : Nat, k ≤ len ∧ i = .int .i64 k ∧ SlabK wr w.heap.size len vs k ∧ Below w.heap.size w wr) (fun i _ => len - (intOf i).toNat)
  case atStart => exact ⟨0, by omega, rfl, hS, hB1⟩
  case round =>
    obtain ⟨k, hk, rfl, hSk, hbl⟩ := hrel
    by_cases hlt : k < len
    · obtain ⟨b, off, rfl, hlb, ⟨hc0, hc1, hc2⟩, hsz⟩ := (HR.out.below hbl) k (by rw [HL.out]; exact hlt)
      go_wp2_with fail
      refine (toValue_any _ _ _ _).mono ?_
      rintro e w2 ⟨rfl, hb2⟩
      have hS2 := hSk.below hb2 hSk.lt
      have hB2 := below_step hbl (Nat.le_refl _) hb2
      obtain ⟨v0, hv0⟩ := hS2.there (j := k * 3) (by omega)
      obtain ⟨v1, hv1⟩ := hS2.there (j := k * 3 + 1) (by omega)
      obtain ⟨v2, hv2⟩ := hS2.there (j := k * 3 + 2) (by omega)
      have hf := hS2.free
      have hN := hS2.step hlt
      have HN : Hid (SlabK _ _ _ _ (k + 1)) := hN
      clear hc0 hc1 hc2 hb2 hlb hSk hbl hS2 hN hS hB1
      go_wp2
      go_roundw
      case rel => exact ⟨k + 1, by omega, by go_num, HN.out, ((hB2.setCell (p := ⟨w.heap.size, k * 3, none⟩) (Nat.le_refl _) _).setCell (p := ⟨w.heap.size, k * 3 + 1, none⟩) (Nat.le_refl _) _).setCell (p := ⟨w.heap.size, k * 3 + 2, none⟩) (Nat.le_refl _) _⟩
      case measure => simp [intOf]; omega
    · have e : k = len := by omega
      subst e
      go_wp2
      go_ret
      exact ⟨w.heap.size, rfl, Nat.le_refl _, hSk, hbl⟩

theorem eqValue_same (k n : Int) (t : ByteArray) (w : World) :
    Calls Tryd.prog 23 #[VV k n t, VV k n t] w fun e w' => e = .returned (.bool true) ∧ Below w.heap.size w w' := by
  go_enter Tryd.func23, Tryd.ntmps23
  go_wp2
  go_ret
  exact ⟨rfl, ((Below.refl _ _).alloc (Nat.le_refl _) _).alloc (by simp) _⟩

/-- Two values in two rows; what lay in w lies there still. -/
abbrev Pair (w : World) (b1 o1 : Nat) (v1 : V3) (b2 o2 : Nat) (v2 : V3) (w' : World) : Prop :=
  CellV w' b1 o1 v1 ∧ CellV w' b2 o2 v2 ∧ b1 < w'.heap.size ∧ b2 < w'.heap.size ∧ Below w.heap.size w w'
theorem CellV.below {w w' : World} {b o : Nat} {v : V3} (h : CellV w b o v) (hlt : b < w.heap.size) (hb : Below w.heap.size w w') : CellV w' b o v :=
  ⟨(hb.cell (p := ⟨b, o, none⟩) hlt).trans h.1, (hb.cell (p := ⟨b, o + 1, none⟩) hlt).trans h.2.1, (hb.cell (p := ⟨b, o + 2, none⟩) hlt).trans h.2.2⟩
theorem Pair.keep {w : World} {b1 o1 : Nat} {v1 : V3} {b2 o2 : Nat} {v2 : V3} {w1 w2 : World} (h : Pair w b1 o1 v1 b2 o2 v2 w1) (hb : Below w1.heap.size w1 w2) : Pair w b1 o1 v1 b2 o2 v2 w2 :=
  ⟨h.1.below h.2.2.1 hb, h.2.1.below h.2.2.2.1 hb, Nat.lt_of_lt_of_le h.2.2.1 hb.size, Nat.lt_of_lt_of_le h.2.2.2.1 hb.size, below_step h.2.2.2.2 (Nat.le_refl _) hb⟩

set_option maxHeartbeats 1000000 in
theorem eqS_same (a1 a2 : Option Addr) (c1 c2 : Nat) (vs : List V3) (w : World) (h1 : RowV w a1 vs) (h2 : RowV w a2 vs) (hlen : vs.length ≤ 1048576) :
    Calls Tryd.prog 13 #[.slice a1 vs.length c1, .slice a2 vs.length c2] w fun e w' => e = .returned (.bool true) ∧ Below w.heap.size w w' := by
  have H1 : Hid (RowV w a1 vs) := h1
  have H2 : Hid (RowV w a2 vs) := h2
  clear h1 h2
  generalize hL : vs.length = len at *
  have HL : Hid (vs.length = len) := hL
  clear hL
  go_enter Tryd.func13, Tryd.ntmps13
  go_wp2
  go_loopw [5] (fun i wr => ∃ k : Nat, k ≤ len ∧ i = .int .i64 k ∧ Below w.heap.size w wr) (fun i _ => len - (intOf i).toNat)
  case atStart => exact ⟨0, by omega, rfl, Below.refl _ _⟩
  case round =>
    obtain ⟨k, hk, rfl, hbl⟩ := hrel
    by_cases hlt : k < len
    · obtain ⟨b1, o1, rfl, hlb1, hc1, hsz⟩ := (H1.out.below hbl) k (by rw [HL.out]; exact hlt)
      obtain ⟨b2, o2, rfl, hlb2, hc2, _⟩ := (H2.out.below hbl) k (by rw [HL.out]; exact hlt)
      generalize nthV vs k = v at *
      obtain ⟨x, y, t⟩ := v
      have hP : Pair w b1 (o1 + k * 3) (x, y, t) b2 (o2 + k * 3) (x, y, t) wr.drew := ⟨hc1, hc2, hlb1, hlb2, hbl.drew⟩
      have hltI : (k : Int) < (len : Int) := by omega
      clear hc1 hc2
      go_wp2_with fail
      go_region_held3 (Pair w b1 (o1 + k * 3) (x, y, t) b2 (o2 + k * 3) (x, y, t)) (first | exact hP | exact Pair.keep (by assumption) hb) (first | (go_at_call 23; refine (eqValue_same _ _ _ _).mono ?_; rintro e wA ⟨rfl, hb⟩))
      rename_i hPL
      have hB := hPL.2.2.2.2
      clear hP hPL
      go_wp2
      go_roundw
      case rel => exact ⟨k + 1, by omega, by go_num, hB⟩
      case measure => simp [intOf]; omega
    · go_wp2
      go_ret
      exact ⟨rfl, hbl⟩

def okV3 (v : V3) : Bool := okV v.1 v.2.1 v.2.2
/-- A right row. -/
def okRow (vs : List V3) : Bool := decide (vs.length ≤ 8) && vs.all okV3
theorem okRow_long {vs : List V3} (h : 8 < vs.length) : okRow vs = false := by
  unfold okRow; have : decide (vs.length ≤ 8) = false := by simp; omega
  rw [this]; rfl
theorem okRow_bad {vs : List V3} {k : Nat} (hk : k < vs.length) (h : okV3 (nthV vs k) = false) : okRow vs = false := by
  unfold okRow
  have : vs.all okV3 = false := by
    rw [List.all_eq_false]
    refine ⟨vs[k], List.getElem_mem hk, ?_⟩
    unfold nthV at h
    rw [List.getD_eq_getElem?_getD, List.getElem?_eq_getElem hk] at h
    simpa using h
  rw [this]; simp
theorem okRow_good {vs : List V3} (h8 : vs.length ≤ 8) (h : ∀ j, j < vs.length → okV3 (nthV vs j) = true) : okRow vs = true := by
  unfold okRow
  simp only [Bool.and_eq_true, decide_eq_true_eq, List.all_eq_true]
  refine ⟨h8, fun x hx => ?_⟩
  obtain ⟨i, hi, rfl⟩ := List.getElem_of_mem hx
  have := h i hi
  unfold nthV at this
  rwa [List.getD_eq_getElem?_getD, List.getElem?_eq_getElem hi] at this
theorem allV_step' {P : Nat → Prop} {k : Nat} (h : ∀ j, j < k → P j) (hk : P k) : ∀ j, j < k + 1 → P j := fun j hj => by
  by_cases e : j = k
  · rw [e]; exact hk
  · exact h j (by omega)

set_option maxHeartbeats 1000000 in
theorem l01Row_any (a : Option Addr) (cap : Nat) (vs : List V3) (w : World) (hrow : RowV w a vs) (hlen : vs.length ≤ 1048576) :
    Calls Tryd.prog 18 #[.slice a vs.length cap] w fun e w' => e = .returned (.bool (okRow vs)) ∧ Below w.heap.size w w' := by
  have H1 : Hid (RowV w a vs) := hrow
  clear hrow
  generalize hL : vs.length = len at *
  have HL : Hid (vs.length = len) := hL
  clear hL
  by_cases h8 : 8 < len
  · have HR : Hid (okRow vs = false) := okRow_long (by rw [HL.out]; exact h8)
    go_enter Tryd.func18, Tryd.ntmps18
    go_wp2
    go_ret
    exact ⟨ret_bool' HR.out.symm, Below.refl _ _⟩
  go_enter Tryd.func18, Tryd.ntmps18
  go_wp2
  go_loopw [3] (fun i wr => ∃ k : Nat, k ≤ len ∧ i = .int .i64 k ∧ Hid (∀ j, j < k → okV3 (nthV vs j) = true) ∧ Below w.heap.size w wr) (fun i _ => len - (intOf i).toNat)
  case atStart => exact ⟨0, by omega, rfl, fun j hj => by omega, Below.refl _ _⟩
  case round =>
    obtain ⟨k, hk, rfl, HA, hbl⟩ := hrel
    by_cases hlt : k < len
    · obtain ⟨b, off, rfl, hlb, ⟨hc0, hc1, hc2⟩, hsz⟩ := (H1.out.below hbl) k (by rw [HL.out]; exact hlt)
      have hltI : (k : Int) < (len : Int) := by omega
      by_cases hok : okV (nthV vs k).1 (nthV vs k).2.1 (nthV vs k).2.2 = true
      · have HK : Hid (okV3 (nthV vs k) = true) := hok
        go_wp2_with fail
        refine (specValueOK_any _ _ _ _).mono ?_
        rintro e w1 ⟨rfl, hb1⟩
        have hB := below_step hbl (Nat.le_refl _) hb1
        clear hc0 hc1 hc2 hb1
        go_wp2
        go_roundw
        case rel => exact ⟨k + 1, by omega, by go_num, allV_step' HA.out HK.out, hB⟩
        case measure => simp [intOf]; omega
      · have hok' : okV (nthV vs k).1 (nthV vs k).2.1 (nthV vs k).2.2 = false := by simpa using hok
        have HR : Hid (okRow vs = false) := okRow_bad (by rw [HL.out]; exact hlt) hok'
        clear hok
        go_wp2_with fail
        refine (specValueOK_any _ _ _ _).mono ?_
        rintro e w1 ⟨rfl, hb1⟩
        have hB := below_step hbl (Nat.le_refl _) hb1
        clear hc0 hc1 hc2 hb1
        go_wp2
        go_ret
        exact ⟨ret_bool' HR.out.symm, hB⟩
    · have HR : Hid (okRow vs = true) := okRow_good (by rw [HL.out]; omega) (fun j hj => HA.out j (by have := HL.out; omega))
      go_wp2
      go_ret
      exact ⟨ret_bool' HR.out.symm, hbl⟩

end Go.Proofs.YtiimegahhnjjkaaDoor
