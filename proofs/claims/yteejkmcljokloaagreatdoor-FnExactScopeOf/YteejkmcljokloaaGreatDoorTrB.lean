/- Trees: measured (stage 11). -/
import Derived.Test.YteejkmcljokloaaGreatDoorTrA
import Derived.Deep.RegionHeld3
namespace Go.Proofs.YteejkmcljokloaaGreatDoor
open Go.RowKit

/-- A value of three cells. -/
abbrev ValV (x : ND) : Value := .agg #[.int .i64 x.vk, .int .i64 x.vn, .string x.vt]
set_option maxRecDepth 100000 in
theorem szV_any (x : ND) (left : Int) (w : World) (hs : x.vt.size ≤ maxLen) (h0 : 0 ≤ left) (h1 : left ≤ 1048576) :
    Calls Tryz.prog 18 #[ValV x, .int .i64 left] w fun e w' => ∃ r : Int, e = .returned (.int .i64 r) ∧ -1 ≤ r ∧ r ≤ left ∧ (0 ≤ r → x.vt.size ≤ 1048576) ∧ Below w.heap.size w w' := by
  obtain ⟨k, n, nm, of, vk, vn, vt⟩ := x
  have hB : Below w.heap.size w (w.alloc (.cells #[.int .i64 vk, .int .i64 vn, .string vt] 24)) := (Below.refl _ _).alloc (Nat.le_refl _) _
  simp only at hs
  unfold maxLen at hs
  by_cases c1 : left - (vt.size : Int) < 0
  · go_enter Tryz.func18, Tryz.ntmps18
    go_wp2
    go_ret
    exact ⟨-1, rfl, by omega, by omega, fun h => by omega, hB⟩
  · have HS : Hid (vt.size ≤ 1048576) := by show _ ≤ _; omega
    go_enter Tryz.func18, Tryz.ntmps18
    go_wp2
    go_ret
    exact ⟨left - (vt.size : Int), by go_num, by omega, by omega, fun _ => HS.out, hB⟩

/-- What szTreeS answers of the trees of f. -/
def SzS (f : Fo) : Prop := ∀ (a : Option Addr) (cap : Nat) (left : Int) (w : World), RowT 0 w a 0 f → f.len ≤ maxLen → 0 ≤ left → left ≤ 1048576 →
    Calls Tryz.prog 19 #[.slice a f.len cap, .int .i64 left] w fun e w' => ∃ r : Int, e = .returned (.int .i64 r) ∧ -1 ≤ r ∧ (0 ≤ r → r + (f.size : Int) ≤ left ∧ SmallF f) ∧ Below w.heap.size w w'
/-- A tree lies in a block. -/
abbrev BoxN (b : Nat) (x : ND) (s : Value) (w : World) : Prop := CellT w b 0 x s ∧ b < w.heap.size
theorem BoxN.below {b : Nat} {x : ND} {s : Value} {w w' : World} (h : BoxN b x s w) (hb : Below w.heap.size w w') : BoxN b x s w' := ⟨h.1.same (hb.block b h.2), Nat.lt_of_lt_of_le h.2 hb.size⟩
theorem BoxN.new {x : ND} {s : Value} {w : World} (ty : TypeId) : BoxN w.heap.size x s (w.alloc (.cells #[.int .i64 x.k, .int .i64 x.n, .string x.nm, .string x.of, .int .i64 x.vk, .int .i64 x.vn, .string x.vt, s] ty)) := ⟨⟨slab_cell (heap_new' _ _ _ rfl), slab_cell (heap_new' _ _ _ rfl), slab_cell (heap_new' _ _ _ rfl), slab_cell (heap_new' _ _ _ rfl), slab_cell (heap_new' _ _ _ rfl), slab_cell (heap_new' _ _ _ rfl), slab_cell (heap_new' _ _ _ rfl), slab_cell (heap_new' _ _ _ rfl)⟩, by simp⟩

set_option maxRecDepth 100000 in
set_option maxHeartbeats 2000000 in
theorem szT_any (x : ND) (ks : Fo) (hS : SzS ks) (ka : Option Addr) (kc : Nat) (left : Int) (w : World) (hrow : RowT 0 w ka 0 ks) (hlen : ks.len ≤ maxLen) (ht : TextsN maxLen x) (h0 : 0 ≤ left) (h1 : left ≤ 1048576) :
    Calls Tryz.prog 5 #[ValT x (.slice ka ks.len kc), .int .i64 left] w fun e w' => ∃ r : Int, e = .returned (.int .i64 r) ∧ -1 ≤ r ∧ (0 ≤ r → r + (ks.size : Int) ≤ left ∧ TextsN 1048576 x ∧ SmallF ks) ∧ Below w.heap.size w w' := by
  have HR : Hid (RowT 0 w ka 0 ks ∧ ks.len ≤ maxLen) := ⟨hrow, hlen⟩
  have HS : Hid (SzS ks) := hS
  have HV := fun left w => szV_any x left w ht.2.2
  clear hrow hlen hS
  obtain ⟨k, n, nm, of, vk, vn, vt⟩ := x
  obtain ⟨t0, t1, t2⟩ := ht
  simp only at t0 t1 t2 HV
  unfold maxLen at t0 t1 t2
  have B0 : Below w.heap.size w (w.alloc (.cells #[.int .i64 k, .int .i64 n, .string nm, .string of, .int .i64 vk, .int .i64 vn, .string vt, .slice ka ks.len kc] 27)) := (Below.refl _ _).alloc (Nat.le_refl _) _
  have X0 : Hid (BoxN w.heap.size ⟨k, n, nm, of, vk, vn, vt⟩ (.slice ka ks.len kc) (w.alloc (.cells #[.int .i64 k, .int .i64 n, .string nm, .string of, .int .i64 vk, .int .i64 vn, .string vt, .slice ka ks.len kc] 27))) := BoxN.new (x := ⟨k, n, nm, of, vk, vn, vt⟩) 27
  by_cases c1 : left - (nm.size : Int) < 0
  · go_enter Tryz.func5, Tryz.ntmps5
    go_wp2
    go_ret
    exact ⟨-1, rfl, by omega, fun h => by omega, B0⟩
  by_cases c2 : left - (nm.size : Int) - (of.size : Int) < 0
  · go_enter Tryz.func5, Tryz.ntmps5
    go_wp2
    go_ret
    exact ⟨-1, rfl, by omega, fun h => by omega, B0⟩
  go_enter Tryz.func5, Tryz.ntmps5
  go_wp2_with fail
  refine (HV (left - (nm.size : Int) - (of.size : Int)) _ (by omega) (by omega)).mono ?_
  rintro e w1 ⟨r, rfl, r0, r1, r2, b1⟩
  have B1 := B0.trans (b1.mono B0.size)
  have X1 := X0.out.below b1
  clear B0 X0 b1 HV
  by_cases hx : r < 0
  · clear X1 r2
    go_wp2
    go_ret
    exact ⟨-1, rfl, by omega, fun h => by omega, B1⟩
  obtain ⟨⟨_, _, _, _, _, _, _, y7⟩, _⟩ := X1
  have hv := r2 (by omega)
  clear r2
  go_wp2_with fail
  refine (HS.out ka kc r w1 (HR.out.1.below B1) HR.out.2 (by omega) (by omega)).mono ?_
  rintro e w2 ⟨q, rfl, q0, q2, b2⟩
  have B2 := B1.trans (b2.mono B1.size)
  clear y7 b2 B1
  by_cases hq : q < 0
  · clear q2
    go_wp2
    go_ret
    exact ⟨-1, rfl, by omega, fun h => by omega, B2⟩
  obtain ⟨q3, q4⟩ := q2 (by omega)
  have HQ : Hid (SmallF ks) := q4
  clear q4
  go_wp2
  go_ret
  exact ⟨q, rfl, q0, fun _ => ⟨by omega, ⟨by simp only; omega, by simp only; omega, hv⟩, HQ.out⟩, B2⟩

set_option maxRecDepth 100000 in
set_option maxHeartbeats 2000000 in
theorem szS_step (f : Fo) (ih : ∀ ks : Fo, ks.size < f.size → SzS ks) : SzS f := by
  intro a cap left w hrow hlen h0 h1
  have HR : Hid (RowT 0 w a 0 f) := hrow
  have IH : Hid (∀ i, i < f.len → SzS (f.kids i)) := fun i hi => ih _ (f.kids_lt i hi)
  clear hrow ih
  unfold maxLen at hlen
  obtain ⟨len, hL⟩ : ∃ m, f.len = m := ⟨_, rfl⟩
  have HL : Hid (f.len = len) := hL
  rw [hL] at hlen ⊢
  clear hL
  by_cases hlt : left - (len : Int) < 0
  · go_enter Tryz.func19, Tryz.ntmps19
    go_wp2
    go_ret
    exact ⟨-1, rfl, by omega, fun h => by omega, Below.refl _ _⟩
  · go_enter Tryz.func19, Tryz.ntmps19
    go_wp2
    go_loopw [1, 5] (fun l i wr => ∃ (k : Nat) (l' : Int), k ≤ len ∧ i = .int .i64 k ∧ l = .int .i64 l' ∧ 0 ≤ l' ∧ Hid (l' + (f.upTo k : Int) + (len : Int) ≤ left + (k : Int)) ∧ l' ≤ left ∧ Hid (∀ i, i < k → TextsN 1048576 (f.node i) ∧ SmallF (f.kids i)) ∧ Below w.heap.size w wr) (fun _ i _ => len - (intOf i).toNat)
    case atStart => exact ⟨0, _, by omega, rfl, rfl, by omega, (by show _ ≤ _; rw [Fo.upTo_zero]; omega), by omega, fun i hi => by omega, Below.refl _ _⟩
    case round =>
      obtain ⟨k, l', hk, rfl, rfl, hl0, HQ, hl1, HS, hbl⟩ := hrel
      by_cases hlt : k < len
      · obtain ⟨b, off, ka, kc, rfl, _, hlb, ⟨c0, c1, c2, c3, c4, c5, c6, c7⟩, ⟨_, hkl, htx⟩, hkr⟩ := (HR.out.below hbl).at k (by rw [HL.out]; exact hlt)
        have HU : Hid (f.upTo (k + 1) = f.upTo k + (f.kids k).size + 1) := f.upTo_succ k (by rw [HL.out]; exact hlt)
        have HS' : Hid (TextsN 1048576 (f.node k) → SmallF (f.kids k) → ∀ i, i < k + 1 → TextsN 1048576 (f.node i) ∧ SmallF (f.kids i)) := fun h h' i hi => by
          by_cases e : i = k
          · rw [e]; exact ⟨h, h'⟩
          · exact HS.out i (by omega)
        have HZ : Hid (SzS (f.kids k) ∧ RowT 0 wr ka 0 (f.kids k) ∧ (f.kids k).len ≤ maxLen ∧ TextsN maxLen (f.node k)) := ⟨IH.out k (by rw [HL.out]; exact hlt), hkr, hkl, htx⟩
        clear hkr hkl htx
        go_wp2_with fail
        refine (szT_any (f.node k) (f.kids k) HZ.out.1 ka kc l' wr HZ.out.2.1 HZ.out.2.2.1 HZ.out.2.2.2 hl0 (by omega)).mono ?_
        rintro e w1 ⟨r, rfl, r0, r2, hb1⟩
        have hB := below_step hbl (Nat.le_refl _) hb1
        clear c0 c1 c2 c3 c4 c5 c6 c7 hb1 hlb
        by_cases hneg : r < 0
        · clear r2
          go_wp2
          go_ret
          exact ⟨-1, rfl, by omega, fun h => by omega, hB⟩
        · obtain ⟨q1, q2, q3⟩ := r2 (by omega)
          have HN : Hid (∀ i, i < k + 1 → TextsN 1048576 (f.node i) ∧ SmallF (f.kids i)) := HS'.out q2 q3
          have HQ' : Hid (r + (f.upTo (k + 1) : Int) + (len : Int) ≤ left + ((k + 1 : Nat) : Int)) := by
            show _ ≤ _
            have := HQ.out
            rw [HU.out]
            omega
          have hr1 : r ≤ left := by omega
          clear r2 HS' HS HQ HU q1 q2 q3 HZ
          go_wp2
          go_roundw
          case rel => exact ⟨k + 1, _, by omega, by go_num, rfl, by omega, HQ', hr1, HN, hB⟩
          case measure => simp [intOf]; omega
      · obtain rfl : k = len := by omega
        go_wp2
        go_ret
        exact ⟨l', rfl, by omega, fun _ => ⟨by have := HQ.out; rw [← HL.out, f.upTo_len] at this; omega, SmallF.mk (by rw [HL.out]; exact HS.out)⟩, hbl⟩
theorem szS_all : ∀ (n : Nat) (f : Fo), f.size ≤ n → SzS f
  | 0, f, h => szS_step f fun ks hk => by omega
  | n + 1, f, h => szS_step f fun ks hk => szS_all n ks (by omega)
theorem szS_any (f : Fo) : SzS f := szS_all _ f (Nat.le_refl _)
end Go.Proofs.YteejkmcljokloaaGreatDoor
