/- Lists of acts: measured, copied, compared, marked (stage 4). -/
import Derived.Test.YtaklphoplfofbaaLwA
namespace Go.Proofs.Ytaklphoplfofbaa
open Go.RowKit

theorem info39 : (Try.prog.info? 39).map (fun i => (i.zero, i.size, i.bytes)) = some (some (.agg #[.int .i64 0, .int .i64 0]), 2, 16) := by kernel_rfl
/-- A block of the call's own of n acts, of which the first k are those of ps. -/
def SlabQ (w : World) (g n : Nat) (ps : List P2) (k : Nat) : Prop :=
  ∃ cur, w.heap[g]? = some (.cells cur 39 (0, 0)) ∧ cur.size = n * 2 ∧ ∀ i, i < k → cur[i * 2]? = some (.int .i64 (nthP ps i).1) ∧ cur[i * 2 + 1]? = some (.int .i64 (nthP ps i).2)
theorem SlabQ.below {w w' : World} {g n k B : Nat} {ps : List P2} (h : SlabQ w g n ps k) (hb : Below B w w') (hg : g < B) : SlabQ w' g n ps k := by
  obtain ⟨cur, hh, r⟩ := h
  exact ⟨cur, (hb.block g hg).trans hh, r⟩
theorem SlabQ.lt {w : World} {g n k : Nat} {ps : List P2} (h : SlabQ w g n ps k) : g < w.heap.size := by
  obtain ⟨cur, hh, _⟩ := h
  exact slab_lt hh
theorem SlabQ.step {w : World} {g n k : Nat} {ps : List P2} (h : SlabQ w g n ps k) (hk : k < n) :
    SlabQ ((w.setCell ⟨g, k * 2, none⟩ (.int .i64 (nthP ps k).1)).setCell ⟨g, k * 2 + 1, none⟩ (.int .i64 (nthP ps k).2)) g n ps (k + 1) := by
  obtain ⟨cur, hh, hs, hc⟩ := h
  refine ⟨_, slab_set (slab_set hh _) _, by simpa using hs, fun i hi => ?_⟩
  by_cases e : i = k
  · subst e
    refine ⟨?_, ?_⟩
    · rw [Array.getElem?_setIfInBounds_ne (by omega), Array.getElem?_setIfInBounds_self_of_lt (by omega)]
    · rw [Array.getElem?_setIfInBounds_self_of_lt (by simp; omega)]
  · have := hc i (by omega)
    refine ⟨?_, ?_⟩
    · rw [Array.getElem?_setIfInBounds_ne (by omega), Array.getElem?_setIfInBounds_ne (by omega)]; exact this.1
    · rw [Array.getElem?_setIfInBounds_ne (by omega), Array.getElem?_setIfInBounds_ne (by omega)]; exact this.2
theorem SlabQ.there {w : World} {g n k j : Nat} {ps : List P2} (h : SlabQ w g n ps k) (hj : j < n * 2) : ∃ v, w.cell? ⟨g, j, none⟩ = some v := by
  obtain ⟨cur, hh, hs, _⟩ := h
  exact ⟨cur[j]'(by omega), by rw [slab_cell hh]; exact Array.getElem?_eq_getElem _⟩
theorem SlabQ.free {w : World} {g n k : Nat} {ps : List P2} (h : SlabQ w g n ps k) (o : Nat) : w.frozen? ⟨g, o, none⟩ = false := by
  obtain ⟨cur, hh, _⟩ := h
  exact slab_free hh
theorem SlabQ.row {w : World} {g : Nat} {ps : List P2} (h : SlabQ w g ps.length ps ps.length) : RowP w (some ⟨g, 0, none⟩) ps := fun i hi => by
  have hl := h.lt
  obtain ⟨cur, hh, _, hc⟩ := h
  have := hc i hi
  refine ⟨g, 0, rfl, hl, ⟨?_, ?_⟩⟩
  · rw [slab_cell hh, Nat.zero_add]; exact this.1
  · rw [slab_cell hh, Nat.zero_add]; exact this.2
theorem SlabQ.kept {S : Nat → Prop} {w w' : World} {g n k : Nat} {ps : List P2} (h : SlabQ w g n ps k) (hK : Kept S w w') (hS : ¬ S g) : SlabQ w' g n ps k := by
  have hl := h.lt
  obtain ⟨cur, hh, r⟩ := h
  exact ⟨cur, (hK.block g hl hS).trans hh, r⟩
theorem szQ_any (a : Option Addr) (n c : Nat) (left : Int) (w : World) (hn : n ≤ maxLen) (h0 : 0 ≤ left) (h1 : left ≤ 1048576) :
    Calls Try.prog 35 #[.slice a n c, .int .i64 left] w fun e w' => ∃ x : Int, e = .returned (.int .i64 x) ∧ -1 ≤ x ∧ x ≤ 1048576 ∧ (0 ≤ x → n ≤ 1048576) ∧ w' = w := by
  unfold maxLen at hn
  by_cases h : left - (n : Int) < 0
  · go_enter Try.func35, Try.ntmps35
    go_wp2
    go_ret
    exact ⟨-1, rfl, by omega, by omega, by omega, rfl⟩
  · go_enter Try.func35, Try.ntmps35
    go_wp2
    go_ret
    exact ⟨left - n, by go_num, by omega, by omega, by omega, rfl⟩

set_option maxHeartbeats 1000000 in
theorem toQ_any (a : Option Addr) (cap : Nat) (ps : List P2) (w : World) (hrow : RowP w a ps) (hlen : ps.length ≤ 1048576) :
    Calls Try.prog 36 #[.slice a ps.length cap] w fun e w' => ∃ g, e = .returned (.slice (some ⟨g, 0, none⟩) ps.length ps.length) ∧ w.heap.size ≤ g ∧ SlabQ w' g ps.length ps ps.length ∧ Below w.heap.size w w' := by
  have HR : Hid (RowP w a ps) := hrow
  clear hrow
  generalize hL : ps.length = len at *
  have HL : Hid (ps.length = len) := hL
  clear hL
  obtain ⟨i0, hi, hz0, hz1, hz2⟩ := info_parts info39
  go_enter Try.func36, Try.ntmps36
  go_wp2_with (at_make; refine wpList_make_full _ rfl _ _ 24 rfl w.heap.size 39 i0 _ 2 Try.underlying24 hi hz0 hz1 .i64 .i64 _ _ len rfl rfl rfl rfl ?m1 ?m2 (Nat.le_refl _) ?_)
  case m1 => rw [hz2]; omega
  case m2 => unfold maxLen; omega
  intro w1 hown hgr
  have hB1 : Below w.heap.size w w1 := (Below.refl _ _).grown hgr (Nat.le_refl _) (fun k hk => by cases hk)
  have hS : SlabQ w1 w.heap.size len ps 0 := by
    rcases hown.2 with ⟨h, _⟩ | ⟨g, c, cur, h, _, hh, _, _, hcs, _⟩
    · cases h
    · cases h
      exact ⟨cur, hh, hcs, fun i hi => by omega⟩
  clear hown hgr hi hz0 hz1 hz2
  go_wp2
  go_loopw [4] (fun i wr => ∃ k : Nat, k ≤ len ∧ i = .int .i64 k ∧ SlabQ wr w.heap.size len ps k ∧ Below w.heap.size w wr) (fun i _ => len - (intOf i).toNat)
  case atStart => exact ⟨0, by omega, rfl, hS, hB1⟩
  case round =>
    obtain ⟨k, hk, rfl, hSk, hbl⟩ := hrel
    by_cases hlt : k < len
    · obtain ⟨b, off, rfl, hlb, ⟨hc0, hc1⟩⟩ := (HR.out.below hbl) k (by rw [HL.out]; exact hlt)
      go_wp2_with fail
      refine (toAct_any (nthP ps k).1 (nthP ps k).2 _).mono ?_
      rintro e w2 ⟨rfl, hb2⟩
      have hS2 := hSk.below hb2 hSk.lt
      have hB2 := below_step hbl (Nat.le_refl _) hb2
      obtain ⟨v0, hv0⟩ := hS2.there (j := k * 2) (by omega)
      obtain ⟨v1, hv1⟩ := hS2.there (j := k * 2 + 1) (by omega)
      have hf := hS2.free
      have hN := hS2.step hlt
      have HN : Hid (SlabQ _ _ _ _ (k + 1)) := hN
      clear hc0 hc1 hb2 hlb hSk hbl hS2 hN hS hB1
      go_wp2
      go_roundw
      case rel => exact ⟨k + 1, by omega, by go_num, HN.out, (hB2.setCell (p := ⟨w.heap.size, k * 2, none⟩) (Nat.le_refl _) _).setCell (p := ⟨w.heap.size, k * 2 + 1, none⟩) (Nat.le_refl _) _⟩
      case measure => simp [intOf]; omega
    · obtain rfl : k = len := by omega
      go_wp2
      go_ret
      exact ⟨_, rfl, Nat.le_refl _, hSk, hbl⟩
theorem eqAct_same (p : P2) (w : World) :
    Calls Try.prog 61 #[PV p, PV p] w fun e w' => e = .returned (.bool true) ∧ Below w.heap.size w w' := by
  obtain ⟨n, t⟩ := p
  go_enter Try.func61, Try.ntmps61
  go_wp2
  go_ret
  exact ⟨rfl, ((Below.refl _ _).alloc (Nat.le_refl _) _).alloc (by simp) _⟩

set_option maxRecDepth 100000 in
set_option maxHeartbeats 1000000 in
theorem eqQ_same (a1 a2 : Option Addr) (c1 c2 : Nat) (ps : List P2) (w : World) (h1 : RowP w a1 ps) (h2 : RowP w a2 ps) (hlen : ps.length ≤ 1048576) :
    Calls Try.prog 38 #[.slice a1 ps.length c1, .slice a2 ps.length c2] w fun e w' => e = .returned (.bool true) ∧ Below w.heap.size w w' := by
  have H1 : Hid (RowP w a1 ps) := h1
  have H2 : Hid (RowP w a2 ps) := h2
  clear h1 h2
  generalize hL : ps.length = len at *
  have HL : Hid (ps.length = len) := hL
  clear hL
  go_enter Try.func38, Try.ntmps38
  go_wp2
  go_loopw [5] (fun i wr => ∃ k : Nat, k ≤ len ∧ i = .int .i64 k ∧ Below w.heap.size w wr) (fun i _ => len - (intOf i).toNat)
  case atStart => exact ⟨0, by omega, rfl, Below.refl _ _⟩
  case round =>
    obtain ⟨k, hk, rfl, hbl⟩ := hrel
    by_cases hlt : k < len
    · obtain ⟨b1, o1, rfl, hlb1, hc1⟩ := (H1.out.below hbl) k (by rw [HL.out]; exact hlt)
      obtain ⟨b2, o2, rfl, hlb2, hc2⟩ := (H2.out.below hbl) k (by rw [HL.out]; exact hlt)
      generalize nthP ps k = v at *
      obtain ⟨x, t⟩ := v
      have hP : Pair w b1 (o1 + k * 2) (x, t) b2 (o2 + k * 2) (x, t) wr.drew := ⟨hc1, hc2, hlb1, hlb2, hbl.drew⟩
      have hltI : (k : Int) < (len : Int) := by omega
      clear hc1 hc2
      go_wp2_with fail
      go_region_held3 (Pair w b1 (o1 + k * 2) (x, t) b2 (o2 + k * 2) (x, t)) (first | exact hP | exact Pair.keep (by assumption) hb) (first | (go_at_call 61; refine (eqAct_same (x, t) _).mono ?_; rintro e wA ⟨rfl, hb⟩))
      rename_i hPL
      have hB := hPL.2.2.2.2
      clear hP hPL
      go_wp2
      go_roundw
      case rel => exact ⟨k + 1, by omega, by go_num, hB⟩
      case measure => simp [intOf]; omega
    · go_wp2
      go_ret
      exact ⟨rfl, hbl⟩

set_option maxRecDepth 100000 in
set_option maxHeartbeats 2000000 in
theorem markQ_slab (g n c N : Nat) (cur0 : Array Value) (k : Int) (w : World) (hh : w.heap[g]? = some (.cells cur0 39 (0, 0))) (hN : cur0.size = N) (hn : n * 2 ≤ N) (k0 : 0 ≤ k) (k1 : k ≤ 1000000000) (hn2 : n ≤ 1048576) :
    Calls Try.prog 39 #[.slice (some ⟨g, 0, none⟩) n c, .int .i64 k] w fun r w' => r = .returned (.int .i64 (k + 2 * n)) ∧ Kept (fun j => j = g) w w' := by
  have HH : Hid (w.heap[g]? = some (.cells cur0 39 (0, 0))) := hh
  have HN : Hid (cur0.size = N) := hN
  clear hh hN
  go_enter Try.func39, Try.ntmps39
  go_wp2
  go_loopw [1, 5] (fun m i wr => ∃ j : Nat, j ≤ n ∧ i = .int .i64 j ∧ m = .int .i64 (k + 2 * j) ∧ (∃ cur, wr.heap[g]? = some (.cells cur 39 (0, 0)) ∧ cur.size = N) ∧ Kept (fun j => j = g) w wr) (fun _ i _ => n - (intOf i).toNat)
  case atStart => exact ⟨0, by omega, rfl, by simp, ⟨cur0, HH.out, HN.out⟩, Kept.refl _ _⟩
  case round =>
    obtain ⟨j, hj, rfl, rfl, ⟨cur, hc, hs⟩, hK⟩ := hrel
    have HC : Hid (wr.heap[g]? = some (.cells cur 39 (0, 0)) ∧ cur.size = N) := ⟨hc, hs⟩
    clear hc hs
    by_cases hlt : j < n
    · obtain ⟨v0, hv0⟩ : ∃ v, wr.cell? ⟨g, j * 2, none⟩ = some v := ⟨cur[j * 2]'(by have := HC.out.2; omega), by rw [slab_cell HC.out.1]; exact Array.getElem?_eq_getElem _⟩
      obtain ⟨v1, hv1⟩ : ∃ v, wr.cell? ⟨g, j * 2 + 1, none⟩ = some v := ⟨cur[j * 2 + 1]'(by have := HC.out.2; omega), by rw [slab_cell HC.out.1]; exact Array.getElem?_eq_getElem _⟩
      have hf : ∀ o, wr.frozen? ⟨g, o, none⟩ = false := fun o => slab_free HC.out.1
      have HNx : Hid (∀ x y, ∃ cur', ((wr.setCell ⟨g, j * 2, none⟩ x).setCell ⟨g, j * 2 + 1, none⟩ y).heap[g]? = some (.cells cur' 39 (0, 0)) ∧ cur'.size = N) := fun x y =>
        ⟨_, slab_set (slab_set HC.out.1 _) _, by simpa using HC.out.2⟩
      go_wp2
      go_roundw
      case rel => exact ⟨j + 1, by omega, by go_num, by go_num, HNx.out _ _, (hK.set _ rfl).set _ rfl⟩
      case measure => simp [intOf]; omega
    · obtain rfl : j = n := by omega
      go_wp2
      go_ret
      exact ⟨rfl, hK⟩

end Go.Proofs.Ytaklphoplfofbaa
