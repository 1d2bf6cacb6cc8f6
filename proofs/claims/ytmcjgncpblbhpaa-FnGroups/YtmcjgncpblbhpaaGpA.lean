/- Columns: lists of integers copied, compared, marked, opened (stage 13). -/
import Derived.Test.YtmcjgncpblbhpaaGpM
import Derived.Test.YtmcjgncpblbhpaaPrI
namespace Go.Proofs.Ytmcjgncpblbhpaa
open Go.ChangeShapes Go.WideShapes Go.ChangeAt Go.RowKit Go.Joins

def nthC (ds : List Int) (i : Nat) : Int := ds.getD i 0
theorem nthC_get {ds : List Int} {i : Nat} (h : i < ds.length) : nthC ds i = ds[i] := by unfold nthC; simp [h]
/-- A slice of columns can be read. -/
def InA (w : World) (a : Option Addr) (ds : List Int) : Prop := ∀ i, i < ds.length → ∃ b off, a = some ⟨b, off, none⟩ ∧ b < w.heap.size ∧ w.cell? ⟨b, off + i, none⟩ = some (.int .i64 (nthC ds i))
theorem InA.below {w w' : World} {a : Option Addr} {ds : List Int} (h : InA w a ds) (hb : Below w.heap.size w w') : InA w' a ds := fun i hi => by
  obtain ⟨b, off, e, hlt, hc⟩ := h i hi
  exact ⟨b, off, e, Nat.lt_of_lt_of_le hlt hb.size, (hb.cell (p := ⟨b, off + i, none⟩) hlt).trans hc⟩
/-- Columns behind a pointer. -/
def InP (w : World) (g : Nat) (ds : List Int) : Prop := g < w.heap.size ∧ ∃ a c, w.cell? ⟨g, 0, none⟩ = some (.slice a ds.length c) ∧ InA w a ds
theorem InP.below {w w' : World} {g : Nat} {ds : List Int} (h : InP w g ds) (hb : Below w.heap.size w w') : InP w' g ds := by
  obtain ⟨h1, a, c, h2, h3⟩ := h
  exact ⟨Nat.lt_of_lt_of_le h1 hb.size, a, c, (hb.cell (p := ⟨g, 0, none⟩) h1).trans h2, h3.below hb⟩
theorem infoC : (Try.prog.info? 3).map (fun i => (i.zero, i.size, i.bytes)) = some (some (.int .i64 0), 1, 8) := by kernel_rfl
/-- A block of n columns, of which the first k are those of ds. -/
def SlabC (w : World) (g n : Nat) (ds : List Int) (k : Nat) : Prop := ∃ cur : Array Value, w.heap[g]? = some (.cells cur 3 (0, 0)) ∧ cur.size = n ∧ ∀ i, i < k → cur[i]? = some (.int .i64 (nthC ds i))
theorem SlabC.at {w w' : World} {g n k : Nat} {ds : List Int} (h : SlabC w g n ds k) (hb : w'.heap[g]? = w.heap[g]?) : SlabC w' g n ds k := by
  obtain ⟨cur, hh, r⟩ := h
  exact ⟨cur, hb.trans hh, r⟩
theorem SlabC.lt {w : World} {g n k : Nat} {ds : List Int} (h : SlabC w g n ds k) : g < w.heap.size := by
  obtain ⟨cur, hh, _⟩ := h
  exact slab_lt hh
theorem SlabC.below {w w' : World} {g n k : Nat} {ds : List Int} (h : SlabC w g n ds k) (hb : Below w.heap.size w w') : SlabC w' g n ds k := h.at (hb.block g h.lt)
theorem SlabC.free {w : World} {g n k : Nat} {ds : List Int} (h : SlabC w g n ds k) (o : Nat) : w.frozen? ⟨g, o, none⟩ = false := by
  obtain ⟨cur, hh, _⟩ := h
  exact slab_free hh
theorem SlabC.there {w : World} {g n k j : Nat} {ds : List Int} (h : SlabC w g n ds k) (hj : j < n) : ∃ v, w.cell? ⟨g, j, none⟩ = some v := by
  obtain ⟨cur, hh, hs, _⟩ := h
  exact blk_there hh (by omega)
theorem SlabC.step {w : World} {g n k : Nat} {ds : List Int} (h : SlabC w g n ds k) (hk : k < n) : SlabC (w.setCell ⟨g, k, none⟩ (.int .i64 (nthC ds k))) g n ds (k + 1) := by
  obtain ⟨cur, hh, hs, hc⟩ := h
  refine ⟨_, slab_set hh _, by simpa using hs, fun i hi => ?_⟩
  by_cases e : i = k
  · subst e
    rw [Array.getElem?_setIfInBounds_self_of_lt (by omega)]
  · rw [Array.getElem?_setIfInBounds_ne (by omega)]
    exact hc i (by omega)
theorem SlabC.any {w : World} {g n k j : Nat} {ds : List Int} (h : SlabC w g n ds k) (v : Value) : SlabC (w.setCell ⟨g, j, none⟩ v) g n ds 0 := by
  obtain ⟨cur, hh, hs, _⟩ := h
  exact ⟨_, slab_set hh _, by simpa using hs, fun i hi => by omega⟩
theorem SlabC.inA {w : World} {g : Nat} {ds : List Int} (h : SlabC w g ds.length ds ds.length) : InA w (some ⟨g, 0, none⟩) ds := fun i hi => by
  have hl := h.lt
  obtain ⟨cur, hh, _, hc⟩ := h
  exact ⟨g, 0, rfl, hl, by rw [slab_cell hh, Nat.zero_add]; exact hc i hi⟩
set_option maxHeartbeats 2000000 in
theorem toC_any (a : Option Addr) (cap : Nat) (ds : List Int) (w : World) (hrow : InA w a ds) (hlen : ds.length ≤ 1048576) :
    Calls Try.prog 30 #[.slice a ds.length cap] w fun e w' => ∃ g, e = .returned (.slice (some ⟨g, 0, none⟩) ds.length ds.length) ∧ w.heap.size ≤ g ∧ SlabC w' g ds.length ds ds.length ∧ Below w.heap.size w w' := by
  have HR : Hid (InA w a ds) := hrow
  clear hrow
  generalize hL : ds.length = len at *
  have HL : Hid (ds.length = len) := hL
  clear hL
  obtain ⟨i0, hi, hz0, hz1, hz2⟩ := info_parts infoC
  go_enter Try.func30, Try.ntmps30
  go_wp2_with (at_make; refine wpList_make_full _ rfl _ _ 43 rfl w.heap.size 3 i0 _ 1 Try.underlying43 hi hz0 hz1 .i64 .i64 _ _ len rfl rfl rfl rfl ?m1 ?m2 (Nat.le_refl _) ?_)
  case m1 => rw [hz2]; omega
  case m2 => unfold maxLen; omega
  intro w1 hown hgr
  have hB1 : Below w.heap.size w w1 := (Below.refl _ _).grown hgr (Nat.le_refl _) (fun k hk => by cases hk)
  have hS : SlabC w1 w.heap.size len ds 0 := by
    rcases hown.2 with ⟨h, _⟩ | ⟨g, c, cur, h, _, hh, _, _, hcs, _⟩
    · cases h
    · cases h
      exact ⟨cur, hh, by simpa using hcs, fun i hi => by omega⟩
  clear hown hgr hi hz0 hz1 hz2
  go_wp2
  go_loopw [4] (fun i wr => ∃ k : Nat, k ≤ len ∧ i = .int .i64 k ∧ SlabC wr w.heap.size len ds k ∧ Below w.heap.size w wr) (fun i _ => len - (intOf i).toNat)
  case atStart => exact ⟨0, by omega, rfl, hS, hB1⟩
  case round =>
    obtain ⟨k, hk, rfl, hSk, hbl⟩ := hrel
    by_cases hlt : k < len
    · obtain ⟨b, off, rfl, hlb, hc⟩ := (HR.out.below hbl) k (by rw [HL.out]; exact hlt)
      obtain ⟨v0, hv0⟩ := hSk.there (j := k) (by omega)
      have hf := hSk.free
      have HN : Hid (SlabC _ _ _ _ (k + 1)) := hSk.step hlt
      clear hSk hS hB1 hlb
      go_wp2
      go_roundw
      case rel => exact ⟨k + 1, by omega, by go_num, HN.out, hbl.setCell (p := ⟨w.heap.size, k, none⟩) (Nat.le_refl _) _⟩
      case measure => simp [intOf]; omega
    · have e : k = len := by omega
      subst e
      go_wp2
      go_ret
      exact ⟨w.heap.size, rfl, Nat.le_refl _, hSk, hbl⟩
set_option maxHeartbeats 2000000 in
theorem eqC_same (a1 a2 : Option Addr) (c1 c2 : Nat) (ds : List Int) (w : World) (h1 : InA w a1 ds) (h2 : InA w a2 ds) (hlen : ds.length ≤ 1048576) :
    Calls Try.prog 32 #[.slice a1 ds.length c1, .slice a2 ds.length c2] w fun e w' => e = .returned (.bool true) ∧ Below w.heap.size w w' := by
  have H : Hid (InA w a1 ds ∧ InA w a2 ds) := ⟨h1, h2⟩
  clear h1 h2
  generalize hL : ds.length = len at *
  have HL : Hid (ds.length = len) := hL
  clear hL
  go_enter Try.func32, Try.ntmps32
  go_wp2
  go_loopw [5] (fun i wr => ∃ k : Nat, k ≤ len ∧ i = .int .i64 k ∧ Below w.heap.size w wr) (fun i _ => len - (intOf i).toNat)
  case atStart => exact ⟨0, by omega, rfl, Below.refl _ _⟩
  case round =>
    obtain ⟨k, hk, rfl, hbl⟩ := hrel
    by_cases hlt : k < len
    · have hltI : (k : Int) < (len : Int) := by omega
      obtain ⟨b1, o1, rfl, lb1, x1⟩ := (H.out.1.below hbl) k (by rw [HL.out]; exact hlt)
      obtain ⟨b2, o2, rfl, lb2, x2⟩ := (H.out.2.below hbl) k (by rw [HL.out]; exact hlt)
      generalize nthC ds k = d at *
      go_wp2_with fail
      go_quiet (fail)
      go_wp2
      go_roundw
      case rel => exact ⟨k + 1, by omega, by go_num, below_drewN hbl _⟩
      case measure => simp [intOf]; omega
    · go_wp2
      go_ret
      exact ⟨rfl, hbl⟩
set_option maxRecDepth 100000 in
set_option maxHeartbeats 2000000 in
theorem markC_any (g n cap : Nat) (ds : List Int) (k : Int) (w : World) (h : SlabC w g n ds n) (hn : n ≤ 1048576) (k0 : 0 ≤ k) (k1 : k ≤ 1125899906842624) :
    Calls Try.prog 33 #[.slice (some ⟨g, 0, none⟩) n cap, .int .i64 k] w fun r w' => r = .returned (.int .i64 (k + n)) ∧ Kept (fun x => x = g) w w' := by
  have HS : Hid (SlabC w g n ds 0) := by obtain ⟨cur, hh, hs, _⟩ := h; exact ⟨cur, hh, hs, fun i hi => by omega⟩
  clear h
  go_enter Try.func33, Try.ntmps33
  go_wp2
  go_loopw [1, 5] (fun m i wr => ∃ q : Nat, q ≤ n ∧ i = .int .i64 q ∧ m = .int .i64 (k + q) ∧ Hid (SlabC wr g n ds 0 ∧ Kept (fun x => x = g) w wr)) (fun _ i _ => n - (intOf i).toNat)
  case atStart => exact ⟨0, by omega, rfl, by simp, HS.out, Kept.refl _ _⟩
  case round =>
    obtain ⟨q, hq, rfl, rfl, HW⟩ := hrel
    by_cases hlt : q < n
    · have hltI : (q : Int) < (n : Int) := by omega
      obtain ⟨v0, hv0⟩ := HW.out.1.there (j := q) hlt
      have hf := HW.out.1.free
      have HN : Hid (∀ v, SlabC (wr.setCell ⟨g, q, none⟩ v) g n ds 0 ∧ Kept (fun x => x = g) w (wr.setCell ⟨g, q, none⟩ v)) := fun v => ⟨HW.out.1.any v, HW.out.2.set _ rfl⟩
      clear HW
      go_wp2
      go_roundw
      case rel => exact ⟨q + 1, by omega, by go_num, by rw [show k + (q : Int) + 1 = k + ((q + 1 : Nat) : Int) by push_cast; omega], HN.out _⟩
      case measure => simp [intOf]; omega
    · obtain rfl : q = n := by omega
      go_wp2
      go_ret
      exact ⟨rfl, HW.out.2⟩
theorem exists_listC {P : Nat → Int → Prop} : ∀ n, (∀ i, i < n → ∃ v, P i v) → ∃ vs : List Int, vs.length = n ∧ ∀ i, i < n → P i (nthC vs i)
  | 0, _ => ⟨[], rfl, fun i hi => by omega⟩
  | n + 1, h => by
    obtain ⟨vs, hl, hv⟩ := exists_listC n (fun i hi => h i (by omega))
    obtain ⟨v, hp⟩ := h n (by omega)
    refine ⟨vs ++ [v], by simp [hl], fun i hi => ?_⟩
    by_cases e : i = n
    · subst e
      have : nthC (vs ++ [v]) i = v := by unfold nthC; simp [List.getD_eq_getElem?_getD, hl]
      rw [this]; exact hp
    · have : nthC (vs ++ [v]) i = nthC vs i := by unfold nthC; rw [List.getD_eq_getElem?_getD, List.getD_eq_getElem?_getD, List.getElem?_append_left (by omega)]
      rw [this]; exact hv i (by omega)

theorem cells3 : Try.prog.cellsOf 3 = 1 := by kernel_rfl
set_option maxRecDepth 100000 in
theorem open_inA {H : Type} {enc : TypeId × Value → H} {W : World} {a : Option Addr} {len cap : Nat} {d : DataW H} {p : List MemPlace}
    (h : DataW.Trod enc Try.prog W 0 (fun _ => true) true 43 (.slice a len cap) d p) : ∃ ds : List Int, ds.length = len ∧ InA W a ds ∧ len ≤ maxLen := by
  obtain ⟨fuel, hf⟩ := h
  rcases open_ints Try.underlying43 Try.underlying3 cells3 hf with ⟨hcs, _⟩ | ⟨ad, l, c, zs, hcs, _, hl, hm, hz, _, hcell, _⟩
  · simp [Value.cells] at hcs
    obtain ⟨rfl, rfl, rfl⟩ := hcs
    exact ⟨[], rfl, fun i hi => by simp at hi, Nat.zero_le _⟩
  · simp [Value.cells] at hcs
    obtain ⟨rfl, rfl, rfl⟩ := hcs
    simp at hz
    have key : ∀ i, i < len → ∃ x : Int, ∃ b off, some ad = some ⟨b, off, none⟩ ∧ b < W.heap.size ∧ W.cell? ⟨b, off + i, none⟩ = some (.int .i64 x) := fun i hi => by
      have h1 := hcell i (by omega)
      obtain ⟨b, off, spot⟩ := ad
      have hs : spot = none := by simpa [Addr.add] using World.cell?_spot (hcell 0 (by omega))
      subst hs
      rw [add_plain] at h1
      exact ⟨_, b, off, rfl, World.block_lt_of_cell? W _ h1, h1⟩
    obtain ⟨ds, hrl, hr⟩ := exists_listC len key
    refine ⟨ds, hrl, fun i hi => ?_, Nat.le_trans hl hm⟩
    obtain ⟨b, off, e, r⟩ := hr i (by omega)
    exact ⟨b, off, e, r⟩
end Go.Proofs.Ytmcjgncpblbhpaa
