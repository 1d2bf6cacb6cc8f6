/- Flags copied, compared, marked, opened (stage 13). -/
import Derived.Test.YtmcjgncpblbhpaaKsJ
import Derived.Test.YtmcjgncpblbhpaaPrI
namespace Go.Proofs.Ytmcjgncpblbhpaa
open Go.ChangeShapes Go.WideShapes Go.ChangeAt Go.RowKit Go.Joins

theorem infoB : (Try.prog.info? 4).map (fun i => (i.zero, i.size, i.bytes)) = some (some (.bool false), 1, 1) := by kernel_rfl
/-- A block of n flags, of which the first k are those of ds. -/
def SlabB (w : World) (g n : Nat) (ds : List Bool) (k : Nat) : Prop := ∃ cur : Array Value, w.heap[g]? = some (.cells cur 4 (0, 0)) ∧ cur.size = n ∧ ∀ i, i < k → cur[i]? = some (.bool (nthB ds i))
theorem SlabB.at {w w' : World} {g n k : Nat} {ds : List Bool} (h : SlabB w g n ds k) (hb : w'.heap[g]? = w.heap[g]?) : SlabB w' g n ds k := by
  obtain ⟨cur, hh, r⟩ := h
  exact ⟨cur, hb.trans hh, r⟩
theorem SlabB.lt {w : World} {g n k : Nat} {ds : List Bool} (h : SlabB w g n ds k) : g < w.heap.size := by
  obtain ⟨cur, hh, _⟩ := h
  exact slab_lt hh
theorem SlabB.below {w w' : World} {g n k : Nat} {ds : List Bool} (h : SlabB w g n ds k) (hb : Below w.heap.size w w') : SlabB w' g n ds k := h.at (hb.block g h.lt)
theorem SlabB.free {w : World} {g n k : Nat} {ds : List Bool} (h : SlabB w g n ds k) (o : Nat) : w.frozen? ⟨g, o, none⟩ = false := by
  obtain ⟨cur, hh, _⟩ := h
  exact slab_free hh
theorem SlabB.there {w : World} {g n k j : Nat} {ds : List Bool} (h : SlabB w g n ds k) (hj : j < n) : ∃ v, w.cell? ⟨g, j, none⟩ = some v := by
  obtain ⟨cur, hh, hs, _⟩ := h
  exact blk_there hh (by omega)
theorem SlabB.step {w : World} {g n k : Nat} {ds : List Bool} (h : SlabB w g n ds k) (hk : k < n) : SlabB (w.setCell ⟨g, k, none⟩ (.bool (nthB ds k))) g n ds (k + 1) := by
  obtain ⟨cur, hh, hs, hc⟩ := h
  refine ⟨_, slab_set hh _, by simpa using hs, fun i hi => ?_⟩
  by_cases e : i = k
  · subst e
    rw [Array.getElem?_setIfInBounds_self_of_lt (by omega)]
  · rw [Array.getElem?_setIfInBounds_ne (by omega)]
    exact hc i (by omega)
theorem SlabB.any {w : World} {g n k j : Nat} {ds : List Bool} (h : SlabB w g n ds k) (v : Value) : SlabB (w.setCell ⟨g, j, none⟩ v) g n ds 0 := by
  obtain ⟨cur, hh, hs, _⟩ := h
  exact ⟨_, slab_set hh _, by simpa using hs, fun i hi => by omega⟩
theorem SlabB.boA {w : World} {g : Nat} {ds : List Bool} (h : SlabB w g ds.length ds ds.length) : BoA w (some ⟨g, 0, none⟩) ds := fun i hi => by
  have hl := h.lt
  obtain ⟨cur, hh, _, hc⟩ := h
  exact ⟨g, 0, rfl, hl, by rw [slab_cell hh, Nat.zero_add]; exact hc i hi⟩
set_option maxHeartbeats 2000000 in
theorem toB_any (a : Option Addr) (cap : Nat) (ds : List Bool) (w : World) (hrow : BoA w a ds) (hlen : ds.length ≤ 1048576) :
    Calls Try.prog 27 #[.slice a ds.length cap] w fun e w' => ∃ g, e = .returned (.slice (some ⟨g, 0, none⟩) ds.length ds.length) ∧ w.heap.size ≤ g ∧ SlabB w' g ds.length ds ds.length ∧ Below w.heap.size w w' := by
  have HR : Hid (BoA w a ds) := hrow
  clear hrow
  generalize hL : ds.length = len at *
  have HL : Hid (ds.length = len) := hL
  clear hL
  obtain ⟨i0, hi, hz0, hz1, hz2⟩ := info_parts infoB
  go_enter Try.func27, Try.ntmps27
  go_wp2_with (at_make; refine wpList_make_full _ rfl _ _ 32 rfl w.heap.size 4 i0 _ 1 Try.underlying32 hi hz0 hz1 .i64 .i64 _ _ len rfl rfl rfl rfl ?m1 ?m2 (Nat.le_refl _) ?_)
  case m1 => rw [hz2]; omega
  case m2 => unfold maxLen; omega
  intro w1 hown hgr
  have hB1 : Below w.heap.size w w1 := (Below.refl _ _).grown hgr (Nat.le_refl _) (fun k hk => by cases hk)
  have hS : SlabB w1 w.heap.size len ds 0 := by
    rcases hown.2 with ⟨h, _⟩ | ⟨g, c, cur, h, _, hh, _, _, hcs, _⟩
    · cases h
    · cases h
      exact ⟨cur, hh, by simpa using hcs, fun i hi => by omega⟩
  clear hown hgr hi hz0 hz1 hz2
  go_wp2
  go_loopw [4] (fun i wr => ∃ k : Nat, k ≤ len ∧ i = .int .i64 k ∧ SlabB wr w.heap.size len ds k ∧ Below w.heap.size w wr) (fun i _ => len - (intOf i).toNat)
  case atStart => exact ⟨0, by omega, rfl, hS, hB1⟩
  case round =>
    obtain ⟨k, hk, rfl, hSk, hbl⟩ := hrel
    by_cases hlt : k < len
    · obtain ⟨b, off, rfl, hlb, hc⟩ := (HR.out.below hbl) k (by rw [HL.out]; exact hlt)
      obtain ⟨v0, hv0⟩ := hSk.there (j := k) (by omega)
      have hf := hSk.free
      have HN : Hid (SlabB _ _ _ _ (k + 1)) := hSk.step hlt
      clear hSk hS hB1 hlb
      go_wp2
      go_roundw
      case rel => exact ⟨k + 1, by omega, by go_num, HN.out, hbl.setCell (p := ⟨w.heap.size, k, none⟩) (Nat.le_refl _) _⟩
      case measure => simp [intOf]; omega
    · have e : k = len := by omega
      subst e
      go_wp2
      go_ret
      exact ⟨w.heap.size, rfl, Nat.le_refl _, hSk, hbl⟩
set_option maxHeartbeats 2000000 in
theorem eqB_same (a1 a2 : Option Addr) (c1 c2 : Nat) (ds : List Bool) (w : World) (h1 : BoA w a1 ds) (h2 : BoA w a2 ds) (hlen : ds.length ≤ 1048576) :
    Calls Try.prog 28 #[.slice a1 ds.length c1, .slice a2 ds.length c2] w fun e w' => e = .returned (.bool true) ∧ Below w.heap.size w w' := by
  have H : Hid (BoA w a1 ds ∧ BoA w a2 ds) := ⟨h1, h2⟩
  clear h1 h2
  generalize hL : ds.length = len at *
  have HL : Hid (ds.length = len) := hL
  clear hL
  go_enter Try.func28, Try.ntmps28
  go_wp2
  go_loopw [5] (fun i wr => ∃ k : Nat, k ≤ len ∧ i = .int .i64 k ∧ Below w.heap.size w wr) (fun i _ => len - (intOf i).toNat)
  case atStart => exact ⟨0, by omega, rfl, Below.refl _ _⟩
  case round =>
    obtain ⟨k, hk, rfl, hbl⟩ := hrel
    by_cases hlt : k < len
    · have hltI : (k : Int) < (len : Int) := by omega
      obtain ⟨b1, o1, rfl, lb1, x1⟩ := (H.out.1.below hbl) k (by rw [HL.out]; exact hlt)
      obtain ⟨b2, o2, rfl, lb2, x2⟩ := (H.out.2.below hbl) k (by rw [HL.out]; exact hlt)
      generalize nthB ds k = d at *
      go_wp2_with fail
      go_quiet (fail)
      go_wp2
      go_roundw
      case rel => exact ⟨k + 1, by omega, by go_num, below_drewN hbl _⟩
      case measure => simp [intOf]; omega
    · go_wp2
      go_ret
      exact ⟨rfl, hbl⟩
set_option maxRecDepth 100000 in
set_option maxHeartbeats 2000000 in
theorem markB_any (g n cap : Nat) (ds : List Bool) (k : Int) (w : World) (h : SlabB w g n ds n) (hn : n ≤ 1048576) (k0 : 0 ≤ k) (k1 : k ≤ 1125899906842624) :
    Calls Try.prog 29 #[.slice (some ⟨g, 0, none⟩) n cap, .int .i64 k] w fun r w' => r = .returned (.int .i64 (k + n)) ∧ Kept (fun x => x = g) w w' := by
  have HS : Hid (SlabB w g n ds 0) := by obtain ⟨cur, hh, hs, _⟩ := h; exact ⟨cur, hh, hs, fun i hi => by omega⟩
  clear h
  go_enter Try.func29, Try.ntmps29
  go_wp2
  go_loopw [1, 5] (fun m i wr => ∃ q : Nat, q ≤ n ∧ i = .int .i64 q ∧ m = .int .i64 (k + q) ∧ Hid (SlabB wr g n ds 0 ∧ Kept (fun x => x = g) w wr)) (fun _ i _ => n - (intOf i).toNat)
  case atStart => exact ⟨0, by omega, rfl, by simp, HS.out, Kept.refl _ _⟩
  case round =>
    obtain ⟨q, hq, rfl, rfl, HW⟩ := hrel
    by_cases hlt : q < n
    · have hltI : (q : Int) < (n : Int) := by omega
      obtain ⟨v0, hv0⟩ := HW.out.1.there (j := q) hlt
      have hf := HW.out.1.free
      have HN : Hid (∀ v, SlabB (wr.setCell ⟨g, q, none⟩ v) g n ds 0 ∧ Kept (fun x => x = g) w (wr.setCell ⟨g, q, none⟩ v)) := fun v => ⟨HW.out.1.any v, HW.out.2.set _ rfl⟩
      clear HW
      go_wp2
      go_roundw
      case rel => exact ⟨q + 1, by omega, by go_num, by rw [show k + (q : Int) + 1 = k + ((q + 1 : Nat) : Int) by push_cast; omega], HN.out _⟩
      case measure => simp [intOf]; omega
    · obtain rfl : q = n := by omega
      go_wp2
      go_ret
      exact ⟨rfl, HW.out.2⟩
theorem exists_listB {P : Nat → Bool → Prop} : ∀ n, (∀ i, i < n → ∃ v, P i v) → ∃ vs : List Bool, vs.length = n ∧ ∀ i, i < n → P i (nthB vs i)
  | 0, _ => ⟨[], rfl, fun i hi => by omega⟩
  | n + 1, h => by
    obtain ⟨vs, hl, hv⟩ := exists_listB n (fun i hi => h i (by omega))
    obtain ⟨v, hp⟩ := h n (by omega)
    refine ⟨vs ++ [v], by simp [hl], fun i hi => ?_⟩
    by_cases e : i = n
    · subst e
      have : nthB (vs ++ [v]) i = v := by unfold nthB; simp [List.getD_eq_getElem?_getD, hl]
      rw [this]; exact hp
    · have : nthB (vs ++ [v]) i = nthB vs i := by unfold nthB; rw [List.getD_eq_getElem?_getD, List.getD_eq_getElem?_getD, List.getElem?_append_left (by omega)]
      rw [this]; exact hv i (by omega)
theorem cells4 : Try.prog.cellsOf 4 = 1 := by kernel_rfl
set_option maxRecDepth 100000 in
theorem open_boA {H : Type} {enc : TypeId × Value → H} {W : World} {a : Option Addr} {len cap : Nat} {d : DataW H} {p : List MemPlace}
    (h : DataW.Trod enc Try.prog W 0 (fun _ => true) true 32 (.slice a len cap) d p) : ∃ ds : List Bool, ds.length = len ∧ BoA W a ds ∧ len ≤ maxLen := by
  obtain ⟨fuel, hf⟩ := h
  rcases Deep.open_slice1 Try.underlying32 cells4 hf with ⟨hcs, _⟩ | ⟨ad, l, c, m, n, V, D, Pl, hcs, _, hl, hm, hmm, _, hel⟩
  · simp [Value.cells] at hcs
    obtain ⟨rfl, rfl, rfl⟩ := hcs
    exact ⟨[], rfl, fun i hi => by simp at hi, Nat.zero_le _⟩
  · simp [Value.cells] at hcs
    obtain ⟨rfl, rfl, rfl⟩ := hcs
    simp at hmm
    subst hmm
    have key : ∀ i, i < len → ∃ x : Bool, ∃ b off, some ad = some ⟨b, off, none⟩ ∧ b < W.heap.size ∧ W.cell? ⟨b, off + i, none⟩ = some (.bool x) := fun i hi => by
      obtain ⟨h1, h2⟩ := hel i (by omega)
      obtain ⟨x, q, _⟩ := DataW.trod_bool Try.underlying4 h2
      simp at q
      rw [q] at h1
      obtain ⟨b, off, spot⟩ := ad
      have hs : spot = none := by simpa [Addr.add] using World.cell?_spot (hel 0 (by omega)).1
      subst hs
      rw [add_plain] at h1
      exact ⟨x, b, off, rfl, World.block_lt_of_cell? W _ h1, h1⟩
    obtain ⟨ds, hrl, hr⟩ := exists_listB len key
    refine ⟨ds, hrl, fun i hi => ?_, Nat.le_trans hl hm⟩
    obtain ⟨b, off, e, r⟩ := hr i (by omega)
    exact ⟨b, off, e, r⟩
end Go.Proofs.Ytmcjgncpblbhpaa
