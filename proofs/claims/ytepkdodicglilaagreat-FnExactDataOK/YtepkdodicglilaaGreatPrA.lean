/- Lists of rows: measured, copied, compared (stage 13). -/
import Derived.Test.YtepkdodicglilaaGreatVlD
import Derived.Test.YtepkdodicglilaaGreatInA
import Derived.Deep.RegionHeld3
namespace Go.Proofs.YtepkdodicglilaaGreat
open Go.ChangeShapes Go.WideShapes Go.ChangeAt Go.RowKit Go.Joins

theorem blk_there {w : World} {g o : Nat} {cur : Array Value} {e : TypeId} (h : w.heap[g]? = some (.cells cur e (0, 0))) (ho : o < cur.size) : ∃ v, w.cell? ⟨g, o, none⟩ = some v := ⟨cur[o], by rw [slab_cell h]; exact Array.getElem?_eq_getElem _⟩
/-- Rows of values. -/
abbrev Rs : Type := List (List V3)
def nthR (rs : Rs) (i : Nat) : List V3 := rs.getD i []
theorem nthR_get {rs : Rs} {i : Nat} (h : i < rs.length) : nthR rs i = rs[i] := by unfold nthR; simp [h]
/-- A slice of rows can be read. -/
def RowR (w : World) (a : Option Addr) (rs : Rs) : Prop :=
  ∀ i, i < rs.length → ∃ b off ai ci, a = some ⟨b, off, none⟩ ∧ b < w.heap.size ∧ w.cell? ⟨b, off + i, none⟩ = some (.slice ai (nthR rs i).length ci) ∧ RowV w ai (nthR rs i) ∧ (nthR rs i).length ≤ maxLen ∧ (nthR rs i).length ≤ ci
theorem RowR.below {w w' : World} {a : Option Addr} {rs : Rs} (h : RowR w a rs) (hb : Below w.heap.size w w') : RowR w' a rs := fun i hi => by
  obtain ⟨b, off, ai, ci, e, hlt, hc, hr, hs⟩ := h i hi
  exact ⟨b, off, ai, ci, e, Nat.lt_of_lt_of_le hlt hb.size, (hb.cell (p := ⟨b, off + i, none⟩) hlt).trans hc, hr.below hb, hs⟩
/-- Few rows of few values. -/
def SmallR (rs : Rs) : Prop := rs.length ≤ 1048576 ∧ ∀ i, i < rs.length → (nthR rs i).length ≤ 1048576

set_option maxHeartbeats 1000000 in
theorem szR_any (a : Option Addr) (cap : Nat) (rs : Rs) (left : Int) (w : World) (hrow : RowR w a rs) (hlen : rs.length ≤ maxLen) (h0 : 0 ≤ left) (h1 : left ≤ 1048576) :
    Calls Tryz.prog 41 #[.slice a rs.length cap, .int .i64 left] w fun e w' => ∃ r : Int, e = .returned (.int .i64 r) ∧ -1 ≤ r ∧ r ≤ left ∧ (0 ≤ r → SmallR rs) ∧ Below w.heap.size w w' := by
  unfold maxLen at hlen
  have HR : Hid (RowR w a rs) := hrow
  clear hrow
  generalize hL : rs.length = len at *
  have HL : Hid (rs.length = len) := hL
  clear hL
  by_cases hlt : left - (len : Int) < 0
  · go_enter Tryz.func41, Tryz.ntmps41
    go_wp2
    go_ret
    exact ⟨-1, rfl, by omega, by omega, fun h => by omega, Below.refl _ _⟩
  · go_enter Tryz.func41, Tryz.ntmps41
    go_wp2
    go_loopw [1, 5] (fun l i wr => ∃ (k : Nat) (l' : Int), k ≤ len ∧ i = .int .i64 k ∧ l = .int .i64 l' ∧ 0 ≤ l' ∧ l' ≤ left ∧ Hid (∀ j, j < k → (nthR rs j).length ≤ 1048576) ∧ Below w.heap.size w wr) (fun _ i _ => len - (intOf i).toNat)
    case atStart => exact ⟨0, _, by omega, rfl, rfl, by omega, by omega, fun j hj => by omega, Below.refl _ _⟩
    case round =>
      obtain ⟨k, l', hk, rfl, rfl, hl0, hl1, HS, hbl⟩ := hrel
      by_cases hlt : k < len
      · obtain ⟨b, off, ai, ci, rfl, hlb, hc, hr, hsz⟩ := (HR.out.below hbl) k (by rw [HL.out]; exact hlt)
        have HC := szS_any ai ci (nthR rs k) l' wr hr hsz.1 hl0 (by omega)
        clear hr
        go_wp2_with fail
        refine HC.mono ?_
        rintro e w1 ⟨r, rfl, r0, r1, r2, hb1⟩
        have hB := below_step hbl (Nat.le_refl _) hb1
        clear hc hb1 hlb HC hsz
        by_cases hneg : r < 0
        · clear r2
          go_wp2
          go_ret
          exact ⟨-1, rfl, by omega, by omega, fun h => by omega, hB⟩
        · have HS2 : Hid (∀ j, j < k + 1 → (nthR rs j).length ≤ 1048576) := allV_step' HS.out (by have := r2 (by omega); omega)
          clear r2 HS
          go_wp2
          go_roundw
          case rel => exact ⟨k + 1, _, by omega, by go_num, rfl, by omega, by omega, HS2, hB⟩
          case measure => simp [intOf]; omega
      · have HS2 : Hid (SmallR rs) := ⟨by rw [HL.out]; omega, fun j hj => HS.out j (by rw [HL.out] at hj; omega)⟩
        clear HS
        go_wp2
        go_ret
        exact ⟨l', rfl, by omega, by omega, fun _ => HS2.out, hbl⟩

theorem infoR : (Tryz.prog.info? 62).map (fun i => (i.zero, i.size, i.bytes)) = some (some (.slice none 0 0), 1, 24) := by kernel_rfl
/-- A block of the call's own of n rows, of which the first k are those of rs, each in a block of its own. -/
def SlabR (w : World) (g n : Nat) (rs : Rs) (k : Nat) : Prop :=
  ∃ (cur : Array Value) (gs : Nat → Nat), w.heap[g]? = some (.cells cur 62 (0, 0)) ∧ cur.size = n ∧
    (∀ i, i < k → cur[i]? = some (.slice (some ⟨gs i, 0, none⟩) (nthR rs i).length (nthR rs i).length) ∧ g < gs i ∧ SlabK w (gs i) (nthR rs i).length (nthR rs i) (nthR rs i).length) ∧ ∀ i j, i < j → j < k → gs i < gs j
theorem SlabR.below {w w' : World} {g n k : Nat} {rs : Rs} (h : SlabR w g n rs k) (hb : Below w.heap.size w w') : SlabR w' g n rs k := by
  obtain ⟨cur, gs, hh, hn, hc, hm⟩ := h
  exact ⟨cur, gs, (hb.block g (slab_lt hh)).trans hh, hn, fun i hi => ⟨(hc i hi).1, (hc i hi).2.1, (hc i hi).2.2.below hb (hc i hi).2.2.lt⟩, hm⟩
theorem SlabR.lt {w : World} {g n k : Nat} {rs : Rs} (h : SlabR w g n rs k) : g < w.heap.size := by
  obtain ⟨cur, gs, hh, _⟩ := h
  exact slab_lt hh
theorem SlabR.there {w : World} {g n k j : Nat} {rs : Rs} (h : SlabR w g n rs k) (hj : j < n) : ∃ v, w.cell? ⟨g, j, none⟩ = some v := by
  obtain ⟨cur, gs, hh, hs, _⟩ := h
  exact blk_there hh (by omega)
theorem SlabR.free {w : World} {g n k : Nat} {rs : Rs} (h : SlabR w g n rs k) (o : Nat) : w.frozen? ⟨g, o, none⟩ = false := by
  obtain ⟨cur, gs, hh, _⟩ := h
  exact slab_free hh
theorem SlabK.set {w : World} {g n k : Nat} {vs : List V3} (h : SlabK w g n vs k) {p : Addr} (v : Value) (hp : p.block ≠ g) : SlabK (w.setCell p v) g n vs k := by
  obtain ⟨cur, hh, r⟩ := h
  exact ⟨cur, (set_other v hp).trans hh, r⟩
theorem SlabR.setB {w : World} {g n k : Nat} {rs : Rs} (h : SlabR w g n rs k) {p : Addr} (v : Value) (hp : p.block < g) : SlabR (w.setCell p v) g n rs k := by
  obtain ⟨cur, gs, hh, hn, hc, hm⟩ := h
  exact ⟨cur, gs, (set_other v (by omega)).trans hh, hn, fun i hi => ⟨(hc i hi).1, (hc i hi).2.1, (hc i hi).2.2.set v (by have := (hc i hi).2.1; omega)⟩, hm⟩
theorem SlabR.step {w w' : World} {g n k gk : Nat} {rs : Rs} (h : SlabR w g n rs k) (hb : Below w.heap.size w w') (hk : k < n) (hgk : w.heap.size ≤ gk) (hS : SlabK w' gk (nthR rs k).length (nthR rs k) (nthR rs k).length) :
    SlabR (w'.setCell ⟨g, k, none⟩ (.slice (some ⟨gk, 0, none⟩) (nthR rs k).length (nthR rs k).length)) g n rs (k + 1) := by
  have hlt := h.lt
  obtain ⟨cur, gs, hh0, hn, hc0, hm⟩ := h
  have hh : w'.heap[g]? = some (.cells cur 62 (0, 0)) := (hb.block g hlt).trans hh0
  refine ⟨cur.setIfInBounds k _, fun i => if i = k then gk else gs i, slab_set hh _, by simpa using hn, fun i hi => ?_, fun i j hij hj => ?_⟩
  · by_cases e : i = k
    · subst e
      refine ⟨?_, by simp; omega, ?_⟩
      · rw [Array.getElem?_setIfInBounds_self_of_lt (by omega)]; simp
      · simp only [if_pos]
        exact hS.set _ (by show g ≠ gk; omega)
    · obtain ⟨e1, e2, e3⟩ := hc0 i (by omega)
      refine ⟨?_, by simp [e]; exact e2, ?_⟩
      · rw [Array.getElem?_setIfInBounds_ne (by omega)]; simp [e]; exact e1
      · simp only [if_neg e]
        exact (e3.below hb e3.lt).set _ (by show g ≠ gs i; omega)
  · by_cases e : j = k
    · subst e
      simp only [if_neg (show ¬ i = j by omega), if_pos]
      exact Nat.lt_of_lt_of_le (hc0 i (by omega)).2.2.lt hgk
    · simp only [if_neg e, if_neg (show ¬ i = k by omega)]
      exact hm i j hij (by omega)

set_option maxHeartbeats 2000000 in
theorem toR_any (a : Option Addr) (cap : Nat) (rs : Rs) (w : World) (hrow : RowR w a rs) (hsm : SmallR rs) :
    Calls Tryz.prog 49 #[.slice a rs.length cap] w fun e w' => ∃ g, e = .returned (.slice (some ⟨g, 0, none⟩) rs.length rs.length) ∧ w.heap.size ≤ g ∧ SlabR w' g rs.length rs rs.length ∧ Below w.heap.size w w' := by
  have HR : Hid (RowR w a rs) := hrow
  have HM : Hid (∀ i, i < rs.length → (nthR rs i).length ≤ 1048576) := hsm.2
  have hlen := hsm.1
  clear hrow hsm
  generalize hL : rs.length = len at *
  have HL : Hid (rs.length = len) := hL
  clear hL
  obtain ⟨i0, hi, hz0, hz1, hz2⟩ := info_parts infoR
  go_enter Tryz.func49, Tryz.ntmps49
  go_wp2_with (at_make; refine wpList_make_full _ rfl _ _ 55 rfl w.heap.size 62 i0 _ 1 Tryz.underlying55 hi hz0 hz1 .i64 .i64 _ _ len rfl rfl rfl rfl ?m1 ?m2 (Nat.le_refl _) ?_)
  case m1 => rw [hz2]; omega
  case m2 => unfold maxLen; omega
  intro w1 hown hgr
  have hB1 : Below w.heap.size w w1 := (Below.refl _ _).grown hgr (Nat.le_refl _) (fun k hk => by cases hk)
  have hS : SlabR w1 w.heap.size len rs 0 := by
    rcases hown.2 with ⟨h, _⟩ | ⟨g, c, cur, h, _, hh, _, _, hcs, _⟩
    · cases h
    · cases h
      exact ⟨cur, fun _ => 0, hh, by simpa using hcs, fun i hi => by omega, fun i j _ hj => by omega⟩
  clear hown hgr hi hz0 hz1 hz2
  go_wp2
  go_loopw [4] (fun i wr => ∃ k : Nat, k ≤ len ∧ i = .int .i64 k ∧ SlabR wr w.heap.size len rs k ∧ Below w.heap.size w wr) (fun i _ => len - (intOf i).toNat)
  case atStart => exact ⟨0, by omega, rfl, hS, hB1⟩
  case round =>
    obtain ⟨k, hk, rfl, hSk, hbl⟩ := hrel
    by_cases hlt : k < len
    · obtain ⟨b, off, ai, ci, rfl, hlb, hc, hr, hsz⟩ := (HR.out.below hbl) k (by rw [HL.out]; exact hlt)
      have HC := toS_any ai ci (nthR rs k) wr hr (HM.out k hlt)
      have HSk : Hid (SlabR wr w.heap.size len rs k) := hSk
      clear hr hSk hS hB1
      go_wp2_with fail
      refine HC.mono ?_
      rintro e w2 ⟨gk, rfl, hgk, hK, hb2⟩
      have hB2 := below_step hbl (Nat.le_refl _) hb2
      have hS2 := HSk.out.below hb2
      obtain ⟨v0, hv0⟩ := hS2.there (j := k) (by omega)
      have hf := hS2.free
      have HN : Hid (SlabR _ _ _ _ (k + 1)) := HSk.out.step hb2 hlt hgk hK
      clear hc hb2 hlb hbl hS2 HC hsz hK HSk
      go_wp2
      go_roundw
      case rel => exact ⟨k + 1, by omega, by go_num, HN.out, hB2.setCell (p := ⟨w.heap.size, k, none⟩) (Nat.le_refl _) _⟩
      case measure => simp [intOf]; omega
    · have e : k = len := by omega
      subst e
      go_wp2
      go_ret
      exact ⟨w.heap.size, rfl, Nat.le_refl _, hSk, hbl⟩

/-- Two rows; what lay in w lies there still. -/
abbrev PairR (w : World) (b1 o1 : Nat) (x1 : Option Addr) (c1 : Nat) (b2 o2 : Nat) (x2 : Option Addr) (c2 : Nat) (vs : List V3) (w' : World) : Prop :=
  w'.cell? ⟨b1, o1, none⟩ = some (.slice x1 vs.length c1) ∧ w'.cell? ⟨b2, o2, none⟩ = some (.slice x2 vs.length c2) ∧ (RowV w' x1 vs ∧ RowV w' x2 vs) ∧ b1 < w'.heap.size ∧ b2 < w'.heap.size ∧ Below w.heap.size w w'
theorem PairR.keep {w : World} {b1 o1 : Nat} {x1 : Option Addr} {c1 b2 o2 : Nat} {x2 : Option Addr} {c2 : Nat} {vs : List V3} {w1 w2 : World} (h : PairR w b1 o1 x1 c1 b2 o2 x2 c2 vs w1) (hb : Below w1.heap.size w1 w2) : PairR w b1 o1 x1 c1 b2 o2 x2 c2 vs w2 :=
  ⟨(hb.cell (p := ⟨b1, o1, none⟩) h.2.2.2.1).trans h.1, (hb.cell (p := ⟨b2, o2, none⟩) h.2.2.2.2.1).trans h.2.1, ⟨h.2.2.1.1.below hb, h.2.2.1.2.below hb⟩, Nat.lt_of_lt_of_le h.2.2.2.1 hb.size, Nat.lt_of_lt_of_le h.2.2.2.2.1 hb.size, below_step h.2.2.2.2.2 (Nat.le_refl _) hb⟩
set_option maxHeartbeats 2000000 in
theorem eqR_same (a1 a2 : Option Addr) (c1 c2 : Nat) (rs : Rs) (w : World) (h1 : RowR w a1 rs) (h2 : RowR w a2 rs) (hsm : SmallR rs) :
    Calls Tryz.prog 55 #[.slice a1 rs.length c1, .slice a2 rs.length c2] w fun e w' => e = .returned (.bool true) ∧ Below w.heap.size w w' := by
  have H1 : Hid (RowR w a1 rs) := h1
  have H2 : Hid (RowR w a2 rs) := h2
  have HM : Hid (∀ i, i < rs.length → (nthR rs i).length ≤ 1048576) := hsm.2
  have hlen := hsm.1
  clear h1 h2 hsm
  generalize hL : rs.length = len at *
  have HL : Hid (rs.length = len) := hL
  clear hL
  go_enter Tryz.func55, Tryz.ntmps55
  go_wp2
  go_loopw [5] (fun i wr => ∃ k : Nat, k ≤ len ∧ i = .int .i64 k ∧ Below w.heap.size w wr) (fun i _ => len - (intOf i).toNat)
  case atStart => exact ⟨0, by omega, rfl, Below.refl _ _⟩
  case round =>
    obtain ⟨k, hk, rfl, hbl⟩ := hrel
    by_cases hlt : k < len
    · obtain ⟨b1, o1, x1, d1, rfl, hlb1, hc1, hr1, hsz⟩ := (H1.out.below hbl) k (by rw [HL.out]; exact hlt)
      obtain ⟨b2, o2, x2, d2, rfl, hlb2, hc2, hr2, _⟩ := (H2.out.below hbl) k (by rw [HL.out]; exact hlt)
      have hq := HM.out k hlt
      generalize nthR rs k = vs at *
      have hP : PairR w b1 (o1 + k) x1 d1 b2 (o2 + k) x2 d2 vs wr.drew := ⟨hc1, hc2, ⟨hr1.below (Below.refl _ _).drew, hr2.below (Below.refl _ _).drew⟩, hlb1, hlb2, hbl.drew⟩
      have hltI : (k : Int) < (len : Int) := by omega
      clear hc1 hc2 hr1 hr2
      go_wp2_with fail
      go_region_held3 (PairR w b1 (o1 + k) x1 d1 b2 (o2 + k) x2 d2 vs) (first | exact hP | exact PairR.keep (by assumption) hb) (first | (go_at_call 84; refine (eqS_same _ _ _ _ vs _ (show PairR w b1 (o1 + k) x1 d1 b2 (o2 + k) x2 d2 vs _ by assumption).2.2.1.1 (show PairR w b1 (o1 + k) x1 d1 b2 (o2 + k) x2 d2 vs _ by assumption).2.2.1.2 hq).mono ?_; rintro e wA ⟨rfl, hb⟩))
      rename_i hPL
      have hB := hPL.2.2.2.2.2
      clear hP hPL
      go_wp2
      go_roundw
      case rel => exact ⟨k + 1, by omega, by go_num, hB⟩
      case measure => simp [intOf]; omega
    · go_wp2
      go_ret
      exact ⟨rfl, hbl⟩

/-- The texts of some rows are no longer than a text may be. -/
def TextR (rs : Rs) : Prop := ∀ i, i < rs.length → (∀ j, j < (nthR rs i).length → (nthV (nthR rs i) j).2.2.size ≤ maxLen)
theorem RowR.text {w : World} {a : Option Addr} {rs : Rs} (h : RowR w a rs) : TextR rs := fun i hi => by
  obtain ⟨_, _, _, _, _, _, _, hr, _⟩ := h i hi
  exact hr.size
theorem small_max {n : Nat} (h : n ≤ 1048576) : n ≤ maxLen := by unfold maxLen; omega
theorem SlabR.row {w : World} {g : Nat} {rs : Rs} (h : SlabR w g rs.length rs rs.length) (ht : TextR rs) (hs : SmallR rs) : RowR w (some ⟨g, 0, none⟩) rs := fun i hi => by
  have hl := h.lt
  obtain ⟨cur, gs, hh, hn, hc, _⟩ := h
  obtain ⟨e1, e2, e3⟩ := hc i hi
  exact ⟨g, 0, some ⟨gs i, 0, none⟩, _, rfl, hl, by rw [slab_cell hh, Nat.zero_add]; exact e1, e3.row (ht i hi), small_max (hs.2 i hi), Nat.le_refl _⟩
end Go.Proofs.YtepkdodicglilaaGreat
