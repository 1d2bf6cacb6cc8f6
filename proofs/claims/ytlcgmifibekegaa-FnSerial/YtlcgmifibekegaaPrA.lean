/- Lists of edges: read, compared, marked, made (stage 8). -/
import Derived.Test.YtlcgmifibekegaaHoM
namespace Go.Proofs.Ytlcgmifibekegaa
open Go.RowKit

/-- A held page: its number, its epoch. -/
abbrev P2 : Type := Int × Int
def nthP (ps : List P2) (i : Nat) : P2 := ps.getD i (0, 0)
abbrev CellP (w : World) (b o : Nat) (p : P2) : Prop := w.cell? ⟨b, o, none⟩ = some (.int .i64 p.1) ∧ w.cell? ⟨b, o + 1, none⟩ = some (.int .i64 p.2)
/-- The held pages ps can be read at a. -/
def RowP (w : World) (a : Option Addr) (ps : List P2) : Prop :=
  ∀ i, i < ps.length → ∃ b off, a = some ⟨b, off, none⟩ ∧ b < w.heap.size ∧ CellP w b (off + i * 2) (nthP ps i)
theorem RowP.below {w w' : World} {a : Option Addr} {ps : List P2} (h : RowP w a ps) (hb : Below w.heap.size w w') : RowP w' a ps := fun i hi => by
  obtain ⟨b, off, e, hlt, hc⟩ := h i hi
  exact ⟨b, off, e, Nat.lt_of_lt_of_le hlt hb.size, (hb.cell (p := ⟨b, off + i * 2, none⟩) hlt).trans hc.1, (hb.cell (p := ⟨b, off + i * 2 + 1, none⟩) hlt).trans hc.2⟩
abbrev PV (p : P2) : Value := .agg #[.int .i64 p.1, .int .i64 p.2]
theorem info48 : (Try.prog.info? 48).map (fun i => (i.zero, i.size, i.bytes)) = some (some (.agg #[.int .i64 0, .int .i64 0]), 2, 16) := by kernel_rfl
/-- The same of held pages. -/
def SlabP (w : World) (g n : Nat) (ps : List P2) (k : Nat) : Prop :=
  ∃ cur, w.heap[g]? = some (.cells cur 48 (0, 0)) ∧ cur.size = n * 2 ∧ ∀ i, i < k → cur[i * 2]? = some (.int .i64 (nthP ps i).1) ∧ cur[i * 2 + 1]? = some (.int .i64 (nthP ps i).2)
theorem SlabP.below {w w' : World} {g n k B : Nat} {ps : List P2} (h : SlabP w g n ps k) (hb : Below B w w') (hg : g < B) : SlabP w' g n ps k := by
  obtain ⟨cur, hh, r⟩ := h
  exact ⟨cur, (hb.block g hg).trans hh, r⟩
theorem SlabP.lt {w : World} {g n k : Nat} {ps : List P2} (h : SlabP w g n ps k) : g < w.heap.size := by
  obtain ⟨cur, hh, _⟩ := h
  exact slab_lt hh
theorem SlabP.step {w : World} {g n k : Nat} {ps : List P2} (h : SlabP w g n ps k) (hk : k < n) :
    SlabP ((w.setCell ⟨g, k * 2, none⟩ (.int .i64 (nthP ps k).1)).setCell ⟨g, k * 2 + 1, none⟩ (.int .i64 (nthP ps k).2)) g n ps (k + 1) := by
  obtain ⟨cur, hh, hs, hc⟩ := h
  refine ⟨_, slab_set (slab_set hh _) _, by simpa using hs, fun i hi => ?_⟩
  by_cases e : i = k
  · subst e
    refine ⟨?_, ?_⟩
    · rw [Array.getElem?_setIfInBounds_ne (by omega), Array.getElem?_setIfInBounds_self_of_lt (by omega)]
    · rw [Array.getElem?_setIfInBounds_self_of_lt (by simp; omega)]
  · have := hc i (by omega)
    refine ⟨?_, ?_⟩
    · rw [Array.getElem?_setIfInBounds_ne (by omega), Array.getElem?_setIfInBounds_ne (by omega)]; exact this.1
    · rw [Array.getElem?_setIfInBounds_ne (by omega), Array.getElem?_setIfInBounds_ne (by omega)]; exact this.2
theorem SlabP.there {w : World} {g n k j : Nat} {ps : List P2} (h : SlabP w g n ps k) (hj : j < n * 2) : ∃ v, w.cell? ⟨g, j, none⟩ = some v := by
  obtain ⟨cur, hh, hs, _⟩ := h
  exact ⟨cur[j]'(by omega), by rw [slab_cell hh]; exact Array.getElem?_eq_getElem _⟩
theorem SlabP.free {w : World} {g n k : Nat} {ps : List P2} (h : SlabP w g n ps k) (o : Nat) : w.frozen? ⟨g, o, none⟩ = false := by
  obtain ⟨cur, hh, _⟩ := h
  exact slab_free hh
theorem SlabP.row {w : World} {g : Nat} {ps : List P2} (h : SlabP w g ps.length ps ps.length) : RowP w (some ⟨g, 0, none⟩) ps := fun i hi => by
  have hl := h.lt
  obtain ⟨cur, hh, _, hc⟩ := h
  have := hc i hi
  refine ⟨g, 0, rfl, hl, ⟨?_, ?_⟩⟩
  · rw [slab_cell hh, Nat.zero_add]; exact this.1
  · rw [slab_cell hh, Nat.zero_add]; exact this.2
theorem eqHeld_same (p : P2) (w : World) :
    Calls Try.prog 92 #[PV p, PV p] w fun e w' => e = .returned (.bool true) ∧ Below w.heap.size w w' := by
  obtain ⟨n, t⟩ := p
  go_enter Try.func92, Try.ntmps92
  go_wp2
  go_ret
  exact ⟨rfl, ((Below.refl _ _).alloc (Nat.le_refl _) _).alloc (by simp) _⟩
/-- Two held pages in two rows; what lay in w lies there still. -/
abbrev PairE (w : World) (b1 o1 : Nat) (p1 : P2) (b2 o2 : Nat) (p2 : P2) (w' : World) : Prop :=
  CellP w' b1 o1 p1 ∧ CellP w' b2 o2 p2 ∧ b1 < w'.heap.size ∧ b2 < w'.heap.size ∧ Below w.heap.size w w'
theorem CellP.below {w w' : World} {b o : Nat} {p : P2} (h : CellP w b o p) (hlt : b < w.heap.size) (hb : Below w.heap.size w w') : CellP w' b o p :=
  ⟨(hb.cell (p := ⟨b, o, none⟩) hlt).trans h.1, (hb.cell (p := ⟨b, o + 1, none⟩) hlt).trans h.2⟩
theorem PairE.keep {w : World} {b1 o1 : Nat} {p1 : P2} {b2 o2 : Nat} {p2 : P2} {w1 w2 : World} (h : PairE w b1 o1 p1 b2 o2 p2 w1) (hb : Below w1.heap.size w1 w2) : PairE w b1 o1 p1 b2 o2 p2 w2 :=
  ⟨h.1.below h.2.2.1 hb, h.2.1.below h.2.2.2.1 hb, Nat.lt_of_lt_of_le h.2.2.1 hb.size, Nat.lt_of_lt_of_le h.2.2.2.1 hb.size, below_step h.2.2.2.2 (Nat.le_refl _) hb⟩
set_option maxRecDepth 100000 in
set_option maxHeartbeats 1000000 in
theorem eqP_same (a1 a2 : Option Addr) (c1 c2 : Nat) (ps : List P2) (w : World) (h1 : RowP w a1 ps) (h2 : RowP w a2 ps) (hlen : ps.length ≤ 1048576) :
    Calls Try.prog 43 #[.slice a1 ps.length c1, .slice a2 ps.length c2] w fun e w' => e = .returned (.bool true) ∧ Below w.heap.size w w' := by
  have H1 : Hid (RowP w a1 ps) := h1
  have H2 : Hid (RowP w a2 ps) := h2
  clear h1 h2
  generalize hL : ps.length = len at *
  have HL : Hid (ps.length = len) := hL
  clear hL
  go_enter Try.func43, Try.ntmps43
  go_wp2
  go_loopw [5] (fun i wr => ∃ k : Nat, k ≤ len ∧ i = .int .i64 k ∧ Below w.heap.size w wr) (fun i _ => len - (intOf i).toNat)
  case atStart => exact ⟨0, by omega, rfl, Below.refl _ _⟩
  case round =>
    obtain ⟨k, hk, rfl, hbl⟩ := hrel
    by_cases hlt : k < len
    · obtain ⟨b1, o1, rfl, hlb1, hc1⟩ := (H1.out.below hbl) k (by rw [HL.out]; exact hlt)
      obtain ⟨b2, o2, rfl, hlb2, hc2⟩ := (H2.out.below hbl) k (by rw [HL.out]; exact hlt)
      generalize nthP ps k = v at *
      obtain ⟨x, t⟩ := v
      have hP : PairE w b1 (o1 + k * 2) (x, t) b2 (o2 + k * 2) (x, t) wr.drew := ⟨hc1, hc2, hlb1, hlb2, hbl.drew⟩
      have hltI : (k : Int) < (len : Int) := by omega
      clear hc1 hc2
      go_wp2_with fail
      go_region_held3 (PairE w b1 (o1 + k * 2) (x, t) b2 (o2 + k * 2) (x, t)) (first | exact hP | exact PairE.keep (by assumption) hb) (first | (go_at_call 92; refine (eqHeld_same (x, t) _).mono ?_; rintro e wA ⟨rfl, hb⟩))
      rename_i hPL
      have hB := hPL.2.2.2.2
      clear hP hPL
      go_wp2
      go_roundw
      case rel => exact ⟨k + 1, by omega, by go_num, hB⟩
      case measure => simp [intOf]; omega
    · go_wp2
      go_ret
      exact ⟨rfl, hbl⟩
theorem nthP_get {ps : List P2} {k : Nat} (hk : k < ps.length) : nthP ps k = ps[k] := by
  unfold nthP; rw [List.getD_eq_getElem?_getD, List.getElem?_eq_getElem hk]; rfl
/-- The cells of held pages. -/
def cellsP (ps : List P2) : List Value := ps.flatMap fun p => [.int .i64 p.1, .int .i64 p.2]
abbrev OwnP (w : World) (B : Nat) (v : Value) (l : List P2) : Prop := w.ownsRow B 48 2 v l.length (cellsP l)
theorem cellsP_len (ps : List P2) : (cellsP ps).length = ps.length * 2 := by
  induction ps with
  | nil => rfl
  | cons p ps ih =>
    have e : cellsP (p :: ps) = .int .i64 p.1 :: .int .i64 p.2 :: cellsP ps := rfl
    rw [e, List.length_cons, List.length_cons, ih, List.length_cons]
    omega
theorem cellsP_get : ∀ (ps : List P2) (i : Nat), i < ps.length → (cellsP ps)[i * 2]? = some (.int .i64 (nthP ps i).1) ∧ (cellsP ps)[i * 2 + 1]? = some (.int .i64 (nthP ps i).2)
  | [], i, h => by simp at h
  | p :: ps, 0, _ => ⟨rfl, rfl⟩
  | p :: ps, i + 1, h => by
    have ih := cellsP_get ps i (by simpa using h)
    have e : cellsP (p :: ps) = .int .i64 p.1 :: .int .i64 p.2 :: cellsP ps := rfl
    have en : nthP (p :: ps) (i + 1) = nthP ps i := by simp [nthP]
    have e0 : (i + 1) * 2 = i * 2 + 2 := by omega
    rw [e, en, e0]
    exact ih
theorem cellsP_snoc (l : List P2) (p : P2) : cellsP (l ++ [p]) = cellsP l ++ [.int .i64 p.1, .int .i64 p.2] := by simp [cellsP]
theorem OwnP.alloc {w : World} {B : Nat} {v : Value} {l : List P2} (h : OwnP w B v l) (o : Obj) : OwnP (w.alloc o) B v l := own_keep h fun _ _ hl => heap_old _ _ _ hl
theorem OwnP.row {w : World} {B : Nat} {v : Value} {l : List P2} (h : OwnP w B v l) : ∃ a cap, v = .slice a l.length cap ∧ RowP w a l := by
  rcases h.2 with ⟨rfl, hn⟩ | ⟨g, cap, cur, rfl, hB, hh, hc, hm, hs, ht⟩
  · exact ⟨none, 0, by rw [hn], fun i hi => by omega⟩
  · refine ⟨_, cap, rfl, fun i hi => ⟨g, 0, rfl, slab_lt hh, ?_⟩⟩
    obtain ⟨g0, g1⟩ := cellsP_get l i hi
    have key : ∀ j u, j < l.length * 2 → (cellsP l)[j]? = some u → w.cell? ⟨g, 0 + j, none⟩ = some u := fun j u hj hu => by
      rw [slab_cell hh, Nat.zero_add]
      have := congrArg (fun q => q[j]?) ht
      rw [List.getElem?_take_of_lt hj, hu] at this
      rw [← Array.getElem?_toList, this]
    refine ⟨key _ _ (by omega) g0, ?_⟩
    rw [Nat.add_assoc]
    exact key _ _ (by omega) g1
theorem OwnP.kept {S : Nat → Prop} {w w' : World} {B : Nat} {v : Value} {l : List P2} (h : OwnP w B v l) (hK : Kept S w w') (hS : ∀ j, v.ownBlock = some j → ¬ S j) : OwnP w' B v l :=
  own_at h fun j hj => hK.block j (own_lt h hj).2 (hS j hj)
theorem OwnP.made (w : World) (B : Nat) (hB : B ≤ w.heap.size) : OwnP (w.alloc (.cells #[] 48)) B (.slice (some ⟨w.heap.size, 0, none⟩) 0 0) [] := ⟨rfl, .inr ⟨w.heap.size, 0, #[], rfl, hB, heap_new' _ _ _ rfl, Nat.le_refl _, Nat.zero_le _, rfl, rfl⟩⟩
/-- Held pages that hold the numbers from k on. -/
def marksP (k : Int) (n : Nat) : List P2 := (List.range n).map (fun i : Nat => (k + 2 * (i : Int), k + 2 * (i : Int) + 1))
theorem marksP_len (k : Int) (n : Nat) : (marksP k n).length = n := by simp [marksP]
theorem marksP_nth (k : Int) (n i : Nat) (h : i < n) : nthP (marksP k n) i = (k + 2 * i, k + 2 * i + 1) := by
  rw [nthP_get (by rw [marksP_len]; exact h)]
  simp [marksP]
set_option maxRecDepth 100000 in
set_option maxHeartbeats 2000000 in
theorem markE_vals (g n c N : Nat) (cur0 : Array Value) (k : Int) (w : World) (hh : w.heap[g]? = some (.cells cur0 48 (0, 0))) (hN : cur0.size = N) (hn : n * 2 ≤ N) (k0 : 0 ≤ k) (k1 : k ≤ 1000000000) (hn2 : n ≤ 1048576) :
    Calls Try.prog 44 #[.slice (some ⟨g, 0, none⟩) n c, .int .i64 k] w fun r w' => r = .returned (.int .i64 (k + 2 * n)) ∧ (∃ cur, w'.heap[g]? = some (.cells cur 48 (0, 0)) ∧ cur.size = N ∧ ∀ i, i < n → cur[i * 2]? = some (.int .i64 (k + 2 * i)) ∧ cur[i * 2 + 1]? = some (.int .i64 (k + 2 * i + 1))) ∧ Kept (fun j => j = g) w w' := by
  have HH : Hid (w.heap[g]? = some (.cells cur0 48 (0, 0))) := hh
  have HN : Hid (cur0.size = N) := hN
  clear hh hN
  go_enter Try.func44, Try.ntmps44
  go_wp2
  go_loopw [1, 5] (fun m i wr => ∃ j : Nat, j ≤ n ∧ i = .int .i64 j ∧ m = .int .i64 (k + 2 * j) ∧ (∃ cur, wr.heap[g]? = some (.cells cur 48 (0, 0)) ∧ cur.size = N ∧ ∀ i, i < j → cur[i * 2]? = some (.int .i64 (k + 2 * i)) ∧ cur[i * 2 + 1]? = some (.int .i64 (k + 2 * i + 1))) ∧ Kept (fun j => j = g) w wr) (fun _ i _ => n - (intOf i).toNat)
  case atStart => exact ⟨0, by omega, rfl, by simp, ⟨cur0, HH.out, HN.out, fun i hi => by omega⟩, Kept.refl _ _⟩
  case round =>
    obtain ⟨j, hj, rfl, rfl, ⟨cur, hc, hs, hv⟩, hK⟩ := hrel
    have HC : Hid (wr.heap[g]? = some (.cells cur 48 (0, 0)) ∧ cur.size = N ∧ ∀ i, i < j → cur[i * 2]? = some (.int .i64 (k + 2 * i)) ∧ cur[i * 2 + 1]? = some (.int .i64 (k + 2 * i + 1))) := ⟨hc, hs, hv⟩
    clear hc hs hv
    by_cases hlt : j < n
    · obtain ⟨v0, hv0⟩ : ∃ v, wr.cell? ⟨g, j * 2, none⟩ = some v := ⟨cur[j * 2]'(by have := HC.out.2.1; omega), by rw [slab_cell HC.out.1]; exact Array.getElem?_eq_getElem _⟩
      obtain ⟨v1, hv1⟩ : ∃ v, wr.cell? ⟨g, j * 2 + 1, none⟩ = some v := ⟨cur[j * 2 + 1]'(by have := HC.out.2.1; omega), by rw [slab_cell HC.out.1]; exact Array.getElem?_eq_getElem _⟩
      have hf : ∀ o, wr.frozen? ⟨g, o, none⟩ = false := fun o => slab_free HC.out.1
      have HNx : Hid (∃ cur', ((wr.setCell ⟨g, j * 2, none⟩ (.int .i64 (k + 2 * j))).setCell ⟨g, j * 2 + 1, none⟩ (.int .i64 (k + 2 * j + 1))).heap[g]? = some (.cells cur' 48 (0, 0)) ∧ cur'.size = N ∧ ∀ i, i < j + 1 → cur'[i * 2]? = some (.int .i64 (k + 2 * i)) ∧ cur'[i * 2 + 1]? = some (.int .i64 (k + 2 * i + 1))) := by
        refine ⟨_, slab_set (slab_set HC.out.1 _) _, by simpa using HC.out.2.1, fun i hi => ?_⟩
        by_cases e : i = j
        · subst e
          refine ⟨?_, ?_⟩
          · rw [Array.getElem?_setIfInBounds_ne (by omega), Array.getElem?_setIfInBounds_self_of_lt (by have := HC.out.2.1; omega)]
          · rw [Array.getElem?_setIfInBounds_self_of_lt (by simp; have := HC.out.2.1; omega)]
        · have := HC.out.2.2 i (by omega)
          refine ⟨?_, ?_⟩
          · rw [Array.getElem?_setIfInBounds_ne (by omega), Array.getElem?_setIfInBounds_ne (by omega)]; exact this.1
          · rw [Array.getElem?_setIfInBounds_ne (by omega), Array.getElem?_setIfInBounds_ne (by omega)]; exact this.2
      go_wp2
      go_roundw
      case rel => exact ⟨j + 1, by omega, by go_num, by go_num, HNx.out, (hK.set _ rfl).set _ rfl⟩
      case measure => simp [intOf]; omega
    · obtain rfl : j = n := by omega
      go_wp2
      go_ret
      exact ⟨rfl, ⟨cur, HC.out⟩, hK⟩
set_option maxRecDepth 100000 in
set_option maxHeartbeats 2000000 in
theorem heldE_marks (a : Option Addr) (n c : Nat) (k : Int) (w : World) (h : RowP w a (marksP k n)) (k0 : 0 ≤ k) (k1 : k ≤ 1000000000) (hn : n ≤ 1048576) :
    Calls Try.prog 45 #[.slice a n c, .int .i64 k] w fun r w' => r = .returned (.int .i64 (k + 2 * n)) ∧ w' = w := by
  have H : Hid (RowP w a (marksP k n)) := h
  clear h
  go_enter Try.func45, Try.ntmps45
  go_wp2
  go_loop [1, 5] (fun m i => ∃ j : Nat, j ≤ n ∧ i = .int .i64 j ∧ m = .int .i64 (k + 2 * j)) (fun _ i => n - (intOf i).toNat)
  case atStart => exact ⟨0, by omega, rfl, by simp⟩
  case round =>
    obtain ⟨j, hj, rfl, rfl⟩ := hrel
    by_cases hlt : j < n
    · obtain ⟨b, off, rfl, hlb, hc0, hc1⟩ := H.out j (by rw [marksP_len]; exact hlt)
      rw [marksP_nth k n j hlt] at hc0 hc1
      go_wp2
      go_round
      case rel => exact ⟨j + 1, by omega, by go_num, by go_num⟩
      case measure => simp [intOf]; omega
    · obtain rfl : j = n := by omega
      go_wp2
      go_ret
      exact ⟨rfl, rfl⟩
theorem markE_nil (a : Option Addr) (c : Nat) (k : Int) (w : World) : Calls Try.prog 44 #[.slice a 0 c, .int .i64 k] w fun e w' => e = .returned (.int .i64 k) ∧ w' = w := by
  go_enter Try.func44, Try.ntmps44
  go_wp2
  refine wp_loop_rounds 1 ?_
  rw [rounds_succ]
  go_wp2
  go_ret
  exact ⟨rfl, rfl⟩
theorem markE_own {w : World} {B : Nat} {v : Value} {l : List P2} (h : OwnP w B v l) (hl : l.length ≤ 1048576) (k : Int) (k0 : 0 ≤ k) (k1 : k ≤ 1000000000) :
    Calls Try.prog 44 #[v, .int .i64 k] w fun r w' => r = .returned (.int .i64 (k + 2 * l.length)) ∧ OwnP w' B v (marksP k l.length) ∧ Kept (fun j => v.ownBlock = some j) w w' := by
  rcases h.2 with ⟨rfl, hn⟩ | ⟨g, cap, cur, rfl, hB, hh, hc, hm, hs, ht⟩
  · rw [hn]
    refine (markE_nil none 0 k w).mono ?_
    rintro r w' ⟨rfl, rfl⟩
    exact ⟨by simp, ⟨rfl, .inl ⟨rfl, rfl⟩⟩, Kept.refl _ _⟩
  · refine (markE_vals g l.length cap (cap * 2) cur k w hh hs (by omega) k0 k1 hl).mono ?_
    rintro r w' ⟨rfl, ⟨cur', hh', hs', hv⟩, hK⟩
    refine ⟨rfl, ⟨by rw [cellsP_len], .inr ⟨g, cap, cur', by rw [marksP_len], hB, hh', by rw [marksP_len]; exact hc, hm, hs', ?_⟩⟩, hK.mono fun j hj => by rw [hj]; rfl⟩
    rw [marksP_len]
    apply List.ext_getElem?
    intro i
    by_cases hi : i < l.length * 2
    · rw [List.getElem?_take_of_lt hi, Array.getElem?_toList]
      have h2 := hv (i / 2) (by omega)
      obtain ⟨c0, c1⟩ := cellsP_get (marksP k l.length) (i / 2) (by rw [marksP_len]; omega)
      rw [marksP_nth k l.length (i / 2) (by omega)] at c0 c1
      rcases (show i = i / 2 * 2 ∨ i = i / 2 * 2 + 1 by omega) with e | e
      · rw [e, h2.1]
        rw [← e] at c0
        rw [show i / 2 * 2 = i by omega, c0]
      · rw [e, h2.2]
        rw [← e] at c1
        rw [show i / 2 * 2 + 1 = i by omega, c1]
    · rw [List.getElem?_eq_none (by rw [List.length_take]; omega), List.getElem?_eq_none (by rw [cellsP_len, marksP_len]; omega)]
theorem heldE_own {w : World} {B : Nat} {v : Value} {n : Nat} {k : Int} (h : OwnP w B v (marksP k n)) (k0 : 0 ≤ k) (k1 : k ≤ 1000000000) (hn : n ≤ 1048576) : Calls Try.prog 45 #[v, .int .i64 k] w fun r w' => r = .returned (.int .i64 (k + 2 * n)) ∧ w' = w := by
  obtain ⟨a, c, rfl, r⟩ := OwnP.row h
  rw [marksP_len]
  exact heldE_marks a n c k w r k0 k1 hn
theorem cell_two_new (w : World) (x y : Value) (t : TypeId) : ∀ j u, [x, y][j]? = some u → (w.alloc (.cells #[x, y] t)).cell? ((⟨w.heap.size, 0, none⟩ : Addr).add j) = some u := by
  intro j u hj
  match j, hj with
  | 0, hj => simp at hj; subst hj; simp [Addr.add]
  | 1, hj => simp at hj; subst hj; simp [Addr.add]
theorem OwnP.nil (w : World) (B : Nat) : OwnP w B (.slice none 0 0) [] := ⟨rfl, .inl ⟨rfl, rfl⟩⟩
theorem OwnP.below {w w' : World} {B : Nat} {v : Value} {l : List P2} (h : OwnP w B v l) (hb : Below w.heap.size w w') : OwnP w' B v l := own_keep h fun g _ hg => hb.block g hg
theorem OwnP.snoc {w : World} {B : Nat} {v : Value} {l : List P2} {p : P2} (h : w.ownsRow B 48 2 v (l.length + 1) (cellsP l ++ [.int .i64 p.1, .int .i64 p.2])) : OwnP w B v (l ++ [p]) := by
  show w.ownsRow B 48 2 v (l ++ [p]).length (cellsP (l ++ [p]))
  rw [List.length_append, cellsP_snoc]
  exact h
theorem eqP_own {w : World} {B B' : Nat} {v v' : Value} {l : List P2} (h : OwnP w B v l) (h' : OwnP w B' v' l) (hl : l.length ≤ 1048576) : Calls Try.prog 43 #[v, v'] w fun r w' => r = .returned (.bool true) ∧ Below w.heap.size w w' := by
  obtain ⟨a, c, rfl, r⟩ := h.row
  obtain ⟨a', c', rfl, r'⟩ := h'.row
  exact eqP_same a a' c c' l w r r' hl
theorem heldE_ownB {w : World} {B : Nat} {v : Value} {n : Nat} {k : Int} (h : OwnP w B v (marksP k n)) (k0 : 0 ≤ k) (k1 : k ≤ 1000000000) (hn : n ≤ 1048576) : Calls Try.prog 45 #[v, .int .i64 k] w fun r w' => r = .returned (.int .i64 (k + 2 * n)) ∧ Below w.heap.size w w' := by
  refine (heldE_own h k0 k1 hn).mono ?_
  rintro r w' ⟨rfl, rfl⟩
  exact ⟨rfl, Below.refl _ _⟩
end Go.Proofs.Ytlcgmifibekegaa
