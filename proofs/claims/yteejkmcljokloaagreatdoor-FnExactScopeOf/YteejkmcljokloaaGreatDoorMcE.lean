/- Marks, and the law on ScopeOf (stage 16). -/
import Derived.Test.YteejkmcljokloaaGreatDoorMcA
import Derived.Test.YteejkmcljokloaaGreatDoorMkB
import Derived.Test.YteejkmcljokloaaGreatDoorTbD
import Derived.Test.YteejkmcljokloaaGreatDoorMcD
namespace Go.Proofs.YteejkmcljokloaaGreatDoor
open Go.RowKit

/-- A block with room for N fields, the first n of them marked from k on, and of the next one the first m cells. -/
def MkFm (w : World) (g N : Nat) (k : Int) (n m : Nat) : Prop := ∃ cur : Array Value, w.heap[g]? = some (.cells cur 70 (0, 0)) ∧ cur.size = N * 3 ∧ (∀ i, i < n → cur[i * 3]? = some (.string (mtx (k + 3 * i))) ∧ cur[i * 3 + 1]? = some (.string (mtx (k + 3 * i + 1))) ∧ cur[i * 3 + 2]? = some (.int .i64 (k + 3 * i + 2))) ∧ (0 < m → cur[n * 3]? = some (.string (mtx (k + 3 * n)))) ∧ (1 < m → cur[n * 3 + 1]? = some (.string (mtx (k + 3 * n + 1))))
theorem MkFm.zero {w : World} {g N n m : Nat} {k k' : Int} (h : MkFm w g N k n m) : MkFm w g N k' 0 0 := by
  obtain ⟨cur, hh, hs, _⟩ := h
  exact ⟨cur, hh, hs, fun i hi => by omega, fun h => by omega, fun h => by omega⟩
theorem MkFm.lt {w : World} {g N n m : Nat} {k : Int} (h : MkFm w g N k n m) : g < w.heap.size := by
  obtain ⟨cur, hh, _⟩ := h
  exact slab_lt hh
theorem MkFm.there {w : World} {g N n m j : Nat} {k : Int} (h : MkFm w g N k n m) (hj : j < N * 3) : ∃ v, w.cell? ⟨g, j, none⟩ = some v := by
  obtain ⟨cur, hh, hs, _⟩ := h
  exact blk_there hh (by omega)
theorem MkFm.free {w : World} {g N n m : Nat} {k : Int} (h : MkFm w g N k n m) (o : Nat) : w.frozen? ⟨g, o, none⟩ = false := by
  obtain ⟨cur, hh, _⟩ := h
  exact slab_free hh
theorem MkFm.below {w w' : World} {g N n m : Nat} {k : Int} (h : MkFm w g N k n m) (hb : Below w.heap.size w w') : MkFm w' g N k n m := by
  obtain ⟨cur, hh, hs, hc⟩ := h
  exact ⟨cur, (hb.block g (slab_lt hh)).trans hh, hs, hc⟩
theorem MkFm.first {w : World} {g N n : Nat} {k : Int} (h : MkFm w g N k n 0) (hn : n < N) : MkFm (w.setCell ⟨g, n * 3, none⟩ (.string (mtx (k + 3 * n)))) g N k n 1 := by
  obtain ⟨cur, hh, hs, hc, _, _⟩ := h
  refine ⟨_, slab_set hh _, by simpa using hs, fun i hi => ?_, fun _ => ?_, fun h => by omega⟩
  · obtain ⟨h1, h2, h3⟩ := hc i hi
    refine ⟨?_, ?_, ?_⟩ <;> rw [Array.getElem?_setIfInBounds_ne (by omega)] <;> assumption
  · rw [Array.getElem?_setIfInBounds_self_of_lt (by omega)]
theorem MkFm.second {w : World} {g N n : Nat} {k : Int} (h : MkFm w g N k n 1) (hn : n < N) : MkFm (w.setCell ⟨g, n * 3 + 1, none⟩ (.string (mtx (k + 3 * n + 1)))) g N k n 2 := by
  obtain ⟨cur, hh, hs, hc, h0, _⟩ := h
  refine ⟨_, slab_set hh _, by simpa using hs, fun i hi => ?_, fun _ => ?_, fun _ => ?_⟩
  · obtain ⟨h1, h2, h3⟩ := hc i hi
    refine ⟨?_, ?_, ?_⟩ <;> rw [Array.getElem?_setIfInBounds_ne (by omega)] <;> assumption
  · rw [Array.getElem?_setIfInBounds_ne (by omega)]; exact h0 (by omega)
  · rw [Array.getElem?_setIfInBounds_self_of_lt (by omega)]
theorem MkFm.third {w : World} {g N n : Nat} {k : Int} (h : MkFm w g N k n 2) (hn : n < N) : MkFm (w.setCell ⟨g, n * 3 + 2, none⟩ (.int .i64 (k + 3 * n + 2))) g N k (n + 1) 0 := by
  obtain ⟨cur, hh, hs, hc, h0, h1⟩ := h
  refine ⟨_, slab_set hh _, by simpa using hs, fun i hi => ?_, fun h => by omega, fun h => by omega⟩
  by_cases e : i = n
  · subst e
    refine ⟨?_, ?_, ?_⟩
    · rw [Array.getElem?_setIfInBounds_ne (by omega)]; exact h0 (by omega)
    · rw [Array.getElem?_setIfInBounds_ne (by omega)]; exact h1 (by omega)
    · rw [Array.getElem?_setIfInBounds_self_of_lt (by omega)]
  · obtain ⟨h1, h2, h3⟩ := hc i (by omega)
    refine ⟨?_, ?_, ?_⟩ <;> rw [Array.getElem?_setIfInBounds_ne (by omega)] <;> assumption
abbrev MkF (w : World) (g N : Nat) (k : Int) (n : Nat) : Prop := MkFm w g N k n 0
set_option maxRecDepth 100000 in
set_option maxHeartbeats 4000000 in
theorem markF_any (g n c N : Nat) (k kx : Int) (w : World) (h : MkF w g N kx 0) (hN : n ≤ N) (k0 : 0 ≤ k) (k1 : k ≤ 288230376151711744) (hn : n ≤ 2097152) :
    Calls Tryz.prog 15 #[.slice (some ⟨g, 0, none⟩) n c, .int .i64 k] w fun r w' => r = .returned (.int .i64 (k + 3 * n)) ∧ MkF w' g N k n ∧ Kept (fun j => j = g) w w' := by
  have HH : Hid (MkF w g N k 0) := h.zero
  clear h
  go_enter Tryz.func15, Tryz.ntmps15
  go_wp2
  go_loopw [1, 5] (fun m i wr => ∃ j : Nat, j ≤ n ∧ i = .int .i64 j ∧ m = .int .i64 (k + 3 * j) ∧ MkF wr g N k j ∧ Kept (fun j => j = g) w wr) (fun _ i _ => n - (intOf i).toNat)
  case atStart => exact ⟨0, by omega, rfl, by simp, HH.out, Kept.refl _ _⟩
  case round =>
    obtain ⟨j, hj, rfl, rfl, hS, hK⟩ := hrel
    have HS : Hid (MkF wr g N k j ∧ Kept (fun j => j = g) w wr) := ⟨hS, hK⟩
    clear hS hK
    by_cases hlt : j < n
    · have hltI : (j : Int) < (n : Int) := by omega
      go_wp2_with fail
      refine (markText_any (k + 3 * j) _ (by omega) (by omega)).mono ?_
      rintro e w1 ⟨rfl, ht, b1⟩
      have T1 := HS.out.1.below b1
      have K1 := HS.out.2.trans (Kept.of_below b1)
      obtain ⟨v0, hv0⟩ := T1.there (j := j * 3) (by omega)
      have hf1 := T1.free
      have HX1 : Hid (MkFm (w1.setCell ⟨g, j * 3, none⟩ (.string (mtx (k + 3 * j)))) g N k j 1 ∧ Kept (fun j => j = g) w (w1.setCell ⟨g, j * 3, none⟩ (.string (mtx (k + 3 * j))))) := ⟨T1.first (by omega), K1.set _ rfl⟩
      clear T1 K1 b1 HS ht
      generalize mtx (k + 3 * j) = t1 at *
      go_wp2_with fail
      refine (markText_any (k + 3 * j + 1) _ (by omega) (by omega)).mono ?_
      rintro e w2 ⟨rfl, ht, b2⟩
      have T2 := HX1.out.1.below b2
      have K2 := HX1.out.2.trans (Kept.of_below b2)
      obtain ⟨v1, hv1⟩ := T2.there (j := j * 3 + 1) (by omega)
      obtain ⟨v2, hv2⟩ := T2.there (j := j * 3 + 2) (by omega)
      have hf2 := T2.free
      have hx : k + 3 * (j : Int) + 2 = k + 3 * j + 1 + 1 := by omega
      have HX : Hid (MkF ((w2.setCell ⟨g, j * 3 + 1, none⟩ (.string (mtx (k + 3 * j + 1)))).setCell ⟨g, j * 3 + 2, none⟩ (.int .i64 (k + 3 * j + 1 + 1))) g N k (j + 1) ∧ Kept (fun j => j = g) w ((w2.setCell ⟨g, j * 3 + 1, none⟩ (.string (mtx (k + 3 * j + 1)))).setCell ⟨g, j * 3 + 2, none⟩ (.int .i64 (k + 3 * j + 1 + 1)))) := by
        rw [← hx]
        exact ⟨(T2.second (by omega)).third (by omega), (K2.set _ rfl).set _ rfl⟩
      clear K2 T2 hx b2 hv0 hf1 HX1 ht
      generalize mtx (k + 3 * j + 1) = t2 at *
      go_wp2
      exact ⟨⟨j + 1, by omega, by go_num, by congr 1; push_cast; omega, HX.out.1, HX.out.2⟩, by simp [intOf]; omega⟩
    · obtain rfl : j = n := by omega
      go_wp2
      go_ret
      exact ⟨rfl, HS.out.1, HS.out.2⟩
set_option maxRecDepth 100000 in
theorem markF_nil (a : Option Addr) (c : Nat) (k : Int) (w : World) : Calls Tryz.prog 15 #[.slice a 0 c, .int .i64 k] w fun e w' => e = .returned (.int .i64 k) ∧ w' = w := by
  go_enter Tryz.func15, Tryz.ntmps15
  go_wp2
  go_loop [1, 5] (fun m i => m = .int .i64 k ∧ i = .int .i64 0) (fun _ _ => 0)
  case atStart => exact ⟨rfl, rfl⟩
  case round =>
    obtain ⟨rfl, rfl⟩ := hrel
    go_wp2
    go_ret
    exact ⟨rfl, rfl⟩
set_option maxRecDepth 100000 in
theorem heldF_nil (a : Option Addr) (c : Nat) (k : Int) (w : World) : Calls Tryz.prog 16 #[.slice a 0 c, .int .i64 k] w fun e w' => e = .returned (.int .i64 k) ∧ w' = w := by
  go_enter Tryz.func16, Tryz.ntmps16
  go_wp2
  go_loop [1, 5] (fun m i => m = .int .i64 k ∧ i = .int .i64 0) (fun _ _ => 0)
  case atStart => exact ⟨rfl, rfl⟩
  case round =>
    obtain ⟨rfl, rfl⟩ := hrel
    go_wp2
    go_ret
    exact ⟨rfl, rfl⟩
/-- A text stands there. -/
abbrev StF (W : World) (g o : Nat) (tx : ByteArray) (w' : World) : Prop := w'.cell? ⟨g, o, none⟩ = some (.string tx) ∧ g < w'.heap.size ∧ Below W.heap.size W w'
theorem StF.keep {W : World} {g o : Nat} {tx : ByteArray} {w1 w2 : World} (h : StF W g o tx w1) (hb : Below w1.heap.size w1 w2) : StF W g o tx w2 := ⟨(hb.cell (p := ⟨g, o, none⟩) h.2.1).trans h.1, Nat.lt_of_lt_of_le h.2.1 hb.size, below_step h.2.2 (Nat.le_refl _) hb⟩
set_option maxRecDepth 100000 in
set_option maxHeartbeats 4000000 in
theorem heldF_any (g n c N : Nat) (k : Int) (w : World) (h : MkF w g N k n) (hN : n ≤ N) (k0 : 0 ≤ k) (k1 : k ≤ 288230376151711744) (hn : n ≤ 2097152) :
    Calls Tryz.prog 16 #[.slice (some ⟨g, 0, none⟩) n c, .int .i64 k] w fun r w' => r = .returned (.int .i64 (k + 3 * n)) ∧ Below w.heap.size w w' := by
  have HH : Hid (MkF w g N k n) := h
  clear h
  go_enter Tryz.func16, Tryz.ntmps16
  go_wp2
  go_loopw [1, 5] (fun m i wr => ∃ j : Nat, j ≤ n ∧ i = .int .i64 j ∧ m = .int .i64 (k + 3 * j) ∧ Below w.heap.size w wr) (fun _ i _ => n - (intOf i).toNat)
  case atStart => exact ⟨0, by omega, rfl, by simp, Below.refl _ _⟩
  case round =>
    obtain ⟨j, hj, rfl, rfl, hbl⟩ := hrel
    by_cases hlt : j < n
    · have hltI : (j : Int) < (n : Int) := by omega
      obtain ⟨cur, hh, hs, hc, _⟩ := HH.out.below hbl
      obtain ⟨e1, e2, e3⟩ := hc j hlt
      have hP : StF w g (j * 3) (mtx (k + 3 * j)) wr.drew := ⟨by show wr.cell? _ = _; rw [slab_cell hh]; exact e1, slab_lt hh, hbl.drew⟩
      have HM : Hid (∀ w1, Calls Tryz.prog 33 #[.int .i64 (k + 3 * j)] w1 fun e w' => e = .returned (.string (mtx (k + 3 * j))) ∧ (mtx (k + 3 * j)).size ≤ maxLen ∧ Below w1.heap.size w1 w') := fun w1 => markText_any _ w1 (by omega) (by omega)
      clear hh hs hc e1 e2 e3
      generalize mtx (k + 3 * j) = tx at *
      go_wp2_with fail
      go_region_held3 (StF w g (j * 3) tx) (first | exact hP | exact StF.keep (by assumption) hb) (first | (go_at_call 33; refine (HM.out _).mono ?_; rintro e wA ⟨rfl, _, hb⟩) | fail)
      rename_i hPL
      have hB := hPL.2.2
      clear hP hPL HM hbl
      rename World => wA
      obtain ⟨cur, hh, hs, hc, _⟩ := HH.out.below hB
      obtain ⟨e1, e2, e3⟩ := hc j hlt
      have hP : StF w g (j * 3 + 1) (mtx (k + 3 * j + 1)) wA.drew := ⟨by show wA.cell? _ = _; rw [slab_cell hh]; exact e2, slab_lt hh, hB.drew⟩
      have HM : Hid (∀ w1, Calls Tryz.prog 33 #[.int .i64 (k + 3 * j + 1)] w1 fun e w' => e = .returned (.string (mtx (k + 3 * j + 1))) ∧ (mtx (k + 3 * j + 1)).size ≤ maxLen ∧ Below w1.heap.size w1 w') := fun w1 => markText_any _ w1 (by omega) (by omega)
      clear hh hs hc e1 e2 e3
      generalize mtx (k + 3 * j + 1) = tx at *
      go_wp2_with fail
      go_region_held3 (StF w g (j * 3 + 1) tx) (first | exact hP | exact StF.keep (by assumption) hb) (first | (go_at_call 33; refine (HM.out _).mono ?_; rintro e wA ⟨rfl, _, hb⟩) | fail)
      rename_i hPL
      have hB2 := hPL.2.2
      clear hP hPL HM hB
      rename World => wC
      obtain ⟨cur, hh, hs, hc, _⟩ := HH.out.below hB2
      obtain ⟨e1, e2, e3⟩ := hc j hlt
      have hx : k + 3 * (j : Int) + 2 = k + 3 * j + 1 + 1 := by omega
      rw [hx] at e3
      have c3 : wC.cell? ⟨g, j * 3 + 2, none⟩ = some (.int .i64 (k + 3 * j + 1 + 1)) := by rw [slab_cell hh]; exact e3
      clear hh hs hc e1 e2 e3 hx
      go_wp2
      go_roundw
      case rel => exact ⟨j + 1, by omega, by go_num, by congr 1; push_cast; omega, hB2⟩
      case measure => simp [intOf]; omega
    · obtain rfl : j = n := by omega
      go_wp2
      go_ret
      exact ⟨rfl, hbl⟩
end Go.Proofs.YteejkmcljokloaaGreatDoor
namespace Go.Proofs.YteejkmcljokloaaGreatDoor
open Go.RowKit

/-- These fields are marked from 1 on. -/
def Hel (w : World) (v : Value) (L : Nat) : Prop := (v = .slice none 0 0 ∧ L = 0) ∨ ∃ g c, v = .slice (some ⟨g, 0, none⟩) L c ∧ L ≤ c ∧ MkF w g c 1 L
theorem Hel.below {w w' : World} {v : Value} {L : Nat} (h : Hel w v L) (hb : Below w.heap.size w w') : Hel w' v L := by
  rcases h with h | ⟨g, c, e, h1, h2⟩
  · exact .inl h
  · exact .inr ⟨g, c, e, h1, h2.below hb⟩
theorem markF_own {w : World} {B : Nat} {v : Value} {l : List TF} (h : OwnF w B v l) (hl : l.length ≤ 1048576) :
    Calls Tryz.prog 15 #[v, .int .i64 1] w fun e w' => e = .returned (.int .i64 (1 + 3 * l.length)) ∧ Hel w' v l.length ∧ Kept (fun b => v.ownBlock = some b) w w' := by
  obtain ⟨_, h2⟩ := h
  rcases h2 with ⟨rfl, h0⟩ | ⟨g, cap, cur, rfl, _, hh, hc, _, hs, _⟩
  · refine (markF_nil none 0 1 w).mono ?_
    rintro e w' ⟨rfl, rfl⟩
    rw [h0]
    exact ⟨rfl, .inl ⟨rfl, rfl⟩, Kept.refl _ _⟩
  · refine (markF_any g l.length cap cap 1 1 w ⟨cur, hh, hs, fun i hi => by omega, fun h => by omega, fun h => by omega⟩ hc (by omega) (by omega) (by omega)).mono ?_
    rintro e w' ⟨rfl, hm, hk⟩
    exact ⟨rfl, .inr ⟨g, cap, rfl, hc, hm⟩, hk.mono fun b e => by subst e; rfl⟩
theorem heldF_own {w : World} {v : Value} {L : Nat} (h : Hel w v L) (hl : L ≤ 1048576) :
    Calls Tryz.prog 16 #[v, .int .i64 1] w fun e w' => e = .returned (.int .i64 (1 + 3 * L)) ∧ Below w.heap.size w w' := by
  rcases h with ⟨rfl, rfl⟩ | ⟨g, c, rfl, h1, h2⟩
  · refine (heldF_nil none 0 1 w).mono ?_
    rintro e w' ⟨rfl, rfl⟩
    exact ⟨rfl, Below.refl _ _⟩
  · exact heldF_any g L c c 1 w h2 h1 (by omega) (by omega) (by omega)
end Go.Proofs.YteejkmcljokloaaGreatDoor
namespace Go.Proofs.YteejkmcljokloaaGreatDoor
open Go.RowKit

/-- What one table's lists are, whatever they hold, within lo and hi. -/
def LstT (w : World) (lo hi : Nat) (x : TT) (v1 v2 : Value) : Prop := ∃ g1 g2, v1 = fullB g1 x.2.1.length ∧ v2 = fullB g2 x.2.2.2.length ∧ ShpC w g1 x.2.1.length ∧ ShpX w hi g2 x.2.2.2.length (fun i => (nthX x.2.2.2 i).2.length) ∧ lo ≤ g1 ∧ g1 < g2
theorem ShpC.kept {S : Nat → Prop} {w w' : World} {g n : Nat} (h : ShpC w g n) (hK : Kept S w w') (hg : ¬ S g) : ShpC w' g n := by
  obtain ⟨cur, hh, hs⟩ := h
  exact ⟨cur, (hK.block g (slab_lt hh) hg).trans hh, hs⟩
theorem LstT.kept {S : Nat → Prop} {w w' : World} {lo hi : Nat} {x : TT} {v1 v2 : Value} (h : LstT w lo hi x v1 v2) (hK : Kept S w w') (hS : ∀ b, lo ≤ b → b < hi → ¬ S b) : LstT w' lo hi x v1 v2 := by
  obtain ⟨g1, g2, e1, e2, h1, h2, h3, h4⟩ := h
  have h5 := h2.1
  exact ⟨g1, g2, e1, e2, h1.kept hK (hS g1 h3 (by omega)), h2.kept hK (hS g2 (by omega) h5) (fun j p q => hS j (by omega) q), h3, h4⟩
/-- The first k tables: their lists lie in ranges of their own, behind block g. -/
def RngT (w : World) (g n : Nat) (xs : List TT) (k : Nat) (ms : Nat → Nat) : Prop := ∃ cur : Array Value, w.heap[g]? = some (.cells cur 59 (0, 0)) ∧ cur.size = n * 4 ∧ (∀ i, i < k → ∃ v1 v2, cur[i * 4 + 1]? = some v1 ∧ cur[i * 4 + 3]? = some v2 ∧ LstT w (ms i) (ms (i + 1)) (nthT xs i) v1 v2) ∧ (∀ i, i < k → ms i ≤ ms (i + 1)) ∧ g < ms 0
theorem rng_le {ms : Nat → Nat} {k : Nat} (h : ∀ i, i < k → ms i ≤ ms (i + 1)) : ∀ i j, i ≤ j → j ≤ k → ms i ≤ ms j
  | i, 0, h1, _ => by rw [Nat.le_zero.1 h1]; exact Nat.le_refl _
  | i, j + 1, h1, h2 => by
    by_cases e : i = j + 1
    · rw [e]; exact Nat.le_refl _
    · exact Nat.le_trans (rng_le h i j (by omega) (by omega)) (h j (by omega))
theorem RngT.step {wr w2 : World} {g n k g1 g2 : Nat} {xs : List TT} {ms : Nat → Nat} (h : RngT wr g n xs k ms) (hm : ms k ≤ wr.heap.size) (hb : Below wr.heap.size wr w2) (hk : k < n) (hC : SlabC w2 g1 (nthT xs k).2.1.length (nthT xs k).2.1 (nthT xs k).2.1.length) (hX : SlabX w2 g2 (nthT xs k).2.2.2.length (nthT xs k).2.2.2 (nthT xs k).2.2.2.length) (hg1 : wr.heap.size ≤ g1) (hg12 : g1 < g2) (_hz : SmallT (nthT xs k)) :
    ∃ ms', RngT ((((w2.setCell ⟨g, k * 4, none⟩ (.string (nthT xs k).1)).setCell ⟨g, k * 4 + 1, none⟩ (fullB g1 (nthT xs k).2.1.length)).setCell ⟨g, k * 4 + 2, none⟩ (.int .i64 (nthT xs k).2.2.1)).setCell ⟨g, k * 4 + 3, none⟩ (fullB g2 (nthT xs k).2.2.2.length)) g n xs (k + 1) ms' ∧ ms' (k + 1) ≤ w2.heap.size := by
  obtain ⟨cur, hh, hs, hc, hmm, h0⟩ := h
  have hh2 : w2.heap[g]? = some (.cells cur 59 (0, 0)) := (hb.block g (slab_lt hh)).trans hh
  have hgl := slab_lt hh
  have hle := rng_le hmm
  have K : Kept (fun b => b = g) w2 ((((w2.setCell ⟨g, k * 4, none⟩ (.string (nthT xs k).1)).setCell ⟨g, k * 4 + 1, none⟩ (fullB g1 (nthT xs k).2.1.length)).setCell ⟨g, k * 4 + 2, none⟩ (.int .i64 (nthT xs k).2.2.1)).setCell ⟨g, k * 4 + 3, none⟩ (fullB g2 (nthT xs k).2.2.2.length)) := ((((Kept.refl (fun b => b = g) w2).set _ rfl).set _ rfl).set _ rfl).set _ rfl
  have hw := hb.size
  refine ⟨fun i => if i ≤ k then ms i else w2.heap.size, ⟨_, slab_set (slab_set (slab_set (slab_set hh2 _) _) _) _, by simpa using hs, fun i hi => ?_, fun i hi => ?_, by simp; exact h0⟩, by show (if k + 1 ≤ k then ms (k + 1) else w2.heap.size) ≤ _; rw [if_neg (by omega)]; exact Nat.le_refl _⟩
  · by_cases e : i = k
    · subst e
      refine ⟨fullB g1 (nthT xs i).2.1.length, fullB g2 (nthT xs i).2.2.2.length, ?_, ?_, ?_⟩
      · rw [Array.getElem?_setIfInBounds_ne (by omega), Array.getElem?_setIfInBounds_ne (by omega), Array.getElem?_setIfInBounds_self_of_lt (by simp; omega)]
      · rw [Array.getElem?_setIfInBounds_self_of_lt (by simp; omega)]
      · have L : LstT w2 (ms i) w2.heap.size (nthT xs i) (fullB g1 (nthT xs i).2.1.length) (fullB g2 (nthT xs i).2.2.2.length) := ⟨g1, g2, rfl, rfl, hC.shp, hX.shp, by omega, hg12⟩
        have L2 := L.kept K (fun b p q e => by have := hle 0 i (Nat.zero_le _) (Nat.le_refl _); omega)
        show LstT _ (if i ≤ i then ms i else w2.heap.size) (if i + 1 ≤ i then ms (i + 1) else w2.heap.size) _ _ _
        rw [if_pos (Nat.le_refl _), if_neg (by omega)]
        exact L2
    · obtain ⟨v1, v2, e1, e2, L⟩ := hc i (by omega)
      refine ⟨v1, v2, ?_, ?_, ?_⟩
      · rw [Array.getElem?_setIfInBounds_ne (by omega), Array.getElem?_setIfInBounds_ne (by omega), Array.getElem?_setIfInBounds_ne (by omega), Array.getElem?_setIfInBounds_ne (by omega)]; exact e1
      · rw [Array.getElem?_setIfInBounds_ne (by omega), Array.getElem?_setIfInBounds_ne (by omega), Array.getElem?_setIfInBounds_ne (by omega), Array.getElem?_setIfInBounds_ne (by omega)]; exact e2
      · have L1 := L.kept (Kept.of_below (S := fun b => b = g) hb) (fun b p q e => by have := hle 0 i (Nat.zero_le _) (by omega); omega)
        have L2 := L1.kept K (fun b p q e => by have := hle 0 i (Nat.zero_le _) (by omega); omega)
        simp only [show i ≤ k by omega, show i + 1 ≤ k by omega, if_true]
        exact L2
  · by_cases e : i = k
    · subst e
      show (if i ≤ i then ms i else w2.heap.size) ≤ (if i + 1 ≤ i then ms (i + 1) else w2.heap.size)
      rw [if_pos (Nat.le_refl _), if_neg (by omega)]
      omega
    · simp only [show i ≤ k by omega, show i + 1 ≤ k by omega, if_true]
      exact hmm i (by omega)

set_option maxRecDepth 100000 in
set_option maxHeartbeats 4000000 in
theorem toTS2_any (a : Option Addr) (cap : Nat) (ss : List TT) (w : World) (hrow : RowTb w a ss) (hlen : ss.length ≤ 1048576) (hz : ∀ i, i < ss.length → SmallT (nthT ss i)) :
    Calls Tryz.prog 7 #[.slice a ss.length cap] w fun e w' => ∃ g, e = .returned (.slice (some ⟨g, 0, none⟩) ss.length ss.length) ∧ w.heap.size ≤ g ∧ (SlabTb w' g ss.length ss ss.length ∧ ∃ ms, RngT w' g ss.length ss ss.length ms ∧ ms ss.length ≤ w'.heap.size) ∧ Below w.heap.size w w' := by
  have HR : Hid (RowTb w a ss) := hrow
  have HZ : Hid (∀ i, i < ss.length → SmallT (nthT ss i)) := hz
  clear hrow hz
  generalize hL : ss.length = len at *
  have HL : Hid (ss.length = len) := hL
  clear hL
  obtain ⟨i0, hi, hz0, hz1, hz2⟩ := info_parts infoTb
  go_enter Tryz.func7, Tryz.ntmps7
  go_wp2_with (at_make; refine wpList_make_full _ rfl _ _ 33 rfl w.heap.size 59 i0 _ 4 Tryz.underlying33 hi hz0 hz1 .i64 .i64 _ _ len rfl rfl rfl rfl ?m1 ?m2 (Nat.le_refl _) ?_)
  case m1 => rw [hz2]; omega
  case m2 => unfold maxLen; omega
  intro w1 hown hgr
  have hB1 : Below w.heap.size w w1 := (Below.refl _ _).grown hgr (Nat.le_refl _) (fun k hk => by cases hk)
  have hS : SlabTb w1 w.heap.size len ss 0 := by
    rcases hown.2 with ⟨h, _⟩ | ⟨g, c, cur, h, _, hh, _, _, hcs, _⟩
    · cases h
    · cases h
      exact ⟨cur, hh, hcs, fun i hi => by omega⟩
  have HG0 : Hid (∃ ms, RngT w1 w.heap.size len ss 0 ms ∧ ms 0 ≤ w1.heap.size) := by
    obtain ⟨cur, hh, hcs, _⟩ := hS
    exact ⟨fun _ => w.heap.size + 1, ⟨cur, hh, hcs, fun i hi => by omega, fun i hi => by omega, by simp⟩, slab_lt hh⟩
  clear hown hgr hi hz0 hz1 hz2
  go_wp2
  go_loopw [4] (fun i wr => ∃ k : Nat, k ≤ len ∧ i = .int .i64 k ∧ (SlabTb wr w.heap.size len ss k ∧ ∃ ms, RngT wr w.heap.size len ss k ms ∧ ms k ≤ wr.heap.size) ∧ Below w.heap.size w wr) (fun i _ => len - (intOf i).toNat)
  case atStart => exact ⟨0, by omega, rfl, ⟨hS, HG0.out⟩, hB1⟩
  case round =>
    obtain ⟨k, hk, rfl, ⟨hSk, hms⟩, hbl⟩ := hrel
    have HMS : Hid (∃ ms, RngT wr w.heap.size len ss k ms ∧ ms k ≤ wr.heap.size) := hms
    clear hms HG0
    by_cases hlt : k < len
    · obtain ⟨b, off, ca, cc, xa, xc, rfl, hlb, ⟨q0, q1, q2, q3⟩, hr, hx, _⟩ := (HR.out.below hbl) k (by rw [HL.out]; exact hlt)
      have HRr : Hid ((RowC wr ca (nthT ss k).2.1 ∧ RowX wr xa (nthT ss k).2.2.2) ∧ SmallT (nthT ss k)) := ⟨⟨hr, hx⟩, HZ.out k hlt⟩
      clear hr hx
      go_wp2_with fail
      refine (toTb_any (nthT ss k).1 ca xa cc xc (nthT ss k).2.1 (nthT ss k).2.2.1 (nthT ss k).2.2.2 wr HRr.out.1.1 HRr.out.1.2 HRr.out.2).mono ?_
      rintro e w2 ⟨_, rfl, ⟨g1, g2, rfl, ⟨hg1, S1⟩, ⟨_, hg12⟩, S2⟩, hb2⟩
      have hS2 := hSk.below hb2
      have hB2 := below_step hbl (Nat.le_refl _) hb2
      obtain ⟨v0, hv0⟩ := hS2.there (j := k * 4) (by omega)
      obtain ⟨v1, hv1⟩ := hS2.there (j := k * 4 + 1) (by omega)
      obtain ⟨v2, hv2⟩ := hS2.there (j := k * 4 + 2) (by omega)
      obtain ⟨v3, hv3⟩ := hS2.there (j := k * 4 + 3) (by omega)
      have hf := hS2.free
      have hN := hS2.step hlt S1 S2
      have HN : Hid (SlabTb _ _ _ _ (k + 1)) := hN
      have HMN : Hid (∃ ms, RngT ((((w2.setCell ⟨w.heap.size, k * 4, none⟩ (.string (nthT ss k).1)).setCell ⟨w.heap.size, k * 4 + 1, none⟩ (fullB g1 (nthT ss k).2.1.length)).setCell ⟨w.heap.size, k * 4 + 2, none⟩ (.int .i64 (nthT ss k).2.2.1)).setCell ⟨w.heap.size, k * 4 + 3, none⟩ (fullB g2 (nthT ss k).2.2.2.length)) w.heap.size len ss (k + 1) ms ∧ ms (k + 1) ≤ w2.heap.size) := by
        obtain ⟨ms, hr, hm⟩ := HMS.out
        exact hr.step hm hb2 hlt S1 S2 hg1 hg12 HRr.out.2
      clear q0 q1 q2 q3 hb2 hlb hSk hbl hS2 hN hS hB1 S1 S2 HRr HMS hg1 hg12
      go_wp2
      go_roundw
      case rel => exact ⟨k + 1, by omega, by go_num, ⟨HN.out, by obtain ⟨ms, h1, h2⟩ := HMN.out; exact ⟨ms, h1, by simpa [World.setCell] using h2⟩⟩, (((hB2.setCell (p := ⟨w.heap.size, k * 4, none⟩) (Nat.le_refl _) _).setCell (p := ⟨w.heap.size, k * 4 + 1, none⟩) (Nat.le_refl _) _).setCell (p := ⟨w.heap.size, k * 4 + 2, none⟩) (Nat.le_refl _) _).setCell (p := ⟨w.heap.size, k * 4 + 3, none⟩) (Nat.le_refl _) _⟩
      case measure => simp [intOf]; omega
    · obtain rfl : k = len := by omega
      go_wp2
      go_ret
      exact ⟨_, rfl, Nat.le_refl _, ⟨hSk, HMS.out⟩, hbl⟩
end Go.Proofs.YteejkmcljokloaaGreatDoor
namespace Go.Proofs.YteejkmcljokloaaGreatDoor
open Go.RowKit

/-- The tables from the j-th on. -/
def TodoT (w : World) (g n : Nat) (xs : List TT) (j : Nat) (ms : Nat → Nat) : Prop := ∃ cur : Array Value, w.heap[g]? = some (.cells cur 59 (0, 0)) ∧ cur.size = n * 4 ∧ (∀ i, j ≤ i → i < n → ∃ v1 v2, cur[i * 4 + 1]? = some v1 ∧ cur[i * 4 + 3]? = some v2 ∧ LstT w (ms i) (ms (i + 1)) (nthT xs i) v1 v2) ∧ (∀ i, i < n → ms i ≤ ms (i + 1)) ∧ g < ms 0
theorem RngT.todo {w : World} {g n : Nat} {xs : List TT} {ms : Nat → Nat} (h : RngT w g n xs n ms) : TodoT w g n xs 0 ms := by
  obtain ⟨cur, hh, hs, hc, hm, h0⟩ := h
  exact ⟨cur, hh, hs, fun i _ hi => hc i hi, hm, h0⟩
theorem TodoT.gap {w : World} {g n j : Nat} {xs : List TT} {ms : Nat → Nat} (h : TodoT w g n xs j ms) (i : Nat) (hi : i ≤ n) : g < ms i := by
  obtain ⟨cur, _, _, _, hm, h0⟩ := h
  exact Nat.lt_of_lt_of_le h0 (rng_le hm 0 i (Nat.zero_le _) hi)
/-- Some blocks stand. -/
theorem TodoT.kept {S : Nat → Prop} {w w' : World} {g n j j' : Nat} {xs : List TT} {ms : Nat → Nat} (h : TodoT w g n xs j ms) (hK : Kept S w w') (hj : j ≤ j') (hg : ¬ S g) (hS : ∀ b i, j' ≤ i → i < n → ms i ≤ b → b < ms (i + 1) → ¬ S b) : TodoT w' g n xs j' ms := by
  obtain ⟨cur, hh, hs, hc, hm, h0⟩ := h
  refine ⟨cur, (hK.block g (slab_lt hh) hg).trans hh, hs, fun i p q => ?_, hm, h0⟩
  obtain ⟨v1, v2, e1, e2, L⟩ := hc i (by omega) q
  exact ⟨v1, v2, e1, e2, L.kept hK fun b r s => hS b i p q r s⟩
/-- A cell of its own that holds no list is set. -/
theorem TodoT.set {w : World} {g n j o : Nat} {xs : List TT} {ms : Nat → Nat} (h : TodoT w g n xs j ms) (ho : ∀ i, o ≠ i * 4 + 1 ∧ o ≠ i * 4 + 3) (v : Value) : TodoT (w.setCell ⟨g, o, none⟩ v) g n xs j ms := by
  have hgap := h.gap
  obtain ⟨cur, hh, hs, hc, hm, h0⟩ := h
  refine ⟨_, slab_set hh v, by simpa using hs, fun i p q => ?_, hm, h0⟩
  obtain ⟨v1, v2, e1, e2, L⟩ := hc i p q
  have K : Kept (fun b => b = g) w (w.setCell ⟨g, o, none⟩ v) := (Kept.refl (fun b => b = g) w).set _ rfl
  refine ⟨v1, v2, ?_, ?_, L.kept K fun b r s e => by have := hgap i (by omega); omega⟩
  · rw [Array.getElem?_setIfInBounds_ne (ho i).1]; exact e1
  · rw [Array.getElem?_setIfInBounds_ne (ho i).2]; exact e2
theorem TodoT.there {w : World} {g n j o : Nat} {xs : List TT} {ms : Nat → Nat} (h : TodoT w g n xs j ms) (ho : o < n * 4) : (∃ v, w.cell? ⟨g, o, none⟩ = some v) ∧ ∀ q, w.frozen? ⟨g, q, none⟩ = false := by
  obtain ⟨cur, hh, hs, _⟩ := h
  exact ⟨blk_there hh (by omega), fun q => slab_free hh⟩
theorem TodoT.lists {w : World} {g n j : Nat} {xs : List TT} {ms : Nat → Nat} (h : TodoT w g n xs j ms) (hj : j < n) : ∃ g1 g2, w.cell? ⟨g, j * 4 + 1, none⟩ = some (fullB g1 (nthT xs j).2.1.length) ∧ w.cell? ⟨g, j * 4 + 3, none⟩ = some (fullB g2 (nthT xs j).2.2.2.length) ∧ ShpC w g1 (nthT xs j).2.1.length ∧ ShpX w (ms (j + 1)) g2 (nthT xs j).2.2.2.length (fun i => (nthX (nthT xs j).2.2.2 i).2.length) ∧ ms j ≤ g1 ∧ g1 < g2 := by
  obtain ⟨cur, hh, hs, hc, _⟩ := h
  obtain ⟨v1, v2, e1, e2, g1, g2, rfl, rfl, r⟩ := hc j (Nat.le_refl _) hj
  exact ⟨g1, g2, (slab_cell hh).trans e1, (slab_cell hh).trans e2, r⟩
set_option maxRecDepth 100000 in
set_option maxHeartbeats 8000000 in
theorem markTS_any (lo hi g n c : Nat) (xs : List TT) (ms : Nat → Nat) (w : World) (h : TodoT w g n xs 0 ms) (hlo : lo ≤ g) (hhi : ms n ≤ hi) (hgh : g < hi) (hz : ∀ i, i < n → SmallT (nthT xs i)) (hn : n ≤ 1048576) :
    Calls Tryz.prog 13 #[.slice (some ⟨g, 0, none⟩) n c, .int .i64 1] w fun r w' => ∃ q : Int, r = .returned (.int .i64 q) ∧ 1 ≤ q ∧ q ≤ 1 + 1099519754242 * n ∧ Kept (Rng lo hi) w w' := by
  have HH : Hid (TodoT w g n xs 0 ms) := h
  have HZ : Hid ((∀ i, i < n → SmallT (nthT xs i)) ∧ (∀ i, i < n → ms i ≤ ms (i + 1))) := ⟨hz, h.choose_spec.2.2.2.1⟩
  have HG : Hid (∀ i, i ≤ n → g < ms i) := fun i hi => h.gap i hi
  clear h hz
  go_enter Tryz.func13, Tryz.ntmps13
  go_wp2
  go_loopw [1, 5] (fun u i wr => ∃ (j : Nat) (q : Int), j ≤ n ∧ i = .int .i64 j ∧ u = .int .i64 q ∧ 1 ≤ q ∧ q ≤ 1 + 1099519754242 * j ∧ Hid (TodoT wr g n xs j ms ∧ Kept (Rng lo hi) w wr)) (fun _ i _ => n - (intOf i).toNat)
  case atStart => exact ⟨0, 1, by omega, rfl, rfl, by omega, by omega, HH.out, Kept.refl _ _⟩
  case round =>
    clear HH
    obtain ⟨j, q, hj, rfl, rfl, q0, q1, HS⟩ := hrel
    by_cases hlt : j < n
    · have hltI : (j : Int) < (n : Int) := by omega
      have hqb : q ≤ 2000000000000000000 := by omega
      obtain ⟨⟨v0, hv0⟩, hf⟩ := HS.out.1.there (o := j * 4) (by omega)
      go_wp2_with fail
      refine (markText_any q wr (by omega) (by omega)).mono ?_
      rintro e w1 ⟨rfl, _, b1⟩
      have T1 : TodoT w1 g n xs j ms := HS.out.1.kept (Kept.of_below (S := fun _ => False) b1) (Nat.le_refl _) id (fun _ _ _ _ _ _ => id)
      have K1 := HS.out.2.trans (Kept.of_below b1)
      generalize mtx q = tx
      obtain ⟨⟨u0, hu0⟩, hf1⟩ := T1.there (o := j * 4) (by omega)
      obtain ⟨W2, hW2⟩ : ∃ W2, w1.setCell ⟨g, j * 4, none⟩ (.string tx) = W2 := ⟨_, rfl⟩
      have T2 : TodoT W2 g n xs j ms := hW2 ▸ T1.set (fun i => ⟨by omega, by omega⟩) _
      have K2 : Kept (Rng lo hi) w W2 := hW2 ▸ K1.set _ ⟨hlo, hgh⟩
      obtain ⟨g1, g2, l1, l2, S1, S2, r1, r2⟩ := T2.lists hlt
      have hz := HZ.out.1 j hlt
      have hmc := markC_any g1 (nthT xs j).2.1.length (nthT xs j).2.1.length (q + 1) W2 S1 (by omega) (by omega) hz.2.1.1
      have H2 : Hid (TodoT W2 g n xs j ms ∧ Kept (Rng lo hi) w W2 ∧ ShpX W2 (ms (j + 1)) g2 (nthT xs j).2.2.2.length (fun i => (nthX (nthT xs j).2.2.2 i).2.length) ∧ ms j ≤ g1 ∧ g1 < g2 ∧ W2.cell? ⟨g, j * 4 + 3, none⟩ = some (fullB g2 (nthT xs j).2.2.2.length)) := ⟨T2, K2, S2, r1, r2, l2⟩
      have HZ2 : Hid ((nthT xs j).2.2.2.length ≤ 1048576 ∧ ∀ i, i < (nthT xs j).2.2.2.length → (nthX (nthT xs j).2.2.2 i).2.length ≤ 1048576) := ⟨hz.2.2.1, fun i hi => (hz.2.2.2 i hi).2⟩
      obtain ⟨nc, hnc⟩ : ∃ nc, (nthT xs j).2.1.length = nc := ⟨_, rfl⟩
      have hncb : nc ≤ 1048576 := by rw [← hnc]; exact hz.2.1.1
      rw [hnc] at hmc l1
      clear T1 T2 K1 K2 S1 S2 l2 b1 hz hv0 hf r1 r2 HS hnc
      go_wp2_with fail
      refine hmc.mono ?_
      rintro e w3 ⟨rfl, K3⟩
      have h2 := H2.out
      have hgj := HG.out j (by omega)
      have T3 : TodoT w3 g n xs (j + 1) ms := h2.1.kept K3 (by omega) (fun e => by have e' : g = g1 := e; omega) (fun b i p1 p2 p3 _ e => by
        have e' : b = g1 := e
        have h5 := h2.2.2.1.1
        have := rng_le HZ.out.2 (j + 1) i p1 (by omega)
        omega)
      have c3 : w3.cell? ⟨g, j * 4 + 3, none⟩ = some (fullB g2 (nthT xs j).2.2.2.length) := by
        obtain ⟨cur, hh, _⟩ := h2.1
        exact (World.cell?_of_block (w := W2) (K3.block g (slab_lt hh) (fun e => by have e' : g = g1 := e; omega))).trans h2.2.2.2.2.2
      obtain ⟨⟨u2, hu2⟩, hf3⟩ := T3.there (o := j * 4 + 2) (by omega)
      obtain ⟨W4, hW4⟩ : ∃ W4, w3.setCell ⟨g, j * 4 + 2, none⟩ (.int .i64 (q + 1 + 3 * nc)) = W4 := ⟨_, rfl⟩
      have T4 : TodoT W4 g n xs (j + 1) ms := hW4 ▸ T3.set (fun i => ⟨by omega, by omega⟩) _
      have KW : Kept (fun b => b = g) w3 W4 := hW4 ▸ (Kept.refl (fun b => b = g) w3).set _ rfl
      have K4 : Kept (Rng lo hi) w W4 := (h2.2.1.trans (K3.mono fun b e => by
        subst e
        have h5 := h2.2.2.1.1
        have := rng_le HZ.out.2 (j + 1) n (by omega) (Nat.le_refl _)
        exact ⟨by omega, by omega⟩)).trans (KW.mono fun b e => by subst e; exact ⟨hlo, hgh⟩)
      have S3 : ShpX W4 (ms (j + 1)) g2 (nthT xs j).2.2.2.length (fun i => (nthX (nthT xs j).2.2.2 i).2.length) := (h2.2.2.1.kept K3 (fun e => by have e' : g2 = g1 := e; omega) (fun b p _ e => by have e' : b = g1 := e; omega)).kept KW (fun e => by have e' : g2 = g := e; omega) (fun b p _ e => by have e' : b = g := e; omega)
      have c4 : W4.cell? ⟨g, j * 4 + 3, none⟩ = some (fullB g2 (nthT xs j).2.2.2.length) := by
        rw [← hW4, World.cell?_setCell_other _ _ _ _ (by simp)]
        exact c3
      have hmx := markX_any (ms j) (ms (j + 1)) g2 (nthT xs j).2.2.2.length (nthT xs j).2.2.2.length (fun i => (nthX (nthT xs j).2.2.2 i).2.length) (q + 1 + 3 * nc + 1) W4 S3 (by omega) HZ2.out.2 (by omega) (by omega) HZ2.out.1
      have H4 : Hid (TodoT W4 g n xs (j + 1) ms ∧ Kept (Rng lo hi) w W4 ∧ g < ms j) := ⟨T4, K4, hgj⟩
      obtain ⟨mx, hmxl⟩ : ∃ mx, (nthT xs j).2.2.2.length = mx := ⟨_, rfl⟩
      have hmb : mx ≤ 1048576 := by rw [← hmxl]; exact HZ2.out.1
      rw [hmxl] at hmx c3 c4
      clear h2 hgj T3 T4 KW K4 S3 c3 K3 H2 hmxl l1 hu0 hf1 hW2
      go_wp2_with fail
      refine hmx.mono ?_
      rintro e w5 ⟨q', rfl, a1, a2, K5⟩
      have HF : Hid (TodoT w5 g n xs (j + 1) ms ∧ Kept (Rng lo hi) w w5) := by
        obtain ⟨t4, k4, hgj⟩ := H4.out
        refine ⟨t4.kept K5 (Nat.le_refl _) (fun e => by have e' : ms j ≤ g ∧ g < ms (j + 1) := e; omega) (fun b i p1 p2 p3 _ e => ?_), k4.trans (K5.mono fun b e => ?_)⟩
        · have e' : ms j ≤ b ∧ b < ms (j + 1) := e
          have := rng_le HZ.out.2 (j + 1) i p1 (by omega)
          omega
        · have e' : ms j ≤ b ∧ b < ms (j + 1) := e
          have := rng_le HZ.out.2 (j + 1) n (by omega) (Nat.le_refl _)
          exact ⟨by omega, by omega⟩
      clear H4 K5 hmx c4 hu2 hf3 hW4
      go_wp2
      go_roundw
      case rel => exact ⟨j + 1, q', by omega, by go_num, rfl, by omega, by push_cast; omega, HF.out.1, HF.out.2⟩
      case measure => simp [intOf]; omega
    · obtain rfl : j = n := by omega
      have HK : Hid (Kept (Rng lo hi) w wr) := HS.out.2
      clear HS
      go_wp2
      go_ret
      exact ⟨q, rfl, q0, q1, HK.out⟩
end Go.Proofs.YteejkmcljokloaaGreatDoor
namespace Go.Proofs.YteejkmcljokloaaGreatDoor
open Go.RowKit

theorem scp_len (ss : List TT) (hc : ∀ nm, 0 ≤ fnd ss nm → (colT ss nm).length ≤ 8) : ∀ (f : Fo) (ns : List ByteArray) (out : List TF) (a : Int), (scp ss f ns out a).1.length ≤ out.length + 8 * f.size
  | .nil, _, _, _ => by simp [scp]
  | .cons x ks r, ns, out, a => by
    unfold scp
    by_cases h6 : x.k = 6
    · rw [if_pos h6]
      by_cases hf : fnd ss x.nm < 0
      · rw [if_pos hf]; simp
      · rw [if_neg hf]
        by_cases hn : (ns.any fun n => n.toList == (tabNm x).toList) = true
        · rw [if_pos hn]; simp
        · rw [if_neg hn]
          have := scp_len ss hc r (ns ++ [tabNm x]) (out ++ colsF (tabNm x) (colT ss x.nm)) (a + ((ks.size : Int) + 1))
          have h8 := hc x.nm (by omega)
          rw [List.length_append, colsF_len] at this
          simp only [Fo.size]
          omega
    · rw [if_neg h6]
      have := scp_len ss hc r ns out (a + ((ks.size : Int) + 1))
      simp only [Fo.size]
      omega
theorem scR_len (ss : List TT) (x : ND) (ks : Fo) : (scR ss x ks).1.length ≤ 1048576 := by
  unfold scR
  by_cases h1 : 4096 < ss.length
  · rw [if_pos h1]; simp
  rw [if_neg h1]
  by_cases h2 : asB (CatP ss) = false ∨ sqlB x ks = false
  · rw [if_pos h2]; simp
  rw [if_neg h2]
  have hp : CatP ss := by
    cases h : asB (CatP ss) with
    | true => exact asB_is h
    | false => exact absurd (.inl h) h2
  have hs : sqlB x ks = true := by
    cases h : sqlB x ks with
    | true => rfl
    | false => exact absurd (.inr h) h2
  by_cases hk : x.k = 1
  · rw [if_pos hk]
    have := scp_len ss (fun nm h => (hp.cols h).2) ks [] [] 1
    have := sqlB_size hs
    simp at *
    omega
  · rw [if_neg hk]
    by_cases hf : fnd ss x.nm < 0
    · rw [if_pos hf]; simp
    · rw [if_neg hf]
      have := (hp.cols (nm := x.nm) (by omega)).2
      show (colsF _ _).length ≤ _
      rw [colsF_len]
      omega
/-- What was handed in, and its box. -/
abbrev ArgS (w : World) (bx : Nat) (a : Option Addr) (ss : List TT) (x : ND) (ka : Option Addr) (s : Value) (ks : Fo) (W : World) : Prop := RowTb W a ss ∧ RowT 0 W ka 0 ks ∧ BoxN bx x s W ∧ Below w.heap.size w W
theorem ArgS.keep {w : World} {bx : Nat} {a : Option Addr} {ss : List TT} {x : ND} {ka : Option Addr} {s : Value} {ks : Fo} {W W' : World} (h : ArgS w bx a ss x ka s ks W) (hb : Below W.heap.size W W') : ArgS w bx a ss x ka s ks W' := ⟨h.1.below hb, h.2.1.below hb, h.2.2.1.below hb, below_step h.2.2.2 (Nat.le_refl _) hb⟩
set_option maxRecDepth 100000 in
set_option maxHeartbeats 8000000 in
theorem lawScope (a : Option Addr) (cap : Nat) (ss : List TT) (x : ND) (ka : Option Addr) (kc : Nat) (ks : Fo) (w : World) (hg : ErrT w) (h : RowTb w a ss) (hl : ss.length ≤ maxLen) (hrow : RowT 0 w ka 0 ks) (hkl : ks.len ≤ maxLen) (ht : TextsN maxLen x) :
    Calls Tryz.prog 3 #[.slice a ss.length cap, ValT x (.slice ka ks.len kc)] w fun r w' => r = .returned (.bool true) ∧ Below w.heap.size w w' := by
  have M : Hid (ss.length ≤ maxLen ∧ ks.len ≤ maxLen ∧ TextsN maxLen x) := ⟨hl, hkl, ht⟩
  have G : Hid (∀ w1, Below w.heap.size w w1 → ErrT w1) := fun w1 b => hg.below b hg.2
  obtain ⟨W0, hW0⟩ : ∃ W0, w.alloc (.cells #[.int .i64 x.k, .int .i64 x.n, .string x.nm, .string x.of, .int .i64 x.vk, .int .i64 x.vn, .string x.vt, .slice ka ks.len kc] 27) = W0 := ⟨_, rfl⟩
  have B0 : Below w.heap.size w W0 := hW0 ▸ (Below.refl _ _).alloc (Nat.le_refl _) _
  have X0 : ArgS w w.heap.size a ss x ka (.slice ka ks.len kc) ks W0 := ⟨h.below B0, hrow.below B0, hW0 ▸ BoxN.new 27, B0⟩
  have hsz1 := szTS_any a cap ss 1048576 W0 X0.1 M.out.1 (by omega) (by omega)
  clear hg h hl hrow hkl ht B0
  obtain ⟨n, hn⟩ : ∃ n, ss.length = n := ⟨_, rfl⟩
  have HN : Hid (ss.length = n) := hn
  obtain ⟨len, hL⟩ : ∃ m, ks.len = m := ⟨_, rfl⟩
  have HL : Hid (ks.len = len) := hL
  rw [hn] at hsz1
  rw [hn, hL]
  rw [hL] at hW0 X0
  have Y0 : Hid (ArgS w w.heap.size a ss x ka (.slice ka len kc) ks W0) := X0
  clear hn hL X0
  go_enter Tryz.func3, Tryz.ntmps3
  go_wp2_with fail
  refine hsz1.mono ?_
  rintro r w1 ⟨q, rfl, q0, q1, q2, b1⟩
  have Y1 : Hid (ArgS w w.heap.size a ss x ka (.slice ka len kc) ks w1) := Y0.out.keep b1
  clear hsz1 b1 hW0 Y0
  by_cases hq : q < 0
  · have hB := Y1.out.2.2.2
    clear q2
    go_wp2
    go_ret
    exact ⟨rfl, hB⟩
  have LT : Hid (ss.length ≤ 1048576 ∧ ∀ i, i < ss.length → SmallT (nthT ss i)) := by
    obtain ⟨h1, h2⟩ := q2 (by omega)
    have := HN.out
    exact ⟨by omega, fun i hi => h2 i (by omega)⟩
  clear q2
  have hsz2 := szT_any x ks (szS_any ks) ka kc q w1 Y1.out.2.1 M.out.2.1 M.out.2.2 (by omega) (by omega)
  rw [HL.out] at hsz2
  obtain ⟨⟨y0, y1, y2, y3, y4, y5, y6, y7⟩, _⟩ := Y1.out.2.2.1
  go_wp2_with fail
  refine hsz2.mono ?_
  rintro r w2 ⟨z, rfl, z0, z2, b2⟩
  have Y2 : Hid (ArgS w w.heap.size a ss x ka (.slice ka len kc) ks w2) := Y1.out.keep b2
  clear hsz2 b2 Y1 y0 y1 y2 y3 y4 y5 y6 y7
  by_cases hz : z < 0
  · have hB := Y2.out.2.2.2
    clear z2
    go_wp2
    go_ret
    exact ⟨rfl, hB⟩
  have LS : Hid (ks.size ≤ 1048576 ∧ ks.len ≤ 1048576 ∧ SmallF ks ∧ TextsN 1048576 x) := by
    obtain ⟨h1, h2, h3⟩ := z2 (by omega)
    have := ks.len_le
    exact ⟨by omega, by omega, h3, h2⟩
  clear z2
  have CPT : Hid (∀ W, RowTb W a ss → Calls Tryz.prog 7 #[.slice a n cap] W fun e w' => ∃ g, e = .returned (.slice (some ⟨g, 0, none⟩) n n) ∧ W.heap.size ≤ g ∧ (SlabTb w' g n ss n ∧ RowTb w' (some ⟨g, 0, none⟩) ss ∧ ∃ ms, RngT w' g n ss n ms ∧ ms n ≤ w'.heap.size) ∧ Below W.heap.size W w') := fun W hW => by
    rw [← HN.out]
    refine (toTS2_any a cap ss W hW LT.out.1 LT.out.2).mono ?_
    rintro e w' ⟨g, rfl, h1, ⟨h2, h3⟩, h4⟩
    exact ⟨g, rfl, h1, ⟨h2, h2.row LT.out.2, h3⟩, h4⟩
  have CPN : Hid (∀ W, RowT 0 W ka 0 ks → Calls Tryz.prog 8 #[ValT x (.slice ka len kc)] W fun e w' => ∃ g, e = .returned (ValT x (fullS g len)) ∧ (KidD w' W.heap.size w'.heap.size (fullS g len) ks ∧ RowT 0 w' (some ⟨g, 0, none⟩) 0 ks) ∧ Below W.heap.size W w') := fun W hW => by
    rw [← HL.out]
    refine (toTD_any x ks (toD_any ks) ka kc W hW LS.out.2.1 LS.out.2.2.1 LS.out.1).mono ?_
    rintro e w' ⟨g, rfl, h1, h2⟩
    exact ⟨g, rfl, ⟨h1, (h1.list LS.out.2.2.1 LS.out.1).2.2⟩, h2⟩
  obtain ⟨R, hR⟩ : ∃ R, scR ss x ks = R := ⟨_, rfl⟩
  have hRl : R.1.length ≤ 1048576 := by rw [← hR]; exact scR_len ss x ks
  have SPC : Hid (∀ W g1 g2, RowTb W (some ⟨g1, 0, none⟩) ss → RowT 0 W (some ⟨g2, 0, none⟩) 0 ks → Calls Tryz.prog 6 #[.slice (some ⟨g1, 0, none⟩) n n, ValT x (fullS g2 len)] W fun e w' => ScA R W e w') := fun W g1 g2 h1 h2 => by
    rw [← HN.out, ← HL.out, ← hR]
    exact specScope_any _ _ ss x ks _ _ W h1 LT.out.1 LT.out.2 LS.out.1 h2 M.out.2.2
  have IMC : Hid (∀ W g1 g2, ErrT W → RowTb W (some ⟨g1, 0, none⟩) ss → RowT 0 W (some ⟨g2, 0, none⟩) 0 ks → Calls Tryz.prog 9 #[.slice (some ⟨g1, 0, none⟩) n n, ValT x (fullS g2 len)] W fun e w' => ScA R W e w') := fun W g1 g2 hE h1 h2 => by
    rw [← HN.out, ← HL.out, ← hR]
    exact implScope_any _ _ ss x ks _ _ W hE h1 LT.out.1 LT.out.2 LS.out.1 h2 M.out.2.2 (Nat.le_refl _)
  clear hR
  have P2 : ArgS w w.heap.size a ss x ka (.slice ka len kc) ks w2.drew := Y2.out.keep (Below.refl _ _).drew
  obtain ⟨⟨y0, y1, y2, y3, y4, y5, y6, y7⟩, _⟩ := P2.2.2.1
  clear Y2
  go_wp2_with fail
  go_region_held3 (ArgS w w.heap.size a ss x ka (.slice ka len kc) ks) (first | exact P2 | exact ArgS.keep (by assumption) hb)
    (first
    | (go_at_call 7; refine (CPT.out _ (show ArgS w w.heap.size a ss x ka (.slice ka len kc) ks _ by assumption).1).mono ?_; rintro r wA ⟨h1, rfl, _, ⟨_, S1, _⟩, hb⟩)
    | (go_at_call 8; refine (CPN.out _ (show ArgS w w.heap.size a ss x ka (.slice ka len kc) ks _ by assumption).2.1).mono ?_; rintro r wB ⟨h2, rfl, ⟨_, S2⟩, hb⟩; have S1 := S1.below hb)
    | (go_at_call 6; refine (SPC.out _ _ _ S1 S2).mono ?_; rintro r wC ⟨vw, rfl, OW, hb⟩)
    | fail)
  rename_i hPL
  obtain ⟨wa, wcap, hvw, WR⟩ := OW.row
  subst hvw
  obtain ⟨L, hLL⟩ : ∃ L, R.1.length = L := ⟨_, rfl⟩
  have HLL : Hid (R.1.length = L) := hLL
  have HEQ : Hid (∀ (a1 a2 : Option Addr) (c1 c2 : Nat) (W : World), RowF W a1 R.1 → RowF W a2 R.1 → Calls Tryz.prog 10 #[.slice a1 L c1, .slice a2 L c2] W fun e w' => e = .returned (.bool true) ∧ Below W.heap.size W w') := fun a1 a2 c1 c2 W p q => by
    rw [← HLL.out]
    exact eqF_same a1 a2 c1 c2 R.1 W p q hRl
  have hLb : L ≤ 1048576 := by rw [← hLL]; exact hRl
  rw [hLL]
  have YC : Hid (ArgS w w.heap.size a ss x ka (.slice ka len kc) ks wC ∧ RowF wC wa R.1) := ⟨hPL, WR⟩
  have C0 : Hid (ArgS w w.heap.size a ss x ka (.slice ka len kc) ks wC ∧ RowF wC wa R.1) := ⟨hPL, WR⟩
  clear hPL WR OW hLL S1 S2 hb P2 SPC hRl y0 y1 y2 y3 y4 y5 y6 y7
  go_wp2_with fail
  refine (CPT.out wC YC.out.1.1).mono ?_
  rintro r w4 ⟨g, rfl, hgC, ⟨_, S1, ms, HMs, hms⟩, b4⟩
  have Y4 : Hid (ArgS w w.heap.size a ss x ka (.slice ka len kc) ks w4 ∧ RowF w4 wa R.1 ∧ RowTb w4 (some ⟨g, 0, none⟩) ss ∧ TodoT w4 g n ss 0 ms ∧ Below wC.heap.size wC w4) := ⟨YC.out.1.keep b4, YC.out.2.below b4, S1, HMs.todo, b4⟩
  have L4 : Hid (wC.heap.size ≤ g ∧ ms n ≤ w4.heap.size ∧ g < w4.heap.size) := ⟨hgC, hms, by obtain ⟨cur, hh, _⟩ := HMs; exact slab_lt hh⟩
  clear S1 HMs hms b4 hgC YC
  obtain ⟨⟨y0, y1, y2, y3, y4, y5, y6, y7⟩, _⟩ := Y4.out.1.2.2.1
  go_wp2_with fail
  refine (CPN.out w4 Y4.out.1.2.1).mono ?_
  rintro r w5 ⟨k1, rfl, ⟨KD, S2⟩, b5⟩
  obtain ⟨W6, hW6⟩ : ∃ W6, w5.alloc (.cells #[.int .i64 x.k, .int .i64 x.n, .string x.nm, .string x.of, .int .i64 x.vk, .int .i64 x.vn, .string x.vt, fullS k1 len] 38) = W6 := ⟨_, rfl⟩
  have b6 : Below w5.heap.size w5 W6 := hW6 ▸ (Below.refl _ _).alloc (Nat.le_refl _) _
  have X6 : BoxN w5.heap.size x (fullS k1 len) W6 := hW6 ▸ BoxN.new 38
  have Y6 : Hid (ArgS w w.heap.size a ss x ka (.slice ka len kc) ks W6 ∧ RowF W6 wa R.1 ∧ RowTb W6 (some ⟨g, 0, none⟩) ss ∧ TodoT W6 g n ss 0 ms ∧ Below wC.heap.size wC W6 ∧ KidD W6 w4.heap.size w5.heap.size (fullS k1 len) ks ∧ RowT 0 W6 (some ⟨k1, 0, none⟩) 0 ks ∧ BoxN w5.heap.size x (fullS k1 len) W6) := by
    have y := Y4.out
    exact ⟨(y.1.keep b5).keep b6, (y.2.1.below b5).below b6, (y.2.2.1.below b5).below b6, (y.2.2.2.1.kept (Kept.of_below (S := fun _ => False) b5) (Nat.le_refl _) id (fun _ _ _ _ _ _ => id)).kept (Kept.of_below (S := fun _ => False) b6) (Nat.le_refl _) id (fun _ _ _ _ _ _ => id), below_step (below_step y.2.2.2.2 (Nat.le_refl _) b5) (Nat.le_refl _) b6, KD.below b6, S2.below b6, X6⟩
  have L6 : Hid (w4.heap.size ≤ w5.heap.size ∧ W6.heap.size = w5.heap.size + 1) := ⟨b5.size, by rw [← hW6]; simp⟩
  clear KD S2 b5 b6 Y4 y0 y1 y2 y3 y4 y5 y6 y7
  obtain ⟨⟨z0, z1, z2, z3, z4, z5, z6, z7⟩, _⟩ := X6
  go_wp2_with fail
  refine (IMC.out W6 g k1 (G.out _ Y6.out.1.2.2.2) Y6.out.2.2.1 Y6.out.2.2.2.2.2.2.1).mono ?_
  rintro r w7 ⟨vg, rfl, OG, b7⟩
  obtain ⟨ga, gcap, hvg, GR⟩ := OG.row
  subst hvg
  have MKF : Hid (∀ W, OwnF W W6.heap.size (.slice ga R.1.length gcap) R.1 → Calls Tryz.prog 15 #[.slice ga L gcap, .int .i64 1] W fun e w' => e = .returned (.int .i64 (1 + 3 * (L : Int))) ∧ Hel w' (.slice ga L gcap) L ∧ Kept (fun b => (Value.slice ga L gcap).ownBlock = some b) W w') := fun W hW => by
    rw [← HLL.out]
    exact markF_own hW (by rw [HLL.out]; exact hLb)
  have OLT : Hid (∀ b, (Value.slice ga L gcap).ownBlock = some b → W6.heap.size ≤ b) := fun b hb => (OG.lt (g := b) (by rw [HLL.out]; exact hb)).1
  have Y7 : Hid (OwnF w7 W6.heap.size (.slice ga R.1.length gcap) R.1 ∧ TodoT w7 g n ss 0 ms ∧ Below wC.heap.size wC w7 ∧ KidD w7 w4.heap.size w5.heap.size (fullS k1 len) ks ∧ RowT 0 w7 (some ⟨k1, 0, none⟩) 0 ks ∧ BoxN w5.heap.size x (fullS k1 len) w7 ∧ RowTb w7 (some ⟨g, 0, none⟩) ss) := by
    have y := Y6.out
    exact ⟨OG, y.2.2.2.1.kept (Kept.of_below (S := fun _ => False) b7) (Nat.le_refl _) id (fun _ _ _ _ _ _ => id), below_step y.2.2.2.2.1 (Nat.le_refl _) b7, y.2.2.2.2.2.1.below b7, y.2.2.2.2.2.2.1.below b7, y.2.2.2.2.2.2.2.below b7, y.2.2.1.below b7⟩
  rw [HLL.out]
  clear hW6 z0 z1 z2 z3 z4 z5 z6 z7 Y6 OG
  go_wp2_with fail
  refine (HEQ.out ga wa gcap wcap w7 GR (C0.out.2.below Y7.out.2.2.1)).mono ?_
  rintro r w8 ⟨rfl, b8⟩
  have Y8 : Hid (OwnF w8 W6.heap.size (.slice ga R.1.length gcap) R.1 ∧ TodoT w8 g n ss 0 ms ∧ Below wC.heap.size wC w8 ∧ KidD w8 w4.heap.size w5.heap.size (fullS k1 len) ks ∧ RowT 0 w8 (some ⟨k1, 0, none⟩) 0 ks ∧ BoxN w5.heap.size x (fullS k1 len) w8 ∧ RowTb w8 (some ⟨g, 0, none⟩) ss) := by
    have y := Y7.out
    exact ⟨y.1.below b8, y.2.1.kept (Kept.of_below (S := fun _ => False) b8) (Nat.le_refl _) id (fun _ _ _ _ _ _ => id), below_step y.2.2.1 (Nat.le_refl _) b8, y.2.2.2.1.below b8, y.2.2.2.2.1.below b8, y.2.2.2.2.2.1.below b8, y.2.2.2.2.2.2.below b8⟩
  clear b8 Y7 GR b7
  go_wp2_with fail
  refine (CPT.out w8 (C0.out.1.keep Y8.out.2.2.1).1).mono ?_
  rintro r w9 ⟨g2, rfl, _, ⟨_, S9, _⟩, b9⟩
  have EQT : Hid (∀ W, RowTb W (some ⟨g, 0, none⟩) ss → RowTb W (some ⟨g2, 0, none⟩) ss → Calls Tryz.prog 11 #[.slice (some ⟨g, 0, none⟩) n n, .slice (some ⟨g2, 0, none⟩) n n] W fun e w' => e = .returned (.bool true) ∧ Below W.heap.size W w') := fun W p q => by
    rw [← HN.out]
    exact eqTS_same _ _ _ _ ss W p q LT.out.1 LT.out.2
  go_wp2_with fail
  refine (EQT.out w9 (Y8.out.2.2.2.2.2.2.below b9) S9).mono ?_
  rintro r w10 ⟨rfl, b10⟩
  have Y10 : Hid (OwnF w10 W6.heap.size (.slice ga R.1.length gcap) R.1 ∧ TodoT w10 g n ss 0 ms ∧ Below wC.heap.size wC w10 ∧ KidD w10 w4.heap.size w5.heap.size (fullS k1 len) ks ∧ RowT 0 w10 (some ⟨k1, 0, none⟩) 0 ks ∧ BoxN w5.heap.size x (fullS k1 len) w10) := by
    have y := Y8.out
    have b := below_step b9 (Nat.le_refl _) b10
    exact ⟨y.1.below b, y.2.1.kept (Kept.of_below (S := fun _ => False) b) (Nat.le_refl _) id (fun _ _ _ _ _ _ => id), below_step y.2.2.1 (Nat.le_refl _) b, y.2.2.2.1.below b, y.2.2.2.2.1.below b, y.2.2.2.2.2.1.below b⟩
  clear b9 b10 S9 EQT Y8
  have P10 : ArgS w w.heap.size a ss x ka (.slice ka len kc) ks w10.drew ∧ BoxN w5.heap.size x (fullS k1 len) w10.drew ∧ RowT 0 w10.drew (some ⟨k1, 0, none⟩) 0 ks ∧ Below w10.heap.size w10 w10.drew := by
    have d : Below w10.heap.size w10 w10.drew := (Below.refl _ _).drew
    exact ⟨(C0.out.1.keep Y10.out.2.2.1).keep d, Y10.out.2.2.2.2.2.below d, Y10.out.2.2.2.2.1.below d, d⟩
  have EQN : Hid (∀ W k2, RowT 0 W (some ⟨k1, 0, none⟩) 0 ks → RowT 0 W (some ⟨k2, 0, none⟩) 0 ks → Calls Tryz.prog 12 #[ValT x (fullS k1 len), ValT x (fullS k2 len)] W fun e w' => e = .returned (.bool true) ∧ Below W.heap.size W w') := fun W k2 p q => by
    rw [← HL.out]
    exact eqT_same x ks (eqS_any ks LS.out.1) _ _ _ _ W p q LS.out.2.1
  go_wp2_with fail
  go_region_held3 (fun W => ArgS w w.heap.size a ss x ka (.slice ka len kc) ks W ∧ BoxN w5.heap.size x (fullS k1 len) W ∧ RowT 0 W (some ⟨k1, 0, none⟩) 0 ks ∧ Below w10.heap.size w10 W) (first | exact P10 | exact (fun q : ArgS w w.heap.size a ss x ka (.slice ka len kc) ks _ ∧ BoxN w5.heap.size x (fullS k1 len) _ ∧ RowT 0 _ (some ⟨k1, 0, none⟩) 0 ks ∧ Below w10.heap.size w10 _ => ⟨q.1.keep hb, q.2.1.below hb, q.2.2.1.below hb, below_step q.2.2.2 (Nat.le_refl _) hb⟩) (by assumption))
    (first
    | (go_at_call 8; refine (CPN.out _ (show ArgS w w.heap.size a ss x ka (.slice ka len kc) ks _ ∧ BoxN w5.heap.size x (fullS k1 len) _ ∧ RowT 0 _ (some ⟨k1, 0, none⟩) 0 ks ∧ Below w10.heap.size w10 _ by assumption).1.2.1).mono ?_; rintro r wB ⟨h2, rfl, ⟨_, S2⟩, hb⟩)
    | (go_at_call 12; refine (EQN.out _ _ (show ArgS w w.heap.size a ss x ka (.slice ka len kc) ks _ ∧ BoxN w5.heap.size x (fullS k1 len) _ ∧ RowT 0 _ (some ⟨k1, 0, none⟩) 0 ks ∧ Below w10.heap.size w10 _ by assumption).2.2.1 S2).mono ?_; rintro r w11 ⟨rfl, hb⟩)
    | fail)
  rename_i hPM
  have hMM := fun W (hW : TodoT W g n ss 0 ms) => markTS_any wC.heap.size w4.heap.size g n n ss ms W hW L4.out.1 L4.out.2.1 L4.out.2.2 (by have := LT.out.2; rw [HN.out] at this; exact this) (by have := LT.out.1; have := HN.out; omega)
  have HMM : Hid (∀ W, TodoT W g n ss 0 ms → Calls Tryz.prog 13 #[.slice (some ⟨g, 0, none⟩) n n, .int .i64 1] W fun r w' => ∃ q : Int, r = .returned (.int .i64 q) ∧ 1 ≤ q ∧ q ≤ 1 + 1099519754242 * (n : Int) ∧ Kept (Rng wC.heap.size w4.heap.size) W w') := hMM
  have hn20 : n ≤ 1048576 := by have := LT.out.1; have := HN.out; omega
  have Y11 : Hid (OwnF w11 W6.heap.size (.slice ga R.1.length gcap) R.1 ∧ TodoT w11 g n ss 0 ms ∧ Below wC.heap.size wC w11 ∧ KidD w11 w4.heap.size w5.heap.size (fullS k1 len) ks ∧ BoxN w5.heap.size x (fullS k1 len) w11) := by
    have y := Y10.out
    have b := hPM.2.2.2
    exact ⟨y.1.below b, y.2.1.kept (Kept.of_below (S := fun _ => False) b) (Nat.le_refl _) id (fun _ _ _ _ _ _ => id), below_step y.2.2.1 (Nat.le_refl _) b, y.2.2.2.1.below b, y.2.2.2.2.2.below b⟩
  have LC : Hid (wC.heap.size ≤ w4.heap.size ∧ w4.heap.size ≤ w5.heap.size ∧ W6.heap.size = w5.heap.size + 1) := ⟨by have := L4.out; omega, L6.out.1, L6.out.2⟩
  clear hMM hPM P10 EQN Y10 S2 hb
  go_wp2_with fail
  refine (HMM.out w11 Y11.out.2.1).mono ?_
  rintro r w12 ⟨qm, rfl, qm0, qm1, K12⟩
  have Y12 : Hid (OwnF w12 W6.heap.size (.slice ga R.1.length gcap) R.1 ∧ Below wC.heap.size wC w12 ∧ KidD w12 w4.heap.size w5.heap.size (fullS k1 len) ks ∧ BoxN w5.heap.size x (fullS k1 len) w12) := by
    have y := Y11.out
    have lc := LC.out
    refine ⟨y.1.keep fun b hb e => K12.block b hb fun e' => ?_, y.2.2.1.trans (K12.below y.2.2.1.size fun b e => e.1), y.2.2.2.1.kept K12 (fun b p _ e => by have := e.2; omega), ⟨y.2.2.2.2.1.same (K12.block _ y.2.2.2.2.2 fun e => by have := e.2; omega), Nat.lt_of_lt_of_le y.2.2.2.2.2 K12.size⟩⟩
    have := e'.2
    have := (y.1.lt e).1
    omega
  clear K12 Y11 HMM
  obtain ⟨⟨z0, z1, z2, z3, z4, z5, z6, z7⟩, _⟩ := Y12.out.2.2.2
  have hmk := markT_any x ks (fullS k1 len) w4.heap.size w5.heap.size qm w12 Y12.out.2.2.1 (by omega) (by have := LS.out.1; omega) (by have := LS.out.1; omega)
  obtain ⟨kk, hkk⟩ : ∃ kk, qm + 7 * (ks.size : Int) = kk := ⟨_, rfl⟩
  have hkp : ¬ kk < 0 := by omega
  rw [hkk] at hmk
  clear hkk
  go_wp2_with fail
  refine hmk.mono ?_
  rintro r w13 ⟨rfl, K13⟩
  have Y13 : Hid (OwnF w13 W6.heap.size (.slice ga R.1.length gcap) R.1 ∧ Below wC.heap.size wC w13) := by
    have y := Y12.out
    have lc := LC.out
    refine ⟨y.1.keep fun b hb e => K13.block b hb fun e' => ?_, y.2.1.trans (K13.below y.2.1.size fun b e => by have := e.1; omega)⟩
    have := e'.2
    have := (y.1.lt e).1
    omega
  clear hmk K13 Y12 z0 z1 z2 z3 z4 z5 z6 z7 qm0 qm1
  have GR13 : RowF w13 ga R.1 := by
    obtain ⟨a', c', e, hr⟩ := Y13.out.1.row
    cases e
    exact hr
  go_wp2_with fail
  refine (HEQ.out ga wa gcap wcap w13 GR13 (C0.out.2.below Y13.out.2)).mono ?_
  rintro r w14 ⟨rfl, b14⟩
  have Y14 : Hid (OwnF w14 W6.heap.size (.slice ga R.1.length gcap) R.1 ∧ Below wC.heap.size wC w14) := ⟨Y13.out.1.below b14, below_step Y13.out.2 (Nat.le_refl _) b14⟩
  clear b14 Y13 GR13
  go_wp2_with fail
  refine (MKF.out w14 Y14.out.1).mono ?_
  rintro r w15 ⟨rfl, HE15, K15⟩
  have Y15 : Hid (Hel w15 (.slice ga L gcap) L ∧ Below wC.heap.size wC w15) := ⟨HE15, Y14.out.2.trans (K15.below Y14.out.2.size fun b e => by have := OLT.out b e; have := LC.out; omega)⟩
  have HHL : Hid (∀ W, Hel W (.slice ga L gcap) L → Calls Tryz.prog 16 #[.slice ga L gcap, .int .i64 1] W fun e w' => e = .returned (.int .i64 (1 + 3 * (L : Int))) ∧ Below W.heap.size W w') := fun W hW => heldF_own hW hLb
  obtain ⟨m, hm⟩ : ∃ m, 1 + 3 * (L : Int) = m := ⟨_, rfl⟩
  have hmp : ¬ m < 0 := by omega
  rw [hm] at HHL ⊢
  clear hm HE15 K15 Y14 MKF
  go_wp2_with fail
  refine (HHL.out w15 Y15.out.1).mono ?_
  rintro r w16 ⟨rfl, b16⟩
  have Y16 : Hid (Hel w16 (.slice ga L gcap) L ∧ Below wC.heap.size wC w16) := ⟨Y15.out.1.below b16, below_step Y15.out.2 (Nat.le_refl _) b16⟩
  clear b16 Y15
  have P16 : ArgS w w.heap.size a ss x ka (.slice ka len kc) ks w16.drew ∧ Below w16.heap.size w16 w16.drew := by
    have d : Below w16.heap.size w16 w16.drew := (Below.refl _ _).drew
    exact ⟨(C0.out.1.keep Y16.out.2).keep d, d⟩
  go_wp2_with fail
  go_region_held3 (fun W => ArgS w w.heap.size a ss x ka (.slice ka len kc) ks W ∧ Below w16.heap.size w16 W) (first | exact P16 | exact (fun q : ArgS w w.heap.size a ss x ka (.slice ka len kc) ks _ ∧ Below w16.heap.size w16 _ => ⟨q.1.keep hb, below_step q.2 (Nat.le_refl _) hb⟩) (by assumption))
    (first
    | (go_at_call 7; refine (CPT.out _ (show ArgS w w.heap.size a ss x ka (.slice ka len kc) ks _ ∧ Below w16.heap.size w16 _ by assumption).1.1).mono ?_; rintro r wA2 ⟨h1, rfl, _, ⟨_, S1, _⟩, hb⟩)
    | (go_at_call 8; refine (CPN.out _ (show ArgS w w.heap.size a ss x ka (.slice ka len kc) ks _ ∧ Below w16.heap.size w16 _ by assumption).1.2.1).mono ?_; rintro r wB2 ⟨h2, rfl, ⟨_, S2⟩, hb⟩; have S1 := S1.below hb)
    | (go_at_call 9; refine (IMC.out _ _ _ (G.out _ (show ArgS w w.heap.size a ss x ka (.slice ka len kc) ks _ ∧ Below w16.heap.size w16 _ by assumption).1.2.2.2) S1 S2).mono ?_; rintro r w19 ⟨vh, rfl, OH, hb⟩)
    | fail)
  rename_i hPN
  obtain ⟨ha, hcap, hvh, HRw⟩ := OH.row
  subst hvh
  rw [HLL.out]
  have Y19 : Hid (Hel w19 (.slice ga L gcap) L ∧ Below wC.heap.size wC w19) := ⟨Y16.out.1.below hPN.2, below_step Y16.out.2 (Nat.le_refl _) hPN.2⟩
  clear hPN P16 Y16 S1 S2 hb OH
  go_wp2_with fail
  refine (HEQ.out ha wa hcap wcap w19 HRw (C0.out.2.below Y19.out.2)).mono ?_
  rintro r w20 ⟨rfl, b20⟩
  have Y20 : Hid (Hel w20 (.slice ga L gcap) L ∧ Below wC.heap.size wC w20) := ⟨Y19.out.1.below b20, below_step Y19.out.2 (Nat.le_refl _) b20⟩
  clear b20 Y19 HRw
  go_wp2_with fail
  refine (HHL.out w20 Y20.out.1).mono ?_
  rintro r w21 ⟨rfl, b21⟩
  have HB : Hid (Below w.heap.size w w21) := by
    have h1 := C0.out.1.2.2.2
    have h2 := below_step Y20.out.2 (Nat.le_refl _) b21
    exact h1.trans (h2.mono h1.size)
  clear b21 Y20
  go_wp2
  go_ret
  exact ⟨rfl, HB.out⟩
end Go.Proofs.YteejkmcljokloaaGreatDoor
