/- Rows that are read are small; the laws' marks on a row. -/
import Derived.Test.YtfkenogbfbbbjaaRdL
import Derived.Test.YtfkenogbfbbbjaaSide
namespace Go.Proofs.Ytfkenogbfbbbjaa
open Go.RowKit

theorem cellRd_small (T : (Nat → Int) → Nat → ByteArray × Int) (f : Nat → Int) (n : Nat) : (cellRd T f n).1.2.2.size ≤ 60 := by
  unfold cellRd
  split
  · exact Nat.zero_le _
  split
  · split <;> exact Nat.zero_le _
  split
  · split <;> exact Nat.zero_le _
  split
  · split
    · rename_i h; exact h.2
    · exact Nat.zero_le _
  · exact Nat.zero_le _
theorem cellsRd_small (T : (Nat → Int) → Nat → ByteArray × Int) : ∀ (j : Nat) (f : Nat → Int) (n : Nat) (vs : List V3), cellsRd T j f n = some vs → vs.length ≤ j ∧ ∀ u ∈ vs, u.2.2.size ≤ 60
  | 0, f, n, vs, h => by
    unfold cellsRd at h
    split at h
    · cases h; exact ⟨Nat.le_refl _, fun u hu => by cases hu⟩
    · cases h
  | j + 1, f, n, vs, h => by
    unfold cellsRd at h
    split at h
    · cases h; exact ⟨Nat.zero_le _, fun u hu => by cases hu⟩
    split at h
    · cases h
    · obtain ⟨vs', h', rfl⟩ := Option.map_eq_some_iff.1 h
      obtain ⟨h1, h2⟩ := cellsRd_small T j _ _ vs' h'
      refine ⟨by simpa using h1, fun u hu => ?_⟩
      rcases List.mem_cons.1 hu with rfl | hu
      · exact cellRd_small T f n
      · exact h2 u hu
theorem rowR_small (f : Nat → Int) (n : Nat) : (rowR f n).2.length ≤ 8 ∧ ∀ u ∈ (rowR f n).2, u.2.2.size ≤ 255 := by
  have nil : ([] : List V3).length ≤ 8 ∧ ∀ u ∈ ([] : List V3), u.2.2.size ≤ 255 := ⟨Nat.zero_le _, fun u hu => by cases hu⟩
  unfold rowR
  split
  · exact nil
  split
  · exact nil
  split
  · exact nil
  · rename_i vs h
    split
    · obtain ⟨h1, h2⟩ := cellsRd_small _ _ _ _ _ h
      exact ⟨h1, fun u hu => Nat.le_trans (h2 u hu) (by omega)⟩
    · exact nil

/-- A block of the call's own with at least n values, of which the first j bear marks. -/
def MarkV (w : World) (g n : Nat) (k0 : Int) (j : Nat) : Prop :=
  ∃ cur, w.heap[g]? = some (.cells cur 24 (0, 0)) ∧ n * 3 ≤ cur.size ∧
    ∀ i, i < j → cur[i * 3]? = some (.int .i64 (k0 + 3 * i)) ∧ cur[i * 3 + 1]? = some (.int .i64 (k0 + 3 * i + 1)) ∧ cur[i * 3 + 2]? = some (.string (mkT (k0 + 3 * i + 2)))
theorem MarkV.lt {w : World} {g n j : Nat} {k0 : Int} (h : MarkV w g n k0 j) : g < w.heap.size := by
  obtain ⟨cur, hh, _⟩ := h
  rcases Nat.lt_or_ge g w.heap.size with h | h
  · exact h
  · rw [Array.getElem?_eq_none h] at hh; cases hh
theorem MarkV.below {w w' : World} {g n j : Nat} {k0 : Int} (h : MarkV w g n k0 j) (hb : Below w.heap.size w w') : MarkV w' g n k0 j := by
  have hl := h.lt
  obtain ⟨cur, hh, r⟩ := h
  exact ⟨cur, (hb.block g hl).trans hh, r⟩
theorem MarkV.there {w : World} {g n j : Nat} {k0 : Int} (h : MarkV w g n k0 j) {o : Nat} (ho : o < n * 3) : ∃ v, w.cell? ⟨g, o, none⟩ = some v := by
  obtain ⟨cur, hh, hs, _⟩ := h
  exact ⟨cur[o]'(by omega), by rw [slab_cell hh]; exact Array.getElem?_eq_getElem _⟩
theorem MarkV.free {w : World} {g n j : Nat} {k0 : Int} (h : MarkV w g n k0 j) (o : Nat) : w.frozen? ⟨g, o, none⟩ = false := by
  obtain ⟨cur, hh, _⟩ := h
  exact slab_free hh
theorem MarkV.set {w : World} {g n j : Nat} {k0 : Int} (h : MarkV w g n k0 j) (o : Nat) (ho : j * 3 ≤ o) (v : Value) : MarkV (w.setCell ⟨g, o, none⟩ v) g n k0 j := by
  obtain ⟨cur, hh, hs, hc⟩ := h
  refine ⟨_, slab_set hh _, by simpa using hs, fun i hi => ?_⟩
  obtain ⟨h1, h2, h3⟩ := hc i hi
  rw [Array.getElem?_setIfInBounds_ne (by omega), Array.getElem?_setIfInBounds_ne (by omega), Array.getElem?_setIfInBounds_ne (by omega)]
  exact ⟨h1, h2, h3⟩
/-- The two numbers of value j are laid. -/
def MarkJ (w : World) (g n : Nat) (k0 : Int) (j : Nat) : Prop :=
  MarkV w g n k0 j ∧ w.cell? ⟨g, j * 3, none⟩ = some (.int .i64 (k0 + 3 * j)) ∧ w.cell? ⟨g, j * 3 + 1, none⟩ = some (.int .i64 (k0 + 3 * j + 1))
theorem MarkV.two {w : World} {g n j : Nat} {k0 : Int} (h : MarkV w g n k0 j) (hj : j < n) : MarkJ ((w.setCell ⟨g, j * 3, none⟩ (.int .i64 (k0 + 3 * j))).setCell ⟨g, j * 3 + 1, none⟩ (.int .i64 (k0 + 3 * j + 1))) g n k0 j := by
  refine ⟨(h.set _ (Nat.le_refl _) _).set _ (by omega) _, ?_, ?_⟩
  · obtain ⟨cur, hh, hs, _⟩ := h
    rw [slab_cell (slab_set (slab_set hh _) _), Array.getElem?_setIfInBounds_ne (by omega), Array.getElem?_setIfInBounds_self_of_lt (by omega)]
  · obtain ⟨cur, hh, hs, _⟩ := h
    rw [slab_cell (slab_set (slab_set hh _) _), Array.getElem?_setIfInBounds_self_of_lt (by simp; omega)]
theorem MarkJ.below {w w' : World} {g n j : Nat} {k0 : Int} (h : MarkJ w g n k0 j) (hb : Below w.heap.size w w') : MarkJ w' g n k0 j :=
  ⟨h.1.below hb, (hb.cell (p := ⟨g, j * 3, none⟩) h.1.lt).trans h.2.1, (hb.cell (p := ⟨g, j * 3 + 1, none⟩) h.1.lt).trans h.2.2⟩
theorem MarkJ.step {w : World} {g n j : Nat} {k0 : Int} (h : MarkJ w g n k0 j) (hj : j < n) (t : ByteArray) (ht : t = mkT (k0 + 3 * j + 2)) : MarkV (w.setCell ⟨g, j * 3 + 2, none⟩ (.string t)) g n k0 (j + 1) := by
  subst ht
  obtain ⟨⟨cur, hh, hs, hc⟩, h1, h2⟩ := h
  rw [slab_cell hh] at h1 h2
  refine ⟨_, slab_set hh _, by simpa using hs, fun i hi => ?_⟩
  by_cases e : i = j
  · subst e
    rw [Array.getElem?_setIfInBounds_ne (by omega), Array.getElem?_setIfInBounds_ne (by omega), Array.getElem?_setIfInBounds_self_of_lt (by omega)]
    exact ⟨h1, h2, rfl⟩
  · rw [Array.getElem?_setIfInBounds_ne (by omega), Array.getElem?_setIfInBounds_ne (by omega), Array.getElem?_setIfInBounds_ne (by omega)]
    exact hc i (by omega)

set_option maxRecDepth 100000 in
set_option maxHeartbeats 2000000 in
theorem markV_any (g n cap : Nat) (k0 : Int) (w : World) (h : MarkV w g n k0 0) (hn : n ≤ 1048576) (h0 : 0 ≤ k0) (h1 : k0 ≤ 1000) :
    Calls Try.prog 35 #[.slice (some ⟨g, 0, none⟩) n cap, .int .i64 k0] w fun e w' => e = .returned (.int .i64 (k0 + 3 * n)) ∧ MarkV w' g n k0 n ∧ But g w w' := by
  go_enter Try.func35, Try.ntmps35
  go_wp2
  go_loopw [1, 5] (fun kk i wr => ∃ j : Nat, j ≤ n ∧ i = .int .i64 j ∧ kk = .int .i64 (k0 + 3 * j) ∧ MarkV wr g n k0 j ∧ But g w wr) (fun _ i _ => n - (intOf i).toNat)
  case atStart => exact ⟨0, by omega, rfl, by go_num, h, But.refl _ _⟩
  case round =>
    obtain ⟨j, hj, rfl, rfl, hS, hB⟩ := hrel
    by_cases hlt : j < n
    · have hltI : (j : Int) < (n : Int) := by omega
      obtain ⟨v0, hv0⟩ := hS.there (o := j * 3) (by omega)
      have hf := hS.free
      have hS1 := hS.set (j * 3) (Nat.le_refl _) (.int .i64 (k0 + 3 * j))
      have hB1 := hB.setCell (j * 3) (.int .i64 (k0 + 3 * j))
      obtain ⟨v1, hv1⟩ := hS1.there (o := j * 3 + 1) (by omega)
      have hf1 := hS1.free
      have HS2 : Hid (MarkJ ((wr.setCell ⟨g, j * 3, none⟩ (.int .i64 (k0 + 3 * j))).setCell ⟨g, j * 3 + 1, none⟩ (.int .i64 (k0 + 3 * j + 1))) g n k0 j) := hS.two hlt
      have hB2 := hB1.setCell (j * 3 + 1) (.int .i64 (k0 + 3 * j + 1))
      clear h hS hB hS1 hB1
      go_wp2_with fail
      refine (markText_is _ _ (by omega) (by omega)).mono ?_
      rintro e w3 ⟨rfl, ht, hb3⟩
      have hS3 := HS2.out.below hb3
      have hB3 := hB2.trans (But.of_below (b := g) hb3)
      obtain ⟨v2, hv2⟩ := hS3.1.there (o := j * 3 + 2) (by omega)
      have hf3 := hS3.1.free
      obtain ⟨t, hte⟩ : ∃ t, mkT (k0 + 3 * (j : Int) + 1 + 1) = t := ⟨_, rfl⟩
      rw [hte]
      have HS4 : Hid (MarkV (w3.setCell ⟨g, j * 3 + 2, none⟩ (.string t)) g n k0 (j + 1)) := hS3.step hlt t (by rw [← hte]; congr 1; omega)
      have hB4 := hB3.setCell (j * 3 + 2) (.string t)
      clear hv0 hv1 hf hf1 HS2 hS3 hB3 hB2 hb3 hte ht
      go_wp2
      go_roundw
      case rel => exact ⟨j + 1, by omega, by go_num, by go_num, HS4.out, hB4⟩
      case measure => simp [intOf]; omega
    · have e : j = n := by omega
      subst e
      go_wp2
      go_ret
      exact ⟨rfl, hS, hB⟩

abbrev StM (w : World) (g o : Nat) (t : ByteArray) (w' : World) : Prop := w'.cell? ⟨g, o, none⟩ = some (.string t) ∧ g < w'.heap.size ∧ Below w.heap.size w w'
theorem StM.keep {w w1 w2 : World} {g o : Nat} {t : ByteArray} (h : StM w g o t w1) (hb : Below w1.heap.size w1 w2) : StM w g o t w2 :=
  ⟨(hb.cell (p := ⟨g, o, none⟩) h.2.1).trans h.1, Nat.lt_of_lt_of_le h.2.1 hb.size, below_step h.2.2 (Nat.le_refl _) hb⟩
theorem markText_t (k : Int) (t : ByteArray) (w : World) (ht : mkT k = t) (h0 : 0 ≤ k) (h1 : k ≤ 1000000000) :
    Calls Try.prog 69 #[.int .i64 k] w fun e w' => e = .returned (.string t) ∧ Below w.heap.size w w' := by
  subst ht
  exact (markText_is k w h0 h1).mono fun e w' h => ⟨h.1, h.2.2⟩

set_option maxRecDepth 100000 in
set_option maxHeartbeats 2000000 in
theorem heldV_any (g n cap : Nat) (k0 : Int) (w : World) (h : MarkV w g n k0 n) (hn : n ≤ 1048576) (h0 : 0 ≤ k0) (h1 : k0 ≤ 1000) :
    Calls Try.prog 40 #[.slice (some ⟨g, 0, none⟩) n cap, .int .i64 k0] w fun e w' => e = .returned (.int .i64 (k0 + 3 * n)) ∧ Below w.heap.size w w' := by
  have H : Hid (MarkV w g n k0 n) := h
  clear h
  go_enter Try.func40, Try.ntmps40
  go_wp2
  go_loopw [1, 5] (fun kk i wr => ∃ j : Nat, j ≤ n ∧ i = .int .i64 j ∧ kk = .int .i64 (k0 + 3 * j) ∧ Below w.heap.size w wr) (fun _ i _ => n - (intOf i).toNat)
  case atStart => exact ⟨0, by omega, rfl, by go_num, Below.refl _ _⟩
  case round =>
    obtain ⟨j, hj, rfl, rfl, hB⟩ := hrel
    by_cases hlt : j < n
    · have hltI : (j : Int) < (n : Int) := by omega
      have hM := H.out.below hB
      have hgl := hM.lt
      obtain ⟨cur, hh, hs, hc⟩ := hM
      obtain ⟨c0, c1, c2⟩ := hc j hlt
      rw [← slab_cell hh] at c0 c1 c2
      clear hc hh hs
      obtain ⟨t, hte⟩ : ∃ t, mkT (k0 + 3 * (j : Int) + 1 + 1) = t := ⟨_, rfl⟩
      have HT : Hid (mkT (k0 + 3 * (j : Int) + 1 + 1) = t) := hte
      have c2' : wr.cell? ⟨g, j * 3 + 2, none⟩ = some (.string t) := by
        rw [c2, ← hte]
        congr 3
        omega
      have HS : Hid (StM w g (j * 3 + 2) t wr.drew) := ⟨c2', hgl, below_drewN hB 1⟩
      clear c2 c2' hte hgl hB
      go_wp2_with fail
      go_region_held3 (StM w g (j * 3 + 2) t) (first | exact HS.out | exact StM.keep HS.out hb) ((go_at_call 69; refine (markText_t _ t _ HT.out (by omega) (by omega)).mono ?_; rintro e w3 ⟨rfl, hb⟩))
      have hB3 := (StM.keep HS.out hb).2.2
      clear HS HT hb
      go_wp2
      go_roundw
      case rel => exact ⟨j + 1, by omega, by go_num, by go_num, hB3⟩
      case measure => simp [intOf]; omega
    · have e : j = n := by omega
      subst e
      go_wp2
      go_ret
      exact ⟨rfl, hB⟩
end Go.Proofs.Ytfkenogbfbbbjaa
