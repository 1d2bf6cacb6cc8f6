/- Lists of transactions: copied, compared (stage 7). -/
import Derived.Test.YtmkagolechjjkaaVrC
namespace Go.Proofs.Ytmkagolechjjkaa
open Go.RowKit

set_option maxRecDepth 100000 in
set_option maxHeartbeats 2000000 in
theorem toX1_any (o : Bool) (n : Int) (wa : Option Addr) (wc : Nat) (ws : List TW) (w : World) (h : RowW w wa ws) (hl : ws.length ≤ 1048576) :
    Calls Try.prog 61 #[ValX o n (.slice wa ws.length wc)] w fun e w' => ∃ g, e = .returned (ValX o n (.slice (some ⟨g, 0, none⟩) ws.length ws.length)) ∧ w.heap.size ≤ g ∧ SlabW w' g ws.length ws ws.length ∧ Below w.heap.size w w' := by
  have HR : Hid (RowW w wa ws) := h
  clear h
  obtain ⟨W0, hW0⟩ : ∃ W0, ((w.alloc (.cells #[.bool o, .int .i64 n, .slice wa ws.length wc] 91)).alloc (.cells #[.bool false, .int .i64 0, .slice none 0 0] 62)).alloc (.cells #[.bool o, .int .i64 n, .slice none 0 0] 62) = W0 := ⟨_, rfl⟩
  have B0 : Below w.heap.size w W0 := hW0 ▸ (((Below.refl _ _).alloc (Nat.le_refl _) _).alloc (by simp) _).alloc (by simp; omega) _
  have z0 : W0.heap.size = w.heap.size + 3 := by rw [← hW0]; simp
  have X1 : Hid (W0.heap[w.heap.size + 1]? = some (.cells #[.bool false, .int .i64 0, .slice none 0 0] 62 (0, 0))) := (hW0 ▸ (heap_old _ _ _ (by simp)).trans (heap_new' _ _ _ (by simp)) : W0.heap[w.heap.size + 1]? = _)
  have X2 : Hid (W0.heap[w.heap.size + 1 + 1]? = some (.cells #[.bool o, .int .i64 n, .slice none 0 0] 62 (0, 0))) := (hW0 ▸ heap_new' _ _ _ (by simp) : W0.heap[w.heap.size + 1 + 1]? = _)
  have c02 : W0.cell? ⟨w.heap.size, 2, none⟩ = some (.slice wa ws.length wc) := by
    have : W0.heap[w.heap.size]? = some (.cells #[.bool o, .int .i64 n, .slice wa ws.length wc] 91 (0, 0)) := hW0 ▸ (heap_old _ _ _ (by simp; omega)).trans ((heap_old _ _ _ (by simp)).trans (heap_new' _ _ _ rfl))
    simp [World.cell?, this]
  go_enter Try.func61, Try.ntmps61
  go_wp2_with fail
  refine (toW_any wa wc ws W0 (HR.out.below B0) hl).mono ?_
  rintro e w1 ⟨g, rfl, hg, hS, b1⟩
  have x1 := kpBlk X1.out b1 (slab_lt X1.out)
  have x2 := kpBlk X2.out b1 (slab_lt X2.out)
  have B1 : Below w.heap.size w w1 := B0.trans (b1.mono B0.size)
  have HS : Hid (SlabW w1 g ws.length ws ws.length) := hS
  have c10 : w1.cell? ⟨w.heap.size + 1, 0, none⟩ = some (.bool false) := by simp [World.cell?, x1]
  have c11 : w1.cell? ⟨w.heap.size + 1, 1, none⟩ = some (.int .i64 0) := by simp [World.cell?, x1]
  have c12 : w1.cell? ⟨w.heap.size + 1, 2, none⟩ = some (.slice none 0 0) := by simp [World.cell?, x1]
  have c20 : w1.cell? ⟨w.heap.size + 1 + 1, 0, none⟩ = some (.bool o) := by simp [World.cell?, x2]
  have c21 : w1.cell? ⟨w.heap.size + 1 + 1, 1, none⟩ = some (.int .i64 n) := by simp [World.cell?, x2]
  have c22 : w1.cell? ⟨w.heap.size + 1 + 1, 2, none⟩ = some (.slice none 0 0) := by simp [World.cell?, x2]
  have f1 : ∀ q, w1.frozen? ⟨w.heap.size + 1, q, none⟩ = false := fun q => slab_free x1
  have f2 : ∀ q, w1.frozen? ⟨w.heap.size + 1 + 1, q, none⟩ = false := fun q => slab_free x2
  clear x1 x2 hS b1 B0 X1 X2 hW0 c02
  go_wp2
  refine bodyPost_ret (v := ValX o n (.slice (some ⟨g, 0, none⟩) ws.length ws.length)) (by go_simp; simp [results, Try.results61, go_sem, c10, c11, c12]) rfl ⟨g, rfl, by omega, ?_, ?_⟩
  · refine HS.out.at ?_
    rw [Below.heap_setCell _ _ _ _ (by simp; omega), Below.heap_setCell _ _ _ _ (by simp; omega), Below.heap_setCell _ _ _ _ (by simp; omega), Below.heap_setCell _ _ _ _ (by simp; omega)]
  · exact (((B1.setCell (p := ⟨w.heap.size + 1 + 1, 2, none⟩) (by simp; omega) _).setCell (p := ⟨w.heap.size + 1, 0, none⟩) (by simp) _).setCell (p := ⟨w.heap.size + 1, 1, none⟩) (by simp) _).setCell (p := ⟨w.heap.size + 1, 2, none⟩) (by simp) _

theorem infoX : (Try.prog.info? 62).map (fun i => (i.zero, i.size, i.bytes)) = some (some (.agg #[.bool false, .int .i64 0, .slice none 0 0]), 3, 40) := by kernel_rfl
/-- A block of the call's own of n transactions, of which the first k are copies of those of xs. -/
def SlabX (w : World) (g n : Nat) (xs : List TX) (k : Nat) : Prop :=
  ∃ cur : Array Value, w.heap[g]? = some (.cells cur 62 (0, 0)) ∧ cur.size = n * 3 ∧ ∀ i, i < k → ∃ gi, gi ≠ g ∧ cur[i * 3]? = some (.bool (nthX xs i).1) ∧ cur[i * 3 + 1]? = some (.int .i64 (nthX xs i).2.1) ∧ cur[i * 3 + 2]? = some (.slice (some ⟨gi, 0, none⟩) (nthX xs i).2.2.length (nthX xs i).2.2.length) ∧ SlabW w gi (nthX xs i).2.2.length (nthX xs i).2.2 (nthX xs i).2.2.length
theorem SlabX.lt {w : World} {g n k : Nat} {xs : List TX} (h : SlabX w g n xs k) : g < w.heap.size := by
  obtain ⟨cur, hh, _⟩ := h
  exact slab_lt hh
theorem SlabX.below {w w' : World} {g n k : Nat} {xs : List TX} (h : SlabX w g n xs k) (hb : Below w.heap.size w w') : SlabX w' g n xs k := by
  obtain ⟨cur, hh, hs, hc⟩ := h
  refine ⟨cur, (hb.block g (slab_lt hh)).trans hh, hs, fun i hi => ?_⟩
  obtain ⟨gi, h1, h2, h3, h4, h5⟩ := hc i hi
  exact ⟨gi, h1, h2, h3, h4, h5.below hb h5.lt⟩
theorem SlabX.there {w : World} {g n k j : Nat} {xs : List TX} (h : SlabX w g n xs k) (hj : j < n * 3) : ∃ v, w.cell? ⟨g, j, none⟩ = some v := by
  obtain ⟨cur, hh, hs, _⟩ := h
  exact ⟨cur[j]'(by omega), by rw [slab_cell hh]; exact Array.getElem?_eq_getElem _⟩
theorem SlabX.free {w : World} {g n k : Nat} {xs : List TX} (h : SlabX w g n xs k) (o : Nat) : w.frozen? ⟨g, o, none⟩ = false := by
  obtain ⟨cur, hh, _⟩ := h
  exact slab_free hh
theorem SlabX.step {w : World} {g n k gi : Nat} {xs : List TX} (h : SlabX w g n xs k) (hk : k < n) (hg : gi ≠ g) (hS : SlabW w gi (nthX xs k).2.2.length (nthX xs k).2.2 (nthX xs k).2.2.length) :
    SlabX (((w.setCell ⟨g, k * 3, none⟩ (.bool (nthX xs k).1)).setCell ⟨g, k * 3 + 1, none⟩ (.int .i64 (nthX xs k).2.1)).setCell ⟨g, k * 3 + 2, none⟩ (.slice (some ⟨gi, 0, none⟩) (nthX xs k).2.2.length (nthX xs k).2.2.length)) g n xs (k + 1) := by
  obtain ⟨cur, hh, hs, hc⟩ := h
  have oth : ∀ j, j ≠ g → (((w.setCell ⟨g, k * 3, none⟩ (.bool (nthX xs k).1)).setCell ⟨g, k * 3 + 1, none⟩ (.int .i64 (nthX xs k).2.1)).setCell ⟨g, k * 3 + 2, none⟩ (.slice (some ⟨gi, 0, none⟩) (nthX xs k).2.2.length (nthX xs k).2.2.length)).heap[j]? = w.heap[j]? := fun j hj => by
    rw [Below.heap_setCell _ _ _ _ hj, Below.heap_setCell _ _ _ _ hj, Below.heap_setCell _ _ _ _ hj]
  refine ⟨_, slab_set (slab_set (slab_set hh _) _) _, by simpa using hs, fun i hi => ?_⟩
  by_cases e : i = k
  · subst e
    refine ⟨gi, hg, ?_, ?_, ?_, hS.at (oth _ hg)⟩
    · rw [Array.getElem?_setIfInBounds_ne (by omega), Array.getElem?_setIfInBounds_ne (by omega), Array.getElem?_setIfInBounds_self_of_lt (by omega)]
    · rw [Array.getElem?_setIfInBounds_ne (by omega), Array.getElem?_setIfInBounds_self_of_lt (by simp; omega)]
    · rw [Array.getElem?_setIfInBounds_self_of_lt (by simp; omega)]
  · obtain ⟨gj, h1, h2, h3, h4, h5⟩ := hc i (by omega)
    refine ⟨gj, h1, ?_, ?_, ?_, h5.at (oth _ h1)⟩
    · rw [Array.getElem?_setIfInBounds_ne (by omega), Array.getElem?_setIfInBounds_ne (by omega), Array.getElem?_setIfInBounds_ne (by omega)]; exact h2
    · rw [Array.getElem?_setIfInBounds_ne (by omega), Array.getElem?_setIfInBounds_ne (by omega), Array.getElem?_setIfInBounds_ne (by omega)]; exact h3
    · rw [Array.getElem?_setIfInBounds_ne (by omega), Array.getElem?_setIfInBounds_ne (by omega), Array.getElem?_setIfInBounds_ne (by omega)]; exact h4
theorem SlabX.row {w : World} {g : Nat} {xs : List TX} (h : SlabX w g xs.length xs xs.length) (hz : ∀ i, i < xs.length → SmallX (nthX xs i)) : RowX w (some ⟨g, 0, none⟩) xs := fun i hi => by
  have hl := h.lt
  obtain ⟨cur, hh, _, hc⟩ := h
  obtain ⟨gi, _, h2, h3, h4, h5⟩ := hc i hi
  have z := hz i hi
  refine ⟨g, 0, some ⟨gi, 0, none⟩, (nthX xs i).2.2.length, rfl, hl, ⟨?_, ?_, ?_⟩, h5.row z.2, by have := z.1; unfold maxLen; omega⟩
  · rw [slab_cell hh, Nat.zero_add]; exact h2
  · rw [slab_cell hh, Nat.zero_add]; exact h3
  · rw [slab_cell hh, Nat.zero_add]; exact h4

set_option maxRecDepth 100000 in
set_option maxHeartbeats 2000000 in
theorem toX_any (a : Option Addr) (cap : Nat) (ss : List TX) (w : World) (hrow : RowX w a ss) (hlen : ss.length ≤ 1048576) (hz : ∀ i, i < ss.length → SmallX (nthX ss i)) :
    Calls Try.prog 39 #[.slice a ss.length cap] w fun e w' => ∃ g, e = .returned (.slice (some ⟨g, 0, none⟩) ss.length ss.length) ∧ w.heap.size ≤ g ∧ SlabX w' g ss.length ss ss.length ∧ Below w.heap.size w w' := by
  have HR : Hid (RowX w a ss) := hrow
  have HZ : Hid (∀ i, i < ss.length → SmallX (nthX ss i)) := hz
  clear hrow hz
  generalize hL : ss.length = len at *
  have HL : Hid (ss.length = len) := hL
  clear hL
  obtain ⟨i0, hi, hz0, hz1, hz2⟩ := info_parts infoX
  go_enter Try.func39, Try.ntmps39
  go_wp2_with (at_make; refine wpList_make_full _ rfl _ _ 23 rfl w.heap.size 62 i0 _ 3 Try.underlying23 hi hz0 hz1 .i64 .i64 _ _ len rfl rfl rfl rfl ?m1 ?m2 (Nat.le_refl _) ?_)
  case m1 => rw [hz2]; omega
  case m2 => unfold maxLen; omega
  intro w1 hown hgr
  have hB1 : Below w.heap.size w w1 := (Below.refl _ _).grown hgr (Nat.le_refl _) (fun k hk => by cases hk)
  have hS : SlabX w1 w.heap.size len ss 0 := by
    rcases hown.2 with ⟨h, _⟩ | ⟨g, c, cur, h, _, hh, _, _, hcs, _⟩
    · cases h
    · cases h
      exact ⟨cur, hh, hcs, fun i hi => by omega⟩
  clear hown hgr hi hz0 hz1 hz2
  go_wp2
  go_loopw [4] (fun i wr => ∃ k : Nat, k ≤ len ∧ i = .int .i64 k ∧ SlabX wr w.heap.size len ss k ∧ Below w.heap.size w wr) (fun i _ => len - (intOf i).toNat)
  case atStart => exact ⟨0, by omega, rfl, hS, hB1⟩
  case round =>
    obtain ⟨k, hk, rfl, hSk, hbl⟩ := hrel
    by_cases hlt : k < len
    · obtain ⟨b, off, wa, wc, rfl, hlb, ⟨q0, q1, q2⟩, hr, _⟩ := (HR.out.below hbl) k (by rw [HL.out]; exact hlt)
      have HRr : Hid (RowW wr wa (nthX ss k).2.2 ∧ (nthX ss k).2.2.length ≤ 1048576) := ⟨hr, (HZ.out k hlt).1⟩
      clear hr
      go_wp2_with fail
      refine (toX1_any (nthX ss k).1 (nthX ss k).2.1 wa wc (nthX ss k).2.2 wr HRr.out.1 HRr.out.2).mono ?_
      rintro e w2 ⟨gi, rfl, hgi, hW, hb2⟩
      have hS2 := hSk.below hb2
      have hB2 := below_step hbl (Nat.le_refl _) hb2
      obtain ⟨v0, hv0⟩ := hS2.there (j := k * 3) (by omega)
      obtain ⟨v1, hv1⟩ := hS2.there (j := k * 3 + 1) (by omega)
      obtain ⟨v2, hv2⟩ := hS2.there (j := k * 3 + 2) (by omega)
      have hf := hS2.free
      have hN := hS2.step hlt (by have := hSk.lt; omega) hW
      have HN : Hid (SlabX _ _ _ _ (k + 1)) := hN
      clear q0 q1 q2 hb2 hlb hSk hbl hS2 hN hS hB1 hW HRr
      go_wp2
      go_roundw
      case rel => exact ⟨k + 1, by omega, by go_num, HN.out, ((hB2.setCell (p := ⟨w.heap.size, k * 3, none⟩) (Nat.le_refl _) _).setCell (p := ⟨w.heap.size, k * 3 + 1, none⟩) (Nat.le_refl _) _).setCell (p := ⟨w.heap.size, k * 3 + 2, none⟩) (Nat.le_refl _) _⟩
      case measure => simp [intOf]; omega
    · obtain rfl : k = len := by omega
      go_wp2
      go_ret
      exact ⟨_, rfl, Nat.le_refl _, hSk, hbl⟩

set_option maxRecDepth 100000 in
theorem eqX1_same (o : Bool) (n : Int) (a1 a2 : Option Addr) (c1 c2 : Nat) (ws : List TW) (w : World) (h1 : RowW w a1 ws) (h2 : RowW w a2 ws) (hl : ws.length ≤ 1048576) : Calls Try.prog 55 #[ValX o n (.slice a1 ws.length c1), ValX o n (.slice a2 ws.length c2)] w fun e w' => e = .returned (.bool true) ∧ Below w.heap.size w w' := by
  have H : Hid (RowW w a1 ws ∧ RowW w a2 ws) := ⟨h1, h2⟩
  clear h1 h2
  have B0 : Below w.heap.size w ((w.alloc (.cells #[.bool o, .int .i64 n, .slice a1 ws.length c1] 62)).alloc (.cells #[.bool o, .int .i64 n, .slice a2 ws.length c2] 62)) := ((Below.refl _ _).alloc (Nat.le_refl _) _).alloc (by simp) _
  go_enter Try.func55, Try.ntmps55
  go_wp2_with fail
  refine (eqW_same a1 a2 c1 c2 ws _ (H.out.1.below B0) (H.out.2.below B0) hl).mono ?_
  rintro e w1 ⟨rfl, b1⟩
  have B1 := below_step B0 (Nat.le_refl _) b1
  go_wp2
  go_ret
  exact ⟨rfl, B1⟩
end Go.Proofs.Ytmkagolechjjkaa
