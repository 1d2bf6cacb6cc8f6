/- Marks on the transactions of a new base (stage 7). -/
import Derived.Test.YtmkagolechjjkaaNbA
namespace Go.Proofs.Ytmkagolechjjkaa
open Go.RowKit

abbrev tb (j : Nat) : Bool := (1 + 2 * (j : Int)) % 3 == 0
/-- Marks on the first j transactions. -/
def InvT (g j : Nat) (wr : World) : Prop :=
  ∃ cur : Array Value, wr.heap[g]? = some (.cells cur 62 (0, 0)) ∧ cur.size = 12 ∧ (∀ i, i < 4 → cur[i * 3 + 2]? = some (.slice none 0 0)) ∧ ∀ i, i < j → cur[i * 3]? = some (.bool (tb i)) ∧ cur[i * 3 + 1]? = some (.int .i64 (1 + 2 * (i : Int) + 1))
theorem InvT.zero {w : World} {g : Nat} (h : w.heap[g]? = some (.cells Z12 62 (0, 0))) : InvT g 0 w := ⟨_, h, rfl, fun i hi => by rcases (show i = 0 ∨ i = 1 ∨ i = 2 ∨ i = 3 by omega) with rfl | rfl | rfl | rfl <;> rfl, fun i hi => by omega⟩
theorem InvT.step {w : World} {g j : Nat} (h : InvT g j w) (hj : j < 4) : InvT g (j + 1) ((w.setCell ⟨g, j * 3, none⟩ (.bool (tb j))).setCell ⟨g, j * 3 + 1, none⟩ (.int .i64 (1 + 2 * (j : Int) + 1))) := by
  obtain ⟨cur, hh, hs, hn, hc⟩ := h
  refine ⟨_, slab_set (slab_set hh _) _, by simpa using hs, fun i hi => ?_, fun i hi => ?_⟩
  · rw [Array.getElem?_setIfInBounds_ne (by omega), Array.getElem?_setIfInBounds_ne (by omega)]
    exact hn i hi
  · by_cases e : i = j
    · subst e
      refine ⟨?_, ?_⟩
      · rw [Array.getElem?_setIfInBounds_ne (by omega), Array.getElem?_setIfInBounds_self_of_lt (by omega)]
      · rw [Array.getElem?_setIfInBounds_self_of_lt (by simp; omega)]
    · have := hc i (by omega)
      refine ⟨?_, ?_⟩
      · rw [Array.getElem?_setIfInBounds_ne (by omega), Array.getElem?_setIfInBounds_ne (by omega)]; exact this.1
      · rw [Array.getElem?_setIfInBounds_ne (by omega), Array.getElem?_setIfInBounds_ne (by omega)]; exact this.2
theorem InvT.at {w w' : World} {g j : Nat} (h : InvT g j w) (e : w'.heap[g]? = w.heap[g]?) : InvT g j w' := by
  obtain ⟨cur, hh, r⟩ := h
  exact ⟨cur, e.trans hh, r⟩
theorem InvT.lt {w : World} {g j : Nat} (h : InvT g j w) : g < w.heap.size := by
  obtain ⟨cur, hh, _⟩ := h
  exact slab_lt hh

set_option maxRecDepth 100000 in
set_option maxHeartbeats 2000000 in
theorem markTxS_zero (g : Nat) (w : World) (h : w.heap[g]? = some (.cells Z12 62 (0, 0))) : Calls Try.prog 30 #[XV g, .int .i64 1] w fun e w' => e = .returned (.int .i64 9) ∧ InvT g 4 w' ∧ Kept (fun j => j = g) w w' := by
  have H : Hid (InvT g 0 w) := InvT.zero h
  clear h
  go_enter Try.func30, Try.ntmps30
  go_wp2
  go_loopw [1, 5] (fun m i wr => ∃ j : Nat, j ≤ 4 ∧ i = .int .i64 j ∧ m = .int .i64 (1 + 2 * (j : Int)) ∧ InvT g j wr ∧ Kept (fun j => j = g) w wr) (fun _ i _ => 4 - (intOf i).toNat)
  case atStart => exact ⟨0, by omega, rfl, rfl, H.out, Kept.refl _ _⟩
  case round =>
    obtain ⟨j, hj, rfl, rfl, inv, hK⟩ := hrel
    by_cases hlt : j < 4
    · have hltI : (j : Int) < 4 := by omega
      have HN : Hid (InvT g (j + 1) ((wr.setCell ⟨g, j * 3, none⟩ (.bool (tb j))).setCell ⟨g, j * 3 + 1, none⟩ (.int .i64 (1 + 2 * (j : Int) + 1)))) := inv.step hlt
      obtain ⟨cur, hh, hs, hn, _⟩ := inv
      obtain ⟨v0, hv0⟩ : ∃ v, wr.cell? ⟨g, j * 3, none⟩ = some v := ⟨cur[j * 3]'(by omega), by rw [slab_cell hh]; exact Array.getElem?_eq_getElem _⟩
      obtain ⟨v1, hv1⟩ : ∃ v, wr.cell? ⟨g, j * 3 + 1, none⟩ = some v := ⟨cur[j * 3 + 1]'(by omega), by rw [slab_cell hh]; exact Array.getElem?_eq_getElem _⟩
      have hv2 : wr.cell? ⟨g, j * 3 + 2, none⟩ = some (.slice none 0 0) := by rw [slab_cell hh]; exact hn j hlt
      have hf : ∀ o, wr.frozen? ⟨g, o, none⟩ = false := fun o => slab_free hh
      clear hh hs hn
      go_wp2_with fail
      refine (markW_nil none 0 _ _).mono ?_
      rintro e w2 ⟨rfl, hq⟩
      obtain rfl := hq.symm
      go_wp2
      go_roundw
      case rel => exact ⟨j + 1, by omega, by go_num, by go_num, HN.out, (hK.set _ rfl).set _ rfl⟩
      case measure => simp [intOf]; omega
    · obtain rfl : j = 4 := by omega
      go_wp2
      go_ret
      exact ⟨rfl, inv, hK⟩
set_option maxRecDepth 100000 in
set_option maxHeartbeats 2000000 in
theorem heldTxS_marks (g : Nat) (w : World) (h : InvT g 4 w) : Calls Try.prog 32 #[XV g, .int .i64 1] w fun e w' => e = .returned (.int .i64 9) ∧ w' = w := by
  have H : Hid (InvT g 4 w) := h
  clear h
  go_enter Try.func32, Try.ntmps32
  go_wp2
  go_loop [1, 5] (fun m i => ∃ j : Nat, j ≤ 4 ∧ i = .int .i64 j ∧ m = .int .i64 (1 + 2 * (j : Int))) (fun _ i => 4 - (intOf i).toNat)
  case atStart => exact ⟨0, by omega, rfl, rfl⟩
  case round =>
    obtain ⟨j, hj, rfl, rfl⟩ := hrel
    by_cases hlt : j < 4
    · have hltI : (j : Int) < 4 := by omega
      obtain ⟨cur, hh, hs, hn, hc⟩ := H.out
      have hv0 : w.cell? ⟨g, j * 3, none⟩ = some (.bool (tb j)) := by rw [slab_cell hh]; exact (hc j hlt).1
      have hv1 : w.cell? ⟨g, j * 3 + 1, none⟩ = some (.int .i64 (1 + 2 * (j : Int) + 1)) := by rw [slab_cell hh]; exact (hc j hlt).2
      have hv2 : w.cell? ⟨g, j * 3 + 2, none⟩ = some (.slice none 0 0) := by rw [slab_cell hh]; exact hn j hlt
      clear hh hs hn hc
      go_wp2_with fail
      refine (heldW_nil none 0 _ _).mono ?_
      rintro e w2 ⟨rfl, hq⟩
      obtain rfl := hq.symm
      go_wp2
      go_round
      case rel => exact ⟨j + 1, by omega, by go_num, by go_num⟩
      case measure => simp [intOf]; omega
    · obtain rfl : j = 4 := by omega
      go_wp2
      go_ret
      exact ⟨rfl, rfl⟩
end Go.Proofs.Ytmkagolechjjkaa
