/- An act copied; marks with their values on lists of the call's own (stage 4). -/
import Derived.Test.YtaklphoplfofbaaStF
namespace Go.Proofs.Ytaklphoplfofbaa
open Go.RowKit

theorem toAct_any (a b : Int) (w : World) :
    Calls Try.prog 30 #[PV (a, b)] w fun e w' => e = .returned (PV (a, b)) ∧ Below w.heap.size w w' := by
  go_enter Try.func30, Try.ntmps30
  go_wp2
  exact bodyPost_ret (v := PV (a, b)) (by simp [results, Try.results30, go_sem]) rfl ⟨rfl, (((Below.refl _ _).alloc (Nat.le_refl _) _).alloc (by simp) _).alloc (by simp; omega) _⟩

theorem eqReply_own {w : World} {B B' : Nat} {v v' : Value} {l : List Int} (c : Int) (h : OwnI w B v l) (h' : OwnI w B' v' l) (hl : l.length ≤ 64) :
    Calls Try.prog 32 #[.agg #[.int .i64 c, v], .agg #[.int .i64 c, v']] w fun r w' => r = .returned (.bool true) ∧ Below w.heap.size w w' := by
  obtain ⟨a, n, d, rfl⟩ : ∃ a n d, v = .slice a n d := by
    obtain ⟨a, d, e⟩ := own_shp h
    exact ⟨a, _, d, e⟩
  obtain ⟨a', n', d', rfl⟩ : ∃ a n d, v' = .slice a n d := by
    obtain ⟨a, d, e⟩ := own_shp h'
    exact ⟨a, _, d, e⟩
  have B0 : Below w.heap.size w ((w.alloc (.cells #[.int .i64 c, .slice a n d] 37)).alloc (.cells #[.int .i64 c, .slice a' n' d'] 37)) := ((Below.refl _ _).alloc (Nat.le_refl _) _).alloc (by simp) _
  have H : Hid (OwnI ((w.alloc (.cells #[.int .i64 c, .slice a n d] 37)).alloc (.cells #[.int .i64 c, .slice a' n' d'] 37)) B (.slice a n d) l) := (h.alloc _).alloc _
  have H' : Hid (OwnI ((w.alloc (.cells #[.int .i64 c, .slice a n d] 37)).alloc (.cells #[.int .i64 c, .slice a' n' d'] 37)) B' (.slice a' n' d') l) := (h'.alloc _).alloc _
  clear h h'
  go_enter Try.func32, Try.ntmps32
  go_wp2_with fail
  refine (eqI_own H.out H'.out hl).mono ?_
  rintro r w1 ⟨rfl, b1⟩
  have B1 := B0.trans (b1.mono B0.size)
  clear b1 H H'
  go_wp2
  go_ret
  exact ⟨rfl, B1⟩

/-- Held pages that hold the numbers from k on. -/
def marksP (k : Int) (n : Nat) : List P2 := (List.range n).map (fun i : Nat => (k + 2 * (i : Int), k + 2 * (i : Int) + 1))
theorem marksP_len (k : Int) (n : Nat) : (marksP k n).length = n := by simp [marksP]
theorem marksP_nth (k : Int) (n i : Nat) (h : i < n) : nthP (marksP k n) i = (k + 2 * i, k + 2 * i + 1) := by
  rw [nthP_get (by rw [marksP_len]; exact h)]
  simp [marksP]

set_option maxRecDepth 100000 in
set_option maxHeartbeats 2000000 in
theorem markH_vals (g n c N : Nat) (cur0 : Array Value) (k : Int) (w : World) (hh : w.heap[g]? = some (.cells cur0 88 (0, 0))) (hN : cur0.size = N) (hn : n * 2 ≤ N) (k0 : 0 ≤ k) (k1 : k ≤ 1000000000) (hn2 : n ≤ 1048576) :
    Calls Try.prog 53 #[.slice (some ⟨g, 0, none⟩) n c, .int .i64 k] w fun r w' => r = .returned (.int .i64 (k + 2 * n)) ∧ (∃ cur, w'.heap[g]? = some (.cells cur 88 (0, 0)) ∧ cur.size = N ∧ ∀ i, i < n → cur[i * 2]? = some (.int .i64 (k + 2 * i)) ∧ cur[i * 2 + 1]? = some (.int .i64 (k + 2 * i + 1))) ∧ Kept (fun j => j = g) w w' := by
  have HH : Hid (w.heap[g]? = some (.cells cur0 88 (0, 0))) := hh
  have HN : Hid (cur0.size = N) := hN
  clear hh hN
  go_enter Try.func53, Try.ntmps53
  go_wp2
  go_loopw [1, 5] (fun m i wr => ∃ j : Nat, j ≤ n ∧ i = .int .i64 j ∧ m = .int .i64 (k + 2 * j) ∧ (∃ cur, wr.heap[g]? = some (.cells cur 88 (0, 0)) ∧ cur.size = N ∧ ∀ i, i < j → cur[i * 2]? = some (.int .i64 (k + 2 * i)) ∧ cur[i * 2 + 1]? = some (.int .i64 (k + 2 * i + 1))) ∧ Kept (fun j => j = g) w wr) (fun _ i _ => n - (intOf i).toNat)
  case atStart => exact ⟨0, by omega, rfl, by simp, ⟨cur0, HH.out, HN.out, fun i hi => by omega⟩, Kept.refl _ _⟩
  case round =>
    obtain ⟨j, hj, rfl, rfl, ⟨cur, hc, hs, hv⟩, hK⟩ := hrel
    have HC : Hid (wr.heap[g]? = some (.cells cur 88 (0, 0)) ∧ cur.size = N ∧ ∀ i, i < j → cur[i * 2]? = some (.int .i64 (k + 2 * i)) ∧ cur[i * 2 + 1]? = some (.int .i64 (k + 2 * i + 1))) := ⟨hc, hs, hv⟩
    clear hc hs hv
    by_cases hlt : j < n
    · obtain ⟨v0, hv0⟩ : ∃ v, wr.cell? ⟨g, j * 2, none⟩ = some v := ⟨cur[j * 2]'(by have := HC.out.2.1; omega), by rw [slab_cell HC.out.1]; exact Array.getElem?_eq_getElem _⟩
      obtain ⟨v1, hv1⟩ : ∃ v, wr.cell? ⟨g, j * 2 + 1, none⟩ = some v := ⟨cur[j * 2 + 1]'(by have := HC.out.2.1; omega), by rw [slab_cell HC.out.1]; exact Array.getElem?_eq_getElem _⟩
      have hf : ∀ o, wr.frozen? ⟨g, o, none⟩ = false := fun o => slab_free HC.out.1
      have HNx : Hid (∃ cur', ((wr.setCell ⟨g, j * 2, none⟩ (.int .i64 (k + 2 * j))).setCell ⟨g, j * 2 + 1, none⟩ (.int .i64 (k + 2 * j + 1))).heap[g]? = some (.cells cur' 88 (0, 0)) ∧ cur'.size = N ∧ ∀ i, i < j + 1 → cur'[i * 2]? = some (.int .i64 (k + 2 * i)) ∧ cur'[i * 2 + 1]? = some (.int .i64 (k + 2 * i + 1))) := by
        refine ⟨_, slab_set (slab_set HC.out.1 _) _, by simpa using HC.out.2.1, fun i hi => ?_⟩
        by_cases e : i = j
        · subst e
          refine ⟨?_, ?_⟩
          · rw [Array.getElem?_setIfInBounds_ne (by omega), Array.getElem?_setIfInBounds_self_of_lt (by have := HC.out.2.1; omega)]
          · rw [Array.getElem?_setIfInBounds_self_of_lt (by simp; have := HC.out.2.1; omega)]
        · have := HC.out.2.2 i (by omega)
          refine ⟨?_, ?_⟩
          · rw [Array.getElem?_setIfInBounds_ne (by omega), Array.getElem?_setIfInBounds_ne (by omega)]; exact this.1
          · rw [Array.getElem?_setIfInBounds_ne (by omega), Array.getElem?_setIfInBounds_ne (by omega)]; exact this.2
      go_wp2
      go_roundw
      case rel => exact ⟨j + 1, by omega, by go_num, by go_num, HNx.out, (hK.set _ rfl).set _ rfl⟩
      case measure => simp [intOf]; omega
    · obtain rfl : j = n := by omega
      go_wp2
      go_ret
      exact ⟨rfl, ⟨cur, HC.out⟩, hK⟩

set_option maxRecDepth 100000 in
set_option maxHeartbeats 2000000 in
theorem heldH_marks (a : Option Addr) (n c : Nat) (k : Int) (w : World) (h : RowP w a (marksP k n)) (k0 : 0 ≤ k) (k1 : k ≤ 1000000000) (hn : n ≤ 1048576) :
    Calls Try.prog 54 #[.slice a n c, .int .i64 k] w fun r w' => r = .returned (.int .i64 (k + 2 * n)) ∧ w' = w := by
  have H : Hid (RowP w a (marksP k n)) := h
  clear h
  go_enter Try.func54, Try.ntmps54
  go_wp2
  go_loop [1, 5] (fun m i => ∃ j : Nat, j ≤ n ∧ i = .int .i64 j ∧ m = .int .i64 (k + 2 * j)) (fun _ i => n - (intOf i).toNat)
  case atStart => exact ⟨0, by omega, rfl, by simp⟩
  case round =>
    obtain ⟨j, hj, rfl, rfl⟩ := hrel
    by_cases hlt : j < n
    · obtain ⟨b, off, rfl, hlb, hc0, hc1⟩ := H.out j (by rw [marksP_len]; exact hlt)
      rw [marksP_nth k n j hlt] at hc0 hc1
      go_wp2
      go_round
      case rel => exact ⟨j + 1, by omega, by go_num, by go_num⟩
      case measure => simp [intOf]; omega
    · obtain rfl : j = n := by omega
      go_wp2
      go_ret
      exact ⟨rfl, rfl⟩
end Go.Proofs.Ytaklphoplfofbaa
