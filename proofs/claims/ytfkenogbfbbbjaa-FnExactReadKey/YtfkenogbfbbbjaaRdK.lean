/- The laws' copy of bytes. -/
import Derived.Test.YtfkenogbfbbbjaaRdJ
namespace Go.Proofs.Ytfkenogbfbbbjaa
open Go.RowKit

/-- A block of the call's own of n bytes, of which the first k are f's. -/
def SlabB (w : World) (g n : Nat) (f : Nat → Int) (k : Nat) : Prop :=
  ∃ cur, w.heap[g]? = some (.cells cur 5 (0, 0)) ∧ cur.size = n ∧ ∀ i, i < k → cur[i]? = some (.int .u8 (f i))
theorem SlabB.step {w : World} {g n k : Nat} {f : Nat → Int} (h : SlabB w g n f k) (hk : k < n) : SlabB (w.setCell ⟨g, k, none⟩ (.int .u8 (f k))) g n f (k + 1) := by
  obtain ⟨cur, hh, hs, hc⟩ := h
  refine ⟨_, slab_set hh _, by simpa using hs, fun i hi => ?_⟩
  by_cases e : i = k
  · subst e
    rw [Array.getElem?_setIfInBounds_self_of_lt (by omega)]
  · rw [Array.getElem?_setIfInBounds_ne (by omega)]
    exact hc i (by omega)
theorem SlabB.lt {w : World} {g n k : Nat} {f : Nat → Int} (h : SlabB w g n f k) : g < w.heap.size := by
  obtain ⟨cur, hh, _⟩ := h
  rcases Nat.lt_or_ge g w.heap.size with h | h
  · exact h
  · rw [Array.getElem?_eq_none h] at hh; cases hh
theorem SlabB.read {w : World} {g n : Nat} {f : Nat → Int} (h : SlabB w g n f n) : ReadB w (some ⟨g, 0, none⟩) n f := fun i hi => by
  have hlt := h.lt
  obtain ⟨cur, hh, hs, hc⟩ := h
  exact ⟨g, 0, rfl, hlt, by rw [rowCell hh, Nat.zero_add]; exact hc i hi⟩

set_option maxRecDepth 100000 in
set_option maxHeartbeats 2000000 in
theorem toB_any (a : Option Addr) (cap n : Nat) (f : Nat → Int) (w : World) (h : ReadB w a n f) (hn : n ≤ 1048576) :
    Calls Try.prog 39 #[.slice a n cap] w fun e w' => ∃ g, e = .returned (.slice (some ⟨g, 0, none⟩) n n) ∧ w.heap.size ≤ g ∧ SlabB w' g n f n ∧ Below w.heap.size w w' := by
  have HR : Hid (ReadB w a n f) := h
  clear h
  obtain ⟨i0, hi, hz0, hz1, hz2⟩ := info_parts info5
  go_enter Try.func39, Try.ntmps39
  go_wp2_with (at_make; refine wpList_make_full _ rfl _ _ 22 rfl w.heap.size 5 i0 _ 1 Try.underlying22 hi hz0 hz1 .i64 .i64 _ _ n rfl rfl rfl rfl ?m1 ?m2 (Nat.le_refl _) ?_)
  case m1 => rw [hz2]; omega
  case m2 => unfold maxLen; omega
  intro w1 hown hgr
  have hB1 : Below w.heap.size w w1 := (Below.refl _ _).grown hgr (Nat.le_refl _) (fun k hk => by cases hk)
  have hS : SlabB w1 w.heap.size n f 0 := by
    rcases hown.2 with ⟨h, _⟩ | ⟨g, c, cur, h, _, hh, _, _, hcs, _⟩
    · cases h
    · cases h
      exact ⟨cur, hh, by omega, fun i hi => by omega⟩
  clear hown hgr hi hz0 hz1 hz2
  go_wp2
  go_loopw [4] (fun i wr => ∃ k : Nat, k ≤ n ∧ i = .int .i64 k ∧ SlabB wr w.heap.size n f k ∧ Below w.heap.size w wr) (fun i _ => n - (intOf i).toNat)
  case atStart => exact ⟨0, by omega, rfl, hS, hB1⟩
  case round =>
    obtain ⟨k, hk, rfl, hSk, hbl⟩ := hrel
    by_cases hlt : k < n
    · obtain ⟨b, off, rfl, hlb, hc⟩ := (HR.out.below hbl) k hlt
      have hltI : (k : Int) < (n : Int) := by omega
      have hcell : ∃ v, wr.cell? ⟨w.heap.size, k, none⟩ = some v := by
        obtain ⟨cur, hh, hs, _⟩ := hSk
        exact ⟨cur[k]'(by omega), by rw [rowCell hh]; exact Array.getElem?_eq_getElem _⟩
      obtain ⟨v, hv⟩ := hcell
      have hfz : wr.frozen? ⟨w.heap.size, k, none⟩ = false := by obtain ⟨cur, hh, _⟩ := hSk; exact slab_free hh
      have HS : Hid (SlabB (wr.setCell ⟨w.heap.size, k, none⟩ (.int .u8 (f k))) w.heap.size n f (k + 1)) := hSk.step hlt
      have hB2 : Below w.heap.size w (wr.setCell ⟨w.heap.size, k, none⟩ (.int .u8 (f k))) := hbl.setCell (p := ⟨w.heap.size, k, none⟩) (Nat.le_refl _) _
      generalize hfk : f k = u at *
      clear hSk hS hfk
      go_wp2
      go_roundw
      case rel => exact ⟨k + 1, by omega, by go_num, HS.out, hB2⟩
      case measure => simp [intOf]; omega
    · obtain rfl : k = n := by omega
      have HS : Hid (SlabB wr w.heap.size k f k) := hSk
      clear hSk hS
      go_wp2
      go_ret
      exact ⟨_, rfl, Nat.le_refl _, HS.out, hbl⟩
end Go.Proofs.Ytfkenogbfbbbjaa
