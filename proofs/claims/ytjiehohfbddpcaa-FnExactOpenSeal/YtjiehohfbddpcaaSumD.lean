/- The law PageSum, walked; the laws' copies and comparisons of bytes. -/
import Derived.Test.YtjiehohfbddpcaaSumC
namespace Go.Proofs.Ytjiehohfbddpcaa
open Go.RowKit

/-- A block of the call's own of the bytes l, of which the first k are laid. -/
def SlabL (w : World) (g : Nat) (l : List UInt8) (k : Nat) : Prop :=
  ∃ cur, w.heap[g]? = some (.cells cur 5 (0, 0)) ∧ cur.size = l.length ∧ ∀ i, i < k → cur[i]? = some (.int .u8 (byU l i))
theorem SlabL.step {w : World} {g k : Nat} {l : List UInt8} (h : SlabL w g l k) (hk : k < l.length) : SlabL (w.setCell ⟨g, k, none⟩ (.int .u8 (byU l k))) g l (k + 1) := by
  obtain ⟨cur, hh, hs, hc⟩ := h
  refine ⟨_, slab_set hh _, by simpa using hs, fun i hi => ?_⟩
  by_cases e : i = k
  · subst e
    rw [Array.getElem?_setIfInBounds_self_of_lt (by omega)]
  · rw [Array.getElem?_setIfInBounds_ne (by omega)]
    exact hc i (by omega)
theorem SlabL.read {w : World} {g : Nat} {l : List UInt8} (h : SlabL w g l l.length) : ReadL w (some ⟨g, 0, none⟩) l := fun i hi => by
  obtain ⟨cur, hh, hs, hc⟩ := h
  exact ⟨g, 0, rfl, slab_lt hh, by rw [slab_cell hh, Nat.zero_add]; exact hc i hi⟩

set_option maxRecDepth 100000 in
set_option maxHeartbeats 2000000 in
theorem toB_any (a : Option Addr) (cap : Nat) (l : List UInt8) (w : World) (h : ReadL w a l) (hn : l.length ≤ 1048576) :
    Calls Try.prog 6 #[.slice a l.length cap] w fun e w' => ∃ g, e = .returned (.slice (some ⟨g, 0, none⟩) l.length l.length) ∧ w.heap.size ≤ g ∧ ReadL w' (some ⟨g, 0, none⟩) l ∧ Below w.heap.size w w' := by
  have HR : Hid (ReadL w a l) := h
  clear h
  obtain ⟨n, hl⟩ : ∃ n, l.length = n := ⟨_, rfl⟩
  have HL : Hid (l.length = n) := hl
  rw [hl] at hn ⊢
  clear hl
  obtain ⟨i0, hi, hz0, hz1, hz2⟩ := info_parts info5
  go_enter Try.func6, Try.ntmps6
  go_wp2_with (at_make; refine wpList_make_full _ rfl _ _ 22 rfl w.heap.size 5 i0 _ 1 Try.underlying22 hi hz0 hz1 .i64 .i64 _ _ n rfl rfl rfl rfl ?m1 ?m2 (Nat.le_refl _) ?_)
  case m1 => rw [hz2]; omega
  case m2 => unfold maxLen; omega
  intro w1 hown hgr
  have hB1 : Below w.heap.size w w1 := (Below.refl _ _).grown hgr (Nat.le_refl _) (fun k hk => by cases hk)
  have hS : SlabL w1 w.heap.size l 0 := by
    rcases hown.2 with ⟨h, _⟩ | ⟨g, c, cur, h, _, hh, _, _, hcs, _⟩
    · cases h
    · cases h
      exact ⟨cur, hh, by rw [HL.out]; omega, fun i hi => by omega⟩
  clear hown hgr hi hz0 hz1 hz2
  go_wp2
  go_loopw [4] (fun i wr => ∃ k : Nat, k ≤ n ∧ i = .int .i64 k ∧ SlabL wr w.heap.size l k ∧ Below w.heap.size w wr) (fun i _ => n - (intOf i).toNat)
  case atStart => exact ⟨0, by omega, rfl, hS, hB1⟩
  case round =>
    obtain ⟨k, hk, rfl, hSk, hbl⟩ := hrel
    by_cases hlt : k < n
    · obtain ⟨b, off, rfl, hlb, hc⟩ := (HR.out.below hbl) k (by rw [HL.out]; exact hlt)
      have hltI : (k : Int) < (n : Int) := by omega
      have hcell : ∃ v, wr.cell? ⟨w.heap.size, k, none⟩ = some v := by
        obtain ⟨cur, hh, hs, _⟩ := hSk
        have := HL.out
        exact ⟨cur[k]'(by omega), by rw [slab_cell hh]; exact Array.getElem?_eq_getElem _⟩
      obtain ⟨v, hv⟩ := hcell
      have hfz : wr.frozen? ⟨w.heap.size, k, none⟩ = false := by obtain ⟨cur, hh, _⟩ := hSk; exact slab_free hh
      have HS : Hid (SlabL (wr.setCell ⟨w.heap.size, k, none⟩ (.int .u8 (byU l k))) w.heap.size l (k + 1)) := hSk.step (by rw [HL.out]; exact hlt)
      have hB2 : Below w.heap.size w (wr.setCell ⟨w.heap.size, k, none⟩ (.int .u8 (byU l k))) := hbl.setCell (p := ⟨w.heap.size, k, none⟩) (Nat.le_refl _) _
      generalize hfk : byU l k = u at *
      clear hSk hS hfk
      go_wp2
      go_roundw
      case rel => exact ⟨k + 1, by omega, by go_num, HS.out, hB2⟩
      case measure => simp [intOf]; omega
    · obtain rfl : k = n := by omega
      have HS : Hid (SlabL wr w.heap.size l l.length) := by rw [HL.out]; exact hSk
      clear hSk hS
      go_wp2
      go_ret
      exact ⟨_, rfl, Nat.le_refl _, HS.out.read, hbl⟩

set_option maxHeartbeats 1000000 in
theorem eqB_same (a1 a2 : Option Addr) (c1 c2 : Nat) (l : List UInt8) (w : World) (h1 : ReadL w a1 l) (h2 : ReadL w a2 l) (hn : l.length ≤ 4194304) :
    Calls Try.prog 8 #[.slice a1 l.length c1, .slice a2 l.length c2] w fun e w' => e = .returned (.bool true) ∧ Below w.heap.size w w' := by
  have H1 : Hid (ReadL w a1 l) := h1
  have H2 : Hid (ReadL w a2 l) := h2
  clear h1 h2
  obtain ⟨n, hl⟩ : ∃ n, l.length = n := ⟨_, rfl⟩
  have HL : Hid (l.length = n) := hl
  rw [hl] at hn ⊢
  clear hl
  go_enter Try.func8, Try.ntmps8
  go_wp2
  go_loopw [5] (fun i wr => ∃ k : Nat, k ≤ n ∧ i = .int .i64 k ∧ Below w.heap.size w wr) (fun i _ => n - (intOf i).toNat)
  case atStart => exact ⟨0, by omega, rfl, Below.refl _ _⟩
  case round =>
    obtain ⟨k, hk, rfl, hbl⟩ := hrel
    by_cases hlt : k < n
    · obtain ⟨b1, o1, rfl, hlb1, hc1⟩ := (H1.out.below hbl) k (by rw [HL.out]; exact hlt)
      obtain ⟨b2, o2, rfl, hlb2, hc2⟩ := (H2.out.below hbl) k (by rw [HL.out]; exact hlt)
      have hltI : (k : Int) < (n : Int) := by omega
      generalize byU l k = v at *
      go_wp2_with fail
      go_quiet (fail)
      go_wp2
      go_roundw
      case rel => exact ⟨k + 1, by omega, by go_num, below_drewN hbl _⟩
      case measure => simp [intOf]; omega
    · go_wp2
      go_ret
      exact ⟨rfl, hbl⟩

end Go.Proofs.Ytjiehohfbddpcaa
