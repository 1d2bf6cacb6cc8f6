/- The laws' helpers on lists of bytes: eqByteS, markByteS, heldByteS. -/
import Derived.Test.YtfkenogbfbbbjaaRowsF
namespace Go.Proofs.Ytfkenogbfbbbjaa
open Go.RowKit

/-- The first n bytes of a slice can be read: they are f 0, f 1, .. -/
def ReadB (w : World) (a : Option Addr) (n : Nat) (f : Nat → Int) : Prop :=
  ∀ i, i < n → ∃ b off, a = some ⟨b, off, none⟩ ∧ b < w.heap.size ∧ w.cell? ⟨b, off + i, none⟩ = some (.int .u8 (f i))
theorem ReadB.below {w w' : World} {a : Option Addr} {n : Nat} {f : Nat → Int} (h : ReadB w a n f) (hb : Below w.heap.size w w') : ReadB w' a n f := fun i hi => by
  obtain ⟨b, off, e, hlt, hc⟩ := h i hi
  exact ⟨b, off, e, Nat.lt_of_lt_of_le hlt hb.size, (hb.cell (p := ⟨b, off + i, none⟩) hlt).trans hc⟩

theorem below_drewN {B : Nat} {a w : World} (h : Below B a w) (n : Nat) : Below B a (w.drewN n) := ⟨h.os, h.tape, h.output, h.size, h.block⟩

set_option maxHeartbeats 1000000 in
theorem eqB_same (a1 a2 : Option Addr) (c1 c2 n : Nat) (f : Nat → Int) (w : World) (h1 : ReadB w a1 n f) (h2 : ReadB w a2 n f) (hn : n ≤ 4194304) :
    Calls Try.prog 34 #[.slice a1 n c1, .slice a2 n c2] w fun e w' => e = .returned (.bool true) ∧ Below w.heap.size w w' := by
  have H1 : Hid (ReadB w a1 n f) := h1
  have H2 : Hid (ReadB w a2 n f) := h2
  clear h1 h2
  go_enter Try.func34, Try.ntmps34
  go_wp2
  go_loopw [5] (fun i wr => ∃ k : Nat, k ≤ n ∧ i = .int .i64 k ∧ Below w.heap.size w wr) (fun i _ => n - (intOf i).toNat)
  case atStart => exact ⟨0, by omega, rfl, Below.refl _ _⟩
  case round =>
    obtain ⟨k, hk, rfl, hbl⟩ := hrel
    by_cases hlt : k < n
    · obtain ⟨b1, o1, rfl, hlb1, hc1⟩ := (H1.out.below hbl) k hlt
      obtain ⟨b2, o2, rfl, hlb2, hc2⟩ := (H2.out.below hbl) k hlt
      have hltI : (k : Int) < (n : Int) := by omega
      generalize f k = v at *
      go_wp2_with fail
      go_quiet (fail)
      go_wp2
      go_roundw
      case rel => exact ⟨k + 1, by omega, by go_num, below_drewN hbl _⟩
      case measure => simp [intOf]; omega
    · go_wp2
      go_ret
      exact ⟨rfl, hbl⟩

theorem rowCell {w : World} {g o lo hi : Nat} {cur : Array Value} {e : TypeId} (h : w.heap[g]? = some (.cells cur e (lo, hi))) : w.cell? ⟨g, o, none⟩ = cur[o]? := by
  simp [World.cell?, h]
theorem rowSet {w : World} {g o lo hi : Nat} {cur : Array Value} {e : TypeId} (h : w.heap[g]? = some (.cells cur e (lo, hi))) (v : Value) : (w.setCell ⟨g, o, none⟩ v).heap[g]? = some (.cells (cur.setIfInBounds o v) e (lo, hi)) := by
  simp [World.setCell, Array.getElem?_modify, h]
theorem rowFree {w : World} {g o lo hi : Nat} {cur : Array Value} {e : TypeId} (h : w.heap[g]? = some (.cells cur e (lo, hi))) (hf : hi = 0 ∨ o < lo) : w.frozen? ⟨g, o, none⟩ = false := by
  simp [World.frozen?, h]; omega
/-- The first n bytes of a slice lie in a block of the call's own, from its head on; the frozen range, if there is one, lies behind them. -/
def OwnB (w : World) (a : Option Addr) (n : Nat) (f : Nat → Int) : Prop :=
  n = 0 ∨ ∃ g cur lo hi, a = some ⟨g, 0, none⟩ ∧ w.heap[g]? = some (.cells cur 5 (lo, hi)) ∧ n ≤ cur.size ∧ (hi = 0 ∨ n ≤ lo) ∧ ∀ i, i < n → cur[i]? = some (.int .u8 (f i))
theorem OwnB.read {w : World} {a : Option Addr} {n : Nat} {f : Nat → Int} (h : OwnB w a n f) : ReadB w a n f := fun i hi => by
  rcases h with rfl | ⟨g, cur, lo, hi, e, hh, hs, _, hc⟩
  · omega
  · refine ⟨g, 0, e, ?_, ?_⟩
    · rcases Nat.lt_or_ge g w.heap.size with h | h
      · exact h
      · rw [Array.getElem?_eq_none h] at hh; cases hh
    · rw [rowCell hh, Nat.zero_add]; exact hc i ‹_›

/-- The marks that markByteS lays. -/
def markB (k : Int) (i : Nat) : Int := (k + i) % 256
/-- The block of a slice, if it has one. -/
def blockOf (a : Option Addr) : Nat := (a.map (·.block)).getD 0

def MarkK (w : World) (g n size lo hi : Nat) (k0 : Int) (j : Nat) : Prop :=
  ∃ cur, w.heap[g]? = some (.cells cur 5 (lo, hi)) ∧ cur.size = size ∧ n ≤ size ∧ ∀ i, i < j → cur[i]? = some (.int .u8 (markB k0 i))
theorem MarkK.step {w : World} {g n size lo hi j : Nat} {k0 : Int} (h : MarkK w g n size lo hi k0 j) (hj : j < n) (v : Int) (hv : v = markB k0 j) : MarkK (w.setCell ⟨g, j, none⟩ (.int .u8 v)) g n size lo hi k0 (j + 1) := by
  subst hv
  obtain ⟨cur, hh, hs, hn, hc⟩ := h
  refine ⟨_, rowSet hh _, by simpa using hs, hn, fun i hi' => ?_⟩
  by_cases e : i = j
  · subst e
    rw [Array.getElem?_setIfInBounds_self_of_lt (by omega)]
  · rw [Array.getElem?_setIfInBounds_ne (by omega)]; exact hc i (by omega)

set_option maxHeartbeats 1000000 in
theorem markB_any (a : Option Addr) (cap n : Nat) (f : Nat → Int) (k0 : Int) (w : World) (h : OwnB w a n f) (hn : n ≤ 4194304) (h0 : 0 ≤ k0) (h1 : k0 ≤ 1000000000) :
    Calls Try.prog 36 #[.slice a n cap, .int .i64 k0] w fun e w' => e = .returned (.int .i64 (k0 + n)) ∧ OwnB w' a n (markB k0) ∧ But (blockOf a) w w' ∧ w'.heap.size = w.heap.size := by
  rcases h with rfl | ⟨g, cur, lo, hi, rfl, hh, hs, hfr, hc⟩
  · go_enter Try.func36, Try.ntmps36
    go_wp2
    refine wp_loop_rounds 1 ?_
    rw [rounds_succ]
    go_wp2
    go_ret
    exact ⟨ret_int' (by omega), .inl rfl, But.refl _ _, rfl⟩
  · have hM : MarkK w g n cur.size lo hi k0 0 := ⟨cur, hh, rfl, hs, fun i hi => by omega⟩
    generalize cur.size = size at *
    clear hh hc
    go_enter Try.func36, Try.ntmps36
    go_wp2
    go_loopw [1, 5] (fun kk i wr => ∃ j : Nat, j ≤ n ∧ i = .int .i64 j ∧ kk = .int .i64 (k0 + j) ∧ MarkK wr g n size lo hi k0 j ∧ But g w wr ∧ wr.heap.size = w.heap.size) (fun _ i _ => n - (intOf i).toNat)
    case atStart => exact ⟨0, by omega, rfl, by go_num, hM, But.refl _ _, rfl⟩
    case round =>
      obtain ⟨j, hj, rfl, rfl, hMj, hB, hz⟩ := hrel
      by_cases hlt : j < n
      · have hltI : (j : Int) < (n : Int) := by omega
        have hcell : ∃ v, wr.cell? ⟨g, j, none⟩ = some v := by
          obtain ⟨cur, hh, hs', hn', _⟩ := hMj
          exact ⟨cur[j]'(by omega), by rw [rowCell hh]; exact Array.getElem?_eq_getElem _⟩
        obtain ⟨v, hv⟩ := hcell
        have hf : wr.frozen? ⟨g, j, none⟩ = false := by obtain ⟨cur, hh, _⟩ := hMj; exact rowFree hh (by omega)
        have HM : Hid (MarkK wr g n size lo hi k0 j) := hMj
        have HZ : Hid (wr.heap.size = w.heap.size) := hz
        clear hMj hz hM
        go_wp2
        go_roundw
        case rel => exact ⟨j + 1, by omega, by go_num, by go_num, HM.out.step hlt _ (by unfold markB; rfl), hB.setCell j _, by simpa [World.setCell] using HZ.out⟩
        case measure => simp [intOf]; omega
      · have e : j = n := by omega
        subst e
        go_wp2
        go_ret
        obtain ⟨cur, hh, hs', hn', hc'⟩ := hMj
        exact ⟨rfl, .inr ⟨g, cur, lo, hi, rfl, hh, by omega, hfr, hc'⟩, hB, hz⟩
end Go.Proofs.Ytfkenogbfbbbjaa
