/- Bytes that are marked and held, and what KeyBytes answers (stage 9). -/
import Derived.Test.YtepkdodicglilaaGreatDoorMarks
import Derived.Laws.IdiomStrings
import Derived.Laws.Concat
import Derived.Test.YtepkdodicglilaaGreatDoorL01
import Derived.Test.YtepkdodicglilaaGreatDoorKeyD
namespace Go.Proofs.YtepkdodicglilaaGreatDoor
open Go.RowKit

set_option maxRecDepth 100000 in
set_option maxHeartbeats 1000000 in
theorem heldB_any (a : Option Addr) (cap n : Nat) (k0 : Int) (w : World) (h : ReadB w a n (markB k0)) (hn : n ≤ 4194304) (h0 : 0 ≤ k0) (h1 : k0 ≤ 1000000000) :
    Calls Tryz.prog 20 #[.slice a n cap, .int .i64 k0] w fun e w' => e = .returned (.int .i64 (k0 + n)) ∧ w' = w := by
  have H1 : Hid (ReadB w a n (markB k0)) := h
  clear h
  go_enter Tryz.func20, Tryz.ntmps20
  go_wp2
  go_loop [1, 5] (fun kk i => ∃ j : Nat, j ≤ n ∧ i = .int .i64 j ∧ kk = .int .i64 (k0 + j)) (fun _ i => n - (intOf i).toNat)
  case atStart => exact ⟨0, by omega, rfl, by go_num⟩
  case round =>
    obtain ⟨j, hj, rfl, rfl⟩ := hrel
    by_cases hlt : j < n
    · obtain ⟨b, off, rfl, _, hc⟩ := H1.out j hlt
      have hltI : (j : Int) < (n : Int) := by omega
      unfold markB at hc
      go_wp2
      go_round
      case rel => exact ⟨j + 1, by omega, by go_num, by go_num⟩
      case measure => simp [intOf]; omega
    · have e : j = n := by omega
      subst e
      go_wp2
      go_ret
      exact ⟨rfl, rfl⟩

end Go.Proofs.YtepkdodicglilaaGreatDoor
namespace Go.Proofs.YtepkdodicglilaaGreatDoor
open Go.RowKit

/-- Nothing but a's own block was written. -/
def Side (a : Option Addr) (w w' : World) : Prop := w' = w ∨ ∃ g, a = some ⟨g, 0, none⟩ ∧ But g w w'
theorem ReadB.side {w0 w w' : World} {a a' : Option Addr} {n : Nat} {f f0 : Nat → Int} (h : ReadB w a' n f) (h0 : ReadB w0 a' n f0) (hs : Side a w w') (hg : ∀ g, a = some ⟨g, 0, none⟩ → w0.heap.size ≤ g) : ReadB w' a' n f := fun i hi => by
  obtain ⟨b, off, e, hlt, hc⟩ := h i hi
  obtain ⟨b', off', e', hlt', _⟩ := h0 i hi
  rw [e] at e'
  cases e'
  rcases hs with rfl | ⟨g, ha, hB⟩
  · exact ⟨b, off, e, hlt, hc⟩
  · have := hg g ha
    exact ⟨b, off, e, Nat.lt_of_lt_of_le hlt hB.size, (hB.cell (p := ⟨b, off + i, none⟩) hlt (by show b ≠ g; omega)).trans hc⟩
theorem Side.below {B : Nat} {w0 w w' : World} {a : Option Addr} (hs : Side a w w') (hb : Below B w0 w) (hB : B ≤ w.heap.size) (hg : ∀ g, a = some ⟨g, 0, none⟩ → B ≤ g) : Below B w0 w' := by
  rcases hs with rfl | ⟨g, ha, hBt⟩
  · exact hb
  · exact hBt.below hb (hg g ha) hB
theorem OwnB.but {w w' : World} {a : Option Addr} {n g : Nat} {f : Nat → Int} (h : OwnB w a n f) (hB : But g w w') (hne : ∀ g7, a = some ⟨g7, 0, none⟩ → g7 ≠ g) : OwnB w' a n f := by
  rcases h with rfl | ⟨g7, cur, lo, hi, e, hh, r⟩
  · exact .inl rfl
  · refine .inr ⟨g7, cur, lo, hi, e, ?_, r⟩
    have hlt : g7 < w.heap.size := by
      rcases Nat.lt_or_ge g7 w.heap.size with h | h
      · exact h
      · rw [Array.getElem?_eq_none h] at hh; cases hh
    exact (hB.block g7 hlt (hne g7 e)).trans hh
theorem OwnB.below {w w' : World} {a : Option Addr} {n : Nat} {f : Nat → Int} (h : OwnB w a n f) (hb : Below w.heap.size w w') : OwnB w' a n f := by
  rcases h with rfl | ⟨g7, cur, lo, hi, e, hh, r⟩
  · exact .inl rfl
  · refine .inr ⟨g7, cur, lo, hi, e, ?_, r⟩
    have hlt : g7 < w.heap.size := by
      rcases Nat.lt_or_ge g7 w.heap.size with h | h
      · exact h
      · rw [Array.getElem?_eq_none h] at hh; cases hh
    exact (hb.block g7 hlt).trans hh
theorem ReadB.but {w0 w w' : World} {a' : Option Addr} {n g : Nat} {f f0 : Nat → Int} (h : ReadB w a' n f) (h0 : ReadB w0 a' n f0) (hB : But g w w') (hg : w0.heap.size ≤ g) : ReadB w' a' n f :=
  h.side (a := some ⟨g, 0, none⟩) h0 (.inr ⟨g, rfl, hB⟩) (fun g' e => by cases e; exact hg)

theorem markB_none (a : Option Addr) (cap : Nat) (k0 : Int) (w : World) :
    Calls Tryz.prog 19 #[.slice a (0 : Nat) cap, .int .i64 k0] w fun e w' => e = .returned (.int .i64 k0) ∧ w' = w := by
  go_enter Tryz.func19, Tryz.ntmps19
  go_wp2
  refine wp_loop_rounds 1 ?_
  rw [rounds_succ]
  go_wp2
  go_ret
  exact ⟨rfl, rfl⟩

/-- A new list of bytes: none of it, or a block of its own. -/
def NewB (B : Nat) (a : Option Addr) (n : Nat) : Prop := (a = none ∧ n = 0) ∨ ∃ g, a = some ⟨g, 0, none⟩ ∧ B ≤ g
theorem NewB.at {B n : Nat} {a : Option Addr} (h : NewB B a n) : ∀ g, a = some ⟨g, 0, none⟩ → B ≤ g := fun g e => by
  rcases h with ⟨rfl, _⟩ | ⟨g', rfl, hB⟩
  · cases e
  · cases e; exact hB
theorem markB_new (B : Nat) (a : Option Addr) (cap n : Nat) (f : Nat → Int) (k0 : Int) (w : World) (hnew : NewB B a n) (h : OwnB w a n f) (hn : n ≤ 4194304) (h0 : 0 ≤ k0) (h1 : k0 ≤ 1000000000) :
    Calls Tryz.prog 19 #[.slice a n cap, .int .i64 k0] w fun e w' => e = .returned (.int .i64 (k0 + n)) ∧ ReadB w' a n (markB k0) ∧ Side a w w' := by
  rcases hnew with ⟨rfl, rfl⟩ | ⟨g, rfl, _⟩
  · refine (markB_none none cap k0 w).mono ?_
    rintro e w' ⟨rfl, rfl⟩
    exact ⟨by simp, fun i hi => by omega, .inl rfl⟩
  · refine (markB_any _ cap n f k0 w h hn h0 h1).mono ?_
    rintro e w' ⟨rfl, ho, hB, _⟩
    exact ⟨rfl, ho.read, .inr ⟨g, rfl, hB⟩⟩

theorem own_read {u : World} {B : Nat} {v : Value} {xs : List Value} (h : u.ownsRow B 5 1 v xs.length xs) (hx : ∀ x ∈ xs, ∃ c : Int, x = .int .u8 c ∧ 0 ≤ c ∧ c ≤ 255) : ∃ a c, v = .slice a xs.length c ∧ ReadB u a xs.length (byteVal xs) := by
  obtain ⟨hl, h⟩ := h
  rcases h with ⟨rfl, h0⟩ | ⟨g, cap, cur, rfl, _, hh, hn, _, hcs, htk⟩
  · exact ⟨none, 0, by rw [h0], fun i hi => by omega⟩
  · refine ⟨_, _, rfl, fun i hi => ⟨g, 0, rfl, ?_, ?_⟩⟩
    · rcases Nat.lt_or_ge g u.heap.size with h | h
      · exact h
      · rw [Array.getElem?_eq_none h] at hh; cases hh
    · have hxi : xs[i]? = cur[i]? := by rw [← htk, List.getElem?_take, if_pos (by omega), Array.getElem?_toList]
      rw [slab_cell hh, Nat.zero_add, ← hxi]
      obtain ⟨c, hc, _⟩ := hx xs[i] (List.getElem_mem hi)
      rw [List.getElem?_eq_getElem hi, hc]
      unfold byteVal
      rw [List.getElem?_eq_getElem hi, hc]

end Go.Proofs.YtepkdodicglilaaGreatDoor
namespace Go.Proofs.YtepkdodicglilaaGreatDoor
open Go.RowKit

/-- How many bytes a key has. -/
def keyN (vs : List V3) : Nat := if okRow vs then (encKey vs).length else 0
theorem keyN_le (vs : List V3) : keyN vs ≤ 4194304 := by
  unfold keyN
  split
  · rename_i h
    obtain ⟨h8, hall⟩ := okRow_all h
    have := keyFlat_len vs hall
    unfold encKey
    omega
  · omega

theorem implKeyBytes_any (a : Option Addr) (cap : Nat) (vs : List V3) (w : World) (hrow : RowV w a vs) (hlen : vs.length ≤ 1048576) :
    Calls Tryz.prog 39 #[.slice a vs.length cap] w fun e w' => ∃ a2 c, e = .returned (.tuple #[.slice a2 (keyN vs) c, .int .i64 (rowCode vs)]) ∧ NewB w.heap.size a2 (keyN vs) ∧ OwnB w' a2 (keyN vs) (byteVal (encKey vs)) ∧ Below w.heap.size w w' := by
  by_cases hok : okRow vs = true
  · have h8 := (okRow_all hok).1
    have hcode : rowCode vs = 0 := by unfold rowCode; rw [if_neg (by omega), hok]; rfl
    have hN : keyN vs = (encKey vs).length := by unfold keyN; rw [if_pos hok]
    rw [hcode, hN]
    refine (implKeyBytes_ok a cap vs w hrow hok).mono ?_
    rintro e w' ⟨g, c, rfl, hg, ho, hb⟩
    exact ⟨_, c, rfl, .inr ⟨g, rfl, hg⟩, ho, hb⟩
  · have hN : keyN vs = 0 := by unfold keyN; rw [if_neg hok]
    have hcode : rowCode vs ≠ 0 := by unfold rowCode; rw [if_neg hok]; split <;> decide
    rw [hN]
    have H1 : Hid (RowV w a vs) := hrow
    have HC : Hid (rowCode vs ≠ 0) := hcode
    clear hrow hok hN hcode
    go_enter Tryz.func39, Tryz.ntmps39
    go_wp2_with fail
    refine (rowCells_any a cap vs w H1.out hlen).mono ?_
    rintro e w1 ⟨v, rfl, _, hb1⟩
    obtain ⟨code, hcd⟩ : ∃ code, rowCode vs = code := ⟨_, rfl⟩
    have hcode : code ≠ 0 := by rw [← hcd]; exact HC.out
    have HD : Hid (rowCode vs = code) := hcd
    rw [hcd]
    clear hcd
    go_wp2
    go_ret2
    exact ⟨none, 0, by rw [HD.out]; rfl, .inl ⟨rfl, rfl⟩, .inl rfl, hb1⟩

end Go.Proofs.YtepkdodicglilaaGreatDoor
