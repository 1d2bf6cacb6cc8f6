/- slices.Backward over pending writes: what its iterator hands on. -/
import Derived.RangeFuncNested
import Derived.RangeFuncBound
import Derived.RangeFuncCalls
import Derived.RangeFuncLeaves
import Derived.Shelf.Abstract
import Derived.Shelf.RegionOpen
import Derived.WalkKit
import Derived.OwnWalkIn
import Derived.TacticsInMore
import Derived.LoopNIn
import Derived.LoopIn
import Derived.Test.YtgfgaiimigchkaaDoorSameB
namespace Go.Proofs.YtgfgaiimigchkaaDoor
open Go.RowKit Go.Shelf

attribute [local go_sem] Oper.semAt_some

/-- What has come when k rounds are over. -/
def upto {α : Type} (f : Nat → α) (k : Nat) : List α := (List.range k).map f
theorem upto_succ {α : Type} (f : Nat → α) (k : Nat) : upto f (k + 1) = upto f k ++ [f k] := by simp [upto, List.range_succ]
theorem upto_length {α : Type} (f : Nat → α) (k : Nat) : (upto f k).length = k := by simp [upto]

/-- Pending writes in blocks below n0. -/
def RowQ (n0 : Nat) (w : World) (a : Option Addr) (ps : List P2) : Prop :=
  ∀ i, i < ps.length → ∃ b off, a = some ⟨b, off, none⟩ ∧ b < n0 ∧ CellP w b (off + i * 2) (nthP ps i)
theorem RowQ.below {n0 : Nat} {A B : World} {a : Option Addr} {ps : List P2} (h : Below n0 A B) (hr : RowQ n0 A a ps) : RowQ n0 B a ps := fun i hi => by
  obtain ⟨b, off, e, hb, hc⟩ := hr i hi
  exact ⟨b, off, e, hb, (h.cell (p := ⟨b, off + i * 2, none⟩) hb).trans hc.1, (h.cell (p := ⟨b, off + i * 2 + 1, none⟩) hb).trans hc.2⟩

abbrev encB (x : Nat × P2) : Array Value := #[.int .i64 (x.1 : Int), .agg #[.int .i64 x.2.1, .string x.2.2]]
abbrev fromEnd (ps : List P2) (j : Nat) : Nat × P2 := (ps.length - 1 - j, nthP ps (ps.length - 1 - j))

set_option maxRecDepth 100000 in
set_option maxHeartbeats 2000000 in
theorem back1_in (F : Fence) (n : Nat) (h98 : F.fn 98) (hro : F.round = none) (hn : 1 ≤ n) (l Bs n0 cap : Nat) (a : Option Addr) (ps : List P2) (hlen : ps.length ≤ 1048576) (J Jx : List (Nat × P2) → World → Prop)
    (hY : ∀ pre x W, J pre W → pre.length < ps.length → YieldAt F (n - 1) Tryd.prog l (encB x) W fun e W' =>
      (e = .returned (.bool true) ∧ J (pre ++ [x]) W' ∧ Below n0 W W') ∨ (e = .returned (.bool false) ∧ Jx (pre ++ [x]) W'))
    (W : World) (hBs : W.cell? ⟨Bs, 0, none⟩ = some (.slice a ps.length cap)) (hBn : Bs < n0) (hrow : RowQ n0 W a ps) (h0 : J [] W) :
    CallsIn F n Tryd.prog 98 #[.func (.yield l) #[] #[], .pointer (some ⟨Bs, 0, none⟩)] W fun e W' => (∃ v, e = .returned v) ∧
      ((∃ ys, ys = upto (fromEnd ps) ps.length ∧ J ys W') ∨ (∃ pre, (∃ k, k ≤ ps.length ∧ pre = upto (fromEnd ps) k) ∧ Jx pre W')) := by
  have HR : Hid (RowQ n0 W a ps) := hrow
  clear hrow
  obtain ⟨f, hf⟩ : ∃ f, fromEnd ps = f := ⟨_, rfl⟩
  have HF : Hid (∀ j, f j = (ps.length - 1 - j, nthP ps (ps.length - 1 - j))) := fun j => by rw [← hf]
  rw [hf]
  clear hf
  generalize hL : ps.length = len at *
  have HL : Hid (ps.length = len) := hL
  clear hL
  refine callsIn_of_wp Tryd.func98 rfl h98 ?_ hro
  simp only [Tryd.ntmps98, List.size_toArray, List.length_cons, List.length_nil, Nat.reduceAdd, Nat.reduceSub, Array.replicate_succ, Array.replicate_zero, List.push_toArray, List.append_toArray, List.nil_append, List.cons_append]
  gi_wp2
  gi_loopw [3] (fun i wr => ∃ k : Nat, k ≤ len ∧ i = .int .i64 ((len : Int) - 1 - k) ∧ J (upto f k) wr ∧ Below n0 W wr)
    (fun i _ => (intOf i + 1).toNat)
  case atStart => exact ⟨0, Nat.zero_le _, by simp, h0, Below.refl _ _⟩
  case round =>
    obtain ⟨k, hk, rfl, hJs, hnx⟩ := hrel
    have hBs' := (hnx.cell (p := ⟨Bs, 0, none⟩) hBn).trans hBs
    by_cases hlt : k < len
    · obtain ⟨m, hm⟩ : ∃ m : Nat, m = len - 1 - k := ⟨_, rfl⟩
      have hmI : (len : Int) - 1 - k = (m : Int) := by omega
      have hml : m < len := by omega
      have hfk : f k = (m, nthP ps m) := by rw [HF.out, hm]
      have HM : Hid (m = len - 1 - k) := hm
      rw [hmI]
      obtain ⟨b, off, rfl, hb, hc0, hc1⟩ := (RowQ.below hnx HR.out) m (by rw [HL.out]; exact hml)
      obtain ⟨v, hv⟩ : ∃ v, nthP ps m = v := ⟨_, rfl⟩
      rw [hv] at hc0 hc1 hfk
      obtain ⟨x, t⟩ := v
      have hc0' : wr.cell? ⟨b, off + m * 2, none⟩ = some (.int .i64 x) := hc0
      have hc1' : wr.cell? ⟨b, off + m * 2 + 1, none⟩ = some (.string t) := hc1
      obtain ⟨fn, tmps, assign, body, hy, hR⟩ := hY _ (m, (x, t)) wr hJs (by rw [upto_length]; exact hlt)
      dsimp only [encB] at hy
      have hmlI : (m : Int) < (len : Int) := by omega
      have HK : Hid (f k = (m, (x, t))) := hfk
      clear hc0 hc1 hv hm hmI hBs hfk
      gi_wp2
      refine hR.mono ?_
      rintro e W3 (⟨rfl, hJ3, hk3⟩ | ⟨rfl, hJx3⟩)
      · gi_wp2
        go_roundw
        case rel => exact ⟨k + 1, by omega, by have := HM.out; congr 1; omega, by rw [upto_succ, HK.out]; exact hJ3, hnx.trans hk3⟩
        case measure => simp [intOf]
      · gi_wp2
        refine bodyPost_ret (results_none rfl _ _ _) rfl ?_
        exact ⟨⟨_, rfl⟩, .inr ⟨_, ⟨k + 1, by omega, by rw [upto_succ, HK.out]⟩, hJx3⟩⟩
    · obtain rfl : k = len := by omega
      have hneg : (k : Int) - 1 - k < 0 := by omega
      generalize (k : Int) - 1 - k = i at *
      gi_wp2
      go_end0
      exact ⟨⟨_, rfl⟩, .inl ⟨_, rfl, hJs⟩⟩

set_option maxHeartbeats 1000000 in
theorem backward_in (F : Fence) (n : Nat) (h87 : F.fn 87) (hro : F.round = none) (a : Option Addr) (len cap : Nat) (w : World) :
    CallsIn F n Tryd.prog 87 #[.slice a len cap] w fun e w' => e = .returned (.func (.func 98) #[] #[.pointer (some ⟨w.heap.size, 0, none⟩)]) ∧ w' = w.alloc (.cells #[.slice a len cap] 26) := by
  refine callsIn_of_wp Tryd.func87 rfl h87 ?_ hro
  simp only [Tryd.ntmps87, List.size_toArray, List.length_cons, List.length_nil, Nat.reduceAdd, Nat.reduceSub, Array.replicate_succ, Array.replicate_zero, List.push_toArray, List.append_toArray, List.nil_append, List.cons_append]
  gi_wp2
  go_ret
  exact ⟨rfl, rfl⟩

theorem back_stops (F : Fence) (n : Nat) (h98 : F.fn 98) (hro : F.round = none) (hn : 1 ≤ n) (Bs n0 cap : Nat) (a : Option Addr) (ps : List P2) (hlen : ps.length ≤ 1048576) (w : World) (hBs : Bs < n0) (hn0 : n0 ≤ w.heap.size)
    (hc : w.cell? ⟨Bs, 0, none⟩ = some (.slice a ps.length cap)) (hI : RowQ n0 w a ps) :
    SeqStopsK F n Tryd.prog 98 #[.pointer (some ⟨Bs, 0, none⟩)] encB (Below n0) (fun ys => ys = upto (fromEnd ps) ps.length)
      (fun pre => ∃ k, k ≤ ps.length ∧ pre = upto (fromEnd ps) k) ps.length w := fun l J Jx W hW _ _ hY h0 => by
  have hc' := (hW.cell (p := ⟨Bs, 0, none⟩) (by show Bs < w.heap.size; omega)).trans hc
  exact back1_in F n h98 hro hn l Bs n0 cap a ps hlen J Jx hY W hc' hBs (RowQ.below (hW.mono hn0) hI) h0
end Go.Proofs.YtgfgaiimigchkaaDoor
