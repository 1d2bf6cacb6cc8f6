/- Lists of numbers and of held pages: when two are the same (stage 4). -/
import Derived.Test.YtaklphoplfofbaaListA
import Derived.Deep.RegionHeld3
namespace Go.Proofs.Ytaklphoplfofbaa
open Go.RowKit

set_option maxHeartbeats 1000000 in
theorem eqI_same (a1 a2 : Option Addr) (c1 c2 : Nat) (ss : List Int) (w : World) (h1 : RowI w a1 ss) (h2 : RowI w a2 ss) (hlen : ss.length ≤ 1048576) :
    Calls Try.prog 26 #[.slice a1 ss.length c1, .slice a2 ss.length c2] w fun e w' => e = .returned (.bool true) ∧ Below w.heap.size w w' := by
  have H1 : Hid (RowI w a1 ss) := h1
  have H2 : Hid (RowI w a2 ss) := h2
  clear h1 h2
  generalize hL : ss.length = len at *
  have HL : Hid (ss.length = len) := hL
  clear hL
  go_enter Try.func26, Try.ntmps26
  go_wp2
  go_loopw [5] (fun i wr => ∃ k : Nat, k ≤ len ∧ i = .int .i64 k ∧ Below w.heap.size w wr) (fun i _ => len - (intOf i).toNat)
  case atStart => exact ⟨0, by omega, rfl, Below.refl _ _⟩
  case round =>
    obtain ⟨k, hk, rfl, hbl⟩ := hrel
    by_cases hlt : k < len
    · obtain ⟨b1, o1, rfl, hlb1, hc1⟩ := (H1.out.below hbl) k (by rw [HL.out]; exact hlt)
      obtain ⟨b2, o2, rfl, hlb2, hc2⟩ := (H2.out.below hbl) k (by rw [HL.out]; exact hlt)
      go_wp2_with fail
      go_quiet (fail)
      go_wp2
      go_roundw
      case rel => exact ⟨k + 1, by omega, by go_num, below_drewN hbl _⟩
      case measure => simp [intOf]; omega
    · go_wp2
      go_ret
      exact ⟨rfl, hbl⟩

theorem eqHeld_same (p : P2) (w : World) :
    Calls Try.prog 69 #[PV p, PV p] w fun e w' => e = .returned (.bool true) ∧ Below w.heap.size w w' := by
  obtain ⟨n, t⟩ := p
  go_enter Try.func69, Try.ntmps69
  go_wp2
  go_ret
  exact ⟨rfl, ((Below.refl _ _).alloc (Nat.le_refl _) _).alloc (by simp) _⟩

/-- Two held pages in two rows; what lay in w lies there still. -/
abbrev Pair (w : World) (b1 o1 : Nat) (p1 : P2) (b2 o2 : Nat) (p2 : P2) (w' : World) : Prop :=
  CellP w' b1 o1 p1 ∧ CellP w' b2 o2 p2 ∧ b1 < w'.heap.size ∧ b2 < w'.heap.size ∧ Below w.heap.size w w'
theorem CellP.below {w w' : World} {b o : Nat} {p : P2} (h : CellP w b o p) (hlt : b < w.heap.size) (hb : Below w.heap.size w w') : CellP w' b o p :=
  ⟨(hb.cell (p := ⟨b, o, none⟩) hlt).trans h.1, (hb.cell (p := ⟨b, o + 1, none⟩) hlt).trans h.2⟩
theorem Pair.keep {w : World} {b1 o1 : Nat} {p1 : P2} {b2 o2 : Nat} {p2 : P2} {w1 w2 : World} (h : Pair w b1 o1 p1 b2 o2 p2 w1) (hb : Below w1.heap.size w1 w2) : Pair w b1 o1 p1 b2 o2 p2 w2 :=
  ⟨h.1.below h.2.2.1 hb, h.2.1.below h.2.2.2.1 hb, Nat.lt_of_lt_of_le h.2.2.1 hb.size, Nat.lt_of_lt_of_le h.2.2.2.1 hb.size, below_step h.2.2.2.2 (Nat.le_refl _) hb⟩

set_option maxRecDepth 100000 in
set_option maxHeartbeats 1000000 in
theorem eqP_same (a1 a2 : Option Addr) (c1 c2 : Nat) (ps : List P2) (w : World) (h1 : RowP w a1 ps) (h2 : RowP w a2 ps) (hlen : ps.length ≤ 1048576) :
    Calls Try.prog 52 #[.slice a1 ps.length c1, .slice a2 ps.length c2] w fun e w' => e = .returned (.bool true) ∧ Below w.heap.size w w' := by
  have H1 : Hid (RowP w a1 ps) := h1
  have H2 : Hid (RowP w a2 ps) := h2
  clear h1 h2
  generalize hL : ps.length = len at *
  have HL : Hid (ps.length = len) := hL
  clear hL
  go_enter Try.func52, Try.ntmps52
  go_wp2
  go_loopw [5] (fun i wr => ∃ k : Nat, k ≤ len ∧ i = .int .i64 k ∧ Below w.heap.size w wr) (fun i _ => len - (intOf i).toNat)
  case atStart => exact ⟨0, by omega, rfl, Below.refl _ _⟩
  case round =>
    obtain ⟨k, hk, rfl, hbl⟩ := hrel
    by_cases hlt : k < len
    · obtain ⟨b1, o1, rfl, hlb1, hc1⟩ := (H1.out.below hbl) k (by rw [HL.out]; exact hlt)
      obtain ⟨b2, o2, rfl, hlb2, hc2⟩ := (H2.out.below hbl) k (by rw [HL.out]; exact hlt)
      generalize nthP ps k = v at *
      obtain ⟨x, t⟩ := v
      have hP : Pair w b1 (o1 + k * 2) (x, t) b2 (o2 + k * 2) (x, t) wr.drew := ⟨hc1, hc2, hlb1, hlb2, hbl.drew⟩
      have hltI : (k : Int) < (len : Int) := by omega
      clear hc1 hc2
      go_wp2_with fail
      go_region_held3 (Pair w b1 (o1 + k * 2) (x, t) b2 (o2 + k * 2) (x, t)) (first | exact hP | exact Pair.keep (by assumption) hb) (first | (go_at_call 69; refine (eqHeld_same (x, t) _).mono ?_; rintro e wA ⟨rfl, hb⟩))
      rename_i hPL
      have hB := hPL.2.2.2.2
      clear hP hPL
      go_wp2
      go_roundw
      case rel => exact ⟨k + 1, by omega, by go_num, hB⟩
      case measure => simp [intOf]; omega
    · go_wp2
      go_ret
      exact ⟨rfl, hbl⟩

end Go.Proofs.Ytaklphoplfofbaa
