/- Lists of transactions: copied, compared (stage 7). -/
import Derived.Test.YtmkagolechjjkaaVrD
namespace Go.Proofs.Ytmkagolechjjkaa
open Go.RowKit

abbrev PairX (w : World) (b1 o1 b2 o2 : Nat) (p1 p2 : Option Addr) (q1 q2 : Nat) (x : TX) (w' : World) : Prop := CellX w' b1 o1 p1 q1 x ∧ CellX w' b2 o2 p2 q2 x ∧ b1 < w'.heap.size ∧ b2 < w'.heap.size ∧ RowW w' p1 x.2.2 ∧ RowW w' p2 x.2.2 ∧ Below w.heap.size w w'
theorem PairX.keep {w : World} {b1 o1 b2 o2 : Nat} {p1 p2 : Option Addr} {q1 q2 : Nat} {x : TX} {w1 w2 : World} (h : PairX w b1 o1 b2 o2 p1 p2 q1 q2 x w1) (hb : Below w1.heap.size w1 w2) : PairX w b1 o1 b2 o2 p1 p2 q1 q2 x w2 := ⟨h.1.below h.2.2.1 hb, h.2.1.below h.2.2.2.1 hb, Nat.lt_of_lt_of_le h.2.2.1 hb.size, Nat.lt_of_lt_of_le h.2.2.2.1 hb.size, h.2.2.2.2.1.below hb, h.2.2.2.2.2.1.below hb, below_step h.2.2.2.2.2.2 (Nat.le_refl _) hb⟩
set_option maxRecDepth 100000 in
set_option maxHeartbeats 2000000 in
theorem eqX_same (a1 a2 : Option Addr) (c1 c2 : Nat) (ss : List TX) (w : World) (h1 : RowX w a1 ss) (h2 : RowX w a2 ss) (hlen : ss.length ≤ 1048576) (hz : ∀ i, i < ss.length → SmallX (nthX ss i)) :
    Calls Try.prog 28 #[.slice a1 ss.length c1, .slice a2 ss.length c2] w fun e w' => e = .returned (.bool true) ∧ Below w.heap.size w w' := by
  have H1 : Hid (RowX w a1 ss) := h1
  have H2 : Hid (RowX w a2 ss) := h2
  have HZ : Hid (∀ i, i < ss.length → SmallX (nthX ss i)) := hz
  clear h1 h2 hz
  generalize hL : ss.length = len at *
  have HL : Hid (ss.length = len) := hL
  clear hL
  go_enter Try.func28, Try.ntmps28
  go_wp2
  go_loopw [5] (fun i wr => ∃ k : Nat, k ≤ len ∧ i = .int .i64 k ∧ Below w.heap.size w wr) (fun i _ => len - (intOf i).toNat)
  case atStart => exact ⟨0, by omega, rfl, Below.refl _ _⟩
  case round =>
    obtain ⟨k, hk, rfl, hbl⟩ := hrel
    by_cases hlt : k < len
    · obtain ⟨b1, o1, p1, q1, rfl, hlb1, hc1, hr1, _⟩ := (H1.out.below hbl) k (by rw [HL.out]; exact hlt)
      obtain ⟨b2, o2, p2, q2, rfl, hlb2, hc2, hr2, _⟩ := (H2.out.below hbl) k (by rw [HL.out]; exact hlt)
      have HS : Hid ((nthX ss k).2.2.length ≤ 1048576) := (HZ.out k hlt).1
      generalize nthX ss k = x at *
      have hP : PairX w b1 (o1 + k * 3) b2 (o2 + k * 3) p1 p2 q1 q2 x wr.drew := ⟨hc1, hc2, hlb1, hlb2, hr1, hr2, hbl.drew⟩
      have hltI : (k : Int) < (len : Int) := by omega
      have HP1 : Hid (RowW wr.drew p1 x.2.2 ∧ RowW wr.drew p2 x.2.2) := ⟨hr1, hr2⟩
      clear hc1 hc2 hr1 hr2
      obtain ⟨ox, nx, ws⟩ := x
      go_wp2_with fail
      go_region_held3 (PairX w b1 (o1 + k * 3) b2 (o2 + k * 3) p1 p2 q1 q2 (ox, nx, ws)) (first | exact hP | exact PairX.keep (by assumption) hb) (first | (go_at_call 55; refine (eqX1_same ox nx p1 p2 q1 q2 ws _ HP1.out.1 HP1.out.2 HS.out).mono ?_; rintro e wA ⟨rfl, hb⟩) | fail)
      rename_i hPL
      have hB := hPL.2.2.2.2.2.2
      clear hP hPL
      go_wp2
      go_roundw
      case rel => exact ⟨k + 1, by omega, by go_num, hB⟩
      case measure => simp [intOf]; omega
    · go_wp2
      go_ret
      exact ⟨rfl, hbl⟩
end Go.Proofs.Ytmkagolechjjkaa
