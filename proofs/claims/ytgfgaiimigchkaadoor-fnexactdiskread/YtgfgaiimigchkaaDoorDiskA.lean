/- Disks: slices of texts and of pending writes; how they are measured. -/
import Derived.Test.YtgfgaiimigchkaaDoorRows
import Derived.WalkKit
import Derived.WalkSpells
import Derived.WalkLawsBesides
import Derived.ProofKit
import Derived.OpenShut
import Derived.Outline
import Derived.Below
import Derived.OwnWalk
import Derived.Deep.RegionHeld3
namespace Go.Proofs.YtgfgaiimigchkaaDoor
open Go.RowKit

theorem ret_bool' {a b : Bool} (h : a = b) : Ending.returned (.bool a) = .returned (.bool b) := by rw [h]
theorem ret_int' {k : IntKind} {a b : Int} (h : a = b) : Ending.returned (.int k a) = .returned (.int k b) := by rw [h]
theorem ret_val {a b : Value} (h : a = b) : Ending.returned a = .returned b := by rw [h]
theorem below_step {B : Nat} {W w1 w2 : World} (h : Below B W w1) (hB : B ≤ W.heap.size) (h2 : Below w1.heap.size w1 w2) : Below B W w2 :=
  h.trans (h2.mono (Nat.le_trans hB h.size))

/-- A pending write: a sector's number and its data. -/
abbrev P2 : Type := Int × ByteArray
def nthS (ss : List ByteArray) (i : Nat) : ByteArray := ss.getD i ⟨#[]⟩
def nthP (ps : List P2) (i : Nat) : P2 := ps.getD i (0, ⟨#[]⟩)
abbrev CellP (w : World) (b o : Nat) (p : P2) : Prop := w.cell? ⟨b, o, none⟩ = some (.int .i64 p.1) ∧ w.cell? ⟨b, o + 1, none⟩ = some (.string p.2)

/-- A slice of texts can be read. -/
def RowS (w : World) (a : Option Addr) (ss : List ByteArray) : Prop :=
  ∀ i, i < ss.length → ∃ b off, a = some ⟨b, off, none⟩ ∧ b < w.heap.size ∧ w.cell? ⟨b, off + i, none⟩ = some (.string (nthS ss i)) ∧ (nthS ss i).size ≤ maxLen
/-- A slice of pending writes can be read. -/
def RowP (w : World) (a : Option Addr) (ps : List P2) : Prop :=
  ∀ i, i < ps.length → ∃ b off, a = some ⟨b, off, none⟩ ∧ b < w.heap.size ∧ CellP w b (off + i * 2) (nthP ps i) ∧ (nthP ps i).2.size ≤ maxLen

theorem RowS.below {w w' : World} {a : Option Addr} {ss : List ByteArray} (h : RowS w a ss) (hb : Below w.heap.size w w') : RowS w' a ss := fun i hi => by
  obtain ⟨b, off, e, hlt, hc, hs⟩ := h i hi
  exact ⟨b, off, e, Nat.lt_of_lt_of_le hlt hb.size, (hb.cell (p := ⟨b, off + i, none⟩) hlt).trans hc, hs⟩
theorem RowP.below {w w' : World} {a : Option Addr} {ps : List P2} (h : RowP w a ps) (hb : Below w.heap.size w w') : RowP w' a ps := fun i hi => by
  obtain ⟨b, off, e, hlt, hc, hs⟩ := h i hi
  exact ⟨b, off, e, Nat.lt_of_lt_of_le hlt hb.size, ⟨(hb.cell (p := ⟨b, off + i * 2, none⟩) hlt).trans hc.1, (hb.cell (p := ⟨b, off + i * 2 + 1, none⟩) hlt).trans hc.2⟩, hs⟩

/-- A disk as both sides' structs hold it. -/
abbrev DV (a : Option Addr) (n c : Nat) (a' : Option Addr) (n' c' : Nat) : Value := .agg #[.slice a n c, .slice a' n' c']
abbrev PV (p : P2) : Value := .agg #[.int .i64 p.1, .string p.2]

def leftOf (left : Int) (t : ByteArray) : Int := if left - t.size < 0 then -1 else left - t.size

theorem szPending_any (p : P2) (left : Int) (w : World) (h0 : 0 ≤ left) (h1 : left ≤ 1048576) (ht : p.2.size ≤ maxLen) :
    Calls Tryd.prog 84 #[PV p, .int .i64 left] w fun e w' => e = .returned (.int .i64 (leftOf left p.2)) ∧ Below w.heap.size w w' := by
  obtain ⟨n, t⟩ := p
  have ht' : t.size ≤ 2 ^ 63 - 1 := ht
  show Calls Tryd.prog 84 #[.agg #[.int .i64 n, .string t], .int .i64 left] w fun e w' => e = .returned (.int .i64 (leftOf left t)) ∧ Below w.heap.size w w'
  clear ht
  by_cases hlt : left - t.size < 0
  · have H : Hid (leftOf left t = -1) := by show _ = _; unfold leftOf; rw [if_pos hlt]
    go_enter Tryd.func84, Tryd.ntmps84
    go_wp2
    go_ret
    exact ⟨ret_int' H.out.symm, (Below.refl _ _).alloc (Nat.le_refl _) _⟩
  · have H : Hid (leftOf left t = left - t.size) := by show _ = _; unfold leftOf; rw [if_neg hlt]
    go_enter Tryd.func84, Tryd.ntmps84
    go_wp2
    go_ret
    exact ⟨ret_int' H.out.symm, (Below.refl _ _).alloc (Nat.le_refl _) _⟩

theorem szP_any (a : Option Addr) (cap : Nat) (ps : List P2) (left : Int) (w : World) (hrow : RowP w a ps) (hlen : ps.length ≤ maxLen) (h0 : 0 ≤ left) (h1 : left ≤ 1048576) :
    Calls Tryd.prog 53 #[.slice a ps.length cap, .int .i64 left] w fun e w' => ∃ r : Int, e = .returned (.int .i64 r) ∧ -1 ≤ r ∧ r ≤ left ∧ (0 ≤ r → (ps.length : Int) ≤ left) ∧ Below w.heap.size w w' := by
  unfold maxLen at hlen
  have HR : Hid (RowP w a ps) := hrow
  clear hrow
  generalize hL : ps.length = len at *
  have HL : Hid (ps.length = len) := hL
  clear hL
  by_cases hlt : left - (len : Int) < 0
  · go_enter Tryd.func53, Tryd.ntmps53
    go_wp2
    go_ret
    exact ⟨-1, rfl, by omega, by omega, fun h => by omega, Below.refl _ _⟩
  · go_enter Tryd.func53, Tryd.ntmps53
    go_wp2
    go_loopw [1, 5] (fun l i wr => ∃ (k : Nat) (l' : Int), k ≤ len ∧ i = .int .i64 k ∧ l = .int .i64 l' ∧ 0 ≤ l' ∧ l' ≤ left ∧ Below w.heap.size w wr) (fun _ i _ => len - (intOf i).toNat)
    case atStart => exact ⟨0, _, by omega, rfl, rfl, by omega, by omega, Below.refl _ _⟩
    case round =>
      obtain ⟨k, l', hk, rfl, rfl, hl0, hl1, hbl⟩ := hrel
      by_cases hlt : k < len
      · obtain ⟨b, off, rfl, hlb, ⟨hc0, hc1⟩, hsz⟩ := (HR.out.below hbl) k (by rw [HL.out]; exact hlt)
        by_cases hneg : leftOf l' (nthP ps k).2 < 0
        · go_wp2_with fail
          refine (szPending_any (nthP ps k) _ _ hl0 (by omega) hsz).mono ?_
          rintro e w1 ⟨rfl, hb1⟩
          go_wp2
          go_ret
          exact ⟨-1, rfl, by omega, by omega, fun h => by omega, below_step hbl (Nat.le_refl _) hb1⟩
        · have hbd : 0 ≤ leftOf l' (nthP ps k).2 ∧ leftOf l' (nthP ps k).2 ≤ l' := by
            refine ⟨by omega, ?_⟩
            unfold leftOf
            split <;> omega
          go_wp2_with fail
          refine (szPending_any (nthP ps k) _ _ hl0 (by omega) hsz).mono ?_
          rintro e w1 ⟨rfl, hb1⟩
          have hB := below_step hbl (Nat.le_refl _) hb1
          clear hc0 hc1 hb1 hlb
          go_wp2
          go_roundw
          case rel => exact ⟨k + 1, _, by omega, by go_num, rfl, by omega, by omega, hB⟩
          case measure => simp [intOf]; omega
      · go_wp2
        go_ret
        exact ⟨l', rfl, by omega, by omega, fun _ => by omega, hbl⟩

theorem szS_any (a : Option Addr) (cap : Nat) (ss : List ByteArray) (left : Int) (w : World) (hrow : RowS w a ss) (hlen : ss.length ≤ maxLen) (h0 : 0 ≤ left) (h1 : left ≤ 1048576) :
    Calls Tryd.prog 52 #[.slice a ss.length cap, .int .i64 left] w fun e w' => ∃ r : Int, e = .returned (.int .i64 r) ∧ -1 ≤ r ∧ r ≤ left ∧ (0 ≤ r → (ss.length : Int) ≤ left) ∧ Below w.heap.size w w' := by
  unfold maxLen at hlen
  have HR : Hid (RowS w a ss) := hrow
  clear hrow
  generalize hL : ss.length = len at *
  have HL : Hid (ss.length = len) := hL
  clear hL
  by_cases hlt : left - (len : Int) < 0
  · go_enter Tryd.func52, Tryd.ntmps52
    go_wp2
    go_ret
    exact ⟨-1, rfl, by omega, by omega, fun h => by omega, Below.refl _ _⟩
  · go_enter Tryd.func52, Tryd.ntmps52
    go_wp2
    go_loopw [1, 5] (fun l i wr => ∃ (k : Nat) (l' : Int), k ≤ len ∧ i = .int .i64 k ∧ l = .int .i64 l' ∧ 0 ≤ l' ∧ l' ≤ left ∧ Below w.heap.size w wr) (fun _ i _ => len - (intOf i).toNat)
    case atStart => exact ⟨0, _, by omega, rfl, rfl, by omega, by omega, Below.refl _ _⟩
    case round =>
      obtain ⟨k, l', hk, rfl, rfl, hl0, hl1, hbl⟩ := hrel
      by_cases hlt : k < len
      · obtain ⟨b, off, rfl, hlb, hc0, hsz⟩ := (HR.out.below hbl) k (by rw [HL.out]; exact hlt)
        unfold maxLen at hsz
        by_cases hneg : l' - ((nthS ss k).size : Int) < 0
        · go_wp2
          go_ret
          exact ⟨-1, rfl, by omega, by omega, fun h => by omega, hbl⟩
        · go_wp2
          go_roundw
          case rel => exact ⟨k + 1, _, by omega, by go_num, rfl, by omega, by omega, hbl⟩
          case measure => simp [intOf]; omega
      · go_wp2
        go_ret
        exact ⟨l', rfl, by omega, by omega, fun _ => by omega, hbl⟩

theorem szDisk_any (a a' : Option Addr) (c c' : Nat) (ss : List ByteArray) (ps : List P2) (left : Int) (w : World) (hs : RowS w a ss) (hp : RowP w a' ps) (hls : ss.length ≤ maxLen) (hlp : ps.length ≤ maxLen) (h0 : 0 ≤ left) (h1 : left ≤ 1048576) :
    Calls Tryd.prog 19 #[DV a ss.length c a' ps.length c', .int .i64 left] w fun e w' => ∃ r : Int, e = .returned (.int .i64 r) ∧ -1 ≤ r ∧ r ≤ left ∧ (0 ≤ r → (ss.length : Int) ≤ left ∧ (ps.length : Int) ≤ left) ∧ Below w.heap.size w w' := by
  have HS : Hid (RowS w a ss) := hs
  have HP : Hid (RowP w a' ps) := hp
  have LS : Hid (ss.length ≤ maxLen) := hls
  have LP : Hid (ps.length ≤ maxLen) := hlp
  clear hs hp hls hlp
  have B0 : Below w.heap.size w (w.alloc (.cells #[.slice a ss.length c, .slice a' ps.length c'] 49)) := (Below.refl _ _).alloc (Nat.le_refl _) _
  go_enter Tryd.func19, Tryd.ntmps19
  go_wp2_with fail
  refine (szS_any a c ss left _ (HS.out.below B0) LS.out h0 h1).mono ?_
  rintro e w1 ⟨x, rfl, x0, x1, x2, hb1⟩
  have hc : w1.cell? ⟨w.heap.size, 1, none⟩ = some (.slice a' ps.length c') := (hb1.cell (p := ⟨w.heap.size, 1, none⟩) (by simp)).trans (by go_simp)
  have B1 := B0.trans (hb1.mono B0.size)
  clear B0 hb1
  by_cases hx : x < 0
  · go_wp2
    go_ret
    exact ⟨-1, rfl, by omega, by omega, fun h => by omega, B1⟩
  have g0 := x2 (by omega)
  clear x2
  go_wp2_with fail
  refine (szP_any a' c' ps x w1 (HP.out.below B1) LP.out (by omega) (by omega)).mono ?_
  rintro e w2 ⟨y, rfl, y0, y1, y2, hb2⟩
  have B2 := B1.trans (hb2.mono B1.size)
  by_cases hy : y < 0
  · go_wp2
    go_ret
    exact ⟨-1, rfl, by omega, by omega, fun h => by omega, B2⟩
  have g1 := y2 (by omega)
  clear y2
  go_wp2
  go_ret
  exact ⟨y, rfl, by omega, by omega, fun _ => ⟨g0, by omega⟩, B2⟩
end Go.Proofs.YtgfgaiimigchkaaDoor
