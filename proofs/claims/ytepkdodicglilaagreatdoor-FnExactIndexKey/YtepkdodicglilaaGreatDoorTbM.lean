/- A table in a block, and a copy of it (stage 11). -/
import Derived.Test.YtepkdodicglilaaGreatDoorTkB
import Derived.Test.YtepkdodicglilaaGreatDoorTbO
import Derived.Deep.RegionHeld3
namespace Go.Proofs.YtepkdodicglilaaGreatDoor
open Go.RowKit

/-- A table in a block. -/
abbrev BoxT (b : Nat) (nm : ByteArray) (c : Value) (key : Int) (x : Value) (w : World) : Prop := w.cell? ⟨b, 0, none⟩ = some (.string nm) ∧ w.cell? ⟨b, 1, none⟩ = some c ∧ w.cell? ⟨b, 2, none⟩ = some (.int .i64 key) ∧ w.cell? ⟨b, 3, none⟩ = some x ∧ b < w.heap.size
theorem BoxT.below {b : Nat} {nm : ByteArray} {c x : Value} {key : Int} {w w' : World} (h : BoxT b nm c key x w) (hb : Below w.heap.size w w') : BoxT b nm c key x w' := ⟨(hb.cell (p := ⟨b, 0, none⟩) h.2.2.2.2).trans h.1, (hb.cell (p := ⟨b, 1, none⟩) h.2.2.2.2).trans h.2.1, (hb.cell (p := ⟨b, 2, none⟩) h.2.2.2.2).trans h.2.2.1, (hb.cell (p := ⟨b, 3, none⟩) h.2.2.2.2).trans h.2.2.2.1, Nat.lt_of_lt_of_le h.2.2.2.2 hb.size⟩
theorem BoxT.new {nm : ByteArray} {c x : Value} {key : Int} {w : World} (ty : TypeId) : BoxT w.heap.size nm c key x (w.alloc (.cells #[.string nm, c, .int .i64 key, x] ty)) := ⟨slab_cell (heap_new' _ _ _ rfl), slab_cell (heap_new' _ _ _ rfl), slab_cell (heap_new' _ _ _ rfl), slab_cell (heap_new' _ _ _ rfl), by simp⟩
/-- The argument and a copy of it lie in two blocks; what lay in w lies there still. -/
abbrev TwoT (w : World) (b y : Nat) (nm : ByteArray) (key : Int) (ca xa : Option Addr) (cc xc g1 g2 : Nat) (cs : List TC) (xs : List TX) (w' : World) : Prop :=
  BoxT b nm (.slice ca cs.length cc) key (.slice xa xs.length xc) w' ∧ BoxT y nm (fullS g1 cs.length) key (fullS g2 xs.length) w' ∧ (RowC w' ca cs ∧ RowX w' xa xs) ∧ (RowC w' (some ⟨g1, 0, none⟩) cs ∧ RowX w' (some ⟨g2, 0, none⟩) xs) ∧ Below w.heap.size w w'
theorem TwoT.keep {w : World} {b y : Nat} {nm : ByteArray} {key : Int} {ca xa : Option Addr} {cc xc g1 g2 : Nat} {cs : List TC} {xs : List TX} {w1 w2 : World} (h : TwoT w b y nm key ca xa cc xc g1 g2 cs xs w1) (hb : Below w1.heap.size w1 w2) : TwoT w b y nm key ca xa cc xc g1 g2 cs xs w2 :=
  ⟨h.1.below hb, h.2.1.below hb, ⟨h.2.2.1.1.below hb, h.2.2.1.2.below hb⟩, ⟨h.2.2.2.1.1.below hb, h.2.2.2.1.2.below hb⟩, below_step h.2.2.2.2 (Nat.le_refl _) hb⟩
theorem small_max {n : Nat} (h : n ≤ 1048576) : n ≤ maxLen := by unfold maxLen; omega

end Go.Proofs.YtepkdodicglilaaGreatDoor
