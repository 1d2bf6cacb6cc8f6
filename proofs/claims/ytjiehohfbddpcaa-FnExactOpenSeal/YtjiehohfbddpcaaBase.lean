/- Small facts on worlds, and lists of bytes that can be read. -/
import Derived.Test.YtjiehohfbddpcaaRows
import Derived.Test.YtjiehohfbddpcaaCrc
import Derived.WalkKit
import Derived.WalkSpells
import Derived.WalkLawsBesides
import Derived.Outline
import Derived.Below
import Derived.ProofKit
import Derived.OpenShut
import Derived.ShutString
import Derived.Lib.SmallJoins
import Derived.ChangeOld
import Derived.BigQuiet
import Derived.BigRegion
import Derived.Deep.QuietTactic
import Derived.Laws.AppendOwnNone
import Derived.OwnWalk
import Derived.Laws.BytesArg
import Derived.Laws.IdiomStrings
import Derived.Laws.Concat
namespace Go.Proofs.Ytjiehohfbddpcaa
open Go.ChangeShapes Go.WideShapes Go.ChangeAt Go.RowKit Go.Joins

theorem ret_bool' {a b : Bool} (h : a = b) : Ending.returned (.bool a) = .returned (.bool b) := by rw [h]
theorem ret_int' {k : IntKind} {a b : Int} (h : a = b) : Ending.returned (.int k a) = .returned (.int k b) := by rw [h]
theorem ret_val {a b : Value} (h : a = b) : Ending.returned a = .returned b := by rw [h]
theorem below_step {B : Nat} {W w1 w2 : World} (h : Below B W w1) (hB : B ≤ W.heap.size) (h2 : Below w1.heap.size w1 w2) : Below B W w2 :=
  h.trans (h2.mono (Nat.le_trans hB h.size))
theorem below_drewN {B : Nat} {a w : World} (h : Below B a w) (n : Nat) : Below B a (w.drewN n) := ⟨h.os, h.tape, h.output, h.size, h.block⟩
theorem own : ownKnob Try.prog.godebug = none := by kernel_rfl
theorem laidOut : laidOutB Try.prog = true := by kernel_rfl
theorem add_plain (b off i : Nat) : (⟨b, off, none⟩ : Addr).add i = ⟨b, off + i, none⟩ := by
  unfold Addr.add
  split <;> simp_all
theorem slab_set {w : World} {g o : Nat} {cur : Array Value} {e : TypeId} (h : w.heap[g]? = some (.cells cur e (0, 0))) (v : Value) : (w.setCell ⟨g, o, none⟩ v).heap[g]? = some (.cells (cur.setIfInBounds o v) e (0, 0)) := by
  simp [World.setCell, Array.getElem?_modify, h]
theorem slab_cell {w : World} {g o : Nat} {cur : Array Value} {e : TypeId} (h : w.heap[g]? = some (.cells cur e (0, 0))) : w.cell? ⟨g, o, none⟩ = cur[o]? := by
  simp [World.cell?, h]
theorem slab_free {w : World} {g o : Nat} {cur : Array Value} {e : TypeId} (h : w.heap[g]? = some (.cells cur e (0, 0))) : w.frozen? ⟨g, o, none⟩ = false := by
  simp [World.frozen?, h]
theorem slab_lt {w : World} {g : Nat} {o : Obj} (h : w.heap[g]? = some o) : g < w.heap.size := by
  rcases Nat.lt_or_ge g w.heap.size with h' | h'
  · exact h'
  · rw [Array.getElem?_eq_none h'] at h; cases h

/-- Byte i of a list, as an integer. -/
def byU (l : List UInt8) (i : Nat) : Int := ((l.getD i 0).toNat : Int)
theorem byU_bd (l : List UInt8) (i : Nat) : 0 ≤ byU l i ∧ byU l i ≤ 255 := by
  unfold byU
  have := (l.getD i 0).toNat_lt
  omega
/-- The bytes l can be read at a. -/
def ReadL (w : World) (a : Option Addr) (l : List UInt8) : Prop :=
  ∀ i, i < l.length → ∃ b off, a = some ⟨b, off, none⟩ ∧ b < w.heap.size ∧ w.cell? ⟨b, off + i, none⟩ = some (.int .u8 (byU l i))
theorem ReadL.below {w w' : World} {a : Option Addr} {l : List UInt8} (h : ReadL w a l) (hb : Below w.heap.size w w') : ReadL w' a l := fun i hi => by
  obtain ⟨b, off, e, hlt, hc⟩ := h i hi
  exact ⟨b, off, e, Nat.lt_of_lt_of_le hlt hb.size, (hb.cell (p := ⟨b, off + i, none⟩) hlt).trans hc⟩
theorem info5 : (Try.prog.info? 5).map (fun i => (i.zero, i.size, i.bytes)) = some (some (.int .u8 0), 1, 1) := by kernel_rfl

/-- The register behind the bytes l. -/
def crcL (l : List UInt8) : Nat := l.foldl (fun r c => bitK 8 (r ^^^ c.toNat)) 4294967295
/-- The sum of the bytes l. -/
def sumL (l : List UInt8) : Nat := crcL l ^^^ 4294967295
theorem crcL_snoc (l : List UInt8) (c : UInt8) : crcL (l ++ [c]) = bitK 8 (crcL l ^^^ c.toNat) := by unfold crcL; rw [List.foldl_append]; rfl
theorem crcL_take (l : List UInt8) (k : Nat) (h : k < l.length) : crcL (l.take (k + 1)) = bitK 8 (crcL (l.take k) ^^^ (l.getD k 0).toNat) := by
  rw [List.take_succ_eq_append_getElem h, crcL_snoc, List.getD_eq_getElem?_getD, List.getElem?_eq_getElem h]; rfl
theorem u8_lt (c : UInt8) : c.toNat < 4294967296 := Nat.lt_trans c.toNat_lt (by decide)
theorem foldl_lt (l : List UInt8) : ∀ r, r < 4294967296 → l.foldl (fun r c => bitK 8 (r ^^^ c.toNat)) r < 4294967296 := by
  induction l with
  | nil => intro r h; exact h
  | cons c l ih => intro r h; exact ih _ (bitK_lt 8 (xor32 h (u8_lt c)))
theorem crcL_lt (l : List UInt8) : crcL l < 4294967296 := foldl_lt l _ (by decide)
theorem sumL_lt (l : List UInt8) : sumL l < 4294967296 := xor32 (crcL_lt l) (by decide)
end Go.Proofs.Ytjiehohfbddpcaa
