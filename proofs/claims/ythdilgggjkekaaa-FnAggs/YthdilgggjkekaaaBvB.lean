/- Maps of functions by their names; what known and reckoned make; predicates over lists of values (stage 12). -/
import Derived.Test.YthdilgggjkekaaaBvA
import Derived.Maps.OwnSet
import Derived.Maps.OwnOps
import Derived.StringKeys
import Derived.Shelf.Abstract
namespace Go.Proofs.Ythdilgggjkekaaa
open Go.RowKit Go.Maps

def fnR (v : Value) : Option (DataW Value × List MemPlace) := some (.held v, [])
def putF (f : List UInt8 → Option Value) (k : ByteArray) (v : Value) : List UInt8 → Option Value := fun x => if x = k.toList then some v else f x
theorem grown_below {B b : Nat} {w u u' : World} (h : Below B w u) (hB : B ≤ u.heap.size) (hb : B ≤ b) (hg : u.grownBy u' (some b)) : Below B w u' :=
  h.grown hg hB fun k e => by cases e; exact hb

/-- A value and a code as an answer. -/
abbrev VC (k n : Int) (t : ByteArray) (c : Int) : Value := .tuple #[VV k n t, .int .i64 c]
/-- A function value of two values, from this world on. -/
def WorkB (w : World) (g : Nat) (cap : Array Value) (pre : Int → Int → ByteArray → Int → Int → ByteArray → Prop) (F : Int → Int → ByteArray → Int → Int → ByteArray → Value) : Prop :=
  Ent g ∧ ∀ w', Below w.heap.size w w' → ∀ k n t k2 n2 t2, pre k n t k2 n2 t2 → Calls Try.prog g (#[VV k n t, VV k2 n2 t2] ++ cap) w' fun e w'' => e = .returned (F k n t k2 n2 t2) ∧ Below w'.heap.size w' w''
theorem cell_of {w : World} {g : Nat} {cur : Array Value} {e : TypeId} (h : w.heap[g]? = some (.cells cur e (0, 0))) (o : Nat) : w.cell? ⟨g, o, none⟩ = cur[o]? := by
  simp [World.cell?, h]
/-- Null where one is null, else what F answers. -/
def knownV (F : Int → Int → ByteArray → Int → Int → ByteArray → Value) (k n : Int) (t : ByteArray) (k2 n2 : Int) (t2 : ByteArray) : Value :=
  if k = 0 ∨ k2 = 0 then VC 0 0 noT 0 else F k n t k2 n2 t2
end Go.Proofs.Ythdilgggjkekaaa
