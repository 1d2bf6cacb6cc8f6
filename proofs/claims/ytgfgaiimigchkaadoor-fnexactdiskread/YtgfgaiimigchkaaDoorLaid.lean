/- A world in which the listed variables hold what the program's text lays in them. -/
import Derived.Test.YtgfgaiimigchkaaDoorOpen
namespace Go.Proofs.YtgfgaiimigchkaaDoor
open Go.ChangeShapes Go.WideShapes Go.ChangeAt Go.RowKit Go.Joins

abbrev sizeS : ByteArray := { data := #[110, 111, 116, 32, 97, 32, 115, 101, 99, 116, 111, 114, 39, 115, 32, 98, 121, 116, 101, 115] }
abbrev secS : ByteArray := { data := #[110, 111, 32, 115, 117, 99, 104, 32, 115, 101, 99, 116, 111, 114] }
abbrev fullS : ByteArray := { data := #[110, 111, 32, 114, 111, 111, 109, 32, 105, 110, 32, 116, 104, 101, 32, 99, 97, 99, 104, 101] }
abbrev actS : ByteArray := { data := #[110, 111, 32, 115, 117, 99, 104, 32, 97, 99, 116] }
noncomputable def low : Nat := (World.holding Tryd.prog default ⟨#[], #[], []⟩).heap.size
def holdAt (n : Nat) : Obj → Obj
  | .cells _ t frozen => .cells #[.iface 165 (.pointer (some ⟨n, 0, none⟩))] t frozen
  | o => o
noncomputable def laidWorld (os : Os) : World :=
  let w0 := World.holding Tryd.prog os ⟨#[.cells #[.string sizeS] 187, .cells #[.string secS] 187, .cells #[.string fullS] 187, .cells #[.string actS] 187], #[], []⟩
  { w0 with heap := (((w0.heap.modify 0 (holdAt low)).modify 1 (holdAt (low + 1))).modify 2 (holdAt (low + 2))).modify 3 (holdAt (low + 3)) }

theorem vars_are2 {H : Type} {enc : TypeId × Value → H} {P : Program} {W : World} {sp : Nat → Bool} {n1 n2 : String} {gs : List (DataW H)} {q : List MemPlace} (h : DataW.TrodVars enc P W sp [n1, n2] gs q) : ∃ x y, gs = [x, y] := by
  match gs, h with
  | [], h => exact h.elim
  | [x], h => obtain ⟨_, _, _, _, _, _, _, _, _, _, hs, _⟩ := h; exact hs.elim
  | [x, y], _ => exact ⟨x, y, rfl⟩
  | x :: y :: z :: r, h =>
    obtain ⟨_, _, _, _, _, _, _, _, _, _, hs, _⟩ := h
    obtain ⟨_, _, _, _, _, _, _, _, _, _, hs', _⟩ := hs
    exact hs'.elim
end Go.Proofs.YtgfgaiimigchkaaDoor
