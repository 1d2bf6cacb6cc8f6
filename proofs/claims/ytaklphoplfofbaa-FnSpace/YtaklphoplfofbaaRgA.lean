/- What SpaceStep answers, kept (stage 4). -/
import Derived.Test.YtaklphoplfofbaaStN
import Derived.Test.YtaklphoplfofbaaStR
import Derived.Test.YtaklphoplfofbaaLwA
namespace Go.Proofs.Ytaklphoplfofbaa
open Go.RowKit

/-- Four lists of what SpaceStep answers, owned; b: those of numbers lie apart. -/
def O4 (b : Bool) (w : World) (n : Nat) (u1 u2 u3 u4 : Value) (R : SR) : Prop := OwnI w n u1 R.ss ∧ OwnP w n u2 R.ps ∧ OwnI w n u3 R.qs ∧ OwnI w n u4 R.pg ∧ (b = true → SepN 0 u1 u3 ∧ SepN 0 u1 u4 ∧ SepN 0 u3 u4)
theorem O4.keep {b : Bool} {w w' : World} {n : Nat} {u1 u2 u3 u4 : Value} {R : SR} (h : O4 b w n u1 u2 u3 u4 R) (hk : ∀ g, n ≤ g → g < w.heap.size → w'.heap[g]? = w.heap[g]?) : O4 b w' n u1 u2 u3 u4 R := ⟨own_keep h.1 hk, own_keep h.2.1 hk, own_keep h.2.2.1 hk, own_keep h.2.2.2.1 hk, h.2.2.2.2⟩
theorem O4.keepT {b : Bool} {w w' : World} {n : Nat} {u1 u2 u3 u4 : Value} {R : SR} (h : O4 b w n u1 u2 u3 u4 R) (hk : ∀ j : Nat, ((∃ cs, w.heap[j]? = some (Obj.cells cs 3 (0, 0))) ∨ ∃ cs, w.heap[j]? = some (Obj.cells cs 88 (0, 0))) → w'.heap[j]? = w.heap[j]?) : O4 b w' n u1 u2 u3 u4 R :=
  ⟨own_typ h.1 fun j hj => hk j (.inl hj), own_typ h.2.1 fun j hj => hk j (.inr hj), own_typ h.2.2.1 fun j hj => hk j (.inl hj), own_typ h.2.2.2.1 fun j hj => hk j (.inl hj), h.2.2.2.2⟩
end Go.Proofs.Ytaklphoplfofbaa
