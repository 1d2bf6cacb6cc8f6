/- Sums, products and quotients: the specification's, and the laws on them (stage 12). -/
import Derived.Test.YthdilgggjkekaaaArA
namespace Go.Proofs.Ythdilgggjkekaaa
open Go.RowKit

theorem add_wrap {a b : Int} (h : In64 (a + b)) : IntKind.i64.wrap (a + b) = addR a b ∧ 0 = addC a b := by
  unfold addR addC
  rw [if_pos h, if_pos h]
  refine ⟨?_, rfl⟩
  rw [wrap64]
  unfold In64 at h
  omega
end Go.Proofs.Ythdilgggjkekaaa
