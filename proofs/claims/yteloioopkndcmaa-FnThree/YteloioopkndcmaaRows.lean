/-
  No cell of these rows narrows 'for every input' (looked for: loops, veiled, ifaces, maps, wideKeys, modest, calm, conditions, laid).
  DERIVED. THE GIVEN ROWS OF THIS SEAT. 9 by the template 'for every input the law returns true; each argument reads behind the call as it read before'; 0 by the template 'total and deterministic' (their statements: YteloioopkndcmaaTotals.lean).
  GIVEN WITH THE SEED: the statements are not yours to turn. If you find one false, say at which input.
  Laid BY PROGRAM, IN A SANDBOX (cutbox-rows.mjs): the forced cells as the released guide's own fill.sh prints them over the translation 2f81c1775988c83c… (all of the seat's roots in one cut). By AI agents, Wed Nov 11 2026. No macro, syntax, notation, axiom, sorry.
-/
import Derived.Test.YteloioopkndcmaaChecked
import GoSem.Claim
import GoSem.ClaimJoined
import GoSem.ClaimMapViews
import Derived.JoinedTies
import Derived.KernelRfl
namespace Go.Proofs.Yteloioopkndcmaa
/- THE CELL 'sum', in the pinned program and in every row, IS THE sha256 OF THE DUMP (.gsa) THAT YteloioopkndcmaaProg.lean LOADS. Nothing in Lean hashes anything: it is a label: what it is worth is what the hold of that sum in a sandbox is worth. -/
noncomputable def Try.pinned : Pinned := { name := "yteloioopkndcmaa", sum := "2f81c1775988c83cace91397d18fdc1ba499869d09d5c104e4c7cca3cce67c82", checked := Try.checked }
namespace Rows
def none {H : Type} : Left H := { results := [], args := [] }

/-- 'laws.FnArith': WHATEVER THE INPUT: true; the input reads as it did. -/
def fnArithSpec : ChangeSpec := { name := "fnArith", fn := fun _ => fun
  | [d1, d2] => { results := [.lit (.bool true)], args := [d1, d2] }
  | _ => none }
def fnArithRow : OpenClaim := { program := "yteloioopkndcmaa", sum := "2f81c1775988c83cace91397d18fdc1ba499869d09d5c104e4c7cca3cce67c82", func := "loop.example/g00208/laws.FnArith", spec := "fnArith", apart := false }
def FnArithSaid : Prop := fnArithRow.holds Try.pinned (OpenSpec.ofChange fnArithSpec)

/-- ITS FALSE NEIGHBOUR: 'it returns false'. Refute it at one input. -/
def fnArithWrong : ChangeSpec := { name := "fnArith", fn := fun _ => fun
  | [d1, d2] => { results := [.lit (.bool false)], args := [d1, d2] }
  | _ => none }
def FnArithWrongFalsely : Prop := fnArithRow.holds Try.pinned (OpenSpec.ofChange fnArithWrong)

/-- 'laws.FnThree': WHATEVER THE INPUT: true; the input reads as it did. -/
def fnThreeSpec : ChangeSpec := { name := "fnThree", fn := fun _ => fun
  | [d1, d2] => { results := [.lit (.bool true)], args := [d1, d2] }
  | _ => none }
def fnThreeRow : OpenClaim := { program := "yteloioopkndcmaa", sum := "2f81c1775988c83cace91397d18fdc1ba499869d09d5c104e4c7cca3cce67c82", func := "loop.example/g00208/laws.FnThree", spec := "fnThree", unfollowed := true, recurses := true, apart := false }
def FnThreeSaid : Prop := fnThreeRow.holds Try.pinned (OpenSpec.ofChange fnThreeSpec)

/-- ITS FALSE NEIGHBOUR: 'it returns false'. Refute it at one input. -/
def fnThreeWrong : ChangeSpec := { name := "fnThree", fn := fun _ => fun
  | [d1, d2] => { results := [.lit (.bool false)], args := [d1, d2] }
  | _ => none }
def FnThreeWrongFalsely : Prop := fnThreeRow.holds Try.pinned (OpenSpec.ofChange fnThreeWrong)

/-- 'laws.FnAggs': WHATEVER THE INPUT: true; the input reads as it did. -/
def fnAggsSpec : ChangeSpec := { name := "fnAggs", fn := fun _ => fun
  | [d1, d2] => { results := [.lit (.bool true)], args := [d1, d2] }
  | _ => none }
def fnAggsRow : OpenClaim := { program := "yteloioopkndcmaa", sum := "2f81c1775988c83cace91397d18fdc1ba499869d09d5c104e4c7cca3cce67c82", func := "loop.example/g00208/laws.FnAggs", spec := "fnAggs", unfollowed := true, recurses := true, apart := false }
def FnAggsSaid : Prop := fnAggsRow.holds Try.pinned (OpenSpec.ofChange fnAggsSpec)

/-- ITS FALSE NEIGHBOUR: 'it returns false'. Refute it at one input. -/
def fnAggsWrong : ChangeSpec := { name := "fnAggs", fn := fun _ => fun
  | [d1, d2] => { results := [.lit (.bool false)], args := [d1, d2] }
  | _ => none }
def FnAggsWrongFalsely : Prop := fnAggsRow.holds Try.pinned (OpenSpec.ofChange fnAggsWrong)

/-- 'laws.FnExactAddInts': WHATEVER THE INPUT: true; the input reads as it did. -/
def fnExactAddIntsSpec : ChangeSpec := { name := "fnExactAddInts", fn := fun _ => fun
  | [d1, d2] => { results := [.lit (.bool true)], args := [d1, d2] }
  | _ => none }
def fnExactAddIntsRow : OpenClaim := { program := "yteloioopkndcmaa", sum := "2f81c1775988c83cace91397d18fdc1ba499869d09d5c104e4c7cca3cce67c82", func := "loop.example/g00208/laws.FnExactAddInts", spec := "fnExactAddInts", apart := false }
def FnExactAddIntsSaid : Prop := fnExactAddIntsRow.holds Try.pinned (OpenSpec.ofChange fnExactAddIntsSpec)

/-- ITS FALSE NEIGHBOUR: 'it returns false'. Refute it at one input. -/
def fnExactAddIntsWrong : ChangeSpec := { name := "fnExactAddInts", fn := fun _ => fun
  | [d1, d2] => { results := [.lit (.bool false)], args := [d1, d2] }
  | _ => none }
def FnExactAddIntsWrongFalsely : Prop := fnExactAddIntsRow.holds Try.pinned (OpenSpec.ofChange fnExactAddIntsWrong)

/-- 'laws.FnExactMulInts': WHATEVER THE INPUT: true; the input reads as it did. -/
def fnExactMulIntsSpec : ChangeSpec := { name := "fnExactMulInts", fn := fun _ => fun
  | [d1, d2] => { results := [.lit (.bool true)], args := [d1, d2] }
  | _ => none }
def fnExactMulIntsRow : OpenClaim := { program := "yteloioopkndcmaa", sum := "2f81c1775988c83cace91397d18fdc1ba499869d09d5c104e4c7cca3cce67c82", func := "loop.example/g00208/laws.FnExactMulInts", spec := "fnExactMulInts", apart := false }
def FnExactMulIntsSaid : Prop := fnExactMulIntsRow.holds Try.pinned (OpenSpec.ofChange fnExactMulIntsSpec)

/-- ITS FALSE NEIGHBOUR: 'it returns false'. Refute it at one input. -/
def fnExactMulIntsWrong : ChangeSpec := { name := "fnExactMulInts", fn := fun _ => fun
  | [d1, d2] => { results := [.lit (.bool false)], args := [d1, d2] }
  | _ => none }
def FnExactMulIntsWrongFalsely : Prop := fnExactMulIntsRow.holds Try.pinned (OpenSpec.ofChange fnExactMulIntsWrong)

/-- 'laws.FnExactDivInts': WHATEVER THE INPUT: true; the input reads as it did. -/
def fnExactDivIntsSpec : ChangeSpec := { name := "fnExactDivInts", fn := fun _ => fun
  | [d1, d2] => { results := [.lit (.bool true)], args := [d1, d2] }
  | _ => none }
def fnExactDivIntsRow : OpenClaim := { program := "yteloioopkndcmaa", sum := "2f81c1775988c83cace91397d18fdc1ba499869d09d5c104e4c7cca3cce67c82", func := "loop.example/g00208/laws.FnExactDivInts", spec := "fnExactDivInts", apart := false }
def FnExactDivIntsSaid : Prop := fnExactDivIntsRow.holds Try.pinned (OpenSpec.ofChange fnExactDivIntsSpec)

/-- ITS FALSE NEIGHBOUR: 'it returns false'. Refute it at one input. -/
def fnExactDivIntsWrong : ChangeSpec := { name := "fnExactDivInts", fn := fun _ => fun
  | [d1, d2] => { results := [.lit (.bool false)], args := [d1, d2] }
  | _ => none }
def FnExactDivIntsWrongFalsely : Prop := fnExactDivIntsRow.holds Try.pinned (OpenSpec.ofChange fnExactDivIntsWrong)

/-- 'laws.FnExactBinaryValue': WHATEVER THE INPUT: true; the input reads as it did. -/
def fnExactBinaryValueSpec : ChangeSpec := { name := "fnExactBinaryValue", fn := fun _ => fun
  | [d1, d2, d3] => { results := [.lit (.bool true)], args := [d1, d2, d3] }
  | _ => none }
def fnExactBinaryValueRow : OpenClaim := { program := "yteloioopkndcmaa", sum := "2f81c1775988c83cace91397d18fdc1ba499869d09d5c104e4c7cca3cce67c82", func := "loop.example/g00208/laws.FnExactBinaryValue", spec := "fnExactBinaryValue", unfollowed := true, recurses := true, apart := false }
def FnExactBinaryValueSaid : Prop := fnExactBinaryValueRow.holds Try.pinned (OpenSpec.ofChange fnExactBinaryValueSpec)

/-- ITS FALSE NEIGHBOUR: 'it returns false'. Refute it at one input. -/
def fnExactBinaryValueWrong : ChangeSpec := { name := "fnExactBinaryValue", fn := fun _ => fun
  | [d1, d2, d3] => { results := [.lit (.bool false)], args := [d1, d2, d3] }
  | _ => none }
def FnExactBinaryValueWrongFalsely : Prop := fnExactBinaryValueRow.holds Try.pinned (OpenSpec.ofChange fnExactBinaryValueWrong)

/-- 'laws.FnExactUnaryValue': WHATEVER THE INPUT: true; the input reads as it did. -/
def fnExactUnaryValueSpec : ChangeSpec := { name := "fnExactUnaryValue", fn := fun _ => fun
  | [d1, d2] => { results := [.lit (.bool true)], args := [d1, d2] }
  | _ => none }
def fnExactUnaryValueRow : OpenClaim := { program := "yteloioopkndcmaa", sum := "2f81c1775988c83cace91397d18fdc1ba499869d09d5c104e4c7cca3cce67c82", func := "loop.example/g00208/laws.FnExactUnaryValue", spec := "fnExactUnaryValue", unfollowed := true, recurses := true, apart := false }
def FnExactUnaryValueSaid : Prop := fnExactUnaryValueRow.holds Try.pinned (OpenSpec.ofChange fnExactUnaryValueSpec)

/-- ITS FALSE NEIGHBOUR: 'it returns false'. Refute it at one input. -/
def fnExactUnaryValueWrong : ChangeSpec := { name := "fnExactUnaryValue", fn := fun _ => fun
  | [d1, d2] => { results := [.lit (.bool false)], args := [d1, d2] }
  | _ => none }
def FnExactUnaryValueWrongFalsely : Prop := fnExactUnaryValueRow.holds Try.pinned (OpenSpec.ofChange fnExactUnaryValueWrong)

/-- 'laws.FnExactAggValue': WHATEVER THE INPUT: true; the input reads as it did. -/
def fnExactAggValueSpec : ChangeSpec := { name := "fnExactAggValue", fn := fun _ => fun
  | [d1, d2] => { results := [.lit (.bool true)], args := [d1, d2] }
  | _ => none }
def fnExactAggValueRow : OpenClaim := { program := "yteloioopkndcmaa", sum := "2f81c1775988c83cace91397d18fdc1ba499869d09d5c104e4c7cca3cce67c82", func := "loop.example/g00208/laws.FnExactAggValue", spec := "fnExactAggValue", unfollowed := true, recurses := true, apart := false }
def FnExactAggValueSaid : Prop := fnExactAggValueRow.holds Try.pinned (OpenSpec.ofChange fnExactAggValueSpec)

/-- ITS FALSE NEIGHBOUR: 'it returns false'. Refute it at one input. -/
def fnExactAggValueWrong : ChangeSpec := { name := "fnExactAggValue", fn := fun _ => fun
  | [d1, d2] => { results := [.lit (.bool false)], args := [d1, d2] }
  | _ => none }
def FnExactAggValueWrongFalsely : Prop := fnExactAggValueRow.holds Try.pinned (OpenSpec.ofChange fnExactAggValueWrong)

/- THE SECOND FORM. 'bulk': how many values and letters a reading holds, each counted each time it is reached (what is shared counts as often as it is met; a slice's spare places count too). A statement '..UptoSaid' is the law's where the arguments, and the package variables that the reading takes, are together of bulk at most 1048576: NARROWER than '..Said'. Prove '..Said' where nothing that the law and all that it calls make is longer than what came in: it says more and counts as full. Else prove '..UptoSaid'. A law counts once. -/
mutual
def uptoBulk {H : Type} : DataW H → Nat
  | .lit (.string bytes) => bytes.length + 1
  | .lit _ => 1
  | .nil => 1
  | .ptr d => uptoBulk d + 1
  | .slice elems spare => uptoBulkAll elems + uptoBulkAll spare + 1
  | .agg parts => uptoBulkAll parts + 1
  | .iface _ d => uptoBulk d + 1
  | .map entries => uptoBulkEntries entries + 1
  | .held _ => 1
def uptoBulkAll {H : Type} : List (DataW H) → Nat
  | [] => 0
  | d :: r => uptoBulk d + uptoBulkAll r
def uptoBulkEntries {H : Type} : List (Lit × DataW H) → Nat
  | [] => 0
  | x :: r => uptoBulkEntry x + uptoBulkEntries r
def uptoBulkEntry {H : Type} : Lit × DataW H → Nat
  | (.string bytes, d) => bytes.length + uptoBulk d + 1
  | (_, d) => uptoBulk d + 1
 end
def uptoSmall : (H : Type) → List (DataW H) → Bool := fun _ ds => decide (uptoBulkAll ds ≤ 1048576)
def OpenSpec.upto (s : _root_.Go.ChangeSpec) : _root_.Go.OpenSpec := { _root_.Go.OpenSpec.ofChange s with cond := some uptoSmall }

/-- 'laws.FnArith', WHERE WHAT IT READS IS OF BULK AT MOST 1048576: true; the input reads as it did. -/
def fnArithUptoRow : OpenClaim := { program := "yteloioopkndcmaa", sum := "2f81c1775988c83cace91397d18fdc1ba499869d09d5c104e4c7cca3cce67c82", func := "loop.example/g00208/laws.FnArith", spec := "fnArith", apart := false, narrowed := true }
def FnArithUptoSaid : Prop := fnArithUptoRow.holds Try.pinned (OpenSpec.upto fnArithSpec)

/-- 'laws.FnThree', WHERE WHAT IT READS IS OF BULK AT MOST 1048576: true; the input reads as it did. -/
def fnThreeUptoRow : OpenClaim := { program := "yteloioopkndcmaa", sum := "2f81c1775988c83cace91397d18fdc1ba499869d09d5c104e4c7cca3cce67c82", func := "loop.example/g00208/laws.FnThree", spec := "fnThree", unfollowed := true, recurses := true, apart := false, narrowed := true }
def FnThreeUptoSaid : Prop := fnThreeUptoRow.holds Try.pinned (OpenSpec.upto fnThreeSpec)

/-- 'laws.FnAggs', WHERE WHAT IT READS IS OF BULK AT MOST 1048576: true; the input reads as it did. -/
def fnAggsUptoRow : OpenClaim := { program := "yteloioopkndcmaa", sum := "2f81c1775988c83cace91397d18fdc1ba499869d09d5c104e4c7cca3cce67c82", func := "loop.example/g00208/laws.FnAggs", spec := "fnAggs", unfollowed := true, recurses := true, apart := false, narrowed := true }
def FnAggsUptoSaid : Prop := fnAggsUptoRow.holds Try.pinned (OpenSpec.upto fnAggsSpec)

/-- 'laws.FnExactAddInts', WHERE WHAT IT READS IS OF BULK AT MOST 1048576: true; the input reads as it did. -/
def fnExactAddIntsUptoRow : OpenClaim := { program := "yteloioopkndcmaa", sum := "2f81c1775988c83cace91397d18fdc1ba499869d09d5c104e4c7cca3cce67c82", func := "loop.example/g00208/laws.FnExactAddInts", spec := "fnExactAddInts", apart := false, narrowed := true }
def FnExactAddIntsUptoSaid : Prop := fnExactAddIntsUptoRow.holds Try.pinned (OpenSpec.upto fnExactAddIntsSpec)

/-- 'laws.FnExactMulInts', WHERE WHAT IT READS IS OF BULK AT MOST 1048576: true; the input reads as it did. -/
def fnExactMulIntsUptoRow : OpenClaim := { program := "yteloioopkndcmaa", sum := "2f81c1775988c83cace91397d18fdc1ba499869d09d5c104e4c7cca3cce67c82", func := "loop.example/g00208/laws.FnExactMulInts", spec := "fnExactMulInts", apart := false, narrowed := true }
def FnExactMulIntsUptoSaid : Prop := fnExactMulIntsUptoRow.holds Try.pinned (OpenSpec.upto fnExactMulIntsSpec)

/-- 'laws.FnExactDivInts', WHERE WHAT IT READS IS OF BULK AT MOST 1048576: true; the input reads as it did. -/
def fnExactDivIntsUptoRow : OpenClaim := { program := "yteloioopkndcmaa", sum := "2f81c1775988c83cace91397d18fdc1ba499869d09d5c104e4c7cca3cce67c82", func := "loop.example/g00208/laws.FnExactDivInts", spec := "fnExactDivInts", apart := false, narrowed := true }
def FnExactDivIntsUptoSaid : Prop := fnExactDivIntsUptoRow.holds Try.pinned (OpenSpec.upto fnExactDivIntsSpec)

/-- 'laws.FnExactBinaryValue', WHERE WHAT IT READS IS OF BULK AT MOST 1048576: true; the input reads as it did. -/
def fnExactBinaryValueUptoRow : OpenClaim := { program := "yteloioopkndcmaa", sum := "2f81c1775988c83cace91397d18fdc1ba499869d09d5c104e4c7cca3cce67c82", func := "loop.example/g00208/laws.FnExactBinaryValue", spec := "fnExactBinaryValue", unfollowed := true, recurses := true, apart := false, narrowed := true }
def FnExactBinaryValueUptoSaid : Prop := fnExactBinaryValueUptoRow.holds Try.pinned (OpenSpec.upto fnExactBinaryValueSpec)

/-- 'laws.FnExactUnaryValue', WHERE WHAT IT READS IS OF BULK AT MOST 1048576: true; the input reads as it did. -/
def fnExactUnaryValueUptoRow : OpenClaim := { program := "yteloioopkndcmaa", sum := "2f81c1775988c83cace91397d18fdc1ba499869d09d5c104e4c7cca3cce67c82", func := "loop.example/g00208/laws.FnExactUnaryValue", spec := "fnExactUnaryValue", unfollowed := true, recurses := true, apart := false, narrowed := true }
def FnExactUnaryValueUptoSaid : Prop := fnExactUnaryValueUptoRow.holds Try.pinned (OpenSpec.upto fnExactUnaryValueSpec)

/-- 'laws.FnExactAggValue', WHERE WHAT IT READS IS OF BULK AT MOST 1048576: true; the input reads as it did. -/
def fnExactAggValueUptoRow : OpenClaim := { program := "yteloioopkndcmaa", sum := "2f81c1775988c83cace91397d18fdc1ba499869d09d5c104e4c7cca3cce67c82", func := "loop.example/g00208/laws.FnExactAggValue", spec := "fnExactAggValue", unfollowed := true, recurses := true, apart := false, narrowed := true }
def FnExactAggValueUptoSaid : Prop := fnExactAggValueUptoRow.holds Try.pinned (OpenSpec.upto fnExactAggValueSpec)

end Rows
end Go.Proofs.Yteloioopkndcmaa
