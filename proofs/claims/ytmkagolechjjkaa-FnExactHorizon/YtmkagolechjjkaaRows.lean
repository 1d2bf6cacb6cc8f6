/-
  No cell of these rows narrows 'for every input' (looked for: loops, veiled, ifaces, maps, wideKeys, modest, calm, conditions, laid).
  DERIVED. THE GIVEN ROWS OF THIS SEAT. 5 by the template 'for every input the law returns true; each argument reads behind the call as it read before'; 0 by the template 'total and deterministic' (their statements: YtmkagolechjjkaaTotals.lean).
  GIVEN WITH THE SEED: the statements are not yours to turn. If you find one false, say at which input.
  Laid BY PROGRAM, IN A SANDBOX (cutbox-rows.mjs): the forced cells as the released guide's own fill.sh prints them over the translation f3f8395d63b6507a… (all of the seat's roots in one cut). By AI agents, Wed Nov 11 2026. No macro, syntax, notation, axiom, sorry.
-/
import Derived.Test.YtmkagolechjjkaaChecked
import GoSem.Claim
import GoSem.ClaimJoined
import GoSem.ClaimMapViews
import Derived.JoinedTies
import Derived.KernelRfl
namespace Go.Proofs.Ytmkagolechjjkaa
/- THE CELL 'sum', in the pinned program and in every row, IS THE sha256 OF THE DUMP (.gsa) THAT YtmkagolechjjkaaProg.lean LOADS. Nothing in Lean hashes anything: it is a label: what it is worth is what the hold of that sum in a sandbox is worth. -/
noncomputable def Try.pinned : Pinned := { name := "ytmkagolechjjkaa", sum := "f3f8395d63b6507a033dc7f17b824851102b2e3f931e109fe336410426fca6fa", checked := Try.checked }
namespace Rows
def none {H : Type} : Left H := { results := [], args := [] }

/-- 'laws.FnExactNewBase': WHATEVER THE INPUT: true; the input reads as it did. -/
def fnExactNewBaseSpec : ChangeSpec := { name := "fnExactNewBase", fn := fun _ => fun
  | [] => { results := [.lit (.bool true)], args := [] }
  | _ => none }
def fnExactNewBaseRow : OpenClaim := { program := "ytmkagolechjjkaa", sum := "f3f8395d63b6507a033dc7f17b824851102b2e3f931e109fe336410426fca6fa", func := "loop.example/g00208/laws.FnExactNewBase", spec := "fnExactNewBase", apart := false }
def FnExactNewBaseSaid : Prop := fnExactNewBaseRow.holds Try.pinned (OpenSpec.ofChange fnExactNewBaseSpec)

/-- ITS FALSE NEIGHBOUR: 'it returns false'. Refute it at one input. -/
def fnExactNewBaseWrong : ChangeSpec := { name := "fnExactNewBase", fn := fun _ => fun
  | [] => { results := [.lit (.bool false)], args := [] }
  | _ => none }
def FnExactNewBaseWrongFalsely : Prop := fnExactNewBaseRow.holds Try.pinned (OpenSpec.ofChange fnExactNewBaseWrong)

/-- 'laws.FnExactBaseOK': WHATEVER THE INPUT: true; the input reads as it did. -/
def fnExactBaseOKSpec : ChangeSpec := { name := "fnExactBaseOK", fn := fun _ => fun
  | [d] => { results := [.lit (.bool true)], args := [d] }
  | _ => none }
def fnExactBaseOKRow : OpenClaim := { program := "ytmkagolechjjkaa", sum := "f3f8395d63b6507a033dc7f17b824851102b2e3f931e109fe336410426fca6fa", func := "loop.example/g00208/laws.FnExactBaseOK", spec := "fnExactBaseOK", apart := false }
def FnExactBaseOKSaid : Prop := fnExactBaseOKRow.holds Try.pinned (OpenSpec.ofChange fnExactBaseOKSpec)

/-- ITS FALSE NEIGHBOUR: 'it returns false'. Refute it at one input. -/
def fnExactBaseOKWrong : ChangeSpec := { name := "fnExactBaseOK", fn := fun _ => fun
  | [d] => { results := [.lit (.bool false)], args := [d] }
  | _ => none }
def FnExactBaseOKWrongFalsely : Prop := fnExactBaseOKRow.holds Try.pinned (OpenSpec.ofChange fnExactBaseOKWrong)

/-- 'laws.FnExactValueAt': WHATEVER THE INPUT: true; the input reads as it did. -/
def fnExactValueAtSpec : ChangeSpec := { name := "fnExactValueAt", fn := fun _ => fun
  | [d1, d2, d3] => { results := [.lit (.bool true)], args := [d1, d2, d3] }
  | _ => none }
def fnExactValueAtRow : OpenClaim := { program := "ytmkagolechjjkaa", sum := "f3f8395d63b6507a033dc7f17b824851102b2e3f931e109fe336410426fca6fa", func := "loop.example/g00208/laws.FnExactValueAt", spec := "fnExactValueAt", unfollowed := true, recurses := true, apart := false }
def FnExactValueAtSaid : Prop := fnExactValueAtRow.holds Try.pinned (OpenSpec.ofChange fnExactValueAtSpec)

/-- ITS FALSE NEIGHBOUR: 'it returns false'. Refute it at one input. -/
def fnExactValueAtWrong : ChangeSpec := { name := "fnExactValueAt", fn := fun _ => fun
  | [d1, d2, d3] => { results := [.lit (.bool false)], args := [d1, d2, d3] }
  | _ => none }
def FnExactValueAtWrongFalsely : Prop := fnExactValueAtRow.holds Try.pinned (OpenSpec.ofChange fnExactValueAtWrong)

/-- 'laws.FnExactListAt': WHATEVER THE INPUT: true; the input reads as it did. -/
def fnExactListAtSpec : ChangeSpec := { name := "fnExactListAt", fn := fun _ => fun
  | [d1, d2] => { results := [.lit (.bool true)], args := [d1, d2] }
  | _ => none }
def fnExactListAtRow : OpenClaim := { program := "ytmkagolechjjkaa", sum := "f3f8395d63b6507a033dc7f17b824851102b2e3f931e109fe336410426fca6fa", func := "loop.example/g00208/laws.FnExactListAt", spec := "fnExactListAt", unfollowed := true, recurses := true, apart := false }
def FnExactListAtSaid : Prop := fnExactListAtRow.holds Try.pinned (OpenSpec.ofChange fnExactListAtSpec)

/-- ITS FALSE NEIGHBOUR: 'it returns false'. Refute it at one input. -/
def fnExactListAtWrong : ChangeSpec := { name := "fnExactListAt", fn := fun _ => fun
  | [d1, d2] => { results := [.lit (.bool false)], args := [d1, d2] }
  | _ => none }
def FnExactListAtWrongFalsely : Prop := fnExactListAtRow.holds Try.pinned (OpenSpec.ofChange fnExactListAtWrong)

/-- 'laws.FnExactHorizon': WHATEVER THE INPUT: true; the input reads as it did. -/
def fnExactHorizonSpec : ChangeSpec := { name := "fnExactHorizon", fn := fun _ => fun
  | [d] => { results := [.lit (.bool true)], args := [d] }
  | _ => none }
def fnExactHorizonRow : OpenClaim := { program := "ytmkagolechjjkaa", sum := "f3f8395d63b6507a033dc7f17b824851102b2e3f931e109fe336410426fca6fa", func := "loop.example/g00208/laws.FnExactHorizon", spec := "fnExactHorizon", apart := false }
def FnExactHorizonSaid : Prop := fnExactHorizonRow.holds Try.pinned (OpenSpec.ofChange fnExactHorizonSpec)

/-- ITS FALSE NEIGHBOUR: 'it returns false'. Refute it at one input. -/
def fnExactHorizonWrong : ChangeSpec := { name := "fnExactHorizon", fn := fun _ => fun
  | [d] => { results := [.lit (.bool false)], args := [d] }
  | _ => none }
def FnExactHorizonWrongFalsely : Prop := fnExactHorizonRow.holds Try.pinned (OpenSpec.ofChange fnExactHorizonWrong)

/- THE SECOND FORM. 'bulk': how many values and letters a reading holds, each counted each time it is reached (what is shared counts as often as it is met; a slice's spare places count too). A statement '..UptoSaid' is the law's where the arguments, and the package variables that the reading takes, are together of bulk at most 1048576: NARROWER than '..Said'. Prove '..Said' where nothing that the law and all that it calls make is longer than what came in: it says more and counts as full. Else prove '..UptoSaid'. A law counts once. -/
mutual
def uptoBulk {H : Type} : DataW H → Nat
  | .lit (.string bytes) => bytes.length + 1
  | .lit _ => 1
  | .nil => 1
  | .ptr d => uptoBulk d + 1
  | .slice elems spare => uptoBulkAll elems + uptoBulkAll spare + 1
  | .agg parts => uptoBulkAll parts + 1
  | .iface _ d => uptoBulk d + 1
  | .map entries => uptoBulkEntries entries + 1
  | .held _ => 1
def uptoBulkAll {H : Type} : List (DataW H) → Nat
  | [] => 0
  | d :: r => uptoBulk d + uptoBulkAll r
def uptoBulkEntries {H : Type} : List (Lit × DataW H) → Nat
  | [] => 0
  | x :: r => uptoBulkEntry x + uptoBulkEntries r
def uptoBulkEntry {H : Type} : Lit × DataW H → Nat
  | (.string bytes, d) => bytes.length + uptoBulk d + 1
  | (_, d) => uptoBulk d + 1
 end
def uptoSmall : (H : Type) → List (DataW H) → Bool := fun _ ds => decide (uptoBulkAll ds ≤ 1048576)
def OpenSpec.upto (s : _root_.Go.ChangeSpec) : _root_.Go.OpenSpec := { _root_.Go.OpenSpec.ofChange s with cond := some uptoSmall }

/-- 'laws.FnExactNewBase', WHERE WHAT IT READS IS OF BULK AT MOST 1048576: true; the input reads as it did. -/
def fnExactNewBaseUptoRow : OpenClaim := { program := "ytmkagolechjjkaa", sum := "f3f8395d63b6507a033dc7f17b824851102b2e3f931e109fe336410426fca6fa", func := "loop.example/g00208/laws.FnExactNewBase", spec := "fnExactNewBase", apart := false, narrowed := true }
def FnExactNewBaseUptoSaid : Prop := fnExactNewBaseUptoRow.holds Try.pinned (OpenSpec.upto fnExactNewBaseSpec)

/-- 'laws.FnExactBaseOK', WHERE WHAT IT READS IS OF BULK AT MOST 1048576: true; the input reads as it did. -/
def fnExactBaseOKUptoRow : OpenClaim := { program := "ytmkagolechjjkaa", sum := "f3f8395d63b6507a033dc7f17b824851102b2e3f931e109fe336410426fca6fa", func := "loop.example/g00208/laws.FnExactBaseOK", spec := "fnExactBaseOK", apart := false, narrowed := true }
def FnExactBaseOKUptoSaid : Prop := fnExactBaseOKUptoRow.holds Try.pinned (OpenSpec.upto fnExactBaseOKSpec)

/-- 'laws.FnExactValueAt', WHERE WHAT IT READS IS OF BULK AT MOST 1048576: true; the input reads as it did. -/
def fnExactValueAtUptoRow : OpenClaim := { program := "ytmkagolechjjkaa", sum := "f3f8395d63b6507a033dc7f17b824851102b2e3f931e109fe336410426fca6fa", func := "loop.example/g00208/laws.FnExactValueAt", spec := "fnExactValueAt", unfollowed := true, recurses := true, apart := false, narrowed := true }
def FnExactValueAtUptoSaid : Prop := fnExactValueAtUptoRow.holds Try.pinned (OpenSpec.upto fnExactValueAtSpec)

/-- 'laws.FnExactListAt', WHERE WHAT IT READS IS OF BULK AT MOST 1048576: true; the input reads as it did. -/
def fnExactListAtUptoRow : OpenClaim := { program := "ytmkagolechjjkaa", sum := "f3f8395d63b6507a033dc7f17b824851102b2e3f931e109fe336410426fca6fa", func := "loop.example/g00208/laws.FnExactListAt", spec := "fnExactListAt", unfollowed := true, recurses := true, apart := false, narrowed := true }
def FnExactListAtUptoSaid : Prop := fnExactListAtUptoRow.holds Try.pinned (OpenSpec.upto fnExactListAtSpec)

/-- 'laws.FnExactHorizon', WHERE WHAT IT READS IS OF BULK AT MOST 1048576: true; the input reads as it did. -/
def fnExactHorizonUptoRow : OpenClaim := { program := "ytmkagolechjjkaa", sum := "f3f8395d63b6507a033dc7f17b824851102b2e3f931e109fe336410426fca6fa", func := "loop.example/g00208/laws.FnExactHorizon", spec := "fnExactHorizon", apart := false, narrowed := true }
def FnExactHorizonUptoSaid : Prop := fnExactHorizonUptoRow.holds Try.pinned (OpenSpec.upto fnExactHorizonSpec)

end Rows
end Go.Proofs.Ytmkagolechjjkaa
