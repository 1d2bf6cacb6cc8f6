/-
  NARROWER THAN 'FOR EVERY INPUT', by the rows' own cells (each row's printed sentence says how): FnExactSafeExpr: loops · FnExactConjuncts: loops.
  DERIVED. THE GIVEN ROWS OF THIS SEAT. 2 by the template 'for every input the law returns true; each argument reads behind the call as it read before'; 0 by the template 'total and deterministic' (their statements: YthjibgnhpkonbaaTotals.lean).
  GIVEN WITH THE SEED: the statements are not yours to turn. If you find one false, say at which input.
  Laid BY PROGRAM, IN A SANDBOX (cutbox-rows.mjs): the forced cells as the released guide's own fill.sh prints them over the translation 6d3179da446d8fb8… (all of the seat's roots in one cut). By AI agents, Wed Nov 11 2026. No macro, syntax, notation, axiom, sorry.
-/
import Derived.Test.YthjibgnhpkonbaaChecked
import GoSem.Claim
import GoSem.ClaimJoined
import GoSem.ClaimMapViews
import Derived.JoinedTies
import Derived.KernelRfl
namespace Go.Proofs.Ythjibgnhpkonbaa
/- THE CELL 'sum', in the pinned program and in every row, IS THE sha256 OF THE DUMP (.gsa) THAT YthjibgnhpkonbaaProg.lean LOADS. Nothing in Lean hashes anything: it is a label: what it is worth is what the hold of that sum in a sandbox is worth. -/
noncomputable def Try.pinned : Pinned := { name := "ythjibgnhpkonbaa", sum := "6d3179da446d8fb84eac0b8af6a4a90c9a15117749527ae6709093dfa07cab9b", checked := Try.checked }
namespace Rows
def none {H : Type} : Left H := { results := [], args := [] }

/-- 'laws.FnExactSafeExpr': WHATEVER THE INPUT: true; the input reads as it did. -/
def fnExactSafeExprSpec : ChangeSpec := { name := "fnExactSafeExpr", fn := fun _ => fun
  | [d] => { results := [.lit (.bool true)], args := [d] }
  | _ => none }
def fnExactSafeExprRow : OpenClaim := { program := "ythjibgnhpkonbaa", sum := "6d3179da446d8fb84eac0b8af6a4a90c9a15117749527ae6709093dfa07cab9b", func := "loop.example/g00208/laws.FnExactSafeExpr", spec := "fnExactSafeExpr", unfollowed := true, recurses := true, loops := true, apart := false }
def FnExactSafeExprSaid : Prop := fnExactSafeExprRow.holds Try.pinned (OpenSpec.ofChange fnExactSafeExprSpec)

/-- ITS FALSE NEIGHBOUR: 'it returns false'. Refute it at one input. -/
def fnExactSafeExprWrong : ChangeSpec := { name := "fnExactSafeExpr", fn := fun _ => fun
  | [d] => { results := [.lit (.bool false)], args := [d] }
  | _ => none }
def FnExactSafeExprWrongFalsely : Prop := fnExactSafeExprRow.holds Try.pinned (OpenSpec.ofChange fnExactSafeExprWrong)

/-- 'laws.FnExactConjuncts': WHATEVER THE INPUT: true; the input reads as it did. -/
def fnExactConjunctsSpec : ChangeSpec := { name := "fnExactConjuncts", fn := fun _ => fun
  | [d] => { results := [.lit (.bool true)], args := [d] }
  | _ => none }
def fnExactConjunctsRow : OpenClaim := { program := "ythjibgnhpkonbaa", sum := "6d3179da446d8fb84eac0b8af6a4a90c9a15117749527ae6709093dfa07cab9b", func := "loop.example/g00208/laws.FnExactConjuncts", spec := "fnExactConjuncts", recurses := true, loops := true, apart := false }
def FnExactConjunctsSaid : Prop := fnExactConjunctsRow.holds Try.pinned (OpenSpec.ofChange fnExactConjunctsSpec)

/-- ITS FALSE NEIGHBOUR: 'it returns false'. Refute it at one input. -/
def fnExactConjunctsWrong : ChangeSpec := { name := "fnExactConjuncts", fn := fun _ => fun
  | [d] => { results := [.lit (.bool false)], args := [d] }
  | _ => none }
def FnExactConjunctsWrongFalsely : Prop := fnExactConjunctsRow.holds Try.pinned (OpenSpec.ofChange fnExactConjunctsWrong)

/- THE SECOND FORM. 'bulk': how many values and letters a reading holds, each counted each time it is reached (what is shared counts as often as it is met; a slice's spare places count too). A statement '..UptoSaid' is the law's where the arguments, and the package variables that the reading takes, are together of bulk at most 1048576: NARROWER than '..Said'. Prove '..Said' where nothing that the law and all that it calls make is longer than what came in: it says more and counts as full. Else prove '..UptoSaid'. A law counts once. -/
mutual
def uptoBulk {H : Type} : DataW H → Nat
  | .lit (.string bytes) => bytes.length + 1
  | .lit _ => 1
  | .nil => 1
  | .ptr d => uptoBulk d + 1
  | .slice elems spare => uptoBulkAll elems + uptoBulkAll spare + 1
  | .agg parts => uptoBulkAll parts + 1
  | .iface _ d => uptoBulk d + 1
  | .map entries => uptoBulkEntries entries + 1
  | .held _ => 1
def uptoBulkAll {H : Type} : List (DataW H) → Nat
  | [] => 0
  | d :: r => uptoBulk d + uptoBulkAll r
def uptoBulkEntries {H : Type} : List (Lit × DataW H) → Nat
  | [] => 0
  | x :: r => uptoBulkEntry x + uptoBulkEntries r
def uptoBulkEntry {H : Type} : Lit × DataW H → Nat
  | (.string bytes, d) => bytes.length + uptoBulk d + 1
  | (_, d) => uptoBulk d + 1
 end
def uptoSmall : (H : Type) → List (DataW H) → Bool := fun _ ds => decide (uptoBulkAll ds ≤ 1048576)
def OpenSpec.upto (s : _root_.Go.ChangeSpec) : _root_.Go.OpenSpec := { _root_.Go.OpenSpec.ofChange s with cond := some uptoSmall }

/-- 'laws.FnExactSafeExpr', WHERE WHAT IT READS IS OF BULK AT MOST 1048576: true; the input reads as it did. -/
def fnExactSafeExprUptoRow : OpenClaim := { program := "ythjibgnhpkonbaa", sum := "6d3179da446d8fb84eac0b8af6a4a90c9a15117749527ae6709093dfa07cab9b", func := "loop.example/g00208/laws.FnExactSafeExpr", spec := "fnExactSafeExpr", unfollowed := true, recurses := true, loops := true, apart := false, narrowed := true }
def FnExactSafeExprUptoSaid : Prop := fnExactSafeExprUptoRow.holds Try.pinned (OpenSpec.upto fnExactSafeExprSpec)

/-- 'laws.FnExactConjuncts', WHERE WHAT IT READS IS OF BULK AT MOST 1048576: true; the input reads as it did. -/
def fnExactConjunctsUptoRow : OpenClaim := { program := "ythjibgnhpkonbaa", sum := "6d3179da446d8fb84eac0b8af6a4a90c9a15117749527ae6709093dfa07cab9b", func := "loop.example/g00208/laws.FnExactConjuncts", spec := "fnExactConjuncts", recurses := true, loops := true, apart := false, narrowed := true }
def FnExactConjunctsUptoSaid : Prop := fnExactConjunctsUptoRow.holds Try.pinned (OpenSpec.upto fnExactConjunctsSpec)

end Rows
end Go.Proofs.Ythjibgnhpkonbaa
