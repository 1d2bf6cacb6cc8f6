/-
  NARROWER THAN 'FOR EVERY INPUT', by the rows' own cells (each row's printed sentence says how): FnExactCheckRow: laid · FnExactRowKey: laid · FnExactIndexKey: laid.
  DERIVED. THE GIVEN ROWS OF THIS SEAT. 3 by the template 'for every input the law returns true; each argument reads behind the call as it read before'; 0 by the template 'total and deterministic' (their statements: YtepkdodicglilaaGreatDoorTotals.lean).
  GIVEN WITH THE SEED: the statements are not yours to turn. If you find one false, say at which input.
  Laid BY PROGRAM, IN A SANDBOX (cutbox-rows.mjs): the forced cells as the released guide's own fill.sh prints them over the translation dd2010f3a5b628ff… (all of the seat's roots in one cut). By AI agents, Wed Nov 11 2026. No macro, syntax, notation, axiom, sorry.
-/
import Derived.Test.YtepkdodicglilaaGreatDoorChecked
import GoSem.Claim
import GoSem.ClaimJoined
import GoSem.ClaimMapViews
import Derived.JoinedTies
import Derived.KernelRfl
namespace Go.Proofs.YtepkdodicglilaaGreatDoor
/- THE CELL 'sum', in the pinned program and in every row, IS THE sha256 OF THE DUMP (.gsa) THAT YtepkdodicglilaaGreatDoorProg.lean LOADS. Nothing in Lean hashes anything: it is a label: what it is worth is what the hold of that sum in a sandbox is worth. -/
noncomputable def Tryz.pinned : Pinned := { name := "ytepkdodicglilaagreatdoor", sum := "dd2010f3a5b628ff86a58d68ae38064e83818c5cd1fcbd764122174a296bb7d5", checked := Tryz.checked }
namespace Rows
def none {H : Type} : Left H := { results := [], args := [] }

/- WHAT THE LISTED PACKAGE-LEVEL VARIABLES READ AS WHEN THE CALL BEGINS. Each datum BY PROGRAM (the guide's laid-datum.mjs) off the statement by which the dump's own 'gosem.cut.vars' lays the variable. In a bare row this is a premise. The card (YtepkdodicglilaaGreatDoorCards.lean) ties it to the program's text. -/
def laid_errors_errorType {H : Type} : DataW H := .iface "internal/reflectlite.rtype" (.agg [.ptr (.lit (.string [101, 114, 114, 111, 114]))])

/-- 'laws.FnExactCheckRow': WHATEVER THE INPUT: true; the input reads as it did. -/
def fnExactCheckRowSpec : ChangeSpec := { name := "fnExactCheckRow", fn := fun _ => fun
  | [d1, d2] => { results := [.lit (.bool true)], args := [d1, d2] }
  | _ => none }
def fnExactCheckRowRow : OpenClaim := { program := "ytepkdodicglilaagreatdoor", sum := "dd2010f3a5b628ff86a58d68ae38064e83818c5cd1fcbd764122174a296bb7d5", func := "loop.example/g00208/laws.FnExactCheckRow", spec := "fnExactCheckRow", inPlace := ["internal/reflectlite.ValueOf", "(internal/reflectlite.Value).Type", "(internal/reflectlite.Value).IsNil", "internal/reflectlite.TypeOf", "(internal/reflectlite.Value).Elem", "(internal/reflectlite.Value).Set"], unfollowed := true, recurses := true, named := ["errors.errorType"], apart := false, laid := [("errors.errorType", laid_errors_errorType)] }
def FnExactCheckRowSaid : Prop := fnExactCheckRowRow.holds Tryz.pinned (OpenSpec.ofChange fnExactCheckRowSpec)

/-- ITS FALSE NEIGHBOUR: 'it returns false'. Refute it at one input. -/
def fnExactCheckRowWrong : ChangeSpec := { name := "fnExactCheckRow", fn := fun _ => fun
  | [d1, d2] => { results := [.lit (.bool false)], args := [d1, d2] }
  | _ => none }
def FnExactCheckRowWrongFalsely : Prop := fnExactCheckRowRow.holds Tryz.pinned (OpenSpec.ofChange fnExactCheckRowWrong)

/-- 'laws.FnExactRowKey': WHATEVER THE INPUT: true; the input reads as it did. -/
def fnExactRowKeySpec : ChangeSpec := { name := "fnExactRowKey", fn := fun _ => fun
  | [d1, d2] => { results := [.lit (.bool true)], args := [d1, d2] }
  | _ => none }
def fnExactRowKeyRow : OpenClaim := { program := "ytepkdodicglilaagreatdoor", sum := "dd2010f3a5b628ff86a58d68ae38064e83818c5cd1fcbd764122174a296bb7d5", func := "loop.example/g00208/laws.FnExactRowKey", spec := "fnExactRowKey", inPlace := ["internal/reflectlite.ValueOf", "(internal/reflectlite.Value).Type", "(internal/reflectlite.Value).IsNil", "internal/reflectlite.TypeOf", "(internal/reflectlite.Value).Elem", "(internal/reflectlite.Value).Set", "internal/abi.NoEscape"], unfollowed := true, recurses := true, named := ["errors.errorType"], apart := false, laid := [("errors.errorType", laid_errors_errorType)] }
def FnExactRowKeySaid : Prop := fnExactRowKeyRow.holds Tryz.pinned (OpenSpec.ofChange fnExactRowKeySpec)

/-- ITS FALSE NEIGHBOUR: 'it returns false'. Refute it at one input. -/
def fnExactRowKeyWrong : ChangeSpec := { name := "fnExactRowKey", fn := fun _ => fun
  | [d1, d2] => { results := [.lit (.bool false)], args := [d1, d2] }
  | _ => none }
def FnExactRowKeyWrongFalsely : Prop := fnExactRowKeyRow.holds Tryz.pinned (OpenSpec.ofChange fnExactRowKeyWrong)

/-- 'laws.FnExactIndexKey': WHATEVER THE INPUT: true; the input reads as it did. -/
def fnExactIndexKeySpec : ChangeSpec := { name := "fnExactIndexKey", fn := fun _ => fun
  | [d1, d2, d3] => { results := [.lit (.bool true)], args := [d1, d2, d3] }
  | _ => none }
def fnExactIndexKeyRow : OpenClaim := { program := "ytepkdodicglilaagreatdoor", sum := "dd2010f3a5b628ff86a58d68ae38064e83818c5cd1fcbd764122174a296bb7d5", func := "loop.example/g00208/laws.FnExactIndexKey", spec := "fnExactIndexKey", inPlace := ["internal/reflectlite.ValueOf", "(internal/reflectlite.Value).Type", "(internal/reflectlite.Value).IsNil", "internal/reflectlite.TypeOf", "(internal/reflectlite.Value).Elem", "(internal/reflectlite.Value).Set", "internal/abi.NoEscape"], unfollowed := true, recurses := true, named := ["errors.errorType"], apart := false, laid := [("errors.errorType", laid_errors_errorType)] }
def FnExactIndexKeySaid : Prop := fnExactIndexKeyRow.holds Tryz.pinned (OpenSpec.ofChange fnExactIndexKeySpec)

/-- ITS FALSE NEIGHBOUR: 'it returns false'. Refute it at one input. -/
def fnExactIndexKeyWrong : ChangeSpec := { name := "fnExactIndexKey", fn := fun _ => fun
  | [d1, d2, d3] => { results := [.lit (.bool false)], args := [d1, d2, d3] }
  | _ => none }
def FnExactIndexKeyWrongFalsely : Prop := fnExactIndexKeyRow.holds Tryz.pinned (OpenSpec.ofChange fnExactIndexKeyWrong)

/- THE SECOND FORM. 'bulk': how many values and letters a reading holds, each counted each time it is reached (what is shared counts as often as it is met; a slice's spare places count too). A statement '..UptoSaid' is the law's where the arguments, and the package variables that the reading takes, are together of bulk at most 1048576: NARROWER than '..Said'. Prove '..Said' where nothing that the law and all that it calls make is longer than what came in: it says more and counts as full. Else prove '..UptoSaid'. A law counts once. -/
mutual
def uptoBulk {H : Type} : DataW H → Nat
  | .lit (.string bytes) => bytes.length + 1
  | .lit _ => 1
  | .nil => 1
  | .ptr d => uptoBulk d + 1
  | .slice elems spare => uptoBulkAll elems + uptoBulkAll spare + 1
  | .agg parts => uptoBulkAll parts + 1
  | .iface _ d => uptoBulk d + 1
  | .map entries => uptoBulkEntries entries + 1
  | .held _ => 1
def uptoBulkAll {H : Type} : List (DataW H) → Nat
  | [] => 0
  | d :: r => uptoBulk d + uptoBulkAll r
def uptoBulkEntries {H : Type} : List (Lit × DataW H) → Nat
  | [] => 0
  | x :: r => uptoBulkEntry x + uptoBulkEntries r
def uptoBulkEntry {H : Type} : Lit × DataW H → Nat
  | (.string bytes, d) => bytes.length + uptoBulk d + 1
  | (_, d) => uptoBulk d + 1
 end
def uptoSmall : (H : Type) → List (DataW H) → Bool := fun _ ds => decide (uptoBulkAll ds ≤ 1048576)
def OpenSpec.upto (s : _root_.Go.ChangeSpec) : _root_.Go.OpenSpec := { _root_.Go.OpenSpec.ofChange s with cond := some uptoSmall }

/-- 'laws.FnExactCheckRow', WHERE WHAT IT READS IS OF BULK AT MOST 1048576: true; the input reads as it did. -/
def fnExactCheckRowUptoRow : OpenClaim := { program := "ytepkdodicglilaagreatdoor", sum := "dd2010f3a5b628ff86a58d68ae38064e83818c5cd1fcbd764122174a296bb7d5", func := "loop.example/g00208/laws.FnExactCheckRow", spec := "fnExactCheckRow", inPlace := ["internal/reflectlite.ValueOf", "(internal/reflectlite.Value).Type", "(internal/reflectlite.Value).IsNil", "internal/reflectlite.TypeOf", "(internal/reflectlite.Value).Elem", "(internal/reflectlite.Value).Set"], unfollowed := true, recurses := true, named := ["errors.errorType"], apart := false, laid := [("errors.errorType", laid_errors_errorType)], narrowed := true }
def FnExactCheckRowUptoSaid : Prop := fnExactCheckRowUptoRow.holds Tryz.pinned (OpenSpec.upto fnExactCheckRowSpec)

/-- 'laws.FnExactRowKey', WHERE WHAT IT READS IS OF BULK AT MOST 1048576: true; the input reads as it did. -/
def fnExactRowKeyUptoRow : OpenClaim := { program := "ytepkdodicglilaagreatdoor", sum := "dd2010f3a5b628ff86a58d68ae38064e83818c5cd1fcbd764122174a296bb7d5", func := "loop.example/g00208/laws.FnExactRowKey", spec := "fnExactRowKey", inPlace := ["internal/reflectlite.ValueOf", "(internal/reflectlite.Value).Type", "(internal/reflectlite.Value).IsNil", "internal/reflectlite.TypeOf", "(internal/reflectlite.Value).Elem", "(internal/reflectlite.Value).Set", "internal/abi.NoEscape"], unfollowed := true, recurses := true, named := ["errors.errorType"], apart := false, laid := [("errors.errorType", laid_errors_errorType)], narrowed := true }
def FnExactRowKeyUptoSaid : Prop := fnExactRowKeyUptoRow.holds Tryz.pinned (OpenSpec.upto fnExactRowKeySpec)

/-- 'laws.FnExactIndexKey', WHERE WHAT IT READS IS OF BULK AT MOST 1048576: true; the input reads as it did. -/
def fnExactIndexKeyUptoRow : OpenClaim := { program := "ytepkdodicglilaagreatdoor", sum := "dd2010f3a5b628ff86a58d68ae38064e83818c5cd1fcbd764122174a296bb7d5", func := "loop.example/g00208/laws.FnExactIndexKey", spec := "fnExactIndexKey", inPlace := ["internal/reflectlite.ValueOf", "(internal/reflectlite.Value).Type", "(internal/reflectlite.Value).IsNil", "internal/reflectlite.TypeOf", "(internal/reflectlite.Value).Elem", "(internal/reflectlite.Value).Set", "internal/abi.NoEscape"], unfollowed := true, recurses := true, named := ["errors.errorType"], apart := false, laid := [("errors.errorType", laid_errors_errorType)], narrowed := true }
def FnExactIndexKeyUptoSaid : Prop := fnExactIndexKeyUptoRow.holds Tryz.pinned (OpenSpec.upto fnExactIndexKeySpec)

end Rows
end Go.Proofs.YtepkdodicglilaaGreatDoor
