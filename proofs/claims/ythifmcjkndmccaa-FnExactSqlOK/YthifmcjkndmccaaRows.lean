/-
  NARROWER THAN 'FOR EVERY INPUT', by the rows' own cells (each row's printed sentence says how): FnExactSqlOK: loops · FnExactTreeSize: loops.
  DERIVED. THE GIVEN ROWS OF THIS SEAT. 3 by the template 'for every input the law returns true; each argument reads behind the call as it read before'; 0 by the template 'total and deterministic' (their statements: YthifmcjkndmccaaTotals.lean).
  GIVEN WITH THE SEED: the statements are not yours to turn. If you find one false, say at which input.
  Laid BY PROGRAM, IN A SANDBOX (cutbox-rows.mjs): the forced cells as the released guide's own fill.sh prints them over the translation 52d130e003579914… (all of the seat's roots in one cut). By AI agents, Wed Nov 11 2026. No macro, syntax, notation, axiom, sorry.
-/
import Derived.Test.YthifmcjkndmccaaChecked
import GoSem.Claim
import GoSem.ClaimJoined
import GoSem.ClaimMapViews
import Derived.JoinedTies
import Derived.KernelRfl
namespace Go.Proofs.Ythifmcjkndmccaa
/- THE CELL 'sum', in the pinned program and in every row, IS THE sha256 OF THE DUMP (.gsa) THAT YthifmcjkndmccaaProg.lean LOADS. Nothing in Lean hashes anything: it is a label: what it is worth is what the hold of that sum in a sandbox is worth. -/
noncomputable def Try.pinned : Pinned := { name := "ythifmcjkndmccaa", sum := "52d130e003579914434088d9bffa17f8cb40f458a9e8fe0cf2100cab3de7dda1", checked := Try.checked }
namespace Rows
def none {H : Type} : Left H := { results := [], args := [] }

/-- 'laws.FnExactSqlTokens': WHATEVER THE INPUT: true; the input reads as it did. -/
def fnExactSqlTokensSpec : ChangeSpec := { name := "fnExactSqlTokens", fn := fun _ => fun
  | [d] => { results := [.lit (.bool true)], args := [d] }
  | _ => none }
def fnExactSqlTokensRow : OpenClaim := { program := "ythifmcjkndmccaa", sum := "52d130e003579914434088d9bffa17f8cb40f458a9e8fe0cf2100cab3de7dda1", func := "loop.example/g00208/laws.FnExactSqlTokens", spec := "fnExactSqlTokens", inPlace := ["internal/abi.NoEscape", "internal/bytealg.IndexByteString"], apart := false }
def FnExactSqlTokensSaid : Prop := fnExactSqlTokensRow.holds Try.pinned (OpenSpec.ofChange fnExactSqlTokensSpec)

/-- ITS FALSE NEIGHBOUR: 'it returns false'. Refute it at one input. -/
def fnExactSqlTokensWrong : ChangeSpec := { name := "fnExactSqlTokens", fn := fun _ => fun
  | [d] => { results := [.lit (.bool false)], args := [d] }
  | _ => none }
def FnExactSqlTokensWrongFalsely : Prop := fnExactSqlTokensRow.holds Try.pinned (OpenSpec.ofChange fnExactSqlTokensWrong)

/-- 'laws.FnExactSqlOK': WHATEVER THE INPUT: true; the input reads as it did. -/
def fnExactSqlOKSpec : ChangeSpec := { name := "fnExactSqlOK", fn := fun _ => fun
  | [d] => { results := [.lit (.bool true)], args := [d] }
  | _ => none }
def fnExactSqlOKRow : OpenClaim := { program := "ythifmcjkndmccaa", sum := "52d130e003579914434088d9bffa17f8cb40f458a9e8fe0cf2100cab3de7dda1", func := "loop.example/g00208/laws.FnExactSqlOK", spec := "fnExactSqlOK", recurses := true, loops := true, apart := false }
def FnExactSqlOKSaid : Prop := fnExactSqlOKRow.holds Try.pinned (OpenSpec.ofChange fnExactSqlOKSpec)

/-- ITS FALSE NEIGHBOUR: 'it returns false'. Refute it at one input. -/
def fnExactSqlOKWrong : ChangeSpec := { name := "fnExactSqlOK", fn := fun _ => fun
  | [d] => { results := [.lit (.bool false)], args := [d] }
  | _ => none }
def FnExactSqlOKWrongFalsely : Prop := fnExactSqlOKRow.holds Try.pinned (OpenSpec.ofChange fnExactSqlOKWrong)

/-- 'laws.FnExactTreeSize': WHATEVER THE INPUT: true; the input reads as it did. -/
def fnExactTreeSizeSpec : ChangeSpec := { name := "fnExactTreeSize", fn := fun _ => fun
  | [d] => { results := [.lit (.bool true)], args := [d] }
  | _ => none }
def fnExactTreeSizeRow : OpenClaim := { program := "ythifmcjkndmccaa", sum := "52d130e003579914434088d9bffa17f8cb40f458a9e8fe0cf2100cab3de7dda1", func := "loop.example/g00208/laws.FnExactTreeSize", spec := "fnExactTreeSize", recurses := true, loops := true, apart := false }
def FnExactTreeSizeSaid : Prop := fnExactTreeSizeRow.holds Try.pinned (OpenSpec.ofChange fnExactTreeSizeSpec)

/-- ITS FALSE NEIGHBOUR: 'it returns false'. Refute it at one input. -/
def fnExactTreeSizeWrong : ChangeSpec := { name := "fnExactTreeSize", fn := fun _ => fun
  | [d] => { results := [.lit (.bool false)], args := [d] }
  | _ => none }
def FnExactTreeSizeWrongFalsely : Prop := fnExactTreeSizeRow.holds Try.pinned (OpenSpec.ofChange fnExactTreeSizeWrong)

/- THE SECOND FORM. 'bulk': how many values and letters a reading holds, each counted each time it is reached (what is shared counts as often as it is met; a slice's spare places count too). A statement '..UptoSaid' is the law's where the arguments, and the package variables that the reading takes, are together of bulk at most 1048576: NARROWER than '..Said'. Prove '..Said' where nothing that the law and all that it calls make is longer than what came in: it says more and counts as full. Else prove '..UptoSaid'. A law counts once. -/
mutual
def uptoBulk {H : Type} : DataW H → Nat
  | .lit (.string bytes) => bytes.length + 1
  | .lit _ => 1
  | .nil => 1
  | .ptr d => uptoBulk d + 1
  | .slice elems spare => uptoBulkAll elems + uptoBulkAll spare + 1
  | .agg parts => uptoBulkAll parts + 1
  | .iface _ d => uptoBulk d + 1
  | .map entries => uptoBulkEntries entries + 1
  | .held _ => 1
def uptoBulkAll {H : Type} : List (DataW H) → Nat
  | [] => 0
  | d :: r => uptoBulk d + uptoBulkAll r
def uptoBulkEntries {H : Type} : List (Lit × DataW H) → Nat
  | [] => 0
  | x :: r => uptoBulkEntry x + uptoBulkEntries r
def uptoBulkEntry {H : Type} : Lit × DataW H → Nat
  | (.string bytes, d) => bytes.length + uptoBulk d + 1
  | (_, d) => uptoBulk d + 1
 end
def uptoSmall : (H : Type) → List (DataW H) → Bool := fun _ ds => decide (uptoBulkAll ds ≤ 1048576)
def OpenSpec.upto (s : _root_.Go.ChangeSpec) : _root_.Go.OpenSpec := { _root_.Go.OpenSpec.ofChange s with cond := some uptoSmall }

/-- 'laws.FnExactSqlTokens', WHERE WHAT IT READS IS OF BULK AT MOST 1048576: true; the input reads as it did. -/
def fnExactSqlTokensUptoRow : OpenClaim := { program := "ythifmcjkndmccaa", sum := "52d130e003579914434088d9bffa17f8cb40f458a9e8fe0cf2100cab3de7dda1", func := "loop.example/g00208/laws.FnExactSqlTokens", spec := "fnExactSqlTokens", inPlace := ["internal/abi.NoEscape", "internal/bytealg.IndexByteString"], apart := false, narrowed := true }
def FnExactSqlTokensUptoSaid : Prop := fnExactSqlTokensUptoRow.holds Try.pinned (OpenSpec.upto fnExactSqlTokensSpec)

/-- 'laws.FnExactSqlOK', WHERE WHAT IT READS IS OF BULK AT MOST 1048576: true; the input reads as it did. -/
def fnExactSqlOKUptoRow : OpenClaim := { program := "ythifmcjkndmccaa", sum := "52d130e003579914434088d9bffa17f8cb40f458a9e8fe0cf2100cab3de7dda1", func := "loop.example/g00208/laws.FnExactSqlOK", spec := "fnExactSqlOK", recurses := true, loops := true, apart := false, narrowed := true }
def FnExactSqlOKUptoSaid : Prop := fnExactSqlOKUptoRow.holds Try.pinned (OpenSpec.upto fnExactSqlOKSpec)

/-- 'laws.FnExactTreeSize', WHERE WHAT IT READS IS OF BULK AT MOST 1048576: true; the input reads as it did. -/
def fnExactTreeSizeUptoRow : OpenClaim := { program := "ythifmcjkndmccaa", sum := "52d130e003579914434088d9bffa17f8cb40f458a9e8fe0cf2100cab3de7dda1", func := "loop.example/g00208/laws.FnExactTreeSize", spec := "fnExactTreeSize", recurses := true, loops := true, apart := false, narrowed := true }
def FnExactTreeSizeUptoSaid : Prop := fnExactTreeSizeUptoRow.holds Try.pinned (OpenSpec.upto fnExactTreeSizeSpec)

end Rows
end Go.Proofs.Ythifmcjkndmccaa
