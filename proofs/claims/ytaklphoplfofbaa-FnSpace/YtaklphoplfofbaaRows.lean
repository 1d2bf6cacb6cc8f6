/-
  No cell of these rows narrows 'for every input' (looked for: loops, veiled, ifaces, maps, wideKeys, modest, calm, conditions, laid).
  DERIVED. THE GIVEN ROWS OF THIS SEAT. 6 by the template 'for every input the law returns true; each argument reads behind the call as it read before'; 0 by the template 'total and deterministic' (their statements: YtaklphoplfofbaaTotals.lean).
  GIVEN WITH THE SEED: the statements are not yours to turn. If you find one false, say at which input.
  Laid BY PROGRAM, IN A SANDBOX (cutbox-rows.mjs): the forced cells as the released guide's own fill.sh prints them over the translation b312fdcb351af369… (all of the seat's roots in one cut). By AI agents, Wed Nov 11 2026. No macro, syntax, notation, axiom, sorry.
-/
import Derived.Test.YtaklphoplfofbaaChecked
import GoSem.Claim
import GoSem.ClaimJoined
import GoSem.ClaimMapViews
import Derived.JoinedTies
import Derived.KernelRfl
namespace Go.Proofs.Ytaklphoplfofbaa
/- THE CELL 'sum', in the pinned program and in every row, IS THE sha256 OF THE DUMP (.gsa) THAT YtaklphoplfofbaaProg.lean LOADS. Nothing in Lean hashes anything: it is a label: what it is worth is what the hold of that sum in a sandbox is worth. -/
noncomputable def Try.pinned : Pinned := { name := "ytaklphoplfofbaa", sum := "b312fdcb351af369a777b3baf01b758e280b6eb8b3fe41e575eba8c625d5b93e", checked := Try.checked }
namespace Rows
def none {H : Type} : Left H := { results := [], args := [] }

/-- 'laws.FnSpace': WHATEVER THE INPUT: true; the input reads as it did. -/
def fnSpaceSpec : ChangeSpec := { name := "fnSpace", fn := fun _ => fun
  | [d1, d2] => { results := [.lit (.bool true)], args := [d1, d2] }
  | _ => none }
def fnSpaceRow : OpenClaim := { program := "ytaklphoplfofbaa", sum := "b312fdcb351af369a777b3baf01b758e280b6eb8b3fe41e575eba8c625d5b93e", func := "loop.example/g00208/laws.FnSpace", spec := "fnSpace", apart := false }
def FnSpaceSaid : Prop := fnSpaceRow.holds Try.pinned (OpenSpec.ofChange fnSpaceSpec)

/-- ITS FALSE NEIGHBOUR: 'it returns false'. Refute it at one input. -/
def fnSpaceWrong : ChangeSpec := { name := "fnSpace", fn := fun _ => fun
  | [d1, d2] => { results := [.lit (.bool false)], args := [d1, d2] }
  | _ => none }
def FnSpaceWrongFalsely : Prop := fnSpaceRow.holds Try.pinned (OpenSpec.ofChange fnSpaceWrong)

/-- 'laws.FnExactNewSpace': WHATEVER THE INPUT: true; the input reads as it did. -/
def fnExactNewSpaceSpec : ChangeSpec := { name := "fnExactNewSpace", fn := fun _ => fun
  | [d] => { results := [.lit (.bool true)], args := [d] }
  | _ => none }
def fnExactNewSpaceRow : OpenClaim := { program := "ytaklphoplfofbaa", sum := "b312fdcb351af369a777b3baf01b758e280b6eb8b3fe41e575eba8c625d5b93e", func := "loop.example/g00208/laws.FnExactNewSpace", spec := "fnExactNewSpace", apart := false }
def FnExactNewSpaceSaid : Prop := fnExactNewSpaceRow.holds Try.pinned (OpenSpec.ofChange fnExactNewSpaceSpec)

/-- ITS FALSE NEIGHBOUR: 'it returns false'. Refute it at one input. -/
def fnExactNewSpaceWrong : ChangeSpec := { name := "fnExactNewSpace", fn := fun _ => fun
  | [d] => { results := [.lit (.bool false)], args := [d] }
  | _ => none }
def FnExactNewSpaceWrongFalsely : Prop := fnExactNewSpaceRow.holds Try.pinned (OpenSpec.ofChange fnExactNewSpaceWrong)

/-- 'laws.FnExactSpaceOK': WHATEVER THE INPUT: true; the input reads as it did. -/
def fnExactSpaceOKSpec : ChangeSpec := { name := "fnExactSpaceOK", fn := fun _ => fun
  | [d] => { results := [.lit (.bool true)], args := [d] }
  | _ => none }
def fnExactSpaceOKRow : OpenClaim := { program := "ytaklphoplfofbaa", sum := "b312fdcb351af369a777b3baf01b758e280b6eb8b3fe41e575eba8c625d5b93e", func := "loop.example/g00208/laws.FnExactSpaceOK", spec := "fnExactSpaceOK", apart := false }
def FnExactSpaceOKSaid : Prop := fnExactSpaceOKRow.holds Try.pinned (OpenSpec.ofChange fnExactSpaceOKSpec)

/-- ITS FALSE NEIGHBOUR: 'it returns false'. Refute it at one input. -/
def fnExactSpaceOKWrong : ChangeSpec := { name := "fnExactSpaceOK", fn := fun _ => fun
  | [d] => { results := [.lit (.bool false)], args := [d] }
  | _ => none }
def FnExactSpaceOKWrongFalsely : Prop := fnExactSpaceOKRow.holds Try.pinned (OpenSpec.ofChange fnExactSpaceOKWrong)

/-- 'laws.FnExactSpaceFree': WHATEVER THE INPUT: true; the input reads as it did. -/
def fnExactSpaceFreeSpec : ChangeSpec := { name := "fnExactSpaceFree", fn := fun _ => fun
  | [d] => { results := [.lit (.bool true)], args := [d] }
  | _ => none }
def fnExactSpaceFreeRow : OpenClaim := { program := "ytaklphoplfofbaa", sum := "b312fdcb351af369a777b3baf01b758e280b6eb8b3fe41e575eba8c625d5b93e", func := "loop.example/g00208/laws.FnExactSpaceFree", spec := "fnExactSpaceFree", apart := false }
def FnExactSpaceFreeSaid : Prop := fnExactSpaceFreeRow.holds Try.pinned (OpenSpec.ofChange fnExactSpaceFreeSpec)

/-- ITS FALSE NEIGHBOUR: 'it returns false'. Refute it at one input. -/
def fnExactSpaceFreeWrong : ChangeSpec := { name := "fnExactSpaceFree", fn := fun _ => fun
  | [d] => { results := [.lit (.bool false)], args := [d] }
  | _ => none }
def FnExactSpaceFreeWrongFalsely : Prop := fnExactSpaceFreeRow.holds Try.pinned (OpenSpec.ofChange fnExactSpaceFreeWrong)

/-- 'laws.FnExactSpaceStep': WHATEVER THE INPUT: true; the input reads as it did. -/
def fnExactSpaceStepSpec : ChangeSpec := { name := "fnExactSpaceStep", fn := fun _ => fun
  | [d1, d2] => { results := [.lit (.bool true)], args := [d1, d2] }
  | _ => none }
def fnExactSpaceStepRow : OpenClaim := { program := "ytaklphoplfofbaa", sum := "b312fdcb351af369a777b3baf01b758e280b6eb8b3fe41e575eba8c625d5b93e", func := "loop.example/g00208/laws.FnExactSpaceStep", spec := "fnExactSpaceStep", apart := false }
def FnExactSpaceStepSaid : Prop := fnExactSpaceStepRow.holds Try.pinned (OpenSpec.ofChange fnExactSpaceStepSpec)

/-- ITS FALSE NEIGHBOUR: 'it returns false'. Refute it at one input. -/
def fnExactSpaceStepWrong : ChangeSpec := { name := "fnExactSpaceStep", fn := fun _ => fun
  | [d1, d2] => { results := [.lit (.bool false)], args := [d1, d2] }
  | _ => none }
def FnExactSpaceStepWrongFalsely : Prop := fnExactSpaceStepRow.holds Try.pinned (OpenSpec.ofChange fnExactSpaceStepWrong)

/-- 'laws.FnExactSpaceRun': WHATEVER THE INPUT: true; the input reads as it did. -/
def fnExactSpaceRunSpec : ChangeSpec := { name := "fnExactSpaceRun", fn := fun _ => fun
  | [d1, d2] => { results := [.lit (.bool true)], args := [d1, d2] }
  | _ => none }
def fnExactSpaceRunRow : OpenClaim := { program := "ytaklphoplfofbaa", sum := "b312fdcb351af369a777b3baf01b758e280b6eb8b3fe41e575eba8c625d5b93e", func := "loop.example/g00208/laws.FnExactSpaceRun", spec := "fnExactSpaceRun", apart := false }
def FnExactSpaceRunSaid : Prop := fnExactSpaceRunRow.holds Try.pinned (OpenSpec.ofChange fnExactSpaceRunSpec)

/-- ITS FALSE NEIGHBOUR: 'it returns false'. Refute it at one input. -/
def fnExactSpaceRunWrong : ChangeSpec := { name := "fnExactSpaceRun", fn := fun _ => fun
  | [d1, d2] => { results := [.lit (.bool false)], args := [d1, d2] }
  | _ => none }
def FnExactSpaceRunWrongFalsely : Prop := fnExactSpaceRunRow.holds Try.pinned (OpenSpec.ofChange fnExactSpaceRunWrong)

/- THE SECOND FORM. 'bulk': how many values and letters a reading holds, each counted each time it is reached (what is shared counts as often as it is met; a slice's spare places count too). A statement '..UptoSaid' is the law's where the arguments, and the package variables that the reading takes, are together of bulk at most 1048576: NARROWER than '..Said'. Prove '..Said' where nothing that the law and all that it calls make is longer than what came in: it says more and counts as full. Else prove '..UptoSaid'. A law counts once. -/
mutual
def uptoBulk {H : Type} : DataW H → Nat
  | .lit (.string bytes) => bytes.length + 1
  | .lit _ => 1
  | .nil => 1
  | .ptr d => uptoBulk d + 1
  | .slice elems spare => uptoBulkAll elems + uptoBulkAll spare + 1
  | .agg parts => uptoBulkAll parts + 1
  | .iface _ d => uptoBulk d + 1
  | .map entries => uptoBulkEntries entries + 1
  | .held _ => 1
def uptoBulkAll {H : Type} : List (DataW H) → Nat
  | [] => 0
  | d :: r => uptoBulk d + uptoBulkAll r
def uptoBulkEntries {H : Type} : List (Lit × DataW H) → Nat
  | [] => 0
  | x :: r => uptoBulkEntry x + uptoBulkEntries r
def uptoBulkEntry {H : Type} : Lit × DataW H → Nat
  | (.string bytes, d) => bytes.length + uptoBulk d + 1
  | (_, d) => uptoBulk d + 1
 end
def uptoSmall : (H : Type) → List (DataW H) → Bool := fun _ ds => decide (uptoBulkAll ds ≤ 1048576)
def OpenSpec.upto (s : _root_.Go.ChangeSpec) : _root_.Go.OpenSpec := { _root_.Go.OpenSpec.ofChange s with cond := some uptoSmall }

/-- 'laws.FnSpace', WHERE WHAT IT READS IS OF BULK AT MOST 1048576: true; the input reads as it did. -/
def fnSpaceUptoRow : OpenClaim := { program := "ytaklphoplfofbaa", sum := "b312fdcb351af369a777b3baf01b758e280b6eb8b3fe41e575eba8c625d5b93e", func := "loop.example/g00208/laws.FnSpace", spec := "fnSpace", apart := false, narrowed := true }
def FnSpaceUptoSaid : Prop := fnSpaceUptoRow.holds Try.pinned (OpenSpec.upto fnSpaceSpec)

/-- 'laws.FnExactNewSpace', WHERE WHAT IT READS IS OF BULK AT MOST 1048576: true; the input reads as it did. -/
def fnExactNewSpaceUptoRow : OpenClaim := { program := "ytaklphoplfofbaa", sum := "b312fdcb351af369a777b3baf01b758e280b6eb8b3fe41e575eba8c625d5b93e", func := "loop.example/g00208/laws.FnExactNewSpace", spec := "fnExactNewSpace", apart := false, narrowed := true }
def FnExactNewSpaceUptoSaid : Prop := fnExactNewSpaceUptoRow.holds Try.pinned (OpenSpec.upto fnExactNewSpaceSpec)

/-- 'laws.FnExactSpaceOK', WHERE WHAT IT READS IS OF BULK AT MOST 1048576: true; the input reads as it did. -/
def fnExactSpaceOKUptoRow : OpenClaim := { program := "ytaklphoplfofbaa", sum := "b312fdcb351af369a777b3baf01b758e280b6eb8b3fe41e575eba8c625d5b93e", func := "loop.example/g00208/laws.FnExactSpaceOK", spec := "fnExactSpaceOK", apart := false, narrowed := true }
def FnExactSpaceOKUptoSaid : Prop := fnExactSpaceOKUptoRow.holds Try.pinned (OpenSpec.upto fnExactSpaceOKSpec)

/-- 'laws.FnExactSpaceFree', WHERE WHAT IT READS IS OF BULK AT MOST 1048576: true; the input reads as it did. -/
def fnExactSpaceFreeUptoRow : OpenClaim := { program := "ytaklphoplfofbaa", sum := "b312fdcb351af369a777b3baf01b758e280b6eb8b3fe41e575eba8c625d5b93e", func := "loop.example/g00208/laws.FnExactSpaceFree", spec := "fnExactSpaceFree", apart := false, narrowed := true }
def FnExactSpaceFreeUptoSaid : Prop := fnExactSpaceFreeUptoRow.holds Try.pinned (OpenSpec.upto fnExactSpaceFreeSpec)

/-- 'laws.FnExactSpaceStep', WHERE WHAT IT READS IS OF BULK AT MOST 1048576: true; the input reads as it did. -/
def fnExactSpaceStepUptoRow : OpenClaim := { program := "ytaklphoplfofbaa", sum := "b312fdcb351af369a777b3baf01b758e280b6eb8b3fe41e575eba8c625d5b93e", func := "loop.example/g00208/laws.FnExactSpaceStep", spec := "fnExactSpaceStep", apart := false, narrowed := true }
def FnExactSpaceStepUptoSaid : Prop := fnExactSpaceStepUptoRow.holds Try.pinned (OpenSpec.upto fnExactSpaceStepSpec)

/-- 'laws.FnExactSpaceRun', WHERE WHAT IT READS IS OF BULK AT MOST 1048576: true; the input reads as it did. -/
def fnExactSpaceRunUptoRow : OpenClaim := { program := "ytaklphoplfofbaa", sum := "b312fdcb351af369a777b3baf01b758e280b6eb8b3fe41e575eba8c625d5b93e", func := "loop.example/g00208/laws.FnExactSpaceRun", spec := "fnExactSpaceRun", apart := false, narrowed := true }
def FnExactSpaceRunUptoSaid : Prop := fnExactSpaceRunUptoRow.holds Try.pinned (OpenSpec.upto fnExactSpaceRunSpec)

end Rows
end Go.Proofs.Ytaklphoplfofbaa
