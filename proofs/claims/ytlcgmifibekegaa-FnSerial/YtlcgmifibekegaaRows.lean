/-
  No cell of these rows narrows 'for every input' (looked for: loops, veiled, ifaces, maps, wideKeys, modest, calm, conditions, laid).
  DERIVED. THE GIVEN ROWS OF THIS SEAT. 10 by the template 'for every input the law returns true; each argument reads behind the call as it read before'; 0 by the template 'total and deterministic' (their statements: YtlcgmifibekegaaTotals.lean).
  GIVEN WITH THE SEED: the statements are not yours to turn. If you find one false, say at which input.
  Laid BY PROGRAM, IN A SANDBOX (cutbox-rows.mjs): the forced cells as the released guide's own fill.sh prints them over the translation a7f819c6d73653de… (all of the seat's roots in one cut). By AI agents, Wed Nov 11 2026. No macro, syntax, notation, axiom, sorry.
-/
import Derived.Test.YtlcgmifibekegaaChecked
import GoSem.Claim
import GoSem.ClaimJoined
import GoSem.ClaimMapViews
import Derived.JoinedTies
import Derived.KernelRfl
namespace Go.Proofs.Ytlcgmifibekegaa
/- THE CELL 'sum', in the pinned program and in every row, IS THE sha256 OF THE DUMP (.gsa) THAT YtlcgmifibekegaaProg.lean LOADS. Nothing in Lean hashes anything: it is a label: what it is worth is what the hold of that sum in a sandbox is worth. -/
noncomputable def Try.pinned : Pinned := { name := "ytlcgmifibekegaa", sum := "a7f819c6d73653de91d091b13c4ccacd03d01df32e9f3ebc851b00252d95c868", checked := Try.checked }
namespace Rows
def none {H : Type} : Left H := { results := [], args := [] }

/-- 'laws.FnSerial': WHATEVER THE INPUT: true; the input reads as it did. -/
def fnSerialSpec : ChangeSpec := { name := "fnSerial", fn := fun _ => fun
  | [d] => { results := [.lit (.bool true)], args := [d] }
  | _ => none }
def fnSerialRow : OpenClaim := { program := "ytlcgmifibekegaa", sum := "a7f819c6d73653de91d091b13c4ccacd03d01df32e9f3ebc851b00252d95c868", func := "loop.example/g00208/laws.FnSerial", spec := "fnSerial", unfollowed := true, recurses := true, apart := false }
def FnSerialSaid : Prop := fnSerialRow.holds Try.pinned (OpenSpec.ofChange fnSerialSpec)

/-- ITS FALSE NEIGHBOUR: 'it returns false'. Refute it at one input. -/
def fnSerialWrong : ChangeSpec := { name := "fnSerial", fn := fun _ => fun
  | [d] => { results := [.lit (.bool false)], args := [d] }
  | _ => none }
def FnSerialWrongFalsely : Prop := fnSerialRow.holds Try.pinned (OpenSpec.ofChange fnSerialWrong)

/-- 'laws.FnAcyclic': WHATEVER THE INPUT: true; the input reads as it did. -/
def fnAcyclicSpec : ChangeSpec := { name := "fnAcyclic", fn := fun _ => fun
  | [d] => { results := [.lit (.bool true)], args := [d] }
  | _ => none }
def fnAcyclicRow : OpenClaim := { program := "ytlcgmifibekegaa", sum := "a7f819c6d73653de91d091b13c4ccacd03d01df32e9f3ebc851b00252d95c868", func := "loop.example/g00208/laws.FnAcyclic", spec := "fnAcyclic", unfollowed := true, recurses := true, apart := false }
def FnAcyclicSaid : Prop := fnAcyclicRow.holds Try.pinned (OpenSpec.ofChange fnAcyclicSpec)

/-- ITS FALSE NEIGHBOUR: 'it returns false'. Refute it at one input. -/
def fnAcyclicWrong : ChangeSpec := { name := "fnAcyclic", fn := fun _ => fun
  | [d] => { results := [.lit (.bool false)], args := [d] }
  | _ => none }
def FnAcyclicWrongFalsely : Prop := fnAcyclicRow.holds Try.pinned (OpenSpec.ofChange fnAcyclicWrong)

/-- 'laws.FnCertified': WHATEVER THE INPUT: true; the input reads as it did. -/
def fnCertifiedSpec : ChangeSpec := { name := "fnCertified", fn := fun _ => fun
  | [d] => { results := [.lit (.bool true)], args := [d] }
  | _ => none }
def fnCertifiedRow : OpenClaim := { program := "ytlcgmifibekegaa", sum := "a7f819c6d73653de91d091b13c4ccacd03d01df32e9f3ebc851b00252d95c868", func := "loop.example/g00208/laws.FnCertified", spec := "fnCertified", inPlace := ["maps.clone", "internal/bytealg.abigen_runtime_cmpstring", "slices.overlaps[loop.example/g00208/impl.Write]"], unfollowed := true, recurses := true, apart := false }
def FnCertifiedSaid : Prop := fnCertifiedRow.holds Try.pinned (OpenSpec.ofChange fnCertifiedSpec)

/-- ITS FALSE NEIGHBOUR: 'it returns false'. Refute it at one input. -/
def fnCertifiedWrong : ChangeSpec := { name := "fnCertified", fn := fun _ => fun
  | [d] => { results := [.lit (.bool false)], args := [d] }
  | _ => none }
def FnCertifiedWrongFalsely : Prop := fnCertifiedRow.holds Try.pinned (OpenSpec.ofChange fnCertifiedWrong)

/-- 'laws.FnExactHistoryOK': WHATEVER THE INPUT: true; the input reads as it did. -/
def fnExactHistoryOKSpec : ChangeSpec := { name := "fnExactHistoryOK", fn := fun _ => fun
  | [d] => { results := [.lit (.bool true)], args := [d] }
  | _ => none }
def fnExactHistoryOKRow : OpenClaim := { program := "ytlcgmifibekegaa", sum := "a7f819c6d73653de91d091b13c4ccacd03d01df32e9f3ebc851b00252d95c868", func := "loop.example/g00208/laws.FnExactHistoryOK", spec := "fnExactHistoryOK", apart := false }
def FnExactHistoryOKSaid : Prop := fnExactHistoryOKRow.holds Try.pinned (OpenSpec.ofChange fnExactHistoryOKSpec)

/-- ITS FALSE NEIGHBOUR: 'it returns false'. Refute it at one input. -/
def fnExactHistoryOKWrong : ChangeSpec := { name := "fnExactHistoryOK", fn := fun _ => fun
  | [d] => { results := [.lit (.bool false)], args := [d] }
  | _ => none }
def FnExactHistoryOKWrongFalsely : Prop := fnExactHistoryOKRow.holds Try.pinned (OpenSpec.ofChange fnExactHistoryOKWrong)

/-- 'laws.FnExactCommitted': WHATEVER THE INPUT: true; the input reads as it did. -/
def fnExactCommittedSpec : ChangeSpec := { name := "fnExactCommitted", fn := fun _ => fun
  | [d] => { results := [.lit (.bool true)], args := [d] }
  | _ => none }
def fnExactCommittedRow : OpenClaim := { program := "ytlcgmifibekegaa", sum := "a7f819c6d73653de91d091b13c4ccacd03d01df32e9f3ebc851b00252d95c868", func := "loop.example/g00208/laws.FnExactCommitted", spec := "fnExactCommitted", apart := false }
def FnExactCommittedSaid : Prop := fnExactCommittedRow.holds Try.pinned (OpenSpec.ofChange fnExactCommittedSpec)

/-- ITS FALSE NEIGHBOUR: 'it returns false'. Refute it at one input. -/
def fnExactCommittedWrong : ChangeSpec := { name := "fnExactCommitted", fn := fun _ => fun
  | [d] => { results := [.lit (.bool false)], args := [d] }
  | _ => none }
def FnExactCommittedWrongFalsely : Prop := fnExactCommittedRow.holds Try.pinned (OpenSpec.ofChange fnExactCommittedWrong)

/-- 'laws.FnExactConflicts': WHATEVER THE INPUT: true; the input reads as it did. -/
def fnExactConflictsSpec : ChangeSpec := { name := "fnExactConflicts", fn := fun _ => fun
  | [d] => { results := [.lit (.bool true)], args := [d] }
  | _ => none }
def fnExactConflictsRow : OpenClaim := { program := "ytlcgmifibekegaa", sum := "a7f819c6d73653de91d091b13c4ccacd03d01df32e9f3ebc851b00252d95c868", func := "loop.example/g00208/laws.FnExactConflicts", spec := "fnExactConflicts", apart := false }
def FnExactConflictsSaid : Prop := fnExactConflictsRow.holds Try.pinned (OpenSpec.ofChange fnExactConflictsSpec)

/-- ITS FALSE NEIGHBOUR: 'it returns false'. Refute it at one input. -/
def fnExactConflictsWrong : ChangeSpec := { name := "fnExactConflicts", fn := fun _ => fun
  | [d] => { results := [.lit (.bool false)], args := [d] }
  | _ => none }
def FnExactConflictsWrongFalsely : Prop := fnExactConflictsRow.holds Try.pinned (OpenSpec.ofChange fnExactConflictsWrong)

/-- 'laws.FnExactSerialOrder': WHATEVER THE INPUT: true; the input reads as it did. -/
def fnExactSerialOrderSpec : ChangeSpec := { name := "fnExactSerialOrder", fn := fun _ => fun
  | [d1, d2] => { results := [.lit (.bool true)], args := [d1, d2] }
  | _ => none }
def fnExactSerialOrderRow : OpenClaim := { program := "ytlcgmifibekegaa", sum := "a7f819c6d73653de91d091b13c4ccacd03d01df32e9f3ebc851b00252d95c868", func := "loop.example/g00208/laws.FnExactSerialOrder", spec := "fnExactSerialOrder", unfollowed := true, recurses := true, apart := false }
def FnExactSerialOrderSaid : Prop := fnExactSerialOrderRow.holds Try.pinned (OpenSpec.ofChange fnExactSerialOrderSpec)

/-- ITS FALSE NEIGHBOUR: 'it returns false'. Refute it at one input. -/
def fnExactSerialOrderWrong : ChangeSpec := { name := "fnExactSerialOrder", fn := fun _ => fun
  | [d1, d2] => { results := [.lit (.bool false)], args := [d1, d2] }
  | _ => none }
def FnExactSerialOrderWrongFalsely : Prop := fnExactSerialOrderRow.holds Try.pinned (OpenSpec.ofChange fnExactSerialOrderWrong)

/-- 'laws.FnExactPlayHistory': WHATEVER THE INPUT: true; the input reads as it did. -/
def fnExactPlayHistorySpec : ChangeSpec := { name := "fnExactPlayHistory", fn := fun _ => fun
  | [d] => { results := [.lit (.bool true)], args := [d] }
  | _ => none }
def fnExactPlayHistoryRow : OpenClaim := { program := "ytlcgmifibekegaa", sum := "a7f819c6d73653de91d091b13c4ccacd03d01df32e9f3ebc851b00252d95c868", func := "loop.example/g00208/laws.FnExactPlayHistory", spec := "fnExactPlayHistory", unfollowed := true, recurses := true, apart := false }
def FnExactPlayHistorySaid : Prop := fnExactPlayHistoryRow.holds Try.pinned (OpenSpec.ofChange fnExactPlayHistorySpec)

/-- ITS FALSE NEIGHBOUR: 'it returns false'. Refute it at one input. -/
def fnExactPlayHistoryWrong : ChangeSpec := { name := "fnExactPlayHistory", fn := fun _ => fun
  | [d] => { results := [.lit (.bool false)], args := [d] }
  | _ => none }
def FnExactPlayHistoryWrongFalsely : Prop := fnExactPlayHistoryRow.holds Try.pinned (OpenSpec.ofChange fnExactPlayHistoryWrong)

/-- 'laws.FnExactSerialHistory': WHATEVER THE INPUT: true; the input reads as it did. -/
def fnExactSerialHistorySpec : ChangeSpec := { name := "fnExactSerialHistory", fn := fun _ => fun
  | [d1, d2] => { results := [.lit (.bool true)], args := [d1, d2] }
  | _ => none }
def fnExactSerialHistoryRow : OpenClaim := { program := "ytlcgmifibekegaa", sum := "a7f819c6d73653de91d091b13c4ccacd03d01df32e9f3ebc851b00252d95c868", func := "loop.example/g00208/laws.FnExactSerialHistory", spec := "fnExactSerialHistory", unfollowed := true, recurses := true, apart := false }
def FnExactSerialHistorySaid : Prop := fnExactSerialHistoryRow.holds Try.pinned (OpenSpec.ofChange fnExactSerialHistorySpec)

/-- ITS FALSE NEIGHBOUR: 'it returns false'. Refute it at one input. -/
def fnExactSerialHistoryWrong : ChangeSpec := { name := "fnExactSerialHistory", fn := fun _ => fun
  | [d1, d2] => { results := [.lit (.bool false)], args := [d1, d2] }
  | _ => none }
def FnExactSerialHistoryWrongFalsely : Prop := fnExactSerialHistoryRow.holds Try.pinned (OpenSpec.ofChange fnExactSerialHistoryWrong)

/-- 'laws.FnExactCertRun': WHATEVER THE INPUT: true; the input reads as it did. -/
def fnExactCertRunSpec : ChangeSpec := { name := "fnExactCertRun", fn := fun _ => fun
  | [d] => { results := [.lit (.bool true)], args := [d] }
  | _ => none }
def fnExactCertRunRow : OpenClaim := { program := "ytlcgmifibekegaa", sum := "a7f819c6d73653de91d091b13c4ccacd03d01df32e9f3ebc851b00252d95c868", func := "loop.example/g00208/laws.FnExactCertRun", spec := "fnExactCertRun", inPlace := ["maps.clone", "internal/bytealg.abigen_runtime_cmpstring", "slices.overlaps[loop.example/g00208/impl.Write]"], unfollowed := true, recurses := true, apart := false }
def FnExactCertRunSaid : Prop := fnExactCertRunRow.holds Try.pinned (OpenSpec.ofChange fnExactCertRunSpec)

/-- ITS FALSE NEIGHBOUR: 'it returns false'. Refute it at one input. -/
def fnExactCertRunWrong : ChangeSpec := { name := "fnExactCertRun", fn := fun _ => fun
  | [d] => { results := [.lit (.bool false)], args := [d] }
  | _ => none }
def FnExactCertRunWrongFalsely : Prop := fnExactCertRunRow.holds Try.pinned (OpenSpec.ofChange fnExactCertRunWrong)

/- THE SECOND FORM. 'bulk': how many values and letters a reading holds, each counted each time it is reached (what is shared counts as often as it is met; a slice's spare places count too). A statement '..UptoSaid' is the law's where the arguments, and the package variables that the reading takes, are together of bulk at most 1048576: NARROWER than '..Said'. Prove '..Said' where nothing that the law and all that it calls make is longer than what came in: it says more and counts as full. Else prove '..UptoSaid'. A law counts once. -/
mutual
def uptoBulk {H : Type} : DataW H → Nat
  | .lit (.string bytes) => bytes.length + 1
  | .lit _ => 1
  | .nil => 1
  | .ptr d => uptoBulk d + 1
  | .slice elems spare => uptoBulkAll elems + uptoBulkAll spare + 1
  | .agg parts => uptoBulkAll parts + 1
  | .iface _ d => uptoBulk d + 1
  | .map entries => uptoBulkEntries entries + 1
  | .held _ => 1
def uptoBulkAll {H : Type} : List (DataW H) → Nat
  | [] => 0
  | d :: r => uptoBulk d + uptoBulkAll r
def uptoBulkEntries {H : Type} : List (Lit × DataW H) → Nat
  | [] => 0
  | x :: r => uptoBulkEntry x + uptoBulkEntries r
def uptoBulkEntry {H : Type} : Lit × DataW H → Nat
  | (.string bytes, d) => bytes.length + uptoBulk d + 1
  | (_, d) => uptoBulk d + 1
 end
def uptoSmall : (H : Type) → List (DataW H) → Bool := fun _ ds => decide (uptoBulkAll ds ≤ 1048576)
def OpenSpec.upto (s : _root_.Go.ChangeSpec) : _root_.Go.OpenSpec := { _root_.Go.OpenSpec.ofChange s with cond := some uptoSmall }

/-- 'laws.FnSerial', WHERE WHAT IT READS IS OF BULK AT MOST 1048576: true; the input reads as it did. -/
def fnSerialUptoRow : OpenClaim := { program := "ytlcgmifibekegaa", sum := "a7f819c6d73653de91d091b13c4ccacd03d01df32e9f3ebc851b00252d95c868", func := "loop.example/g00208/laws.FnSerial", spec := "fnSerial", unfollowed := true, recurses := true, apart := false, narrowed := true }
def FnSerialUptoSaid : Prop := fnSerialUptoRow.holds Try.pinned (OpenSpec.upto fnSerialSpec)

/-- 'laws.FnAcyclic', WHERE WHAT IT READS IS OF BULK AT MOST 1048576: true; the input reads as it did. -/
def fnAcyclicUptoRow : OpenClaim := { program := "ytlcgmifibekegaa", sum := "a7f819c6d73653de91d091b13c4ccacd03d01df32e9f3ebc851b00252d95c868", func := "loop.example/g00208/laws.FnAcyclic", spec := "fnAcyclic", unfollowed := true, recurses := true, apart := false, narrowed := true }
def FnAcyclicUptoSaid : Prop := fnAcyclicUptoRow.holds Try.pinned (OpenSpec.upto fnAcyclicSpec)

/-- 'laws.FnCertified', WHERE WHAT IT READS IS OF BULK AT MOST 1048576: true; the input reads as it did. -/
def fnCertifiedUptoRow : OpenClaim := { program := "ytlcgmifibekegaa", sum := "a7f819c6d73653de91d091b13c4ccacd03d01df32e9f3ebc851b00252d95c868", func := "loop.example/g00208/laws.FnCertified", spec := "fnCertified", inPlace := ["maps.clone", "internal/bytealg.abigen_runtime_cmpstring", "slices.overlaps[loop.example/g00208/impl.Write]"], unfollowed := true, recurses := true, apart := false, narrowed := true }
def FnCertifiedUptoSaid : Prop := fnCertifiedUptoRow.holds Try.pinned (OpenSpec.upto fnCertifiedSpec)

/-- 'laws.FnExactHistoryOK', WHERE WHAT IT READS IS OF BULK AT MOST 1048576: true; the input reads as it did. -/
def fnExactHistoryOKUptoRow : OpenClaim := { program := "ytlcgmifibekegaa", sum := "a7f819c6d73653de91d091b13c4ccacd03d01df32e9f3ebc851b00252d95c868", func := "loop.example/g00208/laws.FnExactHistoryOK", spec := "fnExactHistoryOK", apart := false, narrowed := true }
def FnExactHistoryOKUptoSaid : Prop := fnExactHistoryOKUptoRow.holds Try.pinned (OpenSpec.upto fnExactHistoryOKSpec)

/-- 'laws.FnExactCommitted', WHERE WHAT IT READS IS OF BULK AT MOST 1048576: true; the input reads as it did. -/
def fnExactCommittedUptoRow : OpenClaim := { program := "ytlcgmifibekegaa", sum := "a7f819c6d73653de91d091b13c4ccacd03d01df32e9f3ebc851b00252d95c868", func := "loop.example/g00208/laws.FnExactCommitted", spec := "fnExactCommitted", apart := false, narrowed := true }
def FnExactCommittedUptoSaid : Prop := fnExactCommittedUptoRow.holds Try.pinned (OpenSpec.upto fnExactCommittedSpec)

/-- 'laws.FnExactConflicts', WHERE WHAT IT READS IS OF BULK AT MOST 1048576: true; the input reads as it did. -/
def fnExactConflictsUptoRow : OpenClaim := { program := "ytlcgmifibekegaa", sum := "a7f819c6d73653de91d091b13c4ccacd03d01df32e9f3ebc851b00252d95c868", func := "loop.example/g00208/laws.FnExactConflicts", spec := "fnExactConflicts", apart := false, narrowed := true }
def FnExactConflictsUptoSaid : Prop := fnExactConflictsUptoRow.holds Try.pinned (OpenSpec.upto fnExactConflictsSpec)

/-- 'laws.FnExactSerialOrder', WHERE WHAT IT READS IS OF BULK AT MOST 1048576: true; the input reads as it did. -/
def fnExactSerialOrderUptoRow : OpenClaim := { program := "ytlcgmifibekegaa", sum := "a7f819c6d73653de91d091b13c4ccacd03d01df32e9f3ebc851b00252d95c868", func := "loop.example/g00208/laws.FnExactSerialOrder", spec := "fnExactSerialOrder", unfollowed := true, recurses := true, apart := false, narrowed := true }
def FnExactSerialOrderUptoSaid : Prop := fnExactSerialOrderUptoRow.holds Try.pinned (OpenSpec.upto fnExactSerialOrderSpec)

/-- 'laws.FnExactPlayHistory', WHERE WHAT IT READS IS OF BULK AT MOST 1048576: true; the input reads as it did. -/
def fnExactPlayHistoryUptoRow : OpenClaim := { program := "ytlcgmifibekegaa", sum := "a7f819c6d73653de91d091b13c4ccacd03d01df32e9f3ebc851b00252d95c868", func := "loop.example/g00208/laws.FnExactPlayHistory", spec := "fnExactPlayHistory", unfollowed := true, recurses := true, apart := false, narrowed := true }
def FnExactPlayHistoryUptoSaid : Prop := fnExactPlayHistoryUptoRow.holds Try.pinned (OpenSpec.upto fnExactPlayHistorySpec)

/-- 'laws.FnExactSerialHistory', WHERE WHAT IT READS IS OF BULK AT MOST 1048576: true; the input reads as it did. -/
def fnExactSerialHistoryUptoRow : OpenClaim := { program := "ytlcgmifibekegaa", sum := "a7f819c6d73653de91d091b13c4ccacd03d01df32e9f3ebc851b00252d95c868", func := "loop.example/g00208/laws.FnExactSerialHistory", spec := "fnExactSerialHistory", unfollowed := true, recurses := true, apart := false, narrowed := true }
def FnExactSerialHistoryUptoSaid : Prop := fnExactSerialHistoryUptoRow.holds Try.pinned (OpenSpec.upto fnExactSerialHistorySpec)

/-- 'laws.FnExactCertRun', WHERE WHAT IT READS IS OF BULK AT MOST 1048576: true; the input reads as it did. -/
def fnExactCertRunUptoRow : OpenClaim := { program := "ytlcgmifibekegaa", sum := "a7f819c6d73653de91d091b13c4ccacd03d01df32e9f3ebc851b00252d95c868", func := "loop.example/g00208/laws.FnExactCertRun", spec := "fnExactCertRun", inPlace := ["maps.clone", "internal/bytealg.abigen_runtime_cmpstring", "slices.overlaps[loop.example/g00208/impl.Write]"], unfollowed := true, recurses := true, apart := false, narrowed := true }
def FnExactCertRunUptoSaid : Prop := fnExactCertRunUptoRow.holds Try.pinned (OpenSpec.upto fnExactCertRunSpec)

end Rows
end Go.Proofs.Ytlcgmifibekegaa
