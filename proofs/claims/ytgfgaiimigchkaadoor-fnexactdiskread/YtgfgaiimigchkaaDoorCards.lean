/-
  DERIVED. GIVEN WITH THE SEED: THE CARDS: each row of YtgfgaiimigchkaaDoorRows.lean that lists a variable, with what it lists TIED to the program's text (the seventh form; the later family's looks); each row that meets fmt, with fmt's text TOLD by the authors' own Lean function (tested against real Go, not proved from fmt's source: count such statements apart). THE CARD IS WHAT COUNTS. Prove the row's statement (the work); the ties are given (YtgfgaiimigchkaaDoorTie.lean); close each card by the builder's one call (the guide's Derived/Test/ToyasCard.lean, 'card_holds'). Laid BY PROGRAM, IN A SANDBOX (cutbox-door.mjs). By AI agents, Wed Nov 11 2026. No macro, syntax, notation, axiom, sorry.
-/
import Derived.Test.YtgfgaiimigchkaaDoorRows
import GoSem.ClaimSeven
namespace Go.Proofs.YtgfgaiimigchkaaDoor
namespace Rows

/-- THE TIED CARD OF 'laws.FnDisk'. -/
def fnDiskCard : Claim7 := { stood := { row := fnDiskRow, standIns := [], harness := (true, "9c75b7dfedcf97b615555c4b85f18fff823ea3d53a0a871f4917147d4f4d7903"), looks := true }, kinds := [], alts := [], laidByText := true, laidKinds := [.sentinel, .sentinel, .sentinel, .sentinel], laidTests := true, laidLooks := .later }
def FnDiskCardSaid : Prop := Claim7.holds Tryd.pinned (.plain (OpenSpec.ofChange fnDiskSpec)) fnDiskCard

/-- THE TIED CARD OF 'laws.FnCrashes'. -/
def fnCrashesCard : Claim7 := { stood := { row := fnCrashesRow, standIns := [], harness := (true, "9c75b7dfedcf97b615555c4b85f18fff823ea3d53a0a871f4917147d4f4d7903"), looks := true }, kinds := [], alts := [], laidByText := true, laidKinds := [.sentinel, .sentinel, .sentinel, .sentinel], laidTests := true, laidLooks := .later }
def FnCrashesCardSaid : Prop := Claim7.holds Tryd.pinned (.plain (OpenSpec.ofChange fnCrashesSpec)) fnCrashesCard

/-- THE TIED CARD OF 'laws.FnExactDiskOK'. -/
def fnExactDiskOKCard : Claim7 := { stood := { row := fnExactDiskOKRow, standIns := [], harness := (true, "9c75b7dfedcf97b615555c4b85f18fff823ea3d53a0a871f4917147d4f4d7903"), looks := true }, kinds := [], alts := [], laidByText := true, laidKinds := [.sentinel, .sentinel], laidTests := true, laidLooks := .later }
def FnExactDiskOKCardSaid : Prop := Claim7.holds Tryd.pinned (.plain (OpenSpec.ofChange fnExactDiskOKSpec)) fnExactDiskOKCard

/-- THE TIED CARD OF 'laws.FnExactDiskRead'. -/
def fnExactDiskReadCard : Claim7 := { stood := { row := fnExactDiskReadRow, standIns := [], harness := (true, "9c75b7dfedcf97b615555c4b85f18fff823ea3d53a0a871f4917147d4f4d7903"), looks := true }, kinds := [], alts := [], laidByText := true, laidKinds := [.sentinel, .sentinel, .sentinel, .sentinel], laidTests := true, laidLooks := .later }
def FnExactDiskReadCardSaid : Prop := Claim7.holds Tryd.pinned (.plain (OpenSpec.ofChange fnExactDiskReadSpec)) fnExactDiskReadCard

/-- THE TIED CARD OF 'laws.FnExactDiskStep'. -/
def fnExactDiskStepCard : Claim7 := { stood := { row := fnExactDiskStepRow, standIns := [], harness := (true, "9c75b7dfedcf97b615555c4b85f18fff823ea3d53a0a871f4917147d4f4d7903"), looks := true }, kinds := [], alts := [], laidByText := true, laidKinds := [.sentinel, .sentinel, .sentinel, .sentinel], laidTests := true, laidLooks := .later }
def FnExactDiskStepCardSaid : Prop := Claim7.holds Tryd.pinned (.plain (OpenSpec.ofChange fnExactDiskStepSpec)) fnExactDiskStepCard

/-- THE TIED CARD OF 'laws.FnExactDiskRun'. -/
def fnExactDiskRunCard : Claim7 := { stood := { row := fnExactDiskRunRow, standIns := [], harness := (true, "9c75b7dfedcf97b615555c4b85f18fff823ea3d53a0a871f4917147d4f4d7903"), looks := true }, kinds := [], alts := [], laidByText := true, laidKinds := [.sentinel, .sentinel, .sentinel, .sentinel], laidTests := true, laidLooks := .later }
def FnExactDiskRunCardSaid : Prop := Claim7.holds Tryd.pinned (.plain (OpenSpec.ofChange fnExactDiskRunSpec)) fnExactDiskRunCard

/-- THE TIED CARD OF 'laws.FnExactDiskSame'. -/
def fnExactDiskSameCard : Claim7 := { stood := { row := fnExactDiskSameRow, standIns := [], harness := (true, "9c75b7dfedcf97b615555c4b85f18fff823ea3d53a0a871f4917147d4f4d7903"), looks := true }, kinds := [], alts := [], laidByText := true, laidKinds := [.sentinel, .sentinel], laidTests := true, laidLooks := .later }
def FnExactDiskSameCardSaid : Prop := Claim7.holds Tryd.pinned (.plain (OpenSpec.ofChange fnExactDiskSameSpec)) fnExactDiskSameCard

/-- THE SECOND FORM's CARD OF 'laws.FnDisk'. -/
def fnDiskUptoCard : Claim7 := { stood := { row := fnDiskUptoRow, standIns := [], harness := (true, "9c75b7dfedcf97b615555c4b85f18fff823ea3d53a0a871f4917147d4f4d7903"), looks := true }, kinds := [], alts := [], laidByText := true, laidKinds := [.sentinel, .sentinel, .sentinel, .sentinel], laidTests := true, laidLooks := .later }
def FnDiskUptoCardSaid : Prop := Claim7.holds Tryd.pinned (.plain (OpenSpec.upto fnDiskSpec)) fnDiskUptoCard

/-- THE SECOND FORM's CARD OF 'laws.FnCrashes'. -/
def fnCrashesUptoCard : Claim7 := { stood := { row := fnCrashesUptoRow, standIns := [], harness := (true, "9c75b7dfedcf97b615555c4b85f18fff823ea3d53a0a871f4917147d4f4d7903"), looks := true }, kinds := [], alts := [], laidByText := true, laidKinds := [.sentinel, .sentinel, .sentinel, .sentinel], laidTests := true, laidLooks := .later }
def FnCrashesUptoCardSaid : Prop := Claim7.holds Tryd.pinned (.plain (OpenSpec.upto fnCrashesSpec)) fnCrashesUptoCard

/-- THE SECOND FORM's CARD OF 'laws.FnExactDiskOK'. -/
def fnExactDiskOKUptoCard : Claim7 := { stood := { row := fnExactDiskOKUptoRow, standIns := [], harness := (true, "9c75b7dfedcf97b615555c4b85f18fff823ea3d53a0a871f4917147d4f4d7903"), looks := true }, kinds := [], alts := [], laidByText := true, laidKinds := [.sentinel, .sentinel], laidTests := true, laidLooks := .later }
def FnExactDiskOKUptoCardSaid : Prop := Claim7.holds Tryd.pinned (.plain (OpenSpec.upto fnExactDiskOKSpec)) fnExactDiskOKUptoCard

/-- THE SECOND FORM's CARD OF 'laws.FnExactDiskRead'. -/
def fnExactDiskReadUptoCard : Claim7 := { stood := { row := fnExactDiskReadUptoRow, standIns := [], harness := (true, "9c75b7dfedcf97b615555c4b85f18fff823ea3d53a0a871f4917147d4f4d7903"), looks := true }, kinds := [], alts := [], laidByText := true, laidKinds := [.sentinel, .sentinel, .sentinel, .sentinel], laidTests := true, laidLooks := .later }
def FnExactDiskReadUptoCardSaid : Prop := Claim7.holds Tryd.pinned (.plain (OpenSpec.upto fnExactDiskReadSpec)) fnExactDiskReadUptoCard

/-- THE SECOND FORM's CARD OF 'laws.FnExactDiskStep'. -/
def fnExactDiskStepUptoCard : Claim7 := { stood := { row := fnExactDiskStepUptoRow, standIns := [], harness := (true, "9c75b7dfedcf97b615555c4b85f18fff823ea3d53a0a871f4917147d4f4d7903"), looks := true }, kinds := [], alts := [], laidByText := true, laidKinds := [.sentinel, .sentinel, .sentinel, .sentinel], laidTests := true, laidLooks := .later }
def FnExactDiskStepUptoCardSaid : Prop := Claim7.holds Tryd.pinned (.plain (OpenSpec.upto fnExactDiskStepSpec)) fnExactDiskStepUptoCard

/-- THE SECOND FORM's CARD OF 'laws.FnExactDiskRun'. -/
def fnExactDiskRunUptoCard : Claim7 := { stood := { row := fnExactDiskRunUptoRow, standIns := [], harness := (true, "9c75b7dfedcf97b615555c4b85f18fff823ea3d53a0a871f4917147d4f4d7903"), looks := true }, kinds := [], alts := [], laidByText := true, laidKinds := [.sentinel, .sentinel, .sentinel, .sentinel], laidTests := true, laidLooks := .later }
def FnExactDiskRunUptoCardSaid : Prop := Claim7.holds Tryd.pinned (.plain (OpenSpec.upto fnExactDiskRunSpec)) fnExactDiskRunUptoCard

/-- THE SECOND FORM's CARD OF 'laws.FnExactDiskSame'. -/
def fnExactDiskSameUptoCard : Claim7 := { stood := { row := fnExactDiskSameUptoRow, standIns := [], harness := (true, "9c75b7dfedcf97b615555c4b85f18fff823ea3d53a0a871f4917147d4f4d7903"), looks := true }, kinds := [], alts := [], laidByText := true, laidKinds := [.sentinel, .sentinel], laidTests := true, laidLooks := .later }
def FnExactDiskSameUptoCardSaid : Prop := Claim7.holds Tryd.pinned (.plain (OpenSpec.upto fnExactDiskSameSpec)) fnExactDiskSameUptoCard
end Rows
end Go.Proofs.YtgfgaiimigchkaaDoor
