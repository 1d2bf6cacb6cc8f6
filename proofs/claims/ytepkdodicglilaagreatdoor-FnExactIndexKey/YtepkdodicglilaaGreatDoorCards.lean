/-
  DERIVED. GIVEN WITH THE SEED: THE CARDS: each row of YtepkdodicglilaaGreatDoorRows.lean that lists a variable, with what it lists TIED to the program's text (the seventh form; the later family's looks); each row that meets fmt, with fmt's text TOLD by the authors' own Lean function (tested against real Go, not proved from fmt's source: count such statements apart). THE CARD IS WHAT COUNTS. Prove the row's statement (the work); the ties are given (YtepkdodicglilaaGreatDoorTie.lean); close each card by the builder's one call (the guide's Derived/Test/ToyasCard.lean, 'card_holds'). Laid BY PROGRAM, IN A SANDBOX (cutbox-door.mjs). By AI agents, Wed Nov 11 2026. No macro, syntax, notation, axiom, sorry.
-/
import Derived.Test.YtepkdodicglilaaGreatDoorRows
import GoSem.ClaimSeven
namespace Go.Proofs.YtepkdodicglilaaGreatDoor
namespace Rows

/-- THE TIED CARD OF 'laws.FnExactCheckRow'. -/
def fnExactCheckRowCard : Claim7 := { stood := { row := fnExactCheckRowRow, standIns := [], harness := (true, "86b45d81359126e9163545306f52e11bbf0670f7331ac78aa4f985f185741e11"), looks := true }, kinds := [], alts := [], laidByText := true, laidKinds := [.handle], laidTests := true, laidLooks := .later }
def FnExactCheckRowCardSaid : Prop := Claim7.holds Tryz.pinned (.plain (OpenSpec.ofChange fnExactCheckRowSpec)) fnExactCheckRowCard

/-- THE TIED CARD OF 'laws.FnExactRowKey'. -/
def fnExactRowKeyCard : Claim7 := { stood := { row := fnExactRowKeyRow, standIns := [], harness := (true, "86b45d81359126e9163545306f52e11bbf0670f7331ac78aa4f985f185741e11"), looks := true }, kinds := [], alts := [], laidByText := true, laidKinds := [.handle], laidTests := true, laidLooks := .later }
def FnExactRowKeyCardSaid : Prop := Claim7.holds Tryz.pinned (.plain (OpenSpec.ofChange fnExactRowKeySpec)) fnExactRowKeyCard

/-- THE TIED CARD OF 'laws.FnExactIndexKey'. -/
def fnExactIndexKeyCard : Claim7 := { stood := { row := fnExactIndexKeyRow, standIns := [], harness := (true, "86b45d81359126e9163545306f52e11bbf0670f7331ac78aa4f985f185741e11"), looks := true }, kinds := [], alts := [], laidByText := true, laidKinds := [.handle], laidTests := true, laidLooks := .later }
def FnExactIndexKeyCardSaid : Prop := Claim7.holds Tryz.pinned (.plain (OpenSpec.ofChange fnExactIndexKeySpec)) fnExactIndexKeyCard

/-- THE SECOND FORM's CARD OF 'laws.FnExactCheckRow'. -/
def fnExactCheckRowUptoCard : Claim7 := { stood := { row := fnExactCheckRowUptoRow, standIns := [], harness := (true, "86b45d81359126e9163545306f52e11bbf0670f7331ac78aa4f985f185741e11"), looks := true }, kinds := [], alts := [], laidByText := true, laidKinds := [.handle], laidTests := true, laidLooks := .later }
def FnExactCheckRowUptoCardSaid : Prop := Claim7.holds Tryz.pinned (.plain (OpenSpec.upto fnExactCheckRowSpec)) fnExactCheckRowUptoCard

/-- THE SECOND FORM's CARD OF 'laws.FnExactRowKey'. -/
def fnExactRowKeyUptoCard : Claim7 := { stood := { row := fnExactRowKeyUptoRow, standIns := [], harness := (true, "86b45d81359126e9163545306f52e11bbf0670f7331ac78aa4f985f185741e11"), looks := true }, kinds := [], alts := [], laidByText := true, laidKinds := [.handle], laidTests := true, laidLooks := .later }
def FnExactRowKeyUptoCardSaid : Prop := Claim7.holds Tryz.pinned (.plain (OpenSpec.upto fnExactRowKeySpec)) fnExactRowKeyUptoCard

/-- THE SECOND FORM's CARD OF 'laws.FnExactIndexKey'. -/
def fnExactIndexKeyUptoCard : Claim7 := { stood := { row := fnExactIndexKeyUptoRow, standIns := [], harness := (true, "86b45d81359126e9163545306f52e11bbf0670f7331ac78aa4f985f185741e11"), looks := true }, kinds := [], alts := [], laidByText := true, laidKinds := [.handle], laidTests := true, laidLooks := .later }
def FnExactIndexKeyUptoCardSaid : Prop := Claim7.holds Tryz.pinned (.plain (OpenSpec.upto fnExactIndexKeySpec)) fnExactIndexKeyUptoCard
end Rows
end Go.Proofs.YtepkdodicglilaaGreatDoor
