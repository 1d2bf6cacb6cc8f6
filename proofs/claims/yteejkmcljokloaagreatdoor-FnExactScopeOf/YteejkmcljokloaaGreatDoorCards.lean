/-
  DERIVED. GIVEN WITH THE SEED: THE CARDS: each row of YteejkmcljokloaaGreatDoorRows.lean that lists a variable, with what it lists TIED to the program's text (the seventh form; the later family's looks); each row that meets fmt, with fmt's text TOLD by the authors' own Lean function (tested against real Go, not proved from fmt's source: count such statements apart). THE CARD IS WHAT COUNTS. Prove the row's statement (the work); the ties are given (YteejkmcljokloaaGreatDoorTie.lean); close each card by the builder's one call (the guide's Derived/Test/ToyasCard.lean, 'card_holds'). Laid BY PROGRAM, IN A SANDBOX (cutbox-door.mjs). By AI agents, Wed Nov 11 2026. No macro, syntax, notation, axiom, sorry.
-/
import Derived.Test.YteejkmcljokloaaGreatDoorRows
import GoSem.ClaimSeven
namespace Go.Proofs.YteejkmcljokloaaGreatDoor
namespace Rows

/-- THE TIED CARD OF 'laws.FnExactScopeOf'. -/
def fnExactScopeOfCard : Claim7 := { stood := { row := fnExactScopeOfRow, standIns := [], harness := (true, "2e2bb0aa707024773ffd567848f1cfb78305de871edb34a5acf33aa1a5691a54"), looks := true }, kinds := [], alts := [], laidByText := true, laidKinds := [.handle], laidTests := true, laidLooks := .later }
def FnExactScopeOfCardSaid : Prop := Claim7.holds Tryz.pinned (.plain (OpenSpec.ofChange fnExactScopeOfSpec)) fnExactScopeOfCard

/-- THE SECOND FORM's CARD OF 'laws.FnExactScopeOf'. -/
def fnExactScopeOfUptoCard : Claim7 := { stood := { row := fnExactScopeOfUptoRow, standIns := [], harness := (true, "2e2bb0aa707024773ffd567848f1cfb78305de871edb34a5acf33aa1a5691a54"), looks := true }, kinds := [], alts := [], laidByText := true, laidKinds := [.handle], laidTests := true, laidLooks := .later }
def FnExactScopeOfUptoCardSaid : Prop := Claim7.holds Tryz.pinned (.plain (OpenSpec.upto fnExactScopeOfSpec)) fnExactScopeOfUptoCard
end Rows
end Go.Proofs.YteejkmcljokloaaGreatDoor
