/-
  DERIVED. GIVEN WITH THE SEED: THE CARDS: each row of YtffjnhhfplcloaaGreatDoorRows.lean that lists a variable, with what it lists TIED to the program's text (the seventh form; the later family's looks); each row that meets fmt, with fmt's text TOLD by the authors' own Lean function (tested against real Go, not proved from fmt's source: count such statements apart). THE CARD IS WHAT COUNTS. Prove the row's statement (the work); the ties are given (YtffjnhhfplcloaaGreatDoorTie.lean); close each card by the builder's one call (the guide's Derived/Test/ToyasCard.lean, 'card_holds'). Laid BY PROGRAM, IN A SANDBOX (cutbox-door.mjs). By AI agents, Wed Nov 11 2026. No macro, syntax, notation, axiom, sorry.
-/
import Derived.Test.YtffjnhhfplcloaaGreatDoorRows
import GoSem.ClaimSeven
namespace Go.Proofs.YtffjnhhfplcloaaGreatDoor
namespace Rows

/-- THE TIED CARD OF 'laws.FnTables'. -/
def fnTablesCard : Claim7 := { stood := { row := fnTablesRow, standIns := [], harness := (true, "06d9d1f40066c2818c1f1a6b79533056287e4ccdc14ba9f9d2a1759b05f29c92"), looks := true }, kinds := [], alts := [], laidByText := true, laidKinds := [.data, .data, .data, .handle, .data], laidTests := true, laidLooks := .later }
def FnTablesCardSaid : Prop := Claim7.holds Tryz.pinned (.plain (OpenSpec.ofChange fnTablesSpec)) fnTablesCard

/-- THE TIED CARD OF 'laws.FnCatalog'. -/
def fnCatalogCard : Claim7 := { stood := { row := fnCatalogRow, standIns := [], harness := (true, "06d9d1f40066c2818c1f1a6b79533056287e4ccdc14ba9f9d2a1759b05f29c92"), looks := true }, kinds := [], alts := [], laidByText := true, laidKinds := [.handle], laidTests := true, laidLooks := .later }
def FnCatalogCardSaid : Prop := Claim7.holds Tryz.pinned (.plain (OpenSpec.ofChange fnCatalogSpec)) fnCatalogCard

/-- THE TIED CARD OF 'laws.FnFields'. -/
def fnFieldsCard : Claim7 := { stood := { row := fnFieldsRow, standIns := [], harness := (true, "06d9d1f40066c2818c1f1a6b79533056287e4ccdc14ba9f9d2a1759b05f29c92"), looks := true }, kinds := [], alts := [], laidByText := true, laidKinds := [.handle], laidTests := true, laidLooks := .later }
def FnFieldsCardSaid : Prop := Claim7.holds Tryz.pinned (.plain (OpenSpec.ofChange fnFieldsSpec)) fnFieldsCard

/-- THE TIED CARD OF 'laws.FnExactCheckRow'. -/
def fnExactCheckRowCard : Claim7 := { stood := { row := fnExactCheckRowRow, standIns := [], harness := (true, "06d9d1f40066c2818c1f1a6b79533056287e4ccdc14ba9f9d2a1759b05f29c92"), looks := true }, kinds := [], alts := [], laidByText := true, laidKinds := [.handle], laidTests := true, laidLooks := .later }
def FnExactCheckRowCardSaid : Prop := Claim7.holds Tryz.pinned (.plain (OpenSpec.ofChange fnExactCheckRowSpec)) fnExactCheckRowCard

/-- THE TIED CARD OF 'laws.FnExactRowKey'. -/
def fnExactRowKeyCard : Claim7 := { stood := { row := fnExactRowKeyRow, standIns := [], harness := (true, "06d9d1f40066c2818c1f1a6b79533056287e4ccdc14ba9f9d2a1759b05f29c92"), looks := true }, kinds := [], alts := [], laidByText := true, laidKinds := [.handle], laidTests := true, laidLooks := .later }
def FnExactRowKeyCardSaid : Prop := Claim7.holds Tryz.pinned (.plain (OpenSpec.ofChange fnExactRowKeySpec)) fnExactRowKeyCard

/-- THE TIED CARD OF 'laws.FnExactIndexKey'. -/
def fnExactIndexKeyCard : Claim7 := { stood := { row := fnExactIndexKeyRow, standIns := [], harness := (true, "06d9d1f40066c2818c1f1a6b79533056287e4ccdc14ba9f9d2a1759b05f29c92"), looks := true }, kinds := [], alts := [], laidByText := true, laidKinds := [.handle], laidTests := true, laidLooks := .later }
def FnExactIndexKeyCardSaid : Prop := Claim7.holds Tryz.pinned (.plain (OpenSpec.ofChange fnExactIndexKeySpec)) fnExactIndexKeyCard

/-- THE TIED CARD OF 'laws.FnExactTableText'. -/
def fnExactTableTextCard : Claim7 := { stood := { row := fnExactTableTextRow, standIns := [], harness := (true, "06d9d1f40066c2818c1f1a6b79533056287e4ccdc14ba9f9d2a1759b05f29c92"), looks := true }, kinds := [], alts := [], laidByText := true, laidKinds := [.data, .data, .data, .data], laidTests := true, laidLooks := .later }
def FnExactTableTextCardSaid : Prop := Claim7.holds Tryz.pinned (.plain (OpenSpec.ofChange fnExactTableTextSpec)) fnExactTableTextCard

/-- THE TIED CARD OF 'laws.FnExactWidenRow'. -/
def fnExactWidenRowCard : Claim7 := { stood := { row := fnExactWidenRowRow, standIns := [], harness := (true, "06d9d1f40066c2818c1f1a6b79533056287e4ccdc14ba9f9d2a1759b05f29c92"), looks := true }, kinds := [], alts := [], laidByText := true, laidKinds := [.handle], laidTests := true, laidLooks := .later }
def FnExactWidenRowCardSaid : Prop := Claim7.holds Tryz.pinned (.plain (OpenSpec.ofChange fnExactWidenRowSpec)) fnExactWidenRowCard

/-- THE TIED CARD OF 'laws.FnExactPrintSql'. -/
def fnExactPrintSqlCard : Claim7 := { stood := { row := fnExactPrintSqlRow, standIns := [], harness := (true, "06d9d1f40066c2818c1f1a6b79533056287e4ccdc14ba9f9d2a1759b05f29c92"), looks := true }, kinds := [], alts := [], laidByText := true, laidKinds := [.data, .data, .data, .data, .pinned], laidTests := true, laidLooks := .later }
def FnExactPrintSqlCardSaid : Prop := Claim7.holds Tryz.pinned (.plain (OpenSpec.ofChange fnExactPrintSqlSpec)) fnExactPrintSqlCard

/-- THE TIED CARD OF 'laws.FnExactScopeOf'. -/
def fnExactScopeOfCard : Claim7 := { stood := { row := fnExactScopeOfRow, standIns := [], harness := (true, "06d9d1f40066c2818c1f1a6b79533056287e4ccdc14ba9f9d2a1759b05f29c92"), looks := true }, kinds := [], alts := [], laidByText := true, laidKinds := [.handle], laidTests := true, laidLooks := .later }
def FnExactScopeOfCardSaid : Prop := Claim7.holds Tryz.pinned (.plain (OpenSpec.ofChange fnExactScopeOfSpec)) fnExactScopeOfCard

/-- THE SECOND FORM's CARD OF 'laws.FnTables'. -/
def fnTablesUptoCard : Claim7 := { stood := { row := fnTablesUptoRow, standIns := [], harness := (true, "06d9d1f40066c2818c1f1a6b79533056287e4ccdc14ba9f9d2a1759b05f29c92"), looks := true }, kinds := [], alts := [], laidByText := true, laidKinds := [.data, .data, .data, .handle, .data], laidTests := true, laidLooks := .later }
def FnTablesUptoCardSaid : Prop := Claim7.holds Tryz.pinned (.plain (OpenSpec.upto fnTablesSpec)) fnTablesUptoCard

/-- THE SECOND FORM's CARD OF 'laws.FnCatalog'. -/
def fnCatalogUptoCard : Claim7 := { stood := { row := fnCatalogUptoRow, standIns := [], harness := (true, "06d9d1f40066c2818c1f1a6b79533056287e4ccdc14ba9f9d2a1759b05f29c92"), looks := true }, kinds := [], alts := [], laidByText := true, laidKinds := [.handle], laidTests := true, laidLooks := .later }
def FnCatalogUptoCardSaid : Prop := Claim7.holds Tryz.pinned (.plain (OpenSpec.upto fnCatalogSpec)) fnCatalogUptoCard

/-- THE SECOND FORM's CARD OF 'laws.FnFields'. -/
def fnFieldsUptoCard : Claim7 := { stood := { row := fnFieldsUptoRow, standIns := [], harness := (true, "06d9d1f40066c2818c1f1a6b79533056287e4ccdc14ba9f9d2a1759b05f29c92"), looks := true }, kinds := [], alts := [], laidByText := true, laidKinds := [.handle], laidTests := true, laidLooks := .later }
def FnFieldsUptoCardSaid : Prop := Claim7.holds Tryz.pinned (.plain (OpenSpec.upto fnFieldsSpec)) fnFieldsUptoCard

/-- THE SECOND FORM's CARD OF 'laws.FnExactCheckRow'. -/
def fnExactCheckRowUptoCard : Claim7 := { stood := { row := fnExactCheckRowUptoRow, standIns := [], harness := (true, "06d9d1f40066c2818c1f1a6b79533056287e4ccdc14ba9f9d2a1759b05f29c92"), looks := true }, kinds := [], alts := [], laidByText := true, laidKinds := [.handle], laidTests := true, laidLooks := .later }
def FnExactCheckRowUptoCardSaid : Prop := Claim7.holds Tryz.pinned (.plain (OpenSpec.upto fnExactCheckRowSpec)) fnExactCheckRowUptoCard

/-- THE SECOND FORM's CARD OF 'laws.FnExactRowKey'. -/
def fnExactRowKeyUptoCard : Claim7 := { stood := { row := fnExactRowKeyUptoRow, standIns := [], harness := (true, "06d9d1f40066c2818c1f1a6b79533056287e4ccdc14ba9f9d2a1759b05f29c92"), looks := true }, kinds := [], alts := [], laidByText := true, laidKinds := [.handle], laidTests := true, laidLooks := .later }
def FnExactRowKeyUptoCardSaid : Prop := Claim7.holds Tryz.pinned (.plain (OpenSpec.upto fnExactRowKeySpec)) fnExactRowKeyUptoCard

/-- THE SECOND FORM's CARD OF 'laws.FnExactIndexKey'. -/
def fnExactIndexKeyUptoCard : Claim7 := { stood := { row := fnExactIndexKeyUptoRow, standIns := [], harness := (true, "06d9d1f40066c2818c1f1a6b79533056287e4ccdc14ba9f9d2a1759b05f29c92"), looks := true }, kinds := [], alts := [], laidByText := true, laidKinds := [.handle], laidTests := true, laidLooks := .later }
def FnExactIndexKeyUptoCardSaid : Prop := Claim7.holds Tryz.pinned (.plain (OpenSpec.upto fnExactIndexKeySpec)) fnExactIndexKeyUptoCard

/-- THE SECOND FORM's CARD OF 'laws.FnExactTableText'. -/
def fnExactTableTextUptoCard : Claim7 := { stood := { row := fnExactTableTextUptoRow, standIns := [], harness := (true, "06d9d1f40066c2818c1f1a6b79533056287e4ccdc14ba9f9d2a1759b05f29c92"), looks := true }, kinds := [], alts := [], laidByText := true, laidKinds := [.data, .data, .data, .data], laidTests := true, laidLooks := .later }
def FnExactTableTextUptoCardSaid : Prop := Claim7.holds Tryz.pinned (.plain (OpenSpec.upto fnExactTableTextSpec)) fnExactTableTextUptoCard

/-- THE SECOND FORM's CARD OF 'laws.FnExactWidenRow'. -/
def fnExactWidenRowUptoCard : Claim7 := { stood := { row := fnExactWidenRowUptoRow, standIns := [], harness := (true, "06d9d1f40066c2818c1f1a6b79533056287e4ccdc14ba9f9d2a1759b05f29c92"), looks := true }, kinds := [], alts := [], laidByText := true, laidKinds := [.handle], laidTests := true, laidLooks := .later }
def FnExactWidenRowUptoCardSaid : Prop := Claim7.holds Tryz.pinned (.plain (OpenSpec.upto fnExactWidenRowSpec)) fnExactWidenRowUptoCard

/-- THE SECOND FORM's CARD OF 'laws.FnExactPrintSql'. -/
def fnExactPrintSqlUptoCard : Claim7 := { stood := { row := fnExactPrintSqlUptoRow, standIns := [], harness := (true, "06d9d1f40066c2818c1f1a6b79533056287e4ccdc14ba9f9d2a1759b05f29c92"), looks := true }, kinds := [], alts := [], laidByText := true, laidKinds := [.data, .data, .data, .data, .pinned], laidTests := true, laidLooks := .later }
def FnExactPrintSqlUptoCardSaid : Prop := Claim7.holds Tryz.pinned (.plain (OpenSpec.upto fnExactPrintSqlSpec)) fnExactPrintSqlUptoCard

/-- THE SECOND FORM's CARD OF 'laws.FnExactScopeOf'. -/
def fnExactScopeOfUptoCard : Claim7 := { stood := { row := fnExactScopeOfUptoRow, standIns := [], harness := (true, "06d9d1f40066c2818c1f1a6b79533056287e4ccdc14ba9f9d2a1759b05f29c92"), looks := true }, kinds := [], alts := [], laidByText := true, laidKinds := [.handle], laidTests := true, laidLooks := .later }
def FnExactScopeOfUptoCardSaid : Prop := Claim7.holds Tryz.pinned (.plain (OpenSpec.upto fnExactScopeOfSpec)) fnExactScopeOfUptoCard
end Rows
end Go.Proofs.YtffjnhhfplcloaaGreatDoor
