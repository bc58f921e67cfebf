/-
  DERIVED. GIVEN WITH THE SEED: THE CARDS: each row of YthmcimdnbapnhabDoorRows.lean that lists a variable, with what it lists TIED to the program's text (the seventh form; the later family's looks); each row that meets fmt, with fmt's text TOLD by the authors' own Lean function (tested against real Go, not proved from fmt's source: count such statements apart). THE CARD IS WHAT COUNTS. Prove the row's statement (the work); the ties are given (YthmcimdnbapnhabDoorTie.lean); close each card by the builder's one call (the guide's Derived/Test/ToyasCard.lean, 'card_holds'). Laid BY PROGRAM, IN A SANDBOX (cutbox-door.mjs). By AI agents, Wed Nov 11 2026. No macro, syntax, notation, axiom, sorry.
-/
import Derived.Test.YthmcimdnbapnhabDoorRows
import GoSem.ClaimSeven
namespace Go.Proofs.YthmcimdnbapnhabDoor
namespace Rows

/-- THE TIED CARD OF 'laws.FnExactFamilyText'. -/
def fnExactFamilyTextCard : Claim7 := { stood := { row := fnExactFamilyTextRow, standIns := [], harness := (true, "d2009287d96bcae969ce7840900762058c764821ab2e15618a2a3a2b13b8042a"), looks := true }, kinds := [], alts := [], laidByText := true, laidKinds := [.data, .data, .data], laidTests := true, laidLooks := .later }
def FnExactFamilyTextCardSaid : Prop := Claim7.holds Tryd.pinned (.plain (OpenSpec.ofChange fnExactFamilyTextSpec)) fnExactFamilyTextCard

/-- THE TIED CARD OF 'laws.FnExactParseFamily'. -/
def fnExactParseFamilyCard : Claim7 := { stood := { row := fnExactParseFamilyRow, standIns := [], harness := (true, "d2009287d96bcae969ce7840900762058c764821ab2e15618a2a3a2b13b8042a"), looks := true }, kinds := [], alts := [], laidByText := true, laidKinds := [.data, .data, .data, .data, .sentinel, .sentinel, .pinned], laidTests := true, laidLooks := .later }
def FnExactParseFamilyCardSaid : Prop := Claim7.holds Tryd.pinned (.plain (OpenSpec.ofChange fnExactParseFamilySpec)) fnExactParseFamilyCard

/-- THE SECOND FORM's CARD OF 'laws.FnExactFamilyText'. -/
def fnExactFamilyTextUptoCard : Claim7 := { stood := { row := fnExactFamilyTextUptoRow, standIns := [], harness := (true, "d2009287d96bcae969ce7840900762058c764821ab2e15618a2a3a2b13b8042a"), looks := true }, kinds := [], alts := [], laidByText := true, laidKinds := [.data, .data, .data], laidTests := true, laidLooks := .later }
def FnExactFamilyTextUptoCardSaid : Prop := Claim7.holds Tryd.pinned (.plain (OpenSpec.upto fnExactFamilyTextSpec)) fnExactFamilyTextUptoCard

/-- THE SECOND FORM's CARD OF 'laws.FnExactParseFamily'. -/
def fnExactParseFamilyUptoCard : Claim7 := { stood := { row := fnExactParseFamilyUptoRow, standIns := [], harness := (true, "d2009287d96bcae969ce7840900762058c764821ab2e15618a2a3a2b13b8042a"), looks := true }, kinds := [], alts := [], laidByText := true, laidKinds := [.data, .data, .data, .data, .sentinel, .sentinel, .pinned], laidTests := true, laidLooks := .later }
def FnExactParseFamilyUptoCardSaid : Prop := Claim7.holds Tryd.pinned (.plain (OpenSpec.upto fnExactParseFamilySpec)) fnExactParseFamilyUptoCard
end Rows
end Go.Proofs.YthmcimdnbapnhabDoor
