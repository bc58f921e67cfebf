/-
  DERIVED. GIVEN WITH THE SEED: THE CARDS: each row of YtbhceokapbnhhaaDoorRows.lean that lists a variable, with what it lists TIED to the program's text (the seventh form; the later family's looks); each row that meets fmt, with fmt's text TOLD by the authors' own Lean function (tested against real Go, not proved from fmt's source: count such statements apart). THE CARD IS WHAT COUNTS. Prove the row's statement (the work); the ties are given (YtbhceokapbnhhaaDoorTie.lean); close each card by the builder's one call (the guide's Derived/Test/ToyasCard.lean, 'card_holds'). Laid BY PROGRAM, IN A SANDBOX (cutbox-door.mjs). By AI agents, Wed Nov 11 2026. No macro, syntax, notation, axiom, sorry.
-/
import Derived.Test.YtbhceokapbnhhaaDoorRows
import GoSem.ClaimSeven
namespace Go.Proofs.YtbhceokapbnhhaaDoor
namespace Rows

/-- THE TIED CARD OF 'laws.FnExactBirthsText'. -/
def fnExactBirthsTextCard : Claim7 := { stood := { row := fnExactBirthsTextRow, standIns := [], harness := (true, "462d674d847e31bc0f353a4c5e83e1adb4e8305521eac30f010f5b2a6ad29f40"), looks := true }, kinds := [], alts := [], laidByText := true, laidKinds := [.data, .data, .data], laidTests := true, laidLooks := .later }
def FnExactBirthsTextCardSaid : Prop := Claim7.holds Tryd.pinned (.plain (OpenSpec.ofChange fnExactBirthsTextSpec)) fnExactBirthsTextCard

/-- THE TIED CARD OF 'laws.FnExactParseBirths'. -/
def fnExactParseBirthsCard : Claim7 := { stood := { row := fnExactParseBirthsRow, standIns := [], harness := (true, "462d674d847e31bc0f353a4c5e83e1adb4e8305521eac30f010f5b2a6ad29f40"), looks := true }, kinds := [], alts := [], laidByText := true, laidKinds := [.data, .data, .data, .data, .sentinel, .sentinel, .pinned], laidTests := true, laidLooks := .later }
def FnExactParseBirthsCardSaid : Prop := Claim7.holds Tryd.pinned (.plain (OpenSpec.ofChange fnExactParseBirthsSpec)) fnExactParseBirthsCard

/-- THE SECOND FORM's CARD OF 'laws.FnExactBirthsText'. -/
def fnExactBirthsTextUptoCard : Claim7 := { stood := { row := fnExactBirthsTextUptoRow, standIns := [], harness := (true, "462d674d847e31bc0f353a4c5e83e1adb4e8305521eac30f010f5b2a6ad29f40"), looks := true }, kinds := [], alts := [], laidByText := true, laidKinds := [.data, .data, .data], laidTests := true, laidLooks := .later }
def FnExactBirthsTextUptoCardSaid : Prop := Claim7.holds Tryd.pinned (.plain (OpenSpec.upto fnExactBirthsTextSpec)) fnExactBirthsTextUptoCard

/-- THE SECOND FORM's CARD OF 'laws.FnExactParseBirths'. -/
def fnExactParseBirthsUptoCard : Claim7 := { stood := { row := fnExactParseBirthsUptoRow, standIns := [], harness := (true, "462d674d847e31bc0f353a4c5e83e1adb4e8305521eac30f010f5b2a6ad29f40"), looks := true }, kinds := [], alts := [], laidByText := true, laidKinds := [.data, .data, .data, .data, .sentinel, .sentinel, .pinned], laidTests := true, laidLooks := .later }
def FnExactParseBirthsUptoCardSaid : Prop := Claim7.holds Tryd.pinned (.plain (OpenSpec.upto fnExactParseBirthsSpec)) fnExactParseBirthsUptoCard
end Rows
end Go.Proofs.YtbhceokapbnhhaaDoor
