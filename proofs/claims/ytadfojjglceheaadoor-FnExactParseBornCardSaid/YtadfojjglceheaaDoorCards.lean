/-
  DERIVED. GIVEN WITH THE SEED: THE CARDS: each row of YtadfojjglceheaaDoorRows.lean that lists a variable, with what it lists TIED to the program's text (the seventh form; the later family's looks); each row that meets fmt, with fmt's text TOLD by the authors' own Lean function (tested against real Go, not proved from fmt's source: count such statements apart). THE CARD IS WHAT COUNTS. Prove the row's statement (the work); the ties are given (YtadfojjglceheaaDoorTie.lean); close each card by the builder's one call (the guide's Derived/Test/ToyasCard.lean, 'card_holds'). Laid BY PROGRAM, IN A SANDBOX (cutbox-door.mjs). By AI agents, Wed Nov 11 2026. No macro, syntax, notation, axiom, sorry.
-/
import Derived.Test.YtadfojjglceheaaDoorRows
import GoSem.ClaimSeven
namespace Go.Proofs.YtadfojjglceheaaDoor
namespace Rows

/-- THE TIED CARD OF 'laws.FnExactBornText'. -/
def fnExactBornTextCard : Claim7 := { stood := { row := fnExactBornTextRow, standIns := [], harness := (true, "71f4ca860b97f265ad03b846e2c89749c1b2f0362fff68c053a0cf7c73d7ee2e"), looks := false }, kinds := [], alts := [], laidByText := true, laidKinds := [.data, .data, .data], laidTests := true, laidLooks := .later }
def FnExactBornTextCardSaid : Prop := Claim7.holds Tryd.pinned (.plain (OpenSpec.ofChange fnExactBornTextSpec)) fnExactBornTextCard

/-- THE TIED CARD OF 'laws.FnExactParseBorn'. -/
def fnExactParseBornCard : Claim7 := { stood := { row := fnExactParseBornRow, standIns := [], harness := (true, "71f4ca860b97f265ad03b846e2c89749c1b2f0362fff68c053a0cf7c73d7ee2e"), looks := false }, kinds := [], alts := [], laidByText := true, laidKinds := [.data, .data, .data], laidTests := true, laidLooks := .later }
def FnExactParseBornCardSaid : Prop := Claim7.holds Tryd.pinned (.plain (OpenSpec.ofChange fnExactParseBornSpec)) fnExactParseBornCard

/-- THE SECOND FORM's CARD OF 'laws.FnExactBornText'. -/
def fnExactBornTextUptoCard : Claim7 := { stood := { row := fnExactBornTextUptoRow, standIns := [], harness := (true, "71f4ca860b97f265ad03b846e2c89749c1b2f0362fff68c053a0cf7c73d7ee2e"), looks := false }, kinds := [], alts := [], laidByText := true, laidKinds := [.data, .data, .data], laidTests := true, laidLooks := .later }
def FnExactBornTextUptoCardSaid : Prop := Claim7.holds Tryd.pinned (.plain (OpenSpec.upto fnExactBornTextSpec)) fnExactBornTextUptoCard

/-- THE SECOND FORM's CARD OF 'laws.FnExactParseBorn'. -/
def fnExactParseBornUptoCard : Claim7 := { stood := { row := fnExactParseBornUptoRow, standIns := [], harness := (true, "71f4ca860b97f265ad03b846e2c89749c1b2f0362fff68c053a0cf7c73d7ee2e"), looks := false }, kinds := [], alts := [], laidByText := true, laidKinds := [.data, .data, .data], laidTests := true, laidLooks := .later }
def FnExactParseBornUptoCardSaid : Prop := Claim7.holds Tryd.pinned (.plain (OpenSpec.upto fnExactParseBornSpec)) fnExactParseBornUptoCard
end Rows
end Go.Proofs.YtadfojjglceheaaDoor
