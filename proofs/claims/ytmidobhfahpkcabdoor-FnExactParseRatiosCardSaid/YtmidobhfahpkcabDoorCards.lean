/-
  DERIVED. GIVEN WITH THE SEED: THE CARDS: each row of YtmidobhfahpkcabDoorRows.lean that lists a variable, with what it lists TIED to the program's text (the seventh form; the later family's looks); each row that meets fmt, with fmt's text TOLD by the authors' own Lean function (tested against real Go, not proved from fmt's source: count such statements apart). THE CARD IS WHAT COUNTS. Prove the row's statement (the work); the ties are given (YtmidobhfahpkcabDoorTie.lean); close each card by the builder's one call (the guide's Derived/Test/ToyasCard.lean, 'card_holds'). Laid BY PROGRAM, IN A SANDBOX (cutbox-door.mjs). By AI agents, Wed Nov 11 2026. No macro, syntax, notation, axiom, sorry.
-/
import Derived.Test.YtmidobhfahpkcabDoorRows
import GoSem.ClaimSeven
namespace Go.Proofs.YtmidobhfahpkcabDoor
namespace Rows

/-- THE TIED CARD OF 'laws.FnExactRatiosText'. -/
def fnExactRatiosTextCard : Claim7 := { stood := { row := fnExactRatiosTextRow, standIns := [], harness := (true, "1bd1c3f400939dd281b0d20f464bebf142124a8eb17d42b94b198a4f5dfa4635"), looks := true }, kinds := [], alts := [], laidByText := true, laidKinds := [.data, .data, .data], laidTests := true, laidLooks := .later }
def FnExactRatiosTextCardSaid : Prop := Claim7.holds Tryd.pinned (.plain (OpenSpec.ofChange fnExactRatiosTextSpec)) fnExactRatiosTextCard

/-- THE TIED CARD OF 'laws.FnExactParseRatios'. -/
def fnExactParseRatiosCard : Claim7 := { stood := { row := fnExactParseRatiosRow, standIns := [], harness := (true, "1bd1c3f400939dd281b0d20f464bebf142124a8eb17d42b94b198a4f5dfa4635"), looks := true }, kinds := [], alts := [], laidByText := true, laidKinds := [.data, .data, .data, .data, .sentinel, .sentinel, .pinned], laidTests := true, laidLooks := .later }
def FnExactParseRatiosCardSaid : Prop := Claim7.holds Tryd.pinned (.plain (OpenSpec.ofChange fnExactParseRatiosSpec)) fnExactParseRatiosCard

/-- THE SECOND FORM's CARD OF 'laws.FnExactRatiosText'. -/
def fnExactRatiosTextUptoCard : Claim7 := { stood := { row := fnExactRatiosTextUptoRow, standIns := [], harness := (true, "1bd1c3f400939dd281b0d20f464bebf142124a8eb17d42b94b198a4f5dfa4635"), looks := true }, kinds := [], alts := [], laidByText := true, laidKinds := [.data, .data, .data], laidTests := true, laidLooks := .later }
def FnExactRatiosTextUptoCardSaid : Prop := Claim7.holds Tryd.pinned (.plain (OpenSpec.upto fnExactRatiosTextSpec)) fnExactRatiosTextUptoCard

/-- THE SECOND FORM's CARD OF 'laws.FnExactParseRatios'. -/
def fnExactParseRatiosUptoCard : Claim7 := { stood := { row := fnExactParseRatiosUptoRow, standIns := [], harness := (true, "1bd1c3f400939dd281b0d20f464bebf142124a8eb17d42b94b198a4f5dfa4635"), looks := true }, kinds := [], alts := [], laidByText := true, laidKinds := [.data, .data, .data, .data, .sentinel, .sentinel, .pinned], laidTests := true, laidLooks := .later }
def FnExactParseRatiosUptoCardSaid : Prop := Claim7.holds Tryd.pinned (.plain (OpenSpec.upto fnExactParseRatiosSpec)) fnExactParseRatiosUptoCard
end Rows
end Go.Proofs.YtmidobhfahpkcabDoor
