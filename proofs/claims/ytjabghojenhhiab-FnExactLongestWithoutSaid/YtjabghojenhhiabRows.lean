/-
  No cell of these rows narrows 'for every input' (looked for: loops, veiled, ifaces, maps, wideKeys, modest, calm, conditions, laid).
  DERIVED. THE GIVEN ROWS OF THIS SEAT. 12 by the template 'for every input the law returns true; each argument reads behind the call as it read before'; 0 by the template 'total and deterministic' (their statements: YtjabghojenhhiabTotals.lean).
  GIVEN WITH THE SEED: the statements are not yours to turn. If you find one false, say at which input.
  Laid BY PROGRAM, IN A SANDBOX (cutbox-rows.mjs): the forced cells as the released guide's own fill.sh prints them over the translation 2a293c095167b238… (all of the seat's roots in one cut). By AI agents, Wed Nov 11 2026. No macro, syntax, notation, axiom, sorry.
-/
import Derived.Test.YtjabghojenhhiabChecked
import GoSem.Claim
import GoSem.ClaimJoined
import GoSem.ClaimMapViews
import Derived.JoinedTies
import Derived.KernelRfl
namespace Go.Proofs.Ytjabghojenhhiab
/- THE CELL 'sum', in the pinned program and in every row, IS THE sha256 OF THE DUMP (.gsa) THAT YtjabghojenhhiabProg.lean LOADS. Nothing in Lean hashes anything: it is a label: what it is worth is what the hold of that sum in a sandbox is worth. -/
noncomputable def Try.pinned : Pinned := { name := "ytjabghojenhhiab", sum := "2a293c095167b238cd113bc697c4fc144b085de716ab267485dbc17ccf595358", checked := Try.checked }
namespace Rows
def none {H : Type} : Left H := { results := [], args := [] }

/-- 'laws.FnExactIsKind': WHATEVER THE INPUT: true; the input reads as it did. -/
def fnExactIsKindSpec : ChangeSpec := { name := "fnExactIsKind", fn := fun _ => fun
  | [d1, d2] => { results := [.lit (.bool true)], args := [d1, d2] }
  | _ => none }
def fnExactIsKindRow : OpenClaim := { program := "ytjabghojenhhiab", sum := "2a293c095167b238cd113bc697c4fc144b085de716ab267485dbc17ccf595358", func := "loop.example/g01369/laws.FnExactIsKind", spec := "fnExactIsKind", unfollowed := true, recurses := true, apart := false }
def FnExactIsKindSaid : Prop := fnExactIsKindRow.holds Try.pinned (OpenSpec.ofChange fnExactIsKindSpec)

/-- ITS FALSE NEIGHBOUR: 'it returns false'. Refute it at one input. -/
def fnExactIsKindWrong : ChangeSpec := { name := "fnExactIsKind", fn := fun _ => fun
  | [d1, d2] => { results := [.lit (.bool false)], args := [d1, d2] }
  | _ => none }
def FnExactIsKindWrongFalsely : Prop := fnExactIsKindRow.holds Try.pinned (OpenSpec.ofChange fnExactIsKindWrong)

/-- 'laws.FnExactAgesOfKind': WHATEVER THE INPUT: true; the input reads as it did. -/
def fnExactAgesOfKindSpec : ChangeSpec := { name := "fnExactAgesOfKind", fn := fun _ => fun
  | [d] => { results := [.lit (.bool true)], args := [d] }
  | _ => none }
def fnExactAgesOfKindRow : OpenClaim := { program := "ytjabghojenhhiab", sum := "2a293c095167b238cd113bc697c4fc144b085de716ab267485dbc17ccf595358", func := "loop.example/g01369/laws.FnExactAgesOfKind", spec := "fnExactAgesOfKind", unfollowed := true, recurses := true, apart := false }
def FnExactAgesOfKindSaid : Prop := fnExactAgesOfKindRow.holds Try.pinned (OpenSpec.ofChange fnExactAgesOfKindSpec)

/-- ITS FALSE NEIGHBOUR: 'it returns false'. Refute it at one input. -/
def fnExactAgesOfKindWrong : ChangeSpec := { name := "fnExactAgesOfKind", fn := fun _ => fun
  | [d] => { results := [.lit (.bool false)], args := [d] }
  | _ => none }
def FnExactAgesOfKindWrongFalsely : Prop := fnExactAgesOfKindRow.holds Try.pinned (OpenSpec.ofChange fnExactAgesOfKindWrong)

/-- 'laws.FnExactNextOfKind': WHATEVER THE INPUT: true; the input reads as it did. -/
def fnExactNextOfKindSpec : ChangeSpec := { name := "fnExactNextOfKind", fn := fun _ => fun
  | [d1, d2] => { results := [.lit (.bool true)], args := [d1, d2] }
  | _ => none }
def fnExactNextOfKindRow : OpenClaim := { program := "ytjabghojenhhiab", sum := "2a293c095167b238cd113bc697c4fc144b085de716ab267485dbc17ccf595358", func := "loop.example/g01369/laws.FnExactNextOfKind", spec := "fnExactNextOfKind", unfollowed := true, recurses := true, apart := false }
def FnExactNextOfKindSaid : Prop := fnExactNextOfKindRow.holds Try.pinned (OpenSpec.ofChange fnExactNextOfKindSpec)

/-- ITS FALSE NEIGHBOUR: 'it returns false'. Refute it at one input. -/
def fnExactNextOfKindWrong : ChangeSpec := { name := "fnExactNextOfKind", fn := fun _ => fun
  | [d1, d2] => { results := [.lit (.bool false)], args := [d1, d2] }
  | _ => none }
def FnExactNextOfKindWrongFalsely : Prop := fnExactNextOfKindRow.holds Try.pinned (OpenSpec.ofChange fnExactNextOfKindWrong)

/-- 'laws.FnExactLongestWithout': WHATEVER THE INPUT: true; the input reads as it did. -/
def fnExactLongestWithoutSpec : ChangeSpec := { name := "fnExactLongestWithout", fn := fun _ => fun
  | [d] => { results := [.lit (.bool true)], args := [d] }
  | _ => none }
def fnExactLongestWithoutRow : OpenClaim := { program := "ytjabghojenhhiab", sum := "2a293c095167b238cd113bc697c4fc144b085de716ab267485dbc17ccf595358", func := "loop.example/g01369/laws.FnExactLongestWithout", spec := "fnExactLongestWithout", unfollowed := true, recurses := true, apart := false }
def FnExactLongestWithoutSaid : Prop := fnExactLongestWithoutRow.holds Try.pinned (OpenSpec.ofChange fnExactLongestWithoutSpec)

/-- ITS FALSE NEIGHBOUR: 'it returns false'. Refute it at one input. -/
def fnExactLongestWithoutWrong : ChangeSpec := { name := "fnExactLongestWithout", fn := fun _ => fun
  | [d] => { results := [.lit (.bool false)], args := [d] }
  | _ => none }
def FnExactLongestWithoutWrongFalsely : Prop := fnExactLongestWithoutRow.holds Try.pinned (OpenSpec.ofChange fnExactLongestWithoutWrong)

/-- 'laws.FnExactTurnedAge': WHATEVER THE INPUT: true; the input reads as it did. -/
def fnExactTurnedAgeSpec : ChangeSpec := { name := "fnExactTurnedAge", fn := fun _ => fun
  | [d] => { results := [.lit (.bool true)], args := [d] }
  | _ => none }
def fnExactTurnedAgeRow : OpenClaim := { program := "ytjabghojenhhiab", sum := "2a293c095167b238cd113bc697c4fc144b085de716ab267485dbc17ccf595358", func := "loop.example/g01369/laws.FnExactTurnedAge", spec := "fnExactTurnedAge", apart := false }
def FnExactTurnedAgeSaid : Prop := fnExactTurnedAgeRow.holds Try.pinned (OpenSpec.ofChange fnExactTurnedAgeSpec)

/-- ITS FALSE NEIGHBOUR: 'it returns false'. Refute it at one input. -/
def fnExactTurnedAgeWrong : ChangeSpec := { name := "fnExactTurnedAge", fn := fun _ => fun
  | [d] => { results := [.lit (.bool false)], args := [d] }
  | _ => none }
def FnExactTurnedAgeWrongFalsely : Prop := fnExactTurnedAgeRow.holds Try.pinned (OpenSpec.ofChange fnExactTurnedAgeWrong)

/-- 'laws.FnExactTurnedBetween': WHATEVER THE INPUT: true; the input reads as it did. -/
def fnExactTurnedBetweenSpec : ChangeSpec := { name := "fnExactTurnedBetween", fn := fun _ => fun
  | [d] => { results := [.lit (.bool true)], args := [d] }
  | _ => none }
def fnExactTurnedBetweenRow : OpenClaim := { program := "ytjabghojenhhiab", sum := "2a293c095167b238cd113bc697c4fc144b085de716ab267485dbc17ccf595358", func := "loop.example/g01369/laws.FnExactTurnedBetween", spec := "fnExactTurnedBetween", apart := false }
def FnExactTurnedBetweenSaid : Prop := fnExactTurnedBetweenRow.holds Try.pinned (OpenSpec.ofChange fnExactTurnedBetweenSpec)

/-- ITS FALSE NEIGHBOUR: 'it returns false'. Refute it at one input. -/
def fnExactTurnedBetweenWrong : ChangeSpec := { name := "fnExactTurnedBetween", fn := fun _ => fun
  | [d] => { results := [.lit (.bool false)], args := [d] }
  | _ => none }
def FnExactTurnedBetweenWrongFalsely : Prop := fnExactTurnedBetweenRow.holds Try.pinned (OpenSpec.ofChange fnExactTurnedBetweenWrong)

/-- 'laws.FnExactDigitSumOf': WHATEVER THE INPUT: true; the input reads as it did. -/
def fnExactDigitSumOfSpec : ChangeSpec := { name := "fnExactDigitSumOf", fn := fun _ => fun
  | [d] => { results := [.lit (.bool true)], args := [d] }
  | _ => none }
def fnExactDigitSumOfRow : OpenClaim := { program := "ytjabghojenhhiab", sum := "2a293c095167b238cd113bc697c4fc144b085de716ab267485dbc17ccf595358", func := "loop.example/g01369/laws.FnExactDigitSumOf", spec := "fnExactDigitSumOf", apart := false }
def FnExactDigitSumOfSaid : Prop := fnExactDigitSumOfRow.holds Try.pinned (OpenSpec.ofChange fnExactDigitSumOfSpec)

/-- ITS FALSE NEIGHBOUR: 'it returns false'. Refute it at one input. -/
def fnExactDigitSumOfWrong : ChangeSpec := { name := "fnExactDigitSumOf", fn := fun _ => fun
  | [d] => { results := [.lit (.bool false)], args := [d] }
  | _ => none }
def FnExactDigitSumOfWrongFalsely : Prop := fnExactDigitSumOfRow.holds Try.pinned (OpenSpec.ofChange fnExactDigitSumOfWrong)

/-- 'laws.FnExactSquareYearOf': WHATEVER THE INPUT: true; the input reads as it did. -/
def fnExactSquareYearOfSpec : ChangeSpec := { name := "fnExactSquareYearOf", fn := fun _ => fun
  | [d] => { results := [.lit (.bool true)], args := [d] }
  | _ => none }
def fnExactSquareYearOfRow : OpenClaim := { program := "ytjabghojenhhiab", sum := "2a293c095167b238cd113bc697c4fc144b085de716ab267485dbc17ccf595358", func := "loop.example/g01369/laws.FnExactSquareYearOf", spec := "fnExactSquareYearOf", apart := false }
def FnExactSquareYearOfSaid : Prop := fnExactSquareYearOfRow.holds Try.pinned (OpenSpec.ofChange fnExactSquareYearOfSpec)

/-- ITS FALSE NEIGHBOUR: 'it returns false'. Refute it at one input. -/
def fnExactSquareYearOfWrong : ChangeSpec := { name := "fnExactSquareYearOf", fn := fun _ => fun
  | [d] => { results := [.lit (.bool false)], args := [d] }
  | _ => none }
def FnExactSquareYearOfWrongFalsely : Prop := fnExactSquareYearOfRow.holds Try.pinned (OpenSpec.ofChange fnExactSquareYearOfWrong)

/-- 'laws.FnExactSquareBirths': WHATEVER THE INPUT: true; the input reads as it did. -/
def fnExactSquareBirthsSpec : ChangeSpec := { name := "fnExactSquareBirths", fn := fun _ => fun
  | [d1, d2] => { results := [.lit (.bool true)], args := [d1, d2] }
  | _ => none }
def fnExactSquareBirthsRow : OpenClaim := { program := "ytjabghojenhhiab", sum := "2a293c095167b238cd113bc697c4fc144b085de716ab267485dbc17ccf595358", func := "loop.example/g01369/laws.FnExactSquareBirths", spec := "fnExactSquareBirths", apart := false }
def FnExactSquareBirthsSaid : Prop := fnExactSquareBirthsRow.holds Try.pinned (OpenSpec.ofChange fnExactSquareBirthsSpec)

/-- ITS FALSE NEIGHBOUR: 'it returns false'. Refute it at one input. -/
def fnExactSquareBirthsWrong : ChangeSpec := { name := "fnExactSquareBirths", fn := fun _ => fun
  | [d1, d2] => { results := [.lit (.bool false)], args := [d1, d2] }
  | _ => none }
def FnExactSquareBirthsWrongFalsely : Prop := fnExactSquareBirthsRow.holds Try.pinned (OpenSpec.ofChange fnExactSquareBirthsWrong)

/-- 'laws.FnExactDigitYears': WHATEVER THE INPUT: true; the input reads as it did. -/
def fnExactDigitYearsSpec : ChangeSpec := { name := "fnExactDigitYears", fn := fun _ => fun
  | [d] => { results := [.lit (.bool true)], args := [d] }
  | _ => none }
def fnExactDigitYearsRow : OpenClaim := { program := "ytjabghojenhhiab", sum := "2a293c095167b238cd113bc697c4fc144b085de716ab267485dbc17ccf595358", func := "loop.example/g01369/laws.FnExactDigitYears", spec := "fnExactDigitYears", apart := false }
def FnExactDigitYearsSaid : Prop := fnExactDigitYearsRow.holds Try.pinned (OpenSpec.ofChange fnExactDigitYearsSpec)

/-- ITS FALSE NEIGHBOUR: 'it returns false'. Refute it at one input. -/
def fnExactDigitYearsWrong : ChangeSpec := { name := "fnExactDigitYears", fn := fun _ => fun
  | [d] => { results := [.lit (.bool false)], args := [d] }
  | _ => none }
def FnExactDigitYearsWrongFalsely : Prop := fnExactDigitYearsRow.holds Try.pinned (OpenSpec.ofChange fnExactDigitYearsWrong)

/-- 'laws.FnExactLastDigitsYear': WHATEVER THE INPUT: true; the input reads as it did. -/
def fnExactLastDigitsYearSpec : ChangeSpec := { name := "fnExactLastDigitsYear", fn := fun _ => fun
  | [d] => { results := [.lit (.bool true)], args := [d] }
  | _ => none }
def fnExactLastDigitsYearRow : OpenClaim := { program := "ytjabghojenhhiab", sum := "2a293c095167b238cd113bc697c4fc144b085de716ab267485dbc17ccf595358", func := "loop.example/g01369/laws.FnExactLastDigitsYear", spec := "fnExactLastDigitsYear", apart := false }
def FnExactLastDigitsYearSaid : Prop := fnExactLastDigitsYearRow.holds Try.pinned (OpenSpec.ofChange fnExactLastDigitsYearSpec)

/-- ITS FALSE NEIGHBOUR: 'it returns false'. Refute it at one input. -/
def fnExactLastDigitsYearWrong : ChangeSpec := { name := "fnExactLastDigitsYear", fn := fun _ => fun
  | [d] => { results := [.lit (.bool false)], args := [d] }
  | _ => none }
def FnExactLastDigitsYearWrongFalsely : Prop := fnExactLastDigitsYearRow.holds Try.pinned (OpenSpec.ofChange fnExactLastDigitsYearWrong)

/-- 'laws.FnExactDividesYears': WHATEVER THE INPUT: true; the input reads as it did. -/
def fnExactDividesYearsSpec : ChangeSpec := { name := "fnExactDividesYears", fn := fun _ => fun
  | [d1, d2, d3] => { results := [.lit (.bool true)], args := [d1, d2, d3] }
  | _ => none }
def fnExactDividesYearsRow : OpenClaim := { program := "ytjabghojenhhiab", sum := "2a293c095167b238cd113bc697c4fc144b085de716ab267485dbc17ccf595358", func := "loop.example/g01369/laws.FnExactDividesYears", spec := "fnExactDividesYears", apart := false }
def FnExactDividesYearsSaid : Prop := fnExactDividesYearsRow.holds Try.pinned (OpenSpec.ofChange fnExactDividesYearsSpec)

/-- ITS FALSE NEIGHBOUR: 'it returns false'. Refute it at one input. -/
def fnExactDividesYearsWrong : ChangeSpec := { name := "fnExactDividesYears", fn := fun _ => fun
  | [d1, d2, d3] => { results := [.lit (.bool false)], args := [d1, d2, d3] }
  | _ => none }
def FnExactDividesYearsWrongFalsely : Prop := fnExactDividesYearsRow.holds Try.pinned (OpenSpec.ofChange fnExactDividesYearsWrong)

/- THE SECOND FORM. 'bulk': how many values and letters a reading holds, each counted each time it is reached (what is shared counts as often as it is met; a slice's spare places count too). A statement '..UptoSaid' is the law's where the arguments, and the package variables that the reading takes, are together of bulk at most 1048576: NARROWER than '..Said'. Prove '..Said' where nothing that the law and all that it calls make is longer than what came in: it says more and counts as full. Else prove '..UptoSaid'. A law counts once. -/
mutual
def uptoBulk {H : Type} : DataW H → Nat
  | .lit (.string bytes) => bytes.length + 1
  | .lit _ => 1
  | .nil => 1
  | .ptr d => uptoBulk d + 1
  | .slice elems spare => uptoBulkAll elems + uptoBulkAll spare + 1
  | .agg parts => uptoBulkAll parts + 1
  | .iface _ d => uptoBulk d + 1
  | .map entries => uptoBulkEntries entries + 1
  | .held _ => 1
def uptoBulkAll {H : Type} : List (DataW H) → Nat
  | [] => 0
  | d :: r => uptoBulk d + uptoBulkAll r
def uptoBulkEntries {H : Type} : List (Lit × DataW H) → Nat
  | [] => 0
  | x :: r => uptoBulkEntry x + uptoBulkEntries r
def uptoBulkEntry {H : Type} : Lit × DataW H → Nat
  | (.string bytes, d) => bytes.length + uptoBulk d + 1
  | (_, d) => uptoBulk d + 1
 end
def uptoSmall : (H : Type) → List (DataW H) → Bool := fun _ ds => decide (uptoBulkAll ds ≤ 1048576)
def OpenSpec.upto (s : _root_.Go.ChangeSpec) : _root_.Go.OpenSpec := { _root_.Go.OpenSpec.ofChange s with cond := some uptoSmall }

/-- 'laws.FnExactIsKind', WHERE WHAT IT READS IS OF BULK AT MOST 1048576: true; the input reads as it did. -/
def fnExactIsKindUptoRow : OpenClaim := { program := "ytjabghojenhhiab", sum := "2a293c095167b238cd113bc697c4fc144b085de716ab267485dbc17ccf595358", func := "loop.example/g01369/laws.FnExactIsKind", spec := "fnExactIsKind", unfollowed := true, recurses := true, apart := false, narrowed := true }
def FnExactIsKindUptoSaid : Prop := fnExactIsKindUptoRow.holds Try.pinned (OpenSpec.upto fnExactIsKindSpec)

/-- 'laws.FnExactAgesOfKind', WHERE WHAT IT READS IS OF BULK AT MOST 1048576: true; the input reads as it did. -/
def fnExactAgesOfKindUptoRow : OpenClaim := { program := "ytjabghojenhhiab", sum := "2a293c095167b238cd113bc697c4fc144b085de716ab267485dbc17ccf595358", func := "loop.example/g01369/laws.FnExactAgesOfKind", spec := "fnExactAgesOfKind", unfollowed := true, recurses := true, apart := false, narrowed := true }
def FnExactAgesOfKindUptoSaid : Prop := fnExactAgesOfKindUptoRow.holds Try.pinned (OpenSpec.upto fnExactAgesOfKindSpec)

/-- 'laws.FnExactNextOfKind', WHERE WHAT IT READS IS OF BULK AT MOST 1048576: true; the input reads as it did. -/
def fnExactNextOfKindUptoRow : OpenClaim := { program := "ytjabghojenhhiab", sum := "2a293c095167b238cd113bc697c4fc144b085de716ab267485dbc17ccf595358", func := "loop.example/g01369/laws.FnExactNextOfKind", spec := "fnExactNextOfKind", unfollowed := true, recurses := true, apart := false, narrowed := true }
def FnExactNextOfKindUptoSaid : Prop := fnExactNextOfKindUptoRow.holds Try.pinned (OpenSpec.upto fnExactNextOfKindSpec)

/-- 'laws.FnExactLongestWithout', WHERE WHAT IT READS IS OF BULK AT MOST 1048576: true; the input reads as it did. -/
def fnExactLongestWithoutUptoRow : OpenClaim := { program := "ytjabghojenhhiab", sum := "2a293c095167b238cd113bc697c4fc144b085de716ab267485dbc17ccf595358", func := "loop.example/g01369/laws.FnExactLongestWithout", spec := "fnExactLongestWithout", unfollowed := true, recurses := true, apart := false, narrowed := true }
def FnExactLongestWithoutUptoSaid : Prop := fnExactLongestWithoutUptoRow.holds Try.pinned (OpenSpec.upto fnExactLongestWithoutSpec)

/-- 'laws.FnExactTurnedAge', WHERE WHAT IT READS IS OF BULK AT MOST 1048576: true; the input reads as it did. -/
def fnExactTurnedAgeUptoRow : OpenClaim := { program := "ytjabghojenhhiab", sum := "2a293c095167b238cd113bc697c4fc144b085de716ab267485dbc17ccf595358", func := "loop.example/g01369/laws.FnExactTurnedAge", spec := "fnExactTurnedAge", apart := false, narrowed := true }
def FnExactTurnedAgeUptoSaid : Prop := fnExactTurnedAgeUptoRow.holds Try.pinned (OpenSpec.upto fnExactTurnedAgeSpec)

/-- 'laws.FnExactTurnedBetween', WHERE WHAT IT READS IS OF BULK AT MOST 1048576: true; the input reads as it did. -/
def fnExactTurnedBetweenUptoRow : OpenClaim := { program := "ytjabghojenhhiab", sum := "2a293c095167b238cd113bc697c4fc144b085de716ab267485dbc17ccf595358", func := "loop.example/g01369/laws.FnExactTurnedBetween", spec := "fnExactTurnedBetween", apart := false, narrowed := true }
def FnExactTurnedBetweenUptoSaid : Prop := fnExactTurnedBetweenUptoRow.holds Try.pinned (OpenSpec.upto fnExactTurnedBetweenSpec)

/-- 'laws.FnExactDigitSumOf', WHERE WHAT IT READS IS OF BULK AT MOST 1048576: true; the input reads as it did. -/
def fnExactDigitSumOfUptoRow : OpenClaim := { program := "ytjabghojenhhiab", sum := "2a293c095167b238cd113bc697c4fc144b085de716ab267485dbc17ccf595358", func := "loop.example/g01369/laws.FnExactDigitSumOf", spec := "fnExactDigitSumOf", apart := false, narrowed := true }
def FnExactDigitSumOfUptoSaid : Prop := fnExactDigitSumOfUptoRow.holds Try.pinned (OpenSpec.upto fnExactDigitSumOfSpec)

/-- 'laws.FnExactSquareYearOf', WHERE WHAT IT READS IS OF BULK AT MOST 1048576: true; the input reads as it did. -/
def fnExactSquareYearOfUptoRow : OpenClaim := { program := "ytjabghojenhhiab", sum := "2a293c095167b238cd113bc697c4fc144b085de716ab267485dbc17ccf595358", func := "loop.example/g01369/laws.FnExactSquareYearOf", spec := "fnExactSquareYearOf", apart := false, narrowed := true }
def FnExactSquareYearOfUptoSaid : Prop := fnExactSquareYearOfUptoRow.holds Try.pinned (OpenSpec.upto fnExactSquareYearOfSpec)

/-- 'laws.FnExactSquareBirths', WHERE WHAT IT READS IS OF BULK AT MOST 1048576: true; the input reads as it did. -/
def fnExactSquareBirthsUptoRow : OpenClaim := { program := "ytjabghojenhhiab", sum := "2a293c095167b238cd113bc697c4fc144b085de716ab267485dbc17ccf595358", func := "loop.example/g01369/laws.FnExactSquareBirths", spec := "fnExactSquareBirths", apart := false, narrowed := true }
def FnExactSquareBirthsUptoSaid : Prop := fnExactSquareBirthsUptoRow.holds Try.pinned (OpenSpec.upto fnExactSquareBirthsSpec)

/-- 'laws.FnExactDigitYears', WHERE WHAT IT READS IS OF BULK AT MOST 1048576: true; the input reads as it did. -/
def fnExactDigitYearsUptoRow : OpenClaim := { program := "ytjabghojenhhiab", sum := "2a293c095167b238cd113bc697c4fc144b085de716ab267485dbc17ccf595358", func := "loop.example/g01369/laws.FnExactDigitYears", spec := "fnExactDigitYears", apart := false, narrowed := true }
def FnExactDigitYearsUptoSaid : Prop := fnExactDigitYearsUptoRow.holds Try.pinned (OpenSpec.upto fnExactDigitYearsSpec)

/-- 'laws.FnExactLastDigitsYear', WHERE WHAT IT READS IS OF BULK AT MOST 1048576: true; the input reads as it did. -/
def fnExactLastDigitsYearUptoRow : OpenClaim := { program := "ytjabghojenhhiab", sum := "2a293c095167b238cd113bc697c4fc144b085de716ab267485dbc17ccf595358", func := "loop.example/g01369/laws.FnExactLastDigitsYear", spec := "fnExactLastDigitsYear", apart := false, narrowed := true }
def FnExactLastDigitsYearUptoSaid : Prop := fnExactLastDigitsYearUptoRow.holds Try.pinned (OpenSpec.upto fnExactLastDigitsYearSpec)

/-- 'laws.FnExactDividesYears', WHERE WHAT IT READS IS OF BULK AT MOST 1048576: true; the input reads as it did. -/
def fnExactDividesYearsUptoRow : OpenClaim := { program := "ytjabghojenhhiab", sum := "2a293c095167b238cd113bc697c4fc144b085de716ab267485dbc17ccf595358", func := "loop.example/g01369/laws.FnExactDividesYears", spec := "fnExactDividesYears", apart := false, narrowed := true }
def FnExactDividesYearsUptoSaid : Prop := fnExactDividesYearsUptoRow.holds Try.pinned (OpenSpec.upto fnExactDividesYearsSpec)

end Rows
end Go.Proofs.Ytjabghojenhhiab
