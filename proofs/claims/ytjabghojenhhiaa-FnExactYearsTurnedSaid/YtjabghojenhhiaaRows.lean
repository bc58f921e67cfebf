/-
  No cell of these rows narrows 'for every input' (looked for: loops, veiled, ifaces, maps, wideKeys, modest, calm, conditions, laid).
  DERIVED. THE GIVEN ROWS OF THIS SEAT. 9 by the template 'for every input the law returns true; each argument reads behind the call as it read before'; 0 by the template 'total and deterministic' (their statements: YtjabghojenhhiaaTotals.lean).
  GIVEN WITH THE SEED: the statements are not yours to turn. If you find one false, say at which input.
  Laid BY PROGRAM, IN A SANDBOX (cutbox-rows.mjs): the forced cells as the released guide's own fill.sh prints them over the translation 2ec9c60738f816aa… (all of the seat's roots in one cut). By AI agents, Wed Nov 11 2026. No macro, syntax, notation, axiom, sorry.
-/
import Derived.Test.YtjabghojenhhiaaChecked
import GoSem.Claim
import GoSem.ClaimJoined
import GoSem.ClaimMapViews
import Derived.JoinedTies
import Derived.KernelRfl
namespace Go.Proofs.Ytjabghojenhhiaa
/- THE CELL 'sum', in the pinned program and in every row, IS THE sha256 OF THE DUMP (.gsa) THAT YtjabghojenhhiaaProg.lean LOADS. Nothing in Lean hashes anything: it is a label: what it is worth is what the hold of that sum in a sandbox is worth. -/
noncomputable def Try.pinned : Pinned := { name := "ytjabghojenhhiaa", sum := "2ec9c60738f816aa65fd041601598e1e4cc4a73a42aef4ac4b54a645a310b93b", checked := Try.checked }
namespace Rows
def none {H : Type} : Left H := { results := [], args := [] }

/-- 'laws.FnExactOrderOfAges': WHATEVER THE INPUT: true; the input reads as it did. -/
def fnExactOrderOfAgesSpec : ChangeSpec := { name := "fnExactOrderOfAges", fn := fun _ => fun
  | [d] => { results := [.lit (.bool true)], args := [d] }
  | _ => none }
def fnExactOrderOfAgesRow : OpenClaim := { program := "ytjabghojenhhiaa", sum := "2ec9c60738f816aa65fd041601598e1e4cc4a73a42aef4ac4b54a645a310b93b", func := "loop.example/g01369/laws.FnExactOrderOfAges", spec := "fnExactOrderOfAges", unfollowed := true, recurses := true, apart := false }
def FnExactOrderOfAgesSaid : Prop := fnExactOrderOfAgesRow.holds Try.pinned (OpenSpec.ofChange fnExactOrderOfAgesSpec)

/-- ITS FALSE NEIGHBOUR: 'it returns false'. Refute it at one input. -/
def fnExactOrderOfAgesWrong : ChangeSpec := { name := "fnExactOrderOfAges", fn := fun _ => fun
  | [d] => { results := [.lit (.bool false)], args := [d] }
  | _ => none }
def FnExactOrderOfAgesWrongFalsely : Prop := fnExactOrderOfAgesRow.holds Try.pinned (OpenSpec.ofChange fnExactOrderOfAgesWrong)

/-- 'laws.FnExactGapsOfAges': WHATEVER THE INPUT: true; the input reads as it did. -/
def fnExactGapsOfAgesSpec : ChangeSpec := { name := "fnExactGapsOfAges", fn := fun _ => fun
  | [d] => { results := [.lit (.bool true)], args := [d] }
  | _ => none }
def fnExactGapsOfAgesRow : OpenClaim := { program := "ytjabghojenhhiaa", sum := "2ec9c60738f816aa65fd041601598e1e4cc4a73a42aef4ac4b54a645a310b93b", func := "loop.example/g01369/laws.FnExactGapsOfAges", spec := "fnExactGapsOfAges", unfollowed := true, recurses := true, apart := false }
def FnExactGapsOfAgesSaid : Prop := fnExactGapsOfAgesRow.holds Try.pinned (OpenSpec.ofChange fnExactGapsOfAgesSpec)

/-- ITS FALSE NEIGHBOUR: 'it returns false'. Refute it at one input. -/
def fnExactGapsOfAgesWrong : ChangeSpec := { name := "fnExactGapsOfAges", fn := fun _ => fun
  | [d] => { results := [.lit (.bool false)], args := [d] }
  | _ => none }
def FnExactGapsOfAgesWrongFalsely : Prop := fnExactGapsOfAgesRow.holds Try.pinned (OpenSpec.ofChange fnExactGapsOfAgesWrong)

/-- 'laws.FnExactYearsAllKind': WHATEVER THE INPUT: true; the input reads as it did. -/
def fnExactYearsAllKindSpec : ChangeSpec := { name := "fnExactYearsAllKind", fn := fun _ => fun
  | [d1, d2] => { results := [.lit (.bool true)], args := [d1, d2] }
  | _ => none }
def fnExactYearsAllKindRow : OpenClaim := { program := "ytjabghojenhhiaa", sum := "2ec9c60738f816aa65fd041601598e1e4cc4a73a42aef4ac4b54a645a310b93b", func := "loop.example/g01369/laws.FnExactYearsAllKind", spec := "fnExactYearsAllKind", unfollowed := true, recurses := true, apart := false }
def FnExactYearsAllKindSaid : Prop := fnExactYearsAllKindRow.holds Try.pinned (OpenSpec.ofChange fnExactYearsAllKindSpec)

/-- ITS FALSE NEIGHBOUR: 'it returns false'. Refute it at one input. -/
def fnExactYearsAllKindWrong : ChangeSpec := { name := "fnExactYearsAllKind", fn := fun _ => fun
  | [d1, d2] => { results := [.lit (.bool false)], args := [d1, d2] }
  | _ => none }
def FnExactYearsAllKindWrongFalsely : Prop := fnExactYearsAllKindRow.holds Try.pinned (OpenSpec.ofChange fnExactYearsAllKindWrong)

/-- 'laws.FnExactYearsMostKind': WHATEVER THE INPUT: true; the input reads as it did. -/
def fnExactYearsMostKindSpec : ChangeSpec := { name := "fnExactYearsMostKind", fn := fun _ => fun
  | [d1, d2] => { results := [.lit (.bool true)], args := [d1, d2] }
  | _ => none }
def fnExactYearsMostKindRow : OpenClaim := { program := "ytjabghojenhhiaa", sum := "2ec9c60738f816aa65fd041601598e1e4cc4a73a42aef4ac4b54a645a310b93b", func := "loop.example/g01369/laws.FnExactYearsMostKind", spec := "fnExactYearsMostKind", unfollowed := true, recurses := true, apart := false }
def FnExactYearsMostKindSaid : Prop := fnExactYearsMostKindRow.holds Try.pinned (OpenSpec.ofChange fnExactYearsMostKindSpec)

/-- ITS FALSE NEIGHBOUR: 'it returns false'. Refute it at one input. -/
def fnExactYearsMostKindWrong : ChangeSpec := { name := "fnExactYearsMostKind", fn := fun _ => fun
  | [d1, d2] => { results := [.lit (.bool false)], args := [d1, d2] }
  | _ => none }
def FnExactYearsMostKindWrongFalsely : Prop := fnExactYearsMostKindRow.holds Try.pinned (OpenSpec.ofChange fnExactYearsMostKindWrong)

/-- 'laws.FnExactCountOfKind': WHATEVER THE INPUT: true; the input reads as it did. -/
def fnExactCountOfKindSpec : ChangeSpec := { name := "fnExactCountOfKind", fn := fun _ => fun
  | [d1, d2, d3] => { results := [.lit (.bool true)], args := [d1, d2, d3] }
  | _ => none }
def fnExactCountOfKindRow : OpenClaim := { program := "ytjabghojenhhiaa", sum := "2ec9c60738f816aa65fd041601598e1e4cc4a73a42aef4ac4b54a645a310b93b", func := "loop.example/g01369/laws.FnExactCountOfKind", spec := "fnExactCountOfKind", unfollowed := true, recurses := true, apart := false }
def FnExactCountOfKindSaid : Prop := fnExactCountOfKindRow.holds Try.pinned (OpenSpec.ofChange fnExactCountOfKindSpec)

/-- ITS FALSE NEIGHBOUR: 'it returns false'. Refute it at one input. -/
def fnExactCountOfKindWrong : ChangeSpec := { name := "fnExactCountOfKind", fn := fun _ => fun
  | [d1, d2, d3] => { results := [.lit (.bool false)], args := [d1, d2, d3] }
  | _ => none }
def FnExactCountOfKindWrongFalsely : Prop := fnExactCountOfKindRow.holds Try.pinned (OpenSpec.ofChange fnExactCountOfKindWrong)

/-- 'laws.FnExactYearsSumKind': WHATEVER THE INPUT: true; the input reads as it did. -/
def fnExactYearsSumKindSpec : ChangeSpec := { name := "fnExactYearsSumKind", fn := fun _ => fun
  | [d1, d2] => { results := [.lit (.bool true)], args := [d1, d2] }
  | _ => none }
def fnExactYearsSumKindRow : OpenClaim := { program := "ytjabghojenhhiaa", sum := "2ec9c60738f816aa65fd041601598e1e4cc4a73a42aef4ac4b54a645a310b93b", func := "loop.example/g01369/laws.FnExactYearsSumKind", spec := "fnExactYearsSumKind", unfollowed := true, recurses := true, apart := false }
def FnExactYearsSumKindSaid : Prop := fnExactYearsSumKindRow.holds Try.pinned (OpenSpec.ofChange fnExactYearsSumKindSpec)

/-- ITS FALSE NEIGHBOUR: 'it returns false'. Refute it at one input. -/
def fnExactYearsSumKindWrong : ChangeSpec := { name := "fnExactYearsSumKind", fn := fun _ => fun
  | [d1, d2] => { results := [.lit (.bool false)], args := [d1, d2] }
  | _ => none }
def FnExactYearsSumKindWrongFalsely : Prop := fnExactYearsSumKindRow.holds Try.pinned (OpenSpec.ofChange fnExactYearsSumKindWrong)

/-- 'laws.FnExactWhoOfKind': WHATEVER THE INPUT: true; the input reads as it did. -/
def fnExactWhoOfKindSpec : ChangeSpec := { name := "fnExactWhoOfKind", fn := fun _ => fun
  | [d1, d2] => { results := [.lit (.bool true)], args := [d1, d2] }
  | _ => none }
def fnExactWhoOfKindRow : OpenClaim := { program := "ytjabghojenhhiaa", sum := "2ec9c60738f816aa65fd041601598e1e4cc4a73a42aef4ac4b54a645a310b93b", func := "loop.example/g01369/laws.FnExactWhoOfKind", spec := "fnExactWhoOfKind", unfollowed := true, recurses := true, apart := false }
def FnExactWhoOfKindSaid : Prop := fnExactWhoOfKindRow.holds Try.pinned (OpenSpec.ofChange fnExactWhoOfKindSpec)

/-- ITS FALSE NEIGHBOUR: 'it returns false'. Refute it at one input. -/
def fnExactWhoOfKindWrong : ChangeSpec := { name := "fnExactWhoOfKind", fn := fun _ => fun
  | [d1, d2] => { results := [.lit (.bool false)], args := [d1, d2] }
  | _ => none }
def FnExactWhoOfKindWrongFalsely : Prop := fnExactWhoOfKindRow.holds Try.pinned (OpenSpec.ofChange fnExactWhoOfKindWrong)

/-- 'laws.FnExactYearsTurned': WHATEVER THE INPUT: true; the input reads as it did. -/
def fnExactYearsTurnedSpec : ChangeSpec := { name := "fnExactYearsTurned", fn := fun _ => fun
  | [d1, d2, d3] => { results := [.lit (.bool true)], args := [d1, d2, d3] }
  | _ => none }
def fnExactYearsTurnedRow : OpenClaim := { program := "ytjabghojenhhiaa", sum := "2ec9c60738f816aa65fd041601598e1e4cc4a73a42aef4ac4b54a645a310b93b", func := "loop.example/g01369/laws.FnExactYearsTurned", spec := "fnExactYearsTurned", unfollowed := true, recurses := true, apart := false }
def FnExactYearsTurnedSaid : Prop := fnExactYearsTurnedRow.holds Try.pinned (OpenSpec.ofChange fnExactYearsTurnedSpec)

/-- ITS FALSE NEIGHBOUR: 'it returns false'. Refute it at one input. -/
def fnExactYearsTurnedWrong : ChangeSpec := { name := "fnExactYearsTurned", fn := fun _ => fun
  | [d1, d2, d3] => { results := [.lit (.bool false)], args := [d1, d2, d3] }
  | _ => none }
def FnExactYearsTurnedWrongFalsely : Prop := fnExactYearsTurnedRow.holds Try.pinned (OpenSpec.ofChange fnExactYearsTurnedWrong)

/-- 'laws.FnExactYearsAlikeSums': WHATEVER THE INPUT: true; the input reads as it did. -/
def fnExactYearsAlikeSumsSpec : ChangeSpec := { name := "fnExactYearsAlikeSums", fn := fun _ => fun
  | [d] => { results := [.lit (.bool true)], args := [d] }
  | _ => none }
def fnExactYearsAlikeSumsRow : OpenClaim := { program := "ytjabghojenhhiaa", sum := "2ec9c60738f816aa65fd041601598e1e4cc4a73a42aef4ac4b54a645a310b93b", func := "loop.example/g01369/laws.FnExactYearsAlikeSums", spec := "fnExactYearsAlikeSums", unfollowed := true, recurses := true, apart := false }
def FnExactYearsAlikeSumsSaid : Prop := fnExactYearsAlikeSumsRow.holds Try.pinned (OpenSpec.ofChange fnExactYearsAlikeSumsSpec)

/-- ITS FALSE NEIGHBOUR: 'it returns false'. Refute it at one input. -/
def fnExactYearsAlikeSumsWrong : ChangeSpec := { name := "fnExactYearsAlikeSums", fn := fun _ => fun
  | [d] => { results := [.lit (.bool false)], args := [d] }
  | _ => none }
def FnExactYearsAlikeSumsWrongFalsely : Prop := fnExactYearsAlikeSumsRow.holds Try.pinned (OpenSpec.ofChange fnExactYearsAlikeSumsWrong)

/- THE SECOND FORM. 'bulk': how many values and letters a reading holds, each counted each time it is reached (what is shared counts as often as it is met; a slice's spare places count too). A statement '..UptoSaid' is the law's where the arguments, and the package variables that the reading takes, are together of bulk at most 1048576: NARROWER than '..Said'. Prove '..Said' where nothing that the law and all that it calls make is longer than what came in: it says more and counts as full. Else prove '..UptoSaid'. A law counts once. -/
mutual
def uptoBulk {H : Type} : DataW H → Nat
  | .lit (.string bytes) => bytes.length + 1
  | .lit _ => 1
  | .nil => 1
  | .ptr d => uptoBulk d + 1
  | .slice elems spare => uptoBulkAll elems + uptoBulkAll spare + 1
  | .agg parts => uptoBulkAll parts + 1
  | .iface _ d => uptoBulk d + 1
  | .map entries => uptoBulkEntries entries + 1
  | .held _ => 1
def uptoBulkAll {H : Type} : List (DataW H) → Nat
  | [] => 0
  | d :: r => uptoBulk d + uptoBulkAll r
def uptoBulkEntries {H : Type} : List (Lit × DataW H) → Nat
  | [] => 0
  | x :: r => uptoBulkEntry x + uptoBulkEntries r
def uptoBulkEntry {H : Type} : Lit × DataW H → Nat
  | (.string bytes, d) => bytes.length + uptoBulk d + 1
  | (_, d) => uptoBulk d + 1
 end
def uptoSmall : (H : Type) → List (DataW H) → Bool := fun _ ds => decide (uptoBulkAll ds ≤ 1048576)
def OpenSpec.upto (s : _root_.Go.ChangeSpec) : _root_.Go.OpenSpec := { _root_.Go.OpenSpec.ofChange s with cond := some uptoSmall }

/-- 'laws.FnExactOrderOfAges', WHERE WHAT IT READS IS OF BULK AT MOST 1048576: true; the input reads as it did. -/
def fnExactOrderOfAgesUptoRow : OpenClaim := { program := "ytjabghojenhhiaa", sum := "2ec9c60738f816aa65fd041601598e1e4cc4a73a42aef4ac4b54a645a310b93b", func := "loop.example/g01369/laws.FnExactOrderOfAges", spec := "fnExactOrderOfAges", unfollowed := true, recurses := true, apart := false, narrowed := true }
def FnExactOrderOfAgesUptoSaid : Prop := fnExactOrderOfAgesUptoRow.holds Try.pinned (OpenSpec.upto fnExactOrderOfAgesSpec)

/-- 'laws.FnExactGapsOfAges', WHERE WHAT IT READS IS OF BULK AT MOST 1048576: true; the input reads as it did. -/
def fnExactGapsOfAgesUptoRow : OpenClaim := { program := "ytjabghojenhhiaa", sum := "2ec9c60738f816aa65fd041601598e1e4cc4a73a42aef4ac4b54a645a310b93b", func := "loop.example/g01369/laws.FnExactGapsOfAges", spec := "fnExactGapsOfAges", unfollowed := true, recurses := true, apart := false, narrowed := true }
def FnExactGapsOfAgesUptoSaid : Prop := fnExactGapsOfAgesUptoRow.holds Try.pinned (OpenSpec.upto fnExactGapsOfAgesSpec)

/-- 'laws.FnExactYearsAllKind', WHERE WHAT IT READS IS OF BULK AT MOST 1048576: true; the input reads as it did. -/
def fnExactYearsAllKindUptoRow : OpenClaim := { program := "ytjabghojenhhiaa", sum := "2ec9c60738f816aa65fd041601598e1e4cc4a73a42aef4ac4b54a645a310b93b", func := "loop.example/g01369/laws.FnExactYearsAllKind", spec := "fnExactYearsAllKind", unfollowed := true, recurses := true, apart := false, narrowed := true }
def FnExactYearsAllKindUptoSaid : Prop := fnExactYearsAllKindUptoRow.holds Try.pinned (OpenSpec.upto fnExactYearsAllKindSpec)

/-- 'laws.FnExactYearsMostKind', WHERE WHAT IT READS IS OF BULK AT MOST 1048576: true; the input reads as it did. -/
def fnExactYearsMostKindUptoRow : OpenClaim := { program := "ytjabghojenhhiaa", sum := "2ec9c60738f816aa65fd041601598e1e4cc4a73a42aef4ac4b54a645a310b93b", func := "loop.example/g01369/laws.FnExactYearsMostKind", spec := "fnExactYearsMostKind", unfollowed := true, recurses := true, apart := false, narrowed := true }
def FnExactYearsMostKindUptoSaid : Prop := fnExactYearsMostKindUptoRow.holds Try.pinned (OpenSpec.upto fnExactYearsMostKindSpec)

/-- 'laws.FnExactCountOfKind', WHERE WHAT IT READS IS OF BULK AT MOST 1048576: true; the input reads as it did. -/
def fnExactCountOfKindUptoRow : OpenClaim := { program := "ytjabghojenhhiaa", sum := "2ec9c60738f816aa65fd041601598e1e4cc4a73a42aef4ac4b54a645a310b93b", func := "loop.example/g01369/laws.FnExactCountOfKind", spec := "fnExactCountOfKind", unfollowed := true, recurses := true, apart := false, narrowed := true }
def FnExactCountOfKindUptoSaid : Prop := fnExactCountOfKindUptoRow.holds Try.pinned (OpenSpec.upto fnExactCountOfKindSpec)

/-- 'laws.FnExactYearsSumKind', WHERE WHAT IT READS IS OF BULK AT MOST 1048576: true; the input reads as it did. -/
def fnExactYearsSumKindUptoRow : OpenClaim := { program := "ytjabghojenhhiaa", sum := "2ec9c60738f816aa65fd041601598e1e4cc4a73a42aef4ac4b54a645a310b93b", func := "loop.example/g01369/laws.FnExactYearsSumKind", spec := "fnExactYearsSumKind", unfollowed := true, recurses := true, apart := false, narrowed := true }
def FnExactYearsSumKindUptoSaid : Prop := fnExactYearsSumKindUptoRow.holds Try.pinned (OpenSpec.upto fnExactYearsSumKindSpec)

/-- 'laws.FnExactWhoOfKind', WHERE WHAT IT READS IS OF BULK AT MOST 1048576: true; the input reads as it did. -/
def fnExactWhoOfKindUptoRow : OpenClaim := { program := "ytjabghojenhhiaa", sum := "2ec9c60738f816aa65fd041601598e1e4cc4a73a42aef4ac4b54a645a310b93b", func := "loop.example/g01369/laws.FnExactWhoOfKind", spec := "fnExactWhoOfKind", unfollowed := true, recurses := true, apart := false, narrowed := true }
def FnExactWhoOfKindUptoSaid : Prop := fnExactWhoOfKindUptoRow.holds Try.pinned (OpenSpec.upto fnExactWhoOfKindSpec)

/-- 'laws.FnExactYearsTurned', WHERE WHAT IT READS IS OF BULK AT MOST 1048576: true; the input reads as it did. -/
def fnExactYearsTurnedUptoRow : OpenClaim := { program := "ytjabghojenhhiaa", sum := "2ec9c60738f816aa65fd041601598e1e4cc4a73a42aef4ac4b54a645a310b93b", func := "loop.example/g01369/laws.FnExactYearsTurned", spec := "fnExactYearsTurned", unfollowed := true, recurses := true, apart := false, narrowed := true }
def FnExactYearsTurnedUptoSaid : Prop := fnExactYearsTurnedUptoRow.holds Try.pinned (OpenSpec.upto fnExactYearsTurnedSpec)

/-- 'laws.FnExactYearsAlikeSums', WHERE WHAT IT READS IS OF BULK AT MOST 1048576: true; the input reads as it did. -/
def fnExactYearsAlikeSumsUptoRow : OpenClaim := { program := "ytjabghojenhhiaa", sum := "2ec9c60738f816aa65fd041601598e1e4cc4a73a42aef4ac4b54a645a310b93b", func := "loop.example/g01369/laws.FnExactYearsAlikeSums", spec := "fnExactYearsAlikeSums", unfollowed := true, recurses := true, apart := false, narrowed := true }
def FnExactYearsAlikeSumsUptoSaid : Prop := fnExactYearsAlikeSumsUptoRow.holds Try.pinned (OpenSpec.upto fnExactYearsAlikeSumsSpec)

end Rows
end Go.Proofs.Ytjabghojenhhiaa
