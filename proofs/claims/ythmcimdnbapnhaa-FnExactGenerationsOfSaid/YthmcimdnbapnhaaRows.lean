/-
  No cell of these rows narrows 'for every input' (looked for: loops, veiled, ifaces, maps, wideKeys, modest, calm, conditions, laid).
  DERIVED. THE GIVEN ROWS OF THIS SEAT. 12 by the template 'for every input the law returns true; each argument reads behind the call as it read before'; 0 by the template 'total and deterministic' (their statements: YthmcimdnbapnhaaTotals.lean).
  GIVEN WITH THE SEED: the statements are not yours to turn. If you find one false, say at which input.
  Laid BY PROGRAM, IN A SANDBOX (cutbox-rows.mjs): the forced cells as the released guide's own fill.sh prints them over the translation 94bda151523ae98d… (all of the seat's roots in one cut). By AI agents, Wed Nov 11 2026. No macro, syntax, notation, axiom, sorry.
-/
import Derived.Test.YthmcimdnbapnhaaChecked
import GoSem.Claim
import GoSem.ClaimJoined
import GoSem.ClaimMapViews
import Derived.JoinedTies
import Derived.KernelRfl
namespace Go.Proofs.Ythmcimdnbapnhaa
/- THE CELL 'sum', in the pinned program and in every row, IS THE sha256 OF THE DUMP (.gsa) THAT YthmcimdnbapnhaaProg.lean LOADS. Nothing in Lean hashes anything: it is a label: what it is worth is what the hold of that sum in a sandbox is worth. -/
noncomputable def Try.pinned : Pinned := { name := "ythmcimdnbapnhaa", sum := "94bda151523ae98d62996c06bf395f3e3c6eeb392945ede6dbe9b6b67cfd91a2", checked := Try.checked }
namespace Rows
def none {H : Type} : Left H := { results := [], args := [] }

/-- 'laws.FnExactIsFamily': WHATEVER THE INPUT: true; the input reads as it did. -/
def fnExactIsFamilySpec : ChangeSpec := { name := "fnExactIsFamily", fn := fun _ => fun
  | [d] => { results := [.lit (.bool true)], args := [d] }
  | _ => none }
def fnExactIsFamilyRow : OpenClaim := { program := "ythmcimdnbapnhaa", sum := "94bda151523ae98d62996c06bf395f3e3c6eeb392945ede6dbe9b6b67cfd91a2", func := "loop.example/g01369/laws.FnExactIsFamily", spec := "fnExactIsFamily", unfollowed := true, recurses := true, apart := false }
def FnExactIsFamilySaid : Prop := fnExactIsFamilyRow.holds Try.pinned (OpenSpec.ofChange fnExactIsFamilySpec)

/-- ITS FALSE NEIGHBOUR: 'it returns false'. Refute it at one input. -/
def fnExactIsFamilyWrong : ChangeSpec := { name := "fnExactIsFamily", fn := fun _ => fun
  | [d] => { results := [.lit (.bool false)], args := [d] }
  | _ => none }
def FnExactIsFamilyWrongFalsely : Prop := fnExactIsFamilyRow.holds Try.pinned (OpenSpec.ofChange fnExactIsFamilyWrong)

/-- 'laws.FnExactAddKin': WHATEVER THE INPUT: true; the input reads as it did. -/
def fnExactAddKinSpec : ChangeSpec := { name := "fnExactAddKin", fn := fun _ => fun
  | [d1, d2] => { results := [.lit (.bool true)], args := [d1, d2] }
  | _ => none }
def fnExactAddKinRow : OpenClaim := { program := "ythmcimdnbapnhaa", sum := "94bda151523ae98d62996c06bf395f3e3c6eeb392945ede6dbe9b6b67cfd91a2", func := "loop.example/g01369/laws.FnExactAddKin", spec := "fnExactAddKin", unfollowed := true, recurses := true, apart := false }
def FnExactAddKinSaid : Prop := fnExactAddKinRow.holds Try.pinned (OpenSpec.ofChange fnExactAddKinSpec)

/-- ITS FALSE NEIGHBOUR: 'it returns false'. Refute it at one input. -/
def fnExactAddKinWrong : ChangeSpec := { name := "fnExactAddKin", fn := fun _ => fun
  | [d1, d2] => { results := [.lit (.bool false)], args := [d1, d2] }
  | _ => none }
def FnExactAddKinWrongFalsely : Prop := fnExactAddKinRow.holds Try.pinned (OpenSpec.ofChange fnExactAddKinWrong)

/-- 'laws.FnExactParentsOf': WHATEVER THE INPUT: true; the input reads as it did. -/
def fnExactParentsOfSpec : ChangeSpec := { name := "fnExactParentsOf", fn := fun _ => fun
  | [d1, d2] => { results := [.lit (.bool true)], args := [d1, d2] }
  | _ => none }
def fnExactParentsOfRow : OpenClaim := { program := "ythmcimdnbapnhaa", sum := "94bda151523ae98d62996c06bf395f3e3c6eeb392945ede6dbe9b6b67cfd91a2", func := "loop.example/g01369/laws.FnExactParentsOf", spec := "fnExactParentsOf", unfollowed := true, recurses := true, apart := false }
def FnExactParentsOfSaid : Prop := fnExactParentsOfRow.holds Try.pinned (OpenSpec.ofChange fnExactParentsOfSpec)

/-- ITS FALSE NEIGHBOUR: 'it returns false'. Refute it at one input. -/
def fnExactParentsOfWrong : ChangeSpec := { name := "fnExactParentsOf", fn := fun _ => fun
  | [d1, d2] => { results := [.lit (.bool false)], args := [d1, d2] }
  | _ => none }
def FnExactParentsOfWrongFalsely : Prop := fnExactParentsOfRow.holds Try.pinned (OpenSpec.ofChange fnExactParentsOfWrong)

/-- 'laws.FnExactChildrenOf': WHATEVER THE INPUT: true; the input reads as it did. -/
def fnExactChildrenOfSpec : ChangeSpec := { name := "fnExactChildrenOf", fn := fun _ => fun
  | [d1, d2] => { results := [.lit (.bool true)], args := [d1, d2] }
  | _ => none }
def fnExactChildrenOfRow : OpenClaim := { program := "ythmcimdnbapnhaa", sum := "94bda151523ae98d62996c06bf395f3e3c6eeb392945ede6dbe9b6b67cfd91a2", func := "loop.example/g01369/laws.FnExactChildrenOf", spec := "fnExactChildrenOf", unfollowed := true, recurses := true, apart := false }
def FnExactChildrenOfSaid : Prop := fnExactChildrenOfRow.holds Try.pinned (OpenSpec.ofChange fnExactChildrenOfSpec)

/-- ITS FALSE NEIGHBOUR: 'it returns false'. Refute it at one input. -/
def fnExactChildrenOfWrong : ChangeSpec := { name := "fnExactChildrenOf", fn := fun _ => fun
  | [d1, d2] => { results := [.lit (.bool false)], args := [d1, d2] }
  | _ => none }
def FnExactChildrenOfWrongFalsely : Prop := fnExactChildrenOfRow.holds Try.pinned (OpenSpec.ofChange fnExactChildrenOfWrong)

/-- 'laws.FnExactGenerationOf': WHATEVER THE INPUT: true; the input reads as it did. -/
def fnExactGenerationOfSpec : ChangeSpec := { name := "fnExactGenerationOf", fn := fun _ => fun
  | [d1, d2] => { results := [.lit (.bool true)], args := [d1, d2] }
  | _ => none }
def fnExactGenerationOfRow : OpenClaim := { program := "ythmcimdnbapnhaa", sum := "94bda151523ae98d62996c06bf395f3e3c6eeb392945ede6dbe9b6b67cfd91a2", func := "loop.example/g01369/laws.FnExactGenerationOf", spec := "fnExactGenerationOf", unfollowed := true, recurses := true, apart := false }
def FnExactGenerationOfSaid : Prop := fnExactGenerationOfRow.holds Try.pinned (OpenSpec.ofChange fnExactGenerationOfSpec)

/-- ITS FALSE NEIGHBOUR: 'it returns false'. Refute it at one input. -/
def fnExactGenerationOfWrong : ChangeSpec := { name := "fnExactGenerationOf", fn := fun _ => fun
  | [d1, d2] => { results := [.lit (.bool false)], args := [d1, d2] }
  | _ => none }
def FnExactGenerationOfWrongFalsely : Prop := fnExactGenerationOfRow.holds Try.pinned (OpenSpec.ofChange fnExactGenerationOfWrong)

/-- 'laws.FnExactGenerationsOf': WHATEVER THE INPUT: true; the input reads as it did. -/
def fnExactGenerationsOfSpec : ChangeSpec := { name := "fnExactGenerationsOf", fn := fun _ => fun
  | [d] => { results := [.lit (.bool true)], args := [d] }
  | _ => none }
def fnExactGenerationsOfRow : OpenClaim := { program := "ythmcimdnbapnhaa", sum := "94bda151523ae98d62996c06bf395f3e3c6eeb392945ede6dbe9b6b67cfd91a2", func := "loop.example/g01369/laws.FnExactGenerationsOf", spec := "fnExactGenerationsOf", unfollowed := true, recurses := true, apart := false }
def FnExactGenerationsOfSaid : Prop := fnExactGenerationsOfRow.holds Try.pinned (OpenSpec.ofChange fnExactGenerationsOfSpec)

/-- ITS FALSE NEIGHBOUR: 'it returns false'. Refute it at one input. -/
def fnExactGenerationsOfWrong : ChangeSpec := { name := "fnExactGenerationsOf", fn := fun _ => fun
  | [d] => { results := [.lit (.bool false)], args := [d] }
  | _ => none }
def FnExactGenerationsOfWrongFalsely : Prop := fnExactGenerationsOfRow.holds Try.pinned (OpenSpec.ofChange fnExactGenerationsOfWrong)

/-- 'laws.FnExactAreSiblings': WHATEVER THE INPUT: true; the input reads as it did. -/
def fnExactAreSiblingsSpec : ChangeSpec := { name := "fnExactAreSiblings", fn := fun _ => fun
  | [d1, d2, d3] => { results := [.lit (.bool true)], args := [d1, d2, d3] }
  | _ => none }
def fnExactAreSiblingsRow : OpenClaim := { program := "ythmcimdnbapnhaa", sum := "94bda151523ae98d62996c06bf395f3e3c6eeb392945ede6dbe9b6b67cfd91a2", func := "loop.example/g01369/laws.FnExactAreSiblings", spec := "fnExactAreSiblings", unfollowed := true, recurses := true, apart := false }
def FnExactAreSiblingsSaid : Prop := fnExactAreSiblingsRow.holds Try.pinned (OpenSpec.ofChange fnExactAreSiblingsSpec)

/-- ITS FALSE NEIGHBOUR: 'it returns false'. Refute it at one input. -/
def fnExactAreSiblingsWrong : ChangeSpec := { name := "fnExactAreSiblings", fn := fun _ => fun
  | [d1, d2, d3] => { results := [.lit (.bool false)], args := [d1, d2, d3] }
  | _ => none }
def FnExactAreSiblingsWrongFalsely : Prop := fnExactAreSiblingsRow.holds Try.pinned (OpenSpec.ofChange fnExactAreSiblingsWrong)

/-- 'laws.FnExactAreHalf': WHATEVER THE INPUT: true; the input reads as it did. -/
def fnExactAreHalfSpec : ChangeSpec := { name := "fnExactAreHalf", fn := fun _ => fun
  | [d1, d2, d3] => { results := [.lit (.bool true)], args := [d1, d2, d3] }
  | _ => none }
def fnExactAreHalfRow : OpenClaim := { program := "ythmcimdnbapnhaa", sum := "94bda151523ae98d62996c06bf395f3e3c6eeb392945ede6dbe9b6b67cfd91a2", func := "loop.example/g01369/laws.FnExactAreHalf", spec := "fnExactAreHalf", unfollowed := true, recurses := true, apart := false }
def FnExactAreHalfSaid : Prop := fnExactAreHalfRow.holds Try.pinned (OpenSpec.ofChange fnExactAreHalfSpec)

/-- ITS FALSE NEIGHBOUR: 'it returns false'. Refute it at one input. -/
def fnExactAreHalfWrong : ChangeSpec := { name := "fnExactAreHalf", fn := fun _ => fun
  | [d1, d2, d3] => { results := [.lit (.bool false)], args := [d1, d2, d3] }
  | _ => none }
def FnExactAreHalfWrongFalsely : Prop := fnExactAreHalfRow.holds Try.pinned (OpenSpec.ofChange fnExactAreHalfWrong)

/-- 'laws.FnExactAreCousins': WHATEVER THE INPUT: true; the input reads as it did. -/
def fnExactAreCousinsSpec : ChangeSpec := { name := "fnExactAreCousins", fn := fun _ => fun
  | [d1, d2, d3] => { results := [.lit (.bool true)], args := [d1, d2, d3] }
  | _ => none }
def fnExactAreCousinsRow : OpenClaim := { program := "ythmcimdnbapnhaa", sum := "94bda151523ae98d62996c06bf395f3e3c6eeb392945ede6dbe9b6b67cfd91a2", func := "loop.example/g01369/laws.FnExactAreCousins", spec := "fnExactAreCousins", unfollowed := true, recurses := true, apart := false }
def FnExactAreCousinsSaid : Prop := fnExactAreCousinsRow.holds Try.pinned (OpenSpec.ofChange fnExactAreCousinsSpec)

/-- ITS FALSE NEIGHBOUR: 'it returns false'. Refute it at one input. -/
def fnExactAreCousinsWrong : ChangeSpec := { name := "fnExactAreCousins", fn := fun _ => fun
  | [d1, d2, d3] => { results := [.lit (.bool false)], args := [d1, d2, d3] }
  | _ => none }
def FnExactAreCousinsWrongFalsely : Prop := fnExactAreCousinsRow.holds Try.pinned (OpenSpec.ofChange fnExactAreCousinsWrong)

/-- 'laws.FnExactAgeAtBirth': WHATEVER THE INPUT: true; the input reads as it did. -/
def fnExactAgeAtBirthSpec : ChangeSpec := { name := "fnExactAgeAtBirth", fn := fun _ => fun
  | [d1, d2, d3] => { results := [.lit (.bool true)], args := [d1, d2, d3] }
  | _ => none }
def fnExactAgeAtBirthRow : OpenClaim := { program := "ythmcimdnbapnhaa", sum := "94bda151523ae98d62996c06bf395f3e3c6eeb392945ede6dbe9b6b67cfd91a2", func := "loop.example/g01369/laws.FnExactAgeAtBirth", spec := "fnExactAgeAtBirth", unfollowed := true, recurses := true, apart := false }
def FnExactAgeAtBirthSaid : Prop := fnExactAgeAtBirthRow.holds Try.pinned (OpenSpec.ofChange fnExactAgeAtBirthSpec)

/-- ITS FALSE NEIGHBOUR: 'it returns false'. Refute it at one input. -/
def fnExactAgeAtBirthWrong : ChangeSpec := { name := "fnExactAgeAtBirth", fn := fun _ => fun
  | [d1, d2, d3] => { results := [.lit (.bool false)], args := [d1, d2, d3] }
  | _ => none }
def FnExactAgeAtBirthWrongFalsely : Prop := fnExactAgeAtBirthRow.holds Try.pinned (OpenSpec.ofChange fnExactAgeAtBirthWrong)

/-- 'laws.FnExactYoungestParent': WHATEVER THE INPUT: true; the input reads as it did. -/
def fnExactYoungestParentSpec : ChangeSpec := { name := "fnExactYoungestParent", fn := fun _ => fun
  | [d] => { results := [.lit (.bool true)], args := [d] }
  | _ => none }
def fnExactYoungestParentRow : OpenClaim := { program := "ythmcimdnbapnhaa", sum := "94bda151523ae98d62996c06bf395f3e3c6eeb392945ede6dbe9b6b67cfd91a2", func := "loop.example/g01369/laws.FnExactYoungestParent", spec := "fnExactYoungestParent", unfollowed := true, recurses := true, apart := false }
def FnExactYoungestParentSaid : Prop := fnExactYoungestParentRow.holds Try.pinned (OpenSpec.ofChange fnExactYoungestParentSpec)

/-- ITS FALSE NEIGHBOUR: 'it returns false'. Refute it at one input. -/
def fnExactYoungestParentWrong : ChangeSpec := { name := "fnExactYoungestParent", fn := fun _ => fun
  | [d] => { results := [.lit (.bool false)], args := [d] }
  | _ => none }
def FnExactYoungestParentWrongFalsely : Prop := fnExactYoungestParentRow.holds Try.pinned (OpenSpec.ofChange fnExactYoungestParentWrong)

/-- 'laws.FnExactMostChildren': WHATEVER THE INPUT: true; the input reads as it did. -/
def fnExactMostChildrenSpec : ChangeSpec := { name := "fnExactMostChildren", fn := fun _ => fun
  | [d] => { results := [.lit (.bool true)], args := [d] }
  | _ => none }
def fnExactMostChildrenRow : OpenClaim := { program := "ythmcimdnbapnhaa", sum := "94bda151523ae98d62996c06bf395f3e3c6eeb392945ede6dbe9b6b67cfd91a2", func := "loop.example/g01369/laws.FnExactMostChildren", spec := "fnExactMostChildren", unfollowed := true, recurses := true, apart := false }
def FnExactMostChildrenSaid : Prop := fnExactMostChildrenRow.holds Try.pinned (OpenSpec.ofChange fnExactMostChildrenSpec)

/-- ITS FALSE NEIGHBOUR: 'it returns false'. Refute it at one input. -/
def fnExactMostChildrenWrong : ChangeSpec := { name := "fnExactMostChildren", fn := fun _ => fun
  | [d] => { results := [.lit (.bool false)], args := [d] }
  | _ => none }
def FnExactMostChildrenWrongFalsely : Prop := fnExactMostChildrenRow.holds Try.pinned (OpenSpec.ofChange fnExactMostChildrenWrong)

/- THE SECOND FORM. 'bulk': how many values and letters a reading holds, each counted each time it is reached (what is shared counts as often as it is met; a slice's spare places count too). A statement '..UptoSaid' is the law's where the arguments, and the package variables that the reading takes, are together of bulk at most 1048576: NARROWER than '..Said'. Prove '..Said' where nothing that the law and all that it calls make is longer than what came in: it says more and counts as full. Else prove '..UptoSaid'. A law counts once. -/
mutual
def uptoBulk {H : Type} : DataW H → Nat
  | .lit (.string bytes) => bytes.length + 1
  | .lit _ => 1
  | .nil => 1
  | .ptr d => uptoBulk d + 1
  | .slice elems spare => uptoBulkAll elems + uptoBulkAll spare + 1
  | .agg parts => uptoBulkAll parts + 1
  | .iface _ d => uptoBulk d + 1
  | .map entries => uptoBulkEntries entries + 1
  | .held _ => 1
def uptoBulkAll {H : Type} : List (DataW H) → Nat
  | [] => 0
  | d :: r => uptoBulk d + uptoBulkAll r
def uptoBulkEntries {H : Type} : List (Lit × DataW H) → Nat
  | [] => 0
  | x :: r => uptoBulkEntry x + uptoBulkEntries r
def uptoBulkEntry {H : Type} : Lit × DataW H → Nat
  | (.string bytes, d) => bytes.length + uptoBulk d + 1
  | (_, d) => uptoBulk d + 1
 end
def uptoSmall : (H : Type) → List (DataW H) → Bool := fun _ ds => decide (uptoBulkAll ds ≤ 1048576)
def OpenSpec.upto (s : _root_.Go.ChangeSpec) : _root_.Go.OpenSpec := { _root_.Go.OpenSpec.ofChange s with cond := some uptoSmall }

/-- 'laws.FnExactIsFamily', WHERE WHAT IT READS IS OF BULK AT MOST 1048576: true; the input reads as it did. -/
def fnExactIsFamilyUptoRow : OpenClaim := { program := "ythmcimdnbapnhaa", sum := "94bda151523ae98d62996c06bf395f3e3c6eeb392945ede6dbe9b6b67cfd91a2", func := "loop.example/g01369/laws.FnExactIsFamily", spec := "fnExactIsFamily", unfollowed := true, recurses := true, apart := false, narrowed := true }
def FnExactIsFamilyUptoSaid : Prop := fnExactIsFamilyUptoRow.holds Try.pinned (OpenSpec.upto fnExactIsFamilySpec)

/-- 'laws.FnExactAddKin', WHERE WHAT IT READS IS OF BULK AT MOST 1048576: true; the input reads as it did. -/
def fnExactAddKinUptoRow : OpenClaim := { program := "ythmcimdnbapnhaa", sum := "94bda151523ae98d62996c06bf395f3e3c6eeb392945ede6dbe9b6b67cfd91a2", func := "loop.example/g01369/laws.FnExactAddKin", spec := "fnExactAddKin", unfollowed := true, recurses := true, apart := false, narrowed := true }
def FnExactAddKinUptoSaid : Prop := fnExactAddKinUptoRow.holds Try.pinned (OpenSpec.upto fnExactAddKinSpec)

/-- 'laws.FnExactParentsOf', WHERE WHAT IT READS IS OF BULK AT MOST 1048576: true; the input reads as it did. -/
def fnExactParentsOfUptoRow : OpenClaim := { program := "ythmcimdnbapnhaa", sum := "94bda151523ae98d62996c06bf395f3e3c6eeb392945ede6dbe9b6b67cfd91a2", func := "loop.example/g01369/laws.FnExactParentsOf", spec := "fnExactParentsOf", unfollowed := true, recurses := true, apart := false, narrowed := true }
def FnExactParentsOfUptoSaid : Prop := fnExactParentsOfUptoRow.holds Try.pinned (OpenSpec.upto fnExactParentsOfSpec)

/-- 'laws.FnExactChildrenOf', WHERE WHAT IT READS IS OF BULK AT MOST 1048576: true; the input reads as it did. -/
def fnExactChildrenOfUptoRow : OpenClaim := { program := "ythmcimdnbapnhaa", sum := "94bda151523ae98d62996c06bf395f3e3c6eeb392945ede6dbe9b6b67cfd91a2", func := "loop.example/g01369/laws.FnExactChildrenOf", spec := "fnExactChildrenOf", unfollowed := true, recurses := true, apart := false, narrowed := true }
def FnExactChildrenOfUptoSaid : Prop := fnExactChildrenOfUptoRow.holds Try.pinned (OpenSpec.upto fnExactChildrenOfSpec)

/-- 'laws.FnExactGenerationOf', WHERE WHAT IT READS IS OF BULK AT MOST 1048576: true; the input reads as it did. -/
def fnExactGenerationOfUptoRow : OpenClaim := { program := "ythmcimdnbapnhaa", sum := "94bda151523ae98d62996c06bf395f3e3c6eeb392945ede6dbe9b6b67cfd91a2", func := "loop.example/g01369/laws.FnExactGenerationOf", spec := "fnExactGenerationOf", unfollowed := true, recurses := true, apart := false, narrowed := true }
def FnExactGenerationOfUptoSaid : Prop := fnExactGenerationOfUptoRow.holds Try.pinned (OpenSpec.upto fnExactGenerationOfSpec)

/-- 'laws.FnExactGenerationsOf', WHERE WHAT IT READS IS OF BULK AT MOST 1048576: true; the input reads as it did. -/
def fnExactGenerationsOfUptoRow : OpenClaim := { program := "ythmcimdnbapnhaa", sum := "94bda151523ae98d62996c06bf395f3e3c6eeb392945ede6dbe9b6b67cfd91a2", func := "loop.example/g01369/laws.FnExactGenerationsOf", spec := "fnExactGenerationsOf", unfollowed := true, recurses := true, apart := false, narrowed := true }
def FnExactGenerationsOfUptoSaid : Prop := fnExactGenerationsOfUptoRow.holds Try.pinned (OpenSpec.upto fnExactGenerationsOfSpec)

/-- 'laws.FnExactAreSiblings', WHERE WHAT IT READS IS OF BULK AT MOST 1048576: true; the input reads as it did. -/
def fnExactAreSiblingsUptoRow : OpenClaim := { program := "ythmcimdnbapnhaa", sum := "94bda151523ae98d62996c06bf395f3e3c6eeb392945ede6dbe9b6b67cfd91a2", func := "loop.example/g01369/laws.FnExactAreSiblings", spec := "fnExactAreSiblings", unfollowed := true, recurses := true, apart := false, narrowed := true }
def FnExactAreSiblingsUptoSaid : Prop := fnExactAreSiblingsUptoRow.holds Try.pinned (OpenSpec.upto fnExactAreSiblingsSpec)

/-- 'laws.FnExactAreHalf', WHERE WHAT IT READS IS OF BULK AT MOST 1048576: true; the input reads as it did. -/
def fnExactAreHalfUptoRow : OpenClaim := { program := "ythmcimdnbapnhaa", sum := "94bda151523ae98d62996c06bf395f3e3c6eeb392945ede6dbe9b6b67cfd91a2", func := "loop.example/g01369/laws.FnExactAreHalf", spec := "fnExactAreHalf", unfollowed := true, recurses := true, apart := false, narrowed := true }
def FnExactAreHalfUptoSaid : Prop := fnExactAreHalfUptoRow.holds Try.pinned (OpenSpec.upto fnExactAreHalfSpec)

/-- 'laws.FnExactAreCousins', WHERE WHAT IT READS IS OF BULK AT MOST 1048576: true; the input reads as it did. -/
def fnExactAreCousinsUptoRow : OpenClaim := { program := "ythmcimdnbapnhaa", sum := "94bda151523ae98d62996c06bf395f3e3c6eeb392945ede6dbe9b6b67cfd91a2", func := "loop.example/g01369/laws.FnExactAreCousins", spec := "fnExactAreCousins", unfollowed := true, recurses := true, apart := false, narrowed := true }
def FnExactAreCousinsUptoSaid : Prop := fnExactAreCousinsUptoRow.holds Try.pinned (OpenSpec.upto fnExactAreCousinsSpec)

/-- 'laws.FnExactAgeAtBirth', WHERE WHAT IT READS IS OF BULK AT MOST 1048576: true; the input reads as it did. -/
def fnExactAgeAtBirthUptoRow : OpenClaim := { program := "ythmcimdnbapnhaa", sum := "94bda151523ae98d62996c06bf395f3e3c6eeb392945ede6dbe9b6b67cfd91a2", func := "loop.example/g01369/laws.FnExactAgeAtBirth", spec := "fnExactAgeAtBirth", unfollowed := true, recurses := true, apart := false, narrowed := true }
def FnExactAgeAtBirthUptoSaid : Prop := fnExactAgeAtBirthUptoRow.holds Try.pinned (OpenSpec.upto fnExactAgeAtBirthSpec)

/-- 'laws.FnExactYoungestParent', WHERE WHAT IT READS IS OF BULK AT MOST 1048576: true; the input reads as it did. -/
def fnExactYoungestParentUptoRow : OpenClaim := { program := "ythmcimdnbapnhaa", sum := "94bda151523ae98d62996c06bf395f3e3c6eeb392945ede6dbe9b6b67cfd91a2", func := "loop.example/g01369/laws.FnExactYoungestParent", spec := "fnExactYoungestParent", unfollowed := true, recurses := true, apart := false, narrowed := true }
def FnExactYoungestParentUptoSaid : Prop := fnExactYoungestParentUptoRow.holds Try.pinned (OpenSpec.upto fnExactYoungestParentSpec)

/-- 'laws.FnExactMostChildren', WHERE WHAT IT READS IS OF BULK AT MOST 1048576: true; the input reads as it did. -/
def fnExactMostChildrenUptoRow : OpenClaim := { program := "ythmcimdnbapnhaa", sum := "94bda151523ae98d62996c06bf395f3e3c6eeb392945ede6dbe9b6b67cfd91a2", func := "loop.example/g01369/laws.FnExactMostChildren", spec := "fnExactMostChildren", unfollowed := true, recurses := true, apart := false, narrowed := true }
def FnExactMostChildrenUptoSaid : Prop := fnExactMostChildrenUptoRow.holds Try.pinned (OpenSpec.upto fnExactMostChildrenSpec)

end Rows
end Go.Proofs.Ythmcimdnbapnhaa
