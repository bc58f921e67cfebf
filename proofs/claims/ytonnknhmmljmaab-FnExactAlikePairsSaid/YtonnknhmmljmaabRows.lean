/-
  No cell of these rows narrows 'for every input' (looked for: loops, veiled, ifaces, maps, wideKeys, modest, calm, conditions, laid).
  DERIVED. THE GIVEN ROWS OF THIS SEAT. 8 by the template 'for every input the law returns true; each argument reads behind the call as it read before'; 0 by the template 'total and deterministic' (their statements: YtonnknhmmljmaabTotals.lean).
  GIVEN WITH THE SEED: the statements are not yours to turn. If you find one false, say at which input.
  Laid BY PROGRAM, IN A SANDBOX (cutbox-rows.mjs): the forced cells as the released guide's own fill.sh prints them over the translation b5e04b35882a8a69… (all of the seat's roots in one cut). By AI agents, Wed Nov 11 2026. No macro, syntax, notation, axiom, sorry.
-/
import Derived.Test.YtonnknhmmljmaabChecked
import GoSem.Claim
import GoSem.ClaimJoined
import GoSem.ClaimMapViews
import Derived.JoinedTies
import Derived.KernelRfl
namespace Go.Proofs.Ytonnknhmmljmaab
/- THE CELL 'sum', in the pinned program and in every row, IS THE sha256 OF THE DUMP (.gsa) THAT YtonnknhmmljmaabProg.lean LOADS. Nothing in Lean hashes anything: it is a label: what it is worth is what the hold of that sum in a sandbox is worth. -/
noncomputable def Try.pinned : Pinned := { name := "ytonnknhmmljmaab", sum := "b5e04b35882a8a6927500222bf42f06f42e69dcbae5451c1c92ccf285a82a329", checked := Try.checked }
namespace Rows
def none {H : Type} : Left H := { results := [], args := [] }

/-- 'laws.FnExactYearsToProduct': WHATEVER THE INPUT: true; the input reads as it did. -/
def fnExactYearsToProductSpec : ChangeSpec := { name := "fnExactYearsToProduct", fn := fun _ => fun
  | [d1, d2] => { results := [.lit (.bool true)], args := [d1, d2] }
  | _ => none }
def fnExactYearsToProductRow : OpenClaim := { program := "ytonnknhmmljmaab", sum := "b5e04b35882a8a6927500222bf42f06f42e69dcbae5451c1c92ccf285a82a329", func := "loop.example/g01369/laws.FnExactYearsToProduct", spec := "fnExactYearsToProduct", unfollowed := true, recurses := true, apart := false }
def FnExactYearsToProductSaid : Prop := fnExactYearsToProductRow.holds Try.pinned (OpenSpec.ofChange fnExactYearsToProductSpec)

/-- ITS FALSE NEIGHBOUR: 'it returns false'. Refute it at one input. -/
def fnExactYearsToProductWrong : ChangeSpec := { name := "fnExactYearsToProduct", fn := fun _ => fun
  | [d1, d2] => { results := [.lit (.bool false)], args := [d1, d2] }
  | _ => none }
def FnExactYearsToProductWrongFalsely : Prop := fnExactYearsToProductRow.holds Try.pinned (OpenSpec.ofChange fnExactYearsToProductWrong)

/-- 'laws.FnExactOrderOfAges': WHATEVER THE INPUT: true; the input reads as it did. -/
def fnExactOrderOfAgesSpec : ChangeSpec := { name := "fnExactOrderOfAges", fn := fun _ => fun
  | [d] => { results := [.lit (.bool true)], args := [d] }
  | _ => none }
def fnExactOrderOfAgesRow : OpenClaim := { program := "ytonnknhmmljmaab", sum := "b5e04b35882a8a6927500222bf42f06f42e69dcbae5451c1c92ccf285a82a329", func := "loop.example/g01369/laws.FnExactOrderOfAges", spec := "fnExactOrderOfAges", unfollowed := true, recurses := true, apart := false }
def FnExactOrderOfAgesSaid : Prop := fnExactOrderOfAgesRow.holds Try.pinned (OpenSpec.ofChange fnExactOrderOfAgesSpec)

/-- ITS FALSE NEIGHBOUR: 'it returns false'. Refute it at one input. -/
def fnExactOrderOfAgesWrong : ChangeSpec := { name := "fnExactOrderOfAges", fn := fun _ => fun
  | [d] => { results := [.lit (.bool false)], args := [d] }
  | _ => none }
def FnExactOrderOfAgesWrongFalsely : Prop := fnExactOrderOfAgesRow.holds Try.pinned (OpenSpec.ofChange fnExactOrderOfAgesWrong)

/-- 'laws.FnExactGapsOfAges': WHATEVER THE INPUT: true; the input reads as it did. -/
def fnExactGapsOfAgesSpec : ChangeSpec := { name := "fnExactGapsOfAges", fn := fun _ => fun
  | [d] => { results := [.lit (.bool true)], args := [d] }
  | _ => none }
def fnExactGapsOfAgesRow : OpenClaim := { program := "ytonnknhmmljmaab", sum := "b5e04b35882a8a6927500222bf42f06f42e69dcbae5451c1c92ccf285a82a329", func := "loop.example/g01369/laws.FnExactGapsOfAges", spec := "fnExactGapsOfAges", unfollowed := true, recurses := true, apart := false }
def FnExactGapsOfAgesSaid : Prop := fnExactGapsOfAgesRow.holds Try.pinned (OpenSpec.ofChange fnExactGapsOfAgesSpec)

/-- ITS FALSE NEIGHBOUR: 'it returns false'. Refute it at one input. -/
def fnExactGapsOfAgesWrong : ChangeSpec := { name := "fnExactGapsOfAges", fn := fun _ => fun
  | [d] => { results := [.lit (.bool false)], args := [d] }
  | _ => none }
def FnExactGapsOfAgesWrongFalsely : Prop := fnExactGapsOfAgesRow.holds Try.pinned (OpenSpec.ofChange fnExactGapsOfAgesWrong)

/-- 'laws.FnExactAlikePairs': WHATEVER THE INPUT: true; the input reads as it did. -/
def fnExactAlikePairsSpec : ChangeSpec := { name := "fnExactAlikePairs", fn := fun _ => fun
  | [d] => { results := [.lit (.bool true)], args := [d] }
  | _ => none }
def fnExactAlikePairsRow : OpenClaim := { program := "ytonnknhmmljmaab", sum := "b5e04b35882a8a6927500222bf42f06f42e69dcbae5451c1c92ccf285a82a329", func := "loop.example/g01369/laws.FnExactAlikePairs", spec := "fnExactAlikePairs", apart := false }
def FnExactAlikePairsSaid : Prop := fnExactAlikePairsRow.holds Try.pinned (OpenSpec.ofChange fnExactAlikePairsSpec)

/-- ITS FALSE NEIGHBOUR: 'it returns false'. Refute it at one input. -/
def fnExactAlikePairsWrong : ChangeSpec := { name := "fnExactAlikePairs", fn := fun _ => fun
  | [d] => { results := [.lit (.bool false)], args := [d] }
  | _ => none }
def FnExactAlikePairsWrongFalsely : Prop := fnExactAlikePairsRow.holds Try.pinned (OpenSpec.ofChange fnExactAlikePairsWrong)

/-- 'laws.FnExactBirthYears': WHATEVER THE INPUT: true; the input reads as it did. -/
def fnExactBirthYearsSpec : ChangeSpec := { name := "fnExactBirthYears", fn := fun _ => fun
  | [d1, d2] => { results := [.lit (.bool true)], args := [d1, d2] }
  | _ => none }
def fnExactBirthYearsRow : OpenClaim := { program := "ytonnknhmmljmaab", sum := "b5e04b35882a8a6927500222bf42f06f42e69dcbae5451c1c92ccf285a82a329", func := "loop.example/g01369/laws.FnExactBirthYears", spec := "fnExactBirthYears", apart := false }
def FnExactBirthYearsSaid : Prop := fnExactBirthYearsRow.holds Try.pinned (OpenSpec.ofChange fnExactBirthYearsSpec)

/-- ITS FALSE NEIGHBOUR: 'it returns false'. Refute it at one input. -/
def fnExactBirthYearsWrong : ChangeSpec := { name := "fnExactBirthYears", fn := fun _ => fun
  | [d1, d2] => { results := [.lit (.bool false)], args := [d1, d2] }
  | _ => none }
def FnExactBirthYearsWrongFalsely : Prop := fnExactBirthYearsRow.holds Try.pinned (OpenSpec.ofChange fnExactBirthYearsWrong)

/-- 'laws.FnExactAgesOfBirths': WHATEVER THE INPUT: true; the input reads as it did. -/
def fnExactAgesOfBirthsSpec : ChangeSpec := { name := "fnExactAgesOfBirths", fn := fun _ => fun
  | [d1, d2] => { results := [.lit (.bool true)], args := [d1, d2] }
  | _ => none }
def fnExactAgesOfBirthsRow : OpenClaim := { program := "ytonnknhmmljmaab", sum := "b5e04b35882a8a6927500222bf42f06f42e69dcbae5451c1c92ccf285a82a329", func := "loop.example/g01369/laws.FnExactAgesOfBirths", spec := "fnExactAgesOfBirths", apart := false }
def FnExactAgesOfBirthsSaid : Prop := fnExactAgesOfBirthsRow.holds Try.pinned (OpenSpec.ofChange fnExactAgesOfBirthsSpec)

/-- ITS FALSE NEIGHBOUR: 'it returns false'. Refute it at one input. -/
def fnExactAgesOfBirthsWrong : ChangeSpec := { name := "fnExactAgesOfBirths", fn := fun _ => fun
  | [d1, d2] => { results := [.lit (.bool false)], args := [d1, d2] }
  | _ => none }
def FnExactAgesOfBirthsWrongFalsely : Prop := fnExactAgesOfBirthsRow.holds Try.pinned (OpenSpec.ofChange fnExactAgesOfBirthsWrong)

/-- 'laws.FnExactAddAge': WHATEVER THE INPUT: true; the input reads as it did. -/
def fnExactAddAgeSpec : ChangeSpec := { name := "fnExactAddAge", fn := fun _ => fun
  | [d1, d2] => { results := [.lit (.bool true)], args := [d1, d2] }
  | _ => none }
def fnExactAddAgeRow : OpenClaim := { program := "ytonnknhmmljmaab", sum := "b5e04b35882a8a6927500222bf42f06f42e69dcbae5451c1c92ccf285a82a329", func := "loop.example/g01369/laws.FnExactAddAge", spec := "fnExactAddAge", apart := false }
def FnExactAddAgeSaid : Prop := fnExactAddAgeRow.holds Try.pinned (OpenSpec.ofChange fnExactAddAgeSpec)

/-- ITS FALSE NEIGHBOUR: 'it returns false'. Refute it at one input. -/
def fnExactAddAgeWrong : ChangeSpec := { name := "fnExactAddAge", fn := fun _ => fun
  | [d1, d2] => { results := [.lit (.bool false)], args := [d1, d2] }
  | _ => none }
def FnExactAddAgeWrongFalsely : Prop := fnExactAddAgeRow.holds Try.pinned (OpenSpec.ofChange fnExactAddAgeWrong)

/-- 'laws.FnExactDropAge': WHATEVER THE INPUT: true; the input reads as it did. -/
def fnExactDropAgeSpec : ChangeSpec := { name := "fnExactDropAge", fn := fun _ => fun
  | [d1, d2] => { results := [.lit (.bool true)], args := [d1, d2] }
  | _ => none }
def fnExactDropAgeRow : OpenClaim := { program := "ytonnknhmmljmaab", sum := "b5e04b35882a8a6927500222bf42f06f42e69dcbae5451c1c92ccf285a82a329", func := "loop.example/g01369/laws.FnExactDropAge", spec := "fnExactDropAge", apart := false }
def FnExactDropAgeSaid : Prop := fnExactDropAgeRow.holds Try.pinned (OpenSpec.ofChange fnExactDropAgeSpec)

/-- ITS FALSE NEIGHBOUR: 'it returns false'. Refute it at one input. -/
def fnExactDropAgeWrong : ChangeSpec := { name := "fnExactDropAge", fn := fun _ => fun
  | [d1, d2] => { results := [.lit (.bool false)], args := [d1, d2] }
  | _ => none }
def FnExactDropAgeWrongFalsely : Prop := fnExactDropAgeRow.holds Try.pinned (OpenSpec.ofChange fnExactDropAgeWrong)

/- THE SECOND FORM. 'bulk': how many values and letters a reading holds, each counted each time it is reached (what is shared counts as often as it is met; a slice's spare places count too). A statement '..UptoSaid' is the law's where the arguments, and the package variables that the reading takes, are together of bulk at most 1048576: NARROWER than '..Said'. Prove '..Said' where nothing that the law and all that it calls make is longer than what came in: it says more and counts as full. Else prove '..UptoSaid'. A law counts once. -/
mutual
def uptoBulk {H : Type} : DataW H → Nat
  | .lit (.string bytes) => bytes.length + 1
  | .lit _ => 1
  | .nil => 1
  | .ptr d => uptoBulk d + 1
  | .slice elems spare => uptoBulkAll elems + uptoBulkAll spare + 1
  | .agg parts => uptoBulkAll parts + 1
  | .iface _ d => uptoBulk d + 1
  | .map entries => uptoBulkEntries entries + 1
  | .held _ => 1
def uptoBulkAll {H : Type} : List (DataW H) → Nat
  | [] => 0
  | d :: r => uptoBulk d + uptoBulkAll r
def uptoBulkEntries {H : Type} : List (Lit × DataW H) → Nat
  | [] => 0
  | x :: r => uptoBulkEntry x + uptoBulkEntries r
def uptoBulkEntry {H : Type} : Lit × DataW H → Nat
  | (.string bytes, d) => bytes.length + uptoBulk d + 1
  | (_, d) => uptoBulk d + 1
 end
def uptoSmall : (H : Type) → List (DataW H) → Bool := fun _ ds => decide (uptoBulkAll ds ≤ 1048576)
def OpenSpec.upto (s : _root_.Go.ChangeSpec) : _root_.Go.OpenSpec := { _root_.Go.OpenSpec.ofChange s with cond := some uptoSmall }

/-- 'laws.FnExactYearsToProduct', WHERE WHAT IT READS IS OF BULK AT MOST 1048576: true; the input reads as it did. -/
def fnExactYearsToProductUptoRow : OpenClaim := { program := "ytonnknhmmljmaab", sum := "b5e04b35882a8a6927500222bf42f06f42e69dcbae5451c1c92ccf285a82a329", func := "loop.example/g01369/laws.FnExactYearsToProduct", spec := "fnExactYearsToProduct", unfollowed := true, recurses := true, apart := false, narrowed := true }
def FnExactYearsToProductUptoSaid : Prop := fnExactYearsToProductUptoRow.holds Try.pinned (OpenSpec.upto fnExactYearsToProductSpec)

/-- 'laws.FnExactOrderOfAges', WHERE WHAT IT READS IS OF BULK AT MOST 1048576: true; the input reads as it did. -/
def fnExactOrderOfAgesUptoRow : OpenClaim := { program := "ytonnknhmmljmaab", sum := "b5e04b35882a8a6927500222bf42f06f42e69dcbae5451c1c92ccf285a82a329", func := "loop.example/g01369/laws.FnExactOrderOfAges", spec := "fnExactOrderOfAges", unfollowed := true, recurses := true, apart := false, narrowed := true }
def FnExactOrderOfAgesUptoSaid : Prop := fnExactOrderOfAgesUptoRow.holds Try.pinned (OpenSpec.upto fnExactOrderOfAgesSpec)

/-- 'laws.FnExactGapsOfAges', WHERE WHAT IT READS IS OF BULK AT MOST 1048576: true; the input reads as it did. -/
def fnExactGapsOfAgesUptoRow : OpenClaim := { program := "ytonnknhmmljmaab", sum := "b5e04b35882a8a6927500222bf42f06f42e69dcbae5451c1c92ccf285a82a329", func := "loop.example/g01369/laws.FnExactGapsOfAges", spec := "fnExactGapsOfAges", unfollowed := true, recurses := true, apart := false, narrowed := true }
def FnExactGapsOfAgesUptoSaid : Prop := fnExactGapsOfAgesUptoRow.holds Try.pinned (OpenSpec.upto fnExactGapsOfAgesSpec)

/-- 'laws.FnExactAlikePairs', WHERE WHAT IT READS IS OF BULK AT MOST 1048576: true; the input reads as it did. -/
def fnExactAlikePairsUptoRow : OpenClaim := { program := "ytonnknhmmljmaab", sum := "b5e04b35882a8a6927500222bf42f06f42e69dcbae5451c1c92ccf285a82a329", func := "loop.example/g01369/laws.FnExactAlikePairs", spec := "fnExactAlikePairs", apart := false, narrowed := true }
def FnExactAlikePairsUptoSaid : Prop := fnExactAlikePairsUptoRow.holds Try.pinned (OpenSpec.upto fnExactAlikePairsSpec)

/-- 'laws.FnExactBirthYears', WHERE WHAT IT READS IS OF BULK AT MOST 1048576: true; the input reads as it did. -/
def fnExactBirthYearsUptoRow : OpenClaim := { program := "ytonnknhmmljmaab", sum := "b5e04b35882a8a6927500222bf42f06f42e69dcbae5451c1c92ccf285a82a329", func := "loop.example/g01369/laws.FnExactBirthYears", spec := "fnExactBirthYears", apart := false, narrowed := true }
def FnExactBirthYearsUptoSaid : Prop := fnExactBirthYearsUptoRow.holds Try.pinned (OpenSpec.upto fnExactBirthYearsSpec)

/-- 'laws.FnExactAgesOfBirths', WHERE WHAT IT READS IS OF BULK AT MOST 1048576: true; the input reads as it did. -/
def fnExactAgesOfBirthsUptoRow : OpenClaim := { program := "ytonnknhmmljmaab", sum := "b5e04b35882a8a6927500222bf42f06f42e69dcbae5451c1c92ccf285a82a329", func := "loop.example/g01369/laws.FnExactAgesOfBirths", spec := "fnExactAgesOfBirths", apart := false, narrowed := true }
def FnExactAgesOfBirthsUptoSaid : Prop := fnExactAgesOfBirthsUptoRow.holds Try.pinned (OpenSpec.upto fnExactAgesOfBirthsSpec)

/-- 'laws.FnExactAddAge', WHERE WHAT IT READS IS OF BULK AT MOST 1048576: true; the input reads as it did. -/
def fnExactAddAgeUptoRow : OpenClaim := { program := "ytonnknhmmljmaab", sum := "b5e04b35882a8a6927500222bf42f06f42e69dcbae5451c1c92ccf285a82a329", func := "loop.example/g01369/laws.FnExactAddAge", spec := "fnExactAddAge", apart := false, narrowed := true }
def FnExactAddAgeUptoSaid : Prop := fnExactAddAgeUptoRow.holds Try.pinned (OpenSpec.upto fnExactAddAgeSpec)

/-- 'laws.FnExactDropAge', WHERE WHAT IT READS IS OF BULK AT MOST 1048576: true; the input reads as it did. -/
def fnExactDropAgeUptoRow : OpenClaim := { program := "ytonnknhmmljmaab", sum := "b5e04b35882a8a6927500222bf42f06f42e69dcbae5451c1c92ccf285a82a329", func := "loop.example/g01369/laws.FnExactDropAge", spec := "fnExactDropAge", apart := false, narrowed := true }
def FnExactDropAgeUptoSaid : Prop := fnExactDropAgeUptoRow.holds Try.pinned (OpenSpec.upto fnExactDropAgeSpec)

end Rows
end Go.Proofs.Ytonnknhmmljmaab
