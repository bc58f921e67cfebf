/-
  No cell of these rows narrows 'for every input' (looked for: loops, veiled, ifaces, maps, wideKeys, modest, calm, conditions, laid).
  DERIVED. THE GIVEN ROWS OF THIS SEAT. 12 by the template 'for every input the law returns true; each argument reads behind the call as it read before'; 0 by the template 'total and deterministic' (their statements: YtonnknhmmljmaaaTotals.lean).
  GIVEN WITH THE SEED: the statements are not yours to turn. If you find one false, say at which input.
  Laid BY PROGRAM, IN A SANDBOX (cutbox-rows.mjs): the forced cells as the released guide's own fill.sh prints them over the translation 1e183fb223a5c7fa… (all of the seat's roots in one cut). By AI agents, Wed Nov 11 2026. No macro, syntax, notation, axiom, sorry.
-/
import Derived.Test.YtonnknhmmljmaaaChecked
import GoSem.Claim
import GoSem.ClaimJoined
import GoSem.ClaimMapViews
import Derived.JoinedTies
import Derived.KernelRfl
namespace Go.Proofs.Ytonnknhmmljmaaa
/- THE CELL 'sum', in the pinned program and in every row, IS THE sha256 OF THE DUMP (.gsa) THAT YtonnknhmmljmaaaProg.lean LOADS. Nothing in Lean hashes anything: it is a label: what it is worth is what the hold of that sum in a sandbox is worth. -/
noncomputable def Try.pinned : Pinned := { name := "ytonnknhmmljmaaa", sum := "1e183fb223a5c7fa33d7d8597a36bc524e5b61cf3b38b534aed8173bc37343e9", checked := Try.checked }
namespace Rows
def none {H : Type} : Left H := { results := [], args := [] }

/-- 'laws.FnExactAreAges': WHATEVER THE INPUT: true; the input reads as it did. -/
def fnExactAreAgesSpec : ChangeSpec := { name := "fnExactAreAges", fn := fun _ => fun
  | [d] => { results := [.lit (.bool true)], args := [d] }
  | _ => none }
def fnExactAreAgesRow : OpenClaim := { program := "ytonnknhmmljmaaa", sum := "1e183fb223a5c7fa33d7d8597a36bc524e5b61cf3b38b534aed8173bc37343e9", func := "loop.example/g01369/laws.FnExactAreAges", spec := "fnExactAreAges", apart := false }
def FnExactAreAgesSaid : Prop := fnExactAreAgesRow.holds Try.pinned (OpenSpec.ofChange fnExactAreAgesSpec)

/-- ITS FALSE NEIGHBOUR: 'it returns false'. Refute it at one input. -/
def fnExactAreAgesWrong : ChangeSpec := { name := "fnExactAreAges", fn := fun _ => fun
  | [d] => { results := [.lit (.bool false)], args := [d] }
  | _ => none }
def FnExactAreAgesWrongFalsely : Prop := fnExactAreAgesRow.holds Try.pinned (OpenSpec.ofChange fnExactAreAgesWrong)

/-- 'laws.FnExactAgesIn': WHATEVER THE INPUT: true; the input reads as it did. -/
def fnExactAgesInSpec : ChangeSpec := { name := "fnExactAgesIn", fn := fun _ => fun
  | [d1, d2] => { results := [.lit (.bool true)], args := [d1, d2] }
  | _ => none }
def fnExactAgesInRow : OpenClaim := { program := "ytonnknhmmljmaaa", sum := "1e183fb223a5c7fa33d7d8597a36bc524e5b61cf3b38b534aed8173bc37343e9", func := "loop.example/g01369/laws.FnExactAgesIn", spec := "fnExactAgesIn", apart := false }
def FnExactAgesInSaid : Prop := fnExactAgesInRow.holds Try.pinned (OpenSpec.ofChange fnExactAgesInSpec)

/-- ITS FALSE NEIGHBOUR: 'it returns false'. Refute it at one input. -/
def fnExactAgesInWrong : ChangeSpec := { name := "fnExactAgesIn", fn := fun _ => fun
  | [d1, d2] => { results := [.lit (.bool false)], args := [d1, d2] }
  | _ => none }
def FnExactAgesInWrongFalsely : Prop := fnExactAgesInRow.holds Try.pinned (OpenSpec.ofChange fnExactAgesInWrong)

/-- 'laws.FnExactSumIn': WHATEVER THE INPUT: true; the input reads as it did. -/
def fnExactSumInSpec : ChangeSpec := { name := "fnExactSumIn", fn := fun _ => fun
  | [d1, d2] => { results := [.lit (.bool true)], args := [d1, d2] }
  | _ => none }
def fnExactSumInRow : OpenClaim := { program := "ytonnknhmmljmaaa", sum := "1e183fb223a5c7fa33d7d8597a36bc524e5b61cf3b38b534aed8173bc37343e9", func := "loop.example/g01369/laws.FnExactSumIn", spec := "fnExactSumIn", unfollowed := true, recurses := true, apart := false }
def FnExactSumInSaid : Prop := fnExactSumInRow.holds Try.pinned (OpenSpec.ofChange fnExactSumInSpec)

/-- ITS FALSE NEIGHBOUR: 'it returns false'. Refute it at one input. -/
def fnExactSumInWrong : ChangeSpec := { name := "fnExactSumIn", fn := fun _ => fun
  | [d1, d2] => { results := [.lit (.bool false)], args := [d1, d2] }
  | _ => none }
def FnExactSumInWrongFalsely : Prop := fnExactSumInRow.holds Try.pinned (OpenSpec.ofChange fnExactSumInWrong)

/-- 'laws.FnExactProductIn': WHATEVER THE INPUT: true; the input reads as it did. -/
def fnExactProductInSpec : ChangeSpec := { name := "fnExactProductIn", fn := fun _ => fun
  | [d1, d2] => { results := [.lit (.bool true)], args := [d1, d2] }
  | _ => none }
def fnExactProductInRow : OpenClaim := { program := "ytonnknhmmljmaaa", sum := "1e183fb223a5c7fa33d7d8597a36bc524e5b61cf3b38b534aed8173bc37343e9", func := "loop.example/g01369/laws.FnExactProductIn", spec := "fnExactProductIn", unfollowed := true, recurses := true, apart := false }
def FnExactProductInSaid : Prop := fnExactProductInRow.holds Try.pinned (OpenSpec.ofChange fnExactProductInSpec)

/-- ITS FALSE NEIGHBOUR: 'it returns false'. Refute it at one input. -/
def fnExactProductInWrong : ChangeSpec := { name := "fnExactProductIn", fn := fun _ => fun
  | [d1, d2] => { results := [.lit (.bool false)], args := [d1, d2] }
  | _ => none }
def FnExactProductInWrongFalsely : Prop := fnExactProductInRow.holds Try.pinned (OpenSpec.ofChange fnExactProductInWrong)

/-- 'laws.FnExactYearsRange': WHATEVER THE INPUT: true; the input reads as it did. -/
def fnExactYearsRangeSpec : ChangeSpec := { name := "fnExactYearsRange", fn := fun _ => fun
  | [d] => { results := [.lit (.bool true)], args := [d] }
  | _ => none }
def fnExactYearsRangeRow : OpenClaim := { program := "ytonnknhmmljmaaa", sum := "1e183fb223a5c7fa33d7d8597a36bc524e5b61cf3b38b534aed8173bc37343e9", func := "loop.example/g01369/laws.FnExactYearsRange", spec := "fnExactYearsRange", apart := false }
def FnExactYearsRangeSaid : Prop := fnExactYearsRangeRow.holds Try.pinned (OpenSpec.ofChange fnExactYearsRangeSpec)

/-- ITS FALSE NEIGHBOUR: 'it returns false'. Refute it at one input. -/
def fnExactYearsRangeWrong : ChangeSpec := { name := "fnExactYearsRange", fn := fun _ => fun
  | [d] => { results := [.lit (.bool false)], args := [d] }
  | _ => none }
def FnExactYearsRangeWrongFalsely : Prop := fnExactYearsRangeRow.holds Try.pinned (OpenSpec.ofChange fnExactYearsRangeWrong)

/-- 'laws.FnExactYearsToSum': WHATEVER THE INPUT: true; the input reads as it did. -/
def fnExactYearsToSumSpec : ChangeSpec := { name := "fnExactYearsToSum", fn := fun _ => fun
  | [d1, d2] => { results := [.lit (.bool true)], args := [d1, d2] }
  | _ => none }
def fnExactYearsToSumRow : OpenClaim := { program := "ytonnknhmmljmaaa", sum := "1e183fb223a5c7fa33d7d8597a36bc524e5b61cf3b38b534aed8173bc37343e9", func := "loop.example/g01369/laws.FnExactYearsToSum", spec := "fnExactYearsToSum", unfollowed := true, recurses := true, apart := false }
def FnExactYearsToSumSaid : Prop := fnExactYearsToSumRow.holds Try.pinned (OpenSpec.ofChange fnExactYearsToSumSpec)

/-- ITS FALSE NEIGHBOUR: 'it returns false'. Refute it at one input. -/
def fnExactYearsToSumWrong : ChangeSpec := { name := "fnExactYearsToSum", fn := fun _ => fun
  | [d1, d2] => { results := [.lit (.bool false)], args := [d1, d2] }
  | _ => none }
def FnExactYearsToSumWrongFalsely : Prop := fnExactYearsToSumRow.holds Try.pinned (OpenSpec.ofChange fnExactYearsToSumWrong)

/-- 'laws.FnExactYearsToMean': WHATEVER THE INPUT: true; the input reads as it did. -/
def fnExactYearsToMeanSpec : ChangeSpec := { name := "fnExactYearsToMean", fn := fun _ => fun
  | [d1, d2, d3] => { results := [.lit (.bool true)], args := [d1, d2, d3] }
  | _ => none }
def fnExactYearsToMeanRow : OpenClaim := { program := "ytonnknhmmljmaaa", sum := "1e183fb223a5c7fa33d7d8597a36bc524e5b61cf3b38b534aed8173bc37343e9", func := "loop.example/g01369/laws.FnExactYearsToMean", spec := "fnExactYearsToMean", unfollowed := true, recurses := true, apart := false }
def FnExactYearsToMeanSaid : Prop := fnExactYearsToMeanRow.holds Try.pinned (OpenSpec.ofChange fnExactYearsToMeanSpec)

/-- ITS FALSE NEIGHBOUR: 'it returns false'. Refute it at one input. -/
def fnExactYearsToMeanWrong : ChangeSpec := { name := "fnExactYearsToMean", fn := fun _ => fun
  | [d1, d2, d3] => { results := [.lit (.bool false)], args := [d1, d2, d3] }
  | _ => none }
def FnExactYearsToMeanWrongFalsely : Prop := fnExactYearsToMeanRow.holds Try.pinned (OpenSpec.ofChange fnExactYearsToMeanWrong)

/-- 'laws.FnExactMeanAge': WHATEVER THE INPUT: true; the input reads as it did. -/
def fnExactMeanAgeSpec : ChangeSpec := { name := "fnExactMeanAge", fn := fun _ => fun
  | [d] => { results := [.lit (.bool true)], args := [d] }
  | _ => none }
def fnExactMeanAgeRow : OpenClaim := { program := "ytonnknhmmljmaaa", sum := "1e183fb223a5c7fa33d7d8597a36bc524e5b61cf3b38b534aed8173bc37343e9", func := "loop.example/g01369/laws.FnExactMeanAge", spec := "fnExactMeanAge", unfollowed := true, recurses := true, apart := false }
def FnExactMeanAgeSaid : Prop := fnExactMeanAgeRow.holds Try.pinned (OpenSpec.ofChange fnExactMeanAgeSpec)

/-- ITS FALSE NEIGHBOUR: 'it returns false'. Refute it at one input. -/
def fnExactMeanAgeWrong : ChangeSpec := { name := "fnExactMeanAge", fn := fun _ => fun
  | [d] => { results := [.lit (.bool false)], args := [d] }
  | _ => none }
def FnExactMeanAgeWrongFalsely : Prop := fnExactMeanAgeRow.holds Try.pinned (OpenSpec.ofChange fnExactMeanAgeWrong)

/-- 'laws.FnExactTimesOlder': WHATEVER THE INPUT: true; the input reads as it did. -/
def fnExactTimesOlderSpec : ChangeSpec := { name := "fnExactTimesOlder", fn := fun _ => fun
  | [d1, d2, d3] => { results := [.lit (.bool true)], args := [d1, d2, d3] }
  | _ => none }
def fnExactTimesOlderRow : OpenClaim := { program := "ytonnknhmmljmaaa", sum := "1e183fb223a5c7fa33d7d8597a36bc524e5b61cf3b38b534aed8173bc37343e9", func := "loop.example/g01369/laws.FnExactTimesOlder", spec := "fnExactTimesOlder", apart := false }
def FnExactTimesOlderSaid : Prop := fnExactTimesOlderRow.holds Try.pinned (OpenSpec.ofChange fnExactTimesOlderSpec)

/-- ITS FALSE NEIGHBOUR: 'it returns false'. Refute it at one input. -/
def fnExactTimesOlderWrong : ChangeSpec := { name := "fnExactTimesOlder", fn := fun _ => fun
  | [d1, d2, d3] => { results := [.lit (.bool false)], args := [d1, d2, d3] }
  | _ => none }
def FnExactTimesOlderWrongFalsely : Prop := fnExactTimesOlderRow.holds Try.pinned (OpenSpec.ofChange fnExactTimesOlderWrong)

/-- 'laws.FnExactYearsOfMultiple': WHATEVER THE INPUT: true; the input reads as it did. -/
def fnExactYearsOfMultipleSpec : ChangeSpec := { name := "fnExactYearsOfMultiple", fn := fun _ => fun
  | [d1, d2, d3, d4] => { results := [.lit (.bool true)], args := [d1, d2, d3, d4] }
  | _ => none }
def fnExactYearsOfMultipleRow : OpenClaim := { program := "ytonnknhmmljmaaa", sum := "1e183fb223a5c7fa33d7d8597a36bc524e5b61cf3b38b534aed8173bc37343e9", func := "loop.example/g01369/laws.FnExactYearsOfMultiple", spec := "fnExactYearsOfMultiple", unfollowed := true, recurses := true, apart := false }
def FnExactYearsOfMultipleSaid : Prop := fnExactYearsOfMultipleRow.holds Try.pinned (OpenSpec.ofChange fnExactYearsOfMultipleSpec)

/-- ITS FALSE NEIGHBOUR: 'it returns false'. Refute it at one input. -/
def fnExactYearsOfMultipleWrong : ChangeSpec := { name := "fnExactYearsOfMultiple", fn := fun _ => fun
  | [d1, d2, d3, d4] => { results := [.lit (.bool false)], args := [d1, d2, d3, d4] }
  | _ => none }
def FnExactYearsOfMultipleWrongFalsely : Prop := fnExactYearsOfMultipleRow.holds Try.pinned (OpenSpec.ofChange fnExactYearsOfMultipleWrong)

/-- 'laws.FnExactAllMultiples': WHATEVER THE INPUT: true; the input reads as it did. -/
def fnExactAllMultiplesSpec : ChangeSpec := { name := "fnExactAllMultiples", fn := fun _ => fun
  | [d1, d2, d3] => { results := [.lit (.bool true)], args := [d1, d2, d3] }
  | _ => none }
def fnExactAllMultiplesRow : OpenClaim := { program := "ytonnknhmmljmaaa", sum := "1e183fb223a5c7fa33d7d8597a36bc524e5b61cf3b38b534aed8173bc37343e9", func := "loop.example/g01369/laws.FnExactAllMultiples", spec := "fnExactAllMultiples", unfollowed := true, recurses := true, apart := false }
def FnExactAllMultiplesSaid : Prop := fnExactAllMultiplesRow.holds Try.pinned (OpenSpec.ofChange fnExactAllMultiplesSpec)

/-- ITS FALSE NEIGHBOUR: 'it returns false'. Refute it at one input. -/
def fnExactAllMultiplesWrong : ChangeSpec := { name := "fnExactAllMultiples", fn := fun _ => fun
  | [d1, d2, d3] => { results := [.lit (.bool false)], args := [d1, d2, d3] }
  | _ => none }
def FnExactAllMultiplesWrongFalsely : Prop := fnExactAllMultiplesRow.holds Try.pinned (OpenSpec.ofChange fnExactAllMultiplesWrong)

/-- 'laws.FnExactYearsAsSum': WHATEVER THE INPUT: true; the input reads as it did. -/
def fnExactYearsAsSumSpec : ChangeSpec := { name := "fnExactYearsAsSum", fn := fun _ => fun
  | [d1, d2] => { results := [.lit (.bool true)], args := [d1, d2] }
  | _ => none }
def fnExactYearsAsSumRow : OpenClaim := { program := "ytonnknhmmljmaaa", sum := "1e183fb223a5c7fa33d7d8597a36bc524e5b61cf3b38b534aed8173bc37343e9", func := "loop.example/g01369/laws.FnExactYearsAsSum", spec := "fnExactYearsAsSum", unfollowed := true, recurses := true, apart := false }
def FnExactYearsAsSumSaid : Prop := fnExactYearsAsSumRow.holds Try.pinned (OpenSpec.ofChange fnExactYearsAsSumSpec)

/-- ITS FALSE NEIGHBOUR: 'it returns false'. Refute it at one input. -/
def fnExactYearsAsSumWrong : ChangeSpec := { name := "fnExactYearsAsSum", fn := fun _ => fun
  | [d1, d2] => { results := [.lit (.bool false)], args := [d1, d2] }
  | _ => none }
def FnExactYearsAsSumWrongFalsely : Prop := fnExactYearsAsSumRow.holds Try.pinned (OpenSpec.ofChange fnExactYearsAsSumWrong)

/- THE SECOND FORM. 'bulk': how many values and letters a reading holds, each counted each time it is reached (what is shared counts as often as it is met; a slice's spare places count too). A statement '..UptoSaid' is the law's where the arguments, and the package variables that the reading takes, are together of bulk at most 1048576: NARROWER than '..Said'. Prove '..Said' where nothing that the law and all that it calls make is longer than what came in: it says more and counts as full. Else prove '..UptoSaid'. A law counts once. -/
mutual
def uptoBulk {H : Type} : DataW H → Nat
  | .lit (.string bytes) => bytes.length + 1
  | .lit _ => 1
  | .nil => 1
  | .ptr d => uptoBulk d + 1
  | .slice elems spare => uptoBulkAll elems + uptoBulkAll spare + 1
  | .agg parts => uptoBulkAll parts + 1
  | .iface _ d => uptoBulk d + 1
  | .map entries => uptoBulkEntries entries + 1
  | .held _ => 1
def uptoBulkAll {H : Type} : List (DataW H) → Nat
  | [] => 0
  | d :: r => uptoBulk d + uptoBulkAll r
def uptoBulkEntries {H : Type} : List (Lit × DataW H) → Nat
  | [] => 0
  | x :: r => uptoBulkEntry x + uptoBulkEntries r
def uptoBulkEntry {H : Type} : Lit × DataW H → Nat
  | (.string bytes, d) => bytes.length + uptoBulk d + 1
  | (_, d) => uptoBulk d + 1
 end
def uptoSmall : (H : Type) → List (DataW H) → Bool := fun _ ds => decide (uptoBulkAll ds ≤ 1048576)
def OpenSpec.upto (s : _root_.Go.ChangeSpec) : _root_.Go.OpenSpec := { _root_.Go.OpenSpec.ofChange s with cond := some uptoSmall }

/-- 'laws.FnExactAreAges', WHERE WHAT IT READS IS OF BULK AT MOST 1048576: true; the input reads as it did. -/
def fnExactAreAgesUptoRow : OpenClaim := { program := "ytonnknhmmljmaaa", sum := "1e183fb223a5c7fa33d7d8597a36bc524e5b61cf3b38b534aed8173bc37343e9", func := "loop.example/g01369/laws.FnExactAreAges", spec := "fnExactAreAges", apart := false, narrowed := true }
def FnExactAreAgesUptoSaid : Prop := fnExactAreAgesUptoRow.holds Try.pinned (OpenSpec.upto fnExactAreAgesSpec)

/-- 'laws.FnExactAgesIn', WHERE WHAT IT READS IS OF BULK AT MOST 1048576: true; the input reads as it did. -/
def fnExactAgesInUptoRow : OpenClaim := { program := "ytonnknhmmljmaaa", sum := "1e183fb223a5c7fa33d7d8597a36bc524e5b61cf3b38b534aed8173bc37343e9", func := "loop.example/g01369/laws.FnExactAgesIn", spec := "fnExactAgesIn", apart := false, narrowed := true }
def FnExactAgesInUptoSaid : Prop := fnExactAgesInUptoRow.holds Try.pinned (OpenSpec.upto fnExactAgesInSpec)

/-- 'laws.FnExactSumIn', WHERE WHAT IT READS IS OF BULK AT MOST 1048576: true; the input reads as it did. -/
def fnExactSumInUptoRow : OpenClaim := { program := "ytonnknhmmljmaaa", sum := "1e183fb223a5c7fa33d7d8597a36bc524e5b61cf3b38b534aed8173bc37343e9", func := "loop.example/g01369/laws.FnExactSumIn", spec := "fnExactSumIn", unfollowed := true, recurses := true, apart := false, narrowed := true }
def FnExactSumInUptoSaid : Prop := fnExactSumInUptoRow.holds Try.pinned (OpenSpec.upto fnExactSumInSpec)

/-- 'laws.FnExactProductIn', WHERE WHAT IT READS IS OF BULK AT MOST 1048576: true; the input reads as it did. -/
def fnExactProductInUptoRow : OpenClaim := { program := "ytonnknhmmljmaaa", sum := "1e183fb223a5c7fa33d7d8597a36bc524e5b61cf3b38b534aed8173bc37343e9", func := "loop.example/g01369/laws.FnExactProductIn", spec := "fnExactProductIn", unfollowed := true, recurses := true, apart := false, narrowed := true }
def FnExactProductInUptoSaid : Prop := fnExactProductInUptoRow.holds Try.pinned (OpenSpec.upto fnExactProductInSpec)

/-- 'laws.FnExactYearsRange', WHERE WHAT IT READS IS OF BULK AT MOST 1048576: true; the input reads as it did. -/
def fnExactYearsRangeUptoRow : OpenClaim := { program := "ytonnknhmmljmaaa", sum := "1e183fb223a5c7fa33d7d8597a36bc524e5b61cf3b38b534aed8173bc37343e9", func := "loop.example/g01369/laws.FnExactYearsRange", spec := "fnExactYearsRange", apart := false, narrowed := true }
def FnExactYearsRangeUptoSaid : Prop := fnExactYearsRangeUptoRow.holds Try.pinned (OpenSpec.upto fnExactYearsRangeSpec)

/-- 'laws.FnExactYearsToSum', WHERE WHAT IT READS IS OF BULK AT MOST 1048576: true; the input reads as it did. -/
def fnExactYearsToSumUptoRow : OpenClaim := { program := "ytonnknhmmljmaaa", sum := "1e183fb223a5c7fa33d7d8597a36bc524e5b61cf3b38b534aed8173bc37343e9", func := "loop.example/g01369/laws.FnExactYearsToSum", spec := "fnExactYearsToSum", unfollowed := true, recurses := true, apart := false, narrowed := true }
def FnExactYearsToSumUptoSaid : Prop := fnExactYearsToSumUptoRow.holds Try.pinned (OpenSpec.upto fnExactYearsToSumSpec)

/-- 'laws.FnExactYearsToMean', WHERE WHAT IT READS IS OF BULK AT MOST 1048576: true; the input reads as it did. -/
def fnExactYearsToMeanUptoRow : OpenClaim := { program := "ytonnknhmmljmaaa", sum := "1e183fb223a5c7fa33d7d8597a36bc524e5b61cf3b38b534aed8173bc37343e9", func := "loop.example/g01369/laws.FnExactYearsToMean", spec := "fnExactYearsToMean", unfollowed := true, recurses := true, apart := false, narrowed := true }
def FnExactYearsToMeanUptoSaid : Prop := fnExactYearsToMeanUptoRow.holds Try.pinned (OpenSpec.upto fnExactYearsToMeanSpec)

/-- 'laws.FnExactMeanAge', WHERE WHAT IT READS IS OF BULK AT MOST 1048576: true; the input reads as it did. -/
def fnExactMeanAgeUptoRow : OpenClaim := { program := "ytonnknhmmljmaaa", sum := "1e183fb223a5c7fa33d7d8597a36bc524e5b61cf3b38b534aed8173bc37343e9", func := "loop.example/g01369/laws.FnExactMeanAge", spec := "fnExactMeanAge", unfollowed := true, recurses := true, apart := false, narrowed := true }
def FnExactMeanAgeUptoSaid : Prop := fnExactMeanAgeUptoRow.holds Try.pinned (OpenSpec.upto fnExactMeanAgeSpec)

/-- 'laws.FnExactTimesOlder', WHERE WHAT IT READS IS OF BULK AT MOST 1048576: true; the input reads as it did. -/
def fnExactTimesOlderUptoRow : OpenClaim := { program := "ytonnknhmmljmaaa", sum := "1e183fb223a5c7fa33d7d8597a36bc524e5b61cf3b38b534aed8173bc37343e9", func := "loop.example/g01369/laws.FnExactTimesOlder", spec := "fnExactTimesOlder", apart := false, narrowed := true }
def FnExactTimesOlderUptoSaid : Prop := fnExactTimesOlderUptoRow.holds Try.pinned (OpenSpec.upto fnExactTimesOlderSpec)

/-- 'laws.FnExactYearsOfMultiple', WHERE WHAT IT READS IS OF BULK AT MOST 1048576: true; the input reads as it did. -/
def fnExactYearsOfMultipleUptoRow : OpenClaim := { program := "ytonnknhmmljmaaa", sum := "1e183fb223a5c7fa33d7d8597a36bc524e5b61cf3b38b534aed8173bc37343e9", func := "loop.example/g01369/laws.FnExactYearsOfMultiple", spec := "fnExactYearsOfMultiple", unfollowed := true, recurses := true, apart := false, narrowed := true }
def FnExactYearsOfMultipleUptoSaid : Prop := fnExactYearsOfMultipleUptoRow.holds Try.pinned (OpenSpec.upto fnExactYearsOfMultipleSpec)

/-- 'laws.FnExactAllMultiples', WHERE WHAT IT READS IS OF BULK AT MOST 1048576: true; the input reads as it did. -/
def fnExactAllMultiplesUptoRow : OpenClaim := { program := "ytonnknhmmljmaaa", sum := "1e183fb223a5c7fa33d7d8597a36bc524e5b61cf3b38b534aed8173bc37343e9", func := "loop.example/g01369/laws.FnExactAllMultiples", spec := "fnExactAllMultiples", unfollowed := true, recurses := true, apart := false, narrowed := true }
def FnExactAllMultiplesUptoSaid : Prop := fnExactAllMultiplesUptoRow.holds Try.pinned (OpenSpec.upto fnExactAllMultiplesSpec)

/-- 'laws.FnExactYearsAsSum', WHERE WHAT IT READS IS OF BULK AT MOST 1048576: true; the input reads as it did. -/
def fnExactYearsAsSumUptoRow : OpenClaim := { program := "ytonnknhmmljmaaa", sum := "1e183fb223a5c7fa33d7d8597a36bc524e5b61cf3b38b534aed8173bc37343e9", func := "loop.example/g01369/laws.FnExactYearsAsSum", spec := "fnExactYearsAsSum", unfollowed := true, recurses := true, apart := false, narrowed := true }
def FnExactYearsAsSumUptoSaid : Prop := fnExactYearsAsSumUptoRow.holds Try.pinned (OpenSpec.upto fnExactYearsAsSumSpec)

end Rows
end Go.Proofs.Ytonnknhmmljmaaa
