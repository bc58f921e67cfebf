/-
  No cell of these rows narrows 'for every input' (looked for: loops, veiled, ifaces, maps, wideKeys, modest, calm, conditions, laid).
  DERIVED. THE GIVEN ROWS OF THIS SEAT. 12 by the template 'for every input the law returns true; each argument reads behind the call as it read before'; 0 by the template 'total and deterministic' (their statements: YtmidobhfahpkcaaTotals.lean).
  GIVEN WITH THE SEED: the statements are not yours to turn. If you find one false, say at which input.
  Laid BY PROGRAM, IN A SANDBOX (cutbox-rows.mjs): the forced cells as the released guide's own fill.sh prints them over the translation b4e9c1cb543b08de… (all of the seat's roots in one cut). By AI agents, Wed Nov 11 2026. No macro, syntax, notation, axiom, sorry.
-/
import Derived.Test.YtmidobhfahpkcaaChecked
import GoSem.Claim
import GoSem.ClaimJoined
import GoSem.ClaimMapViews
import Derived.JoinedTies
import Derived.KernelRfl
namespace Go.Proofs.Ytmidobhfahpkcaa
/- THE CELL 'sum', in the pinned program and in every row, IS THE sha256 OF THE DUMP (.gsa) THAT YtmidobhfahpkcaaProg.lean LOADS. Nothing in Lean hashes anything: it is a label: what it is worth is what the hold of that sum in a sandbox is worth. -/
noncomputable def Try.pinned : Pinned := { name := "ytmidobhfahpkcaa", sum := "b4e9c1cb543b08debbe334cf7a5c39f7cf2ac2810194dff6331947e982699d65", checked := Try.checked }
namespace Rows
def none {H : Type} : Left H := { results := [], args := [] }

/-- 'laws.FnExactIsRatio': WHATEVER THE INPUT: true; the input reads as it did. -/
def fnExactIsRatioSpec : ChangeSpec := { name := "fnExactIsRatio", fn := fun _ => fun
  | [d] => { results := [.lit (.bool true)], args := [d] }
  | _ => none }
def fnExactIsRatioRow : OpenClaim := { program := "ytmidobhfahpkcaa", sum := "b4e9c1cb543b08debbe334cf7a5c39f7cf2ac2810194dff6331947e982699d65", func := "loop.example/g01369/laws.FnExactIsRatio", spec := "fnExactIsRatio", apart := false }
def FnExactIsRatioSaid : Prop := fnExactIsRatioRow.holds Try.pinned (OpenSpec.ofChange fnExactIsRatioSpec)

/-- ITS FALSE NEIGHBOUR: 'it returns false'. Refute it at one input. -/
def fnExactIsRatioWrong : ChangeSpec := { name := "fnExactIsRatio", fn := fun _ => fun
  | [d] => { results := [.lit (.bool false)], args := [d] }
  | _ => none }
def FnExactIsRatioWrongFalsely : Prop := fnExactIsRatioRow.holds Try.pinned (OpenSpec.ofChange fnExactIsRatioWrong)

/-- 'laws.FnExactYearsUntilRatio': WHATEVER THE INPUT: true; the input reads as it did. -/
def fnExactYearsUntilRatioSpec : ChangeSpec := { name := "fnExactYearsUntilRatio", fn := fun _ => fun
  | [d1, d2, d3] => { results := [.lit (.bool true)], args := [d1, d2, d3] }
  | _ => none }
def fnExactYearsUntilRatioRow : OpenClaim := { program := "ytmidobhfahpkcaa", sum := "b4e9c1cb543b08debbe334cf7a5c39f7cf2ac2810194dff6331947e982699d65", func := "loop.example/g01369/laws.FnExactYearsUntilRatio", spec := "fnExactYearsUntilRatio", apart := false }
def FnExactYearsUntilRatioSaid : Prop := fnExactYearsUntilRatioRow.holds Try.pinned (OpenSpec.ofChange fnExactYearsUntilRatioSpec)

/-- ITS FALSE NEIGHBOUR: 'it returns false'. Refute it at one input. -/
def fnExactYearsUntilRatioWrong : ChangeSpec := { name := "fnExactYearsUntilRatio", fn := fun _ => fun
  | [d1, d2, d3] => { results := [.lit (.bool false)], args := [d1, d2, d3] }
  | _ => none }
def FnExactYearsUntilRatioWrongFalsely : Prop := fnExactYearsUntilRatioRow.holds Try.pinned (OpenSpec.ofChange fnExactYearsUntilRatioWrong)

/-- 'laws.FnExactAgesFromSum': WHATEVER THE INPUT: true; the input reads as it did. -/
def fnExactAgesFromSumSpec : ChangeSpec := { name := "fnExactAgesFromSum", fn := fun _ => fun
  | [d1, d2] => { results := [.lit (.bool true)], args := [d1, d2] }
  | _ => none }
def fnExactAgesFromSumRow : OpenClaim := { program := "ytmidobhfahpkcaa", sum := "b4e9c1cb543b08debbe334cf7a5c39f7cf2ac2810194dff6331947e982699d65", func := "loop.example/g01369/laws.FnExactAgesFromSum", spec := "fnExactAgesFromSum", apart := false }
def FnExactAgesFromSumSaid : Prop := fnExactAgesFromSumRow.holds Try.pinned (OpenSpec.ofChange fnExactAgesFromSumSpec)

/-- ITS FALSE NEIGHBOUR: 'it returns false'. Refute it at one input. -/
def fnExactAgesFromSumWrong : ChangeSpec := { name := "fnExactAgesFromSum", fn := fun _ => fun
  | [d1, d2] => { results := [.lit (.bool false)], args := [d1, d2] }
  | _ => none }
def FnExactAgesFromSumWrongFalsely : Prop := fnExactAgesFromSumRow.holds Try.pinned (OpenSpec.ofChange fnExactAgesFromSumWrong)

/-- 'laws.FnExactAgesFromGap': WHATEVER THE INPUT: true; the input reads as it did. -/
def fnExactAgesFromGapSpec : ChangeSpec := { name := "fnExactAgesFromGap", fn := fun _ => fun
  | [d1, d2] => { results := [.lit (.bool true)], args := [d1, d2] }
  | _ => none }
def fnExactAgesFromGapRow : OpenClaim := { program := "ytmidobhfahpkcaa", sum := "b4e9c1cb543b08debbe334cf7a5c39f7cf2ac2810194dff6331947e982699d65", func := "loop.example/g01369/laws.FnExactAgesFromGap", spec := "fnExactAgesFromGap", apart := false }
def FnExactAgesFromGapSaid : Prop := fnExactAgesFromGapRow.holds Try.pinned (OpenSpec.ofChange fnExactAgesFromGapSpec)

/-- ITS FALSE NEIGHBOUR: 'it returns false'. Refute it at one input. -/
def fnExactAgesFromGapWrong : ChangeSpec := { name := "fnExactAgesFromGap", fn := fun _ => fun
  | [d1, d2] => { results := [.lit (.bool false)], args := [d1, d2] }
  | _ => none }
def FnExactAgesFromGapWrongFalsely : Prop := fnExactAgesFromGapRow.holds Try.pinned (OpenSpec.ofChange fnExactAgesFromGapWrong)

/-- 'laws.FnExactAgesFromTwo': WHATEVER THE INPUT: true; the input reads as it did. -/
def fnExactAgesFromTwoSpec : ChangeSpec := { name := "fnExactAgesFromTwo", fn := fun _ => fun
  | [d1, d2, d3] => { results := [.lit (.bool true)], args := [d1, d2, d3] }
  | _ => none }
def fnExactAgesFromTwoRow : OpenClaim := { program := "ytmidobhfahpkcaa", sum := "b4e9c1cb543b08debbe334cf7a5c39f7cf2ac2810194dff6331947e982699d65", func := "loop.example/g01369/laws.FnExactAgesFromTwo", spec := "fnExactAgesFromTwo", apart := false }
def FnExactAgesFromTwoSaid : Prop := fnExactAgesFromTwoRow.holds Try.pinned (OpenSpec.ofChange fnExactAgesFromTwoSpec)

/-- ITS FALSE NEIGHBOUR: 'it returns false'. Refute it at one input. -/
def fnExactAgesFromTwoWrong : ChangeSpec := { name := "fnExactAgesFromTwo", fn := fun _ => fun
  | [d1, d2, d3] => { results := [.lit (.bool false)], args := [d1, d2, d3] }
  | _ => none }
def FnExactAgesFromTwoWrongFalsely : Prop := fnExactAgesFromTwoRow.holds Try.pinned (OpenSpec.ofChange fnExactAgesFromTwoWrong)

/-- 'laws.FnExactAgesFromThen': WHATEVER THE INPUT: true; the input reads as it did. -/
def fnExactAgesFromThenSpec : ChangeSpec := { name := "fnExactAgesFromThen", fn := fun _ => fun
  | [d1, d2, d3, d4] => { results := [.lit (.bool true)], args := [d1, d2, d3, d4] }
  | _ => none }
def fnExactAgesFromThenRow : OpenClaim := { program := "ytmidobhfahpkcaa", sum := "b4e9c1cb543b08debbe334cf7a5c39f7cf2ac2810194dff6331947e982699d65", func := "loop.example/g01369/laws.FnExactAgesFromThen", spec := "fnExactAgesFromThen", apart := false }
def FnExactAgesFromThenSaid : Prop := fnExactAgesFromThenRow.holds Try.pinned (OpenSpec.ofChange fnExactAgesFromThenSpec)

/-- ITS FALSE NEIGHBOUR: 'it returns false'. Refute it at one input. -/
def fnExactAgesFromThenWrong : ChangeSpec := { name := "fnExactAgesFromThen", fn := fun _ => fun
  | [d1, d2, d3, d4] => { results := [.lit (.bool false)], args := [d1, d2, d3, d4] }
  | _ => none }
def FnExactAgesFromThenWrongFalsely : Prop := fnExactAgesFromThenRow.holds Try.pinned (OpenSpec.ofChange fnExactAgesFromThenWrong)

/-- 'laws.FnExactNearestYear': WHATEVER THE INPUT: true; the input reads as it did. -/
def fnExactNearestYearSpec : ChangeSpec := { name := "fnExactNearestYear", fn := fun _ => fun
  | [d1, d2, d3] => { results := [.lit (.bool true)], args := [d1, d2, d3] }
  | _ => none }
def fnExactNearestYearRow : OpenClaim := { program := "ytmidobhfahpkcaa", sum := "b4e9c1cb543b08debbe334cf7a5c39f7cf2ac2810194dff6331947e982699d65", func := "loop.example/g01369/laws.FnExactNearestYear", spec := "fnExactNearestYear", apart := false }
def FnExactNearestYearSaid : Prop := fnExactNearestYearRow.holds Try.pinned (OpenSpec.ofChange fnExactNearestYearSpec)

/-- ITS FALSE NEIGHBOUR: 'it returns false'. Refute it at one input. -/
def fnExactNearestYearWrong : ChangeSpec := { name := "fnExactNearestYear", fn := fun _ => fun
  | [d1, d2, d3] => { results := [.lit (.bool false)], args := [d1, d2, d3] }
  | _ => none }
def FnExactNearestYearWrongFalsely : Prop := fnExactNearestYearRow.holds Try.pinned (OpenSpec.ofChange fnExactNearestYearWrong)

/-- 'laws.FnExactSameRatioYear': WHATEVER THE INPUT: true; the input reads as it did. -/
def fnExactSameRatioYearSpec : ChangeSpec := { name := "fnExactSameRatioYear", fn := fun _ => fun
  | [d1, d2, d3, d4] => { results := [.lit (.bool true)], args := [d1, d2, d3, d4] }
  | _ => none }
def fnExactSameRatioYearRow : OpenClaim := { program := "ytmidobhfahpkcaa", sum := "b4e9c1cb543b08debbe334cf7a5c39f7cf2ac2810194dff6331947e982699d65", func := "loop.example/g01369/laws.FnExactSameRatioYear", spec := "fnExactSameRatioYear", apart := false }
def FnExactSameRatioYearSaid : Prop := fnExactSameRatioYearRow.holds Try.pinned (OpenSpec.ofChange fnExactSameRatioYearSpec)

/-- ITS FALSE NEIGHBOUR: 'it returns false'. Refute it at one input. -/
def fnExactSameRatioYearWrong : ChangeSpec := { name := "fnExactSameRatioYear", fn := fun _ => fun
  | [d1, d2, d3, d4] => { results := [.lit (.bool false)], args := [d1, d2, d3, d4] }
  | _ => none }
def FnExactSameRatioYearWrongFalsely : Prop := fnExactSameRatioYearRow.holds Try.pinned (OpenSpec.ofChange fnExactSameRatioYearWrong)

/-- 'laws.FnExactTurnRatio': WHATEVER THE INPUT: true; the input reads as it did. -/
def fnExactTurnRatioSpec : ChangeSpec := { name := "fnExactTurnRatio", fn := fun _ => fun
  | [d] => { results := [.lit (.bool true)], args := [d] }
  | _ => none }
def fnExactTurnRatioRow : OpenClaim := { program := "ytmidobhfahpkcaa", sum := "b4e9c1cb543b08debbe334cf7a5c39f7cf2ac2810194dff6331947e982699d65", func := "loop.example/g01369/laws.FnExactTurnRatio", spec := "fnExactTurnRatio", apart := false }
def FnExactTurnRatioSaid : Prop := fnExactTurnRatioRow.holds Try.pinned (OpenSpec.ofChange fnExactTurnRatioSpec)

/-- ITS FALSE NEIGHBOUR: 'it returns false'. Refute it at one input. -/
def fnExactTurnRatioWrong : ChangeSpec := { name := "fnExactTurnRatio", fn := fun _ => fun
  | [d] => { results := [.lit (.bool false)], args := [d] }
  | _ => none }
def FnExactTurnRatioWrongFalsely : Prop := fnExactTurnRatioRow.holds Try.pinned (OpenSpec.ofChange fnExactTurnRatioWrong)

/-- 'laws.FnExactRatiosInYears': WHATEVER THE INPUT: true; the input reads as it did. -/
def fnExactRatiosInYearsSpec : ChangeSpec := { name := "fnExactRatiosInYears", fn := fun _ => fun
  | [d1, d2, d3] => { results := [.lit (.bool true)], args := [d1, d2, d3] }
  | _ => none }
def fnExactRatiosInYearsRow : OpenClaim := { program := "ytmidobhfahpkcaa", sum := "b4e9c1cb543b08debbe334cf7a5c39f7cf2ac2810194dff6331947e982699d65", func := "loop.example/g01369/laws.FnExactRatiosInYears", spec := "fnExactRatiosInYears", apart := false }
def FnExactRatiosInYearsSaid : Prop := fnExactRatiosInYearsRow.holds Try.pinned (OpenSpec.ofChange fnExactRatiosInYearsSpec)

/-- ITS FALSE NEIGHBOUR: 'it returns false'. Refute it at one input. -/
def fnExactRatiosInYearsWrong : ChangeSpec := { name := "fnExactRatiosInYears", fn := fun _ => fun
  | [d1, d2, d3] => { results := [.lit (.bool false)], args := [d1, d2, d3] }
  | _ => none }
def FnExactRatiosInYearsWrongFalsely : Prop := fnExactRatiosInYearsRow.holds Try.pinned (OpenSpec.ofChange fnExactRatiosInYearsWrong)

/-- 'laws.FnExactLeastChain': WHATEVER THE INPUT: true; the input reads as it did. -/
def fnExactLeastChainSpec : ChangeSpec := { name := "fnExactLeastChain", fn := fun _ => fun
  | [d] => { results := [.lit (.bool true)], args := [d] }
  | _ => none }
def fnExactLeastChainRow : OpenClaim := { program := "ytmidobhfahpkcaa", sum := "b4e9c1cb543b08debbe334cf7a5c39f7cf2ac2810194dff6331947e982699d65", func := "loop.example/g01369/laws.FnExactLeastChain", spec := "fnExactLeastChain", apart := false }
def FnExactLeastChainSaid : Prop := fnExactLeastChainRow.holds Try.pinned (OpenSpec.ofChange fnExactLeastChainSpec)

/-- ITS FALSE NEIGHBOUR: 'it returns false'. Refute it at one input. -/
def fnExactLeastChainWrong : ChangeSpec := { name := "fnExactLeastChain", fn := fun _ => fun
  | [d] => { results := [.lit (.bool false)], args := [d] }
  | _ => none }
def FnExactLeastChainWrongFalsely : Prop := fnExactLeastChainRow.holds Try.pinned (OpenSpec.ofChange fnExactLeastChainWrong)

/-- 'laws.FnExactAgesOfChain': WHATEVER THE INPUT: true; the input reads as it did. -/
def fnExactAgesOfChainSpec : ChangeSpec := { name := "fnExactAgesOfChain", fn := fun _ => fun
  | [d1, d2] => { results := [.lit (.bool true)], args := [d1, d2] }
  | _ => none }
def fnExactAgesOfChainRow : OpenClaim := { program := "ytmidobhfahpkcaa", sum := "b4e9c1cb543b08debbe334cf7a5c39f7cf2ac2810194dff6331947e982699d65", func := "loop.example/g01369/laws.FnExactAgesOfChain", spec := "fnExactAgesOfChain", unfollowed := true, recurses := true, apart := false }
def FnExactAgesOfChainSaid : Prop := fnExactAgesOfChainRow.holds Try.pinned (OpenSpec.ofChange fnExactAgesOfChainSpec)

/-- ITS FALSE NEIGHBOUR: 'it returns false'. Refute it at one input. -/
def fnExactAgesOfChainWrong : ChangeSpec := { name := "fnExactAgesOfChain", fn := fun _ => fun
  | [d1, d2] => { results := [.lit (.bool false)], args := [d1, d2] }
  | _ => none }
def FnExactAgesOfChainWrongFalsely : Prop := fnExactAgesOfChainRow.holds Try.pinned (OpenSpec.ofChange fnExactAgesOfChainWrong)

/- THE SECOND FORM. 'bulk': how many values and letters a reading holds, each counted each time it is reached (what is shared counts as often as it is met; a slice's spare places count too). A statement '..UptoSaid' is the law's where the arguments, and the package variables that the reading takes, are together of bulk at most 1048576: NARROWER than '..Said'. Prove '..Said' where nothing that the law and all that it calls make is longer than what came in: it says more and counts as full. Else prove '..UptoSaid'. A law counts once. -/
mutual
def uptoBulk {H : Type} : DataW H → Nat
  | .lit (.string bytes) => bytes.length + 1
  | .lit _ => 1
  | .nil => 1
  | .ptr d => uptoBulk d + 1
  | .slice elems spare => uptoBulkAll elems + uptoBulkAll spare + 1
  | .agg parts => uptoBulkAll parts + 1
  | .iface _ d => uptoBulk d + 1
  | .map entries => uptoBulkEntries entries + 1
  | .held _ => 1
def uptoBulkAll {H : Type} : List (DataW H) → Nat
  | [] => 0
  | d :: r => uptoBulk d + uptoBulkAll r
def uptoBulkEntries {H : Type} : List (Lit × DataW H) → Nat
  | [] => 0
  | x :: r => uptoBulkEntry x + uptoBulkEntries r
def uptoBulkEntry {H : Type} : Lit × DataW H → Nat
  | (.string bytes, d) => bytes.length + uptoBulk d + 1
  | (_, d) => uptoBulk d + 1
 end
def uptoSmall : (H : Type) → List (DataW H) → Bool := fun _ ds => decide (uptoBulkAll ds ≤ 1048576)
def OpenSpec.upto (s : _root_.Go.ChangeSpec) : _root_.Go.OpenSpec := { _root_.Go.OpenSpec.ofChange s with cond := some uptoSmall }

/-- 'laws.FnExactIsRatio', WHERE WHAT IT READS IS OF BULK AT MOST 1048576: true; the input reads as it did. -/
def fnExactIsRatioUptoRow : OpenClaim := { program := "ytmidobhfahpkcaa", sum := "b4e9c1cb543b08debbe334cf7a5c39f7cf2ac2810194dff6331947e982699d65", func := "loop.example/g01369/laws.FnExactIsRatio", spec := "fnExactIsRatio", apart := false, narrowed := true }
def FnExactIsRatioUptoSaid : Prop := fnExactIsRatioUptoRow.holds Try.pinned (OpenSpec.upto fnExactIsRatioSpec)

/-- 'laws.FnExactYearsUntilRatio', WHERE WHAT IT READS IS OF BULK AT MOST 1048576: true; the input reads as it did. -/
def fnExactYearsUntilRatioUptoRow : OpenClaim := { program := "ytmidobhfahpkcaa", sum := "b4e9c1cb543b08debbe334cf7a5c39f7cf2ac2810194dff6331947e982699d65", func := "loop.example/g01369/laws.FnExactYearsUntilRatio", spec := "fnExactYearsUntilRatio", apart := false, narrowed := true }
def FnExactYearsUntilRatioUptoSaid : Prop := fnExactYearsUntilRatioUptoRow.holds Try.pinned (OpenSpec.upto fnExactYearsUntilRatioSpec)

/-- 'laws.FnExactAgesFromSum', WHERE WHAT IT READS IS OF BULK AT MOST 1048576: true; the input reads as it did. -/
def fnExactAgesFromSumUptoRow : OpenClaim := { program := "ytmidobhfahpkcaa", sum := "b4e9c1cb543b08debbe334cf7a5c39f7cf2ac2810194dff6331947e982699d65", func := "loop.example/g01369/laws.FnExactAgesFromSum", spec := "fnExactAgesFromSum", apart := false, narrowed := true }
def FnExactAgesFromSumUptoSaid : Prop := fnExactAgesFromSumUptoRow.holds Try.pinned (OpenSpec.upto fnExactAgesFromSumSpec)

/-- 'laws.FnExactAgesFromGap', WHERE WHAT IT READS IS OF BULK AT MOST 1048576: true; the input reads as it did. -/
def fnExactAgesFromGapUptoRow : OpenClaim := { program := "ytmidobhfahpkcaa", sum := "b4e9c1cb543b08debbe334cf7a5c39f7cf2ac2810194dff6331947e982699d65", func := "loop.example/g01369/laws.FnExactAgesFromGap", spec := "fnExactAgesFromGap", apart := false, narrowed := true }
def FnExactAgesFromGapUptoSaid : Prop := fnExactAgesFromGapUptoRow.holds Try.pinned (OpenSpec.upto fnExactAgesFromGapSpec)

/-- 'laws.FnExactAgesFromTwo', WHERE WHAT IT READS IS OF BULK AT MOST 1048576: true; the input reads as it did. -/
def fnExactAgesFromTwoUptoRow : OpenClaim := { program := "ytmidobhfahpkcaa", sum := "b4e9c1cb543b08debbe334cf7a5c39f7cf2ac2810194dff6331947e982699d65", func := "loop.example/g01369/laws.FnExactAgesFromTwo", spec := "fnExactAgesFromTwo", apart := false, narrowed := true }
def FnExactAgesFromTwoUptoSaid : Prop := fnExactAgesFromTwoUptoRow.holds Try.pinned (OpenSpec.upto fnExactAgesFromTwoSpec)

/-- 'laws.FnExactAgesFromThen', WHERE WHAT IT READS IS OF BULK AT MOST 1048576: true; the input reads as it did. -/
def fnExactAgesFromThenUptoRow : OpenClaim := { program := "ytmidobhfahpkcaa", sum := "b4e9c1cb543b08debbe334cf7a5c39f7cf2ac2810194dff6331947e982699d65", func := "loop.example/g01369/laws.FnExactAgesFromThen", spec := "fnExactAgesFromThen", apart := false, narrowed := true }
def FnExactAgesFromThenUptoSaid : Prop := fnExactAgesFromThenUptoRow.holds Try.pinned (OpenSpec.upto fnExactAgesFromThenSpec)

/-- 'laws.FnExactNearestYear', WHERE WHAT IT READS IS OF BULK AT MOST 1048576: true; the input reads as it did. -/
def fnExactNearestYearUptoRow : OpenClaim := { program := "ytmidobhfahpkcaa", sum := "b4e9c1cb543b08debbe334cf7a5c39f7cf2ac2810194dff6331947e982699d65", func := "loop.example/g01369/laws.FnExactNearestYear", spec := "fnExactNearestYear", apart := false, narrowed := true }
def FnExactNearestYearUptoSaid : Prop := fnExactNearestYearUptoRow.holds Try.pinned (OpenSpec.upto fnExactNearestYearSpec)

/-- 'laws.FnExactSameRatioYear', WHERE WHAT IT READS IS OF BULK AT MOST 1048576: true; the input reads as it did. -/
def fnExactSameRatioYearUptoRow : OpenClaim := { program := "ytmidobhfahpkcaa", sum := "b4e9c1cb543b08debbe334cf7a5c39f7cf2ac2810194dff6331947e982699d65", func := "loop.example/g01369/laws.FnExactSameRatioYear", spec := "fnExactSameRatioYear", apart := false, narrowed := true }
def FnExactSameRatioYearUptoSaid : Prop := fnExactSameRatioYearUptoRow.holds Try.pinned (OpenSpec.upto fnExactSameRatioYearSpec)

/-- 'laws.FnExactTurnRatio', WHERE WHAT IT READS IS OF BULK AT MOST 1048576: true; the input reads as it did. -/
def fnExactTurnRatioUptoRow : OpenClaim := { program := "ytmidobhfahpkcaa", sum := "b4e9c1cb543b08debbe334cf7a5c39f7cf2ac2810194dff6331947e982699d65", func := "loop.example/g01369/laws.FnExactTurnRatio", spec := "fnExactTurnRatio", apart := false, narrowed := true }
def FnExactTurnRatioUptoSaid : Prop := fnExactTurnRatioUptoRow.holds Try.pinned (OpenSpec.upto fnExactTurnRatioSpec)

/-- 'laws.FnExactRatiosInYears', WHERE WHAT IT READS IS OF BULK AT MOST 1048576: true; the input reads as it did. -/
def fnExactRatiosInYearsUptoRow : OpenClaim := { program := "ytmidobhfahpkcaa", sum := "b4e9c1cb543b08debbe334cf7a5c39f7cf2ac2810194dff6331947e982699d65", func := "loop.example/g01369/laws.FnExactRatiosInYears", spec := "fnExactRatiosInYears", apart := false, narrowed := true }
def FnExactRatiosInYearsUptoSaid : Prop := fnExactRatiosInYearsUptoRow.holds Try.pinned (OpenSpec.upto fnExactRatiosInYearsSpec)

/-- 'laws.FnExactLeastChain', WHERE WHAT IT READS IS OF BULK AT MOST 1048576: true; the input reads as it did. -/
def fnExactLeastChainUptoRow : OpenClaim := { program := "ytmidobhfahpkcaa", sum := "b4e9c1cb543b08debbe334cf7a5c39f7cf2ac2810194dff6331947e982699d65", func := "loop.example/g01369/laws.FnExactLeastChain", spec := "fnExactLeastChain", apart := false, narrowed := true }
def FnExactLeastChainUptoSaid : Prop := fnExactLeastChainUptoRow.holds Try.pinned (OpenSpec.upto fnExactLeastChainSpec)

/-- 'laws.FnExactAgesOfChain', WHERE WHAT IT READS IS OF BULK AT MOST 1048576: true; the input reads as it did. -/
def fnExactAgesOfChainUptoRow : OpenClaim := { program := "ytmidobhfahpkcaa", sum := "b4e9c1cb543b08debbe334cf7a5c39f7cf2ac2810194dff6331947e982699d65", func := "loop.example/g01369/laws.FnExactAgesOfChain", spec := "fnExactAgesOfChain", unfollowed := true, recurses := true, apart := false, narrowed := true }
def FnExactAgesOfChainUptoSaid : Prop := fnExactAgesOfChainUptoRow.holds Try.pinned (OpenSpec.upto fnExactAgesOfChainSpec)

end Rows
end Go.Proofs.Ytmidobhfahpkcaa
