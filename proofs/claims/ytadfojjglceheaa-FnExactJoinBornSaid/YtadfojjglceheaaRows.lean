/-
  No cell of these rows narrows 'for every input' (looked for: loops, veiled, ifaces, maps, wideKeys, modest, calm, conditions, laid).
  DERIVED. THE GIVEN ROWS OF THIS SEAT. 9 by the template 'for every input the law returns true; each argument reads behind the call as it read before'; 0 by the template 'total and deterministic' (their statements: YtadfojjglceheaaTotals.lean).
  GIVEN WITH THE SEED: the statements are not yours to turn. If you find one false, say at which input.
  Laid BY PROGRAM, IN A SANDBOX (cutbox-rows.mjs): the forced cells as the released guide's own fill.sh prints them over the translation a1de0f6894415f68… (all of the seat's roots in one cut). By AI agents, Wed Nov 11 2026. No macro, syntax, notation, axiom, sorry.
-/
import Derived.Test.YtadfojjglceheaaChecked
import GoSem.Claim
import GoSem.ClaimJoined
import GoSem.ClaimMapViews
import Derived.JoinedTies
import Derived.KernelRfl
namespace Go.Proofs.Ytadfojjglceheaa
/- THE CELL 'sum', in the pinned program and in every row, IS THE sha256 OF THE DUMP (.gsa) THAT YtadfojjglceheaaProg.lean LOADS. Nothing in Lean hashes anything: it is a label: what it is worth is what the hold of that sum in a sandbox is worth. -/
noncomputable def Try.pinned : Pinned := { name := "ytadfojjglceheaa", sum := "a1de0f6894415f680e749f4132c44f205e3b34958120cdb38b69efedb4eac659", checked := Try.checked }
namespace Rows
def none {H : Type} : Left H := { results := [], args := [] }

/-- 'laws.FnExactAreBirths': WHATEVER THE INPUT: true; the input reads as it did. -/
def fnExactAreBirthsSpec : ChangeSpec := { name := "fnExactAreBirths", fn := fun _ => fun
  | [d] => { results := [.lit (.bool true)], args := [d] }
  | _ => none }
def fnExactAreBirthsRow : OpenClaim := { program := "ytadfojjglceheaa", sum := "a1de0f6894415f680e749f4132c44f205e3b34958120cdb38b69efedb4eac659", func := "loop.example/g01369/laws.FnExactAreBirths", spec := "fnExactAreBirths", apart := false }
def FnExactAreBirthsSaid : Prop := fnExactAreBirthsRow.holds Try.pinned (OpenSpec.ofChange fnExactAreBirthsSpec)

/-- ITS FALSE NEIGHBOUR: 'it returns false'. Refute it at one input. -/
def fnExactAreBirthsWrong : ChangeSpec := { name := "fnExactAreBirths", fn := fun _ => fun
  | [d] => { results := [.lit (.bool false)], args := [d] }
  | _ => none }
def FnExactAreBirthsWrongFalsely : Prop := fnExactAreBirthsRow.holds Try.pinned (OpenSpec.ofChange fnExactAreBirthsWrong)

/-- 'laws.FnExactJubileesIn': WHATEVER THE INPUT: true; the input reads as it did. -/
def fnExactJubileesInSpec : ChangeSpec := { name := "fnExactJubileesIn", fn := fun _ => fun
  | [d1, d2, d3] => { results := [.lit (.bool true)], args := [d1, d2, d3] }
  | _ => none }
def fnExactJubileesInRow : OpenClaim := { program := "ytadfojjglceheaa", sum := "a1de0f6894415f680e749f4132c44f205e3b34958120cdb38b69efedb4eac659", func := "loop.example/g01369/laws.FnExactJubileesIn", spec := "fnExactJubileesIn", apart := false }
def FnExactJubileesInSaid : Prop := fnExactJubileesInRow.holds Try.pinned (OpenSpec.ofChange fnExactJubileesInSpec)

/-- ITS FALSE NEIGHBOUR: 'it returns false'. Refute it at one input. -/
def fnExactJubileesInWrong : ChangeSpec := { name := "fnExactJubileesIn", fn := fun _ => fun
  | [d1, d2, d3] => { results := [.lit (.bool false)], args := [d1, d2, d3] }
  | _ => none }
def FnExactJubileesInWrongFalsely : Prop := fnExactJubileesInRow.holds Try.pinned (OpenSpec.ofChange fnExactJubileesInWrong)

/-- 'laws.FnExactSumOfAges': WHATEVER THE INPUT: true; the input reads as it did. -/
def fnExactSumOfAgesSpec : ChangeSpec := { name := "fnExactSumOfAges", fn := fun _ => fun
  | [d1, d2] => { results := [.lit (.bool true)], args := [d1, d2] }
  | _ => none }
def fnExactSumOfAgesRow : OpenClaim := { program := "ytadfojjglceheaa", sum := "a1de0f6894415f680e749f4132c44f205e3b34958120cdb38b69efedb4eac659", func := "loop.example/g01369/laws.FnExactSumOfAges", spec := "fnExactSumOfAges", apart := false }
def FnExactSumOfAgesSaid : Prop := fnExactSumOfAgesRow.holds Try.pinned (OpenSpec.ofChange fnExactSumOfAgesSpec)

/-- ITS FALSE NEIGHBOUR: 'it returns false'. Refute it at one input. -/
def fnExactSumOfAgesWrong : ChangeSpec := { name := "fnExactSumOfAges", fn := fun _ => fun
  | [d1, d2] => { results := [.lit (.bool false)], args := [d1, d2] }
  | _ => none }
def FnExactSumOfAgesWrongFalsely : Prop := fnExactSumOfAgesRow.holds Try.pinned (OpenSpec.ofChange fnExactSumOfAgesWrong)

/-- 'laws.FnExactSharedEvery': WHATEVER THE INPUT: true; the input reads as it did. -/
def fnExactSharedEverySpec : ChangeSpec := { name := "fnExactSharedEvery", fn := fun _ => fun
  | [d1, d2] => { results := [.lit (.bool true)], args := [d1, d2] }
  | _ => none }
def fnExactSharedEveryRow : OpenClaim := { program := "ytadfojjglceheaa", sum := "a1de0f6894415f680e749f4132c44f205e3b34958120cdb38b69efedb4eac659", func := "loop.example/g01369/laws.FnExactSharedEvery", spec := "fnExactSharedEvery", apart := false }
def FnExactSharedEverySaid : Prop := fnExactSharedEveryRow.holds Try.pinned (OpenSpec.ofChange fnExactSharedEverySpec)

/-- ITS FALSE NEIGHBOUR: 'it returns false'. Refute it at one input. -/
def fnExactSharedEveryWrong : ChangeSpec := { name := "fnExactSharedEvery", fn := fun _ => fun
  | [d1, d2] => { results := [.lit (.bool false)], args := [d1, d2] }
  | _ => none }
def FnExactSharedEveryWrongFalsely : Prop := fnExactSharedEveryRow.holds Try.pinned (OpenSpec.ofChange fnExactSharedEveryWrong)

/-- 'laws.FnExactBestEvery': WHATEVER THE INPUT: true; the input reads as it did. -/
def fnExactBestEverySpec : ChangeSpec := { name := "fnExactBestEvery", fn := fun _ => fun
  | [d1, d2, d3] => { results := [.lit (.bool true)], args := [d1, d2, d3] }
  | _ => none }
def fnExactBestEveryRow : OpenClaim := { program := "ytadfojjglceheaa", sum := "a1de0f6894415f680e749f4132c44f205e3b34958120cdb38b69efedb4eac659", func := "loop.example/g01369/laws.FnExactBestEvery", spec := "fnExactBestEvery", apart := false }
def FnExactBestEverySaid : Prop := fnExactBestEveryRow.holds Try.pinned (OpenSpec.ofChange fnExactBestEverySpec)

/-- ITS FALSE NEIGHBOUR: 'it returns false'. Refute it at one input. -/
def fnExactBestEveryWrong : ChangeSpec := { name := "fnExactBestEvery", fn := fun _ => fun
  | [d1, d2, d3] => { results := [.lit (.bool false)], args := [d1, d2, d3] }
  | _ => none }
def FnExactBestEveryWrongFalsely : Prop := fnExactBestEveryRow.holds Try.pinned (OpenSpec.ofChange fnExactBestEveryWrong)

/-- 'laws.FnExactAnniversaries': WHATEVER THE INPUT: true; the input reads as it did. -/
def fnExactAnniversariesSpec : ChangeSpec := { name := "fnExactAnniversaries", fn := fun _ => fun
  | [d1, d2, d3, d4] => { results := [.lit (.bool true)], args := [d1, d2, d3, d4] }
  | _ => none }
def fnExactAnniversariesRow : OpenClaim := { program := "ytadfojjglceheaa", sum := "a1de0f6894415f680e749f4132c44f205e3b34958120cdb38b69efedb4eac659", func := "loop.example/g01369/laws.FnExactAnniversaries", spec := "fnExactAnniversaries", apart := false }
def FnExactAnniversariesSaid : Prop := fnExactAnniversariesRow.holds Try.pinned (OpenSpec.ofChange fnExactAnniversariesSpec)

/-- ITS FALSE NEIGHBOUR: 'it returns false'. Refute it at one input. -/
def fnExactAnniversariesWrong : ChangeSpec := { name := "fnExactAnniversaries", fn := fun _ => fun
  | [d1, d2, d3, d4] => { results := [.lit (.bool false)], args := [d1, d2, d3, d4] }
  | _ => none }
def FnExactAnniversariesWrongFalsely : Prop := fnExactAnniversariesRow.holds Try.pinned (OpenSpec.ofChange fnExactAnniversariesWrong)

/-- 'laws.FnExactDoubleYear': WHATEVER THE INPUT: true; the input reads as it did. -/
def fnExactDoubleYearSpec : ChangeSpec := { name := "fnExactDoubleYear", fn := fun _ => fun
  | [d1, d2, d3] => { results := [.lit (.bool true)], args := [d1, d2, d3] }
  | _ => none }
def fnExactDoubleYearRow : OpenClaim := { program := "ytadfojjglceheaa", sum := "a1de0f6894415f680e749f4132c44f205e3b34958120cdb38b69efedb4eac659", func := "loop.example/g01369/laws.FnExactDoubleYear", spec := "fnExactDoubleYear", apart := false }
def FnExactDoubleYearSaid : Prop := fnExactDoubleYearRow.holds Try.pinned (OpenSpec.ofChange fnExactDoubleYearSpec)

/-- ITS FALSE NEIGHBOUR: 'it returns false'. Refute it at one input. -/
def fnExactDoubleYearWrong : ChangeSpec := { name := "fnExactDoubleYear", fn := fun _ => fun
  | [d1, d2, d3] => { results := [.lit (.bool false)], args := [d1, d2, d3] }
  | _ => none }
def FnExactDoubleYearWrongFalsely : Prop := fnExactDoubleYearRow.holds Try.pinned (OpenSpec.ofChange fnExactDoubleYearWrong)

/-- 'laws.FnExactOldestRound': WHATEVER THE INPUT: true; the input reads as it did. -/
def fnExactOldestRoundSpec : ChangeSpec := { name := "fnExactOldestRound", fn := fun _ => fun
  | [d1, d2, d3] => { results := [.lit (.bool true)], args := [d1, d2, d3] }
  | _ => none }
def fnExactOldestRoundRow : OpenClaim := { program := "ytadfojjglceheaa", sum := "a1de0f6894415f680e749f4132c44f205e3b34958120cdb38b69efedb4eac659", func := "loop.example/g01369/laws.FnExactOldestRound", spec := "fnExactOldestRound", unfollowed := true, recurses := true, apart := false }
def FnExactOldestRoundSaid : Prop := fnExactOldestRoundRow.holds Try.pinned (OpenSpec.ofChange fnExactOldestRoundSpec)

/-- ITS FALSE NEIGHBOUR: 'it returns false'. Refute it at one input. -/
def fnExactOldestRoundWrong : ChangeSpec := { name := "fnExactOldestRound", fn := fun _ => fun
  | [d1, d2, d3] => { results := [.lit (.bool false)], args := [d1, d2, d3] }
  | _ => none }
def FnExactOldestRoundWrongFalsely : Prop := fnExactOldestRoundRow.holds Try.pinned (OpenSpec.ofChange fnExactOldestRoundWrong)

/-- 'laws.FnExactJoinBorn': WHATEVER THE INPUT: true; the input reads as it did. -/
def fnExactJoinBornSpec : ChangeSpec := { name := "fnExactJoinBorn", fn := fun _ => fun
  | [d1, d2] => { results := [.lit (.bool true)], args := [d1, d2] }
  | _ => none }
def fnExactJoinBornRow : OpenClaim := { program := "ytadfojjglceheaa", sum := "a1de0f6894415f680e749f4132c44f205e3b34958120cdb38b69efedb4eac659", func := "loop.example/g01369/laws.FnExactJoinBorn", spec := "fnExactJoinBorn", apart := false }
def FnExactJoinBornSaid : Prop := fnExactJoinBornRow.holds Try.pinned (OpenSpec.ofChange fnExactJoinBornSpec)

/-- ITS FALSE NEIGHBOUR: 'it returns false'. Refute it at one input. -/
def fnExactJoinBornWrong : ChangeSpec := { name := "fnExactJoinBorn", fn := fun _ => fun
  | [d1, d2] => { results := [.lit (.bool false)], args := [d1, d2] }
  | _ => none }
def FnExactJoinBornWrongFalsely : Prop := fnExactJoinBornRow.holds Try.pinned (OpenSpec.ofChange fnExactJoinBornWrong)

/- THE SECOND FORM. 'bulk': how many values and letters a reading holds, each counted each time it is reached (what is shared counts as often as it is met; a slice's spare places count too). A statement '..UptoSaid' is the law's where the arguments, and the package variables that the reading takes, are together of bulk at most 1048576: NARROWER than '..Said'. Prove '..Said' where nothing that the law and all that it calls make is longer than what came in: it says more and counts as full. Else prove '..UptoSaid'. A law counts once. -/
mutual
def uptoBulk {H : Type} : DataW H → Nat
  | .lit (.string bytes) => bytes.length + 1
  | .lit _ => 1
  | .nil => 1
  | .ptr d => uptoBulk d + 1
  | .slice elems spare => uptoBulkAll elems + uptoBulkAll spare + 1
  | .agg parts => uptoBulkAll parts + 1
  | .iface _ d => uptoBulk d + 1
  | .map entries => uptoBulkEntries entries + 1
  | .held _ => 1
def uptoBulkAll {H : Type} : List (DataW H) → Nat
  | [] => 0
  | d :: r => uptoBulk d + uptoBulkAll r
def uptoBulkEntries {H : Type} : List (Lit × DataW H) → Nat
  | [] => 0
  | x :: r => uptoBulkEntry x + uptoBulkEntries r
def uptoBulkEntry {H : Type} : Lit × DataW H → Nat
  | (.string bytes, d) => bytes.length + uptoBulk d + 1
  | (_, d) => uptoBulk d + 1
 end
def uptoSmall : (H : Type) → List (DataW H) → Bool := fun _ ds => decide (uptoBulkAll ds ≤ 1048576)
def OpenSpec.upto (s : _root_.Go.ChangeSpec) : _root_.Go.OpenSpec := { _root_.Go.OpenSpec.ofChange s with cond := some uptoSmall }

/-- 'laws.FnExactAreBirths', WHERE WHAT IT READS IS OF BULK AT MOST 1048576: true; the input reads as it did. -/
def fnExactAreBirthsUptoRow : OpenClaim := { program := "ytadfojjglceheaa", sum := "a1de0f6894415f680e749f4132c44f205e3b34958120cdb38b69efedb4eac659", func := "loop.example/g01369/laws.FnExactAreBirths", spec := "fnExactAreBirths", apart := false, narrowed := true }
def FnExactAreBirthsUptoSaid : Prop := fnExactAreBirthsUptoRow.holds Try.pinned (OpenSpec.upto fnExactAreBirthsSpec)

/-- 'laws.FnExactJubileesIn', WHERE WHAT IT READS IS OF BULK AT MOST 1048576: true; the input reads as it did. -/
def fnExactJubileesInUptoRow : OpenClaim := { program := "ytadfojjglceheaa", sum := "a1de0f6894415f680e749f4132c44f205e3b34958120cdb38b69efedb4eac659", func := "loop.example/g01369/laws.FnExactJubileesIn", spec := "fnExactJubileesIn", apart := false, narrowed := true }
def FnExactJubileesInUptoSaid : Prop := fnExactJubileesInUptoRow.holds Try.pinned (OpenSpec.upto fnExactJubileesInSpec)

/-- 'laws.FnExactSumOfAges', WHERE WHAT IT READS IS OF BULK AT MOST 1048576: true; the input reads as it did. -/
def fnExactSumOfAgesUptoRow : OpenClaim := { program := "ytadfojjglceheaa", sum := "a1de0f6894415f680e749f4132c44f205e3b34958120cdb38b69efedb4eac659", func := "loop.example/g01369/laws.FnExactSumOfAges", spec := "fnExactSumOfAges", apart := false, narrowed := true }
def FnExactSumOfAgesUptoSaid : Prop := fnExactSumOfAgesUptoRow.holds Try.pinned (OpenSpec.upto fnExactSumOfAgesSpec)

/-- 'laws.FnExactSharedEvery', WHERE WHAT IT READS IS OF BULK AT MOST 1048576: true; the input reads as it did. -/
def fnExactSharedEveryUptoRow : OpenClaim := { program := "ytadfojjglceheaa", sum := "a1de0f6894415f680e749f4132c44f205e3b34958120cdb38b69efedb4eac659", func := "loop.example/g01369/laws.FnExactSharedEvery", spec := "fnExactSharedEvery", apart := false, narrowed := true }
def FnExactSharedEveryUptoSaid : Prop := fnExactSharedEveryUptoRow.holds Try.pinned (OpenSpec.upto fnExactSharedEverySpec)

/-- 'laws.FnExactBestEvery', WHERE WHAT IT READS IS OF BULK AT MOST 1048576: true; the input reads as it did. -/
def fnExactBestEveryUptoRow : OpenClaim := { program := "ytadfojjglceheaa", sum := "a1de0f6894415f680e749f4132c44f205e3b34958120cdb38b69efedb4eac659", func := "loop.example/g01369/laws.FnExactBestEvery", spec := "fnExactBestEvery", apart := false, narrowed := true }
def FnExactBestEveryUptoSaid : Prop := fnExactBestEveryUptoRow.holds Try.pinned (OpenSpec.upto fnExactBestEverySpec)

/-- 'laws.FnExactAnniversaries', WHERE WHAT IT READS IS OF BULK AT MOST 1048576: true; the input reads as it did. -/
def fnExactAnniversariesUptoRow : OpenClaim := { program := "ytadfojjglceheaa", sum := "a1de0f6894415f680e749f4132c44f205e3b34958120cdb38b69efedb4eac659", func := "loop.example/g01369/laws.FnExactAnniversaries", spec := "fnExactAnniversaries", apart := false, narrowed := true }
def FnExactAnniversariesUptoSaid : Prop := fnExactAnniversariesUptoRow.holds Try.pinned (OpenSpec.upto fnExactAnniversariesSpec)

/-- 'laws.FnExactDoubleYear', WHERE WHAT IT READS IS OF BULK AT MOST 1048576: true; the input reads as it did. -/
def fnExactDoubleYearUptoRow : OpenClaim := { program := "ytadfojjglceheaa", sum := "a1de0f6894415f680e749f4132c44f205e3b34958120cdb38b69efedb4eac659", func := "loop.example/g01369/laws.FnExactDoubleYear", spec := "fnExactDoubleYear", apart := false, narrowed := true }
def FnExactDoubleYearUptoSaid : Prop := fnExactDoubleYearUptoRow.holds Try.pinned (OpenSpec.upto fnExactDoubleYearSpec)

/-- 'laws.FnExactOldestRound', WHERE WHAT IT READS IS OF BULK AT MOST 1048576: true; the input reads as it did. -/
def fnExactOldestRoundUptoRow : OpenClaim := { program := "ytadfojjglceheaa", sum := "a1de0f6894415f680e749f4132c44f205e3b34958120cdb38b69efedb4eac659", func := "loop.example/g01369/laws.FnExactOldestRound", spec := "fnExactOldestRound", unfollowed := true, recurses := true, apart := false, narrowed := true }
def FnExactOldestRoundUptoSaid : Prop := fnExactOldestRoundUptoRow.holds Try.pinned (OpenSpec.upto fnExactOldestRoundSpec)

/-- 'laws.FnExactJoinBorn', WHERE WHAT IT READS IS OF BULK AT MOST 1048576: true; the input reads as it did. -/
def fnExactJoinBornUptoRow : OpenClaim := { program := "ytadfojjglceheaa", sum := "a1de0f6894415f680e749f4132c44f205e3b34958120cdb38b69efedb4eac659", func := "loop.example/g01369/laws.FnExactJoinBorn", spec := "fnExactJoinBorn", apart := false, narrowed := true }
def FnExactJoinBornUptoSaid : Prop := fnExactJoinBornUptoRow.holds Try.pinned (OpenSpec.upto fnExactJoinBornSpec)

end Rows
end Go.Proofs.Ytadfojjglceheaa
