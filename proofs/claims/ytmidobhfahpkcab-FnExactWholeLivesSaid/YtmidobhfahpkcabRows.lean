/-
  No cell of these rows narrows 'for every input' (looked for: loops, veiled, ifaces, maps, wideKeys, modest, calm, conditions, laid).
  DERIVED. THE GIVEN ROWS OF THIS SEAT. 5 by the template 'for every input the law returns true; each argument reads behind the call as it read before'; 0 by the template 'total and deterministic' (their statements: YtmidobhfahpkcabTotals.lean).
  GIVEN WITH THE SEED: the statements are not yours to turn. If you find one false, say at which input.
  Laid BY PROGRAM, IN A SANDBOX (cutbox-rows.mjs): the forced cells as the released guide's own fill.sh prints them over the translation a47ba470a1013d60… (all of the seat's roots in one cut). By AI agents, Wed Nov 11 2026. No macro, syntax, notation, axiom, sorry.
-/
import Derived.Test.YtmidobhfahpkcabChecked
import GoSem.Claim
import GoSem.ClaimJoined
import GoSem.ClaimMapViews
import Derived.JoinedTies
import Derived.KernelRfl
namespace Go.Proofs.Ytmidobhfahpkcab
/- THE CELL 'sum', in the pinned program and in every row, IS THE sha256 OF THE DUMP (.gsa) THAT YtmidobhfahpkcabProg.lean LOADS. Nothing in Lean hashes anything: it is a label: what it is worth is what the hold of that sum in a sandbox is worth. -/
noncomputable def Try.pinned : Pinned := { name := "ytmidobhfahpkcab", sum := "a47ba470a1013d60a51ebe84e1a03457dfd97604529fb3f6fe0cc5d461b94abf", checked := Try.checked }
namespace Rows
def none {H : Type} : Left H := { results := [], args := [] }

/-- 'laws.FnExactLifeOf': WHATEVER THE INPUT: true; the input reads as it did. -/
def fnExactLifeOfSpec : ChangeSpec := { name := "fnExactLifeOf", fn := fun _ => fun
  | [d1, d2] => { results := [.lit (.bool true)], args := [d1, d2] }
  | _ => none }
def fnExactLifeOfRow : OpenClaim := { program := "ytmidobhfahpkcab", sum := "a47ba470a1013d60a51ebe84e1a03457dfd97604529fb3f6fe0cc5d461b94abf", func := "loop.example/g01369/laws.FnExactLifeOf", spec := "fnExactLifeOf", apart := false }
def FnExactLifeOfSaid : Prop := fnExactLifeOfRow.holds Try.pinned (OpenSpec.ofChange fnExactLifeOfSpec)

/-- ITS FALSE NEIGHBOUR: 'it returns false'. Refute it at one input. -/
def fnExactLifeOfWrong : ChangeSpec := { name := "fnExactLifeOf", fn := fun _ => fun
  | [d1, d2] => { results := [.lit (.bool false)], args := [d1, d2] }
  | _ => none }
def FnExactLifeOfWrongFalsely : Prop := fnExactLifeOfRow.holds Try.pinned (OpenSpec.ofChange fnExactLifeOfWrong)

/-- 'laws.FnExactYearsOfPart': WHATEVER THE INPUT: true; the input reads as it did. -/
def fnExactYearsOfPartSpec : ChangeSpec := { name := "fnExactYearsOfPart", fn := fun _ => fun
  | [d1, d2, d3] => { results := [.lit (.bool true)], args := [d1, d2, d3] }
  | _ => none }
def fnExactYearsOfPartRow : OpenClaim := { program := "ytmidobhfahpkcab", sum := "a47ba470a1013d60a51ebe84e1a03457dfd97604529fb3f6fe0cc5d461b94abf", func := "loop.example/g01369/laws.FnExactYearsOfPart", spec := "fnExactYearsOfPart", apart := false }
def FnExactYearsOfPartSaid : Prop := fnExactYearsOfPartRow.holds Try.pinned (OpenSpec.ofChange fnExactYearsOfPartSpec)

/-- ITS FALSE NEIGHBOUR: 'it returns false'. Refute it at one input. -/
def fnExactYearsOfPartWrong : ChangeSpec := { name := "fnExactYearsOfPart", fn := fun _ => fun
  | [d1, d2, d3] => { results := [.lit (.bool false)], args := [d1, d2, d3] }
  | _ => none }
def FnExactYearsOfPartWrongFalsely : Prop := fnExactYearsOfPartRow.holds Try.pinned (OpenSpec.ofChange fnExactYearsOfPartWrong)

/-- 'laws.FnExactWholeLives': WHATEVER THE INPUT: true; the input reads as it did. -/
def fnExactWholeLivesSpec : ChangeSpec := { name := "fnExactWholeLives", fn := fun _ => fun
  | [d] => { results := [.lit (.bool true)], args := [d] }
  | _ => none }
def fnExactWholeLivesRow : OpenClaim := { program := "ytmidobhfahpkcab", sum := "a47ba470a1013d60a51ebe84e1a03457dfd97604529fb3f6fe0cc5d461b94abf", func := "loop.example/g01369/laws.FnExactWholeLives", spec := "fnExactWholeLives", unfollowed := true, recurses := true, apart := false }
def FnExactWholeLivesSaid : Prop := fnExactWholeLivesRow.holds Try.pinned (OpenSpec.ofChange fnExactWholeLivesSpec)

/-- ITS FALSE NEIGHBOUR: 'it returns false'. Refute it at one input. -/
def fnExactWholeLivesWrong : ChangeSpec := { name := "fnExactWholeLives", fn := fun _ => fun
  | [d] => { results := [.lit (.bool false)], args := [d] }
  | _ => none }
def FnExactWholeLivesWrongFalsely : Prop := fnExactWholeLivesRow.holds Try.pinned (OpenSpec.ofChange fnExactWholeLivesWrong)

/-- 'laws.FnExactWholeRatioYears': WHATEVER THE INPUT: true; the input reads as it did. -/
def fnExactWholeRatioYearsSpec : ChangeSpec := { name := "fnExactWholeRatioYears", fn := fun _ => fun
  | [d1, d2] => { results := [.lit (.bool true)], args := [d1, d2] }
  | _ => none }
def fnExactWholeRatioYearsRow : OpenClaim := { program := "ytmidobhfahpkcab", sum := "a47ba470a1013d60a51ebe84e1a03457dfd97604529fb3f6fe0cc5d461b94abf", func := "loop.example/g01369/laws.FnExactWholeRatioYears", spec := "fnExactWholeRatioYears", unfollowed := true, recurses := true, apart := false }
def FnExactWholeRatioYearsSaid : Prop := fnExactWholeRatioYearsRow.holds Try.pinned (OpenSpec.ofChange fnExactWholeRatioYearsSpec)

/-- ITS FALSE NEIGHBOUR: 'it returns false'. Refute it at one input. -/
def fnExactWholeRatioYearsWrong : ChangeSpec := { name := "fnExactWholeRatioYears", fn := fun _ => fun
  | [d1, d2] => { results := [.lit (.bool false)], args := [d1, d2] }
  | _ => none }
def FnExactWholeRatioYearsWrongFalsely : Prop := fnExactWholeRatioYearsRow.holds Try.pinned (OpenSpec.ofChange fnExactWholeRatioYearsWrong)

/-- 'laws.FnExactBothMultiples': WHATEVER THE INPUT: true; the input reads as it did. -/
def fnExactBothMultiplesSpec : ChangeSpec := { name := "fnExactBothMultiples", fn := fun _ => fun
  | [d1, d2, d3] => { results := [.lit (.bool true)], args := [d1, d2, d3] }
  | _ => none }
def fnExactBothMultiplesRow : OpenClaim := { program := "ytmidobhfahpkcab", sum := "a47ba470a1013d60a51ebe84e1a03457dfd97604529fb3f6fe0cc5d461b94abf", func := "loop.example/g01369/laws.FnExactBothMultiples", spec := "fnExactBothMultiples", unfollowed := true, recurses := true, apart := false }
def FnExactBothMultiplesSaid : Prop := fnExactBothMultiplesRow.holds Try.pinned (OpenSpec.ofChange fnExactBothMultiplesSpec)

/-- ITS FALSE NEIGHBOUR: 'it returns false'. Refute it at one input. -/
def fnExactBothMultiplesWrong : ChangeSpec := { name := "fnExactBothMultiples", fn := fun _ => fun
  | [d1, d2, d3] => { results := [.lit (.bool false)], args := [d1, d2, d3] }
  | _ => none }
def FnExactBothMultiplesWrongFalsely : Prop := fnExactBothMultiplesRow.holds Try.pinned (OpenSpec.ofChange fnExactBothMultiplesWrong)

/- THE SECOND FORM. 'bulk': how many values and letters a reading holds, each counted each time it is reached (what is shared counts as often as it is met; a slice's spare places count too). A statement '..UptoSaid' is the law's where the arguments, and the package variables that the reading takes, are together of bulk at most 1048576: NARROWER than '..Said'. Prove '..Said' where nothing that the law and all that it calls make is longer than what came in: it says more and counts as full. Else prove '..UptoSaid'. A law counts once. -/
mutual
def uptoBulk {H : Type} : DataW H → Nat
  | .lit (.string bytes) => bytes.length + 1
  | .lit _ => 1
  | .nil => 1
  | .ptr d => uptoBulk d + 1
  | .slice elems spare => uptoBulkAll elems + uptoBulkAll spare + 1
  | .agg parts => uptoBulkAll parts + 1
  | .iface _ d => uptoBulk d + 1
  | .map entries => uptoBulkEntries entries + 1
  | .held _ => 1
def uptoBulkAll {H : Type} : List (DataW H) → Nat
  | [] => 0
  | d :: r => uptoBulk d + uptoBulkAll r
def uptoBulkEntries {H : Type} : List (Lit × DataW H) → Nat
  | [] => 0
  | x :: r => uptoBulkEntry x + uptoBulkEntries r
def uptoBulkEntry {H : Type} : Lit × DataW H → Nat
  | (.string bytes, d) => bytes.length + uptoBulk d + 1
  | (_, d) => uptoBulk d + 1
 end
def uptoSmall : (H : Type) → List (DataW H) → Bool := fun _ ds => decide (uptoBulkAll ds ≤ 1048576)
def OpenSpec.upto (s : _root_.Go.ChangeSpec) : _root_.Go.OpenSpec := { _root_.Go.OpenSpec.ofChange s with cond := some uptoSmall }

/-- 'laws.FnExactLifeOf', WHERE WHAT IT READS IS OF BULK AT MOST 1048576: true; the input reads as it did. -/
def fnExactLifeOfUptoRow : OpenClaim := { program := "ytmidobhfahpkcab", sum := "a47ba470a1013d60a51ebe84e1a03457dfd97604529fb3f6fe0cc5d461b94abf", func := "loop.example/g01369/laws.FnExactLifeOf", spec := "fnExactLifeOf", apart := false, narrowed := true }
def FnExactLifeOfUptoSaid : Prop := fnExactLifeOfUptoRow.holds Try.pinned (OpenSpec.upto fnExactLifeOfSpec)

/-- 'laws.FnExactYearsOfPart', WHERE WHAT IT READS IS OF BULK AT MOST 1048576: true; the input reads as it did. -/
def fnExactYearsOfPartUptoRow : OpenClaim := { program := "ytmidobhfahpkcab", sum := "a47ba470a1013d60a51ebe84e1a03457dfd97604529fb3f6fe0cc5d461b94abf", func := "loop.example/g01369/laws.FnExactYearsOfPart", spec := "fnExactYearsOfPart", apart := false, narrowed := true }
def FnExactYearsOfPartUptoSaid : Prop := fnExactYearsOfPartUptoRow.holds Try.pinned (OpenSpec.upto fnExactYearsOfPartSpec)

/-- 'laws.FnExactWholeLives', WHERE WHAT IT READS IS OF BULK AT MOST 1048576: true; the input reads as it did. -/
def fnExactWholeLivesUptoRow : OpenClaim := { program := "ytmidobhfahpkcab", sum := "a47ba470a1013d60a51ebe84e1a03457dfd97604529fb3f6fe0cc5d461b94abf", func := "loop.example/g01369/laws.FnExactWholeLives", spec := "fnExactWholeLives", unfollowed := true, recurses := true, apart := false, narrowed := true }
def FnExactWholeLivesUptoSaid : Prop := fnExactWholeLivesUptoRow.holds Try.pinned (OpenSpec.upto fnExactWholeLivesSpec)

/-- 'laws.FnExactWholeRatioYears', WHERE WHAT IT READS IS OF BULK AT MOST 1048576: true; the input reads as it did. -/
def fnExactWholeRatioYearsUptoRow : OpenClaim := { program := "ytmidobhfahpkcab", sum := "a47ba470a1013d60a51ebe84e1a03457dfd97604529fb3f6fe0cc5d461b94abf", func := "loop.example/g01369/laws.FnExactWholeRatioYears", spec := "fnExactWholeRatioYears", unfollowed := true, recurses := true, apart := false, narrowed := true }
def FnExactWholeRatioYearsUptoSaid : Prop := fnExactWholeRatioYearsUptoRow.holds Try.pinned (OpenSpec.upto fnExactWholeRatioYearsSpec)

/-- 'laws.FnExactBothMultiples', WHERE WHAT IT READS IS OF BULK AT MOST 1048576: true; the input reads as it did. -/
def fnExactBothMultiplesUptoRow : OpenClaim := { program := "ytmidobhfahpkcab", sum := "a47ba470a1013d60a51ebe84e1a03457dfd97604529fb3f6fe0cc5d461b94abf", func := "loop.example/g01369/laws.FnExactBothMultiples", spec := "fnExactBothMultiples", unfollowed := true, recurses := true, apart := false, narrowed := true }
def FnExactBothMultiplesUptoSaid : Prop := fnExactBothMultiplesUptoRow.holds Try.pinned (OpenSpec.upto fnExactBothMultiplesSpec)

end Rows
end Go.Proofs.Ytmidobhfahpkcab
