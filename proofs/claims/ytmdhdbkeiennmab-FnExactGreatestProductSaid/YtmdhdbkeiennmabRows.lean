/-
  No cell of these rows narrows 'for every input' (looked for: loops, veiled, ifaces, maps, wideKeys, modest, calm, conditions, laid).
  DERIVED. THE GIVEN ROWS OF THIS SEAT. 10 by the template 'for every input the law returns true; each argument reads behind the call as it read before'; 0 by the template 'total and deterministic' (their statements: YtmdhdbkeiennmabTotals.lean).
  GIVEN WITH THE SEED: the statements are not yours to turn. If you find one false, say at which input.
  Laid BY PROGRAM, IN A SANDBOX (cutbox-rows.mjs): the forced cells as the released guide's own fill.sh prints them over the translation 1084aed77c60c70a… (all of the seat's roots in one cut). By AI agents, Wed Nov 11 2026. No macro, syntax, notation, axiom, sorry.
-/
import Derived.Test.YtmdhdbkeiennmabChecked
import GoSem.Claim
import GoSem.ClaimJoined
import GoSem.ClaimMapViews
import Derived.JoinedTies
import Derived.KernelRfl
namespace Go.Proofs.Ytmdhdbkeiennmab
/- THE CELL 'sum', in the pinned program and in every row, IS THE sha256 OF THE DUMP (.gsa) THAT YtmdhdbkeiennmabProg.lean LOADS. Nothing in Lean hashes anything: it is a label: what it is worth is what the hold of that sum in a sandbox is worth. -/
noncomputable def Try.pinned : Pinned := { name := "ytmdhdbkeiennmab", sum := "1084aed77c60c70a0b9c2b86adf7e4d9c214b6c0108f352390d2c571caa01043", checked := Try.checked }
namespace Rows
def none {H : Type} : Left H := { results := [], args := [] }

/-- 'laws.FnExactIsSet': WHATEVER THE INPUT: true; the input reads as it did. -/
def fnExactIsSetSpec : ChangeSpec := { name := "fnExactIsSet", fn := fun _ => fun
  | [d] => { results := [.lit (.bool true)], args := [d] }
  | _ => none }
def fnExactIsSetRow : OpenClaim := { program := "ytmdhdbkeiennmab", sum := "1084aed77c60c70a0b9c2b86adf7e4d9c214b6c0108f352390d2c571caa01043", func := "loop.example/g01369/laws.FnExactIsSet", spec := "fnExactIsSet", apart := false }
def FnExactIsSetSaid : Prop := fnExactIsSetRow.holds Try.pinned (OpenSpec.ofChange fnExactIsSetSpec)

/-- ITS FALSE NEIGHBOUR: 'it returns false'. Refute it at one input. -/
def fnExactIsSetWrong : ChangeSpec := { name := "fnExactIsSet", fn := fun _ => fun
  | [d] => { results := [.lit (.bool false)], args := [d] }
  | _ => none }
def FnExactIsSetWrongFalsely : Prop := fnExactIsSetRow.holds Try.pinned (OpenSpec.ofChange fnExactIsSetWrong)

/-- 'laws.FnExactHasOldest': WHATEVER THE INPUT: true; the input reads as it did. -/
def fnExactHasOldestSpec : ChangeSpec := { name := "fnExactHasOldest", fn := fun _ => fun
  | [d] => { results := [.lit (.bool true)], args := [d] }
  | _ => none }
def fnExactHasOldestRow : OpenClaim := { program := "ytmdhdbkeiennmab", sum := "1084aed77c60c70a0b9c2b86adf7e4d9c214b6c0108f352390d2c571caa01043", func := "loop.example/g01369/laws.FnExactHasOldest", spec := "fnExactHasOldest", unfollowed := true, recurses := true, apart := false }
def FnExactHasOldestSaid : Prop := fnExactHasOldestRow.holds Try.pinned (OpenSpec.ofChange fnExactHasOldestSpec)

/-- ITS FALSE NEIGHBOUR: 'it returns false'. Refute it at one input. -/
def fnExactHasOldestWrong : ChangeSpec := { name := "fnExactHasOldest", fn := fun _ => fun
  | [d] => { results := [.lit (.bool false)], args := [d] }
  | _ => none }
def FnExactHasOldestWrongFalsely : Prop := fnExactHasOldestRow.holds Try.pinned (OpenSpec.ofChange fnExactHasOldestWrong)

/-- 'laws.FnExactHasYoungest': WHATEVER THE INPUT: true; the input reads as it did. -/
def fnExactHasYoungestSpec : ChangeSpec := { name := "fnExactHasYoungest", fn := fun _ => fun
  | [d] => { results := [.lit (.bool true)], args := [d] }
  | _ => none }
def fnExactHasYoungestRow : OpenClaim := { program := "ytmdhdbkeiennmab", sum := "1084aed77c60c70a0b9c2b86adf7e4d9c214b6c0108f352390d2c571caa01043", func := "loop.example/g01369/laws.FnExactHasYoungest", spec := "fnExactHasYoungest", unfollowed := true, recurses := true, apart := false }
def FnExactHasYoungestSaid : Prop := fnExactHasYoungestRow.holds Try.pinned (OpenSpec.ofChange fnExactHasYoungestSpec)

/-- ITS FALSE NEIGHBOUR: 'it returns false'. Refute it at one input. -/
def fnExactHasYoungestWrong : ChangeSpec := { name := "fnExactHasYoungest", fn := fun _ => fun
  | [d] => { results := [.lit (.bool false)], args := [d] }
  | _ => none }
def FnExactHasYoungestWrongFalsely : Prop := fnExactHasYoungestRow.holds Try.pinned (OpenSpec.ofChange fnExactHasYoungestWrong)

/-- 'laws.FnExactTwinsIn': WHATEVER THE INPUT: true; the input reads as it did. -/
def fnExactTwinsInSpec : ChangeSpec := { name := "fnExactTwinsIn", fn := fun _ => fun
  | [d] => { results := [.lit (.bool true)], args := [d] }
  | _ => none }
def fnExactTwinsInRow : OpenClaim := { program := "ytmdhdbkeiennmab", sum := "1084aed77c60c70a0b9c2b86adf7e4d9c214b6c0108f352390d2c571caa01043", func := "loop.example/g01369/laws.FnExactTwinsIn", spec := "fnExactTwinsIn", unfollowed := true, recurses := true, apart := false }
def FnExactTwinsInSaid : Prop := fnExactTwinsInRow.holds Try.pinned (OpenSpec.ofChange fnExactTwinsInSpec)

/-- ITS FALSE NEIGHBOUR: 'it returns false'. Refute it at one input. -/
def fnExactTwinsInWrong : ChangeSpec := { name := "fnExactTwinsIn", fn := fun _ => fun
  | [d] => { results := [.lit (.bool false)], args := [d] }
  | _ => none }
def FnExactTwinsInWrongFalsely : Prop := fnExactTwinsInRow.holds Try.pinned (OpenSpec.ofChange fnExactTwinsInWrong)

/-- 'laws.FnExactProductsOfSum': WHATEVER THE INPUT: true; the input reads as it did. -/
def fnExactProductsOfSumSpec : ChangeSpec := { name := "fnExactProductsOfSum", fn := fun _ => fun
  | [d1, d2] => { results := [.lit (.bool true)], args := [d1, d2] }
  | _ => none }
def fnExactProductsOfSumRow : OpenClaim := { program := "ytmdhdbkeiennmab", sum := "1084aed77c60c70a0b9c2b86adf7e4d9c214b6c0108f352390d2c571caa01043", func := "loop.example/g01369/laws.FnExactProductsOfSum", spec := "fnExactProductsOfSum", unfollowed := true, recurses := true, apart := false }
def FnExactProductsOfSumSaid : Prop := fnExactProductsOfSumRow.holds Try.pinned (OpenSpec.ofChange fnExactProductsOfSumSpec)

/-- ITS FALSE NEIGHBOUR: 'it returns false'. Refute it at one input. -/
def fnExactProductsOfSumWrong : ChangeSpec := { name := "fnExactProductsOfSum", fn := fun _ => fun
  | [d1, d2] => { results := [.lit (.bool false)], args := [d1, d2] }
  | _ => none }
def FnExactProductsOfSumWrongFalsely : Prop := fnExactProductsOfSumRow.holds Try.pinned (OpenSpec.ofChange fnExactProductsOfSumWrong)

/-- 'laws.FnExactGreatestProduct': WHATEVER THE INPUT: true; the input reads as it did. -/
def fnExactGreatestProductSpec : ChangeSpec := { name := "fnExactGreatestProduct", fn := fun _ => fun
  | [d1, d2] => { results := [.lit (.bool true)], args := [d1, d2] }
  | _ => none }
def fnExactGreatestProductRow : OpenClaim := { program := "ytmdhdbkeiennmab", sum := "1084aed77c60c70a0b9c2b86adf7e4d9c214b6c0108f352390d2c571caa01043", func := "loop.example/g01369/laws.FnExactGreatestProduct", spec := "fnExactGreatestProduct", unfollowed := true, recurses := true, apart := false }
def FnExactGreatestProductSaid : Prop := fnExactGreatestProductRow.holds Try.pinned (OpenSpec.ofChange fnExactGreatestProductSpec)

/-- ITS FALSE NEIGHBOUR: 'it returns false'. Refute it at one input. -/
def fnExactGreatestProductWrong : ChangeSpec := { name := "fnExactGreatestProduct", fn := fun _ => fun
  | [d1, d2] => { results := [.lit (.bool false)], args := [d1, d2] }
  | _ => none }
def FnExactGreatestProductWrongFalsely : Prop := fnExactGreatestProductRow.holds Try.pinned (OpenSpec.ofChange fnExactGreatestProductWrong)

/-- 'laws.FnExactSetsApart': WHATEVER THE INPUT: true; the input reads as it did. -/
def fnExactSetsApartSpec : ChangeSpec := { name := "fnExactSetsApart", fn := fun _ => fun
  | [d1, d2, d3] => { results := [.lit (.bool true)], args := [d1, d2, d3] }
  | _ => none }
def fnExactSetsApartRow : OpenClaim := { program := "ytmdhdbkeiennmab", sum := "1084aed77c60c70a0b9c2b86adf7e4d9c214b6c0108f352390d2c571caa01043", func := "loop.example/g01369/laws.FnExactSetsApart", spec := "fnExactSetsApart", unfollowed := true, recurses := true, apart := false }
def FnExactSetsApartSaid : Prop := fnExactSetsApartRow.holds Try.pinned (OpenSpec.ofChange fnExactSetsApartSpec)

/-- ITS FALSE NEIGHBOUR: 'it returns false'. Refute it at one input. -/
def fnExactSetsApartWrong : ChangeSpec := { name := "fnExactSetsApart", fn := fun _ => fun
  | [d1, d2, d3] => { results := [.lit (.bool false)], args := [d1, d2, d3] }
  | _ => none }
def FnExactSetsApartWrongFalsely : Prop := fnExactSetsApartRow.holds Try.pinned (OpenSpec.ofChange fnExactSetsApartWrong)

/-- 'laws.FnExactCountBySum': WHATEVER THE INPUT: true; the input reads as it did. -/
def fnExactCountBySumSpec : ChangeSpec := { name := "fnExactCountBySum", fn := fun _ => fun
  | [d1, d2] => { results := [.lit (.bool true)], args := [d1, d2] }
  | _ => none }
def fnExactCountBySumRow : OpenClaim := { program := "ytmdhdbkeiennmab", sum := "1084aed77c60c70a0b9c2b86adf7e4d9c214b6c0108f352390d2c571caa01043", func := "loop.example/g01369/laws.FnExactCountBySum", spec := "fnExactCountBySum", unfollowed := true, recurses := true, apart := false }
def FnExactCountBySumSaid : Prop := fnExactCountBySumRow.holds Try.pinned (OpenSpec.ofChange fnExactCountBySumSpec)

/-- ITS FALSE NEIGHBOUR: 'it returns false'. Refute it at one input. -/
def fnExactCountBySumWrong : ChangeSpec := { name := "fnExactCountBySum", fn := fun _ => fun
  | [d1, d2] => { results := [.lit (.bool false)], args := [d1, d2] }
  | _ => none }
def FnExactCountBySumWrongFalsely : Prop := fnExactCountBySumRow.holds Try.pinned (OpenSpec.ofChange fnExactCountBySumWrong)

/-- 'laws.FnExactNextSet': WHATEVER THE INPUT: true; the input reads as it did. -/
def fnExactNextSetSpec : ChangeSpec := { name := "fnExactNextSet", fn := fun _ => fun
  | [d] => { results := [.lit (.bool true)], args := [d] }
  | _ => none }
def fnExactNextSetRow : OpenClaim := { program := "ytmdhdbkeiennmab", sum := "1084aed77c60c70a0b9c2b86adf7e4d9c214b6c0108f352390d2c571caa01043", func := "loop.example/g01369/laws.FnExactNextSet", spec := "fnExactNextSet", unfollowed := true, recurses := true, apart := false }
def FnExactNextSetSaid : Prop := fnExactNextSetRow.holds Try.pinned (OpenSpec.ofChange fnExactNextSetSpec)

/-- ITS FALSE NEIGHBOUR: 'it returns false'. Refute it at one input. -/
def fnExactNextSetWrong : ChangeSpec := { name := "fnExactNextSet", fn := fun _ => fun
  | [d] => { results := [.lit (.bool false)], args := [d] }
  | _ => none }
def FnExactNextSetWrongFalsely : Prop := fnExactNextSetRow.holds Try.pinned (OpenSpec.ofChange fnExactNextSetWrong)

/-- 'laws.FnExactLaterSet': WHATEVER THE INPUT: true; the input reads as it did. -/
def fnExactLaterSetSpec : ChangeSpec := { name := "fnExactLaterSet", fn := fun _ => fun
  | [d1, d2] => { results := [.lit (.bool true)], args := [d1, d2] }
  | _ => none }
def fnExactLaterSetRow : OpenClaim := { program := "ytmdhdbkeiennmab", sum := "1084aed77c60c70a0b9c2b86adf7e4d9c214b6c0108f352390d2c571caa01043", func := "loop.example/g01369/laws.FnExactLaterSet", spec := "fnExactLaterSet", apart := false }
def FnExactLaterSetSaid : Prop := fnExactLaterSetRow.holds Try.pinned (OpenSpec.ofChange fnExactLaterSetSpec)

/-- ITS FALSE NEIGHBOUR: 'it returns false'. Refute it at one input. -/
def fnExactLaterSetWrong : ChangeSpec := { name := "fnExactLaterSet", fn := fun _ => fun
  | [d1, d2] => { results := [.lit (.bool false)], args := [d1, d2] }
  | _ => none }
def FnExactLaterSetWrongFalsely : Prop := fnExactLaterSetRow.holds Try.pinned (OpenSpec.ofChange fnExactLaterSetWrong)

/- THE SECOND FORM. 'bulk': how many values and letters a reading holds, each counted each time it is reached (what is shared counts as often as it is met; a slice's spare places count too). A statement '..UptoSaid' is the law's where the arguments, and the package variables that the reading takes, are together of bulk at most 1048576: NARROWER than '..Said'. Prove '..Said' where nothing that the law and all that it calls make is longer than what came in: it says more and counts as full. Else prove '..UptoSaid'. A law counts once. -/
mutual
def uptoBulk {H : Type} : DataW H → Nat
  | .lit (.string bytes) => bytes.length + 1
  | .lit _ => 1
  | .nil => 1
  | .ptr d => uptoBulk d + 1
  | .slice elems spare => uptoBulkAll elems + uptoBulkAll spare + 1
  | .agg parts => uptoBulkAll parts + 1
  | .iface _ d => uptoBulk d + 1
  | .map entries => uptoBulkEntries entries + 1
  | .held _ => 1
def uptoBulkAll {H : Type} : List (DataW H) → Nat
  | [] => 0
  | d :: r => uptoBulk d + uptoBulkAll r
def uptoBulkEntries {H : Type} : List (Lit × DataW H) → Nat
  | [] => 0
  | x :: r => uptoBulkEntry x + uptoBulkEntries r
def uptoBulkEntry {H : Type} : Lit × DataW H → Nat
  | (.string bytes, d) => bytes.length + uptoBulk d + 1
  | (_, d) => uptoBulk d + 1
 end
def uptoSmall : (H : Type) → List (DataW H) → Bool := fun _ ds => decide (uptoBulkAll ds ≤ 1048576)
def OpenSpec.upto (s : _root_.Go.ChangeSpec) : _root_.Go.OpenSpec := { _root_.Go.OpenSpec.ofChange s with cond := some uptoSmall }

/-- 'laws.FnExactIsSet', WHERE WHAT IT READS IS OF BULK AT MOST 1048576: true; the input reads as it did. -/
def fnExactIsSetUptoRow : OpenClaim := { program := "ytmdhdbkeiennmab", sum := "1084aed77c60c70a0b9c2b86adf7e4d9c214b6c0108f352390d2c571caa01043", func := "loop.example/g01369/laws.FnExactIsSet", spec := "fnExactIsSet", apart := false, narrowed := true }
def FnExactIsSetUptoSaid : Prop := fnExactIsSetUptoRow.holds Try.pinned (OpenSpec.upto fnExactIsSetSpec)

/-- 'laws.FnExactHasOldest', WHERE WHAT IT READS IS OF BULK AT MOST 1048576: true; the input reads as it did. -/
def fnExactHasOldestUptoRow : OpenClaim := { program := "ytmdhdbkeiennmab", sum := "1084aed77c60c70a0b9c2b86adf7e4d9c214b6c0108f352390d2c571caa01043", func := "loop.example/g01369/laws.FnExactHasOldest", spec := "fnExactHasOldest", unfollowed := true, recurses := true, apart := false, narrowed := true }
def FnExactHasOldestUptoSaid : Prop := fnExactHasOldestUptoRow.holds Try.pinned (OpenSpec.upto fnExactHasOldestSpec)

/-- 'laws.FnExactHasYoungest', WHERE WHAT IT READS IS OF BULK AT MOST 1048576: true; the input reads as it did. -/
def fnExactHasYoungestUptoRow : OpenClaim := { program := "ytmdhdbkeiennmab", sum := "1084aed77c60c70a0b9c2b86adf7e4d9c214b6c0108f352390d2c571caa01043", func := "loop.example/g01369/laws.FnExactHasYoungest", spec := "fnExactHasYoungest", unfollowed := true, recurses := true, apart := false, narrowed := true }
def FnExactHasYoungestUptoSaid : Prop := fnExactHasYoungestUptoRow.holds Try.pinned (OpenSpec.upto fnExactHasYoungestSpec)

/-- 'laws.FnExactTwinsIn', WHERE WHAT IT READS IS OF BULK AT MOST 1048576: true; the input reads as it did. -/
def fnExactTwinsInUptoRow : OpenClaim := { program := "ytmdhdbkeiennmab", sum := "1084aed77c60c70a0b9c2b86adf7e4d9c214b6c0108f352390d2c571caa01043", func := "loop.example/g01369/laws.FnExactTwinsIn", spec := "fnExactTwinsIn", unfollowed := true, recurses := true, apart := false, narrowed := true }
def FnExactTwinsInUptoSaid : Prop := fnExactTwinsInUptoRow.holds Try.pinned (OpenSpec.upto fnExactTwinsInSpec)

/-- 'laws.FnExactProductsOfSum', WHERE WHAT IT READS IS OF BULK AT MOST 1048576: true; the input reads as it did. -/
def fnExactProductsOfSumUptoRow : OpenClaim := { program := "ytmdhdbkeiennmab", sum := "1084aed77c60c70a0b9c2b86adf7e4d9c214b6c0108f352390d2c571caa01043", func := "loop.example/g01369/laws.FnExactProductsOfSum", spec := "fnExactProductsOfSum", unfollowed := true, recurses := true, apart := false, narrowed := true }
def FnExactProductsOfSumUptoSaid : Prop := fnExactProductsOfSumUptoRow.holds Try.pinned (OpenSpec.upto fnExactProductsOfSumSpec)

/-- 'laws.FnExactGreatestProduct', WHERE WHAT IT READS IS OF BULK AT MOST 1048576: true; the input reads as it did. -/
def fnExactGreatestProductUptoRow : OpenClaim := { program := "ytmdhdbkeiennmab", sum := "1084aed77c60c70a0b9c2b86adf7e4d9c214b6c0108f352390d2c571caa01043", func := "loop.example/g01369/laws.FnExactGreatestProduct", spec := "fnExactGreatestProduct", unfollowed := true, recurses := true, apart := false, narrowed := true }
def FnExactGreatestProductUptoSaid : Prop := fnExactGreatestProductUptoRow.holds Try.pinned (OpenSpec.upto fnExactGreatestProductSpec)

/-- 'laws.FnExactSetsApart', WHERE WHAT IT READS IS OF BULK AT MOST 1048576: true; the input reads as it did. -/
def fnExactSetsApartUptoRow : OpenClaim := { program := "ytmdhdbkeiennmab", sum := "1084aed77c60c70a0b9c2b86adf7e4d9c214b6c0108f352390d2c571caa01043", func := "loop.example/g01369/laws.FnExactSetsApart", spec := "fnExactSetsApart", unfollowed := true, recurses := true, apart := false, narrowed := true }
def FnExactSetsApartUptoSaid : Prop := fnExactSetsApartUptoRow.holds Try.pinned (OpenSpec.upto fnExactSetsApartSpec)

/-- 'laws.FnExactCountBySum', WHERE WHAT IT READS IS OF BULK AT MOST 1048576: true; the input reads as it did. -/
def fnExactCountBySumUptoRow : OpenClaim := { program := "ytmdhdbkeiennmab", sum := "1084aed77c60c70a0b9c2b86adf7e4d9c214b6c0108f352390d2c571caa01043", func := "loop.example/g01369/laws.FnExactCountBySum", spec := "fnExactCountBySum", unfollowed := true, recurses := true, apart := false, narrowed := true }
def FnExactCountBySumUptoSaid : Prop := fnExactCountBySumUptoRow.holds Try.pinned (OpenSpec.upto fnExactCountBySumSpec)

/-- 'laws.FnExactNextSet', WHERE WHAT IT READS IS OF BULK AT MOST 1048576: true; the input reads as it did. -/
def fnExactNextSetUptoRow : OpenClaim := { program := "ytmdhdbkeiennmab", sum := "1084aed77c60c70a0b9c2b86adf7e4d9c214b6c0108f352390d2c571caa01043", func := "loop.example/g01369/laws.FnExactNextSet", spec := "fnExactNextSet", unfollowed := true, recurses := true, apart := false, narrowed := true }
def FnExactNextSetUptoSaid : Prop := fnExactNextSetUptoRow.holds Try.pinned (OpenSpec.upto fnExactNextSetSpec)

/-- 'laws.FnExactLaterSet', WHERE WHAT IT READS IS OF BULK AT MOST 1048576: true; the input reads as it did. -/
def fnExactLaterSetUptoRow : OpenClaim := { program := "ytmdhdbkeiennmab", sum := "1084aed77c60c70a0b9c2b86adf7e4d9c214b6c0108f352390d2c571caa01043", func := "loop.example/g01369/laws.FnExactLaterSet", spec := "fnExactLaterSet", apart := false, narrowed := true }
def FnExactLaterSetUptoSaid : Prop := fnExactLaterSetUptoRow.holds Try.pinned (OpenSpec.upto fnExactLaterSetSpec)

end Rows
end Go.Proofs.Ytmdhdbkeiennmab
