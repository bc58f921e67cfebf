/-
  No cell of these rows narrows 'for every input' (looked for: loops, veiled, ifaces, maps, wideKeys, modest, calm, conditions, laid).
  DERIVED. THE GIVEN ROWS OF THIS SEAT. 10 by the template 'for every input the law returns true; each argument reads behind the call as it read before'; 0 by the template 'total and deterministic' (their statements: YtmdhdbkeiennmaaTotals.lean).
  GIVEN WITH THE SEED: the statements are not yours to turn. If you find one false, say at which input.
  Laid BY PROGRAM, IN A SANDBOX (cutbox-rows.mjs): the forced cells as the released guide's own fill.sh prints them over the translation 10cc8d09ab336f27… (all of the seat's roots in one cut). By AI agents, Wed Nov 11 2026. No macro, syntax, notation, axiom, sorry.
-/
import Derived.Test.YtmdhdbkeiennmaaChecked
import GoSem.Claim
import GoSem.ClaimJoined
import GoSem.ClaimMapViews
import Derived.JoinedTies
import Derived.KernelRfl
namespace Go.Proofs.Ytmdhdbkeiennmaa
/- THE CELL 'sum', in the pinned program and in every row, IS THE sha256 OF THE DUMP (.gsa) THAT YtmdhdbkeiennmaaProg.lean LOADS. Nothing in Lean hashes anything: it is a label: what it is worth is what the hold of that sum in a sandbox is worth. -/
noncomputable def Try.pinned : Pinned := { name := "ytmdhdbkeiennmaa", sum := "10cc8d09ab336f2742a8ae4f77586386add0ad3a78a5bfa80ea35e7095d1d51f", checked := Try.checked }
namespace Rows
def none {H : Type} : Left H := { results := [], args := [] }

/-- 'laws.FnExactSetsOfProduct': WHATEVER THE INPUT: true; the input reads as it did. -/
def fnExactSetsOfProductSpec : ChangeSpec := { name := "fnExactSetsOfProduct", fn := fun _ => fun
  | [d1, d2] => { results := [.lit (.bool true)], args := [d1, d2] }
  | _ => none }
def fnExactSetsOfProductRow : OpenClaim := { program := "ytmdhdbkeiennmaa", sum := "10cc8d09ab336f2742a8ae4f77586386add0ad3a78a5bfa80ea35e7095d1d51f", func := "loop.example/g01369/laws.FnExactSetsOfProduct", spec := "fnExactSetsOfProduct", unfollowed := true, recurses := true, apart := false }
def FnExactSetsOfProductSaid : Prop := fnExactSetsOfProductRow.holds Try.pinned (OpenSpec.ofChange fnExactSetsOfProductSpec)

/-- ITS FALSE NEIGHBOUR: 'it returns false'. Refute it at one input. -/
def fnExactSetsOfProductWrong : ChangeSpec := { name := "fnExactSetsOfProduct", fn := fun _ => fun
  | [d1, d2] => { results := [.lit (.bool false)], args := [d1, d2] }
  | _ => none }
def FnExactSetsOfProductWrongFalsely : Prop := fnExactSetsOfProductRow.holds Try.pinned (OpenSpec.ofChange fnExactSetsOfProductWrong)

/-- 'laws.FnExactCountSets': WHATEVER THE INPUT: true; the input reads as it did. -/
def fnExactCountSetsSpec : ChangeSpec := { name := "fnExactCountSets", fn := fun _ => fun
  | [d1, d2] => { results := [.lit (.bool true)], args := [d1, d2] }
  | _ => none }
def fnExactCountSetsRow : OpenClaim := { program := "ytmdhdbkeiennmaa", sum := "10cc8d09ab336f2742a8ae4f77586386add0ad3a78a5bfa80ea35e7095d1d51f", func := "loop.example/g01369/laws.FnExactCountSets", spec := "fnExactCountSets", unfollowed := true, recurses := true, apart := false }
def FnExactCountSetsSaid : Prop := fnExactCountSetsRow.holds Try.pinned (OpenSpec.ofChange fnExactCountSetsSpec)

/-- ITS FALSE NEIGHBOUR: 'it returns false'. Refute it at one input. -/
def fnExactCountSetsWrong : ChangeSpec := { name := "fnExactCountSets", fn := fun _ => fun
  | [d1, d2] => { results := [.lit (.bool false)], args := [d1, d2] }
  | _ => none }
def FnExactCountSetsWrongFalsely : Prop := fnExactCountSetsRow.holds Try.pinned (OpenSpec.ofChange fnExactCountSetsWrong)

/-- 'laws.FnExactSumsOfProduct': WHATEVER THE INPUT: true; the input reads as it did. -/
def fnExactSumsOfProductSpec : ChangeSpec := { name := "fnExactSumsOfProduct", fn := fun _ => fun
  | [d1, d2] => { results := [.lit (.bool true)], args := [d1, d2] }
  | _ => none }
def fnExactSumsOfProductRow : OpenClaim := { program := "ytmdhdbkeiennmaa", sum := "10cc8d09ab336f2742a8ae4f77586386add0ad3a78a5bfa80ea35e7095d1d51f", func := "loop.example/g01369/laws.FnExactSumsOfProduct", spec := "fnExactSumsOfProduct", unfollowed := true, recurses := true, apart := false }
def FnExactSumsOfProductSaid : Prop := fnExactSumsOfProductRow.holds Try.pinned (OpenSpec.ofChange fnExactSumsOfProductSpec)

/-- ITS FALSE NEIGHBOUR: 'it returns false'. Refute it at one input. -/
def fnExactSumsOfProductWrong : ChangeSpec := { name := "fnExactSumsOfProduct", fn := fun _ => fun
  | [d1, d2] => { results := [.lit (.bool false)], args := [d1, d2] }
  | _ => none }
def FnExactSumsOfProductWrongFalsely : Prop := fnExactSumsOfProductRow.holds Try.pinned (OpenSpec.ofChange fnExactSumsOfProductWrong)

/-- 'laws.FnExactSetsOfBoth': WHATEVER THE INPUT: true; the input reads as it did. -/
def fnExactSetsOfBothSpec : ChangeSpec := { name := "fnExactSetsOfBoth", fn := fun _ => fun
  | [d1, d2, d3] => { results := [.lit (.bool true)], args := [d1, d2, d3] }
  | _ => none }
def fnExactSetsOfBothRow : OpenClaim := { program := "ytmdhdbkeiennmaa", sum := "10cc8d09ab336f2742a8ae4f77586386add0ad3a78a5bfa80ea35e7095d1d51f", func := "loop.example/g01369/laws.FnExactSetsOfBoth", spec := "fnExactSetsOfBoth", unfollowed := true, recurses := true, apart := false }
def FnExactSetsOfBothSaid : Prop := fnExactSetsOfBothRow.holds Try.pinned (OpenSpec.ofChange fnExactSetsOfBothSpec)

/-- ITS FALSE NEIGHBOUR: 'it returns false'. Refute it at one input. -/
def fnExactSetsOfBothWrong : ChangeSpec := { name := "fnExactSetsOfBoth", fn := fun _ => fun
  | [d1, d2, d3] => { results := [.lit (.bool false)], args := [d1, d2, d3] }
  | _ => none }
def FnExactSetsOfBothWrongFalsely : Prop := fnExactSetsOfBothRow.holds Try.pinned (OpenSpec.ofChange fnExactSetsOfBothWrong)

/-- 'laws.FnExactDoesTell': WHATEVER THE INPUT: true; the input reads as it did. -/
def fnExactDoesTellSpec : ChangeSpec := { name := "fnExactDoesTell", fn := fun _ => fun
  | [d1, d2, d3] => { results := [.lit (.bool true)], args := [d1, d2, d3] }
  | _ => none }
def fnExactDoesTellRow : OpenClaim := { program := "ytmdhdbkeiennmaa", sum := "10cc8d09ab336f2742a8ae4f77586386add0ad3a78a5bfa80ea35e7095d1d51f", func := "loop.example/g01369/laws.FnExactDoesTell", spec := "fnExactDoesTell", unfollowed := true, recurses := true, apart := false }
def FnExactDoesTellSaid : Prop := fnExactDoesTellRow.holds Try.pinned (OpenSpec.ofChange fnExactDoesTellSpec)

/-- ITS FALSE NEIGHBOUR: 'it returns false'. Refute it at one input. -/
def fnExactDoesTellWrong : ChangeSpec := { name := "fnExactDoesTell", fn := fun _ => fun
  | [d1, d2, d3] => { results := [.lit (.bool false)], args := [d1, d2, d3] }
  | _ => none }
def FnExactDoesTellWrongFalsely : Prop := fnExactDoesTellRow.holds Try.pinned (OpenSpec.ofChange fnExactDoesTellWrong)

/-- 'laws.FnExactOpenSums': WHATEVER THE INPUT: true; the input reads as it did. -/
def fnExactOpenSumsSpec : ChangeSpec := { name := "fnExactOpenSums", fn := fun _ => fun
  | [d1, d2] => { results := [.lit (.bool true)], args := [d1, d2] }
  | _ => none }
def fnExactOpenSumsRow : OpenClaim := { program := "ytmdhdbkeiennmaa", sum := "10cc8d09ab336f2742a8ae4f77586386add0ad3a78a5bfa80ea35e7095d1d51f", func := "loop.example/g01369/laws.FnExactOpenSums", spec := "fnExactOpenSums", unfollowed := true, recurses := true, apart := false }
def FnExactOpenSumsSaid : Prop := fnExactOpenSumsRow.holds Try.pinned (OpenSpec.ofChange fnExactOpenSumsSpec)

/-- ITS FALSE NEIGHBOUR: 'it returns false'. Refute it at one input. -/
def fnExactOpenSumsWrong : ChangeSpec := { name := "fnExactOpenSums", fn := fun _ => fun
  | [d1, d2] => { results := [.lit (.bool false)], args := [d1, d2] }
  | _ => none }
def FnExactOpenSumsWrongFalsely : Prop := fnExactOpenSumsRow.holds Try.pinned (OpenSpec.ofChange fnExactOpenSumsWrong)

/-- 'laws.FnExactToldByOldest': WHATEVER THE INPUT: true; the input reads as it did. -/
def fnExactToldByOldestSpec : ChangeSpec := { name := "fnExactToldByOldest", fn := fun _ => fun
  | [d1, d2] => { results := [.lit (.bool true)], args := [d1, d2] }
  | _ => none }
def fnExactToldByOldestRow : OpenClaim := { program := "ytmdhdbkeiennmaa", sum := "10cc8d09ab336f2742a8ae4f77586386add0ad3a78a5bfa80ea35e7095d1d51f", func := "loop.example/g01369/laws.FnExactToldByOldest", spec := "fnExactToldByOldest", unfollowed := true, recurses := true, apart := false }
def FnExactToldByOldestSaid : Prop := fnExactToldByOldestRow.holds Try.pinned (OpenSpec.ofChange fnExactToldByOldestSpec)

/-- ITS FALSE NEIGHBOUR: 'it returns false'. Refute it at one input. -/
def fnExactToldByOldestWrong : ChangeSpec := { name := "fnExactToldByOldest", fn := fun _ => fun
  | [d1, d2] => { results := [.lit (.bool false)], args := [d1, d2] }
  | _ => none }
def FnExactToldByOldestWrongFalsely : Prop := fnExactToldByOldestRow.holds Try.pinned (OpenSpec.ofChange fnExactToldByOldestWrong)

/-- 'laws.FnExactToldByYoungest': WHATEVER THE INPUT: true; the input reads as it did. -/
def fnExactToldByYoungestSpec : ChangeSpec := { name := "fnExactToldByYoungest", fn := fun _ => fun
  | [d1, d2] => { results := [.lit (.bool true)], args := [d1, d2] }
  | _ => none }
def fnExactToldByYoungestRow : OpenClaim := { program := "ytmdhdbkeiennmaa", sum := "10cc8d09ab336f2742a8ae4f77586386add0ad3a78a5bfa80ea35e7095d1d51f", func := "loop.example/g01369/laws.FnExactToldByYoungest", spec := "fnExactToldByYoungest", unfollowed := true, recurses := true, apart := false }
def FnExactToldByYoungestSaid : Prop := fnExactToldByYoungestRow.holds Try.pinned (OpenSpec.ofChange fnExactToldByYoungestSpec)

/-- ITS FALSE NEIGHBOUR: 'it returns false'. Refute it at one input. -/
def fnExactToldByYoungestWrong : ChangeSpec := { name := "fnExactToldByYoungest", fn := fun _ => fun
  | [d1, d2] => { results := [.lit (.bool false)], args := [d1, d2] }
  | _ => none }
def FnExactToldByYoungestWrongFalsely : Prop := fnExactToldByYoungestRow.holds Try.pinned (OpenSpec.ofChange fnExactToldByYoungestWrong)

/-- 'laws.FnExactOneByOldest': WHATEVER THE INPUT: true; the input reads as it did. -/
def fnExactOneByOldestSpec : ChangeSpec := { name := "fnExactOneByOldest", fn := fun _ => fun
  | [d1, d2, d3] => { results := [.lit (.bool true)], args := [d1, d2, d3] }
  | _ => none }
def fnExactOneByOldestRow : OpenClaim := { program := "ytmdhdbkeiennmaa", sum := "10cc8d09ab336f2742a8ae4f77586386add0ad3a78a5bfa80ea35e7095d1d51f", func := "loop.example/g01369/laws.FnExactOneByOldest", spec := "fnExactOneByOldest", unfollowed := true, recurses := true, apart := false }
def FnExactOneByOldestSaid : Prop := fnExactOneByOldestRow.holds Try.pinned (OpenSpec.ofChange fnExactOneByOldestSpec)

/-- ITS FALSE NEIGHBOUR: 'it returns false'. Refute it at one input. -/
def fnExactOneByOldestWrong : ChangeSpec := { name := "fnExactOneByOldest", fn := fun _ => fun
  | [d1, d2, d3] => { results := [.lit (.bool false)], args := [d1, d2, d3] }
  | _ => none }
def FnExactOneByOldestWrongFalsely : Prop := fnExactOneByOldestRow.holds Try.pinned (OpenSpec.ofChange fnExactOneByOldestWrong)

/-- 'laws.FnExactMostSets': WHATEVER THE INPUT: true; the input reads as it did. -/
def fnExactMostSetsSpec : ChangeSpec := { name := "fnExactMostSets", fn := fun _ => fun
  | [d1, d2, d3] => { results := [.lit (.bool true)], args := [d1, d2, d3] }
  | _ => none }
def fnExactMostSetsRow : OpenClaim := { program := "ytmdhdbkeiennmaa", sum := "10cc8d09ab336f2742a8ae4f77586386add0ad3a78a5bfa80ea35e7095d1d51f", func := "loop.example/g01369/laws.FnExactMostSets", spec := "fnExactMostSets", unfollowed := true, recurses := true, apart := false }
def FnExactMostSetsSaid : Prop := fnExactMostSetsRow.holds Try.pinned (OpenSpec.ofChange fnExactMostSetsSpec)

/-- ITS FALSE NEIGHBOUR: 'it returns false'. Refute it at one input. -/
def fnExactMostSetsWrong : ChangeSpec := { name := "fnExactMostSets", fn := fun _ => fun
  | [d1, d2, d3] => { results := [.lit (.bool false)], args := [d1, d2, d3] }
  | _ => none }
def FnExactMostSetsWrongFalsely : Prop := fnExactMostSetsRow.holds Try.pinned (OpenSpec.ofChange fnExactMostSetsWrong)

/- THE SECOND FORM. 'bulk': how many values and letters a reading holds, each counted each time it is reached (what is shared counts as often as it is met; a slice's spare places count too). A statement '..UptoSaid' is the law's where the arguments, and the package variables that the reading takes, are together of bulk at most 1048576: NARROWER than '..Said'. Prove '..Said' where nothing that the law and all that it calls make is longer than what came in: it says more and counts as full. Else prove '..UptoSaid'. A law counts once. -/
mutual
def uptoBulk {H : Type} : DataW H → Nat
  | .lit (.string bytes) => bytes.length + 1
  | .lit _ => 1
  | .nil => 1
  | .ptr d => uptoBulk d + 1
  | .slice elems spare => uptoBulkAll elems + uptoBulkAll spare + 1
  | .agg parts => uptoBulkAll parts + 1
  | .iface _ d => uptoBulk d + 1
  | .map entries => uptoBulkEntries entries + 1
  | .held _ => 1
def uptoBulkAll {H : Type} : List (DataW H) → Nat
  | [] => 0
  | d :: r => uptoBulk d + uptoBulkAll r
def uptoBulkEntries {H : Type} : List (Lit × DataW H) → Nat
  | [] => 0
  | x :: r => uptoBulkEntry x + uptoBulkEntries r
def uptoBulkEntry {H : Type} : Lit × DataW H → Nat
  | (.string bytes, d) => bytes.length + uptoBulk d + 1
  | (_, d) => uptoBulk d + 1
 end
def uptoSmall : (H : Type) → List (DataW H) → Bool := fun _ ds => decide (uptoBulkAll ds ≤ 1048576)
def OpenSpec.upto (s : _root_.Go.ChangeSpec) : _root_.Go.OpenSpec := { _root_.Go.OpenSpec.ofChange s with cond := some uptoSmall }

/-- 'laws.FnExactSetsOfProduct', WHERE WHAT IT READS IS OF BULK AT MOST 1048576: true; the input reads as it did. -/
def fnExactSetsOfProductUptoRow : OpenClaim := { program := "ytmdhdbkeiennmaa", sum := "10cc8d09ab336f2742a8ae4f77586386add0ad3a78a5bfa80ea35e7095d1d51f", func := "loop.example/g01369/laws.FnExactSetsOfProduct", spec := "fnExactSetsOfProduct", unfollowed := true, recurses := true, apart := false, narrowed := true }
def FnExactSetsOfProductUptoSaid : Prop := fnExactSetsOfProductUptoRow.holds Try.pinned (OpenSpec.upto fnExactSetsOfProductSpec)

/-- 'laws.FnExactCountSets', WHERE WHAT IT READS IS OF BULK AT MOST 1048576: true; the input reads as it did. -/
def fnExactCountSetsUptoRow : OpenClaim := { program := "ytmdhdbkeiennmaa", sum := "10cc8d09ab336f2742a8ae4f77586386add0ad3a78a5bfa80ea35e7095d1d51f", func := "loop.example/g01369/laws.FnExactCountSets", spec := "fnExactCountSets", unfollowed := true, recurses := true, apart := false, narrowed := true }
def FnExactCountSetsUptoSaid : Prop := fnExactCountSetsUptoRow.holds Try.pinned (OpenSpec.upto fnExactCountSetsSpec)

/-- 'laws.FnExactSumsOfProduct', WHERE WHAT IT READS IS OF BULK AT MOST 1048576: true; the input reads as it did. -/
def fnExactSumsOfProductUptoRow : OpenClaim := { program := "ytmdhdbkeiennmaa", sum := "10cc8d09ab336f2742a8ae4f77586386add0ad3a78a5bfa80ea35e7095d1d51f", func := "loop.example/g01369/laws.FnExactSumsOfProduct", spec := "fnExactSumsOfProduct", unfollowed := true, recurses := true, apart := false, narrowed := true }
def FnExactSumsOfProductUptoSaid : Prop := fnExactSumsOfProductUptoRow.holds Try.pinned (OpenSpec.upto fnExactSumsOfProductSpec)

/-- 'laws.FnExactSetsOfBoth', WHERE WHAT IT READS IS OF BULK AT MOST 1048576: true; the input reads as it did. -/
def fnExactSetsOfBothUptoRow : OpenClaim := { program := "ytmdhdbkeiennmaa", sum := "10cc8d09ab336f2742a8ae4f77586386add0ad3a78a5bfa80ea35e7095d1d51f", func := "loop.example/g01369/laws.FnExactSetsOfBoth", spec := "fnExactSetsOfBoth", unfollowed := true, recurses := true, apart := false, narrowed := true }
def FnExactSetsOfBothUptoSaid : Prop := fnExactSetsOfBothUptoRow.holds Try.pinned (OpenSpec.upto fnExactSetsOfBothSpec)

/-- 'laws.FnExactDoesTell', WHERE WHAT IT READS IS OF BULK AT MOST 1048576: true; the input reads as it did. -/
def fnExactDoesTellUptoRow : OpenClaim := { program := "ytmdhdbkeiennmaa", sum := "10cc8d09ab336f2742a8ae4f77586386add0ad3a78a5bfa80ea35e7095d1d51f", func := "loop.example/g01369/laws.FnExactDoesTell", spec := "fnExactDoesTell", unfollowed := true, recurses := true, apart := false, narrowed := true }
def FnExactDoesTellUptoSaid : Prop := fnExactDoesTellUptoRow.holds Try.pinned (OpenSpec.upto fnExactDoesTellSpec)

/-- 'laws.FnExactOpenSums', WHERE WHAT IT READS IS OF BULK AT MOST 1048576: true; the input reads as it did. -/
def fnExactOpenSumsUptoRow : OpenClaim := { program := "ytmdhdbkeiennmaa", sum := "10cc8d09ab336f2742a8ae4f77586386add0ad3a78a5bfa80ea35e7095d1d51f", func := "loop.example/g01369/laws.FnExactOpenSums", spec := "fnExactOpenSums", unfollowed := true, recurses := true, apart := false, narrowed := true }
def FnExactOpenSumsUptoSaid : Prop := fnExactOpenSumsUptoRow.holds Try.pinned (OpenSpec.upto fnExactOpenSumsSpec)

/-- 'laws.FnExactToldByOldest', WHERE WHAT IT READS IS OF BULK AT MOST 1048576: true; the input reads as it did. -/
def fnExactToldByOldestUptoRow : OpenClaim := { program := "ytmdhdbkeiennmaa", sum := "10cc8d09ab336f2742a8ae4f77586386add0ad3a78a5bfa80ea35e7095d1d51f", func := "loop.example/g01369/laws.FnExactToldByOldest", spec := "fnExactToldByOldest", unfollowed := true, recurses := true, apart := false, narrowed := true }
def FnExactToldByOldestUptoSaid : Prop := fnExactToldByOldestUptoRow.holds Try.pinned (OpenSpec.upto fnExactToldByOldestSpec)

/-- 'laws.FnExactToldByYoungest', WHERE WHAT IT READS IS OF BULK AT MOST 1048576: true; the input reads as it did. -/
def fnExactToldByYoungestUptoRow : OpenClaim := { program := "ytmdhdbkeiennmaa", sum := "10cc8d09ab336f2742a8ae4f77586386add0ad3a78a5bfa80ea35e7095d1d51f", func := "loop.example/g01369/laws.FnExactToldByYoungest", spec := "fnExactToldByYoungest", unfollowed := true, recurses := true, apart := false, narrowed := true }
def FnExactToldByYoungestUptoSaid : Prop := fnExactToldByYoungestUptoRow.holds Try.pinned (OpenSpec.upto fnExactToldByYoungestSpec)

/-- 'laws.FnExactOneByOldest', WHERE WHAT IT READS IS OF BULK AT MOST 1048576: true; the input reads as it did. -/
def fnExactOneByOldestUptoRow : OpenClaim := { program := "ytmdhdbkeiennmaa", sum := "10cc8d09ab336f2742a8ae4f77586386add0ad3a78a5bfa80ea35e7095d1d51f", func := "loop.example/g01369/laws.FnExactOneByOldest", spec := "fnExactOneByOldest", unfollowed := true, recurses := true, apart := false, narrowed := true }
def FnExactOneByOldestUptoSaid : Prop := fnExactOneByOldestUptoRow.holds Try.pinned (OpenSpec.upto fnExactOneByOldestSpec)

/-- 'laws.FnExactMostSets', WHERE WHAT IT READS IS OF BULK AT MOST 1048576: true; the input reads as it did. -/
def fnExactMostSetsUptoRow : OpenClaim := { program := "ytmdhdbkeiennmaa", sum := "10cc8d09ab336f2742a8ae4f77586386add0ad3a78a5bfa80ea35e7095d1d51f", func := "loop.example/g01369/laws.FnExactMostSets", spec := "fnExactMostSets", unfollowed := true, recurses := true, apart := false, narrowed := true }
def FnExactMostSetsUptoSaid : Prop := fnExactMostSetsUptoRow.holds Try.pinned (OpenSpec.upto fnExactMostSetsSpec)

end Rows
end Go.Proofs.Ytmdhdbkeiennmaa
