/-
  No cell of these rows narrows 'for every input' (looked for: loops, veiled, ifaces, maps, wideKeys, modest, calm, conditions, laid).
  DERIVED. THE GIVEN ROWS OF THIS SEAT. 6 by the template 'for every input the law returns true; each argument reads behind the call as it read before'; 0 by the template 'total and deterministic' (their statements: YtmlcelleohhmcaaTotals.lean).
  GIVEN WITH THE SEED: the statements are not yours to turn. If you find one false, say at which input.
  Laid BY PROGRAM, IN A SANDBOX (cutbox-rows.mjs): the forced cells as the released guide's own fill.sh prints them over the translation 32df24c0dc9e4baa… (all of the seat's roots in one cut). By AI agents, Wed Nov 11 2026. No macro, syntax, notation, axiom, sorry.
-/
import Derived.Test.YtmlcelleohhmcaaChecked
import GoSem.Claim
import GoSem.ClaimJoined
import GoSem.ClaimMapViews
import Derived.JoinedTies
import Derived.KernelRfl
namespace Go.Proofs.Ytmlcelleohhmcaa
/- THE CELL 'sum', in the pinned program and in every row, IS THE sha256 OF THE DUMP (.gsa) THAT YtmlcelleohhmcaaProg.lean LOADS. Nothing in Lean hashes anything: it is a label: what it is worth is what the hold of that sum in a sandbox is worth. -/
noncomputable def Try.pinned : Pinned := { name := "ytmlcelleohhmcaa", sum := "32df24c0dc9e4baa6f81a8d2965a97d15b913fee9745e518d0cf4f693ae21718", checked := Try.checked }
namespace Rows
def none {H : Type} : Left H := { results := [], args := [] }

/-- 'laws.FnExactAncestorsOf': WHATEVER THE INPUT: true; the input reads as it did. -/
def fnExactAncestorsOfSpec : ChangeSpec := { name := "fnExactAncestorsOf", fn := fun _ => fun
  | [d1, d2] => { results := [.lit (.bool true)], args := [d1, d2] }
  | _ => none }
def fnExactAncestorsOfRow : OpenClaim := { program := "ytmlcelleohhmcaa", sum := "32df24c0dc9e4baa6f81a8d2965a97d15b913fee9745e518d0cf4f693ae21718", func := "loop.example/g01369/laws.FnExactAncestorsOf", spec := "fnExactAncestorsOf", unfollowed := true, recurses := true, plainKeys := false, apart := false }
def FnExactAncestorsOfSaid : Prop := fnExactAncestorsOfRow.holds Try.pinned (OpenSpec.ofChange fnExactAncestorsOfSpec)

/-- ITS FALSE NEIGHBOUR: 'it returns false'. Refute it at one input. -/
def fnExactAncestorsOfWrong : ChangeSpec := { name := "fnExactAncestorsOf", fn := fun _ => fun
  | [d1, d2] => { results := [.lit (.bool false)], args := [d1, d2] }
  | _ => none }
def FnExactAncestorsOfWrongFalsely : Prop := fnExactAncestorsOfRow.holds Try.pinned (OpenSpec.ofChange fnExactAncestorsOfWrong)

/-- 'laws.FnExactDescendantsOf': WHATEVER THE INPUT: true; the input reads as it did. -/
def fnExactDescendantsOfSpec : ChangeSpec := { name := "fnExactDescendantsOf", fn := fun _ => fun
  | [d1, d2] => { results := [.lit (.bool true)], args := [d1, d2] }
  | _ => none }
def fnExactDescendantsOfRow : OpenClaim := { program := "ytmlcelleohhmcaa", sum := "32df24c0dc9e4baa6f81a8d2965a97d15b913fee9745e518d0cf4f693ae21718", func := "loop.example/g01369/laws.FnExactDescendantsOf", spec := "fnExactDescendantsOf", unfollowed := true, recurses := true, plainKeys := false, apart := false }
def FnExactDescendantsOfSaid : Prop := fnExactDescendantsOfRow.holds Try.pinned (OpenSpec.ofChange fnExactDescendantsOfSpec)

/-- ITS FALSE NEIGHBOUR: 'it returns false'. Refute it at one input. -/
def fnExactDescendantsOfWrong : ChangeSpec := { name := "fnExactDescendantsOf", fn := fun _ => fun
  | [d1, d2] => { results := [.lit (.bool false)], args := [d1, d2] }
  | _ => none }
def FnExactDescendantsOfWrongFalsely : Prop := fnExactDescendantsOfRow.holds Try.pinned (OpenSpec.ofChange fnExactDescendantsOfWrong)

/-- 'laws.FnExactCommonAncestors': WHATEVER THE INPUT: true; the input reads as it did. -/
def fnExactCommonAncestorsSpec : ChangeSpec := { name := "fnExactCommonAncestors", fn := fun _ => fun
  | [d1, d2, d3] => { results := [.lit (.bool true)], args := [d1, d2, d3] }
  | _ => none }
def fnExactCommonAncestorsRow : OpenClaim := { program := "ytmlcelleohhmcaa", sum := "32df24c0dc9e4baa6f81a8d2965a97d15b913fee9745e518d0cf4f693ae21718", func := "loop.example/g01369/laws.FnExactCommonAncestors", spec := "fnExactCommonAncestors", unfollowed := true, recurses := true, plainKeys := false, apart := false }
def FnExactCommonAncestorsSaid : Prop := fnExactCommonAncestorsRow.holds Try.pinned (OpenSpec.ofChange fnExactCommonAncestorsSpec)

/-- ITS FALSE NEIGHBOUR: 'it returns false'. Refute it at one input. -/
def fnExactCommonAncestorsWrong : ChangeSpec := { name := "fnExactCommonAncestors", fn := fun _ => fun
  | [d1, d2, d3] => { results := [.lit (.bool false)], args := [d1, d2, d3] }
  | _ => none }
def FnExactCommonAncestorsWrongFalsely : Prop := fnExactCommonAncestorsRow.holds Try.pinned (OpenSpec.ofChange fnExactCommonAncestorsWrong)

/-- 'laws.FnExactRelationOf': WHATEVER THE INPUT: true; the input reads as it did. -/
def fnExactRelationOfSpec : ChangeSpec := { name := "fnExactRelationOf", fn := fun _ => fun
  | [d1, d2, d3] => { results := [.lit (.bool true)], args := [d1, d2, d3] }
  | _ => none }
def fnExactRelationOfRow : OpenClaim := { program := "ytmlcelleohhmcaa", sum := "32df24c0dc9e4baa6f81a8d2965a97d15b913fee9745e518d0cf4f693ae21718", func := "loop.example/g01369/laws.FnExactRelationOf", spec := "fnExactRelationOf", unfollowed := true, recurses := true, plainKeys := false, apart := false }
def FnExactRelationOfSaid : Prop := fnExactRelationOfRow.holds Try.pinned (OpenSpec.ofChange fnExactRelationOfSpec)

/-- ITS FALSE NEIGHBOUR: 'it returns false'. Refute it at one input. -/
def fnExactRelationOfWrong : ChangeSpec := { name := "fnExactRelationOf", fn := fun _ => fun
  | [d1, d2, d3] => { results := [.lit (.bool false)], args := [d1, d2, d3] }
  | _ => none }
def FnExactRelationOfWrongFalsely : Prop := fnExactRelationOfRow.holds Try.pinned (OpenSpec.ofChange fnExactRelationOfWrong)

/-- 'laws.FnExactLineDown': WHATEVER THE INPUT: true; the input reads as it did. -/
def fnExactLineDownSpec : ChangeSpec := { name := "fnExactLineDown", fn := fun _ => fun
  | [d1, d2, d3] => { results := [.lit (.bool true)], args := [d1, d2, d3] }
  | _ => none }
def fnExactLineDownRow : OpenClaim := { program := "ytmlcelleohhmcaa", sum := "32df24c0dc9e4baa6f81a8d2965a97d15b913fee9745e518d0cf4f693ae21718", func := "loop.example/g01369/laws.FnExactLineDown", spec := "fnExactLineDown", unfollowed := true, recurses := true, plainKeys := false, apart := false }
def FnExactLineDownSaid : Prop := fnExactLineDownRow.holds Try.pinned (OpenSpec.ofChange fnExactLineDownSpec)

/-- ITS FALSE NEIGHBOUR: 'it returns false'. Refute it at one input. -/
def fnExactLineDownWrong : ChangeSpec := { name := "fnExactLineDown", fn := fun _ => fun
  | [d1, d2, d3] => { results := [.lit (.bool false)], args := [d1, d2, d3] }
  | _ => none }
def FnExactLineDownWrongFalsely : Prop := fnExactLineDownRow.holds Try.pinned (OpenSpec.ofChange fnExactLineDownWrong)

/-- 'laws.FnExactStepsApart': WHATEVER THE INPUT: true; the input reads as it did. -/
def fnExactStepsApartSpec : ChangeSpec := { name := "fnExactStepsApart", fn := fun _ => fun
  | [d1, d2, d3] => { results := [.lit (.bool true)], args := [d1, d2, d3] }
  | _ => none }
def fnExactStepsApartRow : OpenClaim := { program := "ytmlcelleohhmcaa", sum := "32df24c0dc9e4baa6f81a8d2965a97d15b913fee9745e518d0cf4f693ae21718", func := "loop.example/g01369/laws.FnExactStepsApart", spec := "fnExactStepsApart", unfollowed := true, recurses := true, plainKeys := false, apart := false }
def FnExactStepsApartSaid : Prop := fnExactStepsApartRow.holds Try.pinned (OpenSpec.ofChange fnExactStepsApartSpec)

/-- ITS FALSE NEIGHBOUR: 'it returns false'. Refute it at one input. -/
def fnExactStepsApartWrong : ChangeSpec := { name := "fnExactStepsApart", fn := fun _ => fun
  | [d1, d2, d3] => { results := [.lit (.bool false)], args := [d1, d2, d3] }
  | _ => none }
def FnExactStepsApartWrongFalsely : Prop := fnExactStepsApartRow.holds Try.pinned (OpenSpec.ofChange fnExactStepsApartWrong)

/- THE SECOND FORM. 'bulk': how many values and letters a reading holds, each counted each time it is reached (what is shared counts as often as it is met; a slice's spare places count too). A statement '..UptoSaid' is the law's where the arguments, and the package variables that the reading takes, are together of bulk at most 1048576: NARROWER than '..Said'. Prove '..Said' where nothing that the law and all that it calls make is longer than what came in: it says more and counts as full. Else prove '..UptoSaid'. A law counts once. -/
mutual
def uptoBulk {H : Type} : DataW H → Nat
  | .lit (.string bytes) => bytes.length + 1
  | .lit _ => 1
  | .nil => 1
  | .ptr d => uptoBulk d + 1
  | .slice elems spare => uptoBulkAll elems + uptoBulkAll spare + 1
  | .agg parts => uptoBulkAll parts + 1
  | .iface _ d => uptoBulk d + 1
  | .map entries => uptoBulkEntries entries + 1
  | .held _ => 1
def uptoBulkAll {H : Type} : List (DataW H) → Nat
  | [] => 0
  | d :: r => uptoBulk d + uptoBulkAll r
def uptoBulkEntries {H : Type} : List (Lit × DataW H) → Nat
  | [] => 0
  | x :: r => uptoBulkEntry x + uptoBulkEntries r
def uptoBulkEntry {H : Type} : Lit × DataW H → Nat
  | (.string bytes, d) => bytes.length + uptoBulk d + 1
  | (_, d) => uptoBulk d + 1
 end
def uptoSmall : (H : Type) → List (DataW H) → Bool := fun _ ds => decide (uptoBulkAll ds ≤ 1048576)
def OpenSpec.upto (s : _root_.Go.ChangeSpec) : _root_.Go.OpenSpec := { _root_.Go.OpenSpec.ofChange s with cond := some uptoSmall }

/-- 'laws.FnExactAncestorsOf', WHERE WHAT IT READS IS OF BULK AT MOST 1048576: true; the input reads as it did. -/
def fnExactAncestorsOfUptoRow : OpenClaim := { program := "ytmlcelleohhmcaa", sum := "32df24c0dc9e4baa6f81a8d2965a97d15b913fee9745e518d0cf4f693ae21718", func := "loop.example/g01369/laws.FnExactAncestorsOf", spec := "fnExactAncestorsOf", unfollowed := true, recurses := true, plainKeys := false, apart := false, narrowed := true }
def FnExactAncestorsOfUptoSaid : Prop := fnExactAncestorsOfUptoRow.holds Try.pinned (OpenSpec.upto fnExactAncestorsOfSpec)

/-- 'laws.FnExactDescendantsOf', WHERE WHAT IT READS IS OF BULK AT MOST 1048576: true; the input reads as it did. -/
def fnExactDescendantsOfUptoRow : OpenClaim := { program := "ytmlcelleohhmcaa", sum := "32df24c0dc9e4baa6f81a8d2965a97d15b913fee9745e518d0cf4f693ae21718", func := "loop.example/g01369/laws.FnExactDescendantsOf", spec := "fnExactDescendantsOf", unfollowed := true, recurses := true, plainKeys := false, apart := false, narrowed := true }
def FnExactDescendantsOfUptoSaid : Prop := fnExactDescendantsOfUptoRow.holds Try.pinned (OpenSpec.upto fnExactDescendantsOfSpec)

/-- 'laws.FnExactCommonAncestors', WHERE WHAT IT READS IS OF BULK AT MOST 1048576: true; the input reads as it did. -/
def fnExactCommonAncestorsUptoRow : OpenClaim := { program := "ytmlcelleohhmcaa", sum := "32df24c0dc9e4baa6f81a8d2965a97d15b913fee9745e518d0cf4f693ae21718", func := "loop.example/g01369/laws.FnExactCommonAncestors", spec := "fnExactCommonAncestors", unfollowed := true, recurses := true, plainKeys := false, apart := false, narrowed := true }
def FnExactCommonAncestorsUptoSaid : Prop := fnExactCommonAncestorsUptoRow.holds Try.pinned (OpenSpec.upto fnExactCommonAncestorsSpec)

/-- 'laws.FnExactRelationOf', WHERE WHAT IT READS IS OF BULK AT MOST 1048576: true; the input reads as it did. -/
def fnExactRelationOfUptoRow : OpenClaim := { program := "ytmlcelleohhmcaa", sum := "32df24c0dc9e4baa6f81a8d2965a97d15b913fee9745e518d0cf4f693ae21718", func := "loop.example/g01369/laws.FnExactRelationOf", spec := "fnExactRelationOf", unfollowed := true, recurses := true, plainKeys := false, apart := false, narrowed := true }
def FnExactRelationOfUptoSaid : Prop := fnExactRelationOfUptoRow.holds Try.pinned (OpenSpec.upto fnExactRelationOfSpec)

/-- 'laws.FnExactLineDown', WHERE WHAT IT READS IS OF BULK AT MOST 1048576: true; the input reads as it did. -/
def fnExactLineDownUptoRow : OpenClaim := { program := "ytmlcelleohhmcaa", sum := "32df24c0dc9e4baa6f81a8d2965a97d15b913fee9745e518d0cf4f693ae21718", func := "loop.example/g01369/laws.FnExactLineDown", spec := "fnExactLineDown", unfollowed := true, recurses := true, plainKeys := false, apart := false, narrowed := true }
def FnExactLineDownUptoSaid : Prop := fnExactLineDownUptoRow.holds Try.pinned (OpenSpec.upto fnExactLineDownSpec)

/-- 'laws.FnExactStepsApart', WHERE WHAT IT READS IS OF BULK AT MOST 1048576: true; the input reads as it did. -/
def fnExactStepsApartUptoRow : OpenClaim := { program := "ytmlcelleohhmcaa", sum := "32df24c0dc9e4baa6f81a8d2965a97d15b913fee9745e518d0cf4f693ae21718", func := "loop.example/g01369/laws.FnExactStepsApart", spec := "fnExactStepsApart", unfollowed := true, recurses := true, plainKeys := false, apart := false, narrowed := true }
def FnExactStepsApartUptoSaid : Prop := fnExactStepsApartUptoRow.holds Try.pinned (OpenSpec.upto fnExactStepsApartSpec)

end Rows
end Go.Proofs.Ytmlcelleohhmcaa
