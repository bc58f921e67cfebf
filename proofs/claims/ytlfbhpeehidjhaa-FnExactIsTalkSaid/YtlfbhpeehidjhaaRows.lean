/-
  No cell of these rows narrows 'for every input' (looked for: loops, veiled, ifaces, maps, wideKeys, modest, calm, conditions, laid).
  DERIVED. THE GIVEN ROWS OF THIS SEAT. 3 by the template 'for every input the law returns true; each argument reads behind the call as it read before'; 0 by the template 'total and deterministic' (their statements: YtlfbhpeehidjhaaTotals.lean).
  GIVEN WITH THE SEED: the statements are not yours to turn. If you find one false, say at which input.
  Laid BY PROGRAM, IN A SANDBOX (cutbox-rows.mjs): the forced cells as the released guide's own fill.sh prints them over the translation 0b2bb407b9526ab5… (all of the seat's roots in one cut). By AI agents, Wed Nov 11 2026. No macro, syntax, notation, axiom, sorry.
-/
import Derived.Test.YtlfbhpeehidjhaaChecked
import GoSem.Claim
import GoSem.ClaimJoined
import GoSem.ClaimMapViews
import Derived.JoinedTies
import Derived.KernelRfl
namespace Go.Proofs.Ytlfbhpeehidjhaa
/- THE CELL 'sum', in the pinned program and in every row, IS THE sha256 OF THE DUMP (.gsa) THAT YtlfbhpeehidjhaaProg.lean LOADS. Nothing in Lean hashes anything: it is a label: what it is worth is what the hold of that sum in a sandbox is worth. -/
noncomputable def Try.pinned : Pinned := { name := "ytlfbhpeehidjhaa", sum := "0b2bb407b9526ab5aa2f8dbb2e2fc193ebe2998f5281f8d9c678b93105626139", checked := Try.checked }
namespace Rows
def none {H : Type} : Left H := { results := [], args := [] }

/-- 'laws.FnExactIsTalk': WHATEVER THE INPUT: true; the input reads as it did. -/
def fnExactIsTalkSpec : ChangeSpec := { name := "fnExactIsTalk", fn := fun _ => fun
  | [d] => { results := [.lit (.bool true)], args := [d] }
  | _ => none }
def fnExactIsTalkRow : OpenClaim := { program := "ytlfbhpeehidjhaa", sum := "0b2bb407b9526ab5aa2f8dbb2e2fc193ebe2998f5281f8d9c678b93105626139", func := "loop.example/g01369/laws.FnExactIsTalk", spec := "fnExactIsTalk", inPlace := ["internal/bytealg.IndexByteString"], apart := false }
def FnExactIsTalkSaid : Prop := fnExactIsTalkRow.holds Try.pinned (OpenSpec.ofChange fnExactIsTalkSpec)

/-- ITS FALSE NEIGHBOUR: 'it returns false'. Refute it at one input. -/
def fnExactIsTalkWrong : ChangeSpec := { name := "fnExactIsTalk", fn := fun _ => fun
  | [d] => { results := [.lit (.bool false)], args := [d] }
  | _ => none }
def FnExactIsTalkWrongFalsely : Prop := fnExactIsTalkRow.holds Try.pinned (OpenSpec.ofChange fnExactIsTalkWrong)

/-- 'laws.FnExactPairsOfSum': WHATEVER THE INPUT: true; the input reads as it did. -/
def fnExactPairsOfSumSpec : ChangeSpec := { name := "fnExactPairsOfSum", fn := fun _ => fun
  | [d1, d2] => { results := [.lit (.bool true)], args := [d1, d2] }
  | _ => none }
def fnExactPairsOfSumRow : OpenClaim := { program := "ytlfbhpeehidjhaa", sum := "0b2bb407b9526ab5aa2f8dbb2e2fc193ebe2998f5281f8d9c678b93105626139", func := "loop.example/g01369/laws.FnExactPairsOfSum", spec := "fnExactPairsOfSum", unfollowed := true, recurses := true, apart := false }
def FnExactPairsOfSumSaid : Prop := fnExactPairsOfSumRow.holds Try.pinned (OpenSpec.ofChange fnExactPairsOfSumSpec)

/-- ITS FALSE NEIGHBOUR: 'it returns false'. Refute it at one input. -/
def fnExactPairsOfSumWrong : ChangeSpec := { name := "fnExactPairsOfSum", fn := fun _ => fun
  | [d1, d2] => { results := [.lit (.bool false)], args := [d1, d2] }
  | _ => none }
def FnExactPairsOfSumWrongFalsely : Prop := fnExactPairsOfSumRow.holds Try.pinned (OpenSpec.ofChange fnExactPairsOfSumWrong)

/-- 'laws.FnExactPairsOfProduct': WHATEVER THE INPUT: true; the input reads as it did. -/
def fnExactPairsOfProductSpec : ChangeSpec := { name := "fnExactPairsOfProduct", fn := fun _ => fun
  | [d1, d2] => { results := [.lit (.bool true)], args := [d1, d2] }
  | _ => none }
def fnExactPairsOfProductRow : OpenClaim := { program := "ytlfbhpeehidjhaa", sum := "0b2bb407b9526ab5aa2f8dbb2e2fc193ebe2998f5281f8d9c678b93105626139", func := "loop.example/g01369/laws.FnExactPairsOfProduct", spec := "fnExactPairsOfProduct", unfollowed := true, recurses := true, apart := false }
def FnExactPairsOfProductSaid : Prop := fnExactPairsOfProductRow.holds Try.pinned (OpenSpec.ofChange fnExactPairsOfProductSpec)

/-- ITS FALSE NEIGHBOUR: 'it returns false'. Refute it at one input. -/
def fnExactPairsOfProductWrong : ChangeSpec := { name := "fnExactPairsOfProduct", fn := fun _ => fun
  | [d1, d2] => { results := [.lit (.bool false)], args := [d1, d2] }
  | _ => none }
def FnExactPairsOfProductWrongFalsely : Prop := fnExactPairsOfProductRow.holds Try.pinned (OpenSpec.ofChange fnExactPairsOfProductWrong)

/- THE SECOND FORM. 'bulk': how many values and letters a reading holds, each counted each time it is reached (what is shared counts as often as it is met; a slice's spare places count too). A statement '..UptoSaid' is the law's where the arguments, and the package variables that the reading takes, are together of bulk at most 1048576: NARROWER than '..Said'. Prove '..Said' where nothing that the law and all that it calls make is longer than what came in: it says more and counts as full. Else prove '..UptoSaid'. A law counts once. -/
mutual
def uptoBulk {H : Type} : DataW H → Nat
  | .lit (.string bytes) => bytes.length + 1
  | .lit _ => 1
  | .nil => 1
  | .ptr d => uptoBulk d + 1
  | .slice elems spare => uptoBulkAll elems + uptoBulkAll spare + 1
  | .agg parts => uptoBulkAll parts + 1
  | .iface _ d => uptoBulk d + 1
  | .map entries => uptoBulkEntries entries + 1
  | .held _ => 1
def uptoBulkAll {H : Type} : List (DataW H) → Nat
  | [] => 0
  | d :: r => uptoBulk d + uptoBulkAll r
def uptoBulkEntries {H : Type} : List (Lit × DataW H) → Nat
  | [] => 0
  | x :: r => uptoBulkEntry x + uptoBulkEntries r
def uptoBulkEntry {H : Type} : Lit × DataW H → Nat
  | (.string bytes, d) => bytes.length + uptoBulk d + 1
  | (_, d) => uptoBulk d + 1
 end
def uptoSmall : (H : Type) → List (DataW H) → Bool := fun _ ds => decide (uptoBulkAll ds ≤ 1048576)
def OpenSpec.upto (s : _root_.Go.ChangeSpec) : _root_.Go.OpenSpec := { _root_.Go.OpenSpec.ofChange s with cond := some uptoSmall }

/-- 'laws.FnExactIsTalk', WHERE WHAT IT READS IS OF BULK AT MOST 1048576: true; the input reads as it did. -/
def fnExactIsTalkUptoRow : OpenClaim := { program := "ytlfbhpeehidjhaa", sum := "0b2bb407b9526ab5aa2f8dbb2e2fc193ebe2998f5281f8d9c678b93105626139", func := "loop.example/g01369/laws.FnExactIsTalk", spec := "fnExactIsTalk", inPlace := ["internal/bytealg.IndexByteString"], apart := false, narrowed := true }
def FnExactIsTalkUptoSaid : Prop := fnExactIsTalkUptoRow.holds Try.pinned (OpenSpec.upto fnExactIsTalkSpec)

/-- 'laws.FnExactPairsOfSum', WHERE WHAT IT READS IS OF BULK AT MOST 1048576: true; the input reads as it did. -/
def fnExactPairsOfSumUptoRow : OpenClaim := { program := "ytlfbhpeehidjhaa", sum := "0b2bb407b9526ab5aa2f8dbb2e2fc193ebe2998f5281f8d9c678b93105626139", func := "loop.example/g01369/laws.FnExactPairsOfSum", spec := "fnExactPairsOfSum", unfollowed := true, recurses := true, apart := false, narrowed := true }
def FnExactPairsOfSumUptoSaid : Prop := fnExactPairsOfSumUptoRow.holds Try.pinned (OpenSpec.upto fnExactPairsOfSumSpec)

/-- 'laws.FnExactPairsOfProduct', WHERE WHAT IT READS IS OF BULK AT MOST 1048576: true; the input reads as it did. -/
def fnExactPairsOfProductUptoRow : OpenClaim := { program := "ytlfbhpeehidjhaa", sum := "0b2bb407b9526ab5aa2f8dbb2e2fc193ebe2998f5281f8d9c678b93105626139", func := "loop.example/g01369/laws.FnExactPairsOfProduct", spec := "fnExactPairsOfProduct", unfollowed := true, recurses := true, apart := false, narrowed := true }
def FnExactPairsOfProductUptoSaid : Prop := fnExactPairsOfProductUptoRow.holds Try.pinned (OpenSpec.upto fnExactPairsOfProductSpec)

end Rows
end Go.Proofs.Ytlfbhpeehidjhaa
