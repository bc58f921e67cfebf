/-
  No cell of these rows narrows 'for every input' (looked for: loops, veiled, ifaces, maps, wideKeys, modest, calm, conditions, laid).
  DERIVED. THE GIVEN ROWS OF THIS SEAT. 10 by the template 'for every input the law returns true; each argument reads behind the call as it read before'; 0 by the template 'total and deterministic' (their statements: YtbhceokapbnhhaaTotals.lean).
  GIVEN WITH THE SEED: the statements are not yours to turn. If you find one false, say at which input.
  Laid BY PROGRAM, IN A SANDBOX (cutbox-rows.mjs): the forced cells as the released guide's own fill.sh prints them over the translation 4b19055492de17b3… (all of the seat's roots in one cut). By AI agents, Wed Nov 11 2026. No macro, syntax, notation, axiom, sorry.
-/
import Derived.Test.YtbhceokapbnhhaaChecked
import GoSem.Claim
import GoSem.ClaimJoined
import GoSem.ClaimMapViews
import Derived.JoinedTies
import Derived.KernelRfl
namespace Go.Proofs.Ytbhceokapbnhhaa
/- THE CELL 'sum', in the pinned program and in every row, IS THE sha256 OF THE DUMP (.gsa) THAT YtbhceokapbnhhaaProg.lean LOADS. Nothing in Lean hashes anything: it is a label: what it is worth is what the hold of that sum in a sandbox is worth. -/
noncomputable def Try.pinned : Pinned := { name := "ytbhceokapbnhhaa", sum := "4b19055492de17b384e6397a1e5f83e78208fe96deb9fd5042d3a27d5352899a", checked := Try.checked }
namespace Rows
def none {H : Type} : Left H := { results := [], args := [] }

/-- 'laws.FnExactAreBirthDates': WHATEVER THE INPUT: true; the input reads as it did. -/
def fnExactAreBirthDatesSpec : ChangeSpec := { name := "fnExactAreBirthDates", fn := fun _ => fun
  | [d] => { results := [.lit (.bool true)], args := [d] }
  | _ => none }
def fnExactAreBirthDatesRow : OpenClaim := { program := "ytbhceokapbnhhaa", sum := "4b19055492de17b384e6397a1e5f83e78208fe96deb9fd5042d3a27d5352899a", func := "loop.example/g01369/laws.FnExactAreBirthDates", spec := "fnExactAreBirthDates", apart := false }
def FnExactAreBirthDatesSaid : Prop := fnExactAreBirthDatesRow.holds Try.pinned (OpenSpec.ofChange fnExactAreBirthDatesSpec)

/-- ITS FALSE NEIGHBOUR: 'it returns false'. Refute it at one input. -/
def fnExactAreBirthDatesWrong : ChangeSpec := { name := "fnExactAreBirthDates", fn := fun _ => fun
  | [d] => { results := [.lit (.bool false)], args := [d] }
  | _ => none }
def FnExactAreBirthDatesWrongFalsely : Prop := fnExactAreBirthDatesRow.holds Try.pinned (OpenSpec.ofChange fnExactAreBirthDatesWrong)

/-- 'laws.FnExactAgesOn': WHATEVER THE INPUT: true; the input reads as it did. -/
def fnExactAgesOnSpec : ChangeSpec := { name := "fnExactAgesOn", fn := fun _ => fun
  | [d1, d2] => { results := [.lit (.bool true)], args := [d1, d2] }
  | _ => none }
def fnExactAgesOnRow : OpenClaim := { program := "ytbhceokapbnhhaa", sum := "4b19055492de17b384e6397a1e5f83e78208fe96deb9fd5042d3a27d5352899a", func := "loop.example/g01369/laws.FnExactAgesOn", spec := "fnExactAgesOn", apart := false }
def FnExactAgesOnSaid : Prop := fnExactAgesOnRow.holds Try.pinned (OpenSpec.ofChange fnExactAgesOnSpec)

/-- ITS FALSE NEIGHBOUR: 'it returns false'. Refute it at one input. -/
def fnExactAgesOnWrong : ChangeSpec := { name := "fnExactAgesOn", fn := fun _ => fun
  | [d1, d2] => { results := [.lit (.bool false)], args := [d1, d2] }
  | _ => none }
def FnExactAgesOnWrongFalsely : Prop := fnExactAgesOnRow.holds Try.pinned (OpenSpec.ofChange fnExactAgesOnWrong)

/-- 'laws.FnExactSumOfAgesOn': WHATEVER THE INPUT: true; the input reads as it did. -/
def fnExactSumOfAgesOnSpec : ChangeSpec := { name := "fnExactSumOfAgesOn", fn := fun _ => fun
  | [d1, d2] => { results := [.lit (.bool true)], args := [d1, d2] }
  | _ => none }
def fnExactSumOfAgesOnRow : OpenClaim := { program := "ytbhceokapbnhhaa", sum := "4b19055492de17b384e6397a1e5f83e78208fe96deb9fd5042d3a27d5352899a", func := "loop.example/g01369/laws.FnExactSumOfAgesOn", spec := "fnExactSumOfAgesOn", apart := false }
def FnExactSumOfAgesOnSaid : Prop := fnExactSumOfAgesOnRow.holds Try.pinned (OpenSpec.ofChange fnExactSumOfAgesOnSpec)

/-- ITS FALSE NEIGHBOUR: 'it returns false'. Refute it at one input. -/
def fnExactSumOfAgesOnWrong : ChangeSpec := { name := "fnExactSumOfAgesOn", fn := fun _ => fun
  | [d1, d2] => { results := [.lit (.bool false)], args := [d1, d2] }
  | _ => none }
def FnExactSumOfAgesOnWrongFalsely : Prop := fnExactSumOfAgesOnRow.holds Try.pinned (OpenSpec.ofChange fnExactSumOfAgesOnWrong)

/-- 'laws.FnExactBirthdaysBetween': WHATEVER THE INPUT: true; the input reads as it did. -/
def fnExactBirthdaysBetweenSpec : ChangeSpec := { name := "fnExactBirthdaysBetween", fn := fun _ => fun
  | [d1, d2, d3] => { results := [.lit (.bool true)], args := [d1, d2, d3] }
  | _ => none }
def fnExactBirthdaysBetweenRow : OpenClaim := { program := "ytbhceokapbnhhaa", sum := "4b19055492de17b384e6397a1e5f83e78208fe96deb9fd5042d3a27d5352899a", func := "loop.example/g01369/laws.FnExactBirthdaysBetween", spec := "fnExactBirthdaysBetween", apart := false }
def FnExactBirthdaysBetweenSaid : Prop := fnExactBirthdaysBetweenRow.holds Try.pinned (OpenSpec.ofChange fnExactBirthdaysBetweenSpec)

/-- ITS FALSE NEIGHBOUR: 'it returns false'. Refute it at one input. -/
def fnExactBirthdaysBetweenWrong : ChangeSpec := { name := "fnExactBirthdaysBetween", fn := fun _ => fun
  | [d1, d2, d3] => { results := [.lit (.bool false)], args := [d1, d2, d3] }
  | _ => none }
def FnExactBirthdaysBetweenWrongFalsely : Prop := fnExactBirthdaysBetweenRow.holds Try.pinned (OpenSpec.ofChange fnExactBirthdaysBetweenWrong)

/-- 'laws.FnExactNextBirthday': WHATEVER THE INPUT: true; the input reads as it did. -/
def fnExactNextBirthdaySpec : ChangeSpec := { name := "fnExactNextBirthday", fn := fun _ => fun
  | [d1, d2] => { results := [.lit (.bool true)], args := [d1, d2] }
  | _ => none }
def fnExactNextBirthdayRow : OpenClaim := { program := "ytbhceokapbnhhaa", sum := "4b19055492de17b384e6397a1e5f83e78208fe96deb9fd5042d3a27d5352899a", func := "loop.example/g01369/laws.FnExactNextBirthday", spec := "fnExactNextBirthday", unfollowed := true, recurses := true, apart := false }
def FnExactNextBirthdaySaid : Prop := fnExactNextBirthdayRow.holds Try.pinned (OpenSpec.ofChange fnExactNextBirthdaySpec)

/-- ITS FALSE NEIGHBOUR: 'it returns false'. Refute it at one input. -/
def fnExactNextBirthdayWrong : ChangeSpec := { name := "fnExactNextBirthday", fn := fun _ => fun
  | [d1, d2] => { results := [.lit (.bool false)], args := [d1, d2] }
  | _ => none }
def FnExactNextBirthdayWrongFalsely : Prop := fnExactNextBirthdayRow.holds Try.pinned (OpenSpec.ofChange fnExactNextBirthdayWrong)

/-- 'laws.FnExactLastBirthday': WHATEVER THE INPUT: true; the input reads as it did. -/
def fnExactLastBirthdaySpec : ChangeSpec := { name := "fnExactLastBirthday", fn := fun _ => fun
  | [d1, d2] => { results := [.lit (.bool true)], args := [d1, d2] }
  | _ => none }
def fnExactLastBirthdayRow : OpenClaim := { program := "ytbhceokapbnhhaa", sum := "4b19055492de17b384e6397a1e5f83e78208fe96deb9fd5042d3a27d5352899a", func := "loop.example/g01369/laws.FnExactLastBirthday", spec := "fnExactLastBirthday", unfollowed := true, recurses := true, apart := false }
def FnExactLastBirthdaySaid : Prop := fnExactLastBirthdayRow.holds Try.pinned (OpenSpec.ofChange fnExactLastBirthdaySpec)

/-- ITS FALSE NEIGHBOUR: 'it returns false'. Refute it at one input. -/
def fnExactLastBirthdayWrong : ChangeSpec := { name := "fnExactLastBirthday", fn := fun _ => fun
  | [d1, d2] => { results := [.lit (.bool false)], args := [d1, d2] }
  | _ => none }
def FnExactLastBirthdayWrongFalsely : Prop := fnExactLastBirthdayRow.holds Try.pinned (OpenSpec.ofChange fnExactLastBirthdayWrong)

/-- 'laws.FnExactOlderOf': WHATEVER THE INPUT: true; the input reads as it did. -/
def fnExactOlderOfSpec : ChangeSpec := { name := "fnExactOlderOf", fn := fun _ => fun
  | [d] => { results := [.lit (.bool true)], args := [d] }
  | _ => none }
def fnExactOlderOfRow : OpenClaim := { program := "ytbhceokapbnhhaa", sum := "4b19055492de17b384e6397a1e5f83e78208fe96deb9fd5042d3a27d5352899a", func := "loop.example/g01369/laws.FnExactOlderOf", spec := "fnExactOlderOf", unfollowed := true, recurses := true, apart := false }
def FnExactOlderOfSaid : Prop := fnExactOlderOfRow.holds Try.pinned (OpenSpec.ofChange fnExactOlderOfSpec)

/-- ITS FALSE NEIGHBOUR: 'it returns false'. Refute it at one input. -/
def fnExactOlderOfWrong : ChangeSpec := { name := "fnExactOlderOf", fn := fun _ => fun
  | [d] => { results := [.lit (.bool false)], args := [d] }
  | _ => none }
def FnExactOlderOfWrongFalsely : Prop := fnExactOlderOfRow.holds Try.pinned (OpenSpec.ofChange fnExactOlderOfWrong)

/-- 'laws.FnExactFirstSumOn': WHATEVER THE INPUT: true; the input reads as it did. -/
def fnExactFirstSumOnSpec : ChangeSpec := { name := "fnExactFirstSumOn", fn := fun _ => fun
  | [d1, d2] => { results := [.lit (.bool true)], args := [d1, d2] }
  | _ => none }
def fnExactFirstSumOnRow : OpenClaim := { program := "ytbhceokapbnhhaa", sum := "4b19055492de17b384e6397a1e5f83e78208fe96deb9fd5042d3a27d5352899a", func := "loop.example/g01369/laws.FnExactFirstSumOn", spec := "fnExactFirstSumOn", unfollowed := true, recurses := true, apart := false }
def FnExactFirstSumOnSaid : Prop := fnExactFirstSumOnRow.holds Try.pinned (OpenSpec.ofChange fnExactFirstSumOnSpec)

/-- ITS FALSE NEIGHBOUR: 'it returns false'. Refute it at one input. -/
def fnExactFirstSumOnWrong : ChangeSpec := { name := "fnExactFirstSumOn", fn := fun _ => fun
  | [d1, d2] => { results := [.lit (.bool false)], args := [d1, d2] }
  | _ => none }
def FnExactFirstSumOnWrongFalsely : Prop := fnExactFirstSumOnRow.holds Try.pinned (OpenSpec.ofChange fnExactFirstSumOnWrong)

/-- 'laws.FnExactBirthdaysOf': WHATEVER THE INPUT: true; the input reads as it did. -/
def fnExactBirthdaysOfSpec : ChangeSpec := { name := "fnExactBirthdaysOf", fn := fun _ => fun
  | [d] => { results := [.lit (.bool true)], args := [d] }
  | _ => none }
def fnExactBirthdaysOfRow : OpenClaim := { program := "ytbhceokapbnhhaa", sum := "4b19055492de17b384e6397a1e5f83e78208fe96deb9fd5042d3a27d5352899a", func := "loop.example/g01369/laws.FnExactBirthdaysOf", spec := "fnExactBirthdaysOf", apart := false }
def FnExactBirthdaysOfSaid : Prop := fnExactBirthdaysOfRow.holds Try.pinned (OpenSpec.ofChange fnExactBirthdaysOfSpec)

/-- ITS FALSE NEIGHBOUR: 'it returns false'. Refute it at one input. -/
def fnExactBirthdaysOfWrong : ChangeSpec := { name := "fnExactBirthdaysOf", fn := fun _ => fun
  | [d] => { results := [.lit (.bool false)], args := [d] }
  | _ => none }
def FnExactBirthdaysOfWrongFalsely : Prop := fnExactBirthdaysOfRow.holds Try.pinned (OpenSpec.ofChange fnExactBirthdaysOfWrong)

/-- 'laws.FnExactDaysAlike': WHATEVER THE INPUT: true; the input reads as it did. -/
def fnExactDaysAlikeSpec : ChangeSpec := { name := "fnExactDaysAlike", fn := fun _ => fun
  | [d1, d2, d3] => { results := [.lit (.bool true)], args := [d1, d2, d3] }
  | _ => none }
def fnExactDaysAlikeRow : OpenClaim := { program := "ytbhceokapbnhhaa", sum := "4b19055492de17b384e6397a1e5f83e78208fe96deb9fd5042d3a27d5352899a", func := "loop.example/g01369/laws.FnExactDaysAlike", spec := "fnExactDaysAlike", unfollowed := true, recurses := true, apart := false }
def FnExactDaysAlikeSaid : Prop := fnExactDaysAlikeRow.holds Try.pinned (OpenSpec.ofChange fnExactDaysAlikeSpec)

/-- ITS FALSE NEIGHBOUR: 'it returns false'. Refute it at one input. -/
def fnExactDaysAlikeWrong : ChangeSpec := { name := "fnExactDaysAlike", fn := fun _ => fun
  | [d1, d2, d3] => { results := [.lit (.bool false)], args := [d1, d2, d3] }
  | _ => none }
def FnExactDaysAlikeWrongFalsely : Prop := fnExactDaysAlikeRow.holds Try.pinned (OpenSpec.ofChange fnExactDaysAlikeWrong)

/- THE SECOND FORM. 'bulk': how many values and letters a reading holds, each counted each time it is reached (what is shared counts as often as it is met; a slice's spare places count too). A statement '..UptoSaid' is the law's where the arguments, and the package variables that the reading takes, are together of bulk at most 1048576: NARROWER than '..Said'. Prove '..Said' where nothing that the law and all that it calls make is longer than what came in: it says more and counts as full. Else prove '..UptoSaid'. A law counts once. -/
mutual
def uptoBulk {H : Type} : DataW H → Nat
  | .lit (.string bytes) => bytes.length + 1
  | .lit _ => 1
  | .nil => 1
  | .ptr d => uptoBulk d + 1
  | .slice elems spare => uptoBulkAll elems + uptoBulkAll spare + 1
  | .agg parts => uptoBulkAll parts + 1
  | .iface _ d => uptoBulk d + 1
  | .map entries => uptoBulkEntries entries + 1
  | .held _ => 1
def uptoBulkAll {H : Type} : List (DataW H) → Nat
  | [] => 0
  | d :: r => uptoBulk d + uptoBulkAll r
def uptoBulkEntries {H : Type} : List (Lit × DataW H) → Nat
  | [] => 0
  | x :: r => uptoBulkEntry x + uptoBulkEntries r
def uptoBulkEntry {H : Type} : Lit × DataW H → Nat
  | (.string bytes, d) => bytes.length + uptoBulk d + 1
  | (_, d) => uptoBulk d + 1
 end
def uptoSmall : (H : Type) → List (DataW H) → Bool := fun _ ds => decide (uptoBulkAll ds ≤ 1048576)
def OpenSpec.upto (s : _root_.Go.ChangeSpec) : _root_.Go.OpenSpec := { _root_.Go.OpenSpec.ofChange s with cond := some uptoSmall }

/-- 'laws.FnExactAreBirthDates', WHERE WHAT IT READS IS OF BULK AT MOST 1048576: true; the input reads as it did. -/
def fnExactAreBirthDatesUptoRow : OpenClaim := { program := "ytbhceokapbnhhaa", sum := "4b19055492de17b384e6397a1e5f83e78208fe96deb9fd5042d3a27d5352899a", func := "loop.example/g01369/laws.FnExactAreBirthDates", spec := "fnExactAreBirthDates", apart := false, narrowed := true }
def FnExactAreBirthDatesUptoSaid : Prop := fnExactAreBirthDatesUptoRow.holds Try.pinned (OpenSpec.upto fnExactAreBirthDatesSpec)

/-- 'laws.FnExactAgesOn', WHERE WHAT IT READS IS OF BULK AT MOST 1048576: true; the input reads as it did. -/
def fnExactAgesOnUptoRow : OpenClaim := { program := "ytbhceokapbnhhaa", sum := "4b19055492de17b384e6397a1e5f83e78208fe96deb9fd5042d3a27d5352899a", func := "loop.example/g01369/laws.FnExactAgesOn", spec := "fnExactAgesOn", apart := false, narrowed := true }
def FnExactAgesOnUptoSaid : Prop := fnExactAgesOnUptoRow.holds Try.pinned (OpenSpec.upto fnExactAgesOnSpec)

/-- 'laws.FnExactSumOfAgesOn', WHERE WHAT IT READS IS OF BULK AT MOST 1048576: true; the input reads as it did. -/
def fnExactSumOfAgesOnUptoRow : OpenClaim := { program := "ytbhceokapbnhhaa", sum := "4b19055492de17b384e6397a1e5f83e78208fe96deb9fd5042d3a27d5352899a", func := "loop.example/g01369/laws.FnExactSumOfAgesOn", spec := "fnExactSumOfAgesOn", apart := false, narrowed := true }
def FnExactSumOfAgesOnUptoSaid : Prop := fnExactSumOfAgesOnUptoRow.holds Try.pinned (OpenSpec.upto fnExactSumOfAgesOnSpec)

/-- 'laws.FnExactBirthdaysBetween', WHERE WHAT IT READS IS OF BULK AT MOST 1048576: true; the input reads as it did. -/
def fnExactBirthdaysBetweenUptoRow : OpenClaim := { program := "ytbhceokapbnhhaa", sum := "4b19055492de17b384e6397a1e5f83e78208fe96deb9fd5042d3a27d5352899a", func := "loop.example/g01369/laws.FnExactBirthdaysBetween", spec := "fnExactBirthdaysBetween", apart := false, narrowed := true }
def FnExactBirthdaysBetweenUptoSaid : Prop := fnExactBirthdaysBetweenUptoRow.holds Try.pinned (OpenSpec.upto fnExactBirthdaysBetweenSpec)

/-- 'laws.FnExactNextBirthday', WHERE WHAT IT READS IS OF BULK AT MOST 1048576: true; the input reads as it did. -/
def fnExactNextBirthdayUptoRow : OpenClaim := { program := "ytbhceokapbnhhaa", sum := "4b19055492de17b384e6397a1e5f83e78208fe96deb9fd5042d3a27d5352899a", func := "loop.example/g01369/laws.FnExactNextBirthday", spec := "fnExactNextBirthday", unfollowed := true, recurses := true, apart := false, narrowed := true }
def FnExactNextBirthdayUptoSaid : Prop := fnExactNextBirthdayUptoRow.holds Try.pinned (OpenSpec.upto fnExactNextBirthdaySpec)

/-- 'laws.FnExactLastBirthday', WHERE WHAT IT READS IS OF BULK AT MOST 1048576: true; the input reads as it did. -/
def fnExactLastBirthdayUptoRow : OpenClaim := { program := "ytbhceokapbnhhaa", sum := "4b19055492de17b384e6397a1e5f83e78208fe96deb9fd5042d3a27d5352899a", func := "loop.example/g01369/laws.FnExactLastBirthday", spec := "fnExactLastBirthday", unfollowed := true, recurses := true, apart := false, narrowed := true }
def FnExactLastBirthdayUptoSaid : Prop := fnExactLastBirthdayUptoRow.holds Try.pinned (OpenSpec.upto fnExactLastBirthdaySpec)

/-- 'laws.FnExactOlderOf', WHERE WHAT IT READS IS OF BULK AT MOST 1048576: true; the input reads as it did. -/
def fnExactOlderOfUptoRow : OpenClaim := { program := "ytbhceokapbnhhaa", sum := "4b19055492de17b384e6397a1e5f83e78208fe96deb9fd5042d3a27d5352899a", func := "loop.example/g01369/laws.FnExactOlderOf", spec := "fnExactOlderOf", unfollowed := true, recurses := true, apart := false, narrowed := true }
def FnExactOlderOfUptoSaid : Prop := fnExactOlderOfUptoRow.holds Try.pinned (OpenSpec.upto fnExactOlderOfSpec)

/-- 'laws.FnExactFirstSumOn', WHERE WHAT IT READS IS OF BULK AT MOST 1048576: true; the input reads as it did. -/
def fnExactFirstSumOnUptoRow : OpenClaim := { program := "ytbhceokapbnhhaa", sum := "4b19055492de17b384e6397a1e5f83e78208fe96deb9fd5042d3a27d5352899a", func := "loop.example/g01369/laws.FnExactFirstSumOn", spec := "fnExactFirstSumOn", unfollowed := true, recurses := true, apart := false, narrowed := true }
def FnExactFirstSumOnUptoSaid : Prop := fnExactFirstSumOnUptoRow.holds Try.pinned (OpenSpec.upto fnExactFirstSumOnSpec)

/-- 'laws.FnExactBirthdaysOf', WHERE WHAT IT READS IS OF BULK AT MOST 1048576: true; the input reads as it did. -/
def fnExactBirthdaysOfUptoRow : OpenClaim := { program := "ytbhceokapbnhhaa", sum := "4b19055492de17b384e6397a1e5f83e78208fe96deb9fd5042d3a27d5352899a", func := "loop.example/g01369/laws.FnExactBirthdaysOf", spec := "fnExactBirthdaysOf", apart := false, narrowed := true }
def FnExactBirthdaysOfUptoSaid : Prop := fnExactBirthdaysOfUptoRow.holds Try.pinned (OpenSpec.upto fnExactBirthdaysOfSpec)

/-- 'laws.FnExactDaysAlike', WHERE WHAT IT READS IS OF BULK AT MOST 1048576: true; the input reads as it did. -/
def fnExactDaysAlikeUptoRow : OpenClaim := { program := "ytbhceokapbnhhaa", sum := "4b19055492de17b384e6397a1e5f83e78208fe96deb9fd5042d3a27d5352899a", func := "loop.example/g01369/laws.FnExactDaysAlike", spec := "fnExactDaysAlike", unfollowed := true, recurses := true, apart := false, narrowed := true }
def FnExactDaysAlikeUptoSaid : Prop := fnExactDaysAlikeUptoRow.holds Try.pinned (OpenSpec.upto fnExactDaysAlikeSpec)

end Rows
end Go.Proofs.Ytbhceokapbnhhaa
