/-
  No cell of these rows narrows 'for every input' (looked for: loops, veiled, ifaces, maps, wideKeys, modest, calm, conditions, laid).
  DERIVED. THE GIVEN ROWS OF THIS SEAT. 9 by the template 'for every input the law returns true; each argument reads behind the call as it read before'; 0 by the template 'total and deterministic' (their statements: YtbhceokapbnhhabTotals.lean).
  GIVEN WITH THE SEED: the statements are not yours to turn. If you find one false, say at which input.
  Laid BY PROGRAM, IN A SANDBOX (cutbox-rows.mjs): the forced cells as the released guide's own fill.sh prints them over the translation 4748fd1ea39d70c5… (all of the seat's roots in one cut). By AI agents, Wed Nov 11 2026. No macro, syntax, notation, axiom, sorry.
-/
import Derived.Test.YtbhceokapbnhhabChecked
import GoSem.Claim
import GoSem.ClaimJoined
import GoSem.ClaimMapViews
import Derived.JoinedTies
import Derived.KernelRfl
namespace Go.Proofs.Ytbhceokapbnhhab
/- THE CELL 'sum', in the pinned program and in every row, IS THE sha256 OF THE DUMP (.gsa) THAT YtbhceokapbnhhabProg.lean LOADS. Nothing in Lean hashes anything: it is a label: what it is worth is what the hold of that sum in a sandbox is worth. -/
noncomputable def Try.pinned : Pinned := { name := "ytbhceokapbnhhab", sum := "4748fd1ea39d70c5e97de41899a65288850f5d19fc1158a5f255c84d5b394cf7", checked := Try.checked }
namespace Rows
def none {H : Type} : Left H := { results := [], args := [] }

/-- 'laws.FnExactIsDate': WHATEVER THE INPUT: true; the input reads as it did. -/
def fnExactIsDateSpec : ChangeSpec := { name := "fnExactIsDate", fn := fun _ => fun
  | [d] => { results := [.lit (.bool true)], args := [d] }
  | _ => none }
def fnExactIsDateRow : OpenClaim := { program := "ytbhceokapbnhhab", sum := "4748fd1ea39d70c5e97de41899a65288850f5d19fc1158a5f255c84d5b394cf7", func := "loop.example/g01369/laws.FnExactIsDate", spec := "fnExactIsDate", apart := false }
def FnExactIsDateSaid : Prop := fnExactIsDateRow.holds Try.pinned (OpenSpec.ofChange fnExactIsDateSpec)

/-- ITS FALSE NEIGHBOUR: 'it returns false'. Refute it at one input. -/
def fnExactIsDateWrong : ChangeSpec := { name := "fnExactIsDate", fn := fun _ => fun
  | [d] => { results := [.lit (.bool false)], args := [d] }
  | _ => none }
def FnExactIsDateWrongFalsely : Prop := fnExactIsDateRow.holds Try.pinned (OpenSpec.ofChange fnExactIsDateWrong)

/-- 'laws.FnExactAgeOn': WHATEVER THE INPUT: true; the input reads as it did. -/
def fnExactAgeOnSpec : ChangeSpec := { name := "fnExactAgeOn", fn := fun _ => fun
  | [d1, d2] => { results := [.lit (.bool true)], args := [d1, d2] }
  | _ => none }
def fnExactAgeOnRow : OpenClaim := { program := "ytbhceokapbnhhab", sum := "4748fd1ea39d70c5e97de41899a65288850f5d19fc1158a5f255c84d5b394cf7", func := "loop.example/g01369/laws.FnExactAgeOn", spec := "fnExactAgeOn", apart := false }
def FnExactAgeOnSaid : Prop := fnExactAgeOnRow.holds Try.pinned (OpenSpec.ofChange fnExactAgeOnSpec)

/-- ITS FALSE NEIGHBOUR: 'it returns false'. Refute it at one input. -/
def fnExactAgeOnWrong : ChangeSpec := { name := "fnExactAgeOn", fn := fun _ => fun
  | [d1, d2] => { results := [.lit (.bool false)], args := [d1, d2] }
  | _ => none }
def FnExactAgeOnWrongFalsely : Prop := fnExactAgeOnRow.holds Try.pinned (OpenSpec.ofChange fnExactAgeOnWrong)

/-- 'laws.FnExactDaysOld': WHATEVER THE INPUT: true; the input reads as it did. -/
def fnExactDaysOldSpec : ChangeSpec := { name := "fnExactDaysOld", fn := fun _ => fun
  | [d1, d2] => { results := [.lit (.bool true)], args := [d1, d2] }
  | _ => none }
def fnExactDaysOldRow : OpenClaim := { program := "ytbhceokapbnhhab", sum := "4748fd1ea39d70c5e97de41899a65288850f5d19fc1158a5f255c84d5b394cf7", func := "loop.example/g01369/laws.FnExactDaysOld", spec := "fnExactDaysOld", apart := false }
def FnExactDaysOldSaid : Prop := fnExactDaysOldRow.holds Try.pinned (OpenSpec.ofChange fnExactDaysOldSpec)

/-- ITS FALSE NEIGHBOUR: 'it returns false'. Refute it at one input. -/
def fnExactDaysOldWrong : ChangeSpec := { name := "fnExactDaysOld", fn := fun _ => fun
  | [d1, d2] => { results := [.lit (.bool false)], args := [d1, d2] }
  | _ => none }
def FnExactDaysOldWrongFalsely : Prop := fnExactDaysOldRow.holds Try.pinned (OpenSpec.ofChange fnExactDaysOldWrong)

/-- 'laws.FnExactDaysApart': WHATEVER THE INPUT: true; the input reads as it did. -/
def fnExactDaysApartSpec : ChangeSpec := { name := "fnExactDaysApart", fn := fun _ => fun
  | [d1, d2] => { results := [.lit (.bool true)], args := [d1, d2] }
  | _ => none }
def fnExactDaysApartRow : OpenClaim := { program := "ytbhceokapbnhhab", sum := "4748fd1ea39d70c5e97de41899a65288850f5d19fc1158a5f255c84d5b394cf7", func := "loop.example/g01369/laws.FnExactDaysApart", spec := "fnExactDaysApart", apart := false }
def FnExactDaysApartSaid : Prop := fnExactDaysApartRow.holds Try.pinned (OpenSpec.ofChange fnExactDaysApartSpec)

/-- ITS FALSE NEIGHBOUR: 'it returns false'. Refute it at one input. -/
def fnExactDaysApartWrong : ChangeSpec := { name := "fnExactDaysApart", fn := fun _ => fun
  | [d1, d2] => { results := [.lit (.bool false)], args := [d1, d2] }
  | _ => none }
def FnExactDaysApartWrongFalsely : Prop := fnExactDaysApartRow.holds Try.pinned (OpenSpec.ofChange fnExactDaysApartWrong)

/-- 'laws.FnExactAddDays': WHATEVER THE INPUT: true; the input reads as it did. -/
def fnExactAddDaysSpec : ChangeSpec := { name := "fnExactAddDays", fn := fun _ => fun
  | [d1, d2] => { results := [.lit (.bool true)], args := [d1, d2] }
  | _ => none }
def fnExactAddDaysRow : OpenClaim := { program := "ytbhceokapbnhhab", sum := "4748fd1ea39d70c5e97de41899a65288850f5d19fc1158a5f255c84d5b394cf7", func := "loop.example/g01369/laws.FnExactAddDays", spec := "fnExactAddDays", apart := false }
def FnExactAddDaysSaid : Prop := fnExactAddDaysRow.holds Try.pinned (OpenSpec.ofChange fnExactAddDaysSpec)

/-- ITS FALSE NEIGHBOUR: 'it returns false'. Refute it at one input. -/
def fnExactAddDaysWrong : ChangeSpec := { name := "fnExactAddDays", fn := fun _ => fun
  | [d1, d2] => { results := [.lit (.bool false)], args := [d1, d2] }
  | _ => none }
def FnExactAddDaysWrongFalsely : Prop := fnExactAddDaysRow.holds Try.pinned (OpenSpec.ofChange fnExactAddDaysWrong)

/-- 'laws.FnExactGreatestGap': WHATEVER THE INPUT: true; the input reads as it did. -/
def fnExactGreatestGapSpec : ChangeSpec := { name := "fnExactGreatestGap", fn := fun _ => fun
  | [d1, d2] => { results := [.lit (.bool true)], args := [d1, d2] }
  | _ => none }
def fnExactGreatestGapRow : OpenClaim := { program := "ytbhceokapbnhhab", sum := "4748fd1ea39d70c5e97de41899a65288850f5d19fc1158a5f255c84d5b394cf7", func := "loop.example/g01369/laws.FnExactGreatestGap", spec := "fnExactGreatestGap", apart := false }
def FnExactGreatestGapSaid : Prop := fnExactGreatestGapRow.holds Try.pinned (OpenSpec.ofChange fnExactGreatestGapSpec)

/-- ITS FALSE NEIGHBOUR: 'it returns false'. Refute it at one input. -/
def fnExactGreatestGapWrong : ChangeSpec := { name := "fnExactGreatestGap", fn := fun _ => fun
  | [d1, d2] => { results := [.lit (.bool false)], args := [d1, d2] }
  | _ => none }
def FnExactGreatestGapWrongFalsely : Prop := fnExactGreatestGapRow.holds Try.pinned (OpenSpec.ofChange fnExactGreatestGapWrong)

/-- 'laws.FnExactHalfBirthday': WHATEVER THE INPUT: true; the input reads as it did. -/
def fnExactHalfBirthdaySpec : ChangeSpec := { name := "fnExactHalfBirthday", fn := fun _ => fun
  | [d1, d2] => { results := [.lit (.bool true)], args := [d1, d2] }
  | _ => none }
def fnExactHalfBirthdayRow : OpenClaim := { program := "ytbhceokapbnhhab", sum := "4748fd1ea39d70c5e97de41899a65288850f5d19fc1158a5f255c84d5b394cf7", func := "loop.example/g01369/laws.FnExactHalfBirthday", spec := "fnExactHalfBirthday", apart := false }
def FnExactHalfBirthdaySaid : Prop := fnExactHalfBirthdayRow.holds Try.pinned (OpenSpec.ofChange fnExactHalfBirthdaySpec)

/-- ITS FALSE NEIGHBOUR: 'it returns false'. Refute it at one input. -/
def fnExactHalfBirthdayWrong : ChangeSpec := { name := "fnExactHalfBirthday", fn := fun _ => fun
  | [d1, d2] => { results := [.lit (.bool false)], args := [d1, d2] }
  | _ => none }
def FnExactHalfBirthdayWrongFalsely : Prop := fnExactHalfBirthdayRow.holds Try.pinned (OpenSpec.ofChange fnExactHalfBirthdayWrong)

/-- 'laws.FnExactDayOfDaysOld': WHATEVER THE INPUT: true; the input reads as it did. -/
def fnExactDayOfDaysOldSpec : ChangeSpec := { name := "fnExactDayOfDaysOld", fn := fun _ => fun
  | [d1, d2] => { results := [.lit (.bool true)], args := [d1, d2] }
  | _ => none }
def fnExactDayOfDaysOldRow : OpenClaim := { program := "ytbhceokapbnhhab", sum := "4748fd1ea39d70c5e97de41899a65288850f5d19fc1158a5f255c84d5b394cf7", func := "loop.example/g01369/laws.FnExactDayOfDaysOld", spec := "fnExactDayOfDaysOld", apart := false }
def FnExactDayOfDaysOldSaid : Prop := fnExactDayOfDaysOldRow.holds Try.pinned (OpenSpec.ofChange fnExactDayOfDaysOldSpec)

/-- ITS FALSE NEIGHBOUR: 'it returns false'. Refute it at one input. -/
def fnExactDayOfDaysOldWrong : ChangeSpec := { name := "fnExactDayOfDaysOld", fn := fun _ => fun
  | [d1, d2] => { results := [.lit (.bool false)], args := [d1, d2] }
  | _ => none }
def FnExactDayOfDaysOldWrongFalsely : Prop := fnExactDayOfDaysOldRow.holds Try.pinned (OpenSpec.ofChange fnExactDayOfDaysOldWrong)

/-- 'laws.FnExactTwiceAsOld': WHATEVER THE INPUT: true; the input reads as it did. -/
def fnExactTwiceAsOldSpec : ChangeSpec := { name := "fnExactTwiceAsOld", fn := fun _ => fun
  | [d1, d2] => { results := [.lit (.bool true)], args := [d1, d2] }
  | _ => none }
def fnExactTwiceAsOldRow : OpenClaim := { program := "ytbhceokapbnhhab", sum := "4748fd1ea39d70c5e97de41899a65288850f5d19fc1158a5f255c84d5b394cf7", func := "loop.example/g01369/laws.FnExactTwiceAsOld", spec := "fnExactTwiceAsOld", apart := false }
def FnExactTwiceAsOldSaid : Prop := fnExactTwiceAsOldRow.holds Try.pinned (OpenSpec.ofChange fnExactTwiceAsOldSpec)

/-- ITS FALSE NEIGHBOUR: 'it returns false'. Refute it at one input. -/
def fnExactTwiceAsOldWrong : ChangeSpec := { name := "fnExactTwiceAsOld", fn := fun _ => fun
  | [d1, d2] => { results := [.lit (.bool false)], args := [d1, d2] }
  | _ => none }
def FnExactTwiceAsOldWrongFalsely : Prop := fnExactTwiceAsOldRow.holds Try.pinned (OpenSpec.ofChange fnExactTwiceAsOldWrong)

/- THE SECOND FORM. 'bulk': how many values and letters a reading holds, each counted each time it is reached (what is shared counts as often as it is met; a slice's spare places count too). A statement '..UptoSaid' is the law's where the arguments, and the package variables that the reading takes, are together of bulk at most 1048576: NARROWER than '..Said'. Prove '..Said' where nothing that the law and all that it calls make is longer than what came in: it says more and counts as full. Else prove '..UptoSaid'. A law counts once. -/
mutual
def uptoBulk {H : Type} : DataW H → Nat
  | .lit (.string bytes) => bytes.length + 1
  | .lit _ => 1
  | .nil => 1
  | .ptr d => uptoBulk d + 1
  | .slice elems spare => uptoBulkAll elems + uptoBulkAll spare + 1
  | .agg parts => uptoBulkAll parts + 1
  | .iface _ d => uptoBulk d + 1
  | .map entries => uptoBulkEntries entries + 1
  | .held _ => 1
def uptoBulkAll {H : Type} : List (DataW H) → Nat
  | [] => 0
  | d :: r => uptoBulk d + uptoBulkAll r
def uptoBulkEntries {H : Type} : List (Lit × DataW H) → Nat
  | [] => 0
  | x :: r => uptoBulkEntry x + uptoBulkEntries r
def uptoBulkEntry {H : Type} : Lit × DataW H → Nat
  | (.string bytes, d) => bytes.length + uptoBulk d + 1
  | (_, d) => uptoBulk d + 1
 end
def uptoSmall : (H : Type) → List (DataW H) → Bool := fun _ ds => decide (uptoBulkAll ds ≤ 1048576)
def OpenSpec.upto (s : _root_.Go.ChangeSpec) : _root_.Go.OpenSpec := { _root_.Go.OpenSpec.ofChange s with cond := some uptoSmall }

/-- 'laws.FnExactIsDate', WHERE WHAT IT READS IS OF BULK AT MOST 1048576: true; the input reads as it did. -/
def fnExactIsDateUptoRow : OpenClaim := { program := "ytbhceokapbnhhab", sum := "4748fd1ea39d70c5e97de41899a65288850f5d19fc1158a5f255c84d5b394cf7", func := "loop.example/g01369/laws.FnExactIsDate", spec := "fnExactIsDate", apart := false, narrowed := true }
def FnExactIsDateUptoSaid : Prop := fnExactIsDateUptoRow.holds Try.pinned (OpenSpec.upto fnExactIsDateSpec)

/-- 'laws.FnExactAgeOn', WHERE WHAT IT READS IS OF BULK AT MOST 1048576: true; the input reads as it did. -/
def fnExactAgeOnUptoRow : OpenClaim := { program := "ytbhceokapbnhhab", sum := "4748fd1ea39d70c5e97de41899a65288850f5d19fc1158a5f255c84d5b394cf7", func := "loop.example/g01369/laws.FnExactAgeOn", spec := "fnExactAgeOn", apart := false, narrowed := true }
def FnExactAgeOnUptoSaid : Prop := fnExactAgeOnUptoRow.holds Try.pinned (OpenSpec.upto fnExactAgeOnSpec)

/-- 'laws.FnExactDaysOld', WHERE WHAT IT READS IS OF BULK AT MOST 1048576: true; the input reads as it did. -/
def fnExactDaysOldUptoRow : OpenClaim := { program := "ytbhceokapbnhhab", sum := "4748fd1ea39d70c5e97de41899a65288850f5d19fc1158a5f255c84d5b394cf7", func := "loop.example/g01369/laws.FnExactDaysOld", spec := "fnExactDaysOld", apart := false, narrowed := true }
def FnExactDaysOldUptoSaid : Prop := fnExactDaysOldUptoRow.holds Try.pinned (OpenSpec.upto fnExactDaysOldSpec)

/-- 'laws.FnExactDaysApart', WHERE WHAT IT READS IS OF BULK AT MOST 1048576: true; the input reads as it did. -/
def fnExactDaysApartUptoRow : OpenClaim := { program := "ytbhceokapbnhhab", sum := "4748fd1ea39d70c5e97de41899a65288850f5d19fc1158a5f255c84d5b394cf7", func := "loop.example/g01369/laws.FnExactDaysApart", spec := "fnExactDaysApart", apart := false, narrowed := true }
def FnExactDaysApartUptoSaid : Prop := fnExactDaysApartUptoRow.holds Try.pinned (OpenSpec.upto fnExactDaysApartSpec)

/-- 'laws.FnExactAddDays', WHERE WHAT IT READS IS OF BULK AT MOST 1048576: true; the input reads as it did. -/
def fnExactAddDaysUptoRow : OpenClaim := { program := "ytbhceokapbnhhab", sum := "4748fd1ea39d70c5e97de41899a65288850f5d19fc1158a5f255c84d5b394cf7", func := "loop.example/g01369/laws.FnExactAddDays", spec := "fnExactAddDays", apart := false, narrowed := true }
def FnExactAddDaysUptoSaid : Prop := fnExactAddDaysUptoRow.holds Try.pinned (OpenSpec.upto fnExactAddDaysSpec)

/-- 'laws.FnExactGreatestGap', WHERE WHAT IT READS IS OF BULK AT MOST 1048576: true; the input reads as it did. -/
def fnExactGreatestGapUptoRow : OpenClaim := { program := "ytbhceokapbnhhab", sum := "4748fd1ea39d70c5e97de41899a65288850f5d19fc1158a5f255c84d5b394cf7", func := "loop.example/g01369/laws.FnExactGreatestGap", spec := "fnExactGreatestGap", apart := false, narrowed := true }
def FnExactGreatestGapUptoSaid : Prop := fnExactGreatestGapUptoRow.holds Try.pinned (OpenSpec.upto fnExactGreatestGapSpec)

/-- 'laws.FnExactHalfBirthday', WHERE WHAT IT READS IS OF BULK AT MOST 1048576: true; the input reads as it did. -/
def fnExactHalfBirthdayUptoRow : OpenClaim := { program := "ytbhceokapbnhhab", sum := "4748fd1ea39d70c5e97de41899a65288850f5d19fc1158a5f255c84d5b394cf7", func := "loop.example/g01369/laws.FnExactHalfBirthday", spec := "fnExactHalfBirthday", apart := false, narrowed := true }
def FnExactHalfBirthdayUptoSaid : Prop := fnExactHalfBirthdayUptoRow.holds Try.pinned (OpenSpec.upto fnExactHalfBirthdaySpec)

/-- 'laws.FnExactDayOfDaysOld', WHERE WHAT IT READS IS OF BULK AT MOST 1048576: true; the input reads as it did. -/
def fnExactDayOfDaysOldUptoRow : OpenClaim := { program := "ytbhceokapbnhhab", sum := "4748fd1ea39d70c5e97de41899a65288850f5d19fc1158a5f255c84d5b394cf7", func := "loop.example/g01369/laws.FnExactDayOfDaysOld", spec := "fnExactDayOfDaysOld", apart := false, narrowed := true }
def FnExactDayOfDaysOldUptoSaid : Prop := fnExactDayOfDaysOldUptoRow.holds Try.pinned (OpenSpec.upto fnExactDayOfDaysOldSpec)

/-- 'laws.FnExactTwiceAsOld', WHERE WHAT IT READS IS OF BULK AT MOST 1048576: true; the input reads as it did. -/
def fnExactTwiceAsOldUptoRow : OpenClaim := { program := "ytbhceokapbnhhab", sum := "4748fd1ea39d70c5e97de41899a65288850f5d19fc1158a5f255c84d5b394cf7", func := "loop.example/g01369/laws.FnExactTwiceAsOld", spec := "fnExactTwiceAsOld", apart := false, narrowed := true }
def FnExactTwiceAsOldUptoSaid : Prop := fnExactTwiceAsOldUptoRow.holds Try.pinned (OpenSpec.upto fnExactTwiceAsOldSpec)

end Rows
end Go.Proofs.Ytbhceokapbnhhab
