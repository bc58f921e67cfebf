/- reachedFrom, at one kind of steps. -/
import Derived.Test.YtmlcelleohhmcaaLfDn
import Derived.Test.YtmlcelleohhmcaaRc0
set_option linter.unusedVariables false
set_option linter.unusedSimpArgs false
namespace Go.Proofs.Ytmlcelleohhmcaa
open Go.RowKit

set_option maxHeartbeats 2000000 in
theorem reachedDn_any (st : Nat → Nat → Bool) (fs : List Kn) (g cc a : Nat) (w : World) (hK : Kdr fs w g cc) (ha : a < fs.length)
    (hF : Hid (∀ (s t : Nat) (w : World), Calls Try.prog 47 #[.agg #[.int .i64 (at3 fs s).1, .int .i64 (at3 fs s).2.1, .int .i64 (at3 fs s).2.2, .int .i64 s], .agg #[.int .i64 (at3 fs t).1, .int .i64 (at3 fs t).2.1, .int .i64 (at3 fs t).2.2, .int .i64 t]] w (Ret (.bool (st s t)) w))) :
    Calls Try.prog 54 #[.slice (some ⟨g, 0, none⟩) fs.length cc, .agg #[.int .i64 (at3 fs a).1, .int .i64 (at3 fs a).2.1, .int .i64 (at3 fs a).2.2, .int .i64 a], .func (.func 47) #[] #[]] w (RetR fs (rchN st fs a) w) := by
  have HB := Lib.hid ((Below.refl w.heap.size w).alloc (Nat.le_refl _) (.cells #[.int .i64 (at3 fs a).1, .int .i64 (at3 fs a).2.1, .int .i64 (at3 fs a).2.2, .int .i64 a] 70))
  have HL := Lib.hid (linesDn_any st fs g cc a (w.alloc (.cells #[.int .i64 (at3 fs a).1, .int .i64 (at3 fs a).2.1, .int .i64 (at3 fs a).2.2, .int .i64 a] 70)) (hK.above _) ha hF)
  have hrel := relAt_new fs w a _ rfl
  obtain ⟨c0, c1, c2, c3⟩ := hrel
  have HW := Lib.hid (fun (w1 : World) (M : Nat) (l : List (Nat × Value)) (h : LnAt fs st a w w1 M l) => whenLn_any st fs g cc a w w1 M l hK h)
  have HS := Lib.hid (fun (e : Ending) (w1 : World) (h : RetLn fs st a (w.alloc (.cells #[.int .i64 (at3 fs a).1, .int .i64 (at3 fs a).2.1, .int .i64 (at3 fs a).2.2, .int .i64 a] 70)) e w1) => lnAt_of (w := w) h)
  clear hK hF
  go_enter Try.func54, Try.ntmps54
  go_wp2_with (first | (go_at_call 72; refine HL.out.mono ?_; intro e w1 h1; obtain ⟨M, l, rfl, hln⟩ := HS.out e w1 h1; clear h1) | (go_at_call 58; refine (HW.out _ M l hln).mono ?_; rintro e w2 ⟨v2, rfl, ho2, hb2⟩))
  go_ret
  have hbw := hln.below.alloc hln.below.size (.cells #[.map (some M)] 80)
  exact ⟨_, rfl, ho2.mono hbw.size, hbw.trans (hb2.mono hbw.size)⟩
end Go.Proofs.Ytmlcelleohhmcaa
