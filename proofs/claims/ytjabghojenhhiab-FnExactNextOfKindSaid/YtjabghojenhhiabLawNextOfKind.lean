/- The statement on NextOfKind, walked over the contracts of what it calls. -/
import Derived.Test.YtjabghojenhhiabNext
set_option linter.unusedVariables false
set_option linter.unusedSimpArgs false
namespace Go.Proofs.Ytjabghojenhhiab
open Go.RowKit

set_option maxHeartbeats 1000000 in
theorem law_NextOfKind_of (x1 : Int) (x2 : ByteArray) (r : Int) (ok : Bool) (hx2 : x2.size ≤ 1048576) (w : World)
    (hs : ∀ w, Calls Try.prog 22 #[.int .i64 x1, .string x2] w (RetIB r ok w))
    (hi : ∀ w, Calls Try.prog 23 #[.int .i64 x1, .string x2] w (RetIB r ok w)) :
    Calls Try.prog 5 #[.int .i64 x1, .string x2] w (Ret (.bool true) w) := by
  have HS := Lib.hid hs
  have HI := Lib.hid hi
  clear hs hi
  have hy2 : ¬ (1048576 : Int) < (x2.size : Int) := by omega
  go_enter Try.func5, Try.ntmps5
  go_wp2_with fail
  refine (HS.out _).mono ?_
  rintro e w2 ⟨rfl, hb2⟩
  go_wp2_with fail
  refine (HI.out _).mono ?_
  rintro e w4 ⟨rfl, hb4⟩
  have hb4' := hb2.trans (hb4.mono hb2.size)
  go_wp2_with fail
  go_ret
  exact ⟨rfl, hb4'⟩

theorem law_NextOfKind (x1 : Int) (x2 : ByteArray) (w : World) (_w1 : (Lit.int .i64 x1).wf = true) (_w2 : x2.size ≤ maxLen) :
    Calls Try.prog 5 #[.int .i64 x1, .string x2] w (Ret (.bool true) w) := by
  by_cases hx2 : 1048576 < x2.size
  · have hy2 : (1048576 : Int) < (x2.size : Int) := by omega
    go_enter Try.func5, Try.ntmps5
    go_wp2
    go_ret
    exact ⟨rfl, Below.refl _ _⟩
  replace hx2 : x2.size ≤ 1048576 := by omega
  obtain ⟨r, ok, hs, hi⟩ := nextOfKind_both x1 x2 hx2
  exact law_NextOfKind_of x1 x2 r ok hx2 w hs hi
end Go.Proofs.Ytjabghojenhhiab
