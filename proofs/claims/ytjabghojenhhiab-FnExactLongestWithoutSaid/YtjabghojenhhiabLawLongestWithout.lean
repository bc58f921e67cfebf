/- The statement on LongestWithout, walked over the contracts of what it calls. -/
import Derived.Test.YtjabghojenhhiabLong
set_option linter.unusedVariables false
set_option linter.unusedSimpArgs false
namespace Go.Proofs.Ytjabghojenhhiab
open Go.RowKit

set_option maxHeartbeats 1000000 in
theorem law_LongestWithout_of (x1 : ByteArray) (r1 r2 : Int) (ok : Bool) (hx1 : x1.size ≤ 1048576) (w : World)
    (hs : ∀ w, Calls Try.prog 24 #[.string x1] w (RetIIB r1 r2 ok w))
    (hi : ∀ w, Calls Try.prog 25 #[.string x1] w (RetIIB r1 r2 ok w)) :
    Calls Try.prog 6 #[.string x1] w (Ret (.bool true) w) := by
  have HS := Lib.hid hs
  have HI := Lib.hid hi
  clear hs hi
  have hy1 : ¬ (1048576 : Int) < (x1.size : Int) := by omega
  go_enter Try.func6, Try.ntmps6
  go_wp2_with fail
  refine (HS.out _).mono ?_
  rintro e w2 ⟨rfl, hb2⟩
  go_wp2_with fail
  refine (HI.out _).mono ?_
  rintro e w4 ⟨rfl, hb4⟩
  have hb4' := hb2.trans (hb4.mono hb2.size)
  go_wp2_with fail
  go_ret
  exact ⟨rfl, hb4'⟩

theorem law_LongestWithout (x1 : ByteArray) (w : World) (_w1 : x1.size ≤ maxLen) :
    Calls Try.prog 6 #[.string x1] w (Ret (.bool true) w) := by
  by_cases hx1 : 1048576 < x1.size
  · have hy1 : (1048576 : Int) < (x1.size : Int) := by omega
    go_enter Try.func6, Try.ntmps6
    go_wp2
    go_ret
    exact ⟨rfl, Below.refl _ _⟩
  replace hx1 : x1.size ≤ 1048576 := by omega
  obtain ⟨r1, r2, ok, hs, hi⟩ := longest_both x1 hx1
  exact law_LongestWithout_of x1 r1 r2 ok hx1 w hs hi
end Go.Proofs.Ytjabghojenhhiab
