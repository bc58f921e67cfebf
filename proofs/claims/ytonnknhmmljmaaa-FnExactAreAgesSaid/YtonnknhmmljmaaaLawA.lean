/- The statement on AreAges, walked over the contracts of what it calls. -/
import Derived.Test.YtonnknhmmljmaaaGood
set_option linter.unusedVariables false
set_option linter.unusedSimpArgs false
namespace Go.Proofs.Ytonnknhmmljmaaa
open Go.RowKit

set_option maxHeartbeats 400000 in
theorem law_AreAges (a : Option Addr) (n c : Nat) (zs : List Int) (w : World) (h : Arg w a n zs) :
    Calls Try.prog 3 #[.slice a n c] w (Ret (.bool true) w) := by
  obtain ⟨hl, h2⟩ := h
  subst hl
  have h : Arg w a zs.length zs := ⟨rfl, h2⟩
  clear h2
  by_cases hn : 1048576 < zs.length
  · go_enter Try.func3, Try.ntmps3
    go_wp2
    go_ret
    exact ⟨rfl, Below.refl _ _⟩
  have hn' : zs.length ≤ 1048576 := by omega
  go_enter Try.func3, Try.ntmps3
  go_wp2_with fail
  refine (toIntS_any _ _ _ zs _ h hn').mono ?_
  rintro e w1 ⟨g1, hg1, rfl, ho1, hb1⟩
  go_wp2_with fail
  refine (specAreAges_any _ _ _ _ zs _ rfl hn' ho1.some.2.2.2.2.1).mono ?_
  rintro e w' ⟨rfl, rfl⟩
  go_wp2_with fail
  refine (toIntS_any _ _ _ zs _ (h.kept hb1) hn').mono ?_
  rintro e w2 ⟨g2, hg2, rfl, ho2, hb2⟩
  have hb2' := hb1.trans (hb2.mono hb1.size)
  go_wp2_with fail
  refine (areAges_any _ _ _ _ zs _ rfl hn' ho2.some.2.2.2.2.1).mono ?_
  rintro e w' ⟨rfl, rfl⟩
  go_wp2_with fail
  refine (toIntS_any _ _ _ zs _ (h.kept hb2') hn').mono ?_
  rintro e w3 ⟨g3, hg3, rfl, ho3, hb3⟩
  have hb3' := hb2'.trans (hb3.mono hb2'.size)
  go_wp2_with fail
  refine (eqIntS_any _ _ _ _ zs _ hn' (ho2.kept hb3) ho3).mono ?_
  rintro e w4 ⟨rfl, hb4⟩
  have hb4' := hb3'.trans (hb4.mono hb3'.size)
  go_wp2_with fail
  go_outline
  go_ret
  exact ⟨rfl, hb4'⟩
end Go.Proofs.Ytonnknhmmljmaaa
