/- YearsTurned: the model's text. -/
import Derived.Test.YtjabghojenhhiaaTurnA
set_option linter.unusedVariables false
set_option linter.unusedSimpArgs false
namespace Go.Proofs.Ytjabghojenhhiaa
open Go.RowKit

set_option maxHeartbeats 1000000 in
theorem specTurned_no (b off c : Nat) (x y : Int) (zs : List Int) (w : World) (hn : zs.length ≤ 1048576) (hI : Ints w b off zs) (h : (whoB zs x && whoB zs y && (x != y)) = false) :
    Calls Try.prog 30 #[.slice (some ⟨b, off, none⟩) zs.length c, .int .i64 x, .int .i64 y] w (RetOwnB [] false w) := by
  cases hg : goodB zs 120 with
  | false =>
    clear h
    go_enter Try.func30, Try.ntmps30
    go_wp2_with (first | (go_at_call 34; refine (agGood_any _ _ _ _ zs _ rfl hn hI).mono ?_; rintro e w' ⟨rfl, rfl⟩) | (go_at_call 55; refine (l1In_any _ _ _ _).mono ?_; rintro e w' ⟨rfl, rfl⟩))
    go_ret2
    exact ⟨_, rfl, own_nil _ _, Below.refl _ _⟩
  | true =>
    cases hx : inB x 0 ((zs.length : Int) - 1) with
    | false =>
      clear h
      go_enter Try.func30, Try.ntmps30
      go_wp2_with (first | (go_at_call 34; refine (agGood_any _ _ _ _ zs _ rfl hn hI).mono ?_; rintro e w' ⟨rfl, rfl⟩) | (go_at_call 55; refine (l1In_any _ _ _ _).mono ?_; rintro e w' ⟨rfl, rfl⟩))
      go_ret2
      exact ⟨_, rfl, own_nil _ _, Below.refl _ _⟩
    | true =>
      cases hy : inB y 0 ((zs.length : Int) - 1) with
      | false =>
        clear h
        go_enter Try.func30, Try.ntmps30
        go_wp2_with (first | (go_at_call 34; refine (agGood_any _ _ _ _ zs _ rfl hn hI).mono ?_; rintro e w' ⟨rfl, rfl⟩) | (go_at_call 55; refine (l1In_any _ _ _ _).mono ?_; rintro e w' ⟨rfl, rfl⟩))
        go_ret2
        exact ⟨_, rfl, own_nil _ _, Below.refl _ _⟩
      | true =>
        have hxy : (x == y) = true := by
          unfold whoB at h
          rw [hg, hx, hy] at h
          simpa using h
        have hxy2 := beq_iff_eq.1 hxy
        clear h hxy
        subst hxy2
        go_enter Try.func30, Try.ntmps30
        go_wp2_with (first | (go_at_call 34; refine (agGood_any _ _ _ _ zs _ rfl hn hI).mono ?_; rintro e w' ⟨rfl, rfl⟩) | (go_at_call 55; refine (l1In_any _ _ _ _).mono ?_; rintro e w' ⟨rfl, rfl⟩))
        go_ret2
        exact ⟨_, rfl, own_nil _ _, Below.refl _ _⟩
end Go.Proofs.Ytjabghojenhhiaa
