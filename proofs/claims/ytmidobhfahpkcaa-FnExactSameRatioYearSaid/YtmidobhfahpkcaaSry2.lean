/- In how many years two ratios are the same: the program's text. -/
import Derived.Test.YtmidobhfahpkcaaSry
set_option linter.unusedVariables false
set_option linter.unusedSimpArgs false
namespace Go.Proofs.Ytmidobhfahpkcaa
open Go.RowKit

set_option maxHeartbeats 4000000 in
set_option maxRecDepth 100000 in
theorem sry_any (a b c d : Int) (w : World) : Calls Try.prog 31 #[.int .i64 a, .int .i64 b, .int .i64 c, .int .i64 d] w (RetIIB (srN a b c d) (srD a b c d) (srB a b c d) w) := by
  have hgood : goodB [a, b, c, d] 120 = srOk a b c d := by simp [goodB, allB, srOk, Bool.and_assoc]; intros; decide
  cases hok : srOk a b c d with
  | false =>
    obtain ⟨e1, e2, e3⟩ := sr_not hok
    rw [e1, e2, e3]
    clear e1 e2 e3
    rw [hok] at hgood
    have HA := Lib.hid (fun (g k : Nat) (w : World) (hI : Ints w g 0 [a, b, c, d]) => areAges_any g 0 4 k [a, b, c, d] w rfl (by omega) hI)
    rw [hgood] at HA
    clear hgood hok
    go_enter Try.func31, Try.ntmps31
    go_wp2_with (first | (go_at_call 67; go_loud (refine (HA.out _ _ _ (ints_lit4 _ _ _ _ _ _)).mono ?_; rintro e w' ⟨rfl, rfl⟩)))
    go_ret3
    exact ⟨rfl, (Below.refl w.heap.size w).alloc (Nat.le_refl _) _⟩
  | true =>
    have hok' := hok
    unfold srOk at hok'
    rw [Bool.and_eq_true, Bool.and_eq_true, Bool.and_eq_true] at hok'
    obtain ⟨⟨⟨h1, h2⟩, h3⟩, h4⟩ := hok'
    obtain ⟨e1, e2, e3⟩ := sr_ok (show srOk a b c d = true by simp [srOk, h1, h2, h3, h4])
    rw [e1, e2, e3]
    clear e1 e2 e3
    have ha := inB_iff.1 h1
    have hb := inB_iff.1 h2
    have hc := inB_iff.1 h3
    have hd := inB_iff.1 h4
    have m1 := mul_bd (x := b) (y := c) (X := 120) (Y := 120) ⟨by omega, by omega⟩ ⟨by omega, by omega⟩
    have m2 := mul_bd (x := a) (y := d) (X := 120) (Y := 120) ⟨by omega, by omega⟩ ⟨by omega, by omega⟩
    rw [hok] at hgood
    have HA := Lib.hid (fun (g k : Nat) (w : World) (hI : Ints w g 0 [a, b, c, d]) => areAges_any g 0 4 k [a, b, c, d] w rfl (by omega) hI)
    rw [hgood] at HA
    have hmin : mnT [a, b, c, d] 4 = min (min a b) (min c d) := by first | (simp [mnT]; done) | (simp [mnT]; omega)
    have HY := Lib.hid (fun (g k : Nat) (w : World) (hI : Ints w g 0 [a, b, c, d]) => ywa_any (b * c - a * d) (a + d - b - c) g k 4 [a, b, c, d] w (by omega) (by omega) rfl (by omega) (by omega) (by rw [hmin]; omega) hI)
    rw [hmin] at HY
    clear hmin hgood hok
    generalize min (min a b) (min c d) = mn at HY ⊢
    go_enter Try.func31, Try.ntmps31
    go_wp2_with (first | (go_at_call 67; go_loud (refine (HA.out _ _ _ (ints_lit4 _ _ _ _ _ _)).mono ?_; rintro e w' ⟨rfl, rfl⟩)) | (go_at_call 55; refine (HY.out _ _ _ (ints_lit4 _ _ _ _ _ _)).mono ?_; rintro e w2 ⟨rfl, hcall⟩; have hbw2 : Below w.heap.size w w2 := ((Below.refl w.heap.size w).alloc (Nat.le_refl _) _).trans (hcall.mono (by simp)); clear hcall))
    go_ret3
    exact ⟨rfl, by assumption⟩
theorem sry_both (a b c d : Int) : ∃ (r1 r2 : Int) (ok : Bool), (∀ w, Calls Try.prog 30 #[.int .i64 a, .int .i64 b, .int .i64 c, .int .i64 d] w (RetIIB r1 r2 ok w)) ∧ ∀ w, Calls Try.prog 31 #[.int .i64 a, .int .i64 b, .int .i64 c, .int .i64 d] w (RetIIB r1 r2 ok w) :=
  ⟨_, _, _, fun w => specSry_any a b c d w, fun w => sry_any a b c d w⟩
end Go.Proofs.Ytmidobhfahpkcaa
