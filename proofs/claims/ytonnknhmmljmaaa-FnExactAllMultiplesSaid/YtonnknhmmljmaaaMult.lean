/- Whole multiples of ages: the parts of both texts. -/
import Derived.Test.YtonnknhmmljmaaaFirst
import Derived.Test.YtonnknhmmljmaaaWho
import Derived.Test.YtonnknhmmljmaaaRowsPush
import Derived.Test.YtonnknhmmljmaaaWhenAllMultiples
import Derived.Test.YtonnknhmmljmaaaWhenYearsOfMultiple
set_option linter.unusedVariables false
set_option linter.unusedSimpArgs false
namespace Go.Proofs.Ytonnknhmmljmaaa
open Go.RowKit

def wt (p q : Int) : Int := if q = 0 then 0 else if p % q = 0 then p / q else 0
def mulB (p q : Int) : Bool := decide (0 < q) && (p % q == 0) && decide (2 ≤ p / q)
theorem quo_bd {p q : Int} (hp : 0 ≤ p ∧ p ≤ 120) (hq : 1 ≤ q) : (0 ≤ p / q ∧ p / q ≤ 120) ∧ (0 ≤ p % q ∧ p % q < q) := by
  refine ⟨⟨Int.ediv_nonneg hp.1 (by omega), ?_⟩, Int.emod_nonneg _ (by omega), Int.emod_lt_of_pos _ (by omega)⟩
  exact Int.le_trans (Int.ediv_le_self _ hp.1) hp.2
theorem wt_two {p q : Int} (hq : 0 ≤ q) : decide (2 ≤ wt p q) = mulB p q := by
  unfold wt mulB
  by_cases h0 : q = 0
  · subst h0; simp
  · rw [if_neg h0, decide_eq_true (show 0 < q by omega)]
    by_cases h1 : p % q = 0
    · rw [if_pos h1, beq_iff_eq.2 h1]; rfl
    · rw [if_neg h1, beq_eq_false_iff_ne.2 h1]; rfl
theorem wt_eq {p q t : Int} (hq : 0 ≤ q) (ht : 2 ≤ t) : (wt p q == t) = (mulB p q && (p / q == t)) := by
  unfold wt mulB
  rw [Bool.eq_iff_iff]
  by_cases h0 : q = 0
  · subst h0; simp; omega
  · rw [if_neg h0, decide_eq_true (show 0 < q by omega)]
    by_cases h1 : p % q = 0
    · rw [if_pos h1, beq_iff_eq.2 h1]
      simp; omega
    · rw [if_neg h1, beq_eq_false_iff_ne.2 h1]
      simp; omega

set_option maxHeartbeats 1000000 in
theorem wholeTimes_any (g c n o : Nat) (num age : Int) (ys : List Int) (w : World) (hl : ys.length = n) (h8 : n ≤ 8) (ho : o < n) (hgs : g < w.heap.size) (hP : Ppl w g ys) (ha : 0 ≤ age ∧ age ≤ 120) (hq : 0 ≤ ys.getD o 0) :
    Calls Try.prog 74 #[.agg #[.int .i64 num, .int .i64 age, .slice (some ⟨g, 0, none⟩) n c], .int .i64 o] w (Ret (.int .i64 (wt age (ys.getD o 0))) w) := by
  have hP' := fun A => hP.kept ((Below.refl w.heap.size w).alloc (Nat.le_refl _) A) hgs
  have hc := fun A => (hP' A).age o (by omega)
  have o0 : (0 : Int) ≤ (o : Int) := by omega
  have o1 : (o : Int) < (n : Int) := by omega
  have hW : ∀ A, Below w.heap.size w (w.alloc A) := fun A => (Below.refl _ _).alloc (Nat.le_refl _) A
  have HW := Lib.hid hW
  clear hl hP hP' hW
  generalize ys.getD o 0 = q at hc hq
  by_cases h0 : q = 0
  · subst h0
    have HE := Lib.hid (show wt age 0 = 0 by simp [wt])
    go_enter Try.func74, Try.ntmps74
    go_wp2
    go_ret
    exact ⟨by rw [HE.out]; rfl, HW.out _⟩
  · have h1 : 1 ≤ q := by omega
    have hne : (q == 0) = false := beq_eq_false_iff_ne.2 h0
    obtain ⟨b1, b2⟩ := quo_bd ha h1
    by_cases h2 : age % q = 0
    · have HE := Lib.hid (show wt age q = age / q by unfold wt; rw [if_neg h0, if_pos h2])
      have hm : (age % q != 0) = false := by rw [h2]; rfl
      clear h2
      go_enter Try.func74, Try.ntmps74
      go_wp2
      go_ret
      exact ⟨by rw [HE.out]; rfl, HW.out _⟩
    · have HE := Lib.hid (show wt age q = 0 by unfold wt; rw [if_neg h0, if_neg h2])
      have hm : (age % q != 0) = true := by rw [bne_iff_ne]; exact h2
      clear h2
      go_enter Try.func74, Try.ntmps74
      go_wp2
      go_ret
      exact ⟨by rw [HE.out]; rfl, HW.out _⟩

theorem agTwo_any (b off c : Nat) (x y : Int) (zs : List Int) (w : World) (hn : zs.length ≤ 1048576) (hI : Ints w b off zs) :
    Calls Try.prog 70 #[.slice (some ⟨b, off, none⟩) zs.length c, .int .i64 x, .int .i64 y] w (RetSame (.bool (whoB zs x && whoB zs y && (x != y))) w) := by
  cases h1 : whoB zs x with
  | false =>
    go_enter Try.func70, Try.ntmps70
    go_wp2_with (first | (go_at_call 68; refine (agWho_any _ _ _ _ zs _ hn hI).mono ?_; rintro e w' ⟨rfl, rfl⟩))
    go_ret
    exact ⟨rfl, rfl⟩
  | true =>
    cases h2 : whoB zs y with
    | false =>
      go_enter Try.func70, Try.ntmps70
      go_wp2_with (first | (go_at_call 68; refine (agWho_any _ _ _ _ zs _ hn hI).mono ?_; rintro e w' ⟨rfl, rfl⟩))
      go_ret
      exact ⟨rfl, rfl⟩
    | true =>
      go_enter Try.func70, Try.ntmps70
      go_wp2_with (first | (go_at_call 68; refine (agWho_any _ _ _ _ zs _ hn hI).mono ?_; rintro e w' ⟨rfl, rfl⟩))
      go_ret
      exact ⟨rfl, rfl⟩
set_option maxHeartbeats 1000000 in
theorem areDifferent_any (b off c : Nat) (x y : Int) (zs : List Int) (w : World) (hn : zs.length ≤ 1048576) (hbl : b < w.heap.size) (hI : Ints w b off zs) :
    Calls Try.prog 72 #[.slice (some ⟨b, off, none⟩) zs.length c, .int .i64 x, .int .i64 y] w (Ret (.bool (whoB zs x && whoB zs y && (x != y))) w) := by
  have hW := Lib.hid fun A => (Below.refl w.heap.size w).alloc (Nat.le_refl _) A
  have hI' := Lib.hid fun A => hI.kept (hW.out A) hbl
  have HP := Lib.hid (who_two (zs := zs) (a := x) (b := y))
  generalize (whoB zs x && whoB zs y) = r at HP
  go_enter Try.func72, Try.ntmps72
  go_wp2_with fail
  refine (arePeople_any _ _ _ _ _ _ _ _ zs [x, y] _ rfl hn (hI'.out _) rfl (by simp) (ints_two _ _ _ (by simp))).mono ?_
  rintro e w' ⟨rfl, rfl⟩
  rw [HP.out]
  cases r with
  | true =>
    go_wp2_with fail
    go_ret
    exact ⟨rfl, hW.out _⟩
  | false =>
    go_wp2_with fail
    go_ret
    exact ⟨rfl, hW.out _⟩

set_option maxHeartbeats 1000000 in
theorem allTest (q g c n o : Nat) (num age : Int) (ys : List Int) (w : World) (hl : ys.length = n) (h8 : n ≤ 8) (ho : o < n) (hgs : g < w.heap.size) (hP : Ppl w g ys) (ha : 0 ≤ age ∧ age ≤ 120) (hy : 0 ≤ ys.getD o 0)
    (hq : w.cell? ⟨q, 0, none⟩ = some (.int .i64 o)) :
    Calls Try.prog 75 #[.agg #[.int .i64 num, .int .i64 age, .slice (some ⟨g, 0, none⟩) n c], .pointer (some ⟨q, 0, none⟩)] w (Ret (.bool (mulB age (ys.getD o 0))) w) := by
  have hP' := Lib.hid fun A => hP.kept ((Below.refl w.heap.size w).alloc (Nat.le_refl _) A) hgs
  have hW := Lib.hid fun A => (Below.refl w.heap.size w).alloc (Nat.le_refl _) A
  have hq' := fun A => below_cells (show Below w.heap.size w (w.alloc A) from hW.out A) hq
  have HT := Lib.hid (wt_two (p := age) hy)
  have HL := Lib.hid hl
  clear hl hP hq
  go_enter Try.func75, Try.ntmps75
  go_wp2_with fail
  refine (wholeTimes_any g c n o num age ys _ HL.out h8 ho (by simp; omega) (hP'.out _) ha hy).mono ?_
  rintro e w1 ⟨rfl, hb⟩
  go_wp2_with fail
  go_ret
  exact ⟨by rw [← HT.out]; rfl, (hW.out _).trans (hb.mono (by simp))⟩
end Go.Proofs.Ytonnknhmmljmaaa
