/- Double years: both texts. -/
import Derived.Test.YtadfojjglceheaaAn
import Derived.IntWalk
set_option linter.unusedVariables false
set_option linter.unusedSimpArgs false
namespace Go.Proofs.Ytadfojjglceheaa
open Go.RowKit

/-- Births, and two of them. -/
def dyB (zs : List Int) (a b : Int) : Bool := bornB zs && inB a 0 ((zs.length : Int) - 1) && inB b 0 ((zs.length : Int) - 1)
theorem isWithin_of {n lo hi : Int} {r : Bool} (h : inB n lo hi = r) (w : World) : Calls Try.prog 35 #[.int .i64 n, .int .i64 lo, .int .i64 hi] w (RetSame (.bool r) w) := by
  subst h; exact isWithin_any n lo hi w
theorem l1In_of {n lo hi : Int} {r : Bool} (h : inB n lo hi = r) (w : World) : Calls Try.prog 49 #[.int .i64 n, .int .i64 lo, .int .i64 hi] w (RetSame (.bool r) w) := by
  subst h; exact l1In_any n lo hi w
/-- The age in a double year, if there is one. -/
def dyA (zs : List Int) (a b : Int) : Int := zs.getD b.toNat 0 - zs.getD a.toNat 0
def dyOk (zs : List Int) (a b : Int) : Bool := dyB zs a b && inB (dyA zs a b) 1 60
def dyY (zs : List Int) (a b : Int) : Int := if dyOk zs a b = true then zs.getD b.toNat 0 + dyA zs a b else 0

set_option maxHeartbeats 1000000 in
theorem doubleYearI_any (b off n c : Nat) (p q : Int) (zs : List Int) (w : World) (hl : zs.length = n) (hn : n ≤ 1048576) (hI : Ints w b off zs) :
    Calls Try.prog 29 #[.slice (some ⟨b, off, none⟩) n c, .int .i64 p, .int .i64 q] w (RetIB (dyY zs p q) (dyOk zs p q) w) := by
  have HB := Lib.hid fun w hI => areBirths_any b off n c zs w hl hn hI
  by_cases hd : dyB zs p q = true
  · have hd' := hd
    unfold dyB at hd'
    rw [Bool.and_eq_true, Bool.and_eq_true, hl] at hd'
    obtain ⟨⟨g1, g2⟩, g3⟩ := hd'
    have hln := bornB_len g1
    rw [g1] at HB
    have b2 := inB_iff.1 g2
    have b3 := inB_iff.1 g3
    obtain ⟨P, rfl⟩ : ∃ P : Nat, p = (P : Int) := ⟨p.toNat, by omega⟩
    obtain ⟨Q, rfl⟩ : ∃ Q : Nat, q = (Q : Int) := ⟨q.toNat, by omega⟩
    have hP : P < n := by omega
    have hQ : Q < n := by omega
    have z1 := bornB_at g1 P (by omega)
    have z2 := bornB_at g1 Q (by omega)
    have c1 := hI P (by omega)
    have c2 := hI Q (by omega)
    have eA : dyA zs (P : Int) (Q : Int) = zs.getD Q 0 - zs.getD P 0 := by unfold dyA; simp only [Int.toNat_natCast]
    have eY : dyY zs (P : Int) (Q : Int) = if inB (zs.getD Q 0 - zs.getD P 0) 1 60 = true then zs.getD Q 0 + (zs.getD Q 0 - zs.getD P 0) else 0 := by
      unfold dyY dyOk; rw [hd, Bool.true_and, eA]; simp only [Int.toNat_natCast]
    have eO : dyOk zs (P : Int) (Q : Int) = inB (zs.getD Q 0 - zs.getD P 0) 1 60 := by unfold dyOk; rw [hd, Bool.true_and, eA]
    rw [eY, eO]
    have hpq : P = Q → zs.getD Q 0 - zs.getD P 0 = 0 := by rintro rfl; omega
    clear eA eY eO hd
    generalize zs.getD P 0 = x at z1 c1 hpq ⊢
    generalize zs.getD Q 0 = y at z2 c2 hpq ⊢
    have k0 : (0 : Int) ≤ (P : Int) := by omega
    have k1 : (P : Int) < (n : Int) := by omega
    have k2 : (0 : Int) ≤ (Q : Int) := by omega
    have k3 : (Q : Int) < (n : Int) := by omega
    have hw : IntKind.i64.wrap (y - x) = y - x := IntWalk.i64_in _ (by omega)
    cases hg : inB (y - x) 1 60 with
    | false =>
      clear hpq
      go_enter Try.func29, Try.ntmps29
      go_wp2_with (first | (go_at_call 14; refine (HB.out _ hI).mono ?_; rintro e w' ⟨rfl, rfl⟩) | (go_at_call 35; refine (isWithin_of (by assumption) _).mono ?_; rintro e w' ⟨rfl, rfl⟩))
      go_quiet (fail)
      go_wp2_with (first | (go_at_call 14; refine (HB.out _ hI).mono ?_; rintro e w' ⟨rfl, rfl⟩) | (go_at_call 35; refine (isWithin_of (by assumption) _).mono ?_; rintro e w' ⟨rfl, rfl⟩))
      go_ret2
      exact ⟨rfl, below_drewN (Below.refl _ _) _⟩
    | true =>
      have b4 := inB_iff.1 hg
      clear hpq
      go_enter Try.func29, Try.ntmps29
      go_wp2_with (first | (go_at_call 14; refine (HB.out _ hI).mono ?_; rintro e w' ⟨rfl, rfl⟩) | (go_at_call 35; refine (isWithin_of (by assumption) _).mono ?_; rintro e w' ⟨rfl, rfl⟩))
      go_quiet (fail)
      go_wp2_with (first | (go_at_call 14; refine (HB.out _ hI).mono ?_; rintro e w' ⟨rfl, rfl⟩) | (go_at_call 35; refine (isWithin_of (by assumption) _).mono ?_; rintro e w' ⟨rfl, rfl⟩))
      go_ret2
      exact ⟨rfl, below_drewN (Below.refl _ _) _⟩
  · have hd2 : dyB zs p q = false := by simpa using hd
    have eO : dyOk zs p q = false := by unfold dyOk; rw [hd2, Bool.false_and]
    have eY : dyY zs p q = 0 := by unfold dyY; rw [eO]; rfl
    rw [eY, eO]
    unfold dyB at hd2
    rw [hl] at hd2
    clear eO eY hd
    have hm : 0 < n → (0 : Int) ≤ (n : Int) - 1 := by omega
    generalize bornB zs = r1 at HB hd2
    rcases r1 with _ | _
    · go_enter Try.func29, Try.ntmps29
      go_wp2_with (first | (go_at_call 14; refine (HB.out _ hI).mono ?_; rintro e w' ⟨rfl, rfl⟩) | (go_at_call 35; refine (isWithin_of (by assumption) _).mono ?_; rintro e w' ⟨rfl, rfl⟩))
      go_ret2
      exact ⟨rfl, Below.refl _ _⟩
    · cases g2 : inB p 0 ((n : Int) - 1) with
      | false =>
        clear hd2
        go_enter Try.func29, Try.ntmps29
        go_wp2_with (first | (go_at_call 14; refine (HB.out _ hI).mono ?_; rintro e w' ⟨rfl, rfl⟩) | (go_at_call 35; refine (isWithin_of (by assumption) _).mono ?_; rintro e w' ⟨rfl, rfl⟩))
        go_ret2
        exact ⟨rfl, Below.refl _ _⟩
      | true =>
        rw [g2, Bool.true_and, Bool.true_and] at hd2
        go_enter Try.func29, Try.ntmps29
        go_wp2_with (first | (go_at_call 14; refine (HB.out _ hI).mono ?_; rintro e w' ⟨rfl, rfl⟩) | (go_at_call 35; refine (isWithin_of (by assumption) _).mono ?_; rintro e w' ⟨rfl, rfl⟩))
        go_ret2
        exact ⟨rfl, Below.refl _ _⟩

set_option maxHeartbeats 1000000 in
theorem doubleYearS_any (b off n c : Nat) (p q : Int) (zs : List Int) (w : World) (hl : zs.length = n) (hn : n ≤ 1048576) (hI : Ints w b off zs) :
    Calls Try.prog 28 #[.slice (some ⟨b, off, none⟩) n c, .int .i64 p, .int .i64 q] w (RetIB (dyY zs p q) (dyOk zs p q) w) := by
  have HB := Lib.hid fun w hI => roBorn_any b off n c zs w hl hn hI
  by_cases hd : dyB zs p q = true
  · have hd' := hd
    unfold dyB at hd'
    rw [Bool.and_eq_true, Bool.and_eq_true, hl] at hd'
    obtain ⟨⟨g1, g2⟩, g3⟩ := hd'
    have hln := bornB_len g1
    rw [g1] at HB
    have b2 := inB_iff.1 g2
    have b3 := inB_iff.1 g3
    obtain ⟨P, rfl⟩ : ∃ P : Nat, p = (P : Int) := ⟨p.toNat, by omega⟩
    obtain ⟨Q, rfl⟩ : ∃ Q : Nat, q = (Q : Int) := ⟨q.toNat, by omega⟩
    have hP : P < n := by omega
    have hQ : Q < n := by omega
    have z1 := bornB_at g1 P (by omega)
    have z2 := bornB_at g1 Q (by omega)
    have c1 := hI P (by omega)
    have c2 := hI Q (by omega)
    have eA : dyA zs (P : Int) (Q : Int) = zs.getD Q 0 - zs.getD P 0 := by unfold dyA; simp only [Int.toNat_natCast]
    have eY : dyY zs (P : Int) (Q : Int) = if inB (zs.getD Q 0 - zs.getD P 0) 1 60 = true then zs.getD Q 0 + (zs.getD Q 0 - zs.getD P 0) else 0 := by
      unfold dyY dyOk; rw [hd, Bool.true_and, eA]; simp only [Int.toNat_natCast]
    have eO : dyOk zs (P : Int) (Q : Int) = inB (zs.getD Q 0 - zs.getD P 0) 1 60 := by unfold dyOk; rw [hd, Bool.true_and, eA]
    rw [eY, eO]
    have hpq : P = Q → zs.getD Q 0 - zs.getD P 0 = 0 := by rintro rfl; omega
    clear eA eY eO hd
    generalize zs.getD P 0 = x at z1 c1 hpq ⊢
    generalize zs.getD Q 0 = y at z2 c2 hpq ⊢
    have k0 : (0 : Int) ≤ (P : Int) := by omega
    have k1 : (P : Int) < (n : Int) := by omega
    have k2 : (0 : Int) ≤ (Q : Int) := by omega
    have k3 : (Q : Int) < (n : Int) := by omega
    have hw : IntKind.i64.wrap (y - x) = y - x := IntWalk.i64_in _ (by omega)
    by_cases hpe : (P : Int) = (Q : Int)
    · have h0 := hpq (by omega)
      have hg : inB (y - x) 1 60 = false := inB_not.2 (by omega)
      rw [hg]
      clear hpq
      go_enter Try.func28, Try.ntmps28
      go_wp2_with (first | (go_at_call 34; refine (HB.out _ hI).mono ?_; rintro e w' ⟨rfl, rfl⟩) | (go_at_call 49; refine (l1In_of (by assumption) _).mono ?_; rintro e w' ⟨rfl, rfl⟩))
      go_ret2
      exact ⟨rfl, Below.refl _ _⟩
    · clear hpq
      by_cases h1 : y - x < 1
      · have hg : inB (y - x) 1 60 = false := inB_not.2 (by omega)
        rw [hg]
        go_enter Try.func28, Try.ntmps28
        go_wp2_with (first | (go_at_call 34; refine (HB.out _ hI).mono ?_; rintro e w' ⟨rfl, rfl⟩) | (go_at_call 49; refine (l1In_of (by assumption) _).mono ?_; rintro e w' ⟨rfl, rfl⟩))
        go_quiet (fail)
        go_wp2_with (first | (go_at_call 34; refine (HB.out _ hI).mono ?_; rintro e w' ⟨rfl, rfl⟩) | (go_at_call 49; refine (l1In_of (by assumption) _).mono ?_; rintro e w' ⟨rfl, rfl⟩))
        go_ret2
        exact ⟨rfl, below_drewN (Below.refl _ _) _⟩
      · by_cases h2 : 120 < 2 * (y - x)
        · have hg : inB (y - x) 1 60 = false := inB_not.2 (by omega)
          rw [hg]
          go_enter Try.func28, Try.ntmps28
          go_wp2_with (first | (go_at_call 34; refine (HB.out _ hI).mono ?_; rintro e w' ⟨rfl, rfl⟩) | (go_at_call 49; refine (l1In_of (by assumption) _).mono ?_; rintro e w' ⟨rfl, rfl⟩))
          go_quiet (fail)
          go_wp2_with (first | (go_at_call 34; refine (HB.out _ hI).mono ?_; rintro e w' ⟨rfl, rfl⟩) | (go_at_call 49; refine (l1In_of (by assumption) _).mono ?_; rintro e w' ⟨rfl, rfl⟩))
          go_ret2
          exact ⟨rfl, below_drewN (Below.refl _ _) _⟩
        · have hg : inB (y - x) 1 60 = true := inB_true (by omega) (by omega)
          rw [hg]
          have h3 : ¬ (3000 < y + (y - x)) := by omega
          go_enter Try.func28, Try.ntmps28
          go_wp2_with (first | (go_at_call 34; refine (HB.out _ hI).mono ?_; rintro e w' ⟨rfl, rfl⟩) | (go_at_call 49; refine (l1In_of (by assumption) _).mono ?_; rintro e w' ⟨rfl, rfl⟩))
          go_quiet (fail)
          go_wp2_with (first | (go_at_call 34; refine (HB.out _ hI).mono ?_; rintro e w' ⟨rfl, rfl⟩) | (go_at_call 49; refine (l1In_of (by assumption) _).mono ?_; rintro e w' ⟨rfl, rfl⟩))
          go_ret2
          exact ⟨rfl, below_drewN (Below.refl _ _) _⟩
  · have hd2 : dyB zs p q = false := by simpa using hd
    have eO : dyOk zs p q = false := by unfold dyOk; rw [hd2, Bool.false_and]
    have eY : dyY zs p q = 0 := by unfold dyY; rw [eO]; rfl
    rw [eY, eO]
    unfold dyB at hd2
    rw [hl] at hd2
    clear eO eY hd
    have hm : 0 < n → (0 : Int) ≤ (n : Int) - 1 := by omega
    generalize bornB zs = r1 at HB hd2
    rcases r1 with _ | _
    · go_enter Try.func28, Try.ntmps28
      go_wp2_with (first | (go_at_call 34; refine (HB.out _ hI).mono ?_; rintro e w' ⟨rfl, rfl⟩) | (go_at_call 49; refine (l1In_of (by assumption) _).mono ?_; rintro e w' ⟨rfl, rfl⟩))
      go_ret2
      exact ⟨rfl, Below.refl _ _⟩
    · cases g2 : inB p 0 ((n : Int) - 1) with
      | false =>
        clear hd2
        go_enter Try.func28, Try.ntmps28
        go_wp2_with (first | (go_at_call 34; refine (HB.out _ hI).mono ?_; rintro e w' ⟨rfl, rfl⟩) | (go_at_call 49; refine (l1In_of (by assumption) _).mono ?_; rintro e w' ⟨rfl, rfl⟩))
        go_ret2
        exact ⟨rfl, Below.refl _ _⟩
      | true =>
        rw [g2, Bool.true_and, Bool.true_and] at hd2
        go_enter Try.func28, Try.ntmps28
        go_wp2_with (first | (go_at_call 34; refine (HB.out _ hI).mono ?_; rintro e w' ⟨rfl, rfl⟩) | (go_at_call 49; refine (l1In_of (by assumption) _).mono ?_; rintro e w' ⟨rfl, rfl⟩))
        go_ret2
        exact ⟨rfl, Below.refl _ _⟩

theorem doubleYear_both (zs : List Int) (p q : Int) : ∃ r ok,
    (∀ b c w, zs.length ≤ 1048576 → b < w.heap.size → Ints w b 0 zs → Calls Try.prog 28 #[.slice (some ⟨b, 0, none⟩) zs.length c, .int .i64 p, .int .i64 q] w (RetIB r ok w)) ∧
    (∀ b c w, zs.length ≤ 1048576 → b < w.heap.size → Ints w b 0 zs → Calls Try.prog 29 #[.slice (some ⟨b, 0, none⟩) zs.length c, .int .i64 p, .int .i64 q] w (RetIB r ok w)) :=
  ⟨_, _, fun b c w hn hb hI => doubleYearS_any b 0 _ c p q zs w rfl hn hI, fun b c w hn hb hI => doubleYearI_any b 0 _ c p q zs w rfl hn hI⟩
end Go.Proofs.Ytadfojjglceheaa
