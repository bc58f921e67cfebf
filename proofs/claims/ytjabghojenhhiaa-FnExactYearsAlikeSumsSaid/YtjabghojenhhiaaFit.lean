/- The fit years of a household, and of ages: both texts. -/
import Derived.Test.YtjabghojenhhiaaHouse
import Derived.WalkLawsBesides
set_option linter.unusedVariables false
set_option linter.unusedSimpArgs false
namespace Go.Proofs.Ytjabghojenhhiaa
open Go.RowKit

def minTo (a : Int) (zs : List Int) (k : Nat) : Int := (zs.take k).foldl min a
def maxTo (a : Int) (zs : List Int) (k : Nat) : Int := (zs.take k).foldl max a
theorem minTo_zero (a : Int) (zs : List Int) : minTo a zs 0 = a := rfl
theorem maxTo_zero (a : Int) (zs : List Int) : maxTo a zs 0 = a := rfl
theorem minTo_succ (a : Int) (zs : List Int) (k : Nat) (hk : k < zs.length) : minTo a zs (k + 1) = min (minTo a zs k) (zs.getD k 0) := by
  unfold minTo
  rw [List.take_succ_eq_append_getElem hk, List.foldl_append]
  simp [List.getElem?_eq_getElem hk]
theorem maxTo_succ (a : Int) (zs : List Int) (k : Nat) (hk : k < zs.length) : maxTo a zs (k + 1) = max (maxTo a zs k) (zs.getD k 0) := by
  unfold maxTo
  rw [List.take_succ_eq_append_getElem hk, List.foldl_append]
  simp [List.getElem?_eq_getElem hk]
theorem minTo_bd {a : Int} {zs : List Int} {lo hi : Int} (ha : lo ≤ a ∧ a ≤ hi) (hz : ∀ j, j < zs.length → lo ≤ zs.getD j 0 ∧ zs.getD j 0 ≤ hi) : ∀ k, k ≤ zs.length → lo ≤ minTo a zs k ∧ minTo a zs k ≤ hi := by
  intro k
  induction k with
  | zero => intro _; exact ha
  | succ k ih => intro hk; rw [minTo_succ a zs k (by omega)]; have := ih (by omega); have := hz k (by omega); omega
theorem maxTo_bd {a : Int} {zs : List Int} {lo hi : Int} (ha : lo ≤ a ∧ a ≤ hi) (hz : ∀ j, j < zs.length → lo ≤ zs.getD j 0 ∧ zs.getD j 0 ≤ hi) : ∀ k, k ≤ zs.length → lo ≤ maxTo a zs k ∧ maxTo a zs k ≤ hi := by
  intro k
  induction k with
  | zero => intro _; exact ha
  | succ k ih => intro hk; rw [maxTo_succ a zs k (by omega)]; have := ih (by omega); have := hz k (by omega); omega
theorem minTo_le {a : Int} {zs : List Int} : ∀ k, k ≤ zs.length → minTo a zs k ≤ a ∧ ∀ j, j < k → minTo a zs k ≤ zs.getD j 0 := by
  intro k
  induction k with
  | zero => intro _; exact ⟨Int.le_refl _, fun j hj => absurd hj (by omega)⟩
  | succ k ih =>
    intro hk
    rw [minTo_succ a zs k (by omega)]
    obtain ⟨h1, h2⟩ := ih (by omega)
    refine ⟨by omega, fun j hj => ?_⟩
    rcases Nat.lt_succ_iff_lt_or_eq.1 hj with h | rfl
    · have := h2 j h; omega
    · omega
theorem le_maxTo {a : Int} {zs : List Int} : ∀ k, k ≤ zs.length → a ≤ maxTo a zs k ∧ ∀ j, j < k → zs.getD j 0 ≤ maxTo a zs k := by
  intro k
  induction k with
  | zero => intro _; exact ⟨Int.le_refl _, fun j hj => absurd hj (by omega)⟩
  | succ k ih =>
    intro hk
    rw [maxTo_succ a zs k (by omega)]
    obtain ⟨h1, h2⟩ := ih (by omega)
    refine ⟨by omega, fun j hj => ?_⟩
    rcases Nat.lt_succ_iff_lt_or_eq.1 hj with h | rfl
    · have := h2 j h; omega
    · omega
theorem minTo_in {a : Int} {zs : List Int} : ∀ k, k ≤ zs.length → minTo a zs k = a ∨ ∃ j, j < k ∧ minTo a zs k = zs.getD j 0 := by
  intro k
  induction k with
  | zero => intro _; exact .inl rfl
  | succ k ih =>
    intro hk
    rw [minTo_succ a zs k (by omega)]
    rcases ih (by omega) with h | ⟨j, hj, h⟩
    · by_cases hc : minTo a zs k ≤ zs.getD k 0
      · exact .inl (by omega)
      · exact .inr ⟨k, by omega, by omega⟩
    · by_cases hc : minTo a zs k ≤ zs.getD k 0
      · exact .inr ⟨j, by omega, by omega⟩
      · exact .inr ⟨k, by omega, by omega⟩
theorem maxTo_in {a : Int} {zs : List Int} : ∀ k, k ≤ zs.length → maxTo a zs k = a ∨ ∃ j, j < k ∧ maxTo a zs k = zs.getD j 0 := by
  intro k
  induction k with
  | zero => intro _; exact .inl rfl
  | succ k ih =>
    intro hk
    rw [maxTo_succ a zs k (by omega)]
    rcases ih (by omega) with h | ⟨j, hj, h⟩
    · by_cases hc : zs.getD k 0 ≤ maxTo a zs k
      · exact .inl (by omega)
      · exact .inr ⟨k, by omega, by omega⟩
    · by_cases hc : zs.getD k 0 ≤ maxTo a zs k
      · exact .inr ⟨j, by omega, by omega⟩
      · exact .inr ⟨k, by omega, by omega⟩
/-- The least and the greatest fit years. -/
def loY (zs : List Int) : Int := -(minTo (zs.getD 0 0) zs zs.length)
def hiY (zs : List Int) : Int := 120 - maxTo (zs.getD 0 0) zs zs.length
theorem minTo_any {zs : List Int} (who : Nat) (hw : who < zs.length) : minTo (zs.getD who 0) zs zs.length = minTo (zs.getD 0 0) zs zs.length := by
  have h1 := (minTo_le (a := zs.getD who 0) (zs := zs) zs.length (Nat.le_refl _)).2
  have h2 := (minTo_le (a := zs.getD 0 0) (zs := zs) zs.length (Nat.le_refl _)).2
  have a1 : minTo (zs.getD who 0) zs zs.length ≤ minTo (zs.getD 0 0) zs zs.length := by
    rcases minTo_in (a := zs.getD 0 0) (zs := zs) zs.length (Nat.le_refl _) with h | ⟨j, hj, h⟩ <;> rw [h]
    · exact h1 0 (by omega)
    · exact h1 j hj
  have a2 : minTo (zs.getD 0 0) zs zs.length ≤ minTo (zs.getD who 0) zs zs.length := by
    rcases minTo_in (a := zs.getD who 0) (zs := zs) zs.length (Nat.le_refl _) with h | ⟨j, hj, h⟩ <;> rw [h]
    · exact h2 who hw
    · exact h2 j hj
  omega
theorem maxTo_any {zs : List Int} (who : Nat) (hw : who < zs.length) : maxTo (zs.getD who 0) zs zs.length = maxTo (zs.getD 0 0) zs zs.length := by
  have h1 := (le_maxTo (a := zs.getD who 0) (zs := zs) zs.length (Nat.le_refl _)).2
  have h2 := (le_maxTo (a := zs.getD 0 0) (zs := zs) zs.length (Nat.le_refl _)).2
  have a1 : maxTo (zs.getD 0 0) zs zs.length ≤ maxTo (zs.getD who 0) zs zs.length := by
    rcases maxTo_in (a := zs.getD 0 0) (zs := zs) zs.length (Nat.le_refl _) with h | ⟨j, hj, h⟩ <;> rw [h]
    · exact h1 0 (by omega)
    · exact h1 j hj
  have a2 : maxTo (zs.getD who 0) zs zs.length ≤ maxTo (zs.getD 0 0) zs zs.length := by
    rcases maxTo_in (a := zs.getD who 0) (zs := zs) zs.length (Nat.le_refl _) with h | ⟨j, hj, h⟩ <;> rw [h]
    · exact h2 who hw
    · exact h2 j hj
  omega
/-- In fit years all ages are in bounds. -/
theorem fit_bd {zs : List Int} {y : Int} (h1 : loY zs ≤ y) (h2 : y ≤ hiY zs) (j : Nat) (hj : j < zs.length) : 0 ≤ zs.getD j 0 + y ∧ zs.getD j 0 + y ≤ 120 := by
  have a := (minTo_le (a := zs.getD 0 0) (zs := zs) zs.length (Nat.le_refl _)).2 j hj
  have b := (le_maxTo (a := zs.getD 0 0) (zs := zs) zs.length (Nat.le_refl _)).2 j hj
  unfold loY at h1
  unfold hiY at h2
  omega
theorem loY_bd {zs : List Int} (hg : goodB zs 120 = true) : -120 ≤ loY zs ∧ loY zs ≤ 0 ∧ 0 ≤ hiY zs ∧ hiY zs ≤ 120 := by
  have h8 := goodB_len hg
  have b1 := minTo_bd (a := zs.getD 0 0) (lo := 0) (hi := 120) (goodB_at hg 0 (by omega)) (goodB_at hg) zs.length (Nat.le_refl _)
  have b2 := maxTo_bd (a := zs.getD 0 0) (lo := 0) (hi := 120) (goodB_at hg 0 (by omega)) (goodB_at hg) zs.length (Nat.le_refl _)
  unfold loY hiY
  omega

theorem vint {a b : Int} (h : a = b) : Value.int .i64 a = Value.int .i64 b := by rw [h]

def RetTwo (x y : Int) (w : World) (e : Ending) (w' : World) : Prop := e = .returned (.tuple #[.int .i64 x, .int .i64 y]) ∧ Below w.heap.size w w'

set_option maxHeartbeats 400000 in
theorem fitYears_any (num age : Int) (g n c : Nat) (zs : List Int) (w : World) (hl : zs.length = n) (hg : goodB zs 120 = true) (hgs : g < w.heap.size) (hP : Ppl w g zs) (ha : 0 ≤ age ∧ age ≤ 120) :
    Calls Try.prog 45 #[.agg #[.int .i64 num, .int .i64 age, .slice (some ⟨g, 0, none⟩) n c]] w (RetTwo (-(minTo age zs n)) (120 - maxTo age zs n) w) := by
  have h8 := goodB_len hg
  go_enter Try.func45, Try.ntmps45
  go_wp2
  go_quiet (fail)
  go_wp2
  go_loopw [4, 5, 17] (fun a b v wr => ∃ k : Nat, k ≤ n ∧ v = .int .i64 k ∧ a = .int .i64 (minTo age zs k) ∧ b = .int .i64 (maxTo age zs k) ∧ Below w.heap.size w wr) (fun _ _ v _ => n - (intOf v).toNat)
  case atStart => exact ⟨0, Nat.zero_le _, rfl, rfl, rfl, below_drewN ((Below.refl _ _).alloc (Nat.le_refl _) _) _⟩
  case round =>
    obtain ⟨k, hk, rfl, rfl, rfl, hb⟩ := hrel
    have m1 := minTo_bd ha (goodB_at hg) k (by omega)
    have m2 := maxTo_bd ha (goodB_at hg) k (by omega)
    by_cases hlt : k < n
    · have hz := goodB_at hg k (by omega)
      have hc1 := (hP.kept hb hgs).num k (by omega)
      have hc2 := (hP.kept hb hgs).age k (by omega)
      have S1 := Lib.hid (minTo_succ age zs k (by omega))
      have S2 := Lib.hid (maxTo_succ age zs k (by omega))
      have hsz := hb.size
      generalize minTo age zs k = x at m1 S1 ⊢
      generalize maxTo age zs k = y at m2 S2 ⊢
      generalize zs.getD k 0 = z at hz hc2 S1 S2
      go_wp2
      go_roundw
      case rel => exact ⟨k + 1, by omega, by go_num, by rw [S1.out]; exact vint (by split <;> omega), by rw [S2.out]; exact vint (by split <;> omega), hb.alloc hsz _⟩
      case measure => simp [intOf]; omega
    · have hkn : k = n := by omega
      subst hkn
      go_wp2
      go_ret2
      exact ⟨rfl, hb⟩

/-- The greater and the lesser of two numbers, in the model's text. -/
theorem l1Least_any (x y : Int) (w : World) : Calls Try.prog 70 #[.int .i64 x, .int .i64 y] w (RetSame (.int .i64 (min x y)) w) := by
  by_cases h : x < y
  · have e : min x y = x := by omega
    rw [e]; clear e
    go_enter Try.func70, Try.ntmps70
    go_wp2
    go_ret
    exact ⟨rfl, rfl⟩
  · have e : min x y = y := by omega
    rw [e]; clear e
    go_enter Try.func70, Try.ntmps70
    go_wp2
    go_ret
    exact ⟨rfl, rfl⟩
theorem l1Most_any (x y : Int) (w : World) : Calls Try.prog 71 #[.int .i64 x, .int .i64 y] w (RetSame (.int .i64 (max x y)) w) := by
  by_cases h : y < x
  · have e : max x y = x := by omega
    rw [e]; clear e
    go_enter Try.func71, Try.ntmps71
    go_wp2
    go_ret
    exact ⟨rfl, rfl⟩
  · have e : max x y = y := by omega
    rw [e]; clear e
    go_enter Try.func71, Try.ntmps71
    go_wp2
    go_ret
    exact ⟨rfl, rfl⟩

set_option maxHeartbeats 400000 in
theorem agRange_any (b off n c : Nat) (zs : List Int) (w : World) (hl : zs.length = n) (hI : Ints w b off zs) (hg : goodB zs 120 = true) :
    Calls Try.prog 39 #[.slice (some ⟨b, off, none⟩) n c] w (RetTwo (loY zs) (hiY zs) w) := by
  have h8 := goodB_len hg
  have hc0 : w.cell? ⟨b, off, none⟩ = some (.int .i64 (zs.getD 0 0)) := hI 0 (by omega)
  have hp : (0 : Int) < (n : Int) := by omega
  have HR := Lib.hid (show loY zs = -(minTo (zs.getD 0 0) zs n) ∧ hiY zs = 120 - maxTo (zs.getD 0 0) zs n by rw [← hl]; exact ⟨rfl, rfl⟩)
  have ha := goodB_at hg 0 (by omega)
  generalize zs.getD 0 0 = a at hc0 HR ha
  go_enter Try.func39, Try.ntmps39
  go_wp2
  go_quiet (fail)
  go_wp2
  go_loop [4, 5, 16] (fun x y v => ∃ k : Nat, k ≤ n ∧ v = .int .i64 k ∧ x = .int .i64 (minTo a zs k) ∧ y = .int .i64 (maxTo a zs k)) (fun _ _ v => n - (intOf v).toNat)
  case atStart => exact ⟨0, Nat.zero_le _, rfl, rfl, rfl⟩
  case round =>
    obtain ⟨k, hk, rfl, rfl, rfl⟩ := hrel
    have m1 := minTo_bd ha (goodB_at hg) k (by omega)
    have m2 := maxTo_bd ha (goodB_at hg) k (by omega)
    by_cases hlt : k < n
    · have hc : w.cell? ⟨b, off + k, none⟩ = some (.int .i64 (zs.getD k 0)) := hI k (by omega)
      have S1 := Lib.hid (minTo_succ a zs k (by omega))
      have S2 := Lib.hid (maxTo_succ a zs k (by omega))
      clear hc0
      generalize minTo a zs k = x at m1 S1 ⊢
      generalize maxTo a zs k = y at m2 S2 ⊢
      generalize zs.getD k 0 = z at hc S1 S2
      go_wp2_with (first | (go_at_call 70; refine (l1Least_any _ _ _).mono ?_; rintro e w' ⟨rfl, rfl⟩) | (go_at_call 71; refine (l1Most_any _ _ _).mono ?_; rintro e w' ⟨rfl, rfl⟩))
      go_round
      case rel => exact ⟨k + 1, by omega, by go_num, by rw [S1.out], by rw [S2.out]⟩
      case measure => simp [intOf]; omega
    · have hkn : k = n := by omega
      subst hkn
      go_wp2
      go_ret2
      exact ⟨by rw [HR.out.1, HR.out.2]; rfl, below_drewN (Below.refl _ _) _⟩

def RetHouse0 (zs : List Int) (w : World) (e : Ending) (w' : World) : Prop :=
  ∃ g, w.heap.size ≤ g ∧ e = .returned (.tuple #[.agg #[.int .i64 0, .int .i64 (zs.getD 0 0), .slice (some ⟨g, 0, none⟩) zs.length zs.length], .bool true]) ∧ Ppl w' g zs ∧ g < w'.heap.size ∧ Below w.heap.size w w'
theorem householdOf_zero (b off n c : Nat) (zs : List Int) (w : World) (hl : zs.length = n) (hn : n ≤ 1048576) (hI : Ints w b off zs) (hg : goodB zs 120 = true) :
    Calls Try.prog 36 #[.slice (some ⟨b, off, none⟩) n c, .int .i64 0] w (RetHouse0 zs w) := by
  rw [show (0 : Int) = ((0 : Nat) : Int) from rfl]
  have h8 := goodB_len hg
  refine (householdOf_yes b off n c 0 zs w hl hn hI hg (by omega)).mono ?_
  rintro e w' ⟨g, h1, rfl, h2⟩
  exact ⟨g, h1, rfl, h2⟩
theorem householdOf_nozero (b off n c : Nat) (zs : List Int) (w : World) (hl : zs.length = n) (hn : n ≤ 1048576) (hI : Ints w b off zs) (hbl : b < w.heap.size) (hno : goodB zs 120 = false) :
    Calls Try.prog 36 #[.slice (some ⟨b, off, none⟩) n c, .int .i64 0] w (RetNoHouse w) :=
  householdOf_no b off n c 0 zs w hl hn hI hbl (by rw [hno]; rfl)

end Go.Proofs.Ytjabghojenhhiaa
