/- The sum of all ages and the birthdays between dates, of the program. -/
import Derived.Test.YtbhceokapbnhhaaIb2
import Derived.Test.YtbhceokapbnhhaaBi12
set_option linter.unusedVariables false
set_option linter.unusedSimpArgs false
namespace Go.Proofs.Ytbhceokapbnhhaa
open Go.RowKit

/-- The sum of the first k numbers. -/
def sumZ (zs : List Int) : Nat → Int
  | 0 => 0
  | k + 1 => sumZ zs k + zs.getD k 0
theorem sumZ_bounds {zs : List Int} (h : ∀ j, j < zs.length → -3001 ≤ zs.getD j 0 ∧ zs.getD j 0 ≤ 3001) : ∀ k, k ≤ zs.length → -(3001 * (k : Int)) ≤ sumZ zs k ∧ sumZ zs k ≤ 3001 * (k : Int)
  | 0, _ => by simp [sumZ]
  | k + 1, hk => by
    have := sumZ_bounds h k (by omega)
    have := h k (by omega)
    unfold sumZ
    omega
theorem agesOnR_bounds (ds : List Dt) (o : Dt) : ∀ j, j < (agesOnR ds o).length → -3001 ≤ (agesOnR ds o).getD j 0 ∧ (agesOnR ds o).getD j 0 ≤ 3001 := by
  intro j hj
  cases h : allBorn ds o with
  | false => rw [agesOnR_no h] at hj; exact absurd hj (by simp)
  | true =>
    rw [agesOnR_yes h] at hj ⊢
    rw [ageL_len] at hj
    rw [ageL_at ds o j hj]
    have := ageD_bounds (birthsB_at (allBorn_parts h).1 j hj) (allBorn_date h)
    omega
theorem sumZ_ages {ds : List Dt} {o : Dt} : ∀ k, k ≤ ds.length → sumZ (ageL ds o) k = sumA ds o k
  | 0, _ => rfl
  | k + 1, hk => by
    unfold sumZ sumA
    rw [sumZ_ages k (by omega), ageL_at ds o k (by omega)]
theorem sumZ_on (ds : List Dt) (o : Dt) : sumZ (agesOnR ds o) (agesOnR ds o).length = sumOnR ds o := by
  unfold sumOnR
  cases h : allBorn ds o with
  | false => rw [agesOnR_no h]; rfl
  | true => rw [agesOnR_yes h, ageL_len, sumZ_ages _ (Nat.le_refl _)]; rfl
theorem own_read {B : Nat} {w : World} {v : Value} {zs : List Int} (h : Own B w v zs) : ∃ p c, v = .slice p zs.length c ∧ ∀ j, j < zs.length → ∃ g, p = some ⟨g, 0, none⟩ ∧ g < w.heap.size ∧ Ints w g 0 zs := by
  rcases h.cases with ⟨h1, h2⟩ | ⟨g, c, h1, h2, h3, h4, h5, h6, h7⟩
  · subst h2; exact ⟨none, 0, h1, fun j hj => absurd hj (by simp)⟩
  · exact ⟨_, c, h1, fun j hj => ⟨g, rfl, h3, h6⟩⟩
set_option maxHeartbeats 4000000 in
set_option maxRecDepth 100000 in
theorem imSumOfAgesOn_any (b off n c : Nat) (ds : List Dt) (y d : Int) (w : World) (hl : ds.length = n) (hI : Dts w b off ds) (hbl : b < w.heap.size) :
    Calls Try.prog 26 #[.slice (some ⟨b, off, none⟩) n c, .agg #[.int .i64 y, .int .i64 d]] w (RetIB (sumOnR ds (y, d)) (allBorn ds (y, d)) w) := by
  have HW0 := Lib.hid ((Below.refl w.heap.size w).alloc (Nat.le_refl _) (.cells #[.int .i64 y, .int .i64 d] 34))
  have HB := Lib.hid (fun (W : World) (h : Dts W b off ds) (h2 : b < W.heap.size) => imAgesOn_any b off n c ds y d W hl h h2)
  have hI1 : ∀ A, Dts (w.alloc A) b off ds := fun A => hI.kept ((Below.refl w.heap.size w).alloc (Nat.le_refl _) A) hbl
  have hbl1 : ∀ A, b < (w.alloc A).heap.size := fun A => by simp <;> omega
  have h8 := agesOnR_len ds (y, d)
  have HZ := Lib.hid (agesOnR_bounds ds (y, d))
  have HS := Lib.hid (sumZ_bounds (agesOnR_bounds ds (y, d)))
  rw [← sumZ_on ds (y, d)]
  generalize agesOnR ds (y, d) = zs at HB HZ HS h8 ⊢
  generalize allBorn ds (y, d) = t at HB ⊢
  clear hl
  go_enter Try.func26, Try.ntmps26
  go_wp2_with (first | (go_at_call 20; refine (HB.out _ (by first | exact hI1 _ | exact hI2 _ _ | exact hI.kept (by assumption) hbl) (by first | exact hbl1 _ | exact hbl2 _ _ | (have := Below.size ‹Below w.heap.size w _›; omega))).mono ?_; rintro e w3 ⟨v, rfl, hv, hcall⟩; have hbw : Below w.heap.size w w3 := (by first | exact Below.trans (by assumption) (Below.mono hcall (Below.size (by assumption))) | exact Below.trans (Below.drew (by assumption)) (Below.mono hcall (Below.size (Below.drew (by assumption)))) | exact HW0.out.trans (hcall.mono (by simp <;> omega)) | exact HW0.out.drew.trans (hcall.mono (by simp <;> omega))); have q1 : w3.cell? ⟨w.heap.size, 0, none⟩ = some (.int .i64 y) := below_cell2 hcall (by first | assumption | (simp; done) | (simp [go_sem]; done) | simp [*]); have q2 : w3.cell? ⟨w.heap.size, 1, none⟩ = some (.int .i64 d) := below_cell2 hcall (by first | assumption | (simp; done) | (simp [go_sem]; done) | simp [*]); clear hcall; obtain ⟨p, cc, rfl, hrd⟩ := own_read hv; clear hv))
  have HRD := Lib.hid hrd
  clear hrd
  generalize hm : zs.length = m at *
  go_loopw [8, 19] (fun s v wr => ∃ k : Nat, k ≤ m ∧ v = .int .i64 k ∧ s = .int .i64 (sumZ zs k) ∧ Below w3.heap.size w3 wr) (fun _ v _ => m - (intOf v).toNat)
  case atStart => exact ⟨0, Nat.zero_le _, rfl, rfl, Below.refl _ _⟩
  case round =>
    obtain ⟨k, hk, rfl, rfl, hb⟩ := hrel
    by_cases hlt : k < m
    · obtain ⟨g, rfl, hg, hG⟩ := HRD.out k hlt
      have hc : wr.cell? ⟨g, k, none⟩ = some (.int .i64 (zs.getD k 0)) := by have := (hG.kept hb hg) k (by omega); rwa [Nat.zero_add] at this
      have hz := HZ.out k hlt
      have hs := HS.out k (by omega)
      have HE := Lib.hid (show sumZ zs (k + 1) = sumZ zs k + zs.getD k 0 from rfl)
      clear hG
      generalize zs.getD k 0 = z at hc hz HE
      generalize sumZ zs k = s at hs HE
      go_wp2_with fail
      go_roundw
      case rel => exact ⟨k + 1, by omega, by go_num, by rw [HE.out], hb⟩
      case measure => simp [intOf]; omega
    · have hkm : k = m := by omega
      subst hkm
      have hbz := hbw.trans (hb.mono (hbw.size))
      go_wp2_with fail
      go_ret2
      exact ⟨rfl, hbz⟩

theorem sumOfAgesOn_both (ds : List Dt) (y1 d1 : Int) : ∃ r ok,
    (∀ b c w, ds.length ≤ 1048576 → b < w.heap.size → Dts w b 0 ds → Calls Try.prog 25 #[.slice (some ⟨b, 0, none⟩) ds.length c, .agg #[.int .i64 y1, .int .i64 d1]] w (RetIB r ok w)) ∧
    (∀ b c w, ds.length ≤ 1048576 → b < w.heap.size → Dts w b 0 ds → Calls Try.prog 26 #[.slice (some ⟨b, 0, none⟩) ds.length c, .agg #[.int .i64 y1, .int .i64 d1]] w (RetIB r ok w)) :=
  ⟨_, _, fun b c w _ hb h => specSumOfAgesOn_any b 0 ds.length c ds y1 d1 w rfl h hb, fun b c w _ hb h => imSumOfAgesOn_any b 0 ds.length c ds y1 d1 w rfl h hb⟩
theorem sumOnR_bounds (ds : List Dt) (o : Dt) : -30000 ≤ sumOnR ds o ∧ sumOnR ds o ≤ 30000 := by
  have h8 := agesOnR_len ds o
  have := sumZ_bounds (agesOnR_bounds ds o) _ (Nat.le_refl _)
  rw [sumZ_on] at this
  omega
theorem bornD_later {b f t : Dt} (h : bornD b f = true) (ht : dateB t = true) (hle : dys f ≤ dys t) : bornD b t = true := by
  obtain ⟨h1, h2, h3⟩ := bornD_parts h
  unfold bornD
  rw [h1, ht, decide_eq_true (show dys b ≤ dys t by omega)]; rfl
theorem allBorn_later {ds : List Dt} {f t : Dt} (h : allBorn ds f = true) (ht : dateB t = true) (hle : dys f ≤ dys t) : allBorn ds t = true :=
  allBorn_yes (allBorn_parts h).1 fun j hj => bornD_later ((allBorn_parts h).2 j hj) ht hle
theorem betA_sum (ds : List Dt) (f t : Dt) : ∀ k, betA ds f t k = sumA ds t k - sumA ds f k
  | 0 => rfl
  | k + 1 => by unfold betA sumA; rw [betA_sum ds f t k]; omega
theorem bet_yes {ds : List Dt} {f t : Dt} (h : allBorn ds f = true) (ht : dateB t = true) (hle : dys f ≤ dys t) : betR ds f t = sumOnR ds t - sumOnR ds f ∧ betB ds f t = true := by
  have hB : betB ds f t = true := by unfold betB; rw [h, ht, decide_eq_true hle]; rfl
  refine ⟨?_, hB⟩
  unfold betR sumOnR
  rw [if_pos hB, if_pos h, if_pos (allBorn_later h ht hle), betA_sum]
theorem bet_end {ds : List Dt} {f t : Dt} {w w' : World} {r : Int} {ok : Bool} (h : betR ds f t = r ∧ betB ds f t = ok) (hb : Below w.heap.size w w') :
    RetIB (betR ds f t) (betB ds f t) w (.returned (.tuple #[.int .i64 r, .bool ok])) w' := by
  rw [h.1, h.2]; exact ⟨rfl, hb⟩
theorem bet_no {ds : List Dt} {f t : Dt} (h : betB ds f t = false) : betR ds f t = 0 ∧ betB ds f t = false := ⟨betR_no h, h⟩

set_option maxHeartbeats 4000000 in
set_option maxRecDepth 100000 in
theorem imBirthdaysBetween_any (b off n c : Nat) (ds : List Dt) (y d y2 d2 : Int) (w : World) (hl : ds.length = n) (hI : Dts w b off ds) (hbl : b < w.heap.size) :
    Calls Try.prog 28 #[.slice (some ⟨b, off, none⟩) n c, .agg #[.int .i64 y, .int .i64 d], .agg #[.int .i64 y2, .int .i64 d2]] w (RetIB (betR ds (y, d) (y2, d2)) (betB ds (y, d) (y2, d2)) w) := by
  have HW0 := Lib.hid (((Below.refl w.heap.size w).alloc (Nat.le_refl _) (.cells #[.int .i64 y, .int .i64 d] 34)).alloc (by simp) (.cells #[.int .i64 y2, .int .i64 d2] 34))
  have hI2 : ∀ A A', Dts ((w.alloc A).alloc A') b off ds := fun A A' => hI.kept (((Below.refl w.heap.size w).alloc (Nat.le_refl _) A).alloc (by simp) A') hbl
  have hbl2 : ∀ A A', b < ((w.alloc A).alloc A').heap.size := fun A A' => by simp <;> omega
  have HS0 := fun (W : World) (h : Dts W b off ds) (h2 : b < W.heap.size) => imSumOfAgesOn_any b off n c ds y d W hl h h2
  have HT0 := fun (W : World) (h : Dts W b off ds) (h2 : b < W.heap.size) => imSumOfAgesOn_any b off n c ds y2 d2 W hl h h2
  have hs := sumOnR_bounds ds (y, d)
  have ht := sumOnR_bounds ds (y2, d2)
  clear hl
  cases h1 : allBorn ds (y, d) with
  | false =>
    have HE := Lib.hid (bet_no (show betB ds (y, d) (y2, d2) = false by unfold betB; rw [h1]; rfl))
    rw [h1] at HS0
    have HS := Lib.hid HS0
    clear HS0 HT0 h1 ht
    generalize sumOnR ds (y, d) = s at HS hs
    go_enter Try.func28, Try.ntmps28
    go_wp2_with (first | (go_at_call_of 26 (Value.int IntKind.i64 y); refine (HS.out _ (by first | exact hI2 _ _ | exact hI.kept (by assumption) hbl) (by first | exact hbl2 _ _ | (have := Below.size ‹Below w.heap.size w _›; omega))).mono ?_; rintro e w' ⟨rfl, hcall⟩; have hbw : Below w.heap.size w w' := (by first | exact Below.trans (by assumption) (Below.mono hcall (Below.size (by assumption))) | exact Below.trans (Below.drew (by assumption)) (Below.mono hcall (Below.size (Below.drew (by assumption)))) | exact HW0.out.trans (hcall.mono (by simp <;> omega)) | exact HW0.out.drew.trans (hcall.mono (by simp <;> omega))); have q1 : w'.cell? ⟨w.heap.size, 0, none⟩ = some (.int .i64 y) := below_cell2 hcall (by first | assumption | (simp; done) | (simp [go_sem]; done) | simp [*]); have q2 : w'.cell? ⟨w.heap.size, 1, none⟩ = some (.int .i64 d) := below_cell2 hcall (by first | assumption | (simp; done) | (simp [go_sem]; done) | simp [*]); have q3 : w'.cell? ⟨w.heap.size + 1, 0, none⟩ = some (.int .i64 y2) := below_cell2 hcall (by first | assumption | (simp; done) | (simp [go_sem]; done) | simp [*]); have q4 : w'.cell? ⟨w.heap.size + 1, 1, none⟩ = some (.int .i64 d2) := below_cell2 hcall (by first | assumption | (simp; done) | (simp [go_sem]; done) | simp [*]); clear hcall))
    go_ret2
    exact bet_end HE.out hbw
  | true =>
  have hd1 := allBorn_date h1
  cases h2 : dateB (y2, d2) with
  | false =>
    have HE := Lib.hid (bet_no (show betB ds (y, d) (y2, d2) = false by unfold betB; rw [h1, h2]; rfl))
    rw [h1] at HS0
    have HS := Lib.hid HS0
    have HD := Lib.hid (fun w => (show Calls Try.prog 47 #[.agg #[.int .i64 y2, .int .i64 d2]] w (Ret (.bool false) w) from by rw [← h2]; exact imIsDate_any y2 d2 w))
    clear HS0 HT0 h1 ht h2 hd1
    generalize sumOnR ds (y, d) = s at HS hs
    go_enter Try.func28, Try.ntmps28
    go_wp2_with (first | (go_at_call_of 26 (Value.int IntKind.i64 y); refine (HS.out _ (by first | exact hI2 _ _ | exact hI.kept (by assumption) hbl) (by first | exact hbl2 _ _ | (have := Below.size ‹Below w.heap.size w _›; omega))).mono ?_; rintro e w' ⟨rfl, hcall⟩; have hbw : Below w.heap.size w w' := (by first | exact Below.trans (by assumption) (Below.mono hcall (Below.size (by assumption))) | exact Below.trans (Below.drew (by assumption)) (Below.mono hcall (Below.size (Below.drew (by assumption)))) | exact HW0.out.trans (hcall.mono (by simp <;> omega)) | exact HW0.out.drew.trans (hcall.mono (by simp <;> omega))); have q1 : w'.cell? ⟨w.heap.size, 0, none⟩ = some (.int .i64 y) := below_cell2 hcall (by first | assumption | (simp; done) | (simp [go_sem]; done) | simp [*]); have q2 : w'.cell? ⟨w.heap.size, 1, none⟩ = some (.int .i64 d) := below_cell2 hcall (by first | assumption | (simp; done) | (simp [go_sem]; done) | simp [*]); have q3 : w'.cell? ⟨w.heap.size + 1, 0, none⟩ = some (.int .i64 y2) := below_cell2 hcall (by first | assumption | (simp; done) | (simp [go_sem]; done) | simp [*]); have q4 : w'.cell? ⟨w.heap.size + 1, 1, none⟩ = some (.int .i64 d2) := below_cell2 hcall (by first | assumption | (simp; done) | (simp [go_sem]; done) | simp [*]); clear hcall) | (go_at_call 47; refine (HD.out _).mono ?_; rintro e w' ⟨rfl, hcall⟩; have hbw : Below w.heap.size w w' := (by first | exact Below.trans (by assumption) (Below.mono hcall (Below.size (by assumption))) | exact Below.trans (Below.drew (by assumption)) (Below.mono hcall (Below.size (Below.drew (by assumption)))) | exact HW0.out.trans (hcall.mono (by simp <;> omega)) | exact HW0.out.drew.trans (hcall.mono (by simp <;> omega))); have q1 : w'.cell? ⟨w.heap.size, 0, none⟩ = some (.int .i64 y) := below_cell2 hcall (by first | assumption | (simp; done) | (simp [go_sem]; done) | simp [*]); have q2 : w'.cell? ⟨w.heap.size, 1, none⟩ = some (.int .i64 d) := below_cell2 hcall (by first | assumption | (simp; done) | (simp [go_sem]; done) | simp [*]); have q3 : w'.cell? ⟨w.heap.size + 1, 0, none⟩ = some (.int .i64 y2) := below_cell2 hcall (by first | assumption | (simp; done) | (simp [go_sem]; done) | simp [*]); have q4 : w'.cell? ⟨w.heap.size + 1, 1, none⟩ = some (.int .i64 d2) := below_cell2 hcall (by first | assumption | (simp; done) | (simp [go_sem]; done) | simp [*]); clear hcall))
    go_ret2
    exact bet_end HE.out hbw
  | true =>
  have hm1 := mid_date hd1
  have hm2 := mid_date h2
  have HC := Lib.hid (fun w => imCompare_any y2 d2 y d w hm2.1 hm2.2 hm1.1 hm1.2)
  have HD := Lib.hid (fun w => (show Calls Try.prog 47 #[.agg #[.int .i64 y2, .int .i64 d2]] w (Ret (.bool true) w) from by rw [← h2]; exact imIsDate_any y2 d2 w))
  by_cases hlt : dys (y, d) ≤ dys (y2, d2)
  · have HE := Lib.hid (bet_yes h1 h2 hlt)
    rw [h1] at HS0
    rw [allBorn_later h1 h2 hlt] at HT0
    have HS := Lib.hid HS0
    have HT := Lib.hid HT0
    have hq : ¬ (dys (y2, d2) - dys (y, d) < 0) := by omega
    clear HS0 HT0 h1 h2 hlt hd1 hm1 hm2
    generalize dys (y2, d2) - dys (y, d) = q at HC hq
    generalize sumOnR ds (y, d) = s at HS hs HE
    generalize sumOnR ds (y2, d2) = r at HT ht HE
    have k1 : IntKind.i64.wrap (r - s) = r - s := IntWalk.i64_in _ (by omega)
    go_enter Try.func28, Try.ntmps28
    go_wp2_with (first | (go_at_call_of 26 (Value.int IntKind.i64 y); refine (HS.out _ (by first | exact hI2 _ _ | exact hI.kept (by assumption) hbl) (by first | exact hbl2 _ _ | (have := Below.size ‹Below w.heap.size w _›; omega))).mono ?_; rintro e w' ⟨rfl, hcall⟩; have hbw : Below w.heap.size w w' := (by first | exact Below.trans (by assumption) (Below.mono hcall (Below.size (by assumption))) | exact Below.trans (Below.drew (by assumption)) (Below.mono hcall (Below.size (Below.drew (by assumption)))) | exact HW0.out.trans (hcall.mono (by simp <;> omega)) | exact HW0.out.drew.trans (hcall.mono (by simp <;> omega))); have q1 : w'.cell? ⟨w.heap.size, 0, none⟩ = some (.int .i64 y) := below_cell2 hcall (by first | assumption | (simp; done) | (simp [go_sem]; done) | simp [*]); have q2 : w'.cell? ⟨w.heap.size, 1, none⟩ = some (.int .i64 d) := below_cell2 hcall (by first | assumption | (simp; done) | (simp [go_sem]; done) | simp [*]); have q3 : w'.cell? ⟨w.heap.size + 1, 0, none⟩ = some (.int .i64 y2) := below_cell2 hcall (by first | assumption | (simp; done) | (simp [go_sem]; done) | simp [*]); have q4 : w'.cell? ⟨w.heap.size + 1, 1, none⟩ = some (.int .i64 d2) := below_cell2 hcall (by first | assumption | (simp; done) | (simp [go_sem]; done) | simp [*]); clear hcall) | (go_at_call_of 26 (Value.int IntKind.i64 y2); refine (HT.out _ (by first | exact hI2 _ _ | exact hI.kept (by assumption) hbl) (by first | exact hbl2 _ _ | (have := Below.size ‹Below w.heap.size w _›; omega))).mono ?_; rintro e w' ⟨rfl, hcall⟩; have hbw : Below w.heap.size w w' := (by first | exact Below.trans (by assumption) (Below.mono hcall (Below.size (by assumption))) | exact Below.trans (Below.drew (by assumption)) (Below.mono hcall (Below.size (Below.drew (by assumption)))) | exact HW0.out.trans (hcall.mono (by simp <;> omega)) | exact HW0.out.drew.trans (hcall.mono (by simp <;> omega))); have q1 : w'.cell? ⟨w.heap.size, 0, none⟩ = some (.int .i64 y) := below_cell2 hcall (by first | assumption | (simp; done) | (simp [go_sem]; done) | simp [*]); have q2 : w'.cell? ⟨w.heap.size, 1, none⟩ = some (.int .i64 d) := below_cell2 hcall (by first | assumption | (simp; done) | (simp [go_sem]; done) | simp [*]); have q3 : w'.cell? ⟨w.heap.size + 1, 0, none⟩ = some (.int .i64 y2) := below_cell2 hcall (by first | assumption | (simp; done) | (simp [go_sem]; done) | simp [*]); have q4 : w'.cell? ⟨w.heap.size + 1, 1, none⟩ = some (.int .i64 d2) := below_cell2 hcall (by first | assumption | (simp; done) | (simp [go_sem]; done) | simp [*]); clear hcall) | (go_at_call 47; refine (HD.out _).mono ?_; rintro e w' ⟨rfl, hcall⟩; have hbw : Below w.heap.size w w' := (by first | exact Below.trans (by assumption) (Below.mono hcall (Below.size (by assumption))) | exact Below.trans (Below.drew (by assumption)) (Below.mono hcall (Below.size (Below.drew (by assumption)))) | exact HW0.out.trans (hcall.mono (by simp <;> omega)) | exact HW0.out.drew.trans (hcall.mono (by simp <;> omega))); have q1 : w'.cell? ⟨w.heap.size, 0, none⟩ = some (.int .i64 y) := below_cell2 hcall (by first | assumption | (simp; done) | (simp [go_sem]; done) | simp [*]); have q2 : w'.cell? ⟨w.heap.size, 1, none⟩ = some (.int .i64 d) := below_cell2 hcall (by first | assumption | (simp; done) | (simp [go_sem]; done) | simp [*]); have q3 : w'.cell? ⟨w.heap.size + 1, 0, none⟩ = some (.int .i64 y2) := below_cell2 hcall (by first | assumption | (simp; done) | (simp [go_sem]; done) | simp [*]); have q4 : w'.cell? ⟨w.heap.size + 1, 1, none⟩ = some (.int .i64 d2) := below_cell2 hcall (by first | assumption | (simp; done) | (simp [go_sem]; done) | simp [*]); clear hcall) | (go_at_call 54; refine (HC.out _).mono ?_; rintro e w' ⟨rfl, hcall⟩; have hbw : Below w.heap.size w w' := (by first | exact Below.trans (by assumption) (Below.mono hcall (Below.size (by assumption))) | exact Below.trans (Below.drew (by assumption)) (Below.mono hcall (Below.size (Below.drew (by assumption)))) | exact HW0.out.trans (hcall.mono (by simp <;> omega)) | exact HW0.out.drew.trans (hcall.mono (by simp <;> omega))); have q1 : w'.cell? ⟨w.heap.size, 0, none⟩ = some (.int .i64 y) := below_cell2 hcall (by first | assumption | (simp; done) | (simp [go_sem]; done) | simp [*]); have q2 : w'.cell? ⟨w.heap.size, 1, none⟩ = some (.int .i64 d) := below_cell2 hcall (by first | assumption | (simp; done) | (simp [go_sem]; done) | simp [*]); have q3 : w'.cell? ⟨w.heap.size + 1, 0, none⟩ = some (.int .i64 y2) := below_cell2 hcall (by first | assumption | (simp; done) | (simp [go_sem]; done) | simp [*]); have q4 : w'.cell? ⟨w.heap.size + 1, 1, none⟩ = some (.int .i64 d2) := below_cell2 hcall (by first | assumption | (simp; done) | (simp [go_sem]; done) | simp [*]); clear hcall))
    go_ret2
    exact bet_end HE.out hbw
  · have HE := Lib.hid (bet_no (show betB ds (y, d) (y2, d2) = false by unfold betB; rw [h1, h2, decide_eq_false hlt]; rfl))
    rw [h1] at HS0
    have HS := Lib.hid HS0
    have hq : dys (y2, d2) - dys (y, d) < 0 := by omega
    clear HS0 HT0 h1 h2 hlt hd1 hm1 hm2 ht
    generalize dys (y2, d2) - dys (y, d) = q at HC hq
    generalize sumOnR ds (y, d) = s at HS hs
    go_enter Try.func28, Try.ntmps28
    go_wp2_with (first | (go_at_call_of 26 (Value.int IntKind.i64 y); refine (HS.out _ (by first | exact hI2 _ _ | exact hI.kept (by assumption) hbl) (by first | exact hbl2 _ _ | (have := Below.size ‹Below w.heap.size w _›; omega))).mono ?_; rintro e w' ⟨rfl, hcall⟩; have hbw : Below w.heap.size w w' := (by first | exact Below.trans (by assumption) (Below.mono hcall (Below.size (by assumption))) | exact Below.trans (Below.drew (by assumption)) (Below.mono hcall (Below.size (Below.drew (by assumption)))) | exact HW0.out.trans (hcall.mono (by simp <;> omega)) | exact HW0.out.drew.trans (hcall.mono (by simp <;> omega))); have q1 : w'.cell? ⟨w.heap.size, 0, none⟩ = some (.int .i64 y) := below_cell2 hcall (by first | assumption | (simp; done) | (simp [go_sem]; done) | simp [*]); have q2 : w'.cell? ⟨w.heap.size, 1, none⟩ = some (.int .i64 d) := below_cell2 hcall (by first | assumption | (simp; done) | (simp [go_sem]; done) | simp [*]); have q3 : w'.cell? ⟨w.heap.size + 1, 0, none⟩ = some (.int .i64 y2) := below_cell2 hcall (by first | assumption | (simp; done) | (simp [go_sem]; done) | simp [*]); have q4 : w'.cell? ⟨w.heap.size + 1, 1, none⟩ = some (.int .i64 d2) := below_cell2 hcall (by first | assumption | (simp; done) | (simp [go_sem]; done) | simp [*]); clear hcall) | (go_at_call 47; refine (HD.out _).mono ?_; rintro e w' ⟨rfl, hcall⟩; have hbw : Below w.heap.size w w' := (by first | exact Below.trans (by assumption) (Below.mono hcall (Below.size (by assumption))) | exact Below.trans (Below.drew (by assumption)) (Below.mono hcall (Below.size (Below.drew (by assumption)))) | exact HW0.out.trans (hcall.mono (by simp <;> omega)) | exact HW0.out.drew.trans (hcall.mono (by simp <;> omega))); have q1 : w'.cell? ⟨w.heap.size, 0, none⟩ = some (.int .i64 y) := below_cell2 hcall (by first | assumption | (simp; done) | (simp [go_sem]; done) | simp [*]); have q2 : w'.cell? ⟨w.heap.size, 1, none⟩ = some (.int .i64 d) := below_cell2 hcall (by first | assumption | (simp; done) | (simp [go_sem]; done) | simp [*]); have q3 : w'.cell? ⟨w.heap.size + 1, 0, none⟩ = some (.int .i64 y2) := below_cell2 hcall (by first | assumption | (simp; done) | (simp [go_sem]; done) | simp [*]); have q4 : w'.cell? ⟨w.heap.size + 1, 1, none⟩ = some (.int .i64 d2) := below_cell2 hcall (by first | assumption | (simp; done) | (simp [go_sem]; done) | simp [*]); clear hcall) | (go_at_call 54; refine (HC.out _).mono ?_; rintro e w' ⟨rfl, hcall⟩; have hbw : Below w.heap.size w w' := (by first | exact Below.trans (by assumption) (Below.mono hcall (Below.size (by assumption))) | exact Below.trans (Below.drew (by assumption)) (Below.mono hcall (Below.size (Below.drew (by assumption)))) | exact HW0.out.trans (hcall.mono (by simp <;> omega)) | exact HW0.out.drew.trans (hcall.mono (by simp <;> omega))); have q1 : w'.cell? ⟨w.heap.size, 0, none⟩ = some (.int .i64 y) := below_cell2 hcall (by first | assumption | (simp; done) | (simp [go_sem]; done) | simp [*]); have q2 : w'.cell? ⟨w.heap.size, 1, none⟩ = some (.int .i64 d) := below_cell2 hcall (by first | assumption | (simp; done) | (simp [go_sem]; done) | simp [*]); have q3 : w'.cell? ⟨w.heap.size + 1, 0, none⟩ = some (.int .i64 y2) := below_cell2 hcall (by first | assumption | (simp; done) | (simp [go_sem]; done) | simp [*]); have q4 : w'.cell? ⟨w.heap.size + 1, 1, none⟩ = some (.int .i64 d2) := below_cell2 hcall (by first | assumption | (simp; done) | (simp [go_sem]; done) | simp [*]); clear hcall))
    go_ret2
    exact bet_end HE.out hbw

theorem birthdaysBetween_both (ds : List Dt) (y1 d1 y2 d2 : Int) : ∃ r ok,
    (∀ b c w, ds.length ≤ 1048576 → b < w.heap.size → Dts w b 0 ds → Calls Try.prog 27 #[.slice (some ⟨b, 0, none⟩) ds.length c, .agg #[.int .i64 y1, .int .i64 d1], .agg #[.int .i64 y2, .int .i64 d2]] w (RetIB r ok w)) ∧
    (∀ b c w, ds.length ≤ 1048576 → b < w.heap.size → Dts w b 0 ds → Calls Try.prog 28 #[.slice (some ⟨b, 0, none⟩) ds.length c, .agg #[.int .i64 y1, .int .i64 d1], .agg #[.int .i64 y2, .int .i64 d2]] w (RetIB r ok w)) :=
  ⟨_, _, fun b c w _ hb h => specBirthdaysBetween_any b 0 ds.length c ds y1 d1 y2 d2 w rfl h hb, fun b c w _ hb h => imBirthdaysBetween_any b 0 ds.length c ds y1 d1 y2 d2 w rfl h hb⟩
end Go.Proofs.Ytbhceokapbnhhaa
