/- The ages of all and their sum, of the program. -/
import Derived.Test.YtbhceokapbnhhaaIb1
set_option linter.unusedVariables false
set_option linter.unusedSimpArgs false
namespace Go.Proofs.Ytbhceokapbnhhaa
open Go.RowKit

/-- The ages of all on a date, born or not. -/
def ageL (ds : List Dt) (o : Dt) : List Int := ds.map fun b => ageD b o
theorem ageL_len (ds : List Dt) (o : Dt) : (ageL ds o).length = ds.length := by simp [ageL]
theorem ageL_at (ds : List Dt) (o : Dt) (k : Nat) (hk : k < ds.length) : (ageL ds o).getD k 0 = ageD (at2 ds k) o := by
  simp [ageL, at2, List.getElem?_eq_getElem hk]
theorem agesOnR_yes {ds : List Dt} {o : Dt} (h : allBorn ds o = true) : agesOnR ds o = ageL ds o := by
  unfold agesOnR agesTo ageL; rw [h, List.take_length]; rfl
theorem agesOnR_no {ds : List Dt} {o : Dt} (h : allBorn ds o = false) : agesOnR ds o = [] := by unfold agesOnR; rw [h]; rfl
theorem allBorn_no1 {ds : List Dt} {o : Dt} (h : birthsB ds = false) : allBorn ds o = false := by unfold allBorn; rw [h]; rfl
theorem allBorn_no2 {ds : List Dt} {o : Dt} (k : Nat) (hk : k < ds.length) (h : bornD (at2 ds k) o = false) : allBorn ds o = false := by
  unfold allBorn; rw [all_not (t := fun b => bornD b o) k hk h, Bool.and_false]
theorem allBorn_yes {ds : List Dt} {o : Dt} (hg : birthsB ds = true) (h : ∀ j, j < ds.length → bornD (at2 ds j) o = true) : allBorn ds o = true := by
  unfold allBorn; rw [hg, (all_at (t := fun b => bornD b o)).2 h]; rfl
theorem ageOnR_yes {b o : Dt} (h : bornD b o = true) : ageOnR b o = ageD b o := by unfold ageOnR; rw [h]; rfl
theorem ages_end {ds : List Dt} {o : Dt} {w w' : World} {v : Value} {zs : List Int} {t : Bool} (hB : allBorn ds o = t) (hL : agesOnR ds o = zs) (hv : Own w.heap.size w' v zs) (hb : Below w.heap.size w w') :
    RetOwnB (agesOnR ds o) (allBorn ds o) w (.returned (.tuple #[v, .bool t])) w' := by
  rw [hB, hL]; exact ⟨v, rfl, hv, hb⟩
theorem own_of_filled {B : Nat} {w : World} {g n c : Nat} {xs : List Int} (hl : xs.length = n) (h : w.ownsRow B 3 1 (.slice (some ⟨g, 0, none⟩) n c) n (fill xs n n)) : Own B w (.slice (some ⟨g, 0, none⟩) n c) xs := by
  rw [fill_all xs n hl] at h
  unfold Own
  rw [hl]
  exact h
set_option maxHeartbeats 4000000 in
set_option maxRecDepth 100000 in
theorem imAgesOn_any (b off n c : Nat) (ds : List Dt) (y d : Int) (w : World) (hl : ds.length = n) (hI : Dts w b off ds) (hbl : b < w.heap.size) :
    Calls Try.prog 20 #[.slice (some ⟨b, off, none⟩) n c, .agg #[.int .i64 y, .int .i64 d]] w (RetOwnB (agesOnR ds (y, d)) (allBorn ds (y, d)) w) := by
  obtain ⟨i0, hi, hz0, hz1, hz2⟩ := info_parts infoInt
  have HW0 := Lib.hid ((Below.refl w.heap.size w).alloc (Nat.le_refl _) (.cells #[.int .i64 y, .int .i64 d] 34))
  have HB0 := fun (W : World) (h : Dts W b off ds) (h2 : b < W.heap.size) => imBirths_any b off n c ds W hl h h2
  have hI1 : ∀ A, Dts (w.alloc A) b off ds := fun A => hI.kept ((Below.refl w.heap.size w).alloc (Nat.le_refl _) A) hbl
  have hbl1 : ∀ A, b < (w.alloc A).heap.size := fun A => by simp <;> omega
  have HL := Lib.hid hl
  cases h : birthsB ds with
  | false =>
    rw [h] at HB0
    rw [allBorn_no1 h, agesOnR_no (allBorn_no1 h)]
    have HB := Lib.hid HB0
    clear HB0 h hl
    go_enter Try.func20, Try.ntmps20
    go_wp2_with (first | (go_at_call 16; refine (HB.out _ (by first | exact hI1 _ | exact hI.kept (by assumption) hbl) (by first | exact hbl1 _ | (have := Below.size ‹Below w.heap.size w _›; omega))).mono ?_; rintro e w' ⟨rfl, hcall⟩; have hbw : Below w.heap.size w w' := (by first | exact Below.trans (by assumption) (Below.mono hcall (Below.size (by assumption))) | exact Below.trans (Below.drew (by assumption)) (Below.mono hcall (Below.size (Below.drew (by assumption)))) | exact HW0.out.trans (hcall.mono (by simp <;> omega)) | exact HW0.out.drew.trans (hcall.mono (by simp <;> omega))); have q1 : w'.cell? ⟨w.heap.size, 0, none⟩ = some (.int .i64 y) := below_cell2 hcall (by first | assumption | (simp; done) | (simp [go_sem]; done) | simp [*]); have q2 : w'.cell? ⟨w.heap.size, 1, none⟩ = some (.int .i64 d) := below_cell2 hcall (by first | assumption | (simp; done) | (simp [go_sem]; done) | simp [*]); clear hcall))
    go_ret2
    exact ⟨_, rfl, own_nil _ _, hbw⟩
  | true =>
    have h8 := birthsB_len h
    rw [hl] at h8
    have HG := Lib.hid h
    have HK0 := Lib.hid (fun (j : Nat) (W : World) => imAgeOn_any (at2 ds j).1 (at2 ds j).2 y d W)
    rw [h] at HB0
    have HB := Lib.hid HB0
    clear HB0 h hl
    go_enter Try.func20, Try.ntmps20
    go_wp2_with (first | (go_at_call 16; refine (HB.out _ (by first | exact hI1 _ | exact hI.kept (by assumption) hbl) (by first | exact hbl1 _ | (have := Below.size ‹Below w.heap.size w _›; omega))).mono ?_; rintro e w3 ⟨rfl, hcall⟩; have hbw : Below w.heap.size w w3 := (by first | exact Below.trans (by assumption) (Below.mono hcall (Below.size (by assumption))) | exact Below.trans (Below.drew (by assumption)) (Below.mono hcall (Below.size (Below.drew (by assumption)))) | exact HW0.out.trans (hcall.mono (by simp <;> omega)) | exact HW0.out.drew.trans (hcall.mono (by simp <;> omega))); have q1 : w3.cell? ⟨w.heap.size, 0, none⟩ = some (.int .i64 y) := below_cell2 hcall (by first | assumption | (simp; done) | (simp [go_sem]; done) | simp [*]); have q2 : w3.cell? ⟨w.heap.size, 1, none⟩ = some (.int .i64 d) := below_cell2 hcall (by first | assumption | (simp; done) | (simp [go_sem]; done) | simp [*]); clear hcall) | (at_make; refine wpList_make_full _ rfl _ _ 31 rfl w3.heap.size 3 i0 (.int .i64 0) 1 Try.underlying31 hi hz0 hz1 .i64 .i64 n n n rfl rfl rfl rfl ?c1 ?c2 ?c3 ?_))
    case c1 => rw [hz2]; omega
    case c2 => unfold maxLen; omega
    case c3 => exact Nat.le_refl _
    intro w4 hown hg4
    have hlt3 : w.heap.size < w3.heap.size := World.block_lt_of_cell? _ _ q1
    have hb4 : Below w3.heap.size w3 w4 := (Below.refl w3.heap.size w3).grown hg4 (Nat.le_refl _) (by simp)
    have r1 := below_cell2 hb4 q1
    have r2 := below_cell2 hb4 q2
    have hbw4 := hbw.trans (hb4.mono (Nat.le_of_lt hlt3))
    have hsz4 := hb4.size
    clear hg4 q1 q2
    generalize hRe : w3.heap.size = R at *
    go_wp2_with fail
    go_loopw [19] (fun v wr => ∃ k : Nat, k ≤ n ∧ v = .int .i64 k ∧ wr.ownsRow R 3 1 (.slice (some ⟨R, 0, none⟩) n n) n (fill (ageL ds (y, d)) k n) ∧ Hid (∀ j, j < k → bornD (at2 ds j) (y, d) = true) ∧ Below R w4 wr ∧ wr.cell? ⟨w.heap.size, 0, none⟩ = some (.int .i64 y) ∧ wr.cell? ⟨w.heap.size, 1, none⟩ = some (.int .i64 d)) (fun v _ => n - (intOf v).toNat)
    case atStart => exact ⟨0, Nat.zero_le _, rfl, by rw [← fill_zero]; simpa using hown, Lib.hid (fun j hj => absurd hj (by omega)), Below.refl _ _, r1, r2⟩
    case round =>
      obtain ⟨k, hk, rfl, hr, HA, hb, q1, q2⟩ := hrel
      have hsz := hb.size
      have hbz := hbw4.trans (hb.mono (Nat.le_of_lt hlt3))
      have v1 := cell_above q1
      have v2 := cell_above q2
      have hll : (ageL ds (y, d)).length = n := by rw [ageL_len]; exact HL.out
      by_cases hlt : k < n
      · obtain ⟨p1, p2⟩ := (hI.kept hbz hbl) k (by rw [HL.out]; exact hlt)
        have HAT := Lib.hid (ageL_at ds (y, d) k (by rw [HL.out]; exact hlt))
        have hK0 := HK0.out k
        cases hz : bornD (at2 ds k) (y, d) with
        | true =>
          have HZ := Lib.hid hz
          obtain ⟨u, hu⟩ := fill_some (ageL ds (y, d)) k n hll hlt
          have hc3 := (World.ownsRow.cellAt hr k (by omega)).trans hu
          have hf3 := World.ownsRow.frozenAt hr k
          have hRlt : R < wr.heap.size := (World.ownsRow.lt hr R rfl).2
          rw [← pair_eta ds k, hz, ageOnR_yes hz] at hK0
          have HK' := Lib.hid hK0
          clear hK0 hz hu
          generalize ageD (at2 ds k) (y, d) = a at HK' HAT
          generalize (at2 ds k).1 = ye at p1 HK'
          generalize (at2 ds k).2 = de at p2 HK'
          go_wp2_with (go_at_call 50; refine (HK'.out _).mono ?_; rintro e w2 ⟨rfl, hcall⟩; have hb2 := ((Below.refl wr.heap.size wr).alloc (Nat.le_refl _) _).trans (hcall.mono (by simp)); have hr2 := World.ownsRow.kept hr (below_grown hb2 none) (.inr (by simp [Value.ownBlock])); have hb3 := hb.trans (hb2.mono (by omega)); have q1' := below_cell2 hb2 q1; have q2' := below_cell2 hb2 q2; have hc4 := below_cell2 hb2 hc3; have hf4 : w2.frozen? ⟨R, k, none⟩ = false := (hb2.frozen (p := ⟨R, k, none⟩) hRlt).trans (by simpa using hf3); have HS := World.ownsRow.stored hr2 k (.int .i64 a); clear hcall)
          rw [fill_stepAt (ageL ds (y, d)) k n a hll hlt HAT.out] at HS
          go_roundw
          case rel => exact ⟨k + 1, by omega, by go_num, HS.1, Lib.hid (fun j hj => by rcases Nat.lt_succ_iff_lt_or_eq.1 hj with h | rfl; exact HA.out j h; exact HZ.out), hb3.setCell (Nat.le_refl _) _, by rw [World.cell?_setCell_other _ _ _ _ (by simp <;> omega)]; exact q1', by rw [World.cell?_setCell_other _ _ _ _ (by simp <;> omega)]; exact q2'⟩
          case measure => simp [intOf]; omega
        | false =>
          have HN := Lib.hid (allBorn_no2 (o := (y, d)) k (by rw [HL.out]; exact hlt) hz)
          rw [← pair_eta ds k, hz] at hK0
          have HK' := Lib.hid hK0
          clear hK0 hz
          generalize ageOnR (at2 ds k) (y, d) = a at HK'
          generalize (at2 ds k).1 = ye at p1 HK'
          generalize (at2 ds k).2 = de at p2 HK'
          go_wp2_with (go_at_call 50; refine (HK'.out _).mono ?_; rintro e w2 ⟨rfl, hcall⟩; have hbz2 := (hbz.alloc hbz.size _).trans (hcall.mono (by have := hbz.size; simp <;> omega)); clear hcall)
          go_ret2
          exact ages_end HN.out (agesOnR_no HN.out) (own_nil _ _) hbz2
      · have hkn : k = n := by omega
        subst hkn
        have hal := allBorn_yes HG.out (o := (y, d)) (fun j hj => HA.out j (by rw [HL.out] at hj; exact hj))
        have HE := Lib.hid hal
        clear hal
        have ho1 := (own_of_filled hll hr).mono (Nat.le_of_lt hlt3)
        go_wp2_with fail
        go_ret2
        exact ages_end HE.out (agesOnR_yes HE.out) ho1 hbz

theorem agesOn_both (ds : List Dt) (y1 d1 : Int) : ∃ rs ok, rs.length ≤ 1048576 ∧
    (∀ b c w, ds.length ≤ 1048576 → b < w.heap.size → Dts w b 0 ds → Calls Try.prog 18 #[.slice (some ⟨b, 0, none⟩) ds.length c, .agg #[.int .i64 y1, .int .i64 d1]] w (RetOwnB rs ok w)) ∧
    (∀ b c w, ds.length ≤ 1048576 → b < w.heap.size → Dts w b 0 ds → Calls Try.prog 20 #[.slice (some ⟨b, 0, none⟩) ds.length c, .agg #[.int .i64 y1, .int .i64 d1]] w (RetOwnB rs ok w)) :=
  ⟨_, _, by have := agesOnR_len ds (y1, d1); omega, fun b c w _ hb h => specAgesOn_any b 0 ds.length c ds y1 d1 w rfl h hb, fun b c w _ hb h => imAgesOn_any b 0 ds.length c ds y1 d1 w rfl h hb⟩

end Go.Proofs.Ytbhceokapbnhhaa
