/- Days on which two are of one age: the count over parts of a year, of the program. -/
import Derived.Test.YtbhceokapbnhhaaDa1
set_option linter.unusedVariables false
set_option linter.unusedSimpArgs false
namespace Go.Proofs.Ytbhceokapbnhhaa
open Go.RowKit

/-- The days that the first k parts count. -/
def cntN (a b : Dt) (yr : Int) (lo hi : Nat → Nat) : Nat → Int
  | 0 => 0
  | k + 1 => cntN a b yr lo hi k + partN a b yr (lo k) (hi k)
theorem cntN_bounds (a b : Dt) (yr : Int) (lo hi : Nat → Nat) (h : ∀ k, hi k ≤ 365) : ∀ k, 0 ≤ cntN a b yr lo hi k ∧ cntN a b yr lo hi k ≤ 365 * (k : Int)
  | 0 => by simp [cntN]
  | k + 1 => by
    have h1 := cntN_bounds a b yr lo hi h k
    have h2 := partN_bounds a b yr (lo k) (hi k)
    have h3 := h k
    unfold cntN
    omega
/-- What the count reads: the two births, the days, the parts. -/
structure Reads (w : World) (ga gb gd gp : Nat) (y d y2 d2 yr : Int) (lo hi cp ad : Nat → Nat) : Prop where
  a0 : w.cell? ⟨ga, 0, none⟩ = some (.int .i64 y)
  a1 : w.cell? ⟨ga, 1, none⟩ = some (.int .i64 d)
  b0 : w.cell? ⟨gb, 0, none⟩ = some (.int .i64 y2)
  b1 : w.cell? ⟨gb, 1, none⟩ = some (.int .i64 d2)
  dd : Dts w gd 0 (dayL yr)
  pp : ∀ k, k < 3 → w.cell? ⟨gp, k, none⟩ = some (.slice (some ⟨gd, ad k, none⟩) (hi k - lo k) (cp k))
theorem Reads.day {w : World} {ga gb gd gp : Nat} {y d y2 d2 yr : Int} {lo hi cp ad : Nat → Nat} (h : Reads w ga gb gd gp y d y2 d2 yr lo hi cp ad) (l : Nat) (hl : l < 365) :
    w.cell? ⟨gd, l * 2, none⟩ = some (.int .i64 yr) ∧ w.cell? ⟨gd, l * 2 + 1, none⟩ = some (.int .i64 ((l : Int) + 1)) := by
  have := h.dd l (by rw [dayL_len]; exact hl)
  rw [dayL_at yr l hl, Nat.zero_add] at this
  exact this
theorem Reads.kept {w w' : World} {ga gb gd gp : Nat} {y d y2 d2 yr : Int} {lo hi cp ad : Nat → Nat} (h : Reads w ga gb gd gp y d y2 d2 yr lo hi cp ad) (hb : Below w.heap.size w w') : Reads w' ga gb gd gp y d y2 d2 yr lo hi cp ad where
  a0 := below_cell2 hb h.a0
  a1 := below_cell2 hb h.a1
  b0 := below_cell2 hb h.b0
  b1 := below_cell2 hb h.b1
  dd := h.dd.kept hb (World.block_lt_of_cell? _ _ (h.day 0 (by omega)).1)
  pp := fun k hk => below_cell2 hb (h.pp k hk)
theorem below_drewsN {a w : World} (h : Below a.heap.size a w) (n : Nat) : Below a.heap.size a (w.drewN n) := ⟨h.os, h.tape, h.output, h.size, h.block⟩
set_option maxHeartbeats 8000000 in
set_option maxRecDepth 100000 in
theorem imCountAlike_any (ga gb gd gp : Nat) (y d y2 d2 yr : Int) (lo hi cp ad : Nat → Nat) (w : World) (h1 : dateB (y, d) = true) (h2 : dateB (y2, d2) = true) (h3 : 0 ≤ yr ∧ yr ≤ 3000) (h4 : y < yr) (h5 : y2 < yr)
    (hlh : ∀ k, k < 3 → lo k ≤ hi k ∧ hi k ≤ 365) (hhi : ∀ k, hi k ≤ 365) (had : ∀ k, k < 3 → 0 < hi k - lo k → ad k = lo k * 2) (R : Reads w ga gb gd gp y d y2 d2 yr lo hi cp ad) :
    Calls Try.prog 72 #[.slice (some ⟨gp, 0, none⟩) 3 3, .pointer (some ⟨ga, 0, none⟩), .pointer (some ⟨gb, 0, none⟩)] w (Ret (.int .i64 (cntN (y, d) (y2, d2) yr lo hi 3)) w) := by
  have hm1 := mid_date h1
  have hm2 := mid_date h2
  simp only at hm1 hm2
  have HA := Lib.hid (fun W => imDayOf_any y d W)
  have HB := Lib.hid (fun W => imDayOf_any y2 d2 W)
  have HC := Lib.hid (cntN_bounds (y, d) (y2, d2) yr lo hi hhi)
  have HR := Lib.hid (fun (wr : World) (hb : Below w.heap.size w wr) => R.kept hb)
  have HY0 := Lib.hid (fun (l : Nat) (hl : l < 365) (W : World) => (show Calls Try.prog 73 #[.agg #[.int .i64 yr, .int .i64 ((l : Int) + 1)], .agg #[.int .i64 y, .int .i64 d]] W (Ret (.int .i64 (ageD (y, d) (yr, (l : Int) + 1))) W) from by
    have := imYearsAfter_any yr ((l : Int) + 1) y d W (by unfold midI; omega) (by unfold midI; omega) hm1.1 hm1.2 (by have := dateB_iff.1 h1; unfold midI dys; simp only at *; omega)
    rw [years_age h1 (o := (yr, (l : Int) + 1)) ⟨by simp only; omega, by simp only; omega⟩ h4] at this
    exact this))
  have HY2 := Lib.hid (fun (l : Nat) (hl : l < 365) (W : World) => (show Calls Try.prog 73 #[.agg #[.int .i64 yr, .int .i64 ((l : Int) + 1)], .agg #[.int .i64 y2, .int .i64 d2]] W (Ret (.int .i64 (ageD (y2, d2) (yr, (l : Int) + 1))) W) from by
    have := imYearsAfter_any yr ((l : Int) + 1) y2 d2 W (by unfold midI; omega) (by unfold midI; omega) hm2.1 hm2.2 (by have := dateB_iff.1 h2; unfold midI dys; simp only at *; omega)
    rw [years_age h2 (o := (yr, (l : Int) + 1)) ⟨by simp only; omega, by simp only; omega⟩ h5] at this
    exact this))
  clear hm1 hm2 h1 h2 h4 h5 hhi R
  go_enter Try.func72, Try.ntmps72
  go_wp2_with fail
  go_loopw [5, 10] (fun s v wr => ∃ k : Nat, k ≤ 3 ∧ v = .int .i64 k ∧ s = .int .i64 (cntN (y, d) (y2, d2) yr lo hi k) ∧ Below w.heap.size w wr) (fun _ v _ => 3 - (intOf v).toNat)
  case atStart => exact ⟨0, Nat.zero_le _, rfl, rfl, Below.refl _ _⟩
  case round =>
    obtain ⟨k, hk, rfl, rfl, hb⟩ := hrel
    have hs := HC.out k
    by_cases hlt : k < 3
    · have hR := HR.out wr hb
      have hpc := hR.pp k hlt
      have q1 := hR.a0
      have q2 := hR.a1
      have q3 := hR.b0
      have q4 := hR.b1
      have hlk := hlh k hlt
      have hak := had k hlt
      have HE := Lib.hid (show cntN (y, d) (y2, d2) yr lo hi (k + 1) = cntN (y, d) (y2, d2) yr lo hi k + partN (y, d) (y2, d2) yr (lo k) (hi k) from rfl)
      have HD := Lib.hid (fun hl => hR.day (lo k) hl)
      have HZ := Lib.hid (fun h => partN_none (a := (y, d)) (b := (y2, d2)) (yr := yr) (lo := lo k) (hi := hi k) h)
      have HP := Lib.hid (fun h e => partN_yes (a := (y, d)) (b := (y2, d2)) (yr := yr) (lo := lo k) (hi := hi k) h e)
      have HN := Lib.hid (fun e => partN_no (a := (y, d)) (b := (y2, d2)) (yr := yr) (lo := lo k) (hi := hi k) e)
      clear hR
      generalize partN (y, d) (y2, d2) yr (lo k) (hi k) = pn at HE HZ HP HN
      generalize cntN (y, d) (y2, d2) yr lo hi k = s at hs HE ⊢
      have hml : hi k - lo k + lo k ≤ 365 := by omega
      generalize hi k - lo k = m at hpc HZ HP hml hak
      generalize lo k = l at HD HP HN hml hak
      generalize ad k = aa at hpc hak
      generalize cp k = cc at hpc
      clear hlk
      by_cases hm : m = 0
      · have hz := HZ.out hm
        clear hak
        have hd : decide ((0 : Int) < (m : Int)) = false := decide_eq_false (by omega)
        have hd2 : decide (0 < m) = false := decide_eq_false (by omega)
        subst hz
        clear HD HP HN HA HB HY0 HY2 hm HZ
        go_wp2_with fail
        go_quiet (fail)
        go_wp2_with fail
        go_roundw
        case rel => exact ⟨k + 1, by omega, by go_num, by rw [HE.out, Int.add_zero], by first | exact hb | exact hb.drew | exact hb.drew.drew | exact below_drewsN hb _⟩
        case measure => simp [intOf]; omega
      · have hm0 : 0 < m := by omega
        have haa := hak hm0
        subst haa
        clear hak
        have hm1 : (0 : Int) < (m : Int) := by omega
        obtain ⟨p1, p2⟩ := HD.out (by omega)
        have HYA := Lib.hid (HY0.out l (by omega))
        have HYB := Lib.hid (HY2.out l (by omega))
        clear HD HZ HY0 HY2 hm
        generalize ageD (y, d) (yr, (l : Int) + 1) = n1 at HYA HP HN
        generalize ageD (y2, d2) (yr, (l : Int) + 1) = n2 at HYB HP HN
        by_cases he : n1 = n2
        · have hz := HP.out hm0 he
          subst hz
          clear HP HN
          go_wp2_with fail
          go_region_held3 (fun w' => Below w.heap.size w w' ∧ w'.cell? ⟨gd, l * 2, none⟩ = some (.int .i64 yr) ∧ w'.cell? ⟨gd, l * 2 + 1, none⟩ = some (.int .i64 ((l : Int) + 1)) ∧ w'.cell? ⟨ga, 0, none⟩ = some (.int .i64 y) ∧ w'.cell? ⟨ga, 1, none⟩ = some (.int .i64 d) ∧ w'.cell? ⟨gb, 0, none⟩ = some (.int .i64 y2) ∧ w'.cell? ⟨gb, 1, none⟩ = some (.int .i64 d2))
            (first
              | exact ⟨hb.drew, p1, p2, q1, q2, q3, q4⟩
              | (exact ⟨Below.drew (by assumption), by first | assumption | simp [*], by first | assumption | simp [*], by first | assumption | simp [*], by first | assumption | simp [*], by first | assumption | simp [*], by first | assumption | simp [*]⟩)
              | (go_split_ands
                 refine ⟨?_, ?_, ?_, ?_, ?_, ?_, ?_⟩
                 · exact (by first | assumption | exact Below.trans (by assumption) (Below.mono hcall (Below.size (by assumption))) | exact Below.trans (Below.drew (by assumption)) (Below.mono hcall (Below.size (Below.drew (by assumption)))) | exact below_two (by assumption) (by assumption) hcall | exact below_twoD (by assumption) (by assumption) hcall)
                 · exact (by first | assumption | exact below_cell2 hcall (by first | assumption | (simp; assumption)) | exact below_cell2 hcall (below_cell2 (by assumption) (by first | assumption | (simp; assumption))))
                 · exact (by first | assumption | exact below_cell2 hcall (by first | assumption | (simp; assumption)) | exact below_cell2 hcall (below_cell2 (by assumption) (by first | assumption | (simp; assumption))))
                 · exact (by first | assumption | exact below_cell2 hcall (by first | assumption | (simp; assumption)) | exact below_cell2 hcall (below_cell2 (by assumption) (by first | assumption | (simp; assumption))))
                 · exact (by first | assumption | exact below_cell2 hcall (by first | assumption | (simp; assumption)) | exact below_cell2 hcall (below_cell2 (by assumption) (by first | assumption | (simp; assumption))))
                 · exact (by first | assumption | exact below_cell2 hcall (by first | assumption | (simp; assumption)) | exact below_cell2 hcall (below_cell2 (by assumption) (by first | assumption | (simp; assumption))))
                 · exact (by first | assumption | exact below_cell2 hcall (by first | assumption | (simp; assumption)) | exact below_cell2 hcall (below_cell2 (by assumption) (by first | assumption | (simp; assumption))))))
            (first | (go_at_call_of 67 (Value.int IntKind.i64 y); refine (HA.out _).mono ?_; rintro e w' ⟨rfl, hcall⟩) | (go_at_call_of 67 (Value.int IntKind.i64 y2); refine (HB.out _).mono ?_; rintro e w' ⟨rfl, hcall⟩) | (go_at_call_of 73 (Value.int IntKind.i64 y); refine (HYA.out _).mono ?_; rintro e w' ⟨rfl, hcall⟩) | (go_at_call_of 73 (Value.int IntKind.i64 y2); refine (HYB.out _).mono ?_; rintro e w' ⟨rfl, hcall⟩))
          all_goals
            obtain ⟨hbw, -⟩ := ‹Below w.heap.size w _ ∧ _›
            go_wp2_with fail
            go_roundw
            case rel => exact ⟨k + 1, by omega, by go_num, (by first | (rw [HE.out]; done) | (rw [HE.out]; go_num; done)), hbw⟩
            case measure => simp [intOf]; omega
        · have hz := HN.out he
          subst hz
          clear HP HN
          go_wp2_with fail
          go_region_held3 (fun w' => Below w.heap.size w w' ∧ w'.cell? ⟨gd, l * 2, none⟩ = some (.int .i64 yr) ∧ w'.cell? ⟨gd, l * 2 + 1, none⟩ = some (.int .i64 ((l : Int) + 1)) ∧ w'.cell? ⟨ga, 0, none⟩ = some (.int .i64 y) ∧ w'.cell? ⟨ga, 1, none⟩ = some (.int .i64 d) ∧ w'.cell? ⟨gb, 0, none⟩ = some (.int .i64 y2) ∧ w'.cell? ⟨gb, 1, none⟩ = some (.int .i64 d2))
            (first
              | exact ⟨hb.drew, p1, p2, q1, q2, q3, q4⟩
              | (exact ⟨Below.drew (by assumption), by first | assumption | simp [*], by first | assumption | simp [*], by first | assumption | simp [*], by first | assumption | simp [*], by first | assumption | simp [*], by first | assumption | simp [*]⟩)
              | (go_split_ands
                 refine ⟨?_, ?_, ?_, ?_, ?_, ?_, ?_⟩
                 · exact (by first | assumption | exact Below.trans (by assumption) (Below.mono hcall (Below.size (by assumption))) | exact Below.trans (Below.drew (by assumption)) (Below.mono hcall (Below.size (Below.drew (by assumption)))) | exact below_two (by assumption) (by assumption) hcall | exact below_twoD (by assumption) (by assumption) hcall)
                 · exact (by first | assumption | exact below_cell2 hcall (by first | assumption | (simp; assumption)) | exact below_cell2 hcall (below_cell2 (by assumption) (by first | assumption | (simp; assumption))))
                 · exact (by first | assumption | exact below_cell2 hcall (by first | assumption | (simp; assumption)) | exact below_cell2 hcall (below_cell2 (by assumption) (by first | assumption | (simp; assumption))))
                 · exact (by first | assumption | exact below_cell2 hcall (by first | assumption | (simp; assumption)) | exact below_cell2 hcall (below_cell2 (by assumption) (by first | assumption | (simp; assumption))))
                 · exact (by first | assumption | exact below_cell2 hcall (by first | assumption | (simp; assumption)) | exact below_cell2 hcall (below_cell2 (by assumption) (by first | assumption | (simp; assumption))))
                 · exact (by first | assumption | exact below_cell2 hcall (by first | assumption | (simp; assumption)) | exact below_cell2 hcall (below_cell2 (by assumption) (by first | assumption | (simp; assumption))))
                 · exact (by first | assumption | exact below_cell2 hcall (by first | assumption | (simp; assumption)) | exact below_cell2 hcall (below_cell2 (by assumption) (by first | assumption | (simp; assumption))))))
            (first | (go_at_call_of 67 (Value.int IntKind.i64 y); refine (HA.out _).mono ?_; rintro e w' ⟨rfl, hcall⟩) | (go_at_call_of 67 (Value.int IntKind.i64 y2); refine (HB.out _).mono ?_; rintro e w' ⟨rfl, hcall⟩) | (go_at_call_of 73 (Value.int IntKind.i64 y); refine (HYA.out _).mono ?_; rintro e w' ⟨rfl, hcall⟩) | (go_at_call_of 73 (Value.int IntKind.i64 y2); refine (HYB.out _).mono ?_; rintro e w' ⟨rfl, hcall⟩))
          all_goals
            obtain ⟨hbw, -⟩ := ‹Below w.heap.size w _ ∧ _›
            go_wp2_with fail
            go_roundw
            case rel => exact ⟨k + 1, by omega, by go_num, by rw [HE.out, Int.add_zero], hbw⟩
            case measure => simp [intOf]; omega
    · have hkn : k = 3 := by omega
      subst hkn
      go_wp2_with fail
      go_ret
      exact ⟨rfl, hb⟩
end Go.Proofs.Ytbhceokapbnhhaa
