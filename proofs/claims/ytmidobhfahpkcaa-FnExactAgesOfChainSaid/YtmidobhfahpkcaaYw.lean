/- The least of a list; in how many years ages are something: the program's text. -/
import Derived.Test.YtmidobhfahpkcaaYur
set_option linter.unusedVariables false
set_option linter.unusedSimpArgs false
namespace Go.Proofs.Ytmidobhfahpkcaa
open Go.RowKit

def mnT (zs : List Int) (k : Nat) : Int := (zs.take k).foldl min (zs.getD 0 0)
theorem mnT_one (zs : List Int) (h : 1 ≤ zs.length) : mnT zs 1 = zs.getD 0 0 := by
  cases zs with
  | nil => simp at h
  | cons x r => simp [mnT]
theorem mnT_succ (zs : List Int) (k : Nat) (hk : k < zs.length) : mnT zs (k + 1) = min (mnT zs k) (zs.getD k 0) := by
  unfold mnT
  rw [List.take_succ_eq_append_getElem hk, List.foldl_append]
  simp [List.getElem?_eq_getElem hk]

set_option maxHeartbeats 1000000 in
theorem sliceMin_any (b c n : Nat) (zs : List Int) (w : World) (hl : zs.length = n) (h1 : 1 ≤ n) (hn : n ≤ 1048576) (hI : Ints w b 0 zs) :
    Calls Try.prog 76 #[.slice (some ⟨b, 0, none⟩) n c] w (Ret (.int .i64 (mnT zs n)) w) := by
  have h0 : w.cell? ⟨b, 0, none⟩ = some (.int .i64 (mnT zs 1)) := by
    have := hI 0 (by omega)
    rw [mnT_one zs (by omega)]
    simpa using this
  have hne : ¬ (n : Int) < 1 := by omega
  go_enter Try.func76, Try.ntmps76
  go_wp2
  go_loopw [3, 4] (fun m v wr => ∃ k : Nat, 1 ≤ k ∧ k ≤ n ∧ v = .int .i64 k ∧ m = .int .i64 (mnT zs k) ∧ Below w.heap.size w wr) (fun _ v _ => n - (intOf v).toNat)
  case atStart => exact ⟨1, by omega, h1, rfl, rfl, Below.refl _ _⟩
  case round =>
    obtain ⟨k, hk1, hk, rfl, rfl, hb⟩ := hrel
    by_cases hlt : k < n
    · have hc1 : wr.cell? ⟨b, k, none⟩ = some (.int .i64 (zs.getD k 0)) := by
        have := hI k (by omega)
        rw [Nat.zero_add] at this
        exact (hb.cell (p := ⟨b, k, none⟩) (World.block_lt_of_cell? w ⟨b, 0, none⟩ h0)).trans this
      have HS := Lib.hid (mnT_succ zs k (by omega))
      have hi0 : (0 : Int) ≤ (k : Int) := by omega
      have hi1 : (k : Int) < (n : Int) := by omega
      generalize hq : mnT zs (k + 1) = q at HS
      have HQ := Lib.hid hq
      clear hq
      generalize mnT zs k = m0 at *
      generalize zs.getD k 0 = z0 at *
      go_wp2
      all_goals
        go_roundw
        case rel => exact ⟨k + 1, by omega, by omega, by go_num, by rw [HQ.out]; congr 1; have := HS.out; omega, hb⟩
        case measure => simp [intOf]; omega
    · have hkn : k = n := by omega
      subst hkn
      go_wp2
      go_ret
      exact ⟨rfl, hb⟩

theorem rl_num_neg (n d : Int) (hd : 0 < d) : rlN (-n) d = -rlN n d ∧ rlD (-n) d = rlD n d := by
  have hg : rlG (-n) d = rlG n d := by simp [rlG]
  unfold rlN rlD
  rw [hg, if_neg (by omega), if_neg (by omega)]
  exact ⟨Int.neg_ediv_of_dvd (rlG_dvd n d).1, rfl⟩
theorem yw_zero (n l : Int) : ywN n 0 l = 0 ∧ ywD n 0 l = 0 ∧ ywB n 0 l = false := by simp [ywN, ywD, ywB]
theorem yw_no {n d l : Int} (hd : 0 < d) (h : l * d + n ≤ 0) : ywN n d l = 0 ∧ ywD n d l = 0 ∧ ywB n d l = false := by
  have := (rl_sign l n d hd).2 h
  simp [ywN, ywD, ywB, this]
theorem yw_yes {n d l : Int} (hd : 0 < d) (h : ¬ l * d + n ≤ 0) : ywN n d l = rlN n d ∧ ywD n d l = rlD n d ∧ ywB n d l = true := by
  have h1 : ¬ l * rlD n d + rlN n d ≤ 0 := fun h' => h ((rl_sign l n d hd).1 h')
  have h2 : ¬ d = 0 := by omega
  unfold ywN ywD ywB
  rw [if_neg h2, if_neg h2, if_neg h2, if_neg h1, if_neg h1, if_neg h1]
  exact ⟨rfl, rfl, rfl⟩


set_option maxHeartbeats 8000000 in
set_option maxRecDepth 100000 in
theorem ywa_any (n d : Int) (b c k : Nat) (zs : List Int) (w : World) (hn : -1000000 ≤ n ∧ n ≤ 1000000) (hd : -1000 ≤ d ∧ d ≤ 1000) (hl : zs.length = k) (h1 : 1 ≤ k) (hk : k ≤ 1048576) (hm : 0 ≤ mnT zs k ∧ mnT zs k ≤ 120) (hI : Ints w b 0 zs) :
    Calls Try.prog 55 #[.int .i64 n, .int .i64 d, .slice (some ⟨b, 0, none⟩) k c] w (RetIIB (ywN n d (mnT zs k)) (ywD n d (mnT zs k)) (ywB n d (mnT zs k)) w) := by
  have HM := Lib.hid (fun (w : World) (hI : Ints w b 0 zs) => sliceMin_any b c k zs w hl h1 hk hI)
  generalize mnT zs k = m at *
  rcases Int.lt_trichotomy d 0 with h | h | h
  · obtain ⟨e1, e2, e3⟩ := yw_neg n d m
    rw [← e1, ← e2, ← e3]
    clear e1 e2 e3
    have m3 := mul_bd (x := m) (y := (-d)) (X := 120) (Y := 1000) hm ⟨by omega, by omega⟩
    have hz0 : ((-d) == 0) = false := beq_eq_false_iff_ne.2 (by omega)
    by_cases hs : m * (-d) + (-n) ≤ 0
    · obtain ⟨e1, e2, e3⟩ := yw_no (n := (-n)) (d := (-d)) (l := m) (by omega) hs
      rw [e1, e2, e3]
      clear e1 e2 e3
      go_enter Try.func55, Try.ntmps55
      go_wp2_with (first | (go_at_call 76; refine (HM.out _ (by assumption)).mono ?_; rintro e w' ⟨rfl, hcall⟩; have hbw : Below w.heap.size w w' := (by first | exact hcall | exact Below.trans (by assumption) (Below.mono hcall (Below.size (by assumption)))); clear hcall))
      go_ret3
      exact ⟨rfl, by assumption⟩
    · obtain ⟨e1, e2, e3⟩ := yw_yes (n := (-n)) (d := (-d)) (l := m) (by omega) hs
      rw [e1, e2, e3]
      clear e1 e2 e3
      by_cases hn0 : (-n) < 0
      · have HL := Lib.hid (fun w => lowestTerms_pos (-(-n)) (-d) w (by omega) (by omega))
        obtain ⟨f1, f2⟩ := rl_num_neg (-n) (-d) (by omega)
        have hbd := rl_bd (-n) (-d) (by omega)
        rw [f1, f2] at HL
        clear f1 f2
        generalize rlN (-n) (-d) = u at *
        generalize rlD (-n) (-d) = v at *
        simp only [Int.neg_neg] at HL
        go_enter Try.func55, Try.ntmps55
        go_wp2_with (first | (go_at_call 76; refine (HM.out _ (by assumption)).mono ?_; rintro e w' ⟨rfl, hcall⟩; have hbw : Below w.heap.size w w' := (by first | exact hcall | exact Below.trans (by assumption) (Below.mono hcall (Below.size (by assumption)))); clear hcall) | (go_at_call 68; refine (HL.out _).mono ?_; rintro e w' ⟨rfl, hcall⟩; have hbw2 : Below w.heap.size w w' := (by first | exact hcall | exact Below.trans (by assumption) (Below.mono hcall (Below.size (by assumption)))); clear hcall))
        go_ret3
        exact ⟨by first | rfl | simp, by assumption⟩
      · have HL := Lib.hid (fun w => lowestTerms_pos (-n) (-d) w (by omega) (by omega))
        have hbd := rl_bd (-n) (-d) (by omega)
        generalize rlN (-n) (-d) = u at *
        generalize rlD (-n) (-d) = v at *
        go_enter Try.func55, Try.ntmps55
        go_wp2_with (first | (go_at_call 76; refine (HM.out _ (by assumption)).mono ?_; rintro e w' ⟨rfl, hcall⟩; have hbw : Below w.heap.size w w' := (by first | exact hcall | exact Below.trans (by assumption) (Below.mono hcall (Below.size (by assumption)))); clear hcall) | (go_at_call 68; refine (HL.out _).mono ?_; rintro e w' ⟨rfl, hcall⟩; have hbw2 : Below w.heap.size w w' := (by first | exact hcall | exact Below.trans (by assumption) (Below.mono hcall (Below.size (by assumption)))); clear hcall))
        go_ret3
        exact ⟨rfl, by assumption⟩
  · subst h
    obtain ⟨e1, e2, e3⟩ := yw_zero n m
    rw [e1, e2, e3]
    clear e1 e2 e3
    go_enter Try.func55, Try.ntmps55
    go_wp2_with fail
    go_ret3
    exact ⟨rfl, Below.refl _ _⟩
  · have m3 := mul_bd (x := m) (y := d) (X := 120) (Y := 1000) hm ⟨by omega, by omega⟩
    have hz0 : (d == 0) = false := beq_eq_false_iff_ne.2 (by omega)
    by_cases hs : m * d + n ≤ 0
    · obtain ⟨e1, e2, e3⟩ := yw_no (n := n) (d := d) (l := m) (by omega) hs
      rw [e1, e2, e3]
      clear e1 e2 e3
      go_enter Try.func55, Try.ntmps55
      go_wp2_with (first | (go_at_call 76; refine (HM.out _ (by assumption)).mono ?_; rintro e w' ⟨rfl, hcall⟩; have hbw : Below w.heap.size w w' := (by first | exact hcall | exact Below.trans (by assumption) (Below.mono hcall (Below.size (by assumption)))); clear hcall))
      go_ret3
      exact ⟨rfl, by assumption⟩
    · obtain ⟨e1, e2, e3⟩ := yw_yes (n := n) (d := d) (l := m) (by omega) hs
      rw [e1, e2, e3]
      clear e1 e2 e3
      by_cases hn0 : n < 0
      · have HL := Lib.hid (fun w => lowestTerms_pos (-n) d w (by omega) (by omega))
        obtain ⟨f1, f2⟩ := rl_num_neg n d (by omega)
        have hbd := rl_bd n d (by omega)
        rw [f1, f2] at HL
        clear f1 f2
        generalize rlN n d = u at *
        generalize rlD n d = v at *
        go_enter Try.func55, Try.ntmps55
        go_wp2_with (first | (go_at_call 76; refine (HM.out _ (by assumption)).mono ?_; rintro e w' ⟨rfl, hcall⟩; have hbw : Below w.heap.size w w' := (by first | exact hcall | exact Below.trans (by assumption) (Below.mono hcall (Below.size (by assumption)))); clear hcall) | (go_at_call 68; refine (HL.out _).mono ?_; rintro e w' ⟨rfl, hcall⟩; have hbw2 : Below w.heap.size w w' := (by first | exact hcall | exact Below.trans (by assumption) (Below.mono hcall (Below.size (by assumption)))); clear hcall))
        go_ret3
        exact ⟨by first | rfl | simp, by assumption⟩
      · have HL := Lib.hid (fun w => lowestTerms_pos n d w (by omega) (by omega))
        have hbd := rl_bd n d (by omega)
        generalize rlN n d = u at *
        generalize rlD n d = v at *
        go_enter Try.func55, Try.ntmps55
        go_wp2_with (first | (go_at_call 76; refine (HM.out _ (by assumption)).mono ?_; rintro e w' ⟨rfl, hcall⟩; have hbw : Below w.heap.size w w' := (by first | exact hcall | exact Below.trans (by assumption) (Below.mono hcall (Below.size (by assumption)))); clear hcall) | (go_at_call 68; refine (HL.out _).mono ?_; rintro e w' ⟨rfl, hcall⟩; have hbw2 : Below w.heap.size w w' := (by first | exact hcall | exact Below.trans (by assumption) (Below.mono hcall (Below.size (by assumption)))); clear hcall))
        go_ret3
        exact ⟨rfl, by assumption⟩
end Go.Proofs.Ytmidobhfahpkcaa
