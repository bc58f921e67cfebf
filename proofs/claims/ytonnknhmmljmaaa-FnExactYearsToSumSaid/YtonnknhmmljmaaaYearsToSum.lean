/- YearsToSum: both texts. -/
import Derived.Test.YtonnknhmmljmaaaFirst
import Derived.Test.YtonnknhmmljmaaaWhenYearsToSum
set_option linter.unusedVariables false
set_option linter.unusedSimpArgs false
namespace Go.Proofs.Ytonnknhmmljmaaa
open Go.RowKit

set_option maxHeartbeats 1600000 in
theorem sumTest (q g c n : Nat) (num age p : Int) (ys : List Int) (w : World) (hl : ys.length = n) (h8 : n ≤ 8) (hgs : g < w.heap.size) (hP : Ppl w g ys) (hz : ∀ j, j < ys.length → 0 ≤ ys.getD j 0 ∧ ys.getD j 0 ≤ 120)
    (hq : w.cell? ⟨q, 0, none⟩ = some (.int .i64 p)) :
    Calls Try.prog 62 #[.agg #[.int .i64 num, .int .i64 age, .slice (some ⟨g, 0, none⟩) n c], .pointer (some ⟨q, 0, none⟩)] w (Ret (.bool (sumTo ys n == p)) w) := by
  have HZ := Lib.hid hz
  have HL := Lib.hid hl
  have hql := World.block_lt_of_cell? w _ hq
  have HB : ∀ A, Below w.heap.size w (w.alloc A).drew := fun A => ((Below.refl w.heap.size w).alloc (Nat.le_refl _) A).drew
  have HP := Lib.hid hP
  clear hz hl hP
  go_enter Try.func62, Try.ntmps62
  go_wp2_with fail
  go_region_held3 (fun w' => Below w.heap.size w w' ∧ w'.cell? ⟨q, 0, none⟩ = some (.int .i64 p) ∧ w'.cell? ⟨w.heap.size, 0, none⟩ = some (.int .i64 num) ∧ w'.cell? ⟨w.heap.size, 1, none⟩ = some (.int .i64 age) ∧ w'.cell? ⟨w.heap.size, 2, none⟩ = some (.slice (some ⟨g, 0, none⟩) n c))
    (first
      | go_keep
      | (go_split_ands
         refine ⟨?_, ?_, ?_, ?_, ?_⟩
         · exact Below.trans (by assumption) (Below.mono hcall (Below.size (by assumption)))
         · exact below_cells hcall (by assumption)
         · exact below_cells hcall (by assumption)
         · exact below_cells hcall (by assumption)
         · exact below_cells hcall (by assumption)))
    (first | (go_at_call 54; refine (sum_len num age g c n ys _ HL.out h8 ?_ ?_ HZ.out).mono ?_; (go_split_ands; exact Nat.lt_of_lt_of_le hgs (Below.size (by assumption))); (go_split_ands; exact HP.out.kept (by assumption) hgs); rintro e w' ⟨rfl, hcall⟩))
  obtain ⟨hb, _⟩ := ‹Below w.heap.size w _ ∧ _›
  go_wp2
  go_ret
  exact ⟨rfl, hb⟩

abbrev sumT (zs : List Int) (p : Int) : Int → Bool := fun y => sumTo (agesIn zs y) zs.length == p

set_option maxHeartbeats 1000000 in
theorem yearsToSum_yes (b off c : Nat) (p : Int) (zs : List Int) (w : World) (hn : zs.length ≤ 1048576) (hI : Ints w b off zs) (hg : goodB zs 120 = true) :
    Calls Try.prog 30 #[.slice (some ⟨b, off, none⟩) zs.length c, .int .i64 p] w
      (RetIB ((found (sumT zs p) zs).getD 0 0) (decide (0 < (found (sumT zs p) zs).length)) w) := by
  have h8 := goodB_len hg
  have hbl := ints_lt hI (by omega)
  have hI' := Lib.hid fun A => hI.kept ((Below.refl w.heap.size w).alloc (Nat.le_refl _) A) hbl
  have hW := Lib.hid fun A => (Below.refl w.heap.size w).alloc (Nat.le_refl _) A
  have HL := Lib.hid (found_len hg (sumT zs p))
  have HT := Lib.hid (show TestsYearsToSum (.pointer (some ⟨w.heap.size, 0, none⟩)) 0 zs (sumT zs p) (w.alloc (.cells #[.int .i64 p] 3)) from
    fun y h1 h2 g c W hB hgs hP => by
      have hf : fitB zs y = true := by unfold fitB; rw [hg, inB_true h1 h2]; rfl
      obtain ⟨_, _, hl, hz⟩ := fit_in hf
      have hq : (w.alloc (.cells #[.int .i64 p] 3)).cell? ⟨w.heap.size, 0, none⟩ = some (.int .i64 p) := by simp
      exact sumTest _ g c _ _ _ p (agesIn zs y) W hl (by omega) hgs hP hz (below_cells hB hq))
  generalize sumT zs p = test at HL HT
  generalize hfd : found test zs = fd at HL
  have HF := Lib.hid hfd
  clear hfd
  go_enter Try.func30, Try.ntmps30
  go_wp2_with fail
  refine (yearsForZ_YearsToSum _ _ _ _ test zs _ hg (by omega) (hI'.out _) HT.out).mono ?_
  rw [HF.out]
  rintro e w2 ⟨v, rfl, ho, hb2⟩
  go_wp2_with fail
  refine (firstOf_any _ _ fd _ (by have := HL.out; omega) ho).mono ?_
  rintro e w3 ⟨rfl, hb3⟩
  have hb2' := (hW.out _).trans (hb2.mono (by simp))
  go_wp2_with fail
  go_ret2
  exact ⟨rfl, hb2'.trans (hb3.mono hb2'.size)⟩
theorem yearsToSum_no (b off c : Nat) (p : Int) (zs : List Int) (w : World) (hn : zs.length ≤ 1048576) (hbl : b < w.heap.size) (hI : Ints w b off zs) (hg : goodB zs 120 = false) :
    Calls Try.prog 30 #[.slice (some ⟨b, off, none⟩) zs.length c, .int .i64 p] w (RetIB 0 false w) := by
  have hI' := Lib.hid fun A => hI.kept ((Below.refl w.heap.size w).alloc (Nat.le_refl _) A) hbl
  have hW := Lib.hid fun A => (Below.refl w.heap.size w).alloc (Nat.le_refl _) A
  go_enter Try.func30, Try.ntmps30
  go_wp2_with fail
  refine (yearsForNo_YearsToSum _ _ _ 0 _ zs _ hn (by simp; omega) (hI'.out _) (by rw [hg]; rfl)).mono ?_
  rintro e w2 ⟨v, rfl, ho, hb2⟩
  go_wp2_with fail
  refine (firstOf_any _ _ [] _ (by simp) ho).mono ?_
  rintro e w3 ⟨rfl, hb3⟩
  have hb2' := (hW.out _).trans (hb2.mono (by simp))
  go_wp2_with fail
  go_ret2
  exact ⟨rfl, hb2'.trans (hb3.mono hb2'.size)⟩

theorem specYearsToSum_no (b off c : Nat) (p : Int) (zs : List Int) (w : World) (hn : zs.length ≤ 1048576) (hI : Ints w b off zs) (hg : goodB zs 120 = false) :
    Calls Try.prog 29 #[.slice (some ⟨b, off, none⟩) zs.length c, .int .i64 p] w (RetIB 0 false w) := by
  go_enter Try.func29, Try.ntmps29
  go_wp2_with (first | (go_at_call 46; refine (agGood_any _ _ _ _ zs _ rfl hn hI).mono ?_; rintro e w' ⟨rfl, rfl⟩))
  go_ret2
  exact ⟨rfl, Below.refl _ _⟩

set_option maxHeartbeats 1000000 in
theorem specYearsToSum_yes (b off c : Nat) (p : Int) (zs : List Int) (w : World) (hn : zs.length ≤ 1048576) (hI : Ints w b off zs) (hg : goodB zs 120 = true) :
    Calls Try.prog 29 #[.slice (some ⟨b, off, none⟩) zs.length c, .int .i64 p] w
      (RetIB ((found (sumT zs p) zs).getD 0 0) (decide (0 < (found (sumT zs p) zs).length)) w) := by
  have h8 := goodB_len hg
  have hbl := ints_lt hI (by omega)
  have hbd := loY_bd hg
  have HFL := Lib.hid (fun y h1 h2 ht hf => found_first (test := sumT zs p) (zs := zs) (y := y) h1 h2 ht hf)
  have HFN := Lib.hid (fun hf => found_none (test := sumT zs p) (zs := zs) hf)
  generalize found (sumT zs p) zs = fd at HFL HFN
  have HG := Lib.hid hg
  go_enter Try.func29, Try.ntmps29
  go_wp2_with (first | (go_at_call 46; refine (agGood_any _ _ _ _ zs _ rfl hn hI).mono ?_; rintro e w' ⟨rfl, rfl⟩))
  refine (agRange_any _ _ _ _ zs _ rfl hI hg).mono ?_
  rintro e w1 ⟨rfl, hb⟩
  clear hg
  go_wp2_with fail
  go_loopw [8] (fun v wr => ∃ y : Int, v = .int .i64 y ∧ loY zs ≤ y ∧ y ≤ hiY zs + 1 ∧ Hid (∀ x, loY zs ≤ x → x < y → sumT zs p x = false) ∧ Below w.heap.size w wr) (fun v _ => (121 - intOf v).toNat)
  case atStart => exact ⟨loY zs, rfl, by omega, by omega, Lib.hid fun x h1 h2 => by omega, hb⟩
  case round =>
    obtain ⟨y, rfl, hy1, hy2, hno, hbr⟩ := hrel
    have hsz := hbr.size
    by_cases hge : y ≤ hiY zs
    · have hf : fitB zs y = true := by unfold fitB; rw [HG.out, inB_true hy1 hge]; rfl
      obtain ⟨_, hyb, hl, hz⟩ := fit_in hf
      have HL := Lib.hid hl
      have HZ := Lib.hid hz
      clear hf hl hz
      go_wp2_with fail
      refine (agIn_any _ _ _ _ zs _ (by omega) (hI.kept hbr hbl) HG.out hyb).mono ?_
      rintro e w2 ⟨v, rfl, ho, hb2⟩
      obtain ⟨g2, c2, rfl, hg2, hgs2, hI2⟩ := ownNonempty ho (by rw [HL.out]; omega)
      have hb2' := hbr.trans (hb2.mono hsz)
      go_wp2_with fail
      refine (agSum_any _ _ _ (agesIn zs y) _ (by rw [HL.out]; omega) hI2 HZ.out).mono ?_
      rintro e w3 ⟨rfl, rfl⟩
      rw [HL.out]
      cases ht : sumT zs p y with
      | true =>
        have HR := Lib.hid (HFL.out y hy1 hge ht hno.out)
        have ht2 : (sumTo (agesIn zs y) zs.length == p) = true := ht
        clear ht
        go_wp2_with fail
        go_ret2
        exact ⟨by rw [HR.out.1, decide_eq_true HR.out.2]; rfl, hb2'⟩
      | false =>
        have hno' : Hid (∀ x, loY zs ≤ x → x < y + 1 → sumT zs p x = false) := Lib.hid fun x h1 h2 => by
          by_cases e : x = y
          · subst e; exact ht
          · exact hno.out x h1 (by omega)
        have ht2 : (sumTo (agesIn zs y) zs.length == p) = false := ht
        clear ht
        go_wp2_with fail
        go_roundw
        case rel => exact ⟨y + 1, by go_num, by omega, by omega, hno', hb2'⟩
        case measure => simp [intOf]; omega
    · have HR := Lib.hid (HFN.out fun x h1 h2 => hno.out x h1 (by omega))
      clear hno
      go_wp2
      go_ret2
      exact ⟨by rw [HR.out]; rfl, hbr⟩

theorem yearsToSum_both (zs : List Int) (p : Int) : ∃ r ok,
    (∀ b c w, zs.length ≤ 1048576 → b < w.heap.size → Ints w b 0 zs → Calls Try.prog 29 #[.slice (some ⟨b, 0, none⟩) zs.length c, .int .i64 p] w (RetIB r ok w)) ∧
    (∀ b c w, zs.length ≤ 1048576 → b < w.heap.size → Ints w b 0 zs → Calls Try.prog 30 #[.slice (some ⟨b, 0, none⟩) zs.length c, .int .i64 p] w (RetIB r ok w)) := by
  cases hg : goodB zs 120 with
  | false => exact ⟨0, false, fun b c w hn hbl hI => specYearsToSum_no _ _ _ _ _ _ hn hI hg, fun b c w hn hbl hI => yearsToSum_no _ _ _ _ _ _ hn hbl hI hg⟩
  | true => exact ⟨_, _, fun b c w hn hbl hI => specYearsToSum_yes _ _ _ _ _ _ hn hI hg, fun b c w hn hbl hI => yearsToSum_yes _ _ _ _ _ _ hn hI hg⟩
end Go.Proofs.Ytonnknhmmljmaaa
