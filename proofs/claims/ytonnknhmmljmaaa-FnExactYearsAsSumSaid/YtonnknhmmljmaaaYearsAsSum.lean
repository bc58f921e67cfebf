/- YearsAsSum: both texts. -/
import Derived.Test.YtonnknhmmljmaaaFirst
import Derived.Test.YtonnknhmmljmaaaWho
import Derived.Test.YtonnknhmmljmaaaOthers
import Derived.Test.YtonnknhmmljmaaaWhenYearsAsSum
import Derived.IntWalk
set_option linter.unusedVariables false
set_option linter.unusedSimpArgs false
namespace Go.Proofs.Ytonnknhmmljmaaa
open Go.RowKit

theorem foldl_sum (l : List Int) : ∀ a : Int, l.foldl (· + ·) a = a + l.sum := by
  induction l with
  | nil => intro a; simp
  | cons x l ih => intro a; rw [List.foldl_cons, ih, List.sum_cons]; omega
theorem sumTo_sum (l : List Int) : sumTo l l.length = l.sum := by
  unfold sumTo; rw [List.take_length, foldl_sum]; omega
theorem sum_erase (l : List Int) : ∀ k, k < l.length → (l.eraseIdx k).sum + l.getD k 0 = l.sum := by
  induction l with
  | nil => intro k hk; simp at hk
  | cons x l ih =>
    intro k hk
    cases k with
    | zero => simp; omega
    | succ k =>
      have := ih k (by simpa using hk)
      simp only [List.eraseIdx_cons_succ, List.sum_cons, List.getD_cons_succ]
      omega
theorem erase_bd {ys : List Int} (hz : ∀ j, j < ys.length → 0 ≤ ys.getD j 0 ∧ ys.getD j 0 ≤ 120) (k : Nat) : ∀ j, j < (ys.eraseIdx k).length → 0 ≤ (ys.eraseIdx k).getD j 0 ∧ (ys.eraseIdx k).getD j 0 ≤ 120 := by
  intro j hj
  have hm : (ys.eraseIdx k).getD j 0 ∈ ys := by
    have h1 : (ys.eraseIdx k).getD j 0 = (ys.eraseIdx k)[j] := by simp [List.getElem?_eq_getElem hj]
    rw [h1]
    exact List.mem_of_mem_eraseIdx (List.getElem_mem hj)
  obtain ⟨i, hi, e⟩ := List.getElem_of_mem hm
  have := hz i hi
  rw [← e]
  simpa [List.getElem?_eq_getElem hi] using this

set_option maxHeartbeats 1600000 in
theorem oldTest (g c n who : Nat) (age : Int) (ys : List Int) (w : World) (hl : ys.length = n) (h8 : n ≤ 8) (h2 : 2 ≤ n) (hw : who < n) (hgs : g < w.heap.size) (hP : Ppl w g ys) (ha : ys.getD who 0 = age) (hz : ∀ j, j < ys.length → 0 ≤ ys.getD j 0 ∧ ys.getD j 0 ≤ 120) :
    Calls Try.prog 76 #[.agg #[.int .i64 who, .int .i64 age, .slice (some ⟨g, 0, none⟩) n c]] w (Ret (.bool (age == sumTo (ys.eraseIdx who) (ys.eraseIdx who).length)) w) := by
  have HZ := Lib.hid (erase_bd hz who)
  have HL := Lib.hid hl
  have HA := Lib.hid ha
  have hel : (ys.eraseIdx who).length ≤ 8 := by have := List.length_eraseIdx_le ys who; omega
  have HB : ∀ A, Below w.heap.size w (w.alloc A).drew := fun A => ((Below.refl w.heap.size w).alloc (Nat.le_refl _) A).drew
  have HP := Lib.hid hP
  clear hz hl hP ha
  go_enter Try.func76, Try.ntmps76
  go_wp2_with fail
  go_region_held3 (fun w' => Below w.heap.size w w' ∧ w'.cell? ⟨w.heap.size, 0, none⟩ = some (.int .i64 who) ∧ w'.cell? ⟨w.heap.size, 1, none⟩ = some (.int .i64 age) ∧ w'.cell? ⟨w.heap.size, 2, none⟩ = some (.slice (some ⟨g, 0, none⟩) n c))
    (first
      | go_keep
      | (go_split_ands
         refine ⟨?_, ?_, ?_, ?_⟩
         · exact Below.trans (by assumption) (Below.mono hcall (Below.size (by assumption)))
         · exact below_cells hcall (by assumption)
         · exact below_cells hcall (by assumption)
         · exact below_cells hcall (by assumption))
      | (go_split_ands
         refine ⟨?_, ?_, ?_, ?_⟩
         · exact Below.trans (by assumption) (Below.mono hcall2 (Below.size (by assumption)))
         · exact below_cells hcall2 (by assumption)
         · exact below_cells hcall2 (by assumption)
         · exact below_cells hcall2 (by assumption)))
    (first
      | (go_at_call 83; refine (others_any g c n who age ys _ HL.out h8 h2 hw ?_ ?_ HA.out).mono ?_; (go_split_ands; exact Nat.lt_of_lt_of_le hgs (Below.size (by assumption))); (go_split_ands; exact HP.out.kept (by assumption) hgs); rintro e w' ⟨g2, c2, ns, rfl, hP2, hg2, hgs2, hcall⟩)
      | (go_at_call 79; refine (sumOf_any g2 c2 ns (ys.eraseIdx who) _ hel hgs2 hP2 HZ.out).mono ?_; rintro e w' ⟨rfl, hcall2⟩))
  obtain ⟨hb, _⟩ := ‹Below w.heap.size w _ ∧ _›
  go_wp2
  go_ret
  exact ⟨rfl, hb⟩

def oldT (zs : List Int) (who : Nat) : Int → Bool := fun y => (agesIn zs y).getD who 0 == sumTo ((agesIn zs y).eraseIdx who) ((agesIn zs y).eraseIdx who).length
theorem oldT_eq {zs : List Int} {who : Nat} (hw : who < zs.length) (y : Int) : oldT zs who y = (sumTo (agesIn zs y) zs.length == 2 * (agesIn zs y).getD who 0) := by
  have hl := agesIn_length zs y
  have h := sum_erase (agesIn zs y) who (by rw [hl]; exact hw)
  have e1 := sumTo_sum ((agesIn zs y).eraseIdx who)
  have e2 := sumTo_sum (agesIn zs y)
  rw [hl] at e2
  unfold oldT
  rw [e1, e2, Bool.eq_iff_iff, beq_iff_eq, beq_iff_eq]
  omega

set_option maxHeartbeats 1000000 in
theorem yearsAsSum_yes (b off c who : Nat) (zs : List Int) (w : World) (hn : zs.length ≤ 1048576) (hI : Ints w b off zs) (hw : whoB zs who = true) (hw1 : who < zs.length) (h2 : 2 ≤ zs.length) :
    Calls Try.prog 45 #[.slice (some ⟨b, off, none⟩) zs.length c, .int .i64 who] w
      (RetIB ((found (oldT zs who) zs).getD 0 0) (decide (0 < (found (oldT zs who) zs).length)) w) := by
  have hg := whoB_good hw
  have h8 := goodB_len hg
  have hne : ((zs.length : Int) == 1) = false := beq_eq_false_iff_ne.2 (by omega)
  have HL := Lib.hid (found_len hg (oldT zs who))
  have HT := Lib.hid (show TestsYearsAsSum who zs (oldT zs who) w from
    fun y y1 y2 g c W hB hgs hP => by
      have hf : fitB zs y = true := by unfold fitB; rw [hg, inB_true y1 y2]; rfl
      obtain ⟨_, _, hl, hz⟩ := fit_in hf
      exact oldTest g c _ who _ (agesIn zs y) W hl (by omega) h2 hw1 hgs hP rfl hz)
  generalize oldT zs who = test at HL HT
  generalize hfd : found test zs = fd at HL
  have HF := Lib.hid hfd
  have HG := Lib.hid hg
  clear hfd hg hw
  go_enter Try.func45, Try.ntmps45
  go_wp2_with fail
  refine (yearsFor_YearsAsSum _ _ _ who test zs _ HG.out hw1 hI HT.out).mono ?_
  rw [HF.out]
  rintro e w2 ⟨v, rfl, ho, hb2⟩
  go_wp2_with fail
  refine (firstOf_any _ _ fd _ (by have := HL.out; omega) ho).mono ?_
  rintro e w3 ⟨rfl, hb3⟩
  go_wp2_with fail
  go_ret2
  exact ⟨rfl, hb2.trans (hb3.mono hb2.size)⟩
theorem yearsAsSum_one (b off c : Nat) (x : Int) (zs : List Int) (w : World) (h1 : zs.length = 1) :
    Calls Try.prog 45 #[.slice (some ⟨b, off, none⟩) zs.length c, .int .i64 x] w (RetIB 0 false w) := by
  have hne : ((zs.length : Int) == 1) = true := beq_iff_eq.2 (by omega)
  clear h1
  go_enter Try.func45, Try.ntmps45
  go_wp2_with fail
  go_ret2
  exact ⟨rfl, Below.refl _ _⟩
theorem yearsAsSum_bad (b off c : Nat) (x : Int) (zs : List Int) (w : World) (hn : zs.length ≤ 1048576) (hbl : b < w.heap.size) (hI : Ints w b off zs) (hw : whoB zs x = false) (h1 : zs.length ≠ 1) :
    Calls Try.prog 45 #[.slice (some ⟨b, off, none⟩) zs.length c, .int .i64 x] w (RetIB 0 false w) := by
  have hne : ((zs.length : Int) == 1) = false := beq_eq_false_iff_ne.2 (by omega)
  have HW := Lib.hid hw
  clear h1 hw
  go_enter Try.func45, Try.ntmps45
  go_wp2_with fail
  refine (yearsForNo_YearsAsSum _ _ _ x zs _ hn hbl hI HW.out).mono ?_
  rintro e w2 ⟨v, rfl, ho, hb2⟩
  go_wp2_with fail
  refine (firstOf_any _ _ [] _ (by simp) ho).mono ?_
  rintro e w3 ⟨rfl, hb3⟩
  go_wp2_with fail
  go_ret2
  exact ⟨rfl, hb2.trans (hb3.mono hb2.size)⟩

theorem specYearsAsSum_bad (b off c : Nat) (x : Int) (zs : List Int) (w : World) (hn : zs.length ≤ 1048576) (hI : Ints w b off zs) (hw : whoB zs x = false) :
    Calls Try.prog 44 #[.slice (some ⟨b, off, none⟩) zs.length c, .int .i64 x] w (RetIB 0 false w) := by
  go_enter Try.func44, Try.ntmps44
  go_wp2_with (first | (go_at_call 68; refine (agWho_any _ _ _ _ zs _ hn hI).mono ?_; rintro e w' ⟨rfl, rfl⟩))
  go_ret2
  exact ⟨rfl, Below.refl _ _⟩
theorem specYearsAsSum_one (b off c : Nat) (x : Int) (zs : List Int) (w : World) (hn : zs.length ≤ 1048576) (hI : Ints w b off zs) (hw : whoB zs x = true) (h1 : zs.length = 1) :
    Calls Try.prog 44 #[.slice (some ⟨b, off, none⟩) zs.length c, .int .i64 x] w (RetIB 0 false w) := by
  have hne : ((zs.length : Int) == 1) = true := beq_iff_eq.2 (by omega)
  clear h1
  go_enter Try.func44, Try.ntmps44
  go_wp2_with (first | (go_at_call 68; refine (agWho_any _ _ _ _ zs _ hn hI).mono ?_; rintro e w' ⟨rfl, rfl⟩))
  go_ret2
  exact ⟨rfl, Below.refl _ _⟩

set_option maxHeartbeats 1000000 in
theorem specYearsAsSum_yes (b off c who : Nat) (zs : List Int) (w : World) (hn : zs.length ≤ 1048576) (hI : Ints w b off zs) (hw : whoB zs who = true) (hw1 : who < zs.length) (h2 : 2 ≤ zs.length) :
    Calls Try.prog 44 #[.slice (some ⟨b, off, none⟩) zs.length c, .int .i64 who] w
      (RetIB ((found (oldT zs who) zs).getD 0 0) (decide (0 < (found (oldT zs who) zs).length)) w) := by
  have hg := whoB_good hw
  have h8 := goodB_len hg
  have hbl := ints_lt hI (by omega)
  have hbd := loY_bd hg
  have hne : ((zs.length : Int) == 1) = false := beq_eq_false_iff_ne.2 (by omega)
  have HFL := Lib.hid (fun y h1 h2 ht hf => found_first (test := oldT zs who) (zs := zs) (y := y) h1 h2 ht hf)
  have HFN := Lib.hid (fun hf => found_none (test := oldT zs who) (zs := zs) hf)
  generalize found (oldT zs who) zs = fd at HFL HFN
  have HG := Lib.hid hg
  have q0 : (0 : Int) ≤ (who : Int) := by omega
  have q1 : (who : Int) < (zs.length : Int) := by omega
  go_enter Try.func44, Try.ntmps44
  go_wp2_with (first | (go_at_call 68; refine (agWho_any _ _ _ _ zs _ hn hI).mono ?_; rintro e w' ⟨rfl, rfl⟩))
  refine (agRange_any _ _ _ _ zs _ rfl hI hg).mono ?_
  rintro e w1 ⟨rfl, hb⟩
  clear hg hw
  go_wp2_with fail
  go_loopw [8] (fun v wr => ∃ y : Int, v = .int .i64 y ∧ loY zs ≤ y ∧ y ≤ hiY zs + 1 ∧ Hid (∀ x, loY zs ≤ x → x < y → oldT zs who x = false) ∧ Below w.heap.size w wr) (fun v _ => (121 - intOf v).toNat)
  case atStart => exact ⟨loY zs, rfl, by omega, by omega, Lib.hid fun x h1 h2 => by omega, hb⟩
  case round =>
    obtain ⟨y, rfl, hy1, hy2, hno, hbr⟩ := hrel
    have hsz := hbr.size
    by_cases hge : y ≤ hiY zs
    · have hf : fitB zs y = true := by unfold fitB; rw [HG.out, inB_true hy1 hge]; rfl
      obtain ⟨_, hyb, hl, hz⟩ := fit_in hf
      have HL := Lib.hid hl
      have HZ := Lib.hid hz
      have hzw := hz who (by omega)
      clear hf hl hz
      go_wp2_with fail
      refine (agIn_any _ _ _ _ zs _ (by omega) (hI.kept hbr hbl) HG.out hyb).mono ?_
      rintro e w2 ⟨v, rfl, ho, hb2⟩
      obtain ⟨g2, c2, rfl, hg2, hgs2, hI2⟩ := ownNonempty ho (by rw [HL.out]; omega)
      have hb2' := hbr.trans (hb2.mono hsz)
      have hcw := hI2 who (by rw [HL.out]; exact hw1)
      rw [Nat.zero_add] at hcw
      go_wp2_with fail
      have HBd : Below w.heap.size w w2.drew := hb2'.drew
      have HId : Ints w2.drew g2 0 (agesIn zs y) := hI2
      have hel : (agesIn zs y).length ≤ 8 := by rw [HL.out]; omega
      have q2 : (who : Int) < ((agesIn zs y).length : Int) := by rw [HL.out]; omega
      have HT := Lib.hid (oldT_eq hw1 y)
      have HCW : (agesIn zs y).getD who 0 = (agesIn zs y).getD who 0 := rfl
      clear HCW
      generalize (agesIn zs y).getD who 0 = a at hcw hzw HT
      have k1 : IntKind.i64.wrap (2 * a) = 2 * a := IntWalk.i64_in _ (by omega)
      have HS' := Lib.hid HL.out
      go_region_held3 (fun w' => Below w.heap.size w w' ∧ Ints w' g2 0 (agesIn zs y) ∧ w'.cell? ⟨g2, who, none⟩ = some (.int .i64 a))
        (first | go_keep | (go_split_ands; refine ⟨?_, ?_, ?_⟩ <;> assumption))
        (first | (go_at_call 52; refine (agSum_any g2 0 c2 (agesIn zs y) _ hel ?_ HZ.out).mono ?_; (go_split_ands; assumption); rintro e w' ⟨rfl, rfl⟩))
      obtain ⟨hbf, _⟩ := ‹Below w.heap.size w _ ∧ _›
      rw [HL.out]
      cases ht : oldT zs who y with
      | true =>
        have HR := Lib.hid (HFL.out y hy1 hge ht hno.out)
        have ht2 : (sumTo (agesIn zs y) zs.length == 2 * a) = true := by rw [← HT.out]; exact ht
        clear ht
        go_wp2_with fail
        go_ret2
        exact ⟨by rw [HR.out.1, decide_eq_true HR.out.2]; rfl, hbf⟩
      | false =>
        have hno' : Hid (∀ x, loY zs ≤ x → x < y + 1 → oldT zs who x = false) := Lib.hid fun x h1 h2 => by
          by_cases e : x = y
          · subst e; exact ht
          · exact hno.out x h1 (by omega)
        have ht2 : (sumTo (agesIn zs y) zs.length == 2 * a) = false := by rw [← HT.out]; exact ht
        clear ht
        go_wp2_with fail
        go_roundw
        case rel => exact ⟨y + 1, by go_num, by omega, by omega, hno', hbf⟩
        case measure => simp [intOf]; omega
    · have HR := Lib.hid (HFN.out fun x h1 h2 => hno.out x h1 (by omega))
      clear hno
      go_wp2
      go_ret2
      exact ⟨by rw [HR.out]; rfl, hbr⟩

theorem yearsAsSum_both (zs : List Int) (x : Int) : ∃ r ok,
    (∀ b c w, zs.length ≤ 1048576 → b < w.heap.size → Ints w b 0 zs → Calls Try.prog 44 #[.slice (some ⟨b, 0, none⟩) zs.length c, .int .i64 x] w (RetIB r ok w)) ∧
    (∀ b c w, zs.length ≤ 1048576 → b < w.heap.size → Ints w b 0 zs → Calls Try.prog 45 #[.slice (some ⟨b, 0, none⟩) zs.length c, .int .i64 x] w (RetIB r ok w)) := by
  by_cases h1 : zs.length = 1
  · refine ⟨0, false, fun b c w hn hbl hI => ?_, fun b c w hn hbl hI => yearsAsSum_one _ _ _ _ _ _ h1⟩
    cases h : whoB zs x with
    | false => exact specYearsAsSum_bad _ _ _ _ _ _ hn hI h
    | true => exact specYearsAsSum_one _ _ _ _ _ _ hn hI h h1
  · cases h : whoB zs x with
    | false => exact ⟨0, false, fun b c w hn hbl hI => specYearsAsSum_bad _ _ _ _ _ _ hn hI h, fun b c w hn hbl hI => yearsAsSum_bad _ _ _ _ _ _ hn hbl hI h h1⟩
    | true =>
      obtain ⟨A, rfl, hA⟩ := whoB_nat h
      have h8 := goodB_len (whoB_good h)
      exact ⟨_, _, fun b c w hn hbl hI => specYearsAsSum_yes _ _ _ _ _ _ hn hI h hA (by omega), fun b c w hn hbl hI => yearsAsSum_yes _ _ _ _ _ _ hn hI h hA (by omega)⟩
end Go.Proofs.Ytonnknhmmljmaaa
