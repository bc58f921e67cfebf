/- Whether kin stand behind others: the program's text. -/
import Derived.Test.YtmlcelleohhmcaaFb1
set_option linter.unusedVariables false
set_option linter.unusedSimpArgs false
namespace Go.Proofs.Ytmlcelleohhmcaa
open Go.RowKit

/-- A call returned the numbers zs in a new slice of room for two. -/
def RetKp (zs : List Int) (w : World) (e : Ending) (w' : World) : Prop :=
  ∃ g, e = .returned (.slice (some ⟨g, 0, none⟩) zs.length 2) ∧ w.heap.size ≤ g ∧ Own w.heap.size w' (.slice (some ⟨g, 0, none⟩) zs.length 2) zs ∧ Below w.heap.size w w'
set_option maxHeartbeats 1000000 in
theorem known_any (y f o : Int) (w : World) : Calls Try.prog 90 #[.agg #[.int .i64 y, .int .i64 f, .int .i64 o]] w (RetKp (kp f o) w) := by
  have hw1 := Lib.hid ((Below.refl w.heap.size w).alloc (Nat.le_refl _) (.cells #[.int .i64 y, .int .i64 f, .int .i64 o] 45))
  have hO := World.ownsRow_lit (base := w.heap.size) (size := 1) (e := 3) (w.alloc (.cells #[.int .i64 y, .int .i64 f, .int .i64 o] 45)) #[.int .i64 f, .int .i64 o] 2 (by simp) (by unfold maxLen; omega) rfl
  have HO : Hid (Own w.heap.size ((w.alloc (.cells #[.int .i64 y, .int .i64 f, .int .i64 o] 45)).alloc (.cells #[.int .i64 f, .int .i64 o] 3)) (.slice (some ⟨w.heap.size + 1, 0, none⟩) 2 2) [f, o]) := Lib.hid (by have h2 := hO; simp only [World.size_alloc] at h2; exact h2)
  clear hO
  go_enter Try.func90, Try.ntmps90
  go_wp2_with (go_at_call 91; refine (delete2_any w.heap.size _ f o _ HO.out).mono ?_; rintro e w' ⟨rfl, ho, hg⟩)
  go_ret
  exact ⟨_, rfl, by omega, ho, below_grownAbove (hw1.out.alloc (by simp) _) hg (by simp)⟩
/-- The answer in the program's words. -/
def behB (fs : List Kn) (m : Nat) (y f o : Int) : Bool := inB y 0 3000 && !(!(o == -1) && (f == -1 || decide (o ≤ f))) && (kp f o).all fun p => olderB fs m p y
theorem behB_eq (fs : List Kn) (m : Nat) (y f o : Int) : behB fs m y f o = fitB fs m (y, f, o) := by
  unfold behB fitB kp
  cases inB y 0 3000 with
  | false => rfl
  | true =>
    by_cases hf : f = -1
    · subst hf
      by_cases ho : o = -1
      · subst ho; rfl
      · simp [ho]
    · by_cases ho : o = -1
      · subst ho; simp [hf, List.filter, beq_eq_false_iff_ne.2 hf]
      · by_cases hfo : f < o
        · simp [hf, ho, hfo, List.filter, beq_eq_false_iff_ne.2 hf, beq_eq_false_iff_ne.2 ho, show ¬ o ≤ f by omega]
        · simp [hf, ho, hfo, List.filter, beq_eq_false_iff_ne.2 hf, beq_eq_false_iff_ne.2 ho, show o ≤ f by omega]
theorem kp_len (f o : Int) : (kp f o).length ≤ 2 := List.length_filter_le _ _
theorem sameQ {v : Value} {w : World} : ∀ e w', RetSame v w e w' → e = .returned v ∧ w' = w := fun _ _ h => ⟨h.1, h.2.symm⟩
theorem allOld_not {fs : List Kn} {m : Nat} {y : Int} {zs : List Int} (k : Nat) (hk : k < zs.length) (h : olderB fs m (zs.getD k 0) y = false) : (zs.all fun p => olderB fs m p y) = false := by
  cases e : zs.all fun p => olderB fs m p y with
  | false => rfl
  | true =>
    rw [List.all_eq_true] at e
    have := e zs[k] (List.getElem_mem hk)
    rw [show zs.getD k 0 = zs[k] by simp [List.getElem?_eq_getElem hk], this] at h
    exact absurd h (by simp)
theorem allOld_all {fs : List Kn} {m : Nat} {y : Int} {zs : List Int} (h : ∀ k, k < zs.length → olderB fs m (zs.getD k 0) y = true) : (zs.all fun p => olderB fs m p y) = true := by
  rw [List.all_eq_true]
  intro z hz
  obtain ⟨j, hj, rfl⟩ := List.getElem_of_mem hz
  simpa [List.getElem?_eq_getElem hj] using h j hj
set_option maxHeartbeats 4000000 in
theorem behind_any (b m c : Nat) (fs : List Kn) (y f o : Int) (w : World) (hm : m ≤ 14) (hbl : b < w.heap.size) (hI : ∀ j, j < m → w.cell? ⟨b, j * 3, none⟩ = some (.int .i64 (at3 fs j).1)) (hB : Bd fs m) :
    Calls Try.prog 86 #[.slice (some ⟨b, 0, none⟩) m c, .agg #[.int .i64 y, .int .i64 f, .int .i64 o]] w (Ret (.bool (fitB fs m (y, f, o))) w) := by
  rw [← behB_eq]
  have hw1 := Lib.hid ((Below.refl w.heap.size w).alloc (Nat.le_refl _) (.cells #[.int .i64 y, .int .i64 f, .int .i64 o] 45))
  cases hy : inB y 0 3000 with
  | false =>
    rw [show behB fs m y f o = false by unfold behB; rw [hy]; rfl]
    clear hI hB
    go_enter Try.func86, Try.ntmps86
    go_wp2_with (first | (go_at_call 57; refine (isWithin_any _ _ _ _).mono ?_; rintro e w' ⟨rfl, rfl⟩))
    go_ret
    exact ⟨rfl, hw1.out⟩
  | true =>
  have hy' := inB_iff.1 hy
  by_cases ho : o = -1
  · subst ho
    have HE : Hid (behB fs m y f (-1) = (kp f (-1)).all fun p => olderB fs m p y) := Lib.hid (by unfold behB; rw [hy]; simp)
    go_enter Try.func86, Try.ntmps86
    go_wp2_with (first | (go_at_call 57; refine (isWithin_any _ _ _ _).mono ?_; rintro e w' ⟨rfl, rfl⟩) | (go_at_call 90; refine (known_any y f (-1) _).mono ?_; rintro e w1 ⟨g, rfl, hg, ho1, hb1⟩))
    have hbw := Lib.hid (hw1.out.trans (hb1.mono (by simp)))
    have hsz1 := hb1.size
    have hcy : w1.cell? ⟨w.heap.size, 0, none⟩ = some (.int .i64 y) := (hb1.cell (p := ⟨w.heap.size, 0, none⟩) (by simp)).trans (by simp [go_sem])
    have HZ := Lib.hid ho1.shape.2.2.2.2.1
    have HC := Lib.hid (fun j (hj : j < m) => (hbw.out.cell (p := ⟨b, j * 3, none⟩) hbl).trans (hI j hj))
    clear hI ho1 hb1
    have hz2 := kp_len f (-1)
    generalize hzs : kp f (-1) = zs at HE HZ hz2 ⊢
    clear hzs
    have hzn : Hid (zs.length = zs.length) := Lib.hid (show zs.length = zs.length from rfl)
    generalize hnz : zs.length = nz at *
    have HN := Lib.hid hnz
    clear hnz hzn
    go_loopw [29] (fun v wr => ∃ (k : Nat), k ≤ nz ∧ v = .int .i64 k ∧ Hid (∃ d, wr = w1.drewN d) ∧ Hid (∀ j, j < k → olderB fs m (zs.getD j 0) y = true)) (fun v _ => nz - (intOf v).toNat)
    case atStart => exact ⟨0, Nat.zero_le _, rfl, Lib.hid ⟨0, rfl⟩, Lib.hid (fun j hj => absurd hj (by omega))⟩
    case round =>
      obtain ⟨k, hk, rfl, HD, HA⟩ := hrel
      have hcw : ∀ a, wr.cell? a = w1.cell? a := by obtain ⟨d, rfl⟩ := HD.out; intro a; rfl
      have hbd := Lib.hid (show Below w.heap.size w wr by obtain ⟨d, rfl⟩ := HD.out; exact below_drewN hbw.out _)
      have hcy2 : wr.cell? ⟨w.heap.size, 0, none⟩ = some (.int .i64 y) := (hcw _).trans hcy
      by_cases hlt : k < nz
      · have hc := HZ.out k (by rw [HN.out]; exact hlt)
        rw [Nat.zero_add, ← hcw] at hc
        have HX := Lib.hid (fun h => allOld_not (fs := fs) (m := m) (y := y) (zs := zs) k (by rw [HN.out]; exact hlt) h)
        have HY := Lib.hid (show olderB fs m (zs.getD k 0) y = olderB fs m (zs.getD k 0) y from rfl)
        have HA2 := Lib.hid (fun (h : olderB fs m (zs.getD k 0) y = true) => (fun j (hj : j < k + 1) => (by rcases Nat.lt_succ_iff_lt_or_eq.1 hj with h' | rfl; exact HA.out j h'; exact h) : ∀ j, j < k + 1 → olderB fs m (zs.getD j 0) y = true))
        clear HY
        generalize zs.getD k 0 = p at hc HX HA2
        have hk0 : (0 : Int) ≤ (k : Int) := by omega
        have hk1 : (k : Int) < (nz : Int) := by omega
        have hwm : IntKind.i64.wrap ((m : Int) - 1) = (m : Int) - 1 := IntWalk.i64_in _ (by omega)
        have HCW := Lib.hid hcw
        clear hcw hcy
        cases h1 : inB p 0 ((m : Int) - 1) with
        | false =>
          have HF := Lib.hid (HX.out (by unfold olderB; rw [h1]; rfl))
          have HL1 := Lib.hid (fun W => isWithin_any p 0 ((m : Int) - 1) W)
          rw [h1] at HL1
          go_wp2_with fail
          go_quiet (first | (go_at_call 57; exact Calls.quiet_of_same ((HL1.out _).mono sameQ)))
          go_wp2_with fail
          go_ret
          exact ⟨by rw [HE.out, HF.out]; rfl, below_drewN hbd.out _⟩
        | true =>
          have hp := inB_iff.1 h1
          have HL1 := Lib.hid (fun W => isWithin_any p 0 ((m : Int) - 1) W)
          rw [h1] at HL1
          obtain ⟨q, rfl⟩ : ∃ q : Nat, p = q := ⟨p.toNat, by omega⟩
          have hx := HC.out q (by omega)
          rw [← HCW.out] at hx
          have hbx := hB q (by omega)
          have e0 : olderB fs m (q : Int) y = decide (14 ≤ y - (at3 fs q).1) := by unfold olderB; rw [h1]; simp
          rw [e0] at HX HA2
          clear e0
          generalize (at3 fs q).1 = x at hx hbx HX HA2
          have hq0 : (0 : Int) ≤ (q : Int) := by omega
          have hq1 : (q : Int) < (m : Int) := by omega
          have hwr : IntKind.i64.wrap (y - x) = y - x := IntWalk.i64_in _ (by omega)
          by_cases h14 : 14 ≤ y - x
          · have hd : decide (y - x < 14) = false := decide_eq_false (by omega)
            have HA3 := Lib.hid (HA2.out (decide_eq_true h14))
            go_wp2_with fail
            go_quiet (first | (go_at_call 57; exact Calls.quiet_of_same ((HL1.out _).mono sameQ)))
            go_wp2_with fail
            go_roundw
            case rel => exact ⟨k + 1, by omega, by go_num, Lib.hid (by obtain ⟨d, hd⟩ := HD.out; exact ⟨_, by rw [hd, World.drewN_drewN]⟩), HA3⟩
            case measure => simp [intOf]; omega
          · have hd : decide (y - x < 14) = true := decide_eq_true (by omega)
            have HF := Lib.hid (HX.out (decide_eq_false h14))
            go_wp2_with fail
            go_quiet (first | (go_at_call 57; exact Calls.quiet_of_same ((HL1.out _).mono sameQ)))
            go_wp2_with fail
            go_ret
            exact ⟨by rw [HE.out, HF.out]; rfl, below_drewN hbd.out _⟩
      · have hkn : ¬ (k : Int) < (nz : Int) := by omega
        have HF := Lib.hid (allOld_all (fs := fs) (m := m) (y := y) (zs := zs) (fun j hj => HA.out j (by rw [HN.out] at hj; omega)))
        go_wp2_with fail
        go_ret
        exact ⟨by rw [HE.out, HF.out]; rfl, hbd.out⟩
  · have ho' : (o == -1) = false := beq_eq_false_iff_ne.2 ho
    have hoo : (o != -1) = true := by simp [bne, ho']
    by_cases hf : f = -1
    · subst hf
      rw [show behB fs m y (-1) o = false by unfold behB; rw [hy, ho']; rfl]
      clear hI hB
      go_enter Try.func86, Try.ntmps86
      go_wp2_with (first | (go_at_call 57; refine (isWithin_any _ _ _ _).mono ?_; rintro e w' ⟨rfl, rfl⟩))
      go_ret
      exact ⟨rfl, hw1.out⟩
    · have hf' : (f == -1) = false := beq_eq_false_iff_ne.2 hf
      by_cases hfo : o ≤ f
      · rw [show behB fs m y f o = false by unfold behB; rw [hy, ho']; simp [hfo]]
        clear hI hB
        go_enter Try.func86, Try.ntmps86
        go_wp2_with (first | (go_at_call 57; refine (isWithin_any _ _ _ _).mono ?_; rintro e w' ⟨rfl, rfl⟩))
        go_ret
        exact ⟨rfl, hw1.out⟩
      · have HE : Hid (behB fs m y f o = (kp f o).all fun p => olderB fs m p y) := Lib.hid (by unfold behB; rw [hy]; simp [hf', hfo])
        go_enter Try.func86, Try.ntmps86
        go_wp2_with (first | (go_at_call 57; refine (isWithin_any _ _ _ _).mono ?_; rintro e w' ⟨rfl, rfl⟩) | (go_at_call 90; refine (known_any y f o _).mono ?_; rintro e w1 ⟨g, rfl, hg, ho1, hb1⟩))
        have hbw := Lib.hid (hw1.out.trans (hb1.mono (by simp)))
        have hsz1 := hb1.size
        have hcy : w1.cell? ⟨w.heap.size, 0, none⟩ = some (.int .i64 y) := (hb1.cell (p := ⟨w.heap.size, 0, none⟩) (by simp)).trans (by simp [go_sem])
        have HZ := Lib.hid ho1.shape.2.2.2.2.1
        have HC := Lib.hid (fun j (hj : j < m) => (hbw.out.cell (p := ⟨b, j * 3, none⟩) hbl).trans (hI j hj))
        clear hI ho1 hb1
        have hz2 := kp_len f o
        generalize hzs : kp f o = zs at HE HZ hz2 ⊢
        clear hzs
        have hzn : Hid (zs.length = zs.length) := Lib.hid (show zs.length = zs.length from rfl)
        generalize hnz : zs.length = nz at *
        have HN := Lib.hid hnz
        clear hnz hzn
        go_loopw [29] (fun v wr => ∃ (k : Nat), k ≤ nz ∧ v = .int .i64 k ∧ Hid (∃ d, wr = w1.drewN d) ∧ Hid (∀ j, j < k → olderB fs m (zs.getD j 0) y = true)) (fun v _ => nz - (intOf v).toNat)
        case atStart => exact ⟨0, Nat.zero_le _, rfl, Lib.hid ⟨0, rfl⟩, Lib.hid (fun j hj => absurd hj (by omega))⟩
        case round =>
          obtain ⟨k, hk, rfl, HD, HA⟩ := hrel
          have hcw : ∀ a, wr.cell? a = w1.cell? a := by obtain ⟨d, rfl⟩ := HD.out; intro a; rfl
          have hbd := Lib.hid (show Below w.heap.size w wr by obtain ⟨d, rfl⟩ := HD.out; exact below_drewN hbw.out _)
          have hcy2 : wr.cell? ⟨w.heap.size, 0, none⟩ = some (.int .i64 y) := (hcw _).trans hcy
          by_cases hlt : k < nz
          · have hc := HZ.out k (by rw [HN.out]; exact hlt)
            rw [Nat.zero_add, ← hcw] at hc
            have HX := Lib.hid (fun h => allOld_not (fs := fs) (m := m) (y := y) (zs := zs) k (by rw [HN.out]; exact hlt) h)
            have HY := Lib.hid (show olderB fs m (zs.getD k 0) y = olderB fs m (zs.getD k 0) y from rfl)
            have HA2 := Lib.hid (fun (h : olderB fs m (zs.getD k 0) y = true) => (fun j (hj : j < k + 1) => (by rcases Nat.lt_succ_iff_lt_or_eq.1 hj with h' | rfl; exact HA.out j h'; exact h) : ∀ j, j < k + 1 → olderB fs m (zs.getD j 0) y = true))
            clear HY
            generalize zs.getD k 0 = p at hc HX HA2
            have hk0 : (0 : Int) ≤ (k : Int) := by omega
            have hk1 : (k : Int) < (nz : Int) := by omega
            have hwm : IntKind.i64.wrap ((m : Int) - 1) = (m : Int) - 1 := IntWalk.i64_in _ (by omega)
            have HCW := Lib.hid hcw
            clear hcw hcy
            cases h1 : inB p 0 ((m : Int) - 1) with
            | false =>
              have HF := Lib.hid (HX.out (by unfold olderB; rw [h1]; rfl))
              have HL1 := Lib.hid (fun W => isWithin_any p 0 ((m : Int) - 1) W)
              rw [h1] at HL1
              go_wp2_with fail
              go_quiet (first | (go_at_call 57; exact Calls.quiet_of_same ((HL1.out _).mono sameQ)))
              go_wp2_with fail
              go_ret
              exact ⟨by rw [HE.out, HF.out]; rfl, below_drewN hbd.out _⟩
            | true =>
              have hp := inB_iff.1 h1
              have HL1 := Lib.hid (fun W => isWithin_any p 0 ((m : Int) - 1) W)
              rw [h1] at HL1
              obtain ⟨q, rfl⟩ : ∃ q : Nat, p = q := ⟨p.toNat, by omega⟩
              have hx := HC.out q (by omega)
              rw [← HCW.out] at hx
              have hbx := hB q (by omega)
              have e0 : olderB fs m (q : Int) y = decide (14 ≤ y - (at3 fs q).1) := by unfold olderB; rw [h1]; simp
              rw [e0] at HX HA2
              clear e0
              generalize (at3 fs q).1 = x at hx hbx HX HA2
              have hq0 : (0 : Int) ≤ (q : Int) := by omega
              have hq1 : (q : Int) < (m : Int) := by omega
              have hwr : IntKind.i64.wrap (y - x) = y - x := IntWalk.i64_in _ (by omega)
              by_cases h14 : 14 ≤ y - x
              · have hd : decide (y - x < 14) = false := decide_eq_false (by omega)
                have HA3 := Lib.hid (HA2.out (decide_eq_true h14))
                go_wp2_with fail
                go_quiet (first | (go_at_call 57; exact Calls.quiet_of_same ((HL1.out _).mono sameQ)))
                go_wp2_with fail
                go_roundw
                case rel => exact ⟨k + 1, by omega, by go_num, Lib.hid (by obtain ⟨d, hd⟩ := HD.out; exact ⟨_, by rw [hd, World.drewN_drewN]⟩), HA3⟩
                case measure => simp [intOf]; omega
              · have hd : decide (y - x < 14) = true := decide_eq_true (by omega)
                have HF := Lib.hid (HX.out (decide_eq_false h14))
                go_wp2_with fail
                go_quiet (first | (go_at_call 57; exact Calls.quiet_of_same ((HL1.out _).mono sameQ)))
                go_wp2_with fail
                go_ret
                exact ⟨by rw [HE.out, HF.out]; rfl, below_drewN hbd.out _⟩
          · have hkn : ¬ (k : Int) < (nz : Int) := by omega
            have HF := Lib.hid (allOld_all (fs := fs) (m := m) (y := y) (zs := zs) (fun j hj => HA.out j (by rw [HN.out] at hj; omega)))
            go_wp2_with fail
            go_ret
            exact ⟨by rw [HE.out, HF.out]; rfl, hbd.out⟩
end Go.Proofs.Ytmlcelleohhmcaa
