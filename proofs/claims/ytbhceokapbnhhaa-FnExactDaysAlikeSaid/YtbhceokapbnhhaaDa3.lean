/- Days on which two are of one age, of the program, and both texts. -/
import Derived.Test.YtbhceokapbnhhaaDa2
set_option linter.unusedVariables false
set_option linter.unusedSimpArgs false
namespace Go.Proofs.Ytbhceokapbnhhaa
open Go.RowKit

theorem alike_no1 {a b : Dt} {yr : Int} (h : twoD a b = false) : alikeB a b yr = false ∧ alikeR a b yr = 0 := by
  have e : alikeB a b yr = false := by
    unfold twoD at h
    unfold alikeB
    rw [h]; rfl
  exact ⟨e, alikeR_no e⟩
theorem alike_two {a b : Dt} {yr : Int} (h : twoD a b = true) : alikeB a b yr = inB yr (max a.1 b.1 + 1) 3000 := by
  unfold twoD at h
  have h' := h
  rw [Bool.and_eq_true] at h'
  have h1 := dateB_iff.1 h'.1
  have h2 := dateB_iff.1 h'.2
  unfold alikeB
  rw [h]
  cases e : inB yr (max a.1 b.1 + 1) 3000 with
  | true =>
    have := inB_iff.1 e
    rw [show inB yr 0 3000 = true from inB_true (by omega) (by omega), decide_eq_true (show a.1 < yr by omega), decide_eq_true (show b.1 < yr by omega)]; rfl
  | false =>
    have := inB_not.1 e
    by_cases h3 : yr ≤ 3000
    · by_cases h4 : a.1 < yr
      · rw [decide_eq_false (show ¬ b.1 < yr by omega), Bool.and_false]
      · rw [decide_eq_false h4, Bool.and_false, Bool.false_and]
    · rw [show inB yr 0 3000 = false from inB_not.2 (by omega), Bool.and_false, Bool.false_and, Bool.false_and]
def loP (f s : Nat) : Nat → Nat
  | 0 => 0
  | 1 => f
  | _ => s
def hiP (f s : Nat) : Nat → Nat
  | 0 => f
  | 1 => s
  | _ => 365
def cpP (f s : Nat) : Nat → Nat
  | 0 => f
  | 1 => s - f
  | _ => 365 - s
def adP (f s : Nat) : Nat → Nat
  | 0 => 0
  | 1 => if s = f then 0 else f * 2
  | _ => s * 2
theorem adP_is {f s : Nat} : ∀ k, k < 3 → 0 < hiP f s k - loP f s k → adP f s k = loP f s k * 2
  | 0, _, _ => rfl
  | 1, _, h => by
    have h' : 0 < s - f := h
    show (if s = f then 0 else f * 2) = f * 2
    rw [if_neg (by omega)]
  | _ + 2, _, _ => rfl
theorem hiP_le {f s : Nat} (h1 : f ≤ s) (h2 : s ≤ 365) : ∀ k, hiP f s k ≤ 365
  | 0 => Nat.le_trans h1 h2
  | 1 => h2
  | _ + 2 => Nat.le_refl _
theorem loP_hiP {f s : Nat} (h1 : f ≤ s) (h2 : s ≤ 365) : ∀ k, k < 3 → loP f s k ≤ hiP f s k ∧ hiP f s k ≤ 365
  | 0, _ => ⟨Nat.zero_le _, Nat.le_trans h1 h2⟩
  | 1, _ => ⟨h1, h2⟩
  | _ + 2, _ => ⟨h2, Nat.le_refl _⟩
theorem cnt_parts (a b : Dt) (yr : Int) (f s : Nat) : cntN a b yr (loP f s) (hiP f s) 3 = partN a b yr 0 f + partN a b yr f s + partN a b yr s 365 := by
  show 0 + partN a b yr 0 f + partN a b yr f s + partN a b yr s 365 = _
  rw [Int.zero_add]
theorem reads_made {wz : World} {ga gb g f s : Nat} {y d y2 d2 yr : Int} (h1 : wz.cell? ⟨ga, 0, none⟩ = some (.int .i64 y)) (h2 : wz.cell? ⟨ga, 1, none⟩ = some (.int .i64 d)) (h3 : wz.cell? ⟨gb, 0, none⟩ = some (.int .i64 y2)) (h4 : wz.cell? ⟨gb, 1, none⟩ = some (.int .i64 d2)) (h5 : Dts wz g 0 (dayL yr)) (h6 : g < wz.heap.size) (aa m : Nat) (haa : aa = adP f s 1) (hm : m = s - f) (t : TypeId) :
    Reads (wz.alloc (.cells #[.slice (some ⟨g, 0, none⟩) f f, .slice (some ⟨g, aa, none⟩) m m, .slice (some ⟨g, s * 2, none⟩) (365 - s) (365 - s)] t)).drew ga gb g wz.heap.size y d y2 d2 yr (loP f s) (hiP f s) (cpP f s) (adP f s) := by
  subst haa
  subst hm
  refine ⟨cell_above h1 _, cell_above h2 _, cell_above h3 _, cell_above h4 _, h5.kept ((Below.refl wz.heap.size wz).alloc (Nat.le_refl _) _).drew h6, fun k hk => ?_⟩
  match k, hk with
  | 0, _ => simp [go_sem, loP, hiP, cpP, adP]
  | 1, _ => simp [go_sem, loP, hiP, cpP]
  | 2, _ => simp [go_sem, loP, hiP, cpP, adP]
theorem alike_end {a b : Dt} {yr : Int} {w w' : World} {r : Int} {ok : Bool} (h : alikeB a b yr = ok ∧ alikeR a b yr = r) (hb : Below w.heap.size w w') :
    RetIB (alikeR a b yr) (alikeB a b yr) w (.returned (.tuple #[.int .i64 r, .bool ok])) w' := by
  rw [h.1, h.2]; exact ⟨rfl, hb⟩
set_option maxHeartbeats 4000000 in
set_option maxRecDepth 100000 in
theorem imDaysAlike_any (y d y2 d2 yr : Int) (w : World) : Calls Try.prog 44 #[.agg #[.int .i64 y, .int .i64 d], .agg #[.int .i64 y2, .int .i64 d2], .int .i64 yr] w (RetIB (alikeR (y, d) (y2, d2) yr) (alikeB (y, d) (y2, d2) yr) w) := by
  have HW0 := Lib.hid ((((Below.refl w.heap.size w).alloc (Nat.le_refl _) (.cells #[.int .i64 y, .int .i64 d] 34)).alloc (by simp) (.cells #[.int .i64 y2, .int .i64 d2] 34)))
  have HA0 := fun W => imAreDates_any y d y2 d2 W
  cases h1 : twoD (y, d) (y2, d2) with
  | false =>
    have HE := Lib.hid (alike_no1 (yr := yr) h1)
    rw [h1] at HA0
    have HA := Lib.hid HA0
    clear HA0 h1
    go_enter Try.func44, Try.ntmps44
    go_wp2_with (first | (go_at_call 71; refine (HA.out _).mono ?_; rintro e w' ⟨rfl, hcall⟩; have hbw : Below w.heap.size w w' := (by first | exact Below.trans (by assumption) (Below.mono hcall (Below.size (by assumption))) | exact Below.trans (Below.drew (by assumption)) (Below.mono hcall (Below.size (Below.drew (by assumption)))) | exact HW0.out.trans (hcall.mono (by simp <;> omega)) | exact HW0.out.drew.trans (hcall.mono (by simp <;> omega))); have q1 : w'.cell? ⟨w.heap.size, 0, none⟩ = some (.int .i64 y) := below_cell2 hcall (by first | assumption | (simp; done) | (simp [go_sem]; done) | simp [*]); have q2 : w'.cell? ⟨w.heap.size, 1, none⟩ = some (.int .i64 d) := below_cell2 hcall (by first | assumption | (simp; done) | (simp [go_sem]; done) | simp [*]); have q3 : w'.cell? ⟨w.heap.size + 1, 0, none⟩ = some (.int .i64 y2) := below_cell2 hcall (by first | assumption | (simp; done) | (simp [go_sem]; done) | simp [*]); have q4 : w'.cell? ⟨w.heap.size + 1, 1, none⟩ = some (.int .i64 d2) := below_cell2 hcall (by first | assumption | (simp; done) | (simp [go_sem]; done) | simp [*]); clear hcall))
    go_ret2
    exact alike_end HE.out hbw
  | true =>
  have h12 := (Bool.and_eq_true _ _).mp (show (dateB (y, d) && dateB (y2, d2)) = true from h1)
  have hy1 := dateB_iff.1 h12.1
  have hy2 := dateB_iff.1 h12.2
  simp only at hy1 hy2
  cases h2 : inB yr (max y y2 + 1) 3000 with
  | false =>
    have HE := Lib.hid (show alikeB (y, d) (y2, d2) yr = false ∧ alikeR (y, d) (y2, d2) yr = 0 from by
      have e := (alike_two (yr := yr) h1).trans h2
      exact ⟨e, alikeR_no e⟩)
    rw [h1] at HA0
    have HA := Lib.hid HA0
    have HI := Lib.hid (fun (m : Int) (hm : m = max y y2 + 1) W => (show Calls Try.prog 46 #[.int .i64 yr, .int .i64 m, .int .i64 3000] W (RetSame (.bool false) W) from by rw [← h2, ← hm]; exact imWithin_any _ _ _ _))
    clear HA0 h1 h2 h12
    go_enter Try.func44, Try.ntmps44
    go_wp2_with (first | (go_at_call 71; refine (HA.out _).mono ?_; rintro e w' ⟨rfl, hcall⟩; have hbw : Below w.heap.size w w' := (by first | exact Below.trans (by assumption) (Below.mono hcall (Below.size (by assumption))) | exact Below.trans (Below.drew (by assumption)) (Below.mono hcall (Below.size (Below.drew (by assumption)))) | exact HW0.out.trans (hcall.mono (by simp <;> omega)) | exact HW0.out.drew.trans (hcall.mono (by simp <;> omega))); have q1 : w'.cell? ⟨w.heap.size, 0, none⟩ = some (.int .i64 y) := below_cell2 hcall (by first | assumption | (simp; done) | (simp [go_sem]; done) | simp [*]); have q2 : w'.cell? ⟨w.heap.size, 1, none⟩ = some (.int .i64 d) := below_cell2 hcall (by first | assumption | (simp; done) | (simp [go_sem]; done) | simp [*]); have q3 : w'.cell? ⟨w.heap.size + 1, 0, none⟩ = some (.int .i64 y2) := below_cell2 hcall (by first | assumption | (simp; done) | (simp [go_sem]; done) | simp [*]); have q4 : w'.cell? ⟨w.heap.size + 1, 1, none⟩ = some (.int .i64 d2) := below_cell2 hcall (by first | assumption | (simp; done) | (simp [go_sem]; done) | simp [*]); clear hcall) | (go_at_call 46; refine (HI.out _ (by omega) _).mono ?_; rintro e w' ⟨rfl, rfl⟩))
    all_goals
      go_ret2
      exact alike_end HE.out hbw
  | true =>
    have hyr := inB_iff.1 h2
    obtain ⟨f, hf⟩ : ∃ f : Nat, min d d2 - 1 = (f : Int) := ⟨(min d d2 - 1).toNat, by omega⟩
    obtain ⟨s, hs⟩ : ∃ s : Nat, max d d2 - 1 = (s : Int) := ⟨(max d d2 - 1).toNat, by omega⟩
    have hfs : f ≤ s := by omega
    have hs4 : s ≤ 364 := by omega
    have HE := Lib.hid (show alikeB (y, d) (y2, d2) yr = true ∧ alikeR (y, d) (y2, d2) yr = cntN (y, d) (y2, d2) yr (loP f s) (hiP f s) 3 from by
      have e := (alike_two (yr := yr) h1).trans h2
      refine ⟨e, ?_⟩
      rw [cnt_parts, ← alikeN_parts (y, d) (y2, d2) yr f s (by simp only; omega) (by simp only; omega) (by omega)]
      unfold alikeR
      rw [if_pos e])
    have HC := Lib.hid (fun (ga gb gd gp : Nat) (W : World) (R : Reads W ga gb gd gp y d y2 d2 yr (loP f s) (hiP f s) (cpP f s) (adP f s)) => imCountAlike_any ga gb gd gp y d y2 d2 yr (loP f s) (hiP f s) (cpP f s) (adP f s) W h12.1 h12.2 (by omega) (by omega) (by omega) (loP_hiP hfs (by omega)) (hiP_le hfs (by omega)) adP_is R)
    have HD := Lib.hid (fun W => imDaysOf_any yr W (by omega))
    have k2 : IntKind.i64.wrap (min d d2 - 1) = (f : Int) := by rw [← hf]; exact IntWalk.i64_in _ (by omega)
    have k3 : IntKind.i64.wrap (max d d2 - 1) = (s : Int) := by rw [← hs]; exact IntWalk.i64_in _ (by omega)
    rw [h1] at HA0
    have HA := Lib.hid HA0
    have HI := Lib.hid (fun (m : Int) (hm : m = max y y2 + 1) W => (show Calls Try.prog 46 #[.int .i64 yr, .int .i64 m, .int .i64 3000] W (RetSame (.bool true) W) from by rw [← h2, ← hm]; exact imWithin_any _ _ _ _))
    generalize cntN (y, d) (y2, d2) yr (loP f s) (hiP f s) 3 = cn at HE HC
    clear HA0 h1 h2 h12 hyr
    go_enter Try.func44, Try.ntmps44
    go_wp2_with (first | (go_at_call 71; refine (HA.out _).mono ?_; rintro e w' ⟨rfl, hcall⟩; have hbw : Below w.heap.size w w' := (by first | exact Below.trans (by assumption) (Below.mono hcall (Below.size (by assumption))) | exact Below.trans (Below.drew (by assumption)) (Below.mono hcall (Below.size (Below.drew (by assumption)))) | exact HW0.out.trans (hcall.mono (by simp <;> omega)) | exact HW0.out.drew.trans (hcall.mono (by simp <;> omega))); have q1 : w'.cell? ⟨w.heap.size, 0, none⟩ = some (.int .i64 y) := below_cell2 hcall (by first | assumption | (simp; done) | (simp [go_sem]; done) | simp [*]); have q2 : w'.cell? ⟨w.heap.size, 1, none⟩ = some (.int .i64 d) := below_cell2 hcall (by first | assumption | (simp; done) | (simp [go_sem]; done) | simp [*]); have q3 : w'.cell? ⟨w.heap.size + 1, 0, none⟩ = some (.int .i64 y2) := below_cell2 hcall (by first | assumption | (simp; done) | (simp [go_sem]; done) | simp [*]); have q4 : w'.cell? ⟨w.heap.size + 1, 1, none⟩ = some (.int .i64 d2) := below_cell2 hcall (by first | assumption | (simp; done) | (simp [go_sem]; done) | simp [*]); clear hcall) | (go_at_call 46; refine (HI.out _ (by omega) _).mono ?_; rintro e w' ⟨rfl, rfl⟩) | (go_at_call 74; refine (HD.out _).mono ?_; rintro e w2 ⟨g, hg, rfl, hg2, hdd, hcall⟩; have hb2 := hbw.trans (hcall.mono hbw.size); have x1 := below_cell2 hcall q1; have x2 := below_cell2 hcall q2; have x3 := below_cell2 hcall q3; have x4 := below_cell2 hcall q4; clear hcall))
    all_goals
      clear q1 q2 q3 q4 HA HI HD
      go_region
      have e1 : (if d2 < d then d2 else d) - 1 = (f : Int) := by split <;> omega
      have e2 : (if d < d2 then d2 else d) - 1 = (s : Int) := by split <;> omega
      have z1 : w2.drew.cell? ⟨w.heap.size, 0, none⟩ = some (.int .i64 y) := x1
      have z2 : w2.drew.cell? ⟨w.heap.size, 1, none⟩ = some (.int .i64 d) := x2
      have z3 : w2.drew.cell? ⟨w.heap.size + 1, 0, none⟩ = some (.int .i64 y2) := x3
      have z4 : w2.drew.cell? ⟨w.heap.size + 1, 1, none⟩ = some (.int .i64 d2) := x4
      have z5 : Dts w2.drew g 0 (dayL yr) := hdd
      have z6 := hb2.drew
      have z7 : g < w2.drew.heap.size := hg2
      rw [e1, e2]
      generalize (if d2 < d then d2 else d) = u1
      generalize (if d < d2 then d2 else d) = u2
      clear e1 e2 x1 x2 x3 x4 hdd hb2 hg2 k2 k3 hf hs hy1 hy2
      generalize w2.drew = wz at z1 z2 z3 z4 z5 z6 z7 ⊢
      have hf0 : (f : Int) ≤ (s : Int) := by omega
      have hf1 : (s : Int) ≤ 364 := by omega
      have hf2 : ¬ (365 = s) := by omega
      have hzs := z6.size
      by_cases hfeq : s = f
      · subst hfeq
        have HAD := Lib.hid (show 0 = adP s s 1 from by show 0 = (if s = s then 0 else s * 2); rw [if_pos rfl])
        go_wp2_with fail
        go_region_with (go_at_call 72; refine (HC.out _ _ _ _ _ (by first | exact reads_made z1 z2 z3 z4 z5 z7 _ _ HAD.out rfl _ | exact reads_made z1 z2 z3 z4 z5 z7 _ _ HAD.out (Nat.sub_self _).symm _)).mono ?_; rintro e w3 ⟨rfl, hcall⟩; have hbf : Below w.heap.size w w3 := ((z6.alloc z6.size _).drew).trans (hcall.mono (by simp <;> omega)); clear hcall)
        all_goals
          go_wp2_with fail
          go_ret2
          exact alike_end HE.out hbf
      · have HAD := Lib.hid (show f * 2 = adP f s 1 from by show f * 2 = (if s = f then 0 else f * 2); rw [if_neg hfeq])
        go_wp2_with fail
        go_region_with (go_at_call 72; refine (HC.out _ _ _ _ _ (by first | exact reads_made z1 z2 z3 z4 z5 z7 _ _ HAD.out rfl _ | exact reads_made z1 z2 z3 z4 z5 z7 _ _ HAD.out (Nat.sub_self _).symm _)).mono ?_; rintro e w3 ⟨rfl, hcall⟩; have hbf : Below w.heap.size w w3 := ((z6.alloc z6.size _).drew).trans (hcall.mono (by simp <;> omega)); clear hcall)
        all_goals
          go_wp2_with fail
          go_ret2
          exact alike_end HE.out hbf
theorem daysAlike_both (y1 d1 y2 d2 yr : Int) : ∃ r ok,
    (∀ w, Calls Try.prog 43 #[.agg #[.int .i64 y1, .int .i64 d1], .agg #[.int .i64 y2, .int .i64 d2], .int .i64 yr] w (RetIB r ok w)) ∧
    (∀ w, Calls Try.prog 44 #[.agg #[.int .i64 y1, .int .i64 d1], .agg #[.int .i64 y2, .int .i64 d2], .int .i64 yr] w (RetIB r ok w)) :=
  ⟨_, _, fun w => specDaysAlike_any y1 d1 y2 d2 yr w, fun w => imDaysAlike_any y1 d1 y2 d2 yr w⟩
end Go.Proofs.Ytbhceokapbnhhaa
