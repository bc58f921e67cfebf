/- The known parents: the program's text. -/
import Derived.Test.YtmlcelleohhmcaaFa1
import Derived.Lib.SliceRun
set_option linter.unusedVariables false
set_option linter.unusedSimpArgs false
namespace Go.Proofs.Ytmlcelleohhmcaa
open Go.RowKit

/-- The numbers that are not -1. -/
def kp (f o : Int) : List Int := [f, o].filter fun x => !(x == -1)
theorem isNone_any (x : Int) (w : World) : Calls Try.prog 92 #[.int .i64 x] w (RetSame (.bool (x == -1)) w) := by
  go_enter Try.func92, Try.ntmps92
  go_wp2
  go_ret
  exact ⟨rfl, rfl⟩
def ix2 (f o : Int) : Int := if f = -1 then 0 else if o = -1 then 1 else -1
set_option maxHeartbeats 1000000 in
theorem index2_any (g : Nat) (f o : Int) (w : World) (h0 : w.cell? ⟨g, 0, none⟩ = some (.int .i64 f)) (h1 : w.cell? ⟨g, 1, none⟩ = some (.int .i64 o)) :
    Calls Try.prog 93 #[.slice (some ⟨g, 0, none⟩) 2 2, .func (.func 92) #[] #[]] w (RetSame (.int .i64 (ix2 f o)) w) := by
  by_cases hf : f = -1
  · rw [show ix2 f o = 0 by unfold ix2; rw [if_pos hf]]
    subst hf
    go_enter Try.func93, Try.ntmps93
    go_wp2
    refine wp_loop_rounds 3 ?_
    repeat any_goals (rw [rounds_succ]; go_wp2_with (go_at_call 92; refine (isNone_any _ _).mono ?_; rintro e w' ⟨rfl, rfl⟩))
    all_goals
      go_ret
      exact ⟨rfl, rfl⟩
  · have hf' : (f == -1) = false := beq_eq_false_iff_ne.2 hf
    by_cases ho : o = -1
    · rw [show ix2 f o = 1 by unfold ix2; rw [if_neg hf, if_pos ho]]
      subst ho
      clear hf
      go_enter Try.func93, Try.ntmps93
      go_wp2
      refine wp_loop_rounds 3 ?_
      repeat any_goals (rw [rounds_succ]; go_wp2_with (go_at_call 92; refine (isNone_any _ _).mono ?_; rintro e w' ⟨rfl, rfl⟩))
      all_goals
        go_ret
        exact ⟨rfl, rfl⟩
    · have ho' : (o == -1) = false := beq_eq_false_iff_ne.2 ho
      rw [show ix2 f o = -1 by unfold ix2; rw [if_neg hf, if_neg ho]]
      clear hf ho
      go_enter Try.func93, Try.ntmps93
      go_wp2
      refine wp_loop_rounds 3 ?_
      repeat any_goals (rw [rounds_succ]; go_wp2_with (go_at_call 92; refine (isNone_any _ _).mono ?_; rintro e w' ⟨rfl, rfl⟩))
      all_goals
        go_ret
        exact ⟨rfl, rfl⟩

/-- The first numbers of a slice that is owned. -/
theorem Own.cut {B g c n : Nat} {w : World} {zs : List Int} (h : Own B w (.slice (some ⟨g, 0, none⟩) n c) zs) (m : Nat) (hm : m ≤ n) : Own B w (.slice (some ⟨g, 0, none⟩) m c) (zs.take m) := by
  have hn := h.shape.1
  obtain ⟨h1, h2⟩ := h
  have hl : (zs.take m).length = m := by simp; omega
  refine ⟨by simp, ?_⟩
  rcases h2 with ⟨h2, _⟩ | ⟨q, cap, cur, hv, hq, hc, h3, h4, h5, h6⟩
  · simp at h2
  · simp only [Value.slice.injEq, Option.some.injEq, Addr.mk.injEq, and_true, true_and] at hv
    obtain ⟨rfl, hv2, rfl⟩ := hv
    refine .inr ⟨g, c, cur, by rw [hl], hq, hc, by omega, h4, h5, ?_⟩
    rw [hl, List.map_take, ← h6, Nat.mul_one, Nat.mul_one, List.take_take, Nat.min_eq_left (by omega)]
theorem one_wf0 : (zeroValue 3).run Try.prog = fun w => .ok (.int .i64 0) w := by
  funext w; simp [go_sem]
/-- Two numbers that were written into a slice of two, cut at m. -/
theorem own_two {B g m : Nat} {w : World} {x y u v : Int} (h : Own B w (.slice (some ⟨g, 0, none⟩) 2 2) [x, y]) (hm : m ≤ 2) :
    Own B ((w.setCell ⟨g, 0, none⟩ (.int .i64 u)).setCell ⟨g, 1, none⟩ (.int .i64 v)) (.slice (some ⟨g, 0, none⟩) m 2) ([u, v].take m) := by
  have a := World.ownsRow.stored h 0 (.int .i64 u)
  have b := World.ownsRow.stored a.1 1 (.int .i64 v)
  have := b.1
  simp at this
  have h2 : Own B _ (.slice (some ⟨g, 0, none⟩) 2 2) [u, v] := this
  exact Own.cut h2 m hm
/-- A call cut the slice of two numbers in block g down to zs. -/
def RetCut (B g : Nat) (zs : List Int) (w : World) (e : Ending) (w' : World) : Prop :=
  e = .returned (.slice (some ⟨g, 0, none⟩) zs.length 2) ∧ Own B w' (.slice (some ⟨g, 0, none⟩) zs.length 2) zs ∧ w.grownBy w' (some g)
set_option maxHeartbeats 2000000 in
theorem delete2_any (B g : Nat) (f o : Int) (w : World) (h : Own B w (.slice (some ⟨g, 0, none⟩) 2 2) [f, o]) :
    Calls Try.prog 91 #[.slice (some ⟨g, 0, none⟩) 2 2, .func (.func 92) #[] #[]] w (RetCut B g (kp f o) w) := by
  have h0 : w.cell? ⟨g, 0, none⟩ = some (.int .i64 f) := h.shape.2.2.2.2.1 0 (by simp)
  have h1 : w.cell? ⟨g, 1, none⟩ = some (.int .i64 o) := h.shape.2.2.2.2.1 1 (by simp)
  have f0 := h.shape.2.2.2.2.2 0
  have f1 := h.shape.2.2.2.2.2 1
  have HX := Lib.hid (index2_any g f o w h0 h1)
  have z23 : ∀ w, (zeroValue 3).run Try.prog w = .ok (.int .i64 0) w := fun w => by simp [go_sem]
  have HO := Lib.hid h
  clear h
  by_cases hf : f = -1
  · rw [show ix2 f o = 0 by unfold ix2; rw [if_pos hf]] at HX
    subst hf
    by_cases ho : o = -1
    · subst ho
      have hcl := fun ty => Lib.run_clear_slice (P := Try.prog) w 24 3 ty (.int .i64 0) Try.underlying24 z23 rfl rfl g 0 2 2 (by omega) (fun t ht => by
        match t, ht with
        | 0, _ => rw [h0]; rfl
        | 1, _ => rw [h1]; rfl) (fun t ht => by
        match t, ht with
        | 0, _ => exact f0
        | 1, _ => exact f1)
      go_enter Try.func91, Try.ntmps91
      go_wp2_with (first | (go_at_call 93; refine (HX.out).mono ?_; rintro e w' ⟨rfl, rfl⟩) | (go_at_call 92; refine (isNone_any _ _).mono ?_; rintro e w' ⟨rfl, rfl⟩))
      refine wp_loop_rounds 3 ?_
      repeat any_goals (rw [rounds_succ]; go_wp2_with (first | (go_at_call 93; refine (HX.out).mono ?_; rintro e w' ⟨rfl, rfl⟩) | (go_at_call 92; refine (isNone_any _ _).mono ?_; rintro e w' ⟨rfl, rfl⟩)))
      go_ret
      exact ⟨rfl, own_two (m := 0) (u := 0) (v := 0) HO.out (by omega), by
        have a := World.ownsRow.stored HO.out 0 (.int .i64 0)
        have b := World.ownsRow.stored a.1 1 (.int .i64 0)
        exact grown_trans a.2 b.2⟩
    · have ho' : (o == -1) = false := beq_eq_false_iff_ne.2 ho
      have hz : kp (-1) o = [o] := by unfold kp; simp [List.filter, ho']
      have c0 : (w.setCell ⟨g, 0, none⟩ (.int .i64 o)).cell? ⟨g, 0, none⟩ = some (.int .i64 o) := World.cell?_setCell_same _ _ _ h0
      have c1 : (w.setCell ⟨g, 0, none⟩ (.int .i64 o)).cell? ⟨g, 1, none⟩ = some (.int .i64 o) := (World.cell?_setCell_other _ _ _ _ (by simp)).trans h1
      have q1 : (w.setCell ⟨g, 0, none⟩ (.int .i64 o)).frozen? ⟨g, 1, none⟩ = false := (World.frozen?_setCell _ _ _ _).trans f1
      have hcl := fun ty => Lib.run_clear_slice (P := Try.prog) (w.setCell ⟨g, 0, none⟩ (.int .i64 o)) 24 3 ty (.int .i64 0) Try.underlying24 z23 rfl rfl g 1 1 1 (by omega) (fun t ht => by
        match t, ht with
        | 0, _ => rw [c1]; rfl) (fun t ht => by
        match t, ht with
        | 0, _ => exact q1)
      rw [hz]
      clear ho hz
      go_enter Try.func91, Try.ntmps91
      go_wp2_with (first | (go_at_call 93; refine (HX.out).mono ?_; rintro e w' ⟨rfl, rfl⟩) | (go_at_call 92; refine (isNone_any _ _).mono ?_; rintro e w' ⟨rfl, rfl⟩))
      refine wp_loop_rounds 3 ?_
      repeat any_goals (rw [rounds_succ]; go_wp2_with (first | (go_at_call 93; refine (HX.out).mono ?_; rintro e w' ⟨rfl, rfl⟩) | (go_at_call 92; refine (isNone_any _ _).mono ?_; rintro e w' ⟨rfl, rfl⟩)))
      go_ret
      exact ⟨rfl, own_two (m := 1) (u := o) (v := 0) HO.out (by omega), by
        have a := World.ownsRow.stored HO.out 0 (.int .i64 o)
        have b := World.ownsRow.stored a.1 1 (.int .i64 0)
        exact grown_trans a.2 b.2⟩
  · have hf' : (f == -1) = false := beq_eq_false_iff_ne.2 hf
    by_cases ho : o = -1
    · rw [show ix2 f o = 1 by unfold ix2; rw [if_neg hf, if_pos ho]] at HX
      subst ho
      have hz : kp f (-1) = [f] := by unfold kp; simp [List.filter, hf']
      have hcl := fun ty => Lib.run_clear_slice (P := Try.prog) w 24 3 ty (.int .i64 0) Try.underlying24 z23 rfl rfl g 1 1 1 (by omega) (fun t ht => by
        match t, ht with
        | 0, _ => rw [h1]; rfl) (fun t ht => by
        match t, ht with
        | 0, _ => exact f1)
      rw [hz]
      clear hf hz
      go_enter Try.func91, Try.ntmps91
      go_wp2_with (first | (go_at_call 93; refine (HX.out).mono ?_; rintro e w' ⟨rfl, rfl⟩) | (go_at_call 92; refine (isNone_any _ _).mono ?_; rintro e w' ⟨rfl, rfl⟩))
      refine wp_loop_rounds 3 ?_
      repeat any_goals (rw [rounds_succ]; go_wp2_with (first | (go_at_call 93; refine (HX.out).mono ?_; rintro e w' ⟨rfl, rfl⟩) | (go_at_call 92; refine (isNone_any _ _).mono ?_; rintro e w' ⟨rfl, rfl⟩)))
      go_ret
      have b := World.ownsRow.stored HO.out 1 (.int .i64 0)
      have b2 : Own B (w.setCell ⟨g, 1, none⟩ (.int .i64 0)) (.slice (some ⟨g, 0, none⟩) 2 2) [f, 0] := b.1
      exact ⟨rfl, Own.cut b2 1 (by omega), b.2⟩
    · have ho' : (o == -1) = false := beq_eq_false_iff_ne.2 ho
      have hz : kp f o = [f, o] := by unfold kp; simp [List.filter, hf', ho']
      rw [show ix2 f o = -1 by unfold ix2; rw [if_neg hf, if_neg ho]] at HX
      rw [hz]
      clear hf ho hz
      go_enter Try.func91, Try.ntmps91
      go_wp2_with (first | (go_at_call 93; refine (HX.out).mono ?_; rintro e w' ⟨rfl, rfl⟩) | (go_at_call 92; refine (isNone_any _ _).mono ?_; rintro e w' ⟨rfl, rfl⟩))
      go_ret
      exact ⟨rfl, HO.out, World.grownBy.refl _ _⟩
end Go.Proofs.Ytmlcelleohhmcaa
