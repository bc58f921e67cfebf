/- The greatest round age: the program's text. -/
import Derived.Test.YtadfojjglceheaaBe
set_option linter.unusedVariables false
set_option linter.unusedSimpArgs false
namespace Go.Proofs.Ytadfojjglceheaa
open Go.RowKit

theorem isNaN_any (a : Int) (w : World) : Calls Try.prog 66 #[.int .i64 a] w (RetSame (.bool false) w) := by
  go_enter Try.func66, Try.ntmps66
  go_wp2
  go_ret
  exact ⟨rfl, rfl⟩
def cmpV (a b : Int) : Int := if a < b then -1 else if b < a then 1 else 0
theorem cmp_any (a b : Int) (w : World) : Calls Try.prog 58 #[.int .i64 a, .int .i64 b] w (RetSame (.int .i64 (cmpV a b)) w) := by
  by_cases h1 : a < b
  · rw [show cmpV a b = -1 by unfold cmpV; rw [if_pos h1]]
    go_enter Try.func58, Try.ntmps58
    go_wp2_with (go_at_call 66; refine (isNaN_any _ _).mono ?_; rintro e w' ⟨rfl, rfl⟩)
    go_ret
    exact ⟨rfl, rfl⟩
  · by_cases h2 : b < a
    · rw [show cmpV a b = 1 by unfold cmpV; rw [if_neg h1, if_pos h2]]
      go_enter Try.func58, Try.ntmps58
      go_wp2_with (go_at_call 66; refine (isNaN_any _ _).mono ?_; rintro e w' ⟨rfl, rfl⟩)
      go_ret
      exact ⟨rfl, rfl⟩
    · rw [show cmpV a b = 0 by unfold cmpV; rw [if_neg h1, if_neg h2]]
      go_enter Try.func58, Try.ntmps58
      go_wp2_with (go_at_call 66; refine (isNaN_any _ _).mono ?_; rintro e w' ⟨rfl, rfl⟩)
      go_ret
      exact ⟨rfl, rfl⟩
theorem older_any (a1 a2 b1 b2 : Int) (w : World) : Calls Try.prog 57 #[.agg #[.int .i64 a1, .int .i64 a2], .agg #[.int .i64 b1, .int .i64 b2]] w (Ret (.int .i64 (cmpV a2 b2)) w) := by
  have HC := Lib.hid fun w => cmp_any a2 b2 w
  generalize cmpV a2 b2 = c at HC ⊢
  go_enter Try.func57, Try.ntmps57
  go_wp2_with (go_at_call 58; refine (HC.out _).mono ?_; rintro e w' ⟨rfl, rfl⟩)
  go_ret
  refine ⟨rfl, ?_⟩
  go_grown

/-- The first of the oldest among the first k. -/
def mxT (ps : List Dt) : Nat → Dt
  | 0 => (0, 0)
  | k + 1 => if (mxT ps k).2 < (at2 ps k).2 then at2 ps k else mxT ps k
/-- What the search for the oldest keeps. -/
structure OdSt (ps : List Dt) (g n : Nat) (p1 p2 : Int) (w wr : World) : Prop where
  below : Below w.heap.size w wr
  r : wr.heap[w.heap.size]? = some (.cells #[.int .i64 0, .int .i64 0] 55 (0, 0))
  c0 : wr.cell? ⟨w.heap.size + 1, 0, none⟩ = some (.int .i64 p1)
  c1 : wr.cell? ⟨w.heap.size + 1, 1, none⟩ = some (.int .i64 p2)
  f0 : ∀ j, wr.frozen? ⟨w.heap.size + 1, j, none⟩ = false
theorem OdSt.drew {ps : List Dt} {g n : Nat} {p1 p2 : Int} {w wr : World} (h : OdSt ps g n p1 p2 w wr) : OdSt ps g n p1 p2 w wr.drew :=
  ⟨h.below.drew, h.r, by simpa using h.c0, by simpa using h.c1, fun j => by simpa using h.f0 j⟩
theorem OdSt.kept {ps : List Dt} {g n : Nat} {p1 p2 : Int} {w wr w2 : World} (h : OdSt ps g n p1 p2 w wr) (hb : Below wr.heap.size wr w2) : OdSt ps g n p1 p2 w w2 := by
  have hlt := World.block_lt_of_cell? wr _ h.c0
  exact ⟨h.below.trans (hb.mono h.below.size), (hb.block _ (lt_of_block h.r)).trans h.r, below_cell2 hb h.c0, below_cell2 hb h.c1, fun j => (World.frozen?_of_block (w := wr) (a := ⟨w.heap.size + 1, j, none⟩) (hb.block _ hlt)).trans (h.f0 j)⟩
theorem OdSt.set {ps : List Dt} {g n : Nat} {p1 p2 : Int} {w wr : World} (h : OdSt ps g n p1 p2 w wr) (q1 q2 : Int) : OdSt ps g n q1 q2 w ((wr.setCell ⟨w.heap.size + 1, 0, none⟩ (.int .i64 q1)).setCell ⟨w.heap.size + 1, 1, none⟩ (.int .i64 q2)) := by
  obtain ⟨s0, s1⟩ := two_cells h.c0 h.c1
  refine ⟨(h.below.setCell (by simp) _).setCell (by simp) _, ?_, s0 _ _, s1 _ _, fun j => ?_⟩
  · rw [Below.heap_setCell _ _ _ _ (by simp), Below.heap_setCell _ _ _ _ (by simp)]; exact h.r
  · simp [go_sem, h.f0]

set_option maxHeartbeats 4000000 in
set_option maxRecDepth 100000 in
theorem maxFunc_any (g n c : Nat) (ps : List Dt) (w : World) (hl : ps.length = n) (h1 : 1 ≤ n) (h10 : n ≤ 10) (hpos : ∀ j, j < n → 1 ≤ (at2 ps j).2 ∧ (at2 ps j).2 ≤ 120) (hgs : g < w.heap.size) (hD : Dts w g 0 ps) :
    Calls Try.prog 56 #[.slice (some ⟨g, 0, none⟩) n c, .func (.func 57) #[] #[]] w (Ret (.agg #[.int .i64 (mxT ps n).1, .int .i64 (mxT ps n).2]) w) := by
  have HP := Lib.hid hpos
  have HD := Lib.hid hD
  have HL := Lib.hid hl
  have hd0 := hD 0 (by omega)
  have h0 : mxT ps 1 = at2 ps 0 := by
    have := hpos 0 (by omega)
    show (if (0 : Int) < (at2 ps 0).2 then at2 ps 0 else (0, 0)) = at2 ps 0
    exact if_pos (by omega)
  have H0 := Lib.hid h0
  generalize hA : at2 ps 0 = A0 at hd0 h0
  obtain ⟨x0, y0⟩ := A0
  have HA := Lib.hid hA
  obtain ⟨d0, d1⟩ := hd0
  simp only [Nat.zero_add, Nat.zero_mul] at d0 d1
  clear hpos hD hl hA h0
  go_enter Try.func56, Try.ntmps56
  go_wp2
  go_loopw [6] (fun i wr => ∃ k : Nat, (1 ≤ k ∧ k ≤ n) ∧ i = .int .i64 k ∧ OdSt ps g n (mxT ps k).1 (mxT ps k).2 w wr) (fun i _ => n - (intOf i).toNat)
  case atStart => 
    refine ⟨1, ⟨Nat.le_refl _, h1⟩, rfl, ?_⟩
    rw [H0.out, HA.out]
    exact ⟨((Below.refl w.heap.size w).alloc (Nat.le_refl _) _).alloc (by simp) _, heap_later (heap_new w _) _, by simp, by simp, fun j => by simp [go_sem]⟩
  case round =>
    obtain ⟨k, ⟨hk1, hk⟩, rfl, hs⟩ := hrel
    have hc0 := hs.c0
    have hc00 := hs.c1
    by_cases hlt : k < n
    · obtain ⟨hc1, hc2⟩ := (HD.out.kept hs.below hgs) k (by rw [HL.out]; exact hlt)
      rw [Nat.zero_add] at hc1 hc2
      have hb := HP.out k hlt
      have k0 : (0 : Int) ≤ (k : Int) := by omega
      have k1 : (k : Int) < (n : Int) := by omega
      have hf0 := hs.f0
      by_cases hcmp : (mxT ps k).2 < (at2 ps k).2
      · have HS : Hid (mxT ps (k + 1) = at2 ps k) := Lib.hid (by show (if _ then _ else _) = _; exact if_pos hcmp)
        have HV := Lib.hid (show cmpV (at2 ps k).2 (mxT ps k).2 = 1 by unfold cmpV; rw [if_neg (by omega), if_pos hcmp])
        generalize mxT ps k = p at hs hcmp HV hc0 hc00 ⊢
        generalize at2 ps k = q at hc1 hc2 hb hcmp HV HS
        obtain ⟨p1, p2⟩ := p
        obtain ⟨q1, q2⟩ := q
        simp only at hs hcmp HV hc0 hc00 hc1 hc2 hb ⊢
        have HO := Lib.hid fun w => older_any q1 q2 p1 p2 w
        rw [HV.out] at HO
        clear hcmp HV
        go_wp2_with fail
        go_region_held3 (fun w' => OdSt ps g n p1 p2 w w' ∧ w'.cell? ⟨g, k * 2, none⟩ = some (.int .i64 q1) ∧ w'.cell? ⟨g, k * 2 + 1, none⟩ = some (.int .i64 q2) ∧ w'.cell? ⟨w.heap.size + 1, 0, none⟩ = some (.int .i64 p1) ∧ w'.cell? ⟨w.heap.size + 1, 1, none⟩ = some (.int .i64 p2))
          (first | (go_split_ands; exact ⟨OdSt.kept ‹OdSt _ _ _ _ _ _ _› hcall, below_cell2 hcall (by assumption), below_cell2 hcall (by assumption), below_cell2 hcall (by assumption), below_cell2 hcall (by assumption)⟩) | exact ⟨hs.drew, by simpa using hc1, by simpa using hc2, hs.drew.c0, hs.drew.c1⟩)
          (first | (go_at_call 57; refine (HO.out _).mono ?_; rintro e w' ⟨rfl, hcall⟩))
        all_goals
          obtain ⟨hs2, e1, e2, e3, e4⟩ := ‹OdSt _ _ _ _ _ _ _ ∧ _›
          have hf2 := hs2.f0
        all_goals
          go_wp2
          go_roundw
          case rel => exact ⟨k + 1, by omega, by go_num, by rw [HS.out]; exact hs2.set _ _⟩
          case measure => simp [intOf]; omega
      · have HS : Hid (mxT ps (k + 1) = mxT ps k) := Lib.hid (by show (if _ then _ else _) = _; exact if_neg hcmp)
        have HV : Hid (∃ v, cmpV (at2 ps k).2 (mxT ps k).2 = v ∧ v ≤ 0 ∧ -1 ≤ v) := Lib.hid ⟨_, rfl, by unfold cmpV; split <;> (try split) <;> omega, by unfold cmpV; split <;> (try split) <;> omega⟩
        generalize mxT ps k = p at hs hcmp HV hc0 hc00 HS ⊢
        generalize at2 ps k = q at hc1 hc2 hb hcmp HV
        obtain ⟨p1, p2⟩ := p
        obtain ⟨q1, q2⟩ := q
        simp only at hs hcmp HV hc0 hc00 hc1 hc2 hb ⊢
        have HO := Lib.hid fun w => older_any q1 q2 p1 p2 w
        obtain ⟨v, hv, hv0, hv1⟩ := HV.out
        rw [hv] at HO
        clear hcmp HV hv
        go_wp2_with fail
        go_region_held3 (fun w' => OdSt ps g n p1 p2 w w' ∧ w'.cell? ⟨g, k * 2, none⟩ = some (.int .i64 q1) ∧ w'.cell? ⟨g, k * 2 + 1, none⟩ = some (.int .i64 q2) ∧ w'.cell? ⟨w.heap.size + 1, 0, none⟩ = some (.int .i64 p1) ∧ w'.cell? ⟨w.heap.size + 1, 1, none⟩ = some (.int .i64 p2))
          (first | (go_split_ands; exact ⟨OdSt.kept ‹OdSt _ _ _ _ _ _ _› hcall, below_cell2 hcall (by assumption), below_cell2 hcall (by assumption), below_cell2 hcall (by assumption), below_cell2 hcall (by assumption)⟩) | exact ⟨hs.drew, by simpa using hc1, by simpa using hc2, hs.drew.c0, hs.drew.c1⟩)
          (first | (go_at_call 57; refine (HO.out _).mono ?_; rintro e w' ⟨rfl, hcall⟩))
        all_goals
          obtain ⟨hs2, e1, e2, e3, e4⟩ := ‹OdSt _ _ _ _ _ _ _ ∧ _›
        all_goals
          go_wp2
          go_roundw
          case rel => exact ⟨k + 1, by omega, by go_num, by rw [HS.out]; exact hs2⟩
          case measure => simp [intOf]; omega
    · have hkn : k = n := by omega
      subst hkn
      have hr := hs.r
      have r0 : wr.cell? ⟨w.heap.size, 0, none⟩ = some (.int .i64 0) := by simp [World.cell?, hr]
      have r1 : wr.cell? ⟨w.heap.size, 1, none⟩ = some (.int .i64 0) := by simp [World.cell?, hr]
      have fr : ∀ j, wr.frozen? ⟨w.heap.size, j, none⟩ = false := fun j => by simp [World.frozen?, hr]
      obtain ⟨s0, s1⟩ := two_cells r0 r1
      have hbw := hs.below
      obtain ⟨p, hp⟩ : ∃ p, mxT ps k = p := ⟨_, rfl⟩
      rw [hp] at hc0 hc00
      try rw [hp]
      have HPK := Lib.hid hp
      obtain ⟨p1, p2⟩ := p
      simp only at hc0 hc00
      clear hs hr hp
      go_wp2
      refine bodyPost_ret (v := .agg #[.int .i64 p1, .int .i64 p2]) (by simp [results, Try.results56, go_sem, s0, s1]) rfl ?_
      exact ⟨by first | rfl | (rw [HPK.out]), (hbw.setCell (Nat.le_refl _) _).setCell (Nat.le_refl _) _⟩
end Go.Proofs.Ytadfojjglceheaa
