/- The first date on which the ages have a sum, of the model; both texts. -/
import Derived.Test.YtbhceokapbnhhaaFs2
set_option linter.unusedVariables false
set_option linter.unusedSimpArgs false
namespace Go.Proofs.Ytbhceokapbnhhaa
open Go.RowKit

theorem pk_yes {ds : List Dt} {k : Nat} (h : moreT (at2 ds k) (pickTo moreT ds (k - 1)) = true) : pickTo moreT ds (k + 1 - 1) = at2 ds k := by
  by_cases hk : 1 ≤ k
  · exact pick_stepYes hk h
  · obtain rfl : k = 0 := by omega
    rfl
theorem pk_no {ds : List Dt} {k : Nat} (h : moreT (at2 ds k) (pickTo moreT ds (k - 1)) = false) : pickTo moreT ds (k + 1 - 1) = pickTo moreT ds (k - 1) := by
  by_cases hk : 1 ≤ k
  · exact pick_stepNo hk h
  · obtain rfl : k = 0 := by omega
    rfl
set_option maxHeartbeats 16000000 in
set_option maxRecDepth 100000 in
theorem specFirstSumOn_any (b off n c : Nat) (ds : List Dt) (s : Int) (w : World) (hl : ds.length = n) (hI : Dts w b off ds) (hbl : b < w.heap.size) :
    Calls Try.prog 36 #[.slice (some ⟨b, off, none⟩) n c, .int .i64 s] w (RetPB (fsP ds s) (fsB ds s) w) := by
  have HW0 := Lib.hid ((Below.refl w.heap.size w).alloc (Nat.le_refl _) (.cells #[.int .i64 0, .int .i64 0] 34))
  have hI1 : ∀ A, Dts (w.alloc A) b off ds := fun A => hI.kept ((Below.refl w.heap.size w).alloc (Nat.le_refl _) A) hbl
  have hbl1 : ∀ A, b < (w.alloc A).heap.size := fun A => by simp <;> omega
  have HB0 := fun (W : World) (h : Dts W b off ds) (h2 : b < W.heap.size) => biGood_any b off n c ds W hl h h2
  have HIN0 := fun W => l1InD_any s 0 10000 W
  cases h1 : birthsB ds with
  | false =>
    have HE := Lib.hid (fs_no (s := s) (show fsG ds s = false by unfold fsG; rw [h1]; rfl))
    rw [h1] at HB0
    have HB := Lib.hid HB0
    clear HB0 HIN0 h1 hl
    go_enter Try.func36, Try.ntmps36
    go_wp2_with (first | (go_at_call 45; refine (HB.out _ (by first | exact hI1 _ | exact hI.kept (by assumption) hbl) (by first | exact hbl1 _ | (have := Below.size ‹Below w.heap.size w _›; omega))).mono ?_; rintro e w' ⟨rfl, hcall⟩; have hbw : Below w.heap.size w w' := (by first | exact Below.trans (by assumption) (Below.mono hcall (Below.size (by assumption))) | exact Below.trans (Below.drew (by assumption)) (Below.mono hcall (Below.size (Below.drew (by assumption)))) | exact HW0.out.trans (hcall.mono (by simp <;> omega)) | exact HW0.out.drew.trans (hcall.mono (by simp <;> omega))); have r0 : w'.cell? ⟨w.heap.size, 0, none⟩ = some (.int .i64 0) := below_cell2 hcall (by first | assumption | (simp; done) | (simp [go_sem]; done) | simp [*]); have r1 : w'.cell? ⟨w.heap.size, 1, none⟩ = some (.int .i64 0) := below_cell2 hcall (by first | assumption | (simp; done) | (simp [go_sem]; done) | simp [*]); have z0 : w'.frozen? ⟨w.heap.size, 0, none⟩ = false := (hcall.frozen (p := ⟨w.heap.size, 0, none⟩) (by first | (simp; done) | exact World.block_lt_of_cell? _ ⟨w.heap.size, 0, none⟩ (by assumption))).trans (by first | (simp; done) | assumption | (simp [go_sem]; done) | (simp [*]; done)); have z1 : w'.frozen? ⟨w.heap.size, 1, none⟩ = false := (hcall.frozen (p := ⟨w.heap.size, 1, none⟩) (by first | (simp; done) | exact World.block_lt_of_cell? _ ⟨w.heap.size, 0, none⟩ (by assumption))).trans (by first | (simp; done) | assumption | (simp [go_sem]; done) | (simp [*]; done)); clear hcall))
    obtain ⟨s0, s1⟩ := two_cells r0 r1
    refine bodyPost_ret (v := .tuple #[.agg #[.int .i64 0, .int .i64 0], .bool false]) (by simp [results, Try.results36, go_sem, s0, s1]) rfl ?_
    rw [HE.out.1, HE.out.2]
    exact ⟨rfl, (hbw.setCell (by simp <;> omega) _).setCell (by simp <;> omega) _⟩
  | true =>
  cases h2 : inB s 0 10000 with
  | false =>
    have HE := Lib.hid (fs_no (s := s) (show fsG ds s = false by unfold fsG; rw [h1, h2]; rfl))
    rw [h1] at HB0
    rw [h2] at HIN0
    have HB := Lib.hid HB0
    have HIN := Lib.hid HIN0
    clear HB0 HIN0 h1 h2 hl
    go_enter Try.func36, Try.ntmps36
    go_wp2_with (first | (go_at_call 45; refine (HB.out _ (by first | exact hI1 _ | exact hI.kept (by assumption) hbl) (by first | exact hbl1 _ | (have := Below.size ‹Below w.heap.size w _›; omega))).mono ?_; rintro e w' ⟨rfl, hcall⟩; have hbw : Below w.heap.size w w' := (by first | exact Below.trans (by assumption) (Below.mono hcall (Below.size (by assumption))) | exact Below.trans (Below.drew (by assumption)) (Below.mono hcall (Below.size (Below.drew (by assumption)))) | exact HW0.out.trans (hcall.mono (by simp <;> omega)) | exact HW0.out.drew.trans (hcall.mono (by simp <;> omega))); have r0 : w'.cell? ⟨w.heap.size, 0, none⟩ = some (.int .i64 0) := below_cell2 hcall (by first | assumption | (simp; done) | (simp [go_sem]; done) | simp [*]); have r1 : w'.cell? ⟨w.heap.size, 1, none⟩ = some (.int .i64 0) := below_cell2 hcall (by first | assumption | (simp; done) | (simp [go_sem]; done) | simp [*]); have z0 : w'.frozen? ⟨w.heap.size, 0, none⟩ = false := (hcall.frozen (p := ⟨w.heap.size, 0, none⟩) (by first | (simp; done) | exact World.block_lt_of_cell? _ ⟨w.heap.size, 0, none⟩ (by assumption))).trans (by first | (simp; done) | assumption | (simp [go_sem]; done) | (simp [*]; done)); have z1 : w'.frozen? ⟨w.heap.size, 1, none⟩ = false := (hcall.frozen (p := ⟨w.heap.size, 1, none⟩) (by first | (simp; done) | exact World.block_lt_of_cell? _ ⟨w.heap.size, 0, none⟩ (by assumption))).trans (by first | (simp; done) | assumption | (simp [go_sem]; done) | (simp [*]; done)); clear hcall) | (go_at_call 65; refine (HIN.out _).mono ?_; rintro e w' ⟨rfl, rfl⟩))
    obtain ⟨s0, s1⟩ := two_cells r0 r1
    refine bodyPost_ret (v := .tuple #[.agg #[.int .i64 0, .int .i64 0], .bool false]) (by simp [results, Try.results36, go_sem, s0, s1]) rfl ?_
    rw [HE.out.1, HE.out.2]
    exact ⟨rfl, (hbw.setCell (by simp <;> omega) _).setCell (by simp <;> omega) _⟩
  | true =>
    have HE := Lib.hid (fs_yes (show fsG ds s = true by unfold fsG; rw [h1, h2]; rfl))
    have h8 := birthsB_len h1
    rw [hl] at h8
    have HG := Lib.hid h1
    have HL := Lib.hid hl
    rw [h1] at HB0
    rw [h2] at HIN0
    have HB := Lib.hid HB0
    have HIN := Lib.hid HIN0
    have HDB := Lib.hid (fun (j : Nat) (hj : j < n) => birthsB_at h1 j (by omega))
    have HPD := Lib.hid (fun (k : Nat) (hk : k < n) => (show dateB (pickTo moreT ds k) = true by obtain ⟨j, hj, he⟩ := pick_is moreT ds k; rw [he]; exact birthsB_at h1 j (by omega)))
    have HSM := Lib.hid (fun (x : Int) (hx : backOk x = true) (W : World) (h : Dts W b off ds) (h3 : b < W.heap.size) => biSum_any b off n c ds (backD x).1 (backD x).2 W hl h h3 h1 (back_date hx).1)
    have HFF := Lib.hid (show fsFrom ds = pickTo moreT ds (n - 1) by unfold fsFrom; rw [hl])
    obtain ⟨p1, p2⟩ := hI 0 (by omega)
    rw [Nat.zero_mul, Nat.add_zero] at p1 p2
    clear HB0 HIN0 h1 h2 hl
    have HP0 := Lib.hid (show pickTo moreT ds (0 - 1) = at2 ds 0 from rfl)
    generalize at2 ds 0 = e0 at p1 p2 HP0
    obtain ⟨ey, ed⟩ := e0
    simp only at p1 p2
    have v1 := cell_above p1
    have v2 := cell_above p2
    clear p1 p2
    go_enter Try.func36, Try.ntmps36
    go_wp2_with (first | (go_at_call 45; refine (HB.out _ (hI1 _) (hbl1 _)).mono ?_; rintro e w1 ⟨rfl, hcall⟩; have hbw : Below w.heap.size w w1 := (by first | exact Below.trans (by assumption) (Below.mono hcall (Below.size (by assumption))) | exact Below.trans (Below.drew (by assumption)) (Below.mono hcall (Below.size (Below.drew (by assumption)))) | exact HW0.out.trans (hcall.mono (by simp <;> omega)) | exact HW0.out.drew.trans (hcall.mono (by simp <;> omega))); have r0 : w1.cell? ⟨w.heap.size, 0, none⟩ = some (.int .i64 0) := below_cell2 hcall (by first | assumption | (simp; done) | (simp [go_sem]; done) | simp [*]); have r1 : w1.cell? ⟨w.heap.size, 1, none⟩ = some (.int .i64 0) := below_cell2 hcall (by first | assumption | (simp; done) | (simp [go_sem]; done) | simp [*]); have z0 : w1.frozen? ⟨w.heap.size, 0, none⟩ = false := (hcall.frozen (p := ⟨w.heap.size, 0, none⟩) (by first | (simp; done) | exact World.block_lt_of_cell? _ ⟨w.heap.size, 0, none⟩ (by assumption))).trans (by first | (simp; done) | assumption | (simp [go_sem]; done) | (simp [*]; done)); have z1 : w1.frozen? ⟨w.heap.size, 1, none⟩ = false := (hcall.frozen (p := ⟨w.heap.size, 1, none⟩) (by first | (simp; done) | exact World.block_lt_of_cell? _ ⟨w.heap.size, 0, none⟩ (by assumption))).trans (by first | (simp; done) | assumption | (simp [go_sem]; done) | (simp [*]; done)); have hc1 := hcall; clear hcall; have u1 := below_cell2 hc1 (v1 _); have u2 := below_cell2 hc1 (v2 _)) | (go_at_call 65; refine (HIN.out _).mono ?_; rintro e w1 ⟨rfl, rfl⟩))
    have hg6 : w.heap.size < w1.heap.size := World.block_lt_of_cell? _ _ r0
    clear v1 v2
    go_loopw [28] (fun v wr => ∃ k : Nat, k ≤ n ∧ v = .int .i64 k ∧ Below w.heap.size w wr ∧ wr.cell? ⟨w1.heap.size, 0, none⟩ = some (.int .i64 (pickTo moreT ds (k - 1)).1) ∧ wr.cell? ⟨w1.heap.size, 1, none⟩ = some (.int .i64 (pickTo moreT ds (k - 1)).2) ∧ wr.cell? ⟨w.heap.size, 0, none⟩ = some (.int .i64 0) ∧ wr.cell? ⟨w.heap.size, 1, none⟩ = some (.int .i64 0) ∧ wr.frozen? ⟨w1.heap.size, 0, none⟩ = false ∧ wr.frozen? ⟨w1.heap.size, 1, none⟩ = false ∧ wr.frozen? ⟨w.heap.size, 0, none⟩ = false ∧ wr.frozen? ⟨w.heap.size, 1, none⟩ = false) (fun v _ => n - (intOf v).toNat)
    case atStart =>
      exact ⟨0, Nat.zero_le _, rfl, hbw.alloc (Below.size hbw) _, by rw [HP0.out]; simp [go_sem], by rw [HP0.out]; simp [go_sem], cell_above r0 _, cell_above r1 _, by simp [go_sem], by simp [go_sem], frozen_above r0 z0 _, frozen_above r1 z1 _⟩
    case round =>
      clear u1 u2 r0 r1 z0 z1 hbw hc1
      generalize w1.heap.size = g6 at hrel hg6 ⊢
      obtain ⟨k, hk, rfl, hb, m0, m1, r0, r1, z0, z1, z2, z3⟩ := hrel
      have hsz := hb.size
      by_cases hlt : k < n
      · obtain ⟨p1, p2⟩ := (hI.kept hb hbl) k (by rw [HL.out]; exact hlt)
        have HK1 := Lib.hid (fun W => biDays_any (at2 ds k).1 (at2 ds k).2 W (HDB.out k hlt))
        have HK2 := Lib.hid (fun W => biDays_any (pickTo moreT ds (k - 1)).1 (pickTo moreT ds (k - 1)).2 W (HPD.out (k - 1) (by omega)))
        cases hT : moreT (at2 ds k) (pickTo moreT ds (k - 1)) with
        | true =>
          have HS := Lib.hid (pk_yes hT)
          have hq := of_decide_eq_true hT
          have hq : dys (pickTo moreT ds (k - 1)) < dys (at2 ds k) := by omega
          clear hT
          revert HK1 HK2 hq HS
          rw [show dys ((at2 ds k).1, (at2 ds k).2) = dys (at2 ds k) from rfl, show dys ((pickTo moreT ds (k - 1)).1, (pickTo moreT ds (k - 1)).2) = dys (pickTo moreT ds (k - 1)) from rfl]
          generalize dys (at2 ds k) = t1
          generalize dys (pickTo moreT ds (k - 1)) = t2
          generalize (pickTo moreT ds (k - 1)).1 = my at m0 ⊢
          generalize (pickTo moreT ds (k - 1)).2 = md at m1 ⊢
          generalize at2 ds k = e at p1 p2 ⊢
          obtain ⟨ye, de⟩ := e
          simp only at p1 p2 ⊢
          intro HK1 HK2 HS hq
          have x0q : (wr.alloc (.cells #[.int .i64 ye, .int .i64 de] 34)).cell? ⟨wr.heap.size, 0, none⟩ = some (.int .i64 ye) := by simp [go_sem]
          have x1q : (wr.alloc (.cells #[.int .i64 ye, .int .i64 de] 34)).cell? ⟨wr.heap.size, 1, none⟩ = some (.int .i64 de) := by simp [go_sem]
          have hbq := hb.alloc hsz (.cells #[.int .i64 ye, .int .i64 de] 34)
          have m0q := cell_above m0 (.cells #[.int .i64 ye, .int .i64 de] 34)
          have m1q := cell_above m1 (.cells #[.int .i64 ye, .int .i64 de] 34)
          have r0q := cell_above r0 (.cells #[.int .i64 ye, .int .i64 de] 34)
          have r1q := cell_above r1 (.cells #[.int .i64 ye, .int .i64 de] 34)
          have z0q := frozen_above m0 z0 (.cells #[.int .i64 ye, .int .i64 de] 34)
          have z1q := frozen_above m1 z1 (.cells #[.int .i64 ye, .int .i64 de] 34)
          have z2q := frozen_above r0 z2 (.cells #[.int .i64 ye, .int .i64 de] 34)
          have z3q := frozen_above r1 z3 (.cells #[.int .i64 ye, .int .i64 de] 34)
          clear hb m0 m1 r0 r1 z0 z1 z2 z3
          go_wp2_with fail
          generalize wr.alloc (.cells #[.int .i64 ye, .int .i64 de] 34) = wq at x0q x1q hbq m0q m1q r0q r1q z0q z1q z2q z3q ⊢
          generalize wr.heap.size = g at x0q x1q ⊢
          go_region_held3 (fun w' => Below w.heap.size w w' ∧ w'.cell? ⟨g, 0, none⟩ = some (.int .i64 ye) ∧ w'.cell? ⟨g, 1, none⟩ = some (.int .i64 de) ∧ w'.cell? ⟨g6, 0, none⟩ = some (.int .i64 my) ∧ w'.cell? ⟨g6, 1, none⟩ = some (.int .i64 md) ∧ w'.cell? ⟨w.heap.size, 0, none⟩ = some (.int .i64 0) ∧ w'.cell? ⟨w.heap.size, 1, none⟩ = some (.int .i64 0) ∧ w'.frozen? ⟨g6, 0, none⟩ = false ∧ w'.frozen? ⟨g6, 1, none⟩ = false ∧ w'.frozen? ⟨w.heap.size, 0, none⟩ = false ∧ w'.frozen? ⟨w.heap.size, 1, none⟩ = false)
            (first
              | exact ⟨hbq.drew, x0q, x1q, m0q, m1q, r0q, r1q, z0q, z1q, z2q, z3q⟩
              | (exact ⟨Below.drew (by assumption), by first | assumption | simp [*], by first | assumption | simp [*], by first | assumption | simp [*], by first | assumption | simp [*], by first | assumption | simp [*], by first | assumption | simp [*], by first | assumption | simp [*], by first | assumption | simp [*], by first | assumption | simp [*], by first | assumption | simp [*]⟩)
              | (go_split_ands
                 refine ⟨?_, ?_, ?_, ?_, ?_, ?_, ?_, ?_, ?_, ?_, ?_⟩
                 · exact (by first | assumption | exact below_wr (by assumption) hcall | exact below_wrD (by assumption) hcall)
                 · exact (by first | assumption | exact below_cell2 hcall (by first | assumption | (simp; assumption)))
                 · exact (by first | assumption | exact below_cell2 hcall (by first | assumption | (simp; assumption)))
                 · exact (by first | assumption | exact below_cell2 hcall (by first | assumption | (simp; assumption)))
                 · exact (by first | assumption | exact below_cell2 hcall (by first | assumption | (simp; assumption)))
                 · exact (by first | assumption | exact below_cell2 hcall (by first | assumption | (simp; assumption)))
                 · exact (by first | assumption | exact below_cell2 hcall (by first | assumption | (simp; assumption)))
                 · exact (by first | exact (hcall.frozen (p := ⟨g6, 0, none⟩) (World.block_lt_of_cell? _ ⟨g6, 0, none⟩ (by first | assumption | (simp; assumption)))).trans (by first | assumption | (simp; assumption)))
                 · exact (by first | exact (hcall.frozen (p := ⟨g6, 1, none⟩) (World.block_lt_of_cell? _ ⟨g6, 0, none⟩ (by first | assumption | (simp; assumption)))).trans (by first | assumption | (simp; assumption)))
                 · exact (by first | exact (hcall.frozen (p := ⟨w.heap.size, 0, none⟩) (World.block_lt_of_cell? _ ⟨w.heap.size, 0, none⟩ (by first | assumption | (simp; assumption)))).trans (by first | assumption | (simp; assumption)))
                 · exact (by first | exact (hcall.frozen (p := ⟨w.heap.size, 1, none⟩) (World.block_lt_of_cell? _ ⟨w.heap.size, 0, none⟩ (by first | assumption | (simp; assumption)))).trans (by first | assumption | (simp; assumption)))))
            (first | (go_at_call_of 53 [Value.agg #[Value.int IntKind.i64 ye, Value.int IntKind.i64 de]]; refine (HK1.out _).mono ?_; rintro e w' ⟨rfl, hcall⟩) | (go_at_call_of 53 [Value.agg #[Value.int IntKind.i64 my, Value.int IntKind.i64 md]]; refine (HK2.out _).mono ?_; rintro e w' ⟨rfl, hcall⟩))
          all_goals
            obtain ⟨hbw, x0', x1', m0', m1', r0', r1', z0', z1', z2', z3'⟩ := ‹Below w.heap.size w _ ∧ _›
            clear HK1 HK2
            go_wp2_with fail
            go_roundw
          case rel =>
            refine ⟨k + 1, by omega, by go_num, (hbw.setCell (show w.heap.size ≤ g6 by omega) _).setCell (show w.heap.size ≤ g6 by omega) _, ?_, ?_, ?_, ?_, ?_, ?_, ?_, ?_⟩
            · rw [HS.out]; simp [go_sem, *]
            · rw [HS.out]; simp [go_sem, *]
            · rw [World.cell?_setCell_other _ _ _ _ (by simp <;> omega), World.cell?_setCell_other _ _ _ _ (by simp <;> omega)]; exact r0'
            · rw [World.cell?_setCell_other _ _ _ _ (by simp <;> omega), World.cell?_setCell_other _ _ _ _ (by simp <;> omega)]; exact r1'
            all_goals simp [go_sem, *]
          case measure => simp [intOf]; omega
        | false =>
          have HS := Lib.hid (pk_no hT)
          have hq := of_decide_eq_false hT
          have hq : ¬ dys (pickTo moreT ds (k - 1)) < dys (at2 ds k) := by omega
          clear hT
          revert HK1 HK2 hq
          rw [show dys ((at2 ds k).1, (at2 ds k).2) = dys (at2 ds k) from rfl, show dys ((pickTo moreT ds (k - 1)).1, (pickTo moreT ds (k - 1)).2) = dys (pickTo moreT ds (k - 1)) from rfl]
          generalize dys (at2 ds k) = t1
          generalize dys (pickTo moreT ds (k - 1)) = t2
          rw [← HS.out] at m0 m1 ⊢
          clear HS
          obtain ⟨my, hmy⟩ : ∃ x, x = (pickTo moreT ds (k + 1 - 1)).1 := ⟨_, rfl⟩
          obtain ⟨md, hmd⟩ : ∃ x, x = (pickTo moreT ds (k + 1 - 1)).2 := ⟨_, rfl⟩
          rw [← hmy] at m0 ⊢
          rw [← hmd] at m1 ⊢
          have HMY := Lib.hid hmy
          have HMD := Lib.hid hmd
          clear hmy hmd
          generalize at2 ds k = e at p1 p2 ⊢
          obtain ⟨ye, de⟩ := e
          simp only at p1 p2 ⊢
          intro HK1 HK2 hq
          have x0q : (wr.alloc (.cells #[.int .i64 ye, .int .i64 de] 34)).cell? ⟨wr.heap.size, 0, none⟩ = some (.int .i64 ye) := by simp [go_sem]
          have x1q : (wr.alloc (.cells #[.int .i64 ye, .int .i64 de] 34)).cell? ⟨wr.heap.size, 1, none⟩ = some (.int .i64 de) := by simp [go_sem]
          have hbq := hb.alloc hsz (.cells #[.int .i64 ye, .int .i64 de] 34)
          have m0q := cell_above m0 (.cells #[.int .i64 ye, .int .i64 de] 34)
          have m1q := cell_above m1 (.cells #[.int .i64 ye, .int .i64 de] 34)
          have r0q := cell_above r0 (.cells #[.int .i64 ye, .int .i64 de] 34)
          have r1q := cell_above r1 (.cells #[.int .i64 ye, .int .i64 de] 34)
          have z0q := frozen_above m0 z0 (.cells #[.int .i64 ye, .int .i64 de] 34)
          have z1q := frozen_above m1 z1 (.cells #[.int .i64 ye, .int .i64 de] 34)
          have z2q := frozen_above r0 z2 (.cells #[.int .i64 ye, .int .i64 de] 34)
          have z3q := frozen_above r1 z3 (.cells #[.int .i64 ye, .int .i64 de] 34)
          clear hb m0 m1 r0 r1 z0 z1 z2 z3
          go_wp2_with fail
          generalize wr.alloc (.cells #[.int .i64 ye, .int .i64 de] 34) = wq at x0q x1q hbq m0q m1q r0q r1q z0q z1q z2q z3q ⊢
          generalize wr.heap.size = g at x0q x1q ⊢
          go_region_held3 (fun w' => Below w.heap.size w w' ∧ w'.cell? ⟨g, 0, none⟩ = some (.int .i64 ye) ∧ w'.cell? ⟨g, 1, none⟩ = some (.int .i64 de) ∧ w'.cell? ⟨g6, 0, none⟩ = some (.int .i64 my) ∧ w'.cell? ⟨g6, 1, none⟩ = some (.int .i64 md) ∧ w'.cell? ⟨w.heap.size, 0, none⟩ = some (.int .i64 0) ∧ w'.cell? ⟨w.heap.size, 1, none⟩ = some (.int .i64 0) ∧ w'.frozen? ⟨g6, 0, none⟩ = false ∧ w'.frozen? ⟨g6, 1, none⟩ = false ∧ w'.frozen? ⟨w.heap.size, 0, none⟩ = false ∧ w'.frozen? ⟨w.heap.size, 1, none⟩ = false)
            (first
              | exact ⟨hbq.drew, x0q, x1q, m0q, m1q, r0q, r1q, z0q, z1q, z2q, z3q⟩
              | (exact ⟨Below.drew (by assumption), by first | assumption | simp [*], by first | assumption | simp [*], by first | assumption | simp [*], by first | assumption | simp [*], by first | assumption | simp [*], by first | assumption | simp [*], by first | assumption | simp [*], by first | assumption | simp [*], by first | assumption | simp [*], by first | assumption | simp [*]⟩)
              | (go_split_ands
                 refine ⟨?_, ?_, ?_, ?_, ?_, ?_, ?_, ?_, ?_, ?_, ?_⟩
                 · exact (by first | assumption | exact below_wr (by assumption) hcall | exact below_wrD (by assumption) hcall)
                 · exact (by first | assumption | exact below_cell2 hcall (by first | assumption | (simp; assumption)))
                 · exact (by first | assumption | exact below_cell2 hcall (by first | assumption | (simp; assumption)))
                 · exact (by first | assumption | exact below_cell2 hcall (by first | assumption | (simp; assumption)))
                 · exact (by first | assumption | exact below_cell2 hcall (by first | assumption | (simp; assumption)))
                 · exact (by first | assumption | exact below_cell2 hcall (by first | assumption | (simp; assumption)))
                 · exact (by first | assumption | exact below_cell2 hcall (by first | assumption | (simp; assumption)))
                 · exact (by first | exact (hcall.frozen (p := ⟨g6, 0, none⟩) (World.block_lt_of_cell? _ ⟨g6, 0, none⟩ (by first | assumption | (simp; assumption)))).trans (by first | assumption | (simp; assumption)))
                 · exact (by first | exact (hcall.frozen (p := ⟨g6, 1, none⟩) (World.block_lt_of_cell? _ ⟨g6, 0, none⟩ (by first | assumption | (simp; assumption)))).trans (by first | assumption | (simp; assumption)))
                 · exact (by first | exact (hcall.frozen (p := ⟨w.heap.size, 0, none⟩) (World.block_lt_of_cell? _ ⟨w.heap.size, 0, none⟩ (by first | assumption | (simp; assumption)))).trans (by first | assumption | (simp; assumption)))
                 · exact (by first | exact (hcall.frozen (p := ⟨w.heap.size, 1, none⟩) (World.block_lt_of_cell? _ ⟨w.heap.size, 0, none⟩ (by first | assumption | (simp; assumption)))).trans (by first | assumption | (simp; assumption)))))
            (first | (go_at_call_of 53 [Value.agg #[Value.int IntKind.i64 ye, Value.int IntKind.i64 de]]; refine (HK1.out _).mono ?_; rintro e w' ⟨rfl, hcall⟩) | (go_at_call_of 53 [Value.agg #[Value.int IntKind.i64 my, Value.int IntKind.i64 md]]; refine (HK2.out _).mono ?_; rintro e w' ⟨rfl, hcall⟩))
          all_goals
            obtain ⟨hbw, x0', x1', m0', m1', r0', r1', z0', z1', z2', z3'⟩ := ‹Below w.heap.size w _ ∧ _›
            clear HK1 HK2
            go_wp2_with fail
            go_roundw
          case rel => exact ⟨k + 1, by omega, by go_num, hbw, by rw [← HMY.out]; exact m0', by rw [← HMD.out]; exact m1', r0', r1', z0', z1', z2', z3'⟩
          case measure => simp [intOf]; omega
      · have hkn : k = n := by omega
        subst hkn
        have hpd := HPD.out (k - 1) (by omega)
        have hN := fsN_is HG.out
        have hdb := dys_bounds hpd
        have HTT := Lib.hid (show ∀ i : Nat, fsT ds s i = decide (s ≤ sumA ds (backD (dys (pickTo moreT ds (k - 1)) + (i : Int))) k) from fun i => by unfold fsT; rw [HFF.out, HL.out])
        have HXX := Lib.hid (show fsX ds s = dys (pickTo moreT ds (k - 1)) + (cutT (fsT ds s) (fsN ds) : Int) by unfold fsX; rw [HFF.out])
        have HOK := Lib.hid (fun (i : Nat) (hi : i < fsN ds) => (show backOk (dys (pickTo moreT ds (k - 1)) + (i : Int)) = true by rw [← HFF.out]; exact fs_ok HG.out hi))
        have HMO := Lib.hid (fs_mono HG.out s)
        have HDY := Lib.hid (fun W => biDays_any (pickTo moreT ds (k - 1)).1 (pickTo moreT ds (k - 1)).2 W hpd)
        rw [HFF.out] at hN
        revert HDY HTT HXX HOK hN hdb
        rw [show dys ((pickTo moreT ds (k - 1)).1, (pickTo moreT ds (k - 1)).2) = dys (pickTo moreT ds (k - 1)) from rfl]
        generalize dys (pickTo moreT ds (k - 1)) = D
        generalize (pickTo moreT ds (k - 1)).1 = my at m0 ⊢
        generalize (pickTo moreT ds (k - 1)).2 = md at m1 ⊢
        intro hN hdb HTT HXX HOK HDY
        generalize hNe : fsN ds = N at hN HXX HOK HMO
        clear hpd HPD hNe
        go_wp2_with fail
        refine (HDY.out _).mono ?_
        rintro e w2 ⟨rfl, hc2⟩
        have hb2 := hb.trans (hc2.mono hsz)
        have z2 := frozen_after hc2 r0 z2
        have z3 := frozen_after hc2 r1 z3
        have r0 := below_cell2 hc2 r0
        have r1 := below_cell2 hc2 r1
        clear m0 m1 z0 z1 hb
        have hND : (1095365 : Int) = D + (N : Int) := by omega
        have hN3 := hN.2
        go_wp2_with fail
        go_loopw [9, 10] (fun u v wr => ∃ lo hi : Nat, u = .int .i64 (D + lo) ∧ v = .int .i64 (D + hi) ∧ lo ≤ hi ∧ hi ≤ N ∧ Below w.heap.size w wr ∧ Hid ((∀ i, i < lo → fsT ds s i = false) ∧ (∀ i, hi ≤ i → i < N → fsT ds s i = true)) ∧ wr.cell? ⟨w.heap.size, 0, none⟩ = some (.int .i64 0) ∧ wr.cell? ⟨w.heap.size, 1, none⟩ = some (.int .i64 0) ∧ wr.frozen? ⟨w.heap.size, 0, none⟩ = false ∧ wr.frozen? ⟨w.heap.size, 1, none⟩ = false) (fun u v _ => (intOf v - intOf u).toNat)
        case atStart => exact ⟨0, N, by simp, by rw [← hND], Nat.zero_le _, Nat.le_refl _, hb2, Lib.hid ⟨fun i hi => absurd hi (by omega), fun i h1 h2 => absurd h2 (by omega)⟩, r0, r1, z2, z3⟩
        case round =>
          clear r0 r1 z2 z3 hb2 hc2
          obtain ⟨lo, hi, rfl, rfl, hlh, hin, hb, HI2, r0, r1, z0, z1⟩ := hrel
          have hsz := hb.size
          by_cases hlt : lo < hi
          · obtain ⟨m, hm⟩ : ∃ m : Nat, m = (lo + hi) / 2 := ⟨_, rfl⟩
            have hmN : m < N := by omega
            have hml : lo ≤ m := by omega
            have hmh : m < hi := by omega
            have kd : (D + (lo : Int) + (D + (hi : Int))).tdiv 2 = D + (m : Int) := by rw [Int.tdiv_eq_ediv_of_nonneg (by omega)]; omega
            have hBK0 := fun W => biBack_any (D + (m : Int)) W
            rw [HOK.out m hmN] at hBK0
            have hSM0 := fun W h h3 => HSM.out (D + (m : Int)) (HOK.out m hmN) W h h3
            have hTm := HTT.out m
            clear hm
            generalize sumA ds (backD (D + (m : Int))) k = r at hSM0 hTm
            generalize backD (D + (m : Int)) = q at hBK0 hSM0
            obtain ⟨qy, qd⟩ := q
            have HBK := Lib.hid hBK0
            have HSM2 := Lib.hid hSM0
            clear hBK0 hSM0
            have HMm := Lib.hid (fun i h1 h2 h3 => HMO.out m i h1 h2 h3)
            have HMn := Lib.hid (fun i (h1 : i ≤ m) (h3 : fsT ds s i = true) => HMO.out i m h1 hmN h3)
            by_cases hr : s ≤ r
            · have HT : Hid ((∀ i, i < lo → fsT ds s i = false) ∧ (∀ i, m ≤ i → i < N → fsT ds s i = true)) := Lib.hid ⟨HI2.out.1, fun i h1 h2 => HMm.out i h1 h2 (hTm.trans (decide_eq_true hr))⟩
              clear hTm
              go_wp2_with fail
              refine (HBK.out _).mono ?_
              rintro e w3 ⟨rfl, hc3⟩
              have hb3 := hb.trans (hc3.mono hsz)
              have hb3a := hb3.alloc (Below.size hb3) (.cells #[.int .i64 qy, .int .i64 qd] 34)
              have hc3a := hc3.alloc (Below.size hc3) (.cells #[.int .i64 qy, .int .i64 qd] 34)
              go_wp2_with fail
              refine (HSM2.out _ (hI.kept hb3a hbl) (by have := Below.size hb3a; omega)).mono ?_
              rintro e w4 ⟨rfl, hc4⟩
              have hb4 := hb3a.trans (hc4.mono (Below.size hb3a))
              have hc4a := hc3a.trans (hc4.mono (Below.size hc3a))
              go_wp2_with fail
              go_roundw
              case rel => exact ⟨lo, m, rfl, rfl, hml, by omega, hb4, HT, below_cell2 hc4a r0, below_cell2 hc4a r1, frozen_after hc4a r0 z0, frozen_after hc4a r1 z1⟩
              case measure => simp [intOf]; omega
            · have HT : Hid ((∀ i, i < m + 1 → fsT ds s i = false) ∧ (∀ i, hi ≤ i → i < N → fsT ds s i = true)) := Lib.hid ⟨fun i h1 => (by
                cases hz : fsT ds s i with
                | false => rfl
                | true => have := HMn.out i (by omega) hz; rw [hTm, decide_eq_false hr] at this; cases this), HI2.out.2⟩
              clear hTm
              go_wp2_with fail
              refine (HBK.out _).mono ?_
              rintro e w3 ⟨rfl, hc3⟩
              have hb3 := hb.trans (hc3.mono hsz)
              have hb3a := hb3.alloc (Below.size hb3) (.cells #[.int .i64 qy, .int .i64 qd] 34)
              have hc3a := hc3.alloc (Below.size hc3) (.cells #[.int .i64 qy, .int .i64 qd] 34)
              go_wp2_with fail
              refine (HSM2.out _ (hI.kept hb3a hbl) (by have := Below.size hb3a; omega)).mono ?_
              rintro e w4 ⟨rfl, hc4⟩
              have hb4 := hb3a.trans (hc4.mono (Below.size hb3a))
              have hc4a := hc3a.trans (hc4.mono (Below.size hc3a))
              have km : D + (m : Int) + 1 = D + ((m + 1 : Nat) : Int) := by omega
              go_wp2_with fail
              go_roundw
              case rel => exact ⟨m + 1, hi, by first | rfl | (rw [← km]) | (simp; omega), rfl, by omega, hin, hb4, HT, below_cell2 hc4a r0, below_cell2 hc4a r1, frozen_after hc4a r0 z0, frozen_after hc4a r1 z1⟩
              case measure => simp [intOf]; omega
          · obtain rfl : hi = lo := by omega
            have hX : fsX ds s = D + (hi : Int) := by rw [HXX.out, cutT_is hin HI2.out.1 HI2.out.2]
            have HBK := Lib.hid (fun W => biBack_any (D + (hi : Int)) W)
            have HE2 : Hid (fsP ds s = backD (D + (hi : Int)) ∧ fsB ds s = backOk (D + (hi : Int))) := Lib.hid (by rw [← hX]; exact HE.out)
            clear hX
            generalize backOk (D + (hi : Int)) = ok at HBK HE2
            generalize backD (D + (hi : Int)) = q at HBK HE2
            obtain ⟨qy, qd⟩ := q
            go_wp2_with fail
            refine (HBK.out _).mono ?_
            rintro e w3 ⟨rfl, hc3⟩
            have hb3 := hb.trans (hc3.mono hsz)
            have z0 := frozen_after hc3 r0 z0
            have z1 := frozen_after hc3 r1 z1
            have r0 := below_cell2 hc3 r0
            have r1 := below_cell2 hc3 r1
            go_wp2_with fail
            obtain ⟨s0, s1⟩ := two_cells r0 r1
            refine bodyPost_ret (v := .tuple #[.agg #[.int .i64 qy, .int .i64 qd], .bool ok]) (by simp [results, Try.results36, go_sem, s0, s1]) rfl ?_
            rw [HE2.out.1, HE2.out.2]
            exact ⟨rfl, (hb3.setCell (by simp <;> omega) _).setCell (by simp <;> omega) _⟩
theorem firstSumOn_both (ds : List Dt) (x1 : Int) : ∃ p ok,
    (∀ b c w, ds.length ≤ 1048576 → b < w.heap.size → Dts w b 0 ds → Calls Try.prog 36 #[.slice (some ⟨b, 0, none⟩) ds.length c, .int .i64 x1] w (RetPB p ok w)) ∧
    (∀ b c w, ds.length ≤ 1048576 → b < w.heap.size → Dts w b 0 ds → Calls Try.prog 37 #[.slice (some ⟨b, 0, none⟩) ds.length c, .int .i64 x1] w (RetPB p ok w)) :=
  ⟨_, _, fun b c w _ hb h => specFirstSumOn_any b 0 ds.length c ds x1 w rfl h hb, fun b c w _ hb h => imFirstSumOn_any b 0 ds.length c ds x1 w rfl h hb⟩
end Go.Proofs.Ytbhceokapbnhhaa
