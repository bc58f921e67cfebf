/- The pick among days, of the library at this program. -/
import Derived.Test.YtbhceokapbnhhaaNx1
import Derived.Test.YtbhceokapbnhhaaIm1
import Derived.Test.YtbhceokapbnhhaaIb1
set_option linter.unusedVariables false
set_option linter.unusedSimpArgs false
namespace Go.Proofs.Ytbhceokapbnhhaa
open Go.RowKit

theorem pick_mid {t : Dt → Dt → Bool} {es : List Dt} {n : Nat} (hm : ∀ j, j < n → midI (at2 es j).1 ∧ midI (at2 es j).2) (k : Nat) (hk : k < n) : midI (pickTo t es k).1 ∧ midI (pickTo t es k).2 := by
  obtain ⟨j, hj, he⟩ := pick_is t es k
  rw [he]
  exact hm j (by omega)
theorem pick_stepYes {t : Dt → Dt → Bool} {es : List Dt} {k : Nat} (h1 : 1 ≤ k) (h : t (at2 es k) (pickTo t es (k - 1)) = true) : pickTo t es (k + 1 - 1) = at2 es k := by
  obtain ⟨j, rfl⟩ : ∃ j, k = j + 1 := ⟨k - 1, by omega⟩
  exact pick_yes h
theorem pick_stepNo {t : Dt → Dt → Bool} {es : List Dt} {k : Nat} (h1 : 1 ≤ k) (h : t (at2 es k) (pickTo t es (k - 1)) = false) : pickTo t es (k + 1 - 1) = pickTo t es (k - 1) := by
  obtain ⟨j, rfl⟩ : ∃ j, k = j + 1 := ⟨k - 1, by omega⟩
  exact pick_no h
theorem below_wr {w a b : World} (h : Below w.heap.size w a) (k : Below a.heap.size a b) : Below w.heap.size w b := h.trans (k.mono h.size)
theorem below_wrD {w a b : World} (h : Below w.heap.size w a) (k : Below a.drew.heap.size a.drew b) : Below w.heap.size w b := h.drew.trans (k.mono h.drew.size)

set_option maxHeartbeats 8000000 in
set_option maxRecDepth 100000 in
theorem imMinDay_any (b off n c : Nat) (es : List Dt) (w : World) (hl : es.length = n) (h0 : 0 < n) (hn : n ≤ 1048576) (hI : Dts w b off es) (hbl : b < w.heap.size) (hm : ∀ j, j < n → midI (at2 es j).1 ∧ midI (at2 es j).2) :
    Calls Try.prog 59 #[.slice (some ⟨b, off, none⟩) n c, .func (.func 60) #[] #[]] w (Ret (.agg #[.int .i64 (pickTo lessT es (n - 1)).1, .int .i64 (pickTo lessT es (n - 1)).2]) w) := by
  have HL := Lib.hid hl
  have HPM := Lib.hid (fun k hk => pick_mid (t := lessT) hm k hk)
  have HM := Lib.hid hm
  obtain ⟨p1, p2⟩ := hI 0 (by omega)
  rw [Nat.zero_mul, Nat.add_zero] at p1 p2
  have v1 := cell_above p1
  have v2 := cell_above p2
  have HE0 := Lib.hid (show pickTo lessT es (1 - 1) = at2 es 0 from rfl)
  have hn1 : ¬ (n : Int) < 1 := by omega
  clear hm hl
  generalize at2 es 0 = e0 at p1 p2 v1 v2 HE0
  obtain ⟨ey, ed⟩ := e0
  have HW2 := Lib.hid (((Below.refl w.heap.size w).alloc (Nat.le_refl _) (.cells #[.int .i64 0, .int .i64 0] 69)).alloc (by simp) (.cells #[.int .i64 ey, .int .i64 ed] 69))
  simp only at p1 p2 v1 v2
  go_enter Try.func59, Try.ntmps59
  go_wp2_with fail
  go_loopw [6] (fun v wr => ∃ k : Nat, 1 ≤ k ∧ k ≤ n ∧ v = .int .i64 k ∧ Below w.heap.size w wr ∧ wr.cell? ⟨w.heap.size + 1, 0, none⟩ = some (.int .i64 (pickTo lessT es (k - 1)).1) ∧ wr.cell? ⟨w.heap.size + 1, 1, none⟩ = some (.int .i64 (pickTo lessT es (k - 1)).2) ∧ wr.cell? ⟨w.heap.size, 0, none⟩ = some (.int .i64 0) ∧ wr.cell? ⟨w.heap.size, 1, none⟩ = some (.int .i64 0) ∧ wr.frozen? ⟨w.heap.size + 1, 0, none⟩ = false ∧ wr.frozen? ⟨w.heap.size + 1, 1, none⟩ = false ∧ wr.frozen? ⟨w.heap.size, 0, none⟩ = false ∧ wr.frozen? ⟨w.heap.size, 1, none⟩ = false) (fun v _ => n - (intOf v).toNat)
  case atStart =>
    refine ⟨1, Nat.le_refl _, h0, rfl, HW2.out, ?_, ?_, ?_, ?_, ?_, ?_, ?_, ?_⟩
    · rw [HE0.out]; simp [go_sem]
    · rw [HE0.out]; simp [go_sem]
    all_goals simp [go_sem]
  case round =>
    obtain ⟨k, hk1, hk, rfl, hb, m0, m1, r0, r1, z0, z1, z2, z3⟩ := hrel
    by_cases hlt : k < n
    · obtain ⟨p1, p2⟩ := (hI.kept hb hbl) k (by rw [HL.out]; exact hlt)
      have hM1 := HM.out k hlt
      have hM2 := HPM.out (k - 1) (by omega)
      have HK := Lib.hid (fun W => imDaysAfter_any (at2 es k).1 (at2 es k).2 (pickTo lessT es (k - 1)).1 (pickTo lessT es (k - 1)).2 W hM1.1 hM1.2 hM2.1 hM2.2)
      clear hM1 hM2 v1 v2
      cases hT : lessT (at2 es k) (pickTo lessT es (k - 1)) with
      | true =>
        have HS := Lib.hid (pick_stepYes hk1 hT)
        have hq := of_decide_eq_true hT
        clear hT
        revert HK hq HS
        rw [show dys ((at2 es k).1, (at2 es k).2) - dys ((pickTo lessT es (k - 1)).1, (pickTo lessT es (k - 1)).2) = dys (at2 es k) - dys (pickTo lessT es (k - 1)) from rfl]
        generalize dys (at2 es k) - dys (pickTo lessT es (k - 1)) = q
        generalize (pickTo lessT es (k - 1)).1 = my at m0 ⊢
        generalize (pickTo lessT es (k - 1)).2 = md at m1 ⊢
        generalize at2 es k = e at p1 p2 ⊢
        obtain ⟨ye, de⟩ := e
        simp only at p1 p2 ⊢
        intro HK HS hq
        go_wp2_with fail
        go_region_held3 (fun w' => Below w.heap.size w w' ∧ w'.cell? ⟨b, off + k * 2, none⟩ = some (.int .i64 ye) ∧ w'.cell? ⟨b, off + k * 2 + 1, none⟩ = some (.int .i64 de) ∧ w'.cell? ⟨w.heap.size + 1, 0, none⟩ = some (.int .i64 my) ∧ w'.cell? ⟨w.heap.size + 1, 1, none⟩ = some (.int .i64 md) ∧ w'.cell? ⟨w.heap.size, 0, none⟩ = some (.int .i64 0) ∧ w'.cell? ⟨w.heap.size, 1, none⟩ = some (.int .i64 0) ∧ w'.frozen? ⟨w.heap.size + 1, 0, none⟩ = false ∧ w'.frozen? ⟨w.heap.size + 1, 1, none⟩ = false ∧ w'.frozen? ⟨w.heap.size, 0, none⟩ = false ∧ w'.frozen? ⟨w.heap.size, 1, none⟩ = false)
        (first
          | exact ⟨hb.drew, p1, p2, m0, m1, r0, r1, z0, z1, z2, z3⟩
          | (exact ⟨Below.drew (by assumption), by first | assumption | simp [*], by first | assumption | simp [*], by first | assumption | simp [*], by first | assumption | simp [*], by first | assumption | simp [*], by first | assumption | simp [*], by first | assumption | simp [*], by first | assumption | simp [*], by first | assumption | simp [*], by first | assumption | simp [*]⟩)
          | (go_split_ands
             refine ⟨?_, ?_, ?_, ?_, ?_, ?_, ?_, ?_, ?_, ?_, ?_⟩
             · exact (by first | assumption | exact below_wr (by assumption) hcall | exact below_wrD (by assumption) hcall)
             · exact (by first | assumption | exact below_cell2 hcall (by first | assumption | (simp; assumption)))
             · exact (by first | assumption | exact below_cell2 hcall (by first | assumption | (simp; assumption)))
             · exact (by first | assumption | exact below_cell2 hcall (by first | assumption | (simp; assumption)))
             · exact (by first | assumption | exact below_cell2 hcall (by first | assumption | (simp; assumption)))
             · exact (by first | assumption | exact below_cell2 hcall (by first | assumption | (simp; assumption)))
             · exact (by first | assumption | exact below_cell2 hcall (by first | assumption | (simp; assumption)))
             · exact (by first | exact (hcall.frozen (p := ⟨w.heap.size + 1, 0, none⟩) (World.block_lt_of_cell? _ ⟨w.heap.size + 1, 0, none⟩ (by first | assumption | (simp; assumption)))).trans (by first | assumption | (simp; assumption)))
             · exact (by first | exact (hcall.frozen (p := ⟨w.heap.size + 1, 1, none⟩) (World.block_lt_of_cell? _ ⟨w.heap.size + 1, 0, none⟩ (by first | assumption | (simp; assumption)))).trans (by first | assumption | (simp; assumption)))
             · exact (by first | exact (hcall.frozen (p := ⟨w.heap.size, 0, none⟩) (World.block_lt_of_cell? _ ⟨w.heap.size, 0, none⟩ (by first | assumption | (simp; assumption)))).trans (by first | assumption | (simp; assumption)))
             · exact (by first | exact (hcall.frozen (p := ⟨w.heap.size, 1, none⟩) (World.block_lt_of_cell? _ ⟨w.heap.size, 0, none⟩ (by first | assumption | (simp; assumption)))).trans (by first | assumption | (simp; assumption)))))
        (first | (go_at_call 60; refine (HK.out _).mono ?_; rintro e w' ⟨rfl, hcall⟩))
        all_goals
          obtain ⟨hbw, p1', p2', m0', m1', r0', r1', z0', z1', z2', z3'⟩ := ‹Below w.heap.size w _ ∧ _›
          clear HK
          go_wp2_with fail
          go_roundw
        case rel =>
          refine ⟨k + 1, by omega, by omega, by go_num, (hbw.setCell (by simp <;> omega) _).setCell (by simp <;> omega) _, ?_, ?_, ?_, ?_, ?_, ?_, ?_, ?_⟩
          · rw [HS.out]; simp [go_sem, *]
          · rw [HS.out]; simp [go_sem, *]
          all_goals simp [go_sem, *]
        case measure => simp [intOf]; omega
      | false =>
        have HS := Lib.hid (pick_stepNo hk1 hT)
        have hq := of_decide_eq_false hT
        clear hT
        revert HK hq
        rw [show dys ((at2 es k).1, (at2 es k).2) - dys ((pickTo lessT es (k - 1)).1, (pickTo lessT es (k - 1)).2) = dys (at2 es k) - dys (pickTo lessT es (k - 1)) from rfl]
        generalize dys (at2 es k) - dys (pickTo lessT es (k - 1)) = q
        rw [← HS.out] at m0 m1 ⊢
        clear HS
        obtain ⟨my, hmy⟩ : ∃ x, x = (pickTo lessT es (k + 1 - 1)).1 := ⟨_, rfl⟩
        obtain ⟨md, hmd⟩ : ∃ x, x = (pickTo lessT es (k + 1 - 1)).2 := ⟨_, rfl⟩
        rw [← hmy] at m0 ⊢
        rw [← hmd] at m1 ⊢
        have HMY := Lib.hid hmy
        have HMD := Lib.hid hmd
        clear hmy hmd
        generalize at2 es k = e at p1 p2 ⊢
        obtain ⟨ye, de⟩ := e
        simp only at p1 p2 ⊢
        intro HK hq
        go_wp2_with fail
        go_region_held3 (fun w' => Below w.heap.size w w' ∧ w'.cell? ⟨b, off + k * 2, none⟩ = some (.int .i64 ye) ∧ w'.cell? ⟨b, off + k * 2 + 1, none⟩ = some (.int .i64 de) ∧ w'.cell? ⟨w.heap.size + 1, 0, none⟩ = some (.int .i64 my) ∧ w'.cell? ⟨w.heap.size + 1, 1, none⟩ = some (.int .i64 md) ∧ w'.cell? ⟨w.heap.size, 0, none⟩ = some (.int .i64 0) ∧ w'.cell? ⟨w.heap.size, 1, none⟩ = some (.int .i64 0) ∧ w'.frozen? ⟨w.heap.size + 1, 0, none⟩ = false ∧ w'.frozen? ⟨w.heap.size + 1, 1, none⟩ = false ∧ w'.frozen? ⟨w.heap.size, 0, none⟩ = false ∧ w'.frozen? ⟨w.heap.size, 1, none⟩ = false)
        (first
          | exact ⟨hb.drew, p1, p2, m0, m1, r0, r1, z0, z1, z2, z3⟩
          | (exact ⟨Below.drew (by assumption), by first | assumption | simp [*], by first | assumption | simp [*], by first | assumption | simp [*], by first | assumption | simp [*], by first | assumption | simp [*], by first | assumption | simp [*], by first | assumption | simp [*], by first | assumption | simp [*], by first | assumption | simp [*], by first | assumption | simp [*]⟩)
          | (go_split_ands
             refine ⟨?_, ?_, ?_, ?_, ?_, ?_, ?_, ?_, ?_, ?_, ?_⟩
             · exact (by first | assumption | exact below_wr (by assumption) hcall | exact below_wrD (by assumption) hcall)
             · exact (by first | assumption | exact below_cell2 hcall (by first | assumption | (simp; assumption)))
             · exact (by first | assumption | exact below_cell2 hcall (by first | assumption | (simp; assumption)))
             · exact (by first | assumption | exact below_cell2 hcall (by first | assumption | (simp; assumption)))
             · exact (by first | assumption | exact below_cell2 hcall (by first | assumption | (simp; assumption)))
             · exact (by first | assumption | exact below_cell2 hcall (by first | assumption | (simp; assumption)))
             · exact (by first | assumption | exact below_cell2 hcall (by first | assumption | (simp; assumption)))
             · exact (by first | exact (hcall.frozen (p := ⟨w.heap.size + 1, 0, none⟩) (World.block_lt_of_cell? _ ⟨w.heap.size + 1, 0, none⟩ (by first | assumption | (simp; assumption)))).trans (by first | assumption | (simp; assumption)))
             · exact (by first | exact (hcall.frozen (p := ⟨w.heap.size + 1, 1, none⟩) (World.block_lt_of_cell? _ ⟨w.heap.size + 1, 0, none⟩ (by first | assumption | (simp; assumption)))).trans (by first | assumption | (simp; assumption)))
             · exact (by first | exact (hcall.frozen (p := ⟨w.heap.size, 0, none⟩) (World.block_lt_of_cell? _ ⟨w.heap.size, 0, none⟩ (by first | assumption | (simp; assumption)))).trans (by first | assumption | (simp; assumption)))
             · exact (by first | exact (hcall.frozen (p := ⟨w.heap.size, 1, none⟩) (World.block_lt_of_cell? _ ⟨w.heap.size, 0, none⟩ (by first | assumption | (simp; assumption)))).trans (by first | assumption | (simp; assumption)))))
        (first | (go_at_call 60; refine (HK.out _).mono ?_; rintro e w' ⟨rfl, hcall⟩))
        all_goals
          obtain ⟨hbw, p1', p2', m0', m1', r0', r1', z0', z1', z2', z3'⟩ := ‹Below w.heap.size w _ ∧ _›
          clear HK
          go_wp2_with fail
          go_roundw
        case rel => exact ⟨k + 1, by omega, by omega, by go_num, hbw, by rw [← HMY.out]; exact m0', by rw [← HMD.out]; exact m1', r0', r1', z0', z1', z2', z3'⟩
        case measure => simp [intOf]; omega
    · have hkn : k = n := by omega
      subst hkn
      go_wp2_with fail
      obtain ⟨s0, s1⟩ := two_cells r0 r1
      refine bodyPost_ret (v := .agg #[.int .i64 (pickTo lessT es (k - 1)).1, .int .i64 (pickTo lessT es (k - 1)).2]) (by simp [results, Try.results59, go_sem, s0, s1]) rfl ?_
      exact ⟨rfl, (hb.setCell (by simp <;> omega) _).setCell (by simp <;> omega) _⟩

set_option maxHeartbeats 8000000 in
set_option maxRecDepth 100000 in
theorem imMaxDay_any (b off n c : Nat) (es : List Dt) (w : World) (hl : es.length = n) (h0 : 0 < n) (hn : n ≤ 1048576) (hI : Dts w b off es) (hbl : b < w.heap.size) (hm : ∀ j, j < n → midI (at2 es j).1 ∧ midI (at2 es j).2) :
    Calls Try.prog 61 #[.slice (some ⟨b, off, none⟩) n c, .func (.func 60) #[] #[]] w (Ret (.agg #[.int .i64 (pickTo moreT es (n - 1)).1, .int .i64 (pickTo moreT es (n - 1)).2]) w) := by
  have HL := Lib.hid hl
  have HPM := Lib.hid (fun k hk => pick_mid (t := moreT) hm k hk)
  have HM := Lib.hid hm
  obtain ⟨p1, p2⟩ := hI 0 (by omega)
  rw [Nat.zero_mul, Nat.add_zero] at p1 p2
  have v1 := cell_above p1
  have v2 := cell_above p2
  have HE0 := Lib.hid (show pickTo moreT es (1 - 1) = at2 es 0 from rfl)
  have hn1 : ¬ (n : Int) < 1 := by omega
  clear hm hl
  generalize at2 es 0 = e0 at p1 p2 v1 v2 HE0
  obtain ⟨ey, ed⟩ := e0
  have HW2 := Lib.hid (((Below.refl w.heap.size w).alloc (Nat.le_refl _) (.cells #[.int .i64 0, .int .i64 0] 69)).alloc (by simp) (.cells #[.int .i64 ey, .int .i64 ed] 69))
  simp only at p1 p2 v1 v2
  go_enter Try.func61, Try.ntmps61
  go_wp2_with fail
  go_loopw [6] (fun v wr => ∃ k : Nat, 1 ≤ k ∧ k ≤ n ∧ v = .int .i64 k ∧ Below w.heap.size w wr ∧ wr.cell? ⟨w.heap.size + 1, 0, none⟩ = some (.int .i64 (pickTo moreT es (k - 1)).1) ∧ wr.cell? ⟨w.heap.size + 1, 1, none⟩ = some (.int .i64 (pickTo moreT es (k - 1)).2) ∧ wr.cell? ⟨w.heap.size, 0, none⟩ = some (.int .i64 0) ∧ wr.cell? ⟨w.heap.size, 1, none⟩ = some (.int .i64 0) ∧ wr.frozen? ⟨w.heap.size + 1, 0, none⟩ = false ∧ wr.frozen? ⟨w.heap.size + 1, 1, none⟩ = false ∧ wr.frozen? ⟨w.heap.size, 0, none⟩ = false ∧ wr.frozen? ⟨w.heap.size, 1, none⟩ = false) (fun v _ => n - (intOf v).toNat)
  case atStart =>
    refine ⟨1, Nat.le_refl _, h0, rfl, HW2.out, ?_, ?_, ?_, ?_, ?_, ?_, ?_, ?_⟩
    · rw [HE0.out]; simp [go_sem]
    · rw [HE0.out]; simp [go_sem]
    all_goals simp [go_sem]
  case round =>
    obtain ⟨k, hk1, hk, rfl, hb, m0, m1, r0, r1, z0, z1, z2, z3⟩ := hrel
    by_cases hlt : k < n
    · obtain ⟨p1, p2⟩ := (hI.kept hb hbl) k (by rw [HL.out]; exact hlt)
      have hM1 := HM.out k hlt
      have hM2 := HPM.out (k - 1) (by omega)
      have HK := Lib.hid (fun W => imDaysAfter_any (at2 es k).1 (at2 es k).2 (pickTo moreT es (k - 1)).1 (pickTo moreT es (k - 1)).2 W hM1.1 hM1.2 hM2.1 hM2.2)
      clear hM1 hM2 v1 v2
      cases hT : moreT (at2 es k) (pickTo moreT es (k - 1)) with
      | true =>
        have HS := Lib.hid (pick_stepYes hk1 hT)
        have hq := of_decide_eq_true hT
        clear hT
        revert HK hq HS
        rw [show dys ((at2 es k).1, (at2 es k).2) - dys ((pickTo moreT es (k - 1)).1, (pickTo moreT es (k - 1)).2) = dys (at2 es k) - dys (pickTo moreT es (k - 1)) from rfl]
        generalize dys (at2 es k) - dys (pickTo moreT es (k - 1)) = q
        generalize (pickTo moreT es (k - 1)).1 = my at m0 ⊢
        generalize (pickTo moreT es (k - 1)).2 = md at m1 ⊢
        generalize at2 es k = e at p1 p2 ⊢
        obtain ⟨ye, de⟩ := e
        simp only at p1 p2 ⊢
        intro HK HS hq
        go_wp2_with fail
        go_region_held3 (fun w' => Below w.heap.size w w' ∧ w'.cell? ⟨b, off + k * 2, none⟩ = some (.int .i64 ye) ∧ w'.cell? ⟨b, off + k * 2 + 1, none⟩ = some (.int .i64 de) ∧ w'.cell? ⟨w.heap.size + 1, 0, none⟩ = some (.int .i64 my) ∧ w'.cell? ⟨w.heap.size + 1, 1, none⟩ = some (.int .i64 md) ∧ w'.cell? ⟨w.heap.size, 0, none⟩ = some (.int .i64 0) ∧ w'.cell? ⟨w.heap.size, 1, none⟩ = some (.int .i64 0) ∧ w'.frozen? ⟨w.heap.size + 1, 0, none⟩ = false ∧ w'.frozen? ⟨w.heap.size + 1, 1, none⟩ = false ∧ w'.frozen? ⟨w.heap.size, 0, none⟩ = false ∧ w'.frozen? ⟨w.heap.size, 1, none⟩ = false)
        (first
          | exact ⟨hb.drew, p1, p2, m0, m1, r0, r1, z0, z1, z2, z3⟩
          | (exact ⟨Below.drew (by assumption), by first | assumption | simp [*], by first | assumption | simp [*], by first | assumption | simp [*], by first | assumption | simp [*], by first | assumption | simp [*], by first | assumption | simp [*], by first | assumption | simp [*], by first | assumption | simp [*], by first | assumption | simp [*], by first | assumption | simp [*]⟩)
          | (go_split_ands
             refine ⟨?_, ?_, ?_, ?_, ?_, ?_, ?_, ?_, ?_, ?_, ?_⟩
             · exact (by first | assumption | exact below_wr (by assumption) hcall | exact below_wrD (by assumption) hcall)
             · exact (by first | assumption | exact below_cell2 hcall (by first | assumption | (simp; assumption)))
             · exact (by first | assumption | exact below_cell2 hcall (by first | assumption | (simp; assumption)))
             · exact (by first | assumption | exact below_cell2 hcall (by first | assumption | (simp; assumption)))
             · exact (by first | assumption | exact below_cell2 hcall (by first | assumption | (simp; assumption)))
             · exact (by first | assumption | exact below_cell2 hcall (by first | assumption | (simp; assumption)))
             · exact (by first | assumption | exact below_cell2 hcall (by first | assumption | (simp; assumption)))
             · exact (by first | exact (hcall.frozen (p := ⟨w.heap.size + 1, 0, none⟩) (World.block_lt_of_cell? _ ⟨w.heap.size + 1, 0, none⟩ (by first | assumption | (simp; assumption)))).trans (by first | assumption | (simp; assumption)))
             · exact (by first | exact (hcall.frozen (p := ⟨w.heap.size + 1, 1, none⟩) (World.block_lt_of_cell? _ ⟨w.heap.size + 1, 0, none⟩ (by first | assumption | (simp; assumption)))).trans (by first | assumption | (simp; assumption)))
             · exact (by first | exact (hcall.frozen (p := ⟨w.heap.size, 0, none⟩) (World.block_lt_of_cell? _ ⟨w.heap.size, 0, none⟩ (by first | assumption | (simp; assumption)))).trans (by first | assumption | (simp; assumption)))
             · exact (by first | exact (hcall.frozen (p := ⟨w.heap.size, 1, none⟩) (World.block_lt_of_cell? _ ⟨w.heap.size, 0, none⟩ (by first | assumption | (simp; assumption)))).trans (by first | assumption | (simp; assumption)))))
        (first | (go_at_call 60; refine (HK.out _).mono ?_; rintro e w' ⟨rfl, hcall⟩))
        all_goals
          obtain ⟨hbw, p1', p2', m0', m1', r0', r1', z0', z1', z2', z3'⟩ := ‹Below w.heap.size w _ ∧ _›
          clear HK
          go_wp2_with fail
          go_roundw
        case rel =>
          refine ⟨k + 1, by omega, by omega, by go_num, (hbw.setCell (by simp <;> omega) _).setCell (by simp <;> omega) _, ?_, ?_, ?_, ?_, ?_, ?_, ?_, ?_⟩
          · rw [HS.out]; simp [go_sem, *]
          · rw [HS.out]; simp [go_sem, *]
          all_goals simp [go_sem, *]
        case measure => simp [intOf]; omega
      | false =>
        have HS := Lib.hid (pick_stepNo hk1 hT)
        have hq := of_decide_eq_false hT
        clear hT
        revert HK hq
        rw [show dys ((at2 es k).1, (at2 es k).2) - dys ((pickTo moreT es (k - 1)).1, (pickTo moreT es (k - 1)).2) = dys (at2 es k) - dys (pickTo moreT es (k - 1)) from rfl]
        generalize dys (at2 es k) - dys (pickTo moreT es (k - 1)) = q
        rw [← HS.out] at m0 m1 ⊢
        clear HS
        obtain ⟨my, hmy⟩ : ∃ x, x = (pickTo moreT es (k + 1 - 1)).1 := ⟨_, rfl⟩
        obtain ⟨md, hmd⟩ : ∃ x, x = (pickTo moreT es (k + 1 - 1)).2 := ⟨_, rfl⟩
        rw [← hmy] at m0 ⊢
        rw [← hmd] at m1 ⊢
        have HMY := Lib.hid hmy
        have HMD := Lib.hid hmd
        clear hmy hmd
        generalize at2 es k = e at p1 p2 ⊢
        obtain ⟨ye, de⟩ := e
        simp only at p1 p2 ⊢
        intro HK hq
        go_wp2_with fail
        go_region_held3 (fun w' => Below w.heap.size w w' ∧ w'.cell? ⟨b, off + k * 2, none⟩ = some (.int .i64 ye) ∧ w'.cell? ⟨b, off + k * 2 + 1, none⟩ = some (.int .i64 de) ∧ w'.cell? ⟨w.heap.size + 1, 0, none⟩ = some (.int .i64 my) ∧ w'.cell? ⟨w.heap.size + 1, 1, none⟩ = some (.int .i64 md) ∧ w'.cell? ⟨w.heap.size, 0, none⟩ = some (.int .i64 0) ∧ w'.cell? ⟨w.heap.size, 1, none⟩ = some (.int .i64 0) ∧ w'.frozen? ⟨w.heap.size + 1, 0, none⟩ = false ∧ w'.frozen? ⟨w.heap.size + 1, 1, none⟩ = false ∧ w'.frozen? ⟨w.heap.size, 0, none⟩ = false ∧ w'.frozen? ⟨w.heap.size, 1, none⟩ = false)
        (first
          | exact ⟨hb.drew, p1, p2, m0, m1, r0, r1, z0, z1, z2, z3⟩
          | (exact ⟨Below.drew (by assumption), by first | assumption | simp [*], by first | assumption | simp [*], by first | assumption | simp [*], by first | assumption | simp [*], by first | assumption | simp [*], by first | assumption | simp [*], by first | assumption | simp [*], by first | assumption | simp [*], by first | assumption | simp [*], by first | assumption | simp [*]⟩)
          | (go_split_ands
             refine ⟨?_, ?_, ?_, ?_, ?_, ?_, ?_, ?_, ?_, ?_, ?_⟩
             · exact (by first | assumption | exact below_wr (by assumption) hcall | exact below_wrD (by assumption) hcall)
             · exact (by first | assumption | exact below_cell2 hcall (by first | assumption | (simp; assumption)))
             · exact (by first | assumption | exact below_cell2 hcall (by first | assumption | (simp; assumption)))
             · exact (by first | assumption | exact below_cell2 hcall (by first | assumption | (simp; assumption)))
             · exact (by first | assumption | exact below_cell2 hcall (by first | assumption | (simp; assumption)))
             · exact (by first | assumption | exact below_cell2 hcall (by first | assumption | (simp; assumption)))
             · exact (by first | assumption | exact below_cell2 hcall (by first | assumption | (simp; assumption)))
             · exact (by first | exact (hcall.frozen (p := ⟨w.heap.size + 1, 0, none⟩) (World.block_lt_of_cell? _ ⟨w.heap.size + 1, 0, none⟩ (by first | assumption | (simp; assumption)))).trans (by first | assumption | (simp; assumption)))
             · exact (by first | exact (hcall.frozen (p := ⟨w.heap.size + 1, 1, none⟩) (World.block_lt_of_cell? _ ⟨w.heap.size + 1, 0, none⟩ (by first | assumption | (simp; assumption)))).trans (by first | assumption | (simp; assumption)))
             · exact (by first | exact (hcall.frozen (p := ⟨w.heap.size, 0, none⟩) (World.block_lt_of_cell? _ ⟨w.heap.size, 0, none⟩ (by first | assumption | (simp; assumption)))).trans (by first | assumption | (simp; assumption)))
             · exact (by first | exact (hcall.frozen (p := ⟨w.heap.size, 1, none⟩) (World.block_lt_of_cell? _ ⟨w.heap.size, 0, none⟩ (by first | assumption | (simp; assumption)))).trans (by first | assumption | (simp; assumption)))))
        (first | (go_at_call 60; refine (HK.out _).mono ?_; rintro e w' ⟨rfl, hcall⟩))
        all_goals
          obtain ⟨hbw, p1', p2', m0', m1', r0', r1', z0', z1', z2', z3'⟩ := ‹Below w.heap.size w _ ∧ _›
          clear HK
          go_wp2_with fail
          go_roundw
        case rel => exact ⟨k + 1, by omega, by omega, by go_num, hbw, by rw [← HMY.out]; exact m0', by rw [← HMD.out]; exact m1', r0', r1', z0', z1', z2', z3'⟩
        case measure => simp [intOf]; omega
    · have hkn : k = n := by omega
      subst hkn
      go_wp2_with fail
      obtain ⟨s0, s1⟩ := two_cells r0 r1
      refine bodyPost_ret (v := .agg #[.int .i64 (pickTo moreT es (k - 1)).1, .int .i64 (pickTo moreT es (k - 1)).2]) (by simp [results, Try.results61, go_sem, s0, s1]) rfl ?_
      exact ⟨rfl, (hb.setCell (by simp <;> omega) _).setCell (by simp <;> omega) _⟩

set_option maxHeartbeats 8000000 in
set_option maxRecDepth 100000 in
theorem imMaxDate_any (b off n c : Nat) (es : List Dt) (w : World) (hl : es.length = n) (h0 : 0 < n) (hn : n ≤ 1048576) (hI : Dts w b off es) (hbl : b < w.heap.size) (hm : ∀ j, j < n → midI (at2 es j).1 ∧ midI (at2 es j).2) :
    Calls Try.prog 66 #[.slice (some ⟨b, off, none⟩) n c, .func (.func 54) #[] #[]] w (Ret (.agg #[.int .i64 (pickTo moreT es (n - 1)).1, .int .i64 (pickTo moreT es (n - 1)).2]) w) := by
  have HL := Lib.hid hl
  have HPM := Lib.hid (fun k hk => pick_mid (t := moreT) hm k hk)
  have HM := Lib.hid hm
  obtain ⟨p1, p2⟩ := hI 0 (by omega)
  rw [Nat.zero_mul, Nat.add_zero] at p1 p2
  have v1 := cell_above p1
  have v2 := cell_above p2
  have HE0 := Lib.hid (show pickTo moreT es (1 - 1) = at2 es 0 from rfl)
  have hn1 : ¬ (n : Int) < 1 := by omega
  clear hm hl
  generalize at2 es 0 = e0 at p1 p2 v1 v2 HE0
  obtain ⟨ey, ed⟩ := e0
  have HW2 := Lib.hid (((Below.refl w.heap.size w).alloc (Nat.le_refl _) (.cells #[.int .i64 0, .int .i64 0] 34)).alloc (by simp) (.cells #[.int .i64 ey, .int .i64 ed] 34))
  simp only at p1 p2 v1 v2
  go_enter Try.func66, Try.ntmps66
  go_wp2_with fail
  go_loopw [6] (fun v wr => ∃ k : Nat, 1 ≤ k ∧ k ≤ n ∧ v = .int .i64 k ∧ Below w.heap.size w wr ∧ wr.cell? ⟨w.heap.size + 1, 0, none⟩ = some (.int .i64 (pickTo moreT es (k - 1)).1) ∧ wr.cell? ⟨w.heap.size + 1, 1, none⟩ = some (.int .i64 (pickTo moreT es (k - 1)).2) ∧ wr.cell? ⟨w.heap.size, 0, none⟩ = some (.int .i64 0) ∧ wr.cell? ⟨w.heap.size, 1, none⟩ = some (.int .i64 0) ∧ wr.frozen? ⟨w.heap.size + 1, 0, none⟩ = false ∧ wr.frozen? ⟨w.heap.size + 1, 1, none⟩ = false ∧ wr.frozen? ⟨w.heap.size, 0, none⟩ = false ∧ wr.frozen? ⟨w.heap.size, 1, none⟩ = false) (fun v _ => n - (intOf v).toNat)
  case atStart =>
    refine ⟨1, Nat.le_refl _, h0, rfl, HW2.out, ?_, ?_, ?_, ?_, ?_, ?_, ?_, ?_⟩
    · rw [HE0.out]; simp [go_sem]
    · rw [HE0.out]; simp [go_sem]
    all_goals simp [go_sem]
  case round =>
    obtain ⟨k, hk1, hk, rfl, hb, m0, m1, r0, r1, z0, z1, z2, z3⟩ := hrel
    by_cases hlt : k < n
    · obtain ⟨p1, p2⟩ := (hI.kept hb hbl) k (by rw [HL.out]; exact hlt)
      have hM1 := HM.out k hlt
      have hM2 := HPM.out (k - 1) (by omega)
      have HK := Lib.hid (fun W => imCompare_any (at2 es k).1 (at2 es k).2 (pickTo moreT es (k - 1)).1 (pickTo moreT es (k - 1)).2 W hM1.1 hM1.2 hM2.1 hM2.2)
      clear hM1 hM2 v1 v2
      cases hT : moreT (at2 es k) (pickTo moreT es (k - 1)) with
      | true =>
        have HS := Lib.hid (pick_stepYes hk1 hT)
        have hq := of_decide_eq_true hT
        clear hT
        revert HK hq HS
        rw [show dys ((at2 es k).1, (at2 es k).2) - dys ((pickTo moreT es (k - 1)).1, (pickTo moreT es (k - 1)).2) = dys (at2 es k) - dys (pickTo moreT es (k - 1)) from rfl]
        generalize dys (at2 es k) - dys (pickTo moreT es (k - 1)) = q
        generalize (pickTo moreT es (k - 1)).1 = my at m0 ⊢
        generalize (pickTo moreT es (k - 1)).2 = md at m1 ⊢
        generalize at2 es k = e at p1 p2 ⊢
        obtain ⟨ye, de⟩ := e
        simp only at p1 p2 ⊢
        intro HK HS hq
        go_wp2_with fail
        go_region_held3 (fun w' => Below w.heap.size w w' ∧ w'.cell? ⟨b, off + k * 2, none⟩ = some (.int .i64 ye) ∧ w'.cell? ⟨b, off + k * 2 + 1, none⟩ = some (.int .i64 de) ∧ w'.cell? ⟨w.heap.size + 1, 0, none⟩ = some (.int .i64 my) ∧ w'.cell? ⟨w.heap.size + 1, 1, none⟩ = some (.int .i64 md) ∧ w'.cell? ⟨w.heap.size, 0, none⟩ = some (.int .i64 0) ∧ w'.cell? ⟨w.heap.size, 1, none⟩ = some (.int .i64 0) ∧ w'.frozen? ⟨w.heap.size + 1, 0, none⟩ = false ∧ w'.frozen? ⟨w.heap.size + 1, 1, none⟩ = false ∧ w'.frozen? ⟨w.heap.size, 0, none⟩ = false ∧ w'.frozen? ⟨w.heap.size, 1, none⟩ = false)
        (first
          | exact ⟨hb.drew, p1, p2, m0, m1, r0, r1, z0, z1, z2, z3⟩
          | (exact ⟨Below.drew (by assumption), by first | assumption | simp [*], by first | assumption | simp [*], by first | assumption | simp [*], by first | assumption | simp [*], by first | assumption | simp [*], by first | assumption | simp [*], by first | assumption | simp [*], by first | assumption | simp [*], by first | assumption | simp [*], by first | assumption | simp [*]⟩)
          | (go_split_ands
             refine ⟨?_, ?_, ?_, ?_, ?_, ?_, ?_, ?_, ?_, ?_, ?_⟩
             · exact (by first | assumption | exact below_wr (by assumption) hcall | exact below_wrD (by assumption) hcall)
             · exact (by first | assumption | exact below_cell2 hcall (by first | assumption | (simp; assumption)))
             · exact (by first | assumption | exact below_cell2 hcall (by first | assumption | (simp; assumption)))
             · exact (by first | assumption | exact below_cell2 hcall (by first | assumption | (simp; assumption)))
             · exact (by first | assumption | exact below_cell2 hcall (by first | assumption | (simp; assumption)))
             · exact (by first | assumption | exact below_cell2 hcall (by first | assumption | (simp; assumption)))
             · exact (by first | assumption | exact below_cell2 hcall (by first | assumption | (simp; assumption)))
             · exact (by first | exact (hcall.frozen (p := ⟨w.heap.size + 1, 0, none⟩) (World.block_lt_of_cell? _ ⟨w.heap.size + 1, 0, none⟩ (by first | assumption | (simp; assumption)))).trans (by first | assumption | (simp; assumption)))
             · exact (by first | exact (hcall.frozen (p := ⟨w.heap.size + 1, 1, none⟩) (World.block_lt_of_cell? _ ⟨w.heap.size + 1, 0, none⟩ (by first | assumption | (simp; assumption)))).trans (by first | assumption | (simp; assumption)))
             · exact (by first | exact (hcall.frozen (p := ⟨w.heap.size, 0, none⟩) (World.block_lt_of_cell? _ ⟨w.heap.size, 0, none⟩ (by first | assumption | (simp; assumption)))).trans (by first | assumption | (simp; assumption)))
             · exact (by first | exact (hcall.frozen (p := ⟨w.heap.size, 1, none⟩) (World.block_lt_of_cell? _ ⟨w.heap.size, 0, none⟩ (by first | assumption | (simp; assumption)))).trans (by first | assumption | (simp; assumption)))))
        (first | (go_at_call 54; refine (HK.out _).mono ?_; rintro e w' ⟨rfl, hcall⟩))
        all_goals
          obtain ⟨hbw, p1', p2', m0', m1', r0', r1', z0', z1', z2', z3'⟩ := ‹Below w.heap.size w _ ∧ _›
          clear HK
          go_wp2_with fail
          go_roundw
        case rel =>
          refine ⟨k + 1, by omega, by omega, by go_num, (hbw.setCell (by simp <;> omega) _).setCell (by simp <;> omega) _, ?_, ?_, ?_, ?_, ?_, ?_, ?_, ?_⟩
          · rw [HS.out]; simp [go_sem, *]
          · rw [HS.out]; simp [go_sem, *]
          all_goals simp [go_sem, *]
        case measure => simp [intOf]; omega
      | false =>
        have HS := Lib.hid (pick_stepNo hk1 hT)
        have hq := of_decide_eq_false hT
        clear hT
        revert HK hq
        rw [show dys ((at2 es k).1, (at2 es k).2) - dys ((pickTo moreT es (k - 1)).1, (pickTo moreT es (k - 1)).2) = dys (at2 es k) - dys (pickTo moreT es (k - 1)) from rfl]
        generalize dys (at2 es k) - dys (pickTo moreT es (k - 1)) = q
        rw [← HS.out] at m0 m1 ⊢
        clear HS
        obtain ⟨my, hmy⟩ : ∃ x, x = (pickTo moreT es (k + 1 - 1)).1 := ⟨_, rfl⟩
        obtain ⟨md, hmd⟩ : ∃ x, x = (pickTo moreT es (k + 1 - 1)).2 := ⟨_, rfl⟩
        rw [← hmy] at m0 ⊢
        rw [← hmd] at m1 ⊢
        have HMY := Lib.hid hmy
        have HMD := Lib.hid hmd
        clear hmy hmd
        generalize at2 es k = e at p1 p2 ⊢
        obtain ⟨ye, de⟩ := e
        simp only at p1 p2 ⊢
        intro HK hq
        go_wp2_with fail
        go_region_held3 (fun w' => Below w.heap.size w w' ∧ w'.cell? ⟨b, off + k * 2, none⟩ = some (.int .i64 ye) ∧ w'.cell? ⟨b, off + k * 2 + 1, none⟩ = some (.int .i64 de) ∧ w'.cell? ⟨w.heap.size + 1, 0, none⟩ = some (.int .i64 my) ∧ w'.cell? ⟨w.heap.size + 1, 1, none⟩ = some (.int .i64 md) ∧ w'.cell? ⟨w.heap.size, 0, none⟩ = some (.int .i64 0) ∧ w'.cell? ⟨w.heap.size, 1, none⟩ = some (.int .i64 0) ∧ w'.frozen? ⟨w.heap.size + 1, 0, none⟩ = false ∧ w'.frozen? ⟨w.heap.size + 1, 1, none⟩ = false ∧ w'.frozen? ⟨w.heap.size, 0, none⟩ = false ∧ w'.frozen? ⟨w.heap.size, 1, none⟩ = false)
        (first
          | exact ⟨hb.drew, p1, p2, m0, m1, r0, r1, z0, z1, z2, z3⟩
          | (exact ⟨Below.drew (by assumption), by first | assumption | simp [*], by first | assumption | simp [*], by first | assumption | simp [*], by first | assumption | simp [*], by first | assumption | simp [*], by first | assumption | simp [*], by first | assumption | simp [*], by first | assumption | simp [*], by first | assumption | simp [*], by first | assumption | simp [*]⟩)
          | (go_split_ands
             refine ⟨?_, ?_, ?_, ?_, ?_, ?_, ?_, ?_, ?_, ?_, ?_⟩
             · exact (by first | assumption | exact below_wr (by assumption) hcall | exact below_wrD (by assumption) hcall)
             · exact (by first | assumption | exact below_cell2 hcall (by first | assumption | (simp; assumption)))
             · exact (by first | assumption | exact below_cell2 hcall (by first | assumption | (simp; assumption)))
             · exact (by first | assumption | exact below_cell2 hcall (by first | assumption | (simp; assumption)))
             · exact (by first | assumption | exact below_cell2 hcall (by first | assumption | (simp; assumption)))
             · exact (by first | assumption | exact below_cell2 hcall (by first | assumption | (simp; assumption)))
             · exact (by first | assumption | exact below_cell2 hcall (by first | assumption | (simp; assumption)))
             · exact (by first | exact (hcall.frozen (p := ⟨w.heap.size + 1, 0, none⟩) (World.block_lt_of_cell? _ ⟨w.heap.size + 1, 0, none⟩ (by first | assumption | (simp; assumption)))).trans (by first | assumption | (simp; assumption)))
             · exact (by first | exact (hcall.frozen (p := ⟨w.heap.size + 1, 1, none⟩) (World.block_lt_of_cell? _ ⟨w.heap.size + 1, 0, none⟩ (by first | assumption | (simp; assumption)))).trans (by first | assumption | (simp; assumption)))
             · exact (by first | exact (hcall.frozen (p := ⟨w.heap.size, 0, none⟩) (World.block_lt_of_cell? _ ⟨w.heap.size, 0, none⟩ (by first | assumption | (simp; assumption)))).trans (by first | assumption | (simp; assumption)))
             · exact (by first | exact (hcall.frozen (p := ⟨w.heap.size, 1, none⟩) (World.block_lt_of_cell? _ ⟨w.heap.size, 0, none⟩ (by first | assumption | (simp; assumption)))).trans (by first | assumption | (simp; assumption)))))
        (first | (go_at_call 54; refine (HK.out _).mono ?_; rintro e w' ⟨rfl, hcall⟩))
        all_goals
          obtain ⟨hbw, p1', p2', m0', m1', r0', r1', z0', z1', z2', z3'⟩ := ‹Below w.heap.size w _ ∧ _›
          clear HK
          go_wp2_with fail
          go_roundw
        case rel => exact ⟨k + 1, by omega, by omega, by go_num, hbw, by rw [← HMY.out]; exact m0', by rw [← HMD.out]; exact m1', r0', r1', z0', z1', z2', z3'⟩
        case measure => simp [intOf]; omega
    · have hkn : k = n := by omega
      subst hkn
      go_wp2_with fail
      obtain ⟨s0, s1⟩ := two_cells r0 r1
      refine bodyPost_ret (v := .agg #[.int .i64 (pickTo moreT es (k - 1)).1, .int .i64 (pickTo moreT es (k - 1)).2]) (by simp [results, Try.results66, go_sem, s0, s1]) rfl ?_
      exact ⟨rfl, (hb.setCell (by simp <;> omega) _).setCell (by simp <;> omega) _⟩

end Go.Proofs.Ytbhceokapbnhhaa
