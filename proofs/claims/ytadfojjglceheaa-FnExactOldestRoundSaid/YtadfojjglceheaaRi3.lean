/- The page of a year, jubilees and sums: the program's text. -/
import Derived.Test.YtadfojjglceheaaRi2
import Derived.Test.YtadfojjglceheaaRm
set_option linter.unusedVariables false
set_option linter.unusedSimpArgs false
namespace Go.Proofs.Ytadfojjglceheaa
open Go.RowKit

theorem pageIn_no (b off n c : Nat) (y : Int) (zs : List Int) (w : World) (hl : zs.length = n) (hn : n ≤ 1048576) (hbl : b < w.heap.size) (hI : Ints w b off zs) (hno : pgB zs y = false) :
    Calls Try.prog 40 #[.slice (some ⟨b, off, none⟩) n c, .int .i64 y] w (RetPgB 0 [] false w) := by
  have HI := Lib.hid fun A => hI.kept ((Below.refl w.heap.size w).alloc (Nat.le_refl _) A) hbl
  have HB := Lib.hid fun w hI => areBirths_any b off n c zs w hl hn hI
  have HY := Lib.hid fun w => isYear_any y w
  unfold pgB at hno
  generalize bornB zs = p at HB hno
  generalize inB y 0 3000 = q at HY hno
  cases p with
  | false =>
    go_enter Try.func40, Try.ntmps40
    go_wp2_with (first | (go_at_call 14; refine (HB.out _ (HI.out _)).mono ?_; rintro e w' ⟨rfl, rfl⟩))
    refine bodyPost_ret (v := .tuple #[.agg #[.int .i64 0, .slice none 0 0], .bool false]) (by simp [results, Try.results40, go_sem]) rfl ?_
    refine ⟨_, rfl, ownD_nil _ _ _, ?_⟩
    go_grown
  | true =>
    rw [Bool.true_and] at hno
    subst hno
    go_enter Try.func40, Try.ntmps40
    go_wp2_with (first | (go_at_call 14; refine (HB.out _ (HI.out _)).mono ?_; rintro e w' ⟨rfl, rfl⟩) | (go_at_call 53; refine (HY.out _).mono ?_; rintro e w' ⟨rfl, rfl⟩))
    refine bodyPost_ret (v := .tuple #[.agg #[.int .i64 0, .slice none 0 0], .bool false]) (by simp [results, Try.results40, go_sem]) rfl ?_
    refine ⟨_, rfl, ownD_nil _ _ _, ?_⟩
    go_grown

theorem pageIn_yes (b off n c : Nat) (y : Int) (zs : List Int) (w : World) (hl : zs.length = n) (hbl : b < w.heap.size) (hI : Ints w b off zs) (hp : pgB zs y = true) :
    Calls Try.prog 40 #[.slice (some ⟨b, off, none⟩) n c, .int .i64 y] w (RetPgB y (pgL zs y n) true w) := by
  obtain ⟨hg, hy⟩ := pgB_true hp
  have hln := bornB_len hg
  have HI := Lib.hid fun A => hI.kept ((Below.refl w.heap.size w).alloc (Nat.le_refl _) A) hbl
  have HB := Lib.hid fun w hI => areBirths_any b off n c zs w hl (by omega) hI
  have HY := Lib.hid fun w => isYear_any y w
  rw [hg] at HB
  rw [inB_true hy.1 hy.2] at HY
  have HP := Lib.hid fun A => pageOf_any b off n c y zs (w.alloc A) hl (by omega) (fun j hj => bornB_at hg j (by omega)) hy (by simp; omega) (HI.out A)
  generalize pgL zs y n = ps at HP ⊢
  go_enter Try.func40, Try.ntmps40
  go_wp2_with (first | (go_at_call 14; refine (HB.out _ (HI.out _)).mono ?_; rintro e w' ⟨rfl, rfl⟩) | (go_at_call 53; refine (HY.out _).mono ?_; rintro e w' ⟨rfl, rfl⟩))
  refine (HP.out _).mono ?_
  rintro e w1 ⟨v, rfl, ho, hb⟩
  have hh : w1.heap[w.heap.size]? = some (.cells #[.int .i64 0, .slice none 0 0] 44 (0, 0)) := (hb.block _ (by simp)).trans (heap_new w _)
  have r0 : w1.cell? ⟨w.heap.size, 0, none⟩ = some (.int .i64 0) := by simp [World.cell?, hh]
  have r1 : w1.cell? ⟨w.heap.size, 1, none⟩ = some (.slice none 0 0) := by simp [World.cell?, hh]
  have f0 : ∀ j, w1.frozen? ⟨w.heap.size, j, none⟩ = false := fun j => by simp [World.frozen?, hh]
  obtain ⟨s0, s1⟩ := two_cells r0 r1
  have HB2 := Lib.hid (((Below.refl w.heap.size w).alloc (Nat.le_refl _) _).trans (hb.mono (by simp)))
  have HO := Lib.hid ho
  rcases ho.cases with ⟨rfl, _⟩ | ⟨q, cq, rfl, _⟩
  all_goals
    clear ho hb hh
    go_wp2
    refine bodyPost_ret (v := .tuple #[.agg #[.int .i64 y, _], .bool true]) (by simp [results, Try.results40, go_sem, s0, s1]; first | rfl | done) rfl ?_
    refine ⟨_, rfl, ?_, (HB2.out.setCell (Nat.le_refl _) _).setCell (Nat.le_refl _) _⟩
    exact (ownD_setBelow (ownD_setBelow HO.out (by simp) _ _) (by simp) _ _).mono (by simp)

theorem jubileesIn_no (b off n c : Nat) (y e : Int) (zs : List Int) (w : World) (hl : zs.length = n) (hn : n ≤ 1048576) (hbl : b < w.heap.size) (hI : Ints w b off zs) (hno : (pgB zs y && inB e 1 100) = false) :
    Calls Try.prog 17 #[.slice (some ⟨b, off, none⟩) n c, .int .i64 y, .int .i64 e] w (RetOwnB [] false w) := by
  cases hp : pgB zs y with
  | false =>
    have HP := Lib.hid (pageIn_no b off n c y zs w hl hn hbl hI hp)
    go_enter Try.func17, Try.ntmps17
    go_wp2_with fail
    refine HP.out.mono ?_
    rintro e w1 ⟨v, rfl, ho, hb⟩
    rcases ho.cases with ⟨rfl, _⟩ | ⟨q, cq, rfl, _⟩
    all_goals
      have HB := Lib.hid hb
      clear ho hb
      go_wp2
      go_ret2
      refine ⟨_, rfl, own_nil _ _, ?_⟩
      exact HB.out.alloc HB.out.size _
  | true =>
    rw [hp, Bool.true_and] at hno
    have hln := bornB_len (pgB_true hp).1
    have HP := Lib.hid (pageIn_yes b off n c y zs w hl hbl hI hp)
    have HE := Lib.hid fun w => isEvery_any e w
    rw [hno] at HE
    generalize pgL zs y n = ps at HP
    go_enter Try.func17, Try.ntmps17
    go_wp2_with fail
    refine HP.out.mono ?_
    rintro e w1 ⟨v, rfl, ho, hb⟩
    rcases ho.cases with ⟨rfl, _⟩ | ⟨q, cq, rfl, _⟩
    all_goals
      have HB := Lib.hid hb
      clear ho hb
      go_wp2_with (go_at_call 41; refine (HE.out _).mono ?_; rintro e w' ⟨rfl, rfl⟩)
      go_ret2
      refine ⟨_, rfl, own_nil _ _, ?_⟩
      exact HB.out.alloc HB.out.size _

theorem jubileesIn_yes (b off n c : Nat) (y e : Int) (zs : List Int) (w : World) (hl : zs.length = n) (hbl : b < w.heap.size) (hI : Ints w b off zs) (hp : pgB zs y = true) (hq : inB e 1 100 = true) :
    Calls Try.prog 17 #[.slice (some ⟨b, off, none⟩) n c, .int .i64 y, .int .i64 e] w (RetOwnB (jbL zs y e n) true w) := by
  have hln := bornB_len (pgB_true hp).1
  have he := (inB_iff.1 hq).1
  have HP := Lib.hid (pageIn_yes b off n c y zs w hl hbl hI hp)
  have HE := Lib.hid fun w => isEvery_any e w
  rw [hq] at HE
  have hok := psOk_pg zs y n (by omega)
  have HN := Lib.hid (rdA_num zs y e)
  unfold rdA at HN
  rw [hl] at HN
  have HR := Lib.hid fun B v w ho => round_any B v y e (pgL zs y n) w he hok ho
  have hok2 := (psOk_rd hok e _ (Nat.le_refl _)).1
  generalize pgL zs y n = ps at HP HR HN hok2
  generalize rdL ps e ps.length = rs at HR HN hok2
  rw [← HN.out]
  have HM := Lib.hid fun B v w ho => numbers_any B v rs w hok2 ho
  generalize rs.map (·.1) = ns at HM ⊢
  clear hok HN hln he hq hp
  go_enter Try.func17, Try.ntmps17
  go_wp2_with fail
  refine HP.out.mono ?_
  rintro e' w1 ⟨v, rfl, ho, hb⟩
  rcases ho.cases with ⟨rfl, _⟩ | ⟨q, cq, rfl, _⟩
  all_goals
    have HB := Lib.hid hb
    have HO := Lib.hid fun A => ho.alloc A
    clear ho hb
    go_wp2_with (first | (go_at_call 41; refine (HE.out _).mono ?_; rintro e w' ⟨rfl, rfl⟩))
    refine (HR.out _ _ _ (HO.out _)).mono ?_
    rintro e2 w2 ⟨v2, rfl, ho2, hb2⟩
    have HB2 := Lib.hid ((HB.out.alloc HB.out.size _).trans (hb2.mono (by simp; have := HB.out.size; omega)))
    rcases ho2.cases with ⟨rfl, _⟩ | ⟨q2, cq2, rfl, _⟩
    all_goals
      have HO2 := Lib.hid ho2
      clear ho2 hb2
      go_wp2_with fail
      refine (HM.out _ _ _ HO2.out).mono ?_
      rintro e3 w3 ⟨v3, rfl, ho3, hb3⟩
      have HB3 := Lib.hid (HB2.out.trans (hb3.mono HB2.out.size))
      have HO3 := Lib.hid (ho3.mono HB2.out.size)
      rcases ho3.cases with ⟨rfl, _⟩ | ⟨q3, cq3, rfl, _⟩
      all_goals
        clear ho3 hb3
        go_wp2
        go_ret2
        exact ⟨_, rfl, HO3.out, HB3.out⟩

theorem jubileesIn_both (zs : List Int) (y e : Int) : ∃ rs ok, rs.length ≤ 1048576 ∧
    (∀ b c w, zs.length ≤ 1048576 → b < w.heap.size → Ints w b 0 zs → Calls Try.prog 16 #[.slice (some ⟨b, 0, none⟩) zs.length c, .int .i64 y, .int .i64 e] w (RetOwnB rs ok w)) ∧
    (∀ b c w, zs.length ≤ 1048576 → b < w.heap.size → Ints w b 0 zs → Calls Try.prog 17 #[.slice (some ⟨b, 0, none⟩) zs.length c, .int .i64 y, .int .i64 e] w (RetOwnB rs ok w)) := by
  cases h : (pgB zs y && inB e 1 100) with
  | false =>
    refine ⟨[], false, by simp, fun b c w hn hb hI => ?_, fun b c w hn hb hI => jubileesIn_no b 0 _ c y e zs w rfl hn hb hI h⟩
    refine (jubileesInS_no b 0 _ c y e zs w rfl hn hI h).mono ?_
    rintro e w' ⟨rfl, rfl⟩
    exact ⟨_, rfl, own_nil _ _, Below.refl _ _⟩
  | true =>
    rw [Bool.and_eq_true] at h
    have hln := bornB_len (pgB_true h.1).1
    exact ⟨jbL zs y e zs.length, true, by have := jbL_len zs y e zs.length; omega, fun b c w hn hb hI => jubileesInS_yes b 0 _ c y e zs w rfl hb hI h.1 h.2, fun b c w hn hb hI => jubileesIn_yes b 0 _ c y e zs w rfl hb hI h.1 h.2⟩

theorem sumOfAges_any (b off n c : Nat) (y : Int) (zs : List Int) (w : World) (hl : zs.length = n) (hn : n ≤ 1048576) (hbl : b < w.heap.size) (hI : Ints w b off zs) :
    Calls Try.prog 21 #[.slice (some ⟨b, off, none⟩) n c, .int .i64 y] w (RetIB (if pgB zs y = true then sbT zs y n else 0) (pgB zs y) w) := by
  have HP : Hid (∃ yy ps ok r, (PsOk ps) ∧ smP ps ps.length = r ∧ pgB zs y = ok ∧ (if pgB zs y = true then sbT zs y n else 0) = r ∧ Calls Try.prog 40 #[.slice (some ⟨b, off, none⟩) n c, .int .i64 y] w (RetPgB yy ps ok w)) := by
    refine Lib.hid ?_
    cases hp : pgB zs y with
    | false => exact ⟨0, [], false, 0, ⟨by simp, fun j hj => by simp at hj⟩, rfl, rfl, rfl, pageIn_no b off n c y zs w hl hn hbl hI hp⟩
    | true =>
      have hln := bornB_len (pgB_true hp).1
      refine ⟨y, _, true, sbT zs y n, psOk_pg zs y n (by omega), ?_, rfl, rfl, pageIn_yes b off n c y zs w hl hbl hI hp⟩
      subst hl
      exact smP_all zs y
  obtain ⟨yy, ps, ok, r, hok, hr, h1, h2, hc⟩ := HP.out
  rw [h2, h1]
  have HC := Lib.hid hc
  have HS := Lib.hid fun B v w ho => sum_any B v yy ps w hok ho
  rw [hr] at HS
  clear HP hc h1 h2 hok hr
  go_enter Try.func21, Try.ntmps21
  go_wp2_with fail
  refine HC.out.mono ?_
  rintro e' w1 ⟨v, rfl, ho, hb⟩
  rcases ho.cases with ⟨rfl, _⟩ | ⟨q, cq, rfl, _⟩
  all_goals
    have HB := Lib.hid hb
    have HO := Lib.hid fun A => ho.alloc A
    clear ho hb
    go_wp2_with fail
    refine (HS.out _ _ _ (HO.out _)).mono ?_
    rintro e2 w2 ⟨rfl, hb2⟩
    have HB2 := Lib.hid ((HB.out.alloc HB.out.size _).trans (hb2.mono (by simp; have := HB.out.size; omega)))
    clear hb2
    go_wp2
    go_ret2
    exact ⟨rfl, HB2.out⟩
theorem sumOfAges_both (zs : List Int) (y : Int) : ∃ r ok,
    (∀ b c w, zs.length ≤ 1048576 → b < w.heap.size → Ints w b 0 zs → Calls Try.prog 20 #[.slice (some ⟨b, 0, none⟩) zs.length c, .int .i64 y] w (RetIB r ok w)) ∧
    (∀ b c w, zs.length ≤ 1048576 → b < w.heap.size → Ints w b 0 zs → Calls Try.prog 21 #[.slice (some ⟨b, 0, none⟩) zs.length c, .int .i64 y] w (RetIB r ok w)) := by
  refine ⟨if pgB zs y = true then sbT zs y zs.length else 0, pgB zs y, fun b c w hn hb hI => ?_, fun b c w hn hb hI => sumOfAges_any b 0 _ c y zs w rfl hn hb hI⟩
  cases hp : pgB zs y with
  | false =>
    refine (sumOfAgesS_no b 0 _ c y zs w rfl hn hI hp).mono ?_
    rintro e w' ⟨rfl, rfl⟩
    exact ⟨rfl, Below.refl _ _⟩
  | true =>
    refine (sumOfAgesS_yes b 0 _ c y zs w rfl hI hp).mono ?_
    rintro e w' ⟨rfl, rfl⟩
    exact ⟨rfl, Below.refl _ _⟩
end Go.Proofs.Ytadfojjglceheaa
