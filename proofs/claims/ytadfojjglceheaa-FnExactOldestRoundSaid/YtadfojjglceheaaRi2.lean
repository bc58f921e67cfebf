/- Pages, jubilees and sums of ages: the program's text. -/
import Derived.Test.YtadfojjglceheaaRq
import Derived.Test.YtadfojjglceheaaPpl2
set_option linter.unusedVariables false
set_option linter.unusedSimpArgs false
namespace Go.Proofs.Ytadfojjglceheaa
open Go.RowKit

theorem isAge_any (n : Int) (w : World) : Calls Try.prog 68 #[.int .i64 n] w (RetSame (.bool (inB n 0 120)) w) := by
  go_enter Try.func68, Try.ntmps68
  go_wp2_with (go_at_call 35; refine (isWithin_any _ _ _ _).mono ?_; rintro e w' ⟨rfl, rfl⟩)
  go_ret
  exact ⟨rfl, rfl⟩
theorem isYear_any (n : Int) (w : World) : Calls Try.prog 53 #[.int .i64 n] w (RetSame (.bool (inB n 0 3000)) w) := by
  go_enter Try.func53, Try.ntmps53
  go_wp2_with (go_at_call 35; refine (isWithin_any _ _ _ _).mono ?_; rintro e w' ⟨rfl, rfl⟩)
  go_ret
  exact ⟨rfl, rfl⟩
theorem isEvery_any (n : Int) (w : World) : Calls Try.prog 41 #[.int .i64 n] w (RetSame (.bool (inB n 1 100)) w) := by
  go_enter Try.func41, Try.ntmps41
  go_wp2_with (go_at_call 35; refine (isWithin_any _ _ _ _).mono ?_; rintro e w' ⟨rfl, rfl⟩)
  go_ret
  exact ⟨rfl, rfl⟩

theorem isRound_any (a e : Int) (w : World) (h1 : 1 ≤ e) : Calls Try.prog 55 #[.int .i64 a, .int .i64 e] w (RetSame (.bool (rnd a e)) w) := by
  by_cases h : 0 < a
  · have hn : ¬ (e = 0) := by omega
    have hne : (e == 0) = false := beq_eq_false_iff_ne.2 hn
    have e1 : rnd a e = (a % e == 0) := by unfold rnd; rw [decide_eq_true h, Bool.true_and]
    rw [e1]
    cases hm : (a % e == 0) with
    | true =>
      go_enter Try.func55, Try.ntmps55
      go_wp2
      go_ret
      exact ⟨rfl, rfl⟩
    | false =>
      go_enter Try.func55, Try.ntmps55
      go_wp2
      go_ret
      exact ⟨rfl, rfl⟩
  · have e1 : rnd a e = false := by unfold rnd; rw [decide_eq_false h, Bool.false_and]
    rw [e1]
    go_enter Try.func55, Try.ntmps55
    go_wp2
    go_ret
    exact ⟨rfl, rfl⟩

set_option maxHeartbeats 1000000 in
theorem pageOf_any (b off n c : Nat) (y : Int) (zs : List Int) (w : World) (hl : zs.length = n) (h10 : n ≤ 10) (hz : ∀ j, j < n → 0 ≤ zs.getD j 0 ∧ zs.getD j 0 ≤ 2900) (hy : 0 ≤ y ∧ y ≤ 3000) (hbl : b < w.heap.size) (hI : Ints w b off zs) :
    Calls Try.prog 62 #[.slice (some ⟨b, off, none⟩) n c, .int .i64 y] w (RetPg y (pgL zs y n) w) := by
  obtain ⟨i0, hi, hz0, hz1, hz2⟩ := info_parts infoPerson
  have HZ := Lib.hid hz
  have HI := Lib.hid hI
  have HL := Lib.hid hl
  clear hz hI hl
  go_enter Try.func62, Try.ntmps62
  go_wp2
  go_loopw [5, 11] (fun v i wr => ∃ k : Nat, k ≤ n ∧ i = .int .i64 k ∧ OwnD 55 (w.heap.size + 1) wr v (pgL zs y k) ∧ Below w.heap.size w wr ∧ Hid (wr.heap[w.heap.size]? = some (.cells #[.int .i64 0, .slice none 0 0] 44 (0, 0)))) (fun _ i _ => n - (intOf i).toNat)
  case atStart => exact ⟨0, Nat.zero_le _, rfl, ownD_nil _ _ _, (Below.refl _ _).alloc (Nat.le_refl _) _, Lib.hid (heap_new w _)⟩
  case round =>
    obtain ⟨k, hk, rfl, ho, hb, hh⟩ := hrel
    have hsz := hb.size
    have hsz1 : w.heap.size < wr.heap.size := lt_of_block hh.out
    by_cases hlt : k < n
    · have hc := (HI.out.kept hb hbl) k (by rw [HL.out]; exact hlt)
      have hzk := HZ.out k hlt
      have hle := pgL_len zs y k
      cases hcn : inB (y - zs.getD k 0) 0 120 with
      | false =>
        have HS := Lib.hid (pgL_skip zs y k hcn)
        have ho' := Lib.hid ho
        clear ho
        generalize zs.getD k 0 = z at hc hzk hcn
        go_wp2_with (go_at_call 68; refine (isAge_any _ _).mono ?_; rintro e w' ⟨rfl, rfl⟩)
        go_roundw
        case rel => exact ⟨k + 1, by omega, by go_num, by rw [HS.out]; exact ho'.out, hb, hh⟩
        case measure => simp [intOf]; omega
      | true =>
        have HS := Lib.hid (pgL_take zs y k hcn)
        have ho' := Lib.hid ho
        clear ho
        generalize zs.getD k 0 = z at hc hzk hcn HS
        go_wp2_with (first | (go_at_call 68; refine (isAge_any _ _).mono ?_; rintro e w' ⟨rfl, rfl⟩) | (at_builtin; refine wpList_append_own _ rfl _ _ 42 rfl (w.heap.size + 1) 55 i0 _ 2 16 Try.underlying42 hi hz0 hz1 hz2 rfl (by decide) _ _ _ rfl (World.ownsRow.alloc ho'.out _) ⟨wr.heap.size, 0, none⟩ 1 1 [.int .i64 k, .int .i64 (y - z)] rfl rfl (twoCells _ _ _ rfl) (twoInts _ _) ?c3 ?c4 ?c5 ?_))
        case c3 => unfold maxLen; omega
        case c4 => omega
        case c5 => simp; omega
        intro v' w1 hown' hgrow _
        have hown1 : OwnD 55 (w.heap.size + 1) w1 v' (pgL zs y (k + 1)) := by
          unfold OwnD; rw [HS.out, flatD_snoc, List.length_append]; exact hown'
        have hblk : ∀ q, u5.ownBlock = some q → w.heap.size + 1 ≤ q := fun q hq => (World.ownsRow.lt ho'.out q hq).1
        have hbz := (hb.alloc hsz _).grown hgrow (by simp; omega) (fun q hq => by have := hblk q hq; omega)
        have hh1 : Hid (w1.heap[w.heap.size]? = some (.cells #[.int .i64 0, .slice none 0 0] 44 (0, 0))) := Lib.hid ((hgrow.block w.heap.size (by simp; omega) (fun e => by have := hblk w.heap.size e.symm; omega)).trans (heap_later hh.out _))
        clear hown' hgrow
        go_wp2
        go_roundw
        case rel => exact ⟨k + 1, by omega, by go_num, hown1, hbz, hh1⟩
        case measure => simp [intOf]; omega
    · have hkn : k = n := by omega
      subst hkn
      have hh2 := hh.out
      have r0 : wr.cell? ⟨w.heap.size, 0, none⟩ = some (.int .i64 0) := by simp [World.cell?, hh2]
      have r1 : wr.cell? ⟨w.heap.size, 1, none⟩ = some (.slice none 0 0) := by simp [World.cell?, hh2]
      have f0 : ∀ j, wr.frozen? ⟨w.heap.size, j, none⟩ = false := fun j => by simp [World.frozen?, hh2]
      have HO := Lib.hid ho
      have HB := Lib.hid hb
      obtain ⟨s0, s1⟩ := two_cells r0 r1
      rcases ho.cases with ⟨rfl, _⟩ | ⟨q, cq, rfl, _⟩
      all_goals
        clear hh2 ho hb
        go_wp2
        refine bodyPost_ret (v := .agg #[.int .i64 y, _]) (by simp [results, Try.results62, go_sem, s0, s1]; first | rfl | done) rfl ?_
        refine ⟨_, rfl, ?_, (HB.out.setCell (Nat.le_refl _) _).setCell (Nat.le_refl _) _⟩
        exact (ownD_setBelow (ownD_setBelow HO.out (Nat.lt_succ_self _) _ _) (Nat.lt_succ_self _) _ _).mono (by omega)

set_option maxHeartbeats 1000000 in
theorem round_some (g c n : Nat) (y e : Int) (ps : List Dt) (w : World) (hl : ps.length = n) (h10 : n ≤ 10) (he : 1 ≤ e) (hz : ∀ j, j < n → 0 ≤ (at2 ps j).2 ∧ (at2 ps j).2 ≤ 120) (hgs : g < w.heap.size) (hD : Dts w g 0 ps) :
    Calls Try.prog 43 #[.agg #[.int .i64 y, .slice (some ⟨g, 0, none⟩) n c], .int .i64 e] w (RetPs (rdL ps e n) w) := by
  obtain ⟨i0, hi, hz0, hz1, hz2⟩ := info_parts infoPerson
  have HZ := Lib.hid hz
  have HD := Lib.hid hD
  have HL := Lib.hid hl
  clear hz hD hl
  go_enter Try.func43, Try.ntmps43
  go_wp2
  go_loopw [5, 11] (fun v i wr => ∃ k : Nat, k ≤ n ∧ i = .int .i64 k ∧ OwnD 55 w.heap.size wr v (rdL ps e k) ∧ Below w.heap.size w wr) (fun _ i _ => n - (intOf i).toNat)
  case atStart => exact ⟨0, Nat.zero_le _, rfl, ownD_nil _ _ _, (Below.refl _ _).alloc (Nat.le_refl _) _⟩
  case round =>
    obtain ⟨k, hk, rfl, ho, hb⟩ := hrel
    have hsz := hb.size
    have ho' := Lib.hid ho
    by_cases hlt : k < n
    · obtain ⟨hc1, hc2⟩ := (HD.out.kept hb hgs) k (by rw [HL.out]; exact hlt)
      rw [Nat.zero_add] at hc1 hc2
      have hzk := HZ.out k hlt
      have hle := rdL_len ps e k
      cases hcn : rnd (at2 ps k).2 e with
      | false =>
        have HS := Lib.hid (rdL_skip ps e k (by rw [HL.out]; exact hlt) hcn)
        clear ho
        generalize at2 ps k = p at hc1 hc2 hzk hcn HS
        obtain ⟨p1, p2⟩ := p
        simp only at hc1 hc2 hzk hcn
        go_wp2_with (go_at_call 55; refine (isRound_any _ _ _ he).mono ?_; rintro e w' ⟨rfl, rfl⟩)
        go_roundw
        case rel => exact ⟨k + 1, by omega, by go_num, by rw [HS.out]; exact ho'.out.alloc _, hb.alloc hsz _⟩
        case measure => simp [intOf]; omega
      | true =>
        have HS := Lib.hid (rdL_take ps e k (by rw [HL.out]; exact hlt) hcn)
        clear ho
        generalize at2 ps k = p at hc1 hc2 hzk hcn HS
        obtain ⟨p1, p2⟩ := p
        simp only at hc1 hc2 hzk hcn
        go_wp2_with (first | (go_at_call 55; refine (isRound_any _ _ _ he).mono ?_; rintro e w' ⟨rfl, rfl⟩) | (at_builtin; refine wpList_append_own _ rfl _ _ 42 rfl w.heap.size 55 i0 _ 2 16 Try.underlying42 hi hz0 hz1 hz2 rfl (by decide) _ _ _ rfl (World.ownsRow.alloc (World.ownsRow.alloc ho'.out _) _) ⟨wr.heap.size + 1, 0, none⟩ 1 1 [.int .i64 p1, .int .i64 p2] rfl rfl (twoCells _ _ _ (by simp)) (twoInts _ _) ?c3 ?c4 ?c5 ?_))
        case c3 => unfold maxLen; omega
        case c4 => omega
        case c5 => simp; omega
        intro v' w1 hown' hgrow _
        have hown1 : OwnD 55 w.heap.size w1 v' (rdL ps e (k + 1)) := by
          unfold OwnD; rw [HS.out, flatD_snoc, List.length_append]; exact hown'
        have hblk : ∀ q, u5.ownBlock = some q → w.heap.size ≤ q := fun q hq => (World.ownsRow.lt ho'.out q hq).1
        have hbz := ((hb.alloc hsz _).alloc (by simp; omega) _).grown hgrow (by simp; omega) (fun q hq => hblk q hq)
        clear hown' hgrow
        go_wp2
        go_roundw
        case rel => exact ⟨k + 1, by omega, by go_num, hown1, hbz⟩
        case measure => simp [intOf]; omega
    · have hkn : k = n := by omega
      subst hkn
      rcases ho.cases with ⟨rfl, _⟩ | ⟨q, cq, rfl, _⟩
      all_goals
        clear ho
        go_wp2
        go_ret
        exact ⟨_, rfl, ho'.out, hb⟩
theorem round_nil (y e : Int) (w : World) :
    Calls Try.prog 43 #[.agg #[.int .i64 y, .slice none 0 0], .int .i64 e] w (RetPs [] w) := by
  go_enter Try.func43, Try.ntmps43
  go_wp2
  go_rounds 1
  go_ret
  exact ⟨_, rfl, ownD_nil _ _ _, (Below.refl _ _).alloc (Nat.le_refl _) _⟩
/-- People of a page, with whose ages nothing overflows. -/
def PsOk (ps : List Dt) : Prop := ps.length ≤ 10 ∧ ∀ j, j < ps.length → 0 ≤ (at2 ps j).2 ∧ (at2 ps j).2 ≤ 120
theorem psOk_pg (zs : List Int) (y : Int) (k : Nat) (h : k ≤ 10) : PsOk (pgL zs y k) := by
  refine ⟨Nat.le_trans (pgL_len zs y k) h, fun j hj => ?_⟩
  have := pgL_at hj
  omega
theorem psOk_rd {ps : List Dt} (h : PsOk ps) (e : Int) (k : Nat) (hk : k ≤ ps.length) : PsOk (rdL ps e k) := by
  refine ⟨Nat.le_trans (rdL_len ps e k) (Nat.le_trans hk h.1), fun j hj => ?_⟩
  obtain ⟨i, hi, he⟩ := List.getElem_of_mem (rdL_mem (getD_memP hj)).1
  have := h.2 i hi
  rw [← he]
  simpa [at2, List.getElem?_eq_getElem hi] using this
theorem round_any (B : Nat) (v : Value) (y e : Int) (ps : List Dt) (w : World) (he : 1 ≤ e) (hp : PsOk ps) (ho : OwnD 55 B w v ps) :
    Calls Try.prog 43 #[.agg #[.int .i64 y, v], .int .i64 e] w (RetPs (rdL ps e ps.length) w) := by
  rcases ho.cases with ⟨rfl, rfl⟩ | ⟨g, c, rfl, _, hlt, _, _, hD, _⟩
  · exact round_nil _ _ _
  · exact round_some g c _ y e ps w rfl hp.1 he hp.2 hlt hD

theorem jubilees_any (B : Nat) (v : Value) (y e : Int) (ps : List Dt) (w : World) (he : 1 ≤ e) (hp : PsOk ps) (ho : OwnD 55 B w v ps) :
    Calls Try.prog 50 #[.agg #[.int .i64 y, v], .int .i64 e] w (Ret (.int .i64 (rdL ps e ps.length).length) w) := by
  rcases ho.cases with ⟨hv, _⟩ | ⟨g, c, hv, _⟩
  all_goals
    subst hv
    have HR := Lib.hid fun A => round_any B _ y e ps (w.alloc A) he hp (ho.alloc A)
    clear ho
    generalize rdL ps e ps.length = rs at HR
    go_enter Try.func50, Try.ntmps50
    go_wp2_with fail
    refine (HR.out _).mono ?_
    rintro e w1 ⟨v1, rfl, ho1, hb1⟩
    have hb2 := ((Below.refl w.heap.size w).alloc (Nat.le_refl _) _).trans (hb1.mono (by simp))
    rcases ho1.cases with ⟨rfl, rfl⟩ | ⟨g1, c1, rfl, _⟩
    all_goals
      go_wp2_with fail
      go_ret
      exact ⟨rfl, hb2⟩

set_option maxHeartbeats 1000000 in
theorem sumOf_some (g c n : Nat) (ps : List Dt) (w : World) (hl : ps.length = n) (h10 : n ≤ 10) (hz : ∀ j, j < n → 0 ≤ (at2 ps j).2 ∧ (at2 ps j).2 ≤ 120) (hgs : g < w.heap.size) (hD : Dts w g 0 ps) :
    Calls Try.prog 64 #[.slice (some ⟨g, 0, none⟩) n c] w (Ret (.int .i64 (smP ps n)) w) := by
  have HZ := Lib.hid hz
  have HD := Lib.hid hD
  have HL := Lib.hid hl
  clear hz hD hl
  go_enter Try.func64, Try.ntmps64
  go_wp2
  go_loopw [3, 8] (fun s v wr => ∃ k : Nat, k ≤ n ∧ v = .int .i64 k ∧ s = .int .i64 (smP ps k) ∧ (0 ≤ smP ps k ∧ smP ps k ≤ 120 * (k : Int)) ∧ Below w.heap.size w wr) (fun _ v _ => n - (intOf v).toNat)
  case atStart => exact ⟨0, Nat.zero_le _, rfl, rfl, by simp [smP_zero], Below.refl _ _⟩
  case round =>
    obtain ⟨k, hk, rfl, rfl, m1, hb⟩ := hrel
    have hsz := hb.size
    by_cases hlt : k < n
    · have hz := HZ.out k hlt
      obtain ⟨hc1, hc2⟩ := (HD.out.kept hb hgs) k (by rw [HL.out]; exact hlt)
      rw [Nat.zero_add] at hc1 hc2
      have S1 := Lib.hid (smP_succ ps k (by rw [HL.out]; exact hlt))
      generalize smP ps k = x at m1 S1 ⊢
      generalize at2 ps k = p at hz hc1 hc2 S1
      obtain ⟨p1, p2⟩ := p
      simp only at hc1 hc2 hz S1
      go_wp2
      go_roundw
      case rel => exact ⟨k + 1, by omega, by go_num, by rw [S1.out], by rw [S1.out]; constructor <;> omega, hb.alloc hsz _⟩
      case measure => simp [intOf]; omega
    · have hkn : k = n := by omega
      clear hlt hk
      subst hkn
      go_wp2
      go_ret
      exact ⟨rfl, hb⟩
theorem sumOf_nil (w : World) : Calls Try.prog 64 #[.slice none 0 0] w (Ret (.int .i64 0) w) := by
  go_enter Try.func64, Try.ntmps64
  go_wp2
  go_rounds 1
  go_ret
  exact ⟨rfl, Below.refl _ _⟩
theorem sumOf_any (B : Nat) (v : Value) (ps : List Dt) (w : World) (hp : PsOk ps) (ho : OwnD 55 B w v ps) :
    Calls Try.prog 64 #[v] w (Ret (.int .i64 (smP ps ps.length)) w) := by
  rcases ho.cases with ⟨rfl, rfl⟩ | ⟨g, c, rfl, _, hlt, _, _, hD, _⟩
  · exact sumOf_nil w
  · exact sumOf_some g c _ ps w rfl hp.1 hp.2 hlt hD
theorem sum_any (B : Nat) (v : Value) (y : Int) (ps : List Dt) (w : World) (hp : PsOk ps) (ho : OwnD 55 B w v ps) :
    Calls Try.prog 45 #[.agg #[.int .i64 y, v]] w (Ret (.int .i64 (smP ps ps.length)) w) := by
  have HR := Lib.hid fun A => sumOf_any B v ps (w.alloc A) hp (ho.alloc A)
  generalize smP ps ps.length = s at HR ⊢
  rcases ho.cases with ⟨hv, _⟩ | ⟨g, c, hv, _⟩
  all_goals
    subst hv
    clear ho
    go_enter Try.func45, Try.ntmps45
    go_wp2_with fail
    refine (HR.out _).mono ?_
    rintro e w1 ⟨rfl, hb1⟩
    go_wp2_with fail
    go_ret
    exact ⟨rfl, ((Below.refl w.heap.size w).alloc (Nat.le_refl _) _).trans (hb1.mono (by simp))⟩

set_option maxHeartbeats 1000000 in
theorem numbers_some (g c n : Nat) (ps : List Dt) (w : World) (hl : ps.length = n) (h10 : n ≤ 10) (hgs : g < w.heap.size) (hD : Dts w g 0 ps) :
    Calls Try.prog 42 #[.slice (some ⟨g, 0, none⟩) n c] w (RetOwn (ps.map (·.1)) w) := by
  obtain ⟨i0, hi, hz0, hz1, hz2⟩ := info_parts infoInt
  have HD := Lib.hid hD
  have HL := Lib.hid hl
  clear hD hl
  go_enter Try.func42, Try.ntmps42
  go_wp2
  go_loopw [3, 8] (fun v i wr => ∃ k : Nat, k ≤ n ∧ i = .int .i64 k ∧ Own w.heap.size wr v (nmT ps k) ∧ Below w.heap.size w wr) (fun _ i _ => n - (intOf i).toNat)
  case atStart => exact ⟨0, Nat.zero_le _, rfl, own_nil _ _, Below.refl _ _⟩
  case round =>
    obtain ⟨k, hk, rfl, ho, hb⟩ := hrel
    have hsz := hb.size
    have ho' := Lib.hid ho
    by_cases hlt : k < n
    · obtain ⟨hc1, hc2⟩ := (HD.out.kept hb hgs) k (by rw [HL.out]; exact hlt)
      rw [Nat.zero_add] at hc1 hc2
      have HS := Lib.hid (nmT_succ ps k (by rw [HL.out]; exact hlt))
      have hlen := nmT_len ps k
      clear ho
      generalize at2 ps k = p at hc1 hc2 HS
      obtain ⟨p1, p2⟩ := p
      simp only at hc1 hc2 HS
      go_wp2_with (at_builtin; refine wpList_append_own _ rfl _ _ 22 rfl w.heap.size 3 i0 (.int .i64 0) 1 8 Try.underlying22 hi hz0 hz1 hz2 rfl (by decide) _ _ _ rfl (World.ownsRow.alloc (World.ownsRow.alloc ho'.out _) _) ⟨wr.heap.size + 1, 0, none⟩ 1 1 [.int .i64 p1] rfl rfl (newCellAt _ _ (by simp)) (oneInt _) ?c3 ?c4 ?c5 ?_)
      case c3 => unfold maxLen; omega
      case c4 => omega
      case c5 => simp; omega
      intro v' w1 hown' hgrow _
      have hown1 : Own w.heap.size w1 v' (nmT ps (k + 1)) := by rw [HS.out]; exact own_push hown'
      have hblk : ∀ q, u3.ownBlock = some q → w.heap.size ≤ q := fun q hq => (World.ownsRow.lt ho'.out q hq).1
      have hbz := ((hb.alloc hsz _).alloc (by simp; omega) _).grown hgrow (by simp; omega) (fun q hq => hblk q hq)
      clear hown' hgrow
      go_wp2
      go_roundw
      case rel => exact ⟨k + 1, by omega, by go_num, hown1, hbz⟩
      case measure => simp [intOf]; omega
    · have hkn : k = n := by omega
      subst hkn
      have HE := Lib.hid (show nmT ps k = ps.map (·.1) by rw [← HL.out]; exact nmT_all ps)
      rcases ho.cases with ⟨rfl, _⟩ | ⟨q, cq, rfl, _⟩
      all_goals
        clear ho
        go_wp2
        go_ret
        exact ⟨_, rfl, by rw [← HE.out]; exact ho'.out, hb⟩
theorem numbers_nil (w : World) : Calls Try.prog 42 #[.slice none 0 0] w (RetOwn [] w) := by
  go_enter Try.func42, Try.ntmps42
  go_wp2
  go_rounds 1
  go_ret
  exact ⟨_, rfl, own_nil _ _, Below.refl _ _⟩
theorem numbers_any (B : Nat) (v : Value) (ps : List Dt) (w : World) (hp : ps.length ≤ 10) (ho : OwnD 55 B w v ps) :
    Calls Try.prog 42 #[v] w (RetOwn (ps.map (·.1)) w) := by
  rcases ho.cases with ⟨rfl, rfl⟩ | ⟨g, c, rfl, _, hlt, _, _, hD, _⟩
  · exact numbers_nil w
  · exact numbers_some g c _ ps w rfl hp hlt hD
end Go.Proofs.Ytadfojjglceheaa
