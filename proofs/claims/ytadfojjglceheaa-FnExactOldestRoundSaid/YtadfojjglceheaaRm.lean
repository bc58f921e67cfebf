/- Round ages, jubilees and sums of ages: the model's text. -/
import Derived.Test.YtadfojjglceheaaRq
import Derived.Test.YtadfojjglceheaaPpl2
set_option linter.unusedVariables false
set_option linter.unusedSimpArgs false
namespace Go.Proofs.Ytadfojjglceheaa
open Go.RowKit

/-- Births and a year. -/
def pgB (zs : List Int) (y : Int) : Bool := bornB zs && inB y 0 3000
theorem pgB_true {zs : List Int} {y : Int} (h : pgB zs y = true) : bornB zs = true ∧ 0 ≤ y ∧ y ≤ 3000 := by
  unfold pgB at h; rw [Bool.and_eq_true, inB_iff] at h; exact h
theorem roYear_any (b off n c : Nat) (y : Int) (zs : List Int) (w : World) (hl : zs.length = n) (hn : n ≤ 1048576) (hI : Ints w b off zs) :
    Calls Try.prog 37 #[.slice (some ⟨b, off, none⟩) n c, .int .i64 y] w (RetSame (.bool (pgB zs y)) w) := by
  have HB := Lib.hid fun w hI => roBorn_any b off n c zs w hl hn hI
  unfold pgB
  generalize bornB zs = r at HB ⊢
  cases r with
  | false =>
    go_enter Try.func37, Try.ntmps37
    go_wp2_with (first | (go_at_call 34; refine (HB.out _ hI).mono ?_; rintro e w' ⟨rfl, rfl⟩))
    go_ret
    exact ⟨rfl, rfl⟩
  | true =>
    go_enter Try.func37, Try.ntmps37
    go_wp2_with (first | (go_at_call 34; refine (HB.out _ hI).mono ?_; rintro e w' ⟨rfl, rfl⟩) | (go_at_call 49; refine (l1In_any _ _ _ _).mono ?_; rintro e w' ⟨rfl, rfl⟩))
    go_ret
    exact ⟨rfl, rfl⟩
theorem roEvery_any (n : Int) (w : World) : Calls Try.prog 38 #[.int .i64 n] w (RetSame (.bool (inB n 1 100)) w) := by
  go_enter Try.func38, Try.ntmps38
  go_wp2_with (go_at_call 49; refine (l1In_any _ _ _ _).mono ?_; rintro e w' ⟨rfl, rfl⟩)
  go_ret
  exact ⟨rfl, rfl⟩
/-- An age, or -1. -/
def agM (b y : Int) : Int := if cnt b y = true then y - b else -1
theorem roAge_any (b y : Int) (w : World) (hb : 0 ≤ b ∧ b ≤ 2900) (hy : 0 ≤ y ∧ y ≤ 3000) : Calls Try.prog 46 #[.int .i64 b, .int .i64 y] w (RetSame (.int .i64 (agM b y)) w) := by
  cases h : inB (y - b) 0 120 with
  | true =>
    have e1 : agM b y = y - b := by unfold agM cnt; rw [h]; rfl
    rw [e1]
    go_enter Try.func46, Try.ntmps46
    go_wp2_with (go_at_call 49; refine (l1In_any _ _ _ _).mono ?_; rintro e w' ⟨rfl, rfl⟩)
    go_ret
    exact ⟨rfl, rfl⟩
  | false =>
    have e1 : agM b y = -1 := by unfold agM cnt; rw [h]; rfl
    rw [e1]
    go_enter Try.func46, Try.ntmps46
    go_wp2_with (go_at_call 49; refine (l1In_any _ _ _ _).mono ?_; rintro e w' ⟨rfl, rfl⟩)
    go_ret
    exact ⟨rfl, rfl⟩
theorem agM_bd (b y : Int) : -1 ≤ agM b y ∧ agM b y ≤ 120 := by
  unfold agM
  split
  · rename_i h; have := cnt_iff.1 h; constructor <;> omega
  · constructor <;> omega
theorem rnd_agM (b y e : Int) : rnd (agM b y) e = (cnt b y && rnd (y - b) e) := by
  unfold agM
  split
  · rename_i h; rw [h, Bool.true_and]
  · rename_i h
    rw [Bool.not_eq_true] at h
    rw [h, Bool.false_and]; rfl
theorem roRound_any (a e : Int) (w : World) (h1 : 1 ≤ e) : Calls Try.prog 52 #[.int .i64 a, .int .i64 e] w (RetSame (.bool (rnd a e)) w) := by
  by_cases h : 0 < a
  · have hn : ¬ (e = 0) := by omega
    have hne : (e == 0) = false := beq_eq_false_iff_ne.2 hn
    have e1 : rnd a e = (a % e == 0) := by unfold rnd; rw [decide_eq_true h, Bool.true_and]
    rw [e1]
    cases hm : (a % e == 0) with
    | true =>
      go_enter Try.func52, Try.ntmps52
      go_wp2
      go_ret
      exact ⟨rfl, rfl⟩
    | false =>
      go_enter Try.func52, Try.ntmps52
      go_wp2
      go_ret
      exact ⟨rfl, rfl⟩
  · have e1 : rnd a e = false := by unfold rnd; rw [decide_eq_false h, Bool.false_and]
    rw [e1]
    go_enter Try.func52, Try.ntmps52
    go_wp2
    go_ret
    exact ⟨rfl, rfl⟩

set_option maxHeartbeats 1000000 in
theorem roIn_any (b off n c : Nat) (y e : Int) (zs : List Int) (w : World) (hl : zs.length = n) (h10 : n ≤ 10) (he : 1 ≤ e) (hz : ∀ j, j < n → 0 ≤ zs.getD j 0 ∧ zs.getD j 0 ≤ 2900) (hy : 0 ≤ y ∧ y ≤ 3000) (hbl : b < w.heap.size) (hI : Ints w b off zs) :
    Calls Try.prog 39 #[.slice (some ⟨b, off, none⟩) n c, .int .i64 y, .int .i64 e] w (RetOwn (jbL zs y e n) w) := by
  obtain ⟨i0, hi, hz0, hz1, hz2⟩ := info_parts infoInt
  have HZ := Lib.hid hz
  have HI := Lib.hid hI
  have HL := Lib.hid hl
  clear hz hI hl
  go_enter Try.func39, Try.ntmps39
  go_wp2
  go_loopw [7, 12] (fun v i wr => ∃ k : Nat, k ≤ n ∧ i = .int .i64 k ∧ Own w.heap.size wr v (jbL zs y e k) ∧ Below w.heap.size w wr) (fun _ i _ => n - (intOf i).toNat)
  case atStart => exact ⟨0, Nat.zero_le _, rfl, own_nil _ _, Below.refl _ _⟩
  case round =>
    obtain ⟨k, hk, rfl, ho, hb⟩ := hrel
    have hsz := hb.size
    have ho' := Lib.hid ho
    by_cases hlt : k < n
    · have hc := (HI.out.kept hb hbl) k (by rw [HL.out]; exact hlt)
      have hzk := HZ.out k hlt
      have hle := jbL_len zs y e k
      have hrm := rnd_agM (zs.getD k 0) y e
      have hbd := agM_bd (zs.getD k 0) y
      have HA := Lib.hid fun w => roAge_any (zs.getD k 0) y w hzk hy
      cases hcn : (cnt (zs.getD k 0) y && rnd (y - zs.getD k 0) e) with
      | false =>
        have HS := Lib.hid (jbL_skip zs y e k hcn)
        rw [hcn] at hrm
        have HR := Lib.hid fun w => roRound_any (agM (zs.getD k 0) y) e w he
        rw [hrm] at HR
        clear ho hcn hrm
        generalize agM (zs.getD k 0) y = a at HA HR hbd
        generalize zs.getD k 0 = z at hc hzk HA
        go_wp2_with (first | (go_at_call 46; refine (HA.out _).mono ?_; rintro e w' ⟨rfl, rfl⟩) | (go_at_call 52; refine (HR.out _).mono ?_; rintro e w' ⟨rfl, rfl⟩))
        go_roundw
        case rel => exact ⟨k + 1, by omega, by go_num, by rw [HS.out]; exact ho'.out, hb⟩
        case measure => simp [intOf]; omega
      | true =>
        have HS := Lib.hid (jbL_take zs y e k hcn)
        rw [hcn] at hrm
        have HR := Lib.hid fun w => roRound_any (agM (zs.getD k 0) y) e w he
        rw [hrm] at HR
        clear ho hcn hrm
        generalize agM (zs.getD k 0) y = a at HA HR hbd
        generalize zs.getD k 0 = z at hc hzk HA
        go_wp2_with (first | (go_at_call 46; refine (HA.out _).mono ?_; rintro e w' ⟨rfl, rfl⟩) | (go_at_call 52; refine (HR.out _).mono ?_; rintro e w' ⟨rfl, rfl⟩) | (at_builtin; refine wpList_append_own _ rfl _ _ 22 rfl w.heap.size 3 i0 (.int .i64 0) 1 8 Try.underlying22 hi hz0 hz1 hz2 rfl (by decide) _ _ _ rfl (World.ownsRow.alloc ho'.out _) ⟨wr.heap.size, 0, none⟩ 1 1 [.int .i64 k] rfl rfl (newCellAt _ _ rfl) (oneInt _) ?c3 ?c4 ?c5 ?_))
        case c3 => unfold maxLen; omega
        case c4 => omega
        case c5 => simp; omega
        intro v' w1 hown' hgrow _
        have hown1 : Own w.heap.size w1 v' (jbL zs y e (k + 1)) := by rw [HS.out]; exact own_push hown'
        have hblk : ∀ q, u7.ownBlock = some q → w.heap.size ≤ q := fun q hq => (World.ownsRow.lt ho'.out q hq).1
        have hbz := (hb.alloc hsz _).grown hgrow (by simp; omega) (fun q hq => hblk q hq)
        clear hown' hgrow
        go_wp2
        go_roundw
        case rel => exact ⟨k + 1, by omega, by go_num, hown1, hbz⟩
        case measure => simp [intOf]; omega
    · have hkn : k = n := by omega
      subst hkn
      rcases ho.cases with ⟨rfl, _⟩ | ⟨q, cq, rfl, _⟩
      all_goals
        clear ho
        go_wp2
        go_ret
        exact ⟨_, rfl, ho'.out, hb⟩

theorem l1Most_any (a b : Int) (w : World) : Calls Try.prog 63 #[.int .i64 a, .int .i64 b] w (RetSame (.int .i64 (if b < a then a else b)) w) := by
  by_cases h : b < a
  · rw [if_pos h]
    go_enter Try.func63, Try.ntmps63
    go_wp2
    go_ret
    exact ⟨rfl, rfl⟩
  · rw [if_neg h]
    go_enter Try.func63, Try.ntmps63
    go_wp2
    go_ret
    exact ⟨rfl, rfl⟩
theorem most_ag (b y : Int) : (if agM b y < 0 then 0 else agM b y) = (if cnt b y = true then y - b else 0) := by
  cases h2 : cnt b y with
  | true =>
    have e1 : agM b y = y - b := by unfold agM; rw [h2]; rfl
    have := cnt_iff.1 h2
    rw [e1, if_neg (by omega)]; rfl
  | false =>
    have e1 : agM b y = -1 := by unfold agM; rw [h2]; rfl
    rw [e1]; rfl

set_option maxHeartbeats 1000000 in
theorem roSum_any (b off n c : Nat) (y : Int) (zs : List Int) (w : World) (hl : zs.length = n) (h10 : n ≤ 10) (hz : ∀ j, j < n → 0 ≤ zs.getD j 0 ∧ zs.getD j 0 ≤ 2900) (hy : 0 ≤ y ∧ y ≤ 3000) (hI : Ints w b off zs) :
    Calls Try.prog 44 #[.slice (some ⟨b, off, none⟩) n c, .int .i64 y] w (RetSame (.int .i64 (sbT zs y n)) w) := by
  have HZ := Lib.hid hz
  have HI := Lib.hid hI
  have HL := Lib.hid hl
  clear hz hI hl
  go_enter Try.func44, Try.ntmps44
  go_wp2
  go_loop [5, 10] (fun s i => ∃ k : Nat, k ≤ n ∧ i = .int .i64 k ∧ s = .int .i64 (sbT zs y k)) (fun _ i => n - (intOf i).toNat)
  case atStart => exact ⟨0, Nat.zero_le _, rfl, rfl⟩
  case round =>
    obtain ⟨k, hk, rfl, rfl⟩ := hrel
    by_cases hlt : k < n
    · have hc := HI.out k (by rw [HL.out]; exact hlt)
      have hzk := HZ.out k hlt
      have hbd := sbT_bd zs y k
      have hm := most_ag (zs.getD k 0) y
      have HA := Lib.hid fun w => roAge_any (zs.getD k 0) y w hzk hy
      have HM := Lib.hid fun w => l1Most_any 0 (agM (zs.getD k 0) y) w
      rw [hm] at HM
      have HS : Hid (sbT zs y (k + 1) = sbT zs y k + (if cnt (zs.getD k 0) y = true then y - zs.getD k 0 else 0)) := Lib.hid rfl
      have hbt : 0 ≤ (if cnt (zs.getD k 0) y = true then y - zs.getD k 0 else 0) ∧ (if cnt (zs.getD k 0) y = true then y - zs.getD k 0 else 0) ≤ 120 := by
        split
        · rename_i hc; have := cnt_iff.1 hc; omega
        · omega
      clear hm
      generalize (if cnt (zs.getD k 0) y = true then y - zs.getD k 0 else 0) = t at HM HS hbt
      generalize agM (zs.getD k 0) y = a at HA HM
      generalize zs.getD k 0 = z at hc hzk HA
      generalize sbT zs y k = x at hbd HS ⊢
      go_wp2_with (first | (go_at_call 46; refine (HA.out _).mono ?_; rintro e w' ⟨rfl, rfl⟩) | (go_at_call 63; refine (HM.out _).mono ?_; rintro e w' ⟨rfl, rfl⟩))
      go_round
      case rel => exact ⟨k + 1, by omega, by go_num, by rw [HS.out]⟩
      case measure => simp [intOf]; omega
    · have hkn : k = n := by omega
      subst hkn
      go_wp2
      go_ret
      exact ⟨rfl, rfl⟩

theorem jubileesInS_no (b off n c : Nat) (y e : Int) (zs : List Int) (w : World) (hl : zs.length = n) (hn : n ≤ 1048576) (hI : Ints w b off zs) (hno : (pgB zs y && inB e 1 100) = false) :
    Calls Try.prog 16 #[.slice (some ⟨b, off, none⟩) n c, .int .i64 y, .int .i64 e] w (RetSame (.tuple #[.slice none 0 0, .bool false]) w) := by
  have HY := Lib.hid fun w hI => roYear_any b off n c y zs w hl hn hI
  have HE := Lib.hid fun w => roEvery_any e w
  generalize pgB zs y = p at HY hno
  generalize inB e 1 100 = q at HE hno
  cases p with
  | false =>
    go_enter Try.func16, Try.ntmps16
    go_wp2_with (first | (go_at_call 37; refine (HY.out _ hI).mono ?_; rintro e w' ⟨rfl, rfl⟩))
    go_ret2
    exact ⟨rfl, rfl⟩
  | true =>
    rw [Bool.true_and] at hno
    subst hno
    go_enter Try.func16, Try.ntmps16
    go_wp2_with (first | (go_at_call 37; refine (HY.out _ hI).mono ?_; rintro e w' ⟨rfl, rfl⟩) | (go_at_call 38; refine (HE.out _).mono ?_; rintro e w' ⟨rfl, rfl⟩))
    go_ret2
    exact ⟨rfl, rfl⟩
theorem jubileesInS_yes (b off n c : Nat) (y e : Int) (zs : List Int) (w : World) (hl : zs.length = n) (hbl : b < w.heap.size) (hI : Ints w b off zs) (hp : pgB zs y = true) (hq : inB e 1 100 = true) :
    Calls Try.prog 16 #[.slice (some ⟨b, off, none⟩) n c, .int .i64 y, .int .i64 e] w (RetOwnB (jbL zs y e n) true w) := by
  obtain ⟨hg, hy⟩ := pgB_true hp
  have hln := bornB_len hg
  have HY := Lib.hid fun w hI => roYear_any b off n c y zs w hl (by omega) hI
  have HE := Lib.hid fun w => roEvery_any e w
  rw [hp] at HY
  rw [hq] at HE
  have HR := Lib.hid (roIn_any b off n c y e zs w hl (by omega) (by have := inB_iff.1 hq; omega) (fun j hj => bornB_at hg j (by omega)) hy hbl hI)
  generalize jbL zs y e n = rs at HR ⊢
  go_enter Try.func16, Try.ntmps16
  go_wp2_with (first | (go_at_call 37; refine (HY.out _ hI).mono ?_; rintro e w' ⟨rfl, rfl⟩) | (go_at_call 38; refine (HE.out _).mono ?_; rintro e w' ⟨rfl, rfl⟩))
  refine HR.out.mono ?_
  rintro e w1 ⟨v, rfl, ho, hb⟩
  rcases ho.cases with ⟨rfl, _⟩ | ⟨q, cq, rfl, _⟩
  all_goals
    have ho' := Lib.hid ho
    clear ho
    go_wp2
    go_ret2
    exact ⟨_, rfl, ho'.out, hb⟩

theorem sumOfAgesS_no (b off n c : Nat) (y : Int) (zs : List Int) (w : World) (hl : zs.length = n) (hn : n ≤ 1048576) (hI : Ints w b off zs) (hno : pgB zs y = false) :
    Calls Try.prog 20 #[.slice (some ⟨b, off, none⟩) n c, .int .i64 y] w (RetSame (.tuple #[.int .i64 0, .bool false]) w) := by
  have HY := Lib.hid fun w hI => roYear_any b off n c y zs w hl hn hI
  rw [hno] at HY
  go_enter Try.func20, Try.ntmps20
  go_wp2_with (first | (go_at_call 37; refine (HY.out _ hI).mono ?_; rintro e w' ⟨rfl, rfl⟩))
  go_ret2
  exact ⟨rfl, rfl⟩
theorem sumOfAgesS_yes (b off n c : Nat) (y : Int) (zs : List Int) (w : World) (hl : zs.length = n) (hI : Ints w b off zs) (hp : pgB zs y = true) :
    Calls Try.prog 20 #[.slice (some ⟨b, off, none⟩) n c, .int .i64 y] w (RetSame (.tuple #[.int .i64 (sbT zs y n), .bool true]) w) := by
  obtain ⟨hg, hy⟩ := pgB_true hp
  have hln := bornB_len hg
  have HY := Lib.hid fun w hI => roYear_any b off n c y zs w hl (by omega) hI
  rw [hp] at HY
  have HR := Lib.hid (roSum_any b off n c y zs w hl (by omega) (fun j hj => bornB_at hg j (by omega)) hy hI)
  generalize sbT zs y n = s at HR ⊢
  go_enter Try.func20, Try.ntmps20
  go_wp2_with (first | (go_at_call 37; refine (HY.out _ hI).mono ?_; rintro e w' ⟨rfl, rfl⟩) | (go_at_call 44; refine HR.out.mono ?_; rintro e w' ⟨rfl, rfl⟩))
  go_ret2
  exact ⟨rfl, rfl⟩
end Go.Proofs.Ytadfojjglceheaa
