/- Whole multiples of ages: the list of the model's text; the test of YearsOfMultiple. -/
import Derived.Test.YtonnknhmmljmaaaMult
import Derived.IntWalk
set_option linter.unusedVariables false
set_option linter.unusedSimpArgs false
namespace Go.Proofs.Ytonnknhmmljmaaa
open Go.RowKit

set_option maxHeartbeats 1600000 in
theorem timesTest (q1 q2 g c n o : Nat) (num age t : Int) (ys : List Int) (w : World) (hl : ys.length = n) (h8 : n ≤ 8) (ho : o < n) (hgs : g < w.heap.size) (hP : Ppl w g ys) (ha : 0 ≤ age ∧ age ≤ 120) (hy : 0 ≤ ys.getD o 0) (ht : 2 ≤ t)
    (hq1 : w.cell? ⟨q1, 0, none⟩ = some (.int .i64 o)) (hq2 : w.cell? ⟨q2, 0, none⟩ = some (.int .i64 t)) :
    Calls Try.prog 73 #[.agg #[.int .i64 num, .int .i64 age, .slice (some ⟨g, 0, none⟩) n c], .pointer (some ⟨q1, 0, none⟩), .pointer (some ⟨q2, 0, none⟩)] w (Ret (.bool (mulB age (ys.getD o 0) && (age / ys.getD o 0 == t))) w) := by
  have HL := Lib.hid hl
  have HP := Lib.hid hP
  have HT := Lib.hid (wt_eq (p := age) hy ht)
  have hql1 := World.block_lt_of_cell? w _ hq1
  have hql2 := World.block_lt_of_cell? w _ hq2
  have HB : ∀ A, Below w.heap.size w (w.alloc A).drew := fun A => ((Below.refl w.heap.size w).alloc (Nat.le_refl _) A).drew
  clear hl hP
  go_enter Try.func73, Try.ntmps73
  go_wp2_with fail
  go_region_held3 (fun w' => Below w.heap.size w w' ∧ w'.cell? ⟨q1, 0, none⟩ = some (.int .i64 o) ∧ w'.cell? ⟨q2, 0, none⟩ = some (.int .i64 t) ∧ w'.cell? ⟨w.heap.size, 0, none⟩ = some (.int .i64 num) ∧ w'.cell? ⟨w.heap.size, 1, none⟩ = some (.int .i64 age) ∧ w'.cell? ⟨w.heap.size, 2, none⟩ = some (.slice (some ⟨g, 0, none⟩) n c))
    (first
      | go_keep
      | (go_split_ands
         refine ⟨?_, ?_, ?_, ?_, ?_, ?_⟩
         · exact Below.trans (by assumption) (Below.mono hcall (Below.size (by assumption)))
         · exact below_cells hcall (by assumption)
         · exact below_cells hcall (by assumption)
         · exact below_cells hcall (by assumption)
         · exact below_cells hcall (by assumption)
         · exact below_cells hcall (by assumption)))
    (first | (go_at_call 74; refine (wholeTimes_any g c n o num age ys _ HL.out h8 ho ?_ ?_ ha hy).mono ?_; (go_split_ands; exact Nat.lt_of_lt_of_le hgs (Below.size (by assumption))); (go_split_ands; exact HP.out.kept (by assumption) hgs); rintro e w' ⟨rfl, hcall⟩))
  obtain ⟨hb, _⟩ := ‹Below w.heap.size w _ ∧ _›
  go_wp2
  go_ret
  exact ⟨by rw [← HT.out]; rfl, hb⟩

def mulT (zs : List Int) (A B : Nat) : Int → Bool := fun y => mulB (zs.getD A 0 + y) (zs.getD B 0 + y)
def rowOf (zs : List Int) (A B : Nat) (y : Int) : List Int := [y, (zs.getD A 0 + y) / (zs.getD B 0 + y)]
def mulRows (zs : List Int) (A B k : Nat) : List (List Int) := (yTo (mulT zs A B) (loY zs) k).map (rowOf zs A B)
theorem mulRows_yes {zs : List Int} {A B k : Nat} {y : Int} (hy : y = loY zs + k) (h : mulT zs A B y = true) : mulRows zs A B (k + 1) = mulRows zs A B k ++ [[y, (zs.getD A 0 + y) / (zs.getD B 0 + y)]] := by
  subst hy
  unfold mulRows
  rw [yTo_yes h, List.map_append]; rfl
theorem mulRows_no {zs : List Int} {A B k : Nat} {y : Int} (hy : y = loY zs + k) (h : mulT zs A B y = false) : mulRows zs A B (k + 1) = mulRows zs A B k := by
  subst hy
  unfold mulRows
  rw [yTo_no h]
theorem mulRows_len (zs : List Int) (A B k : Nat) : (mulRows zs A B k).length ≤ k := by
  unfold mulRows; rw [List.length_map]; exact yTo_len _ _ _
def RetSS (rss : List (List Int)) (w : World) (e : Ending) (w' : World) : Prop :=
  ∃ v vs, e = .returned v ∧ OwnSS w.heap.size w'.heap.size w' v vs rss ∧ Below w.heap.size w w'

set_option maxHeartbeats 1600000 in
theorem agMultiples_any (b off c A B : Nat) (zs : List Int) (w : World) (hn : zs.length ≤ 1048576) (hI : Ints w b off zs) (hg : goodB zs 120 = true) (hA : A < zs.length) (hB : B < zs.length) :
    Calls Try.prog 71 #[.slice (some ⟨b, off, none⟩) zs.length c, .int .i64 A, .int .i64 B] w (RetSS (mulRows zs A B (nY zs)) w) := by
  obtain ⟨i0, hi, hz0, hz1, hz2⟩ := info_parts infoSlice
  have h8 := goodB_len hg
  have hbl := ints_lt hI (by omega)
  have hbd := loY_bd hg
  have HN := Lib.hid (show (nY zs : Int) = hiY zs - loY zs + 1 by unfold nY; omega)
  have hn241 : nY zs ≤ 241 := by have := HN.out; omega
  have hcA := Lib.hid (hI A hA)
  have hcB := Lib.hid (hI B hB)
  have HfA := Lib.hid (fun y h1 h2 => fit_bd (zs := zs) (y := y) h1 h2 A hA)
  have HfB := Lib.hid (fun y h1 h2 => fit_bd (zs := zs) (y := y) h1 h2 B hB)
  have hAb := goodB_at hg A hA
  have hBb := goodB_at hg B hB
  have HM := Lib.hid (show ∀ y, mulT zs A B y = mulB (zs.getD A 0 + y) (zs.getD B 0 + y) from fun y => rfl)
  have HYes := Lib.hid (fun k y h1 h2 => mulRows_yes (zs := zs) (A := A) (B := B) (k := k) (y := y) h1 h2)
  generalize zs.getD A 0 = pA at hcA HfA HM hAb HYes
  generalize zs.getD B 0 = pB at hcB HfB HM hBb HYes
  go_enter Try.func71, Try.ntmps71
  go_wp2_with fail
  refine (agRange_any _ _ _ _ zs _ rfl hI hg).mono ?_
  rintro e w1 ⟨rfl, hb0⟩
  clear hg
  go_wp2_with fail
  go_loopw [7, 10] (fun v u wr => ∃ (k : Nat) (y : Int) (vs : List Value), y = loY zs + k ∧ k ≤ nY zs ∧ u = .int .i64 y ∧ OwnSS w.heap.size wr.heap.size wr v vs (mulRows zs A B k) ∧ Below w.heap.size w wr) (fun _ u _ => (121 - intOf u).toNat)
  case atStart => exact ⟨0, loY zs, [], by simp, Nat.zero_le _, rfl, ownSS_nil _ _ _, hb0⟩
  case round =>
    obtain ⟨k, y, vs, hy, hk, rfl, ho, hb⟩ := hrel
    have HO := HN.out
    have hsz := hb.size
    have hlen := mulRows_len zs A B k
    have hvl := ho.len
    rw [← hvl] at hlen
    clear hvl
    have HOW := Lib.hid ho
    clear ho
    by_cases hlt : k < nY zs
    · have hy1 : loY zs ≤ y := by omega
      have hy2 : y ≤ hiY zs := by omega
      have HY := Lib.hid hy
      clear hy HO
      have fA := HfA.out y hy1 hy2
      have fB := HfB.out y hy1 hy2
      have d1 := (hb.cell (p := ⟨b, off + A, none⟩) hbl).trans hcA.out
      have d2 := (hb.cell (p := ⟨b, off + B, none⟩) hbl).trans hcB.out
      have a0 : (0 : Int) ≤ (A : Int) := by omega
      have a1 : (A : Int) < (zs.length : Int) := by omega
      have b0 : (0 : Int) ≤ (B : Int) := by omega
      have b1 : (B : Int) < (zs.length : Int) := by omega
      have k1 : IntKind.i64.wrap (pA + y) = pA + y := IntWalk.i64_in _ (by omega)
      have k2 : IntKind.i64.wrap (pB + y) = pB + y := IntWalk.i64_in _ (by omega)
      cases ht : mulT zs A B y with
      | true =>
        have hS := Lib.hid (HYes.out k y HY.out ht)
        rw [HM.out y] at ht
        unfold mulB at ht
        rw [Bool.and_eq_true, Bool.and_eq_true, decide_eq_true_eq, decide_eq_true_eq] at ht
        obtain ⟨⟨t1, t2⟩, t3⟩ := ht
        obtain ⟨m1, m2⟩ := quo_bd (p := pA + y) (q := pB + y) fA (by omega)
        have t1' : ¬ (pB + y = 0) := by omega
        go_wp2
        go_quiet (fail)
        clear k1 k2
        go_wp2_with (first | (at_builtin; refine wpList_append_own _ rfl _ _ 39 rfl w.heap.size 22 i0 _ 1 24 Try.underlying39 hi hz0 hz1 hz2 rfl (by decide) _ _ _ rfl (World.ownsRow.alloc (World.ownsRow.alloc HOW.out.outer _) _) ⟨wr.heap.size + 1, 0, none⟩ 1 1 [.slice (some ⟨wr.heap.size, 0, none⟩) 2 2] rfl rfl (newCellAt _ _ _ _ (by simp)) (oneSlice _ _ _) ?c3 ?c4 ?c5 ?_))
        case c3 => unfold maxLen; omega
        case c4 => omega
        case c5 => simp; omega
        intro v' w2 hown hgr _
        have hp := OwnSS.push (wr := wr.drewN nq) (show OwnSS w.heap.size (wr.drewN nq).heap.size (wr.drewN nq) _ vs (mulRows zs A B k) from HOW.out.keep (fun _ _ _ => rfl)) hsz hown hgr
        have hb2 := (((below_drewN hb nq).alloc hsz _).alloc (by simp; omega) _).grown hgr (by simp; omega) (fun k hk => (World.ownsRow.lt HOW.out.outer k hk).1)
        rw [← hS.out] at hp
        have HP := Lib.hid hp
        clear hp hown hgr
        go_wp2
        go_roundw
        case rel => exact ⟨k + 1, y + 1, _, by have := HY.out; omega, by omega, by go_num, HP.out, hb2⟩
        case measure => simp [intOf]; omega
      | false =>
        have hS := Lib.hid (mulRows_no (zs := zs) (A := A) (B := B) (k := k) HY.out ht)
        rw [HM.out y] at ht
        by_cases t1 : 0 < pB + y
        · obtain ⟨m1, m2⟩ := quo_bd (p := pA + y) (q := pB + y) fA (by omega)
          have t1' : ¬ (pB + y = 0) := by omega
          cases t2 : ((pA + y) % (pB + y) == 0) with
          | true =>
            have t3 : (pA + y) / (pB + y) < 2 := by
              unfold mulB at ht; rw [decide_eq_true t1, t2] at ht; simp at ht; omega
            clear ht
            go_wp2
            go_quiet (fail)
            clear k1 k2
            go_wp2
            go_roundw
            case rel => exact ⟨k + 1, y + 1, vs, by have := HY.out; omega, by omega, by go_num, by rw [hS.out]; exact HOW.out.keep (fun _ _ _ => rfl), below_drewN hb _⟩
            case measure => simp [intOf]; omega
          | false =>
            clear ht
            go_wp2
            go_quiet (fail)
            clear k1 k2
            go_wp2
            go_roundw
            case rel => exact ⟨k + 1, y + 1, vs, by have := HY.out; omega, by omega, by go_num, by rw [hS.out]; exact HOW.out.keep (fun _ _ _ => rfl), below_drewN hb _⟩
            case measure => simp [intOf]; omega
        · clear ht
          go_wp2
          go_quiet (fail)
          clear k1 k2
          go_wp2
          go_roundw
          case rel => exact ⟨k + 1, y + 1, vs, by have := HY.out; omega, by omega, by go_num, by rw [hS.out]; exact HOW.out.keep (fun _ _ _ => rfl), below_drewN hb _⟩
          case measure => simp [intOf]; omega
    · have hge : hiY zs < y := by omega
      have hT := Lib.hid (show mulRows zs A B k = mulRows zs A B (nY zs) by rw [show k = nY zs by omega])
      clear hy hlt HO
      go_wp2
      go_ret
      exact ⟨_, vs, rfl, by rw [← hT.out]; exact HOW.out, hb⟩
end Go.Proofs.Ytonnknhmmljmaaa
