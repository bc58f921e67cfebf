/- The years in which something holds of a household: the walk over one test. -/
import Derived.Test.YtjabghojenhhiaaYTo
set_option linter.unusedVariables false
set_option linter.unusedSimpArgs false
namespace Go.Proofs.Ytjabghojenhhiaa
open Go.RowKit

/-- The contract that a test on households bears: on the household in each fit year it returns what is told. -/
def TestsYearsTurned (p1 : Value) (who : Nat) (zs : List Int) (test : Int → Bool) (w : World) : Prop :=
  ∀ (y : Int), loY zs ≤ y → y ≤ hiY zs → ∀ (g c : Nat) (W : World), Below w.heap.size w W → g < W.heap.size → Ppl W g (agesIn zs y) →
    Calls Try.prog 58 #[.agg #[.int .i64 who, .int .i64 ((agesIn zs y).getD who 0), .slice (some ⟨g, 0, none⟩) zs.length c], p1] W (Ret (.bool (test y)) W)

set_option maxHeartbeats 1000000 in
theorem yearsWhen_YearsTurned (p1 : Value) (test : Int → Bool) (g c who : Nat) (zs : List Int) (w : World) (hg : goodB zs 120 = true) (hw : who < zs.length) (hgs : g < w.heap.size) (hP : Ppl w g zs)
    (hT : TestsYearsTurned p1 who zs test w) :
    Calls Try.prog 74 #[.agg #[.int .i64 who, .int .i64 (zs.getD who 0), .slice (some ⟨g, 0, none⟩) zs.length c], .func (.func 58) #[] #[p1]] w (RetOwn (found test zs) w) := by
  obtain ⟨i0, hi, hz0, hz1, hz2⟩ := info_parts infoInt
  have h8 := goodB_len hg
  have hbd := loY_bd hg
  have hN : (nY zs : Int) = hiY zs - loY zs + 1 := by unfold nY; omega
  have hn241 : nY zs ≤ 241 := by omega
  have ha := goodB_at hg who hw
  have HR := Lib.hid (show loY zs = -(minTo (zs.getD who 0) zs zs.length) ∧ hiY zs = 120 - maxTo (zs.getD who 0) zs zs.length by rw [minTo_any who hw, maxTo_any who hw]; exact ⟨rfl, rfl⟩)
  have HN := Lib.hid hN
  have HG := Lib.hid (goodB_at hg)
  clear hN
  generalize hz : zs.getD who 0 = a at ha HR
  clear hz
  go_enter Try.func74, Try.ntmps74
  go_wp2_with fail
  refine (fitYears_any _ _ _ _ _ zs _ rfl hg (by simp; omega) (hP.kept ((Below.refl _ _).alloc (Nat.le_refl _) _) hgs) ha).mono ?_
  rintro e w1 ⟨rfl, hb1⟩
  rw [← HR.out.1, ← HR.out.2]
  have hH := Lib.hid (heap_kept (heap_new w _) hb1)
  have hb1' := ((Below.refl w.heap.size w).alloc (Nat.le_refl _) _).trans (hb1.mono (by simp))
  clear hb1
  have HT := Lib.hid hT
  clear hT
  go_wp2_with fail
  go_loopw [5, 8] (fun v u wr => ∃ (k : Nat) (y : Int), y = loY zs + k ∧ k ≤ nY zs ∧ u = .int .i64 y ∧ Own w.heap.size wr v (yTo test (loY zs) k) ∧ Below w.heap.size w wr ∧ Hid (wr.heap[w.heap.size]? = w1.heap[w.heap.size]?)) (fun _ u _ => (121 - intOf u).toNat)
  case atStart => exact ⟨0, loY zs, by simp, Nat.zero_le _, rfl, own_nil _ _, hb1', Lib.hid rfl⟩
  case round =>
    obtain ⟨k, y, hy, hk, rfl, ho, hb, hh⟩ := hrel
    have HO := HN.out
    have hP' := hP.kept hb hgs
    have hsz := hb.size
    obtain ⟨t0, t1, t2, _, _, _, _, hlt0⟩ := slot3 (hh.out.trans hH.out)
    have hl1 := yTo_len test (loY zs) k
    by_cases hlt : k < nY zs
    · have hy1 : loY zs ≤ y := by omega
      have hy2 : y ≤ hiY zs := by omega
      have HY := Lib.hid hy
      have hyb : -120 ≤ y ∧ y ≤ 120 := by omega
      clear hy HO
      cases ht : test y with
      | true =>
        have HS := Lib.hid (yTo_yes (test := test) (lo := loY zs) (k := k) (by rw [← HY.out]; exact ht))
        rw [← HY.out] at HS
        have ht' := Lib.hid ht
        clear ht
        go_wp2_with fail
        refine (in_any _ _ who _ _ zs _ (by omega) (by omega) hw (by omega) hP' HG.out hyb).mono ?_
        rintro e w2 ⟨g2, c2, hg2, rfl, hP2, hgs2, hb2⟩
        have hb2' := hb.trans (hb2.mono hb.size)
        go_wp2_with fail
        refine (HT.out y hy1 hy2 g2 c2 w2 hb2' hgs2 hP2).mono ?_
        rintro e w3 ⟨rfl, hb3⟩
        rw [ht'.out]
        have hb3' := hb2'.trans (hb3.mono hb2'.size)
        have ho3 := (ho.kept hb2).kept hb3
        have hh3 := Lib.hid ((heap_kept (heap_kept (hh.out.trans hH.out) hb2) hb3).trans hH.out.symm)
        have hsz3 := hb3'.size
        clear t0 t1 t2
        go_wp2_with (first | (at_builtin; refine wpList_append_own _ rfl _ _ 22 rfl w.heap.size 3 i0 (.int .i64 0) 1 8 Try.underlying22 hi hz0 hz1 hz2 rfl (by decide) _ _ _ rfl (World.ownsRow.alloc ho3 _) ⟨w3.heap.size, 0, none⟩ 1 1 [.int .i64 y] rfl rfl (newCell _ _ _) (oneInt _) ?c3 ?c4 ?c5 ?_))
        case c3 => unfold maxLen; omega
        case c4 => omega
        case c5 => simp; omega
        intro v' w4 hown' hgrow _
        have hb4 := below_push hb3' ho3 hgrow
        have ho4 := own_push hown'
        have hh4 : Hid (w4.heap[w.heap.size]? = w1.heap[w.heap.size]?) := Lib.hid ((hgrow.block w.heap.size (by simp; omega) (by
          intro e
          have hhA := hh3.out.trans hH.out
          rcases ho3.2 with ⟨e2, _⟩ | ⟨q, cp, cur, e2, _, e3, _⟩
          · rw [e2] at e; simp [Value.ownBlock] at e
          · rw [e2] at e
            simp only [Value.ownBlock, Option.some.injEq] at e
            rw [← e, hhA] at e3
            simp at e3)).trans ((Below.heap_alloc _ _ _ (lt_of_block (hh3.out.trans hH.out))).trans hh3.out))
        rw [← HS.out] at ho4
        clear hown' hgrow hh3 ho3
        go_wp2
        go_roundw
        case rel => exact ⟨k + 1, y + 1, by have := HY.out; omega, by omega, by go_num, ho4, hb4, hh4⟩
        case measure => simp [intOf]; omega
      | false =>
        have HS := Lib.hid (yTo_no (test := test) (lo := loY zs) (k := k) (by rw [← HY.out]; exact ht))
        have ht' := Lib.hid ht
        clear ht
        go_wp2_with fail
        refine (in_any _ _ who _ _ zs _ (by omega) (by omega) hw (by omega) hP' HG.out hyb).mono ?_
        rintro e w2 ⟨g2, c2, hg2, rfl, hP2, hgs2, hb2⟩
        have hb2' := hb.trans (hb2.mono hb.size)
        go_wp2_with fail
        refine (HT.out y hy1 hy2 g2 c2 w2 hb2' hgs2 hP2).mono ?_
        rintro e w3 ⟨rfl, hb3⟩
        rw [ht'.out]
        have hb3' := hb2'.trans (hb3.mono hb2'.size)
        have ho3 := (ho.kept hb2).kept hb3
        have hh3 := Lib.hid ((heap_kept (heap_kept (hh.out.trans hH.out) hb2) hb3).trans hH.out.symm)
        rw [← HS.out] at ho3
        clear t0 t1 t2
        go_wp2
        go_roundw
        case rel => exact ⟨k + 1, y + 1, by have := HY.out; omega, by omega, by go_num, ho3, hb3', hh3⟩
        case measure => simp [intOf]; omega
    · have hkn : k = nY zs := by omega
      have hge : hiY zs < y := by omega
      have HF := Lib.hid (show found test zs = yTo test (loY zs) k by rw [hkn]; rfl)
      clear hy hkn hlt HO
      go_wp2
      go_ret
      exact ⟨_, rfl, by rw [HF.out]; exact ho, hb⟩


set_option maxHeartbeats 1000000 in
theorem yearsFor_YearsTurned (b off c who : Nat) (p1 : Value) (test : Int → Bool) (zs : List Int) (w : World) (hg : goodB zs 120 = true) (hw : who < zs.length) (hI : Ints w b off zs)
    (hT : TestsYearsTurned p1 who zs test w) :
    Calls Try.prog 43 #[.slice (some ⟨b, off, none⟩) zs.length c, .int .i64 who, .func (.func 58) #[] #[p1]] w (RetOwn (found test zs) w) := by
  have h8 := goodB_len hg
  have HT := Lib.hid hT
  clear hT
  go_enter Try.func43, Try.ntmps43
  go_wp2_with fail
  refine (householdOf_yes _ _ _ _ who zs _ rfl (by omega) hI hg hw).mono ?_
  rintro e w1 ⟨g, hg1, rfl, hP, hgs, hb⟩
  have hb1 := Lib.hid fun A => hb.alloc hb.size A
  have hP1 := Lib.hid fun A => hP.kept ((Below.refl _ _).alloc (Nat.le_refl _) A) hgs
  generalize ha : zs.getD who 0 = a
  have HA := Lib.hid ha
  clear ha hP
  go_wp2_with fail
  rw [← HA.out]
  refine (yearsWhen_YearsTurned _ test g _ who zs _ hg hw (by simp; omega) (hP1.out _) (fun y h1 h2 g c W hB => HT.out y h1 h2 g c W ((hb1.out _).trans (hB.mono (hb1.out _).size)))).mono ?_
  rintro e w2 ⟨v, rfl, ho, hb2⟩
  go_wp2_with fail
  go_ret
  exact ⟨_, rfl, ho.mono (hb1.out _).size, (hb1.out _).trans (hb2.mono (hb1.out _).size)⟩
theorem yearsForZ_YearsTurned (b off c : Nat) (p1 : Value) (test : Int → Bool) (zs : List Int) (w : World) (hg : goodB zs 120 = true) (hw : 0 < zs.length) (hI : Ints w b off zs)
    (hT : TestsYearsTurned p1 0 zs test w) :
    Calls Try.prog 43 #[.slice (some ⟨b, off, none⟩) zs.length c, .int .i64 0, .func (.func 58) #[] #[p1]] w (RetOwn (found test zs) w) := by
  rw [show (0 : Int) = ((0 : Nat) : Int) from rfl]
  exact yearsFor_YearsTurned b off c 0 p1 test zs w hg hw hI hT
theorem yearsForNo_YearsTurned (b off c : Nat) (who : Int) (p1 : Value) (zs : List Int) (w : World) (hn : zs.length ≤ 1048576) (hbl : b < w.heap.size) (hI : Ints w b off zs) (hg : (goodB zs 120 && inB who 0 ((zs.length : Int) - 1)) = false) :
    Calls Try.prog 43 #[.slice (some ⟨b, off, none⟩) zs.length c, .int .i64 who, .func (.func 58) #[] #[p1]] w (RetOwn [] w) := by
  have HG := Lib.hid hg
  clear hg
  go_enter Try.func43, Try.ntmps43
  go_wp2_with fail
  refine (householdOf_no _ _ _ _ who zs _ rfl hn hI hbl HG.out).mono ?_
  rintro e w1 ⟨rfl, hb⟩
  go_wp2_with fail
  go_ret
  exact ⟨_, rfl, own_nil _ _, hb.alloc hb.size _⟩
end Go.Proofs.Ytjabghojenhhiaa
