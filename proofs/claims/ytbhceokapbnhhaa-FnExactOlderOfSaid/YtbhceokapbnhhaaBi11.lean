/- Whose birthday it is, of the model. -/
import Derived.Test.YtbhceokapbnhhaaBi9
import Derived.Test.YtbhceokapbnhhaaDateHelp2
set_option linter.unusedVariables false
set_option linter.unusedSimpArgs false
namespace Go.Proofs.Ytbhceokapbnhhaa
open Go.RowKit

def isOf (b o : Dt) : Bool := decide (b.2 = o.2) && decide (b.1 < o.1)
/-- The people among the first k whose birthday it is. -/
def whoTo (ds : List Dt) (o : Dt) : Nat → List Int
  | 0 => []
  | k + 1 => if isOf (at2 ds k) o = true then whoTo ds o k ++ [(k : Int)] else whoTo ds o k
theorem whoTo_yes {ds : List Dt} {o : Dt} {k : Nat} (h : isOf (at2 ds k) o = true) : whoTo ds o (k + 1) = whoTo ds o k ++ [(k : Int)] := by rw [whoTo, if_pos h]
theorem whoTo_no {ds : List Dt} {o : Dt} {k : Nat} (h : isOf (at2 ds k) o = false) : whoTo ds o (k + 1) = whoTo ds o k := by rw [whoTo, if_neg (by rw [h]; simp)]
theorem whoTo_len (ds : List Dt) (o : Dt) : ∀ k, (whoTo ds o k).length ≤ k
  | 0 => Nat.le_refl _
  | k + 1 => by
    have := whoTo_len ds o k
    unfold whoTo
    split
    · rw [List.length_append]; simp; omega
    · omega
theorem newCellAt {W : World} {g : Nat} (x : Value) (t : TypeId) (hg : g = W.heap.size) : ∀ j u, [x][j]? = some u → (W.alloc (.cells #[x] t)).cell? ((⟨g, 0, none⟩ : Addr).add j) = some u := by
  subst hg
  exact newCell W x t
set_option maxHeartbeats 4000000 in
set_option maxRecDepth 100000 in
theorem biOf_any (b off n c : Nat) (ds : List Dt) (y d : Int) (w : World) (hl : ds.length = n) (hn : n ≤ 1048576) (hI : Dts w b off ds) (hbl : b < w.heap.size) :
    Calls Try.prog 56 #[.slice (some ⟨b, off, none⟩) n c, .agg #[.int .i64 y, .int .i64 d]] w (RetOwn (whoTo ds (y, d) n) w) := by
  obtain ⟨i0, hi, hz0, hz1, hz2⟩ := info_parts infoInt
  have HW0 := Lib.hid ((Below.refl w.heap.size w).alloc (Nat.le_refl _) (.cells #[.int .i64 y, .int .i64 d] 34))
  have HL := Lib.hid hl
  clear hl
  go_enter Try.func56, Try.ntmps56
  go_wp2_with fail
  go_loopw [5, 10] (fun s v wr => ∃ k : Nat, k ≤ n ∧ v = .int .i64 k ∧ Own (w.heap.size + 1) wr s (whoTo ds (y, d) k) ∧ Below w.heap.size w wr ∧ w.heap.size + 1 ≤ wr.heap.size ∧ wr.cell? ⟨w.heap.size, 0, none⟩ = some (.int .i64 y) ∧ wr.cell? ⟨w.heap.size, 1, none⟩ = some (.int .i64 d)) (fun _ v _ => n - (intOf v).toNat)
  case atStart => exact ⟨0, Nat.zero_le _, rfl, own_nil _ _, HW0.out, by simp, by simp [go_sem], by simp [go_sem]⟩
  case round =>
    obtain ⟨k, hk, rfl, ho, hb, hge, q1, q2⟩ := hrel
    have hsz := hb.size
    have v1 := cell_above q1
    have v2 := cell_above q2
    have hwl := whoTo_len ds (y, d) k
    by_cases hlt : k < n
    · obtain ⟨p1, p2⟩ := (hI.kept hb hbl) k (by rw [HL.out]; exact hlt)
      have hA : ∀ A : Obj, Own (w.heap.size + 1) (wr.alloc A) _ (whoTo ds (y, d) k) := fun A => World.ownsRow.alloc ho A
      have hbA : ∀ A : Obj, Below w.heap.size w (wr.alloc A) := fun A => hb.alloc hsz A
      by_cases hd : (at2 ds k).2 = d
      · by_cases hy : (at2 ds k).1 < y
        · have HE := Lib.hid (whoTo_yes (ds := ds) (o := (y, d)) (k := k) (by unfold isOf; simp only; rw [decide_eq_true hd, decide_eq_true hy]; rfl))
          rw [hd] at p2
          generalize (at2 ds k).1 = ye at p1 hy
          clear hd
          go_wp2_with (first | (at_builtin; refine wpList_append_own _ rfl _ _ 31 rfl (w.heap.size + 1) 3 i0 (.int .i64 0) 1 8 Try.underlying31 hi hz0 hz1 hz2 rfl (by decide) _ _ _ rfl (World.ownsRow.alloc (hA _) _) ⟨wr.heap.size + 1, 0, none⟩ 1 1 [.int .i64 (k : Int)] rfl rfl (newCellAt _ _ (by simp)) (oneInt _) ?c3 ?c4 ?c5 ?_))
          case c3 => unfold maxLen; omega
          case c4 => omega
          case c5 => simp; omega
          intro v' w1 hown' hgrow _
          have hq1 := cell_ownAbove (World.ownsRow.alloc (hA (.cells #[.int .i64 ye, .int .i64 d] 34)) (.cells #[.int .i64 (k : Int)] 3)) hgrow (Nat.lt_succ_self _) (cell_above (v1 _) _)
          have hq2 := cell_ownAbove (World.ownsRow.alloc (hA (.cells #[.int .i64 ye, .int .i64 d] 34)) (.cells #[.int .i64 (k : Int)] 3)) hgrow (Nat.lt_succ_self _) (cell_above (v2 _) _)
          have hb1 := below_push (hbA (.cells #[.int .i64 ye, .int .i64 d] 34)) ((hA (.cells #[.int .i64 ye, .int .i64 d] 34)).mono (Nat.le_succ _)) hgrow
          have hgs := hgrow.size
          have ho1 := own_push hown'
          rw [← HE.out] at ho1
          clear hown' hgrow
          go_wp2_with fail
          go_roundw
          case rel => exact ⟨k + 1, by omega, by go_num, ho1, hb1, by simp at hgs; omega, hq1, hq2⟩
          case measure => simp [intOf]; omega
        · have HE := Lib.hid (whoTo_no (ds := ds) (o := (y, d)) (k := k) (by unfold isOf; simp only; rw [decide_eq_false hy, Bool.and_false]))
          rw [hd] at p2
          generalize (at2 ds k).1 = ye at p1 hy
          clear hd
          go_wp2_with fail
          go_roundw
          case rel => exact ⟨k + 1, by omega, by go_num, by rw [HE.out]; exact hA _, hbA _, by simp; omega, v1 _, v2 _⟩
          case measure => simp [intOf]; omega
      · have HE := Lib.hid (whoTo_no (ds := ds) (o := (y, d)) (k := k) (by unfold isOf; simp only; rw [decide_eq_false hd, Bool.false_and]))
        generalize (at2 ds k).1 = ye at p1
        generalize (at2 ds k).2 = de at p2 hd
        go_wp2_with fail
        go_roundw
        case rel => exact ⟨k + 1, by omega, by go_num, by rw [HE.out]; exact hA _, hbA _, by simp; omega, v1 _, v2 _⟩
        case measure => simp [intOf]; omega
    · have hkn : k = n := by omega
      subst hkn
      have ho1 := ho.mono (Nat.le_succ _)
      go_wp2_with fail
      go_ret
      exact ⟨_, rfl, ho1, hb⟩
end Go.Proofs.Ytbhceokapbnhhaa
