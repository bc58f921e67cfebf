/- The birthday that is told, of the program. -/
import Derived.Test.YtbhceokapbnhhaaNx2
import Derived.ChangeKeysEq
set_option linter.unusedVariables false
set_option linter.unusedSimpArgs false
namespace Go.Proofs.Ytbhceokapbnhhaa
open Go.RowKit

set_option maxHeartbeats 2000000 in
theorem imBirthdayOf_any (y d a : Int) (w : World) (h1 : midI y) (h2 : midI a) : Calls Try.prog 57 #[.agg #[.int .i64 y, .int .i64 d], .int .i64 a] w (Ret (.agg #[.int .i64 (y + a), .int .i64 d]) w) := by
  unfold midI at h1 h2
  have k1 : IntKind.i64.wrap (y + a) = y + a := IntWalk.i64_in _ (by omega)
  clear h1 h2
  go_enter Try.func57, Try.ntmps57
  go_wp2_with fail
  refine bodyPost_ret (v := .agg #[.int .i64 (y + a), .int .i64 d]) (by simp [results, Try.results57, go_sem]) rfl ?_
  exact ⟨rfl, ((Below.refl w.heap.size w).alloc (Nat.le_refl _) _).alloc (by simp) _⟩
theorem eqDayIn (y d y2 d2 : Int) (w : World) : (Op.equalIn 10000 69 (.agg #[.int .i64 y, .int .i64 d]) (.agg #[.int .i64 y2, .int .i64 d2])).run Try.prog w = .ok (decide ((y, d) = (y2, d2))) w := by
  rw [run_equalIn_array w 9999 _ _ Try.underlying69 (i := _) rfl]
  have hc : Try.prog.cellsOf 3 = 1 := by kernel_rfl
  simp only [hc]
  by_cases h1 : y = y2
  · by_cases h2 : d = d2
    · simp [Op.eqItems, go_sem, List.range, List.range.loop, h1, h2]
    · simp [Op.eqItems, go_sem, List.range, List.range.loop, h1, h2]
  · simp [Op.eqItems, go_sem, List.range, List.range.loop, h1]

/-- A date, numbers of its own, and a bool, spelt out. -/
def RetDLV (p : Dt) (zs : List Int) (ok : Bool) (w : World) (e : Ending) (w' : World) : Prop :=
  ∃ v, e = .returned (.tuple #[.agg #[.int .i64 p.1, .int .i64 p.2], v, .bool ok]) ∧ Own w.heap.size w' v zs ∧ Below w.heap.size w w'
theorem frozen_ownAbove {B : Nat} {w w' : World} {v : Value} {zs : List Int} {b o j : Nat} {u : Value} (ho : Own B w v zs) (hg : w.grownBy w' v.ownBlock) (hne : b < B) (h : w.cell? ⟨b, o, none⟩ = some u) (hz : w.frozen? ⟨b, j, none⟩ = false) : w'.frozen? ⟨b, j, none⟩ = false := by
  have hb : Below (b + 1) w w' := by
    refine (Below.refl (b + 1) w).grown hg (by have := World.block_lt_of_cell? w _ h; simp at this; omega) ?_
    rcases ho.block with e | ⟨g, e, h1, _⟩
    · intro k hk; rw [e] at hk; cases hk
    · intro k hk; rw [e] at hk; cases hk; omega
  exact (hb.frozen (p := ⟨b, j, none⟩) (Nat.lt_succ_self _)).trans hz
theorem tell_yes {es : List Dt} {p : Dt} (h : dateB p = true) : tellL es p = whoEq es p es.length := by unfold tellL; rw [if_pos h]
theorem tell_no {es : List Dt} {p : Dt} (h : dateB p = false) : tellL es p = [] := by unfold tellL; rw [h]; rfl
set_option maxHeartbeats 8000000 in
set_option maxRecDepth 100000 in
theorem tell_any (b off n c : Nat) (es : List Dt) (y d : Int) (w : World) (hl : es.length = n) (hn : n ≤ 1048576) (hI : Dts w b off es) (hbl : b < w.heap.size) :
    Calls Try.prog 58 #[.agg #[.int .i64 y, .int .i64 d], .slice (some ⟨b, off, none⟩) n c] w (RetDLV (dateOf (y, d)) (tellL es (y, d)) (dateB (y, d)) w) := by
  obtain ⟨i0, hi, hz0, hz1, hz2⟩ := info_parts infoInt
  have HW0 := Lib.hid (((Below.refl w.heap.size w).alloc (Nat.le_refl _) (.cells #[.int .i64 y, .int .i64 d] 69)).alloc (by simp) (.cells #[.int .i64 0, .int .i64 0] 34))
  have HA0 := fun w => imDate_any y d w
  have HL := Lib.hid hl
  cases h : dateB (y, d) with
  | false =>
    rw [h] at HA0
    rw [dateOf_no h, tell_no h]
    rw [dateOf_no h] at HA0
    have HA := Lib.hid HA0
    clear HA0 h hl
    go_enter Try.func58, Try.ntmps58
    go_wp2_with (first | (go_at_call 77; refine (HA.out _).mono ?_; rintro e w' ⟨rfl, hcall⟩; have hbw : Below w.heap.size w w' := (by first | exact Below.trans (by assumption) (Below.mono hcall (Below.size (by assumption))) | exact Below.trans (Below.drew (by assumption)) (Below.mono hcall (Below.size (Below.drew (by assumption)))) | exact HW0.out.trans (hcall.mono (by simp <;> omega)) | exact HW0.out.drew.trans (hcall.mono (by simp <;> omega))); have q1 : w'.cell? ⟨w.heap.size, 0, none⟩ = some (.int .i64 y) := below_cell2 hcall (by first | assumption | (simp; done) | (simp [go_sem]; done) | simp [*]); have q2 : w'.cell? ⟨w.heap.size, 1, none⟩ = some (.int .i64 d) := below_cell2 hcall (by first | assumption | (simp; done) | (simp [go_sem]; done) | simp [*]); have r0 : w'.cell? ⟨w.heap.size + 1, 0, none⟩ = some (.int .i64 0) := below_cell2 hcall (by first | assumption | (simp; done) | (simp [go_sem]; done) | simp [*]); have r1 : w'.cell? ⟨w.heap.size + 1, 1, none⟩ = some (.int .i64 0) := below_cell2 hcall (by first | assumption | (simp; done) | (simp [go_sem]; done) | simp [*]); have z0 : w'.frozen? ⟨w.heap.size + 1, 0, none⟩ = false := (hcall.frozen (p := ⟨w.heap.size + 1, 0, none⟩) (by first | (simp; done) | exact World.block_lt_of_cell? _ ⟨w.heap.size + 1, 0, none⟩ (by assumption))).trans (by first | (simp; done) | assumption | (simp [go_sem]; done) | (simp [*]; done)); have z1 : w'.frozen? ⟨w.heap.size + 1, 1, none⟩ = false := (hcall.frozen (p := ⟨w.heap.size + 1, 1, none⟩) (by first | (simp; done) | exact World.block_lt_of_cell? _ ⟨w.heap.size + 1, 0, none⟩ (by assumption))).trans (by first | (simp; done) | assumption | (simp [go_sem]; done) | (simp [*]; done)); clear hcall; have y0 := frozen_above r0 z0; have y1 := frozen_above r1 z1; have t0 := cell_above r0; have t1 := cell_above r1))
    obtain ⟨s0, s1⟩ := two_cells (cell_above r0 (.cells #[.int .i64 0, .int .i64 0] 34)) (cell_above r1 (.cells #[.int .i64 0, .int .i64 0] 34))
    refine bodyPost_ret (v := .tuple #[.agg #[.int .i64 0, .int .i64 0], .slice none 0 0, .bool false]) (by simp [results, Try.results58, go_sem, s0, s1]) rfl ?_
    exact ⟨_, rfl, own_nil _ _, ((hbw.alloc (Below.size hbw) _).setCell (by simp <;> omega) _).setCell (by simp <;> omega) _⟩
  | true =>
    rw [h] at HA0
    rw [dateOf_yes h, tell_yes h, hl]
    rw [dateOf_yes h] at HA0
    have HA := Lib.hid HA0
    clear HA0 h hl
    go_enter Try.func58, Try.ntmps58
    go_wp2_with (first | (go_at_call 77; refine (HA.out _).mono ?_; rintro e w' ⟨rfl, hcall⟩; have hbw : Below w.heap.size w w' := (by first | exact Below.trans (by assumption) (Below.mono hcall (Below.size (by assumption))) | exact Below.trans (Below.drew (by assumption)) (Below.mono hcall (Below.size (Below.drew (by assumption)))) | exact HW0.out.trans (hcall.mono (by simp <;> omega)) | exact HW0.out.drew.trans (hcall.mono (by simp <;> omega))); have q1 : w'.cell? ⟨w.heap.size, 0, none⟩ = some (.int .i64 y) := below_cell2 hcall (by first | assumption | (simp; done) | (simp [go_sem]; done) | simp [*]); have q2 : w'.cell? ⟨w.heap.size, 1, none⟩ = some (.int .i64 d) := below_cell2 hcall (by first | assumption | (simp; done) | (simp [go_sem]; done) | simp [*]); have r0 : w'.cell? ⟨w.heap.size + 1, 0, none⟩ = some (.int .i64 0) := below_cell2 hcall (by first | assumption | (simp; done) | (simp [go_sem]; done) | simp [*]); have r1 : w'.cell? ⟨w.heap.size + 1, 1, none⟩ = some (.int .i64 0) := below_cell2 hcall (by first | assumption | (simp; done) | (simp [go_sem]; done) | simp [*]); have z0 : w'.frozen? ⟨w.heap.size + 1, 0, none⟩ = false := (hcall.frozen (p := ⟨w.heap.size + 1, 0, none⟩) (by first | (simp; done) | exact World.block_lt_of_cell? _ ⟨w.heap.size + 1, 0, none⟩ (by assumption))).trans (by first | (simp; done) | assumption | (simp [go_sem]; done) | (simp [*]; done)); have z1 : w'.frozen? ⟨w.heap.size + 1, 1, none⟩ = false := (hcall.frozen (p := ⟨w.heap.size + 1, 1, none⟩) (by first | (simp; done) | exact World.block_lt_of_cell? _ ⟨w.heap.size + 1, 0, none⟩ (by assumption))).trans (by first | (simp; done) | assumption | (simp [go_sem]; done) | (simp [*]; done)); clear hcall; have y0 := frozen_above r0 z0; have y1 := frozen_above r1 z1; have t0 := cell_above r0; have t1 := cell_above r1))
    go_loopw [9, 22] (fun s v wr => ∃ k : Nat, k ≤ n ∧ v = .int .i64 k ∧ Own (w'.heap.size + 1) wr s (whoEq es (y, d) k) ∧ Below w.heap.size w wr ∧ w'.heap.size + 1 ≤ wr.heap.size ∧ wr.cell? ⟨w.heap.size, 0, none⟩ = some (.int .i64 y) ∧ wr.cell? ⟨w.heap.size, 1, none⟩ = some (.int .i64 d) ∧ wr.cell? ⟨w.heap.size + 1, 0, none⟩ = some (.int .i64 0) ∧ wr.cell? ⟨w.heap.size + 1, 1, none⟩ = some (.int .i64 0) ∧ wr.cell? ⟨w'.heap.size, 0, none⟩ = some (.int .i64 y) ∧ wr.cell? ⟨w'.heap.size, 1, none⟩ = some (.int .i64 d) ∧ wr.frozen? ⟨w.heap.size + 1, 0, none⟩ = false ∧ wr.frozen? ⟨w.heap.size + 1, 1, none⟩ = false) (fun _ v _ => n - (intOf v).toNat)
    case atStart => exact ⟨0, Nat.zero_le _, rfl, own_nil _ _, hbw.alloc (Below.size hbw) _, by simp, by first | exact cell_above q1 _ | simp [go_sem, *], by first | exact cell_above q2 _ | simp [go_sem, *], by first | exact cell_above r0 _ | simp [go_sem, *], by first | exact cell_above r1 _ | simp [go_sem, *], by simp [go_sem], by simp [go_sem], by first | exact frozen_above r0 z0 _ | simp [go_sem, *], by first | exact frozen_above r1 z1 _ | simp [go_sem, *]⟩
    case round =>
      have hw1 : w.heap.size + 1 < w'.heap.size := World.block_lt_of_cell? _ _ r0
      clear q1 q2 r0 r1 z0 z1 y0 y1 t0 t1
      generalize w'.heap.size = g at hrel hw1 ⊢
      obtain ⟨k, hk, rfl, ho, hb, hge, q1, q2, r0, r1, x0, x1, z0, z1⟩ := hrel
      have hsz := hb.size
      have v1 := cell_above q1
      have v2 := cell_above q2
      have hwl := whoEq_len es (y, d) k
      by_cases hlt : k < n
      · obtain ⟨p1, p2⟩ := (hI.kept hb hbl) k (by rw [HL.out]; exact hlt)
        have hA : ∀ A : Obj, Own (g + 1) (wr.alloc A) _ (whoEq es (y, d) k) := fun A => World.ownsRow.alloc ho A
        have hbA : ∀ A : Obj, Below w.heap.size w (wr.alloc A) := fun A => hb.alloc hsz A
        by_cases he : at2 es k = (y, d)
        · have HE := Lib.hid (whoEq_yes he)
          rw [he] at p1 p2
          simp only at p1 p2
          have HQ : ∀ W, (Op.equalIn 10000 69 (.agg #[.int .i64 y, .int .i64 d]) (.agg #[.int .i64 y, .int .i64 d])).run Try.prog W = .ok true W := fun W => (eqDayIn y d y d W).trans (by rw [decide_eq_true rfl])
          clear he
          go_wp2_with (first | (at_builtin; refine wpList_append_own _ rfl _ _ 31 rfl (g + 1) 3 i0 (.int .i64 0) 1 8 Try.underlying31 hi hz0 hz1 hz2 rfl (by decide) _ _ _ rfl (World.ownsRow.alloc (hA _) _) ⟨wr.heap.size + 1, 0, none⟩ 1 1 [.int .i64 (k : Int)] rfl rfl (newCellAt _ _ (by simp)) (oneInt _) ?c3 ?c4 ?c5 ?_))
          case c3 => unfold maxLen; omega
          case c4 => omega
          case c5 => simp; omega
          intro v' w1 hown' hgrow _
          have hOA := World.ownsRow.alloc (hA (.cells #[.int .i64 y, .int .i64 d] 69)) (.cells #[.int .i64 (k : Int)] 3)
          have hq1 := cell_ownAbove hOA hgrow (by omega) (cell_above (v1 _) _)
          have hq2 := cell_ownAbove hOA hgrow (by omega) (cell_above (v2 _) _)
          have hr0 := cell_ownAbove hOA hgrow (by omega) (cell_above (cell_above r0 _) _)
          have hr1 := cell_ownAbove hOA hgrow (by omega) (cell_above (cell_above r1 _) _)
          have hx0 := cell_ownAbove hOA hgrow (by omega) (cell_above (cell_above x0 _) _)
          have hx1 := cell_ownAbove hOA hgrow (by omega) (cell_above (cell_above x1 _) _)
          have hz0' := frozen_ownAbove hOA hgrow (by omega) (cell_above (cell_above r0 (.cells #[.int .i64 y, .int .i64 d] 69)) (.cells #[.int .i64 (k : Int)] 3)) (frozen_above (cell_above r0 _) (frozen_above r0 z0 _) _)
          have hz1' := frozen_ownAbove hOA hgrow (by omega) (cell_above (cell_above r1 (.cells #[.int .i64 y, .int .i64 d] 69)) (.cells #[.int .i64 (k : Int)] 3)) (frozen_above (cell_above r1 _) (frozen_above r1 z1 _) _)
          have hb1 := below_push (hbA (.cells #[.int .i64 y, .int .i64 d] 69)) ((hA (.cells #[.int .i64 y, .int .i64 d] 69)).mono (by omega)) hgrow
          have hgs := hgrow.size
          have ho1 := own_push hown'
          rw [← HE.out] at ho1
          clear hown' hgrow
          go_wp2_with fail
          go_roundw
          case rel => exact ⟨k + 1, by omega, by go_num, ho1, hb1, by simp at hgs; omega, hq1, hq2, hr0, hr1, hx0, hx1, hz0', hz1'⟩
          case measure => simp [intOf]; omega
        · have HE := Lib.hid (whoEq_no he)
          have HQ0 : ∀ W, (Op.equalIn 10000 69 (.agg #[.int .i64 (at2 es k).1, .int .i64 (at2 es k).2]) (.agg #[.int .i64 y, .int .i64 d])).run Try.prog W = .ok false W := fun W => (eqDayIn (at2 es k).1 (at2 es k).2 y d W).trans (by rw [decide_eq_false he])
          clear he
          revert HQ0
          generalize (at2 es k).1 = ye at p1 ⊢
          generalize (at2 es k).2 = de at p2 ⊢
          intro HQ
          go_wp2_with fail
          go_roundw
          case rel => exact ⟨k + 1, by omega, by go_num, by rw [HE.out]; exact hA _, hbA _, by simp; omega, v1 _, v2 _, cell_above r0 _, cell_above r1 _, cell_above x0 _, cell_above x1 _, frozen_above r0 z0 _, frozen_above r1 z1 _⟩
          case measure => simp [intOf]; omega
      · have hkn : k = n := by omega
        subst hkn
        have ho1 := ho.mono (show w.heap.size ≤ g + 1 by omega)
        have ho2 := ho.mono (show w.heap.size + 2 ≤ g + 1 by omega)
        obtain ⟨pp, cc, rfl⟩ := own_slice ho
        go_wp2_with fail
        obtain ⟨s0, s1⟩ := two_cells r0 r1
        refine bodyPost_ret (v := .tuple #[.agg #[.int .i64 y, .int .i64 d], .slice pp (whoEq es (y, d) k).length cc, .bool true]) (by simp [results, Try.results58, go_sem, s0, s1]) rfl ?_
        exact ⟨_, rfl, (own_under2 ho2 (by omega)).mono (by omega), (hb.setCell (by simp <;> omega) _).setCell (by simp <;> omega) _⟩

end Go.Proofs.Ytbhceokapbnhhaa
