/- The ages of all, of the model. -/
import Derived.Test.YtbhceokapbnhhaaBi9
set_option linter.unusedVariables false
set_option linter.unusedSimpArgs false
namespace Go.Proofs.Ytbhceokapbnhhaa
open Go.RowKit

/-- The ages of the first k. -/
def agesTo (ds : List Dt) (o : Dt) (k : Nat) : List Int := (ds.take k).map fun b => ageD b o
theorem agesTo_zero (ds : List Dt) (o : Dt) : agesTo ds o 0 = [] := rfl
theorem agesTo_succ (ds : List Dt) (o : Dt) (k : Nat) (hk : k < ds.length) : agesTo ds o (k + 1) = agesTo ds o k ++ [ageD (at2 ds k) o] := by
  unfold agesTo
  rw [List.take_succ_eq_append_getElem hk, List.map_append]
  simp [at2, List.getElem?_eq_getElem hk]
theorem agesTo_len (ds : List Dt) (o : Dt) (k : Nat) : (agesTo ds o k).length ≤ ds.length := by simp [agesTo]; omega
def agesOnR (ds : List Dt) (o : Dt) : List Int := if allBorn ds o = true then agesTo ds o ds.length else []
theorem agesOnR_len (ds : List Dt) (o : Dt) : (agesOnR ds o).length ≤ 8 := by
  unfold agesOnR
  split
  · have := agesTo_len ds o ds.length
    have := birthsB_len (allBorn_parts ‹_›).1
    omega
  · exact Nat.zero_le _
set_option maxHeartbeats 4000000 in
set_option maxRecDepth 100000 in
theorem specAgesOn_any (b off n c : Nat) (ds : List Dt) (y d : Int) (w : World) (hl : ds.length = n) (hI : Dts w b off ds) (hbl : b < w.heap.size) :
    Calls Try.prog 18 #[.slice (some ⟨b, off, none⟩) n c, .agg #[.int .i64 y, .int .i64 d]] w (RetOwnB (agesOnR ds (y, d)) (allBorn ds (y, d)) w) := by
  obtain ⟨i0, hi, hz0, hz1, hz2⟩ := info_parts infoInt
  have HW0 := Lib.hid ((Below.refl w.heap.size w).alloc (Nat.le_refl _) (.cells #[.int .i64 y, .int .i64 d] 34))
  have HB0 := fun (W : World) (h : Dts W b off ds) (h2 : b < W.heap.size) => biAll_any b off n c ds y d W hl h h2
  have hI1 : ∀ A, Dts (w.alloc A) b off ds := fun A => hI.kept ((Below.refl w.heap.size w).alloc (Nat.le_refl _) A) hbl
  have hbl1 : ∀ A, b < (w.alloc A).heap.size := fun A => by simp <;> omega
  have HL := Lib.hid hl
  cases h : allBorn ds (y, d) with
  | false =>
    rw [h] at HB0
    rw [show agesOnR ds (y, d) = [] by unfold agesOnR; rw [h]; rfl]
    have HB := Lib.hid HB0
    clear HB0 h hl
    go_enter Try.func18, Try.ntmps18
    go_wp2_with (first | (go_at_call 48; refine (HB.out _ (hI1 _) (hbl1 _)).mono ?_; rintro e w' ⟨rfl, hcall⟩; have hbw : Below w.heap.size w w' := (by first | exact Below.trans (by assumption) (Below.mono hcall (Below.size (by assumption))) | exact Below.trans (Below.drew (by assumption)) (Below.mono hcall (Below.size (Below.drew (by assumption)))) | exact HW0.out.trans (hcall.mono (by simp <;> omega)) | exact HW0.out.drew.trans (hcall.mono (by simp <;> omega))); have q1 : w'.cell? ⟨w.heap.size, 0, none⟩ = some (.int .i64 y) := below_cell2 hcall (by first | assumption | (simp; done) | (simp [go_sem]; done) | simp [*]); have q2 : w'.cell? ⟨w.heap.size, 1, none⟩ = some (.int .i64 d) := below_cell2 hcall (by first | assumption | (simp; done) | (simp [go_sem]; done) | simp [*]); clear hcall))
    go_ret2
    exact ⟨_, rfl, own_nil _ _, hbw⟩
  | true =>
    have hp := allBorn_parts h
    have hd := allBorn_date h
    have h8 := birthsB_len hp.1
    rw [hl] at h8
    have HK0 := Lib.hid (fun (j : Nat) (hj : j < n) (W : World) => biAge_any (at2 ds j).1 (at2 ds j).2 y d W (birthsB_at hp.1 j (by omega)) hd)
    have HRL := Lib.hid (agesTo_len ds (y, d))
    rw [h] at HB0
    rw [show agesOnR ds (y, d) = agesTo ds (y, d) n by unfold agesOnR; rw [h, hl]; rfl]
    have HB := Lib.hid HB0
    clear HB0 h hl hp hd
    go_enter Try.func18, Try.ntmps18
    go_wp2_with (first | (go_at_call 48; refine (HB.out _ (hI1 _) (hbl1 _)).mono ?_; rintro e w3 ⟨rfl, hcall⟩; have hbw : Below w.heap.size w w3 := (by first | exact Below.trans (by assumption) (Below.mono hcall (Below.size (by assumption))) | exact Below.trans (Below.drew (by assumption)) (Below.mono hcall (Below.size (Below.drew (by assumption)))) | exact HW0.out.trans (hcall.mono (by simp <;> omega)) | exact HW0.out.drew.trans (hcall.mono (by simp <;> omega))); have q1 : w3.cell? ⟨w.heap.size, 0, none⟩ = some (.int .i64 y) := below_cell2 hcall (by first | assumption | (simp; done) | (simp [go_sem]; done) | simp [*]); have q2 : w3.cell? ⟨w.heap.size, 1, none⟩ = some (.int .i64 d) := below_cell2 hcall (by first | assumption | (simp; done) | (simp [go_sem]; done) | simp [*]); clear hcall))
    have hlt3 : w.heap.size < w3.heap.size := World.block_lt_of_cell? _ _ q1
    have hI3 := hI.kept hbw hbl
    have hbl3 : b < w3.heap.size := by omega
    go_loopw [6, 15] (fun s v wr => ∃ k : Nat, k ≤ n ∧ v = .int .i64 k ∧ Own w3.heap.size wr s (agesTo ds (y, d) k) ∧ Below w3.heap.size w3 wr) (fun _ v _ => n - (intOf v).toNat)
    case atStart => exact ⟨0, Nat.zero_le _, rfl, own_nil _ _, Below.refl _ _⟩
    case round =>
      obtain ⟨k, hk, rfl, ho, hb⟩ := hrel
      have hsz := hb.size
      have u1 := below_cell2 hb q1
      have u2 := below_cell2 hb q2
      have v1 := cell_above u1
      have v2 := cell_above u2
      by_cases hlt : k < n
      · obtain ⟨p1, p2⟩ := (hI3.kept hb hbl3) k (by rw [HL.out]; exact hlt)
        have hrl := HRL.out k
        rw [HL.out] at hrl
        have HE := Lib.hid (agesTo_succ ds (y, d) k (by rw [HL.out]; exact hlt))
        have HK' := Lib.hid (HK0.out k hlt)
        rw [← pair_eta ds k] at HK'
        generalize ageD (at2 ds k) (y, d) = a at HK' HE
        generalize (at2 ds k).1 = ye at p1 HK'
        generalize (at2 ds k).2 = de at p2 HK'
        go_wp2_with (first | (go_at_call 49; refine (HK'.out _).mono ?_; rintro e w2 ⟨rfl, hcall⟩; have hb2 := ((Below.refl wr.heap.size wr).alloc (Nat.le_refl _) _).trans (hcall.mono (by simp)); have ho2 := ho.kept hb2; have hb3 := hb.trans (hb2.mono hsz); have hsz2 := hb2.size; clear hcall) | (at_builtin; refine wpList_append_own _ rfl _ _ 31 rfl w3.heap.size 3 i0 (.int .i64 0) 1 8 Try.underlying31 hi hz0 hz1 hz2 rfl (by decide) _ _ _ rfl (World.ownsRow.alloc ho2 _) ⟨w2.heap.size, 0, none⟩ 1 1 [.int .i64 a] rfl rfl (newCell _ _ _) (oneInt _) ?c3 ?c4 ?c5 ?_))
        case c3 => unfold maxLen; omega
        case c4 => omega
        case c5 => simp; omega
        intro v' w1 hown' hgrow _
        have hb1 := below_push hb3 ho2 hgrow
        have ho1 := own_push hown'
        rw [← HE.out] at ho1
        clear hown' hgrow
        go_wp2_with fail
        go_roundw
        case rel => exact ⟨k + 1, by omega, by go_num, ho1, hb1⟩
        case measure => simp [intOf]; omega
      · have hkn : k = n := by omega
        subst hkn
        have hbb := hbw.trans (hb.mono (Nat.le_of_lt hlt3))
        have ho1 := ho.mono (Nat.le_of_lt hlt3)
        go_wp2_with fail
        go_ret2
        exact ⟨_, rfl, ho1, hbb⟩
end Go.Proofs.Ytbhceokapbnhhaa

