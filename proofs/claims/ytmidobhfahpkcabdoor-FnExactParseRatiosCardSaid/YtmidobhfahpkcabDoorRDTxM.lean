/- The text of births, of the model. -/
import Derived.Test.YtmidobhfahpkcabDoorRNumT
import Derived.Test.YtmidobhfahpkcabDoorCh
set_option linter.unusedVariables false
set_option linter.unusedSimpArgs false
namespace Go.Proofs.YtmidobhfahpkcabDoor
open Go.RowKit

/-- The text of the first k births. -/
def txt (ds : List Dt) (k : Nat) : ByteArray := text (ds.take k)
theorem txt_zero (ds : List Dt) : txt ds 0 = ByteArray.empty := rfl
theorem take_one_more {ds : List Dt} {k : Nat} (h : k < ds.length) : ds.take (k + 1) = ds.take k ++ [at2 ds k] := by
  rw [List.take_succ_eq_append_getElem h]
  simp [at2, List.getElem?_eq_getElem h]
theorem txt_first {ds : List Dt} {k : Nat} (h : k < ds.length) (h0 : k = 0) : txt ds (k + 1) = txt ds k ++ ((decB (at2 ds k).1 ++ dotB) ++ decB (at2 ds k).2) := by
  subst h0
  unfold txt
  rw [take_one_more h]
  simp only [List.take_zero, List.nil_append]
  rw [text_one, text_nil, wordB_eq]
  simp
theorem txt_more {ds : List Dt} {k : Nat} (h : k < ds.length) (h0 : 0 < k) : txt ds (k + 1) = (txt ds k ++ commaB) ++ ((decB (at2 ds k).1 ++ dotB) ++ decB (at2 ds k).2) := by
  unfold txt
  rw [take_one_more h, text_snoc, wordB_eq]
  intro e
  have : (ds.take k).length = 0 := by rw [e]; rfl
  rw [List.length_take] at this
  omega
theorem births_take {ds : List Dt} (h : chB ds = true) (k : Nat) (h0 : 0 < k) : chB (ds.take k) = true := by
  have h8 := chB_len h
  have hm := births_mem h
  unfold chB
  rw [Bool.and_eq_true, List.all_eq_true]
  refine ⟨inB_true ?_ ?_, fun p hp => hm p (List.mem_of_mem_take hp)⟩
  · rw [List.length_take]; omega
  · rw [List.length_take]; omega
theorem txt_size {ds : List Dt} (h : chB ds = true) (k : Nat) : (txt ds k).size ≤ 47 := by
  rcases Nat.eq_zero_or_pos k with rfl | h0
  · show (0 : Nat) ≤ 47
    omega
  · exact (text_le71 (births_take h k h0)).1
theorem big_not {a b : ByteArray} (h : a.size + b.size ≤ 1000) : ¬ 9223372036854775807 < a.size + b.size := by omega
/-- The sizes that the sums of texts have. -/
theorem sums_flat {t s1 s2 : ByteArray} (ht : t.size ≤ 47) (h1 : s1.size ≤ 20) (h2 : s2.size ≤ 20) :
    ¬ 9223372036854775807 < s1.size + 1 ∧ ¬ 9223372036854775807 < s1.size + 1 + s2.size ∧ ¬ 9223372036854775807 < t.size + (s1.size + 1 + s2.size) ∧ ¬ 9223372036854775807 < t.size + 1 ∧ ¬ 9223372036854775807 < t.size + 1 + (s1.size + 1 + s2.size) := by omega
theorem sums_ok {t s1 s2 : ByteArray} (ht : t.size ≤ 47) (h1 : s1.size ≤ 20) (h2 : s2.size ≤ 20) :
    ¬ 9223372036854775807 < s1.size + ({ data := #[58] } : ByteArray).size ∧ ¬ 9223372036854775807 < (s1 ++ { data := #[58] }).size + s2.size ∧
    ¬ 9223372036854775807 < t.size + ((s1 ++ { data := #[58] }) ++ s2).size ∧ ¬ 9223372036854775807 < t.size + ({ data := #[44] } : ByteArray).size ∧
    ¬ 9223372036854775807 < (t ++ { data := #[44] }).size + ((s1 ++ { data := #[58] }) ++ s2).size := by
  have e1 : ({ data := #[58] } : ByteArray).size = 1 := rfl
  have e2 : ({ data := #[44] } : ByteArray).size = 1 := rfl
  refine ⟨big_not ?_, big_not ?_, big_not ?_, big_not ?_, big_not ?_⟩ <;> (try simp only [ByteArray.size_append]) <;> omega

set_option maxHeartbeats 4000000 in
set_option maxRecDepth 100000 in
theorem biText_any (b off n c : Nat) (ds : List Dt) (w : World) (hl : ds.length = n) (hI : Dts w b off ds) (hbl : b < w.heap.size) (hg : chB ds = true) :
    Calls Tryd.prog 15 #[.slice (some ⟨b, off, none⟩) n c] w (RetS (text ds) w) := by
  have h8 := chB_len hg
  rw [hl] at h8
  have HT0 := Lib.hid (txt_size hg)
  have HY := Lib.hid (fun (k : Nat) (hk : k < n) => ratB_iff.1 (chB_at hg k (by omega)))
  have HF0 := Lib.hid (fun (k : Nat) (hk : k < n) => txt_first (ds := ds) (k := k) (by omega))
  have HM0 := Lib.hid (fun (k : Nat) (hk : k < n) => txt_more (ds := ds) (k := k) (by omega))
  have HL := Lib.hid hl
  have HX := Lib.hid (show txt ds n = text ds by unfold txt; rw [List.take_of_length_le (by omega)])
  clear hl hg
  go_enter Tryd.func15, Tryd.ntmps15
  go_wp2_with fail
  go_loopw [3, 8] (fun u v wr => ∃ k : Nat, k ≤ n ∧ v = .int .i64 (k : Int) ∧ u = .string (txt ds k) ∧ Below w.heap.size w wr) (fun _ v _ => n - (intOf v).toNat)
  case atStart => exact ⟨0, Nat.zero_le _, rfl, rfl, Below.refl _ _⟩
  case round =>
    obtain ⟨k, hk, rfl, rfl, hb⟩ := hrel
    have hsz := hb.size
    by_cases hlt : k < n
    · obtain ⟨p1, p2⟩ := (hI.kept hb hbl) k (by rw [HL.out]; exact hlt)
      have hy := HY.out k hlt
      have HK1 := Lib.hid (fun W => num_year (at2 ds k).1 (Int.le_trans (by decide) hy.1.1) (Int.le_trans hy.1.2 (by decide)) W)
      have HK2 := Lib.hid (fun W => num_year (at2 ds k).2 (by omega) (by omega) W)
      have hs1 := decB_size (Int.le_trans (by decide) hy.1.1) (Int.le_trans hy.1.2 (by decide))
      have hs2 := decB_size (z := (at2 ds k).2) (by omega) (by omega)
      have HF := Lib.hid (HF0.out k hlt)
      have HM := Lib.hid (HM0.out k hlt)
      have hq := sums_ok (HT0.out k) hs1 hs2
      obtain ⟨c1, c2, c3, c4, c5⟩ := hq
      have hq := sums_flat (HT0.out k) hs1 hs2
      obtain ⟨f1, f2, f3, f4, f5⟩ := hq
      clear hy hs1 hs2
      generalize decB (at2 ds k).1 = s1 at HK1 HF HM c1 c2 c3 c5 f1 f2 f3 f5
      generalize decB (at2 ds k).2 = s2 at HK2 HF HM c2 c3 c5 f2 f3 f5
      generalize (at2 ds k).1 = ye at p1 HK1
      generalize (at2 ds k).2 = de at p2 HK2
      obtain ⟨t', ht'⟩ : ∃ t', txt ds (k + 1) = t' := ⟨_, rfl⟩
      rw [ht'] at HF HM
      have HTN := Lib.hid ht'
      clear ht'
      generalize txt ds k = t at HF HM c3 c4 c5 f3 f4 f5 ⊢
      have hbx := hb.alloc hsz (.cells #[.int .i64 ye, .int .i64 de] 37)
      have x1 : (wr.alloc (.cells #[.int .i64 ye, .int .i64 de] 37)).cell? ⟨wr.heap.size, 0, none⟩ = some (.int .i64 ye) := by simp [go_sem]
      have x2 : (wr.alloc (.cells #[.int .i64 ye, .int .i64 de] 37)).cell? ⟨wr.heap.size, 1, none⟩ = some (.int .i64 de) := by simp [go_sem]
      rcases Nat.eq_zero_or_pos k with h0 | h0
      · have HE := Lib.hid (HF.out h0)
        have hd0 : ¬ (0 : Int) < (k : Int) := by omega
        clear HF HM h0 c4 c5 f4 f5
        go_wp2_with fail
        generalize wr.alloc (.cells #[.int .i64 ye, .int .i64 de] 37) = wq at hbx x1 x2 ⊢
        generalize wr.heap.size = g at x1 x2 ⊢
        go_region_held3 (fun w' => Below w.heap.size w w' ∧ w'.cell? ⟨g, 0, none⟩ = some (.int .i64 ye) ∧ w'.cell? ⟨g, 1, none⟩ = some (.int .i64 de))
          (first
            | exact ⟨hbx.drew, x1, x2⟩
            | (exact ⟨Below.drew (by assumption), by first | assumption | simp [*], by first | assumption | simp [*]⟩)
            | (go_split_ands
               refine ⟨?_, ?_, ?_⟩
               · exact Below.trans (by assumption) (Below.mono hcall (Below.size (by assumption)))
               · exact below_cell2 hcall (by assumption)
               · exact below_cell2 hcall (by assumption)))
          (first | (go_at_call_of 26 (Value.int IntKind.i64 ye); refine (HK1.out _).mono ?_; rintro e w' ⟨rfl, hcall⟩) | (go_at_call_of 26 (Value.int IntKind.i64 de); refine (HK2.out _).mono ?_; rintro e w' ⟨rfl, hcall⟩))
        all_goals
          obtain ⟨hbw, -⟩ := ‹Below w.heap.size w _ ∧ _›
          go_wp2_with fail
          go_roundw
          case rel => exact ⟨k + 1, by omega, by go_num, by rw [HTN.out, HE.out]; rfl, hbw⟩
          case measure => simp [intOf]; omega
      · have HE := Lib.hid (HM.out h0)
        have hd0 : (0 : Int) < (k : Int) := by omega
        clear HF HM h0
        go_wp2_with fail
        generalize wr.alloc (.cells #[.int .i64 ye, .int .i64 de] 37) = wq at hbx x1 x2 ⊢
        generalize wr.heap.size = g at x1 x2 ⊢
        go_region_held3 (fun w' => Below w.heap.size w w' ∧ w'.cell? ⟨g, 0, none⟩ = some (.int .i64 ye) ∧ w'.cell? ⟨g, 1, none⟩ = some (.int .i64 de))
          (first
            | exact ⟨hbx.drew, x1, x2⟩
            | (exact ⟨Below.drew (by assumption), by first | assumption | simp [*], by first | assumption | simp [*]⟩)
            | (go_split_ands
               refine ⟨?_, ?_, ?_⟩
               · exact Below.trans (by assumption) (Below.mono hcall (Below.size (by assumption)))
               · exact below_cell2 hcall (by assumption)
               · exact below_cell2 hcall (by assumption)))
          (first | (go_at_call_of 26 (Value.int IntKind.i64 ye); refine (HK1.out _).mono ?_; rintro e w' ⟨rfl, hcall⟩) | (go_at_call_of 26 (Value.int IntKind.i64 de); refine (HK2.out _).mono ?_; rintro e w' ⟨rfl, hcall⟩))
        all_goals
          obtain ⟨hbw, -⟩ := ‹Below w.heap.size w _ ∧ _›
          go_wp2_with fail
          go_roundw
          case rel => exact ⟨k + 1, by omega, by go_num, by rw [HTN.out, HE.out]; rfl, hbw⟩
          case measure => simp [intOf]; omega
    · have hkn : k = n := by omega
      subst hkn
      go_wp2_with fail
      go_ret
      exact ⟨by rw [HX.out]; rfl, hb⟩

def textOr (ds : List Dt) : ByteArray := if chB ds = true then text ds else ByteArray.empty
set_option maxHeartbeats 1000000 in
theorem specBirthsText_any (b off n c : Nat) (ds : List Dt) (w : World) (hl : ds.length = n) (hI : Dts w b off ds) (hbl : b < w.heap.size) :
    Calls Tryd.prog 6 #[.slice (some ⟨b, off, none⟩) n c] w (RetSB (textOr ds) (chB ds) w) := by
  have hA := fun w (h : Dts w b off ds) (h2 : b < w.heap.size) => raChain_any b off n c ds w hl h h2
  cases hg : chB ds with
  | false =>
    rw [show textOr ds = ByteArray.empty by unfold textOr; rw [hg]; rfl]
    rw [hg] at hA
    clear hg
    go_enter Tryd.func6, Tryd.ntmps6
    go_wp2_with (go_at_call 14; refine (hA _ hI hbl).mono ?_; rintro e w' ⟨rfl, hcall⟩)
    go_ret2
    exact ⟨rfl, hcall⟩
  | true =>
    rw [show textOr ds = text ds by unfold textOr; rw [hg]; rfl]
    have HG := Lib.hid hg
    rw [hg] at hA
    clear hg
    go_enter Tryd.func6, Tryd.ntmps6
    go_wp2_with (first | (go_at_call 14; refine (hA _ hI hbl).mono ?_; rintro e w1 ⟨rfl, hcall⟩) | (go_at_call 15; refine (biText_any b off n c ds _ hl (hI.kept hcall hbl) (Nat.lt_of_lt_of_le hbl hcall.size) HG.out).mono ?_; rintro e w' ⟨rfl, hcall2⟩))
    go_ret2
    exact ⟨rfl, hcall.trans (hcall2.mono hcall.size)⟩
end Go.Proofs.YtmidobhfahpkcabDoor
