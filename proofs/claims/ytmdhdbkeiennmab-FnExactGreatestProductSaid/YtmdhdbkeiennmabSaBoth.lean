/- SetsApart and CountBySum: both texts. -/
import Derived.Test.YtmdhdbkeiennmabSa2
import Derived.Test.YtmdhdbkeiennmabBs2
set_option linter.unusedVariables false
set_option linter.unusedSimpArgs false
namespace Go.Proofs.Ytmdhdbkeiennmab
open Go.RowKit

theorem small_setsS {n : Nat} (S ap : Int) (hn : n ≤ 4) : Small (setsS n S ap) := by
  refine ⟨Nat.le_trans (setsS_length S ap hn) (by omega), fun i hi => ?_⟩
  have hm : (setsS n S ap).getD i [] ∈ setsS n S ap := by
    simp only [List.getD_eq_getElem?_getD, List.getElem?_eq_getElem hi, Option.getD_some]
    exact List.getElem_mem hi
  have := (setsS_mem hm).1
  omega
theorem small_nil : Small [] := ⟨by simp, fun i hi => by simp at hi⟩

set_option maxHeartbeats 1600000 in
theorem spSetsApart_no (N S ap : Int) (w : World) (h : apartOk N S ap = false) :
    Calls Try.prog 29 #[.int .i64 N, .int .i64 S, .int .i64 ap] w (RetSSB [] false w) := by
  unfold apartOk at h
  have HS := Lib.hid (fun W => siSum_any N S W)
  have HW := Lib.hid (fun W => l1In_any ap 0 20 W)
  cases e1 : (inB N 1 4 && inB S 1 80) with
  | false =>
    rw [e1] at HS
    go_enter Try.func29, Try.ntmps29
    go_wp2_with (first | (go_at_call 51; refine (HS.out _).mono ?_; rintro e w' ⟨rfl, rfl⟩))
    go_ret2
    exact ⟨_, [], rfl, ownSS_nil _ _ _, Below.refl _ _⟩
  | true =>
    rw [e1] at HS
    have e3 : inB ap 0 20 = false := by rw [e1] at h; exact h
    rw [e3] at HW
    go_enter Try.func29, Try.ntmps29
    go_wp2_with (first | (go_at_call 51; refine (HS.out _).mono ?_; rintro e w' ⟨rfl, rfl⟩) | (go_at_call 57; refine (HW.out _).mono ?_; rintro e w' ⟨rfl, rfl⟩))
    go_ret2
    exact ⟨_, [], rfl, ownSS_nil _ _ _, Below.refl _ _⟩
set_option maxHeartbeats 1600000 in
theorem spSetsApart_yes (n : Nat) (S ap : Int) (w : World) (h : apartOk n S ap = true) :
    Calls Try.prog 29 #[.int .i64 n, .int .i64 S, .int .i64 ap] w (RetSSB (setsS n S ap) true w) := by
  unfold apartOk at h
  rw [Bool.and_eq_true] at h
  obtain ⟨e1, e3⟩ := h
  have HS := Lib.hid (fun W => siSum_any n S W)
  have HW := Lib.hid (fun W => l1In_any ap 0 20 W)
  rw [e1] at HS
  rw [e3] at HW
  rw [Bool.and_eq_true] at e1
  have HR := Lib.hid (fun (W : World) => siApart_any n S ap W (by have := inB_iff.1 e1.1; omega) (by have := inB_iff.1 e1.1; omega) (inB_iff.1 e1.2) (inB_iff.1 e3))
  clear e1 e3
  go_enter Try.func29, Try.ntmps29
  go_wp2_with (first | (go_at_call 51; refine (HS.out _).mono ?_; rintro e w' ⟨rfl, rfl⟩) | (go_at_call 57; refine (HW.out _).mono ?_; rintro e w' ⟨rfl, rfl⟩) | (go_at_call 52; refine (HR.out _).mono ?_; rintro e w' ⟨v, vs, rfl, hss, hb⟩))
  go_ret2
  exact ⟨v, vs, rfl, hss, hb⟩
theorem nat_of {N S ap : Int} (h : apartOk N S ap = true) : ∃ n : Nat, N = n ∧ n ≤ 4 ∧ 1 ≤ n := by
  unfold apartOk at h
  rw [Bool.and_eq_true, Bool.and_eq_true, inB_iff] at h
  exact ⟨N.toNat, by omega, by omega, by omega⟩
theorem setsApart_both (N S ap : Int) : ∃ rss ok, Small rss ∧
    (∀ w, Calls Try.prog 29 #[.int .i64 N, .int .i64 S, .int .i64 ap] w (RetSSB rss ok w)) ∧
    (∀ w, Calls Try.prog 30 #[.int .i64 N, .int .i64 S, .int .i64 ap] w (RetSSB rss ok w)) := by
  cases h : apartOk N S ap with
  | false => exact ⟨[], false, small_nil, fun w => spSetsApart_no N S ap w h, fun w => imSetsApart_no N S ap w h⟩
  | true =>
    obtain ⟨n, rfl, hn, _⟩ := nat_of h
    exact ⟨setsS n S ap, true, small_setsS S ap hn, fun w => spSetsApart_yes n S ap w h, fun w => imSetsApart_yes n S ap w h⟩

set_option maxHeartbeats 1600000 in
theorem imCountBySum_of (N S : Int) (rss : List (List Int)) (ok : Bool) (w : World) (h : ∀ w, Calls Try.prog 30 #[.int .i64 N, .int .i64 S, .int .i64 0] w (RetSSB rss ok w)) :
    Calls Try.prog 35 #[.int .i64 N, .int .i64 S] w (RetIB rss.length ok w) := by
  have H := Lib.hid h
  clear h
  go_enter Try.func35, Try.ntmps35
  go_wp2_with fail
  refine (H.out _).mono ?_
  rintro e w' ⟨v, vs, rfl, hss, hb⟩
  rcases hss.cases with ⟨rfl, rfl⟩ | ⟨g, c, rfl, _⟩
  · go_wp2
    go_ret2
    exact ⟨rfl, hb⟩
  · go_wp2
    go_ret2
    exact ⟨rfl, hb⟩
theorem apartOk_zero (N S : Int) : apartOk N S 0 = (inB N 1 4 && inB S 1 80) := by
  unfold apartOk
  rw [show inB 0 0 20 = true from rfl, Bool.and_true]
set_option maxHeartbeats 1600000 in
theorem spCountBySum_no (N S : Int) (w : World) (h : apartOk N S 0 = false) :
    Calls Try.prog 34 #[.int .i64 N, .int .i64 S] w (RetIB 0 false w) := by
  rw [apartOk_zero] at h
  have HS := Lib.hid (fun W => siSum_any N S W)
  rw [h] at HS
  go_enter Try.func34, Try.ntmps34
  go_wp2_with (first | (go_at_call 51; refine (HS.out _).mono ?_; rintro e w' ⟨rfl, rfl⟩))
  go_ret2
  exact ⟨rfl, Below.refl _ _⟩
set_option maxHeartbeats 1600000 in
theorem spCountBySum_yes (n : Nat) (S : Int) (w : World) (h : apartOk n S 0 = true) :
    Calls Try.prog 34 #[.int .i64 n, .int .i64 S] w (RetIB (setsS n S 0).length true w) := by
  rw [apartOk_zero] at h
  have HS := Lib.hid (fun W => siSum_any n S W)
  rw [h] at HS
  rw [Bool.and_eq_true] at h
  have HR := Lib.hid (fun (W : World) => siApart_any n S 0 W (by have := inB_iff.1 h.1; omega) (by have := inB_iff.1 h.1; omega) (inB_iff.1 h.2) (by omega))
  clear h
  generalize setsS n S 0 = rss at HR ⊢
  go_enter Try.func34, Try.ntmps34
  go_wp2_with (first | (go_at_call 51; refine (HS.out _).mono ?_; rintro e w' ⟨rfl, rfl⟩))
  refine (HR.out _).mono ?_
  rintro e w' ⟨v, vs, rfl, hss, hb⟩
  rcases hss.cases with ⟨rfl, rfl⟩ | ⟨g, c, rfl, _⟩
  · go_wp2
    go_ret2
    exact ⟨rfl, hb⟩
  · go_wp2
    go_ret2
    exact ⟨rfl, hb⟩
theorem countBySum_both (N S : Int) : ∃ r ok,
    (∀ w, Calls Try.prog 34 #[.int .i64 N, .int .i64 S] w (RetIB r ok w)) ∧
    (∀ w, Calls Try.prog 35 #[.int .i64 N, .int .i64 S] w (RetIB r ok w)) := by
  cases h : apartOk N S 0 with
  | false => exact ⟨0, false, fun w => spCountBySum_no N S w h, fun w => imCountBySum_of N S [] false w (fun w => imSetsApart_no N S 0 w h)⟩
  | true =>
    obtain ⟨n, rfl, hn, _⟩ := nat_of h
    exact ⟨_, true, fun w => spCountBySum_yes n S w h, fun w => imCountBySum_of n S _ true w (fun w => imSetsApart_yes n S 0 w h)⟩
end Go.Proofs.Ytmdhdbkeiennmab
