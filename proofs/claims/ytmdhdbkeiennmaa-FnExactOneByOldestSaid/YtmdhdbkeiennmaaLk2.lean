/- SetsOfProduct and CountSets: both texts. -/
import Derived.Test.YtmdhdbkeiennmaaLk1
import Derived.Test.YtmdhdbkeiennmaaPr1
set_option linter.unusedVariables false
set_option linter.unusedSimpArgs false
namespace Go.Proofs.Ytmdhdbkeiennmaa
open Go.RowKit

theorem look_every (B go : Nat) : ∀ n, LookAt B go n
  | 0 => look_leaf B go
  | n + 1 => look_step B go n (look_every B go n)
set_option maxHeartbeats 1600000 in
theorem siSets_any (n : Nat) (P : Int) (w : World) (h1 : 1 ≤ n) (hn : n ≤ 4) (hP : 1 ≤ P ∧ P ≤ 160000) :
    Calls Try.prog 40 #[.int .i64 n, .int .i64 P] w (RetSets (setsP n P) w) := by
  have HC := Lib.hid (fun (W : World) (hW : W.heap.size = w.heap.size + 1) (hc : W.cell? ⟨w.heap.size, 0, none⟩ = some (.slice none 0 0)) (hf : W.frozen? ⟨w.heap.size, 0, none⟩ = false) =>
    look_every (w.heap.size + 1) w.heap.size n P [] (.slice none 0 0) (w.heap.size + 1) (w.heap.size + 1) [] (.slice none 0 0) [] W (setsP n P) (by simp; omega) (by simp; omega) (fun _ => rfl) (by intro x hx; simp at hx) (by omega) (by omega) hc hf (ownSS_nil _ _ _) (Nat.le_refl _) (by omega) (own_nil _ _) (by omega) (Nat.le_refl _)
      (by rw [List.nil_append, ← look_prod n P]; rfl) (setsP_length P hn))
  go_enter Try.func40, Try.ntmps40
  go_wp2_with (go_at_call 63; refine (HC.out _ (by simp) (boxP (box_newP rfl)).1 (boxP (box_newP rfl)).2).mono ?_; rintro e w' ⟨rfl, v', vs', hc', hf', ho', hbo⟩)
  go_ret
  refine ⟨v', vs', rfl, ho'.monoBP (by omega) _ (Nat.le_refl _), ⟨hbo.os, hbo.tape, hbo.output, ?_, fun k hk => ?_⟩⟩
  · have := hbo.size; simp at this; omega
  · rw [hbo.block k (by simp; omega) (by omega) (.inl (by omega)), Below.heap_alloc _ _ _ hk]
theorem siChildren_any (N P : Int) (w : World) : Calls Try.prog 39 #[.int .i64 N, .int .i64 P] w (RetSame (.bool (prodOk N P)) w) := by
  unfold prodOk
  have H1 := Lib.hid (fun W => l1In_any N 1 4 W)
  have H2 := Lib.hid (fun W => l1In_any P 1 160000 W)
  cases e1 : inB N 1 4 with
  | false =>
    rw [e1] at H1
    go_enter Try.func39, Try.ntmps39
    go_wp2_with (go_at_call 62; refine (H1.out _).mono ?_; rintro e w' ⟨rfl, rfl⟩)
    go_ret
    exact ⟨rfl, rfl⟩
  | true =>
    rw [e1] at H1
    go_enter Try.func39, Try.ntmps39
    go_wp2_with (first | (go_at_call_of 62 (Value.int IntKind.i64 N); refine (H1.out _).mono ?_; rintro e w' ⟨rfl, rfl⟩) | (go_at_call_of 62 (Value.int IntKind.i64 P); refine (H2.out _).mono ?_; rintro e w' ⟨rfl, rfl⟩))
    go_ret
    exact ⟨by simp, rfl⟩
theorem small_setsP {n : Nat} (P : Int) (hn : n ≤ 4) : Small (setsP n P) := by
  refine ⟨Nat.le_trans (setsP_length P hn) (by omega), fun i hi => ?_⟩
  have hm : (setsP n P).getD i [] ∈ setsP n P := by
    simp only [List.getD_eq_getElem?_getD, List.getElem?_eq_getElem hi, Option.getD_some]
    exact List.getElem_mem hi
  have := (setsP_mem hm).1
  omega
theorem small_nil : Small [] := ⟨by simp, fun i hi => by simp at hi⟩
theorem nat_of {N P : Int} (h : prodOk N P = true) : ∃ n : Nat, N = n ∧ n ≤ 4 ∧ 1 ≤ n ∧ 1 ≤ P ∧ P ≤ 160000 := by
  unfold prodOk at h
  rw [Bool.and_eq_true, inB_iff, inB_iff] at h
  exact ⟨N.toNat, by omega, by omega, by omega, h.2.1, h.2.2⟩
set_option maxHeartbeats 1600000 in
theorem spSetsOf_no (N P : Int) (w : World) (h : prodOk N P = false) :
    Calls Try.prog 13 #[.int .i64 N, .int .i64 P] w (RetSSB [] false w) := by
  have HS := Lib.hid (fun W => siChildren_any N P W)
  rw [h] at HS
  go_enter Try.func13, Try.ntmps13
  go_wp2_with (first | (go_at_call 39; refine (HS.out _).mono ?_; rintro e w' ⟨rfl, rfl⟩))
  go_ret2
  exact ⟨_, [], rfl, ownSS_nil _ _ _, Below.refl _ _⟩
set_option maxHeartbeats 1600000 in
theorem spSetsOf_yes (n : Nat) (P : Int) (w : World) (h : prodOk n P = true) :
    Calls Try.prog 13 #[.int .i64 n, .int .i64 P] w (RetSSB (setsP n P) true w) := by
  have HS := Lib.hid (fun W => siChildren_any n P W)
  rw [h] at HS
  obtain ⟨n', hn', h4, h1, hP⟩ := nat_of h
  have HR := Lib.hid (fun (W : World) => siSets_any n P W (by omega) (by omega) hP)
  clear h hn' h4 h1 hP
  go_enter Try.func13, Try.ntmps13
  go_wp2_with (first | (go_at_call 39; refine (HS.out _).mono ?_; rintro e w' ⟨rfl, rfl⟩) | (go_at_call 40; refine (HR.out _).mono ?_; rintro e w' ⟨v, vs, rfl, hss, hb⟩))
  go_ret2
  exact ⟨v, vs, rfl, hss, hb⟩
theorem setsOf_both (N P : Int) : ∃ rss ok, Small rss ∧
    (∀ w, Calls Try.prog 13 #[.int .i64 N, .int .i64 P] w (RetSSB rss ok w)) ∧
    (∀ w, Calls Try.prog 14 #[.int .i64 N, .int .i64 P] w (RetSSB rss ok w)) := by
  cases h : prodOk N P with
  | false => exact ⟨[], false, small_nil, fun w => spSetsOf_no N P w h, fun w => imSetsOf_no N P w h⟩
  | true =>
    obtain ⟨n, rfl, hn, _⟩ := nat_of h
    exact ⟨setsP n P, true, small_setsP P hn, fun w => spSetsOf_yes n P w h, fun w => imSetsOf_yes n P w h⟩

set_option maxHeartbeats 1600000 in
theorem imCountSets_of (N P : Int) (rss : List (List Int)) (ok : Bool) (w : World) (h : ∀ w, Calls Try.prog 14 #[.int .i64 N, .int .i64 P] w (RetSSB rss ok w)) :
    Calls Try.prog 19 #[.int .i64 N, .int .i64 P] w (RetIB rss.length ok w) := by
  have H := Lib.hid h
  clear h
  go_enter Try.func19, Try.ntmps19
  go_wp2_with fail
  refine (H.out _).mono ?_
  rintro e w' ⟨v, vs, rfl, hss, hb⟩
  rcases hss.cases with ⟨rfl, rfl⟩ | ⟨g, c, rfl, _⟩
  · go_wp2
    go_ret2
    exact ⟨rfl, hb⟩
  · go_wp2
    go_ret2
    exact ⟨rfl, hb⟩
set_option maxHeartbeats 1600000 in
theorem spCountSets_no (N P : Int) (w : World) (h : prodOk N P = false) :
    Calls Try.prog 18 #[.int .i64 N, .int .i64 P] w (RetIB 0 false w) := by
  have HS := Lib.hid (fun W => siChildren_any N P W)
  rw [h] at HS
  go_enter Try.func18, Try.ntmps18
  go_wp2_with (first | (go_at_call 39; refine (HS.out _).mono ?_; rintro e w' ⟨rfl, rfl⟩))
  go_ret2
  exact ⟨rfl, Below.refl _ _⟩
set_option maxHeartbeats 1600000 in
theorem spCountSets_yes (n : Nat) (P : Int) (w : World) (h : prodOk n P = true) :
    Calls Try.prog 18 #[.int .i64 n, .int .i64 P] w (RetIB (setsP n P).length true w) := by
  have HS := Lib.hid (fun W => siChildren_any n P W)
  rw [h] at HS
  obtain ⟨n', hn', h4, h1, hP⟩ := nat_of h
  have HR := Lib.hid (fun (W : World) => siSets_any n P W (by omega) (by omega) hP)
  clear h hn' h4 h1 hP
  generalize setsP n P = rss at HR ⊢
  go_enter Try.func18, Try.ntmps18
  go_wp2_with (first | (go_at_call 39; refine (HS.out _).mono ?_; rintro e w' ⟨rfl, rfl⟩))
  refine (HR.out _).mono ?_
  rintro e w' ⟨v, vs, rfl, hss, hb⟩
  rcases hss.cases with ⟨rfl, rfl⟩ | ⟨g, c, rfl, _⟩
  · go_wp2
    go_ret2
    exact ⟨rfl, hb⟩
  · go_wp2
    go_ret2
    exact ⟨rfl, hb⟩
theorem countSets_both (N P : Int) : ∃ r ok,
    (∀ w, Calls Try.prog 18 #[.int .i64 N, .int .i64 P] w (RetIB r ok w)) ∧
    (∀ w, Calls Try.prog 19 #[.int .i64 N, .int .i64 P] w (RetIB r ok w)) := by
  cases h : prodOk N P with
  | false => exact ⟨0, false, fun w => spCountSets_no N P w h, fun w => imCountSets_of N P [] false w (fun w => imSetsOf_no N P w h)⟩
  | true =>
    obtain ⟨n, rfl, hn, _⟩ := nat_of h
    exact ⟨_, true, fun w => spCountSets_yes n P w h, fun w => imCountSets_of n P _ true w (fun w => imSetsOf_yes n P w h)⟩
end Go.Proofs.Ytmdhdbkeiennmaa
