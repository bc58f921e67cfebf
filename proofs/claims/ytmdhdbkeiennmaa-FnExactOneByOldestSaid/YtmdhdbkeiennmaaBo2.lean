/- SetsOfBoth and DoesTell: both texts. -/
import Derived.Test.YtmdhdbkeiennmaaBo1
import Derived.Test.YtmdhdbkeiennmaaWi2
import Derived.Test.YtmdhdbkeiennmaaMs1
set_option linter.unusedVariables false
set_option linter.unusedSimpArgs false
namespace Go.Proofs.Ytmdhdbkeiennmaa
open Go.RowKit

/-- A call returned two bools. -/
def RetBB (r ok : Bool) (w : World) (e : Ending) (w' : World) : Prop := e = .returned (.tuple #[.bool r, .bool ok]) ∧ Below w.heap.size w w'
theorem famA_setsP {n : Nat} (P : Int) (h1 : 1 ≤ n) (hn : n ≤ 4) : FamA (setsP n P) := fam_setsP P h1 hn
theorem small_famA {rss : List (List Int)} (h : FamA rss) : Small rss := ⟨Nat.le_trans h.1 (by omega), fun i hi => by have := (h.2 i hi).1.1; omega⟩
set_option maxHeartbeats 1600000 in
theorem imBoth_no1 (N P S : Int) (w : World) (h : prodOk N P = false) :
    Calls Try.prog 26 #[.int .i64 N, .int .i64 P, .int .i64 S] w (RetSSB [] false w) := by
  have H := Lib.hid (fun W => imSetsOf_no N P W h)
  clear h
  go_enter Try.func26, Try.ntmps26
  go_wp2_with (first | (go_at_call 14; refine (H.out _).mono ?_; rintro e w1 ⟨v, vs, rfl, hss, hb⟩))
  go_ret2
  exact ⟨_, [], rfl, ownSS_nil _ _ _, hb⟩
set_option maxHeartbeats 1600000 in
theorem imBoth_no2 (n : Nat) (P S : Int) (w : World) (h : prodOk n P = true) (hS : inB S 1 80 = false) :
    Calls Try.prog 26 #[.int .i64 n, .int .i64 P, .int .i64 S] w (RetSSB [] false w) := by
  have H := Lib.hid (fun W => imSetsOf_yes n P W h)
  have HS := Lib.hid (fun W => isChildrenSum_any S W)
  rw [hS] at HS
  clear h
  generalize setsP n P = rss at H
  go_enter Try.func26, Try.ntmps26
  go_wp2_with (first | (go_at_call 14; refine (H.out _).mono ?_; rintro e w1 ⟨v, vs, rfl, hss, hb⟩) | (go_at_call 51; refine (HS.out _).mono ?_; rintro e w' ⟨rfl, rfl⟩))
  go_ret2
  exact ⟨_, [], rfl, ownSS_nil _ _ _, hb⟩
set_option maxHeartbeats 1600000 in
theorem imBoth_yes (n : Nat) (P S : Int) (w : World) (h : prodOk n P = true) (hS : inB S 1 80 = true) :
    Calls Try.prog 26 #[.int .i64 n, .int .i64 P, .int .i64 S] w (RetSSB ((setsP n P).filter (sumIs S)) true w) := by
  have H := Lib.hid (fun W => imSetsOf_yes n P W h)
  have HS := Lib.hid (fun W => isChildrenSum_any S W)
  rw [hS] at HS
  obtain ⟨n', hn', h4, h1, hP⟩ := nat_of h
  have HF := Lib.hid (famA_setsP (n := n) P (by omega) (by omega))
  clear h hn' h4 h1 hP
  generalize setsP n P = rss at H HF ⊢
  have HW := Lib.hid (fun (B U : Nat) (v : Value) (vs : List Value) (W : World) (hO : OwnSS B U W v vs rss) (hB : B ≤ U) (hU : U ≤ W.heap.size) => withSum_any S B U v vs rss W hO hB hU HF.out)
  generalize rss.filter (sumIs S) = rf at HW ⊢
  go_enter Try.func26, Try.ntmps26
  go_wp2_with (first | (go_at_call 14; refine (H.out _).mono ?_; rintro e w1 ⟨v, vs, rfl, hss, hb⟩) | (go_at_call 51; refine (HS.out _).mono ?_; rintro e w' ⟨rfl, rfl⟩) | (go_at_call 52; refine (HW.out _ _ _ _ _ hss hb.size (Nat.le_refl _)).mono ?_; rintro e w2 ⟨v2, vs2, rfl, ho, hb2⟩))
  go_ret2
  exact ⟨v2, vs2, rfl, ho, hb.trans (hb2.mono hb.size)⟩
set_option maxHeartbeats 1600000 in
theorem spBoth_no (N P S : Int) (w : World) (h : (prodOk N P && inB S 1 80) = false) :
    Calls Try.prog 25 #[.int .i64 N, .int .i64 P, .int .i64 S] w (RetSSB [] false w) := by
  have H1 := Lib.hid (fun W => siChildren_any N P W)
  have H2 := Lib.hid (fun W => siSum_any N S W)
  cases e1 : prodOk N P with
  | false =>
    rw [e1] at H1
    clear e1 h
    go_enter Try.func25, Try.ntmps25
    go_wp2_with (first | (go_at_call 39; refine (H1.out _).mono ?_; rintro e w' ⟨rfl, rfl⟩))
    go_ret2
    exact ⟨_, [], rfl, ownSS_nil _ _ _, Below.refl _ _⟩
  | true =>
    rw [e1] at H1 h
    rw [Bool.true_and] at h
    rw [h, Bool.and_false] at H2
    clear e1 h
    go_enter Try.func25, Try.ntmps25
    go_wp2_with (first | (go_at_call 39; refine (H1.out _).mono ?_; rintro e w' ⟨rfl, rfl⟩) | (go_at_call 49; refine (H2.out _).mono ?_; rintro e w' ⟨rfl, rfl⟩))
    go_ret2
    exact ⟨_, [], rfl, ownSS_nil _ _ _, Below.refl _ _⟩
/-- What the model lists of a product and a sum. -/
theorem spPick (n : Nat) (P S : Int) (h : prodOk n P = true) :
    (∀ W, Calls Try.prog 40 #[.int .i64 n, .int .i64 P] W (RetSets (setsP n P) W)) ∧
    (∀ (B U : Nat) (v : Value) (vs : List Value) (W : World) (hO : OwnSS B U W v vs (setsP n P)) (hB : B ≤ U) (hU : U ≤ W.heap.size), Calls Try.prog 50 #[v, .int .i64 S] W (RetSub B ((setsP n P).filter (sumIs S)) W)) := by
  obtain ⟨n', hn', h4, h1, hP⟩ := nat_of h
  exact ⟨fun W => siSets_any n P W (by omega) (by omega) hP, fun B U v vs W hO hB hU => siBoth_any S B U v vs (setsP n P) W hO hB hU (famA_setsP P (by omega) (by omega))⟩
theorem sumOk {n : Nat} {P S : Int} (h : prodOk n P = true) (hS : inB S 1 80 = true) : (inB (n : Int) 1 4 && inB S 1 80) = true := by
  unfold prodOk at h
  rw [Bool.and_eq_true] at h
  rw [h.1, hS]; rfl
set_option maxHeartbeats 1600000 in
theorem spBoth_yes (n : Nat) (P S : Int) (w : World) (h : prodOk n P = true) (hS : inB S 1 80 = true) :
    Calls Try.prog 25 #[.int .i64 n, .int .i64 P, .int .i64 S] w (RetSSB ((setsP n P).filter (sumIs S)) true w) := by
  have H1 := Lib.hid (fun W => siChildren_any n P W)
  have H2 := Lib.hid (fun W => siSum_any n S W)
  rw [h] at H1
  rw [sumOk h hS] at H2
  obtain ⟨hr, hw⟩ := spPick n P S h
  have HR := Lib.hid hr
  have HW := Lib.hid hw
  clear h hr hw
  generalize (setsP n P).filter (sumIs S) = rf at HW ⊢
  generalize setsP n P = rss at HR HW
  go_enter Try.func25, Try.ntmps25
  go_wp2_with (first | (go_at_call 39; refine (H1.out _).mono ?_; rintro e w' ⟨rfl, rfl⟩) | (go_at_call 49; refine (H2.out _).mono ?_; rintro e w' ⟨rfl, rfl⟩) | (go_at_call 40; refine (HR.out _).mono ?_; rintro e w1 ⟨v, vs, rfl, hss, hb⟩) | (go_at_call 50; refine (HW.out _ _ _ _ _ hss hb.size (Nat.le_refl _)).mono ?_; rintro e w2 ⟨v2, vs2, rfl, ho, hb2⟩))
  go_ret2
  exact ⟨v2, vs2, rfl, ho, hb.trans (hb2.mono hb.size)⟩
theorem setsOfBoth_both (N P S : Int) : ∃ rss ok, Small rss ∧
    (∀ w, Calls Try.prog 25 #[.int .i64 N, .int .i64 P, .int .i64 S] w (RetSSB rss ok w)) ∧
    (∀ w, Calls Try.prog 26 #[.int .i64 N, .int .i64 P, .int .i64 S] w (RetSSB rss ok w)) := by
  cases h : prodOk N P with
  | false => exact ⟨[], false, small_nil, fun w => spBoth_no N P S w (by rw [h]; rfl), fun w => imBoth_no1 N P S w h⟩
  | true =>
    obtain ⟨n, rfl, hn, h1, _⟩ := nat_of h
    cases hS : inB S 1 80 with
    | false => exact ⟨[], false, small_nil, fun w => spBoth_no n P S w (by rw [hS, Bool.and_false]), fun w => imBoth_no2 n P S w h hS⟩
    | true => exact ⟨_, true, small_famA (famA_filter (famA_setsP P h1 hn) _), fun w => spBoth_yes n P S w h hS, fun w => imBoth_yes n P S w h hS⟩

set_option maxHeartbeats 1600000 in
theorem imTell_of (N P S : Int) (rss : List (List Int)) (ok : Bool) (w : World) (h : ∀ w, Calls Try.prog 26 #[.int .i64 N, .int .i64 P, .int .i64 S] w (RetSSB rss ok w)) :
    Calls Try.prog 28 #[.int .i64 N, .int .i64 P, .int .i64 S] w (RetBB (((rss.length : Nat) : Int) == 1) (decide ((0 : Int) < ((rss.length : Nat) : Int))) w) := by
  have H := Lib.hid (fun W => ((h W).mono (fun e W' h => (show ∃ a c, e = .returned (.tuple #[.slice a rss.length c, .bool ok]) ∧ Below W.heap.size W W' from by
    obtain ⟨v, vs, rfl, ho, hb⟩ := h
    obtain ⟨a, c, rfl⟩ := ownSS_lit ho
    exact ⟨a, c, rfl, hb⟩))))
  clear h
  generalize rss.length = L at H ⊢
  go_enter Try.func28, Try.ntmps28
  go_wp2_with (first | (go_at_call 26; refine (H.out _).mono ?_; rintro e w1 ⟨a, c, rfl, hb⟩))
  go_ret2
  exact ⟨by simp, hb⟩
set_option maxHeartbeats 1600000 in
theorem spTell_no (N P S : Int) (w : World) (h : (prodOk N P && inB S 1 80) = false) :
    Calls Try.prog 27 #[.int .i64 N, .int .i64 P, .int .i64 S] w (RetBB false false w) := by
  have H1 := Lib.hid (fun W => siChildren_any N P W)
  have H2 := Lib.hid (fun W => siSum_any N S W)
  cases e1 : prodOk N P with
  | false =>
    rw [e1] at H1
    clear e1 h
    go_enter Try.func27, Try.ntmps27
    go_wp2_with (first | (go_at_call 39; refine (H1.out _).mono ?_; rintro e w' ⟨rfl, rfl⟩))
    go_ret2
    exact ⟨rfl, Below.refl _ _⟩
  | true =>
    rw [e1] at H1 h
    rw [Bool.true_and] at h
    rw [h, Bool.and_false] at H2
    clear e1 h
    go_enter Try.func27, Try.ntmps27
    go_wp2_with (first | (go_at_call 39; refine (H1.out _).mono ?_; rintro e w' ⟨rfl, rfl⟩) | (go_at_call 49; refine (H2.out _).mono ?_; rintro e w' ⟨rfl, rfl⟩))
    go_ret2
    exact ⟨rfl, Below.refl _ _⟩
set_option maxHeartbeats 1600000 in
theorem spTell_yes (n : Nat) (P S : Int) (w : World) (h : prodOk n P = true) (hS : inB S 1 80 = true) :
    Calls Try.prog 27 #[.int .i64 n, .int .i64 P, .int .i64 S] w (RetBB (((((setsP n P).filter (sumIs S)).length : Nat) : Int) == 1) (decide ((0 : Int) < ((((setsP n P).filter (sumIs S)).length : Nat) : Int))) w) := by
  have H1 := Lib.hid (fun W => siChildren_any n P W)
  have H2 := Lib.hid (fun W => siSum_any n S W)
  rw [h] at H1
  rw [sumOk h hS] at H2
  obtain ⟨hr, hw⟩ := spPick n P S h
  have HR := Lib.hid hr
  clear h hr
  generalize (setsP n P).filter (sumIs S) = rf at hw ⊢
  generalize setsP n P = rss at HR hw
  have HW := Lib.hid (fun (B U : Nat) (v : Value) (vs : List Value) (W : World) (hO : OwnSS B U W v vs rss) (hB : B ≤ U) (hU : U ≤ W.heap.size) => ((hw B U v vs W hO hB hU).mono (fun e W' h => (show ∃ a c, e = .returned (.slice a rf.length c) ∧ Below W.heap.size W W' from by
    obtain ⟨v, vs, rfl, ho, hb⟩ := h
    obtain ⟨a, c, rfl⟩ := ownSS_lit ho
    exact ⟨a, c, rfl, hb⟩))))
  clear hw
  generalize rf.length = L at HW ⊢
  go_enter Try.func27, Try.ntmps27
  go_wp2_with (first | (go_at_call 39; refine (H1.out _).mono ?_; rintro e w' ⟨rfl, rfl⟩) | (go_at_call 49; refine (H2.out _).mono ?_; rintro e w' ⟨rfl, rfl⟩) | (go_at_call 40; refine (HR.out _).mono ?_; rintro e w1 ⟨v, vs, rfl, hss, hb⟩) | (go_at_call 50; refine (HW.out _ _ _ _ _ hss hb.size (Nat.le_refl _)).mono ?_; rintro e w2 ⟨a, c, rfl, hb2⟩))
  go_ret2
  exact ⟨by simp, hb.trans (hb2.mono hb.size)⟩
theorem doesTell_both (N P S : Int) : ∃ r ok,
    (∀ w, Calls Try.prog 27 #[.int .i64 N, .int .i64 P, .int .i64 S] w (RetBB r ok w)) ∧
    (∀ w, Calls Try.prog 28 #[.int .i64 N, .int .i64 P, .int .i64 S] w (RetBB r ok w)) := by
  cases h : prodOk N P with
  | false => exact ⟨false, false, fun w => spTell_no N P S w (by rw [h]; rfl), fun w => imTell_of N P S [] false w (fun w => imBoth_no1 N P S w h)⟩
  | true =>
    obtain ⟨n, rfl, hn, h1, _⟩ := nat_of h
    cases hS : inB S 1 80 with
    | false => exact ⟨false, false, fun w => spTell_no n P S w (by rw [hS, Bool.and_false]), fun w => imTell_of n P S [] false w (fun w => imBoth_no2 n P S w h hS)⟩
    | true => exact ⟨_, _, fun w => spTell_yes n P S w h hS, fun w => imTell_of n P S _ true w (fun w => imBoth_yes n P S w h hS)⟩
end Go.Proofs.Ytmdhdbkeiennmaa
