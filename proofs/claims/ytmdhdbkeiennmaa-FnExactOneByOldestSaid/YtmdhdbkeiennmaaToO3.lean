/- The sets that are told: both texts. -/
import Derived.Test.YtmdhdbkeiennmaaToO2
import Derived.Test.YtmdhdbkeiennmaaBo2
set_option linter.unusedVariables false
set_option linter.unusedSimpArgs false
namespace Go.Proofs.Ytmdhdbkeiennmaa
open Go.RowKit

set_option maxHeartbeats 4000000 in
theorem siToldO_any (B U : Nat) (v : Value) (vs : List Value) (rss : List (List Int)) (w : World) (hO : OwnSS B U w v vs rss) (hB : B ≤ U) (hU : U ≤ w.heap.size) (hF : FamA rss) (hM : FamMO rss) :
    Calls Try.prog 56 #[v, .bool true] w (RetSub B (rss.filter (toldO rss)) w) := by
  rcases hO.cases with ⟨rfl, rfl⟩ | ⟨g, c, rfl, hc⟩
  · rw [List.filter_nil]
    go_enter Try.func56, Try.ntmps56
    go_wp2
    go_loop [5, 14] (fun u v => u = .slice none 0 0 ∧ v = .int .i64 0) (fun _ _ => 0)
    case atStart => exact ⟨rfl, rfl⟩
    case round =>
      obtain ⟨rfl, rfl⟩ := hrel
      go_wp2
      go_ret
      exact ⟨_, [], rfl, ownSS_nil _ _ _, Below.refl _ _⟩
  · exact siToldO_some B U g rss.length c vs rss w rfl hO hB hU hF hM hc
theorem famMO_setsP {n : Nat} (P : Int) (h1 : 1 ≤ n) (hn : n ≤ 4) : FamMO (setsP n P) := by
  intro r hr
  obtain ⟨hl, _, hm⟩ := setsP_mem hr
  exact old_eq (by omega) (by omega) hm
theorem toldOPick (n : Nat) (P : Int) (h : prodOk n P = true) :
    (∀ W, Calls Try.prog 40 #[.int .i64 n, .int .i64 P] W (RetSets (setsP n P) W)) ∧
    (∀ (B U : Nat) (v : Value) (vs : List Value) (W : World) (hO : OwnSS B U W v vs (setsP n P)) (hB : B ≤ U) (hU : U ≤ W.heap.size), Calls Try.prog 56 #[v, .bool true] W (RetSub B ((setsP n P).filter (toldO (setsP n P))) W)) := by
  obtain ⟨n', hn', h4, h1, hP⟩ := nat_of h
  exact ⟨fun W => siSets_any n P W (by omega) (by omega) hP, fun B U v vs W hO hB hU => siToldO_any B U v vs (setsP n P) W hO hB hU (famA_setsP P (by omega) (by omega)) (famMO_setsP P (by omega) (by omega))⟩
theorem spToldByOldest_no (N P : Int) (w : World) (h : prodOk N P = false) :
    Calls Try.prog 31 #[.int .i64 N, .int .i64 P] w (RetSSB [] false w) := by
  have HS := Lib.hid (fun W => siChildren_any N P W)
  rw [h] at HS
  go_enter Try.func31, Try.ntmps31
  go_wp2_with (first | (go_at_call 39; refine (HS.out _).mono ?_; rintro e w' ⟨rfl, rfl⟩))
  go_ret2
  exact ⟨_, [], rfl, ownSS_nil _ _ _, Below.refl _ _⟩
set_option maxHeartbeats 1600000 in
theorem spToldByOldest_yes (n : Nat) (P : Int) (w : World) (h : prodOk n P = true) :
    Calls Try.prog 31 #[.int .i64 n, .int .i64 P] w (RetSSB ((setsP n P).filter (toldO (setsP n P))) true w) := by
  have H1 := Lib.hid (fun W => siChildren_any n P W)
  rw [h] at H1
  obtain ⟨hr, hw⟩ := toldOPick n P h
  have HR := Lib.hid hr
  have HW := Lib.hid hw
  clear h hr hw
  generalize (setsP n P).filter (toldO (setsP n P)) = rf at HW ⊢
  generalize setsP n P = rss at HR HW
  go_enter Try.func31, Try.ntmps31
  go_wp2_with (first | (go_at_call 39; refine (H1.out _).mono ?_; rintro e w' ⟨rfl, rfl⟩) | (go_at_call 40; refine (HR.out _).mono ?_; rintro e w1 ⟨v, vs, rfl, hss, hb⟩) | (go_at_call 56; refine (HW.out _ _ _ _ _ hss hb.size (Nat.le_refl _)).mono ?_; rintro e w2 ⟨v2, vs2, rfl, ho, hb2⟩))
  go_ret2
  exact ⟨v2, vs2, rfl, ho, hb.trans (hb2.mono hb.size)⟩
theorem toldByOldest_both (N P : Int) : ∃ rss ok, Small rss ∧
    (∀ w, Calls Try.prog 31 #[.int .i64 N, .int .i64 P] w (RetSSB rss ok w)) ∧
    (∀ w, Calls Try.prog 32 #[.int .i64 N, .int .i64 P] w (RetSSB rss ok w)) := by
  cases h : prodOk N P with
  | false =>
    refine ⟨[], false, small_nil, fun w => spToldByOldest_no N P w h, fun w => ?_⟩
    have := imToldO_of N P [] false ⟨by simp, fun i hi => by simp at hi⟩ w (fun w => imSetsOf_no N P w h)
    rw [List.filter_nil] at this
    exact this
  | true =>
    obtain ⟨n, rfl, hn, h1, _⟩ := nat_of h
    exact ⟨_, true, small_famA (famA_filter (famA_setsP P h1 hn) _), fun w => spToldByOldest_yes n P w h, fun w => imToldO_of n P _ true (famA_setsP P h1 hn) w (fun w => imSetsOf_yes n P w h)⟩
end Go.Proofs.Ytmdhdbkeiennmaa
