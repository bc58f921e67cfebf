/- ProductsOfSum, GreatestProduct: both texts. -/
import Derived.Test.YtmdhdbkeiennmabPs1
set_option linter.unusedVariables false
set_option linter.unusedSimpArgs false
namespace Go.Proofs.Ytmdhdbkeiennmab
open Go.RowKit

theorem spProds_no (N S : Int) (w : World) (h : apartOk N S 0 = false) :
    Calls Try.prog 23 #[.int .i64 N, .int .i64 S] w (RetOwnB [] false w) := by
  rw [apartOk_zero] at h
  have HS := Lib.hid (fun W => siSum_any N S W)
  rw [h] at HS
  go_enter Try.func23, Try.ntmps23
  go_wp2_with (first | (go_at_call 51; refine (HS.out _).mono ?_; rintro e w' ⟨rfl, rfl⟩))
  go_ret2
  exact ⟨_, rfl, own_nil _ _, Below.refl _ _⟩
theorem spProds_yes (n : Nat) (S : Int) (w : World) (h : apartOk n S 0 = true) :
    Calls Try.prog 23 #[.int .i64 n, .int .i64 S] w (RetOwnB (cps ((setsS n S 0).map prodL)) true w) := by
  rw [apartOk_zero] at h
  have HS := fun W => siSum_any n S W
  rw [h] at HS
  rw [Bool.and_eq_true] at h
  have hn := inB_iff.1 h.1
  have HR := fun (W : World) => siApart_any n S 0 W (by omega) (by omega) (inB_iff.1 h.2) (by omega)
  exact spProds_some n S _ w (fam_setsSP S 0 (by omega) (by omega)) HS HR
set_option maxHeartbeats 1600000 in
theorem imProds_of (N S : Int) (rss : List (List Int)) (ok : Bool) (hF : FamP rss) (w : World) (h : ∀ w, Calls Try.prog 30 #[.int .i64 N, .int .i64 S, .int .i64 0] w (RetSSB rss ok w)) :
    Calls Try.prog 24 #[.int .i64 N, .int .i64 S] w (RetOwnB (cps (rss.map prodL)) ok w) := by
  have H := Lib.hid h
  have HW := Lib.hid (fun (W : World) (B U : Nat) (v : Value) (vs : List Value) (ho : OwnSS B U W v vs rss) (hU : U ≤ W.heap.size) => numbersP_any B U v vs rss W ho hU hF)
  clear h hF
  generalize cps (rss.map prodL) = ys at HW ⊢
  go_enter Try.func24, Try.ntmps24
  go_wp2_with (first | (go_at_call 30; refine (H.out _).mono ?_; rintro e w1 ⟨v, vs, rfl, hss, hb⟩) | (go_at_call 54; refine (HW.out _ _ _ _ _ hss (Nat.le_refl _)).mono ?_; rintro e w2 ⟨u, rfl, ho, hb2⟩))
  go_ret2
  exact ⟨u, rfl, ho.mono hb.size, hb.trans (hb2.mono hb.size)⟩
theorem cps_shortP (l : List Int) (h : l.length ≤ 160000) : (cps l).length ≤ 1048576 := by have := cps_len l; omega
theorem productsOfSum_bothP (N S : Int) : ∃ rs ok, rs.length ≤ 160000 ∧ (ok = false → rs = []) ∧
    (∀ w, Calls Try.prog 23 #[.int .i64 N, .int .i64 S] w (RetOwnB rs ok w)) ∧
    (∀ w, Calls Try.prog 24 #[.int .i64 N, .int .i64 S] w (RetOwnB rs ok w)) := by
  cases h : apartOk N S 0 with
  | false =>
    refine ⟨[], false, by simp, fun _ => rfl, fun w => spProds_no N S w h, fun w => ?_⟩
    have := imProds_of N S [] false ⟨by simp, fun i hi => by simp at hi⟩ w (fun w => imSetsApart_no N S 0 w h)
    rw [List.map_nil, cps_nilP] at this
    exact this
  | true =>
    obtain ⟨n, rfl, hn, h1⟩ := nat_of h
    refine ⟨_, true, ?_, (fun h2 => Bool.noConfusion h2), fun w => spProds_yes n S w h, fun w => imProds_of n S _ true (fam_setsSP S 0 hn h1) w (fun w => imSetsApart_yes n S 0 w h)⟩
    refine Nat.le_trans (cps_len _) ?_
    rw [List.length_map]
    exact setsS_length S 0 hn
theorem productsOfSum_both (N S : Int) : ∃ rs ok, rs.length ≤ 1048576 ∧
    (∀ w, Calls Try.prog 23 #[.int .i64 N, .int .i64 S] w (RetOwnB rs ok w)) ∧
    (∀ w, Calls Try.prog 24 #[.int .i64 N, .int .i64 S] w (RetOwnB rs ok w)) := by
  obtain ⟨rs, ok, hl, _, h1, h2⟩ := productsOfSum_bothP N S
  exact ⟨rs, ok, by omega, h1, h2⟩
end Go.Proofs.Ytmdhdbkeiennmab
