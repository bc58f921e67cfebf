/- The pairs with a told number: the program's, and both texts together. -/
import Derived.Test.YtlfbhpeehidjhaaIrp
import Derived.Test.YtlfbhpeehidjhaaTaS
set_option linter.unusedVariables false
set_option linter.unusedSimpArgs false
namespace Go.Proofs.Ytlfbhpeehidjhaa
open Go.RowKit

theorem own_base {B B' : Nat} {w : World} {e : TypeId} {size n : Nat} {v : Value} {xs : List Value} (h : w.ownsRow B e size v n xs) (hB : B' ≤ B) : w.ownsRow B' e size v n xs := by
  obtain ⟨h1, h2⟩ := h
  refine ⟨h1, ?_⟩
  rcases h2 with h2 | ⟨g, cap, cur, hv, hg, r⟩
  · exact .inl h2
  · exact .inr ⟨g, cap, cur, hv, Nat.le_trans hB hg, r⟩
set_option maxHeartbeats 4000000 in
theorem pwt_yes (s : Bool) (n : Nat) (x : Int) (w : World) (hn0 : 2 ≤ n) (hn : n ≤ 40) (hx : 0 ≤ x) :
    Calls Try.prog 20 #[.int .i64 n, whoV s, .int .i64 x] w (RetSSB (rowsD ((prs n).filter (isT s x))) true w) := by
  have hL : inB (n : Int) 2 40 = true := inB_true (by omega) (by omega)
  have HP := Lib.hid (prs_prB n hn)
  have HU := Lib.hid (fun W => pairsUpTo_any n hn W)
  generalize hds : prs n = ds at HP HU
  clear hds
  have hwx : ∃ u, whoV s = .int .u8 u := ⟨_, rfl⟩
  have HT : Hid (∀ (q0 q1 : Nat) (W : World), W.cell? ⟨q0, 0, none⟩ = some (whoV s) → W.cell? ⟨q1, 0, none⟩ = some (.int .i64 x) → AsksT q0 q1 (isT s x) W) :=
    Lib.hid (fun q0 q1 W h0 h1 W' hb a b hab => asksT q0 q1 s x a b W' (ToldAt.kept ⟨h0, h1⟩ hb) hab)
  generalize whoV s = wv at hwx HT
  obtain ⟨u, rfl⟩ := hwx
  have HB := Lib.hid (((Below.refl w.heap.size w).alloc (Nat.le_refl _) (.cells #[.int .u8 u] 5)).alloc (by simp) (.cells #[.int .i64 x] 3))
  generalize isT s x = q at HT
  go_enter Try.func20, Try.ntmps20
  go_wp2_with (first
    | (go_at_call 27; refine (isTalkLimit_any _ _).mono ?_; rintro e w' ⟨rfl, rfl⟩; rw [hL]; clear hL)
    | (go_at_call 30; refine (HU.out _).mono ?_; rintro e w1 ⟨v, rfl, hO, hb1⟩;
       have hb1' : Below w.heap.size w w1 := HB.out.trans (hb1.mono (by simp <;> omega));
       have c0 : w1.cell? ⟨w.heap.size, 0, none⟩ = some (.int .u8 u) := below_cells2 hb1 (by simp [go_sem]);
       have c1 : w1.cell? ⟨w.heap.size + 1, 0, none⟩ = some (.int .i64 x) := below_cells2 hb1 (by simp [go_sem]);
       have HA := Lib.hid (HT.out _ _ w1 c0 c1); clear c0 c1 hb1)
    | (go_at_call 29; refine (whenT_any _ _ q _ v ds w1 hO HP.out HA.out).mono ?_; rintro e w2 ⟨v2, rfl, hO2, hb2⟩)
    | (go_at_call 28; refine (rowsOf_any _ v2 (ds.filter q) w2 hO2 (prB_filter HP.out q).1).mono ?_; rintro e w3 ⟨v3, vs3, rfl, hO3, hb3⟩))
  have hz1 := hb1'.size
  have hz2 := hb2.size
  have hz3 := hb3.size
  have hf : Below w.heap.size w w3 := (hb1'.trans (hb2.mono hz1)).trans (hb3.mono (by omega))
  have hS : OwnSS w.heap.size w3.heap.size w3 v3 vs3 (rowsD (ds.filter q)) := ⟨hO3.len, own_base hO3.outer (by omega), hO3.obl, fun i hi => (hO3.row i hi).mono (by omega), hO3.rbl, hO3.apart⟩
  clear hO hO2 hO3 HA
  go_ret2
  exact ⟨_, _, rfl, hS, hf⟩
set_option maxHeartbeats 1600000 in
theorem pwt_no (u : Int) (n x : Int) (w : World) (h : inB n 2 40 = false ∨ x < 0) :
    Calls Try.prog 20 #[.int .i64 n, .int .u8 u, .int .i64 x] w (RetSSB [] false w) := by
  have HB := Lib.hid (((Below.refl w.heap.size w).alloc (Nat.le_refl _) (.cells #[.int .u8 u] 5)).alloc (by simp) (.cells #[.int .i64 x] 3))
  cases hL : inB n 2 40 with
  | false =>
    go_enter Try.func20, Try.ntmps20
    go_wp2_with (first | (go_at_call 27; refine (isTalkLimit_any _ _).mono ?_; rintro e w' ⟨rfl, rfl⟩; rw [hL]))
    go_ret2
    exact ⟨_, [], rfl, ownSS_nil _ _ _, HB.out⟩
  | true =>
    have hx : x < 0 := by rcases h with h | h; rw [hL] at h; simp at h; exact h
    clear h
    go_enter Try.func20, Try.ntmps20
    go_wp2_with (first | (go_at_call 27; refine (isTalkLimit_any _ _).mono ?_; rintro e w' ⟨rfl, rfl⟩; rw [hL]))
    go_ret2
    exact ⟨_, [], rfl, ownSS_nil _ _ _, HB.out⟩
theorem implPairs (s : Bool) (n x : Int) (w : World) (rss : List (List Int)) (ok : Bool) (F : FuncId) (h : ∀ w, Calls Try.prog 20 #[.int .i64 n, whoV s, .int .i64 x] w (RetSSB rss ok w)) :
    (s = true → Calls Try.prog 9 #[.int .i64 n, .int .i64 x] w (RetSSB rss ok w)) ∧ (s = false → Calls Try.prog 14 #[.int .i64 n, .int .i64 x] w (RetSSB rss ok w)) := by
  constructor
  · rintro rfl
    have H := Lib.hid (show ∀ w, Calls Try.prog 20 #[.int .i64 n, .int .u8 115, .int .i64 x] w (RetSSB rss ok w) from h)
    clear h
    go_enter Try.func9, Try.ntmps9
    go_wp2_with (go_at_call 20; refine (H.out _).mono ?_; rintro e w2 ⟨v, vs, rfl, hO, hb⟩)
    go_ret2
    exact ⟨_, _, rfl, hO, hb⟩
  · rintro rfl
    have H := Lib.hid (show ∀ w, Calls Try.prog 20 #[.int .i64 n, .int .u8 112, .int .i64 x] w (RetSSB rss ok w) from h)
    clear h
    go_enter Try.func14, Try.ntmps14
    go_wp2_with (go_at_call 20; refine (H.out _).mono ?_; rintro e w2 ⟨v, vs, rfl, hO, hb⟩)
    go_ret2
    exact ⟨_, _, rfl, hO, hb⟩
theorem small_rows (ds : List Dt) (h : ds.length ≤ 1640) : Small (rowsD ds) := by
  refine ⟨by rw [rowsD_len]; omega, fun i hi => ?_⟩
  rw [rowsD_len] at hi
  rw [rowsD_at ds i hi]; simp
/-- Pairs with a told number: opaque answers for both texts. -/
theorem pairsTold_both (n x : Int) : ∀ s : Bool, ∃ (rss : List (List Int)) (ok : Bool), Small rss ∧
    (s = true → (∀ w, Calls Try.prog 8 #[.int .i64 n, .int .i64 x] w (RetSSB rss ok w)) ∧ (∀ w, Calls Try.prog 9 #[.int .i64 n, .int .i64 x] w (RetSSB rss ok w))) ∧
    (s = false → (∀ w, Calls Try.prog 13 #[.int .i64 n, .int .i64 x] w (RetSSB rss ok w)) ∧ (∀ w, Calls Try.prog 14 #[.int .i64 n, .int .i64 x] w (RetSSB rss ok w))) := by
  intro s
  by_cases hc : inB n 2 40 = true ∧ 0 ≤ x
  · obtain ⟨h1, h2⟩ := hc
    have hb := inB_iff.1 h1
    obtain ⟨m, rfl⟩ : ∃ m : Nat, n = m := ⟨n.toNat, by omega⟩
    refine ⟨_, true, small_rows _ (prB_filter (prs_prB m (by omega)) (isT s x)).1, ?_, ?_⟩
    · rintro rfl
      exact ⟨fun w => specS_yes m x w (by omega) (by omega) h2, fun w => (implPairs true m x w _ _ 0 (fun w => pwt_yes true m x w (by omega) (by omega) h2)).1 rfl⟩
    · rintro rfl
      exact ⟨fun w => specP_yes m x w (by omega) (by omega) h2, fun w => (implPairs false m x w _ _ 0 (fun w => pwt_yes false m x w (by omega) (by omega) h2)).2 rfl⟩
  · have hno : inB n 2 40 = false ∨ x < 0 := by
      cases h : inB n 2 40 with
      | false => exact .inl rfl
      | true => exact .inr (by by_cases hx : 0 ≤ x; exact absurd ⟨h, hx⟩ hc; omega)
    refine ⟨[], false, ⟨by simp, fun i hi => by simp at hi⟩, ?_, ?_⟩
    · rintro rfl
      exact ⟨fun w => specS_no n x w hno, fun w => (implPairs true n x w _ _ 0 (fun w => pwt_no 115 n x w hno)).1 rfl⟩
    · rintro rfl
      exact ⟨fun w => specP_no n x w hno, fun w => (implPairs false n x w _ _ 0 (fun w => pwt_no 112 n x w hno)).2 rfl⟩
theorem pairsOfSum_both (n x : Int) : ∃ (rss : List (List Int)) (ok : Bool), Small rss ∧ (∀ w, Calls Try.prog 8 #[.int .i64 n, .int .i64 x] w (RetSSB rss ok w)) ∧ (∀ w, Calls Try.prog 9 #[.int .i64 n, .int .i64 x] w (RetSSB rss ok w)) := by
  obtain ⟨rss, ok, h, h1, _⟩ := pairsTold_both n x true
  exact ⟨rss, ok, h, h1 rfl⟩
theorem pairsOfProduct_both (n x : Int) : ∃ (rss : List (List Int)) (ok : Bool), Small rss ∧ (∀ w, Calls Try.prog 13 #[.int .i64 n, .int .i64 x] w (RetSSB rss ok w)) ∧ (∀ w, Calls Try.prog 14 #[.int .i64 n, .int .i64 x] w (RetSSB rss ok w)) := by
  obtain ⟨rss, ok, h, _, h1⟩ := pairsTold_both n x false
  exact ⟨rss, ok, h, h1 rfl⟩
end Go.Proofs.Ytlfbhpeehidjhaa
