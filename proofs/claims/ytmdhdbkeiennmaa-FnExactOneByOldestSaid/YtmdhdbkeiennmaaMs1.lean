/- MostSets: both texts; which ranges of products there are. -/
import Derived.Test.YtmdhdbkeiennmaaLk2
set_option linter.unusedVariables false
set_option linter.unusedSimpArgs false
namespace Go.Proofs.Ytmdhdbkeiennmaa
open Go.RowKit

/-- A list's value, told by its length. -/
theorem ownSS_lit {B U : Nat} {w : World} {v : Value} {vs : List Value} {rss : List (List Int)} (h : OwnSS B U w v vs rss) : ∃ a c, v = .slice a rss.length c := by
  rcases h.cases with ⟨rfl, rfl⟩ | ⟨g, c, rfl, _⟩
  · exact ⟨none, 0, rfl⟩
  · exact ⟨_, c, rfl⟩
def rangeB (N F T : Int) : Bool := inB N 1 4 && (inB F 1 160000 && (inB T 1 160000 && inB (T - F) 0 1000))
theorem between_any (F T : Int) (w : World) : Calls Try.prog 61 #[.int .i64 F, .int .i64 T] w (RetSame (.bool (inB F 1 160000 && (inB T 1 160000 && inB (T - F) 0 1000))) w) := by
  have H1 := Lib.hid (fun W => isChildrenProduct_any F W)
  have H2 := Lib.hid (fun W => isChildrenProduct_any T W)
  cases e1 : inB F 1 160000 with
  | false =>
    rw [e1] at H1
    clear e1
    go_enter Try.func61, Try.ntmps61
    go_wp2_with (first | (go_at_call_of 42 (Value.int IntKind.i64 F); refine (H1.out _).mono ?_; rintro e w' ⟨rfl, rfl⟩))
    go_ret
    exact ⟨rfl, rfl⟩
  | true =>
    rw [e1] at H1
    have hF := inB_iff.1 e1
    clear e1
    cases e2 : inB T 1 160000 with
    | false =>
      rw [e2] at H2
      clear e2
      by_cases hFT : F = T
      · subst hFT
        go_enter Try.func61, Try.ntmps61
        go_wp2_with (first | (go_at_call 42; refine (H2.out _).mono ?_; rintro e w' ⟨rfl, rfl⟩))
        go_ret
        exact ⟨rfl, rfl⟩
      go_enter Try.func61, Try.ntmps61
      go_wp2_with (first | (go_at_call_of 42 (Value.int IntKind.i64 F); refine (H1.out _).mono ?_; rintro e w' ⟨rfl, rfl⟩) | (go_at_call_of 42 (Value.int IntKind.i64 T); refine (H2.out _).mono ?_; rintro e w' ⟨rfl, rfl⟩))
      go_ret
      exact ⟨rfl, rfl⟩
    | true =>
      rw [e2] at H2
      have hT := inB_iff.1 e2
      clear e2
      have H3 := Lib.hid (fun W => isWithin_any (T - F) 0 1000 W)
      have hw : IntKind.i64.wrap (T - F) = T - F := IntWalk.i64_in _ (by omega)
      rw [Bool.true_and, Bool.true_and]
      generalize inB (T - F) 0 1000 = r at H3 ⊢
      by_cases hFT : F = T
      · subst hFT
        go_enter Try.func61, Try.ntmps61
        go_wp2_with (first | (go_at_call 42; refine (H2.out _).mono ?_; rintro e w' ⟨rfl, rfl⟩) | (go_at_call 64; refine (by simpa using H3.out _ : Calls _ _ _ _ _).mono ?_; rintro e w' ⟨rfl, rfl⟩))
        go_ret
        exact ⟨rfl, rfl⟩
      go_enter Try.func61, Try.ntmps61
      go_wp2_with (first | (go_at_call_of 42 (Value.int IntKind.i64 F); refine (H1.out _).mono ?_; rintro e w' ⟨rfl, rfl⟩) | (go_at_call_of 42 (Value.int IntKind.i64 T); refine (H2.out _).mono ?_; rintro e w' ⟨rfl, rfl⟩) | (go_at_call 64; refine (H3.out _).mono ?_; rintro e w' ⟨rfl, rfl⟩))
      go_ret
      exact ⟨rfl, rfl⟩
theorem siRange_any (N F T : Int) (w : World) : Calls Try.prog 60 #[.int .i64 N, .int .i64 F, .int .i64 T] w (RetSame (.bool (rangeB N F T)) w) := by
  have H1 := Lib.hid (fun W => siChildren_any N T W)
  have H2 := Lib.hid (fun W => l1In_any F 1 T W)
  cases e1 : prodOk N T with
  | false =>
    have HR := Lib.hid (show rangeB N F T = false by
      unfold prodOk at e1
      unfold rangeB
      cases a : inB N 1 4 <;> cases b : inB F 1 160000 <;> cases c : inB T 1 160000 <;> simp_all)
    rw [e1] at H1
    clear e1
    go_enter Try.func60, Try.ntmps60
    go_wp2_with (first | (go_at_call 39; refine (H1.out _).mono ?_; rintro e w' ⟨rfl, rfl⟩))
    go_ret
    exact ⟨by rw [HR.out]; rfl, rfl⟩
  | true =>
    have e1' := e1
    unfold prodOk at e1'
    rw [Bool.and_eq_true, inB_iff, inB_iff] at e1'
    rw [e1] at H1
    clear e1
    cases e2 : inB F 1 T with
    | false =>
      have HR := Lib.hid (show rangeB N F T = false by
        have h2 := inB_not.1 e2
        unfold rangeB
        rw [Bool.eq_false_iff]
        intro h
        rw [Bool.and_eq_true, Bool.and_eq_true, Bool.and_eq_true, inB_iff, inB_iff, inB_iff, inB_iff] at h
        omega)
      rw [e2] at H2
      clear e2
      go_enter Try.func60, Try.ntmps60
      go_wp2_with (first | (go_at_call 39; refine (H1.out _).mono ?_; rintro e w' ⟨rfl, rfl⟩) | (go_at_call 62; refine (H2.out _).mono ?_; rintro e w' ⟨rfl, rfl⟩))
      go_ret
      exact ⟨by rw [HR.out]; rfl, rfl⟩
    | true =>
      have h2 := inB_iff.1 e2
      have HR := Lib.hid (show rangeB N F T = decide (T - F ≤ 1000) by
        unfold rangeB
        rw [Bool.eq_iff_iff, Bool.and_eq_true, Bool.and_eq_true, Bool.and_eq_true, inB_iff, inB_iff, inB_iff, inB_iff, decide_eq_true_eq]
        omega)
      rw [e2] at H2
      have hw : IntKind.i64.wrap (T - F) = T - F := IntWalk.i64_in _ (by omega)
      clear e2
      go_enter Try.func60, Try.ntmps60
      go_wp2_with (first | (go_at_call 39; refine (H1.out _).mono ?_; rintro e w' ⟨rfl, rfl⟩) | (go_at_call 62; refine (H2.out _).mono ?_; rintro e w' ⟨rfl, rfl⟩))
      go_ret
      exact ⟨by rw [HR.out]; rfl, rfl⟩

/-- The product with the most sets among the first k, and how many. -/
def mostF (c : Int → Int) (F b0 m0 : Int) : Nat → Int × Int
  | 0 => (b0, m0)
  | k + 1 => if (mostF c F b0 m0 k).2 < c (F + k) then (F + k, c (F + k)) else mostF c F b0 m0 k
theorem mostF_eq (c : Int → Int) (F : Int) (h : ∀ x, 0 ≤ c x) : ∀ k, mostF c F F (-1) (k + 1) = mostF c F F 0 (k + 1)
  | 0 => by
    have h0 := h (F + ((0 : Nat) : Int))
    have e : F + ((0 : Nat) : Int) = F := by omega
    rw [e] at h0
    have a1 : mostF c F F (-1) (0 + 1) = if (-1 : Int) < c (F + ((0 : Nat) : Int)) then (F + ((0 : Nat) : Int), c (F + ((0 : Nat) : Int))) else (F, -1) := rfl
    have a2 : mostF c F F 0 (0 + 1) = if (0 : Int) < c (F + ((0 : Nat) : Int)) then (F + ((0 : Nat) : Int), c (F + ((0 : Nat) : Int))) else (F, 0) := rfl
    rw [a1, a2, e, if_pos (by omega)]
    by_cases h1 : 0 < c F
    · rw [if_pos h1]
    · rw [if_neg h1]
      have : c F = 0 := by omega
      rw [this]
  | k + 1 => by
    have a1 : ∀ m, mostF c F F m (k + 1 + 1) = if (mostF c F F m (k + 1)).2 < c (F + ((k + 1 : Nat) : Int)) then (F + ((k + 1 : Nat) : Int), c (F + ((k + 1 : Nat) : Int))) else mostF c F F m (k + 1) := fun m => rfl
    rw [a1, a1, mostF_eq c F h k]
theorem mostF_succ (c : Int → Int) (F b0 m0 : Int) (k : Nat) : mostF c F b0 m0 (k + 1) = if (mostF c F b0 m0 k).2 < c (F + k) then (F + k, c (F + k)) else mostF c F b0 m0 k := rfl
theorem mostF_bd (c : Int → Int) (F b0 m0 : Int) (h : ∀ x, 0 ≤ c x ∧ c x ≤ 160000) (hm : -1 ≤ m0 ∧ m0 ≤ 160000) : ∀ k, -1 ≤ (mostF c F b0 m0 k).2 ∧ (mostF c F b0 m0 k).2 ≤ 160000
  | 0 => hm
  | k + 1 => by
    rw [mostF_succ]
    split
    · have := h (F + k); simp only; omega
    · exact mostF_bd c F b0 m0 h hm k
def cntP (n : Nat) (P : Int) : Int := ((setsP n P).length : Nat)
theorem cntP_bd {n : Nat} (hn : n ≤ 4) (P : Int) : 0 ≤ cntP n P ∧ cntP n P ≤ 160000 := by
  have := setsP_length P hn
  unfold cntP; omega
set_option maxHeartbeats 4000000 in
set_option maxRecDepth 100000 in
theorem imMost_yes (n : Nat) (F T : Int) (w : World) (h : rangeB n F T = true) :
    Calls Try.prog 38 #[.int .i64 n, .int .i64 F, .int .i64 T] w (RetIIB (mostF (cntP n) F F 0 (T - F + 1).toNat).1 (mostF (cntP n) F F 0 (T - F + 1).toNat).2 true w) := by
  have h' := h
  unfold rangeB at h'
  rw [Bool.and_eq_true] at h'
  have H1 := Lib.hid (fun W => areChildren_any n W)
  have H2 := Lib.hid (fun W => between_any F T W)
  rw [h'.1] at H1
  rw [h'.2] at H2
  rw [Bool.and_eq_true, Bool.and_eq_true, inB_iff, inB_iff, inB_iff, inB_iff] at h'
  obtain ⟨b1, b2, b3, b4⟩ := h'
  have HC := Lib.hid (fun (P : Int) (hP : 1 ≤ P ∧ P ≤ 160000) (W : World) => (show Calls Try.prog 19 #[.int .i64 n, .int .i64 P] W (RetIB (cntP n P) true W) from imCountSets_of n P (setsP n P) true W (fun W2 => imSetsOf_yes n P W2 (by unfold prodOk; rw [Bool.and_eq_true, inB_iff, inB_iff]; omega))))
  have HB := Lib.hid (fun k => mostF_bd (cntP n) F F 0 (fun x => cntP_bd (by omega) x) (by omega) k)
  have HBc := Lib.hid (fun x => cntP_bd (n := n) (by omega) x)
  have HS := Lib.hid (fun k => mostF_succ (cntP n) F F 0 k)
  clear h
  generalize cntP n = cn at HC HB HS HBc ⊢
  go_enter Try.func38, Try.ntmps38
  go_wp2_with (first | (go_at_call 41; refine (H1.out _).mono ?_; rintro e w' ⟨rfl, rfl⟩) | (go_at_call 61; refine (H2.out _).mono ?_; rintro e w' ⟨rfl, rfl⟩))
  go_loopw [9, 10, 11] (fun u v t wr => ∃ (k : Nat) (b m p : Int), (k : Int) ≤ T - F + 1 ∧ p = F + k ∧ t = .int .i64 p ∧ u = .int .i64 b ∧ v = .int .i64 m ∧ Hid (mostF cn F F 0 k = (b, m)) ∧ Below w.heap.size w wr) (fun _ _ t _ => (T + 1 - intOf t).toNat)
  case atStart => exact ⟨0, F, 0, F, by omega, by omega, rfl, rfl, rfl, Lib.hid rfl, Below.refl _ _⟩
  case round =>
    obtain ⟨k, b, m, p, hk, hp, rfl, rfl, rfl, HM, hb⟩ := hrel
    have hbm := HB.out k
    rw [HM.out] at hbm
    simp only at hbm
    have HPk := Lib.hid hp
    have hpF : F ≤ p := by omega
    have hk2 : (k : Int) = p - F := by omega
    have HK2 := Lib.hid hk2
    by_cases hle : p ≤ T
    · have hp1 : 1 ≤ p ∧ p ≤ 160000 := by omega
      have HC' := Lib.hid (HC.out p hp1 wr)
      have HS' := Lib.hid (HS.out k)
      rw [HM.out, ← hp] at HS'
      clear hp hk2 hk
      have hcb := HBc.out p
      generalize cn p = c at HC' HS' hcb
      by_cases hlt : m < c
      · have HM2 : Hid (mostF cn F F 0 (k + 1) = (p, c)) := Lib.hid (by rw [HS'.out, if_pos hlt])
        clear HS' hbm
        go_wp2_with (go_at_call 19; refine HC'.out.mono ?_; rintro e w' ⟨rfl, hb2⟩)
        go_roundw
        case rel => exact ⟨k + 1, p, _, p + 1, by have := HK2.out; omega, by have := HPk.out; omega, by go_num, rfl, rfl, HM2, hb.trans (hb2.mono hb.size)⟩
        case measure => simp [intOf]; omega
      · have HM2 : Hid (mostF cn F F 0 (k + 1) = (b, m)) := Lib.hid (by rw [HS'.out, if_neg hlt])
        clear HS' hbm
        go_wp2_with (go_at_call 19; refine HC'.out.mono ?_; rintro e w' ⟨rfl, hb2⟩)
        go_roundw
        case rel => exact ⟨k + 1, b, m, p + 1, by have := HK2.out; omega, by have := HPk.out; omega, by go_num, rfl, rfl, HM2, hb.trans (hb2.mono hb.size)⟩
        case measure => simp [intOf]; omega
    · have HE : Hid (mostF cn F F 0 (T - F + 1).toNat = (b, m)) := Lib.hid (by rw [show (T - F + 1).toNat = k by omega]; exact HM.out)
      clear hp hk2 hk
      go_wp2
      go_ret3
      exact ⟨by rw [HE.out]; rfl, hb⟩
set_option maxHeartbeats 4000000 in
set_option maxRecDepth 100000 in
theorem spMost_yes (n : Nat) (F T : Int) (w : World) (h : rangeB n F T = true) :
    Calls Try.prog 37 #[.int .i64 n, .int .i64 F, .int .i64 T] w (RetIIB (mostF (cntP n) F F (-1) (T - F + 1).toNat).1 (mostF (cntP n) F F (-1) (T - F + 1).toNat).2 true w) := by
  have h' := h
  unfold rangeB at h'
  have H1 := Lib.hid (fun W => siRange_any n F T W)
  rw [h] at H1
  rw [Bool.and_eq_true, Bool.and_eq_true, Bool.and_eq_true, inB_iff, inB_iff, inB_iff, inB_iff] at h'
  obtain ⟨b0, b1, b2, b3, b4⟩ := h'
  have HC := Lib.hid (fun (P : Int) (hP : 1 ≤ P ∧ P ≤ 160000) (W : World) => ((siSets_any n P W (by omega) (by omega) hP).mono (fun e W' h => (show ∃ a L c, e = .returned (.slice a L c) ∧ (L : Int) = cntP n P ∧ Below W.heap.size W W' from by
    obtain ⟨v, vs, rfl, ho, hb⟩ := h
    obtain ⟨a, c, rfl⟩ := ownSS_lit ho
    exact ⟨a, _, c, rfl, rfl, hb⟩))))
  have HB := Lib.hid (fun k => mostF_bd (cntP n) F F (-1) (fun x => cntP_bd (by omega) x) (by omega) k)
  have HBc := Lib.hid (fun x => cntP_bd (n := n) (by omega) x)
  have HS := Lib.hid (fun k => mostF_succ (cntP n) F F (-1) k)
  clear h
  generalize cntP n = cn at HC HB HS HBc ⊢
  go_enter Try.func37, Try.ntmps37
  go_wp2_with (first | (go_at_call 60; refine (H1.out _).mono ?_; rintro e w' ⟨rfl, rfl⟩))
  go_loopw [9, 10, 11] (fun u v t wr => ∃ (k : Nat) (b m p : Int), (k : Int) ≤ T - F + 1 ∧ p = F + k ∧ t = .int .i64 p ∧ u = .int .i64 b ∧ v = .int .i64 m ∧ Hid (mostF cn F F (-1) k = (b, m)) ∧ Below w.heap.size w wr) (fun _ _ t _ => (T + 1 - intOf t).toNat)
  case atStart => exact ⟨0, F, -1, F, by omega, by omega, rfl, rfl, rfl, Lib.hid rfl, Below.refl _ _⟩
  case round =>
    obtain ⟨k, b, m, p, hk, hp, rfl, rfl, rfl, HM, hb⟩ := hrel
    have hbm := HB.out k
    rw [HM.out] at hbm
    simp only at hbm
    have HPk := Lib.hid hp
    have hpF : F ≤ p := by omega
    have hk2 : (k : Int) = p - F := by omega
    have HK2 := Lib.hid hk2
    by_cases hle : p ≤ T
    · have hp1 : 1 ≤ p ∧ p ≤ 160000 := by omega
      have HC' := Lib.hid (HC.out p hp1 wr)
      have HS' := Lib.hid (HS.out k)
      rw [HM.out, ← hp] at HS'
      clear hp hk2 hk
      have hcb := HBc.out p
      generalize cn p = c at HC' HS' hcb
      by_cases hlt : m < c
      · have HM2 : Hid (mostF cn F F (-1) (k + 1) = (p, c)) := Lib.hid (by rw [HS'.out, if_pos hlt])
        clear HS' hbm
        go_wp2_with (go_at_call 40; refine HC'.out.mono ?_; rintro e w' ⟨a, L, c2, rfl, rfl, hb2⟩)
        go_roundw
        case rel => exact ⟨k + 1, p, _, p + 1, by have := HK2.out; omega, by have := HPk.out; omega, by go_num, rfl, rfl, HM2, hb.trans (hb2.mono hb.size)⟩
        case measure => simp [intOf]; omega
      · have HM2 : Hid (mostF cn F F (-1) (k + 1) = (b, m)) := Lib.hid (by rw [HS'.out, if_neg hlt])
        clear HS' hbm
        go_wp2_with (go_at_call 40; refine HC'.out.mono ?_; rintro e w' ⟨a, L, c2, rfl, rfl, hb2⟩)
        go_roundw
        case rel => exact ⟨k + 1, b, m, p + 1, by have := HK2.out; omega, by have := HPk.out; omega, by go_num, rfl, rfl, HM2, hb.trans (hb2.mono hb.size)⟩
        case measure => simp [intOf]; omega
    · have HE : Hid (mostF cn F F (-1) (T - F + 1).toNat = (b, m)) := Lib.hid (by rw [show (T - F + 1).toNat = k by omega]; exact HM.out)
      clear hp hk2 hk
      go_wp2
      go_ret3
      exact ⟨by rw [HE.out]; rfl, hb⟩
set_option maxHeartbeats 1600000 in
theorem imMost_no (N F T : Int) (w : World) (h : rangeB N F T = false) :
    Calls Try.prog 38 #[.int .i64 N, .int .i64 F, .int .i64 T] w (RetIIB 0 0 false w) := by
  have H1 := Lib.hid (fun W => areChildren_any N W)
  have H2 := Lib.hid (fun W => between_any F T W)
  unfold rangeB at h
  cases e1 : inB N 1 4 with
  | false =>
    rw [e1] at H1
    clear e1 h
    go_enter Try.func38, Try.ntmps38
    go_wp2_with (first | (go_at_call 41; refine (H1.out _).mono ?_; rintro e w' ⟨rfl, rfl⟩))
    go_ret3
    exact ⟨rfl, Below.refl _ _⟩
  | true =>
    rw [e1] at H1
    rw [e1, Bool.true_and] at h
    rw [h] at H2
    clear e1 h
    go_enter Try.func38, Try.ntmps38
    go_wp2_with (first | (go_at_call 41; refine (H1.out _).mono ?_; rintro e w' ⟨rfl, rfl⟩) | (go_at_call 61; refine (H2.out _).mono ?_; rintro e w' ⟨rfl, rfl⟩))
    go_ret3
    exact ⟨rfl, Below.refl _ _⟩
set_option maxHeartbeats 1600000 in
theorem spMost_no (N F T : Int) (w : World) (h : rangeB N F T = false) :
    Calls Try.prog 37 #[.int .i64 N, .int .i64 F, .int .i64 T] w (RetIIB 0 0 false w) := by
  have H1 := Lib.hid (fun W => siRange_any N F T W)
  rw [h] at H1
  clear h
  go_enter Try.func37, Try.ntmps37
  go_wp2_with (first | (go_at_call 60; refine (H1.out _).mono ?_; rintro e w' ⟨rfl, rfl⟩))
  go_ret3
  exact ⟨rfl, Below.refl _ _⟩
theorem range_nat {N F T : Int} (h : rangeB N F T = true) : ∃ n : Nat, N = n ∧ n ≤ 4 ∧ 1 ≤ n ∧ F ≤ T := by
  unfold rangeB at h
  rw [Bool.and_eq_true, Bool.and_eq_true, Bool.and_eq_true, inB_iff, inB_iff, inB_iff, inB_iff] at h
  exact ⟨N.toNat, by omega, by omega, by omega, by omega⟩
theorem mostSets_both (N F T : Int) : ∃ r1 r2 ok,
    (∀ w, Calls Try.prog 37 #[.int .i64 N, .int .i64 F, .int .i64 T] w (RetIIB r1 r2 ok w)) ∧
    (∀ w, Calls Try.prog 38 #[.int .i64 N, .int .i64 F, .int .i64 T] w (RetIIB r1 r2 ok w)) := by
  cases h : rangeB N F T with
  | false => exact ⟨0, 0, false, fun w => spMost_no N F T w h, fun w => imMost_no N F T w h⟩
  | true =>
    obtain ⟨n, rfl, hn, _, hle⟩ := range_nat h
    have e : (T - F + 1).toNat = (T - F).toNat + 1 := by omega
    have hm := mostF_eq (cntP n) F (fun x => (cntP_bd hn x).1) (T - F).toNat
    refine ⟨_, _, true, fun w => spMost_yes n F T w h, fun w => ?_⟩
    have := imMost_yes n F T w h
    rw [e, ← hm, ← e] at this
    exact this
end Go.Proofs.Ytmdhdbkeiennmaa
