/- What a family is: the model's text. -/
import Derived.Test.YtmlcelleohhmcaaKinHelp2
import Derived.Test.YtmlcelleohhmcaaLimH
set_option linter.unusedVariables false
set_option linter.unusedSimpArgs false
namespace Go.Proofs.Ytmlcelleohhmcaa
open Go.RowKit

/-- The births of the first m are years. -/
def Bd (fs : List Kn) (m : Nat) : Prop := ∀ j, j < m → 0 ≤ (at3 fs j).1 ∧ (at3 fs j).1 ≤ 3000
theorem bd_of {fs : List Kn} {m : Nat} (h : fitsTo fs m = true) : Bd fs m := fun j hj => fitB_born (fitsTo_at h j hj)
set_option maxHeartbeats 1000000 in
theorem faOlder_any (b m c : Nat) (fs : List Kn) (p y : Int) (w : World) (hm : m ≤ 14) (hI : ∀ j, j < m → w.cell? ⟨b, j * 3, none⟩ = some (.int .i64 (at3 fs j).1)) (hB : Bd fs m) (hy : 0 ≤ y ∧ y ≤ 3000) :
    Calls Try.prog 85 #[.slice (some ⟨b, 0, none⟩) m c, .int .i64 p, .int .i64 y] w (RetSame (.bool (olderB fs m p y)) w) := by
  cases h1 : inB p 0 ((m : Int) - 1) with
  | false =>
    rw [show olderB fs m p y = false by unfold olderB; rw [h1]; rfl]
    go_enter Try.func85, Try.ntmps85
    go_wp2_with (go_at_call 52; refine (l1In_any _ _ _ _).mono ?_; rintro e w' ⟨rfl, rfl⟩)
    go_ret
    exact ⟨rfl, rfl⟩
  | true =>
    have hp := inB_iff.1 h1
    obtain ⟨j, rfl⟩ : ∃ j : Nat, p = j := ⟨p.toNat, by omega⟩
    have hc := hI j (by omega)
    have hb := hB j (by omega)
    have e : olderB fs m (j : Int) y = decide (14 ≤ y - (at3 fs j).1) := by unfold olderB; rw [h1]; simp
    rw [e]; clear e
    generalize (at3 fs j).1 = x at hc hb
    have hj0 : (0 : Int) ≤ (j : Int) := by omega
    have hj1 : (j : Int) < (m : Int) := by omega
    go_enter Try.func85, Try.ntmps85
    go_wp2_with (go_at_call 52; refine (l1In_any _ _ _ _).mono ?_; rintro e w' ⟨rfl, rfl⟩)
    go_ret
    exact ⟨rfl, rfl⟩
set_option maxHeartbeats 2000000 in
theorem faFits_any (b m c : Nat) (fs : List Kn) (y f o : Int) (w : World) (hm : m ≤ 14) (hbl : b < w.heap.size) (hI : ∀ j, j < m → w.cell? ⟨b, j * 3, none⟩ = some (.int .i64 (at3 fs j).1)) (hB : Bd fs m) :
    Calls Try.prog 73 #[.slice (some ⟨b, 0, none⟩) m c, .agg #[.int .i64 y, .int .i64 f, .int .i64 o]] w (Ret (.bool (fitB fs m (y, f, o))) w) := by
  have hw1 := Lib.hid ((Below.refl w.heap.size w).alloc (Nat.le_refl _) (.cells #[.int .i64 y, .int .i64 f, .int .i64 o] 45))
  cases hy : inB y 0 3000 with
  | false =>
    rw [show fitB fs m (y, f, o) = false by unfold fitB; rw [hy]; rfl]
    clear hI hB
    go_enter Try.func73, Try.ntmps73
    go_wp2_with (first | (go_at_call 52; refine (l1In_any _ _ _ _).mono ?_; rintro e w' ⟨rfl, rfl⟩))
    go_ret
    exact ⟨rfl, (Below.refl w.heap.size w).alloc (Nat.le_refl _) _⟩
  | true =>
  have hy' := inB_iff.1 hy
  have HO := Lib.hid (fun (p : Int) (w' : World) (hb : Below w.heap.size w w') => faOlder_any b m c fs p y w' hm (fun j hj => (hb.cell (p := ⟨b, j * 3, none⟩) hbl).trans (hI j hj)) hB hy')
  have HF := Lib.hid (fun (w' : World) (hb : Below w.heap.size w w') => HO.out f w' hb)
  have HP := Lib.hid (fun (w' : World) (hb : Below w.heap.size w w') => HO.out o w' hb)
  clear HO hI hB
  by_cases hf : f = -1
  · subst hf
    by_cases ho : o = -1
    · subst ho
      rw [show fitB fs m (y, -1, -1) = true by unfold fitB; rw [hy]; rfl]
      go_enter Try.func73, Try.ntmps73
      go_wp2_with (first | (go_at_call 52; refine (l1In_any _ _ _ _).mono ?_; rintro e w' ⟨rfl, rfl⟩))
      go_ret
      exact ⟨rfl, (Below.refl w.heap.size w).alloc (Nat.le_refl _) _⟩
    · have ho' : (o == -1) = false := beq_eq_false_iff_ne.2 ho
      rw [show fitB fs m (y, -1, o) = false by unfold fitB; rw [hy]; simp [ho]]
      go_enter Try.func73, Try.ntmps73
      go_wp2_with (first | (go_at_call 52; refine (l1In_any _ _ _ _).mono ?_; rintro e w' ⟨rfl, rfl⟩))
      go_ret
      exact ⟨rfl, (Below.refl w.heap.size w).alloc (Nat.le_refl _) _⟩
  · have hf' : (f == -1) = false := beq_eq_false_iff_ne.2 hf
    cases h1 : olderB fs m f y with
    | false =>
      rw [show fitB fs m (y, f, o) = false by unfold fitB; rw [hy]; simp [hf, h1]]
      rw [h1] at HF
      clear h1
      go_enter Try.func73, Try.ntmps73
      go_wp2_with (first | (go_at_call 52; refine (l1In_any _ _ _ _).mono ?_; rintro e w' ⟨rfl, rfl⟩) | (go_at_call_of 85 (Value.int IntKind.i64 f); refine (HF.out _ (by first | exact Below.refl _ _ | exact hw1.out)).mono ?_; rintro e w' ⟨rfl, rfl⟩))
      go_ret
      exact ⟨rfl, (Below.refl w.heap.size w).alloc (Nat.le_refl _) _⟩
    | true =>
      rw [h1] at HF
      by_cases ho : o = -1
      · subst ho
        rw [show fitB fs m (y, f, -1) = true by unfold fitB; rw [hy]; simp [hf, h1]]
        clear h1
        go_enter Try.func73, Try.ntmps73
        go_wp2_with (first | (go_at_call 52; refine (l1In_any _ _ _ _).mono ?_; rintro e w' ⟨rfl, rfl⟩) | (go_at_call_of 85 (Value.int IntKind.i64 f); refine (HF.out _ (by first | exact Below.refl _ _ | exact hw1.out)).mono ?_; rintro e w' ⟨rfl, rfl⟩))
        go_ret
        exact ⟨rfl, (Below.refl w.heap.size w).alloc (Nat.le_refl _) _⟩
      · have ho' : (o == -1) = false := beq_eq_false_iff_ne.2 ho
        by_cases hfo : f < o
        · rw [show fitB fs m (y, f, o) = olderB fs m o y by unfold fitB; rw [hy]; simp [hf, h1, ho, hfo]]
          clear h1
          generalize olderB fs m o y = r at HP ⊢
          have hne : ¬ f = o := by omega
          go_enter Try.func73, Try.ntmps73
          go_wp2_with (first | (go_at_call 52; refine (l1In_any _ _ _ _).mono ?_; rintro e w' ⟨rfl, rfl⟩) | (go_at_call_of 85 (Value.int IntKind.i64 f); refine (HF.out _ (by first | exact Below.refl _ _ | exact hw1.out)).mono ?_; rintro e w' ⟨rfl, rfl⟩) | (go_at_call_of 85 (Value.int IntKind.i64 o); refine (HP.out _ (by first | exact Below.refl _ _ | exact hw1.out)).mono ?_; rintro e w' ⟨rfl, rfl⟩))
          go_ret
          exact ⟨rfl, (Below.refl w.heap.size w).alloc (Nat.le_refl _) _⟩
        · rw [show fitB fs m (y, f, o) = false by unfold fitB; rw [hy]; simp [hf, h1, ho, hfo]]
          clear h1
          go_enter Try.func73, Try.ntmps73
          go_wp2_with (first | (go_at_call 52; refine (l1In_any _ _ _ _).mono ?_; rintro e w' ⟨rfl, rfl⟩) | (go_at_call_of 85 (Value.int IntKind.i64 f); refine (HF.out _ (by first | exact Below.refl _ _ | exact hw1.out)).mono ?_; rintro e w' ⟨rfl, rfl⟩))
          go_ret
          exact ⟨rfl, (Below.refl w.heap.size w).alloc (Nat.le_refl _) _⟩
theorem triple_eta (ds : List Kn) (k : Nat) : at3 ds k = ((at3 ds k).1, (at3 ds k).2.1, (at3 ds k).2.2) := rfl
set_option maxHeartbeats 2000000 in
theorem faGood_any (b n c : Nat) (fs : List Kn) (w : World) (hl : fs.length = n) (hnc : n ≤ c) (hbl : b < w.heap.size) (hI : Kns w b 0 fs) :
    Calls Try.prog 51 #[.slice (some ⟨b, 0, none⟩) n c] w (Ret (.bool (famB fs)) w) := by
  have HL := Lib.hid hl
  cases hL : inB n 1 14 with
  | false =>
    rw [show famB fs = false by unfold famB; rw [hl, hL]; rfl]
    clear hl
    go_enter Try.func51, Try.ntmps51
    go_wp2_with (go_at_call 52; refine (l1In_any _ _ _ _).mono ?_; rintro e w' ⟨rfl, rfl⟩)
    go_ret
    exact ⟨rfl, Below.refl _ _⟩
  | true =>
    have h8 := inB_iff.1 hL
    have hB : Hid (famB fs = fitsTo fs n) := Lib.hid (by unfold famB; rw [hl, hL]; rfl)
    clear hl
    go_enter Try.func51, Try.ntmps51
    go_wp2_with (go_at_call 52; refine (l1In_any _ _ _ _).mono ?_; rintro e w' ⟨rfl, rfl⟩)
    go_loopw [11] (fun v wr => ∃ k : Nat, k ≤ n ∧ v = .int .i64 k ∧ Hid (fitsTo fs k = true) ∧ Below w.heap.size w wr) (fun v _ => n - (intOf v).toNat)
    case atStart => exact ⟨0, Nat.zero_le _, rfl, Lib.hid rfl, Below.refl _ _⟩
    case round =>
      obtain ⟨k, hk, rfl, HA, hb⟩ := hrel
      have hsz := hb.size
      by_cases hlt : k < n
      · obtain ⟨p1, p2, p3⟩ := (hI.kept hb hbl) k (by rw [HL.out]; exact hlt)
        rw [Nat.zero_add] at p1 p2 p3
        have HK0 := fun (w' : World) (h' : Below w.heap.size w w') => faFits_any b k (c - 0) fs (at3 fs k).1 (at3 fs k).2.1 (at3 fs k).2.2 w' (by omega) (Nat.lt_of_lt_of_le hbl h'.size) (fun j hj => by have := ((hI.kept h' hbl) j (by rw [HL.out]; omega)).1; rwa [Nat.zero_add] at this) (bd_of HA.out)
        rw [← triple_eta fs k] at HK0
        have HS := Lib.hid (fitsTo_succ fs k)
        rw [HA.out, Bool.true_and] at HS
        have HN := Lib.hid (fun h => fitsTo_not (fs := fs) (n := n) k hlt h)
        cases hz : fitB fs k (at3 fs k) with
        | true =>
          rw [hz] at HK0
          rw [hz] at HS
          have HK := Lib.hid HK0
          clear HK0 hz HN
          generalize (at3 fs k).1 = y at p1 HK
          generalize (at3 fs k).2.1 = d at p2 HK
          generalize (at3 fs k).2.2 = o at p3 HK
          have hi0 : (0 : Int) ≤ (k : Int) := by omega
          have hi1 : (k : Int) ≤ (c : Int) := by omega
          have hi2 : ¬ (c : Int) = 0 := by omega
          have hi3 : ¬ c = 0 := by omega
          go_wp2_with fail
          go_region_held3 (fun w' => Below w.heap.size w w' ∧ w'.cell? ⟨wr.heap.size, 0, none⟩ = some (.int .i64 y) ∧ w'.cell? ⟨wr.heap.size, 1, none⟩ = some (.int .i64 d) ∧ w'.cell? ⟨wr.heap.size, 2, none⟩ = some (.int .i64 o))
            (first
              | (exact ⟨(hb.alloc hsz _).drew, by simp [go_sem], by simp [go_sem], by simp [go_sem]⟩)
              | (exact ⟨Below.drew (by assumption), by simpa using (by assumption : World.cell? _ ⟨wr.heap.size, 0, none⟩ = _), by simpa using (by assumption : World.cell? _ ⟨wr.heap.size, 1, none⟩ = _), by simpa using (by assumption : World.cell? _ ⟨wr.heap.size, 2, none⟩ = _)⟩)
              | (go_split_ands
                 refine ⟨?_, ?_, ?_, ?_⟩
                 · exact Below.trans (by assumption) (Below.mono hcall (Below.size (by assumption)))
                 · exact below_cell2 hcall (by assumption)
                 · exact below_cell2 hcall (by assumption)
                 · exact below_cell2 hcall (by assumption)))
            (first | (go_at_call 73; refine (HK.out _ (by first | assumption | (go_split_ands; assumption))).mono ?_; rintro e w' ⟨rfl, hcall⟩))
          obtain ⟨hbf, _⟩ := ‹Below w.heap.size w _ ∧ _›
          go_wp2_with fail
          go_roundw
          case rel => exact ⟨k + 1, by omega, by go_num, Lib.hid HS.out, hbf⟩
          case measure => simp [intOf]; omega
        | false =>
          rw [hz] at HK0
          have HZ := Lib.hid (HN.out hz)
          have HK := Lib.hid HK0
          clear HK0 hz HN HS
          generalize (at3 fs k).1 = y at p1 HK
          generalize (at3 fs k).2.1 = d at p2 HK
          generalize (at3 fs k).2.2 = o at p3 HK
          have hi0 : (0 : Int) ≤ (k : Int) := by omega
          have hi1 : (k : Int) ≤ (c : Int) := by omega
          have hi2 : ¬ (c : Int) = 0 := by omega
          have hi3 : ¬ c = 0 := by omega
          go_wp2_with fail
          go_region_held3 (fun w' => Below w.heap.size w w' ∧ w'.cell? ⟨wr.heap.size, 0, none⟩ = some (.int .i64 y) ∧ w'.cell? ⟨wr.heap.size, 1, none⟩ = some (.int .i64 d) ∧ w'.cell? ⟨wr.heap.size, 2, none⟩ = some (.int .i64 o))
            (first
              | (exact ⟨(hb.alloc hsz _).drew, by simp [go_sem], by simp [go_sem], by simp [go_sem]⟩)
              | (exact ⟨Below.drew (by assumption), by simpa using (by assumption : World.cell? _ ⟨wr.heap.size, 0, none⟩ = _), by simpa using (by assumption : World.cell? _ ⟨wr.heap.size, 1, none⟩ = _), by simpa using (by assumption : World.cell? _ ⟨wr.heap.size, 2, none⟩ = _)⟩)
              | (go_split_ands
                 refine ⟨?_, ?_, ?_, ?_⟩
                 · exact Below.trans (by assumption) (Below.mono hcall (Below.size (by assumption)))
                 · exact below_cell2 hcall (by assumption)
                 · exact below_cell2 hcall (by assumption)
                 · exact below_cell2 hcall (by assumption)))
            (first | (go_at_call 73; refine (HK.out _ (by first | assumption | (go_split_ands; assumption))).mono ?_; rintro e w' ⟨rfl, hcall⟩))
          obtain ⟨hbf, _⟩ := ‹Below w.heap.size w _ ∧ _›
          go_wp2_with fail
          go_ret
          exact ⟨by rw [hB.out, HZ.out]; rfl, hbf⟩
      · have hkn : k = n := by omega
        subst hkn
        go_wp2_with fail
        go_ret
        exact ⟨by rw [hB.out, HA.out]; rfl, hb⟩
end Go.Proofs.Ytmlcelleohhmcaa
