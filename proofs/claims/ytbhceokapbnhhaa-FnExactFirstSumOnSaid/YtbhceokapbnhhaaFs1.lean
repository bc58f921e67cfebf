/- The first date on which the ages have a sum: what holds of it, and the program's search. -/
import Derived.Test.YtbhceokapbnhhaaNx2
import Derived.Test.YtbhceokapbnhhaaIb3
set_option linter.unusedVariables false
set_option linter.unusedSimpArgs false
namespace Go.Proofs.Ytbhceokapbnhhaa
open Go.RowKit

theorem age_mono {b : Dt} (h : dateB b = true) {x x' : Int} (hx : backOk x = true) (hx' : backOk x' = true) (hle : x ≤ x') : ageD b (backD x) ≤ ageD b (backD x') := by
  have h1 := dateB_iff.1 h
  unfold backD
  rw [if_pos hx, if_pos hx']
  unfold ageD
  simp only
  split <;> split <;> omega
theorem sumA_mono {ds : List Dt} (hg : birthsB ds = true) {x x' : Int} (hx : backOk x = true) (hx' : backOk x' = true) (hle : x ≤ x') : ∀ k, k ≤ ds.length → sumA ds (backD x) k ≤ sumA ds (backD x') k
  | 0, _ => Int.le_refl _
  | k + 1, hk => by
    have := sumA_mono hg hx hx' hle k (by omega)
    have := age_mono (birthsB_at hg k (by omega)) hx hx' hle
    unfold sumA
    omega
/-- The number of the first i below n that passes t, or n. -/
def cutT (t : Nat → Bool) (n : Nat) : Nat := match seek t n 0 with | some k => k | none => n
theorem cutT_is {t : Nat → Bool} {n c : Nat} (hc : c ≤ n) (h1 : ∀ i, i < c → t i = false) (h2 : ∀ i, c ≤ i → i < n → t i = true) : cutT t n = c := by
  unfold cutT
  by_cases h : c < n
  · rw [seek_hit n 0 c (by omega) (by omega) (fun j _ hj => h1 j hj) (h2 c (Nat.le_refl _) h)]
  · rw [seek_none n 0 (fun j _ hj => h1 j (by omega))]
    show n = c
    omega
theorem cutT_le (t : Nat → Bool) (n : Nat) : cutT t n ≤ n := by
  have hs : ∀ f k0 k, seek t f k0 = some k → k < k0 + f := by
    intro f
    induction f with
    | zero => intro k0 k h; cases h
    | succ f ih =>
      intro k0 k h
      unfold seek at h
      split at h
      · cases h; omega
      · have := ih _ _ h; omega
  unfold cutT
  cases h : seek t n 0 with
  | none => exact Nat.le_refl _
  | some k => have := hs _ _ _ h; show k ≤ n; omega
/-- The last birth. -/
def fsFrom (ds : List Dt) : Dt := pickTo moreT ds (ds.length - 1)
/-- The sum is reached i days behind the last birth. -/
def fsT (ds : List Dt) (s : Int) (i : Nat) : Bool := decide (s ≤ sumA ds (backD (dys (fsFrom ds) + (i : Int))) ds.length)
def fsN (ds : List Dt) : Nat := (1095365 - dys (fsFrom ds)).toNat
def fsG (ds : List Dt) (s : Int) : Bool := birthsB ds && inB s 0 10000
def fsX (ds : List Dt) (s : Int) : Int := dys (fsFrom ds) + (cutT (fsT ds s) (fsN ds) : Int)
def fsP (ds : List Dt) (s : Int) : Dt := if fsG ds s = true then backD (fsX ds s) else (0, 0)
def fsB (ds : List Dt) (s : Int) : Bool := fsG ds s && backOk (fsX ds s)
theorem fs_no {ds : List Dt} {s : Int} (h : fsG ds s = false) : fsP ds s = (0, 0) ∧ fsB ds s = false := by unfold fsP fsB; rw [h]; exact ⟨rfl, rfl⟩
theorem fs_yes {ds : List Dt} {s : Int} (h : fsG ds s = true) : fsP ds s = backD (fsX ds s) ∧ fsB ds s = backOk (fsX ds s) := by unfold fsP fsB; rw [h]; exact ⟨rfl, rfl⟩
theorem fsFrom_date {ds : List Dt} (h : birthsB ds = true) : dateB (fsFrom ds) = true := by
  have h8 := birthsB_len h
  obtain ⟨j, hj, he⟩ := pick_is moreT ds (ds.length - 1)
  unfold fsFrom
  rw [he]
  exact birthsB_at h j (by omega)
theorem fsN_is {ds : List Dt} (h : birthsB ds = true) : (fsN ds : Int) = 1095365 - dys (fsFrom ds) ∧ fsN ds ≤ 1095365 := by
  have := dys_bounds (fsFrom_date h)
  unfold fsN
  omega
theorem fs_ok {ds : List Dt} (h : birthsB ds = true) {i : Nat} (hi : i < fsN ds) : backOk (dys (fsFrom ds) + (i : Int)) = true := by
  have := fsN_is h
  have := dys_bounds (fsFrom_date h)
  unfold backOk
  exact inB_true (by omega) (by omega)
theorem fs_mono {ds : List Dt} (h : birthsB ds = true) (s : Int) : ∀ a b, a ≤ b → b < fsN ds → fsT ds s a = true → fsT ds s b = true := by
  intro a b hab hb ht
  have h1 := of_decide_eq_true ht
  exact decide_eq_true (Int.le_trans h1 (sumA_mono h (fs_ok h (by omega)) (fs_ok h hb) (by omega) ds.length (Nat.le_refl _)))
/-- On such a day all are born, and the sum that the program finds is the one that the model has. -/
theorem fs_sum {ds : List Dt} (h : birthsB ds = true) {i : Nat} (hi : i < fsN ds) : sumOnR ds (backD (dys (fsFrom ds) + (i : Int))) = sumA ds (backD (dys (fsFrom ds) + (i : Int))) ds.length := by
  obtain ⟨hd1, hd2⟩ := back_date (fs_ok h hi)
  have hall : allBorn ds (backD (dys (fsFrom ds) + (i : Int))) = true := by
    refine allBorn_yes h fun j hj => ?_
    have hm := pick_most ds (ds.length - 1) j (by omega)
    unfold bornD
    rw [birthsB_at h j hj, hd1, hd2, decide_eq_true (show dys (at2 ds j) ≤ dys (fsFrom ds) + (i : Int) by unfold fsFrom; omega)]; rfl
  unfold sumOnR
  rw [if_pos hall]
set_option maxHeartbeats 8000000 in
set_option maxRecDepth 100000 in
theorem search_any (a0 a1 a2 : Addr) (t : Nat → Bool) (n : Nat) (w : World) (hn : n ≤ 2000000)
    (hf : ∀ (i : Nat) (W : World), i < n → Below w.heap.size w W → Calls Try.prog 69 #[.int .i64 i, .pointer (some a0), .pointer (some a1), .pointer (some a2)] W (Ret (.bool (t i)) W))
    (hmono : ∀ a b, a ≤ b → b < n → t a = true → t b = true) :
    Calls Try.prog 68 #[.int .i64 n, .func (.func 69) #[] #[.pointer (some a0), .pointer (some a1), .pointer (some a2)]] w (Ret (.int .i64 (cutT t n : Nat)) w) := by
  have HF := Lib.hid hf
  have HM := Lib.hid hmono
  clear hf hmono
  go_enter Try.func68, Try.ntmps68
  go_wp2_with fail
  go_loopw [5, 6] (fun u v wr => ∃ lo hi : Nat, u = .int .i64 lo ∧ v = .int .i64 hi ∧ lo ≤ hi ∧ hi ≤ n ∧ Below w.heap.size w wr ∧ Hid ((∀ i, i < lo → t i = false) ∧ (∀ i, hi ≤ i → i < n → t i = true))) (fun u v _ => (intOf v).toNat - (intOf u).toNat)
  case atStart => exact ⟨0, n, rfl, rfl, Nat.zero_le _, Nat.le_refl _, Below.refl _ _, Lib.hid ⟨fun i hi => absurd hi (by omega), fun i h1 h2 => absurd h2 (by omega)⟩⟩
  case round =>
    obtain ⟨lo, hi, rfl, rfl, hlh, hin, hb, HI⟩ := hrel
    have hsz := hb.size
    by_cases hlt : lo < hi
    · have hK0 := HF.out ((lo + hi) / 2) wr (by omega) hb
      rw [show (((lo + hi) / 2 : Nat) : Int) = ((lo : Int) + (hi : Int)) / 2 by omega] at hK0
      cases ht : t ((lo + hi) / 2) with
      | true =>
        rw [ht] at hK0
        have HK := Lib.hid hK0
        have HT : Hid ((∀ i, i < lo → t i = false) ∧ (∀ i, (lo + hi) / 2 ≤ i → i < n → t i = true)) := Lib.hid ⟨HI.out.1, fun i h1 h2 => HM.out _ i h1 h2 ht⟩
        clear hK0 ht
        go_wp2_with (refine HK.out.mono ?_; rintro e w2 ⟨rfl, hb2⟩)
        go_roundw
        case rel => exact ⟨lo, (lo + hi) / 2, rfl, by rw [show (((lo + hi) / 2 : Nat) : Int) = ((lo : Int) + (hi : Int)) / 2 by omega], by omega, by omega, hb.trans (hb2.mono hsz), HT⟩
        case measure => simp [intOf]; omega
      | false =>
        rw [ht] at hK0
        have HK := Lib.hid hK0
        have HT : Hid ((∀ i, i < (lo + hi) / 2 + 1 → t i = false) ∧ (∀ i, hi ≤ i → i < n → t i = true)) := Lib.hid ⟨fun i h1 => (by
          cases hz : t i with
          | false => rfl
          | true => rw [HM.out i ((lo + hi) / 2) (by omega) (by omega) hz] at ht; cases ht), HI.out.2⟩
        clear hK0 ht
        go_wp2_with (refine HK.out.mono ?_; rintro e w2 ⟨rfl, hb2⟩)
        go_roundw
        case rel => exact ⟨(lo + hi) / 2 + 1, hi, by rw [show (((lo + hi) / 2 + 1 : Nat) : Int) = ((lo : Int) + (hi : Int)) / 2 + 1 by omega], rfl, by omega, by omega, hb.trans (hb2.mono hsz), HT⟩
        case measure => simp [intOf]; omega
    · obtain rfl : hi = lo := by omega
      have hE := cutT_is hin HI.out.1 HI.out.2
      have HE := Lib.hid hE
      clear hE
      go_wp2_with fail
      go_ret
      rw [HE.out]
      exact ⟨rfl, hb⟩
end Go.Proofs.Ytbhceokapbnhhaa
