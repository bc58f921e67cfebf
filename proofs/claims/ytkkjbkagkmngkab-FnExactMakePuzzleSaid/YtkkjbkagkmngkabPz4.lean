/- What clues tell of ages; how many ages are primes, both texts. -/
import Derived.Test.YtkkjbkagkmngkabPz1
import Derived.Test.YtkkjbkagkmngkabSu1
import Derived.Test.YtkkjbkagkmngkabKindV
set_option linter.unusedVariables false
set_option linter.unusedSimpArgs false
namespace Go.Proofs.Ytkkjbkagkmngkab
open Go.RowKit

/-- 1 for a prime, 0 else. -/
def bn (x : Int) : Int := if prB x.toNat = true then 1 else 0
theorem bn_yes {x : Int} (h : prB x.toNat = true) : bn x = 1 := by unfold bn; rw [if_pos h]
theorem bn_no {x : Int} (h : prB x.toNat = false) : bn x = 0 := by unfold bn; rw [if_neg (by rw [h]; simp)]
theorem bn_bd (x : Int) : 0 ≤ bn x ∧ bn x ≤ 1 := by unfold bn; split <;> omega
/-- How many are primes. -/
def cntP (l : List Int) : Int := sumL (l.map bn)
theorem cntP_take (zs : List Int) (k : Nat) (hk : k < zs.length) : cntP (zs.take (k + 1)) = cntP (zs.take k) + bn (zs.getD k 0) := by
  unfold cntP
  rw [List.take_succ_eq_append_getElem hk, List.map_append, sumL_append]
  simp [sumL, List.getElem?_eq_getElem hk]
theorem cntP_bd (zs : List Int) (k : Nat) (hk : k ≤ zs.length) : 0 ≤ cntP (zs.take k) ∧ cntP (zs.take k) ≤ k := by
  induction k with
  | zero => simp [cntP, sumL]
  | succ k ih =>
    rw [cntP_take zs k (by omega)]
    have := ih (by omega)
    have := bn_bd (zs.getD k 0)
    omega
theorem isPrime_int (x : Int) (w : World) (h0 : 0 ≤ x) (hn : x ≤ 1000) : Calls Try.prog 41 #[.int .i64 x] w (RetSame (.bool (prB x.toNat)) w) := by
  have := isPrime_any x.toNat w (by omega)
  rwa [Int.toNat_of_nonneg h0] at this
theorem countPr_any (q : Nat) (x : Int) (w : World) (h0 : 0 ≤ x) (hn : x ≤ 1000) (hq : w.cell? ⟨q, 0, none⟩ = some (.func (.func 41) #[] #[])) :
    Calls Try.prog 45 #[.int .i64 x, .pointer (some ⟨q, 0, none⟩)] w (RetSame (.int .i64 (bn x)) w) := by
  have HC := Lib.hid (isPrime_int x w h0 hn)
  cases h : prB x.toNat with
  | true =>
    rw [h] at HC
    rw [bn_yes h]
    clear h
    go_enter Try.func45, Try.ntmps45
    go_wp2_with (go_at_call 41; refine HC.out.mono ?_; rintro e w' ⟨rfl, rfl⟩)
    go_ret
    exact ⟨rfl, rfl⟩
  | false =>
    rw [h] at HC
    rw [bn_no h]
    clear h
    go_enter Try.func45, Try.ntmps45
    go_wp2_with (go_at_call 41; refine HC.out.mono ?_; rintro e w' ⟨rfl, rfl⟩)
    go_ret
    exact ⟨rfl, rfl⟩
set_option maxHeartbeats 1600000 in
theorem sumOverPr_any (b off n c q : Nat) (zs : List Int) (w : World) (hl : zs.length = n) (hk : Kids zs) (hI : Ints w b off zs) (hq : w.cell? ⟨q, 0, none⟩ = some (.func (.func 41) #[] #[])) :
    Calls Try.prog 44 #[.slice (some ⟨b, off, none⟩) n c, .func (.func 45) #[] #[.pointer (some ⟨q, 0, none⟩)]] w (RetSame (.int .i64 (cntP zs)) w) := by
  have hn : n ≤ 4 := by have := hk.1; omega
  have HK := Lib.hid (fun k h => cntP_bd zs k h)
  have HA := Lib.hid (fun k h => kid_at hk k h)
  have HT := Lib.hid (fun k h => cntP_take zs k h)
  have HE := Lib.hid (show cntP (zs.take n) = cntP zs by rw [← hl, List.take_length])
  have HL := Lib.hid hl
  clear hk hl
  go_enter Try.func44, Try.ntmps44
  go_wp2
  go_loop [5, 10] (fun s v => ∃ k : Nat, k ≤ n ∧ v = .int .i64 k ∧ s = .int .i64 (cntP (zs.take k))) (fun _ v => n - (intOf v).toNat)
  case atStart => exact ⟨0, Nat.zero_le _, rfl, rfl⟩
  case round =>
    obtain ⟨k, hkn, rfl, rfl⟩ := hrel
    have hs := HK.out k (by rw [HL.out]; exact hkn)
    by_cases hlt : k < n
    · have hc := hI k (by rw [HL.out]; exact hlt)
      have hz := HA.out k (by rw [HL.out]; exact hlt)
      have HS := Lib.hid (HT.out k (by rw [HL.out]; exact hlt))
      have hbd := bn_bd (zs.getD k 0)
      have HC := Lib.hid (countPr_any q (zs.getD k 0) w (by omega) (by omega) hq)
      generalize zs.getD k 0 = x at hc hz HS hbd HC
      generalize cntP (zs.take k) = s at hs HS ⊢
      generalize bn x = y at HS hbd HC
      go_wp2_with (go_at_call 45; refine HC.out.mono ?_; rintro e w' ⟨rfl, rfl⟩)
      go_round
      case rel => exact ⟨k + 1, by omega, by go_num, by rw [HS.out]⟩
      case measure => simp [intOf]; omega
    · have hkn2 : k = n := by omega
      subst hkn2
      rw [HE.out]
      go_wp2
      go_ret
      exact ⟨rfl, rfl⟩
theorem countPrimes_any (b n c : Nat) (zs : List Int) (w : World) (hl : zs.length = n) (hk : Kids zs) (hbl : b < w.heap.size) (hI : Ints w b 0 zs) :
    Calls Try.prog 36 #[.slice (some ⟨b, 0, none⟩) n c, .func (.func 41) #[] #[]] w (Ret (.int .i64 (cntP zs)) w) := by
  have HW := Lib.hid ((Below.refl w.heap.size w).alloc (Nat.le_refl _) (.cells #[.func (.func 41) #[] #[]] 49))
  have HC := Lib.hid (sumOverPr_any b 0 n c w.heap.size zs (w.alloc (.cells #[.func (.func 41) #[] #[]] 49)) hl hk (hI.kept HW.out hbl) (by simp [go_sem]))
  clear hI
  go_enter Try.func36, Try.ntmps36
  go_wp2_with (go_at_call 44; refine HC.out.mono ?_; rintro e w' ⟨rfl, rfl⟩)
  go_ret
  exact ⟨rfl, HW.out⟩

theorem sP_list' : ({ data := #[112] } : ByteArray).toList = [112] := by decide +kernel
theorem kiIs_pp (x : Int) (w : World) (h0 : 0 ≤ x) (hn : x ≤ 960) : Calls Try.prog 47 #[.int .i64 x, .string { data := #[112] }] w (RetSame (.bool (prB x.toNat)) w) := by
  have HC := Lib.hid (kiPrime_any x.toNat w (by omega))
  rw [Int.toNat_of_nonneg h0] at HC
  have l1 := sP_list'
  go_enter Try.func47, Try.ntmps47
  go_wp2_with (first | (go_at_call 48; refine HC.out.mono ?_; rintro e w' ⟨rfl, rfl⟩))
  go_ret
  exact ⟨rfl, rfl⟩
set_option maxHeartbeats 1600000 in
theorem kiCount_pr (b off n c : Nat) (zs : List Int) (w : World) (hl : zs.length = n) (hk : Kids zs) (hI : Ints w b off zs) :
    Calls Try.prog 43 #[.slice (some ⟨b, off, none⟩) n c, .int .i64 0, .string { data := #[112] }] w (RetSame (.int .i64 (cntP zs)) w) := by
  have hn : n ≤ 4 := by have := hk.1; omega
  have HK := Lib.hid (fun k h => cntP_bd zs k h)
  have HA := Lib.hid (fun k h => kid_at hk k h)
  have HT := Lib.hid (fun k h => cntP_take zs k h)
  have HE := Lib.hid (show cntP (zs.take n) = cntP zs by rw [← hl, List.take_length])
  have HL := Lib.hid hl
  clear hk hl
  go_enter Try.func43, Try.ntmps43
  go_wp2
  go_loop [7, 12] (fun s v => ∃ k : Nat, k ≤ n ∧ v = .int .i64 k ∧ s = .int .i64 (cntP (zs.take k))) (fun _ v => n - (intOf v).toNat)
  case atStart => exact ⟨0, Nat.zero_le _, rfl, rfl⟩
  case round =>
    obtain ⟨k, hkn, rfl, rfl⟩ := hrel
    have hs := HK.out k (by rw [HL.out]; exact hkn)
    by_cases hlt : k < n
    · have hc := hI k (by rw [HL.out]; exact hlt)
      have hz := HA.out k (by rw [HL.out]; exact hlt)
      have HS := Lib.hid (HT.out k (by rw [HL.out]; exact hlt))
      have HC := Lib.hid (kiIs_pp (zs.getD k 0) w (by omega) (by omega))
      cases hp : prB (zs.getD k 0).toNat with
      | true =>
        rw [hp] at HC
        rw [bn_yes hp] at HS
        clear hp
        generalize zs.getD k 0 = x at hc hz HC
        generalize cntP (zs.take k) = s at hs HS ⊢
        go_wp2_with (go_at_call 47; refine HC.out.mono ?_; rintro e w' ⟨rfl, rfl⟩)
        go_round
        case rel => exact ⟨k + 1, by omega, by go_num, by rw [HS.out]⟩
        case measure => simp [intOf]; omega
      | false =>
        rw [hp] at HC
        rw [bn_no hp, Int.add_zero] at HS
        clear hp
        generalize zs.getD k 0 = x at hc hz HC
        generalize cntP (zs.take k) = s at hs HS ⊢
        go_wp2_with (go_at_call 47; refine HC.out.mono ?_; rintro e w' ⟨rfl, rfl⟩)
        go_round
        case rel => exact ⟨k + 1, by omega, by go_num, by rw [HS.out]⟩
        case measure => simp [intOf]; omega
    · have hkn2 : k = n := by omega
      subst hkn2
      rw [HE.out]
      go_wp2
      go_ret
      exact ⟨rfl, rfl⟩

set_option maxHeartbeats 1600000 in
theorem agSum_kids (b off n c : Nat) (zs : List Int) (w : World) (hl : zs.length = n) (hk : Kids zs) (hI : Ints w b off zs) :
    Calls Try.prog 33 #[.slice (some ⟨b, off, none⟩) n c] w (RetSame (.int .i64 (sumL zs)) w) := by
  have hn : n ≤ 4 := by have := hk.1; omega
  have HK := Lib.hid (fun k h => kid_sum hk k h)
  have HA := Lib.hid (fun k h => kid_at hk k h)
  have HT := Lib.hid (fun k h => sumL_take zs k h)
  have HE := Lib.hid (show sumL (zs.take n) = sumL zs by rw [← hl, List.take_length])
  have HL := Lib.hid hl
  clear hk hl
  go_enter Try.func33, Try.ntmps33
  go_wp2
  go_loop [3, 8] (fun s v => ∃ k : Nat, k ≤ n ∧ v = .int .i64 k ∧ s = .int .i64 (sumL (zs.take k))) (fun _ v => n - (intOf v).toNat)
  case atStart => exact ⟨0, Nat.zero_le _, rfl, rfl⟩
  case round =>
    obtain ⟨k, hkn, rfl, rfl⟩ := hrel
    have hs := HK.out k (by rw [HL.out]; exact hkn)
    by_cases hlt : k < n
    · have hc := hI k (by rw [HL.out]; exact hlt)
      have hz := HA.out k (by rw [HL.out]; exact hlt)
      have HS := Lib.hid (HT.out k (by rw [HL.out]; exact hlt))
      generalize zs.getD k 0 = x at hc hz HS
      generalize sumL (zs.take k) = s at hs HS ⊢
      go_wp2
      go_round
      case rel => exact ⟨k + 1, by omega, by go_num, by rw [HS.out]⟩
      case measure => simp [intOf]; omega
    · have hkn2 : k = n := by omega
      subst hkn2
      rw [HE.out]
      go_wp2
      go_ret
      exact ⟨rfl, rfl⟩

/-- The one who is next, around. -/
def nxV (l : List Int) (a : Nat) : Int := l.getD ((a + 1) % l.length) 0
/-- What a clue of a kind below 6 tells. -/
def valK (k : Int) (a : Nat) (l : List Int) : Int :=
  if k = 0 then sumL l else if k = 1 then l.getD a 0 else if k = 2 then prodL l else if k = 3 then (if nxV l a < l.getD a 0 then 1 else 0) else if k = 4 then cntP l else (if l.getD a 0 % nxV l a = 0 then 1 else 0)
def whoK (k : Int) (a : Nat) : Int := if k = 1 ∨ k = 3 ∨ k = 5 then a else 0
/-- Whether ages fit a clue. -/
def fitI (c : Kn) (l : List Int) : Bool := if c.1 = 6 then (sumL l + c.2.1 * (l.length : Int)) % c.2.2 == 0 else valK c.1 c.2.1.toNat l == c.2.2
/-- Ages of two or three hidden people. -/
def Hdn (l : List Int) : Prop := (l.length = 2 ∨ l.length = 3) ∧ ∀ x ∈ l, 1 ≤ x ∧ x ≤ 12
theorem Hdn.kids {l : List Int} (h : Hdn l) : Kids l := ⟨by have := h.1; omega, fun x hx => by have := h.2 x hx; omega⟩
end Go.Proofs.Ytkkjbkagkmngkab
