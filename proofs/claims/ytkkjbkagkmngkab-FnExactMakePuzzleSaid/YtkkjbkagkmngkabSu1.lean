/- The sum and the product of ages of children, the program's. -/
import Derived.Test.YtkkjbkagkmngkabSet0
import Derived.Test.YtkkjbkagkmngkabGood
import Derived.BigQuiet
set_option linter.unusedVariables false
set_option linter.unusedSimpArgs false
namespace Go.Proofs.Ytkkjbkagkmngkab
open Go.RowKit

theorem sumL_take (zs : List Int) (k : Nat) (hk : k < zs.length) : sumL (zs.take (k + 1)) = sumL (zs.take k) + zs.getD k 0 := by
  rw [List.take_succ_eq_append_getElem hk, sumL_append]
  simp [sumL, List.getElem?_eq_getElem hk]
theorem prodL_take (zs : List Int) (k : Nat) (hk : k < zs.length) : prodL (zs.take (k + 1)) = prodL (zs.take k) * zs.getD k 0 := by
  rw [List.take_succ_eq_append_getElem hk, prodL_append]
  simp [prodL, List.getElem?_eq_getElem hk]
/-- Ages of at most four children. -/
def Kids (l : List Int) : Prop := l.length ≤ 4 ∧ ∀ x ∈ l, 1 ≤ x ∧ x ≤ 20
theorem kid_at {l : List Int} (h : Kids l) (k : Nat) (hk : k < l.length) : 1 ≤ l.getD k 0 ∧ l.getD k 0 ≤ 20 := by
  have := h.2 l[k] (List.getElem_mem hk)
  simpa [List.getElem?_eq_getElem hk] using this
theorem kid_sum {l : List Int} (h : Kids l) (k : Nat) (hk : k ≤ l.length) : (k : Int) ≤ sumL (l.take k) ∧ sumL (l.take k) ≤ 20 * (k : Int) := by
  have hb := sumL_bd (s := l.take k) (lo := 1) (hi := 20) (fun a ha => h.2 a (List.mem_of_mem_take ha))
  have hl : (l.take k).length = k := by simp; omega
  rw [hl] at hb
  omega
theorem kid_prod {l : List Int} (h : Kids l) : ∀ k, k ≤ l.length → 1 ≤ prodL (l.take k) ∧ prodL (l.take k) ≤ 20 ^ k
  | 0, _ => by simp [prodL]
  | k + 1, hk => by
    have h1 := kid_prod h k (by omega)
    have h2 := kid_at h k (by omega)
    rw [prodL_take l k (by omega)]
    generalize prodL (l.take k) = p at h1 ⊢
    generalize l.getD k 0 = x at h2 ⊢
    have e : (20 : Int) ^ (k + 1) = 20 ^ k * 20 := Int.pow_succ 20 k
    generalize (20 : Int) ^ k = q at h1 e
    have h3 : 1 * 1 ≤ p * x := Int.mul_le_mul h1.1 h2.1 (by omega) (by omega)
    have h4 : p * x ≤ q * 20 := Int.mul_le_mul h1.2 h2.2 (by omega) (by omega)
    rw [e]
    omega
theorem kid_prod4 {l : List Int} (h : Kids l) (k : Nat) (hk : k ≤ l.length) : 1 ≤ prodL (l.take k) ∧ prodL (l.take k) ≤ 160000 := by
  have h1 := kid_prod h k hk
  refine ⟨h1.1, Int.le_trans h1.2 ?_⟩
  have : k ≤ 4 := by have := h.1; omega
  match k, this with
  | 0, _ | 1, _ | 2, _ | 3, _ | 4, _ => decide

theorem idAge_any (x : Int) (w : World) : Calls Try.prog 46 #[.int .i64 x] w (RetSame (.int .i64 x) w) := by
  go_enter Try.func46, Try.ntmps46
  go_wp2
  go_ret
  exact ⟨rfl, rfl⟩
set_option maxHeartbeats 1600000 in
theorem sumOverId_any (b off n c : Nat) (zs : List Int) (w : World) (hl : zs.length = n) (hk : Kids zs) (hI : Ints w b off zs) :
    Calls Try.prog 44 #[.slice (some ⟨b, off, none⟩) n c, .func (.func 46) #[] #[]] w (RetSame (.int .i64 (sumL zs)) w) := by
  have hn : n ≤ 4 := by have := hk.1; omega
  have HK := Lib.hid (fun k h => kid_sum hk k h)
  have HA := Lib.hid (fun k h => kid_at hk k h)
  have HT := Lib.hid (fun k h => sumL_take zs k h)
  have HE := Lib.hid (show sumL (zs.take n) = sumL zs by rw [← hl, List.take_length])
  have HL := Lib.hid hl
  clear hk hl
  go_enter Try.func44, Try.ntmps44
  go_wp2
  go_loop [5, 10] (fun s v => ∃ k : Nat, k ≤ n ∧ v = .int .i64 k ∧ s = .int .i64 (sumL (zs.take k))) (fun _ v => n - (intOf v).toNat)
  case atStart => exact ⟨0, Nat.zero_le _, rfl, rfl⟩
  case round =>
    obtain ⟨k, hkn, rfl, rfl⟩ := hrel
    have hs := HK.out k (by rw [HL.out]; exact hkn)
    by_cases hlt : k < n
    · have hc := hI k (by rw [HL.out]; exact hlt)
      have hz := HA.out k (by rw [HL.out]; exact hlt)
      have HS := Lib.hid (HT.out k (by rw [HL.out]; exact hlt))
      generalize zs.getD k 0 = x at hc hz HS
      generalize sumL (zs.take k) = s at hs HS ⊢
      go_wp2_with (go_at_call 46; refine (idAge_any _ _).mono ?_; rintro e w' ⟨rfl, rfl⟩)
      go_round
      case rel => exact ⟨k + 1, by omega, by go_num, by rw [HS.out]⟩
      case measure => simp [intOf]; omega
    · have hkn2 : k = n := by omega
      subst hkn2
      rw [HE.out]
      go_wp2
      go_ret
      exact ⟨rfl, rfl⟩
theorem sumOfSet_any (b off n c : Nat) (zs : List Int) (w : World) (hl : zs.length = n) (hk : Kids zs) (hI : Ints w b off zs) :
    Calls Try.prog 38 #[.slice (some ⟨b, off, none⟩) n c] w (RetSame (.int .i64 (sumL zs)) w) := by
  go_enter Try.func38, Try.ntmps38
  go_wp2_with (go_at_call 44; refine (sumOverId_any b off n c zs _ hl hk hI).mono ?_; rintro e w' ⟨rfl, rfl⟩)
  go_ret
  exact ⟨rfl, rfl⟩
set_option maxHeartbeats 1600000 in
theorem productOfSet_any (b off n c : Nat) (zs : List Int) (w : World) (hl : zs.length = n) (hk : Kids zs) (hI : Ints w b off zs) :
    Calls Try.prog 39 #[.slice (some ⟨b, off, none⟩) n c] w (RetSame (.int .i64 (prodL zs)) w) := by
  have hn : n ≤ 4 := by have := hk.1; omega
  have HK := Lib.hid (fun k h => kid_prod4 hk k h)
  have HA := Lib.hid (fun k h => kid_at hk k h)
  have HT := Lib.hid (fun k h => prodL_take zs k h)
  have HE := Lib.hid (show prodL (zs.take n) = prodL zs by rw [← hl, List.take_length])
  have HL := Lib.hid hl
  clear hk hl
  go_enter Try.func39, Try.ntmps39
  go_wp2
  go_loop [3, 8] (fun s v => ∃ k : Nat, k ≤ n ∧ v = .int .i64 k ∧ s = .int .i64 (prodL (zs.take k))) (fun _ v => n - (intOf v).toNat)
  case atStart => exact ⟨0, Nat.zero_le _, rfl, rfl⟩
  case round =>
    obtain ⟨k, hkn, rfl, rfl⟩ := hrel
    by_cases hlt : k < n
    · have hc := hI k (by rw [HL.out]; exact hlt)
      have hs := HK.out (k + 1) (by rw [HL.out]; exact hlt)
      have HS := Lib.hid (HT.out k (by rw [HL.out]; exact hlt))
      rw [HT.out k (by rw [HL.out]; exact hlt)] at hs
      generalize zs.getD k 0 = x at hc hs HS
      generalize prodL (zs.take k) = s at hs HS ⊢
      have hw : IntKind.i64.wrap (s * x) = s * x := IntWalk.i64_in _ (by omega)
      go_wp2
      go_round
      case rel => exact ⟨k + 1, by omega, by go_num, by rw [HS.out]⟩
      case measure => simp [intOf]; omega
    · have hkn2 : k = n := by omega
      subst hkn2
      rw [HE.out]
      go_wp2
      go_ret
      exact ⟨rfl, rfl⟩
end Go.Proofs.Ytkkjbkagkmngkab
