/- An oldest and a youngest child of a set: both texts. -/
import Derived.Test.YtmdhdbkeiennmaaSi2
set_option linter.unusedVariables false
set_option linter.unusedSimpArgs false
namespace Go.Proofs.Ytmdhdbkeiennmaa
open Go.RowKit

set_option maxHeartbeats 1600000 in
theorem imOld_any (b n c : Nat) (zs : List Int) (w : World) (hl : zs.length = n) (h1 : 1 ≤ n) (hn : n ≤ 4) (hbl : b < w.heap.size) (hI : Ints w b 0 zs) :
    Calls Try.prog 58 #[.slice (some ⟨b, 0, none⟩) n c] w (Ret (.bool (oldB zs)) w) := by
  have hcx : w.cell? ⟨b, n - 1, none⟩ = some (.int .i64 (zs.getD (n - 1) 0)) := by
    have := hI (n - 1) (by omega)
    rwa [Nat.zero_add] at this
  have HO := Lib.hid (show oldB zs = (cntL (zs.getD (n - 1) 0) zs == 1) by unfold oldB; rw [hl])
  have HC := Lib.hid (childrenOfAge_any b 0 n c zs (zs.getD (n - 1) 0) w hl (by omega) hbl hI)
  generalize zs.getD (n - 1) 0 = x at hcx HO HC
  generalize cntL x zs = y at HO HC
  have em : ((n : Nat) : Int) - 1 = ((n - 1 : Nat) : Int) := by omega
  have ew : IntKind.i64.wrap ((n - 1 : Nat) : Int) = ((n - 1 : Nat) : Int) := IntWalk.i64_in _ (by omega)
  have b1 : (0 : Int) ≤ ((n - 1 : Nat) : Int) := by omega
  have b2 : ((n - 1 : Nat) : Int) < (n : Int) := by omega
  clear hI
  go_enter Try.func58, Try.ntmps58
  go_wp2_with (go_at_call 77; refine HC.out.mono ?_; rintro e w' ⟨rfl, hb⟩)
  go_ret
  exact ⟨by rw [HO.out]; rfl, hb⟩
set_option maxHeartbeats 1600000 in
theorem imYoung_any (b n c : Nat) (zs : List Int) (w : World) (hl : zs.length = n) (h1 : 1 ≤ n) (hn : n ≤ 4) (hbl : b < w.heap.size) (hI : Ints w b 0 zs) :
    Calls Try.prog 59 #[.slice (some ⟨b, 0, none⟩) n c] w (Ret (.bool (youngB zs)) w) := by
  have hcx : w.cell? ⟨b, 0, none⟩ = some (.int .i64 (zs.getD 0 0)) := by
    have := hI 0 (by omega)
    rwa [Nat.zero_add] at this
  have HO := Lib.hid (show youngB zs = (cntL (zs.getD 0 0) zs == 1) from rfl)
  have HC := Lib.hid (childrenOfAge_any b 0 n c zs (zs.getD 0 0) w hl (by omega) hbl hI)
  generalize zs.getD 0 0 = x at hcx HO HC
  generalize cntL x zs = y at HO HC
  have b2 : (0 : Int) < (n : Int) := by omega
  have b3 : 0 < n := by omega
  clear hI
  go_enter Try.func59, Try.ntmps59
  go_wp2_with (go_at_call 77; refine HC.out.mono ?_; rintro e w' ⟨rfl, hb⟩)
  go_ret
  exact ⟨by rw [HO.out]; rfl, hb⟩

def oldM (zs : List Int) : Bool := zs.length == 1 || decide (zs.getD (zs.length - 2) 0 < zs.getD (zs.length - 1) 0)
def youngM (zs : List Int) : Bool := zs.length == 1 || decide (zs.getD 0 0 < zs.getD 1 0)
set_option maxHeartbeats 1600000 in
theorem spOld_any (b n c : Nat) (zs : List Int) (w : World) (hl : zs.length = n) (h1 : 1 ≤ n) (hn : n ≤ 4) (hI : Ints w b 0 zs) :
    Calls Try.prog 73 #[.slice (some ⟨b, 0, none⟩) n c] w (Ret (.bool (oldM zs)) w) := by
  by_cases hn1 : n = 1
  · subst hn1
    have HO := Lib.hid (show oldM zs = true by unfold oldM; rw [hl]; rfl)
    clear hI
    go_enter Try.func73, Try.ntmps73
    go_wp2
    go_big_quiet (fail)
    go_wp2
    go_ret
    exact ⟨by rw [HO.out]; rfl, below_drewN (Below.refl _ _) _⟩
  · obtain ⟨m, rfl⟩ : ∃ m, n = m + 2 := ⟨n - 2, by omega⟩
    have hcx : w.cell? ⟨b, m + 1, none⟩ = some (.int .i64 (zs.getD (m + 1) 0)) := by
      have := hI (m + 1) (by omega)
      rwa [Nat.zero_add] at this
    have hcy : w.cell? ⟨b, m, none⟩ = some (.int .i64 (zs.getD m 0)) := by
      have := hI m (by omega)
      rwa [Nat.zero_add] at this
    have HO := Lib.hid (show oldM zs = decide (zs.getD m 0 < zs.getD (m + 1) 0) by
      unfold oldM
      rw [hl, show (m + 2 == 1) = false from rfl, Bool.false_or]
      rfl)
    generalize zs.getD (m + 1) 0 = x at hcx HO
    generalize zs.getD m 0 = y at hcy HO
    have k5 : IntKind.i64.wrap ((m : Int) + 2 - 1) = (m : Int) + 1 := by rw [show (m : Int) + 2 - 1 = (m : Int) + 1 by omega]; exact IntWalk.i64_in _ (by omega)
    have k6 : IntKind.i64.wrap ((m : Int) + 1 - 1) = (m : Int) := by rw [show (m : Int) + 1 - 1 = (m : Int) by omega]; exact IntWalk.i64_in _ (by omega)
    have k7 : IntKind.i64.wrap (m : Int) = (m : Int) := IntWalk.i64_in _ (by omega)
    have k8 : IntKind.i64.wrap ((m : Int) + 1) = (m : Int) + 1 := IntWalk.i64_in _ (by omega)
    have b1 : (0 : Int) ≤ (m : Int) := by omega
    have b2 : (m : Int) < (m : Int) + 2 := by omega
    have b3 : (0 : Int) ≤ (m : Int) + 1 := by omega
    have b4 : (m : Int) + 1 < (m : Int) + 2 := by omega
    have b6 : ((m : Int) + 1).toNat = m + 1 := by omega
    have b7 : m + 1 < m + 2 := by omega
    have b8 : m < m + 2 := by omega
    have b9 : ((m : Int) + 1 == 0) = false := by rw [beq_eq_false_iff_ne]; omega
    have b10 : ¬ (m : Int) + 1 = 0 := by omega
    clear hI hn1
    go_enter Try.func73, Try.ntmps73
    go_wp2
    go_big_quiet (fail)
    go_wp2
    go_ret
    exact ⟨by rw [HO.out]; rfl, below_drewN (Below.refl _ _) _⟩
set_option maxHeartbeats 1600000 in
theorem spYoung_any (b n c : Nat) (zs : List Int) (w : World) (hl : zs.length = n) (h1 : 1 ≤ n) (hn : n ≤ 4) (hI : Ints w b 0 zs) :
    Calls Try.prog 74 #[.slice (some ⟨b, 0, none⟩) n c] w (Ret (.bool (youngM zs)) w) := by
  by_cases hn1 : n = 1
  · subst hn1
    have HO := Lib.hid (show youngM zs = true by unfold youngM; rw [hl]; rfl)
    clear hI
    go_enter Try.func74, Try.ntmps74
    go_wp2
    go_big_quiet (fail)
    go_wp2
    go_ret
    exact ⟨by rw [HO.out]; rfl, below_drewN (Below.refl _ _) _⟩
  · have hcx : w.cell? ⟨b, 0, none⟩ = some (.int .i64 (zs.getD 0 0)) := by
      have := hI 0 (by omega)
      rwa [Nat.zero_add] at this
    have hcy : w.cell? ⟨b, 1, none⟩ = some (.int .i64 (zs.getD 1 0)) := by
      have := hI 1 (by omega)
      rwa [Nat.zero_add] at this
    have HO := Lib.hid (show youngM zs = decide (zs.getD 0 0 < zs.getD 1 0) by
      unfold youngM
      rw [hl, show (n == 1) = false from beq_eq_false_iff_ne.2 hn1, Bool.false_or])
    generalize zs.getD 0 0 = x at hcx HO
    generalize zs.getD 1 0 = y at hcy HO
    have b2 : (0 : Int) < (n : Int) := by omega
    have b3 : (1 : Int) < (n : Int) := by omega
    have b4 : 0 < n := by omega
    have b5 : 1 < n := by omega
    have b9 : ((n : Int) == 1) = false := by rw [beq_eq_false_iff_ne]; omega
    have b10 : ¬ (n : Int) = 1 := by omega
    clear hI
    go_enter Try.func74, Try.ntmps74
    go_wp2
    go_big_quiet (fail)
    go_wp2
    go_ret
    exact ⟨by rw [HO.out]; rfl, below_drewN (Below.refl _ _) _⟩
end Go.Proofs.Ytmdhdbkeiennmaa
