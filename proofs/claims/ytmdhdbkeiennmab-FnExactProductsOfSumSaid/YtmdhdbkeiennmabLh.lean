/- l1Has at an owned slice. -/
import Derived.Test.YtmdhdbkeiennmabDd
set_option linter.unusedVariables false
set_option linter.unusedSimpArgs false
namespace Go.Proofs.Ytmdhdbkeiennmab
open Go.RowKit

set_option maxHeartbeats 1600000 in
theorem l1Has_some (b n c : Nat) (zs : List Int) (x : Int) (w : World) (hl : zs.length = n) (hn : n ≤ 1000000) (hI : Ints w b 0 zs) :
    Calls Try.prog 53 #[.slice (some ⟨b, 0, none⟩) n c, .int .i64 x] w (RetSame (.bool (zs.contains x)) w) := by
  have HL := Lib.hid hl
  have HI := Lib.hid hI
  have HY := Lib.hid (fun k (h : k < zs.length) (e : zs.getD k 0 = x) => (show zs.contains x = true by
    rw [List.contains_iff_mem, mem_getD]; exact ⟨k, h, e⟩))
  have HN := Lib.hid (fun (h : ∀ j, j < zs.length → zs.getD j 0 ≠ x) => (show zs.contains x = false by
    rw [← Bool.not_eq_true, List.contains_iff_mem, mem_getD]
    rintro ⟨j, hj, e⟩
    exact h j hj e))
  clear hl hI
  generalize zs.contains x = r at HY HN ⊢
  go_enter Try.func53, Try.ntmps53
  go_wp2
  go_loop [9] (fun v => ∃ k : Nat, k ≤ n ∧ v = .int .i64 k ∧ Hid (∀ j, j < k → zs.getD j 0 ≠ x)) (fun v => n - (intOf v).toNat)
  case atStart => exact ⟨0, Nat.zero_le _, rfl, Lib.hid (fun j hj => by omega)⟩
  case round =>
    obtain ⟨k, hkn, rfl, HP⟩ := hrel
    by_cases hlt : k < n
    · have hkr : k < zs.length := by rw [HL.out]; exact hlt
      have hc := HI.out k hkr
      rw [Nat.zero_add] at hc
      have HE := Lib.hid (HY.out k hkr)
      have HX := Lib.hid (fun (hne : zs.getD k 0 ≠ x) => (show ∀ j, j < k + 1 → zs.getD j 0 ≠ x from fun j hj => by
        by_cases e : j = k
        · subst e; exact hne
        · exact HP.out j (by omega)))
      generalize zs.getD k 0 = z at hc HE HX
      by_cases he : z = x
      · have hr := HE.out he
        subst hr
        subst he
        have d : (z == z) = true := by simp
        go_wp2
        go_ret
        exact ⟨rfl, rfl⟩
      · have d : (z == x) = false := by rw [beq_eq_false_iff_ne]; exact he
        have HX2 := Lib.hid (HX.out he)
        clear HE HX HP
        go_wp2
        go_round
        case rel => exact ⟨k + 1, by omega, by go_num, HX2⟩
        case measure => simp [intOf]; omega
    · have hkn2 : k = n := by omega
      have hr := HN.out (fun j hj => HP.out j (by rw [HL.out] at hj; omega))
      subst hr
      clear hkn2
      go_wp2
      go_ret
      exact ⟨rfl, rfl⟩
set_option maxHeartbeats 1600000 in
theorem l1Has_any (B : Nat) (v : Value) (zs : List Int) (x : Int) (w : World) (hn : zs.length ≤ 1000000) (h : Own B w v zs) :
    Calls Try.prog 53 #[v, .int .i64 x] w (RetSame (.bool (zs.contains x)) w) := by
  rcases h.cases with ⟨rfl, rfl⟩ | ⟨g, c, rfl, _, _, _, _, hI, _⟩
  · rw [show List.contains ([] : List Int) x = false from rfl]
    clear h
    go_enter Try.func53, Try.ntmps53
    go_wp2
    go_loop [9] (fun v => v = .int .i64 0) (fun _ => 0)
    case atStart => exact rfl
    case round =>
      obtain rfl := hrel
      go_wp2
      go_ret
      exact ⟨rfl, rfl⟩
  · exact l1Has_some g zs.length c zs x w rfl hn hI
end Go.Proofs.Ytmdhdbkeiennmab
