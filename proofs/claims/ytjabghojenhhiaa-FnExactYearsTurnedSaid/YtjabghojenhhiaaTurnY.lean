/- YearsTurned: the model's text. -/
import Derived.Test.YtjabghojenhhiaaTurnS
set_option linter.unusedVariables false
set_option linter.unusedSimpArgs false
namespace Go.Proofs.Ytjabghojenhhiaa
open Go.RowKit

theorem yearsTurned_both (zs : List Int) (x y : Int) : ∃ rs ok, rs.length ≤ 1048576 ∧
    (∀ b c w, zs.length ≤ 1048576 → b < w.heap.size → Ints w b 0 zs → Calls Try.prog 30 #[.slice (some ⟨b, 0, none⟩) zs.length c, .int .i64 x, .int .i64 y] w (RetOwnB rs ok w)) ∧
    (∀ b c w, zs.length ≤ 1048576 → b < w.heap.size → Ints w b 0 zs → Calls Try.prog 31 #[.slice (some ⟨b, 0, none⟩) zs.length c, .int .i64 x, .int .i64 y] w (RetOwnB rs ok w)) := by
  cases h : (whoB zs x && whoB zs y && (x != y)) with
  | false => exact ⟨[], false, by simp, fun b c w hn hbl hI => specTurned_no _ _ _ _ _ _ _ hn hI h, fun b c w hn hbl hI => yearsTurned_no _ _ _ _ _ _ _ hn hbl hI h⟩
  | true =>
    have h2 := h
    rw [Bool.and_eq_true, Bool.and_eq_true] at h2
    obtain ⟨⟨hx, hy⟩, hne⟩ := h2
    have hg := whoB_good hx
    obtain ⟨A, rfl, hA⟩ := whoB_nat hx
    obtain ⟨B, rfl, hB⟩ := whoB_nat hy
    have hAB : A ≠ B := fun e => by subst e; simp at hne
    have h1 := found_len hg (turnY zs A B)
    exact ⟨_, true, by omega, fun b c w hn hbl hI => specTurned_yes _ _ _ _ _ _ _ hn hI hAB hA hB hg, fun b c w hn hbl hI => yearsTurned_yes _ _ _ _ _ _ _ hn hI h hA hB hg⟩
end Go.Proofs.Ytjabghojenhhiaa
