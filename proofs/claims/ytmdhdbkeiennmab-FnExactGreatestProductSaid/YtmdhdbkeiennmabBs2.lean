/- SetsApart, the model's. -/
import Derived.Test.YtmdhdbkeiennmabBs1
import Derived.Test.YtmdhdbkeiennmabSwS
import Derived.Deep.RegionWith
set_option linter.unusedVariables false
set_option linter.unusedSimpArgs false
namespace Go.Proofs.Ytmdhdbkeiennmab
open Go.RowKit

theorem bySum_every (B go : Nat) (ap : Int) (hap : 0 ≤ ap ∧ ap ≤ 20) : ∀ n, BySumAt B go ap n
  | 0 => bySum_leaf B go ap
  | n + 1 => bySum_step B go ap hap n (bySum_every B go ap hap n)
set_option maxHeartbeats 1600000 in
theorem siApart_any (n : Nat) (S ap : Int) (w : World) (h1 : 1 ≤ n) (hn : n ≤ 4) (hS : 1 ≤ S ∧ S ≤ 80) (hap : 0 ≤ ap ∧ ap ≤ 20) :
    Calls Try.prog 52 #[.int .i64 n, .int .i64 S, .int .i64 ap] w (RetSets (setsS n S ap) w) := by
  have HC := Lib.hid (fun (W : World) (hW : W.heap.size = w.heap.size + 1) (hc : W.cell? ⟨w.heap.size, 0, none⟩ = some (.slice none 0 0)) (hf : W.frozen? ⟨w.heap.size, 0, none⟩ = false) =>
    bySum_every (w.heap.size + 1) w.heap.size ap hap n S [] (.slice none 0 0) (w.heap.size + 1) (w.heap.size + 1) [] (.slice none 0 0) [] W (setsS n S ap) (by simp; omega) (by simp; omega) (fun _ => rfl) (by intro x hx; simp at hx) (by omega) (by omega) hc hf (ownSS_nil _ _ _) (Nat.le_refl _) (by omega) (own_nil _ _) (by omega) (Nat.le_refl _)
      (by rw [List.nil_append, ← bySum_all n S ap hap.1]; rfl) (setsS_length S ap hn))
  go_enter Try.func52, Try.ntmps52
  go_wp2_with (go_at_call 71; refine (HC.out _ (by simp) (boxS (box_newS rfl)).1 (boxS (box_newS rfl)).2).mono ?_; rintro e w' ⟨rfl, v', vs', hc', hf', ho', hbo⟩)
  go_ret
  refine ⟨v', vs', rfl, ho'.monoBS (by omega) _ (Nat.le_refl _), ⟨hbo.os, hbo.tape, hbo.output, ?_, fun k hk => ?_⟩⟩
  · have := hbo.size; simp at this; omega
  · rw [hbo.block k (by simp; omega) (by omega) (.inl (by omega)), Below.heap_alloc _ _ _ hk]

theorem siSum_any (N S : Int) (w : World) : Calls Try.prog 51 #[.int .i64 N, .int .i64 S] w (RetSame (.bool (inB N 1 4 && inB S 1 80)) w) := by
  have H1 := Lib.hid (fun W => l1In_any N 1 4 W)
  have H2 := Lib.hid (fun W => l1In_any S 1 80 W)
  cases e1 : inB N 1 4 with
  | false =>
    rw [e1] at H1
    go_enter Try.func51, Try.ntmps51
    go_wp2_with (go_at_call 57; refine (H1.out _).mono ?_; rintro e w' ⟨rfl, rfl⟩)
    go_ret
    exact ⟨rfl, rfl⟩
  | true =>
    rw [e1] at H1
    go_enter Try.func51, Try.ntmps51
    go_wp2_with (first | (go_at_call_of 57 (Value.int IntKind.i64 N); refine (H1.out _).mono ?_; rintro e w' ⟨rfl, rfl⟩) | (go_at_call_of 57 (Value.int IntKind.i64 S); refine (H2.out _).mono ?_; rintro e w' ⟨rfl, rfl⟩))
    go_ret
    exact ⟨by simp, rfl⟩
end Go.Proofs.Ytmdhdbkeiennmab
