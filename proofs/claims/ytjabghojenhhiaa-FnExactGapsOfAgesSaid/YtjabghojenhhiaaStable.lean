/- slices.SortStableFunc over at most 8 people. -/
import Derived.Test.YtjabghojenhhiaaIns
set_option linter.unusedVariables false
set_option linter.unusedSimpArgs false
namespace Go.Proofs.Ytjabghojenhhiaa
open Go.RowKit Go.Shelf Go.Lib Go.Sort

set_option maxHeartbeats 1000000 in
theorem stable_any (g c n : Nat) (d : Array (Int × Int)) (w : World) (hn : d.size = n) (hH : HoldsK encP 2 w g 0 d) (hblk : g < w.heap.size) (h8 : n ≤ 8) :
    Calls Try.prog 81 #[.slice (some ⟨g, 0, none⟩) n c, .int .i64 n, .func (.func 67) #[] #[]] w (RetIns g d w) := by
  have hcon := insertion_any g c d w hH hblk (by omega)
  rw [hn] at hcon
  clear hH hn
  have h20 : ¬ ((20 : Int) ≤ (n : Int)) := by omega
  have h21 : ¬ ((20 : Int) < (n : Int)) := by omega
  go_enter Try.func81, Try.ntmps81
  go_wp2
  refine wp_loop_rounds 1 ?_
  rw [rounds_succ]
  go_wp2_with (go_at_call 91; refine hcon.mono ?_; rintro e w' ⟨rfl, m, os, rfl⟩)
  refine wp_loop_rounds 1 ?_
  rw [rounds_succ]
  go_wp2
  go_end0
  exact ⟨rfl, m, os, rfl⟩

set_option maxHeartbeats 1000000 in
theorem sortStable_any (g c n : Nat) (d : Array (Int × Int)) (w : World) (hn : d.size = n) (hH : HoldsK encP 2 w g 0 d) (hblk : g < w.heap.size) (h8 : n ≤ 8) :
    Calls Try.prog 66 #[.slice (some ⟨g, 0, none⟩) n c, .func (.func 67) #[] #[]] w (RetIns g d w) := by
  have hcon := stable_any g c n d w hn hH hblk h8
  clear hH hn
  go_enter Try.func66, Try.ntmps66
  go_wp2_with (go_at_call 81; refine hcon.mono ?_; rintro e w' ⟨rfl, m, os, rfl⟩)
  go_end0
  exact ⟨rfl, m, os, rfl⟩
end Go.Proofs.Ytjabghojenhhiaa
