/- The ages of people as a list. -/
import Derived.Test.YtonnknhmmljmaaaProd
set_option linter.unusedVariables false
set_option linter.unusedSimpArgs false
namespace Go.Proofs.Ytonnknhmmljmaaa
open Go.RowKit

set_option maxHeartbeats 400000 in
theorem agesOf_any (g c n : Nat) (ns : Nat → Int) (zs : List Int) (w : World) (hl : zs.length = n) (hn : n ≤ 1048576) (hgs : g < w.heap.size) (hP : Prs w g ns zs) :
    Calls Try.prog 51 #[.slice (some ⟨g, 0, none⟩) n c] w (RetRow zs w) := by
  obtain ⟨i0, hi, hz0, hz1, hz2⟩ := info_parts infoInt
  have HP := Lib.hid hP
  have HL := Lib.hid hl
  clear hP hl
  go_enter Try.func51, Try.ntmps51
  go_wp2_with (first | (at_make; refine wpList_make_full _ rfl _ _ 22 rfl w.heap.size 3 i0 (.int .i64 0) 1 Try.underlying22 hi hz0 hz1 .i64 .i64 n n n rfl rfl rfl rfl ?c1 ?c2 ?c3 ?_))
  case c1 => rw [hz2]; omega
  case c2 => unfold maxLen; omega
  case c3 => exact Nat.le_refl _
  intro w1 hown hg
  go_wp2
  go_loopw [11] (fun v wr => ∃ k : Nat, k ≤ n ∧ v = .int .i64 k ∧ wr.ownsRow w.heap.size 3 1 (.slice (some ⟨w.heap.size, 0, none⟩) n n) n (fill zs k n) ∧ Below w.heap.size w wr ∧ w.heap.size < wr.heap.size) (fun v _ => n - (intOf v).toNat)
  case atStart => exact ⟨0, Nat.zero_le _, rfl, by rw [← fill_zero]; simpa using hown, (Below.refl _ _).grown hg (Nat.le_refl _) (by simp), (World.ownsRow.lt hown w.heap.size rfl).2⟩
  case round =>
    obtain ⟨k, hk, rfl, hr, hb, hlt0⟩ := hrel
    have hll := HL.out
    by_cases hlt : k < n
    · obtain ⟨hc1, hc2⟩ := (HP.out.kept hb hgs) k (by omega)
      obtain ⟨u, hu⟩ := fill_some zs k n hll hlt
      have hc3 := Lib.hid ((World.ownsRow.cellAt hr k (by omega)).trans hu)
      have hf3 := Lib.hid (World.ownsRow.frozenAt hr k)
      have hd3 : ∀ A, (wr.alloc A).cell? ⟨w.heap.size, k, none⟩ = some u := fun A => (World.cell?_of_block (w := wr) (a := ⟨w.heap.size, k, none⟩) (Below.heap_alloc _ _ _ hlt0)).trans hc3.out
      have he3 : ∀ A, (wr.alloc A).frozen? ⟨w.heap.size, k, none⟩ = false := fun A => (World.frozen?_of_block (w := wr) (a := ⟨w.heap.size, k, none⟩) (Below.heap_alloc _ _ _ hlt0)).trans hf3.out
      have HS := World.ownsRow.stored hr k (.int .i64 (zs.getD k 0))
      have HF := fill_stepAt zs k n (zs.getD k 0) hll hlt rfl
      have HS' := Lib.hid HS
      have HF' := Lib.hid HF
      clear hu hll HS HF
      generalize zs.getD k 0 = z at hc2 HS' HF'
      generalize ns k = q at hc1
      go_wp2
      go_roundw
      case rel => exact ⟨k + 1, by omega, by go_num, by rw [← HF'.out]; exact World.ownsRow.alloc HS'.out.1 _, (hb.setCell (Nat.le_refl _) _).alloc (by simpa [World.setCell] using hb.size) _, by simp [World.setCell]; omega⟩
      case measure => simp [intOf]; omega
    · have hkn : k = n := by omega
      clear hlt
      go_wp2
      go_ret
      exact retRow_of HL.out (by rw [hkn] at hr; exact hr) hb
end Go.Proofs.Ytonnknhmmljmaaa
