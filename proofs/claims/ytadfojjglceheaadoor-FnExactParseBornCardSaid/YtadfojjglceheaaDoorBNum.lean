/- The text of one number, of the model. -/
import Derived.Test.YtadfojjglceheaaDoorBEnv
import Derived.Laws.IdiomStrings
import Derived.Deep.RegionHeld3
import Derived.IntWalk
set_option linter.unusedVariables false
set_option linter.unusedSimpArgs false
namespace Go.Proofs.YtadfojjglceheaaDoor
open Go.RowKit

def RetS (r : ByteArray) (w : World) (e : Ending) (w' : World) : Prop := e = .returned (.string r) ∧ Below w.heap.size w w'
def decN (n : Nat) : ByteArray := ⟨(Lib.decDigits n).toArray⟩

/-- One digit as a text. -/
def digB (d : Nat) : ByteArray := ⟨[UInt8.ofNat (48 + d)].toArray⟩
theorem conv_digit (d : Nat) (hd : d < 10) (w : World) : (convert 42 9 (.slice (some ⟨w.heap.size, 0, none⟩) 1 1)).run Tryd.prog (w.alloc (.cells #[.int .u8 (48 + (d : Int))] 5)) = .ok (.string (digB d)) (w.alloc (.cells #[.int .u8 (48 + (d : Int))] 5)) := by
  refine run_convert_bytes_back _ _ _ 5 ⟨w.heap.size, 0, none⟩ 1 [UInt8.ofNat (48 + d)] Tryd.underlying42 Tryd.underlying5 Tryd.underlying9 ?_
  intro j hj
  obtain rfl : j = 0 := by simp at hj; omega
  have := World.cell?_alloc_mark w #[.int .u8 (48 + (d : Int))] 5 (0, 0) 0
  rw [show (⟨w.heap.size, 0, none⟩ : Addr).add 0 = ⟨w.heap.size, 0, none⟩ from rfl, this]
  simp
  omega
theorem conv_at (d : Nat) (hd : d < 10) (w : World) (g : Nat) (h : w.cell? ⟨g, 0, none⟩ = some (.int .u8 (48 + (d : Int)))) : (convert 42 9 (.slice (some ⟨g, 0, none⟩) 1 1)).run Tryd.prog w = .ok (.string (digB d)) w := by
  refine run_convert_bytes_back _ _ _ 5 ⟨g, 0, none⟩ 1 [UInt8.ofNat (48 + d)] Tryd.underlying42 Tryd.underlying5 Tryd.underlying9 ?_
  intro j hj
  obtain rfl : j = 0 := by simp at hj; omega
  rw [show (⟨g, 0, none⟩ : Addr).add 0 = ⟨g, 0, none⟩ from rfl, h]
  simp
  omega
theorem dec_digit {n : Nat} (h : n < 10) : decN n = digB n := by
  unfold decN digB
  rw [Lib.decDigits_one h]
theorem dec_more {n : Nat} (h : 10 ≤ n) : decN n = decN (n / 10) ++ digB (n % 10) := by
  unfold decN digB
  rw [bytes_append]
  conv => lhs; rw [Lib.decDigits, dif_neg (show ¬ n < 10 by omega)]

set_option maxHeartbeats 1000000 in
set_option maxRecDepth 100000 in
theorem num_one (n : Nat) (h : n < 10) (w : World) : Calls Tryd.prog 22 #[.int .i64 n] w (RetS (decN n) w) := by
  have hI : (n : Int) < 10 := by omega
  have hc := conv_digit n h w
  rw [dec_digit h]
  go_enter Tryd.func22, Tryd.ntmps22
  go_wp2_with fail
  go_ret
  exact ⟨rfl, (Below.refl _ _).alloc (Nat.le_refl _) _⟩

theorem cell_below_drew {w w' : World} {v : Value} {t : TypeId} (h : Below (w.alloc (.cells #[v] t)).drew.heap.size (w.alloc (.cells #[v] t)).drew w') : w'.cell? ⟨w.heap.size, 0, none⟩ = some v := by
  have h1 : w'.cell? ⟨w.heap.size, 0, none⟩ = (w.alloc (.cells #[v] t)).cell? ⟨w.heap.size, 0, none⟩ := h.cell (p := ⟨w.heap.size, 0, none⟩) (by simp)
  rw [h1, World.cell?_alloc_mark]
  rfl
theorem decN_size (n : Nat) (h : n < 10000) : (decN n).size ≤ 20 := by
  have := Lib.nDigits_le20 n (by omega)
  rw [← Lib.decDigits_length] at this
  exact this
theorem num_sum (q d : Nat) (h : q < 1000) : ¬ 9223372036854775807 < (decN q).size + (digB d).size := by
  have h1 := decN_size q (by omega)
  have h2 : (digB d).size = 1 := rfl
  omega
set_option maxHeartbeats 1000000 in
set_option maxRecDepth 100000 in
theorem num_step (n : Nat) (h : 10 ≤ n) (hn : n < 10000) (w : World) (ih : ∀ w, Calls Tryd.prog 22 #[.int .i64 ((n / 10 : Nat) : Int)] w (RetS (decN (n / 10)) w)) :
    Calls Tryd.prog 22 #[.int .i64 n] w (RetS (decN n) w) := by
  have hI : ¬ (n : Int) < 10 := by omega
  obtain ⟨q, hq, hq1, hqn⟩ : ∃ q : Nat, (n : Int).tdiv 10 = (q : Int) ∧ q < 1000 ∧ n / 10 = q := ⟨n / 10, (Int.ofNat_tdiv n 10).symm, by omega, rfl⟩
  obtain ⟨d, hr, hd, hdn⟩ : ∃ d : Nat, (n : Int).tmod 10 = (d : Int) ∧ d < 10 ∧ n % 10 = d := ⟨n % 10, (Int.ofNat_tmod n 10).symm, by omega, rfl⟩
  rw [dec_more h]
  rw [hqn] at ih ⊢
  rw [hdn]
  have IH := Lib.hid ih
  have HC := conv_at d hd
  have hw1 : IntKind.i64.wrap (q : Int) = q := IntWalk.i64_in _ (by omega)
  have hw2 : IntKind.i64.wrap (48 + (d : Int)) = 48 + d := IntWalk.i64_in _ (by omega)
  have hw3 : IntKind.u8.wrap (48 + (d : Int)) = 48 + d := IntWalk.u8_in _ (by omega)
  have hsm := num_sum q d hq1
  clear ih hqn hdn
  go_enter Tryd.func22, Tryd.ntmps22
  go_wp2_with fail
  go_region_with (go_at_call 22; refine (IH.out _).mono ?_; rintro e w' ⟨rfl, hcall⟩; try (have hcl := HC w' w.heap.size (cell_below_drew hcall)))
  · go_wp2_with fail
    go_ret
    exact ⟨rfl, (((Below.refl _ w).drew).trans hcall).alloc hcall.size _⟩
  all_goals
    go_wp2_with fail
    go_ret
    exact ⟨rfl, (((Below.refl _ w).alloc (Nat.le_refl _) _).drew).trans (hcall.mono (by simp))⟩

theorem num_any (n : Nat) (hn : n < 10000) (w : World) : Calls Tryd.prog 22 #[.int .i64 n] w (RetS (decN n) w) := by
  have h1 : ∀ m, m < 10 → ∀ w, Calls Tryd.prog 22 #[.int .i64 (m : Nat)] w (RetS (decN m) w) := fun m hm w => num_one m hm w
  have h2 : ∀ m, m < 100 → ∀ w, Calls Tryd.prog 22 #[.int .i64 (m : Nat)] w (RetS (decN m) w) := fun m hm w => by
    by_cases h : m < 10
    · exact h1 m h w
    · exact num_step m (by omega) (by omega) w (h1 (m / 10) (by omega))
  have h3 : ∀ m, m < 1000 → ∀ w, Calls Tryd.prog 22 #[.int .i64 (m : Nat)] w (RetS (decN m) w) := fun m hm w => by
    by_cases h : m < 10
    · exact h1 m h w
    · exact num_step m (by omega) (by omega) w (h2 (m / 10) (by omega))
  by_cases h : n < 10
  · exact h1 n h w
  · exact num_step n (by omega) hn w (h3 (n / 10) (by omega))
theorem num_year (z : Int) (h0 : 0 ≤ z) (h1 : z ≤ 3000) (w : World) : Calls Tryd.prog 22 #[.int .i64 z] w (RetS (decB z) w) := by
  obtain ⟨n, rfl⟩ := Int.eq_ofNat_of_zero_le h0
  exact num_any n (by omega) w
theorem decB_size {z : Int} (h0 : 0 ≤ z) (h1 : z ≤ 3000) : (decB z).size ≤ 20 := by
  have := decN_size z.toNat (by omega)
  exact this
end Go.Proofs.YtadfojjglceheaaDoor
