/- AgesOfChain: both texts. -/
import Derived.Test.YtmidobhfahpkcaaLc5
import Derived.Test.YtmidobhfahpkcaaAfk
import Derived.StillTailTactics
set_option linter.unusedVariables false
set_option linter.unusedSimpArgs false
namespace Go.Proofs.Ytmidobhfahpkcaa
open Go.RowKit

def smT (l : List Nat) (i : Nat) : Nat := (l.take i).sum
theorem smT_zero (l : List Nat) : smT l 0 = 0 := rfl
theorem smT_succ (l : List Nat) (i : Nat) (h : i < l.length) : smT l (i + 1) = smT l i + l.getD i 0 := by
  unfold smT
  rw [List.take_succ_eq_append_getElem h, List.sum_append, List.getD_eq_getElem?_getD, List.getElem?_eq_getElem h]
  simp
theorem smT_bd {l : List Nat} {M : Nat} (h : ∀ x ∈ l, x ≤ M) : ∀ i, i ≤ l.length → smT l i ≤ i * M := by
  intro i
  induction i with
  | zero => intro _; simp [smT]
  | succ i ih =>
    intro hi
    rw [smT_succ l i (by omega), Nat.add_mul, Nat.one_mul]
    have := h _ (getD_mem (l := l) (i := i) (by omega))
    have := ih (by omega)
    omega
theorem lcL_bd {ds : List Dt} (h : chB ds = true) : ∀ x ∈ lcL ds, 1 ≤ x ∧ x ≤ 1000000000000 := by
  intro x hx
  have h6 := chB_len h
  unfold lcL lowL at hx
  obtain ⟨y, hy, rfl⟩ := List.mem_map.1 hx
  obtain ⟨h1, h2⟩ := chI_bd h ds.length (Nat.le_refl _) y hy
  have hg := gcdL_dvd (chI ds ds.length) y hy
  have hgp := gcdL_pos (chI ds ds.length) y hy h1
  have hb := bnN_le (k := ds.length) (by omega)
  exact ⟨Nat.div_pos (Nat.le_of_dvd h1 hg) hgp, Nat.le_trans (Nat.div_le_self _ _) (by omega)⟩

set_option maxHeartbeats 2000000 in
theorem agSumL_any (b c n : Nat) (l : List Nat) (w : World) (hl : l.length = n) (h7 : n ≤ 7) (hb : ∀ x ∈ l, x ≤ 1000000000000) (hI : Ints w b 0 (zc l)) :
    Calls Try.prog 73 #[.slice (some ⟨b, 0, none⟩) n c] w (Ret (.int .i64 ((smT l n : Nat) : Int)) w) := by
  have HB := Lib.hid hb
  have HL := Lib.hid hl
  have HS := Lib.hid (fun i (hi : i ≤ n) => smT_bd hb i (by omega))
  clear hb hl
  go_enter Try.func73, Try.ntmps73
  go_wp2
  go_loopw [3, 8] (fun q u wr => ∃ i : Nat, i ≤ n ∧ u = .int .i64 i ∧ q = .int .i64 ((smT l i : Nat) : Int) ∧ Below w.heap.size w wr) (fun _ u _ => n - (intOf u).toNat)
  case atStart => exact ⟨0, Nat.zero_le _, rfl, rfl, Below.refl _ _⟩
  case round =>
    obtain ⟨i, hi, rfl, rfl, hbr⟩ := hrel
    by_cases hil : i < n
    · have hx := HB.out _ (getD_mem (l := l) (i := i) (by rw [HL.out]; exact hil))
      have hcx : wr.cell? ⟨b, i, none⟩ = some (.int .i64 ((l.getD i 0 : Nat) : Int)) := by
        have := hI i (by rw [zc_length, HL.out]; exact hil)
        rw [Nat.zero_add, zc_getD] at this
        exact (hbr.cell (p := ⟨b, i, none⟩) (World.block_lt_of_cell? w ⟨b, i, none⟩ this)).trans this
      have hs := HS.out i hi
      have HN := Lib.hid (smT_succ l i (by rw [HL.out]; exact hil))
      generalize l.getD i 0 = x at hx hcx HN
      have hs2 : smT l i ≤ 7000000000000 := by
        have : i * 1000000000000 ≤ 7 * 1000000000000 := Nat.mul_le_mul_right _ (by omega)
        omega
      generalize smT l i = z at *
      have k4 : (0 : Int) ≤ (i : Int) := by omega
      have k5 : (i : Int) < (n : Int) := by omega
      clear hs
      go_wp2
      go_roundw
      case rel => exact ⟨i + 1, by omega, by go_num, by rw [HN.out]; simp, hbr⟩
      case measure => simp [intOf]; omega
    · have hin : i = n := by omega
      subst hin
      go_wp2
      go_ret
      exact ⟨rfl, hbr⟩

theorem idC_any (x : Int) (w : World) : Calls Try.prog 75 #[.int .i64 x] w (RetSame (.int .i64 x) w) := by
  go_enter Try.func75, Try.ntmps75
  go_wp2
  go_ret
  exact ⟨rfl, rfl⟩

set_option maxHeartbeats 2000000 in
theorem sumOvL_any (b c n : Nat) (l : List Nat) (w : World) (hl : l.length = n) (h7 : n ≤ 7) (hb : ∀ x ∈ l, x ≤ 1000000000000) (hI : Ints w b 0 (zc l)) :
    Calls Try.prog 74 #[.slice (some ⟨b, 0, none⟩) n c, .func (.func 75) #[] #[]] w (Ret (.int .i64 ((smT l n : Nat) : Int)) w) := by
  have HB := Lib.hid hb
  have HL := Lib.hid hl
  have HS := Lib.hid (fun i (hi : i ≤ n) => smT_bd hb i (by omega))
  clear hb hl
  go_enter Try.func74, Try.ntmps74
  go_wp2
  go_loopw [5, 10] (fun q u wr => ∃ i : Nat, i ≤ n ∧ u = .int .i64 i ∧ q = .int .i64 ((smT l i : Nat) : Int) ∧ Below w.heap.size w wr) (fun _ u _ => n - (intOf u).toNat)
  case atStart => exact ⟨0, Nat.zero_le _, rfl, rfl, Below.refl _ _⟩
  case round =>
    obtain ⟨i, hi, rfl, rfl, hbr⟩ := hrel
    by_cases hil : i < n
    · have hx := HB.out _ (getD_mem (l := l) (i := i) (by rw [HL.out]; exact hil))
      have hcx : wr.cell? ⟨b, i, none⟩ = some (.int .i64 ((l.getD i 0 : Nat) : Int)) := by
        have := hI i (by rw [zc_length, HL.out]; exact hil)
        rw [Nat.zero_add, zc_getD] at this
        exact (hbr.cell (p := ⟨b, i, none⟩) (World.block_lt_of_cell? w ⟨b, i, none⟩ this)).trans this
      have hs := HS.out i hi
      have HN := Lib.hid (smT_succ l i (by rw [HL.out]; exact hil))
      generalize l.getD i 0 = x at hx hcx HN
      have hs2 : smT l i ≤ 7000000000000 := by
        have : i * 1000000000000 ≤ 7 * 1000000000000 := Nat.mul_le_mul_right _ (by omega)
        omega
      generalize smT l i = z at *
      have k4 : (0 : Int) ≤ (i : Int) := by omega
      have k5 : (i : Int) < (n : Int) := by omega
      clear hs
      go_wp2_with (first | (go_at_call 75; refine (idC_any _ _).mono ?_; rintro e w' ⟨rfl, rfl⟩))
      go_roundw
      case rel => exact ⟨i + 1, by omega, by go_num, by rw [HN.out]; simp, hbr⟩
      case measure => simp [intOf]; omega
    · have hin : i = n := by omega
      subst hin
      go_wp2
      go_ret
      exact ⟨rfl, hbr⟩
end Go.Proofs.Ytmidobhfahpkcaa
