/- The greatest divisor of a list: the program's text. -/
import Derived.Test.YtadfojjglceheaaRl
import Derived.Test.YtadfojjglceheaaRo
set_option linter.unusedVariables false
set_option linter.unusedSimpArgs false
namespace Go.Proofs.Ytadfojjglceheaa
open Go.RowKit

/-! ### The greatest divisor of a list -/
def gcT (zs : List Int) (k : Nat) : Nat := (zs.take k).foldl (fun g z => Nat.gcd g z.natAbs) (zs.getD 0 0).natAbs
theorem gcT_zero (zs : List Int) : gcT zs 0 = (zs.getD 0 0).natAbs := rfl
theorem gcT_succ (zs : List Int) (k : Nat) (hk : k < zs.length) : gcT zs (k + 1) = Nat.gcd (gcT zs k) (zs.getD k 0).natAbs := by
  unfold gcT
  rw [List.take_succ_eq_append_getElem hk, List.foldl_append]
  simp [List.getElem?_eq_getElem hk]
theorem gcT_pos (zs : List Int) (h : 1 ≤ (zs.getD 0 0).natAbs) : ∀ k, k ≤ zs.length → 1 ≤ gcT zs k ∧ gcT zs k ≤ (zs.getD 0 0).natAbs
  | 0, _ => ⟨h, Nat.le_refl _⟩
  | k + 1, hk => by
    obtain ⟨h1, h2⟩ := gcT_pos zs h k (by omega)
    rw [gcT_succ zs k (by omega)]
    exact ⟨Nat.gcd_pos_of_pos_left _ h1, Nat.le_trans (Nat.gcd_le_left _ h1) h2⟩
theorem wrapN (G q : Nat) (h : (G : Int) ≤ 1152921504606846976) : wrap64 ((G : Int) / (q : Int)) = ((G / q : Nat) : Int) := by
  rw [← Int.natCast_ediv]
  have := Nat.div_le_self G q
  generalize G / q = r at *
  exact IntWalk.wrap64_in _ (by omega)
theorem div_of_low (d n : Nat) (hd : 1 ≤ d) : d / (d / Nat.gcd d n) = Nat.gcd d n := Nat.div_div_self (Nat.gcd_dvd_left _ _) (by omega)

set_option maxHeartbeats 1000000 in
theorem greatDiv_any (b c n : Nat) (zs : List Int) (w : World) (hl : zs.length = n) (h1 : 1 ≤ n) (hn : n ≤ 1048576) (hz : ∀ j, j < n → 1 ≤ zs.getD j 0 ∧ zs.getD j 0 ≤ 1152921504606846976) (hI : Ints w b 0 zs) :
    Calls Try.prog 48 #[.slice (some ⟨b, 0, none⟩) n c] w (Ret (.int .i64 ((gcT zs n : Nat) : Int)) w) := by
  have hz0 := hz 0 (by omega)
  have h0 : w.cell? ⟨b, 0, none⟩ = some (.int .i64 ((gcT zs 0 : Nat) : Int)) := by
    have := hI 0 (by omega)
    rw [gcT_zero, Int.natAbs_of_nonneg (by omega)]
    simpa using this
  have HG := gcT_pos zs (by omega)
  go_enter Try.func48, Try.ntmps48
  go_wp2
  go_loopw [3, 13] (fun q v wr => ∃ k : Nat, k ≤ n ∧ v = .int .i64 k ∧ q = .int .i64 ((gcT zs k : Nat) : Int) ∧ Below w.heap.size w wr) (fun _ v _ => n - (intOf v).toNat)
  case atStart => exact ⟨0, Nat.zero_le _, rfl, rfl, Below.refl _ _⟩
  case round =>
    obtain ⟨k, hk, rfl, rfl, hb⟩ := hrel
    by_cases hlt : k < n
    · have hc1 : wr.cell? ⟨b, k, none⟩ = some (.int .i64 (zs.getD k 0)) := by
        have := hI k (by omega)
        rw [Nat.zero_add] at this
        exact (hb.cell (p := ⟨b, k, none⟩) (World.block_lt_of_cell? w ⟨b, 0, none⟩ h0)).trans this
      have hzk := hz k hlt
      obtain ⟨p1, p2⟩ := HG k (by omega)
      have HS := Lib.hid (gcT_succ zs k (by omega))
      generalize hG' : gcT zs (k + 1) = G' at HS
      have HGP := Lib.hid hG'
      clear hG'
      generalize zs.getD k 0 = z at hc1 hzk HS
      generalize gcT zs k = G at p1 p2 HS
      obtain ⟨Z, rfl⟩ : ∃ Z : Nat, z = (Z : Int) := ⟨z.toNat, by omega⟩
      have HL := Lib.hid (fun w => lowestTerms_pos (G : Int) (Z : Int) w (by omega) (by omega))
      have hrl := rlN_nat G Z
      rw [hrl] at HL
      clear hrl
      have hdd := div_of_low G Z p1
      have HGE := Lib.hid (show G' = G / (G / Nat.gcd G Z) by rw [hdd]; simpa using HS.out)
      have hq1 : 1 ≤ G / Nat.gcd G Z := Nat.div_pos (Nat.gcd_le_left _ p1) (Nat.gcd_pos_of_pos_left _ p1)
      have hq2 := Nat.div_le_self G (Nat.gcd G Z)
      generalize G / Nat.gcd G Z = q at HL HGE hq1 hq2
      clear HS hdd
      have hqp : (1 : Int) ≤ (q : Int) := by omega
      have hne2 : ((q : Int) == 0) = false := beq_eq_false_iff_ne.2 (by omega)
      have hq3 := Nat.div_le_self G q
      go_wp2_with (go_at_call 65; refine (HL.out _).mono ?_; rintro e w' ⟨rfl, hcall⟩; have hb2 : Below w.heap.size w w' := hb.trans (hcall.mono hb.size); clear hcall)
      go_roundw
      case rel => exact ⟨k + 1, by omega, by go_num, by rw [HGP.out, HGE.out]; exact congrArg _ (wrapN G q (by omega)), by assumption⟩
      case measure => simp [intOf]; omega
    · have hkn : k = n := by omega
      subst hkn
      go_wp2
      go_ret
      exact ⟨rfl, hb⟩

end Go.Proofs.Ytadfojjglceheaa
