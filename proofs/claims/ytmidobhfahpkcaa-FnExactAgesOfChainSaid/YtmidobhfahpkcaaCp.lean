/- Two ages of one denominator: both texts. -/
import Derived.Test.YtmidobhfahpkcaaYur2
set_option linter.unusedVariables false
set_option linter.unusedSimpArgs false
namespace Go.Proofs.Ytmidobhfahpkcaa
open Go.RowKit

/-! ### The greatest divisor of a list -/
def gcT (zs : List Int) (k : Nat) : Nat := (zs.take k).foldl (fun g z => Nat.gcd g z.natAbs) (zs.getD 0 0).natAbs
theorem gcT_zero (zs : List Int) : gcT zs 0 = (zs.getD 0 0).natAbs := rfl
theorem gcT_succ (zs : List Int) (k : Nat) (hk : k < zs.length) : gcT zs (k + 1) = Nat.gcd (gcT zs k) (zs.getD k 0).natAbs := by
  unfold gcT
  rw [List.take_succ_eq_append_getElem hk, List.foldl_append]
  simp [List.getElem?_eq_getElem hk]
theorem gcT_pos (zs : List Int) (h : 1 ≤ (zs.getD 0 0).natAbs) : ∀ k, k ≤ zs.length → 1 ≤ gcT zs k ∧ gcT zs k ≤ (zs.getD 0 0).natAbs
  | 0, _ => ⟨h, Nat.le_refl _⟩
  | k + 1, hk => by
    obtain ⟨h1, h2⟩ := gcT_pos zs h k (by omega)
    rw [gcT_succ zs k (by omega)]
    exact ⟨Nat.gcd_pos_of_pos_left _ h1, Nat.le_trans (Nat.gcd_le_left _ h1) h2⟩
theorem wrapN (G q : Nat) (h : (G : Int) ≤ 1152921504606846976) : wrap64 ((G : Int) / (q : Int)) = ((G / q : Nat) : Int) := by
  rw [← Int.natCast_ediv]
  have := Nat.div_le_self G q
  generalize G / q = r at *
  exact IntWalk.wrap64_in _ (by omega)
theorem div_of_low (d n : Nat) (hd : 1 ≤ d) : d / (d / Nat.gcd d n) = Nat.gcd d n := Nat.div_div_self (Nat.gcd_dvd_left _ _) (by omega)

set_option maxHeartbeats 1000000 in
theorem greatDiv_any (b c n : Nat) (zs : List Int) (w : World) (hl : zs.length = n) (h1 : 1 ≤ n) (hn : n ≤ 1048576) (hz : ∀ j, j < n → 1 ≤ zs.getD j 0 ∧ zs.getD j 0 ≤ 1152921504606846976) (hI : Ints w b 0 zs) :
    Calls Try.prog 72 #[.slice (some ⟨b, 0, none⟩) n c] w (Ret (.int .i64 ((gcT zs n : Nat) : Int)) w) := by
  have hz0 := hz 0 (by omega)
  have h0 : w.cell? ⟨b, 0, none⟩ = some (.int .i64 ((gcT zs 0 : Nat) : Int)) := by
    have := hI 0 (by omega)
    rw [gcT_zero, Int.natAbs_of_nonneg (by omega)]
    simpa using this
  have HG := gcT_pos zs (by omega)
  go_enter Try.func72, Try.ntmps72
  go_wp2
  go_loopw [3, 13] (fun q v wr => ∃ k : Nat, k ≤ n ∧ v = .int .i64 k ∧ q = .int .i64 ((gcT zs k : Nat) : Int) ∧ Below w.heap.size w wr) (fun _ v _ => n - (intOf v).toNat)
  case atStart => exact ⟨0, Nat.zero_le _, rfl, rfl, Below.refl _ _⟩
  case round =>
    obtain ⟨k, hk, rfl, rfl, hb⟩ := hrel
    by_cases hlt : k < n
    · have hc1 : wr.cell? ⟨b, k, none⟩ = some (.int .i64 (zs.getD k 0)) := by
        have := hI k (by omega)
        rw [Nat.zero_add] at this
        exact (hb.cell (p := ⟨b, k, none⟩) (World.block_lt_of_cell? w ⟨b, 0, none⟩ h0)).trans this
      have hzk := hz k hlt
      obtain ⟨p1, p2⟩ := HG k (by omega)
      have HS := Lib.hid (gcT_succ zs k (by omega))
      generalize hG' : gcT zs (k + 1) = G' at HS
      have HGP := Lib.hid hG'
      clear hG'
      generalize zs.getD k 0 = z at hc1 hzk HS
      generalize gcT zs k = G at p1 p2 HS
      obtain ⟨Z, rfl⟩ : ∃ Z : Nat, z = (Z : Int) := ⟨z.toNat, by omega⟩
      have HL := Lib.hid (fun w => lowestTerms_pos (G : Int) (Z : Int) w (by omega) (by omega))
      have hrl := rlN_nat G Z
      rw [hrl] at HL
      clear hrl
      have hdd := div_of_low G Z p1
      have HGE := Lib.hid (show G' = G / (G / Nat.gcd G Z) by rw [hdd]; simpa using HS.out)
      have hq1 : 1 ≤ G / Nat.gcd G Z := Nat.div_pos (Nat.gcd_le_left _ p1) (Nat.gcd_pos_of_pos_left _ p1)
      have hq2 := Nat.div_le_self G (Nat.gcd G Z)
      generalize G / Nat.gcd G Z = q at HL HGE hq1 hq2
      clear HS hdd
      have hqp : (1 : Int) ≤ (q : Int) := by omega
      have hne2 : ((q : Int) == 0) = false := beq_eq_false_iff_ne.2 (by omega)
      have hq3 := Nat.div_le_self G q
      go_wp2_with (go_at_call 68; refine (HL.out _).mono ?_; rintro e w' ⟨rfl, hcall⟩; have hb2 : Below w.heap.size w w' := hb.trans (hcall.mono hb.size); clear hcall)
      go_roundw
      case rel => exact ⟨k + 1, by omega, by go_num, by rw [HGP.out, HGE.out]; exact congrArg _ (wrapN G q (by omega)), by assumption⟩
      case measure => simp [intOf]; omega
    · have hkn : k = n := by omega
      subst hkn
      go_wp2
      go_ret
      exact ⟨rfl, hb⟩

def sg (d x : Int) : Int := if d < 0 then -x else x
set_option maxHeartbeats 1000000 in
theorem coupleOf_any (x y z : Int) (w : World) (gx : -1000000000000 ≤ x ∧ x ≤ 1000000000000) (gy : -1000000000000 ≤ y ∧ y ≤ 1000000000000) (gz : -1000000000000 ≤ z ∧ z ≤ 1000000000000) : Calls Try.prog 58 #[.int .i64 x, .int .i64 y, .int .i64 z] w (Ret (.agg #[.int .i64 (sg z x), .int .i64 (sg z y), .int .i64 (sg z z)]) w) := by
  by_cases h : z < 0
  · rw [show sg z x = -x by simp [sg, h], show sg z y = -y by simp [sg, h], show sg z z = -z by simp [sg, h]]
    go_enter Try.func58, Try.ntmps58
    go_wp2_with fail
    refine bodyPost_ret (v := .agg #[.int .i64 (-x), .int .i64 (-y), .int .i64 (-z)]) (by simp [results, Try.results58, go_sem]) rfl ?_
    exact ⟨rfl, (Below.refl w.heap.size w).alloc (Nat.le_refl _) _⟩
  · rw [show sg z x = x by simp [sg, h], show sg z y = y by simp [sg, h], show sg z z = z by simp [sg, h]]
    go_enter Try.func58, Try.ntmps58
    go_wp2_with fail
    refine bodyPost_ret (v := .agg #[.int .i64 x, .int .i64 y, .int .i64 z]) (by simp [results, Try.results58, go_sem]) rfl ?_
    exact ⟨rfl, (Below.refl w.heap.size w).alloc (Nat.le_refl _) _⟩

def fnd (x y z : Int) : Bool := decide (0 < z) && decide (0 < x) && decide (0 < y)
set_option maxHeartbeats 1000000 in
theorem areFound_any (x y z : Int) (w : World) : Calls Try.prog 62 #[.agg #[.int .i64 x, .int .i64 y, .int .i64 z]] w (Ret (.bool (fnd x y z)) w) := by
  by_cases h1 : 0 < z
  · by_cases h2 : 0 < x
    · by_cases h3 : 0 < y
      · rw [show fnd x y z = true by simp [fnd, h1, h2, h3]]
        go_enter Try.func62, Try.ntmps62
        go_wp2_with fail
        go_ret
        exact ⟨rfl, (Below.refl w.heap.size w).alloc (Nat.le_refl _) _⟩
      · rw [show fnd x y z = false by simp [fnd, h3]]
        go_enter Try.func62, Try.ntmps62
        go_wp2_with fail
        go_ret
        exact ⟨rfl, (Below.refl w.heap.size w).alloc (Nat.le_refl _) _⟩
    · rw [show fnd x y z = false by simp [fnd, h2]]
      go_enter Try.func62, Try.ntmps62
      go_wp2_with fail
      go_ret
      exact ⟨rfl, (Below.refl w.heap.size w).alloc (Nat.le_refl _) _⟩
  · rw [show fnd x y z = false by simp [fnd, h1]]
    go_enter Try.func62, Try.ntmps62
    go_wp2_with fail
    go_ret
    exact ⟨rfl, (Below.refl w.heap.size w).alloc (Nat.le_refl _) _⟩

set_option maxHeartbeats 1000000 in
theorem coupleIn_any (x y z n : Int) (w : World) (bx : -1000000000 ≤ x ∧ x ≤ 1000000000) (hy : -1000000000 ≤ y ∧ y ≤ 1000000000) (bn : -1000000000 ≤ n * z ∧ n * z ≤ 1000000000) : Calls Try.prog 61 #[.agg #[.int .i64 x, .int .i64 y, .int .i64 z], .int .i64 n] w (Ret (.agg #[.int .i64 (x + n * z), .int .i64 (y + n * z), .int .i64 z]) w) := by
  go_enter Try.func61, Try.ntmps61
  go_wp2_with fail
  refine bodyPost_ret (v := .agg #[.int .i64 (x + n * z), .int .i64 (y + n * z), .int .i64 z]) (by simp [results, Try.results61, go_sem]) rfl ?_
  exact ⟨rfl, ((Below.refl w.heap.size w).alloc (Nat.le_refl _) _).alloc (by simp) _⟩

def gg (x y z : Int) : Int := ((gcT [x, y, z] 3 : Nat) : Int)
def tdX (x y z : Int) : Int := if fnd x y z = true then x / gg x y z else 0
def tdY (x y z : Int) : Int := if fnd x y z = true then y / gg x y z else 0
def tdZ (x y z : Int) : Int := if fnd x y z = true then z / gg x y z else 0
theorem wdivG (n g : Int) (h : 0 ≤ n ∧ n ≤ 1152921504606846976) (hg : 1 ≤ g) : wrap64 (n / g) = n / g := by
  have h1 : 0 ≤ n / g := Int.ediv_nonneg h.1 (by omega)
  have h2 : n / g ≤ n := Int.ediv_le_self g h.1
  exact IntWalk.wrap64_in _ (by omega)
set_option maxHeartbeats 2000000 in
set_option maxRecDepth 100000 in
theorem told_any (x y z : Int) (w : World) (gx : -1000000000000 ≤ x ∧ x ≤ 1000000000000) (gy : -1000000000000 ≤ y ∧ y ≤ 1000000000000) (gz : -1000000000000 ≤ z ∧ z ≤ 1000000000000) : Calls Try.prog 59 #[.agg #[.int .i64 x, .int .i64 y, .int .i64 z]] w (RetI3B (tdX x y z) (tdY x y z) (tdZ x y z) (fnd x y z) w) := by
  have HF0 := fun w => areFound_any x y z w
  cases hf : fnd x y z with
  | false =>
    rw [show tdX x y z = 0 by simp [tdX, hf], show tdY x y z = 0 by simp [tdY, hf], show tdZ x y z = 0 by simp [tdZ, hf]]
    rw [hf] at HF0
    have HF := Lib.hid HF0
    clear HF0 hf
    go_enter Try.func59, Try.ntmps59
    go_wp2_with (first | (go_at_call 62; refine (HF.out _).mono ?_; rintro e w' ⟨rfl, hcall⟩; have hbw : Below w.heap.size w w' := ((Below.refl w.heap.size w).alloc (Nat.le_refl _) _).trans (hcall.mono (by simp)); have c0 : w'.cell? ⟨w.heap.size, 0, none⟩ = some (.int .i64 x) := below_cell2 hcall (by simp); have c1 : w'.cell? ⟨w.heap.size, 1, none⟩ = some (.int .i64 y) := below_cell2 hcall (by simp); have c2 : w'.cell? ⟨w.heap.size, 2, none⟩ = some (.int .i64 z) := below_cell2 hcall (by simp); clear hcall))
    refine bodyPost_ret (v := .tuple #[.int .i64 0, .int .i64 0, .int .i64 0, .bool false]) (by simp [results, Try.results59, go_sem]) rfl ?_
    exact ⟨rfl, by assumption⟩
  | true =>
    rw [show tdX x y z = x / gg x y z by simp [tdX, hf], show tdY x y z = y / gg x y z by simp [tdY, hf], show tdZ x y z = z / gg x y z by simp [tdZ, hf]]
    rw [hf] at HF0
    have HF := Lib.hid HF0
    unfold fnd at hf
    simp only [Bool.and_eq_true, decide_eq_true_eq] at hf
    obtain ⟨⟨hz, hx⟩, hy⟩ := hf
    clear HF0
    have HG := Lib.hid (fun (g c : Nat) (w : World) (hI : Ints w g 0 [x, y, z]) => greatDiv_any g c 3 [x, y, z] w rfl (by omega) (by omega) (by intro j hj; match j, hj with | 0, _ => exact ⟨by simp; omega, by simp; omega⟩ | 1, _ => exact ⟨by simp; omega, by simp; omega⟩ | 2, _ => exact ⟨by simp; omega, by simp; omega⟩) hI)
    have hgp : 1 ≤ gg x y z := by
      have := (gcT_pos [x, y, z] (by simp; omega) 3 (by simp)).1
      unfold gg; omega
    have HG' : Hid (∀ (g c : Nat) (w : World), Ints w g 0 [x, y, z] → Calls Try.prog 72 #[.slice (some ⟨g, 0, none⟩) 3 c] w (Ret (.int .i64 (gg x y z)) w)) := HG
    clear HG
    have HG := HG'
    clear HG'
    generalize gg x y z = G at *
    have hne2 : (G == 0) = false := beq_eq_false_iff_ne.2 (by omega)
    have w1 := wdivG x G (by omega) hgp
    have w2' := wdivG y G (by omega) hgp
    have w3 := wdivG z G (by omega) hgp
    go_enter Try.func59, Try.ntmps59
    go_wp2_with (first | (go_at_call 62; refine (HF.out _).mono ?_; rintro e w' ⟨rfl, hcall⟩; have hbw : Below w.heap.size w w' := ((Below.refl w.heap.size w).alloc (Nat.le_refl _) _).trans (hcall.mono (by simp)); have c0 : w'.cell? ⟨w.heap.size, 0, none⟩ = some (.int .i64 x) := below_cell2 hcall (by simp); have c1 : w'.cell? ⟨w.heap.size, 1, none⟩ = some (.int .i64 y) := below_cell2 hcall (by simp); have c2 : w'.cell? ⟨w.heap.size, 2, none⟩ = some (.int .i64 z) := below_cell2 hcall (by simp); clear hcall) | (go_at_call 72; refine (HG.out _ _ _ (ints_lit3 _ _ _ _ _)).mono ?_; rintro e w2 ⟨rfl, hcall⟩; have hbw2 : Below w.heap.size w w2 := (hbw.alloc hbw.size _).trans (hcall.mono (by have := hbw.size; simp; omega)); have e0 : w2.cell? ⟨w.heap.size, 0, none⟩ = some (.int .i64 x) := below_cell2 hcall (cell_above c0 _); have e1 : w2.cell? ⟨w.heap.size, 1, none⟩ = some (.int .i64 y) := below_cell2 hcall (cell_above c1 _); have e2 : w2.cell? ⟨w.heap.size, 2, none⟩ = some (.int .i64 z) := below_cell2 hcall (cell_above c2 _); clear hcall))
    go_quiet (fail)
    go_wp2
    refine bodyPost_ret (v := .tuple #[.int .i64 (x / G), .int .i64 (y / G), .int .i64 (z / G), .bool true]) (by simp [results, Try.results59, go_sem]) rfl ?_
    exact ⟨rfl, by first | assumption | exact Below.drew (by assumption) | exact below_drewN (by assumption) _⟩
end Go.Proofs.Ytmidobhfahpkcaa
