/- RatiosInYears: both texts. -/
import Derived.Test.YtmidobhfahpkcaaAfk
import Derived.Test.YtmidobhfahpkcaaRatHelp3
set_option linter.unusedVariables false
set_option linter.unusedSimpArgs false
namespace Go.Proofs.Ytmidobhfahpkcaa
open Go.RowKit

theorem prs_pushR {B : Nat} {w1 : World} {v' : Value} {ds : List Dt} {y d : Int} (h : w1.ownsRow B 25 2 v' (ds.length + 1) (flatD ds ++ [.int .i64 y, .int .i64 d])) : OwnD 25 B w1 v' (ds ++ [(y, d)]) := by
  unfold OwnD
  rw [List.length_append, flatD_snoc]
  exact h
theorem below_pushR {w wr w1 : World} {v : Value} {ds : List Dt} {o : Obj} (hb : Below w.heap.size w wr) (h : OwnD 25 w.heap.size wr v ds) (hg : (wr.alloc o).grownBy w1 v.ownBlock) : Below w.heap.size w w1 := by
  refine (hb.alloc hb.size o).grown hg (by have := hb.size; simp; omega) ?_
  intro k hk
  rcases h.block with h | ⟨g, h, h2, h3⟩
  · rw [h] at hk; cases hk
  · rw [h] at hk; cases hk; exact h2
theorem newPairR (w : World) (g : Nat) (y d : Int) (t : TypeId) (hg : g = w.heap.size) : ∀ j u, [Value.int .i64 y, Value.int .i64 d][j]? = some u → (w.alloc (.cells #[.int .i64 y, .int .i64 d] t)).cell? ((⟨g, 0, none⟩ : Addr).add j) = some u := by
  subst hg
  intro j u h
  match j, h with
  | 0, h => simp at h; subst h; simp [go_sem, Addr.add]
  | 1, h => simp at h; subst h; simp [go_sem, Addr.add]
  | j + 2, h => simp at h
theorem twoIntsR (y d : Int) : ∀ u ∈ [Value.int .i64 y, Value.int .i64 d], u.oneCell' = true := by
  intro u hu; simp at hu; rcases hu with rfl | rfl <;> rfl
/-- The ratio some years on, and all of them. -/
def riA (a b : Int) (k : Nat) : Dt := (rlN (a + k) (b + k), rlD (a + k) (b + k))
def riL (a b : Int) (n : Nat) : List Dt := (List.range n).map (riA a b)
theorem riL_length (a b : Int) (n : Nat) : (riL a b n).length = n := by simp [riL]
theorem riL_succ (a b : Int) (n : Nat) : riL a b (n + 1) = riL a b n ++ [riA a b n] := by simp [riL, List.range_succ]
theorem riL_at (a b : Int) (n k : Nat) (h : k < n) : at2 (riL a b n) k = riA a b k := by simp [at2, riL, List.getElem?_map, List.getElem?_range h]
def riOk (a b y : Int) : Bool := inB a 1 120 && (inB b 1 120 && inB y 0 20)
def riB (a b y : Int) : Bool := riOk a b y && (riL a b (y + 1).toNat).all ratB
def riR (a b y : Int) : List Dt := if riB a b y = true then riL a b (y + 1).toNat else []
theorem ri_no {a b y : Int} (h : riB a b y = false) : riR a b y = [] := by simp [riR, h]
theorem ri_bad {a b y : Int} {k : Nat} (hk : k < (y + 1).toNat) (h : ratB (riA a b k) = false) : riB a b y = false := by
  unfold riB
  rw [all_not k (by rw [riL_length]; exact hk) (by rw [riL_at a b _ k hk]; exact h), Bool.and_false]
theorem ri_good {a b y : Int} (h0 : riOk a b y = true) (h : ∀ j, j < (y + 1).toNat → ratB (riA a b j) = true) : riB a b y = true := by
  unfold riB
  rw [h0, Bool.true_and, all_at]
  intro j hj
  rw [riL_length] at hj
  rw [riL_at a b _ j hj]
  exact h j hj

set_option maxHeartbeats 8000000 in
set_option maxRecDepth 100000 in
theorem specRi_any (a b y : Int) (w : World) : Calls Try.prog 35 #[.int .i64 a, .int .i64 b, .int .i64 y] w (RetOwnDB 25 (riR a b y) (riB a b y) w) := by
  cases h1 : inB a 1 120 with
  | false =>
    have hok : riB a b y = false := by simp [riB, riOk, *]
    rw [ri_no hok, hok]
    clear hok
    go_enter Try.func35, Try.ntmps35
    go_wp2_with (first | (go_at_call 56; first | (refine (l1In_t _ _ _ (by assumption) _).mono ?_; rintro e w' ⟨rfl, rfl⟩) | (refine (l1In_f _ _ _ (by assumption) _).mono ?_; rintro e w' ⟨rfl, rfl⟩)))
    go_ret2
    exact ⟨_, rfl, ownD_nil _ _ _, Below.refl _ _⟩
  | true =>
  cases h2 : inB b 1 120 with
  | false =>
    have hok : riB a b y = false := by simp [riB, riOk, *]
    rw [ri_no hok, hok]
    clear hok
    go_enter Try.func35, Try.ntmps35
    go_wp2_with (first | (go_at_call 56; first | (refine (l1In_t _ _ _ (by assumption) _).mono ?_; rintro e w' ⟨rfl, rfl⟩) | (refine (l1In_f _ _ _ (by assumption) _).mono ?_; rintro e w' ⟨rfl, rfl⟩)))
    go_ret2
    exact ⟨_, rfl, ownD_nil _ _ _, Below.refl _ _⟩
  | true =>
  cases h3 : inB y 0 20 with
  | false =>
    have hok : riB a b y = false := by simp [riB, riOk, *]
    rw [ri_no hok, hok]
    clear hok
    go_enter Try.func35, Try.ntmps35
    go_wp2_with (first | (go_at_call 56; first | (refine (l1In_t _ _ _ (by assumption) _).mono ?_; rintro e w' ⟨rfl, rfl⟩) | (refine (l1In_f _ _ _ (by assumption) _).mono ?_; rintro e w' ⟨rfl, rfl⟩)))
    go_ret2
    exact ⟨_, rfl, ownD_nil _ _ _, Below.refl _ _⟩
  | true =>
    have h0 : riOk a b y = true := by simp [riOk, h1, h2, h3]
    have ha := inB_iff.1 h1
    have hb := inB_iff.1 h2
    have hy := inB_iff.1 h3
    obtain ⟨n, hn⟩ : ∃ n : Nat, n = (y + 1).toNat := ⟨_, rfl⟩
    have hnl : (n : Int) ≤ y + 1 := by omega
    have hng : y + 1 ≤ (n : Int) := by omega
    have HBAD : Hid (∀ k, k < n → ratB (riA a b k) = false → riB a b y = false) := Lib.hid (fun k hk h => ri_bad (by omega) h)
    have HGOOD : Hid ((∀ j, j < n → ratB (riA a b j) = true) → riB a b y = true ∧ riR a b y = riL a b n) := Lib.hid (fun h => by
      have e := ri_good h0 (by rw [← hn]; exact h)
      exact ⟨e, by unfold riR; rw [if_pos e, ← hn]⟩)
    clear hn h0
    obtain ⟨i0, hi, hz0, hz1, hz2⟩ := info_parts infoDate
    go_enter Try.func35, Try.ntmps35
    go_wp2_with (first | (go_at_call 56; first | (refine (l1In_t _ _ _ (by assumption) _).mono ?_; rintro e w' ⟨rfl, rfl⟩) | (refine (l1In_f _ _ _ (by assumption) _).mono ?_; rintro e w' ⟨rfl, rfl⟩)))
    go_loopw [8, 9] (fun o u wr => ∃ k : Nat, k ≤ n ∧ u = .int .i64 k ∧ Hid (∀ j, j < k → ratB (riA a b j) = true) ∧ OwnD 25 w.heap.size wr o (riL a b k) ∧ Below w.heap.size w wr) (fun _ u _ => (21 - intOf u).toNat)
    case atStart => exact ⟨0, Nat.zero_le _, rfl, Lib.hid (fun j hj => absurd hj (by omega)), ownD_nil _ _ _, Below.refl _ _⟩
    case round =>
      obtain ⟨k, hk, rfl, HA, ho, hbr⟩ := hrel
      have hsz := hbr.size
      by_cases hlt : k < n
      · have HL0 := fun w => raLow_any (a + k) (b + k) w (by omega) (by omega) (by omega)
        have HS := Lib.hid (riL_succ a b k)
        have hlen := riL_length a b k
        have HG0 := fun w => raGood_any (riA a b k).1 (riA a b k).2 w
        rw [show ratB ((riA a b k).1, (riA a b k).2) = ratB (riA a b k) from rfl] at HG0
        have hbd := rl_bd (a + k) (b + k) (by omega)
        cases hz : ratB (riA a b k) with
        | false =>
          have hok := HBAD.out k hlt hz
          rw [ri_no hok, hok]
          rw [hz] at HG0
          unfold riA at HG0
          simp only at HG0
          have HL := Lib.hid HL0
          have HG := Lib.hid HG0
          clear HL0 HG0 hz hok
          generalize rlN (a + k) (b + k) = u at *
          generalize rlD (a + k) (b + k) = v at *
          go_wp2_with (first | (go_at_call 52; refine (HL.out _).mono ?_; rintro e w1 ⟨rfl, hcall⟩; have hb1 : Below w.heap.size w w1 := hbr.trans (hcall.mono hbr.size); have ho1 := ho.kept hcall; have hsz1 := hb1.size; clear hcall) | (go_at_call 49; refine (HG.out _).mono ?_; rintro e w3 ⟨rfl, hcall⟩; have hb3 : Below w.heap.size w w3 := (hb1.alloc hsz1 _).trans (hcall.mono (by simp; omega)); have ho3 := (OwnD.kept (w' := w3) (World.ownsRow.alloc ho1 _) hcall); have c0 : w3.cell? ⟨w1.heap.size, 0, none⟩ = some (.int .i64 u) := below_cell2 hcall (by simp); have c1 : w3.cell? ⟨w1.heap.size, 1, none⟩ = some (.int .i64 v) := below_cell2 hcall (by simp); have hsz3 := hb3.size; clear hcall))
          go_ret2
          exact ⟨_, rfl, ownD_nil _ _ _, hb3⟩
        | true =>
          have HA2 : Hid (∀ j, j < k + 1 → ratB (riA a b j) = true) := Lib.hid (fun j hj => by
            rcases Nat.lt_succ_iff_lt_or_eq.1 hj with h | rfl
            · exact HA.out j h
            · exact hz)
          rw [hz] at HG0
          rw [show riA a b k = (rlN (a + k) (b + k), rlD (a + k) (b + k)) from rfl] at HS
          unfold riA at HG0
          simp only at HG0
          have HL := Lib.hid HL0
          have HG := Lib.hid HG0
          clear HL0 HG0 hz
          generalize rlN (a + k) (b + k) = u at *
          generalize rlD (a + k) (b + k) = v at *
          go_wp2_with (first | (go_at_call 52; refine (HL.out _).mono ?_; rintro e w1 ⟨rfl, hcall⟩; have hb1 : Below w.heap.size w w1 := hbr.trans (hcall.mono hbr.size); have ho1 := ho.kept hcall; have hsz1 := hb1.size; clear hcall) | (go_at_call 49; refine (HG.out _).mono ?_; rintro e w3 ⟨rfl, hcall⟩; have hb3 : Below w.heap.size w w3 := (hb1.alloc hsz1 _).trans (hcall.mono (by simp; omega)); have ho3 := (OwnD.kept (w' := w3) (World.ownsRow.alloc ho1 _) hcall); have c0 : w3.cell? ⟨w1.heap.size, 0, none⟩ = some (.int .i64 u) := below_cell2 hcall (by simp); have c1 : w3.cell? ⟨w1.heap.size, 1, none⟩ = some (.int .i64 v) := below_cell2 hcall (by simp); have hsz3 := hb3.size; clear hcall) | (at_builtin; refine wpList_append_own _ rfl _ _ 45 rfl w.heap.size 25 i0 (.agg #[.int .i64 0, .int .i64 0]) 2 16 Try.underlying45 hi hz0 hz1 hz2 rfl (by decide) _ _ _ rfl (World.ownsRow.alloc ho3 _) ⟨w3.heap.size, 0, none⟩ 1 1 [.int .i64 u, .int .i64 v] rfl rfl (newPairR _ _ _ _ _ rfl) (twoIntsR _ _) ?c3 ?c4 ?c5 ?_))
          case c3 => unfold maxLen; omega
          case c4 => omega
          case c5 => simp; omega
          intro v' w4 hown' hgrow _
          have hb4 := below_pushR hb3 ho3 hgrow
          have ho4 := prs_pushR (ds := riL a b k) (by rw [hlen]; exact hown')
          rw [← HS.out] at ho4
          clear hown' hgrow
          go_wp2
          go_roundw
          case rel => exact ⟨k + 1, by omega, by go_num, HA2, ho4, hb4⟩
          case measure => simp [intOf]; omega
      · have hkn : k = n := by omega
        obtain ⟨e1, e2⟩ := HGOOD.out (fun j hj => HA.out j (by omega))
        have E1 := Lib.hid e1
        have E2 := Lib.hid e2
        clear e1 e2
        subst hkn
        go_wp2
        go_ret2
        rw [E1.out, E2.out]
        exact ⟨_, rfl, ho, hbr⟩

theorem two_cellsAt {w : World} {B o : Nat} {x0 x1 : Value} (r0 : w.cell? ⟨B, o, none⟩ = some x0) (r1 : w.cell? ⟨B, o + 1, none⟩ = some x1) :
    (∀ v0 v1, ((w.setCell ⟨B, o, none⟩ v0).setCell ⟨B, o + 1, none⟩ v1).cell? ⟨B, o, none⟩ = some v0) ∧ (∀ v0 v1, ((w.setCell ⟨B, o, none⟩ v0).setCell ⟨B, o + 1, none⟩ v1).cell? ⟨B, o + 1, none⟩ = some v1) := by
  have h0 : ∀ v, (w.setCell ⟨B, o, none⟩ v).cell? ⟨B, o, none⟩ = some v := fun v => World.cell?_setCell_same _ _ _ r0
  refine ⟨fun v0 v1 => ?_, fun v0 v1 => World.cell?_setCell_same _ _ _ (u := x1) ?_⟩
  · rw [World.cell?_setCell_other _ _ _ _ (by simp)]
    exact h0 v0
  · rw [World.cell?_setCell_other _ _ _ _ (by simp)]
    exact r1
set_option maxHeartbeats 8000000 in
set_option maxRecDepth 100000 in
theorem ri_any (a b y : Int) (w : World) : Calls Try.prog 36 #[.int .i64 a, .int .i64 b, .int .i64 y] w (RetOwnDB 25 (riR a b y) (riB a b y) w) := by
  cases h1 : inB a 1 120 with
  | false =>
    have hok : riB a b y = false := by simp [riB, riOk, *]
    rw [ri_no hok, hok]
    clear hok
    go_enter Try.func36, Try.ntmps36
    go_wp2_with (first | (go_at_call 50; first | (refine (isWithin_t _ _ _ (by assumption) _).mono ?_; rintro e w' ⟨rfl, rfl⟩) | (refine (isWithin_f _ _ _ (by assumption) _).mono ?_; rintro e w' ⟨rfl, rfl⟩)))
    go_ret2
    exact ⟨_, rfl, ownD_nil _ _ _, Below.refl _ _⟩
  | true =>
  cases h2 : inB b 1 120 with
  | false =>
    have hok : riB a b y = false := by simp [riB, riOk, *]
    rw [ri_no hok, hok]
    clear hok
    go_enter Try.func36, Try.ntmps36
    go_wp2_with (first | (go_at_call 50; first | (refine (isWithin_t _ _ _ (by assumption) _).mono ?_; rintro e w' ⟨rfl, rfl⟩) | (refine (isWithin_f _ _ _ (by assumption) _).mono ?_; rintro e w' ⟨rfl, rfl⟩)))
    go_ret2
    exact ⟨_, rfl, ownD_nil _ _ _, Below.refl _ _⟩
  | true =>
  cases h3 : inB y 0 20 with
  | false =>
    have hok : riB a b y = false := by simp [riB, riOk, *]
    rw [ri_no hok, hok]
    clear hok
    go_enter Try.func36, Try.ntmps36
    go_wp2_with (first | (go_at_call 50; first | (refine (isWithin_t _ _ _ (by assumption) _).mono ?_; rintro e w' ⟨rfl, rfl⟩) | (refine (isWithin_f _ _ _ (by assumption) _).mono ?_; rintro e w' ⟨rfl, rfl⟩)))
    go_ret2
    exact ⟨_, rfl, ownD_nil _ _ _, Below.refl _ _⟩
  | true =>
    have h0 : riOk a b y = true := by simp [riOk, h1, h2, h3]
    have ha := inB_iff.1 h1
    have hb := inB_iff.1 h2
    have hy := inB_iff.1 h3
    obtain ⟨n, hn⟩ : ∃ n : Nat, n = (y + 1).toNat := ⟨_, rfl⟩
    have hnl : (n : Int) ≤ y + 1 := by omega
    have hng : y + 1 ≤ (n : Int) := by omega
    have HBAD : Hid (∀ k, k < n → ratB (riA a b k) = false → riB a b y = false) := Lib.hid (fun k hk h => ri_bad (by omega) h)
    have HGOOD : Hid ((∀ j, j < n → ratB (riA a b j) = true) → riB a b y = true ∧ riR a b y = riL a b n) := Lib.hid (fun h => by
      have e := ri_good h0 (by rw [← hn]; exact h)
      exact ⟨e, by unfold riR; rw [if_pos e, ← hn]⟩)
    clear hn h0
    obtain ⟨i0, hi, hz0, hz1, hz2⟩ := info_parts infoDate
    have hyn : y = (n : Int) - 1 := by omega
    subst hyn
    have hn1 : (n : Int) - 1 + 1 = (n : Int) := by omega
    go_enter Try.func36, Try.ntmps36
    go_wp2_with (first | (go_at_call 50; first | (refine (isWithin_t _ _ _ (by assumption) _).mono ?_; rintro e w' ⟨rfl, rfl⟩) | (refine (isWithin_f _ _ _ (by assumption) _).mono ?_; rintro e w' ⟨rfl, rfl⟩)) | (at_make; refine wpList_make_full _ rfl _ _ 45 rfl w.heap.size 25 i0 _ 2 Try.underlying45 hi hz0 hz1 .i64 .i64 n n n rfl (by first | rfl | simp) (by first | rfl | simp) rfl ?c1 ?c2 ?c3 ?_))
    case c1 => rw [hz2]; omega
    case c2 => unfold maxLen; omega
    case c3 => exact Nat.le_refl _
    intro w1 hown hgr
    go_wp2_with fail
    have hLn := riL_length a b n
    go_loopw [30] (fun v wr => ∃ (k : Nat) (xs : List Value), k ≤ n ∧ v = .int .i64 k ∧ Hid (wr.ownsRow w.heap.size 25 2 (.slice (some ⟨w.heap.size, 0, none⟩) n n) n xs) ∧ Hid (DtTo (riL a b n) k xs) ∧ Hid (∀ j, j < k → ratB (riA a b j) = true) ∧ Below w.heap.size w wr) (fun v _ => n - (intOf v).toNat)
    case atStart => exact ⟨0, _, Nat.zero_le _, rfl, Lib.hid hown, Lib.hid (dtTo_zero _ _), Lib.hid (fun j hj => absurd hj (by omega)), (Below.refl _ _).grown hgr (Nat.le_refl _) (by simp)⟩
    case round =>
      obtain ⟨k, xs, hk, rfl, HR, HX, HA, hbr⟩ := hrel
      have hxl : Hid (xs.length = n * 2) := Lib.hid HR.out.1
      have hsz := hbr.size
      by_cases hlt : k < n
      · obtain ⟨u0, hu0⟩ : ∃ u, xs[k * 2]? = some u := ⟨_, List.getElem?_eq_getElem (by rw [hxl.out]; omega)⟩
        obtain ⟨u1, hu1⟩ : ∃ u, xs[k * 2 + 1]? = some u := ⟨_, List.getElem?_eq_getElem (by rw [hxl.out]; omega)⟩
        have HU0 := Lib.hid hu0
        have HU1 := Lib.hid hu1
        have HP := Lib.hid (dtTo_step HX.out (by rw [hxl.out]; omega))
        rw [riL_at a b n k hlt] at HP
        clear hu0 hu1
        have HL0 := fun w => lowestTerms_pos (a + k) (b + k) w (by omega) (by omega)
        have HG0 := fun w => isRatio_any (riA a b k).1 (riA a b k).2 w
        rw [show ratB ((riA a b k).1, (riA a b k).2) = ratB (riA a b k) from rfl] at HG0
        cases hz : ratB (riA a b k) with
        | false =>
          have hok := HBAD.out k hlt hz
          rw [ri_no hok, hok]
          rw [hz] at HG0
          unfold riA at HG0
          simp only at HG0
          have HL := Lib.hid HL0
          have HG := Lib.hid HG0
          clear HL0 HG0 hz hok HP
          generalize rlN (a + k) (b + k) = u at *
          generalize rlD (a + k) (b + k) = v at *
          go_wp2_with (first | (go_at_call 68; refine (HL.out _).mono ?_; rintro e w1 ⟨rfl, hcall⟩; go_loud (have hb1 : Below w.heap.size w w1 := hbr.trans (hcall.mono hbr.size); have hr1 := World.ownsRow.kept HR.out (below_grown hcall none) (by simp [Value.ownBlock]); have hsz1 := hb1.size; have hd0 := (World.ownsRow.cellAt hr1 (k * 2) (by omega)).trans HU0.out; have hd1 := (World.ownsRow.cellAt hr1 (k * 2 + 1) (by omega)).trans HU1.out; have hf0 := World.ownsRow.frozenAt hr1 (k * 2); have hf1 := World.ownsRow.frozenAt hr1 (k * 2 + 1); have HS := Lib.hid (World.ownsRow.stored (World.ownsRow.stored hr1 (k * 2) (.int .i64 u)).1 (k * 2 + 1) (.int .i64 v)); have hb2 : Hid (Below w.heap.size w ((w1.setCell ⟨w.heap.size, k * 2, none⟩ (.int .i64 u)).setCell ⟨w.heap.size, k * 2 + 1, none⟩ (.int .i64 v))) := Lib.hid ((hb1.setCell (Nat.le_refl _) _).setCell (Nat.le_refl _) _); have s0 := (two_cellsAt hd0 hd1).1 (.int .i64 u) (.int .i64 v); have s1 := (two_cellsAt hd0 hd1).2 (.int .i64 u) (.int .i64 v)); clear hcall) | (go_at_call 17; refine (HG.out _).mono ?_; rintro e w3 ⟨rfl, hcall⟩; have hb3 : Below w.heap.size w w3 := hb2.out.trans (hcall.mono hb2.out.size); have hr3 := Lib.hid (World.ownsRow.kept HS.out.1 (below_grown hcall none) (by simp [Value.ownBlock])); clear hcall))
          go_ret2
          exact ⟨_, rfl, ownD_nil _ _ _, hb3⟩
        | true =>
          have HA2 : Hid (∀ j, j < k + 1 → ratB (riA a b j) = true) := Lib.hid (fun j hj => by
            rcases Nat.lt_succ_iff_lt_or_eq.1 hj with h | rfl
            · exact HA.out j h
            · exact hz)
          rw [hz] at HG0
          unfold riA at HG0 HP
          simp only at HG0 HP
          have HL := Lib.hid HL0
          have HG := Lib.hid HG0
          clear HL0 HG0 hz
          generalize rlN (a + k) (b + k) = u at *
          generalize rlD (a + k) (b + k) = v at *
          go_wp2_with (first | (go_at_call 68; refine (HL.out _).mono ?_; rintro e w1 ⟨rfl, hcall⟩; go_loud (have hb1 : Below w.heap.size w w1 := hbr.trans (hcall.mono hbr.size); have hr1 := World.ownsRow.kept HR.out (below_grown hcall none) (by simp [Value.ownBlock]); have hsz1 := hb1.size; have hd0 := (World.ownsRow.cellAt hr1 (k * 2) (by omega)).trans HU0.out; have hd1 := (World.ownsRow.cellAt hr1 (k * 2 + 1) (by omega)).trans HU1.out; have hf0 := World.ownsRow.frozenAt hr1 (k * 2); have hf1 := World.ownsRow.frozenAt hr1 (k * 2 + 1); have HS := Lib.hid (World.ownsRow.stored (World.ownsRow.stored hr1 (k * 2) (.int .i64 u)).1 (k * 2 + 1) (.int .i64 v)); have hb2 : Hid (Below w.heap.size w ((w1.setCell ⟨w.heap.size, k * 2, none⟩ (.int .i64 u)).setCell ⟨w.heap.size, k * 2 + 1, none⟩ (.int .i64 v))) := Lib.hid ((hb1.setCell (Nat.le_refl _) _).setCell (Nat.le_refl _) _); have s0 := (two_cellsAt hd0 hd1).1 (.int .i64 u) (.int .i64 v); have s1 := (two_cellsAt hd0 hd1).2 (.int .i64 u) (.int .i64 v)); clear hcall) | (go_at_call 17; refine (HG.out _).mono ?_; rintro e w3 ⟨rfl, hcall⟩; have hb3 : Below w.heap.size w w3 := hb2.out.trans (hcall.mono hb2.out.size); have hr3 := Lib.hid (World.ownsRow.kept HS.out.1 (below_grown hcall none) (by simp [Value.ownBlock])); clear hcall))
          go_roundw
          case rel => exact ⟨k + 1, _, by omega, by go_num, hr3, HP, HA2, hb3⟩
          case measure => simp [intOf]; omega
      · have hkn : k = n := by omega
        obtain ⟨e1, e2⟩ := HGOOD.out (fun j hj => HA.out j (by omega))
        have E1 := Lib.hid e1
        have E2 := Lib.hid e2
        clear e1 e2
        have HO : Hid (OwnD 25 w.heap.size wr (.slice (some ⟨w.heap.size, 0, none⟩) n n) (riL a b n)) := Lib.hid (ownD_of hLn HR.out (by have := HX.out; rw [hkn] at this; exact this))
        go_wp2
        go_ret2
        rw [E1.out, E2.out]
        exact ⟨_, rfl, HO.out, hbr⟩
theorem ri_both (a b y : Int) : ∃ (rs : List Dt) (ok : Bool), rs.length ≤ 1048576 ∧ (∀ w, Calls Try.prog 35 #[.int .i64 a, .int .i64 b, .int .i64 y] w (RetOwnDB 25 rs ok w)) ∧ ∀ w, Calls Try.prog 36 #[.int .i64 a, .int .i64 b, .int .i64 y] w (RetOwnDB 25 rs ok w) := by
  refine ⟨_, _, ?_, fun w => specRi_any a b y w, fun w => ri_any a b y w⟩
  unfold riR
  split
  · next h =>
    unfold riB riOk at h
    simp only [Bool.and_eq_true] at h
    have hy := inB_iff.1 h.1.2.2
    rw [riL_length]
    omega
  · simp
end Go.Proofs.Ytmidobhfahpkcaa
