/- The best clue: both texts. -/
import Derived.Test.YtkkjbkagkmngkaaPz17
set_option linter.unusedVariables false
set_option linter.unusedSimpArgs false
namespace Go.Proofs.Ytkkjbkagkmngkaa
open Go.RowKit

def mnT (zs : List Int) (k : Nat) : Int := (zs.take k).foldl min (zs.getD 0 0)
theorem mnT_one (zs : List Int) (h : 1 ≤ zs.length) : mnT zs 1 = zs.getD 0 0 := by
  cases zs with
  | nil => simp at h
  | cons x r => simp [mnT]
theorem mnT_succ (zs : List Int) (k : Nat) (hk : k < zs.length) : mnT zs (k + 1) = min (mnT zs k) (zs.getD k 0) := by
  unfold mnT
  rw [List.take_succ_eq_append_getElem hk, List.foldl_append]
  simp [List.getElem?_eq_getElem hk]

set_option maxHeartbeats 1000000 in
theorem sliceMin_any (b c n : Nat) (zs : List Int) (w : World) (hl : zs.length = n) (h1 : 1 ≤ n) (hn : n ≤ 1048576) (hI : Ints w b 0 zs) :
    Calls Try.prog 72 #[.slice (some ⟨b, 0, none⟩) n c] w (Ret (.int .i64 (mnT zs n)) w) := by
  have h0 : w.cell? ⟨b, 0, none⟩ = some (.int .i64 (mnT zs 1)) := by
    have := hI 0 (by omega)
    rw [mnT_one zs (by omega)]
    simpa using this
  have hne : ¬ (n : Int) < 1 := by omega
  go_enter Try.func72, Try.ntmps72
  go_wp2
  go_loopw [3, 4] (fun m v wr => ∃ k : Nat, 1 ≤ k ∧ k ≤ n ∧ v = .int .i64 k ∧ m = .int .i64 (mnT zs k) ∧ Below w.heap.size w wr) (fun _ v _ => n - (intOf v).toNat)
  case atStart => exact ⟨1, by omega, h1, rfl, rfl, Below.refl _ _⟩
  case round =>
    obtain ⟨k, hk1, hk, rfl, rfl, hb⟩ := hrel
    by_cases hlt : k < n
    · have hc1 : wr.cell? ⟨b, k, none⟩ = some (.int .i64 (zs.getD k 0)) := by
        have := hI k (by omega)
        rw [Nat.zero_add] at this
        exact (hb.cell (p := ⟨b, k, none⟩) (World.block_lt_of_cell? w ⟨b, 0, none⟩ h0)).trans this
      have HS := Lib.hid (mnT_succ zs k (by omega))
      have hi0 : (0 : Int) ≤ (k : Int) := by omega
      have hi1 : (k : Int) < (n : Int) := by omega
      generalize hq : mnT zs (k + 1) = q at HS
      have HQ := Lib.hid hq
      clear hq
      generalize mnT zs k = m0 at *
      generalize zs.getD k 0 = z0 at *
      go_wp2
      all_goals
        go_roundw
        case rel => exact ⟨k + 1, by omega, by omega, by go_num, by rw [HQ.out]; congr 1; have := HS.out; omega, hb⟩
        case measure => simp [intOf]; omega
    · have hkn : k = n := by omega
      subst hkn
      go_wp2
      go_ret
      exact ⟨rfl, hb⟩


set_option maxHeartbeats 1600000 in
theorem indexI_at (b n c i : Nat) (zs : List Int) (x : Int) (w : World) (hl : zs.length = n) (hn : n ≤ 1000000) (hI : Ints w b 0 zs) (hi : i < n) (hx : zs.getD i 0 = x) (hne : ∀ j, j < i → zs.getD j 0 ≠ x) :
    Calls Try.prog 71 #[.slice (some ⟨b, 0, none⟩) n c, .int .i64 x] w (Ret (.int .i64 (i : Int)) w) := by
  have HL := Lib.hid hl
  have HI := Lib.hid hI
  have HX := Lib.hid hx
  have HN := Lib.hid hne
  clear hl hI hx hne
  go_enter Try.func71, Try.ntmps71
  go_wp2
  go_loop [8] (fun v => ∃ k : Nat, k ≤ i ∧ v = .int .i64 k) (fun v => n - (intOf v).toNat)
  case atStart => exact ⟨0, Nat.zero_le _, rfl⟩
  case round =>
    obtain ⟨k, hkn, rfl⟩ := hrel
    have hlt : k < n := by omega
    have hc := HI.out k (by rw [HL.out]; exact hlt)
    rw [Nat.zero_add] at hc
    by_cases he : k = i
    · subst he
      rw [HX.out] at hc
      go_wp2_with fail
      go_ret
      exact ⟨rfl, Below.refl _ _⟩
    · have hz := HN.out k (by omega)
      generalize zs.getD k 0 = z at hc hz
      have hne : (x == z) = false := beq_eq_false_iff_ne.2 (fun h => hz h.symm)
      go_wp2_with fail
      go_round
      case rel => exact ⟨k + 1, by omega, by go_num⟩
      case measure => simp [intOf]; omega

/-- How many hidden ages fit each clue alone. -/
def cntL (m : Nat) (ds : List Kn) : List Int := (List.range ds.length).map fun k => ((solL m [at3 ds k]).length : Int)
theorem cntL_len (m : Nat) (ds : List Kn) : (cntL m ds).length = ds.length := by simp [cntL]
theorem cntL_at (m : Nat) (ds : List Kn) (k : Nat) (h : k < ds.length) : (cntL m ds).getD k 0 = ((solL m [at3 ds k]).length : Int) := by simp [cntL, h]
def bestTo (zs : List Int) : Nat → Nat × Int
  | 0 => (0, 0)
  | k + 1 => if k = 0 ∨ zs.getD k 0 < (bestTo zs k).2 then (k, zs.getD k 0) else bestTo zs k
theorem best_inv (zs : List Int) : ∀ k, 1 ≤ k → k ≤ zs.length → (bestTo zs k).2 = mnT zs k ∧ (bestTo zs k).1 < k ∧ zs.getD (bestTo zs k).1 0 = mnT zs k ∧ (∀ j, j < (bestTo zs k).1 → mnT zs k < zs.getD j 0) ∧ (∀ j, j < k → mnT zs k ≤ zs.getD j 0)
  | 0, h, _ => by omega
  | 1, _, h => by
    have e : bestTo zs 1 = (0, zs.getD 0 0) := by simp [bestTo]
    rw [e, mnT_one zs h]
    refine ⟨rfl, by omega, rfl, fun j hj => by omega, fun j hj => ?_⟩
    have : j = 0 := by omega
    subst this
    omega
  | k + 2, _, h => by
    obtain ⟨h1, h2, h3, h4, h5⟩ := best_inv zs (k + 1) (by omega) (by omega)
    have hm := mnT_succ zs (k + 1) (by omega)
    have e : bestTo zs (k + 2) = if k + 1 = 0 ∨ zs.getD (k + 1) 0 < (bestTo zs (k + 1)).2 then (k + 1, zs.getD (k + 1) 0) else bestTo zs (k + 1) := rfl
    by_cases hc : zs.getD (k + 1) 0 < (bestTo zs (k + 1)).2
    · rw [e, if_pos (.inr hc)]
      have hmm : mnT zs (k + 2) = zs.getD (k + 1) 0 := by rw [hm]; omega
      rw [hmm]
      refine ⟨rfl, by omega, rfl, fun j hj => ?_, fun j hj => ?_⟩
      · have := h5 j hj; omega
      · by_cases hj2 : j = k + 1
        · subst hj2; omega
        · have := h5 j (by omega); omega
    · rw [e, if_neg (by omega)]
      have hmm : mnT zs (k + 2) = mnT zs (k + 1) := by rw [hm]; omega
      rw [hmm]
      refine ⟨h1, by omega, h3, h4, fun j hj => ?_⟩
      by_cases hj2 : j = k + 1
      · subst hj2; omega
      · exact h5 j (by omega)
def bestOk (p : Int) (ds : List Kn) : Bool := pzB p ds && decide (0 < ds.length)
def bestR (p : Int) (ds : List Kn) : Int := if bestOk p ds = true then ((bestTo (cntL p.toNat ds) ds.length).1 : Int) else 0
theorem argK_one {w : World} {g : Nat} {z : Kn} (h0 : w.cell? ⟨g, 0, none⟩ = some (.int .i64 z.1)) (h1 : w.cell? ⟨g, 1, none⟩ = some (.int .i64 z.2.1)) (h2 : w.cell? ⟨g, 2, none⟩ = some (.int .i64 z.2.2)) : ArgK w (some ⟨g, 0, none⟩) 1 [z] :=
  ⟨rfl, .inr ⟨g, 0, rfl, World.block_lt_of_cell? _ ⟨g, 0, none⟩ h0, fun j hj => by
    have : j = 0 := by simp at hj; omega
    subst this
    exact ⟨h0, h1, h2⟩⟩⟩
theorem argK_at {w : World} {b n : Nat} {ds : List Kn} (hl : ds.length = n) (hbl : b < w.heap.size) (hI : Kns w b 0 ds) (k : Nat) (hk : k < n) : ArgK w (some ⟨b, k * 3, none⟩) 1 [at3 ds k] := by
  refine ⟨rfl, .inr ⟨b, k * 3, rfl, hbl, fun j hj => ?_⟩⟩
  have : j = 0 := by simp at hj; omega
  subst this
  have h := hI k (by omega)
  rw [Nat.zero_add] at h
  exact h
theorem icB_one {n : Nat} {ds : List Kn} (h : ∀ j, j < ds.length → icB n (at3 ds j) = true) (k : Nat) (hk : k < ds.length) (j : Nat) (hj : j < 1) : icB n (at3 [at3 ds k] j) = true := by
  have : j = 0 := by omega
  subst this
  exact h k hk
theorem cells_new {W : World} {g : Nat} (y f o : Int) (t : TypeId) (hg : g = W.heap.size) : (W.alloc (.cells #[.int .i64 y, .int .i64 f, .int .i64 o] t)).cell? ⟨g, 0, none⟩ = some (.int .i64 y) ∧ (W.alloc (.cells #[.int .i64 y, .int .i64 f, .int .i64 o] t)).cell? ⟨g, 1, none⟩ = some (.int .i64 f) ∧ (W.alloc (.cells #[.int .i64 y, .int .i64 f, .int .i64 o] t)).cell? ⟨g, 2, none⟩ = some (.int .i64 o) := by
  subst hg
  simp [go_sem]
theorem fill_kept {B g n k : Nat} {zs : List Int} {w w' : World} (h : w.ownsRow B 3 1 (.slice (some ⟨g, 0, none⟩) n n) n (fill zs k n)) (hb : Below w.heap.size w w') : w'.ownsRow B 3 1 (.slice (some ⟨g, 0, none⟩) n n) n (fill zs k n) :=
  World.ownsRow.kept h (below_grown hb none) (by first | (simp; done) | (simp [Value.ownBlock]; done))

set_option maxHeartbeats 200000 in
theorem imBest_no (p : Int) (b n c : Nat) (ds : List Kn) (w : World) (hl : ds.length = n) (hn : n ≤ 1048576) (hbl : b < w.heap.size) (hI : Kns w b 0 ds) (h : pzB p ds = false) : Calls Try.prog 48 #[.agg #[.int .i64 p, .slice (some ⟨b, 0, none⟩) n c]] w (RetIB 0 false w) := by
  have HW := Lib.hid ((Below.refl w.heap.size w).alloc (Nat.le_refl _) (.cells #[.int .i64 p, .slice (some ⟨b, 0, none⟩) n c] 29))
  have HG := Lib.hid (fun (W : World) (hb : Below w.heap.size w W) => isPuzzle_any p b 0 n c ds W hl (by omega) (Nat.lt_of_lt_of_le hbl hb.size) (hI.kept hb hbl))
  rw [h] at HG
  clear hI h
  go_enter Try.func48, Try.ntmps48
  go_wp2_with fail
  refine (HG.out _ HW.out).mono ?_
  rintro e w1 ⟨rfl, hb1⟩
  have hb1' := HW.out.trans (hb1.mono HW.out.size)
  have q0 : w1.cell? ⟨w.heap.size, 0, none⟩ = some (.int .i64 p) := below_cell2 hb1 (by simp [go_sem])
  have q1 : w1.cell? ⟨w.heap.size, 1, none⟩ = some (.slice (some ⟨b, 0, none⟩) n c) := below_cell2 hb1 (by simp [go_sem])
  go_wp2_with fail
  go_ret2
  exact ⟨rfl, hb1'⟩

set_option maxHeartbeats 200000 in
theorem imBest_out (p : Int) (b n c : Nat) (ds : List Kn) (w : World) (hl : ds.length = n) (hn : n ≤ 1048576) (hbl : b < w.heap.size) (hI : Kns w b 0 ds) (h : pzB p ds = true) (h0 : n = 0) : Calls Try.prog 48 #[.agg #[.int .i64 p, .slice (some ⟨b, 0, none⟩) n c]] w (RetIB 0 false w) := by
  subst h0
  have HW := Lib.hid ((Below.refl w.heap.size w).alloc (Nat.le_refl _) (.cells #[.int .i64 p, .slice (some ⟨b, 0, none⟩) 0 c] 29))
  have HG := Lib.hid (fun (W : World) (hb : Below w.heap.size w W) => isPuzzle_any p b 0 0 c ds W hl (by omega) (Nat.lt_of_lt_of_le hbl hb.size) (hI.kept hb hbl))
  rw [h] at HG
  clear hI h
  go_enter Try.func48, Try.ntmps48
  go_wp2_with fail
  refine (HG.out _ HW.out).mono ?_
  rintro e w1 ⟨rfl, hb1⟩
  have hb1' := HW.out.trans (hb1.mono HW.out.size)
  have q0 : w1.cell? ⟨w.heap.size, 0, none⟩ = some (.int .i64 p) := below_cell2 hb1 (by simp [go_sem])
  have q1 : w1.cell? ⟨w.heap.size, 1, none⟩ = some (.slice (some ⟨b, 0, none⟩) 0 c) := below_cell2 hb1 (by simp [go_sem])
  go_wp2_with fail
  go_ret2
  exact ⟨rfl, hb1'⟩

set_option maxHeartbeats 800000 in
set_option maxRecDepth 100000 in
theorem imBest_yes (m b n c : Nat) (ds : List Kn) (w : World) (hl : ds.length = n) (hc : n ≤ c) (h0n : 0 < n) (hbl : b < w.heap.size) (hI : Kns w b 0 ds) (h : pzB (m : Int) ds = true) : Calls Try.prog 48 #[.agg #[.int .i64 (m : Int), .slice (some ⟨b, 0, none⟩) n c]] w (RetIB ((bestTo (cntL m ds) n).1 : Int) true w) := by
  obtain ⟨i0, hi, hz0, hz1, hz2⟩ := info_parts infoInt
  obtain ⟨m', hm', h23, h6, hcs⟩ := pz_of h
  have hmm : m' = m := by omega
  subst hmm
  have hn6 : n ≤ 6 := by omega
  have hne : ¬ n = 0 := by omega
  have hnz : ¬ (n : Int) = 0 := by omega
  have hnb : ((n : Int) == 0) = false := beq_eq_false_iff_ne.2 hnz
  have HW := Lib.hid ((Below.refl w.heap.size w).alloc (Nat.le_refl _) (.cells #[.int .i64 (m' : Int), .slice (some ⟨b, 0, none⟩) n c] 29))
  have HG := Lib.hid (fun (W : World) (hb : Below w.heap.size w W) => isPuzzle_any (m' : Int) b 0 n c ds W hl (by omega) (Nat.lt_of_lt_of_le hbl hb.size) (hI.kept hb hbl))
  rw [h] at HG

  have HCo := Lib.hid (fun (W : World) (k g : Nat) (hk : k < n) h0 h1 h2 => countSolutionsOf_any m' (some ⟨g, 0, none⟩) 1 1 [at3 ds k] W h23 (by omega) (icB_one hcs k (by omega)) (argK_one (w := W) (g := g) (z := at3 ds k) h0 h1 h2))
  have HK3 := Lib.hid (fun (W : World) (hb : Below w.heap.size w W) (k : Nat) (hk : k < n) => (by have h := (hI.kept hb hbl) k (by omega); rw [Nat.zero_add] at h; exact h : W.cell? ⟨b, k * 3, none⟩ = some (.int .i64 (at3 ds k).1) ∧ W.cell? ⟨b, k * 3 + 1, none⟩ = some (.int .i64 (at3 ds k).2.1) ∧ W.cell? ⟨b, k * 3 + 2, none⟩ = some (.int .i64 (at3 ds k).2.2)))
  have HZ := Lib.hid (fun k (hk : k < n) => cntL_at m' ds k (by omega))
  have HZl := Lib.hid ((cntL_len m' ds).trans hl)
  have HLe := Lib.hid (fun k => (show (solL m' [at3 ds k]).length ≤ 1728 from solL_len (by omega) _))
  have HBI := Lib.hid (best_inv (cntL m' ds) n (by omega) (by rw [cntL_len]; omega))
  generalize cntL m' ds = zs at HZ HZl HBI ⊢
  clear hI h hcs hm' hl
  go_enter Try.func48, Try.ntmps48
  go_wp2_with fail
  refine (HG.out _ HW.out).mono ?_
  rintro e w1 ⟨rfl, hb1⟩
  have hb1' := HW.out.trans (hb1.mono HW.out.size)
  have q0 : w1.cell? ⟨w.heap.size, 0, none⟩ = some (.int .i64 (m' : Int)) := below_cell2 hb1 (by simp [go_sem])
  have q1 : w1.cell? ⟨w.heap.size, 1, none⟩ = some (.slice (some ⟨b, 0, none⟩) n c) := below_cell2 hb1 (by simp [go_sem])

  have hlt0 : w.heap.size < w1.heap.size := World.block_lt_of_cell? _ ⟨w.heap.size, 0, none⟩ q0
  go_wp2_with (first | (at_make; refine wpList_make_full _ rfl _ _ 41 rfl w1.heap.size 3 i0 (.int .i64 0) 1 Try.underlying41 hi hz0 hz1 .i64 .i64 n n n rfl rfl rfl rfl ?c1 ?c2 ?c3 ?_))
  case c1 => rw [hz2]; omega
  case c2 => unfold maxLen; omega
  case c3 => exact Nat.le_refl _
  intro w2 hown hg
  have hbm : Below w1.heap.size w1 w2 := (Below.refl _ _).grown hg (Nat.le_refl _) (by simp)
  have hown2 : w2.ownsRow w1.heap.size 3 1 (.slice (some ⟨w1.heap.size, 0, none⟩) n n) n (fill zs 0 n) := by rw [← fill_zero]; simpa using hown
  have hgs : w1.heap.size < w2.heap.size := (World.ownsRow.lt hown2 w1.heap.size (by simp [Value.ownBlock])).2
  have hb2' := hb1'.trans (hbm.mono hb1'.size)
  have p0 := below_cell2 hbm q0
  have p1 := below_cell2 hbm q1
  clear hown hg hbm
  have HO2 := Lib.hid hown2
  clear hown2
  generalize hgd : w1.heap.size = g at HO2 hlt0 hgs ⊢
  go_wp2_with fail
  go_loopw [23] (fun v wr => ∃ k : Nat, k ≤ n ∧ v = .int .i64 k ∧ Hid (wr.ownsRow g 3 1 (.slice (some ⟨g, 0, none⟩) n n) n (fill zs k n)) ∧ Below w.heap.size w wr ∧ wr.cell? ⟨w.heap.size, 0, none⟩ = some (.int .i64 (m' : Int)) ∧ wr.cell? ⟨w.heap.size, 1, none⟩ = some (.slice (some ⟨b, 0, none⟩) n c) ∧ g < wr.heap.size) (fun v _ => n - (intOf v).toNat)
  case atStart => exact ⟨0, Nat.zero_le _, rfl, HO2, hb2', p0, p1, hgs⟩
  case round =>
    obtain ⟨k, hk, rfl, HO, hb, c0, c1, hgw⟩ := hrel
    have hsz := hb.size
    by_cases hlt : k < n
    · obtain ⟨d0, d1, d2⟩ := HK3.out wr hb k hlt
      have HCk := Lib.hid (fun (W : World) (g : Nat) h0 h1 h2 => HCo.out W k g hlt h0 h1 h2)
      have HZk := Lib.hid (HZ.out k hlt)
      have hle := HLe.out k
      generalize solL m' [at3 ds k] = rk at HCk HZk hle
      generalize rk.length = C at HCk HZk hle
      generalize (at3 ds k).1 = y at d0 HCk
      generalize (at3 ds k).2.1 = f at d1 HCk
      generalize (at3 ds k).2.2 = o at d2 HCk
      have v0 : (0 : Int) ≤ (k : Int) := by omega
      have v1 : (k : Int) < (n : Int) := by omega
      have HB2 := Lib.hid (((Below.refl wr.heap.size wr).alloc (Nat.le_refl _) (.cells #[.int .i64 y, .int .i64 f, .int .i64 o] 54)).alloc (by simp) (.cells #[.int .i64 y, .int .i64 f, .int .i64 o] 54))
      have HN3 := Lib.hid (cells_new (W := wr.alloc (.cells #[.int .i64 y, .int .i64 f, .int .i64 o] 54)) (g := wr.heap.size + 1) y f o 54 (by simp))
      have x0 := cell_above c0 (.cells #[.int .i64 y, .int .i64 f, .int .i64 o] 54)
      have HFl := Lib.hid (fill_step zs k n HZl.out hlt)
      have HFs := Lib.hid (fill_some zs k n HZl.out hlt)
      rw [HZk.out] at HFl
      go_wp2_with (first | (go_at_call 64; refine (HCk.out _ _ ?_ ?_ ?_).mono ?_; exact HN3.out.1; exact HN3.out.2.1; exact HN3.out.2.2; rintro e w3 ⟨rfl, hcall⟩; have hbw := HB2.out.trans (hcall.mono HB2.out.size); clear hcall; have hr := fill_kept HO.out hbw; have hcu := World.ownsRow.cellAt hr k (by omega); have hfz := World.ownsRow.frozenAt hr k; have e0 := below_cell2 hbw c0; have e1 := below_cell2 hbw c1; obtain ⟨u, hu⟩ := HFs.out; have hcv := hcu.trans hu; clear hcu hu))
      have HS := (World.ownsRow.stored hr k (.int .i64 (C : Int))).1
      rw [HFl.out] at HS
      have hszw := hbw.size
      go_roundw
      case rel => exact ⟨k + 1, by omega, by go_num, Lib.hid HS, (hb.trans (hbw.mono hsz)).setCell (p := ⟨g, k, none⟩) (by show w.heap.size ≤ g; omega) _, (World.cell?_setCell_other _ _ _ _ (by first | (simp; done) | (simp; omega))).trans e0, (World.cell?_setCell_other _ _ _ _ (by first | (simp; done) | (simp; omega))).trans e1, by first | (simp; omega) | omega⟩
      case measure => simp [intOf]; omega
    · have hkn : k = n := by omega
      subst hkn
      obtain ⟨j1, j2, j3, j4, j5⟩ := HBI.out
      have hrow := HO.out
      rw [fill_all zs k HZl.out] at hrow
      have hII : Ints wr g 0 zs := by
        intro j hj
        rw [Nat.zero_add]
        have := World.ownsRow.cellAt hrow j (by rw [← HZl.out]; omega)
        rw [this]
        simp [List.getElem?_eq_getElem hj]
      have HM := Lib.hid (fun (W : World) (hb : Below wr.heap.size wr W) => sliceMin_any g k k zs W HZl.out (by omega) (by omega) (hII.kept hb hgw))
      have HX := Lib.hid (fun (W : World) (hb : Below wr.heap.size wr W) => indexI_at g k k (bestTo zs k).1 zs (mnT zs k) W HZl.out (by omega) (hII.kept hb hgw) j2 j3 (fun j hj => by have := j4 j hj; omega))
      clear hrow hII j1 j2 j3 j4 j5 HBI
      generalize mnT zs k = mn at HM HX
      obtain ⟨bb, hbb⟩ : ∃ bb, bb = (bestTo zs k).1 := ⟨_, rfl⟩
      rw [← hbb] at HX
      have HBB := Lib.hid hbb
      clear hbb
      go_wp2_with (first | (go_at_call 72; refine (HM.out _ (Below.refl _ _)).mono ?_; rintro e w3 ⟨rfl, hb3⟩) | (go_at_call 71; refine (HX.out _ hb3).mono ?_; rintro e w4 ⟨rfl, hb4⟩))
      go_ret2
      exact ⟨by rw [← HBB.out]; rfl, hb.trans ((hb3.trans (hb4.mono hb3.size)).mono hsz)⟩

theorem imBest_any (p : Int) (b c : Nat) (ds : List Kn) (w : World) (hn : ds.length ≤ 1048576) (hc : ds.length ≤ c) (hbl : b < w.heap.size) (hI : Kns w b 0 ds) :
    Calls Try.prog 48 #[.agg #[.int .i64 p, .slice (some ⟨b, 0, none⟩) ds.length c]] w (RetIB (bestR p ds) (bestOk p ds) w) := by
  cases h : bestOk p ds with
  | false =>
    rw [show bestR p ds = 0 by unfold bestR; rw [if_neg (by rw [h]; simp)]]
    unfold bestOk at h
    cases h1 : pzB p ds with
    | false => exact imBest_no p b _ c ds w rfl hn hbl hI h1
    | true =>
      rw [h1, Bool.true_and] at h
      exact imBest_out p b _ c ds w rfl hn hbl hI h1 (by have := of_decide_eq_false h; omega)
  | true =>
    rw [show bestR p ds = ((bestTo (cntL p.toNat ds) ds.length).1 : Int) by unfold bestR; rw [if_pos h]]
    unfold bestOk at h
    rw [Bool.and_eq_true] at h
    obtain ⟨m, rfl, _⟩ := pz_of h.1
    exact imBest_yes m b _ c ds w rfl hc (of_decide_eq_true h.2) hbl hI h.1

set_option maxHeartbeats 200000 in
theorem spBest_no (p : Int) (b n c : Nat) (ds : List Kn) (w : World) (hl : ds.length = n) (hn : n ≤ 1048576) (hbl : b < w.heap.size) (hI : Kns w b 0 ds) (h : pzB p ds = false) : Calls Try.prog 47 #[.agg #[.int .i64 p, .slice (some ⟨b, 0, none⟩) n c]] w (RetIB 0 false w) := by
  have HW := Lib.hid ((Below.refl w.heap.size w).alloc (Nat.le_refl _) (.cells #[.int .i64 p, .slice (some ⟨b, 0, none⟩) n c] 29))
  have HG := Lib.hid (fun (W : World) (hb : Below w.heap.size w W) => pzGood_any p b 0 n c ds W hl (by omega) (Nat.lt_of_lt_of_le hbl hb.size) (hI.kept hb hbl))
  rw [h] at HG
  clear hI h
  go_enter Try.func47, Try.ntmps47
  go_wp2_with fail
  refine (HG.out _ HW.out).mono ?_
  rintro e w1 ⟨rfl, hb1⟩
  have hb1' := HW.out.trans (hb1.mono HW.out.size)
  have q0 : w1.cell? ⟨w.heap.size, 0, none⟩ = some (.int .i64 p) := below_cell2 hb1 (by simp [go_sem])
  have q1 : w1.cell? ⟨w.heap.size, 1, none⟩ = some (.slice (some ⟨b, 0, none⟩) n c) := below_cell2 hb1 (by simp [go_sem])
  go_wp2_with fail
  go_ret2
  exact ⟨rfl, hb1'⟩

set_option maxHeartbeats 200000 in
theorem spBest_out (p : Int) (b n c : Nat) (ds : List Kn) (w : World) (hl : ds.length = n) (hn : n ≤ 1048576) (hbl : b < w.heap.size) (hI : Kns w b 0 ds) (h : pzB p ds = true) (h0 : n = 0) : Calls Try.prog 47 #[.agg #[.int .i64 p, .slice (some ⟨b, 0, none⟩) n c]] w (RetIB 0 false w) := by
  subst h0
  have HW := Lib.hid ((Below.refl w.heap.size w).alloc (Nat.le_refl _) (.cells #[.int .i64 p, .slice (some ⟨b, 0, none⟩) 0 c] 29))
  have HG := Lib.hid (fun (W : World) (hb : Below w.heap.size w W) => pzGood_any p b 0 0 c ds W hl (by omega) (Nat.lt_of_lt_of_le hbl hb.size) (hI.kept hb hbl))
  rw [h] at HG
  clear hI h
  go_enter Try.func47, Try.ntmps47
  go_wp2_with fail
  refine (HG.out _ HW.out).mono ?_
  rintro e w1 ⟨rfl, hb1⟩
  have hb1' := HW.out.trans (hb1.mono HW.out.size)
  have q0 : w1.cell? ⟨w.heap.size, 0, none⟩ = some (.int .i64 p) := below_cell2 hb1 (by simp [go_sem])
  have q1 : w1.cell? ⟨w.heap.size, 1, none⟩ = some (.slice (some ⟨b, 0, none⟩) 0 c) := below_cell2 hb1 (by simp [go_sem])
  go_wp2_with fail
  go_ret2
  exact ⟨rfl, hb1'⟩

set_option maxHeartbeats 800000 in
set_option maxRecDepth 100000 in
theorem spBest_yes (m b n c : Nat) (ds : List Kn) (w : World) (hl : ds.length = n) (hc : n ≤ c) (h0n : 0 < n) (hbl : b < w.heap.size) (hI : Kns w b 0 ds) (h : pzB (m : Int) ds = true) : Calls Try.prog 47 #[.agg #[.int .i64 (m : Int), .slice (some ⟨b, 0, none⟩) n c]] w (RetIB ((bestTo (cntL m ds) n).1 : Int) true w) := by
  obtain ⟨i0, hi, hz0, hz1, hz2⟩ := info_parts infoInt
  obtain ⟨m', hm', h23, h6, hcs⟩ := pz_of h
  have hmm : m' = m := by omega
  subst hmm
  have hn6 : n ≤ 6 := by omega
  have hne : ¬ n = 0 := by omega
  have hnz : ¬ (n : Int) = 0 := by omega
  have hnb : ((n : Int) == 0) = false := beq_eq_false_iff_ne.2 hnz
  have HW := Lib.hid ((Below.refl w.heap.size w).alloc (Nat.le_refl _) (.cells #[.int .i64 (m' : Int), .slice (some ⟨b, 0, none⟩) n c] 29))
  have HG := Lib.hid (fun (W : World) (hb : Below w.heap.size w W) => pzGood_any (m' : Int) b 0 n c ds W hl (by omega) (Nat.lt_of_lt_of_le hbl hb.size) (hI.kept hb hbl))
  rw [h] at HG

  have HCo := Lib.hid (fun (W : World) (k cc : Nat) (hk : k < n) (hb : Below w.heap.size w W) => pzAll_any m' (some ⟨b, k * 3, none⟩) 1 cc [at3 ds k] W h23 (by omega) (icB_one hcs k (by omega)) (argK_at hl (Nat.lt_of_lt_of_le hbl hb.size) (hI.kept hb hbl) k hk))
  have HZ := Lib.hid (fun k (hk : k < n) => cntL_at m' ds k (by omega))
  have HZl := Lib.hid ((cntL_len m' ds).trans hl)
  have HLe := Lib.hid (fun k => (show (solL m' [at3 ds k]).length ≤ 1728 from solL_len (by omega) _))
  have HBI := Lib.hid (best_inv (cntL m' ds) n (by omega) (by rw [cntL_len]; omega))
  generalize cntL m' ds = zs at HZ HZl HBI ⊢
  clear hI h hcs hm' hl
  go_enter Try.func47, Try.ntmps47
  go_wp2_with fail
  refine (HG.out _ HW.out).mono ?_
  rintro e w1 ⟨rfl, hb1⟩
  have hb1' := HW.out.trans (hb1.mono HW.out.size)
  have q0 : w1.cell? ⟨w.heap.size, 0, none⟩ = some (.int .i64 (m' : Int)) := below_cell2 hb1 (by simp [go_sem])
  have q1 : w1.cell? ⟨w.heap.size, 1, none⟩ = some (.slice (some ⟨b, 0, none⟩) n c) := below_cell2 hb1 (by simp [go_sem])

  go_wp2_with fail
  go_loopw [4, 5, 20] (fun u l q wr => ∃ k : Nat, k ≤ n ∧ u = .int .i64 ((bestTo zs k).1 : Int) ∧ l = .int .i64 (bestTo zs k).2 ∧ q = .int .i64 k ∧ Below w.heap.size w wr ∧ wr.cell? ⟨w.heap.size, 0, none⟩ = some (.int .i64 (m' : Int)) ∧ wr.cell? ⟨w.heap.size, 1, none⟩ = some (.slice (some ⟨b, 0, none⟩) n c)) (fun _ _ q _ => n - (intOf q).toNat)
  case atStart => exact ⟨0, Nat.zero_le _, rfl, rfl, rfl, hb1', q0, q1⟩
  case round =>
    obtain ⟨k, hk, rfl, rfl, rfl, hb, c0, c1⟩ := hrel
    have hsz := hb.size
    by_cases hlt : k < n
    · have HCk := Lib.hid (fun (W : World) (cc : Nat) (hbW : Below wr.heap.size wr W) => HCo.out W k cc hlt (hb.trans (hbW.mono hsz)))
      have HZk := Lib.hid (HZ.out k hlt)
      have HBk := Lib.hid (show bestTo zs (k + 1) = if k = 0 ∨ zs.getD k 0 < (bestTo zs k).2 then (k, zs.getD k 0) else bestTo zs k from rfl)
      rw [HZk.out] at HBk
      generalize solL m' [at3 ds k] = rk at HCk HZk HBk
      generalize hbe : bestTo zs k = be at HBk ⊢
      clear hbe
      obtain ⟨bu, bl⟩ := be
      have HB0 := Lib.hid hb
      have v0 : (0 : Int) ≤ (k : Int) := by omega
      have v1 : (k : Int) + 1 ≤ (c : Int) := by omega
      have v2 : (k : Int) ≤ (k : Int) + 1 := by omega
      have v3 : IntKind.i64.wrap ((k : Int) + 1) = (k : Int) + 1 := IntWalk.i64_in _ (by omega)
      have v4 : (0 : Int) ≤ (k : Int) + 1 := by omega
      have v5 : ((k : Int) + 1).toNat = k + 1 := by omega
      have v6 : ((k : Int) + 1 - (k : Int)).toNat = 1 := by omega
      have v7 : k + 1 - k = 1 := by omega
      have v8 : ¬ (k : Int) = (c : Int) := by omega
      have v9 : ¬ k = c := by omega
      have va : ¬ (c : Int) = (k : Int) := by omega
      have vb : ¬ c = k := by omega
      go_upto_region 7 with fail
      refine wp_region_any (by kernel_rfl) ?_
      change wpAny _ _ _ _ _ _ _ (World.drew _)

      refine wpAny_take (i := 0) (v := ?_) rfl (by kernel_rfl) (by kernel_rfl) (by kernel_rfl) (fun _ _ _ h => h) (Or.inl ⟨by rfl, ?_⟩) ?_
      rotate_left
      · intro w; go_simp; first | done | with_reducible rfl
      refine wpAny_take (i := 2) (v := ?_) rfl (by kernel_rfl) (by kernel_rfl) (by kernel_rfl) (fun _ _ _ h => h) (Or.inl ⟨by rfl, ?_⟩) ?_
      rotate_left
      · intro w; go_simp; first | done | with_reducible rfl
      refine wpAny_take (i := 4) (v := ?_) rfl (by kernel_rfl) (by kernel_rfl) (by kernel_rfl) (fun _ _ _ h => h) (Or.inl ⟨by rfl, ?_⟩) ?_
      rotate_left
      · intro w; go_simp; first | done | with_reducible rfl
      refine wpAny_take (i := 5) (v := ?_) rfl (by kernel_rfl) (by kernel_rfl) (by kernel_rfl) (fun _ _ _ h => h) (Or.inl ⟨by rfl, ?_⟩) ?_
      rotate_left
      · intro w; go_simp; first | done | with_reducible rfl
      refine wpAny_take (i := 6) (v := ?_) rfl (by kernel_rfl) (by kernel_rfl) (by kernel_rfl) (fun _ _ _ h => h) (Or.inl ⟨by rfl, ?_⟩) ?_
      rotate_left
      · intro w; go_simp; first | done | with_reducible rfl
      refine wpAny_ready (rs := [1, 3]) (by kernel_rfl) (by simp) ?_
      refine AllReady.cons rfl (fun K hK => ?_) (AllReady.cons rfl (fun K hK => ?_) AllReady.nil)
      · go_simp
        refine hK _ _ ?_
        clear hK K
        refine wpAny_ready (rs := [3]) (by kernel_rfl) (by simp) ?_
        refine AllReady.cons rfl (fun K hK => ?_) AllReady.nil
        go_simp
        refine hK _ _ ?_
        clear hK K
        refine wpAny_take (i := 7) (v := ?_) rfl (by kernel_rfl) (by kernel_rfl) (by kernel_rfl) (fun _ _ _ h => h) (Or.inl ⟨by rfl, ?_⟩) ?_
        rotate_left
        · intro w; go_simp; first | done | with_reducible rfl
        refine wpAny_ready (rs := [8]) (by kernel_rfl) (by simp) ?_
        refine AllReady.cons rfl (fun K hK => ?_) AllReady.nil
        go_simp
        go_wp2_with (go_at_call 57; refine (HCk.out _ _ ?_).mono ?_; exact (Below.refl _ _).drew; rintro e w2 ⟨rv, rvs, rfl, hOO, hcall⟩; obtain ⟨ra2, rc2, rfl⟩ := ownSS_lit hOO; clear hOO)
        have hbw : Below wr.heap.size wr w2 := (Below.refl _ _).drew.trans hcall
        clear hcall
        have hb2 := HB0.out.trans (hbw.mono hsz)
        have d0 := below_cell2 hbw c0
        have d1 := below_cell2 hbw c1
        have hsz2 := hbw.size
        refine wpAny_ready (rs := [9]) (by kernel_rfl) (by simp) ?_
        refine AllReady.cons rfl (fun K hK => ?_) AllReady.nil
        go_simp
        refine hK _ _ ?_
        clear hK K
        refine wpAny_ready (rs := [10]) (by kernel_rfl) (by simp) ?_
        refine AllReady.cons rfl (fun K hK => ?_) AllReady.nil
        go_simp
        refine hK _ _ ?_
        clear hK K
        refine wpAny_done (by kernel_rfl) ?_ _
        by_cases hk0 : k = 0
        · have HS := HBk.out
          rw [if_pos (.inl hk0)] at HS
          have hk0i : (k : Int) = 0 := by omega
          have hk0b : ((k : Int) == 0) = true := by rw [hk0i]; rfl
          go_wp2_with fail
          go_roundw
          case rel => exact ⟨k + 1, by omega, by rw [HS] <;> first | rfl | (simp [hk0]; done), by rw [HS], by first | go_num | (simp [hk0]; done), hb2, d0, d1⟩
          case measure => simp [intOf]; omega
        · have hk0i : ¬ (k : Int) = 0 := by omega
          have hk0b : ((k : Int) == 0) = false := by simp [hk0]
          by_cases hl : ((rk.length : Nat) : Int) < bl
          · have HS := HBk.out
            rw [if_pos (.inr hl)] at HS
            go_wp2_with fail
            go_roundw
            case rel => exact ⟨k + 1, by omega, by rw [HS], by rw [HS], by go_num, hb2, d0, d1⟩
            case measure => simp [intOf]; omega
          · have HS := HBk.out
            rw [if_neg (by rintro (h | h); exact hk0 h; exact hl h)] at HS
            go_wp2_with fail
            go_roundw
            case rel => exact ⟨k + 1, by omega, by rw [HS], by rw [HS], by go_num, hb2, d0, d1⟩
            case measure => simp [intOf]; omega
      · go_simp
        refine hK _ _ ?_
        clear hK K
        refine wpAny_take (i := 7) (v := ?_) rfl (by kernel_rfl) (by kernel_rfl) (by kernel_rfl) (fun _ _ _ h => h) (Or.inl ⟨by rfl, ?_⟩) ?_
        rotate_left
        · intro w; go_simp; first | done | with_reducible rfl
        refine wpAny_ready (rs := [1]) (by kernel_rfl) (by simp) ?_
        refine AllReady.cons rfl (fun K hK => ?_) AllReady.nil
        go_simp
        refine hK _ _ ?_
        clear hK K
        refine wpAny_ready (rs := [8]) (by kernel_rfl) (by simp) ?_
        refine AllReady.cons rfl (fun K hK => ?_) AllReady.nil
        go_simp
        go_wp2_with (go_at_call 57; refine (HCk.out _ _ ?_).mono ?_; exact (Below.refl _ _).drew; rintro e w2 ⟨rv, rvs, rfl, hOO, hcall⟩; obtain ⟨ra2, rc2, rfl⟩ := ownSS_lit hOO; clear hOO)
        have hbw : Below wr.heap.size wr w2 := (Below.refl _ _).drew.trans hcall
        clear hcall
        have hb2 := HB0.out.trans (hbw.mono hsz)
        have d0 := below_cell2 hbw c0
        have d1 := below_cell2 hbw c1
        have hsz2 := hbw.size
        refine wpAny_ready (rs := [9]) (by kernel_rfl) (by simp) ?_
        refine AllReady.cons rfl (fun K hK => ?_) AllReady.nil
        go_simp
        refine hK _ _ ?_
        clear hK K
        refine wpAny_ready (rs := [10]) (by kernel_rfl) (by simp) ?_
        refine AllReady.cons rfl (fun K hK => ?_) AllReady.nil
        go_simp
        refine hK _ _ ?_
        clear hK K
        refine wpAny_done (by kernel_rfl) ?_ _
        by_cases hk0 : k = 0
        · have HS := HBk.out
          rw [if_pos (.inl hk0)] at HS
          have hk0i : (k : Int) = 0 := by omega
          have hk0b : ((k : Int) == 0) = true := by rw [hk0i]; rfl
          go_wp2_with fail
          go_roundw
          case rel => exact ⟨k + 1, by omega, by rw [HS] <;> first | rfl | (simp [hk0]; done), by rw [HS], by first | go_num | (simp [hk0]; done), hb2, d0, d1⟩
          case measure => simp [intOf]; omega
        · have hk0i : ¬ (k : Int) = 0 := by omega
          have hk0b : ((k : Int) == 0) = false := by simp [hk0]
          by_cases hl : ((rk.length : Nat) : Int) < bl
          · have HS := HBk.out
            rw [if_pos (.inr hl)] at HS
            go_wp2_with fail
            go_roundw
            case rel => exact ⟨k + 1, by omega, by rw [HS], by rw [HS], by go_num, hb2, d0, d1⟩
            case measure => simp [intOf]; omega
          · have HS := HBk.out
            rw [if_neg (by rintro (h | h); exact hk0 h; exact hl h)] at HS
            go_wp2_with fail
            go_roundw
            case rel => exact ⟨k + 1, by omega, by rw [HS], by rw [HS], by go_num, hb2, d0, d1⟩
            case measure => simp [intOf]; omega
    · have hkn : k = n := by omega
      subst hkn
      go_wp2_with fail
      go_ret2
      exact ⟨rfl, hb⟩

theorem spBest_any (p : Int) (b c : Nat) (ds : List Kn) (w : World) (hn : ds.length ≤ 1048576) (hc : ds.length ≤ c) (hbl : b < w.heap.size) (hI : Kns w b 0 ds) :
    Calls Try.prog 47 #[.agg #[.int .i64 p, .slice (some ⟨b, 0, none⟩) ds.length c]] w (RetIB (bestR p ds) (bestOk p ds) w) := by
  cases h : bestOk p ds with
  | false =>
    rw [show bestR p ds = 0 by unfold bestR; rw [if_neg (by rw [h]; simp)]]
    unfold bestOk at h
    cases h1 : pzB p ds with
    | false => exact spBest_no p b _ c ds w rfl hn hbl hI h1
    | true =>
      rw [h1, Bool.true_and] at h
      exact spBest_out p b _ c ds w rfl hn hbl hI h1 (by have := of_decide_eq_false h; omega)
  | true =>
    rw [show bestR p ds = ((bestTo (cntL p.toNat ds) ds.length).1 : Int) by unfold bestR; rw [if_pos h]]
    unfold bestOk at h
    rw [Bool.and_eq_true] at h
    obtain ⟨m, rfl, _⟩ := pz_of h.1
    exact spBest_yes m b _ c ds w rfl hc (of_decide_eq_true h.2) hbl hI h.1

theorem bestClue_both (p : Int) (ds : List Kn) : ∃ r ok,
    (∀ b c w, ds.length ≤ 1048576 → ds.length ≤ c → b < w.heap.size → Kns w b 0 ds → Calls Try.prog 47 #[.agg #[.int .i64 p, .slice (some ⟨b, 0, none⟩) ds.length c]] w (RetIB r ok w)) ∧
    (∀ b c w, ds.length ≤ 1048576 → ds.length ≤ c → b < w.heap.size → Kns w b 0 ds → Calls Try.prog 48 #[.agg #[.int .i64 p, .slice (some ⟨b, 0, none⟩) ds.length c]] w (RetIB r ok w)) :=
  ⟨_, _, fun b c w hn hc hb hI => spBest_any p b c ds w hn hc hb hI, fun b c w hn hc hb hI => imBest_any p b c ds w hn hc hb hI⟩
end Go.Proofs.Ytkkjbkagkmngkaa
