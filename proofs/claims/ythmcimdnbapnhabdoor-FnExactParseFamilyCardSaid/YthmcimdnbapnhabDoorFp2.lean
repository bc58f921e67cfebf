/- How the model parses families: the walk. -/
import Derived.Test.YthmcimdnbapnhabDoorFp1
set_option linter.unusedVariables false
set_option linter.unusedSimpArgs false
namespace Go.Proofs.YthmcimdnbapnhabDoor
open Go.RowKit

theorem ownK_push {B : Nat} {w1 : World} {v' : Value} {ds : List Kn} {y f o : Int} (h : w1.ownsRow B 37 3 v' (ds.length + 1) (flatK ds ++ [.int .i64 y, .int .i64 f, .int .i64 o])) : OwnK B w1 v' (ds ++ [(y, f, o)]) := by
  unfold OwnK
  rw [List.length_append, flatK_snoc]
  exact h

theorem str_ne {a b : ByteArray} (h : ¬ a = b) : (a.toList == b.toList) = false := by
  rw [beq_eq_false_iff_ne]
  intro e
  rw [ByteArray.toList_eq, ByteArray.toList_eq] at e
  apply h
  rw [← Lib.mk_data a, ← Lib.mk_data b, e]
theorem newKnAt (w : World) (y f o : Int) (t : TypeId) (g : Nat) (hg : g = w.heap.size) : ∀ j u, [Value.int .i64 y, Value.int .i64 f, Value.int .i64 o][j]? = some u → (w.alloc (.cells #[.int .i64 y, .int .i64 f, .int .i64 o] t)).cell? ((⟨g, 0, none⟩ : Addr).add j) = some u := by
  subst hg; exact newKn w y f o t
set_option maxHeartbeats 8000000 in
set_option maxRecDepth 100000 in
theorem spParse_of (s : ByteArray) (w : World) (h : s.size ≤ 154) (rs : List Kn) (ok : Bool) (hok : Hid (parsedF s = ok)) (hrs : Hid (parseF s = rs)) : Calls Tryd.prog 10 #[.string s] w (RetOwnKB rs ok w) := by
  obtain ⟨i0, hi, hz0, hz1, hz2⟩ := info_parts infoKin
  have hI : ¬ (154 : Int) < (s.size : Int) := by omega
  have hl1 := cuts_len1 59 s
  have hl2 := cuts_len2 59 s
  have HCS := Lib.hid (fun (k : Nat) (hk : k < (cuts 59 s).length) => Nat.le_trans (cuts_size _ (getD_mem hk)) h)
  have HPB := Lib.hid (fun (k : Nat) (hk : k < (cuts 59 s).length) => parsedF_bad hk)
  have HRO : Hid (parsedF s = false → rs = []) := Lib.hid (fun hh => by rw [← hrs.out]; unfold parseF; rw [hh]; rfl)
  have hS0 : Calls Tryd.prog 22 #[.string s, .int .u8 59] w (RetOwnT (cuts 59 s) w) := l1Split_any 59 s w (by omega)
  have HS0 := Lib.hid hS0
  clear hS0
  go_enter Tryd.func10, Tryd.ntmps10
  go_wp2_with fail
  refine (HS0.out).mono ?_
  rintro e w2 ⟨v, rfl, ho, hb0⟩
  obtain ⟨g, c, rfl, hg0, hg1, hcs⟩ := ownT_cases ho hl1
  have HC := Lib.hid hcs
  have hs0 := hb0.size
  clear ho hcs HS0
  obtain ⟨n, hn⟩ : ∃ n, (cuts 59 s).length = n := ⟨_, rfl⟩
  have HN := Lib.hid hn
  rw [hn] at hl1 hl2 HC HCS HPB ⊢
  clear hn
  go_wp2_with fail
  go_loopw [4, 15] (fun o v wr => ∃ k : Nat, k ≤ n ∧ v = .int .i64 (k : Int) ∧ Hid (∀ j, j < k → pcOk ((cuts 59 s).getD j ByteArray.empty) = true) ∧ OwnK w2.heap.size wr o (rdF s k) ∧ Below w2.heap.size w2 wr) (fun _ v _ => ((n : Int) + 1 - intOf v).toNat)
  case atStart => exact ⟨0, by omega, rfl, Lib.hid (fun j hj => absurd hj (by omega)), ownK_nil _ _, Below.refl _ _⟩
  case round =>
    obtain ⟨k, hk, rfl, HA, ho, hb⟩ := hrel
    have hrl := rdF_len s k
    rw [HN.out] at hrl
    have hsz := hb.size
    by_cases hlt : k < n
    · have hc : wr.cell? ⟨g, k, none⟩ = some (.string ((cuts 59 s).getD k ByteArray.empty)) := (hb.cell (p := ⟨g, k, none⟩) hg1).trans (HC.out k hlt)
      have HR := Lib.hid (rdF_succ s k (by rw [HN.out]; exact hlt))
      have HB := Lib.hid (HPB.out k hlt)
      have hxs := HCS.out k hlt
      have HOK := Lib.hid (show pcOk ((cuts 59 s).getD k ByteArray.empty) = (decide ((cuts 46 ((cuts 59 s).getD k ByteArray.empty)).length ≤ 3) && (decide (¬ 1 < (cuts 46 ((cuts 59 s).getD k ByteArray.empty)).length) || decide (0 ≤ readB ((cuts 46 ((cuts 59 s).getD k ByteArray.empty)).getD 1 ByteArray.empty))) && (decide (¬ 2 < (cuts 46 ((cuts 59 s).getD k ByteArray.empty)).length) || decide (0 ≤ readB ((cuts 46 ((cuts 59 s).getD k ByteArray.empty)).getD 2 ByteArray.empty)))) from rfl)
      have HPD := Lib.hid (show pcK ((cuts 59 s).getD k ByteArray.empty) = (readB ((cuts 46 ((cuts 59 s).getD k ByteArray.empty)).getD 0 ByteArray.empty), if 1 < (cuts 46 ((cuts 59 s).getD k ByteArray.empty)).length then readB ((cuts 46 ((cuts 59 s).getD k ByteArray.empty)).getD 1 ByteArray.empty) else -1, if 2 < (cuts 46 ((cuts 59 s).getD k ByteArray.empty)).length then readB ((cuts 46 ((cuts 59 s).getD k ByteArray.empty)).getD 2 ByteArray.empty) else -1) from rfl)
      have HA2 := Lib.hid (fun (hp : pcOk ((cuts 59 s).getD k ByteArray.empty) = true) (j : Nat) (hj : j < k + 1) => (show pcOk ((cuts 59 s).getD j ByteArray.empty) = true from by
        rcases Nat.lt_succ_iff_lt_or_eq.1 hj with hj | rfl
        · exact HA.out j hj
        · exact hp))
      generalize (cuts 59 s).getD k ByteArray.empty = x at hc HR HB hxs HOK HPD HA2
      have hl3 := cuts_len1 46 x
      have HSP := Lib.hid (fun W => (show Calls Tryd.prog 22 #[.string x, .int .u8 46] W (RetOwnT (cuts 46 x) W) from l1Split_any 46 x W (by omega)))
      generalize pcK x = pd at HR HPD
      generalize pcOk x = po at HB HOK HA2
      generalize cuts 46 x = ls at HOK HPD HSP hl3
      generalize rdF s k = xs at ho HR hrl
      clear hxs
      have hne : u4.ownBlock ≠ some wr.heap.size := ho.blockNe (Nat.le_refl _)
      have HST := Lib.hid (fun (W : World) (i : Nat) (u : Value) (h : OwnK w2.heap.size W u4 xs) => OwnK.grown h (show W.grownBy (W.setCell ⟨wr.heap.size, i, none⟩ u) (some wr.heap.size) from Lib.grownBy_setCell _ _ _ _) hne)
      have HBS := Lib.hid (fun (W : World) (i : Nat) (u : Value) (h : Below w2.heap.size w2 W) => h.setCell (p := ⟨wr.heap.size, i, none⟩) hsz u)
      have HKO := Lib.hid (fun (w3 : World) (hc : Below (wr.alloc (.cells #[.int .i64 0, .int .i64 (-1), .int .i64 (-1)] 37)).heap.size (wr.alloc (.cells #[.int .i64 0, .int .i64 (-1), .int .i64 (-1)] 37)) w3) => OwnK.kept (World.ownsRow.alloc ho (.cells #[.int .i64 0, .int .i64 (-1), .int .i64 (-1)] 37)) hc)
      have HKB := Lib.hid (fun (w3 : World) (hc : Below (wr.alloc (.cells #[.int .i64 0, .int .i64 (-1), .int .i64 (-1)] 37)).heap.size (wr.alloc (.cells #[.int .i64 0, .int .i64 (-1), .int .i64 (-1)] 37)) w3) => (hb.alloc hsz _).trans (hc.mono (hb.alloc hsz _).size))
      clear ho hne
      by_cases hm3 : 3 < ls.length
      · have hp : po = false := by rw [HOK.out, decide_eq_false (show ¬ ls.length ≤ 3 by omega)]; rfl
        have HF := Lib.hid (HB.out hp)
        obtain rfl : ok = false := hok.out.symm.trans HF.out
        obtain rfl : rs = [] := HRO.out HF.out
        have hm4 : (3 : Int) < ((ls.length : Nat) : Int) := by omega
        clear HA2 hp HOK HB HPD
        go_wp2_with (first | (go_at_call 22; refine (HSP.out _).mono ?_; rintro e w3 ⟨v, rfl, ho3, hcall⟩; obtain ⟨q, cq, rfl, hq0, hq1, hqs⟩ := ownT_cases ho3 hl3; have hb4 := HKB.out w3 hcall; clear hqs ho3))
        go_ret2
        exact ⟨_, rfl, ownK_nil _ _, hb0.trans (hb4.mono hs0)⟩
      · have hL : ls.length = 1 ∨ ls.length = 2 ∨ ls.length = 3 := by omega
        clear hm3
        rcases hL with hm | hm | hm
        · rw [hm] at HOK HPD
          generalize hs0 : ls.getD 0 ByteArray.empty = s0 at *
          have HR0 := Lib.hid (fun W => l1Read_any s0 W)
          generalize readB s0 = z0 at HR0 HPD HOK
          have HYS := Lib.hid (show ls.getD 0 ByteArray.empty = s0 from hs0)
          clear hs0
          have hp : po = true := by rw [HOK.out]; simp 
          have HA3 := Lib.hid (HA2.out hp)
          have HKN : Hid (pd = (z0, (-1), (-1))) := Lib.hid (by rw [HPD.out]; rfl)
          clear HA2 hp HOK HB HPD
          go_wp2_with (first | (go_at_call 22; refine (HSP.out _).mono ?_; rintro e w3 ⟨v, rfl, ho3, hcall⟩; obtain ⟨q, cq, rfl, hq0, hq1, hqs⟩ := ownT_cases ho3 hl3; rw [hm] at hqs ⊢; have y0 := hqs 0 (by omega); rw [HYS.out] at y0; clear hqs; have ho4 := HKO.out w3 hcall; have hb4 := HKB.out w3 hcall; have d0 : w3.cell? ⟨wr.heap.size, 0, none⟩ = some (.int .i64 0) := below_cell2 hcall (by simp [go_sem]); have d1 : w3.cell? ⟨wr.heap.size, 1, none⟩ = some (.int .i64 (-1)) := below_cell2 hcall (by simp [go_sem]); have d2 : w3.cell? ⟨wr.heap.size, 2, none⟩ = some (.int .i64 (-1)) := below_cell2 hcall (by simp [go_sem]); have f0 : ∀ i, w3.frozen? ⟨wr.heap.size, i, none⟩ = false := fun i => (hcall.frozen (p := ⟨wr.heap.size, i, none⟩) (by simp)).trans (by simp [go_sem]); have hq9 : wr.heap.size + 1 ≤ q := (by simpa using hq0); have hqk1 : ¬ q = wr.heap.size := (by omega); have hqk2 : ¬ wr.heap.size = q := (by omega); clear ho3) | (go_at_call_of 23 (Value.string s0); refine (HR0.out _).mono ?_; rintro e w' ⟨rfl, rfl⟩) | (at_builtin; refine wpList_append_own _ rfl _ _ 26 rfl w2.heap.size 37 i0 (.agg #[.int .i64 0, .int .i64 0, .int .i64 0]) 3 24 Tryd.underlying26 hi hz0 hz1 hz2 rfl (by decide) _ xs.length (flatK xs) rfl (World.ownsRow.alloc (HST.out _ 0 (.int .i64 z0) ho4) _) ⟨w3.heap.size, 0, none⟩ 1 1 [.int .i64 z0, .int .i64 (-1), .int .i64 (-1)] rfl rfl (newKnAt _ _ _ _ _ _ (by simp)) (kn_ints _ _ _) ?c4 ?c5 ?c6 ?_))
          case c4 => unfold maxLen; omega
          case c5 => omega
          case c6 => have := (HBS.out _ 0 (.int .i64 z0) hb4).size; simp at *; omega
          intro v' w4 hown hgr _
          have ho5 := ownK_push hown
          rw [← HKN.out, ← HR.out] at ho5
          have hb5 := ((HBS.out _ 0 (.int .i64 z0) hb4).alloc (HBS.out _ 0 (.int .i64 z0) hb4).size _).grown hgr (by have := (HBS.out _ 0 (.int .i64 z0) hb4).size; simp at *; omega) (fun k hk => (World.ownsRow.lt (HST.out _ 0 (.int .i64 z0) ho4) k hk).1)
          clear hown hgr
          go_wp2_with fail
          go_roundw
          case rel => exact ⟨k + 1, by omega, by go_num, HA3, ho5, hb5⟩
          case measure => simp [intOf]; omega
        · rw [hm] at HOK HPD
          generalize hs0 : ls.getD 0 ByteArray.empty = s0 at *
          have HR0 := Lib.hid (fun W => l1Read_any s0 W)
          generalize readB s0 = z0 at HR0 HPD HOK
          generalize hs1 : ls.getD 1 ByteArray.empty = s1 at *
          have HR1 := Lib.hid (fun W => l1Read_any s1 W)
          generalize readB s1 = z1 at HR1 HPD HOK
          have HYS := Lib.hid (show ls.getD 0 ByteArray.empty = s0 ∧ ls.getD 1 ByteArray.empty = s1 from ⟨hs0, hs1⟩)
          clear hs0 hs1
          by_cases h1 : 0 ≤ z1
          · have hz : ¬ z1 < 0 := by omega
            have hp : po = true := by rw [HOK.out]; simp [h1]
            have HA3 := Lib.hid (HA2.out hp)
            have HKN : Hid (pd = (z0, z1, (-1))) := Lib.hid (by rw [HPD.out]; rfl)
            clear HA2 hp HOK HB HPD
            go_wp2_with (first | (go_at_call 22; refine (HSP.out _).mono ?_; rintro e w3 ⟨v, rfl, ho3, hcall⟩; obtain ⟨q, cq, rfl, hq0, hq1, hqs⟩ := ownT_cases ho3 hl3; rw [hm] at hqs ⊢; have y0 := hqs 0 (by omega); have y1 := hqs 1 (by omega); obtain ⟨e0, e1⟩ := HYS.out; rw [e0] at y0;  rw [e1] at y1; clear e0 e1; clear hqs; have ho4 := HKO.out w3 hcall; have hb4 := HKB.out w3 hcall; have d0 : w3.cell? ⟨wr.heap.size, 0, none⟩ = some (.int .i64 0) := below_cell2 hcall (by simp [go_sem]); have d1 : w3.cell? ⟨wr.heap.size, 1, none⟩ = some (.int .i64 (-1)) := below_cell2 hcall (by simp [go_sem]); have d2 : w3.cell? ⟨wr.heap.size, 2, none⟩ = some (.int .i64 (-1)) := below_cell2 hcall (by simp [go_sem]); have f0 : ∀ i, w3.frozen? ⟨wr.heap.size, i, none⟩ = false := fun i => (hcall.frozen (p := ⟨wr.heap.size, i, none⟩) (by simp)).trans (by simp [go_sem]); have hq9 : wr.heap.size + 1 ≤ q := (by simpa using hq0); have hqk1 : ¬ q = wr.heap.size := (by omega); have hqk2 : ¬ wr.heap.size = q := (by omega); clear ho3) | (go_at_call_of 23 (Value.string s0); refine (HR0.out _).mono ?_; rintro e w' ⟨rfl, rfl⟩) | (go_at_call_of 23 (Value.string s1); refine (HR1.out _).mono ?_; rintro e w' ⟨rfl, rfl⟩) | (at_builtin; refine wpList_append_own _ rfl _ _ 26 rfl w2.heap.size 37 i0 (.agg #[.int .i64 0, .int .i64 0, .int .i64 0]) 3 24 Tryd.underlying26 hi hz0 hz1 hz2 rfl (by decide) _ xs.length (flatK xs) rfl (World.ownsRow.alloc (HST.out _ 1 (.int .i64 z1) (HST.out _ 0 (.int .i64 z0) ho4)) _) ⟨w3.heap.size, 0, none⟩ 1 1 [.int .i64 z0, .int .i64 z1, .int .i64 (-1)] rfl rfl (newKnAt _ _ _ _ _ _ (by simp)) (kn_ints _ _ _) ?c4 ?c5 ?c6 ?_))
            case c4 => unfold maxLen; omega
            case c5 => omega
            case c6 => have := (HBS.out _ 1 (.int .i64 z1) (HBS.out _ 0 (.int .i64 z0) hb4)).size; simp at *; omega
            intro v' w4 hown hgr _
            have ho5 := ownK_push hown
            rw [← HKN.out, ← HR.out] at ho5
            have hb5 := ((HBS.out _ 1 (.int .i64 z1) (HBS.out _ 0 (.int .i64 z0) hb4)).alloc (HBS.out _ 1 (.int .i64 z1) (HBS.out _ 0 (.int .i64 z0) hb4)).size _).grown hgr (by have := (HBS.out _ 1 (.int .i64 z1) (HBS.out _ 0 (.int .i64 z0) hb4)).size; simp at *; omega) (fun k hk => (World.ownsRow.lt (HST.out _ 1 (.int .i64 z1) (HST.out _ 0 (.int .i64 z0) ho4)) k hk).1)
            clear hown hgr
            go_wp2_with fail
            go_roundw
            case rel => exact ⟨k + 1, by omega, by go_num, HA3, ho5, hb5⟩
            case measure => simp [intOf]; omega
          · have hz : z1 < 0 := by omega
            have hp : po = false := by rw [HOK.out]; simp [h1]
            have HF := Lib.hid (HB.out hp)
            obtain rfl : ok = false := hok.out.symm.trans HF.out
            obtain rfl : rs = [] := HRO.out HF.out
            clear HA2 hp HOK HB HPD
            go_wp2_with (first | (go_at_call 22; refine (HSP.out _).mono ?_; rintro e w3 ⟨v, rfl, ho3, hcall⟩; obtain ⟨q, cq, rfl, hq0, hq1, hqs⟩ := ownT_cases ho3 hl3; rw [hm] at hqs ⊢; have y0 := hqs 0 (by omega); have y1 := hqs 1 (by omega); obtain ⟨e0, e1⟩ := HYS.out; rw [e0] at y0;  rw [e1] at y1; clear e0 e1; clear hqs; have ho4 := HKO.out w3 hcall; have hb4 := HKB.out w3 hcall; have d0 : w3.cell? ⟨wr.heap.size, 0, none⟩ = some (.int .i64 0) := below_cell2 hcall (by simp [go_sem]); have d1 : w3.cell? ⟨wr.heap.size, 1, none⟩ = some (.int .i64 (-1)) := below_cell2 hcall (by simp [go_sem]); have d2 : w3.cell? ⟨wr.heap.size, 2, none⟩ = some (.int .i64 (-1)) := below_cell2 hcall (by simp [go_sem]); have f0 : ∀ i, w3.frozen? ⟨wr.heap.size, i, none⟩ = false := fun i => (hcall.frozen (p := ⟨wr.heap.size, i, none⟩) (by simp)).trans (by simp [go_sem]); have hq9 : wr.heap.size + 1 ≤ q := (by simpa using hq0); have hqk1 : ¬ q = wr.heap.size := (by omega); have hqk2 : ¬ wr.heap.size = q := (by omega); clear ho3) | (go_at_call_of 23 (Value.string s0); refine (HR0.out _).mono ?_; rintro e w' ⟨rfl, rfl⟩) | (go_at_call_of 23 (Value.string s1); refine (HR1.out _).mono ?_; rintro e w' ⟨rfl, rfl⟩))
            go_ret2
            exact ⟨_, rfl, ownK_nil _ _, hb0.trans ((HBS.out _ 1 (.int .i64 z1) (HBS.out _ 0 (.int .i64 z0) hb4)).mono hs0)⟩
        · rw [hm] at HOK HPD
          generalize hs0 : ls.getD 0 ByteArray.empty = s0 at *
          have HR0 := Lib.hid (fun W => l1Read_any s0 W)
          generalize readB s0 = z0 at HR0 HPD HOK
          generalize hs1 : ls.getD 1 ByteArray.empty = s1 at *
          have HR1 := Lib.hid (fun W => l1Read_any s1 W)
          generalize readB s1 = z1 at HR1 HPD HOK
          generalize hs2 : ls.getD 2 ByteArray.empty = s2 at *
          have HR2 := Lib.hid (fun W => l1Read_any s2 W)
          generalize readB s2 = z2 at HR2 HPD HOK
          have HYS := Lib.hid (show ls.getD 0 ByteArray.empty = s0 ∧ ls.getD 1 ByteArray.empty = s1 ∧ ls.getD 2 ByteArray.empty = s2 from ⟨hs0, hs1, hs2⟩)
          clear hs0 hs1 hs2
          by_cases h1 : 0 ≤ z1
          · have hz : ¬ z1 < 0 := by omega
            by_cases h2 : 0 ≤ z2
            · have hzz : ¬ z2 < 0 := by omega
              have hp : po = true := by rw [HOK.out]; simp [h1, h2]
              have HA3 := Lib.hid (HA2.out hp)
              have HKN : Hid (pd = (z0, z1, z2)) := Lib.hid (by rw [HPD.out]; rfl)
              clear HA2 hp HOK HB HPD
              go_wp2_with (first | (go_at_call 22; refine (HSP.out _).mono ?_; rintro e w3 ⟨v, rfl, ho3, hcall⟩; obtain ⟨q, cq, rfl, hq0, hq1, hqs⟩ := ownT_cases ho3 hl3; rw [hm] at hqs ⊢; have y0 := hqs 0 (by omega); have y1 := hqs 1 (by omega); have y2 := hqs 2 (by omega); obtain ⟨e0, e1, e2⟩ := HYS.out; rw [e0] at y0;  rw [e1] at y1;  rw [e2] at y2; clear e0 e1 e2; clear hqs; have ho4 := HKO.out w3 hcall; have hb4 := HKB.out w3 hcall; have d0 : w3.cell? ⟨wr.heap.size, 0, none⟩ = some (.int .i64 0) := below_cell2 hcall (by simp [go_sem]); have d1 : w3.cell? ⟨wr.heap.size, 1, none⟩ = some (.int .i64 (-1)) := below_cell2 hcall (by simp [go_sem]); have d2 : w3.cell? ⟨wr.heap.size, 2, none⟩ = some (.int .i64 (-1)) := below_cell2 hcall (by simp [go_sem]); have f0 : ∀ i, w3.frozen? ⟨wr.heap.size, i, none⟩ = false := fun i => (hcall.frozen (p := ⟨wr.heap.size, i, none⟩) (by simp)).trans (by simp [go_sem]); have hq9 : wr.heap.size + 1 ≤ q := (by simpa using hq0); have hqk1 : ¬ q = wr.heap.size := (by omega); have hqk2 : ¬ wr.heap.size = q := (by omega); clear ho3) | (go_at_call_of 23 (Value.string s0); refine (HR0.out _).mono ?_; rintro e w' ⟨rfl, rfl⟩) | (go_at_call_of 23 (Value.string s1); refine (HR1.out _).mono ?_; rintro e w' ⟨rfl, rfl⟩) | (go_at_call_of 23 (Value.string s2); refine (HR2.out _).mono ?_; rintro e w' ⟨rfl, rfl⟩) | (at_builtin; refine wpList_append_own _ rfl _ _ 26 rfl w2.heap.size 37 i0 (.agg #[.int .i64 0, .int .i64 0, .int .i64 0]) 3 24 Tryd.underlying26 hi hz0 hz1 hz2 rfl (by decide) _ xs.length (flatK xs) rfl (World.ownsRow.alloc (HST.out _ 2 (.int .i64 z2) (HST.out _ 1 (.int .i64 z1) (HST.out _ 0 (.int .i64 z0) ho4))) _) ⟨w3.heap.size, 0, none⟩ 1 1 [.int .i64 z0, .int .i64 z1, .int .i64 z2] rfl rfl (newKnAt _ _ _ _ _ _ (by simp)) (kn_ints _ _ _) ?c4 ?c5 ?c6 ?_))
              case c4 => unfold maxLen; omega
              case c5 => omega
              case c6 => have := (HBS.out _ 2 (.int .i64 z2) (HBS.out _ 1 (.int .i64 z1) (HBS.out _ 0 (.int .i64 z0) hb4))).size; simp at *; omega
              intro v' w4 hown hgr _
              have ho5 := ownK_push hown
              rw [← HKN.out, ← HR.out] at ho5
              have hb5 := ((HBS.out _ 2 (.int .i64 z2) (HBS.out _ 1 (.int .i64 z1) (HBS.out _ 0 (.int .i64 z0) hb4))).alloc (HBS.out _ 2 (.int .i64 z2) (HBS.out _ 1 (.int .i64 z1) (HBS.out _ 0 (.int .i64 z0) hb4))).size _).grown hgr (by have := (HBS.out _ 2 (.int .i64 z2) (HBS.out _ 1 (.int .i64 z1) (HBS.out _ 0 (.int .i64 z0) hb4))).size; simp at *; omega) (fun k hk => (World.ownsRow.lt (HST.out _ 2 (.int .i64 z2) (HST.out _ 1 (.int .i64 z1) (HST.out _ 0 (.int .i64 z0) ho4))) k hk).1)
              clear hown hgr
              go_wp2_with fail
              go_roundw
              case rel => exact ⟨k + 1, by omega, by go_num, HA3, ho5, hb5⟩
              case measure => simp [intOf]; omega
            · have hzz : z2 < 0 := by omega
              have hp : po = false := by rw [HOK.out]; simp [h1, h2]
              have HF := Lib.hid (HB.out hp)
              obtain rfl : ok = false := hok.out.symm.trans HF.out
              obtain rfl : rs = [] := HRO.out HF.out
              clear HA2 hp HOK HB HPD
              go_wp2_with (first | (go_at_call 22; refine (HSP.out _).mono ?_; rintro e w3 ⟨v, rfl, ho3, hcall⟩; obtain ⟨q, cq, rfl, hq0, hq1, hqs⟩ := ownT_cases ho3 hl3; rw [hm] at hqs ⊢; have y0 := hqs 0 (by omega); have y1 := hqs 1 (by omega); have y2 := hqs 2 (by omega); obtain ⟨e0, e1, e2⟩ := HYS.out; rw [e0] at y0;  rw [e1] at y1;  rw [e2] at y2; clear e0 e1 e2; clear hqs; have ho4 := HKO.out w3 hcall; have hb4 := HKB.out w3 hcall; have d0 : w3.cell? ⟨wr.heap.size, 0, none⟩ = some (.int .i64 0) := below_cell2 hcall (by simp [go_sem]); have d1 : w3.cell? ⟨wr.heap.size, 1, none⟩ = some (.int .i64 (-1)) := below_cell2 hcall (by simp [go_sem]); have d2 : w3.cell? ⟨wr.heap.size, 2, none⟩ = some (.int .i64 (-1)) := below_cell2 hcall (by simp [go_sem]); have f0 : ∀ i, w3.frozen? ⟨wr.heap.size, i, none⟩ = false := fun i => (hcall.frozen (p := ⟨wr.heap.size, i, none⟩) (by simp)).trans (by simp [go_sem]); have hq9 : wr.heap.size + 1 ≤ q := (by simpa using hq0); have hqk1 : ¬ q = wr.heap.size := (by omega); have hqk2 : ¬ wr.heap.size = q := (by omega); clear ho3) | (go_at_call_of 23 (Value.string s0); refine (HR0.out _).mono ?_; rintro e w' ⟨rfl, rfl⟩) | (go_at_call_of 23 (Value.string s1); refine (HR1.out _).mono ?_; rintro e w' ⟨rfl, rfl⟩) | (go_at_call_of 23 (Value.string s2); refine (HR2.out _).mono ?_; rintro e w' ⟨rfl, rfl⟩))
              go_ret2
              exact ⟨_, rfl, ownK_nil _ _, hb0.trans ((HBS.out _ 2 (.int .i64 z2) (HBS.out _ 1 (.int .i64 z1) (HBS.out _ 0 (.int .i64 z0) hb4))).mono hs0)⟩
          · have hz : z1 < 0 := by omega
            have hp : po = false := by rw [HOK.out]; simp [h1]
            have HF := Lib.hid (HB.out hp)
            obtain rfl : ok = false := hok.out.symm.trans HF.out
            obtain rfl : rs = [] := HRO.out HF.out
            clear HA2 hp HOK HB HPD
            go_wp2_with (first | (go_at_call 22; refine (HSP.out _).mono ?_; rintro e w3 ⟨v, rfl, ho3, hcall⟩; obtain ⟨q, cq, rfl, hq0, hq1, hqs⟩ := ownT_cases ho3 hl3; rw [hm] at hqs ⊢; have y0 := hqs 0 (by omega); have y1 := hqs 1 (by omega); have y2 := hqs 2 (by omega); obtain ⟨e0, e1, e2⟩ := HYS.out; rw [e0] at y0;  rw [e1] at y1;  rw [e2] at y2; clear e0 e1 e2; clear hqs; have ho4 := HKO.out w3 hcall; have hb4 := HKB.out w3 hcall; have d0 : w3.cell? ⟨wr.heap.size, 0, none⟩ = some (.int .i64 0) := below_cell2 hcall (by simp [go_sem]); have d1 : w3.cell? ⟨wr.heap.size, 1, none⟩ = some (.int .i64 (-1)) := below_cell2 hcall (by simp [go_sem]); have d2 : w3.cell? ⟨wr.heap.size, 2, none⟩ = some (.int .i64 (-1)) := below_cell2 hcall (by simp [go_sem]); have f0 : ∀ i, w3.frozen? ⟨wr.heap.size, i, none⟩ = false := fun i => (hcall.frozen (p := ⟨wr.heap.size, i, none⟩) (by simp)).trans (by simp [go_sem]); have hq9 : wr.heap.size + 1 ≤ q := (by simpa using hq0); have hqk1 : ¬ q = wr.heap.size := (by omega); have hqk2 : ¬ wr.heap.size = q := (by omega); clear ho3) | (go_at_call_of 23 (Value.string s0); refine (HR0.out _).mono ?_; rintro e w' ⟨rfl, rfl⟩) | (go_at_call_of 23 (Value.string s1); refine (HR1.out _).mono ?_; rintro e w' ⟨rfl, rfl⟩))
            go_ret2
            exact ⟨_, rfl, ownK_nil _ _, hb0.trans ((HBS.out _ 1 (.int .i64 z1) (HBS.out _ 0 (.int .i64 z0) hb4)).mono hs0)⟩
    · have hkn : k = n := by omega
      subst hkn
      rw [rdF_all s k (by rw [HN.out]; exact Nat.le_refl _)] at ho
      have HALL := Lib.hid (show ∀ q ∈ cuts 59 s, pcOk q = true from fun q hq => by
        obtain ⟨j, hj, e⟩ := List.getElem_of_mem hq
        have := HA.out j (by rw [← HN.out]; exact hj)
        rw [List.getD_eq_getElem?_getD, List.getElem?_eq_getElem hj] at this
        rw [← e]; exact this)
      have hdl : (fsOf s).length = k := by unfold fsOf; rw [List.length_map]; exact HN.out
      have hlc : ¬ (k : Int) < (k : Int) := by omega
      have HNOT : Hid (¬ (famB (fsOf s) = true ∧ ftx (fsOf s) (fsOf s).length = s) → parsedF s = false) := Lib.hid (fun hh => by
        cases e : parsedF s with
        | false => rfl
        | true => exact absurd (parsedF_parts e).2.2 hh)
      have HYES : Hid (famB (fsOf s) = true → ftx (fsOf s) (fsOf s).length = s → parsedF s = true ∧ parseF s = fsOf s) := Lib.hid (fun h1 h2 => by
        have e : parsedF s = true := by
          unfold parsedF
          rw [h1, h2, decide_eq_true h, decide_eq_true rfl, List.all_eq_true.2 HALL.out]; rfl
        exact ⟨e, by unfold parseF; rw [if_pos e]⟩)
      rcases ho.cases with ⟨rfl, h0⟩ | ⟨q, cq, rfl, hq0, hq1, hq2, hq3, hq4, hq5⟩
      · rw [h0] at hdl
        simp at hdl
        omega
      have ho2 := Lib.hid (ho.mono hs0)
      have HGA := Lib.hid (faGood_any q (fsOf s).length cq (fsOf s) wr rfl hq2 hq1 hq4)
      have HTX := Lib.hid (fun (W : World) (hb : Below wr.heap.size wr W) (hf : famB (fsOf s) = true) => faText_any (fsOf s) q cq W hf (Fm.kept ⟨hq4, hq1, hq2, (famB_len hf).2⟩ hb))
      have HBF := Lib.hid (hb0.trans (hb.mono hs0))
      rw [hdl] at HGA HTX ho2 HNOT HYES ⊢
      clear HC HCS HPB HN HA HALL hl1 hl2 hrl ho hdl hq4 hq5 h hI
      generalize fsOf s = es at *
      cases hf : famB es with
      | false =>
        obtain rfl : ok = false := hok.out.symm.trans (HNOT.out (fun hh => by rw [hf] at hh; exact absurd hh.1 (by simp)))
        obtain rfl : rs = [] := HRO.out hok.out
        rw [hf] at HGA
        clear hf HTX HNOT HYES
        go_wp2_with (go_at_call 14; refine (HGA.out).mono ?_; rintro e w' ⟨rfl, hcall⟩)
        go_ret2
        exact ⟨_, rfl, ownK_nil _ _, HBF.out.trans (hcall.mono HBF.out.size)⟩
      | true =>
        have HTX2 := Lib.hid (fun W hb => HTX.out W hb hf)
        have HYES2 := Lib.hid (fun h => HYES.out hf h)
        have HNOT2 := Lib.hid (fun (h : ¬ ftx es k = s) => HNOT.out (fun hh => h hh.2))
        rw [hf] at HGA
        clear hf HTX HNOT HYES
        by_cases heq : ftx es k = s
        · have hy := HYES2.out heq
          obtain rfl : ok = true := hok.out.symm.trans hy.1
          obtain rfl : rs = es := hrs.out.symm.trans hy.2
          rw [heq] at HTX2
          clear hy heq HYES2 HNOT2
          go_wp2_with (first | (go_at_call 14; refine (HGA.out).mono ?_; rintro e w4 ⟨rfl, hcall⟩) | (go_at_call 15; refine (HTX2.out _ hcall).mono ?_; rintro e w5 ⟨rfl, hcall2⟩))
          go_ret2
          exact ⟨_, rfl, ho2.out.kept (hcall.trans (hcall2.mono hcall.size)), HBF.out.trans ((hcall.trans (hcall2.mono hcall.size)).mono HBF.out.size)⟩
        · obtain rfl : ok = false := hok.out.symm.trans (HNOT2.out heq)
          obtain rfl : rs = [] := HRO.out hok.out
          generalize ftx es k = tx at HTX2 heq
          have hne := str_ne heq
          clear HYES2 HNOT2 heq
          go_wp2_with (first | (go_at_call 14; refine (HGA.out).mono ?_; rintro e w4 ⟨rfl, hcall⟩) | (go_at_call 15; refine (HTX2.out _ hcall).mono ?_; rintro e w5 ⟨rfl, hcall2⟩))
          go_ret2
          exact ⟨_, rfl, ownK_nil _ _, HBF.out.trans ((hcall.trans (hcall2.mono hcall.size)).mono HBF.out.size)⟩
theorem spParse_any (s : ByteArray) (w : World) : Calls Tryd.prog 10 #[.string s] w (RetOwnKB (parseF s) (parsedF s) w) := by
  by_cases h : s.size ≤ 154
  · exact spParse_of s w h _ _ (Lib.hid rfl) (Lib.hid rfl)
  · have e := parsedF_long (s := s) (by omega)
    rw [show parseF s = [] by unfold parseF; rw [e]; rfl, e]
    exact spParse_long s w (by omega)
end Go.Proofs.YthmcimdnbapnhabDoor
