/- The pairs with a sum, or with a product: the model's. -/
import Derived.Test.YtlfbhpeehidjhaaTaP
set_option linter.unusedVariables false
set_option linter.unusedSimpArgs false
namespace Go.Proofs.Ytlfbhpeehidjhaa
open Go.RowKit

theorem prs_ne (n : Nat) (h : 1 ≤ n) : prs n ≠ [] := by
  intro e
  have h1 : (prs n).length = 0 := by rw [e]; rfl
  obtain ⟨m, rfl⟩ : ∃ m, n = m + 1 := ⟨n - 1, by omega⟩
  unfold prs at h1
  rw [prsTo_succ, List.length_append, rowP_len] at h1
  omega
/-- All pairs, as a slice that is not empty. -/
theorem taPairs_lit (n m : Nat) (hm : (prs n).length = m) (h1 : 1 ≤ n) (hn : n ≤ 40) (w : World) : Calls Try.prog 18 #[.int .i64 n] w (fun e w' => ∃ g c vs, e = .returned (.slice (some ⟨g, 0, none⟩) m c) ∧ OwnSS w.heap.size w'.heap.size w' (.slice (some ⟨g, 0, none⟩) m c) vs (rowsD (prs n)) ∧ (∀ i, i < m → w'.cell? ⟨g, i, none⟩ = some (vs.getD i (.slice none 0 0))) ∧ Below w.heap.size w w') := by
  refine (taPairs_any n hn w).mono ?_
  rintro e w' ⟨v, vs, rfl, hO, hb⟩
  have hl := rowsD_len (prs n)
  rcases hO.cases with ⟨rfl, h0⟩ | ⟨g, c, rfl, hc⟩
  · exfalso
    have h2 : (rowsD (prs n)).length = 0 := by rw [h0]; rfl
    exact prs_ne n h1 (List.eq_nil_of_length_eq_zero (by omega))
  · rw [hl, hm] at hO hc ⊢
    exact ⟨g, c, vs, rfl, hO, hc, hb⟩
theorem taLimit_any (n : Int) (w : World) : Calls Try.prog 17 #[.int .i64 n] w (RetSame (.bool (inB n 2 40)) w) := by
  go_enter Try.func17, Try.ntmps17
  go_wp2_with (first | (go_at_call 26; refine (l1In_any _ _ _ _).mono ?_; rintro e w' ⟨rfl, rfl⟩))
  go_ret
  exact ⟨rfl, rfl⟩

set_option maxHeartbeats 4000000 in
set_option maxRecDepth 100000 in
theorem specS_yes (n : Nat) (x : Int) (w : World) (hn0 : 2 ≤ n) (hn : n ≤ 40) (hx : 0 ≤ x) :
    Calls Try.prog 8 #[.int .i64 n, .int .i64 x] w (RetSSB (rowsD ((prs n).filter (isT true x))) true w) := by
  obtain ⟨j0, hj, jz0, jz1, jz2⟩ := info_parts infoSlice
  have hL : inB (n : Int) 2 40 = true := inB_true (by omega) (by omega)
  have HFil := Lib.hid (rowsD_filter (isT true x) (prs n))
  have hPB := prs_prB n hn
  have HAt := Lib.hid (fun k hk => prB_at hPB k hk)
  have HRow := Lib.hid (fun k hk => rowsD_at (prs n) k hk)
  have hlen : (rowsD (prs n)).length = (prs n).length := rowsD_len _
  have hm : (prs n).length ≤ 1640 := hPB.1
  obtain ⟨m, hm0⟩ : ∃ m, (prs n).length = m := ⟨_, rfl⟩
  rw [hm0] at HAt HRow hlen hm
  have HL := Lib.hid hlen
  clear hPB hlen
  generalize hqq : (fun r => isT true x (pairOf r)) = q at HFil
  have HQ := Lib.hid hqq
  clear hqq
  go_enter Try.func8, Try.ntmps8
  go_wp2_with (first | (go_at_call 17; refine (taLimit_any _ _).mono ?_; rintro e w' ⟨rfl, rfl⟩; rw [hL]; clear hL) | (go_at_call 18; refine (taPairs_lit n m hm0 (by omega) hn _).mono ?_; rintro e w1 ⟨go, c, vs, rfl, hO, hcell, hb1⟩))
  have hz1 := hb1.size
  generalize hrss : rowsD (prs n) = rss at hO HFil HRow HL
  clear hrss
  have HV0 := Lib.hid (subV_zero q vs rss)
  have HVl := Lib.hid (fun k => subV_len q vs rss k)
  have HO := Lib.hid hO
  have HCell := Lib.hid hcell
  clear hO hcell
  go_loopw [6, 19] (fun u v wr => ∃ k : Nat, k ≤ m ∧ v = .int .i64 k ∧ Hid (wr.ownsRow w1.heap.size 32 1 u (subV q vs rss k).length (subV q vs rss k)) ∧ Below w1.heap.size w1 wr) (fun _ v _ => m - (intOf v).toNat)
  case atStart => exact ⟨0, Nat.zero_le _, rfl, Lib.hid (by rw [HV0.out]; exact World.ownsRow_nil _ _ _ _), Below.refl _ _⟩
  case round =>
    obtain ⟨k, hk, rfl, Ho, hb⟩ := hrel
    have hsz := hb.size
    have hvl := HVl.out k
    by_cases hlt : k < m
    · have hrow := ((HO.out.kept (Nat.le_refl _) hb).row k (by rw [HL.out]; exact hlt))
      have hbd := HAt.out k hlt
      have hr := HRow.out k hlt
      generalize hds : at2 (prs n) k = p at hbd hr
      have HY := Lib.hid (fun h => subV_yes (q := q) (vs := vs) (rss := rss) (k := k) h)
      have HN := Lib.hid (fun h => subV_no (q := q) (vs := vs) (rss := rss) (k := k) h)
      have hc := below_cells2 hb (HCell.out k hlt)
      have hlc : (k : Int) < (m : Int) := by omega
      have hk0 : (0 : Int) ≤ (k : Int) := by omega
      generalize vs.getD k (.slice none 0 0) = y at hc hrow HY
      generalize rss.getD k [] = r at hrow hr HY HN
      have hone := oneU hrow
      subst hr
      obtain ⟨pa, pb⟩ := p
      have HQv : Hid (q [pa, pb] = isT true x (pa, pb)) := Lib.hid (by rw [← HQ.out]; rfl)
      clear hds
      rcases hrow.cases with ⟨rfl, h0⟩ | ⟨gk, ck, rfl, _, hgl, _, _, hIk, _⟩
      · simp at h0
      have h0 : wr.cell? ⟨gk, 0, none⟩ = some (.int .i64 pa) := hIk 0 (by simp)
      have h1 : wr.cell? ⟨gk, 1, none⟩ = some (.int .i64 pb) := hIk 1 (by simp)
      have HC := Lib.hid (taToldS_any gk ck pa pb wr hbd.1 hbd.2 h0 h1)
      clear hrow hIk hgl h0 h1 hbd
      have HK := Lib.hid (fun (w2 : World) (hb2 : Below wr.heap.size wr w2) => (show Below w1.heap.size w1 w2 ∧ w2.ownsRow w1.heap.size 32 1 u6 (subV q vs rss k).length (subV q vs rss k) ∧ w1.heap.size ≤ w2.heap.size from ⟨hb.trans (hb2.mono hsz), World.ownsRow.kept Ho.out (below_grown hb2 none) (by cases hv : u6.ownBlock <;> simp), Nat.le_trans hsz hb2.size⟩))
      clear Ho hb
      have HQw : Hid (q [pa, pb] = (toldP true (pa, pb) == x)) := HQv
      clear HQv
      generalize toldP true (pa, pb) = t at HC HQw
      cases hq : (t == x) with
      | true =>
        have HY2 := Lib.hid (HY.out (by rw [HQw.out]; exact hq))
        clear HY HN HQw
        go_wp2_with (first | (go_at_call 19; refine HC.out.mono ?_; rintro e w2 ⟨rfl, hb2⟩; obtain ⟨hbw, how, hsw⟩ := HK.out w2 hb2; clear hb2) | (at_builtin; refine wpList_append_own _ rfl _ _ 23 rfl w1.heap.size 32 j0 (.slice none 0 0) 1 24 Try.underlying23 hj jz0 jz1 jz2 rfl (by decide) _ _ _ rfl (World.ownsRow.alloc how _) ⟨w2.heap.size, 0, none⟩ 1 1 [.slice (some ⟨gk, 0, none⟩) 2 ck] rfl rfl (newCellAt _ _ _ _ rfl) hone ?c4 ?c5 ?c6 ?_))
        case c4 => unfold maxLen; omega
        case c5 => omega
        case c6 => simp; omega
        intro v' w3 hown' hgrow _
        have hb3 := sub_push (B := w1.heap.size) (v' := v') (x := v') hbw how hgrow
        have Ho3 : Hid (w3.ownsRow w1.heap.size 32 1 v' (subV q vs rss (k + 1)).length (subV q vs rss (k + 1))) := Lib.hid (by
          rw [HY2.out, List.length_append]
          exact hown')
        clear hown' hgrow how hbw
        go_wp2
        go_roundw
        case rel => exact ⟨k + 1, by omega, by go_num, Ho3, hb3⟩
        case measure => simp [intOf]; omega
      | false =>
        have HN2 := Lib.hid (HN.out (by rw [HQw.out]; exact hq))
        clear HY HN HQw
        go_wp2_with (first | (go_at_call 19; refine HC.out.mono ?_; rintro e w2 ⟨rfl, hb2⟩; obtain ⟨hbw, how, hsw⟩ := HK.out w2 hb2; clear hb2))
        have Ho3 : Hid (w2.ownsRow w1.heap.size 32 1 u6 (subV q vs rss (k + 1)).length (subV q vs rss (k + 1))) := Lib.hid (by rw [HN2.out]; exact how)
        clear how
        go_roundw
        case rel => exact ⟨k + 1, by omega, by go_num, Ho3, hbw⟩
        case measure => simp [intOf]; omega
    · have hkn : k = m := by omega
      have HS := Lib.hid (sub_own (q := q) (show k = rss.length by rw [HL.out]; exact hkn) HO.out (Nat.le_refl _) hz1 hb Ho.out)
      have hlc : ¬ (k : Int) < (m : Int) := by omega
      have hbz := hb1.trans (hb.mono hz1)
      clear hkn hk
      go_wp2
      go_ret2
      exact ⟨_, _, rfl, by rw [← HFil.out]; exact HS.out, hbz⟩
theorem specS_no (n : Int) (x : Int) (w : World) (h : inB n 2 40 = false ∨ x < 0) :
    Calls Try.prog 8 #[.int .i64 n, .int .i64 x] w (RetSSB [] false w) := by
  cases hL : inB n 2 40 with
  | false =>
    go_enter Try.func8, Try.ntmps8
    go_wp2_with (first | (go_at_call 17; refine (taLimit_any _ _).mono ?_; rintro e w' ⟨rfl, rfl⟩; rw [hL]))
    go_ret2
    exact ⟨_, [], rfl, ownSS_nil _ _ _, Below.refl _ _⟩
  | true =>
    have hx : x < 0 := by rcases h with h | h; rw [hL] at h; simp at h; exact h
    clear h
    go_enter Try.func8, Try.ntmps8
    go_wp2_with (first | (go_at_call 17; refine (taLimit_any _ _).mono ?_; rintro e w' ⟨rfl, rfl⟩; rw [hL]))
    go_ret2
    exact ⟨_, [], rfl, ownSS_nil _ _ _, Below.refl _ _⟩

set_option maxHeartbeats 4000000 in
set_option maxRecDepth 100000 in
theorem specP_yes (n : Nat) (x : Int) (w : World) (hn0 : 2 ≤ n) (hn : n ≤ 40) (hx : 0 ≤ x) :
    Calls Try.prog 13 #[.int .i64 n, .int .i64 x] w (RetSSB (rowsD ((prs n).filter (isT false x))) true w) := by
  obtain ⟨j0, hj, jz0, jz1, jz2⟩ := info_parts infoSlice
  have hL : inB (n : Int) 2 40 = true := inB_true (by omega) (by omega)
  have HFil := Lib.hid (rowsD_filter (isT false x) (prs n))
  have hPB := prs_prB n hn
  have HAt := Lib.hid (fun k hk => prB_at hPB k hk)
  have HRow := Lib.hid (fun k hk => rowsD_at (prs n) k hk)
  have hlen : (rowsD (prs n)).length = (prs n).length := rowsD_len _
  have hm : (prs n).length ≤ 1640 := hPB.1
  obtain ⟨m, hm0⟩ : ∃ m, (prs n).length = m := ⟨_, rfl⟩
  rw [hm0] at HAt HRow hlen hm
  have HL := Lib.hid hlen
  clear hPB hlen
  generalize hqq : (fun r => isT false x (pairOf r)) = q at HFil
  have HQ := Lib.hid hqq
  clear hqq
  go_enter Try.func13, Try.ntmps13
  go_wp2_with (first | (go_at_call 17; refine (taLimit_any _ _).mono ?_; rintro e w' ⟨rfl, rfl⟩; rw [hL]; clear hL) | (go_at_call 18; refine (taPairs_lit n m hm0 (by omega) hn _).mono ?_; rintro e w1 ⟨go, c, vs, rfl, hO, hcell, hb1⟩))
  have hz1 := hb1.size
  generalize hrss : rowsD (prs n) = rss at hO HFil HRow HL
  clear hrss
  have HV0 := Lib.hid (subV_zero q vs rss)
  have HVl := Lib.hid (fun k => subV_len q vs rss k)
  have HO := Lib.hid hO
  have HCell := Lib.hid hcell
  clear hO hcell
  go_loopw [6, 19] (fun u v wr => ∃ k : Nat, k ≤ m ∧ v = .int .i64 k ∧ Hid (wr.ownsRow w1.heap.size 32 1 u (subV q vs rss k).length (subV q vs rss k)) ∧ Below w1.heap.size w1 wr) (fun _ v _ => m - (intOf v).toNat)
  case atStart => exact ⟨0, Nat.zero_le _, rfl, Lib.hid (by rw [HV0.out]; exact World.ownsRow_nil _ _ _ _), Below.refl _ _⟩
  case round =>
    obtain ⟨k, hk, rfl, Ho, hb⟩ := hrel
    have hsz := hb.size
    have hvl := HVl.out k
    by_cases hlt : k < m
    · have hrow := ((HO.out.kept (Nat.le_refl _) hb).row k (by rw [HL.out]; exact hlt))
      have hbd := HAt.out k hlt
      have hr := HRow.out k hlt
      generalize hds : at2 (prs n) k = p at hbd hr
      have HY := Lib.hid (fun h => subV_yes (q := q) (vs := vs) (rss := rss) (k := k) h)
      have HN := Lib.hid (fun h => subV_no (q := q) (vs := vs) (rss := rss) (k := k) h)
      have hc := below_cells2 hb (HCell.out k hlt)
      have hlc : (k : Int) < (m : Int) := by omega
      have hk0 : (0 : Int) ≤ (k : Int) := by omega
      generalize vs.getD k (.slice none 0 0) = y at hc hrow HY
      generalize rss.getD k [] = r at hrow hr HY HN
      have hone := oneU hrow
      subst hr
      obtain ⟨pa, pb⟩ := p
      have HQv : Hid (q [pa, pb] = isT false x (pa, pb)) := Lib.hid (by rw [← HQ.out]; rfl)
      clear hds
      rcases hrow.cases with ⟨rfl, h0⟩ | ⟨gk, ck, rfl, _, hgl, _, _, hIk, _⟩
      · simp at h0
      have h0 : wr.cell? ⟨gk, 0, none⟩ = some (.int .i64 pa) := hIk 0 (by simp)
      have h1 : wr.cell? ⟨gk, 1, none⟩ = some (.int .i64 pb) := hIk 1 (by simp)
      have HC := Lib.hid (taToldP_any gk ck pa pb wr hbd.1 hbd.2 h0 h1)
      clear hrow hIk hgl h0 h1 hbd
      have HK := Lib.hid (fun (w2 : World) (hb2 : Below wr.heap.size wr w2) => (show Below w1.heap.size w1 w2 ∧ w2.ownsRow w1.heap.size 32 1 u6 (subV q vs rss k).length (subV q vs rss k) ∧ w1.heap.size ≤ w2.heap.size from ⟨hb.trans (hb2.mono hsz), World.ownsRow.kept Ho.out (below_grown hb2 none) (by cases hv : u6.ownBlock <;> simp), Nat.le_trans hsz hb2.size⟩))
      clear Ho hb
      have HQw : Hid (q [pa, pb] = (toldP false (pa, pb) == x)) := HQv
      clear HQv
      generalize toldP false (pa, pb) = t at HC HQw
      cases hq : (t == x) with
      | true =>
        have HY2 := Lib.hid (HY.out (by rw [HQw.out]; exact hq))
        clear HY HN HQw
        go_wp2_with (first | (go_at_call 19; refine HC.out.mono ?_; rintro e w2 ⟨rfl, hb2⟩; obtain ⟨hbw, how, hsw⟩ := HK.out w2 hb2; clear hb2) | (at_builtin; refine wpList_append_own _ rfl _ _ 23 rfl w1.heap.size 32 j0 (.slice none 0 0) 1 24 Try.underlying23 hj jz0 jz1 jz2 rfl (by decide) _ _ _ rfl (World.ownsRow.alloc how _) ⟨w2.heap.size, 0, none⟩ 1 1 [.slice (some ⟨gk, 0, none⟩) 2 ck] rfl rfl (newCellAt _ _ _ _ rfl) hone ?c4 ?c5 ?c6 ?_))
        case c4 => unfold maxLen; omega
        case c5 => omega
        case c6 => simp; omega
        intro v' w3 hown' hgrow _
        have hb3 := sub_push (B := w1.heap.size) (v' := v') (x := v') hbw how hgrow
        have Ho3 : Hid (w3.ownsRow w1.heap.size 32 1 v' (subV q vs rss (k + 1)).length (subV q vs rss (k + 1))) := Lib.hid (by
          rw [HY2.out, List.length_append]
          exact hown')
        clear hown' hgrow how hbw
        go_wp2
        go_roundw
        case rel => exact ⟨k + 1, by omega, by go_num, Ho3, hb3⟩
        case measure => simp [intOf]; omega
      | false =>
        have HN2 := Lib.hid (HN.out (by rw [HQw.out]; exact hq))
        clear HY HN HQw
        go_wp2_with (first | (go_at_call 19; refine HC.out.mono ?_; rintro e w2 ⟨rfl, hb2⟩; obtain ⟨hbw, how, hsw⟩ := HK.out w2 hb2; clear hb2))
        have Ho3 : Hid (w2.ownsRow w1.heap.size 32 1 u6 (subV q vs rss (k + 1)).length (subV q vs rss (k + 1))) := Lib.hid (by rw [HN2.out]; exact how)
        clear how
        go_roundw
        case rel => exact ⟨k + 1, by omega, by go_num, Ho3, hbw⟩
        case measure => simp [intOf]; omega
    · have hkn : k = m := by omega
      have HS := Lib.hid (sub_own (q := q) (show k = rss.length by rw [HL.out]; exact hkn) HO.out (Nat.le_refl _) hz1 hb Ho.out)
      have hlc : ¬ (k : Int) < (m : Int) := by omega
      have hbz := hb1.trans (hb.mono hz1)
      clear hkn hk
      go_wp2
      go_ret2
      exact ⟨_, _, rfl, by rw [← HFil.out]; exact HS.out, hbz⟩
theorem specP_no (n : Int) (x : Int) (w : World) (h : inB n 2 40 = false ∨ x < 0) :
    Calls Try.prog 13 #[.int .i64 n, .int .i64 x] w (RetSSB [] false w) := by
  cases hL : inB n 2 40 with
  | false =>
    go_enter Try.func13, Try.ntmps13
    go_wp2_with (first | (go_at_call 17; refine (taLimit_any _ _).mono ?_; rintro e w' ⟨rfl, rfl⟩; rw [hL]))
    go_ret2
    exact ⟨_, [], rfl, ownSS_nil _ _ _, Below.refl _ _⟩
  | true =>
    have hx : x < 0 := by rcases h with h | h; rw [hL] at h; simp at h; exact h
    clear h
    go_enter Try.func13, Try.ntmps13
    go_wp2_with (first | (go_at_call 17; refine (taLimit_any _ _).mono ?_; rintro e w' ⟨rfl, rfl⟩; rw [hL]))
    go_ret2
    exact ⟨_, [], rfl, ownSS_nil _ _ _, Below.refl _ _⟩
end Go.Proofs.Ytlfbhpeehidjhaa
