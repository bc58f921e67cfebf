/- What the first clues leave: both texts. -/
import Derived.Test.YtkkjbkagkmngkaaPz16
set_option linter.unusedVariables false
set_option linter.unusedSimpArgs false
namespace Go.Proofs.Ytkkjbkagkmngkaa
open Go.RowKit

/-- How many hidden ages fit the first 0, 1, .., k - 1 clues. -/
def leftTo (n : Nat) (ds : List Kn) : Nat → List Int
  | 0 => []
  | k + 1 => leftTo n ds k ++ [((solL n (ds.take k)).length : Int)]
theorem leftTo_len (n : Nat) (ds : List Kn) : ∀ k, (leftTo n ds k).length = k
  | 0 => rfl
  | k + 1 => by rw [leftTo, List.length_append, leftTo_len n ds k]; rfl
def leftL (p : Int) (ds : List Kn) : List Int := if pzB p ds = true then leftTo p.toNat ds (ds.length + 1) else []
theorem icB_take {n : Nat} {ds : List Kn} (h : ∀ j, j < ds.length → icB n (at3 ds j) = true) (k : Nat) (hk : k ≤ ds.length) (j : Nat) (hj : j < k) : icB n (at3 (ds.take k) j) = true := by
  have e : at3 (ds.take k) j = at3 ds j := by simp [at3, List.getElem?_take, hj]
  rw [e]
  exact h j (by omega)

set_option maxHeartbeats 2000000 in
theorem imLeft_no (p : Int) (b n c : Nat) (ds : List Kn) (w : World) (hl : ds.length = n) (hn : n ≤ 1048576) (hbl : b < w.heap.size) (hI : Kns w b 0 ds) (h : pzB p ds = false) : Calls Try.prog 46 #[.agg #[.int .i64 p, .slice (some ⟨b, 0, none⟩) n c]] w (RetOwnB [] false w) := by
  have HW := Lib.hid ((Below.refl w.heap.size w).alloc (Nat.le_refl _) (.cells #[.int .i64 p, .slice (some ⟨b, 0, none⟩) n c] 29))
  have HG := Lib.hid (fun (W : World) (hb : Below w.heap.size w W) => isPuzzle_any p b 0 n c ds W hl (by omega) (Nat.lt_of_lt_of_le hbl hb.size) (hI.kept hb hbl))
  rw [h] at HG
  clear hI h
  go_enter Try.func46, Try.ntmps46
  go_wp2_with fail
  refine (HG.out _ HW.out).mono ?_
  rintro e w1 ⟨rfl, hb1⟩
  have hb1' := HW.out.trans (hb1.mono HW.out.size)
  go_wp2_with fail
  go_ret2
  exact ⟨_, rfl, own_nil _ _, hb1'⟩

set_option maxHeartbeats 8000000 in
set_option maxRecDepth 100000 in
theorem imLeft_yes (m b n c : Nat) (ds : List Kn) (w : World) (hl : ds.length = n) (hc : n ≤ c) (hbl : b < w.heap.size) (hI : Kns w b 0 ds) (h : pzB (m : Int) ds = true) : Calls Try.prog 46 #[.agg #[.int .i64 (m : Int), .slice (some ⟨b, 0, none⟩) n c]] w (RetOwnB (leftTo m ds (n + 1)) true w) := by
  obtain ⟨i0, hi, hz0, hz1, hz2⟩ := info_parts infoInt
  obtain ⟨m', hm', h23, h6, hcs⟩ := pz_of h
  have hmm : m' = m := by omega
  subst hmm
  have hn6 : n ≤ 6 := by omega
  have HW := Lib.hid ((Below.refl w.heap.size w).alloc (Nat.le_refl _) (.cells #[.int .i64 (m' : Int), .slice (some ⟨b, 0, none⟩) n c] 29))
  have HG := Lib.hid (fun (W : World) (hb : Below w.heap.size w W) => isPuzzle_any (m' : Int) b 0 n c ds W hl (by omega) (Nat.lt_of_lt_of_le hbl hb.size) (hI.kept hb hbl))
  rw [h] at HG
  have HCo := Lib.hid (fun (W : World) (k cc : Nat) (hk : k ≤ n) (hb : Below w.heap.size w W) => countSolutionsOf_any m' (some ⟨b, 0, none⟩) k cc (ds.take k) W h23 (by omega) (fun j hj => icB_take hcs k (by omega) j hj) (argK_take hl (Nat.lt_of_lt_of_le hbl hb.size) (hI.kept hb hbl) k hk))
  have HN := Lib.hid (fun k => (show leftTo m' ds (k + 1) = leftTo m' ds k ++ [((solL m' (ds.take k)).length : Int)] from rfl))
  have HNl := Lib.hid (fun k => leftTo_len m' ds k)
  have HLe := Lib.hid (fun k => (show (solL m' (ds.take k)).length ≤ 1728 from solL_len (by omega) _))
  clear hI h hcs hm' hl
  go_enter Try.func46, Try.ntmps46
  go_wp2_with fail
  refine (HG.out _ HW.out).mono ?_
  rintro e w1 ⟨rfl, hb1⟩
  have hb1' := HW.out.trans (hb1.mono HW.out.size)
  have q0 : w1.cell? ⟨w.heap.size, 0, none⟩ = some (.int .i64 (m' : Int)) := below_cell2 hb1 (by simp [go_sem])
  have q1 : w1.cell? ⟨w.heap.size, 1, none⟩ = some (.slice (some ⟨b, 0, none⟩) n c) := below_cell2 hb1 (by simp [go_sem])
  go_wp2_with fail
  go_loopw [4, 5] (fun u q wr => ∃ k : Nat, k ≤ n + 1 ∧ q = .int .i64 k ∧ Hid (Own (w.heap.size + 1) wr u (leftTo m' ds k)) ∧ Below w.heap.size w wr ∧ wr.cell? ⟨w.heap.size, 0, none⟩ = some (.int .i64 (m' : Int)) ∧ wr.cell? ⟨w.heap.size, 1, none⟩ = some (.slice (some ⟨b, 0, none⟩) n c)) (fun _ q _ => n + 1 - (intOf q).toNat)
  case atStart => exact ⟨0, Nat.zero_le _, rfl, Lib.hid (own_nil _ _), hb1', q0, q1⟩
  case round =>
    obtain ⟨k, hk, rfl, HO, hb, c0, c1⟩ := hrel
    have hsz := hb.size
    have hlt2 : w.heap.size < wr.heap.size := World.block_lt_of_cell? _ ⟨w.heap.size, 0, none⟩ c0
    by_cases hlt : k ≤ n
    · have HCk := Lib.hid (fun (W : World) (cc : Nat) (hbW : Below wr.heap.size wr W) => HCo.out W k cc hlt (hb.trans (hbW.mono hsz)))
      have HNk := Lib.hid (HN.out k)
      have hln := HNl.out k
      have hle := HLe.out k
      generalize solL m' (ds.take k) = rk at HCk HNk hle
      have HOo := HO.out
      generalize leftTo m' ds k = L at HNk hln HOo
      clear HO HN HNl HLe HCo
      have HB0 := Lib.hid hb
      have HOw := Lib.hid HOo
      clear HOo
      have v0 : (0 : Int) ≤ (k : Int) := by omega
      have v1 : (k : Int) ≤ (c : Int) := by omega
      have v2 : (k : Int) ≤ (n : Int) := by omega
      generalize rk.length = C at HCk HNk hle
      go_upto_region 7 with fail
      refine wp_region_any (by kernel_rfl) ?_
      change wpAny _ _ _ _ _ _ _ (World.drew _)

      refine wpAny_take (i := 0) (v := ?_) rfl (by kernel_rfl) (by kernel_rfl) (by kernel_rfl) (fun _ _ _ h => h) (Or.inl ⟨by rfl, ?_⟩) ?_
      rotate_left
      · intro w; go_simp; first | done | with_reducible rfl
      refine wpAny_take (i := 1) (v := ?_) rfl (by kernel_rfl) (by kernel_rfl) (by kernel_rfl) (fun _ _ _ h => h) (Or.inl ⟨by rfl, ?_⟩) ?_
      rotate_left
      · intro w; go_simp; first | done | with_reducible rfl
      refine wpAny_take (i := 3) (v := ?_) rfl (by kernel_rfl) (by kernel_rfl) (by kernel_rfl) (fun _ _ _ h => h) (Or.inl ⟨by rfl, ?_⟩) ?_
      rotate_left
      · intro w; go_simp; first | done | with_reducible rfl
      refine wpAny_take (i := 5) (v := ?_) rfl (by kernel_rfl) (by kernel_rfl) (by kernel_rfl) (fun _ _ _ h => h) (Or.inl ⟨by rfl, ?_⟩) ?_
      rotate_left
      · intro w; go_simp; first | done | with_reducible rfl
      refine wpAny_take (i := 6) (v := ?_) rfl (by kernel_rfl) (by kernel_rfl) (by kernel_rfl) (fun _ _ _ h => h) (Or.inl ⟨by rfl, ?_⟩) ?_
      rotate_left
      · intro w; go_simp; first | done | with_reducible rfl
      refine wpAny_ready (rs := [2, 4]) (by kernel_rfl) (by simp) ?_
      refine AllReady.cons rfl (fun K hK => ?_) (AllReady.cons rfl (fun K hK => ?_) AllReady.nil)
      · go_simp
        refine hK _ _ ?_
        clear hK K
        refine wpAny_ready (rs := [4]) (by kernel_rfl) (by simp) ?_
        refine AllReady.cons rfl (fun K hK => ?_) AllReady.nil
        go_simp
        refine hK _ _ ?_
        clear hK K
        refine wpAny_take (i := 7) (v := ?_) rfl (by kernel_rfl) (by kernel_rfl) (by kernel_rfl) (fun _ _ _ h => h) (Or.inl ⟨by rfl, ?_⟩) ?_
        rotate_left
        · intro w; go_simp; first | done | with_reducible rfl
        refine wpAny_ready (rs := [8]) (by kernel_rfl) (by simp) ?_
        refine AllReady.cons rfl (fun K hK => ?_) AllReady.nil
        go_simp
        go_wp2_with (go_at_call 64; refine (HCk.out _ _ ?_).mono ?_; exact (Below.refl _ _).drew; rintro e w2 ⟨rfl, hcall⟩)
        have hbw : Below wr.heap.size wr w2 := (Below.refl _ _).drew.trans hcall
        clear hcall
        have hb2 := HB0.out.trans (hbw.mono hsz)
        have d0 := below_cell2 hbw c0
        have d1 := below_cell2 hbw c1
        have HO2 := Lib.hid (HOw.out.kept hbw)
        have hsz2 := hbw.size
        refine wpAny_ready (rs := [9]) (by kernel_rfl) (by simp) ?_
        refine AllReady.cons rfl (fun K hK => ?_) AllReady.nil
        go_simp
        refine hK _ _ ?_
        clear hK K
        refine wpAny_ready (rs := [10]) (by kernel_rfl) (by simp) ?_
        refine AllReady.cons rfl (fun K hK => ?_) AllReady.nil
        refine step_append_mine (by rfl) _ _ 41 (by rfl) (w.heap.size + 1) 3 i0 (.int .i64 0) 1 8 Try.underlying41 hi hz0 hz1 hz2 rfl (by decide) u4 _ _ (by rfl) (World.ownsRow.alloc HO2.out _) ⟨w2.heap.size, 0, none⟩ 1 1 [.int .i64 (C : Int)] (by rfl) rfl (newCell _ _ _) (oneInt _) (by unfold maxLen; omega) (by omega) (by simp; omega) ?_
        intro v' w3 hown' hgrow
        have hkb := Lib.hid (((Below.refl (w.heap.size + 1) _).alloc (by omega) (.cells #[.int .i64 (C : Int)] 3)).grown hgrow (by simp; omega) (fun q hq => (World.ownsRow.lt HO2.out q hq).1))
        have hb3 := hb2.trans (hkb.out.mono (by omega))
        have g0 := (hkb.out.cell (p := ⟨w.heap.size, 0, none⟩) (by show w.heap.size < w.heap.size + 1; omega)).trans d0
        have g1 := (hkb.out.cell (p := ⟨w.heap.size, 1, none⟩) (by show w.heap.size < w.heap.size + 1; omega)).trans d1
        have ho3 := own_push hown'
        rw [← HNk.out] at ho3
        clear hown' hgrow hkb
        refine hK _ _ ?_
        clear hK K
        refine wpAny_ready (rs := [11]) (by kernel_rfl) (by simp) ?_
        refine AllReady.cons rfl (fun K hK => ?_) AllReady.nil
        go_simp
        refine hK _ _ ?_
        clear hK K
        refine wpAny_done (by kernel_rfl) ?_ _
        go_wp2_with fail
        go_roundw
        case rel => exact ⟨k + 1, by omega, by go_num, Lib.hid ho3, hb3, g0, g1⟩
        case measure => simp [intOf]; omega
      · go_simp
        refine hK _ _ ?_
        clear hK K
        refine wpAny_take (i := 7) (v := ?_) rfl (by kernel_rfl) (by kernel_rfl) (by kernel_rfl) (fun _ _ _ h => h) (Or.inl ⟨by rfl, ?_⟩) ?_
        rotate_left
        · intro w; go_simp; first | done | with_reducible rfl
        refine wpAny_ready (rs := [2]) (by kernel_rfl) (by simp) ?_
        refine AllReady.cons rfl (fun K hK => ?_) AllReady.nil
        go_simp
        refine hK _ _ ?_
        clear hK K
        refine wpAny_ready (rs := [8]) (by kernel_rfl) (by simp) ?_
        refine AllReady.cons rfl (fun K hK => ?_) AllReady.nil
        go_simp
        go_wp2_with (go_at_call 64; refine (HCk.out _ _ ?_).mono ?_; exact (Below.refl _ _).drew; rintro e w2 ⟨rfl, hcall⟩)
        have hbw : Below wr.heap.size wr w2 := (Below.refl _ _).drew.trans hcall
        clear hcall
        have hb2 := HB0.out.trans (hbw.mono hsz)
        have d0 := below_cell2 hbw c0
        have d1 := below_cell2 hbw c1
        have HO2 := Lib.hid (HOw.out.kept hbw)
        have hsz2 := hbw.size
        refine wpAny_ready (rs := [9]) (by kernel_rfl) (by simp) ?_
        refine AllReady.cons rfl (fun K hK => ?_) AllReady.nil
        go_simp
        refine hK _ _ ?_
        clear hK K
        refine wpAny_ready (rs := [10]) (by kernel_rfl) (by simp) ?_
        refine AllReady.cons rfl (fun K hK => ?_) AllReady.nil
        refine step_append_mine (by rfl) _ _ 41 (by rfl) (w.heap.size + 1) 3 i0 (.int .i64 0) 1 8 Try.underlying41 hi hz0 hz1 hz2 rfl (by decide) u4 _ _ (by rfl) (World.ownsRow.alloc HO2.out _) ⟨w2.heap.size, 0, none⟩ 1 1 [.int .i64 (C : Int)] (by rfl) rfl (newCell _ _ _) (oneInt _) (by unfold maxLen; omega) (by omega) (by simp; omega) ?_
        intro v' w3 hown' hgrow
        have hkb := Lib.hid (((Below.refl (w.heap.size + 1) _).alloc (by omega) (.cells #[.int .i64 (C : Int)] 3)).grown hgrow (by simp; omega) (fun q hq => (World.ownsRow.lt HO2.out q hq).1))
        have hb3 := hb2.trans (hkb.out.mono (by omega))
        have g0 := (hkb.out.cell (p := ⟨w.heap.size, 0, none⟩) (by show w.heap.size < w.heap.size + 1; omega)).trans d0
        have g1 := (hkb.out.cell (p := ⟨w.heap.size, 1, none⟩) (by show w.heap.size < w.heap.size + 1; omega)).trans d1
        have ho3 := own_push hown'
        rw [← HNk.out] at ho3
        clear hown' hgrow hkb
        refine hK _ _ ?_
        clear hK K
        refine wpAny_ready (rs := [11]) (by kernel_rfl) (by simp) ?_
        refine AllReady.cons rfl (fun K hK => ?_) AllReady.nil
        go_simp
        refine hK _ _ ?_
        clear hK K
        refine wpAny_done (by kernel_rfl) ?_ _
        go_wp2_with fail
        go_roundw
        case rel => exact ⟨k + 1, by omega, by go_num, Lib.hid ho3, hb3, g0, g1⟩
        case measure => simp [intOf]; omega
    · have hkn : k = n + 1 := by omega
      subst hkn
      have v3 : ¬ ((n : Int) + 1 ≤ (n : Int)) := by omega
      have v4 : (((n + 1 : Nat) : Int)) = (n : Int) + 1 := by omega
      go_wp2_with fail
      go_ret2
      exact ⟨_, rfl, HO.out.mono (by omega), hb⟩

theorem imLeft_any (p : Int) (b c : Nat) (ds : List Kn) (w : World) (hn : ds.length ≤ 1048576) (hc : ds.length ≤ c) (hbl : b < w.heap.size) (hI : Kns w b 0 ds) :
    Calls Try.prog 46 #[.agg #[.int .i64 p, .slice (some ⟨b, 0, none⟩) ds.length c]] w (RetOwnB (leftL p ds) (pzB p ds) w) := by
  cases h : pzB p ds with
  | false =>
    rw [show leftL p ds = [] by unfold leftL; rw [if_neg (by rw [h]; simp)]]
    exact imLeft_no p b _ c ds w rfl hn hbl hI h
  | true =>
    rw [show leftL p ds = leftTo p.toNat ds (ds.length + 1) by unfold leftL; rw [if_pos h]]
    obtain ⟨m, rfl, _⟩ := pz_of h
    exact imLeft_yes m b _ c ds w rfl hc hbl hI h

set_option maxHeartbeats 2000000 in
theorem spLeft_no (p : Int) (b n c : Nat) (ds : List Kn) (w : World) (hl : ds.length = n) (hn : n ≤ 1048576) (hbl : b < w.heap.size) (hI : Kns w b 0 ds) (h : pzB p ds = false) : Calls Try.prog 45 #[.agg #[.int .i64 p, .slice (some ⟨b, 0, none⟩) n c]] w (RetOwnB [] false w) := by
  have HW := Lib.hid ((Below.refl w.heap.size w).alloc (Nat.le_refl _) (.cells #[.int .i64 p, .slice (some ⟨b, 0, none⟩) n c] 29))
  have HG := Lib.hid (fun (W : World) (hb : Below w.heap.size w W) => pzGood_any p b 0 n c ds W hl (by omega) (Nat.lt_of_lt_of_le hbl hb.size) (hI.kept hb hbl))
  rw [h] at HG
  clear hI h
  go_enter Try.func45, Try.ntmps45
  go_wp2_with fail
  refine (HG.out _ HW.out).mono ?_
  rintro e w1 ⟨rfl, hb1⟩
  have hb1' := HW.out.trans (hb1.mono HW.out.size)
  go_wp2_with fail
  go_ret2
  exact ⟨_, rfl, own_nil _ _, hb1'⟩

set_option maxHeartbeats 8000000 in
set_option maxRecDepth 100000 in
theorem spLeft_yes (m b n c : Nat) (ds : List Kn) (w : World) (hl : ds.length = n) (hc : n ≤ c) (hbl : b < w.heap.size) (hI : Kns w b 0 ds) (h : pzB (m : Int) ds = true) : Calls Try.prog 45 #[.agg #[.int .i64 (m : Int), .slice (some ⟨b, 0, none⟩) n c]] w (RetOwnB (leftTo m ds (n + 1)) true w) := by
  obtain ⟨i0, hi, hz0, hz1, hz2⟩ := info_parts infoInt
  obtain ⟨m', hm', h23, h6, hcs⟩ := pz_of h
  have hmm : m' = m := by omega
  subst hmm
  have hn6 : n ≤ 6 := by omega
  have HW := Lib.hid ((Below.refl w.heap.size w).alloc (Nat.le_refl _) (.cells #[.int .i64 (m' : Int), .slice (some ⟨b, 0, none⟩) n c] 29))
  have HG := Lib.hid (fun (W : World) (hb : Below w.heap.size w W) => pzGood_any (m' : Int) b 0 n c ds W hl (by omega) (Nat.lt_of_lt_of_le hbl hb.size) (hI.kept hb hbl))
  rw [h] at HG
  have HCo := Lib.hid (fun (W : World) (k cc : Nat) (hk : k ≤ n) (hb : Below w.heap.size w W) => pzAll_any m' (some ⟨b, 0, none⟩) k cc (ds.take k) W h23 (by omega) (fun j hj => icB_take hcs k (by omega) j hj) (argK_take hl (Nat.lt_of_lt_of_le hbl hb.size) (hI.kept hb hbl) k hk))
  have HN := Lib.hid (fun k => (show leftTo m' ds (k + 1) = leftTo m' ds k ++ [((solL m' (ds.take k)).length : Int)] from rfl))
  have HNl := Lib.hid (fun k => leftTo_len m' ds k)
  have HLe := Lib.hid (fun k => (show (solL m' (ds.take k)).length ≤ 1728 from solL_len (by omega) _))
  clear hI h hcs hm' hl
  go_enter Try.func45, Try.ntmps45
  go_wp2_with fail
  refine (HG.out _ HW.out).mono ?_
  rintro e w1 ⟨rfl, hb1⟩
  have hb1' := HW.out.trans (hb1.mono HW.out.size)
  have q0 : w1.cell? ⟨w.heap.size, 0, none⟩ = some (.int .i64 (m' : Int)) := below_cell2 hb1 (by simp [go_sem])
  have q1 : w1.cell? ⟨w.heap.size, 1, none⟩ = some (.slice (some ⟨b, 0, none⟩) n c) := below_cell2 hb1 (by simp [go_sem])
  go_wp2_with fail
  go_loopw [4, 5] (fun u q wr => ∃ k : Nat, k ≤ n + 1 ∧ q = .int .i64 k ∧ Hid (Own (w.heap.size + 1) wr u (leftTo m' ds k)) ∧ Below w.heap.size w wr ∧ wr.cell? ⟨w.heap.size, 0, none⟩ = some (.int .i64 (m' : Int)) ∧ wr.cell? ⟨w.heap.size, 1, none⟩ = some (.slice (some ⟨b, 0, none⟩) n c)) (fun _ q _ => n + 1 - (intOf q).toNat)
  case atStart => exact ⟨0, Nat.zero_le _, rfl, Lib.hid (own_nil _ _), hb1', q0, q1⟩
  case round =>
    obtain ⟨k, hk, rfl, HO, hb, c0, c1⟩ := hrel
    have hsz := hb.size
    have hlt2 : w.heap.size < wr.heap.size := World.block_lt_of_cell? _ ⟨w.heap.size, 0, none⟩ c0
    by_cases hlt : k ≤ n
    · have HCk := Lib.hid (fun (W : World) (cc : Nat) (hbW : Below wr.heap.size wr W) => HCo.out W k cc hlt (hb.trans (hbW.mono hsz)))
      have HNk := Lib.hid (HN.out k)
      have hln := HNl.out k
      have hle := HLe.out k
      generalize solL m' (ds.take k) = rk at HCk HNk hle
      have HOo := HO.out
      generalize leftTo m' ds k = L at HNk hln HOo
      clear HO HN HNl HLe HCo
      have HB0 := Lib.hid hb
      have HOw := Lib.hid HOo
      clear HOo
      have v0 : (0 : Int) ≤ (k : Int) := by omega
      have v1 : (k : Int) ≤ (c : Int) := by omega
      have v2 : (k : Int) ≤ (n : Int) := by omega
      go_upto_region 7 with fail
      refine wp_region_any (by kernel_rfl) ?_
      change wpAny _ _ _ _ _ _ _ (World.drew _)

      refine wpAny_take (i := 0) (v := ?_) rfl (by kernel_rfl) (by kernel_rfl) (by kernel_rfl) (fun _ _ _ h => h) (Or.inl ⟨by rfl, ?_⟩) ?_
      rotate_left
      · intro w; go_simp; first | done | with_reducible rfl
      refine wpAny_take (i := 1) (v := ?_) rfl (by kernel_rfl) (by kernel_rfl) (by kernel_rfl) (fun _ _ _ h => h) (Or.inl ⟨by rfl, ?_⟩) ?_
      rotate_left
      · intro w; go_simp; first | done | with_reducible rfl
      refine wpAny_take (i := 3) (v := ?_) rfl (by kernel_rfl) (by kernel_rfl) (by kernel_rfl) (fun _ _ _ h => h) (Or.inl ⟨by rfl, ?_⟩) ?_
      rotate_left
      · intro w; go_simp; first | done | with_reducible rfl
      refine wpAny_take (i := 5) (v := ?_) rfl (by kernel_rfl) (by kernel_rfl) (by kernel_rfl) (fun _ _ _ h => h) (Or.inl ⟨by rfl, ?_⟩) ?_
      rotate_left
      · intro w; go_simp; first | done | with_reducible rfl
      refine wpAny_ready (rs := [2, 4]) (by kernel_rfl) (by simp) ?_
      refine AllReady.cons rfl (fun K hK => ?_) (AllReady.cons rfl (fun K hK => ?_) AllReady.nil)
      · go_simp
        refine hK _ _ ?_
        clear hK K
        refine wpAny_ready (rs := [4]) (by kernel_rfl) (by simp) ?_
        refine AllReady.cons rfl (fun K hK => ?_) AllReady.nil
        go_simp
        refine hK _ _ ?_
        clear hK K
        refine wpAny_take (i := 6) (v := ?_) rfl (by kernel_rfl) (by kernel_rfl) (by kernel_rfl) (fun _ _ _ h => h) (Or.inl ⟨by rfl, ?_⟩) ?_
        rotate_left
        · intro w; go_simp; first | done | with_reducible rfl
        refine wpAny_ready (rs := [7]) (by kernel_rfl) (by simp) ?_
        refine AllReady.cons rfl (fun K hK => ?_) AllReady.nil
        go_simp
        go_wp2_with (go_at_call 57; refine (HCk.out _ _ ?_).mono ?_; exact (Below.refl _ _).drew; rintro e w2 ⟨rv, rvs, rfl, hOO, hcall⟩; obtain ⟨ra2, rc2, rfl⟩ := ownSS_lit hOO; clear hOO)
        have hbw : Below wr.heap.size wr w2 := (Below.refl _ _).drew.trans hcall
        clear hcall
        have hb2 := HB0.out.trans (hbw.mono hsz)
        have d0 := below_cell2 hbw c0
        have d1 := below_cell2 hbw c1
        have HO2 := Lib.hid (HOw.out.kept hbw)
        have hsz2 := hbw.size
        refine wpAny_ready (rs := [8]) (by kernel_rfl) (by simp) ?_
        refine AllReady.cons rfl (fun K hK => ?_) AllReady.nil
        go_simp
        refine hK _ _ ?_
        clear hK K
        refine wpAny_ready (rs := [9]) (by kernel_rfl) (by simp) ?_
        refine AllReady.cons rfl (fun K hK => ?_) AllReady.nil
        go_simp
        refine hK _ _ ?_
        clear hK K
        refine wpAny_ready (rs := [10]) (by kernel_rfl) (by simp) ?_
        refine AllReady.cons rfl (fun K hK => ?_) AllReady.nil
        refine step_append_mine (by rfl) _ _ 41 (by rfl) (w.heap.size + 1) 3 i0 (.int .i64 0) 1 8 Try.underlying41 hi hz0 hz1 hz2 rfl (by decide) u4 _ _ (by rfl) (World.ownsRow.alloc HO2.out _) ⟨w2.heap.size, 0, none⟩ 1 1 [.int .i64 (rk.length : Int)] (by rfl) rfl (newCell _ _ _) (oneInt _) (by unfold maxLen; omega) (by omega) (by simp; omega) ?_
        intro v' w3 hown' hgrow
        have hkb := Lib.hid (((Below.refl (w.heap.size + 1) _).alloc (by omega) (.cells #[.int .i64 (rk.length : Int)] 3)).grown hgrow (by simp; omega) (fun q hq => (World.ownsRow.lt HO2.out q hq).1))
        have hb3 := hb2.trans (hkb.out.mono (by omega))
        have g0 := (hkb.out.cell (p := ⟨w.heap.size, 0, none⟩) (by show w.heap.size < w.heap.size + 1; omega)).trans d0
        have g1 := (hkb.out.cell (p := ⟨w.heap.size, 1, none⟩) (by show w.heap.size < w.heap.size + 1; omega)).trans d1
        have ho3 := own_push hown'
        rw [← HNk.out] at ho3
        clear hown' hgrow hkb
        refine hK _ _ ?_
        clear hK K
        refine wpAny_ready (rs := [11]) (by kernel_rfl) (by simp) ?_
        refine AllReady.cons rfl (fun K hK => ?_) AllReady.nil
        go_simp
        refine hK _ _ ?_
        clear hK K
        refine wpAny_done (by kernel_rfl) ?_ _
        go_wp2_with fail
        go_roundw
        case rel => exact ⟨k + 1, by omega, by go_num, Lib.hid ho3, hb3, g0, g1⟩
        case measure => simp [intOf]; omega
      · go_simp
        refine hK _ _ ?_
        clear hK K
        refine wpAny_take (i := 6) (v := ?_) rfl (by kernel_rfl) (by kernel_rfl) (by kernel_rfl) (fun _ _ _ h => h) (Or.inl ⟨by rfl, ?_⟩) ?_
        rotate_left
        · intro w; go_simp; first | done | with_reducible rfl
        refine wpAny_ready (rs := [2]) (by kernel_rfl) (by simp) ?_
        refine AllReady.cons rfl (fun K hK => ?_) AllReady.nil
        go_simp
        refine hK _ _ ?_
        clear hK K
        refine wpAny_ready (rs := [7]) (by kernel_rfl) (by simp) ?_
        refine AllReady.cons rfl (fun K hK => ?_) AllReady.nil
        go_simp
        go_wp2_with (go_at_call 57; refine (HCk.out _ _ ?_).mono ?_; exact (Below.refl _ _).drew; rintro e w2 ⟨rv, rvs, rfl, hOO, hcall⟩; obtain ⟨ra2, rc2, rfl⟩ := ownSS_lit hOO; clear hOO)
        have hbw : Below wr.heap.size wr w2 := (Below.refl _ _).drew.trans hcall
        clear hcall
        have hb2 := HB0.out.trans (hbw.mono hsz)
        have d0 := below_cell2 hbw c0
        have d1 := below_cell2 hbw c1
        have HO2 := Lib.hid (HOw.out.kept hbw)
        have hsz2 := hbw.size
        refine wpAny_ready (rs := [8]) (by kernel_rfl) (by simp) ?_
        refine AllReady.cons rfl (fun K hK => ?_) AllReady.nil
        go_simp
        refine hK _ _ ?_
        clear hK K
        refine wpAny_ready (rs := [9]) (by kernel_rfl) (by simp) ?_
        refine AllReady.cons rfl (fun K hK => ?_) AllReady.nil
        go_simp
        refine hK _ _ ?_
        clear hK K
        refine wpAny_ready (rs := [10]) (by kernel_rfl) (by simp) ?_
        refine AllReady.cons rfl (fun K hK => ?_) AllReady.nil
        refine step_append_mine (by rfl) _ _ 41 (by rfl) (w.heap.size + 1) 3 i0 (.int .i64 0) 1 8 Try.underlying41 hi hz0 hz1 hz2 rfl (by decide) u4 _ _ (by rfl) (World.ownsRow.alloc HO2.out _) ⟨w2.heap.size, 0, none⟩ 1 1 [.int .i64 (rk.length : Int)] (by rfl) rfl (newCell _ _ _) (oneInt _) (by unfold maxLen; omega) (by omega) (by simp; omega) ?_
        intro v' w3 hown' hgrow
        have hkb := Lib.hid (((Below.refl (w.heap.size + 1) _).alloc (by omega) (.cells #[.int .i64 (rk.length : Int)] 3)).grown hgrow (by simp; omega) (fun q hq => (World.ownsRow.lt HO2.out q hq).1))
        have hb3 := hb2.trans (hkb.out.mono (by omega))
        have g0 := (hkb.out.cell (p := ⟨w.heap.size, 0, none⟩) (by show w.heap.size < w.heap.size + 1; omega)).trans d0
        have g1 := (hkb.out.cell (p := ⟨w.heap.size, 1, none⟩) (by show w.heap.size < w.heap.size + 1; omega)).trans d1
        have ho3 := own_push hown'
        rw [← HNk.out] at ho3
        clear hown' hgrow hkb
        refine hK _ _ ?_
        clear hK K
        refine wpAny_ready (rs := [11]) (by kernel_rfl) (by simp) ?_
        refine AllReady.cons rfl (fun K hK => ?_) AllReady.nil
        go_simp
        refine hK _ _ ?_
        clear hK K
        refine wpAny_done (by kernel_rfl) ?_ _
        go_wp2_with fail
        go_roundw
        case rel => exact ⟨k + 1, by omega, by go_num, Lib.hid ho3, hb3, g0, g1⟩
        case measure => simp [intOf]; omega
    · have hkn : k = n + 1 := by omega
      subst hkn
      have v3 : ¬ ((n : Int) + 1 ≤ (n : Int)) := by omega
      have v4 : (((n + 1 : Nat) : Int)) = (n : Int) + 1 := by omega
      go_wp2_with fail
      go_ret2
      exact ⟨_, rfl, HO.out.mono (by omega), hb⟩

theorem spLeft_any (p : Int) (b c : Nat) (ds : List Kn) (w : World) (hn : ds.length ≤ 1048576) (hc : ds.length ≤ c) (hbl : b < w.heap.size) (hI : Kns w b 0 ds) :
    Calls Try.prog 45 #[.agg #[.int .i64 p, .slice (some ⟨b, 0, none⟩) ds.length c]] w (RetOwnB (leftL p ds) (pzB p ds) w) := by
  cases h : pzB p ds with
  | false =>
    rw [show leftL p ds = [] by unfold leftL; rw [if_neg (by rw [h]; simp)]]
    exact spLeft_no p b _ c ds w rfl hn hbl hI h
  | true =>
    rw [show leftL p ds = leftTo p.toNat ds (ds.length + 1) by unfold leftL; rw [if_pos h]]
    obtain ⟨m, rfl, _⟩ := pz_of h
    exact spLeft_yes m b _ c ds w rfl hc hbl hI h

theorem leftL_le (p : Int) (ds : List Kn) : (leftL p ds).length ≤ 1048576 := by
  unfold leftL
  split
  · rename_i h
    obtain ⟨_, _, _, h6, _⟩ := pz_of h
    rw [leftTo_len]
    omega
  · simp
theorem leftByClues_both (p : Int) (ds : List Kn) : ∃ rs ok, rs.length ≤ 1048576 ∧
    (∀ b c w, ds.length ≤ 1048576 → ds.length ≤ c → b < w.heap.size → Kns w b 0 ds → Calls Try.prog 45 #[.agg #[.int .i64 p, .slice (some ⟨b, 0, none⟩) ds.length c]] w (RetOwnB rs ok w)) ∧
    (∀ b c w, ds.length ≤ 1048576 → ds.length ≤ c → b < w.heap.size → Kns w b 0 ds → Calls Try.prog 46 #[.agg #[.int .i64 p, .slice (some ⟨b, 0, none⟩) ds.length c]] w (RetOwnB rs ok w)) :=
  ⟨_, _, leftL_le p ds, fun b c w hn hc hb hI => spLeft_any p b c ds w hn hc hb hI, fun b c w hn hc hb hI => imLeft_any p b c ds w hn hc hb hI⟩
end Go.Proofs.Ytkkjbkagkmngkaa
