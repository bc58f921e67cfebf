/- AlikePairs: both texts. -/
import Derived.Test.YtonnknhmmljmaabRowsPush
import Derived.Test.YtonnknhmmljmaabGood
set_option linter.unusedVariables false
set_option linter.unusedSimpArgs false
namespace Go.Proofs.Ytonnknhmmljmaab
open Go.RowKit

/-- Of one person the pairs with the later ones before q. -/
def prIn (zs : List Int) (a q : Nat) : List (List Int) := ((List.range q).filter fun j => decide (a < j) && (zs.getD a 0 == zs.getD j 0)).map fun (j : Nat) => [(a : Int), (j : Int)]
/-- The pairs of the first persons. -/
def prOut (zs : List Int) : Nat → List (List Int)
  | 0 => []
  | a + 1 => prOut zs a ++ prIn zs a zs.length
theorem prOut_succ (zs : List Int) (a : Nat) : prOut zs (a + 1) = prOut zs a ++ prIn zs a zs.length := rfl
theorem prIn_zero (zs : List Int) (a : Nat) : prIn zs a (a + 1) = [] := by
  unfold prIn
  rw [List.map_eq_nil_iff, List.filter_eq_nil_iff]
  intro j hj
  have := List.mem_range.1 hj
  simp; omega
theorem prIn_yes (zs : List Int) (a q : Nat) (h : a < q) (he : (zs.getD a 0 == zs.getD q 0) = true) : prIn zs a (q + 1) = prIn zs a q ++ [[(a : Int), (q : Int)]] := by
  unfold prIn; rw [List.range_succ, List.filter_append, List.map_append]; simp only [List.filter_cons, List.filter_nil, he, decide_eq_true h]; rfl
theorem prIn_no (zs : List Int) (a q : Nat) (he : (zs.getD a 0 == zs.getD q 0) = false) : prIn zs a (q + 1) = prIn zs a q := by
  unfold prIn; rw [List.range_succ, List.filter_append, List.map_append]; simp only [List.filter_cons, List.filter_nil, he, Bool.and_false]; simp
theorem prIn_len (zs : List Int) (a q : Nat) : (prIn zs a q).length ≤ q := by
  unfold prIn; rw [List.length_map]; exact Nat.le_trans (List.length_filter_le _ _) (by simp)
theorem prOut_len (zs : List Int) : ∀ a, (prOut zs a).length ≤ a * zs.length := by
  intro a
  induction a with
  | zero => simp [prOut]
  | succ a ih => rw [prOut_succ, List.length_append, Nat.succ_mul]; have := prIn_len zs a zs.length; omega
theorem prAcc_len (zs : List Int) (a q : Nat) (h8 : zs.length ≤ 8) (hq : q ≤ zs.length) (ha : a < zs.length := by omega) : (prOut zs a ++ prIn zs a q).length ≤ 100 := by
  rw [List.length_append]
  have h1 := prOut_len zs a
  have h2 := prIn_len zs a q
  have h3 : a * zs.length ≤ 8 * 8 := Nat.mul_le_mul (by omega) h8
  omega
theorem prIn_row (zs : List Int) (a q : Nat) : ∀ r ∈ prIn zs a q, r.length = 2 := by
  intro r hr
  unfold prIn at hr
  obtain ⟨j, _, rfl⟩ := List.mem_map.1 hr
  rfl
theorem prOut_row (zs : List Int) : ∀ a, ∀ r ∈ prOut zs a, r.length = 2 := by
  intro a
  induction a with
  | zero => intro r hr; simp [prOut] at hr
  | succ a ih =>
    intro r hr
    rw [prOut_succ, List.mem_append] at hr
    rcases hr with h | h
    · exact ih r h
    · exact prIn_row zs a _ r h
theorem small_of {rss : List (List Int)} (h1 : rss.length ≤ 1000) (h2 : ∀ r ∈ rss, r.length = 2) : Small rss := by
  refine ⟨h1, fun i hi => ?_⟩
  have hm : rss.getD i [] ∈ rss := by
    have e : rss.getD i [] = rss[i] := by simp [List.getElem?_eq_getElem hi]
    rw [e]; exact List.getElem_mem hi
  have := h2 _ hm
  omega

theorem specAlikePairs_no (b off c : Nat) (zs : List Int) (w : World) (hn : zs.length ≤ 1048576) (hI : Ints w b off zs) (hg : goodB zs 120 = false) :
    Calls Try.prog 21 #[.slice (some ⟨b, off, none⟩) zs.length c] w (RetSSB [] false w) := by
  go_enter Try.func21, Try.ntmps21
  go_wp2_with (first | (go_at_call 34; refine (agGood_any _ _ _ _ zs _ rfl hn hI).mono ?_; rintro e w' ⟨rfl, rfl⟩))
  go_ret2
  exact ⟨_, [], rfl, ownSS_nil _ _ _, Below.refl _ _⟩

set_option maxHeartbeats 1600000 in
theorem specAlikePairs_yes (b off c : Nat) (zs : List Int) (w : World) (hn : zs.length ≤ 1048576) (hI : Ints w b off zs) (hg : goodB zs 120 = true) :
    Calls Try.prog 21 #[.slice (some ⟨b, off, none⟩) zs.length c] w (RetSSB (prOut zs zs.length) true w) := by
  obtain ⟨i0, hi, hz0, hz1, hz2⟩ := info_parts infoSlice
  have h8 := goodB_len hg
  have hbl := ints_lt hI (by omega)
  go_enter Try.func21, Try.ntmps21
  go_wp2_with (first | (go_at_call 34; refine (agGood_any _ _ _ _ zs _ rfl hn hI).mono ?_; rintro e w' ⟨rfl, rfl⟩))
  clear hg
  go_loopw [4, 12] (fun v i wr => ∃ (a : Nat) (vs : List Value), a ≤ zs.length ∧ i = .int .i64 a ∧ OwnSS w.heap.size wr.heap.size wr v vs (prOut zs a) ∧ Below w.heap.size w wr) (fun _ i _ => zs.length - (intOf i).toNat)
  case atStart => exact ⟨0, [], Nat.zero_le _, rfl, ownSS_nil _ _ _, Below.refl _ _⟩
  case round =>
    obtain ⟨a, vs, ha, rfl, ho, hb⟩ := hrel
    by_cases hlt : a < zs.length
    · have hT := Lib.hid (prOut_succ zs a)
      have hIn0 := prIn_zero zs a
      have ho0 : OwnSS w.heap.size wr.heap.size wr u4 vs (prOut zs a ++ prIn zs a (a + 1)) := by rw [hIn0, List.append_nil]; exact ho
      clear hIn0 ho
      go_wp2
      obtain ⟨wo, rfl⟩ : ∃ wo : World, wo = wr := ⟨_, rfl⟩
      go_loopw [4, 6] (fun v i wr => ∃ (q : Nat) (vs : List Value), a + 1 ≤ q ∧ q ≤ zs.length ∧ i = .int .i64 q ∧ OwnSS w.heap.size wr.heap.size wr v vs (prOut zs a ++ prIn zs a q) ∧ Below w.heap.size w wr) (fun _ i _ => zs.length - (intOf i).toNat)
      case atStart => exact ⟨a + 1, vs, Nat.le_refl _, by omega, by go_num, ho0, hb⟩
      case round =>
        obtain ⟨q, vs2, hq1, hq2, rfl, ho, hb⟩ := hrel
        have hsz := hb.size
        have hlen := prAcc_len zs a q (by omega) hq2
        have hvl := ho.len
        rw [← hvl] at hlen
        clear hvl
        by_cases hqlt : q < zs.length
        · have hc1 := (hI.kept hb hbl) a hlt
          have hc2 := (hI.kept hb hbl) q hqlt
          have a0 : (0 : Int) ≤ (a : Int) := by omega
          have a1 : (a : Int) < (zs.length : Int) := by omega
          have q0 : (0 : Int) ≤ (q : Int) := by omega
          have q1 : (q : Int) < (zs.length : Int) := by omega
          have HO := Lib.hid ho
          clear ho
          cases he : (zs.getD a 0 == zs.getD q 0) with
          | true =>
            have hS := Lib.hid (prIn_yes zs a q (by omega) he)
            generalize zs.getD a 0 = x at hc1 he
            generalize zs.getD q 0 = y at hc2 he
            go_wp2
            go_quiet (fail)
            go_wp2_with (first | (at_builtin; refine wpList_append_own _ rfl _ _ 32 rfl w.heap.size 22 i0 _ 1 24 Try.underlying32 hi hz0 hz1 hz2 rfl (by decide) _ _ _ rfl (World.ownsRow.alloc (World.ownsRow.alloc HO.out.outer _) _) ⟨wr.heap.size + 1, 0, none⟩ 1 1 [.slice (some ⟨wr.heap.size, 0, none⟩) 2 2] rfl rfl (newCellAt _ _ _ _ (by simp)) (oneSlice _ _ _) ?c3 ?c4 ?c5 ?_))
            case c3 => unfold maxLen; omega
            case c4 => omega
            case c5 => simp; omega
            intro v' w1 hown hgr _
            have hp := OwnSS.push (wr := wr.drewN nq) (show OwnSS w.heap.size (wr.drewN nq).heap.size (wr.drewN nq) u4 vs2 (prOut zs a ++ prIn zs a q) from HO.out.keep (fun _ _ _ => rfl)) hsz hown hgr
            have hb1 := (((below_drewN hb nq).alloc hsz _).alloc (by simp; omega) _).grown hgr (by simp; omega) (fun k hk => (World.ownsRow.lt HO.out.outer k hk).1)
            have hq : prOut zs a ++ prIn zs a (q + 1) = (prOut zs a ++ prIn zs a q) ++ [[(a : Int), (q : Int)]] := by rw [hS.out, List.append_assoc]
            rw [← hq] at hp
            have HP := Lib.hid hp
            clear hq hp hown hgr
            go_wp2
            go_roundw
            case rel => exact ⟨q + 1, _, by omega, by omega, by go_num, HP.out, hb1⟩
            case measure => simp [intOf]; omega
          | false =>
            have hS := Lib.hid (prIn_no zs a q he)
            generalize zs.getD a 0 = x at hc1 he
            generalize zs.getD q 0 = y at hc2 he
            go_wp2
            go_quiet (fail)
            go_wp2
            go_roundw
            case rel => exact ⟨q + 1, vs2, by omega, by omega, by go_num, by rw [hS.out]; exact HO.out.keep (fun _ _ _ => rfl), below_drewN hb _⟩
            case measure => simp [intOf]; omega
        · have hqn : q = zs.length := by omega
          have HO := Lib.hid ho
          clear ho
          go_wp2
          go_roundw
          case rel => exact ⟨a + 1, vs2, by omega, by go_num, by rw [hT.out, ← hqn]; exact HO.out, hb⟩
          case measure => simp [intOf]; omega
    · have hT := Lib.hid (show prOut zs a = prOut zs zs.length by rw [show a = zs.length by omega])
      have HO := Lib.hid ho
      clear ho
      go_wp2
      go_ret2
      exact ⟨_, vs, rfl, by rw [← hT.out]; exact HO.out, hb⟩

theorem alikePairs_no (b off c : Nat) (zs : List Int) (w : World) (hn : zs.length ≤ 1048576) (hI : Ints w b off zs) (hg : goodB zs 120 = false) :
    Calls Try.prog 22 #[.slice (some ⟨b, off, none⟩) zs.length c] w (RetSSB [] false w) := by
  go_enter Try.func22, Try.ntmps22
  go_wp2_with (first | (go_at_call 45; refine (areAges_any _ _ _ _ zs _ rfl hn hI).mono ?_; rintro e w' ⟨rfl, rfl⟩))
  go_ret2
  exact ⟨_, [], rfl, ownSS_nil _ _ _, Below.refl _ _⟩

set_option maxHeartbeats 1600000 in
theorem alikePairs_yes (b off c : Nat) (zs : List Int) (w : World) (hn : zs.length ≤ 1048576) (hI : Ints w b off zs) (hg : goodB zs 120 = true) :
    Calls Try.prog 22 #[.slice (some ⟨b, off, none⟩) zs.length c] w (RetSSB (prOut zs zs.length) true w) := by
  obtain ⟨i0, hi, hz0, hz1, hz2⟩ := info_parts infoSlice
  have h8 := goodB_len hg
  have hbl := ints_lt hI (by omega)
  go_enter Try.func22, Try.ntmps22
  go_wp2_with (first | (go_at_call 45; refine (areAges_any _ _ _ _ zs _ rfl hn hI).mono ?_; rintro e w' ⟨rfl, rfl⟩))
  clear hg
  go_loopw [4, 12] (fun v i wr => ∃ (a : Nat) (vs : List Value), a ≤ zs.length ∧ i = .int .i64 a ∧ OwnSS w.heap.size wr.heap.size wr v vs (prOut zs a) ∧ Below w.heap.size w wr) (fun _ i _ => zs.length - (intOf i).toNat)
  case atStart => exact ⟨0, [], Nat.zero_le _, rfl, ownSS_nil _ _ _, Below.refl _ _⟩
  case round =>
    obtain ⟨a, vs, ha, rfl, ho, hb⟩ := hrel
    by_cases hlt : a < zs.length
    · have hT := Lib.hid (prOut_succ zs a)
      have hIn0 := prIn_zero zs a
      have ho0 : OwnSS w.heap.size wr.heap.size wr u4 vs (prOut zs a ++ prIn zs a (a + 1)) := by rw [hIn0, List.append_nil]; exact ho
      clear hIn0 ho
      go_wp2
      obtain ⟨wo, rfl⟩ : ∃ wo : World, wo = wr := ⟨_, rfl⟩
      go_loopw [4, 6] (fun v i wr => ∃ (q : Nat) (vs : List Value), a + 1 ≤ q ∧ q ≤ zs.length ∧ i = .int .i64 q ∧ OwnSS w.heap.size wr.heap.size wr v vs (prOut zs a ++ prIn zs a q) ∧ Below w.heap.size w wr) (fun _ i _ => zs.length - (intOf i).toNat)
      case atStart => exact ⟨a + 1, vs, Nat.le_refl _, by omega, by go_num, ho0, hb⟩
      case round =>
        obtain ⟨q, vs2, hq1, hq2, rfl, ho, hb⟩ := hrel
        have hsz := hb.size
        have hlen := prAcc_len zs a q (by omega) hq2
        have hvl := ho.len
        rw [← hvl] at hlen
        clear hvl
        by_cases hqlt : q < zs.length
        · have hc1 := (hI.kept hb hbl) a hlt
          have hc2 := (hI.kept hb hbl) q hqlt
          have a0 : (0 : Int) ≤ (a : Int) := by omega
          have a1 : (a : Int) < (zs.length : Int) := by omega
          have q0 : (0 : Int) ≤ (q : Int) := by omega
          have q1 : (q : Int) < (zs.length : Int) := by omega
          have HO := Lib.hid ho
          clear ho
          cases he : (zs.getD a 0 == zs.getD q 0) with
          | true =>
            have hS := Lib.hid (prIn_yes zs a q (by omega) he)
            generalize zs.getD a 0 = x at hc1 he
            generalize zs.getD q 0 = y at hc2 he
            go_wp2
            go_quiet (fail)
            go_wp2_with (first | (at_builtin; refine wpList_append_own _ rfl _ _ 32 rfl w.heap.size 22 i0 _ 1 24 Try.underlying32 hi hz0 hz1 hz2 rfl (by decide) _ _ _ rfl (World.ownsRow.alloc (World.ownsRow.alloc HO.out.outer _) _) ⟨wr.heap.size + 1, 0, none⟩ 1 1 [.slice (some ⟨wr.heap.size, 0, none⟩) 2 2] rfl rfl (newCellAt _ _ _ _ (by simp)) (oneSlice _ _ _) ?c3 ?c4 ?c5 ?_))
            case c3 => unfold maxLen; omega
            case c4 => omega
            case c5 => simp; omega
            intro v' w1 hown hgr _
            have hp := OwnSS.push (wr := wr.drewN nq) (show OwnSS w.heap.size (wr.drewN nq).heap.size (wr.drewN nq) u4 vs2 (prOut zs a ++ prIn zs a q) from HO.out.keep (fun _ _ _ => rfl)) hsz hown hgr
            have hb1 := (((below_drewN hb nq).alloc hsz _).alloc (by simp; omega) _).grown hgr (by simp; omega) (fun k hk => (World.ownsRow.lt HO.out.outer k hk).1)
            have hq : prOut zs a ++ prIn zs a (q + 1) = (prOut zs a ++ prIn zs a q) ++ [[(a : Int), (q : Int)]] := by rw [hS.out, List.append_assoc]
            rw [← hq] at hp
            have HP := Lib.hid hp
            clear hq hp hown hgr
            go_wp2
            go_roundw
            case rel => exact ⟨q + 1, _, by omega, by omega, by go_num, HP.out, hb1⟩
            case measure => simp [intOf]; omega
          | false =>
            have hS := Lib.hid (prIn_no zs a q he)
            generalize zs.getD a 0 = x at hc1 he
            generalize zs.getD q 0 = y at hc2 he
            go_wp2
            go_quiet (fail)
            go_wp2
            go_roundw
            case rel => exact ⟨q + 1, vs2, by omega, by omega, by go_num, by rw [hS.out]; exact HO.out.keep (fun _ _ _ => rfl), below_drewN hb _⟩
            case measure => simp [intOf]; omega
        · have hqn : q = zs.length := by omega
          have HO := Lib.hid ho
          clear ho
          go_wp2
          go_roundw
          case rel => exact ⟨a + 1, vs2, by omega, by go_num, by rw [hT.out, ← hqn]; exact HO.out, hb⟩
          case measure => simp [intOf]; omega
    · have hT := Lib.hid (show prOut zs a = prOut zs zs.length by rw [show a = zs.length by omega])
      have HO := Lib.hid ho
      clear ho
      go_wp2
      go_ret2
      exact ⟨_, vs, rfl, by rw [← hT.out]; exact HO.out, hb⟩

theorem alikePairs_both (zs : List Int) : ∃ rss ok, Small rss ∧
    (∀ b c w, zs.length ≤ 1048576 → b < w.heap.size → Ints w b 0 zs → Calls Try.prog 21 #[.slice (some ⟨b, 0, none⟩) zs.length c] w (RetSSB rss ok w)) ∧
    (∀ b c w, zs.length ≤ 1048576 → b < w.heap.size → Ints w b 0 zs → Calls Try.prog 22 #[.slice (some ⟨b, 0, none⟩) zs.length c] w (RetSSB rss ok w)) := by
  cases h : goodB zs 120 with
  | false => exact ⟨[], false, small_of (by simp) (fun r hr => by simp at hr), fun b c w hn hbl hI => specAlikePairs_no _ _ _ _ _ hn hI h, fun b c w hn hbl hI => alikePairs_no _ _ _ _ _ hn hI h⟩
  | true =>
    have h8 := goodB_len h
    have hl := prOut_len zs zs.length
    have h3 : zs.length * zs.length ≤ 8 * 8 := Nat.mul_le_mul h8.2 h8.2
    exact ⟨_, true, small_of (by omega) (prOut_row zs _), fun b c w hn hbl hI => specAlikePairs_yes _ _ _ _ _ hn hI h, fun b c w hn hbl hI => alikePairs_yes _ _ _ _ _ hn hI h⟩
end Go.Proofs.Ytonnknhmmljmaab
