/- The order of births, of the program. -/
import Derived.Test.YtbhceokapbnhhaaOl2
import Derived.Test.YtbhceokapbnhhaaIb1
import Derived.Test.YtbhceokapbnhhaaNx2
set_option linter.unusedVariables false
set_option linter.unusedSimpArgs false
namespace Go.Proofs.Ytbhceokapbnhhaa
open Go.RowKit

set_option maxHeartbeats 4000000 in
set_option maxRecDepth 100000 in
theorem olClos_any (gb b off n c p q : Nat) (ds : List Dt) (w : World) (hl : ds.length = n) (hg : birthsB ds = true) (hp : p < n) (hq : q < n) (hI : Dts w b off ds)
    (q1 : w.cell? ⟨gb, 0, none⟩ = some (.slice (some ⟨b, off, none⟩) n c)) :
    Calls Try.prog 64 #[.int .i64 p, .int .i64 q, .pointer (some ⟨gb, 0, none⟩)] w (Ret (.int .i64 (dys (at2 ds p) - dys (at2 ds q))) w) := by
  have m1 := mid_date (birthsB_at hg p (by omega))
  have m2 := mid_date (birthsB_at hg q (by omega))
  have HK := Lib.hid (fun W => imCompare_any (at2 ds p).1 (at2 ds p).2 (at2 ds q).1 (at2 ds q).2 W m1.1 m1.2 m2.1 m2.2)
  obtain ⟨a1, a2⟩ := hI p (by omega)
  obtain ⟨b1, b2⟩ := hI q (by omega)
  rw [show dys (at2 ds p) - dys (at2 ds q) = dys ((at2 ds p).1, (at2 ds p).2) - dys ((at2 ds q).1, (at2 ds q).2) from rfl]
  clear hl hg m1 m2 hI
  generalize (at2 ds p).1 = yp at a1 HK ⊢
  generalize (at2 ds p).2 = dp at a2 HK ⊢
  generalize (at2 ds q).1 = yq at b1 HK ⊢
  generalize (at2 ds q).2 = dq at b2 HK ⊢
  generalize dys (yp, dp) - dys (yq, dq) = r at HK ⊢
  have hbw := Below.refl w.heap.size w
  go_enter Try.func64, Try.ntmps64
  go_wp2_with fail
  go_region_held3 (fun w' => Below w.heap.size w w' ∧ w'.cell? ⟨gb, 0, none⟩ = some (.slice (some ⟨b, off, none⟩) n c) ∧ w'.cell? ⟨b, off + p * 2, none⟩ = some (.int .i64 yp) ∧ w'.cell? ⟨b, off + p * 2 + 1, none⟩ = some (.int .i64 dp) ∧ w'.cell? ⟨b, off + q * 2, none⟩ = some (.int .i64 yq) ∧ w'.cell? ⟨b, off + q * 2 + 1, none⟩ = some (.int .i64 dq))
    (first
      | exact ⟨hbw.drew, q1, a1, a2, b1, b2⟩
      | (exact ⟨Below.drew (by assumption), by first | assumption | simp [*], by first | assumption | simp [*], by first | assumption | simp [*], by first | assumption | simp [*], by first | assumption | simp [*]⟩)
      | (go_split_ands
         refine ⟨?_, ?_, ?_, ?_, ?_, ?_⟩
         · exact (by first | assumption | exact Below.trans (by assumption) (Below.mono hcall (Below.size (by assumption))) | exact Below.trans (Below.drew (by assumption)) (Below.mono hcall (Below.size (Below.drew (by assumption)))))
         · exact (by first | assumption | exact below_cell2 hcall (by first | assumption | (simp; assumption)))
         · exact (by first | assumption | exact below_cell2 hcall (by first | assumption | (simp; assumption)))
         · exact (by first | assumption | exact below_cell2 hcall (by first | assumption | (simp; assumption)))
         · exact (by first | assumption | exact below_cell2 hcall (by first | assumption | (simp; assumption)))
         · exact (by first | assumption | exact below_cell2 hcall (by first | assumption | (simp; assumption)))))
    (first | (go_at_call 54; refine (HK.out _).mono ?_; rintro e w' ⟨rfl, hcall⟩))
  all_goals
    obtain ⟨hbf, _⟩ := ‹Below w.heap.size w _ ∧ _›
    go_wp2_with fail
    go_ret
    exact ⟨rfl, hbf⟩

/-- A call that put the numbers of block g in order and wrote nothing else that was there. -/
def RetIns (B g n cap : Nat) (rs : List Int) (w : World) (e : Ending) (w' : World) : Prop :=
  e = .returned (.tuple #[]) ∧ w'.ownsRow B 3 1 (.slice (some ⟨g, 0, none⟩) n cap) n (rs.map (Value.int .i64)) ∧ w.grownBy w' (some g)
theorem grown_below {w0 w w' : World} {g : Nat} (h : w0.grownBy w (some g)) (hb : Below w.heap.size w w') : w0.grownBy w' (some g) := grown_trans h (below_grown hb _)
theorem dts_grown {w w' : World} {g b off : Nat} {ds : List Dt} (h : w.grownBy w' (some g)) (hb : b < g) (hI : Dts w b off ds) : Dts w' b off ds :=
  fun j hj => ⟨cell_grown h hb (hI j hj).1, cell_grown h hb (hI j hj).2⟩
theorem set_map (xs : List Int) (k : Nat) (v : Int) : (xs.map (Value.int .i64)).set k (.int .i64 v) = (xs.set k v).map (Value.int .i64) := by rw [List.map_set]
theorem map_at (xs : List Int) (k : Nat) (h : k < xs.length) : (xs.map (Value.int .i64))[k]? = some (.int .i64 (xs.getD k 0)) := by
  simp [List.getElem?_eq_getElem h]

set_option maxHeartbeats 8000000 in
set_option maxRecDepth 100000 in
theorem olInsert_any (B gb b off n c g cap : Nat) (ds : List Dt) (w : World) (hl : ds.length = n) (hg : birthsB ds = true) (hI : Dts w b off ds)
    (q1 : w.cell? ⟨gb, 0, none⟩ = some (.slice (some ⟨b, off, none⟩) n c)) (hb0 : b < B) (hb1 : gb < B) (hB : B ≤ g)
    (ho : w.ownsRow B 3 1 (.slice (some ⟨g, 0, none⟩) n cap) n ((rowTo (negD ds) 1).map (Value.int .i64))) :
    Calls Try.prog 79 #[.slice (some ⟨g, 0, none⟩) n cap, .int .i64 0, .int .i64 n, .func (.func 64) #[] #[.pointer (some ⟨gb, 0, none⟩)]] w (RetIns B g n cap (rowTo (negD ds) n) w) := by
  have h8 := birthsB_len hg
  rw [hl] at h8
  have HL := Lib.hid hl
  have HNL := Lib.hid ((negD_length ds).trans hl)
  have HCC := Lib.hid (fun (p q : Nat) (hp : p < n) (hq : q < n) (W : World) (h : Dts W b off ds) (h1 : W.cell? ⟨gb, 0, none⟩ = some (.slice (some ⟨b, off, none⟩) n c)) => olClos_any gb b off n c p q ds W hl hg hp hq h h1)
  have HNA := Lib.hid (fun (p : Nat) (hp : p < n) => negD_at ds p (by omega))
  clear hl hg
  obtain ⟨zs, hzs⟩ : ∃ zs, zs = negD ds := ⟨_, rfl⟩
  rw [← hzs] at HNL HNA ho ⊢
  clear hzs
  go_enter Try.func79, Try.ntmps79
  go_wp2_with fail
  go_loopw [8] (fun v wr => ∃ i : Nat, 1 ≤ i ∧ i ≤ n ∧ v = .int .i64 i ∧ wr.ownsRow B 3 1 (.slice (some ⟨g, 0, none⟩) n cap) n ((rowTo zs i).map (Value.int .i64)) ∧ w.grownBy wr (some g)) (fun v _ => n - (intOf v).toNat)
  case atStart => exact ⟨1, Nat.le_refl _, by omega, rfl, ho, World.grownBy.refl _ _⟩
  case round =>
    obtain ⟨i, hi1, hin, rfl, ho, hgr⟩ := hrel
    by_cases hlt : i < n
    · have HM := Lib.hid (rowTo_mid zs i (by rw [HNL.out]; exact hlt))
      have HX := Lib.hid (rowTo_next zs i (by rw [HNL.out]; exact hlt))
      have HPL := Lib.hid (PO_len zs i (by rw [HNL.out]; exact hin))
      have hsp := spot_le zs i (by rw [HNL.out]; exact hin)
      have HPA := Lib.hid (fun k (hk : k < i) => PO_at zs i k (by rw [HNL.out]; exact hin) hk)
      have HST := Lib.hid (fun j (h1 : spot zs i ≤ j) (h2 : j ≤ i) h3 => spot_stop (zs := zs) (i := i) (j := j) (by rw [HNL.out]; exact hin) h1 h2 h3)
      have HBK := Lib.hid (fun j (h1 : spot zs i ≤ j) (h0 : 0 < j) h => spot_back (zs := zs) (i := i) (j := j) h1 h0 h)
      have HRL := Lib.hid (show ((peopleL zs).drop (i + 1)).length = n - (i + 1) by rw [List.length_drop, peopleL_length, HNL.out])
      rw [HM.out] at ho
      clear HM
      generalize (peopleL zs).drop (i + 1) = r at *
      generalize PO zs i = l at *
      generalize hsq : spot zs i = s at *
      clear hsq
      go_wp2_with fail
      go_loopw [9] (fun v wr => ∃ j : Nat, s ≤ j ∧ j ≤ i ∧ v = .int .i64 (j : Int) ∧ wr.ownsRow B 3 1 (.slice (some ⟨g, 0, none⟩) n cap) n ((mid (xAt zs i) l r j).map (Value.int .i64)) ∧ w.grownBy wr (some g)) (fun v _ => (intOf v).toNat)
      case atStart => exact ⟨i, hsp, Nat.le_refl _, rfl, ho, hgr⟩
      case round =>
        clear ho hgr hsp
        obtain ⟨j, hsj, hji, rfl, ho, hgr⟩ := hrel
        have hsz := hgr.size
        have hIr := dts_grown hgr (by omega) hI
        have q1r := cell_grown hgr (by omega) q1
        have hbr0 : b < wr.heap.size := by
          have : b < w.heap.size := World.block_lt_of_cell? w _ (hI 0 (by rw [HL.out]; omega)).1
          omega
        rcases Nat.eq_zero_or_pos j with h0 | h0
        · subst h0
          have HE := Lib.hid (HST.out 0 hsj (by omega) (.inl rfl))
          have hd : decide ((0 : Int) < ((0 : Nat) : Int)) = false := by decide
          go_wp2_with fail
          go_quiet (fail)
          have hbd : ∀ d, w.grownBy (World.drewN wr d) (some g) := fun d => grown_below hgr (below_drewN (Below.refl wr.heap.size wr) d)
          have hod : ∀ d, (World.drewN wr d).ownsRow B 3 1 (.slice (some ⟨g, 0, none⟩) n cap) n ((mid (xAt zs i) l r 0).map (Value.int .i64)) := fun d => World.ownsRow.kept ho (below_grown (below_drewN (Below.refl wr.heap.size wr) d) none) (by simp [Value.ownBlock])
          generalize hwz : World.drewN wr _ = wz
          have hgz : w.grownBy wz (some g) := by rw [← hwz]; exact hbd _
          have hoz : wz.ownsRow B 3 1 (.slice (some ⟨g, 0, none⟩) n cap) n ((mid (xAt zs i) l r 0).map (Value.int .i64)) := by rw [← hwz]; exact hod _
          clear hbd hod hwz
          go_wp2_with fail
          go_roundw
          case rel => exact ⟨i + 1, by omega, by omega, by go_num, by rw [← HX.out, HE.out]; exact hoz, hgz⟩
          case measure => simp [intOf]; omega
        · obtain ⟨k, rfl⟩ : ∃ k, j = k + 1 := ⟨j - 1, by omega⟩
          obtain ⟨i', hi', hli⟩ := HPA.out k (by omega)
          have hi4 : i' < n := by rw [← HNL.out]; exact hi'
          have hml := mid_len (xAt zs i) l r (k + 1) (by rw [HPL.out]; omega)
          have hmn : (mid (xAt zs i) l r (k + 1)).length = n := by rw [hml, HPL.out, HRL.out]; omega
          have c1 : wr.cell? ⟨g, k + 1, none⟩ = some (.int .i64 (i : Int)) := by
            have := (World.ownsRow.cellAt ho (k + 1) (by omega)).trans (map_at _ (k + 1) (by omega))
            rwa [mid_x _ _ _ _ (by rw [HPL.out]; omega)] at this
          have c2 : wr.cell? ⟨g, k, none⟩ = some (.int .i64 (i' : Int)) := by
            have := (World.ownsRow.cellAt ho k (by omega)).trans (map_at _ k (by omega))
            have e := mid_y (xAt zs i) l r (k + 1) (by omega) (by rw [HPL.out]; omega)
            rw [Nat.add_sub_cancel] at e
            rw [e, hli] at this
            exact this
          have f1 := World.ownsRow.frozenAt ho (k + 1)
          have f2 := World.ownsRow.frozenAt ho k
          have HK := Lib.hid (HCC.out i i' hlt hi4)
          have HSW : Hid (((mid (xAt zs i) l r (k + 1)).set (k + 1) (i' : Int)).set k (i : Int) = mid (xAt zs i) l r k) := Lib.hid (by
            have := mid_swap (xAt zs i) l r (k + 1) (by omega) (by rw [HPL.out]; omega)
            rw [Nat.add_sub_cancel, hli] at this
            exact this)
          have z0 : IntKind.i64.wrap ((k : Int) + 1 - 1) = (k : Int) := by rw [Int.add_sub_cancel]; exact IntWalk.i64_in _ (by omega)
          have hd : decide ((0 : Int) < (k : Int) + 1) = true := decide_eq_true (by omega)
          have y1 : (0 : Int) ≤ (k : Int) + 1 := by omega
          have y2 : (k : Int) + 1 < (n : Int) := by omega
          have y3 : (0 : Int) ≤ (k : Int) := by omega
          have y4 : (k : Int) < (n : Int) := by omega
          have z7 : IntKind.i64.wrap (k : Int) = (k : Int) := IntWalk.i64_in _ (by omega)
          have z6 : ((k : Int) + 1).toNat = k + 1 := by omega
          have HO := Lib.hid ho
          have hl1 := congrArg Prod.snd hli
          have hbw := Below.refl wr.heap.size wr
          by_cases hcmp : zs.getD i' 0 < zs.getD i 0
          · have HB2 := Lib.hid (HBK.out (k + 1) hsj (by omega) (by rw [Nat.add_sub_cancel, hl1]; exact hcmp))
            have hneg : dys (at2 ds i) - dys (at2 ds i') < 0 := by have := HNA.out i hlt; have := HNA.out i' hi4; omega
            clear hli hl1 hml hmn ho
            generalize dys (at2 ds i) - dys (at2 ds i') = rr at HK hneg
            go_wp2_with fail
            go_region_held3 (fun w' => Below wr.heap.size wr w' ∧ w'.cell? ⟨g, k + 1, none⟩ = some (.int .i64 (i : Int)) ∧ w'.cell? ⟨g, k, none⟩ = some (.int .i64 (i' : Int)) ∧ w'.cell? ⟨gb, 0, none⟩ = some (.slice (some ⟨b, off, none⟩) n c))
              (first
                | exact ⟨hbw.drew, c1, c2, q1r⟩
                | (exact ⟨Below.drew (by assumption), by first | assumption | simp [*], by first | assumption | simp [*], by first | assumption | simp [*]⟩)
                | (go_split_ands
                   refine ⟨?_, ?_, ?_, ?_⟩
                   · exact (by first | assumption | exact Below.trans (by assumption) (Below.mono hcall (Below.size (by assumption))) | exact Below.trans (Below.drew (by assumption)) (Below.mono hcall (Below.size (Below.drew (by assumption)))))
                   · exact (by first | assumption | exact below_cell2 hcall (by first | assumption | (simp; assumption)))
                   · exact (by first | assumption | exact below_cell2 hcall (by first | assumption | (simp; assumption)))
                   · exact (by first | assumption | exact below_cell2 hcall (by first | assumption | (simp; assumption)))))
              (first | (go_at_call 64; go_split_ands; refine (HK.out _ (hIr.kept (by first | assumption | exact Below.drew (by assumption)) hbr0) (by first | assumption | (simp; assumption))).mono ?_; rintro e w' ⟨rfl, hcall⟩))
            all_goals
              obtain ⟨hbf, d1, d2, _⟩ := ‹Below wr.heap.size wr _ ∧ _›
              have hoz := World.ownsRow.kept HO.out (below_grown hbf none) (by simp [Value.ownBlock])
              have hgz := grown_below hgr hbf
              have f1 := World.ownsRow.frozenAt hoz (k + 1)
              have f2 := World.ownsRow.frozenAt hoz k
              have HS1 := World.ownsRow.stored hoz (k + 1) (.int .i64 (i' : Int))
              have HS2 := World.ownsRow.stored HS1.1 k (.int .i64 (i : Int))
              rw [set_map, set_map, HSW.out] at HS2
              have HSS := Lib.hid HS2
              have HSG := Lib.hid (grown_trans hgz (grown_trans HS1.2 HS2.2))
              clear HS1 HS2 hoz hgz hbf c1 c2
              go_wp2_with fail
              go_region
              all_goals
                go_wp2_with fail
                go_roundw
            case rel => exact ⟨k, by have := HB2.out; omega, by omega, by go_num, HSS.out.1, by first | exact HSG.out | exact grown_below HSG.out ((Below.refl _ _).drew)⟩
            case measure => simp [intOf] <;> omega
          · have HE := Lib.hid (HST.out (k + 1) hsj hji (.inr (by rw [Nat.add_sub_cancel, hl1]; omega)))
            have hneg : ¬ dys (at2 ds i) - dys (at2 ds i') < 0 := by have := HNA.out i hlt; have := HNA.out i' hi4; omega
            clear hli hl1 hml hmn ho
            generalize dys (at2 ds i) - dys (at2 ds i') = rr at HK hneg
            go_wp2_with fail
            go_region_held3 (fun w' => Below wr.heap.size wr w' ∧ w'.cell? ⟨g, k + 1, none⟩ = some (.int .i64 (i : Int)) ∧ w'.cell? ⟨g, k, none⟩ = some (.int .i64 (i' : Int)) ∧ w'.cell? ⟨gb, 0, none⟩ = some (.slice (some ⟨b, off, none⟩) n c))
              (first
                | exact ⟨hbw.drew, c1, c2, q1r⟩
                | (exact ⟨Below.drew (by assumption), by first | assumption | simp [*], by first | assumption | simp [*], by first | assumption | simp [*]⟩)
                | (go_split_ands
                   refine ⟨?_, ?_, ?_, ?_⟩
                   · exact (by first | assumption | exact Below.trans (by assumption) (Below.mono hcall (Below.size (by assumption))) | exact Below.trans (Below.drew (by assumption)) (Below.mono hcall (Below.size (Below.drew (by assumption)))))
                   · exact (by first | assumption | exact below_cell2 hcall (by first | assumption | (simp; assumption)))
                   · exact (by first | assumption | exact below_cell2 hcall (by first | assumption | (simp; assumption)))
                   · exact (by first | assumption | exact below_cell2 hcall (by first | assumption | (simp; assumption)))))
              (first | (go_at_call 64; go_split_ands; refine (HK.out _ (hIr.kept (by first | assumption | exact Below.drew (by assumption)) hbr0) (by first | assumption | (simp; assumption))).mono ?_; rintro e w' ⟨rfl, hcall⟩))
            all_goals
              obtain ⟨hbf, _⟩ := ‹Below wr.heap.size wr _ ∧ _›
              have hoz := World.ownsRow.kept HO.out (below_grown hbf none) (by simp [Value.ownBlock])
              have hgz := grown_below hgr hbf
              go_wp2_with fail
              go_roundw
            case rel => exact ⟨i + 1, by omega, by omega, by go_num, by rw [← HX.out, HE.out]; exact hoz, hgz⟩
            case measure => simp [intOf]; omega
    · have hkn : i = n := by omega
      subst hkn
      go_wp2_with fail
      go_end0
      exact ⟨rfl, ho, hgr⟩

set_option maxHeartbeats 4000000 in
theorem olStable_any (B gb b off n c g cap : Nat) (ds : List Dt) (w : World) (hl : ds.length = n) (hg : birthsB ds = true) (hI : Dts w b off ds)
    (q1 : w.cell? ⟨gb, 0, none⟩ = some (.slice (some ⟨b, off, none⟩) n c)) (hb0 : b < B) (hb1 : gb < B) (hB : B ≤ g)
    (ho : w.ownsRow B 3 1 (.slice (some ⟨g, 0, none⟩) n cap) n ((rowTo (negD ds) 1).map (Value.int .i64))) :
    Calls Try.prog 63 #[.slice (some ⟨g, 0, none⟩) n cap, .func (.func 64) #[] #[.pointer (some ⟨gb, 0, none⟩)]] w (RetIns B g n cap (rowTo (negD ds) n) w) := by
  have h8 := birthsB_len hg
  rw [hl] at h8
  have hcon := fun W (h1 : Dts W b off ds) h2 h3 => olInsert_any B gb b off n c g cap ds W hl hg h1 h2 hb0 hb1 hB h3
  have HCON := Lib.hid hcon
  have h20 : ¬ ((20 : Int) ≤ (n : Int)) := by omega
  have h21 : ¬ ((20 : Int) < (n : Int)) := by omega
  clear hcon hl hg
  have hst : ∀ W, Dts W b off ds → W.cell? ⟨gb, 0, none⟩ = some (.slice (some ⟨b, off, none⟩) n c) → W.ownsRow B 3 1 (.slice (some ⟨g, 0, none⟩) n cap) n ((rowTo (negD ds) 1).map (Value.int .i64)) →
      Calls Try.prog 78 #[.slice (some ⟨g, 0, none⟩) n cap, .int .i64 n, .func (.func 64) #[] #[.pointer (some ⟨gb, 0, none⟩)]] W (RetIns B g n cap (rowTo (negD ds) n) W) := by
    intro W h1 h2 h3
    have hcon := HCON.out W h1 h2 h3
    clear h1 h2 h3 hI q1 ho
    go_enter Try.func78, Try.ntmps78
    go_wp2
    refine wp_loop_rounds 1 ?_
    rw [rounds_succ]
    go_wp2_with (go_at_call 79; refine hcon.mono ?_; rintro e w' ⟨rfl, hr, hgr⟩)
    refine wp_loop_rounds 1 ?_
    rw [rounds_succ]
    go_wp2
    go_end0
    exact ⟨rfl, hr, hgr⟩
  have hcon := hst w hI q1 ho
  clear hst hI q1 ho
  go_enter Try.func63, Try.ntmps63
  go_wp2_with (go_at_call 78; refine hcon.mono ?_; rintro e w' ⟨rfl, hr, hgr⟩)
  go_end0
  exact ⟨rfl, hr, hgr⟩
end Go.Proofs.Ytbhceokapbnhhaa
