/- YearsAlikeSums: both texts. -/
import Derived.Test.YtjabghojenhhiaaTurnA
import Derived.Test.YtjabghojenhhiaaWhenYearsAlikeSums
set_option linter.unusedVariables false
set_option linter.unusedSimpArgs false
namespace Go.Proofs.Ytjabghojenhhiaa
open Go.RowKit

/-- Of the first k numbers all have the digits' sum of a. -/
def alTo (ys : List Int) (a : Int) (k : Nat) : Bool := (ys.take k).all fun z => dsI z == dsI a
theorem alTo_zero (ys : List Int) (a : Int) : alTo ys a 0 = true := rfl
theorem alTo_succ (ys : List Int) (a : Int) (k : Nat) (hk : k < ys.length) : alTo ys a (k + 1) = (alTo ys a k && (dsI (ys.getD k 0) == dsI a)) := by
  unfold alTo
  rw [List.take_succ_eq_append_getElem hk, List.all_append]
  simp [List.getElem?_eq_getElem hk]
theorem alTo_stop {ys : List Int} {a : Int} {k : Nat} (h : alTo ys a k = false) : ∀ j : Nat, k ≤ j → j ≤ ys.length → alTo ys a j = false := by
  intro j
  induction j with
  | zero => intro h1 _; have : k = 0 := by omega
            subst this; exact h
  | succ j ih =>
    intro h1 h2
    by_cases e : k = j + 1
    · rw [← e]; exact h
    · rw [alTo_succ _ _ _ (by omega), ih (by omega) (by omega)]; rfl
set_option maxHeartbeats 4000000 in
theorem alikeTest (g c n : Nat) (num age : Int) (ys : List Int) (w : World) (hl : ys.length = n) (h8 : n ≤ 8) (hgs : g < w.heap.size) (hP : Ppl w g ys) (ha : 0 ≤ age ∧ age ≤ 120) (hz : ∀ j, j < ys.length → 0 ≤ ys.getD j 0 ∧ ys.getD j 0 ≤ 120) :
    Calls Try.prog 61 #[.agg #[.int .i64 num, .int .i64 age, .slice (some ⟨g, 0, none⟩) n c]] w (Ret (.bool (alTo ys age n)) w) := by
  have HL := Lib.hid hl
  have HP := Lib.hid hP
  have HZ := Lib.hid hz
  have hA := Lib.hid fun A => (heap_new w A)
  clear hl hP hz
  go_enter Try.func61, Try.ntmps61
  go_wp2
  go_loopw [8] (fun i wr => ∃ k : Nat, k ≤ n ∧ i = .int .i64 (k : Int) ∧ Hid (alTo ys age k = true) ∧ Below w.heap.size w wr ∧ Hid (wr.heap[w.heap.size]? = some (.cells #[.int .i64 num, .int .i64 age, .slice (some ⟨g, 0, none⟩) n c] 42 (0, 0)))) (fun i _ => n - (intOf i).toNat)
  case atStart => exact ⟨0, Nat.zero_le _, rfl, Lib.hid rfl, (Below.refl _ _).alloc (Nat.le_refl _) _, Lib.hid (hA.out _)⟩
  case round =>
    obtain ⟨k, hk, rfl, hal, hb, hh⟩ := hrel
    have hsz := hb.size
    by_cases hlt : k < n
    · have hc1 := (HP.out.kept hb hgs).num k (by rw [HL.out]; exact hlt)
      have hc2 := (HP.out.kept hb hgs).age k (by rw [HL.out]; exact hlt)
      have hz := HZ.out k (by rw [HL.out]; exact hlt)
      have HS := Lib.hid (alTo_succ ys age k (by rw [HL.out]; exact hlt))
      have HSt := Lib.hid (fun h => alTo_stop (ys := ys) (a := age) (k := k + 1) h n (by omega) (by rw [HL.out]; exact Nat.le_refl _))
      have hu1 : ∀ A, (wr.alloc A).cell? ⟨w.heap.size, 1, none⟩ = some (.int .i64 age) := fun A => (slot3 (heap_later hh.out A)).r1
      have hhA := Lib.hid fun A => heap_later hh.out A
      have HbA := Lib.hid fun A => hb.alloc hsz A
      clear hh
      generalize ys.getD k 0 = z at hc2 hz HS
      by_cases he : dsI z = dsI age
      · have H : Hid (alTo ys age (k + 1) = true) := Lib.hid (by rw [HS.out, hal.out, beq_iff_eq.2 he]; rfl)
        have hd : (dsI z == dsI age) = true := beq_iff_eq.2 he
        have hd2 : (dsI z != dsI age) = false := by simp [he]
        clear he
        go_wp2_with fail
        (go_quiet ((first | (go_at_call 79; exact Calls.quiet_of_same ((digitSum_any _ _ (by omega) (by omega)).mono sameQ)))))
        go_wp2
        go_roundw
        case rel => exact ⟨k + 1, by omega, by go_num, H, below_drewN (HbA.out _) _, Lib.hid (hhA.out _)⟩
        case measure => simp [intOf]; omega
      · have H : Hid (alTo ys age n = false) := Lib.hid (HSt.out (by rw [HS.out, beq_eq_false_iff_ne.2 he, Bool.and_false]))
        have hd : (dsI z == dsI age) = false := beq_eq_false_iff_ne.2 he
        have hd2 : (dsI z != dsI age) = true := by simp [he]
        clear he
        go_wp2_with fail
        (go_quiet ((first | (go_at_call 79; exact Calls.quiet_of_same ((digitSum_any _ _ (by omega) (by omega)).mono sameQ)))))
        go_wp2
        go_ret
        exact ⟨retBo H.out.symm, below_drewN (HbA.out _) _⟩
    · have hkn : k = n := by omega
      have HE : Hid (alTo ys age n = true) := Lib.hid (by rw [← hkn]; exact hal.out)
      clear hkn
      go_wp2
      go_ret
      exact ⟨retBo HE.out.symm, hb⟩
def alikeY (zs : List Int) (y : Int) : Bool := alTo (agesIn zs y) ((agesIn zs y).getD 0 0) zs.length
set_option maxHeartbeats 4000000 in
theorem yearsAlike_yes (b off c : Nat) (zs : List Int) (w : World) (hn : zs.length ≤ 1048576) (hI : Ints w b off zs) (hg : goodB zs 120 = true) :
    Calls Try.prog 33 #[.slice (some ⟨b, off, none⟩) zs.length c] w (RetOwnB (found (alikeY zs) zs) true w) := by
  have h8 := goodB_len hg
  have hbl := ints_lt hI (by omega)
  have HI := Lib.hid hI
  have HT := Lib.hid (fun W => show TestsYearsAlikeSums 0 zs (alikeY zs) W from
    fun y h1 h2 g c W' hB hgs hP => by
      have hf : fitB zs y = true := by unfold fitB; rw [hg, inB_true h1 h2]; rfl
      obtain ⟨_, _, hl, hz⟩ := fit_in hf
      exact alikeTest g c zs.length _ _ (agesIn zs y) W' hl (by omega) hgs hP (hz 0 (by omega)) hz)
  generalize alikeY zs = test at HT ⊢
  have HG := Lib.hid hg
  clear hI hg
  go_enter Try.func33, Try.ntmps33
  go_wp2_with fail
  refine (yearsForZ_YearsAlikeSums _ _ _ test zs _ HG.out (by omega) HI.out (HT.out _)).mono ?_
  rintro e w3 ⟨v, rfl, ho, hb3⟩
  go_wp2_with fail
  refine (areAges_any _ _ _ _ zs _ rfl hn (HI.out.kept hb3 hbl)).mono ?_
  rw [HG.out]
  rintro e w' ⟨rfl, rfl⟩
  go_wp2_with fail
  go_ret2
  exact ⟨_, rfl, ho, hb3⟩
theorem yearsAlike_no (b off c : Nat) (zs : List Int) (w : World) (hn : zs.length ≤ 1048576) (hbl : b < w.heap.size) (hI : Ints w b off zs) (hg : goodB zs 120 = false) :
    Calls Try.prog 33 #[.slice (some ⟨b, off, none⟩) zs.length c] w (RetOwnB [] false w) := by
  have HI := Lib.hid hI
  have HG := Lib.hid hg
  clear hI hg
  go_enter Try.func33, Try.ntmps33
  go_wp2_with fail
  refine (yearsForNo_YearsAlikeSums _ _ _ _ zs _ hn hbl HI.out (by rw [HG.out]; rfl)).mono ?_
  rintro e w3 ⟨v, rfl, ho, hb3⟩
  go_wp2_with fail
  refine (areAges_any _ _ _ _ zs _ rfl hn (HI.out.kept hb3 hbl)).mono ?_
  rw [HG.out]
  rintro e w' ⟨rfl, rfl⟩
  go_wp2_with fail
  go_ret2
  exact ⟨_, rfl, ho, hb3⟩
theorem specAlike_no (b off c : Nat) (zs : List Int) (w : World) (hn : zs.length ≤ 1048576) (hI : Ints w b off zs) (hg : goodB zs 120 = false) :
    Calls Try.prog 32 #[.slice (some ⟨b, off, none⟩) zs.length c] w (RetOwnB [] false w) := by
  go_enter Try.func32, Try.ntmps32
  go_wp2_with (first | (go_at_call 34; refine (agGood_any _ _ _ _ zs _ rfl hn hI).mono ?_; rintro e w' ⟨rfl, rfl⟩))
  go_ret2
  exact ⟨_, rfl, own_nil _ _, Below.refl _ _⟩
set_option maxHeartbeats 4000000 in
theorem specAlike_yes (b off c : Nat) (zs : List Int) (w : World) (hn : zs.length ≤ 1048576) (hI : Ints w b off zs) (hg : goodB zs 120 = true) :
    Calls Try.prog 32 #[.slice (some ⟨b, off, none⟩) zs.length c] w (RetOwnB (found (alikeY zs) zs) true w) := by
  obtain ⟨i0, hi, hz0, hz1, hz2⟩ := info_parts infoInt
  have h8 := goodB_len hg
  have hbl := ints_lt hI (by omega)
  have hbd := loY_bd hg
  have HNN := Lib.hid (show (nY zs : Int) = hiY zs - loY zs + 1 by unfold nY; omega)
  have hn241 : nY zs ≤ 241 := by have := HNN.out; omega
  have HI := Lib.hid hI
  have HZb := Lib.hid (goodB_at hg)
  have HF2 := Lib.hid (fun y (h1 : loY zs ≤ y) (h2 : y ≤ hiY zs) => fit_bd h1 h2)
  have HT := Lib.hid (show ∀ y, alikeY zs y = alTo (agesIn zs y) (zs.getD 0 0 + y) zs.length from fun y => by unfold alikeY; rw [agesIn_getD zs y 0 (by omega)])
  have HSu := Lib.hid (fun (y : Int) (k : Nat) (hk : k < zs.length) => (show alTo (agesIn zs y) (zs.getD 0 0 + y) (k + 1) = (alTo (agesIn zs y) (zs.getD 0 0 + y) k && (dsI (zs.getD k 0 + y) == dsI (zs.getD 0 0 + y))) by rw [alTo_succ _ _ _ (by rw [agesIn_length]; exact hk), agesIn_getD zs y k hk]))
  generalize alikeY zs = test at HT ⊢
  go_enter Try.func32, Try.ntmps32
  go_wp2_with (first | (go_at_call 34; refine (agGood_any _ _ _ _ zs _ rfl hn hI).mono ?_; rintro e w' ⟨rfl, rfl⟩))
  refine (agRange_any _ _ _ _ zs _ rfl hI hg).mono ?_
  rintro e w1 ⟨rfl, hb⟩
  clear hg hI
  go_wp2_with fail
  go_loopw [4, 7] (fun v u wr => ∃ (k : Nat) (y : Int), y = loY zs + k ∧ k ≤ nY zs ∧ u = .int .i64 y ∧ Own w.heap.size wr v (yTo test (loY zs) k) ∧ Below w.heap.size w wr) (fun _ u _ => (121 - intOf u).toNat)
  case atStart => exact ⟨0, loY zs, by simp, Nat.zero_le _, rfl, own_nil _ _, hb⟩
  case round =>
    obtain ⟨k, y, hy, hk, rfl, ho, hbr⟩ := hrel
    have hl1 := yTo_len test (loY zs) k
    have hsz := hbr.size
    have hNo := HNN.out
    by_cases hlt : k < nY zs
    · have hy1 : loY zs ≤ y := by omega
      have hy2 : y ≤ hiY zs := by omega
      have HY := Lib.hid hy
      have hyb : -120 ≤ y ∧ y ≤ 120 := by omega
      have HTy := Lib.hid (HT.out y)
      have HSy := Lib.hid (HSu.out y)
      have HFy := Lib.hid (HF2.out y hy1 hy2)
      have HIr := Lib.hid (HI.out.kept hbr hbl)
      have HYT := Lib.hid (fun h => yTo_yes (test := test) (lo := loY zs) (k := k) h)
      have HNT := Lib.hid (fun h => yTo_no (test := test) (lo := loY zs) (k := k) h)
      rw [← HY.out] at HYT HNT
      clear hy hNo
      generalize hal : (fun j => alTo (agesIn zs y) (zs.getD 0 0 + y) j) = al at *
      have HAL := Lib.hid hal
      have HTy2 : Hid (test y = al zs.length) := Lib.hid (by rw [HTy.out, ← hal])
      have HSy2 : Hid (∀ j, j < zs.length → al (j + 1) = (al j && (dsI (zs.getD j 0 + y) == dsI (zs.getD 0 0 + y)))) := Lib.hid (fun j hj => by rw [← hal]; exact HSy.out j hj)
      have HA0 : Hid (al 0 = true) := Lib.hid (by rw [← hal]; rfl)
      clear hal
      go_wp2_with fail
      go_loopw [8, 27] (fun q i wr2 => ∃ j : Nat, j ≤ zs.length ∧ i = .int .i64 (j : Int) ∧ q = .bool (al j) ∧ Hid (∃ d, wr2 = wr.drewN d)) (fun _ i _ => zs.length - (intOf i).toNat)
      case atStart => exact ⟨0, Nat.zero_le _, rfl, by rw [HA0.out], Lib.hid ⟨0, rfl⟩⟩
      case round =>
        obtain ⟨j, hj, rfl, rfl, hdr⟩ := hrel
        by_cases hjl : j < zs.length
        · have hc1 : wr.cell? ⟨b, off + j, none⟩ = some (.int .i64 (zs.getD j 0)) := by obtain ⟨d, e⟩ := hdr.out; rw [e]; exact HIr.out j hjl
          have hc0 : wr.cell? ⟨b, off, none⟩ = some (.int .i64 (zs.getD 0 0)) := by obtain ⟨d, e⟩ := hdr.out; rw [e]; simpa using HIr.out 0 (by omega)
          have hzj := HZb.out j hjl
          have hz0' := HZb.out 0 (by omega)
          have hfj := HFy.out j hjl
          have hf0 := HFy.out 0 (by omega)
          have hS := HSy2.out j hjl
          generalize zs.getD j 0 = zj at hc1 hzj hfj hS
          generalize zs.getD 0 0 = z0 at hc0 hz0' hf0 hS
          have h0l : (0 : Int) < (zs.length : Int) := by omega
          have h0l2 : 0 < zs.length := by omega
          cases hq : al j with
          | true =>
            rw [hq, Bool.true_and] at hS
            cases hd : (dsI (zj + y) == dsI (z0 + y)) with
            | true =>
              have H : Hid (al (j + 1) = true) := Lib.hid (by rw [hS, hd])
              clear hS hq
              go_wp2_with fail
              have k1 : IntKind.i64.wrap (zj + y) = zj + y := IntWalk.i64_in _ (by omega)
              have k2 : IntKind.i64.wrap (z0 + y) = z0 + y := IntWalk.i64_in _ (by omega)
              (go_quiet ((first | (go_at_call 60; exact Calls.quiet_of_same ((kiDigits_any _ _ (by omega) (by omega)).mono sameQ)))))
              clear k1 k2
              go_wp2
              go_roundw
              case rel => exact ⟨j + 1, by omega, by go_num, by rw [H.out], Lib.hid (by obtain ⟨d, e⟩ := hdr.out; exact ⟨d + nq, by rw [e, World.drewN_drewN]⟩)⟩
              case measure => simp [intOf]; omega
            | false =>
              have H : Hid (al (j + 1) = false) := Lib.hid (by rw [hS, hd])
              clear hS hq
              go_wp2_with fail
              have k1 : IntKind.i64.wrap (zj + y) = zj + y := IntWalk.i64_in _ (by omega)
              have k2 : IntKind.i64.wrap (z0 + y) = z0 + y := IntWalk.i64_in _ (by omega)
              (go_quiet ((first | (go_at_call 60; exact Calls.quiet_of_same ((kiDigits_any _ _ (by omega) (by omega)).mono sameQ)))))
              clear k1 k2
              go_wp2
              go_roundw
              case rel => exact ⟨j + 1, by omega, by go_num, by rw [H.out], Lib.hid (by obtain ⟨d, e⟩ := hdr.out; exact ⟨d + nq, by rw [e, World.drewN_drewN]⟩)⟩
              case measure => simp [intOf]; omega
          | false =>
            have H : Hid (al (j + 1) = false) := Lib.hid (by rw [hS, hq, Bool.false_and])
            clear hS hq
            go_wp2_with fail
            go_quiet (fail)
            go_wp2
            go_roundw
            case rel => exact ⟨j + 1, by omega, by go_num, by rw [H.out], Lib.hid (by obtain ⟨d, e⟩ := hdr.out; exact ⟨d + nq, by rw [e, World.drewN_drewN]⟩)⟩
            case measure => simp [intOf]; omega
        · have hjn : j = zs.length := by omega
          have HE : Hid (test y = al j) := Lib.hid (by rw [hjn]; exact HTy2.out)
          have ho' : Own w.heap.size wr u4 (yTo test (loY zs) k) := by obtain ⟨d, e⟩ := hdr.out; rw [e]; exact ho.kept (below_drewN (Below.refl _ _) d)
          have hbd' : Below w.heap.size w wr := by obtain ⟨d, e⟩ := hdr.out; rw [e]; exact below_drewN hbr d
          have hsz2 := hbd'.size
          clear hjn ho
          cases hq : al j with
          | true =>
            have HS := Lib.hid (HYT.out (by rw [HE.out, hq]))
            clear hq
            go_wp2_with (first | (at_builtin; refine wpList_append_own _ rfl _ _ 22 rfl w.heap.size 3 i0 (.int .i64 0) 1 8 Try.underlying22 hi hz0 hz1 hz2 rfl (by decide) _ _ _ rfl (World.ownsRow.alloc ho' _) ⟨wr.heap.size, 0, none⟩ 1 1 [.int .i64 y] rfl rfl (newCell _ _ _) (oneInt _) ?c3 ?c4 ?c5 ?_))
            case c3 => unfold maxLen; omega
            case c4 => omega
            case c5 => simp; omega
            intro v' w4 hown' hgrow _
            have hb4 := below_push hbd' ho' hgrow
            have ho4 := own_push hown'
            rw [← HS.out] at ho4
            clear hown' hgrow
            go_wp2
            go_roundw
            case rel => exact ⟨k + 1, y + 1, by have := HY.out; omega, by omega, by go_num, ho4, hb4⟩
            case measure => simp [intOf]; omega
          | false =>
            have HS := Lib.hid (HNT.out (by rw [HE.out, hq]))
            clear hq
            go_wp2_with fail
            go_roundw
            case rel => exact ⟨k + 1, y + 1, by have := HY.out; omega, by omega, by go_num, by rw [HS.out]; exact ho', hbd'⟩
            case measure => simp [intOf]; omega
    · have hkn : k = nY zs := by omega
      have hge : hiY zs < y := by omega
      have HF := Lib.hid (show found test zs = yTo test (loY zs) k by rw [hkn]; rfl)
      clear hy hkn hlt hNo
      go_wp2
      go_ret2
      exact ⟨_, rfl, by rw [HF.out]; exact ho, hbr⟩
theorem yearsAlike_both (zs : List Int) : ∃ rs ok, rs.length ≤ 1048576 ∧
    (∀ b c w, zs.length ≤ 1048576 → b < w.heap.size → Ints w b 0 zs → Calls Try.prog 32 #[.slice (some ⟨b, 0, none⟩) zs.length c] w (RetOwnB rs ok w)) ∧
    (∀ b c w, zs.length ≤ 1048576 → b < w.heap.size → Ints w b 0 zs → Calls Try.prog 33 #[.slice (some ⟨b, 0, none⟩) zs.length c] w (RetOwnB rs ok w)) := by
  cases hg : goodB zs 120 with
  | false => exact ⟨[], false, by simp, fun b c w hn hbl hI => specAlike_no _ _ _ _ _ hn hI hg, fun b c w hn hbl hI => yearsAlike_no _ _ _ _ _ hn hbl hI hg⟩
  | true =>
    have h1 := found_len hg (alikeY zs)
    exact ⟨_, true, by omega, fun b c w hn hbl hI => specAlike_yes _ _ _ _ _ hn hI hg, fun b c w hn hbl hI => yearsAlike_yes _ _ _ _ _ hn hI hg⟩
end Go.Proofs.Ytjabghojenhhiaa
