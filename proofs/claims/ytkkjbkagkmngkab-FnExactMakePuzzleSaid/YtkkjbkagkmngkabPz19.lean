/- Hidden ages; whether a clue fits them: both texts. -/
import Derived.Test.YtkkjbkagkmngkabPz6
import Derived.Test.YtkkjbkagkmngkabGood
set_option linter.unusedVariables false
set_option linter.unusedSimpArgs false
namespace Go.Proofs.Ytkkjbkagkmngkab
open Go.RowKit

/-- 1 for a hidden age, 0 else. -/
def hbn (x : Int) : Int := if inB x 1 12 = true then 1 else 0
theorem hbn_yes {x : Int} (h : inB x 1 12 = true) : hbn x = 1 := by unfold hbn; rw [if_pos h]
theorem hbn_no {x : Int} (h : inB x 1 12 = false) : hbn x = 0 := by unfold hbn; rw [if_neg (by rw [h]; simp)]
theorem hbn_bd (x : Int) : 0 ≤ hbn x ∧ hbn x ≤ 1 := by unfold hbn; split <;> omega
/-- How many are hidden ages. -/
def cntH (l : List Int) : Int := sumL (l.map hbn)
theorem cntH_take (zs : List Int) (k : Nat) (hk : k < zs.length) : cntH (zs.take (k + 1)) = cntH (zs.take k) + hbn (zs.getD k 0) := by
  unfold cntH
  rw [List.take_succ_eq_append_getElem hk, List.map_append, sumL_append]
  simp [sumL, List.getElem?_eq_getElem hk]
theorem cntH_bd (zs : List Int) (k : Nat) (hk : k ≤ zs.length) : 0 ≤ cntH (zs.take k) ∧ cntH (zs.take k) ≤ k := by
  induction k with
  | zero => simp [cntH, sumL]
  | succ k ih =>
    rw [cntH_take zs k (by omega)]
    have := ih (by omega)
    have := hbn_bd (zs.getD k 0)
    omega
theorem hid_any (x : Int) (w : World) : Calls Try.prog 37 #[.int .i64 x] w (RetSame (.bool (inB x 1 12)) w) := by
  go_enter Try.func37, Try.ntmps37
  go_wp2_with (go_at_call 25; refine (isWithin_any _ _ _ _).mono ?_; rintro e w' ⟨rfl, rfl⟩)
  go_ret
  exact ⟨rfl, rfl⟩
theorem countHd_any (q : Nat) (x : Int) (w : World) (hq : w.cell? ⟨q, 0, none⟩ = some (.func (.func 37) #[] #[])) :
    Calls Try.prog 45 #[.int .i64 x, .pointer (some ⟨q, 0, none⟩)] w (RetSame (.int .i64 (hbn x)) w) := by
  have HC := Lib.hid (hid_any x w)
  cases h : inB x 1 12 with
  | true =>
    rw [h] at HC
    rw [hbn_yes h]
    clear h
    go_enter Try.func45, Try.ntmps45
    go_wp2_with (go_at_call 37; refine HC.out.mono ?_; rintro e w' ⟨rfl, rfl⟩)
    go_ret
    exact ⟨rfl, rfl⟩
  | false =>
    rw [h] at HC
    rw [hbn_no h]
    clear h
    go_enter Try.func45, Try.ntmps45
    go_wp2_with (go_at_call 37; refine HC.out.mono ?_; rintro e w' ⟨rfl, rfl⟩)
    go_ret
    exact ⟨rfl, rfl⟩
set_option maxHeartbeats 1600000 in
theorem sumOverHd_any (b off n c q : Nat) (zs : List Int) (w : World) (hl : zs.length = n) (hk : zs.length ≤ 3) (hI : Ints w b off zs) (hq : w.cell? ⟨q, 0, none⟩ = some (.func (.func 37) #[] #[])) :
    Calls Try.prog 44 #[.slice (some ⟨b, off, none⟩) n c, .func (.func 45) #[] #[.pointer (some ⟨q, 0, none⟩)]] w (RetSame (.int .i64 (cntH zs)) w) := by
  have hn : n ≤ 4 := by omega
  have HK := Lib.hid (fun k h => cntH_bd zs k h)
  have HT := Lib.hid (fun k h => cntH_take zs k h)
  have HE := Lib.hid (show cntH (zs.take n) = cntH zs by rw [← hl, List.take_length])
  have HL := Lib.hid hl
  clear hk hl
  go_enter Try.func44, Try.ntmps44
  go_wp2
  go_loop [5, 10] (fun s v => ∃ k : Nat, k ≤ n ∧ v = .int .i64 k ∧ s = .int .i64 (cntH (zs.take k))) (fun _ v => n - (intOf v).toNat)
  case atStart => exact ⟨0, Nat.zero_le _, rfl, rfl⟩
  case round =>
    obtain ⟨k, hkn, rfl, rfl⟩ := hrel
    have hs := HK.out k (by rw [HL.out]; exact hkn)
    by_cases hlt : k < n
    · have hc := hI k (by rw [HL.out]; exact hlt)
      have HS := Lib.hid (HT.out k (by rw [HL.out]; exact hlt))
      have hbd := hbn_bd (zs.getD k 0)
      have HC := Lib.hid (countHd_any q (zs.getD k 0) w hq)
      generalize zs.getD k 0 = x at hc HS hbd HC
      generalize cntH (zs.take k) = s at hs HS ⊢
      generalize hbn x = y at HS hbd HC
      go_wp2_with (go_at_call 45; refine HC.out.mono ?_; rintro e w' ⟨rfl, rfl⟩)
      go_round
      case rel => exact ⟨k + 1, by omega, by go_num, by rw [HS.out]⟩
      case measure => simp [intOf]; omega
    · have hkn2 : k = n := by omega
      subst hkn2
      rw [HE.out]
      go_wp2
      go_ret
      exact ⟨rfl, rfl⟩
theorem countHid_any (b n c : Nat) (zs : List Int) (w : World) (hl : zs.length = n) (hk : zs.length ≤ 3) (hbl : b < w.heap.size) (hI : Ints w b 0 zs) :
    Calls Try.prog 36 #[.slice (some ⟨b, 0, none⟩) n c, .func (.func 37) #[] #[]] w (Ret (.int .i64 (cntH zs)) w) := by
  have HW := Lib.hid ((Below.refl w.heap.size w).alloc (Nat.le_refl _) (.cells #[.func (.func 37) #[] #[]] 49))
  have HC := Lib.hid (sumOverHd_any b 0 n c w.heap.size zs (w.alloc (.cells #[.func (.func 37) #[] #[]] 49)) hl hk (hI.kept HW.out hbl) (by simp [go_sem]))
  clear hI
  go_enter Try.func36, Try.ntmps36
  go_wp2_with (go_at_call 44; refine HC.out.mono ?_; rintro e w' ⟨rfl, rfl⟩)
  go_ret
  exact ⟨rfl, HW.out⟩


theorem cntH_all (zs : List Int) : (cntH zs == (zs.length : Int)) = allB zs 1 12 := by
  have key : ∀ l : List Int, cntH l ≤ l.length ∧ ((cntH l = l.length) ↔ ∀ x ∈ l, inB x 1 12 = true) := by
    intro l
    induction l with
    | nil => simp [cntH, sumL]
    | cons x r ih =>
      have e : cntH (x :: r) = hbn x + cntH r := by simp [cntH, sumL]
      have hb := hbn_bd x
      refine ⟨by rw [e, List.length_cons]; omega, ?_⟩
      rw [e, List.length_cons]
      cases hx : inB x 1 12 with
      | true =>
        rw [hbn_yes hx]
        constructor
        · intro h y hy
          rcases List.mem_cons.1 hy with rfl | hy
          · exact hx
          · exact ih.2.1 (by omega) y hy
        · intro h
          have := ih.2.2 (fun y hy => h y (List.mem_cons_of_mem _ hy))
          omega
      | false =>
        rw [hbn_no hx]
        constructor
        · intro h; omega
        · intro h
          have := h x (List.mem_cons_self ..)
          rw [hx] at this; cases this
  cases h : allB zs 1 12 with
  | true =>
    rw [beq_iff_eq]
    exact (key zs).2.2 (by simpa [allB] using h)
  | false =>
    rw [beq_eq_false_iff_ne]
    intro he
    have := (key zs).2.1 he
    have h2 : allB zs 1 12 = true := by simpa [allB] using this
    rw [h2] at h; cases h
def RetB2 (r ok : Bool) (w : World) (e : Ending) (w' : World) : Prop := e = .returned (.tuple #[.bool r, .bool ok]) ∧ Below w.heap.size w w'
def hdB (l : List Int) : Bool := inB (l.length : Int) 2 3 && allB l 1 12
theorem hdB_hdn {l : List Int} (h : hdB l = true) : Hdn l := by
  unfold hdB at h
  rw [Bool.and_eq_true, inB_iff] at h
  obtain ⟨h1, h2⟩ := h
  refine ⟨by omega, fun x hx => ?_⟩
  have : inB x 1 12 = true := by
    have h3 : ∀ x ∈ l, inB x 1 12 = true := by simpa [allB] using h2
    exact h3 x hx
  rw [inB_iff] at this
  exact this
theorem hidPeople_any (x : Int) (w : World) : Calls Try.prog 35 #[.int .i64 x] w (RetSame (.bool (inB x 2 3)) w) := by
  go_enter Try.func35, Try.ntmps35
  go_wp2_with (go_at_call 25; refine (isWithin_any _ _ _ _).mono ?_; rintro e w' ⟨rfl, rfl⟩)
  go_ret
  exact ⟨rfl, rfl⟩
theorem pzPeopleD_any (x : Int) (w : World) : Calls Try.prog 31 #[.int .i64 x] w (RetSame (.bool (inB x 2 3)) w) := by
  go_enter Try.func31, Try.ntmps31
  go_wp2_with (go_at_call 22; refine (l1In_any _ _ _ _).mono ?_; rintro e w' ⟨rfl, rfl⟩)
  go_ret
  exact ⟨rfl, rfl⟩
theorem areHidden_any (b n c : Nat) (l : List Int) (w : World) (hl : l.length = n) (hn : n ≤ 1048576) (hbl : b < w.heap.size) (hI : Ints w b 0 l) :
    Calls Try.prog 19 #[.slice (some ⟨b, 0, none⟩) n c] w (Ret (.bool (hdB l)) w) := by
  have HP := Lib.hid (fun W => hidPeople_any (n : Int) W)
  cases h : inB (n : Int) 2 3 with
  | false =>
    rw [show hdB l = false by unfold hdB; rw [hl, h]; rfl]
    rw [h] at HP
    clear h hI
    go_enter Try.func19, Try.ntmps19
    go_wp2_with (go_at_call 35; refine (HP.out _).mono ?_; rintro e w' ⟨rfl, rfl⟩)
    go_ret
    exact ⟨rfl, Below.refl _ _⟩
  | true =>
    have h3 : l.length ≤ 3 := by rw [inB_iff] at h; omega
    have HC := Lib.hid (countHid_any b n c l w hl h3 hbl hI)
    have HB := Lib.hid (show hdB l = (cntH l == (n : Int)) by unfold hdB; rw [hl, h, Bool.true_and, ← cntH_all, hl])
    rw [HB.out]
    rw [h] at HP
    clear h hI HB
    generalize cntH l = r at HC ⊢
    go_enter Try.func19, Try.ntmps19
    go_wp2_with (first | (go_at_call 35; refine (HP.out _).mono ?_; rintro e w' ⟨rfl, rfl⟩) | (go_at_call 36; refine HC.out.mono ?_; rintro e w' ⟨rfl, hb⟩))
    go_ret
    exact ⟨rfl, hb⟩
theorem pzHidden_any (b n c : Nat) (l : List Int) (w : World) (hl : l.length = n) (hn : n ≤ 1048576) (hbl : b < w.heap.size) (hI : Ints w b 0 l) :
    Calls Try.prog 16 #[.slice (some ⟨b, 0, none⟩) n c] w (Ret (.bool (hdB l)) w) := by
  have HP := Lib.hid (fun W => pzPeopleD_any (n : Int) W)
  have HA := Lib.hid (l1All_any b 0 n c l 1 12 w hl hn hI)
  cases h : inB (n : Int) 2 3 with
  | false =>
    rw [show hdB l = false by unfold hdB; rw [hl, h]; rfl]
    rw [h] at HP
    clear h hI HA
    go_enter Try.func16, Try.ntmps16
    go_wp2_with (go_at_call 31; refine (HP.out _).mono ?_; rintro e w' ⟨rfl, rfl⟩)
    go_ret
    exact ⟨rfl, Below.refl _ _⟩
  | true =>
    rw [show hdB l = allB l 1 12 by unfold hdB; rw [hl, h]; rfl]
    rw [h] at HP
    clear h hI
    generalize allB l 1 12 = r at HA ⊢
    go_enter Try.func16, Try.ntmps16
    go_wp2_with (first | (go_at_call 31; refine (HP.out _).mono ?_; rintro e w' ⟨rfl, rfl⟩) | (go_at_call 32; refine HA.out.mono ?_; rintro e w' ⟨rfl, rfl⟩))
    go_ret
    exact ⟨rfl, Below.refl _ _⟩
def fitOk (k : Kn) (l : List Int) : Bool := hdB l && icB (l.length : Int) k
def fitR (k : Kn) (l : List Int) : Bool := if fitOk k l = true then fitI k l else false

set_option maxHeartbeats 800000 in
theorem imFit_no (k : Kn) (b n c : Nat) (l : List Int) (w : World) (hl : l.length = n) (hn : n ≤ 1048576) (hbl : b < w.heap.size) (hI : Ints w b 0 l) (h : hdB l = false) : Calls Try.prog 8 #[.agg #[.int .i64 k.1, .int .i64 k.2.1, .int .i64 k.2.2], .slice (some ⟨b, 0, none⟩) n c] w (RetB2 false false w) := by
  have HH := Lib.hid (fun (W : World) (hb : Below w.heap.size w W) => areHidden_any b n c l W hl hn (Nat.lt_of_lt_of_le hbl hb.size) (hI.kept hb hbl))
  rw [h] at HH
  generalize k.1 = y at ⊢
  generalize k.2.1 = f at ⊢
  generalize k.2.2 = o at ⊢
  have HW := Lib.hid ((Below.refl w.heap.size w).alloc (Nat.le_refl _) (.cells #[.int .i64 y, .int .i64 f, .int .i64 o] 27))
  clear hI h
  go_enter Try.func8, Try.ntmps8
  go_wp2_with (first | (go_at_call 19; refine (HH.out _ HW.out).mono ?_; rintro e w1 ⟨rfl, hb1⟩; have hb1' := HW.out.trans (hb1.mono HW.out.size); have q0 : w1.cell? ⟨w.heap.size, 0, none⟩ = some (.int .i64 y) := below_cell2 hb1 (by simp [go_sem]); have q1 : w1.cell? ⟨w.heap.size, 1, none⟩ = some (.int .i64 f) := below_cell2 hb1 (by simp [go_sem]); have q2 : w1.cell? ⟨w.heap.size, 2, none⟩ = some (.int .i64 o) := below_cell2 hb1 (by simp [go_sem])))
  go_ret2
  exact ⟨rfl, hb1'⟩

set_option maxHeartbeats 800000 in
theorem imFit_out (k : Kn) (b n c : Nat) (l : List Int) (w : World) (hl : l.length = n) (hn : n ≤ 1048576) (hbl : b < w.heap.size) (hI : Ints w b 0 l) (h : hdB l = true) (hc : icB (n : Int) k = false) : Calls Try.prog 8 #[.agg #[.int .i64 k.1, .int .i64 k.2.1, .int .i64 k.2.2], .slice (some ⟨b, 0, none⟩) n c] w (RetB2 false false w) := by
  have hn3 := (hdB_hdn h).1
  have HH := Lib.hid (fun (W : World) (hb : Below w.heap.size w W) => areHidden_any b n c l W hl hn (Nat.lt_of_lt_of_le hbl hb.size) (hI.kept hb hbl))
  rw [h] at HH
  have HC := Lib.hid (fun W => isClue_any (n : Int) k W)
  rw [hc] at HC
  clear hc
  generalize k.1 = y at HC ⊢
  generalize k.2.1 = f at HC ⊢
  generalize k.2.2 = o at HC ⊢
  have HW := Lib.hid ((Below.refl w.heap.size w).alloc (Nat.le_refl _) (.cells #[.int .i64 y, .int .i64 f, .int .i64 o] 27))
  clear hI h
  go_enter Try.func8, Try.ntmps8
  go_wp2_with (first | (go_at_call 19; refine (HH.out _ HW.out).mono ?_; rintro e w1 ⟨rfl, hb1⟩; have hb1' := HW.out.trans (hb1.mono HW.out.size); have q0 : w1.cell? ⟨w.heap.size, 0, none⟩ = some (.int .i64 y) := below_cell2 hb1 (by simp [go_sem]); have q1 : w1.cell? ⟨w.heap.size, 1, none⟩ = some (.int .i64 f) := below_cell2 hb1 (by simp [go_sem]); have q2 : w1.cell? ⟨w.heap.size, 2, none⟩ = some (.int .i64 o) := below_cell2 hb1 (by simp [go_sem])) | (go_at_call 20; refine (HC.out _).mono ?_; rintro e w2 ⟨rfl, hb2⟩; have hb2' := hb1'.trans (hb2.mono hb1'.size); have r0 := below_cell2 hb2 q0; have r1 := below_cell2 hb2 q1; have r2 := below_cell2 hb2 q2))
  go_ret2
  exact ⟨rfl, hb2'⟩

set_option maxHeartbeats 800000 in
theorem imFit_yes (k : Kn) (b n c : Nat) (l : List Int) (w : World) (hl : l.length = n) (hn : n ≤ 1048576) (hbl : b < w.heap.size) (hI : Ints w b 0 l) (h : hdB l = true) (hc : icB (n : Int) k = true) : Calls Try.prog 8 #[.agg #[.int .i64 k.1, .int .i64 k.2.1, .int .i64 k.2.2], .slice (some ⟨b, 0, none⟩) n c] w (RetB2 (fitI k l) true w) := by
  have hd := hdB_hdn h
  have hn3 := hd.1
  have HH := Lib.hid (fun (W : World) (hb : Below w.heap.size w W) => areHidden_any b n c l W hl hn (Nat.lt_of_lt_of_le hbl hb.size) (hI.kept hb hbl))
  rw [h] at HH
  have HC := Lib.hid (fun W => isClue_any (n : Int) k W)
  have HF := Lib.hid (fun (W : World) (hb : Below w.heap.size w W) => fits_any b c n (n : Int) k l W rfl hl hc hd (Nat.lt_of_lt_of_le hbl hb.size) (hI.kept hb hbl))
  rw [hc] at HC
  clear hc hd
  generalize fitI k l = r at HF ⊢
  generalize k.1 = y at HC HF ⊢
  generalize k.2.1 = f at HC HF ⊢
  generalize k.2.2 = o at HC HF ⊢
  have HW := Lib.hid ((Below.refl w.heap.size w).alloc (Nat.le_refl _) (.cells #[.int .i64 y, .int .i64 f, .int .i64 o] 27))
  clear hI h
  go_enter Try.func8, Try.ntmps8
  go_wp2_with (first | (go_at_call 19; refine (HH.out _ HW.out).mono ?_; rintro e w1 ⟨rfl, hb1⟩; have hb1' := HW.out.trans (hb1.mono HW.out.size); have q0 : w1.cell? ⟨w.heap.size, 0, none⟩ = some (.int .i64 y) := below_cell2 hb1 (by simp [go_sem]); have q1 : w1.cell? ⟨w.heap.size, 1, none⟩ = some (.int .i64 f) := below_cell2 hb1 (by simp [go_sem]); have q2 : w1.cell? ⟨w.heap.size, 2, none⟩ = some (.int .i64 o) := below_cell2 hb1 (by simp [go_sem])) | (go_at_call 20; refine (HC.out _).mono ?_; rintro e w2 ⟨rfl, hb2⟩; have hb2' := hb1'.trans (hb2.mono hb1'.size); have r0 := below_cell2 hb2 q0; have r1 := below_cell2 hb2 q1; have r2 := below_cell2 hb2 q2) | (go_at_call 21; refine (HF.out _ hb2').mono ?_; rintro e w3 ⟨rfl, hb3⟩; have hb3' := hb2'.trans (hb3.mono hb2'.size)))
  go_ret2
  exact ⟨rfl, hb3'⟩

theorem imFit_any (k : Kn) (b c : Nat) (l : List Int) (w : World) (hn : l.length ≤ 1048576) (hbl : b < w.heap.size) (hI : Ints w b 0 l) :
    Calls Try.prog 8 #[.agg #[.int .i64 k.1, .int .i64 k.2.1, .int .i64 k.2.2], .slice (some ⟨b, 0, none⟩) l.length c] w (RetB2 (fitR k l) (fitOk k l) w) := by
  cases h : fitOk k l with
  | false =>
    rw [show fitR k l = false by unfold fitR; rw [if_neg (by rw [h]; simp)]]
    unfold fitOk at h
    cases h1 : hdB l with
    | false => exact imFit_no k b _ c l w rfl hn hbl hI h1
    | true =>
      rw [h1, Bool.true_and] at h
      exact imFit_out k b _ c l w rfl hn hbl hI h1 h
  | true =>
    rw [show fitR k l = fitI k l by unfold fitR; rw [if_pos h]]
    unfold fitOk at h
    rw [Bool.and_eq_true] at h
    exact imFit_yes k b _ c l w rfl hn hbl hI h.1 h.2

set_option maxHeartbeats 800000 in
theorem spFit_no (k : Kn) (b n c : Nat) (l : List Int) (w : World) (hl : l.length = n) (hn : n ≤ 1048576) (hbl : b < w.heap.size) (hI : Ints w b 0 l) (h : hdB l = false) : Calls Try.prog 5 #[.agg #[.int .i64 k.1, .int .i64 k.2.1, .int .i64 k.2.2], .slice (some ⟨b, 0, none⟩) n c] w (RetB2 false false w) := by
  have HH := Lib.hid (fun (W : World) (hb : Below w.heap.size w W) => pzHidden_any b n c l W hl hn (Nat.lt_of_lt_of_le hbl hb.size) (hI.kept hb hbl))
  rw [h] at HH
  generalize k.1 = y at ⊢
  generalize k.2.1 = f at ⊢
  generalize k.2.2 = o at ⊢
  have HW := Lib.hid ((Below.refl w.heap.size w).alloc (Nat.le_refl _) (.cells #[.int .i64 y, .int .i64 f, .int .i64 o] 27))
  clear hI h
  go_enter Try.func5, Try.ntmps5
  go_wp2_with (first | (go_at_call 16; refine (HH.out _ HW.out).mono ?_; rintro e w1 ⟨rfl, hb1⟩; have hb1' := HW.out.trans (hb1.mono HW.out.size); have q0 : w1.cell? ⟨w.heap.size, 0, none⟩ = some (.int .i64 y) := below_cell2 hb1 (by simp [go_sem]); have q1 : w1.cell? ⟨w.heap.size, 1, none⟩ = some (.int .i64 f) := below_cell2 hb1 (by simp [go_sem]); have q2 : w1.cell? ⟨w.heap.size, 2, none⟩ = some (.int .i64 o) := below_cell2 hb1 (by simp [go_sem])))
  go_ret2
  exact ⟨rfl, hb1'⟩

set_option maxHeartbeats 800000 in
theorem spFit_out (k : Kn) (b n c : Nat) (l : List Int) (w : World) (hl : l.length = n) (hn : n ≤ 1048576) (hbl : b < w.heap.size) (hI : Ints w b 0 l) (h : hdB l = true) (hc : icB (n : Int) k = false) : Calls Try.prog 5 #[.agg #[.int .i64 k.1, .int .i64 k.2.1, .int .i64 k.2.2], .slice (some ⟨b, 0, none⟩) n c] w (RetB2 false false w) := by
  have hn3 := (hdB_hdn h).1
  have HH := Lib.hid (fun (W : World) (hb : Below w.heap.size w W) => pzHidden_any b n c l W hl hn (Nat.lt_of_lt_of_le hbl hb.size) (hI.kept hb hbl))
  rw [h] at HH
  have HC := Lib.hid (fun W => pzClue_any (n : Int) k W (by omega))
  rw [hc] at HC
  clear hc
  generalize k.1 = y at HC ⊢
  generalize k.2.1 = f at HC ⊢
  generalize k.2.2 = o at HC ⊢
  have HW := Lib.hid ((Below.refl w.heap.size w).alloc (Nat.le_refl _) (.cells #[.int .i64 y, .int .i64 f, .int .i64 o] 27))
  clear hI h
  go_enter Try.func5, Try.ntmps5
  go_wp2_with (first | (go_at_call 16; refine (HH.out _ HW.out).mono ?_; rintro e w1 ⟨rfl, hb1⟩; have hb1' := HW.out.trans (hb1.mono HW.out.size); have q0 : w1.cell? ⟨w.heap.size, 0, none⟩ = some (.int .i64 y) := below_cell2 hb1 (by simp [go_sem]); have q1 : w1.cell? ⟨w.heap.size, 1, none⟩ = some (.int .i64 f) := below_cell2 hb1 (by simp [go_sem]); have q2 : w1.cell? ⟨w.heap.size, 2, none⟩ = some (.int .i64 o) := below_cell2 hb1 (by simp [go_sem])) | (go_at_call 17; refine (HC.out _).mono ?_; rintro e w2 ⟨rfl, hb2⟩; have hb2' := hb1'.trans (hb2.mono hb1'.size); have r0 := below_cell2 hb2 q0; have r1 := below_cell2 hb2 q1; have r2 := below_cell2 hb2 q2))
  go_ret2
  exact ⟨rfl, hb2'⟩

set_option maxHeartbeats 800000 in
theorem spFit_yes (k : Kn) (b n c : Nat) (l : List Int) (w : World) (hl : l.length = n) (hn : n ≤ 1048576) (hbl : b < w.heap.size) (hI : Ints w b 0 l) (h : hdB l = true) (hc : icB (n : Int) k = true) : Calls Try.prog 5 #[.agg #[.int .i64 k.1, .int .i64 k.2.1, .int .i64 k.2.2], .slice (some ⟨b, 0, none⟩) n c] w (RetB2 (fitI k l) true w) := by
  have hd := hdB_hdn h
  have hn3 := hd.1
  have HH := Lib.hid (fun (W : World) (hb : Below w.heap.size w W) => pzHidden_any b n c l W hl hn (Nat.lt_of_lt_of_le hbl hb.size) (hI.kept hb hbl))
  rw [h] at HH
  have HC := Lib.hid (fun W => pzClue_any (n : Int) k W (by omega))
  have HF := Lib.hid (fun (W : World) (hb : Below w.heap.size w W) => pzFits_any b c n (n : Int) k l W rfl hl hc hd (Nat.lt_of_lt_of_le hbl hb.size) (hI.kept hb hbl))
  rw [hc] at HC
  clear hc hd
  generalize fitI k l = r at HF ⊢
  generalize k.1 = y at HC HF ⊢
  generalize k.2.1 = f at HC HF ⊢
  generalize k.2.2 = o at HC HF ⊢
  have HW := Lib.hid ((Below.refl w.heap.size w).alloc (Nat.le_refl _) (.cells #[.int .i64 y, .int .i64 f, .int .i64 o] 27))
  clear hI h
  go_enter Try.func5, Try.ntmps5
  go_wp2_with (first | (go_at_call 16; refine (HH.out _ HW.out).mono ?_; rintro e w1 ⟨rfl, hb1⟩; have hb1' := HW.out.trans (hb1.mono HW.out.size); have q0 : w1.cell? ⟨w.heap.size, 0, none⟩ = some (.int .i64 y) := below_cell2 hb1 (by simp [go_sem]); have q1 : w1.cell? ⟨w.heap.size, 1, none⟩ = some (.int .i64 f) := below_cell2 hb1 (by simp [go_sem]); have q2 : w1.cell? ⟨w.heap.size, 2, none⟩ = some (.int .i64 o) := below_cell2 hb1 (by simp [go_sem])) | (go_at_call 17; refine (HC.out _).mono ?_; rintro e w2 ⟨rfl, hb2⟩; have hb2' := hb1'.trans (hb2.mono hb1'.size); have r0 := below_cell2 hb2 q0; have r1 := below_cell2 hb2 q1; have r2 := below_cell2 hb2 q2) | (go_at_call 18; refine (HF.out _ hb2').mono ?_; rintro e w3 ⟨rfl, hb3⟩; have hb3' := hb2'.trans (hb3.mono hb2'.size)))
  go_ret2
  exact ⟨rfl, hb3'⟩

theorem spFit_any (k : Kn) (b c : Nat) (l : List Int) (w : World) (hn : l.length ≤ 1048576) (hbl : b < w.heap.size) (hI : Ints w b 0 l) :
    Calls Try.prog 5 #[.agg #[.int .i64 k.1, .int .i64 k.2.1, .int .i64 k.2.2], .slice (some ⟨b, 0, none⟩) l.length c] w (RetB2 (fitR k l) (fitOk k l) w) := by
  cases h : fitOk k l with
  | false =>
    rw [show fitR k l = false by unfold fitR; rw [if_neg (by rw [h]; simp)]]
    unfold fitOk at h
    cases h1 : hdB l with
    | false => exact spFit_no k b _ c l w rfl hn hbl hI h1
    | true =>
      rw [h1, Bool.true_and] at h
      exact spFit_out k b _ c l w rfl hn hbl hI h1 h
  | true =>
    rw [show fitR k l = fitI k l by unfold fitR; rw [if_pos h]]
    unfold fitOk at h
    rw [Bool.and_eq_true] at h
    exact spFit_yes k b _ c l w rfl hn hbl hI h.1 h.2

theorem doesFit_both (k : Kn) (l : List Int) : ∃ r ok,
    (∀ b c w, l.length ≤ 1048576 → b < w.heap.size → Ints w b 0 l → Calls Try.prog 5 #[.agg #[.int .i64 k.1, .int .i64 k.2.1, .int .i64 k.2.2], .slice (some ⟨b, 0, none⟩) l.length c] w (RetB2 r ok w)) ∧
    (∀ b c w, l.length ≤ 1048576 → b < w.heap.size → Ints w b 0 l → Calls Try.prog 8 #[.agg #[.int .i64 k.1, .int .i64 k.2.1, .int .i64 k.2.2], .slice (some ⟨b, 0, none⟩) l.length c] w (RetB2 r ok w)) :=
  ⟨_, _, fun b c w hn hb hI => spFit_any k b c l w hn hb hI, fun b c w hn hb hI => imFit_any k b c l w hn hb hI⟩
end Go.Proofs.Ytkkjbkagkmngkab
