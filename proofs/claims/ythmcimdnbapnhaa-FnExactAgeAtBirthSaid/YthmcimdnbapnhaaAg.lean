/- AgeAtBirth: both texts. -/
import Derived.Test.YthmcimdnbapnhaaPo
import Derived.Test.YthmcimdnbapnhaaSc
set_option linter.unusedVariables false
set_option linter.unusedSimpArgs false
namespace Go.Proofs.Ythmcimdnbapnhaa
open Go.RowKit

/-- A call returned a place, or something below 0, and left the world alone. -/
def RetPl (b : Bool) (w : World) (e : Ending) (w' : World) : Prop := ∃ i : Int, e = .returned (.int .i64 i) ∧ decide (0 ≤ i) = b ∧ w = w'
set_option maxHeartbeats 1600000 in
theorem indexI_some (b n c : Nat) (zs : List Int) (x : Int) (w : World) (hl : zs.length = n) (hn : n ≤ 1000000) (hI : Ints w b 0 zs) :
    Calls Try.prog 94 #[.slice (some ⟨b, 0, none⟩) n c, .int .i64 x] w (RetPl (zs.contains x) w) := by
  have HL := Lib.hid hl
  have HI := Lib.hid hI
  have HY := Lib.hid (fun k (h : k < zs.length) (e : zs.getD k 0 = x) => (show zs.contains x = true by
    rw [List.contains_iff_mem, mem_getD]; exact ⟨k, h, e⟩))
  have HN := Lib.hid (fun (h : ∀ j, j < zs.length → zs.getD j 0 ≠ x) => (show zs.contains x = false by
    rw [← Bool.not_eq_true, List.contains_iff_mem, mem_getD]
    rintro ⟨j, hj, e⟩
    exact h j hj e))
  clear hl hI
  generalize zs.contains x = r at HY HN ⊢
  go_enter Try.func94, Try.ntmps94
  go_wp2
  go_loop [8] (fun v => ∃ k : Nat, k ≤ n ∧ v = .int .i64 k ∧ Hid (∀ j, j < k → zs.getD j 0 ≠ x)) (fun v => n - (intOf v).toNat)
  case atStart => exact ⟨0, Nat.zero_le _, rfl, Lib.hid (fun j hj => by omega)⟩
  case round =>
    obtain ⟨k, hkn, rfl, HP⟩ := hrel
    by_cases hlt : k < n
    · have hkr : k < zs.length := by rw [HL.out]; exact hlt
      have hc := HI.out k hkr
      rw [Nat.zero_add] at hc
      have HE := Lib.hid (HY.out k hkr)
      have HX := Lib.hid (fun (hne : zs.getD k 0 ≠ x) => (show ∀ j, j < k + 1 → zs.getD j 0 ≠ x from fun j hj => by
        by_cases e : j = k
        · subst e; exact hne
        · exact HP.out j (by omega)))
      generalize zs.getD k 0 = z at hc HE HX
      by_cases he : z = x
      · have hr := Lib.hid (HE.out he)
        subst he
        go_wp2_with fail
        go_ret
        exact ⟨_, rfl, by rw [hr.out]; exact decide_eq_true (by omega), rfl⟩
      · have hne : (x == z) = false := beq_eq_false_iff_ne.2 (fun h => he h.symm)
        have HX2 := Lib.hid (HX.out he)
        clear he HX HE
        go_wp2_with fail
        go_round
        case rel => exact ⟨k + 1, by omega, by go_num, HX2⟩
        case measure => simp [intOf]; omega
    · have hlc : ¬ (k : Int) < (n : Int) := by omega
      have hr := Lib.hid (HN.out (fun j hj => HP.out j (by rw [HL.out] at hj; omega)))
      go_wp2_with fail
      go_ret
      exact ⟨_, rfl, by rw [hr.out]; rfl, rfl⟩
theorem containsI_own (B : Nat) (v : Value) (zs : List Int) (x : Int) (w : World) (hn : zs.length ≤ 1000000) (h : Own B w v zs) :
    Calls Try.prog 77 #[v, .int .i64 x] w (RetSame (.bool (zs.contains x)) w) := by
  have HC : Hid (Calls Try.prog 94 #[v, .int .i64 x] w (RetPl (zs.contains x) w)) := by
    rcases h.cases with ⟨rfl, rfl⟩ | ⟨g, c, rfl, _, _, _, _, hI, _⟩
    · refine Lib.hid ?_
      go_enter Try.func94, Try.ntmps94
      go_wp2
      go_rounds 1
      go_ret
      exact ⟨_, rfl, rfl, rfl⟩
    · exact Lib.hid (indexI_some g zs.length c zs x w rfl hn hI)
  clear h
  generalize zs.contains x = r at HC ⊢
  go_enter Try.func77, Try.ntmps77
  go_wp2_with (first | (go_at_call 94; refine HC.out.mono ?_; rintro e w2 ⟨i, rfl, hi, rfl⟩; have HI := Lib.hid hi; clear hi))
  go_ret
  exact ⟨by rw [← HI.out]; rfl, rfl⟩
/-- Is the first the parent of the other one. -/
def okA (fs : List Kn) (p c : Int) : Bool := twoB fs p c && isPar fs p.toNat c.toNat
theorem parL_has (fs : List Kn) (p c : Int) : (if twoB fs c c = true then (parN fs c.toNat).map fun (n : Nat) => (n : Int) else []).contains p = okA fs p c := by
  cases h2 : twoB fs c c with
  | false =>
    rw [if_neg (by simp)]
    have : twoB fs p c = false := by
      unfold twoB at h2 ⊢
      cases hf : famB fs with
      | false => rfl
      | true =>
        rw [hf, Bool.and_self] at h2
        rw [show inB c 0 ((fs.length : Int) - 1) = false by simpa using h2, Bool.and_false]; rfl
    unfold okA; rw [this]; rfl
  | true =>
    rw [if_pos rfl]
    obtain ⟨hf, i, i2, rfl, hii, hi, hi2⟩ := twoB_yes h2
    rw [Bool.eq_iff_iff, List.contains_iff_mem, List.mem_map]
    unfold okA
    rw [Bool.and_eq_true, Int.toNat_natCast]
    constructor
    · rintro ⟨n, hn, rfl⟩
      unfold parN at hn
      rw [List.mem_filter] at hn
      have hnl : n < fs.length := by simpa [allN] using hn.1
      refine ⟨?_, by simpa using hn.2⟩
      unfold twoB; rw [hf, inB_true (by omega) (by omega), inB_true (by omega) (by omega)]; rfl
    · rintro ⟨h3, h4⟩
      obtain ⟨_, n, m, rfl, hm, hn, _⟩ := twoB_yes h3
      refine ⟨n, ?_, rfl⟩
      unfold parN
      rw [List.mem_filter]
      exact ⟨by simp [allN]; exact hn, by simpa using h4⟩
def ageA (fs : List Kn) (p c : Int) : Int := if okA fs p c = true then (at3 fs c.toNat).1 - (at3 fs p.toNat).1 else 0
set_option maxHeartbeats 1000000 in
theorem imAge_any (fs : List Kn) (b c : Nat) (x y : Int) (w : World) (hc : fs.length ≤ c) (hbl : b < w.heap.size) (hI : Kns w b 0 fs) :
    Calls Try.prog 46 #[.slice (some ⟨b, 0, none⟩) fs.length c, .int .i64 x, .int .i64 y] w (RetIB (ageA fs x y) (okA fs x y) w) := by
  have HP := Lib.hid (imPar_any fs b c y w hc hbl hI)
  have HE := Lib.hid (parL_has fs x y)
  have hl : (if twoB fs y y = true then (parN fs y.toNat).map fun (n : Nat) => (n : Int) else []).length ≤ 1000000 := by
    split
    · rename_i h
      have h1 := parN_len fs y.toNat
      have h2 := (famB_len (twoB_yes h).1).2
      rw [allN_len] at h1
      rw [List.length_map]; omega
    · simp
  generalize (if twoB fs y y = true then (parN fs y.toNat).map fun (n : Nat) => (n : Int) else []) = zs at HP HE hl
  generalize twoB fs y y = ok at HP
  cases hk : okA fs x y with
  | false =>
    rw [show ageA fs x y = 0 by unfold ageA; rw [hk]; rfl]
    rw [hk] at HE
    clear hI hk
    go_enter Try.func46, Try.ntmps46
    go_wp2_with (first | (go_at_call 26; refine HP.out.mono ?_; rintro e w1 ⟨v1, rfl, ho1, hb1⟩) | (go_at_call 77; refine (containsI_own _ _ zs x _ hl ho1).mono ?_; rw [HE.out]; rintro e w' ⟨rfl, rfl⟩))
    go_ret2
    exact ⟨rfl, hb1⟩
  | true =>
    rw [show ageA fs x y = (at3 fs y.toNat).1 - (at3 fs x.toNat).1 by unfold ageA; rw [hk]; rfl]
    rw [hk] at HE
    have h2 : twoB fs x y = true := by unfold okA at hk; rw [Bool.and_eq_true] at hk; exact hk.1
    obtain ⟨hf, i, j, rfl, rfl, hi, hj⟩ := twoB_yes h2
    rw [Int.toNat_natCast, Int.toNat_natCast]
    have hbi := fitB_born (famB_at hf i hi)
    have hbj := fitB_born (famB_at hf j hj)
    have HX := Lib.hid (fun (W : World) (hb : Below w.heap.size w W) => (show W.cell? ⟨b, i * 3, none⟩ = some (.int .i64 (at3 fs i).1) ∧ W.cell? ⟨b, j * 3, none⟩ = some (.int .i64 (at3 fs j).1) from by
      have h1 := ((hI.kept hb hbl) i hi).1
      have h2 := ((hI.kept hb hbl) j hj).1
      rw [Nat.zero_add] at h1 h2
      exact ⟨h1, h2⟩))
    have ha0 : (0 : Int) ≤ (i : Int) := by omega
    have ha1 : (i : Int) < (fs.length : Int) := by omega
    have hb0 : (0 : Int) ≤ (j : Int) := by omega
    have hb1' : (j : Int) < (fs.length : Int) := by omega
    clear hI hk h2 hf
    generalize (at3 fs i).1 = p at hbi HX ⊢
    generalize (at3 fs j).1 = q at hbj HX ⊢
    have hwr : IntKind.i64.wrap (q - p) = q - p := IntWalk.i64_in _ (by omega)
    go_enter Try.func46, Try.ntmps46
    go_wp2_with (first | (go_at_call 26; refine HP.out.mono ?_; rintro e w1 ⟨v1, rfl, ho1, hb1⟩; obtain ⟨x1, x2⟩ := HX.out w1 hb1) | (go_at_call 77; refine (containsI_own _ _ zs _ _ hl ho1).mono ?_; rw [HE.out]; rintro e w' ⟨rfl, rfl⟩))
    go_quiet (fail)
    go_wp2_with fail
    go_ret2
    exact ⟨rfl, below_drewN hb1 _⟩
set_option maxHeartbeats 1000000 in
theorem spAge_any (fs : List Kn) (b c : Nat) (x y : Int) (w : World) (hc : fs.length ≤ c) (hbl : b < w.heap.size) (hI : Kns w b 0 fs) :
    Calls Try.prog 45 #[.slice (some ⟨b, 0, none⟩) fs.length c, .int .i64 x, .int .i64 y] w (RetIB (ageA fs x y) (okA fs x y) w) := by
  have HT := Lib.hid (faTwo_any fs b c x y w hc hbl hI)
  rw [twoM_eq] at HT
  cases h2 : twoB fs x y with
  | false =>
    rw [show ageA fs x y = 0 by unfold ageA okA; rw [h2]; rfl, show okA fs x y = false by unfold okA; rw [h2]; rfl]
    rw [h2] at HT
    clear hI h2
    go_enter Try.func45, Try.ntmps45
    go_wp2_with (first | (go_at_call 68; refine HT.out.mono ?_; rintro e w1 ⟨rfl, hb1⟩; have hs1 := hb1.size))
    go_ret2
    exact ⟨rfl, hb1⟩
  | true =>
    obtain ⟨hf, i, j, rfl, rfl, hi, hj⟩ := twoB_yes h2
    rw [h2] at HT
    have hF : Fm fs w b c := ⟨hI, hbl, hc, (famB_len hf).2⟩
    have HP := Lib.hid (fun (W : World) (hb : Below w.heap.size w W) => faParents_any fs b c j W (hF.kept hb) hj)
    have HE : Hid ((parI fs j).contains (i : Int) = isPar fs i j) := Lib.hid (isChiB_eq fs i j)
    have hl := parI_len fs j
    have e1 : okA fs (i : Int) (j : Int) = isPar fs i j := by unfold okA; rw [h2, Int.toNat_natCast, Int.toNat_natCast]; rfl
    have e2 : ageA fs (i : Int) (j : Int) = if isPar fs i j = true then (at3 fs j).1 - (at3 fs i).1 else 0 := by unfold ageA; rw [e1, Int.toNat_natCast, Int.toNat_natCast]
    rw [e1, e2]
    generalize parI fs j = zs at HP HE hl
    cases hk : isPar fs i j with
    | false =>
      rw [if_neg (by simp)]
      rw [hk] at HE
      clear hI h2 hf hF hk e1 e2
      go_enter Try.func45, Try.ntmps45
      go_wp2_with (first | (go_at_call 68; refine HT.out.mono ?_; rintro e w1 ⟨rfl, hb1⟩; have hs1 := hb1.size) | (go_at_call 58; refine (HP.out w1 hb1).mono ?_; rintro e w2 ⟨v2, rfl, ho2, hb2⟩) | (go_at_call 76; refine (l1Has_own _ _ zs _ _ (by omega) ho2).mono ?_; rw [HE.out]; rintro e w' ⟨rfl, rfl⟩))
      go_ret2
      exact ⟨rfl, hb1.trans (hb2.mono hs1)⟩
    | true =>
      rw [if_pos rfl]
      rw [hk] at HE
      have hbi := fitB_born (famB_at hf i hi)
      have hbj := fitB_born (famB_at hf j hj)
      have HX := Lib.hid (fun (W : World) (hb : Below w.heap.size w W) => (show W.cell? ⟨b, i * 3, none⟩ = some (.int .i64 (at3 fs i).1) ∧ W.cell? ⟨b, j * 3, none⟩ = some (.int .i64 (at3 fs j).1) from by
        have h1 := ((hI.kept hb hbl) i hi).1
        have h2 := ((hI.kept hb hbl) j hj).1
        rw [Nat.zero_add] at h1 h2
        exact ⟨h1, h2⟩))
      have ha0 : (0 : Int) ≤ (i : Int) := by omega
      have ha1 : (i : Int) < (fs.length : Int) := by omega
      have hb0 : (0 : Int) ≤ (j : Int) := by omega
      have hb1' : (j : Int) < (fs.length : Int) := by omega
      clear hI h2 hf hF hk e1 e2
      generalize (at3 fs i).1 = p at hbi HX ⊢
      generalize (at3 fs j).1 = q at hbj HX ⊢
      have hwr : IntKind.i64.wrap (q - p) = q - p := IntWalk.i64_in _ (by omega)
      go_enter Try.func45, Try.ntmps45
      go_wp2_with (first | (go_at_call 68; refine HT.out.mono ?_; rintro e w1 ⟨rfl, hb1⟩; have hs1 := hb1.size) | (go_at_call 58; refine (HP.out w1 hb1).mono ?_; rintro e w2 ⟨v2, rfl, ho2, hb2⟩; have hb12 := hb1.trans (hb2.mono hs1); obtain ⟨x1, x2⟩ := HX.out w2 hb12) | (go_at_call 76; refine (l1Has_own _ _ zs _ _ (by omega) ho2).mono ?_; rw [HE.out]; rintro e w' ⟨rfl, rfl⟩))
      go_quiet (fail)
      go_wp2_with fail
      go_ret2
      exact ⟨rfl, below_drewN hb12 _⟩
theorem ageAtBirth_both (ds : List Kn) (x1 x2 : Int) : ∃ r ok,
    (∀ b c w, ds.length ≤ 1048576 → ds.length ≤ c → b < w.heap.size → Kns w b 0 ds → Calls Try.prog 45 #[.slice (some ⟨b, 0, none⟩) ds.length c, .int .i64 x1, .int .i64 x2] w (RetIB r ok w)) ∧
    (∀ b c w, ds.length ≤ 1048576 → ds.length ≤ c → b < w.heap.size → Kns w b 0 ds → Calls Try.prog 46 #[.slice (some ⟨b, 0, none⟩) ds.length c, .int .i64 x1, .int .i64 x2] w (RetIB r ok w)) :=
  ⟨_, _, fun b c w _ hc hb hI => spAge_any ds b c x1 x2 w hc hb hI, fun b c w _ hc hb hI => imAge_any ds b c x1 x2 w hc hb hI⟩
end Go.Proofs.Ythmcimdnbapnhaa
