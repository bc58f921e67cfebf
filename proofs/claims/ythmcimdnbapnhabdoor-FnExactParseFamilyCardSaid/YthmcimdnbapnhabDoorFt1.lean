/- The text of a family; the model's. -/
import Derived.Test.YthmcimdnbapnhabDoorFNum
import Derived.Test.YthmcimdnbapnhabDoorMo3
set_option linter.unusedVariables false
set_option linter.unusedSimpArgs false
namespace Go.Proofs.YthmcimdnbapnhabDoor
open Go.RowKit

def semB : ByteArray := { data := #[59] }
/-- The text of one of the kin up to its parent j. -/
def kinW (y : Int) (ps : List Int) : Nat → ByteArray
  | 0 => decB y
  | j + 1 => kinW y ps j ++ ({ data := #[46] } ++ decB (ps.getD j 0))
def wordK (fs : List Kn) (k : Nat) : ByteArray := kinW (at3 fs k).1 (parI fs k) (parI fs k).length
/-- The text of the first k. -/
def ftx (fs : List Kn) : Nat → ByteArray
  | 0 => ByteArray.empty
  | k + 1 => (if 0 < k then ftx fs k ++ { data := #[59] } else ftx fs k) ++ wordK fs k
theorem kinW_size {y : Int} {ps : List Int} (hy : 0 ≤ y ∧ y ≤ 3000) (hp : ∀ j, j < ps.length → 0 ≤ ps.getD j 0 ∧ ps.getD j 0 ≤ 3000) : ∀ j, j ≤ ps.length → (kinW y ps j).size ≤ 20 + 21 * j := by
  intro j
  induction j with
  | zero => intro _; exact decB_size hy.1 hy.2
  | succ j ih =>
    intro hj
    have h1 := ih (by omega)
    have h2 := hp j (by omega)
    have h3 := decB_size h2.1 h2.2
    have e : ({ data := #[46] } : ByteArray).size = 1 := rfl
    rw [kinW, ByteArray.size_append, ByteArray.size_append, e]
    omega
theorem par_bd {fs : List Kn} (hf : famB fs = true) {k : Nat} (hk : k < fs.length) : ∀ j, j < (parI fs k).length → 0 ≤ (parI fs k).getD j 0 ∧ (parI fs k).getD j 0 ≤ 3000 := by
  intro j hj
  obtain ⟨n, h1, h2⟩ := parI_getD hf hk hj
  have := famB_len hf
  rw [h1]; omega
theorem word_size {fs : List Kn} (hf : famB fs = true) {k : Nat} (hk : k < fs.length) : ∀ j, j ≤ (parI fs k).length → (kinW (at3 fs k).1 (parI fs k) j).size ≤ 62 := by
  intro j hj
  have h1 := kinW_size (fitB_born (famB_at hf k hk)) (par_bd hf hk) j hj
  have h2 := parI_len fs k
  omega
theorem ftx_size {fs : List Kn} (hf : famB fs = true) : ∀ k, k ≤ fs.length → (ftx fs k).size ≤ 63 * k := by
  intro k
  induction k with
  | zero => intro _; exact Nat.le_refl _
  | succ k ih =>
    intro hk
    have h1 := ih (by omega)
    have h2 := word_size hf (show k < fs.length by omega) _ (Nat.le_refl _)
    have e : ({ data := #[59] } : ByteArray).size = 1 := rfl
    rw [ftx, wordK, ByteArray.size_append]
    split
    · rw [ByteArray.size_append, e]; omega
    · omega
set_option maxHeartbeats 4000000 in
set_option maxRecDepth 100000 in
theorem faText_any (fs : List Kn) (b c : Nat) (w : World) (hf : famB fs = true) (h : Fm fs w b c) :
    Calls Tryd.prog 15 #[.slice (some ⟨b, 0, none⟩) fs.length c] w (RetS (ftx fs fs.length) w) := by
  have hn := famB_len hf
  have hbl := h.lt
  have HF := Lib.hid (fun (W : World) (hb : Below w.heap.size w W) (i : Nat) (hi : i < fs.length) => faParents_any fs b c i W (h.kept hb) hi)
  have HI := Lib.hid h.1
  have HG0 := Lib.hid (fun i (hi : i < fs.length) k hk => parI_getD (fs := fs) (i := i) (k := k) hf hi hk)
  have HWS := Lib.hid (fun k (hk : k < fs.length) => word_size hf hk)
  have HTS := Lib.hid (ftx_size hf)
  have HYB := Lib.hid (fun k (hk : k < fs.length) => fitB_born (famB_at hf k hk))
  clear h hf
  go_enter Tryd.func15, Tryd.ntmps15
  go_wp2_with fail
  go_loopw [3, 10] (fun u v wr => ∃ k : Nat, k ≤ fs.length ∧ v = .int .i64 k ∧ u = .string (ftx fs k) ∧ Below w.heap.size w wr) (fun _ v _ => fs.length - (intOf v).toNat)
  case atStart => exact ⟨0, Nat.zero_le _, rfl, rfl, Below.refl _ _⟩
  case round =>
    obtain ⟨k, hk, rfl, rfl, hb⟩ := hrel
    have hsz := hb.size
    by_cases hlt : k < fs.length
    · obtain ⟨p1, p2, p3⟩ := (HI.out.kept hb hbl) k hlt
      rw [Nat.zero_add] at p1 p2 p3
      have hy := HYB.out k hlt
      have hts := HTS.out k hk
      have HFK0 : Hid (ftx fs (k + 1) = (if 0 < k then ftx fs k ++ { data := #[59] } else ftx fs k) ++ kinW (at3 fs k).1 (parI fs k) (parI fs k).length) := Lib.hid rfl
      have HKZ := Lib.hid (HWS.out k hlt)
      have HG := Lib.hid (HG0.out k hlt)
      have hpl := parI_len fs k
      have HNY := Lib.hid (fun W => num_year (at3 fs k).1 hy.1 hy.2 W)
      have hsy := decB_size hy.1 hy.2
      have HP0 := Lib.hid (fun W hb => HF.out W hb k hlt)
      have hkb : (k : Int) < (fs.length : Int) := by omega
      have hk0 : (0 : Int) ≤ (k : Int) := by omega
      have e59 : ({ data := #[59] } : ByteArray).size = 1 := rfl
      generalize parI fs k = ps at HFK0 HKZ HG hpl HP0
      generalize (at3 fs k).1 = y at p1 HFK0 HKZ HNY hsy
      generalize (at3 fs k).2.1 = f at p2
      generalize (at3 fs k).2.2 = o at p3
      have HK0 : Hid (kinW y ps 0 = decB y) := Lib.hid rfl
      generalize hsyy : decB y = sy at HNY hsy HK0
      clear hsyy
      generalize ftx fs k = t at hts HFK0 ⊢
      have hbA := hb.alloc hsz (.cells #[.int .i64 y, .int .i64 f, .int .i64 o] 37)
      have HBA := Lib.hid hbA
      by_cases h0 : 0 < k
      · rw [if_pos h0] at HFK0
        have hd0 : (0 : Int) < (k : Int) := by omega
        have c1 : ¬ 9223372036854775807 < t.size + ({ data := #[59] } : ByteArray).size := by omega
        have c2 : ¬ 9223372036854775807 < t.size + 1 := by omega
        have c3 : ¬ 9223372036854775807 < (t ++ { data := #[59] }).size + sy.size := by rw [ByteArray.size_append]; omega
        have c4 : ¬ 9223372036854775807 < t.size + 1 + sy.size := by omega
        have hBs : (t ++ { data := #[59] }).size ≤ 900 := by rw [ByteArray.size_append]; omega
        have HFK := HFK0
        clear HFK0 h0 e59 hts hbA
        go_wp2_with (first | (go_at_call 28; refine (HNY.out _).mono ?_; rintro e w1 ⟨rfl, hb1⟩; have hbw := HBA.out.trans (hb1.mono HBA.out.size)) | (go_at_call 29; refine (HP0.out _ hbw).mono ?_; rintro e w2 ⟨v2, rfl, ho2, hb2'⟩; obtain ⟨a2, c2', rfl, har⟩ := ho2.arg; have hb2 := hbw.trans (hb2'.mono hbw.size)))
        rw [← HK0.out]
        clear c1 c2 c3 c4 hb2' hbw hb1
        have HA := Lib.hid har.2
        have hs2 := hb2.size
        generalize hnp : ps.length = np at *
        have HNP := Lib.hid hnp
        clear hnp har ho2
        generalize t ++ { data := #[59] } = B at *
        go_loopw [3, 28] (fun x v wi => ∃ j : Nat, j ≤ np ∧ v = .int .i64 j ∧ x = .string (B ++ kinW y ps j) ∧ Below w.heap.size w wi ∧ Below w2.heap.size w2 wi) (fun _ v _ => np - (intOf v).toNat)
        case atStart => exact ⟨0, Nat.zero_le _, rfl, rfl, hb2, Below.refl _ _⟩
        case round =>
          obtain ⟨j, hj, rfl, rfl, hbi, hbi2⟩ := hrel
          have hszi := hbi.size
          have hkz := HKZ.out j hj
          by_cases hlt2 : j < np
          · rcases HA.out with h0 | ⟨g2, off2, rfl, hgl2, hI2⟩
            · omega
            have hc2 := (hI2.kept hbi2 hgl2) j (by rw [HNP.out]; exact hlt2)
            obtain ⟨p, hp1, hp2⟩ := HG.out j hlt2
            rw [hp1] at hc2
            have HNU := Lib.hid (fun W => num_year (p : Int) (by omega) (by omega) W)
            have hds := decB_size (z := (p : Int)) (by omega) (by omega)
            have HXN : Hid (B ++ kinW y ps (j + 1) = (B ++ kinW y ps j) ++ ({ data := #[46] } ++ decB (p : Int))) := Lib.hid (by rw [kinW, hp1, ByteArray.append_assoc])
            have hXs : (B ++ kinW y ps j).size ≤ 2000 := by rw [ByteArray.size_append]; omega
            have e46 : ({ data := #[46] } : ByteArray).size = 1 := rfl
            generalize B ++ kinW y ps j = X at HXN hXs ⊢
            generalize decB (p : Int) = d at HNU HXN hds
            have q1 : ¬ 9223372036854775807 < ({ data := #[46] } : ByteArray).size + d.size := by omega
            have q2 : ¬ 9223372036854775807 < 1 + d.size := by omega
            have q3 : ¬ 9223372036854775807 < X.size + (({ data := #[46] } : ByteArray) ++ d).size := by rw [ByteArray.size_append]; omega
            have q4 : ¬ 9223372036854775807 < X.size + (1 + d.size) := by omega
            have hj0 : (0 : Int) ≤ (j : Int) := by omega
            have hj1 : (j : Int) < (np : Int) := by omega
            clear hp1 hkz hXs e46 hds hI2
            go_wp2_with (first | (go_at_call 28; refine (HNU.out _).mono ?_; rintro e w3 ⟨rfl, hb3⟩))
            go_roundw
            case rel => exact ⟨j + 1, by omega, by go_num, by rw [HXN.out], hbi.trans (hb3.mono hszi), hbi2.trans (hb3.mono hbi2.size)⟩
            case measure => simp [intOf]; omega
          · have hjn : j = np := by omega
            have HD := Lib.hid (show ftx fs (k + 1) = B ++ kinW y ps j by rw [HFK.out, hjn])
            have hlc2 : ¬ (j : Int) < (np : Int) := by omega
            clear hjn
            go_wp2_with fail
            go_roundw
            case rel => exact ⟨k + 1, by omega, by go_num, by rw [HD.out], hbi⟩
            case measure => simp [intOf]; omega
      · rw [if_neg h0] at HFK0
        have hd0 : ¬ (0 : Int) < (k : Int) := by omega
        have c3 : ¬ 9223372036854775807 < t.size + sy.size := by omega
        have hBs : t.size ≤ 900 := by omega
        have HFK := HFK0
        clear HFK0 h0 e59 hts hbA
        go_wp2_with (first | (go_at_call 28; refine (HNY.out _).mono ?_; rintro e w1 ⟨rfl, hb1⟩; have hbw := HBA.out.trans (hb1.mono HBA.out.size)) | (go_at_call 29; refine (HP0.out _ hbw).mono ?_; rintro e w2 ⟨v2, rfl, ho2, hb2'⟩; obtain ⟨a2, c2', rfl, har⟩ := ho2.arg; have hb2 := hbw.trans (hb2'.mono hbw.size)))
        rw [← HK0.out]
        clear c3 hb2' hbw hb1
        have HA := Lib.hid har.2
        have hs2 := hb2.size
        generalize hnp : ps.length = np at *
        have HNP := Lib.hid hnp
        clear hnp har ho2
        generalize t = B at *
        go_loopw [3, 28] (fun x v wi => ∃ j : Nat, j ≤ np ∧ v = .int .i64 j ∧ x = .string (B ++ kinW y ps j) ∧ Below w.heap.size w wi ∧ Below w2.heap.size w2 wi) (fun _ v _ => np - (intOf v).toNat)
        case atStart => exact ⟨0, Nat.zero_le _, rfl, rfl, hb2, Below.refl _ _⟩
        case round =>
          obtain ⟨j, hj, rfl, rfl, hbi, hbi2⟩ := hrel
          have hszi := hbi.size
          have hkz := HKZ.out j hj
          by_cases hlt2 : j < np
          · rcases HA.out with h0 | ⟨g2, off2, rfl, hgl2, hI2⟩
            · omega
            have hc2 := (hI2.kept hbi2 hgl2) j (by rw [HNP.out]; exact hlt2)
            obtain ⟨p, hp1, hp2⟩ := HG.out j hlt2
            rw [hp1] at hc2
            have HNU := Lib.hid (fun W => num_year (p : Int) (by omega) (by omega) W)
            have hds := decB_size (z := (p : Int)) (by omega) (by omega)
            have HXN : Hid (B ++ kinW y ps (j + 1) = (B ++ kinW y ps j) ++ ({ data := #[46] } ++ decB (p : Int))) := Lib.hid (by rw [kinW, hp1, ByteArray.append_assoc])
            have hXs : (B ++ kinW y ps j).size ≤ 2000 := by rw [ByteArray.size_append]; omega
            have e46 : ({ data := #[46] } : ByteArray).size = 1 := rfl
            generalize B ++ kinW y ps j = X at HXN hXs ⊢
            generalize decB (p : Int) = d at HNU HXN hds
            have q1 : ¬ 9223372036854775807 < ({ data := #[46] } : ByteArray).size + d.size := by omega
            have q2 : ¬ 9223372036854775807 < 1 + d.size := by omega
            have q3 : ¬ 9223372036854775807 < X.size + (({ data := #[46] } : ByteArray) ++ d).size := by rw [ByteArray.size_append]; omega
            have q4 : ¬ 9223372036854775807 < X.size + (1 + d.size) := by omega
            have hj0 : (0 : Int) ≤ (j : Int) := by omega
            have hj1 : (j : Int) < (np : Int) := by omega
            clear hp1 hkz hXs e46 hds hI2
            go_wp2_with (first | (go_at_call 28; refine (HNU.out _).mono ?_; rintro e w3 ⟨rfl, hb3⟩))
            go_roundw
            case rel => exact ⟨j + 1, by omega, by go_num, by rw [HXN.out], hbi.trans (hb3.mono hszi), hbi2.trans (hb3.mono hbi2.size)⟩
            case measure => simp [intOf]; omega
          · have hjn : j = np := by omega
            have HD := Lib.hid (show ftx fs (k + 1) = B ++ kinW y ps j by rw [HFK.out, hjn])
            have hlc2 : ¬ (j : Int) < (np : Int) := by omega
            clear hjn
            go_wp2_with fail
            go_roundw
            case rel => exact ⟨k + 1, by omega, by go_num, by rw [HD.out], hbi⟩
            case measure => simp [intOf]; omega
    · have hkn : k = fs.length := by omega
      have HD := Lib.hid (show ftx fs k = ftx fs fs.length by rw [hkn])
      have hlc : ¬ (k : Int) < (fs.length : Int) := by omega
      clear hkn
      go_wp2_with fail
      go_ret
      exact ⟨by rw [← HD.out]; rfl, hb⟩
end Go.Proofs.YthmcimdnbapnhabDoor
