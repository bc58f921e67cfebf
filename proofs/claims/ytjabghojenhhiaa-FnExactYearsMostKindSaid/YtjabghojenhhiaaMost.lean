/- YearsMostKind: both texts. -/
import Derived.Test.YtjabghojenhhiaaAll
set_option linter.unusedVariables false
set_option linter.unusedSimpArgs false
namespace Go.Proofs.Ytjabghojenhhiaa
open Go.RowKit

/-- The first greatest of the first k values from lo on, above m. -/
def best (c : Int → Int) (lo m : Int) : Nat → Int × Int
  | 0 => (lo, m)
  | k + 1 => if (best c lo m k).2 < c (lo + k) then (lo + k, c (lo + k)) else best c lo m k
theorem best_yes {c : Int → Int} {lo m : Int} {k : Nat} (h : (best c lo m k).2 < c (lo + k)) : best c lo m (k + 1) = (lo + k, c (lo + k)) := by rw [best, if_pos h]
theorem best_no {c : Int → Int} {lo m : Int} {k : Nat} (h : ¬ (best c lo m k).2 < c (lo + k)) : best c lo m (k + 1) = best c lo m k := by rw [best, if_neg h]
theorem best_same {c : Int → Int} {lo : Int} (h0 : ∀ y, 0 ≤ c y) : ∀ k : Nat, best c lo (-1) (k + 1) = best c lo 0 (k + 1) := by
  intro k
  induction k with
  | zero =>
    have h := h0 (lo + ((0 : Nat) : Int))
    rw [best_yes (show (best c lo (-1) 0).2 < c (lo + ((0 : Nat) : Int)) by show (-1 : Int) < _; omega)]
    by_cases e : 0 < c (lo + ((0 : Nat) : Int))
    · rw [best_yes (show (best c lo 0 0).2 < c (lo + ((0 : Nat) : Int)) from e)]
    · rw [best_no (show ¬ (best c lo 0 0).2 < c (lo + ((0 : Nat) : Int)) from e)]
      show _ = (lo, (0 : Int))
      rw [show c (lo + ((0 : Nat) : Int)) = 0 by omega]
      simp
  | succ k ih =>
    by_cases e : (best c lo 0 (k + 1)).2 < c (lo + ((k + 1 : Nat) : Int))
    · rw [best_yes e, best_yes (by rw [ih]; exact e)]
    · rw [best_no e, best_no (by rw [ih]; exact e), ih]
theorem best_bd {c : Int → Int} {lo m : Int} (hc : ∀ y, 0 ≤ c y ∧ c y ≤ 8) (hm : -1 ≤ m ∧ m ≤ 8) : ∀ k : Nat, -1 ≤ (best c lo m k).2 ∧ (best c lo m k).2 ≤ 8 := by
  intro k
  induction k with
  | zero => exact hm
  | succ k ih =>
    rw [best]
    split
    · have := hc (lo + k); exact ⟨by omega, by omega⟩
    · exact ih
def cY (s : ByteArray) (zs : List Int) (y : Int) : Int := cnt (kOf s) (agesIn zs y)
theorem cY_bd (s : ByteArray) (zs : List Int) (h8 : zs.length ≤ 8) (y : Int) : 0 ≤ cY s zs y ∧ cY s zs y ≤ 8 := by
  have := cnt_bd (kOf s) (agesIn zs y)
  rw [agesIn_length] at this
  unfold cY
  omega
def mostR (s : ByteArray) (zs : List Int) : Int × Int := best (cY s zs) (loY zs) 0 (nY zs)
theorem pairI {a b c d : Int} (h : (a, b) = (c, d)) : Value.int .i64 a = Value.int .i64 c ∧ Value.int .i64 b = Value.int .i64 d := by
  injection h with h1 h2
  rw [h1, h2]; exact ⟨rfl, rfl⟩
theorem retIIBm {a b c d : Int} {x : Bool} (h1 : a = c) (h2 : b = d) : Ending.returned (.tuple #[.int .i64 a, .int .i64 b, .bool x]) = .returned (.tuple #[.int .i64 c, .int .i64 d, .bool x]) := by rw [h1, h2]

set_option maxHeartbeats 4000000 in
set_option maxRecDepth 100000 in
theorem yearsMost_yes (b off c : Nat) (s : ByteArray) (zs : List Int) (w : World) (hn : zs.length ≤ 1048576) (hI : Ints w b off zs) (hk : isK s = true) (hg : goodB zs 120 = true) :
    Calls Try.prog 23 #[.slice (some ⟨b, off, none⟩) zs.length c, .string s] w (RetIIB (mostR s zs).1 (mostR s zs).2 true w) := by
  have h8 := goodB_len hg
  have hbl := ints_lt hI (by omega)
  have hbd := loY_bd hg
  have HI := Lib.hid hI
  have HK := Lib.hid hk
  have hN : (nY zs : Int) = hiY zs - loY zs + 1 := by unfold nY; omega
  have hn241 : nY zs ≤ 241 := by omega
  have HN := Lib.hid hN
  have ha := goodB_at hg 0 (by omega)
  have HR := Lib.hid (show loY zs = -(minTo (zs.getD 0 0) zs zs.length) ∧ hiY zs = 120 - maxTo (zs.getD 0 0) zs zs.length from ⟨rfl, rfl⟩)
  have HGA := Lib.hid (goodB_at hg)
  have HF := Lib.hid (fun (y : Int) (h1 : loY zs ≤ y) (h2 : y ≤ hiY zs) => fit_in (show fitB zs y = true by unfold fitB; rw [hg, inB_true h1 h2]; rfl))
  have HCB := Lib.hid (cY_bd s zs h8.2)
  have HQ := Lib.hid (best_bd (c := cY s zs) (lo := loY zs) (m := 0) HCB.out (by omega))
  have HE := Lib.hid (show mostR s zs = best (cY s zs) (loY zs) 0 (nY zs) from rfl)
  obtain ⟨cs, hcs⟩ : ∃ cs : List Value, cs.toArray = pc (kOf s) := ⟨(pc (kOf s)).toList, by simp⟩
  have hu := Try.underlying50
  have hlen : cs.length = 961 := by rw [← List.size_toArray, hcs, pc_size]
  have hi : (Try.prog.info? 50).map (·.size) = some cs.length := by rw [hlen]; exact sizeMarks
  have HCS := Lib.hid hcs
  have HC := Lib.hid (fun (y : Int) (h1 : loY zs ≤ y) (h2 : y ≤ hiY zs) (num age : Int) (g c : Nat) (W : World) (h3 : g < W.heap.size) (h4 : Ppl W g (agesIn zs y)) => show Calls Try.prog 46 #[.agg cs.toArray, .agg #[.int .i64 num, .int .i64 age, .slice (some ⟨g, 0, none⟩) zs.length c]] W (Ret (.int .i64 (cY s zs y)) W) from by
    rw [hcs]
    obtain ⟨_, _, hl, hz⟩ := HF.out y h1 h2
    exact countIn_any (kOf s) num age g c zs.length (agesIn zs y) W hl (by omega) h3 h4 hz)
  have HG := Lib.hid hg
  generalize hz : zs.getD 0 0 = a at ha HR
  have HZ0 := Lib.hid hz
  clear hI hk hN hz hcs hlen hg
  go_enter Try.func23, Try.ntmps23
  go_wp2_with fail
  refine (marksFor_any _ _).mono ?_
  rw [HK.out]; rintro e w1 ⟨rfl, hb1⟩
  have HS := Lib.hid (blk_new w1 50 (pc pnone))
  have hba := hb1.alloc hb1.size (.cells (pc pnone) 50)
  have hsz1 := hb1.size
  go_wp2_with (first | (refine wpList_store_row rfl _ _ _ rfl _ 50 _ _ rfl rfl HS.out (sizeMarksOf _) (pc_sizes _ _) (pc_one _) ?_; intro w2 hV0 hg2 hsz2))
  have hV := Lib.hid hV0
  have hb2 : Below w.heap.size w w2 := hba.grown hg2 (by simp; omega) (by intro k hk; simp at hk; omega)
  have hVl : w1.heap.size < w2.heap.size := hV0.lt
  clear hV0 hg2 hsz2 hba
  refine (householdOf_zero _ _ _ _ zs _ rfl hn (HI.out.kept hb2 hbl) HG.out).mono ?_
  rintro e w3 ⟨g, hg3, rfl, hP, hgs, hb3⟩
  rw [HZ0.out]
  have hsz2 := hb2.size
  have hsz3 := hb3.size
  have hb3' := hb2.trans (hb3.mono hsz2)
  have HV3 := Lib.hid (fun A => (hV.out.kept hb3 hVl).alloc A)
  have HP3 := Lib.hid (fun A => hP.kept ((Below.refl w3.heap.size w3).alloc (Nat.le_refl _) A) hgs)
  have HW3 := Lib.hid (fun A => hb3'.alloc hb3'.size A)
  have HH3 := Lib.hid (fun A => heap_new w3 A)
  clear hV hP
  go_wp2_with fail
  refine (fitYears_any _ _ _ _ _ zs _ rfl HG.out (by simp; omega) (HP3.out _) ha).mono ?_
  rintro e w4 ⟨rfl, hb4⟩
  rw [← HR.out.1, ← HR.out.2]
  have hw4 := (HW3.out _).trans (hb4.mono (HW3.out _).size)
  have HV4 := Lib.hid ((HV3.out _).kept hb4 (by simp; omega))
  have HH4 := Lib.hid (heap_kept (HH3.out _) hb4)
  have HP4 := Lib.hid ((HP3.out _).kept hb4 (by simp; omega))
  have hg4 : g < w4.heap.size := by have := hb4.size; simp at this; omega
  have hw34 : w3.heap.size < w4.heap.size := by have := hb4.size; simp at this; omega
  clear hb4
  go_wp2_with fail
  go_loopw [13, 14, 15] (fun f m u wr => ∃ (k : Nat) (y : Int), y = loY zs + k ∧ k ≤ nY zs ∧ u = .int .i64 y ∧ f = .int .i64 (best (cY s zs) (loY zs) 0 k).1 ∧ m = .int .i64 (best (cY s zs) (loY zs) 0 k).2 ∧ Below w.heap.size w wr ∧ Below w4.heap.size w4 wr) (fun _ _ u _ => (121 - intOf u).toNat)
  case atStart => exact ⟨0, loY zs, by simp, Nat.zero_le _, rfl, rfl, rfl, hw4, Below.refl _ _⟩
  case round =>
    obtain ⟨k, y, hy, hk, rfl, rfl, rfl, hb, hb5⟩ := hrel
    have HO := HN.out
    have hbm := HQ.out k
    have hsz := hb.size
    have hsz5 := hb5.size
    by_cases hlt : k < nY zs
    · have hy1 : loY zs ≤ y := by omega
      have hy2 : y ≤ hiY zs := by omega
      have HY := Lib.hid hy
      have hyb : -120 ≤ y ∧ y ≤ 120 := by omega
      clear hy HO
      have hc8 := HCB.out y
      have hR := range_blk (cs := cs) (g := w1.heap.size) (t := 50) (w := wr) (by rw [HCS.out]; exact HV4.out.kept hb5 (by omega))
      obtain ⟨t0, t1, t2, _, _, _, _, _⟩ := slot3 ((hb5.block _ hw34).trans HH4.out)
      have HP5 := Lib.hid (HP4.out.kept hb5 hg4)
      have HBY := Lib.hid (fun h => best_yes (c := cY s zs) (lo := loY zs) (m := 0) (k := k) h)
      have HBN := Lib.hid (fun h => best_no (c := cY s zs) (lo := loY zs) (m := 0) (k := k) h)
      rw [← HY.out] at HBY HBN
      have HCy := Lib.hid (fun num age g c W h3 h4 => HC.out y hy1 hy2 num age g c W h3 h4)
      generalize best (cY s zs) (loY zs) 0 k = bk at *
      obtain ⟨f0, m0⟩ := bk
      dsimp only at *
      generalize cY s zs y = cy at *
      go_wp2_with fail
      go_region_held3 (fun w' => Below w.heap.size w w' ∧ Below wr.heap.size wr w' ∧ w'.rangeAt w1.heap.size 0 cs ∧ w'.cell? ⟨w3.heap.size, 0, none⟩ = some (.int .i64 0) ∧ w'.cell? ⟨w3.heap.size, 1, none⟩ = some (.int .i64 a) ∧ w'.cell? ⟨w3.heap.size, 2, none⟩ = some (.slice (some ⟨g, 0, none⟩) zs.length zs.length))
        (first
          | exact ⟨hb.drew, (Below.refl _ _).drew, hR, t0, t1, t2⟩
          | (go_split_ands
             refine ⟨?_, ?_, ?_, ?_, ?_, ?_⟩
             · exact Below.trans (by assumption) (Below.mono hcall (Below.size (by assumption)))
             · exact Below.trans (show Below wr.heap.size wr _ by assumption) (Below.mono hcall (Below.size (show Below wr.heap.size wr _ by assumption)))
             · exact range_kept (by assumption) hcall (by have := Below.size (show Below wr.heap.size wr _ by assumption); omega)
             · exact below_cellsK hcall (by assumption)
             · exact below_cellsK hcall (by assumption)
             · exact below_cellsK hcall (by assumption)))
        (first
          | (go_at_call 47; refine (in_zero _ _ _ _ zs _ (by omega) (by omega) ?_ ?_ HGA.out hyb).mono ?_; (go_split_ands; (have := Below.size (show Below wr.heap.size wr _ by assumption); omega)); (go_split_ands; exact HP5.out.kept (show Below wr.heap.size wr _ by assumption) (by omega)); rintro e w' ⟨g2, c2, hg2, rfl, hP2, hgs2, hcall⟩)
          | (go_at_call 46; refine (HCy.out _ _ _ _ _ ?_ ?_).mono ?_; exact hgs2; exact hP2; rintro e w' ⟨rfl, hcall⟩))
      obtain ⟨hbf, hbf2, _⟩ := ‹Below w.heap.size w _ ∧ _›
      have hb6 := hb5.trans (hbf2.mono hsz5)
      by_cases hgt : m0 < cy
      · have H := Lib.hid (HBY.out hgt)
        go_wp2
        go_roundw
        case rel => exact ⟨k + 1, y + 1, by have := HY.out; omega, by omega, by go_num, by rw [H.out], by rw [H.out], hbf, hb6⟩
        case measure => simp [intOf]; omega
      · have H := Lib.hid (HBN.out (by omega))
        go_wp2
        go_roundw
        case rel => exact ⟨k + 1, y + 1, by have := HY.out; omega, by omega, by go_num, by rw [H.out], by rw [H.out], hbf, hb6⟩
        case measure => simp [intOf]; omega
    · have hkn : k = nY zs := by omega
      have hge : hiY zs < y := by omega
      have HE2 := Lib.hid (show mostR s zs = best (cY s zs) (loY zs) 0 k by rw [hkn]; exact HE.out)
      clear hy hkn hlt HO
      go_wp2
      go_ret3
      exact ⟨retIIBm (by rw [HE2.out]) (by rw [HE2.out]), hb⟩

set_option maxHeartbeats 4000000 in
set_option maxRecDepth 100000 in
theorem yearsMost_nogood (b off c : Nat) (s : ByteArray) (zs : List Int) (w : World) (hn : zs.length ≤ 1048576) (hbl : b < w.heap.size) (hI : Ints w b off zs) (hg : goodB zs 120 = false) :
    Calls Try.prog 23 #[.slice (some ⟨b, off, none⟩) zs.length c, .string s] w (RetIIB 0 0 false w) := by
  have HI := Lib.hid hI
  have HG := Lib.hid hg
  clear hI hg
  cases hk : isK s with
  | false =>
    have HK := Lib.hid hk
    clear hk
    go_enter Try.func23, Try.ntmps23
    go_wp2_with fail
    refine (marksFor_any _ _).mono ?_
    rw [HK.out]; rintro e w1 ⟨rfl, hb1⟩
    have HS := Lib.hid (blk_new w1 50 (pc pnone))
    have hba := hb1.alloc hb1.size (.cells (pc pnone) 50)
    have hsz1 := hb1.size
    go_wp2_with (first | (refine wpList_store_row rfl _ _ _ rfl _ 50 _ _ rfl rfl HS.out (sizeMarksOf _) (pc_sizes _ _) (pc_one _) ?_; intro w2 hV0 hg2 hsz2))
    have hV := Lib.hid hV0
    have hb2 : Below w.heap.size w w2 := hba.grown hg2 (by simp; omega) (by intro k hk; simp at hk; omega)
    have hVl : w1.heap.size < w2.heap.size := hV0.lt
    clear hV0 hg2 hsz2 hba
    refine (householdOf_nozero _ _ _ _ zs _ rfl hn (HI.out.kept hb2 hbl) (Nat.lt_of_lt_of_le hbl hb2.size) HG.out).mono ?_
    rintro e w3 ⟨rfl, hb3⟩
    have hb3' := hb2.trans (hb3.mono hb2.size)
    go_wp2_with fail
    go_ret3
    exact ⟨rfl, hb3'.alloc hb3'.size _⟩
  | true =>
    have HK := Lib.hid hk
    clear hk
    go_enter Try.func23, Try.ntmps23
    go_wp2_with fail
    refine (marksFor_any _ _).mono ?_
    rw [HK.out]; rintro e w1 ⟨rfl, hb1⟩
    have HS := Lib.hid (blk_new w1 50 (pc pnone))
    have hba := hb1.alloc hb1.size (.cells (pc pnone) 50)
    have hsz1 := hb1.size
    go_wp2_with (first | (refine wpList_store_row rfl _ _ _ rfl _ 50 _ _ rfl rfl HS.out (sizeMarksOf _) (pc_sizes _ _) (pc_one _) ?_; intro w2 hV0 hg2 hsz2))
    have hV := Lib.hid hV0
    have hb2 : Below w.heap.size w w2 := hba.grown hg2 (by simp; omega) (by intro k hk; simp at hk; omega)
    have hVl : w1.heap.size < w2.heap.size := hV0.lt
    clear hV0 hg2 hsz2 hba
    refine (householdOf_nozero _ _ _ _ zs _ rfl hn (HI.out.kept hb2 hbl) (Nat.lt_of_lt_of_le hbl hb2.size) HG.out).mono ?_
    rintro e w3 ⟨rfl, hb3⟩
    have hb3' := hb2.trans (hb3.mono hb2.size)
    go_wp2_with fail
    go_ret3
    exact ⟨rfl, hb3'.alloc hb3'.size _⟩
set_option maxHeartbeats 4000000 in
set_option maxRecDepth 100000 in
theorem yearsMost_nokind (b off c : Nat) (s : ByteArray) (zs : List Int) (w : World) (hn : zs.length ≤ 1048576) (hbl : b < w.heap.size) (hI : Ints w b off zs) (hg : goodB zs 120 = true) (hk : isK s = false) :
    Calls Try.prog 23 #[.slice (some ⟨b, off, none⟩) zs.length c, .string s] w (RetIIB 0 0 false w) := by
  have HI := Lib.hid hI
  have HK := Lib.hid hk
  clear hI hk
  go_enter Try.func23, Try.ntmps23
  go_wp2_with fail
  refine (marksFor_any _ _).mono ?_
  rw [HK.out]; rintro e w1 ⟨rfl, hb1⟩
  have HS := Lib.hid (blk_new w1 50 (pc pnone))
  have hba := hb1.alloc hb1.size (.cells (pc pnone) 50)
  have hsz1 := hb1.size
  go_wp2_with (first | (refine wpList_store_row rfl _ _ _ rfl _ 50 _ _ rfl rfl HS.out (sizeMarksOf _) (pc_sizes _ _) (pc_one _) ?_; intro w2 hV0 hg2 hsz2))
  have hV := Lib.hid hV0
  have hb2 : Below w.heap.size w w2 := hba.grown hg2 (by simp; omega) (by intro k hk; simp at hk; omega)
  have hVl : w1.heap.size < w2.heap.size := hV0.lt
  clear hV0 hg2 hsz2 hba
  refine (householdOf_zero _ _ _ _ zs _ rfl hn (HI.out.kept hb2 hbl) hg).mono ?_
  rintro e w3 ⟨g, hg3, rfl, hP, hgs, hb3⟩
  generalize zs.getD 0 0 = a
  have hb3' := hb2.trans (hb3.mono hb2.size)
  clear hP
  go_wp2_with fail
  go_ret3
  exact ⟨rfl, hb3'.alloc hb3'.size _⟩
theorem specMost_no (b off c : Nat) (s : ByteArray) (zs : List Int) (w : World) (hn : zs.length ≤ 1048576) (hI : Ints w b off zs) (h : (goodB zs 120 && isK s) = false) :
    Calls Try.prog 22 #[.slice (some ⟨b, off, none⟩) zs.length c, .string s] w (RetIIB 0 0 false w) := by
  go_enter Try.func22, Try.ntmps22
  go_wp2_with (first | (go_at_call 38; refine (kiBoth_any _ _ _ zs s _ hn hI).mono ?_; rintro e w' ⟨rfl, rfl⟩))
  go_ret3
  exact ⟨rfl, Below.refl _ _⟩
set_option maxHeartbeats 1000000 in
theorem specMost_yes (b off c : Nat) (s : ByteArray) (zs : List Int) (w : World) (hn : zs.length ≤ 1048576) (hI : Ints w b off zs) (hk : isK s = true) (hg : goodB zs 120 = true) :
    Calls Try.prog 22 #[.slice (some ⟨b, off, none⟩) zs.length c, .string s] w (RetIIB (mostR s zs).1 (mostR s zs).2 true w) := by
  have h8 := goodB_len hg
  have hbl := ints_lt hI (by omega)
  have hbd := loY_bd hg
  have hN : (nY zs : Int) = hiY zs - loY zs + 1 := by unfold nY; omega
  have hn241 : nY zs ≤ 241 := by omega
  have hn1 : 1 ≤ nY zs := by omega
  have HNN := Lib.hid hN
  have HI := Lib.hid hI
  have HZb := Lib.hid (goodB_at hg)
  have HF2 := Lib.hid (fun y (h1 : loY zs ≤ y) (h2 : y ≤ hiY zs) => fit_bd h1 h2)
  have HQc := Lib.hid (fun (W : World) (y : Int) (h1 : loY zs ≤ y) (h2 : y ≤ hiY zs) (hyb : -120 ≤ y ∧ y ≤ 120) (hb : Ints W b off zs) => (show Calls Try.prog 40 #[.slice (some ⟨b, off, none⟩) zs.length c, .int .i64 y, .string s] W (RetSame (.int .i64 (cY s zs y)) W) from kiCount_any b off c zs.length y zs s W rfl (by omega) hb hk (fun j hj => HF2.out y h1 h2 j hj) HZb.out hyb))
  have HCB := Lib.hid (cY_bd s zs h8.2)
  have HQ := Lib.hid (best_bd (c := cY s zs) (lo := loY zs) (m := -1) HCB.out (by omega))
  have HE : Hid (mostR s zs = best (cY s zs) (loY zs) (-1) (nY zs)) := Lib.hid (by
    unfold mostR
    obtain ⟨q, hq⟩ : ∃ q, nY zs = q + 1 := ⟨nY zs - 1, by omega⟩
    rw [hq]
    exact (best_same (fun y => (HCB.out y).1) q).symm)
  have hB : (goodB zs 120 && isK s) = true := by rw [hg, hk]; rfl
  go_enter Try.func22, Try.ntmps22
  go_wp2_with (first | (go_at_call 38; refine (kiBoth_any _ _ _ zs s _ hn hI).mono ?_; rintro e w' ⟨rfl, rfl⟩))
  clear hB
  refine (agRange_any _ _ _ _ zs _ rfl hI hg).mono ?_
  rintro e w1 ⟨rfl, hb⟩
  clear hg hk hI hN
  go_wp2_with fail
  go_loopw [9, 10, 11] (fun f m u wr => ∃ (k : Nat) (y : Int), y = loY zs + k ∧ k ≤ nY zs ∧ u = .int .i64 y ∧ f = .int .i64 (best (cY s zs) (loY zs) (-1) k).1 ∧ m = .int .i64 (best (cY s zs) (loY zs) (-1) k).2 ∧ Below w.heap.size w wr) (fun _ _ u _ => (121 - intOf u).toNat)
  case atStart => exact ⟨0, loY zs, by simp, Nat.zero_le _, rfl, rfl, rfl, hb⟩
  case round =>
    obtain ⟨k, y, hy, hk, rfl, rfl, rfl, hbr⟩ := hrel
    have hbm := HQ.out k
    have hNo := HNN.out
    by_cases hlt : k < nY zs
    · have hy1 : loY zs ≤ y := by omega
      have hy2 : y ≤ hiY zs := by omega
      have HY := Lib.hid hy
      have hyb : -120 ≤ y ∧ y ≤ 120 := by omega
      have hc8 := HCB.out y
      clear hy hNo
      have HBY := Lib.hid (fun h => best_yes (c := cY s zs) (lo := loY zs) (m := -1) (k := k) h)
      have HBN := Lib.hid (fun h => best_no (c := cY s zs) (lo := loY zs) (m := -1) (k := k) h)
      rw [← HY.out] at HBY HBN
      have HCy := Lib.hid (HQc.out wr y hy1 hy2 hyb (HI.out.kept hbr hbl))
      generalize best (cY s zs) (loY zs) (-1) k = bk at *
      obtain ⟨f0, m0⟩ := bk
      dsimp only at *
      generalize cY s zs y = cy at *
      by_cases hgt : m0 < cy
      · have H := Lib.hid (HBY.out hgt)
        go_wp2_with (first | (go_at_call 40; refine HCy.out.mono ?_; rintro e w' ⟨rfl, rfl⟩))
        go_roundw
        case rel => exact ⟨k + 1, y + 1, by have := HY.out; omega, by omega, by go_num, by rw [H.out], by rw [H.out], hbr⟩
        case measure => simp [intOf]; omega
      · have H := Lib.hid (HBN.out (by omega))
        go_wp2_with (first | (go_at_call 40; refine HCy.out.mono ?_; rintro e w' ⟨rfl, rfl⟩))
        go_roundw
        case rel => exact ⟨k + 1, y + 1, by have := HY.out; omega, by omega, by go_num, by rw [H.out], by rw [H.out], hbr⟩
        case measure => simp [intOf]; omega
    · have hkn : k = nY zs := by omega
      have hge : hiY zs < y := by omega
      have HE2 := Lib.hid (show mostR s zs = best (cY s zs) (loY zs) (-1) k by rw [hkn]; exact HE.out)
      clear hy hkn hlt hNo
      go_wp2
      go_ret3
      exact ⟨retIIBm (by rw [HE2.out]) (by rw [HE2.out]), hbr⟩
theorem yearsMost_both (zs : List Int) (s : ByteArray) : ∃ r1 r2 ok,
    (∀ b c w, zs.length ≤ 1048576 → b < w.heap.size → Ints w b 0 zs → Calls Try.prog 22 #[.slice (some ⟨b, 0, none⟩) zs.length c, .string s] w (RetIIB r1 r2 ok w)) ∧
    (∀ b c w, zs.length ≤ 1048576 → b < w.heap.size → Ints w b 0 zs → Calls Try.prog 23 #[.slice (some ⟨b, 0, none⟩) zs.length c, .string s] w (RetIIB r1 r2 ok w)) := by
  cases hg : goodB zs 120 with
  | false => exact ⟨0, 0, false, fun b c w hn hbl hI => specMost_no _ _ _ _ _ _ hn hI (by rw [hg]; rfl), fun b c w hn hbl hI => yearsMost_nogood _ _ _ _ _ _ hn hbl hI hg⟩
  | true =>
    cases hk : isK s with
    | false => exact ⟨0, 0, false, fun b c w hn hbl hI => specMost_no _ _ _ _ _ _ hn hI (by rw [hg, hk]; rfl), fun b c w hn hbl hI => yearsMost_nokind _ _ _ _ _ _ hn hbl hI hg hk⟩
    | true => exact ⟨_, _, true, fun b c w hn hbl hI => specMost_yes _ _ _ _ _ _ hn hI hk hg, fun b c w hn hbl hI => yearsMost_yes _ _ _ _ _ _ hn hI hk hg⟩
end Go.Proofs.Ytjabghojenhhiaa
