/- GenerationsOf: what it is; the model's text. -/
import Derived.Test.YthmcimdnbapnhaaGo1
import Derived.Test.YthmcimdnbapnhaaYp1
import Derived.Test.YthmcimdnbapnhaaRowsHelp
import Derived.Test.YthmcimdnbapnhaaRowsAdd
set_option linter.unusedVariables false
set_option linter.unusedSimpArgs false
namespace Go.Proofs.Ythmcimdnbapnhaa
open Go.RowKit

/-- How many generations the first k have. -/
def mxG (gs : List Int) : Nat → Nat
  | 0 => 0
  | k + 1 => max (mxG gs k) ((gs.getD k 0).toNat + 1)
/-- Who of the first k are of generation g. -/
def genRow (gs : List Int) (g : Nat) : Nat → List Int
  | 0 => []
  | k + 1 => if gs.getD k 0 = (g : Int) then genRow gs g k ++ [(k : Int)] else genRow gs g k
theorem genRow_yes {gs : List Int} {g k : Nat} (h : gs.getD k 0 = (g : Int)) : genRow gs g (k + 1) = genRow gs g k ++ [(k : Int)] := by rw [genRow, if_pos h]
theorem genRow_no {gs : List Int} {g k : Nat} (h : ¬ gs.getD k 0 = (g : Int)) : genRow gs g (k + 1) = genRow gs g k := by rw [genRow, if_neg h]
theorem genRow_len (gs : List Int) (g : Nat) : ∀ k, (genRow gs g k).length ≤ k := by
  intro k
  induction k with
  | zero => simp [genRow]
  | succ k ih =>
    rw [genRow]
    split
    · rw [List.length_append]; simp; omega
    · omega
/-- No generation is left out. -/
def Tight (gs : List Int) (n : Nat) : Prop := ∀ k, k < n → 0 ≤ gs.getD k 0 ∧ gs.getD k 0 ≤ (mxG gs k : Int)
theorem mxG_le {gs : List Int} {n : Nat} (h : Tight gs n) : ∀ k, k ≤ n → mxG gs k ≤ k := by
  intro k
  induction k with
  | zero => intro _; exact Nat.le_refl _
  | succ k ih => intro hk; have h1 := ih (by omega); have h2 := h k (by omega); rw [mxG]; omega
theorem genRow_ne {gs : List Int} {n : Nat} (h : Tight gs n) (g : Nat) : ∀ k, k ≤ n → g < mxG gs k → 0 < (genRow gs g k).length := by
  intro k
  induction k with
  | zero => intro _ hg; simp [mxG] at hg
  | succ k ih =>
    intro hk hg
    have h2 := h k (by omega)
    rw [mxG] at hg
    rw [genRow]
    split
    · simp
    · exact ih (by omega) (by omega)
theorem genRow_nil {gs : List Int} {n : Nat} (h : Tight gs n) (g : Nat) : ∀ k, k ≤ n → mxG gs k ≤ g → genRow gs g k = [] := by
  intro k
  induction k with
  | zero => intro _ _; rfl
  | succ k ih =>
    intro hk hg
    have h2 := h k (by omega)
    rw [mxG] at hg
    rw [genRow_no (by omega)]
    exact ih (by omega) (by omega)
/-- The first m generations of the first k. -/
def genTo (gs : List Int) (k m : Nat) : List (List Int) := (List.range m).map (fun g => genRow gs g k)
theorem genTo_len (gs : List Int) (k m : Nat) : (genTo gs k m).length = m := by simp [genTo]
theorem genTo_at (gs : List Int) (k m g : Nat) (hg : g < m) : (genTo gs k m).getD g [] = genRow gs g k := by
  simp [genTo, List.getElem?_range hg]
theorem genTo_next (gs : List Int) (k m : Nat) : genTo gs k (m + 1) = genTo gs k m ++ [genRow gs m k] := by
  simp [genTo, List.range_succ]
theorem genTo_small (gs : List Int) (k m : Nat) (hk : k ≤ 14) (hm : m ≤ 14) : Small (genTo gs k m) := by
  refine ⟨by rw [genTo_len]; omega, fun i hi => ?_⟩
  rw [genTo_len] at hi
  rw [genTo_at _ _ _ _ hi]
  have := genRow_len gs i k
  omega
theorem genL_pre (fs : List Kn) (p : Nat) : ∀ n, p < n → (genL fs n).getD p 0 = (genL fs (p + 1)).getD p 0 := by
  intro n
  induction n with
  | zero => intro h; omega
  | succ n ih =>
    intro h
    by_cases hp : p = n
    · subst hp; rfl
    · rw [← ih (by omega)]
      rw [genL, List.getD_eq_getElem?_getD, List.getElem?_append_left (by rw [genL_len]; omega), ← List.getD_eq_getElem?_getD]
theorem genL_last (fs : List Kn) (k : Nat) : (genL fs (k + 1)).getD k 0 = gmax (genL fs k) (parN fs k) (parN fs k).length := by
  have hl := genL_len fs k
  rw [genL, List.getD_eq_getElem?_getD, List.getElem?_append_right (by omega), hl, Nat.sub_self]
  rfl
theorem mxG_above (gs : List Int) (p : Nat) : ∀ k, p < k → gs.getD p 0 + 1 ≤ (mxG gs k : Int) := by
  intro k
  induction k with
  | zero => intro h; omega
  | succ k ih =>
    intro h
    rw [mxG]
    by_cases hp : p = k
    · subst hp; omega
    · have := ih (by omega); omega
theorem genL_tight {fs : List Kn} (hf : famB fs = true) : Tight (genL fs fs.length) fs.length := by
  intro k hk
  refine ⟨(genL_bd fs fs.length k).1, ?_⟩
  rw [genL_pre fs k fs.length hk, genL_last]
  have key : ∀ j, j ≤ (parN fs k).length → gmax (genL fs k) (parN fs k) j ≤ (mxG (genL fs fs.length) k : Int) := by
    intro j
    induction j with
    | zero => intro _; simp [gmax]
    | succ j ih =>
      intro hj
      have hp := parN_before hf hk (mem_getD2 (show j < (parN fs k).length by omega))
      rw [gmax]
      generalize (parN fs k).getD j 0 = p at hp ⊢
      have h2 := mxG_above (genL fs fs.length) p k hp
      rw [genL_pre fs p fs.length (by omega), ← genL_pre fs p k hp] at h2
      have h1 := ih (by omega)
      omega
  exact key _ (Nat.le_refl _)
def gensR (fs : List Kn) : List (List Int) := if famB fs = true then genTo (genL fs fs.length) fs.length (mxG (genL fs fs.length) fs.length) else []
theorem gensR_small (fs : List Kn) : Small (gensR fs) := by
  unfold gensR
  cases hf : famB fs with
  | false => rw [if_neg (by simp)]; exact ⟨by simp, by simp⟩
  | true =>
    rw [if_pos rfl]
    have h1 := mxG_le (genL_tight hf) fs.length (Nat.le_refl _)
    have h2 := famB_len hf
    exact genTo_small _ _ _ h2.2 (by omega)
theorem OwnSS.mono {B B' U U' : Nat} {w : World} {v : Value} {vs : List Value} {rss : List (List Int)} (h : OwnSS B U w v vs rss) (hB : B' ≤ B) (hU : U ≤ U' := by exact Nat.le_refl _) : OwnSS B' U' w v vs rss := by
  refine ⟨h.len, ?_, fun g hg => Nat.lt_of_lt_of_le (h.obl g hg) hU, fun i hi => Own.mono (h.row i hi) hB, fun i hi g hg => Nat.lt_of_lt_of_le (h.rbl i hi g hg) hU, h.apart⟩
  obtain ⟨h1, h2⟩ := h.outer
  refine ⟨h1, ?_⟩
  rcases h2 with h2 | ⟨g, cap, cur, hv, hg, r⟩
  · exact .inl h2
  · exact .inr ⟨g, cap, cur, hv, Nat.le_trans hB hg, r⟩
theorem ret_ss {rss : List (List Int)} {w w' : World} {v : Value} {vs : List Value} {t : Bool} (ho : OwnSS w.heap.size w'.heap.size w' v vs rss) (hb : Below w.heap.size w w') : RetSSB rss t w (.returned (.tuple #[v, .bool t])) w' :=
  ⟨v, vs, rfl, ho, hb⟩
theorem below_pushG {B : Nat} {w wr w1 : World} {v : Value} {zs : List Int} {o : Obj} (hb : Below B w wr) (hB : B ≤ wr.heap.size) (h : Own B wr v zs) (hg : (wr.alloc o).grownBy w1 v.ownBlock) : Below B w w1 :=
  (hb.alloc hB o).grown hg (by simp; omega) (fun q hq => (World.ownsRow.lt h q hq).1)
theorem own_shapeG {B : Nat} {w : World} {v : Value} {zs : List Int} (h : Own B w v zs) : ∃ p c, v = .slice p zs.length c := by
  rcases h.2 with ⟨rfl, h2⟩ | ⟨g, cap, cur, rfl, _, h3, _⟩
  · exact ⟨none, 0, by have : zs.length = 0 := h2; rw [this]⟩
  · exact ⟨_, _, rfl⟩
set_option maxHeartbeats 8000000 in
set_option maxRecDepth 100000 in
theorem spGens_any (fs : List Kn) (b c : Nat) (w : World) (hc : fs.length ≤ c) (hbl : b < w.heap.size) (hI : Kns w b 0 fs) :
    Calls Try.prog 34 #[.slice (some ⟨b, 0, none⟩) fs.length c] w (RetSSB (gensR fs) (famB fs) w) := by
  obtain ⟨i0, hi, hz0, hz1, hz2⟩ := info_parts infoInt
  obtain ⟨j0, gi, gz0, gz1, gz2⟩ := info_parts infoSlice
  have HG := Lib.hid (faGood_any b fs.length c fs w rfl hc hbl hI)
  unfold gensR
  cases hf : famB fs with
  | false =>
    rw [if_neg (by simp)]
    rw [hf] at HG
    clear hI hf
    go_enter Try.func34, Try.ntmps34
    go_wp2_with (go_at_call 51; refine HG.out.mono ?_; rintro e w1 ⟨rfl, hb1⟩)
    go_ret2
    exact ret_ss (ownSS_nil _ _ _) hb1
  | true =>
    rw [if_pos rfl]
    rw [hf] at HG
    have hn := famB_len hf
    have hF : Fm fs w b c := ⟨hI, hbl, hc, hn.2⟩
    have HFG := Lib.hid (fun (W : World) (hb : Below w.heap.size w W) => faGens_any fs b c W hf (hF.kept hb))
    have hgl := genL_len fs fs.length
    have HT := Lib.hid (genL_tight hf)
    have HM := Lib.hid (mxG_le (genL_tight hf) fs.length (Nat.le_refl _))
    have HNE := Lib.hid (fun g => genRow_ne (genL_tight hf) g fs.length (Nat.le_refl _))
    have HNI := Lib.hid (fun g => genRow_nil (genL_tight hf) g fs.length (Nat.le_refl _))
    clear hI hf hF
    have hn14 := hn.2
    generalize genL fs fs.length = gs at *
    generalize fs.length = n at *
    go_enter Try.func34, Try.ntmps34
    go_wp2_with (first | (go_at_call 51; refine HG.out.mono ?_; rintro e w1 ⟨rfl, hb1⟩; have hs1 := hb1.size) | (go_at_call 63; refine (HFG.out w1 hb1).mono ?_; rintro e w2 ⟨vg, rfl, hog, hb2⟩; obtain ⟨pg, cg, rfl⟩ := own_shapeG hog; have hbw := hb1.trans (hb2.mono hs1)))
    have hsz2 := hbw.size
    have HBW := Lib.hid hbw
    have HOG := Lib.hid (hog.mono (Nat.zero_le _))
    clear hbw hog hb2 HFG HG
    go_loopw [4, 6] (fun v i wr => ∃ (m : Nat) (vs : List Value), m ≤ mxG gs n ∧ i = .int .i64 (m : Int) ∧ OwnSS w2.heap.size wr.heap.size wr v vs (genTo gs n m) ∧ Below w2.heap.size w2 wr) (fun _ i _ => n - (intOf i).toNat)
    case atStart => exact ⟨0, [], Nat.zero_le _, by go_num, ownSS_nil _ _ _, Below.refl _ _⟩
    case round =>
      obtain ⟨m, vs, hm, rfl, ho, hb⟩ := hrel
      have hsz := hb.size
      have hml := genTo_len gs n m
      have hvl := ho.len
      rw [hml] at hvl
      have hmx := HM.out
      by_cases hlt : m < n
      · have hd1 : (m : Int) < (n : Int) := by omega
        have HO := Lib.hid ho
        clear ho
        have HD : Hid (∀ k, (genRow gs m k).length ≤ k) := Lib.hid (genRow_len gs m)
        have HY := Lib.hid (fun k => @genRow_yes gs m k)
        have HN := Lib.hid (fun k => @genRow_no gs m k)
        have HX := Lib.hid (genTo_next gs n m)
        have HGL := Lib.hid hgl
        go_wp2_with fail
        obtain ⟨wo, rfl⟩ : ∃ wo : World, wo = wr := ⟨_, rfl⟩
        go_loopw [7, 23] (fun s v wi => ∃ k : Nat, k ≤ n ∧ v = .int .i64 k ∧ Own wo.heap.size wi s (genRow gs m k) ∧ Below wo.heap.size wo wi) (fun _ v _ => n - (intOf v).toNat)
        case atStart => exact ⟨0, Nat.zero_le _, rfl, own_nil _ _, Below.refl _ _⟩
        case round =>
          obtain ⟨k, hk, rfl, ho, hbi⟩ := hrel
          have hszi := hbi.size
          have hbz := hb.trans (hbi.mono hsz)
          have hrl := HD.out k
          obtain ⟨pp, cc, rfl⟩ := own_shapeG ho
          by_cases hkn : k < n
          · have hk1 : (k : Int) < (n : Int) := by omega
            have hk0 : (0 : Int) ≤ (k : Int) := by omega
            have hog := HOG.out.kept hbz
            rcases hog.cases with ⟨_, hnil⟩ | ⟨g3, c3, he3, _, _, _, _, hI3, _⟩
            · have := HGL.out; rw [hnil] at this; simp at this; omega
            simp only [Value.slice.injEq] at he3
            obtain ⟨rfl, _, rfl⟩ := he3
            have hc3 := hI3 k (by rw [HGL.out]; exact hkn)
            rw [Nat.zero_add] at hc3
            have hyy := HY.out k
            have hnn := HN.out k
            clear hI3 hog
            generalize gs.getD k 0 = q at hc3 hyy hnn
            by_cases hday : q = (m : Int)
            · have HS := Lib.hid (hyy hday)
              subst hday
              clear hyy hnn
              have hm1 : (m : Int) = (m : Int) := rfl
              generalize hrr : genRow gs m k = rr at *
              clear hrr
              go_wp2_with (first | (at_builtin; refine wpList_append_own _ rfl _ _ 37 rfl wo.heap.size 3 i0 (.int .i64 0) 1 8 Try.underlying37 hi hz0 hz1 hz2 rfl (by decide) _ _ _ rfl (World.ownsRow.alloc ho _) ⟨wr.heap.size, 0, none⟩ 1 1 [.int .i64 (k : Int)] rfl rfl (newCell _ _ _) (oneInt _) ?c3 ?c4 ?c5 ?_))
              case c3 => unfold maxLen; omega
              case c4 => omega
              case c5 => first | omega | (simp; omega)
              intro v' w1 hown' hgrow _
              have hb1 := below_pushG hbi hszi ho hgrow
              have ho1 := own_push hown'
              rw [← HS.out] at ho1
              clear hown' hgrow
              go_wp2_with fail
              go_roundw
              case rel => exact ⟨k + 1, by omega, by go_num, ho1, hb1⟩
              case measure => simp [intOf]; omega
            · have HS := Lib.hid (hnn hday)
              clear hyy hnn
              go_wp2_with fail
              go_roundw
              case rel => exact ⟨k + 1, by omega, by go_num, by rw [HS.out]; exact ho, hbi⟩
              case measure => simp [intOf]; omega
          · have hkn2 : k = n := by omega
            subst hkn2
            have hoo := HO.out.keep (w' := wr) (fun q _ h2 => hbi.block q h2)
            by_cases hmm : m < mxG gs k
            · have hne := HNE.out m hmm
              have HS := Lib.hid HX.out
              have hl0 : ¬ ((genRow gs m k).length : Int) = 0 := by omega
              have HOO := Lib.hid hoo
              have hone := oneU ho
              have HVL := Lib.hid hvl
              clear hoo
              generalize hrr : genRow gs m k = rr at *
              clear hrr
              go_wp2_with (first | (at_builtin; refine wpList_append_own _ rfl _ _ 45 rfl w2.heap.size 37 j0 _ 1 24 Try.underlying45 gi gz0 gz1 gz2 rfl (by decide) _ _ _ rfl (World.ownsRow.alloc HOO.out.outer _) ⟨wr.heap.size, 0, none⟩ 1 1 [.slice pp rr.length cc] rfl rfl (newCell _ _ _) hone ?c3 ?c4 ?c5 ?_))
              case c3 => unfold maxLen; omega
              case c4 => omega
              case c5 => first | omega | (simp; omega)
              intro v' w1 hown' hgrow _
              have hp := OwnSS.pushRow HOO.out hsz hszi ho (by rw [HVL.out]; exact hown') hgrow
              rw [← HS.out] at hp
              have hb1 := (hbz.alloc hbz.size _).grown hgrow (by have := hbz.size; simp; omega) (fun q hq => (World.ownsRow.lt HOO.out.outer q hq).1)
              clear hown' hgrow
              go_wp2_with fail
              go_roundw
              case rel => exact ⟨m + 1, _, by omega, by go_num, hp, hb1⟩
              case measure => simp [intOf]; omega
            · have hni := HNI.out m (by omega)
              have hmn : m = mxG gs k := by omega
              have HE := Lib.hid (OwnSS.mono hoo hsz2 hszi)
              rw [show genTo gs k m = genTo gs k (mxG gs k) from by rw [← hmn]] at HE
              generalize genRow gs m k = rr at *
              subst hni
              clear hmn hoo
              go_wp2_with fail
              go_ret2
              exact ret_ss HE.out (HBW.out.trans (hbz.mono hsz2))
      · have hmn : m = mxG gs n := by omega
        have HO := Lib.hid ho
        clear ho
        have hd1 : ¬ (m : Int) < (n : Int) := by omega
        go_wp2_with fail
        go_ret2
        exact ret_ss (by rw [← hmn]; exact HO.out.mono hsz2) (HBW.out.trans (hb.mono hsz2))
end Go.Proofs.Ythmcimdnbapnhaa
