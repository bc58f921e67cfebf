/- GenerationsOf: the program's text; both texts. -/
import Derived.Test.YthmcimdnbapnhaaGs1
import Derived.Maps.AppendAt
set_option linter.unusedVariables false
set_option linter.unusedSimpArgs false
namespace Go.Proofs.Ythmcimdnbapnhaa
open Go.RowKit

theorem getD_set_eq {α : Type} (l : List α) (i : Nat) (x d : α) (h : i < l.length) : (l.set i x).getD i d = x := by
  simp [List.getElem?_set_self h]
theorem getD_set_ne {α : Type} (l : List α) (i j : Nat) (x d : α) (h : i ≠ j) : (l.set i x).getD j d = l.getD j d := by
  simp [List.getElem?_set_ne h]
/-- One row is another, in a block of its own or where it lay. -/
theorem OwnSS.setRow {B U : Nat} {w w1 : World} {g n c : Nat} {v' : Value} {vs : List Value} {rss : List (List Int)} {r : List Int} {A : Obj} (h : OwnSS B U w (.slice (some ⟨g, 0, none⟩) n c) vs rss) (hU : U ≤ w.heap.size)
    (i : Nat) (hi : i < rss.length) (hr : Own B w1 v' r) (hg : (w.alloc A).grownBy w1 (vs.getD i (.slice none 0 0)).ownBlock)
    (hb : v'.ownBlock = (vs.getD i (.slice none 0 0)).ownBlock ∨ v'.ownBlock = some (w.heap.size + 1)) :
    OwnSS B (w1.setCell ⟨g, i, none⟩ v').heap.size (w1.setCell ⟨g, i, none⟩ v') (.slice (some ⟨g, 0, none⟩) n c) (vs.set i v') (rss.set i r) := by
  have hl := h.len
  have hgU := h.obl g rfl
  have hsz : w.heap.size + 1 ≤ w1.heap.size := by have := hg.size; simp at this; omega
  have hsA : (w.alloc A).heap.size = w.heap.size + 1 := by simp
  have hout : w1.ownsRow B 37 1 (.slice (some ⟨g, 0, none⟩) n c) vs.length vs :=
    World.ownsRow.kept (World.ownsRow.alloc h.outer A) hg (.inr (fun e => by
      have e2 : (vs.getD i (.slice none 0 0)).ownBlock = some g := e.symm
      exact h.outer_ne i hi g e2 rfl))
  have hn : n = vs.length := by
    rcases hout.2 with ⟨e, _⟩ | ⟨g1, cap, cur, e, _⟩
    · simp at e
    · simp only [Value.slice.injEq] at e; exact e.2.1
  subst hn
  have hst := World.ownsRow.stored hout i v'
  have hs2 := hst.2.size
  have hrne : ∀ j, j < rss.length → ∀ q, (vs.getD j (.slice none 0 0)).ownBlock = some q → q ≠ g := fun j hj q e e2 => by
    subst e2; exact h.outer_ne j hj q e rfl
  have hvne : ∀ q, v'.ownBlock = some q → q ≠ g := fun q e e2 => by
    rcases hb with hb | hb
    · rw [hb] at e; exact hrne i hi q e e2
    · rw [hb] at e; simp at e; omega
  have hold : ∀ j, j < rss.length → i ≠ j → Own B (w1.setCell ⟨g, i, none⟩ v') (vs.getD j (.slice none 0 0)) (rss.getD j []) := fun j hj hij => by
    have h1 : Own B w1 (vs.getD j (.slice none 0 0)) (rss.getD j []) := by
      refine World.ownsRow.kept (World.ownsRow.alloc (h.row j hj) A) hg ?_
      cases e : (vs.getD j (.slice none 0 0)).ownBlock with
      | none => exact .inl rfl
      | some q => exact .inr (fun e2 => h.apart j i hj hi (Ne.symm hij) q e e2.symm)
    refine World.ownsRow.kept h1 hst.2 ?_
    cases e : (vs.getD j (.slice none 0 0)).ownBlock with
    | none => exact .inl rfl
    | some q => exact .inr (fun e2 => hrne j hj q e (by simpa using e2))
  have hnew : Own B (w1.setCell ⟨g, i, none⟩ v') v' r := by
    refine World.ownsRow.kept hr hst.2 ?_
    cases e : v'.ownBlock with
    | none => exact .inl rfl
    | some q => exact .inr (fun e2 => hvne q e (by simpa using e2))
  refine ⟨by simp [hl], ?_, fun q e => ?_, fun j hj => ?_, fun j hj q e => ?_, fun a b ha hb' hab q e => ?_⟩
  · rw [List.length_set]; exact hst.1
  · simp [Value.ownBlock] at e; omega
  · rw [List.length_set] at hj
    by_cases hij : i = j
    · subst hij
      rw [getD_set_eq _ _ _ _ (by omega), getD_set_eq _ _ _ _ hj]; exact hnew
    · rw [getD_set_ne _ _ _ _ _ hij, getD_set_ne _ _ _ _ _ hij]; exact hold j hj hij
  · rw [List.length_set] at hj
    by_cases hij : i = j
    · subst hij
      rw [getD_set_eq _ _ _ _ (by omega)] at e
      have := (World.ownsRow.lt hr q e).2; omega
    · rw [getD_set_ne _ _ _ _ _ hij] at e
      have := h.rbl j hj q e; omega
  · rw [List.length_set] at ha hb'
    by_cases hia : i = a
    · subst hia
      rw [getD_set_eq _ _ _ _ (by omega)] at e
      rw [getD_set_ne _ _ _ _ _ hab]
      intro e2
      rcases hb with hb | hb
      · rw [hb] at e; exact h.apart i b ha hb' hab q e e2
      · rw [hb] at e
        have := h.rbl b hb' q e2
        simp at e; omega
    · rw [getD_set_ne _ _ _ _ _ hia] at e
      by_cases hib : i = b
      · subst hib
        rw [getD_set_eq _ _ _ _ (by omega)]
        intro e2
        rcases hb with hb | hb
        · rw [hb] at e2; exact h.apart a i ha hb' hab q e e2
        · rw [hb] at e2
          have := h.rbl a ha q e
          simp at e2; omega
      · rw [getD_set_ne _ _ _ _ _ hib]
        exact h.apart a b ha hb' hab q e
theorem genTo_step {gs : List Int} {k i m : Nat} (hq : gs.getD k 0 = (i : Int)) (hi : i < m) : genTo gs (k + 1) m = (genTo gs k m).set i (genRow gs i k ++ [(k : Int)]) := by
  apply List.ext_getElem?
  intro j
  by_cases hij : i = j
  · subst hij
    rw [List.getElem?_set_self (by rw [genTo_len]; exact hi)]
    simp [genTo, List.getElem?_range hi, genRow_yes hq]
  · rw [List.getElem?_set_ne hij]
    by_cases hj : j < m
    · have hne : ¬ gs.getD k 0 = (j : Int) := by omega
      simp only [genTo, List.getElem?_map, List.getElem?_range hj, Option.map_some, genRow_no hne]
    · rw [List.getElem?_eq_none (by rw [genTo_len]; omega), List.getElem?_eq_none (by rw [genTo_len]; omega)]
theorem mxG_new {gs : List Int} {k : Nat} (hq : gs.getD k 0 = (mxG gs k : Int)) : mxG gs (k + 1) = mxG gs k + 1 := by rw [mxG]; omega
theorem mxG_old {gs : List Int} {k i : Nat} (hq : gs.getD k 0 = (i : Int)) (hi : i < mxG gs k) : mxG gs (k + 1) = mxG gs k := by rw [mxG]; omega
theorem OwnSS.form {B U : Nat} {w : World} {v : Value} {vs : List Value} {rss : List (List Int)} (h : OwnSS B U w v vs rss) : ∃ a c, v = .slice a rss.length c := by
  rcases h.cases with ⟨rfl, rfl⟩ | ⟨g, c, rfl, _⟩
  · exact ⟨none, 0, rfl⟩
  · exact ⟨_, _, rfl⟩
/-- The slice of slices when a row has been written behind it. -/
theorem OwnSS.outerAt {B U : Nat} {w w1 : World} {g n c : Nat} {vs : List Value} {rss : List (List Int)} {A : Obj} (h : OwnSS B U w (.slice (some ⟨g, 0, none⟩) n c) vs rss)
    (i : Nat) (hi : i < rss.length) (hg : (w.alloc A).grownBy w1 (vs.getD i (.slice none 0 0)).ownBlock) : w1.ownsRow B 37 1 (.slice (some ⟨g, 0, none⟩) n c) vs.length vs :=
  World.ownsRow.kept (World.ownsRow.alloc h.outer A) hg (.inr (fun e => by
    have e2 : (vs.getD i (.slice none 0 0)).ownBlock = some g := e.symm
    exact h.outer_ne i hi g e2 rfl))
set_option maxHeartbeats 8000000 in
set_option maxRecDepth 100000 in
theorem imGens_any (fs : List Kn) (b c : Nat) (w : World) (hc : fs.length ≤ c) (hbl : b < w.heap.size) (hI : Kns w b 0 fs) :
    Calls Try.prog 35 #[.slice (some ⟨b, 0, none⟩) fs.length c] w (RetSSB (gensR fs) (famB fs) w) := by
  obtain ⟨i0, hi, hz0, hz1, hz2⟩ := info_parts infoInt
  obtain ⟨j0, gi, gz0, gz1, gz2⟩ := info_parts infoSlice
  unfold gensR
  cases hf : famB fs with
  | false =>
    rw [if_neg (by simp)]
    have HK := Lib.hid (kindred_no b fs.length c fs w rfl hc hbl hI hf)
    clear hI hf
    go_enter Try.func35, Try.ntmps35
    go_wp2_with (first | (go_at_call 67; refine HK.out.mono ?_; rintro e w1 ⟨rfl, hb1⟩; have hs1 := hb1.size) | (go_at_call 66; refine (gens_nil _).mono ?_; rintro e w2 ⟨g, hg, rfl, ho, hb2⟩; have hbw := hb1.trans (hb2.mono hs1)))
    go_rounds 1
    go_ret2
    exact ret_ss (ownSS_nil _ _ _) hbw
  | true =>
    rw [if_pos rfl]
    have HK := Lib.hid (kindred_yes b fs.length c fs w rfl hc hbl hI hf)
    have hn := famB_len hf
    have HGN := Lib.hid (fun (W : World) (g : Nat) (ho : OwnR fs w.heap.size W (.slice (some ⟨g, 0, none⟩) fs.length fs.length) (allN fs)) => gens_any fs g fs.length W hf ⟨ho.mono (Nat.zero_le _), hn.2⟩)
    have hgl := Lib.hid (genL_len fs fs.length)
    have HT := Lib.hid (genL_tight hf)
    have HM := Lib.hid (mxG_le (genL_tight hf))
    have HNI := Lib.hid (fun k (hk : k ≤ fs.length) => genRow_nil (genL_tight hf) (mxG (genL fs fs.length) k) k hk (Nat.le_refl _))
    clear hI hf
    have hn14 := hn.2
    generalize genL fs fs.length = gs at *
    go_enter Try.func35, Try.ntmps35
    go_wp2_with (first | (go_at_call 67; refine HK.out.mono ?_; rintro e w1 ⟨g, hg, rfl, ho1, hb1⟩; have hs1 := hb1.size) | (go_at_call 66; refine (HGN.out w1 g ho1).mono ?_; rintro e w3 ⟨q, hq, he, hog, hb3⟩; rw [hgl.out] at he hog; subst he; have hbw := hb1.trans (hb3.mono hs1); have HIX := Lib.hid hog.shape.2.2.2.2.1; have hql := hog.shape.2.2.1; clear hog))
    have hsz3 := hbw.size
    have HBW := Lib.hid hbw
    clear hbw ho1 HK HGN
    generalize fs.length = n at *
    go_loopw [6, 17] (fun v i wr => ∃ (k : Nat) (vs : List Value), k ≤ n ∧ i = .int .i64 (k : Int) ∧ Hid (OwnSS w3.heap.size wr.heap.size wr v vs (genTo gs k (mxG gs k))) ∧ Below w3.heap.size w3 wr) (fun _ i _ => n - (intOf i).toNat)
    case atStart => exact ⟨0, [], Nat.zero_le _, by go_num, Lib.hid (ownSS_nil _ _ _), Below.refl _ _⟩
    case round =>
      obtain ⟨k, vs, hk, rfl, HO, hb⟩ := hrel
      have hsz := hb.size
      by_cases hlt : k < n
      · have hc3 := (HIX.out.kept hb hql) k (by rw [hgl.out]; exact hlt)
        rw [Nat.zero_add] at hc3
        have hT := HT.out k hlt
        have hmk := HM.out k hk
        have hk0 : (0 : Int) ≤ (k : Int) := by omega
        have hk1 : (k : Int) < (n : Int) := by omega
        obtain ⟨i, hqi0⟩ : ∃ i : Nat, gs.getD k 0 = (i : Int) := ⟨(gs.getD k 0).toNat, by omega⟩
        have hqi := Lib.hid hqi0
        rw [hqi0] at hc3 hT
        have hil : i ≤ mxG gs k := by omega
        clear hqi0
        obtain ⟨a, cp, rfl⟩ := HO.out.form
        rw [genTo_len] at HO ⊢
        by_cases hnew : i = mxG gs k
        · have hmx := Lib.hid (mxG_new (gs := gs) (k := k) (by rw [hqi.out, hnew]))
          have hni := Lib.hid (HNI.out k hk)
          have HNX := Lib.hid (genTo_next gs k (mxG gs k))
          rw [hni.out] at HNX
          have HVL := Lib.hid (show vs.length = mxG gs k from by rw [HO.out.len, genTo_len])
          clear hni
          rw [← hnew] at hmx HNX HVL HO hT hmk hil ⊢
          clear hnew
          have hiM : i < i + 1 := by omega
          go_wp2_with (first | (at_builtin; refine wpList_append_own _ rfl _ _ 45 rfl w3.heap.size 37 j0 _ 1 24 Try.underlying45 gi gz0 gz1 gz2 rfl (by decide) _ _ _ rfl (World.ownsRow.alloc HO.out.outer _) ⟨wr.heap.size, 0, none⟩ 1 1 [.slice none 0 0] rfl rfl (newCell _ _ _) (oneSlice _ _ _) ?c3 ?c4 ?c5 ?_))
          case c3 => have := HVL.out; unfold maxLen; omega
          case c4 => have := HVL.out; omega
          case c5 => first | omega | (simp; omega)
          intro v4 w4 hown' hgrow _
          have hR8 := OwnSS.pushRow HO.out hsz (Nat.le_refl _) (own_nil _ _) (by first | exact hown' | (rw [HVL.out]; exact hown')) hgrow
          have hbW := (hb.alloc hsz _).grown hgrow (by simp; omega) (fun q hq => (World.ownsRow.lt HO.out.outer q hq).1)
          rw [← HNX.out] at hR8
          clear hown' hgrow HO HNX
          obtain ⟨vs8, hvs8⟩ : ∃ vs8, vs8 = vs ++ [Value.slice none 0 0] := ⟨_, rfl⟩
          rw [← hvs8] at hR8
          have HVS := Lib.hid (show vs8.length = i + 1 from by rw [hvs8, List.length_append, HVL.out]; rfl)
          clear hvs8
          obtain ⟨g2, cp2, he2, hcells⟩ : ∃ g2 cp2, v4 = .slice (some ⟨g2, 0, none⟩) (i + 1) cp2 ∧ ∀ j, j < (genTo gs k (i + 1)).length → w4.cell? ⟨g2, j, none⟩ = some (vs8.getD j (.slice none 0 0)) := by
            rcases hR8.cases with ⟨h1, h2⟩ | ⟨g2, c2, h1, h2⟩
            · have := genTo_len gs k (i + 1); rw [h2] at this; simp at this
            · rw [genTo_len] at h1; exact ⟨g2, c2, h1, h2⟩
          subst he2
          have HR8 := Lib.hid hR8
          have hi14 : (genRow gs i k).length ≤ 14 := by have := genRow_len gs i k; omega
          have hrow := hR8.row i (by rw [genTo_len]; exact hiM)
          rw [genTo_at _ _ _ _ hiM] at hrow
          have HOUT := Lib.hid (fun (w5 : World) (A : Obj) (hg : (w4.alloc A).grownBy w5 (vs8.getD i (.slice none 0 0)).ownBlock) => hR8.outerAt i (by rw [genTo_len]; exact hiM) hg)
          have HSET := Lib.hid (fun (w5 : World) (A : Obj) (v' : Value) (r : List Int) (hr : Own w3.heap.size w5 v' r) (hg : (w4.alloc A).grownBy w5 (vs8.getD i (.slice none 0 0)).ownBlock) (hb : v'.ownBlock = (vs8.getD i (.slice none 0 0)).ownBlock ∨ v'.ownBlock = some (w4.heap.size + 1)) => hR8.setRow (Nat.le_refl _) i (by rw [genTo_len]; exact hiM) hr hg hb)
          have hg2 := World.ownsRow.lt hR8.outer g2 rfl
          have hcel := hcells i (by rw [genTo_len]; exact hiM)
          obtain ⟨pi, ci, hpi⟩ := own_shapeG hrow
          rw [hpi] at hcel hrow HOUT HSET
          have HSTEP := Lib.hid (genTo_step (gs := gs) (k := k) (i := i) (m := i + 1) hqi.out hiM)
          have hi0 : (0 : Int) ≤ (i : Int) := by omega
          have hi1 : (i : Int) < ((i + 1 : Nat) : Int) := by omega
          have HROW := Lib.hid hrow
          have HCO := Lib.hid hcells
          clear hR8 hcells hrow hpi
          generalize hrr : genRow gs i k = rr at *
          clear hrr
          go_wp2_with (first | (at_builtin; refine wpList_append_own_at _ rfl _ _ 37 rfl w3.heap.size 3 i0 (.int .i64 0) 1 8 Try.underlying37 hi hz0 hz1 hz2 rfl (by decide) _ _ _ rfl (World.ownsRow.alloc HROW.out _) ⟨w4.heap.size, 0, none⟩ 1 1 [.int .i64 (k : Int)] rfl rfl (newCell _ _ _) (oneInt _) ?d3 ?d4 ?d5 ?_))
          case d3 => unfold maxLen; omega
          case d4 => omega
          case d5 => first | (simp; omega) | (have := hbW.size; simp at *; omega)
          intro v5 w5 hown5 hgr5 _ hblk5
          have ho5 := own_push hown5
          obtain ⟨p5, c5, rfl⟩ : ∃ p c, v5 = .slice p (rr.length + 1) c := by
            obtain ⟨p, c, h⟩ := own_shapeG ho5
            exact ⟨p, c, by rw [h]; simp⟩
          have hout5 := HOUT.out w5 _ hgr5
          have hvl := HVS.out
          rw [hvl] at hout5
          obtain ⟨x5, hcel5⟩ : ∃ x, w5.cell? ⟨g2, i, none⟩ = some x := ⟨_, (World.ownsRow.cellAt hout5 i (by omega)).trans (List.getElem?_eq_getElem (by omega))⟩
          clear hvl
          have hfr5 := World.ownsRow.frozenAt hout5 i
          have hset := HSET.out w5 _ _ _ ho5 hgr5 hblk5
          have hbF := (((hbW.alloc hbW.size _).grown hgr5 (by have := hbW.size; simp; omega) (fun q hq => (World.ownsRow.lt HROW.out q hq).1)).setCell (p := ⟨g2, i, none⟩) hg2.1 (.slice p5 (rr.length + 1) c5))
          rw [← HSTEP.out] at hset
          have HSE := Lib.hid hset
          clear hset hown5 hgr5 hblk5 ho5 hout5
          go_wp2_with fail
          go_roundw
          case rel => exact ⟨k + 1, _, by omega, by go_num, by rw [hmx.out]; exact HSE, hbF⟩
          case measure => simp [intOf]; omega
        · have hmx := Lib.hid (mxG_old (gs := gs) (k := k) hqi.out (by omega))
          have hiM : i < mxG gs k := by omega
          have hne : ¬ (i : Int) = (mxG gs k : Int) := by omega
          obtain ⟨g2, he2, hcells⟩ : ∃ g2, a = some ⟨g2, 0, none⟩ ∧ ∀ j, j < (genTo gs k (mxG gs k)).length → wr.cell? ⟨g2, j, none⟩ = some (vs.getD j (.slice none 0 0)) := by
            rcases HO.out.cases with ⟨h1, h2⟩ | ⟨g2, c2, h1, h2⟩
            · have := genTo_len gs k (mxG gs k); rw [h2] at this; simp at this; omega
            · simp only [Value.slice.injEq] at h1; exact ⟨g2, h1.1, h2⟩
          subst he2
          have hR8 := HO.out
          have hbW := hb
          have HVS := Lib.hid (show vs.length = mxG gs k from by rw [hR8.len, genTo_len])
          obtain ⟨vs8, hvs8⟩ : ∃ vs8, vs8 = vs := ⟨_, rfl⟩
          subst hvs8
          have HR8 := Lib.hid hR8
          have hi14 : (genRow gs i k).length ≤ 14 := by have := genRow_len gs i k; omega
          have hrow := hR8.row i (by rw [genTo_len]; exact hiM)
          rw [genTo_at _ _ _ _ hiM] at hrow
          have HOUT := Lib.hid (fun (w5 : World) (A : Obj) (hg : (wr.alloc A).grownBy w5 (vs8.getD i (.slice none 0 0)).ownBlock) => hR8.outerAt i (by rw [genTo_len]; exact hiM) hg)
          have HSET := Lib.hid (fun (w5 : World) (A : Obj) (v' : Value) (r : List Int) (hr : Own w3.heap.size w5 v' r) (hg : (wr.alloc A).grownBy w5 (vs8.getD i (.slice none 0 0)).ownBlock) (hb : v'.ownBlock = (vs8.getD i (.slice none 0 0)).ownBlock ∨ v'.ownBlock = some (wr.heap.size + 1)) => hR8.setRow (Nat.le_refl _) i (by rw [genTo_len]; exact hiM) hr hg hb)
          have hg2 := World.ownsRow.lt hR8.outer g2 rfl
          have hcel := hcells i (by rw [genTo_len]; exact hiM)
          obtain ⟨pi, ci, hpi⟩ := own_shapeG hrow
          rw [hpi] at hcel hrow HOUT HSET
          have HSTEP := Lib.hid (genTo_step (gs := gs) (k := k) (i := i) (m := mxG gs k) hqi.out hiM)
          have hi0 : (0 : Int) ≤ (i : Int) := by omega
          have hi1 : (i : Int) < ((mxG gs k : Nat) : Int) := by omega
          have HROW := Lib.hid hrow
          have HCO := Lib.hid hcells
          clear hR8 hcells hrow hpi
          generalize hrr : genRow gs i k = rr at *
          clear hrr
          go_wp2_with (first | (at_builtin; refine wpList_append_own_at _ rfl _ _ 37 rfl w3.heap.size 3 i0 (.int .i64 0) 1 8 Try.underlying37 hi hz0 hz1 hz2 rfl (by decide) _ _ _ rfl (World.ownsRow.alloc HROW.out _) ⟨wr.heap.size, 0, none⟩ 1 1 [.int .i64 (k : Int)] rfl rfl (newCell _ _ _) (oneInt _) ?d3 ?d4 ?d5 ?_))
          case d3 => unfold maxLen; omega
          case d4 => omega
          case d5 => first | (simp; omega) | (have := hbW.size; simp at *; omega)
          intro v5 w5 hown5 hgr5 _ hblk5
          have ho5 := own_push hown5
          obtain ⟨p5, c5, rfl⟩ : ∃ p c, v5 = .slice p (rr.length + 1) c := by
            obtain ⟨p, c, h⟩ := own_shapeG ho5
            exact ⟨p, c, by rw [h]; simp⟩
          have hout5 := HOUT.out w5 _ hgr5
          have hvl := HVS.out
          rw [hvl] at hout5
          obtain ⟨x5, hcel5⟩ : ∃ x, w5.cell? ⟨g2, i, none⟩ = some x := ⟨_, (World.ownsRow.cellAt hout5 i (by omega)).trans (List.getElem?_eq_getElem (by omega))⟩
          clear hvl
          have hfr5 := World.ownsRow.frozenAt hout5 i
          have hset := HSET.out w5 _ _ _ ho5 hgr5 hblk5
          have hbF := (((hbW.alloc hbW.size _).grown hgr5 (by have := hbW.size; simp; omega) (fun q hq => (World.ownsRow.lt HROW.out q hq).1)).setCell (p := ⟨g2, i, none⟩) hg2.1 (.slice p5 (rr.length + 1) c5))
          rw [← HSTEP.out] at hset
          have HSE := Lib.hid hset
          clear hset hown5 hgr5 hblk5 ho5 hout5
          go_wp2_with fail
          go_roundw
          case rel => exact ⟨k + 1, _, by omega, by go_num, by rw [hmx.out]; exact HSE, hbF⟩
          case measure => simp [intOf]; omega
      · have hkn : k = n := by omega
        have hd1 : ¬ (k : Int) < (n : Int) := by omega
        have HF := Lib.hid (HO.out.mono hsz3)
        rw [hkn] at HF
        clear hkn HO
        go_wp2_with fail
        go_ret2
        exact ret_ss HF.out (HBW.out.trans (hb.mono hsz3))
theorem gens_both (ds : List Kn) : ∃ rss ok, Small rss ∧
    (∀ b c w, ds.length ≤ 1048576 → ds.length ≤ c → b < w.heap.size → Kns w b 0 ds → Calls Try.prog 34 #[.slice (some ⟨b, 0, none⟩) ds.length c] w (RetSSB rss ok w)) ∧
    (∀ b c w, ds.length ≤ 1048576 → ds.length ≤ c → b < w.heap.size → Kns w b 0 ds → Calls Try.prog 35 #[.slice (some ⟨b, 0, none⟩) ds.length c] w (RetSSB rss ok w)) :=
  ⟨_, _, gensR_small ds, fun b c w _ hc hb hI => spGens_any ds b c w hc hb hI, fun b c w _ hc hb hI => imGens_any ds b c w hc hb hI⟩
end Go.Proofs.Ythmcimdnbapnhaa
