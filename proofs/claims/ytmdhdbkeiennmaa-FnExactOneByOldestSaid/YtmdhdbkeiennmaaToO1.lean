/- How many sets have an oldest or a youngest child (hasOneOldest); the sets that are told: the program's. -/
import Derived.Test.YtmdhdbkeiennmaaOp1
import Derived.Test.YtmdhdbkeiennmaaSi3
import Derived.Test.YtmdhdbkeiennmaaAmOT
set_option linter.unusedVariables false
set_option linter.unusedSimpArgs false
namespace Go.Proofs.Ytmdhdbkeiennmaa
open Go.RowKit

def bIO (r : List Int) : Int := if oldB r = true then 1 else 0
def cntFO : List (List Int) → Int
  | [] => 0
  | r :: l => bIO r + cntFO l
theorem bIO_bd (r : List Int) : 0 ≤ bIO r ∧ bIO r ≤ 1 := by unfold bIO; split <;> omega
theorem cntFO_append (s t : List (List Int)) : cntFO (s ++ t) = cntFO s + cntFO t := by
  induction s with
  | nil => simp [cntFO]
  | cons x s ih => simp [cntFO, ih, Int.add_assoc]
theorem cntFO_take (l : List (List Int)) (k : Nat) (hk : k < l.length) : cntFO (l.take (k + 1)) = cntFO (l.take k) + bIO (l.getD k []) := by
  rw [List.take_succ_eq_append_getElem hk, cntFO_append]
  simp [cntFO, List.getElem?_eq_getElem hk]
theorem cntFO_bd (l : List (List Int)) : 0 ≤ cntFO l ∧ cntFO l ≤ (l.length : Int) := by
  induction l with
  | nil => simp [cntFO]
  | cons r l ih =>
    have := bIO_bd r
    simp only [cntFO, List.length_cons]; omega
set_option maxHeartbeats 1600000 in
theorem countRowO_any (g c qh : Nat) (r : List Int) (w : World) (hk : Kids r) (h1 : 1 ≤ r.length) (hg : g < w.heap.size) (hI : Ints w g 0 r) (hq : w.cell? ⟨qh, 0, none⟩ = some (.func (.func 58) #[] #[])) :
    Calls Try.prog 84 #[.slice (some ⟨g, 0, none⟩) r.length c, .pointer (some ⟨qh, 0, none⟩)] w (Ret (.int .i64 (bIO r)) w) := by
  have HE := Lib.hid (imOld_any g r.length c r w rfl h1 hk.1 hg hI)
  unfold bIO
  clear hI
  cases h : oldB r with
  | true =>
    rw [h] at HE
    rw [if_pos rfl]
    clear h
    go_enter Try.func84, Try.ntmps84
    go_wp2_with (go_at_call 58; refine HE.out.mono ?_; rintro e w' ⟨rfl, hb⟩)
    go_ret
    exact ⟨rfl, hb⟩
  | false =>
    rw [h] at HE
    rw [if_neg (by simp)]
    clear h
    go_enter Try.func84, Try.ntmps84
    go_wp2_with (go_at_call 58; refine HE.out.mono ?_; rintro e w' ⟨rfl, hb⟩)
    go_ret
    exact ⟨rfl, hb⟩
set_option maxHeartbeats 4000000 in
set_option maxRecDepth 100000 in
theorem sumRowsO_some (qh B U go n c : Nat) (vs : List Value) (rss : List (List Int)) (w : World) (hl : rss.length = n) (hO : OwnSS B U w (.slice (some ⟨go, 0, none⟩) n c) vs rss) (hU : U ≤ w.heap.size) (hF : FamA rss) (hcell : ∀ i, i < n → w.cell? ⟨go, i, none⟩ = some (vs.getD i (.slice none 0 0))) (hq : w.cell? ⟨qh, 0, none⟩ = some (.func (.func 58) #[] #[])) :
    Calls Try.prog 83 #[.slice (some ⟨go, 0, none⟩) n c, .func (.func 84) #[] #[.pointer (some ⟨qh, 0, none⟩)]] w (Ret (.int .i64 (cntFO rss)) w) := by
  have HO := Lib.hid hO
  have HF := Lib.hid hF
  have HL := Lib.hid hl
  have HCell := Lib.hid hcell
  have HQ := Lib.hid hq
  have hn : n ≤ 160000 := by have := hF.1; omega
  have HK := Lib.hid (fun k => cntFO_bd (rss.take k))
  have HT := Lib.hid (fun k h => cntFO_take rss k h)
  have HE := Lib.hid (show cntFO (rss.take n) = cntFO rss by rw [← hl, List.take_length])
  clear hO hF hl hcell hq
  go_enter Try.func83, Try.ntmps83
  go_wp2
  go_loopw [5, 10] (fun s v wr => ∃ k : Nat, k ≤ n ∧ v = .int .i64 k ∧ s = .int .i64 (cntFO (rss.take k)) ∧ Below w.heap.size w wr) (fun _ v _ => n - (intOf v).toNat)
  case atStart => exact ⟨0, Nat.zero_le _, rfl, rfl, Below.refl _ _⟩
  case round =>
    obtain ⟨k, hk, rfl, rfl, hb⟩ := hrel
    have hs := HK.out k
    have htl : (rss.take k).length ≤ 160000 := by simp; omega
    by_cases hlt : k < n
    · have hkr : k < rss.length := by rw [HL.out]; exact hlt
      have hrow := ((HO.out.kept hU hb).row k hkr)
      have hfam := HF.out.2 k hkr
      have HS := Lib.hid (HT.out k hkr)
      have hc := below_cells2 hb (HCell.out k hlt)
      generalize vs.getD k (.slice none 0 0) = x at hc hrow
      generalize rss.getD k [] = r at hrow hfam HS
      rcases hrow.cases with ⟨rfl, rfl⟩ | ⟨gk, ck, rfl, _, hgl, _, _, hIk, _⟩
      · have := hfam.2; simp at this
      have HC := Lib.hid (countRowO_any gk ck qh r wr hfam.1 hfam.2 hgl hIk (below_cells2 hb HQ.out))
      have hbb := bIO_bd r
      clear hrow hfam hIk hgl
      generalize bIO r = y at HC HS hbb
      have hs2 : 0 ≤ cntFO (rss.take k) ∧ cntFO (rss.take k) ≤ 160000 := by omega
      generalize cntFO (rss.take k) = s at hs2 HS ⊢
      clear hs htl
      go_wp2_with (go_at_call 84; refine HC.out.mono ?_; rintro e w' ⟨rfl, hb2⟩)
      go_roundw
      case rel => exact ⟨k + 1, by omega, by go_num, by rw [HS.out], hb.trans (hb2.mono hb.size)⟩
      case measure => simp [intOf]; omega
    · have hkn2 : k = n := by omega
      subst hkn2
      rw [HE.out]
      clear hs htl
      go_wp2
      go_ret
      exact ⟨rfl, hb⟩
set_option maxHeartbeats 1600000 in
theorem sumRowsO_any (qh B U : Nat) (v : Value) (vs : List Value) (rss : List (List Int)) (w : World) (hO : OwnSS B U w v vs rss) (hU : U ≤ w.heap.size) (hF : FamA rss) (hq : w.cell? ⟨qh, 0, none⟩ = some (.func (.func 58) #[] #[])) :
    Calls Try.prog 83 #[v, .func (.func 84) #[] #[.pointer (some ⟨qh, 0, none⟩)]] w (Ret (.int .i64 (cntFO rss)) w) := by
  rcases hO.cases with ⟨rfl, rfl⟩ | ⟨g, c, rfl, hc⟩
  · rw [show cntFO [] = 0 from rfl]
    clear hq
    go_enter Try.func83, Try.ntmps83
    go_wp2
    go_loop [5, 10] (fun u v => u = .int .i64 0 ∧ v = .int .i64 0) (fun _ _ => 0)
    case atStart => exact ⟨rfl, rfl⟩
    case round =>
      obtain ⟨rfl, rfl⟩ := hrel
      go_wp2
      go_ret
      exact ⟨rfl, Below.refl _ _⟩
  · exact sumRowsO_some qh B U g rss.length c vs rss w rfl hO hU hF hc hq
set_option maxHeartbeats 1600000 in
theorem countRowsO_any (B U : Nat) (v : Value) (vs : List Value) (rss : List (List Int)) (w : World) (hO : OwnSS B U w v vs rss) (hU : U ≤ w.heap.size) (hF : FamA rss) :
    Calls Try.prog 76 #[v, .func (.func 58) #[] #[]] w (Ret (.int .i64 (cntFO rss)) w) := by
  have HX := Lib.hid (fun (x : Value) (t : TypeId) => (show Below w.heap.size w (w.alloc (.cells #[x] t)) ∧ (w.alloc (.cells #[x] t)).cell? ⟨w.heap.size, 0, none⟩ = some x from ⟨(Below.refl w.heap.size w).alloc (Nat.le_refl _) _, boxC (box_newC rfl)⟩))
  have HS := Lib.hid (fun (W : World) (qh : Nat) (hb : Below w.heap.size w W) (hh : W.cell? ⟨qh, 0, none⟩ = some (.func (.func 58) #[] #[])) => sumRowsO_any qh B U v vs rss W (hO.kept hU hb) (Nat.le_trans hU hb.size) hF hh)
  clear hO hF
  go_enter Try.func76, Try.ntmps76
  go_wp2_with (go_at_call 83; refine (HS.out _ w.heap.size (HX.out _ _).1 (HX.out _ _).2).mono ?_; rintro e w' ⟨rfl, hb⟩)
  go_ret
  refine ⟨rfl, Below.trans ?_ (hb.mono (by simp))⟩
  exact (Below.refl w.heap.size w).alloc (Nat.le_refl _) _
def toldO (rss : List (List Int)) (r : List Int) : Bool := oldB r && (openB rss (sumL r) && (cntFO (rss.filter (sumIs (sumL r))) == 1))
set_option maxHeartbeats 8000000 in
theorem toldTestO_any (q0 q1 g c : Nat) (r : List Int) (B U : Nat) (v : Value) (vs : List Value) (rss : List (List Int)) (w : World) (hO : OwnSS B U w v vs rss) (hB : B ≤ U) (hU : U ≤ w.heap.size) (hF : FamA rss) (hk : Kids r) (h1 : 1 ≤ r.length) (hg : g < w.heap.size) (hI : Ints w g 0 r) (hq0 : w.cell? ⟨q0, 0, none⟩ = some (.func (.func 58) #[] #[])) (hq1 : w.cell? ⟨q1, 0, none⟩ = some v) :
    Calls Try.prog 75 #[.slice (some ⟨g, 0, none⟩) r.length c, .pointer (some ⟨q0, 0, none⟩), .pointer (some ⟨q1, 0, none⟩)] w (Ret (.bool (toldO rss r)) w) := by
  have HSm := Lib.hid (fun (W : World) (hb : Below w.heap.size w W) => sumOfSet_any g 0 r.length c r W rfl hk (hI.kept hb hg))
  have HHas := Lib.hid (fun (W : World) (hb : Below w.heap.size w W) => imOld_any g r.length c r W rfl h1 hk.1 (Nat.lt_of_lt_of_le hg hb.size) (hI.kept hb hg))
  unfold toldO
  generalize sumL r = s at HSm ⊢
  have HOp := Lib.hid (fun (W : World) (hb : Below w.heap.size w W) => isOpen_any s B U v vs rss W (hO.kept hU hb) hB (Nat.le_trans hU hb.size) hF)
  have HWs := Lib.hid (fun (W : World) (hb : Below w.heap.size w W) => withSum_any s B U v vs rss W (hO.kept hU hb) hB (Nat.le_trans hU hb.size) hF)
  have HCn := Lib.hid (fun (W : World) (B2 U2 : Nat) (v2 : Value) (vs2 : List Value) (ho : OwnSS B2 U2 W v2 vs2 (rss.filter (sumIs s))) (hU2 : U2 ≤ W.heap.size) => countRowsO_any B2 U2 v2 vs2 _ W ho hU2 (famA_filter hF _))
  have hbd : Below w.heap.size w w.drew := (Below.refl _ _).drew
  clear hO hF hI
  generalize (rss.filter (sumIs s)) = rf at HWs HCn ⊢
  cases hb1 : oldB r with
  | false =>
    rw [hb1] at HHas
    rw [Bool.false_and]
    clear hb1
    go_enter Try.func75, Try.ntmps75
    go_wp2_with (go_at_call 48; refine (HSm.out _ (Below.refl _ _)).mono ?_; rintro e w' ⟨rfl, rfl⟩)
    (first | (go_region_with (go_at_call 58; refine (HHas.out _ (by first | exact hbd | exact Below.refl _ _ | assumption)).mono ?_; rintro e w' ⟨rfl, hcall⟩; have hbw : Below w.heap.size w w' := (by first | exact hcall | exact hbd.trans (hcall.mono hbd.size)))) | fail)
    all_goals (go_wp2; go_ret; exact ⟨rfl, by first | assumption | exact Below.drew (by assumption)⟩)
  | true =>
    rw [hb1] at HHas
    rw [Bool.true_and]
    clear hb1
    cases hb2 : openB rss s with
    | false =>
      rw [hb2] at HOp
      rw [Bool.false_and]
      clear hb2
      go_enter Try.func75, Try.ntmps75
      go_wp2_with (go_at_call 48; refine (HSm.out _ (Below.refl _ _)).mono ?_; rintro e w' ⟨rfl, rfl⟩)
      (first | (go_region_with (first | (go_at_call 58; refine (HHas.out _ (by first | exact hbd | exact Below.refl _ _ | assumption)).mono ?_; rintro e w' ⟨rfl, hcall⟩; have hbw : Below w.heap.size w w' := (by first | exact hcall | exact hbd.trans (hcall.mono hbd.size)); have hq1' := below_cells2 hbw hq1) | (go_at_call 55; refine (HOp.out _ (by assumption)).mono ?_; rintro e w'' ⟨rfl, hcall2⟩; have hbw2 : Below w.heap.size w w'' := hbw.trans (hcall2.mono hbw.size)))) | fail)
      all_goals (go_wp2; go_ret; exact ⟨rfl, by first | assumption | exact Below.drew (by assumption)⟩)
    | true =>
      rw [hb2] at HOp
      rw [Bool.true_and]
      clear hb2
      generalize cntFO rf = cn at HCn ⊢
      go_enter Try.func75, Try.ntmps75
      go_wp2_with (go_at_call 48; refine (HSm.out _ (Below.refl _ _)).mono ?_; rintro e w' ⟨rfl, rfl⟩)
      go_region_held3 (fun w' => Below w.heap.size w w' ∧ w'.cell? ⟨q0, 0, none⟩ = some (.func (.func 58) #[] #[]) ∧ w'.cell? ⟨q1, 0, none⟩ = some v)
        (first
          | go_keep
          | (go_split_ands
             refine ⟨?_, ?_, ?_⟩
             · first | assumption | exact Below.trans (by assumption) (Below.mono hcall (Below.size (by assumption)))
             · first | assumption | exact below_cells2 hcall (by assumption)
             · first | assumption | exact below_cells2 hcall (by assumption)))
        (first | (go_at_call 58; refine (HHas.out _ ?_).mono ?_; (go_split_ands; assumption); rintro e w' ⟨rfl, hcall⟩) | (go_at_call 55; refine (HOp.out _ ?_).mono ?_; (go_split_ands; assumption); rintro e w' ⟨rfl, hcall⟩) | (go_at_call 52; refine (HWs.out _ ?_).mono ?_; (go_split_ands; assumption); rintro e w' ⟨v2, vs2, rfl, hlist, hcall⟩) | (go_at_call 76; refine (HCn.out _ _ _ _ _ hlist (Nat.le_refl _)).mono ?_; rintro e w' ⟨rfl, hcall⟩))
      obtain ⟨hb2, _⟩ := ‹Below w.heap.size w _ ∧ _›
      go_wp2
      go_ret
      exact ⟨rfl, hb2⟩
set_option maxHeartbeats 1600000 in
theorem toldAmongO_any (B U : Nat) (v : Value) (vs : List Value) (rss : List (List Int)) (w : World) (hO : OwnSS B U w v vs rss) (hB : B ≤ U) (hU : U ≤ w.heap.size) (hF : FamA rss) :
    Calls Try.prog 57 #[v, .func (.func 58) #[] #[]] w (RetSub B (rss.filter (toldO rss)) w) := by
  have HA := Lib.hid (fun (W : World) (q0 q1 : Nat) (hb : Below w.heap.size w W) (h0 : W.cell? ⟨q0, 0, none⟩ = some (.func (.func 58) #[] #[])) (h1 : W.cell? ⟨q1, 0, none⟩ = some v) => amongOT_any q0 q1 (toldO rss) B U v vs rss W (hO.kept hU hb) hB (Nat.le_trans hU hb.size) hF (fun W2 hb2 g c r hk hr hg hI => toldTestO_any q0 q1 g c r B U v vs rss W2 ((hO.kept hU hb).kept (Nat.le_trans hU hb.size) hb2) hB (Nat.le_trans (Nat.le_trans hU hb.size) hb2.size) hF hk hr hg hI (below_cells2 hb2 h0) (below_cells2 hb2 h1)))
  rcases ownSS_lit hO with ⟨a, c, rfl⟩
  have HB := Lib.hid (fun (x y : Value) (t1 t2 : TypeId) => (show Below w.heap.size w ((w.alloc (.cells #[x] t1)).alloc (.cells #[y] t2)) from ((Below.refl w.heap.size w).alloc (Nat.le_refl _) _).alloc (by simp) _))
  clear hO hF
  go_enter Try.func57, Try.ntmps57
  go_wp2_with (go_at_call 53; refine (HA.out _ (w.heap.size + 1) w.heap.size (HB.out _ _ _ _) (boxP (box_newP (by simp))).1 (boxP (box_oldP (box_newP rfl) _)).1).mono ?_; rintro e w2 ⟨v2, vs2, rfl, ho, hb2⟩)
  go_ret
  refine ⟨v2, vs2, rfl, ho, Below.trans ?_ (hb2.mono (by simp; omega))⟩
  exact ((Below.refl w.heap.size w).alloc (Nat.le_refl _) _).alloc (by simp) _
set_option maxHeartbeats 1600000 in
theorem imToldO_of (N P : Int) (rss : List (List Int)) (ok : Bool) (hF : FamA rss) (w : World) (h : ∀ w, Calls Try.prog 14 #[.int .i64 N, .int .i64 P] w (RetSSB rss ok w)) :
    Calls Try.prog 32 #[.int .i64 N, .int .i64 P] w (RetSSB (rss.filter (toldO rss)) ok w) := by
  have H := Lib.hid h
  have HW := Lib.hid (fun (B U : Nat) (v : Value) (vs : List Value) (W : World) (hO : OwnSS B U W v vs rss) (hB : B ≤ U) (hU : U ≤ W.heap.size) => toldAmongO_any B U v vs rss W hO hB hU hF)
  clear h hF
  generalize rss.filter (toldO rss) = rf at HW ⊢
  go_enter Try.func32, Try.ntmps32
  go_wp2_with (first | (go_at_call 14; refine (H.out _).mono ?_; rintro e w1 ⟨v, vs, rfl, hss, hb⟩) | (go_at_call 57; refine (HW.out _ _ _ _ _ hss hb.size (Nat.le_refl _)).mono ?_; rintro e w2 ⟨v2, vs2, rfl, ho, hb2⟩))
  go_ret2
  exact ⟨v2, vs2, rfl, ho, hb.trans (hb2.mono hb.size)⟩
end Go.Proofs.Ytmdhdbkeiennmaa
