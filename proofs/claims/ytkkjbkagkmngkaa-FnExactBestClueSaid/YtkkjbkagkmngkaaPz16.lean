/- Needless clues: both texts. -/
import Derived.Test.YtkkjbkagkmngkaaPz12
import Derived.Test.YtkkjbkagkmngkaaPz14
import Derived.Test.YtkkjbkagkmngkaaPzHelp
import Derived.Deep.CutRange
import Derived.Deep.RegionWith
set_option linter.unusedVariables false
set_option linter.unusedSimpArgs false
namespace Go.Proofs.Ytkkjbkagkmngkaa
open Go.RowKit

/-- How many solutions there are without a clue. -/
def cntW (n : Nat) (ds : List Kn) (k : Nat) : Nat := (solL n (ds.eraseIdx k)).length
/-- The needless ones of the first k clues. -/
def needTo (n : Nat) (ds : List Kn) : Nat → List Int
  | 0 => []
  | k + 1 => needTo n ds k ++ (if cntW n ds k = (solL n ds).length then [(k : Int)] else [])
theorem needTo_len (n : Nat) (ds : List Kn) : ∀ k, (needTo n ds k).length ≤ k
  | 0 => Nat.le_refl _
  | k + 1 => by
    have := needTo_len n ds k
    rw [needTo, List.length_append]
    split <;> simp <;> omega
def needL (p : Int) (ds : List Kn) : List Int := if pzB p ds = true then needTo p.toNat ds ds.length else []
theorem icB_erase {n : Nat} {ds : List Kn} (h : ∀ j, j < ds.length → icB n (at3 ds j) = true) (k : Nat) (j : Nat) (hj : j < (ds.eraseIdx k).length) : icB n (at3 (ds.eraseIdx k) j) = true := by
  have hm : at3 (ds.eraseIdx k) j ∈ ds := by
    have e : at3 (ds.eraseIdx k) j = (ds.eraseIdx k)[j] := by simp [at3, List.getElem?_eq_getElem hj]
    rw [e]
    exact List.mem_of_mem_eraseIdx (List.getElem_mem hj)
  obtain ⟨i, hi, e⟩ := List.getElem_of_mem hm
  have := h i hi
  have e2 : at3 ds i = ds[i] := by simp [at3, List.getElem?_eq_getElem hi]
  rw [e2, e] at this
  exact this
theorem ownK_arg {B : Nat} {w : World} {a : Option Addr} {m c : Nat} {ds : List Kn} (h : OwnK B w (.slice a m c) ds) : ArgK w a m ds ∧ m = ds.length := by
  rcases h.cases with ⟨h1, rfl⟩ | ⟨g, cc, h1, _, h3, _, _, hI, _⟩
  · simp only [Value.slice.injEq] at h1
    obtain ⟨rfl, rfl, rfl⟩ := h1
    exact ⟨⟨rfl, .inl rfl⟩, rfl⟩
  · simp only [Value.slice.injEq] at h1
    obtain ⟨rfl, rfl, rfl⟩ := h1
    exact ⟨⟨rfl, .inr ⟨g, 0, rfl, h3, hI⟩⟩, rfl⟩
theorem countSolutionsOf_any (n : Nat) (a : Option Addr) (nc c : Nat) (cs : List Kn) (w : World) (h : n = 2 ∨ n = 3) (hn6 : nc ≤ 1048576) (hcs : ∀ j, j < nc → icB n (at3 cs j) = true) (hK : ArgK w a nc cs) :
    Calls Try.prog 64 #[.int .i64 n, .slice a nc c] w (Ret (.int .i64 ((solL n cs).length : Nat)) w) := by
  have HC := Lib.hid (solutions_any n a nc c cs w h hn6 hcs hK)
  clear hK hcs
  generalize solL n cs = rss at HC ⊢
  go_enter Try.func64, Try.ntmps64
  go_wp2_with fail
  refine HC.out.mono ?_
  rintro e w1 ⟨v, vs, rfl, hO, hb1⟩
  rcases hO.cases with ⟨rfl, rfl⟩ | ⟨go, cgo, rfl, _⟩
  · go_wp2_with fail
    go_ret
    exact ⟨rfl, hb1⟩
  · go_wp2_with fail
    go_ret
    exact ⟨rfl, hb1⟩
theorem ownSS_lit {B U : Nat} {w : World} {v : Value} {vs : List Value} {rss : List (List Int)} (h : OwnSS B U w v vs rss) : ∃ a c, v = .slice a rss.length c := by
  rcases h.cases with ⟨rfl, rfl⟩ | ⟨g, c, rfl, _⟩
  · exact ⟨none, 0, rfl⟩
  · exact ⟨_, c, rfl⟩

set_option maxHeartbeats 2000000 in
theorem imNeed_no (p : Int) (b n c : Nat) (ds : List Kn) (w : World) (hl : ds.length = n) (hn : n ≤ 1048576) (hbl : b < w.heap.size) (hI : Kns w b 0 ds) (h : pzB p ds = false) : Calls Try.prog 38 #[.agg #[.int .i64 p, .slice (some ⟨b, 0, none⟩) n c]] w (RetOwnB [] false w) := by
  have HW := Lib.hid ((Below.refl w.heap.size w).alloc (Nat.le_refl _) (.cells #[.int .i64 p, .slice (some ⟨b, 0, none⟩) n c] 29))
  subst hl
  have HC := Lib.hid (fun (W : World) (hb : Below w.heap.size w W) => imCnt_any p b c ds W hn (Nat.lt_of_lt_of_le hbl hb.size) (hI.kept hb hbl))
  rw [h] at HC
  generalize (((solOf p ds).length : Nat) : Int) = N at HC
  clear hI h
  go_enter Try.func38, Try.ntmps38
  go_wp2_with fail
  refine (HC.out _ HW.out).mono ?_
  rintro e w1 ⟨rfl, hb1⟩
  have hb1' := HW.out.trans (hb1.mono HW.out.size)
  go_wp2_with fail
  go_ret2
  exact ⟨_, rfl, own_nil _ _, hb1'⟩

set_option maxHeartbeats 8000000 in
set_option maxRecDepth 100000 in
theorem imNeed_yes (m b n c : Nat) (ds : List Kn) (w : World) (hl : ds.length = n) (hc : n ≤ c) (hbl : b < w.heap.size) (hI : Kns w b 0 ds) (h : pzB (m : Int) ds = true) : Calls Try.prog 38 #[.agg #[.int .i64 (m : Int), .slice (some ⟨b, 0, none⟩) n c]] w (RetOwnB (needTo m ds n) true w) := by
  obtain ⟨i0, hi, hz0, hz1, hz2⟩ := info_parts infoInt
  obtain ⟨m', hm', h23, h6, hcs⟩ := pz_of h
  have hmm : m' = m := by omega
  subst hmm
  have hn6 : n ≤ 6 := by omega
  have HW := Lib.hid ((Below.refl w.heap.size w).alloc (Nat.le_refl _) (.cells #[.int .i64 (m' : Int), .slice (some ⟨b, 0, none⟩) n c] 29))
  have HC := Lib.hid (fun (W : World) (hb : Below w.heap.size w W) => imCnt_any (m' : Int) b c ds W (by omega) (Nat.lt_of_lt_of_le hbl hb.size) (hI.kept hb hbl))
  rw [h, solOf_yes h, hl] at HC
  have HWo := Lib.hid (fun (W : World) (k : Nat) (hk : k < n) (hb : Below w.heap.size w W) => withoutClue_any b n c k ds W hl (by omega) hk hc (Nat.lt_of_lt_of_le hbl hb.size) (hI.kept hb hbl))
  have HCo := Lib.hid (fun (W : World) (k : Nat) (a : Option Addr) (nn cc : Nat) (hK : ArgK W a nn (ds.eraseIdx k)) (hnn : nn = (ds.eraseIdx k).length) => countSolutionsOf_any m' a nn cc (ds.eraseIdx k) W h23 (by have := List.length_eraseIdx_le ds k; omega) (fun j hj => icB_erase hcs k j (by omega)) hK)
  have HN := Lib.hid (fun k => (show needTo m' ds (k + 1) = needTo m' ds k ++ (if cntW m' ds k = (solL m' ds).length then [(k : Int)] else []) from rfl))
  have HNl := Lib.hid (fun k => needTo_len m' ds k)
  have HcW := Lib.hid (fun k => (show (solL m' (ds.eraseIdx k)).length = cntW m' ds k from rfl))
  have HLe := Lib.hid (fun k => (show cntW m' ds k ≤ 1728 from solL_len (by omega) _))
  have hCle : (solL m' ds).length ≤ 1728 := solL_len (by omega) _
  clear hI h hcs hm' hl
  generalize (solL m' ds).length = C at HC HN hCle
  go_enter Try.func38, Try.ntmps38
  go_wp2_with fail
  refine (HC.out _ HW.out).mono ?_
  rintro e w1 ⟨rfl, hb1⟩
  have hb1' := HW.out.trans (hb1.mono HW.out.size)
  have q0 : w1.cell? ⟨w.heap.size, 0, none⟩ = some (.int .i64 (m' : Int)) := below_cell2 hb1 (by simp [go_sem])
  have q1 : w1.cell? ⟨w.heap.size, 1, none⟩ = some (.slice (some ⟨b, 0, none⟩) n c) := below_cell2 hb1 (by simp [go_sem])

  go_wp2_with fail
  go_loopw [6, 18] (fun u q wr => ∃ k : Nat, k ≤ n ∧ q = .int .i64 k ∧ Hid (Own (w.heap.size + 1) wr u (needTo m' ds k)) ∧ Below w.heap.size w wr ∧ wr.cell? ⟨w.heap.size, 0, none⟩ = some (.int .i64 (m' : Int)) ∧ wr.cell? ⟨w.heap.size, 1, none⟩ = some (.slice (some ⟨b, 0, none⟩) n c)) (fun _ q _ => n - (intOf q).toNat)
  case atStart => exact ⟨0, Nat.zero_le _, rfl, Lib.hid (own_nil _ _), hb1', q0, q1⟩
  case round =>
    obtain ⟨k, hk, rfl, HO, hb, c0, c1⟩ := hrel
    have hsz := hb.size
    by_cases hlt : k < n
    · have HWk := Lib.hid (fun (W : World) (hbW : Below wr.heap.size wr W) => HWo.out W k hlt (hb.trans (hbW.mono hsz)))
      have HCk := Lib.hid (fun (W : World) (a : Option Addr) (nn cc : Nat) hK hnn => HCo.out W k a nn cc hK hnn)
      have HNk := Lib.hid (HN.out k)
      have hln := HNl.out k
      have hle := HLe.out k
      have hce := HcW.out k
      rw [← hce] at HNk hle
      clear hce
      generalize solL m' (ds.eraseIdx k) = rk at HCk HNk hle
      have HOo := HO.out
      generalize needTo m' ds k = L at HNk hln HOo
      clear HO HN HNl HcW HLe HWo HCo
      go_wp2_with fail
      have HB0 := Lib.hid hb
      have HOw := Lib.hid HOo
      clear HOo
      go_upto_region 8 with fail
      go_cut [29] from 21 to 34 (fun v wx => v = .bool ((rk.length : Int) == (C : Int)) ∧ Below wr.heap.size wr wx)
      case first =>
        go_region_with (first | (go_at_call_of 65 (Value.slice (some ⟨b, 0, none⟩) n c); refine (HWk.out _ (by first | exact Below.refl _ _ | exact (Below.refl _ _).drew | exact (Below.refl _ _).drew.drew | exact (Below.refl _ _).drew.drew.drew)).mono ?_; rintro e w' ⟨vv, rfl, hown, hcall⟩; obtain ⟨sa, sn, sc, rfl⟩ := ownK_slice hown; obtain ⟨hAr, rfl⟩ := ownK_arg hown; have hbx : Below wr.heap.size wr w' := (by first | exact hcall | exact (Below.refl _ _).drew.trans hcall | exact (Below.refl _ _).drew.drew.trans hcall | exact (Below.refl _ _).drew.drew.drew.trans hcall); have d0 := below_cell2 hbx c0; have d1 := below_cell2 hbx c1; clear hown hcall) | (go_at_call_of 64 (Value.int IntKind.i64 (m' : Int)); refine (HCk.out _ _ _ _ ?_ ?_).mono ?_; (first | exact hAr | exact hAr.kept (Below.refl _ _).drew | exact hAr.kept (Below.refl _ _).drew.drew); rfl; rintro e w2 ⟨rfl, hcall⟩; have hby : Below wr.heap.size wr w2 := (by first | exact hbx.trans (hcall.mono hbx.size) | exact hbx.drew.trans (hcall.mono hbx.drew.size) | exact hbx.drew.drew.trans (hcall.mono hbx.drew.drew.size)); clear hcall))
        all_goals
          go_wp2_with fail
          go_meet
          exact ⟨rfl, by first | assumption | exact Below.drew (by assumption) | exact Below.drew (Below.drew (by assumption))⟩
      case rest =>
      obtain ⟨rfl, hbc⟩ := hcut
      have hbw := HB0.out.trans (hbc.mono hsz)
      have e0 := below_cell2 hbc c0
      have e1 := below_cell2 hbc c1
      have HO2 := Lib.hid (HOw.out.kept hbc)
      have hbz := hbc.size
      have hlt2 : w.heap.size < wr.heap.size := World.block_lt_of_cell? _ ⟨w.heap.size, 0, none⟩ c0
      generalize hbq : ((rk.length : Int) == (C : Int)) = bq
      cases bq with
      | false =>
        have hne : ¬ rk.length = C := by intro h; rw [h] at hbq; simp at hbq
        rw [if_neg hne, List.append_nil] at HNk
        clear hbq
        go_wp2_with fail
        go_roundw
        case rel => exact ⟨k + 1, by omega, by go_num, Lib.hid (by rw [HNk.out]; exact HO2.out), hbw, e0, e1⟩
        case measure => simp [intOf]; omega
      | true =>
        have heq : rk.length = C := by have := beq_iff_eq.1 hbq; omega
        rw [if_pos heq] at HNk
        clear hbq
        go_wp2_with (first | (at_builtin; refine wpList_append_own _ rfl _ _ 41 rfl (w.heap.size + 1) 3 i0 (.int .i64 0) 1 8 Try.underlying41 hi hz0 hz1 hz2 rfl (by decide) _ _ _ rfl (World.ownsRow.alloc HO2.out _) ⟨_, 0, none⟩ 1 1 [.int .i64 (k : Int)] rfl rfl (newCell _ _ _) (oneInt _) ?c3 ?c4 ?c5 ?_))
        case c3 => unfold maxLen; omega
        case c4 => omega
        case c5 => simp; omega
        intro v' w3 hown' hgrow _
        have hkb := Lib.hid (((Below.refl (w.heap.size + 1) _).alloc (by omega) (.cells #[.int .i64 (k : Int)] 3)).grown hgrow (by simp; omega) (fun q hq => (World.ownsRow.lt HO2.out q hq).1))
        have hb3 := hbw.trans (hkb.out.mono (by omega))
        have g0 := (hkb.out.cell (p := ⟨w.heap.size, 0, none⟩) (by show w.heap.size < w.heap.size + 1; omega)).trans e0
        have g1 := (hkb.out.cell (p := ⟨w.heap.size, 1, none⟩) (by show w.heap.size < w.heap.size + 1; omega)).trans e1
        have ho3 := own_push hown'
        rw [← HNk.out] at ho3
        clear hown' hgrow hkb
        go_wp2_with fail
        go_roundw
        case rel => exact ⟨k + 1, by omega, by go_num, Lib.hid ho3, hb3, g0, g1⟩
        case measure => simp [intOf]; omega
    · have hkn : k = n := by omega
      subst hkn
      go_wp2_with fail
      go_ret2
      exact ⟨_, rfl, HO.out.mono (by omega), hb⟩

theorem imNeed_any (p : Int) (b c : Nat) (ds : List Kn) (w : World) (hn : ds.length ≤ 1048576) (hc : ds.length ≤ c) (hbl : b < w.heap.size) (hI : Kns w b 0 ds) :
    Calls Try.prog 38 #[.agg #[.int .i64 p, .slice (some ⟨b, 0, none⟩) ds.length c]] w (RetOwnB (needL p ds) (pzB p ds) w) := by
  cases h : pzB p ds with
  | false =>
    rw [show needL p ds = [] by unfold needL; rw [if_neg (by rw [h]; simp)]]
    exact imNeed_no p b _ c ds w rfl hn hbl hI h
  | true =>
    rw [show needL p ds = needTo p.toNat ds ds.length by unfold needL; rw [if_pos h]]
    obtain ⟨m, rfl, _⟩ := pz_of h
    exact imNeed_yes m b _ c ds w rfl hc hbl hI h

set_option maxHeartbeats 2000000 in
theorem spNeed_no (p : Int) (b n c : Nat) (ds : List Kn) (w : World) (hl : ds.length = n) (hn : n ≤ 1048576) (hbl : b < w.heap.size) (hI : Kns w b 0 ds) (h : pzB p ds = false) : Calls Try.prog 37 #[.agg #[.int .i64 p, .slice (some ⟨b, 0, none⟩) n c]] w (RetOwnB [] false w) := by
  have HW := Lib.hid ((Below.refl w.heap.size w).alloc (Nat.le_refl _) (.cells #[.int .i64 p, .slice (some ⟨b, 0, none⟩) n c] 29))
  have HC := Lib.hid (fun (W : World) (hb : Below w.heap.size w W) => pzGood_any p b 0 n c ds W hl hn (Nat.lt_of_lt_of_le hbl hb.size) (hI.kept hb hbl))
  rw [h] at HC
  clear hI h
  go_enter Try.func37, Try.ntmps37
  go_wp2_with fail
  refine (HC.out _ HW.out).mono ?_
  rintro e w1 ⟨rfl, hb1⟩
  have hb1' := HW.out.trans (hb1.mono HW.out.size)
  go_wp2_with fail
  go_ret2
  exact ⟨_, rfl, own_nil _ _, hb1'⟩

set_option maxHeartbeats 8000000 in
set_option maxRecDepth 100000 in
theorem spNeed_yes (m b n c : Nat) (ds : List Kn) (w : World) (hl : ds.length = n) (hc : n ≤ c) (hbl : b < w.heap.size) (hI : Kns w b 0 ds) (h : pzB (m : Int) ds = true) : Calls Try.prog 37 #[.agg #[.int .i64 (m : Int), .slice (some ⟨b, 0, none⟩) n c]] w (RetOwnB (needTo m ds n) true w) := by
  obtain ⟨i0, hi, hz0, hz1, hz2⟩ := info_parts infoInt
  obtain ⟨m', hm', h23, h6, hcs⟩ := pz_of h
  have hmm : m' = m := by omega
  subst hmm
  have hn6 : n ≤ 6 := by omega
  have HW := Lib.hid ((Below.refl w.heap.size w).alloc (Nat.le_refl _) (.cells #[.int .i64 (m' : Int), .slice (some ⟨b, 0, none⟩) n c] 29))
  have HG := Lib.hid (fun (W : World) (hb : Below w.heap.size w W) => pzGood_any (m' : Int) b 0 n c ds W hl (by omega) (Nat.lt_of_lt_of_le hbl hb.size) (hI.kept hb hbl))
  rw [h] at HG
  have HA := Lib.hid (fun (W : World) (hb : Below w.heap.size w W) => pzAll_any m' (some ⟨b, 0, none⟩) n c ds W h23 (by omega) (by rw [← hl]; exact hcs) (by rw [← hl]; exact (argK_lit hbl hI).kept hb))
  have HWo := Lib.hid (fun (W : World) (k : Nat) (hk : k < n) (hb : Below w.heap.size w W) => pzWithout_any b n c k ds W hl (by omega) hk hc (Nat.lt_of_lt_of_le hbl hb.size) (hI.kept hb hbl))
  have HCo := Lib.hid (fun (W : World) (k : Nat) (a : Option Addr) (nn cc : Nat) (hK : ArgK W a nn (ds.eraseIdx k)) (hnn : nn = (ds.eraseIdx k).length) => pzAll_any m' a nn cc (ds.eraseIdx k) W h23 (by have := List.length_eraseIdx_le ds k; omega) (fun j hj => icB_erase hcs k j (by omega)) hK)
  have HN := Lib.hid (fun k => (show needTo m' ds (k + 1) = needTo m' ds k ++ (if cntW m' ds k = (solL m' ds).length then [(k : Int)] else []) from rfl))
  have HNl := Lib.hid (fun k => needTo_len m' ds k)
  have HcW := Lib.hid (fun k => (show (solL m' (ds.eraseIdx k)).length = cntW m' ds k from rfl))
  have HLe := Lib.hid (fun k => (show cntW m' ds k ≤ 1728 from solL_len (by omega) _))
  have hCle : (solL m' ds).length ≤ 1728 := solL_len (by omega) _
  clear hI h hcs hm' hl
  generalize solL m' ds = rss at HA HN hCle
  go_enter Try.func37, Try.ntmps37
  go_wp2_with fail
  refine (HG.out _ HW.out).mono ?_
  rintro e w0 ⟨rfl, hb0⟩
  have hb0' := HW.out.trans (hb0.mono HW.out.size)
  have p0 : w0.cell? ⟨w.heap.size, 0, none⟩ = some (.int .i64 (m' : Int)) := below_cell2 hb0 (by simp [go_sem])
  have p1 : w0.cell? ⟨w.heap.size, 1, none⟩ = some (.slice (some ⟨b, 0, none⟩) n c) := below_cell2 hb0 (by simp [go_sem])
  go_wp2_with fail
  refine (HA.out _ hb0').mono ?_
  rintro e w1 ⟨v, vs, rfl, hO, hb1⟩
  have hb1' := hb0'.trans (hb1.mono hb0'.size)
  have q0 := below_cell2 hb1 p0
  have q1 := below_cell2 hb1 p1
  obtain ⟨ra, rc, rfl⟩ := ownSS_lit hO
  clear hO p0 p1 hb0
  generalize rss.length = C at HN hCle

  go_wp2_with fail
  go_loopw [4, 19] (fun u q wr => ∃ k : Nat, k ≤ n ∧ q = .int .i64 k ∧ Hid (Own (w.heap.size + 1) wr u (needTo m' ds k)) ∧ Below w.heap.size w wr ∧ wr.cell? ⟨w.heap.size, 0, none⟩ = some (.int .i64 (m' : Int)) ∧ wr.cell? ⟨w.heap.size, 1, none⟩ = some (.slice (some ⟨b, 0, none⟩) n c)) (fun _ q _ => n - (intOf q).toNat)
  case atStart => exact ⟨0, Nat.zero_le _, rfl, Lib.hid (own_nil _ _), hb1', q0, q1⟩
  case round =>
    obtain ⟨k, hk, rfl, HO, hb, c0, c1⟩ := hrel
    have hsz := hb.size
    by_cases hlt : k < n
    · have HWk := Lib.hid (fun (W : World) (hbW : Below wr.heap.size wr W) => HWo.out W k hlt (hb.trans (hbW.mono hsz)))
      have HCk := Lib.hid (fun (W : World) (a : Option Addr) (nn cc : Nat) hK hnn => HCo.out W k a nn cc hK hnn)
      have HNk := Lib.hid (HN.out k)
      have hln := HNl.out k
      have hle := HLe.out k
      have hce := HcW.out k
      rw [← hce] at HNk hle
      clear hce
      generalize solL m' (ds.eraseIdx k) = rk at HCk HNk hle
      have HOo := HO.out
      generalize needTo m' ds k = L at HNk hln HOo
      clear HO HN HNl HcW HLe HWo HCo
      go_wp2_with fail
      have HB0 := Lib.hid hb
      have HOw := Lib.hid HOo
      clear HOo
      go_upto_region 8 with fail
      go_cut [31] from 22 to 36 (fun v wx => v = .bool ((rk.length : Int) == (C : Int)) ∧ Below wr.heap.size wr wx)
      case first =>
        go_region_with (first | (go_at_call_of 63 (Value.slice (some ⟨b, 0, none⟩) n c); refine (HWk.out _ (by first | exact Below.refl _ _ | exact (Below.refl _ _).drew | exact (Below.refl _ _).drew.drew | exact (Below.refl _ _).drew.drew.drew)).mono ?_; rintro e w' ⟨vv, rfl, hown, hcall⟩; obtain ⟨sa, sn, sc, rfl⟩ := ownK_slice hown; obtain ⟨hAr, rfl⟩ := ownK_arg hown; have hbx : Below wr.heap.size wr w' := (by first | exact hcall | exact (Below.refl _ _).drew.trans hcall | exact (Below.refl _ _).drew.drew.trans hcall | exact (Below.refl _ _).drew.drew.drew.trans hcall); have d0 := below_cell2 hbx c0; have d1 := below_cell2 hbx c1; clear hown hcall) | (go_at_call_of 57 (Value.int IntKind.i64 (m' : Int)); refine (HCk.out _ _ _ _ ?_ ?_).mono ?_; (first | exact hAr | exact hAr.kept (Below.refl _ _).drew | exact hAr.kept (Below.refl _ _).drew.drew); rfl; rintro e w2 ⟨rv, rvs, rfl, hOO, hcall⟩; obtain ⟨ra2, rc2, rfl⟩ := ownSS_lit hOO; clear hOO; have hby : Below wr.heap.size wr w2 := (by first | exact hbx.trans (hcall.mono hbx.size) | exact hbx.drew.trans (hcall.mono hbx.drew.size) | exact hbx.drew.drew.trans (hcall.mono hbx.drew.drew.size)); clear hcall))
        all_goals
          go_wp2_with fail
          go_meet
          exact ⟨rfl, by first | assumption | exact Below.drew (by assumption) | exact Below.drew (Below.drew (by assumption))⟩
      case rest =>
      obtain ⟨rfl, hbc⟩ := hcut
      have hbw := HB0.out.trans (hbc.mono hsz)
      have e0 := below_cell2 hbc c0
      have e1 := below_cell2 hbc c1
      have HO2 := Lib.hid (HOw.out.kept hbc)
      have hbz := hbc.size
      have hlt2 : w.heap.size < wr.heap.size := World.block_lt_of_cell? _ ⟨w.heap.size, 0, none⟩ c0
      generalize hbq : ((rk.length : Int) == (C : Int)) = bq
      cases bq with
      | false =>
        have hne : ¬ rk.length = C := by intro h; rw [h] at hbq; simp at hbq
        rw [if_neg hne, List.append_nil] at HNk
        clear hbq
        go_wp2_with fail
        go_roundw
        case rel => exact ⟨k + 1, by omega, by go_num, Lib.hid (by rw [HNk.out]; exact HO2.out), hbw, e0, e1⟩
        case measure => simp [intOf]; omega
      | true =>
        have heq : rk.length = C := by have := beq_iff_eq.1 hbq; omega
        rw [if_pos heq] at HNk
        clear hbq
        go_wp2_with (first | (at_builtin; refine wpList_append_own _ rfl _ _ 41 rfl (w.heap.size + 1) 3 i0 (.int .i64 0) 1 8 Try.underlying41 hi hz0 hz1 hz2 rfl (by decide) _ _ _ rfl (World.ownsRow.alloc HO2.out _) ⟨_, 0, none⟩ 1 1 [.int .i64 (k : Int)] rfl rfl (newCell _ _ _) (oneInt _) ?c3 ?c4 ?c5 ?_))
        case c3 => unfold maxLen; omega
        case c4 => omega
        case c5 => simp; omega
        intro v' w3 hown' hgrow _
        have hkb := Lib.hid (((Below.refl (w.heap.size + 1) _).alloc (by omega) (.cells #[.int .i64 (k : Int)] 3)).grown hgrow (by simp; omega) (fun q hq => (World.ownsRow.lt HO2.out q hq).1))
        have hb3 := hbw.trans (hkb.out.mono (by omega))
        have g0 := (hkb.out.cell (p := ⟨w.heap.size, 0, none⟩) (by show w.heap.size < w.heap.size + 1; omega)).trans e0
        have g1 := (hkb.out.cell (p := ⟨w.heap.size, 1, none⟩) (by show w.heap.size < w.heap.size + 1; omega)).trans e1
        have ho3 := own_push hown'
        rw [← HNk.out] at ho3
        clear hown' hgrow hkb
        go_wp2_with fail
        go_roundw
        case rel => exact ⟨k + 1, by omega, by go_num, Lib.hid ho3, hb3, g0, g1⟩
        case measure => simp [intOf]; omega
    · have hkn : k = n := by omega
      subst hkn
      go_wp2_with fail
      go_ret2
      exact ⟨_, rfl, HO.out.mono (by omega), hb⟩

theorem spNeed_any (p : Int) (b c : Nat) (ds : List Kn) (w : World) (hn : ds.length ≤ 1048576) (hc : ds.length ≤ c) (hbl : b < w.heap.size) (hI : Kns w b 0 ds) :
    Calls Try.prog 37 #[.agg #[.int .i64 p, .slice (some ⟨b, 0, none⟩) ds.length c]] w (RetOwnB (needL p ds) (pzB p ds) w) := by
  cases h : pzB p ds with
  | false =>
    rw [show needL p ds = [] by unfold needL; rw [if_neg (by rw [h]; simp)]]
    exact spNeed_no p b _ c ds w rfl hn hbl hI h
  | true =>
    rw [show needL p ds = needTo p.toNat ds ds.length by unfold needL; rw [if_pos h]]
    obtain ⟨m, rfl, _⟩ := pz_of h
    exact spNeed_yes m b _ c ds w rfl hc hbl hI h

theorem needL_le (p : Int) (ds : List Kn) : (needL p ds).length ≤ 1048576 := by
  unfold needL
  split
  · rename_i h
    obtain ⟨_, _, _, h6, _⟩ := pz_of h
    have := needTo_len p.toNat ds ds.length
    omega
  · simp
theorem needlessClues_both (p : Int) (ds : List Kn) : ∃ rs ok, rs.length ≤ 1048576 ∧
    (∀ b c w, ds.length ≤ 1048576 → ds.length ≤ c → b < w.heap.size → Kns w b 0 ds → Calls Try.prog 37 #[.agg #[.int .i64 p, .slice (some ⟨b, 0, none⟩) ds.length c]] w (RetOwnB rs ok w)) ∧
    (∀ b c w, ds.length ≤ 1048576 → ds.length ≤ c → b < w.heap.size → Kns w b 0 ds → Calls Try.prog 38 #[.agg #[.int .i64 p, .slice (some ⟨b, 0, none⟩) ds.length c]] w (RetOwnB rs ok w)) :=
  ⟨_, _, needL_le p ds, fun b c w hn hc hb hI => spNeed_any p b c ds w hn hc hb hI, fun b c w hn hc hb hI => imNeed_any p b c ds w hn hc hb hI⟩
end Go.Proofs.Ytkkjbkagkmngkaa
