/- AliveAges: both texts. -/
import Derived.Test.YthmcimdnbapnhabFb3
import Derived.Test.YthmcimdnbapnhabRel
set_option linter.unusedVariables false
set_option linter.unusedSimpArgs false
namespace Go.Proofs.Ythmcimdnbapnhab
open Go.RowKit

theorem l1Most_any (x y : Int) (w : World) : Calls Try.prog 56 #[.int .i64 x, .int .i64 y] w (RetSame (.int .i64 (max x y)) w) := by
  by_cases h : y < x
  · have e : max x y = x := by omega
    rw [e]; clear e
    go_enter Try.func56, Try.ntmps56
    go_wp2
    go_ret
    exact ⟨rfl, rfl⟩
  · have e : max x y = y := by omega
    rw [e]; clear e
    go_enter Try.func56, Try.ntmps56
    go_wp2
    go_ret
    exact ⟨rfl, rfl⟩


theorem newCellAt6 (W : World) (g : Nat) (x : Value) (t : TypeId) (hg : g = W.heap.size) : ∀ j u, [x][j]? = some u → (W.alloc (.cells #[x] t)).cell? ((⟨g, 0, none⟩ : Addr).add j) = some u := by
  subst hg; exact newCell W x t
def aliveL (fs : List Kn) (y : Int) (k : Nat) : List Int := (List.range k).map fun j => max (y - (at3 fs j).1) (-1)
theorem aliveL_len (fs : List Kn) (y : Int) (k : Nat) : (aliveL fs y k).length = k := by simp [aliveL]
theorem aliveL_succ (fs : List Kn) (y : Int) (k : Nat) : aliveL fs y (k + 1) = aliveL fs y k ++ [max (y - (at3 fs k).1) (-1)] := by
  unfold aliveL; rw [List.range_succ, List.map_append]; rfl
theorem aliveL_getD (fs : List Kn) (y : Int) (n k : Nat) (hk : k < n) : (aliveL fs y n).getD k 0 = max (y - (at3 fs k).1) (-1) := by
  simp [aliveL, List.getElem?_map, List.getElem?_range hk]
def okL (fs : List Kn) (y : Int) : Bool := famB fs && inB y 0 3000
set_option maxHeartbeats 2000000 in
theorem imAlive_any (fs : List Kn) (b c : Nat) (y : Int) (w : World) (hc : fs.length ≤ c) (hbl : b < w.heap.size) (hI : Kns w b 0 fs) :
    Calls Try.prog 30 #[.slice (some ⟨b, 0, none⟩) fs.length c, .int .i64 y] w (RetOwnB (if okL fs y = true then aliveL fs y fs.length else []) (okL fs y) w) := by
  have HG := Lib.hid (imFam_any b fs.length c fs w rfl hc hbl hI)
  have HFA : ∀ W : World, True := fun _ => trivial
  clear HFA
  cases hf : famB fs with
  | false =>
    rw [show okL fs y = false by unfold okL; rw [hf]; rfl, if_neg (by simp)]
    rw [hf] at HG
    clear hI hf
    go_enter Try.func30, Try.ntmps30
    go_wp2_with (first | (go_at_call 57; refine HG.out.mono ?_; rintro e w1 ⟨rfl, hb1⟩) | (go_at_call 58; refine (isWithin_any _ _ _ _).mono ?_; rintro e w' ⟨rfl, rfl⟩))
    go_ret2
    exact ⟨_, rfl, own_nil _ _, hb1⟩
  | true =>
  rw [hf] at HG
  cases hy : inB y 0 3000 with
  | false =>
    rw [show okL fs y = false by unfold okL; rw [hf, hy]; rfl, if_neg (by simp)]
    clear hI hf
    go_enter Try.func30, Try.ntmps30
    go_wp2_with (first | (go_at_call 57; refine HG.out.mono ?_; rintro e w1 ⟨rfl, hb1⟩) | (go_at_call 58; refine (isWithin_any _ _ _ _).mono ?_; rintro e w' ⟨rfl, rfl⟩))
    go_ret2
    exact ⟨_, rfl, own_nil _ _, hb1⟩
  | true =>
    rw [show okL fs y = true by unfold okL; rw [hf, hy]; rfl, if_pos rfl]
    obtain ⟨i0, hi, hz0, hz1, hz2⟩ := info_parts infoInt
    have hn := (famB_len hf).2
    have hyb := inB_iff.1 hy
    have HB := Lib.hid (fun k (hk : k < fs.length) => fitB_born (famB_at hf k hk))
    have HI := Lib.hid hI
    have HL := Lib.hid (aliveL_len fs y fs.length)
    have HG2 := Lib.hid (fun k hk => aliveL_getD fs y fs.length k hk)
    generalize hys : aliveL fs y fs.length = ys at HL HG2 ⊢
    clear hI hf hys
    go_enter Try.func30, Try.ntmps30
    go_wp2_with (first | (go_at_call 57; refine HG.out.mono ?_; rintro e w1 ⟨rfl, hb1⟩; have hs1 := hb1.size) | (go_at_call 58; refine (isWithin_any _ _ _ _).mono ?_; rintro e w' ⟨rfl, rfl⟩) | (at_make; refine wpList_make_full _ rfl _ _ 24 rfl w1.heap.size 3 i0 (.int .i64 0) 1 Try.underlying24 hi hz0 hz1 .i64 .i64 fs.length fs.length fs.length rfl rfl rfl rfl ?c1 ?c2 ?c3 ?_))
    case c1 => rw [hz2]; omega
    case c2 => unfold maxLen; omega
    case c3 => exact Nat.le_refl _
    intro w2 hown hgr
    go_wp2_with fail
    go_loopw [22] (fun v wr => ∃ k : Nat, k ≤ fs.length ∧ v = .int .i64 k ∧ Hid (wr.ownsRow w1.heap.size 3 1 (.slice (some ⟨w1.heap.size, 0, none⟩) fs.length fs.length) fs.length (fill ys k fs.length)) ∧ Below w1.heap.size w1 wr) (fun v _ => fs.length - (intOf v).toNat)
    case atStart => exact ⟨0, Nat.zero_le _, rfl, Lib.hid (by rw [← fill_zero]; simpa using hown), (Below.refl _ _).grown hgr (Nat.le_refl _) (by simp)⟩
    case round =>
      obtain ⟨k, hk, rfl, Hr, hb⟩ := hrel
      have hsz := hb.size
      by_cases hlt : k < fs.length
      · obtain ⟨p1, p2, p3⟩ := (HI.out.kept (hb1.trans (hb.mono hs1)) hbl) k hlt
        rw [Nat.zero_add] at p1 p2 p3
        have hbk := HB.out k hlt
        have hg := HG2.out k hlt
        have HR1 := Lib.hid (fun (A : Obj) => World.ownsRow.alloc Hr.out A)
        obtain ⟨u, hu⟩ := fill_some ys k fs.length HL.out hlt
        have HU := Lib.hid hu
        have HST := Lib.hid (fun v (hv : ys.getD k 0 = v) => fill_stepAt ys k fs.length v HL.out hlt hv)
        have hn0 : (0 : Int) ≤ (k : Int) := by omega
        have hn1 : (k : Int) < (fs.length : Int) := by omega
        clear hu Hr
        generalize (at3 fs k).1 = x at p1 hbk hg
        generalize (at3 fs k).2.1 = d at p2
        generalize (at3 fs k).2.2 = o at p3
        have hr1 := HR1.out (.cells #[.int .i64 x, .int .i64 d, .int .i64 o] 45)
        have hd0 := (World.ownsRow.cellAt hr1 k (by omega)).trans HU.out
        have hf0 := World.ownsRow.frozenAt hr1 k
        have hwr : IntKind.i64.wrap (y - x) = y - x := IntWalk.i64_in _ (by omega)
        have hbA := hb.alloc hsz (.cells #[.int .i64 x, .int .i64 d, .int .i64 o] 45)
        by_cases hlm : y - x < -1
        · have HS := Lib.hid (World.ownsRow.stored hr1 k (.int .i64 (-1)))
          rw [HST.out (-1) (by rw [hg]; omega)] at HS
          clear hg hr1
          go_wp2_with fail
          go_roundw
          case rel => exact ⟨k + 1, by omega, by go_num, Lib.hid HS.out.1, hbA.setCell (Nat.le_refl _) _⟩
          case measure => simp [intOf]; omega
        · have HS := Lib.hid (World.ownsRow.stored hr1 k (.int .i64 (y - x)))
          rw [HST.out (y - x) (by rw [hg]; omega)] at HS
          clear hg hr1
          go_wp2_with fail
          go_roundw
          case rel => exact ⟨k + 1, by omega, by go_num, Lib.hid HS.out.1, hbA.setCell (Nat.le_refl _) _⟩
          case measure => simp [intOf]; omega
      · have hkn : k = fs.length := by omega
        have HD := Lib.hid (show fill ys k fs.length = ys.map (Value.int .i64) by rw [hkn]; exact fill_all ys _ HL.out)
        have hlc : ¬ (k : Int) < (fs.length : Int) := by omega
        clear hkn
        go_wp2_with fail
        go_ret2
        exact ⟨_, rfl, by
          have h := Hr.out
          rw [HD.out] at h
          have h2 : Own w1.heap.size wr (.slice (some ⟨w1.heap.size, 0, none⟩) fs.length fs.length) ys := by unfold Own; rw [HL.out]; exact h
          exact h2.mono hs1, hb1.trans (hb.mono hs1)⟩
set_option maxHeartbeats 2000000 in
theorem spAlive_any (fs : List Kn) (b c : Nat) (y : Int) (w : World) (hc : fs.length ≤ c) (hbl : b < w.heap.size) (hI : Kns w b 0 fs) :
    Calls Try.prog 29 #[.slice (some ⟨b, 0, none⟩) fs.length c, .int .i64 y] w (RetOwnB (if okL fs y = true then aliveL fs y fs.length else []) (okL fs y) w) := by
  have HG := Lib.hid (faGood_any b fs.length c fs w rfl hc hbl hI)
  cases hf : famB fs with
  | false =>
    rw [show okL fs y = false by unfold okL; rw [hf]; rfl, if_neg (by simp)]
    rw [hf] at HG
    clear hI hf
    go_enter Try.func29, Try.ntmps29
    go_wp2_with (first | (go_at_call 54; refine HG.out.mono ?_; rintro e w1 ⟨rfl, hb1⟩) | (go_at_call 55; refine (l1In_any _ _ _ _).mono ?_; rintro e w' ⟨rfl, rfl⟩))
    go_ret2
    exact ⟨_, rfl, own_nil _ _, hb1⟩
  | true =>
  rw [hf] at HG
  cases hy : inB y 0 3000 with
  | false =>
    rw [show okL fs y = false by unfold okL; rw [hf, hy]; rfl, if_neg (by simp)]
    clear hI hf
    go_enter Try.func29, Try.ntmps29
    go_wp2_with (first | (go_at_call 54; refine HG.out.mono ?_; rintro e w1 ⟨rfl, hb1⟩) | (go_at_call 55; refine (l1In_any _ _ _ _).mono ?_; rintro e w' ⟨rfl, rfl⟩))
    go_ret2
    exact ⟨_, rfl, own_nil _ _, hb1⟩
  | true =>
    rw [show okL fs y = true by unfold okL; rw [hf, hy]; rfl, if_pos rfl]
    obtain ⟨i0, hi, hz0, hz1, hz2⟩ := info_parts infoInt
    have hn := (famB_len hf).2
    have hyb := inB_iff.1 hy
    have HB := Lib.hid (fun k (hk : k < fs.length) => fitB_born (famB_at hf k hk))
    have HI := Lib.hid hI
    have HLn := Lib.hid (fun k => aliveL_len fs y k)
    have HSu := Lib.hid (fun k => aliveL_succ fs y k)
    clear hI hf
    go_enter Try.func29, Try.ntmps29
    go_wp2_with (first | (go_at_call 54; refine HG.out.mono ?_; rintro e w1 ⟨rfl, hb1⟩; have hs1 := hb1.size) | (go_at_call 55; refine (l1In_any _ _ _ _).mono ?_; rintro e w' ⟨rfl, rfl⟩))
    go_loopw [6, 19] (fun u v wr => ∃ k : Nat, k ≤ fs.length ∧ v = .int .i64 k ∧ Hid (Own w1.heap.size wr u (aliveL fs y k)) ∧ Below w1.heap.size w1 wr) (fun _ v _ => fs.length - (intOf v).toNat)
    case atStart => exact ⟨0, Nat.zero_le _, rfl, Lib.hid (own_nil _ _), Below.refl _ _⟩
    case round =>
      obtain ⟨k, hk, rfl, Ho, hb⟩ := hrel
      have hsz := hb.size
      by_cases hlt : k < fs.length
      · obtain ⟨p1, p2, p3⟩ := (HI.out.kept (hb1.trans (hb.mono hs1)) hbl) k hlt
        rw [Nat.zero_add] at p1 p2 p3
        have hbk := HB.out k hlt
        have hll := HLn.out k
        have hsu := HSu.out k
        have hn0 : (0 : Int) ≤ (k : Int) := by omega
        have hn1 : (k : Int) < (fs.length : Int) := by omega
        generalize (at3 fs k).1 = x at p1 hbk hsu
        generalize (at3 fs k).2.1 = d at p2
        generalize (at3 fs k).2.2 = o at p3
        have hwr : IntKind.i64.wrap (y - x) = y - x := IntWalk.i64_in _ (by omega)
        have how := Lib.hid (World.ownsRow.alloc Ho.out (.cells #[.int .i64 x, .int .i64 d, .int .i64 o] 45))
        have hbw := hb.alloc hsz (.cells #[.int .i64 x, .int .i64 d, .int .i64 o] 45)
        have hmx : max (-1) (y - x) = max (y - x) (-1) := by omega
        rw [← hmx] at hsu
        have HSU := Lib.hid hsu
        have HM := Lib.hid (fun W => l1Most_any (-1) (y - x) W)
        clear Ho hsu hmx
        generalize max (-1) (y - x) = z at HM HSU
        generalize hxs : aliveL fs y k = xs at how HSU hll
        have hxl : xs.length ≤ 14 := by omega
        clear hxs hll
        go_wp2_with (first | (go_at_call 56; refine (HM.out _).mono ?_; rintro e w' ⟨rfl, rfl⟩) | (at_builtin; refine wpList_append_own _ rfl _ _ 24 rfl w1.heap.size 3 i0 (.int .i64 0) 1 8 Try.underlying24 hi hz0 hz1 hz2 rfl (by decide) u6 xs.length (xs.map (Value.int .i64)) rfl (World.ownsRow.alloc how.out _) ⟨wr.heap.size + 1, 0, none⟩ 1 1 [.int .i64 z] rfl rfl (newCellAt6 _ _ _ _ (by simp)) (oneInt _) ?c4 ?c5 ?c6 ?_))
        case c4 => unfold maxLen; omega
        case c5 => omega
        case c6 => simp; omega
        intro v' w3 hown' hgrow _
        have hb3 := below_push hbw how.out hgrow
        have Ho3 : Hid (Own w1.heap.size w3 v' (aliveL fs y (k + 1))) := Lib.hid (by rw [HSU.out]; exact own_push hown')
        clear hown' hgrow how hbw
        go_wp2
        go_roundw
        case rel => exact ⟨k + 1, by omega, by go_num, Ho3, hb3⟩
        case measure => simp [intOf]; omega
      · have hkn : k = fs.length := by omega
        have HD := Lib.hid (show aliveL fs y k = aliveL fs y fs.length by rw [hkn])
        have hlc : ¬ (k : Int) < (fs.length : Int) := by omega
        clear hkn
        go_wp2_with fail
        go_ret2
        exact ⟨_, rfl, by rw [← HD.out]; exact Ho.out.mono hs1, hb1.trans (hb.mono hs1)⟩
theorem alive_both (ds : List Kn) (x1 : Int) : ∃ rs ok, rs.length ≤ 1048576 ∧
    (∀ b c w, ds.length ≤ 1048576 → ds.length ≤ c → b < w.heap.size → Kns w b 0 ds → Calls Try.prog 29 #[.slice (some ⟨b, 0, none⟩) ds.length c, .int .i64 x1] w (RetOwnB rs ok w)) ∧
    (∀ b c w, ds.length ≤ 1048576 → ds.length ≤ c → b < w.heap.size → Kns w b 0 ds → Calls Try.prog 30 #[.slice (some ⟨b, 0, none⟩) ds.length c, .int .i64 x1] w (RetOwnB rs ok w)) := by
  refine ⟨_, _, ?_, fun b c w _ hc hb hI => spAlive_any ds b c x1 w hc hb hI, fun b c w _ hc hb hI => imAlive_any ds b c x1 w hc hb hI⟩
  split
  · rename_i h
    unfold okL at h
    rw [Bool.and_eq_true] at h
    have := (famB_len h.1).2
    rw [aliveL_len]; omega
  · simp
end Go.Proofs.Ythmcimdnbapnhab
