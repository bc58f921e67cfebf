/- How the model parses births. -/
import Derived.Test.YtmidobhfahpkcabDoorRDSplit
import Derived.Test.YtmidobhfahpkcabDoorCh
import Derived.Deep.RegionHeld3
set_option linter.unusedVariables false
set_option linter.unusedSimpArgs false
namespace Go.Proofs.YtmidobhfahpkcabDoor
open Go.RowKit

theorem step_append_mine {P : Program} {w : World} {ops : Array Oper} {o : Oper} {a : Act} {K : Act → World → Prop} {Q : Exit → Act → World → Prop} {E : Prop} (hgd : o.guard = none) (s x : Operand) (t : TypeId)
    (ho : o.op = .call { callee := .builtin .append, args := #[s, x], argTypes := #[t, t] })
    (base : Nat) (e : TypeId) (i : TypeInfo) (z : Value) (size bytes : Nat) (ht : P.underlying t = some (.slice e)) (hi : P.info? e = some i) (hz : i.zero = some z)
    (hsize : i.size = size) (hby : i.bytes = bytes) (hzs : z.cells.size = size) (hsz : 0 < size)
    (v : Value) (n : Nat) (xs : List Value) (hs : a.eval s = v) (hown : w.ownsRow base e size v n xs)
    (ad : Addr) (m c : Nat) (news : List Value) (hx : a.eval x = .slice (some ad) m c) (hl : news.length = m * size) (hnews : ∀ j u, news[j]? = some u → w.cell? (ad.add j) = some u) (h1 : ∀ u ∈ news, u.oneCell' = true)
    (h63 : n + m ≤ maxLen) (hbytes : (n + m) * bytes ≤ 140737488355328) (hbase : base ≤ w.heap.size)
    (h : ∀ v' w', w'.ownsRow base e size v' (n + m) (xs ++ news) → w.grownBy w' v.ownBlock → K (a.put o.dst v') w') :
    if Region.wanted o (yielded ops a.tmps) = true then Oper.wp P o a w K Q else E := by
  have hw : Region.wanted o (yielded ops a.tmps) = true := by simp [Region.wanted, hgd]
  rw [if_pos hw]
  exact wp_append_own w s x t ho base e i z size bytes ht hi hz hsize hby hzs hsz v n xs hs hown ad m c news hx hl hnews h1 h63 hbytes hbase fun v' w' h2 h3 _ => h v' w' h2 h3

theorem ownT_cases {B : Nat} {w : World} {v : Value} {ss : List ByteArray} (h : OwnT B w v ss) (hne : 0 < ss.length) :
    ∃ g c, v = .slice (some ⟨g, 0, none⟩) ss.length c ∧ B ≤ g ∧ g < w.heap.size ∧ ∀ j, j < ss.length → w.cell? ⟨g, j, none⟩ = some (.string (ss.getD j ByteArray.empty)) := by
  have h' := h
  rcases h.2 with ⟨h2, h3⟩ | ⟨g, cap, cur, rfl, h2, h3, h4, h5, h6, h7⟩
  · omega
  · refine ⟨g, cap, rfl, h2, (Array.getElem?_eq_some_iff.1 h3).1, fun j hj => ?_⟩
    have := World.ownsRow.cellAt h' j (by omega)
    rw [this]
    simp [List.getElem?_map, List.getElem?_eq_getElem hj, List.getD_eq_getElem?_getD]
theorem cuts_len1 (c : UInt8) (s : ByteArray) : 0 < (cuts c s).length := by unfold cuts; simp
theorem cuts_len2 (c : UInt8) (s : ByteArray) : (cuts c s).length ≤ s.size + 1 := by
  have := cutO_len c s s.size
  unfold cuts
  rw [List.length_append]
  simp only [List.length_cons, List.length_nil]
  omega
theorem cutO_size (c : UInt8) (s : ByteArray) : ∀ i, ∀ x ∈ cutO c s i, x.size ≤ s.size
  | 0, x, h => by simp [cutO] at h
  | i + 1, x, h => by
    unfold cutO at h
    split at h
    · rcases List.mem_append.1 h with h | h
      · exact cutO_size c s i x h
      · simp only [List.mem_singleton] at h
        rw [h, ByteArray.size_extract]; omega
    · exact cutO_size c s i x h
theorem cuts_size {c : UInt8} {s : ByteArray} : ∀ x ∈ cuts c s, x.size ≤ s.size := by
  intro x h
  unfold cuts at h
  rcases List.mem_append.1 h with h | h
  · exact cutO_size c s _ x h
  · simp only [List.mem_singleton] at h
    rw [h, ByteArray.size_extract]; omega
theorem getD_mem {l : List ByteArray} {k : Nat} (h : k < l.length) : l.getD k ByteArray.empty ∈ l := by
  rw [List.getD_eq_getElem?_getD, List.getElem?_eq_getElem h]
  exact List.getElem_mem h
/-- What the first k pieces read as. -/
def rdD (s : ByteArray) (k : Nat) : List Dt := ((cuts 44 s).take k).map pieceD
theorem rdD_succ (s : ByteArray) (k : Nat) (hk : k < (cuts 44 s).length) : rdD s (k + 1) = rdD s k ++ [pieceD ((cuts 44 s).getD k ByteArray.empty)] := by
  unfold rdD
  rw [List.take_succ_eq_append_getElem hk, List.map_append]
  simp [List.getElem?_eq_getElem hk, List.getD_eq_getElem?_getD]
theorem rdD_all (s : ByteArray) (k : Nat) (hk : (cuts 44 s).length ≤ k) : rdD s k = dsOf s := by unfold rdD dsOf; rw [List.take_of_length_le hk]
theorem rdD_len (s : ByteArray) (k : Nat) : (rdD s k).length ≤ (cuts 44 s).length := by unfold rdD; simp; omega
theorem dsOf_len (s : ByteArray) : (dsOf s).length = (cuts 44 s).length := by unfold dsOf; simp
theorem parsed_long {s : ByteArray} (h : 47 < s.size) : parsed s = false := by unfold parsed; rw [decide_eq_false (by omega)]; rfl
theorem parsed_bad {s : ByteArray} {k : Nat} (hk : k < (cuts 44 s).length) (h : pieceOk ((cuts 44 s).getD k ByteArray.empty) = false) : parsed s = false := by
  cases hp : parsed s with
  | false => rfl
  | true => rw [(parsed_parts hp).2.1 _ (getD_mem hk)] at h; cases h
theorem parsed_ok {s : ByteArray} (hs : s.size ≤ 47) (h : ∀ j, j < (cuts 44 s).length → pieceOk ((cuts 44 s).getD j ByteArray.empty) = true) : parsed s = chB (dsOf s) := by
  unfold parsed
  rw [decide_eq_true hs, Bool.true_and, show (cuts 44 s).all pieceOk = true from ?_, Bool.true_and]
  rw [List.all_eq_true]
  intro x hx
  obtain ⟨j, hj, rfl⟩ := List.getElem_of_mem hx
  have := h j hj
  rw [List.getD_eq_getElem?_getD, List.getElem?_eq_getElem hj] at this
  exact this
theorem parse_or {s : ByteArray} {rs : List Dt} {ok : Bool} (h1 : parsed s = ok) (h2 : parseOr s = rs) : rs = if ok = true then dsOf s else [] := by
  rw [← h1, ← h2]; rfl
theorem ownD_push {B : Nat} {w1 : World} {v' : Value} {ds : List Dt} {y d : Int} (h : w1.ownsRow B 37 2 v' (ds.length + 1) (flatD ds ++ [.int .i64 y, .int .i64 d])) : OwnD 37 B w1 v' (ds ++ [(y, d)]) := by
  unfold OwnD
  rw [List.length_append, flatD_snoc]
  exact h
theorem below_pushD {w wr w1 : World} {v : Value} {ds : List Dt} {o : Obj} (hb : Below w.heap.size w wr) (h : OwnD 37 w.heap.size wr v ds) (hg : (wr.alloc o).drew.grownBy w1 v.ownBlock) : Below w.heap.size w w1 := by
  refine ((hb.alloc hb.size o).drew).grown hg (by have := hb.size; simp; omega) ?_
  intro k hk
  rcases h.block with h | ⟨g, h, h2, h3⟩
  · rw [h] at hk; cases hk
  · rw [h] at hk; cases hk; exact h2
theorem cell_notOwn {T : TypeId} {B : Nat} {wr w w' : World} {v : Value} {ds : List Dt} {q o : Nat} {u : Value} (ho : OwnD T B wr v ds) (hq : wr.heap.size ≤ q) (hg : w.grownBy w' v.ownBlock) (h : w.cell? ⟨q, o, none⟩ = some u) : w'.cell? ⟨q, o, none⟩ = some u := by
  refine (World.cell?_of_block (w := w) (a := ⟨q, o, none⟩) (hg.block q (World.block_lt_of_cell? w _ h) ?_)).trans h
  rcases ho.block with e | ⟨g, e, _, h1⟩
  · rw [e]; simp
  · rw [e]; simp; omega
theorem newTwo (w : World) (y d : Int) (t : TypeId) : ∀ j u, [Value.int .i64 y, Value.int .i64 d][j]? = some u → (w.alloc (.cells #[.int .i64 y, .int .i64 d] t)).drew.cell? ((⟨w.heap.size, 0, none⟩ : Addr).add j) = some u := by
  intro j u h
  match j, h with
  | 0, h => simp at h; subst h; simp [go_sem, Addr.add]
  | 1, h => simp at h; subst h; simp [go_sem, Addr.add]
  | j + 2, h => simp at h
theorem two_ints (y d : Int) : ∀ u ∈ [Value.int .i64 y, Value.int .i64 d], u.oneCell' = true := by
  intro u hu; simp at hu; rcases hu with rfl | rfl <;> rfl

set_option maxHeartbeats 1000000 in
theorem biParse_long (s : ByteArray) (w : World) (h : 47 < s.size) : Calls Tryd.prog 21 #[.string s] w (RetOwnDB 37 [] false w) := by
  have hI : (47 : Int) < (s.size : Int) := by omega
  go_enter Tryd.func21, Tryd.ntmps21
  go_wp2_with fail
  go_ret2
  exact ⟨_, rfl, ownD_nil _ _ _, Below.refl _ _⟩

set_option maxHeartbeats 4000000 in
set_option maxRecDepth 100000 in
theorem biParse_of (s : ByteArray) (w : World) (h : s.size ≤ 47) (rs : List Dt) (ok : Bool) (hok : Hid (parsed s = ok)) (hrs : Hid (parseOr s = rs)) : Calls Tryd.prog 21 #[.string s] w (RetOwnDB 37 rs ok w) := by
  obtain ⟨i0, hi, hz0, hz1, hz2⟩ := info_parts infoDate
  have hI : ¬ (47 : Int) < (s.size : Int) := by omega
  have hl1 := cuts_len1 44 s
  have hl2 := cuts_len2 44 s
  have HCS := Lib.hid (fun (k : Nat) (hk : k < (cuts 44 s).length) => Nat.le_trans (cuts_size _ (getD_mem hk)) h)
  have HPB := Lib.hid (fun (k : Nat) (hk : k < (cuts 44 s).length) => parsed_bad hk)
  have HPO := Lib.hid (fun hh => parsed_ok h hh)
  have HRO := Lib.hid (parse_or hok.out hrs.out)
  have hS0 : Calls Tryd.prog 33 #[.string s, .int .u8 44] w (RetOwnT (cuts 44 s) w) := l1Split_any 44 s w (by omega)
  have HS0 := Lib.hid hS0
  clear hS0
  go_enter Tryd.func21, Tryd.ntmps21
  go_wp2_with fail
  refine (HS0.out).mono ?_
  rintro e w2 ⟨v, rfl, ho, hb0⟩
  obtain ⟨g, c, rfl, hg0, hg1, hcs⟩ := ownT_cases ho hl1
  have HC := Lib.hid hcs
  have hs0 := hb0.size
  clear ho hcs HS0
  obtain ⟨n, hn⟩ : ∃ n, (cuts 44 s).length = n := ⟨_, rfl⟩
  have HN := Lib.hid hn
  rw [hn] at hl1 hl2 HC HCS HPB HPO ⊢
  clear hn
  go_wp2_with fail
  go_loopw [4, 14] (fun o v wr => ∃ k : Nat, k ≤ n ∧ v = .int .i64 (k : Int) ∧ Hid (∀ j, j < k → pieceOk ((cuts 44 s).getD j ByteArray.empty) = true) ∧ OwnD 37 w2.heap.size wr o (rdD s k) ∧ Below w2.heap.size w2 wr) (fun _ v _ => ((n : Int) + 1 - intOf v).toNat)
  case atStart => exact ⟨0, by omega, rfl, Lib.hid (fun j hj => absurd hj (by omega)), ownD_nil _ _ _, Below.refl _ _⟩
  case round =>
    obtain ⟨k, hk, rfl, HA, ho, hb⟩ := hrel
    have hrl := rdD_len s k
    rw [HN.out] at hrl
    have hsz := hb.size
    by_cases hlt : k < n
    · have hc : wr.cell? ⟨g, k, none⟩ = some (.string ((cuts 44 s).getD k ByteArray.empty)) := (hb.cell (p := ⟨g, k, none⟩) hg1).trans (HC.out k hlt)
      have HR := Lib.hid (rdD_succ s k (by rw [HN.out]; exact hlt))
      have HB := Lib.hid (HPB.out k hlt)
      have hxs := HCS.out k hlt
      have HOK := Lib.hid (show pieceOk ((cuts 44 s).getD k ByteArray.empty) = decide ((cuts 58 ((cuts 44 s).getD k ByteArray.empty)).length = 2) from rfl)
      have HPD := Lib.hid (show pieceD ((cuts 44 s).getD k ByteArray.empty) = (readB ((cuts 58 ((cuts 44 s).getD k ByteArray.empty)).getD 0 ByteArray.empty), readB ((cuts 58 ((cuts 44 s).getD k ByteArray.empty)).getD 1 ByteArray.empty)) from rfl)
      have HA2 := Lib.hid (fun (hp : pieceOk ((cuts 44 s).getD k ByteArray.empty) = true) (j : Nat) (hj : j < k + 1) => (show pieceOk ((cuts 44 s).getD j ByteArray.empty) = true from by
        rcases Nat.lt_succ_iff_lt_or_eq.1 hj with hj | rfl
        · exact HA.out j hj
        · exact hp))
      generalize (cuts 44 s).getD k ByteArray.empty = x at hc HR HB hxs HOK HPD HA2
      have hl3 := cuts_len1 58 x
      have HSP := Lib.hid (fun W => (show Calls Tryd.prog 33 #[.string x, .int .u8 58] W (RetOwnT (cuts 58 x) W) from l1Split_any 58 x W (by omega)))
      generalize pieceD x = pd at HR HPD
      generalize pieceOk x = po at HB HOK HA2
      generalize cuts 58 x = ls at HOK HPD HSP hl3
      generalize rdD s k = xs at ho HR hrl
      clear hxs
      by_cases hm : ls.length = 2
      · have hp : po = true := by rw [HOK.out]; exact decide_eq_true hm
        have HA3 := Lib.hid (HA2.out hp)
        clear HA2 hp HOK HB
        go_wp2_with (first | (go_at_call 33; refine (HSP.out _).mono ?_; rintro e w3 ⟨v, rfl, ho3, hcall⟩; obtain ⟨q, cq, rfl, hq0, hq1, hqs⟩ := ownT_cases ho3 hl3; rw [hm] at hqs ⊢; have y0 := hqs 0 (by omega); have y1 := hqs 1 (by omega); have ho4 := ho.kept hcall; have hb4 := hb.trans (hcall.mono hsz); clear hqs ho3))
        generalize ls.getD 0 ByteArray.empty = s0 at y0 HPD
        generalize ls.getD 1 ByteArray.empty = s1 at y1 HPD
        have HR0 := Lib.hid (fun W => l1Read_any s0 W)
        have HR1 := Lib.hid (fun W => l1Read_any s1 W)
        generalize readB s0 = z0 at HR0 HPD
        generalize readB s1 = z1 at HR1 HPD
        have hbw := Lib.hid (fun w4 (h : World.grownBy (w3.alloc (.cells #[.int .i64 z0, .int .i64 z1] 37)).drew w4 u4.ownBlock) => below_pushD hb4 ho4 h)
        have HQ := Lib.hid (fun w4 (h : World.grownBy (w3.alloc (.cells #[.int .i64 z0, .int .i64 z1] 37)).drew w4 u4.ownBlock) => (show w4.cell? ⟨q, 0, none⟩ = some (.string s0) ∧ w4.cell? ⟨q, 1, none⟩ = some (.string s1) from ⟨cell_notOwn ho hq0 h (cell_above y0 _), cell_notOwn ho hq0 h (cell_above y1 _)⟩))
        have hsz4 := hb4.size
        have hrow : w3.ownsRow w2.heap.size 37 2 u4 xs.length (flatD xs) := ho4
        clear ho hb hcall
        go_region_held3 (fun w' => w'.cell? ⟨q, 0, none⟩ = some (.string s0) ∧ w'.cell? ⟨q, 1, none⟩ = some (.string s1))
          (first
            | exact ⟨y0, y1⟩
            | go_keep
            | exact HQ.out _ ⟨hgr.os, hgr.tape, hgr.output, hgr.size, hgr.block⟩
            | (go_split_ands
               exact HQ.out _ ⟨hgr.os, hgr.tape, hgr.output, hgr.size, hgr.block⟩))
          (first | (go_at_call_of 34 (Value.string s0); refine (HR0.out _).mono ?_; rintro e w' ⟨rfl, rfl⟩) | (go_at_call_of 34 (Value.string s1); refine (HR1.out _).mono ?_; rintro e w' ⟨rfl, rfl⟩) | (refine step_append_mine (by rfl) _ _ 26 (by rfl) w2.heap.size 37 i0 (.agg #[.int .i64 0, .int .i64 0]) 2 16 Tryd.underlying26 hi hz0 hz1 hz2 rfl (by omega) u4 xs.length (flatD xs) (by rfl) (World.ownsRow.drew (World.ownsRow.alloc hrow (.cells #[.int .i64 z0, .int .i64 z1] 37))) ⟨w3.heap.size, 0, none⟩ 1 1 [.int .i64 z0, .int .i64 z1] (by rfl) (by rfl) (newTwo w3 _ _ _) (two_ints _ _) (by unfold maxLen; omega) (by omega) (by simp; omega) ?_; intro v' w4 hown hgr))
        have hb5 := hbw.out w4 ⟨hgr.os, hgr.tape, hgr.output, hgr.size, hgr.block⟩
        have ho5 := ownD_push hown
        rw [← HPD.out, ← HR.out] at ho5
        clear hown hgr
        go_wp2_with fail
        go_roundw
        case rel => exact ⟨k + 1, by omega, by go_num, HA3, ho5, hb5⟩
        case measure => simp [intOf]; omega
      · have hp : po = false := by rw [HOK.out]; exact decide_eq_false hm
        have HF := Lib.hid (HB.out hp)
        obtain rfl : ok = false := hok.out.symm.trans HF.out
        obtain rfl : rs = [] := HRO.out
        have hm2 : ¬ ((ls.length : Nat) : Int) = 2 := by omega
        clear HA2 hp HOK HB
        go_wp2_with (first | (go_at_call 33; refine (HSP.out _).mono ?_; rintro e w3 ⟨v, rfl, ho3, hcall⟩; obtain ⟨q, cq, rfl, hq0, hq1, hqs⟩ := ownT_cases ho3 hl3; have hb4 := hb.trans (hcall.mono hsz); clear hqs ho3))
        go_ret2
        exact ⟨_, rfl, ownD_nil _ _ _, hb0.trans (hb4.mono hs0)⟩
    · have hkn : k = n := by omega
      subst hkn
      have HX := Lib.hid (HPO.out (fun j hj => HA.out j hj))
      rw [rdD_all s k (by rw [HN.out]; exact Nat.le_refl _)] at ho
      have hdl := dsOf_len s
      rw [HN.out] at hdl
      rcases ho.cases with ⟨rfl, h0⟩ | ⟨q, cq, rfl, hq0, hq1, hq2, hq3, hq4, hq5⟩
      · rw [h0] at hdl
        simp at hdl
        omega
      · have ho2 := ho.mono hs0
        have HGA := Lib.hid (fun W (hI : Dts W q 0 (dsOf s)) (hbl : q < W.heap.size) => raChain_any q 0 (dsOf s).length cq (dsOf s) W rfl hI hbl)
        rw [← HX.out, hok.out] at HGA
        subst hdl
        clear HC HCS HPB HPO HN HA HX hl1 hl2 hrl
        generalize dsOf s = es at *
        cases ok with
        | false =>
          obtain rfl : rs = [] := HRO.out
          go_wp2_with (go_at_call 14; refine (HGA.out _ hq4 hq1).mono ?_; rintro e w' ⟨rfl, hcall⟩)
          go_ret2
          exact ⟨_, rfl, ownD_nil _ _ _, hb0.trans ((hb.trans (hcall.mono hsz)).mono hs0)⟩
        | true =>
          obtain rfl : rs = es := HRO.out
          go_wp2_with (go_at_call 14; refine (HGA.out _ hq4 hq1).mono ?_; rintro e w' ⟨rfl, hcall⟩)
          go_ret2
          exact ⟨_, rfl, ho2.kept hcall, hb0.trans ((hb.trans (hcall.mono hsz)).mono hs0)⟩

theorem specParse_any (s : ByteArray) (w : World) : Calls Tryd.prog 10 #[.string s] w (RetOwnDB 37 (parseOr s) (parsed s) w) := by
  have hA : ∀ w, Calls Tryd.prog 21 #[.string s] w (RetOwnDB 37 (parseOr s) (parsed s) w) := by
    intro w
    by_cases h : s.size ≤ 47
    · exact biParse_of s w h _ _ (Lib.hid rfl) (Lib.hid rfl)
    · rw [parsed_not (parsed_long (by omega)), parsed_long (by omega)]
      exact biParse_long s w (by omega)
  go_enter Tryd.func10, Tryd.ntmps10
  go_wp2_with (go_at_call 21; refine (hA _).mono ?_; rintro e w' ⟨v, rfl, ho, hb⟩)
  go_ret2
  exact ⟨_, rfl, ho, hb⟩
end Go.Proofs.YtmidobhfahpkcabDoor
