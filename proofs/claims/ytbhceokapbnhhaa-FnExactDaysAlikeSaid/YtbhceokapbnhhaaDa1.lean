/- The days of a year, and whole years between days, of the program. -/
import Derived.Test.YtbhceokapbnhhaaIm2
import Derived.Deep.RegionHeld3
import Derived.Test.YtbhceokapbnhhaaDl1
set_option linter.unusedVariables false
set_option linter.unusedSimpArgs false
namespace Go.Proofs.Ytbhceokapbnhhaa
open Go.RowKit
theorem infoDay : (Try.prog.info? 69).map (fun i => (i.zero, i.size, i.bytes)) = some (some (.agg #[.int .i64 0, .int .i64 0]), 2, 16) := by kernel_rfl
def mixD (es : List Dt) (k : Nat) : List Dt := es.take k ++ List.replicate (es.length - k) (0, 0)
theorem mixD_len (es : List Dt) (k : Nat) (hk : k ≤ es.length) : (mixD es k).length = es.length := by simp [mixD]; omega
theorem mixD_all (es : List Dt) : mixD es es.length = es := by simp [mixD]
theorem mixD_set (es : List Dt) (k : Nat) (hk : k < es.length) : (mixD es k).set k (at2 es k) = mixD es (k + 1) := by
  unfold mixD at2
  have e : es.length - k = (es.length - (k + 1)) + 1 := by omega
  have hl : (es.take k).length = k := by simp; omega
  rw [e, List.replicate_succ, List.set_append]
  rw [hl, if_neg (by omega), Nat.sub_self, List.set_cons_zero, List.take_succ_eq_append_getElem (by omega)]
  have e2 : es.getD k (0, 0) = es[k]'(by omega) := by simp [List.getElem?_eq_getElem (show k < es.length by omega)]
  rw [e2]
  simp only [List.append_assoc, List.singleton_append]
theorem mixD_skip (es : List Dt) (k : Nat) (hk : k < es.length) (h : at2 es k = (0, 0)) : mixD es (k + 1) = mixD es k := by
  unfold mixD
  have e : es.length - k = (es.length - (k + 1)) + 1 := by omega
  have e2 : at2 es k = es[k]'(by omega) := by simp [at2, List.getElem?_eq_getElem (show k < es.length by omega)]
  rw [e, List.replicate_succ, List.take_succ_eq_append_getElem (by omega), ← e2, h]
  simp only [List.append_assoc, List.singleton_append]
theorem mixD_zero (es : List Dt) (n : Nat) (h : es.length = n) : (madeCells #[Value.int .i64 0, .int .i64 0] (n * 2)).toList = flatD (mixD es 0) := by
  subst h
  have h1 : mixD es 0 = List.replicate es.length (0, 0) := by simp [mixD]
  rw [h1]
  generalize es.length = n
  have h2 : ∀ n, flatD (List.replicate n (0, 0)) = List.replicate (n * 2) (Value.int .i64 0) := by
    intro n
    induction n with
    | zero => rfl
    | succ n ih => rw [List.replicate_succ, flatD_cons, ih, show (n + 1) * 2 = n * 2 + 1 + 1 by omega, List.replicate_succ, List.replicate_succ]
  rw [h2]
  refine List.eq_replicate_iff.2 ⟨by simp [madeCells], fun x hx => ?_⟩
  simp [madeCells] at hx
  obtain ⟨i, hi, rfl⟩ := hx
  have : i % 2 = 0 ∨ i % 2 = 1 := by omega
  rcases this with h | h <;> simp [h]
theorem mixD_step (es : List Dt) (k : Nat) (u v : Int) (hk : k < es.length) (h : at2 es k = (u, v)) : ((flatD (mixD es k)).set (k * 2) (.int .i64 u)).set (k * 2 + 1) (.int .i64 v) = flatD (mixD es (k + 1)) := by
  rw [flatD_set _ _ _ _ (by rw [mixD_len _ _ (by omega)]; exact hk), ← h, mixD_set es k hk]
theorem mid_of {n : Int} (h1 : -10000 ≤ n) (h2 : n ≤ 10000) : midI n := by unfold midI; omega

set_option maxHeartbeats 2000000 in
set_option maxRecDepth 100000 in
theorem imYearsAfter_any (y d y2 d2 : Int) (w : World) (h1 : midI y) (h2 : midI d) (h3 : midI y2) (h4 : midI d2) (h5 : midI (dys (y, d) - dys (y2, d2))) : Calls Try.prog 73 #[.agg #[.int .i64 y, .int .i64 d], .agg #[.int .i64 y2, .int .i64 d2]] w (Ret (.int .i64 ((dys (y, d) - dys (y2, d2)).tdiv 365)) w) := by
  have HW0 := Lib.hid ((((Below.refl w.heap.size w).alloc (Nat.le_refl _) (.cells #[.int .i64 y, .int .i64 d] 69)).alloc (by simp) (.cells #[.int .i64 y2, .int .i64 d2] 69)))
  have HD := Lib.hid (fun W => imDaysAfter_any y d y2 d2 W h1 h2 h3 h4)
  have hq := (tdiv_bounds h5)
  clear h1 h2 h3 h4
  generalize dys (y, d) - dys (y2, d2) = q at HD h5 hq ⊢
  go_enter Try.func73, Try.ntmps73
  go_wp2_with (go_at_call 60; refine (HD.out _).mono ?_; rintro e w' ⟨rfl, hcall⟩; have hbw : Below w.heap.size w w' := HW0.out.trans (hcall.mono (by simp <;> omega)))
  go_ret
  exact ⟨rfl, hbw⟩

/-- The days of a year. -/
def dayL (yr : Int) : List Dt := (List.range 365).map fun i => (yr, ((i : Nat) : Int) + 1)
theorem dayL_len (yr : Int) : (dayL yr).length = 365 := by simp [dayL]
theorem dayL_at (yr : Int) (k : Nat) (hk : k < 365) : at2 (dayL yr) k = (yr, (k : Int) + 1) := by
  simp [dayL, at2, List.getElem?_eq_getElem, hk]
def RetDays (yr : Int) (w : World) (e : Ending) (w' : World) : Prop :=
  ∃ g, w.heap.size ≤ g ∧ e = .returned (.slice (some ⟨g, 0, none⟩) 365 365) ∧ g < w'.heap.size ∧ Dts w' g 0 (dayL yr) ∧ Below w.heap.size w w'
theorem days_made {w w1 : World} (hown : w1.ownsRow w.heap.size 69 2 (.slice (some ⟨w.heap.size, 0, none⟩) 365 365) 365 (madeCells #[Value.int .i64 0, .int .i64 0] (365 * 2)).toList) (yr : Int) : w1.ownsRow w.heap.size 69 2 (.slice (some ⟨w.heap.size, 0, none⟩) 365 365) 365 (flatD (mixD (dayL yr) 0)) := by
  rw [← mixD_zero (dayL yr) 365 (dayL_len yr)]; exact hown
theorem row_dts {B T g c : Nat} {w : World} {es : List Dt} {n : Nat} (hl : es.length = n) (h : w.ownsRow B T 2 (.slice (some ⟨g, 0, none⟩) n c) n (flatD es)) : Dts w g 0 es := by
  intro j hj
  have e1 := World.ownsRow.cellAt h (j * 2) (by omega)
  have e2 := World.ownsRow.cellAt h (j * 2 + 1) (by omega)
  rw [Nat.zero_add, e1, e2]
  exact flatD_at es j hj
set_option maxHeartbeats 4000000 in
set_option maxRecDepth 100000 in
theorem imDaysOf_any (yr : Int) (w : World) (h0 : 0 ≤ yr ∧ yr ≤ 3000) : Calls Try.prog 74 #[.int .i64 yr] w (RetDays yr w) := by
  obtain ⟨i0, hi, hz0, hz1, hz2⟩ := info_parts infoDay
  have HES := Lib.hid (dayL_len yr)
  have HEA := Lib.hid (dayL_at yr)
  have HMX := Lib.hid (fun w1 hown => days_made (w := w) (w1 := w1) hown yr)
  generalize hes : dayL yr = es at HES HEA HMX
  have HE := Lib.hid hes
  clear hes
  go_enter Try.func74, Try.ntmps74
  go_wp2_with (first | (at_make; refine wpList_make_full _ rfl _ _ 67 rfl w.heap.size 69 i0 _ 2 Try.underlying67 hi hz0 hz1 .i64 .i64 365 365 365 rfl rfl rfl rfl ?c1 ?c2 ?c3 ?_))
  case c1 => rw [hz2]; omega
  case c2 => unfold maxLen; omega
  case c3 => exact Nat.le_refl _
  intro w1 hown hgr
  have hown2 := HMX.out w1 hown
  have hb1 : Below w.heap.size w w1 := (Below.refl w.heap.size w).grown hgr (Nat.le_refl _) (by intro k hk; cases hk)
  clear hown hgr HMX
  go_wp2
  go_loopw [8] (fun v wr => ∃ k : Nat, k ≤ 365 ∧ v = .int .i64 k ∧ wr.ownsRow w.heap.size 69 2 (.slice (some ⟨w.heap.size, 0, none⟩) 365 365) 365 (flatD (mixD es k)) ∧ Below w.heap.size w wr) (fun v _ => 365 - (intOf v).toNat)
  case atStart => exact ⟨0, Nat.zero_le _, rfl, hown2, hb1⟩
  case round =>
    obtain ⟨k, hk, rfl, hr, hb⟩ := hrel
    by_cases hlt : k < 365
    · have HM := Lib.hid (mixD_step es k yr ((k : Int) + 1) (by rw [HES.out]; exact hlt) (HEA.out k hlt))
      obtain ⟨u0, hu0⟩ : ∃ u, (flatD (mixD es k))[k * 2]? = some u := ⟨_, (flatD_at _ k (by rw [mixD_len _ _ (by rw [HES.out]; omega), HES.out]; exact hlt)).1⟩
      obtain ⟨u1, hu1⟩ : ∃ u, (flatD (mixD es k))[k * 2 + 1]? = some u := ⟨_, (flatD_at _ k (by rw [mixD_len _ _ (by rw [HES.out]; omega), HES.out]; exact hlt)).2⟩
      have hd0 := (World.ownsRow.cellAt hr (k * 2) (by omega)).trans hu0
      have hd1 := (World.ownsRow.cellAt hr (k * 2 + 1) (by omega)).trans hu1
      have hf0 := World.ownsRow.frozenAt hr (k * 2)
      have hf1 := World.ownsRow.frozenAt hr (k * 2 + 1)
      have HS := Lib.hid (World.ownsRow.stored (World.ownsRow.stored hr (k * 2) (.int .i64 yr)).1 (k * 2 + 1) (.int .i64 ((k : Int) + 1)))
      clear hu0 hu1 hr
      go_wp2_with fail
      go_roundw
      case rel => exact ⟨k + 1, by omega, by go_num, HM.out ▸ HS.out.1, (hb.setCell (Nat.le_refl _) _).setCell (Nat.le_refl _) _⟩
      case measure => simp [intOf]; omega
    · have hkn : k = 365 := by omega
      subst hkn
      have HM := Lib.hid (show mixD es 365 = dayL yr by rw [← HES.out, mixD_all, HE.out])
      rw [HM.out] at hr
      have hD := row_dts (dayL_len yr) hr
      have hlt0 := (World.ownsRow.lt hr w.heap.size rfl).2
      clear hr
      go_wp2_with fail
      go_ret
      exact ⟨w.heap.size, Nat.le_refl _, rfl, hlt0, hD, hb⟩
end Go.Proofs.Ytbhceokapbnhhaa
