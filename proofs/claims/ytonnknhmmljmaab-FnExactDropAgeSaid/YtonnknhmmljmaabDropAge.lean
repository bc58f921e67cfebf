/- DropAge: both texts. -/
import Derived.Test.YtonnknhmmljmaabOthers
import Derived.Test.YtonnknhmmljmaabWho
import Derived.Test.YtonnknhmmljmaabAdd
import Derived.Deep.RegionHeld3
import Derived.IntWalk
set_option linter.unusedVariables false
set_option linter.unusedSimpArgs false
namespace Go.Proofs.Ytonnknhmmljmaab
open Go.RowKit

theorem step_append_mine {P : Program} {w : World} {ops : Array Oper} {o : Oper} {a : Act} {K : Act → World → Prop} {Q : Exit → Act → World → Prop} {E : Prop} (hgd : o.guard = none) (s x : Operand) (t : TypeId)
    (ho : o.op = .call { callee := .builtin .append, args := #[s, x], argTypes := #[t, t] })
    (base : Nat) (e : TypeId) (i : TypeInfo) (z : Value) (size bytes : Nat) (ht : P.underlying t = some (.slice e)) (hi : P.info? e = some i) (hz : i.zero = some z)
    (hsize : i.size = size) (hby : i.bytes = bytes) (hzs : z.cells.size = size) (hsz : 0 < size)
    (v : Value) (n : Nat) (xs : List Value) (hs : a.eval s = v) (hown : w.ownsRow base e size v n xs)
    (ad : Addr) (m c : Nat) (news : List Value) (hx : a.eval x = .slice (some ad) m c) (hl : news.length = m * size) (hnews : ∀ j u, news[j]? = some u → w.cell? (ad.add j) = some u) (h1 : ∀ u ∈ news, u.oneCell' = true)
    (h63 : n + m ≤ maxLen) (hbytes : (n + m) * bytes ≤ 140737488355328) (hbase : base ≤ w.heap.size)
    (h : ∀ v' w', w'.ownsRow base e size v' (n + m) (xs ++ news) → w.grownBy w' v.ownBlock → K (a.put o.dst v') w') :
    if Region.wanted o (yielded ops a.tmps) = true then Oper.wp P o a w K Q else E := by
  have hw : Region.wanted o (yielded ops a.tmps) = true := by simp [Region.wanted, hgd]
  rw [if_pos hw]
  exact wp_append_own w s x t ho base e i z size bytes ht hi hz hsize hby hzs hsz v n xs hs hown ad m c news hx hl hnews h1 h63 hbytes hbase fun v' w' h2 h3 _ => h v' w' h2 h3

theorem ints_take {w : World} {b off : Nat} {zs : List Int} (h : Ints w b off zs) (k : Nat) : Ints w b off (zs.take k) := by
  intro j hj
  rw [List.length_take] at hj
  have := h j (by omega)
  simpa [List.getElem?_take, show j < k by omega] using this
theorem ints_drop {w : World} {b off : Nat} {zs : List Int} (h : Ints w b off zs) (k : Nat) : Ints w b (off + k) (zs.drop k) := by
  intro j hj
  rw [List.length_drop] at hj
  have := h (k + j) (by omega)
  rw [Nat.add_assoc, this]
  simp [List.getElem?_drop]
theorem take_drop_erase (zs : List Int) (k : Nat) : zs.take k ++ zs.drop (k + 1) = zs.eraseIdx k := (List.eraseIdx_eq_take_drop_succ zs k).symm

theorem own_len (b off c n : Nat) (zs : List Int) (w : World) (hl : zs.length = n) (hn : n ≤ 1048576) (hbl : b < w.heap.size) (hI : Ints w b off zs) :
    Calls Try.prog 51 #[.slice (some ⟨b, off, none⟩) n c] w (RetOwn zs w) := by
  subst hl; exact own_any b off c zs w hn hbl hI

def dropB (zs : List Int) (x : Int) : Bool := whoB zs x && !(decide (zs.length = 1))

set_option maxHeartbeats 1000000 in
theorem dropAge_yes (b off c who : Nat) (zs : List Int) (w : World) (hn : zs.length ≤ 1048576) (hI : Ints w b off zs) (hw : whoB zs who = true) (hw1 : who < zs.length) (h2 : 2 ≤ zs.length) :
    Calls Try.prog 33 #[.slice (some ⟨b, off, none⟩) zs.length c, .int .i64 who] w (RetOwnB (zs.eraseIdx who) true w) := by
  have hg := whoB_good hw
  have h8 := goodB_len hg
  have hne : ((zs.length : Int) == 1) = false := beq_eq_false_iff_ne.2 (by omega)
  go_enter Try.func33, Try.ntmps33
  go_wp2_with fail
  refine (householdOf_yes _ _ _ _ who zs _ rfl hn hI hg hw1).mono ?_
  rintro e w1 ⟨g, hg1, rfl, hP, hgs, hb⟩
  have hP1 := Lib.hid fun A => hP.kept ((Below.refl _ _).alloc (Nat.le_refl _) A) hgs
  have hb1 := Lib.hid fun A => hb.alloc hb.size A
  generalize ha : zs.getD who 0 = a
  have HA := Lib.hid ha
  clear ha hP
  go_wp2_with fail
  refine (others_any _ _ zs.length who a zs _ rfl h8.2 h2 hw1 (by simp; omega) (hP1.out _) HA.out).mono ?_
  rintro e w2 ⟨g2, c2, ns, rfl, hP2, hg2, hgs2, hb2⟩
  have hb2' := (hb1.out _).trans (hb2.mono (hb1.out _).size)
  have hel : (zs.eraseIdx who).length ≤ 1048576 := by have := List.length_eraseIdx_le zs who; omega
  go_wp2_with fail
  refine (agesOf_any _ _ _ ns (zs.eraseIdx who) _ rfl hel hgs2 hP2).mono ?_
  rintro e w3 ⟨g3, hg3, rfl, ho, hb3⟩
  go_wp2_with fail
  go_ret2
  exact ⟨_, rfl, ho.mono hb2'.size, hb2'.trans (hb3.mono hb2'.size)⟩

set_option maxHeartbeats 1000000 in
theorem dropAge_bad (b off c : Nat) (x : Int) (zs : List Int) (w : World) (hn : zs.length ≤ 1048576) (hbl : b < w.heap.size) (hI : Ints w b off zs) (hw : whoB zs x = false) :
    Calls Try.prog 33 #[.slice (some ⟨b, off, none⟩) zs.length c, .int .i64 x] w (RetOwnB [] false w) := by
  go_enter Try.func33, Try.ntmps33
  go_wp2_with fail
  refine (householdOf_no _ _ _ _ x zs _ rfl hn hI hbl hw).mono ?_
  rintro e w1 ⟨rfl, hb⟩
  go_wp2_with fail
  go_ret2
  exact ⟨_, rfl, own_nil _ _, hb.alloc hb.size _⟩
set_option maxHeartbeats 1000000 in
theorem dropAge_one (b off c who : Nat) (zs : List Int) (w : World) (hn : zs.length ≤ 1048576) (hI : Ints w b off zs) (hw : whoB zs who = true) (hw1 : who < zs.length) (h1 : zs.length = 1) :
    Calls Try.prog 33 #[.slice (some ⟨b, off, none⟩) zs.length c, .int .i64 who] w (RetOwnB [] false w) := by
  have hg := whoB_good hw
  have hne : ((zs.length : Int) == 1) = true := beq_iff_eq.2 (by omega)
  clear h1
  go_enter Try.func33, Try.ntmps33
  go_wp2_with fail
  refine (householdOf_yes _ _ _ _ who zs _ rfl hn hI hg hw1).mono ?_
  rintro e w1 ⟨g, hg1, rfl, hP, hgs, hb⟩
  generalize zs.getD who 0 = a
  go_wp2_with fail
  go_ret2
  exact ⟨_, rfl, own_nil _ _, hb.alloc hb.size _⟩

set_option maxHeartbeats 1000000 in
theorem specDropAge_bad (b off c : Nat) (x : Int) (zs : List Int) (w : World) (hn : zs.length ≤ 1048576) (hI : Ints w b off zs) (hw : whoB zs x = false) :
    Calls Try.prog 32 #[.slice (some ⟨b, off, none⟩) zs.length c, .int .i64 x] w (RetOwnB [] false w) := by
  go_enter Try.func32, Try.ntmps32
  go_wp2_with (first | (go_at_call 53; refine (agWho_any _ _ _ _ zs _ hn hI).mono ?_; rintro e w' ⟨rfl, rfl⟩))
  go_ret2
  exact ⟨_, rfl, own_nil _ _, Below.refl _ _⟩
set_option maxHeartbeats 1000000 in
theorem specDropAge_one (b off c : Nat) (x : Int) (zs : List Int) (w : World) (hn : zs.length ≤ 1048576) (hI : Ints w b off zs) (hw : whoB zs x = true) (h1 : zs.length = 1) :
    Calls Try.prog 32 #[.slice (some ⟨b, off, none⟩) zs.length c, .int .i64 x] w (RetOwnB [] false w) := by
  have hne : ((zs.length : Int) == 1) = true := beq_iff_eq.2 (by omega)
  clear h1
  go_enter Try.func32, Try.ntmps32
  go_wp2_with (first | (go_at_call 53; refine (agWho_any _ _ _ _ zs _ hn hI).mono ?_; rintro e w' ⟨rfl, rfl⟩))
  go_ret2
  exact ⟨_, rfl, own_nil _ _, Below.refl _ _⟩

set_option maxHeartbeats 1600000 in
theorem specDropAge_yes (b off c who : Nat) (zs : List Int) (w : World) (hn : zs.length ≤ 1048576) (hbl : b < w.heap.size) (hI : Ints w b off zs) (hw : whoB zs who = true) (hw1 : who < zs.length) (h2 : 2 ≤ zs.length) (hc : zs.length ≤ c) :
    Calls Try.prog 32 #[.slice (some ⟨b, off, none⟩) zs.length c, .int .i64 who] w (RetOwnB (zs.eraseIdx who) true w) := by
  obtain ⟨i0, hi, hz0, hz1, hz2⟩ := info_parts infoInt
  have hne : ((zs.length : Int) == 1) = false := beq_eq_false_iff_ne.2 (by omega)
  have h8 := goodB_len (whoB_good hw)
  go_enter Try.func32, Try.ntmps32
  go_wp2_with (first | (go_at_call 53; refine (agWho_any _ _ _ _ zs _ hn hI).mono ?_; rintro e w' ⟨rfl, rfl⟩))
  have hT := Lib.hid (fun (W : World) (h : Ints W b off zs) => ints_take h who)
  have hD : ∀ (W : World) (h : Ints W b off zs) j u, ((zs.drop (who + 1)).map (Value.int .i64))[j]? = some u → W.cell? ((⟨b, off + (who + 1), none⟩ : Addr).add j) = some u := (fun (W : World) (h : Ints W b off zs) => ints_cells (ints_drop h (who + 1)))
  have hDl : ((zs.drop (who + 1)).map (Value.int .i64)).length = (zs.length - (who + 1)) * 1 := by simp
  have hTl : (zs.take who).length = who := by simp; omega
  have hU : ∀ u ∈ (zs.drop (who + 1)).map (Value.int .i64), u.oneCell' = true := ints_oneCell .i64 (zs.drop (who + 1))
  have hE := Lib.hid (take_drop_erase zs who)
  have w0 : (0 : Int) ≤ (who : Int) := by omega
  have w1 : (who : Int) ≤ (c : Int) := by omega
  have w2 : (who : Int) + 1 ≤ (zs.length : Int) := by omega
  have HTl := Lib.hid hTl
  clear hTl
  have w3 : IntKind.i64.wrap ((who : Int) + 1) = (who : Int) + 1 := IntWalk.i64_in _ (by omega)
  have w4 : (0 : Int) ≤ (who : Int) + 1 := by omega
  have w5 : ((who : Int) + 1).toNat = who + 1 := by omega
  have HB0 : Below w.heap.size w w.drew := (Below.refl _ _).drew
  have HI0 : Ints w.drew b off zs := hI.kept HB0 hbl
  clear hw hne
  generalize hxs : (zs.drop (who + 1)).map (Value.int .i64) = xs at hDl hD hU
  have HX := Lib.hid hxs
  have HD := Lib.hid hD
  have HDl := Lib.hid hDl
  have HU := Lib.hid hU
  clear hxs hD hDl hU
  by_cases hcw : c = who + 1
  · have HX0 := Lib.hid (show zs.drop (who + 1) = [] from List.drop_of_length_le (by omega))
    obtain ⟨n, hnz⟩ : ∃ n, n = zs.length := ⟨_, rfl⟩
    have hnw : n = who + 1 := by omega
    subst hcw
    rw [← hnz] at *
    subst hnw
    clear w1
    have w1 : (who : Int) ≤ (who : Int) + 1 := by omega
    go_region_held3 (fun w' => Below w.heap.size w w' ∧ Ints w' b off zs)
      (first
        | go_keep
        | (go_split_ands
           refine ⟨?_, ?_⟩
           · exact Below.trans (by assumption) (Below.mono hcall (Below.size (by assumption)))
           · exact Ints.kept (by assumption) hcall (by have := Below.size (show Below w.heap.size w _ by assumption); omega))
        | (go_split_ands
           refine ⟨?_, ?_⟩
           · exact below_ownAbove (by assumption) ho hgrow2 (Nat.le_refl _)
           · exact hI.kept (below_ownAbove (by assumption) ho hgrow2 (Nat.le_refl _)) hbl))
      (first
        | (go_at_call 51; refine (own_len b off _ who (zs.take who) _ HTl.out (by omega) ?_ ?_).mono ?_; (go_split_ands; (have := Below.size (show Below w.heap.size w _ by assumption); omega)); (go_split_ands; exact hT.out _ (by assumption)); rintro e w' ⟨v, rfl, ho, hcall⟩)
        | (refine step_append_mine (by rfl) _ _ 22 (by rfl) w.heap.size 3 i0 (.int .i64 0) 1 8 Try.underlying22 hi hz0 hz1 hz2 rfl (by omega) v (zs.take who).length ((zs.take who).map (Value.int .i64)) (by rfl) ho ⟨b, off, none⟩ 0 0 [] (by rfl) rfl (fun j u h => by simp at h) (fun u h => by simp at h) (by rw [HTl.out]; unfold maxLen; omega) (by rw [HTl.out]; omega) (by have := hcall.size; exact this) ?_; intro v2 w2 hown2 hgrow2))
    obtain ⟨hbf, _⟩ := ‹Below w.heap.size w _ ∧ _›
    have hof : Own w.heap.size w2 v2 (zs.eraseIdx who) := by
      unfold Own
      rw [← hE.out, List.length_append, List.map_append, HX0.out]
      simpa using hown2
    go_wp2
    go_ret2
    exact ⟨_, rfl, hof, hbf⟩
  · have hcw2 : ¬ ((c : Int) = (who : Int) + 1) := by omega
    have hcw3 : ¬ (who + 1 = c) := by omega
    go_region_held3 (fun w' => Below w.heap.size w w' ∧ Ints w' b off zs)
      (first
        | go_keep
        | (go_split_ands
           refine ⟨?_, ?_⟩
           · exact Below.trans (by assumption) (Below.mono hcall (Below.size (by assumption)))
           · exact Ints.kept (by assumption) hcall (by have := Below.size (show Below w.heap.size w _ by assumption); omega))
        | (go_split_ands
           refine ⟨?_, ?_⟩
           · exact below_ownAbove (by assumption) ho hgrow2 (Nat.le_refl _)
           · exact hI.kept (below_ownAbove (by assumption) ho hgrow2 (Nat.le_refl _)) hbl))
      (first
        | (go_at_call 51; refine (own_len b off c who (zs.take who) _ HTl.out (by omega) ?_ ?_).mono ?_; (go_split_ands; (have := Below.size (show Below w.heap.size w _ by assumption); omega)); (go_split_ands; exact hT.out _ (by assumption)); rintro e w' ⟨v, rfl, ho, hcall⟩)
        | (refine step_append_mine (by rfl) _ _ 22 (by rfl) w.heap.size 3 i0 (.int .i64 0) 1 8 Try.underlying22 hi hz0 hz1 hz2 rfl (by omega) v (zs.take who).length ((zs.take who).map (Value.int .i64)) (by rfl) ho ⟨b, off + (who + 1), none⟩ (zs.length - (who + 1)) (c - (who + 1)) xs (by rfl) HDl.out (HD.out _ (by go_split_ands; assumption)) HU.out (by rw [HTl.out]; unfold maxLen; omega) (by rw [HTl.out]; omega) (by have := hcall.size; exact this) ?_; intro v2 w2 hown2 hgrow2))
    obtain ⟨hbf, _⟩ := ‹Below w.heap.size w _ ∧ _›
    have hof : Own w.heap.size w2 v2 (zs.eraseIdx who) := by
      unfold Own
      rw [← hE.out, List.length_append, List.map_append, HX.out]
      simpa using hown2
    go_wp2
    go_ret2
    exact ⟨_, rfl, hof, hbf⟩

theorem dropAge_both (zs : List Int) (x : Int) : ∃ rs ok, rs.length ≤ 1048576 ∧
    (∀ b c w, zs.length ≤ 1048576 → zs.length ≤ c → b < w.heap.size → Ints w b 0 zs → Calls Try.prog 32 #[.slice (some ⟨b, 0, none⟩) zs.length c, .int .i64 x] w (RetOwnB rs ok w)) ∧
    (∀ b c w, zs.length ≤ 1048576 → zs.length ≤ c → b < w.heap.size → Ints w b 0 zs → Calls Try.prog 33 #[.slice (some ⟨b, 0, none⟩) zs.length c, .int .i64 x] w (RetOwnB rs ok w)) := by
  cases h : whoB zs x with
  | false => exact ⟨[], false, by simp, fun b c w hn hc hbl hI => specDropAge_bad _ _ _ _ _ _ hn hI h, fun b c w hn hc hbl hI => dropAge_bad _ _ _ _ _ _ hn hbl hI h⟩
  | true =>
    obtain ⟨A, rfl, hA⟩ := whoB_nat h
    have h8 := goodB_len (whoB_good h)
    by_cases h1 : zs.length = 1
    · exact ⟨[], false, by simp, fun b c w hn hc hbl hI => specDropAge_one _ _ _ _ _ _ hn hI h h1, fun b c w hn hc hbl hI => dropAge_one _ _ _ _ _ _ hn hI h hA h1⟩
    · exact ⟨zs.eraseIdx A, true, by have := List.length_eraseIdx_le zs A; omega, fun b c w hn hc hbl hI => specDropAge_yes _ _ _ _ _ _ hn hbl hI h hA (by omega) hc, fun b c w hn hc hbl hI => dropAge_yes _ _ _ _ _ _ hn hI h hA (by omega)⟩
end Go.Proofs.Ytonnknhmmljmaab
