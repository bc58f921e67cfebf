/- How the program parses families: pieces. -/
import Derived.Test.YthmcimdnbapnhabDoorFp2
import Derived.Test.YthmcimdnbapnhabDoorFEnvOf
set_option linter.unusedVariables false
set_option linter.unusedSimpArgs false
namespace Go.Proofs.YthmcimdnbapnhabDoor
open Go.RowKit

theorem splitB_pos (sep : ByteArray) (save k : Nat) (s : ByteArray) : 0 < (Lib.splitB sep save k s).length := by
  cases k with
  | zero => simp [Lib.splitB_zero]
  | succ k => unfold Lib.splitB; split <;> simp
theorem splitB_size (sep : ByteArray) (m : Nat) : ∀ (k : Nat) (s : ByteArray), s.size ≤ m → ∀ x ∈ Lib.splitB sep 0 k s, x.size ≤ m
  | 0, s, h, x, hx => by
    rw [Lib.splitB_zero] at hx
    simp only [List.mem_singleton] at hx
    rw [hx]; exact h
  | k + 1, s, h, x, hx => by
    unfold Lib.splitB at hx
    split at hx
    · simp only [List.mem_singleton] at hx
      rw [hx]; exact h
    · rcases List.mem_cons.1 hx with rfl | hx
      · rw [ByteArray.size_extract]; omega
      · exact splitB_size sep m k _ (by rw [ByteArray.size_extract]; omega) x hx
theorem cellsOf_at (done : List ByteArray) (N j : Nat) (hj : j < done.length) : (Lib.cellsOf done N)[j]? = some (.string (done.getD j ByteArray.empty)) := by
  unfold Lib.cellsOf
  rw [List.getElem?_toArray, List.getElem?_append_left (by simpa using hj)]
  simp [List.getElem?_eq_getElem hj]
theorem cut_sizes (s : ByteArray) : (⟨(Lib.cut s.data.toList [46]).1.toArray⟩ : ByteArray).size ≤ s.size ∧ (⟨(Lib.cut s.data.toList [46]).2.1.toArray⟩ : ByteArray).size ≤ s.size := by
  have hl : s.data.toList.length = s.size := (Lib.size_eq s).symm
  unfold Lib.cut
  split
  · constructor
    · show ((s.data.toList.take _).toArray).size ≤ _
      rw [List.size_toArray, List.length_take]; omega
    · show ((s.data.toList.drop _).toArray).size ≤ _
      rw [List.size_toArray, List.length_drop]; omega
  · constructor
    · show ((s.data.toList).toArray).size ≤ _
      rw [List.size_toArray]; omega
    · show (([] : List UInt8).toArray).size ≤ _
      simp
theorem atoi_any (s : ByteArray) (hs : s.size ≤ 1048576) (w : World) (E : EnvE w) :
    Calls Tryd.prog 40 #[.string s] w fun e w' => ∃ v er, e = .returned (.tuple #[.int .i64 v, er]) ∧ (∀ z, Lib.atoiAll s.data.toList = .ok z → v = z) ∧ Below w.heap.size w w' := by
  by_cases h : ∃ v, Lib.atoiAll s.data.toList = .ok v
  · obtain ⟨v, hv⟩ := h
    refine (atoi_ok s hs v hv w).mono ?_
    rintro e w' ⟨rfl, hb⟩
    refine ⟨_, _, rfl, fun z hz => ?_, hb⟩
    rw [hv] at hz
    injection hz
  · refine (atoi_bad s hs (fun v hv => h ⟨v, hv⟩) w E).mono ?_
    rintro e w' ⟨v, te, pe, rfl, hb⟩
    exact ⟨_, _, rfl, fun z hz => absurd ⟨z, hz⟩ h, hb⟩
theorem three_cells {w : World} {B : Nat} {x0 x1 x2 : Value} (r0 : w.cell? ⟨B, 0, none⟩ = some x0) (r1 : w.cell? ⟨B, 1, none⟩ = some x1) (r2 : w.cell? ⟨B, 2, none⟩ = some x2) :
    (∀ v, (w.setCell ⟨B, 0, none⟩ v).cell? ⟨B, 0, none⟩ = some v) ∧ (∀ v0 v, ((w.setCell ⟨B, 0, none⟩ v0).setCell ⟨B, 1, none⟩ v).cell? ⟨B, 1, none⟩ = some v) ∧
    (∀ v0 v1 v, (((w.setCell ⟨B, 0, none⟩ v0).setCell ⟨B, 1, none⟩ v1).setCell ⟨B, 2, none⟩ v).cell? ⟨B, 2, none⟩ = some v) := by
  refine ⟨fun v => World.cell?_setCell_same _ _ _ r0, fun v0 v => World.cell?_setCell_same _ _ _ (u := x1) ?_, fun v0 v1 v => World.cell?_setCell_same _ _ _ (u := x2) ?_⟩
  · simp [go_sem, r1]
  · simp [go_sem, r2]
theorem cutL_no {l : List UInt8} (h : (46 : UInt8) ∉ l) : Lib.cut l [46] = (l, [], false) := by
  unfold Lib.cut
  rw [index_none h, if_neg (by omega)]
theorem cutL_yes {a : List UInt8} (h : (46 : UInt8) ∉ a) (r : List UInt8) : Lib.cut (a ++ 46 :: r) [46] = (a, r, true) := by
  unfold Lib.cut
  rw [index_some h, if_pos (by omega)]
  simp
/-- The number of a text, -1 where it is none. -/
def RetPar (x : ByteArray) (w : World) (e : Ending) (w' : World) : Prop :=
  ∃ v : Int, e = .returned (.int .i64 v) ∧ (∀ z, Lib.atoiAll x.data.toList = .ok z → v = z) ∧ ((∀ z, Lib.atoiAll x.data.toList ≠ .ok z) → v = -1) ∧ Below w.heap.size w w'
theorem parseParent_any (x : ByteArray) (hx : x.size ≤ 1048576) (w : World) (E : EnvE w) : Calls Tryd.prog 41 #[.string x] w (RetPar x w) := by
  by_cases h : ∃ v, Lib.atoiAll x.data.toList = .ok v
  · obtain ⟨v, hv⟩ := h
    have HC := Lib.hid (atoi_ok x hx v hv w)
    have HF : Hid ((∀ z, Lib.atoiAll x.data.toList = .ok z → v = z) ∧ ((∀ z, Lib.atoiAll x.data.toList ≠ .ok z) → v = -1)) := Lib.hid ⟨fun z hz => by rw [hv] at hz; injection hz, fun hz => absurd hv (hz v)⟩
    clear hv
    go_enter Tryd.func41, Tryd.ntmps41
    go_wp2_with (go_at_call 40; refine (HC.out).mono ?_; rintro e w1 ⟨rfl, hb⟩)
    go_ret
    exact ⟨v, rfl, HF.out.1, HF.out.2, hb⟩
  · have HC := Lib.hid (atoi_bad x hx (fun v hv => h ⟨v, hv⟩) w E)
    have HF : Hid (∀ z, Lib.atoiAll x.data.toList ≠ .ok z) := Lib.hid (fun z hz => h ⟨z, hz⟩)
    clear h E
    go_enter Tryd.func41, Tryd.ntmps41
    go_wp2_with (go_at_call 40; refine (HC.out).mono ?_; rintro e w1 ⟨v, te, pe, rfl, hb⟩)
    go_ret
    exact ⟨-1, rfl, fun z hz => absurd hz (HF.out z), fun _ => rfl, hb⟩
theorem atoi_nil : ∀ z, Lib.atoiAll ([] : List UInt8) ≠ .ok z := by
  intro z h
  cases h
/-- Kin that a piece may be. -/
def RetAnyK (x : ByteArray) (w : World) (e : Ending) (w' : World) : Prop :=
  ∃ y f o : Int, e = .returned (.agg #[.int .i64 y, .int .i64 f, .int .i64 o]) ∧ (∀ fs k, famB fs = true → k < fs.length → x = wordK fs k → (y, f, o) = at3 fs k) ∧ Below w.heap.size w w'
theorem anyK_end {x yt pt ft ot : ByteArray} {v f o : Int} (hyt : yt = ⟨(Lib.cut x.data.toList [46]).1.toArray⟩) (hpt : pt = ⟨(Lib.cut x.data.toList [46]).2.1.toArray⟩)
    (hft : ft = ⟨(Lib.cut pt.data.toList [46]).1.toArray⟩) (hot : ot = ⟨(Lib.cut pt.data.toList [46]).2.1.toArray⟩)
    (hv : ∀ z, Lib.atoiAll yt.data.toList = .ok z → v = z)
    (hf1 : ∀ z, Lib.atoiAll ft.data.toList = .ok z → f = z) (hf2 : (∀ z, Lib.atoiAll ft.data.toList ≠ .ok z) → f = -1)
    (ho1 : ∀ z, Lib.atoiAll ot.data.toList = .ok z → o = z) (ho2 : (∀ z, Lib.atoiAll ot.data.toList ≠ .ok z) → o = -1) :
    ∀ fs k, famB fs = true → k < fs.length → x = wordK fs k → (v, f, o) = at3 fs k := by
  intro fs k hf hk hx
  have hb := fitB_born (famB_at hf k hk)
  have hw := word_data hf hk
  rw [← hx] at hw
  have hys := sign_dec (n := (at3 fs k).1.toNat) (by omega)
  have hya := atoi_dec (n := (at3 fs k).1.toNat) (by omega)
  have e0 : (((at3 fs k).1.toNat : Nat) : Int) = (at3 fs k).1 := by omega
  rw [triple_eta fs k]
  unfold partsL at hw
  rcases par_cases hf hk with ⟨h1, h2, h3⟩ | ⟨h1, h2, h3⟩ | ⟨h1, h2, h3⟩
  · rw [h1, List.map_nil, Lib.join_one] at hw
    rw [hw, cutL_no hys.2] at hyt hpt
    subst hyt; subst hpt
    rw [cutL_no (by simp)] at hft hot
    subst hft; subst hot
    have a1 := hv _ hya
    have a2 := hf2 atoi_nil
    have a3 := ho2 atoi_nil
    rw [a1, a2, a3, h2, h3, e0]
  · have hps := sign_dec (n := (at3 fs k).2.1.toNat) (by omega)
    have hpa := atoi_dec (n := (at3 fs k).2.1.toNat) (by omega)
    have e1 : (((at3 fs k).2.1.toNat : Nat) : Int) = (at3 fs k).2.1 := by omega
    rw [h1, List.map_cons, List.map_nil, Lib.join_cons, show Lib.joinTail [46] [Lib.decDigits (at3 fs k).2.1.toNat] = 46 :: Lib.decDigits (at3 fs k).2.1.toNat from by simp [Lib.joinTail]] at hw
    rw [hw, cutL_yes hys.2] at hyt hpt
    subst hyt; subst hpt
    rw [show (⟨(Lib.decDigits (at3 fs k).2.1.toNat).toArray⟩ : ByteArray).data.toList = Lib.decDigits (at3 fs k).2.1.toNat from by simp, cutL_no hps.2] at hft hot
    subst hft; subst hot
    have a1 := hv _ hya
    have a2 := hf1 _ hpa
    have a3 := ho2 atoi_nil
    rw [a1, a2, a3, h3, e0, e1]
  · have hps := sign_dec (n := (at3 fs k).2.1.toNat) (by omega)
    have hpa := atoi_dec (n := (at3 fs k).2.1.toNat) (by omega)
    have hqa := atoi_dec (n := (at3 fs k).2.2.toNat) (by omega)
    have e1 : (((at3 fs k).2.1.toNat : Nat) : Int) = (at3 fs k).2.1 := by omega
    have e2 : (((at3 fs k).2.2.toNat : Nat) : Int) = (at3 fs k).2.2 := by omega
    rw [h1, List.map_cons, List.map_cons, List.map_nil, Lib.join_cons, show Lib.joinTail [46] [Lib.decDigits (at3 fs k).2.1.toNat, Lib.decDigits (at3 fs k).2.2.toNat] = 46 :: (Lib.decDigits (at3 fs k).2.1.toNat ++ 46 :: Lib.decDigits (at3 fs k).2.2.toNat) from by simp [Lib.joinTail]] at hw
    rw [hw, cutL_yes hys.2] at hyt hpt
    subst hyt; subst hpt
    rw [show (⟨(Lib.decDigits (at3 fs k).2.1.toNat ++ 46 :: Lib.decDigits (at3 fs k).2.2.toNat).toArray⟩ : ByteArray).data.toList = Lib.decDigits (at3 fs k).2.1.toNat ++ 46 :: Lib.decDigits (at3 fs k).2.2.toNat from by simp, cutL_yes hps.2] at hft hot
    subst hft; subst hot
    have a1 := hv _ hya
    have a2 := hf1 _ hpa
    have a3 := ho1 _ hqa
    rw [a1, a2, a3, e0, e1, e2]
set_option maxHeartbeats 4000000 in
set_option maxRecDepth 100000 in
theorem parseKin_any (x : ByteArray) (hx : x.size ≤ 1048576) (w : World) (E : EnvE w) : Calls Tryd.prog 25 #[.string x] w (RetAnyK x w) := by
  obtain ⟨m, hm⟩ := E.max
  have HW0 := Lib.hid ((Below.refl w.heap.size w).alloc (Nat.le_refl _) (.cells #[.int .i64 0, .int .i64 0, .int .i64 0] 37))
  have HC := Lib.hid (fun (y : ByteArray) (hy : y.size ≤ 1048576) (W : World) (hW : Below w.heap.size w W) => strings_Cut y { data := #[46] } m W (by omega) (cell_kept hm hW))
  have hcs := cut_sizes x
  obtain ⟨yt, hyt⟩ : ∃ yt : ByteArray, yt = ⟨(Lib.cut x.data.toList [46]).1.toArray⟩ := ⟨_, rfl⟩
  obtain ⟨pt, hpt⟩ : ∃ pt : ByteArray, pt = ⟨(Lib.cut x.data.toList [46]).2.1.toArray⟩ := ⟨_, rfl⟩
  obtain ⟨fd, hfd⟩ : ∃ fd : Bool, fd = (Lib.cut x.data.toList [46]).2.2 := ⟨_, rfl⟩
  have hcs2 := cut_sizes pt
  obtain ⟨ft, hft⟩ : ∃ ft : ByteArray, ft = ⟨(Lib.cut pt.data.toList [46]).1.toArray⟩ := ⟨_, rfl⟩
  obtain ⟨ot, hot⟩ : ∃ ot : ByteArray, ot = ⟨(Lib.cut pt.data.toList [46]).2.1.toArray⟩ := ⟨_, rfl⟩
  obtain ⟨gd, hgd⟩ : ∃ gd : Bool, gd = (Lib.cut pt.data.toList [46]).2.2 := ⟨_, rfl⟩
  have HC1 := Lib.hid (fun W hW => HC.out x hx W hW)
  rw [show ({ data := #[46] } : ByteArray).data.toList = [46] from rfl, ← hyt, ← hpt, ← hfd] at HC1
  rw [← hyt, ← hpt] at hcs
  have HC2 := Lib.hid (fun W hW => HC.out pt (by omega) W hW)
  rw [show ({ data := #[46] } : ByteArray).data.toList = [46] from rfl, ← hft, ← hot, ← hgd] at HC2
  rw [← hft, ← hot] at hcs2
  have hs1 : yt.size ≤ 1048576 := by omega
  have hs2 : ft.size ≤ 1048576 := by omega
  have hs3 : ot.size ≤ 1048576 := by omega
  have HAY := Lib.hid (fun (W : World) (hW : Below w.heap.size w W) => atoi_any yt hs1 W (E.kept hW))
  have HPF := Lib.hid (fun (W : World) (hW : Below w.heap.size w W) => parseParent_any ft hs2 W (E.kept hW))
  have HPO := Lib.hid (fun (W : World) (hW : Below w.heap.size w W) => parseParent_any ot hs3 W (E.kept hW))
  have HY := Lib.hid (fun v f o hv hf1 hf2 ho1 ho2 => anyK_end (v := v) (f := f) (o := o) hyt hpt hft hot hv hf1 hf2 ho1 ho2)
  clear hcs hcs2 hfd hgd hm hyt hpt hft hot E HC
  have HZ0 : Hid (∀ W, Below (w.alloc (.cells #[.int .i64 0, .int .i64 0, .int .i64 0] 37)).heap.size (w.alloc (.cells #[.int .i64 0, .int .i64 0, .int .i64 0] 37)) W → (W.cell? ⟨w.heap.size, 0, none⟩ = some (.int .i64 0) ∧ W.cell? ⟨w.heap.size, 1, none⟩ = some (.int .i64 0) ∧ W.cell? ⟨w.heap.size, 2, none⟩ = some (.int .i64 0)) ∧ ∀ i, W.frozen? ⟨w.heap.size, i, none⟩ = false) := Lib.hid (fun W hb =>
    ⟨⟨below_cell2 hb (by simp [go_sem]), below_cell2 hb (by simp [go_sem]), below_cell2 hb (by simp [go_sem])⟩, fun i => (hb.frozen (p := ⟨w.heap.size, i, none⟩) (by simp)).trans (by simp [go_sem])⟩)
  have HTR : Hid (∀ W, Below (w.alloc (.cells #[.int .i64 0, .int .i64 0, .int .i64 0] 37)).heap.size (w.alloc (.cells #[.int .i64 0, .int .i64 0, .int .i64 0] 37)) W → Below w.heap.size w W) := Lib.hid (fun W hb => HW0.out.trans (hb.mono HW0.out.size))
  go_enter Tryd.func25, Tryd.ntmps25
  go_wp2_with (first
    | (go_at_call_of 39 (Value.string x); refine (HC1.out _ (HTR.out _ (Below.refl _ _))).mono ?_; rintro e w1 ⟨rfl, nn, hw1⟩; have hb1 := Lib.hid (show Below (w.alloc (.cells #[.int .i64 0, .int .i64 0, .int .i64 0] 37)).heap.size (w.alloc (.cells #[.int .i64 0, .int .i64 0, .int .i64 0] 37)) w1 from hw1 ▸ below_drewN (Below.refl (w.alloc (.cells #[.int .i64 0, .int .i64 0, .int .i64 0] 37)).heap.size (w.alloc (.cells #[.int .i64 0, .int .i64 0, .int .i64 0] 37))) nn); clear hw1)
    | (go_at_call_of 39 (Value.string pt); refine (HC2.out _ (HTR.out _ hb1.out)).mono ?_; rintro e w2 ⟨rfl, mm, hw2⟩; have hb2 := Lib.hid (show Below (w.alloc (.cells #[.int .i64 0, .int .i64 0, .int .i64 0] 37)).heap.size (w.alloc (.cells #[.int .i64 0, .int .i64 0, .int .i64 0] 37)) w2 from hw2 ▸ below_drewN hb1.out mm); clear hw2)
    | (go_at_call 40; refine (HAY.out _ (HTR.out _ hb2.out)).mono ?_; rintro e w3 ⟨v, er, rfl, hv, hb3'⟩; have HV := Lib.hid hv; have hb3 := Lib.hid (hb2.out.trans (hb3'.mono hb2.out.size)); clear hv hb3')
    | (go_at_call_of 41 (Value.string ft); refine (HPF.out _ (HTR.out _ hb3.out)).mono ?_; rintro e w4 ⟨f, rfl, hf1, hf2, hb4'⟩; have HF := Lib.hid (And.intro hf1 hf2); have hb4 := Lib.hid (hb3.out.trans (hb4'.mono hb3.out.size)); clear hf1 hf2 hb4')
    | (go_at_call_of 41 (Value.string ot); refine (HPO.out _ (HTR.out _ hb4.out)).mono ?_; rintro e w5 ⟨o, rfl, ho1, ho2, hb5'⟩; have HO := Lib.hid (And.intro ho1 ho2); have hb5 := Lib.hid (hb4.out.trans (hb5'.mono hb4.out.size)); obtain ⟨⟨r0, r1, r2⟩, z⟩ := HZ0.out _ hb5.out; clear ho1 ho2 hb5'))
  obtain ⟨s0, s1, s2⟩ := three_cells r0 r1 r2
  refine bodyPost_ret (v := .agg #[.int .i64 v, .int .i64 f, .int .i64 o]) (by simp [results, Tryd.results25, go_sem, s0, s1, s2]) rfl ?_
  exact ⟨v, f, o, rfl, HY.out v f o HV.out HF.out.1 HF.out.2 HO.out.1 HO.out.2, (((HTR.out _ hb5.out).setCell (Nat.le_refl _) _).setCell (Nat.le_refl _) _).setCell (Nat.le_refl _) _⟩
end Go.Proofs.YthmcimdnbapnhabDoor
