/- Families in memory; parents and children: the model's text. -/
import Derived.Test.YtmlcelleohhmcaaFa1
set_option linter.unusedVariables false
set_option linter.unusedSimpArgs false
namespace Go.Proofs.Ytmlcelleohhmcaa
open Go.RowKit

theorem mem_getD (zs : List Int) (x : Int) : x ∈ zs ↔ ∃ j, j < zs.length ∧ zs.getD j 0 = x := by
  constructor
  · intro h
    obtain ⟨j, hj, e⟩ := List.getElem_of_mem h
    exact ⟨j, hj, by simp [List.getElem?_eq_getElem hj, e]⟩
  · rintro ⟨j, hj, rfl⟩
    simp [List.getElem?_eq_getElem hj]
/-- Two increasing lists of the same numbers are one. -/
theorem incr_eq : ∀ {l m : List Int}, l.Pairwise (· < ·) → m.Pairwise (· < ·) → (∀ x, x ∈ l ↔ x ∈ m) → l = m
  | [], [], _, _, _ => rfl
  | [], y :: m, _, _, h => by have := (h y).2 (by simp); simp at this
  | x :: l, [], _, _, h => by have := (h x).1 (by simp); simp at this
  | x :: l, y :: m, h1, h2, h => by
    rw [List.pairwise_cons] at h1 h2
    have exy : x = y := by
      have a := (h x).1 (by simp)
      have b := (h y).2 (by simp)
      simp only [List.mem_cons] at a b
      rcases a with a | a
      · exact a
      · rcases b with b | b
        · exact b.symm
        · have := h1.1 y b
          have := h2.1 x a
          omega
    subst exy
    congr 1
    refine incr_eq h1.2 h2.2 fun z => ?_
    have hz := h z
    simp only [List.mem_cons] at hz
    constructor
    · intro hl
      rcases hz.1 (.inr hl) with e | e
      · have := h1.1 z hl; omega
      · exact e
    · intro hm
      rcases hz.2 (.inr hm) with e | e
      · have := h2.1 z hm; omega
      · exact e
set_option maxHeartbeats 1600000 in
theorem l1Has_some (b n c : Nat) (zs : List Int) (x : Int) (w : World) (hl : zs.length = n) (hn : n ≤ 1000000) (hI : Ints w b 0 zs) :
    Calls Try.prog 48 #[.slice (some ⟨b, 0, none⟩) n c, .int .i64 x] w (RetSame (.bool (zs.contains x)) w) := by
  have HL := Lib.hid hl
  have HI := Lib.hid hI
  have HY := Lib.hid (fun k (h : k < zs.length) (e : zs.getD k 0 = x) => (show zs.contains x = true by
    rw [List.contains_iff_mem, mem_getD]; exact ⟨k, h, e⟩))
  have HN := Lib.hid (fun (h : ∀ j, j < zs.length → zs.getD j 0 ≠ x) => (show zs.contains x = false by
    rw [← Bool.not_eq_true, List.contains_iff_mem, mem_getD]
    rintro ⟨j, hj, e⟩
    exact h j hj e))
  clear hl hI
  generalize zs.contains x = r at HY HN ⊢
  go_enter Try.func48, Try.ntmps48
  go_wp2
  go_loop [9] (fun v => ∃ k : Nat, k ≤ n ∧ v = .int .i64 k ∧ Hid (∀ j, j < k → zs.getD j 0 ≠ x)) (fun v => n - (intOf v).toNat)
  case atStart => exact ⟨0, Nat.zero_le _, rfl, Lib.hid (fun j hj => by omega)⟩
  case round =>
    obtain ⟨k, hkn, rfl, HP⟩ := hrel
    by_cases hlt : k < n
    · have hkr : k < zs.length := by rw [HL.out]; exact hlt
      have hc := HI.out k hkr
      rw [Nat.zero_add] at hc
      have HE := Lib.hid (HY.out k hkr)
      have HX := Lib.hid (fun (hne : zs.getD k 0 ≠ x) => (show ∀ j, j < k + 1 → zs.getD j 0 ≠ x from fun j hj => by
        by_cases e : j = k
        · subst e; exact hne
        · exact HP.out j (by omega)))
      generalize zs.getD k 0 = z at hc HE HX
      by_cases he : z = x
      · have hr := HE.out he
        subst hr
        subst he
        have d : (z == z) = true := by simp
        go_wp2
        go_ret
        exact ⟨rfl, rfl⟩
      · have d : (z == x) = false := by rw [beq_eq_false_iff_ne]; exact he
        have HX2 := Lib.hid (HX.out he)
        clear HE HX HP
        go_wp2
        go_round
        case rel => exact ⟨k + 1, by omega, by go_num, HX2⟩
        case measure => simp [intOf]; omega
    · have hkn2 : k = n := by omega
      have hr := HN.out (fun j hj => HP.out j (by rw [HL.out] at hj; omega))
      subst hr
      clear hkn2
      go_wp2
      go_ret
      exact ⟨rfl, rfl⟩
set_option maxHeartbeats 1600000 in
theorem l1Has_any (B : Nat) (v : Value) (zs : List Int) (x : Int) (w : World) (hn : zs.length ≤ 1000000) (h : Own B w v zs) :
    Calls Try.prog 48 #[v, .int .i64 x] w (RetSame (.bool (zs.contains x)) w) := by
  rcases h.cases with ⟨rfl, rfl⟩ | ⟨g, c, rfl, _, _, _, _, hI, _⟩
  · rw [show List.contains ([] : List Int) x = false from rfl]
    clear h
    go_enter Try.func48, Try.ntmps48
    go_wp2
    go_loop [9] (fun v => v = .int .i64 0) (fun _ => 0)
    case atStart => exact rfl
    case round =>
      obtain rfl := hrel
      go_wp2
      go_ret
      exact ⟨rfl, rfl⟩
  · exact l1Has_some g zs.length c zs x w rfl hn hI

/-- A family of at most 14 lies in block b. -/
structure Fm (fs : List Kn) (w : World) (b c : Nat) : Prop where
  kns : Kns w b 0 fs
  lt : b < w.heap.size
  cap : fs.length ≤ c
  few : fs.length ≤ 14
theorem Fm.kept {fs : List Kn} {w w' : World} {b c : Nat} (h : Fm fs w b c) (hb : Below w.heap.size w w') : Fm fs w' b c :=
  ⟨h.kns.kept hb h.lt, Nat.lt_of_lt_of_le h.lt hb.size, h.cap, h.few⟩
theorem Fm.under {fs : List Kn} {w w1 w' : World} {b c : Nat} (h : Fm fs w b c) (hb : Below w.heap.size w w') : Fm fs w' b c := h.kept hb
/-- The known parents. -/
def parI (fs : List Kn) (i : Nat) : List Int := [(at3 fs i).2.1, (at3 fs i).2.2].filter fun x => decide (0 ≤ x)
/-- The first k of the numbers that are not below 0. -/
def posT (zs : List Int) (k : Nat) : List Int := (zs.take k).filter fun x => decide (0 ≤ x)
theorem posT_yes {zs : List Int} {k : Nat} (hk : k < zs.length) (h : 0 ≤ zs.getD k 0) : posT zs (k + 1) = posT zs k ++ [zs.getD k 0] := by
  have e : zs.getD k 0 = zs[k] := by simp [List.getElem?_eq_getElem hk]
  rw [e] at h ⊢
  unfold posT
  rw [List.take_succ_eq_append_getElem hk, List.filter_append, List.filter_cons, if_pos (by simpa using h), List.filter_nil]
theorem posT_no {zs : List Int} {k : Nat} (hk : k < zs.length) (h : ¬ 0 ≤ zs.getD k 0) : posT zs (k + 1) = posT zs k := by
  have e : zs.getD k 0 = zs[k] := by simp [List.getElem?_eq_getElem hk]
  rw [e] at h
  unfold posT
  rw [List.take_succ_eq_append_getElem hk, List.filter_append, List.filter_cons, if_neg (by simpa using h), List.filter_nil, List.append_nil]
theorem posT_len (zs : List Int) (k : Nat) : (posT zs k).length ≤ k := Nat.le_trans (List.length_filter_le _ _) (by simp; omega)
set_option maxHeartbeats 2000000 in
theorem faParents_any (fs : List Kn) (b c i : Nat) (w : World) (h : Fm fs w b c) (hi0 : i < fs.length) :
    Calls Try.prog 49 #[.slice (some ⟨b, 0, none⟩) fs.length c, .int .i64 i] w (RetOwn (parI fs i) w) := by
  obtain ⟨i0, hi, hz0, hz1, hz2⟩ := info_parts infoInt
  obtain ⟨p1, p2, p3⟩ := h.kns i hi0
  rw [Nat.zero_add] at p1 p2 p3
  have ha0 : (0 : Int) ≤ (i : Int) := by omega
  have ha1 : (i : Int) < (fs.length : Int) := by omega
  have HE : Hid (parI fs i = posT [(at3 fs i).2.1, (at3 fs i).2.2] 2) := Lib.hid rfl
  clear h
  generalize parI fs i = rs at HE ⊢
  generalize (at3 fs i).2.1 = f at p2 HE
  generalize (at3 fs i).2.2 = o at p3 HE
  have hbd : Below w.heap.size w w.drew := (Below.refl _ _).drew
  go_enter Try.func49, Try.ntmps49
  go_wp2_with fail
  go_region_held3 (fun w' => Below w.heap.size w w' ∧ w'.cell? ⟨b, i * 3 + 1, none⟩ = some (.int .i64 f) ∧ w'.cell? ⟨b, i * 3 + 2, none⟩ = some (.int .i64 o))
    (first
      | (exact ⟨(Below.refl _ _).drew, p2, p3⟩)
      | (obtain ⟨z0, z1, z2⟩ := ‹Below w.heap.size w _ ∧ _›; exact ⟨z0.drew, z1, z2⟩)
      | (exact ⟨((Below.refl w.heap.size w).alloc (Nat.le_refl _) _).drew, cell_above p2 _, cell_above p3 _⟩)
      | go_keep)
    (fail)
  obtain ⟨hbf, _, _⟩ := ‹Below w.heap.size w _ ∧ _›
  have hI : Hid (Ints (w.alloc (.cells #[.int .i64 f, .int .i64 o] 3)).drew w.heap.size 0 [f, o]) := Lib.hid (fun j hj => by
    match j, hj with
    | 0, _ => simp [go_sem]
    | 1, _ => simp [go_sem])
  have hsz1 : w.heap.size < (w.alloc (.cells #[.int .i64 f, .int .i64 o] 3)).drew.heap.size := by simp [go_sem]
  generalize (w.alloc (.cells #[.int .i64 f, .int .i64 o] 3)).drew = w1 at hbf hI hsz1 ⊢
  generalize hzs : [f, o] = zs at HE hI
  have hln : Hid (zs.length = 2) := Lib.hid (by rw [← hzs]; rfl)
  clear hzs p1 p2 p3 hbd
  go_wp2_with fail
  go_loopw [5, 20] (fun u v wr => ∃ k : Nat, k ≤ 2 ∧ v = .int .i64 k ∧ Hid (Own w1.heap.size wr u (posT zs k)) ∧ Below w1.heap.size w1 wr) (fun _ v _ => 2 - (intOf v).toNat)
  case atStart => exact ⟨0, by omega, rfl, Lib.hid (own_nil _ _), Below.refl _ _⟩
  case round =>
    obtain ⟨k, hk, rfl, Ho, hb⟩ := hrel
    have hsz := hb.size
    by_cases hlt : k < 2
    · have hc := (hI.out.kept hb hsz1) k (by rw [hln.out]; exact hlt)
      rw [Nat.zero_add] at hc
      have HY := Lib.hid (fun h => posT_yes (zs := zs) (k := k) (by rw [hln.out]; exact hlt) h)
      have HN := Lib.hid (fun h => posT_no (zs := zs) (k := k) (by rw [hln.out]; exact hlt) h)
      have htl := posT_len zs k
      have hk0 : (0 : Int) ≤ (k : Int) := by omega
      have hk1 : (k : Int) < 2 := by omega
      have how := Ho.out
      clear Ho
      generalize zs.getD k 0 = z at hc HY HN
      generalize hxs : posT zs k = xs at how HY HN htl
      clear hxs
      by_cases hz : 0 ≤ z
      · have HT : Hid (posT zs (k + 1) = xs ++ [z]) := Lib.hid (HY.out hz)
        clear HY HN
        go_wp2_with (first | (at_builtin; refine wpList_append_own _ rfl _ _ 24 rfl w1.heap.size 3 i0 (.int .i64 0) 1 8 Try.underlying24 hi hz0 hz1 hz2 rfl (by decide) u5 xs.length (xs.map (Value.int .i64)) rfl (World.ownsRow.alloc how _) ⟨wr.heap.size, 0, none⟩ 1 1 [.int .i64 z] rfl rfl (newCell _ _ _) (oneInt _) ?c4 ?c5 ?c6 ?_))
        case c4 => unfold maxLen; omega
        case c5 => omega
        case c6 => simp; omega
        intro v' w3 hown' hgrow _
        have hb3 : Below w1.heap.size w1 w3 := below_push hb how hgrow
        have Ho3 : Hid (Own w1.heap.size w3 v' (posT zs (k + 1))) := Lib.hid (by rw [HT.out]; exact own_push hown')
        clear hown' hgrow how
        go_wp2
        go_roundw
        case rel => exact ⟨k + 1, by omega, by go_num, Ho3, hb3⟩
        case measure => simp [intOf]; omega
      · have HT : Hid (posT zs (k + 1) = xs) := Lib.hid (HN.out hz)
        have Ho3 : Hid (Own w1.heap.size wr u5 (posT zs (k + 1))) := Lib.hid (by rw [HT.out]; exact how)
        clear HY HN how
        go_wp2_with fail
        go_roundw
        case rel => exact ⟨k + 1, by omega, by go_num, Ho3, hb⟩
        case measure => simp [intOf]; omega
    · have hkn : k = 2 := by omega
      subst hkn
      go_wp2_with fail
      go_ret
      exact ⟨_, rfl, by rw [HE.out]; exact Ho.out.mono hbf.size, hbf.trans (hb.mono hbf.size)⟩
end Go.Proofs.Ytmlcelleohhmcaa
