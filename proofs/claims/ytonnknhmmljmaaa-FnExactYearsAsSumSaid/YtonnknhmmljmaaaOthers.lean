/- All people but one. -/
import Derived.Test.YtonnknhmmljmaaaAgesList
set_option linter.unusedVariables false
set_option linter.unusedSimpArgs false
namespace Go.Proofs.Ytonnknhmmljmaaa
open Go.RowKit

def flatP (ps : List (Int × Int)) : List Value := ps.flatMap fun p => [.int .i64 p.1, .int .i64 p.2]
theorem flatP_length (ps : List (Int × Int)) : (flatP ps).length = ps.length * 2 := by
  unfold flatP
  induction ps with
  | nil => rfl
  | cons p ps ih => simp only [List.flatMap_cons, List.length_append, List.length_cons, List.length_nil, ih]; omega
theorem flatP_snoc (ps : List (Int × Int)) (p : Int × Int) : flatP (ps ++ [p]) = flatP ps ++ [.int .i64 p.1, .int .i64 p.2] := by
  unfold flatP; simp
theorem flatP_at (ps : List (Int × Int)) : ∀ j, j < ps.length → (flatP ps)[j * 2]? = some (.int .i64 (ps.getD j (0, 0)).1) ∧ (flatP ps)[j * 2 + 1]? = some (.int .i64 (ps.getD j (0, 0)).2) := by
  induction ps with
  | nil => intro j hj; simp at hj
  | cons p ps ih =>
    intro j hj
    have e : flatP (p :: ps) = .int .i64 p.1 :: .int .i64 p.2 :: flatP ps := rfl
    rw [e]
    cases j with
    | zero => exact ⟨rfl, rfl⟩
    | succ j =>
      have h := ih j (by simp at hj; omega)
      rw [show (j + 1) * 2 = j * 2 + 1 + 1 by omega]
      simpa using h
/-- The first k people without one. -/
def othP (zs : List Int) (who k : Nat) : List (Int × Int) := ((List.range k).filter fun i => i != who).map fun (i : Nat) => ((i : Int), zs.getD i 0)
theorem othP_zero (zs : List Int) (who : Nat) : othP zs who 0 = [] := rfl
theorem othP_skip (zs : List Int) (who : Nat) : othP zs who (who + 1) = othP zs who who := by
  unfold othP; rw [List.range_succ, List.filter_append]; simp
theorem othP_take (zs : List Int) (who k : Nat) (h : k ≠ who) : othP zs who (k + 1) = othP zs who k ++ [((k : Int), zs.getD k 0)] := by
  unfold othP; rw [List.range_succ, List.filter_append, List.map_append]; simp [h]
theorem othP_len (zs : List Int) (who k : Nat) : (othP zs who k).length ≤ k := by
  unfold othP; rw [List.length_map]; exact Nat.le_trans (List.length_filter_le _ _) (by simp)
theorem othP_ages (zs : List Int) (who : Nat) : ∀ k, k ≤ zs.length → (othP zs who k).map (·.2) = (zs.take k).eraseIdx who := by
  intro k
  induction k with
  | zero => intro _; simp [othP]
  | succ k ih =>
    intro hk
    have hl : (zs.take k).length = k := by simp; omega
    rw [List.take_succ_eq_append_getElem (by omega)]
    by_cases e : k = who
    · subst e
      rw [othP_skip, ih (by omega), List.eraseIdx_append_of_length_le (by omega), hl, Nat.sub_self, List.eraseIdx_of_length_le (by omega)]
      simp
    · rw [othP_take _ _ _ e, List.map_append, ih (by omega)]
      by_cases h2 : who < k
      · rw [List.eraseIdx_append_of_lt_length (by omega)]
        simp [List.getElem?_eq_getElem (show k < zs.length by omega)]
      · rw [List.eraseIdx_of_length_le (by omega), List.eraseIdx_of_length_le (by simp; omega)]
        simp [List.getElem?_eq_getElem (show k < zs.length by omega)]
theorem othP_all (zs : List Int) (who : Nat) : (othP zs who zs.length).map (·.2) = zs.eraseIdx who := by
  rw [othP_ages _ _ _ (Nat.le_refl _), List.take_length]
theorem prs_of {w : World} {B g n c : Nat} {ps : List (Int × Int)} (hr : w.ownsRow B 46 2 (.slice (some ⟨g, 0, none⟩) n c) n (flatP ps)) : Prs w g (fun j => (ps.getD j (0, 0)).1) (ps.map (·.2)) := by
  intro j hj
  rw [List.length_map] at hj
  have hn : ps.length = n := by have := hr.1; rw [flatP_length] at this; omega
  obtain ⟨h1, h2⟩ := flatP_at ps j hj
  refine ⟨(World.ownsRow.cellAt hr (j * 2) (by omega)).trans h1, (World.ownsRow.cellAt hr (j * 2 + 1) (by omega)).trans ?_⟩
  rw [h2]
  simp [List.getD_eq_getElem?_getD, List.getElem?_map, List.getElem?_eq_getElem hj]

theorem twoCells {W : World} {g : Nat} (a b : Value) (t : TypeId) (h : g = W.heap.size) : ∀ j u, [a, b][j]? = some u → (W.alloc (.cells #[a, b] t)).cell? ((⟨g, 0, none⟩ : Addr).add j) = some u := by
  subst h; exact cell_two_new W a b t
theorem twoInts (x y : Int) : ∀ u ∈ [Value.int .i64 x, Value.int .i64 y], u.oneCell' = true := by
  intro u hu; simp at hu; rcases hu with rfl | rfl <;> rfl

def RetOthers (zs : List Int) (who : Nat) (w : World) (e : Ending) (w' : World) : Prop :=
  ∃ g c ns, e = .returned (.slice (some ⟨g, 0, none⟩) (zs.eraseIdx who).length c) ∧ Prs w' g ns (zs.eraseIdx who) ∧ w.heap.size ≤ g ∧ g < w'.heap.size ∧ Below w.heap.size w w'

set_option maxHeartbeats 1000000 in
theorem others_any (g c n who : Nat) (age : Int) (zs : List Int) (w : World) (hl : zs.length = n) (h8 : n ≤ 8) (h2 : 2 ≤ n) (hw : who < n) (hgs : g < w.heap.size) (hP : Ppl w g zs) (ha : zs.getD who 0 = age) :
    Calls Try.prog 83 #[.agg #[.int .i64 who, .int .i64 age, .slice (some ⟨g, 0, none⟩) n c]] w (RetOthers zs who w) := by
  obtain ⟨i0, hi, hz0, hz1, hz2⟩ := info_parts infoPerson
  have HL := Lib.hid hl
  have HP := Lib.hid hP
  have HA := Lib.hid ha
  have hA := Lib.hid fun A => (heap_new w A)
  clear hl hP ha
  go_enter Try.func83, Try.ntmps83
  go_wp2
  go_loopw [3, 9] (fun v i wr => ∃ k : Nat, k ≤ n ∧ i = .int .i64 k ∧ wr.ownsRow (w.heap.size + 1) 46 2 v (othP zs who k).length (flatP (othP zs who k)) ∧ Below w.heap.size w wr ∧ Hid (wr.heap[w.heap.size]? = some (.cells #[.int .i64 who, .int .i64 age, .slice (some ⟨g, 0, none⟩) n c] 49 (0, 0)))) (fun _ i _ => n - (intOf i).toNat)
  case atStart => exact ⟨0, Nat.zero_le _, rfl, World.ownsRow_nil _ _ _ _, (Below.refl _ _).alloc (Nat.le_refl _) _, Lib.hid (hA.out _)⟩
  case round =>
    obtain ⟨k, hk, rfl, ho, hb, hh⟩ := hrel
    obtain ⟨t0, t1, t2, _, _, _, _, hlt0⟩ := slot3 hh.out
    have hsz := hb.size
    have hle := othP_len zs who k
    by_cases hlt : k < n
    · have hc1 := (HP.out.kept hb hgs).num k (by rw [HL.out]; exact hlt)
      have hc2 := (HP.out.kept hb hgs).age k (by rw [HL.out]; exact hlt)
      by_cases hkw : k = who
      · subst hkw
        rw [HA.out] at hc2
        have HS := Lib.hid (othP_skip zs k)
        have hu0 : ∀ A, (wr.alloc A).cell? ⟨w.heap.size, 0, none⟩ = some (.int .i64 k) := fun A => (slot3 (heap_later hh.out A)).r0
        have hu1 : ∀ A, (wr.alloc A).cell? ⟨w.heap.size, 1, none⟩ = some (.int .i64 age) := fun A => (slot3 (heap_later hh.out A)).r1
        have ho' := Lib.hid ho
        have hh' := Lib.hid hh
        clear ho hh t0 t1 t2
        go_wp2
        go_roundw
        case rel => exact ⟨k + 1, by omega, by go_num, by rw [HS.out]; exact World.ownsRow.alloc ho'.out _, hb.alloc hsz _, Lib.hid (heap_later hh'.out _)⟩
        case measure => simp [intOf]; omega
      · have HS := Lib.hid (othP_take zs who k hkw)
        have hu0 : ∀ A, (wr.alloc A).cell? ⟨w.heap.size, 0, none⟩ = some (.int .i64 who) := fun A => (slot3 (heap_later hh.out A)).r0
        have hu1 : ∀ A, (wr.alloc A).cell? ⟨w.heap.size, 1, none⟩ = some (.int .i64 age) := fun A => (slot3 (heap_later hh.out A)).r1
        have ho' := Lib.hid ho
        have hh' := Lib.hid hh
        have hne : ¬ ((k : Int) = (who : Int)) := by omega
        have hne2 : ((k : Int) == (who : Int)) = false := beq_eq_false_iff_ne.2 hne
        clear ho hh t0 t1 t2
        generalize zs.getD k 0 = z at hc2 HS
        have hsz2 : w.heap.size + 1 ≤ wr.heap.size := by omega
        go_wp2_with (first | (at_builtin; refine wpList_append_own _ rfl _ _ 47 rfl (w.heap.size + 1) 46 i0 _ 2 16 Try.underlying47 hi hz0 hz1 hz2 rfl (by decide) _ _ _ rfl (World.ownsRow.alloc (World.ownsRow.alloc ho'.out _) _) ⟨wr.heap.size + 1, 0, none⟩ 1 1 [.int .i64 k, .int .i64 z] rfl rfl (twoCells _ _ _ (by simp)) (twoInts _ _) ?c3 ?c4 ?c5 ?_))
        case c3 => unfold maxLen; omega
        case c4 => omega
        case c5 => simp; omega
        intro v' w1 hown' hgrow _
        have hown1 : w1.ownsRow (w.heap.size + 1) 46 2 v' (othP zs who (k + 1)).length (flatP (othP zs who (k + 1))) := by
          rw [HS.out, flatP_snoc, List.length_append]; exact hown'
        have hblk : ∀ q, u3.ownBlock = some q → w.heap.size + 1 ≤ q := fun q hq => (World.ownsRow.lt ho'.out q hq).1
        have hbz := ((hb.alloc hsz _).alloc (by simp; omega) _).grown hgrow (by simp; omega) (fun q hq => by have := hblk q hq; omega)
        have hh1 : Hid (w1.heap[w.heap.size]? = some (.cells #[.int .i64 who, .int .i64 age, .slice (some ⟨g, 0, none⟩) n c] 49 (0, 0))) := Lib.hid ((hgrow.block w.heap.size (by simp; omega) (fun e => by have := hblk w.heap.size e.symm; omega)).trans (heap_later (heap_later hh'.out _) _))
        clear hown' hgrow
        go_wp2
        go_roundw
        case rel => exact ⟨k + 1, by omega, by go_num, hown1, hbz, hh1⟩
        case measure => simp [intOf]; omega
    · have hkn : k = n := by omega
      have hlen : (othP zs who k).length = (zs.eraseIdx who).length := by
        rw [hkn, ← HL.out, ← othP_all, List.length_map]
      have hpos : 0 < (zs.eraseIdx who).length := by rw [List.length_eraseIdx]; have := HL.out; split <;> omega
      clear t0 t1 t2
      rcases ho.2 with ⟨_, h0⟩ | ⟨q, cp, cur, rfl, hq, hcur, _⟩
      · omega
      · have hpr := prs_of ho
        rw [hkn, ← HL.out, othP_all] at hpr
        have hqs : q < wr.heap.size := lt_of_block hcur
        have HE := Lib.hid hlen
        have HQ := Lib.hid hpr
        clear hcur hlen hkn hpr ho
        go_wp2_with fail
        go_ret
        exact ⟨q, cp, _, by rw [← HE.out]; rfl, HQ.out, by omega, hqs, hb⟩
end Go.Proofs.Ytonnknhmmljmaaa
