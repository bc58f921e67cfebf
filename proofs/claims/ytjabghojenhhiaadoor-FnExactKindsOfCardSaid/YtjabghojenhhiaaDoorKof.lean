/- KindsOf: both texts. -/
import Derived.Test.YtjabghojenhhiaaDoorSplit
import Derived.Test.YtjabghojenhhiaaDoorIs
import Derived.Test.YtjabghojenhhiaaDoorNum
set_option linter.unusedVariables false
set_option linter.unusedSimpArgs false
namespace Go.Proofs.YtjabghojenhhiaaDoor
open Go.RowKit
theorem run_lookup1_str {w : World} {b : Nat} {l : List (ByteArray × Value)} (hb : IsMap w b l) (t k e : TypeId) (ht : Tryd.prog.underlying t = some (.map k e)) (hk : Tryd.prog.underlying k = some .string) (z : Value) (hz : (zeroValue e).run Tryd.prog w = .ok z w) (s : ByteArray) :
    (Instr.lookup t (.map (some b)) (.string s) false).run Tryd.prog w = .ok ((under s l).getD z) w := by
  obtain ⟨r, h1, h2⟩ := findNow_entr s l 0 0
  have hc : ∀ em : Bool, (Instr.checkKey em 10000 k (.string s)).run Tryd.prog w = .ok () w := fun em => MapKept.run_checkKey (k := .string s) hk (by simp [MapKept.IsKey]) em 9999
  have hf : (Instr.findKey k (.string s) (entr 0 l)).run Tryd.prog w = .ok r w := by simp [Instr.findKey, run_underlying hk, h1]
  rw [← h2]
  cases r with
  | none => simp [Instr.lookup, run_underlying ht, MapKept.run_getObj_map hb, hc, hf, hz, Result.andThen]
  | some q =>
    obtain ⟨i, v⟩ := q
    simp [Instr.lookup, run_underlying ht, MapKept.run_getObj_map hb, hc, hf, Result.andThen]
theorem wpList_lookup1_str {ops : Array Oper} {rest : List Oper} {o : Oper} {a : Act} {w : World} {Q : Exit → Act → World → Prop} (hg : o.guard = none) (m x : Operand) (t : TypeId) (hop : o.op = Op.lookup t m x false)
    (k e : TypeId) (ht : Tryd.prog.underlying t = some (.map k e)) (hk : Tryd.prog.underlying k = some .string) (z : Value) (hz : (zeroValue e).run Tryd.prog w = .ok z w) (b : Nat) (l : List (ByteArray × Value)) (hm : a.eval m = .map (some b)) (hb : IsMap w b l) (s : ByteArray) (hx : a.eval x = .string s)
    (hK : wpList Tryd.prog ops Q rest (a.put o.dst ((under s l).getD z)) w) : wpList Tryd.prog ops Q (o :: rest) a w := by
  refine wpList_plain hg fun K' hK' => ?_
  have hrun := run_lookup1_str hb t k e ht hk z hz s
  unfold Oper.wp
  simp [execOp, hop, hm, hx, hrun, Result.andThen]
  exact hK' _ _ hK

def pieceAt (j : Nat) : ByteArray := pieces.getD j ByteArray.empty
/-- The letters, of the first j, of the kinds that the number n is of. -/
def ks (n : Nat) : Nat → ByteArray
  | 0 => ByteArray.empty
  | j + 1 => if kOf (pieceAt j) n = true then ks n j ++ pieceAt j else ks n j
theorem ks_yes {n j : Nat} (h : kOf (pieceAt j) n = true) : ks n (j + 1) = ks n j ++ pieceAt j := by simp [ks, h]
theorem ks_no {n j : Nat} (h : kOf (pieceAt j) n = false) : ks n (j + 1) = ks n j := by simp [ks, h]
theorem size_piece : ∀ j, j < 6 → (pieceAt j).size = 1 := by decide
theorem ks_size (n : Nat) : ∀ j, j ≤ 6 → (ks n j).size ≤ j := by
  intro j
  induction j with
  | zero => intro _; exact Nat.le_refl _
  | succ j ih =>
    intro hj
    have h1 := ih (by omega)
    have h2 := size_piece j (by omega)
    unfold ks
    split
    · rw [ByteArray.size_append]; omega
    · omega
theorem ks_sum (n k : Nat) (hk : k < 6) : ¬ 9223372036854775807 < (ks n k).size + (pieceAt k).size := by
  have h1 := ks_size n k (by omega)
  have h2 := size_piece k hk
  omega
theorem isK_piece : ∀ j, j < 6 → isK (pieceAt j) = true := by decide
theorem extract_piece : ∀ j, j < 6 → sAll.extract j (j + 1) = pieceAt j := by decide
theorem run_slice_at (k : Nat) (hk : k < 6) (w : World) : (Instr.slice 9 (.string { data := #[112, 115, 99, 116, 100, 114] }) (some (.int .i64 (k : Int))) (some (.int .i64 ((k : Int) + 1))) none).run Tryd.prog w = .ok (.string (pieceAt k)) w := by
  have h := run_slice_string (P := Tryd.prog) w 9 sAll .i64 .i64 (k : Int) ((k : Int) + 1) Tryd.underlying9 (by omega) (by omega) (by show (k : Int) + 1 ≤ 6; omega)
  rw [show ((k : Int) + 1).toNat = k + 1 by omega, Int.toNat_natCast, extract_piece k hk] at h
  exact h
/-- What KindsOf gives. -/
def kofS (x : Int) : ByteArray := if inB x 0 120 = true then ks x.toNat 6 else ByteArray.empty

set_option maxHeartbeats 4000000 in
set_option maxRecDepth 100000 in
theorem specKindsOf_any (x : Int) (w : World) : Calls Tryd.prog 14 #[.int .i64 x] w (RetSB (kofS x) (inB x 0 120) w) := by
  cases hx : inB x 0 120 with
  | false =>
    have hk : kofS x = ByteArray.empty := by simp [kofS, hx]
    rw [hk]
    clear hk
    go_enter Tryd.func14, Tryd.ntmps14
    go_wp2_with (first | (go_at_call 24; refine (kiAge_any _ _).mono ?_; rintro e w' ⟨rfl, rfl⟩))
    go_ret2
    exact ⟨rfl, Below.refl _ _⟩
  | true =>
    have hb := inB_iff.1 hx
    obtain ⟨n, rfl⟩ := Int.eq_ofNat_of_zero_le hb.1
    have hn : n ≤ 120 := by omega
    have hk : kofS (n : Int) = ks n 6 := by simp [kofS, hx]
    rw [hk]
    clear hk hb
    go_enter Tryd.func14, Tryd.ntmps14
    go_wp2_with (first | (go_at_call 24; refine (kiAge_any _ _).mono ?_; rintro e w' ⟨rfl, rfl⟩))
    go_loop [4, 5] (fun u v => ∃ k : Nat, k ≤ 6 ∧ v = .int .i64 (k : Int) ∧ u = .string (ks n k)) (fun _ v => (7 - intOf v).toNat)
    case atStart => exact ⟨0, by omega, rfl, rfl⟩
    case round =>
      obtain ⟨k, hk6, rfl, rfl⟩ := hrel
      by_cases hlt : k < 6
      · have hi := isK_piece k hlt
        have hsl := run_slice_at k hlt
        cases hq : kOf (pieceAt k) n with
        | true =>
          have HQ := Lib.hid (ks_yes hq)
          have hsm := ks_sum n k hlt
          go_wp2_with (go_at_call 25; refine (kiIs_any n _ _ (by omega) hi).mono ?_; rw [hq]; rintro e w' ⟨rfl, rfl⟩)
          go_round
          case rel => exact ⟨k + 1, by omega, by go_num, by rw [HQ.out]⟩
          case measure => simp [intOf]; omega
        | false =>
          have HQ := Lib.hid (ks_no hq)
          go_wp2_with (go_at_call 25; refine (kiIs_any n _ _ (by omega) hi).mono ?_; rw [hq]; rintro e w' ⟨rfl, rfl⟩)
          go_round
          case rel => exact ⟨k + 1, by omega, by go_num, by rw [HQ.out]⟩
          case measure => simp [intOf]; omega
      · obtain rfl : k = 6 := by omega
        go_wp2_with fail
        go_ret2
        exact ⟨rfl, Below.refl _ _⟩

theorem run_index_marks (p : Nat → Bool) (n : Nat) (h : n < 961) (w : World) : (Instr.index 48 (.agg (pc p)) (.int .i64 (n : Int))).run Tryd.prog w = .ok (.bool (p n)) w := by
  have hu := Tryd.underlying48
  have hp := pc_get p n h
  have ha := Tryd.isAgg4
  simp [Instr.index, run_underlying hu, asIntOf, h, part, ha, hp]
theorem range_kept {B : Nat} {w w' : World} {g : Nat} {cs : List Value} (h : w.rangeAt g 0 cs) (hb : Below B w w') (hg : g < B) : w'.rangeAt g 0 cs :=
  fun j v hj => (hb.cell (p := ⟨g, 0 + j, none⟩) hg).trans (h j v hj)
theorem piece_some : ∀ j, j < 6 → (pieces.map Value.string)[j]? = some (.string (pieceAt j)) := by
  intro j hj
  rcases (show j = 0 ∨ j = 1 ∨ j = 2 ∨ j = 3 ∨ j = 4 ∨ j = 5 by omega) with rfl | rfl | rfl | rfl | rfl | rfl <;> rfl
set_option maxHeartbeats 4000000 in
set_option maxRecDepth 100000 in
theorem kindsOf_any (x : Int) (w : World) : Calls Tryd.prog 15 #[.int .i64 x] w (RetSB (kofS x) (inB x 0 120) w) := by
  cases hx : inB x 0 120 with
  | false =>
    have hk : kofS x = ByteArray.empty := by simp [kofS, hx]
    rw [hk]
    clear hk
    go_enter Tryd.func15, Tryd.ntmps15
    go_wp2_with (first | (go_at_call 26; refine (isAge_any _ _).mono ?_; rintro e w' ⟨rfl, rfl⟩))
    go_ret2
    exact ⟨rfl, Below.refl _ _⟩
  | true =>
    have hb := inB_iff.1 hx
    obtain ⟨n, rfl⟩ := Int.eq_ofNat_of_zero_le hb.1
    have hn : n ≤ 120 := by omega
    have hk : kofS (n : Int) = ks n 6 := by simp [kofS, hx]
    have hz := zeroMarks
    rw [hk]
    clear hk hb
    go_enter Tryd.func15, Tryd.ntmps15
    go_wp2_with (first | (go_at_call 26; refine (isAge_any _ _).mono ?_; rintro e w' ⟨rfl, rfl⟩))
    refine (byLetter_any _).mono ?_
    rintro e w1 ⟨m, rfl, hmb, hm, hb1⟩
    have hlt1 := hm.lt
    have HM := Lib.hid hm
    have HZ := Lib.hid hz
    clear hm hz
    go_wp2_with fail
    refine (split_any _).mono ?_
    rintro e w2 ⟨b, rfl, hbb, hr, hb2⟩
    have HM2 := Lib.hid (HM.out.kept hb2 hlt1)
    have HR := Lib.hid hr
    have hb3 := hb1.trans (hb2.mono hb1.size)
    clear hr HM
    go_wp2_with fail
    go_loop [5, 14] (fun u v => ∃ k : Nat, k ≤ 6 ∧ v = .int .i64 (k : Int) ∧ u = .string (ks n k)) (fun _ v => (7 - intOf v).toNat)
    case atStart => exact ⟨0, by omega, rfl, rfl⟩
    case round =>
      obtain ⟨k, hk6, rfl, rfl⟩ := hrel
      by_cases hlt : k < 6
      · have hc := HR.out k _ (piece_some k hlt)
        rw [Nat.zero_add] at hc
        have hix := run_index_marks (kOf (pieceAt k)) n (by omega)
        cases hq : kOf (pieceAt k) n with
        | true =>
          rw [hq] at hix
          have HQ := Lib.hid (ks_yes hq)
          have hsm := ks_sum n k hlt
          go_wp2_with (first | (refine wpList_lookup1_str rfl _ _ 44 rfl 9 48 Tryd.underlying44 Tryd.underlying9 (.agg (pc pnone)) (HZ.out _) m _ rfl HM2.out _ rfl ?_; rw [(look_letters _).1]))
          go_round
          case rel => exact ⟨k + 1, by omega, by go_num, by rw [HQ.out]⟩
          case measure => simp [intOf]; omega
        | false =>
          rw [hq] at hix
          have HQ := Lib.hid (ks_no hq)
          go_wp2_with (first | (refine wpList_lookup1_str rfl _ _ 44 rfl 9 48 Tryd.underlying44 Tryd.underlying9 (.agg (pc pnone)) (HZ.out _) m _ rfl HM2.out _ rfl ?_; rw [(look_letters _).1]))
          go_round
          case rel => exact ⟨k + 1, by omega, by go_num, by rw [HQ.out]⟩
          case measure => simp [intOf]; omega
      · obtain rfl : k = 6 := by omega
        go_wp2_with fail
        go_ret2
        exact ⟨rfl, hb3⟩

theorem kindsOf_both (x : Int) : ∃ (r : ByteArray) (ok : Bool), (∀ w, Calls Tryd.prog 14 #[.int .i64 x] w (RetSB r ok w)) ∧ (∀ w, Calls Tryd.prog 15 #[.int .i64 x] w (RetSB r ok w)) :=
  ⟨kofS x, inB x 0 120, fun w => specKindsOf_any x w, fun w => kindsOf_any x w⟩
end Go.Proofs.YtjabghojenhhiaaDoor
