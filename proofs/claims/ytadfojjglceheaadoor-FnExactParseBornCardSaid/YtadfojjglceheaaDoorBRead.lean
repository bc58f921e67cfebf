/- How the model reads one number. -/
import Derived.Test.YtadfojjglceheaaDoorBEnv
import Derived.Lib.RabinKarpLaws
set_option linter.unusedVariables false
set_option linter.unusedSimpArgs false
namespace Go.Proofs.YtadfojjglceheaaDoor
open Go.RowKit

theorem run_index_by (s : ByteArray) (i : Nat) (h : i < s.size) (w : World) : (Instr.index 9 (.string s) (.int .i64 (i : Int))).run Tryd.prog w = .ok (.int .u8 ((byAt s i).toNat : Int)) w := by
  rw [run_index_string w 9 s .i64 (i : Int) Tryd.underlying9]
  have hb : (byAt s i) = s[i] := by
    unfold byAt
    rw [List.getD_eq_getElem?_getD, byte_at s i h]
    rfl
  rw [hb]
  simp [h]

theorem toList_drop {s : ByteArray} {k : Nat} (h : k < s.size) : s.data.toList.drop k = byAt s k :: s.data.toList.drop (k + 1) := by
  have hl : k < s.data.toList.length := by rw [← Lib.size_eq]; exact h
  rw [List.drop_eq_getElem_cons hl]
  unfold byAt
  simp [List.getElem?_eq_getElem hl]
/-- The greatest number of k digits. -/
def bnd : Nat → Int
  | 0 => 0
  | k + 1 => 10 * bnd k + 9
theorem bnd_le : ∀ k, k ≤ 6 → bnd k ≤ 999999 := by decide
theorem readB_short {s : ByteArray} (h : inB s.size 1 6 = false) : readB s = -1 := by
  unfold readB readL
  rw [if_pos]
  rw [← Lib.size_eq]
  have := inB_not.1 h
  omega
theorem head_by {s : ByteArray} (h : 1 ≤ s.size) : s.data.toList.head? = some (byAt s 0) := by
  have := toList_drop (s := s) (k := 0) (by omega)
  rw [List.drop_zero] at this
  rw [this]
  rfl
theorem readB_zero {s : ByteArray} (h : inB s.size 1 6 = true) (h0 : byAt s 0 = 48) (h1 : 1 < s.size) : readB s = -1 := by
  have hb := inB_iff.1 h
  unfold readB readL
  rw [if_neg (by rw [← Lib.size_eq]; omega), if_pos ⟨by rw [head_by (by omega), h0], by rw [← Lib.size_eq]; omega⟩]
theorem readB_go {s : ByteArray} (h : inB s.size 1 6 = true) (h0 : ¬ (byAt s 0 = 48 ∧ 1 < s.size)) : readB s = readGo 0 (s.data.toList.drop 0) := by
  have hb := inB_iff.1 h
  unfold readB readL
  rw [if_neg (by rw [← Lib.size_eq]; omega), if_neg (fun e => h0 ⟨by have := e.1; rw [head_by (by omega)] at this; exact Option.some.inj this, by have := e.2; rw [← Lib.size_eq] at this; exact this⟩), List.drop_zero]
theorem readGo_bad {s : ByteArray} {k : Nat} {acc : Int} (h : k < s.size) (hb : (byAt s k).toNat < 48 ∨ 57 < (byAt s k).toNat) : readGo acc (s.data.toList.drop k) = -1 := by
  rw [toList_drop h]
  unfold readGo
  rw [if_pos hb]
theorem readGo_step {s : ByteArray} {k : Nat} {acc : Int} (h : k < s.size) (h0 : 48 ≤ (byAt s k).toNat) (h1 : (byAt s k).toNat ≤ 57) : readGo acc (s.data.toList.drop k) = readGo (10 * acc + (((byAt s k).toNat : Int) - 48)) (s.data.toList.drop (k + 1)) := by
  rw [toList_drop h]
  conv => lhs; unfold readGo
  rw [if_neg (by omega)]
  congr 1
  omega
theorem readGo_end {s : ByteArray} {acc : Int} (k : Nat) (h : s.size ≤ k) : readGo acc (s.data.toList.drop k) = acc := by
  rw [List.drop_of_length_le (by rw [← Lib.size_eq]; exact h)]
  rfl
theorem by_48 {s : ByteArray} {i : Nat} (h : ((byAt s i).toNat : Int) = 48) : byAt s i = 48 := by
  apply UInt8.toNat.inj
  show (byAt s i).toNat = 48
  omega
theorem by_48' {s : ByteArray} {i : Nat} (h : byAt s i = 48) : ((byAt s i).toNat : Int) = 48 := by rw [h]; rfl

set_option maxHeartbeats 1000000 in
set_option maxRecDepth 100000 in
theorem l1Read_short (s : ByteArray) (w : World) (h : inB s.size 1 6 = false) : Calls Tryd.prog 19 #[.string s] w (RetSame (.int .i64 (readB s)) w) := by
  rw [readB_short h]
  have hA := fun w => l1In_any (s.size : Int) 1 6 w
  rw [h] at hA
  clear h
  go_enter Tryd.func19, Tryd.ntmps19
  go_wp2_with (go_at_call 20; refine (hA _).mono ?_; rintro e w' ⟨rfl, rfl⟩)
  go_ret
  exact ⟨rfl, rfl⟩

set_option maxHeartbeats 1000000 in
set_option maxRecDepth 100000 in
theorem l1Read_zero (s : ByteArray) (w : World) (h : inB s.size 1 6 = true) (h0 : byAt s 0 = 48) (h1 : 1 < s.size) : Calls Tryd.prog 19 #[.string s] w (RetSame (.int .i64 (readB s)) w) := by
  rw [readB_zero h h0 h1]
  have hA := fun w => l1In_any (s.size : Int) 1 6 w
  rw [h] at hA
  have hx := run_index_by s 0 (by omega)
  rw [by_48' h0] at hx
  have hx1 : ∀ w, (Instr.index 9 (.string s) (.int .i64 0)).run Tryd.prog w = .ok (.int .u8 48) w := hx
  have hg : (1 : Int) < (s.size : Int) := by omega
  clear h h0 h1 hx
  go_enter Tryd.func19, Tryd.ntmps19
  go_wp2_with (go_at_call 20; refine (hA _).mono ?_; rintro e w' ⟨rfl, rfl⟩)
  go_ret
  exact ⟨rfl, rfl⟩

set_option maxHeartbeats 2000000 in
set_option maxRecDepth 100000 in
theorem l1Read_go (s : ByteArray) (w : World) (h : inB s.size 1 6 = true) (h0 : ¬ (byAt s 0 = 48 ∧ 1 < s.size)) : Calls Tryd.prog 19 #[.string s] w (RetSame (.int .i64 (readB s)) w) := by
  have hb := inB_iff.1 h
  have HR := Lib.hid (readB_go h h0)
  have hA := fun w => l1In_any (s.size : Int) 1 6 w
  rw [h] at hA
  have hx1 : ∀ w, (Instr.index 9 (.string s) (.int .i64 0)).run Tryd.prog w = .ok (.int .u8 ((byAt s 0).toNat : Int)) w := run_index_by s 0 (by omega)
  have hcase : (((byAt s 0).toNat : Int) = 48 ∧ ¬ (1 : Int) < (s.size : Int)) ∨ ¬ ((byAt s 0).toNat : Int) = 48 := by
    by_cases h1 : ((byAt s 0).toNat : Int) = 48
    · exact .inl ⟨h1, fun h2 => h0 ⟨by_48 h1, by omega⟩⟩
    · exact .inr h1
  clear h0
  generalize hc0 : ((byAt s 0).toNat : Int) = c0 at hx1 hcase
  have hr0 : readB s = readGo 0 (s.data.toList.drop 0) := HR.out
  clear hc0 h HR
  obtain ⟨R, hR⟩ : ∃ R, readB s = R := ⟨_, rfl⟩
  rw [hR] at hr0 ⊢
  clear hR
  have HR := Lib.hid hr0
  clear hr0
  rcases hcase with ⟨h1, h2⟩ | h1
  all_goals
    go_enter Tryd.func19, Tryd.ntmps19
    go_wp2_with (go_at_call 20; refine (hA _).mono ?_; rintro e w' ⟨rfl, rfl⟩)
    go_loop [3, 4] (fun a v => ∃ (k : Nat) (acc : Int), k ≤ s.size ∧ v = .int .i64 (k : Int) ∧ a = .int .i64 acc ∧ 0 ≤ acc ∧ acc ≤ bnd k ∧ readGo acc (s.data.toList.drop k) = R) (fun _ v => ((s.size : Int) + 1 - intOf v).toNat)
    case atStart => exact ⟨0, 0, by omega, rfl, rfl, by omega, by decide, HR.out.symm⟩
    case round =>
      obtain ⟨k, acc, hk, rfl, rfl, ha0, ha1, hq⟩ := hrel
      have hb6 := bnd_le k (by omega)
      by_cases hlt : k < s.size
      · have hx := run_index_by s k hlt
        by_cases hlow : (byAt s k).toNat < 48
        · have HF := Lib.hid (hq.symm.trans (readGo_bad hlt (.inl hlow)))
          have hi1 : ((byAt s k).toNat : Int) < 48 := by omega
          clear hq hlow
          generalize ((byAt s k).toNat : Int) = z at hx hi1
          go_wp2_with fail
          go_ret
          exact ⟨by rw [HF.out]; rfl, rfl⟩
        · by_cases hhigh : 57 < (byAt s k).toNat
          · have HF := Lib.hid (hq.symm.trans (readGo_bad hlt (.inr hhigh)))
            have hi1 : ¬ ((byAt s k).toNat : Int) < 48 := by omega
            have hi2 : (57 : Int) < ((byAt s k).toNat : Int) := by omega
            clear hq hlow hhigh
            generalize ((byAt s k).toNat : Int) = z at hx hi1 hi2
            go_wp2_with fail
            go_ret
            exact ⟨by rw [HF.out]; rfl, rfl⟩
          · have HF := Lib.hid ((readGo_step (acc := acc) hlt (by omega) (by omega)).symm.trans hq)
            have HB := Lib.hid (show bnd (k + 1) = 10 * bnd k + 9 from rfl)
            have hi1 : 48 ≤ ((byAt s k).toNat : Int) := by omega
            have hi2 : ((byAt s k).toNat : Int) ≤ 57 := by omega
            clear hq hlow hhigh
            generalize ((byAt s k).toNat : Int) = z at hx hi1 hi2 HF
            go_wp2_with fail
            go_round
            case rel => exact ⟨k + 1, 10 * acc + (z - 48), by omega, by go_num, by go_num, by omega, by rw [HB.out]; omega, HF.out⟩
            case measure => simp [intOf]; omega
      · have HF := Lib.hid (hq.symm.trans (readGo_end k (by omega)))
        clear hq
        go_wp2_with fail
        go_ret
        exact ⟨by rw [HF.out]; rfl, rfl⟩

theorem l1Read_any (s : ByteArray) (w : World) : Calls Tryd.prog 19 #[.string s] w (RetSame (.int .i64 (readB s)) w) := by
  cases h : inB s.size 1 6 with
  | false => exact l1Read_short s w h
  | true =>
    by_cases h0 : byAt s 0 = 48 ∧ 1 < s.size
    · exact l1Read_zero s w h h0.1 h0.2
    · exact l1Read_go s w h h0
end Go.Proofs.YtadfojjglceheaaDoor
