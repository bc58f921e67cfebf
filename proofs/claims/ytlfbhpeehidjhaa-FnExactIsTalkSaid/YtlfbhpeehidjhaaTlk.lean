/- Talks as texts: both texts tell them alike. -/
import Derived.Test.YtlfbhpeehidjhaaKit
import Derived.Test.YtlfbhpeehidjhaaIxLib
import Derived.Lib.RabinKarpLaws
set_option linter.unusedVariables false
set_option linter.unusedSimpArgs false
namespace Go.Proofs.Ytlfbhpeehidjhaa
open Go.RowKit

def sgn (s : ByteArray) (i : Nat) : UInt8 := s.data.toList.getD i 0
theorem sgn_eq (s : ByteArray) (i : Nat) (h : i < s.size) : sgn s i = s[i] := by
  unfold sgn
  rw [List.getD_eq_getElem?_getD, byte_at s i h]
  rfl
theorem run_sgn (s : ByteArray) (i : Nat) (z : Int) (hz : z = i) (h : i < s.size) (w : World) : (Instr.index 9 (.string s) (.int .i64 z)).run Try.prog w = .ok (.int .u8 ((sgn s i).toNat : Int)) w := by
  subst hz
  rw [run_index_string w 9 s .i64 (i : Int) Try.underlying9, sgn_eq s i h]
  simp [h]
theorem run_cut1 (s : ByteArray) (i : Nat) (z : Int) (hz : z = i + 1) (hh : i + 1 ≤ s.size) (w : World) : (Instr.slice 9 (.string s) (some (.int .i64 (i : Int))) (some (.int .i64 z)) none).run Try.prog w = .ok (.string (s.extract i (i + 1))) w := by
  have := run_slice_string (P := Try.prog) w 9 s .i64 .i64 (i : Int) z Try.underlying9 (by omega) (by omega) (by omega)
  rw [this]
  congr 3 <;> omega
def whoB (b : UInt8) : Bool := b == 115 || b == 112
def clmB (b : UInt8) : Bool := b == 45 || b == 43 || b == 33
def stmB (s : ByteArray) (k : Nat) : Bool := whoB (sgn s (2 * k)) && clmB (sgn s (2 * k + 1))
/-- Is the text a talk? -/
def talkB (s : ByteArray) : Bool := decide (s.size % 2 = 0) && decide (s.size ≤ 24) && (List.range (s.size / 2)).all (stmB s)
theorem talkB_yes {s : ByteArray} (h1 : s.size % 2 = 0) (h2 : s.size ≤ 24) (h : ∀ k, k < s.size / 2 → stmB s k = true) : talkB s = true := by
  unfold talkB
  rw [decide_eq_true h1, decide_eq_true h2, Bool.true_and, Bool.true_and, List.all_eq_true]
  intro k hk
  exact h k (List.mem_range.1 hk)
theorem talkB_bad {s : ByteArray} (k : Nat) (hk : k < s.size / 2) (h : stmB s k = false) : talkB s = false := by
  have : (List.range (s.size / 2)).all (stmB s) = false := by
    rw [List.all_eq_false]
    exact ⟨k, List.mem_range.2 hk, by rw [h]; simp⟩
  unfold talkB
  rw [this, Bool.and_false]
theorem talkB_odd {s : ByteArray} (h : s.size % 2 = 1) : talkB s = false := by
  unfold talkB
  rw [decide_eq_false (show ¬ s.size % 2 = 0 by omega), Bool.false_and, Bool.false_and]
theorem talkB_long {s : ByteArray} (h : 24 < s.size) : talkB s = false := by
  unfold talkB
  rw [decide_eq_false (show ¬ s.size ≤ 24 by omega), Bool.and_false, Bool.false_and]
theorem ext1 (s : ByteArray) (i : Nat) (h : i < s.size) : s.extract i (i + 1) = ⟨#[sgn s i]⟩ := by
  rw [sgn_eq s i h]
  apply ByteArray.ext
  rw [ByteArray.data_extract]
  apply Array.ext
  · have : s.data.size = s.size := rfl
    simp; omega
  · intro j h1 h2
    have : j = 0 := by simp at h2; omega
    subst this
    simp
    rfl
theorem byte_ne {a b : UInt8} (h : a ≠ b) : ((ByteArray.mk #[a]).toList == [b]) = false := by
  rw [ByteArray.toList_eq]
  simp [h]
theorem nat_ne {a b : UInt8} (h : a ≠ b) : ¬ (a.toNat : Int) = (b.toNat : Int) := fun e => h (UInt8.toNat.inj (by omega))
theorem taWho_sgn (b : UInt8) (w : World) : Calls Try.prog 24 #[.string ⟨#[b]⟩] w (RetSame (.bool (whoB b)) w) := by
  by_cases h1 : b = 115
  · subst h1
    go_enter Try.func24, Try.ntmps24
    go_wp2
    go_ret
    exact ⟨rfl, rfl⟩
  · by_cases h2 : b = 112
    · subst h2
      go_enter Try.func24, Try.ntmps24
      go_wp2
      go_ret
      exact ⟨rfl, rfl⟩
    · have e1 := byte_ne h1
      have e2 := byte_ne h2
      have e3 : whoB b = false := by simp [whoB, h1, h2]
      rw [e3]
      generalize hx : ByteArray.mk #[b] = x at e1 e2 ⊢
      clear e3 hx h1 h2
      go_enter Try.func24, Try.ntmps24
      go_wp2
      go_ret
      exact ⟨rfl, rfl⟩
theorem toU8 (b : UInt8) : ((b.toNat : Int).toNat).toUInt8 = b := by
  simp
/-- Where a sign stands among some: not before nought just if it is one of them. -/
def RetIx (t : Bool) (w : World) (e : Ending) (w' : World) : Prop := ∃ z : Int, e = .returned (.int .i64 z) ∧ (t = true → ¬ z < 0) ∧ (t = false → z < 0) ∧ w = w'
theorem idx_who (b : UInt8) (w : World) : Calls Try.prog 16 #[.string { data := #[115, 112] }, .int .u8 (b.toNat : Int)] w (RetIx (whoB b) w) := by
  refine (strings_IndexByte _ _ w).mono ?_
  rintro e w' ⟨rfl, rfl⟩
  refine ⟨_, rfl, ?_, ?_, rfl⟩ <;> rw [toU8] <;> unfold whoB <;> simp only [Lib.indexByte] <;> intro h
  · by_cases h1 : b = 115
    · subst h1; decide
    · by_cases h2 : b = 112
      · subst h2; decide
      · simp [h1, h2] at h
  · have h1 : ¬ b = 115 := fun e => by subst e; simp at h
    have h2 : ¬ b = 112 := fun e => by subst e; simp at h
    have h3 : ((115 : UInt8) == b) = false := by simp; exact fun e => h1 e.symm
    have h4 : ((112 : UInt8) == b) = false := by simp; exact fun e => h2 e.symm
    simp [h3, h4]
theorem idx_clm (b : UInt8) (w : World) : Calls Try.prog 16 #[.string { data := #[45, 43, 33] }, .int .u8 (b.toNat : Int)] w (RetIx (clmB b) w) := by
  refine (strings_IndexByte _ _ w).mono ?_
  rintro e w' ⟨rfl, rfl⟩
  refine ⟨_, rfl, ?_, ?_, rfl⟩ <;> rw [toU8] <;> unfold clmB <;> simp only [Lib.indexByte] <;> intro h
  · by_cases h1 : b = 45
    · subst h1; decide
    · by_cases h2 : b = 43
      · subst h2; decide
      · by_cases h3 : b = 33
        · subst h3; decide
        · simp [h1, h2, h3] at h
  · have h1 : ¬ b = 45 := fun e => by subst e; simp at h
    have h2 : ¬ b = 43 := fun e => by subst e; simp at h
    have h3 : ¬ b = 33 := fun e => by subst e; simp at h
    have h4 : ((45 : UInt8) == b) = false := by simp; exact fun e => h1 e.symm
    have h5 : ((43 : UInt8) == b) = false := by simp; exact fun e => h2 e.symm
    have h6 : ((33 : UInt8) == b) = false := by simp; exact fun e => h3 e.symm
    simp [h4, h5, h6]
end Go.Proofs.Ytlfbhpeehidjhaa
