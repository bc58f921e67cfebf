/- How a text of births is read sign by sign: plain lists of bytes, no program. -/
import Derived.Test.YtadfojjglceheaaDoorBTxM
import Derived.Laws.RangeAny
import Derived.IntWalk
set_option linter.unusedVariables false
set_option linter.unusedSimpArgs false
namespace Go.Proofs.YtadfojjglceheaaDoor
open Go Go.Lib Go.RowKit

/-- A digit behind a number, as a machine reckons. -/
def accW (a : Int) (c : UInt8) : Int := wrap64 (wrap64 (a * 10) + ((c.toNat : Int) - 48))
def accL (l : List UInt8) : Int := l.foldl accW 0
theorem accL_snoc (l : List UInt8) (c : UInt8) : accL (l ++ [c]) = accW (accL l) c := by unfold accL; rw [List.foldl_append]; rfl
/-- What has been read of the first i bytes. -/
def stW (s : ByteArray) (i : Nat) : List Int := (cutO 44 s i ++ [s.extract (cutF 44 s i) i]).map fun b => accL b.data.toList
theorem stW_zero (s : ByteArray) : stW s 0 = [0] := by
  show [accL (s.extract 0 0).data.toList] = [0]
  rw [extract_self]; rfl
theorem stW_form (s : ByteArray) (i : Nat) : stW s i = (cutO 44 s i).map (fun b => accL b.data.toList) ++ [accL (s.extract (cutF 44 s i) i).data.toList] := by
  unfold stW; rw [List.map_append]; rfl
theorem stW_yes {s : ByteArray} {i : Nat} (h : byAt s i = 44) : stW s (i + 1) = stW s i ++ [0] := by
  obtain ⟨e1, e2⟩ := cut_yes h
  rw [stW_form, e1, e2, extract_self, List.map_append, stW_form]
  rfl
theorem stW_no {s : ByteArray} {i : Nat} (h : byAt s i ≠ 44) (hi : i < s.size) : stW s (i + 1) = (stW s i).set ((stW s i).length - 1) (accW ((stW s i).getD ((stW s i).length - 1) 0) (byAt s i)) := by
  obtain ⟨e1, e2⟩ := cut_no h
  rw [stW_form, e1, e2, extract_more hi (cutF_le 44 s i), accL_snoc, stW_form]
  generalize (cutO 44 s i).map (fun b => accL b.data.toList) = A
  generalize accL (s.extract (cutF 44 s i) i).data.toList = x
  have hl : (A ++ [x]).length - 1 = A.length := by simp
  rw [hl, List.set_append, if_neg (by omega), Nat.sub_self, List.set_cons_zero]
  congr 2
  simp [List.getD_eq_getElem?_getD]
theorem stW_len (s : ByteArray) (i : Nat) : 1 ≤ (stW s i).length ∧ (stW s i).length ≤ i + 1 := by
  have := cutO_len 44 s i
  rw [stW_form]; simp; omega
theorem fold_read : ∀ (l : List UInt8) (n z : Int), readGo n l = z → 0 ≤ n → 0 ≤ z → z ≤ 2900 → l.foldl accW n = z
  | [], n, z, h, _, _, _ => h
  | c :: l, n, z, h, h0, hz, h1 => by
    unfold readGo at h
    split at h
    · omega
    · rename_i hd
      have hge := readGo_ge l (10 * n + (c.toNat - 48 : Nat)) (by omega)
      rw [h] at hge
      have hle : 10 * n + (c.toNat - 48 : Nat) ≤ z := by rcases hge with e | e <;> omega
      have hw1 : wrap64 (n * 10) = n * 10 := IntWalk.wrap64_in _ (by omega)
      have hw2 : accW n c = 10 * n + (c.toNat - 48 : Nat) := by
        unfold accW
        rw [hw1, IntWalk.wrap64_in _ (by omega)]
        omega
      rw [List.foldl_cons, hw2]
      exact fold_read l _ z h (by omega) hz h1
theorem acc_read {b : ByteArray} (h0 : 0 ≤ readB b) (h1 : readB b ≤ 2900) : accL b.data.toList = readB b := by
  unfold readB at h0 h1 ⊢
  unfold accL
  obtain ⟨z, hz⟩ : ∃ z, readL b.data.toList = z := ⟨_, rfl⟩
  rw [hz] at h0 h1 ⊢
  have hz2 := hz
  unfold readL at hz
  split at hz
  · omega
  · split at hz
    · omega
    · exact fold_read _ 0 z hz (by omega) h0 h1
theorem stW_all {s : ByteArray} (h : bornB (bReads s) = true) : stW s s.size = bReads s := by
  have ho := good_ok h
  unfold stW bReads
  apply List.map_congr_left
  intro b hb
  have hm : readB b ∈ bReads s := List.mem_map_of_mem hb
  have := ho.2.2 _ hm
  exact acc_read this.1 this.2

/-- What ParseBorn answers. -/
def psd (s : ByteArray) : Bool := decide (s.size ≤ 50) && bornB (bReads s)
def psOr (s : ByteArray) : List Int := if psd s = true then bReads s else []
theorem psd_true {s : ByteArray} (h : psd s = true) : bornB (bReads s) = true ∧ s = bx (bReads s) := by
  unfold psd at h; rw [Bool.and_eq_true] at h
  exact ⟨h.2, bx_bReads (good_ok h.2)⟩
theorem psd_bx {zs : List Int} (h : bornB zs = true) : psd (bx zs) = true ∧ psOr (bx zs) = zs := by
  have ho := good_ok h
  have h1 := bReads_bx ho
  have h2 := bx_le49 ho
  have e : psd (bx zs) = true := by unfold psd; rw [h1, h, decide_eq_true (by omega)]; rfl
  exact ⟨e, by unfold psOr; rw [e, h1]; rfl⟩
theorem psOr_no {s : ByteArray} (h : psd s = false) : psOr s = [] := by unfold psOr; rw [h]; rfl
/-- All signs are plain. -/
def asc (s : ByteArray) : Prop := ∀ i, i < s.size → (byAt s i).toNat < 128
theorem dec_asc {n : Nat} (h : n ≤ 2900) : ∀ c ∈ decDigits n, c.toNat < 128 := by
  rw [decF_eq (by omega)]
  have key : ∀ a : Fin 30, ∀ b : Fin 100, ∀ c ∈ decF (100 * a.val + b.val), c.toNat < 128 := by decide +kernel
  have := key ⟨n / 100, by omega⟩ ⟨n % 100, by omega⟩
  simpa [show 100 * (n / 100) + n % 100 = n by omega] using this
theorem join_asc : ∀ (L : List (List UInt8)), (∀ x ∈ L, ∀ c ∈ x, c.toNat < 128) → ∀ c ∈ Lib.join L [44], c.toNat < 128
  | [], _, c, hc => by rw [Lib.join_nil] at hc; exact absurd hc (by simp)
  | [x], h, c, hc => by rw [join_one] at hc; exact h x (by simp) c hc
  | x :: y :: r, h, c, hc => by
    have hj : Lib.join (x :: y :: r) [44] = x ++ 44 :: Lib.join (y :: r) [44] := by
      rw [join_cons, join_cons]; simp [joinTail]
    rw [hj] at hc
    rcases List.mem_append.1 hc with hc | hc
    · exact h x (by simp) c hc
    · rcases List.mem_cons.1 hc with rfl | hc
      · decide
      · exact join_asc (y :: r) (fun z hz => h z (by simp [hz])) c hc
theorem psd_asc {s : ByteArray} (h : psd s = true) : asc s := by
  obtain ⟨h1, h2⟩ := psd_true h
  intro i hi
  have hm : byAt s i ∈ s.data.toList := by
    have hl : i < s.data.toList.length := by rw [← Lib.size_eq]; exact hi
    unfold byAt
    simp [List.getElem?_eq_getElem hl]
  have hd : s.data.toList = bxL (bReads s) := (congrArg (fun b : ByteArray => b.data.toList) h2).trans (bx_data _)
  rw [hd] at hm
  refine join_asc (decs (bReads s)) (fun x hx c hc => ?_) _ hm
  obtain ⟨z, hz, rfl⟩ := List.mem_map.1 hx
  have := (good_ok h1).2.2 z hz
  exact dec_asc (by omega) c hc
end Go.Proofs.YtadfojjglceheaaDoor
