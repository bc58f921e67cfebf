/- Texts of births, and how they are cut and read: plain lists of bytes, no program. -/
import Derived.Lib.ItoaLen
import Derived.Lib.Join
import Derived.Lib.SplitLaws
import Derived.Lib.AtoiAll
import Derived.Test.YtadfojjglceheaaDoorDate
set_option linter.unusedVariables false
set_option linter.unusedSimpArgs false
namespace Go.Proofs.YtadfojjglceheaaDoor
open Go Go.Lib

/-! ### The digits of a number below ten thousand -/
def decF (n : Nat) : List UInt8 :=
  if n < 10 then [UInt8.ofNat (48 + n)] else if n < 100 then [UInt8.ofNat (48 + n / 10), UInt8.ofNat (48 + n % 10)] else if n < 1000 then [UInt8.ofNat (48 + n / 100), UInt8.ofNat (48 + n / 10 % 10), UInt8.ofNat (48 + n % 10)] else [UInt8.ofNat (48 + n / 1000), UInt8.ofNat (48 + n / 100 % 10), UInt8.ofNat (48 + n / 10 % 10), UInt8.ofNat (48 + n % 10)]
theorem decF_eq {n : Nat} (h : n < 10000) : decDigits n = decF n := by
  unfold decF
  split
  · exact decDigits_one ‹_›
  · split
    · exact decDigits_two ‹_› ‹_›
    · split
      · rw [decDigits, dif_neg ‹_›, decDigits_two (by omega) (by omega), Nat.div_div_eq_div_mul]
        rfl
      · rw [decDigits, dif_neg ‹_›, decDigits, dif_neg (by omega), decDigits_two (by omega) (by omega), show n / 10 / 10 / 10 = n / 1000 by omega, show n / 10 / 10 = n / 100 by omega]
        rfl
/-- What a text reads as: a number of up to six digits with no needless 0, else -1. -/
def readGo : Int → List UInt8 → Int
  | n, [] => n
  | n, c :: l => if c.toNat < 48 ∨ 57 < c.toNat then -1 else readGo (10 * n + (c.toNat - 48 : Nat)) l
def readL (l : List UInt8) : Int :=
  if l.length < 1 ∨ 6 < l.length then -1 else if l.head? = some 48 ∧ 1 < l.length then -1 else readGo 0 l
theorem all_fin : ∀ a : Fin 31, ∀ b : Fin 100, (readL (decF (100 * a.val + b.val)) = ((100 * a.val + b.val : Nat) : Int) ∧ atoiAll (decF (100 * a.val + b.val)) = .ok ((100 * a.val + b.val : Nat) : Int)) ∧ ((44 : UInt8) ∉ decF (100 * a.val + b.val) ∧ (46 : UInt8) ∉ decF (100 * a.val + b.val)) ∧ 1 ≤ (decF (100 * a.val + b.val)).length ∧ (decF (100 * a.val + b.val)).length ≤ 4 := by decide +kernel
theorem len3_fin : ∀ n : Fin 366, (decF n.val).length ≤ 3 := by decide +kernel
theorem all_dec {n : Nat} (h : n ≤ 3000) : (readL (decF n) = (n : Int) ∧ atoiAll (decF n) = .ok (n : Int)) ∧ ((44 : UInt8) ∉ decF n ∧ (46 : UInt8) ∉ decF n) ∧ 1 ≤ (decF n).length ∧ (decF n).length ≤ 4 := by
  have := all_fin ⟨n / 100, by omega⟩ ⟨n % 100, by omega⟩
  simp only at this
  rw [show 100 * (n / 100) + n % 100 = n by omega] at this
  exact this
theorem read_dec {n : Nat} (h : n ≤ 3000) : readL (decDigits n) = (n : Int) := by rw [decF_eq (by omega)]; exact (all_dec h).1.1
theorem atoi_dec {n : Nat} (h : n ≤ 3000) : atoiAll (decDigits n) = .ok (n : Int) := by rw [decF_eq (by omega)]; exact (all_dec h).1.2
theorem sign_dec {n : Nat} (h : n ≤ 3000) : (44 : UInt8) ∉ decDigits n ∧ (46 : UInt8) ∉ decDigits n := by rw [decF_eq (by omega)]; exact (all_dec h).2.1
theorem len_dec {n : Nat} (h : n ≤ 3000) : 1 ≤ (decDigits n).length ∧ (decDigits n).length ≤ 4 := by rw [decF_eq (by omega)]; exact (all_dec h).2.2
theorem len3_dec {n : Nat} (h : n ≤ 365) : (decDigits n).length ≤ 3 := by rw [decF_eq (by omega)]; exact len3_fin ⟨n, by omega⟩

theorem readGo_ge : ∀ (l : List UInt8) (n : Int), 0 ≤ n → readGo n l = -1 ∨ n ≤ readGo n l
  | [], n, h => .inr (Int.le_refl _)
  | c :: l, n, h => by
    unfold readGo
    split
    · exact .inl rfl
    · rcases readGo_ge l (10 * n + (c.toNat - 48 : Nat)) (by omega) with h1 | h1
      · exact .inl h1
      · exact .inr (by omega)
theorem byte_digit {c : UInt8} (h1 : ¬ (c.toNat < 48 ∨ 57 < c.toNat)) : ∃ d, d < 10 ∧ c = UInt8.ofNat (48 + d) ∧ c.toNat - 48 = d := by
  refine ⟨c.toNat - 48, by omega, ?_, rfl⟩
  apply UInt8.toNat.inj
  simp
  omega
theorem byte_zero {d : Nat} (h : d < 10) : (UInt8.ofNat (48 + d) = 48) ↔ d = 0 := by
  constructor
  · intro e
    have := congrArg UInt8.toNat e
    simp at this
    omega
  · rintro rfl; rfl
/-- A text that reads as a number up to 3000 is this number's digits. -/
theorem dec_of_read {l : List UInt8} {z : Int} (h : readL l = z) (h0 : 0 ≤ z) (h1 : z ≤ 3000) : l = decDigits z.toNat := by
  rw [decF_eq (by omega)]
  unfold readL at h
  split at h
  · omega
  · split at h
    · omega
    · rename_i hl hz
      match l, h, hl, hz with
      | [], h, hl, hz => simp at hl
      | [a], h, hl, hz =>
        simp only [readGo] at h
        split at h
        · omega
        · obtain ⟨d, hd, rfl, hv⟩ := byte_digit ‹_›
          rw [hv] at h
          unfold decF
          rw [if_pos (by omega)]
          congr 2; omega
      | [a, b], h, hl, hz =>
        simp only [readGo] at h
        split at h
        · omega
        · split at h
          · omega
          · obtain ⟨d, hd, rfl, hv⟩ := byte_digit ‹¬ (a.toNat < 48 ∨ 57 < a.toNat)›
            obtain ⟨e, he, rfl, hw⟩ := byte_digit ‹¬ (b.toNat < 48 ∨ 57 < b.toNat)›
            rw [hv, hw] at h
            have hd0 : d ≠ 0 := fun e0 => hz ⟨by simp [e0], by simp⟩
            unfold decF
            rw [if_neg (by omega), if_pos (by omega)]
            rw [show z.toNat / 10 = d by omega, show z.toNat % 10 = e by omega]
      | [a, b, c], h, hl, hz =>
        simp only [readGo] at h
        split at h
        · omega
        · split at h
          · omega
          · split at h
            · omega
            · obtain ⟨d, hd, rfl, hv⟩ := byte_digit ‹¬ (a.toNat < 48 ∨ 57 < a.toNat)›
              obtain ⟨e, he, rfl, hw⟩ := byte_digit ‹¬ (b.toNat < 48 ∨ 57 < b.toNat)›
              obtain ⟨f, hf, rfl, hx⟩ := byte_digit ‹¬ (c.toNat < 48 ∨ 57 < c.toNat)›
              rw [hv, hw, hx] at h
              have hd0 : d ≠ 0 := fun e0 => hz ⟨by simp [e0], by simp⟩
              unfold decF
              rw [if_neg (by omega), if_neg (by omega), if_pos (by omega)]
              rw [show z.toNat / 100 = d by omega, show z.toNat / 10 % 10 = e by omega, show z.toNat % 10 = f by omega]
      | [a, b, c, k], h, hl, hz =>
        simp only [readGo] at h
        split at h
        · omega
        · split at h
          · omega
          · split at h
            · omega
            · split at h
              · omega
              · obtain ⟨d, hd, rfl, hv⟩ := byte_digit ‹¬ (a.toNat < 48 ∨ 57 < a.toNat)›
                obtain ⟨e, he, rfl, hw⟩ := byte_digit ‹¬ (b.toNat < 48 ∨ 57 < b.toNat)›
                obtain ⟨f, hf, rfl, hx⟩ := byte_digit ‹¬ (c.toNat < 48 ∨ 57 < c.toNat)›
                obtain ⟨g, hg, rfl, hy⟩ := byte_digit ‹¬ (k.toNat < 48 ∨ 57 < k.toNat)›
                rw [hv, hw, hx, hy] at h
                have hd0 : d ≠ 0 := fun e0 => hz ⟨by simp [e0], by simp⟩
                unfold decF
                rw [if_neg (by omega), if_neg (by omega), if_neg (by omega)]
                rw [show z.toNat / 1000 = d by omega, show z.toNat / 100 % 10 = e by omega, show z.toNat / 10 % 10 = f by omega, show z.toNat % 10 = g by omega]
      | a :: b :: c :: e :: k :: r, h, hl, hz =>
        exfalso
        simp only [readGo] at h
        split at h
        · omega
        · split at h
          · omega
          · split at h
            · omega
            · split at h
              · omega
              · split at h
                · omega
                · obtain ⟨d, hd, rfl, hv⟩ := byte_digit ‹¬ (a.toNat < 48 ∨ 57 < a.toNat)›
                  have hd0 : d ≠ 0 := fun e0 => hz ⟨by simp [e0], by simp⟩
                  have key : ∀ N : Int, readGo N r = z → 0 ≤ N → z = -1 ∨ N ≤ z := fun N e hN => by
                    have := readGo_ge r N hN
                    rw [e] at this
                    exact this
                  have h5 := key _ h (by omega)
                  omega

/-! ### Cutting at each sign -/
theorem index_none {c : UInt8} {a : List UInt8} (h : c ∉ a) : Lib.index a [c] = -1 := by
  induction a with
  | nil => rfl
  | cons b l ih =>
    have hb : b ≠ c := fun e => h (by simp [e])
    have hl := ih (fun e => h (by simp [e]))
    unfold Lib.index
    rw [if_neg (by simp [List.isPrefixOf]; exact fun e => hb e.symm), hl]
    rfl
theorem index_some {c : UInt8} {a : List UInt8} (h : c ∉ a) (r : List UInt8) : Lib.index (a ++ c :: r) [c] = (a.length : Int) := by
  induction a with
  | nil => simp [Lib.index, List.isPrefixOf]
  | cons b l ih =>
    have hb : b ≠ c := fun e => h (by simp [e])
    have hl := ih (fun e => h (by simp [e]))
    rw [List.cons_append]
    unfold Lib.index
    rw [if_neg (by simp [List.isPrefixOf]; exact fun e => hb e.symm), hl, if_neg (by simp)]
    simp
theorem splitK_join {c : UInt8} : ∀ (L : List (List UInt8)) (k : Nat), (∀ x ∈ L, c ∉ x) → L ≠ [] → L.length ≤ k + 1 → splitK [c] 0 k (Lib.join L [c]) = L
  | [], _, _, h, _ => absurd rfl h
  | [x], k, h, _, _ => by
    rw [join_one]
    cases k with
    | zero => rfl
    | succ k =>
      unfold splitK
      rw [index_none (h x (by simp))]
      rfl
  | x :: y :: r, 0, _, _, hk => by simp at hk
  | x :: y :: r, k + 1, h, _, hk => by
    have hj : Lib.join (x :: y :: r) [c] = x ++ c :: Lib.join (y :: r) [c] := by
      rw [join_cons, join_cons]
      simp [joinTail]
    have ih := splitK_join (y :: r) k (fun z hz => h z (by simp [hz])) (by simp) (by simp at hk ⊢; omega)
    unfold splitK
    rw [hj, index_some (h x (by simp)), if_neg (by simp)]
    congr 1
    · simp
    · rw [show x ++ c :: Lib.join (y :: r) [c] = (x ++ [c]) ++ Lib.join (y :: r) [c] by simp]
      rw [List.drop_left' (by simp), ih]
/-- Pieces without the sign are told by their text. -/
theorem join_inj {c : UInt8} {L M : List (List UInt8)} (hL : ∀ x ∈ L, c ∉ x) (hM : ∀ x ∈ M, c ∉ x) (hL0 : L ≠ []) (hM0 : M ≠ []) (h : Lib.join L [c] = Lib.join M [c]) : L = M := by
  have h1 := splitK_join L (L.length + M.length) hL hL0 (by omega)
  have h2 := splitK_join M (L.length + M.length) hM hM0 (by omega)
  rw [← h1, h, h2]
theorem join_snoc {c : UInt8} {L : List (List UInt8)} (h : L ≠ []) (x : List UInt8) : Lib.join (L ++ [x]) [c] = Lib.join L [c] ++ c :: x := by
  cases L with
  | nil => exact absurd rfl h
  | cons a r =>
    rw [List.cons_append, join_cons, join_cons]
    simp [joinTail]
theorem join_last {c : UInt8} (L : List (List UInt8)) (x y : List UInt8) : Lib.join (L ++ [x ++ y]) [c] = Lib.join (L ++ [x]) [c] ++ y := by
  cases L with
  | nil => simp [join_one]
  | cons a r =>
    rw [join_snoc (by simp), join_snoc (by simp)]
    simp

theorem bytes_append (a b : List UInt8) : (⟨a.toArray⟩ : ByteArray) ++ ⟨b.toArray⟩ = ⟨(a ++ b).toArray⟩ := by
  apply ByteArray.ext
  simp
/-- The byte at place i. -/
def byAt (s : ByteArray) (i : Nat) : UInt8 := s.data.toList.getD i 0
/-- Where the piece begins that is being read, and the pieces before it. -/
def cutF (c : UInt8) (s : ByteArray) : Nat → Nat
  | 0 => 0
  | i + 1 => if byAt s i = c then i + 1 else cutF c s i
def cutO (c : UInt8) (s : ByteArray) : Nat → List ByteArray
  | 0 => []
  | i + 1 => if byAt s i = c then cutO c s i ++ [s.extract (cutF c s i) i] else cutO c s i
def cuts (c : UInt8) (s : ByteArray) : List ByteArray := cutO c s s.size ++ [s.extract (cutF c s s.size) s.size]
theorem cutF_le (c : UInt8) (s : ByteArray) : ∀ i, cutF c s i ≤ i
  | 0 => Nat.le_refl _
  | i + 1 => by
    have := cutF_le c s i
    unfold cutF
    split <;> omega
theorem cutO_len (c : UInt8) (s : ByteArray) : ∀ i, (cutO c s i).length ≤ i
  | 0 => Nat.le_refl _
  | i + 1 => by
    have := cutO_len c s i
    unfold cutO
    split
    · rw [List.length_append]; simp; omega
    · omega
theorem cut_yes {c : UInt8} {s : ByteArray} {i : Nat} (h : byAt s i = c) : cutF c s (i + 1) = i + 1 ∧ cutO c s (i + 1) = cutO c s i ++ [s.extract (cutF c s i) i] := by
  constructor
  · rw [cutF, if_pos h]
  · rw [cutO, if_pos h]
theorem cut_no {c : UInt8} {s : ByteArray} {i : Nat} (h : byAt s i ≠ c) : cutF c s (i + 1) = cutF c s i ∧ cutO c s (i + 1) = cutO c s i := by
  constructor
  · rw [cutF, if_neg h]
  · rw [cutO, if_neg h]
def lists (l : List ByteArray) : List (List UInt8) := l.map (·.data.toList)
theorem take_more {l : List UInt8} {i : Nat} (h : i < l.length) : l.take (i + 1) = l.take i ++ [l.getD i 0] := by
  rw [List.take_succ_eq_append_getElem h]
  simp [List.getElem?_eq_getElem h]
theorem extract_self (s : ByteArray) (i : Nat) : (s.extract i i).data.toList = [] := by rw [extract_data]; simp
theorem extract_more {s : ByteArray} {f i : Nat} (h : i < s.size) (hf : f ≤ i) : (s.extract f (i + 1)).data.toList = (s.extract f i).data.toList ++ [byAt s i] := by
  rw [extract_data, extract_data, show i + 1 - f = i - f + 1 by omega, take_more (by rw [List.length_drop, ← size_eq]; omega)]
  unfold byAt
  congr 2
  simp only [List.getD_eq_getElem?_getD, List.getElem?_drop]
  rw [show f + (i - f) = i by omega]
theorem cut_inv (c : UInt8) (s : ByteArray) : ∀ i, i ≤ s.size → Lib.join (lists (cutO c s i ++ [s.extract (cutF c s i) i])) [c] = s.data.toList.take i ∧ ∀ x ∈ lists (cutO c s i ++ [s.extract (cutF c s i) i]), c ∉ x
  | 0, _ => by
    have h0 : lists (cutO c s 0 ++ [s.extract (cutF c s 0) 0]) = [[]] := by
      show [(s.extract 0 0).data.toList] = [[]]
      rw [extract_self]
    rw [h0]
    exact ⟨by simp [join_one], by simp⟩
  | i + 1, hi => by
    obtain ⟨h1, h2⟩ := cut_inv c s i (by omega)
    have ht : s.data.toList.take (i + 1) = s.data.toList.take i ++ [byAt s i] := take_more (by rw [← size_eq]; omega)
    by_cases hb : byAt s i = c
    · obtain ⟨e1, e2⟩ := cut_yes hb
      have e : lists (cutO c s (i + 1) ++ [s.extract (cutF c s (i + 1)) (i + 1)]) = lists (cutO c s i ++ [s.extract (cutF c s i) i]) ++ [[]] := by
        rw [e1, e2]
        unfold lists
        rw [List.map_append, List.map_cons, List.map_nil, extract_self]
      rw [e, ht, hb]
      refine ⟨?_, ?_⟩
      · rw [join_snoc (by simp [lists]), h1]
      · intro x hx
        rcases List.mem_append.1 hx with hx | hx
        · exact h2 x hx
        · simp at hx; simp [hx]
    · obtain ⟨e1, e2⟩ := cut_no hb
      have e : lists (cutO c s (i + 1) ++ [s.extract (cutF c s (i + 1)) (i + 1)]) = lists (cutO c s i) ++ [(s.extract (cutF c s i) i).data.toList ++ [byAt s i]] := by
        rw [e1, e2]
        unfold lists
        rw [List.map_append, List.map_cons, List.map_nil, extract_more (by omega) (cutF_le c s i)]
      have e0 : lists (cutO c s i ++ [s.extract (cutF c s i) i]) = lists (cutO c s i) ++ [(s.extract (cutF c s i) i).data.toList] := by
        unfold lists
        rw [List.map_append, List.map_cons, List.map_nil]
      rw [e0] at h1 h2
      rw [e, ht]
      refine ⟨?_, ?_⟩
      · rw [join_last, h1]
      · intro x hx
        rcases List.mem_append.1 hx with hx | hx
        · exact h2 x (by simp [hx])
        · simp only [List.mem_singleton] at hx
          rw [hx]
          intro hm
          rcases List.mem_append.1 hm with hm | hm
          · exact h2 _ (by simp) hm
          · simp only [List.mem_singleton] at hm
            exact hb hm.symm
theorem cuts_join (c : UInt8) (s : ByteArray) : Lib.join (lists (cuts c s)) [c] = s.data.toList := by
  have := (cut_inv c s s.size (Nat.le_refl _)).1
  rwa [List.take_of_length_le (by rw [← size_eq]; omega)] at this
theorem cuts_nodash (c : UInt8) (s : ByteArray) : ∀ x ∈ lists (cuts c s), c ∉ x := (cut_inv c s s.size (Nat.le_refl _)).2
theorem cuts_ne (c : UInt8) (s : ByteArray) : lists (cuts c s) ≠ [] := by simp [lists, cuts]

/-- What a piece reads as. -/
def readB (b : ByteArray) : Int := readL b.data.toList

/-! ### The text of births -/
def decB (z : Int) : ByteArray := ⟨(decDigits z.toNat).toArray⟩
def wordL (p : Dt) : List UInt8 := decDigits p.1.toNat ++ 46 :: decDigits p.2.toNat
def wordB (p : Dt) : ByteArray := ⟨(wordL p).toArray⟩
def dotB : ByteArray := { data := #[46] }
def commaB : ByteArray := { data := #[44] }
def wordsL (ds : List Dt) : List (List UInt8) := ds.map wordL
def textL (ds : List Dt) : List UInt8 := Lib.join (wordsL ds) [44]
def text (ds : List Dt) : ByteArray := ⟨(textL ds).toArray⟩
theorem wordB_eq (p : Dt) : wordB p = (decB p.1 ++ dotB) ++ decB p.2 := by
  have hd : dotB = ⟨[46].toArray⟩ := rfl
  unfold wordB wordL decB
  rw [hd, bytes_append, bytes_append]
  simp
theorem text_nil : text [] = ByteArray.empty := rfl
theorem text_one (p : Dt) : text [p] = wordB p := by
  unfold text textL wordsL wordB
  rw [List.map_cons, List.map_nil, join_one]
theorem text_snoc {ds : List Dt} (h : ds ≠ []) (p : Dt) : text (ds ++ [p]) = (text ds ++ commaB) ++ wordB p := by
  have hd : commaB = ⟨[44].toArray⟩ := rfl
  unfold text textL wordB
  rw [hd, bytes_append, bytes_append]
  unfold wordsL
  rw [List.map_append, List.map_cons, List.map_nil, join_snoc (by simpa using h)]
  simp
theorem date_nat {p : Dt} (h : dateB p = true) : p.1.toNat ≤ 3000 ∧ p.2.toNat ≤ 365 ∧ (p.1.toNat : Int) = p.1 ∧ (p.2.toNat : Int) = p.2 := by
  have := dateB_iff.1 h
  omega
theorem word_sign {p : Dt} (h : dateB p = true) : (44 : UInt8) ∉ wordL p := by
  have hb := date_nat h
  intro hm
  unfold wordL at hm
  rcases List.mem_append.1 hm with h1 | h1
  · exact (sign_dec hb.1).1 h1
  · rcases List.mem_cons.1 h1 with h2 | h2
    · exact absurd h2 (by decide)
    · exact (sign_dec (by omega)).1 h2
theorem word_len {p : Dt} (h : dateB p = true) : 3 ≤ (wordL p).length ∧ (wordL p).length ≤ 8 := by
  have hb := date_nat h
  have h1 := len_dec hb.1
  have h2 := len_dec (n := p.2.toNat) (by omega)
  have h3 := len3_dec hb.2.1
  unfold wordL
  rw [List.length_append, List.length_cons]
  omega
theorem births_mem {ds : List Dt} (h : birthsB ds = true) : ∀ p ∈ ds, dateB p = true := by
  unfold birthsB at h; rw [Bool.and_eq_true, List.all_eq_true] at h
  exact h.2
theorem words_sign {ds : List Dt} (h : birthsB ds = true) : ∀ x ∈ wordsL ds, (44 : UInt8) ∉ x := by
  intro x hx
  obtain ⟨p, hp, rfl⟩ := List.mem_map.1 hx
  exact word_sign (births_mem h p hp)
theorem words_ne {ds : List Dt} (h : birthsB ds = true) : wordsL ds ≠ [] := by
  have := birthsB_len h
  intro e
  have := congrArg List.length e
  simp [wordsL] at this
  simp_all
theorem lens_words : ∀ (ds : List Dt), (∀ p ∈ ds, dateB p = true) → lens (wordsL ds) ≤ 8 * ds.length ∧ ds.length ≤ lens (wordsL ds)
  | [], _ => by simp [lens, wordsL]
  | p :: r, h => by
    have h1 := lens_words r (fun q hq => h q (by simp [hq]))
    have h2 := word_len (h p (by simp))
    simp only [lens, wordsL, List.map_cons, List.sum_cons, List.length_cons] at h1 ⊢
    omega
theorem text_len' : ∀ (ds : List Dt), (∀ p ∈ ds, dateB p = true) → ds ≠ [] → (textL ds).length ≤ 9 * ds.length - 1 ∧ ds.length ≤ (textL ds).length
  | [], _, h => absurd rfl h
  | p :: r, h, _ => by
    have h1 := lens_words (p :: r) h
    have hj : (textL (p :: r)).length = r.length + lens (wordsL (p :: r)) := by
      unfold textL wordsL
      rw [List.map_cons, join_length]
      simp
    simp only [List.length_cons] at h1 ⊢
    rw [hj]
    omega
theorem text_size (ds : List Dt) : (text ds).size = (textL ds).length := by
  show (textL ds).toArray.size = _
  simp
theorem text_le71 {ds : List Dt} (h : birthsB ds = true) : (text ds).size ≤ 71 ∧ ds.length ≤ (text ds).size := by
  have h8 := birthsB_len h
  have := text_len' ds (births_mem h) (by rintro rfl; simp at h8)
  rw [text_size]
  omega
theorem text_data (ds : List Dt) : (text ds).data.toList = textL ds := by simp [text]

/-! ### A piece is a date, a text is births -/
def pieceOk (q : ByteArray) : Bool := decide ((cuts 46 q).length = 2)
def pieceD (q : ByteArray) : Dt := (readB ((cuts 46 q).getD 0 ByteArray.empty), readB ((cuts 46 q).getD 1 ByteArray.empty))
theorem cuts_two {q : ByteArray} (h : (cuts 46 q).length = 2) : q.data.toList = ((cuts 46 q).getD 0 ByteArray.empty).data.toList ++ 46 :: ((cuts 46 q).getD 1 ByteArray.empty).data.toList := by
  have hj := cuts_join 46 q
  match hc : cuts 46 q, h with
  | [u, v], _ =>
    rw [hc] at hj
    simp only [lists, List.map_cons, List.map_nil] at hj
    rw [join_cons] at hj
    simp [joinTail] at hj
    simp
    exact hj.symm
/-- A piece that reads as a date is this date's text. -/
theorem piece_word {q : ByteArray} (h : pieceOk q = true) (hd : dateB (pieceD q) = true) : q = wordB (pieceD q) := by
  have h2 := cuts_two (of_decide_eq_true h)
  have hb := dateB_iff.1 hd
  have e1 := dec_of_read (l := ((cuts 46 q).getD 0 ByteArray.empty).data.toList) (z := (pieceD q).1) rfl hb.1.1 hb.1.2
  have e2 := dec_of_read (l := ((cuts 46 q).getD 1 ByteArray.empty).data.toList) (z := (pieceD q).2) rfl (by omega) (by omega)
  have e : q.data.toList = wordL (pieceD q) := by
    unfold wordL
    rw [← e1, ← e2]
    exact h2
  unfold wordB
  rw [← e, mk_data]
/-- A date's text reads as this date. -/
theorem word_piece {p : Dt} (h : dateB p = true) : pieceOk (wordB p) = true ∧ pieceD (wordB p) = p := by
  have hn := date_nat h
  have hj := cuts_join 46 (wordB p)
  have hL : ∀ x ∈ [decDigits p.1.toNat, decDigits p.2.toNat], (46 : UInt8) ∉ x := by
    intro x hx
    rcases List.mem_cons.1 hx with rfl | hx
    · exact (sign_dec hn.1).2
    · rcases List.mem_cons.1 hx with rfl | hx
      · exact (sign_dec (by omega)).2
      · simp at hx
  have hw : (wordB p).data.toList = Lib.join [decDigits p.1.toNat, decDigits p.2.toNat] [46] := by
    rw [join_cons]
    simp [joinTail, wordB, wordL]
  rw [hw] at hj
  have e := join_inj (cuts_nodash 46 (wordB p)) hL (cuts_ne 46 _) (by simp) hj
  have hl : (cuts 46 (wordB p)).length = 2 := by
    have := congrArg List.length e
    simpa [lists] using this
  refine ⟨decide_eq_true hl, ?_⟩
  match hc : cuts 46 (wordB p), hl with
  | [u, v], _ =>
    rw [hc] at e
    simp only [lists, List.map_cons, List.map_nil, List.cons.injEq, and_true] at e
    unfold pieceD readB
    rw [hc]
    simp only [List.getD_cons_zero, List.getD_cons_succ]
    rw [e.1, e.2, read_dec hn.1, read_dec (by omega), hn.2.2.1, hn.2.2.2]
def dsOf (s : ByteArray) : List Dt := (cuts 44 s).map pieceD
/-- What ParseBirths answers. -/
def parsed (s : ByteArray) : Bool := decide (s.size ≤ 71) && ((cuts 44 s).all pieceOk && birthsB (dsOf s))
def parseOr (s : ByteArray) : List Dt := if parsed s = true then dsOf s else []
theorem parsed_parts {s : ByteArray} (h : parsed s = true) : s.size ≤ 71 ∧ (∀ q ∈ cuts 44 s, pieceOk q = true) ∧ birthsB (dsOf s) = true := by
  unfold parsed at h
  rw [Bool.and_eq_true, Bool.and_eq_true, List.all_eq_true] at h
  exact ⟨of_decide_eq_true h.1, h.2.1, h.2.2⟩
theorem parsed_not {s : ByteArray} (h : parsed s = false) : parseOr s = [] := by unfold parseOr; rw [h]; rfl
/-- What parses is the text of what it parses as. -/
theorem text_parsed {s : ByteArray} (h : parsed s = true) : s = text (dsOf s) := by
  obtain ⟨_, h2, h3⟩ := parsed_parts h
  have hm : wordsL (dsOf s) = lists (cuts 44 s) := by
    unfold wordsL dsOf lists
    rw [List.map_map]
    apply List.map_congr_left
    intro q hq
    have := piece_word (h2 q hq) (births_mem h3 _ (List.mem_map_of_mem hq))
    simp only [Function.comp]
    conv => rhs; rw [this]
    simp [wordB]
  unfold text textL
  rw [hm, cuts_join, mk_data]
theorem cuts_text {ds : List Dt} (h : birthsB ds = true) : cuts 44 (text ds) = ds.map wordB := by
  have hj := cuts_join 44 (text ds)
  rw [text_data] at hj
  have e := join_inj (cuts_nodash 44 (text ds)) (words_sign h) (cuts_ne 44 _) (words_ne h) hj
  have e2 := congrArg (List.map fun l : List UInt8 => (⟨l.toArray⟩ : ByteArray)) e
  unfold lists wordsL at e2
  rw [List.map_map, List.map_map] at e2
  have hf : ((fun l : List UInt8 => (⟨l.toArray⟩ : ByteArray)) ∘ fun b : ByteArray => b.data.toList) = id := by
    funext b
    exact mk_data b
  rw [hf, List.map_id] at e2
  exact e2
theorem parsed_text {ds : List Dt} (h : birthsB ds = true) : parsed (text ds) = true ∧ parseOr (text ds) = ds := by
  have hc := cuts_text h
  have hd : dsOf (text ds) = ds := by
    unfold dsOf
    rw [hc, List.map_map]
    conv => rhs; rw [← List.map_id ds]
    apply List.map_congr_left
    intro p hp
    exact (word_piece (births_mem h p hp)).2
  have hp : parsed (text ds) = true := by
    unfold parsed
    rw [hd, h, decide_eq_true (text_le71 h).1, hc, Bool.true_and, Bool.and_true, List.all_eq_true]
    intro q hq
    obtain ⟨p, hp, rfl⟩ := List.mem_map.1 hq
    exact (word_piece (births_mem h p hp)).1
  refine ⟨hp, ?_⟩
  unfold parseOr
  rw [if_pos hp, hd]
/-- The pieces that the library cuts a text of births into. -/
theorem splitN_text {ds : List Dt} (h : birthsB ds = true) : Lib.splitB commaB 0 (min 9 ((text ds).size + 1) - 1) (text ds) = ds.map wordB := by
  have hs : (text ds).size = (textL ds).length := text_size ds
  have hl := (text_le71 h).2
  have h8 := birthsB_len h
  have hd : Lib.splitK [44] 0 (min 9 ((text ds).size + 1) - 1) (textL ds) = wordsL ds := by
    unfold textL
    refine splitK_join _ _ (words_sign h) (words_ne h) ?_
    have : (wordsL ds).length = ds.length := by simp [wordsL]
    rw [this]
    omega
  have hm := Lib.splitB_data commaB 0 (min 9 ((text ds).size + 1) - 1) (text ds)
  rw [text_data, show commaB.data.toList = [44] from rfl, hd] at hm
  have hi := congrArg (List.map fun l : List UInt8 => (⟨l.toArray⟩ : ByteArray)) hm
  rw [List.map_map] at hi
  have hf : ((fun l : List UInt8 => (⟨l.toArray⟩ : ByteArray)) ∘ fun b : ByteArray => b.data.toList) = id := by
    funext b
    exact mk_data b
  rw [hf, List.map_id] at hi
  rw [hi]
  unfold wordsL wordB
  rw [List.map_map]
  rfl
/-- The place of the point in a date's text. -/
theorem index_word {p : Dt} (h : dateB p = true) : Lib.index (wordL p) [46] = ((decDigits p.1.toNat).length : Int) := by
  unfold wordL
  exact index_some (sign_dec (date_nat h).1).2 _
end Go.Proofs.YtadfojjglceheaaDoor
