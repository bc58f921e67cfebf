/- Texts of numbers with a sign between them, and how they are cut and read: plain lists of bytes, no program. -/
import Derived.Lib.ItoaLen
import Derived.Lib.Join
import Derived.Lib.SplitLaws
import Derived.Lib.AtoiAll
set_option linter.unusedVariables false
set_option linter.unusedSimpArgs false
namespace Go.Proofs.YtjabghojenhhiaaDoor
open Go Go.Lib

/-! ### The digits of a number below a thousand -/
def decF (n : Nat) : List UInt8 :=
  if n < 10 then [UInt8.ofNat (48 + n)] else if n < 100 then [UInt8.ofNat (48 + n / 10), UInt8.ofNat (48 + n % 10)] else [UInt8.ofNat (48 + n / 100), UInt8.ofNat (48 + n / 10 % 10), UInt8.ofNat (48 + n % 10)]
theorem decF_eq {n : Nat} (h : n < 1000) : decDigits n = decF n := by
  unfold decF
  split
  · exact decDigits_one ‹_›
  · split
    · exact decDigits_two ‹_› ‹_›
    · rw [decDigits, dif_neg ‹_›, decDigits_two (by omega) (by omega), Nat.div_div_eq_div_mul]
      rfl
/-- What a text reads as: a number of up to six digits with no needless 0, else -1. -/
def readGo : Int → List UInt8 → Int
  | n, [] => n
  | n, c :: l => if c.toNat < 48 ∨ 57 < c.toNat then -1 else readGo (10 * n + (c.toNat - 48 : Nat)) l
def readL (l : List UInt8) : Int :=
  if l.length < 1 ∨ 6 < l.length then -1 else if l.head? = some 48 ∧ 1 < l.length then -1 else readGo 0 l
theorem read_fin : ∀ n : Fin 121, readL (decF n.val) = (n.val : Int) := by decide +kernel
theorem atoi_fin : ∀ n : Fin 121, atoiAll (decF n.val) = .ok (n.val : Int) := by decide +kernel
theorem nodash_fin : ∀ n : Fin 121, (45 : UInt8) ∉ decF n.val := by decide +kernel
theorem len_fin : ∀ n : Fin 121, 1 ≤ (decF n.val).length ∧ (decF n.val).length ≤ 3 := by decide +kernel
theorem read_dec {n : Nat} (h : n ≤ 120) : readL (decDigits n) = (n : Int) := by rw [decF_eq (by omega)]; exact read_fin ⟨n, by omega⟩
theorem atoi_dec {n : Nat} (h : n ≤ 120) : atoiAll (decDigits n) = .ok (n : Int) := by rw [decF_eq (by omega)]; exact atoi_fin ⟨n, by omega⟩
theorem nodash_dec {n : Nat} (h : n ≤ 120) : (45 : UInt8) ∉ decDigits n := by rw [decF_eq (by omega)]; exact nodash_fin ⟨n, by omega⟩
theorem len_dec {n : Nat} (h : n ≤ 120) : 1 ≤ (decDigits n).length ∧ (decDigits n).length ≤ 3 := by rw [decF_eq (by omega)]; exact len_fin ⟨n, by omega⟩

theorem readGo_ge : ∀ (l : List UInt8) (n : Int), 0 ≤ n → readGo n l = -1 ∨ n ≤ readGo n l
  | [], n, h => .inr (Int.le_refl _)
  | c :: l, n, h => by
    unfold readGo
    split
    · exact .inl rfl
    · rcases readGo_ge l (10 * n + (c.toNat - 48 : Nat)) (by omega) with h1 | h1
      · exact .inl h1
      · exact .inr (by omega)
theorem byte_digit {c : UInt8} (h1 : ¬ (c.toNat < 48 ∨ 57 < c.toNat)) : ∃ d, d < 10 ∧ c = UInt8.ofNat (48 + d) ∧ c.toNat - 48 = d := by
  refine ⟨c.toNat - 48, by omega, ?_, rfl⟩
  apply UInt8.toNat.inj
  simp
  omega
theorem byte_zero {d : Nat} (h : d < 10) : (UInt8.ofNat (48 + d) = 48) ↔ d = 0 := by
  constructor
  · intro e
    have := congrArg UInt8.toNat e
    simp at this
    omega
  · rintro rfl; rfl
/-- A text that reads as an age is this age's digits. -/
theorem dec_of_read {l : List UInt8} {z : Int} (h : readL l = z) (h0 : 0 ≤ z) (h1 : z ≤ 120) : l = decDigits z.toNat := by
  rw [decF_eq (by omega)]
  unfold readL at h
  split at h
  · omega
  · split at h
    · omega
    · rename_i hl hz
      match l, h, hl, hz with
      | [], h, hl, hz => simp at hl
      | [a], h, hl, hz =>
        simp only [readGo] at h
        split at h
        · omega
        · obtain ⟨d, hd, rfl, hv⟩ := byte_digit ‹_›
          rw [hv] at h
          unfold decF
          rw [if_pos (by omega)]
          congr 2; omega
      | [a, b], h, hl, hz =>
        simp only [readGo] at h
        split at h
        · omega
        · split at h
          · omega
          · obtain ⟨d, hd, rfl, hv⟩ := byte_digit ‹¬ (a.toNat < 48 ∨ 57 < a.toNat)›
            obtain ⟨e, he, rfl, hw⟩ := byte_digit ‹¬ (b.toNat < 48 ∨ 57 < b.toNat)›
            rw [hv, hw] at h
            have hd0 : d ≠ 0 := fun e0 => hz ⟨by simp [e0], by simp⟩
            unfold decF
            rw [if_neg (by omega), if_pos (by omega)]
            rw [show z.toNat / 10 = d by omega, show z.toNat % 10 = e by omega]
      | [a, b, c], h, hl, hz =>
        simp only [readGo] at h
        split at h
        · omega
        · split at h
          · omega
          · split at h
            · omega
            · obtain ⟨d, hd, rfl, hv⟩ := byte_digit ‹¬ (a.toNat < 48 ∨ 57 < a.toNat)›
              obtain ⟨e, he, rfl, hw⟩ := byte_digit ‹¬ (b.toNat < 48 ∨ 57 < b.toNat)›
              obtain ⟨f, hf, rfl, hx⟩ := byte_digit ‹¬ (c.toNat < 48 ∨ 57 < c.toNat)›
              rw [hv, hw, hx] at h
              have hd0 : d ≠ 0 := fun e0 => hz ⟨by simp [e0], by simp⟩
              unfold decF
              rw [if_neg (by omega), if_neg (by omega)]
              rw [show z.toNat / 100 = d by omega, show z.toNat / 10 % 10 = e by omega, show z.toNat % 10 = f by omega]
      | a :: b :: c :: e :: r, h, hl, hz =>
        exfalso
        simp only [readGo] at h
        split at h
        · omega
        · split at h
          · omega
          · split at h
            · omega
            · split at h
              · omega
              · obtain ⟨d, hd, rfl, hv⟩ := byte_digit ‹¬ (a.toNat < 48 ∨ 57 < a.toNat)›
                have hd0 : d ≠ 0 := fun e0 => hz ⟨by simp [e0], by simp⟩
                have key : ∀ N : Int, readGo N r = z → 0 ≤ N → z = -1 ∨ N ≤ z := fun N e hN => by
                  have := readGo_ge r N hN
                  rw [e] at this
                  exact this
                have h5 := key _ h (by omega)
                omega

/-! ### Cutting at each sign -/
theorem index_none {a : List UInt8} (h : (45 : UInt8) ∉ a) : Lib.index a [45] = -1 := by
  induction a with
  | nil => rfl
  | cons b l ih =>
    have hb : b ≠ 45 := fun e => h (by simp [e])
    have hl := ih (fun e => h (by simp [e]))
    unfold Lib.index
    rw [if_neg (by simp [List.isPrefixOf]; exact fun e => hb e.symm), hl]
    rfl
theorem index_some {a : List UInt8} (h : (45 : UInt8) ∉ a) (r : List UInt8) : Lib.index (a ++ 45 :: r) [45] = (a.length : Int) := by
  induction a with
  | nil => simp [Lib.index, List.isPrefixOf]
  | cons b l ih =>
    have hb : b ≠ 45 := fun e => h (by simp [e])
    have hl := ih (fun e => h (by simp [e]))
    rw [List.cons_append]
    unfold Lib.index
    rw [if_neg (by simp [List.isPrefixOf]; exact fun e => hb e.symm), hl, if_neg (by simp)]
    simp
theorem splitK_join : ∀ (L : List (List UInt8)) (k : Nat), (∀ x ∈ L, (45 : UInt8) ∉ x) → L ≠ [] → L.length ≤ k + 1 → splitK [45] 0 k (Lib.join L [45]) = L
  | [], _, _, h, _ => absurd rfl h
  | [x], k, h, _, _ => by
    rw [join_one]
    cases k with
    | zero => rfl
    | succ k =>
      unfold splitK
      rw [index_none (h x (by simp))]
      rfl
  | x :: y :: r, 0, _, _, hk => by simp at hk
  | x :: y :: r, k + 1, h, _, hk => by
    have hj : Lib.join (x :: y :: r) [45] = x ++ 45 :: Lib.join (y :: r) [45] := by
      rw [join_cons, join_cons]
      simp [joinTail]
    have ih := splitK_join (y :: r) k (fun z hz => h z (by simp [hz])) (by simp) (by simp at hk ⊢; omega)
    unfold splitK
    rw [hj, index_some (h x (by simp)), if_neg (by simp)]
    congr 1
    · simp
    · rw [show x ++ 45 :: Lib.join (y :: r) [45] = (x ++ [45]) ++ Lib.join (y :: r) [45] by simp]
      rw [List.drop_left' (by simp), ih]
/-- Pieces without the sign are told by their text. -/
theorem join_inj {L M : List (List UInt8)} (hL : ∀ x ∈ L, (45 : UInt8) ∉ x) (hM : ∀ x ∈ M, (45 : UInt8) ∉ x) (hL0 : L ≠ []) (hM0 : M ≠ []) (h : Lib.join L [45] = Lib.join M [45]) : L = M := by
  have h1 := splitK_join L (L.length + M.length) hL hL0 (by omega)
  have h2 := splitK_join M (L.length + M.length) hM hM0 (by omega)
  rw [← h1, h, h2]
theorem join_snoc {L : List (List UInt8)} (h : L ≠ []) (x : List UInt8) : Lib.join (L ++ [x]) [45] = Lib.join L [45] ++ 45 :: x := by
  cases L with
  | nil => exact absurd rfl h
  | cons a r =>
    rw [List.cons_append, join_cons, join_cons]
    simp [joinTail]
theorem join_last (L : List (List UInt8)) (x y : List UInt8) : Lib.join (L ++ [x ++ y]) [45] = Lib.join (L ++ [x]) [45] ++ y := by
  cases L with
  | nil => simp [join_one]
  | cons a r =>
    rw [join_snoc (by simp), join_snoc (by simp)]
    simp

/-! ### The text of ages -/
def decs (zs : List Int) : List (List UInt8) := zs.map fun z => decDigits z.toNat
def textL (zs : List Int) : List UInt8 := Lib.join (decs zs) [45]
def text (zs : List Int) : ByteArray := ⟨(textL zs).toArray⟩
def decB (z : Int) : ByteArray := ⟨(decDigits z.toNat).toArray⟩
def dash : ByteArray := { data := #[45] }
def okAges (zs : List Int) : Prop := 1 ≤ zs.length ∧ zs.length ≤ 8 ∧ ∀ z ∈ zs, 0 ≤ z ∧ z ≤ 120
theorem bytes_append (a b : List UInt8) : (⟨a.toArray⟩ : ByteArray) ++ ⟨b.toArray⟩ = ⟨(a ++ b).toArray⟩ := by
  apply ByteArray.ext
  simp
theorem text_nil : text [] = ByteArray.empty := rfl
theorem text_one (z : Int) : text [z] = decB z := by
  unfold text textL decs decB
  rw [List.map_cons, List.map_nil, join_one]
theorem text_snoc {zs : List Int} (h : zs ≠ []) (z : Int) : text (zs ++ [z]) = (text zs ++ dash) ++ decB z := by
  have hd : dash = ⟨[45].toArray⟩ := rfl
  unfold text textL decB
  rw [hd, bytes_append, bytes_append]
  unfold decs
  rw [List.map_append, List.map_cons, List.map_nil, join_snoc (by simpa using h)]
  simp
theorem decs_nodash {zs : List Int} (h : okAges zs) : ∀ x ∈ decs zs, (45 : UInt8) ∉ x := by
  intro x hx
  obtain ⟨z, hz, rfl⟩ := List.mem_map.1 hx
  have := h.2.2 z hz
  exact nodash_dec (by omega)
theorem decs_ne {zs : List Int} (h : okAges zs) : decs zs ≠ [] := by
  intro e
  have := congrArg List.length e
  simp [decs] at this
  have := h.1
  simp_all
theorem text_len {zs : List Int} (h : okAges zs) : zs.length ≤ (textL zs).length ∧ (textL zs).length ≤ 4 * zs.length := by
  unfold textL
  have hall : ∀ (ys : List Int), (∀ z ∈ ys, 0 ≤ z ∧ z ≤ 120) → ys.length ≤ lens (decs ys) ∧ lens (decs ys) ≤ 3 * ys.length := by
    intro ys hy
    induction ys with
    | nil => simp [lens, decs]
    | cons y r ih =>
      have h1 := ih (fun z hz => hy z (by simp [hz]))
      have h2 := hy y (by simp)
      have h3 := len_dec (n := y.toNat) (by omega)
      simp only [lens, decs, List.map_cons, List.sum_cons, List.length_cons] at h1 ⊢
      omega
  match zs, h with
  | [], h => simp [decs, Lib.join_nil]
  | z :: r, h =>
    have := hall (z :: r) h.2.2
    have hj : (Lib.join (decs (z :: r)) [45]).length = r.length + lens (decs (z :: r)) := by
      unfold decs
      rw [List.map_cons, join_length]
      simp
    rw [hj]
    simp only [List.length_cons] at this ⊢
    omega
theorem text_le31 {zs : List Int} (h : okAges zs) : (text zs).size ≤ 31 := by
  unfold text textL
  have hall : ∀ (ys : List Int), (∀ z ∈ ys, 0 ≤ z ∧ z ≤ 120) → lens (decs ys) ≤ 3 * ys.length := by
    intro ys hy
    induction ys with
    | nil => simp [lens, decs]
    | cons y r ih =>
      have h1 := ih (fun z hz => hy z (by simp [hz]))
      have h2 := hy y (by simp)
      have h3 := len_dec (n := y.toNat) (by omega)
      simp only [lens, decs, List.map_cons, List.sum_cons, List.length_cons] at h1 ⊢
      omega
  match zs, h with
  | [], h => exact absurd h.1 (by simp)
  | z :: r, h =>
    have h1 := hall (z :: r) h.2.2
    have h8 := h.2.1
    have hj : (Lib.join (decs (z :: r)) [45]).length = r.length + lens (decs (z :: r)) := by
      unfold decs
      rw [List.map_cons, join_length]
      simp
    show (Lib.join (decs (z :: r)) [45]).toArray.size ≤ 31
    rw [List.size_toArray, hj]
    simp only [List.length_cons] at h1 h8
    omega
theorem text_inj {zs ys : List Int} (h : okAges zs) (h' : okAges ys) (e : text zs = text ys) : zs = ys := by
  have e1 : textL zs = textL ys := by
    have := congrArg (fun b : ByteArray => b.data.toList) e
    simpa [text] using this
  have e2 := join_inj (decs_nodash h) (decs_nodash h') (decs_ne h) (decs_ne h') e1
  have e3 := congrArg (List.map readL) e2
  have hr : ∀ ws, okAges ws → (decs ws).map readL = ws := by
    intro ws hw
    unfold decs
    rw [List.map_map]
    conv => rhs; rw [← List.map_id ws]
    apply List.map_congr_left
    intro z hz
    have := hw.2.2 z hz
    simp only [Function.comp, id]
    rw [read_dec (by omega)]
    omega
  rwa [hr _ h, hr _ h'] at e3
theorem decs_read {zs : List Int} (h : okAges zs) : (decs zs).map readL = zs := by
  unfold decs
  rw [List.map_map]
  conv => rhs; rw [← List.map_id zs]
  apply List.map_congr_left
  intro z hz
  have := h.2.2 z hz
  simp only [Function.comp, id]
  rw [read_dec (by omega)]
  omega
/-- Pieces without the sign that read as ages are their digits. -/
theorem pieces_decs {L : List (List UInt8)} (h : okAges (L.map readL)) : L = decs (L.map readL) := by
  unfold decs
  rw [List.map_map]
  conv => lhs; rw [← List.map_id L]
  apply List.map_congr_left
  intro l hl
  have := h.2.2 (readL l) (List.mem_map_of_mem hl)
  exact dec_of_read rfl this.1 this.2
end Go.Proofs.YtjabghojenhhiaaDoor
