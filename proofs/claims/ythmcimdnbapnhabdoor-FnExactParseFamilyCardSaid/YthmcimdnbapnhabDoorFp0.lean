/- Texts of families: what they read as (pure). -/
import Derived.Test.YthmcimdnbapnhabDoorFt2
set_option linter.unusedVariables false
set_option linter.unusedSimpArgs false
namespace Go.Proofs.YthmcimdnbapnhabDoor
open Go.RowKit
open Go.Lib

/-- The three shapes of kin in a family. -/
theorem par_cases {fs : List Kn} (hf : famB fs = true) {k : Nat} (hk : k < fs.length) :
    (parI fs k = [] ∧ (at3 fs k).2.1 = -1 ∧ (at3 fs k).2.2 = -1) ∨
    (parI fs k = [(at3 fs k).2.1] ∧ (0 ≤ (at3 fs k).2.1 ∧ (at3 fs k).2.1 ≤ 13) ∧ (at3 fs k).2.2 = -1) ∨
    (parI fs k = [(at3 fs k).2.1, (at3 fs k).2.2] ∧ (0 ≤ (at3 fs k).2.1 ∧ (at3 fs k).2.1 ≤ 13) ∧ (0 ≤ (at3 fs k).2.2 ∧ (at3 fs k).2.2 ≤ 13)) := by
  have h := fitB_par (famB_at hf k hk)
  have hn := famB_len hf
  unfold parI
  rcases h with ⟨h1, h2⟩ | ⟨h1, _, h3⟩
  · exact .inl ⟨by rw [h1, h2]; rfl, h1, h2⟩
  · rcases h3 with h3 | ⟨h3, h4, _⟩
    · refine .inr (.inl ⟨?_, by omega, h3⟩)
      rw [h3]
      simp only [List.filter, decide_eq_true h1.1]
      rfl
    · refine .inr (.inr ⟨?_, by omega, by omega⟩)
      simp only [List.filter, decide_eq_true h1.1, decide_eq_true (show 0 ≤ (at3 fs k).2.2 by omega)]
/-- The numbers of one of the kin as texts. -/
def partsL (fs : List Kn) (k : Nat) : List (List UInt8) := decDigits (at3 fs k).1.toNat :: (parI fs k).map fun p => decDigits p.toNat
theorem word_data {fs : List Kn} (hf : famB fs = true) {k : Nat} (hk : k < fs.length) : (wordK fs k).data.toList = Lib.join (partsL fs k) [46] := by
  unfold wordK partsL
  rcases par_cases hf hk with ⟨h1, _⟩ | ⟨h1, _⟩ | ⟨h1, _⟩
  · rw [h1]; simp [kinW, decB, Lib.join_one]
  · rw [h1]
    simp only [List.length_cons, List.length_nil, List.map_cons, List.map_nil, kinW]
    rw [join_cons]
    simp [joinTail, decB]
  · rw [h1]
    simp only [List.length_cons, List.length_nil, List.map_cons, List.map_nil, kinW]
    rw [join_cons]
    simp [joinTail, decB]
theorem len2_fin : ∀ n : Fin 14, (decF n.val).length ≤ 2 := by decide +kernel
theorem len2_dec {n : Nat} (h : n ≤ 13) : (decDigits n).length ≤ 2 := by rw [decF_eq (by omega)]; exact len2_fin ⟨n, by omega⟩
theorem no59_fin : ∀ a : Fin 31, ∀ b : Fin 100, (59 : UInt8) ∉ decF (100 * a.val + b.val) := by decide +kernel
theorem no59 {n : Nat} (h : n ≤ 3000) : (59 : UInt8) ∉ decDigits n := by
  rw [decF_eq (by omega)]
  have := no59_fin ⟨n / 100, by omega⟩ ⟨n % 100, by omega⟩
  rwa [show 100 * (n / 100) + n % 100 = n by omega] at this
theorem parts_mem {fs : List Kn} (hf : famB fs = true) {k : Nat} (hk : k < fs.length) : ∀ x ∈ partsL fs k, ∃ n : Nat, n ≤ 3000 ∧ x = decDigits n := by
  intro x hx
  have hb := fitB_born (famB_at hf k hk)
  unfold partsL at hx
  rcases List.mem_cons.1 hx with rfl | hx
  · exact ⟨_, by omega, rfl⟩
  · obtain ⟨p, hp, rfl⟩ := List.mem_map.1 hx
    rcases par_cases hf hk with ⟨h1, _⟩ | ⟨h1, h2, _⟩ | ⟨h1, h2, h3⟩
    · rw [h1] at hp; simp at hp
    · rw [h1] at hp; simp at hp; subst hp; exact ⟨_, by omega, rfl⟩
    · rw [h1] at hp; simp at hp
      rcases hp with rfl | rfl
      · exact ⟨_, by omega, rfl⟩
      · exact ⟨_, by omega, rfl⟩
theorem parts_dot {fs : List Kn} (hf : famB fs = true) {k : Nat} (hk : k < fs.length) : ∀ x ∈ partsL fs k, (46 : UInt8) ∉ x := by
  intro x hx
  obtain ⟨n, hn, rfl⟩ := parts_mem hf hk x hx
  exact (sign_dec hn).2
theorem word_semi {fs : List Kn} (hf : famB fs = true) {k : Nat} (hk : k < fs.length) : (59 : UInt8) ∉ (wordK fs k).data.toList := by
  rw [word_data hf hk]
  have hb := fitB_born (famB_at hf k hk)
  have hy : (59 : UInt8) ∉ decDigits (at3 fs k).1.toNat := no59 (by omega)
  unfold partsL
  rcases par_cases hf hk with ⟨h1, _⟩ | ⟨h1, h2, _⟩ | ⟨h1, h2, h3⟩
  · rw [h1, List.map_nil, Lib.join_one]; exact hy
  · have hp : (59 : UInt8) ∉ decDigits (at3 fs k).2.1.toNat := no59 (by omega)
    rw [h1, List.map_cons, List.map_nil, join_cons]
    simp [joinTail, hy, hp]
  · have hp : (59 : UInt8) ∉ decDigits (at3 fs k).2.1.toNat := no59 (by omega)
    have hq : (59 : UInt8) ∉ decDigits (at3 fs k).2.2.toNat := no59 (by omega)
    rw [h1, List.map_cons, List.map_cons, List.map_nil, join_cons]
    simp [joinTail, hy, hp, hq]
theorem word_len10 {fs : List Kn} (hf : famB fs = true) {k : Nat} (hk : k < fs.length) : (wordK fs k).data.toList.length ≤ 10 := by
  rw [word_data hf hk]
  have hb := fitB_born (famB_at hf k hk)
  have hy := (len_dec (n := (at3 fs k).1.toNat) (by omega)).2
  unfold partsL
  rcases par_cases hf hk with ⟨h1, _⟩ | ⟨h1, h2, _⟩ | ⟨h1, h2, h3⟩
  · rw [h1, List.map_nil, Lib.join_one]; omega
  · have hp := len2_dec (n := (at3 fs k).2.1.toNat) (by omega)
    rw [h1, List.map_cons, List.map_nil, join_cons]
    simp [joinTail]; omega
  · have hp := len2_dec (n := (at3 fs k).2.1.toNat) (by omega)
    have hq := len2_dec (n := (at3 fs k).2.2.toNat) (by omega)
    rw [h1, List.map_cons, List.map_cons, List.map_nil, join_cons]
    simp [joinTail]; omega
/-- A family's text is short enough. -/
theorem ftx_le {fs : List Kn} (hf : famB fs = true) : ∀ k, k ≤ fs.length → (ftx fs k).size ≤ 11 * k := by
  intro k
  induction k with
  | zero => intro _; exact Nat.le_refl _
  | succ k ih =>
    intro hk
    have h1 := ih (by omega)
    have h2 := word_len10 hf (show k < fs.length by omega)
    have h3 : (wordK fs k).size = (wordK fs k).data.toList.length := by rw [Lib.size_eq]
    have e : ({ data := #[59] } : ByteArray).size = 1 := rfl
    rw [ftx, ByteArray.size_append]
    split
    · rw [ByteArray.size_append, e]; omega
    · omega
theorem ftx_data (fs : List Kn) (n : Nat) : (ftx fs n).data.toList = Lib.join (wordsF fs n) [59] := by rw [ftx_join]
theorem wordsF_semi {fs : List Kn} (hf : famB fs = true) : ∀ x ∈ wordsF fs fs.length, (59 : UInt8) ∉ x := by
  intro x hx
  unfold wordsF at hx
  obtain ⟨i, hi, rfl⟩ := List.mem_map.1 hx
  exact word_semi hf (List.mem_range.1 hi)
theorem wordsF_ne {fs : List Kn} (hf : famB fs = true) : wordsF fs fs.length ≠ [] := by
  have := famB_len hf
  intro e
  have h : (wordsF fs fs.length).length = 0 := by rw [e]; rfl
  simp only [wordsF, List.length_map, List.length_range] at h
  omega
theorem cuts_fam {fs : List Kn} (hf : famB fs = true) : cuts 59 (ftx fs fs.length) = (List.range fs.length).map (wordK fs) := by
  have hj := cuts_join 59 (ftx fs fs.length)
  rw [ftx_data] at hj
  have e := join_inj (cuts_nodash 59 (ftx fs fs.length)) (wordsF_semi hf) (cuts_ne 59 _) (wordsF_ne hf) hj
  have e2 := congrArg (List.map fun l : List UInt8 => (⟨l.toArray⟩ : ByteArray)) e
  unfold lists wordsF at e2
  rw [List.map_map, List.map_map] at e2
  have hg : ((fun l : List UInt8 => (⟨l.toArray⟩ : ByteArray)) ∘ fun b : ByteArray => b.data.toList) = id := by
    funext b
    exact mk_data b
  rw [hg, List.map_id] at e2
  rw [e2]
  apply List.map_congr_left
  intro i _
  exact mk_data _
theorem cuts_word {fs : List Kn} (hf : famB fs = true) {k : Nat} (hk : k < fs.length) : cuts 46 (wordK fs k) = (partsL fs k).map fun l => (⟨l.toArray⟩ : ByteArray) := by
  have hj := cuts_join 46 (wordK fs k)
  rw [word_data hf hk] at hj
  have e := join_inj (cuts_nodash 46 (wordK fs k)) (parts_dot hf hk) (cuts_ne 46 _) (by unfold partsL; simp) hj
  have e2 := congrArg (List.map fun l : List UInt8 => (⟨l.toArray⟩ : ByteArray)) e
  unfold lists at e2
  rw [List.map_map] at e2
  have hg : ((fun l : List UInt8 => (⟨l.toArray⟩ : ByteArray)) ∘ fun b : ByteArray => b.data.toList) = id := by
    funext b
    exact mk_data b
  rw [hg, List.map_id] at e2
  exact e2
/-- What one piece reads as, and whether it does. -/
def pcN (q : ByteArray) (i : Nat) : Int := readB ((cuts 46 q).getD i ByteArray.empty)
def pcOk (q : ByteArray) : Bool := decide ((cuts 46 q).length ≤ 3) && (decide (¬ 1 < (cuts 46 q).length) || decide (0 ≤ pcN q 1)) && (decide (¬ 2 < (cuts 46 q).length) || decide (0 ≤ pcN q 2))
def pcK (q : ByteArray) : Kn := (pcN q 0, if 1 < (cuts 46 q).length then pcN q 1 else -1, if 2 < (cuts 46 q).length then pcN q 2 else -1)
theorem pcN_word {fs : List Kn} (hf : famB fs = true) {k : Nat} (hk : k < fs.length) (i : Nat) (n : Nat) (hn : n ≤ 3000) (h : (partsL fs k)[i]? = some (decDigits n)) : pcN (wordK fs k) i = n := by
  unfold pcN readB
  rw [cuts_word hf hk, List.getD_eq_getElem?_getD, List.getElem?_map, h]
  simp only [Option.map_some, Option.getD_some]
  exact read_dec hn
theorem piece_fam {fs : List Kn} (hf : famB fs = true) {k : Nat} (hk : k < fs.length) : pcOk (wordK fs k) = true ∧ pcK (wordK fs k) = at3 fs k := by
  have hb := fitB_born (famB_at hf k hk)
  have hl : (cuts 46 (wordK fs k)).length = 1 + (parI fs k).length := by rw [cuts_word hf hk]; simp [partsL]; omega
  have h0 := pcN_word hf hk 0 (at3 fs k).1.toNat (by omega) rfl
  have hpl := parI_len fs k
  unfold pcOk pcK
  rw [hl, h0]
  have e0 : (((at3 fs k).1.toNat : Nat) : Int) = (at3 fs k).1 := by omega
  rw [e0]
  rcases par_cases hf hk with ⟨h1, h2, h3⟩ | ⟨h1, h2, h3⟩ | ⟨h1, h2, h3⟩
  · rw [h1]
    exact ⟨by simp, by rw [triple_eta fs k, h2, h3]; rfl⟩
  · have q1 := pcN_word hf hk 1 (at3 fs k).2.1.toNat (by omega) (by unfold partsL; rw [h1]; rfl)
    rw [q1, h1]
    have e1 : (((at3 fs k).2.1.toNat : Nat) : Int) = (at3 fs k).2.1 := by omega
    rw [e1]
    exact ⟨by simp [h2.1], by rw [triple_eta fs k, h3]; rfl⟩
  · have q1 := pcN_word hf hk 1 (at3 fs k).2.1.toNat (by omega) (by unfold partsL; rw [h1]; rfl)
    have q2 := pcN_word hf hk 2 (at3 fs k).2.2.toNat (by omega) (by unfold partsL; rw [h1]; rfl)
    rw [q1, q2, h1]
    have e1 : (((at3 fs k).2.1.toNat : Nat) : Int) = (at3 fs k).2.1 := by omega
    have e2 : (((at3 fs k).2.2.toNat : Nat) : Int) = (at3 fs k).2.2 := by omega
    rw [e1, e2]
    exact ⟨by simp [h2.1, h3.1], rfl⟩
def fsOf (s : ByteArray) : List Kn := (cuts 59 s).map pcK
/-- What ParseFamily answers. -/
def parsedF (s : ByteArray) : Bool := decide (s.size ≤ 154) && ((cuts 59 s).all pcOk && (famB (fsOf s) && decide (ftx (fsOf s) (fsOf s).length = s)))
def parseF (s : ByteArray) : List Kn := if parsedF s = true then fsOf s else []
theorem fam_parsed {fs : List Kn} (hf : famB fs = true) : parsedF (ftx fs fs.length) = true ∧ fsOf (ftx fs fs.length) = fs := by
  have hn := famB_len hf
  have hc := cuts_fam hf
  have hd : fsOf (ftx fs fs.length) = fs := by
    unfold fsOf
    rw [hc, List.map_map]
    apply List.ext_getElem?
    intro i
    rw [List.getElem?_map]
    by_cases hi : i < fs.length
    · rw [List.getElem?_range hi]
      simp only [Option.map_some, Function.comp]
      rw [(piece_fam hf hi).2, List.getElem?_eq_getElem hi]
      simp [at3, List.getElem?_eq_getElem hi]
    · rw [List.getElem?_eq_none (by simp; omega), List.getElem?_eq_none (by omega)]
      rfl
  refine ⟨?_, hd⟩
  unfold parsedF
  have hs := ftx_le hf fs.length (Nat.le_refl _)
  rw [hd, hf, decide_eq_true (show (ftx fs fs.length).size ≤ 154 by omega), decide_eq_true rfl, hc, Bool.true_and, Bool.and_true, Bool.and_true, List.all_eq_true]
  · intro q hq
    obtain ⟨i, hi, rfl⟩ := List.mem_map.1 hq
    exact (piece_fam hf (List.mem_range.1 hi)).1
theorem parsedF_parts {s : ByteArray} (h : parsedF s = true) : s.size ≤ 154 ∧ (∀ q ∈ cuts 59 s, pcOk q = true) ∧ famB (fsOf s) = true ∧ ftx (fsOf s) (fsOf s).length = s := by
  unfold parsedF at h
  rw [Bool.and_eq_true, Bool.and_eq_true, Bool.and_eq_true, List.all_eq_true] at h
  exact ⟨of_decide_eq_true h.1, h.2.1, h.2.2.1, of_decide_eq_true h.2.2.2⟩
end Go.Proofs.YthmcimdnbapnhabDoor
