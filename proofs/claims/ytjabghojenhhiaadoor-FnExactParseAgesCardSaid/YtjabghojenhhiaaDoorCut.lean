/- How a text is cut at each sign, byte by byte: plain lists of bytes, no program. -/
import Derived.Test.YtjabghojenhhiaaDoorText
set_option linter.unusedVariables false
set_option linter.unusedSimpArgs false
namespace Go.Proofs.YtjabghojenhhiaaDoor
open Go Go.Lib

/-- The byte at place i. -/
def byAt (s : ByteArray) (i : Nat) : UInt8 := s.data.toList.getD i 0
/-- Where the piece begins that is being read, and the pieces before it. -/
def cutF (s : ByteArray) : Nat → Nat
  | 0 => 0
  | i + 1 => if byAt s i = 45 then i + 1 else cutF s i
def cutO (s : ByteArray) : Nat → List ByteArray
  | 0 => []
  | i + 1 => if byAt s i = 45 then cutO s i ++ [s.extract (cutF s i) i] else cutO s i
def cuts (s : ByteArray) : List ByteArray := cutO s s.size ++ [s.extract (cutF s s.size) s.size]
theorem cutF_le (s : ByteArray) : ∀ i, cutF s i ≤ i
  | 0 => Nat.le_refl _
  | i + 1 => by
    have := cutF_le s i
    unfold cutF
    split <;> omega
theorem cutO_len (s : ByteArray) : ∀ i, (cutO s i).length ≤ i
  | 0 => Nat.le_refl _
  | i + 1 => by
    have := cutO_len s i
    unfold cutO
    split
    · rw [List.length_append]; simp; omega
    · omega
theorem cut_yes {s : ByteArray} {i : Nat} (h : byAt s i = 45) : cutF s (i + 1) = i + 1 ∧ cutO s (i + 1) = cutO s i ++ [s.extract (cutF s i) i] := by
  constructor
  · rw [cutF, if_pos h]
  · rw [cutO, if_pos h]
theorem cut_no {s : ByteArray} {i : Nat} (h : byAt s i ≠ 45) : cutF s (i + 1) = cutF s i ∧ cutO s (i + 1) = cutO s i := by
  constructor
  · rw [cutF, if_neg h]
  · rw [cutO, if_neg h]
def lists (l : List ByteArray) : List (List UInt8) := l.map (·.data.toList)
theorem take_more {l : List UInt8} {i : Nat} (h : i < l.length) : l.take (i + 1) = l.take i ++ [l.getD i 0] := by
  rw [List.take_succ_eq_append_getElem h]
  simp [List.getElem?_eq_getElem h]
theorem extract_self (s : ByteArray) (i : Nat) : (s.extract i i).data.toList = [] := by rw [extract_data]; simp
theorem extract_more {s : ByteArray} {f i : Nat} (h : i < s.size) (hf : f ≤ i) : (s.extract f (i + 1)).data.toList = (s.extract f i).data.toList ++ [byAt s i] := by
  rw [extract_data, extract_data, show i + 1 - f = i - f + 1 by omega, take_more (by rw [List.length_drop, ← size_eq]; omega)]
  unfold byAt
  congr 2
  simp only [List.getD_eq_getElem?_getD, List.getElem?_drop]
  rw [show f + (i - f) = i by omega]
theorem cut_inv (s : ByteArray) : ∀ i, i ≤ s.size → Lib.join (lists (cutO s i ++ [s.extract (cutF s i) i])) [45] = s.data.toList.take i ∧ ∀ x ∈ lists (cutO s i ++ [s.extract (cutF s i) i]), (45 : UInt8) ∉ x
  | 0, _ => by
    have h0 : lists (cutO s 0 ++ [s.extract (cutF s 0) 0]) = [[]] := by
      show [(s.extract 0 0).data.toList] = [[]]
      rw [extract_self]
    rw [h0]
    exact ⟨by simp [join_one], by simp⟩
  | i + 1, hi => by
    obtain ⟨h1, h2⟩ := cut_inv s i (by omega)
    have ht : s.data.toList.take (i + 1) = s.data.toList.take i ++ [byAt s i] := take_more (by rw [← size_eq]; omega)
    by_cases hb : byAt s i = 45
    · obtain ⟨e1, e2⟩ := cut_yes hb
      have e : lists (cutO s (i + 1) ++ [s.extract (cutF s (i + 1)) (i + 1)]) = lists (cutO s i ++ [s.extract (cutF s i) i]) ++ [[]] := by
        rw [e1, e2]
        unfold lists
        rw [List.map_append, List.map_cons, List.map_nil, extract_self]
      rw [e, ht, hb]
      refine ⟨?_, ?_⟩
      · rw [join_snoc (by simp [lists]), h1]
      · intro x hx
        rcases List.mem_append.1 hx with hx | hx
        · exact h2 x hx
        · simp at hx; simp [hx]
    · obtain ⟨e1, e2⟩ := cut_no hb
      have e : lists (cutO s (i + 1) ++ [s.extract (cutF s (i + 1)) (i + 1)]) = lists (cutO s i) ++ [(s.extract (cutF s i) i).data.toList ++ [byAt s i]] := by
        rw [e1, e2]
        unfold lists
        rw [List.map_append, List.map_cons, List.map_nil, extract_more (by omega) (cutF_le s i)]
      have e0 : lists (cutO s i ++ [s.extract (cutF s i) i]) = lists (cutO s i) ++ [(s.extract (cutF s i) i).data.toList] := by
        unfold lists
        rw [List.map_append, List.map_cons, List.map_nil]
      rw [e0] at h1 h2
      rw [e, ht]
      refine ⟨?_, ?_⟩
      · rw [join_last, h1]
      · intro x hx
        rcases List.mem_append.1 hx with hx | hx
        · exact h2 x (by simp [hx])
        · simp only [List.mem_singleton] at hx
          rw [hx]
          intro hm
          rcases List.mem_append.1 hm with hm | hm
          · exact h2 _ (by simp) hm
          · simp only [List.mem_singleton] at hm
            exact hb hm.symm
theorem cuts_join (s : ByteArray) : Lib.join (lists (cuts s)) [45] = s.data.toList := by
  have := (cut_inv s s.size (Nat.le_refl _)).1
  rwa [List.take_of_length_le (by rw [← size_eq]; omega)] at this
theorem cuts_nodash (s : ByteArray) : ∀ x ∈ lists (cuts s), (45 : UInt8) ∉ x := (cut_inv s s.size (Nat.le_refl _)).2
theorem cuts_ne (s : ByteArray) : lists (cuts s) ≠ [] := by simp [lists, cuts]

/-- What the pieces of a text read as. -/
def readB (b : ByteArray) : Int := readL b.data.toList
def reads (s : ByteArray) : List Int := (cuts s).map readB
theorem reads_eq (s : ByteArray) : reads s = (lists (cuts s)).map readL := by
  unfold reads lists readB
  rw [List.map_map]
  rfl
theorem text_data (zs : List Int) : (text zs).data.toList = textL zs := by simp [text]
/-- A text of ages reads as these. -/
theorem reads_text {zs : List Int} (h : okAges zs) : reads (text zs) = zs := by
  have hj := cuts_join (text zs)
  rw [text_data] at hj
  have := join_inj (cuts_nodash (text zs)) (decs_nodash h) (cuts_ne _) (decs_ne h) hj
  rw [reads_eq, this, decs_read h]
/-- What reads as ages is their text. -/
theorem text_reads {s : ByteArray} (h : okAges (reads s)) : s = text (reads s) := by
  have hj := cuts_join s
  rw [reads_eq] at h ⊢
  have hp := pieces_decs h
  unfold text textL
  rw [← hp, hj, mk_data]
/-- The pieces that the library cuts a text of ages into. -/
theorem splitN_text {zs : List Int} (h : okAges zs) : Lib.splitB dash 0 (min 9 ((text zs).size + 1) - 1) (text zs) = zs.map decB := by
  have hs : (text zs).size = (textL zs).length := by rw [size_eq, text_data]
  have hl := (text_len h).1
  have h8 := h.2.1
  have hd : Lib.splitK [45] 0 (min 9 ((text zs).size + 1) - 1) (textL zs) = decs zs := by
    unfold textL
    refine splitK_join _ _ (decs_nodash h) (decs_ne h) ?_
    have : (decs zs).length = zs.length := by simp [decs]
    rw [this, hs]
    omega
  have hm := Lib.splitB_data dash 0 (min 9 ((text zs).size + 1) - 1) (text zs)
  rw [text_data, show dash.data.toList = [45] from rfl, hd] at hm
  have hi := congrArg (List.map fun l : List UInt8 => (⟨l.toArray⟩ : ByteArray)) hm
  rw [List.map_map] at hi
  have hf : ((fun l : List UInt8 => (⟨l.toArray⟩ : ByteArray)) ∘ fun b : ByteArray => b.data.toList) = id := by
    funext b
    exact mk_data b
  rw [hf, List.map_id] at hi
  rw [hi]
  unfold decs decB
  rw [List.map_map]
  rfl
end Go.Proofs.YtjabghojenhhiaaDoor
