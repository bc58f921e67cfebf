/- Texts of births: plain lists of bytes, no program. -/
import Derived.Test.YtadfojjglceheaaDoorDText
set_option linter.unusedVariables false
set_option linter.unusedSimpArgs false
namespace Go.Proofs.YtadfojjglceheaaDoor
open Go Go.Lib

theorem nocomma_dec {n : Nat} (h : n ≤ 2900) : (44 : UInt8) ∉ decDigits n := (sign_dec (n := n) (by omega)).1
/-! ### The bx of ages -/
def decs (zs : List Int) : List (List UInt8) := zs.map fun z => decDigits z.toNat
def bxL (zs : List Int) : List UInt8 := Lib.join (decs zs) [44]
def bx (zs : List Int) : ByteArray := ⟨(bxL zs).toArray⟩
def dash : ByteArray := { data := #[44] }
def okBorn (zs : List Int) : Prop := 1 ≤ zs.length ∧ zs.length ≤ 10 ∧ ∀ z ∈ zs, 0 ≤ z ∧ z ≤ 2900
theorem bx_nil : bx [] = ByteArray.empty := rfl
theorem bx_one (z : Int) : bx [z] = decB z := by
  unfold bx bxL decs decB
  rw [List.map_cons, List.map_nil, join_one]
theorem bx_snoc {zs : List Int} (h : zs ≠ []) (z : Int) : bx (zs ++ [z]) = (bx zs ++ dash) ++ decB z := by
  have hd : dash = ⟨[44].toArray⟩ := rfl
  unfold bx bxL decB
  rw [hd, bytes_append, bytes_append]
  unfold decs
  rw [List.map_append, List.map_cons, List.map_nil, join_snoc (by simpa using h)]
  simp
theorem decs_nodash {zs : List Int} (h : okBorn zs) : ∀ x ∈ decs zs, (44 : UInt8) ∉ x := by
  intro x hx
  obtain ⟨z, hz, rfl⟩ := List.mem_map.1 hx
  have := h.2.2 z hz
  exact nocomma_dec (by omega)
theorem decs_ne {zs : List Int} (h : okBorn zs) : decs zs ≠ [] := by
  intro e
  have := congrArg List.length e
  simp [decs] at this
  have := h.1
  simp_all
theorem bx_len {zs : List Int} (h : okBorn zs) : zs.length ≤ (bxL zs).length ∧ (bxL zs).length ≤ 5 * zs.length := by
  unfold bxL
  have hall : ∀ (ys : List Int), (∀ z ∈ ys, 0 ≤ z ∧ z ≤ 2900) → ys.length ≤ lens (decs ys) ∧ lens (decs ys) ≤ 4 * ys.length := by
    intro ys hy
    induction ys with
    | nil => simp [lens, decs]
    | cons y r ih =>
      have h1 := ih (fun z hz => hy z (by simp [hz]))
      have h2 := hy y (by simp)
      have h3 := len_dec (n := y.toNat) (by omega)
      simp only [lens, decs, List.map_cons, List.sum_cons, List.length_cons] at h1 ⊢
      omega
  match zs, h with
  | [], h => simp [decs, Lib.join_nil]
  | z :: r, h =>
    have := hall (z :: r) h.2.2
    have hj : (Lib.join (decs (z :: r)) [44]).length = r.length + lens (decs (z :: r)) := by
      unfold decs
      rw [List.map_cons, join_length]
      simp
    rw [hj]
    simp only [List.length_cons] at this ⊢
    omega
theorem bx_le49 {zs : List Int} (h : okBorn zs) : (bx zs).size ≤ 49 := by
  unfold bx bxL
  have hall : ∀ (ys : List Int), (∀ z ∈ ys, 0 ≤ z ∧ z ≤ 2900) → lens (decs ys) ≤ 4 * ys.length := by
    intro ys hy
    induction ys with
    | nil => simp [lens, decs]
    | cons y r ih =>
      have h1 := ih (fun z hz => hy z (by simp [hz]))
      have h2 := hy y (by simp)
      have h3 := len_dec (n := y.toNat) (by omega)
      simp only [lens, decs, List.map_cons, List.sum_cons, List.length_cons] at h1 ⊢
      omega
  match zs, h with
  | [], h => exact absurd h.1 (by simp)
  | z :: r, h =>
    have h1 := hall (z :: r) h.2.2
    have h8 := h.2.1
    have hj : (Lib.join (decs (z :: r)) [44]).length = r.length + lens (decs (z :: r)) := by
      unfold decs
      rw [List.map_cons, join_length]
      simp
    show (Lib.join (decs (z :: r)) [44]).toArray.size ≤ 49
    rw [List.size_toArray, hj]
    simp only [List.length_cons] at h1 h8
    omega
theorem bx_inj {zs ys : List Int} (h : okBorn zs) (h' : okBorn ys) (e : bx zs = bx ys) : zs = ys := by
  have e1 : bxL zs = bxL ys := by
    have := congrArg (fun b : ByteArray => b.data.toList) e
    simpa [bx] using this
  have e2 := join_inj (decs_nodash h) (decs_nodash h') (decs_ne h) (decs_ne h') e1
  have e3 := congrArg (List.map readL) e2
  have hr : ∀ ws, okBorn ws → (decs ws).map readL = ws := by
    intro ws hw
    unfold decs
    rw [List.map_map]
    conv => rhs; rw [← List.map_id ws]
    apply List.map_congr_left
    intro z hz
    have := hw.2.2 z hz
    simp only [Function.comp, id]
    rw [read_dec (by omega)]
    omega
  rwa [hr _ h, hr _ h'] at e3
theorem decs_read {zs : List Int} (h : okBorn zs) : (decs zs).map readL = zs := by
  unfold decs
  rw [List.map_map]
  conv => rhs; rw [← List.map_id zs]
  apply List.map_congr_left
  intro z hz
  have := h.2.2 z hz
  simp only [Function.comp, id]
  rw [read_dec (by omega)]
  omega
/-- Pieces without the sign that read as ages are their digits. -/
theorem pieces_decs {L : List (List UInt8)} (h : okBorn (L.map readL)) : L = decs (L.map readL) := by
  unfold decs
  rw [List.map_map]
  conv => lhs; rw [← List.map_id L]
  apply List.map_congr_left
  intro l hl
  have := h.2.2 (readL l) (List.mem_map_of_mem hl)
  exact dec_of_read rfl this.1 (by omega)
/-- What the pieces of a text read as. -/
def bReads (s : ByteArray) : List Int := (cuts 44 s).map readB
theorem bReads_eq (s : ByteArray) : bReads s = (lists (cuts 44 s)).map readL := by
  unfold bReads lists readB
  rw [List.map_map]
  rfl
theorem bx_data (zs : List Int) : (bx zs).data.toList = bxL zs := by simp [bx]
/-- A bx of ages bReads as these. -/
theorem bReads_bx {zs : List Int} (h : okBorn zs) : bReads (bx zs) = zs := by
  have hj := cuts_join 44 (bx zs)
  rw [bx_data] at hj
  have := join_inj (cuts_nodash 44 (bx zs)) (decs_nodash h) (cuts_ne _ _) (decs_ne h) hj
  rw [bReads_eq, this, decs_read h]
/-- What bReads as ages is their text. -/
theorem bx_bReads {s : ByteArray} (h : okBorn (bReads s)) : s = bx (bReads s) := by
  have hj := cuts_join 44 s
  rw [bReads_eq] at h ⊢
  have hp := pieces_decs h
  unfold bx bxL
  rw [← hp, hj, mk_data]
end Go.Proofs.YtadfojjglceheaaDoor
