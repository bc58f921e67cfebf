/- Numbers gathered once each, and sorted by insertion. -/
import Derived.Test.YtmdhdbkeiennmabNo0
set_option linter.unusedVariables false
set_option linter.unusedSimpArgs false
namespace Go.Proofs.Ytmdhdbkeiennmab
open Go.RowKit

def ddTo (ps : List Int) : Nat → List Int
  | 0 => []
  | k + 1 => if (ddTo ps k).contains (ps.getD k 0) = true then ddTo ps k else ddTo ps k ++ [ps.getD k 0]
theorem ddTo_zero (ps : List Int) : ddTo ps 0 = [] := rfl
theorem ddTo_old {ps : List Int} {k : Nat} (h : (ddTo ps k).contains (ps.getD k 0) = true) : ddTo ps (k + 1) = ddTo ps k := if_pos h
theorem ddTo_new {ps : List Int} {k : Nat} (h : (ddTo ps k).contains (ps.getD k 0) = false) : ddTo ps (k + 1) = ddTo ps k ++ [ps.getD k 0] := if_neg (by rw [h]; simp)
theorem ddTo_len (ps : List Int) : ∀ k, (ddTo ps k).length ≤ k := by
  intro k
  induction k with
  | zero => simp [ddTo]
  | succ k ih =>
    cases h : (ddTo ps k).contains (ps.getD k 0) with
    | true => rw [ddTo_old h]; omega
    | false => rw [ddTo_new h, List.length_append]; simp; omega
theorem ddTo_mem (ps : List Int) : ∀ k, k ≤ ps.length → ∀ x, x ∈ ddTo ps k ↔ x ∈ ps.take k := by
  intro k
  induction k with
  | zero => intro _ x; simp [ddTo]
  | succ k ih =>
    intro hk x
    have e : ps.getD k 0 = ps[k] := by simp [List.getElem?_eq_getElem (show k < ps.length by omega)]
    rw [List.take_succ_eq_append_getElem (by omega), List.mem_append, ← e, List.mem_singleton]
    cases h : (ddTo ps k).contains (ps.getD k 0) with
    | true =>
      rw [ddTo_old h, ih (by omega)]
      rw [List.contains_iff_mem, ih (by omega)] at h
      exact ⟨.inl, fun h2 => h2.elim id (fun h3 => h3 ▸ h)⟩
    | false => rw [ddTo_new h, List.mem_append, ih (by omega), List.mem_singleton]
theorem ddTo_nodup (ps : List Int) : ∀ k, (ddTo ps k).Nodup := by
  intro k
  induction k with
  | zero => simp [ddTo]
  | succ k ih =>
    cases h : (ddTo ps k).contains (ps.getD k 0) with
    | true => rw [ddTo_old h]; exact ih
    | false =>
      rw [ddTo_new h, List.nodup_append]
      refine ⟨ih, by simp, fun a ha b hb => ?_⟩
      rw [List.mem_singleton] at hb
      rintro rfl
      rw [hb] at ha
      rw [← List.contains_iff_mem] at ha
      rw [ha] at h
      cases h
def swI (zs : List Int) (k : Nat) : List Int := (zs.set k (zs.getD (k - 1) 0)).set (k - 1) (zs.getD k 0)
theorem swI_length (zs : List Int) (k : Nat) : (swI zs k).length = zs.length := by simp [swI]
def sp (k j : Nat) : Nat := if j = k then k - 1 else if j = k - 1 then k else j
theorem swI_at (zs : List Int) (k j : Nat) (hk : 1 ≤ k) (hl : k < zs.length) : (swI zs k).getD j 0 = zs.getD (sp k j) 0 := by
  unfold swI sp
  simp only [List.getD_eq_getElem?_getD, List.getElem?_set, List.length_set]
  by_cases h1 : j = k
  · subst h1
    rw [if_neg (by omega), if_pos rfl, if_pos hl, if_pos rfl]; rfl
  · by_cases h2 : j = k - 1
    · subst h2
      rw [if_pos rfl, if_pos (by omega), if_neg h1, if_pos rfl]; rfl
    · rw [if_neg (by omega), if_neg (by omega), if_neg h1, if_neg h2]
theorem mem_getD (zs : List Int) (x : Int) : x ∈ zs ↔ ∃ j, j < zs.length ∧ zs.getD j 0 = x := by
  constructor
  · intro h
    obtain ⟨j, hj, e⟩ := List.getElem_of_mem h
    exact ⟨j, hj, by simp [List.getElem?_eq_getElem hj, e]⟩
  · rintro ⟨j, hj, rfl⟩
    simp [List.getElem?_eq_getElem hj]
theorem sp_lt {k j n : Nat} (hl : k < n) (hj : j < n) : sp k j < n := by unfold sp; split <;> (try split) <;> omega
theorem sp_sp {k j : Nat} (hk : 1 ≤ k) : sp k (sp k j) = j := by
  unfold sp
  by_cases h1 : j = k
  · rw [if_pos h1, if_neg (by omega), if_pos rfl, h1]
  · rw [if_neg h1]
    by_cases h2 : j = k - 1
    · rw [if_pos h2, if_pos rfl, h2]
    · rw [if_neg h2, if_neg h1, if_neg h2]
theorem swI_mem (zs : List Int) (k : Nat) (hk : 1 ≤ k) (hl : k < zs.length) (x : Int) : x ∈ swI zs k ↔ x ∈ zs := by
  rw [mem_getD, mem_getD, swI_length]
  constructor
  · rintro ⟨j, hj, e⟩
    exact ⟨sp k j, sp_lt hl hj, by rw [← swI_at zs k j hk hl]; exact e⟩
  · rintro ⟨j, hj, e⟩
    exact ⟨sp k j, sp_lt hl hj, by rw [swI_at zs k _ hk hl, sp_sp hk]; exact e⟩
/-- No number twice. -/
def Inj (zs : List Int) : Prop := ∀ a b, a < zs.length → b < zs.length → zs.getD a 0 = zs.getD b 0 → a = b
theorem inj_nodup {zs : List Int} (h : zs.Nodup) : Inj zs := by
  intro a b ha hb e
  rw [List.getD_eq_getElem?_getD, List.getD_eq_getElem?_getD, List.getElem?_eq_getElem ha, List.getElem?_eq_getElem hb] at e
  exact (List.getElem_inj (i := a) (j := b) (h₀ := ha) (h₁ := hb) h).1 e
theorem swI_inj {zs : List Int} {k : Nat} (hk : 1 ≤ k) (hl : k < zs.length) (h : Inj zs) : Inj (swI zs k) := by
  intro a b ha hb e
  rw [swI_length] at ha hb
  rw [swI_at zs k a hk hl, swI_at zs k b hk hl] at e
  have := h _ _ (sp_lt hl ha) (sp_lt hl hb) e
  rw [← sp_sp (j := a) hk, this, sp_sp hk]
def siftI : Nat → List Int → List Int
  | 0, zs => zs
  | k + 1, zs => if zs.getD (k + 1) 0 < zs.getD k 0 then siftI k (swI zs (k + 1)) else zs
theorem siftI_zero (zs : List Int) : siftI 0 zs = zs := rfl
theorem siftI_yes {k : Nat} {zs : List Int} (h : zs.getD (k + 1) 0 < zs.getD k 0) : siftI (k + 1) zs = siftI k (swI zs (k + 1)) := if_pos h
theorem siftI_no {k : Nat} {zs : List Int} (h : ¬ zs.getD (k + 1) 0 < zs.getD k 0) : siftI (k + 1) zs = zs := if_neg h
def isoI : Nat → List Int → List Int
  | 0, zs => zs
  | i + 1, zs => siftI i (isoI i zs)
theorem siftI_ok : ∀ (k : Nat) (zs : List Int) (i : Nat), k ≤ i → i < zs.length → Inj zs → (∀ a b, a < b → b ≤ i → b ≠ k → zs.getD a 0 < zs.getD b 0) →
    (siftI k zs).length = zs.length ∧ (∀ x, x ∈ siftI k zs ↔ x ∈ zs) ∧ Inj (siftI k zs) ∧ (∀ a b, a < b → b ≤ i → (siftI k zs).getD a 0 < (siftI k zs).getD b 0) := by
  intro k
  induction k with
  | zero =>
    intro zs i _ _ hj hs
    exact ⟨rfl, fun x => Iff.rfl, hj, fun a b h1 h2 => hs a b h1 h2 (by omega)⟩
  | succ k ih =>
    intro zs i hki hi hj hs
    by_cases hlt : zs.getD (k + 1) 0 < zs.getD k 0
    · rw [siftI_yes hlt]
      have hl : k + 1 < zs.length := by omega
      have e := fun j => swI_at zs (k + 1) j (by omega) hl
      obtain ⟨h1, h2, h3, h4⟩ := ih (swI zs (k + 1)) i (by omega) (by rw [swI_length]; exact hi) (swI_inj (by omega) hl hj) (fun a b hab hbi hbk => by
        rw [e, e]
        unfold sp
        simp only [Nat.add_sub_cancel]
        by_cases hb1 : b = k + 1
        · subst hb1
          rw [if_pos rfl, if_neg (by omega)]
          by_cases ha : a = k
          · rw [if_pos ha]; exact hlt
          · rw [if_neg ha]; exact hs a k (by omega) (by omega) (by omega)
        · rw [if_neg hb1, if_neg hbk]
          by_cases ha1 : a = k + 1
          · rw [if_pos ha1]; exact hs k b (by omega) hbi (by omega)
          · rw [if_neg ha1]
            by_cases ha2 : a = k
            · rw [if_pos ha2]; exact hs (k + 1) b (by omega) hbi (by omega)
            · rw [if_neg ha2]; exact hs a b hab hbi (by omega))
      exact ⟨by rw [h1, swI_length], fun x => by rw [h2, swI_mem zs (k + 1) (by omega) hl], h3, h4⟩
    · rw [siftI_no hlt]
      refine ⟨rfl, fun x => Iff.rfl, hj, fun a b hab hbi => ?_⟩
      by_cases hb : b = k + 1
      · subst hb
        have hlast : zs.getD k 0 < zs.getD (k + 1) 0 := by
          have : zs.getD k 0 ≠ zs.getD (k + 1) 0 := fun h => by
            have := hj k (k + 1) (by omega) (by omega) h
            omega
          omega
        by_cases ha : a = k
        · subst ha; exact hlast
        · have := hs a k (by omega) (by omega) (by omega)
          omega
      · exact hs a b hab hbi hb
theorem isoI_ok (zs : List Int) (hj : Inj zs) : ∀ i, i ≤ zs.length →
    (isoI i zs).length = zs.length ∧ (∀ x, x ∈ isoI i zs ↔ x ∈ zs) ∧ Inj (isoI i zs) ∧ (∀ a b, a < b → b < i → (isoI i zs).getD a 0 < (isoI i zs).getD b 0) := by
  intro i
  induction i with
  | zero => intro _; exact ⟨rfl, fun x => Iff.rfl, hj, fun a b _ h => by omega⟩
  | succ i ih =>
    intro hi
    obtain ⟨h1, h2, h3, h4⟩ := ih (by omega)
    obtain ⟨k1, k2, k3, k4⟩ := siftI_ok i (isoI i zs) i (Nat.le_refl _) (by omega) h3 (fun a b hab hbi hbk => h4 a b hab (by omega))
    exact ⟨k1.trans h1, fun x => (k2 x).trans (h2 x), k3, fun a b hab hb => k4 a b hab (by omega)⟩
theorem incr_getD : ∀ {zs : List Int}, (∀ a b, a < b → b < zs.length → zs.getD a 0 < zs.getD b 0) → zs.Pairwise (· < ·) := by
  intro zs h
  rw [List.pairwise_iff_getElem]
  intro i j hi hj hij
  have := h i j hij hj
  simpa [List.getElem?_eq_getElem hi, List.getElem?_eq_getElem hj] using this
theorem iso_cps (ps : List Int) : isoI (ddTo ps ps.length).length (ddTo ps ps.length) = cps ps := by
  obtain ⟨h1, h2, _, h4⟩ := isoI_ok (ddTo ps ps.length) (inj_nodup (ddTo_nodup ps _)) _ (Nat.le_refl _)
  refine incr_eq (incr_getD (fun a b hab hb => h4 a b hab (by omega))) (cps_sorted ps) (fun x => ?_)
  rw [h2, ddTo_mem ps _ (Nat.le_refl _), List.take_length, cps_mem]
theorem isoI_len (zs : List Int) (hj : Inj zs) (i : Nat) (hi : i ≤ zs.length) : (isoI i zs).length = zs.length := (isoI_ok zs hj i hi).1
end Go.Proofs.Ytmdhdbkeiennmab
