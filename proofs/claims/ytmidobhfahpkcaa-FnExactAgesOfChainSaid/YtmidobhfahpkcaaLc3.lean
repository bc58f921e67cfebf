/- LeastChain: the model's text. -/
import Derived.Test.YtmidobhfahpkcaaLc2
import Derived.Deep.RegionHeld3
set_option linter.unusedVariables false
set_option linter.unusedSimpArgs false
namespace Go.Proofs.Ytmidobhfahpkcaa
open Go.RowKit

/-- The model's way to the ages of a chain: from the last ratio on. -/
def chS (ds : List Dt) : Nat → List Nat
  | 0 => [1]
  | j + 1 =>
    (at2 ds (ds.length - 1 - j)).1.toNat * (chS ds j).headD 0 / Nat.gcd ((at2 ds (ds.length - 1 - j)).1.toNat * (chS ds j).headD 0) (at2 ds (ds.length - 1 - j)).2.toNat
      :: (chS ds j).map (· * ((at2 ds (ds.length - 1 - j)).2.toNat / Nat.gcd ((at2 ds (ds.length - 1 - j)).1.toNat * (chS ds j).headD 0) (at2 ds (ds.length - 1 - j)).2.toNat))
theorem chS_length (ds : List Dt) : ∀ j, (chS ds j).length = j + 1
  | 0 => rfl
  | j + 1 => by simp [chS, chS_length ds j]
theorem head_mem {l : List Nat} {k : Nat} (h : l.length = k + 1) : l.headD 0 ∈ l := by
  cases l with
  | nil => simp at h
  | cons x r => simp
theorem head_at {l : List Nat} : l.getD 0 0 = l.headD 0 := by cases l <;> rfl
theorem chS_bd {ds : List Dt} (h : chB ds = true) : ∀ j, j ≤ ds.length → ∀ x ∈ chS ds j, 1 ≤ x ∧ x ≤ bnN j := by
  intro j
  induction j with
  | zero => intro _ x hx; simp [chS] at hx; subst hx; simp [bnN]
  | succ j ih =>
    intro hk x hx
    obtain ⟨ha, hd⟩ := ratB_iff.1 (chB_at h (ds.length - 1 - j) (by omega))
    have ih := ih (by omega)
    have hy := ih _ (head_mem (chS_length ds j))
    have hb : bnN (j + 1) = 100 * bnN j := rfl
    rw [hb]
    have hA : 1 ≤ (at2 ds (ds.length - 1 - j)).1.toNat ∧ (at2 ds (ds.length - 1 - j)).1.toNat ≤ 100 := by omega
    have hD : 1 ≤ (at2 ds (ds.length - 1 - j)).2.toNat ∧ (at2 ds (ds.length - 1 - j)).2.toNat ≤ 100 := by omega
    simp only [chS, List.mem_cons, List.mem_map] at hx
    generalize (at2 ds (ds.length - 1 - j)).1.toNat = a at *
    generalize (at2 ds (ds.length - 1 - j)).2.toNat = d at *
    generalize (chS ds j).headD 0 = y at *
    have hay : 1 ≤ a * y := Nat.mul_pos hA.1 hy.1
    have hg : 0 < Nat.gcd (a * y) d := Nat.gcd_pos_of_pos_left _ hay
    have hm : a * y ≤ 100 * bnN j := Nat.mul_le_mul hA.2 hy.2
    have q1 : 1 ≤ a * y / Nat.gcd (a * y) d := Nat.div_pos (Nat.gcd_le_left _ hay) hg
    have q2 := Nat.div_le_self (a * y) (Nat.gcd (a * y) d)
    have q3 : 1 ≤ d / Nat.gcd (a * y) d := Nat.div_pos (Nat.gcd_le_right _ hD.1) hg
    have q4 := Nat.div_le_self d (Nat.gcd (a * y) d)
    rcases hx with rfl | ⟨z, hz, rfl⟩
    · omega
    · obtain ⟨h1, h2⟩ := ih z hz
      refine ⟨Nat.mul_pos h1 q3, ?_⟩
      rw [Nat.mul_comm 100]
      exact Nat.mul_le_mul h2 (by omega)
theorem chS_chn {ds : List Dt} (h : chB ds = true) : ∀ j, j ≤ ds.length → Chn ((ds.drop (ds.length - j)).map rp) (chS ds j) := by
  intro j
  induction j with
  | zero => intro _; simp [chS, Chn]
  | succ j ih =>
    intro hk
    obtain ⟨ha, hd⟩ := ratB_iff.1 (chB_at h (ds.length - 1 - j) (by omega))
    have hy := chS_bd h j (by omega) _ (head_mem (chS_length ds j))
    have ih := ih (by omega)
    have e : (ds.drop (ds.length - (j + 1))).map rp = ((at2 ds (ds.length - 1 - j)).1.toNat, (at2 ds (ds.length - 1 - j)).2.toNat) :: (ds.drop (ds.length - j)).map rp := by
      rw [show ds.length - (j + 1) = ds.length - 1 - j by omega, List.drop_eq_getElem_cons (show ds.length - 1 - j < ds.length by omega), List.map_cons, show ds.length - 1 - j + 1 = ds.length - j by omega]
      simp [rp, at2, List.getElem?_eq_getElem (show ds.length - 1 - j < ds.length by omega)]
    rw [e]
    have hl := chS_length ds j
    show Chn _ (_ :: _)
    cases hc : chS ds j with
    | nil => rw [hc] at hl; simp at hl
    | cons y r =>
      rw [hc] at ih hy
      exact chn_cons _ _ y r _ (by omega) (by omega) hy.1 ih
theorem lcS {ds : List Dt} (h : chB ds = true) : lowL (chS ds ds.length) = lcL ds := by
  unfold lcL
  have h1 := chI_chn h ds.length (Nat.le_refl _)
  have h2 := chS_chn h ds.length (Nat.le_refl _)
  rw [List.take_length] at h1
  rw [Nat.sub_self, List.drop_zero] at h2
  refine chn_low _ _ _ ?_ h2 h1
  intro p hp
  obtain ⟨q, hq, rfl⟩ := List.mem_map.1 hp
  unfold chB at h
  rw [Bool.and_eq_true, List.all_eq_true] at h
  have := ratB_iff.1 (h.2 q hq)
  show 0 < q.2.toNat
  omega
end Go.Proofs.Ytmidobhfahpkcaa
