/- The least ages of a chain: pure. -/
import Derived.Test.YtmidobhfahpkcaaCh
import Derived.Test.YtmidobhfahpkcaaCp
set_option linter.unusedVariables false
set_option linter.unusedSimpArgs false
namespace Go.Proofs.Ytmidobhfahpkcaa
open Go.RowKit

/-- A list of natural numbers as the program's. -/
def zc (l : List Nat) : List Int := l.map fun (x : Nat) => (x : Int)
theorem zc_length (l : List Nat) : (zc l).length = l.length := by simp [zc]
theorem zc_append (l m : List Nat) : zc (l ++ m) = zc l ++ zc m := by simp [zc]
theorem zc_getD (l : List Nat) (j : Nat) : (zc l).getD j 0 = ((l.getD j 0 : Nat) : Int) := by
  by_cases h : j < l.length
  · simp [zc, List.getElem?_eq_getElem h]
  · simp [zc, List.getElem?_eq_none (show l.length ≤ j by omega)]
def rp (p : Dt) : Nat × Nat := (p.1.toNat, p.2.toNat)
/-- The first i numbers multiplied. -/
def mulTo (l : List Nat) (a i : Nat) : List Nat := (l.take i).map (· * a) ++ l.drop i
theorem mulTo_zero (l : List Nat) (a : Nat) : mulTo l a 0 = l := by simp [mulTo]
theorem mulTo_all (l : List Nat) (a : Nat) : mulTo l a l.length = l.map (· * a) := by simp [mulTo]
theorem mulTo_length (l : List Nat) (a i : Nat) : (mulTo l a i).length = l.length := by simp [mulTo]; omega
theorem mulTo_at (l : List Nat) (a i : Nat) (h : i < l.length) : (mulTo l a i).getD i 0 = l.getD i 0 := by
  unfold mulTo
  have hl : ((l.take i).map (· * a)).length = i := by simp; omega
  rw [List.getD_eq_getElem?_getD, List.getElem?_append_right (by omega), hl, Nat.sub_self, List.getElem?_drop, List.getD_eq_getElem?_getD, Nat.add_zero]
theorem mulTo_step (l : List Nat) (a i : Nat) (h : i < l.length) : (mulTo l a i).set i (l.getD i 0 * a) = mulTo l a (i + 1) := by
  unfold mulTo
  have hl : ((l.take i).map (· * a)).length = i := by simp; omega
  rw [List.set_append, hl, if_neg (by omega), Nat.sub_self, show l.drop i = l[i] :: l.drop (i + 1) from List.drop_eq_getElem_cons h, List.set_cons_zero, List.take_succ_eq_append_getElem h, List.map_append, List.append_assoc]
  rw [List.getD_eq_getElem?_getD, List.getElem?_eq_getElem h]
  rfl
/-- The program's way to the ages of a chain. -/
def chI (ds : List Dt) : Nat → List Nat
  | 0 => [1]
  | k + 1 => (chI ds k).map (· * (at2 ds k).1.toNat) ++ [(chI ds k).getLastD 0 * (at2 ds k).2.toNat]
def bnN : Nat → Nat
  | 0 => 1
  | k + 1 => 100 * bnN k
theorem bnN_le {k : Nat} (h : k ≤ 6) : 1 ≤ bnN k ∧ bnN k ≤ 1000000000000 := by
  have : k = 0 ∨ k = 1 ∨ k = 2 ∨ k = 3 ∨ k = 4 ∨ k = 5 ∨ k = 6 := by omega
  rcases this with rfl | rfl | rfl | rfl | rfl | rfl | rfl <;> simp [bnN]
theorem chI_length (ds : List Dt) : ∀ k, (chI ds k).length = k + 1
  | 0 => rfl
  | k + 1 => by simp [chI, chI_length ds k]
theorem last_mem {l : List Nat} (h : l ≠ []) : l.getLastD 0 ∈ l := by
  cases l with
  | nil => exact absurd rfl h
  | cons x r => rw [List.getLastD_eq_getLast?, List.getLast?_eq_some_getLast (by simp)]; exact List.getLast_mem _
theorem last_at (l : List Nat) (k : Nat) (h : l.length = k + 1) : l.getD k 0 = l.getLastD 0 := by
  rw [List.getLastD_eq_getLast?, List.getLast?_eq_getElem?, h]; simp
theorem chI_bd {ds : List Dt} (h : chB ds = true) : ∀ k, k ≤ ds.length → ∀ x ∈ chI ds k, 1 ≤ x ∧ x ≤ bnN k := by
  intro k
  induction k with
  | zero => intro _ x hx; simp [chI] at hx; subst hx; simp [bnN]
  | succ k ih =>
    intro hk x hx
    obtain ⟨ha, hd⟩ := ratB_iff.1 (chB_at h k (by omega))
    have ih := ih (by omega)
    simp only [chI, List.mem_append, List.mem_map, List.mem_singleton] at hx
    have hb : bnN (k + 1) = bnN k * 100 := by simp [bnN, Nat.mul_comm]
    rw [hb]
    rcases hx with ⟨y, hy, rfl⟩ | rfl
    · obtain ⟨h1, h2⟩ := ih y hy
      exact ⟨Nat.mul_pos h1 (by omega), Nat.mul_le_mul h2 (by omega)⟩
    · obtain ⟨h1, h2⟩ := ih _ (last_mem (by intro e; have := chI_length ds k; rw [e] at this; simp at this))
      exact ⟨Nat.mul_pos h1 (by omega), Nat.mul_le_mul h2 (by omega)⟩
theorem chI_chn {ds : List Dt} (h : chB ds = true) : ∀ k, k ≤ ds.length → Chn ((ds.take k).map rp) (chI ds k) := by
  intro k
  induction k with
  | zero => intro _; simp [chI, Chn]
  | succ k ih =>
    intro hk
    obtain ⟨ha, hd⟩ := ratB_iff.1 (chB_at h k (by omega))
    have e : (ds.take (k + 1)).map rp = (ds.take k).map rp ++ [((at2 ds k).1.toNat, (at2 ds k).2.toNat)] := by
      rw [List.take_succ_eq_append_getElem (by omega), List.map_append]
      simp [rp, at2, List.getElem?_eq_getElem (show k < ds.length by omega)]
    rw [e]
    exact chn_snoc _ _ (by omega) (by omega) _ _ (ih (by omega))
/-- The least ages. -/
def lcL (ds : List Dt) : List Nat := lowL (chI ds ds.length)
theorem lcL_length (ds : List Dt) : (lcL ds).length = ds.length + 1 := by unfold lcL; rw [lowL_length, chI_length]
theorem gcT_gcdL (l : List Nat) (n : Nat) (h : l.length = n) (h1 : 1 ≤ n) : gcT (zc l) n = gcdL l := by
  have key : ∀ (m : List Nat) (g : Nat), (zc m).foldl (fun g z => Nat.gcd g z.natAbs) g = Nat.gcd g (gcdL m) := by
    intro m
    induction m with
    | nil => intro g; simp [zc, gcdL]
    | cons x r ih =>
      intro g
      have : zc (x :: r) = (x : Int) :: zc r := rfl
      rw [this, List.foldl_cons, ih, gcdL, Nat.gcd_assoc, Int.natAbs_natCast]
  unfold gcT
  rw [show (zc l).take n = zc l by rw [List.take_of_length_le (by rw [zc_length]; omega)], key]
  cases l with
  | nil => simp at h; omega
  | cons x r =>
    rw [zc_getD]
    simp only [List.getD_cons_zero, Int.natAbs_natCast, gcdL]
    rw [← Nat.gcd_assoc, Nat.gcd_self]
/-- The first i numbers divided. -/
def divTo (l : List Nat) (g i : Nat) : List Nat := (l.take i).map (· / g) ++ l.drop i
theorem divTo_zero (l : List Nat) (g : Nat) : divTo l g 0 = l := by simp [divTo]
theorem divTo_all (l : List Nat) (g : Nat) : divTo l g l.length = l.map (· / g) := by simp [divTo]
theorem divTo_length (l : List Nat) (g i : Nat) : (divTo l g i).length = l.length := by simp [divTo]; omega
theorem divTo_at (l : List Nat) (g i : Nat) (h : i < l.length) : (divTo l g i).getD i 0 = l.getD i 0 := by
  unfold divTo
  have hl : ((l.take i).map (· / g)).length = i := by simp; omega
  rw [List.getD_eq_getElem?_getD, List.getElem?_append_right (by omega), hl, Nat.sub_self, List.getElem?_drop, List.getD_eq_getElem?_getD, Nat.add_zero]
theorem divTo_step (l : List Nat) (g i : Nat) (h : i < l.length) : (divTo l g i).set i (l.getD i 0 / g) = divTo l g (i + 1) := by
  unfold divTo
  have hl : ((l.take i).map (· / g)).length = i := by simp; omega
  rw [List.set_append, hl, if_neg (by omega), Nat.sub_self, show l.drop i = l[i] :: l.drop (i + 1) from List.drop_eq_getElem_cons h, List.set_cons_zero, List.take_succ_eq_append_getElem h, List.map_append, List.append_assoc]
  rw [List.getD_eq_getElem?_getD, List.getElem?_eq_getElem h]
  rfl
/-- An owned list one number of which is written. -/
theorem own_set {B g c : Nat} {w : World} {zs : List Int} (h : Own B w (.slice (some ⟨g, 0, none⟩) zs.length c) zs) (i : Nat) (x : Int) : Own B (w.setCell ⟨g, i, none⟩ (.int .i64 x)) (.slice (some ⟨g, 0, none⟩) zs.length c) (zs.set i x) := by
  have := (World.ownsRow.stored h i (.int .i64 x)).1
  unfold Own
  rw [List.length_set, List.map_set]
  exact this
theorem zc_set (l : List Nat) (i x : Nat) : zc (l.set i x) = (zc l).set i (x : Int) := by simp [zc, List.map_set]
end Go.Proofs.Ytmidobhfahpkcaa
