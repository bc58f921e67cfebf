/- Years that fit, in order; a map's keys: pure. -/
import Derived.Test.YtmidobhfahpkcabRg
import Derived.Maps.RangeWalk
set_option linter.unusedVariables false
set_option linter.unusedSimpArgs false
namespace Go.Proofs.Ytmidobhfahpkcab
open Go.RowKit Go.Maps

/-- The years a, a + 1, .. that fit, of the first n. -/
def yF (p : Int → Bool) (a : Int) (n : Nat) : List Int := ((List.range n).map fun (j : Nat) => a + (j : Int)).filter p
theorem yF_zero (p : Int → Bool) (a : Int) : yF p a 0 = [] := rfl
theorem yF_succ (p : Int → Bool) (a : Int) (n : Nat) : yF p a (n + 1) = yF p a n ++ (if p (a + n) = true then [a + (n : Int)] else []) := by
  unfold yF
  rw [List.range_succ, List.map_append, List.filter_append]
  congr 1
  by_cases h : p (a + n) = true <;> simp [h]
theorem yF_yes {p : Int → Bool} {a : Int} {n : Nat} (h : p (a + n) = true) : yF p a (n + 1) = yF p a n ++ [a + (n : Int)] := by rw [yF_succ, if_pos h]
theorem yF_no {p : Int → Bool} {a : Int} {n : Nat} (h : p (a + n) = false) : yF p a (n + 1) = yF p a n := by rw [yF_succ, if_neg (by rw [h]; simp), List.append_nil]
theorem yF_skip {p : Int → Bool} {a : Int} {k : Nat} : ∀ n, k ≤ n → (∀ j : Nat, k ≤ j → j < n → p (a + j) = false) → yF p a n = yF p a k := by
  intro n
  induction n with
  | zero => intro h _; rw [show k = 0 by omega]
  | succ n ih =>
    intro h hp
    rcases Nat.eq_or_lt_of_le h with rfl | h'
    · rfl
    · rw [yF_no (hp n (by omega) (by omega))]
      exact ih (by omega) fun j h1 h2 => hp j h1 (by omega)
theorem yF_take {p : Int → Bool} {a : Int} {k l : Nat} (hk : k ≤ l) (h : ∀ j : Nat, k ≤ j → j < l → p (a + j) = false) (hl : p (a + l) = true) : yF p a (l + 1) = yF p a k ++ [a + (l : Int)] := by
  rw [yF_yes hl, yF_skip l hk h]
theorem yF_length (p : Int → Bool) (a : Int) (n : Nat) : (yF p a n).length ≤ n := by
  unfold yF
  have := List.length_filter_le p ((List.range n).map fun (j : Nat) => a + (j : Int))
  simpa using this
theorem yF_congr {p q : Int → Bool} {a : Int} {n : Nat} (h : ∀ j : Nat, j < n → p (a + j) = q (a + j)) : yF p a n = yF q a n := by
  induction n with
  | zero => rfl
  | succ n ih => rw [yF_succ, yF_succ, ih fun j hj => h j (by omega), h n (by omega)]

/-- The keys of a map are the numbers of which S tells. -/
def KeyIs {H : Type} (D : DataW H) (S : Int → Prop) : Prop := ∀ kl, Maps.has D kl = true ↔ ∃ y : Int, kl = .int .i64 y ∧ S y
theorem keyIs_empty {H : Type} : KeyIs (.map [] : DataW H) (fun _ => False) := by
  intro kl; simp [Maps.has]
theorem KeyIs.congr {H : Type} {D : DataW H} {S S' : Int → Prop} (h : KeyIs D S) (hs : ∀ y, S y ↔ S' y) : KeyIs D S' := by
  intro kl; rw [h kl]; simp only [hs]
theorem KeyIs.put {H : Type} {D : DataW H} {S : Int → Prop} (h : KeyIs D S) (hD : Maps.IsMap D) (x : Int) (d : DataW H) : KeyIs (D.put (.int .i64 x) d) (fun y => S y ∨ y = x) := by
  intro kl
  by_cases e : kl = .int .i64 x
  · subst e
    rw [Maps.has_put_same hD (by trivial)]
    exact ⟨fun _ => ⟨x, rfl, .inr rfl⟩, fun _ => rfl⟩
  · rw [Maps.has_put_other e, h kl]
    constructor
    · rintro ⟨y, rfl, hy⟩; exact ⟨y, rfl, .inl hy⟩
    · rintro ⟨y, rfl, hy | rfl⟩
      · exact ⟨y, rfl, hy⟩
      · exact absurd rfl e
theorem KeyIs.del {H : Type} {D : DataW H} {S : Int → Prop} (h : KeyIs D S) (x : Int) : KeyIs (D.del (.int .i64 x)) (fun y => S y ∧ y ≠ x) := by
  intro kl
  by_cases e : kl = .int .i64 x
  · subst e
    rw [Maps.has_del_same]
    constructor
    · intro h; cases h
    · rintro ⟨y, hy, _, hne⟩
      cases hy
      exact absurd rfl hne
  · rw [Maps.has_del_other e, h kl]
    constructor
    · rintro ⟨y, rfl, hy⟩; exact ⟨y, rfl, hy, fun e' => e (by rw [e'])⟩
    · rintro ⟨y, rfl, hy, _⟩; exact ⟨y, rfl, hy⟩
theorem sameKey_int (x y : Int) : (Lit.int .i64 x).sameKey (.int .i64 y) = decide (x = y) := by
  by_cases h : x = y
  · subst h; simp [Lit.sameKey]
  · rw [Maps.sameKey_ne (by intro e; cases e; exact h rfl)]; simp [h]
theorem KeyIs.none {H : Type} {D : DataW H} {S : Int → Prop} (h : KeyIs D S) (hD : Maps.Tidy D) (h0 : Maps.size D = 0) : ∀ y, ¬ S y := by
  obtain ⟨es, rfl, _⟩ := hD
  rw [Maps.size_eq] at h0
  have : es = [] := List.eq_nil_of_length_eq_zero h0
  subst this
  intro y hy
  have := (h (.int .i64 y)).2 ⟨y, rfl, hy⟩
  simp [Maps.has] at this
theorem KeyIs.some {H : Type} {D : DataW H} {S : Int → Prop} (h : KeyIs D S) (hD : Maps.Tidy D) (hk : ∀ es, D = .map es → ∀ p ∈ es, WideAt.IsKeyLit p.1) (h0 : Maps.size D ≠ 0) : ∃ y, S y := by
  obtain ⟨es, rfl, _⟩ := hD
  rw [Maps.size_eq] at h0
  cases es with
  | nil => simp at h0
  | cons p r =>
    have hp : p.1.sameKey p.1 = true := by
      have := hk _ rfl p (by simp)
      cases e : p.1 <;> rw [e] at this <;> simp_all [WideAt.IsKeyLit, Lit.sameKey]
    have : Maps.has (.map (p :: r) : DataW H) p.1 = true := by rw [Maps.has_eq]; simp [hp]
    obtain ⟨y, _, hy⟩ := (h p.1).1 this
    exact ⟨y, hy⟩
theorem plainElem_bool_inv {H : Type} {P : Program} {e : TypeId} (he : P.underlying e = some .bool) {v : Value} {z : DataW H × List MemPlace} (h : plainElem P e v = Option.some z) : ∃ c, v = .bool c := by
  cases v <;> simp [plainElem, he] at h
  exact ⟨_, rfl⟩
end Go.Proofs.Ytmidobhfahpkcab
