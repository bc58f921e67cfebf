/- Both texts tell the same parents, children, siblings and cousins. Plain lemmas. -/
import Derived.Test.YtmlcelleohhmcaaMo3
import Derived.Test.YtmlcelleohhmcaaTt0
set_option linter.unusedVariables false
set_option linter.unusedSimpArgs false
namespace Go.Proofs.Ytmlcelleohhmcaa
open Go.RowKit

def castN (ns : List Nat) : List Int := ns.map fun (n : Nat) => (n : Int)
theorem castN_len (ns : List Nat) : (castN ns).length = ns.length := by simp [castN]
theorem castN_filter (q : Int → Bool) (ns : List Nat) : (castN ns).filter q = castN (ns.filter fun n => q n) := by
  unfold castN; rw [List.filter_map]; rfl
theorem castN_any (q : Int → Bool) (ns : List Nat) : (castN ns).any q = ns.any fun n => q n := by
  unfold castN; rw [List.any_map]; rfl
theorem castN_incr {ns : List Nat} (h : ns.Pairwise (· < ·)) : (castN ns).Pairwise (· < ·) := by
  unfold castN
  rw [List.pairwise_map]
  exact h.imp fun h => by omega
theorem allN_incr (fs : List Kn) : (allN fs).Pairwise (· < ·) := List.pairwise_lt_range
theorem filter_incr {ns : List Nat} (h : ns.Pairwise (· < ·)) (q : Nat → Bool) : (ns.filter q).Pairwise (· < ·) := h.filter q
theorem isPar_iff {fs : List Kn} {a c : Nat} : isPar fs a c = true ↔ (at3 fs c).2.1 = a ∨ (at3 fs c).2.2 = a := by
  unfold isPar; rw [Bool.or_eq_true, beq_iff_eq, beq_iff_eq]
theorem isChiB_eq (fs : List Kn) (a c : Nat) : isChiB fs (a : Int) c = isPar fs a c := by
  rw [Bool.eq_iff_iff, isPar_iff]
  unfold isChiB parI
  rw [List.contains_iff_mem, List.mem_filter]
  simp only [List.mem_cons, List.not_mem_nil, or_false, decide_eq_true_eq]
  constructor
  · rintro ⟨h | h, _⟩
    · exact .inl h.symm
    · exact .inr h.symm
  · rintro (h | h)
    · exact ⟨.inl h.symm, by omega⟩
    · exact ⟨.inr h.symm, by omega⟩
theorem parI_incr {fs : List Kn} {i : Nat} (hf : famB fs = true) (hi : i < fs.length) : (parI fs i).Pairwise (· < ·) := by
  have h := fitB_par (famB_at hf i hi)
  unfold parI
  rcases h with ⟨h1, h2⟩ | ⟨h1, _, h2⟩
  · rw [h1, h2]; simp [List.filter]
  · rcases h2 with h2 | ⟨h2, _, _⟩
    · rw [h2, List.filter_cons, if_pos (by simpa using h1.1)]; simp [List.filter]
    · refine List.Pairwise.filter _ ?_
      simp only [List.pairwise_cons, List.mem_cons, List.not_mem_nil, or_false, List.Pairwise.nil, and_true, forall_eq]
      exact ⟨h2, fun _ h => by cases h⟩
theorem parI_eq {fs : List Kn} {i : Nat} (hf : famB fs = true) (hi : i < fs.length) : parI fs i = castN (parN fs i) := by
  refine incr_eq (parI_incr hf hi) (castN_incr (filter_incr (allN_incr fs) _)) fun x => ?_
  constructor
  · intro hx
    obtain ⟨n, rfl, hn⟩ := parI_mem hf hi hx
    unfold castN parN
    rw [List.mem_map]
    refine ⟨n, ?_, rfl⟩
    rw [List.mem_filter]
    refine ⟨by simp [allN]; omega, ?_⟩
    rw [← isChiB_eq]
    unfold isChiB
    rw [List.contains_iff_mem]
    exact hx
  · intro hx
    unfold castN parN at hx
    rw [List.mem_map] at hx
    obtain ⟨n, hn, rfl⟩ := hx
    rw [List.mem_filter] at hn
    have := hn.2
    rw [← isChiB_eq] at this
    unfold isChiB at this
    rwa [List.contains_iff_mem] at this
theorem chi_eq (fs : List Kn) (a : Nat) : pickI (isChiB fs (a : Int)) fs.length = castN (chiN fs a) := by
  unfold pickI castN chiN allN
  rw [show isChiB fs (a : Int) = (fun x => isPar fs a x) from funext fun c => isChiB_eq fs a c]
theorem shM_eq {fs : List Kn} {i : Nat} (hf : famB fs = true) (hi : i < fs.length) (j : Nat) : shM fs i j = (picN fs i j).length := by
  unfold shM shT
  rw [List.take_length, parI_eq hf hi, castN_filter, castN_len]
  unfold picN
  congr 1
  refine List.filter_congr fun n _ => ?_
  exact isChiB_eq fs n j
theorem sibM_eq {fs : List Kn} {i : Nat} (hf : famB fs = true) (hi : i < fs.length) (j : Nat) : sibM fs i j = sibB fs i j := by
  unfold sibM sibB; rw [shM_eq hf hi]
theorem halfM_eq {fs : List Kn} {i : Nat} (hf : famB fs = true) (hi : i < fs.length) (j : Nat) : halfM fs i j = halfB fs i j := by
  unfold halfM halfB; rw [shM_eq hf hi]
theorem any_cong {α : Type} {l : List α} {p q : α → Bool} (h : ∀ x ∈ l, p x = q x) : l.any p = l.any q := by
  induction l with
  | nil => rfl
  | cons a r ih => simp only [List.any_cons]; rw [h a (by simp), ih fun x hx => h x (by simp [hx])]
theorem parN_lt {fs : List Kn} {i n : Nat} (hn : n ∈ parN fs i) : n < fs.length := by
  unfold parN at hn
  simpa [allN] using (List.mem_filter.1 hn).1
theorem cousM_eq {fs : List Kn} {i j : Nat} (hf : famB fs = true) (hi : i < fs.length) (hj : j < fs.length) : cousM fs i j = cousB fs i j := by
  unfold cousM cousB
  rw [sibM_eq hf hi, parI_eq hf hi, parI_eq hf hj, castN_any]
  congr 1
  refine any_cong fun n hn => ?_
  rw [castN_any]
  unfold auntB
  refine any_cong fun m _ => ?_
  simp only [Int.toNat_natCast]
  exact sibM_eq hf (parN_lt hn) m
end Go.Proofs.Ytmlcelleohhmcaa
