/- Next and last birthdays, day by day and by ages: the same (pure). -/
import Derived.Test.YtbhceokapbnhhaaBi13
import Derived.Test.YtbhceokapbnhhaaImN
set_option linter.unusedVariables false
set_option linter.unusedSimpArgs false
namespace Go.Proofs.Ytbhceokapbnhhaa
open Go.RowKit

theorem back_dys {p : Dt} (h : dateB p = true) : backOk (dys p) = true ∧ backD (dys p) = p := by
  have hd := dateB_iff.1 h
  have hb := dys_bounds h
  have h1 : backOk (dys p) = true := by unfold backOk; exact inB_true (by omega) (by omega)
  refine ⟨h1, ?_⟩
  unfold backD
  rw [if_pos h1]
  unfold dys
  obtain ⟨y, d⟩ := p
  simp only at hd ⊢
  congr 1 <;> omega
theorem back_date {x : Int} (h : backOk x = true) : dateB (backD x) = true ∧ dys (backD x) = x := by
  have hb : 0 ≤ x ∧ x ≤ 1095364 := by unfold backOk at h; exact inB_iff.1 h
  unfold backD
  rw [if_pos h]
  refine ⟨dateB_iff.2 ⟨⟨?_, ?_⟩, ?_, ?_⟩, ?_⟩ <;> (try unfold dys) <;> simp only <;> omega
def nxtB (o b : Dt) : Dt := (b.1 + (ageD b o + 1), b.2)
def lstB (o b : Dt) : Dt := if 0 < ageD b o then (b.1 + ageD b o, b.2) else (0, 0)
/-- The pick among the first k + 1 dates: the first stands till a better one comes. -/
def pickTo (t : Dt → Dt → Bool) (ds : List Dt) : Nat → Dt
  | 0 => at2 ds 0
  | k + 1 => if t (at2 ds (k + 1)) (pickTo t ds k) = true then at2 ds (k + 1) else pickTo t ds k
def lessT (a b : Dt) : Bool := decide (dys a - dys b < 0)
def moreT (a b : Dt) : Bool := decide (0 < dys a - dys b)
theorem pick_yes {t : Dt → Dt → Bool} {ds : List Dt} {k : Nat} (h : t (at2 ds (k + 1)) (pickTo t ds k) = true) : pickTo t ds (k + 1) = at2 ds (k + 1) := by rw [pickTo, if_pos h]
theorem pick_no {t : Dt → Dt → Bool} {ds : List Dt} {k : Nat} (h : t (at2 ds (k + 1)) (pickTo t ds k) = false) : pickTo t ds (k + 1) = pickTo t ds k := by rw [pickTo, if_neg (by rw [h]; decide)]
theorem pick_is (t : Dt → Dt → Bool) (ds : List Dt) : ∀ k, ∃ j, j ≤ k ∧ pickTo t ds k = at2 ds j
  | 0 => ⟨0, Nat.le_refl _, rfl⟩
  | k + 1 => by
    obtain ⟨j, hj, he⟩ := pick_is t ds k
    cases h : t (at2 ds (k + 1)) (pickTo t ds k) with
    | true => exact ⟨k + 1, Nat.le_refl _, pick_yes h⟩
    | false => exact ⟨j, by omega, by rw [pick_no h, he]⟩
theorem pick_least (ds : List Dt) : ∀ k j, j ≤ k → dys (pickTo lessT ds k) ≤ dys (at2 ds j)
  | 0, j, h => by obtain rfl : j = 0 := by omega
                  exact Int.le_refl _
  | k + 1, j, h => by
    have ih := pick_least ds k
    cases ht : lessT (at2 ds (k + 1)) (pickTo lessT ds k) with
    | true =>
      rw [pick_yes ht]
      have hl := of_decide_eq_true ht
      by_cases hj : j = k + 1
      · subst hj; exact Int.le_refl _
      · have := ih j (by omega); omega
    | false =>
      rw [pick_no ht]
      have hl := of_decide_eq_false ht
      by_cases hj : j = k + 1
      · subst hj; omega
      · exact ih j (by omega)
theorem pick_most (ds : List Dt) : ∀ k j, j ≤ k → dys (at2 ds j) ≤ dys (pickTo moreT ds k)
  | 0, j, h => by obtain rfl : j = 0 := by omega
                  exact Int.le_refl _
  | k + 1, j, h => by
    have ih := pick_most ds k
    cases ht : moreT (at2 ds (k + 1)) (pickTo moreT ds k) with
    | true =>
      rw [pick_yes ht]
      have hl := of_decide_eq_true ht
      by_cases hj : j = k + 1
      · subst hj; exact Int.le_refl _
      · have := ih j (by omega); omega
    | false =>
      rw [pick_no ht]
      have hl := of_decide_eq_false ht
      by_cases hj : j = k + 1
      · subst hj; omega
      · exact ih j (by omega)
/-- The people among the first k whose day is p. -/
def whoEq (ds : List Dt) (p : Dt) : Nat → List Int
  | 0 => []
  | k + 1 => if at2 ds k = p then whoEq ds p k ++ [(k : Int)] else whoEq ds p k
theorem whoEq_yes {ds : List Dt} {p : Dt} {k : Nat} (h : at2 ds k = p) : whoEq ds p (k + 1) = whoEq ds p k ++ [(k : Int)] := by rw [whoEq, if_pos h]
theorem whoEq_no {ds : List Dt} {p : Dt} {k : Nat} (h : ¬ at2 ds k = p) : whoEq ds p (k + 1) = whoEq ds p k := by rw [whoEq, if_neg h]
theorem whoEq_len (ds : List Dt) (p : Dt) : ∀ k, (whoEq ds p k).length ≤ k
  | 0 => Nat.le_refl _
  | k + 1 => by
    have := whoEq_len ds p k
    unfold whoEq
    split
    · rw [List.length_append]; simp; omega
    · omega
theorem who_same {ds es : List Dt} {p q : Dt} : ∀ k, (∀ j, j < k → (isOf (at2 ds j) q = true ↔ at2 es j = p)) → whoTo ds q k = whoEq es p k
  | 0, _ => rfl
  | k + 1, h => by
    have ih := who_same (ds := ds) (es := es) (p := p) (q := q) k (fun j hj => h j (by omega))
    by_cases hk : at2 es k = p
    · rw [whoTo_yes ((h k (by omega)).2 hk), whoEq_yes hk, ih]
    · rw [whoTo_no (by cases hz : isOf (at2 ds k) q with
        | false => rfl
        | true => exact absurd ((h k (by omega)).1 hz) hk), whoEq_no hk, ih]
theorem who_pos {ds : List Dt} {q : Dt} : ∀ k, 0 < (whoTo ds q k).length → ∃ j, j < k ∧ isOf (at2 ds j) q = true
  | 0, h => absurd h (by simp [whoTo])
  | k + 1, h => by
    cases hz : isOf (at2 ds k) q with
    | true => exact ⟨k, by omega, hz⟩
    | false =>
      rw [whoTo_no hz] at h
      obtain ⟨j, hj, he⟩ := who_pos k h
      exact ⟨j, by omega, he⟩
theorem who_has {ds : List Dt} {q : Dt} {j : Nat} (he : isOf (at2 ds j) q = true) : ∀ k, j < k → 0 < (whoTo ds q k).length
  | 0, h => absurd h (by omega)
  | k + 1, h => by
    by_cases hj : j = k
    · subst hj; rw [whoTo_yes he]; simp
    · have := who_has he k (by omega)
      unfold whoTo
      split
      · rw [List.length_append]; omega
      · exact this
theorem isOf_iff {b o : Dt} : isOf b o = true ↔ b.2 = o.2 ∧ b.1 < o.1 := by simp [isOf]
theorem at2_map (f : Dt → Dt) (ds : List Dt) (k : Nat) (hk : k < ds.length) : at2 (ds.map f) k = f (at2 ds k) := by
  simp [at2, List.getElem?_eq_getElem hk]
theorem born_age {b o : Dt} (h : bornD b o = true) : 0 ≤ ageD b o := by
  obtain ⟨h1, h2, h3⟩ := bornD_parts h
  have := dateB_iff.1 h1
  have := dateB_iff.1 h2
  unfold dys at h3
  unfold ageD
  split <;> omega
theorem nxt_near {b o : Dt} (h : bornD b o = true) : dys o < dys (nxtB o b) ∧ dys (nxtB o b) ≤ dys o + 365 := by
  obtain ⟨h1, h2, h3⟩ := bornD_parts h
  have := dateB_iff.1 h1
  have := dateB_iff.1 h2
  unfold nxtB ageD dys
  simp only
  split <;> omega
theorem nxt_of {b o q : Dt} (h : bornD b o = true) (hq : isOf b q = true) (hl : dys o < dys q) : dys (nxtB o b) ≤ dys q := by
  obtain ⟨h1, h2, h3⟩ := bornD_parts h
  have := dateB_iff.1 h1
  have := dateB_iff.1 h2
  have := isOf_iff.1 hq
  revert hl
  unfold nxtB ageD dys
  simp only
  intro hl
  split <;> omega
theorem nxt_is {b o : Dt} (h : bornD b o = true) : isOf b (nxtB o b) = true := by
  have := born_age h
  exact isOf_iff.2 ⟨rfl, by show b.1 < b.1 + (ageD b o + 1); omega⟩
theorem nxt_parts {b o : Dt} (h : bornD b o = true) : 0 ≤ (nxtB o b).1 ∧ (nxtB o b).1 ≤ 6002 ∧ 1 ≤ (nxtB o b).2 ∧ (nxtB o b).2 ≤ 365 := by
  obtain ⟨h1, h2, h3⟩ := bornD_parts h
  have := dateB_iff.1 h1
  have := dateB_iff.1 h2
  have := born_age h
  have := ageD_bounds h1 h2
  show 0 ≤ b.1 + (ageD b o + 1) ∧ b.1 + (ageD b o + 1) ≤ 6002 ∧ 1 ≤ b.2 ∧ b.2 ≤ 365
  omega
theorem lst_near {b o : Dt} (h : bornD b o = true) (ha : 0 < ageD b o) : dys o - 364 ≤ dys (b.1 + ageD b o, b.2) ∧ dys (b.1 + ageD b o, b.2) ≤ dys o := by
  obtain ⟨h1, h2, h3⟩ := bornD_parts h
  have := dateB_iff.1 h1
  have := dateB_iff.1 h2
  unfold ageD dys
  simp only
  split <;> omega
theorem lst_of {b o q : Dt} (h : bornD b o = true) (hq : isOf b q = true) (hl : dys q ≤ dys o) : 0 < ageD b o ∧ dys q ≤ dys (b.1 + ageD b o, b.2) := by
  obtain ⟨h1, h2, h3⟩ := bornD_parts h
  have := dateB_iff.1 h1
  have := dateB_iff.1 h2
  have := isOf_iff.1 hq
  revert hl
  unfold ageD dys
  simp only
  intro hl
  split <;> omega
theorem lst_date {b o : Dt} (h : bornD b o = true) (ha : 0 < ageD b o) : dateB (b.1 + ageD b o, b.2) = true := by
  obtain ⟨h1, h2, h3⟩ := bornD_parts h
  have := dateB_iff.1 h1
  have := dateB_iff.1 h2
  refine dateB_iff.2 ?_
  revert ha
  unfold ageD
  simp only
  split <;> intro ha <;> omega
theorem dys_inj {p q : Dt} (h2 : p.2 = q.2) (h : dys p = dys q) : p = q := by
  obtain ⟨a, b⟩ := p
  obtain ⟨c, d⟩ := q
  unfold dys at h
  simp only at h h2
  subst h2
  congr 1
  omega
/-- What the program tells of the day that it picked. -/
def nxP (ds : List Dt) (o : Dt) : Dt := pickTo lessT (ds.map (nxtB o)) (ds.length - 1)
def lsP (ds : List Dt) (o : Dt) : Dt := pickTo moreT (ds.map (lstB o)) (ds.length - 1)
def tellL (es : List Dt) (p : Dt) : List Int := if dateB p = true then whoEq es p es.length else []
theorem next_pick {ds : List Dt} {o : Dt} (h : allBorn ds o = true) :
    nextP ds o = dateOf (nxP ds o) ∧ nextL ds o = tellL (ds.map (nxtB o)) (nxP ds o) ∧ nextB ds o = dateB (nxP ds o) := by
  have hbs := (allBorn_parts h).2
  have h8 := birthsB_len (allBorn_parts h).1
  obtain ⟨j0, hj0, he0⟩ := pick_is lessT (ds.map (nxtB o)) (ds.length - 1)
  have hmin := fun j (hj : j < ds.length) => (show dys (nxP ds o) ≤ dys (nxtB o (at2 ds j)) by rw [← at2_map (nxtB o) ds j hj]; exact pick_least (ds.map (nxtB o)) (ds.length - 1) j (by omega))
  have he : nxP ds o = nxtB o (at2 ds j0) := by unfold nxP; rw [he0, at2_map _ _ _ (by omega)]
  have hj : j0 < ds.length := by omega
  have hb0 := hbs j0 hj
  have hn := nxt_near hb0
  rw [← he] at hn
  have hmiss : ∀ x, dys o < x → x < dys (nxP ds o) → hitN ds x = false := by
    intro x h1 h2
    cases hx : hitN ds x with
    | false => rfl
    | true =>
      exfalso
      unfold hitN at hx
      obtain ⟨hx1, hx2⟩ := (Bool.and_eq_true _ _) ▸ hx
      obtain ⟨j, hj, hw⟩ := who_pos _ (of_decide_eq_true hx2)
      obtain ⟨hd1, hd2⟩ := back_date hx1
      have := nxt_of (hbs j hj) hw (by rw [hd2]; exact h1)
      have := hmin j hj
      omega
  generalize hp : nxP ds o = p at he hn hmiss hmin ⊢
  cases hd : dateB p with
  | true =>
    obtain ⟨hk1, hk2⟩ := back_dys hd
    have hwho : whoTo ds p ds.length = whoEq (ds.map (nxtB o)) p ds.length := by
      refine who_same _ (fun j hj => ?_)
      rw [at2_map _ _ _ hj]
      constructor
      · intro hz
        have h1 := nxt_of (hbs j hj) hz hn.1
        have h2 := hmin j hj
        exact dys_inj (isOf_iff.1 hz).1 (by omega)
      · intro hz
        rw [← hz]; exact nxt_is (hbs j hj)
    have hk : nextK ds o = some (dys p - dys o).toNat := by
      unfold nextK
      refine seek_hit 365 1 _ (by omega) (by omega) (fun j h1 h2 => hmiss _ (by omega) (by omega)) ?_
      rw [show dys o + ((dys p - dys o).toNat : Int) = dys p by omega]
      unfold hitN
      rw [hk1, hk2, decide_eq_true (who_has (by rw [he]; exact nxt_is hb0) _ hj)]; rfl
    obtain ⟨r1, r2, r3⟩ := next_hit h hk
    rw [show dys o + ((dys p - dys o).toNat : Int) = dys p by omega, hk2] at r1 r2
    refine ⟨by rw [r1, dateOf_yes hd], ?_, r3⟩
    rw [r2, hwho]; unfold tellL; rw [if_pos hd, List.length_map]
  | false =>
    have hpp := nxt_parts hb0
    rw [← he] at hpp
    have hbig : 3000 < p.1 := by
      apply Int.not_le.1
      intro hle
      rw [dateB_iff.2 ⟨⟨hpp.1, hle⟩, hpp.2.2⟩] at hd; cases hd
    have hk : nextK ds o = none := by
      unfold nextK
      refine seek_none _ _ (fun j h1 h2 => ?_)
      by_cases hlt : dys o + (j : Int) < dys p
      · exact hmiss _ (by omega) hlt
      · unfold hitN
        have : backOk (dys o + (j : Int)) = false := by
          unfold backOk
          refine inB_not.2 (.inr ?_)
          unfold dys at hlt ⊢
          omega
        rw [this]; rfl
    obtain ⟨r1, r2, r3⟩ := next_none h hk
    refine ⟨by rw [r1, dateOf_no hd], ?_, r3⟩
    rw [r2]; unfold tellL; rw [if_neg (by rw [hd]; decide)]
theorem last_pick {ds : List Dt} {o : Dt} (h : allBorn ds o = true) :
    lastP ds o = dateOf (lsP ds o) ∧ lastL ds o = tellL (ds.map (lstB o)) (lsP ds o) ∧ lastB ds o = dateB (lsP ds o) := by
  have hbs := (allBorn_parts h).2
  have h8 := birthsB_len (allBorn_parts h).1
  obtain ⟨j0, hj0, he0⟩ := pick_is moreT (ds.map (lstB o)) (ds.length - 1)
  have hmax := fun j (hj : j < ds.length) => (show dys (lstB o (at2 ds j)) ≤ dys (lsP ds o) by rw [← at2_map (lstB o) ds j hj]; exact pick_most (ds.map (lstB o)) (ds.length - 1) j (by omega))
  have he : lsP ds o = lstB o (at2 ds j0) := by unfold lsP; rw [he0, at2_map _ _ _ (by omega)]
  have hj : j0 < ds.length := by omega
  have hb0 := hbs j0 hj
  have hmiss : ∀ x, dys (lsP ds o) < x → x ≤ dys o → hitN ds x = false := by
    intro x h1 h2
    cases hx : hitN ds x with
    | false => rfl
    | true =>
      exfalso
      unfold hitN at hx
      obtain ⟨hx1, hx2⟩ := (Bool.and_eq_true _ _) ▸ hx
      obtain ⟨j, hj, hw⟩ := who_pos _ (of_decide_eq_true hx2)
      obtain ⟨hd1, hd2⟩ := back_date hx1
      obtain ⟨ha, hb⟩ := lst_of (hbs j hj) hw (by rw [hd2]; exact h2)
      have := hmax j hj
      unfold lstB at this
      rw [if_pos ha] at this
      omega
  generalize hp : lsP ds o = p at he hmiss hmax ⊢
  by_cases ha0 : 0 < ageD (at2 ds j0) o
  · have he2 : p = ((at2 ds j0).1 + ageD (at2 ds j0) o, (at2 ds j0).2) := by rw [he]; unfold lstB; rw [if_pos ha0]
    have hd : dateB p = true := by rw [he2]; exact lst_date hb0 ha0
    have hn := lst_near hb0 ha0
    rw [← he2] at hn
    obtain ⟨hk1, hk2⟩ := back_dys hd
    have hb := dys_bounds hd
    have hwho : whoTo ds p ds.length = whoEq (ds.map (lstB o)) p ds.length := by
      refine who_same _ (fun j hj => ?_)
      rw [at2_map _ _ _ hj]
      constructor
      · intro hz
        obtain ⟨h1, h2⟩ := lst_of (hbs j hj) hz hn.2
        have h3 := hmax j hj
        unfold lstB at h3 ⊢
        rw [if_pos h1] at h3 ⊢
        exact dys_inj (isOf_iff.1 hz).1 (by omega)
      · intro hz
        unfold lstB at hz
        split at hz
        · rw [← hz]; exact isOf_iff.2 ⟨rfl, by show (at2 ds j).1 < (at2 ds j).1 + ageD (at2 ds j) o; omega⟩
        · rw [← hz] at hd; cases hd
    have hk : lastK ds o = some (dys o - dys p).toNat := by
      unfold lastK
      refine seek_hit 365 0 _ (by omega) (by omega) (fun j h1 h2 => hmiss _ (by omega) (by omega)) ?_
      rw [show dys o - ((dys o - dys p).toNat : Int) = dys p by omega]
      unfold hitN
      rw [hk1, hk2, decide_eq_true (who_has (j := j0) (by rw [he2]; exact isOf_iff.2 ⟨rfl, by show (at2 ds j0).1 < (at2 ds j0).1 + ageD (at2 ds j0) o; omega⟩) _ hj)]; rfl
    obtain ⟨r1, r2, r3⟩ := last_hit h hk
    rw [show dys o - ((dys o - dys p).toNat : Int) = dys p by omega, hk2] at r1 r2
    refine ⟨by rw [r1, dateOf_yes hd], ?_, by rw [r3, hd]⟩
    rw [r2, hwho]; unfold tellL; rw [if_pos hd, List.length_map]
  · have he2 : p = (0, 0) := by rw [he]; unfold lstB; rw [if_neg ha0]
    have hd : dateB p = false := by rw [he2]; rfl
    have hk : lastK ds o = none := by
      unfold lastK
      refine seek_none _ _ (fun j h1 h2 => ?_)
      by_cases hlt : backOk (dys o - (j : Int)) = true
      · refine hmiss _ ?_ (by omega)
        rw [he2]
        have : 0 ≤ dys o - (j : Int) := by unfold backOk at hlt; exact (inB_iff.1 hlt).1
        show (0 : Int) * 365 + 0 - 1 < _
        omega
      · unfold hitN
        rw [show backOk (dys o - (j : Int)) = false by simpa using hlt]; rfl
    obtain ⟨r1, r2, r3⟩ := last_none h hk
    refine ⟨by rw [r1, dateOf_no hd], ?_, by rw [r3, hd]⟩
    rw [r2]; unfold tellL; rw [if_neg (by rw [hd]; decide)]
end Go.Proofs.Ytbhceokapbnhhaa
