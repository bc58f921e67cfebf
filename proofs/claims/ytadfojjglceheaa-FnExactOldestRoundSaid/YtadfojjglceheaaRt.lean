/- Ratios: the greatest divisor of a list, fractions in lowest terms, chains, the rest of a life: pure. -/
import Derived.Test.YtadfojjglceheaaDate
set_option linter.unusedVariables false
set_option linter.unusedSimpArgs false
namespace Go.Proofs.Ytadfojjglceheaa
open Go.RowKit

/-- The greatest number that divides all of a list. -/
def gcdL : List Nat → Nat
  | [] => 0
  | x :: r => Nat.gcd x (gcdL r)
theorem gcdL_dvd : ∀ (l : List Nat) (x : Nat), x ∈ l → gcdL l ∣ x
  | y :: r, x, h => by
    rcases List.mem_cons.1 h with rfl | h
    · exact Nat.gcd_dvd_left _ _
    · exact Nat.dvd_trans (Nat.gcd_dvd_right _ _) (gcdL_dvd r x h)
theorem gcdL_pos : ∀ (l : List Nat) (x : Nat), x ∈ l → 0 < x → 0 < gcdL l := by
  intro l x h hx
  exact Nat.pos_of_dvd_of_pos (gcdL_dvd l x h) hx
theorem gcdL_mul (k : Nat) : ∀ l : List Nat, gcdL (l.map (· * k)) = gcdL l * k
  | [] => by simp [gcdL]
  | x :: r => by rw [List.map_cons, gcdL, gcdL_mul k r, Nat.gcd_mul_right, gcdL]
theorem gcdL_append : ∀ (l m : List Nat), gcdL (l ++ m) = Nat.gcd (gcdL l) (gcdL m)
  | [], m => by simp [gcdL]
  | x :: r, m => by rw [List.cons_append, gcdL, gcdL_append r m, gcdL, Nat.gcd_assoc]
theorem gcdL_snoc (l : List Nat) (x : Nat) : gcdL (l ++ [x]) = Nat.gcd (gcdL l) x := by
  rw [gcdL_append]; simp [gcdL]
/-- A list, divided by what divides all of it. -/
def lowL (l : List Nat) : List Nat := l.map (· / gcdL l)
theorem lowL_length (l : List Nat) : (lowL l).length = l.length := by simp [lowL]
theorem low_unique {u v : List Nat} {t s : Nat} (ht : 0 < t) (hs : 0 < s) (hu : ∃ x, x ∈ u ∧ 0 < x) (h : u.map (· * t) = v.map (· * s)) : lowL u = lowL v := by
  have hl : u.length = v.length := by simpa using congrArg List.length h
  have hg : gcdL u * t = gcdL v * s := by rw [← gcdL_mul, ← gcdL_mul, h]
  obtain ⟨x0, hx0, hp⟩ := hu
  have gu : 0 < gcdL u := gcdL_pos u x0 hx0 hp
  have gv : 0 < gcdL v := by
    refine Nat.pos_of_ne_zero fun e => ?_
    rw [e, Nat.zero_mul] at hg
    have := Nat.mul_pos gu ht
    omega
  apply List.ext_getElem (by rw [lowL_length, lowL_length, hl])
  intro i h1 h2
  simp only [lowL, List.getElem_map]
  have i1 : i < u.length := by simpa [lowL] using h1
  have i2 : i < v.length := by simpa [lowL] using h2
  have he : u[i] * t = v[i] * s := by
    have := congrArg (fun l : List Nat => l[i]?) h
    simpa [List.getElem?_eq_getElem i1, List.getElem?_eq_getElem i2] using this
  obtain ⟨x, hx⟩ := gcdL_dvd u u[i] (List.getElem_mem i1)
  obtain ⟨y, hy⟩ := gcdL_dvd v v[i] (List.getElem_mem i2)
  rw [hx, hy] at he ⊢
  rw [Nat.mul_div_cancel_left _ gu, Nat.mul_div_cancel_left _ gv]
  have e2 : gcdL u * t * x = gcdL u * t * y := by
    rw [show gcdL u * t * x = gcdL u * x * t by rw [Nat.mul_right_comm], he, hg]
    rw [Nat.mul_right_comm]
  exact Nat.eq_of_mul_eq_mul_left (Nat.mul_pos gu ht) e2

/-- The least common multiple, as the model looks for it. -/
theorem lcm_steps {y v k : Nat} (hy : 0 < y) (hv : 0 < v) (hk : 1 ≤ k) (hd : v ∣ k * y) (hmin : ∀ j, 1 ≤ j → j < k → ¬ v ∣ j * y) : k * y = Nat.lcm y v := by
  obtain ⟨m, hm⟩ := Nat.dvd_lcm_left y v
  have hm' : Nat.lcm y v = m * y := by rw [hm, Nat.mul_comm]
  have hpos : 0 < Nat.lcm y v := Nat.lcm_pos hy hv
  have hm1 : 1 ≤ m := by
    refine Nat.pos_of_ne_zero fun e => ?_
    rw [hm', e] at hpos; simp at hpos
  have hle : k ≤ m := by
    refine Nat.le_of_not_lt fun hlt => hmin m hm1 hlt ?_
    rw [← hm']; exact Nat.dvd_lcm_right y v
  have hle2 : m * y ≤ k * y := by
    rw [← hm']
    refine Nat.le_of_dvd (Nat.mul_pos hk hy) (Nat.lcm_dvd (Nat.dvd_mul_left y k) hd)
  have : m ≤ k := Nat.le_of_mul_le_mul_right hle2 hy
  have : k = m := by omega
  rw [hm', this]

/-- Two ages as fractions of one denominator, as three numbers: the model's way. -/
theorem three_low (a b d : Nat) (ha : 0 < a) (hb : 0 < b) (hd : 0 < d) :
    let x := a / Nat.gcd a d; let y := d / Nat.gcd a d; let u := b / Nat.gcd b d; let v := d / Nat.gcd b d
    [x * (Nat.lcm y v / y), u * (Nat.lcm y v / v), Nat.lcm y v] = lowL [a, b, d] := by
  intro x y u v
  have g1 : 0 < Nat.gcd a d := Nat.gcd_pos_of_pos_left _ ha
  have g2 : 0 < Nat.gcd b d := Nat.gcd_pos_of_pos_left _ hb
  have ex : a = Nat.gcd a d * x := (Nat.mul_div_cancel' (Nat.gcd_dvd_left a d)).symm
  have ey : d = Nat.gcd a d * y := (Nat.mul_div_cancel' (Nat.gcd_dvd_right a d)).symm
  have eu : b = Nat.gcd b d * u := (Nat.mul_div_cancel' (Nat.gcd_dvd_left b d)).symm
  have ev : d = Nat.gcd b d * v := (Nat.mul_div_cancel' (Nat.gcd_dvd_right b d)).symm
  have hy : 0 < y := Nat.pos_of_ne_zero fun e => by rw [e] at ey; omega
  have hv : 0 < v := Nat.pos_of_ne_zero fun e => by rw [e] at ev; omega
  have hxy : Nat.gcd x y = 1 := Nat.coprime_div_gcd_div_gcd g1
  have huv : Nat.gcd u v = 1 := Nat.coprime_div_gcd_div_gcd g2
  have hx : 0 < x := Nat.pos_of_ne_zero fun e => by rw [e] at ex; omega
  generalize hZ : Nat.lcm y v = Z
  have hZp : 0 < Z := by rw [← hZ]; exact Nat.lcm_pos hy hv
  obtain ⟨p, hp⟩ : y ∣ Z := by rw [← hZ]; exact Nat.dvd_lcm_left y v
  obtain ⟨q, hq⟩ : v ∣ Z := by rw [← hZ]; exact Nat.dvd_lcm_right y v
  have hpq : Nat.gcd p q = 1 := by
    -- y * v = gcd * lcm
    have hg : 0 < Nat.gcd y v := Nat.gcd_pos_of_pos_left _ hy
    have hgl : Nat.gcd y v * Z = y * v := by rw [← hZ]; exact Nat.gcd_mul_lcm y v
    obtain ⟨y', hy'⟩ := Nat.gcd_dvd_left y v
    obtain ⟨v', hv'⟩ := Nat.gcd_dvd_right y v
    have hc : Nat.gcd y' v' = 1 := by
      have := Nat.coprime_div_gcd_div_gcd (m := y) (n := v) hg
      have e1 : y / Nat.gcd y v = y' := Nat.div_eq_of_eq_mul_right hg hy'
      have e2 : v / Nat.gcd y v = v' := Nat.div_eq_of_eq_mul_right hg hv'
      rw [e1, e2] at this
      exact this
    have ep : p = v' := by
      have : Nat.gcd y v * (y * p) = y * v := by rw [← hp]; exact hgl
      have : Nat.gcd y v * y * p = Nat.gcd y v * y * v' := by
        rw [Nat.mul_assoc, this, Nat.mul_assoc, Nat.mul_left_comm, ← hv']
      exact Nat.eq_of_mul_eq_mul_left (Nat.mul_pos hg hy) this
    have eq : q = y' := by
      have : Nat.gcd y v * (v * q) = y * v := by rw [← hq]; exact hgl
      have : Nat.gcd y v * v * q = Nat.gcd y v * v * y' := by
        rw [Nat.mul_assoc, this, Nat.mul_assoc, Nat.mul_left_comm, ← hy', Nat.mul_comm]
      exact Nat.eq_of_mul_eq_mul_left (Nat.mul_pos hg hv) this
    rw [ep, eq, Nat.gcd_comm]; exact hc
  have e1 : Z / y = p := Nat.div_eq_of_eq_mul_right hy hp
  have e2 : Z / v = q := Nat.div_eq_of_eq_mul_right hv hq
  rw [e1, e2]
  have hone : gcdL [x * p, u * q, Z] = 1 := by
    have f1 : Nat.gcd (x * p) Z = p := by rw [hp, Nat.gcd_mul_right, hxy, Nat.one_mul]
    have f2 : Nat.gcd (u * q) Z = q := by rw [hq, Nat.gcd_mul_right, huv, Nat.one_mul]
    simp only [gcdL, Nat.gcd_zero_right]
    rw [f2]
    refine Nat.eq_one_of_dvd_one ?_
    rw [← hpq]
    have h1 : Nat.gcd (x * p) q ∣ x * p := Nat.gcd_dvd_left _ _
    have h2 : Nat.gcd (x * p) q ∣ q := Nat.gcd_dvd_right _ _
    refine Nat.dvd_gcd ?_ h2
    have h3 := Nat.dvd_gcd h1 (Nat.dvd_trans h2 ⟨v, by rw [hq, Nat.mul_comm]⟩ : Nat.gcd (x * p) q ∣ Z)
    rw [f1] at h3
    exact h3
  have hk : lowL [x * p, u * q, Z] = [x * p, u * q, Z] := by simp [lowL, hone]
  rw [← hk]
  refine low_unique (t := d) (s := Z) hd hZp ⟨Z, by simp, hZp⟩ ?_
  simp only [List.map_cons, List.map_nil, List.cons.injEq, and_true]
  refine ⟨?_, ?_, Nat.mul_comm _ _⟩
  · have : x * p * d = x * p * (Nat.gcd a d * y) := by rw [← ey]
    rw [this]
    have : a * Z = (Nat.gcd a d * x) * (y * p) := by rw [← ex, ← hp]
    rw [this]; ac_rfl
  · have : u * q * d = u * q * (Nat.gcd b d * v) := by rw [← ev]
    rw [this]
    have : b * Z = (Nat.gcd b d * u) * (v * q) := by rw [← eu, ← hq]
    rw [this]; ac_rfl

/-! ### Fractions with a sign -/
/-- The greatest common divisor of a fraction's numbers. -/
def rlG (a b : Int) : Int := ((Nat.gcd a.natAbs b.natAbs : Nat) : Int)
def rlN (a b : Int) : Int := if b < 0 then (-a) / rlG a b else a / rlG a b
def rlD (a b : Int) : Int := if b < 0 then (-b) / rlG a b else b / rlG a b
theorem rlG_neg (a b : Int) : rlG (-a) (-b) = rlG a b := by simp [rlG]
theorem rl_neg (a b : Int) (hb : b ≠ 0) : rlN (-a) (-b) = rlN a b ∧ rlD (-a) (-b) = rlD a b := by
  unfold rlN rlD
  rw [rlG_neg]
  by_cases h : b < 0
  · rw [if_pos h, if_pos h, if_neg (by omega), if_neg (by omega)]; simp
  · rw [if_neg h, if_neg h, if_pos (by omega), if_pos (by omega)]; simp
theorem rlG_pos (a b : Int) (hb : b ≠ 0) : 0 < rlG a b := by
  have : 0 < Nat.gcd a.natAbs b.natAbs := Nat.gcd_pos_of_pos_right _ (by omega)
  unfold rlG; omega
theorem rlG_dvd (a b : Int) : rlG a b ∣ a ∧ rlG a b ∣ b := by
  unfold rlG
  exact ⟨Int.ofNat_dvd_left.2 (Nat.gcd_dvd_left _ _), Int.ofNat_dvd_left.2 (Nat.gcd_dvd_right _ _)⟩
/-- Of a greater denominator than nought. -/
theorem rl_parts (a b : Int) (hb : 0 < b) : rlN a b * rlG a b = a ∧ rlD a b * rlG a b = b ∧ 0 < rlD a b := by
  have hg := rlG_pos a b (by omega)
  obtain ⟨d1, d2⟩ := rlG_dvd a b
  have e1 : rlN a b * rlG a b = a := by unfold rlN; rw [if_neg (by omega)]; exact Int.ediv_mul_cancel d1
  have e2 : rlD a b * rlG a b = b := by unfold rlD; rw [if_neg (by omega)]; exact Int.ediv_mul_cancel d2
  refine ⟨e1, e2, ?_⟩
  rcases Int.lt_trichotomy (rlD a b) 0 with h | h | h
  · have := Int.mul_neg_of_neg_of_pos h hg; omega
  · rw [h] at e2; omega
  · exact h
/-- Fractions that are alike have the same lowest terms. -/
theorem rl_unique {a b c d : Int} (hb : 0 < b) (hd : 0 < d) (h : a * d = c * b) : rlN a b = rlN c d ∧ rlD a b = rlD c d := by
  obtain ⟨a1, b1, p1⟩ := rl_parts a b hb
  obtain ⟨c1, d1, q1⟩ := rl_parts c d hd
  have g1 := rlG_pos a b (by omega)
  have g2 := rlG_pos c d (by omega)
  have hg : rlG a b * d = rlG c d * b := by
    have e1 : Nat.gcd (a * d).natAbs (b * d).natAbs = Nat.gcd a.natAbs b.natAbs * d.natAbs := by
      rw [Int.natAbs_mul, Int.natAbs_mul, Nat.gcd_mul_right]
    have e2 : Nat.gcd (c * b).natAbs (d * b).natAbs = Nat.gcd c.natAbs d.natAbs * b.natAbs := by
      rw [Int.natAbs_mul, Int.natAbs_mul, Nat.gcd_mul_right]
    rw [h, Int.mul_comm b d, e2] at e1
    have e3 : ((Nat.gcd c.natAbs d.natAbs * b.natAbs : Nat) : Int) = ((Nat.gcd a.natAbs b.natAbs * d.natAbs : Nat) : Int) := congrArg _ e1
    rw [Int.natCast_mul, Int.natCast_mul, Int.natAbs_of_nonneg (Int.le_of_lt hb), Int.natAbs_of_nonneg (Int.le_of_lt hd)] at e3
    exact e3.symm
  generalize rlN a b = x at *
  generalize rlN c d = y at *
  generalize rlD a b = z at *
  generalize rlD c d = t at *
  generalize rlG a b = G at *
  generalize rlG c d = K at *
  subst a1 b1 c1 d1
  have hGK : G * K ≠ 0 := Int.mul_ne_zero (by omega) (by omega)
  have hzt : t = z := Int.eq_of_mul_eq_mul_left hGK (by rw [show G * K * t = G * (t * K) by ac_rfl, hg]; ac_rfl)
  refine ⟨?_, hzt.symm⟩
  subst hzt
  have : G * K * t * x = G * K * t * y := by rw [show G * K * t * x = x * G * (t * K) by ac_rfl, h]; ac_rfl
  exact Int.eq_of_mul_eq_mul_left (Int.mul_ne_zero hGK (by omega)) this
/-- Whether a number of times the denominator and the numerator are above nought is told by the lowest terms. -/
theorem rl_sign (l a b : Int) (hb : 0 < b) : l * rlD a b + rlN a b ≤ 0 ↔ l * b + a ≤ 0 := by
  obtain ⟨a1, b1, p1⟩ := rl_parts a b hb
  have g1 := rlG_pos a b (by omega)
  have e : l * b + a = (l * rlD a b + rlN a b) * rlG a b := by
    rw [Int.add_mul, Int.mul_assoc, a1, b1]
  rw [e]
  generalize l * rlD a b + rlN a b = s
  constructor
  · intro h
    have := Int.mul_nonneg (show 0 ≤ -s by omega) (Int.le_of_lt g1)
    rw [Int.neg_mul] at this; omega
  · intro h
    refine Int.not_lt.1 fun hs => ?_
    have := Int.mul_pos hs g1
    omega
/-! ### Chains -/
/-- The numbers of a chain: each but the last one is so many times the next one. -/
def Chn : List (Nat × Nat) → List Nat → Prop
  | [], [x] => 0 < x
  | (n, d) :: rs, x :: y :: l => 0 < x ∧ x * d = n * y ∧ Chn rs (y :: l)
  | _, _ => False
theorem chn_prop : ∀ (rs : List (Nat × Nat)) (u v : List Nat), (∀ p ∈ rs, 0 < p.2) → Chn rs u → Chn rs v → ∃ t s, 0 < t ∧ 0 < s ∧ u.map (· * t) = v.map (· * s)
  | [], u, v, _, hu, hv => by
    match u, v, hu, hv with
    | [x], [y], hu, hv => exact ⟨y, x, hv, hu, by simp [Nat.mul_comm]⟩
  | (n, d) :: rs, u, v, hd, hu, hv => by
    match u, v, hu, hv with
    | x :: y :: l, x' :: y' :: l', hu, hv =>
      obtain ⟨hx, hxy, hr⟩ := hu
      obtain ⟨hx', hxy', hr'⟩ := hv
      obtain ⟨t, s, ht, hs, he⟩ := chn_prop rs (y :: l) (y' :: l') (fun p hp => hd p (List.mem_cons_of_mem _ hp)) hr hr'
      refine ⟨t, s, ht, hs, ?_⟩
      have hy : y * t = y' * s := by simpa using (List.cons.inj (by simpa using he : y * t :: l.map (· * t) = y' * s :: l'.map (· * s))).1
      have hd0 : 0 < d := hd (n, d) (List.mem_cons_self ..)
      have : x * t = x' * s := by
        refine Nat.eq_of_mul_eq_mul_left hd0 ?_
        rw [show d * (x * t) = x * d * t by ac_rfl, hxy, show n * y * t = n * (y * t) by ac_rfl, hy, show d * (x' * s) = x' * d * s by ac_rfl, hxy']
        ac_rfl
      rw [List.map_cons, this, he]; rfl
theorem chn_pos : ∀ (rs : List (Nat × Nat)) (u : List Nat), Chn rs u → ∃ x, x ∈ u ∧ 0 < x
  | [], [x], h => ⟨x, by simp, h⟩
  | (n, d) :: rs, x :: y :: l, h => ⟨x, by simp, h.1⟩
theorem chn_low (rs : List (Nat × Nat)) (u v : List Nat) (hd : ∀ p ∈ rs, 0 < p.2) (hu : Chn rs u) (hv : Chn rs v) : lowL u = lowL v := by
  obtain ⟨t, s, ht, hs, h⟩ := chn_prop rs u v hd hu hv
  exact low_unique ht hs (chn_pos rs u hu) h
theorem chn_length : ∀ (rs : List (Nat × Nat)) (u : List Nat), Chn rs u → u.length = rs.length + 1
  | [], [x], h => rfl
  | (n, d) :: rs, x :: y :: l, h => by have := chn_length rs (y :: l) h.2.2; simp at this ⊢; omega
theorem chn_scale (k : Nat) (hk : 0 < k) : ∀ (rs : List (Nat × Nat)) (u : List Nat), Chn rs u → Chn rs (u.map (· * k))
  | [], [x], h => Nat.mul_pos h hk
  | (n, d) :: rs, x :: y :: l, h => by
    refine ⟨Nat.mul_pos h.1 hk, ?_, chn_scale k hk rs (y :: l) h.2.2⟩
    show x * k * d = n * (y * k)
    rw [show x * k * d = x * d * k by ac_rfl, h.2.1]; ac_rfl
/-- The program's way: one more at the end. -/
theorem chn_snoc (n d : Nat) (hn : 0 < n) (hd : 0 < d) : ∀ (rs : List (Nat × Nat)) (u : List Nat), Chn rs u → Chn (rs ++ [(n, d)]) (u.map (· * n) ++ [u.getLastD 0 * d])
  | [], [x], h => ⟨Nat.mul_pos h hn, by show x * n * d = n * (x * d); ac_rfl, Nat.mul_pos h hd⟩
  | (m, e) :: rs, x :: y :: l, h => by
    have ih := chn_snoc n d hn hd rs (y :: l) h.2.2
    refine ⟨Nat.mul_pos h.1 hn, ?_, ih⟩
    show x * n * e = m * (y * n)
    rw [show x * n * e = x * e * n by ac_rfl, h.2.1]; ac_rfl
/-- The model's way: one more ahead. -/
theorem chn_cons (n d y : Nat) (l : List Nat) (rs : List (Nat × Nat)) (hn : 0 < n) (hd : 0 < d) (hy : 0 < y) (h : Chn rs (y :: l)) :
    Chn ((n, d) :: rs) (n * y / Nat.gcd (n * y) d :: (y :: l).map (· * (d / Nat.gcd (n * y) d))) := by
  have hg : 0 < Nat.gcd (n * y) d := Nat.gcd_pos_of_pos_right _ hd
  have e1 : n * y = Nat.gcd (n * y) d * (n * y / Nat.gcd (n * y) d) := (Nat.mul_div_cancel' (Nat.gcd_dvd_left _ _)).symm
  have e2 : d = Nat.gcd (n * y) d * (d / Nat.gcd (n * y) d) := (Nat.mul_div_cancel' (Nat.gcd_dvd_right _ _)).symm
  have hny : 0 < n * y := Nat.mul_pos hn hy
  generalize hG : Nat.gcd (n * y) d = G at *
  generalize hA : n * y / G = A at *
  generalize hB : d / G = B at *
  have hA0 : 0 < A := Nat.pos_of_ne_zero fun e => by rw [e] at e1; omega
  have hB0 : 0 < B := Nat.pos_of_ne_zero fun e => by rw [e] at e2; omega
  refine ⟨hA0, ?_, chn_scale B hB0 rs (y :: l) h⟩
  show A * d = n * (y * B)
  rw [e2, show n * (y * B) = n * y * B by ac_rfl, e1]; ac_rfl
/-! ### What the parts leave of a life -/
theorem rest_step {P Q num den a b : Int} (hb : 0 < b) (hQ : 0 < Q) (h : (Q - P) * den = num * Q) :
    (rlD (P * b + a * Q) (Q * b) - rlN (P * b + a * Q) (Q * b)) * (den * b) = (num * b - den * a) * rlD (P * b + a * Q) (Q * b) := by
  have hQb : 0 < Q * b := Int.mul_pos hQ hb
  obtain ⟨e1, e2, e3⟩ := rl_parts (P * b + a * Q) (Q * b) hQb
  have hg := rlG_pos (P * b + a * Q) (Q * b) (by omega)
  generalize rlN (P * b + a * Q) (Q * b) = x at *
  generalize rlD (P * b + a * Q) (Q * b) = y at *
  generalize rlG (P * b + a * Q) (Q * b) = g at *
  refine Int.eq_of_mul_eq_mul_left (a := g) (by omega) ?_
  have l : g * ((y - x) * (den * b)) = (y * g - x * g) * (den * b) := by
    rw [← Int.sub_mul]; ac_rfl
  have r : g * ((num * b - den * a) * y) = (num * b - den * a) * (y * g) := by ac_rfl
  rw [l, r, e1, e2]
  have k1 : (Q * b - (P * b + a * Q)) * (den * b) = (Q - P) * den * (b * b) - a * Q * den * b := by
    rw [show Q * b - (P * b + a * Q) = (Q - P) * b - a * Q by rw [Int.sub_mul]; omega, Int.sub_mul]
    congr 1
    · ac_rfl
    · ac_rfl
  rw [k1, h, Int.sub_mul]
  congr 1
  · ac_rfl
  · ac_rfl
theorem rest_sign {P Q num den : Int} (hQ : 0 < Q) (hden : 0 < den) (h : (Q - P) * den = num * Q) : P < Q ↔ 0 < num := by
  constructor
  · intro hlt
    have h1 : 0 < (Q - P) * den := Int.mul_pos (by omega) hden
    rw [h] at h1
    refine Int.not_le.1 fun hn => ?_
    have := Int.mul_nonneg (show 0 ≤ -num by omega) (Int.le_of_lt hQ)
    rw [Int.neg_mul] at this; omega
  · intro hn
    have h1 : 0 < num * Q := Int.mul_pos hn hQ
    rw [← h] at h1
    refine Int.not_le.1 fun hle => ?_
    have := Int.mul_nonneg (show 0 ≤ P - Q by omega) (Int.le_of_lt hden)
    rw [show (P - Q) * den = -((Q - P) * den) by rw [← Int.neg_mul]; congr 1; omega] at this
    omega

/-- A ratio. -/
def ratB (p : Dt) : Bool := inB p.1 1 100 && inB p.2 1 100
theorem ratB_iff {p : Dt} : ratB p = true ↔ (1 ≤ p.1 ∧ p.1 ≤ 100) ∧ (1 ≤ p.2 ∧ p.2 ≤ 100) := by unfold ratB; rw [Bool.and_eq_true, inB_iff, inB_iff]
/-- A call returned two numbers. -/
def RetTwo (x y : Int) (w : World) (e : Ending) (w' : World) : Prop := e = .returned (.tuple #[.int .i64 x, .int .i64 y]) ∧ Below w.heap.size w w'
/-- A call returned three numbers and a bool. -/
def RetI3B (x y z : Int) (ok : Bool) (w : World) (e : Ending) (w' : World) : Prop := e = .returned (.tuple #[.int .i64 x, .int .i64 y, .int .i64 z, .bool ok]) ∧ Below w.heap.size w w'
/-- A call returned a pair of numbers and a bool. -/
def RetPB (p : Dt) (ok : Bool) (w : World) (e : Ending) (w' : World) : Prop := e = .returned (.tuple #[.agg #[.int .i64 p.1, .int .i64 p.2], .bool ok]) ∧ Below w.heap.size w w'
/-- A call returned a new slice of pairs, maybe nil. -/
def RetOwnDd (T : TypeId) (ds : List Dt) (ok : Bool) (w : World) (e : Ending) (w' : World) : Prop := RetOwnDB T ds ok w e w'

/-- The years, as a fraction n / d, until something, if the least age l is above nought then. -/
def ywN (n d l : Int) : Int := if d = 0 then 0 else if l * rlD n d + rlN n d ≤ 0 then 0 else rlN n d
def ywD (n d l : Int) : Int := if d = 0 then 0 else if l * rlD n d + rlN n d ≤ 0 then 0 else rlD n d
def ywB (n d l : Int) : Bool := if d = 0 then false else if l * rlD n d + rlN n d ≤ 0 then false else true
theorem yw_neg (n d l : Int) : ywN (-n) (-d) l = ywN n d l ∧ ywD (-n) (-d) l = ywD n d l ∧ ywB (-n) (-d) l = ywB n d l := by
  unfold ywN ywD ywB
  by_cases h : d = 0
  · subst h; simp
  · have h' : ¬ -d = 0 := by omega
    obtain ⟨e1, e2⟩ := rl_neg n d h
    simp only [if_neg h, if_neg h', e1, e2, and_self]
theorem rlG_nat (N D : Nat) : rlG (N : Int) (D : Int) = ((Nat.gcd N D : Nat) : Int) := by simp [rlG]
theorem rlN_nat (N D : Nat) : rlN (N : Int) (D : Int) = ((N / Nat.gcd N D : Nat) : Int) := by
  unfold rlN; rw [if_neg (by omega), rlG_nat, Int.natCast_ediv]
theorem rlD_nat (N D : Nat) : rlD (N : Int) (D : Int) = ((D / Nat.gcd N D : Nat) : Int) := by
  unfold rlD; rw [if_neg (by omega), rlG_nat, Int.natCast_ediv]
theorem rl_bd (a b : Int) (hb : 0 < b) : rlN a b ≤ (a.natAbs : Int) ∧ -(a.natAbs : Int) ≤ rlN a b ∧ 1 ≤ rlD a b ∧ rlD a b ≤ b := by
  obtain ⟨e1, e2, e3⟩ := rl_parts a b hb
  have hg := rlG_pos a b (by omega)
  generalize rlN a b = x at *
  generalize rlD a b = y at *
  generalize rlG a b = g at *
  have h1 : x.natAbs ≤ a.natAbs := by
    rw [← e1, Int.natAbs_mul]
    exact Nat.le_mul_of_pos_right _ (by omega)
  have h2 : y ≤ b := by
    rw [← e2]
    have := Int.mul_le_mul_of_nonneg_left (show (1:Int) ≤ g by omega) (Int.le_of_lt e3)
    omega
  omega
end Go.Proofs.Ytadfojjglceheaa
