/- How many children are of an age: the program's; an oldest and a youngest child, both texts. -/
import Derived.Test.YtmdhdbkeiennmaaSu1
import Derived.Test.YtmdhdbkeiennmaaRowsHelp
set_option linter.unusedVariables false
set_option linter.unusedSimpArgs false
namespace Go.Proofs.Ytmdhdbkeiennmaa
open Go.RowKit

def eqI (x y : Int) : Int := if x = y then 1 else 0
theorem eqI_self (x : Int) : eqI x x = 1 := if_pos rfl
theorem eqI_comm (x y : Int) : eqI x y = eqI y x := by
  unfold eqI
  by_cases h : x = y
  · rw [if_pos h, if_pos h.symm]
  · rw [if_neg h, if_neg (Ne.symm h)]
theorem eqI_bd (x y : Int) : 0 ≤ eqI x y ∧ eqI x y ≤ 1 := by unfold eqI; split <;> omega
/-- How many of the numbers are a. -/
def cntL (a : Int) : List Int → Int
  | [] => 0
  | x :: s => eqI x a + cntL a s
theorem cntL_append (a : Int) (s t : List Int) : cntL a (s ++ t) = cntL a s + cntL a t := by
  induction s with
  | nil => simp [cntL]
  | cons x s ih => simp [cntL, ih, Int.add_assoc]
theorem cntL_take (a : Int) (zs : List Int) (k : Nat) (hk : k < zs.length) : cntL a (zs.take (k + 1)) = cntL a (zs.take k) + eqI (zs.getD k 0) a := by
  rw [List.take_succ_eq_append_getElem hk, cntL_append]
  simp [cntL, List.getElem?_eq_getElem hk]
theorem cntL_bd (a : Int) (s : List Int) : 0 ≤ cntL a s ∧ cntL a s ≤ (s.length : Int) := by
  induction s with
  | nil => simp [cntL]
  | cons x s ih =>
    have := eqI_bd x a
    simp only [cntL, List.length_cons]; omega

theorem eqAge_any (x age : Int) (qa : Nat) (w : World) (hq : w.cell? ⟨qa, 0, none⟩ = some (.int .i64 age)) : Calls Try.prog 86 #[.int .i64 x, .pointer (some ⟨qa, 0, none⟩)] w (RetSame (.bool (x == age)) w) := by
  go_enter Try.func86, Try.ntmps86
  go_wp2
  go_ret
  exact ⟨rfl, rfl⟩
theorem countOne_any (x age : Int) (qa qh : Nat) (w : World) (hq : w.cell? ⟨qa, 0, none⟩ = some (.int .i64 age)) (hh : w.cell? ⟨qh, 0, none⟩ = some (.func (.func 86) #[] #[.pointer (some ⟨qa, 0, none⟩)])) :
    Calls Try.prog 98 #[.int .i64 x, .pointer (some ⟨qh, 0, none⟩)] w (RetSame (.int .i64 (eqI x age)) w) := by
  have HE := Lib.hid (fun W (h : W.cell? ⟨qa, 0, none⟩ = some (.int .i64 age)) => eqAge_any x age qa W h)
  by_cases h : x = age
  · have e1 : eqI x age = 1 := if_pos h
    have e2 : (x == age) = true := beq_iff_eq.2 h
    rw [e1]
    rw [e2] at HE
    clear e1 e2 h
    go_enter Try.func98, Try.ntmps98
    go_wp2_with (go_at_call 86; refine (HE.out _ hq).mono ?_; rintro e w' ⟨rfl, rfl⟩)
    go_ret
    exact ⟨rfl, rfl⟩
  · have e1 : eqI x age = 0 := if_neg h
    have e2 : (x == age) = false := beq_eq_false_iff_ne.2 h
    rw [e1]
    rw [e2] at HE
    clear e1 e2 h
    go_enter Try.func98, Try.ntmps98
    go_wp2_with (go_at_call 86; refine (HE.out _ hq).mono ?_; rintro e w' ⟨rfl, rfl⟩)
    go_ret
    exact ⟨rfl, rfl⟩
set_option maxHeartbeats 1600000 in
theorem sumOverCount_any (b off n c : Nat) (zs : List Int) (age : Int) (qa qh : Nat) (w : World) (hl : zs.length = n) (hn : n ≤ 1000) (hI : Ints w b off zs) (hq : w.cell? ⟨qa, 0, none⟩ = some (.int .i64 age)) (hh : w.cell? ⟨qh, 0, none⟩ = some (.func (.func 86) #[] #[.pointer (some ⟨qa, 0, none⟩)])) :
    Calls Try.prog 69 #[.slice (some ⟨b, off, none⟩) n c, .func (.func 98) #[] #[.pointer (some ⟨qh, 0, none⟩)]] w (RetSame (.int .i64 (cntL age zs)) w) := by
  have HK := Lib.hid (fun k => cntL_bd age (zs.take k))
  have HT := Lib.hid (fun k h => cntL_take age zs k h)
  have HE := Lib.hid (show cntL age (zs.take n) = cntL age zs by rw [← hl, List.take_length])
  have HL := Lib.hid hl
  have HC := Lib.hid (fun x => countOne_any x age qa qh w hq hh)
  have HB := Lib.hid (fun x => eqI_bd x age)
  clear hl hq hh
  go_enter Try.func69, Try.ntmps69
  go_wp2
  go_loop [5, 10] (fun s v => ∃ k : Nat, k ≤ n ∧ v = .int .i64 k ∧ s = .int .i64 (cntL age (zs.take k))) (fun _ v => n - (intOf v).toNat)
  case atStart => exact ⟨0, Nat.zero_le _, rfl, rfl⟩
  case round =>
    obtain ⟨k, hkn, rfl, rfl⟩ := hrel
    have hs := HK.out k
    have htl : (zs.take k).length ≤ 1000 := by simp; omega
    by_cases hlt : k < n
    · have hc := hI k (by rw [HL.out]; exact hlt)
      have HS := Lib.hid (HT.out k (by rw [HL.out]; exact hlt))
      have hb := HB.out (zs.getD k 0)
      generalize zs.getD k 0 = x at hc HS hb
      have HCx := Lib.hid (HC.out x)
      generalize eqI x age = ex at HS hb HCx
      have hs2 : 0 ≤ cntL age (zs.take k) ∧ cntL age (zs.take k) ≤ 1000 := by omega
      generalize cntL age (zs.take k) = s at hs2 HS ⊢
      clear hs htl
      go_wp2_with (go_at_call 98; refine HCx.out.mono ?_; rintro e w' ⟨rfl, rfl⟩)
      go_round
      case rel => exact ⟨k + 1, by omega, by go_num, by rw [HS.out]⟩
      case measure => simp [intOf]; omega
    · have hkn2 : k = n := by omega
      subst hkn2
      rw [HE.out]
      clear hs htl
      go_wp2
      go_ret
      exact ⟨rfl, rfl⟩
theorem boxC {W : World} {k : Nat} {v : Value} {t : TypeId} (h : W.heap[k]? = some (.cells #[v] t (0, 0))) : W.cell? ⟨k, 0, none⟩ = some v := by simp [World.cell?, h]
theorem box_newC {W : World} {k : Nat} {A : Obj} (hk : k = W.heap.size) : (W.alloc A).heap[k]? = some A := by
  subst hk; exact heap_alloc_new W A
set_option maxHeartbeats 1600000 in
theorem countOverAge_any (b off n c : Nat) (zs : List Int) (age : Int) (qa : Nat) (w : World) (hl : zs.length = n) (hn : n ≤ 1000) (hbl : b < w.heap.size) (hI : Ints w b off zs) (hq : w.cell? ⟨qa, 0, none⟩ = some (.int .i64 age)) :
    Calls Try.prog 85 #[.slice (some ⟨b, off, none⟩) n c, .func (.func 86) #[] #[.pointer (some ⟨qa, 0, none⟩)]] w (Ret (.int .i64 (cntL age zs)) w) := by
  have HS := Lib.hid (fun (W : World) (qh : Nat) (hb : Below w.heap.size w W) (hh : W.cell? ⟨qh, 0, none⟩ = some (.func (.func 86) #[] #[.pointer (some ⟨qa, 0, none⟩)])) => sumOverCount_any b off n c zs age qa qh W hl hn (hI.kept hb hbl) (below_cells2 hb hq) hh)
  clear hl hI hq
  go_enter Try.func85, Try.ntmps85
  go_wp2_with (go_at_call 69; refine (HS.out _ w.heap.size ((Below.refl _ _).alloc (Nat.le_refl _) _) (boxC (box_newC rfl))).mono ?_; rintro e w' ⟨rfl, rfl⟩)
  go_ret
  exact ⟨rfl, (Below.refl _ _).alloc (Nat.le_refl _) _⟩
set_option maxHeartbeats 1600000 in
theorem childrenOfAge_any (b off n c : Nat) (zs : List Int) (age : Int) (w : World) (hl : zs.length = n) (hn : n ≤ 1000) (hbl : b < w.heap.size) (hI : Ints w b off zs) :
    Calls Try.prog 77 #[.slice (some ⟨b, off, none⟩) n c, .int .i64 age] w (Ret (.int .i64 (cntL age zs)) w) := by
  have HS := Lib.hid (fun (W : World) (qa : Nat) (hb : Below w.heap.size w W) (hq : W.cell? ⟨qa, 0, none⟩ = some (.int .i64 age)) => countOverAge_any b off n c zs age qa W hl hn (Nat.lt_of_lt_of_le hbl hb.size) (hI.kept hb hbl) hq)
  clear hl hI
  go_enter Try.func77, Try.ntmps77
  go_wp2_with (go_at_call 85; refine (HS.out _ w.heap.size ((Below.refl _ _).alloc (Nat.le_refl _) _) (boxC (box_newC rfl))).mono ?_; rintro e w' ⟨rfl, hb⟩)
  go_ret
  exact ⟨rfl, Below.trans ((Below.refl w.heap.size w).alloc (Nat.le_refl _) (.cells #[.int .i64 age] 3)) (hb.mono (by simp))⟩

/-- Whether there is an oldest, a youngest child. -/
def oldB (zs : List Int) : Bool := cntL (zs.getD (zs.length - 1) 0) zs == 1
def youngB (zs : List Int) : Bool := cntL (zs.getD 0 0) zs == 1
theorem eqI_lt {x y : Int} (h : x < y) : eqI x y = 0 := if_neg (by omega)
theorem eqI_le {x y : Int} (h : x ≤ y) : (eqI x y = 1 ∧ x = y) ∨ (eqI x y = 0 ∧ x < y) := by
  rcases (show x = y ∨ x < y by omega) with rfl | h
  · exact .inl ⟨eqI_self _, rfl⟩
  · exact .inr ⟨eqI_lt h, h⟩
/-- In order, only neighbours need be looked at. -/
theorem old_eq {zs : List Int} (h1 : 1 ≤ zs.length) (h4 : zs.length ≤ 4) (hm : ∀ k, k + 1 < zs.length → zs.getD k 0 ≤ zs.getD (k + 1) 0) : oldB zs = (zs.length == 1 || decide (zs.getD (zs.length - 2) 0 < zs.getD (zs.length - 1) 0)) := by
  unfold oldB
  match zs, h1, h4, hm with
  | [a], _, _, _ => simp [cntL, eqI_self]
  | [a, b], _, _, hm =>
    have m0 := hm 0 (by simp)
    simp only [List.getD_cons_zero, List.getD_cons_succ, List.length_cons, List.length_nil] at m0 ⊢
    rw [Bool.eq_iff_iff, beq_iff_eq]
    simp [cntL, eqI_self]
    rcases eqI_le m0 with ⟨e, e'⟩ | ⟨e, e'⟩ <;> rw [e] <;> omega
  | [a, b, c], _, _, hm =>
    have m0 := hm 0 (by simp)
    have m1 := hm 1 (by simp)
    simp only [List.getD_cons_zero, List.getD_cons_succ, List.length_cons, List.length_nil] at m0 m1 ⊢
    rw [Bool.eq_iff_iff, beq_iff_eq]
    simp [cntL, eqI_self]
    rcases eqI_le m1 with ⟨e, e'⟩ | ⟨e, e'⟩ <;> rcases eqI_le (show a ≤ c by omega) with ⟨f, f'⟩ | ⟨f, f'⟩ <;> rw [e, f] <;> omega
  | [a, b, c, d], _, _, hm =>
    have m0 := hm 0 (by simp)
    have m1 := hm 1 (by simp)
    have m2 := hm 2 (by simp)
    simp only [List.getD_cons_zero, List.getD_cons_succ, List.length_cons, List.length_nil] at m0 m1 m2 ⊢
    rw [Bool.eq_iff_iff, beq_iff_eq]
    simp [cntL, eqI_self]
    rcases eqI_le m2 with ⟨e, e'⟩ | ⟨e, e'⟩ <;> rcases eqI_le (show b ≤ d by omega) with ⟨f, f'⟩ | ⟨f, f'⟩ <;> rcases eqI_le (show a ≤ d by omega) with ⟨g, g'⟩ | ⟨g, g'⟩ <;> rw [e, f, g] <;> omega
theorem young_eq {zs : List Int} (h1 : 1 ≤ zs.length) (h4 : zs.length ≤ 4) (hm : ∀ k, k + 1 < zs.length → zs.getD k 0 ≤ zs.getD (k + 1) 0) : youngB zs = (zs.length == 1 || decide (zs.getD 0 0 < zs.getD 1 0)) := by
  unfold youngB
  match zs, h1, h4, hm with
  | [a], _, _, _ => simp [cntL, eqI_self]
  | [a, b], _, _, hm =>
    have m0 := hm 0 (by simp)
    simp only [List.getD_cons_zero, List.getD_cons_succ] at m0 ⊢
    rw [Bool.eq_iff_iff, beq_iff_eq]
    simp [cntL, eqI_self]
    rw [eqI_comm b a]
    rcases eqI_le m0 with ⟨e, e'⟩ | ⟨e, e'⟩ <;> rw [e] <;> omega
  | [a, b, c], _, _, hm =>
    have m0 := hm 0 (by simp)
    have m1 := hm 1 (by simp)
    simp only [List.getD_cons_zero, List.getD_cons_succ] at m0 m1 ⊢
    rw [Bool.eq_iff_iff, beq_iff_eq]
    simp [cntL, eqI_self]
    rw [eqI_comm b a, eqI_comm c a]
    rcases eqI_le m0 with ⟨e, e'⟩ | ⟨e, e'⟩ <;> rcases eqI_le (show a ≤ c by omega) with ⟨f, f'⟩ | ⟨f, f'⟩ <;> rw [e, f] <;> omega
  | [a, b, c, d], _, _, hm =>
    have m0 := hm 0 (by simp)
    have m1 := hm 1 (by simp)
    have m2 := hm 2 (by simp)
    simp only [List.getD_cons_zero, List.getD_cons_succ] at m0 m1 m2 ⊢
    rw [Bool.eq_iff_iff, beq_iff_eq]
    simp [cntL, eqI_self]
    rw [eqI_comm b a, eqI_comm c a, eqI_comm d a]
    rcases eqI_le m0 with ⟨e, e'⟩ | ⟨e, e'⟩ <;> rcases eqI_le (show a ≤ c by omega) with ⟨f, f'⟩ | ⟨f, f'⟩ <;> rcases eqI_le (show a ≤ d by omega) with ⟨g, g'⟩ | ⟨g, g'⟩ <;> rw [e, f, g] <;> omega
end Go.Proofs.Ytmdhdbkeiennmaa
