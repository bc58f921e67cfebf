/- The number by which a year has the most jubilees: both texts. -/
import Derived.Test.YtadfojjglceheaaSh
import Derived.Deep.RegionHeld3
set_option linter.unusedVariables false
set_option linter.unusedSimpArgs false
namespace Go.Proofs.Ytadfojjglceheaa
open Go.RowKit

theorem OwnD.drew {T : TypeId} {B : Nat} {w : World} {v : Value} {ds : List Dt} (h : OwnD T B w v ds) : OwnD T B w.drew v ds := h.kept (Below.drew (Below.refl _ _))

def bsM (f : Int → Nat) : Nat → Int
  | 0 => 0
  | k + 1 => bstN f k
def ctM (f : Int → Nat) : Nat → Int
  | 0 => -1
  | k + 1 => ((f (bstN f k) : Nat) : Int)
theorem bsM_yes (f : Int → Nat) : ∀ k : Nat, ctM f k ≤ ((f ((k : Int) + 2) : Nat) : Int) → bsM f (k + 1) = (k : Int) + 2 ∧ ctM f (k + 1) = ((f ((k : Int) + 2) : Nat) : Int)
  | 0, _ => ⟨rfl, rfl⟩
  | k + 1, h => by
    have e : ((k + 1 : Nat) : Int) + 2 = (k : Int) + 3 := by omega
    rw [e] at h ⊢
    have h2 : f (bstN f k) ≤ f ((k : Int) + 3) := by simpa [ctM] using h
    simp only [bsM, ctM, bstN, if_pos h2, and_self]
theorem bsM_no (f : Int → Nat) : ∀ k : Nat, ((f ((k : Int) + 2) : Nat) : Int) < ctM f k → bsM f (k + 1) = bsM f k ∧ ctM f (k + 1) = ctM f k
  | 0, h => by simp only [ctM] at h; omega
  | k + 1, h => by
    have e : ((k + 1 : Nat) : Int) + 2 = (k : Int) + 3 := by omega
    rw [e] at h
    have h2 : ¬ f (bstN f k) ≤ f ((k : Int) + 3) := by simp only [ctM] at h; omega
    simp only [bsM, ctM, bstN, if_neg h2, and_self]
theorem ctM_bd (f : Int → Nat) (h : ∀ e, f e ≤ 10) : ∀ k : Nat, -1 ≤ ctM f k ∧ ctM f k ≤ 10
  | 0 => by simp [ctM]
  | k + 1 => by have := h (bstN f k); simp only [ctM]; omega
theorem bsM_bd (f : Int → Nat) : ∀ k : Nat, 0 ≤ bsM f k ∧ bsM f k ≤ (k : Int) + 1
  | 0 => by simp [bsM]
  | k + 1 => by have := bstN_bd f k; simp only [bsM]; omega

def beB (zs : List Int) (y m : Int) : Bool := pgB zs y && inB m 2 100
set_option maxHeartbeats 2000000 in
theorem bestS_yes (b off n c : Nat) (y m : Int) (zs : List Int) (w : World) (hl : zs.length = n) (hbl : b < w.heap.size) (hI : Ints w b off zs) (hp : pgB zs y = true) (hm : inB m 2 100 = true) :
    Calls Try.prog 24 #[.slice (some ⟨b, off, none⟩) n c, .int .i64 y, .int .i64 m] w (RetIIB (bsM (jbN zs y) (m - 1).toNat) (ctM (jbN zs y) (m - 1).toNat) true w) := by
  obtain ⟨hg, hy⟩ := pgB_true hp
  have hln := bornB_len hg
  have bm := inB_iff.1 hm
  have HY := Lib.hid fun w hI => roYear_any b off n c y zs w hl (by omega) hI
  have HM := Lib.hid fun w => l1In_any m 2 100 w
  rw [hp] at HY
  rw [hm] at HM
  have HI := Lib.hid hI
  have HR := Lib.hid fun e w (he : 1 ≤ e) hb hI => roIn_any b off n c y e zs w hl (by omega) he (fun j hj => bornB_at hg j (by omega)) hy hb hI
  have HN := Lib.hid fun e => show (jbL zs y e n).length = jbN zs y e by rw [← hl]; rfl
  have HBS := Lib.hid (bsM_yes (jbN zs y))
  have HBN := Lib.hid (bsM_no (jbN zs y))
  have HCB := Lib.hid (ctM_bd (jbN zs y) (fun e => by have := jbN_le zs y e; omega))
  have HBB := Lib.hid (bsM_bd (jbN zs y))
  have hfe := fun e => (show jbN zs y e ≤ 10 by have := jbN_le zs y e; omega)
  have HFE := Lib.hid hfe
  clear hfe hp hg hl hm
  generalize jbN zs y = f at *
  go_enter Try.func24, Try.ntmps24
  go_wp2_with (first | (go_at_call 37; refine (HY.out _ hI).mono ?_; rintro e w' ⟨rfl, rfl⟩) | (go_at_call 49; refine (HM.out _).mono ?_; rintro e w' ⟨rfl, rfl⟩))
  clear hI
  go_loopw [9, 10, 11] (fun p q i wr => ∃ k : Nat, (k : Int) + 2 ≤ m + 1 ∧ i = .int .i64 ((k : Int) + 2) ∧ p = .int .i64 (bsM f k) ∧ q = .int .i64 (ctM f k) ∧ Below w.heap.size w wr) (fun _ _ i _ => (m + 1 - intOf i).toNat)
  case atStart => exact ⟨0, by omega, rfl, rfl, rfl, Below.refl _ _⟩
  case round =>
    obtain ⟨k, hk, rfl, rfl, rfl, hb⟩ := hrel
    have hsz := hb.size
    have hcb := HCB.out k
    have hbb := HBB.out k
    by_cases hlt : (k : Int) + 2 ≤ m
    · have HRK := Lib.hid (HR.out ((k : Int) + 2) wr (by omega) (by omega) (HI.out.kept hb hbl))
      have hn := HN.out ((k : Int) + 2)
      have hfk := HFE.out ((k : Int) + 2)
      generalize jbL zs y ((k : Int) + 2) n = rs at HRK hn
      by_cases hcmp : ctM f k ≤ ((f ((k : Int) + 2) : Nat) : Int)
      · have HS := Lib.hid (HBS.out k hcmp)
        generalize f ((k : Int) + 2) = F at hn hfk hcmp HS
        generalize ctM f k = C at hcb hcmp HS ⊢
        generalize bsM f k = D at hbb HS ⊢
        go_wp2_with fail
        refine HRK.out.mono ?_
        rintro e w1 ⟨v, rfl, ho, hb1⟩
        have hb2 := hb.trans (hb1.mono hsz)
        have hcs : (v = .slice none 0 0 ∧ F = 0) ∨ ∃ q cq, v = .slice (some ⟨q, 0, none⟩) F cq := by
          rcases ho.cases with ⟨h1, h2⟩ | ⟨q, cq, h1, _⟩
          · exact .inl ⟨h1, by rw [← hn, h2]; rfl⟩
          · exact .inr ⟨q, cq, by rw [← hn]; exact h1⟩
        clear ho hb1 hn
        rcases hcs with ⟨rfl, rfl⟩ | ⟨q, cq, rfl⟩
        all_goals
          go_wp2
          go_roundw
          case rel => exact ⟨k + 1, by omega, by go_num, by rw [HS.out.1], by rw [HS.out.2] <;> rfl, hb2⟩
          case measure => simp [intOf]; omega
      · have HS := Lib.hid (HBN.out k (by omega))
        generalize f ((k : Int) + 2) = F at hn hfk hcmp HS
        generalize ctM f k = C at hcb hcmp HS ⊢
        generalize bsM f k = D at hbb HS ⊢
        go_wp2_with fail
        refine HRK.out.mono ?_
        rintro e w1 ⟨v, rfl, ho, hb1⟩
        have hb2 := hb.trans (hb1.mono hsz)
        have hcs : (v = .slice none 0 0 ∧ F = 0) ∨ ∃ q cq, v = .slice (some ⟨q, 0, none⟩) F cq := by
          rcases ho.cases with ⟨h1, h2⟩ | ⟨q, cq, h1, _⟩
          · exact .inl ⟨h1, by rw [← hn, h2]; rfl⟩
          · exact .inr ⟨q, cq, by rw [← hn]; exact h1⟩
        clear ho hb1 hn
        rcases hcs with ⟨rfl, rfl⟩ | ⟨q, cq, rfl⟩
        all_goals
          go_wp2
          go_roundw
          case rel => exact ⟨k + 1, by omega, by go_num, by rw [HS.out.1], by rw [HS.out.2], hb2⟩
          case measure => simp [intOf]; omega
    · have hkn : (m - 1).toNat = k := by omega
      rw [hkn]
      obtain ⟨C, hC⟩ : ∃ C, ctM f k = C := ⟨_, rfl⟩
      obtain ⟨D, hD⟩ : ∃ D, bsM f k = D := ⟨_, rfl⟩
      rw [hC, hD]
      have HC := Lib.hid hC
      have HD := Lib.hid hD
      clear hC hD hcb hbb
      go_wp2
      go_ret3
      exact ⟨by rw [HC.out, HD.out]; rfl, hb⟩
theorem bestS_no (b off n c : Nat) (y m : Int) (zs : List Int) (w : World) (hl : zs.length = n) (hn : n ≤ 1048576) (hI : Ints w b off zs) (hno : beB zs y m = false) :
    Calls Try.prog 24 #[.slice (some ⟨b, off, none⟩) n c, .int .i64 y, .int .i64 m] w (RetIIB 0 0 false w) := by
  have HY := Lib.hid fun w hI => roYear_any b off n c y zs w hl hn hI
  have HM := Lib.hid fun w => l1In_any m 2 100 w
  unfold beB at hno
  generalize pgB zs y = p at HY hno
  generalize inB m 2 100 = q at HM hno
  cases p with
  | false =>
    go_enter Try.func24, Try.ntmps24
    go_wp2_with (first | (go_at_call 37; refine (HY.out _ hI).mono ?_; rintro e w' ⟨rfl, rfl⟩) | (go_at_call 49; refine (HM.out _).mono ?_; rintro e w' ⟨rfl, rfl⟩))
    go_ret3
    exact ⟨rfl, Below.refl _ _⟩
  | true =>
    rw [Bool.true_and] at hno
    subst hno
    go_enter Try.func24, Try.ntmps24
    go_wp2_with (first | (go_at_call 37; refine (HY.out _ hI).mono ?_; rintro e w' ⟨rfl, rfl⟩) | (go_at_call 49; refine (HM.out _).mono ?_; rintro e w' ⟨rfl, rfl⟩))
    go_ret3
    exact ⟨rfl, Below.refl _ _⟩

set_option maxHeartbeats 1000000 in
theorem bestI_no (b off n c : Nat) (y m : Int) (zs : List Int) (w : World) (hl : zs.length = n) (hn : n ≤ 1048576) (hbl : b < w.heap.size) (hI : Ints w b off zs) (hno : beB zs y m = false) :
    Calls Try.prog 25 #[.slice (some ⟨b, off, none⟩) n c, .int .i64 y, .int .i64 m] w (RetIIB 0 0 false w) := by
  have HM := Lib.hid fun w => isWithin_any m 2 100 w
  cases hp : pgB zs y with
  | false =>
    have HP := Lib.hid (pageIn_no b off n c y zs w hl hn hbl hI hp)
    go_enter Try.func25, Try.ntmps25
    go_wp2_with fail
    refine HP.out.mono ?_
    rintro e w1 ⟨v, rfl, ho, hb⟩
    rcases ho.cases with ⟨rfl, _⟩ | ⟨q, cq, rfl, _⟩
    all_goals
      have HB := Lib.hid hb
      clear ho hb
      go_wp2
      go_ret3
      exact ⟨rfl, HB.out.alloc HB.out.size _⟩
  | true =>
    unfold beB at hno
    rw [hp, Bool.true_and] at hno
    rw [hno] at HM
    have HP := Lib.hid (pageIn_yes b off n c y zs w hl hbl hI hp)
    generalize pgL zs y n = ps at HP
    go_enter Try.func25, Try.ntmps25
    go_wp2_with fail
    refine HP.out.mono ?_
    rintro e w1 ⟨v, rfl, ho, hb⟩
    rcases ho.cases with ⟨rfl, _⟩ | ⟨q, cq, rfl, _⟩
    all_goals
      have HB := Lib.hid hb
      clear ho hb
      go_wp2_with (go_at_call 35; refine (HM.out _).mono ?_; rintro e w' ⟨rfl, rfl⟩)
      go_ret3
      exact ⟨rfl, HB.out.alloc HB.out.size _⟩

/-- What the loop over the numbers keeps: the page's variable. -/
structure BeSt (y : Int) (v : Value) (ps : List Dt) (w : World) (B g : Nat) (wr : World) : Prop where
  below : Below w.heap.size w wr
  own : OwnD 55 B wr v ps
  c0 : wr.cell? ⟨g, 0, none⟩ = some (.int .i64 y)
  c1 : wr.cell? ⟨g, 1, none⟩ = some v
theorem BeSt.drew {y : Int} {v : Value} {ps : List Dt} {w wr : World} {B g : Nat} (h : BeSt y v ps w B g wr) : BeSt y v ps w B g wr.drew :=
  ⟨h.below.drew, h.own.drew, by simpa using h.c0, by simpa using h.c1⟩
theorem BeSt.kept {y : Int} {v : Value} {ps : List Dt} {w wr w2 : World} {B g : Nat} (h : BeSt y v ps w B g wr) (hb : Below wr.heap.size wr w2) : BeSt y v ps w B g w2 :=
  ⟨h.below.trans (hb.mono h.below.size), h.own.kept hb, below_cell2 hb h.c0, below_cell2 hb h.c1⟩

end Go.Proofs.Ytadfojjglceheaa
