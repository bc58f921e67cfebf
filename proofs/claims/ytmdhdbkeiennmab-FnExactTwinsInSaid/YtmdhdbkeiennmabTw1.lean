/- TwinsIn: both texts. -/
import Derived.Test.YtmdhdbkeiennmabSi4
set_option linter.unusedVariables false
set_option linter.unusedSimpArgs false
namespace Go.Proofs.Ytmdhdbkeiennmab
open Go.RowKit

/-- Of each number how many others are like it. -/
def twL (zs : List Int) : List Int → Int
  | [] => 0
  | a :: s => (cntL a zs - 1) + twL zs s
theorem twL_append (zs s t : List Int) : twL zs (s ++ t) = twL zs s + twL zs t := by
  induction s with
  | nil => simp [twL]
  | cons x s ih => simp [twL, ih, Int.add_assoc]
theorem twL_take (zs l : List Int) (k : Nat) (hk : k < l.length) : twL zs (l.take (k + 1)) = twL zs (l.take k) + (cntL (l.getD k 0) zs - 1) := by
  rw [List.take_succ_eq_append_getElem hk, twL_append]
  simp [twL, List.getElem?_eq_getElem hk]
theorem twL_bd (zs : List Int) (h4 : zs.length ≤ 4) (l : List Int) : -(l.length : Int) ≤ twL zs l ∧ twL zs l ≤ 3 * (l.length : Int) := by
  induction l with
  | nil => simp [twL]
  | cons a l ih =>
    have := cntL_bd a zs
    simp only [twL, List.length_cons]; omega
def pairTo (zs : List Int) : Nat → Int
  | 0 => 0
  | k + 1 => pairTo zs k + cntL (zs.getD k 0) (zs.take k)
theorem pairTo_bd (zs : List Int) : ∀ k, 0 ≤ pairTo zs k ∧ pairTo zs k ≤ (k : Int) * (zs.length : Int)
  | 0 => by simp [pairTo]
  | k + 1 => by
    have h1 := pairTo_bd zs k
    have h2 := cntL_bd (zs.getD k 0) (zs.take k)
    have h3 : ((zs.take k).length : Int) ≤ (zs.length : Int) := by simp; omega
    have e : ((k + 1 : Nat) : Int) * (zs.length : Int) = (k : Int) * (zs.length : Int) + (zs.length : Int) := by simp [Int.add_mul]
    unfold pairTo
    rw [e]
    omega
theorem twins_eq {zs : List Int} (h1 : 1 ≤ zs.length) (h4 : zs.length ≤ 4) : twL zs zs = 2 * pairTo zs zs.length := by
  match zs, h1, h4 with
  | [a], _, _ => simp [twL, pairTo, cntL, eqI_self]
  | [a, b], _, _ =>
    simp [twL, pairTo, cntL, eqI_self]
    rw [eqI_comm b a]; omega
  | [a, b, c], _, _ =>
    simp [twL, pairTo, cntL, eqI_self]
    rw [eqI_comm b a, eqI_comm c a, eqI_comm c b]; omega
  | [a, b, c, d], _, _ =>
    simp [twL, pairTo, cntL, eqI_self]
    rw [eqI_comm b a, eqI_comm c a, eqI_comm c b, eqI_comm d a, eqI_comm d b, eqI_comm d c]; omega

set_option maxHeartbeats 1600000 in
theorem twinOne_any (x : Int) (qs b n c : Nat) (zs : List Int) (w : World) (hl : zs.length = n) (hn : n ≤ 4) (hbl : b < w.heap.size) (hI : Ints w b 0 zs) (hq : w.cell? ⟨qs, 0, none⟩ = some (.slice (some ⟨b, 0, none⟩) n c)) :
    Calls Try.prog 49 #[.int .i64 x, .pointer (some ⟨qs, 0, none⟩)] w (Ret (.int .i64 (cntL x zs - 1)) w) := by
  have HC := Lib.hid (childrenOfAge_any b 0 n c zs x w hl (by omega) hbl hI)
  have hb := cntL_bd x zs
  have hb2 : 0 ≤ cntL x zs ∧ cntL x zs ≤ 4 := by omega
  clear hI hb
  generalize cntL x zs = y at HC hb2 ⊢
  go_enter Try.func49, Try.ntmps49
  go_wp2_with (go_at_call 50; refine HC.out.mono ?_; rintro e w' ⟨rfl, hb⟩)
  go_ret
  exact ⟨rfl, hb⟩
set_option maxHeartbeats 4000000 in
theorem sumOverTwins_any (qs b n c : Nat) (zs : List Int) (w : World) (hl : zs.length = n) (hn : n ≤ 4) (hbl : b < w.heap.size) (hI : Ints w b 0 zs) (hq : w.cell? ⟨qs, 0, none⟩ = some (.slice (some ⟨b, 0, none⟩) n c)) :
    Calls Try.prog 48 #[.slice (some ⟨b, 0, none⟩) n c, .func (.func 49) #[] #[.pointer (some ⟨qs, 0, none⟩)]] w (Ret (.int .i64 (twL zs zs)) w) := by
  have HK := Lib.hid (fun k => twL_bd zs (by omega) (zs.take k))
  have HT := Lib.hid (fun k h => twL_take zs zs k h)
  have HE := Lib.hid (show twL zs (zs.take n) = twL zs zs by rw [← hl, List.take_length])
  have HL := Lib.hid hl
  have HC := Lib.hid (fun (x : Int) (W : World) (hb : Below w.heap.size w W) => twinOne_any x qs b n c zs W hl hn (Nat.lt_of_lt_of_le hbl hb.size) (hI.kept hb hbl) (below_cells2 hb hq))
  have HB := Lib.hid (fun x => cntL_bd x zs)
  have HI := Lib.hid hI
  clear hl hq hI
  go_enter Try.func48, Try.ntmps48
  go_wp2
  go_loopw [5, 10] (fun s v wr => ∃ k : Nat, k ≤ n ∧ v = .int .i64 k ∧ s = .int .i64 (twL zs (zs.take k)) ∧ Below w.heap.size w wr) (fun _ v _ => n - (intOf v).toNat)
  case atStart => exact ⟨0, Nat.zero_le _, rfl, rfl, Below.refl _ _⟩
  case round =>
    obtain ⟨k, hkn, rfl, rfl, hb⟩ := hrel
    have hs := HK.out k
    have htl : (zs.take k).length ≤ 4 := by have := HL.out; simp; omega
    by_cases hlt : k < n
    · have hc := (HI.out.kept hb hbl) k (by rw [HL.out]; exact hlt)
      rw [Nat.zero_add] at hc
      have HS := Lib.hid (HT.out k (by rw [HL.out]; exact hlt))
      have hcb := HB.out (zs.getD k 0)
      generalize zs.getD k 0 = x at hc HS hcb
      have HCx := Lib.hid (HC.out x wr hb)
      have hcb2 : 0 ≤ cntL x zs ∧ cntL x zs ≤ 4 := by have := HL.out; omega
      generalize cntL x zs = ex at HS hcb2 HCx
      have hs2 : -4 ≤ twL zs (zs.take k) ∧ twL zs (zs.take k) ≤ 12 := by omega
      generalize twL zs (zs.take k) = s at hs2 HS ⊢
      clear hs htl hcb
      go_wp2_with (go_at_call 49; refine HCx.out.mono ?_; rintro e w' ⟨rfl, hb2⟩)
      go_roundw
      case rel => exact ⟨k + 1, by omega, by go_num, by rw [HS.out], hb.trans (hb2.mono hb.size)⟩
      case measure => simp [intOf]; omega
    · have hkn2 : k = n := by omega
      subst hkn2
      rw [HE.out]
      clear hs htl
      go_wp2
      go_ret
      exact ⟨rfl, hb⟩
set_option maxHeartbeats 4000000 in
theorem imTwins_any (b c : Nat) (zs : List Int) (w : World) (hn : zs.length ≤ 1048576) (hbl : b < w.heap.size) (hI : Ints w b 0 zs) :
    Calls Try.prog 22 #[.slice (some ⟨b, 0, none⟩) zs.length c] w (RetIB (if setB zs then pairTo zs zs.length else 0) (setB zs) w) := by
  have H := Lib.hid (fun (W : World) (hb : Below w.heap.size w W) => isSet_any b 0 zs.length c zs W rfl hn (hI.kept hb hbl))
  cases h : setB zs with
  | false =>
    rw [h] at H
    rw [if_neg (by simp)]
    clear hI h
    go_enter Try.func22, Try.ntmps22
    go_wp2_with (go_at_call 15; refine (H.out _ ((Below.refl w.heap.size w).alloc (Nat.le_refl _) _)).mono ?_; rintro e w' ⟨rfl, hb⟩)
    go_ret2
    exact ⟨rfl, Below.trans ((Below.refl w.heap.size w).alloc (Nat.le_refl _) (.cells #[.slice (some ⟨b, 0, none⟩) zs.length c] 22)) (hb.mono (by simp))⟩
  | true =>
    obtain ⟨h1, h2, h3⟩ := setB_parts h
    rw [h] at H
    rw [if_pos rfl]
    have hte := twins_eq h1.1 h1.2
    have hpb := pairTo_bd zs zs.length
    have HB0 := Lib.hid (show Below w.heap.size w (w.alloc (.cells #[.slice (some ⟨b, 0, none⟩) zs.length c] 22)) from (Below.refl w.heap.size w).alloc (Nat.le_refl _) _)
    have HO := Lib.hid (fun (W : World) (hb : Below w.heap.size w W) (hq : W.cell? ⟨w.heap.size, 0, none⟩ = some (.slice (some ⟨b, 0, none⟩) zs.length c)) => sumOverTwins_any w.heap.size b zs.length c zs W rfl h1.2 (Nat.lt_of_lt_of_le hbl hb.size) (hI.kept hb hbl) hq)
    have hp16 : 0 ≤ pairTo zs zs.length ∧ pairTo zs zs.length ≤ 16 := by
      refine ⟨hpb.1, Int.le_trans hpb.2 ?_⟩
      have : (zs.length : Int) * (zs.length : Int) ≤ 4 * 4 := Int.mul_le_mul (by omega) (by omega) (by omega) (by omega)
      omega
    rw [hte] at HO
    generalize pairTo zs zs.length = p at HO hp16 ⊢
    have hd : (2 * p).tdiv 2 = p := by rw [Int.tdiv_eq_ediv_of_nonneg (by omega)]; omega
    have HB2 := Lib.hid (fun (W1 : World) (hb : Below (w.alloc (.cells #[.slice (some ⟨b, 0, none⟩) zs.length c] 22)).heap.size (w.alloc (.cells #[.slice (some ⟨b, 0, none⟩) zs.length c] 22)) W1) => (show Below w.heap.size w W1 ∧ W1.cell? ⟨w.heap.size, 0, none⟩ = some (.slice (some ⟨b, 0, none⟩) zs.length c) from ⟨HB0.out.trans (hb.mono HB0.out.size), below_cells2 hb (boxC (box_newC rfl))⟩))
    clear hI h h2 h3 hte hpb
    go_enter Try.func22, Try.ntmps22
    go_wp2_with (first | (go_at_call 15; refine (H.out _ HB0.out).mono ?_; rintro e w1 ⟨rfl, hb⟩; obtain ⟨hb1, hq1⟩ := HB2.out w1 hb) | (go_at_call 48; refine (HO.out _ hb1 hq1).mono ?_; rintro e w2 ⟨rfl, hb2⟩))
    go_ret2
    exact ⟨by go_num, hb1.trans (hb2.mono hb1.size)⟩
set_option maxHeartbeats 4000000 in
theorem spTwins_any (b c : Nat) (zs : List Int) (w : World) (hn : zs.length ≤ 1048576) (hc : zs.length ≤ c) (hbl : b < w.heap.size) (hI : Ints w b 0 zs) :
    Calls Try.prog 21 #[.slice (some ⟨b, 0, none⟩) zs.length c] w (RetIB (if setB zs then pairTo zs zs.length else 0) (setB zs) w) := by
  have H := Lib.hid (siGood_any b 0 zs.length c zs w rfl hn hI)
  cases h : setB zs with
  | false =>
    rw [h] at H
    rw [if_neg (by simp)]
    clear hI h
    go_enter Try.func21, Try.ntmps21
    go_wp2_with (go_at_call 40; refine H.out.mono ?_; rintro e w' ⟨rfl, hb⟩)
    go_ret2
    exact ⟨rfl, hb⟩
  | true =>
    obtain ⟨h1, h2, h3⟩ := setB_parts h
    rw [h] at H
    rw [if_pos rfl]
    have HI := Lib.hid hI
    have HP := Lib.hid (fun k => pairTo_bd zs k)
    have HPs := Lib.hid (fun k => (show pairTo zs (k + 1) = pairTo zs k + cntL (zs.getD k 0) (zs.take k) from rfl))
    have HC := Lib.hid (fun a k hk => cntL_take a zs k hk)
    have HCb := Lib.hid (fun a k => cntL_bd a (zs.take k))
    clear hI h h2 h3
    go_enter Try.func21, Try.ntmps21
    go_wp2_with (go_at_call 40; refine H.out.mono ?_; rintro e w1 ⟨rfl, hb1⟩)
    have HIw := Lib.hid (fun k (hk : k < zs.length) => (show w1.cell? ⟨b, k, none⟩ = some (.int .i64 (zs.getD k 0)) from by
      have := (HI.out.kept hb1 hbl) k hk
      rwa [Nat.zero_add] at this))
    go_loop [4, 14] (fun s v => ∃ k : Nat, k ≤ zs.length ∧ v = .int .i64 k ∧ s = .int .i64 (pairTo zs k)) (fun _ v => zs.length - (intOf v).toNat)
    case atStart => exact ⟨0, Nat.zero_le _, rfl, rfl⟩
    case round =>
      obtain ⟨k, hk, rfl, rfl⟩ := hrel
      have hpk := HP.out k
      have hpk2 : 0 ≤ pairTo zs k ∧ pairTo zs k ≤ 16 := by
        refine ⟨hpk.1, Int.le_trans hpk.2 ?_⟩
        have : (k : Int) * (zs.length : Int) ≤ 4 * 4 := Int.mul_le_mul (by omega) (by omega) (by omega) (by omega)
        omega
      clear hpk
      by_cases hlt : k < zs.length
      · have hcx := HIw.out k hlt
        have HS := Lib.hid (HPs.out k)
        generalize pairTo zs k = p at hpk2 HS ⊢
        generalize zs.getD k 0 = a at hcx HS
        have HCa := Lib.hid (fun j hj => HC.out a j hj)
        have HCab := Lib.hid (fun j => HCb.out a j)
        have i1 : (0 : Int) ≤ (k : Int) := by omega
        have i2 : (k : Int) ≤ (c : Int) := by omega
        go_wp2
        go_loop [4, 23] (fun s v => ∃ j : Nat, j ≤ k ∧ v = .int .i64 j ∧ s = .int .i64 (p + cntL a (zs.take j))) (fun _ v => k - (intOf v).toNat)
        case atStart => exact ⟨0, Nat.zero_le _, rfl, by simp [cntL]⟩
        case round =>
          obtain ⟨j, hj, rfl, rfl⟩ := hrel
          have hcb := HCab.out j
          have hjl : (zs.take j).length ≤ 4 := by simp; omega
          have hcb2 : 0 ≤ cntL a (zs.take j) ∧ cntL a (zs.take j) ≤ 4 := by omega
          clear hcb hjl
          by_cases hjk : j < k
          · have hcj := HIw.out j (by omega)
            have HS2 := Lib.hid (HCa.out j (by omega))
            generalize zs.getD j 0 = y at hcj HS2
            generalize cntL a (zs.take j) = q at hcb2 HS2 ⊢
            by_cases hay : a = y
            · have e : eqI y a = 1 := if_pos hay.symm
              rw [e] at HS2
              have hd : (a == y) = true := beq_iff_eq.2 hay
              have hd2 : decide (a = y) = true := decide_eq_true hay
              clear hay e
              go_wp2
              go_round
              case rel => exact ⟨j + 1, by omega, by go_num, by rw [HS2.out]; go_num⟩
              case measure => simp [intOf]; omega
            · have e : eqI y a = 0 := if_neg (Ne.symm hay)
              rw [e] at HS2
              have hd : (a == y) = false := beq_eq_false_iff_ne.2 hay
              have hd2 : decide (a = y) = false := decide_eq_false hay
              clear e
              go_wp2
              go_round
              case rel => exact ⟨j + 1, by omega, by go_num, by rw [HS2.out]; go_num⟩
              case measure => simp [intOf]; omega
          · have hjk2 : j = k := by omega
            subst hjk2
            have HS3 := Lib.hid HS.out
            generalize cntL a (zs.take j) = q at hcb2 HS3 ⊢
            clear HS
            go_wp2
            go_round
            case rel => exact ⟨j + 1, by omega, by go_num, by rw [HS3.out]⟩
            case measure => simp [intOf]; omega
      · have hkn : k = zs.length := by omega
        subst hkn
        go_wp2
        go_ret2
        exact ⟨rfl, hb1⟩
theorem twinsIn_both (zs : List Int) : ∃ r ok,
    (∀ b c w, zs.length ≤ 1048576 → zs.length ≤ c → b < w.heap.size → Ints w b 0 zs → Calls Try.prog 21 #[.slice (some ⟨b, 0, none⟩) zs.length c] w (RetIB r ok w)) ∧
    (∀ b c w, zs.length ≤ 1048576 → zs.length ≤ c → b < w.heap.size → Ints w b 0 zs → Calls Try.prog 22 #[.slice (some ⟨b, 0, none⟩) zs.length c] w (RetIB r ok w)) :=
  ⟨_, _, fun b c w hn hc hbl hI => spTwins_any b c zs w hn hc hbl hI, fun b c w hn hc hbl hI => imTwins_any b c zs w hn hbl hI⟩
end Go.Proofs.Ytmdhdbkeiennmab
