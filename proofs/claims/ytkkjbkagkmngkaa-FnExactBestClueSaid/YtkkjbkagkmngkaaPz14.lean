/- A clue left out: both texts. -/
import Derived.Test.YtkkjbkagkmngkaaCk
import Derived.Deep.RegionHeld3
import Derived.StillTailTactics
import Derived.Deep.RegionWith
set_option linter.unusedVariables false
set_option linter.unusedSimpArgs false
namespace Go.Proofs.Ytkkjbkagkmngkaa
open Go.RowKit

theorem erase_eq (ds : List Kn) (k : Nat) : ds.eraseIdx k = ds.take k ++ ds.drop (k + 1) := List.eraseIdx_eq_take_drop_succ ds k
theorem argK_take {w : World} {b n : Nat} {ds : List Kn} (hl : ds.length = n) (hbl : b < w.heap.size) (hI : Kns w b 0 ds) (k : Nat) (hk : k ≤ n) : ArgK w (some ⟨b, 0, none⟩) k (ds.take k) :=
  ⟨by simp; omega, .inr ⟨b, 0, rfl, hbl, hI.take k⟩⟩
theorem argK_drop {w : World} {b n : Nat} {ds : List Kn} (hl : ds.length = n) (hbl : b < w.heap.size) (hI : Kns w b 0 ds) (k : Nat) (hk : k ≤ n) : ArgK w (some ⟨b, k * 3, none⟩) (n - k) (ds.drop k) :=
  ⟨by simp; omega, .inr ⟨b, k * 3, rfl, hbl, by have := hI.drop k; rwa [Nat.zero_add] at this⟩⟩
theorem argK_none {w : World} {ad : Addr} {n : Nat} {ds : List Kn} (hl : ds.length ≤ n) : ArgK w (some ad) 0 (ds.drop n) :=
  ⟨by simp; omega, .inl rfl⟩

set_option maxHeartbeats 4000000 in
theorem withoutClue_any (b n c k : Nat) (ds : List Kn) (w : World) (hl : ds.length = n) (h6 : n ≤ 10) (hk : k < n) (hc : n ≤ c) (hbl : b < w.heap.size) (hI : Kns w b 0 ds) :
    Calls Try.prog 65 #[.slice (some ⟨b, 0, none⟩) n c, .int .i64 k] w (RetOwnK (ds.eraseIdx k) w) := by
  have w0 : (0 : Int) ≤ (k : Int) := by omega
  have w1 : (k : Int) ≤ (c : Int) := by omega
  have w2 : (k : Int) + 1 ≤ (n : Int) := by omega
  have w3 : IntKind.i64.wrap ((k : Int) + 1) = (k : Int) + 1 := IntWalk.i64_in _ (by omega)
  have w4 : (0 : Int) ≤ (k : Int) + 1 := by omega
  have w5 : ((k : Int) + 1).toNat = k + 1 := by omega
  have HE := Lib.hid (erase_eq ds k)
  by_cases hcw : c = k + 1
  · have hnk : n = k + 1 := by omega
    have HC := Lib.hid (fun (W : World) (q : Nat) (c1 c2 : Nat) (hb : Below w.heap.size w W) h0 h1 => concatS_any q k c1 0 c2 ⟨b, 0, none⟩ ⟨b, 0, none⟩ (ds.take k) (ds.drop (k + 1)) W (by omega) (by omega) h0 h1 ((argK_take hl hbl hI k (by omega)).kept hb) (argK_none (by omega)))
    rw [← HE.out] at HC
    clear hI hl HE
    subst hcw
    subst hnk
    clear w1 w2
    have w1 : (k : Int) ≤ (k : Int) + 1 := by omega
    go_enter Try.func65, Try.ntmps65
    go_wp2_with fail
    go_still_tail 7, (by kernel_rfl)
    change wpList _ _ _ _ _ w.drew
    have HB := Lib.hid (show Below w.heap.size w w.drew from (Below.refl _ _).drew)
    generalize w.drew = wd at HB ⊢
    go_wp2_with fail
    refine (HC.out _ wd.heap.size (k + 1) 0 (HB.out.alloc HB.out.size _) (by simp [go_sem]) (by simp [go_sem])).mono ?_
    rintro e w2 ⟨v, rfl, ho, hb2⟩
    have hbA := (HB.out.alloc HB.out.size (.cells #[.slice (some ⟨b, 0, none⟩) k (k + 1), .slice (some ⟨b, 0, none⟩) 0 0] 27))
    have hb' := hbA.trans (hb2.mono hbA.size)
    go_wp2_with fail
    go_ret
    exact ⟨v, rfl, ho.mono hbA.size, hb'⟩
  · have hcw2 : ¬ ((c : Int) = (k : Int) + 1) := by omega
    have hcw3 : ¬ (k + 1 = c) := by omega
    have hcw4 : ¬ (c = k + 1) := hcw
    have HC := Lib.hid (fun (W : World) (q : Nat) (c1 c2 : Nat) (hb : Below w.heap.size w W) h0 h1 => concatS_any q k c1 (n - (k + 1)) c2 ⟨b, 0, none⟩ ⟨b, (k + 1) * 3, none⟩ (ds.take k) (ds.drop (k + 1)) W (by omega) (by omega) h0 h1 ((argK_take hl hbl hI k (by omega)).kept hb) ((argK_drop hl hbl hI (k + 1) (by omega)).kept hb))
    rw [← HE.out] at HC
    clear hI hl HE
    go_enter Try.func65, Try.ntmps65
    go_wp2_with fail
    go_still_tail 7, (by kernel_rfl)
    change wpList _ _ _ _ _ w.drew
    have HB := Lib.hid (show Below w.heap.size w w.drew from (Below.refl _ _).drew)
    generalize w.drew = wd at HB ⊢
    go_wp2_with fail
    refine (HC.out _ wd.heap.size c (c - (k + 1)) (HB.out.alloc HB.out.size _) (by simp [go_sem]) (by simp [go_sem])).mono ?_
    rintro e w2 ⟨v, rfl, ho, hb2⟩
    have hbA := (HB.out.alloc HB.out.size (.cells #[.slice (some ⟨b, 0, none⟩) k c, .slice (some ⟨b, (k + 1) * 3, none⟩) (n - (k + 1)) (c - (k + 1))] 27))
    have hb' := hbA.trans (hb2.mono hbA.size)
    go_wp2_with fail
    go_ret
    exact ⟨v, rfl, ho.mono hbA.size, hb'⟩

theorem step_append_mine {P : Program} {w : World} {ops : Array Oper} {o : Oper} {a : Act} {K : Act → World → Prop} {Q : Exit → Act → World → Prop} {E : Prop} (hgd : o.guard = none) (s x : Operand) (t : TypeId)
    (ho : o.op = .call { callee := .builtin .append, args := #[s, x], argTypes := #[t, t] })
    (base : Nat) (e : TypeId) (i : TypeInfo) (z : Value) (size bytes : Nat) (ht : P.underlying t = some (.slice e)) (hi : P.info? e = some i) (hz : i.zero = some z)
    (hsize : i.size = size) (hby : i.bytes = bytes) (hzs : z.cells.size = size) (hsz : 0 < size)
    (v : Value) (n : Nat) (xs : List Value) (hs : a.eval s = v) (hown : w.ownsRow base e size v n xs)
    (ad : Addr) (m c : Nat) (news : List Value) (hx : a.eval x = .slice (some ad) m c) (hl : news.length = m * size) (hnews : ∀ j u, news[j]? = some u → w.cell? (ad.add j) = some u) (h1 : ∀ u ∈ news, u.oneCell' = true)
    (h63 : n + m ≤ maxLen) (hbytes : (n + m) * bytes ≤ 140737488355328) (hbase : base ≤ w.heap.size)
    (h : ∀ v' w', w'.ownsRow base e size v' (n + m) (xs ++ news) → w.grownBy w' v.ownBlock → K (a.put o.dst v') w') :
    if Region.wanted o (yielded ops a.tmps) = true then Oper.wp P o a w K Q else E := by
  have hw : Region.wanted o (yielded ops a.tmps) = true := by simp [Region.wanted, hgd]
  rw [if_pos hw]
  exact wp_append_own w s x t ho base e i z size bytes ht hi hz hsize hby hzs hsz v n xs hs hown ad m c news hx hl hnews h1 h63 hbytes hbase fun v' w' h2 h3 _ => h v' w' h2 h3


set_option maxHeartbeats 4000000 in
theorem pzWithout_any (b n c k : Nat) (ds : List Kn) (w : World) (hl : ds.length = n) (h6 : n ≤ 10) (hk : k < n) (hc : n ≤ c) (hbl : b < w.heap.size) (hI : Kns w b 0 ds) :
    Calls Try.prog 63 #[.slice (some ⟨b, 0, none⟩) n c, .int .i64 k] w (RetOwnK (ds.eraseIdx k) w) := by
  obtain ⟨i0, hi, hz0, hz1, hz2⟩ := info_parts infoClue
  have w0 : (0 : Int) ≤ (k : Int) := by omega
  have w1 : (k : Int) ≤ (c : Int) := by omega
  have w2 : (k : Int) + 1 ≤ (n : Int) := by omega
  have w3 : IntKind.i64.wrap ((k : Int) + 1) = (k : Int) + 1 := IntWalk.i64_in _ (by omega)
  have w4 : (0 : Int) ≤ (k : Int) + 1 := by omega
  have w5 : ((k : Int) + 1).toNat = k + 1 := by omega
  have HE := Lib.hid (erase_eq ds k)
  have HT := Lib.hid (show (ds.take k).length = k by simp; omega)
  have HD := Lib.hid (show (ds.drop (k + 1)).length = n - (k + 1) by simp; omega)
  have HL1 := Lib.hid (show (flatK (ds.take k)).length = k * 3 by rw [flatK_length, HT.out])
  have HBA := Lib.hid ((Below.refl w.heap.size w).drew.alloc (Nat.le_refl _) (.cells #[] 54))
  have HN1 := Lib.hid (kns_cells ((hI.take k).kept HBA.out hbl))
  have HU1 := Lib.hid (kns_oneCell (ds.take k))
  have HO := Lib.hid (World.ownsRow_lit (base := w.heap.size) (size := 3) (e := 54) w.drew #[] 0 (Nat.le_refl _) (by unfold maxLen; omega) rfl)
  by_cases hcw : c = k + 1
  · have hnk : n = k + 1 := by omega
    have HX0 := Lib.hid (show ds.drop (k + 1) = [] from List.drop_of_length_le (by omega))
    have HU2 := Lib.hid (show ∀ u ∈ ([] : List Value), u.oneCell' = true from fun u h => by simp at h)
    subst hcw
    subst hnk
    clear w1 w2 hI
    have w1 : (k : Int) ≤ (k : Int) + 1 := by omega
    go_enter Try.func63, Try.ntmps63
    go_wp2_with fail
    refine wp_region_any (by kernel_rfl) ?_
    change wpAny _ _ _ _ _ _ _ (World.drew _)
    refine wpAny_take (i := 1) (v := ?_) rfl (by kernel_rfl) (by kernel_rfl) (by kernel_rfl) (fun _ _ _ h => h) (Or.inl ⟨by rfl, ?_⟩) ?_
    rotate_left
    · intro w; go_simp; first | done | with_reducible rfl
    refine wpAny_take (i := 2) (v := ?_) rfl (by kernel_rfl) (by kernel_rfl) (by kernel_rfl) (fun _ _ _ h => h) (Or.inl ⟨by rfl, ?_⟩) ?_
    rotate_left
    · intro w; go_simp; first | done | with_reducible rfl
    refine wpAny_take (i := 3) (v := ?_) rfl (by kernel_rfl) (by kernel_rfl) (by kernel_rfl) (fun _ _ _ h => h) (Or.inl ⟨by rfl, ?_⟩) ?_
    rotate_left
    · intro w; go_simp; first | done | with_reducible rfl
    refine wpAny_take (i := 5) (v := ?_) rfl (by kernel_rfl) (by kernel_rfl) (by kernel_rfl) (fun _ _ _ h => h) (Or.inl ⟨by rfl, ?_⟩) ?_
    rotate_left
    · intro w; go_simp; first | done | with_reducible rfl
    refine wpAny_take (i := 6) (v := ?_) rfl (by kernel_rfl) (by kernel_rfl) (by kernel_rfl) (fun _ _ _ h => h) (Or.inl ⟨by rfl, ?_⟩) ?_
    rotate_left
    · intro w; go_simp; first | done | with_reducible rfl
    refine wpAny_take (i := 7) (v := ?_) rfl (by kernel_rfl) (by kernel_rfl) (by kernel_rfl) (fun _ _ _ h => h) (Or.inl ⟨by rfl, ?_⟩) ?_
    rotate_left
    · intro w; go_simp; first | done | with_reducible rfl
    refine wpAny_take (i := 8) (v := ?_) rfl (by kernel_rfl) (by kernel_rfl) (by kernel_rfl) (fun _ _ _ h => h) (Or.inl ⟨by rfl, ?_⟩) ?_
    rotate_left
    · intro w; go_simp; first | done | with_reducible rfl
    refine wpAny_ready (rs := [0]) (by kernel_rfl) (by simp) ?_
    refine AllReady.cons rfl (fun K hK => ?_) AllReady.nil
    go_simp
    refine hK _ _ ?_
    clear hK K
    refine wpAny_ready (rs := [4]) (by kernel_rfl) (by simp) ?_
    refine AllReady.cons rfl (fun K hK => ?_) AllReady.nil
    refine step_append_mine (by rfl) _ _ 27 (by rfl) w.heap.size 54 i0 _ 3 24 Try.underlying27 hi hz0 hz1 hz2 rfl (by decide) _ 0 [] (by rfl) HO.out ⟨b, 0, none⟩ k _ (flatK (ds.take k)) (by rfl) HL1.out HN1.out HU1.out (by unfold maxLen; omega) (by omega) (by simp) ?_
    intro u2 w2 hown2 hgrow2
    have hb2 := HBA.out.grown hgrow2 (by simp) (by intro k hk; simp [Value.ownBlock] at hk; omega)
    refine hK _ _ ?_
    clear hK K hgrow2
    have HN2 := Lib.hid (show ∀ j u, ([] : List Value)[j]? = some u → w2.cell? ((⟨b, 0, none⟩ : Addr).add j) = some u from fun j u h => by simp at h)
    refine wpAny_ready (rs := [9]) (by kernel_rfl) (by simp) ?_
    refine AllReady.cons rfl (fun K hK => ?_) AllReady.nil
    refine step_append_mine (by rfl) _ _ 27 (by rfl) w.heap.size 54 i0 _ 3 24 Try.underlying27 hi hz0 hz1 hz2 rfl (by decide) u2 _ _ (by rfl) hown2 ⟨b, 0, none⟩ 0 0 [] (by rfl) rfl HN2.out HU2.out (by unfold maxLen; omega) (by omega) hb2.size ?_
    intro u3 w3 hown3 hgrow3
    have hblk : ∀ k, u2.ownBlock = some k → w.heap.size ≤ k := fun k hk => (World.ownsRow.lt hown2 k hk).1
    have hb3 := hb2.grown hgrow3 hb2.size hblk
    refine hK _ _ ?_
    clear hK K hgrow3 hblk
    refine wpAny_ready (rs := [10]) (by kernel_rfl) (by simp) ?_
    refine AllReady.cons rfl (fun K hK => ?_) AllReady.nil
    go_simp
    refine hK _ _ ?_
    clear hK K
    refine wpAny_done (by kernel_rfl) ?_ _
    have ho3 : OwnK w.heap.size w3 u3 (ds.eraseIdx k) := by
      unfold OwnK
      rw [HE.out, HX0.out, List.append_nil, HT.out]
      simpa [flatK] using hown3
    go_wp2_with fail
    go_ret
    exact ⟨_, rfl, ho3, hb3⟩
  · have hcw2 : ¬ ((c : Int) = (k : Int) + 1) := by omega
    have hcw3 : ¬ (k + 1 = c) := by omega
    have hcw4 : ¬ (c = k + 1) := hcw
    have HU2 := Lib.hid (kns_oneCell (ds.drop (k + 1)))
    have HL2 := Lib.hid (show (flatK (ds.drop (k + 1))).length = (n - (k + 1)) * 3 by rw [flatK_length, HD.out])
    have HK2 := Lib.hid (fun (W : World) (hb : Below w.heap.size w W) => kns_cells (show Kns W b ((k + 1) * 3) (ds.drop (k + 1)) from by have := (hI.kept hb hbl).drop (k + 1); rwa [Nat.zero_add] at this))
    clear hI
    go_enter Try.func63, Try.ntmps63
    go_wp2_with fail
    refine wp_region_any (by kernel_rfl) ?_
    change wpAny _ _ _ _ _ _ _ (World.drew _)
    refine wpAny_take (i := 1) (v := ?_) rfl (by kernel_rfl) (by kernel_rfl) (by kernel_rfl) (fun _ _ _ h => h) (Or.inl ⟨by rfl, ?_⟩) ?_
    rotate_left
    · intro w; go_simp; first | done | with_reducible rfl
    refine wpAny_take (i := 2) (v := ?_) rfl (by kernel_rfl) (by kernel_rfl) (by kernel_rfl) (fun _ _ _ h => h) (Or.inl ⟨by rfl, ?_⟩) ?_
    rotate_left
    · intro w; go_simp; first | done | with_reducible rfl
    refine wpAny_take (i := 3) (v := ?_) rfl (by kernel_rfl) (by kernel_rfl) (by kernel_rfl) (fun _ _ _ h => h) (Or.inl ⟨by rfl, ?_⟩) ?_
    rotate_left
    · intro w; go_simp; first | done | with_reducible rfl
    refine wpAny_take (i := 5) (v := ?_) rfl (by kernel_rfl) (by kernel_rfl) (by kernel_rfl) (fun _ _ _ h => h) (Or.inl ⟨by rfl, ?_⟩) ?_
    rotate_left
    · intro w; go_simp; first | done | with_reducible rfl
    refine wpAny_take (i := 6) (v := ?_) rfl (by kernel_rfl) (by kernel_rfl) (by kernel_rfl) (fun _ _ _ h => h) (Or.inl ⟨by rfl, ?_⟩) ?_
    rotate_left
    · intro w; go_simp; first | done | with_reducible rfl
    refine wpAny_take (i := 7) (v := ?_) rfl (by kernel_rfl) (by kernel_rfl) (by kernel_rfl) (fun _ _ _ h => h) (Or.inl ⟨by rfl, ?_⟩) ?_
    rotate_left
    · intro w; go_simp; first | done | with_reducible rfl
    refine wpAny_take (i := 8) (v := ?_) rfl (by kernel_rfl) (by kernel_rfl) (by kernel_rfl) (fun _ _ _ h => h) (Or.inl ⟨by rfl, ?_⟩) ?_
    rotate_left
    · intro w; go_simp; first | done | with_reducible rfl
    refine wpAny_ready (rs := [0]) (by kernel_rfl) (by simp) ?_
    refine AllReady.cons rfl (fun K hK => ?_) AllReady.nil
    go_simp
    refine hK _ _ ?_
    clear hK K
    refine wpAny_ready (rs := [4]) (by kernel_rfl) (by simp) ?_
    refine AllReady.cons rfl (fun K hK => ?_) AllReady.nil
    refine step_append_mine (by rfl) _ _ 27 (by rfl) w.heap.size 54 i0 _ 3 24 Try.underlying27 hi hz0 hz1 hz2 rfl (by decide) _ 0 [] (by rfl) HO.out ⟨b, 0, none⟩ k _ (flatK (ds.take k)) (by rfl) HL1.out HN1.out HU1.out (by unfold maxLen; omega) (by omega) (by simp) ?_
    intro u2 w2 hown2 hgrow2
    have hb2 := HBA.out.grown hgrow2 (by simp) (by intro k hk; simp [Value.ownBlock] at hk; omega)
    refine hK _ _ ?_
    clear hK K hgrow2
    have HN2 := Lib.hid (HK2.out w2 hb2)
    refine wpAny_ready (rs := [9]) (by kernel_rfl) (by simp) ?_
    refine AllReady.cons rfl (fun K hK => ?_) AllReady.nil
    refine step_append_mine (by rfl) _ _ 27 (by rfl) w.heap.size 54 i0 _ 3 24 Try.underlying27 hi hz0 hz1 hz2 rfl (by decide) u2 _ _ (by rfl) hown2 ⟨b, (k + 1) * 3, none⟩ (n - (k + 1)) _ (flatK (ds.drop (k + 1))) (by rfl) HL2.out HN2.out HU2.out (by unfold maxLen; omega) (by omega) hb2.size ?_
    intro u3 w3 hown3 hgrow3
    have hblk : ∀ k, u2.ownBlock = some k → w.heap.size ≤ k := fun k hk => (World.ownsRow.lt hown2 k hk).1
    have hb3 := hb2.grown hgrow3 hb2.size hblk
    refine hK _ _ ?_
    clear hK K hgrow3 hblk
    refine wpAny_ready (rs := [10]) (by kernel_rfl) (by simp) ?_
    refine AllReady.cons rfl (fun K hK => ?_) AllReady.nil
    go_simp
    refine hK _ _ ?_
    clear hK K
    refine wpAny_done (by kernel_rfl) ?_ _
    have ho3 : OwnK w.heap.size w3 u3 (ds.eraseIdx k) := by
      unfold OwnK
      rw [HE.out, List.length_append, flatK_append, HT.out, HD.out]
      simpa [flatK] using hown3
    go_wp2_with fail
    go_ret
    exact ⟨_, rfl, ho3, hb3⟩

end Go.Proofs.Ytkkjbkagkmngkaa
