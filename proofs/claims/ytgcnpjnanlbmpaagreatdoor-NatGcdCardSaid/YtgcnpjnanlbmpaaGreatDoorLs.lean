/- What difference of the package nat returns, and Less of its numbers. -/
import Derived.Test.YtgcnpjnanlbmpaaGreatDoorSm
import Derived.Test.YtgcnpjnanlbmpaaGreatDoorWd2
namespace Go.Proofs.Wd
open Go.RowKit
set_option linter.unusedVariables false
theorem Tryz.SubX (x y : Int) (c : Bool) (w : World) (h0 : 0 ≤ x) (h1 : x ≤ 18446744073709551615) (h2 : 0 ≤ y) (h3 : y ≤ 18446744073709551615) :
    Calls Tryz.prog 141 #[.int .u64 x, .int .u64 y, .bool c] w fun e w' => (∃ s d, s + y + cI c = x + 18446744073709551616 * cI d ∧ 0 ≤ s ∧ s ≤ 18446744073709551615 ∧ e = .returned (.tuple #[.int .u64 s, .bool d])) ∧ w' = w := by
  refine (Go.Proofs.Tryz.Sub x y c w h0 h1 h2 h3).mono ?_
  rintro e w' ⟨rfl, rfl⟩
  refine ⟨⟨_, _, ?_, by omega, by omega, rfl⟩, rfl⟩
  unfold cI
  simp only [decide_eq_true_eq]
  cases c
  · simp only [Bool.false_eq_true, if_false]
    split <;> omega
  · simp only [if_true]
    split <;> omega
/-- What holds at the heads of difference's loops: k words are done, c is borrowed. -/
structure DiffAt (xs ys : List Int) (k : Nat) (c : Bool) (L : List Int) : Prop where
  len : L.length = xs.length
  dig : Dig L
  rest : ∀ j, k ≤ j → L.getD j 0 = 0
  sum : val L + val (ys.take k) = val (xs.take k) + 18446744073709551616 ^ k * cI c
theorem DiffAt.start (xs ys : List Int) : DiffAt xs ys 0 false (List.replicate xs.length 0) := by
  refine ⟨by simp, fun d hd => by rw [(List.mem_replicate.1 hd).2]; omega, fun j _ => ?_, by simp [val_zeros, cI]⟩
  simp [List.getD, List.getElem?_replicate]; split <;> simp
theorem DiffAt.step {xs ys L : List Int} {k : Nat} {c d : Bool} {s x y : Int} (h : DiffAt xs ys k c L) (hk : k < xs.length) (hx : xs.getD k 0 = x) (hy : ys.getD k 0 = y)
    (he : s + y + cI c = x + 18446744073709551616 * cI d) (s0 : 0 ≤ s) (s1 : s ≤ 18446744073709551615) : DiffAt xs ys (k + 1) d (L.set k s) := by
  have hl := h.len
  refine ⟨by rw [List.length_set, hl], Dig.set h.dig k s0 s1, fun j hj => by rw [getD_set_ne _ (by omega)]; exact h.rest j (by omega), ?_⟩
  rw [val_set _ _ _ (by omega), h.rest k (Nat.le_refl _), val_take_next, val_take_next, hx, hy, Int.pow_succ, Int.sub_zero]
  have hs := h.sum
  generalize (18446744073709551616 : Int) ^ k = P at *
  have e : s = x + 18446744073709551616 * cI d - y - cI c := by omega
  rw [e, Int.mul_assoc]
  generalize 18446744073709551616 * cI d = D
  rw [Int.mul_sub, Int.mul_sub, Int.mul_add]
  omega
theorem DiffAt.last {xs ys L : List Int} {c : Bool} (h : DiffAt xs ys xs.length c L) (hx : Dig xs) (hy : Dig ys) (hl : ys.length ≤ xs.length) (hle : val ys ≤ val xs) : val L = val xs - val ys := by
  have h1 := h.sum
  rw [List.take_of_length_le hl, List.take_of_length_le (Nat.le_refl _)] at h1
  have b1 := val_lt h.dig
  rw [h.len] at b1
  have b2 := pow_pos' xs.length
  cases c with
  | false => simp [cI] at h1; omega
  | true =>
    simp only [cI, if_true, Int.mul_one] at h1
    omega
set_option maxHeartbeats 8000000 in
set_option maxRecDepth 100000 in
theorem Tryz.difference (v u : Value) (xs ys : List Int) (w : World) (hv : Digs w v xs) (hu : Digs w u ys) (hx : Dig xs) (hy : Dig ys) (hlen : xs.length ≤ 100000) (hl : ys.length ≤ xs.length) (hle : val ys ≤ val xs) :
    Calls Tryz.prog 94 #[v, u] w fun e w' => (∃ r L, e = .returned r ∧ NewRow w' w.heap.size r L ∧ Dig L ∧ L.length = xs.length ∧ val L = val xs - val ys) ∧ Below w.heap.size w w' := by
  obtain ⟨i0, hi, hz0, hz1, hz2⟩ := info_parts Tryz.info22
  obtain ⟨p, cap, rfl, hxl, hxr⟩ := hv.slice
  obtain ⟨q, dap, rfl, hyl, hyr⟩ := hu.slice
  obtain ⟨n, hn⟩ : ∃ n, xs.length = n := ⟨_, rfl⟩
  obtain ⟨m, hm⟩ : ∃ m, ys.length = m := ⟨_, rfl⟩
  have HXR : Hid (0 < n → ∃ g, p = some ⟨g, 0, none⟩ ∧ RowAt w g cap xs) := fun h => hxr (by omega)
  have HYR : Hid (0 < m → ∃ g, q = some ⟨g, 0, none⟩ ∧ RowAt w g dap ys) := fun h => hyr (by omega)
  have HN : Hid (xs.length = n) := hn
  have HM : Hid (ys.length = m) := hm
  have HX : Hid (Dig xs) := hx
  have HY : Hid (Dig ys) := hy
  have HFIN : Hid (∀ L c, DiffAt xs ys n c L → val L = val xs - val ys) := fun L c h => by
    rw [← hn] at h; exact h.last hx hy hl hle
  rw [hn] at hxl hlen hl
  rw [hm] at hyl hl
  rw [hn, hm]
  clear hv hu hx hy hxr hyr hn hm hle
  go_enter Tryz.func94, Tryz.ntmps94
  go_wp2_with (first
    | (refine wpList_make_full _ rfl _ _ 86 rfl w.heap.size 22 i0 (.int .u64 0) 1 Tryz.underlying86 hi hz0 hz1 .i64 .i64 _ _ n rfl rfl rfl rfl (by rw [hz2]; omega) (by unfold maxLen; omega) (by omega) ?_))
  intro w1 hown hgrow
  have hrow1 := RowOf.of_made (by rw [toList_madeCells_one] at hown; exact hown)
  have HROW : Hid (RowOf w1 w.heap.size (List.replicate xs.length 0)) := by show RowOf _ _ _; rw [HN.out]; exact hrow1
  have HB1 : Hid (Below w.heap.size w w1) := (Below.refl _ _).grown hgrow (Nat.le_refl _) (fun k hk => by cases hk)
  clear hown hgrow hrow1
  go_wp2
  go_loopw [6, 15] (fun cv i wr => ∃ (c : Bool) (k : Nat) (L : List Int), cv = .bool c ∧ i = .int .i64 k ∧ k ≤ m ∧ DiffAt xs ys k c L ∧ RowOf wr w.heap.size L ∧ Below w.heap.size w wr) (fun _ i _ => m - (intOf i).toNat)
  case atStart => exact ⟨false, 0, _, rfl, rfl, by omega, DiffAt.start xs ys, HROW.out, HB1.out⟩
  case round =>
    obtain ⟨c, k, L, rfl, rfl, hk, hat, hrow, hb⟩ := hrel
    have HA : Hid (DiffAt xs ys k c L) := hat
    have HR : Hid (RowOf wr w.heap.size L) := hrow
    have HB : Hid (Below w.heap.size w wr) := hb
    have hll : L.length = n := by rw [hat.len]; exact HN.out
    have HLL : Hid (L.length = n) := hll
    by_cases hkm : k = m
    · subst hkm
      obtain ⟨wo, rfl⟩ : ∃ wo : World, wo = wr := ⟨_, rfl⟩
      clear hat hrow hb hll HROW HB1
      go_wp2
      go_loopw [6, 9] (fun cv i ws => ∃ (c : Bool) (j : Nat) (K : List Int), cv = .bool c ∧ i = .int .i64 j ∧ k ≤ j ∧ j ≤ n ∧ DiffAt xs ys j c K ∧ RowOf ws w.heap.size K ∧ Below w.heap.size w ws) (fun _ i _ => n - (intOf i).toNat)
      case atStart => exact ⟨c, k, L, rfl, rfl, by omega, by omega, HA.out, HR.out, HB.out⟩
      case round =>
        obtain ⟨d, j, K, rfl, rfl, hkj, hj, hat, hrow, hb⟩ := hrel
        have HA2 : Hid (DiffAt xs ys j d K) := hat
        have HR2 : Hid (RowOf wr w.heap.size K) := hrow
        have HB2 : Hid (Below w.heap.size w wr) := hb
        have hkl : K.length = n := by rw [hat.len]; exact HN.out
        have HKL : Hid (K.length = n) := hkl
        by_cases hjn : j = n
        · subst hjn
          clear hat hrow hb hkl
          go_wp2
          go_ret
          exact ⟨⟨_, K, rfl, ⟨by rw [HKL.out]; rfl, HR2.out⟩, HA2.out.dig, HKL.out, HFIN.out K d HA2.out⟩, HB2.out⟩
        · obtain ⟨g, rfl, hgr⟩ := HXR.out (by omega)
          obtain ⟨x, hx⟩ : ∃ x, xs.getD j 0 = x := ⟨_, rfl⟩
          have hlt := hgr.lt
          have hcx := (hb.cell (p := ⟨g, j, none⟩) hlt).trans (hgr.cells j (by have := HN.out; omega))
          have hxd := HX.out.get j
          rw [hx] at hcx hxd
          have hcz := hrow.cell (j := j) (by omega)
          obtain ⟨o, ho⟩ : ∃ o, K.getD j 0 = o := ⟨_, rfl⟩
          rw [ho] at hcz
          have hfr := hrow.frozen j
          have HXV : Hid (xs.getD j 0 = x) := hx
          clear hat hrow hb hx ho hkl hgr
          go_wp2_with (go_at_call 141; refine (Tryz.SubX x 0 d _ hxd.1 hxd.2 (by omega) (by omega)).mono ?_; rintro e w' ⟨⟨s, d', he, s0, s1, rfl⟩, rfl⟩; have HE : Hid (s + 0 + cI d = x + 18446744073709551616 * cI d') := he; clear he)
          have HST : Hid (DiffAt xs ys (j + 1) d' (K.set j s)) := HA2.out.step (by have := HN.out; omega) HXV.out (getD_over (by have := HM.out; omega)) HE.out s0 s1
          exact ⟨⟨d', j + 1, K.set j s, rfl, by simp, by omega, by omega, HST.out, HR2.out.set j s, HB2.out.setCell (Nat.le_refl _) _⟩, by simp [intOf]; omega⟩
    · obtain ⟨g, rfl, hgr⟩ := HXR.out (by omega)
      obtain ⟨g', rfl, hgr'⟩ := HYR.out (by omega)
      obtain ⟨x, hx⟩ : ∃ x, xs.getD k 0 = x := ⟨_, rfl⟩
      obtain ⟨y, hyk⟩ : ∃ y, ys.getD k 0 = y := ⟨_, rfl⟩
      have hlt := hgr.lt
      have hlt' := hgr'.lt
      have hcx := (hb.cell (p := ⟨g, k, none⟩) hlt).trans (hgr.cells k (by have := HN.out; omega))
      have hcy := (hb.cell (p := ⟨g', k, none⟩) hlt').trans (hgr'.cells k (by have := HM.out; omega))
      have hxd := HX.out.get k
      have hyd := HY.out.get k
      rw [hx] at hcx hxd
      rw [hyk] at hcy hyd
      have hcz := hrow.cell (j := k) (by omega)
      obtain ⟨o, ho⟩ : ∃ o, L.getD k 0 = o := ⟨_, rfl⟩
      rw [ho] at hcz
      have hfr := hrow.frozen k
      have HXV : Hid (xs.getD k 0 = x) := hx
      have HYV : Hid (ys.getD k 0 = y) := hyk
      have hkn : k < n := by omega
      clear hat hrow hb hx hyk ho hll hgr hgr'
      go_wp2_with (go_at_call 141; refine (Tryz.SubX x y c _ hxd.1 hxd.2 hyd.1 hyd.2).mono ?_; rintro e w' ⟨⟨s, d', he, s0, s1, rfl⟩, rfl⟩; have HE : Hid (s + y + cI c = x + 18446744073709551616 * cI d') := he; clear he)
      have HST : Hid (DiffAt xs ys (k + 1) d' (L.set k s)) := HA.out.step (by have := HN.out; omega) HXV.out HYV.out HE.out s0 s1
      exact ⟨⟨d', k + 1, L.set k s, rfl, by simp, by omega, HST.out, HR.out.set k s, HB.out.setCell (Nat.le_refl _) _⟩, by simp [intOf]; omega⟩
/-- What Less tells: the difference and true, or nil and false. -/
def LessIs (z y : Int) (n : Nat) (w : World) (e : Ending) : Prop := (y ≤ z ∧ ∃ v, e = .returned (.tuple #[v, .bool true]) ∧ Num w v (z - y) n) ∨ (z < y ∧ e = .returned (.tuple #[.pointer none, .bool false]))
set_option maxHeartbeats 4000000 in
set_option maxRecDepth 100000 in
theorem Tryz.natLess (v u : Value) (z y : Int) (n m : Nat) (w : World) (hv : Num w v z n) (hu : Num w u y m) (hn : n ≤ 100000) :
    Calls Tryz.prog 37 #[v, u] w fun e w' => LessIs z y n w' e ∧ Below w.heap.size w w' := by
  obtain ⟨xs, hi, hd, ht, hz, hl⟩ := hv
  obtain ⟨ys, gi, gd, gt, gz, gl⟩ := hu
  have HI : Hid (IsNat w v xs) := hi
  have GI : Hid (IsNat w u ys) := gi
  have HD : Hid (Dig xs) := hd
  have GD : Hid (Dig ys) := gd
  have HZ : Hid (val xs - val ys = z - y) := by show _ = _; rw [hz, gz]
  by_cases hle : y ≤ z
  · have hyx : val ys ≤ val xs := by omega
    have hll : ys.length ≤ xs.length := by
      by_cases hn : ys = []
      · subst hn; simp
      · have h1 := top_pos gd gt hn
        have h2 := val_lt hd
        by_cases g : ys.length ≤ xs.length
        · exact g
        · have := pow_mono' (i := xs.length) (j := ys.length - 1) (by omega)
          omega
    have HC : Hid (∀ s t w, Digs w s xs → Digs w t ys → Calls Tryz.prog 79 #[s, t] w fun e w' => (∃ c, e = .returned (.int .i64 c) ∧ 0 ≤ c ∧ c ≤ 1) ∧ Below w.heap.size w w') := fun s t w hs ht' => by
      refine (Tryz.compare s t xs ys w hs ht' hd gd ht gt).mono ?_
      rintro e w' ⟨rfl, hb⟩
      refine ⟨⟨_, rfl, ?_⟩, hb⟩
      unfold cmpI; split
      · omega
      · split <;> omega
    have HDF : Hid (∀ s t w, Digs w s xs → Digs w t ys → Calls Tryz.prog 94 #[s, t] w fun e w' => (∃ r L, e = .returned r ∧ NewRow w' w.heap.size r L ∧ Dig L ∧ L.length = xs.length ∧ val L = val xs - val ys) ∧ Below w.heap.size w w') := fun s t w hs ht' =>
      Tryz.difference s t xs ys w hs ht' hd gd (by omega) hll hyx
    have HXL : Hid (xs.length ≤ n) := hl
    clear hi gi hd gd ht gt hz gz hyx hll hl gl
    go_enter Tryz.func37, Tryz.ntmps37
    go_wp2_with fail
    refine (Tryz.all v xs _ HI.out).mono ?_
    rintro e w1 ⟨⟨s, rfl, hs⟩, rfl⟩
    have HS : Hid (Digs w1 s xs) := hs
    clear hs HI
    go_wp2_with fail
    refine (Tryz.all u ys _ GI.out).mono ?_
    rintro e w2 ⟨⟨t, rfl, ht⟩, rfl⟩
    have HT : Hid (Digs w2 t ys) := ht
    clear ht GI
    go_wp2_with fail
    refine (HC.out s t _ HS.out HT.out).mono ?_
    rintro e w3 ⟨⟨c, rfl, c0, c1⟩, hb3⟩
    have HS3 : Hid (Digs w3 s xs) := HS.out.below hb3 (Nat.le_refl _)
    have HT3 : Hid (Digs w3 t ys) := HT.out.below hb3 (Nat.le_refl _)
    have HB3 : Hid (Below w2.heap.size w2 w3) := hb3
    clear hb3 HS HT
    go_wp2_with fail
    refine (HDF.out s t _ HS3.out HT3.out).mono ?_
    rintro e w4 ⟨⟨r, L, rfl, hr, hL, hLl, hLv⟩, hb4⟩
    have hLn : L.length ≤ n := by rw [hLl]; exact HXL.out
    have HR : Hid (Digs w4 r L) := hr.digs (by omega)
    have HL : Hid (Dig L) := hL
    have HV : Hid (val L = z - y) := by show _ = _; rw [hLv, HZ.out]
    have HB4 : Hid (Below w2.heap.size w2 w4) := Below.after HB3.out hb4
    clear hr hL hLl hLv hb4
    go_wp2_with fail
    refine (Tryz.made r L _ HR.out HL.out).mono ?_
    rintro e w5 ⟨⟨v5, rfl, h5⟩, hb5⟩
    have H5 : Hid (Num w5 v5 (z - y) n) := by show Num _ _ _ _; rw [← HV.out]; exact h5.fewer hLn
    have HB5 : Hid (Below w2.heap.size w2 w5) := Below.after HB4.out hb5
    clear h5 hb5
    go_wp2
    go_ret2
    exact ⟨.inl ⟨hle, _, rfl, H5.out⟩, HB5.out⟩
  · have hlt : z < y := by omega
    have HC : Hid (∀ s t w, Digs w s xs → Digs w t ys → Calls Tryz.prog 79 #[s, t] w fun e w' => e = .returned (.int .i64 (-1)) ∧ Below w.heap.size w w') := fun s t w hs ht' => by
      refine (Tryz.compare s t xs ys w hs ht' hd gd ht gt).mono ?_
      rintro e w' ⟨rfl, hb⟩
      exact ⟨by rw [cmpI_lt (by omega)], hb⟩
    clear hi gi hd gd ht gt hz gz hl gl
    go_enter Tryz.func37, Tryz.ntmps37
    go_wp2_with fail
    refine (Tryz.all v xs _ HI.out).mono ?_
    rintro e w1 ⟨⟨s, rfl, hs⟩, rfl⟩
    have HS : Hid (Digs w1 s xs) := hs
    clear hs HI
    go_wp2_with fail
    refine (Tryz.all u ys _ GI.out).mono ?_
    rintro e w2 ⟨⟨t, rfl, ht⟩, rfl⟩
    have HT : Hid (Digs w2 t ys) := ht
    clear ht GI
    go_wp2_with fail
    refine (HC.out s t _ HS.out HT.out).mono ?_
    rintro e w3 ⟨rfl, hb3⟩
    have HB3 : Hid (Below w2.heap.size w2 w3) := hb3
    clear hb3 HS HT
    go_wp2
    go_ret2
    exact ⟨.inr ⟨hlt, rfl⟩, HB3.out⟩
end Go.Proofs.Wd
