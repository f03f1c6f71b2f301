/- What quotient of the package nat returns where the divisor has two words or more: the walk. -/
import Derived.Test.YtgcnpjnanlbmpaaGreatDoorQw
namespace Go.Proofs.Wd
open Go.RowKit
set_option linter.unusedVariables false
theorem RowOf.kept {w w' : World} {O : Nat} {L : List Int} {row : Option Nat} (h : RowOf w O L) (hg : w.grownBy w' row) (hne : some O ≠ row) : RowOf w' O L := by
  unfold RowOf; rw [hg.block O h.lt hne]; exact h
theorem RowAt.of_row {w : World} {O : Nat} {L : List Int} (h : RowOf w O L) (hl : L.length ≤ 1000000) (k : Nat) (hk : k ≤ L.length) : RowAt w O L.length (L.take k) :=
  ⟨h.lt, by rw [List.length_take]; omega, by unfold maxLen; omega, fun j hj => by
    have hj' : j < k := by rw [List.length_take] at hj; omega
    rw [h.cell (by omega)]
    simp only [List.getD, List.getElem?_take_of_lt hj']⟩
theorem RowAt.kept {w w' : World} {g cap : Nat} {xs : List Int} {row : Option Nat} (h : RowAt w g cap xs) (hg : w.grownBy w' row) (hne : some g ≠ row) : RowAt w' g cap xs :=
  ⟨by have := hg.size; have := h.lt; omega, h.fits, h.max, fun j hj => hg.cell (h.cells j hj) hne⟩
/-- By how many bits the top word is to be shifted. -/
theorem shift_of {y L : Int} (h : IsLen y L) (y1 : 1 ≤ y) : 0 ≤ 64 - L ∧ 64 - L ≤ 63 ∧ 9223372036854775808 ≤ y * 2 ^ (64 - L).toNat ∧ y * 2 ^ (64 - L).toNat + 2 ^ (64 - L).toNat ≤ 18446744073709551616 := by
  obtain ⟨a, b, c, d⟩ := h
  have hd := d.resolve_left (fun e => by omega)
  obtain ⟨d1, d2⟩ := hd
  have e1 : (2 : Int) ^ (L - 1).toNat * 2 ^ (64 - L).toNat = 9223372036854775808 := by
    rw [← Int.pow_add, show (L - 1).toNat + (64 - L).toNat = 63 by omega]; rfl
  have e2 : (2 : Int) ^ L.toNat * 2 ^ (64 - L).toNat = 18446744073709551616 := by
    rw [← Int.pow_add, show L.toNat + (64 - L).toNat = 64 by omega]; rfl
  have hS : (0 : Int) < 2 ^ (64 - L).toNat := Int.pow_pos (by omega)
  generalize (2 : Int) ^ (64 - L).toNat = S at *
  refine ⟨by omega, by omega, ?_, ?_⟩
  · rw [← e1]; exact Int.mul_le_mul_of_nonneg_right d2 (by omega)
  · have : (y + 1) * S ≤ 2 ^ L.toNat * S := Int.mul_le_mul_of_nonneg_right (by omega) (by omega)
    rw [Int.add_mul, Int.one_mul] at this
    omega
set_option maxHeartbeats 8000000 in
set_option maxRecDepth 100000 in
theorem Tryz.quotientLong (v u : Value) (xs ys : List Int) (n : Nat) (w : World) (hv : Digs w v xs) (hu : Digs w u ys) (hx : Dig xs) (hy : Dig ys) (tx : Top xs) (ty : Top ys) (hlen : xs.length ≤ 90000) (hle : val ys ≤ val xs) (hn : ys.length = n + 1) (n1 : 1 ≤ n) :
    Calls Tryz.prog 95 #[v, u] w fun e w' => QuIs xs ys w' e ∧ Below w.heap.size w w' := by
  obtain ⟨i0, hi, hz0, hz1, hz2⟩ := info_parts Tryz.info22
  have hyne : ys ≠ [] := fun e => by rw [e] at hn; simp at hn
  have hll : ys.length ≤ xs.length := by
    have h1 := top_pos hy ty hyne
    have h2 := val_lt hx
    by_cases g : ys.length ≤ xs.length
    · exact g
    · have := pow_mono' (i := xs.length) (j := ys.length - 1) (by omega)
      omega
  have HC : Hid (∃ c, 0 ≤ c ∧ Calls Tryz.prog 79 #[v, u] w fun e w' => e = .returned (.int .i64 c) ∧ Below w.heap.size w w') := by
    refine ⟨cmpI (val xs) (val ys), ?_, Tryz.compare v u xs ys w hv hu hx hy tx ty⟩
    unfold cmpI; rw [if_neg (by omega)]; split <;> omega
  obtain ⟨cc, cc0, HCC⟩ := HC.out
  clear HC
  obtain ⟨yt, hyt⟩ : ∃ yt, ys.getD n 0 = yt := ⟨_, rfl⟩
  have hytd := hy.get n
  rw [hyt] at hytd
  have hyt1 : 1 ≤ yt := by
    rcases ty with e | e
    · exact absurd e hyne
    · rw [hn, Nat.add_sub_cancel, hyt] at e; omega
  have HV : Hid (Digs w v xs) := hv
  have HU : Hid (Digs w u ys) := hu
  have HX : Hid (Dig xs) := hx
  have HY : Hid (Dig ys) := hy
  have HYT : Hid (ys.getD n 0 = yt) := hyt
  have HTY : Hid (Top ys) := ty
  obtain ⟨q, dap, rfl, -, hyr⟩ := hu.slice
  obtain ⟨gy, rfl, hgy⟩ := hyr (by omega)
  have hyc := hgy.cells n (by omega)
  rw [hyt] at hyc
  have hylt := hgy.lt
  obtain ⟨m, hm⟩ : ∃ m, xs.length = m := ⟨_, rfl⟩
  have HM : Hid (xs.length = m) := hm
  have HN : Hid (ys.length = n + 1) := hn
  have HCH := Lib.hid HCC
  rw [hm] at hlen hll
  rw [hn] at hll HU HCH ⊢
  clear hv hu hx hy tx ty hgy hyr hyne hyt hm hn hle HCC
  go_enter Tryz.func95, Tryz.ntmps95
  go_wp2_with fail
  refine HCH.out.mono ?_
  rintro e w1 ⟨rfl, hb1⟩
  have hyc1 := (hb1.cell (p := ⟨gy, n, none⟩) hylt).trans hyc
  have HB1 : Hid (Below w.heap.size w w1) := hb1
  have HV1 : Hid (Digs w1 v xs) := HV.out.below hb1 (Nat.le_refl _)
  have HU1 : Hid (Digs w1 (.slice (some ⟨gy, 0, none⟩) (n + 1) dap) ys) := HU.out.below hb1 (Nat.le_refl _)
  clear hb1 HCH hyc HV HU
  have hnn : ((n : Int) + 1 == 1) = false := by simp; omega
  go_wp2_with fail
  refine (Tryz.Len yt _ (by omega) hytd.2).mono ?_
  rintro e w2 ⟨⟨Ln, hL, rfl⟩, rfl⟩
  obtain ⟨s0, s1, slo, shi⟩ := shift_of hL hyt1
  obtain ⟨s, hs⟩ : ∃ s, 64 - Ln = s := ⟨_, rfl⟩
  rw [hs] at s0 s1 slo shi
  have HSL : Hid (9223372036854775808 ≤ yt * 2 ^ s.toNat ∧ yt * 2 ^ s.toNat + 2 ^ s.toNat ≤ 18446744073709551616) := ⟨slo, shi⟩
  have hLl := hL.lo
  have hLh := hL.hi
  clear hL slo shi hyc1
  go_wp2_with fail
  refine (Tryz.raisedX v xs s _ HV1.out HX.out s0 (by omega) (by rw [HM.out]; omega)).mono ?_
  rintro e w3 ⟨⟨R, rfl, hr3, hR3, hRl, hRv⟩, hb3⟩
  have hRl' : R.length = m + 1 := by rw [hRl, HM.out, show (s / 64).toNat = 0 by omega]; omega
  have HRL : Hid (R.length = m + 1) := hRl'
  have HRD : Hid (Dig R) := hR3
  have HRV : Hid (val R = val xs * 2 ^ s.toNat) := hRv
  have HR3 : Hid (RowOf w3 w2.heap.size R) := hr3
  have hgr : w2.heap.size < w3.heap.size := hr3.lt
  obtain ⟨gr, hgrr⟩ : ∃ gr, w2.heap.size = gr := ⟨_, rfl⟩
  have HB3 : Hid (Below w.heap.size w w3) := Below.after HB1.out hb3
  have HU3 : Hid (Digs w3 (.slice (some ⟨gy, 0, none⟩) (n + 1) dap) ys) := HU1.out.below hb3 (Nat.le_refl _)
  have hgw : w.heap.size ≤ gr := by have := HB1.out.size; omega
  rw [hRl']
  rw [hgrr] at HR3 hgr ⊢
  clear hr3 hR3 hRl hRl' hRv hb3 HU1 HV1 hgrr
  go_wp2_with fail
  refine (Tryz.raisedX _ ys s _ HU3.out HY.out s0 (by omega) (by rw [HN.out]; omega)).mono ?_
  rintro e w4 ⟨⟨L, rfl, hr4, hL4, hLl4, hLv⟩, hb4⟩
  have hLl4' : L.length = n + 2 := by rw [hLl4, HN.out, show (s / 64).toNat = 0 by omega]; omega
  have HLL : Hid (L.length = n + 2) := hLl4'
  have HR4 : Hid (RowOf w4 gr R) := HR3.out.below hb4 hgr
  have HL4 : Hid (RowOf w4 w3.heap.size L) := hr4
  have HLD : Hid (Dig L) := hL4
  have HLV : Hid (val L = val ys * 2 ^ s.toNat) := hLv
  have HB4 : Hid (Below w.heap.size w w4) := Below.after HB3.out hb4
  obtain ⟨gl, hgl⟩ : ∃ gl, w3.heap.size = gl := ⟨_, rfl⟩
  have hgl4 : gl < w4.heap.size := by rw [← hgl]; exact hr4.lt
  have hne : gl ≠ gr := by omega
  have hgw2 : w.heap.size ≤ gl := by omega
  rw [hLl4']
  rw [hgl] at HL4 ⊢
  clear hr4 hL4 hLl4 hLl4' hLv hb4 HU3 HR3 hgl hgr
  have HTRIM : Hid (Calls Tryz.prog 58 #[.slice (some ⟨gl, 0, none⟩) (n + 2) (n + 2)] w4 fun e w' => (e = .returned (.slice (some ⟨gl, 0, none⟩) (n + 1) (n + 2)) ∧ 9223372036854775808 ≤ (L.take (n + 1)).getD n 0 ∧ val (L.take (n + 1)) = val ys * 2 ^ s.toNat) ∧ w' = w4) := by
    have h := Tryz.trim (some ⟨gl, 0, none⟩) L.length L w4 (HL4.out.digs (by rw [HLL.out]; unfold maxLen; omega))
    refine Calls.mono (by rw [HLL.out] at h; exact h) ?_
    rintro e w' ⟨⟨k, rfl, hk, ht, hv⟩, rfl⟩
    have hnm := normal (n := n) HY.out HTY.out HN.out s0 s1 HYT.out HSL.out.1 HSL.out.2 (HLD.out.take k) ht (by rw [hv, HLV.out])
    have hk2 : k = n + 1 := by
      have h5 := hnm.1
      rw [List.length_take, HLL.out] at h5
      omega
    subst hk2
    exact ⟨⟨rfl, hnm.2, by rw [hv, HLV.out]⟩, rfl⟩
  go_wp2_with fail
  refine HTRIM.out.mono ?_
  clear HTRIM
  rintro e w5 ⟨⟨rfl, htop, hvy⟩, rfl⟩
  obtain ⟨zs, hzs⟩ : ∃ zs, L.take (n + 1) = zs := ⟨_, rfl⟩
  have HZL : Hid (zs.length = n + 1) := by show _ = _; rw [← hzs, List.length_take, HLL.out]; omega
  have HZD : Hid (Dig zs) := by rw [← hzs]; exact HLD.out.take _
  rw [hzs] at htop hvy
  have HTOP : Hid (9223372036854775808 ≤ zs.getD n 0) := htop
  have HVY : Hid (val zs = val ys * 2 ^ s.toNat) := hvy
  have HZA : Hid (RowAt w5 gl (n + 2) zs) := by
    have h := RowAt.of_row HL4.out (by rw [HLL.out]; omega) (n + 1) (by rw [HLL.out]; omega)
    rw [HLL.out, hzs] at h
    exact h
  clear htop hvy hzs HL4
  obtain ⟨lq, hlq⟩ : ∃ lq, m - n = lq := ⟨_, rfl⟩
  have hlq1 : lq + n = m := by omega
  have hlq0 : 1 ≤ lq := by omega
  have HQS : Hid (QuAt (val xs * 2 ^ s.toNat) zs lq (m + 1) lq (List.replicate lq 0) R) := by
    rw [← hlq]; exact QuAt.start HX.out HM.out HRD.out HRL.out HRV.out s0 s1 HZD.out HZL.out HTOP.out (by omega)
  clear hlq
  go_wp2_with (first
    | (refine wpList_make_full _ rfl _ _ 86 rfl w5.heap.size 22 i0 (.int .u64 0) 1 Tryz.underlying86 hi hz0 hz1 .i64 .i64 ((m : Int) + 1 - ((n : Int) + 1)) ((m : Int) + 1 - ((n : Int) + 1)) lq rfl rfl (by omega) (by omega) (by rw [hz2]; omega) (by unfold maxLen; omega) (by omega) ?_))
  intro w6 hown hgrow
  have hb6 : Below w5.heap.size w5 w6 := (Below.refl _ _).grown hgrow (Nat.le_refl _) (fun k hk => by cases hk)
  obtain ⟨gq, hgq⟩ : ∃ gq, w5.heap.size = gq := ⟨_, rfl⟩
  have hrow : RowOf w6 gq (List.replicate lq 0) := by
    rw [← hgq]
    exact RowOf.of_made (by rw [toList_madeCells_one] at hown; exact hown)
  have HQ6 : Hid (RowOf w6 gq (List.replicate lq 0)) := hrow
  have HR6 : Hid (RowOf w6 gr R) := HR4.out.below hb6 HR4.out.lt
  have HZ6 : Hid (RowAt w6 gl (n + 2) zs) := HZA.out.below hb6 hgl4
  have HB6 : Hid (Below w.heap.size w w6) := Below.after HB4.out hb6
  have hrq : gr < gq := by rw [← hgq]; exact HR4.out.lt
  have hlq2 : gl < gq := by rw [← hgq]; exact hgl4
  have hgw3 : w.heap.size ≤ gq := by omega
  rw [hgq]
  clear hown hgrow hb6 hrow hgq HR4 HZA HB4
  go_wp2
  go_loopw [7] (fun i wr => ∃ (k : Nat) (Q S : List Int), i = .int .i64 ((k : Int) - 1) ∧ k ≤ lq ∧ QuAt (val xs * 2 ^ s.toNat) zs lq (m + 1) k Q S ∧ RowOf wr gq Q ∧ RowOf wr gr S ∧ RowAt wr gl (n + 2) zs ∧ Below w.heap.size w wr) (fun i _ => (intOf i + 1).toNat)
  case atStart => exact ⟨lq, _, _, rfl, Nat.le_refl _, HQS.out, HQ6.out, HR6.out, HZ6.out, HB6.out⟩
  case round =>
    obtain ⟨k, Q, S, rfl, hk, hat, hq, hr, hz, hb⟩ := hrel
    have HA : Hid (QuAt (val xs * 2 ^ s.toNat) zs lq (m + 1) k Q S) := hat
    have HQ : Hid (RowOf wr gq Q) := hq
    have HR : Hid (RowOf wr gr S) := hr
    have HZ : Hid (RowAt wr gl (n + 2) zs) := hz
    have HB : Hid (Below w.heap.size w wr) := hb
    clear hq hr hz hb hat HQ6 HR6 HZ6 HB6 HQS
    cases k with
    | zero =>
      have hsl : S.length = m + 1 := HA.out.rl
      have HTR : Hid (∀ W, RowOf W gr S → Calls Tryz.prog 58 #[.slice (some ⟨gr, 0, none⟩) (m + 1) (m + 1)] W fun e w' => (∃ j : Nat, e = .returned (.slice (some ⟨gr, 0, none⟩) j (m + 1)) ∧ j ≤ m + 1 ∧ val (S.take j) = val S ∧ Digs W (.slice (some ⟨gr, 0, none⟩) j (m + 1)) (S.take j)) ∧ w' = W) := fun W hW => by
        have hd := hW.digs (by rw [hsl]; unfold maxLen; omega)
        have h := Tryz.trim (some ⟨gr, 0, none⟩) S.length S W hd
        refine Calls.mono (by rw [hsl] at h; exact h) ?_
        rintro e w' ⟨⟨j, rfl, hj, -, hv⟩, rfl⟩
        have hd2 := hd.take j (by rw [hsl]; omega)
        rw [hsl] at hd2
        exact ⟨⟨j, rfl, hj, hv, hd2⟩, rfl⟩
      have HSL2 : Hid (S.length = m + 1) := hsl
      clear hsl
      go_wp2_with fail
      with_reducible refine (HTR.out _ HR.out).mono ?_
      clear HTR
      rintro e w7 ⟨⟨j, rfl, hj, hjv, hjd⟩, rfl⟩
      have HJV : Hid (val (S.take j) = val S) := hjv
      have HJD : Hid (Digs w7 (.slice (some ⟨gr, 0, none⟩) j (m + 1)) (S.take j)) := hjd
      clear hjv hjd
      go_wp2_with fail
      with_reducible refine (Tryz.lowered _ (S.take j) s _ HJD.out (HA.out.rd.take j) s0 (by omega) (by rw [List.length_take, HSL2.out]; omega)).mono ?_
      rintro e w8 ⟨⟨v8, T, rfl, hT8, hTd, hTl, hTv⟩, hb8⟩
      have HT8 : Hid (Digs w8 v8 T) := hT8
      have HTD : Hid (Dig T) := hTd
      have HTV : Hid (val T = val S / 2 ^ s.toNat) := by show _ = _; rw [hTv, HJV.out]
      have HTL : Hid (T.length ≤ m + 1) := by
        show _ ≤ _
        rw [List.length_take, HSL2.out] at hTl; omega
      have HQ8 : Hid (Digs w8 (.slice (some ⟨gq, 0, none⟩) lq lq) Q) := by
        have h := (HQ.out.below hb8 HQ.out.lt).digs (by rw [HA.out.ql]; unfold maxLen; omega)
        rw [HA.out.ql] at h
        exact h
      have HB8 : Hid (Below w.heap.size w w8) := Below.after HB.out hb8
      clear hT8 hTd hTl hTv hb8
      go_wp2
      go_ret2
      have hlast := HA.out.last HVY.out (Int.pow_pos (by omega))
      rw [← HTV.out] at hlast
      exact ⟨⟨_, _, Q, T, rfl, HQ8.out, HT8.out, HA.out.qd, HTD.out, hlast.1, hlast.2.1, hlast.2.2, by rw [HA.out.ql, HM.out]; omega, by rw [HM.out]; exact HTL.out⟩, HB8.out⟩
    | succ k =>
      rw [show ((k + 1 : Nat) : Int) - 1 = k by omega]
      have HTAKE : Hid (Calls Tryz.prog 142 #[.slice (some ⟨gr, k, none⟩) (k + (n + 1) + 1 - k) (m + 1 - k), .slice (some ⟨gl, 0, none⟩) (n + 1) (n + 2)] wr fun e w' => (∃ q M, e = .returned (.int .u64 q) ∧ RowOf w' gr M ∧ Taken S zs k q M) ∧ wr.grownBy w' (some gr)) := by
        have hin : TakeIn S zs k (n + 1) := ⟨HZL.out, by omega, HA.out.rd, HZD.out, by rw [HA.out.rl]; omega, by rw [HA.out.rl]; omega, HTOP.out, HA.out.less⟩
        have h : ∀ N : Nat, N = n + 1 + 1 → Calls Tryz.prog 142 #[.slice (some ⟨gr, k, none⟩) N (m + 1 - k), .slice (some ⟨gl, 0, none⟩) (n + 1) (n + 2)] wr fun e w' => (∃ q M, e = .returned (.int .u64 q) ∧ RowOf w' gr M ∧ Taken S zs k q M) ∧ wr.grownBy w' (some gr) := fun N hN => by
          subst hN
          exact Tryz.takeDigit gr k (n + 1) (m + 1 - k) gl (n + 2) S zs wr hin HR.out HZ.out hne (by omega) (by omega)
        exact h _ (by omega)
      go_wp2_with fail
      with_reducible refine HTAKE.out.mono ?_
      clear HTAKE
      rintro e w7 ⟨⟨q, M, rfl, hM, hTk⟩, hg7⟩
      have hlt7 : gr < w7.heap.size := hM.lt
      have HAT : Hid (QuAt (val xs * 2 ^ s.toNat) zs lq (m + 1) k (Q.set k q) M) := HA.out.step (by omega) hTk
      have HM7 : Hid (RowOf w7 gr M) := hM
      have HQ7 : Hid (RowOf w7 gq Q) := HQ.out.kept hg7 (by simp; omega)
      have HZ7 : Hid (RowAt w7 gl (n + 2) zs) := HZ.out.kept hg7 (by simp; omega)
      have HB7 : Hid (Below w.heap.size w w7) := HB.out.grown hg7 (by have := HB.out.size; exact this) (fun k hk => by cases hk; exact hgw)
      obtain ⟨c, hc⟩ : ∃ c, Q.getD k 0 = c := ⟨_, rfl⟩
      have hcq := HQ7.out.cell (j := k) (by rw [HA.out.ql]; omega)
      rw [hc] at hcq
      have hfq := HQ7.out.frozen k
      clear hM hTk hg7 hc
      go_wp2
      exact ⟨⟨k, _, M, rfl, by omega, HAT.out, HQ7.out.set k q, HM7.out.kept (grownBy_set (grownBy_refl _ (some gq)) k none _) (by simp; omega), HZ7.out.kept (grownBy_set (grownBy_refl _ (some gq)) k none _) (by simp; omega), HB7.out.setCell (by omega) _⟩, by simp [intOf]⟩
end Go.Proofs.Wd
