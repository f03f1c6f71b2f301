/- What raised of the package nat returns, with the number of its words. What quotient of the package nat returns: the walk. What quotient of the package nat returns where the divisor has two words or more: the walk. -/
import Derived.Test.YtoiihhkafcglhaaGreatDoorWd3
import Derived.Test.YtoiihhkafcglhaaGreatDoorLh
import Derived.Test.YtoiihhkafcglhaaGreatDoorWd6
namespace Go.Proofs.Wd
open Go.RowKit
set_option linter.unusedVariables false
set_option maxHeartbeats 4000000 in
set_option maxRecDepth 100000 in
theorem Tryz.raisedX (v : Value) (xs : List Int) (k : Int) (w : World) (h : Digs w v xs) (hx : Dig xs) (k0 : 0 ≤ k) (k1 : k ≤ 100000) (hlen : xs.length ≤ 1000000) :
    Calls Tryz.prog 60 #[v, .int .i64 k] w fun e w' => (∃ L, e = .returned (.slice (some ⟨w.heap.size, 0, none⟩) L.length L.length) ∧ RowOf w' w.heap.size L ∧ Dig L ∧ L.length = (k / 64).toNat + xs.length + 1 ∧ val L = val xs * 2 ^ k.toNat) ∧ Below w.heap.size w w' := by
  obtain ⟨p, cap, rfl, hxl, hxr⟩ := h.slice
  obtain ⟨i0, hi, hz0, hz1, hz2⟩ := info_parts Tryz.info49
  have HX : Hid (0 < xs.length → ∃ g, p = some ⟨g, 0, none⟩ ∧ RowAt w g cap xs) := hxr
  clear hxr h
  obtain ⟨W, hW⟩ : ∃ W : Nat, k / 64 = W := ⟨(k / 64).toNat, by omega⟩
  obtain ⟨r, hr⟩ : ∃ r : Int, k % 64 = r := ⟨_, rfl⟩
  have hk : k = 64 * W + r ∧ 0 ≤ r ∧ r ≤ 63 := by omega
  obtain ⟨hk, r0, r1⟩ := hk
  have HK : Hid (k = 64 * W + r) := hk
  have hW1 : W ≤ 1563 := by omega
  clear hk
  obtain ⟨l, hl⟩ : ∃ l, xs.length = l := ⟨_, rfl⟩
  rw [hl] at hxl hlen HX
  obtain ⟨n', hn'⟩ : ∃ n' : Int, (W : Int) + l = n' := ⟨_, rfl⟩
  obtain ⟨n, hn⟩ : ∃ n : Nat, n' + 1 = n := ⟨W + l + 1, by omega⟩
  have HN : Hid (n = W + l + 1) := show n = W + l + 1 by omega
  have hn0 : n ≤ 1001564 := by omega
  rw [hl]
  go_enter Tryz.func60, Tryz.ntmps60
  go_wp2_with (first
    | (refine wpList_make_full _ rfl _ _ 90 rfl w.heap.size 49 i0 (.int .u64 0) 1 Tryz.underlying90 hi hz0 hz1 .i64 .i64 _ _ n rfl rfl rfl rfl (by rw [hz2]; omega) (by unfold maxLen; omega) (by omega) ?_))
  intro w1 hown hgrow
  have hrow1 := RowOf.of_made (by rw [toList_madeCells_one] at hown; exact hown)
  have hb1 : Below w.heap.size w w1 := (Below.refl _ _).grown hgrow (Nat.le_refl _) (fun k hk => by cases hk)
  clear hown hgrow
  go_wp2
  go_loopw [22] (fun i wr => ∃ (j : Nat) (L : List Int), i = .int .i64 j ∧ j ≤ l ∧ RowOf wr w.heap.size L ∧ RaisedAt xs W (2 ^ r.toNat) j L ∧ Below w.heap.size w wr) (fun i _ => l - (intOf i).toNat)
  case atStart => exact ⟨0, List.replicate n 0, rfl, by omega, hrow1, by rw [HN.out, ← hl]; exact RaisedAt.start xs W (Int.pow_pos (by omega)), hb1⟩
  case round =>
    obtain ⟨j, L, rfl, hj, hrow, hat, hb⟩ := hrel
    have HA : Hid (RaisedAt xs W (2 ^ r.toNat) j L) := hat
    have HB : Hid (Below w.heap.size w wr) := hb
    have HR : Hid (RowOf wr w.heap.size L) := hrow
    have hLn : L.length = n := by rw [hat.len, HN.out, hl]
    by_cases hjl : j = l
    · subst hjl
      clear hrow hat hb
      go_wp2
      go_ret
      refine ⟨⟨L, by rw [hLn]; rfl, HR.out, HA.out.digs, by omega, ?_⟩, HB.out⟩
      rw [HA.out.sum, List.take_of_length_le (by omega), pow64, ← Int.pow_add, Int.mul_comm, show 64 * W + r.toNat = k.toNat by have := HK.out; omega]
    · obtain ⟨x, hxj⟩ : ∃ x, xs.getD j 0 = x := ⟨_, rfl⟩
      have hxd := hx.get j
      rw [hxj] at hxd
      obtain ⟨c1, c2, c3, c4, c5, c6, c7, c8, c9, c10⟩ := cutWord hxd.1 hxd.2 r0 r1
      obtain ⟨g, rfl, hg⟩ := HX.out (by omega)
      have hcx := (hb.cell (p := ⟨g, j, none⟩) hg.lt).trans (hg.cells j (by omega))
      rw [hxj] at hcx
      have hgO : g ≠ w.heap.size := by have := hg.lt; omega
      obtain ⟨q, hq⟩ : ∃ q : Nat, W + j = q := ⟨_, rfl⟩
      obtain ⟨q1, hq1⟩ : ∃ q1 : Nat, q + 1 = q1 := ⟨_, rfl⟩
      obtain ⟨c, hc⟩ : ∃ c, L.getD q 0 = c := ⟨_, rfl⟩
      have hcc := hrow.cell (j := q) (by omega)
      rw [hc] at hcc
      have hfr := hrow.frozen q
      have hcd := hat.dig q
      have hcm := hat.mid
      rw [hq] at hcm
      have hst := hat.step (by omega) hxj c8 c9 c10 c5 c6 c4 c3 c7
      rw [hq, hc] at hst
      rw [hc] at hcd hcm
      obtain ⟨lo, hlo⟩ : ∃ lo, shlV x r = lo := ⟨_, rfl⟩
      obtain ⟨hi', hhi'⟩ : ∃ hi', shrV x (64 - r) = hi' := ⟨_, rfl⟩
      rw [← c1, ← c2, hlo, hhi', hq1] at hst
      have hor := orMid c (x % 2 ^ (64 - r).toNat) r.toNat hcd.1 hcm c5 (by rw [← c1, hlo]; exact hst.1)
      rw [← c1, hlo] at hor
      have HST : Hid (RaisedAt xs W (2 ^ r.toNat) (j + 1) ((L.set q (c + lo)).set q1 hi')) := hst.2
      have hlo0 : 0 ≤ lo := by rw [← hlo, c1]; exact Int.mul_nonneg c5 (by omega)
      have hsh := hst.1
      have HSHL : Hid (∀ w, Calls Tryz.prog 118 #[.int .u64 x, .int .i64 r] w fun e w' => e = .returned (.int .u64 lo) ∧ w' = w) := fun w => by
        rw [← hlo]; exact Go.Proofs.Tryz.Shl x r w hxd.1 hxd.2 (by omega) (by omega)
      have HSHR : Hid (∀ w, Calls Tryz.prog 117 #[.int .u64 x, .int .i64 (64 - r)] w fun e w' => e = .returned (.int .u64 hi') ∧ w' = w) := fun w => by
        rw [← hhi']; exact Go.Proofs.Tryz.Shr x (64 - r) w hxd.1 hxd.2 (by omega) (by omega)
      have hq1n : q1 < n := by have := HN.out; omega
      have hqn : q < n := by omega
      have hqs : (W : Int) + (j : Int) = (q : Int) := by omega
      have hq1s : (q : Int) + 1 = (q1 : Int) := by omega
      have HQ : Hid (q + 1 = q1) := hq1
      clear hst hrow hat hb hg hxj hc c1 c2 c3 c4 c5 c6 c7 c8 c9 c10 hlo hhi' hcm hq hq1
      go_wp2
      have hwq : IntKind.i64.wrap (q : Int) = (q : Int) := by simp [IntKind.wrap, IntKind.signed, IntKind.bits]; omega
      have hqn' : (q : Int) < (n : Int) := by omega
      have hfrd : wr.drew.frozen? ⟨w.heap.size, q, none⟩ = false := hfr
      have hccd : wr.drew.cell? ⟨w.heap.size, q, none⟩ = some (.int .u64 c) := hcc
      go_still_tail 11, (by kernel_rfl)
      still_call (HSHL.out _)
      repeat still_step
      refine wpStill_nil ?_
      change wpList _ _ _ _ _ wr.drew
      clear hcc hfr
      have HRW : Hid (RowOf wr.drew w.heap.size L) := HR.out.drew
      have HBW : Hid (Below w.heap.size w wr.drew) := HB.out.drew
      generalize wr.drew = W0 at *
      have HR1 : Hid (RowOf (W0.setCell ⟨w.heap.size, q, none⟩ (.int .u64 (c + lo))) w.heap.size (L.set q (c + lo))) := HRW.out.set _ _
      have hc1 : (W0.setCell ⟨w.heap.size, q, none⟩ (.int .u64 (c + lo))).cell? ⟨w.heap.size, q1, none⟩ = some (.int .u64 ((L.set q (c + lo)).getD q1 0)) := HR1.out.cell (by rw [List.length_set]; omega)
      have hf1 : (W0.setCell ⟨w.heap.size, q, none⟩ (.int .u64 (c + lo))).frozen? ⟨w.heap.size, q1, none⟩ = false := HR1.out.frozen q1
      have HR2 : Hid (RowOf ((W0.setCell ⟨w.heap.size, q, none⟩ (.int .u64 (c + lo))).setCell ⟨w.heap.size, q1, none⟩ (.int .u64 hi')) w.heap.size ((L.set q (c + lo)).set q1 hi')) := HR1.out.set _ _
      have HB2 : Hid (Below w.heap.size w ((W0.setCell ⟨w.heap.size, q, none⟩ (.int .u64 (c + lo))).setCell ⟨w.heap.size, q1, none⟩ (.int .u64 hi'))) := (HBW.out.setCell (Nat.le_refl _) _).setCell (Nat.le_refl _) _
      go_wp2_with (go_at_call 117; (with_reducible refine (HSHR.out _).mono ?_); rintro e w' ⟨rfl, rfl⟩)
      exact ⟨⟨j + 1, _, by simp, by omega, HR2.out, HST.out, HB2.out⟩, by simp [intOf]; omega⟩
end Go.Proofs.Wd
namespace Go.Proofs.Wd
open Go.RowKit
set_option linter.unusedVariables false
/-- The quotient and the rest, in rows of their own or none. -/
def QuIs (xs ys : List Int) (w : World) (e : Ending) : Prop := ∃ q r Q R, e = .returned (.tuple #[q, r]) ∧ Digs w q Q ∧ Digs w r R ∧ Dig Q ∧ Dig R ∧ val xs = val Q * val ys + val R ∧ 0 ≤ val R ∧ val R < val ys ∧ Q.length ≤ xs.length + 1 ∧ R.length ≤ xs.length + 1
set_option maxHeartbeats 4000000 in
set_option maxRecDepth 100000 in
theorem Tryz.quotientLess (v u : Value) (xs ys : List Int) (w : World) (hv : Digs w v xs) (hu : Digs w u ys) (hx : Dig xs) (hy : Dig ys) (tx : Top xs) (ty : Top ys) (hlen : xs.length ≤ 100000) (hlt : val xs < val ys) :
    Calls Tryz.prog 121 #[v, u] w fun e w' => QuIs xs ys w' e ∧ Below w.heap.size w w' := by
  have HC : Hid (Calls Tryz.prog 151 #[v, u] w fun e w' => e = .returned (.int .i64 (-1)) ∧ Below w.heap.size w w') := by
    refine (Tryz.compare v u xs ys w hv hu hx hy tx ty).mono ?_
    rintro e w' ⟨rfl, hb⟩
    exact ⟨by rw [cmpI_lt hlt], hb⟩
  have HV : Hid (Digs w v xs) := hv
  have HX : Hid (Dig xs) := hx
  have HLT : Hid (val xs < val ys) := hlt
  clear hv hu hx hy tx ty hlt
  go_enter Tryz.func121, Tryz.ntmps121
  go_wp2_with fail
  refine HC.out.mono ?_
  rintro e w1 ⟨rfl, hb1⟩
  have HV1 : Hid (Digs w1 v xs) := HV.out.below hb1 (Nat.le_refl _)
  have HB1 : Hid (Below w.heap.size w w1) := hb1
  clear hb1 HC HV
  go_wp2_with fail
  refine (Tryz.clone v xs _ HV1.out (by omega)).mono ?_
  rintro e w2 ⟨⟨r, rfl, hr⟩, hb2⟩
  have HR : Hid (Digs w2 r xs) := Digs.of_own hr
  have HB2 : Hid (Below w.heap.size w w2) := Below.after HB1.out hb2
  clear hr hb2
  go_wp2
  go_ret2
  exact ⟨⟨_, _, [], xs, rfl, Digs.nil _, HR.out, Dig.nil, HX.out, by simp, val_nonneg HX.out, HLT.out, by simp, by omega⟩, HB2.out⟩
set_option maxHeartbeats 4000000 in
set_option maxRecDepth 100000 in
theorem Tryz.quotientWord (v u : Value) (xs : List Int) (y : Int) (w : World) (hv : Digs w v xs) (hu : Digs w u [y]) (hx : Dig xs) (hy : Dig [y]) (tx : Top xs) (ty : Top [y]) (hlen : xs.length ≤ 100000) (hle : y ≤ val xs) (y1 : 1 ≤ y) :
    Calls Tryz.prog 121 #[v, u] w fun e w' => QuIs xs [y] w' e ∧ Below w.heap.size w w' := by
  obtain ⟨i0, hi, hz0, hz1, hz2⟩ := info_parts Tryz.info49
  have hvy : val [y] = y := by simp [val_cons]
  have HC : Hid (∃ c, 0 ≤ c ∧ Calls Tryz.prog 151 #[v, u] w fun e w' => e = .returned (.int .i64 c) ∧ Below w.heap.size w w') := by
    refine ⟨cmpI (val xs) (val [y]), ?_, Tryz.compare v u xs [y] w hv hu hx hy tx ty⟩
    unfold cmpI; rw [if_neg (by rw [hvy]; omega)]; split <;> omega
  obtain ⟨cc, cc0, HCC⟩ := HC.out
  have HC2 := HCC
  clear HC HCC
  obtain ⟨q, dap, rfl, -, hyr⟩ := hu.slice
  obtain ⟨gy, rfl, hgy⟩ := hyr (by simp)
  obtain ⟨p, cap, rfl, hxl, hxr⟩ := hv.slice
  have hxn : 0 < xs.length := by
    by_cases e : xs = []
    · subst e; simp at hle; omega
    · have : xs.length ≠ 0 := fun e2 => e (List.length_eq_zero_iff.1 e2)
      omega
  obtain ⟨gx, rfl, hgx⟩ := hxr hxn
  have hyc := hgy.cells 0 (by simp)
  simp only [List.getD_cons_zero] at hyc
  have hylt := hgy.lt
  have HX : Hid (Dig xs) := hx
  have HGX : Hid (RowAt w gx cap xs) := hgx
  have HVY : Hid (val [y] = y) := hvy
  have hy9 := (hy y (by simp)).2
  obtain ⟨n, hn⟩ : ∃ n, xs.length = n := ⟨_, rfl⟩
  have HN : Hid (xs.length = n) := hn
  rw [hn] at hxl hlen hxn HC2
  rw [hn]
  simp only [List.length_singleton] at HC2 ⊢
  clear hv hu hx hy tx ty hgx hgy hxr hyr hvy hn hle
  have HCH := Lib.hid HC2
  clear HC2
  go_enter Tryz.func121, Tryz.ntmps121
  go_wp2_with fail
  refine HCH.out.mono ?_
  rintro e w1 ⟨rfl, hb1⟩
  have hyc1 := (hb1.cell (p := ⟨gy, 0, none⟩) hylt).trans hyc
  have HB1 : Hid (Below w.heap.size w w1) := hb1
  have HGX1 : Hid (RowAt w1 gx cap xs) := HGX.out.below hb1 HGX.out.lt
  have hylt1 : gy < w1.heap.size := by have := hb1.size; omega
  clear hb1 HCH hyc
  go_wp2_with (first
    | (refine wpList_make_full _ rfl _ _ 90 rfl w1.heap.size 49 i0 (.int .u64 0) 1 Tryz.underlying90 hi hz0 hz1 .i64 .i64 _ _ n rfl rfl rfl rfl (by rw [hz2]; omega) (by unfold maxLen; omega) (by omega) ?_))
  intro w2 hown hgrow
  have hb2 : Below w1.heap.size w1 w2 := (Below.refl _ _).grown hgrow (Nat.le_refl _) (fun k hk => by cases hk)
  have HO : Hid (OwnAt w2 w1.heap.size w1.heap.size n (List.replicate n 0)) := by
    show World.ownsRow _ _ _ _ _ _ _
    rw [toList_madeCells_one] at hown
    rw [List.length_replicate, List.map_replicate]
    exact hown
  have hyc2 := (hb2.cell (p := ⟨gy, 0, none⟩) hylt1).trans hyc1
  have HB2 : Hid (Below w.heap.size w w2) := Below.after HB1.out hb2
  have HGX2 : Hid (RowAt w2 gx cap xs) := HGX1.out.below hb2 HGX1.out.lt
  clear hown hgrow hb2 hyc1
  have HBY := Tryz.byWord w1.heap.size n gx cap (List.replicate n 0) xs y w1.heap.size w2 HO.out (by rw [List.length_replicate, HN.out]) HX.out HGX2.out.cells y1 hy9 (by rw [HN.out]; omega)
  rw [HN.out] at HBY
  go_wp2_with fail
  with_reducible refine HBY.mono ?_
  clear HBY
  rintro e w3 ⟨⟨Q, r, rfl, ho3, hq3, hl3, hv3, r0, r1⟩, hg3⟩
  have HQ : Hid (Digs (w3.alloc (.cells #[.int .u64 r] 49)) (.slice (some ⟨w1.heap.size, 0, none⟩) n n) Q) := by
    have h := ho3.digs
    rw [hl3] at h
    exact h.below ((Below.refl _ _).alloc (Nat.le_refl _) _) (Nat.le_refl _)
  have HR : Hid (Digs (w3.alloc (.cells #[.int .u64 r] 49)) (.slice (some ⟨w3.heap.size, 0, none⟩) 1 1) [r]) := by
    have h : RowOf (w3.alloc (.cells #[.int .u64 r] 49)) w3.heap.size [r] := by unfold RowOf; show (w3.heap.push _)[w3.heap.size]? = _; simp
    exact h.digs (by unfold maxLen; simp)
  have HS : Hid (val xs = val Q * val [y] + val [r] ∧ 0 ≤ val [r] ∧ val [r] < val [y]) := by
    have e : val [r] = r := by simp [val_cons]
    rw [HVY.out, e, hv3, Int.mul_comm y]
    exact ⟨rfl, r0, r1⟩
  have HDQ : Hid (Dig Q) := hq3
  have HDR : Hid (Dig [r]) := fun d hd => by rw [List.mem_singleton.1 hd]; omega
  have HLQ : Hid (Q.length = n) := hl3
  have HB3 : Hid (Below w.heap.size w (w3.alloc (.cells #[.int .u64 r] 49))) := (HB2.out.grown hg3 (by have := HB2.out.size; exact this) (fun k hk => by cases hk; exact HB1.out.size)).alloc (by have := HB2.out.size; have := hg3.size; omega) _
  clear ho3 hq3 hl3 hv3 hg3
  go_wp2
  go_ret2
  exact ⟨⟨_, _, Q, [r], rfl, HQ.out, HR.out, HDQ.out, HDR.out, HS.out.1, HS.out.2.1, HS.out.2.2, by rw [HLQ.out, HN.out]; omega, by simp⟩, HB3.out⟩
end Go.Proofs.Wd
namespace Go.Proofs.Wd
open Go.RowKit
set_option linter.unusedVariables false
theorem RowOf.kept {w w' : World} {O : Nat} {L : List Int} {row : Option Nat} (h : RowOf w O L) (hg : w.grownBy w' row) (hne : some O ≠ row) : RowOf w' O L := by
  unfold RowOf; rw [hg.block O h.lt hne]; exact h
theorem RowAt.of_row {w : World} {O : Nat} {L : List Int} (h : RowOf w O L) (hl : L.length ≤ 1000000) (k : Nat) (hk : k ≤ L.length) : RowAt w O L.length (L.take k) :=
  ⟨h.lt, by rw [List.length_take]; omega, by unfold maxLen; omega, fun j hj => by
    have hj' : j < k := by rw [List.length_take] at hj; omega
    rw [h.cell (by omega)]
    simp only [List.getD, List.getElem?_take_of_lt hj']⟩
theorem RowAt.kept {w w' : World} {g cap : Nat} {xs : List Int} {row : Option Nat} (h : RowAt w g cap xs) (hg : w.grownBy w' row) (hne : some g ≠ row) : RowAt w' g cap xs :=
  ⟨by have := hg.size; have := h.lt; omega, h.fits, h.max, fun j hj => hg.cell (h.cells j hj) hne⟩
/-- By how many bits the top word is to be shifted. -/
theorem shift_of {y L : Int} (h : IsLen y L) (y1 : 1 ≤ y) : 0 ≤ 64 - L ∧ 64 - L ≤ 63 ∧ 9223372036854775808 ≤ y * 2 ^ (64 - L).toNat ∧ y * 2 ^ (64 - L).toNat + 2 ^ (64 - L).toNat ≤ 18446744073709551616 := by
  obtain ⟨a, b, c, d⟩ := h
  have hd := d.resolve_left (fun e => by omega)
  obtain ⟨d1, d2⟩ := hd
  have e1 : (2 : Int) ^ (L - 1).toNat * 2 ^ (64 - L).toNat = 9223372036854775808 := by
    rw [← Int.pow_add, show (L - 1).toNat + (64 - L).toNat = 63 by omega]; rfl
  have e2 : (2 : Int) ^ L.toNat * 2 ^ (64 - L).toNat = 18446744073709551616 := by
    rw [← Int.pow_add, show L.toNat + (64 - L).toNat = 64 by omega]; rfl
  have hS : (0 : Int) < 2 ^ (64 - L).toNat := Int.pow_pos (by omega)
  generalize (2 : Int) ^ (64 - L).toNat = S at *
  refine ⟨by omega, by omega, ?_, ?_⟩
  · rw [← e1]; exact Int.mul_le_mul_of_nonneg_right d2 (by omega)
  · have : (y + 1) * S ≤ 2 ^ L.toNat * S := Int.mul_le_mul_of_nonneg_right (by omega) (by omega)
    rw [Int.add_mul, Int.one_mul] at this
    omega
set_option maxHeartbeats 8000000 in
set_option maxRecDepth 100000 in
theorem Tryz.quotientLong (v u : Value) (xs ys : List Int) (n : Nat) (w : World) (hv : Digs w v xs) (hu : Digs w u ys) (hx : Dig xs) (hy : Dig ys) (tx : Top xs) (ty : Top ys) (hlen : xs.length ≤ 90000) (hle : val ys ≤ val xs) (hn : ys.length = n + 1) (n1 : 1 ≤ n) :
    Calls Tryz.prog 121 #[v, u] w fun e w' => QuIs xs ys w' e ∧ Below w.heap.size w w' := by
  obtain ⟨i0, hi, hz0, hz1, hz2⟩ := info_parts Tryz.info49
  have hyne : ys ≠ [] := fun e => by rw [e] at hn; simp at hn
  have hll : ys.length ≤ xs.length := by
    have h1 := top_pos hy ty hyne
    have h2 := val_lt hx
    by_cases g : ys.length ≤ xs.length
    · exact g
    · have := pow_mono' (i := xs.length) (j := ys.length - 1) (by omega)
      omega
  have HC : Hid (∃ c, 0 ≤ c ∧ Calls Tryz.prog 151 #[v, u] w fun e w' => e = .returned (.int .i64 c) ∧ Below w.heap.size w w') := by
    refine ⟨cmpI (val xs) (val ys), ?_, Tryz.compare v u xs ys w hv hu hx hy tx ty⟩
    unfold cmpI; rw [if_neg (by omega)]; split <;> omega
  obtain ⟨cc, cc0, HCC⟩ := HC.out
  clear HC
  obtain ⟨yt, hyt⟩ : ∃ yt, ys.getD n 0 = yt := ⟨_, rfl⟩
  have hytd := hy.get n
  rw [hyt] at hytd
  have hyt1 : 1 ≤ yt := by
    rcases ty with e | e
    · exact absurd e hyne
    · rw [hn, Nat.add_sub_cancel, hyt] at e; omega
  have HV : Hid (Digs w v xs) := hv
  have HU : Hid (Digs w u ys) := hu
  have HX : Hid (Dig xs) := hx
  have HY : Hid (Dig ys) := hy
  have HYT : Hid (ys.getD n 0 = yt) := hyt
  have HTY : Hid (Top ys) := ty
  obtain ⟨q, dap, rfl, -, hyr⟩ := hu.slice
  obtain ⟨gy, rfl, hgy⟩ := hyr (by omega)
  have hyc := hgy.cells n (by omega)
  rw [hyt] at hyc
  have hylt := hgy.lt
  obtain ⟨m, hm⟩ : ∃ m, xs.length = m := ⟨_, rfl⟩
  have HM : Hid (xs.length = m) := hm
  have HN : Hid (ys.length = n + 1) := hn
  have HCH := Lib.hid HCC
  rw [hm] at hlen hll
  rw [hn] at hll HU HCH ⊢
  clear hv hu hx hy tx ty hgy hyr hyne hyt hm hn hle HCC
  go_enter Tryz.func121, Tryz.ntmps121
  go_wp2_with fail
  refine HCH.out.mono ?_
  rintro e w1 ⟨rfl, hb1⟩
  have hyc1 := (hb1.cell (p := ⟨gy, n, none⟩) hylt).trans hyc
  have HB1 : Hid (Below w.heap.size w w1) := hb1
  have HV1 : Hid (Digs w1 v xs) := HV.out.below hb1 (Nat.le_refl _)
  have HU1 : Hid (Digs w1 (.slice (some ⟨gy, 0, none⟩) (n + 1) dap) ys) := HU.out.below hb1 (Nat.le_refl _)
  clear hb1 HCH hyc HV HU
  have hnn : ((n : Int) + 1 == 1) = false := by simp; omega
  go_wp2_with fail
  refine (Tryz.Len yt _ (by omega) hytd.2).mono ?_
  rintro e w2 ⟨⟨Ln, hL, rfl⟩, rfl⟩
  obtain ⟨s0, s1, slo, shi⟩ := shift_of hL hyt1
  obtain ⟨s, hs⟩ : ∃ s, 64 - Ln = s := ⟨_, rfl⟩
  rw [hs] at s0 s1 slo shi
  have HSL : Hid (9223372036854775808 ≤ yt * 2 ^ s.toNat ∧ yt * 2 ^ s.toNat + 2 ^ s.toNat ≤ 18446744073709551616) := ⟨slo, shi⟩
  have hLl := hL.lo
  have hLh := hL.hi
  clear hL slo shi hyc1
  go_wp2_with fail
  refine (Tryz.raisedX v xs s _ HV1.out HX.out s0 (by omega) (by rw [HM.out]; omega)).mono ?_
  rintro e w3 ⟨⟨R, rfl, hr3, hR3, hRl, hRv⟩, hb3⟩
  have hRl' : R.length = m + 1 := by rw [hRl, HM.out, show (s / 64).toNat = 0 by omega]; omega
  have HRL : Hid (R.length = m + 1) := hRl'
  have HRD : Hid (Dig R) := hR3
  have HRV : Hid (val R = val xs * 2 ^ s.toNat) := hRv
  have HR3 : Hid (RowOf w3 w2.heap.size R) := hr3
  have hgr : w2.heap.size < w3.heap.size := hr3.lt
  obtain ⟨gr, hgrr⟩ : ∃ gr, w2.heap.size = gr := ⟨_, rfl⟩
  have HB3 : Hid (Below w.heap.size w w3) := Below.after HB1.out hb3
  have HU3 : Hid (Digs w3 (.slice (some ⟨gy, 0, none⟩) (n + 1) dap) ys) := HU1.out.below hb3 (Nat.le_refl _)
  have hgw : w.heap.size ≤ gr := by have := HB1.out.size; omega
  rw [hRl']
  rw [hgrr] at HR3 hgr ⊢
  clear hr3 hR3 hRl hRl' hRv hb3 HU1 HV1 hgrr
  go_wp2_with fail
  refine (Tryz.raisedX _ ys s _ HU3.out HY.out s0 (by omega) (by rw [HN.out]; omega)).mono ?_
  rintro e w4 ⟨⟨L, rfl, hr4, hL4, hLl4, hLv⟩, hb4⟩
  have hLl4' : L.length = n + 2 := by rw [hLl4, HN.out, show (s / 64).toNat = 0 by omega]; omega
  have HLL : Hid (L.length = n + 2) := hLl4'
  have HR4 : Hid (RowOf w4 gr R) := HR3.out.below hb4 hgr
  have HL4 : Hid (RowOf w4 w3.heap.size L) := hr4
  have HLD : Hid (Dig L) := hL4
  have HLV : Hid (val L = val ys * 2 ^ s.toNat) := hLv
  have HB4 : Hid (Below w.heap.size w w4) := Below.after HB3.out hb4
  obtain ⟨gl, hgl⟩ : ∃ gl, w3.heap.size = gl := ⟨_, rfl⟩
  have hgl4 : gl < w4.heap.size := by rw [← hgl]; exact hr4.lt
  have hne : gl ≠ gr := by omega
  have hgw2 : w.heap.size ≤ gl := by omega
  rw [hLl4']
  rw [hgl] at HL4 ⊢
  clear hr4 hL4 hLl4 hLl4' hLv hb4 HU3 HR3 hgl hgr
  have HTRIM : Hid (Calls Tryz.prog 89 #[.slice (some ⟨gl, 0, none⟩) (n + 2) (n + 2)] w4 fun e w' => (e = .returned (.slice (some ⟨gl, 0, none⟩) (n + 1) (n + 2)) ∧ 9223372036854775808 ≤ (L.take (n + 1)).getD n 0 ∧ val (L.take (n + 1)) = val ys * 2 ^ s.toNat) ∧ w' = w4) := by
    have h := Tryz.trim (some ⟨gl, 0, none⟩) L.length L w4 (HL4.out.digs (by rw [HLL.out]; unfold maxLen; omega))
    refine Calls.mono (by rw [HLL.out] at h; exact h) ?_
    rintro e w' ⟨⟨k, rfl, hk, ht, hv⟩, rfl⟩
    have hnm := normal (n := n) HY.out HTY.out HN.out s0 s1 HYT.out HSL.out.1 HSL.out.2 (HLD.out.take k) ht (by rw [hv, HLV.out])
    have hk2 : k = n + 1 := by
      have h5 := hnm.1
      rw [List.length_take, HLL.out] at h5
      omega
    subst hk2
    exact ⟨⟨rfl, hnm.2, by rw [hv, HLV.out]⟩, rfl⟩
  go_wp2_with fail
  refine HTRIM.out.mono ?_
  clear HTRIM
  rintro e w5 ⟨⟨rfl, htop, hvy⟩, rfl⟩
  obtain ⟨zs, hzs⟩ : ∃ zs, L.take (n + 1) = zs := ⟨_, rfl⟩
  have HZL : Hid (zs.length = n + 1) := by show _ = _; rw [← hzs, List.length_take, HLL.out]; omega
  have HZD : Hid (Dig zs) := by rw [← hzs]; exact HLD.out.take _
  rw [hzs] at htop hvy
  have HTOP : Hid (9223372036854775808 ≤ zs.getD n 0) := htop
  have HVY : Hid (val zs = val ys * 2 ^ s.toNat) := hvy
  have HZA : Hid (RowAt w5 gl (n + 2) zs) := by
    have h := RowAt.of_row HL4.out (by rw [HLL.out]; omega) (n + 1) (by rw [HLL.out]; omega)
    rw [HLL.out, hzs] at h
    exact h
  clear htop hvy hzs HL4
  obtain ⟨lq, hlq⟩ : ∃ lq, m - n = lq := ⟨_, rfl⟩
  have hlq1 : lq + n = m := by omega
  have hlq0 : 1 ≤ lq := by omega
  have HQS : Hid (QuAt (val xs * 2 ^ s.toNat) zs lq (m + 1) lq (List.replicate lq 0) R) := by
    rw [← hlq]; exact QuAt.start HX.out HM.out HRD.out HRL.out HRV.out s0 s1 HZD.out HZL.out HTOP.out (by omega)
  clear hlq
  go_wp2_with (first
    | (refine wpList_make_full _ rfl _ _ 90 rfl w5.heap.size 49 i0 (.int .u64 0) 1 Tryz.underlying90 hi hz0 hz1 .i64 .i64 ((m : Int) + 1 - ((n : Int) + 1)) ((m : Int) + 1 - ((n : Int) + 1)) lq rfl rfl (by omega) (by omega) (by rw [hz2]; omega) (by unfold maxLen; omega) (by omega) ?_))
  intro w6 hown hgrow
  have hb6 : Below w5.heap.size w5 w6 := (Below.refl _ _).grown hgrow (Nat.le_refl _) (fun k hk => by cases hk)
  obtain ⟨gq, hgq⟩ : ∃ gq, w5.heap.size = gq := ⟨_, rfl⟩
  have hrow : RowOf w6 gq (List.replicate lq 0) := by
    rw [← hgq]
    exact RowOf.of_made (by rw [toList_madeCells_one] at hown; exact hown)
  have HQ6 : Hid (RowOf w6 gq (List.replicate lq 0)) := hrow
  have HR6 : Hid (RowOf w6 gr R) := HR4.out.below hb6 HR4.out.lt
  have HZ6 : Hid (RowAt w6 gl (n + 2) zs) := HZA.out.below hb6 hgl4
  have HB6 : Hid (Below w.heap.size w w6) := Below.after HB4.out hb6
  have hrq : gr < gq := by rw [← hgq]; exact HR4.out.lt
  have hlq2 : gl < gq := by rw [← hgq]; exact hgl4
  have hgw3 : w.heap.size ≤ gq := by omega
  rw [hgq]
  clear hown hgrow hb6 hrow hgq HR4 HZA HB4
  go_wp2
  go_loopw [7] (fun i wr => ∃ (k : Nat) (Q S : List Int), i = .int .i64 ((k : Int) - 1) ∧ k ≤ lq ∧ QuAt (val xs * 2 ^ s.toNat) zs lq (m + 1) k Q S ∧ RowOf wr gq Q ∧ RowOf wr gr S ∧ RowAt wr gl (n + 2) zs ∧ Below w.heap.size w wr) (fun i _ => (intOf i + 1).toNat)
  case atStart => exact ⟨lq, _, _, rfl, Nat.le_refl _, HQS.out, HQ6.out, HR6.out, HZ6.out, HB6.out⟩
  case round =>
    obtain ⟨k, Q, S, rfl, hk, hat, hq, hr, hz, hb⟩ := hrel
    have HA : Hid (QuAt (val xs * 2 ^ s.toNat) zs lq (m + 1) k Q S) := hat
    have HQ : Hid (RowOf wr gq Q) := hq
    have HR : Hid (RowOf wr gr S) := hr
    have HZ : Hid (RowAt wr gl (n + 2) zs) := hz
    have HB : Hid (Below w.heap.size w wr) := hb
    clear hq hr hz hb hat HQ6 HR6 HZ6 HB6 HQS
    cases k with
    | zero =>
      have hsl : S.length = m + 1 := HA.out.rl
      have HTR : Hid (∀ W, RowOf W gr S → Calls Tryz.prog 89 #[.slice (some ⟨gr, 0, none⟩) (m + 1) (m + 1)] W fun e w' => (∃ j : Nat, e = .returned (.slice (some ⟨gr, 0, none⟩) j (m + 1)) ∧ j ≤ m + 1 ∧ val (S.take j) = val S ∧ Digs W (.slice (some ⟨gr, 0, none⟩) j (m + 1)) (S.take j)) ∧ w' = W) := fun W hW => by
        have hd := hW.digs (by rw [hsl]; unfold maxLen; omega)
        have h := Tryz.trim (some ⟨gr, 0, none⟩) S.length S W hd
        refine Calls.mono (by rw [hsl] at h; exact h) ?_
        rintro e w' ⟨⟨j, rfl, hj, -, hv⟩, rfl⟩
        have hd2 := hd.take j (by rw [hsl]; omega)
        rw [hsl] at hd2
        exact ⟨⟨j, rfl, hj, hv, hd2⟩, rfl⟩
      have HSL2 : Hid (S.length = m + 1) := hsl
      clear hsl
      go_wp2_with fail
      with_reducible refine (HTR.out _ HR.out).mono ?_
      clear HTR
      rintro e w7 ⟨⟨j, rfl, hj, hjv, hjd⟩, rfl⟩
      have HJV : Hid (val (S.take j) = val S) := hjv
      have HJD : Hid (Digs w7 (.slice (some ⟨gr, 0, none⟩) j (m + 1)) (S.take j)) := hjd
      clear hjv hjd
      go_wp2_with fail
      with_reducible refine (Tryz.lowered _ (S.take j) s _ HJD.out (HA.out.rd.take j) s0 (by omega) (by rw [List.length_take, HSL2.out]; omega)).mono ?_
      rintro e w8 ⟨⟨v8, T, rfl, hT8, hTd, hTl, hTv⟩, hb8⟩
      have HT8 : Hid (Digs w8 v8 T) := hT8
      have HTD : Hid (Dig T) := hTd
      have HTV : Hid (val T = val S / 2 ^ s.toNat) := by show _ = _; rw [hTv, HJV.out]
      have HTL : Hid (T.length ≤ m + 1) := by
        show _ ≤ _
        rw [List.length_take, HSL2.out] at hTl; omega
      have HQ8 : Hid (Digs w8 (.slice (some ⟨gq, 0, none⟩) lq lq) Q) := by
        have h := (HQ.out.below hb8 HQ.out.lt).digs (by rw [HA.out.ql]; unfold maxLen; omega)
        rw [HA.out.ql] at h
        exact h
      have HB8 : Hid (Below w.heap.size w w8) := Below.after HB.out hb8
      clear hT8 hTd hTl hTv hb8
      go_wp2
      go_ret2
      have hlast := HA.out.last HVY.out (Int.pow_pos (by omega))
      rw [← HTV.out] at hlast
      exact ⟨⟨_, _, Q, T, rfl, HQ8.out, HT8.out, HA.out.qd, HTD.out, hlast.1, hlast.2.1, hlast.2.2, by rw [HA.out.ql, HM.out]; omega, by rw [HM.out]; exact HTL.out⟩, HB8.out⟩
    | succ k =>
      rw [show ((k + 1 : Nat) : Int) - 1 = k by omega]
      have HTAKE : Hid (Calls Tryz.prog 158 #[.slice (some ⟨gr, k, none⟩) (k + (n + 1) + 1 - k) (m + 1 - k), .slice (some ⟨gl, 0, none⟩) (n + 1) (n + 2)] wr fun e w' => (∃ q M, e = .returned (.int .u64 q) ∧ RowOf w' gr M ∧ Taken S zs k q M) ∧ wr.grownBy w' (some gr)) := by
        have hin : TakeIn S zs k (n + 1) := ⟨HZL.out, by omega, HA.out.rd, HZD.out, by rw [HA.out.rl]; omega, by rw [HA.out.rl]; omega, HTOP.out, HA.out.less⟩
        have h : ∀ N : Nat, N = n + 1 + 1 → Calls Tryz.prog 158 #[.slice (some ⟨gr, k, none⟩) N (m + 1 - k), .slice (some ⟨gl, 0, none⟩) (n + 1) (n + 2)] wr fun e w' => (∃ q M, e = .returned (.int .u64 q) ∧ RowOf w' gr M ∧ Taken S zs k q M) ∧ wr.grownBy w' (some gr) := fun N hN => by
          subst hN
          exact Tryz.takeDigit gr k (n + 1) (m + 1 - k) gl (n + 2) S zs wr hin HR.out HZ.out hne (by omega) (by omega)
        exact h _ (by omega)
      go_wp2_with fail
      with_reducible refine HTAKE.out.mono ?_
      clear HTAKE
      rintro e w7 ⟨⟨q, M, rfl, hM, hTk⟩, hg7⟩
      have hlt7 : gr < w7.heap.size := hM.lt
      have HAT : Hid (QuAt (val xs * 2 ^ s.toNat) zs lq (m + 1) k (Q.set k q) M) := HA.out.step (by omega) hTk
      have HM7 : Hid (RowOf w7 gr M) := hM
      have HQ7 : Hid (RowOf w7 gq Q) := HQ.out.kept hg7 (by simp; omega)
      have HZ7 : Hid (RowAt w7 gl (n + 2) zs) := HZ.out.kept hg7 (by simp; omega)
      have HB7 : Hid (Below w.heap.size w w7) := HB.out.grown hg7 (by have := HB.out.size; exact this) (fun k hk => by cases hk; exact hgw)
      obtain ⟨c, hc⟩ : ∃ c, Q.getD k 0 = c := ⟨_, rfl⟩
      have hcq := HQ7.out.cell (j := k) (by rw [HA.out.ql]; omega)
      rw [hc] at hcq
      have hfq := HQ7.out.frozen k
      clear hM hTk hg7 hc
      go_wp2
      exact ⟨⟨k, _, M, rfl, by omega, HAT.out, HQ7.out.set k q, HM7.out.kept (grownBy_set (grownBy_refl _ (some gq)) k none _) (by simp; omega), HZ7.out.kept (grownBy_set (grownBy_refl _ (some gq)) k none _) (by simp; omega), HB7.out.setCell (by omega) _⟩, by simp [intOf]⟩
end Go.Proofs.Wd
