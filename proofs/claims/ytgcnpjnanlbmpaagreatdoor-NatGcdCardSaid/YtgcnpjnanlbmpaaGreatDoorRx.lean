/- What raised of the package nat returns, with the number of its words. -/
import Derived.Test.YtgcnpjnanlbmpaaGreatDoorWd3
namespace Go.Proofs.Wd
open Go.RowKit
set_option linter.unusedVariables false
set_option maxHeartbeats 4000000 in
set_option maxRecDepth 100000 in
theorem Tryz.raisedX (v : Value) (xs : List Int) (k : Int) (w : World) (h : Digs w v xs) (hx : Dig xs) (k0 : 0 ≤ k) (k1 : k ≤ 100000) (hlen : xs.length ≤ 1000000) :
    Calls Tryz.prog 93 #[v, .int .i64 k] w fun e w' => (∃ L, e = .returned (.slice (some ⟨w.heap.size, 0, none⟩) L.length L.length) ∧ RowOf w' w.heap.size L ∧ Dig L ∧ L.length = (k / 64).toNat + xs.length + 1 ∧ val L = val xs * 2 ^ k.toNat) ∧ Below w.heap.size w w' := by
  obtain ⟨p, cap, rfl, hxl, hxr⟩ := h.slice
  obtain ⟨i0, hi, hz0, hz1, hz2⟩ := info_parts Tryz.info22
  have HX : Hid (0 < xs.length → ∃ g, p = some ⟨g, 0, none⟩ ∧ RowAt w g cap xs) := hxr
  clear hxr h
  obtain ⟨W, hW⟩ : ∃ W : Nat, k / 64 = W := ⟨(k / 64).toNat, by omega⟩
  obtain ⟨r, hr⟩ : ∃ r : Int, k % 64 = r := ⟨_, rfl⟩
  have hk : k = 64 * W + r ∧ 0 ≤ r ∧ r ≤ 63 := by omega
  obtain ⟨hk, r0, r1⟩ := hk
  have HK : Hid (k = 64 * W + r) := hk
  have hW1 : W ≤ 1563 := by omega
  clear hk
  obtain ⟨l, hl⟩ : ∃ l, xs.length = l := ⟨_, rfl⟩
  rw [hl] at hxl hlen HX
  obtain ⟨n', hn'⟩ : ∃ n' : Int, (W : Int) + l = n' := ⟨_, rfl⟩
  obtain ⟨n, hn⟩ : ∃ n : Nat, n' + 1 = n := ⟨W + l + 1, by omega⟩
  have HN : Hid (n = W + l + 1) := show n = W + l + 1 by omega
  have hn0 : n ≤ 1001564 := by omega
  rw [hl]
  go_enter Tryz.func93, Tryz.ntmps93
  go_wp2_with (first
    | (refine wpList_make_full _ rfl _ _ 86 rfl w.heap.size 22 i0 (.int .u64 0) 1 Tryz.underlying86 hi hz0 hz1 .i64 .i64 _ _ n rfl rfl rfl rfl (by rw [hz2]; omega) (by unfold maxLen; omega) (by omega) ?_))
  intro w1 hown hgrow
  have hrow1 := RowOf.of_made (by rw [toList_madeCells_one] at hown; exact hown)
  have hb1 : Below w.heap.size w w1 := (Below.refl _ _).grown hgrow (Nat.le_refl _) (fun k hk => by cases hk)
  clear hown hgrow
  go_wp2
  go_loopw [22] (fun i wr => ∃ (j : Nat) (L : List Int), i = .int .i64 j ∧ j ≤ l ∧ RowOf wr w.heap.size L ∧ RaisedAt xs W (2 ^ r.toNat) j L ∧ Below w.heap.size w wr) (fun i _ => l - (intOf i).toNat)
  case atStart => exact ⟨0, List.replicate n 0, rfl, by omega, hrow1, by rw [HN.out, ← hl]; exact RaisedAt.start xs W (Int.pow_pos (by omega)), hb1⟩
  case round =>
    obtain ⟨j, L, rfl, hj, hrow, hat, hb⟩ := hrel
    have HA : Hid (RaisedAt xs W (2 ^ r.toNat) j L) := hat
    have HB : Hid (Below w.heap.size w wr) := hb
    have HR : Hid (RowOf wr w.heap.size L) := hrow
    have hLn : L.length = n := by rw [hat.len, HN.out, hl]
    by_cases hjl : j = l
    · subst hjl
      clear hrow hat hb
      go_wp2
      go_ret
      refine ⟨⟨L, by rw [hLn]; rfl, HR.out, HA.out.digs, by omega, ?_⟩, HB.out⟩
      rw [HA.out.sum, List.take_of_length_le (by omega), pow64, ← Int.pow_add, Int.mul_comm, show 64 * W + r.toNat = k.toNat by have := HK.out; omega]
    · obtain ⟨x, hxj⟩ : ∃ x, xs.getD j 0 = x := ⟨_, rfl⟩
      have hxd := hx.get j
      rw [hxj] at hxd
      obtain ⟨c1, c2, c3, c4, c5, c6, c7, c8, c9, c10⟩ := cutWord hxd.1 hxd.2 r0 r1
      obtain ⟨g, rfl, hg⟩ := HX.out (by omega)
      have hcx := (hb.cell (p := ⟨g, j, none⟩) hg.lt).trans (hg.cells j (by omega))
      rw [hxj] at hcx
      have hgO : g ≠ w.heap.size := by have := hg.lt; omega
      obtain ⟨q, hq⟩ : ∃ q : Nat, W + j = q := ⟨_, rfl⟩
      obtain ⟨q1, hq1⟩ : ∃ q1 : Nat, q + 1 = q1 := ⟨_, rfl⟩
      obtain ⟨c, hc⟩ : ∃ c, L.getD q 0 = c := ⟨_, rfl⟩
      have hcc := hrow.cell (j := q) (by omega)
      rw [hc] at hcc
      have hfr := hrow.frozen q
      have hcd := hat.dig q
      have hcm := hat.mid
      rw [hq] at hcm
      have hst := hat.step (by omega) hxj c8 c9 c10 c5 c6 c4 c3 c7
      rw [hq, hc] at hst
      rw [hc] at hcd hcm
      obtain ⟨lo, hlo⟩ : ∃ lo, shlV x r = lo := ⟨_, rfl⟩
      obtain ⟨hi', hhi'⟩ : ∃ hi', shrV x (64 - r) = hi' := ⟨_, rfl⟩
      rw [← c1, ← c2, hlo, hhi', hq1] at hst
      have hor := orMid c (x % 2 ^ (64 - r).toNat) r.toNat hcd.1 hcm c5 (by rw [← c1, hlo]; exact hst.1)
      rw [← c1, hlo] at hor
      have HST : Hid (RaisedAt xs W (2 ^ r.toNat) (j + 1) ((L.set q (c + lo)).set q1 hi')) := hst.2
      have hlo0 : 0 ≤ lo := by rw [← hlo, c1]; exact Int.mul_nonneg c5 (by omega)
      have hsh := hst.1
      have HSHL : Hid (∀ w, Calls Tryz.prog 140 #[.int .u64 x, .int .i64 r] w fun e w' => e = .returned (.int .u64 lo) ∧ w' = w) := fun w => by
        rw [← hlo]; exact Tryz.Shl x r w hxd.1 hxd.2 (by omega) (by omega)
      have HSHR : Hid (∀ w, Calls Tryz.prog 139 #[.int .u64 x, .int .i64 (64 - r)] w fun e w' => e = .returned (.int .u64 hi') ∧ w' = w) := fun w => by
        rw [← hhi']; exact Tryz.Shr x (64 - r) w hxd.1 hxd.2 (by omega) (by omega)
      have hq1n : q1 < n := by have := HN.out; omega
      have hqn : q < n := by omega
      have hqs : (W : Int) + (j : Int) = (q : Int) := by omega
      have hq1s : (q : Int) + 1 = (q1 : Int) := by omega
      have HQ : Hid (q + 1 = q1) := hq1
      clear hst hrow hat hb hg hxj hc c1 c2 c3 c4 c5 c6 c7 c8 c9 c10 hlo hhi' hcm hq hq1
      go_wp2
      have hwq : IntKind.i64.wrap (q : Int) = (q : Int) := by simp [IntKind.wrap, IntKind.signed, IntKind.bits]; omega
      have hqn' : (q : Int) < (n : Int) := by omega
      have hfrd : wr.drew.frozen? ⟨w.heap.size, q, none⟩ = false := hfr
      have hccd : wr.drew.cell? ⟨w.heap.size, q, none⟩ = some (.int .u64 c) := hcc
      go_still_tail 11, (by kernel_rfl)
      still_call (HSHL.out _)
      repeat still_step
      refine wpStill_nil ?_
      change wpList _ _ _ _ _ wr.drew
      clear hcc hfr
      have HRW : Hid (RowOf wr.drew w.heap.size L) := HR.out.drew
      have HBW : Hid (Below w.heap.size w wr.drew) := HB.out.drew
      generalize wr.drew = W0 at *
      have HR1 : Hid (RowOf (W0.setCell ⟨w.heap.size, q, none⟩ (.int .u64 (c + lo))) w.heap.size (L.set q (c + lo))) := HRW.out.set _ _
      have hc1 : (W0.setCell ⟨w.heap.size, q, none⟩ (.int .u64 (c + lo))).cell? ⟨w.heap.size, q1, none⟩ = some (.int .u64 ((L.set q (c + lo)).getD q1 0)) := HR1.out.cell (by rw [List.length_set]; omega)
      have hf1 : (W0.setCell ⟨w.heap.size, q, none⟩ (.int .u64 (c + lo))).frozen? ⟨w.heap.size, q1, none⟩ = false := HR1.out.frozen q1
      have HR2 : Hid (RowOf ((W0.setCell ⟨w.heap.size, q, none⟩ (.int .u64 (c + lo))).setCell ⟨w.heap.size, q1, none⟩ (.int .u64 hi')) w.heap.size ((L.set q (c + lo)).set q1 hi')) := HR1.out.set _ _
      have HB2 : Hid (Below w.heap.size w ((W0.setCell ⟨w.heap.size, q, none⟩ (.int .u64 (c + lo))).setCell ⟨w.heap.size, q1, none⟩ (.int .u64 hi'))) := (HBW.out.setCell (Nat.le_refl _) _).setCell (Nat.le_refl _) _
      go_wp2_with (go_at_call 139; (with_reducible refine (HSHR.out _).mono ?_); rintro e w' ⟨rfl, rfl⟩)
      exact ⟨⟨j + 1, _, by simp, by omega, HR2.out, HST.out, HB2.out⟩, by simp [intOf]; omega⟩
end Go.Proofs.Wd
