/- What raised of the package nat returns: the number by a power of two. -/
import Derived.Test.YtgcnpjnanlbmpaaGreatDoorWd2
import Derived.Deep.RegionWith
import Derived.StillTailTactics
namespace Go.Proofs.Wd
open Go.RowKit
set_option linter.unusedVariables false
theorem orMid (a lo : Int) (p : Nat) (a0 : 0 ≤ a) (a1 : a < 2 ^ p) (l0 : 0 ≤ lo) (h : a + lo * 2 ^ p ≤ 18446744073709551615) : bits .or .u64 a (lo * 2 ^ p) = a + lo * 2 ^ p := by
  obtain ⟨A, rfl⟩ := Int.eq_ofNat_of_zero_le a0
  obtain ⟨L, rfl⟩ := Int.eq_ofNat_of_zero_le l0
  have e2 : (2 : Int) ^ p = ((2 ^ p : Nat) : Int) := by norm_cast
  have e : (L : Int) * 2 ^ p = ((L * 2 ^ p : Nat) : Int) := by rw [e2]; norm_cast
  have hA : A < 2 ^ p := by rw [e2] at a1; exact Int.ofNat_lt.1 a1
  have key : L * 2 ^ p ||| A = L * 2 ^ p + A := by
    have := Nat.shiftLeft_add_eq_or_of_lt (i := p) hA L
    rw [Nat.shiftLeft_eq] at this
    exact this.symm
  rw [e] at h ⊢
  rw [bits_or_u64_nat _ _ (by omega) (by omega), Nat.or_comm, key]
  omega
/-- The two halves of a word that is shifted: P = 2^p, Q = 2^(64-p). -/
theorem cutWord {x : Int} {p : Int} (h0 : 0 ≤ x) (h1 : x ≤ 18446744073709551615) (p0 : 0 ≤ p) (p1 : p ≤ 63) :
    shlV x p = x % 2 ^ (64 - p).toNat * 2 ^ p.toNat ∧ shrV x (64 - p) = x / 2 ^ (64 - p).toNat ∧ x / 2 ^ (64 - p).toNat < 2 ^ p.toNat ∧ 0 ≤ x / 2 ^ (64 - p).toNat ∧ 0 ≤ x % 2 ^ (64 - p).toNat ∧ x % 2 ^ (64 - p).toNat < 2 ^ (64 - p).toNat ∧
    x % 2 ^ (64 - p).toNat + 2 ^ (64 - p).toNat * (x / 2 ^ (64 - p).toNat) = x ∧ (2 : Int) ^ p.toNat * 2 ^ (64 - p).toNat = 18446744073709551616 ∧ (0 : Int) < 2 ^ p.toNat ∧ (0 : Int) < 2 ^ (64 - p).toNat := by
  have hP : (0 : Int) < 2 ^ p.toNat := Int.pow_pos (by omega)
  have hQ : (0 : Int) < 2 ^ (64 - p).toNat := Int.pow_pos (by omega)
  have hPQ : (2 : Int) ^ p.toNat * 2 ^ (64 - p).toNat = 18446744073709551616 := by
    rw [← Int.pow_add, show p.toNat + (64 - p).toNat = 64 by omega]; rfl
  rw [shlPos x p p0 (by omega), shrPos x (64 - p) (by omega) (by omega)]
  generalize (2 : Int) ^ p.toNat = P at *
  generalize (2 : Int) ^ (64 - p).toNat = Q at *
  refine ⟨?_, rfl, ?_, Int.ediv_nonneg h0 (by omega), Int.emod_nonneg _ (by omega), Int.emod_lt_of_pos _ hQ, Int.emod_add_mul_ediv x Q, hPQ, hP, hQ⟩
  · rw [← hPQ, Int.mul_comm x P, Int.mul_emod_mul_of_pos _ _ hP, Int.mul_comm]
  · exact Int.ediv_lt_of_lt_mul hQ (by omega)
theorem pow64 (n : Nat) : (18446744073709551616 : Int) ^ n = 2 ^ (64 * n) := by
  rw [Int.pow_mul]; rfl
/-- What holds at the head of raised's loop: W words further, p bits. -/
structure RaisedAt (xs : List Int) (W : Nat) (P : Int) (i : Nat) (L : List Int) : Prop where
  len : L.length = W + xs.length + 1
  dig : ∀ j, 0 ≤ L.getD j 0 ∧ L.getD j 0 ≤ 18446744073709551615
  mid : L.getD (W + i) 0 < P
  rest : ∀ j, W + i < j → L.getD j 0 = 0
  sum : val L = 18446744073709551616 ^ W * P * val (xs.take i)
theorem RaisedAt.start (xs : List Int) (W : Nat) {P : Int} (hP : 0 < P) : RaisedAt xs W P 0 (List.replicate (W + xs.length + 1) 0) := by
  have z : ∀ j, (List.replicate (W + xs.length + 1) (0 : Int)).getD j 0 = 0 := fun j => by
    simp [List.getD, List.getElem?_replicate]; split <;> simp
  refine ⟨by simp, fun j => by rw [z]; omega, by rw [z]; exact hP, fun j _ => z j, by rw [val_zeros]; simp⟩
theorem RaisedAt.step {xs L : List Int} {W i : Nat} {P Q x lo hi : Int} (h : RaisedAt xs W P i L) (hi' : i < xs.length) (hx : xs.getD i 0 = x) (hPQ : P * Q = 18446744073709551616) (hP : 0 < P) (hQ : 0 < Q)
    (lo0 : 0 ≤ lo) (lo1 : lo < Q) (hi0 : 0 ≤ hi) (hi1 : hi < P) (hsum : lo + Q * hi = x) :
    L.getD (W + i) 0 + lo * P ≤ 18446744073709551615 ∧ RaisedAt xs W P (i + 1) ((L.set (W + i) (L.getD (W + i) 0 + lo * P)).set (W + i + 1) hi) := by
  have hl := h.len
  have hm := h.mid
  have hd := h.dig (W + i)
  have hr := h.rest (W + i + 1) (by omega)
  have hloP : lo * P ≤ (Q - 1) * P := Int.mul_le_mul_of_nonneg_right (by omega) (by omega)
  have e1 : (Q - 1) * P = 18446744073709551616 - P := by rw [Int.sub_mul, Int.mul_comm Q P, hPQ]; omega
  have hlo0 : 0 ≤ lo * P := Int.mul_nonneg lo0 (by omega)
  have hPB : P ≤ 18446744073709551616 := by
    have : P * 1 ≤ P * Q := Int.mul_le_mul_of_nonneg_left (by omega) (by omega)
    omega
  have hcell : L.getD (W + i) 0 + lo * P ≤ 18446744073709551615 := by omega
  refine ⟨hcell, by simp only [List.length_set]; exact hl, fun j => ?_, ?_, fun j hj => ?_, ?_⟩
  · by_cases e : W + i + 1 = j
    · subst e; rw [getD_set_self _ (by simp only [List.length_set]; omega)]; omega
    · rw [getD_set_ne _ e]
      by_cases e2 : W + i = j
      · subst e2; rw [getD_set_self _ (by omega)]; omega
      · rw [getD_set_ne _ e2]; exact h.dig j
  · rw [show W + (i + 1) = W + i + 1 by omega, getD_set_self _ (by simp only [List.length_set]; omega)]; exact hi1
  · rw [getD_set_ne _ (by omega), getD_set_ne _ (by omega)]; exact h.rest j (by omega)
  · rw [val_set _ _ _ (by simp only [List.length_set]; omega), val_set _ _ _ (by omega), getD_set_ne _ (by omega), hr, h.sum, val_take_succ _ _ hi', hx,
      show L.getD (W + i) 0 + lo * P - L.getD (W + i) 0 = lo * P by omega, Int.sub_zero, Int.pow_succ, Int.mul_add (18446744073709551616 ^ W * P), Int.add_assoc]
    congr 1
    rw [Int.mul_assoc (18446744073709551616 ^ (W + i)), ← Int.mul_add, Int.pow_add, ← hsum, ← hPQ]
    generalize (P * Q) ^ W = A
    generalize (P * Q) ^ i = C
    rw [Int.mul_comm lo P, Int.mul_assoc P Q hi, ← Int.mul_add, Int.mul_assoc A P, Int.mul_left_comm P C, Int.mul_assoc A C]
theorem RaisedAt.digs {xs L : List Int} {W i : Nat} {P : Int} (h : RaisedAt xs W P i L) : Dig L := Dig.of_get fun j _ => h.dig j
theorem Tryz.info22 : (Tryz.prog.info? 22).map (fun i => (i.zero, i.size, i.bytes)) = some (some (.int .u64 0), 1, 8) := by kernel_rfl
set_option maxHeartbeats 4000000 in
set_option maxRecDepth 100000 in
theorem Tryz.raised (v : Value) (xs : List Int) (k : Int) (w : World) (h : Digs w v xs) (hx : Dig xs) (k0 : 0 ≤ k) (k1 : k ≤ 100000) (hlen : xs.length ≤ 1000000) :
    Calls Tryz.prog 93 #[v, .int .i64 k] w fun e w' => (∃ L, e = .returned (.slice (some ⟨w.heap.size, 0, none⟩) L.length L.length) ∧ RowOf w' w.heap.size L ∧ Dig L ∧ L.length ≤ xs.length + 1600 ∧ val L = val xs * 2 ^ k.toNat) ∧ Below w.heap.size w w' := by
  obtain ⟨p, cap, rfl, hxl, hxr⟩ := h.slice
  obtain ⟨i0, hi, hz0, hz1, hz2⟩ := info_parts Tryz.info22
  have HX : Hid (0 < xs.length → ∃ g, p = some ⟨g, 0, none⟩ ∧ RowAt w g cap xs) := hxr
  clear hxr h
  obtain ⟨W, hW⟩ : ∃ W : Nat, k / 64 = W := ⟨(k / 64).toNat, by omega⟩
  obtain ⟨r, hr⟩ : ∃ r : Int, k % 64 = r := ⟨_, rfl⟩
  have hk : k = 64 * W + r ∧ 0 ≤ r ∧ r ≤ 63 := by omega
  obtain ⟨hk, r0, r1⟩ := hk
  have HK : Hid (k = 64 * W + r) := hk
  have hW1 : W ≤ 1563 := by omega
  clear hk
  obtain ⟨l, hl⟩ : ∃ l, xs.length = l := ⟨_, rfl⟩
  rw [hl] at hxl hlen HX
  obtain ⟨n', hn'⟩ : ∃ n' : Int, (W : Int) + l = n' := ⟨_, rfl⟩
  obtain ⟨n, hn⟩ : ∃ n : Nat, n' + 1 = n := ⟨W + l + 1, by omega⟩
  have HN : Hid (n = W + l + 1) := show n = W + l + 1 by omega
  have hn0 : n ≤ 1001564 := by omega
  rw [hl]
  go_enter Tryz.func93, Tryz.ntmps93
  go_wp2_with (first
    | (refine wpList_make_full _ rfl _ _ 86 rfl w.heap.size 22 i0 (.int .u64 0) 1 Tryz.underlying86 hi hz0 hz1 .i64 .i64 _ _ n rfl rfl rfl rfl (by rw [hz2]; omega) (by unfold maxLen; omega) (by omega) ?_))
  intro w1 hown hgrow
  have hrow1 := RowOf.of_made (by rw [toList_madeCells_one] at hown; exact hown)
  have hb1 : Below w.heap.size w w1 := (Below.refl _ _).grown hgrow (Nat.le_refl _) (fun k hk => by cases hk)
  clear hown hgrow
  go_wp2
  go_loopw [22] (fun i wr => ∃ (j : Nat) (L : List Int), i = .int .i64 j ∧ j ≤ l ∧ RowOf wr w.heap.size L ∧ RaisedAt xs W (2 ^ r.toNat) j L ∧ Below w.heap.size w wr) (fun i _ => l - (intOf i).toNat)
  case atStart => exact ⟨0, List.replicate n 0, rfl, by omega, hrow1, by rw [HN.out, ← hl]; exact RaisedAt.start xs W (Int.pow_pos (by omega)), hb1⟩
  case round =>
    obtain ⟨j, L, rfl, hj, hrow, hat, hb⟩ := hrel
    have HA : Hid (RaisedAt xs W (2 ^ r.toNat) j L) := hat
    have HB : Hid (Below w.heap.size w wr) := hb
    have HR : Hid (RowOf wr w.heap.size L) := hrow
    have hLn : L.length = n := by rw [hat.len, HN.out, hl]
    by_cases hjl : j = l
    · subst hjl
      clear hrow hat hb
      go_wp2
      go_ret
      refine ⟨⟨L, by rw [hLn]; rfl, HR.out, HA.out.digs, by omega, ?_⟩, HB.out⟩
      rw [HA.out.sum, List.take_of_length_le (by omega), pow64, ← Int.pow_add, Int.mul_comm, show 64 * W + r.toNat = k.toNat by have := HK.out; omega]
    · obtain ⟨x, hxj⟩ : ∃ x, xs.getD j 0 = x := ⟨_, rfl⟩
      have hxd := hx.get j
      rw [hxj] at hxd
      obtain ⟨c1, c2, c3, c4, c5, c6, c7, c8, c9, c10⟩ := cutWord hxd.1 hxd.2 r0 r1
      obtain ⟨g, rfl, hg⟩ := HX.out (by omega)
      have hcx := (hb.cell (p := ⟨g, j, none⟩) hg.lt).trans (hg.cells j (by omega))
      rw [hxj] at hcx
      have hgO : g ≠ w.heap.size := by have := hg.lt; omega
      obtain ⟨q, hq⟩ : ∃ q : Nat, W + j = q := ⟨_, rfl⟩
      obtain ⟨q1, hq1⟩ : ∃ q1 : Nat, q + 1 = q1 := ⟨_, rfl⟩
      obtain ⟨c, hc⟩ : ∃ c, L.getD q 0 = c := ⟨_, rfl⟩
      have hcc := hrow.cell (j := q) (by omega)
      rw [hc] at hcc
      have hfr := hrow.frozen q
      have hcd := hat.dig q
      have hcm := hat.mid
      rw [hq] at hcm
      have hst := hat.step (by omega) hxj c8 c9 c10 c5 c6 c4 c3 c7
      rw [hq, hc] at hst
      rw [hc] at hcd hcm
      obtain ⟨lo, hlo⟩ : ∃ lo, shlV x r = lo := ⟨_, rfl⟩
      obtain ⟨hi', hhi'⟩ : ∃ hi', shrV x (64 - r) = hi' := ⟨_, rfl⟩
      rw [← c1, ← c2, hlo, hhi', hq1] at hst
      have hor := orMid c (x % 2 ^ (64 - r).toNat) r.toNat hcd.1 hcm c5 (by rw [← c1, hlo]; exact hst.1)
      rw [← c1, hlo] at hor
      have HST : Hid (RaisedAt xs W (2 ^ r.toNat) (j + 1) ((L.set q (c + lo)).set q1 hi')) := hst.2
      have hlo0 : 0 ≤ lo := by rw [← hlo, c1]; exact Int.mul_nonneg c5 (by omega)
      have hsh := hst.1
      have HSHL : Hid (∀ w, Calls Tryz.prog 140 #[.int .u64 x, .int .i64 r] w fun e w' => e = .returned (.int .u64 lo) ∧ w' = w) := fun w => by
        rw [← hlo]; exact Tryz.Shl x r w hxd.1 hxd.2 (by omega) (by omega)
      have HSHR : Hid (∀ w, Calls Tryz.prog 139 #[.int .u64 x, .int .i64 (64 - r)] w fun e w' => e = .returned (.int .u64 hi') ∧ w' = w) := fun w => by
        rw [← hhi']; exact Tryz.Shr x (64 - r) w hxd.1 hxd.2 (by omega) (by omega)
      have hq1n : q1 < n := by have := HN.out; omega
      have hqn : q < n := by omega
      have hqs : (W : Int) + (j : Int) = (q : Int) := by omega
      have hq1s : (q : Int) + 1 = (q1 : Int) := by omega
      have HQ : Hid (q + 1 = q1) := hq1
      clear hst hrow hat hb hg hxj hc c1 c2 c3 c4 c5 c6 c7 c8 c9 c10 hlo hhi' hcm hq hq1
      go_wp2
      have hwq : IntKind.i64.wrap (q : Int) = (q : Int) := by simp [IntKind.wrap, IntKind.signed, IntKind.bits]; omega
      have hqn' : (q : Int) < (n : Int) := by omega
      have hfrd : wr.drew.frozen? ⟨w.heap.size, q, none⟩ = false := hfr
      have hccd : wr.drew.cell? ⟨w.heap.size, q, none⟩ = some (.int .u64 c) := hcc
      go_still_tail 11, (by kernel_rfl)
      still_call (HSHL.out _)
      repeat still_step
      refine wpStill_nil ?_
      change wpList _ _ _ _ _ wr.drew
      clear hcc hfr
      have HRW : Hid (RowOf wr.drew w.heap.size L) := HR.out.drew
      have HBW : Hid (Below w.heap.size w wr.drew) := HB.out.drew
      generalize wr.drew = W0 at *
      have HR1 : Hid (RowOf (W0.setCell ⟨w.heap.size, q, none⟩ (.int .u64 (c + lo))) w.heap.size (L.set q (c + lo))) := HRW.out.set _ _
      have hc1 : (W0.setCell ⟨w.heap.size, q, none⟩ (.int .u64 (c + lo))).cell? ⟨w.heap.size, q1, none⟩ = some (.int .u64 ((L.set q (c + lo)).getD q1 0)) := HR1.out.cell (by rw [List.length_set]; omega)
      have hf1 : (W0.setCell ⟨w.heap.size, q, none⟩ (.int .u64 (c + lo))).frozen? ⟨w.heap.size, q1, none⟩ = false := HR1.out.frozen q1
      have HR2 : Hid (RowOf ((W0.setCell ⟨w.heap.size, q, none⟩ (.int .u64 (c + lo))).setCell ⟨w.heap.size, q1, none⟩ (.int .u64 hi')) w.heap.size ((L.set q (c + lo)).set q1 hi')) := HR1.out.set _ _
      have HB2 : Hid (Below w.heap.size w ((W0.setCell ⟨w.heap.size, q, none⟩ (.int .u64 (c + lo))).setCell ⟨w.heap.size, q1, none⟩ (.int .u64 hi'))) := (HBW.out.setCell (Nat.le_refl _) _).setCell (Nat.le_refl _) _
      go_wp2_with (go_at_call 139; (with_reducible refine (HSHR.out _).mono ?_); rintro e w' ⟨rfl, rfl⟩)
      exact ⟨⟨j + 1, _, by simp, by omega, HR2.out, HST.out, HB2.out⟩, by simp [intOf]; omega⟩
end Go.Proofs.Wd
