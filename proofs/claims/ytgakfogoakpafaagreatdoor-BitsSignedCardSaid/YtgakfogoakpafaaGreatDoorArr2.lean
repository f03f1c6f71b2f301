/- What Abs and Signed of the package bits return; and the walk of BitsSigned. -/
import Derived.Test.YtgakfogoakpafaaGreatDoorArr
namespace Go.Proofs
open Go.RowKit
set_option linter.unusedVariables false
def absV (x : Int) : Int := if x < 0 then -x else x
def sgV (neg : Bool) (u : Int) : Int := if 9223372036854775808 ≤ u then (if neg = true ∧ u = 9223372036854775808 then -9223372036854775808 else 0) else if neg = true then -u else u
def fitV (neg : Bool) (u : Int) : Bool := decide (u < 9223372036854775808) || neg && decide (u = 9223372036854775808)
theorem notAdd (x : Int) (h0 : -9223372036854775808 ≤ x) (h1 : x < 0) : IntKind.u64.wrap (bits .xor .u64 (if IntKind.u64.signed = true then -1 else IntKind.u64.max) (IntKind.u64.wrap x) + 1) = -x := by
  have hm : (if IntKind.u64.signed = true then -1 else IntKind.u64.max) = ((18446744073709551615 : Nat) : Int) := by rfl
  obtain ⟨X, hX⟩ : ∃ X : Nat, IntKind.u64.wrap x = X := ⟨(IntKind.u64.wrap x).toNat, by have := u64In x; omega⟩
  rw [u64w] at hX
  rw [hm, u64w x, hX, bits_xor_u64_nat _ _ (by omega) (by omega), ones_xor _ (by omega), u64w]
  omega
set_option maxHeartbeats 1000000 in
theorem Tryz.Abs (x : Int) (w : World) (h0 : -9223372036854775808 ≤ x) (h1 : x ≤ 9223372036854775807) :
    Calls Tryz.prog 30 #[.int .i64 x] w fun e w' => e = .returned (.int .u64 (absV x)) ∧ w' = w := by
  by_cases hx : x < 0
  · have hn := notAdd x h0 hx
    go_enter Tryz.func30, Tryz.ntmps30
    go_wp2
    go_ret
    exact ⟨by unfold absV; rw [if_pos hx]; rfl, rfl⟩
  · have hw : IntKind.u64.wrap x = x := by rw [u64w]; omega
    go_enter Tryz.func30, Tryz.ntmps30
    go_wp2
    go_ret
    exact ⟨by unfold absV; rw [if_neg (by omega)]; rfl, rfl⟩
set_option maxHeartbeats 1000000 in
theorem Tryz.Signed (neg : Bool) (u : Int) (w : World) (h0 : 0 ≤ u) (h1 : u ≤ 18446744073709551615) :
    Calls Tryz.prog 31 #[.bool neg, .int .u64 u] w fun e w' => e = .returned (.tuple #[.int .i64 (sgV neg u), .bool (fitV neg u)]) ∧ w' = w := by
  have hsw : u < 9223372036854775808 → RowKit.wrap64 u = u := fun h => sw_of (by omega) (by omega)
  by_cases c1 : u = 9223372036854775808
  · subst c1
    clear hsw
    cases neg
    · go_enter Tryz.func31, Tryz.ntmps31
      go_wp2
      all_goals (go_ret2; exact ⟨rfl, rfl⟩)
    · go_enter Tryz.func31, Tryz.ntmps31
      go_wp2
      all_goals (go_ret2; exact ⟨rfl, rfl⟩)
  · have hb : (u == 9223372036854775808) = false := by simpa using c1
    by_cases c2 : u < 9223372036854775808
    · have hs := hsw c2
      clear hsw
      cases neg
      · go_enter Tryz.func31, Tryz.ntmps31
        go_wp2
        all_goals (go_ret2; refine ⟨?_, rfl⟩)
        unfold sgV fitV
        rw [if_neg (by omega)]; simp [c2]
      · go_enter Tryz.func31, Tryz.ntmps31
        go_wp2
        all_goals (go_ret2; refine ⟨?_, rfl⟩)
        unfold sgV fitV
        rw [if_neg (by omega)]; simp [c2]
    · clear hsw
      cases neg
      · go_enter Tryz.func31, Tryz.ntmps31
        go_wp2
        all_goals (go_ret2; refine ⟨?_, rfl⟩)
        unfold sgV fitV
        rw [if_pos (by omega)]; simp [c2, c1]
      · go_enter Tryz.func31, Tryz.ntmps31
        go_wp2
        all_goals (go_ret2; refine ⟨?_, rfl⟩)
        unfold sgV fitV
        rw [if_pos (by omega)]; simp [c2, c1]
set_option maxHeartbeats 1000000 in
theorem Tryz.NarrowOut (x n : Int) (w : World) (h0 : -9223372036854775808 ≤ x) (h1 : x ≤ 9223372036854775807) (h : n < 1 ∨ 64 < n) (h2 : -9223372036854775808 ≤ n) (h3 : n ≤ 9223372036854775807) :
    Calls Tryz.prog 32 #[.int .i64 x, .int .i64 n] w fun e w' => e = .returned (.tuple #[.int .i64 0, .bool false]) ∧ w' = w := by
  go_enter Tryz.func32, Tryz.ntmps32
  rcases h with h | h
  · go_wp2
    all_goals (go_ret2; exact ⟨rfl, rfl⟩)
  · go_wp2
    all_goals (go_ret2; exact ⟨rfl, rfl⟩)
/-- The lowest w bits of x, and above them the highest of these. -/
def signBit (x : Nat) (w : Nat) (j : Nat) : Bool := if j < w then x.testBit j else x.testBit (w - 1)
theorem signWord (x : Int) (w : Nat) (h1 : 1 ≤ w) (h2 : w ≤ 64) : (wordOf (signBit (IntKind.u64.wrap x).toNat w) : Int) = IntKind.u64.wrap (narV x w) := by
  rw [narEq x w (by omega) (by omega), u64w x]
  obtain ⟨X, hX⟩ : ∃ X : Nat, x % 18446744073709551616 = X := ⟨(x % 18446744073709551616).toNat, by omega⟩
  have hX1 : X < 18446744073709551616 := by omega
  rw [hX, Int.toNat_natCast, Int.toNat_natCast, show ((w : Int) - 1).toNat = w - 1 by omega]
  obtain ⟨h, rfl⟩ : ∃ h, w = h + 1 := ⟨w - 1, by omega⟩
  simp only [Nat.add_sub_cancel]
  have hP : 0 < 2 ^ h := Nat.two_pow_pos h
  have hP2 : 2 ^ (h + 1) = 2 * 2 ^ h := by rw [Nat.pow_succ, Nat.mul_comm]
  have hdv : ∃ D, 18446744073709551616 = 2 ^ (h + 1) * D ∧ D = 2 ^ (63 - h) := ⟨_, by rw [← Nat.pow_add, show h + 1 + (63 - h) = 64 by omega], rfl⟩
  obtain ⟨D, hD, hD2⟩ := hdv
  have hDpos : 0 < D := by rw [hD2]; exact Nat.two_pow_pos _
  obtain ⟨r, hr⟩ : ∃ r, X % 2 ^ (h + 1) = r := ⟨_, rfl⟩
  have hrl : r < 2 ^ (h + 1) := by rw [← hr]; exact Nat.mod_lt _ (by omega)
  have hxr : (x + 2 ^ h) % 2 ^ (h + 1) = ((r + 2 ^ h) % 2 ^ (h + 1) : Nat) := by
    have e1 : x = X + 18446744073709551616 * (x / 18446744073709551616) := by omega
    have e2 : X = 2 ^ (h + 1) * (X / 2 ^ (h + 1)) + r := by rw [← hr]; exact (Nat.div_add_mod _ _).symm
    have e3 : x + 2 ^ h = ((r : Int) + 2 ^ h) + 2 ^ (h + 1) * ((X / 2 ^ (h + 1) : Nat) + (D : Int) * (x / 18446744073709551616)) := by
      have hD' : ((18446744073709551616 : Nat) : Int) = ((2 ^ (h + 1) * D : Nat) : Int) := congrArg _ hD
      rw [Int.natCast_mul, Int.natCast_pow] at hD'
      have hD' : (18446744073709551616 : Int) = 2 ^ (h + 1) * (D : Int) := hD'
      have e2' : (X : Int) = ((2 ^ (h + 1) * (X / 2 ^ (h + 1)) + r : Nat) : Int) := congrArg _ e2
      rw [Int.natCast_add, Int.natCast_mul, Int.natCast_pow] at e2'
      have e2' : (X : Int) = 2 ^ (h + 1) * ((X / 2 ^ (h + 1) : Nat) : Int) + r := e2'
      rw [Int.mul_add, ← Int.mul_assoc, ← hD']
      omega
    rw [e3, Int.add_mul_emod_self_left]
    push_cast; rfl
  rw [hxr]
  have hbit : X.testBit h = decide (2 ^ h ≤ r) := by
    have e : r.testBit h = X.testBit h := by rw [← hr, Nat.testBit_mod_two_pow]; simp
    rw [← e, Nat.testBit_eq_decide_div_mod_eq]
    by_cases g : 2 ^ h ≤ r
    · have : r / 2 ^ h = 1 := by
        apply Nat.div_eq_of_lt_le
        · omega
        · omega
      rw [this]; simp [g]
    · have : r / 2 ^ h = 0 := Nat.div_eq_of_lt (by omega)
      rw [this]; simp [g]
  have hlow : ∀ j, j < h + 1 → X.testBit j = r.testBit j := fun j hj => by rw [← hr, Nat.testBit_mod_two_pow]; simp [hj]
  by_cases g : 2 ^ h ≤ r
  · have e : (r + 2 ^ h) % 2 ^ (h + 1) = r + 2 ^ h - 2 ^ (h + 1) := by
      rw [Nat.mod_eq_sub_mod (by omega), Nat.mod_eq_of_lt (by omega)]
    have hw : (18446744073709551616 : Nat) = 2 ^ (h + 1) * (D - 1) + 2 ^ (h + 1) := by
      rw [hD]
      conv => rhs; rhs; rw [← Nat.mul_one (2 ^ (h + 1))]
      rw [← Nat.mul_add, Nat.sub_add_cancel hDpos]
    rw [word_eq (x := 2 ^ (h + 1) * (D - 1) + r)]
    · rw [u64w, e]
      have hc : ((2 ^ h : Nat) : Int) = 2 ^ h := by simp
      generalize 2 ^ (h + 1) * (D - 1) = Y at hw ⊢
      omega
    · generalize 2 ^ (h + 1) * (D - 1) = Y at hw ⊢
      omega
    · intro j hj
      rw [Nat.testBit_two_pow_mul_add _ hrl]
      unfold signBit
      by_cases q : j < h + 1
      · rw [if_pos q, if_pos q, hlow j q]
      · rw [if_neg q, if_neg q, Nat.add_sub_cancel, hbit, hD2, Nat.testBit_two_pow_sub_one]
        simp [g]; omega
  · have e : (r + 2 ^ h) % 2 ^ (h + 1) = r + 2 ^ h := Nat.mod_eq_of_lt (by omega)
    have hrl2 : r < 18446744073709551616 := by
      have : r ≤ X := by rw [← hr]; exact Nat.mod_le _ _
      omega
    rw [word_eq (x := r) hrl2]
    · rw [u64w, e]
      have hc : ((2 ^ h : Nat) : Int) = 2 ^ h := by simp
      omega
    · intro j hj
      unfold signBit
      by_cases q : j < h + 1
      · rw [if_pos q, hlow j q]
      · rw [if_neg q, Nat.add_sub_cancel, hbit]
        have : r < 2 ^ j := Nat.lt_of_lt_of_le hrl (Nat.pow_le_pow_right (by omega) (by omega))
        rw [Nat.testBit_lt_two_pow this]
        simp; omega
theorem absIn (x : Int) (h0 : -9223372036854775808 ≤ x) (h1 : x ≤ 9223372036854775807) : 0 ≤ absV x ∧ absV x ≤ 18446744073709551615 := by unfold absV; split <;> omega
theorem sgAbs (x : Int) (h0 : -9223372036854775808 ≤ x) (h1 : x ≤ 9223372036854775807) : sgV (decide (x < 0)) (absV x) = x ∧ fitV (decide (x < 0)) (absV x) = true := by
  unfold sgV fitV absV
  by_cases h : x < 0
  · rw [if_pos h]
    simp only [h, decide_true, if_true]
    constructor
    · split
      · split
        · omega
        · rename_i g; exact absurd ⟨trivial, by omega⟩ g
      · omega
    · simp; omega
  · rw [if_neg h]
    simp only [h, decide_false]
    constructor
    · rw [if_neg (by omega)]; simp
    · simp; omega
theorem sgIn (b : Bool) (u : Int) (h0 : 0 ≤ u) : -9223372036854775808 ≤ sgV b u ∧ sgV b u ≤ 9223372036854775807 := by
  unfold sgV; split <;> split <;> omega
theorem absSg (neg : Bool) (u : Int) (h0 : 0 ≤ u) (h : fitV neg u = true) : absV (sgV neg u) = u ∧ (0 < u → decide (sgV neg u < 0) = neg) := by
  unfold fitV at h
  unfold absV sgV
  cases neg with
  | true =>
    simp at h
    by_cases g : 9223372036854775808 ≤ u
    · have : u = 9223372036854775808 := by omega
      subst this
      simp
    · rw [if_neg g, if_pos rfl]
      refine ⟨by split <;> omega, fun hu => by simp; omega⟩
  | false =>
    simp at h
    rw [if_neg (show ¬ (9223372036854775808 ≤ u) by omega)]
    simp only [Bool.false_eq_true, if_false]
    refine ⟨by split <;> omega, fun hu => by simp; omega⟩
theorem sgOut (neg : Bool) (u : Int) (h0 : 0 ≤ u) (h : fitV neg u = false) : sgV neg u = 0 := by
  unfold fitV at h
  unfold sgV
  cases neg with
  | true => simp at h; rw [if_pos (by omega), if_neg (by simp; omega)]
  | false => simp at h; rw [if_pos (by omega)]; simp
set_option maxHeartbeats 8000000 in
set_option maxRecDepth 100000 in
theorem signedWalk (x u : Int) (neg : Bool) (n : Int) (w : World) (h0 : -9223372036854775808 ≤ x) (h1 : x ≤ 9223372036854775807) (u0 : 0 ≤ u) (u1 : u ≤ 18446744073709551615) (h2 : -9223372036854775808 ≤ n) (h3 : n ≤ 9223372036854775807)
    (hB : Calls Tryz.prog 11 #[] w fun e w' => e = .returned (.bool true) ∧ Below w.heap.size w w') :
    Calls Tryz.prog 6 #[.int .i64 x, .int .u64 u, .bool neg, .int .i64 n] w fun e w' => e = .returned (.bool true) ∧ Below w.heap.size w w' := by
  have hi : (Tryz.prog.info? 49).map (·.size) = some 64 := by kernel_rfl
  obtain ⟨s1, s2⟩ := sgAbs x h0 h1
  have hai := absIn x h0 h1
  have hsi := sgIn neg u u0
  have hxw := u64In x
  have F : (u < 9223372036854775808 ∨ u = 9223372036854775808 ∧ neg = true ∨ u = 9223372036854775808 ∧ neg = false ∨ 9223372036854775808 < u) := by cases neg <;> simp <;> omega
  have hsz := bitRow_size (IntKind.u64.wrap x).toNat.testBit
  have hst := fun w : World => run_storeCells_new (P := Tryz.prog) w 49 _ (bitRow (IntKind.u64.wrap x).toNat.testBit) (by rw [bitRow_size]; exact hi) (show (bitRow fun _ => false).size = _ by rw [bitRow_size, bitRow_size]) (bitRow_one _)
  have HST := (show Hid _ from hst)
  clear hst
  have hz49 : ∀ w, (zeroValue 49).run Tryz.prog w = .ok (.agg (bitRow fun _ => false)) w := fun w => Tryz.zeroValue49 w
  go_enter Tryz.func6, Tryz.ntmps6
  rcases F with c | ⟨rfl, rfl⟩ | ⟨rfl, rfl⟩ | c
  · have hf : fitV neg u = true := by unfold fitV; simp [c]
    obtain ⟨t1, t2⟩ := absSg neg u u0 hf
    by_cases hu : u = 0
    · subst hu
      go_wp2_with (first
        | (go_at_call 11; (with_reducible refine hB.mono ?_); rintro e w1 ⟨rfl, hb⟩)
        | (go_at_call 30; refine (Tryz.Abs _ _ (by omega) (by omega)).mono ?_; rintro e w2 ⟨rfl, rfl⟩)
        | (go_at_call 31; refine (Tryz.Signed _ _ _ (by omega) (by omega)).mono ?_; rintro e w2 ⟨rfl, rfl⟩)
        | fail)
      have hst := HST.out
      by_cases hn : 1 ≤ n ∧ n ≤ 64
      · obtain ⟨m, hm⟩ : ∃ m : Nat, n = m := ⟨n.toNat, by omega⟩
        subst hm
        have hsign := signWord x m (by omega) (by omega)
        go_wp2_with (first
          | (go_at_call 32; refine (Tryz.Narrow _ _ _ h0 h1 hn.1 hn.2).mono ?_; rintro e w3 ⟨rfl, rfl⟩)
          | (go_at_call 33; refine (Tryz.rBits _ _ hxw.1 hxw.2).mono ?_; rintro e w4 ⟨rfl, hb4⟩))
        have hbb := hb.trans (hb4.mono hb.size)
        have hB4 := hbb.size
        have hb5 := hbb.alloc hB4 (.cells (bitRow (IntKind.u64.wrap x).toNat.testBit) 49)
        clear hst hz49 hb hb4 hbb HST
        have hm1 : 1 ≤ m ∧ m ≤ 64 := by omega
        go_loopw [19] (fun i wr => ∃ k : Nat, m ≤ k ∧ k ≤ 64 ∧ i = .int .i64 k ∧ wr.heap[w4.heap.size]? = some (.cells (bitRow fun j => if j < k then signBit (IntKind.u64.wrap x).toNat m j else (IntKind.u64.wrap x).toNat.testBit j) 49 (0, 0)) ∧ Below w.heap.size w wr) (fun i _ => (64 - intOf i).toNat)
        case atStart =>
          refine ⟨m, Nat.le_refl _, hm1.2, rfl, ?_, hb5⟩
          rw [heap_alloc_new]
          congr 2
          apply bitRow_congr
          intro j hj
          by_cases g : j < m
          · rw [if_pos g]; unfold signBit; rw [if_pos g]
          · rw [if_neg g]
        case round =>
          obtain ⟨k, hmk, hk, rfl, hrow, hb⟩ := hrel
          have HB : Hid (Below w.heap.size w wr) := hb
          clear hb hb5
          by_cases hk64 : k = 64
          · subst hk64
            have HE : (bitRow fun j => if j < 64 then signBit (IntKind.u64.wrap x).toNat m j else (IntKind.u64.wrap x).toNat.testBit j) = bitRow (signBit (IntKind.u64.wrap x).toNat m) := bitRow_congr fun j hj => by rw [if_pos hj]
            rw [HE] at hrow
            have HR : Hid (wr.heap[w4.heap.size]? = some (.cells (bitRow (signBit (IntKind.u64.wrap x).toNat m)) 49 (0, 0))) := hrow
            have hsz2 := bitRow_size (signBit (IntKind.u64.wrap x).toNat m)
            clear hrow HE
            go_wp2_with (first
              | (refine wpList_load_row rfl 49 _ rfl (w4.heap.size) rfl 49 _ (0, 0) (.array 64 4) HR.out Tryz.underlying49 rfl (by rw [bitRow_size]; exact hi) ?_)
              | (go_at_call 34; refine (Tryz.rWord _ _).mono ?_; rintro e w5 ⟨rfl, hb5⟩))
            go_ret
            exact ⟨rfl, HB.out.trans (hb5.mono HB.out.size)⟩
          · have hk' : k < 64 := by omega
            have hcs := (cell_of_row _ _ k _ _ _ hrow).trans (bitRow_at _ _ hk')
            have hcm := (cell_of_row _ _ (m - 1) _ _ _ hrow).trans (bitRow_at _ _ (by omega))
            rw [if_pos (by omega)] at hcm
            have hsg : signBit (IntKind.u64.wrap x).toNat m (m - 1) = (IntKind.u64.wrap x).toNat.testBit (m - 1) := by unfold signBit; rw [if_pos (by omega)]
            have hsk : signBit (IntKind.u64.wrap x).toNat m k = (IntKind.u64.wrap x).toNat.testBit (m - 1) := by unfold signBit; rw [if_neg (by omega)]
            rw [hsg] at hcm
            have hfr := frozen_of_row _ _ k _ _ hrow
            have HR : Hid (wr.heap[w4.heap.size]? = some (.cells (bitRow fun j => if j < k then signBit (IntKind.u64.wrap x).toNat m j else (IntKind.u64.wrap x).toNat.testBit j) 49 (0, 0))) := hrow
            have HK : Hid (signBit (IntKind.u64.wrap x).toNat m k = (IntKind.u64.wrap x).toNat.testBit (m - 1)) := hsk
            clear hrow hsg hsk
            go_wp2
            refine ⟨⟨k + 1, by omega, by omega, by simp, ?_, HB.out.setCell (by simp; omega) _⟩, by simp [intOf]; omega⟩
            rw [heap_setCell_same _ _ _ _ _ _ HR.out, bitRow_set]
            congr 2
            apply bitRow_congr
            intro j hj
            by_cases e : j = k
            · subst e; rw [if_pos rfl, if_pos (by omega), HK.out]
            · rw [if_neg e]
              by_cases g : j < k
              · rw [if_pos g, if_pos (by omega)]
              · rw [if_neg g, if_neg (by omega)]
      · go_wp2_with (first
          | (go_at_call 32; refine (Tryz.NarrowOut _ _ _ h0 h1 (by omega) h2 h3).mono ?_; rintro e w3 ⟨rfl, rfl⟩))
        all_goals (go_ret; exact ⟨rfl, hb⟩)
    · have t3 := t2 (by omega)
      clear t2
      go_wp2_with (first
        | (go_at_call 11; (with_reducible refine hB.mono ?_); rintro e w1 ⟨rfl, hb⟩)
        | (go_at_call 30; refine (Tryz.Abs _ _ (by omega) (by omega)).mono ?_; rintro e w2 ⟨rfl, rfl⟩)
        | (go_at_call 31; refine (Tryz.Signed _ _ _ (by omega) (by omega)).mono ?_; rintro e w2 ⟨rfl, rfl⟩)
        | fail)
      have hst := HST.out
      by_cases hn : 1 ≤ n ∧ n ≤ 64
      · obtain ⟨m, hm⟩ : ∃ m : Nat, n = m := ⟨n.toNat, by omega⟩
        subst hm
        have hsign := signWord x m (by omega) (by omega)
        go_wp2_with (first
          | (go_at_call 32; refine (Tryz.Narrow _ _ _ h0 h1 hn.1 hn.2).mono ?_; rintro e w3 ⟨rfl, rfl⟩)
          | (go_at_call 33; refine (Tryz.rBits _ _ hxw.1 hxw.2).mono ?_; rintro e w4 ⟨rfl, hb4⟩))
        have hbb := hb.trans (hb4.mono hb.size)
        have hB4 := hbb.size
        have hb5 := hbb.alloc hB4 (.cells (bitRow (IntKind.u64.wrap x).toNat.testBit) 49)
        clear hst hz49 hb hb4 hbb HST
        have hm1 : 1 ≤ m ∧ m ≤ 64 := by omega
        go_loopw [19] (fun i wr => ∃ k : Nat, m ≤ k ∧ k ≤ 64 ∧ i = .int .i64 k ∧ wr.heap[w4.heap.size]? = some (.cells (bitRow fun j => if j < k then signBit (IntKind.u64.wrap x).toNat m j else (IntKind.u64.wrap x).toNat.testBit j) 49 (0, 0)) ∧ Below w.heap.size w wr) (fun i _ => (64 - intOf i).toNat)
        case atStart =>
          refine ⟨m, Nat.le_refl _, hm1.2, rfl, ?_, hb5⟩
          rw [heap_alloc_new]
          congr 2
          apply bitRow_congr
          intro j hj
          by_cases g : j < m
          · rw [if_pos g]; unfold signBit; rw [if_pos g]
          · rw [if_neg g]
        case round =>
          obtain ⟨k, hmk, hk, rfl, hrow, hb⟩ := hrel
          have HB : Hid (Below w.heap.size w wr) := hb
          clear hb hb5
          by_cases hk64 : k = 64
          · subst hk64
            have HE : (bitRow fun j => if j < 64 then signBit (IntKind.u64.wrap x).toNat m j else (IntKind.u64.wrap x).toNat.testBit j) = bitRow (signBit (IntKind.u64.wrap x).toNat m) := bitRow_congr fun j hj => by rw [if_pos hj]
            rw [HE] at hrow
            have HR : Hid (wr.heap[w4.heap.size]? = some (.cells (bitRow (signBit (IntKind.u64.wrap x).toNat m)) 49 (0, 0))) := hrow
            have hsz2 := bitRow_size (signBit (IntKind.u64.wrap x).toNat m)
            clear hrow HE
            go_wp2_with (first
              | (refine wpList_load_row rfl 49 _ rfl (w4.heap.size) rfl 49 _ (0, 0) (.array 64 4) HR.out Tryz.underlying49 rfl (by rw [bitRow_size]; exact hi) ?_)
              | (go_at_call 34; refine (Tryz.rWord _ _).mono ?_; rintro e w5 ⟨rfl, hb5⟩))
            go_ret
            exact ⟨rfl, HB.out.trans (hb5.mono HB.out.size)⟩
          · have hk' : k < 64 := by omega
            have hcs := (cell_of_row _ _ k _ _ _ hrow).trans (bitRow_at _ _ hk')
            have hcm := (cell_of_row _ _ (m - 1) _ _ _ hrow).trans (bitRow_at _ _ (by omega))
            rw [if_pos (by omega)] at hcm
            have hsg : signBit (IntKind.u64.wrap x).toNat m (m - 1) = (IntKind.u64.wrap x).toNat.testBit (m - 1) := by unfold signBit; rw [if_pos (by omega)]
            have hsk : signBit (IntKind.u64.wrap x).toNat m k = (IntKind.u64.wrap x).toNat.testBit (m - 1) := by unfold signBit; rw [if_neg (by omega)]
            rw [hsg] at hcm
            have hfr := frozen_of_row _ _ k _ _ hrow
            have HR : Hid (wr.heap[w4.heap.size]? = some (.cells (bitRow fun j => if j < k then signBit (IntKind.u64.wrap x).toNat m j else (IntKind.u64.wrap x).toNat.testBit j) 49 (0, 0))) := hrow
            have HK : Hid (signBit (IntKind.u64.wrap x).toNat m k = (IntKind.u64.wrap x).toNat.testBit (m - 1)) := hsk
            clear hrow hsg hsk
            go_wp2
            refine ⟨⟨k + 1, by omega, by omega, by simp, ?_, HB.out.setCell (by simp; omega) _⟩, by simp [intOf]; omega⟩
            rw [heap_setCell_same _ _ _ _ _ _ HR.out, bitRow_set]
            congr 2
            apply bitRow_congr
            intro j hj
            by_cases e : j = k
            · subst e; rw [if_pos rfl, if_pos (by omega), HK.out]
            · rw [if_neg e]
              by_cases g : j < k
              · rw [if_pos g, if_pos (by omega)]
              · rw [if_neg g, if_neg (by omega)]
      · go_wp2_with (first
          | (go_at_call 32; refine (Tryz.NarrowOut _ _ _ h0 h1 (by omega) h2 h3).mono ?_; rintro e w3 ⟨rfl, rfl⟩))
        all_goals (go_ret; exact ⟨rfl, hb⟩)
  · have hf : fitV true 9223372036854775808 = true := rfl
    have hv : sgV true 9223372036854775808 = -9223372036854775808 := rfl
    have ha : absV (-9223372036854775808) = 9223372036854775808 := rfl
    go_wp2_with (first
        | (go_at_call 11; (with_reducible refine hB.mono ?_); rintro e w1 ⟨rfl, hb⟩)
        | (go_at_call 30; refine (Tryz.Abs _ _ (by omega) (by omega)).mono ?_; rintro e w2 ⟨rfl, rfl⟩)
        | (go_at_call 31; refine (Tryz.Signed _ _ _ (by omega) (by omega)).mono ?_; rintro e w2 ⟨rfl, rfl⟩)
        | fail)
    have hst := HST.out
    by_cases hn : 1 ≤ n ∧ n ≤ 64
    · obtain ⟨m, hm⟩ : ∃ m : Nat, n = m := ⟨n.toNat, by omega⟩
      subst hm
      have hsign := signWord x m (by omega) (by omega)
      go_wp2_with (first
        | (go_at_call 32; refine (Tryz.Narrow _ _ _ h0 h1 hn.1 hn.2).mono ?_; rintro e w3 ⟨rfl, rfl⟩)
        | (go_at_call 33; refine (Tryz.rBits _ _ hxw.1 hxw.2).mono ?_; rintro e w4 ⟨rfl, hb4⟩))
      have hbb := hb.trans (hb4.mono hb.size)
      have hB4 := hbb.size
      have hb5 := hbb.alloc hB4 (.cells (bitRow (IntKind.u64.wrap x).toNat.testBit) 49)
      clear hst hz49 hb hb4 hbb HST
      have hm1 : 1 ≤ m ∧ m ≤ 64 := by omega
      go_loopw [19] (fun i wr => ∃ k : Nat, m ≤ k ∧ k ≤ 64 ∧ i = .int .i64 k ∧ wr.heap[w4.heap.size]? = some (.cells (bitRow fun j => if j < k then signBit (IntKind.u64.wrap x).toNat m j else (IntKind.u64.wrap x).toNat.testBit j) 49 (0, 0)) ∧ Below w.heap.size w wr) (fun i _ => (64 - intOf i).toNat)
      case atStart =>
        refine ⟨m, Nat.le_refl _, hm1.2, rfl, ?_, hb5⟩
        rw [heap_alloc_new]
        congr 2
        apply bitRow_congr
        intro j hj
        by_cases g : j < m
        · rw [if_pos g]; unfold signBit; rw [if_pos g]
        · rw [if_neg g]
      case round =>
        obtain ⟨k, hmk, hk, rfl, hrow, hb⟩ := hrel
        have HB : Hid (Below w.heap.size w wr) := hb
        clear hb hb5
        by_cases hk64 : k = 64
        · subst hk64
          have HE : (bitRow fun j => if j < 64 then signBit (IntKind.u64.wrap x).toNat m j else (IntKind.u64.wrap x).toNat.testBit j) = bitRow (signBit (IntKind.u64.wrap x).toNat m) := bitRow_congr fun j hj => by rw [if_pos hj]
          rw [HE] at hrow
          have HR : Hid (wr.heap[w4.heap.size]? = some (.cells (bitRow (signBit (IntKind.u64.wrap x).toNat m)) 49 (0, 0))) := hrow
          have hsz2 := bitRow_size (signBit (IntKind.u64.wrap x).toNat m)
          clear hrow HE
          go_wp2_with (first
            | (refine wpList_load_row rfl 49 _ rfl (w4.heap.size) rfl 49 _ (0, 0) (.array 64 4) HR.out Tryz.underlying49 rfl (by rw [bitRow_size]; exact hi) ?_)
            | (go_at_call 34; refine (Tryz.rWord _ _).mono ?_; rintro e w5 ⟨rfl, hb5⟩))
          go_ret
          exact ⟨rfl, HB.out.trans (hb5.mono HB.out.size)⟩
        · have hk' : k < 64 := by omega
          have hcs := (cell_of_row _ _ k _ _ _ hrow).trans (bitRow_at _ _ hk')
          have hcm := (cell_of_row _ _ (m - 1) _ _ _ hrow).trans (bitRow_at _ _ (by omega))
          rw [if_pos (by omega)] at hcm
          have hsg : signBit (IntKind.u64.wrap x).toNat m (m - 1) = (IntKind.u64.wrap x).toNat.testBit (m - 1) := by unfold signBit; rw [if_pos (by omega)]
          have hsk : signBit (IntKind.u64.wrap x).toNat m k = (IntKind.u64.wrap x).toNat.testBit (m - 1) := by unfold signBit; rw [if_neg (by omega)]
          rw [hsg] at hcm
          have hfr := frozen_of_row _ _ k _ _ hrow
          have HR : Hid (wr.heap[w4.heap.size]? = some (.cells (bitRow fun j => if j < k then signBit (IntKind.u64.wrap x).toNat m j else (IntKind.u64.wrap x).toNat.testBit j) 49 (0, 0))) := hrow
          have HK : Hid (signBit (IntKind.u64.wrap x).toNat m k = (IntKind.u64.wrap x).toNat.testBit (m - 1)) := hsk
          clear hrow hsg hsk
          go_wp2
          refine ⟨⟨k + 1, by omega, by omega, by simp, ?_, HB.out.setCell (by simp; omega) _⟩, by simp [intOf]; omega⟩
          rw [heap_setCell_same _ _ _ _ _ _ HR.out, bitRow_set]
          congr 2
          apply bitRow_congr
          intro j hj
          by_cases e : j = k
          · subst e; rw [if_pos rfl, if_pos (by omega), HK.out]
          · rw [if_neg e]
            by_cases g : j < k
            · rw [if_pos g, if_pos (by omega)]
            · rw [if_neg g, if_neg (by omega)]
    · go_wp2_with (first
        | (go_at_call 32; refine (Tryz.NarrowOut _ _ _ h0 h1 (by omega) h2 h3).mono ?_; rintro e w3 ⟨rfl, rfl⟩))
      all_goals (go_ret; exact ⟨rfl, hb⟩)
  · have hf : fitV false 9223372036854775808 = false := rfl
    have hv : sgV false 9223372036854775808 = 0 := rfl
    go_wp2_with (first
        | (go_at_call 11; (with_reducible refine hB.mono ?_); rintro e w1 ⟨rfl, hb⟩)
        | (go_at_call 30; refine (Tryz.Abs _ _ (by omega) (by omega)).mono ?_; rintro e w2 ⟨rfl, rfl⟩)
        | (go_at_call 31; refine (Tryz.Signed _ _ _ (by omega) (by omega)).mono ?_; rintro e w2 ⟨rfl, rfl⟩)
        | fail)
    have hst := HST.out
    by_cases hn : 1 ≤ n ∧ n ≤ 64
    · obtain ⟨m, hm⟩ : ∃ m : Nat, n = m := ⟨n.toNat, by omega⟩
      subst hm
      have hsign := signWord x m (by omega) (by omega)
      go_wp2_with (first
        | (go_at_call 32; refine (Tryz.Narrow _ _ _ h0 h1 hn.1 hn.2).mono ?_; rintro e w3 ⟨rfl, rfl⟩)
        | (go_at_call 33; refine (Tryz.rBits _ _ hxw.1 hxw.2).mono ?_; rintro e w4 ⟨rfl, hb4⟩))
      have hbb := hb.trans (hb4.mono hb.size)
      have hB4 := hbb.size
      have hb5 := hbb.alloc hB4 (.cells (bitRow (IntKind.u64.wrap x).toNat.testBit) 49)
      clear hst hz49 hb hb4 hbb HST
      have hm1 : 1 ≤ m ∧ m ≤ 64 := by omega
      go_loopw [19] (fun i wr => ∃ k : Nat, m ≤ k ∧ k ≤ 64 ∧ i = .int .i64 k ∧ wr.heap[w4.heap.size]? = some (.cells (bitRow fun j => if j < k then signBit (IntKind.u64.wrap x).toNat m j else (IntKind.u64.wrap x).toNat.testBit j) 49 (0, 0)) ∧ Below w.heap.size w wr) (fun i _ => (64 - intOf i).toNat)
      case atStart =>
        refine ⟨m, Nat.le_refl _, hm1.2, rfl, ?_, hb5⟩
        rw [heap_alloc_new]
        congr 2
        apply bitRow_congr
        intro j hj
        by_cases g : j < m
        · rw [if_pos g]; unfold signBit; rw [if_pos g]
        · rw [if_neg g]
      case round =>
        obtain ⟨k, hmk, hk, rfl, hrow, hb⟩ := hrel
        have HB : Hid (Below w.heap.size w wr) := hb
        clear hb hb5
        by_cases hk64 : k = 64
        · subst hk64
          have HE : (bitRow fun j => if j < 64 then signBit (IntKind.u64.wrap x).toNat m j else (IntKind.u64.wrap x).toNat.testBit j) = bitRow (signBit (IntKind.u64.wrap x).toNat m) := bitRow_congr fun j hj => by rw [if_pos hj]
          rw [HE] at hrow
          have HR : Hid (wr.heap[w4.heap.size]? = some (.cells (bitRow (signBit (IntKind.u64.wrap x).toNat m)) 49 (0, 0))) := hrow
          have hsz2 := bitRow_size (signBit (IntKind.u64.wrap x).toNat m)
          clear hrow HE
          go_wp2_with (first
            | (refine wpList_load_row rfl 49 _ rfl (w4.heap.size) rfl 49 _ (0, 0) (.array 64 4) HR.out Tryz.underlying49 rfl (by rw [bitRow_size]; exact hi) ?_)
            | (go_at_call 34; refine (Tryz.rWord _ _).mono ?_; rintro e w5 ⟨rfl, hb5⟩))
          go_ret
          exact ⟨rfl, HB.out.trans (hb5.mono HB.out.size)⟩
        · have hk' : k < 64 := by omega
          have hcs := (cell_of_row _ _ k _ _ _ hrow).trans (bitRow_at _ _ hk')
          have hcm := (cell_of_row _ _ (m - 1) _ _ _ hrow).trans (bitRow_at _ _ (by omega))
          rw [if_pos (by omega)] at hcm
          have hsg : signBit (IntKind.u64.wrap x).toNat m (m - 1) = (IntKind.u64.wrap x).toNat.testBit (m - 1) := by unfold signBit; rw [if_pos (by omega)]
          have hsk : signBit (IntKind.u64.wrap x).toNat m k = (IntKind.u64.wrap x).toNat.testBit (m - 1) := by unfold signBit; rw [if_neg (by omega)]
          rw [hsg] at hcm
          have hfr := frozen_of_row _ _ k _ _ hrow
          have HR : Hid (wr.heap[w4.heap.size]? = some (.cells (bitRow fun j => if j < k then signBit (IntKind.u64.wrap x).toNat m j else (IntKind.u64.wrap x).toNat.testBit j) 49 (0, 0))) := hrow
          have HK : Hid (signBit (IntKind.u64.wrap x).toNat m k = (IntKind.u64.wrap x).toNat.testBit (m - 1)) := hsk
          clear hrow hsg hsk
          go_wp2
          refine ⟨⟨k + 1, by omega, by omega, by simp, ?_, HB.out.setCell (by simp; omega) _⟩, by simp [intOf]; omega⟩
          rw [heap_setCell_same _ _ _ _ _ _ HR.out, bitRow_set]
          congr 2
          apply bitRow_congr
          intro j hj
          by_cases e : j = k
          · subst e; rw [if_pos rfl, if_pos (by omega), HK.out]
          · rw [if_neg e]
            by_cases g : j < k
            · rw [if_pos g, if_pos (by omega)]
            · rw [if_neg g, if_neg (by omega)]
    · go_wp2_with (first
        | (go_at_call 32; refine (Tryz.NarrowOut _ _ _ h0 h1 (by omega) h2 h3).mono ?_; rintro e w3 ⟨rfl, rfl⟩))
      all_goals (go_ret; exact ⟨rfl, hb⟩)
  · have hf : fitV neg u = false := by unfold fitV; cases neg <;> simp <;> omega
    have hb0 : (u == 9223372036854775808) = false := by simp; omega
    have hv := sgOut neg u u0 hf
    cases neg
    · go_wp2_with (first
          | (go_at_call 11; (with_reducible refine hB.mono ?_); rintro e w1 ⟨rfl, hb⟩)
          | (go_at_call 30; refine (Tryz.Abs _ _ (by omega) (by omega)).mono ?_; rintro e w2 ⟨rfl, rfl⟩)
          | (go_at_call 31; refine (Tryz.Signed _ _ _ (by omega) (by omega)).mono ?_; rintro e w2 ⟨rfl, rfl⟩)
          | fail)
      have hst := HST.out
      by_cases hn : 1 ≤ n ∧ n ≤ 64
      · obtain ⟨m, hm⟩ : ∃ m : Nat, n = m := ⟨n.toNat, by omega⟩
        subst hm
        have hsign := signWord x m (by omega) (by omega)
        go_wp2_with (first
          | (go_at_call 32; refine (Tryz.Narrow _ _ _ h0 h1 hn.1 hn.2).mono ?_; rintro e w3 ⟨rfl, rfl⟩)
          | (go_at_call 33; refine (Tryz.rBits _ _ hxw.1 hxw.2).mono ?_; rintro e w4 ⟨rfl, hb4⟩))
        have hbb := hb.trans (hb4.mono hb.size)
        have hB4 := hbb.size
        have hb5 := hbb.alloc hB4 (.cells (bitRow (IntKind.u64.wrap x).toNat.testBit) 49)
        clear hst hz49 hb hb4 hbb HST
        have hm1 : 1 ≤ m ∧ m ≤ 64 := by omega
        go_loopw [19] (fun i wr => ∃ k : Nat, m ≤ k ∧ k ≤ 64 ∧ i = .int .i64 k ∧ wr.heap[w4.heap.size]? = some (.cells (bitRow fun j => if j < k then signBit (IntKind.u64.wrap x).toNat m j else (IntKind.u64.wrap x).toNat.testBit j) 49 (0, 0)) ∧ Below w.heap.size w wr) (fun i _ => (64 - intOf i).toNat)
        case atStart =>
          refine ⟨m, Nat.le_refl _, hm1.2, rfl, ?_, hb5⟩
          rw [heap_alloc_new]
          congr 2
          apply bitRow_congr
          intro j hj
          by_cases g : j < m
          · rw [if_pos g]; unfold signBit; rw [if_pos g]
          · rw [if_neg g]
        case round =>
          obtain ⟨k, hmk, hk, rfl, hrow, hb⟩ := hrel
          have HB : Hid (Below w.heap.size w wr) := hb
          clear hb hb5
          by_cases hk64 : k = 64
          · subst hk64
            have HE : (bitRow fun j => if j < 64 then signBit (IntKind.u64.wrap x).toNat m j else (IntKind.u64.wrap x).toNat.testBit j) = bitRow (signBit (IntKind.u64.wrap x).toNat m) := bitRow_congr fun j hj => by rw [if_pos hj]
            rw [HE] at hrow
            have HR : Hid (wr.heap[w4.heap.size]? = some (.cells (bitRow (signBit (IntKind.u64.wrap x).toNat m)) 49 (0, 0))) := hrow
            have hsz2 := bitRow_size (signBit (IntKind.u64.wrap x).toNat m)
            clear hrow HE
            go_wp2_with (first
              | (refine wpList_load_row rfl 49 _ rfl (w4.heap.size) rfl 49 _ (0, 0) (.array 64 4) HR.out Tryz.underlying49 rfl (by rw [bitRow_size]; exact hi) ?_)
              | (go_at_call 34; refine (Tryz.rWord _ _).mono ?_; rintro e w5 ⟨rfl, hb5⟩))
            go_ret
            exact ⟨rfl, HB.out.trans (hb5.mono HB.out.size)⟩
          · have hk' : k < 64 := by omega
            have hcs := (cell_of_row _ _ k _ _ _ hrow).trans (bitRow_at _ _ hk')
            have hcm := (cell_of_row _ _ (m - 1) _ _ _ hrow).trans (bitRow_at _ _ (by omega))
            rw [if_pos (by omega)] at hcm
            have hsg : signBit (IntKind.u64.wrap x).toNat m (m - 1) = (IntKind.u64.wrap x).toNat.testBit (m - 1) := by unfold signBit; rw [if_pos (by omega)]
            have hsk : signBit (IntKind.u64.wrap x).toNat m k = (IntKind.u64.wrap x).toNat.testBit (m - 1) := by unfold signBit; rw [if_neg (by omega)]
            rw [hsg] at hcm
            have hfr := frozen_of_row _ _ k _ _ hrow
            have HR : Hid (wr.heap[w4.heap.size]? = some (.cells (bitRow fun j => if j < k then signBit (IntKind.u64.wrap x).toNat m j else (IntKind.u64.wrap x).toNat.testBit j) 49 (0, 0))) := hrow
            have HK : Hid (signBit (IntKind.u64.wrap x).toNat m k = (IntKind.u64.wrap x).toNat.testBit (m - 1)) := hsk
            clear hrow hsg hsk
            go_wp2
            refine ⟨⟨k + 1, by omega, by omega, by simp, ?_, HB.out.setCell (by simp; omega) _⟩, by simp [intOf]; omega⟩
            rw [heap_setCell_same _ _ _ _ _ _ HR.out, bitRow_set]
            congr 2
            apply bitRow_congr
            intro j hj
            by_cases e : j = k
            · subst e; rw [if_pos rfl, if_pos (by omega), HK.out]
            · rw [if_neg e]
              by_cases g : j < k
              · rw [if_pos g, if_pos (by omega)]
              · rw [if_neg g, if_neg (by omega)]
      · go_wp2_with (first
          | (go_at_call 32; refine (Tryz.NarrowOut _ _ _ h0 h1 (by omega) h2 h3).mono ?_; rintro e w3 ⟨rfl, rfl⟩))
        all_goals (go_ret; exact ⟨rfl, hb⟩)
    · go_wp2_with (first
          | (go_at_call 11; (with_reducible refine hB.mono ?_); rintro e w1 ⟨rfl, hb⟩)
          | (go_at_call 30; refine (Tryz.Abs _ _ (by omega) (by omega)).mono ?_; rintro e w2 ⟨rfl, rfl⟩)
          | (go_at_call 31; refine (Tryz.Signed _ _ _ (by omega) (by omega)).mono ?_; rintro e w2 ⟨rfl, rfl⟩)
          | fail)
      have hst := HST.out
      by_cases hn : 1 ≤ n ∧ n ≤ 64
      · obtain ⟨m, hm⟩ : ∃ m : Nat, n = m := ⟨n.toNat, by omega⟩
        subst hm
        have hsign := signWord x m (by omega) (by omega)
        go_wp2_with (first
          | (go_at_call 32; refine (Tryz.Narrow _ _ _ h0 h1 hn.1 hn.2).mono ?_; rintro e w3 ⟨rfl, rfl⟩)
          | (go_at_call 33; refine (Tryz.rBits _ _ hxw.1 hxw.2).mono ?_; rintro e w4 ⟨rfl, hb4⟩))
        have hbb := hb.trans (hb4.mono hb.size)
        have hB4 := hbb.size
        have hb5 := hbb.alloc hB4 (.cells (bitRow (IntKind.u64.wrap x).toNat.testBit) 49)
        clear hst hz49 hb hb4 hbb HST
        have hm1 : 1 ≤ m ∧ m ≤ 64 := by omega
        go_loopw [19] (fun i wr => ∃ k : Nat, m ≤ k ∧ k ≤ 64 ∧ i = .int .i64 k ∧ wr.heap[w4.heap.size]? = some (.cells (bitRow fun j => if j < k then signBit (IntKind.u64.wrap x).toNat m j else (IntKind.u64.wrap x).toNat.testBit j) 49 (0, 0)) ∧ Below w.heap.size w wr) (fun i _ => (64 - intOf i).toNat)
        case atStart =>
          refine ⟨m, Nat.le_refl _, hm1.2, rfl, ?_, hb5⟩
          rw [heap_alloc_new]
          congr 2
          apply bitRow_congr
          intro j hj
          by_cases g : j < m
          · rw [if_pos g]; unfold signBit; rw [if_pos g]
          · rw [if_neg g]
        case round =>
          obtain ⟨k, hmk, hk, rfl, hrow, hb⟩ := hrel
          have HB : Hid (Below w.heap.size w wr) := hb
          clear hb hb5
          by_cases hk64 : k = 64
          · subst hk64
            have HE : (bitRow fun j => if j < 64 then signBit (IntKind.u64.wrap x).toNat m j else (IntKind.u64.wrap x).toNat.testBit j) = bitRow (signBit (IntKind.u64.wrap x).toNat m) := bitRow_congr fun j hj => by rw [if_pos hj]
            rw [HE] at hrow
            have HR : Hid (wr.heap[w4.heap.size]? = some (.cells (bitRow (signBit (IntKind.u64.wrap x).toNat m)) 49 (0, 0))) := hrow
            have hsz2 := bitRow_size (signBit (IntKind.u64.wrap x).toNat m)
            clear hrow HE
            go_wp2_with (first
              | (refine wpList_load_row rfl 49 _ rfl (w4.heap.size) rfl 49 _ (0, 0) (.array 64 4) HR.out Tryz.underlying49 rfl (by rw [bitRow_size]; exact hi) ?_)
              | (go_at_call 34; refine (Tryz.rWord _ _).mono ?_; rintro e w5 ⟨rfl, hb5⟩))
            go_ret
            exact ⟨rfl, HB.out.trans (hb5.mono HB.out.size)⟩
          · have hk' : k < 64 := by omega
            have hcs := (cell_of_row _ _ k _ _ _ hrow).trans (bitRow_at _ _ hk')
            have hcm := (cell_of_row _ _ (m - 1) _ _ _ hrow).trans (bitRow_at _ _ (by omega))
            rw [if_pos (by omega)] at hcm
            have hsg : signBit (IntKind.u64.wrap x).toNat m (m - 1) = (IntKind.u64.wrap x).toNat.testBit (m - 1) := by unfold signBit; rw [if_pos (by omega)]
            have hsk : signBit (IntKind.u64.wrap x).toNat m k = (IntKind.u64.wrap x).toNat.testBit (m - 1) := by unfold signBit; rw [if_neg (by omega)]
            rw [hsg] at hcm
            have hfr := frozen_of_row _ _ k _ _ hrow
            have HR : Hid (wr.heap[w4.heap.size]? = some (.cells (bitRow fun j => if j < k then signBit (IntKind.u64.wrap x).toNat m j else (IntKind.u64.wrap x).toNat.testBit j) 49 (0, 0))) := hrow
            have HK : Hid (signBit (IntKind.u64.wrap x).toNat m k = (IntKind.u64.wrap x).toNat.testBit (m - 1)) := hsk
            clear hrow hsg hsk
            go_wp2
            refine ⟨⟨k + 1, by omega, by omega, by simp, ?_, HB.out.setCell (by simp; omega) _⟩, by simp [intOf]; omega⟩
            rw [heap_setCell_same _ _ _ _ _ _ HR.out, bitRow_set]
            congr 2
            apply bitRow_congr
            intro j hj
            by_cases e : j = k
            · subst e; rw [if_pos rfl, if_pos (by omega), HK.out]
            · rw [if_neg e]
              by_cases g : j < k
              · rw [if_pos g, if_pos (by omega)]
              · rw [if_neg g, if_neg (by omega)]
      · go_wp2_with (first
          | (go_at_call 32; refine (Tryz.NarrowOut _ _ _ h0 h1 (by omega) h2 h3).mono ?_; rintro e w3 ⟨rfl, rfl⟩))
        all_goals (go_ret; exact ⟨rfl, hb⟩)
end Go.Proofs
