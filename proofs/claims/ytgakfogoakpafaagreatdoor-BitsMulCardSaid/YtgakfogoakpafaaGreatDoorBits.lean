/- What the functions of the package bits return, and the walks of laws that call nothing else. -/
import Derived.Test.YtgakfogoakpafaaGreatDoorProg
import Derived.Lib.Strings
import Derived.Lib.Slices
import Derived.Lib.Small
import Derived.Lib.Walk
import Derived.Lib.BitFns
import Derived.Laws.Shifts
import Derived.Below
import Derived.Deep.QuietTactic
import Derived.BigQuiet
import Derived.Outline
namespace Go.Proofs
open Go.RowKit
set_option linter.unusedVariables false
theorem i64B {a : Int} (h : (Lit.int .i64 a).wf = true) : -9223372036854775808 ≤ a ∧ a ≤ 9223372036854775807 := by
  simpa [Lit.wf, IntKind.min, IntKind.max, IntKind.signed, IntKind.bits] using h
theorem u64B {a : Int} (h : (Lit.int .u64 a).wf = true) : 0 ≤ a ∧ a ≤ 18446744073709551615 := by
  simpa [Lit.wf, IntKind.min, IntKind.max, IntKind.signed, IntKind.bits] using h
def shlV (x n : Int) : Int := if n ≤ -64 then 0 else if n < 0 then x / 2 ^ (-n).toNat else x * 2 ^ min n.toNat 64 % 18446744073709551616
def shrV (x n : Int) : Int := if n ≤ -64 then 0 else if n < 0 then x * 2 ^ (-n).toNat % 18446744073709551616 else x / 2 ^ min n.toNat 64
def sarV (x n : Int) : Int := if n ≤ -64 then 0 else if n < 0 then RowKit.wrap64 (x * 2 ^ (-n).toNat) else x / 2 ^ min n.toNat 64
def narV (x n : Int) : Int := RowKit.wrap64 (x * 2 ^ (64 - n).toNat) / 2 ^ (64 - n).toNat
theorem u64w (y : Int) : IntKind.u64.wrap y = y % 18446744073709551616 := by simp [IntKind.wrap, IntKind.signed, IntKind.bits]
theorem shlAt (k : IntKind) (x c : Int) (h : 0 ≤ c) : Op.shift .shl k x .u64 c = pure (.int k (k.wrap (x * 2 ^ min c.toNat k.bits))) := shift_shl_any k .u64 x c h
theorem shrAt (k : IntKind) (x c : Int) (h : 0 ≤ c) : Op.shift .shr k x .u64 c = pure (.int k (x / 2 ^ min c.toNat k.bits)) := shift_shr_any k .u64 x c h
theorem negMin (n : Int) (h : n < 0) (g : -64 < n) : min (-n).toNat 64 = (-n).toNat := by omega

set_option maxHeartbeats 1000000 in
theorem Tryz.Shl (x n : Int) (w : World) (h0 : 0 ≤ x) (h1 : x ≤ 18446744073709551615) (h2 : -9223372036854775808 ≤ n) (h3 : n ≤ 9223372036854775807) :
    Calls Tryz.prog 13 #[.int .u64 x, .int .i64 n] w fun e w' => e = .returned (.int .u64 (shlV x n)) ∧ w' = w := by
  by_cases c1 : n ≤ -64
  · go_enter Tryz.func13, Tryz.ntmps13
    go_wp2
    all_goals (go_ret; refine ⟨congrArg Ending.returned (congrArg (Value.int IntKind.u64) ?_), rfl⟩; unfold shlV)
    rw [if_pos c1]
  · by_cases c2 : n < 0
    · have hs := shrAt .u64 x (-n) (by omega)
      have hm := negMin n c2 (by omega)
      go_enter Tryz.func13, Tryz.ntmps13
      go_wp2
      all_goals (go_ret; refine ⟨congrArg Ending.returned (congrArg (Value.int IntKind.u64) ?_), rfl⟩; unfold shlV)
      rw [if_neg (by omega), if_pos c2]
    · have hs := shlAt .u64 x n (by omega)
      go_enter Tryz.func13, Tryz.ntmps13
      go_wp2
      all_goals (go_ret; refine ⟨congrArg Ending.returned (congrArg (Value.int IntKind.u64) ?_), rfl⟩; unfold shlV)
      rw [if_neg (by omega), if_neg (by omega), u64w]
set_option maxHeartbeats 1000000 in
theorem Tryz.Shr (x n : Int) (w : World) (h0 : 0 ≤ x) (h1 : x ≤ 18446744073709551615) (h2 : -9223372036854775808 ≤ n) (h3 : n ≤ 9223372036854775807) :
    Calls Tryz.prog 14 #[.int .u64 x, .int .i64 n] w fun e w' => e = .returned (.int .u64 (shrV x n)) ∧ w' = w := by
  by_cases c1 : n ≤ -64
  · go_enter Tryz.func14, Tryz.ntmps14
    go_wp2
    all_goals (go_ret; refine ⟨congrArg Ending.returned (congrArg (Value.int IntKind.u64) ?_), rfl⟩; unfold shrV)
    rw [if_pos c1]
  · by_cases c2 : n < 0
    · have hs := shlAt .u64 x (-n) (by omega)
      have hm := negMin n c2 (by omega)
      go_enter Tryz.func14, Tryz.ntmps14
      go_wp2
      all_goals (go_ret; refine ⟨congrArg Ending.returned (congrArg (Value.int IntKind.u64) ?_), rfl⟩; unfold shrV)
      rw [if_neg (by omega), if_pos c2, u64w]
    · have hs := shrAt .u64 x n (by omega)
      go_enter Tryz.func14, Tryz.ntmps14
      go_wp2
      all_goals (go_ret; refine ⟨congrArg Ending.returned (congrArg (Value.int IntKind.u64) ?_), rfl⟩; unfold shrV)
      rw [if_neg (by omega), if_neg (by omega)]
set_option maxHeartbeats 1000000 in
theorem Tryz.Sar (x n : Int) (w : World) (h0 : -9223372036854775808 ≤ x) (h1 : x ≤ 9223372036854775807) (h2 : -9223372036854775808 ≤ n) (h3 : n ≤ 9223372036854775807) :
    Calls Tryz.prog 15 #[.int .i64 x, .int .i64 n] w fun e w' => e = .returned (.int .i64 (sarV x n)) ∧ w' = w := by
  by_cases c1 : n ≤ -64
  · go_enter Tryz.func15, Tryz.ntmps15
    go_wp2
    all_goals (go_ret; refine ⟨congrArg Ending.returned (congrArg (Value.int IntKind.i64) ?_), rfl⟩; unfold sarV)
    rw [if_pos c1]
  · by_cases c2 : n < 0
    · have hs := shlAt .i64 x (-n) (by omega)
      have hm := negMin n c2 (by omega)
      go_enter Tryz.func15, Tryz.ntmps15
      go_wp2
      all_goals (go_ret; refine ⟨congrArg Ending.returned (congrArg (Value.int IntKind.i64) ?_), rfl⟩; unfold sarV)
      rw [if_neg (by omega), if_pos c2]
    · have hs := shrAt .i64 x n (by omega)
      go_enter Tryz.func15, Tryz.ntmps15
      go_wp2
      all_goals (go_ret; refine ⟨congrArg Ending.returned (congrArg (Value.int IntKind.i64) ?_), rfl⟩; unfold sarV)
      rw [if_neg (by omega), if_neg (by omega)]
set_option maxHeartbeats 1000000 in
theorem Tryz.Narrow (x n : Int) (w : World)  (h0 : -9223372036854775808 ≤ x) (h1 : x ≤ 9223372036854775807) (h2 : 1 ≤ n) (h3 : n ≤ 64) :
    Calls Tryz.prog 32 #[.int .i64 x, .int .i64 n] w fun e w' => e = .returned (.tuple #[.int .i64 (narV x n), .bool (narV x n == x)]) ∧ w' = w := by
  have hs := fun x => shlAt .i64 x (64 - n) (by omega)
  have ht := fun x => shrAt .i64 x (64 - n) (by omega)
  have hm : min (64 - n).toNat 64 = (64 - n).toNat := by omega
  go_enter Tryz.func32, Tryz.ntmps32
  go_wp2
  all_goals (go_ret2; refine ⟨?_, rfl⟩)
  unfold narV
  rfl
theorem swIn (y : Int) : -9223372036854775808 ≤ RowKit.wrap64 y ∧ RowKit.wrap64 y ≤ 9223372036854775807 := by unfold RowKit.wrap64; omega
theorem sw_of {y : Int} (h0 : -9223372036854775808 ≤ y) (h1 : y ≤ 9223372036854775807) : RowKit.wrap64 y = y := by unfold RowKit.wrap64; omega
theorem divIn (y : Int) (k : Nat) (h0 : -9223372036854775808 ≤ y) (h1 : y ≤ 9223372036854775807) : -9223372036854775808 ≤ y / 2 ^ k ∧ y / 2 ^ k ≤ 9223372036854775807 := by
  have hp : (0 : Int) < 2 ^ k := Int.pow_pos (by omega)
  constructor
  · apply Int.le_ediv_of_mul_le hp
    have : (1 : Int) ≤ 2 ^ k := by omega
    have := Int.mul_le_mul_of_nonneg_left this (show (0 : Int) ≤ 9223372036854775808 by omega)
    have e : -9223372036854775808 * (2 : Int) ^ k = -(9223372036854775808 * 2 ^ k) := Int.neg_mul ..
    omega
  · apply Int.le_of_lt_add_one
    apply Int.ediv_lt_of_lt_mul hp
    have : (1 : Int) ≤ 2 ^ k := by omega
    have := Int.mul_le_mul_of_nonneg_left this (show (0 : Int) ≤ 9223372036854775808 by omega)
    omega
theorem narIn (x n : Int) : -9223372036854775808 ≤ narV x n ∧ narV x n ≤ 9223372036854775807 := divIn _ _ (swIn _).1 (swIn _).2

theorem u64In (y : Int) : 0 ≤ IntKind.u64.wrap y ∧ IntKind.u64.wrap y ≤ 18446744073709551615 := by rw [u64w]; omega
theorem narEq (x n : Int) (h1 : 1 ≤ n) (h2 : n ≤ 64) : narV x n = (x + 2 ^ (n - 1).toNat) % 2 ^ n.toNat - 2 ^ (n - 1).toNat := by
  unfold narV RowKit.wrap64
  have hP : (0 : Int) < 2 ^ (64 - n).toNat := Int.pow_pos (by omega)
  have hH : (2 : Int) ^ (64 - n).toNat * 2 ^ (n - 1).toNat = 9223372036854775808 := by
    rw [← Int.pow_add, show (64 - n).toNat + (n - 1).toNat = 63 by omega]; rfl
  have hQ : (2 : Int) ^ (64 - n).toNat * 2 ^ n.toNat = 18446744073709551616 := by
    rw [← Int.pow_add, show (64 - n).toNat + n.toNat = 64 by omega]; rfl
  generalize (2 : Int) ^ (64 - n).toNat = p at hP hH hQ
  generalize (2 : Int) ^ (n - 1).toNat = q at hH
  generalize (2 : Int) ^ n.toNat = m at hQ
  rw [← hH, ← hQ, Int.mul_comm x p, ← Int.mul_add, Int.mul_emod_mul_of_pos _ _ hP, ← Int.mul_sub, Int.mul_ediv_cancel_left _ (by omega)]
theorem narIdem (x n : Int) (h1 : 1 ≤ n) (h2 : n ≤ 64) : narV (narV x n) n = narV x n := by
  rw [narEq x n h1 h2, narEq _ n h1 h2, Int.sub_add_cancel, Int.emod_emod]
theorem wrapMod (z : Int) : RowKit.wrap64 (z % 18446744073709551616) = RowKit.wrap64 z := by unfold RowKit.wrap64; omega
theorem sarShl (x n : Int) (h1 : 1 ≤ n) (h2 : n ≤ 64) : sarV (RowKit.wrap64 (shlV (IntKind.u64.wrap x) (64 - n))) (64 - n) = narV x n := by
  unfold sarV shlV narV
  rw [if_neg (by omega), if_neg (by omega), if_neg (by omega), if_neg (by omega), show min (64 - n).toNat 64 = (64 - n).toNat by omega, wrapMod, u64w]
  congr 1
  rw [← wrapMod, Int.mul_emod, Int.emod_emod, ← Int.mul_emod, wrapMod]
theorem narFull (x : Int) (h0 : -9223372036854775808 ≤ x) (h1 : x ≤ 9223372036854775807) : narV x 64 = x := by
  unfold narV; simp; exact sw_of h0 h1
set_option maxHeartbeats 4000000 in
theorem narrowWalk (x n : Int) (w : World) (h0 : -9223372036854775808 ≤ x) (h1 : x ≤ 9223372036854775807) (h2 : -9223372036854775808 ≤ n) (h3 : n ≤ 9223372036854775807)
    (hB : Calls Tryz.prog 11 #[] w fun e w' => e = .returned (.bool true) ∧ Below w.heap.size w w') :
    Calls Tryz.prog 10 #[.int .i64 x, .int .i64 n] w fun e w' => e = .returned (.bool true) ∧ Below w.heap.size w w' := by
  obtain ⟨r, hr, hr0, hr1⟩ : ∃ r, n.tmod 64 = r ∧ -64 < r ∧ r < 64 := ⟨_, rfl, Int.lt_tmod_of_pos _ (by omega), Int.tmod_lt_of_pos _ (by omega)⟩
  have hid := narIdem x (1 + r % 64) (by omega) (by omega)
  have hsar := sarShl x (1 + r % 64) (by omega) (by omega)
  have hsame := narFull x h0 h1
  go_enter Tryz.func10, Tryz.ntmps10
  go_wp2_with (first
    | (go_at_call 11; (with_reducible refine hB.mono ?_); rintro e w1 ⟨rfl, hb⟩)
    | (go_at_call 32; refine (Tryz.Narrow _ _ _ (by first | omega | exact (narIn _ _).1) (by first | omega | exact (narIn _ _).2) (by omega) (by omega)).mono ?_; rintro e w' ⟨rfl, rfl⟩)
    | (go_at_call 13; refine (Tryz.Shl _ _ _ (by first | omega | exact (u64In _).1) (by first | omega | exact (u64In _).2) (by omega) (by omega)).mono ?_; rintro e w' ⟨rfl, rfl⟩)
    | (go_at_call 15; refine (Tryz.Sar _ _ _ (swIn _).1 (swIn _).2 (by omega) (by omega)).mono ?_; rintro e w' ⟨rfl, rfl⟩))
  all_goals (go_ret; refine ⟨congrArg Ending.returned (congrArg Value.bool ?_), hb⟩)
  all_goals try rfl
  rw [show 1 + r % 64 = 64 by omega, hsame]
  simp
end Go.Proofs
