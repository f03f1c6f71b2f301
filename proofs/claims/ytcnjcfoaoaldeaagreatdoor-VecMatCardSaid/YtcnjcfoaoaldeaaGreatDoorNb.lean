/- What Shl, Shr, halves, Add and Mul of the package bits return. -/
import Derived.Test.YtcnjcfoaoaldeaaGreatDoorProg
import Derived.Lib.Strings
import Derived.Lib.Slices
import Derived.Lib.Small
import Derived.Lib.Walk
import Derived.Lib.BitFns
import Derived.Laws.Shifts
import Derived.Below
import Derived.Deep.QuietTactic
import Derived.BigQuiet
import Derived.Outline
import Derived.LoopTactic
import Derived.Laws.Bits64b
import Derived.Laws.BitsAllLaws
import Derived.Laws.Rows
import Derived.Laws.Tables
import Derived.Laws.OwnMore
import Derived.OwnWalk
set_option linter.unusedVariables false
set_option maxHeartbeats 2000000
namespace Go.Proofs
open Go.RowKit
theorem i64B {a : Int} (h : (Lit.int .i64 a).wf = true) : -9223372036854775808 ≤ a ∧ a ≤ 9223372036854775807 := by
 simpa [Lit.wf, IntKind.min, IntKind.max, IntKind.signed, IntKind.bits] using h
def shlV (x n : Int) : Int := if n ≤ -64 then 0 else if n < 0 then x / 2 ^ (-n).toNat else x * 2 ^ min n.toNat 64 % 18446744073709551616
def shrV (x n : Int) : Int := if n ≤ -64 then 0 else if n < 0 then x * 2 ^ (-n).toNat % 18446744073709551616 else x / 2 ^ min n.toNat 64
theorem u64w (y : Int) : IntKind.u64.wrap y = y % 18446744073709551616 := by simp [IntKind.wrap, IntKind.signed, IntKind.bits]
theorem shlAt (k : IntKind) (x c : Int) (h : 0 ≤ c) : Op.shift .shl k x .u64 c = pure (.int k (k.wrap (x * 2 ^ min c.toNat k.bits))) := shift_shl_any k .u64 x c h
theorem shrAt (k : IntKind) (x c : Int) (h : 0 ≤ c) : Op.shift .shr k x .u64 c = pure (.int k (x / 2 ^ min c.toNat k.bits)) := shift_shr_any k .u64 x c h
theorem negMin (n : Int) (h : n < 0) (g : -64 < n) : min (-n).toNat 64 = (-n).toNat := by omega
theorem Tryz.Shl (x n : Int) (w : World) (h0 : 0 ≤ x) (h1 : x ≤ 18446744073709551615) (h2 : -9223372036854775808 ≤ n) (h3 : n ≤ 9223372036854775807) :
 Calls Tryz.prog 228 #[.int .u64 x, .int .i64 n] w fun e w' => e = .returned (.int .u64 (shlV x n)) ∧ w' = w := by
 by_cases c1 : n ≤ -64
 ·go_enter Tryz.func228, Tryz.ntmps228
  go_wp2
  all_goals (go_ret; refine ⟨congrArg Ending.returned (congrArg (Value.int IntKind.u64) ?_), rfl⟩; unfold shlV)
  rw [if_pos c1]
 ·by_cases c2 : n < 0
  ·have hs := shrAt .u64 x (-n) (by omega)
   have hm := negMin n c2 (by omega)
   go_enter Tryz.func228, Tryz.ntmps228
   go_wp2
   all_goals (go_ret; refine ⟨congrArg Ending.returned (congrArg (Value.int IntKind.u64) ?_), rfl⟩; unfold shlV)
   rw [if_neg (by omega), if_pos c2]
  ·have hs := shlAt .u64 x n (by omega)
   go_enter Tryz.func228, Tryz.ntmps228
   go_wp2
   all_goals (go_ret; refine ⟨congrArg Ending.returned (congrArg (Value.int IntKind.u64) ?_), rfl⟩; unfold shlV)
   rw [if_neg (by omega), if_neg (by omega), u64w]
theorem Tryz.Shr (x n : Int) (w : World) (h0 : 0 ≤ x) (h1 : x ≤ 18446744073709551615) (h2 : -9223372036854775808 ≤ n) (h3 : n ≤ 9223372036854775807) :
 Calls Tryz.prog 229 #[.int .u64 x, .int .i64 n] w fun e w' => e = .returned (.int .u64 (shrV x n)) ∧ w' = w := by
 by_cases c1 : n ≤ -64
 ·go_enter Tryz.func229, Tryz.ntmps229
  go_wp2
  all_goals (go_ret; refine ⟨congrArg Ending.returned (congrArg (Value.int IntKind.u64) ?_), rfl⟩; unfold shrV)
  rw [if_pos c1]
 ·by_cases c2 : n < 0
  ·have hs := shlAt .u64 x (-n) (by omega)
   have hm := negMin n c2 (by omega)
   go_enter Tryz.func229, Tryz.ntmps229
   go_wp2
   all_goals (go_ret; refine ⟨congrArg Ending.returned (congrArg (Value.int IntKind.u64) ?_), rfl⟩; unfold shrV)
   rw [if_neg (by omega), if_pos c2, u64w]
  ·have hs := shrAt .u64 x n (by omega)
   go_enter Tryz.func229, Tryz.ntmps229
   go_wp2
   all_goals (go_ret; refine ⟨congrArg Ending.returned (congrArg (Value.int IntKind.u64) ?_), rfl⟩; unfold shrV)
   rw [if_neg (by omega), if_neg (by omega)]
theorem u64In (y : Int) : 0 ≤ IntKind.u64.wrap y ∧ IntKind.u64.wrap y ≤ 18446744073709551615 := by rw [u64w]; omega
theorem belowN {B : Nat} {a w : World} (h : Below B a w) : ∀ n, Below B a (w.drewN n)
 | 0 => by rw [World.drewN_zero]; exact h
 | n + 1 => by rw [← World.drew_drewN]; exact (belowN h n).drew
theorem shrPos (x n : Int) (a0 : 0 ≤ n) (a1 : n ≤ 64) : shrV x n = x / 2 ^ n.toNat := by
 unfold shrV
 rw [if_neg (by omega), if_neg (by omega), show min n.toNat 64 = n.toNat by omega]
theorem shlPos (x n : Int) (a0 : 0 ≤ n) (a1 : n ≤ 64) : shlV x n = x * 2 ^ n.toNat % 18446744073709551616 := by
 unfold shlV
 rw [if_neg (by omega), if_neg (by omega), show min n.toNat 64 = n.toNat by omega]
theorem Tryz.halves (x : Int) (w : World) (h0 : 0 ≤ x) (h1 : x ≤ 18446744073709551615) :
 Calls Tryz.prog 92 #[.int .u64 x] w fun e w' => e = .returned (.tuple #[.int .u64 (x / 4294967296), .int .u64 (x % 4294967296)]) ∧ w' = w := by
 go_enter Tryz.func92, Tryz.ntmps92
 go_wp2
 all_goals (go_ret2; refine ⟨?_, rfl⟩)
 all_goals rfl
theorem addF (x y : Int) (h0 : 0 ≤ x) (h1 : x ≤ 18446744073709551615) (h2 : 0 ≤ y) (h3 : y ≤ 18446744073709551615) :
 IntKind.u64.wrap (x + y) = (x + y) % 18446744073709551616 ∧ decide (IntKind.u64.wrap (x + y) < x) = decide (18446744073709551616 ≤ x + y) := by
 rw [u64w]
 exact ⟨rfl, decide_eq_decide.2 (by omega)⟩
theorem addT (x y : Int) (h0 : 0 ≤ x) (h1 : x ≤ 18446744073709551615) (h2 : 0 ≤ y) (h3 : y ≤ 18446744073709551615) :
 IntKind.u64.wrap (IntKind.u64.wrap (x + y) + 1) = (x + y + 1) % 18446744073709551616 ∧ (decide (IntKind.u64.wrap (x + y) < x) || IntKind.u64.wrap (IntKind.u64.wrap (x + y) + 1) == 0) = decide (18446744073709551616 ≤ x + y + 1) := by
 rw [u64w, u64w]
 refine ⟨by omega, ?_⟩
 rw [Bool.eq_iff_iff]
 simp only [Bool.or_eq_true, decide_eq_true_eq, beq_iff_eq]
 omega
theorem sumPair {a b : Int} {c d : Bool} (h : a = b) (g : c = d) : Ending.returned (.tuple #[.int .u64 a, .bool c]) = .returned (.tuple #[.int .u64 b, .bool d]) := by rw [h, g]
theorem Tryz.Add (x y : Int) (c : Bool) (w : World) (h0 : 0 ≤ x) (h1 : x ≤ 18446744073709551615) (h2 : 0 ≤ y) (h3 : y ≤ 18446744073709551615) :
 Calls Tryz.prog 176 #[.int .u64 x, .int .u64 y, .bool c] w fun e w' => e = .returned (.tuple #[.int .u64 ((x + y + if c then 1 else 0) % 18446744073709551616), .bool (decide (18446744073709551616 ≤ x + y + if c then 1 else 0))]) ∧ w' = w := by
 cases c
 ·go_enter Tryz.func176, Tryz.ntmps176
  go_wp2
  all_goals (go_ret2; refine ⟨?_, rfl⟩)
  all_goals exact sumPair (addF x y h0 h1 h2 h3).1 (addF x y h0 h1 h2 h3).2
 ·go_enter Tryz.func176, Tryz.ntmps176
  go_wp2
  all_goals (go_ret2; refine ⟨?_, rfl⟩)
  all_goals first
   | exact sumPair (addT x y h0 h1 h2 h3).1 (addT x y h0 h1 h2 h3).2
   |(have hc : IntKind.u64.wrap (x + y) < x := by assumption
     rw [u64w] at hc
     exact sumPair (addT x y h0 h1 h2 h3).1 (decide_eq_true (by omega)).symm)
theorem wordPair {a b c d : Int} (h : a = b) (g : c = d) : Ending.returned (.tuple #[.int .u64 a, .int .u64 c]) = .returned (.tuple #[.int .u64 b, .int .u64 d]) := by rw [h, g]
theorem orLow (a b : Int) (h0 : 0 ≤ a) (h1 : a ≤ 4294967295) (g0 : 0 ≤ b) (g1 : b ≤ 4294967295) : bits .or .u64 (a * 4294967296) b = a * 4294967296 + b := by
 obtain ⟨A, rfl⟩ := Int.eq_ofNat_of_zero_le h0
 obtain ⟨B, rfl⟩ := Int.eq_ofNat_of_zero_le g0
 have e : ((A : Int) * 4294967296) = ((A * 4294967296 : Nat) : Int) := by omega
 have key : A * 4294967296 ||| B = A * 4294967296 + B := by
  have := Nat.shiftLeft_add_eq_or_of_lt (i := 32) (show B < 2 ^ 32 by omega) A
  rw [Nat.shiftLeft_eq] at this
  exact this.symm
 rw [e, bits_or_u64_nat _ _ (by omega) (by omega), key]
 omega
/-- The product of two words, by halves: each of the sums fits a word. -/
theorem mulParts (x y : Int) (h0 : 0 ≤ x) (h1 : x ≤ 18446744073709551615) (h2 : 0 ≤ y) (h3 : y ≤ 18446744073709551615) :
 ∃ a b c d p q r s : Int, x / 4294967296 = a ∧ x % 4294967296 = b ∧ y / 4294967296 = c ∧ y % 4294967296 = d ∧ a * c = p ∧ a * d = q ∧ b * c = r ∧ b * d = s ∧ 0 ≤ p ∧ p ≤ 18446744065119617025 ∧ 0 ≤ q ∧ q ≤ 18446744065119617025 ∧ 0 ≤ r ∧ r ≤ 18446744065119617025 ∧ 0 ≤ s ∧ s ≤ 18446744065119617025 ∧ x * y = p * 18446744073709551616 + (q + r) * 4294967296 + s := by
 have key : ∀ a b : Int, 0 ≤ a → a ≤ 4294967295 → 0 ≤ b → b ≤ 4294967295 → 0 ≤ a * b ∧ a * b ≤ 18446744065119617025 := fun a b ha hA hb hB =>
  ⟨Int.mul_nonneg ha hb, by have := Int.mul_le_mul hA hB hb (by omega); omega⟩
 have ha : 0 ≤ x / 4294967296 ∧ x / 4294967296 ≤ 4294967295 := by omega
 have hb : 0 ≤ x % 4294967296 ∧ x % 4294967296 ≤ 4294967295 := by omega
 have hc : 0 ≤ y / 4294967296 ∧ y / 4294967296 ≤ 4294967295 := by omega
 have hd : 0 ≤ y % 4294967296 ∧ y % 4294967296 ≤ 4294967295 := by omega
 have e1 : x = x / 4294967296 * 4294967296 + x % 4294967296 := by omega
 have e2 : y = y / 4294967296 * 4294967296 + y % 4294967296 := by omega
 have k1 := key _ _ ha.1 ha.2 hc.1 hc.2
 have k2 := key _ _ ha.1 ha.2 hd.1 hd.2
 have k3 := key _ _ hb.1 hb.2 hc.1 hc.2
 have k4 := key _ _ hb.1 hb.2 hd.1 hd.2
 refine ⟨_, _, _, _, _, _, _, _, rfl, rfl, rfl, rfl, rfl, rfl, rfl, rfl, k1.1, k1.2, k2.1, k2.2, k3.1, k3.2, k4.1, k4.2, ?_⟩
 have hxy : x * y = (x / 4294967296 * 4294967296 + x % 4294967296) * (y / 4294967296 * 4294967296 + y % 4294967296) := by rw [← e1, ← e2]
 rw [hxy]
 generalize x / 4294967296 = a
 generalize x % 4294967296 = b
 generalize y / 4294967296 = c
 generalize y % 4294967296 = d
 rw [Int.add_mul, Int.mul_add, Int.mul_add]
 have f1 : a * 4294967296 * (c * 4294967296) = a * c * 18446744073709551616 := by rw [Int.mul_assoc, Int.mul_left_comm 4294967296, ← Int.mul_assoc]; omega
 have f2 : a * 4294967296 * d = a * d * 4294967296 := Int.mul_right_comm _ _ _
 have f3 : b * (c * 4294967296) = b * c * 4294967296 := (Int.mul_assoc _ _ _).symm
 omega
theorem Tryz.Mul (x y : Int) (w : World) (h0 : 0 ≤ x) (h1 : x ≤ 18446744073709551615) (h2 : 0 ≤ y) (h3 : y ≤ 18446744073709551615) :
 Calls Tryz.prog 43 #[.int .u64 x, .int .u64 y] w fun e w' => (∃ h l, x * y = h * 18446744073709551616 + l ∧ 0 ≤ h ∧ h ≤ 18446744073709551615 ∧ 0 ≤ l ∧ l ≤ 18446744073709551615 ∧ e = .returned (.tuple #[.int .u64 h, .int .u64 l])) ∧ w' = w := by
 obtain ⟨a, b, c, d, p, q, r, s, ea, eb, ec, ed, ep, eq, er, es, p0, p1, q0, q1, r0, r1, s0, s1, exy⟩ := mulParts x y h0 h1 h2 h3
 have ho := fun a b i j k l => orLow a b i j k l
 have hA : 0 ≤ a := by omega
 have hB : 0 ≤ b := by omega
 have hC : 0 ≤ c := by omega
 have hD : 0 ≤ d := by omega
 clear ho
 have HX : Hid (x * y = p * 18446744073709551616 + (q + r) * 4294967296 + s) := exy
 clear exy
 go_enter Tryz.func43, Tryz.ntmps43
 go_wp2_with (go_at_call 92; refine (Tryz.halves _ _ (by omega) (by omega)).mono ?_; rintro e w' ⟨rfl, rfl⟩)
 all_goals (go_ret2; refine ⟨⟨_, _, ?_, ?_, ?_, ?_, ?_, rfl⟩, rfl⟩)
 all_goals (try rw [orLow _ _ (by omega) (by omega) (by omega) (by omega)])
 all_goals (try rw [HX.out])
 all_goals omega
theorem Tryz.AddX (x y : Int) (c : Bool) (w : World) (h0 : 0 ≤ x) (h1 : x ≤ 18446744073709551615) (h2 : 0 ≤ y) (h3 : y ≤ 18446744073709551615) :
 Calls Tryz.prog 176 #[.int .u64 x, .int .u64 y, .bool c] w fun e w' => (∃ s d, s + (if d = true then 18446744073709551616 else 0) = x + y + (if c = true then 1 else 0) ∧ 0 ≤ s ∧ s ≤ 18446744073709551615 ∧ e = .returned (.tuple #[.int .u64 s, .bool d])) ∧ w' = w := by
 refine (Tryz.Add x y c w h0 h1 h2 h3).mono ?_
 rintro e w' ⟨rfl, rfl⟩
 refine ⟨⟨_, _, ?_, by omega, by omega, rfl⟩, rfl⟩
 simp only [decide_eq_true_eq]
 cases c
 ·simp only [Bool.false_eq_true, if_false]
  split <;> omega
 ·simp only [if_true]
  split <;> omega
end Go.Proofs
