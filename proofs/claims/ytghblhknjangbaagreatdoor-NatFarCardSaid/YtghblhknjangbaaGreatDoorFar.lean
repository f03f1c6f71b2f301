/- NatFar: shifts beyond a hundred thousand bits are nought, and up and down by less is nothing: the call returns true. -/
import Derived.Test.YtghblhknjangbaaGreatDoorDt
import Derived.Test.YtghblhknjangbaaGreatDoorBase
namespace Go.Proofs.Wd
open Go.RowKit
set_option linter.unusedVariables false
theorem far_up {z k : Int} (h : 100000 < k) : far z k = 0 := by unfold far; rw [if_pos (.inr h)]
theorem far_dn {z k : Int} (h : k < -100000) : far z k = 0 := by unfold far; rw [if_pos (.inl h)]
theorem farDown_up {z k : Int} (h : 100000 < k) : farDown z k = 0 := by unfold farDown; rw [if_neg (by omega)]; exact far_dn (by omega)
theorem farDown_dn {z k : Int} (h : k < -100000) : farDown z k = 0 := by unfold farDown; rw [if_pos h]
theorem far_there_back (z : Int) : farDown (far z 99000) 99000 = z := by
  have h1 : far z 99000 = z * 2 ^ (99000 : Int).toNat := by unfold far; rw [if_neg (by omega), if_neg (by omega)]
  have h2 : ∀ y, farDown y 99000 = y / 2 ^ (99000 : Int).toNat := fun y => by
    unfold farDown; rw [if_neg (by omega)]; unfold far; rw [if_neg (by omega), if_pos (by omega)]; rfl
  rw [h2, h1]
  generalize (99000 : Int).toNat = n
  have : (2 : Int) ^ n ≠ 0 := by have : (0 : Int) < 2 ^ n := Int.pow_pos (by omega); omega
  exact Int.mul_ediv_cancel _ this
/-- A call at one number that it leaves as it is. -/
structure Kept (w0 w : World) (v : Value) (z : Int) : Prop where
  num : Num w v z 120
  below : Below w0.heap.size w0 w
theorem Kept.after {w0 w w' : World} {v : Value} {z : Int} (h : Kept w0 w v z) (hb : Below w.heap.size w w') : Kept w0 w' v z := ⟨h.num.below hb (Nat.le_refl _), Below.after h.below hb⟩
set_option maxHeartbeats 8000000 in
set_option maxRecDepth 100000 in
theorem farWalk (s : ByteArray) (k : Int) (w : World) (hmax : s.size ≤ 9223372036854775807) (k0 : -9223372036854775808 ≤ k) (k1 : k ≤ 9223372036854775807)
    (hB : Calls Tryz.prog 10 #[] w fun e w' => e = .returned (.bool true) ∧ Below w.heap.size w w') :
    Calls Tryz.prog 9 #[.string s, .int .i64 k] w fun e w' => e = .returned (.bool true) ∧ Below w.heap.size w w' := by
  obtain ⟨r, hr⟩ : ∃ r, k.tmod 1000 = r := ⟨_, rfl⟩
  have hrb : -1000 < r ∧ r < 1000 := by rw [← hr]; exact ⟨Int.lt_tmod_of_pos _ (by omega), Int.tmod_lt_of_pos _ (by omega)⟩
  obtain ⟨r0, r1⟩ := hrb
  obtain ⟨q, hq⟩ : ∃ q, (r + 1000) % 1000 = q := ⟨_, rfl⟩
  have hqb : 0 ≤ q ∧ q < 1000 := by omega
  obtain ⟨q0, q1⟩ := hqb
  clear k0 k1
  go_enter Tryz.func9, Tryz.ntmps9
  go_wp2_with (go_at_call 10; (with_reducible refine hB.mono ?_); rintro e w1 ⟨rfl, hb1⟩)
  refine (Tryz.NX s _ hmax).mono ?_
  rintro e w2 ⟨⟨v, u, z, rfl, hz, hv, -⟩, hb2⟩
  have HK : Hid (Kept w w2 v z) := ⟨hv, Below.after hb1 hb2⟩
  clear hb1 hb2 hv hz
  go_wp2_with fail
  trace_state
  refine (Tryz.Shl v z _ 120 _ HK.out.num (by omega) (by omega) (by omega)).mono ?_
  rintro e w3 ⟨⟨v3, rfl, hv3⟩, hb3⟩
  rw [far_up (by omega)] at hv3
  have HN3 : Hid (Num w3 v3 0 1720) := hv3
  have HK3 : Hid (Kept w w3 v z) := HK.out.after hb3
  clear hv3 hb3 HK
  go_wp2_with fail
  refine (Tryz.textZero v3 1720 _ HN3.out).mono ?_
  rintro e w4 ⟨rfl, hb4⟩
  have HK4 : Hid (Kept w w4 v z) := HK3.out.after hb4
  clear hb4 HK3 HN3
  go_wp2_with fail
  refine (Tryz.Shr v z _ 120 _ HK4.out.num (by omega) (by omega) (by omega)).mono ?_
  rintro e w5 ⟨⟨v5, rfl, hv5⟩, hb5⟩
  rw [farDown_up (by omega)] at hv5
  have HN5 : Hid (Num w5 v5 0 1720) := hv5
  have HK5 : Hid (Kept w w5 v z) := HK4.out.after hb5
  clear hv5 hb5 HK4
  go_wp2_with fail
  refine (Tryz.textZero v5 1720 _ HN5.out).mono ?_
  rintro e w6 ⟨rfl, hb6⟩
  have HK6 : Hid (Kept w w6 v z) := HK5.out.after hb6
  clear hb6 HK5 HN5
  go_wp2_with fail
  refine (Tryz.Shl v z _ 120 _ HK6.out.num (by omega) (by omega) (by omega)).mono ?_
  rintro e w7 ⟨⟨v7, rfl, hv7⟩, hb7⟩
  rw [far_dn (by omega)] at hv7
  have HN7 : Hid (Num w7 v7 0 1720) := hv7
  have HK7 : Hid (Kept w w7 v z) := HK6.out.after hb7
  clear hv7 hb7 HK6
  go_wp2_with fail
  refine (Tryz.textZero v7 1720 _ HN7.out).mono ?_
  rintro e w8 ⟨rfl, hb8⟩
  have HK8 : Hid (Kept w w8 v z) := HK7.out.after hb8
  clear hb8 HK7 HN7
  go_wp2_with fail
  refine (Tryz.Shr v z _ 120 _ HK8.out.num (by omega) (by omega) (by omega)).mono ?_
  rintro e w9 ⟨⟨v9, rfl, hv9⟩, hb9⟩
  rw [farDown_dn (by omega)] at hv9
  have HN9 : Hid (Num w9 v9 0 1720) := hv9
  have HK9 : Hid (Kept w w9 v z) := HK8.out.after hb9
  clear hv9 hb9 HK8
  go_wp2_with fail
  refine (Tryz.textZero v9 1720 _ HN9.out).mono ?_
  rintro e w10 ⟨rfl, hb10⟩
  have HK10 : Hid (Kept w w10 v z) := HK9.out.after hb10
  clear hb10 HK9 HN9
  go_wp2_with fail
  refine (Tryz.Shl v z 99000 120 _ HK10.out.num (by omega) (by omega) (by omega)).mono ?_
  rintro e w11 ⟨⟨v11, rfl, hv11⟩, hb11⟩
  have HN11 : Hid (Num w11 v11 (far z 99000) 1720) := hv11
  have HK11 : Hid (Kept w w11 v z) := HK10.out.after hb11
  clear hv11 hb11 HK10
  go_wp2_with fail
  refine (Tryz.Shr v11 (far z 99000) 99000 1720 _ HN11.out (by omega) (by omega) (by omega)).mono ?_
  rintro e w12 ⟨⟨v12, rfl, hv12⟩, hb12⟩
  rw [far_there_back] at hv12
  have HN12 : Hid (Num w12 v12 z 3320) := hv12
  have HK12 : Hid (Kept w w12 v z) := HK11.out.after hb12
  clear hv12 hb12 HK11 HN11
  go_wp2_with fail
  refine (Tryz.Cmp v12 v z z 3320 120 _ HN12.out HK12.out.num).mono ?_
  rintro e w13 ⟨rfl, hb13⟩
  have hc : cmpI z z = 0 := cmpI_eq rfl
  have HK13 : Hid (Kept w w13 v z) := HK12.out.after hb13
  clear hb13 HK12 HN12
  rw [hc]
  clear hc
  go_wp2
  go_ret
  exact ⟨rfl, HK13.out.below⟩
end Go.Proofs.Wd
