/- NatOwn: numbers that were reckoned with are as they were: the call returns true. -/
import Derived.Test.YtgcnpjnanlbmpaaGreatDoorKs
namespace Go.Proofs.Wd
open Go.RowKit
set_option linter.unusedVariables false
set_option maxHeartbeats 8000000 in
set_option maxRecDepth 100000 in
theorem ownWalk (s t : ByteArray) (w : World) (hs : s.size ≤ 9223372036854775807) (ht : t.size ≤ 9223372036854775807) (hT : TabOk w)
    (hB : Calls Tryz.prog 10 #[] w fun e w' => e = .returned (.bool true) ∧ Below w.heap.size w w') :
    Calls Tryz.prog 7 #[.string s, .string t] w fun e w' => e = .returned (.bool true) ∧ Below w.heap.size w w' := by
  have HT : Hid (TabOk w) := hT
  clear hT
  go_enter Tryz.func7, Tryz.ntmps7
  go_wp2_with (go_at_call 10; (with_reducible refine hB.mono ?_); rintro e w1 ⟨rfl, hb1⟩; have HK1 : Hid (Kept w w1 []) := Kept.start hb1 (HT.out.after hb1); clear hb1 hB HT)
  go_wp2_with fail
  with_reducible refine (Tryz.NX s _ (by assumption)).mono ?_
  rintro e w2 ⟨⟨a, u2, A, rfl, A0, hn2, -⟩, hb2⟩
  have HK2 : Hid (Kept w w2 [(a, A, 120)]) := HK1.out.add hb2 hn2
  clear hn2 hb2 HK1
  go_wp2_with fail
  with_reducible refine (Tryz.NX t _ (by assumption)).mono ?_
  rintro e w3 ⟨⟨b, u3, B, rfl, B0, hn3, -⟩, hb3⟩
  have HK3 : Hid (Kept w w3 [(b, B, 120), (a, A, 120)]) := HK2.out.add hb3 hn3
  clear hn3 hb3 HK2
  go_wp2_with fail
  with_reducible refine (Tryz.textX a A _ _ (HK3.out.at (v := a) (z := A) (n := 120) (by simp)) (by omega) HK3.out.tab).mono ?_
  rintro e w4 ⟨rfl, hb4⟩
  have HK4 : Hid (Kept w w4 [(b, B, 120), (a, A, 120)]) := HK3.out.after hb4
  clear hb4 HK3
  go_wp2_with fail
  with_reducible refine (Tryz.textX b B _ _ (HK4.out.at (v := b) (z := B) (n := 120) (by simp)) (by omega) HK4.out.tab).mono ?_
  rintro e w5 ⟨rfl, hb5⟩
  have HK5 : Hid (Kept w w5 [(b, B, 120), (a, A, 120)]) := HK4.out.after hb5
  clear hb5 HK4
  go_wp2_with fail
  with_reducible refine (Tryz.natAdd a b A B _ _ _ (HK5.out.at (v := a) (z := A) (n := 120) (by simp)) (HK5.out.at (v := b) (z := B) (n := 120) (by simp)) (by omega) (by omega)).mono ?_
  rintro e w6 ⟨⟨r5, rfl, -⟩, hb6⟩
  have HK6 : Hid (Kept w w6 [(b, B, 120), (a, A, 120)]) := HK5.out.after hb6
  clear hb6 HK5
  go_wp2_with fail
  with_reducible refine (Tryz.natMul a b A B _ _ _ (HK6.out.at (v := a) (z := A) (n := 120) (by simp)) (HK6.out.at (v := b) (z := B) (n := 120) (by simp)) (by omega) (by omega)).mono ?_
  rintro e w7 ⟨⟨r6, rfl, -⟩, hb7⟩
  have HK7 : Hid (Kept w w7 [(b, B, 120), (a, A, 120)]) := HK6.out.after hb7
  clear hb7 HK6
  go_wp2_with fail
  with_reducible refine (Tryz.lessAny a b A B _ _ _ (HK7.out.at (v := a) (z := A) (n := 120) (by simp)) (HK7.out.at (v := b) (z := B) (n := 120) (by simp)) (by omega)).mono ?_
  rintro e w8 ⟨⟨r7, o7, rfl⟩, hb8⟩
  have HK8 : Hid (Kept w w8 [(b, B, 120), (a, A, 120)]) := HK7.out.after hb8
  clear hb8 HK7
  go_wp2_with fail
  with_reducible refine (Tryz.divAny a b A B _ _ _ (HK8.out.at (v := a) (z := A) (n := 120) (by simp)) (HK8.out.at (v := b) (z := B) (n := 120) (by simp)) (by omega)).mono ?_
  rintro e w9 ⟨⟨r8, q8, o8, rfl⟩, hb9⟩
  have HK9 : Hid (Kept w w9 [(b, B, 120), (a, A, 120)]) := HK8.out.after hb9
  clear hb9 HK8
  go_wp2_with fail
  with_reducible refine (Tryz.natGcd a b A B _ _ _ (HK9.out.at (v := a) (z := A) (n := 120) (by simp)) (HK9.out.at (v := b) (z := B) (n := 120) (by simp)) (by omega) (by omega)).mono ?_
  rintro e w10 ⟨⟨r9, rfl, -⟩, hb10⟩
  have HK10 : Hid (Kept w w10 [(b, B, 120), (a, A, 120)]) := HK9.out.after hb10
  clear hb10 HK9
  go_wp2_with fail
  with_reducible refine (Tryz.Shl a A 70 _ _ (HK10.out.at (v := a) (z := A) (n := 120) (by simp)) (by omega) (by omega) (by omega)).mono ?_
  rintro e w11 ⟨⟨r10, rfl, -⟩, hb11⟩
  have HK11 : Hid (Kept w w11 [(b, B, 120), (a, A, 120)]) := HK10.out.after hb11
  clear hb11 HK10
  go_wp2_with fail
  with_reducible refine (Tryz.Shr a A 3 _ _ (HK11.out.at (v := a) (z := A) (n := 120) (by simp)) (by omega) (by omega) (by omega)).mono ?_
  rintro e w12 ⟨⟨r11, rfl, -⟩, hb12⟩
  have HK12 : Hid (Kept w w12 [(b, B, 120), (a, A, 120)]) := HK11.out.after hb12
  clear hb12 HK11
  go_wp2_with fail
  with_reducible refine (Tryz.textX a A _ _ (HK12.out.at (v := a) (z := A) (n := 120) (by simp)) (by omega) HK12.out.tab).mono ?_
  rintro e w13 ⟨rfl, hb13⟩
  have HK13 : Hid (Kept w w13 [(b, B, 120), (a, A, 120)]) := HK12.out.after hb13
  clear hb13 HK12
  go_wp2_with fail
  with_reducible refine (Tryz.textX b B _ _ (HK13.out.at (v := b) (z := B) (n := 120) (by simp)) (by omega) HK13.out.tab).mono ?_
  rintro e w14 ⟨rfl, hb14⟩
  have HK14 : Hid (Kept w w14 [(b, B, 120), (a, A, 120)]) := HK13.out.after hb14
  clear hb14 HK13
  go_wp2
  go_ret
  exact ⟨rfl, HK14.out.below⟩
end Go.Proofs.Wd
