/- NatGcd: of products of one number the greatest measure is that number's by that of the others; by shifts alone, too: the call returns true. -/
import Derived.Test.YtgcnpjnanlbmpaaGreatDoorKs
namespace Go.Proofs.Wd
open Go.RowKit
set_option linter.unusedVariables false
set_option maxHeartbeats 8000000 in
set_option maxRecDepth 100000 in
theorem gcdWalk (s t u : ByteArray) (k : Int) (w : World) (hs : s.size ≤ 9223372036854775807) (ht : t.size ≤ 9223372036854775807) (hu : u.size ≤ 9223372036854775807) (k0 : -9223372036854775808 ≤ k) (k1 : k ≤ 9223372036854775807) (hT : TabOk w)
    (hB : Calls Tryz.prog 10 #[] w fun e w' => e = .returned (.bool true) ∧ Below w.heap.size w w') :
    Calls Tryz.prog 6 #[.string s, .string t, .string u, .int .i64 k] w fun e w' => e = .returned (.bool true) ∧ Below w.heap.size w w' := by
  obtain ⟨r, hr⟩ : ∃ r, k.tmod 100 = r := ⟨_, rfl⟩
  have hrb : -100 < r ∧ r < 100 := by rw [← hr]; exact ⟨Int.lt_tmod_of_pos _ (by omega), Int.tmod_lt_of_pos _ (by omega)⟩
  obtain ⟨r0, r1⟩ := hrb
  obtain ⟨K, hK⟩ : ∃ K : Int, (r + 100) % 100 = K := ⟨_, rfl⟩
  have K0 : 0 ≤ K := by omega
  have K1 : K ≤ 99 := by omega
  have HT : Hid (TabOk w) := hT
  clear hT
  go_enter Tryz.func6, Tryz.ntmps6
  go_wp2_with (go_at_call 10; (with_reducible refine hB.mono ?_); rintro e w1 ⟨rfl, hb1⟩; have HK1 : Hid (Kept w w1 []) := Kept.start hb1 (HT.out.after hb1); clear hb1 hB HT)
  go_wp2_with fail
  with_reducible refine (Tryz.NX s _ (by assumption)).mono ?_
  rintro e w2 ⟨⟨a, u2, A, rfl, A0, hn2, -⟩, hb2⟩
  have HK2 : Hid (Kept w w2 [(a, A, 120)]) := HK1.out.add hb2 hn2
  clear hn2 hb2 HK1
  go_wp2_with fail
  with_reducible refine (Tryz.NX t _ (by assumption)).mono ?_
  rintro e w3 ⟨⟨b, u3, B, rfl, B0, hn3, -⟩, hb3⟩
  have HK3 : Hid (Kept w w3 [(b, B, 120), (a, A, 120)]) := HK2.out.add hb3 hn3
  clear hn3 hb3 HK2
  go_wp2_with fail
  with_reducible refine (Tryz.NX u _ (by assumption)).mono ?_
  rintro e w4 ⟨⟨c, u4, C, rfl, C0, hn4, -⟩, hb4⟩
  have HK4 : Hid (Kept w w4 [(c, C, 120), (b, B, 120), (a, A, 120)]) := HK3.out.add hb4 hn4
  clear hn4 hb4 HK3
  go_wp2_with fail
  with_reducible refine (Tryz.natGcd a b A B _ _ _ (HK4.out.at (v := a) (z := A) (n := 120) (by simp)) (HK4.out.at (v := b) (z := B) (n := 120) (by simp)) (by omega) (by omega)).mono ?_
  rintro e w5 ⟨⟨g, rfl, hn5⟩, hb5⟩
  have HK5 : Hid (Kept w w5 [(g, (Int.gcd A B : Int), 120), (c, C, 120), (b, B, 120), (a, A, 120)]) := HK4.out.add hb5 hn5
  clear hn5 hb5 HK4
  go_wp2_with fail
  with_reducible refine (Tryz.natMul a c A C _ _ _ (HK5.out.at (v := a) (z := A) (n := 120) (by simp)) (HK5.out.at (v := c) (z := C) (n := 120) (by simp)) (by omega) (by omega)).mono ?_
  rintro e w6 ⟨⟨ac, rfl, hn6⟩, hb6⟩
  have HK6 : Hid (Kept w w6 [(ac, (A * C), 240), (g, (Int.gcd A B : Int), 120), (c, C, 120), (b, B, 120), (a, A, 120)]) := HK5.out.add hb6 hn6
  clear hn6 hb6 HK5
  go_wp2_with fail
  with_reducible refine (Tryz.natMul b c B C _ _ _ (HK6.out.at (v := b) (z := B) (n := 120) (by simp)) (HK6.out.at (v := c) (z := C) (n := 120) (by simp)) (by omega) (by omega)).mono ?_
  rintro e w7 ⟨⟨bc, rfl, hn7⟩, hb7⟩
  have HK7 : Hid (Kept w w7 [(bc, (B * C), 240), (ac, (A * C), 240), (g, (Int.gcd A B : Int), 120), (c, C, 120), (b, B, 120), (a, A, 120)]) := HK6.out.add hb7 hn7
  clear hn7 hb7 HK6
  go_wp2_with fail
  with_reducible refine (Tryz.natGcd ac bc (A * C) (B * C) _ _ _ (HK7.out.at (v := ac) (z := (A * C)) (n := 240) (by simp)) (HK7.out.at (v := bc) (z := (B * C)) (n := 240) (by simp)) (by omega) (by omega)).mono ?_
  rintro e w8 ⟨⟨p, rfl, hn8⟩, hb8⟩
  have HK8 : Hid (Kept w w8 [(p, (Int.gcd (A * C) (B * C) : Int), 240), (bc, (B * C), 240), (ac, (A * C), 240), (g, (Int.gcd A B : Int), 120), (c, C, 120), (b, B, 120), (a, A, 120)]) := HK7.out.add hb8 hn8
  clear hn8 hb8 HK7
  go_wp2_with fail
  with_reducible refine (Tryz.natMul g c (Int.gcd A B : Int) C _ _ _ (HK8.out.at (v := g) (z := (Int.gcd A B : Int)) (n := 120) (by simp)) (HK8.out.at (v := c) (z := C) (n := 120) (by simp)) (by omega) (by omega)).mono ?_
  rintro e w9 ⟨⟨gc, rfl, hn9⟩, hb9⟩
  have HK9 : Hid (Kept w w9 [(gc, ((Int.gcd A B : Int) * C), 240), (p, (Int.gcd (A * C) (B * C) : Int), 240), (bc, (B * C), 240), (ac, (A * C), 240), (g, (Int.gcd A B : Int), 120), (c, C, 120), (b, B, 120), (a, A, 120)]) := HK8.out.add hb9 hn9
  clear hn9 hb9 HK8
  have HC10 := Lib.hid (Tryz.Cmp p gc (Int.gcd (A * C) (B * C) : Int) ((Int.gcd A B : Int) * C) _ _ _ (HK9.out.at (v := p) (z := (Int.gcd (A * C) (B * C) : Int)) (n := 240) (by simp)) (HK9.out.at (v := gc) (z := ((Int.gcd A B : Int) * C)) (n := 240) (by simp)))
  rw [cmpI_eq (gcd_times C0)] at HC10
  go_wp2_with fail
  with_reducible refine (HC10.out).mono ?_
  rintro e w10 ⟨rfl, hb10⟩
  have HK10 : Hid (Kept w w10 [(gc, ((Int.gcd A B : Int) * C), 240), (p, (Int.gcd (A * C) (B * C) : Int), 240), (bc, (B * C), 240), (ac, (A * C), 240), (g, (Int.gcd A B : Int), 120), (c, C, 120), (b, B, 120), (a, A, 120)]) := HK9.out.after hb10
  clear hb10 HK9
  clear HC10
  go_wp2_with fail
  with_reducible refine (Tryz.Shl a A K _ _ (HK10.out.at (v := a) (z := A) (n := 120) (by simp)) (by omega) (by omega) (by omega)).mono ?_
  rintro e w11 ⟨⟨ah, rfl, hn11⟩, hb11⟩
  have HK11 : Hid (Kept w w11 [(ah, (far A K), 1720), (gc, ((Int.gcd A B : Int) * C), 240), (p, (Int.gcd (A * C) (B * C) : Int), 240), (bc, (B * C), 240), (ac, (A * C), 240), (g, (Int.gcd A B : Int), 120), (c, C, 120), (b, B, 120), (a, A, 120)]) := HK10.out.add hb11 hn11
  clear hn11 hb11 HK10
  go_wp2_with fail
  with_reducible refine (Tryz.Shl b B K _ _ (HK11.out.at (v := b) (z := B) (n := 120) (by simp)) (by omega) (by omega) (by omega)).mono ?_
  rintro e w12 ⟨⟨bh, rfl, hn12⟩, hb12⟩
  have HK12 : Hid (Kept w w12 [(bh, (far B K), 1720), (ah, (far A K), 1720), (gc, ((Int.gcd A B : Int) * C), 240), (p, (Int.gcd (A * C) (B * C) : Int), 240), (bc, (B * C), 240), (ac, (A * C), 240), (g, (Int.gcd A B : Int), 120), (c, C, 120), (b, B, 120), (a, A, 120)]) := HK11.out.add hb12 hn12
  clear hn12 hb12 HK11
  go_wp2_with fail
  with_reducible refine (Tryz.natGcd ah bh (far A K) (far B K) _ _ _ (HK12.out.at (v := ah) (z := (far A K)) (n := 1720) (by simp)) (HK12.out.at (v := bh) (z := (far B K)) (n := 1720) (by simp)) (by omega) (by omega)).mono ?_
  rintro e w13 ⟨⟨ph, rfl, hn13⟩, hb13⟩
  have HK13 : Hid (Kept w w13 [(ph, (Int.gcd (far A K) (far B K) : Int), 1720), (bh, (far B K), 1720), (ah, (far A K), 1720), (gc, ((Int.gcd A B : Int) * C), 240), (p, (Int.gcd (A * C) (B * C) : Int), 240), (bc, (B * C), 240), (ac, (A * C), 240), (g, (Int.gcd A B : Int), 120), (c, C, 120), (b, B, 120), (a, A, 120)]) := HK12.out.add hb13 hn13
  clear hn13 hb13 HK12
  go_wp2_with fail
  with_reducible refine (Tryz.Shl g (Int.gcd A B : Int) K _ _ (HK13.out.at (v := g) (z := (Int.gcd A B : Int)) (n := 120) (by simp)) (by omega) (by omega) (by omega)).mono ?_
  rintro e w14 ⟨⟨gh, rfl, hn14⟩, hb14⟩
  have HK14 : Hid (Kept w w14 [(gh, (far (Int.gcd A B : Int) K), 1720), (ph, (Int.gcd (far A K) (far B K) : Int), 1720), (bh, (far B K), 1720), (ah, (far A K), 1720), (gc, ((Int.gcd A B : Int) * C), 240), (p, (Int.gcd (A * C) (B * C) : Int), 240), (bc, (B * C), 240), (ac, (A * C), 240), (g, (Int.gcd A B : Int), 120), (c, C, 120), (b, B, 120), (a, A, 120)]) := HK13.out.add hb14 hn14
  clear hn14 hb14 HK13
  have HC15 := Lib.hid (Tryz.Cmp ph gh (Int.gcd (far A K) (far B K) : Int) (far (Int.gcd A B : Int) K) _ _ _ (HK14.out.at (v := ph) (z := (Int.gcd (far A K) (far B K) : Int)) (n := 1720) (by simp)) (HK14.out.at (v := gh) (z := (far (Int.gcd A B : Int) K)) (n := 1720) (by simp)))
  rw [cmpI_eq (gcd_far K0 (by omega))] at HC15
  go_wp2_with fail
  with_reducible refine (HC15.out).mono ?_
  rintro e w15 ⟨rfl, hb15⟩
  have HK15 : Hid (Kept w w15 [(gh, (far (Int.gcd A B : Int) K), 1720), (ph, (Int.gcd (far A K) (far B K) : Int), 1720), (bh, (far B K), 1720), (ah, (far A K), 1720), (gc, ((Int.gcd A B : Int) * C), 240), (p, (Int.gcd (A * C) (B * C) : Int), 240), (bc, (B * C), 240), (ac, (A * C), 240), (g, (Int.gcd A B : Int), 120), (c, C, 120), (b, B, 120), (a, A, 120)]) := HK14.out.after hb15
  clear hb15 HK14
  clear HC15
  go_wp2_with fail
  with_reducible refine (Tryz.natGcd b a B A _ _ _ (HK15.out.at (v := b) (z := B) (n := 120) (by simp)) (HK15.out.at (v := a) (z := A) (n := 120) (by simp)) (by omega) (by omega)).mono ?_
  rintro e w16 ⟨⟨gg, rfl, hn16⟩, hb16⟩
  have HK16 : Hid (Kept w w16 [(gg, (Int.gcd B A : Int), 120), (gh, (far (Int.gcd A B : Int) K), 1720), (ph, (Int.gcd (far A K) (far B K) : Int), 1720), (bh, (far B K), 1720), (ah, (far A K), 1720), (gc, ((Int.gcd A B : Int) * C), 240), (p, (Int.gcd (A * C) (B * C) : Int), 240), (bc, (B * C), 240), (ac, (A * C), 240), (g, (Int.gcd A B : Int), 120), (c, C, 120), (b, B, 120), (a, A, 120)]) := HK15.out.add hb16 hn16
  clear hn16 hb16 HK15
  have HC17 := Lib.hid (Tryz.Cmp g gg (Int.gcd A B : Int) (Int.gcd B A : Int) _ _ _ (HK16.out.at (v := g) (z := (Int.gcd A B : Int)) (n := 120) (by simp)) (HK16.out.at (v := gg) (z := (Int.gcd B A : Int)) (n := 120) (by simp)))
  rw [cmpI_eq (by rw [Int.gcd_comm])] at HC17
  go_wp2_with fail
  with_reducible refine (HC17.out).mono ?_
  rintro e w17 ⟨rfl, hb17⟩
  have HK17 : Hid (Kept w w17 [(gg, (Int.gcd B A : Int), 120), (gh, (far (Int.gcd A B : Int) K), 1720), (ph, (Int.gcd (far A K) (far B K) : Int), 1720), (bh, (far B K), 1720), (ah, (far A K), 1720), (gc, ((Int.gcd A B : Int) * C), 240), (p, (Int.gcd (A * C) (B * C) : Int), 240), (bc, (B * C), 240), (ac, (A * C), 240), (g, (Int.gcd A B : Int), 120), (c, C, 120), (b, B, 120), (a, A, 120)]) := HK16.out.after hb17
  clear hb17 HK16
  clear HC17
  go_wp2_with fail
  with_reducible refine (Tryz.natGcd a (.pointer none) A 0 _ _ _ (HK17.out.at (v := a) (z := A) (n := 120) (by simp)) (num_nil _ 0) (by omega) (by omega)).mono ?_
  rintro e w18 ⟨⟨ga, rfl, hn18⟩, hb18⟩
  have HK18 : Hid (Kept w w18 [(ga, (Int.gcd A 0 : Int), 120), (gg, (Int.gcd B A : Int), 120), (gh, (far (Int.gcd A B : Int) K), 1720), (ph, (Int.gcd (far A K) (far B K) : Int), 1720), (bh, (far B K), 1720), (ah, (far A K), 1720), (gc, ((Int.gcd A B : Int) * C), 240), (p, (Int.gcd (A * C) (B * C) : Int), 240), (bc, (B * C), 240), (ac, (A * C), 240), (g, (Int.gcd A B : Int), 120), (c, C, 120), (b, B, 120), (a, A, 120)]) := HK17.out.add hb18 hn18
  clear hn18 hb18 HK17
  have HC19 := Lib.hid (Tryz.Cmp ga a (Int.gcd A 0 : Int) A _ _ _ (HK18.out.at (v := ga) (z := (Int.gcd A 0 : Int)) (n := 120) (by simp)) (HK18.out.at (v := a) (z := A) (n := 120) (by simp)))
  rw [cmpI_eq (by rw [Int.gcd_zero]; omega)] at HC19
  go_wp2_with fail
  with_reducible refine (HC19.out).mono ?_
  rintro e w19 ⟨rfl, hb19⟩
  have HK19 : Hid (Kept w w19 [(ga, (Int.gcd A 0 : Int), 120), (gg, (Int.gcd B A : Int), 120), (gh, (far (Int.gcd A B : Int) K), 1720), (ph, (Int.gcd (far A K) (far B K) : Int), 1720), (bh, (far B K), 1720), (ah, (far A K), 1720), (gc, ((Int.gcd A B : Int) * C), 240), (p, (Int.gcd (A * C) (B * C) : Int), 240), (bc, (B * C), 240), (ac, (A * C), 240), (g, (Int.gcd A B : Int), 120), (c, C, 120), (b, B, 120), (a, A, 120)]) := HK18.out.after hb19
  clear hb19 HK18
  clear HC19
  go_wp2
  go_ret
  exact ⟨rfl, HK19.out.below⟩
end Go.Proofs.Wd
