/- What Mul, Div and Cmp of the package frac return. What turned, Div and Cmp of the package frac return. -/
import Derived.Test.YtcnjcfoaoaldeaaGreatDoorFb
import Derived.Lib.Hide
import Derived.Test.YtcnjcfoaoaldeaaGreatDoorRn
set_option linter.unusedVariables false
set_option maxHeartbeats 4000000
set_option maxRecDepth 100000
namespace Go.Proofs.Fr
open Go.RowKit Go.Proofs.Wd
theorem sgn_both (a b : Bool) (x y : Nat) : sgn a x * sgn b y = sgn (a != b) (x * y) := by
 cases a <;> cases b <;> simp [sgn, Int.natCast_mul, Int.neg_mul, Int.mul_neg]
/-- The parts of a product, its sign told by the signs of both. -/
theorem prod_parts {a b : Rat} {f s : Nat} (hf : f = Nat.gcd a.num.natAbs b.den) (hs : s = Nat.gcd b.num.natAbs a.den) :
 (a * b).num = sgn (a.num.sign != b.num.sign) (a.num.natAbs / f * (b.num.natAbs / s)) ∧ (a * b).den = a.den / s * (b.den / f) := by
 have h := mul_parts a b hf hs
 refine ⟨?_, h.2⟩
 have ea : a.num / (f : Int) = sgn (decide (a.num < 0)) (a.num.natAbs / f) := by
  rw [← sgn_div _ (by rw [hf]; exact Nat.gcd_dvd_left _ _), sgn_self]
 have eb : b.num / (s : Int) = sgn (decide (b.num < 0)) (b.num.natAbs / s) := by
  rw [← sgn_div _ (by rw [hs]; exact Nat.gcd_dvd_left _ _), sgn_self]
 rw [h.1, ea, eb, sgn_both]
 rcases Int.lt_trichotomy a.num 0 with ha | ha | ha
 ·rcases Int.lt_trichotomy b.num 0 with hb | hb | hb
  ·simp [ha, hb, Int.sign_eq_neg_one_of_neg]
  ·simp [hb, sgn]
  ·rw [Int.sign_eq_neg_one_of_neg ha, Int.sign_eq_one_of_pos hb, decide_eq_true ha, decide_eq_false (by omega : ¬ b.num < 0)]; rfl
 ·simp [ha, sgn]
 ·rcases Int.lt_trichotomy b.num 0 with hb | hb | hb
  ·rw [Int.sign_eq_one_of_pos ha, Int.sign_eq_neg_one_of_neg hb, decide_eq_false (by omega : ¬ a.num < 0), decide_eq_true hb]; rfl
  ·simp [hb, sgn]
  ·rw [Int.sign_eq_one_of_pos ha, Int.sign_eq_one_of_pos hb, decide_eq_false (by omega : ¬ a.num < 0), decide_eq_false (by omega : ¬ b.num < 0)]; rfl
theorem Tryz.frTimesX (x y : Nat) (w : World) (hx : x ≤ 18446744073709551615) (hy : y ≤ 18446744073709551615) :
 Calls Tryz.prog 137 #[.int .u64 x, .int .u64 y] w fun e w' => e = .returned (.tuple #[.int .u64 ((x * y % 18446744073709551616 : Nat) : Int), .bool (decide (x * y < 18446744073709551616))]) ∧ w' = w := by
 go_enter Tryz.func137, Tryz.ntmps137
 go_wp2_with fail
 with_reducible refine (Go.Proofs.Tryz.Mul x y _ (by omega) (by omega) (by omega) (by omega)).mono ?_
 rintro e w1 ⟨⟨h, l, he, h0, h1, l0, l1, rfl⟩, rfl⟩
 rw [← Int.natCast_mul] at he
 have HE : Hid (Ending.returned (.tuple #[.int .u64 l, .bool (h == 0)]) = Ending.returned (.tuple #[.int .u64 ((x * y % 18446744073709551616 : Nat) : Int), .bool (decide (x * y < 18446744073709551616))])) := by
  show _ = _
  generalize x * y = z at *
  have e1 : (h == 0) = decide (z < 18446744073709551616) := by rw [Bool.eq_iff_iff]; simp; omega
  have e2 : l = ((z % 18446744073709551616 : Nat) : Int) := by omega
  rw [e1, e2]
 clear he
 go_wp2
 go_ret2
 exact ⟨HE.out, rfl⟩
theorem Tryz.frShortProduct (u v : Value) (a b : Rat) (i j : Nat) (w : World) (hu : FracIs w u a i) (hv : FracIs w v b j) :
 Calls Tryz.prog 88 #[u, v] w fun e w' => ShortIs (a * b) w' e ∧ Below w.heap.size w w' := by
 have HL0 : Hid (Lies w w [] [(u, a, i), (v, b, j)]) := ((Lies.start w).addF hv).addF hu
 have HNO : Hid (∀ W, ShortIs (a * b) W (.returned (.tuple #[.pointer none, .bool false]))) := fun W => .inr rfl
 clear hu hv
 by_cases hs : Short a
 ·by_cases ht : Short b
  ·obtain ⟨n1, hn1⟩ : ∃ n, a.num.natAbs = n := ⟨_, rfl⟩
   obtain ⟨d1, hd1⟩ : ∃ n, a.den = n := ⟨_, rfl⟩
   obtain ⟨n2, hn2⟩ : ∃ n, b.num.natAbs = n := ⟨_, rfl⟩
   obtain ⟨d2, hd2⟩ : ∃ n, b.den = n := ⟨_, rfl⟩
   have HW1 : Hid (∀ W, FracIs W u a i → Calls Tryz.prog 121 #[u] W fun e w' => e = .returned (.tuple #[.int .u64 n1, .int .u64 d1, .bool true]) ∧ Below W.heap.size W w') := fun W h =>
    (Tryz.words u a i W h).mono fun e w' h => ⟨by have := (h.1.resolve_right fun g => g.1 hs).2; rw [hn1, hd1] at this; exact this, h.2⟩
   have HW2 : Hid (∀ W, FracIs W v b j → Calls Tryz.prog 121 #[v] W fun e w' => e = .returned (.tuple #[.int .u64 n2, .int .u64 d2, .bool true]) ∧ Below W.heap.size W w') := fun W h =>
    (Tryz.words v b j W h).mono fun e w' h => ⟨by have := (h.1.resolve_right fun g => g.1 ht).2; rw [hn2, hd2] at this; exact this, h.2⟩
   obtain ⟨sa, hsa⟩ : ∃ s : Int, a.num.sign = s := ⟨_, rfl⟩
   obtain ⟨sb, hsb⟩ : ∃ s : Int, b.num.sign = s := ⟨_, rfl⟩
   have HS1 : Hid (∀ W, FracIs W u a i → Calls Tryz.prog 64 #[u] W fun e w' => e = .returned (.int .i64 sa) ∧ Below W.heap.size W w') := fun W h => by
    have := Tryz.Sign u a i W h
    rw [hsa] at this
    exact this
   have HS2 : Hid (∀ W, FracIs W v b j → Calls Tryz.prog 64 #[v] W fun e w' => e = .returned (.int .i64 sb) ∧ Below W.heap.size W w') := fun W h => by
    have := Tryz.Sign v b j W h
    rw [hsb] at this
    exact this
   obtain ⟨f, hf⟩ : ∃ g, Nat.gcd n1 d2 = g := ⟨_, rfl⟩
   obtain ⟨s, hsg⟩ : ∃ g, Nat.gcd n2 d1 = g := ⟨_, rfl⟩
   have d10 : 0 < d1 := by have := a.den_pos; omega
   have d20 : 0 < d2 := by have := b.den_pos; omega
   have f0 : 0 < f := by rw [← hf]; exact Nat.gcd_pos_of_pos_right _ d20
   have s0 : 0 < s := by rw [← hsg]; exact Nat.gcd_pos_of_pos_right _ d10
   obtain ⟨n9, d9⟩ := hs
   obtain ⟨m9, e9⟩ := ht
   rw [hn1] at n9
   rw [hd1] at d9
   rw [hn2] at m9
   rw [hd2] at e9
   have HD1 : Hid (∀ W, Calls Tryz.prog 136 #[.int .u64 n1, .int .u64 d2] W fun e w' => e = .returned (.int .u64 f) ∧ Below W.heap.size W w') := fun W => by
    have := Tryz.frDivisor n1 d2 W (by omega) (by omega)
    rw [hf] at this
    exact this
   have HD2 : Hid (∀ W, Calls Tryz.prog 136 #[.int .u64 n2, .int .u64 d1] W fun e w' => e = .returned (.int .u64 s) ∧ Below W.heap.size W w') := fun W => by
    have := Tryz.frDivisor n2 d1 W (by omega) (by omega)
    rw [hsg] at this
    exact this
   obtain ⟨p1, hp1⟩ : ∃ p, n1 / f = p := ⟨_, rfl⟩
   obtain ⟨p2, hp2⟩ : ∃ p, n2 / s = p := ⟨_, rfl⟩
   obtain ⟨q1, hq1⟩ : ∃ p, d1 / s = p := ⟨_, rfl⟩
   obtain ⟨q2, hq2⟩ : ∃ p, d2 / f = p := ⟨_, rfl⟩
   have p19 : p1 ≤ 18446744073709551615 := by have := Nat.div_le_self n1 f; omega
   have p29 : p2 ≤ 18446744073709551615 := by have := Nat.div_le_self n2 s; omega
   have q19 : q1 ≤ 18446744073709551615 := by have := Nat.div_le_self d1 s; omega
   have q29 : q2 ≤ 18446744073709551615 := by have := Nat.div_le_self d2 f; omega
   have e1 : (n1 : Int) / (f : Int) = (p1 : Int) := by rw [← hp1, Int.natCast_ediv]
   have e2 : (n2 : Int) / (s : Int) = (p2 : Int) := by rw [← hp2, Int.natCast_ediv]
   have e3 : (d1 : Int) / (s : Int) = (q1 : Int) := by rw [← hq1, Int.natCast_ediv]
   have e4 : (d2 : Int) / (f : Int) = (q2 : Int) := by rw [← hq2, Int.natCast_ediv]
   have t1 : (n1 : Int).tdiv (f : Int) = (p1 : Int) := by rw [Int.tdiv_eq_ediv_of_nonneg (by omega), e1]
   have t2 : (n2 : Int).tdiv (s : Int) = (p2 : Int) := by rw [Int.tdiv_eq_ediv_of_nonneg (by omega), e2]
   have t3 : (d1 : Int).tdiv (s : Int) = (q1 : Int) := by rw [Int.tdiv_eq_ediv_of_nonneg (by omega), e3]
   have t4 : (d2 : Int).tdiv (f : Int) = (q2 : Int) := by rw [Int.tdiv_eq_ediv_of_nonneg (by omega), e4]
   have hfz : ((f : Int) == 0) = false := by simp; omega
   have hsz : ((s : Int) == 0) = false := by simp; omega
   have HF : Hid (∀ (n d : Nat) (neg : Bool) (W : World), n ≤ 18446744073709551615 → d ≤ 18446744073709551615 → n = p1 * p2 → d = q1 * q2 → neg = (sa != sb) →
    Calls Tryz.prog 90 #[.bool neg, .int .u64 (n : Int), .int .u64 d] W fun e w' => (∃ v, e = .returned v ∧ FracIs w' v (a * b) 1) ∧ Below W.heap.size W w') := by
    intro n d neg W hn9 hd9 hn hd hneg
    have h := prod_parts (a := a) (b := b) (f := f) (s := s) (by rw [hn1, hd2]; exact hf.symm) (by rw [hn2, hd1]; exact hsg.symm)
    rw [hsa, hsb, hn1, hn2, hd1, hd2, hp1, hp2, hq1, hq2] at h
    exact Tryz.ofWords neg n d (a * b) W (by rw [h.1, hneg, hn]) (by rw [h.2, hd]) hn9 hd9
   have HE : Hid (∀ W v, FracIs W v (a * b) 1 → ShortIs (a * b) W (.returned (.tuple #[v, .bool true]))) := fun W v h => .inl ⟨v, rfl, h⟩
   clear hn1 hd1 hn2 hd2 hsa hsb hf hsg hp1 hp2 hq1 hq2
   go_enter Tryz.func88, Tryz.ntmps88
   go_wp2_with fail
   with_reducible refine (HW1.out _ (HL0.out.frac (v := u) (q := a) (k := i) (List.Mem.head _))).mono ?_
   rintro e w1 ⟨rfl, hb1⟩
   have HL1 : Hid (Lies w w1 [] [(u, a, i), (v, b, j)]) := HL0.out.after hb1
   clear hb1  HL0 HW1
   go_wp2_with fail
   with_reducible refine (HW2.out _ (HL1.out.frac (v := v) (q := b) (k := j) (List.Mem.tail _ (List.Mem.head _)))).mono ?_
   rintro e w2 ⟨rfl, hb2⟩
   have HL2 : Hid (Lies w w2 [] [(u, a, i), (v, b, j)]) := HL1.out.after hb2
   clear hb2  HL1 HW2
   go_wp2_with fail
   with_reducible refine (HD1.out _).mono ?_
   rintro e w3 ⟨rfl, hb3⟩
   have HL3 : Hid (Lies w w3 [] [(u, a, i), (v, b, j)]) := HL2.out.after hb3
   clear hb3  HL2 HD1
   go_wp2_with fail
   with_reducible refine (HD2.out _).mono ?_
   rintro e w4 ⟨rfl, hb4⟩
   have HL4 : Hid (Lies w w4 [] [(u, a, i), (v, b, j)]) := HL3.out.after hb4
   clear hb4  HL3 HD2
   obtain ⟨m1, hm1⟩ : ∃ m, p1 * p2 % 18446744073709551616 = m := ⟨_, rfl⟩
   obtain ⟨b1, hb1⟩ : ∃ b : Bool, decide (p1 * p2 < 18446744073709551616) = b := ⟨_, rfl⟩
   have m19 : m1 ≤ 18446744073709551615 := by omega
   have HT1 : Hid (∀ W, Calls Tryz.prog 137 #[.int .u64 p1, .int .u64 p2] W fun e w' => e = .returned (.tuple #[.int .u64 m1, .bool b1]) ∧ w' = W) := fun W => by
    have := Tryz.frTimesX p1 p2 W p19 p29
    rw [hm1, hb1] at this
    exact this
   have HM1 : Hid (b1 = true → m1 = p1 * p2) := fun h => by
    rw [h, decide_eq_true_eq] at hb1
    omega
   clear hm1 hb1
   go_wp2_with fail
   go_quiet ((go_at_call 137; exact Calls.quiet_of_same (HT1.out _)))
   have HLq := Lib.hid (HL4.out.after (belowN (Below.refl _ _) nq))
   clear HL4 HT1
   generalize w4.drewN nq = w5 at *
   have HL5 : Hid (Lies w w5 [] [(u, a, i), (v, b, j)]) := HLq
   clear HLq
   obtain ⟨m2, hm2⟩ : ∃ m, q1 * q2 % 18446744073709551616 = m := ⟨_, rfl⟩
   obtain ⟨b2, hb2⟩ : ∃ b : Bool, decide (q1 * q2 < 18446744073709551616) = b := ⟨_, rfl⟩
   have m29 : m2 ≤ 18446744073709551615 := by omega
   have HT2 : Hid (∀ W, Calls Tryz.prog 137 #[.int .u64 q1, .int .u64 q2] W fun e w' => e = .returned (.tuple #[.int .u64 m2, .bool b2]) ∧ w' = W) := fun W => by
    have := Tryz.frTimesX q1 q2 W q19 q29
    rw [hm2, hb2] at this
    exact this
   have HM2 : Hid (b2 = true → m2 = q1 * q2) := fun h => by
    rw [h, decide_eq_true_eq] at hb2
    omega
   clear hm2 hb2
   go_wp2_with fail
   go_quiet ((go_at_call 137; exact Calls.quiet_of_same (HT2.out _)))
   have HLq := Lib.hid (HL5.out.after (belowN (Below.refl _ _) nq))
   clear HL5 HT2
   generalize w5.drewN nq = w6 at *
   have HL6 : Hid (Lies w w6 [] [(u, a, i), (v, b, j)]) := HLq
   clear HLq
   cases b1
   ·go_wp2
    go_ret2
    exact ⟨HNO.out _, HL6.out.below⟩
   cases b2
   ·go_wp2
    go_ret2
    exact ⟨HNO.out _, HL6.out.below⟩
   have HF2 := Lib.hid (fun neg W => HF.out m1 m2 neg W m19 m29 (HM1.out (by simp)) (HM2.out (by simp)))
   clear HF HM1 HM2
   go_wp2_with fail
   with_reducible refine (HS1.out _ (HL6.out.frac (v := u) (q := a) (k := i) (List.Mem.head _))).mono ?_
   rintro e w7 ⟨rfl, hb7⟩
   have HL7 : Hid (Lies w w7 [] [(u, a, i), (v, b, j)]) := HL6.out.after hb7
   clear hb7  HL6 HS1
   go_wp2_with fail
   with_reducible refine (HS2.out _ (HL7.out.frac (v := v) (q := b) (k := j) (List.Mem.tail _ (List.Mem.head _)))).mono ?_
   rintro e w8 ⟨rfl, hb8⟩
   have HL8 : Hid (Lies w w8 [] [(u, a, i), (v, b, j)]) := HL7.out.after hb8
   clear hb8  HL7 HS2
   go_wp2_with fail
   with_reducible refine (HF2.out _ _ rfl).mono ?_
   rintro e w9 ⟨⟨r, rfl, hr⟩, hb9⟩
   have HL9 : Hid (Lies w w9 [] [(r, a * b, 1), (u, a, i), (v, b, j)]) := (HL8.out.after hb9).addF hr
   clear hb9 hr HL8 HF2
   go_wp2
   go_ret2
   exact ⟨HE.out _ r (HL9.out.frac (v := r) (q := a * b) (k := 1) (List.Mem.head _)), HL9.out.below⟩
  ·have HW2 : Hid (∀ W, FracIs W v b j → Calls Tryz.prog 121 #[v] W fun e w' => (∃ n d, e = .returned (.tuple #[.int .u64 n, .int .u64 d, .bool false])) ∧ Below W.heap.size W w') := fun W h =>
    (Tryz.words v b j W h).mono fun e w' h => ⟨(h.1.resolve_left fun g => ht g.1).2, h.2⟩
   have HW1 : Hid (∀ W, FracIs W u a i → Calls Tryz.prog 121 #[u] W fun e w' => (∃ n d, e = .returned (.tuple #[.int .u64 n, .int .u64 d, .bool true])) ∧ Below W.heap.size W w') := fun W h =>
    (Tryz.words u a i W h).mono fun e w' h => ⟨⟨_, _, (h.1.resolve_right fun g => g.1 hs).2⟩, h.2⟩
   clear hs ht
   go_enter Tryz.func88, Tryz.ntmps88
   go_wp2_with fail
   with_reducible refine (HW1.out _ (HL0.out.frac (v := u) (q := a) (k := i) (List.Mem.head _))).mono ?_
   rintro e w1 ⟨⟨m1, c1, rfl⟩, hb1⟩
   have HL1 : Hid (Lies w w1 [] [(u, a, i), (v, b, j)]) := HL0.out.after hb1
   clear hb1  HL0 HW1
   go_wp2_with fail
   with_reducible refine (HW2.out _ (HL1.out.frac (v := v) (q := b) (k := j) (List.Mem.tail _ (List.Mem.head _)))).mono ?_
   rintro e w2 ⟨⟨m2, c2, rfl⟩, hb2⟩
   have HL2 : Hid (Lies w w2 [] [(u, a, i), (v, b, j)]) := HL1.out.after hb2
   clear hb2  HL1 HW2
   go_wp2
   go_ret2
   exact ⟨HNO.out _, HL2.out.below⟩
 ·have HW1 : Hid (∀ W, FracIs W u a i → Calls Tryz.prog 121 #[u] W fun e w' => (∃ n d, e = .returned (.tuple #[.int .u64 n, .int .u64 d, .bool false])) ∧ Below W.heap.size W w') := fun W h =>
   (Tryz.words u a i W h).mono fun e w' h => ⟨(h.1.resolve_left fun g => hs g.1).2, h.2⟩
  have HW2 : Hid (∀ W, FracIs W v b j → Calls Tryz.prog 121 #[v] W fun e w' => (∃ n d o, e = .returned (.tuple #[.int .u64 n, .int .u64 d, .bool o])) ∧ Below W.heap.size W w') := fun W h =>
   (Tryz.words v b j W h).mono fun e w' h => ⟨by
    rcases h.1 with ⟨-, h⟩ | ⟨-, n, d, h⟩
    ·exact ⟨_, _, _, h⟩
    ·exact ⟨_, _, _, h⟩, h.2⟩
  clear hs
  go_enter Tryz.func88, Tryz.ntmps88
  go_wp2_with fail
  with_reducible refine (HW1.out _ (HL0.out.frac (v := u) (q := a) (k := i) (List.Mem.head _))).mono ?_
  rintro e w1 ⟨⟨m1, c1, rfl⟩, hb1⟩
  have HL1 : Hid (Lies w w1 [] [(u, a, i), (v, b, j)]) := HL0.out.after hb1
  clear hb1  HL0 HW1
  go_wp2_with fail
  with_reducible refine (HW2.out _ (HL1.out.frac (v := v) (q := b) (k := j) (List.Mem.tail _ (List.Mem.head _)))).mono ?_
  rintro e w2 ⟨⟨m2, c2, o, rfl⟩, hb2⟩
  have HL2 : Hid (Lies w w2 [] [(u, a, i), (v, b, j)]) := HL1.out.after hb2
  clear hb2  HL1 HW2
  go_wp2
  go_ret2
  exact ⟨HNO.out _, HL2.out.below⟩
theorem Tryz.frLongProduct (u v : Value) (a b : Rat) (k : Nat) (w : World) (hu : FracIs w u a k) (hv : FracIs w v b k) (hk : 1 ≤ k) (hk9 : k ≤ 30000) :
 Calls Tryz.prog 89 #[u, v] w fun e w' => (∃ r, e = .returned r ∧ FracIs w' r (a * b) (k + k + 2)) ∧ Below w.heap.size w w' := by
 have HL0 : Hid (Lies w w [] [(u, a, k), (v, b, k)]) := ((Lies.start w).addF hv).addF hu
 obtain ⟨n1, hn1⟩ : ∃ n, a.num.natAbs = n := ⟨_, rfl⟩
 obtain ⟨d1, hd1⟩ : ∃ n, a.den = n := ⟨_, rfl⟩
 obtain ⟨n2, hn2⟩ : ∃ n, b.num.natAbs = n := ⟨_, rfl⟩
 obtain ⟨d2, hd2⟩ : ∃ n, b.den = n := ⟨_, rfl⟩
 have HN1 : Hid (∀ W, FracIs W u a k → Calls Tryz.prog 63 #[u] W fun e w' => (∃ p r, e = .returned (.tuple #[p, r]) ∧ Num w' p (n1 : Int) k ∧ Num w' r (d1 : Int) k) ∧ Below W.heap.size W w') := fun W h => by
  have := Tryz.nats u a k W h hk
  rw [hn1, hd1] at this
  exact this
 have HN2 : Hid (∀ W, FracIs W v b k → Calls Tryz.prog 63 #[v] W fun e w' => (∃ p r, e = .returned (.tuple #[p, r]) ∧ Num w' p (n2 : Int) k ∧ Num w' r (d2 : Int) k) ∧ Below W.heap.size W w') := fun W h => by
  have := Tryz.nats v b k W h hk
  rw [hn2, hd2] at this
  exact this
 obtain ⟨sa, hsa⟩ : ∃ s : Int, a.num.sign = s := ⟨_, rfl⟩
 obtain ⟨sb, hsb⟩ : ∃ s : Int, b.num.sign = s := ⟨_, rfl⟩
 have HS1 : Hid (∀ W, FracIs W u a k → Calls Tryz.prog 64 #[u] W fun e w' => e = .returned (.int .i64 sa) ∧ Below W.heap.size W w') := fun W h => by
  have := Tryz.Sign u a k W h
  rw [hsa] at this
  exact this
 have HS2 : Hid (∀ W, FracIs W v b k → Calls Tryz.prog 64 #[v] W fun e w' => e = .returned (.int .i64 sb) ∧ Below W.heap.size W w') := fun W h => by
  have := Tryz.Sign v b k W h
  rw [hsb] at this
  exact this
 obtain ⟨f, hf⟩ : ∃ g, Nat.gcd n1 d2 = g := ⟨_, rfl⟩
 obtain ⟨s, hsg⟩ : ∃ g, Nat.gcd n2 d1 = g := ⟨_, rfl⟩
 have d10 : 0 < d1 := by have := a.den_pos; omega
 have d20 : 0 < d2 := by have := b.den_pos; omega
 have f0 : 1 ≤ f := by rw [← hf]; exact Nat.gcd_pos_of_pos_right _ d20
 have s0 : 1 ≤ s := by rw [← hsg]; exact Nat.gcd_pos_of_pos_right _ d10
 have HG1 : Hid (∀ W p r, Num W p (n1 : Int) k → Num W r (d2 : Int) k → Calls Tryz.prog 138 #[p, r] W fun e w' => (∃ x, e = .returned x ∧ Num w' x (f : Int) k) ∧ Below W.heap.size W w') := fun W p r h1 h2 => by
  have h := Tryz.frGcd p r n1 d2 k k W h1 h2 (by omega) (by omega)
  rw [hf, Nat.max_self] at h
  exact h
 have HG2 : Hid (∀ W p r, Num W p (n2 : Int) k → Num W r (d1 : Int) k → Calls Tryz.prog 138 #[p, r] W fun e w' => (∃ x, e = .returned x ∧ Num w' x (s : Int) k) ∧ Below W.heap.size W w') := fun W p r h1 h2 => by
  have h := Tryz.frGcd p r n2 d1 k k W h1 h2 (by omega) (by omega)
  rw [hsg, Nat.max_self] at h
  exact h
 obtain ⟨p1, hp1⟩ : ∃ p, n1 / f = p := ⟨_, rfl⟩
 obtain ⟨p2, hp2⟩ : ∃ p, n2 / s = p := ⟨_, rfl⟩
 obtain ⟨q1, hq1⟩ : ∃ p, d1 / s = p := ⟨_, rfl⟩
 obtain ⟨q2, hq2⟩ : ∃ p, d2 / f = p := ⟨_, rfl⟩
 have HO : Hid (∀ (z y x : Nat) W p r, z / y = x → 1 ≤ y → Num W p (z : Int) k → Num W r (y : Int) k → Calls Tryz.prog 139 #[p, r] W fun e w' => (∃ v, e = .returned v ∧ Num w' v (x : Int) (k + 1)) ∧ Below W.heap.size W w') := fun z y x W p r hx hy h1 h2 => by
  have h := Tryz.frOver p r z y k k W h1 h2 (by omega) hy
  rw [hx] at h
  exact h
 have HM : Hid (∀ (z y : Nat) W p r, Num W p (z : Int) (k + 1) → Num W r (y : Int) (k + 1) → Calls Tryz.prog 132 #[p, r] W fun e w' => (∃ v, e = .returned v ∧ Num w' v ((z * y : Nat) : Int) (k + k + 2)) ∧ Below W.heap.size W w') := fun z y W p r h1 h2 => by
  have h := Tryz.frMul p r z y (k + 1) (k + 1) W h1 h2 (by omega) (by omega)
  rw [show k + 1 + (k + 1) = k + k + 2 by omega] at h
  exact h
 have HF : Hid (∀ (neg : Bool) (W : World) (x y : Value), neg = (sa != sb) → Num W x ((p1 * p2 : Nat) : Int) (k + k + 2) → Num W y ((q1 * q2 : Nat) : Int) (k + k + 2) →
  Calls Tryz.prog 100 #[.bool neg, x, y] W fun e w' => (∃ v, e = .returned v ∧ FracIs w' v (a * b) (k + k + 2)) ∧ Below W.heap.size W w') := by
  intro neg W x y hneg hx hy
  have h := prod_parts (a := a) (b := b) (f := f) (s := s) (by rw [hn1, hd2]; exact hf.symm) (by rw [hn2, hd1]; exact hsg.symm)
  rw [hsa, hsb, hn1, hn2, hd1, hd2, hp1, hp2, hq1, hq2] at h
  exact Tryz.ofNats neg x y (p1 * p2) (q1 * q2) (a * b) (k + k + 2) W hx hy (by rw [h.1, hneg]) h.2 (by omega)
 have HP1 := Lib.hid hp1
 have HP2 := Lib.hid hp2
 have HQ1 := Lib.hid hq1
 have HQ2 := Lib.hid hq2
 clear hn1 hd1 hn2 hd2 hsa hsb hf hsg hp1 hp2 hq1 hq2 hu hv
 go_enter Tryz.func89, Tryz.ntmps89
 go_wp2_with fail
 with_reducible refine (HN1.out _ (HL0.out.frac (v := u) (q := a) (k := k) (List.Mem.head _))).mono ?_
 rintro e w1 ⟨⟨x1, r1, rfl, hx1, hr1⟩, hb1⟩
 have HL1 : Hid (Lies w w1 [(r1, (d1 : Int), k), (x1, (n1 : Int), k)] [(u, a, k), (v, b, k)]) := ((HL0.out.after hb1).addN hx1).addN hr1
 clear hb1 hx1 hr1 HL0 HN1
 go_wp2_with fail
 with_reducible refine (HN2.out _ (HL1.out.frac (v := v) (q := b) (k := k) (List.Mem.tail _ (List.Mem.head _)))).mono ?_
 rintro e w2 ⟨⟨x2, r2, rfl, hx2, hr2⟩, hb2⟩
 have HL2 : Hid (Lies w w2 [(r2, (d2 : Int), k), (x2, (n2 : Int), k), (r1, (d1 : Int), k), (x1, (n1 : Int), k)] [(u, a, k), (v, b, k)]) := ((HL1.out.after hb2).addN hx2).addN hr2
 clear hb2 hx2 hr2 HL1 HN2
 go_wp2_with fail
 with_reducible refine (HG1.out _ x1 r2 (HL2.out.num (v := x1) (z := (n1 : Int)) (n := k) (List.Mem.tail _ (List.Mem.tail _ (List.Mem.tail _ (List.Mem.head _))))) (HL2.out.num (v := r2) (z := (d2 : Int)) (n := k) (List.Mem.head _))).mono ?_
 rintro e w3 ⟨⟨fv, rfl, hfv⟩, hb3⟩
 have HL3 : Hid (Lies w w3 [(fv, (f : Int), k), (r2, (d2 : Int), k), (x2, (n2 : Int), k), (r1, (d1 : Int), k), (x1, (n1 : Int), k)] [(u, a, k), (v, b, k)]) := (HL2.out.after hb3).addN hfv
 clear hb3 hfv HL2 HG1
 go_wp2_with fail
 with_reducible refine (HG2.out _ x2 r1 (HL3.out.num (v := x2) (z := (n2 : Int)) (n := k) (List.Mem.tail _ (List.Mem.tail _ (List.Mem.head _)))) (HL3.out.num (v := r1) (z := (d1 : Int)) (n := k) (List.Mem.tail _ (List.Mem.tail _ (List.Mem.tail _ (List.Mem.head _)))))).mono ?_
 rintro e w4 ⟨⟨sv, rfl, hsv⟩, hb4⟩
 have HL4 : Hid (Lies w w4 [(sv, (s : Int), k), (fv, (f : Int), k), (r2, (d2 : Int), k), (x2, (n2 : Int), k), (r1, (d1 : Int), k), (x1, (n1 : Int), k)] [(u, a, k), (v, b, k)]) := (HL3.out.after hb4).addN hsv
 clear hb4 hsv HL3 HG2
 go_wp2_with fail
 with_reducible refine (HO.out n1 f p1 _ x1 fv HP1.out f0 (HL4.out.num (v := x1) (z := (n1 : Int)) (n := k) (List.Mem.tail _ (List.Mem.tail _ (List.Mem.tail _ (List.Mem.tail _ (List.Mem.tail _ (List.Mem.head _))))))) (HL4.out.num (v := fv) (z := (f : Int)) (n := k) (List.Mem.tail _ (List.Mem.head _)))).mono ?_
 rintro e w5 ⟨⟨y1, rfl, hy1⟩, hb5⟩
 have HL5 : Hid (Lies w w5 [(y1, (p1 : Int), k + 1), (sv, (s : Int), k), (fv, (f : Int), k), (r2, (d2 : Int), k), (x2, (n2 : Int), k), (r1, (d1 : Int), k), (x1, (n1 : Int), k)] [(u, a, k), (v, b, k)]) := (HL4.out.after hb5).addN hy1
 clear hb5 hy1 HL4
 go_wp2_with fail
 with_reducible refine (HO.out n2 s p2 _ x2 sv HP2.out s0 (HL5.out.num (v := x2) (z := (n2 : Int)) (n := k) (List.Mem.tail _ (List.Mem.tail _ (List.Mem.tail _ (List.Mem.tail _ (List.Mem.head _)))))) (HL5.out.num (v := sv) (z := (s : Int)) (n := k) (List.Mem.tail _ (List.Mem.head _)))).mono ?_
 rintro e w6 ⟨⟨y2, rfl, hy2⟩, hb6⟩
 have HL6 : Hid (Lies w w6 [(y2, (p2 : Int), k + 1), (y1, (p1 : Int), k + 1), (sv, (s : Int), k), (fv, (f : Int), k), (r2, (d2 : Int), k), (x2, (n2 : Int), k), (r1, (d1 : Int), k), (x1, (n1 : Int), k)] [(u, a, k), (v, b, k)]) := (HL5.out.after hb6).addN hy2
 clear hb6 hy2 HL5
 go_wp2_with fail
 with_reducible refine (HM.out p1 p2 _ y1 y2 (HL6.out.num (v := y1) (z := (p1 : Int)) (n := k + 1) (List.Mem.tail _ (List.Mem.head _))) (HL6.out.num (v := y2) (z := (p2 : Int)) (n := k + 1) (List.Mem.head _))).mono ?_
 rintro e w7 ⟨⟨m1, rfl, hm1⟩, hb7⟩
 have HL7 : Hid (Lies w w7 [(m1, ((p1 * p2 : Nat) : Int), k + k + 2), (y2, (p2 : Int), k + 1), (y1, (p1 : Int), k + 1), (sv, (s : Int), k), (fv, (f : Int), k), (r2, (d2 : Int), k), (x2, (n2 : Int), k), (r1, (d1 : Int), k), (x1, (n1 : Int), k)] [(u, a, k), (v, b, k)]) := (HL6.out.after hb7).addN hm1
 clear hb7 hm1 HL6
 go_wp2_with fail
 with_reducible refine (HO.out d1 s q1 _ r1 sv HQ1.out s0 (HL7.out.num (v := r1) (z := (d1 : Int)) (n := k) (List.Mem.tail _ (List.Mem.tail _ (List.Mem.tail _ (List.Mem.tail _ (List.Mem.tail _ (List.Mem.tail _ (List.Mem.tail _ (List.Mem.head _))))))))) (HL7.out.num (v := sv) (z := (s : Int)) (n := k) (List.Mem.tail _ (List.Mem.tail _ (List.Mem.tail _ (List.Mem.head _)))))).mono ?_
 rintro e w8 ⟨⟨z1, rfl, hz1⟩, hb8⟩
 have HL8 : Hid (Lies w w8 [(z1, (q1 : Int), k + 1), (m1, ((p1 * p2 : Nat) : Int), k + k + 2), (y2, (p2 : Int), k + 1), (y1, (p1 : Int), k + 1), (sv, (s : Int), k), (fv, (f : Int), k), (r2, (d2 : Int), k), (x2, (n2 : Int), k), (r1, (d1 : Int), k), (x1, (n1 : Int), k)] [(u, a, k), (v, b, k)]) := (HL7.out.after hb8).addN hz1
 clear hb8 hz1 HL7
 go_wp2_with fail
 with_reducible refine (HO.out d2 f q2 _ r2 fv HQ2.out f0 (HL8.out.num (v := r2) (z := (d2 : Int)) (n := k) (List.Mem.tail _ (List.Mem.tail _ (List.Mem.tail _ (List.Mem.tail _ (List.Mem.tail _ (List.Mem.tail _ (List.Mem.head _)))))))) (HL8.out.num (v := fv) (z := (f : Int)) (n := k) (List.Mem.tail _ (List.Mem.tail _ (List.Mem.tail _ (List.Mem.tail _ (List.Mem.tail _ (List.Mem.head _)))))))).mono ?_
 rintro e w9 ⟨⟨z2, rfl, hz2⟩, hb9⟩
 have HL9 : Hid (Lies w w9 [(z2, (q2 : Int), k + 1), (z1, (q1 : Int), k + 1), (m1, ((p1 * p2 : Nat) : Int), k + k + 2), (y2, (p2 : Int), k + 1), (y1, (p1 : Int), k + 1), (sv, (s : Int), k), (fv, (f : Int), k), (r2, (d2 : Int), k), (x2, (n2 : Int), k), (r1, (d1 : Int), k), (x1, (n1 : Int), k)] [(u, a, k), (v, b, k)]) := (HL8.out.after hb9).addN hz2
 clear hb9 hz2 HL8
 go_wp2_with fail
 with_reducible refine (HM.out q1 q2 _ z1 z2 (HL9.out.num (v := z1) (z := (q1 : Int)) (n := k + 1) (List.Mem.tail _ (List.Mem.head _))) (HL9.out.num (v := z2) (z := (q2 : Int)) (n := k + 1) (List.Mem.head _))).mono ?_
 rintro e w10 ⟨⟨m2, rfl, hm2⟩, hb10⟩
 have HL10 : Hid (Lies w w10 [(m2, ((q1 * q2 : Nat) : Int), k + k + 2), (z2, (q2 : Int), k + 1), (z1, (q1 : Int), k + 1), (m1, ((p1 * p2 : Nat) : Int), k + k + 2), (y2, (p2 : Int), k + 1), (y1, (p1 : Int), k + 1), (sv, (s : Int), k), (fv, (f : Int), k), (r2, (d2 : Int), k), (x2, (n2 : Int), k), (r1, (d1 : Int), k), (x1, (n1 : Int), k)] [(u, a, k), (v, b, k)]) := (HL9.out.after hb10).addN hm2
 clear hb10 hm2 HL9
 go_wp2_with fail
 with_reducible refine (HS1.out _ (HL10.out.frac (v := u) (q := a) (k := k) (List.Mem.head _))).mono ?_
 rintro e w11 ⟨rfl, hb11⟩
 have HL11 : Hid (Lies w w11 [(m2, ((q1 * q2 : Nat) : Int), k + k + 2), (z2, (q2 : Int), k + 1), (z1, (q1 : Int), k + 1), (m1, ((p1 * p2 : Nat) : Int), k + k + 2), (y2, (p2 : Int), k + 1), (y1, (p1 : Int), k + 1), (sv, (s : Int), k), (fv, (f : Int), k), (r2, (d2 : Int), k), (x2, (n2 : Int), k), (r1, (d1 : Int), k), (x1, (n1 : Int), k)] [(u, a, k), (v, b, k)]) := HL10.out.after hb11
 clear hb11  HL10 HS1
 go_wp2_with fail
 with_reducible refine (HS2.out _ (HL11.out.frac (v := v) (q := b) (k := k) (List.Mem.tail _ (List.Mem.head _)))).mono ?_
 rintro e w12 ⟨rfl, hb12⟩
 have HL12 : Hid (Lies w w12 [(m2, ((q1 * q2 : Nat) : Int), k + k + 2), (z2, (q2 : Int), k + 1), (z1, (q1 : Int), k + 1), (m1, ((p1 * p2 : Nat) : Int), k + k + 2), (y2, (p2 : Int), k + 1), (y1, (p1 : Int), k + 1), (sv, (s : Int), k), (fv, (f : Int), k), (r2, (d2 : Int), k), (x2, (n2 : Int), k), (r1, (d1 : Int), k), (x1, (n1 : Int), k)] [(u, a, k), (v, b, k)]) := HL11.out.after hb12
 clear hb12  HL11 HS2
 go_wp2_with fail
 with_reducible refine (HF.out _ _ m1 m2 rfl (HL12.out.num (v := m1) (z := ((p1 * p2 : Nat) : Int)) (n := k + k + 2) (List.Mem.tail _ (List.Mem.tail _ (List.Mem.tail _ (List.Mem.head _))))) (HL12.out.num (v := m2) (z := ((q1 * q2 : Nat) : Int)) (n := k + k + 2) (List.Mem.head _))).mono ?_
 rintro e w13 ⟨⟨r, rfl, hr⟩, hb13⟩
 have HL13 : Hid (Lies w w13 [(m2, ((q1 * q2 : Nat) : Int), k + k + 2), (z2, (q2 : Int), k + 1), (z1, (q1 : Int), k + 1), (m1, ((p1 * p2 : Nat) : Int), k + k + 2), (y2, (p2 : Int), k + 1), (y1, (p1 : Int), k + 1), (sv, (s : Int), k), (fv, (f : Int), k), (r2, (d2 : Int), k), (x2, (n2 : Int), k), (r1, (d1 : Int), k), (x1, (n1 : Int), k)] [(r, a * b, k + k + 2), (u, a, k), (v, b, k)]) := (HL12.out.after hb13).addF hr
 clear hb13 hr HL12 HF
 go_wp2
 go_ret
 exact ⟨⟨r, rfl, (HL13.out.frac (v := r) (q := a * b) (k := k + k + 2) (List.Mem.head _))⟩, HL13.out.below⟩
theorem Tryz.frMulF (u v : Value) (a b : Rat) (k : Nat) (w : World) (hu : FracIs w u a k) (hv : FracIs w v b k) (hk : 1 ≤ k) (hk9 : k ≤ 30000) :
 Calls Tryz.prog 41 #[u, v] w fun e w' => (∃ r, e = .returned r ∧ FracIs w' r (a * b) (k + k + 2)) ∧ Below w.heap.size w w' := by
 have HL0 : Hid (Lies w w [] [(u, a, k), (v, b, k)]) := ((Lies.start w).addF hv).addF hu
 clear hu hv
 go_enter Tryz.func41, Tryz.ntmps41
 go_wp2_with fail
 with_reducible refine (Tryz.frShortProduct u v a b k k _ (HL0.out.frac (v := u) (q := a) (k := k) (List.Mem.head _)) (HL0.out.frac (v := v) (q := b) (k := k) (List.Mem.tail _ (List.Mem.head _)))).mono ?_
 rintro e w1 ⟨hsh, hb1⟩
 have HL1 : Hid (Lies w w1 [] [(u, a, k), (v, b, k)]) := HL0.out.after hb1
 clear hb1 HL0
 rcases hsh with ⟨r, rfl, hr⟩ | rfl
 ·have HR : Hid (FracIs w1 r (a * b) (k + k + 2)) := hr.more (by omega)
  clear hr
  go_wp2
  go_ret
  exact ⟨⟨r, rfl, HR.out⟩, HL1.out.below⟩
 go_wp2_with fail
 with_reducible refine (Tryz.frLongProduct u v a b k _ (HL1.out.frac (v := u) (q := a) (k := k) (List.Mem.head _)) (HL1.out.frac (v := v) (q := b) (k := k) (List.Mem.tail _ (List.Mem.head _))) hk hk9).mono ?_
 rintro e w2 ⟨⟨r, rfl, hr⟩, hb2⟩
 have HL2 : Hid (Lies w w2 [] [(r, a * b, k + k + 2), (u, a, k), (v, b, k)]) := (HL1.out.after hb2).addF hr
 clear hb2 hr HL1
 go_wp2
 go_ret
 exact ⟨⟨r, rfl, (HL2.out.frac (v := r) (q := a * b) (k := k + k + 2) (List.Mem.head _))⟩, HL2.out.below⟩
end Go.Proofs.Fr
namespace Go.Proofs.Fr
open Go.RowKit Go.Proofs.Wd
theorem Tryz.cmpOr (B : Nat) (x y : Int) (w : World) (h0 : w.cell? ⟨B, 0, none⟩ = some (.int .i64 x)) (h1 : w.cell? ⟨B, 1, none⟩ = some (.int .i64 y)) :
 Calls Tryz.prog 130 #[.slice (some ⟨B, 0, none⟩) 2 2] w fun e w' => e = .returned (.int .i64 (if x = 0 then y else x)) ∧ w' = w := by
 go_enter Tryz.func130, Tryz.ntmps130
 go_wp2
 go_loop [5, 8] (fun v i => ∃ k : Nat, k ≤ 2 ∧ i = .int .i64 k ∧ (k = 0 ∨ x = 0) ∧ (k ≤ 1 ∨ y = 0)) (fun _ i => 2 - (intOf i).toNat)
 case atStart => exact ⟨0, by omega, rfl, .inl rfl, .inl (by omega)⟩
 case round =>
  obtain ⟨k, hk, rfl, hx, hy⟩ := hrel
  obtain rfl | rfl | rfl : k = 0 ∨ k = 1 ∨ k = 2 := by omega
  ·by_cases h : x = 0
   ·subst h
    go_wp2
    exact ⟨⟨1, by omega, rfl, .inr (by simp), .inl (by omega)⟩, by simp [intOf]⟩
   ·have e1 : (x != 0) = true := by simpa using h
    have e2 : (x == 0) = false := by simpa using h
    go_wp2
    go_ret
    exact ⟨rfl, rfl⟩
  ·obtain rfl : x = 0 := hx.resolve_left (by omega)
   by_cases h : y = 0
   ·subst h
    go_wp2
    exact ⟨⟨2, by omega, rfl, .inr (by simp), .inr (by simp)⟩, by simp [intOf]⟩
   ·have e1 : (y != 0) = true := by simpa using h
    have e2 : (y == 0) = false := by simpa using h
    go_wp2
    go_ret
    first | exact ⟨rfl, rfl⟩ | exact ⟨by simp, rfl⟩
  ·obtain rfl : x = 0 := hx.resolve_left (by omega)
   obtain rfl : y = 0 := hy.resolve_left (by omega)
   go_wp2
   go_ret
   first | exact ⟨rfl, rfl⟩ | exact ⟨by simp, rfl⟩
theorem cmpI_two {h1 l1 h2 l2 x y : Int} (hx : x = h1 * 18446744073709551616 + l1) (hy : y = h2 * 18446744073709551616 + l2) (a0 : 0 ≤ l1) (a1 : l1 ≤ 18446744073709551615) (b0 : 0 ≤ l2) (b1 : l2 ≤ 18446744073709551615) :
 (if cmpI h1 h2 = 0 then cmpI l1 l2 else cmpI h1 h2) = cmpI x y := by
 subst hx; subst hy
 unfold cmpI
 by_cases c1 : h1 < h2
 ·rw [if_pos c1, if_neg (by decide), if_pos (by omega)]
 ·by_cases c2 : h1 = h2
  ·subst c2
   have e : ∀ a b : Int, (h1 * 18446744073709551616 + a < h1 * 18446744073709551616 + b) = (a < b) := fun a b => by rw [eq_iff_iff]; omega
   simp [e]
  ·repeat' split
   all_goals first | rfl | (exfalso; omega)
/-- The order of two fractions. -/
def ordQ (a b : Rat) : Int := cmpI (a.num * b.den) (b.num * a.den)
theorem cmpI_zero {a b : Int} : cmpI a b = 0 ↔ a = b := by
 unfold cmpI
 constructor
 ·intro h
  repeat' split at h
  all_goals first | omega | (exact absurd h (by decide))
 ·rintro rfl; simp
theorem ordQ_zero {a b : Rat} : ordQ a b = 0 ↔ a = b := by
 unfold ordQ
 rw [cmpI_zero, Rat.eq_iff_mul_eq_mul]
theorem cmpI_three (a b : Int) : cmpI a b = -1 ∨ cmpI a b = 0 ∨ cmpI a b = 1 := by unfold cmpI; repeat' split
                                                                                   all_goals simp
theorem ordQ_signs {a b : Rat} (h : a.num.sign ≠ b.num.sign) : cmpI a.num.sign b.num.sign = ordQ a b := by
 have ha := a.den_pos
 have hb := b.den_pos
 have key : ∀ x y : Int, ∀ m n : Nat, 0 < m → 0 < n → x.sign ≠ y.sign → cmpI x.sign y.sign = cmpI (x * n) (y * m) := by
  intro x y m n hm hn hs
  have m0 : (0 : Int) < m := by omega
  have n0 : (0 : Int) < n := by omega
  have lt : x.sign < y.sign → x * n < y * m := by
   intro h
   rcases Int.lt_trichotomy x 0 with hx | rfl | hx
   ·rcases Int.lt_trichotomy y 0 with hy | rfl | hy
    ·rw [Int.sign_eq_neg_one_of_neg hx, Int.sign_eq_neg_one_of_neg hy] at h; omega
    ·have := Int.mul_neg_of_neg_of_pos hx n0; omega
    ·have h1 := Int.mul_neg_of_neg_of_pos hx n0
     have h2 := Int.mul_pos hy m0; omega
   ·rcases Int.lt_trichotomy y 0 with hy | rfl | hy
    ·rw [Int.sign_eq_neg_one_of_neg hy] at h; simp at h
    ·simp at h
    ·have h2 := Int.mul_pos hy m0; omega
   ·rcases Int.lt_trichotomy y 0 with hy | rfl | hy
    ·rw [Int.sign_eq_one_of_pos hx, Int.sign_eq_neg_one_of_neg hy] at h; omega
    ·rw [Int.sign_eq_one_of_pos hx] at h; simp at h
    ·rw [Int.sign_eq_one_of_pos hx, Int.sign_eq_one_of_pos hy] at h; omega
  have gt : y.sign < x.sign → y * m < x * n := by
   intro h
   rcases Int.lt_trichotomy y 0 with hx | rfl | hx
   ·rcases Int.lt_trichotomy x 0 with hy | rfl | hy
    ·rw [Int.sign_eq_neg_one_of_neg hx, Int.sign_eq_neg_one_of_neg hy] at h; omega
    ·have := Int.mul_neg_of_neg_of_pos hx m0; omega
    ·have h1 := Int.mul_neg_of_neg_of_pos hx m0
     have h2 := Int.mul_pos hy n0; omega
   ·rcases Int.lt_trichotomy x 0 with hy | rfl | hy
    ·rw [Int.sign_eq_neg_one_of_neg hy] at h; simp at h
    ·simp at h
    ·have h2 := Int.mul_pos hy n0; omega
   ·rcases Int.lt_trichotomy x 0 with hy | rfl | hy
    ·rw [Int.sign_eq_one_of_pos hx, Int.sign_eq_neg_one_of_neg hy] at h; omega
    ·rw [Int.sign_eq_one_of_pos hx] at h; simp at h
    ·rw [Int.sign_eq_one_of_pos hx, Int.sign_eq_one_of_pos hy] at h; omega
  unfold cmpI
  by_cases c : x.sign < y.sign
  ·rw [if_pos c, if_pos (lt c)]
  ·have c2 : y.sign < x.sign := by omega
   have := gt c2
   rw [if_neg c, if_pos c2, if_neg (by omega), if_pos this]
 exact key _ _ _ _ ha hb h
theorem ordQ_size {a b : Rat} (h : a.num.sign = b.num.sign) : a.num.sign * cmpI (a.num.natAbs * b.den) (b.num.natAbs * a.den) = ordQ a b := by
 unfold ordQ
 rcases Int.lt_trichotomy a.num 0 with ha | ha | ha
 ·have hb : b.num < 0 := by
   rw [Int.sign_eq_neg_one_of_neg ha] at h
   exact Int.sign_eq_neg_one_iff_neg.1 h.symm
  have e1 : (a.num.natAbs : Int) = -a.num := by omega
  have e2 : (b.num.natAbs : Int) = -b.num := by omega
  rw [Int.sign_eq_neg_one_of_neg ha, e1, e2, Int.neg_mul a.num, Int.neg_mul b.num]
  generalize a.num * b.den = x
  generalize b.num * a.den = y
  unfold cmpI
  repeat' split
  all_goals first | rfl | omega
 ·have hb : b.num = 0 := by
   rw [ha] at h
   exact Int.sign_eq_zero_iff_zero.1 h.symm
  rw [ha, hb]; simp [cmpI]
 ·have hb : 0 < b.num := by
   rw [Int.sign_eq_one_of_pos ha] at h
   exact Int.sign_eq_one_iff_pos.1 h.symm
  have e1 : (a.num.natAbs : Int) = a.num := by omega
  have e2 : (b.num.natAbs : Int) = b.num := by omega
  rw [Int.sign_eq_one_of_pos ha, e1, e2, Int.one_mul]
/-- What shortCompare tells. -/
def ShortCmp (c : Int) (e : Ending) : Prop := e = .returned (.tuple #[.int .i64 c, .bool true]) ∨ e = .returned (.tuple #[.int .i64 0, .bool false])
theorem Tryz.frShortCompare (u v : Value) (a b : Rat) (i j : Nat) (w : World) (hu : FracIs w u a i) (hv : FracIs w v b j) :
 Calls Tryz.prog 85 #[u, v] w fun e w' => ShortCmp (cmpI (a.num.natAbs * b.den) (b.num.natAbs * a.den)) e ∧ Below w.heap.size w w' := by
 have HL0 : Hid (Lies w w [] [(u, a, i), (v, b, j)]) := ((Lies.start w).addF hv).addF hu
 obtain ⟨c, hc⟩ : ∃ c, cmpI (a.num.natAbs * b.den) (b.num.natAbs * a.den) = c := ⟨_, rfl⟩
 rw [hc]
 have HNO : Hid (ShortCmp c (.returned (.tuple #[.int .i64 0, .bool false]))) := .inr rfl
 have HE : Hid (ShortCmp c (.returned (.tuple #[.int .i64 c, .bool true]))) := .inl rfl
 clear hu hv
 by_cases hs : Short a
 ·by_cases ht : Short b
  ·obtain ⟨n1, hn1⟩ : ∃ n, a.num.natAbs = n := ⟨_, rfl⟩
   obtain ⟨d1, hd1⟩ : ∃ n, a.den = n := ⟨_, rfl⟩
   obtain ⟨n2, hn2⟩ : ∃ n, b.num.natAbs = n := ⟨_, rfl⟩
   obtain ⟨d2, hd2⟩ : ∃ n, b.den = n := ⟨_, rfl⟩
   have HW1 : Hid (∀ W, FracIs W u a i → Calls Tryz.prog 121 #[u] W fun e w' => e = .returned (.tuple #[.int .u64 n1, .int .u64 d1, .bool true]) ∧ Below W.heap.size W w') := fun W h =>
    (Tryz.words u a i W h).mono fun e w' h => ⟨by have := (h.1.resolve_right fun g => g.1 hs).2; rw [hn1, hd1] at this; exact this, h.2⟩
   have HW2 : Hid (∀ W, FracIs W v b j → Calls Tryz.prog 121 #[v] W fun e w' => e = .returned (.tuple #[.int .u64 n2, .int .u64 d2, .bool true]) ∧ Below W.heap.size W w') := fun W h =>
    (Tryz.words v b j W h).mono fun e w' h => ⟨by have := (h.1.resolve_right fun g => g.1 ht).2; rw [hn2, hd2] at this; exact this, h.2⟩
   obtain ⟨n9, d9⟩ := hs
   obtain ⟨m9, e9⟩ := ht
   rw [hn1] at n9
   rw [hd1] at d9
   rw [hn2] at m9
   rw [hd2] at e9
   rw [hn1, hn2, hd1, hd2] at hc
   have HC : Hid (cmpI ((n1 : Int) * (d2 : Int)) ((n2 : Int) * (d1 : Int)) = c) := hc
   clear hn1 hd1 hn2 hd2 hc
   go_enter Tryz.func85, Tryz.ntmps85
   go_wp2_with fail
   with_reducible refine (HW1.out _ (HL0.out.frac (v := u) (q := a) (k := i) (List.Mem.head _))).mono ?_
   rintro e w1 ⟨rfl, hb1⟩
   have HL1 : Hid (Lies w w1 [] [(u, a, i), (v, b, j)]) := HL0.out.after hb1
   clear hb1  HL0 HW1
   go_wp2_with fail
   with_reducible refine (HW2.out _ (HL1.out.frac (v := v) (q := b) (k := j) (List.Mem.tail _ (List.Mem.head _)))).mono ?_
   rintro e w2 ⟨rfl, hb2⟩
   have HL2 : Hid (Lies w w2 [] [(u, a, i), (v, b, j)]) := HL1.out.after hb2
   clear hb2  HL1 HW2
   go_wp2_with fail
   with_reducible refine (Go.Proofs.Tryz.Mul n1 d2 _ (by omega) (by omega) (by omega) (by omega)).mono ?_
   rintro e w3 ⟨⟨h1, l1, he1, h10, h11, l10, l11, rfl⟩, rfl⟩
   have HE1 := Lib.hid he1
   clear he1
   go_wp2_with fail
   with_reducible refine (Go.Proofs.Tryz.Mul n2 d1 _ (by omega) (by omega) (by omega) (by omega)).mono ?_
   rintro e w4 ⟨⟨h2, l2, he2, h20, h21, l20, l21, rfl⟩, rfl⟩
   have HE2 := Lib.hid he2
   clear he2
   have HL4 : Hid (Lies w w4 [] [(u, a, i), (v, b, j)]) := HL2
   clear HL2
   go_wp2_with fail
   with_reducible refine (Tryz.cmpU h1 h2 _).mono ?_
   rintro e w5 ⟨rfl, rfl⟩
   go_wp2_with fail
   with_reducible refine (Tryz.cmpU l1 l2 _).mono ?_
   rintro e w6 ⟨rfl, rfl⟩
   have HL6 : Hid (Lies w w6 [] [(u, a, i), (v, b, j)]) := HL4
   clear HL4
   obtain ⟨x, hx⟩ : ∃ x, cmpI h1 h2 = x := ⟨_, rfl⟩
   obtain ⟨y, hy⟩ : ∃ y, cmpI l1 l2 = y := ⟨_, rfl⟩
   have HXY : Hid ((if x = 0 then y else x) = c) := by
    show _ = _
    rw [← hx, ← hy, ← HC.out]
    exact cmpI_two HE1.out HE2.out l10 l11 l20 l21
   rw [hx, hy]
   clear hx hy HC HE1 HE2
   have hc0 : (w6.alloc (.cells #[.int .i64 x, .int .i64 y] 3)).cell? ⟨w6.heap.size, 0, none⟩ = some (.int .i64 x) := by simp
   have hc1 : (w6.alloc (.cells #[.int .i64 x, .int .i64 y] 3)).cell? ⟨w6.heap.size, 1, none⟩ = some (.int .i64 y) := by simp
   have HB7 : Hid (Below w.heap.size w (w6.alloc (.cells #[.int .i64 x, .int .i64 y] 3))) := HL6.out.below.alloc HL6.out.below.size _
   go_wp2_with fail
   with_reducible refine (Tryz.cmpOr w6.heap.size x y _ hc0 hc1).mono ?_
   rintro e w7 ⟨rfl, rfl⟩
   rw [HXY.out]
   go_wp2
   go_ret2
   exact ⟨HE.out, HB7.out⟩
  ·have HW2 : Hid (∀ W, FracIs W v b j → Calls Tryz.prog 121 #[v] W fun e w' => (∃ n d, e = .returned (.tuple #[.int .u64 n, .int .u64 d, .bool false])) ∧ Below W.heap.size W w') := fun W h =>
    (Tryz.words v b j W h).mono fun e w' h => ⟨(h.1.resolve_left fun g => ht g.1).2, h.2⟩
   have HW1 : Hid (∀ W, FracIs W u a i → Calls Tryz.prog 121 #[u] W fun e w' => (∃ n d, e = .returned (.tuple #[.int .u64 n, .int .u64 d, .bool true])) ∧ Below W.heap.size W w') := fun W h =>
    (Tryz.words u a i W h).mono fun e w' h => ⟨⟨_, _, (h.1.resolve_right fun g => g.1 hs).2⟩, h.2⟩
   clear hs ht hc
   go_enter Tryz.func85, Tryz.ntmps85
   go_wp2_with fail
   with_reducible refine (HW1.out _ (HL0.out.frac (v := u) (q := a) (k := i) (List.Mem.head _))).mono ?_
   rintro e w1 ⟨⟨m1, c1, rfl⟩, hb1⟩
   have HL1 : Hid (Lies w w1 [] [(u, a, i), (v, b, j)]) := HL0.out.after hb1
   clear hb1  HL0 HW1
   go_wp2_with fail
   with_reducible refine (HW2.out _ (HL1.out.frac (v := v) (q := b) (k := j) (List.Mem.tail _ (List.Mem.head _)))).mono ?_
   rintro e w2 ⟨⟨m2, c2, rfl⟩, hb2⟩
   have HL2 : Hid (Lies w w2 [] [(u, a, i), (v, b, j)]) := HL1.out.after hb2
   clear hb2  HL1 HW2
   go_wp2
   go_ret2
   exact ⟨HNO.out, HL2.out.below⟩
 ·have HW1 : Hid (∀ W, FracIs W u a i → Calls Tryz.prog 121 #[u] W fun e w' => (∃ n d, e = .returned (.tuple #[.int .u64 n, .int .u64 d, .bool false])) ∧ Below W.heap.size W w') := fun W h =>
   (Tryz.words u a i W h).mono fun e w' h => ⟨(h.1.resolve_left fun g => hs g.1).2, h.2⟩
  have HW2 : Hid (∀ W, FracIs W v b j → Calls Tryz.prog 121 #[v] W fun e w' => (∃ n d o, e = .returned (.tuple #[.int .u64 n, .int .u64 d, .bool o])) ∧ Below W.heap.size W w') := fun W h =>
   (Tryz.words v b j W h).mono fun e w' h => ⟨by
    rcases h.1 with ⟨-, h⟩ | ⟨-, n, d, h⟩
    ·exact ⟨_, _, _, h⟩
    ·exact ⟨_, _, _, h⟩, h.2⟩
  clear hs hc
  go_enter Tryz.func85, Tryz.ntmps85
  go_wp2_with fail
  with_reducible refine (HW1.out _ (HL0.out.frac (v := u) (q := a) (k := i) (List.Mem.head _))).mono ?_
  rintro e w1 ⟨⟨m1, c1, rfl⟩, hb1⟩
  have HL1 : Hid (Lies w w1 [] [(u, a, i), (v, b, j)]) := HL0.out.after hb1
  clear hb1  HL0 HW1
  go_wp2_with fail
  with_reducible refine (HW2.out _ (HL1.out.frac (v := v) (q := b) (k := j) (List.Mem.tail _ (List.Mem.head _)))).mono ?_
  rintro e w2 ⟨⟨m2, c2, o, rfl⟩, hb2⟩
  have HL2 : Hid (Lies w w2 [] [(u, a, i), (v, b, j)]) := HL1.out.after hb2
  clear hb2  HL1 HW2
  go_wp2
  go_ret2
  exact ⟨HNO.out, HL2.out.below⟩
theorem Tryz.frLongCompare (u v : Value) (a b : Rat) (k : Nat) (w : World) (hu : FracIs w u a k) (hv : FracIs w v b k) (hk : 1 ≤ k) (hk9 : k ≤ 30000) :
 Calls Tryz.prog 86 #[u, v] w fun e w' => e = .returned (.int .i64 (cmpI (a.num.natAbs * b.den) (b.num.natAbs * a.den))) ∧ Below w.heap.size w w' := by
 have HL0 : Hid (Lies w w [] [(u, a, k), (v, b, k)]) := ((Lies.start w).addF hv).addF hu
 obtain ⟨n1, hn1⟩ : ∃ n, a.num.natAbs = n := ⟨_, rfl⟩
 obtain ⟨d1, hd1⟩ : ∃ n, a.den = n := ⟨_, rfl⟩
 obtain ⟨n2, hn2⟩ : ∃ n, b.num.natAbs = n := ⟨_, rfl⟩
 obtain ⟨d2, hd2⟩ : ∃ n, b.den = n := ⟨_, rfl⟩
 have HN1 : Hid (∀ W, FracIs W u a k → Calls Tryz.prog 63 #[u] W fun e w' => (∃ p r, e = .returned (.tuple #[p, r]) ∧ Num w' p (n1 : Int) k ∧ Num w' r (d1 : Int) k) ∧ Below W.heap.size W w') := fun W h => by
  have := Tryz.nats u a k W h hk
  rw [hn1, hd1] at this
  exact this
 have HN2 : Hid (∀ W, FracIs W v b k → Calls Tryz.prog 63 #[v] W fun e w' => (∃ p r, e = .returned (.tuple #[p, r]) ∧ Num w' p (n2 : Int) k ∧ Num w' r (d2 : Int) k) ∧ Below W.heap.size W w') := fun W h => by
  have := Tryz.nats v b k W h hk
  rw [hn2, hd2] at this
  exact this
 have HC : Hid (cmpI (a.num.natAbs * b.den) (b.num.natAbs * a.den) = cmpI ((n1 * d2 : Nat) : Int) ((n2 * d1 : Nat) : Int)) := by
  show _ = _
  rw [hn1, hn2, hd1, hd2, Int.natCast_mul, Int.natCast_mul]
 rw [HC.out]
 obtain ⟨z1, hz1⟩ : ∃ z, n1 * d2 = z := ⟨_, rfl⟩
 obtain ⟨z2, hz2⟩ : ∃ z, n2 * d1 = z := ⟨_, rfl⟩
 have HM1 : Hid (∀ W p r, Num W p (n1 : Int) k → Num W r (d2 : Int) k → Calls Tryz.prog 132 #[p, r] W fun e w' => (∃ v, e = .returned v ∧ Num w' v (z1 : Int) (k + k)) ∧ Below W.heap.size W w') := fun W p r h1 h2 => by
  have h := Tryz.frMul p r n1 d2 k k W h1 h2 (by omega) (by omega)
  rw [hz1] at h
  exact h
 have HM2 : Hid (∀ W p r, Num W p (n2 : Int) k → Num W r (d1 : Int) k → Calls Tryz.prog 132 #[p, r] W fun e w' => (∃ v, e = .returned v ∧ Num w' v (z2 : Int) (k + k)) ∧ Below W.heap.size W w') := fun W p r h1 h2 => by
  have h := Tryz.frMul p r n2 d1 k k W h1 h2 (by omega) (by omega)
  rw [hz2] at h
  exact h
 rw [hz1, hz2]
 clear hn1 hd1 hn2 hd2 HC hz1 hz2 hu hv
 go_enter Tryz.func86, Tryz.ntmps86
 go_wp2_with fail
 with_reducible refine (HN1.out _ (HL0.out.frac (v := u) (q := a) (k := k) (List.Mem.head _))).mono ?_
 rintro e w1 ⟨⟨x1, r1, rfl, hx1, hr1⟩, hb1⟩
 have HL1 : Hid (Lies w w1 [(r1, (d1 : Int), k), (x1, (n1 : Int), k)] [(u, a, k), (v, b, k)]) := ((HL0.out.after hb1).addN hx1).addN hr1
 clear hb1 hx1 hr1 HL0 HN1
 go_wp2_with fail
 with_reducible refine (HN2.out _ (HL1.out.frac (v := v) (q := b) (k := k) (List.Mem.tail _ (List.Mem.head _)))).mono ?_
 rintro e w2 ⟨⟨x2, r2, rfl, hx2, hr2⟩, hb2⟩
 have HL2 : Hid (Lies w w2 [(r2, (d2 : Int), k), (x2, (n2 : Int), k), (r1, (d1 : Int), k), (x1, (n1 : Int), k)] [(u, a, k), (v, b, k)]) := ((HL1.out.after hb2).addN hx2).addN hr2
 clear hb2 hx2 hr2 HL1 HN2
 go_wp2_with fail
 with_reducible refine (HM1.out _ x1 r2 (HL2.out.num (v := x1) (z := (n1 : Int)) (n := k) (List.Mem.tail _ (List.Mem.tail _ (List.Mem.tail _ (List.Mem.head _))))) (HL2.out.num (v := r2) (z := (d2 : Int)) (n := k) (List.Mem.head _))).mono ?_
 rintro e w3 ⟨⟨m1, rfl, hm1⟩, hb3⟩
 have HL3 : Hid (Lies w w3 [(m1, (z1 : Int), k + k), (r2, (d2 : Int), k), (x2, (n2 : Int), k), (r1, (d1 : Int), k), (x1, (n1 : Int), k)] [(u, a, k), (v, b, k)]) := (HL2.out.after hb3).addN hm1
 clear hb3 hm1 HL2 HM1
 go_wp2_with fail
 with_reducible refine (HM2.out _ x2 r1 (HL3.out.num (v := x2) (z := (n2 : Int)) (n := k) (List.Mem.tail _ (List.Mem.tail _ (List.Mem.head _)))) (HL3.out.num (v := r1) (z := (d1 : Int)) (n := k) (List.Mem.tail _ (List.Mem.tail _ (List.Mem.tail _ (List.Mem.head _)))))).mono ?_
 rintro e w4 ⟨⟨m2, rfl, hm2⟩, hb4⟩
 have HL4 : Hid (Lies w w4 [(m2, (z2 : Int), k + k), (m1, (z1 : Int), k + k), (r2, (d2 : Int), k), (x2, (n2 : Int), k), (r1, (d1 : Int), k), (x1, (n1 : Int), k)] [(u, a, k), (v, b, k)]) := (HL3.out.after hb4).addN hm2
 clear hb4 hm2 HL3 HM2
 go_wp2_with fail
 with_reducible refine (Wd.Tryz.Cmp m1 m2 (z1 : Int) (z2 : Int) (k + k) (k + k) _ (HL4.out.num (v := m1) (z := (z1 : Int)) (n := k + k) (List.Mem.tail _ (List.Mem.head _))) (HL4.out.num (v := m2) (z := (z2 : Int)) (n := k + k) (List.Mem.head _))).mono ?_
 rintro e w5 ⟨rfl, hb5⟩
 have HL5 : Hid (Lies w w5 [(m2, (z2 : Int), k + k), (m1, (z1 : Int), k + k), (r2, (d2 : Int), k), (x2, (n2 : Int), k), (r1, (d1 : Int), k), (x1, (n1 : Int), k)] [(u, a, k), (v, b, k)]) := HL4.out.after hb5
 clear hb5  HL4
 go_wp2
 go_ret
 exact ⟨rfl, HL5.out.below⟩
theorem Tryz.frCmp (u v : Value) (a b : Rat) (k : Nat) (w : World) (hu : FracIs w u a k) (hv : FracIs w v b k) (hk : 1 ≤ k) (hk9 : k ≤ 30000) :
 Calls Tryz.prog 39 #[u, v] w fun e w' => e = .returned (.int .i64 (ordQ a b)) ∧ Below w.heap.size w w' := by
 have HL0 : Hid (Lies w w [] [(u, a, k), (v, b, k)]) := ((Lies.start w).addF hv).addF hu
 clear hu hv
 obtain ⟨sa, hsa⟩ : ∃ s : Int, a.num.sign = s := ⟨_, rfl⟩
 obtain ⟨sb, hsb⟩ : ∃ s : Int, b.num.sign = s := ⟨_, rfl⟩
 have HS1 : Hid (∀ W, FracIs W u a k → Calls Tryz.prog 64 #[u] W fun e w' => e = .returned (.int .i64 sa) ∧ Below W.heap.size W w') := fun W h => by
  have := Tryz.Sign u a k W h
  rw [hsa] at this
  exact this
 have HS2 : Hid (∀ W, FracIs W v b k → Calls Tryz.prog 64 #[v] W fun e w' => e = .returned (.int .i64 sb) ∧ Below W.heap.size W w') := fun W h => by
  have := Tryz.Sign v b k W h
  rw [hsb] at this
  exact this
 obtain ⟨o, ho⟩ : ∃ o, ordQ a b = o := ⟨_, rfl⟩
 rw [ho]
 by_cases hne : sa = sb
 ·subst hne
  have e1 : (sa == sa) = true := by simp
  have e2 : (sa != sa) = false := by simp
  obtain ⟨c, hc⟩ : ∃ c, cmpI (a.num.natAbs * b.den) (b.num.natAbs * a.den) = c := ⟨_, rfl⟩
  have HO : Hid (sa * c = o) := by
   show _ = _
   rw [← hc, ← hsa, ← ho]
   exact ordQ_size (by rw [hsa, hsb])
  have hs3 : sa = -1 ∨ sa = 0 ∨ sa = 1 := by
   rw [← hsa]
   rcases Int.lt_trichotomy a.num 0 with h | h | h
   ·exact .inl (Int.sign_eq_neg_one_of_neg h)
   ·rw [h]; simp
   ·exact .inr (.inr (Int.sign_eq_one_of_pos h))
  have hc3 : c = -1 ∨ c = 0 ∨ c = 1 := by rw [← hc]; exact cmpI_three _ _
  have pw : RowKit.wrap64 (sa * c) = sa * c := by rcases hs3 with rfl | rfl | rfl <;> rcases hc3 with rfl | rfl | rfl <;> decide +kernel
  have p0 : -9223372036854775808 ≤ sa * c := by rcases hs3 with rfl | rfl | rfl <;> rcases hc3 with rfl | rfl | rfl <;> decide
  have p1 : sa * c ≤ 9223372036854775807 := by rcases hs3 with rfl | rfl | rfl <;> rcases hc3 with rfl | rfl | rfl <;> decide
  have HSC : Hid (∀ W, FracIs W u a k → FracIs W v b k → Calls Tryz.prog 85 #[u, v] W fun e w' => ShortCmp c e ∧ Below W.heap.size W w') := fun W h1 h2 => by
   have := Tryz.frShortCompare u v a b k k W h1 h2
   rw [hc] at this
   exact this
  have HLC : Hid (∀ W, FracIs W u a k → FracIs W v b k → Calls Tryz.prog 86 #[u, v] W fun e w' => e = .returned (.int .i64 c) ∧ Below W.heap.size W w') := fun W h1 h2 => by
   have := Tryz.frLongCompare u v a b k W h1 h2 hk hk9
   rw [hc] at this
   exact this
  clear hs3 hc3 hc hsa hsb ho
  go_enter Tryz.func39, Tryz.ntmps39
  go_wp2_with fail
  with_reducible refine (HS1.out _ (HL0.out.frac (v := u) (q := a) (k := k) (List.Mem.head _))).mono ?_
  rintro e w1 ⟨rfl, hb1⟩
  have HL1 : Hid (Lies w w1 [] [(u, a, k), (v, b, k)]) := HL0.out.after hb1
  clear hb1  HL0 HS1
  go_wp2_with fail
  with_reducible refine (HS2.out _ (HL1.out.frac (v := v) (q := b) (k := k) (List.Mem.tail _ (List.Mem.head _)))).mono ?_
  rintro e w2 ⟨rfl, hb2⟩
  have HL2 : Hid (Lies w w2 [] [(u, a, k), (v, b, k)]) := HL1.out.after hb2
  clear hb2  HL1 HS2
  go_wp2_with fail
  with_reducible refine (HSC.out _ (HL2.out.frac (v := u) (q := a) (k := k) (List.Mem.head _)) (HL2.out.frac (v := v) (q := b) (k := k) (List.Mem.tail _ (List.Mem.head _)))).mono ?_
  rintro e w3 ⟨hsh, hb3⟩
  have HL3 : Hid (Lies w w3 [] [(u, a, k), (v, b, k)]) := HL2.out.after hb3
  clear hb3 HL2 HSC
  rcases hsh with rfl | rfl
  ·go_wp2
   go_ret
   exact ⟨by rw [← HO.out]; rfl, HL3.out.below⟩
  go_wp2_with fail
  with_reducible refine (HLC.out _ (HL3.out.frac (v := u) (q := a) (k := k) (List.Mem.head _)) (HL3.out.frac (v := v) (q := b) (k := k) (List.Mem.tail _ (List.Mem.head _)))).mono ?_
  rintro e w4 ⟨rfl, hb4⟩
  have HL4 : Hid (Lies w w4 [] [(u, a, k), (v, b, k)]) := HL3.out.after hb4
  clear hb4  HL3 HLC
  go_wp2
  go_ret
  exact ⟨by rw [← HO.out]; rfl, HL4.out.below⟩
 ·have e1 : (sa == sb) = false := by simpa using hne
  have e2 : (sa != sb) = true := by simpa using hne
  have HO : Hid (cmpI sa sb = o) := by
   show _ = _
   rw [← hsa, ← hsb, ← ho]
   exact ordQ_signs (by rw [hsa, hsb]; exact hne)
  clear hsa hsb ho
  go_enter Tryz.func39, Tryz.ntmps39
  go_wp2_with fail
  with_reducible refine (HS1.out _ (HL0.out.frac (v := u) (q := a) (k := k) (List.Mem.head _))).mono ?_
  rintro e w1 ⟨rfl, hb1⟩
  have HL1 : Hid (Lies w w1 [] [(u, a, k), (v, b, k)]) := HL0.out.after hb1
  clear hb1  HL0 HS1
  go_wp2_with fail
  with_reducible refine (HS2.out _ (HL1.out.frac (v := v) (q := b) (k := k) (List.Mem.tail _ (List.Mem.head _)))).mono ?_
  rintro e w2 ⟨rfl, hb2⟩
  have HL2 : Hid (Lies w w2 [] [(u, a, k), (v, b, k)]) := HL1.out.after hb2
  clear hb2  HL1
  go_wp2_with fail
  with_reducible refine (HS2.out _ (HL2.out.frac (v := v) (q := b) (k := k) (List.Mem.tail _ (List.Mem.head _)))).mono ?_
  rintro e w3 ⟨rfl, hb3⟩
  have HL3 : Hid (Lies w w3 [] [(u, a, k), (v, b, k)]) := HL2.out.after hb3
  clear hb3  HL2 HS2
  go_wp2_with fail
  with_reducible refine (Tryz.cmpN sa sb _).mono ?_
  rintro e w4 ⟨rfl, rfl⟩
  rw [HO.out]
  go_wp2
  go_ret
  exact ⟨rfl, HL3.out.below⟩
end Go.Proofs.Fr
