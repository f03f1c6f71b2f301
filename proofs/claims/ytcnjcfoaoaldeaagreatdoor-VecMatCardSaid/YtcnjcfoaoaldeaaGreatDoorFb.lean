/- What over, New, Parts, Neg and Floor of the package frac return. What Add and Sub of the package frac return: sums of words, else of naturals. -/
import Derived.Test.YtcnjcfoaoaldeaaGreatDoorFl
import Derived.Test.YtcnjcfoaoaldeaaGreatDoorFw
import Derived.Test.YtcnjcfoaoaldeaaGreatDoorGc
import Derived.Test.YtcnjcfoaoaldeaaGreatDoorLs
import Derived.StillTailTactics
import Derived.Lib.Hide
set_option linter.unusedVariables false
set_option maxHeartbeats 4000000
set_option maxRecDepth 100000
namespace Go.Proofs.Fr
open Go.RowKit Go.Proofs.Wd
theorem Tryz.frOver (v u : Value) (z y : Nat) (n m : Nat) (w : World) (hv : Num w v z n) (hu : Num w u y m) (hn : n ≤ 90000) (hy : 1 ≤ y) :
 Calls Tryz.prog 139 #[v, u] w fun e w' => (∃ r, e = .returned r ∧ Num w' r ((z / y : Nat) : Int) (n + 1)) ∧ Below w.heap.size w w' := by
 have HC : Hid (Calls Tryz.prog 113 #[v, u] w fun e w' => (∃ q r, e = .returned (.tuple #[q, r, .bool true]) ∧ Num w' q ((z / y : Nat) : Int) (n + 1)) ∧ Below w.heap.size w w') :=
  (Tryz.natDiv v u z y n m w hv hu hn (by omega)).mono fun e w' ⟨⟨q, r, h1, h2, _⟩, hb⟩ => ⟨⟨q, r, h1, by rw [Int.natCast_ediv]; exact h2⟩, hb⟩
 clear hv hu
 go_enter Tryz.func139, Tryz.ntmps139
 go_wp2_with fail
 with_reducible refine HC.out.mono ?_
 rintro e w1 ⟨⟨q, r, rfl, hq⟩, hb1⟩
 have HQ : Hid (Num w1 q ((z / y : Nat) : Int) (n + 1)) := hq
 have HB : Hid (Below w.heap.size w w1) := hb1
 clear hq hb1 HC
 go_wp2
 go_ret
 exact ⟨⟨q, rfl, HQ.out⟩, HB.out⟩
theorem Tryz.frGcd (v u : Value) (z y : Nat) (n m : Nat) (w : World) (hv : Num w v z n) (hu : Num w u y m) (hn : n ≤ 80000) (hm : m ≤ 80000) :
 Calls Tryz.prog 138 #[v, u] w fun e w' => (∃ r, e = .returned r ∧ Num w' r ((Nat.gcd z y : Nat) : Int) (max n m)) ∧ Below w.heap.size w w' := by
 have h := Tryz.natGcd v u z y n m w hv hu hn hm
 rw [Int.gcd_natCast_natCast] at h
 exact h
theorem Tryz.frMul (v u : Value) (z y : Nat) (n m : Nat) (w : World) (hv : Num w v z n) (hu : Num w u y m) (hn : n ≤ 100000) (hm : m ≤ 100000) :
 Calls Tryz.prog 132 #[v, u] w fun e w' => (∃ r, e = .returned r ∧ Num w' r ((z * y : Nat) : Int) (n + m)) ∧ Below w.heap.size w w' := by
 have h := Tryz.natMul v u z y n m w hv hu hn hm
 rw [← Int.natCast_mul] at h
 exact h
end Go.Proofs.Fr
namespace Go.Proofs.Fr
open Go.RowKit Go.Proofs.Wd
theorem Tryz.frTimes (x y : Nat) (w : World) (hx : x ≤ 18446744073709551615) (hy : y ≤ 18446744073709551615) :
 Calls Tryz.prog 137 #[.int .u64 x, .int .u64 y] w fun e w' => (∃ (l : Nat) (b : Bool), l ≤ 18446744073709551615 ∧ (b = true → l = x * y) ∧ e = .returned (.tuple #[.int .u64 l, .bool b])) ∧ w' = w := by
 go_enter Tryz.func137, Tryz.ntmps137
 go_wp2_with fail
 with_reducible refine (Go.Proofs.Tryz.Mul x y _ (by omega) (by omega) (by omega) (by omega)).mono ?_
 rintro e w1 ⟨⟨h, l, he, h0, h1, l0, l1, rfl⟩, rfl⟩
 obtain ⟨l, rfl⟩ := Int.eq_ofNat_of_zero_le l0
 have HE : Hid ((h == 0) = true → l = x * y) := fun g => by
  have g : h = 0 := by simpa using g
  subst g
  rw [Int.zero_mul, Int.zero_add, ← Int.natCast_mul] at he
  omega
 have HL : Hid (l ≤ 18446744073709551615) := by show _ ≤ _; omega
 clear he
 go_wp2
 go_ret2
 exact ⟨⟨l, _, HL.out, HE.out, rfl⟩, rfl⟩
theorem Tryz.frDivisor (x y : Nat) (w : World) (hx : x ≤ 18446744073709551615) (hy : y ≤ 18446744073709551615) :
 Calls Tryz.prog 136 #[.int .u64 x, .int .u64 y] w fun e w' => e = .returned (.int .u64 (Nat.gcd x y : Nat)) ∧ Below w.heap.size w w' := by
 obtain ⟨g, hg⟩ : ∃ g, Nat.gcd x y = g := ⟨_, rfl⟩
 rw [hg]
 have HG : Hid (Nat.gcd x y = g) := hg
 clear hg
 go_enter Tryz.func136, Tryz.ntmps136
 go_wp2
 go_loopw [0, 1] (fun u v wr => ∃ a b : Nat, u = .int .u64 a ∧ v = .int .u64 b ∧ a ≤ 18446744073709551615 ∧ b ≤ 18446744073709551615 ∧ Nat.gcd a b = g ∧ Below w.heap.size w wr) (fun u v _ => (intOf v).toNat)
 case atStart => exact ⟨x, y, rfl, rfl, hx, hy, HG.out, Below.refl _ _⟩
 case round =>
  obtain ⟨a, b, rfl, rfl, ha, hb, hgg, hbl⟩ := hrel
  have HB : Hid (Below w.heap.size w wr) := hbl
  clear hbl
  by_cases h0 : b = 0
  ·subst h0
   obtain rfl : a = g := by simpa using hgg
   go_wp2
   go_ret
   exact ⟨rfl, HB.out⟩
  ·have hb0 : ((b : Int) == 0) = false := by simp; omega
   have hb1 : ((b : Int) != 0) = true := by simp; omega
   obtain ⟨m, hm⟩ : ∃ m, a % b = m := ⟨_, rfl⟩
   have hrem : (a : Int).tmod (b : Int) = (m : Int) := by rw [Int.tmod_eq_emod_of_nonneg (by omega), ← Int.natCast_emod, hm]
   have hrem2 : (a : Int) % (b : Int) = (m : Int) := by rw [← Int.natCast_emod, hm]
   have HS : Hid (Nat.gcd b m = g) := by
    show _ = _
    rw [← hm, Nat.gcd_comm, ← Nat.gcd_rec, Nat.gcd_comm]; exact hgg
   have HM : m < b := by rw [← hm]; exact Nat.mod_lt _ (by omega)
   clear hgg hm
   go_wp2
   go_quiet (fail)
   have HB2 := Lib.hid (belowN HB.out nq)
   generalize wr.drewN nq = w2 at *
   go_wp2
   exact ⟨⟨b, m, rfl, rfl, hb, by omega, HS.out, HB2.out⟩, by simp [intOf]; omega⟩
/-- What signedSum tells. -/
def SgnIs (nx ny : Bool) (x y : Nat) (e : Ending) : Prop := ∃ (neg : Bool) (n : Nat) (b : Bool), n ≤ 18446744073709551615 ∧ (b = true → sgn neg n = sgn nx x + sgn ny y) ∧ e = .returned (.tuple #[.bool neg, .int .u64 n, .bool b])
theorem Tryz.frSignedSum (nx ny : Bool) (x y : Nat) (w : World) (hx : x ≤ 18446744073709551615) (hy : y ≤ 18446744073709551615) :
 Calls Tryz.prog 173 #[.bool nx, .int .u64 x, .bool ny, .int .u64 y] w fun e w' => SgnIs nx ny x y e ∧ w' = w := by
 have HG : Hid (nx ≠ ny → (y : Int) ≤ x → ∀ s : Int, s = x - y → SgnIs nx ny x y (.returned (.tuple #[.bool nx, .int .u64 s, .bool true]))) := by
  rintro hne hle s rfl
  refine ⟨nx, x - y, true, by omega, fun _ => ?_, by rw [Int.ofNat_sub (by omega)]⟩
  cases nx <;> cases ny <;> simp [sgn] at hne ⊢ <;> omega
 have HL : Hid (nx ≠ ny → ¬(y : Int) ≤ x → ∀ s : Int, s = y - x → SgnIs nx ny x y (.returned (.tuple #[.bool ny, .int .u64 s, .bool true]))) := by
  rintro hne hle s rfl
  refine ⟨ny, y - x, true, by omega, fun _ => ?_, by rw [Int.ofNat_sub (by omega)]⟩
  cases nx <;> cases ny <;> simp [sgn] at hne ⊢ <;> omega
 by_cases hne : nx = ny
 ·subst hne
  have hnn : (nx == nx) = true := by simp
  have HA : Hid (∀ (s : Int) (d : Bool), s + (if d = true then 18446744073709551616 else 0) = x + y → 0 ≤ s → s ≤ 18446744073709551615 → SgnIs nx nx x y (.returned (.tuple #[.bool nx, .int .u64 s, .bool (!d)]))) := by
   rintro s d he h0 h1
   obtain ⟨s, rfl⟩ := Int.eq_ofNat_of_zero_le h0
   refine ⟨nx, s, !d, by omega, fun h => ?_, rfl⟩
   cases d
   ·have : s = x + y := by simp at he; omega
    subst this
    cases nx <;> simp [sgn] <;> omega
   ·simp at h
  go_enter Tryz.func173, Tryz.ntmps173
  go_wp2_with fail
  with_reducible refine (Go.Proofs.Tryz.AddX x y false _ (by omega) (by omega) (by omega) (by omega)).mono ?_
  rintro e w1 ⟨⟨s, d, he, s0, s1, rfl⟩, rfl⟩
  have HE : Hid (SgnIs nx nx x y (.returned (.tuple #[.bool nx, .int .u64 s, .bool (!d)]))) := HA.out s d (by simpa using he) s0 s1
  clear he HA HG HL
  go_wp2
  go_ret3
  exact ⟨HE.out, rfl⟩
 ·have hnn : (nx == ny) = false := by simpa using hne
  by_cases hle : (y : Int) ≤ x
  ·have HE : Hid (SgnIs nx ny x y (.returned (.tuple #[.bool nx, .int .u64 ((x : Int) - y), .bool true]))) := HG.out hne hle _ rfl
   clear HG HL
   go_enter Tryz.func173, Tryz.ntmps173
   go_wp2
   go_ret3
   exact ⟨HE.out, rfl⟩
  ·have HE : Hid (SgnIs nx ny x y (.returned (.tuple #[.bool ny, .int .u64 ((y : Int) - x), .bool true]))) := HL.out hne hle _ rfl
   clear HG HL
   go_enter Tryz.func173, Tryz.ntmps173
   go_wp2
   go_ret3
   exact ⟨HE.out, rfl⟩
/-- What shortSum tells. -/
def ShortIs (q : Rat) (w : World) (e : Ending) : Prop := (∃ v, e = .returned (.tuple #[v, .bool true]) ∧ FracIs w v q 1) ∨ e = .returned (.tuple #[.pointer none, .bool false])
theorem Tryz.frShortSum (u v : Value) (a b c : Rat) (nb : Bool) (i j : Nat) (w : World) (hu : FracIs w u a i) (hv : FracIs w v b j) (hc : c.num = sgn nb b.num.natAbs) (hd : c.den = b.den) :
 Calls Tryz.prog 134 #[u, v, .bool nb] w fun e w' => ShortIs (a + c) w' e ∧ Below w.heap.size w w' := by
 have HL0 : Hid (Lies w w [] [(u, a, i), (v, b, j)]) := ((Lies.start w).addF hv).addF hu
 have HNO : Hid (∀ W, ShortIs (a + c) W (.returned (.tuple #[.pointer none, .bool false]))) := fun W => .inr rfl
 clear hu hv
 by_cases hs : Short a
 ·by_cases ht : Short b
  ·obtain ⟨n1, hn1⟩ : ∃ n, a.num.natAbs = n := ⟨_, rfl⟩
   obtain ⟨d1, hd1⟩ : ∃ n, a.den = n := ⟨_, rfl⟩
   obtain ⟨n2, hn2⟩ : ∃ n, b.num.natAbs = n := ⟨_, rfl⟩
   obtain ⟨d2, hd2⟩ : ∃ n, b.den = n := ⟨_, rfl⟩
   have HW1 : Hid (∀ W, FracIs W u a i → Calls Tryz.prog 121 #[u] W fun e w' => e = .returned (.tuple #[.int .u64 n1, .int .u64 d1, .bool true]) ∧ Below W.heap.size W w') := fun W h =>
    (Tryz.words u a i W h).mono fun e w' h => ⟨by have := (h.1.resolve_right fun g => g.1 hs).2; rw [hn1, hd1] at this; exact this, h.2⟩
   have HW2 : Hid (∀ W, FracIs W v b j → Calls Tryz.prog 121 #[v] W fun e w' => e = .returned (.tuple #[.int .u64 n2, .int .u64 d2, .bool true]) ∧ Below W.heap.size W w') := fun W h =>
    (Tryz.words v b j W h).mono fun e w' h => ⟨by have := (h.1.resolve_right fun g => g.1 ht).2; rw [hn2, hd2] at this; exact this, h.2⟩
   obtain ⟨s, hsg⟩ : ∃ s : Int, a.num.sign = s := ⟨_, rfl⟩
   have HSG : Hid (∀ W, FracIs W u a i → Calls Tryz.prog 64 #[u] W fun e w' => e = .returned (.int .i64 s) ∧ Below W.heap.size W w') := fun W h => by
    have := Tryz.Sign u a i W h
    rw [hsg] at this
    exact this
   obtain ⟨g, hg⟩ : ∃ g, Nat.gcd d1 d2 = g := ⟨_, rfl⟩
   have d10 : 0 < d1 := by have := a.den_pos; omega
   have d20 : 0 < d2 := by have := b.den_pos; omega
   have g0 : 0 < g := by rw [← hg]; exact Nat.gcd_pos_of_pos_left _ d10
   obtain ⟨n9, d9⟩ := hs
   obtain ⟨m9, e9⟩ := ht
   rw [hn1] at n9
   rw [hd1] at d9
   rw [hn2] at m9
   rw [hd2] at e9
   have g9 : g ≤ 18446744073709551615 := by
    have : g ≤ d1 := by rw [← hg]; exact Nat.gcd_le_left _ d10
    omega
   have HDV : Hid (∀ W, Calls Tryz.prog 136 #[.int .u64 d1, .int .u64 d2] W fun e w' => e = .returned (.int .u64 g) ∧ Below W.heap.size W w') := fun W => by
    have := Tryz.frDivisor d1 d2 W (by omega) (by omega)
    rw [hg] at this
    exact this
   obtain ⟨o1, ho1⟩ : ∃ o, d1 / g = o := ⟨_, rfl⟩
   obtain ⟨o2, ho2⟩ : ∃ o, d2 / g = o := ⟨_, rfl⟩
   have o19 : o1 ≤ 18446744073709551615 := by have := Nat.div_le_self d1 g; omega
   have o29 : o2 ≤ 18446744073709551615 := by have := Nat.div_le_self d2 g; omega
   have hq1 : ((d1 : Int) / (g : Int)) = (o1 : Int) := by rw [← ho1, Int.natCast_ediv]
   have hq2 : ((d2 : Int) / (g : Int)) = (o2 : Int) := by rw [← ho2, Int.natCast_ediv]
   have ht1 : (d1 : Int).tdiv (g : Int) = (o1 : Int) := by rw [Int.tdiv_eq_ediv_of_nonneg (by omega), hq1]
   have ht2 : (d2 : Int).tdiv (g : Int) = (o2 : Int) := by rw [Int.tdiv_eq_ediv_of_nonneg (by omega), hq2]
   have hgz : ((g : Int) == 0) = false := by simp; omega
   have HF : Hid (∀ (neg : Bool) (n t1 t2 l d : Nat) (W : World), n ≤ 18446744073709551615 → d ≤ 18446744073709551615 → t1 = n1 * o2 → t2 = n2 * o1 → sgn neg n = sgn (decide (s < 0)) t1 + sgn nb t2 → Nat.gcd g n = l → d = o1 * (d2 / l) → ∀ n3 : Nat, n / l = n3 →
    Calls Tryz.prog 90 #[.bool neg, .int .u64 (n3 : Int), .int .u64 d] W fun e w' => (∃ v, e = .returned v ∧ FracIs w' v (a + c) 1) ∧ Below W.heap.size W w') := by
    intro neg n t1 t2 l d W hn9 hd9 ht1 ht2 hsum hl hdd n3 hn3
    subst hn3
    have hsn : decide (s < 0) = decide (a.num < 0) := by rw [← hsg, Bool.eq_iff_iff]; simp [Int.sign_neg_iff]
    have h := sum_parts (a := a) (b := c) (g := g) (o1 := o1) (o2 := o2) (l := l) (neg := neg) (n := n) hc (by rw [hd1, hd, hd2]; exact hg.symm) (by rw [hd1]; exact ho1.symm) (by rw [hd, hd2]; exact ho2.symm)
     (by rw [hn1, hn2, ← ht1, ← ht2, ← hsn]; exact hsum) (by rw [Nat.gcd_comm]; exact hl.symm)
    rw [hd, hd2] at h
    exact Tryz.ofWords neg (n / l) d (a + c) W h.1 (by rw [h.2, hdd]) (by have := Nat.div_le_self n l; omega) hd9
   have HE : Hid (∀ W v, FracIs W v (a + c) 1 → ShortIs (a + c) W (.returned (.tuple #[v, .bool true]))) := fun W v h => .inl ⟨v, rfl, h⟩
   have HDL : Hid (∀ l, d2 / l ≤ 18446744073709551615) := fun l => by have := Nat.div_le_self d2 l; omega
   have HCD : Hid (∀ x y : Nat, ((x : Int) / (y : Int)) = ((x / y : Nat) : Int)) := fun x y => (Int.natCast_ediv x y).symm
   clear hn1 hd1 hn2 hd2 hsg hg ho1 ho2 hc hd
   go_enter Tryz.func134, Tryz.ntmps134
   go_wp2_with fail
   with_reducible refine (HW1.out _ (HL0.out.frac (v := u) (q := a) (k := i) (List.Mem.head _))).mono ?_
   rintro e w1 ⟨rfl, hb1⟩
   have HL1 : Hid (Lies w w1 [] [(u, a, i), (v, b, j)]) := HL0.out.after hb1
   clear hb1  HL0 HW1
   go_wp2_with fail
   with_reducible refine (HW2.out _ (HL1.out.frac (v := v) (q := b) (k := j) (List.Mem.tail _ (List.Mem.head _)))).mono ?_
   rintro e w2 ⟨rfl, hb2⟩
   have HL2 : Hid (Lies w w2 [] [(u, a, i), (v, b, j)]) := HL1.out.after hb2
   clear hb2  HL1 HW2
   go_wp2_with fail
   with_reducible refine (HDV.out _).mono ?_
   rintro e w3 ⟨rfl, hb3⟩
   have HL3 : Hid (Lies w w3 [] [(u, a, i), (v, b, j)]) := HL2.out.after hb3
   clear hb3  HL2 HDV
   go_wp2_with fail
   go_quiet (fail)
   have HLq := Lib.hid (HL3.out.after (belowN (Below.refl _ _) nq))
   clear HL3
   generalize w3.drewN nq = w4 at *
   have HL4 : Hid (Lies w w4 [] [(u, a, i), (v, b, j)]) := HLq
   clear HLq
   go_wp2_with fail
   with_reducible refine (Tryz.frTimes n1 o2 _ (by omega) o29).mono ?_
   rintro e w5 ⟨⟨t1, b1, t19, ht1, rfl⟩, rfl⟩
   have HT1 : Hid (b1 = true → t1 = n1 * o2) := ht1
   clear ht1
   go_wp2_with fail
   with_reducible refine (Tryz.frTimes n2 o1 _ (by omega) o19).mono ?_
   rintro e w6 ⟨⟨t2, b2, t29, ht2, rfl⟩, rfl⟩
   have HT2 : Hid (b2 = true → t2 = n2 * o1) := ht2
   clear ht2
   have HL6 : Hid (Lies w w6 [] [(u, a, i), (v, b, j)]) := HL4
   clear HL4
   go_wp2_with fail
   with_reducible refine (HSG.out _ (HL6.out.frac (v := u) (q := a) (k := i) (List.Mem.head _))).mono ?_
   rintro e w7 ⟨rfl, hb7⟩
   have HL7 : Hid (Lies w w7 [] [(u, a, i), (v, b, j)]) := HL6.out.after hb7
   clear hb7  HL6 HSG
   go_wp2_with fail
   with_reducible refine (Tryz.frSignedSum (decide (s < 0)) nb t1 t2 _ t19 t29).mono ?_
   rintro e w8 ⟨⟨neg, n, b3, n39, hn3, rfl⟩, rfl⟩
   have HN3 : Hid (b3 = true → sgn neg n = sgn (decide (s < 0)) t1 + sgn nb t2) := hn3
   clear hn3
   have HL8 : Hid (Lies w w8 [] [(u, a, i), (v, b, j)]) := HL7
   clear HL7
   cases b1
   ·go_wp2
    go_ret2
    exact ⟨HNO.out _, HL8.out.below⟩
   cases b2
   ·go_wp2
    go_ret2
    exact ⟨HNO.out _, HL8.out.below⟩
   cases b3
   ·go_wp2
    go_ret2
    exact ⟨HNO.out _, HL8.out.below⟩
   obtain ⟨l, hl⟩ : ∃ l, Nat.gcd g n = l := ⟨_, rfl⟩
   have l0 : 0 < l := by rw [← hl]; exact Nat.gcd_pos_of_pos_left _ g0
   have HDV2 : Hid (∀ W, Calls Tryz.prog 136 #[.int .u64 g, .int .u64 n] W fun e w' => e = .returned (.int .u64 l) ∧ Below W.heap.size W w') := fun W => by
    have := Tryz.frDivisor g n W g9 n39
    rw [hl] at this
    exact this
   have HLL : Hid (Nat.gcd g n = l) := hl
   have hlz : ((l : Int) == 0) = false := by simp; omega
   obtain ⟨d3, hd3⟩ : ∃ d3, d2 / l = d3 := ⟨_, rfl⟩
   obtain ⟨n3, hn3⟩ : ∃ n3, n / l = n3 := ⟨_, rfl⟩
   have d39 : d3 ≤ 18446744073709551615 := by have := HDL.out l; omega
   have n349 : n3 ≤ 18446744073709551615 := by have := Nat.div_le_self n l; omega
   have hq3 : (d2 : Int) / (l : Int) = (d3 : Int) := by rw [HCD.out, hd3]
   have hq4 : (n : Int) / (l : Int) = (n3 : Int) := by rw [HCD.out, hn3]
   have ht3 : (d2 : Int).tdiv (l : Int) = (d3 : Int) := by rw [Int.tdiv_eq_ediv_of_nonneg (by omega), hq3]
   have ht4 : (n : Int).tdiv (l : Int) = (n3 : Int) := by rw [Int.tdiv_eq_ediv_of_nonneg (by omega), hq4]
   have HD3L : Hid (d2 / l = d3) := hd3
   have HN3L : Hid (n / l = n3) := hn3
   clear hd3 hn3
   clear hl
   go_wp2_with fail
   with_reducible refine (HDV2.out _).mono ?_
   rintro e w9 ⟨rfl, hb9⟩
   have HL9 : Hid (Lies w w9 [] [(u, a, i), (v, b, j)]) := HL8.out.after hb9
   clear hb9  HL8 HDV2
   go_wp2_with fail
   with_reducible refine (Tryz.frTimes o1 d3 _ o19 d39).mono ?_
   rintro e w10 ⟨⟨d, b4, dd9, hd3, rfl⟩, rfl⟩
   have HD3 : Hid (b4 = true → d = o1 * d3) := hd3
   clear hd3
   have HL10 : Hid (Lies w w10 [] [(u, a, i), (v, b, j)]) := HL9
   clear HL9
   cases b4
   ·go_wp2
    go_ret2
    exact ⟨HNO.out _, HL10.out.below⟩
   have HF2 := Lib.hid (fun W => HF.out neg n t1 t2 l d W n39 dd9 (HT1.out (by simp)) (HT2.out (by simp)) (HN3.out (by simp)) HLL.out (by rw [HD3L.out]; exact HD3.out (by simp)) n3 HN3L.out)
   clear HF HT1 HT2 HN3 HLL HD3
   go_wp2_with fail
   with_reducible refine (HF2.out _).mono ?_
   rintro e w11 ⟨⟨r, rfl, hr⟩, hb11⟩
   have HL11 : Hid (Lies w w11 [] [(r, a + c, 1), (u, a, i), (v, b, j)]) := (HL10.out.after hb11).addF hr
   clear hb11 hr HL10 HF2
   go_wp2
   go_ret2
   exact ⟨HE.out _ r (HL11.out.frac (v := r) (q := a + c) (k := 1) (List.Mem.head _)), HL11.out.below⟩
  ·have HW2 : Hid (∀ W, FracIs W v b j → Calls Tryz.prog 121 #[v] W fun e w' => (∃ n d, e = .returned (.tuple #[.int .u64 n, .int .u64 d, .bool false])) ∧ Below W.heap.size W w') := fun W h =>
    (Tryz.words v b j W h).mono fun e w' h => ⟨(h.1.resolve_left fun g => ht g.1).2, h.2⟩
   have HW1 : Hid (∀ W, FracIs W u a i → Calls Tryz.prog 121 #[u] W fun e w' => (∃ n d, e = .returned (.tuple #[.int .u64 n, .int .u64 d, .bool true])) ∧ Below W.heap.size W w') := fun W h =>
    (Tryz.words u a i W h).mono fun e w' h => ⟨⟨_, _, (h.1.resolve_right fun g => g.1 hs).2⟩, h.2⟩
   clear hs ht hc hd
   go_enter Tryz.func134, Tryz.ntmps134
   go_wp2_with fail
   with_reducible refine (HW1.out _ (HL0.out.frac (v := u) (q := a) (k := i) (List.Mem.head _))).mono ?_
   rintro e w1 ⟨⟨m1, c1, rfl⟩, hb1⟩
   have HL1 : Hid (Lies w w1 [] [(u, a, i), (v, b, j)]) := HL0.out.after hb1
   clear hb1  HL0 HW1
   go_wp2_with fail
   with_reducible refine (HW2.out _ (HL1.out.frac (v := v) (q := b) (k := j) (List.Mem.tail _ (List.Mem.head _)))).mono ?_
   rintro e w2 ⟨⟨m2, c2, rfl⟩, hb2⟩
   have HL2 : Hid (Lies w w2 [] [(u, a, i), (v, b, j)]) := HL1.out.after hb2
   clear hb2  HL1 HW2
   go_wp2
   go_ret2
   exact ⟨HNO.out _, HL2.out.below⟩
 ·have HW1 : Hid (∀ W, FracIs W u a i → Calls Tryz.prog 121 #[u] W fun e w' => (∃ n d, e = .returned (.tuple #[.int .u64 n, .int .u64 d, .bool false])) ∧ Below W.heap.size W w') := fun W h =>
   (Tryz.words u a i W h).mono fun e w' h => ⟨(h.1.resolve_left fun g => hs g.1).2, h.2⟩
  have HW2 : Hid (∀ W, FracIs W v b j → Calls Tryz.prog 121 #[v] W fun e w' => (∃ n d o, e = .returned (.tuple #[.int .u64 n, .int .u64 d, .bool o])) ∧ Below W.heap.size W w') := fun W h =>
   (Tryz.words v b j W h).mono fun e w' h => ⟨by
    rcases h.1 with ⟨-, h⟩ | ⟨-, n, d, h⟩
    ·exact ⟨_, _, _, h⟩
    ·exact ⟨_, _, _, h⟩, h.2⟩
  clear hs hc hd
  go_enter Tryz.func134, Tryz.ntmps134
  go_wp2_with fail
  with_reducible refine (HW1.out _ (HL0.out.frac (v := u) (q := a) (k := i) (List.Mem.head _))).mono ?_
  rintro e w1 ⟨⟨m1, c1, rfl⟩, hb1⟩
  have HL1 : Hid (Lies w w1 [] [(u, a, i), (v, b, j)]) := HL0.out.after hb1
  clear hb1  HL0 HW1
  go_wp2_with fail
  with_reducible refine (HW2.out _ (HL1.out.frac (v := v) (q := b) (k := j) (List.Mem.tail _ (List.Mem.head _)))).mono ?_
  rintro e w2 ⟨⟨m2, c2, o, rfl⟩, hb2⟩
  have HL2 : Hid (Lies w w2 [] [(u, a, i), (v, b, j)]) := HL1.out.after hb2
  clear hb2  HL1 HW2
  go_wp2
  go_ret2
  exact ⟨HNO.out _, HL2.out.below⟩
/-- What signedNats tells. -/
def SgnNat (nx ny : Bool) (x y k : Nat) (w : World) (e : Ending) : Prop := ∃ (neg : Bool) (n : Nat) (v : Value), sgn neg n = sgn nx x + sgn ny y ∧ e = .returned (.tuple #[.bool neg, v]) ∧ Num w v (n : Int) k
theorem Tryz.frSignedNats (nx ny : Bool) (u v : Value) (x y k : Nat) (w : World) (hu : Num w u x k) (hv : Num w v y k) (hk : k ≤ 90000) :
 Calls Tryz.prog 174 #[.bool nx, u, .bool ny, v] w fun e w' => SgnNat nx ny x y (k + 1) w' e ∧ Below w.heap.size w w' := by
 have HL0 : Hid (Lies w w [(u, (x : Int), k), (v, (y : Int), k)] []) := ((Lies.start w).addN hv).addN hu
 clear hu hv
 by_cases hne : nx = ny
 ·subst hne
  have hnn : (nx == nx) = true := by simp
  have HA : Hid (∀ W, Num W u x k → Num W v y k → Calls Tryz.prog 114 #[u, v] W fun e w' => (∃ r, e = .returned r ∧ Num w' r ((x + y : Nat) : Int) (k + 1)) ∧ Below W.heap.size W w') := fun W h1 h2 => by
   have := Tryz.natAdd u v x y k k W h1 h2 (by omega) (by omega)
   rw [Nat.max_self, ← Int.natCast_add] at this
   exact this
  have HE : Hid (∀ W r, Num W r ((x + y : Nat) : Int) (k + 1) → SgnNat nx nx x y (k + 1) W (.returned (.tuple #[.bool nx, r]))) := fun W r h => ⟨nx, x + y, r, by cases nx <;> simp [sgn] <;> omega, rfl, h⟩
  go_enter Tryz.func174, Tryz.ntmps174
  go_wp2_with fail
  with_reducible refine (HA.out _ (HL0.out.num (v := u) (z := (x : Int)) (n := k) (List.Mem.head _)) (HL0.out.num (v := v) (z := (y : Int)) (n := k) (List.Mem.tail _ (List.Mem.head _)))).mono ?_
  rintro e w1 ⟨⟨r, rfl, hr⟩, hb1⟩
  have HL1 : Hid (Lies w w1 [(r, ((x + y : Nat) : Int), k + 1), (u, (x : Int), k), (v, (y : Int), k)] []) := (HL0.out.after hb1).addN hr
  clear hb1 hr HL0 HA
  go_wp2
  go_ret2
  exact ⟨HE.out _ r (HL1.out.num (v := r) (z := ((x + y : Nat) : Int)) (n := k + 1) (List.Mem.head _)), HL1.out.below⟩
 ·have hnn : (nx == ny) = false := by simpa using hne
  by_cases hle : y ≤ x
  ·have HA : Hid (∀ W, Num W u x k → Num W v y k → Calls Tryz.prog 204 #[u, v] W fun e w' => (∃ r, e = .returned (.tuple #[r, .bool true]) ∧ Num w' r ((x - y : Nat) : Int) k) ∧ Below W.heap.size W w') := fun W h1 h2 => by
    refine (Tryz.natLess u v x y k k W h1 h2 (by omega)).mono ?_
    rintro e w' ⟨h, hb⟩
    obtain ⟨-, r, rfl, hr⟩ := h.resolve_right (fun g => by have := g.1; omega)
    exact ⟨⟨r, rfl, by rw [Int.ofNat_sub hle]; exact hr⟩, hb⟩
   have HE : Hid (∀ W r, Num W r ((x - y : Nat) : Int) k → SgnNat nx ny x y (k + 1) W (.returned (.tuple #[.bool nx, r]))) := fun W r h => ⟨nx, x - y, r, by cases nx <;> cases ny <;> simp [sgn] at hne ⊢ <;> omega, rfl, h.fewer (by omega)⟩
   go_enter Tryz.func174, Tryz.ntmps174
   go_wp2_with fail
   with_reducible refine (HA.out _ (HL0.out.num (v := u) (z := (x : Int)) (n := k) (List.Mem.head _)) (HL0.out.num (v := v) (z := (y : Int)) (n := k) (List.Mem.tail _ (List.Mem.head _)))).mono ?_
   rintro e w1 ⟨⟨r, rfl, hr⟩, hb1⟩
   have HL1 : Hid (Lies w w1 [(r, ((x - y : Nat) : Int), k), (u, (x : Int), k), (v, (y : Int), k)] []) := (HL0.out.after hb1).addN hr
   clear hb1 hr HL0 HA
   go_wp2
   go_ret2
   exact ⟨HE.out _ r (HL1.out.num (v := r) (z := ((x - y : Nat) : Int)) (n := k) (List.Mem.head _)), HL1.out.below⟩
  ·have HN : Hid (∀ W, Num W u x k → Num W v y k → Calls Tryz.prog 204 #[u, v] W fun e w' => e = .returned (.tuple #[.pointer none, .bool false]) ∧ Below W.heap.size W w') := fun W h1 h2 => by
    refine (Tryz.natLess u v x y k k W h1 h2 (by omega)).mono ?_
    rintro e w' ⟨h, hb⟩
    obtain ⟨-, rfl⟩ := h.resolve_left (fun g => by have := g.1; omega)
    exact ⟨rfl, hb⟩
   have HA : Hid (∀ W, Num W u x k → Num W v y k → Calls Tryz.prog 204 #[v, u] W fun e w' => (∃ r, e = .returned (.tuple #[r, .bool true]) ∧ Num w' r ((y - x : Nat) : Int) k) ∧ Below W.heap.size W w') := fun W h1 h2 => by
    refine (Tryz.natLess v u y x k k W h2 h1 (by omega)).mono ?_
    rintro e w' ⟨h, hb⟩
    obtain ⟨-, r, rfl, hr⟩ := h.resolve_right (fun g => by have := g.1; omega)
    exact ⟨⟨r, rfl, by rw [Int.ofNat_sub (by omega)]; exact hr⟩, hb⟩
   have HE : Hid (∀ W r, Num W r ((y - x : Nat) : Int) k → SgnNat nx ny x y (k + 1) W (.returned (.tuple #[.bool ny, r]))) := fun W r h => ⟨ny, y - x, r, by cases nx <;> cases ny <;> simp [sgn] at hne ⊢ <;> omega, rfl, h.fewer (by omega)⟩
   go_enter Tryz.func174, Tryz.ntmps174
   go_wp2_with fail
   with_reducible refine (HN.out _ (HL0.out.num (v := u) (z := (x : Int)) (n := k) (List.Mem.head _)) (HL0.out.num (v := v) (z := (y : Int)) (n := k) (List.Mem.tail _ (List.Mem.head _)))).mono ?_
   rintro e w1 ⟨rfl, hb1⟩
   have HL1 : Hid (Lies w w1 [(u, (x : Int), k), (v, (y : Int), k)] []) := HL0.out.after hb1
   clear hb1  HL0 HN
   go_wp2_with fail
   with_reducible refine (HA.out _ (HL1.out.num (v := u) (z := (x : Int)) (n := k) (List.Mem.head _)) (HL1.out.num (v := v) (z := (y : Int)) (n := k) (List.Mem.tail _ (List.Mem.head _)))).mono ?_
   rintro e w2 ⟨⟨r, rfl, hr⟩, hb2⟩
   have HL2 : Hid (Lies w w2 [(r, ((y - x : Nat) : Int), k), (u, (x : Int), k), (v, (y : Int), k)] []) := (HL1.out.after hb2).addN hr
   clear hb2 hr HL1 HA
   go_wp2
   go_ret2
   exact ⟨HE.out _ r (HL2.out.num (v := r) (z := ((y - x : Nat) : Int)) (n := k) (List.Mem.head _)), HL2.out.below⟩
theorem Tryz.frLongSum (u v : Value) (a b c : Rat) (nb : Bool) (k : Nat) (w : World) (hu : FracIs w u a k) (hv : FracIs w v b k) (hc : c.num = sgn nb b.num.natAbs) (hd : c.den = b.den) (hk : 1 ≤ k) (hk9 : k ≤ 30000) :
 Calls Tryz.prog 135 #[u, v, .bool nb] w fun e w' => (∃ r, e = .returned r ∧ FracIs w' r (a + c) (k + k + 3)) ∧ Below w.heap.size w w' := by
 have HL0 : Hid (Lies w w [] [(u, a, k), (v, b, k)]) := ((Lies.start w).addF hv).addF hu
 clear hu hv
 obtain ⟨n1, hn1⟩ : ∃ n, a.num.natAbs = n := ⟨_, rfl⟩
 obtain ⟨d1, hd1⟩ : ∃ n, a.den = n := ⟨_, rfl⟩
 obtain ⟨n2, hn2⟩ : ∃ n, b.num.natAbs = n := ⟨_, rfl⟩
 obtain ⟨d2, hd2⟩ : ∃ n, b.den = n := ⟨_, rfl⟩
 have HN1 : Hid (∀ W, FracIs W u a k → Calls Tryz.prog 63 #[u] W fun e w' => (∃ p r, e = .returned (.tuple #[p, r]) ∧ Num w' p (n1 : Int) k ∧ Num w' r (d1 : Int) k) ∧ Below W.heap.size W w') := fun W h => by
  have := Tryz.nats u a k W h hk
  rw [hn1, hd1] at this
  exact this
 have HN2 : Hid (∀ W, FracIs W v b k → Calls Tryz.prog 63 #[v] W fun e w' => (∃ p r, e = .returned (.tuple #[p, r]) ∧ Num w' p (n2 : Int) k ∧ Num w' r (d2 : Int) k) ∧ Below W.heap.size W w') := fun W h => by
  have := Tryz.nats v b k W h hk
  rw [hn2, hd2] at this
  exact this
 obtain ⟨s, hsg⟩ : ∃ s : Int, a.num.sign = s := ⟨_, rfl⟩
 have HSG : Hid (∀ W, FracIs W u a k → Calls Tryz.prog 64 #[u] W fun e w' => e = .returned (.int .i64 s) ∧ Below W.heap.size W w') := fun W h => by
  have := Tryz.Sign u a k W h
  rw [hsg] at this
  exact this
 obtain ⟨g, hg⟩ : ∃ g, Nat.gcd d1 d2 = g := ⟨_, rfl⟩
 have d10 : 0 < d1 := by have := a.den_pos; omega
 have d20 : 0 < d2 := by have := b.den_pos; omega
 have g0 : 0 < g := by rw [← hg]; exact Nat.gcd_pos_of_pos_left _ d10
 obtain ⟨o1, ho1⟩ : ∃ o, d1 / g = o := ⟨_, rfl⟩
 obtain ⟨o2, ho2⟩ : ∃ o, d2 / g = o := ⟨_, rfl⟩
 have HG : Hid (∀ W p r, Num W p (d1 : Int) k → Num W r (d2 : Int) k → Calls Tryz.prog 138 #[p, r] W fun e w' => (∃ x, e = .returned x ∧ Num w' x (g : Int) k) ∧ Below W.heap.size W w') := fun W p r h1 h2 => by
  have h := Tryz.frGcd p r d1 d2 k k W h1 h2 (by omega) (by omega)
  rw [hg, Nat.max_self] at h
  exact h
 have HO1 : Hid (∀ W p x, Num W p (d1 : Int) k → Num W x (g : Int) k → Calls Tryz.prog 139 #[p, x] W fun e w' => (∃ y, e = .returned y ∧ Num w' y (o1 : Int) (k + 1)) ∧ Below W.heap.size W w') := fun W p x h1 h2 => by
  have h := Tryz.frOver p x d1 g k k W h1 h2 (by omega) g0
  rw [ho1] at h
  exact h
 have HO2 : Hid (∀ W p x, Num W p (d2 : Int) k → Num W x (g : Int) k → Calls Tryz.prog 139 #[p, x] W fun e w' => (∃ y, e = .returned y ∧ Num w' y (o2 : Int) (k + 1)) ∧ Below W.heap.size W w') := fun W p x h1 h2 => by
  have h := Tryz.frOver p x d2 g k k W h1 h2 (by omega) g0
  rw [ho2] at h
  exact h
 have HM1 : Hid (∀ W p x, Num W p (n1 : Int) k → Num W x (o2 : Int) (k + 1) → Calls Tryz.prog 132 #[p, x] W fun e w' => (∃ y, e = .returned y ∧ Num w' y ((n1 * o2 : Nat) : Int) (k + k + 1)) ∧ Below W.heap.size W w') := fun W p x h1 h2 => Tryz.frMul p x n1 o2 k (k + 1) W h1 h2 (by omega) (by omega)
 have HM2 : Hid (∀ W p x, Num W p (n2 : Int) k → Num W x (o1 : Int) (k + 1) → Calls Tryz.prog 132 #[p, x] W fun e w' => (∃ y, e = .returned y ∧ Num w' y ((n2 * o1 : Nat) : Int) (k + k + 1)) ∧ Below W.heap.size W w') := fun W p x h1 h2 => Tryz.frMul p x n2 o1 k (k + 1) W h1 h2 (by omega) (by omega)
 obtain ⟨t1, ht1⟩ : ∃ t, n1 * o2 = t := ⟨_, rfl⟩
 obtain ⟨t2, ht2⟩ : ∃ t, n2 * o1 = t := ⟨_, rfl⟩
 rw [ht1] at HM1
 rw [ht2] at HM2
 have HS : Hid (∀ W x y, Num W x (t1 : Int) (k + k + 1) → Num W y (t2 : Int) (k + k + 1) → Calls Tryz.prog 174 #[.bool (decide (s < 0)), x, .bool nb, y] W fun e w' => SgnNat (decide (s < 0)) nb t1 t2 (k + k + 2) w' e ∧ Below W.heap.size W w') := fun W x y h1 h2 => Tryz.frSignedNats (decide (s < 0)) nb x y t1 t2 (k + k + 1) W h1 h2 (by omega)
 have HF : Hid (∀ (neg : Bool) (n l : Nat) (W : World) (x y : Value), sgn neg n = sgn (decide (s < 0)) t1 + sgn nb t2 → Nat.gcd n g = l → Num W x ((n / l : Nat) : Int) (k + k + 3) → Num W y ((o1 * (d2 / l) : Nat) : Int) (k + k + 3) →
  Calls Tryz.prog 100 #[.bool neg, x, y] W fun e w' => (∃ v, e = .returned v ∧ FracIs w' v (a + c) (k + k + 3)) ∧ Below W.heap.size W w') := by
  intro neg n l W x y hsum hl hx hy
  have hsn : decide (s < 0) = decide (a.num < 0) := by rw [← hsg, Bool.eq_iff_iff]; simp [Int.sign_neg_iff]
  have h := sum_parts (a := a) (b := c) (g := g) (o1 := o1) (o2 := o2) (l := l) (neg := neg) (n := n) hc (by rw [hd1, hd, hd2]; exact hg.symm) (by rw [hd1]; exact ho1.symm) (by rw [hd, hd2]; exact ho2.symm)
   (by rw [hn1, hn2, ht1, ht2, ← hsn]; exact hsum) hl.symm
  rw [hd, hd2] at h
  exact Tryz.ofNats neg x y (n / l) (o1 * (d2 / l)) (a + c) (k + k + 3) W hx hy h.1 h.2 (by omega)
 clear hn1 hd1 hn2 hd2 hsg hg ho1 ho2 hc hd ht1 ht2
 go_enter Tryz.func135, Tryz.ntmps135
 go_wp2_with fail
 with_reducible refine (HN1.out _ (HL0.out.frac (v := u) (q := a) (k := k) (List.Mem.head _))).mono ?_
 rintro e w1 ⟨⟨p1, r1, rfl, hp1, hr1⟩, hb1⟩
 have HL1 : Hid (Lies w w1 [(r1, (d1 : Int), k), (p1, (n1 : Int), k)] [(u, a, k), (v, b, k)]) := ((HL0.out.after hb1).addN hp1).addN hr1
 clear hb1 hp1 hr1 HL0 HN1
 go_wp2_with fail
 with_reducible refine (HN2.out _ (HL1.out.frac (v := v) (q := b) (k := k) (List.Mem.tail _ (List.Mem.head _)))).mono ?_
 rintro e w2 ⟨⟨p2, r2, rfl, hp2, hr2⟩, hb2⟩
 have HL2 : Hid (Lies w w2 [(r2, (d2 : Int), k), (p2, (n2 : Int), k), (r1, (d1 : Int), k), (p1, (n1 : Int), k)] [(u, a, k), (v, b, k)]) := ((HL1.out.after hb2).addN hp2).addN hr2
 clear hb2 hp2 hr2 HL1 HN2
 go_wp2_with fail
 with_reducible refine (HG.out _ r1 r2 (HL2.out.num (v := r1) (z := (d1 : Int)) (n := k) (List.Mem.tail _ (List.Mem.tail _ (List.Mem.head _)))) (HL2.out.num (v := r2) (z := (d2 : Int)) (n := k) (List.Mem.head _))).mono ?_
 rintro e w3 ⟨⟨gv, rfl, hgv⟩, hb3⟩
 have HL3 : Hid (Lies w w3 [(gv, (g : Int), k), (r2, (d2 : Int), k), (p2, (n2 : Int), k), (r1, (d1 : Int), k), (p1, (n1 : Int), k)] [(u, a, k), (v, b, k)]) := (HL2.out.after hb3).addN hgv
 clear hb3 hgv HL2 HG
 go_wp2_with fail
 with_reducible refine (HO1.out _ r1 gv (HL3.out.num (v := r1) (z := (d1 : Int)) (n := k) (List.Mem.tail _ (List.Mem.tail _ (List.Mem.tail _ (List.Mem.head _))))) (HL3.out.num (v := gv) (z := (g : Int)) (n := k) (List.Mem.head _))).mono ?_
 rintro e w4 ⟨⟨v1, rfl, hv1⟩, hb4⟩
 have HL4 : Hid (Lies w w4 [(v1, (o1 : Int), k + 1), (gv, (g : Int), k), (r2, (d2 : Int), k), (p2, (n2 : Int), k), (r1, (d1 : Int), k), (p1, (n1 : Int), k)] [(u, a, k), (v, b, k)]) := (HL3.out.after hb4).addN hv1
 clear hb4 hv1 HL3 HO1
 go_wp2_with fail
 with_reducible refine (HO2.out _ r2 gv (HL4.out.num (v := r2) (z := (d2 : Int)) (n := k) (List.Mem.tail _ (List.Mem.tail _ (List.Mem.head _)))) (HL4.out.num (v := gv) (z := (g : Int)) (n := k) (List.Mem.tail _ (List.Mem.head _)))).mono ?_
 rintro e w5 ⟨⟨v2, rfl, hv2⟩, hb5⟩
 have HL5 : Hid (Lies w w5 [(v2, (o2 : Int), k + 1), (v1, (o1 : Int), k + 1), (gv, (g : Int), k), (r2, (d2 : Int), k), (p2, (n2 : Int), k), (r1, (d1 : Int), k), (p1, (n1 : Int), k)] [(u, a, k), (v, b, k)]) := (HL4.out.after hb5).addN hv2
 clear hb5 hv2 HL4 HO2
 go_wp2_with fail
 with_reducible refine (HSG.out _ (HL5.out.frac (v := u) (q := a) (k := k) (List.Mem.head _))).mono ?_
 rintro e w6 ⟨rfl, hb6⟩
 have HL6 : Hid (Lies w w6 [(v2, (o2 : Int), k + 1), (v1, (o1 : Int), k + 1), (gv, (g : Int), k), (r2, (d2 : Int), k), (p2, (n2 : Int), k), (r1, (d1 : Int), k), (p1, (n1 : Int), k)] [(u, a, k), (v, b, k)]) := HL5.out.after hb6
 clear hb6  HL5 HSG
 go_wp2_with fail
 with_reducible refine (HM1.out _ p1 v2 (HL6.out.num (v := p1) (z := (n1 : Int)) (n := k) (List.Mem.tail _ (List.Mem.tail _ (List.Mem.tail _ (List.Mem.tail _ (List.Mem.tail _ (List.Mem.tail _ (List.Mem.head _)))))))) (HL6.out.num (v := v2) (z := (o2 : Int)) (n := k + 1) (List.Mem.head _))).mono ?_
 rintro e w7 ⟨⟨m1, rfl, hm1⟩, hb7⟩
 have HL7 : Hid (Lies w w7 [(m1, (t1 : Int), k + k + 1), (v2, (o2 : Int), k + 1), (v1, (o1 : Int), k + 1), (gv, (g : Int), k), (r2, (d2 : Int), k), (p2, (n2 : Int), k), (r1, (d1 : Int), k), (p1, (n1 : Int), k)] [(u, a, k), (v, b, k)]) := (HL6.out.after hb7).addN hm1
 clear hb7 hm1 HL6 HM1
 go_wp2_with fail
 with_reducible refine (HM2.out _ p2 v1 (HL7.out.num (v := p2) (z := (n2 : Int)) (n := k) (List.Mem.tail _ (List.Mem.tail _ (List.Mem.tail _ (List.Mem.tail _ (List.Mem.tail _ (List.Mem.head _))))))) (HL7.out.num (v := v1) (z := (o1 : Int)) (n := k + 1) (List.Mem.tail _ (List.Mem.tail _ (List.Mem.head _))))).mono ?_
 rintro e w8 ⟨⟨m2, rfl, hm2⟩, hb8⟩
 have HL8 : Hid (Lies w w8 [(m2, (t2 : Int), k + k + 1), (m1, (t1 : Int), k + k + 1), (v2, (o2 : Int), k + 1), (v1, (o1 : Int), k + 1), (gv, (g : Int), k), (r2, (d2 : Int), k), (p2, (n2 : Int), k), (r1, (d1 : Int), k), (p1, (n1 : Int), k)] [(u, a, k), (v, b, k)]) := (HL7.out.after hb8).addN hm2
 clear hb8 hm2 HL7 HM2
 go_wp2_with fail
 with_reducible refine (HS.out _ m1 m2 (HL8.out.num (v := m1) (z := (t1 : Int)) (n := k + k + 1) (List.Mem.tail _ (List.Mem.head _))) (HL8.out.num (v := m2) (z := (t2 : Int)) (n := k + k + 1) (List.Mem.head _))).mono ?_
 rintro e w9 ⟨⟨neg, n, z, hsum, rfl, hz⟩, hb9⟩
 have HL9 : Hid (Lies w w9 [(z, (n : Int), k + k + 2), (m2, (t2 : Int), k + k + 1), (m1, (t1 : Int), k + k + 1), (v2, (o2 : Int), k + 1), (v1, (o1 : Int), k + 1), (gv, (g : Int), k), (r2, (d2 : Int), k), (p2, (n2 : Int), k), (r1, (d1 : Int), k), (p1, (n1 : Int), k)] [(u, a, k), (v, b, k)]) := (HL8.out.after hb9).addN hz
 clear hb9 hz HL8 HS
 obtain ⟨l, hl⟩ : ∃ l, Nat.gcd n g = l := ⟨_, rfl⟩
 have l0 : 1 ≤ l := by rw [← hl]; exact Nat.gcd_pos_of_pos_right _ g0
 have HG2 : Hid (∀ W, Num W z (n : Int) (k + k + 2) → Num W gv (g : Int) k → Calls Tryz.prog 138 #[z, gv] W fun e w' => (∃ x, e = .returned x ∧ Num w' x (l : Int) (k + k + 2)) ∧ Below W.heap.size W w') := fun W h1 h2 => by
  have h := Tryz.frGcd z gv n g (k + k + 2) k W h1 h2 (by omega) (by omega)
  rw [hl, show max (k + k + 2) k = k + k + 2 by omega] at h
  exact h
 have HF2 := Lib.hid (fun W x y => HF.out neg n l W x y hsum hl)
 clear hsum hl HF
 go_wp2_with fail
 with_reducible refine (HG2.out _ (HL9.out.num (v := z) (z := (n : Int)) (n := k + k + 2) (List.Mem.head _)) (HL9.out.num (v := gv) (z := (g : Int)) (n := k) (List.Mem.tail _ (List.Mem.tail _ (List.Mem.tail _ (List.Mem.tail _ (List.Mem.tail _ (List.Mem.head _)))))))).mono ?_
 rintro e w10 ⟨⟨lv, rfl, hlv⟩, hb10⟩
 have HL10 : Hid (Lies w w10 [(lv, (l : Int), k + k + 2), (z, (n : Int), k + k + 2), (m2, (t2 : Int), k + k + 1), (m1, (t1 : Int), k + k + 1), (v2, (o2 : Int), k + 1), (v1, (o1 : Int), k + 1), (gv, (g : Int), k), (r2, (d2 : Int), k), (p2, (n2 : Int), k), (r1, (d1 : Int), k), (p1, (n1 : Int), k)] [(u, a, k), (v, b, k)]) := (HL9.out.after hb10).addN hlv
 clear hb10 hlv HL9 HG2
 go_wp2_with fail
 with_reducible refine (Tryz.frOver z lv n l (k + k + 2) (k + k + 2) _ (HL10.out.num (v := z) (z := (n : Int)) (n := k + k + 2) (List.Mem.tail _ (List.Mem.head _))) (HL10.out.num (v := lv) (z := (l : Int)) (n := k + k + 2) (List.Mem.head _)) (by omega) l0).mono ?_
 rintro e w11 ⟨⟨y1, rfl, hy1⟩, hb11⟩
 have HL11 : Hid (Lies w w11 [(y1, ((n / l : Nat) : Int), k + k + 3), (lv, (l : Int), k + k + 2), (z, (n : Int), k + k + 2), (m2, (t2 : Int), k + k + 1), (m1, (t1 : Int), k + k + 1), (v2, (o2 : Int), k + 1), (v1, (o1 : Int), k + 1), (gv, (g : Int), k), (r2, (d2 : Int), k), (p2, (n2 : Int), k), (r1, (d1 : Int), k), (p1, (n1 : Int), k)] [(u, a, k), (v, b, k)]) := (HL10.out.after hb11).addN hy1
 clear hb11 hy1 HL10
 go_wp2_with fail
 with_reducible refine (Tryz.frOver r2 lv d2 l k (k + k + 2) _ (HL11.out.num (v := r2) (z := (d2 : Int)) (n := k) (List.Mem.tail _ (List.Mem.tail _ (List.Mem.tail _ (List.Mem.tail _ (List.Mem.tail _ (List.Mem.tail _ (List.Mem.tail _ (List.Mem.tail _ (List.Mem.head _)))))))))) (HL11.out.num (v := lv) (z := (l : Int)) (n := k + k + 2) (List.Mem.tail _ (List.Mem.head _))) (by omega) l0).mono ?_
 rintro e w12 ⟨⟨y2, rfl, hy2⟩, hb12⟩
 have HL12 : Hid (Lies w w12 [(y2, ((d2 / l : Nat) : Int), k + 1), (y1, ((n / l : Nat) : Int), k + k + 3), (lv, (l : Int), k + k + 2), (z, (n : Int), k + k + 2), (m2, (t2 : Int), k + k + 1), (m1, (t1 : Int), k + k + 1), (v2, (o2 : Int), k + 1), (v1, (o1 : Int), k + 1), (gv, (g : Int), k), (r2, (d2 : Int), k), (p2, (n2 : Int), k), (r1, (d1 : Int), k), (p1, (n1 : Int), k)] [(u, a, k), (v, b, k)]) := (HL11.out.after hb12).addN hy2
 clear hb12 hy2 HL11
 go_wp2_with fail
 with_reducible refine (Tryz.frMul v1 y2 o1 (d2 / l) (k + 1) (k + 1) _ (HL12.out.num (v := v1) (z := (o1 : Int)) (n := k + 1) (List.Mem.tail _ (List.Mem.tail _ (List.Mem.tail _ (List.Mem.tail _ (List.Mem.tail _ (List.Mem.tail _ (List.Mem.tail _ (List.Mem.head _))))))))) (HL12.out.num (v := y2) (z := ((d2 / l : Nat) : Int)) (n := k + 1) (List.Mem.head _)) (by omega) (by omega)).mono ?_
 rintro e w13 ⟨⟨y3, rfl, hy3⟩, hb13⟩
 have HL13 : Hid (Lies w w13 [(y3, ((o1 * (d2 / l) : Nat) : Int), k + k + 3), (y2, ((d2 / l : Nat) : Int), k + 1), (y1, ((n / l : Nat) : Int), k + k + 3), (lv, (l : Int), k + k + 2), (z, (n : Int), k + k + 2), (m2, (t2 : Int), k + k + 1), (m1, (t1 : Int), k + k + 1), (v2, (o2 : Int), k + 1), (v1, (o1 : Int), k + 1), (gv, (g : Int), k), (r2, (d2 : Int), k), (p2, (n2 : Int), k), (r1, (d1 : Int), k), (p1, (n1 : Int), k)] [(u, a, k), (v, b, k)]) := (HL12.out.after hb13).addN (hy3.fewer (by omega))
 clear hb13  HL12
 go_wp2_with fail
 with_reducible refine (HF2.out _ y1 y3 (HL13.out.num (v := y1) (z := ((n / l : Nat) : Int)) (n := k + k + 3) (List.Mem.tail _ (List.Mem.tail _ (List.Mem.head _)))) (HL13.out.num (v := y3) (z := ((o1 * (d2 / l) : Nat) : Int)) (n := k + k + 3) (List.Mem.head _))).mono ?_
 rintro e w14 ⟨⟨r, rfl, hr⟩, hb14⟩
 have HL14 : Hid (Lies w w14 [(y3, ((o1 * (d2 / l) : Nat) : Int), k + k + 3), (y2, ((d2 / l : Nat) : Int), k + 1), (y1, ((n / l : Nat) : Int), k + k + 3), (lv, (l : Int), k + k + 2), (z, (n : Int), k + k + 2), (m2, (t2 : Int), k + k + 1), (m1, (t1 : Int), k + k + 1), (v2, (o2 : Int), k + 1), (v1, (o1 : Int), k + 1), (gv, (g : Int), k), (r2, (d2 : Int), k), (p2, (n2 : Int), k), (r1, (d1 : Int), k), (p1, (n1 : Int), k)] [(r, a + c, k + k + 3), (u, a, k), (v, b, k)]) := (HL13.out.after hb14).addF hr
 clear hb14 hr HL13 HF2
 go_wp2
 go_ret
 exact ⟨⟨r, rfl, (HL14.out.frac (v := r) (q := a + c) (k := k + k + 3) (List.Mem.head _))⟩, HL14.out.below⟩
theorem Tryz.frSum (u v : Value) (a b c : Rat) (nb : Bool) (k : Nat) (w : World) (hu : FracIs w u a k) (hv : FracIs w v b k) (hc : c.num = sgn nb b.num.natAbs) (hd : c.den = b.den) (hk : 1 ≤ k) (hk9 : k ≤ 30000) :
 Calls Tryz.prog 87 #[u, v, .bool nb] w fun e w' => (∃ r, e = .returned r ∧ FracIs w' r (a + c) (k + k + 3)) ∧ Below w.heap.size w w' := by
 have HL0 : Hid (Lies w w [] [(u, a, k), (v, b, k)]) := ((Lies.start w).addF hv).addF hu
 have HS : Hid (∀ W, FracIs W u a k → FracIs W v b k → Calls Tryz.prog 134 #[u, v, .bool nb] W fun e w' => ShortIs (a + c) w' e ∧ Below W.heap.size W w') := fun W h1 h2 => Tryz.frShortSum u v a b c nb k k W h1 h2 hc hd
 have HN : Hid (∀ W, FracIs W u a k → FracIs W v b k → Calls Tryz.prog 135 #[u, v, .bool nb] W fun e w' => (∃ r, e = .returned r ∧ FracIs w' r (a + c) (k + k + 3)) ∧ Below W.heap.size W w') := fun W h1 h2 => Tryz.frLongSum u v a b c nb k W h1 h2 hc hd hk hk9
 clear hu hv hc hd
 go_enter Tryz.func87, Tryz.ntmps87
 go_wp2_with fail
 with_reducible refine (HS.out _ (HL0.out.frac (v := u) (q := a) (k := k) (List.Mem.head _)) (HL0.out.frac (v := v) (q := b) (k := k) (List.Mem.tail _ (List.Mem.head _)))).mono ?_
 rintro e w1 ⟨hsh, hb1⟩
 have HL1 : Hid (Lies w w1 [] [(u, a, k), (v, b, k)]) := HL0.out.after hb1
 clear hb1 HL0 HS
 rcases hsh with ⟨r, rfl, hr⟩ | rfl
 ·have HR : Hid (FracIs w1 r (a + c) (k + k + 3)) := hr.more (by omega)
  clear hr
  go_wp2
  go_ret
  exact ⟨⟨r, rfl, HR.out⟩, HL1.out.below⟩
 go_wp2_with fail
 with_reducible refine (HN.out _ (HL1.out.frac (v := u) (q := a) (k := k) (List.Mem.head _)) (HL1.out.frac (v := v) (q := b) (k := k) (List.Mem.tail _ (List.Mem.head _)))).mono ?_
 rintro e w2 ⟨⟨r, rfl, hr⟩, hb2⟩
 have HL2 : Hid (Lies w w2 [] [(r, a + c, k + k + 3), (u, a, k), (v, b, k)]) := (HL1.out.after hb2).addF hr
 clear hb2 hr HL1 HN
 go_wp2
 go_ret
 exact ⟨⟨r, rfl, (HL2.out.frac (v := r) (q := a + c) (k := k + k + 3) (List.Mem.head _))⟩, HL2.out.below⟩
theorem Tryz.frAdd (u v : Value) (a b : Rat) (k : Nat) (w : World) (hu : FracIs w u a k) (hv : FracIs w v b k) (hk : 1 ≤ k) (hk9 : k ≤ 30000) :
 Calls Tryz.prog 40 #[u, v] w fun e w' => (∃ r, e = .returned r ∧ FracIs w' r (a + b) (k + k + 3)) ∧ Below w.heap.size w w' := by
 have HL0 : Hid (Lies w w [] [(u, a, k), (v, b, k)]) := ((Lies.start w).addF hv).addF hu
 obtain ⟨s, hsg⟩ : ∃ s : Int, b.num.sign = s := ⟨_, rfl⟩
 have HSG : Hid (∀ W, FracIs W v b k → Calls Tryz.prog 64 #[v] W fun e w' => e = .returned (.int .i64 s) ∧ Below W.heap.size W w') := fun W h => by
  have := Tryz.Sign v b k W h
  rw [hsg] at this
  exact this
 have HS : Hid (∀ W, FracIs W u a k → FracIs W v b k → Calls Tryz.prog 87 #[u, v, .bool (decide (s < 0))] W fun e w' => (∃ r, e = .returned r ∧ FracIs w' r (a + b) (k + k + 3)) ∧ Below W.heap.size W w') := fun W h1 h2 => by
  have hsn : decide (s < 0) = decide (b.num < 0) := by rw [← hsg, Bool.eq_iff_iff]; simp [Int.sign_neg_iff]
  exact Tryz.frSum u v a b b (decide (s < 0)) k W h1 h2 (by rw [hsn, sgn_self]) rfl hk hk9
 clear hu hv hsg
 go_enter Tryz.func40, Tryz.ntmps40
 go_wp2_with fail
 with_reducible refine (HSG.out _ (HL0.out.frac (v := v) (q := b) (k := k) (List.Mem.tail _ (List.Mem.head _)))).mono ?_
 rintro e w1 ⟨rfl, hb1⟩
 have HL1 : Hid (Lies w w1 [] [(u, a, k), (v, b, k)]) := HL0.out.after hb1
 clear hb1  HL0 HSG
 go_wp2_with fail
 with_reducible refine (HS.out _ (HL1.out.frac (v := u) (q := a) (k := k) (List.Mem.head _)) (HL1.out.frac (v := v) (q := b) (k := k) (List.Mem.tail _ (List.Mem.head _)))).mono ?_
 rintro e w2 ⟨⟨r, rfl, hr⟩, hb2⟩
 have HL2 : Hid (Lies w w2 [] [(r, a + b, k + k + 3), (u, a, k), (v, b, k)]) := (HL1.out.after hb2).addF hr
 clear hb2 hr HL1 HS
 go_wp2
 go_ret
 exact ⟨⟨r, rfl, (HL2.out.frac (v := r) (q := a + b) (k := k + k + 3) (List.Mem.head _))⟩, HL2.out.below⟩
end Go.Proofs.Fr
