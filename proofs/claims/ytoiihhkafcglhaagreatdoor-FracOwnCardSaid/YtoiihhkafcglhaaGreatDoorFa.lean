/- What over, New, Parts, Neg and Floor of the package frac return. -/
import Derived.Test.YtoiihhkafcglhaaGreatDoorFl
import Derived.Test.YtoiihhkafcglhaaGreatDoorFw
import Derived.Test.YtoiihhkafcglhaaGreatDoorGc
import Derived.Test.YtoiihhkafcglhaaGreatDoorLs
import Derived.StillTailTactics
import Derived.Lib.Hide
namespace Go.Proofs.Fr
open Go.RowKit Go.Proofs.Wd
set_option linter.unusedVariables false
set_option maxHeartbeats 4000000 in
set_option maxRecDepth 100000 in
theorem Tryz.frOver (v u : Value) (z y : Nat) (n m : Nat) (w : World) (hv : Num w v z n) (hu : Num w u y m) (hn : n ≤ 90000) (hy : 1 ≤ y) :
    Calls Tryz.prog 114 #[v, u] w fun e w' => (∃ r, e = .returned r ∧ Num w' r ((z / y : Nat) : Int) (n + 1)) ∧ Below w.heap.size w w' := by
  have HC : Hid (Calls Tryz.prog 62 #[v, u] w fun e w' => (∃ q r, e = .returned (.tuple #[q, r, .bool true]) ∧ Num w' q ((z / y : Nat) : Int) (n + 1)) ∧ Below w.heap.size w w') :=
    (Tryz.natDiv v u z y n m w hv hu hn (by omega)).mono fun e w' ⟨⟨q, r, h1, h2, _⟩, hb⟩ => ⟨⟨q, r, h1, by rw [Int.natCast_ediv]; exact h2⟩, hb⟩
  clear hv hu
  go_enter Tryz.func114, Tryz.ntmps114
  go_wp2_with fail
  with_reducible refine HC.out.mono ?_
  rintro e w1 ⟨⟨q, r, rfl, hq⟩, hb1⟩
  have HQ : Hid (Num w1 q ((z / y : Nat) : Int) (n + 1)) := hq
  have HB : Hid (Below w.heap.size w w1) := hb1
  clear hq hb1 HC
  go_wp2
  go_ret
  exact ⟨⟨q, rfl, HQ.out⟩, HB.out⟩
theorem Tryz.frGcd (v u : Value) (z y : Nat) (n m : Nat) (w : World) (hv : Num w v z n) (hu : Num w u y m) (hn : n ≤ 80000) (hm : m ≤ 80000) :
    Calls Tryz.prog 113 #[v, u] w fun e w' => (∃ r, e = .returned r ∧ Num w' r ((Nat.gcd z y : Nat) : Int) (max n m)) ∧ Below w.heap.size w w' := by
  have h := Tryz.natGcd v u z y n m w hv hu hn hm
  rw [Int.gcd_natCast_natCast] at h
  exact h
theorem Tryz.frMul (v u : Value) (z y : Nat) (n m : Nat) (w : World) (hv : Num w v z n) (hu : Num w u y m) (hn : n ≤ 100000) (hm : m ≤ 100000) :
    Calls Tryz.prog 111 #[v, u] w fun e w' => (∃ r, e = .returned r ∧ Num w' r ((z * y : Nat) : Int) (n + m)) ∧ Below w.heap.size w w' := by
  have h := Tryz.natMul v u z y n m w hv hu hn hm
  rw [← Int.natCast_mul] at h
  exact h
/-- What New tells. -/
def NewIs (neg : Bool) (n d k : Nat) (w : World) (e : Ending) : Prop :=
  (0 < d ∧ ∃ v, e = .returned (.tuple #[v, .bool true]) ∧ FracIs w v (mkRat (sgn neg n) d) (k + 1)) ∨ (d = 0 ∧ e = .returned (.tuple #[.pointer none, .bool false]))
set_option maxHeartbeats 4000000 in
set_option maxRecDepth 100000 in
theorem Tryz.frNew (neg : Bool) (p r : Value) (n d : Nat) (k : Nat) (w : World) (hp : Num w p n k) (hr : Num w r d k) (hk : k ≤ 80000) :
    Calls Tryz.prog 55 #[.bool neg, p, r] w fun e w' => NewIs neg n d k w' e ∧ Below w.heap.size w w' := by
  have HL0 : Hid (Lies w w [(p, n, k), (r, d, k)] []) := ((Lies.start w).addN hr).addN hp
  clear hp hr
  by_cases hd : d = 0
  · subst hd
    have HE : Hid (NewIs neg n 0 k w (.returned (.tuple #[.pointer none, .bool false]))) := .inr ⟨rfl, rfl⟩
    go_enter Tryz.func55, Tryz.ntmps55
    go_wp2_with fail
    with_reducible refine (Tryz.natBits r _ k _ (HL0.out.num (v := r) (z := ((0 : Nat) : Int)) (n := k) (List.Mem.tail _ (List.Mem.head _))) (by omega)).mono ?_
    rintro e w1 ⟨⟨L, hL, rfl⟩, rfl⟩
    obtain rfl : L = 0 := hL.zero.2 rfl
    clear hL
    go_wp2
    go_ret2
    exact ⟨HE.out, HL0.out.below⟩
  · have hd1 : 0 < d := by omega
    obtain ⟨g, hg⟩ : ∃ g, Nat.gcd n d = g := ⟨_, rfl⟩
    have hg1 : 1 ≤ g := by rw [← hg]; exact Nat.gcd_pos_of_pos_right _ hd1
    have HG : Hid (∀ W, Num W p n k → Num W r d k → Calls Tryz.prog 113 #[p, r] W fun e w' => (∃ x, e = .returned x ∧ Num w' x (g : Int) k) ∧ Below W.heap.size W w') := fun W h1 h2 => by
      have h := Tryz.frGcd p r n d k k W h1 h2 hk hk
      rw [hg, Nat.max_self] at h
      exact h
    obtain ⟨a, ha⟩ : ∃ a, n / g = a := ⟨_, rfl⟩
    obtain ⟨b, hb⟩ : ∃ b, d / g = b := ⟨_, rfl⟩
    have HO1 : Hid (∀ W x, Num W p n k → Num W x (g : Int) k → Calls Tryz.prog 114 #[p, x] W fun e w' => (∃ y, e = .returned y ∧ Num w' y (a : Int) (k + 1)) ∧ Below W.heap.size W w') := fun W x h1 h2 => by
      have h := Tryz.frOver p x n g k k W h1 h2 (by omega) hg1
      rw [ha] at h
      exact h
    have HO2 : Hid (∀ W x, Num W r d k → Num W x (g : Int) k → Calls Tryz.prog 114 #[r, x] W fun e w' => (∃ y, e = .returned y ∧ Num w' y (b : Int) (k + 1)) ∧ Below W.heap.size W w') := fun W x h1 h2 => by
      have h := Tryz.frOver r x d g k k W h1 h2 (by omega) hg1
      rw [hb] at h
      exact h
    have HN : Hid (∀ W x y, Num W x (a : Int) (k + 1) → Num W y (b : Int) (k + 1) → Calls Tryz.prog 64 #[.bool neg, x, y] W fun e w' => (∃ v, e = .returned v ∧ FracIs w' v (mkRat (sgn neg n) d) (k + 1)) ∧ Below W.heap.size W w') := fun W x y h1 h2 => by
      have hl := mk_low neg n hd1
      rw [hg, ha, hb] at hl
      exact Tryz.ofNats neg x y a b _ (k + 1) W h1 h2 hl.1 hl.2 (by omega)
    have HE : Hid (∀ W v, FracIs W v (mkRat (sgn neg n) d) (k + 1) → NewIs neg n d k W (.returned (.tuple #[v, .bool true]))) := fun W v h => .inl ⟨hd1, v, rfl, h⟩
    clear hg ha hb
    go_enter Tryz.func55, Tryz.ntmps55
    go_wp2_with fail
    with_reducible refine (Tryz.natBits r _ k _ (HL0.out.num (v := r) (z := (d : Int)) (n := k) (List.Mem.tail _ (List.Mem.head _))) (by omega)).mono ?_
    rintro e w1 ⟨⟨L, hL, rfl⟩, rfl⟩
    have hL0 : (L == 0) = false := by
      have := hL.zero
      simp; omega
    clear hL
    have HL1 : Hid (Lies w1 w1 [(p, (n : Int), k), (r, (d : Int), k)] []) := HL0
    clear HL0
    go_wp2_with fail
    with_reducible refine (HG.out _ (HL1.out.num (v := p) (z := (n : Int)) (n := k) (List.Mem.head _)) (HL1.out.num (v := r) (z := (d : Int)) (n := k) (List.Mem.tail _ (List.Mem.head _)))).mono ?_
    rintro e w2 ⟨⟨g1, rfl, hg1⟩, hb2⟩
    have HL2 : Hid (Lies w1 w2 [(g1, (g : Int), k), (p, (n : Int), k), (r, (d : Int), k)] []) := (HL1.out.after hb2).addN hg1
    clear hb2 hg1 HL1 HG
    go_wp2_with fail
    with_reducible refine (HO1.out _ g1 (HL2.out.num (v := p) (z := (n : Int)) (n := k) (List.Mem.tail _ (List.Mem.head _))) (HL2.out.num (v := g1) (z := (g : Int)) (n := k) (List.Mem.head _))).mono ?_
    rintro e w3 ⟨⟨a1, rfl, ha1⟩, hb3⟩
    have HL3 : Hid (Lies w1 w3 [(a1, (a : Int), k + 1), (g1, (g : Int), k), (p, (n : Int), k), (r, (d : Int), k)] []) := (HL2.out.after hb3).addN ha1
    clear hb3 ha1 HL2 HO1
    go_wp2_with fail
    with_reducible refine (HO2.out _ g1 (HL3.out.num (v := r) (z := (d : Int)) (n := k) (List.Mem.tail _ (List.Mem.tail _ (List.Mem.tail _ (List.Mem.head _))))) (HL3.out.num (v := g1) (z := (g : Int)) (n := k) (List.Mem.tail _ (List.Mem.head _)))).mono ?_
    rintro e w4 ⟨⟨b1, rfl, hb1⟩, hb4⟩
    have HL4 : Hid (Lies w1 w4 [(b1, (b : Int), k + 1), (a1, (a : Int), k + 1), (g1, (g : Int), k), (p, (n : Int), k), (r, (d : Int), k)] []) := (HL3.out.after hb4).addN hb1
    clear hb4 hb1 HL3 HO2
    go_wp2_with fail
    with_reducible refine (HN.out _ a1 b1 (HL4.out.num (v := a1) (z := (a : Int)) (n := k + 1) (List.Mem.tail _ (List.Mem.head _))) (HL4.out.num (v := b1) (z := (b : Int)) (n := k + 1) (List.Mem.head _))).mono ?_
    rintro e w5 ⟨⟨v, rfl, hv⟩, hb5⟩
    have HL5 : Hid (Lies w1 w5 [(b1, (b : Int), k + 1), (a1, (a : Int), k + 1), (g1, (g : Int), k), (p, (n : Int), k), (r, (d : Int), k)] [(v, mkRat (sgn neg n) d, k + 1)]) := (HL4.out.after hb5).addF hv
    clear hb5 hv HL4 HN
    go_wp2
    go_ret2
    exact ⟨HE.out _ v (HL5.out.frac (v := v) (q := mkRat (sgn neg n) d) (k := k + 1) (List.Mem.head _)), HL5.out.below⟩
set_option maxHeartbeats 4000000 in
set_option maxRecDepth 100000 in
theorem Tryz.frParts (v : Value) (q : Rat) (k : Nat) (w : World) (h : FracIs w v q k) (hk : 1 ≤ k) (hk9 : k ≤ 90000) :
    Calls Tryz.prog 15 #[v] w fun e w' => (∃ p r, e = .returned (.tuple #[.bool (decide (q.num < 0)), p, r]) ∧ Num w' p (q.num.natAbs : Int) (k + 1) ∧ Num w' r (q.den : Int) (k + 1)) ∧ Below w.heap.size w w' := by
  have HL0 : Hid (Lies w w [] [(v, q, k)]) := (Lies.start w).addF h
  obtain ⟨n, hn⟩ : ∃ n : Int, (q.num.natAbs : Int) = n := ⟨_, rfl⟩
  obtain ⟨d, hd⟩ : ∃ d : Int, (q.den : Int) = d := ⟨_, rfl⟩
  obtain ⟨s, hs⟩ : ∃ s : Int, q.num.sign = s := ⟨_, rfl⟩
  have HS : Hid (decide (q.num < 0) = decide (s < 0)) := by
    show _ = _
    rw [← hs, Bool.eq_iff_iff]; simp [Int.sign_neg_iff]
  have HN : Hid (∀ W, FracIs W v q k → Calls Tryz.prog 48 #[v] W fun e w' => (∃ p r, e = .returned (.tuple #[p, r]) ∧ Num w' p n k ∧ Num w' r d k) ∧ Below W.heap.size W w') := fun W h => by
    have := Tryz.nats v q k W h hk
    rw [hn, hd] at this
    exact this
  have HG : Hid (∀ W, FracIs W v q k → Calls Tryz.prog 49 #[v] W fun e w' => e = .returned (.int .i64 s) ∧ Below W.heap.size W w') := fun W h => by
    have := Tryz.Sign v q k W h
    rw [hs] at this
    exact this
  have HA : Hid (∀ W x z, Num W x z k → Calls Tryz.prog 16 #[x, .pointer none] W fun e w' => (∃ y, e = .returned y ∧ Num w' y z (k + 1)) ∧ Below W.heap.size W w') := fun W x z h => by
    have := Tryz.natAdd x (.pointer none) z 0 k 0 W h (num_none W 0) (by omega) (by omega)
    rw [Int.add_zero, Nat.max_eq_left (Nat.zero_le k)] at this
    exact this
  rw [hn, hd, HS.out]
  clear hn hd hs h HS
  go_enter Tryz.func15, Tryz.ntmps15
  go_wp2_with fail
  with_reducible refine (HN.out _ (HL0.out.frac (v := v) (q := q) (k := k) (List.Mem.head _))).mono ?_
  rintro e w1 ⟨⟨p, r, rfl, hp, hr⟩, hb1⟩
  have HL1 : Hid (Lies w w1 [(r, d, k), (p, n, k)] [(v, q, k)]) := ((HL0.out.after hb1).addN hp).addN hr
  clear hb1 hp hr HL0 HN
  go_wp2_with fail
  with_reducible refine (HG.out _ (HL1.out.frac (v := v) (q := q) (k := k) (List.Mem.head _))).mono ?_
  rintro e w2 ⟨rfl, hb2⟩
  have HL2 : Hid (Lies w w2 [(r, d, k), (p, n, k)] [(v, q, k)]) := HL1.out.after hb2
  clear hb2  HL1 HG
  go_wp2_with fail
  with_reducible refine (HA.out _ p n (HL2.out.num (v := p) (z := n) (n := k) (List.Mem.tail _ (List.Mem.head _)))).mono ?_
  rintro e w3 ⟨⟨p1, rfl, hp1⟩, hb3⟩
  have HL3 : Hid (Lies w w3 [(p1, n, k + 1), (r, d, k), (p, n, k)] [(v, q, k)]) := (HL2.out.after hb3).addN hp1
  clear hb3 hp1 HL2 
  go_wp2_with fail
  with_reducible refine (HA.out _ r d (HL3.out.num (v := r) (z := d) (n := k) (List.Mem.tail _ (List.Mem.head _)))).mono ?_
  rintro e w4 ⟨⟨r1, rfl, hr1⟩, hb4⟩
  have HL4 : Hid (Lies w w4 [(r1, d, k + 1), (p1, n, k + 1), (r, d, k), (p, n, k)] [(v, q, k)]) := (HL3.out.after hb4).addN hr1
  clear hb4 hr1 HL3 HA
  go_wp2
  go_ret3
  exact ⟨⟨p1, r1, rfl, (HL4.out.num (v := p1) (z := n) (n := k + 1) (List.Mem.tail _ (List.Mem.head _))), (HL4.out.num (v := r1) (z := d) (n := k + 1) (List.Mem.head _))⟩, HL4.out.below⟩
set_option maxHeartbeats 4000000 in
set_option maxRecDepth 100000 in
theorem Tryz.frFloor (v : Value) (q : Rat) (k : Nat) (w : World) (h : FracIs w v q k) (hk : 1 ≤ k) (hk9 : k ≤ 80000) :
    Calls Tryz.prog 20 #[v] w fun e w' => (∃ u r, e = .returned u ∧ FracIs w' u r (k + 2)) ∧ Below w.heap.size w w' := by
  have HL0 : Hid (Lies w w [] [(v, q, k)]) := (Lies.start w).addF h
  obtain ⟨n, hn⟩ : ∃ n : Nat, q.num.natAbs = n := ⟨_, rfl⟩
  obtain ⟨d, hd⟩ : ∃ d : Nat, q.den = d := ⟨_, rfl⟩
  have hd1 : 1 ≤ d := by have := q.den_pos; omega
  obtain ⟨s, hs⟩ : ∃ s : Int, q.num.sign = s := ⟨_, rfl⟩
  have HN : Hid (∀ W, FracIs W v q k → Calls Tryz.prog 48 #[v] W fun e w' => (∃ p r, e = .returned (.tuple #[p, r]) ∧ Num w' p (n : Int) k ∧ Num w' r (d : Int) k) ∧ Below W.heap.size W w') := fun W h => by
    have := Tryz.nats v q k W h hk
    rw [hn, hd] at this
    exact this
  have HG : Hid (∀ W, FracIs W v q k → Calls Tryz.prog 49 #[v] W fun e w' => e = .returned (.int .i64 s) ∧ Below W.heap.size W w') := fun W h => by
    have := Tryz.Sign v q k W h
    rw [hs] at this
    exact this
  obtain ⟨a, ha⟩ : ∃ a : Nat, n / d = a := ⟨_, rfl⟩
  obtain ⟨b, hb⟩ : ∃ b : Nat, n % d = b := ⟨_, rfl⟩
  have HD : Hid (∀ W x y, Num W x (n : Int) k → Num W y (d : Int) k → Calls Tryz.prog 62 #[x, y] W fun e w' => (∃ p r, e = .returned (.tuple #[p, r, .bool true]) ∧ Num w' p (a : Int) (k + 1) ∧ Num w' r (b : Int) (k + 1)) ∧ Below W.heap.size W w') := fun W x y h1 h2 => by
    have := Tryz.natDiv x y n d k k W h1 h2 (by omega) (by omega)
    rw [← Int.natCast_ediv, ← Int.natCast_emod, ha, hb] at this
    exact this
  have HA : Hid (∀ W x u, Num W x (a : Int) (k + 1) → Num W u 1 1 → Calls Tryz.prog 16 #[x, u] W fun e w' => (∃ y, e = .returned y ∧ Num w' y ((a + 1 : Nat) : Int) (k + 2)) ∧ Below W.heap.size W w') := fun W x u h h2 => by
    have := Tryz.natAdd x u a 1 (k + 1) 1 W h h2 (by omega) (by omega)
    rw [show max (k + 1) 1 + 1 = k + 2 by omega] at this
    exact this
  have HO : Hid (∀ W (b : Bool) x u (c : Nat), Num W x (c : Int) (k + 2) → Num W u 1 1 → Calls Tryz.prog 64 #[.bool b, x, u] W fun e w' => (∃ v r, e = .returned v ∧ FracIs w' v r (k + 2)) ∧ Below W.heap.size W w') := fun W b x u c h1 h2 => by
    refine (Tryz.ofNats b x u c 1 ((sgn b c : Int) : Rat) (k + 2) W h1 (h2.fewer (by omega)) (by simp) (by simp) (by omega)).mono ?_
    rintro e w' ⟨⟨v, rfl, hv⟩, hb⟩
    exact ⟨⟨v, _, rfl, hv⟩, hb⟩
  have HB0 : Hid (BitsIs (b : Int) 0 → b = 0) := fun h => by have := h.zero; omega
  clear hn hd hs ha hb h
  go_enter Tryz.func20, Tryz.ntmps20
  go_wp2_with fail
  with_reducible refine (HN.out _ (HL0.out.frac (v := v) (q := q) (k := k) (List.Mem.head _))).mono ?_
  rintro e w1 ⟨⟨p, r, rfl, hp, hr⟩, hb1⟩
  have HL1 : Hid (Lies w w1 [(r, (d : Int), k), (p, (n : Int), k)] [(v, q, k)]) := ((HL0.out.after hb1).addN hp).addN hr
  clear hb1 hp hr HL0 HN
  go_wp2_with fail
  with_reducible refine (HD.out _ p r (HL1.out.num (v := p) (z := (n : Int)) (n := k) (List.Mem.tail _ (List.Mem.head _))) (HL1.out.num (v := r) (z := (d : Int)) (n := k) (List.Mem.head _))).mono ?_
  rintro e w2 ⟨⟨c, f, rfl, hc, hf⟩, hb2⟩
  have HL2 : Hid (Lies w w2 [(f, (b : Int), k + 1), (c, (a : Int), k + 1), (r, (d : Int), k), (p, (n : Int), k)] [(v, q, k)]) := ((HL1.out.after hb2).addN hc).addN hf
  clear hb2 hc hf HL1 HD
  go_wp2_with fail
  with_reducible refine (HG.out _ (HL2.out.frac (v := v) (q := q) (k := k) (List.Mem.head _))).mono ?_
  rintro e w3 ⟨rfl, hb3⟩
  have HL3 : Hid (Lies w w3 [(f, (b : Int), k + 1), (c, (a : Int), k + 1), (r, (d : Int), k), (p, (n : Int), k)] [(v, q, k)]) := HL2.out.after hb3
  clear hb3  HL2 
  by_cases hs : s < 0
  · skip
    go_wp2_with fail
    with_reducible refine (Tryz.natBits f _ (k + 1) _ (HL3.out.num (v := f) (z := (b : Int)) (n := k + 1) (List.Mem.head _)) (by omega)).mono ?_
    rintro e wL ⟨⟨L, hL, rfl⟩, rfl⟩
    have hl0 := hL.lo
    clear hL
    by_cases hL0 : 0 < L
    · skip
      go_wp2_with fail
      with_reducible refine (Tryz.natOf 1 _ (by omega) (by omega)).mono ?_
      rintro e w4 ⟨⟨o1, rfl, ho1⟩, hb4⟩
      have HL4 : Hid (Lies w w4 [(o1, 1, 1), (f, (b : Int), k + 1), (c, (a : Int), k + 1), (r, (d : Int), k), (p, (n : Int), k)] [(v, q, k)]) := (HL3.out.after hb4).addN ho1
      clear hb4 ho1 HL3 
      go_wp2_with fail
      with_reducible refine (HA.out _ c o1 (HL4.out.num (v := c) (z := (a : Int)) (n := k + 1) (List.Mem.tail _ (List.Mem.tail _ (List.Mem.head _)))) (HL4.out.num (v := o1) (z := 1) (n := 1) (List.Mem.head _))).mono ?_
      rintro e w5 ⟨⟨c1, rfl, hc1⟩, hb5⟩
      have HL5 : Hid (Lies w w5 [(c1, ((a + 1 : Nat) : Int), k + 2), (o1, 1, 1), (f, (b : Int), k + 1), (c, (a : Int), k + 1), (r, (d : Int), k), (p, (n : Int), k)] [(v, q, k)]) := (HL4.out.after hb5).addN hc1
      clear hb5 hc1 HL4 HA
      go_wp2_with fail
      with_reducible refine (HG.out _ (HL5.out.frac (v := v) (q := q) (k := k) (List.Mem.head _))).mono ?_
      rintro e w6 ⟨rfl, hb6⟩
      have HL6 : Hid (Lies w w6 [(c1, ((a + 1 : Nat) : Int), k + 2), (o1, 1, 1), (f, (b : Int), k + 1), (c, (a : Int), k + 1), (r, (d : Int), k), (p, (n : Int), k)] [(v, q, k)]) := HL5.out.after hb6
      clear hb6  HL5 HG
      go_wp2_with fail
      with_reducible refine (Tryz.natOf 1 _ (by omega) (by omega)).mono ?_
      rintro e w7 ⟨⟨o, rfl, ho⟩, hb7⟩
      have HL7 : Hid (Lies w w7 [(o, 1, 1), (c1, ((a + 1 : Nat) : Int), k + 2), (o1, 1, 1), (f, (b : Int), k + 1), (c, (a : Int), k + 1), (r, (d : Int), k), (p, (n : Int), k)] [(v, q, k)]) := (HL6.out.after hb7).addN ho
      clear hb7 ho HL6 
      go_wp2_with fail
      with_reducible refine (HO.out _ _ c1 o (a + 1) ((HL7.out.num (v := c1) (z := ((a + 1 : Nat) : Int)) (n := k + 2) (List.Mem.tail _ (List.Mem.head _)))) (HL7.out.num (v := o) (z := 1) (n := 1) (List.Mem.head _))).mono ?_
      rintro e w8 ⟨⟨g, t, rfl, hg⟩, hb8⟩
      have HL8 : Hid (Lies w w8 [(o, 1, 1), (c1, ((a + 1 : Nat) : Int), k + 2), (o1, 1, 1), (f, (b : Int), k + 1), (c, (a : Int), k + 1), (r, (d : Int), k), (p, (n : Int), k)] [(g, t, k + 2), (v, q, k)]) := (HL7.out.after hb8).addF hg
      clear hb8 hg HL7 HO
      go_wp2
      go_ret
      exact ⟨⟨g, t, rfl, (HL8.out.frac (v := g) (q := t) (k := k + 2) (List.Mem.head _))⟩, HL8.out.below⟩
    · skip
      go_wp2_with fail
      with_reducible refine (HG.out _ (HL3.out.frac (v := v) (q := q) (k := k) (List.Mem.head _))).mono ?_
      rintro e w4 ⟨rfl, hb4⟩
      have HL4 : Hid (Lies w w4 [(f, (b : Int), k + 1), (c, (a : Int), k + 1), (r, (d : Int), k), (p, (n : Int), k)] [(v, q, k)]) := HL3.out.after hb4
      clear hb4  HL3 HG
      go_wp2_with fail
      with_reducible refine (Tryz.natOf 1 _ (by omega) (by omega)).mono ?_
      rintro e w5 ⟨⟨o, rfl, ho⟩, hb5⟩
      have HL5 : Hid (Lies w w5 [(o, 1, 1), (f, (b : Int), k + 1), (c, (a : Int), k + 1), (r, (d : Int), k), (p, (n : Int), k)] [(v, q, k)]) := (HL4.out.after hb5).addN ho
      clear hb5 ho HL4 
      go_wp2_with fail
      with_reducible refine (HO.out _ _ c o a ((HL5.out.num (v := c) (z := (a : Int)) (n := k + 1) (List.Mem.tail _ (List.Mem.tail _ (List.Mem.head _)))).fewer (by omega)) (HL5.out.num (v := o) (z := 1) (n := 1) (List.Mem.head _))).mono ?_
      rintro e w6 ⟨⟨g, t, rfl, hg⟩, hb6⟩
      have HL6 : Hid (Lies w w6 [(o, 1, 1), (f, (b : Int), k + 1), (c, (a : Int), k + 1), (r, (d : Int), k), (p, (n : Int), k)] [(g, t, k + 2), (v, q, k)]) := (HL5.out.after hb6).addF hg
      clear hb6 hg HL5 HO
      go_wp2
      go_ret
      exact ⟨⟨g, t, rfl, (HL6.out.frac (v := g) (q := t) (k := k + 2) (List.Mem.head _))⟩, HL6.out.below⟩
  · skip
    go_wp2_with fail
    with_reducible refine (HG.out _ (HL3.out.frac (v := v) (q := q) (k := k) (List.Mem.head _))).mono ?_
    rintro e w4 ⟨rfl, hb4⟩
    have HL4 : Hid (Lies w w4 [(f, (b : Int), k + 1), (c, (a : Int), k + 1), (r, (d : Int), k), (p, (n : Int), k)] [(v, q, k)]) := HL3.out.after hb4
    clear hb4  HL3 HG
    go_wp2_with fail
    with_reducible refine (Tryz.natOf 1 _ (by omega) (by omega)).mono ?_
    rintro e w5 ⟨⟨o, rfl, ho⟩, hb5⟩
    have HL5 : Hid (Lies w w5 [(o, 1, 1), (f, (b : Int), k + 1), (c, (a : Int), k + 1), (r, (d : Int), k), (p, (n : Int), k)] [(v, q, k)]) := (HL4.out.after hb5).addN ho
    clear hb5 ho HL4 
    go_wp2_with fail
    with_reducible refine (HO.out _ _ c o a ((HL5.out.num (v := c) (z := (a : Int)) (n := k + 1) (List.Mem.tail _ (List.Mem.tail _ (List.Mem.head _)))).fewer (by omega)) (HL5.out.num (v := o) (z := 1) (n := 1) (List.Mem.head _))).mono ?_
    rintro e w6 ⟨⟨g, t, rfl, hg⟩, hb6⟩
    have HL6 : Hid (Lies w w6 [(o, 1, 1), (f, (b : Int), k + 1), (c, (a : Int), k + 1), (r, (d : Int), k), (p, (n : Int), k)] [(g, t, k + 2), (v, q, k)]) := (HL5.out.after hb6).addF hg
    clear hb6 hg HL5 HO
    go_wp2
    go_ret
    exact ⟨⟨g, t, rfl, (HL6.out.frac (v := g) (q := t) (k := k + 2) (List.Mem.head _))⟩, HL6.out.below⟩
set_option maxHeartbeats 4000000 in
set_option maxRecDepth 100000 in
theorem Tryz.frNeg (v : Value) (q : Rat) (k : Nat) (w : World) (h : FracIs w v q k) (hk : 1 ≤ k) :
    Calls Tryz.prog 19 #[v] w fun e w' => (∃ u, e = .returned u ∧ FracIs w' u (-q) k) ∧ Below w.heap.size w w' := by
  by_cases hz : q.num = 0
  · have HS : Hid (Calls Tryz.prog 49 #[v] w fun e w' => e = .returned (.int .i64 0) ∧ Below w.heap.size w w') := by
      have := Tryz.Sign v q k w h
      rw [hz] at this
      exact this
    have HO : Hid (∀ W, Calls Tryz.prog 28 #[.int .i64 0] W fun e w' => (∃ v, e = .returned v ∧ FracIs w' v (-q) k) ∧ Below W.heap.size W w') := fun W => by
      refine (Tryz.Of 0 W (by omega) (by omega)).mono ?_
      rintro e w' ⟨⟨u, rfl, hu⟩, hb⟩
      refine ⟨⟨u, rfl, frac_at hu ?_ hk⟩, hb⟩
      rw [Rat.num_eq_zero.1 hz]; rfl
    clear h hz
    go_enter Tryz.func19, Tryz.ntmps19
    go_wp2_with fail
    with_reducible refine HS.out.mono ?_
    rintro e w1 ⟨rfl, hb1⟩
    have HB1 : Hid (Below w.heap.size w w1) := hb1
    clear hb1 HS
    go_wp2_with fail
    with_reducible refine (HO.out _).mono ?_
    rintro e w2 ⟨⟨u, rfl, hu⟩, hb2⟩
    have HU : Hid (FracIs w2 u (-q) k) := hu
    have HB2 : Hid (Below w.heap.size w w2) := Below.after HB1.out hb2
    clear hu hb2 HB1 HO
    go_wp2
    go_ret
    exact ⟨⟨u, rfl, HU.out⟩, HB2.out⟩
  · obtain ⟨a, rfl, ha⟩ := h.resolve_left (fun g => hz (by rw [g.2]; rfl))
    obtain ⟨s, hs⟩ : ∃ s : Int, q.num.sign = s := ⟨_, rfl⟩
    have hs0 : (s == 0) = false := by
      rw [← hs]; simpa using hz
    have HS : Hid (Calls Tryz.prog 49 #[.pointer (some ⟨a, 0, none⟩)] w fun e w' => e = .returned (.int .i64 s) ∧ Below w.heap.size w w') := by
      have := Tryz.Sign (.pointer (some ⟨a, 0, none⟩)) q k w (.inr ⟨a, rfl, ha⟩)
      rw [hs] at this
      exact this
    clear hs
    go_enter Tryz.func19, Tryz.ntmps19
    go_wp2_with fail
    with_reducible refine HS.out.mono ?_
    rintro e w1 ⟨rfl, hb1⟩
    have HB1 : Hid (Below w.heap.size w w1) := hb1
    have HA1 : Hid (FracAt w1 a q k) := ha.below hb1
    clear hb1 HS
    obtain ⟨b, hb⟩ : ∃ b : Bool, decide (q.num < 0) = b := ⟨_, rfl⟩
    obtain ⟨n, d, l, c0, c1, c2, c3, HM⟩ : ∃ (n d : Int) (l : Option Addr), w1.cell? ⟨a, 0, none⟩ = some (.bool b) ∧ w1.cell? ⟨a, 1, none⟩ = some (.int .u64 n) ∧ w1.cell? ⟨a, 2, none⟩ = some (.int .u64 d) ∧ w1.cell? ⟨a, 3, none⟩ = some (.pointer l) ∧
        Hid (∀ W, Below w1.heap.size w1 W → FracIs (W.alloc (.cells #[.bool (!b), .int .u64 n, .int .u64 d, .pointer l] 97)) (.pointer (some ⟨W.heap.size, 0, none⟩)) (-q) k) := by
      obtain ⟨h1, h2, h3⟩ := HA1.out
      rw [hb] at h2
      have e0 : decide ((-q).num < 0) = !b := by
        rw [← hb, Rat.neg_num]
        by_cases h : q.num < 0
        · rw [decide_eq_true h, decide_eq_false (by omega)]; rfl
        · rw [decide_eq_false h, decide_eq_true (by omega)]; rfl
      rcases h3 with ⟨g1, g2, g3, g4⟩ | ⟨g1, g2, g3, b', p, r, g4, g5, g6, g7, g8, g9⟩
      · refine ⟨_, _, _, h2, g2, g3, g4, fun W hW => .inr ⟨_, rfl, by simp, ?_, .inl ⟨?_, ?_, ?_, ?_⟩⟩⟩
        · rw [e0]; simp
        · unfold Short; rw [Rat.neg_num, Rat.neg_den, Int.natAbs_neg]; exact g1
        · rw [Rat.neg_num, Int.natAbs_neg]; simp
        · rw [Rat.neg_den]; simp
        · simp
      · refine ⟨_, _, _, h2, g2, g3, g4, fun W hW => ?_⟩
        have hb2 := (Below.refl W.heap.size W).alloc (Nat.le_refl _) (.cells #[.bool (!b), .int .u64 0, .int .u64 0, .pointer (some ⟨b', 0, none⟩)] 97)
        have hs := hW.size
        refine .inr ⟨_, rfl, by simp, ?_, .inr ⟨?_, ?_, ?_, b', p, r, ?_, by simp; omega, ?_, ?_, ?_, ?_⟩⟩
        · rw [e0]; simp
        · unfold Short; rw [Rat.neg_num, Rat.neg_den, Int.natAbs_neg]; exact g1
        · simp
        · simp
        · simp
        · rw [hb2.cell (by simp; omega), hW.cell g5]; exact g6
        · rw [hb2.cell (by simp; omega), hW.cell g5]; exact g7
        · rw [Rat.neg_num, Int.natAbs_neg]; exact (g8.below hW (Nat.le_refl _)).below hb2 (Nat.le_refl _)
        · rw [Rat.neg_den]; exact (g9.below hW (Nat.le_refl _)).below hb2 (Nat.le_refl _)
    have hbd : ∀ (x : Bool) (n d : Int) (l : Option Addr) (w : World), (Instr.build 97 #[(0, .bool x), (1, .int .u64 n), (2, .int .u64 d), (3, .pointer l)]).run Tryz.prog w = .ok (.agg #[.bool x, .int .u64 n, .int .u64 d, .pointer l]) w := fun x n d l w => run_build w 97 _ _ (by kernel_rfl)
    clear ha hb HA1 hz
    cases b
    all_goals
      go_wp2
      go_still_tail 18, (by kernel_rfl)
      repeat still_step
      try refine wpStill_nil ?_
      change wpList _ _ _ _ _ w1.drew
      have HM2 := Lib.hid (HM.out w1.drew (Below.refl _ _).drew)
      have HB2 := Lib.hid HB1.out.drew
      clear HM HB1 c0 c1 c2 c3
      generalize w1.drew = w2 at *
      go_wp2
      go_ret
      exact ⟨⟨_, rfl, HM2.out⟩, HB2.out.alloc HB2.out.size _⟩
end Go.Proofs.Fr
