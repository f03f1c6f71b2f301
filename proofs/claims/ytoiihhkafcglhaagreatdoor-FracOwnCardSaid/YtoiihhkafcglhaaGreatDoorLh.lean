/- Quotients of rows of words: what holds in quotient of the package nat, digit by digit. Greatest common divisors by the words on top (Lehmer's way, Collins's test): what holds of the numbers. -/
import Derived.Test.YtoiihhkafcglhaaGreatDoorTd2
import Derived.Test.YtoiihhkafcglhaaGreatDoorWd3
namespace Go.Proofs.Wd
open Go.RowKit
set_option linter.unusedVariables false
/-- What holds at the head of quotient's loop: R is left of X, the words of Q from k on are digits. -/
structure QuAt (X : Int) (ys : List Int) (lq lr k : Nat) (Q R : List Int) : Prop where
  ql : Q.length = lq
  rl : R.length = lr
  qd : Dig Q
  rd : Dig R
  sum : val R + val ys * (18446744073709551616 ^ k * val (Q.drop k)) = X
  less : val R < val ys * 18446744073709551616 ^ k
theorem QuAt.step {X : Int} {ys Q R M : List Int} {lq lr k : Nat} {q : Int} (h : QuAt X ys lq lr (k + 1) Q R) (hk : k < lq) (t : Taken R ys k q M) : QuAt X ys lq lr k (Q.set k q) M := by
  have hql := h.ql
  refine ⟨by rw [List.length_set, hql], by rw [t.len, h.rl], Dig.set h.qd k t.q0 t.q1, t.dig, ?_, t.less⟩
  rw [drop_set_self Q k q (by omega), val_cons]
  have hs := h.sum
  have ht := t.sum
  rw [Int.pow_succ, Int.mul_assoc (18446744073709551616 ^ k)] at hs
  generalize (18446744073709551616 : Int) ^ k = P at *
  generalize 18446744073709551616 * val (Q.drop (k + 1)) = V at *
  have e : val ys * (P * (q + V)) = P * (q * val ys) + val ys * (P * V) := by
    rw [Int.mul_add P, Int.mul_add, Int.mul_left_comm (val ys) P q, Int.mul_comm (val ys) q]
  rw [e]; omega
/-- A divisor that is shifted until its top bit is set: its words, their number, its top word. -/
theorem normal {y s : Int} {ys L : List Int} {n : Nat} (hy : Dig ys) (ht : Top ys) (hn : ys.length = n + 1) (s0 : 0 ≤ s) (s1 : s ≤ 63) (hyt : ys.getD n 0 = y)
    (lo : 9223372036854775808 ≤ y * 2 ^ s.toNat) (hi : y * 2 ^ s.toNat + 2 ^ s.toNat ≤ 18446744073709551616) (hL : Dig L) (hT : Top L) (hv : val L = val ys * 2 ^ s.toNat) : L.length = n + 1 ∧ 9223372036854775808 ≤ L.getD n 0 := by
  have e := val_parts ys n
  rw [val_drop, hyt, List.drop_eq_nil_of_le (by omega)] at e
  simp only [val_nil, Int.mul_zero, Int.add_zero] at e
  have a := val_nonneg (hy.take n)
  have b := take_lt hy n
  have hP := pow_pos' n
  have hS : (0 : Int) < 2 ^ s.toNat := Int.pow_pos (by omega)
  generalize hSS : (2 : Int) ^ s.toNat = S at *
  have c1 : val (ys.take n) * S ≤ (18446744073709551616 ^ n - 1) * S := Int.mul_le_mul_of_nonneg_right (by omega) (by omega)
  have c2 : 0 ≤ val (ys.take n) * S := Int.mul_nonneg a (by omega)
  have c3 : val L = val (ys.take n) * S + 18446744073709551616 ^ n * (y * S) := by rw [hv, e, Int.add_mul, Int.mul_assoc]
  rw [Int.sub_mul, Int.one_mul] at c1
  have c4 : 18446744073709551616 ^ n * (9223372036854775808 : Int) ≤ 18446744073709551616 ^ n * (y * S) := Int.mul_le_mul_of_nonneg_left lo (by omega)
  have c5 : 18446744073709551616 ^ n * (y * S + S) ≤ 18446744073709551616 ^ n * 18446744073709551616 := Int.mul_le_mul_of_nonneg_left hi (by omega)
  rw [Int.mul_add] at c5
  have hlt : val L < 18446744073709551616 ^ (n + 1) := by rw [Int.pow_succ]; omega
  have hge : 18446744073709551616 ^ n ≤ val L := by omega
  have hne : L ≠ [] := fun e2 => by rw [e2] at hge; simp at hge; omega
  have h1 := top_pos hL hT hne
  have h2 := val_lt hL
  have hlen : L.length = n + 1 := by
    by_cases g : L.length ≤ n
    · have := pow_mono' g; omega
    · by_cases g2 : n + 1 ≤ L.length - 1
      · have := pow_mono' g2; omega
      · omega
  refine ⟨hlen, ?_⟩
  have f := val_parts L n
  rw [val_drop, List.drop_eq_nil_of_le (by omega)] at f
  simp only [val_nil, Int.mul_zero, Int.add_zero] at f
  have fa := take_lt hL n
  by_cases g : 9223372036854775808 ≤ L.getD n 0
  · exact g
  · exfalso
    have : 18446744073709551616 ^ n * (L.getD n 0 + 1) ≤ 18446744073709551616 ^ n * 9223372036854775808 := Int.mul_le_mul_of_nonneg_left (by omega) (by omega)
    rw [Int.mul_add, Int.mul_one] at this
    omega
/-- At the beginning the number is less than the divisor by as many words as the quotient has. -/
theorem QuAt.start {xs ys R : List Int} {n m : Nat} {s : Int} (hx : Dig xs) (hxl : xs.length = m) (hR : Dig R) (hRl : R.length = m + 1) (hRv : val R = val xs * 2 ^ s.toNat) (s0 : 0 ≤ s) (s1 : s ≤ 63)
    (hyd : Dig ys) (hyl : ys.length = n + 1) (hyt : 9223372036854775808 ≤ ys.getD n 0) (hnm : n ≤ m) : QuAt (val xs * 2 ^ s.toNat) ys (m - n) (m + 1) (m - n) (List.replicate (m - n) 0) R := by
  refine ⟨by simp, hRl, fun d hd => by rw [(List.mem_replicate.1 hd).2]; omega, hR, ?_, ?_⟩
  · rw [List.drop_eq_nil_of_le (by simp), hRv]; simp
  · have f := val_parts ys n
    rw [val_drop, List.drop_eq_nil_of_le (by omega)] at f
    simp only [val_nil, Int.mul_zero, Int.add_zero] at f
    have fa := val_nonneg (hyd.take n)
    have c1 : 18446744073709551616 ^ n * (9223372036854775808 : Int) ≤ 18446744073709551616 ^ n * ys.getD n 0 := Int.mul_le_mul_of_nonneg_left hyt (by have := pow_pos' n; omega)
    have c2 : (18446744073709551616 ^ n * (9223372036854775808 : Int)) * 18446744073709551616 ^ (m - n) ≤ val ys * 18446744073709551616 ^ (m - n) := Int.mul_le_mul_of_nonneg_right (by omega) (by have := pow_pos' (m - n); omega)
    have e : (18446744073709551616 ^ n * (9223372036854775808 : Int)) * 18446744073709551616 ^ (m - n) = 9223372036854775808 * 18446744073709551616 ^ m := by
      rw [Int.mul_comm (18446744073709551616 ^ n), Int.mul_assoc, ← Int.pow_add, show n + (m - n) = m by omega]
    have hlt := val_lt hx
    rw [hxl] at hlt
    have hS : (2 : Int) ^ s.toNat ≤ 2 ^ 63 := by
      have : (2 : Int) ^ 63 = 2 ^ s.toNat * 2 ^ (63 - s.toNat) := by rw [← Int.pow_add, show s.toNat + (63 - s.toNat) = 63 by omega]
      have h1 : (0 : Int) < 2 ^ (63 - s.toNat) := Int.pow_pos (by omega)
      have h2 : (2 : Int) ^ s.toNat * 1 ≤ 2 ^ s.toNat * 2 ^ (63 - s.toNat) := Int.mul_le_mul_of_nonneg_left (by omega) (by have : (0 : Int) < 2 ^ s.toNat := Int.pow_pos (by omega); omega)
      omega
    have hS0 : (0 : Int) < 2 ^ s.toNat := Int.pow_pos (by omega)
    have h63 : (2 : Int) ^ 63 = 9223372036854775808 := rfl
    rw [h63] at hS
    rw [hRv]
    generalize (2 : Int) ^ s.toNat = S at *
    have c3 : val xs * S < 18446744073709551616 ^ m * S := Int.mul_lt_mul_of_pos_right hlt hS0
    have c4 : 18446744073709551616 ^ m * S ≤ 18446744073709551616 ^ m * 9223372036854775808 := Int.mul_le_mul_of_nonneg_left hS (by have := pow_pos' m; omega)
    rw [Int.mul_comm (18446744073709551616 ^ m) 9223372036854775808] at c4
    omega
/-- In the end: the quotient, and the rest shifted. -/
theorem QuAt.last {X Y S : Int} {ys Q R : List Int} {lq lr : Nat} (h : QuAt (X * S) ys lq lr 0 Q R) (hY : val ys = Y * S) (hS : 0 < S) : X = val Q * Y + val R / S ∧ 0 ≤ val R / S ∧ val R / S < Y := by
  have hs := h.sum
  have hl := h.less
  simp only [List.drop_zero, Int.pow_zero, Int.one_mul, Int.mul_one] at hs hl
  have e : val R = (X - val Q * Y) * S := by
    rw [Int.sub_mul, ← hs, hY, Int.mul_right_comm, Int.mul_comm (Y * val Q) S, Int.mul_comm (val Q) Y, Int.mul_comm S]
    omega
  have e2 : val R / S = X - val Q * Y := by rw [e]; exact Int.mul_ediv_cancel _ (by omega)
  refine ⟨by omega, Int.ediv_nonneg (val_nonneg h.rd) (by omega), ?_⟩
  rw [hY] at hl
  exact Int.ediv_lt_of_lt_mul hS hl
end Go.Proofs.Wd
namespace Go.Proofs.Wd
open Go.RowKit
set_option linter.unusedVariables false
theorem gcd_mod (a b : Int) : Int.gcd b (a % b) = Int.gcd a b := by
  rw [Int.emod_def, Int.gcd_sub_mul_left_right, Int.gcd_comm]
/-- Two numbers that are made of two others, and back: the same divisors. -/
theorem gcd_uni {X Y F S a b c d : Int} (h1 : F = a * X + b * Y) (h2 : S = c * X + d * Y) (h3 : X = d * F - b * S ∨ X = b * S - d * F) (h4 : Y = a * S - c * F ∨ Y = c * F - a * S) : Int.gcd F S = Int.gcd X Y := by
  apply Nat.dvd_antisymm
  · apply Int.dvd_gcd
    · have p := Int.gcd_dvd_left F S
      have q := Int.gcd_dvd_right F S
      rcases h3 with e | e <;> rw [e]
      · exact Int.dvd_sub (Int.dvd_mul_of_dvd_right p) (Int.dvd_mul_of_dvd_right q)
      · exact Int.dvd_sub (Int.dvd_mul_of_dvd_right q) (Int.dvd_mul_of_dvd_right p)
    · have p := Int.gcd_dvd_left F S
      have q := Int.gcd_dvd_right F S
      rcases h4 with e | e <;> rw [e]
      · exact Int.dvd_sub (Int.dvd_mul_of_dvd_right q) (Int.dvd_mul_of_dvd_right p)
      · exact Int.dvd_sub (Int.dvd_mul_of_dvd_right p) (Int.dvd_mul_of_dvd_right q)
  · apply Int.dvd_gcd
    · rw [h1]; exact Int.dvd_add (Int.dvd_mul_of_dvd_right (Int.gcd_dvd_left _ _)) (Int.dvd_mul_of_dvd_right (Int.gcd_dvd_right _ _))
    · rw [h2]; exact Int.dvd_add (Int.dvd_mul_of_dvd_right (Int.gcd_dvd_left _ _)) (Int.dvd_mul_of_dvd_right (Int.gcd_dvd_right _ _))
/-- What so many X and so many Y make, the fewer taken off the more. -/
def made2 (X Y u v : Int) (e : Bool) : Int := if e then u * X - v * Y else v * Y - u * X
/-- Two rests that follow one another, both of numbers told ahead. -/
structure Good (X Y u0 v0 u1 v1 : Int) (e : Bool) : Prop where
  s0 : 0 ≤ made2 X Y u1 v1 (!e)
  lt : made2 X Y u1 v1 (!e) < made2 X Y u0 v0 e
  le : made2 X Y u0 v0 e ≤ Y
  gcd : Int.gcd (made2 X Y u0 v0 e) (made2 X Y u1 v1 (!e)) = Int.gcd X Y
theorem Good.of {X Y u0 v0 u1 v1 : Int} {e : Bool} (det : made2 v1 u1 u0 v0 e = 1) (s0 : 0 ≤ made2 X Y u1 v1 (!e)) (lt : made2 X Y u1 v1 (!e) < made2 X Y u0 v0 e) (le : made2 X Y u0 v0 e ≤ Y) : Good X Y u0 v0 u1 v1 e := by
  refine ⟨s0, lt, le, ?_⟩
  cases e with
  | true =>
    simp only [made2, Bool.not_true, if_true, Bool.false_eq_true, if_false] at *
    exact gcd_uni (a := u0) (b := -v0) (c := -u1) (d := v1) (by grind) (by grind) (.inl (by grind)) (.inl (by grind))
  | false =>
    simp only [made2, Bool.not_false, if_true, Bool.false_eq_true, if_false] at *
    exact gcd_uni (a := -u0) (b := v0) (c := u1) (d := -v1) (by grind) (by grind) (.inr (by grind)) (.inr (by grind))
/-- What holds at the head of foresee's loop. -/
structure FAt (X Y a0 b0 u0 v0 u1 v1 u2 v2 a b : Int) (e : Bool) : Prop where
  u0n : 0 ≤ u0
  v0n : 0 ≤ v0
  u1n : 0 ≤ u1
  v1n : 0 ≤ v1
  u2n : 0 ≤ u2
  v2n : 1 ≤ v2
  u0m : u0 ≤ a0
  v0m : v0 ≤ a0
  u1m : u1 ≤ a0
  v1m : v1 ≤ a0
  u2m : u2 ≤ a0
  v2m : v2 ≤ a0
  ba : b ≤ a
  bn : 0 ≤ b
  le2 : u2 ≤ v2
  le12 : u1 + u2 ≤ v1 + v2
  ea : made2 a0 b0 u1 v1 (!e) = a
  eb : made2 a0 b0 u2 v2 e = b
  det : made2 v2 u2 u1 v1 (!e) = 1
  first : v0 = 0 ∨ Good X Y u0 v0 u1 v1 e
  sec : (e = false ∧ u1 = 1 ∧ v1 = 0 ∧ u2 = 0 ∧ v2 = 1) ∨ made2 X Y u1 v1 (!e) ≤ Y
theorem FAt.start (X Y : Int) {a0 b0 : Int} (ba : b0 ≤ a0) (bn : 0 ≤ b0) (a1 : 1 ≤ a0) : FAt X Y a0 b0 0 0 1 0 0 1 a0 b0 false := by
  refine ⟨by omega, by omega, by omega, by omega, by omega, by omega, by omega, by omega, by omega, by omega, by omega, by omega, ba, bn, by omega, by omega, ?_, ?_, ?_, .inl rfl, .inl ⟨rfl, rfl, rfl, rfl, rfl⟩⟩ <;> simp [made2]
theorem FAt.whole {X Y a0 b0 u0 v0 u1 v1 u2 v2 a b : Int} {e : Bool} (h : FAt X Y a0 b0 u0 v0 u1 v1 u2 v2 a b e) : a * v2 + b * v1 = a0 := by
  have h1 := h.ea
  have h2 := h.eb
  have h3 := h.det
  clear h
  cases e <;> simp only [made2, Bool.not_true, Bool.not_false, if_true, Bool.false_eq_true, if_false] at * <;> grind
theorem mul_le {a b c d : Int} (h1 : a ≤ b) (h2 : c ≤ d) (h3 : 0 ≤ a) (h4 : 0 ≤ d) : a * c ≤ b * d :=
  Int.le_trans (Int.mul_le_mul_of_nonneg_left h2 h3) (Int.mul_le_mul_of_nonneg_right h1 h4)
/-- The sums of the test have room in a word. -/
theorem FAt.room {X Y a0 b0 u0 v0 u1 v1 u2 v2 a b : Int} {e : Bool} (h : FAt X Y a0 b0 u0 v0 u1 v1 u2 v2 a b e) (hb : v2 ≤ b) : v1 + v2 ≤ a0 := by
  have hw := h.whole
  have := h.v2n; have := h.ba; have := h.v1n; have := h.bn
  have h1 : 1 * v2 ≤ a * v2 := Int.mul_le_mul_of_nonneg_right (by omega) (by omega)
  have h2 : 1 * v1 ≤ b * v1 := Int.mul_le_mul_of_nonneg_right (by omega) (by omega)
  omega
/-- The rests of whole numbers, by those of the words on top. -/
theorem made_lead {X Y P a0 b0 xl yl u v : Int} (hX : X = a0 * P + xl) (hY : Y = b0 * P + yl) (e : Bool) : made2 X Y u v e = made2 a0 b0 u v e * P + made2 xl yl u v e := by
  subst hX hY
  cases e <;> simp only [made2, if_true, Bool.false_eq_true, if_false] <;> grind
/-- What lies below the words on top turns a rest by less than v times as much. -/
theorem made_low {P xl yl u v : Int} (x0 : 0 ≤ xl) (x1 : xl < P) (y0 : 0 ≤ yl) (y1 : yl < P) (u0 : 0 ≤ u) (uv : u ≤ v) (v1 : 1 ≤ v) (e : Bool) : -(v * P) < made2 xl yl u v e := by
  have h1 : 0 ≤ u * xl := Int.mul_nonneg u0 x0
  have h2 : 0 ≤ v * yl := Int.mul_nonneg (by omega) y0
  have h3 : u * xl ≤ v * (P - 1) := mul_le uv (by omega) u0 (by omega)
  have h4 : v * yl ≤ v * (P - 1) := Int.mul_le_mul_of_nonneg_left (by omega) (by omega)
  rw [Int.mul_sub, Int.mul_one] at h3 h4
  cases e <;> simp only [made2, if_true, Bool.false_eq_true, if_false] <;> omega
/-- Behind the test: the next rest is none below 0, and below the one ahead. -/
theorem FAt.next {X Y P a0 b0 xl yl u0 v0 u1 v1 u2 v2 a b : Int} {e : Bool} (h : FAt X Y a0 b0 u0 v0 u1 v1 u2 v2 a b e) (hX : X = a0 * P + xl) (hY : Y = b0 * P + yl) (x0 : 0 ≤ xl) (x1 : xl < P) (y0 : 0 ≤ yl) (y1 : yl < P)
    (hb : v2 ≤ b) (hab : v1 + v2 ≤ a - b) : 0 ≤ made2 X Y u2 v2 e ∧ made2 X Y u2 v2 e < made2 X Y u1 v1 (!e) := by
  have hP : 0 < P := by omega
  have l2 := made_low x0 x1 y0 y1 h.u2n h.le2 h.v2n e
  have l12 := made_low (u := u1 + u2) (v := v1 + v2) x0 x1 y0 y1 (by have := h.u1n; have := h.u2n; omega) h.le12 (by have := h.v1n; have := h.v2n; omega) (!e)
  have e2 := made_lead (u := u2) (v := v2) hX hY e
  have e1 := made_lead (u := u1) (v := v1) hX hY (!e)
  rw [h.eb] at e2
  rw [h.ea] at e1
  have s : made2 xl yl (u1 + u2) (v1 + v2) (!e) = made2 xl yl u1 v1 (!e) - made2 xl yl u2 v2 e := by
    cases e <;> simp only [made2, Bool.not_true, Bool.not_false, if_true, Bool.false_eq_true, if_false] <;> grind
  have m1 : v2 * P ≤ b * P := Int.mul_le_mul_of_nonneg_right hb (by omega)
  have m2 : (v1 + v2) * P ≤ (a - b) * P := Int.mul_le_mul_of_nonneg_right hab (by omega)
  rw [Int.sub_mul] at m2
  rw [e1, e2]
  constructor <;> omega
theorem FAt.step {X Y P a0 b0 xl yl u0 v0 u1 v1 u2 v2 a b : Int} {e : Bool} (h : FAt X Y a0 b0 u0 v0 u1 v1 u2 v2 a b e) (hX : X = a0 * P + xl) (hY : Y = b0 * P + yl) (x0 : 0 ≤ xl) (x1 : xl < P) (y0 : 0 ≤ yl) (y1 : yl < P) (hYX : Y ≤ X)
    (hb : v2 ≤ b) (hab : v1 + v2 ≤ a - b) : FAt X Y a0 b0 u1 v1 u2 v2 (u1 + a / b * u2) (v1 + a / b * v2) b (a % b) (!e) ∧ 0 ≤ a / b * u2 ∧ a / b * u2 ≤ a0 ∧ 0 ≤ a / b * v2 ∧ a / b * v2 ≤ a0 := by
  have hv2 := h.v2n
  have hu2 := h.u2n
  have hu1 := h.u1n
  have hv1 := h.v1n
  obtain ⟨n0, n1⟩ := h.next hX hY x0 x1 y0 y1 hb hab
  have hq : a = b * (a / b) + a % b := (Int.mul_ediv_add_emod a b).symm
  have hr0 := Int.emod_nonneg a (b := b) (by omega)
  have hr1 := Int.emod_lt_of_pos a (b := b) (by omega)
  have hba := h.ba
  have hw := h.whole
  have ha := h.ea
  have hbb := h.eb
  have hd := h.det
  generalize a / b = q at *
  generalize a % b = r at *
  have q1 : 1 ≤ q := by
    by_cases g : 1 ≤ q
    · exact g
    · have : b * q ≤ b * 0 := Int.mul_le_mul_of_nonneg_left (by omega) (by omega)
      omega
  have p1 : 0 ≤ q * u2 := Int.mul_nonneg (by omega) hu2
  have p2 : q * 1 ≤ q * v2 := Int.mul_le_mul_of_nonneg_left hv2 (by omega)
  have p3 : 1 * v2 ≤ q * v2 := Int.mul_le_mul_of_nonneg_right q1 (by omega)
  have p4 : q * u2 ≤ q * v2 := Int.mul_le_mul_of_nonneg_left h.le2 (by omega)
  have hnew : b * (v1 + q * v2) + r * v2 = a0 := by rw [← hw, hq]; grind
  have p5 : 1 * (v1 + q * v2) ≤ b * (v1 + q * v2) := Int.mul_le_mul_of_nonneg_right (by omega) (by omega)
  have p6 : 0 ≤ r * v2 := Int.mul_nonneg hr0 (by omega)
  have p7 : (q - 1) * u2 ≤ (q - 1) * v2 := Int.mul_le_mul_of_nonneg_left h.le2 (by omega)
  rw [Int.sub_mul, Int.sub_mul] at p7
  have hle := h.le12
  have hle2 := h.le2
  refine ⟨⟨hu1, hv1, hu2, by omega, by omega, by omega, h.u1m, h.v1m, h.u2m, h.v2m, by omega, by omega, by omega, hr0, by omega, by omega, ?_, ?_, ?_, ?_, ?_⟩, p1, by omega, by omega, by omega⟩
  · cases e <;> simp only [made2, Bool.not_true, Bool.not_false, if_true, Bool.false_eq_true, if_false] at * <;> exact hbb
  · cases e <;> simp only [made2, Bool.not_true, Bool.not_false, if_true, Bool.false_eq_true, if_false] at * <;> grind
  · cases e <;> simp only [made2, Bool.not_true, Bool.not_false, if_true, Bool.false_eq_true, if_false] at * <;> grind
  · rcases h.sec with ⟨-, -, e1, -, -⟩ | e1
    · exact .inl e1
    · refine .inr (Good.of ?_ (by rw [Bool.not_not]; exact n0) (by rw [Bool.not_not]; exact n1) e1)
      exact hd
  · right
    rw [Bool.not_not]
    rcases h.sec with ⟨e0, e1, e2, e3, e4⟩ | e1
    · subst e0 e1 e2 e3 e4; simp [made2]
    · omega
/-- The words on top, by the same shift, and what lies below them. -/
theorem lead_of {L : List Int} {n : Nat} {s : Int} (h : Dig L) (hn : L.length = n) (h2 : 2 ≤ n) (s0 : 0 ≤ s) (s1 : s ≤ 63) : ∃ xl, val L = (L.getD (n - 1) 0 * 2 ^ s.toNat + L.getD (n - 2) 0 / 2 ^ (64 - s).toNat) * (2 ^ (64 - s).toNat * 18446744073709551616 ^ (n - 2)) + xl ∧ 0 ≤ xl ∧ xl < 2 ^ (64 - s).toNat * 18446744073709551616 ^ (n - 2) := by
  obtain ⟨low, l0, l1, e⟩ := two_tops h hn h2
  have hB : (18446744073709551616 : Int) = 2 ^ s.toNat * 2 ^ (64 - s).toNat := by
    rw [← Int.pow_add, show s.toNat + (64 - s).toNat = 64 by omega]; rfl
  have hD : (0 : Int) < 2 ^ (64 - s).toNat := Int.pow_pos (by omega)
  have hP := pow_pos' (n - 2)
  have d := Int.mul_ediv_add_emod (L.getD (n - 2) 0) (2 ^ (64 - s).toNat)
  have r0 := Int.emod_nonneg (L.getD (n - 2) 0) (b := 2 ^ (64 - s).toNat) (by omega)
  have r1 := Int.emod_lt_of_pos (L.getD (n - 2) 0) (b := 2 ^ (64 - s).toNat) hD
  generalize (18446744073709551616 : Int) ^ (n - 2) = P at *
  generalize L.getD (n - 2) 0 = y at *
  generalize L.getD (n - 1) 0 = x at *
  generalize (2 : Int) ^ (64 - s).toNat = D at *
  generalize (2 : Int) ^ s.toNat = S at *
  generalize y / D = q at *
  generalize y % D = r at *
  refine ⟨low + P * r, ?_, ?_, ?_⟩
  · rw [e, hB, ← d]; grind
  · have : 0 ≤ P * r := Int.mul_nonneg (by omega) r0
    omega
  · have : P * r ≤ P * (D - 1) := Int.mul_le_mul_of_nonneg_left (by omega) (by omega)
    rw [Int.mul_sub, Int.mul_one] at this
    rw [Int.mul_comm D P]
    omega
end Go.Proofs.Wd
