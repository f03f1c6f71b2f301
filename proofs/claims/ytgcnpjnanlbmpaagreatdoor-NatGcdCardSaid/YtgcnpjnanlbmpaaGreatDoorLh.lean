/- Greatest common divisors by the words on top (Lehmer's way, Collins's test): what holds of the numbers. -/
import Derived.Test.YtgcnpjnanlbmpaaGreatDoorQt
namespace Go.Proofs.Wd
open Go.RowKit
set_option linter.unusedVariables false
theorem gcd_mod (a b : Int) : Int.gcd b (a % b) = Int.gcd a b := by
  rw [Int.emod_def, Int.gcd_sub_mul_left_right, Int.gcd_comm]
/-- Two numbers that are made of two others, and back: the same divisors. -/
theorem gcd_uni {X Y F S a b c d : Int} (h1 : F = a * X + b * Y) (h2 : S = c * X + d * Y) (h3 : X = d * F - b * S ∨ X = b * S - d * F) (h4 : Y = a * S - c * F ∨ Y = c * F - a * S) : Int.gcd F S = Int.gcd X Y := by
  apply Nat.dvd_antisymm
  · apply Int.dvd_gcd
    · have p := Int.gcd_dvd_left F S
      have q := Int.gcd_dvd_right F S
      rcases h3 with e | e <;> rw [e]
      · exact Int.dvd_sub (Int.dvd_mul_of_dvd_right p) (Int.dvd_mul_of_dvd_right q)
      · exact Int.dvd_sub (Int.dvd_mul_of_dvd_right q) (Int.dvd_mul_of_dvd_right p)
    · have p := Int.gcd_dvd_left F S
      have q := Int.gcd_dvd_right F S
      rcases h4 with e | e <;> rw [e]
      · exact Int.dvd_sub (Int.dvd_mul_of_dvd_right q) (Int.dvd_mul_of_dvd_right p)
      · exact Int.dvd_sub (Int.dvd_mul_of_dvd_right p) (Int.dvd_mul_of_dvd_right q)
  · apply Int.dvd_gcd
    · rw [h1]; exact Int.dvd_add (Int.dvd_mul_of_dvd_right (Int.gcd_dvd_left _ _)) (Int.dvd_mul_of_dvd_right (Int.gcd_dvd_right _ _))
    · rw [h2]; exact Int.dvd_add (Int.dvd_mul_of_dvd_right (Int.gcd_dvd_left _ _)) (Int.dvd_mul_of_dvd_right (Int.gcd_dvd_right _ _))
/-- What so many X and so many Y make, the fewer taken off the more. -/
def made2 (X Y u v : Int) (e : Bool) : Int := if e then u * X - v * Y else v * Y - u * X
/-- Two rests that follow one another, both of numbers told ahead. -/
structure Good (X Y u0 v0 u1 v1 : Int) (e : Bool) : Prop where
  s0 : 0 ≤ made2 X Y u1 v1 (!e)
  lt : made2 X Y u1 v1 (!e) < made2 X Y u0 v0 e
  le : made2 X Y u0 v0 e ≤ Y
  gcd : Int.gcd (made2 X Y u0 v0 e) (made2 X Y u1 v1 (!e)) = Int.gcd X Y
theorem Good.of {X Y u0 v0 u1 v1 : Int} {e : Bool} (det : made2 v1 u1 u0 v0 e = 1) (s0 : 0 ≤ made2 X Y u1 v1 (!e)) (lt : made2 X Y u1 v1 (!e) < made2 X Y u0 v0 e) (le : made2 X Y u0 v0 e ≤ Y) : Good X Y u0 v0 u1 v1 e := by
  refine ⟨s0, lt, le, ?_⟩
  cases e with
  | true =>
    simp only [made2, Bool.not_true, if_true, Bool.false_eq_true, if_false] at *
    exact gcd_uni (a := u0) (b := -v0) (c := -u1) (d := v1) (by grind) (by grind) (.inl (by grind)) (.inl (by grind))
  | false =>
    simp only [made2, Bool.not_false, if_true, Bool.false_eq_true, if_false] at *
    exact gcd_uni (a := -u0) (b := v0) (c := u1) (d := -v1) (by grind) (by grind) (.inr (by grind)) (.inr (by grind))
/-- What holds at the head of foresee's loop. -/
structure FAt (X Y a0 b0 u0 v0 u1 v1 u2 v2 a b : Int) (e : Bool) : Prop where
  u0n : 0 ≤ u0
  v0n : 0 ≤ v0
  u1n : 0 ≤ u1
  v1n : 0 ≤ v1
  u2n : 0 ≤ u2
  v2n : 1 ≤ v2
  u0m : u0 ≤ a0
  v0m : v0 ≤ a0
  u1m : u1 ≤ a0
  v1m : v1 ≤ a0
  u2m : u2 ≤ a0
  v2m : v2 ≤ a0
  ba : b ≤ a
  bn : 0 ≤ b
  le2 : u2 ≤ v2
  le12 : u1 + u2 ≤ v1 + v2
  ea : made2 a0 b0 u1 v1 (!e) = a
  eb : made2 a0 b0 u2 v2 e = b
  det : made2 v2 u2 u1 v1 (!e) = 1
  first : v0 = 0 ∨ Good X Y u0 v0 u1 v1 e
  sec : (e = false ∧ u1 = 1 ∧ v1 = 0 ∧ u2 = 0 ∧ v2 = 1) ∨ made2 X Y u1 v1 (!e) ≤ Y
theorem FAt.start (X Y : Int) {a0 b0 : Int} (ba : b0 ≤ a0) (bn : 0 ≤ b0) (a1 : 1 ≤ a0) : FAt X Y a0 b0 0 0 1 0 0 1 a0 b0 false := by
  refine ⟨by omega, by omega, by omega, by omega, by omega, by omega, by omega, by omega, by omega, by omega, by omega, by omega, ba, bn, by omega, by omega, ?_, ?_, ?_, .inl rfl, .inl ⟨rfl, rfl, rfl, rfl, rfl⟩⟩ <;> simp [made2]
theorem FAt.whole {X Y a0 b0 u0 v0 u1 v1 u2 v2 a b : Int} {e : Bool} (h : FAt X Y a0 b0 u0 v0 u1 v1 u2 v2 a b e) : a * v2 + b * v1 = a0 := by
  have h1 := h.ea
  have h2 := h.eb
  have h3 := h.det
  clear h
  cases e <;> simp only [made2, Bool.not_true, Bool.not_false, if_true, Bool.false_eq_true, if_false] at * <;> grind
theorem mul_le {a b c d : Int} (h1 : a ≤ b) (h2 : c ≤ d) (h3 : 0 ≤ a) (h4 : 0 ≤ d) : a * c ≤ b * d :=
  Int.le_trans (Int.mul_le_mul_of_nonneg_left h2 h3) (Int.mul_le_mul_of_nonneg_right h1 h4)
/-- The sums of the test have room in a word. -/
theorem FAt.room {X Y a0 b0 u0 v0 u1 v1 u2 v2 a b : Int} {e : Bool} (h : FAt X Y a0 b0 u0 v0 u1 v1 u2 v2 a b e) (hb : v2 ≤ b) : v1 + v2 ≤ a0 := by
  have hw := h.whole
  have := h.v2n; have := h.ba; have := h.v1n; have := h.bn
  have h1 : 1 * v2 ≤ a * v2 := Int.mul_le_mul_of_nonneg_right (by omega) (by omega)
  have h2 : 1 * v1 ≤ b * v1 := Int.mul_le_mul_of_nonneg_right (by omega) (by omega)
  omega
/-- The rests of whole numbers, by those of the words on top. -/
theorem made_lead {X Y P a0 b0 xl yl u v : Int} (hX : X = a0 * P + xl) (hY : Y = b0 * P + yl) (e : Bool) : made2 X Y u v e = made2 a0 b0 u v e * P + made2 xl yl u v e := by
  subst hX hY
  cases e <;> simp only [made2, if_true, Bool.false_eq_true, if_false] <;> grind
/-- What lies below the words on top turns a rest by less than v times as much. -/
theorem made_low {P xl yl u v : Int} (x0 : 0 ≤ xl) (x1 : xl < P) (y0 : 0 ≤ yl) (y1 : yl < P) (u0 : 0 ≤ u) (uv : u ≤ v) (v1 : 1 ≤ v) (e : Bool) : -(v * P) < made2 xl yl u v e := by
  have h1 : 0 ≤ u * xl := Int.mul_nonneg u0 x0
  have h2 : 0 ≤ v * yl := Int.mul_nonneg (by omega) y0
  have h3 : u * xl ≤ v * (P - 1) := mul_le uv (by omega) u0 (by omega)
  have h4 : v * yl ≤ v * (P - 1) := Int.mul_le_mul_of_nonneg_left (by omega) (by omega)
  rw [Int.mul_sub, Int.mul_one] at h3 h4
  cases e <;> simp only [made2, if_true, Bool.false_eq_true, if_false] <;> omega
/-- Behind the test: the next rest is none below 0, and below the one ahead. -/
theorem FAt.next {X Y P a0 b0 xl yl u0 v0 u1 v1 u2 v2 a b : Int} {e : Bool} (h : FAt X Y a0 b0 u0 v0 u1 v1 u2 v2 a b e) (hX : X = a0 * P + xl) (hY : Y = b0 * P + yl) (x0 : 0 ≤ xl) (x1 : xl < P) (y0 : 0 ≤ yl) (y1 : yl < P)
    (hb : v2 ≤ b) (hab : v1 + v2 ≤ a - b) : 0 ≤ made2 X Y u2 v2 e ∧ made2 X Y u2 v2 e < made2 X Y u1 v1 (!e) := by
  have hP : 0 < P := by omega
  have l2 := made_low x0 x1 y0 y1 h.u2n h.le2 h.v2n e
  have l12 := made_low (u := u1 + u2) (v := v1 + v2) x0 x1 y0 y1 (by have := h.u1n; have := h.u2n; omega) h.le12 (by have := h.v1n; have := h.v2n; omega) (!e)
  have e2 := made_lead (u := u2) (v := v2) hX hY e
  have e1 := made_lead (u := u1) (v := v1) hX hY (!e)
  rw [h.eb] at e2
  rw [h.ea] at e1
  have s : made2 xl yl (u1 + u2) (v1 + v2) (!e) = made2 xl yl u1 v1 (!e) - made2 xl yl u2 v2 e := by
    cases e <;> simp only [made2, Bool.not_true, Bool.not_false, if_true, Bool.false_eq_true, if_false] <;> grind
  have m1 : v2 * P ≤ b * P := Int.mul_le_mul_of_nonneg_right hb (by omega)
  have m2 : (v1 + v2) * P ≤ (a - b) * P := Int.mul_le_mul_of_nonneg_right hab (by omega)
  rw [Int.sub_mul] at m2
  rw [e1, e2]
  constructor <;> omega
theorem FAt.step {X Y P a0 b0 xl yl u0 v0 u1 v1 u2 v2 a b : Int} {e : Bool} (h : FAt X Y a0 b0 u0 v0 u1 v1 u2 v2 a b e) (hX : X = a0 * P + xl) (hY : Y = b0 * P + yl) (x0 : 0 ≤ xl) (x1 : xl < P) (y0 : 0 ≤ yl) (y1 : yl < P) (hYX : Y ≤ X)
    (hb : v2 ≤ b) (hab : v1 + v2 ≤ a - b) : FAt X Y a0 b0 u1 v1 u2 v2 (u1 + a / b * u2) (v1 + a / b * v2) b (a % b) (!e) ∧ 0 ≤ a / b * u2 ∧ a / b * u2 ≤ a0 ∧ 0 ≤ a / b * v2 ∧ a / b * v2 ≤ a0 := by
  have hv2 := h.v2n
  have hu2 := h.u2n
  have hu1 := h.u1n
  have hv1 := h.v1n
  obtain ⟨n0, n1⟩ := h.next hX hY x0 x1 y0 y1 hb hab
  have hq : a = b * (a / b) + a % b := (Int.mul_ediv_add_emod a b).symm
  have hr0 := Int.emod_nonneg a (b := b) (by omega)
  have hr1 := Int.emod_lt_of_pos a (b := b) (by omega)
  have hba := h.ba
  have hw := h.whole
  have ha := h.ea
  have hbb := h.eb
  have hd := h.det
  generalize a / b = q at *
  generalize a % b = r at *
  have q1 : 1 ≤ q := by
    by_cases g : 1 ≤ q
    · exact g
    · have : b * q ≤ b * 0 := Int.mul_le_mul_of_nonneg_left (by omega) (by omega)
      omega
  have p1 : 0 ≤ q * u2 := Int.mul_nonneg (by omega) hu2
  have p2 : q * 1 ≤ q * v2 := Int.mul_le_mul_of_nonneg_left hv2 (by omega)
  have p3 : 1 * v2 ≤ q * v2 := Int.mul_le_mul_of_nonneg_right q1 (by omega)
  have p4 : q * u2 ≤ q * v2 := Int.mul_le_mul_of_nonneg_left h.le2 (by omega)
  have hnew : b * (v1 + q * v2) + r * v2 = a0 := by rw [← hw, hq]; grind
  have p5 : 1 * (v1 + q * v2) ≤ b * (v1 + q * v2) := Int.mul_le_mul_of_nonneg_right (by omega) (by omega)
  have p6 : 0 ≤ r * v2 := Int.mul_nonneg hr0 (by omega)
  have p7 : (q - 1) * u2 ≤ (q - 1) * v2 := Int.mul_le_mul_of_nonneg_left h.le2 (by omega)
  rw [Int.sub_mul, Int.sub_mul] at p7
  have hle := h.le12
  have hle2 := h.le2
  refine ⟨⟨hu1, hv1, hu2, by omega, by omega, by omega, h.u1m, h.v1m, h.u2m, h.v2m, by omega, by omega, by omega, hr0, by omega, by omega, ?_, ?_, ?_, ?_, ?_⟩, p1, by omega, by omega, by omega⟩
  · cases e <;> simp only [made2, Bool.not_true, Bool.not_false, if_true, Bool.false_eq_true, if_false] at * <;> exact hbb
  · cases e <;> simp only [made2, Bool.not_true, Bool.not_false, if_true, Bool.false_eq_true, if_false] at * <;> grind
  · cases e <;> simp only [made2, Bool.not_true, Bool.not_false, if_true, Bool.false_eq_true, if_false] at * <;> grind
  · rcases h.sec with ⟨-, -, e1, -, -⟩ | e1
    · exact .inl e1
    · refine .inr (Good.of ?_ (by rw [Bool.not_not]; exact n0) (by rw [Bool.not_not]; exact n1) e1)
      exact hd
  · right
    rw [Bool.not_not]
    rcases h.sec with ⟨e0, e1, e2, e3, e4⟩ | e1
    · subst e0 e1 e2 e3 e4; simp [made2]
    · omega
/-- The words on top, by the same shift, and what lies below them. -/
theorem lead_of {L : List Int} {n : Nat} {s : Int} (h : Dig L) (hn : L.length = n) (h2 : 2 ≤ n) (s0 : 0 ≤ s) (s1 : s ≤ 63) : ∃ xl, val L = (L.getD (n - 1) 0 * 2 ^ s.toNat + L.getD (n - 2) 0 / 2 ^ (64 - s).toNat) * (2 ^ (64 - s).toNat * 18446744073709551616 ^ (n - 2)) + xl ∧ 0 ≤ xl ∧ xl < 2 ^ (64 - s).toNat * 18446744073709551616 ^ (n - 2) := by
  obtain ⟨low, l0, l1, e⟩ := two_tops h hn h2
  have hB : (18446744073709551616 : Int) = 2 ^ s.toNat * 2 ^ (64 - s).toNat := by
    rw [← Int.pow_add, show s.toNat + (64 - s).toNat = 64 by omega]; rfl
  have hD : (0 : Int) < 2 ^ (64 - s).toNat := Int.pow_pos (by omega)
  have hP := pow_pos' (n - 2)
  have d := Int.mul_ediv_add_emod (L.getD (n - 2) 0) (2 ^ (64 - s).toNat)
  have r0 := Int.emod_nonneg (L.getD (n - 2) 0) (b := 2 ^ (64 - s).toNat) (by omega)
  have r1 := Int.emod_lt_of_pos (L.getD (n - 2) 0) (b := 2 ^ (64 - s).toNat) hD
  generalize (18446744073709551616 : Int) ^ (n - 2) = P at *
  generalize L.getD (n - 2) 0 = y at *
  generalize L.getD (n - 1) 0 = x at *
  generalize (2 : Int) ^ (64 - s).toNat = D at *
  generalize (2 : Int) ^ s.toNat = S at *
  generalize y / D = q at *
  generalize y % D = r at *
  refine ⟨low + P * r, ?_, ?_, ?_⟩
  · rw [e, hB, ← d]; grind
  · have : 0 ≤ P * r := Int.mul_nonneg (by omega) r0
    omega
  · have : P * r ≤ P * (D - 1) := Int.mul_le_mul_of_nonneg_left (by omega) (by omega)
    rw [Int.mul_sub, Int.mul_one] at this
    rw [Int.mul_comm D P]
    omega
end Go.Proofs.Wd
