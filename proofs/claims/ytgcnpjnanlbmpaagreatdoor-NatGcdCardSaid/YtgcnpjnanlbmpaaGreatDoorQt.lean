/- Quotients of rows of words: what holds in quotient of the package nat, digit by digit. -/
import Derived.Test.YtgcnpjnanlbmpaaGreatDoorTd2
import Derived.Test.YtgcnpjnanlbmpaaGreatDoorWd3
namespace Go.Proofs.Wd
open Go.RowKit
set_option linter.unusedVariables false
/-- What holds at the head of quotient's loop: R is left of X, the words of Q from k on are digits. -/
structure QuAt (X : Int) (ys : List Int) (lq lr k : Nat) (Q R : List Int) : Prop where
  ql : Q.length = lq
  rl : R.length = lr
  qd : Dig Q
  rd : Dig R
  sum : val R + val ys * (18446744073709551616 ^ k * val (Q.drop k)) = X
  less : val R < val ys * 18446744073709551616 ^ k
theorem QuAt.step {X : Int} {ys Q R M : List Int} {lq lr k : Nat} {q : Int} (h : QuAt X ys lq lr (k + 1) Q R) (hk : k < lq) (t : Taken R ys k q M) : QuAt X ys lq lr k (Q.set k q) M := by
  have hql := h.ql
  refine ⟨by rw [List.length_set, hql], by rw [t.len, h.rl], Dig.set h.qd k t.q0 t.q1, t.dig, ?_, t.less⟩
  rw [drop_set_self Q k q (by omega), val_cons]
  have hs := h.sum
  have ht := t.sum
  rw [Int.pow_succ, Int.mul_assoc (18446744073709551616 ^ k)] at hs
  generalize (18446744073709551616 : Int) ^ k = P at *
  generalize 18446744073709551616 * val (Q.drop (k + 1)) = V at *
  have e : val ys * (P * (q + V)) = P * (q * val ys) + val ys * (P * V) := by
    rw [Int.mul_add P, Int.mul_add, Int.mul_left_comm (val ys) P q, Int.mul_comm (val ys) q]
  rw [e]; omega
/-- A divisor that is shifted until its top bit is set: its words, their number, its top word. -/
theorem normal {y s : Int} {ys L : List Int} {n : Nat} (hy : Dig ys) (ht : Top ys) (hn : ys.length = n + 1) (s0 : 0 ≤ s) (s1 : s ≤ 63) (hyt : ys.getD n 0 = y)
    (lo : 9223372036854775808 ≤ y * 2 ^ s.toNat) (hi : y * 2 ^ s.toNat + 2 ^ s.toNat ≤ 18446744073709551616) (hL : Dig L) (hT : Top L) (hv : val L = val ys * 2 ^ s.toNat) : L.length = n + 1 ∧ 9223372036854775808 ≤ L.getD n 0 := by
  have e := val_parts ys n
  rw [val_drop, hyt, List.drop_eq_nil_of_le (by omega)] at e
  simp only [val_nil, Int.mul_zero, Int.add_zero] at e
  have a := val_nonneg (hy.take n)
  have b := take_lt hy n
  have hP := pow_pos' n
  have hS : (0 : Int) < 2 ^ s.toNat := Int.pow_pos (by omega)
  generalize hSS : (2 : Int) ^ s.toNat = S at *
  have c1 : val (ys.take n) * S ≤ (18446744073709551616 ^ n - 1) * S := Int.mul_le_mul_of_nonneg_right (by omega) (by omega)
  have c2 : 0 ≤ val (ys.take n) * S := Int.mul_nonneg a (by omega)
  have c3 : val L = val (ys.take n) * S + 18446744073709551616 ^ n * (y * S) := by rw [hv, e, Int.add_mul, Int.mul_assoc]
  rw [Int.sub_mul, Int.one_mul] at c1
  have c4 : 18446744073709551616 ^ n * (9223372036854775808 : Int) ≤ 18446744073709551616 ^ n * (y * S) := Int.mul_le_mul_of_nonneg_left lo (by omega)
  have c5 : 18446744073709551616 ^ n * (y * S + S) ≤ 18446744073709551616 ^ n * 18446744073709551616 := Int.mul_le_mul_of_nonneg_left hi (by omega)
  rw [Int.mul_add] at c5
  have hlt : val L < 18446744073709551616 ^ (n + 1) := by rw [Int.pow_succ]; omega
  have hge : 18446744073709551616 ^ n ≤ val L := by omega
  have hne : L ≠ [] := fun e2 => by rw [e2] at hge; simp at hge; omega
  have h1 := top_pos hL hT hne
  have h2 := val_lt hL
  have hlen : L.length = n + 1 := by
    by_cases g : L.length ≤ n
    · have := pow_mono' g; omega
    · by_cases g2 : n + 1 ≤ L.length - 1
      · have := pow_mono' g2; omega
      · omega
  refine ⟨hlen, ?_⟩
  have f := val_parts L n
  rw [val_drop, List.drop_eq_nil_of_le (by omega)] at f
  simp only [val_nil, Int.mul_zero, Int.add_zero] at f
  have fa := take_lt hL n
  by_cases g : 9223372036854775808 ≤ L.getD n 0
  · exact g
  · exfalso
    have : 18446744073709551616 ^ n * (L.getD n 0 + 1) ≤ 18446744073709551616 ^ n * 9223372036854775808 := Int.mul_le_mul_of_nonneg_left (by omega) (by omega)
    rw [Int.mul_add, Int.mul_one] at this
    omega
/-- At the beginning the number is less than the divisor by as many words as the quotient has. -/
theorem QuAt.start {xs ys R : List Int} {n m : Nat} {s : Int} (hx : Dig xs) (hxl : xs.length = m) (hR : Dig R) (hRl : R.length = m + 1) (hRv : val R = val xs * 2 ^ s.toNat) (s0 : 0 ≤ s) (s1 : s ≤ 63)
    (hyd : Dig ys) (hyl : ys.length = n + 1) (hyt : 9223372036854775808 ≤ ys.getD n 0) (hnm : n ≤ m) : QuAt (val xs * 2 ^ s.toNat) ys (m - n) (m + 1) (m - n) (List.replicate (m - n) 0) R := by
  refine ⟨by simp, hRl, fun d hd => by rw [(List.mem_replicate.1 hd).2]; omega, hR, ?_, ?_⟩
  · rw [List.drop_eq_nil_of_le (by simp), hRv]; simp
  · have f := val_parts ys n
    rw [val_drop, List.drop_eq_nil_of_le (by omega)] at f
    simp only [val_nil, Int.mul_zero, Int.add_zero] at f
    have fa := val_nonneg (hyd.take n)
    have c1 : 18446744073709551616 ^ n * (9223372036854775808 : Int) ≤ 18446744073709551616 ^ n * ys.getD n 0 := Int.mul_le_mul_of_nonneg_left hyt (by have := pow_pos' n; omega)
    have c2 : (18446744073709551616 ^ n * (9223372036854775808 : Int)) * 18446744073709551616 ^ (m - n) ≤ val ys * 18446744073709551616 ^ (m - n) := Int.mul_le_mul_of_nonneg_right (by omega) (by have := pow_pos' (m - n); omega)
    have e : (18446744073709551616 ^ n * (9223372036854775808 : Int)) * 18446744073709551616 ^ (m - n) = 9223372036854775808 * 18446744073709551616 ^ m := by
      rw [Int.mul_comm (18446744073709551616 ^ n), Int.mul_assoc, ← Int.pow_add, show n + (m - n) = m by omega]
    have hlt := val_lt hx
    rw [hxl] at hlt
    have hS : (2 : Int) ^ s.toNat ≤ 2 ^ 63 := by
      have : (2 : Int) ^ 63 = 2 ^ s.toNat * 2 ^ (63 - s.toNat) := by rw [← Int.pow_add, show s.toNat + (63 - s.toNat) = 63 by omega]
      have h1 : (0 : Int) < 2 ^ (63 - s.toNat) := Int.pow_pos (by omega)
      have h2 : (2 : Int) ^ s.toNat * 1 ≤ 2 ^ s.toNat * 2 ^ (63 - s.toNat) := Int.mul_le_mul_of_nonneg_left (by omega) (by have : (0 : Int) < 2 ^ s.toNat := Int.pow_pos (by omega); omega)
      omega
    have hS0 : (0 : Int) < 2 ^ s.toNat := Int.pow_pos (by omega)
    have h63 : (2 : Int) ^ 63 = 9223372036854775808 := rfl
    rw [h63] at hS
    rw [hRv]
    generalize (2 : Int) ^ s.toNat = S at *
    have c3 : val xs * S < 18446744073709551616 ^ m * S := Int.mul_lt_mul_of_pos_right hlt hS0
    have c4 : 18446744073709551616 ^ m * S ≤ 18446744073709551616 ^ m * 9223372036854775808 := Int.mul_le_mul_of_nonneg_left hS (by have := pow_pos' m; omega)
    rw [Int.mul_comm (18446744073709551616 ^ m) 9223372036854775808] at c4
    omega
/-- In the end: the quotient, and the rest shifted. -/
theorem QuAt.last {X Y S : Int} {ys Q R : List Int} {lq lr : Nat} (h : QuAt (X * S) ys lq lr 0 Q R) (hY : val ys = Y * S) (hS : 0 < S) : X = val Q * Y + val R / S ∧ 0 ≤ val R / S ∧ val R / S < Y := by
  have hs := h.sum
  have hl := h.less
  simp only [List.drop_zero, Int.pow_zero, Int.one_mul, Int.mul_one] at hs hl
  have e : val R = (X - val Q * Y) * S := by
    rw [Int.sub_mul, ← hs, hY, Int.mul_right_comm, Int.mul_comm (Y * val Q) S, Int.mul_comm (val Q) Y, Int.mul_comm S]
    omega
  have e2 : val R / S = X - val Q * Y := by rw [e]; exact Int.mul_ediv_cancel _ (by omega)
  refine ⟨by omega, Int.ediv_nonneg (val_nonneg h.rd) (by omega), ?_⟩
  rw [hY] at hl
  exact Int.ediv_lt_of_lt_mul hS hl
end Go.Proofs.Wd
