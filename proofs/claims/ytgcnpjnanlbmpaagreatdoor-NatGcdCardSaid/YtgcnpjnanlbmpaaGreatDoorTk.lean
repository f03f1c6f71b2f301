/- What takeDigit of the package nat does: it takes one digit of a quotient, and leaves the rest in the words that it is handed. -/
import Derived.Test.YtgcnpjnanlbmpaaGreatDoorGu
namespace Go.Proofs.Wd
open Go.RowKit
set_option linter.unusedVariables false
theorem ext_getD {a b : List Int} (hl : a.length = b.length) (h : ∀ j, j < a.length → a.getD j 0 = b.getD j 0) : a = b := by
  apply List.ext_getElem hl
  intro j h1 h2
  have := h j h1
  simpa [List.getD, h1, h2] using this
theorem same_parts {L M : List Int} {k n : Nat} (hl : M.length = L.length) (h : ∀ j, j < k ∨ k + n ≤ j → M.getD j 0 = L.getD j 0) : M.take k = L.take k ∧ M.drop (k + n) = L.drop (k + n) := by
  constructor
  · refine ext_getD (by simp [hl]) fun j hj => ?_
    have hj' : j < k := by rw [List.length_take] at hj; omega
    have := h j (.inl hj')
    simp only [List.getD, List.getElem?_take_of_lt hj'] at this ⊢
    exact this
  · refine ext_getD (by simp [hl]) fun j hj => ?_
    have := h (k + n + j) (.inr (by omega))
    simp only [List.getD, List.getElem?_drop] at this ⊢
    exact this
/-- A number in three parts: below place k, n words from there on, the rest. -/
theorem three_parts (L : List Int) (k n : Nat) : val L = val (L.take k) + 18446744073709551616 ^ k * (val ((L.drop k).take n) + 18446744073709551616 ^ n * val (L.drop (k + n))) := by
  rw [val_parts L k, val_parts (L.drop k) n, List.drop_drop]
theorem mid_lt {L : List Int} (h : Dig L) (k n : Nat) : 0 ≤ val ((L.drop k).take n) ∧ val ((L.drop k).take n) < 18446744073709551616 ^ n := ⟨val_nonneg ((h.drop k).take n), take_lt (h.drop k) n⟩
/-- The top words of a number of n words, n at least two. -/
theorem two_tops {L : List Int} {n : Nat} (h : Dig L) (hn : L.length = n) (h2 : 2 ≤ n) : ∃ low, 0 ≤ low ∧ low < 18446744073709551616 ^ (n - 2) ∧ val L = low + 18446744073709551616 ^ (n - 2) * (L.getD (n - 2) 0 + 18446744073709551616 * L.getD (n - 1) 0) := by
  refine ⟨val (L.take (n - 2)), val_nonneg (h.take _), take_lt h _, ?_⟩
  rw [val_parts L (n - 2), val_drop L (n - 2), show n - 2 + 1 = n - 1 by omega, val_drop L (n - 1), show n - 1 + 1 = n by omega, List.drop_eq_nil_of_le (by omega)]
  simp
/-- .. and of one of n words and one more, from place k on. -/
theorem three_tops {L : List Int} {k n : Nat} (h : Dig L) (h2 : 2 ≤ n) (hz : val (L.drop (k + n + 1)) = 0) : ∃ low, 0 ≤ low ∧ low < 18446744073709551616 ^ (n - 2) ∧ val (L.drop k) = low + 18446744073709551616 ^ (n - 2) * (L.getD (k + n - 2) 0 + 18446744073709551616 * (L.getD (k + n - 1) 0 + 18446744073709551616 * L.getD (k + n) 0)) := by
  refine ⟨val ((L.drop k).take (n - 2)), val_nonneg ((h.drop k).take _), take_lt (h.drop k) _, ?_⟩
  rw [val_parts (L.drop k) (n - 2), List.drop_drop, val_drop L (k + (n - 2)), show k + (n - 2) + 1 = k + n - 1 by omega, val_drop L (k + n - 1), show k + n - 1 + 1 = k + n by omega, val_drop L (k + n), hz, show k + (n - 2) = k + n - 2 by omega]
  simp
/-- The guess is the digit, or one above it. -/
theorem guess_near {H Y yH yL r0 r1 r2 P low lowY d : Int} (hP : 0 < P) (a : 0 ≤ low) (b : low < P) (eH : H = low + P * (r0 + 18446744073709551616 * (r1 + 18446744073709551616 * r2))) (c : 0 ≤ lowY) (e : lowY < P) (eY : Y = lowY + P * (yL + 18446744073709551616 * yH))
    (hY : 1 ≤ yH) (l0 : 0 ≤ yL) (hH : H < Y * 18446744073709551616) (g : GuessIs yH yL (r2 * 18446744073709551616 + r1) r0 d) : H < (d + 1) * Y ∧ (d - 1) * Y ≤ H := by
  obtain ⟨d0, d1, g1, g2⟩ := g
  generalize hD : yH * 18446744073709551616 + yL = D at g1 g2
  generalize hN : (r2 * 18446744073709551616 + r1) * 18446744073709551616 + r0 = N at g1 g2
  have eH' : H = low + P * N := by rw [eH, ← hN]; congr 2; omega
  have eY' : Y = lowY + P * D := by rw [eY, ← hD]; congr 2; omega
  have hDB : 18446744073709551616 ≤ D := by omega
  have hPD : P * 18446744073709551616 ≤ P * D := Int.mul_le_mul_of_nonneg_left hDB (by omega)
  constructor
  · rcases g2 with g2 | g2
    · subst g2; rw [show (18446744073709551615 + 1 : Int) = 18446744073709551616 from rfl, Int.mul_comm]; exact hH
    · have h1 : P * (N + 1) ≤ P * ((d + 1) * D) := Int.mul_le_mul_of_nonneg_left (by omega) (by omega)
      have h2 : (d + 1) * (P * D) ≤ (d + 1) * Y := Int.mul_le_mul_of_nonneg_left (by omega) (by omega)
      rw [Int.mul_left_comm P (d + 1) D, Int.mul_add, Int.mul_one] at h1
      omega
  · have h1 : P * (d * D) ≤ P * N := Int.mul_le_mul_of_nonneg_left g1 (by omega)
    have h2 : d * lowY ≤ d * P := Int.mul_le_mul_of_nonneg_left (by omega) d0
    have h3 : d * P ≤ 18446744073709551615 * P := Int.mul_le_mul_of_nonneg_right d1 (by omega)
    have h4 : d * Y = d * lowY + P * (d * D) := by rw [eY', Int.mul_add, Int.mul_left_comm]
    rw [Int.sub_mul, Int.one_mul, h4]
    omega
/-- What takeDigit leaves. -/
structure Taken (L ys : List Int) (k : Nat) (q : Int) (M : List Int) : Prop where
  len : M.length = L.length
  dig : Dig M
  q0 : 0 ≤ q
  q1 : q ≤ 18446744073709551615
  sum : val M + 18446744073709551616 ^ k * (q * val ys) = val L
  less : val M < val ys * 18446744073709551616 ^ k
/-- The end of it, where the words from k on hold m, nought above them. -/
theorem Taken.of {L ys M : List Int} {k n : Nat} {q : Int} (hl : M.length = L.length) (hd : Dig M) (hL : Dig L) (q0 : 0 ≤ q) (q1 : q ≤ 18446744073709551615) (ht : M.take k = L.take k) (hz : val (M.drop (k + n)) = 0)
    (hm : val ((M.drop k).take n) = val (L.drop k) - q * val ys) (hlt : val (L.drop k) - q * val ys < val ys) : Taken L ys k q M := by
  have e1 := three_parts M k n
  have e2 := val_parts L k
  rw [ht, hz, Int.mul_zero, Int.add_zero, hm] at e1
  have a := take_lt hL k
  refine ⟨hl, hd, q0, q1, ?_, ?_⟩
  · rw [e1, e2, Int.mul_sub]; omega
  · have h1 : 18446744073709551616 ^ k * (val (L.drop k) - q * val ys + 1) ≤ 18446744073709551616 ^ k * val ys := Int.mul_le_mul_of_nonneg_left (by omega) (by have := pow_pos' k; omega)
    rw [Int.mul_add, Int.mul_one] at h1
    rw [e1, Int.mul_comm (val ys)]
    omega
theorem SubTo.mid {L ys M : List Int} {d v : Int} {k : Nat} (h : SubTo L ys d k ys.length v M) : val ((M.drop k).take ys.length) + 18446744073709551616 ^ ys.length * val (L.drop (k + ys.length)) + d * val ys = val (L.drop k) + 18446744073709551616 ^ ys.length * v := by
  obtain ⟨p1, p2⟩ := same_parts h.len h.rest
  have hs := h.sum
  rw [List.take_of_length_le (Nat.le_refl _), three_parts M k ys.length, p1, p2, val_parts L k, Int.pow_add, Int.mul_assoc (18446744073709551616 ^ k)] at hs
  have hp := pow_pos' k
  have : 18446744073709551616 ^ k * (val ((M.drop k).take ys.length) + 18446744073709551616 ^ ys.length * val (L.drop (k + ys.length)) + d * val ys) = 18446744073709551616 ^ k * (val (L.drop k) + 18446744073709551616 ^ ys.length * v) := by
    simp only [Int.mul_add] at hs ⊢
    omega
  exact Int.eq_of_mul_eq_mul_left (by omega) this
theorem AddTo.mid {L ys M : List Int} {c : Bool} {k : Nat} (h : AddTo L ys k ys.length c M) : val ((M.drop k).take ys.length) + 18446744073709551616 ^ ys.length * cI c = val ((L.drop k).take ys.length) + val ys := by
  obtain ⟨p1, p2⟩ := same_parts h.len h.rest
  have hs := h.sum
  rw [List.take_of_length_le (Nat.le_refl _), three_parts M k ys.length, p1, p2, three_parts L k ys.length, Int.pow_add, Int.mul_assoc (18446744073709551616 ^ k)] at hs
  have hp := pow_pos' k
  have : 18446744073709551616 ^ k * (val ((M.drop k).take ys.length) + 18446744073709551616 ^ ys.length * cI c) = 18446744073709551616 ^ k * (val ((L.drop k).take ys.length) + val ys) := by
    simp only [Int.mul_add] at hs ⊢
    omega
  exact Int.eq_of_mul_eq_mul_left (by omega) this
/-- A word above the middle is put to nought. -/
theorem cleared {M : List Int} {k n : Nat} (h : Dig M) (hk : k + n < M.length) (hz : val (M.drop (k + n + 1)) = 0) : (M.set (k + n) 0).length = M.length ∧ Dig (M.set (k + n) 0) ∧ (M.set (k + n) 0).take k = M.take k ∧ val ((M.set (k + n) 0).drop (k + n)) = 0 ∧ ((M.set (k + n) 0).drop k).take n = (M.drop k).take n := by
  refine ⟨by simp, Dig.set h _ (by omega) (by omega), ?_, ?_, ?_⟩
  · rw [List.take_set, List.set_eq_of_length_le (by rw [List.length_take]; omega)]
  · rw [drop_set_self _ _ _ hk, val_cons, hz]; simp
  · refine ext_getD (by simp) fun j hj => ?_
    have hjn : j < n := by rw [List.length_take] at hj; omega
    simp only [List.getD, List.getElem?_take_of_lt hjn, List.getElem?_drop]
    rw [List.getElem?_set_ne (by omega)]
end Go.Proofs.Wd
