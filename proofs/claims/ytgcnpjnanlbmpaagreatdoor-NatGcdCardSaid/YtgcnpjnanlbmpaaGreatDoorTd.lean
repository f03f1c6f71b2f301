/- What takeDigit of the package nat does: the walk. -/
import Derived.Test.YtgcnpjnanlbmpaaGreatDoorTk
namespace Go.Proofs.Wd
open Go.RowKit
set_option linter.unusedVariables false
/-- What takeDigit asks: a row L of which the words from k on are less than ys by one word more, ys of at least two words, its top bit set. -/
structure TakeIn (L ys : List Int) (k n : Nat) : Prop where
  hn : ys.length = n
  n2 : 2 ≤ n
  dig : Dig L
  ydig : Dig ys
  fit : k + n + 1 ≤ L.length
  max : L.length ≤ 1000000
  top : 9223372036854775808 ≤ ys.getD (n - 1) 0
  lt : val L < val ys * 18446744073709551616 ^ (k + 1)
theorem TakeIn.high {L ys : List Int} {k n : Nat} (h : TakeIn L ys k n) : val (L.drop k) < val ys * 18446744073709551616 ∧ val (L.drop (k + n + 1)) = 0 := by
  have e := val_parts L k
  have a := val_nonneg (h.dig.take k)
  have hlt := h.lt
  have hp := pow_pos' k
  have h1 : 18446744073709551616 ^ k * val (L.drop k) < 18446744073709551616 ^ k * (val ys * 18446744073709551616) := by
    rw [Int.pow_succ] at hlt
    have : 18446744073709551616 ^ k * (val ys * 18446744073709551616) = val ys * (18446744073709551616 ^ k * 18446744073709551616) := Int.mul_left_comm _ _ _
    omega
  have h2 : val (L.drop k) < val ys * 18446744073709551616 := Int.lt_of_mul_lt_mul_left h1 (by omega)
  refine ⟨h2, ?_⟩
  have e2 := val_parts (L.drop k) (n + 1)
  rw [List.drop_drop, show k + (n + 1) = k + n + 1 by omega] at e2
  have b := val_nonneg ((h.dig.drop k).take (n + 1))
  have c := val_nonneg (h.dig.drop (k + n + 1))
  have d := val_lt h.ydig
  rw [h.hn] at d
  by_cases g : val (L.drop (k + n + 1)) = 0
  · exact g
  · exfalso
    have h3 : (18446744073709551616 : Int) ^ (n + 1) * 1 ≤ 18446744073709551616 ^ (n + 1) * val (L.drop (k + n + 1)) := Int.mul_le_mul_of_nonneg_left (by omega) (by have := pow_pos' (n + 1); omega)
    rw [Int.pow_succ] at h3 e2
    omega
/-- The words that guess looks at, and the digit that it gives. -/
theorem TakeIn.guess {L ys : List Int} {k n : Nat} (h : TakeIn L ys k n) : ∃ r0 r1 r2 yH yL d, L.getD (k + n - 2) 0 = r0 ∧ L.getD (k + n - 1) 0 = r1 ∧ L.getD (k + n) 0 = r2 ∧ ys.getD (n - 1) 0 = yH ∧ ys.getD (n - 2) 0 = yL ∧ gV yH yL (r2 * 18446744073709551616 + r1) r0 = d ∧
    0 ≤ r0 ∧ r0 ≤ 18446744073709551615 ∧ 0 ≤ r1 ∧ r1 ≤ 18446744073709551615 ∧ 0 ≤ r2 ∧ r2 ≤ 18446744073709551615 ∧ r2 ≤ yH ∧ 1 ≤ yH ∧ yH ≤ 18446744073709551615 ∧ 0 ≤ yL ∧ yL ≤ 18446744073709551615 ∧ 0 ≤ d ∧ d ≤ 18446744073709551615 ∧ val (L.drop k) < (d + 1) * val ys ∧ (d - 1) * val ys ≤ val (L.drop k) := by
  obtain ⟨hH, hz⟩ := h.high
  obtain ⟨low, a0, a1, eH⟩ := three_tops (n := n) h.dig h.n2 hz
  obtain ⟨lowY, b0, b1, eY⟩ := two_tops h.ydig h.hn h.n2
  have d0 := h.dig.get (k + n - 2)
  have d1 := h.dig.get (k + n - 1)
  have d2 := h.dig.get (k + n)
  have g0 := h.ydig.get (n - 1)
  have g1 := h.ydig.get (n - 2)
  have ht := h.top
  have hP := pow_pos' (n - 2)
  generalize L.getD (k + n - 2) 0 = r0 at *
  generalize L.getD (k + n - 1) 0 = r1 at *
  generalize L.getD (k + n) 0 = r2 at *
  generalize ys.getD (n - 1) 0 = yH at *
  generalize ys.getD (n - 2) 0 = yL at *
  have hr2 : r2 ≤ yH := by
    by_cases g : r2 ≤ yH
    · exact g
    · exfalso
      generalize (18446744073709551616 : Int) ^ (n - 2) = P at *
      have e1 : P * (yL + 18446744073709551616 * yH + 1) ≤ P * (18446744073709551616 * (yH + 1)) := Int.mul_le_mul_of_nonneg_left (by omega) (by omega)
      have e2 : P * (18446744073709551616 * (18446744073709551616 * (yH + 1))) ≤ P * (r0 + 18446744073709551616 * (r1 + 18446744073709551616 * r2)) := Int.mul_le_mul_of_nonneg_left (by omega) (by omega)
      rw [Int.mul_add P (yL + 18446744073709551616 * yH), Int.mul_one] at e1
      have e3 : P * (18446744073709551616 * (18446744073709551616 * (yH + 1))) = P * (18446744073709551616 * (yH + 1)) * 18446744073709551616 := by
        rw [Int.mul_comm 18446744073709551616 (18446744073709551616 * (yH + 1)), ← Int.mul_assoc]
      omega
  have hg := gV_is (yH := yH) (yL := yL) (N := r2 * 18446744073709551616 + r1) (r0 := r0) (by omega) (by omega)
  obtain ⟨n1, n2⟩ := guess_near hP a0 a1 eH b0 b1 eY (by omega) g1.1 hH hg
  exact ⟨r0, r1, r2, yH, yL, _, rfl, rfl, rfl, rfl, rfl, rfl, d0.1, d0.2, d1.1, d1.2, d2.1, d2.2, hr2, by omega, g0.2, g1.1, g1.2, hg.1, hg.2.1, n1, n2⟩
/-- Nothing is lacking: the guess is the digit. -/
theorem TakeIn.fits {L ys M : List Int} {k n : Nat} {d v : Int} (h : TakeIn L ys k n) (hs : SubTo L ys d k n v M) (hv : ¬ M.getD (k + n) 0 < v) (d0 : 0 ≤ d) (d1 : d ≤ 18446744073709551615) (hn : val (L.drop k) < (d + 1) * val ys) : Taken L ys k d (M.set (k + n) 0) := by
  obtain ⟨hH, hz⟩ := h.high
  have hln := h.hn
  subst hln
  have hm := hs.mid
  obtain ⟨p1, p2⟩ := same_parts hs.len hs.rest
  have hw : val (L.drop (k + ys.length)) = M.getD (k + ys.length) 0 := by
    rw [val_drop, hz, hs.rest _ (.inr (Nat.le_refl _))]; simp
  have hz2 : val (M.drop (k + ys.length + 1)) = 0 := by
    rw [← List.drop_drop, p2, List.drop_drop]; exact hz
  have hb := mid_lt hs.dig k ys.length
  have hY := val_lt h.ydig
  obtain ⟨c1, c2, c3, c4, c5⟩ := cleared (k := k) (n := ys.length) hs.dig (by rw [hs.len]; have := h.fit; omega) hz2
  have hv0 := hs.v0
  rw [hw] at hm
  rw [Int.add_mul, Int.one_mul] at hn
  generalize hmm : val ((M.drop k).take ys.length) = m at *
  generalize M.getD (k + ys.length) 0 = r at *
  have hrv : r = v := by
    by_cases e : r = v
    · exact e
    · exfalso
      have h3 : (18446744073709551616 : Int) ^ ys.length * 1 ≤ 18446744073709551616 ^ ys.length * (r - v) := Int.mul_le_mul_of_nonneg_left (by omega) (by have := pow_pos' ys.length; omega)
      rw [Int.mul_sub, Int.mul_one] at h3
      omega
  subst hrv
  have hmv : m = val (L.drop k) - d * val ys := by omega
  exact Taken.of (n := ys.length) (by rw [c1, hs.len]) c2 h.dig d0 d1 (by rw [c3, p1]) c4 (by rw [c5, hmm]; exact hmv) (by omega)
/-- Something is lacking: the guess is one above the digit, and ys is added again. -/
theorem TakeIn.over {L ys M K : List Int} {k n : Nat} {d v : Int} {c : Bool} (h : TakeIn L ys k n) (hs : SubTo L ys d k n v M) (hv : M.getD (k + n) 0 < v) (ha : AddTo M ys k n c K) (d0 : 0 ≤ d) (d1 : d ≤ 18446744073709551615) (hn : (d - 1) * val ys ≤ val (L.drop k)) : 1 ≤ d ∧ Taken L ys k (d - 1) (K.set (k + n) 0) := by
  obtain ⟨hH, hz⟩ := h.high
  have hln := h.hn
  subst hln
  have hm := hs.mid
  have hk := ha.mid
  obtain ⟨p1, p2⟩ := same_parts hs.len hs.rest
  obtain ⟨q1, q2⟩ := same_parts ha.len ha.rest
  have hw : val (L.drop (k + ys.length)) = M.getD (k + ys.length) 0 := by
    rw [val_drop, hz, hs.rest _ (.inr (Nat.le_refl _))]; simp
  have hz2 : val (K.drop (k + ys.length + 1)) = 0 := by
    rw [← List.drop_drop, q2, p2, List.drop_drop]; exact hz
  have hb := mid_lt hs.dig k ys.length
  have hb2 := mid_lt ha.dig k ys.length
  have hY := val_lt h.ydig
  have hY0 := val_nonneg h.ydig
  have hH0 := val_nonneg (h.dig.drop k)
  have hKl : K.length = L.length := by rw [ha.len, hs.len]
  obtain ⟨c1, c2, c3, c4, c5⟩ := cleared (k := k) (n := ys.length) ha.dig (by rw [hKl]; have := h.fit; omega) hz2
  rw [hw] at hm
  have hr0 := (hs.dig.get (k + ys.length)).1
  generalize val ((M.drop k).take ys.length) = m at *
  generalize M.getD (k + ys.length) 0 = r at *
  rw [Int.sub_mul, Int.one_mul] at hn
  have hp := pow_pos' ys.length
  have h3 : (18446744073709551616 : Int) ^ ys.length * 1 ≤ 18446744073709551616 ^ ys.length * (v - r) := Int.mul_le_mul_of_nonneg_left (by omega) (by omega)
  rw [Int.mul_sub, Int.mul_one] at h3
  have hd1 : 1 ≤ d := by
    by_cases e : d = 0
    · subst e; rw [Int.zero_mul] at hm; omega
    · omega
  refine ⟨hd1, ?_⟩
  generalize hmm2 : val ((K.drop k).take ys.length) = m2 at *
  have hcv : cI c + r = v := by
    by_cases e : cI c + r = v
    · exact e
    · exfalso
      by_cases e2 : cI c + r < v
      · have h4 : (18446744073709551616 : Int) ^ ys.length * 1 ≤ 18446744073709551616 ^ ys.length * (v - (cI c + r)) := Int.mul_le_mul_of_nonneg_left (by omega) (by omega)
        rw [Int.mul_sub, Int.mul_add, Int.mul_one] at h4
        omega
      · have : cI c ≤ 1 := by unfold cI; cases c <;> simp
        omega
  have hcv2 : 18446744073709551616 ^ ys.length * cI c + 18446744073709551616 ^ ys.length * r = 18446744073709551616 ^ ys.length * v := by rw [← Int.mul_add, hcv]
  have hmv : m2 = val (L.drop k) - (d - 1) * val ys := by rw [Int.sub_mul, Int.one_mul]; omega
  exact Taken.of (n := ys.length) (by rw [c1, hKl]) c2 h.dig (by omega) (by omega) (by rw [c3, q1, p1]) c4 (by rw [c5, hmm2]; exact hmv) (by rw [Int.sub_mul, Int.one_mul]; omega)
end Go.Proofs.Wd
