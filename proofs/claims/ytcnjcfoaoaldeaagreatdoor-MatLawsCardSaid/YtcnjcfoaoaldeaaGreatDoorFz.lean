/- Texts of fractions: their sign, what stands ahead of the stroke and behind. -/
import Derived.Test.YtcnjcfoaoaldeaaGreatDoorFq
set_option linter.unusedVariables false
namespace Go.Proofs.Fr
open Go.Proofs
theorem size_le (s:ByteArray):(size s).size ≤ s.size:=by
 unfold size
 split
 ·rw [ByteArray.size_extract]; omega
 ·omega
theorem stroke_le (t:ByteArray):stroke t ≤ t.size:=by
 unfold stroke
 rw [← Tx.length_list]; exact List.idxOf_le_length
/-- A text with a sign; what stands ahead of its stroke, and behind. -/
def minus (s:ByteArray):Bool:=decide (s.data.toList.head? = some 45)
def upper (s:ByteArray):ByteArray:=(size s).extract 0 (stroke (size s))
def lower (s:ByteArray):ByteArray:=(size s).extract (stroke (size s) + 1) (size s).size
theorem getQ_no {s:ByteArray} (h:Tx.plainB (upper s) = false ∨ (minus s = true ∧ Tx.num (upper s) = 0)):getQ s = none:=by
 unfold getQ
 simp only
 rw [if_neg]
 rintro ⟨h1,h2⟩
 rcases h with h | h
 ·rw [show (size s).extract 0 (stroke (size s)) = upper s from rfl,h] at h1; simp at h1
 ·exact h2 h
theorem getQ_whole {s:ByteArray} (hk:¬stroke (size s) < (size s).size) (h1:Tx.plainB (upper s) = true) (h2:¬(minus s = true ∧ Tx.num (upper s) = 0)):getQ s = some ((sgn (minus s) (Tx.num (upper s)):Int):Rat):=by
 unfold getQ
 simp only
 rw [if_pos ⟨h1,h2⟩,if_neg hk]
 rfl
theorem getQ_no2 {s:ByteArray} (hk:stroke (size s) < (size s).size) (h:Tx.plainB (lower s) = false ∨ ¬(Nat.gcd (Tx.num (upper s)) (Tx.num (lower s)) = 1 ∧ 1 < Tx.num (lower s))):getQ s = none:=by
 unfold getQ
 simp only
 split
 ·rw [if_neg]
  rintro ⟨h1,h2⟩
  rcases h with h | h
  ·rw [show (size s).extract (stroke (size s) + 1) (size s).size = lower s from rfl,h] at h1; simp at h1
  ·exact h h2
 ·rfl
theorem getQ_two {s:ByteArray} (hk:stroke (size s) < (size s).size) (h1:Tx.plainB (upper s) = true) (h2:¬(minus s = true ∧ Tx.num (upper s) = 0)) (h3:Tx.plainB (lower s) = true) (h4:Nat.gcd (Tx.num (upper s)) (Tx.num (lower s)) = 1 ∧ 1 < Tx.num (lower s)):getQ s = some (mkRat (sgn (minus s) (Tx.num (upper s))) (Tx.num (lower s))):=by
 unfold getQ
 simp only
 rw [if_pos ⟨h1,h2⟩,if_pos hk,if_pos ⟨h3,h4⟩]
 rfl
theorem upper_all {s:ByteArray} (hk:¬stroke (size s) < (size s).size):size s = upper s:=by
 have h:=stroke_le (size s)
 unfold upper
 rw [show stroke (size s) = (size s).size by omega]
 apply ByteArray.ext
 apply Array.ext'
 rw [Tx.extract_list,List.drop_zero,List.take_of_length_le (by rw [Tx.length_list]; omega)]
theorem minus_at {s:ByteArray} (h:0 < s.size):minus s = decide ((s[0].toNat:Int) = 45):=by
 unfold minus
 have h0:s.data.toList.head? = some s[0]:=by
  rw [List.head?_eq_getElem?,List.getElem?_eq_getElem (by rw [Tx.length_list]; exact h)]
  rfl
 rw [h0,Bool.eq_iff_iff]
 simp only [Option.some.injEq,decide_eq_true_eq]
 constructor
 ·intro e; rw [e]; rfl
 ·intro e
  apply UInt8.toNat_inj.1
  have:s[0].toNat = 45:=by omega
  rw [this]; rfl
/-- The stroke is the first place at which it stands. -/
theorem stroke_at {t:ByteArray} {k:Nat} (h:k < t.size) (hk:k ≤ stroke t):((t[k].toNat:Int) = 47 → k = stroke t) ∧ (¬(t[k].toNat:Int) = 47 → k + 1 ≤ stroke t):=by
 have hl:k < t.data.toList.length:=by rw [Tx.length_list]; exact h
 have he:t.data.toList[k] = t[k]:=rfl
 refine ⟨fun e=>?_,fun e=>?_⟩
 ·have h1 : t.data.toList[k] = 47 := by
   rw [he]
   apply UInt8.toNat_inj.1
   have:t[k].toNat = 47:=by omega
   rw [this]; rfl
  have h2:t.data.toList.idxOf 47 ≤ k:=by
   rcases Nat.lt_or_ge k (t.data.toList.idxOf 47) with g | g
   ·have g2:k < t.data.toList.findIdx (· == 47):=g
    have g3:=List.not_of_lt_findIdx g2
    rw [h1] at g3; simp at g3
   ·exact g
  unfold stroke at hk ⊢
  omega
 ·rcases Nat.lt_or_ge k (stroke t) with g | g
  ·omega
  ·have e2:stroke t = k:=by omega
   exfalso
   apply e
   have h3:stroke t < t.data.toList.length:=by omega
   have h4:t.data.toList[stroke t] = 47:=List.getElem_idxOf h3
   simp only [e2] at h4
   rw [he] at h4
   rw [h4]; rfl
theorem size_minus {s:ByteArray}:size s = if minus s = true then s.extract 1 s.size else s:=by
 unfold size minus
 simp only [decide_eq_true_eq]
end Go.Proofs.Fr
