/- Fractions as texts: which texts are one, its own; the sum's and the product's parts in lowest terms. -/
import Derived.Test.YtcnjcfoaoaldeaaGreatDoorTx
set_option linter.unusedVariables false
namespace Go.Proofs.Fr
open Go.Proofs
/-- A number with a sign. -/
def sgn (neg:Bool) (n:Nat):Int:=if neg then -(n:Int) else n
theorem sgn_abs (neg:Bool) (n:Nat):(sgn neg n).natAbs = n:=by unfold sgn; split <;> omega
theorem sgn_neg (neg:Bool) (n:Nat):decide (sgn neg n < 0) = (neg && decide (0 < n)):=by cases neg <;> simp [sgn]
/-- The text of a fraction. -/
def textQ (q:Rat):List UInt8:=(if q.num < 0 then [45] else []) ++ (Lib.decDigits q.num.natAbs ++ (if q.den = 1 then [] else 47 :: Lib.decDigits q.den))
/-- What stands behind a sign. -/
def size (s:ByteArray):ByteArray:=if s.data.toList.head? = some 45 then s.extract 1 s.size else s
/-- Where the stroke stands. -/
def stroke (t:ByteArray):Nat:=t.data.toList.idxOf 47
/-- The fraction that a text shows, if it is just its text. -/
noncomputable def getQ (s:ByteArray):Option Rat:=
 let t:=size s
 let k:=stroke t
 let u:=t.extract 0 k
 let neg:=decide (s.data.toList.head? = some 45)
 if Tx.plainB u = true ∧ ¬(neg = true ∧ Tx.num u = 0) then
  if k < t.size then
   let l:=t.extract (k + 1) t.size
   if Tx.plainB l = true ∧ Nat.gcd (Tx.num u) (Tx.num l) = 1 ∧ 1 < Tx.num l then some (mkRat (sgn neg (Tx.num u)) (Tx.num l)) else none
  else some ((sgn neg (Tx.num u):Int):Rat)
 else none
theorem mk_parts {z:Int} {d:Nat} (hd:0 < d) (h:Nat.gcd z.natAbs d = 1):(mkRat z d).num = z ∧ (mkRat z d).den = d:=by
 have h2:d.gcd z.natAbs = 1:=by rw [Nat.gcd_comm]; exact h
 constructor
 ·rw [Rat.num_mkRat,if_neg (by omega),h2]; simp
 ·rw [Rat.den_mkRat,if_neg (by omega),h2]; simp
theorem head_drop {l:List UInt8} {c:UInt8} (h:l.head? = some c):l = c :: l.drop 1:=by
 cases l with
 | nil=>simp at h
 | cons a l=>simp at h; rw [h]; rfl
theorem size_list (s:ByteArray):s.data.toList = (if s.data.toList.head? = some 45 then [45] else []) ++ (size s).data.toList:=by
 unfold size
 split
 ·rename_i h
  rw [Tx.extract_list,List.take_of_length_le (by rw [Tx.length_list]; omega)]
  exact head_drop h
 ·rfl
theorem stroke_list (t:ByteArray):t.data.toList = (t.extract 0 (stroke t)).data.toList ++ (if stroke t < t.size then 47 :: (t.extract (stroke t + 1) t.size).data.toList else []):=by
 rw [Tx.extract_list,Tx.extract_list,List.drop_zero]
 split
 ·rename_i h
  have hm:(47:UInt8) ∈ t.data.toList:=by
   rw [← List.idxOf_lt_length_iff,Tx.length_list]; exact h
  rw [List.take_of_length_le (i:=t.size) (by rw [Tx.length_list]; omega)]
  have h2:t.data.toList[stroke t]'(by rw [Tx.length_list]; exact h) = 47:=List.getElem_idxOf _
  conv=>lhs; rw [← List.take_append_drop (stroke t) t.data.toList]
  congr 1
  rw [List.drop_eq_getElem_cons (by rw [Tx.length_list]; exact h),h2]
 ·rename_i h
  rw [List.take_of_length_le (by rw [Tx.length_list]; omega)]; simp
theorem textQ_of {q:Rat} {neg:Bool} {n d:Nat} (hn:q.num = sgn neg n) (hd:q.den = d) (h0:¬(neg = true ∧ n = 0)) :
 textQ q = (if neg then [45] else []) ++ (Lib.decDigits n ++ (if d = 1 then [] else 47 :: Lib.decDigits d)):=by
 unfold textQ
 rw [hn,hd,sgn_abs]
 congr 1
 cases neg <;> simp [sgn]
 intro h
 simp at h0
 omega
theorem getQ_text {s:ByteArray} {q:Rat} (h:getQ s = some q):textQ q = s.data.toList:=by
 unfold getQ at h
 simp only at h
 split at h
 ·rename_i h1
  obtain ⟨h1,h2⟩:=h1
  have e1:=size_list s
  have e2:=stroke_list (size s)
  split at h
  ·rename_i h3
   rw [if_pos h3] at e2
   split at h
   ·rename_i h4
    obtain ⟨h4,h5,h6⟩:=h4
    simp only [Option.some.injEq] at h
    have hp:=mk_parts (z:=sgn (decide (s.data.toList.head? = some 45)) (Tx.num ((size s).extract 0 (stroke (size s))))) (d:=Tx.num ((size s).extract (stroke (size s) + 1) (size s).size)) (by omega) (by rw [sgn_abs]; exact h5)
    rw [h] at hp
    rw [textQ_of hp.1 hp.2 h2,if_neg (show ¬ Tx.num ((size s).extract (stroke (size s) + 1) (size s).size) = 1 by omega),Tx.plainB_text h1,Tx.plainB_text h4]
    refine Eq.trans ?_ e1.symm
    rw [e2]
    by_cases h7:s.data.toList.head? = some 45
    ·rw [if_pos (by simp [h7]),if_pos h7]
    ·rw [if_neg (by simp [h7]),if_neg h7]
   ·simp at h
  ·rename_i h3
   rw [if_neg h3] at e2
   simp only [Option.some.injEq] at h
   have hn:q.num = sgn (decide (s.data.toList.head? = some 45)) (Tx.num ((size s).extract 0 (stroke (size s)))):=by rw [← h]; simp
   have hd:q.den = 1:=by rw [← h]; simp
   rw [textQ_of hn hd h2,if_pos (show (1:Nat) = 1 from rfl),Tx.plainB_text h1]
   refine Eq.trans ?_ e1.symm
   rw [e2]
   by_cases h7:s.data.toList.head? = some 45
   ·rw [if_pos (by simp [h7]),if_pos h7]
   ·rw [if_neg (by simp [h7]),if_neg h7]
 ·simp at h
/-- The parts of a sum by the way of the least work. -/
theorem add_parts (a b:Rat) {g o1 o2 l:Nat} (hg:g = Nat.gcd a.den b.den) (h1:o1 = a.den / g) (h2:o2 = b.den / g) (hl:l = Nat.gcd (a.num * o2 + b.num * o1).natAbs g) :
 (a + b).num = (a.num * o2 + b.num * o1) / l ∧ (a + b).den = o1 * (b.den / l):=by
 have haux:=Rat.add.aux a b hg h1 h2
 simp only at haux
 have hd1:=a.den_pos
 have hd2:=b.den_pos
 have g0:0 < g:=by rw [hg]; exact Nat.gcd_pos_of_pos_left _ hd1
 have e1:a.den = o1 * g:=by rw [h1]; exact (Nat.div_mul_cancel (by rw [hg]; exact Nat.gcd_dvd_left _ _)).symm
 have e2:b.den = o2 * g:=by rw [h2]; exact (Nat.div_mul_cancel (by rw [hg]; exact Nat.gcd_dvd_right _ _)).symm
 have o1p:0 < o1:=by (rcases Nat.eq_zero_or_pos o1 with h | h; (rw [h,Nat.zero_mul] at e1; omega); exact h)
 have hdn:o1 * b.den ≠ 0:=Nat.mul_ne_zero (by omega) (by omega)
 have hs:a + b = Rat.normalize (a.num * o2 + b.num * o1) (o1 * b.den) hdn:=by
  rw [Rat.add_def',← Rat.normalize_eq_mkRat (Nat.mul_ne_zero a.den_nz b.den_nz),← Rat.normalize_mul_right hdn (show g ≠ 0 by omega)]
  congr 1
  ·rw [e1,e2,Int.natCast_mul,Int.natCast_mul]; grind
  ·rw [e1]; grind
 have hll:(a.num * o2 + b.num * o1).natAbs.gcd (o1 * b.den) = l:=by rw [hl]; exact haux.symm
 constructor
 ·rw [hs,Rat.num_normalize,hll]
 ·rw [hs,Rat.den_normalize,hll]
  refine Nat.mul_div_assoc _ ?_
  have:l ∣ g:=by rw [hl]; exact Nat.gcd_dvd_right _ _
  exact Nat.dvd_trans this ⟨o2,by rw [e2]; grind⟩
/-- The parts of a product. -/
theorem mul_parts (a b:Rat) {f s:Nat} (hf:f = Nat.gcd a.num.natAbs b.den) (hs:s = Nat.gcd b.num.natAbs a.den) :
 (a * b).num = (a.num / f) * (b.num / s) ∧ (a * b).den = (a.den / s) * (b.den / f):=by
 subst hf; subst hs
 constructor
 ·show (Rat.mul a b).num = _; rw [Rat.mul]; simp
 ·show (Rat.mul a b).den = _; rw [Rat.mul]; simp [Nat.divExact_eq_div]
/-- What Text puts together. -/
def shown (b c:Bool) (t u:ByteArray):ByteArray:=if c then (if b then ⟨#[45]⟩ ++ t else t) else (if b then ⟨#[45]⟩ ++ t else t) ++ ⟨#[47]⟩ ++ u
theorem shown_text (q:Rat):shown (decide (q.num < 0)) (decide (q.den = 1)) ⟨(Lib.decDigits q.num.natAbs).toArray⟩ ⟨(Lib.decDigits q.den).toArray⟩ = ⟨(textQ q).toArray⟩:=by
 unfold shown textQ
 by_cases h:q.num < 0 <;> by_cases g:q.den = 1 <;> simp only [h,g,decide_true,decide_false,if_true,if_false,Bool.false_eq_true] <;> (apply ByteArray.ext; simp)
end Go.Proofs.Fr
