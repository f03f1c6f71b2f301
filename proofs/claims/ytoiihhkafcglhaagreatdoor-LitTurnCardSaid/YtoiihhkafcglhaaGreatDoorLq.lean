/- Literals as lists of bytes: what Get of the package lit reads. -/
import Derived.Test.YtoiihhkafcglhaaGreatDoorFz
import Derived.Test.YtoiihhkafcglhaaGreatDoorFl
import Derived.Lib.Atoi
import Derived.Lib.IndexAny
import Derived.Lib.TrimByte
import Derived.Lib.Repeat
namespace Go.Proofs.Fr
open Go.Proofs
set_option linter.unusedVariables false
def litSign (l : List UInt8) : Bool × List UInt8 := if l.head? = some 45 then (true, l.drop 1) else if l.head? = some 43 then (false, l.drop 1) else (false, l)
def digB (c : UInt8) : Bool := decide (48 ≤ c.toNat) && decide (c.toNat ≤ 57)
def allDig (l : List UInt8) : Bool := !l.isEmpty && l.all digB
def isE (c : UInt8) : Bool := c == 101 || c == 69
def powOf (l : List UInt8) : Option Int := if (litSign l).2.length ≤ 3 ∧ allDig (litSign l).2 = true ∧ Tx.dv (litSign l).2 ≤ 100 then some (sgn (litSign l).1 (Tx.dv (litSign l).2)) else none
def cutPow (l : List UInt8) : Option (List UInt8 × Int) := if l.findIdx isE < l.length then (powOf (l.drop (l.findIdx isE + 1))).map fun p => (l.take (l.findIdx isE), p) else some (l, 0)
def wholeOf (b : List UInt8) : List UInt8 := b.take (b.idxOf 46)
def partOf (b : List UInt8) : List UInt8 := b.drop (b.idxOf 46 + 1)
def scaleQ (m z : Int) : Rat := if z < 0 then mkRat m (10 ^ (-z).toNat) else ((m * 10 ^ z.toNat : Int) : Rat)
/-- The number of a literal that is not written as a fraction. -/
def decQ (l : List UInt8) : Option Rat := match cutPow (litSign l).2 with
  | none => none
  | some (b, e) => if allDig (wholeOf b ++ partOf b) = true then some (scaleQ (sgn (litSign l).1 (Tx.dv (wholeOf b ++ partOf b))) (e - (partOf b).length)) else none
/-- The number of a literal. -/
noncomputable def litQ (s : ByteArray) : Option Rat := if 40 < s.size then none else match getQ s with
  | some q => some q
  | none => decQ s.data.toList
theorem digB_iff {c : UInt8} : digB c = true ↔ Tx.isDig c := by unfold digB Tx.isDig; simp
theorem allDig_iff {l : List UInt8} : allDig l = true ↔ l ≠ [] ∧ ∀ c ∈ l, Tx.isDig c := by
  unfold allDig
  rw [Bool.and_eq_true, Bool.not_eq_true', List.all_eq_true]
  constructor
  · rintro ⟨h1, h2⟩
    exact ⟨fun e => by rw [e] at h1; simp at h1, fun c hc => digB_iff.1 (h2 c hc)⟩
  · rintro ⟨h1, h2⟩
    exact ⟨by cases l <;> simp_all, fun c hc => digB_iff.2 (h2 c hc)⟩
/-- A numeral is a fraction's text. -/
theorem getQ_numeral {l : List UInt8} (h : Tx.Numeral l) (hl : l.length ≤ 2000) : getQ ⟨l.toArray⟩ = some ((Tx.dv l : Int) : Rat) := by
  have hN := h
  obtain ⟨h0, h1, h2⟩ := h
  have hsz : size ⟨l.toArray⟩ = ⟨l.toArray⟩ := by
    unfold size
    rw [if_neg]
    show ¬ l.toArray.toList.head? = some 45
    rw [List.toList_toArray]
    intro e
    cases l with
    | nil => simp at e
    | cons c l =>
      have hc := h2 c (by simp)
      simp at e
      subst e
      unfold Tx.isDig at hc
      revert hc
      decide
  have hml : minus ⟨l.toArray⟩ = false := by
    unfold minus
    rw [decide_eq_false_iff_not]
    show ¬ l.toArray.toList.head? = some 45
    rw [List.toList_toArray]
    intro e
    cases l with
    | nil => simp at e
    | cons c l =>
      have hc := h2 c (by simp)
      simp at e
      subst e
      unfold Tx.isDig at hc
      revert hc
      decide
  have hst : stroke ⟨l.toArray⟩ = l.length := by
    unfold stroke
    show l.toArray.toList.idxOf 47 = l.length
    rw [List.toList_toArray]
    apply List.idxOf_eq_length
    intro hm
    have hc := h2 47 hm
    unfold Tx.isDig at hc
    revert hc
    decide
  have hup : upper ⟨l.toArray⟩ = ⟨l.toArray⟩ := by
    rw [← upper_all (s := ⟨l.toArray⟩) (by rw [hsz, hst]; show ¬ l.length < l.toArray.size; simp), hsz]
  have hpl : Tx.plainB ⟨l.toArray⟩ = true → getQ ⟨l.toArray⟩ = some ((Tx.dv l : Int) : Rat) := fun hp => by
    rw [getQ_whole (by rw [hsz, hst]; show ¬ l.length < l.toArray.size; simp) (by rw [hup]; exact hp) (by rw [hml]; simp), hml, hup]
    rfl
  exact hpl (Tx.plainB_true.2 ⟨by show Tx.Numeral l.toArray.toList; rw [List.toList_toArray]; exact hN, by show l.toArray.size ≤ 2000; simpa using hl⟩)
theorem dv_noughts (l : List UInt8) : Tx.dv (l.dropWhile (· == 48)) = Tx.dv l := by
  induction l with
  | nil => rfl
  | cons c l ih =>
    rw [List.dropWhile_cons]
    split
    · rename_i h
      have hc : c = 48 := by simpa using h
      subst hc
      rw [ih, Tx.dv_cons]; simp
    · rfl
theorem head_noughts (l : List UInt8) : (l.dropWhile (· == 48)).head? ≠ some 48 := by
  induction l with
  | nil => simp
  | cons c l ih =>
    rw [List.dropWhile_cons]
    split
    · exact ih
    · rename_i h
      simpa using h
theorem numeral_noughts {l : List UInt8} (h : ∀ c ∈ l, Tx.isDig c) (h0 : l.dropWhile (· == 48) ≠ []) : Tx.Numeral (l.dropWhile (· == 48)) :=
  ⟨h0, .inr (head_noughts l), fun c hc => h c ((List.dropWhile_sublist _).subset hc)⟩
theorem dv_ten (p : Nat) : Tx.dv (49 :: Lib.repeatL [48] p) = 10 ^ p := by
  have hr : ∀ p, Tx.dv (Lib.repeatL [48] p) = 0 := by
    intro p
    induction p with
    | zero => rfl
    | succ p ih => show Tx.dv (48 :: Lib.repeatL [48] p) = 0; rw [Tx.dv_cons, ih]; simp
  rw [Tx.dv_cons, hr, Lib.repeatL_length]; simp
theorem numeral_ten (p : Nat) : Tx.Numeral (49 :: Lib.repeatL [48] p) := by
  have hr : ∀ p, ∀ c ∈ Lib.repeatL [48] p, Tx.isDig c := by
    intro p
    induction p with
    | zero => intro c hc; exact (List.not_mem_nil hc).elim
    | succ p ih =>
      intro c hc
      rcases List.mem_cons.1 (show c ∈ 48 :: Lib.repeatL [48] p from hc) with rfl | hc
      · unfold Tx.isDig; decide
      · exact ih c hc
  refine ⟨by simp, .inr (by simp), fun c hc => ?_⟩
  rcases List.mem_cons.1 hc with rfl | hc
  · unfold Tx.isDig; decide
  · exact hr p c hc
theorem ten_pos (n : Nat) : ((10 ^ n : Nat) : Rat) ≠ 0 := by
  intro h
  have h2 : ((10 ^ n : Nat) : Int) = 0 := by
    have := congrArg Rat.num h
    simpa using this
  have h3 : 0 < 10 ^ n := Nat.pow_pos (by decide)
  omega
theorem scale_up (m : Int) {z : Int} (h : ¬ z < 0) : (m : Rat) * ((10 ^ z.toNat : Nat) : Int) = scaleQ m z := by
  unfold scaleQ
  rw [if_neg h, ← Rat.intCast_mul]
  congr 1
theorem scale_down (m : Int) {z : Int} (h : z < 0) : (m : Rat) / (((10 ^ (-z).toNat : Nat) : Int) : Rat) = scaleQ m z := by
  unfold scaleQ
  rw [if_pos h]
  rw [Rat.mkRat_eq_div]
  rfl
theorem scale_neg (m z : Int) : -(scaleQ m z) = scaleQ (-m) z := by
  unfold scaleQ
  split
  · rw [Rat.neg_mkRat]
  · rw [← Rat.intCast_neg, Int.neg_mul]
end Go.Proofs.Fr
