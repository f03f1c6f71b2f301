/- Vectors as lists of columns and fractions: what stands where, sums, products. -/
import Derived.Test.YtcnjcfoaoaldeaaGreatDoorFq
set_option linter.unusedVariables false
namespace Go.Proofs.Vm
abbrev T := List (Int × Rat)
/-- The columns rise. -/
def Rise (v : T) : Prop := v.Pairwise fun a b => a.1 < b.1
/-- What stands in a column. -/
def at_ : (v : T) → (i : Int) → Rat
 | [], _ => 0
 | t :: v, i => if t.1 = i then t.2 else at_ v i
theorem at_nil (i : Int) : at_ [] i = 0 := rfl
/-- Those that are not 0. -/
def keep (v : T) : T := v.filter fun t => decide (t.2 ≠ 0)
def times (k : Rat) (t : Int × Rat) : Int × Rat := (t.1, t.2 * k)
/-- v and k times w, as the program goes. -/
def add (k : Rat) : T → T → T
 | [], r => r.map (times k)
 | a :: l, [] => a :: l
 | a :: l, b :: r =>
   if a.1 < b.1 then a :: add k l (b :: r)
   else if b.1 < a.1 then times k b :: add k (a :: l) r
   else if a.2 + b.2 * k = 0 then add k l r else (a.1, a.2 + b.2 * k) :: add k l r
termination_by l r => l.length + r.length
/-- The sum of the products, from s on, as the program goes. -/
def dot (s : Rat) : T → T → Rat
 | [], _ => s
 | _ :: _, [] => s
 | a :: l, b :: r =>
   if a.1 = b.1 then dot (s + a.2 * b.2) l r
   else if a.1 < b.1 then dot s l (b :: r) else dot s (a :: l) r
termination_by l r => l.length + r.length
theorem rise_tail {t : Int × Rat} {v : T} (h : Rise (t :: v)) : Rise v := (List.pairwise_cons.1 h).2
theorem rise_head {t : Int × Rat} {v : T} (h : Rise (t :: v)) : ∀ u ∈ v, t.1 < u.1 := (List.pairwise_cons.1 h).1
theorem at_out {v : T} {i : Int} (h : ∀ t ∈ v, t.1 ≠ i) : at_ v i = 0 := by
 induction v with
 | nil => rfl
 | cons t v ih =>
   rw [at_, if_neg (h t (by simp))]
   exact ih fun u hu => h u (List.mem_cons_of_mem _ hu)
theorem at_head {t : Int × Rat} {v : T} : at_ (t :: v) t.1 = t.2 := by rw [at_, if_pos rfl]
theorem at_mem {v : T} (h : Rise v) {t : Int × Rat} (ht : t ∈ v) : at_ v t.1 = t.2 := by
 induction v with
 | nil => simp at ht
 | cons u v ih =>
   rcases List.mem_cons.1 ht with rfl | ht
   ·exact at_head
   ·have := rise_head h t ht
    rw [at_, if_neg (by omega)]
    exact ih (rise_tail h) ht
theorem at_keep (v : T) (h : Rise v) (i : Int) : at_ (keep v) i = at_ v i := by
 induction v with
 | nil => rfl
 | cons t v ih =>
   have ih := ih (rise_tail h)
   unfold keep at ih ⊢
   rw [List.filter_cons]
   by_cases h0 : t.2 = 0
   ·rw [if_neg (by simp [h0]), ih, at_]
    by_cases e : t.1 = i
    ·rw [if_pos e, h0]
     exact at_out fun u hu => by have := rise_head h u hu; omega
    ·rw [if_neg e]
   ·rw [if_pos (by simp [h0]), at_, at_, ih]
theorem rise_keep {v : T} (h : Rise v) : Rise (keep v) := List.Pairwise.filter _ h
theorem mem_keep {v : T} {t : Int × Rat} (h : t ∈ keep v) : t ∈ v := (List.mem_filter.1 h).1
/-- The sum of a function's values ahead of n. -/
def sum (f : Nat → Rat) : Nat → Rat
 | 0 => 0
 | n + 1 => sum f n + f n
theorem sum_congr {f g : Nat → Rat} {n : Nat} (h : ∀ i, i < n → f i = g i) : sum f n = sum g n := by
 induction n with
 | zero => rfl
 | succ n ih => rw [sum, sum, ih fun i hi => h i (by omega), h n (by omega)]
theorem sum_zero {f : Nat → Rat} {n : Nat} (h : ∀ i, i < n → f i = 0) : sum f n = 0 := by
 induction n with
 | zero => rfl
 | succ n ih => rw [sum, ih fun i hi => h i (by omega), h n (by omega), Rat.add_zero]
theorem sum_add (f g : Nat → Rat) (n : Nat) : sum (fun i => f i + g i) n = sum f n + sum g n := by
 induction n with
 | zero => rw [sum, sum, sum, Rat.add_zero]
 | succ n ih => rw [sum, sum, sum, ih]; grind
/-- The sum of the products over all columns. -/
def dotS (n : Nat) (v w : T) : Rat := sum (fun i => at_ v i * at_ w i) n
/-- All columns are 0 to n - 1. -/
def In (n : Nat) (v : T) : Prop := ∀ t ∈ v, 0 ≤ t.1 ∧ t.1 < n
theorem In.tail {n : Nat} {t : Int × Rat} {v : T} (h : In n (t :: v)) : In n v := fun u hu => h u (List.mem_cons_of_mem _ hu)
theorem sum_one {f : Nat → Rat} {n j : Nat} (hj : j < n) (h : ∀ i, i < n → i ≠ j → f i = 0) : sum f n = f j := by
 induction n with
 | zero => omega
 | succ n ih =>
   by_cases e : j = n
   ·subst e
    rw [sum, sum_zero fun i hi => h i (by omega) (by omega), Rat.zero_add]
   ·rw [sum, ih (by omega) (fun i hi hne => h i (by omega) hne), h n (by omega) (fun e2 => e e2.symm), Rat.add_zero]
theorem dotS_nil (n : Nat) (w : T) : dotS n [] w = 0 := sum_zero fun i _ => by rw [at_, Rat.zero_mul]
theorem dotS_nil' (n : Nat) (w : T) : dotS n w [] = 0 := sum_zero fun i _ => by rw [at_nil, Rat.mul_zero]
/-- A column alone counts once. -/
theorem dotS_cons {n : Nat} {a : Int × Rat} {l w : T} (ha : 0 ≤ a.1 ∧ a.1 < n) (hl : Rise (a :: l)) : dotS n (a :: l) w = a.2 * at_ w a.1 + dotS n l w := by
 have e : ∀ i : Nat, i < n → at_ (a :: l) i * at_ w i = (if (i : Int) = a.1 then a.2 * at_ w a.1 else 0) + at_ l i * at_ w i := by
  intro i hi
  rw [at_]
  by_cases h : a.1 = i
  ·rw [if_pos h, if_pos h.symm, at_out (v := l), Rat.zero_mul, Rat.add_zero, h]
   intro t ht; have := rise_head hl t ht; omega
  ·rw [if_neg h, if_neg (fun g => h g.symm), Rat.zero_add]
 unfold dotS
 rw [sum_congr e, sum_add]
 congr 1
 rw [sum_one (j := a.1.toNat) (by omega) (fun i hi hne => by rw [if_neg (by omega)]), if_pos (by omega)]
theorem sum_comm_mul (v w : T) (n : Nat) : dotS n v w = dotS n w v := sum_congr fun i _ => Rat.mul_comm _ _
theorem dot_eq {n : Nat} (s : Rat) (l r : T) (hl : Rise l) (hr : Rise r) (il : In n l) (ir : In n r) : dot s l r = s + dotS n l r := by
 fun_induction dot s l r with
 | case1 s r => rw [dotS_nil, Rat.add_zero]
 | case2 s a l => rw [dotS_nil', Rat.add_zero]
 | case3 s a l b r h ih =>
   rw [ih (rise_tail hl) (rise_tail hr) il.tail ir.tail, dotS_cons (il a (by simp)) hl, sum_comm_mul l (b :: r), dotS_cons (ir b (by simp)) hr, h, at_head, at_out (v := l), sum_comm_mul r l]
   ·grind
   ·intro t ht; have := rise_head hl t ht; omega
 | case4 s a l b r h h2 ih =>
   rw [ih (rise_tail hl) hr il.tail ir, dotS_cons (il a (by simp)) hl, at_out (v := b :: r)]
   ·grind
   ·intro t ht
    rcases List.mem_cons.1 ht with rfl | ht
    ·omega
    ·have := rise_head hr t ht; omega
 | case5 s a l b r h h2 ih =>
   rw [ih hl (rise_tail hr) il ir.tail, sum_comm_mul (a :: l) (b :: r), dotS_cons (ir b (by simp)) hr, at_out (v := a :: l), sum_comm_mul r (a :: l)]
   ·grind
   ·intro t ht
    rcases List.mem_cons.1 ht with rfl | ht
    ·omega
    ·have := rise_head hl t ht; omega
end Go.Proofs.Vm
