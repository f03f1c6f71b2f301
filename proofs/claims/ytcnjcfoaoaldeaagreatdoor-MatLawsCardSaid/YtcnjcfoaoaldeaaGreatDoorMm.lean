/- Vectors as lists of columns and fractions: what stands where, sums, products. Matrices of fractions: what rows span, rank, what an elimination leaves, solutions. -/
import Derived.Test.YtcnjcfoaoaldeaaGreatDoorFq
set_option linter.unusedVariables false
namespace Go.Proofs.Vm
/-- The sum of a function's values ahead of n. -/
def sum (f:Nat → Rat):Nat → Rat
 | 0=>0
 | n + 1=>sum f n + f n
theorem sum_congr {f g:Nat → Rat} {n:Nat} (h:∀ i,i < n → f i = g i):sum f n = sum g n:=by
 induction n with
 | zero=>rfl
 | succ n ih=>rw [sum,sum,ih fun i hi=>h i (by omega),h n (by omega)]
theorem sum_zero {f:Nat → Rat} {n:Nat} (h:∀ i,i < n → f i = 0):sum f n = 0:=by
 induction n with
 | zero=>rfl
 | succ n ih=>rw [sum,ih fun i hi=>h i (by omega),h n (by omega),Rat.add_zero]
theorem sum_add (f g:Nat → Rat) (n:Nat):sum (fun i=>f i + g i) n = sum f n + sum g n:=by
 induction n with
 | zero=>rw [sum,sum,sum,Rat.add_zero]
 | succ n ih=>rw [sum,sum,sum,ih]; grind
theorem sum_mul (f:Nat → Rat) (k:Rat) (n:Nat):sum (fun i=>k * f i) n = k * sum f n:=by
 induction n with
 | zero=>rw [sum,sum,Rat.mul_zero]
 | succ n ih=>rw [sum,sum,ih]; grind
theorem sum_one {f:Nat → Rat} {n j:Nat} (hj:j < n) (h:∀ i,i < n → i ≠ j → f i = 0):sum f n = f j:=by
 induction n with
 | zero=>omega
 | succ n ih =>
   by_cases e:j = n
   ·subst e
    rw [sum,sum_zero fun i hi=>h i (by omega) (by omega),Rat.zero_add]
   ·rw [sum,ih (by omega) (fun i hi hne=>h i (by omega) hne),h n (by omega) (fun e2=>e e2.symm),Rat.add_zero]
end Go.Proofs.Vm
namespace Go.Proofs.Mm
open Vm (sum sum_congr sum_zero sum_add sum_mul sum_one)
/-- A matrix: by row and column. -/
abbrev F:=Nat → Nat → Rat
theorem sum_mulr (f:Nat → Rat) (k:Rat) (n:Nat):sum (fun i=>f i * k) n = sum f n * k:=by
 rw [Rat.mul_comm,← sum_mul]
 exact sum_congr fun i _=>Rat.mul_comm _ _
theorem sum_swap (f:Nat → Nat → Rat) (m n:Nat):sum (fun i=>sum (fun j=>f i j) n) m = sum (fun j=>sum (fun i=>f i j) m) n:=by
 induction m with
 | zero=>exact (sum_zero fun i _=>rfl).symm
 | succ m ih=>rw [sum,ih,← sum_add]; rfl
theorem sum_cut {f:Nat → Rat} {t m:Nat} (h:t ≤ m) (h0:∀ j,t ≤ j → j < m → f j = 0):sum f m = sum f t:=by
 induction m with
 | zero => obtain rfl : t = 0 := by omega
           rfl
 | succ m ih =>
   by_cases e:t = m + 1
   ·rw [e]
   ·rw [sum,ih (by omega) (fun j h1 h2=>h0 j h1 (by omega)),h0 m (by omega) (by omega),Rat.add_zero]
/-- Past a place. -/
def skip (p j:Nat):Nat:=if j < p then j else j + 1
theorem sum_skip {f:Nat → Rat} {p t:Nat} (h:p ≤ t):sum f (t + 1) = f p + sum (fun j=>f (skip p j)) t:=by
 induction t with
 | zero =>
   obtain rfl:p = 0:=by omega
   rw [sum,sum,sum]; grind
 | succ t ih =>
   by_cases e:p = t + 1
   ·subst e
    rw [sum,Rat.add_comm]
    congr 1
    exact sum_congr fun i hi=>by rw [skip,if_pos hi]
   ·rw [sum,ih (by omega),sum,skip,if_neg (by omega),Rat.add_assoc]
/-- With more unknowns than equations there is something beside nothing. -/
theorem null (s:Nat):∀ (t:Nat) (A:F),s < t → ∃ c:Nat → Rat,(∃ j,j < t ∧ c j ≠ 0) ∧ ∀ i,i < s → sum (fun j=>A i j * c j) t = 0:=by
 induction s with
 | zero=>exact fun t A h=>⟨fun _=>1,⟨0,h,by decide⟩,fun i hi=>by omega⟩
 | succ s ih =>
   intro t A h
   by_cases h0:∀ j,j < t → A s j = 0
   ·obtain ⟨c,h1,h2⟩:=ih t A (by omega)
    refine ⟨c,h1,fun i hi=>?_⟩
    by_cases e:i = s
    ·subst e
     exact sum_zero fun j hj=>by rw [h0 j hj,Rat.zero_mul]
    ·exact h2 i (by omega)
   ·obtain ⟨p, hp, hne⟩ : ∃ p, p < t ∧ A s p ≠ 0 := by
     refine Classical.byContradiction fun hn=>h0 fun j hj=>Classical.byContradiction fun hne=>hn ⟨j,hj,hne⟩
    obtain ⟨t,rfl⟩:∃ u,t = u + 1:=⟨t - 1,by omega⟩
    obtain ⟨c,⟨j0,hj0,hc0⟩,h2⟩:=ih t (fun i j=>A i (skip p j) - A i p * (A s p)⁻¹ * A s (skip p j)) (by omega)
    have hi:A s p * (A s p)⁻¹ = 1:=Rat.mul_inv_cancel _ hne
    have hsk:∀ j,skip p j ≠ p:=fun j=>by unfold skip; split <;> omega
    have hun:∀ j,(if skip p j < p then skip p j else skip p j - 1) = j:=fun j=>by
     unfold skip
     by_cases e:j < p
     ·rw [if_pos e,if_pos e]
     ·rw [if_neg e,if_neg (by omega)]; omega
    have key:∀ i,sum (fun j=>A i j * (if j = p then -((A s p)⁻¹ * sum (fun j=>A s (skip p j) * c j) t) else c (if j < p then j else j - 1))) (t + 1) = sum (fun j=>(A i (skip p j) - A i p * (A s p)⁻¹ * A s (skip p j)) * c j) t:=by
     intro i
     rw [sum_skip (show p ≤ t by omega),if_pos rfl]
     rw [show sum (fun j=>A i (skip p j) * (if skip p j = p then -((A s p)⁻¹ * sum (fun j=>A s (skip p j) * c j) t) else c (if skip p j < p then skip p j else skip p j - 1))) t = sum (fun j=>A i (skip p j) * c j) t from sum_congr fun j _=>by rw [if_neg (hsk j),hun]]
     rw [show sum (fun j=>(A i (skip p j) - A i p * (A s p)⁻¹ * A s (skip p j)) * c j) t = sum (fun j=>A i (skip p j) * c j + (-(A i p * (A s p)⁻¹)) * (A s (skip p j) * c j)) t from sum_congr fun j _=>by grind]
     rw [sum_add,sum_mul]
     grind
    refine ⟨fun j=>if j = p then -((A s p)⁻¹ * sum (fun j=>A s (skip p j) * c j) t) else c (if j < p then j else j - 1),⟨skip p j0,by unfold skip; split <;> omega,?_⟩,fun i hi=>?_⟩
    ·show (if skip p j0 = p then _ else c (if skip p j0 < p then skip p j0 else skip p j0 - 1)) ≠ 0
     rw [if_neg (hsk j0),hun]; exact hc0
    ·rw [key i]
     by_cases e:i = s
     ·subst e
      exact sum_zero fun j _=>by grind
     ·exact h2 i (by omega)
/-- What rows span. -/
def Span (E:F) (m n:Nat) (v:Nat → Rat):Prop:=∃ c:Nat → Rat,∀ k,k < n → v k = sum (fun j=>c j * E j k) m
theorem Span.row {E:F} {m n i:Nat} (h:i < m):Span E m n (E i):=⟨fun j=>if j = i then 1 else 0,fun k hk=>by
 show _ = Vm.sum (fun j=>(if j = i then 1 else 0) * E j k) m
 rw [sum_one (j:=i) h (fun j _ hne=>by rw [if_neg hne,Rat.zero_mul]),if_pos rfl,Rat.one_mul]⟩
theorem Span.congr {E:F} {m n:Nat} {v u:Nat → Rat} (h:Span E m n v) (e:∀ k,k < n → u k = v k):Span E m n u:=by
 obtain ⟨c,hc⟩:=h
 exact ⟨c,fun k hk=>by rw [e k hk,hc k hk]⟩
theorem Span.zero (E:F) (m n:Nat):Span E m n fun _=>0:=⟨fun _=>0,fun k _=>(sum_zero fun j _=>Rat.zero_mul _).symm⟩
theorem Span.add {E:F} {m n:Nat} {v u:Nat → Rat} (h:Span E m n v) (g:Span E m n u):Span E m n fun k=>v k + u k:=by
 obtain ⟨c,hc⟩:=h
 obtain ⟨d,hd⟩:=g
 refine ⟨fun j=>c j + d j,fun k hk=>?_⟩
 show v k + u k = _
 rw [hc k hk,hd k hk,← sum_add]
 exact sum_congr fun j _=>by grind
theorem Span.mul {E:F} {m n:Nat} {v:Nat → Rat} (h:Span E m n v) (a:Rat):Span E m n fun k=>a * v k:=by
 obtain ⟨c,hc⟩:=h
 refine ⟨fun j=>a * c j,fun k hk=>?_⟩
 show a * v k = _
 rw [hc k hk,← sum_mul]
 exact sum_congr fun j _=>by grind
theorem Span.sum {G:F} {m n:Nat} {E:F} {a:Nat} (c:Nat → Rat) (h:∀ j,j < a → Span G m n (E j)):Span G m n fun k=>Vm.sum (fun j=>c j * E j k) a:=by
 induction a with
 | zero=>exact Span.zero _ _ _
 | succ a ih=>exact (Span.add (ih fun j hj=>h j (by omega)) ((h a (by omega)).mul (c a))).congr fun k _=>rfl
theorem Span.trans {G E:F} {m a n:Nat} {v:Nat → Rat} (h:∀ j,j < a → Span G m n (E j)) (g:Span E a n v):Span G m n v:=by
 obtain ⟨c,hc⟩:=g
 exact (Span.sum c h).congr hc
theorem Span.less {E:F} {m n k:Nat} {v:Nat → Rat} (h:Span E m n v) (hk:k ≤ n):Span E m k v:=by
 obtain ⟨c,hc⟩:=h
 exact ⟨c,fun j hj=>hc j (by omega)⟩
/-- Two matrices whose rows span the same. -/
structure RowEq (M E:F) (m n:Nat):Prop where
 of:∀ i,i < m → Span E m n (M i)
 to:∀ i,i < m → Span M m n (E i)
theorem RowEq.refl (M:F) (m n:Nat):RowEq M M m n:=⟨fun i hi=>Span.row hi,fun i hi=>Span.row hi⟩
theorem RowEq.trans {M E G:F} {m n:Nat} (h:RowEq M E m n) (g:RowEq E G m n):RowEq M G m n:=
 ⟨fun i hi=>Span.trans g.of (h.of i hi),fun i hi=>Span.trans h.to (g.to i hi)⟩
theorem RowEq.less {M E:F} {m n k:Nat} (h:RowEq M E m n) (hk:k ≤ n):RowEq M E m k:=⟨fun i hi=>(h.of i hi).less hk,fun i hi=>(h.to i hi).less hk⟩
def swapRow (E:F) (a b:Nat):F:=fun i=>if i = a then E b else if i = b then E a else E i
/-- A row by a column. -/
def dotF (v x:Nat → Rat) (n:Nat):Rat:=sum (fun k=>v k * x k) n
theorem dot_sum (c:Nat → Rat) (E:F) (x:Nat → Rat) (m n:Nat):dotF (fun k=>sum (fun j=>c j * E j k) m) x n = sum (fun j=>c j * dotF (E j) x n) m:=by
 unfold dotF
 rw [show sum (fun k=>sum (fun j=>c j * E j k) m * x k) n = sum (fun k=>sum (fun j=>c j * E j k * x k) m) n from sum_congr fun k _=>(sum_mulr _ _ _).symm,sum_swap]
 refine sum_congr fun j _=>?_
 rw [← sum_mul]
 exact sum_congr fun k _=>by grind
theorem Span.null {E:F} {m n:Nat} {v x:Nat → Rat} (h:Span E m n v) (h0:∀ j,j < m → dotF (E j) x n = 0):dotF v x n = 0:=by
 obtain ⟨c,hc⟩:=h
 rw [show dotF v x n = dotF (fun k=>Vm.sum (fun j=>c j * E j k) m) x n from sum_congr fun k hk=>by rw [hc k hk],dot_sum]
 exact sum_zero fun j hj=>by rw [h0 j hj,Rat.mul_zero]
/-- A matrix by way of r numbers. -/
def Fac (M:F) (m n r:Nat):Prop:=∃ A B:F,∀ i k,i < m → k < n → M i k = sum (fun j=>A i j * B j k) r
def RankIs (M:F) (m n r:Nat):Prop:=Fac M m n r ∧ ∀ s,s < r → ¬Fac M m n s
theorem RankIs.uniq {M:F} {m n r s:Nat} (h:RankIs M m n r) (g:RankIs M m n s):r = s:=by
 rcases Nat.lt_trichotomy r s with h1 | h1 | h1
 ·exact absurd h.1 (g.2 r h1)
 ·exact h1
 ·exact absurd g.1 (h.2 s h1)
/-- What an elimination has told: of line i the unknown told i. -/
structure Ech (E:F) (told:Nat → Nat) (t m u:Nat):Prop where
 le:t ≤ m
 col:∀ i,i < t → told i < u
 one:∀ i,i < t → E i (told i) = 1
 nul:∀ i j,i < t → i < j → j < m → E j (told i) = 0
theorem Ech.inj {E:F} {told:Nat → Nat} {t m u i j:Nat} (h:Ech E told t m u) (hi:i < t) (hj:j < t) (e:told i = told j):i = j:=by
 have hle:=h.le
 rcases Nat.lt_trichotomy i j with h1 | h1 | h1
 ·have a:=h.nul i j hi h1 (by omega)
  rw [e,h.one j hj] at a
  exact absurd a (by decide)
 ·exact h1
 ·have a:=h.nul j i hj h1 (by omega)
  rw [← e,h.one i hi] at a
  exact absurd a (by decide)
/-- No line that is left has an unknown. -/
def Bare (E:F) (t m u:Nat):Prop:=∀ j k,t ≤ j → j < m → k < u → E j k = 0
theorem least_ne {c:Nat → Rat} {t:Nat} (h:∃ j,j < t ∧ c j ≠ 0):∃ j,j < t ∧ c j ≠ 0 ∧ ∀ i,i < j → c i = 0:=by
 induction t with
 | zero=>obtain ⟨j,hj,-⟩:=h; omega
 | succ t ih =>
   by_cases h1:∃ j,j < t ∧ c j ≠ 0
   ·obtain ⟨j,a,b,d⟩:=ih h1
    exact ⟨j,by omega,b,d⟩
   ·obtain ⟨j,hj,hc⟩:=h
    have:j = t:=by
     refine Classical.byContradiction fun e=>h1 ⟨j,by omega,hc⟩
    subst this
    exact ⟨j,by omega,hc,fun i hi=>Classical.byContradiction fun e=>h1 ⟨i,hi,e⟩⟩
theorem rank_of {M E:F} {told:Nat → Nat} {t m u n:Nat} (h:RowEq M E m n) (hu:u ≤ n) (e:Ech E told t m u) (b:Bare E t m u):RankIs M m u t:=by
 have hle:=e.le
 have h:=h.less hu
 constructor
 ·obtain ⟨A, hA⟩ := Classical.axiomOfChoice (r := fun (i : Nat) (c : Nat → Rat) => i < m → ∀ k, k < u → M i k = sum (fun j => c j * E j k) m) (fun i => by
   by_cases hi:i < m
   ·obtain ⟨c,hc⟩:=h.of i hi
    exact ⟨c,fun _=>hc⟩
   ·exact ⟨fun _=>0,fun g=>absurd g hi⟩)
  refine ⟨A,E,fun i k hi hk=>?_⟩
  rw [hA i hi k hk]
  exact sum_cut hle fun j h1 h2=>by rw [b j k h1 h2 hk,Rat.mul_zero]
 ·rintro s hs ⟨A,B,hAB⟩
  obtain ⟨Q,hQ⟩:=Classical.axiomOfChoice (r:=fun (i:Nat) (c:Nat → Rat)=>i < m → ∀ k,k < u → E i k = sum (fun j=>c j * M j k) m) (fun i=>by
   by_cases hi:i < m
   ·obtain ⟨c,hc⟩:=h.to i hi
    exact ⟨c,fun _=>hc⟩
   ·exact ⟨fun _=>0,fun g=>absurd g hi⟩)
  -- each line is made of the s lines of B
  have hE:∀ j k,j < m → k < u → E j k = sum (fun a=>sum (fun i=>Q j i * A i a) m * B a k) s:=by
   intro j k hj hk
   rw [hQ j hj k hk,show sum (fun i=>Q j i * M i k) m = sum (fun i=>sum (fun a=>Q j i * A i a * B a k) s) m from sum_congr fun i hi=>by
    rw [hAB i k hi hk,← sum_mul]
    exact sum_congr fun a _=>by grind,sum_swap]
   exact sum_congr fun a _=>sum_mulr _ _ _
  obtain ⟨c,hc0,hc⟩:=null s t (fun a j=>sum (fun i=>Q j i * A i a) m) hs
  obtain ⟨j0,hj0,hne,hlow⟩:=least_ne hc0
  have z:sum (fun j=>c j * E j (told j0)) t = 0:=by
   rw [show sum (fun j=>c j * E j (told j0)) t = sum (fun j=>sum (fun a=>sum (fun i=>Q j i * A i a) m * c j * B a (told j0)) s) t from sum_congr fun j hj=>by
    rw [hE j _ (by omega) (e.col j0 hj0),← sum_mul]
    exact sum_congr fun a _=>by grind,sum_swap]
   exact sum_zero fun a ha=>by rw [sum_mulr,hc a ha,Rat.zero_mul]
  rw [sum_one (j:=j0) hj0 (fun j hj hj2=>?_),e.one j0 hj0,Rat.mul_one] at z
  ·exact hne z
  ·rcases Nat.lt_or_gt_of_ne hj2 with h1 | h1
   ·rw [hlow j h1,Rat.zero_mul]
   ·rw [e.nul j0 j hj0 h1 (by omega),Rat.mul_zero]
/-- The products of two matrices; what is 1 on the way down. -/
def mulF (A B:F) (n:Nat):F:=fun i k=>sum (fun j=>A i j * B j k) n
def oneF:F:=fun i k=>if i = k then 1 else 0
theorem mul_assocF (A B C:F) (m n i k:Nat):mulF (mulF A B m) C n i k = mulF A (mulF B C n) m i k:=by
 unfold mulF
 rw [show sum (fun j=>sum (fun a=>A i a * B a j) m * C j k) n = sum (fun j=>sum (fun a=>A i a * B a j * C j k) m) n from sum_congr fun j _=>(sum_mulr _ _ _).symm,sum_swap]
 refine sum_congr fun a _=>?_
 rw [← sum_mul]
 exact sum_congr fun j _=>by grind
theorem mul_one {A:F} {n i k:Nat} (hk:k < n):mulF A oneF n i k = A i k:=by
 unfold mulF oneF
 rw [sum_one (j:=k) hk (fun j _ hne=>by rw [if_neg hne,Rat.mul_zero]),if_pos rfl,Rat.mul_one]
theorem one_mul {A:F} {n i k:Nat} (hi:i < n):mulF oneF A n i k = A i k:=by
 unfold mulF oneF
 rw [sum_one (j:=i) hi (fun j _ hne=>by rw [if_neg (fun e=>hne e.symm),Rat.zero_mul]),if_pos rfl,Rat.one_mul]
theorem mul_congr {A B C D:F} {n i k:Nat} (h:∀ j,j < n → A i j = C i j) (g:∀ j,j < n → B j k = D j k):mulF A B n i k = mulF C D n i k:=sum_congr fun j hj=>by rw [h j hj,g j hj]
theorem one_rank {n s:Nat} (hs:s < n):¬Fac oneF n n s:=by
 rintro ⟨A,B,h⟩
 obtain ⟨c,⟨j0,hj0,hne⟩,hc⟩:=null s n B hs
 refine hne ?_
 have:sum (fun k=>oneF j0 k * c k) n = 0:=by
  rw [show sum (fun k=>oneF j0 k * c k) n = sum (fun k=>sum (fun a=>A j0 a * B a k * c k) s) n from sum_congr fun k hk=>by
   rw [h j0 k hj0 hk,← sum_mulr],sum_swap]
  refine sum_zero fun a ha=>?_
  rw [show sum (fun k=>A j0 a * B a k * c k) n = sum (fun k=>A j0 a * (B a k * c k)) n from sum_congr fun k _=>by grind,sum_mul,hc a ha,Rat.mul_zero]
 rw [sum_one (j:=j0) hj0 (fun j _ hj2=>by unfold oneF; rw [if_neg (fun e=>hj2 e.symm),Rat.zero_mul])] at this
 unfold oneF at this
 rwa [if_pos rfl,Rat.one_mul] at this
theorem fac_self (M:F) (n:Nat):Fac M n n n:=⟨oneF,M,fun i k hi hk=>(one_mul hi).symm⟩
/-- Both sides of an inverse have all ranks. -/
theorem inv_rank {M X:F} {n:Nat} (h:∀ i k,i < n → k < n → mulF M X n i k = oneF i k):RankIs M n n n ∧ RankIs X n n n:=by
 refine ⟨⟨fac_self _ _,fun s hs=>?_⟩,fac_self _ _,fun s hs=>?_⟩
 ·rintro ⟨A,B,hf⟩
  refine one_rank hs ⟨A,mulF B X n,fun i k hi hk=>?_⟩
  rw [← h i k hi hk]
  show _ = mulF A (mulF B X n) s i k
  rw [← mul_assocF]
  exact mul_congr (fun j hj=>hf i j hi hj) fun j _=>rfl
 ·rintro ⟨A,B,hf⟩
  refine one_rank hs ⟨mulF M A n,B,fun i k hi hk=>?_⟩
  rw [← h i k hi hk]
  show _ = mulF (mulF M A n) B s i k
  rw [mul_assocF]
  exact mul_congr (fun j _=>rfl) fun j hj=>hf j k hj hk
/-- The inverse of the inverse is it. -/
theorem inv_inv {M X Y:F} {n:Nat} (h:∀ i k,i < n → k < n → mulF M X n i k = oneF i k) (g:∀ i k,i < n → k < n → mulF X Y n i k = oneF i k) {i k:Nat} (hi:i < n) (hk:k < n):Y i k = M i k:=by
 rw [← one_mul (A:=Y) hi,← mul_one (A:=M) hk,show mulF oneF Y n i k = mulF (mulF M X n) Y n i k from mul_congr (fun j hj=>(h i j hi hj).symm) fun _ _=>rfl,mul_assocF]
 exact mul_congr (fun _ _=>rfl) fun j hj=>g j k hj hk
/-- So many places, each once: all. -/
theorem onto (n:Nat):∀ f:Nat → Nat,(∀ i,i < n → f i < n) → (∀ i j,i < n → j < n → f i = f j → i = j) → ∀ k,k < n → ∃ i,i < n ∧ f i = k:=by
 induction n with
 | zero=>exact fun f _ _ k hk=>by omega
 | succ n ih =>
   intro f h1 h2 k hk
   have a1:∀ i,i < n → (if f i = n then f n else f i) < n:=fun i hi=>by
    split
    ·rename_i e
     have:=h1 n (by omega)
     have:f n ≠ n:=fun e2=>by have:=h2 i n (by omega) (by omega) (e.trans e2.symm); omega
     omega
    ·have:=h1 i (by omega); omega
   have a2:∀ i j,i < n → j < n → (if f i = n then f n else f i) = (if f j = n then f n else f j) → i = j:=fun i j hi hj e=>by
    by_cases c1:f i = n <;> by_cases c2:f j = n
    ·exact h2 i j (by omega) (by omega) (c1.trans c2.symm)
    ·rw [if_pos c1,if_neg c2] at e
     have:=h2 n j (by omega) (by omega) e; omega
    ·rw [if_neg c1,if_pos c2] at e
     have:=h2 i n (by omega) (by omega) e; omega
    ·rw [if_neg c1,if_neg c2] at e
     exact h2 i j (by omega) (by omega) e
   have g:=ih (fun i=>if f i = n then f n else f i) a1 a2
   by_cases e:f n = n
   ·by_cases ek:k = n
    ·exact ⟨n,by omega,by rw [e,ek]⟩
    ·obtain ⟨i,hi,hf⟩:=g k (by omega)
     split at hf
     ·exact ⟨n,by omega,hf⟩
     ·exact ⟨i,by omega,hf⟩
   ·by_cases ek:k = n
    ·obtain ⟨i,hi,hf⟩:=g (f n) (by have:=h1 n (by omega); omega)
     split at hf
     ·rename_i c; exact ⟨i,by omega,by rw [c,ek]⟩
     ·have:=h2 i n (by omega) (by omega) hf; omega
    ·obtain ⟨i,hi,hf⟩:=g k (by omega)
     split at hf
     ·exact ⟨n,by omega,hf⟩
     ·exact ⟨i,by omega,hf⟩
theorem sum_perm {n:Nat} {p:Nat → Nat} (h1:∀ i,i < n → p i < n) (h2:∀ i j,i < n → j < n → p i = p j → i = j) (f:Nat → Rat):sum f n = sum (fun j=>f (p j)) n:=by
 rw [show sum f n = sum (fun k=>sum (fun j=>if p j = k then f k else 0) n) n from sum_congr fun k hk=>by
  obtain ⟨i,hi,e⟩:=onto n p h1 h2 k hk
  rw [sum_one (j:=i) hi (fun j hj hne=>by rw [if_neg (fun e2=>hne (h2 j i hj hi (e2.trans e.symm)))]),if_pos e],sum_swap]
 refine sum_congr fun j hj=>?_
 rw [sum_one (j:=p j) (h1 j hj) (fun k _ hne=>by rw [if_neg (fun e=>hne e.symm)]),if_pos rfl]
/-- The sum of those from a on. -/
def tail (f:Nat → Rat) (a n:Nat):Rat:=sum (fun j=>if a ≤ j then f j else 0) n
theorem Ech.dot {E:F} {told:Nat → Nat} {m u i:Nat} (h:Ech E told u m u) (hi:i < u) (x:Nat → Rat):dotF (E i) x u = x (told i) + tail (fun j=>E i (told j) * x (told j)) (i + 1) u:=by
 have hle:=h.le
 unfold dotF tail
 rw [sum_perm h.col (fun a b ha hb e=>h.inj ha hb e)]
 rw [show sum (fun j=>E i (told j) * x (told j)) u = sum (fun j=>(if j = i then x (told i) else 0) + (if i + 1 ≤ j then E i (told j) * x (told j) else 0)) u from sum_congr fun j hj=>by
  rcases Nat.lt_trichotomy j i with h1 | h1 | h1
  ·rw [h.nul j i hj h1 (by omega),if_neg (by omega),if_neg (by omega)]; grind
  ·subst h1
   rw [if_pos rfl,if_neg (by omega),h.one j hj]; grind
  ·rw [if_neg (by omega),if_pos (by omega)]; grind,sum_add]
 congr 1
 rw [sum_one (j:=i) hi (fun j _ hne=>by rw [if_neg hne]),if_pos rfl]
/-- What is put back solves. -/
theorem back_solves {E:F} {told:Nat → Nat} {m u:Nat} (h:Ech E told u m u) {b x X:Nat → Rat} (hx:∀ j,j < u → x (told j) = X j) (hX:∀ i,i < u → X i = b i - tail (fun j=>E i (told j) * X j) (i + 1) u) {i:Nat} (hi:i < u):dotF (E i) x u = b i:=by
 rw [h.dot hi,hx i hi,hX i hi]
 have:tail (fun j=>E i (told j) * x (told j)) (i + 1) u = tail (fun j=>E i (told j) * X j) (i + 1) u:=sum_congr fun j hj=>by
  show (if i + 1 ≤ j then E i (told j) * x (told j) else 0) = if i + 1 ≤ j then E i (told j) * X j else 0
  rw [hx j hj]
 rw [this]
 grind
/-- Where all unknowns are told nothing goes to nothing. -/
theorem Ech.zero {E:F} {told:Nat → Nat} {m u:Nat} (h:Ech E told u m u) {x:Nat → Rat} (h0:∀ i,i < u → dotF (E i) x u = 0):∀ k,k < u → x k = 0:=by
 have hd:∀ d i,i < u → u - i ≤ d → x (told i) = 0:=by
  intro d
  induction d with
  | zero=>intro i hi h1; omega
  | succ d ih =>
    intro i hi h1
    have:=h0 i hi
    rw [h.dot hi,show tail (fun j=>E i (told j) * x (told j)) (i + 1) u = 0 from sum_zero fun j hj=>by
     by_cases e:i + 1 ≤ j
     ·rw [if_pos e]
      show E i (told j) * x (told j) = 0
      rw [ih j hj (by omega),Rat.mul_zero]
     ·rw [if_neg e],Rat.add_zero] at this
    exact this
 intro k hk
 obtain ⟨i,hi,e⟩:=onto u told h.col (fun a b ha hb e=>h.inj ha hb e) k hk
 rw [← e]
 exact hd u i hi (by omega)
theorem dot_sub (v x y:Nat → Rat) (n:Nat):dotF v (fun k=>x k - y k) n = dotF v x n - dotF v y n:=by
 unfold dotF
 rw [show sum (fun k=>v k * (x k - y k)) n = sum (fun k=>v k * x k + -1 * (v k * y k)) n from sum_congr fun k _=>by grind,sum_add,sum_mul]
 grind
/-- x behind which -1 stands at one place of the right sides. -/
def ext (x:Nat → Rat) (u c:Nat):Nat → Rat:=fun k=>if k < u then x k else if k = u + c then -1 else 0
theorem dot_ext (v x:Nat → Rat) {u r c:Nat} (hc:c < r):dotF v (ext x u c) (u + r) = dotF v x u - v (u + c):=by
 have key:∀ r,dotF v (ext x u c) (u + r) = dotF v x u - (if c < r then v (u + c) else 0):=by
  intro r
  induction r with
  | zero =>
    rw [if_neg (by omega)]
    rw [show dotF v x u - 0 = dotF v x u by grind]
    exact sum_congr fun k hk=>by unfold ext; rw [if_pos (show k < u from hk)]
  | succ r ih =>
    show dotF v (ext x u c) (u + r) + v (u + r) * ext x u c (u + r) = _
    rw [ih]
    unfold ext
    rw [if_neg (show ¬u + r < u by omega)]
    by_cases e:r = c
    ·subst e
     rw [if_neg (by omega),if_pos rfl,if_pos (by omega)]; grind
    ·rw [if_neg (show ¬u + r = u + c by omega)]
     by_cases e2:c < r
     ·rw [if_pos e2,if_pos (by omega)]; grind
     ·rw [if_neg e2,if_neg (by omega)]; grind
 rw [key,if_pos hc]
/-- The same lines have the same solutions. -/
theorem RowEq.solves {M E:F} {m u r c:Nat} (h:RowEq M E m (u + r)) (hc:c < r) {x:Nat → Rat}:(∀ i,i < m → dotF (M i) x u = M i (u + c)) ↔ (∀ i,i < m → dotF (E i) x u = E i (u + c)):=by
 constructor
 ·intro g i hi
  have:=(h.to i hi).null (x:=ext x u c) (fun j hj=>by rw [dot_ext _ _ hc,g j hj]; grind)
  rw [dot_ext _ _ hc] at this
  grind
 ·intro g i hi
  have:=(h.of i hi).null (x:=ext x u c) (fun j hj=>by rw [dot_ext _ _ hc,g j hj]; grind)
  rw [dot_ext _ _ hc] at this
  grind
/-- Of two solutions there is one. -/
theorem Ech.uniq {M E:F} {told:Nat → Nat} {m u r:Nat} (h:RowEq M E m (u + r)) (e:Ech E told u m u) {x y b:Nat → Rat} (hx:∀ i,i < m → dotF (M i) x u = b i) (hy:∀ i,i < m → dotF (M i) y u = b i):∀ k,k < u → x k = y k:=by
 intro k hk
 have h:=h.less (Nat.le_add_right u r)
 have hle:=e.le
 have:=e.zero (x:=fun k=>x k - y k) (fun i hi=>(h.to i (by omega)).null fun j hj=>by rw [dot_sub,hx j hj,hy j hj]; grind) k hk
 grind
end Go.Proofs.Mm
