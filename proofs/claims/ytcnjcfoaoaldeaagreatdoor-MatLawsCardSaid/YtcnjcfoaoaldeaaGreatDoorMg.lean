/- Matrices: one step of an elimination; what is put back. -/
import Derived.Test.YtcnjcfoaoaldeaaGreatDoorMm
set_option linter.unusedVariables false
namespace Go.Proofs.Mm
/-- The line that tells an unknown, by its number there. -/
def pivF (E:F) (a x:Nat):Nat → Rat:=fun k=>E a k / E a x
/-- Line a comes to t, and is taken out of those behind. -/
def tellF (E:F) (t a x:Nat):F:=fun i=>if i < t then E i else if i = t then pivF E a x else fun k=>(swapRow E t a i) k + (-(swapRow E t a i) x) * pivF E a x k
theorem div_mul' {a b:Rat} (h:b ≠ 0):b * (a / b) = a:=by
 rw [Rat.div_def,Rat.mul_comm a,← Rat.mul_assoc,Rat.mul_inv_cancel _ h,Rat.one_mul]
theorem swap_old {E:F} {t a i:Nat} (h1:i ≠ t) (h2:i ≠ a):swapRow E t a i = E i:=by rw [swapRow,if_neg h1,if_neg h2]
theorem swap_at {E:F} {t a:Nat} (h:a ≠ t):swapRow E t a a = E t:=by rw [swapRow,if_neg h,if_pos rfl]
theorem tell_eq {E:F} {t a x m n:Nat} (ht:t < m) (ha:t ≤ a) (ham:a < m) (hp:E a x ≠ 0):RowEq E (tellF E t a x) m n:=by
 have hP:Span E m n (pivF E a x):=((Span.row (E:=E) ham).mul (E a x)⁻¹).congr fun k _=>by show E a k / E a x = (E a x)⁻¹ * E a k; rw [Rat.div_def,Rat.mul_comm]
 have hsp:∀ i,i < m → Span E m n (swapRow E t a i):=fun i hi=>by
  unfold swapRow
  split
  ·exact Span.row ham
  ·split
   ·exact Span.row ht
   ·exact Span.row hi
 have hT:tellF E t a x t = pivF E a x:=by rw [tellF,if_neg (by omega),if_pos rfl]
 have hQ:Span (tellF E t a x) m n (pivF E a x):=by rw [← hT]; exact Span.row ht
 have hback:∀ i,t < i → i < m → Span (tellF E t a x) m n (swapRow E t a i):=fun i hi him=>by
  have h1:Span (tellF E t a x) m n (tellF E t a x i):=Span.row him
  refine (h1.add (hQ.mul (swapRow E t a i x))).congr fun k _=>?_
  rw [tellF,if_neg (by omega),if_neg (by omega)]
  grind
 refine ⟨fun i hi=>?_,fun i hi=>?_⟩
 ·by_cases h1:i < t
  ·refine (Span.row (E:=tellF E t a x) hi).congr fun k _=>?_
   rw [tellF,if_pos h1]
  ·by_cases h2:i = a
   ·subst h2
    exact (hQ.mul (E i x)).congr fun k _=>(div_mul' hp).symm
   ·by_cases h3:i = t
    ·subst h3
     have:=hback a (by omega) ham
     rwa [swap_at (fun e=>h2 e.symm)] at this
    ·have:=hback i (by omega) hi
     rwa [swap_old h3 h2] at this
 ·by_cases h1:i < t
  ·refine (Span.row (E:=E) hi).congr fun k _=>?_
   rw [tellF,if_pos h1]
  ·by_cases h2:i = t
   ·rw [h2,hT]; exact hP
   ·refine ((hsp i hi).add (hP.mul (-(swapRow E t a i) x))).congr fun k _=>?_
    rw [tellF,if_neg h1,if_neg h2]
/-- With one unknown more. -/
def toldF (told:Nat → Nat) (t x:Nat):Nat → Nat:=fun j=>if j = t then x else told j
theorem tell_ech {E:F} {told:Nat → Nat} {t a x m u:Nat} (h:Ech E told t m u) (ht:t < m) (ha:t ≤ a) (ham:a < m) (hx:x < u) (hp:E a x ≠ 0):Ech (tellF E t a x) (toldF told t x) (t + 1) m u:=by
 have hone:pivF E a x x = 1:=by unfold pivF; rw [Rat.div_def,Rat.mul_inv_cancel _ hp]
 refine ⟨by omega,fun i hi=>?_,fun i hi=>?_,fun i j hi hij hj=>?_⟩
 ·unfold toldF
  split
  ·exact hx
  ·exact h.col i (by omega)
 ·by_cases e:i = t
  ·subst e
   rw [toldF,if_pos rfl,tellF,if_neg (by omega),if_pos rfl,hone]
  ·rw [toldF,if_neg e,tellF,if_pos (by omega),h.one i (by omega)]
 ·by_cases e:i = t
  ·subst e
   rw [toldF,if_pos rfl,tellF,if_neg (by omega),if_neg (by omega),hone]
   grind
  ·have hz:∀ b,t ≤ b → b < m → E b (told i) = 0:=fun b hb hbm=>h.nul i b (by omega) (by omega) hbm
   have hP:pivF E a x (told i) = 0:=by unfold pivF; rw [hz a ha ham,Rat.div_def,Rat.zero_mul]
   have hs:∀ b,t ≤ b → b < m → swapRow E t a b (told i) = 0:=fun b hb hbm=>by
    unfold swapRow
    split
    ·exact hz a ha ham
    ·split
     ·exact hz t (Nat.le_refl _) ht
     ·exact hz b hb hbm
   rw [toldF,if_neg e,tellF]
   by_cases h1:j < t
   ·rw [if_pos h1]; exact h.nul i j (by omega) hij hj
   ·by_cases h2:j = t
    ·rw [if_neg h1,if_pos h2,hP]
    ·rw [if_neg h1,if_neg h2,hs j (by omega) hj,hP]; grind
/-- How long numbers may become. -/
def gr (k:Nat):Nat → Nat
 | 0=>k
 | n + 1=>4 * gr k n + 1
theorem gr_le {k n m:Nat} (h:n ≤ m):gr k n ≤ gr k m:=by
 induction m with
 | zero=>rw [show n = 0 by omega]; exact Nat.le_refl _
 | succ m ih =>
   by_cases e:n = m + 1
   ·rw [e]; exact Nat.le_refl _
   ·have:=ih (by omega)
    show _ ≤ 4 * gr k m + 1
    omega
theorem gr_pos {k n:Nat} (h:1 ≤ k):1 ≤ gr k n:=Nat.le_trans h (gr_le (n:=0) (Nat.zero_le _))
theorem Ech.start (E:F) (told:Nat → Nat) (m u:Nat):Ech E told 0 m u:=⟨Nat.zero_le _,fun i hi=>by omega,fun i hi=>by omega,fun i j hi=>by omega⟩
theorem Ech.tu {E:F} {told:Nat → Nat} {t m u:Nat} (h:Ech E told t m u):t ≤ u:=by
 refine Nat.le_of_not_lt fun hu=>?_
 -- more places than unknowns: two of them are one
 have h1:∀ (n:Nat) (f:Nat → Nat),(∀ i,i < n + 1 → f i < n) → ∃ i j,i < n + 1 ∧ j < n + 1 ∧ i ≠ j ∧ f i = f j:=by
  intro n
  induction n with
  | zero=>intro f hf; have:=hf 0 (by omega); omega
  | succ n ih =>
    intro f hf
    by_cases hd:∃ i,i < n + 1 ∧ f i = f (n + 1)
    ·obtain ⟨i,hi,e⟩:=hd
     exact ⟨i,n + 1,by omega,by omega,by omega,e⟩
    ·obtain ⟨i, j, hi, hj, hne, e⟩ := ih (fun i => if f i = n then f (n + 1) else f i) (fun i hi => by
      have a:=hf i (by omega)
      have b:=hf (n + 1) (by omega)
      have c:f i ≠ f (n + 1):=fun e=>hd ⟨i,hi,e⟩
      by_cases e:f i = n
      ·simp only [e,if_true]; omega
      ·simp only [e,if_false]; omega)
     refine ⟨i,j,by omega,by omega,hne,?_⟩
     have c1:f i ≠ f (n + 1):=fun e=>hd ⟨i,hi,e⟩
     have c2:f j ≠ f (n + 1):=fun e=>hd ⟨j,hj,e⟩
     by_cases e1:f i = n <;> by_cases e2:f j = n
     ·rw [e1,e2]
     ·simp only [e1,e2,if_true,if_false] at e; exact absurd e.symm c2
     ·simp only [e1,e2,if_true,if_false] at e; exact absurd e c1
     ·simp only [e1,e2,if_false] at e; exact e
 obtain ⟨i,j,hi,hj,hne,e⟩:=h1 u told (fun i hi=>h.col i (by omega))
 exact hne (h.inj (by omega) (by omega) e)
end Go.Proofs.Mm
