/- Numbers and fractions that stay as they are while others are made; the parts of quotients, sums and products with their signs. -/
import Derived.Test.YtcnjcfoaoaldeaaGreatDoorFw
import Derived.Test.YtcnjcfoaoaldeaaGreatDoorNd
set_option linter.unusedVariables false
namespace Go.Proofs.Fr
open Go.RowKit Go.Proofs.Wd
/-- Numbers and fractions that lie in a world, behind another one. -/
structure Lies (w0 w:World) (ns:List (Value × Int × Nat)) (fs:List (Value × Rat × Nat)):Prop where
 nums:∀ p ∈ ns,Num w p.1 p.2.1 p.2.2
 fracs:∀ p ∈ fs,FracIs w p.1 p.2.1 p.2.2
 below:Below w0.heap.size w0 w
theorem Lies.start (w:World):Lies w w [] []:=⟨fun p hp=>(List.not_mem_nil hp).elim,fun p hp=>(List.not_mem_nil hp).elim,Below.refl _ _⟩
theorem Lies.after {w0 w w':World} {ns fs} (h:Lies w0 w ns fs) (hb:Below w.heap.size w w'):Lies w0 w' ns fs:=
 ⟨fun p hp=>(h.nums p hp).below hb (Nat.le_refl _),fun p hp=>(h.fracs p hp).below hb,Below.after h.below hb⟩
theorem Lies.addN {w0 w:World} {ns fs} (h:Lies w0 w ns fs) {v:Value} {z:Int} {n:Nat} (hn:Num w v z n):Lies w0 w ((v,z,n) :: ns) fs:=
 ⟨fun p hp=>by
  rcases List.mem_cons.1 hp with rfl | hp
  ·exact hn
  ·exact h.nums p hp,h.fracs,h.below⟩
theorem Lies.addF {w0 w:World} {ns fs} (h:Lies w0 w ns fs) {v:Value} {q:Rat} {k:Nat} (hn:FracIs w v q k):Lies w0 w ns ((v,q,k) :: fs):=
 ⟨h.nums,fun p hp=>by
  rcases List.mem_cons.1 hp with rfl | hp
  ·exact hn
  ·exact h.fracs p hp,h.below⟩
theorem Lies.num {w0 w:World} {ns fs} (h:Lies w0 w ns fs) {v:Value} {z:Int} {n:Nat} (hm:(v,z,n) ∈ ns):Num w v z n:=h.nums _ hm
theorem Lies.frac {w0 w:World} {ns fs} (h:Lies w0 w ns fs) {v:Value} {q:Rat} {k:Nat} (hm:(v,q,k) ∈ fs):FracIs w v q k:=h.fracs _ hm
theorem frac_at {w:World} {v:Value} {q r:Rat} {k m:Nat} (h:FracIs w v q k) (e:q = r) (l:k ≤ m):FracIs w v r m:=by subst e; exact h.more l
theorem sgn_mul (neg:Bool) (n m:Nat):sgn neg n * (m:Int) = sgn neg (n * m):=by unfold sgn; split <;> simp [Int.natCast_mul,Int.neg_mul]
theorem sgn_div (neg:Bool) {n g:Nat} (h:g ∣ n):sgn neg n / (g:Int) = sgn neg (n / g):=by
 unfold sgn
 split
 ·rw [Int.neg_ediv_of_dvd (Int.natCast_dvd_natCast.2 h),Int.natCast_ediv]
 ·rw [Int.natCast_ediv]
theorem sgn_self (z:Int):sgn (decide (z < 0)) z.natAbs = z:=by unfold sgn; by_cases h:z < 0 <;> simp [h] <;> omega
/-- The parts of a fraction of any terms. -/
theorem mk_low (neg:Bool) (n:Nat) {d:Nat} (hd:0 < d):(mkRat (sgn neg n) d).num = sgn neg (n / Nat.gcd n d) ∧ (mkRat (sgn neg n) d).den = d / Nat.gcd n d:=by
 constructor
 ·rw [Rat.num_mkRat,if_neg (by omega),sgn_abs,Nat.gcd_comm,sgn_div neg (Nat.gcd_dvd_left _ _)]
 ·rw [Rat.den_mkRat,if_neg (by omega),sgn_abs,Nat.gcd_comm]
/-- The parts of a sum with a sign of the second one's own. -/
theorem sum_parts {a b:Rat} {nb neg:Bool} {bn n g o1 o2 l:Nat} (hb:b.num = sgn nb bn) (hg:g = Nat.gcd a.den b.den) (h1:o1 = a.den / g) (h2:o2 = b.den / g)
 (hn:sgn neg n = sgn (decide (a.num < 0)) (a.num.natAbs * o2) + sgn nb (bn * o1)) (hl:l = Nat.gcd n g):(a + b).num = sgn neg (n / l) ∧ (a + b).den = o1 * (b.den / l):=by
 have e:a.num * o2 + b.num * o1 = sgn neg n:=by
  rw [hn,← sgn_mul,← sgn_mul,sgn_self,hb]
 have h:=add_parts a b hg h1 h2 (l:=l) (by rw [e,sgn_abs]; exact hl)
 rw [e] at h
 refine ⟨?_,h.2⟩
 rw [h.1,sgn_div neg (by rw [hl]; exact Nat.gcd_dvd_left _ _)]
end Go.Proofs.Fr
