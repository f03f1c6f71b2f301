/- How many words a fraction's parts need: of sums, products and quotients by each side's own count. Terms of vectors as they lie in memory; what list, Len, none of the package vec return. What Dot of the package vec returns. What Add of the package vec returns. Rows of terms that a call makes for itself: what append does to them. -/
import Derived.Test.YtcnjcfoaoaldeaaGreatDoorFp
import Derived.Test.YtcnjcfoaoaldeaaGreatDoorFt
import Derived.Test.YtcnjcfoaoaldeaaGreatDoorMm
import Derived.Test.YtcnjcfoaoaldeaaGreatDoorCa
import Derived.Outline
import Derived.Lib.Hide
import Derived.Deep.DeepCutAuto
import Derived.Deep.RegionHeld3
import Derived.RegionTactic
import Derived.ChangeAlike
import Derived.Laws.AppendOwn
import Derived.Laws.OwnMore
import Derived.Test.YtcnjcfoaoaldeaaGreatDoorRn
set_option linter.unusedVariables false
namespace Go.Proofs.Fr
open Go.RowKit Go.Proofs.Wd
theorem num_fit {w:World} {v:Value} {z:Int} {n m:Nat} (h:Num w v z n) (hz:z < 18446744073709551616 ^ m):Num w v z m:=by
 obtain ⟨xs,h1,h2,h3,h4,h5⟩:=h
 refine ⟨xs,h1,h2,h3,h4,?_⟩
 by_cases h0:xs = []
 ·subst h0; simp
 ·have ht:=top_pos h2 h3 h0
  rw [h4] at ht
  by_cases hc:xs.length ≤ m
  ·exact hc
  ·have:=pow_mono' (i:=m) (j:=xs.length - 1) (by omega)
   omega
/-- Both parts have at most k words. -/
def Sz (q:Rat) (k:Nat):Prop:=q.num.natAbs < 18446744073709551616 ^ k ∧ q.den < 18446744073709551616 ^ k
theorem cast_pow (k:Nat):((18446744073709551616 ^ k:Nat):Int) = (18446744073709551616:Int) ^ k:=by rw [Int.natCast_pow]; rfl
theorem lt_cast {a k:Nat}:(a:Int) < (18446744073709551616:Int) ^ k ↔ a < 18446744073709551616 ^ k:=by rw [← cast_pow]; exact Int.ofNat_lt
theorem FracIs.sz {w:World} {v:Value} {q:Rat} {k:Nat} (h:FracIs w v q k) (hk:1 ≤ k):Sz q k:=
 ⟨lt_cast.1 (h.lt hk).1,lt_cast.1 (h.lt hk).2⟩
theorem FracIs.fit {w:World} {v:Value} {q:Rat} {k m:Nat} (h:FracIs w v q k) (hz:Sz q m):FracIs w v q m:=by
 rcases h with h | ⟨a,h1,h2,h3,h4⟩
 ·exact .inl h
 ·refine .inr ⟨a,h1,h2,h3,?_⟩
  rcases h4 with h4 | ⟨g1,g2,g3,b,p,r,g4,g5,g6,g7,g8,g9⟩
  ·exact .inl h4
  ·exact .inr ⟨g1,g2,g3,b,p,r,g4,g5,g6,g7,num_fit g8 (lt_cast.2 hz.1),num_fit g9 (lt_cast.2 hz.2)⟩
theorem mk_le (n:Int) {d:Nat} (hd:0 < d):(mkRat n d).num.natAbs ≤ n.natAbs ∧ (mkRat n d).den ≤ d:=by
 have h:=mk_low (decide (n < 0)) n.natAbs hd
 rw [sgn_self] at h
 rw [h.1,h.2,sgn_abs]
 exact ⟨Nat.div_le_self _ _,Nat.div_le_self _ _⟩
theorem mul_lt {a b x y:Nat} (h1:a < x) (h2:b < y):a * b < x * y:=Nat.mul_lt_mul'' h1 h2
theorem Sz.mul {a b:Rat} {i j:Nat} (ha:Sz a i) (hb:Sz b j):Sz (a * b) (i + j):=by
 have e:a * b = mkRat (a.num * b.num) (a.den * b.den):=by rw [Rat.mul_def,Rat.normalize_eq_mkRat]
 have h:=mk_le (a.num * b.num) (Nat.mul_pos a.den_pos b.den_pos)
 rw [← e] at h
 rw [Int.natAbs_mul] at h
 unfold Sz
 rw [Nat.pow_add]
 exact ⟨Nat.lt_of_le_of_lt h.1 (mul_lt ha.1 hb.1),Nat.lt_of_le_of_lt h.2 (mul_lt ha.2 hb.2)⟩
theorem Sz.add {a b:Rat} {i j:Nat} (ha:Sz a i) (hb:Sz b j):Sz (a + b) (i + j + 1):=by
 have e:a + b = mkRat (a.num * b.den + b.num * a.den) (a.den * b.den):=by rw [Rat.add_def,Rat.normalize_eq_mkRat]
 have h:=mk_le (a.num * b.den + b.num * a.den) (Nat.mul_pos a.den_pos b.den_pos)
 rw [← e] at h
 have h3:(a.num * b.den + b.num * a.den).natAbs ≤ a.num.natAbs * b.den + b.num.natAbs * a.den:=by
  refine Nat.le_trans (Int.natAbs_add_le _ _) ?_
  rw [Int.natAbs_mul,Int.natAbs_mul]
  simp
 have h4:=mul_lt ha.1 hb.2
 have h5:=mul_lt hb.1 ha.2
 have h6:=mul_lt ha.2 hb.2
 have h7:(18446744073709551616:Nat) ^ j * 18446744073709551616 ^ i = 18446744073709551616 ^ i * 18446744073709551616 ^ j:=Nat.mul_comm _ _
 unfold Sz
 rw [Nat.pow_succ,Nat.pow_add]
 rw [h7] at h5
 obtain ⟨h1,h2⟩:=h
 generalize (18446744073709551616:Nat) ^ i * 18446744073709551616 ^ j = P at *
 constructor <;> omega
theorem Sz.inv {a:Rat} {i:Nat} (ha:Sz a i) (h0:a ≠ 0):Sz a⁻¹ i:=by
 have hz:a.num ≠ 0:=fun e=>h0 (Rat.num_eq_zero.1 e)
 unfold Sz
 rw [Rat.den_inv,if_neg hz,Rat.num_inv,Int.natAbs_mul]
 refine ⟨?_,ha.1⟩
 rcases Int.lt_trichotomy a.num 0 with h | h | h
 ·rw [Int.sign_eq_neg_one_of_neg h]; simpa using ha.2
 ·exact absurd h hz
 ·rw [Int.sign_eq_one_of_pos h]; simpa using ha.2
theorem Tryz.addA (u v:Value) (a b:Rat) (i j:Nat) (w:World) (hu:FracIs w u a i) (hv:FracIs w v b j) (hi:1 ≤ i) (hj:1 ≤ j) (hi9:i ≤ 30000000000) (hj9:j ≤ 30000000000) :
 Calls Tryz.prog 40 #[u,v] w fun e w'=>(∃ r,e = .returned r ∧ FracIs w' r (a + b) (i + j + 1)) ∧ Below w.heap.size w w':=
 (Tryz.frAdd u v a b (max i j) w (hu.more (by omega)) (hv.more (by omega)) (by omega) (by omega)).mono fun e w' ⟨⟨r,h1,h2⟩,h3⟩=>
  ⟨⟨r,h1,h2.fit ((hu.sz hi).add (hv.sz hj))⟩,h3⟩
theorem Tryz.mulA (u v:Value) (a b:Rat) (i j:Nat) (w:World) (hu:FracIs w u a i) (hv:FracIs w v b j) (hi:1 ≤ i) (hj:1 ≤ j) (hi9:i ≤ 30000000000) (hj9:j ≤ 30000000000) :
 Calls Tryz.prog 41 #[u,v] w fun e w'=>(∃ r,e = .returned r ∧ FracIs w' r (a * b) (i + j)) ∧ Below w.heap.size w w':=
 (Tryz.frMulF u v a b (max i j) w (hu.more (by omega)) (hv.more (by omega)) (by omega) (by omega)).mono fun e w' ⟨⟨r,h1,h2⟩,h3⟩=>
  ⟨⟨r,h1,h2.fit ((hu.sz hi).mul (hv.sz hj))⟩,h3⟩
theorem Tryz.divA (u v:Value) (a b:Rat) (i j:Nat) (w:World) (hu:FracIs w u a i) (hv:FracIs w v b j) (hi:1 ≤ i) (hj:1 ≤ j) (hi9:i ≤ 30000000000) (hj9:j ≤ 30000000000) (h0:b ≠ 0) :
 Calls Tryz.prog 182 #[u,v] w fun e w'=>(∃ r,e = .returned (.tuple #[r,.bool true]) ∧ FracIs w' r (a / b) (i + j)) ∧ Below w.heap.size w w':=
 (Tryz.frDiv u v a b (max i j) w (hu.more (by omega)) (hv.more (by omega)) (by omega) (by omega) h0).mono fun e w' ⟨⟨r,h1,h2⟩,h3⟩=>
  ⟨⟨r,h1,h2.fit (by rw [Rat.div_def]; exact (hu.sz hi).mul ((hv.sz hj).inv h0))⟩,h3⟩
theorem Tryz.cmpA (u v:Value) (a b:Rat) (i j:Nat) (w:World) (hu:FracIs w u a i) (hv:FracIs w v b j) (hi:1 ≤ i) (hj:1 ≤ j) (hi9:i ≤ 30000000000) (hj9:j ≤ 30000000000) :
 Calls Tryz.prog 39 #[u,v] w fun e w'=>e = .returned (.int .i64 (ordQ a b)) ∧ Below w.heap.size w w':=
 Tryz.frCmp u v a b (max i j) w (hu.more (by omega)) (hv.more (by omega)) (by omega) (by omega)
end Go.Proofs.Fr
namespace Go.Proofs.Vt
open Go.RowKit Go.Proofs.Wd Go.Proofs.Fr
theorem frac_pointer {w:World} {v:Value} {q:Rat} {k:Nat} (h:FracIs w v q k):∃ a,v = .pointer a:=by
 rcases h with ⟨rfl,-⟩ | ⟨a,rfl,-⟩
 ·exact ⟨_,rfl⟩
 ·exact ⟨_,rfl⟩
end Go.Proofs.Vt
namespace Go.Proofs.Vt
open Go.RowKit Go.Proofs.Wd Go.Proofs.Fr
end Go.Proofs.Vt
namespace Go.Proofs.Vt
open Go.RowKit Go.Proofs.Wd Go.Proofs.Fr
end Go.Proofs.Vt
namespace Go.Proofs.Vt
open Go.RowKit Go.Proofs.Wd Go.Proofs.Fr
theorem ownsRow_below {B:Nat} {w w':World} {v:Value} {n:Nat} {xs:List Value} {t:TypeId} {size:Nat} (h:w.ownsRow B t size v n xs) (hb:Below w.heap.size w w'):w'.ownsRow B t size v n xs:=by
 obtain ⟨h0,h⟩:=h
 refine ⟨h0,?_⟩
 rcases h with h | ⟨g,cap,cur,h1,hg,hh,r⟩
 ·exact .inl h
 ·exact .inr ⟨g,cap,cur,h1,hg,by rw [hb.block g (Array.getElem?_eq_some_iff.1 hh).1]; exact hh,r⟩
/-- An append whose run is known. -/
theorem wp_append {P:Program} {o:Oper} {a:Act} {KX:Act → World → Prop} {Q:Exit → Act → World → Prop} {w w':World} {v y v':Value} (s x:Operand) (t:TypeId) (ho:o.op = .call { callee:=.builtin .append,args:=#[s,x],argTypes:=#[t,t] })
 (hs:a.eval s = v) (hx:a.eval x = y) (hr:(Builtin.append_ #[t,t] o.type #[v,y]).run P w = .ok v' w') (h:KX (a.put o.dst v') w'):o.wp P a w KX Q:=by
 unfold Oper.wp execOp
 simp only [ho,resolve,invoke,builtin,Sem.run_bind,Sem.run_pure,Result.andThen_ok,List.map_toArray,List.map_cons,List.map_nil,hs,hx,hr]
 exact h
theorem wpList_append {P:Program} {ops:Array Oper} {rest:List Oper} {o:Oper} {a:Act} {Q:Exit → Act → World → Prop} {w w':World} {v y v':Value} (hgd:o.guard = none) (s x:Operand) (t:TypeId) (ho:o.op = .call { callee:=.builtin .append,args:=#[s,x],argTypes:=#[t,t] })
 (hs:a.eval s = v) (hx:a.eval x = y) (hr:(Builtin.append_ #[t,t] o.type #[v,y]).run P w = .ok v' w') (h:wpList P ops Q rest (a.put o.dst v') w'):wpList P ops Q (o :: rest) a w:=
 wpList_plain hgd fun _ hK=>wp_append s x t ho hs hx hr (hK _ _ h)
end Go.Proofs.Vt
