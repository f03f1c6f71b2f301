/- What Div of the package nat returns: the quotient and the rest. -/
import Derived.Test.YtcnjcfoaoaldeaaGreatDoorQw
import Derived.Test.YtcnjcfoaoaldeaaGreatDoorWd3
set_option linter.unusedVariables false
set_option maxHeartbeats 4000000
set_option maxRecDepth 100000
namespace Go.Proofs.Wd
open Go.RowKit
theorem Tryz.quotient (v u:Value) (xs ys:List Int) (w:World) (hv:Digs w v xs) (hu:Digs w u ys) (hx:Dig xs) (hy:Dig ys) (tx:Top xs) (ty:Top ys) (hlen:xs.length ≤ 90000000000) (hne:ys ≠ []) :
 Calls Tryz.prog 155 #[v,u] w fun e w'=>QuIs xs ys w' e ∧ Below w.heap.size w w':=by
 by_cases hlt:val xs < val ys
 ·exact Tryz.quotientLess v u xs ys w hv hu hx hy tx ty (by omega) hlt
 ·obtain ⟨n,hn⟩:∃ n,ys.length = n + 1:=⟨ys.length - 1,by have:ys.length ≠ 0:=fun e=>hne (List.length_eq_zero_iff.1 e); omega⟩
  by_cases h1:n = 0
  ·subst h1
   obtain ⟨y,rfl⟩:=List.length_eq_one_iff.1 hn
   have hv1:val [y] = y:=by simp [val_cons]
   have hyd:=hy y (by simp)
   have hy1:1 ≤ y:=by
    rcases ty with e | e
    ·exact absurd e (by simp)
    ·simp at e; omega
   exact Tryz.quotientWord v u xs y w hv hu hx hy tx ty (by omega) (by rw [hv1] at hlt; omega) hy1
  ·exact Tryz.quotientLong v u xs ys n w hv hu hx hy tx ty (by omega) (by omega) hn (by omega)
theorem quo_div {a b q r:Int} (h:a = q * b + r) (r0:0 ≤ r) (r1:r < b):a / b = q ∧ a % b = r:=by
 have e:a = r + b * q:=by rw [h,Int.mul_comm]; omega
 refine ⟨?_,?_⟩
 ·rw [e,Int.add_mul_ediv_left _ _ (by omega),Int.ediv_eq_zero_of_lt r0 r1]; omega
 ·rw [e,Int.add_mul_emod_self_left,Int.emod_eq_of_lt r0 r1]
theorem Tryz.natDiv (v u:Value) (z y:Int) (n m:Nat) (w:World) (hv:Num w v z n) (hu:Num w u y m) (hn:n ≤ 90000000000) (hy:1 ≤ y) :
 Calls Tryz.prog 113 #[v,u] w fun e w'=>(∃ q r,e = .returned (.tuple #[q,r,.bool true]) ∧ Num w' q (z / y) (n + 1) ∧ Num w' r (z % y) (n + 1)) ∧ Below w.heap.size w w':=by
 obtain ⟨xs,ix,dx,tx,rfl,lx⟩:=hv
 obtain ⟨ys,iy,dy,ty,rfl,ly⟩:=hu
 have hyne:ys ≠ []:=fun e=>by rw [e] at hy; simp at hy
 have HU:Hid (IsNat w u ys):=iy
 have HV:Hid (IsNat w v xs):=ix
 have hq:∀ a b W,Digs W a xs → Digs W b ys → Calls Tryz.prog 155 #[a,b] W fun e w'=>QuIs xs ys w' e ∧ Below W.heap.size W w':=fun a b W h k=>Tryz.quotient a b xs ys W h k dx dy tx ty (by omega) hyne
 have HQ:=Lib.hid hq
 have HL:Hid (xs.length ≤ n):=lx
 have hl0:((ys.length:Int) == 0) = false:=by
  have:ys.length ≠ 0:=fun e=>hyne (List.length_eq_zero_iff.1 e)
  simp; exact hyne
 clear hq ix iy dx dy tx ty lx ly hyne hy
 go_enter Tryz.func113,Tryz.ntmps113
 go_wp2_with fail
 with_reducible refine (Tryz.all u ys _ HU.out).mono ?_
 rintro e w1 ⟨⟨s,rfl,hs⟩,rfl⟩
 obtain ⟨p,cap,rfl,hpl,-⟩:=hs.slice
 clear hs hpl
 go_wp2_with fail
 with_reducible refine (Tryz.all v xs _ HV.out).mono ?_
 rintro e w2 ⟨⟨s1,rfl,hs1⟩,rfl⟩
 have HS1:Hid (Digs w2 s1 xs):=hs1
 clear hs1
 go_wp2_with fail
 with_reducible refine (Tryz.all u ys _ HU.out).mono ?_
 rintro e w3 ⟨⟨s2,rfl,hs2⟩,rfl⟩
 have HS2:Hid (Digs w3 s2 ys):=hs2
 clear hs2
 go_wp2_with fail
 with_reducible refine (HQ.out s1 s2 _ HS1.out HS2.out).mono ?_
 rintro e w4 ⟨⟨q,r,Q,R,rfl,hq,hr,dq,dr,hsum,r0,r1,lq,lr⟩,hb4⟩
 have HQ4:Hid (Digs w4 q Q):=hq
 have HR4:Hid (Digs w4 r R):=hr
 have HDQ:Hid (Dig Q):=dq
 have HDR:Hid (Dig R):=dr
 have HE:Hid (val xs / val ys = val Q ∧ val xs % val ys = val R):=quo_div hsum r0 r1
 have HLQ:Hid (Q.length ≤ xs.length + 1 ∧ R.length ≤ xs.length + 1):=⟨lq,lr⟩
 have HB4:Hid (Below w3.heap.size w3 w4):=hb4
 clear hq hr dq dr hsum r0 r1 lq lr hb4 HQ HS1 HS2 hl0
 go_wp2_with fail
 with_reducible refine (Tryz.made q Q _ HQ4.out HDQ.out).mono ?_
 rintro e w5 ⟨⟨q',rfl,hq'⟩,hb5⟩
 have HQ5:Hid (Num w5 q' (val Q) Q.length):=hq'
 have HR5:Hid (Digs w5 r R):=HR4.out.below hb5 (Nat.le_refl _)
 have HB5:Hid (Below w3.heap.size w3 w5):=Below.after HB4.out hb5
 clear hq' hb5 HR4 HQ4
 go_wp2_with fail
 with_reducible refine (Tryz.made r R _ HR5.out HDR.out).mono ?_
 rintro e w6 ⟨⟨r',rfl,hr'⟩,hb6⟩
 have HQ6:Hid (Num w6 q' (val Q) Q.length):=HQ5.out.below hb6 (Nat.le_refl _)
 have HR6:Hid (Num w6 r' (val R) R.length):=hr'
 have HB6:Hid (Below w3.heap.size w3 w6):=Below.after HB5.out hb6
 clear hr' hb6 HQ5 HR5 HB5
 go_wp2
 go_ret3
 obtain ⟨e1,e2⟩:=HE.out
 obtain ⟨l1,l2⟩:=HLQ.out
 have l3:=HL.out
 exact ⟨⟨q',r',rfl,by rw [e1]; exact HQ6.out.fewer (by omega),by rw [e2]; exact HR6.out.fewer (by omega)⟩,HB6.out⟩
end Go.Proofs.Wd
