/- What takeDigit of the package nat does: the walk. Quotients of rows of words: what holds in quotient of the package nat, digit by digit. Greatest common divisors by the words on top (Lehmer's way, Collins's test): what holds of the numbers. What raised of the package nat returns, with the number of its words. What quotient of the package nat returns: the walk. What quotient of the package nat returns where the divisor has two words or more: the walk. -/
import Derived.Test.YtcnjcfoaoaldeaaGreatDoorRn
import Derived.Test.YtcnjcfoaoaldeaaGreatDoorLs
import Derived.Lib.ItoaMem
import Derived.Test.YtcnjcfoaoaldeaaGreatDoorWd3
import Derived.Test.YtcnjcfoaoaldeaaGreatDoorWd6
set_option linter.unusedVariables false
set_option maxHeartbeats 8000000
set_option maxRecDepth 100000
namespace Go.Proofs.Wd
open Go.RowKit
theorem grownBy_draw {w w':World} {row:Option Nat} (h:w.grownBy w' row):w.grownBy w'.drew row:=⟨h.os,h.tape,h.output,h.size,h.block⟩
theorem grownBy_drewN {w w':World} {row:Option Nat} (h:w.grownBy w' row):∀ n,w.grownBy (w'.drewN n) row
 | 0=>by rw [World.drewN_zero]; exact h
 | n + 1=>by rw [← World.drew_drewN]; exact grownBy_draw (grownBy_drewN h n)
theorem TakeIn.pos {L ys M:List Int} {k n:Nat} {d v:Int} (h:TakeIn L ys k n) (hs:SubTo L ys d k n v M) (hv:M.getD (k + n) 0 < v) (d0:0 ≤ d):1 ≤ d:=by
 obtain ⟨hH,hz⟩:=h.high
 have hln:=h.hn
 subst hln
 have hm:=hs.mid
 have hw:val (L.drop (k + ys.length)) = M.getD (k + ys.length) 0:=by
  rw [val_drop,hz,hs.rest _ (.inr (Nat.le_refl _))]; simp
 have hb:=mid_lt hs.dig k ys.length
 have hH0:=val_nonneg (h.dig.drop k)
 rw [hw] at hm
 generalize val ((M.drop k).take ys.length) = m at *
 generalize M.getD (k + ys.length) 0 = r at *
 have h3:(18446744073709551616:Int) ^ ys.length * 1 ≤ 18446744073709551616 ^ ys.length * (v - r):=Int.mul_le_mul_of_nonneg_left (by omega) (by have:=pow_pos' ys.length; omega)
 rw [Int.mul_sub,Int.mul_one] at h3
 by_cases e:d = 0
 ·subst e; rw [Int.zero_mul] at hm; omega
 ·omega
theorem Tryz.takeDigit (gr k n capr gy capy:Nat) (L ys:List Int) (w:World) (h:TakeIn L ys k n) (hr:RowOf w gr L) (hy:RowAt w gy capy ys) (hne:gy ≠ gr) (hcap:n + 1 ≤ capr) (hcap2:capr ≤ 1000000000000) :
 Calls Tryz.prog 194 #[.slice (some ⟨gr,k,none⟩) (n + 1) capr,.slice (some ⟨gy,0,none⟩) n capy] w fun e w'=>(∃ q M,e = .returned (.int .u64 q) ∧ RowOf w' gr M ∧ Taken L ys k q M) ∧ w.grownBy w' (some gr):=by
 have HH:Hid (TakeIn L ys k n):=h
 have HR:Hid (RowOf w gr L):=hr
 have HY:Hid (RowAt w gy capy ys):=hy
 obtain ⟨r0,r1,r2,yH,yL,d,f0,f1,f2,fH,fL,fd,a0,a1,b0,b1,e0,e9,e1,y0,y1,z0,z1,d0,d1,m1,m2⟩:=h.guess
 have hn2:=h.n2
 have hfit:=h.fit
 have hmax:=h.max
 have hyn:=h.hn
 have hf:=hy.fits
 have hx:=hy.max
 unfold maxLen at hx
 have c0:=hr.cell (j:=k + n - 2) (by omega)
 have c1:=hr.cell (j:=k + n - 1) (by omega)
 have c2:=hr.cell (j:=k + n) (by omega)
 have cH:=hy.cells (n - 1) (by omega)
 have cL:=hy.cells (n - 2) (by omega)
 have hf2:=hr.frozen (k + n)
 rw [f0] at c0; rw [f1] at c1; rw [f2] at c2; rw [fH] at cH; rw [fL] at cL
 rw [hyn] at hf
 have HM1:Hid (val (L.drop k) < (d + 1) * val ys):=m1
 have HM2:Hid ((d - 1) * val ys ≤ val (L.drop k)):=m2
 obtain ⟨p,hp⟩:∃ p,n = p + 2:=⟨n - 2,by omega⟩
 subst hp
 rw [show k + (p + 2) - 2 = k + p by omega] at c0
 rw [show k + (p + 2) - 1 = k + p + 1 by omega] at c1
 rw [show k + (p + 2) = k + p + 2 by omega] at c2 hf2
 rw [show p + 2 - 1 = p + 1 by omega] at cH
 rw [show p + 2 - 2 = p by omega] at cL
 have HG:Hid (∀ W cap,W.cell? ⟨gr,k + p,none⟩ = some (.int .u64 r0) → W.cell? ⟨gr,k + p + 1,none⟩ = some (.int .u64 r1) → W.cell? ⟨gr,k + p + 2,none⟩ = some (.int .u64 r2) → Calls Tryz.prog 230 #[.slice (some ⟨gr,k + p,none⟩) 3 cap,.int .u64 yH,.int .u64 yL] W fun e w'=>e = .returned (.int .u64 d) ∧ ∃ m,w' = W.drewN m):=fun W cap q0 q1 q2=>by
  rw [← fd]; exact Tryz.guessQ gr (k + p) cap yH yL r0 r1 r2 W q0 q1 q2 (by omega) a0 a1 b0 b1 e0 e1 y0 y1 z0 z1
 clear h hr hy f0 f1 f2 fH fL fd m1 m2 hyn
 have hw1:IntKind.i64.wrap ((p:Int) + 2 - 2) = (p:Int):=by rw [show (p:Int) + 2 - 2 = p by omega]; simp [IntKind.wrap,IntKind.signed,IntKind.bits]; omega
 have hw2:IntKind.i64.wrap ((p:Int) + 2 - 1) = (p:Int) + 1:=by rw [show (p:Int) + 2 - 1 = p + 1 by omega]; simp [IntKind.wrap,IntKind.signed,IntKind.bits]; omega
 have hp1:(0:Int) ≤ (p:Int) + 1:=by omega
 have hp2:(p:Int) < (p:Int) + 2:=by omega
 have hw0:IntKind.i64.wrap (p:Int) = (p:Int):=by simp [IntKind.wrap,IntKind.signed,IntKind.bits]; omega
 have hsl:∀ W,(Instr.slice 139 (.slice (some ⟨gr,k,none⟩) (p + 2 + 1) capr) (some (.int .i64 (p:Int))) none none).run Tryz.prog W = .ok (.slice (some ⟨gr,k + p,none⟩) 3 (capr - p)) W:=fun W=>by
  have h:=run_slice_l (P:=Tryz.prog) (w:=W) 139 (some ⟨gr,k,none⟩) (p + 2 + 1) capr (by simp [Program.elem,Tryz.underlying139]) .i64 (p:Int) (by omega) (by omega)
  rw [h,show Tryz.prog.elem 139 = 73 by simp [Program.elem,Tryz.underlying139],Tryz.sizeOf73]
  show Result.ok (sliced (some ⟨gr,k,none⟩) (p:Int).toNat (p + 2 + 1) capr 1) W = _
  have e:(⟨gr,k,none⟩:Addr).add (p * 1) = ⟨gr,k + p,none⟩:=by rw [Nat.mul_one]; exact Lib.add_plain gr k p
  unfold sliced
  rw [Int.toNat_natCast,if_neg (by omega),Option.map_some,e,show p + 2 + 1 - p = 3 by omega]
 go_enter Tryz.func194,Tryz.ntmps194
 go_wp2_with fail
 refine wp_region_held_drew (S:=(fun w':World=>w'.cell? ⟨gy,p + 1,none⟩ = some (.int .u64 yH) ∧ w'.cell? ⟨gy,p,none⟩ = some (.int .u64 yL) ∧ w'.cell? ⟨gr,k + p,none⟩ = some (.int .u64 r0) ∧ w'.cell? ⟨gr,k + p + 1,none⟩ = some (.int .u64 r1) ∧ w'.cell? ⟨gr,k + p + 2,none⟩ = some (.int .u64 r2))) (by kernel_rfl) ⟨cH,cL,c0,c1,c2⟩ (fun hHeld=>?_)
 refine takeY 0 (h:=?_)
 refine takeY 1 (h:=?_)
 refine takeY 2 (h:=?_)
 (try simp only [Act.put,List.setIfInBounds_toArray,List.set_cons_zero,List.set_cons_succ])
 refine takeY 3 (h:=?_)
 refine takeY 4 (h:=?_)
 refine takeY 5 (h:=?_)
 (try simp only [Act.put,List.setIfInBounds_toArray,List.set_cons_zero,List.set_cons_succ])
 refine takeY 6 (h:=?_)
 refine takeY 7 (h:=?_)
 refine takeY 8 (h:=?_)
 (try simp only [Act.put,List.setIfInBounds_toArray,List.set_cons_zero,List.set_cons_succ])
 refine takeY 9 (h:=?_)
 refine takeY 10 (h:=?_)
 refine takeY 11 (h:=?_)
 (try simp only [Act.put,List.setIfInBounds_toArray,List.set_cons_zero,List.set_cons_succ])
 refine takeY 12 (h:=?_)
 refine takeY 13 (h:=?_)
 (try simp only [Act.put,List.setIfInBounds_toArray,List.set_cons_zero,List.set_cons_succ])
 refine wpAnyH_ready (rs:=[14]) (by kernel_rfl) (by simp) ?_
 refine AllReadyH.cons (by (simp only [List.getElem?_toArray,List.getElem?_cons_succ,List.getElem?_cons_zero]) <;> rfl) (fun K hK=>?_) AllReadyH.nil
 go_simp
 go_at_call 230
 refine (HG.out w.drew _ c0 c1 c2).mono ?_
 rintro e w2 ⟨rfl,m,hw2⟩
 have HR2:Hid (RowOf w2 gr L):=by show RowOf _ _ _; rw [hw2]; exact RowOf.drewN (RowOf.drew HR.out) m
 have HG2:Hid (w.grownBy w2 (some gr)):=by
  show World.grownBy _ _ _
  rw [hw2]; exact grownBy_drewN (grownBy_draw (grownBy_refl w _)) m
 have hh2:w2.cell? ⟨gy,p + 1,none⟩ = some (.int .u64 yH) ∧ w2.cell? ⟨gy,p,none⟩ = some (.int .u64 yL) ∧ w2.cell? ⟨gr,k + p,none⟩ = some (.int .u64 r0) ∧ w2.cell? ⟨gr,k + p + 1,none⟩ = some (.int .u64 r1) ∧ w2.cell? ⟨gr,k + p + 2,none⟩ = some (.int .u64 r2):=by
  rw [hw2]; simp only [World.cell?_drewN]; exact ⟨cH,cL,c0,c1,c2⟩
 clear hHeld hw2
 refine hK.out _ _ hh2 (fun hHeld=>?_)
 clear hK K hh2
 (try simp only [Act.put,List.setIfInBounds_toArray,List.set_cons_zero,List.set_cons_succ])
 refine takeY 15 (h:=?_)
 (try simp only [Act.put,List.setIfInBounds_toArray,List.set_cons_zero,List.set_cons_succ])
 refine wpAnyH_done (by kernel_rfl) ?_ _
 clear hHeld
 have hylen:ys.length = p + 2:=HH.out.hn
 have HYL:Hid (ys.length = p + 2):=hylen
 have HRY:Hid (∀ W,w.grownBy W (some gr) → RowAt W gy capy ys):=fun W hW=>⟨by have:=hW.size; have:=HY.out.lt; omega,HY.out.fits,HY.out.max,fun j hj=>hW.cell (HY.out.cells j hj) (by simp; omega)⟩
 have HSUB:=Tryz.subRow gr k capr L ys (some ⟨gy,0,none⟩) capy d w2 HR2.out HH.out.dig (by have:=HH.out.fit; omega) HH.out.max HH.out.ydig (fun _=>⟨gy,rfl,hne,HRY.out w2 HG2.out⟩) d0 d1
 rw [hylen] at HSUB
 clear hylen c0 c1 c2 cH cL hf2 HG
 go_wp2_with fail
 with_reducible refine HSUB.mono ?_
 clear HSUB
 rintro e w3 ⟨⟨M,v,rfl,hr3,hs3⟩,hg3⟩
 have HR3:Hid (RowOf w3 gr M):=hr3
 have HS3:Hid (SubTo L ys d k (p + 2) v M):=hs3
 have HG3:Hid (w.grownBy w3 (some gr)):=⟨hg3.os.trans HG2.out.os,hg3.tape.trans HG2.out.tape,hg3.output.trans HG2.out.output,Nat.le_trans HG2.out.size hg3.size,fun j hj hne=>(hg3.block j (by have:=HG2.out.size; omega) hne).trans (HG2.out.block j hj hne)⟩
 obtain ⟨x,hx⟩:∃ x,M.getD (k + (p + 2)) 0 = x:=⟨_,rfl⟩
 have hml:=hs3.len
 have cx:=hr3.cell (j:=k + (p + 2)) (by omega)
 have hfx:=hr3.frozen (k + (p + 2))
 rw [hx] at cx
 have HX:Hid (M.getD (k + (p + 2)) 0 = x):=hx
 clear hr3 hs3 hg3 hx hml
 by_cases hc:x < v
 ·have hd1:decide (x < v) = true:=by simpa using hc
  have HADD:=Tryz.addTo gr k capr M ys (some ⟨gy,0,none⟩) capy w3 HR3.out HS3.out.dig (by have:=HS3.out.len; have:=HH.out.fit; have:=HYL.out; omega) (by have:=HS3.out.len; have:=HH.out.max; omega) HH.out.ydig (fun _=>⟨gy,rfl,hne,HRY.out w3 HG3.out⟩)
  rw [HYL.out] at HADD
  have hdp:1 ≤ d:=HH.out.pos HS3.out (by rw [HX.out]; exact hc) d0
  have hwd:IntKind.u64.wrap (d - 1) = d - 1:=by rw [u64w]; omega
  go_wp2_with fail
  with_reducible refine HADD.mono ?_
  clear HADD
  rintro e w4 ⟨⟨K,c,rfl,hr4,ha4⟩,hg4⟩
  have HR4:Hid (RowOf w4 gr K):=hr4
  have HTK:Hid (Taken L ys k (d - 1) (K.set (k + (p + 2)) 0)):=(HH.out.over HS3.out (by rw [HX.out]; exact hc) ha4 d0 d1 HM2.out).2
  have HG4:Hid (w.grownBy w4 (some gr)):=⟨hg4.os.trans HG3.out.os,hg4.tape.trans HG3.out.tape,hg4.output.trans HG3.out.output,Nat.le_trans HG3.out.size hg4.size,fun j hj hne=>(hg4.block j (by have:=HG3.out.size; omega) hne).trans (HG3.out.block j hj hne)⟩
  obtain ⟨x4,hx4⟩:∃ x4,K.getD (k + (p + 2)) 0 = x4:=⟨_,rfl⟩
  have cx4:=hr4.cell (j:=k + (p + 2)) (by rw [ha4.len,HS3.out.len]; omega)
  have hfx4:=hr4.frozen (k + (p + 2))
  rw [hx4] at cx4
  clear hr4 ha4 hg4 hx4 cx hfx
  go_wp2
  go_ret
  exact ⟨⟨d - 1,_,rfl,HR4.out.set _ _,HTK.out⟩,grownBy_set HG4.out _ none _⟩
 ·have hd1:decide (x < v) = false:=by simpa using hc
  have HTK:Hid (Taken L ys k d (M.set (k + (p + 2)) 0)):=HH.out.fits HS3.out (by rw [HX.out]; exact hc) d0 d1 HM1.out
  go_wp2
  go_ret
  exact ⟨⟨d,_,rfl,HR3.out.set _ _,HTK.out⟩,grownBy_set HG3.out _ none _⟩
end Go.Proofs.Wd
namespace Go.Proofs.Wd
open Go.RowKit
/-- What holds at the head of quotient's loop: R is left of X, the words of Q from k on are digits. -/
structure QuAt (X:Int) (ys:List Int) (lq lr k:Nat) (Q R:List Int):Prop where
 ql:Q.length = lq
 rl:R.length = lr
 qd:Dig Q
 rd:Dig R
 sum:val R + val ys * (18446744073709551616 ^ k * val (Q.drop k)) = X
 less:val R < val ys * 18446744073709551616 ^ k
theorem QuAt.step {X:Int} {ys Q R M:List Int} {lq lr k:Nat} {q:Int} (h:QuAt X ys lq lr (k + 1) Q R) (hk:k < lq) (t:Taken R ys k q M):QuAt X ys lq lr k (Q.set k q) M:=by
 have hql:=h.ql
 refine ⟨by rw [List.length_set,hql],by rw [t.len,h.rl],Dig.set h.qd k t.q0 t.q1,t.dig,?_,t.less⟩
 rw [drop_set_self Q k q (by omega),val_cons]
 have hs:=h.sum
 have ht:=t.sum
 rw [Int.pow_succ,Int.mul_assoc (18446744073709551616 ^ k)] at hs
 generalize (18446744073709551616:Int) ^ k = P at *
 generalize 18446744073709551616 * val (Q.drop (k + 1)) = V at *
 have e:val ys * (P * (q + V)) = P * (q * val ys) + val ys * (P * V):=by
  rw [Int.mul_add P,Int.mul_add,Int.mul_left_comm (val ys) P q,Int.mul_comm (val ys) q]
 rw [e]; omega
/-- A divisor that is shifted until its top bit is set: its words, their number, its top word. -/
theorem normal {y s:Int} {ys L:List Int} {n:Nat} (hy:Dig ys) (ht:Top ys) (hn:ys.length = n + 1) (s0:0 ≤ s) (s1:s ≤ 63) (hyt:ys.getD n 0 = y)
 (lo:9223372036854775808 ≤ y * 2 ^ s.toNat) (hi:y * 2 ^ s.toNat + 2 ^ s.toNat ≤ 18446744073709551616) (hL:Dig L) (hT:Top L) (hv:val L = val ys * 2 ^ s.toNat):L.length = n + 1 ∧ 9223372036854775808 ≤ L.getD n 0:=by
 have e:=val_parts ys n
 rw [val_drop,hyt,List.drop_eq_nil_of_le (by omega)] at e
 simp only [val_nil,Int.mul_zero,Int.add_zero] at e
 have a:=val_nonneg (hy.take n)
 have b:=take_lt hy n
 have hP:=pow_pos' n
 have hS:(0:Int) < 2 ^ s.toNat:=Int.pow_pos (by omega)
 generalize hSS:(2:Int) ^ s.toNat = S at *
 have c1:val (ys.take n) * S ≤ (18446744073709551616 ^ n - 1) * S:=Int.mul_le_mul_of_nonneg_right (by omega) (by omega)
 have c2:0 ≤ val (ys.take n) * S:=Int.mul_nonneg a (by omega)
 have c3:val L = val (ys.take n) * S + 18446744073709551616 ^ n * (y * S):=by rw [hv,e,Int.add_mul,Int.mul_assoc]
 rw [Int.sub_mul,Int.one_mul] at c1
 have c4:18446744073709551616 ^ n * (9223372036854775808:Int) ≤ 18446744073709551616 ^ n * (y * S):=Int.mul_le_mul_of_nonneg_left lo (by omega)
 have c5:18446744073709551616 ^ n * (y * S + S) ≤ 18446744073709551616 ^ n * 18446744073709551616:=Int.mul_le_mul_of_nonneg_left hi (by omega)
 rw [Int.mul_add] at c5
 have hlt:val L < 18446744073709551616 ^ (n + 1):=by rw [Int.pow_succ]; omega
 have hge:18446744073709551616 ^ n ≤ val L:=by omega
 have hne:L ≠ []:=fun e2=>by rw [e2] at hge; simp at hge; omega
 have h1:=top_pos hL hT hne
 have h2:=val_lt hL
 have hlen:L.length = n + 1:=by
  by_cases g:L.length ≤ n
  ·have:=pow_mono' g; omega
  ·by_cases g2:n + 1 ≤ L.length - 1
   ·have:=pow_mono' g2; omega
   ·omega
 refine ⟨hlen,?_⟩
 have f:=val_parts L n
 rw [val_drop,List.drop_eq_nil_of_le (by omega)] at f
 simp only [val_nil,Int.mul_zero,Int.add_zero] at f
 have fa:=take_lt hL n
 by_cases g:9223372036854775808 ≤ L.getD n 0
 ·exact g
 ·exfalso
  have:18446744073709551616 ^ n * (L.getD n 0 + 1) ≤ 18446744073709551616 ^ n * 9223372036854775808:=Int.mul_le_mul_of_nonneg_left (by omega) (by omega)
  rw [Int.mul_add,Int.mul_one] at this
  omega
/-- At the beginning the number is less than the divisor by as many words as the quotient has. -/
theorem QuAt.start {xs ys R:List Int} {n m:Nat} {s:Int} (hx:Dig xs) (hxl:xs.length = m) (hR:Dig R) (hRl:R.length = m + 1) (hRv:val R = val xs * 2 ^ s.toNat) (s0:0 ≤ s) (s1:s ≤ 63)
 (hyd:Dig ys) (hyl:ys.length = n + 1) (hyt:9223372036854775808 ≤ ys.getD n 0) (hnm:n ≤ m):QuAt (val xs * 2 ^ s.toNat) ys (m - n) (m + 1) (m - n) (List.replicate (m - n) 0) R:=by
 refine ⟨by simp,hRl,fun d hd=>by rw [(List.mem_replicate.1 hd).2]; omega,hR,?_,?_⟩
 ·rw [List.drop_eq_nil_of_le (by simp),hRv]; simp
 ·have f:=val_parts ys n
  rw [val_drop,List.drop_eq_nil_of_le (by omega)] at f
  simp only [val_nil,Int.mul_zero,Int.add_zero] at f
  have fa:=val_nonneg (hyd.take n)
  have c1:18446744073709551616 ^ n * (9223372036854775808:Int) ≤ 18446744073709551616 ^ n * ys.getD n 0:=Int.mul_le_mul_of_nonneg_left hyt (by have:=pow_pos' n; omega)
  have c2:(18446744073709551616 ^ n * (9223372036854775808:Int)) * 18446744073709551616 ^ (m - n) ≤ val ys * 18446744073709551616 ^ (m - n):=Int.mul_le_mul_of_nonneg_right (by omega) (by have:=pow_pos' (m - n); omega)
  have e:(18446744073709551616 ^ n * (9223372036854775808:Int)) * 18446744073709551616 ^ (m - n) = 9223372036854775808 * 18446744073709551616 ^ m:=by
   rw [Int.mul_comm (18446744073709551616 ^ n),Int.mul_assoc,← Int.pow_add,show n + (m - n) = m by omega]
  have hlt:=val_lt hx
  rw [hxl] at hlt
  have hS:(2:Int) ^ s.toNat ≤ 2 ^ 63:=by
   have:(2:Int) ^ 63 = 2 ^ s.toNat * 2 ^ (63 - s.toNat):=by rw [← Int.pow_add,show s.toNat + (63 - s.toNat) = 63 by omega]
   have h1:(0:Int) < 2 ^ (63 - s.toNat):=Int.pow_pos (by omega)
   have h2:(2:Int) ^ s.toNat * 1 ≤ 2 ^ s.toNat * 2 ^ (63 - s.toNat):=Int.mul_le_mul_of_nonneg_left (by omega) (by have:(0:Int) < 2 ^ s.toNat:=Int.pow_pos (by omega); omega)
   omega
  have hS0:(0:Int) < 2 ^ s.toNat:=Int.pow_pos (by omega)
  have h63:(2:Int) ^ 63 = 9223372036854775808:=rfl
  rw [h63] at hS
  rw [hRv]
  generalize (2:Int) ^ s.toNat = S at *
  have c3:val xs * S < 18446744073709551616 ^ m * S:=Int.mul_lt_mul_of_pos_right hlt hS0
  have c4:18446744073709551616 ^ m * S ≤ 18446744073709551616 ^ m * 9223372036854775808:=Int.mul_le_mul_of_nonneg_left hS (by have:=pow_pos' m; omega)
  rw [Int.mul_comm (18446744073709551616 ^ m) 9223372036854775808] at c4
  omega
/-- In the end: the quotient, and the rest shifted. -/
theorem QuAt.last {X Y S:Int} {ys Q R:List Int} {lq lr:Nat} (h:QuAt (X * S) ys lq lr 0 Q R) (hY:val ys = Y * S) (hS:0 < S):X = val Q * Y + val R / S ∧ 0 ≤ val R / S ∧ val R / S < Y:=by
 have hs:=h.sum
 have hl:=h.less
 simp only [List.drop_zero,Int.pow_zero,Int.one_mul,Int.mul_one] at hs hl
 have e:val R = (X - val Q * Y) * S:=by
  rw [Int.sub_mul,← hs,hY,Int.mul_right_comm,Int.mul_comm (Y * val Q) S,Int.mul_comm (val Q) Y,Int.mul_comm S]
  omega
 have e2:val R / S = X - val Q * Y:=by rw [e]; exact Int.mul_ediv_cancel _ (by omega)
 refine ⟨by omega,Int.ediv_nonneg (val_nonneg h.rd) (by omega),?_⟩
 rw [hY] at hl
 exact Int.ediv_lt_of_lt_mul hS hl
end Go.Proofs.Wd
namespace Go.Proofs.Wd
open Go.RowKit
theorem gcd_mod (a b:Int):Int.gcd b (a % b) = Int.gcd a b:=by
 rw [Int.emod_def,Int.gcd_sub_mul_left_right,Int.gcd_comm]
/-- Two numbers that are made of two others, and back: the same divisors. -/
theorem gcd_uni {X Y F S a b c d:Int} (h1:F = a * X + b * Y) (h2:S = c * X + d * Y) (h3:X = d * F - b * S ∨ X = b * S - d * F) (h4:Y = a * S - c * F ∨ Y = c * F - a * S):Int.gcd F S = Int.gcd X Y:=by
 apply Nat.dvd_antisymm
 ·apply Int.dvd_gcd
  ·have p:=Int.gcd_dvd_left F S
   have q:=Int.gcd_dvd_right F S
   rcases h3 with e | e <;> rw [e]
   ·exact Int.dvd_sub (Int.dvd_mul_of_dvd_right p) (Int.dvd_mul_of_dvd_right q)
   ·exact Int.dvd_sub (Int.dvd_mul_of_dvd_right q) (Int.dvd_mul_of_dvd_right p)
  ·have p:=Int.gcd_dvd_left F S
   have q:=Int.gcd_dvd_right F S
   rcases h4 with e | e <;> rw [e]
   ·exact Int.dvd_sub (Int.dvd_mul_of_dvd_right q) (Int.dvd_mul_of_dvd_right p)
   ·exact Int.dvd_sub (Int.dvd_mul_of_dvd_right p) (Int.dvd_mul_of_dvd_right q)
 ·apply Int.dvd_gcd
  ·rw [h1]; exact Int.dvd_add (Int.dvd_mul_of_dvd_right (Int.gcd_dvd_left _ _)) (Int.dvd_mul_of_dvd_right (Int.gcd_dvd_right _ _))
  ·rw [h2]; exact Int.dvd_add (Int.dvd_mul_of_dvd_right (Int.gcd_dvd_left _ _)) (Int.dvd_mul_of_dvd_right (Int.gcd_dvd_right _ _))
/-- What so many X and so many Y make, the fewer taken off the more. -/
def made2 (X Y u v:Int) (e:Bool):Int:=if e then u * X - v * Y else v * Y - u * X
/-- Two rests that follow one another, both of numbers told ahead. -/
structure Good (X Y u0 v0 u1 v1:Int) (e:Bool):Prop where
 s0:0 ≤ made2 X Y u1 v1 (!e)
 lt:made2 X Y u1 v1 (!e) < made2 X Y u0 v0 e
 le:made2 X Y u0 v0 e ≤ Y
 gcd:Int.gcd (made2 X Y u0 v0 e) (made2 X Y u1 v1 (!e)) = Int.gcd X Y
theorem Good.of {X Y u0 v0 u1 v1:Int} {e:Bool} (det:made2 v1 u1 u0 v0 e = 1) (s0:0 ≤ made2 X Y u1 v1 (!e)) (lt:made2 X Y u1 v1 (!e) < made2 X Y u0 v0 e) (le:made2 X Y u0 v0 e ≤ Y):Good X Y u0 v0 u1 v1 e:=by
 refine ⟨s0,lt,le,?_⟩
 cases e with
 | true =>
   simp only [made2,Bool.not_true,if_true,Bool.false_eq_true,if_false] at *
   exact gcd_uni (a:=u0) (b:=-v0) (c:=-u1) (d:=v1) (by grind) (by grind) (.inl (by grind)) (.inl (by grind))
 | false =>
   simp only [made2,Bool.not_false,if_true,Bool.false_eq_true,if_false] at *
   exact gcd_uni (a:=-u0) (b:=v0) (c:=u1) (d:=-v1) (by grind) (by grind) (.inr (by grind)) (.inr (by grind))
/-- What holds at the head of foresee's loop. -/
structure FAt (X Y a0 b0 u0 v0 u1 v1 u2 v2 a b:Int) (e:Bool):Prop where
 u0n:0 ≤ u0
 v0n:0 ≤ v0
 u1n:0 ≤ u1
 v1n:0 ≤ v1
 u2n:0 ≤ u2
 v2n:1 ≤ v2
 u0m:u0 ≤ a0
 v0m:v0 ≤ a0
 u1m:u1 ≤ a0
 v1m:v1 ≤ a0
 u2m:u2 ≤ a0
 v2m:v2 ≤ a0
 ba:b ≤ a
 bn:0 ≤ b
 le2:u2 ≤ v2
 le12:u1 + u2 ≤ v1 + v2
 ea:made2 a0 b0 u1 v1 (!e) = a
 eb:made2 a0 b0 u2 v2 e = b
 det:made2 v2 u2 u1 v1 (!e) = 1
 first:v0 = 0 ∨ Good X Y u0 v0 u1 v1 e
 sec:(e = false ∧ u1 = 1 ∧ v1 = 0 ∧ u2 = 0 ∧ v2 = 1) ∨ made2 X Y u1 v1 (!e) ≤ Y
theorem FAt.start (X Y:Int) {a0 b0:Int} (ba:b0 ≤ a0) (bn:0 ≤ b0) (a1:1 ≤ a0):FAt X Y a0 b0 0 0 1 0 0 1 a0 b0 false:=by
 refine ⟨by omega,by omega,by omega,by omega,by omega,by omega,by omega,by omega,by omega,by omega,by omega,by omega,ba,bn,by omega,by omega,?_,?_,?_,.inl rfl,.inl ⟨rfl,rfl,rfl,rfl,rfl⟩⟩ <;> simp [made2]
theorem FAt.whole {X Y a0 b0 u0 v0 u1 v1 u2 v2 a b:Int} {e:Bool} (h:FAt X Y a0 b0 u0 v0 u1 v1 u2 v2 a b e):a * v2 + b * v1 = a0:=by
 have h1:=h.ea
 have h2:=h.eb
 have h3:=h.det
 clear h
 cases e <;> simp only [made2,Bool.not_true,Bool.not_false,if_true,Bool.false_eq_true,if_false] at * <;> grind
theorem mul_le {a b c d:Int} (h1:a ≤ b) (h2:c ≤ d) (h3:0 ≤ a) (h4:0 ≤ d):a * c ≤ b * d:=
 Int.le_trans (Int.mul_le_mul_of_nonneg_left h2 h3) (Int.mul_le_mul_of_nonneg_right h1 h4)
/-- The sums of the test have room in a word. -/
theorem FAt.room {X Y a0 b0 u0 v0 u1 v1 u2 v2 a b:Int} {e:Bool} (h:FAt X Y a0 b0 u0 v0 u1 v1 u2 v2 a b e) (hb:v2 ≤ b):v1 + v2 ≤ a0:=by
 have hw:=h.whole
 have:=h.v2n; have:=h.ba; have:=h.v1n; have:=h.bn
 have h1:1 * v2 ≤ a * v2:=Int.mul_le_mul_of_nonneg_right (by omega) (by omega)
 have h2:1 * v1 ≤ b * v1:=Int.mul_le_mul_of_nonneg_right (by omega) (by omega)
 omega
/-- The rests of whole numbers, by those of the words on top. -/
theorem made_lead {X Y P a0 b0 xl yl u v:Int} (hX:X = a0 * P + xl) (hY:Y = b0 * P + yl) (e:Bool):made2 X Y u v e = made2 a0 b0 u v e * P + made2 xl yl u v e:=by
 subst hX hY
 cases e <;> simp only [made2,if_true,Bool.false_eq_true,if_false] <;> grind
/-- What lies below the words on top turns a rest by less than v times as much. -/
theorem made_low {P xl yl u v:Int} (x0:0 ≤ xl) (x1:xl < P) (y0:0 ≤ yl) (y1:yl < P) (u0:0 ≤ u) (uv:u ≤ v) (v1:1 ≤ v) (e:Bool):-(v * P) < made2 xl yl u v e:=by
 have h1:0 ≤ u * xl:=Int.mul_nonneg u0 x0
 have h2:0 ≤ v * yl:=Int.mul_nonneg (by omega) y0
 have h3:u * xl ≤ v * (P - 1):=mul_le uv (by omega) u0 (by omega)
 have h4:v * yl ≤ v * (P - 1):=Int.mul_le_mul_of_nonneg_left (by omega) (by omega)
 rw [Int.mul_sub,Int.mul_one] at h3 h4
 cases e <;> simp only [made2,if_true,Bool.false_eq_true,if_false] <;> omega
/-- Behind the test: the next rest is none below 0, and below the one ahead. -/
theorem FAt.next {X Y P a0 b0 xl yl u0 v0 u1 v1 u2 v2 a b:Int} {e:Bool} (h:FAt X Y a0 b0 u0 v0 u1 v1 u2 v2 a b e) (hX:X = a0 * P + xl) (hY:Y = b0 * P + yl) (x0:0 ≤ xl) (x1:xl < P) (y0:0 ≤ yl) (y1:yl < P)
 (hb:v2 ≤ b) (hab:v1 + v2 ≤ a - b):0 ≤ made2 X Y u2 v2 e ∧ made2 X Y u2 v2 e < made2 X Y u1 v1 (!e):=by
 have hP:0 < P:=by omega
 have l2:=made_low x0 x1 y0 y1 h.u2n h.le2 h.v2n e
 have l12:=made_low (u:=u1 + u2) (v:=v1 + v2) x0 x1 y0 y1 (by have:=h.u1n; have:=h.u2n; omega) h.le12 (by have:=h.v1n; have:=h.v2n; omega) (!e)
 have e2:=made_lead (u:=u2) (v:=v2) hX hY e
 have e1:=made_lead (u:=u1) (v:=v1) hX hY (!e)
 rw [h.eb] at e2
 rw [h.ea] at e1
 have s:made2 xl yl (u1 + u2) (v1 + v2) (!e) = made2 xl yl u1 v1 (!e) - made2 xl yl u2 v2 e:=by
  cases e <;> simp only [made2,Bool.not_true,Bool.not_false,if_true,Bool.false_eq_true,if_false] <;> grind
 have m1:v2 * P ≤ b * P:=Int.mul_le_mul_of_nonneg_right hb (by omega)
 have m2:(v1 + v2) * P ≤ (a - b) * P:=Int.mul_le_mul_of_nonneg_right hab (by omega)
 rw [Int.sub_mul] at m2
 rw [e1,e2]
 constructor <;> omega
theorem FAt.step {X Y P a0 b0 xl yl u0 v0 u1 v1 u2 v2 a b:Int} {e:Bool} (h:FAt X Y a0 b0 u0 v0 u1 v1 u2 v2 a b e) (hX:X = a0 * P + xl) (hY:Y = b0 * P + yl) (x0:0 ≤ xl) (x1:xl < P) (y0:0 ≤ yl) (y1:yl < P) (hYX:Y ≤ X)
 (hb:v2 ≤ b) (hab:v1 + v2 ≤ a - b):FAt X Y a0 b0 u1 v1 u2 v2 (u1 + a / b * u2) (v1 + a / b * v2) b (a % b) (!e) ∧ 0 ≤ a / b * u2 ∧ a / b * u2 ≤ a0 ∧ 0 ≤ a / b * v2 ∧ a / b * v2 ≤ a0:=by
 have hv2:=h.v2n
 have hu2:=h.u2n
 have hu1:=h.u1n
 have hv1:=h.v1n
 obtain ⟨n0,n1⟩:=h.next hX hY x0 x1 y0 y1 hb hab
 have hq:a = b * (a / b) + a % b:=(Int.mul_ediv_add_emod a b).symm
 have hr0:=Int.emod_nonneg a (b:=b) (by omega)
 have hr1:=Int.emod_lt_of_pos a (b:=b) (by omega)
 have hba:=h.ba
 have hw:=h.whole
 have ha:=h.ea
 have hbb:=h.eb
 have hd:=h.det
 generalize a / b = q at *
 generalize a % b = r at *
 have q1:1 ≤ q:=by
  by_cases g:1 ≤ q
  ·exact g
  ·have:b * q ≤ b * 0:=Int.mul_le_mul_of_nonneg_left (by omega) (by omega)
   omega
 have p1:0 ≤ q * u2:=Int.mul_nonneg (by omega) hu2
 have p2:q * 1 ≤ q * v2:=Int.mul_le_mul_of_nonneg_left hv2 (by omega)
 have p3:1 * v2 ≤ q * v2:=Int.mul_le_mul_of_nonneg_right q1 (by omega)
 have p4:q * u2 ≤ q * v2:=Int.mul_le_mul_of_nonneg_left h.le2 (by omega)
 have hnew:b * (v1 + q * v2) + r * v2 = a0:=by rw [← hw,hq]; grind
 have p5:1 * (v1 + q * v2) ≤ b * (v1 + q * v2):=Int.mul_le_mul_of_nonneg_right (by omega) (by omega)
 have p6:0 ≤ r * v2:=Int.mul_nonneg hr0 (by omega)
 have p7:(q - 1) * u2 ≤ (q - 1) * v2:=Int.mul_le_mul_of_nonneg_left h.le2 (by omega)
 rw [Int.sub_mul,Int.sub_mul] at p7
 have hle:=h.le12
 have hle2:=h.le2
 refine ⟨⟨hu1,hv1,hu2,by omega,by omega,by omega,h.u1m,h.v1m,h.u2m,h.v2m,by omega,by omega,by omega,hr0,by omega,by omega,?_,?_,?_,?_,?_⟩,p1,by omega,by omega,by omega⟩
 ·cases e <;> simp only [made2,Bool.not_true,Bool.not_false,if_true,Bool.false_eq_true,if_false] at * <;> exact hbb
 ·cases e <;> simp only [made2,Bool.not_true,Bool.not_false,if_true,Bool.false_eq_true,if_false] at * <;> grind
 ·cases e <;> simp only [made2,Bool.not_true,Bool.not_false,if_true,Bool.false_eq_true,if_false] at * <;> grind
 ·rcases h.sec with ⟨-,-,e1,-,-⟩ | e1
  ·exact .inl e1
  ·refine .inr (Good.of ?_ (by rw [Bool.not_not]; exact n0) (by rw [Bool.not_not]; exact n1) e1)
   exact hd
 ·right
  rw [Bool.not_not]
  rcases h.sec with ⟨e0,e1,e2,e3,e4⟩ | e1
  ·subst e0 e1 e2 e3 e4; simp [made2]
  ·omega
/-- The words on top, by the same shift, and what lies below them. -/
theorem lead_of {L:List Int} {n:Nat} {s:Int} (h:Dig L) (hn:L.length = n) (h2:2 ≤ n) (s0:0 ≤ s) (s1:s ≤ 63):∃ xl,val L = (L.getD (n - 1) 0 * 2 ^ s.toNat + L.getD (n - 2) 0 / 2 ^ (64 - s).toNat) * (2 ^ (64 - s).toNat * 18446744073709551616 ^ (n - 2)) + xl ∧ 0 ≤ xl ∧ xl < 2 ^ (64 - s).toNat * 18446744073709551616 ^ (n - 2):=by
 obtain ⟨low,l0,l1,e⟩:=two_tops h hn h2
 have hB:(18446744073709551616:Int) = 2 ^ s.toNat * 2 ^ (64 - s).toNat:=by
  rw [← Int.pow_add,show s.toNat + (64 - s).toNat = 64 by omega]; rfl
 have hD:(0:Int) < 2 ^ (64 - s).toNat:=Int.pow_pos (by omega)
 have hP:=pow_pos' (n - 2)
 have d:=Int.mul_ediv_add_emod (L.getD (n - 2) 0) (2 ^ (64 - s).toNat)
 have r0:=Int.emod_nonneg (L.getD (n - 2) 0) (b:=2 ^ (64 - s).toNat) (by omega)
 have r1:=Int.emod_lt_of_pos (L.getD (n - 2) 0) (b:=2 ^ (64 - s).toNat) hD
 generalize (18446744073709551616:Int) ^ (n - 2) = P at *
 generalize L.getD (n - 2) 0 = y at *
 generalize L.getD (n - 1) 0 = x at *
 generalize (2:Int) ^ (64 - s).toNat = D at *
 generalize (2:Int) ^ s.toNat = S at *
 generalize y / D = q at *
 generalize y % D = r at *
 refine ⟨low + P * r,?_,?_,?_⟩
 ·rw [e,hB,← d]; grind
 ·have:0 ≤ P * r:=Int.mul_nonneg (by omega) r0
  omega
 ·have:P * r ≤ P * (D - 1):=Int.mul_le_mul_of_nonneg_left (by omega) (by omega)
  rw [Int.mul_sub,Int.mul_one] at this
  rw [Int.mul_comm D P]
  omega
end Go.Proofs.Wd
namespace Go.Proofs.Wd
open Go.RowKit
theorem Tryz.raisedX (v:Value) (xs:List Int) (k:Int) (w:World) (h:Digs w v xs) (hx:Dig xs) (k0:0 ≤ k) (k1:k ≤ 100000) (hlen:xs.length ≤ 1000000000000) :
 Calls Tryz.prog 193 #[v,.int .i64 k] w fun e w'=>(∃ L,e = .returned (.slice (some ⟨w.heap.size,0,none⟩) L.length L.length) ∧ RowOf w' w.heap.size L ∧ Dig L ∧ L.length = (k / 64).toNat + xs.length + 1 ∧ val L = val xs * 2 ^ k.toNat) ∧ Below w.heap.size w w':=by
 obtain ⟨p,cap,rfl,hxl,hxr⟩:=h.slice
 obtain ⟨i0,hi,hz0,hz1,hz2⟩:=info_parts Tryz.info73
 have HX:Hid (0 < xs.length → ∃ g,p = some ⟨g,0,none⟩ ∧ RowAt w g cap xs):=hxr
 clear hxr h
 obtain ⟨W,hW⟩:∃ W:Nat,k / 64 = W:=⟨(k / 64).toNat,by omega⟩
 obtain ⟨r,hr⟩:∃ r:Int,k % 64 = r:=⟨_,rfl⟩
 have hk:k = 64 * W + r ∧ 0 ≤ r ∧ r ≤ 63:=by omega
 obtain ⟨hk,r0,r1⟩:=hk
 have HK:Hid (k = 64 * W + r):=hk
 have hW1:W ≤ 1563:=by omega
 clear hk
 obtain ⟨l,hl⟩:∃ l,xs.length = l:=⟨_,rfl⟩
 rw [hl] at hxl hlen HX
 obtain ⟨n',hn'⟩:∃ n':Int,(W:Int) + l = n':=⟨_,rfl⟩
 obtain ⟨n,hn⟩:∃ n:Nat,n' + 1 = n:=⟨W + l + 1,by omega⟩
 have HN:Hid (n = W + l + 1):=show n = W + l + 1 by omega
 have hn0:n ≤ 1001564000000:=by omega
 rw [hl]
 go_enter Tryz.func193,Tryz.ntmps193
 go_wp2_with (first
  |(refine wpList_make_full _ rfl _ _ 139 rfl w.heap.size 73 i0 (.int .u64 0) 1 Tryz.underlying139 hi hz0 hz1 .i64 .i64 _ _ n rfl rfl rfl rfl (by rw [hz2]; omega) (by unfold maxLen; omega) (by omega) ?_))
 intro w1 hown hgrow
 have hrow1:=RowOf.of_made (by rw [toList_madeCells_one] at hown; exact hown)
 have hb1:Below w.heap.size w w1:=(Below.refl _ _).grown hgrow (Nat.le_refl _) (fun k hk=>by cases hk)
 clear hown hgrow
 go_wp2
 go_loopw [22] (fun i wr=>∃ (j:Nat) (L:List Int),i = .int .i64 j ∧ j ≤ l ∧ RowOf wr w.heap.size L ∧ RaisedAt xs W (2 ^ r.toNat) j L ∧ Below w.heap.size w wr) (fun i _=>l - (intOf i).toNat)
 case atStart=>exact ⟨0,List.replicate n 0,rfl,by omega,hrow1,by rw [HN.out,← hl]; exact RaisedAt.start xs W (Int.pow_pos (by omega)),hb1⟩
 case round=>
  obtain ⟨j,L,rfl,hj,hrow,hat,hb⟩:=hrel
  have HA:Hid (RaisedAt xs W (2 ^ r.toNat) j L):=hat
  have HB:Hid (Below w.heap.size w wr):=hb
  have HR:Hid (RowOf wr w.heap.size L):=hrow
  have hLn:L.length = n:=by rw [hat.len,HN.out,hl]
  by_cases hjl:j = l
  ·subst hjl
   clear hrow hat hb
   go_wp2
   go_ret
   refine ⟨⟨L,by rw [hLn]; rfl,HR.out,HA.out.digs,by omega,?_⟩,HB.out⟩
   rw [HA.out.sum,List.take_of_length_le (by omega),pow64,← Int.pow_add,Int.mul_comm,show 64 * W + r.toNat = k.toNat by have:=HK.out; omega]
  ·obtain ⟨x,hxj⟩:∃ x,xs.getD j 0 = x:=⟨_,rfl⟩
   have hxd:=hx.get j
   rw [hxj] at hxd
   obtain ⟨c1,c2,c3,c4,c5,c6,c7,c8,c9,c10⟩:=cutWord hxd.1 hxd.2 r0 r1
   obtain ⟨g,rfl,hg⟩:=HX.out (by omega)
   have hcx:=(hb.cell (p:=⟨g,j,none⟩) hg.lt).trans (hg.cells j (by omega))
   rw [hxj] at hcx
   have hgO:g ≠ w.heap.size:=by have:=hg.lt; omega
   obtain ⟨q,hq⟩:∃ q:Nat,W + j = q:=⟨_,rfl⟩
   obtain ⟨q1,hq1⟩:∃ q1:Nat,q + 1 = q1:=⟨_,rfl⟩
   obtain ⟨c,hc⟩:∃ c,L.getD q 0 = c:=⟨_,rfl⟩
   have hcc:=hrow.cell (j:=q) (by omega)
   rw [hc] at hcc
   have hfr:=hrow.frozen q
   have hcd:=hat.dig q
   have hcm:=hat.mid
   rw [hq] at hcm
   have hst:=hat.step (by omega) hxj c8 c9 c10 c5 c6 c4 c3 c7
   rw [hq,hc] at hst
   rw [hc] at hcd hcm
   obtain ⟨lo,hlo⟩:∃ lo,shlV x r = lo:=⟨_,rfl⟩
   obtain ⟨hi',hhi'⟩:∃ hi',shrV x (64 - r) = hi':=⟨_,rfl⟩
   rw [← c1,← c2,hlo,hhi',hq1] at hst
   have hor:=orMid c (x % 2 ^ (64 - r).toNat) r.toNat hcd.1 hcm c5 (by rw [← c1,hlo]; exact hst.1)
   rw [← c1,hlo] at hor
   have HST:Hid (RaisedAt xs W (2 ^ r.toNat) (j + 1) ((L.set q (c + lo)).set q1 hi')):=hst.2
   have hlo0:0 ≤ lo:=by rw [← hlo,c1]; exact Int.mul_nonneg c5 (by omega)
   have hsh:=hst.1
   have HSHL:Hid (∀ w,Calls Tryz.prog 228 #[.int .u64 x,.int .i64 r] w fun e w'=>e = .returned (.int .u64 lo) ∧ w' = w):=fun w=>by
    rw [← hlo]; exact Go.Proofs.Tryz.Shl x r w hxd.1 hxd.2 (by omega) (by omega)
   have HSHR:Hid (∀ w,Calls Tryz.prog 229 #[.int .u64 x,.int .i64 (64 - r)] w fun e w'=>e = .returned (.int .u64 hi') ∧ w' = w):=fun w=>by
    rw [← hhi']; exact Go.Proofs.Tryz.Shr x (64 - r) w hxd.1 hxd.2 (by omega) (by omega)
   have hq1n:q1 < n:=by have:=HN.out; omega
   have hqn:q < n:=by omega
   have hqs:(W:Int) + (j:Int) = (q:Int):=by omega
   have hq1s:(q:Int) + 1 = (q1:Int):=by omega
   have HQ:Hid (q + 1 = q1):=hq1
   clear hst hrow hat hb hg hxj hc c1 c2 c3 c4 c5 c6 c7 c8 c9 c10 hlo hhi' hcm hq hq1
   go_wp2
   have hwq:IntKind.i64.wrap (q:Int) = (q:Int):=by simp [IntKind.wrap,IntKind.signed,IntKind.bits]; omega
   have hqn':(q:Int) < (n:Int):=by omega
   have hfrd:wr.drew.frozen? ⟨w.heap.size,q,none⟩ = false:=hfr
   have hccd:wr.drew.cell? ⟨w.heap.size,q,none⟩ = some (.int .u64 c):=hcc
   go_still_tail 11,(by kernel_rfl)
   still_call (HSHL.out _)
   repeat still_step
   refine wpStill_nil ?_
   change wpList _ _ _ _ _ wr.drew
   clear hcc hfr
   have HRW:Hid (RowOf wr.drew w.heap.size L):=HR.out.drew
   have HBW:Hid (Below w.heap.size w wr.drew):=HB.out.drew
   generalize wr.drew = W0 at *
   have HR1:Hid (RowOf (W0.setCell ⟨w.heap.size,q,none⟩ (.int .u64 (c + lo))) w.heap.size (L.set q (c + lo))):=HRW.out.set _ _
   have hc1:(W0.setCell ⟨w.heap.size,q,none⟩ (.int .u64 (c + lo))).cell? ⟨w.heap.size,q1,none⟩ = some (.int .u64 ((L.set q (c + lo)).getD q1 0)):=HR1.out.cell (by rw [List.length_set]; omega)
   have hf1:(W0.setCell ⟨w.heap.size,q,none⟩ (.int .u64 (c + lo))).frozen? ⟨w.heap.size,q1,none⟩ = false:=HR1.out.frozen q1
   have HR2:Hid (RowOf ((W0.setCell ⟨w.heap.size,q,none⟩ (.int .u64 (c + lo))).setCell ⟨w.heap.size,q1,none⟩ (.int .u64 hi')) w.heap.size ((L.set q (c + lo)).set q1 hi')):=HR1.out.set _ _
   have HB2:Hid (Below w.heap.size w ((W0.setCell ⟨w.heap.size,q,none⟩ (.int .u64 (c + lo))).setCell ⟨w.heap.size,q1,none⟩ (.int .u64 hi'))):=(HBW.out.setCell (Nat.le_refl _) _).setCell (Nat.le_refl _) _
   go_wp2_with (go_at_call 229; (with_reducible refine (HSHR.out _).mono ?_); rintro e w' ⟨rfl,rfl⟩)
   exact ⟨⟨j + 1,_,by simp,by omega,HR2.out,HST.out,HB2.out⟩,by simp [intOf]; omega⟩
end Go.Proofs.Wd
namespace Go.Proofs.Wd
open Go.RowKit
/-- The quotient and the rest, in rows of their own or none. -/
def QuIs (xs ys:List Int) (w:World) (e:Ending):Prop:=∃ q r Q R,e = .returned (.tuple #[q,r]) ∧ Digs w q Q ∧ Digs w r R ∧ Dig Q ∧ Dig R ∧ val xs = val Q * val ys + val R ∧ 0 ≤ val R ∧ val R < val ys ∧ Q.length ≤ xs.length + 1 ∧ R.length ≤ xs.length + 1
theorem Tryz.quotientLess (v u:Value) (xs ys:List Int) (w:World) (hv:Digs w v xs) (hu:Digs w u ys) (hx:Dig xs) (hy:Dig ys) (tx:Top xs) (ty:Top ys) (hlen:xs.length ≤ 100000000000) (hlt:val xs < val ys) :
 Calls Tryz.prog 155 #[v,u] w fun e w'=>QuIs xs ys w' e ∧ Below w.heap.size w w':=by
 have HC:Hid (Calls Tryz.prog 172 #[v,u] w fun e w'=>e = .returned (.int .i64 (-1)) ∧ Below w.heap.size w w'):=by
  refine (Tryz.compare v u xs ys w hv hu hx hy tx ty).mono ?_
  rintro e w' ⟨rfl,hb⟩
  exact ⟨by rw [cmpI_lt hlt],hb⟩
 have HV:Hid (Digs w v xs):=hv
 have HX:Hid (Dig xs):=hx
 have HLT:Hid (val xs < val ys):=hlt
 clear hv hu hx hy tx ty hlt
 go_enter Tryz.func155,Tryz.ntmps155
 go_wp2_with fail
 refine HC.out.mono ?_
 rintro e w1 ⟨rfl,hb1⟩
 have HV1:Hid (Digs w1 v xs):=HV.out.below hb1 (Nat.le_refl _)
 have HB1:Hid (Below w.heap.size w w1):=hb1
 clear hb1 HC HV
 go_wp2_with fail
 refine (Tryz.clone v xs _ HV1.out (by omega)).mono ?_
 rintro e w2 ⟨⟨r,rfl,hr⟩,hb2⟩
 have HR:Hid (Digs w2 r xs):=Digs.of_own hr
 have HB2:Hid (Below w.heap.size w w2):=Below.after HB1.out hb2
 clear hr hb2
 go_wp2
 go_ret2
 exact ⟨⟨_,_,[],xs,rfl,Digs.nil _,HR.out,Dig.nil,HX.out,by simp,val_nonneg HX.out,HLT.out,by simp,by omega⟩,HB2.out⟩
theorem Tryz.quotientWord (v u:Value) (xs:List Int) (y:Int) (w:World) (hv:Digs w v xs) (hu:Digs w u [y]) (hx:Dig xs) (hy:Dig [y]) (tx:Top xs) (ty:Top [y]) (hlen:xs.length ≤ 100000000000) (hle:y ≤ val xs) (y1:1 ≤ y) :
 Calls Tryz.prog 155 #[v,u] w fun e w'=>QuIs xs [y] w' e ∧ Below w.heap.size w w':=by
 obtain ⟨i0,hi,hz0,hz1,hz2⟩:=info_parts Tryz.info73
 have hvy:val [y] = y:=by simp [val_cons]
 have HC:Hid (∃ c,0 ≤ c ∧ Calls Tryz.prog 172 #[v,u] w fun e w'=>e = .returned (.int .i64 c) ∧ Below w.heap.size w w'):=by
  refine ⟨cmpI (val xs) (val [y]),?_,Tryz.compare v u xs [y] w hv hu hx hy tx ty⟩
  unfold cmpI; rw [if_neg (by rw [hvy]; omega)]; split <;> omega
 obtain ⟨cc,cc0,HCC⟩:=HC.out
 have HC2:=HCC
 clear HC HCC
 obtain ⟨q,dap,rfl,-,hyr⟩:=hu.slice
 obtain ⟨gy,rfl,hgy⟩:=hyr (by simp)
 obtain ⟨p,cap,rfl,hxl,hxr⟩:=hv.slice
 have hxn:0 < xs.length:=by
  by_cases e:xs = []
  ·subst e; simp at hle; omega
  ·have:xs.length ≠ 0:=fun e2=>e (List.length_eq_zero_iff.1 e2)
   omega
 obtain ⟨gx,rfl,hgx⟩:=hxr hxn
 have hyc:=hgy.cells 0 (by simp)
 simp only [List.getD_cons_zero] at hyc
 have hylt:=hgy.lt
 have HX:Hid (Dig xs):=hx
 have HGX:Hid (RowAt w gx cap xs):=hgx
 have HVY:Hid (val [y] = y):=hvy
 have hy9:=(hy y (by simp)).2
 obtain ⟨n,hn⟩:∃ n,xs.length = n:=⟨_,rfl⟩
 have HN:Hid (xs.length = n):=hn
 rw [hn] at hxl hlen hxn HC2
 rw [hn]
 simp only [List.length_singleton] at HC2 ⊢
 clear hv hu hx hy tx ty hgx hgy hxr hyr hvy hn hle
 have HCH:=Lib.hid HC2
 clear HC2
 go_enter Tryz.func155,Tryz.ntmps155
 go_wp2_with fail
 refine HCH.out.mono ?_
 rintro e w1 ⟨rfl,hb1⟩
 have hyc1:=(hb1.cell (p:=⟨gy,0,none⟩) hylt).trans hyc
 have HB1:Hid (Below w.heap.size w w1):=hb1
 have HGX1:Hid (RowAt w1 gx cap xs):=HGX.out.below hb1 HGX.out.lt
 have hylt1:gy < w1.heap.size:=by have:=hb1.size; omega
 clear hb1 HCH hyc
 go_wp2_with (first
  |(refine wpList_make_full _ rfl _ _ 139 rfl w1.heap.size 73 i0 (.int .u64 0) 1 Tryz.underlying139 hi hz0 hz1 .i64 .i64 _ _ n rfl rfl rfl rfl (by rw [hz2]; omega) (by unfold maxLen; omega) (by omega) ?_))
 intro w2 hown hgrow
 have hb2:Below w1.heap.size w1 w2:=(Below.refl _ _).grown hgrow (Nat.le_refl _) (fun k hk=>by cases hk)
 have HO:Hid (OwnAt w2 w1.heap.size w1.heap.size n (List.replicate n 0)):=by
  show World.ownsRow _ _ _ _ _ _ _
  rw [toList_madeCells_one] at hown
  rw [List.length_replicate,List.map_replicate]
  exact hown
 have hyc2:=(hb2.cell (p:=⟨gy,0,none⟩) hylt1).trans hyc1
 have HB2:Hid (Below w.heap.size w w2):=Below.after HB1.out hb2
 have HGX2:Hid (RowAt w2 gx cap xs):=HGX1.out.below hb2 HGX1.out.lt
 clear hown hgrow hb2 hyc1
 have HBY:=Tryz.byWord w1.heap.size n gx cap (List.replicate n 0) xs y w1.heap.size w2 HO.out (by rw [List.length_replicate,HN.out]) HX.out HGX2.out.cells y1 hy9 (by rw [HN.out]; omega)
 rw [HN.out] at HBY
 go_wp2_with fail
 with_reducible refine HBY.mono ?_
 clear HBY
 rintro e w3 ⟨⟨Q,r,rfl,ho3,hq3,hl3,hv3,r0,r1⟩,hg3⟩
 have HQ:Hid (Digs (w3.alloc (.cells #[.int .u64 r] 73)) (.slice (some ⟨w1.heap.size,0,none⟩) n n) Q):=by
  have h:=ho3.digs
  rw [hl3] at h
  exact h.below ((Below.refl _ _).alloc (Nat.le_refl _) _) (Nat.le_refl _)
 have HR:Hid (Digs (w3.alloc (.cells #[.int .u64 r] 73)) (.slice (some ⟨w3.heap.size,0,none⟩) 1 1) [r]):=by
  have h:RowOf (w3.alloc (.cells #[.int .u64 r] 73)) w3.heap.size [r]:=by unfold RowOf; show (w3.heap.push _)[w3.heap.size]? = _; simp
  exact h.digs (by unfold maxLen; simp)
 have HS:Hid (val xs = val Q * val [y] + val [r] ∧ 0 ≤ val [r] ∧ val [r] < val [y]):=by
  have e:val [r] = r:=by simp [val_cons]
  rw [HVY.out,e,hv3,Int.mul_comm y]
  exact ⟨rfl,r0,r1⟩
 have HDQ:Hid (Dig Q):=hq3
 have HDR:Hid (Dig [r]):=fun d hd=>by rw [List.mem_singleton.1 hd]; omega
 have HLQ:Hid (Q.length = n):=hl3
 have HB3:Hid (Below w.heap.size w (w3.alloc (.cells #[.int .u64 r] 73))):=(HB2.out.grown hg3 (by have:=HB2.out.size; exact this) (fun k hk=>by cases hk; exact HB1.out.size)).alloc (by have:=HB2.out.size; have:=hg3.size; omega) _
 clear ho3 hq3 hl3 hv3 hg3
 go_wp2
 go_ret2
 exact ⟨⟨_,_,Q,[r],rfl,HQ.out,HR.out,HDQ.out,HDR.out,HS.out.1,HS.out.2.1,HS.out.2.2,by rw [HLQ.out,HN.out]; omega,by simp⟩,HB3.out⟩
end Go.Proofs.Wd
namespace Go.Proofs.Wd
open Go.RowKit
theorem RowOf.kept {w w':World} {O:Nat} {L:List Int} {row:Option Nat} (h:RowOf w O L) (hg:w.grownBy w' row) (hne:some O ≠ row):RowOf w' O L:=by
 unfold RowOf; rw [hg.block O h.lt hne]; exact h
theorem RowAt.of_row {w:World} {O:Nat} {L:List Int} (h:RowOf w O L) (hl:L.length ≤ 1000000000000) (k:Nat) (hk:k ≤ L.length):RowAt w O L.length (L.take k):=
 ⟨h.lt,by rw [List.length_take]; omega,by unfold maxLen; omega,fun j hj=>by
  have hj':j < k:=by rw [List.length_take] at hj; omega
  rw [h.cell (by omega)]
  simp only [List.getD,List.getElem?_take_of_lt hj']⟩
theorem RowAt.kept {w w':World} {g cap:Nat} {xs:List Int} {row:Option Nat} (h:RowAt w g cap xs) (hg:w.grownBy w' row) (hne:some g ≠ row):RowAt w' g cap xs:=
 ⟨by have:=hg.size; have:=h.lt; omega,h.fits,h.max,fun j hj=>hg.cell (h.cells j hj) hne⟩
/-- By how many bits the top word is to be shifted. -/
theorem shift_of {y L:Int} (h:IsLen y L) (y1:1 ≤ y):0 ≤ 64 - L ∧ 64 - L ≤ 63 ∧ 9223372036854775808 ≤ y * 2 ^ (64 - L).toNat ∧ y * 2 ^ (64 - L).toNat + 2 ^ (64 - L).toNat ≤ 18446744073709551616:=by
 obtain ⟨a,b,c,d⟩:=h
 have hd:=d.resolve_left (fun e=>by omega)
 obtain ⟨d1,d2⟩:=hd
 have e1:(2:Int) ^ (L - 1).toNat * 2 ^ (64 - L).toNat = 9223372036854775808:=by
  rw [← Int.pow_add,show (L - 1).toNat + (64 - L).toNat = 63 by omega]; rfl
 have e2:(2:Int) ^ L.toNat * 2 ^ (64 - L).toNat = 18446744073709551616:=by
  rw [← Int.pow_add,show L.toNat + (64 - L).toNat = 64 by omega]; rfl
 have hS:(0:Int) < 2 ^ (64 - L).toNat:=Int.pow_pos (by omega)
 generalize (2:Int) ^ (64 - L).toNat = S at *
 refine ⟨by omega,by omega,?_,?_⟩
 ·rw [← e1]; exact Int.mul_le_mul_of_nonneg_right d2 (by omega)
 ·have:(y + 1) * S ≤ 2 ^ L.toNat * S:=Int.mul_le_mul_of_nonneg_right (by omega) (by omega)
  rw [Int.add_mul,Int.one_mul] at this
  omega
theorem Tryz.quotientLong (v u:Value) (xs ys:List Int) (n:Nat) (w:World) (hv:Digs w v xs) (hu:Digs w u ys) (hx:Dig xs) (hy:Dig ys) (tx:Top xs) (ty:Top ys) (hlen:xs.length ≤ 90000000000) (hle:val ys ≤ val xs) (hn:ys.length = n + 1) (n1:1 ≤ n) :
 Calls Tryz.prog 155 #[v,u] w fun e w'=>QuIs xs ys w' e ∧ Below w.heap.size w w':=by
 obtain ⟨i0,hi,hz0,hz1,hz2⟩:=info_parts Tryz.info73
 have hyne:ys ≠ []:=fun e=>by rw [e] at hn; simp at hn
 have hll:ys.length ≤ xs.length:=by
  have h1:=top_pos hy ty hyne
  have h2:=val_lt hx
  by_cases g:ys.length ≤ xs.length
  ·exact g
  ·have:=pow_mono' (i:=xs.length) (j:=ys.length - 1) (by omega)
   omega
 have HC:Hid (∃ c,0 ≤ c ∧ Calls Tryz.prog 172 #[v,u] w fun e w'=>e = .returned (.int .i64 c) ∧ Below w.heap.size w w'):=by
  refine ⟨cmpI (val xs) (val ys),?_,Tryz.compare v u xs ys w hv hu hx hy tx ty⟩
  unfold cmpI; rw [if_neg (by omega)]; split <;> omega
 obtain ⟨cc,cc0,HCC⟩:=HC.out
 clear HC
 obtain ⟨yt,hyt⟩:∃ yt,ys.getD n 0 = yt:=⟨_,rfl⟩
 have hytd:=hy.get n
 rw [hyt] at hytd
 have hyt1:1 ≤ yt:=by
  rcases ty with e | e
  ·exact absurd e hyne
  ·rw [hn,Nat.add_sub_cancel,hyt] at e; omega
 have HV:Hid (Digs w v xs):=hv
 have HU:Hid (Digs w u ys):=hu
 have HX:Hid (Dig xs):=hx
 have HY:Hid (Dig ys):=hy
 have HYT:Hid (ys.getD n 0 = yt):=hyt
 have HTY:Hid (Top ys):=ty
 obtain ⟨q,dap,rfl,-,hyr⟩:=hu.slice
 obtain ⟨gy,rfl,hgy⟩:=hyr (by omega)
 have hyc:=hgy.cells n (by omega)
 rw [hyt] at hyc
 have hylt:=hgy.lt
 obtain ⟨m,hm⟩:∃ m,xs.length = m:=⟨_,rfl⟩
 have HM:Hid (xs.length = m):=hm
 have HN:Hid (ys.length = n + 1):=hn
 have HCH:=Lib.hid HCC
 rw [hm] at hlen hll
 rw [hn] at hll HU HCH ⊢
 clear hv hu hx hy tx ty hgy hyr hyne hyt hm hn hle HCC
 go_enter Tryz.func155,Tryz.ntmps155
 go_wp2_with fail
 refine HCH.out.mono ?_
 rintro e w1 ⟨rfl,hb1⟩
 have hyc1:=(hb1.cell (p:=⟨gy,n,none⟩) hylt).trans hyc
 have HB1:Hid (Below w.heap.size w w1):=hb1
 have HV1:Hid (Digs w1 v xs):=HV.out.below hb1 (Nat.le_refl _)
 have HU1:Hid (Digs w1 (.slice (some ⟨gy,0,none⟩) (n + 1) dap) ys):=HU.out.below hb1 (Nat.le_refl _)
 clear hb1 HCH hyc HV HU
 have hnn:((n:Int) + 1 == 1) = false:=by simp; omega
 go_wp2_with fail
 refine (Tryz.Len yt _ (by omega) hytd.2).mono ?_
 rintro e w2 ⟨⟨Ln,hL,rfl⟩,rfl⟩
 obtain ⟨s0,s1,slo,shi⟩:=shift_of hL hyt1
 obtain ⟨s,hs⟩:∃ s,64 - Ln = s:=⟨_,rfl⟩
 rw [hs] at s0 s1 slo shi
 have HSL:Hid (9223372036854775808 ≤ yt * 2 ^ s.toNat ∧ yt * 2 ^ s.toNat + 2 ^ s.toNat ≤ 18446744073709551616):=⟨slo,shi⟩
 have hLl:=hL.lo
 have hLh:=hL.hi
 clear hL slo shi hyc1
 go_wp2_with fail
 refine (Tryz.raisedX v xs s _ HV1.out HX.out s0 (by omega) (by rw [HM.out]; omega)).mono ?_
 rintro e w3 ⟨⟨R,rfl,hr3,hR3,hRl,hRv⟩,hb3⟩
 have hRl':R.length = m + 1:=by rw [hRl,HM.out,show (s / 64).toNat = 0 by omega]; omega
 have HRL:Hid (R.length = m + 1):=hRl'
 have HRD:Hid (Dig R):=hR3
 have HRV:Hid (val R = val xs * 2 ^ s.toNat):=hRv
 have HR3:Hid (RowOf w3 w2.heap.size R):=hr3
 have hgr:w2.heap.size < w3.heap.size:=hr3.lt
 obtain ⟨gr,hgrr⟩:∃ gr,w2.heap.size = gr:=⟨_,rfl⟩
 have HB3:Hid (Below w.heap.size w w3):=Below.after HB1.out hb3
 have HU3:Hid (Digs w3 (.slice (some ⟨gy,0,none⟩) (n + 1) dap) ys):=HU1.out.below hb3 (Nat.le_refl _)
 have hgw:w.heap.size ≤ gr:=by have:=HB1.out.size; omega
 rw [hRl']
 rw [hgrr] at HR3 hgr ⊢
 clear hr3 hR3 hRl hRl' hRv hb3 HU1 HV1 hgrr
 go_wp2_with fail
 refine (Tryz.raisedX _ ys s _ HU3.out HY.out s0 (by omega) (by rw [HN.out]; omega)).mono ?_
 rintro e w4 ⟨⟨L,rfl,hr4,hL4,hLl4,hLv⟩,hb4⟩
 have hLl4':L.length = n + 2:=by rw [hLl4,HN.out,show (s / 64).toNat = 0 by omega]; omega
 have HLL:Hid (L.length = n + 2):=hLl4'
 have HR4:Hid (RowOf w4 gr R):=HR3.out.below hb4 hgr
 have HL4:Hid (RowOf w4 w3.heap.size L):=hr4
 have HLD:Hid (Dig L):=hL4
 have HLV:Hid (val L = val ys * 2 ^ s.toNat):=hLv
 have HB4:Hid (Below w.heap.size w w4):=Below.after HB3.out hb4
 obtain ⟨gl,hgl⟩:∃ gl,w3.heap.size = gl:=⟨_,rfl⟩
 have hgl4:gl < w4.heap.size:=by rw [← hgl]; exact hr4.lt
 have hne:gl ≠ gr:=by omega
 have hgw2:w.heap.size ≤ gl:=by omega
 rw [hLl4']
 rw [hgl] at HL4 ⊢
 clear hr4 hL4 hLl4 hLl4' hLv hb4 HU3 HR3 hgl hgr
 have HTRIM:Hid (Calls Tryz.prog 108 #[.slice (some ⟨gl,0,none⟩) (n + 2) (n + 2)] w4 fun e w'=>(e = .returned (.slice (some ⟨gl,0,none⟩) (n + 1) (n + 2)) ∧ 9223372036854775808 ≤ (L.take (n + 1)).getD n 0 ∧ val (L.take (n + 1)) = val ys * 2 ^ s.toNat) ∧ w' = w4):=by
  have h:=Tryz.trim (some ⟨gl,0,none⟩) L.length L w4 (HL4.out.digs (by rw [HLL.out]; unfold maxLen; omega))
  refine Calls.mono (by rw [HLL.out] at h; exact h) ?_
  rintro e w' ⟨⟨k,rfl,hk,ht,hv⟩,rfl⟩
  have hnm:=normal (n:=n) HY.out HTY.out HN.out s0 s1 HYT.out HSL.out.1 HSL.out.2 (HLD.out.take k) ht (by rw [hv,HLV.out])
  have hk2:k = n + 1:=by
   have h5:=hnm.1
   rw [List.length_take,HLL.out] at h5
   omega
  subst hk2
  exact ⟨⟨rfl,hnm.2,by rw [hv,HLV.out]⟩,rfl⟩
 go_wp2_with fail
 refine HTRIM.out.mono ?_
 clear HTRIM
 rintro e w5 ⟨⟨rfl,htop,hvy⟩,rfl⟩
 obtain ⟨zs,hzs⟩:∃ zs,L.take (n + 1) = zs:=⟨_,rfl⟩
 have HZL:Hid (zs.length = n + 1):=by show _ = _; rw [← hzs,List.length_take,HLL.out]; omega
 have HZD:Hid (Dig zs):=by rw [← hzs]; exact HLD.out.take _
 rw [hzs] at htop hvy
 have HTOP:Hid (9223372036854775808 ≤ zs.getD n 0):=htop
 have HVY:Hid (val zs = val ys * 2 ^ s.toNat):=hvy
 have HZA:Hid (RowAt w5 gl (n + 2) zs):=by
  have h:=RowAt.of_row HL4.out (by rw [HLL.out]; omega) (n + 1) (by rw [HLL.out]; omega)
  rw [HLL.out,hzs] at h
  exact h
 clear htop hvy hzs HL4
 obtain ⟨lq,hlq⟩:∃ lq,m - n = lq:=⟨_,rfl⟩
 have hlq1:lq + n = m:=by omega
 have hlq0:1 ≤ lq:=by omega
 have HQS:Hid (QuAt (val xs * 2 ^ s.toNat) zs lq (m + 1) lq (List.replicate lq 0) R):=by
  rw [← hlq]; exact QuAt.start HX.out HM.out HRD.out HRL.out HRV.out s0 s1 HZD.out HZL.out HTOP.out (by omega)
 clear hlq
 go_wp2_with (first
  |(refine wpList_make_full _ rfl _ _ 139 rfl w5.heap.size 73 i0 (.int .u64 0) 1 Tryz.underlying139 hi hz0 hz1 .i64 .i64 ((m:Int) + 1 - ((n:Int) + 1)) ((m:Int) + 1 - ((n:Int) + 1)) lq rfl rfl (by omega) (by omega) (by rw [hz2]; omega) (by unfold maxLen; omega) (by omega) ?_))
 intro w6 hown hgrow
 have hb6:Below w5.heap.size w5 w6:=(Below.refl _ _).grown hgrow (Nat.le_refl _) (fun k hk=>by cases hk)
 obtain ⟨gq,hgq⟩:∃ gq,w5.heap.size = gq:=⟨_,rfl⟩
 have hrow:RowOf w6 gq (List.replicate lq 0):=by
  rw [← hgq]
  exact RowOf.of_made (by rw [toList_madeCells_one] at hown; exact hown)
 have HQ6:Hid (RowOf w6 gq (List.replicate lq 0)):=hrow
 have HR6:Hid (RowOf w6 gr R):=HR4.out.below hb6 HR4.out.lt
 have HZ6:Hid (RowAt w6 gl (n + 2) zs):=HZA.out.below hb6 hgl4
 have HB6:Hid (Below w.heap.size w w6):=Below.after HB4.out hb6
 have hrq:gr < gq:=by rw [← hgq]; exact HR4.out.lt
 have hlq2:gl < gq:=by rw [← hgq]; exact hgl4
 have hgw3:w.heap.size ≤ gq:=by omega
 rw [hgq]
 clear hown hgrow hb6 hrow hgq HR4 HZA HB4
 go_wp2
 go_loopw [7] (fun i wr=>∃ (k:Nat) (Q S:List Int),i = .int .i64 ((k:Int) - 1) ∧ k ≤ lq ∧ QuAt (val xs * 2 ^ s.toNat) zs lq (m + 1) k Q S ∧ RowOf wr gq Q ∧ RowOf wr gr S ∧ RowAt wr gl (n + 2) zs ∧ Below w.heap.size w wr) (fun i _=>(intOf i + 1).toNat)
 case atStart=>exact ⟨lq,_,_,rfl,Nat.le_refl _,HQS.out,HQ6.out,HR6.out,HZ6.out,HB6.out⟩
 case round=>
  obtain ⟨k,Q,S,rfl,hk,hat,hq,hr,hz,hb⟩:=hrel
  have HA:Hid (QuAt (val xs * 2 ^ s.toNat) zs lq (m + 1) k Q S):=hat
  have HQ:Hid (RowOf wr gq Q):=hq
  have HR:Hid (RowOf wr gr S):=hr
  have HZ:Hid (RowAt wr gl (n + 2) zs):=hz
  have HB:Hid (Below w.heap.size w wr):=hb
  clear hq hr hz hb hat HQ6 HR6 HZ6 HB6 HQS
  cases k with
  | zero =>
    have hsl:S.length = m + 1:=HA.out.rl
    have HTR:Hid (∀ W,RowOf W gr S → Calls Tryz.prog 108 #[.slice (some ⟨gr,0,none⟩) (m + 1) (m + 1)] W fun e w'=>(∃ j:Nat,e = .returned (.slice (some ⟨gr,0,none⟩) j (m + 1)) ∧ j ≤ m + 1 ∧ val (S.take j) = val S ∧ Digs W (.slice (some ⟨gr,0,none⟩) j (m + 1)) (S.take j)) ∧ w' = W):=fun W hW=>by
     have hd:=hW.digs (by rw [hsl]; unfold maxLen; omega)
     have h:=Tryz.trim (some ⟨gr,0,none⟩) S.length S W hd
     refine Calls.mono (by rw [hsl] at h; exact h) ?_
     rintro e w' ⟨⟨j,rfl,hj,-,hv⟩,rfl⟩
     have hd2:=hd.take j (by rw [hsl]; omega)
     rw [hsl] at hd2
     exact ⟨⟨j,rfl,hj,hv,hd2⟩,rfl⟩
    have HSL2:Hid (S.length = m + 1):=hsl
    clear hsl
    go_wp2_with fail
    with_reducible refine (HTR.out _ HR.out).mono ?_
    clear HTR
    rintro e w7 ⟨⟨j,rfl,hj,hjv,hjd⟩,rfl⟩
    have HJV:Hid (val (S.take j) = val S):=hjv
    have HJD:Hid (Digs w7 (.slice (some ⟨gr,0,none⟩) j (m + 1)) (S.take j)):=hjd
    clear hjv hjd
    go_wp2_with fail
    with_reducible refine (Tryz.lowered _ (S.take j) s _ HJD.out (HA.out.rd.take j) s0 (by omega) (by rw [List.length_take,HSL2.out]; omega)).mono ?_
    rintro e w8 ⟨⟨v8,T,rfl,hT8,hTd,hTl,hTv⟩,hb8⟩
    have HT8:Hid (Digs w8 v8 T):=hT8
    have HTD:Hid (Dig T):=hTd
    have HTV:Hid (val T = val S / 2 ^ s.toNat):=by show _ = _; rw [hTv,HJV.out]
    have HTL:Hid (T.length ≤ m + 1):=by
     show _ ≤ _
     rw [List.length_take,HSL2.out] at hTl; omega
    have HQ8:Hid (Digs w8 (.slice (some ⟨gq,0,none⟩) lq lq) Q):=by
     have h:=(HQ.out.below hb8 HQ.out.lt).digs (by rw [HA.out.ql]; unfold maxLen; omega)
     rw [HA.out.ql] at h
     exact h
    have HB8:Hid (Below w.heap.size w w8):=Below.after HB.out hb8
    clear hT8 hTd hTl hTv hb8
    go_wp2
    go_ret2
    have hlast:=HA.out.last HVY.out (Int.pow_pos (by omega))
    rw [← HTV.out] at hlast
    exact ⟨⟨_,_,Q,T,rfl,HQ8.out,HT8.out,HA.out.qd,HTD.out,hlast.1,hlast.2.1,hlast.2.2,by rw [HA.out.ql,HM.out]; omega,by rw [HM.out]; exact HTL.out⟩,HB8.out⟩
  | succ k =>
    rw [show ((k + 1:Nat):Int) - 1 = k by omega]
    have HTAKE:Hid (Calls Tryz.prog 194 #[.slice (some ⟨gr,k,none⟩) (k + (n + 1) + 1 - k) (m + 1 - k),.slice (some ⟨gl,0,none⟩) (n + 1) (n + 2)] wr fun e w'=>(∃ q M,e = .returned (.int .u64 q) ∧ RowOf w' gr M ∧ Taken S zs k q M) ∧ wr.grownBy w' (some gr)):=by
     have hin:TakeIn S zs k (n + 1):=⟨HZL.out,by omega,HA.out.rd,HZD.out,by rw [HA.out.rl]; omega,by rw [HA.out.rl]; omega,HTOP.out,HA.out.less⟩
     have h:∀ N:Nat,N = n + 1 + 1 → Calls Tryz.prog 194 #[.slice (some ⟨gr,k,none⟩) N (m + 1 - k),.slice (some ⟨gl,0,none⟩) (n + 1) (n + 2)] wr fun e w'=>(∃ q M,e = .returned (.int .u64 q) ∧ RowOf w' gr M ∧ Taken S zs k q M) ∧ wr.grownBy w' (some gr):=fun N hN=>by
      subst hN
      exact Tryz.takeDigit gr k (n + 1) (m + 1 - k) gl (n + 2) S zs wr hin HR.out HZ.out hne (by omega) (by omega)
     exact h _ (by omega)
    go_wp2_with fail
    with_reducible refine HTAKE.out.mono ?_
    clear HTAKE
    rintro e w7 ⟨⟨q,M,rfl,hM,hTk⟩,hg7⟩
    have hlt7:gr < w7.heap.size:=hM.lt
    have HAT:Hid (QuAt (val xs * 2 ^ s.toNat) zs lq (m + 1) k (Q.set k q) M):=HA.out.step (by omega) hTk
    have HM7:Hid (RowOf w7 gr M):=hM
    have HQ7:Hid (RowOf w7 gq Q):=HQ.out.kept hg7 (by simp; omega)
    have HZ7:Hid (RowAt w7 gl (n + 2) zs):=HZ.out.kept hg7 (by simp; omega)
    have HB7:Hid (Below w.heap.size w w7):=HB.out.grown hg7 (by have:=HB.out.size; exact this) (fun k hk=>by cases hk; exact hgw)
    obtain ⟨c,hc⟩:∃ c,Q.getD k 0 = c:=⟨_,rfl⟩
    have hcq:=HQ7.out.cell (j:=k) (by rw [HA.out.ql]; omega)
    rw [hc] at hcq
    have hfq:=HQ7.out.frozen k
    clear hM hTk hg7 hc
    go_wp2
    exact ⟨⟨k,_,M,rfl,by omega,HAT.out,HQ7.out.set k q,HM7.out.kept (grownBy_set (grownBy_refl _ (some gq)) k none _) (by simp; omega),HZ7.out.kept (grownBy_set (grownBy_refl _ (some gq)) k none _) (by simp; omega),HB7.out.setCell (by omega) _⟩,by simp [intOf]⟩
end Go.Proofs.Wd
