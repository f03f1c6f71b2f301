/- What addRow of the package nat does: it adds a row by one word to the words that it is handed, and tells what is over. What Mul of the package nat returns: the product. -/
import Derived.Test.YtcnjcfoaoaldeaaGreatDoorLs
import Derived.Test.YtcnjcfoaoaldeaaGreatDoorWd3
import Derived.Test.YtcnjcfoaoaldeaaGreatDoorSm
import Derived.Lib.Hide
set_option linter.unusedVariables false
set_option maxHeartbeats 8000000
set_option maxRecDepth 100000
namespace Go.Proofs.Wd
open Go.RowKit
/-- What holds at the head of addRow's loop. -/
structure AddRo (L ys:List Int) (d:Int) (o k:Nat) (v:Int) (M:List Int):Prop where
 len:M.length = L.length
 dig:Dig M
 rest:∀ j,j < o ∨ o + k ≤ j → M.getD j 0 = L.getD j 0
 sum:val M + 18446744073709551616 ^ (o + k) * v = val L + 18446744073709551616 ^ o * (d * val (ys.take k))
 v0:0 ≤ v
 v1:v ≤ 18446744073709551615
theorem AddRo.start {L:List Int} (ys:List Int) (d:Int) (o:Nat) (h:Dig L):AddRo L ys d o 0 0 L:=⟨rfl,h,fun j _=>rfl,by simp,by omega,by omega⟩
theorem ci (b:Bool):(if b = true then (18446744073709551616:Int) else 0) = 18446744073709551616 * cI b:=by cases b <;> rfl
theorem overRoom {y d v h l x s:Int} {c:Bool} (he:h * 18446744073709551616 + l = y * d + v) (hs:s + 18446744073709551616 * cI c = x + l) (y0:0 ≤ y) (y1:y ≤ 18446744073709551615) (d0:0 ≤ d) (d1:d ≤ 18446744073709551615) (v0:0 ≤ v) (v1:v ≤ 18446744073709551615)
 (h0:0 ≤ h) (l0:0 ≤ l) (l1:l ≤ 18446744073709551615) (x1:x ≤ 18446744073709551615) (s0:0 ≤ s):h + cI c ≤ 18446744073709551615:=by
 have m1:y * d ≤ 18446744073709551615 * d:=Int.mul_le_mul_of_nonneg_right y1 d0
 unfold cI at *
 cases c <;> simp at hs ⊢ <;> omega
theorem AddRo.step {L ys M:List Int} {d:Int} {o k:Nat} {v x y h l s:Int} {c:Bool} (H:AddRo L ys d o k v M) (hk:k < ys.length) (hfit:o + ys.length ≤ L.length) (hx:M.getD (o + k) 0 = x) (hy:ys.getD k 0 = y)
 (he:h * 18446744073709551616 + l = y * d + v) (hs:s + 18446744073709551616 * cI c = x + l) (s0:0 ≤ s) (s1:s ≤ 18446744073709551615) (h0:0 ≤ h + cI c) (h1:h + cI c ≤ 18446744073709551615) :
 AddRo L ys d o (k + 1) (h + cI c) (M.set (o + k) s):=by
 have hl:=H.len
 refine ⟨by rw [List.length_set,hl],Dig.set H.dig (o + k) s0 s1,fun j hj=>by rw [getD_set_ne _ (by omega)]; exact H.rest j (by omega),?_,h0,h1⟩
 rw [val_set _ _ _ (by omega),val_take_succ _ _ hk,hx,hy]
 have hs2:=H.sum
 have e:(18446744073709551616:Int) ^ (o + (k + 1)) = 18446744073709551616 ^ (o + k) * 18446744073709551616:=by rw [← Nat.add_assoc,Int.pow_succ]
 have e2:(18446744073709551616:Int) ^ o * (d * (val (ys.take k) + 18446744073709551616 ^ k * y)) = 18446744073709551616 ^ o * (d * val (ys.take k)) + 18446744073709551616 ^ (o + k) * (y * d):=by
  rw [Int.mul_add,Int.mul_add,Int.pow_add,Int.mul_left_comm d,Int.mul_comm d y,Int.mul_assoc (18446744073709551616 ^ o)]
 rw [e,e2]
 generalize (18446744073709551616:Int) ^ (o + k) = P at *
 generalize (18446744073709551616:Int) ^ o * (d * val (ys.take k)) = Q at *
 have e3:y * d = h * 18446744073709551616 + l - v:=by omega
 have e4:s = x + l - 18446744073709551616 * cI c:=by omega
 rw [e3,e4,Int.mul_assoc]
 have e5:(18446744073709551616:Int) * (h + cI c) = h * 18446744073709551616 + 18446744073709551616 * cI c:=by rw [Int.mul_add,Int.mul_comm]
 rw [e5]
 generalize h * 18446744073709551616 = A
 generalize 18446744073709551616 * cI c = D
 rw [show x + l - D - x = l - D by omega,Int.mul_sub,Int.mul_sub,Int.mul_add,Int.mul_add]
 omega
theorem Tryz.addRow (gz oz capz:Nat) (L ys:List Int) (py:Option Addr) (capy:Nat) (d:Int) (w:World) (hz:RowOf w gz L) (hL:Dig L) (hfit:oz + ys.length ≤ L.length) (hlen:L.length ≤ 1000000000000)
 (hyd:Dig ys) (hy:0 < ys.length → ∃ g,py = some ⟨g,0,none⟩ ∧ g ≠ gz ∧ RowAt w g capy ys) (d0:0 ≤ d) (d1:d ≤ 18446744073709551615) :
 Calls Tryz.prog 203 #[.slice (some ⟨gz,oz,none⟩) ys.length capz,.slice py ys.length capy,.int .u64 d] w fun e w'=>
  (∃ M v,e = .returned (.int .u64 v) ∧ RowOf w' gz M ∧ AddRo L ys d oz ys.length v M) ∧ w.grownBy w' (some gz):=by
 obtain ⟨n,hn⟩:∃ n,ys.length = n:=⟨_,rfl⟩
 have HN:Hid (ys.length = n):=hn
 have HZ:Hid (RowOf w gz L):=hz
 have HY:Hid (0 < n → ∃ g,py = some ⟨g,0,none⟩ ∧ g ≠ gz ∧ RowAt w g capy ys):=fun h=>hy (by omega)
 have HS:Hid (AddRo L ys d oz 0 0 L):=AddRo.start ys d oz hL
 have HD:Hid (Dig ys):=hyd
 rw [hn] at hfit
 rw [hn]
 obtain ⟨m,hm⟩:∃ m,L.length = m:=⟨_,rfl⟩
 have HM:Hid (L.length = m):=hm
 rw [hm] at hfit hlen
 clear hz hL hy hyd hn hm
 go_enter Tryz.func203,Tryz.ntmps203
 go_wp2
 go_loopw [7,8,14] (fun ov bv i wr=>∃ (v:Int) (c:Bool) (k:Nat) (M:List Int),ov = .int .u64 v ∧ bv = .bool c ∧ i = .int .i64 k ∧ k ≤ n ∧ AddRo L ys d oz k v M ∧ RowOf wr gz M ∧ w.grownBy wr (some gz)) (fun _ _ i _=>n - (intOf i).toNat)
 case atStart=>exact ⟨0,false,0,L,rfl,rfl,rfl,by omega,HS.out,HZ.out,grownBy_refl w _⟩
 case round=>
  obtain ⟨v,c,k,M,rfl,rfl,rfl,hk,hat,hrow,hg⟩:=hrel
  have HA:Hid (AddRo L ys d oz k v M):=hat
  have HR:Hid (RowOf wr gz M):=hrow
  have HG:Hid (w.grownBy wr (some gz)):=hg
  have v0:=hat.v0
  have v1:=hat.v1
  by_cases hkn:k = n
  ·subst hkn
   clear hat hrow hg
   go_wp2
   go_ret
   exact ⟨⟨M,v,rfl,HR.out,HA.out⟩,HG.out⟩
  ·obtain ⟨g,rfl,hgz,hgr⟩:=HY.out (by omega)
   obtain ⟨x,hx⟩:∃ x,M.getD (oz + k) 0 = x:=⟨_,rfl⟩
   obtain ⟨y,hyk⟩:∃ y,ys.getD k 0 = y:=⟨_,rfl⟩
   have hml:M.length = m:=by rw [hat.len]; exact HM.out
   have hcx:=hrow.cell (j:=oz + k) (by omega)
   have hcy:wr.cell? ⟨g,k,none⟩ = some (.int .u64 (ys.getD k 0)):=hg.cell (hgr.cells k (by have:=HN.out; omega)) (by simp; omega)
   have hfr:=hrow.frozen (oz + k)
   have hxd:=hat.dig.get (oz + k)
   have hyd:=HD.out.get k
   rw [hx] at hcx hxd
   rw [hyk] at hcy hyd
   have HX:Hid (M.getD (oz + k) 0 = x):=hx
   have HYK:Hid (ys.getD k 0 = y):=hyk
   have hwo:IntKind.i64.wrap ((oz:Int) + k) = (oz:Int) + k:=by simp [IntKind.wrap,IntKind.signed,IntKind.bits]; omega
   clear hat hrow hg hx hyk hml hgr
   go_wp2_with fail
   with_reducible refine (Tryz.row y d v _ hyd.1 hyd.2 d0 d1 v0 v1).mono ?_
   rintro e w' ⟨⟨h,l,he,h0,h1,l0,l1,rfl⟩,rfl⟩
   have HE:Hid (h * 18446744073709551616 + l = y * d + v):=he
   clear he
   go_wp2_with fail
   with_reducible refine (Tryz.AddX x l false _ hxd.1 hxd.2 l0 l1).mono ?_
   rintro e w' ⟨⟨s,b,hs,s0,s1,rfl⟩,rfl⟩
   have HSB:Hid (s + 18446744073709551616 * cI b = x + l):=by
    show _ = _
    rw [ci] at hs
    simpa using hs
   clear hs
   have hlk:=overRoom HE.out HSB.out hyd.1 hyd.2 d0 d1 v0 v1 h0 l0 l1 hxd.2 s0
   go_wp2
   ·have hb:b = true:=by assumption
    have hc1:cI b = 1:=by rw [hb]; rfl
    have HST:Hid (AddRo L ys d oz (k + 1) (h + cI b) (M.set (oz + k) s)):=HA.out.step (by have:=HN.out; omega) (by have:=HN.out; have:=HM.out; omega) HX.out HYK.out HE.out HSB.out s0 s1 (by omega) hlk
    have hw1:IntKind.u64.wrap (h + 1) = h + cI b:=by rw [u64w,hc1]; omega
    exact ⟨⟨h + cI b,b,k + 1,M.set (oz + k) s,by rw [hw1],rfl,by simp,by omega,HST.out,HR.out.set (oz + k) s,grownBy_set HG.out _ none _⟩,by simp [intOf]; omega⟩
   ·have hb:b = false:=by assumption
    have hc1:cI b = 0:=by rw [hb]; rfl
    have HST:Hid (AddRo L ys d oz (k + 1) (h + cI b) (M.set (oz + k) s)):=HA.out.step (by have:=HN.out; omega) (by have:=HN.out; have:=HM.out; omega) HX.out HYK.out HE.out HSB.out s0 s1 (by omega) hlk
    exact ⟨⟨h + cI b,b,k + 1,M.set (oz + k) s,by rw [hc1,Int.add_zero],rfl,by simp,by omega,HST.out,HR.out.set (oz + k) s,grownBy_set HG.out _ none _⟩,by simp [intOf]; omega⟩
end Go.Proofs.Wd
namespace Go.Proofs.Wd
open Go.RowKit
/-- What holds at the head of product's loop. -/
structure ProAt (xs ys:List Int) (k:Nat) (M:List Int):Prop where
 len:M.length = xs.length + ys.length
 dig:Dig M
 rest:∀ j,k + ys.length ≤ j → M.getD j 0 = 0
 sum:val M = val (xs.take k) * val ys
theorem getD_zeros (n j:Nat):(List.replicate n (0:Int)).getD j 0 = 0:=by
 simp only [List.getD,List.getElem?_replicate]; split <;> rfl
theorem ProAt.start (xs ys:List Int):ProAt xs ys 0 (List.replicate (xs.length + ys.length) 0):=
 ⟨by simp,fun d hd=>by rw [(List.mem_replicate.1 hd).2]; omega,fun j _=>getD_zeros _ j,by rw [val_zeros]; simp⟩
theorem ProAt.step {xs ys M N:List Int} {k:Nat} {d v:Int} (H:ProAt xs ys k M) (hk:k < xs.length) (hd:xs.getD k 0 = d) (A:AddRo M ys d k ys.length v N):ProAt xs ys (k + 1) (N.set (k + ys.length) v):=by
 have hl:=H.len
 have hn:=A.len
 refine ⟨by rw [List.length_set,hn,hl],Dig.set A.dig _ A.v0 A.v1,fun j hj=>?_,?_⟩
 ·rw [getD_set_ne _ (by omega),A.rest j (by omega)]; exact H.rest j (by omega)
 ·rw [val_set _ _ _ (by omega),A.rest (k + ys.length) (by omega),H.rest (k + ys.length) (by omega),val_take_succ _ _ hk,hd]
  have s:=A.sum
  rw [List.take_of_length_le (Nat.le_refl ys.length),H.sum] at s
  rw [Int.sub_zero,s,Int.add_mul,Int.mul_assoc]
theorem ProAt.last {xs ys M:List Int} {k:Nat} (H:ProAt xs ys k M) (hk:xs.length ≤ k):val M = val xs * val ys:=by
 rw [H.sum,List.take_of_length_le hk]
theorem Tryz.product (v u:Value) (xs ys:List Int) (w:World) (hv:Digs w v xs) (hu:Digs w u ys) (hx:Dig xs) (hy:Dig ys) (hlen:xs.length ≤ 100000000000) (hlen2:ys.length ≤ 100000000000) :
 Calls Tryz.prog 171 #[v,u] w fun e w'=>(∃ r L,e = .returned r ∧ NewRow w' w.heap.size r L ∧ Dig L ∧ L.length = xs.length + ys.length ∧ val L = val xs * val ys) ∧ Below w.heap.size w w':=by
 obtain ⟨i0,hi,hz0,hz1,hz2⟩:=info_parts Tryz.info73
 obtain ⟨p,cap,rfl,hxl,hxr⟩:=hv.slice
 obtain ⟨q,dap,rfl,hyl,hyr⟩:=hu.slice
 obtain ⟨n,hn⟩:∃ n,xs.length = n:=⟨_,rfl⟩
 obtain ⟨m,hm⟩:∃ m,ys.length = m:=⟨_,rfl⟩
 have HXR:Hid (0 < n → ∃ g,p = some ⟨g,0,none⟩ ∧ RowAt w g cap xs):=fun h=>hxr (by omega)
 have HYR:Hid (0 < ys.length → ∃ g,q = some ⟨g,0,none⟩ ∧ RowAt w g dap ys):=fun h=>hyr (by omega)
 have HN:Hid (xs.length = n):=hn
 have HM:Hid (ys.length = m):=hm
 have HX:Hid (Dig xs):=hx
 have HY:Hid (Dig ys):=hy
 rw [hn] at hxl hlen
 rw [hm] at hyl hlen2
 rw [hn,hm]
 clear hv hu hx hy hxr hyr hn hm
 go_enter Tryz.func171,Tryz.ntmps171
 go_wp2_with (first
  |(refine wpList_make_full _ rfl _ _ 139 rfl w.heap.size 73 i0 (.int .u64 0) 1 Tryz.underlying139 hi hz0 hz1 .i64 .i64 _ _ (n + m) rfl rfl rfl rfl (by rw [hz2]; omega) (by unfold maxLen; omega) (by omega) ?_))
 intro w1 hown hgrow
 have hrow1:=RowOf.of_made (by rw [toList_madeCells_one] at hown; exact hown)
 have HROW:Hid (RowOf w1 w.heap.size (List.replicate (xs.length + ys.length) 0)):=by show RowOf _ _ _; rw [HN.out,HM.out]; exact hrow1
 have HB1:Hid (Below w.heap.size w w1):=(Below.refl _ _).grown hgrow (Nat.le_refl _) (fun k hk=>by cases hk)
 clear hown hgrow hrow1
 go_wp2
 go_loopw [16] (fun i wr=>∃ (k:Nat) (M:List Int),i = .int .i64 k ∧ k ≤ n ∧ ProAt xs ys k M ∧ RowOf wr w.heap.size M ∧ Below w.heap.size w wr) (fun i _=>n - (intOf i).toNat)
 case atStart=>exact ⟨0,_,rfl,by omega,ProAt.start xs ys,HROW.out,HB1.out⟩
 case round=>
  obtain ⟨k,M,rfl,hk,hat,hrow,hb⟩:=hrel
  have HA:Hid (ProAt xs ys k M):=hat
  have HR:Hid (RowOf wr w.heap.size M):=hrow
  have HB:Hid (Below w.heap.size w wr):=hb
  have HML:Hid (M.length = n + m):=show M.length = n + m by rw [hat.len,HN.out,HM.out]
  by_cases hkn:k = n
  ·subst hkn
   clear hat hrow hb
   go_wp2
   go_ret
   exact ⟨⟨_,M,rfl,⟨by rw [HML.out]; rfl,HR.out⟩,HA.out.dig,HML.out,HA.out.last (by have:=HN.out; omega)⟩,HB.out⟩
  ·obtain ⟨g,rfl,hgr⟩:=HXR.out (by omega)
   obtain ⟨d,hd⟩:∃ d,xs.getD k 0 = d:=⟨_,rfl⟩
   have hlt:=hgr.lt
   have hcx:=(hb.cell (p:=⟨g,k,none⟩) hlt).trans (hgr.cells k (by have:=HN.out; omega))
   have hxd:=HX.out.get k
   rw [hd] at hcx hxd
   have HXV:Hid (xs.getD k 0 = d):=hd
   have hadd:=fun capz=>Tryz.addRow w.heap.size k capz M ys q dap d wr HR.out HA.out.dig (by rw [HML.out,HM.out]; omega) (by rw [HML.out]; omega) HY.out (fun h=>by
    obtain ⟨g,hg,hr⟩:=HYR.out h
    exact ⟨g,hg,by have:=hr.lt; omega,hr.below HB.out hr.lt⟩) hxd.1 hxd.2
   rw [HM.out] at hadd
   have HADD:=Lib.hid hadd
   have hwo:IntKind.i64.wrap ((k:Int) + m) = (k:Int) + m:=by simp [IntKind.wrap,IntKind.signed,IntKind.bits]; omega
   clear hat hrow hb hd hadd hgr
   go_wp2_with fail
   with_reducible refine (HADD.out _).mono ?_
   rintro e w2 ⟨⟨N,v,rfl,hr2,hat2⟩,hg2⟩
   have HR2:Hid (RowOf w2 w.heap.size N):=hr2
   have hnl:N.length = n + m:=by rw [hat2.len,HML.out]
   have hcz:=hr2.cell (j:=k + m) (by omega)
   have hfr:=hr2.frozen (k + m)
   obtain ⟨o,ho⟩:∃ o,N.getD (k + m) 0 = o:=⟨_,rfl⟩
   rw [ho] at hcz
   have hv0:=hat2.v0
   have hv1:=hat2.v1
   have HST:Hid (ProAt xs ys (k + 1) (N.set (k + m) v)):=by
    have h:=HA.out.step (v:=v) (N:=N) (by have:=HN.out; omega) HXV.out (by rw [HM.out]; exact hat2)
    rw [HM.out] at h
    exact h
   have HB2:Hid (Below w.heap.size w w2):=HB.out.grown hg2 (by have:=HB.out.size; exact this) (fun j hj=>by cases hj; exact Nat.le_refl _)
   clear hr2 hat2 hg2 ho HADD
   go_wp2
   exact ⟨⟨k + 1,_,by simp,by omega,HST.out,HR2.out.set (k + m) v,HB2.out.setCell (Nat.le_refl _) _⟩,by simp [intOf]; omega⟩
end Go.Proofs.Wd
