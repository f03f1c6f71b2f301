/- What difference of the package nat returns, and Less of its numbers. What subRow of the package nat does: it takes a row by one word off the words that it is handed, and tells what is lacking. What guess of the package nat returns: the quotient of three words by two, downward, or the greatest word where it is past that. What takeDigit of the package nat does: it takes one digit of a quotient, and leaves the rest in the words that it is handed. What takeDigit of the package nat does: the walk. -/
import Derived.Test.YtcnjcfoaoaldeaaGreatDoorSm
import Derived.Test.YtcnjcfoaoaldeaaGreatDoorWd
set_option linter.unusedVariables false
set_option maxHeartbeats 8000000
set_option maxRecDepth 100000
namespace Go.Proofs.Wd
open Go.RowKit
theorem Tryz.SubX (x y:Int) (c:Bool) (w:World) (h0:0 ≤ x) (h1:x ≤ 18446744073709551615) (h2:0 ≤ y) (h3:y ≤ 18446744073709551615) :
 Calls Tryz.prog 250 #[.int .u64 x,.int .u64 y,.bool c] w fun e w'=>(∃ s d,s + y + cI c = x + 18446744073709551616 * cI d ∧ 0 ≤ s ∧ s ≤ 18446744073709551615 ∧ e = .returned (.tuple #[.int .u64 s,.bool d])) ∧ w' = w:=by
 refine (Go.Proofs.Tryz.Sub x y c w h0 h1 h2 h3).mono ?_
 rintro e w' ⟨rfl,rfl⟩
 refine ⟨⟨_,_,?_,by omega,by omega,rfl⟩,rfl⟩
 unfold cI
 simp only [decide_eq_true_eq]
 cases c
 ·simp only [Bool.false_eq_true,if_false]
  split <;> omega
 ·simp only [if_true]
  split <;> omega
/-- What holds at the heads of difference's loops: k words are done, c is borrowed. -/
structure DiffAt (xs ys:List Int) (k:Nat) (c:Bool) (L:List Int):Prop where
 len:L.length = xs.length
 dig:Dig L
 rest:∀ j,k ≤ j → L.getD j 0 = 0
 sum:val L + val (ys.take k) = val (xs.take k) + 18446744073709551616 ^ k * cI c
theorem DiffAt.start (xs ys:List Int):DiffAt xs ys 0 false (List.replicate xs.length 0):=by
 refine ⟨by simp,fun d hd=>by rw [(List.mem_replicate.1 hd).2]; omega,fun j _=>?_,by simp [val_zeros,cI]⟩
 simp [List.getD,List.getElem?_replicate]; split <;> simp
theorem DiffAt.step {xs ys L:List Int} {k:Nat} {c d:Bool} {s x y:Int} (h:DiffAt xs ys k c L) (hk:k < xs.length) (hx:xs.getD k 0 = x) (hy:ys.getD k 0 = y)
 (he:s + y + cI c = x + 18446744073709551616 * cI d) (s0:0 ≤ s) (s1:s ≤ 18446744073709551615):DiffAt xs ys (k + 1) d (L.set k s):=by
 have hl:=h.len
 refine ⟨by rw [List.length_set,hl],Dig.set h.dig k s0 s1,fun j hj=>by rw [getD_set_ne _ (by omega)]; exact h.rest j (by omega),?_⟩
 rw [val_set _ _ _ (by omega),h.rest k (Nat.le_refl _),val_take_next,val_take_next,hx,hy,Int.pow_succ,Int.sub_zero]
 have hs:=h.sum
 generalize (18446744073709551616:Int) ^ k = P at *
 have e:s = x + 18446744073709551616 * cI d - y - cI c:=by omega
 rw [e,Int.mul_assoc]
 generalize 18446744073709551616 * cI d = D
 rw [Int.mul_sub,Int.mul_sub,Int.mul_add]
 omega
theorem DiffAt.last {xs ys L:List Int} {c:Bool} (h:DiffAt xs ys xs.length c L) (hx:Dig xs) (hy:Dig ys) (hl:ys.length ≤ xs.length) (hle:val ys ≤ val xs):val L = val xs - val ys:=by
 have h1:=h.sum
 rw [List.take_of_length_le hl,List.take_of_length_le (Nat.le_refl _)] at h1
 have b1:=val_lt h.dig
 rw [h.len] at b1
 have b2:=pow_pos' xs.length
 cases c with
 | false=>simp [cI] at h1; omega
 | true =>
   simp only [cI,if_true,Int.mul_one] at h1
   omega
theorem Tryz.difference (v u:Value) (xs ys:List Int) (w:World) (hv:Digs w v xs) (hu:Digs w u ys) (hx:Dig xs) (hy:Dig ys) (hlen:xs.length ≤ 100000000000) (hl:ys.length ≤ xs.length) (hle:val ys ≤ val xs) :
 Calls Tryz.prog 233 #[v,u] w fun e w'=>(∃ r L,e = .returned r ∧ NewRow w' w.heap.size r L ∧ Dig L ∧ L.length = xs.length ∧ val L = val xs - val ys) ∧ Below w.heap.size w w':=by
 obtain ⟨i0,hi,hz0,hz1,hz2⟩:=info_parts Tryz.info73
 obtain ⟨p,cap,rfl,hxl,hxr⟩:=hv.slice
 obtain ⟨q,dap,rfl,hyl,hyr⟩:=hu.slice
 obtain ⟨n,hn⟩:∃ n,xs.length = n:=⟨_,rfl⟩
 obtain ⟨m,hm⟩:∃ m,ys.length = m:=⟨_,rfl⟩
 have HXR:Hid (0 < n → ∃ g,p = some ⟨g,0,none⟩ ∧ RowAt w g cap xs):=fun h=>hxr (by omega)
 have HYR:Hid (0 < m → ∃ g,q = some ⟨g,0,none⟩ ∧ RowAt w g dap ys):=fun h=>hyr (by omega)
 have HN:Hid (xs.length = n):=hn
 have HM:Hid (ys.length = m):=hm
 have HX:Hid (Dig xs):=hx
 have HY:Hid (Dig ys):=hy
 have HFIN:Hid (∀ L c,DiffAt xs ys n c L → val L = val xs - val ys):=fun L c h=>by
  rw [← hn] at h; exact h.last hx hy hl hle
 rw [hn] at hxl hlen hl
 rw [hm] at hyl hl
 rw [hn,hm]
 clear hv hu hx hy hxr hyr hn hm hle
 go_enter Tryz.func233,Tryz.ntmps233
 go_wp2_with (first
  |(refine wpList_make_full _ rfl _ _ 139 rfl w.heap.size 73 i0 (.int .u64 0) 1 Tryz.underlying139 hi hz0 hz1 .i64 .i64 _ _ n rfl rfl rfl rfl (by rw [hz2]; omega) (by unfold maxLen; omega) (by omega) ?_))
 intro w1 hown hgrow
 have hrow1:=RowOf.of_made (by rw [toList_madeCells_one] at hown; exact hown)
 have HROW:Hid (RowOf w1 w.heap.size (List.replicate xs.length 0)):=by show RowOf _ _ _; rw [HN.out]; exact hrow1
 have HB1:Hid (Below w.heap.size w w1):=(Below.refl _ _).grown hgrow (Nat.le_refl _) (fun k hk=>by cases hk)
 clear hown hgrow hrow1
 go_wp2
 go_loopw [6,15] (fun cv i wr=>∃ (c:Bool) (k:Nat) (L:List Int),cv = .bool c ∧ i = .int .i64 k ∧ k ≤ m ∧ DiffAt xs ys k c L ∧ RowOf wr w.heap.size L ∧ Below w.heap.size w wr) (fun _ i _=>m - (intOf i).toNat)
 case atStart=>exact ⟨false,0,_,rfl,rfl,by omega,DiffAt.start xs ys,HROW.out,HB1.out⟩
 case round=>
  obtain ⟨c,k,L,rfl,rfl,hk,hat,hrow,hb⟩:=hrel
  have HA:Hid (DiffAt xs ys k c L):=hat
  have HR:Hid (RowOf wr w.heap.size L):=hrow
  have HB:Hid (Below w.heap.size w wr):=hb
  have hll:L.length = n:=by rw [hat.len]; exact HN.out
  have HLL:Hid (L.length = n):=hll
  by_cases hkm:k = m
  ·subst hkm
   obtain ⟨wo,rfl⟩:∃ wo:World,wo = wr:=⟨_,rfl⟩
   clear hat hrow hb hll HROW HB1
   go_wp2
   go_loopw [6,9] (fun cv i ws=>∃ (c:Bool) (j:Nat) (K:List Int),cv = .bool c ∧ i = .int .i64 j ∧ k ≤ j ∧ j ≤ n ∧ DiffAt xs ys j c K ∧ RowOf ws w.heap.size K ∧ Below w.heap.size w ws) (fun _ i _=>n - (intOf i).toNat)
   case atStart=>exact ⟨c,k,L,rfl,rfl,by omega,by omega,HA.out,HR.out,HB.out⟩
   case round=>
    obtain ⟨d,j,K,rfl,rfl,hkj,hj,hat,hrow,hb⟩:=hrel
    have HA2:Hid (DiffAt xs ys j d K):=hat
    have HR2:Hid (RowOf wr w.heap.size K):=hrow
    have HB2:Hid (Below w.heap.size w wr):=hb
    have hkl:K.length = n:=by rw [hat.len]; exact HN.out
    have HKL:Hid (K.length = n):=hkl
    by_cases hjn:j = n
    ·subst hjn
     clear hat hrow hb hkl
     go_wp2
     go_ret
     exact ⟨⟨_,K,rfl,⟨by rw [HKL.out]; rfl,HR2.out⟩,HA2.out.dig,HKL.out,HFIN.out K d HA2.out⟩,HB2.out⟩
    ·obtain ⟨g,rfl,hgr⟩:=HXR.out (by omega)
     obtain ⟨x,hx⟩:∃ x,xs.getD j 0 = x:=⟨_,rfl⟩
     have hlt:=hgr.lt
     have hcx:=(hb.cell (p:=⟨g,j,none⟩) hlt).trans (hgr.cells j (by have:=HN.out; omega))
     have hxd:=HX.out.get j
     rw [hx] at hcx hxd
     have hcz:=hrow.cell (j:=j) (by omega)
     obtain ⟨o,ho⟩:∃ o,K.getD j 0 = o:=⟨_,rfl⟩
     rw [ho] at hcz
     have hfr:=hrow.frozen j
     have HXV:Hid (xs.getD j 0 = x):=hx
     clear hat hrow hb hx ho hkl hgr
     go_wp2_with (go_at_call 250; refine (Tryz.SubX x 0 d _ hxd.1 hxd.2 (by omega) (by omega)).mono ?_; rintro e w' ⟨⟨s,d',he,s0,s1,rfl⟩,rfl⟩; have HE:Hid (s + 0 + cI d = x + 18446744073709551616 * cI d'):=he; clear he)
     have HST:Hid (DiffAt xs ys (j + 1) d' (K.set j s)):=HA2.out.step (by have:=HN.out; omega) HXV.out (getD_over (by have:=HM.out; omega)) HE.out s0 s1
     exact ⟨⟨d',j + 1,K.set j s,rfl,by simp,by omega,by omega,HST.out,HR2.out.set j s,HB2.out.setCell (Nat.le_refl _) _⟩,by simp [intOf]; omega⟩
  ·obtain ⟨g,rfl,hgr⟩:=HXR.out (by omega)
   obtain ⟨g',rfl,hgr'⟩:=HYR.out (by omega)
   obtain ⟨x,hx⟩:∃ x,xs.getD k 0 = x:=⟨_,rfl⟩
   obtain ⟨y,hyk⟩:∃ y,ys.getD k 0 = y:=⟨_,rfl⟩
   have hlt:=hgr.lt
   have hlt':=hgr'.lt
   have hcx:=(hb.cell (p:=⟨g,k,none⟩) hlt).trans (hgr.cells k (by have:=HN.out; omega))
   have hcy:=(hb.cell (p:=⟨g',k,none⟩) hlt').trans (hgr'.cells k (by have:=HM.out; omega))
   have hxd:=HX.out.get k
   have hyd:=HY.out.get k
   rw [hx] at hcx hxd
   rw [hyk] at hcy hyd
   have hcz:=hrow.cell (j:=k) (by omega)
   obtain ⟨o,ho⟩:∃ o,L.getD k 0 = o:=⟨_,rfl⟩
   rw [ho] at hcz
   have hfr:=hrow.frozen k
   have HXV:Hid (xs.getD k 0 = x):=hx
   have HYV:Hid (ys.getD k 0 = y):=hyk
   have hkn:k < n:=by omega
   clear hat hrow hb hx hyk ho hll hgr hgr'
   go_wp2_with (go_at_call 250; refine (Tryz.SubX x y c _ hxd.1 hxd.2 hyd.1 hyd.2).mono ?_; rintro e w' ⟨⟨s,d',he,s0,s1,rfl⟩,rfl⟩; have HE:Hid (s + y + cI c = x + 18446744073709551616 * cI d'):=he; clear he)
   have HST:Hid (DiffAt xs ys (k + 1) d' (L.set k s)):=HA.out.step (by have:=HN.out; omega) HXV.out HYV.out HE.out s0 s1
   exact ⟨⟨d',k + 1,L.set k s,rfl,by simp,by omega,HST.out,HR.out.set k s,HB.out.setCell (Nat.le_refl _) _⟩,by simp [intOf]; omega⟩
/-- What Less tells: the difference and true, or nil and false. -/
def LessIs (z y:Int) (n:Nat) (w:World) (e:Ending):Prop:=(y ≤ z ∧ ∃ v,e = .returned (.tuple #[v,.bool true]) ∧ Num w v (z - y) n) ∨ (z < y ∧ e = .returned (.tuple #[.pointer none,.bool false]))
theorem Tryz.natLess (v u:Value) (z y:Int) (n m:Nat) (w:World) (hv:Num w v z n) (hu:Num w u y m) (hn:n ≤ 100000000000) :
 Calls Tryz.prog 204 #[v,u] w fun e w'=>LessIs z y n w' e ∧ Below w.heap.size w w':=by
 obtain ⟨xs,hi,hd,ht,hz,hl⟩:=hv
 obtain ⟨ys,gi,gd,gt,gz,gl⟩:=hu
 have HI:Hid (IsNat w v xs):=hi
 have GI:Hid (IsNat w u ys):=gi
 have HD:Hid (Dig xs):=hd
 have GD:Hid (Dig ys):=gd
 have HZ:Hid (val xs - val ys = z - y):=by show _ = _; rw [hz,gz]
 by_cases hle:y ≤ z
 ·have hyx:val ys ≤ val xs:=by omega
  have hll:ys.length ≤ xs.length:=by
   by_cases hn:ys = []
   ·subst hn; simp
   ·have h1:=top_pos gd gt hn
    have h2:=val_lt hd
    by_cases g:ys.length ≤ xs.length
    ·exact g
    ·have:=pow_mono' (i:=xs.length) (j:=ys.length - 1) (by omega)
     omega
  have HC:Hid (∀ s t w,Digs w s xs → Digs w t ys → Calls Tryz.prog 172 #[s,t] w fun e w'=>(∃ c,e = .returned (.int .i64 c) ∧ 0 ≤ c ∧ c ≤ 1) ∧ Below w.heap.size w w'):=fun s t w hs ht'=>by
   refine (Tryz.compare s t xs ys w hs ht' hd gd ht gt).mono ?_
   rintro e w' ⟨rfl,hb⟩
   refine ⟨⟨_,rfl,?_⟩,hb⟩
   unfold cmpI; split
   ·omega
   ·split <;> omega
  have HDF:Hid (∀ s t w,Digs w s xs → Digs w t ys → Calls Tryz.prog 233 #[s,t] w fun e w'=>(∃ r L,e = .returned r ∧ NewRow w' w.heap.size r L ∧ Dig L ∧ L.length = xs.length ∧ val L = val xs - val ys) ∧ Below w.heap.size w w'):=fun s t w hs ht'=>
   Tryz.difference s t xs ys w hs ht' hd gd (by omega) hll hyx
  have HXL:Hid (xs.length ≤ n):=hl
  clear hi gi hd gd ht gt hz gz hyx hll hl gl
  go_enter Tryz.func204,Tryz.ntmps204
  go_wp2_with fail
  refine (Tryz.all v xs _ HI.out).mono ?_
  rintro e w1 ⟨⟨s,rfl,hs⟩,rfl⟩
  have HS:Hid (Digs w1 s xs):=hs
  clear hs HI
  go_wp2_with fail
  refine (Tryz.all u ys _ GI.out).mono ?_
  rintro e w2 ⟨⟨t,rfl,ht⟩,rfl⟩
  have HT:Hid (Digs w2 t ys):=ht
  clear ht GI
  go_wp2_with fail
  refine (HC.out s t _ HS.out HT.out).mono ?_
  rintro e w3 ⟨⟨c,rfl,c0,c1⟩,hb3⟩
  have HS3:Hid (Digs w3 s xs):=HS.out.below hb3 (Nat.le_refl _)
  have HT3:Hid (Digs w3 t ys):=HT.out.below hb3 (Nat.le_refl _)
  have HB3:Hid (Below w2.heap.size w2 w3):=hb3
  clear hb3 HS HT
  go_wp2_with fail
  refine (HDF.out s t _ HS3.out HT3.out).mono ?_
  rintro e w4 ⟨⟨r,L,rfl,hr,hL,hLl,hLv⟩,hb4⟩
  have hLn:L.length ≤ n:=by rw [hLl]; exact HXL.out
  have HR:Hid (Digs w4 r L):=hr.digs (by omega)
  have HL:Hid (Dig L):=hL
  have HV:Hid (val L = z - y):=by show _ = _; rw [hLv,HZ.out]
  have HB4:Hid (Below w2.heap.size w2 w4):=Below.after HB3.out hb4
  clear hr hL hLl hLv hb4
  go_wp2_with fail
  refine (Tryz.made r L _ HR.out HL.out).mono ?_
  rintro e w5 ⟨⟨v5,rfl,h5⟩,hb5⟩
  have H5:Hid (Num w5 v5 (z - y) n):=by show Num _ _ _ _; rw [← HV.out]; exact h5.fewer hLn
  have HB5:Hid (Below w2.heap.size w2 w5):=Below.after HB4.out hb5
  clear h5 hb5
  go_wp2
  go_ret2
  exact ⟨.inl ⟨hle,_,rfl,H5.out⟩,HB5.out⟩
 ·have hlt:z < y:=by omega
  have HC:Hid (∀ s t w,Digs w s xs → Digs w t ys → Calls Tryz.prog 172 #[s,t] w fun e w'=>e = .returned (.int .i64 (-1)) ∧ Below w.heap.size w w'):=fun s t w hs ht'=>by
   refine (Tryz.compare s t xs ys w hs ht' hd gd ht gt).mono ?_
   rintro e w' ⟨rfl,hb⟩
   exact ⟨by rw [cmpI_lt (by omega)],hb⟩
  clear hi gi hd gd ht gt hz gz hl gl
  go_enter Tryz.func204,Tryz.ntmps204
  go_wp2_with fail
  refine (Tryz.all v xs _ HI.out).mono ?_
  rintro e w1 ⟨⟨s,rfl,hs⟩,rfl⟩
  have HS:Hid (Digs w1 s xs):=hs
  clear hs HI
  go_wp2_with fail
  refine (Tryz.all u ys _ GI.out).mono ?_
  rintro e w2 ⟨⟨t,rfl,ht⟩,rfl⟩
  have HT:Hid (Digs w2 t ys):=ht
  clear ht GI
  go_wp2_with fail
  refine (HC.out s t _ HS.out HT.out).mono ?_
  rintro e w3 ⟨rfl,hb3⟩
  have HB3:Hid (Below w2.heap.size w2 w3):=hb3
  clear hb3 HS HT
  go_wp2
  go_ret2
  exact ⟨.inr ⟨hlt,rfl⟩,HB3.out⟩
end Go.Proofs.Wd
namespace Go.Proofs.Wd
open Go.RowKit
/-- What holds at the head of subRow's loop. -/
structure SubTo (L ys:List Int) (d:Int) (o k:Nat) (v:Int) (M:List Int):Prop where
 len:M.length = L.length
 dig:Dig M
 rest:∀ j,j < o ∨ o + k ≤ j → M.getD j 0 = L.getD j 0
 sum:val M + 18446744073709551616 ^ o * (d * val (ys.take k)) = val L + 18446744073709551616 ^ (o + k) * v
 v0:0 ≤ v
 v1:v ≤ 18446744073709551615
theorem SubTo.start {L:List Int} (ys:List Int) (d:Int) (o:Nat) (h:Dig L):SubTo L ys d o 0 0 L:=⟨rfl,h,fun j _=>rfl,by simp,by omega,by omega⟩
theorem lacking {y d v h l x s:Int} {c:Bool} (he:h * 18446744073709551616 + l = y * d + v) (hs:s + l + cI false = x + 18446744073709551616 * cI c) (y0:0 ≤ y) (y1:y ≤ 18446744073709551615) (d0:0 ≤ d) (d1:d ≤ 18446744073709551615) (v0:0 ≤ v) (v1:v ≤ 18446744073709551615)
 (h0:0 ≤ h) (h1:h ≤ 18446744073709551615) (l0:0 ≤ l) (l1:l ≤ 18446744073709551615) (x0:0 ≤ x) (s1:s ≤ 18446744073709551615):h + cI c ≤ 18446744073709551615:=by
 have m1:y * d ≤ 18446744073709551615 * d:=Int.mul_le_mul_of_nonneg_right y1 d0
 unfold cI at *
 cases c <;> simp at hs ⊢ <;> omega
theorem SubTo.step {L ys M:List Int} {d:Int} {o k:Nat} {v x y h l s:Int} {c:Bool} (H:SubTo L ys d o k v M) (hk:k < ys.length) (hfit:o + ys.length ≤ L.length) (hx:M.getD (o + k) 0 = x) (hy:ys.getD k 0 = y)
 (he:h * 18446744073709551616 + l = y * d + v) (hs:s + l + cI false = x + 18446744073709551616 * cI c) (s0:0 ≤ s) (s1:s ≤ 18446744073709551615) (h0:0 ≤ h + cI c) (h1:h + cI c ≤ 18446744073709551615) :
 SubTo L ys d o (k + 1) (h + cI c) (M.set (o + k) s):=by
 have hl:=H.len
 refine ⟨by rw [List.length_set,hl],Dig.set H.dig (o + k) s0 s1,fun j hj=>by rw [getD_set_ne _ (by omega)]; exact H.rest j (by omega),?_,h0,h1⟩
 rw [val_set _ _ _ (by omega),val_take_succ _ _ hk,hx,hy]
 have hs2:=H.sum
 have e:(18446744073709551616:Int) ^ (o + (k + 1)) = 18446744073709551616 ^ (o + k) * 18446744073709551616:=by rw [← Nat.add_assoc,Int.pow_succ]
 have e2:(18446744073709551616:Int) ^ o * (d * (val (ys.take k) + 18446744073709551616 ^ k * y)) = 18446744073709551616 ^ o * (d * val (ys.take k)) + 18446744073709551616 ^ (o + k) * (y * d):=by
  rw [Int.mul_add,Int.mul_add,Int.pow_add,Int.mul_left_comm d,Int.mul_comm d y,Int.mul_assoc (18446744073709551616 ^ o)]
 rw [e,e2]
 generalize (18446744073709551616:Int) ^ (o + k) = P at *
 have e3:y * d = h * 18446744073709551616 + l - v:=by omega
 have e4:s = x + 18446744073709551616 * cI c - l:=by simp [cI] at hs ⊢; omega
 rw [e3,e4,Int.mul_assoc]
 have e5:(18446744073709551616:Int) * (h + cI c) = h * 18446744073709551616 + 18446744073709551616 * cI c:=by rw [Int.mul_add,Int.mul_comm]
 rw [e5]
 generalize h * 18446744073709551616 = A
 generalize 18446744073709551616 * cI c = D
 rw [show x + D - l - x = D - l by omega,Int.mul_sub,Int.mul_sub,Int.mul_add,Int.mul_add]
 omega
theorem Tryz.subRow (gz oz capz:Nat) (L ys:List Int) (py:Option Addr) (capy:Nat) (d:Int) (w:World) (hz:RowOf w gz L) (hL:Dig L) (hfit:oz + ys.length ≤ L.length) (hlen:L.length ≤ 1000000000000)
 (hyd:Dig ys) (hy:0 < ys.length → ∃ g,py = some ⟨g,0,none⟩ ∧ g ≠ gz ∧ RowAt w g capy ys) (d0:0 ≤ d) (d1:d ≤ 18446744073709551615) :
 Calls Tryz.prog 231 #[.slice (some ⟨gz,oz,none⟩) ys.length capz,.slice py ys.length capy,.int .u64 d] w fun e w'=>
  (∃ M v,e = .returned (.int .u64 v) ∧ RowOf w' gz M ∧ SubTo L ys d oz ys.length v M) ∧ w.grownBy w' (some gz):=by
 obtain ⟨n,hn⟩:∃ n,ys.length = n:=⟨_,rfl⟩
 have HN:Hid (ys.length = n):=hn
 have HZ:Hid (RowOf w gz L):=hz
 have HY:Hid (0 < n → ∃ g,py = some ⟨g,0,none⟩ ∧ g ≠ gz ∧ RowAt w g capy ys):=fun h=>hy (by omega)
 have HS:Hid (SubTo L ys d oz 0 0 L):=SubTo.start ys d oz hL
 have HD:Hid (Dig ys):=hyd
 rw [hn] at hfit
 rw [hn]
 obtain ⟨m,hm⟩:∃ m,L.length = m:=⟨_,rfl⟩
 have HM:Hid (L.length = m):=hm
 rw [hm] at hfit hlen
 clear hz hL hy hyd hn hm
 go_enter Tryz.func231,Tryz.ntmps231
 go_wp2
 go_loopw [7,8,14] (fun ov bv i wr=>∃ (v:Int) (c:Bool) (k:Nat) (M:List Int),ov = .int .u64 v ∧ bv = .bool c ∧ i = .int .i64 k ∧ k ≤ n ∧ SubTo L ys d oz k v M ∧ RowOf wr gz M ∧ w.grownBy wr (some gz)) (fun _ _ i _=>n - (intOf i).toNat)
 case atStart=>exact ⟨0,false,0,L,rfl,rfl,rfl,by omega,HS.out,HZ.out,grownBy_refl w _⟩
 case round=>
  obtain ⟨v,c,k,M,rfl,rfl,rfl,hk,hat,hrow,hg⟩:=hrel
  have HA:Hid (SubTo L ys d oz k v M):=hat
  have HR:Hid (RowOf wr gz M):=hrow
  have HG:Hid (w.grownBy wr (some gz)):=hg
  have v0:=hat.v0
  have v1:=hat.v1
  by_cases hkn:k = n
  ·subst hkn
   clear hat hrow hg
   go_wp2
   go_ret
   exact ⟨⟨M,v,rfl,HR.out,HA.out⟩,HG.out⟩
  ·obtain ⟨g,rfl,hgz,hgr⟩:=HY.out (by omega)
   obtain ⟨x,hx⟩:∃ x,M.getD (oz + k) 0 = x:=⟨_,rfl⟩
   obtain ⟨y,hyk⟩:∃ y,ys.getD k 0 = y:=⟨_,rfl⟩
   have hml:M.length = m:=by rw [hat.len]; exact HM.out
   have hcx:=hrow.cell (j:=oz + k) (by omega)
   have hcy:wr.cell? ⟨g,k,none⟩ = some (.int .u64 (ys.getD k 0)):=hg.cell (hgr.cells k (by have:=HN.out; omega)) (by simp; omega)
   have hfr:=hrow.frozen (oz + k)
   have hxd:=hat.dig.get (oz + k)
   have hyd:=HD.out.get k
   rw [hx] at hcx hxd
   rw [hyk] at hcy hyd
   have HX:Hid (M.getD (oz + k) 0 = x):=hx
   have HYK:Hid (ys.getD k 0 = y):=hyk
   have hwo:IntKind.i64.wrap ((oz:Int) + k) = (oz:Int) + k:=by simp [IntKind.wrap,IntKind.signed,IntKind.bits]; omega
   clear hat hrow hg hx hyk hml hgr
   go_wp2_with (first
    |(go_at_call 140; refine (Tryz.row y d v _ hyd.1 hyd.2 d0 d1 v0 v1).mono ?_; rintro e w' ⟨⟨h,l,he,h0,h1,l0,l1,rfl⟩,rfl⟩; have HE:Hid (h * 18446744073709551616 + l = y * d + v):=he; clear he)
    |(go_at_call 250; refine (Tryz.SubX x l false _ hxd.1 hxd.2 l0 l1).mono ?_; rintro e w' ⟨⟨s,b,hs,s0,s1,rfl⟩,rfl⟩; have HSB:Hid (s + l + cI false = x + 18446744073709551616 * cI b):=hs; clear hs; have hlk:=lacking HE.out HSB.out hyd.1 hyd.2 d0 d1 v0 v1 h0 h1 l0 l1 hxd.1 s1))
   ·have hb:b = true:=by assumption
    have hc1:cI b = 1:=by rw [hb]; rfl
    have HST:Hid (SubTo L ys d oz (k + 1) (h + cI b) (M.set (oz + k) s)):=HA.out.step (by have:=HN.out; omega) (by have:=HN.out; have:=HM.out; omega) HX.out HYK.out HE.out HSB.out s0 s1 (by omega) hlk
    have hw1:IntKind.u64.wrap (h + 1) = h + cI b:=by rw [u64w,hc1]; omega
    exact ⟨⟨h + cI b,b,k + 1,M.set (oz + k) s,by rw [hw1],rfl,by simp,by omega,HST.out,HR.out.set (oz + k) s,grownBy_set HG.out _ none _⟩,by simp [intOf]; omega⟩
   ·have hb:b = false:=by assumption
    have hc1:cI b = 0:=by rw [hb]; rfl
    have HST:Hid (SubTo L ys d oz (k + 1) (h + cI b) (M.set (oz + k) s)):=HA.out.step (by have:=HN.out; omega) (by have:=HN.out; have:=HM.out; omega) HX.out HYK.out HE.out HSB.out s0 s1 (by omega) hlk
    exact ⟨⟨h + cI b,b,k + 1,M.set (oz + k) s,by rw [hc1,Int.add_zero],rfl,by simp,by omega,HST.out,HR.out.set (oz + k) s,grownBy_set HG.out _ none _⟩,by simp [intOf]; omega⟩
end Go.Proofs.Wd
namespace Go.Proofs.Wd
open Go.RowKit
theorem Tryz.DivE (h low y:Int) (w:World) (h0:0 ≤ h) (hlt:h < y) (l0:0 ≤ low) (l1:low ≤ 18446744073709551615) (hy1:y ≤ 18446744073709551615) :
 Calls Tryz.prog 44 #[.int .u64 h,.int .u64 low,.int .u64 y] w fun e w'=>e = .returned (.tuple #[.int .u64 ((h * 18446744073709551616 + low) / y),.int .u64 ((h * 18446744073709551616 + low) % y),.bool true]) ∧ w' = w:=by
 refine (Tryz.Div h low y w h0 hlt l0 l1 hy1).mono ?_
 rintro e w' ⟨⟨q,r,q0,q1,r0,r1,he,rfl⟩,rfl⟩
 refine ⟨?_,rfl⟩
 have e1:(h * 18446744073709551616 + low) / y = q:=by
  rw [← he,Int.mul_comm,Int.add_comm,Int.add_mul_ediv_left _ _ (by omega),Int.ediv_eq_zero_of_lt r0 r1]; simp
 have e2:(h * 18446744073709551616 + low) % y = r:=by
  rw [← he,Int.mul_comm,Int.add_comm,Int.add_mul_emod_self_left,Int.emod_eq_of_lt r0 r1]
 rw [e1,e2]
/-- What holds at the head of guess's loop: N by yH leaves rest, h and l are the digit by yL. -/
structure GuessAt (yH yL N r0:Int) (d rest:Int) (over:Bool) (h l:Int):Prop where
 prod:h * 18446744073709551616 + l = d * yL
 left:d * yH + rest + 18446744073709551616 * cI over = N
 d0:0 ≤ d
 d1:d ≤ 18446744073709551615
 s0:0 ≤ rest
 s1:rest ≤ 18446744073709551615
 h0:0 ≤ h
 h1:h ≤ 18446744073709551615
 l0:0 ≤ l
 l1:l ≤ 18446744073709551615
 most:d = 18446744073709551615 ∨ N * 18446744073709551616 + r0 < (d * yH + yH) * 18446744073709551616 + d * yL + yL
/-- A world behind draws alone. -/
def DrawsOnly (w w':World):Prop:=∃ m,w' = w.drewN m
/-- The digit that guess gives. -/
def GuessIs (yH yL N r0 d:Int):Prop:=0 ≤ d ∧ d ≤ 18446744073709551615 ∧ d * (yH * 18446744073709551616 + yL) ≤ N * 18446744073709551616 + r0 ∧ (d = 18446744073709551615 ∨ N * 18446744073709551616 + r0 < (d + 1) * (yH * 18446744073709551616 + yL))
theorem GuessAt.stop {yH yL N r0 d rest h l:Int} {over:Bool} (H:GuessAt yH yL N r0 d rest over h l) (q0:0 ≤ r0) (hs:over = true ∨ (¬ rest < h ∧ ¬ (h = rest ∧ r0 < l))):GuessIs yH yL N r0 d:=by
 obtain ⟨p,q,d0,d1,s0,s1,h0,h1,l0,l1,m⟩:=H
 refine ⟨d0,d1,?_,?_⟩
 ·rw [Int.mul_add,← Int.mul_assoc,← p]
  generalize d * yH = P at *
  cases over with
  | true=>simp only [cI,if_true] at q; omega
  | false=>simp only [cI,Bool.false_eq_true,if_false] at q; have:=hs.resolve_left (by simp); omega
 ·refine m.imp id (fun m=>?_)
  rw [Int.add_mul,Int.one_mul,Int.mul_add,← Int.mul_assoc]
  generalize d * yH = P at *
  generalize d * yL = Q at *
  omega
theorem GuessAt.pos {yH yL N r0 d rest h l:Int} (H:GuessAt yH yL N r0 d rest false h l) (q0:0 ≤ r0) (hs:rest < h ∨ (h = rest ∧ r0 < l)):1 ≤ d:=by
 have p:=H.prod
 have d0:=H.d0
 have:=H.h0; have:=H.l0; have:=H.s0
 by_cases e:d = 0
 ·subst e; rw [Int.zero_mul] at p; omega
 ·omega
theorem GuessAt.step {yH yL N r0 d rest h l s h' l':Int} {c:Bool} (H:GuessAt yH yL N r0 d rest false h l) (q0:0 ≤ r0) (q1:r0 ≤ 18446744073709551615) (hs:rest < h ∨ (h = rest ∧ r0 < l))
 (ha:s + (if c = true then 18446744073709551616 else 0) = rest + yH + (if false = true then 1 else 0)) (s0:0 ≤ s) (s1:s ≤ 18446744073709551615)
 (hp:(d - 1) * yL = h' * 18446744073709551616 + l') (h0':0 ≤ h') (h1':h' ≤ 18446744073709551615) (l0':0 ≤ l') (l1':l' ≤ 18446744073709551615) :
 GuessAt yH yL N r0 (d - 1) s c h' l':=by
 have hd:=H.pos q0 hs
 obtain ⟨p,q,d0,d1,s0',s1',h0,h1,l0,l1,m⟩:=H
 simp only [cI,Bool.false_eq_true,if_false] at q
 have hc:s + 18446744073709551616 * cI c = rest + yH:=by unfold cI; cases c <;> simp at ha ⊢ <;> omega
 refine ⟨hp.symm,?_,by omega,by omega,s0,s1,h0',h1',l0',l1',.inr ?_⟩
 ·rw [Int.sub_mul,Int.one_mul]
  generalize d * yH = P at *
  omega
 ·rw [Int.sub_mul,Int.sub_mul,Int.one_mul,Int.one_mul,← q]
  generalize d * yH = P at *
  rw [← p]
  omega
theorem GuessAt.first {yH yL r2 r1 r0 h l:Int} (hlt:r2 < yH) (a0:0 ≤ r2) (b0:0 ≤ r1) (b1:r1 ≤ 18446744073709551615) (c1:r0 ≤ 18446744073709551615) (y0:0 ≤ yL) (yH1:yH ≤ 18446744073709551615)
 (hp:(r2 * 18446744073709551616 + r1) / yH * yL = h * 18446744073709551616 + l) (h0:0 ≤ h) (h1:h ≤ 18446744073709551615) (l0:0 ≤ l) (l1:l ≤ 18446744073709551615) :
 GuessAt yH yL (r2 * 18446744073709551616 + r1) r0 ((r2 * 18446744073709551616 + r1) / yH) ((r2 * 18446744073709551616 + r1) % yH) false h l:=by
 have hm0:=Int.emod_nonneg (r2 * 18446744073709551616 + r1) (show yH ≠ 0 by omega)
 have hm1:=Int.emod_lt_of_pos (r2 * 18446744073709551616 + r1) (show 0 < yH by omega)
 have hdm:=Int.mul_ediv_add_emod (r2 * 18446744073709551616 + r1) yH
 have hq1:(r2 * 18446744073709551616 + r1) / yH < 18446744073709551616:=Int.ediv_lt_of_lt_mul (by omega) (by
  have:(r2 + 1) * 18446744073709551616 ≤ yH * 18446744073709551616:=Int.mul_le_mul_of_nonneg_right (by omega) (by omega)
  rw [Int.mul_comm] at this ⊢; omega)
 have hq0:0 ≤ (r2 * 18446744073709551616 + r1) / yH:=Int.ediv_nonneg (by omega) (by omega)
 generalize r2 * 18446744073709551616 + r1 = N at *
 generalize N / yH = d at *
 generalize N % yH = rest at *
 refine ⟨hp.symm,?_,hq0,by omega,hm0,by omega,h0,h1,l0,l1,.inr ?_⟩
 ·simp only [cI,Bool.false_eq_true,if_false]
  rw [Int.mul_comm]; omega
 ·rw [Int.mul_comm d yH]
  generalize yH * d = P at *
  omega
theorem GuessAt.past {yH yL r1 r0 s h l:Int} {c:Bool} (ha:s + (if c = true then 18446744073709551616 else 0) = r1 + yH + (if false = true then 1 else 0)) (s0:0 ≤ s) (s1:s ≤ 18446744073709551615)
 (hp:18446744073709551615 * yL = h * 18446744073709551616 + l) (h0:0 ≤ h) (h1:h ≤ 18446744073709551615) (l0:0 ≤ l) (l1:l ≤ 18446744073709551615) :
 GuessAt yH yL (yH * 18446744073709551616 + r1) r0 18446744073709551615 s c h l:=by
 have hc:s + 18446744073709551616 * cI c = r1 + yH:=by unfold cI; cases c <;> simp at ha ⊢ <;> omega
 exact ⟨hp.symm,by omega,by omega,by omega,s0,s1,h0,h1,l0,l1,.inl rfl⟩
theorem Tryz.guess (gr o cap:Nat) (yH yL r0 r1 r2:Int) (w:World) (c0:w.cell? ⟨gr,o,none⟩ = some (.int .u64 r0)) (c1:w.cell? ⟨gr,o + 1,none⟩ = some (.int .u64 r1)) (c2:w.cell? ⟨gr,o + 2,none⟩ = some (.int .u64 r2))
 (ho:o ≤ 1000000000000) (a0:0 ≤ r0) (a1:r0 ≤ 18446744073709551615) (b0:0 ≤ r1) (b1:r1 ≤ 18446744073709551615) (e0:0 ≤ r2) (e1:r2 ≤ yH) (y0:0 ≤ yH) (y1:yH ≤ 18446744073709551615) (z0:0 ≤ yL) (z1:yL ≤ 18446744073709551615) :
 Calls Tryz.prog 230 #[.slice (some ⟨gr,o,none⟩) 3 cap,.int .u64 yH,.int .u64 yL] w fun e w'=>(∃ d,e = .returned (.int .u64 d) ∧ GuessIs yH yL (r2 * 18446744073709551616 + r1) r0 d) ∧ DrawsOnly w w':=by
 by_cases hlt:r2 < yH
 ·obtain ⟨d,hd⟩:∃ d,(r2 * 18446744073709551616 + r1) / yH = d:=⟨_,rfl⟩
  obtain ⟨m,hm⟩:∃ m,(r2 * 18446744073709551616 + r1) % yH = m:=⟨_,rfl⟩
  have HF:Hid (∀ h l,d * yL = h * 18446744073709551616 + l → 0 ≤ h → h ≤ 18446744073709551615 → 0 ≤ l → l ≤ 18446744073709551615 → GuessAt yH yL (r2 * 18446744073709551616 + r1) r0 d m false h l):=fun h l hp h0 h1 l0 l1=>by
   subst hd; subst hm
   exact GuessAt.first hlt e0 b0 b1 a1 z0 y1 hp h0 h1 l0 l1
  have HDIV:Hid (∀ w,Calls Tryz.prog 44 #[.int .u64 r2,.int .u64 r1,.int .u64 yH] w fun e w'=>e = .returned (.tuple #[.int .u64 d,.int .u64 m,.bool true]) ∧ w' = w):=fun w=>by
   rw [← hd,← hm]; exact Tryz.DivE r2 r1 yH w e0 hlt b0 b1 y1
  have hdb:0 ≤ d ∧ d ≤ 18446744073709551615:=by
   have hb:=HF.out 0 0
   have hq1:(r2 * 18446744073709551616 + r1) / yH < 18446744073709551616:=Int.ediv_lt_of_lt_mul (by omega) (by
    have:(r2 + 1) * 18446744073709551616 ≤ yH * 18446744073709551616:=Int.mul_le_mul_of_nonneg_right (by omega) (by omega)
    rw [Int.mul_comm] at this ⊢; omega)
   have hq0:0 ≤ (r2 * 18446744073709551616 + r1) / yH:=Int.ediv_nonneg (by omega) (by omega)
   omega
  obtain ⟨d0,d1⟩:=hdb
  clear hd hm
  go_enter Tryz.func230,Tryz.ntmps230
  go_wp2_with fail
  go_quiet ((go_at_call 44; exact Calls.quiet_of_same (HDIV.out _)))
  --LOOP1
  have HBW:Hid (DrawsOnly w (w.drewN nq)):=⟨nq,rfl⟩
  go_wp2_with (go_at_call 43; refine (Tryz.Mul d yL _ d0 d1 z0 z1).mono ?_; rintro e w' ⟨⟨h,l,hp,h0,h1,l0,l1,rfl⟩,rfl⟩; have HG:Hid (GuessAt yH yL (r2 * 18446744073709551616 + r1) r0 d m false h l):=HF.out h l hp h0 h1 l0 l1; clear hp)
  go_loop [7,8,10,11,12] (fun dv sv ov hv lv=>∃ (t s h l:Int) (c:Bool),dv = .int .u64 t ∧ sv = .int .u64 s ∧ ov = .bool c ∧ hv = .int .u64 h ∧ lv = .int .u64 l ∧ GuessAt yH yL (r2 * 18446744073709551616 + r1) r0 t s c h l) (fun dv _ _ _ _=>(intOf dv).toNat)
  case atStart=>exact ⟨_,_,_,_,_,rfl,rfl,rfl,rfl,rfl,HG.out⟩
  case round=>
   obtain ⟨t,s,h,l,c,rfl,rfl,rfl,rfl,rfl,hat⟩:=hrel
   have HA:Hid (GuessAt yH yL (r2 * 18446744073709551616 + r1) r0 t s c h l):=hat
   obtain ⟨-,-,d0,d1,s0,s1,h0,h1,l0,l1,-⟩:=hat
   clear HG
   cases c with
   | true =>
     have HE:Hid (GuessIs yH yL (r2 * 18446744073709551616 + r1) r0 t):=HA.out.stop a0 (.inl rfl)
     go_wp2
     all_goals (go_ret; exact ⟨⟨t,rfl,HE.out⟩,HBW.out⟩)
   | false =>
     by_cases g:s < h ∨ (h = s ∧ r0 < l)
     ·have HPS:Hid (1 ≤ t):=HA.out.pos a0 g
      have htp:=HPS.out
      have HGG:Hid (s < h ∨ (h = s ∧ r0 < l)):=g
      have hwt:IntKind.u64.wrap (t - 1) = t - 1:=by rw [u64w]; omega
      by_cases g1:s < h
      ·have hd1:decide (s < h) = true:=by simpa using g1
       clear g
       go_wp2_with (first
        |(go_at_call 176; refine (Tryz.AddX s yH false _ s0 s1 y0 y1).mono ?_; rintro e w' ⟨⟨s',c',ha,sa0,sa1,rfl⟩,rfl⟩; have HADD:Hid (s' + (if c' = true then 18446744073709551616 else 0) = s + yH + (if false = true then 1 else 0)):=ha; clear ha)
        |(go_at_call 43; refine (Tryz.Mul (t - 1) yL _ (by omega) (by omega) z0 z1).mono ?_; rintro e w' ⟨⟨h',l',hp,hp0,hp1,lp0,lp1,rfl⟩,rfl⟩; have HST:Hid (GuessAt yH yL (r2 * 18446744073709551616 + r1) r0 (t - 1) s' c' h' l'):=HA.out.step a0 a1 HGG.out HADD.out sa0 sa1 hp hp0 hp1 lp0 lp1; clear hp))
       all_goals exact ⟨⟨t - 1,s',h',l',c',rfl,rfl,rfl,rfl,rfl,HST.out⟩,by simp [intOf]; omega⟩
      ·have g2:h = s:=by omega
       have g3:r0 < l:=by omega
       have HST0:Hid (∀ s' c' h' l',s' + (if c' = true then 18446744073709551616 else 0) = s + yH + (if false = true then 1 else 0) → 0 ≤ s' → s' ≤ 18446744073709551615 → (t - 1) * yL = h' * 18446744073709551616 + l' → 0 ≤ h' → h' ≤ 18446744073709551615 → 0 ≤ l' → l' ≤ 18446744073709551615 → GuessAt yH yL (r2 * 18446744073709551616 + r1) r0 (t - 1) s' c' h' l'):=fun s' c' h' l' q1 q2 q3 q4 q5 q6 q7 q8=>HA.out.step a0 a1 HGG.out q1 q2 q3 q4 q5 q6 q7 q8
       have hd1:decide (s < h) = false:=by simpa using g1
       have hd2:(h == s) = true:=by simpa using g2
       have hd3:decide (r0 < l) = true:=by simpa using g3
       clear g g2
       go_wp2_with (first
        |(go_at_call 176; refine (Tryz.AddX s yH false _ s0 s1 y0 y1).mono ?_; rintro e w' ⟨⟨s',c',ha,sa0,sa1,rfl⟩,rfl⟩; have HADD:Hid (s' + (if c' = true then 18446744073709551616 else 0) = s + yH + (if false = true then 1 else 0)):=ha; clear ha)
        |(go_at_call 43; refine (Tryz.Mul (t - 1) yL _ (by omega) (by omega) z0 z1).mono ?_; rintro e w' ⟨⟨h',l',hp,hp0,hp1,lp0,lp1,rfl⟩,rfl⟩; have HST:Hid (GuessAt yH yL (r2 * 18446744073709551616 + r1) r0 (t - 1) s' c' h' l'):=HST0.out _ _ _ _ HADD.out sa0 sa1 hp hp0 hp1 lp0 lp1; clear hp))
       all_goals exact ⟨⟨t - 1,s',h',l',c',rfl,rfl,rfl,rfl,rfl,HST.out⟩,by simp [intOf]; omega⟩
     ·have HE:Hid (GuessIs yH yL (r2 * 18446744073709551616 + r1) r0 t):=HA.out.stop a0 (.inr ⟨fun e=>g (.inl e),fun e=>g (.inr e)⟩)
      have g1:¬ s < h:=fun e=>g (.inl e)
      by_cases g2:h = s
      ·have g3:¬ r0 < l:=fun e=>g (.inr ⟨g2,e⟩)
       have hd1:decide (s < h) = false:=by simpa using g1
       have hd2:(h == s) = true:=by simpa using g2
       have hd3:decide (r0 < l) = false:=by simpa using g3
       clear g g2
       go_wp2
       all_goals (go_ret; exact ⟨⟨t,rfl,HE.out⟩,HBW.out⟩)
      ·have g2b:(h == s) = false:=by simpa using g2
       have hd1:decide (s < h) = false:=by simpa using g1
       clear g g2
       go_wp2
       all_goals (go_ret; exact ⟨⟨t,rfl,HE.out⟩,HBW.out⟩)
 ·have hr2:r2 = yH:=by omega
  subst hr2
  have HDIV:Hid (∀ w,Calls Tryz.prog 44 #[.int .u64 r2,.int .u64 r1,.int .u64 r2] w fun e w'=>e = .returned (.tuple #[.int .u64 0,.int .u64 0,.bool false]) ∧ w' = w):=fun w=>Tryz.DivNo r2 r1 r2 w e0 (by omega) y1 b0 b1 e0
  go_enter Tryz.func230,Tryz.ntmps230
  go_wp2_with fail
  go_quiet ((go_at_call 44; exact Calls.quiet_of_same (HDIV.out _)))
  have HBW:Hid (DrawsOnly w (w.drewN nq)):=⟨nq,rfl⟩
  go_wp2_with fail
  refine (Tryz.AddX r1 r2 false _ b0 b1 e0 y1).mono ?_
  rintro e w' ⟨⟨s,c,ha,sa0,sa1,rfl⟩,hw'⟩
  have HADD:Hid (s + (if c = true then 18446744073709551616 else 0) = r1 + r2 + (if false = true then 1 else 0)):=ha
  subst hw'
  clear ha
  go_wp2_with (go_at_call 43; refine (Tryz.Mul 18446744073709551615 yL _ (by omega) (by omega) z0 z1).mono ?_; rintro e w' ⟨⟨h,l,hp,h0,h1,l0,l1,rfl⟩,rfl⟩; have HG:Hid (GuessAt r2 yL (r2 * 18446744073709551616 + r1) r0 18446744073709551615 s c h l):=GuessAt.past HADD.out sa0 sa1 hp h0 h1 l0 l1; clear hp)
  go_loop [7,8,10,11,12] (fun dv sv ov hv lv=>∃ (t s h l:Int) (c:Bool),dv = .int .u64 t ∧ sv = .int .u64 s ∧ ov = .bool c ∧ hv = .int .u64 h ∧ lv = .int .u64 l ∧ GuessAt r2 yL (r2 * 18446744073709551616 + r1) r0 t s c h l) (fun dv _ _ _ _=>(intOf dv).toNat)
  case atStart=>exact ⟨_,_,_,_,_,rfl,rfl,rfl,rfl,rfl,HG.out⟩
  case round=>
   obtain ⟨t,s,h,l,c,rfl,rfl,rfl,rfl,rfl,hat⟩:=hrel
   have HA:Hid (GuessAt r2 yL (r2 * 18446744073709551616 + r1) r0 t s c h l):=hat
   obtain ⟨-,-,d0,d1,s0,s1,h0,h1,l0,l1,-⟩:=hat
   clear HG
   cases c with
   | true =>
     have HE:Hid (GuessIs r2 yL (r2 * 18446744073709551616 + r1) r0 t):=HA.out.stop a0 (.inl rfl)
     go_wp2
     all_goals (go_ret; exact ⟨⟨t,rfl,HE.out⟩,HBW.out⟩)
   | false =>
     by_cases g:s < h ∨ (h = s ∧ r0 < l)
     ·have HPS:Hid (1 ≤ t):=HA.out.pos a0 g
      have htp:=HPS.out
      have HGG:Hid (s < h ∨ (h = s ∧ r0 < l)):=g
      have hwt:IntKind.u64.wrap (t - 1) = t - 1:=by rw [u64w]; omega
      by_cases g1:s < h
      ·have hd1:decide (s < h) = true:=by simpa using g1
       clear g
       go_wp2_with (first
        |(go_at_call 176; refine (Tryz.AddX s r2 false _ s0 s1 e0 y1).mono ?_; rintro e w' ⟨⟨s',c',ha,sa0,sa1,rfl⟩,rfl⟩; have HADD:Hid (s' + (if c' = true then 18446744073709551616 else 0) = s + r2 + (if false = true then 1 else 0)):=ha; clear ha)
        |(go_at_call 43; refine (Tryz.Mul (t - 1) yL _ (by omega) (by omega) z0 z1).mono ?_; rintro e w' ⟨⟨h',l',hp,hp0,hp1,lp0,lp1,rfl⟩,rfl⟩; have HST:Hid (GuessAt r2 yL (r2 * 18446744073709551616 + r1) r0 (t - 1) s' c' h' l'):=HA.out.step a0 a1 HGG.out HADD.out sa0 sa1 hp hp0 hp1 lp0 lp1; clear hp))
       all_goals exact ⟨⟨t - 1,s',h',l',c',rfl,rfl,rfl,rfl,rfl,HST.out⟩,by simp [intOf]; omega⟩
      ·have g2:h = s:=by omega
       have g3:r0 < l:=by omega
       have HST0:Hid (∀ s' c' h' l',s' + (if c' = true then 18446744073709551616 else 0) = s + r2 + (if false = true then 1 else 0) → 0 ≤ s' → s' ≤ 18446744073709551615 → (t - 1) * yL = h' * 18446744073709551616 + l' → 0 ≤ h' → h' ≤ 18446744073709551615 → 0 ≤ l' → l' ≤ 18446744073709551615 → GuessAt r2 yL (r2 * 18446744073709551616 + r1) r0 (t - 1) s' c' h' l'):=fun s' c' h' l' q1 q2 q3 q4 q5 q6 q7 q8=>HA.out.step a0 a1 HGG.out q1 q2 q3 q4 q5 q6 q7 q8
       have hd1:decide (s < h) = false:=by simpa using g1
       have hd2:(h == s) = true:=by simpa using g2
       have hd3:decide (r0 < l) = true:=by simpa using g3
       clear g g2
       go_wp2_with (first
        |(go_at_call 176; refine (Tryz.AddX s r2 false _ s0 s1 e0 y1).mono ?_; rintro e w' ⟨⟨s',c',ha,sa0,sa1,rfl⟩,rfl⟩; have HADD:Hid (s' + (if c' = true then 18446744073709551616 else 0) = s + r2 + (if false = true then 1 else 0)):=ha; clear ha)
        |(go_at_call 43; refine (Tryz.Mul (t - 1) yL _ (by omega) (by omega) z0 z1).mono ?_; rintro e w' ⟨⟨h',l',hp,hp0,hp1,lp0,lp1,rfl⟩,rfl⟩; have HST:Hid (GuessAt r2 yL (r2 * 18446744073709551616 + r1) r0 (t - 1) s' c' h' l'):=HST0.out _ _ _ _ HADD.out sa0 sa1 hp hp0 hp1 lp0 lp1; clear hp))
       all_goals exact ⟨⟨t - 1,s',h',l',c',rfl,rfl,rfl,rfl,rfl,HST.out⟩,by simp [intOf]; omega⟩
     ·have HE:Hid (GuessIs r2 yL (r2 * 18446744073709551616 + r1) r0 t):=HA.out.stop a0 (.inr ⟨fun e=>g (.inl e),fun e=>g (.inr e)⟩)
      have g1:¬ s < h:=fun e=>g (.inl e)
      by_cases g2:h = s
      ·have g3:¬ r0 < l:=fun e=>g (.inr ⟨g2,e⟩)
       have hd1:decide (s < h) = false:=by simpa using g1
       have hd2:(h == s) = true:=by simpa using g2
       have hd3:decide (r0 < l) = false:=by simpa using g3
       clear g g2
       go_wp2
       all_goals (go_ret; exact ⟨⟨t,rfl,HE.out⟩,HBW.out⟩)
      ·have g2b:(h == s) = false:=by simpa using g2
       have hd1:decide (s < h) = false:=by simpa using g1
       clear g g2
       go_wp2
       all_goals (go_ret; exact ⟨⟨t,rfl,HE.out⟩,HBW.out⟩)
/-- The digit itself. -/
def gV (yH yL N r0:Int):Int:=min ((N * 18446744073709551616 + r0) / (yH * 18446744073709551616 + yL)) 18446744073709551615
theorem gV_is {yH yL N r0:Int} (hD:0 < yH * 18446744073709551616 + yL) (hN:0 ≤ N * 18446744073709551616 + r0):GuessIs yH yL N r0 (gV yH yL N r0):=by
 unfold GuessIs gV
 generalize yH * 18446744073709551616 + yL = D at *
 generalize N * 18446744073709551616 + r0 = M at *
 have h0:0 ≤ M / D:=Int.ediv_nonneg hN (by omega)
 have h1:M / D * D ≤ M:=Int.ediv_mul_le M (by omega)
 have h2:M < (M / D + 1) * D:=Int.lt_ediv_add_one_mul_self M hD
 by_cases g:M / D ≤ 18446744073709551615
 ·rw [Int.min_eq_left g]; exact ⟨h0,g,h1,.inr h2⟩
 ·rw [Int.min_eq_right (by omega)]
  refine ⟨by omega,by omega,?_,.inl rfl⟩
  have:18446744073709551615 * D ≤ M / D * D:=Int.mul_le_mul_of_nonneg_right (by omega) (by omega)
  omega
theorem gV_one {yH yL N r0 d:Int} (hD:0 < yH * 18446744073709551616 + yL) (h:GuessIs yH yL N r0 d):d = gV yH yL N r0:=by
 obtain ⟨d0,d1,g1,g2⟩:=h
 unfold gV
 generalize yH * 18446744073709551616 + yL = D at *
 generalize N * 18446744073709551616 + r0 = M at *
 have h1:d ≤ M / D:=(Int.le_ediv_iff_mul_le hD).2 g1
 rcases g2 with rfl | g2
 ·rw [Int.min_eq_right h1]
 ·have h2:M / D < d + 1:=Int.ediv_lt_of_lt_mul hD g2
  rw [Int.min_eq_left (by omega)]; omega
theorem Tryz.guessQ (gr o cap:Nat) (yH yL r0 r1 r2:Int) (w:World) (c0:w.cell? ⟨gr,o,none⟩ = some (.int .u64 r0)) (c1:w.cell? ⟨gr,o + 1,none⟩ = some (.int .u64 r1)) (c2:w.cell? ⟨gr,o + 2,none⟩ = some (.int .u64 r2))
 (ho:o ≤ 1000000000000) (a0:0 ≤ r0) (a1:r0 ≤ 18446744073709551615) (b0:0 ≤ r1) (b1:r1 ≤ 18446744073709551615) (e0:0 ≤ r2) (e1:r2 ≤ yH) (y0:1 ≤ yH) (y1:yH ≤ 18446744073709551615) (z0:0 ≤ yL) (z1:yL ≤ 18446744073709551615) :
 Calls Tryz.prog 230 #[.slice (some ⟨gr,o,none⟩) 3 cap,.int .u64 yH,.int .u64 yL] w fun e w'=>e = .returned (.int .u64 (gV yH yL (r2 * 18446744073709551616 + r1) r0)) ∧ ∃ m,w' = w.drewN m:=by
 refine (Tryz.guess gr o cap yH yL r0 r1 r2 w c0 c1 c2 ho a0 a1 b0 b1 e0 e1 (by omega) y1 z0 z1).mono ?_
 rintro e w' ⟨⟨d,rfl,hd⟩,hb⟩
 exact ⟨by rw [gV_one (by omega) hd],hb⟩
end Go.Proofs.Wd
namespace Go.Proofs.Wd
open Go.RowKit
theorem ext_getD {a b:List Int} (hl:a.length = b.length) (h:∀ j,j < a.length → a.getD j 0 = b.getD j 0):a = b:=by
 apply List.ext_getElem hl
 intro j h1 h2
 have:=h j h1
 simpa [List.getD,h1,h2] using this
theorem same_parts {L M:List Int} {k n:Nat} (hl:M.length = L.length) (h:∀ j,j < k ∨ k + n ≤ j → M.getD j 0 = L.getD j 0):M.take k = L.take k ∧ M.drop (k + n) = L.drop (k + n):=by
 constructor
 ·refine ext_getD (by simp [hl]) fun j hj=>?_
  have hj':j < k:=by rw [List.length_take] at hj; omega
  have:=h j (.inl hj')
  simp only [List.getD,List.getElem?_take_of_lt hj'] at this ⊢
  exact this
 ·refine ext_getD (by simp [hl]) fun j hj=>?_
  have:=h (k + n + j) (.inr (by omega))
  simp only [List.getD,List.getElem?_drop] at this ⊢
  exact this
/-- A number in three parts: below place k, n words from there on, the rest. -/
theorem three_parts (L:List Int) (k n:Nat):val L = val (L.take k) + 18446744073709551616 ^ k * (val ((L.drop k).take n) + 18446744073709551616 ^ n * val (L.drop (k + n))):=by
 rw [val_parts L k,val_parts (L.drop k) n,List.drop_drop]
theorem mid_lt {L:List Int} (h:Dig L) (k n:Nat):0 ≤ val ((L.drop k).take n) ∧ val ((L.drop k).take n) < 18446744073709551616 ^ n:=⟨val_nonneg ((h.drop k).take n),take_lt (h.drop k) n⟩
/-- The top words of a number of n words, n at least two. -/
theorem two_tops {L:List Int} {n:Nat} (h:Dig L) (hn:L.length = n) (h2:2 ≤ n):∃ low,0 ≤ low ∧ low < 18446744073709551616 ^ (n - 2) ∧ val L = low + 18446744073709551616 ^ (n - 2) * (L.getD (n - 2) 0 + 18446744073709551616 * L.getD (n - 1) 0):=by
 refine ⟨val (L.take (n - 2)),val_nonneg (h.take _),take_lt h _,?_⟩
 rw [val_parts L (n - 2),val_drop L (n - 2),show n - 2 + 1 = n - 1 by omega,val_drop L (n - 1),show n - 1 + 1 = n by omega,List.drop_eq_nil_of_le (by omega)]
 simp
/-- .. and of one of n words and one more, from place k on. -/
theorem three_tops {L:List Int} {k n:Nat} (h:Dig L) (h2:2 ≤ n) (hz:val (L.drop (k + n + 1)) = 0):∃ low,0 ≤ low ∧ low < 18446744073709551616 ^ (n - 2) ∧ val (L.drop k) = low + 18446744073709551616 ^ (n - 2) * (L.getD (k + n - 2) 0 + 18446744073709551616 * (L.getD (k + n - 1) 0 + 18446744073709551616 * L.getD (k + n) 0)):=by
 refine ⟨val ((L.drop k).take (n - 2)),val_nonneg ((h.drop k).take _),take_lt (h.drop k) _,?_⟩
 rw [val_parts (L.drop k) (n - 2),List.drop_drop,val_drop L (k + (n - 2)),show k + (n - 2) + 1 = k + n - 1 by omega,val_drop L (k + n - 1),show k + n - 1 + 1 = k + n by omega,val_drop L (k + n),hz,show k + (n - 2) = k + n - 2 by omega]
 simp
/-- The guess is the digit, or one above it. -/
theorem guess_near {H Y yH yL r0 r1 r2 P low lowY d:Int} (hP:0 < P) (a:0 ≤ low) (b:low < P) (eH:H = low + P * (r0 + 18446744073709551616 * (r1 + 18446744073709551616 * r2))) (c:0 ≤ lowY) (e:lowY < P) (eY:Y = lowY + P * (yL + 18446744073709551616 * yH))
 (hY:1 ≤ yH) (l0:0 ≤ yL) (hH:H < Y * 18446744073709551616) (g:GuessIs yH yL (r2 * 18446744073709551616 + r1) r0 d):H < (d + 1) * Y ∧ (d - 1) * Y ≤ H:=by
 obtain ⟨d0,d1,g1,g2⟩:=g
 generalize hD:yH * 18446744073709551616 + yL = D at g1 g2
 generalize hN:(r2 * 18446744073709551616 + r1) * 18446744073709551616 + r0 = N at g1 g2
 have eH':H = low + P * N:=by rw [eH,← hN]; congr 2; omega
 have eY':Y = lowY + P * D:=by rw [eY,← hD]; congr 2; omega
 have hDB:18446744073709551616 ≤ D:=by omega
 have hPD:P * 18446744073709551616 ≤ P * D:=Int.mul_le_mul_of_nonneg_left hDB (by omega)
 constructor
 ·rcases g2 with g2 | g2
  ·subst g2; rw [show (18446744073709551615 + 1:Int) = 18446744073709551616 from rfl,Int.mul_comm]; exact hH
  ·have h1:P * (N + 1) ≤ P * ((d + 1) * D):=Int.mul_le_mul_of_nonneg_left (by omega) (by omega)
   have h2:(d + 1) * (P * D) ≤ (d + 1) * Y:=Int.mul_le_mul_of_nonneg_left (by omega) (by omega)
   rw [Int.mul_left_comm P (d + 1) D,Int.mul_add,Int.mul_one] at h1
   omega
 ·have h1:P * (d * D) ≤ P * N:=Int.mul_le_mul_of_nonneg_left g1 (by omega)
  have h2:d * lowY ≤ d * P:=Int.mul_le_mul_of_nonneg_left (by omega) d0
  have h3:d * P ≤ 18446744073709551615 * P:=Int.mul_le_mul_of_nonneg_right d1 (by omega)
  have h4:d * Y = d * lowY + P * (d * D):=by rw [eY',Int.mul_add,Int.mul_left_comm]
  rw [Int.sub_mul,Int.one_mul,h4]
  omega
/-- What takeDigit leaves. -/
structure Taken (L ys:List Int) (k:Nat) (q:Int) (M:List Int):Prop where
 len:M.length = L.length
 dig:Dig M
 q0:0 ≤ q
 q1:q ≤ 18446744073709551615
 sum:val M + 18446744073709551616 ^ k * (q * val ys) = val L
 less:val M < val ys * 18446744073709551616 ^ k
/-- The end of it, where the words from k on hold m, nought above them. -/
theorem Taken.of {L ys M:List Int} {k n:Nat} {q:Int} (hl:M.length = L.length) (hd:Dig M) (hL:Dig L) (q0:0 ≤ q) (q1:q ≤ 18446744073709551615) (ht:M.take k = L.take k) (hz:val (M.drop (k + n)) = 0)
 (hm:val ((M.drop k).take n) = val (L.drop k) - q * val ys) (hlt:val (L.drop k) - q * val ys < val ys):Taken L ys k q M:=by
 have e1:=three_parts M k n
 have e2:=val_parts L k
 rw [ht,hz,Int.mul_zero,Int.add_zero,hm] at e1
 have a:=take_lt hL k
 refine ⟨hl,hd,q0,q1,?_,?_⟩
 ·rw [e1,e2,Int.mul_sub]; omega
 ·have h1:18446744073709551616 ^ k * (val (L.drop k) - q * val ys + 1) ≤ 18446744073709551616 ^ k * val ys:=Int.mul_le_mul_of_nonneg_left (by omega) (by have:=pow_pos' k; omega)
  rw [Int.mul_add,Int.mul_one] at h1
  rw [e1,Int.mul_comm (val ys)]
  omega
theorem SubTo.mid {L ys M:List Int} {d v:Int} {k:Nat} (h:SubTo L ys d k ys.length v M):val ((M.drop k).take ys.length) + 18446744073709551616 ^ ys.length * val (L.drop (k + ys.length)) + d * val ys = val (L.drop k) + 18446744073709551616 ^ ys.length * v:=by
 obtain ⟨p1,p2⟩:=same_parts h.len h.rest
 have hs:=h.sum
 rw [List.take_of_length_le (Nat.le_refl _),three_parts M k ys.length,p1,p2,val_parts L k,Int.pow_add,Int.mul_assoc (18446744073709551616 ^ k)] at hs
 have hp:=pow_pos' k
 have:18446744073709551616 ^ k * (val ((M.drop k).take ys.length) + 18446744073709551616 ^ ys.length * val (L.drop (k + ys.length)) + d * val ys) = 18446744073709551616 ^ k * (val (L.drop k) + 18446744073709551616 ^ ys.length * v):=by
  simp only [Int.mul_add] at hs ⊢
  omega
 exact Int.eq_of_mul_eq_mul_left (by omega) this
theorem AddTo.mid {L ys M:List Int} {c:Bool} {k:Nat} (h:AddTo L ys k ys.length c M):val ((M.drop k).take ys.length) + 18446744073709551616 ^ ys.length * cI c = val ((L.drop k).take ys.length) + val ys:=by
 obtain ⟨p1,p2⟩:=same_parts h.len h.rest
 have hs:=h.sum
 rw [List.take_of_length_le (Nat.le_refl _),three_parts M k ys.length,p1,p2,three_parts L k ys.length,Int.pow_add,Int.mul_assoc (18446744073709551616 ^ k)] at hs
 have hp:=pow_pos' k
 have:18446744073709551616 ^ k * (val ((M.drop k).take ys.length) + 18446744073709551616 ^ ys.length * cI c) = 18446744073709551616 ^ k * (val ((L.drop k).take ys.length) + val ys):=by
  simp only [Int.mul_add] at hs ⊢
  omega
 exact Int.eq_of_mul_eq_mul_left (by omega) this
/-- A word above the middle is put to nought. -/
theorem cleared {M:List Int} {k n:Nat} (h:Dig M) (hk:k + n < M.length) (hz:val (M.drop (k + n + 1)) = 0):(M.set (k + n) 0).length = M.length ∧ Dig (M.set (k + n) 0) ∧ (M.set (k + n) 0).take k = M.take k ∧ val ((M.set (k + n) 0).drop (k + n)) = 0 ∧ ((M.set (k + n) 0).drop k).take n = (M.drop k).take n:=by
 refine ⟨by simp,Dig.set h _ (by omega) (by omega),?_,?_,?_⟩
 ·rw [List.take_set,List.set_eq_of_length_le (by rw [List.length_take]; omega)]
 ·rw [drop_set_self _ _ _ hk,val_cons,hz]; simp
 ·refine ext_getD (by simp) fun j hj=>?_
  have hjn:j < n:=by rw [List.length_take] at hj; omega
  simp only [List.getD,List.getElem?_take_of_lt hjn,List.getElem?_drop]
  rw [List.getElem?_set_ne (by omega)]
end Go.Proofs.Wd
namespace Go.Proofs.Wd
open Go.RowKit
/-- What takeDigit asks: a row L of which the words from k on are less than ys by one word more, ys of at least two words, its top bit set. -/
structure TakeIn (L ys:List Int) (k n:Nat):Prop where
 hn:ys.length = n
 n2:2 ≤ n
 dig:Dig L
 ydig:Dig ys
 fit:k + n + 1 ≤ L.length
 max:L.length ≤ 1000000000000
 top:9223372036854775808 ≤ ys.getD (n - 1) 0
 lt:val L < val ys * 18446744073709551616 ^ (k + 1)
theorem TakeIn.high {L ys:List Int} {k n:Nat} (h:TakeIn L ys k n):val (L.drop k) < val ys * 18446744073709551616 ∧ val (L.drop (k + n + 1)) = 0:=by
 have e:=val_parts L k
 have a:=val_nonneg (h.dig.take k)
 have hlt:=h.lt
 have hp:=pow_pos' k
 have h1:18446744073709551616 ^ k * val (L.drop k) < 18446744073709551616 ^ k * (val ys * 18446744073709551616):=by
  rw [Int.pow_succ] at hlt
  have:18446744073709551616 ^ k * (val ys * 18446744073709551616) = val ys * (18446744073709551616 ^ k * 18446744073709551616):=Int.mul_left_comm _ _ _
  omega
 have h2:val (L.drop k) < val ys * 18446744073709551616:=Int.lt_of_mul_lt_mul_left h1 (by omega)
 refine ⟨h2,?_⟩
 have e2:=val_parts (L.drop k) (n + 1)
 rw [List.drop_drop,show k + (n + 1) = k + n + 1 by omega] at e2
 have b:=val_nonneg ((h.dig.drop k).take (n + 1))
 have c:=val_nonneg (h.dig.drop (k + n + 1))
 have d:=val_lt h.ydig
 rw [h.hn] at d
 by_cases g:val (L.drop (k + n + 1)) = 0
 ·exact g
 ·exfalso
  have h3:(18446744073709551616:Int) ^ (n + 1) * 1 ≤ 18446744073709551616 ^ (n + 1) * val (L.drop (k + n + 1)):=Int.mul_le_mul_of_nonneg_left (by omega) (by have:=pow_pos' (n + 1); omega)
  rw [Int.pow_succ] at h3 e2
  omega
/-- The words that guess looks at, and the digit that it gives. -/
theorem TakeIn.guess {L ys:List Int} {k n:Nat} (h:TakeIn L ys k n):∃ r0 r1 r2 yH yL d,L.getD (k + n - 2) 0 = r0 ∧ L.getD (k + n - 1) 0 = r1 ∧ L.getD (k + n) 0 = r2 ∧ ys.getD (n - 1) 0 = yH ∧ ys.getD (n - 2) 0 = yL ∧ gV yH yL (r2 * 18446744073709551616 + r1) r0 = d ∧
 0 ≤ r0 ∧ r0 ≤ 18446744073709551615 ∧ 0 ≤ r1 ∧ r1 ≤ 18446744073709551615 ∧ 0 ≤ r2 ∧ r2 ≤ 18446744073709551615 ∧ r2 ≤ yH ∧ 1 ≤ yH ∧ yH ≤ 18446744073709551615 ∧ 0 ≤ yL ∧ yL ≤ 18446744073709551615 ∧ 0 ≤ d ∧ d ≤ 18446744073709551615 ∧ val (L.drop k) < (d + 1) * val ys ∧ (d - 1) * val ys ≤ val (L.drop k):=by
 obtain ⟨hH,hz⟩:=h.high
 obtain ⟨low,a0,a1,eH⟩:=three_tops (n:=n) h.dig h.n2 hz
 obtain ⟨lowY,b0,b1,eY⟩:=two_tops h.ydig h.hn h.n2
 have d0:=h.dig.get (k + n - 2)
 have d1:=h.dig.get (k + n - 1)
 have d2:=h.dig.get (k + n)
 have g0:=h.ydig.get (n - 1)
 have g1:=h.ydig.get (n - 2)
 have ht:=h.top
 have hP:=pow_pos' (n - 2)
 generalize L.getD (k + n - 2) 0 = r0 at *
 generalize L.getD (k + n - 1) 0 = r1 at *
 generalize L.getD (k + n) 0 = r2 at *
 generalize ys.getD (n - 1) 0 = yH at *
 generalize ys.getD (n - 2) 0 = yL at *
 have hr2:r2 ≤ yH:=by
  by_cases g:r2 ≤ yH
  ·exact g
  ·exfalso
   generalize (18446744073709551616:Int) ^ (n - 2) = P at *
   have e1:P * (yL + 18446744073709551616 * yH + 1) ≤ P * (18446744073709551616 * (yH + 1)):=Int.mul_le_mul_of_nonneg_left (by omega) (by omega)
   have e2:P * (18446744073709551616 * (18446744073709551616 * (yH + 1))) ≤ P * (r0 + 18446744073709551616 * (r1 + 18446744073709551616 * r2)):=Int.mul_le_mul_of_nonneg_left (by omega) (by omega)
   rw [Int.mul_add P (yL + 18446744073709551616 * yH),Int.mul_one] at e1
   have e3:P * (18446744073709551616 * (18446744073709551616 * (yH + 1))) = P * (18446744073709551616 * (yH + 1)) * 18446744073709551616:=by
    rw [Int.mul_comm 18446744073709551616 (18446744073709551616 * (yH + 1)),← Int.mul_assoc]
   omega
 have hg:=gV_is (yH:=yH) (yL:=yL) (N:=r2 * 18446744073709551616 + r1) (r0:=r0) (by omega) (by omega)
 obtain ⟨n1,n2⟩:=guess_near hP a0 a1 eH b0 b1 eY (by omega) g1.1 hH hg
 exact ⟨r0,r1,r2,yH,yL,_,rfl,rfl,rfl,rfl,rfl,rfl,d0.1,d0.2,d1.1,d1.2,d2.1,d2.2,hr2,by omega,g0.2,g1.1,g1.2,hg.1,hg.2.1,n1,n2⟩
/-- Nothing is lacking: the guess is the digit. -/
theorem TakeIn.fits {L ys M:List Int} {k n:Nat} {d v:Int} (h:TakeIn L ys k n) (hs:SubTo L ys d k n v M) (hv:¬ M.getD (k + n) 0 < v) (d0:0 ≤ d) (d1:d ≤ 18446744073709551615) (hn:val (L.drop k) < (d + 1) * val ys):Taken L ys k d (M.set (k + n) 0):=by
 obtain ⟨hH,hz⟩:=h.high
 have hln:=h.hn
 subst hln
 have hm:=hs.mid
 obtain ⟨p1,p2⟩:=same_parts hs.len hs.rest
 have hw:val (L.drop (k + ys.length)) = M.getD (k + ys.length) 0:=by
  rw [val_drop,hz,hs.rest _ (.inr (Nat.le_refl _))]; simp
 have hz2:val (M.drop (k + ys.length + 1)) = 0:=by
  rw [← List.drop_drop,p2,List.drop_drop]; exact hz
 have hb:=mid_lt hs.dig k ys.length
 have hY:=val_lt h.ydig
 obtain ⟨c1,c2,c3,c4,c5⟩:=cleared (k:=k) (n:=ys.length) hs.dig (by rw [hs.len]; have:=h.fit; omega) hz2
 have hv0:=hs.v0
 rw [hw] at hm
 rw [Int.add_mul,Int.one_mul] at hn
 generalize hmm:val ((M.drop k).take ys.length) = m at *
 generalize M.getD (k + ys.length) 0 = r at *
 have hrv:r = v:=by
  by_cases e:r = v
  ·exact e
  ·exfalso
   have h3:(18446744073709551616:Int) ^ ys.length * 1 ≤ 18446744073709551616 ^ ys.length * (r - v):=Int.mul_le_mul_of_nonneg_left (by omega) (by have:=pow_pos' ys.length; omega)
   rw [Int.mul_sub,Int.mul_one] at h3
   omega
 subst hrv
 have hmv:m = val (L.drop k) - d * val ys:=by omega
 exact Taken.of (n:=ys.length) (by rw [c1,hs.len]) c2 h.dig d0 d1 (by rw [c3,p1]) c4 (by rw [c5,hmm]; exact hmv) (by omega)
/-- Something is lacking: the guess is one above the digit, and ys is added again. -/
theorem TakeIn.over {L ys M K:List Int} {k n:Nat} {d v:Int} {c:Bool} (h:TakeIn L ys k n) (hs:SubTo L ys d k n v M) (hv:M.getD (k + n) 0 < v) (ha:AddTo M ys k n c K) (d0:0 ≤ d) (d1:d ≤ 18446744073709551615) (hn:(d - 1) * val ys ≤ val (L.drop k)):1 ≤ d ∧ Taken L ys k (d - 1) (K.set (k + n) 0):=by
 obtain ⟨hH,hz⟩:=h.high
 have hln:=h.hn
 subst hln
 have hm:=hs.mid
 have hk:=ha.mid
 obtain ⟨p1,p2⟩:=same_parts hs.len hs.rest
 obtain ⟨q1,q2⟩:=same_parts ha.len ha.rest
 have hw:val (L.drop (k + ys.length)) = M.getD (k + ys.length) 0:=by
  rw [val_drop,hz,hs.rest _ (.inr (Nat.le_refl _))]; simp
 have hz2:val (K.drop (k + ys.length + 1)) = 0:=by
  rw [← List.drop_drop,q2,p2,List.drop_drop]; exact hz
 have hb:=mid_lt hs.dig k ys.length
 have hb2:=mid_lt ha.dig k ys.length
 have hY:=val_lt h.ydig
 have hY0:=val_nonneg h.ydig
 have hH0:=val_nonneg (h.dig.drop k)
 have hKl:K.length = L.length:=by rw [ha.len,hs.len]
 obtain ⟨c1,c2,c3,c4,c5⟩:=cleared (k:=k) (n:=ys.length) ha.dig (by rw [hKl]; have:=h.fit; omega) hz2
 rw [hw] at hm
 have hr0:=(hs.dig.get (k + ys.length)).1
 generalize val ((M.drop k).take ys.length) = m at *
 generalize M.getD (k + ys.length) 0 = r at *
 rw [Int.sub_mul,Int.one_mul] at hn
 have hp:=pow_pos' ys.length
 have h3:(18446744073709551616:Int) ^ ys.length * 1 ≤ 18446744073709551616 ^ ys.length * (v - r):=Int.mul_le_mul_of_nonneg_left (by omega) (by omega)
 rw [Int.mul_sub,Int.mul_one] at h3
 have hd1:1 ≤ d:=by
  by_cases e:d = 0
  ·subst e; rw [Int.zero_mul] at hm; omega
  ·omega
 refine ⟨hd1,?_⟩
 generalize hmm2:val ((K.drop k).take ys.length) = m2 at *
 have hcv:cI c + r = v:=by
  by_cases e:cI c + r = v
  ·exact e
  ·exfalso
   by_cases e2:cI c + r < v
   ·have h4:(18446744073709551616:Int) ^ ys.length * 1 ≤ 18446744073709551616 ^ ys.length * (v - (cI c + r)):=Int.mul_le_mul_of_nonneg_left (by omega) (by omega)
    rw [Int.mul_sub,Int.mul_add,Int.mul_one] at h4
    omega
   ·have:cI c ≤ 1:=by unfold cI; cases c <;> simp
    omega
 have hcv2:18446744073709551616 ^ ys.length * cI c + 18446744073709551616 ^ ys.length * r = 18446744073709551616 ^ ys.length * v:=by rw [← Int.mul_add,hcv]
 have hmv:m2 = val (L.drop k) - (d - 1) * val ys:=by rw [Int.sub_mul,Int.one_mul]; omega
 exact Taken.of (n:=ys.length) (by rw [c1,hKl]) c2 h.dig (by omega) (by omega) (by rw [c3,q1,p1]) c4 (by rw [c5,hmm2]; exact hmv) (by rw [Int.sub_mul,Int.one_mul]; omega)
end Go.Proofs.Wd
