/- What byWord of the package nat does: it writes the quotient by one word, into the same words or into others. What addTo and addOne of the package nat do to the words that they are handed. -/
import Derived.Test.YtcnjcfoaoaldeaaGreatDoorWd6
import Derived.Test.YtcnjcfoaoaldeaaGreatDoorNb2
set_option linter.unusedVariables false
set_option maxHeartbeats 4000000
set_option maxRecDepth 100000
namespace Go.Proofs.Wd
open Go.RowKit
theorem grownBy_refl (w:World) (row:Option Nat):w.grownBy w row:=⟨rfl,rfl,rfl,Nat.le_refl _,fun _ _ _=>rfl⟩
theorem grownBy_set {w w':World} {b:Nat} (h:w.grownBy w' (some b)) (i:Nat) (l:Option Nat) (v:Value):w.grownBy (w'.setCell ⟨b,i,none⟩ v) (some b):=
 ⟨h.os,h.tape,h.output,by have:=h.size; simpa [World.setCell] using this,fun k hk hne=>by rw [Below.heap_setCell _ _ _ _ (fun e=>hne (by rw [e]))]; exact h.block k hk hne⟩
/-- What holds at the head of byWord's loop: the words from k on are divided, r is left of them. -/
structure ByAt (xs:List Int) (y:Int) (gx:Nat) (w:World) (k:Nat) (r:Int) (L:List Int):Prop where
 len:L.length = xs.length
 dig:Dig (L.drop k)
 sum:val (xs.drop k) = y * val (L.drop k) + r
 r0:0 ≤ r
 r1:r < y
 src:∀ j,j < k → w.cell? ⟨gx,j,none⟩ = some (.int .u64 (xs.getD j 0))
theorem drop_set_self (L:List Int) (k:Nat) (z:Int) (h:k < L.length):(L.set k z).drop k = z :: L.drop (k + 1):=by
 rw [List.drop_eq_getElem_cons (by rw [List.length_set]; exact h)]
 simp [List.drop_set]
theorem ByAt.step {xs L:List Int} {y:Int} {gx:Nat} {w:World} {k:Nat} {r q r':Int} (h:ByAt xs y gx w (k + 1) r L) (hk:k < xs.length) (g:Nat) (e:q * y + r' = r * 18446744073709551616 + xs.getD k 0) (q0:0 ≤ q) (q1:q ≤ 18446744073709551615) (r0:0 ≤ r') (r1:r' < y) :
 ByAt xs y gx (w.setCell ⟨g,k,none⟩ (.int .u64 q)) k r' (L.set k q):=by
 have hl:=h.len
 refine ⟨by rw [List.length_set]; exact hl,?_,?_,r0,r1,fun j hj=>?_⟩
 ·rw [drop_set_self L k q (by omega)]
  intro d hd
  rcases List.mem_cons.1 hd with rfl | hd
  ·exact ⟨q0,q1⟩
  ·exact h.dig d hd
 ·rw [drop_set_self L k q (by omega),val_cons,val_drop,h.sum]
  generalize val (L.drop (k + 1)) = V
  rw [Int.mul_add y q,Int.mul_comm y q,Int.mul_left_comm y 18446744073709551616 V]
  generalize y * V = A
  omega
 ·rw [World.cell?_setCell_other _ _ _ _ (by simp; omega)]
  exact h.src j (by omega)
theorem Tryz.byWord (g cap gx capx:Nat) (L xs:List Int) (y:Int) (B:Nat) (w:World) (hown:OwnAt w B g cap L) (hl:L.length = xs.length) (hx:Dig xs)
 (hsrc:∀ j,j < xs.length → w.cell? ⟨gx,j,none⟩ = some (.int .u64 (xs.getD j 0))) (y0:1 ≤ y) (y1:y ≤ 18446744073709551615) (hlen:xs.length ≤ 1000000000000) :
 Calls Tryz.prog 107 #[.slice (some ⟨g,0,none⟩) xs.length cap,.slice (some ⟨gx,0,none⟩) xs.length capx,.int .u64 y] w fun e w'=>
  (∃ L' r,e = .returned (.int .u64 r) ∧ OwnAt w' B g cap L' ∧ Dig L' ∧ L'.length = xs.length ∧ val xs = y * val L' + r ∧ 0 ≤ r ∧ r < y) ∧ w.grownBy w' (some g):=by
 have hge:=hown.ge.1
 obtain ⟨n,hn⟩:∃ n,xs.length = n:=⟨_,rfl⟩
 have HN:Hid (xs.length = n):=hn
 have HO:Hid (OwnAt w B g cap L):=hown
 have HS:Hid (ByAt xs y gx w n 0 L):=by
  refine ⟨hl,?_,?_,by omega,by omega,fun j hj=>hsrc j (by omega)⟩
  ·rw [List.drop_eq_nil_of_le (by omega)]; exact Dig.nil
  ·rw [List.drop_eq_nil_of_le (by omega),List.drop_eq_nil_of_le (by omega)]; simp
 have HX:Hid (Dig xs):=hx
 rw [hn] at hlen
 rw [hn]
 clear hown hl hx hsrc hn
 go_enter Tryz.func107,Tryz.ntmps107
 go_wp2
 go_loopw [7,8] (fun rv i wr=>∃ (k:Nat) (r:Int) (M:List Int),rv = .int .u64 r ∧ i = .int .i64 ((k:Int) - 1) ∧ k ≤ n ∧ ByAt xs y gx wr k r M ∧ OwnAt wr B g cap M ∧ w.grownBy wr (some g)) (fun _ i _=>(intOf i + 1).toNat)
 case atStart=>exact ⟨n,0,L,rfl,rfl,by omega,HS.out,HO.out,grownBy_refl w _⟩
 case round=>
  obtain ⟨k,r,M,rfl,rfl,hk,hat,ho,hb⟩:=hrel
  have HA:Hid (ByAt xs y gx wr k r M):=hat
  have HW:Hid (OwnAt wr B g cap M):=ho
  have HB:Hid (w.grownBy wr (some g)):=hb
  have r0:=hat.r0
  have r1:=hat.r1
  clear hb
  cases k with
  | zero =>
    clear ho hat
    have HE:Hid (val xs = y * val M + r):=HA.out.sum
    have HD:Hid (Dig M):=HA.out.dig
    go_wp2
    go_ret
    exact ⟨⟨M,r,rfl,HW.out,HD.out,by rw [HA.out.len,HN.out],HE.out,r0,r1⟩,HB.out⟩
  | succ k =>
    rw [show ((k + 1:Nat):Int) - 1 = k by omega]
    obtain ⟨x,hxk⟩:∃ x,xs.getD k 0 = x:=⟨_,rfl⟩
    have hcx:=hat.src k (by omega)
    have hxd:=HX.out.get k
    rw [hxk] at hcx hxd
    have HXK:Hid (xs.getD k 0 = x):=hxk
    have hfr:=ho.frozen k
    obtain ⟨c,hc⟩:∃ c,M.getD k 0 = c:=⟨_,rfl⟩
    have hcg:=ho.cell (j:=k) (by have:=HN.out; have:=hat.len; omega)
    rw [hc] at hcg
    clear ho hat hxk hc
    go_wp2_with (go_at_call 44; refine (Tryz.Div r x y _ r0 r1 hxd.1 hxd.2 y1).mono ?_; rintro e w' ⟨⟨q,r',q0,q1,s0,s1,he,rfl⟩,rfl⟩; have HE:Hid (q * y + r' = r * 18446744073709551616 + x):=he; clear he)
    have HST:Hid (ByAt xs y gx (w'.setCell ⟨g,k,none⟩ (.int .u64 q)) k r' (M.set k q)):=HA.out.step (by have:=HN.out; omega) g (by rw [HXK.out]; exact HE.out) q0 q1 s0 s1
    exact ⟨⟨k,r',M.set k q,rfl,rfl,by omega,HST.out,HW.out.set k q,grownBy_set HB.out _ none _⟩,by simp [intOf]⟩
end Go.Proofs.Wd
namespace Go.Proofs.Wd
open Go.RowKit
/-- The carry as a number. -/
def cI (c:Bool):Int:=if c then 1 else 0
/-- What holds at the head of addTo's loop: from place o on k words are added. -/
structure AddTo (L ys:List Int) (o k:Nat) (c:Bool) (M:List Int):Prop where
 len:M.length = L.length
 dig:Dig M
 rest:∀ j,j < o ∨ o + k ≤ j → M.getD j 0 = L.getD j 0
 sum:val M + 18446744073709551616 ^ (o + k) * cI c = val L + 18446744073709551616 ^ o * val (ys.take k)
theorem AddTo.start {L:List Int} (ys:List Int) (o:Nat) (h:Dig L):AddTo L ys o 0 false L:=⟨rfl,h,fun j _=>rfl,by simp [cI]⟩
theorem AddTo.step {L ys M:List Int} {o k:Nat} {c d:Bool} {s x y:Int} (h:AddTo L ys o k c M) (hk:k < ys.length) (hfit:o + ys.length ≤ L.length) (hx:M.getD (o + k) 0 = x) (hy:ys.getD k 0 = y)
 (he:s + (if d = true then 18446744073709551616 else 0) = x + y + (if c = true then 1 else 0)) (s0:0 ≤ s) (s1:s ≤ 18446744073709551615):AddTo L ys o (k + 1) d (M.set (o + k) s):=by
 have hl:=h.len
 refine ⟨by rw [List.length_set,hl],Dig.set h.dig (o + k) s0 s1,fun j hj=>by rw [getD_set_ne _ (by omega)]; exact h.rest j (by omega),?_⟩
 rw [val_set _ _ _ (by omega),val_take_succ _ _ hk,hx,hy]
 have hs:=h.sum
 have e:(18446744073709551616:Int) ^ (o + (k + 1)) = 18446744073709551616 ^ (o + k) * 18446744073709551616:=by rw [← Nat.add_assoc,Int.pow_succ]
 have e2:(18446744073709551616:Int) ^ o * (val (ys.take k) + 18446744073709551616 ^ k * y) = 18446744073709551616 ^ o * val (ys.take k) + 18446744073709551616 ^ (o + k) * y:=by rw [Int.mul_add,← Int.mul_assoc,← Int.pow_add]
 rw [e,e2]
 generalize (18446744073709551616:Int) ^ (o + k) = P at *
 have e3:18446744073709551616 * cI d + s = x + y + cI c:=by
  unfold cI; cases c <;> cases d <;> simp at he ⊢ <;> omega
 have e4:s = x + y + cI c - 18446744073709551616 * cI d:=by omega
 rw [e4,Int.mul_assoc]
 generalize 18446744073709551616 * cI d = D
 rw [show x + y + cI c - D - x = y + cI c - D by omega,Int.mul_sub,Int.mul_add]
 omega
theorem Tryz.addTo (gz oz capz:Nat) (L ys:List Int) (py:Option Addr) (capy:Nat) (w:World) (hz:RowOf w gz L) (hL:Dig L) (hfit:oz + ys.length ≤ L.length) (hlen:L.length ≤ 1000000000000)
 (hyd:Dig ys) (hy:0 < ys.length → ∃ g,py = some ⟨g,0,none⟩ ∧ g ≠ gz ∧ RowAt w g capy ys) :
 Calls Tryz.prog 196 #[.slice (some ⟨gz,oz,none⟩) ys.length capz,.slice py ys.length capy] w fun e w'=>
  (∃ M c,e = .returned (.bool c) ∧ RowOf w' gz M ∧ AddTo L ys oz ys.length c M) ∧ w.grownBy w' (some gz):=by
 obtain ⟨n,hn⟩:∃ n,ys.length = n:=⟨_,rfl⟩
 have HN:Hid (ys.length = n):=hn
 have HZ:Hid (RowOf w gz L):=hz
 have HY:Hid (0 < n → ∃ g,py = some ⟨g,0,none⟩ ∧ g ≠ gz ∧ RowAt w g capy ys):=fun h=>hy (by omega)
 have HS:Hid (AddTo L ys oz 0 false L):=AddTo.start ys oz hL
 have HD:Hid (Dig ys):=hyd
 rw [hn] at hfit
 rw [hn]
 obtain ⟨m,hm⟩:∃ m,L.length = m:=⟨_,rfl⟩
 have HM:Hid (L.length = m):=hm
 rw [hm] at hfit hlen
 clear hz hL hy hyd hn hm
 go_enter Tryz.func196,Tryz.ntmps196
 go_wp2
 go_loopw [5,10] (fun cv i wr=>∃ (c:Bool) (k:Nat) (M:List Int),cv = .bool c ∧ i = .int .i64 k ∧ k ≤ n ∧ AddTo L ys oz k c M ∧ RowOf wr gz M ∧ w.grownBy wr (some gz)) (fun _ i _=>n - (intOf i).toNat)
 case atStart=>exact ⟨false,0,L,rfl,rfl,by omega,HS.out,HZ.out,grownBy_refl w _⟩
 case round=>
  obtain ⟨c,k,M,rfl,rfl,hk,hat,hrow,hg⟩:=hrel
  have HA:Hid (AddTo L ys oz k c M):=hat
  have HR:Hid (RowOf wr gz M):=hrow
  have HG:Hid (w.grownBy wr (some gz)):=hg
  by_cases hkn:k = n
  ·subst hkn
   clear hat hrow hg
   go_wp2
   go_ret
   exact ⟨⟨M,c,rfl,HR.out,HA.out⟩,HG.out⟩
  ·obtain ⟨g,rfl,hgz,hgr⟩:=HY.out (by omega)
   obtain ⟨x,hx⟩:∃ x,M.getD (oz + k) 0 = x:=⟨_,rfl⟩
   obtain ⟨y,hyk⟩:∃ y,ys.getD k 0 = y:=⟨_,rfl⟩
   have hml:M.length = m:=by rw [hat.len]; exact HM.out
   have hcx:=hrow.cell (j:=oz + k) (by omega)
   have hcy:wr.cell? ⟨g,k,none⟩ = some (.int .u64 (ys.getD k 0)):=hg.cell (hgr.cells k (by have:=HN.out; omega)) (by simp; omega)
   have hfr:=hrow.frozen (oz + k)
   have hxd:=hat.dig.get (oz + k)
   have hyd:=HD.out.get k
   rw [hx] at hcx hxd
   rw [hyk] at hcy hyd
   have HX:Hid (M.getD (oz + k) 0 = x):=hx
   have HYK:Hid (ys.getD k 0 = y):=hyk
   have hwo:IntKind.i64.wrap ((oz:Int) + k) = (oz:Int) + k:=by simp [IntKind.wrap,IntKind.signed,IntKind.bits]; omega
   clear hat hrow hg hx hyk hml hgr
   go_wp2_with (go_at_call 176; refine (Tryz.AddX x y c _ hxd.1 hxd.2 hyd.1 hyd.2).mono ?_; rintro e w' ⟨⟨s,d,he,s0,s1,rfl⟩,rfl⟩; have HE:Hid (s + (if d = true then 18446744073709551616 else 0) = x + y + (if c = true then 1 else 0)):=he; clear he)
   have HST:Hid (AddTo L ys oz (k + 1) d (M.set (oz + k) s)):=HA.out.step (by have:=HN.out; omega) (by have:=HN.out; have:=HM.out; omega) HX.out HYK.out HE.out s0 s1
   exact ⟨⟨d,k + 1,M.set (oz + k) s,rfl,by simp,by omega,HST.out,HR.out.set (oz + k) s,grownBy_set HG.out _ none _⟩,by simp [intOf]; omega⟩
/-- What holds at the head of addOne's loop: from place o on, k words are passed, c is to be added next. -/
structure OneTo (L:List Int) (o k:Nat) (c:Bool) (M:List Int):Prop where
 len:M.length = L.length
 dig:Dig M
 rest:∀ j,j < o ∨ o + k ≤ j → M.getD j 0 = L.getD j 0
 sum:val M + 18446744073709551616 ^ (o + k) * cI c = val L + 18446744073709551616 ^ o
theorem OneTo.start {L:List Int} (o:Nat) (h:Dig L):OneTo L o 0 true L:=⟨rfl,h,fun j _=>rfl,by simp [cI]⟩
theorem OneTo.step {L M:List Int} {o k:Nat} {d:Bool} {s x:Int} (h:OneTo L o k true M) (hfit:o + k < L.length) (hx:M.getD (o + k) 0 = x)
 (he:s + (if d = true then 18446744073709551616 else 0) = x + 0 + (if true = true then 1 else 0)) (s0:0 ≤ s) (s1:s ≤ 18446744073709551615):OneTo L o (k + 1) d (M.set (o + k) s):=by
 have hl:=h.len
 refine ⟨by rw [List.length_set,hl],Dig.set h.dig (o + k) s0 s1,fun j hj=>by rw [getD_set_ne _ (by omega)]; exact h.rest j (by omega),?_⟩
 rw [val_set _ _ _ (by omega),hx]
 have hs:=h.sum
 have e:(18446744073709551616:Int) ^ (o + (k + 1)) = 18446744073709551616 ^ (o + k) * 18446744073709551616:=by rw [← Nat.add_assoc,Int.pow_succ]
 rw [e]
 generalize (18446744073709551616:Int) ^ (o + k) = P at *
 have e3:18446744073709551616 * cI d + s = x + 1:=by
  unfold cI; cases d <;> simp at he ⊢ <;> omega
 have e4:s = x + 1 - 18446744073709551616 * cI d:=by omega
 simp only [cI,if_true,Int.mul_one] at hs
 rw [e4,Int.mul_assoc]
 generalize 18446744073709551616 * cI d = D
 rw [show x + 1 - D - x = 1 - D by omega,Int.mul_sub,Int.mul_one]
 omega
theorem Tryz.addOne (gz oz n capz:Nat) (L:List Int) (w:World) (hz:RowOf w gz L) (hL:Dig L) (hfit:oz + n ≤ L.length) (hlen:L.length ≤ 1000000000000) :
 Calls Tryz.prog 197 #[.slice (some ⟨gz,oz,none⟩) n capz] w fun e w'=>
  (∃ M k c,e = .returned (.tuple #[]) ∧ RowOf w' gz M ∧ OneTo L oz k c M ∧ k ≤ n ∧ (c = true → k = n)) ∧ w.grownBy w' (some gz):=by
 have HZ:Hid (RowOf w gz L):=hz
 have HS:Hid (OneTo L oz 0 true L):=OneTo.start oz hL
 obtain ⟨m,hm⟩:∃ m,L.length = m:=⟨_,rfl⟩
 have HM:Hid (L.length = m):=hm
 rw [hm] at hfit hlen
 clear hz hL hm
 go_enter Tryz.func197,Tryz.ntmps197
 go_wp2
 go_loopw [2,3] (fun cv i wr=>∃ (c:Bool) (k:Nat) (M:List Int),cv = .bool c ∧ i = .int .i64 k ∧ k ≤ n ∧ OneTo L oz k c M ∧ RowOf wr gz M ∧ w.grownBy wr (some gz)) (fun _ i _=>n - (intOf i).toNat)
 case atStart=>exact ⟨true,0,L,rfl,rfl,by omega,HS.out,HZ.out,grownBy_refl w _⟩
 case round=>
  obtain ⟨c,k,M,rfl,rfl,hk,hat,hrow,hg⟩:=hrel
  have HA:Hid (OneTo L oz k c M):=hat
  have HR:Hid (RowOf wr gz M):=hrow
  have HG:Hid (w.grownBy wr (some gz)):=hg
  cases c with
  | false =>
    clear hat hrow hg
    go_wp2
    go_end0
    exact ⟨⟨M,k,false,rfl,HR.out,HA.out,hk,fun e=>by cases e⟩,HG.out⟩
  | true =>
    by_cases hkn:k = n
    ·subst hkn
     clear hat hrow hg
     go_wp2
     go_end0
     exact ⟨⟨M,k,true,rfl,HR.out,HA.out,hk,fun _=>rfl⟩,HG.out⟩
    ·obtain ⟨x,hx⟩:∃ x,M.getD (oz + k) 0 = x:=⟨_,rfl⟩
     have hml:M.length = m:=by rw [hat.len]; exact HM.out
     have hcx:=hrow.cell (j:=oz + k) (by omega)
     have hfr:=hrow.frozen (oz + k)
     have hxd:=hat.dig.get (oz + k)
     rw [hx] at hcx hxd
     have HX:Hid (M.getD (oz + k) 0 = x):=hx
     clear hat hrow hg hx hml
     go_wp2_with (go_at_call 176; refine (Tryz.AddX x 0 true _ hxd.1 hxd.2 (by omega) (by omega)).mono ?_; rintro e w' ⟨⟨s,d,he,s0,s1,rfl⟩,rfl⟩; have HE:Hid (s + (if d = true then 18446744073709551616 else 0) = x + 0 + (if true = true then 1 else 0)):=he; clear he)
     have HST:Hid (OneTo L oz (k + 1) d (M.set (oz + k) s)):=HA.out.step (by have:=HM.out; omega) HX.out HE.out s0 s1
     exact ⟨⟨d,k + 1,M.set (oz + k) s,rfl,by simp,by omega,HST.out,HR.out.set (oz + k) s,grownBy_set HG.out _ none _⟩,by simp [intOf]; omega⟩
end Go.Proofs.Wd
