/- What Sub and Div of the reference return. -/
import Derived.Test.YtcnjcfoaoaldeaaGreatDoorRm
import Derived.Laws.AppendOwnNone
set_option linter.unusedVariables false
set_option maxHeartbeats 8000000
set_option maxRecDepth 100000
namespace Go.Proofs
open Go.RowKit
/-- The slice of a block of the call's own, its room cap, holds the numbers L. -/
def OwnAt (w:World) (B g cap:Nat) (L:List Int):Prop:=w.ownsRow B 3 1 (.slice (some ⟨g,0,none⟩) L.length cap) L.length (L.map (Value.int .i64))
theorem OwnAt.cell {w:World} {B g cap:Nat} {L:List Int} (h:OwnAt w B g cap L) {j:Nat} (hj:j < L.length):w.cell? ⟨g,j,none⟩ = some (.int .i64 (L.getD j 0)):=by
 rw [World.ownsRow.cellAt h j (by omega),List.getElem?_map,List.getElem?_eq_getElem hj]
 simp [List.getD,hj]
theorem OwnAt.frozen {w:World} {B g cap:Nat} {L:List Int} (h:OwnAt w B g cap L) (j:Nat):w.frozen? ⟨g,j,none⟩ = false:=World.ownsRow.frozenAt h j
theorem OwnAt.set {w:World} {B g cap:Nat} {L:List Int} (h:OwnAt w B g cap L) (j:Nat) (z:Int):OwnAt (w.setCell ⟨g,j,none⟩ (.int .i64 z)) B g cap (L.set j z):=by
 have:=(World.ownsRow.stored h j (.int .i64 z)).1
 unfold OwnAt
 rw [List.length_set,List.map_set]
 exact this
theorem OwnAt.drew {w:World} {B g cap:Nat} {L:List Int} (h:OwnAt w B g cap L):OwnAt w.drew B g cap L:=h
theorem OwnAt.digs {w:World} {B g cap:Nat} {L:List Int} (h:OwnAt w B g cap L):Digs w (.slice (some ⟨g,0,none⟩) L.length cap) L:=Digs.of_own h
theorem OwnAt.ge {w:World} {B g cap:Nat} {L:List Int} (h:OwnAt w B g cap L):B ≤ g ∧ g < w.heap.size:=World.ownsRow.lt h g rfl
theorem own_cases {w:World} {B:Nat} {v:Value} {L:List Int} (h:w.ownsRow B 3 1 v L.length (L.map (Value.int .i64))) (hl:0 < L.length):∃ g cap,v = .slice (some ⟨g,0,none⟩) L.length cap ∧ OwnAt w B g cap L:=by
 have h':=h
 obtain ⟨h0,h⟩:=h
 rcases h with ⟨h1,h2⟩ | ⟨g,cap,cur,rfl,hg,r⟩
 ·omega
 ·exact ⟨g,cap,rfl,h'⟩
theorem len_le {xs ys:List Int} (hx:Dig xs) (hy:Dig ys) (ht:Top ys) (h:val ys ≤ val xs):ys.length ≤ xs.length:=by
 by_cases hn:ys = []
 ·subst hn; simp
 ·have h1:=top_pos hy ht hn
  have h2:=val_lt hx
  have hl:0 < ys.length:=by cases ys with | nil=>exact absurd rfl hn | cons=>simp
  by_cases g:ys.length ≤ xs.length
  ·exact g
  ·have:=pow_mono' (i:=xs.length) (j:=ys.length - 1) (by omega)
   omega
/-- What holds at the head of Sub's loop. -/
structure SubAt (xs ys:List Int) (k:Nat) (L:List Int):Prop where
 len:L.length = xs.length
 dig:∀ j,j < k → 0 ≤ L.getD j 0 ∧ L.getD j 0 ≤ 9999
 mid:-1 ≤ L.getD k 0 ∧ L.getD k 0 ≤ 9999
 rest:∀ j,k < j → 0 ≤ L.getD j 0 ∧ L.getD j 0 ≤ 9999
 sum:val L = val xs - val (ys.take k)
theorem SubAt.no {xs ys L:List Int} {k:Nat} (h:SubAt xs ys k L) (hy:Dig ys) (hk:k < L.length) (s:Int) (hs:s = L.getD k 0 - ys.getD k 0) (hlt:0 ≤ s):SubAt xs ys (k + 1) (L.set k s):=by
 have hy9:=hy.get k
 have hm:=h.mid
 have hr:=h.rest (k + 1) (by omega)
 refine ⟨by rw [List.length_set,h.len],fun j hj=>?_,?_,fun j hj=>?_,?_⟩
 ·by_cases e:k = j
  ·subst e; rw [getD_set_self _ hk]; omega
  ·rw [getD_set_ne _ e]; exact h.dig j (by omega)
 ·rw [getD_set_ne _ (by omega)]; omega
 ·rw [getD_set_ne _ (by omega)]; exact h.rest j (by omega)
 ·rw [val_set _ _ _ hk,h.sum,val_take_next,hs,show L.getD k 0 - ys.getD k 0 - L.getD k 0 = -(ys.getD k 0) by omega,Int.mul_neg]
  omega
theorem SubAt.borrow {xs ys L:List Int} {k:Nat} (h:SubAt xs ys k L) (hy:Dig ys) (hk:k + 1 < L.length) (s:Int) (hs:s = L.getD k 0 - ys.getD k 0) (hlt:s < 0) (d:Int) (hd:L.getD (k + 1) 0 = d):SubAt xs ys (k + 1) ((L.set k (s + 10000)).set (k + 1) (d - 1)):=by
 have hy9:=hy.get k
 have hm:=h.mid
 have hr:=h.rest (k + 1) (by omega)
 rw [hd] at hr
 refine ⟨by rw [List.length_set,List.length_set,h.len],fun j hj=>?_,?_,fun j hj=>?_,?_⟩
 ·rw [getD_set_ne _ (by omega)]
  by_cases e:k = j
  ·subst e; rw [getD_set_self _ (by omega)]; omega
  ·rw [getD_set_ne _ e]; exact h.dig j (by omega)
 ·rw [getD_set_self _ (by rw [List.length_set]; exact hk)]; omega
 ·rw [getD_set_ne _ (by omega),getD_set_ne _ (by omega)]; exact h.rest j (by omega)
 ·rw [val_set _ _ _ (by rw [List.length_set]; exact hk), val_set _ _ _ (by omega), h.sum, val_take_next, getD_set_ne _ (by omega), hd, hs, Int.pow_succ,
   show L.getD k 0 - ys.getD k 0 + 10000 - L.getD k 0 = -(ys.getD k 0) + 10000 by omega,Int.mul_add,Int.mul_neg,show d - 1 - d = -1 by omega]
  generalize (10000:Int) ^ k = P
  generalize P * ys.getD k 0 = B
  omega
theorem SubAt.last {xs ys L:List Int} {k:Nat} (h:SubAt xs ys k L) (hy:Dig ys) (hle:val ys ≤ val xs) (hyl:ys.length ≤ xs.length) (hk:k < L.length) (hs:L.getD k 0 - ys.getD k 0 < 0):k + 1 < L.length:=by
 have hl:=h.len
 by_cases g:k + 1 < L.length
 ·exact g
 ·have h1:=h.sum
  have hd:Dig (L.take k):=Dig.of_get fun j hj=>by
   rw [List.length_take] at hj
   have e:(L.take k).getD j 0 = L.getD j 0:=by
    simp only [List.getD]
    rw [List.getElem?_take_of_lt (by omega)]
   rw [e]; exact h.dig j (by omega)
  have h2:val L = val (L.take k) + 10000 ^ k * L.getD k 0:=by
   rw [val_parts L k,val_drop,List.drop_eq_nil_of_le (by omega),val_nil,Int.mul_zero,Int.add_zero]
  have h3:val ys = val (ys.take k) + 10000 ^ k * ys.getD k 0:=by
   rw [← val_take_next,List.take_of_length_le (by omega)]
  have h4:=take_lt (l:=L.take k) hd k
  rw [List.take_take,Nat.min_self] at h4
  have h5:(10000:Int) ^ k * (L.getD k 0 - ys.getD k 0) ≤ 10000 ^ k * (-1):=Int.mul_le_mul_of_nonneg_left (by omega) (by have:=pow_pos' k; omega)
  rw [Int.mul_sub] at h5
  omega
theorem Tryz.rSub (v u:Value) (xs ys:List Int) (w:World) (hv:Digs w v xs) (hu:Digs w u ys) (hx:Dig xs) (hy:Dig ys) (ht:Top ys) (hle:val ys ≤ val xs) (hlen:xs.length ≤ 1000000000000) :
 Calls Tryz.prog 70 #[v,u] w fun e w'=>(∃ v',e = .returned v' ∧ NumIs w' v' (val xs - val ys) xs.length) ∧ Below w.heap.size w w':=by
 have hyx:=len_le hx hy ht hle
 rcases hv.cases with ⟨rfl,rfl⟩ | ⟨gx,cap,rfl,hrx⟩
 ·have hy0:ys = []:=List.length_eq_zero_iff.1 (by simpa using hyx)
  subst hy0
  obtain ⟨q,dap,rfl,hyl,hyr⟩:=hu.slice
  obtain ⟨i0,hi,hz0,hz1,hz2⟩:=info_parts Tryz.info3
  clear hyr hu hv
  go_enter Tryz.func70,Tryz.ntmps70
  go_wp2_with (first
   |(at_builtin; refine wpList_append_own_none rfl _ _ 33 rfl w.heap.size 3 i0 1 Tryz.underlying33 hi _ 0 [] rfl (World.ownsRow_nil _ _ _ _) rfl ?_))
  go_wp2
  go_loop [11] (fun n=>n = .int .i64 0) (fun n=>0)
  case atStart=>rfl
  case round=>
   subst hrel
   go_wp2_with (go_at_call 119; refine (Tryz.rTrim _ [] _ (Digs.nil _)).mono ?_; rintro e w2 ⟨⟨v',rfl,j,hj,hdj,htj,hvj⟩,rfl⟩)
   go_ret
   exact ⟨⟨_,rfl,[],by simpa using hdj,Dig.nil,.inl rfl,rfl,by simp⟩,Below.refl _ _⟩
 ·obtain ⟨q,dap,rfl,hyl,hyr⟩:=hu.slice
  obtain ⟨i0,hi,hz0,hz1,hz2⟩:=info_parts Tryz.info3
  have HY:Hid (0 < ys.length → ∃ g,q = some ⟨g,0,none⟩ ∧ RowAt w g dap ys):=hyr
  have HRX:Hid (RowAt w gx cap xs):=hrx
  clear hyr hu hv hrx
  go_enter Tryz.func70,Tryz.ntmps70
  go_wp2_with (first
   |(at_builtin; refine wpList_append_own _ rfl _ _ 33 rfl w.heap.size 3 i0 (.int .i64 0) 1 8 Tryz.underlying33 hi hz0 hz1 hz2 rfl (by decide) _ 0 [] rfl (World.ownsRow_nil _ _ _ _) ⟨gx,0,none⟩ xs.length cap (xs.map (Value.int .i64)) rfl (by simp) ?c1 ?c2 ?c3 ?c4 ?c5 ?_))
  case c1=>
   intro j u hj
   rw [List.getElem?_map] at hj
   have hjl:j < xs.length:=by
    by_cases g:j < xs.length
    ·exact g
    ·rw [List.getElem?_eq_none (by omega)] at hj; simp at hj
   rw [List.getElem?_eq_getElem hjl] at hj
   have hc:=HRX.out.cells j hjl
   simp only [Option.map_some,Option.some.injEq] at hj
   rw [← hj]
   have e:(⟨gx,0,none⟩:Addr).add j = ⟨gx,j,none⟩:=by unfold Addr.add; split <;> simp_all
   rw [e,hc]
   simp [List.getD,hjl]
  case c2=>
   intro u hm
   obtain ⟨z,_,rfl⟩:=List.mem_map.1 hm
   rfl
  case c3=>unfold maxLen; omega
  case c4=>omega
  case c5=>omega
  intro v' w1 hown hgrow hnil
  try simp only [Nat.zero_add,List.nil_append] at hown
  have hb1:Below w.heap.size w w1:=(Below.refl _ _).grown hgrow (Nat.le_refl _) (fun k hk=>by cases hk)
  by_cases hl0:xs.length = 0
  ·have hv':v' = .slice none 0 0:=by first | exact hnil.2 hl0 | exact hnil.2 (List.length_eq_zero_iff.1 hl0)
   subst hv'
   have hx0:xs = []:=List.length_eq_zero_iff.1 hl0
   have hy0:ys = []:=List.length_eq_zero_iff.1 (by omega)
   subst hx0 hy0
   have HB1:Hid (Below w.heap.size w w1):=hb1
   clear hown hgrow hnil hb1
   go_wp2
   go_loop [11] (fun n=>n = .int .i64 0) (fun n=>0)
   case atStart=>rfl
   case round=>
    subst hrel
    go_wp2_with (go_at_call 119; refine (Tryz.rTrim _ [] _ (Digs.nil _)).mono ?_; rintro e w2 ⟨⟨v',rfl,j,hj,hdj,htj,hvj⟩,rfl⟩)
    go_ret
    exact ⟨⟨_,rfl,[],by simpa using hdj,Dig.nil,.inl rfl,rfl,by simp⟩,HB1.out⟩
  ·obtain ⟨go,cao,rfl,hown1⟩:=own_cases hown (by omega)
   obtain ⟨hgo,hgo2⟩:=hown1.ge
   clear hown hgrow hnil
   obtain ⟨n,hn⟩:∃ n,xs.length = n:=⟨_,rfl⟩
   have HN:Hid (xs.length = n):=hn
   rw [hn]
   go_wp2
   go_loopw [11] (fun i wr=>∃ (k:Nat) (L:List Int),i = .int .i64 k ∧ k ≤ n ∧ OwnAt wr w.heap.size go cao L ∧ SubAt xs ys k L ∧ Below w.heap.size w wr) (fun i _=>n - (intOf i).toNat)
   case atStart=>
    refine ⟨0,xs,rfl,by omega,hown1,⟨rfl,fun j hj=>by omega,?_,fun j hj=>hx.get j,by simp⟩,hb1⟩
    have:=hx.get 0
    omega
   case round=>
    clear hown1 hb1
    obtain ⟨k,L,rfl,hk,hrow,hat,hb⟩:=hrel
    have HA:Hid (SubAt xs ys k L):=hat
    have HB:Hid (Below w.heap.size w wr):=hb
    have HR:Hid (OwnAt wr w.heap.size go cao L):=hrow
    have hLn:L.length = n:=by have:=hat.len; have:=HN.out; omega
    have HLN:Hid (L.length = n):=hLn
    by_cases hkn:k = n
    ·subst hkn
     have hD:Digs wr (.slice (some ⟨go,0,none⟩) k cao) L:=by
      have:=HR.out.digs
      rw [hLn] at this
      exact this
     have HD:Hid (Dig L):=Dig.of_get fun j hj=>HA.out.dig j (by omega)
     have HV:Hid (val L = val xs - val ys):=by
      have h:=HA.out.sum
      rw [List.take_of_length_le (by have:=HN.out; omega)] at h
      exact h
     clear hrow hat hb hLn
     go_wp2_with (go_at_call 119; refine (Tryz.rTrim _ _ _ hD).mono ?_; rintro e w2 ⟨⟨v',rfl,j,hj,hdj,htj,hvj⟩,rfl⟩)
     go_ret
     exact ⟨⟨_,rfl,L.take j,hdj,HD.out.take j,htj,hvj.trans HV.out,by rw [List.length_take]; have:=HN.out; have:=HLN.out; omega⟩,HB.out⟩
    ·have hkl:k < L.length:=by omega
     have hkn':k < n:=by omega
     have hn1:n ≤ 1000000000000:=by omega
     obtain ⟨o,ho⟩:∃ o,L.getD k 0 = o:=⟨_,rfl⟩
     have hco:=hrow.cell hkl
     rw [ho] at hco
     have hom:=hat.mid
     rw [ho] at hom
     have HO:Hid (L.getD k 0 = o):=ho
     have hfr:=hrow.frozen k
     obtain ⟨y,hyk⟩:∃ y,ys.getD k 0 = y:=⟨_,rfl⟩
     have hy9:=hy.get k
     rw [hyk] at hy9
     have HYK:Hid (ys.getD k 0 = y):=hyk
     have HLAST:Hid (o - y < 0 → k + 1 < L.length):=fun h=>hat.last hy hle hyx hkl (by rw [HO.out,HYK.out]; exact h)
     have HRwr:=HR
     have HBwr:=HB
     have HKL:Hid (k < L.length):=hkl
     clear hrow hat hb hyk ho hLn hkl
     by_cases c2:k < ys.length
     ·obtain ⟨g',rfl,hr'⟩:=HY.out (by omega)
      have hlt':=hr'.lt
      have hcy:=(HB.out.cell (p:=⟨g',k,none⟩) hlt').trans (hr'.cells k c2)
      rw [HYK.out] at hcy
      have hgO':g' ≠ go:=by omega
      clear hr'
      by_cases c3:o - y < 0
      ·go_wp2
       go_region
       obtain ⟨W1,hW1⟩:∃ W,wr.drew.setCell ⟨go,k,none⟩ (.int .i64 (o - y)) = W:=⟨_,rfl⟩
       rw [hW1]
       have HRW1:Hid (OwnAt W1 w.heap.size go cao (L.set k (o - y))):=by rw [← hW1]; exact (HRwr.out.drew).set _ _
       have HBW1:Hid (Below w.heap.size w W1):=by rw [← hW1]; exact HBwr.out.drew.setCell hgo _
       clear hW1 hco hfr hcy
       have hco1:W1.cell? ⟨go,k,none⟩ = some (.int .i64 (o - y)):=by
        have h:=HRW1.out.cell (j:=k) (by simp only [List.length_set]; exact HKL.out)
        rw [getD_set_self _ HKL.out] at h
        exact h
       have hfr1:=HRW1.out.frozen k
       have hk1:=HLAST.out c3
       have hk1n:k + 1 < n:=by have:=HLN.out; omega
       obtain ⟨d,hd⟩:∃ d,L.getD (k + 1) 0 = d:=⟨_,rfl⟩
       have HD1:Hid (L.getD (k + 1) 0 = d):=hd
       have hd9:=HA.out.rest (k + 1) (by omega)
       rw [hd] at hd9
       clear hd
       have hcn:W1.cell? ⟨go,k + 1,none⟩ = some (.int .i64 d):=by
        have h:=HRW1.out.cell (j:=k + 1) (by first | exact hk1 | (simp only [List.length_set]; exact hk1))
        have e:(L.set k (o - y)).getD (k + 1) 0 = d:=by
         rw [getD_set_ne _ (by omega)]; exact HD1.out
        rw [e] at h
        exact h
       have hfn:=HRW1.out.frozen (k + 1)
       have HK1:Hid (k + 1 < L.length):=hk1
       clear hk1
       go_wp2
       refine ⟨⟨k + 1,(L.set k (o - y + 10000)).set (k + 1) (d - 1),by simp,by omega,?_,HA.out.borrow hy HK1.out _ (by rw [HO.out,HYK.out]) c3 d HD1.out,?_⟩,by simp [intOf]; omega⟩
       ·have h:=(HRW1.out.set k (o - y + 10000)).set (k + 1) (d - 1)
        simp only [List.set_set] at h
        simpa using h
       ·exact (HBW1.out.setCell hgo _).setCell hgo _
      ·go_wp2
       go_region
       obtain ⟨W1,hW1⟩:∃ W,wr.drew.setCell ⟨go,k,none⟩ (.int .i64 (o - y)) = W:=⟨_,rfl⟩
       rw [hW1]
       have HRW1:Hid (OwnAt W1 w.heap.size go cao (L.set k (o - y))):=by rw [← hW1]; exact (HRwr.out.drew).set _ _
       have HBW1:Hid (Below w.heap.size w W1):=by rw [← hW1]; exact HBwr.out.drew.setCell hgo _
       clear hW1 hco hfr hcy
       have hco1:W1.cell? ⟨go,k,none⟩ = some (.int .i64 (o - y)):=by
        have h:=HRW1.out.cell (j:=k) (by simp only [List.length_set]; exact HKL.out)
        rw [getD_set_self _ HKL.out] at h
        exact h
       have hfr1:=HRW1.out.frozen k
       go_wp2
       refine ⟨⟨k + 1,L.set k (o - y),by simp,by omega,?_,HA.out.no hy HKL.out _ (by rw [HO.out,HYK.out]) (by omega),HBW1.out⟩,by simp [intOf]; omega⟩
       have h:=HRW1.out
       exact h
     ·obtain rfl:0 = y:=by have:=HYK.out; rw [getD_over c2] at this; exact this
      by_cases c3:o - 0 < 0
      ·have hk1:=HLAST.out c3
       have hk1n:k + 1 < n:=by have:=HLN.out; omega
       obtain ⟨d,hd⟩:∃ d,L.getD (k + 1) 0 = d:=⟨_,rfl⟩
       have HD1:Hid (L.getD (k + 1) 0 = d):=hd
       have hd9:=HA.out.rest (k + 1) (by omega)
       rw [hd] at hd9
       clear hd
       have hcn:wr.cell? ⟨go,k + 1,none⟩ = some (.int .i64 d):=by
        have h:=HRwr.out.cell (j:=k + 1) (by first | exact hk1 | (simp only [List.length_set]; exact hk1))
        have e:(L).getD (k + 1) 0 = d:=by
         exact HD1.out
        rw [e] at h
        exact h
       have hfn:=HRwr.out.frozen (k + 1)
       have HK1:Hid (k + 1 < L.length):=hk1
       clear hk1
       go_wp2
       refine ⟨⟨k + 1,(L.set k (o - 0 + 10000)).set (k + 1) (d - 1),by simp,by omega,?_,HA.out.borrow hy HK1.out _ (by rw [HO.out,HYK.out]) c3 d HD1.out,?_⟩,by simp [intOf]; omega⟩
       ·have h:=(HRwr.out.set k (o + 10000)).set (k + 1) (d - 1)
        skip
        simpa using h
       ·exact (HBwr.out.setCell hgo _).setCell hgo _
      ·go_wp2
       refine ⟨⟨k + 1,L.set k (o - 0),by simp,by omega,?_,HA.out.no hy HKL.out _ (by rw [HO.out,HYK.out]) (by omega),HBwr.out⟩,by simp [intOf]; omega⟩
       have h:=HRwr.out
       rw [show o - 0 = L.getD k 0 by rw [HO.out]; omega,set_same HKL.out]; exact h
theorem wpList_append_digs {P:Program} {w:World} {ops:Array Oper} {rest:List Oper} {o:Oper} {a:Act} {Q:Exit → Act → World → Prop} (hgd:o.guard = none) (s x:Operand) (t:TypeId)
 (ho:o.op = .call { callee:=.builtin .append,args:=#[s,x],argTypes:=#[t,t] }) (base:Nat) (i:TypeInfo)
 (ht:P.underlying t = some (.slice 3)) (hi:P.info? 3 = some i) (hz:i.zero = some (.int .i64 0)) (hsize:i.size = 1) (hby:i.bytes = 8)
 (v:Value) (n:Nat) (xs:List Value) (hs:a.eval s = v) (hown:w.ownsRow base 3 1 v n xs)
 (r:Value) (rs:List Int) (hx:a.eval x = r) (hr:Digs w r rs) (hlen:n + rs.length ≤ 1000000000000) (hbase:base ≤ w.heap.size)
 (h:∀ v' w',w'.ownsRow base 3 1 v' (n + rs.length) (xs ++ rs.map (Value.int .i64)) → w.grownBy w' v.ownBlock → wpList P ops Q rest (a.put o.dst v') w'):wpList P ops Q (o :: rest) a w:=by
 rcases hr.cases with ⟨rfl,rfl⟩ | ⟨g,cap,rfl,hrow⟩
 ·refine wpList_append_own_none hgd s x t ho base 3 i 1 ht hi v n xs hs hown hx ?_
  exact h v w (by simpa using hown) ⟨rfl,rfl,rfl,Nat.le_refl _,fun _ _ _=>rfl⟩
 ·refine wpList_append_own w hgd s x t ho base 3 i (.int .i64 0) 1 8 ht hi hz hsize hby rfl (by decide) v n xs hs hown ⟨g,0,none⟩ rs.length cap (rs.map (Value.int .i64)) hx (by simp) ?_ ?_ (by unfold maxLen; omega) (by omega) hbase ?_
  ·intro j u hj
   rw [List.getElem?_map] at hj
   have hjl:j < rs.length:=by
    by_cases g:j < rs.length
    ·exact g
    ·rw [List.getElem?_eq_none (by omega)] at hj; simp at hj
   rw [List.getElem?_eq_getElem hjl] at hj
   have hc:=hrow.cells j hjl
   simp only [Option.map_some,Option.some.injEq] at hj
   rw [← hj]
   have e:(⟨g,0,none⟩:Addr).add j = ⟨g,j,none⟩:=by unfold Addr.add; split <;> simp_all
   rw [e,hc]
   simp [List.getD,hjl]
  ·intro u hm
   obtain ⟨z,_,rfl⟩:=List.mem_map.1 hm
   rfl
  ·intro v' w' h1 h2 _
   exact h v' w' h1 h2
theorem NumIs.short {w w':World} {v u:Value} {a b:Int} {n m:Nat} (h:NumIs w v a n) (k:NumIs w' u b m) (hab:a ≤ b):NumIs w v a m:=by
 obtain ⟨xs,h1,h2,h3,rfl,h5⟩:=h
 obtain ⟨ys,k1,k2,k3,rfl,k5⟩:=k
 exact ⟨xs,h1,h2,h3,rfl,Nat.le_trans (len_le k2 h2 h3 hab) k5⟩
theorem Tryz.nSub {v u:Value} {a b:Int} {n m:Nat} {w:World} (hv:NumIs w v a n) (hu:NumIs w u b m) (hab:b ≤ a) (hlen:n ≤ 1000000000000) :
 Calls Tryz.prog 70 #[v,u] w fun e w'=>(∃ v',e = .returned v' ∧ NumIs w' v' (a - b) n) ∧ Below w.heap.size w w':=by
 obtain ⟨xs,h1,h2,h3,rfl,h5⟩:=hv
 obtain ⟨ys,k1,k2,k3,rfl,k5⟩:=hu
 refine (Tryz.rSub v u xs ys w h1 k1 h2 k2 k3 hab (by omega)).mono ?_
 rintro e w' ⟨⟨v',rfl,h⟩,hb⟩
 exact ⟨⟨v',rfl,h.mono h5⟩,hb⟩
theorem Tryz.nCmpLt {v u:Value} {a b:Int} {n m:Nat} {w:World} (hv:NumIs w v a n) (hu:NumIs w u b m) (h:a < b) :
 Calls Tryz.prog 61 #[v,u] w fun e w'=>e = .returned (.int .i64 (-1)) ∧ w' = w:=by
 have:=Tryz.nCmp hv hu
 rw [cmpI_lt h] at this
 exact this
theorem Tryz.nCmpGt {v u:Value} {a b:Int} {n m:Nat} {w:World} (hv:NumIs w v a n) (hu:NumIs w u b m) (h:b < a) :
 Calls Tryz.prog 61 #[v,u] w fun e w'=>e = .returned (.int .i64 1) ∧ w' = w:=by
 have:=Tryz.nCmp hv hu
 rw [cmpI_gt h] at this
 exact this
theorem Tryz.nCmpGe {v u:Value} {a b:Int} {n m:Nat} {w:World} (hv:NumIs w v a n) (hu:NumIs w u b m) (h:b ≤ a) :
 Calls Tryz.prog 61 #[v,u] w fun e w'=>(∃ c,0 ≤ c ∧ e = .returned (.int .i64 c)) ∧ w' = w:=by
 refine (Tryz.nCmp hv hu).mono ?_
 rintro e w' ⟨rfl,rfl⟩
 exact ⟨⟨_,by unfold cmpI; rw [if_neg (by omega)]; split <;> omega,rfl⟩,rfl⟩
theorem Tryz.nCmpLe {v u:Value} {a b:Int} {n m:Nat} {w:World} (hv:NumIs w v a n) (hu:NumIs w u b m) (h:a ≤ b) :
 Calls Tryz.prog 61 #[v,u] w fun e w'=>(∃ c,c ≤ 0 ∧ e = .returned (.int .i64 c)) ∧ w' = w:=by
 refine (Tryz.nCmp hv hu).mono ?_
 rintro e w' ⟨rfl,rfl⟩
 exact ⟨⟨_,by unfold cmpI; split <;> first | omega | (rw [if_neg (by omega)]; omega),rfl⟩,rfl⟩
/-- What holds of the quotient's digits at the head of Div's loop. -/
structure QuoAt (n k:Nat) (Q:Int) (L:List Int):Prop where
 len:L.length = n
 dig:Dig L
 low:∀ j,j < k → L.getD j 0 = 0
 sum:val L = 10000 ^ k * Q
theorem QuoAt.skip {n k:Nat} {Q:Int} {L:List Int} (h:QuoAt n (k + 1) Q L):QuoAt n k (10000 * Q) L:=
 ⟨h.len,h.dig,fun j hj=>h.low j (by omega),by rw [h.sum,Int.pow_succ,Int.mul_assoc]⟩
theorem QuoAt.put {n k:Nat} {Q:Int} {L:List Int} (h:QuoAt n (k + 1) Q L) (hk:k < n) (z:Int) (h0:0 ≤ z) (h1:z ≤ 9999):QuoAt n k (10000 * Q + z) (L.set k z):=by
 have hl:=h.len
 refine ⟨by rw [List.length_set]; exact hl,Dig.of_get fun j hj=>?_,fun j hj=>?_,?_⟩
 ·by_cases e:k = j
  ·subst e; rw [getD_set_self _ (by omega)]; omega
  ·rw [getD_set_ne _ e]; exact h.dig.get j
 ·rw [getD_set_ne _ (by omega)]; exact h.low j (by omega)
 ·rw [val_set _ _ _ (by omega),h.low k (by omega),h.sum,Int.pow_succ,Int.mul_add,Int.mul_assoc,Int.sub_zero]
theorem div_mod_of {a q b r:Int} (h:a = q * b + r) (h0:0 ≤ r) (h1:r < b):a / b = q ∧ a % b = r:=by
 have hb:0 < b:=by omega
 constructor
 ·rw [h,Int.add_comm,Int.add_mul_ediv_right _ _ (by omega),Int.ediv_eq_zero_of_lt h0 h1,Int.zero_add]
 ·rw [h,Int.add_comm,Int.add_mul_emod_self_right,Int.emod_eq_of_lt h0 h1]
/-- Digits whose block is none of those below B. -/
def DigsB (B:Nat) (w:World) (v:Value) (xs:List Int):Prop:=w.ownsRow B 3 1 v xs.length (xs.map (Value.int .i64))
theorem DigsB.take {B:Nat} {w:World} {g cap:Nat} {xs:List Int} (h:DigsB B w (.slice (some ⟨g,0,none⟩) xs.length cap) xs) (k:Nat) (hk:k ≤ xs.length):DigsB B w (.slice (some ⟨g,0,none⟩) k cap) (xs.take k):=by
 obtain ⟨h0,h⟩:=h
 have hl:(xs.take k).length = k:=by simp; omega
 refine ⟨by simp,?_⟩
 rcases h with h | ⟨g',cap',cur,h1,hg,hh,hn,hc,hs,ht⟩
 ·simp at h
 ·simp only [Value.slice.injEq,Option.some.injEq,Addr.mk.injEq,and_true,true_and] at h1
  obtain ⟨rfl,rfl⟩:=h1
  refine .inr ⟨g,cap,cur,by rw [hl],hg,hh,by omega,hc,hs,?_⟩
  have:(cur.toList.take (xs.length * 1)).take k = (xs.map (Value.int .i64)).take k:=by rw [ht]
  rw [List.take_take,Nat.min_eq_left (by omega)] at this
  rw [hl,Nat.mul_one,this,List.map_take]
def TrimOfB (B:Nat) (w:World) (v:Value) (xs:List Int):Prop:=∃ k,k ≤ xs.length ∧ DigsB B w v (xs.take k) ∧ Top (xs.take k) ∧ val (xs.take k) = val xs
theorem Tryz.rTrimB (B:Nat) (v:Value) (xs:List Int) (w:World) (h:DigsB B w v xs) :
 Calls Tryz.prog 119 #[v] w fun e w'=>(∃ v',e = .returned v' ∧ TrimOfB B w v' xs) ∧ w' = w:=by
 have h':Digs w v xs:=Digs.of_own h
 rcases h'.cases with ⟨rfl,rfl⟩ | ⟨g,cap,rfl,hr⟩
 ·go_enter Tryz.func119,Tryz.ntmps119
  go_wp2
  go_loop [3] (fun n=>n = .int .i64 0) (fun n=>0)
  case atStart=>rfl
  case round=>
   subst hrel
   go_wp2
   go_ret
   exact ⟨⟨_,rfl,0,by simp,World.ownsRow_nil _ _ _ _,.inl rfl,rfl⟩,rfl⟩
 ·have HD:Hid (DigsB B w (.slice (some ⟨g,0,none⟩) xs.length cap) xs):=h
  obtain ⟨hlt,hfits,hmax,hcells⟩:=hr
  unfold maxLen at hmax
  clear h h'
  go_enter Tryz.func119,Tryz.ntmps119
  go_wp2
  go_loop [3] (fun n=>∃ k:Nat,k ≤ xs.length ∧ n = .int .i64 k ∧ val (xs.take k) = val xs) (fun n=>(intOf n).toNat)
  case atStart=>exact ⟨xs.length,Nat.le_refl _,rfl,by simp⟩
  case round=>
   obtain ⟨k,hk,rfl,hv⟩:=hrel
   have HV:Hid (val (xs.take k) = val xs):=hv
   clear hv
   cases k with
   | zero =>
     clear hcells
     go_wp2
     go_ret
     exact ⟨⟨_,rfl,0,by omega,HD.out.take 0 (by omega),top_take (by omega) (.inl rfl),HV.out⟩,rfl⟩
   | succ k =>
     have hc:=hcells k (by omega)
     clear hcells
     obtain ⟨d,hd⟩:∃ d,xs.getD k 0 = d:=⟨_,rfl⟩
     rw [hd] at hc
     have hD:Hid (xs.getD k 0 = d):=hd
     clear hd
     have hcase:(d == 0) = true ∨ (d == 0) = false:=by cases (d == 0) <;> simp
     rcases hcase with h0 | h0
     ·have hd0:d = 0:=by simpa using h0
      go_wp2
      exact ⟨⟨k,by omega,rfl,by rw [← HV.out,val_take_succ _ _ (by omega),hD.out,hd0]; simp⟩,by simp [intOf]⟩
     ·have hd0:d ≠ 0:=by simpa using h0
      go_wp2
      go_ret
      exact ⟨⟨_,rfl,k + 1,hk,HD.out.take _ hk,top_take hk (.inr (by rw [Nat.add_sub_cancel,hD.out]; exact hd0)),HV.out⟩,rfl⟩
def NumB (B:Nat) (w:World) (v:Value) (z:Int) (n:Nat):Prop:=∃ xs,DigsB B w v xs ∧ Dig xs ∧ Top xs ∧ val xs = z ∧ xs.length ≤ n
theorem NumB.num {B:Nat} {w:World} {v:Value} {z:Int} {n:Nat} (h:NumB B w v z n):NumIs w v z n:=by
 obtain ⟨xs,h1,h2⟩:=h
 exact ⟨xs,Digs.of_own h1,h2⟩
theorem NumB.below {B C:Nat} {w w':World} {v:Value} {z:Int} {n:Nat} (h:NumB B w v z n) (hb:Below C w w') (hC:w.heap.size ≤ C):NumB B w' v z n:=by
 obtain ⟨xs,⟨h0,h⟩,h2⟩:=h
 refine ⟨xs,⟨h0,?_⟩,h2⟩
 rcases h with h | ⟨g,cap,cur,h1,hg,hh,r⟩
 ·exact .inl h
 ·have hlt:=(Array.getElem?_eq_some_iff.1 hh).1
  exact .inr ⟨g,cap,cur,h1,hg,by rw [hb.block g (by omega)]; exact hh,r⟩
theorem NumB.set {B:Nat} {w:World} {v:Value} {z:Int} {n:Nat} (h:NumB B w v z n) {O:Nat} (hO:O < B) (k:Nat) (x:Value):NumB B (w.setCell ⟨O,k,none⟩ x) v z n:=by
 obtain ⟨xs,⟨h0,h⟩,h2⟩:=h
 refine ⟨xs,⟨h0,?_⟩,h2⟩
 rcases h with h | ⟨g,cap,cur,h1,hg,hh,r⟩
 ·exact .inl h
 ·exact .inr ⟨g,cap,cur,h1,hg,by rw [heap_setCell_other _ _ _ _ (by simp; omega)]; exact hh,r⟩
theorem Tryz.rDiv (v u:Value) (xs:List Int) (b:Int) (m:Nat) (w:World) (hv:Digs w v xs) (hx:Dig xs) (hu:NumIs w u b m) (hb0:1 ≤ b) (hlen:xs.length + m ≤ 100000000000) :
 Calls Tryz.prog 120 #[v,u] w fun e w'=>(∃ q r,e = .returned (.tuple #[q,r]) ∧ NumIs w' q (val xs / b) xs.length ∧ NumIs w' r (val xs % b) m) ∧ Below w.heap.size w w':=by
 obtain ⟨p,cap,rfl,hxl,hxr⟩:=hv.slice
 obtain ⟨i0,hi,hz0,hz1,hz2⟩:=info_parts Tryz.info3
 have HX:Hid (0 < xs.length → ∃ g,p = some ⟨g,0,none⟩ ∧ RowAt w g cap xs):=hxr
 have HU:Hid (NumIs w u b m):=hu
 clear hxr hv hu
 obtain ⟨n,hn⟩:∃ n:Nat,xs.length = n:=⟨_,rfl⟩
 have HN:Hid (xs.length = n):=hn
 rw [hn] at hlen hxl
 rw [hn]
 clear hn
 go_enter Tryz.func120,Tryz.ntmps120
 go_wp2_with (first
  |(refine wpList_make_full _ rfl _ _ 33 rfl w.heap.size 3 i0 (.int .i64 0) 1 Tryz.underlying33 hi hz0 hz1 .i64 .i64 _ _ n rfl rfl rfl rfl (by rw [hz2]; omega) (by unfold maxLen; omega) (by omega) ?_))
 intro w1 hown hgrow
 have hrow1:=RowOf.of_made (by rw [toList_madeCells_one] at hown; exact hown)
 have hb1:Below w.heap.size w w1:=(Below.refl _ _).grown hgrow (Nat.le_refl _) (fun k hk=>by cases hk)
 clear hown hgrow
 go_wp2
 go_loopw [7,8] (fun r c wr=>∃ (k:Nat) (L:List Int) (Q R:Int),c = .int .i64 (k - 1) ∧ k ≤ n ∧ RowOf wr w.heap.size L ∧ QuoAt n k Q L ∧ val (xs.drop k) = Q * b + R ∧ 0 ≤ R ∧ R < b ∧ NumIs wr r R m ∧ Below w.heap.size w wr) (fun _ c _=>(intOf c + 1).toNat)
 case atStart=>
  refine ⟨n,List.replicate n 0,0,0,rfl,Nat.le_refl _,hrow1,⟨by simp,?_,?_,?_⟩,?_,by omega,by omega,⟨[],Digs.nil _,Dig.nil,.inl rfl,rfl,by simp⟩,hb1⟩
  ·intro x hx'; rw [List.eq_of_mem_replicate hx']; omega
  ·intro j hj; simp [List.getD,List.getElem?_replicate]; split <;> simp
  ·rw [val_zeros]; simp
  ·rw [List.drop_eq_nil_of_le (by have:=HN.out; omega)]; simp
 case round=>
  clear hrow1 hb1
  obtain ⟨k,L,Q,R,rfl,hk,hrow,hq,hval,hR0,hR1,hr,hb⟩:=hrel
  have HR:Hid (RowOf wr w.heap.size L):=hrow
  have HQ:Hid (QuoAt n k Q L):=hq
  have HV:Hid (val (xs.drop k) = Q * b + R):=hval
  have HB:Hid (Below w.heap.size w wr):=hb
  have HNR:Hid (NumIs wr u7 R m):=hr
  clear hrow hq hval hb hr
  cases k with
  | zero =>
    have hD:Digs wr (.slice (some ⟨w.heap.size,0,none⟩) n n) L:=by
     have:=HR.out.digs (by have:=HQ.out.len; unfold maxLen; omega)
     rw [HQ.out.len] at this
     exact this
    go_wp2_with (go_at_call 119; refine (Tryz.rTrim _ _ _ hD).mono ?_; rintro e w2 ⟨⟨v',rfl,t,ht,hdt,htt,hvt⟩,rfl⟩)
    go_ret2
    have hv0:val xs = Q * b + R:=by have:=HV.out; rwa [List.drop_zero] at this
    obtain ⟨e1,e2⟩:=div_mod_of hv0 hR0 hR1
    refine ⟨⟨_,_,rfl,?_,?_⟩,HB.out⟩
    ·exact ⟨L.take t,hdt,HQ.out.dig.take t,htt,by rw [hvt,HQ.out.sum,e1]; simp,by rw [List.length_take,HQ.out.len]; omega⟩
    ·rw [e2]; exact HNR.out
  | succ k =>
    rw [show ((k + 1:Nat):Int) - 1 = k by omega]
    have hkn:k < n:=by omega
    obtain ⟨gx,rfl,hrx⟩:=HX.out (by have:=HN.out; omega)
    obtain ⟨a,ha⟩:∃ a,xs.getD k 0 = a:=⟨_,rfl⟩
    have ha9:=hx.get k
    rw [ha] at ha9
    have HA:Hid (xs.getD k 0 = a):=ha
    have hca:=(HB.out.cell (p:=⟨gx,k,none⟩) hrx.lt).trans (hrx.cells k (by have:=HN.out; omega))
    rw [ha] at hca
    clear ha hrx
    have hsz:=HB.out.size
    have hszq:w.heap.size + 1 ≤ wr.heap.size:=HR.out.lt
    obtain ⟨rs,hrd,hrdig,hrtop,hrval,hrlen⟩:=HNR.out
    have HRD:Hid (Digs wr u7 rs):=hrd
    have HRDIG:Hid (Dig rs):=hrdig
    have HRV:Hid (val rs = R):=hrval
    clear hrd hrdig hrtop hrval
    obtain ⟨T,hT⟩:∃ T,a + 10000 * R = T:=⟨_,rfl⟩
    have HT:Hid (a + 10000 * R = T):=hT
    have HVT:Hid (val (xs.drop k) = 10000 * Q * b + T):=by
     show _ = _
     rw [val_drop,HA.out,HV.out,← hT,Int.mul_add,Int.mul_assoc 10000 Q b]; omega
    go_wp2_with (first
     |(at_builtin; refine wpList_append_digs rfl _ _ 33 rfl wr.heap.size i0 Tryz.underlying33 hi hz0 hz1 hz2 _ 1 _ rfl (World.ownsRow_lit wr #[.int .i64 a] 1 (Nat.le_refl _) (by unfold maxLen; omega) rfl) _ rs rfl (HRD.out.alloc _) (by omega) (by simp) ?_))
    intro v' w2 hown' hgrow'
    have hd2:DigsB wr.heap.size w2 v' (a :: rs):=by unfold DigsB; simpa [Nat.add_comm] using hown'
    have hbw:Below wr.heap.size wr w2:=((Below.refl _ wr).alloc (Nat.le_refl _) _).grown hgrow' (by simp) (fun j hj=>by simp [Value.ownBlock] at hj; omega)
    have HB2:Hid (Below w.heap.size w w2):=HB.out.trans (hbw.mono hsz)
    have HR2:Hid (RowOf w2 w.heap.size L):=HR.out.below hbw HR.out.lt
    have hdig2:Dig (a :: rs):=fun d hd=>by
     rcases List.mem_cons.1 hd with rfl | hd
     ·exact ha9
     ·exact HRDIG.out d hd
    have HDIG2:Hid (Dig (a :: rs)):=hdig2
    have HVAL2:Hid (val (a :: rs) = T):=by show _ = _; rw [val_cons,HRV.out]; exact hT
    have HUW:Hid (NumIs w2 u b m):=HU.out.below HB2.out (Nat.le_refl _)
    clear hown' hgrow' hbw hdig2 hca
    have hT0:0 ≤ T:=by omega
    by_cases hlt:T < b
    ·go_wp2_with (first
      |(go_at_call 119; refine (Tryz.rTrimB _ _ _ _ hd2).mono ?_; rintro e w3 ⟨⟨r',rfl,t,ht,hdt,htt,hvt⟩,rfl⟩; have VR:=(show NumB _ _ r' T (1 + m) from ⟨_,hdt,HDIG2.out.take t,htt,hvt.trans HVAL2.out,by rw [List.length_take,List.length_cons]; omega⟩))
      |(go_at_call 61; with_reducible refine (Tryz.nCmpLt VR.num HUW.out hlt).mono ?_; rintro e w3 ⟨rfl,rfl⟩))
     exact ⟨⟨k,L,10000 * Q,T,rfl,by omega,HR2.out,HQ.out.skip,HVT.out,hT0,hlt,VR.num.short HUW.out (by omega),HB2.out⟩,by simp [intOf]⟩
    ·have hge:b ≤ T:=by omega
     clear hlt
     go_wp2_with (first
      |(go_at_call 119; refine (Tryz.rTrimB _ _ _ _ hd2).mono ?_; rintro e w3 ⟨⟨r',rfl,t,ht,hdt,htt,hvt⟩,rfl⟩; have VR:=(show NumB _ _ r' T (1 + m) from ⟨_,hdt,HDIG2.out.take t,htt,hvt.trans HVAL2.out,by rw [List.length_take,List.length_cons]; omega⟩))
      |(go_at_call 61; with_reducible refine (Tryz.nCmpGe VR.num HUW.out hge).mono ?_; rintro e w4 ⟨⟨c,hc0,rfl⟩,rfl⟩))
     have hVR:=VR
     obtain ⟨B0,hB0,hVR⟩:∃ B0,w.heap.size < B0 ∧ NumB B0 w4 r' T (1 + m):=⟨_,Nat.lt_of_lt_of_le (Nat.lt_succ_self _) hszq,VR⟩
     have HVR:Hid (NumB B0 w4 r' T (1 + m)):=hVR
     clear VR hVR hdt htt hvt hd2 hsz hrlen ht
     have hTb:T < 10000 * b:=by omega
     have hT9:Hid (a + 10000 * R = T):=hT
     clear hT HT
     go_loopw [9,10] (fun lo hi wb=>∃ l h:Int,lo = .int .i64 l ∧ hi = .int .i64 h ∧ 1 ≤ l ∧ l < h ∧ h ≤ 10000 ∧ b * l ≤ T ∧ T < b * h ∧ Below w4.heap.size w4 wb) (fun lo hi _=>(intOf hi - intOf lo).toNat)
     case atStart=>exact ⟨1,10000,rfl,rfl,by omega,by omega,by omega,by omega,by omega,Below.refl _ _⟩
     case round=>
      obtain ⟨l,h,rfl,rfl,hl1,hlh,hh,hlo,hhi,hbb⟩:=hrel
      have HLO:Hid (b * l ≤ T):=hlo
      have HHI:Hid (T < b * h):=hhi
      have HBB:Hid (Below w4.heap.size w4 wr):=hbb
      have HUB:Hid (NumIs wr u b m):=HUW.out.below hbb (Nat.le_refl _)
      have HRB:Hid (NumB B0 wr r' T (1 + m)):=HVR.out.below hbb (Nat.le_refl _)
      clear hlo hhi hbb
      by_cases hone:h - l ≤ 1
      ·obtain rfl:h = l + 1:=by omega
       have hRq:=HR2.out.below HBB.out HR2.out.lt
       have hkL:k < L.length:=by rw [HQ.out.len]; exact hkn
       have hcq:=hRq.cell hkL
       have hfq:=hRq.frozen k
       have HRQ:Hid (RowOf wr w.heap.size L):=hRq
       have HKL:Hid (k < L.length):=hkL
       have HRS:Hid (RowOf (wr.setCell ⟨w.heap.size,k,none⟩ (.int .i64 l)) w.heap.size (L.set k l)):=hRq.set k l
       have hBS:Below w.heap.size w (wr.setCell ⟨w.heap.size,k,none⟩ (.int .i64 l)):=(HB2.out.trans (HBB.out.mono HB2.out.size)).setCell (Nat.le_refl _) _
       have HBS:Hid (Below w.heap.size w (wr.setCell ⟨w.heap.size,k,none⟩ (.int .i64 l))):=hBS
       have HUS:Hid (NumIs (wr.setCell ⟨w.heap.size,k,none⟩ (.int .i64 l)) u b m):=HU.out.below hBS (Nat.le_refl _)
       have HTS:Hid (NumB B0 (wr.setCell ⟨w.heap.size,k,none⟩ (.int .i64 l)) r' T (1 + m)):=HRB.out.set hB0 k _
       have hone1:=NumIs.one (wr.setCell ⟨w.heap.size,k,none⟩ (.int .i64 l)) l hl1 (by omega)
       have hsS:(wr.setCell ⟨w.heap.size,k,none⟩ (.int .i64 l)).heap.size = wr.heap.size:=by simp
       rw [hsS] at hone1
       have HONE:Hid (NumIs ((wr.setCell ⟨w.heap.size,k,none⟩ (.int .i64 l)).alloc (.cells #[.int .i64 l] 3)) (.slice (some ⟨wr.heap.size,0,none⟩) 1 1) l 1):=hone1
       clear hRq hkL hBS hone1 hsS
       go_wp2_with (first
        |(go_at_call 68; refine (Tryz.nMul (w:=(wr.setCell ⟨w.heap.size,k,none⟩ (.int .i64 l)).alloc (.cells #[.int .i64 l] 3)) (HUS.out.alloc _) HONE.out (by omega)).mono ?_; rintro e w5 ⟨⟨vm,rfl,Vm⟩,b5⟩; have BB5:=((Below.refl _ _).alloc (Nat.le_refl _) _).trans (b5.mono (by simp)); have HRM:=(HTS.out.below BB5 (Nat.le_refl _)).num)
        |(go_at_call 70; with_reducible refine (Tryz.nSub HRM Vm HLO.out (by omega)).mono ?_; rintro e w6 ⟨⟨vs,rfl,Vs⟩,b6⟩; have BB6:=BB5.trans (b6.mono BB5.size)))
       have hlo:=HLO.out
       have hhi:=HHI.out
       rw [Int.mul_add,Int.mul_one] at hhi
       have HU6:=HU.out.below (HBS.out.trans (BB6.mono HBS.out.size)) (Nat.le_refl _)
       refine ⟨⟨k,L.set k l,10000 * Q + l,T - b * l,rfl,by omega,HRS.out.below BB6 HRS.out.lt,HQ.out.put hkn l (by omega) (by omega),?_,by omega,by omega,Vs.short HU6 (by omega),HBS.out.trans (BB6.mono HBS.out.size)⟩,by simp [intOf]⟩
       rw [HVT.out,Int.add_mul,Int.mul_comm l b]; omega
      ·obtain ⟨mid,hmid⟩:∃ mid,(l + h) / 2 = mid:=⟨_,rfl⟩
       have hm1:l < mid:=by omega
       have hm2:mid < h:=by omega
       by_cases hcmp:b * mid ≤ T
       ·go_wp2_with (first
         |(go_at_call 68; with_reducible refine (Tryz.nMul (HUB.out.alloc _) (NumIs.one _ mid (by omega) (by omega)) (by omega)).mono ?_; rintro e w5 ⟨⟨vm,rfl,Vm⟩,b5⟩; have BB5:=((Below.refl _ _).alloc (Nat.le_refl _) _).trans (b5.mono (by simp)); have HRM:=(HRB.out.below BB5 (Nat.le_refl _)).num)
         |(go_at_call 61; with_reducible refine (Tryz.nCmpLe Vm HRM hcmp).mono ?_; rintro e w6 ⟨⟨c',hc',rfl⟩,rfl⟩))
        exact ⟨⟨mid,h,rfl,rfl,by omega,hm2,hh,hcmp,HHI.out,HBB.out.trans (BB5.mono HBB.out.size)⟩,by simp [intOf]; omega⟩
       ·have hcmp':T < b * mid:=by omega
        clear hcmp
        go_wp2_with (first
         |(go_at_call 68; with_reducible refine (Tryz.nMul (HUB.out.alloc _) (NumIs.one _ mid (by omega) (by omega)) (by omega)).mono ?_; rintro e w5 ⟨⟨vm,rfl,Vm⟩,b5⟩; have BB5:=((Below.refl _ _).alloc (Nat.le_refl _) _).trans (b5.mono (by simp)); have HRM:=(HRB.out.below BB5 (Nat.le_refl _)).num)
         |(go_at_call 61; with_reducible refine (Tryz.nCmpGt Vm HRM hcmp').mono ?_; rintro e w6 ⟨rfl,rfl⟩))
        exact ⟨⟨l,mid,rfl,rfl,hl1,hm1,by omega,HLO.out,hcmp',HBB.out.trans (BB5.mono HBB.out.size)⟩,by simp [intOf]; omega⟩
theorem Tryz.nDiv {v u:Value} {a b:Int} {n m:Nat} {w:World} (hv:NumIs w v a n) (hu:NumIs w u b m) (hb:1 ≤ b) (hlen:n + m ≤ 100000000000) :
 Calls Tryz.prog 120 #[v,u] w fun e w'=>(∃ q r,e = .returned (.tuple #[q,r]) ∧ NumIs w' q (a / b) n ∧ NumIs w' r (a % b) m) ∧ Below w.heap.size w w':=by
 obtain ⟨xs,h1,h2,h3,rfl,h5⟩:=hv
 refine (Tryz.rDiv v u xs b m w h1 h2 hu hb (by omega)).mono ?_
 rintro e w' ⟨⟨q,r,rfl,hq,hr⟩,hbb⟩
 exact ⟨⟨q,r,rfl,hq.mono h5,hr⟩,hbb⟩
end Go.Proofs
