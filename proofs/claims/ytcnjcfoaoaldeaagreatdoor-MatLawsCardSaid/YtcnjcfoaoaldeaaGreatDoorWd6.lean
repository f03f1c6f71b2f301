/- What slices.Clone at words and Text of nought of the package nat return. What plain, group, row, pushed and Get of the package nat return. -/
import Derived.Test.YtcnjcfoaoaldeaaGreatDoorWd3
import Derived.Laws.AppendOwnNone
set_option linter.unusedVariables false
set_option maxHeartbeats 4000000
set_option maxRecDepth 100000
namespace Go.Proofs.Wd
open Go.RowKit
theorem eqNilIn {P:Program} (w:World) (d:Nat) (t e:TypeId) (a:Option Addr) (l c:Nat) (h:P.underlying t = some (.slice e)):(Op.equalIn (d + 1) t (.slice a l c) (.slice none 0 0)).run P w = .ok a.isNone w:=by
 cases a <;> simp [Op.equalIn,run_underlying h]
theorem eqNilAt {P:Program} (w:World) (t e:TypeId) (a:Option Addr) (l c:Nat) (h:P.underlying t = some (.slice e)):(Op.equal t (.slice a l c) (.slice none 0 0)).run P w = .ok a.isNone w:=eqNilIn w 9999 t e a l c h
theorem eqNil {P:Program} (w:World) (t e:TypeId) (a:Option Addr) (l c:Nat) (h:P.underlying t = some (.slice e)):(binOp .eql t (.slice a l c) (.slice none 0 0)).run P w = .ok (.bool a.isNone) w:=by
 simp [binOp,eqNilAt w t e a l c h]
theorem wpList_append_digs {P:Program} {w:World} {ops:Array Oper} {rest:List Oper} {o:Oper} {a:Act} {Q:Exit → Act → World → Prop} (hgd:o.guard = none) (s x:Operand) (t:TypeId)
 (ho:o.op = .call { callee:=.builtin .append,args:=#[s,x],argTypes:=#[t,t] }) (base:Nat) (i:TypeInfo)
 (ht:P.underlying t = some (.slice 73)) (hi:P.info? 73 = some i) (hz:i.zero = some (.int .u64 0)) (hsize:i.size = 1) (hby:i.bytes = 8)
 (v:Value) (n:Nat) (xs:List Value) (hs:a.eval s = v) (hown:w.ownsRow base 73 1 v n xs)
 (r:Value) (rs:List Int) (hx:a.eval x = r) (hr:Digs w r rs) (hlen:n + rs.length ≤ 1000000000000) (hbase:base ≤ w.heap.size)
 (h:∀ v' w',w'.ownsRow base 73 1 v' (n + rs.length) (xs ++ rs.map (Value.int .u64)) → w.grownBy w' v.ownBlock → wpList P ops Q rest (a.put o.dst v') w'):wpList P ops Q (o :: rest) a w:=by
 rcases hr.cases with ⟨rfl,rfl⟩ | ⟨g,cap,rfl,hrow⟩
 ·refine wpList_append_own_none hgd s x t ho base 73 i 1 ht hi v n xs hs hown hx ?_
  exact h v w (by simpa using hown) ⟨rfl,rfl,rfl,Nat.le_refl _,fun _ _ _=>rfl⟩
 ·refine wpList_append_own w hgd s x t ho base 73 i (.int .u64 0) 1 8 ht hi hz hsize hby rfl (by decide) v n xs hs hown ⟨g,0,none⟩ rs.length cap (rs.map (Value.int .u64)) hx (by simp) ?_ ?_ (by unfold maxLen; omega) (by omega) hbase ?_
  ·intro j u hj
   rw [List.getElem?_map] at hj
   have hjl:j < rs.length:=by
    by_cases g:j < rs.length
    ·exact g
    ·rw [List.getElem?_eq_none (by omega)] at hj; simp at hj
   rw [List.getElem?_eq_getElem hjl] at hj
   have hc:=hrow.cells j hjl
   simp only [Option.map_some,Option.some.injEq] at hj
   rw [← hj]
   have e:(⟨g,0,none⟩:Addr).add j = ⟨g,j,none⟩:=by unfold Addr.add; split <;> simp_all
   rw [e,hc]
   simp [List.getD,hjl]
  ·intro u hm
   obtain ⟨z,_,rfl⟩:=List.mem_map.1 hm
   rfl
  ·intro v' w' h1 h2 _
   exact h v' w' h1 h2
theorem Tryz.clone (v:Value) (xs:List Int) (w:World) (h:Digs w v xs) (hlen:xs.length ≤ 1000000000000) :
 Calls Tryz.prog 106 #[v] w fun e w'=>(∃ v',e = .returned v' ∧ w'.ownsRow w.heap.size 73 1 v' xs.length (xs.map (Value.int .u64))) ∧ Below w.heap.size w w':=by
 obtain ⟨i0,hi,hz0,hz1,hz2⟩:=info_parts Tryz.info73
 have heq:∀ (a:Option Addr) (l c:Nat) (w:World),(binOp .eql 139 (.slice a l c) (.slice none 0 0)).run Tryz.prog w = .ok (.bool a.isNone) w:=fun a l c w=>eqNil w _ _ a l c Tryz.underlying139
 rcases h.cases with ⟨rfl,rfl⟩ | ⟨g,cap,rfl,hr⟩
 ·clear h
  go_enter Tryz.func106,Tryz.ntmps106
  go_wp2
  go_ret
  exact ⟨⟨_,rfl,World.ownsRow_nil _ _ _ _⟩,Below.refl _ _⟩
 ·have H:Hid (Digs w (.slice (some ⟨g,0,none⟩) xs.length cap) xs):=h
  clear h hr
  go_enter Tryz.func106,Tryz.ntmps106
  go_wp2_with (first
   |(at_builtin; refine wpList_append_digs rfl _ _ 139 rfl w.heap.size i0 Tryz.underlying139 hi hz0 hz1 hz2 _ 0 _ rfl (World.ownsRow_lit w #[] 0 (Nat.le_refl _) (by unfold maxLen; omega) rfl) _ xs rfl (H.out.below ((Below.refl w.heap.size w).alloc (Nat.le_refl _) _) (Nat.le_refl _)) (by omega) (by simp) ?_))
  intro v' w1 hown hgrow
  have HO:Hid (w1.ownsRow w.heap.size 73 1 v' xs.length (xs.map (Value.int .u64))):=by simpa [Hid] using hown
  have HB:Hid (Below w.heap.size w w1):=((Below.refl _ w).alloc (Nat.le_refl _) _).grown hgrow (by simp) (fun j hj=>by simp [Value.ownBlock] at hj; omega)
  clear hown hgrow
  go_wp2
  go_ret
  exact ⟨⟨_,rfl,HO.out⟩,HB.out⟩
end Go.Proofs.Wd
namespace Go.Proofs.Wd
open Go.RowKit
/-- The rows that a call may write, by name. -/
def OwnAt (w:World) (B g cap:Nat) (L:List Int):Prop:=w.ownsRow B 73 1 (.slice (some ⟨g,0,none⟩) L.length cap) L.length (L.map (Value.int .u64))
theorem OwnAt.cell {w:World} {B g cap:Nat} {L:List Int} (h:OwnAt w B g cap L) {j:Nat} (hj:j < L.length):w.cell? ⟨g,j,none⟩ = some (.int .u64 (L.getD j 0)):=by
 rw [World.ownsRow.cellAt h j (by omega),List.getElem?_map,List.getElem?_eq_getElem hj]
 simp [List.getD,hj]
theorem OwnAt.frozen {w:World} {B g cap:Nat} {L:List Int} (h:OwnAt w B g cap L) (j:Nat):w.frozen? ⟨g,j,none⟩ = false:=World.ownsRow.frozenAt h j
theorem OwnAt.set {w:World} {B g cap:Nat} {L:List Int} (h:OwnAt w B g cap L) (j:Nat) (z:Int):OwnAt (w.setCell ⟨g,j,none⟩ (.int .u64 z)) B g cap (L.set j z):=by
 have:=(World.ownsRow.stored h j (.int .u64 z)).1
 unfold OwnAt
 rw [List.length_set,List.map_set]
 exact this
theorem OwnAt.digs {w:World} {B g cap:Nat} {L:List Int} (h:OwnAt w B g cap L):Digs w (.slice (some ⟨g,0,none⟩) L.length cap) L:=Digs.of_own h
theorem OwnAt.ge {w:World} {B g cap:Nat} {L:List Int} (h:OwnAt w B g cap L):B ≤ g ∧ g < w.heap.size:=World.ownsRow.lt h g rfl
theorem own_cases {w:World} {B:Nat} {v:Value} {L:List Int} (h:w.ownsRow B 73 1 v L.length (L.map (Value.int .u64))) (hl:0 < L.length):∃ g cap,v = .slice (some ⟨g,0,none⟩) L.length cap ∧ OwnAt w B g cap L:=by
 have h':=h
 obtain ⟨h0,h⟩:=h
 rcases h with ⟨h1,h2⟩ | ⟨g,cap,cur,rfl,hg,r⟩
 ·omega
 ·exact ⟨g,cap,rfl,h'⟩
theorem rowSum {x y o h l s:Int} {d:Bool} (e:x * y = h * 18446744073709551616 + l) (e2:s + (if d = true then 18446744073709551616 else 0) = l + o + (if false = true then 1 else 0)) (x0:0 ≤ x) (x1:x ≤ 18446744073709551615) (y0:0 ≤ y) (y1:y ≤ 18446744073709551615)
 (h0:0 ≤ h) (l0:0 ≤ l) (o0:0 ≤ o) (o1:o ≤ 18446744073709551615) (s0:0 ≤ s) (s1:s ≤ 18446744073709551615):(h + (if d = true then 1 else 0)) * 18446744073709551616 + s = x * y + o ∧ h + (if d = true then 1 else 0) ≤ 18446744073709551615:=by
 have m1:x * y ≤ 18446744073709551615 * y:=Int.mul_le_mul_of_nonneg_right x1 y0
 cases d <;> simp at e2 ⊢ <;> omega
theorem Tryz.row (x y o:Int) (w:World) (x0:0 ≤ x) (x1:x ≤ 18446744073709551615) (y0:0 ≤ y) (y1:y ≤ 18446744073709551615) (o0:0 ≤ o) (o1:o ≤ 18446744073709551615) :
 Calls Tryz.prog 140 #[.int .u64 x,.int .u64 y,.int .u64 o] w fun e w'=>(∃ h l,h * 18446744073709551616 + l = x * y + o ∧ 0 ≤ h ∧ h ≤ 18446744073709551615 ∧ 0 ≤ l ∧ l ≤ 18446744073709551615 ∧ e = .returned (.tuple #[.int .u64 h,.int .u64 l])) ∧ w' = w:=by
 go_enter Tryz.func140,Tryz.ntmps140
 go_wp2_with (first
  |(go_at_call 43; refine (Tryz.Mul _ _ _ x0 x1 y0 y1).mono ?_; rintro e w' ⟨⟨h,l,he,h0,h1,l0,l1,rfl⟩,rfl⟩; have HE:Hid (x * y = h * 18446744073709551616 + l):=he; clear he)
  |(go_at_call 176; refine (Tryz.AddX _ _ _ _ l0 l1 o0 o1).mono ?_; rintro e w' ⟨⟨s,d,hs,s0,s1,rfl⟩,rfl⟩; have HS:=rowSum HE.out hs x0 x1 y0 y1 h0 l0 o0 o1 s0 s1; clear hs))
 ·have hd:d = true:=by assumption
  rw [hd] at HS
  simp only [if_true] at HS
  have hw:IntKind.u64.wrap (h + 1) = h + 1:=by rw [u64w]; omega
  go_ret2
  exact ⟨⟨h + 1,s,HS.1,by omega,HS.2,s0,s1,by rw [hw]; rfl⟩,rfl⟩
 ·have hd:d = false:=by assumption
  rw [hd] at HS
  simp at HS
  go_ret2
  exact ⟨⟨h,s,HS.1,h0,h1,s0,s1,rfl⟩,rfl⟩
/-- What holds at the head of pushed's loop: by M and over, k words done. -/
structure PushAt (xs:List Int) (M o0:Int) (k:Nat) (o:Int) (L:List Int):Prop where
 len:L.length = xs.length
 dig:Dig L
 rest:∀ j,k ≤ j → L.getD j 0 = xs.getD j 0
 sum:val (L.take k) + 18446744073709551616 ^ k * o = val (xs.take k) * M + o0
 o0:0 ≤ o
 o1:o ≤ 18446744073709551615
theorem Dig.set {L:List Int} (h:Dig L) (k:Nat) {z:Int} (z0:0 ≤ z) (z1:z ≤ 18446744073709551615):Dig (L.set k z):=by
 refine Dig.of_get fun j hj=>?_
 by_cases e:k = j
 ·subst e; rw [getD_set_self _ (by simpa using hj)]; exact ⟨z0,z1⟩
 ·rw [getD_set_ne _ e]; exact h.get j
theorem take_set_same (L:List Int) (k:Nat) (z:Int):(L.set k z).take k = L.take k:=by
 rw [List.take_set,List.set_eq_of_length_le (by rw [List.length_take]; omega)]
theorem PushAt.step {xs L:List Int} {M o0 o hi lo:Int} {k:Nat} (h:PushAt xs M o0 k o L) (hk:k < xs.length) (e:hi * 18446744073709551616 + lo = xs.getD k 0 * M + o)
 (h0:0 ≤ hi) (h1:hi ≤ 18446744073709551615) (l0:0 ≤ lo) (l1:lo ≤ 18446744073709551615):PushAt xs M o0 (k + 1) hi (L.set k lo):=by
 have hl:=h.len
 refine ⟨by rw [List.length_set]; exact hl,h.dig.set k l0 l1,fun j hj=>by rw [getD_set_ne _ (by omega)]; exact h.rest j (by omega),?_,h0,h1⟩
 rw [val_take_succ _ _ (by rw [List.length_set]; omega),take_set_same,getD_set_self _ (by omega),val_take_succ _ _ hk,Int.add_mul,Int.mul_assoc,Int.add_assoc,Int.pow_succ,Int.mul_assoc,← Int.mul_add]
 have e2:lo + 18446744073709551616 * hi = xs.getD k 0 * M + o:=by omega
 rw [e2,Int.mul_add]
 have:=h.sum
 omega
theorem own_slice {w:World} {B:Nat} {v:Value} {L:List Int} (h:w.ownsRow B 73 1 v L.length (L.map (Value.int .u64))):∃ p cap,v = .slice p L.length cap ∧ (0 < L.length → ∃ g,p = some ⟨g,0,none⟩ ∧ OwnAt w B g cap L):=by
 by_cases hl:0 < L.length
 ·obtain ⟨g,cap,rfl,ho⟩:=own_cases h hl
  exact ⟨_,cap,rfl,fun _=>⟨g,rfl,ho⟩⟩
 ·obtain ⟨h0,h⟩:=h
  rcases h with ⟨rfl,hz⟩ | ⟨g,cap,cur,rfl,_⟩
  ·exact ⟨none,0,by rw [hz],fun h=>absurd h hl⟩
  ·exact ⟨_,cap,rfl,fun h=>absurd h hl⟩
theorem Tryz.pushed (v:Value) (xs:List Int) (o:Int) (B:Nat) (w:World) (h:w.ownsRow B 73 1 v xs.length (xs.map (Value.int .u64))) (hB:B ≤ w.heap.size) (hx:Dig xs) (o0:0 ≤ o) (o1:o ≤ 18446744073709551615) (hlen:xs.length ≤ 1000000000000) :
 Calls Tryz.prog 95 #[v,.int .u64 o] w fun e w'=>(∃ v' L,e = .returned v' ∧ w'.ownsRow B 73 1 v' L.length (L.map (Value.int .u64)) ∧ Dig L ∧ L.length = xs.length + 1 ∧ val L = val xs * 10000000000000000000 + o) ∧ Below B w w':=by
 obtain ⟨i0,hi,hz0,hz1,hz2⟩:=info_parts Tryz.info73
 obtain ⟨p,cap,rfl,ho⟩:=own_slice h
 obtain ⟨n,hn⟩:∃ n,xs.length = n:=⟨_,rfl⟩
 have HO:Hid (w.ownsRow B 73 1 (.slice p n cap) n (xs.map (Value.int .u64))):=by rw [← hn]; exact h
 have HG:Hid (0 < n → ∃ g,p = some ⟨g,0,none⟩ ∧ B ≤ g):=fun hl=>by
  obtain ⟨g,hg,hog⟩:=ho (by omega)
  exact ⟨g,hg,hog.ge.1⟩
 rw [hn] at hlen
 rw [hn]
 clear h ho
 go_enter Tryz.func95,Tryz.ntmps95
 go_wp2
 go_loopw [1,9] (fun ov i wr=>∃ (k:Nat) (a:Int) (L:List Int),ov = .int .u64 a ∧ i = .int .i64 k ∧ k ≤ n ∧ PushAt xs 10000000000000000000 o k a L ∧ wr.ownsRow B 73 1 (.slice p n cap) n (L.map (Value.int .u64)) ∧ Below B w wr) (fun _ i _=>n - (intOf i).toNat)
 case atStart=>exact ⟨0,o,xs,rfl,rfl,by omega,⟨rfl,hx,fun j _=>rfl,by simp,o0,o1⟩,HO.out,Below.refl _ _⟩
 case round=>
  obtain ⟨k,a,L,rfl,rfl,hk,hat,hown,hb⟩:=hrel
  have HA:Hid (PushAt xs 10000000000000000000 o k a L):=hat
  have HB:Hid (Below B w wr):=hb
  have HW:Hid (wr.ownsRow B 73 1 (.slice p n cap) n (L.map (Value.int .u64))):=hown
  have hLn:L.length = n:=by rw [hat.len,hn]
  have a0:=hat.o0
  have a1:=hat.o1
  have hsz:=hb.size
  by_cases hkn:k = n
  ·subst hkn
   clear hat hb
   go_wp2_with (first
    |(at_builtin; refine wpList_append_own _ rfl _ _ 139 rfl B 73 i0 (.int .u64 0) 1 8 Tryz.underlying139 hi hz0 hz1 hz2 rfl (by decide) _ _ _ rfl (hown.alloc _) ⟨wr.heap.size,0,none⟩ 1 1 [.int .u64 a] rfl rfl ?c1 ?c2 ?c3 ?c4 ?c5 ?_))
   case c1=>
    intro j u hj
    match j,hj with
    | 0,hj=>simp at hj; subst hj; simp [Addr.add]
   case c2=>intro u hu; rw [List.mem_singleton.1 hu]; rfl
   case c3=>unfold maxLen; omega
   case c4=>omega
   case c5=>simp; omega
   intro v' w1 hown' hgrow _
   have HO1:Hid (w1.ownsRow B 73 1 v' (L ++ [a]).length ((L ++ [a]).map (Value.int .u64))):=by
    have h:=hown'
    show World.ownsRow _ _ _ _ _ _ _
    rw [List.length_append,hLn,List.map_append]
    exact h
   have HB1:Hid (Below B w w1):=(HB.out.alloc (by omega) _).grown hgrow (by simp; omega) (fun k hk=>(World.ownsRow.lt hown k hk).1)
   have HV:Hid (val (L ++ [a]) = val xs * 10000000000000000000 + o):=by
    have hs:=HA.out.sum
    rw [List.take_of_length_le (by omega),List.take_of_length_le (by omega)] at hs
    show _ = _
    rw [val_snoc,hLn]; exact hs
   have HD:Hid (Dig (L ++ [a])):=HA.out.dig.append (fun d hd=>by rw [List.mem_singleton.1 hd]; exact ⟨a0,a1⟩)
   clear hown' hgrow hown
   go_wp2
   go_ret
   exact ⟨⟨_,L ++ [a],rfl,HO1.out,HD.out,by rw [List.length_append,hLn]; rfl,HV.out⟩,HB1.out⟩
  ·obtain ⟨g,rfl,hBg⟩:=HG.out (by omega)
   obtain ⟨x,hxk⟩:∃ x,L.getD k 0 = x:=⟨_,rfl⟩
   have hOA:OwnAt wr B g cap L:=by unfold OwnAt; rw [hLn]; exact hown
   have hcx:=hOA.cell (j:=k) (by omega)
   have hfr:=hOA.frozen k
   have hxd:=hat.dig.get k
   rw [hxk] at hcx hxd
   have HX:Hid (xs.getD k 0 = x):=by rw [← hxk]; exact (hat.rest k (Nat.le_refl _)).symm
   have HOA:Hid (OwnAt wr B g cap L):=hOA
   clear hat hb hown hOA hxk HG
   go_wp2_with (go_at_call 140; refine (Tryz.row x 10000000000000000000 a _ hxd.1 hxd.2 (by omega) (by omega) a0 a1).mono ?_; rintro e w' ⟨⟨hi',lo,he,h0,h1,l0,l1,rfl⟩,rfl⟩; have HE:Hid (hi' * 18446744073709551616 + lo = x * 10000000000000000000 + a):=he; clear he)
   have HW2:Hid ((w'.setCell ⟨g,k,none⟩ (.int .u64 lo)).ownsRow B 73 1 (.slice (some ⟨g,0,none⟩) n cap) n ((L.set k lo).map (Value.int .u64))):=by
    have h:=HOA.out.set k lo
    unfold OwnAt at h
    rw [List.length_set,hLn] at h
    exact h
   have HST:Hid (PushAt xs 10000000000000000000 o (k + 1) hi' (L.set k lo)):=HA.out.step (by omega) (by rw [HX.out]; exact HE.out) h0 h1 l0 l1
   exact ⟨⟨k + 1,hi',L.set k lo,rfl,by simp,by omega,HST.out,HW2.out,HB.out.setCell hBg _⟩,by simp [intOf]; omega⟩
end Go.Proofs.Wd
