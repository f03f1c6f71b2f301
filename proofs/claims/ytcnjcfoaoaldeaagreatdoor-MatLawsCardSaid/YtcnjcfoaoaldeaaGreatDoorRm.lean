/- Numbers by digits of ten thousand, as the documents' answers have them: what trim, OfU and Cmp of the reference return (for a seat that has no Add). What Mul of the reference returns (for a seat that has no Add). -/
import Derived.Test.YtcnjcfoaoaldeaaGreatDoorProg
import Derived.Lib.Strings
import Derived.Lib.Slices
import Derived.Lib.Small
import Derived.Lib.Walk
import Derived.Lib.BitFns
import Derived.Laws.Shifts
import Derived.Below
import Derived.Deep.QuietTactic
import Derived.BigQuiet
import Derived.Outline
import Derived.LoopTactic
import Derived.Laws.Rows
import Derived.Laws.Tables
import Derived.Laws.OwnMore
import Derived.OwnWalk
set_option linter.unusedVariables false
set_option maxHeartbeats 8000000
set_option maxRecDepth 100000
namespace Go.Proofs
open Go.RowKit
/-- The number that digits of ten thousand show, the lowest first. -/
def val:List Int → Int
 | []=>0
 | d :: l=>d + 10000 * val l
/-- Digits. -/
def Dig (l:List Int):Prop:=∀ d ∈ l,0 ≤ d ∧ d ≤ 9999
@[simp] theorem val_nil:val [] = 0:=rfl
theorem val_cons (d:Int) (l:List Int):val (d :: l) = d + 10000 * val l:=rfl
theorem val_append (a b:List Int):val (a ++ b) = val a + 10000 ^ a.length * val b:=by
 induction a with
 | nil=>simp
 | cons d l ih =>
   simp only [List.cons_append,val_cons,ih,List.length_cons,Int.pow_succ]
   rw [Int.mul_add,Int.add_assoc,← Int.mul_assoc,Int.mul_comm 10000 (10000 ^ l.length)]
theorem val_snoc (a:List Int) (d:Int):val (a ++ [d]) = val a + 10000 ^ a.length * d:=by
 rw [val_append,val_cons]; simp
theorem val_zeros (n:Nat):val (List.replicate n 0) = 0:=by
 induction n with
 | zero=>rfl
 | succ n ih=>rw [List.replicate_succ,val_cons,ih]; rfl
theorem val_set (l:List Int) (j:Nat) (v:Int) (h:j < l.length):val (l.set j v) = val l + 10000 ^ j * (v - l.getD j 0):=by
 induction l generalizing j with
 | nil=>simp at h
 | cons d l ih =>
   cases j with
   | zero=>simp [val_cons]; omega
   | succ j =>
     simp only [List.set_cons_succ,val_cons,List.getD_cons_succ,Int.pow_succ]
     rw [ih j (by simpa using h),Int.mul_add,Int.add_assoc,← Int.mul_assoc,Int.mul_comm 10000 (10000 ^ j)]
theorem Dig.nil:Dig []:=fun _ h=>by simp at h
theorem Dig.tail {d:Int} {l:List Int} (h:Dig (d :: l)):Dig l:=fun x hx=>h x (List.mem_cons_of_mem _ hx)
theorem Dig.head {d:Int} {l:List Int} (h:Dig (d :: l)):0 ≤ d ∧ d ≤ 9999:=h d (by simp)
theorem Dig.append {a b:List Int} (h:Dig a) (k:Dig b):Dig (a ++ b):=fun x hx=>by
 rcases List.mem_append.1 hx with g | g
 ·exact h x g
 ·exact k x g
theorem Dig.take {l:List Int} (h:Dig l) (n:Nat):Dig (l.take n):=fun x hx=>h x (List.mem_of_mem_take hx)
theorem Dig.drop {l:List Int} (h:Dig l) (n:Nat):Dig (l.drop n):=fun x hx=>h x (List.mem_of_mem_drop hx)
theorem Dig.get {l:List Int} (h:Dig l) (j:Nat):0 ≤ l.getD j 0 ∧ l.getD j 0 ≤ 9999:=by
 by_cases g:j < l.length
 ·have:=h l[j] (List.getElem_mem g)
  simpa [List.getD,g] using this
 ·have:l[j]? = none:=by simp; omega
  simp [List.getD,this]
theorem Dig.of_get {l:List Int} (h:∀ j,j < l.length → 0 ≤ l.getD j 0 ∧ l.getD j 0 ≤ 9999):Dig l:=by
 intro x hx
 obtain ⟨j,hj,rfl⟩:=List.mem_iff_getElem.1 hx
 have:=h j hj
 simpa [List.getD,hj] using this
theorem pow_pos' (n:Nat):(0:Int) < 10000 ^ n:=Int.pow_pos (by omega)
theorem val_nonneg {l:List Int} (h:Dig l):0 ≤ val l:=by
 induction l with
 | nil=>simp
 | cons d l ih=>have:=ih h.tail; have:=h.head; rw [val_cons]; omega
theorem val_lt {l:List Int} (h:Dig l):val l < 10000 ^ l.length:=by
 induction l with
 | nil=>simp
 | cons d l ih=>have:=ih h.tail; have:=h.head; rw [val_cons,List.length_cons,Int.pow_succ]; omega
/-- Of the digits from place k on. -/
theorem val_drop (l:List Int) (k:Nat):val (l.drop k) = l.getD k 0 + 10000 * val (l.drop (k + 1)):=by
 by_cases h:k < l.length
 ·rw [List.drop_eq_getElem_cons h,val_cons]
  simp [List.getD,h]
 ·rw [List.drop_eq_nil_of_le (by omega),List.drop_eq_nil_of_le (by omega)]
  have:l[k]? = none:=by simp; omega
  simp [List.getD,this]
theorem val_take_drop (l:List Int) (k:Nat) (h:k ≤ l.length):val l = val (l.take k) + 10000 ^ k * val (l.drop k):=by
 conv=>lhs; rw [← List.take_append_drop k l]
 rw [val_append,List.length_take,Nat.min_eq_left h]
theorem val_take_succ (l:List Int) (k:Nat) (h:k < l.length):val (l.take (k + 1)) = val (l.take k) + 10000 ^ k * l.getD k 0:=by
 rw [List.take_add_one,List.getElem?_eq_getElem h]
 simp only [Option.toList_some]
 rw [val_snoc,List.length_take,Nat.min_eq_left (by omega)]
 simp [List.getD,h]
/-- No nought above. -/
def Top (l:List Int):Prop:=l = [] ∨ l.getD (l.length - 1) 0 ≠ 0
theorem top_pos {l:List Int} (h:Dig l) (t:Top l) (hl:l ≠ []):10000 ^ (l.length - 1) ≤ val l:=by
 have hn:0 < l.length:=by cases l with | nil=>exact absurd rfl hl | cons=>simp
 rcases t with t | t
 ·exact absurd t hl
 ·rw [val_take_drop l (l.length - 1) (by omega),val_drop]
  have a:=val_nonneg (h.take (l.length - 1))
  have b:=h.get (l.length - 1)
  have c:=val_nonneg (h.drop (l.length - 1 + 1))
  have p:=pow_pos' (l.length - 1)
  have:10000 ^ (l.length - 1) * 1 ≤ 10000 ^ (l.length - 1) * (l.getD (l.length - 1) 0 + 10000 * val (l.drop (l.length - 1 + 1))):=Int.mul_le_mul_of_nonneg_left (by omega) (by omega)
  omega
/-- The slice v holds the digits xs in world w. -/
def Digs (w:World) (v:Value) (xs:List Int):Prop:=w.ownsRow 0 3 1 v xs.length (xs.map (Value.int .i64))
theorem Digs.nil (w:World):Digs w (.slice none 0 0) []:=World.ownsRow_nil _ _ _ _
/-- What a walk asks of digits. -/
structure RowAt (w:World) (g:Nat) (cap:Nat) (xs:List Int):Prop where
 lt:g < w.heap.size
 fits:xs.length ≤ cap
 max:cap ≤ maxLen
 cells:∀ j,j < xs.length → w.cell? ⟨g,j,none⟩ = some (.int .i64 (xs.getD j 0))
theorem Digs.cases {w:World} {v:Value} {xs:List Int} (h:Digs w v xs):(v = .slice none 0 0 ∧ xs = []) ∨ ∃ g cap,v = .slice (some ⟨g,0,none⟩) xs.length cap ∧ RowAt w g cap xs:=by
 obtain ⟨h0,h⟩:=h
 rcases h with ⟨rfl,h⟩ | ⟨g,cap,cur,rfl,hg,hh,hn,hc,hs,ht⟩
 ·exact .inl ⟨rfl,List.length_eq_zero_iff.1 h⟩
 ·refine .inr ⟨g,cap,rfl,(Array.getElem?_eq_some_iff.1 hh).1,hn,hc,fun j hj=>?_⟩
  rw [cell_of_row _ _ _ _ _ _ hh]
  have e:cur.toList[j]? = (xs.map (Value.int .i64))[j]?:=by
   rw [← ht,List.getElem?_take_of_lt (by omega)]
  rw [Array.getElem?_toList] at e
  rw [e,List.getElem?_map,List.getElem?_eq_getElem hj]
  simp [List.getD,hj]
theorem Digs.below {w w':World} {v:Value} {xs:List Int} {B:Nat} (h:Digs w v xs) (hb:Below B w w') (hB:w.heap.size ≤ B):Digs w' v xs:=by
 obtain ⟨h0,h⟩:=h
 refine ⟨h0,?_⟩
 rcases h with h | ⟨g,cap,cur,h1,hg,hh,r⟩
 ·exact .inl h
 ·have hlt:=(Array.getElem?_eq_some_iff.1 hh).1
  exact .inr ⟨g,cap,cur,h1,hg,by rw [hb.block g (by omega)]; exact hh,r⟩
theorem Digs.take {w:World} {g cap:Nat} {xs:List Int} (h:Digs w (.slice (some ⟨g,0,none⟩) xs.length cap) xs) (k:Nat) (hk:k ≤ xs.length):Digs w (.slice (some ⟨g,0,none⟩) k cap) (xs.take k):=by
 obtain ⟨h0,h⟩:=h
 have hl:(xs.take k).length = k:=by simp; omega
 refine ⟨by simp,?_⟩
 rcases h with h | ⟨g',cap',cur,h1,hg,hh,hn,hc,hs,ht⟩
 ·simp at h
 ·simp only [Value.slice.injEq,Option.some.injEq,Addr.mk.injEq,and_true,true_and] at h1
  obtain ⟨rfl,rfl⟩:=h1
  refine .inr ⟨g,cap,cur,by rw [hl],hg,hh,by omega,hc,hs,?_⟩
  have:(cur.toList.take (xs.length * 1)).take k = (xs.map (Value.int .i64)).take k:=by rw [ht]
  rw [List.take_take,Nat.min_eq_left (by omega)] at this
  rw [hl,Nat.mul_one,this,List.map_take]
theorem top_take {xs:List Int} {k:Nat} (hk:k ≤ xs.length) (h:k = 0 ∨ xs.getD (k - 1) 0 ≠ 0):Top (xs.take k):=by
 by_cases k0:k = 0
 ·subst k0; exact .inl (by simp)
 ·have h:=h.resolve_left k0
  refine .inr ?_
  have hl:(xs.take k).length = k:=by simp; omega
  rw [hl]
  have e:(xs.take k).getD (k - 1) 0 = xs.getD (k - 1) 0:=by
   simp only [List.getD]
   rw [List.getElem?_take_of_lt (by omega)]
  rw [e]; exact h
/-- v holds the digits xs without the noughts above. -/
def TrimOf (w:World) (v:Value) (xs:List Int):Prop:=∃ k,k ≤ xs.length ∧ Digs w v (xs.take k) ∧ Top (xs.take k) ∧ val (xs.take k) = val xs
theorem Tryz.rTrim (v:Value) (xs:List Int) (w:World) (h:Digs w v xs) :
 Calls Tryz.prog 119 #[v] w fun e w'=>(∃ v',e = .returned v' ∧ TrimOf w v' xs) ∧ w' = w:=by
 rcases h.cases with ⟨rfl,rfl⟩ | ⟨g,cap,rfl,hr⟩
 ·go_enter Tryz.func119,Tryz.ntmps119
  go_wp2
  go_loop [3] (fun n=>n = .int .i64 0) (fun n=>0)
  case atStart=>rfl
  case round=>
   subst hrel
   go_wp2
   go_ret
   exact ⟨⟨_,rfl,0,by simp,Digs.nil _,.inl rfl,rfl⟩,rfl⟩
 ·have HD:Hid (Digs w (.slice (some ⟨g,0,none⟩) xs.length cap) xs):=h
  obtain ⟨hlt,hfits,hmax,hcells⟩:=hr
  unfold maxLen at hmax
  clear h
  go_enter Tryz.func119,Tryz.ntmps119
  go_wp2
  go_loop [3] (fun n=>∃ k:Nat,k ≤ xs.length ∧ n = .int .i64 k ∧ val (xs.take k) = val xs) (fun n=>(intOf n).toNat)
  case atStart=>exact ⟨xs.length,Nat.le_refl _,rfl,by simp⟩
  case round=>
   obtain ⟨k,hk,rfl,hv⟩:=hrel
   have HV:Hid (val (xs.take k) = val xs):=hv
   clear hv
   cases k with
   | zero =>
     clear hcells
     go_wp2
     go_ret
     exact ⟨⟨_,rfl,0,by omega,HD.out.take 0 (by omega),top_take (by omega) (.inl rfl),HV.out⟩,rfl⟩
   | succ k =>
     have hc:=hcells k (by omega)
     clear hcells
     obtain ⟨d,hd⟩:∃ d,xs.getD k 0 = d:=⟨_,rfl⟩
     rw [hd] at hc
     have hD:Hid (xs.getD k 0 = d):=hd
     clear hd
     have hcase:(d == 0) = true ∨ (d == 0) = false:=by cases (d == 0) <;> simp
     rcases hcase with h0 | h0
     ·have hd0:d = 0:=by simpa using h0
      go_wp2
      exact ⟨⟨k,by omega,rfl,by rw [← HV.out,val_take_succ _ _ (by omega),hD.out,hd0]; simp⟩,by simp [intOf]⟩
     ·have hd0:d ≠ 0:=by simpa using h0
      go_wp2
      go_ret
      exact ⟨⟨_,rfl,k + 1,hk,HD.out.take _ hk,top_take hk (.inr (by rw [Nat.add_sub_cancel,hD.out]; exact hd0)),HV.out⟩,rfl⟩
/-- v holds the number z, by at most n digits. -/
def NumIs (w:World) (v:Value) (z:Int) (n:Nat):Prop:=∃ xs,Digs w v xs ∧ Dig xs ∧ Top xs ∧ val xs = z ∧ xs.length ≤ n
theorem Tryz.info3:(Tryz.prog.info? 3).map (fun i=>(i.zero,i.size,i.bytes)) = some (some (.int .i64 0),1,8):=by kernel_rfl
theorem Digs.of_own {w:World} {B:Nat} {v:Value} {xs:List Int} (h:w.ownsRow B 3 1 v xs.length (xs.map (Value.int .i64))):Digs w v xs:=by
 obtain ⟨h0,h⟩:=h
 refine ⟨h0,?_⟩
 rcases h with h | ⟨g,cap,cur,h1,hg,r⟩
 ·exact .inl h
 ·exact .inr ⟨g,cap,cur,h1,by omega,r⟩
theorem Digs.slice {w:World} {v:Value} {xs:List Int} (h:Digs w v xs):∃ p cap,v = .slice p xs.length cap ∧ xs.length ≤ 9223372036854775807 ∧ (0 < xs.length → ∃ g,p = some ⟨g,0,none⟩ ∧ RowAt w g cap xs):=by
 rcases h.cases with ⟨rfl,rfl⟩ | ⟨g,cap,rfl,hr⟩
 ·exact ⟨none,0,rfl,by simp,fun h=>by simp at h⟩
 ·exact ⟨_,cap,rfl,by have:=hr.fits; have:=hr.max; unfold maxLen at this; omega,fun _=>⟨g,rfl,hr⟩⟩
theorem pow_mono' {i j:Nat} (h:i ≤ j):(10000:Int) ^ i ≤ 10000 ^ j:=by
 have e:(10000:Int) ^ j = 10000 ^ i * 10000 ^ (j - i):=by rw [← Int.pow_add,show i + (j - i) = j by omega]
 have h1:=pow_pos' (j - i)
 have h2:(10000:Int) ^ i * 1 ≤ 10000 ^ i * 10000 ^ (j - i):=Int.mul_le_mul_of_nonneg_left (by omega) (by have:=pow_pos' i; omega)
 omega
theorem val_parts (l:List Int) (k:Nat):val l = val (l.take k) + 10000 ^ k * val (l.drop k):=by
 by_cases h:k ≤ l.length
 ·exact val_take_drop l k h
 ·rw [List.take_of_length_le (by omega),List.drop_eq_nil_of_le (by omega)]; simp
theorem take_lt {l:List Int} (h:Dig l) (k:Nat):val (l.take k) < 10000 ^ k:=
 Int.lt_of_lt_of_le (val_lt (h.take k)) (pow_mono' (by rw [List.length_take]; omega))
theorem lt_of_drop {xs ys:List Int} (hx:Dig xs) (hy:Dig ys) (k:Nat) (h:val (xs.drop k) < val (ys.drop k)):val xs < val ys:=by
 rw [val_parts xs k,val_parts ys k]
 have h1:=take_lt hx k
 have h2:=val_nonneg (hy.take k)
 have h3:(10000:Int) ^ k * (val (xs.drop k) + 1) ≤ 10000 ^ k * val (ys.drop k):=Int.mul_le_mul_of_nonneg_left (by omega) (by have:=pow_pos' k; omega)
 rw [Int.mul_add] at h3
 omega
/-- The order of two numbers, as Cmp tells it. -/
def cmpI (a b:Int):Int:=if a < b then -1 else if b < a then 1 else 0
theorem cmpI_lt {a b:Int} (h:a < b):cmpI a b = -1:=by unfold cmpI; rw [if_pos h]
theorem cmpI_gt {a b:Int} (h:b < a):cmpI a b = 1:=by unfold cmpI; rw [if_neg (by omega),if_pos h]
theorem cmpI_eq {a b:Int} (h:a = b):cmpI a b = 0:=by unfold cmpI; rw [if_neg (by omega),if_neg (by omega)]
theorem getD_over {l:List Int} {k:Nat} (h:¬ k < l.length):l.getD k 0 = 0:=by
 have:l[k]? = none:=by simp; omega
 simp [List.getD,this]
theorem Tryz.rCmp (v u:Value) (xs ys:List Int) (w:World) (hv:Digs w v xs) (hu:Digs w u ys) (hx:Dig xs) (hy:Dig ys) :
 Calls Tryz.prog 61 #[v,u] w fun e w'=>e = .returned (.int .i64 (cmpI (val xs) (val ys))) ∧ w' = w:=by
 obtain ⟨p,cap,rfl,hxl,hxr⟩:=hv.slice
 obtain ⟨q,dap,rfl,hyl,hyr⟩:=hu.slice
 have HX:Hid (0 < xs.length → ∃ g,p = some ⟨g,0,none⟩ ∧ RowAt w g cap xs):=hxr
 have HY:Hid (0 < ys.length → ∃ g,q = some ⟨g,0,none⟩ ∧ RowAt w g dap ys):=hyr
 clear hxr hyr hv hu
 go_enter Tryz.func61,Tryz.ntmps61
 go_wp2
 go_loop [5] (fun n=>∃ k:Nat,n = .int .i64 (k - 1) ∧ (k:Int) ≤ max xs.length ys.length ∧ val (xs.drop k) = val (ys.drop k)) (fun n=>(intOf n + 1).toNat)
 case atStart=>exact ⟨max xs.length ys.length,by simp; omega,by omega,by rw [List.drop_eq_nil_of_le (by omega),List.drop_eq_nil_of_le (by omega)]⟩
 case round=>
  obtain ⟨k,rfl,hk,he⟩:=hrel
  have HE:Hid (val (xs.drop k) = val (ys.drop k)):=he
  clear he
  cases k with
  | zero =>
    have H0:Hid (cmpI (val xs) (val ys) = 0):=cmpI_eq (by simpa using HE.out)
    go_wp2
    go_ret
    exact ⟨by rw [H0.out]; rfl,rfl⟩
  | succ k =>
    rw [show ((k + 1:Nat):Int) - 1 = k by omega]
    obtain ⟨x,hxk⟩:∃ x,xs.getD k 0 = x:=⟨_,rfl⟩
    obtain ⟨y,hyk⟩:∃ y,ys.getD k 0 = y:=⟨_,rfl⟩
    have HLT:Hid (x < y → cmpI (val xs) (val ys) = -1):=fun h=>cmpI_lt (lt_of_drop hx hy k (by rw [val_drop xs,val_drop ys,hxk,hyk,HE.out]; omega))
    have HGT:Hid (y < x → cmpI (val xs) (val ys) = 1):=fun h=>cmpI_gt (lt_of_drop hy hx k (by rw [val_drop xs,val_drop ys,hxk,hyk,HE.out]; omega))
    have HEQ:Hid (x = y → val (xs.drop k) = val (ys.drop k)):=fun h=>by rw [val_drop xs,val_drop ys,hxk,hyk,HE.out,h]
    by_cases c1:k < xs.length
    ·obtain ⟨g,rfl,hr⟩:=HX.out (by omega)
     have hcx:=hr.cells k c1
     rw [hxk] at hcx
     by_cases c2:k < ys.length
     ·obtain ⟨g',rfl,hr'⟩:=HY.out (by omega)
      have hcy:=hr'.cells k c2
      rw [hyk] at hcy
      clear hr hr' hxk hyk
      go_wp2
      ·go_ret
       exact ⟨by rw [HLT.out (by assumption)]; rfl,rfl⟩
      ·go_ret
       exact ⟨by rw [HGT.out (by assumption)]; rfl,rfl⟩
      ·exact ⟨⟨k,rfl,by omega,HEQ.out (by omega)⟩,by simp [intOf]⟩
     ·have hy0:=getD_over c2
      rw [hyk] at hy0
      subst hy0
      clear hr hxk hyk
      go_wp2
      ·go_ret
       exact ⟨by rw [HLT.out (by assumption)]; rfl,rfl⟩
      ·go_ret
       exact ⟨by rw [HGT.out (by assumption)]; rfl,rfl⟩
      ·exact ⟨⟨k,rfl,by omega,HEQ.out (by omega)⟩,by simp [intOf]⟩
    ·have hx0:=getD_over c1
     rw [hxk] at hx0
     subst hx0
     by_cases c2:k < ys.length
     ·obtain ⟨g',rfl,hr'⟩:=HY.out (by omega)
      have hcy:=hr'.cells k c2
      rw [hyk] at hcy
      clear hr' hxk hyk
      go_wp2
      ·go_ret
       exact ⟨by rw [HLT.out (by assumption)]; rfl,rfl⟩
      ·go_ret
       exact ⟨by rw [HGT.out (by assumption)]; rfl,rfl⟩
      ·exact ⟨⟨k,rfl,by omega,HEQ.out (by omega)⟩,by simp [intOf]⟩
     ·exact absurd hk (by omega)
/-- Block O holds just the numbers L. -/
def RowOf (w:World) (O:Nat) (L:List Int):Prop:=w.heap[O]? = some (.cells (L.map (Value.int .i64)).toArray 3 (0,0))
theorem RowOf.cell {w:World} {O:Nat} {L:List Int} (h:RowOf w O L) {j:Nat} (hj:j < L.length):w.cell? ⟨O,j,none⟩ = some (.int .i64 (L.getD j 0)):=by
 rw [cell_of_row _ _ _ _ _ _ h]
 simp [List.getD,hj]
theorem RowOf.frozen {w:World} {O:Nat} {L:List Int} (h:RowOf w O L) (j:Nat):w.frozen? ⟨O,j,none⟩ = false:=frozen_of_row _ _ j _ _ h
theorem RowOf.set {w:World} {O:Nat} {L:List Int} (h:RowOf w O L) (j:Nat) (z:Int):RowOf (w.setCell ⟨O,j,none⟩ (.int .i64 z)) O (L.set j z):=by
 unfold RowOf
 rw [heap_setCell_same _ _ _ _ _ _ h]
 congr 2
 apply Array.ext'
 simp [List.map_set]
theorem RowOf.below {w w':World} {O B:Nat} {L:List Int} (h:RowOf w O L) (hb:Below B w w') (hO:O < B):RowOf w' O L:=by
 unfold RowOf; rw [hb.block O hO]; exact h
theorem RowOf.drew {w:World} {O:Nat} {L:List Int} (h:RowOf w O L):RowOf w.drew O L:=h
theorem RowOf.of_made {w:World} {B g n:Nat} (h:w.ownsRow B 3 1 (.slice (some ⟨g,0,none⟩) n n) n (List.replicate n (.int .i64 0))):RowOf w g (List.replicate n 0):=by
 obtain ⟨h0,h⟩:=h
 rcases h with h | ⟨g',cap,cur,h1,hg,hh,hn,hc,hs,ht⟩
 ·simp at h
 ·simp only [Value.slice.injEq,Option.some.injEq,Addr.mk.injEq,and_true,true_and] at h1
  obtain ⟨rfl,rfl⟩:=h1
  unfold RowOf
  rw [hh]
  have:cur.toList.take (n * 1) = cur.toList:=List.take_of_length_le (by simp; omega)
  rw [List.map_replicate]
  congr 2
  apply Array.ext'
  rw [← this,ht]
theorem RowOf.digs {w:World} {O:Nat} {L:List Int} (h:RowOf w O L) (hl:L.length ≤ maxLen):Digs w (.slice (some ⟨O,0,none⟩) L.length L.length) L:=by
 refine ⟨by simp,.inr ⟨O,L.length,_,rfl,by omega,h,Nat.le_refl _,hl,by simp,?_⟩⟩
 rw [Nat.mul_one]; exact List.take_of_length_le (by simp)
theorem RowOf.lt {w:World} {O:Nat} {L:List Int} (h:RowOf w O L):O < w.heap.size:=(Array.getElem?_eq_some_iff.1 h).1
theorem getD_set_self {L:List Int} {k:Nat} (z:Int) (h:k < L.length):(L.set k z).getD k 0 = z:=by
 simp [List.getD,h]
theorem getD_set_ne {L:List Int} {k j:Nat} (z:Int) (h:k ≠ j):(L.set k z).getD j 0 = L.getD j 0:=by
 simp [List.getD,h]
theorem set_same {L:List Int} {k:Nat} (h:k < L.length):L.set k (L.getD k 0) = L:=by
 apply List.ext_getElem?
 intro j
 rw [List.getElem?_set]
 by_cases e:k = j
 ·subst e; simp [h,List.getD]
 ·rw [if_neg e]
theorem val_take_next (l:List Int) (k:Nat):val (l.take (k + 1)) = val (l.take k) + 10000 ^ k * l.getD k 0:=by
 by_cases h:k < l.length
 ·exact val_take_succ l k h
 ·rw [List.take_of_length_le (by omega),List.take_of_length_le (by omega),getD_over h]; simp
/-- What holds in the middle of Mul's rows. -/
structure MulAt (xs ys:List Int) (i k:Nat) (L:List Int):Prop where
 len:L.length = xs.length + ys.length + 1
 low:∀ j,j ≠ i + k → 0 ≤ L.getD j 0 ∧ L.getD j 0 ≤ 10000
 mid:0 ≤ L.getD (i + k) 0 ∧ L.getD (i + k) 0 ≤ 20000
 top:k = ys.length → L.getD (i + k) 0 ≤ 10000
 zero:∀ j,i + ys.length ≤ j → (k < ys.length ∨ i + ys.length < j) → L.getD j 0 = 0
 sum:val L = val (xs.take i) * val ys + xs.getD i 0 * 10000 ^ i * val (ys.take k)
theorem MulAt.row {xs ys L:List Int} {i:Nat} (h:MulAt xs ys i ys.length L) (hi:i < xs.length):MulAt xs ys (i + 1) 0 L:=by
 refine ⟨h.len,fun j hj=>?_,?_,fun hk=>?_,fun j hj hk=>?_,?_⟩
 ·by_cases e:j = i + ys.length
  ·subst e; exact ⟨h.mid.1,h.top rfl⟩
  ·exact h.low j e
 ·by_cases e:i + 1 + 0 = i + ys.length
  ·rw [e]; exact h.mid
  ·have:=h.low _ e; omega
 ·by_cases e:i + 1 + 0 = i + ys.length
  ·rw [e]; exact h.top rfl
  ·exact (h.low _ e).2
 ·exact h.zero j (by omega) (by omega)
 ·rw [h.sum,List.take_of_length_le (Nat.le_refl _),val_take_next,List.take_zero,val_nil,Int.mul_zero,Int.add_zero,Int.add_mul,Int.mul_comm (xs.getD i 0)]
theorem MulAt.step {xs ys L:List Int} {i k:Nat} (h:MulAt xs ys i k L) (hi:i < xs.length) (hk:k < ys.length) (T:Int) (hT:L.getD (i + k) 0 + xs.getD i 0 * ys.getD k 0 = T) (h0:0 ≤ T) (h1:T ≤ 100000001) :
 MulAt xs ys i (k + 1) (((L.set (i + k) T).set (i + k + 1) (L.getD (i + k + 1) 0 + T / 10000)).set (i + k) (T % 10000)):=by
 have hl:=h.len
 have hd:=h.low (i + k + 1) (by omega)
 have z:∀ j,j ≠ i + k → j ≠ i + k + 1 → (((L.set (i + k) T).set (i + k + 1) (L.getD (i + k + 1) 0 + T / 10000)).set (i + k) (T % 10000)).getD j 0 = L.getD j 0:=fun j a b=>by
  rw [getD_set_ne _ (by omega),getD_set_ne _ (by omega),getD_set_ne _ (by omega)]
 have z0:(((L.set (i + k) T).set (i + k + 1) (L.getD (i + k + 1) 0 + T / 10000)).set (i + k) (T % 10000)).getD (i + k) 0 = T % 10000:=getD_set_self _ (by simp only [List.length_set]; omega)
 have z1:(((L.set (i + k) T).set (i + k + 1) (L.getD (i + k + 1) 0 + T / 10000)).set (i + k) (T % 10000)).getD (i + k + 1) 0 = L.getD (i + k + 1) 0 + T / 10000:=by
  rw [getD_set_ne _ (by omega),getD_set_self _ (by simp only [List.length_set]; omega)]
 refine ⟨by simp only [List.length_set]; exact hl,fun j hj=>?_,?_,fun hk1=>?_,fun j hj hk1=>?_,?_⟩
 ·by_cases e:j = i + k
  ·subst e; rw [z0]; omega
  ·rw [z j e (by omega)]; exact h.low j e
 ·rw [← Nat.add_assoc,z1]; omega
 ·rw [← Nat.add_assoc,z1,h.zero (i + k + 1) (by omega) (.inl hk)]; omega
 ·rw [z j (by omega) (by omega)]; exact h.zero j hj (.inl hk)
 ·rw [val_set _ _ _ (by simp only [List.length_set]; omega),val_set _ _ _ (by simp only [List.length_set]; omega),val_set _ _ _ (by omega),getD_set_ne _ (by omega),getD_set_ne _ (by omega),getD_set_self _ (by omega),h.sum,val_take_next]
  have e1:T - L.getD (i + k) 0 = xs.getD i 0 * ys.getD k 0:=by omega
  have e2:L.getD (i + k + 1) 0 + T / 10000 - L.getD (i + k + 1) 0 = T / 10000:=by omega
  have e3:T % 10000 - T = -(10000 * (T / 10000)):=by omega
  rw [e1,e2,e3,Int.pow_succ,Int.mul_add,Int.mul_neg,Int.mul_assoc (10000 ^ (i + k)) 10000 (T / 10000),Int.pow_add]
  have e4:xs.getD i 0 * 10000 ^ i * (10000 ^ k * ys.getD k 0) = 10000 ^ i * 10000 ^ k * (xs.getD i 0 * ys.getD k 0):=by
   rw [Int.mul_comm (xs.getD i 0) (10000 ^ i),Int.mul_assoc,Int.mul_assoc,Int.mul_left_comm (xs.getD i 0)]
  rw [e4]
  omega
/-- What holds at the head of Mul's last loop. -/
structure NormAt (P:Int) (n i:Nat) (L:List Int):Prop where
 len:L.length = n
 dig:∀ j,j < i → 0 ≤ L.getD j 0 ∧ L.getD j 0 ≤ 9999
 mid:0 ≤ L.getD i 0 ∧ L.getD i 0 ≤ 30000000000
 rest:∀ j,i < j → 0 ≤ L.getD j 0 ∧ L.getD j 0 ≤ 20000
 sum:val L = P
theorem MulAt.norm {xs ys L:List Int} (h:MulAt xs ys xs.length 0 L):NormAt (val xs * val ys) (xs.length + ys.length + 1) 0 L:=by
 refine ⟨h.len,fun j hj=>by omega,?_,fun j hj=>?_,?_⟩
 ·by_cases e:0 = xs.length + 0
  ·have:=h.mid; rw [← e] at this; omega
  ·have:=h.low 0 e; omega
 ·by_cases e:j = xs.length + 0
  ·subst e; exact h.mid
  ·have:=h.low j e; omega
 ·rw [h.sum,List.take_of_length_le (Nat.le_refl _)]; simp
theorem NormAt.step {P:Int} {n i:Nat} {L:List Int} (h:NormAt P n i L) (hi:i + 1 < n) (c d:Int) (hc:L.getD i 0 = c) (hd:L.getD (i + 1) 0 = d):NormAt P n (i + 1) ((L.set (i + 1) (d + c / 10000)).set i (c % 10000)):=by
 have hl:=h.len
 have hm:=h.mid
 have hr:=h.rest (i + 1) (by omega)
 rw [hc] at hm
 rw [hd] at hr
 refine ⟨by simp only [List.length_set]; exact hl,fun j hj=>?_,?_,fun j hj=>?_,?_⟩
 ·by_cases e:i = j
  ·subst e; rw [getD_set_self _ (by simp only [List.length_set]; omega)]; omega
  ·rw [getD_set_ne _ e,getD_set_ne _ (by omega)]; exact h.dig j (by omega)
 ·rw [getD_set_ne _ (by omega),getD_set_self _ (by omega)]; omega
 ·rw [getD_set_ne _ (by omega),getD_set_ne _ (by omega)]; exact h.rest j (by omega)
 ·rw [val_set _ _ _ (by simp only [List.length_set]; omega),val_set _ _ _ (by omega),getD_set_ne _ (by omega),hc,hd,h.sum,Int.pow_succ]
  have e1:d + c / 10000 - d = c / 10000:=by omega
  have e2:c % 10000 - c = -(10000 * (c / 10000)):=by omega
  rw [e1,e2,Int.mul_neg,Int.mul_assoc (10000 ^ i) 10000 (c / 10000)]
  omega
theorem NormAt.done {P:Int} {n:Nat} {L:List Int} (h:NormAt P (n + 1) n L) (hP:P < 10000 ^ n):Dig L:=by
 have hl:=h.len
 have hm:=h.mid
 have hz:L.getD n 0 = 0:=by
  have hs:=h.sum
  rw [val_parts L n,val_drop,List.drop_eq_nil_of_le (by omega),val_nil,Int.mul_zero,Int.add_zero] at hs
  have hd:Dig (L.take n):=Dig.of_get fun j hj=>by
   rw [List.length_take] at hj
   have e:(L.take n).getD j 0 = L.getD j 0:=by
    simp only [List.getD]
    rw [List.getElem?_take_of_lt (by omega)]
   rw [e]; exact h.dig j (by omega)
  have h0:=val_nonneg hd
  by_cases g:L.getD n 0 = 0
  ·exact g
  ·have:(10000:Int) ^ n * 1 ≤ 10000 ^ n * L.getD n 0:=Int.mul_le_mul_of_nonneg_left (by omega) (by have:=pow_pos' n; omega)
   omega
 exact Dig.of_get fun j hj=>by
  by_cases e:j = n
  ·subst e; rw [hz]; omega
  ·exact h.dig j (by omega)
end Go.Proofs
namespace Go.Proofs
open Go.RowKit
theorem mul_lt {xs ys:List Int} (hx:Dig xs) (hy:Dig ys):val xs * val ys < 10000 ^ (xs.length + ys.length):=by
 have h1:=val_lt hx
 have h2:=val_lt hy
 have h3:=val_nonneg hx
 have h4:=val_nonneg hy
 rw [Int.pow_add]
 have p1:=pow_pos' xs.length
 have a:val xs * val ys ≤ 10000 ^ xs.length * val ys:=Int.mul_le_mul_of_nonneg_right (by omega) h4
 have b:(10000:Int) ^ xs.length * val ys < 10000 ^ xs.length * 10000 ^ ys.length:=Int.mul_lt_mul_of_pos_left h2 p1
 omega
theorem Tryz.rMul (v u:Value) (xs ys:List Int) (w:World) (hv:Digs w v xs) (hu:Digs w u ys) (hx:Dig xs) (hy:Dig ys) (hlen:xs.length + ys.length ≤ 1000000000000) :
 Calls Tryz.prog 68 #[v,u] w fun e w'=>(∃ v',e = .returned v' ∧ NumIs w' v' (val xs * val ys) (xs.length + ys.length + 1)) ∧ Below w.heap.size w w':=by
 obtain ⟨p,cap,rfl,hxl,hxr⟩:=hv.slice
 obtain ⟨q,dap,rfl,hyl,hyr⟩:=hu.slice
 obtain ⟨i0,hi,hz0,hz1,hz2⟩:=info_parts Tryz.info3
 have HX:Hid (0 < xs.length → ∃ g,p = some ⟨g,0,none⟩ ∧ RowAt w g cap xs):=hxr
 have HY:Hid (0 < ys.length → ∃ g,q = some ⟨g,0,none⟩ ∧ RowAt w g dap ys):=hyr
 clear hxr hyr hv hu
 obtain ⟨n,hn⟩:∃ n:Nat,(xs.length:Int) + ys.length + 1 = n:=⟨xs.length + ys.length + 1,by omega⟩
 go_enter Tryz.func68,Tryz.ntmps68
 go_wp2_with (first
  |(refine wpList_make_full _ rfl _ _ 33 rfl w.heap.size 3 i0 (.int .i64 0) 1 Tryz.underlying33 hi hz0 hz1 .i64 .i64 _ _ n rfl rfl rfl rfl (by rw [hz2]; omega) (by unfold maxLen; omega) (by omega) ?_))
 intro w1 hown hgrow
 have hrow1:=RowOf.of_made (by rw [toList_madeCells_one] at hown; exact hown)
 have hb1:Below w.heap.size w w1:=(Below.refl _ _).grown hgrow (Nat.le_refl _) (fun k hk=>by cases hk)
 have HN:Hid (n = xs.length + ys.length + 1):=by show _ = _; omega
 have hn1:n ≤ 1000001000000:=by omega
 clear hown hgrow hn
 go_wp2
 go_loopw [18] (fun c wr=>∃ (i:Nat) (L:List Int),c = .int .i64 i ∧ i ≤ xs.length ∧ RowOf wr w.heap.size L ∧ MulAt xs ys i 0 L ∧ Below w.heap.size w wr) (fun c _=>xs.length - (intOf c).toNat)
 case atStart=>
  have hz:∀ j,(List.replicate n (0:Int)).getD j 0 = 0:=fun j=>by simp [List.getD,List.getElem?_replicate]; split <;> simp
  refine ⟨0,List.replicate n 0,rfl,by omega,hrow1,⟨by simp [HN.out],fun j hj=>by rw [hz]; omega,by rw [hz]; omega,fun _=>by rw [hz]; omega,fun j _ _=>hz j,?_⟩,hb1⟩
  rw [val_zeros]; simp
 case round=>
  obtain ⟨i,L,rfl,hi,hrow,hat,hb⟩:=hrel
  have HA:Hid (MulAt xs ys i 0 L):=hat
  have HB:Hid (Below w.heap.size w wr):=hb
  have HR:Hid (RowOf wr w.heap.size L):=hrow
  clear hrow hat hb
  by_cases hin:i = xs.length
  ·subst hin
   have hnm:=HA.out.norm
   rw [← HN.out] at hnm
   have HM:Hid (NormAt (val xs * val ys) n 0 L):=hnm
   have hn0:1 ≤ n:=by have:=HN.out; omega
   clear hnm
   go_wp2
   go_loopw [8] (fun c wr=>∃ (j:Nat) (L:List Int),c = .int .i64 j ∧ j + 1 ≤ n ∧ RowOf wr w.heap.size L ∧ NormAt (val xs * val ys) n j L ∧ Below w.heap.size w wr) (fun c _=>n - (intOf c).toNat)
   case atStart=>exact ⟨0,L,rfl,by omega,HR.out,HM.out,HB.out⟩
   case round=>
    clear HA HB HR HM
    obtain ⟨j,M,rfl,hj,hrow,hat,hb⟩:=hrel
    have HA:Hid (NormAt (val xs * val ys) n j M):=hat
    have HB:Hid (Below w.heap.size w wr):=hb
    have HR:Hid (RowOf wr w.heap.size M):=hrow
    clear hrow hat hb
    by_cases hjn:j + 1 = n
    ·have hml:=HA.out.len
     have HD:Hid (Dig M):=by
      have h:=HA.out
      rw [← hjn] at h
      exact h.done (by rw [show j = xs.length + ys.length by have:=HN.out; omega]; exact mul_lt hx hy)
     have hD:Digs wr (.slice (some ⟨w.heap.size,0,none⟩) n n) M:=by
      have:=HR.out.digs (by have:=HN.out; unfold maxLen; omega)
      rw [hml] at this
      exact this
     have HV:Hid (val M = val xs * val ys):=HA.out.sum
     go_wp2_with (go_at_call 119; refine (Tryz.rTrim _ _ _ hD).mono ?_; rintro e w2 ⟨⟨v',rfl,t,ht,hdt,htt,hvt⟩,rfl⟩)
     go_ret
     exact ⟨⟨_,rfl,M.take t,hdt,HD.out.take t,htt,hvt.trans HV.out,by rw [List.length_take]; have:=HN.out; omega⟩,HB.out⟩
    ·have hj1:j + 1 < n:=by omega
     have hml:=HA.out.len
     obtain ⟨c,hc⟩:∃ c,M.getD j 0 = c:=⟨_,rfl⟩
     have hc9:=HA.out.mid
     rw [hc] at hc9
     have HC:Hid (M.getD j 0 = c):=hc
     obtain ⟨d,hd⟩:∃ d,M.getD (j + 1) 0 = d:=⟨_,rfl⟩
     have hd9:=HA.out.rest (j + 1) (by omega)
     rw [hd] at hd9
     have HD:Hid (M.getD (j + 1) 0 = d):=hd
     have hcO:=HR.out.cell (j:=j) (by omega)
     rw [hc] at hcO
     have hdO:=HR.out.cell (j:=j + 1) (by omega)
     rw [hd] at hdO
     have hfO:=HR.out.frozen (j + 1)
     have HRwr:=HR
     have HBwr:=HB
     have HML:Hid (M.length = n):=hml
     clear hc hd hml
     go_wp2
     go_region
     obtain ⟨W1,hW1⟩:∃ W,wr.drew.setCell ⟨w.heap.size,j + 1,none⟩ (.int .i64 (d + c / 10000)) = W:=⟨_,rfl⟩
     rw [hW1]
     have HRW1:Hid (RowOf W1 w.heap.size (M.set (j + 1) (d + c / 10000))):=by rw [← hW1]; exact (HRwr.out.drew).set _ _
     have HBW1:Hid (Below w.heap.size w W1):=by rw [← hW1]; exact HBwr.out.drew.setCell (Nat.le_refl _) _
     clear hW1
     have hc1:W1.cell? ⟨w.heap.size,j,none⟩ = some (.int .i64 c):=by
      have h:=HRW1.out.cell (j:=j) (by simp only [List.length_set]; have:=HML.out; omega)
      rw [getD_set_ne _ (by omega),HC.out] at h
      exact h
     have hf1:=HRW1.out.frozen j
     clear hcO hdO hfO
     go_wp2
     exact ⟨⟨j + 1,_,by simp,by omega,HRW1.out.set j (c % 10000),HA.out.step hj1 c d HC.out HD.out,HBW1.out.setCell (Nat.le_refl _) _⟩,by simp [intOf]; omega⟩
  ·have hil:i < xs.length:=by omega
   obtain ⟨g,rfl,hr⟩:=HX.out (by omega)
   obtain ⟨a,ha⟩:∃ a,xs.getD i 0 = a:=⟨_,rfl⟩
   have ha9:=hx.get i
   rw [ha] at ha9
   have HXI:Hid (xs.getD i 0 = a):=ha
   have hca:=hr.cells i hil
   rw [ha] at hca
   have HCA:Hid (w.cell? ⟨g,i,none⟩ = some (.int .i64 a)):=hca
   have hlt:=hr.lt
   clear ha hca hr
   go_wp2
   go_loopw [23] (fun c wr=>∃ (k:Nat) (L:List Int),c = .int .i64 k ∧ k ≤ ys.length ∧ RowOf wr w.heap.size L ∧ MulAt xs ys i k L ∧ Below w.heap.size w wr) (fun c _=>ys.length - (intOf c).toNat)
   case atStart=>exact ⟨0,L,rfl,by omega,HR.out,HA.out,HB.out⟩
   case round=>
    clear HA HB HR
    obtain ⟨k,M,rfl,hk,hrow,hat,hb⟩:=hrel
    have HA:Hid (MulAt xs ys i k M):=hat
    have HB:Hid (Below w.heap.size w wr):=hb
    have HR:Hid (RowOf wr w.heap.size M):=hrow
    clear hrow hat hb
    by_cases hkn:k = ys.length
    ·subst hkn
     have hrw:=HA.out.row hil
     go_wp2
     exact ⟨⟨i + 1,M,by simp,by omega,HR.out,hrw,HB.out⟩,by simp [intOf]; omega⟩
    ·have hkl:k < ys.length:=by omega
     obtain ⟨g',rfl,hr'⟩:=HY.out (by omega)
     obtain ⟨b,hbk⟩:∃ b,ys.getD k 0 = b:=⟨_,rfl⟩
     have hb9:=hy.get k
     rw [hbk] at hb9
     have HYK:Hid (ys.getD k 0 = b):=hbk
     have hcb0:=hr'.cells k hkl
     rw [hbk] at hcb0
     have hlt':=hr'.lt
     have hab:0 ≤ a * b ∧ a * b ≤ 99980001:=by
      have h1:a * b ≤ 9999 * b:=Int.mul_le_mul_of_nonneg_right ha9.2 hb9.1
      have h2:=Int.mul_nonneg ha9.1 hb9.1
      omega
     have hlen':=HA.out.len
     have hik1:i + k + 1 < n:=by have:=HN.out; omega
     have hikM:i + k + 1 < M.length:=by omega
     obtain ⟨c,hc⟩:∃ c,M.getD (i + k) 0 = c:=⟨_,rfl⟩
     have hc9:=HA.out.mid
     rw [hc] at hc9
     have HC:Hid (M.getD (i + k) 0 = c):=hc
     obtain ⟨d,hd⟩:∃ d,M.getD (i + k + 1) 0 = d:=⟨_,rfl⟩
     have hd9:=HA.out.low (i + k + 1) (by omega)
     rw [hd] at hd9
     have HD:Hid (M.getD (i + k + 1) 0 = d):=hd
     obtain ⟨T,hT⟩:∃ T,c + a * b = T:=⟨_,rfl⟩
     have hT9:0 ≤ T ∧ T ≤ 100000001:=by omega
     have hcO:=HR.out.cell (j:=i + k) (by omega)
     rw [hc] at hcO
     have hfO:=HR.out.frozen (i + k)
     have hca:=(HB.out.cell (p:=⟨g,i,none⟩) hlt).trans HCA.out
     have hcb:=(HB.out.cell (p:=⟨g',k,none⟩) hlt').trans hcb0
     have hgO:g ≠ w.heap.size:=by omega
     have hgO':g' ≠ w.heap.size:=by omega
     have HRwr:=HR
     have HBwr:=HB
     clear hr' hbk hlen' hc hd hcb0
     go_wp2
     go_region
     obtain ⟨W1,hW1⟩:∃ W,wr.drew.setCell ⟨w.heap.size,i + k,none⟩ (.int .i64 (T)) = W:=⟨_,rfl⟩
     rw [hW1]
     have HRW1:Hid (RowOf W1 w.heap.size (M.set (i + k) (T))):=by rw [← hW1]; exact (HRwr.out.drew).set _ _
     have HBW1:Hid (Below w.heap.size w W1):=by rw [← hW1]; exact HBwr.out.drew.setCell (Nat.le_refl _) _
     clear hW1
     have hc1:W1.cell? ⟨w.heap.size,i + k,none⟩ = some (.int .i64 T):=by
      have h:=HRW1.out.cell (j:=i + k) (by simp only [List.length_set]; omega)
      rw [getD_set_self _ (by omega)] at h
      exact h
     have hd1:W1.cell? ⟨w.heap.size,i + k + 1,none⟩ = some (.int .i64 d):=by
      have h:=HRW1.out.cell (j:=i + k + 1) (by simp only [List.length_set]; omega)
      rw [getD_set_ne _ (by omega),HD.out] at h
      exact h
     have hf1:=HRW1.out.frozen (i + k + 1)
     clear hcO hfO hca hcb
     go_wp2
     go_region
     obtain ⟨W2,hW2⟩:∃ W,W1.drew.setCell ⟨w.heap.size,i + k + 1,none⟩ (.int .i64 (d + T / 10000)) = W:=⟨_,rfl⟩
     rw [hW2]
     have HRW2:Hid (RowOf W2 w.heap.size ((M.set (i + k) T).set (i + k + 1) (d + T / 10000))):=by rw [← hW2]; exact (HRW1.out.drew).set _ _
     have HBW2:Hid (Below w.heap.size w W2):=by rw [← hW2]; exact HBW1.out.drew.setCell (Nat.le_refl _) _
     clear hW2
     have hc2:W2.cell? ⟨w.heap.size,i + k,none⟩ = some (.int .i64 T):=by
      have h:=HRW2.out.cell (j:=i + k) (by simp only [List.length_set]; omega)
      rw [getD_set_ne _ (by omega),getD_set_self _ (by omega)] at h
      exact h
     have hf2:=HRW2.out.frozen (i + k)
     clear hc1 hd1 hf1
     go_wp2
     refine ⟨⟨k + 1,_,by simp,by omega,HRW2.out.set (i + k) (T % 10000),?_,HBW2.out.setCell (Nat.le_refl _) _⟩,by simp [intOf]; omega⟩
     have h:=HA.out.step hil hkl T (by rw [HC.out,HXI.out,HYK.out]; exact hT) hT9.1 hT9.2
     rw [HD.out] at h
     exact h
theorem Digs.one (w:World) (d:Int):Digs (w.alloc (.cells #[.int .i64 d] 3)) (.slice (some ⟨w.heap.size,0,none⟩) 1 1) [d]:=by
 have h:RowOf (w.alloc (.cells #[.int .i64 d] 3)) w.heap.size [d]:=heap_alloc_new _ _
 exact h.digs (by simp [maxLen])
theorem Digs.alloc {w:World} {v:Value} {xs:List Int} (h:Digs w v xs) (o:Obj):Digs (w.alloc o) v xs:=h.below ((Below.refl _ _).alloc (Nat.le_refl _) o) (Nat.le_refl _)
theorem Dig.one {d:Int} (h0:0 ≤ d) (h1:d ≤ 9999):Dig [d]:=fun x hx=>by rw [List.mem_singleton.1 hx]; exact ⟨h0,h1⟩
theorem Top.one {d:Int} (h0:d ≠ 0):Top [d]:=.inr (by simpa using h0)
theorem val_one (d:Int):val [d] = d:=by rw [val_cons]; simp
theorem NumIs.one (w:World) (d:Int) (h0:1 ≤ d) (h1:d ≤ 9999):NumIs (w.alloc (.cells #[.int .i64 d] 3)) (.slice (some ⟨w.heap.size,0,none⟩) 1 1) d 1:=
 ⟨[d],Digs.one w d,Dig.one (by omega) h1,Top.one (by omega),val_one d,by simp⟩
theorem NumIs.below {w w':World} {v:Value} {z:Int} {n B:Nat} (h:NumIs w v z n) (hb:Below B w w') (hB:w.heap.size ≤ B):NumIs w' v z n:=by
 obtain ⟨xs,h1,h2⟩:=h
 exact ⟨xs,h1.below hb hB,h2⟩
theorem NumIs.mono {w:World} {v:Value} {z:Int} {n m:Nat} (h:NumIs w v z n) (hm:n ≤ m):NumIs w v z m:=by
 obtain ⟨xs,h1,h2,h3,h4,h5⟩:=h
 exact ⟨xs,h1,h2,h3,h4,by omega⟩
theorem Tryz.nMul {v u:Value} {a b:Int} {n m:Nat} {w:World} (hv:NumIs w v a n) (hu:NumIs w u b m) (hlen:n + m ≤ 1000000000000) :
 Calls Tryz.prog 68 #[v,u] w fun e w'=>(∃ v',e = .returned v' ∧ NumIs w' v' (a * b) (n + m + 1)) ∧ Below w.heap.size w w':=by
 obtain ⟨xs,h1,h2,h3,rfl,h5⟩:=hv
 obtain ⟨ys,k1,k2,k3,rfl,k5⟩:=hu
 refine (Tryz.rMul v u xs ys w h1 k1 h2 k2 (by omega)).mono ?_
 rintro e w' ⟨⟨v',rfl,h⟩,hb⟩
 exact ⟨⟨v',rfl,h.mono (by omega)⟩,hb⟩
theorem Tryz.nCmp {v u:Value} {a b:Int} {n m:Nat} {w:World} (hv:NumIs w v a n) (hu:NumIs w u b m) :
 Calls Tryz.prog 61 #[v,u] w fun e w'=>e = .returned (.int .i64 (cmpI a b)) ∧ w' = w:=by
 obtain ⟨xs,h1,h2,h3,rfl,h5⟩:=hv
 obtain ⟨ys,k1,k2,k3,rfl,k5⟩:=hu
 exact Tryz.rCmp v u xs ys w h1 k1 h2 k2
theorem NumIs.alloc {w:World} {v:Value} {z:Int} {n:Nat} (h:NumIs w v z n) (o:Obj):NumIs (w.alloc o) v z n:=h.below ((Below.refl _ _).alloc (Nat.le_refl _) o) (Nat.le_refl _)
end Go.Proofs
