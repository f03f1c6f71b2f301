/- Texts of numbers by groups of nineteen digits: what holds in the two loops of Text of the package nat. -/
import Derived.Test.YtcnjcfoaoaldeaaGreatDoorBw
import Derived.Test.YtcnjcfoaoaldeaaGreatDoorTx
import Derived.Lib.Builder
set_option linter.unusedVariables false
namespace Go.Proofs.Wd
open Go.RowKit
theorem valT_snoc (G:List Nat) (r:Nat):Tx.valT (G ++ [r]) = Tx.valT G + 10000000000000000000 ^ G.length * r:=by
 induction G with
 | nil=>simp [Tx.valT]
 | cons g l ih =>
   simp only [List.cons_append,Tx.valT,ih,List.length_cons,Nat.pow_succ]
   rw [Nat.mul_add,← Nat.add_assoc,← Nat.mul_assoc,Nat.mul_comm 10000000000000000000 (10000000000000000000 ^ l.length)]
/-- What holds at the head of the first loop: the groups so far, and what is left. -/
structure TextAt (z:Int) (L:List Int) (G:List Nat):Prop where
 dig:Dig L
 top:Top L
 lt:∀ j,G.getD j 0 < 10000000000000000000
 sum:(Tx.valT G:Int) + ((10000000000000000000 ^ G.length:Nat):Int) * val L = z
 last:L = [] → G ≠ [] → 1 ≤ G.getD (G.length - 1) 0
theorem TextAt.start {z:Int} {L:List Int} (hd:Dig L) (ht:Top L) (hz:val L = z):TextAt z L []:=
 ⟨hd,ht,fun j=>by simp,by simp [Tx.valT,hz],fun _ h=>absurd rfl h⟩
theorem getD_snoc (G:List Nat) (r j:Nat):(G ++ [r]).getD j 0 = if j = G.length then r else G.getD j 0:=by
 by_cases h:j < G.length
 ·rw [if_neg (by omega)]
  simp [List.getD,List.getElem?_append_left h]
 ·by_cases e:j = G.length
  ·subst e; simp [List.getD]
  ·rw [if_neg e]
   have h1:(G ++ [r])[j]? = none:=by simp; omega
   have h2:G[j]? = none:=by simp; omega
   simp [List.getD,h1,h2]
theorem TextAt.step {z:Int} {L L':List Int} {G:List Nat} {r:Int} {k:Nat} (h:TextAt z L G) (hl:L ≠ []) (hd:Dig L') (he:val L = 10000000000000000000 * val L' + r) (r0:0 ≤ r) (r1:r < 10000000000000000000) (ht:Top (L'.take k)) (hv:val (L'.take k) = val L') :
 TextAt z (L'.take k) (G ++ [r.toNat]):=by
 refine ⟨hd.take k,ht,fun j=>?_,?_,fun hn _=>?_⟩
 ·rw [getD_snoc]; split
  ·omega
  ·exact h.lt j
 ·rw [valT_snoc,hv,List.length_append,List.length_singleton,Nat.pow_succ,← h.sum,he,Int.natCast_add,Int.natCast_mul,Int.natCast_mul]
  rw [show ((r.toNat:Nat):Int) = r by omega,show ((10000000000000000000:Nat):Int) = 10000000000000000000 from rfl]
  generalize ((10000000000000000000 ^ G.length:Nat):Int) = P
  generalize val L' = V
  generalize ((Tx.valT G:Nat):Int) = W
  rw [Int.mul_add,Int.mul_assoc]
  omega
 ·have hz:val L' = 0:=by rw [← hv,hn]; rfl
  have hp:=top_pos h.dig h.top hl
  have hpp:=pow_pos' (L.length - 1)
  rw [hz] at he
  rw [List.length_append,List.length_singleton,Nat.add_sub_cancel,getD_snoc,if_pos rfl]
  omega
theorem ten19 (n:Nat):(18446744073709551616:Nat) ^ n ≤ 10000000000000000000 ^ (2 * n):=by
 rw [Nat.pow_mul]
 exact Nat.pow_le_pow_left (by decide) n
theorem TextAt.fits {z:Int} {L:List Int} {G:List Nat} {n:Nat} (h:TextAt z L G) (hl:L ≠ []) (hz:z < 18446744073709551616 ^ n):G.length < 2 * n:=by
 have hp:=top_pos h.dig h.top hl
 have hpp:=pow_pos' (L.length - 1)
 have hv:1 ≤ val L:=by omega
 have hs:=h.sum
 have h1:((10000000000000000000 ^ G.length:Nat):Int) * 1 ≤ ((10000000000000000000 ^ G.length:Nat):Int) * val L:=Int.mul_le_mul_of_nonneg_left hv (Int.natCast_nonneg _)
 have hnn:(0:Int) ≤ (Tx.valT G:Int):=Int.natCast_nonneg _
 have h2:(10000000000000000000 ^ G.length:Nat) < 18446744073709551616 ^ n:=by
  have:((10000000000000000000 ^ G.length:Nat):Int) < ((18446744073709551616 ^ n:Nat):Int):=by
   have e:((18446744073709551616 ^ n:Nat):Int) = (18446744073709551616:Int) ^ n:=by rw [Int.natCast_pow]; rfl
   rw [e]
   generalize ((10000000000000000000 ^ G.length:Nat):Int) = P at *
   omega
  exact Int.ofNat_lt.1 this
 have h3:=ten19 n
 exact (Nat.pow_lt_pow_iff_right (by decide:1 < 10000000000000000000)).1 (Nat.lt_of_lt_of_le h2 h3)
theorem TextAt.groups {z:Int} {G:List Nat} (h:TextAt z [] G):Tx.GroupsOk G ∧ (Tx.valT G:Int) = z:=
 ⟨⟨h.lt,fun hn=>h.last rfl hn⟩,by have:=h.sum; simpa using this⟩
/-- The numeral of the groups from place j on. -/
def decTail (G:List Nat) (j:Nat):List UInt8:=if j < G.length then Lib.decDigits (Tx.tail G j) else []
theorem decTail_end (G:List Nat):decTail G G.length = []:=by unfold decTail; rw [if_neg (by omega)]
theorem decTail_top {G:List Nat} {j:Nat} (h:j + 1 = G.length):decTail G j = Lib.decDigits (G.getD j 0):=by
 unfold decTail; rw [if_pos (by omega),Tx.dec_top j h]
theorem decTail_next {G:List Nat} (hG:Tx.GroupsOk G) {j:Nat} (h:j + 1 < G.length):decTail G j = decTail G (j + 1) ++ (List.replicate (19 - Lib.nDigits (G.getD j 0)) 48 ++ Lib.decDigits (G.getD j 0)):=by
 unfold decTail; rw [if_pos (by omega),if_pos h,Tx.dec_next hG j h]
theorem decTail_zero {G:List Nat} (h:0 < G.length):decTail G 0 = Lib.decDigits (Tx.valT G):=by
 unfold decTail; rw [if_pos h]; rfl
theorem group_digits {g:Nat} (h:g < 10000000000000000000):Lib.nDigits g ≤ 19:=Tx.nDigits_le 19 g (by decide) (by simpa using h)
theorem decTail_len {G:List Nat} (hG:Tx.GroupsOk G):∀ d j,j + d = G.length → (decTail G j).length ≤ 19 * d
 | 0,j,h=>by rw [show j = G.length by omega,decTail_end]; simp
 | d + 1, j, h => by
   by_cases e:d = 0
   ·subst e
    rw [decTail_top h,Lib.decDigits_length]
    have:=group_digits (hG.lt j); omega
   ·have ih:=decTail_len hG d (j + 1) (by omega)
    rw [decTail_next hG (by omega)]
    simp only [List.length_append,List.length_replicate,Lib.decDigits_length]
    have:=group_digits (hG.lt j); omega
/-- Groups as integers. -/
def gi (G:List Nat):List Int:=List.map (fun g:Nat=>(g:Int)) G
theorem gi_length (G:List Nat):(gi G).length = G.length:=by simp [gi]
theorem gi_snoc (G:List Nat) {r:Int} (h:0 ≤ r):gi (G ++ [r.toNat]) = gi G ++ [r]:=by
 simp only [gi,List.map_append,List.map_cons,List.map_nil,List.cons.injEq,List.append_cancel_left_eq,and_true]
 omega
theorem gi_get (G:List Nat) (j:Nat):(gi G).getD j 0 = (G.getD j 0:Int):=by
 unfold gi
 by_cases h:j < G.length
 ·simp [List.getD,h]
 ·have h1:G[j]? = none:=by simp; omega
  simp [List.getD,h1]
/-- A builder stands where nothing old is turned. -/
theorem builder_below {T e:TypeId} {B b:Nat} {bs:List Value} {w w':World} (h:Lib.IsBuilder T e B b bs w) (hb:Below w.heap.size w w'):Lib.IsBuilder T e B b bs w':=by
 have key:∀ p,Lib.BuilderAt T e B b p bs w → Lib.BuilderAt T e B b p bs w':=fun p ⟨h1,v,h2,h3,h4⟩=>
  ⟨h1,v,by rw [hb.block b (Array.getElem?_eq_some_iff.1 h2).1]; exact h2,h3.kept (row:=none) ⟨hb.os,hb.tape,hb.output,hb.size,fun k hk _=>hb.block k hk⟩ (by cases hv:v.ownBlock <;> simp),h4⟩
 rcases h with h | h
 ·exact .inl (key _ h)
 ·exact .inr (key _ h)
theorem OwnAt.kept {w w':World} {B g cap:Nat} {L:List Int} {row:Option Nat} (h:OwnAt w B g cap L) (hg:w.grownBy w' row) (hne:some g ≠ row):OwnAt w' B g cap L:=World.ownsRow.kept h hg (.inr hne)
theorem OwnAt.take {w:World} {B g cap:Nat} {L:List Int} (h:OwnAt w B g cap L) (k:Nat) (hk:k ≤ L.length):OwnAt w B g cap (L.take k):=by
 obtain ⟨h0,h⟩:=h
 have hl:(L.take k).length = k:=by simp; omega
 refine ⟨by simp,?_⟩
 rcases h with h | ⟨g',cap',cur,h1,hg,hh,hn,hc,hs,ht⟩
 ·simp at h
 ·simp only [Value.slice.injEq,Option.some.injEq,Addr.mk.injEq,and_true,true_and] at h1
  obtain ⟨rfl,rfl⟩:=h1
  refine .inr ⟨g,cap,cur,by rw [hl],hg,hh,by omega,hc,hs,?_⟩
  have:(cur.toList.take (L.length * 1)).take k = (L.map (Value.int .u64)).take k:=by rw [ht]
  rw [List.take_take,Nat.min_eq_left (by omega)] at this
  rw [hl,Nat.mul_one,this,List.map_take]
end Go.Proofs.Wd
