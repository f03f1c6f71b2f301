/- Fractions as they lie in memory; how many bits a number of the package nat has. What words, nats, Sign, Whole, ofWords, ofNats, Of of the package frac return. -/
import Derived.Test.YtcnjcfoaoaldeaaGreatDoorSm
import Derived.Test.YtcnjcfoaoaldeaaGreatDoorFq
import Derived.Test.YtcnjcfoaoaldeaaGreatDoorNb2
set_option linter.unusedVariables false
set_option maxHeartbeats 4000000
set_option maxRecDepth 100000
namespace Go.Proofs.Fr
open Go.RowKit Go.Proofs.Wd
/-- Both parts are words. -/
def Short (q:Rat):Prop:=(q.num.natAbs:Int) ≤ 18446744073709551615 ∧ (q.den:Int) ≤ 18446744073709551615
/-- A fraction's struct: its parts are words, or behind a pointer. -/
def FracAt (w:World) (a:Nat) (q:Rat) (k:Nat):Prop:=
 a < w.heap.size ∧ w.cell? ⟨a, 0, none⟩ = some (.bool (decide (q.num < 0))) ∧
   ((Short q ∧ w.cell? ⟨a,1,none⟩ = some (.int .u64 (q.num.natAbs:Int)) ∧ w.cell? ⟨a,2,none⟩ = some (.int .u64 (q.den:Int)) ∧ w.cell? ⟨a,3,none⟩ = some (.pointer none)) ∨
    (¬Short q ∧ w.cell? ⟨a,1,none⟩ = some (.int .u64 0) ∧ w.cell? ⟨a,2,none⟩ = some (.int .u64 0) ∧ ∃ b p r,w.cell? ⟨a,3,none⟩ = some (.pointer (some ⟨b,0,none⟩)) ∧ b < w.heap.size ∧
     w.cell? ⟨b,0,none⟩ = some p ∧ w.cell? ⟨b,1,none⟩ = some r ∧ Num w p (q.num.natAbs:Int) k ∧ Num w r (q.den:Int) k))
/-- A fraction: nothing is 0. -/
def FracIs (w:World) (v:Value) (q:Rat) (k:Nat):Prop:=(v = .pointer none ∧ q = 0) ∨ ∃ a,v = .pointer (some ⟨a,0,none⟩) ∧ FracAt w a q k
theorem FracAt.below {w w':World} {a:Nat} {q:Rat} {k:Nat} (h:FracAt w a q k) (hb:Below w.heap.size w w'):FracAt w' a q k:=by
 obtain ⟨h1,h2,h3⟩:=h
 have hs:=hb.size
 refine ⟨by omega,by rw [hb.cell h1]; exact h2,?_⟩
 rcases h3 with ⟨g1,g2,g3,g4⟩ | ⟨g1,g2,g3,b,p,r,g4,g5,g6,g7,g8,g9⟩
 ·exact .inl ⟨g1,by rw [hb.cell h1]; exact g2,by rw [hb.cell h1]; exact g3,by rw [hb.cell h1]; exact g4⟩
 ·exact .inr ⟨g1,by rw [hb.cell h1]; exact g2,by rw [hb.cell h1]; exact g3,b,p,r,by rw [hb.cell h1]; exact g4,by omega,by rw [hb.cell g5]; exact g6,by rw [hb.cell g5]; exact g7,g8.below hb (Nat.le_refl _),g9.below hb (Nat.le_refl _)⟩
theorem FracIs.below {w w':World} {v:Value} {q:Rat} {k:Nat} (h:FracIs w v q k) (hb:Below w.heap.size w w'):FracIs w' v q k:=by
 rcases h with ⟨h1,h2⟩ | ⟨a,h1,h2⟩
 ·exact .inl ⟨h1,h2⟩
 ·exact .inr ⟨a,h1,h2.below hb⟩
theorem FracAt.more {w:World} {a:Nat} {q:Rat} {k m:Nat} (h:FracAt w a q k) (hm:k ≤ m):FracAt w a q m:=by
 obtain ⟨h1,h2,h3⟩:=h
 refine ⟨h1,h2,?_⟩
 rcases h3 with h3 | ⟨g1,g2,g3,b,p,r,g4,g5,g6,g7,g8,g9⟩
 ·exact .inl h3
 ·exact .inr ⟨g1,g2,g3,b,p,r,g4,g5,g6,g7,g8.fewer hm,g9.fewer hm⟩
theorem FracIs.more {w:World} {v:Value} {q:Rat} {k m:Nat} (h:FracIs w v q k) (hm:k ≤ m):FracIs w v q m:=by
 rcases h with h | ⟨a,h1,h2⟩
 ·exact .inl h
 ·exact .inr ⟨a,h1,h2.more hm⟩
theorem short_zero:Short 0:=by unfold Short; simp
/-- Of the number 0 the denominator is 1. -/
theorem den_zero {q:Rat} (h:q.num = 0):q.den = 1:=by rw [Rat.num_eq_zero.1 h]; rfl
theorem long_num {q:Rat} (h:¬Short q):q.num ≠ 0:=fun e=>h (by unfold Short; rw [e,den_zero e]; simp)
/-- What Bits tells: just of 0 it is 0, just of 1 it is 1. -/
structure BitsIs (z L:Int):Prop where
 lo:0 ≤ L
 zero:L = 0 ↔ z = 0
 one:L = 1 ↔ z = 1
 hi:L ≤ 9223372036854775807
end Go.Proofs.Fr
namespace Go.Proofs.Fr
open Go.RowKit Go.Proofs.Wd
theorem pow2_mono {i j:Nat} (h:i ≤ j):(2:Int) ^ i ≤ 2 ^ j:=by
 have e:(2:Int) ^ j = 2 ^ i * 2 ^ (j - i):=by rw [← Int.pow_add,show i + (j - i) = j by omega]
 have h1:(0:Int) < 2 ^ (j - i):=Int.pow_pos (by omega)
 have h2:(2:Int) ^ i * 1 ≤ 2 ^ i * 2 ^ (j - i):=Int.mul_le_mul_of_nonneg_left (by omega) (Int.le_of_lt (Int.pow_pos (by omega)))
 omega
theorem Tryz.natBits (v:Value) (z:Int) (n:Nat) (w:World) (hv:Num w v z n) (hn:n ≤ 1000000000000) :
 Calls Tryz.prog 48 #[v] w fun e w'=>(∃ L,BitsIs z L ∧ e = .returned (.int .i64 L)) ∧ w' = w:=by
 obtain ⟨xs,hi,hd,ht,hz,hl⟩:=hv
 have HI:Hid (IsNat w v xs):=hi
 by_cases h0:xs = []
 ·subst h0
  have HZ:Hid (BitsIs z 0):=⟨by omega,by rw [← hz]; simp,by rw [← hz]; simp,by omega⟩
  clear hi hd ht hz
  go_enter Tryz.func48,Tryz.ntmps48
  go_wp2_with (go_at_call 104; refine (Tryz.all v [] _ HI.out).mono ?_; rintro e w1 ⟨⟨s,rfl,hs⟩,rfl⟩; obtain ⟨p,cap,rfl,-,-⟩:=hs.slice; clear hs)
  go_ret
  exact ⟨⟨0,HZ.out,rfl⟩,rfl⟩
 ·have hlp:0 < xs.length:=by have:xs.length ≠ 0:=fun e=>h0 (List.length_eq_zero_iff.1 e); omega
  obtain ⟨l,hll⟩:∃ l,xs.length = l:=⟨_,rfl⟩
  obtain ⟨x,hx⟩:∃ x,xs.getD (l - 1) 0 = x:=⟨_,rfl⟩
  have hxd:0 ≤ x ∧ x ≤ 18446744073709551615:=by
   have h9:xs.getD (l - 1) 0 ∈ xs:=by rw [List.getD_eq_getElem?_getD,List.getElem?_eq_getElem (by omega)]; exact List.getElem_mem _
   rw [← hx]
   exact hd _ h9
  obtain ⟨x0,x1⟩:=hxd
  have HZ:Hid (∀ L,IsLen x L → BitsIs z ((l - 1:Int) * 64 + L)):=by
   intro L hL
   obtain ⟨a1,a2,a3,a4⟩:=hL
   have hxn:x ≠ 0:=by rw [← hx,← hll]; exact ht.resolve_left h0
   have a4:=a4.resolve_left (fun h=>hxn h.1)
   by_cases hl1:l = 1
   ·subst hl1
    obtain ⟨y,rfl⟩:∃ y,xs = [y]:=List.length_eq_one_iff.1 hll
    have hy:y = x:=by rw [← hx]; rfl
    subst hy
    have hzy:z = y:=by rw [← hz]; simp [val_cons]
    subst hzy
    refine ⟨by omega,by omega,?_,by omega⟩
    have e0:(((1:Nat):Int) - 1) * 64 + L = L:=by omega
    rw [e0]
    constructor
    ·rintro rfl
     have h2:(2:Int) ^ (1:Int).toNat = 2:=by decide
     rw [h2] at a3; omega
    ·rintro rfl
     by_cases hL1:L = 1
     ·exact hL1
     ·have h3:(2:Int) ^ 1 ≤ 2 ^ (L - 1).toNat:=pow2_mono (by omega)
      omega
   ·have hp:=top_pos hd ht h0
    have hpw:(18446744073709551616:Int) ^ 1 ≤ 18446744073709551616 ^ (xs.length - 1):=pow_mono' (by omega)
    simp only [Int.pow_succ,Int.pow_zero,Int.one_mul] at hpw
    exact ⟨by omega,by omega,by omega,by omega⟩
  have HX:Hid (xs.getD (l - 1) 0 = x):=hx
  have HLL:Hid (xs.length = l):=hll
  have hb0:((l:Int) == 0) = false:=by simp; omega
  have hl9:l ≤ 1000000000000:=by omega
  have hl1:1 ≤ l:=by omega
  clear hi hd ht hz h0 hx hl
  go_enter Tryz.func48,Tryz.ntmps48
  go_wp2_with fail
  refine (Tryz.all v xs _ HI.out).mono ?_
  rintro e w1 ⟨⟨s,rfl,hs⟩,rfl⟩
  obtain ⟨p,cap,rfl,hpl,hpr⟩:=hs.slice
  obtain ⟨g,rfl,hr⟩:=hpr (by omega)
  have hc:=hr.cells (l - 1) (by omega)
  rw [HX.out] at hc
  rw [HLL.out]
  clear hs hpr hr hpl HI hlp hll
  have hc':w1.cell? ⟨g,((l:Int) - 1).toNat,none⟩ = some (.int .u64 x):=by rw [show ((l:Int) - 1).toNat = l - 1 by omega]; exact hc
  go_wp2_with (go_at_call 52; (with_reducible refine (Tryz.Len x _ x0 x1).mono ?_); rintro e w2 ⟨⟨L,hL,rfl⟩,rfl⟩; have HL:Hid (BitsIs z (((l:Int) - 1) * 64 + L)):=HZ.out L hL; have hL0:=hL.lo; have hL1:=hL.hi; clear hL)
  go_ret
  exact ⟨⟨_,HL.out,rfl⟩,rfl⟩
/-- What words tells. -/
def WordsIs (q:Rat) (e:Ending):Prop:=(Short q ∧ e = .returned (.tuple #[.int .u64 (q.num.natAbs:Int),.int .u64 (q.den:Int),.bool true])) ∨ (¬Short q ∧ ∃ n d,e = .returned (.tuple #[.int .u64 n,.int .u64 d,.bool false]))
theorem Tryz.words (v:Value) (q:Rat) (k:Nat) (w:World) (h:FracIs w v q k) :
 Calls Tryz.prog 121 #[v] w fun e w'=>WordsIs q e ∧ Below w.heap.size w w':=by
 rcases h with ⟨rfl,rfl⟩ | ⟨a,rfl,ha,h0,⟨hs,h1,h2,h3⟩ | ⟨hs,h1,h2,b,p,r,h3,-⟩⟩
 ·go_enter Tryz.func121,Tryz.ntmps121
  go_wp2
  go_ret3
  exact ⟨.inl ⟨short_zero,rfl⟩,Below.refl _ _⟩
 ·have HS:Hid (Short q):=hs
  obtain ⟨n,hn⟩:∃ n:Int,(q.num.natAbs:Int) = n:=⟨_,rfl⟩
  obtain ⟨d,hd⟩:∃ d:Int,(q.den:Int) = d:=⟨_,rfl⟩
  have d1:1 ≤ d:=by have:=q.den_pos; omega
  have hmx:max d 1 = d:=by omega
  have HR:Hid (WordsIs q (.returned (.tuple #[.int .u64 n,.int .u64 d,.bool true]))):=.inl ⟨hs,by rw [hn,hd]⟩
  rw [hn] at h1
  rw [hd] at h2
  clear hn hd hs
  go_enter Tryz.func121,Tryz.ntmps121
  go_wp2
  go_quiet (fail)
  go_wp2
  go_ret3
  exact ⟨HR.out,belowN (Below.refl _ _) nq⟩
 ·have HS:Hid (¬Short q):=hs
  clear hs
  go_enter Tryz.func121,Tryz.ntmps121
  go_wp2
  go_quiet (fail)
  go_wp2
  go_ret3
  exact ⟨.inr ⟨HS.out,_,_,rfl⟩,belowN (Below.refl _ _) nq⟩
theorem newAt (w:World) (c:Array Value) (t:TypeId) {m:Nat} (hm:w.heap.size = m) (j:Nat):(w.alloc (.cells c t)).cell? ⟨m,j,none⟩ = c[j]?:=by
 subst hm; simp
theorem num_pointer {w:World} {v:Value} {z:Int} {n:Nat} (h:Num w v z n):∃ a,v = .pointer a:=by
 obtain ⟨xs,⟨rfl,-⟩ | ⟨a,s,rfl,-⟩,-⟩:=h
 ·exact ⟨_,rfl⟩
 ·exact ⟨_,rfl⟩
theorem Tryz.nats (v:Value) (q:Rat) (k:Nat) (w:World) (h:FracIs w v q k) (hk:1 ≤ k) :
 Calls Tryz.prog 63 #[v] w fun e w'=>(∃ p r,e = .returned (.tuple #[p,r]) ∧ Num w' p (q.num.natAbs:Int) k ∧ Num w' r (q.den:Int) k) ∧ Below w.heap.size w w':=by
 have H:Hid (FracIs w v q k):=h
 by_cases hs:Short q
 ·have HW : Hid (∀ W, FracIs W v q k → Calls Tryz.prog 121 #[v] W fun e w' => e = .returned (.tuple #[.int .u64 (q.num.natAbs : Int), .int .u64 (q.den : Int), .bool true]) ∧ Below W.heap.size W w') := fun W hW =>
   (Tryz.words v q k W hW).mono fun e w' h=>⟨(h.1.resolve_right fun g=>g.1 hs).2,h.2⟩
  obtain ⟨n,hn⟩:∃ n:Int,(q.num.natAbs:Int) = n:=⟨_,rfl⟩
  obtain ⟨d,hd⟩:∃ d:Int,(q.den:Int) = d:=⟨_,rfl⟩
  obtain ⟨n9,d9⟩:=hs
  rw [hn] at n9 HW
  rw [hd] at d9 HW
  rw [hn,hd]
  have n0:0 ≤ n:=by omega
  have d0:0 ≤ d:=by omega
  clear hn hd h
  go_enter Tryz.func63,Tryz.ntmps63
  go_wp2_with fail
  with_reducible refine (HW.out _ H.out).mono ?_
  rintro e w1 ⟨rfl,hb1⟩
  have HB1:Hid (Below w.heap.size w w1):=hb1
  clear hb1 HW H
  go_wp2_with fail
  with_reducible refine (Tryz.natOf n _ n0 n9).mono ?_
  rintro e w2 ⟨⟨p,rfl,hp⟩,hb2⟩
  have HB2:Hid (Below w.heap.size w w2):=Below.after HB1.out hb2
  have HP2:Hid (Num w2 p n k):=hp.fewer hk
  clear hb2 hp HB1
  go_wp2_with fail
  with_reducible refine (Tryz.natOf d _ d0 d9).mono ?_
  rintro e w3 ⟨⟨r,rfl,hr⟩,hb3⟩
  have HB3:Hid (Below w.heap.size w w3):=Below.after HB2.out hb3
  have HP3:Hid (Num w3 p n k):=HP2.out.below hb3 (Nat.le_refl _)
  have HR3:Hid (Num w3 r d k):=hr.fewer hk
  clear hb3 hr HB2 HP2
  go_wp2
  go_ret2
  exact ⟨⟨p,r,rfl,HP3.out,HR3.out⟩,HB3.out⟩
 ·have HW : Hid (∀ W, FracIs W v q k → Calls Tryz.prog 121 #[v] W fun e w' => (∃ n d, e = .returned (.tuple #[.int .u64 n, .int .u64 d, .bool false])) ∧ Below W.heap.size W w') := fun W hW =>
   (Tryz.words v q k W hW).mono fun e w' h=>⟨(h.1.resolve_left fun g=>hs g.1).2,h.2⟩
  obtain ⟨a,rfl,ha,h0,h3⟩:=h.resolve_left (fun g=>hs (by rw [g.2]; exact short_zero))
  obtain ⟨-,-,-,b,p,r,h3,hbs,hp0,hr0,hp,hr⟩:=h3.resolve_left (fun g=>hs g.1)
  have HF:Hid (Num w p (q.num.natAbs:Int) k ∧ Num w r (q.den:Int) k):=⟨hp,hr⟩
  clear hp hr h hs h0
  go_enter Tryz.func63,Tryz.ntmps63
  go_wp2_with fail
  with_reducible refine (HW.out _ H.out).mono ?_
  rintro e w1 ⟨⟨n,d,rfl⟩,hb1⟩
  have HB1:Hid (Below w.heap.size w w1):=hb1
  have HF1:Hid (Num w1 p (q.num.natAbs:Int) k ∧ Num w1 r (q.den:Int) k):=⟨HF.out.1.below hb1 (Nat.le_refl _),HF.out.2.below hb1 (Nat.le_refl _)⟩
  rw [← hb1.cell ha] at h3
  rw [← hb1.cell hbs] at hp0 hr0
  clear hb1 HW H HF ha hbs
  go_wp2
  go_quiet (fail)
  go_wp2
  go_ret2
  exact ⟨⟨p,r,rfl,HF1.out.1.below (belowN (Below.refl _ _) nq) (Nat.le_refl _),HF1.out.2.below (belowN (Below.refl _ _) nq) (Nat.le_refl _)⟩,belowN HB1.out nq⟩
theorem Tryz.Sign (v:Value) (q:Rat) (k:Nat) (w:World) (h:FracIs w v q k) :
 Calls Tryz.prog 64 #[v] w fun e w'=>e = .returned (.int .i64 q.num.sign) ∧ Below w.heap.size w w':=by
 have H:Hid (FracIs w v q k):=h
 by_cases hz:q.num = 0
 ·have hs:Short q:=by unfold Short; rw [hz,den_zero hz]; simp
  have HW:Hid (∀ W,FracIs W v q k → Calls Tryz.prog 121 #[v] W fun e w'=>(∃ d,e = .returned (.tuple #[.int .u64 0,.int .u64 d,.bool true])) ∧ Below W.heap.size W w'):=fun W hW=>
   (Tryz.words v q k W hW).mono fun e w' h=>⟨⟨_,by have:=(h.1.resolve_right fun g=>g.1 hs).2; rw [hz] at this; exact this⟩,h.2⟩
  rw [hz]
  clear hz hs h
  go_enter Tryz.func64,Tryz.ntmps64
  go_wp2_with fail
  with_reducible refine (HW.out _ H.out).mono ?_
  rintro e w1 ⟨⟨d,rfl⟩,hb1⟩
  have HB1:Hid (Below w.heap.size w w1):=hb1
  clear hb1 HW H
  go_wp2
  go_ret
  exact ⟨rfl,HB1.out⟩
 ·obtain ⟨a,rfl,ha,h0,-⟩:=h.resolve_left (fun g=>hz (by rw [g.2]; rfl))
  obtain ⟨b,hb⟩:∃ b:Bool,decide (q.num < 0) = b:=⟨_,rfl⟩
  rw [hb] at h0
  have HR:Hid (q.num.sign = if b = true then -1 else 1):=by
   show _ = _
   rw [← hb]
   by_cases hn:q.num < 0
   ·rw [if_pos (by simpa using hn),Int.sign_eq_neg_one_of_neg hn]
   ·rw [if_neg (by simpa using hn),Int.sign_eq_one_of_pos (by omega)]
  rw [HR.out]
  by_cases hs:Short q
  ·have HW : Hid (∀ W, FracIs W (.pointer (some ⟨a, 0, none⟩)) q k → Calls Tryz.prog 121 #[.pointer (some ⟨a, 0, none⟩)] W fun e w' => (∃ n d, n ≠ 0 ∧ e = .returned (.tuple #[.int .u64 n, .int .u64 d, .bool true])) ∧ Below W.heap.size W w') := fun W hW =>
    (Tryz.words _ q k W hW).mono fun e w' h=>⟨⟨_,_,by omega,(h.1.resolve_right fun g=>g.1 hs).2⟩,h.2⟩
   clear hz hs h hb
   go_enter Tryz.func64,Tryz.ntmps64
   go_wp2_with fail
   with_reducible refine (HW.out _ H.out).mono ?_
   rintro e w1 ⟨⟨n,d,hn,rfl⟩,hb1⟩
   have HB1:Hid (Below w.heap.size w w1):=hb1
   have hnb:(n == 0) = false:=by simpa using hn
   rw [← hb1.cell ha] at h0
   clear hb1 HW H hn ha
   cases b
   all_goals
    go_wp2
    go_ret
    exact ⟨rfl,HB1.out⟩
  ·have HW : Hid (∀ W, FracIs W (.pointer (some ⟨a, 0, none⟩)) q k → Calls Tryz.prog 121 #[.pointer (some ⟨a, 0, none⟩)] W fun e w' => (∃ n d, e = .returned (.tuple #[.int .u64 n, .int .u64 d, .bool false])) ∧ Below W.heap.size W w') := fun W hW =>
    (Tryz.words _ q k W hW).mono fun e w' h=>⟨(h.1.resolve_left fun g=>hs g.1).2,h.2⟩
   clear hz hs h hb
   go_enter Tryz.func64,Tryz.ntmps64
   go_wp2_with fail
   with_reducible refine (HW.out _ H.out).mono ?_
   rintro e w1 ⟨⟨n,d,rfl⟩,hb1⟩
   have HB1:Hid (Below w.heap.size w w1):=hb1
   rw [← hb1.cell ha] at h0
   clear hb1 HW H ha
   cases b
   all_goals
    go_wp2
    go_ret
    exact ⟨rfl,HB1.out⟩
theorem Tryz.ofWords (neg:Bool) (n d:Nat) (q:Rat) (w:World) (hn:q.num = sgn neg n) (hd:q.den = d) (n9:n ≤ 18446744073709551615) (d9:d ≤ 18446744073709551615) :
 Calls Tryz.prog 90 #[.bool neg,.int .u64 n,.int .u64 d] w fun e w'=>(∃ v,e = .returned v ∧ FracIs w' v q 1) ∧ Below w.heap.size w w':=by
 have hna:q.num.natAbs = n:=by rw [hn,sgn_abs]
 have hneg:decide (q.num < 0) = (neg && decide (0 < n)):=by rw [hn]; exact sgn_neg neg n
 have hs:Short q:=⟨by rw [hna]; omega,by rw [hd]; omega⟩
 have HD:Hid (∀ b,b = decide (q.num < 0) → FracIs (w.alloc (.cells #[.bool b,.int .u64 n,.int .u64 d,.pointer none] 110)) (.pointer (some ⟨w.heap.size,0,none⟩)) q 1):=by
  intro b hb
  refine .inr ⟨_,rfl,by simp,?_,.inl ⟨hs,?_,?_,?_⟩⟩
  ·rw [← hb]; simp
  ·rw [hna]; simp
  ·rw [hd]; simp
  ·simp
 have HB:Hid (∀ o,Below w.heap.size w (w.alloc o)):=fun o=>(Below.refl _ _).alloc (Nat.le_refl _) o
 have n0:(0:Int) ≤ n:=by omega
 have hbd:∀ (b:Bool) (w:World),(Instr.build 110 #[(0,.bool b),(1,.int .u64 n),(2,.int .u64 d)]).run Tryz.prog w = .ok (.agg #[.bool b,.int .u64 n,.int .u64 d,.pointer none]) w:=fun b w=>run_build w 110 _ _ (by kernel_rfl)
 cases neg
 ·have HE:Hid (false = decide (q.num < 0)):=by show _ = _; rw [hneg]; rfl
  clear hn hd hna hneg hs
  go_enter Tryz.func90,Tryz.ntmps90
  go_wp2
  go_ret
  exact ⟨⟨_,rfl,HD.out _ HE.out⟩,HB.out _⟩
 ·have HE:Hid (decide (0 < n) = decide (q.num < 0)):=by show _ = _; rw [hneg,Bool.true_and]
  clear hn hd hna hneg hs
  go_enter Tryz.func90,Tryz.ntmps90
  go_wp2
  go_ret
  exact ⟨⟨_,rfl,HD.out _ HE.out⟩,HB.out _⟩
theorem Tryz.ofNats (neg:Bool) (p r:Value) (n d:Nat) (q:Rat) (k:Nat) (w:World) (hp:Num w p n k) (hr:Num w r d k) (hn:q.num = sgn neg n) (hd:q.den = d) (hk:1 ≤ k) :
 Calls Tryz.prog 100 #[.bool neg,p,r] w fun e w'=>(∃ v,e = .returned v ∧ FracIs w' v q k) ∧ Below w.heap.size w w':=by
 have hna:q.num.natAbs = n:=by rw [hn,sgn_abs]
 have HP:Hid (Num w p n k):=hp
 have HR:Hid (Num w r d k):=hr
 by_cases hs:Short q
 ·obtain ⟨n9,d9⟩:=hs
  rw [hna] at n9
  rw [hd] at d9
  have HC:Hid (∀ W,Calls Tryz.prog 90 #[.bool neg,.int .u64 n,.int .u64 d] W fun e w'=>(∃ v,e = .returned v ∧ FracIs w' v q 1) ∧ Below W.heap.size W w'):=fun W=>Tryz.ofWords neg n d q W hn hd (by omega) (by omega)
  clear hp hr hn hd hna
  go_enter Tryz.func100,Tryz.ntmps100
  go_wp2_with fail
  with_reducible refine (Tryz.natWord p _ k _ HP.out).mono ?_
  rintro e w1 ⟨hw,rfl⟩
  obtain ⟨-,rfl⟩:=hw.resolve_right (fun g=>by have:=g.1; omega)
  clear hw
  go_wp2_with fail
  with_reducible refine (Tryz.natWord r _ k _ HR.out).mono ?_
  rintro e w2 ⟨hw,rfl⟩
  obtain ⟨-,rfl⟩:=hw.resolve_right (fun g=>by have:=g.1; omega)
  clear hw HP HR
  go_wp2_with fail
  with_reducible refine (HC.out _).mono ?_
  rintro e w3 ⟨⟨v,rfl,hv⟩,hb3⟩
  have HV:Hid (FracIs w3 v q k):=hv.more hk
  have HB:Hid (Below w2.heap.size w2 w3):=hb3
  clear hv hb3 HC
  go_wp2
  go_ret
  exact ⟨⟨v,rfl,HV.out⟩,HB.out⟩
 ·have hnn:=long_num hs
  have hb:decide (q.num < 0) = neg:=by
   rw [hn,sgn_neg]
   have:0 < n:=by omega
   simp [this]
  have HL:Hid (¬((n:Int) ≤ 18446744073709551615 ∧ (d:Int) ≤ 18446744073709551615)):=by
   show ¬_
   rw [← hna,← hd]; exact hs
  have HD:Hid (FracIs ((w.alloc (.cells #[p,r] 174)).alloc (.cells #[.bool neg,.int .u64 0,.int .u64 0,.pointer (some ⟨w.heap.size,0,none⟩)] 110)) (.pointer (some ⟨w.heap.size + 1,0,none⟩)) q k):=by
   have hb1:Below w.heap.size w (w.alloc (.cells #[p,r] 174)):=(Below.refl _ _).alloc (Nat.le_refl _) _
   have hb2:Below (w.heap.size + 1) (w.alloc (.cells #[p,r] 174)) ((w.alloc (.cells #[p,r] 174)).alloc (.cells #[.bool neg,.int .u64 0,.int .u64 0,.pointer (some ⟨w.heap.size,0,none⟩)] 110)):=(Below.refl _ _).alloc (by simp) _
   have hsz:(w.alloc (.cells #[p,r] 174)).heap.size = w.heap.size + 1:=by simp
   refine .inr ⟨_,rfl,by simp,?_,.inr ⟨hs,?_,?_,w.heap.size,p,r,?_,by simp; omega,?_,?_,?_,?_⟩⟩
   ·rw [hb]; exact newAt _ _ _ hsz 0
   ·exact newAt _ _ _ hsz 1
   ·exact newAt _ _ _ hsz 2
   ·exact newAt _ _ _ hsz 3
   ·rw [hb2.cell (by simp)]; simp
   ·rw [hb2.cell (by simp)]; simp
   ·rw [hna]; exact (HP.out.below hb1 (Nat.le_refl _)).below hb2 (by simp)
   ·rw [hd]; exact (HR.out.below hb1 (Nat.le_refl _)).below hb2 (by simp)
  have HB:Hid (∀ o o',Below w.heap.size w ((w.alloc o).alloc o')):=fun o o'=>((Below.refl _ _).alloc (Nat.le_refl _) o).alloc (by simp) o'
  have hbd1:∀ w:World,(Instr.build 174 #[(0,p),(1,r)]).run Tryz.prog w = .ok (.agg #[p,r]) w:=fun w=>by
   obtain ⟨a,rfl⟩:∃ a,p = .pointer a:=num_pointer hp
   obtain ⟨b,rfl⟩:∃ b,r = .pointer b:=num_pointer hr
   exact run_build w 174 _ _ (by kernel_rfl)
  have hbd2:∀ (a:Option Addr) (w:World),(Instr.build 110 #[(0,.bool neg),(3,.pointer a)]).run Tryz.prog w = .ok (.agg #[.bool neg,.int .u64 0,.int .u64 0,.pointer a]) w:=fun a w=>run_build w 110 _ _ (by kernel_rfl)
  clear hp hr hn hd hna hb hs hnn
  go_enter Tryz.func100,Tryz.ntmps100
  go_wp2_with fail
  with_reducible refine (Tryz.natWord p _ k _ HP.out).mono ?_
  rintro e w1 ⟨hw1,rfl⟩
  rcases hw1 with ⟨h1,rfl⟩ | ⟨h1,rfl⟩
  ·go_wp2_with fail
   with_reducible refine (Tryz.natWord r _ k _ HR.out).mono ?_
   rintro e w2 ⟨hw,rfl⟩
   obtain ⟨-,rfl⟩:=hw.resolve_left (fun g=>HL.out ⟨h1,g.1⟩)
   clear hw HP HR
   go_wp2
   go_ret
   exact ⟨⟨_,rfl,HD.out⟩,HB.out _ _⟩
  ·go_wp2_with fail
   with_reducible refine (Tryz.natWord r _ k _ HR.out).mono ?_
   rintro e w2 ⟨hw,rfl⟩
   rcases hw with ⟨h2,rfl⟩ | ⟨h2,rfl⟩
   all_goals
    clear HP HR
    go_wp2
    go_ret
    exact ⟨⟨_,rfl,HD.out⟩,HB.out _ _⟩
theorem absAdd (x:Int) (h0:-9223372036854775808 ≤ x) (h1:x < 0):IntKind.u64.wrap (bits .xor .u64 (if IntKind.u64.signed = true then -1 else IntKind.u64.max) (IntKind.u64.wrap x) + 1) = -x:=by
 have hm:(if IntKind.u64.signed = true then -1 else IntKind.u64.max) = ((18446744073709551615:Nat):Int):=by rfl
 obtain ⟨X,hX⟩:∃ X:Nat,IntKind.u64.wrap x = X:=⟨(IntKind.u64.wrap x).toNat,by have:=u64In x; omega⟩
 rw [u64w] at hX
 rw [hm,u64w x,hX,bits_xor_u64_nat _ _ (by omega) (by omega),ones_xor _ (by omega),u64w]
 omega
theorem Tryz.Abs (x:Int) (w:World) (h0:-9223372036854775808 ≤ x) (h1:x ≤ 9223372036854775807) :
 Calls Tryz.prog 91 #[.int .i64 x] w fun e w'=>e = .returned (.int .u64 (x.natAbs:Int)) ∧ w' = w:=by
 by_cases hx:x < 0
 ·have hn:=absAdd x h0 hx
  have e:(x.natAbs:Int) = -x:=by omega
  rw [e]
  go_enter Tryz.func91,Tryz.ntmps91
  go_wp2
  go_ret
  exact ⟨rfl,rfl⟩
 ·have hw:IntKind.u64.wrap x = x:=by rw [u64w]; omega
  have e:(x.natAbs:Int) = x:=by omega
  rw [e]
  go_enter Tryz.func91,Tryz.ntmps91
  go_wp2
  go_ret
  exact ⟨rfl,rfl⟩
theorem Tryz.Of (x:Int) (w:World) (h0:-9223372036854775808 ≤ x) (h1:x ≤ 9223372036854775807) :
 Calls Tryz.prog 42 #[.int .i64 x] w fun e w'=>(∃ v,e = .returned v ∧ FracIs w' v (x:Rat) 1) ∧ Below w.heap.size w w':=by
 have HC:Hid (∀ W,Calls Tryz.prog 90 #[.bool (decide (x < 0)),.int .u64 (x.natAbs:Int),.int .u64 1] W fun e w'=>(∃ v,e = .returned v ∧ FracIs w' v (x:Rat) 1) ∧ Below W.heap.size W w'):=fun W=>
  Tryz.ofWords (decide (x < 0)) x.natAbs 1 (x:Rat) W (by unfold sgn; by_cases h:x < 0 <;> simp [h] <;> omega) (by simp) (by omega) (by omega)
 go_enter Tryz.func42,Tryz.ntmps42
 go_wp2_with fail
 with_reducible refine (Tryz.Abs x _ h0 h1).mono ?_
 rintro e w1 ⟨rfl,rfl⟩
 go_wp2_with fail
 with_reducible refine (HC.out _).mono ?_
 rintro e w3 ⟨⟨v,rfl,hv⟩,hb3⟩
 have HV:Hid (FracIs w3 v (x:Rat) 1):=hv
 have HB:Hid (Below w1.heap.size w1 w3):=hb3
 clear hv hb3 HC
 go_wp2
 go_ret
 exact ⟨⟨v,rfl,HV.out⟩,HB.out⟩
end Go.Proofs.Fr
