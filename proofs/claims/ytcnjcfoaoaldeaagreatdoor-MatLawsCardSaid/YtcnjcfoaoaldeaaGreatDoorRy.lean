/- What Gcd, Frac, Low and Text of the reference's fractions return. What Text, Of and Get of the reference's fractions return. A word as it stands; a whole number as a fraction. What Get of the reference's fractions returns. -/
import Derived.Test.YtcnjcfoaoaldeaaGreatDoorRs
import Derived.Test.YtcnjcfoaoaldeaaGreatDoorRt
import Derived.Test.YtcnjcfoaoaldeaaGreatDoorFq
import Derived.Test.YtcnjcfoaoaldeaaGreatDoorCa
import Derived.Deep.LoopGhost
import Derived.Lib.Hide
import Derived.Test.YtcnjcfoaoaldeaaGreatDoorGm
import Derived.Laws.IdiomStrings
import Derived.Test.YtcnjcfoaoaldeaaGreatDoorFz
set_option linter.unusedVariables false
set_option maxHeartbeats 4000000
set_option maxRecDepth 100000
namespace Go.Proofs
open Go.RowKit
theorem NumIs.nonneg {w:World} {v:Value} {z:Int} {n:Nat} (h:NumIs w v z n):0 ≤ z:=by
 obtain ⟨xs,h1,h2,h3,rfl,h5⟩:=h
 exact val_nonneg h2
/-- A fraction of the reference: D above 0, in any terms. -/
def QIs (w:World) (v:Value) (q:Rat) (n:Nat):Prop:=
 ∃ neg N D z d,v = .agg #[.bool neg,N,D] ∧ NumIs w N z n ∧ NumIs w D d n ∧ 1 ≤ d ∧ (neg = true → 1 ≤ z) ∧ q = mkRat (Fr.sgn neg z.toNat) d.toNat
theorem QIs.below {w w':World} {v:Value} {q:Rat} {n:Nat} (h:QIs w v q n) (hb:Below w.heap.size w w'):QIs w' v q n:=by
 obtain ⟨neg,N,D,z,d,h1,h2,h3,h4⟩:=h
 exact ⟨neg,N,D,z,d,h1,h2.below hb (Nat.le_refl _),h3.below hb (Nat.le_refl _),h4⟩
theorem Tryz.rGcd (v u:Value) (a b:Int) (n m:Nat) (w:World) (hv:NumIs w v a n) (hu:NumIs w u b m) (hn:n ≤ 40000) (hm:m ≤ 40000) :
 Calls Tryz.prog 62 #[v,u] w fun e w'=>(∃ r,e = .returned r ∧ NumIs w' r (Int.gcd a b) (max n m)) ∧ Below w.heap.size w w':=by
 obtain ⟨l,hl⟩:∃ l,max n m = l:=⟨_,rfl⟩
 have hl4:l ≤ 40000:=by omega
 have HN:Hid (n ≤ l ∧ m ≤ l):=⟨by omega,by omega⟩
 rw [hl]
 have HV:Hid (NumIs w v a n):=hv
 have HU:Hid (NumIs w u b m):=hu
 clear hv hu hl hn hm
 go_enter Tryz.func62,Tryz.ntmps62
 go_wp2
 go_loopg [0,1] (b.toNat) (fun gk x y wr=>∃ A B,B.toNat = gk ∧ NumIs wr x A l ∧ NumIs wr y B l ∧ Int.gcd A B = Int.gcd a b ∧ Below w.heap.size w wr)
 case atStart=>exact ⟨a,b,rfl,HV.out.mono HN.out.1,HU.out.mono HN.out.2,rfl,Below.refl _ _⟩
 case round=>
  obtain ⟨A,B,hB,hx,hy,hg,hb⟩:=hrel
  have HX:Hid (NumIs wr _ A l):=hx
  have HY:Hid (NumIs wr _ B l):=hy
  have HB:Hid (Below w.heap.size w wr):=hb
  have HG:Hid (Int.gcd A B = Int.gcd a b):=hg
  have HA0:0 ≤ A:=hx.nonneg
  have HB0:0 ≤ B:=hy.nonneg
  obtain ⟨ys,hyd,hyg,hyt,hyv,hyl⟩:=hy
  clear hx hb hg
  by_cases h0:ys = []
  ·subst h0
   obtain ⟨p,cap,rfl,-,-⟩:=hyd.slice
   have HR:Hid (A = Int.gcd a b):=by
    show _ = _
    rw [← HG.out,← hyv]
    simp; omega
   clear hyd hyg hyt hyv hyl hB
   go_wp2
   go_ret
   exact ⟨⟨_,rfl,by rw [← HR.out]; exact HX.out⟩,HB.out⟩
  ·have hB1 : 1 ≤ B := by
    have hp:=top_pos hyg hyt h0
    have:=pow_pos' (ys.length - 1)
    omega
   obtain ⟨p,cap,rfl,h9,-⟩:=hyd.slice
   have hlp:0 < ys.length:=by have:ys.length ≠ 0:=fun e=>h0 (List.length_eq_zero_iff.1 e); omega
   have HM:Hid ((A % B).toNat < gk ∧ Int.gcd B (A % B) = Int.gcd a b):=by
    refine ⟨?_,?_⟩
    ·have:=Int.emod_lt_of_pos A (show 0 < B by omega)
     have:=Int.emod_nonneg A (show B ≠ 0 by omega)
     omega
    ·rw [← HG.out,Int.emod_def,Int.gcd_sub_mul_left_right,Int.gcd_comm]
   obtain ⟨t,ht⟩:∃ t,ys.length = t:=⟨_,rfl⟩
   rw [ht] at HY hlp h9
   rw [ht]
   clear hyd hyg hyt hyv hyl h0 ht hB
   go_wp2_with fail
   with_reducible refine (Tryz.nDiv HX.out HY.out hB1 (by omega)).mono ?_
   rintro e w2 ⟨⟨q,r,rfl,-,hr⟩,hb2⟩
   have HR2:Hid (NumIs w2 r (A % B) l):=hr
   have HY2:Hid (NumIs w2 (.slice p t cap) B l):=HY.out.below hb2 (Nat.le_refl _)
   have HB2:Hid (Below w.heap.size w w2):=HB.out.trans (hb2.mono HB.out.size)
   clear hr hb2 HX HY HB
   go_wp2
   go_roundg ((A % B).toNat)
   case measure=>exact HM.out.1
   case rel=>exact ⟨B,A % B,rfl,HY2.out,HR2.out,HM.out.2,HB2.out⟩
theorem NumIs.store {w:World} {v:Value} {z:Int} {n B:Nat} {c:Array Value} {t:TypeId} (h:NumIs w v z n) (hc:CellsAt w B c t) (ht:t ≠ 3) (j:Nat) (u:Value):NumIs (w.setCell ⟨B,j,none⟩ u) v z n:=by
 obtain ⟨xs,h1,h2⟩:=h
 exact ⟨xs,hc.keeps h1 ht j u,h2⟩
theorem NumIs.put3 {w:World} {v:Value} {z:Int} {n B:Nat} {a b c x y u:Value} {t:TypeId} (h:NumIs w v z n) (hc:CellsAt w B #[a,b,c] t) (ht:t ≠ 3):NumIs (((w.setCell ⟨B,0,none⟩ x).setCell ⟨B,1,none⟩ y).setCell ⟨B,2,none⟩ u) v z n:=
 ((h.store hc ht 0 x).store (hc.set 0 x) ht 1 y).store ((hc.set 0 x).set 1 y) ht 2 u
/-- No digits: the number 0. -/
theorem num_empty {w:World} {p:Option Addr} {k cap:Nat} {z:Int} {n:Nat} (h:NumIs w (.slice p k cap) z n):(k = 0 ↔ z = 0) ∧ k ≤ 9223372036854775807:=by
 obtain ⟨xs,h1,h2,h3,rfl,h5⟩:=h
 obtain ⟨p',cap',e,hl,-⟩:=h1.slice
 obtain ⟨rfl,rfl,rfl⟩:p = p' ∧ k = xs.length ∧ cap = cap':=by simpa using e
 refine ⟨⟨fun e=>?_,fun e=>?_⟩,hl⟩
 ·rw [List.length_eq_zero_iff.1 e]; rfl
 ·by_cases h0:xs = []
  ·rw [h0]; rfl
  ·have hp:=top_pos h2 h3 h0
   have:=pow_pos' (xs.length - 1)
   omega
theorem NumIs.slice {w:World} {v:Value} {z:Int} {n:Nat} (h:NumIs w v z n):∃ p k cap,v = .slice p k cap:=by
 obtain ⟨xs,h1,-⟩:=h
 obtain ⟨p,cap,e,-⟩:=h1.slice
 exact ⟨p,_,cap,e⟩
theorem modify_push (h:Array Obj) (o:Obj) (f:Obj → Obj):(h.push o).modify h.size f = h.push (f o):=by
 apply Array.ext_getElem?
 intro i
 rw [Array.getElem?_modify,Array.getElem?_push,Array.getElem?_push]
 by_cases e:h.size = i
 ·subst e; simp
 ·rw [if_neg e,if_neg (fun g=>e g.symm),if_neg (fun g=>e g.symm)]
/-- A struct of three cells that is written as soon as it is made. -/
theorem set3 (w:World) (a b c x y z:Value) (t:TypeId):(((w.alloc (.cells #[a,b,c] t)).setCell ⟨w.heap.size,0,none⟩ x).setCell ⟨w.heap.size,1,none⟩ y).setCell ⟨w.heap.size,2,none⟩ z = w.alloc (.cells #[x,y,z] t):=by
 simp only [World.setCell,World.alloc,modify_push]
 rfl
theorem Tryz.rFrac (neg:Bool) (v u:Value) (z d:Int) (n m:Nat) (w:World) (hv:NumIs w v z n) (hu:NumIs w u d m) :
 Calls Tryz.prog 60 #[.bool neg,v,u] w fun e w'=>e = .returned (.agg #[.bool (neg && decide (0 < z)),v,u]) ∧ Below w.heap.size w w':=by
 obtain ⟨p,k,cap,rfl⟩:=hv.slice
 obtain ⟨p2,k2,cap2,rfl⟩:=hu.slice
 obtain ⟨hk,hk9⟩:=num_empty hv
 have hz:=hv.nonneg
 have HR:Hid (decide (0 < z) = decide ((0:Int) < k)):=by
  show _ = _
  rw [Bool.eq_iff_iff]; simp; omega
 rw [HR.out]
 have hbd:∀ (b:Bool) (w:World),(Instr.build 35 #[(0,.bool b),(1,.slice p k cap),(2,.slice p2 k2 cap2)]).run Tryz.prog w = .ok (.agg #[.bool b,.slice p k cap,.slice p2 k2 cap2]) w:=fun b w=>run_build w 35 _ _ (by kernel_rfl)
 clear hv hu hk hz
 cases neg
 all_goals
  go_enter Tryz.func60,Tryz.ntmps60
  go_wp2
  rw [set3]
  refine bodyPost_ret (by simp [results,Tryz.results60,go_sem]; try rfl) rfl ⟨rfl,(Below.refl _ _).alloc (Nat.le_refl _) _⟩
theorem Tryz.rLow (neg:Bool) (v u:Value) (z d:Int) (n:Nat) (w:World) (hv:NumIs w v z n) (hu:NumIs w u d n) (hd:1 ≤ d) (hn:n ≤ 40000) :
 Calls Tryz.prog 73 #[.agg #[.bool neg,v,u]] w fun e w'=>(∃ a b,e = .returned (.agg #[.bool (neg && decide (0 < z / (Int.gcd z d:Int))),a,b]) ∧ NumIs w' a (z / (Int.gcd z d:Int)) n ∧ NumIs w' b (d / (Int.gcd z d:Int)) n) ∧ Below w.heap.size w w':=by
 obtain ⟨p,k,cap,rfl⟩:=hv.slice
 obtain ⟨p2,k2,cap2,rfl⟩:=hu.slice
 have HV:Hid (NumIs w (.slice p k cap) z n):=hv
 have HU:Hid (NumIs w (.slice p2 k2 cap2) d n):=hu
 obtain ⟨g,hg⟩:∃ g:Int,(Int.gcd z d:Int) = g:=⟨_,rfl⟩
 have hg1:1 ≤ g:=by
  rw [← hg]
  have:0 < Int.gcd z d:=Int.gcd_pos_of_ne_zero_right _ (by omega)
  omega
 have HG:Hid (∀ W,NumIs W (.slice p k cap) z n → NumIs W (.slice p2 k2 cap2) d n → Calls Tryz.prog 62 #[.slice p k cap,.slice p2 k2 cap2] W fun e w'=>(∃ r,e = .returned r ∧ NumIs w' r g n) ∧ Below W.heap.size W w'):=fun W h1 h2=>by
  have h:=Tryz.rGcd (.slice p k cap) (.slice p2 k2 cap2) z d n n W h1 h2 hn hn
  rw [hg,Nat.max_self] at h
  exact h
 rw [hg]
 clear hv hu hg
 have HA0:Hid (CellsAt ((w.alloc (.cells #[.bool neg,.slice p k cap,.slice p2 k2 cap2] 35)).alloc (.cells #[.bool false,.slice none 0 0,.slice none 0 0] 35)) w.heap.size #[.bool neg,.slice p k cap,.slice p2 k2 cap2] 35):=(CellsAt.new w _ _ rfl).alloc _
 have HR0:Hid (CellsAt ((w.alloc (.cells #[.bool neg,.slice p k cap,.slice p2 k2 cap2] 35)).alloc (.cells #[.bool false,.slice none 0 0,.slice none 0 0] 35)) (w.heap.size + 1) #[.bool false,.slice none 0 0,.slice none 0 0] 35):=CellsAt.new _ _ _ (by simp)
 have HB0:Hid (Below w.heap.size w ((w.alloc (.cells #[.bool neg,.slice p k cap,.slice p2 k2 cap2] 35)).alloc (.cells #[.bool false,.slice none 0 0,.slice none 0 0] 35))):=((Below.refl _ _).alloc (Nat.le_refl _) _).alloc (by simp) _
 go_enter Tryz.func73,Tryz.ntmps73
 go_wp2_with fail
 generalize ((w.alloc (.cells #[.bool neg,.slice p k cap,.slice p2 k2 cap2] 35)).alloc (.cells #[.bool false,.slice none 0 0,.slice none 0 0] 35)) = W0 at *
 have HV0:Hid (NumIs W0 (.slice p k cap) z n):=HV.out.below HB0.out (Nat.le_refl _)
 have HU0:Hid (NumIs W0 (.slice p2 k2 cap2) d n):=HU.out.below HB0.out (Nat.le_refl _)
 clear HV HU
 with_reducible refine (HG.out W0 HV0.out HU0.out).mono ?_
 rintro e w1 ⟨⟨r,rfl,hr⟩,hb1⟩
 have HA1:Hid (CellsAt w1 w.heap.size #[.bool neg,.slice p k cap,.slice p2 k2 cap2] 35):=HA0.out.below hb1
 have HR1:Hid (CellsAt w1 (w.heap.size + 1) #[.bool false,.slice none 0 0,.slice none 0 0] 35):=HR0.out.below hb1
 have HB1:Hid (Below w.heap.size w w1):=HB0.out.trans (hb1.mono HB0.out.size)
 have HV1:Hid (NumIs w1 (.slice p k cap) z n):=HV0.out.below hb1 (Nat.le_refl _)
 have HU1:Hid (NumIs w1 (.slice p2 k2 cap2) d n):=HU0.out.below hb1 (Nat.le_refl _)
 have HN1:Hid (NumIs w1 r g n):=hr
 clear hr hb1 HA0 HR0 HB0 HV0 HU0 HG
 have c1:w1.cell? ⟨w.heap.size,1,none⟩ = some (.slice p k cap):=HA1.out.cell 1
 go_wp2_with fail
 with_reducible refine (Tryz.nDiv HV1.out HN1.out hg1 (by omega)).mono ?_
 rintro e w2 ⟨⟨a,x,rfl,ha,-⟩,hb2⟩
 obtain ⟨pa,ka,ca,rfl⟩:=ha.slice
 have HA2:Hid (CellsAt w2 w.heap.size #[.bool neg,.slice p k cap,.slice p2 k2 cap2] 35):=HA1.out.below hb2
 have HR2:Hid (CellsAt w2 (w.heap.size + 1) #[.bool false,.slice none 0 0,.slice none 0 0] 35):=HR1.out.below hb2
 have HB2:Hid (Below w.heap.size w w2):=HB1.out.trans (hb2.mono HB1.out.size)
 have HU2:Hid (NumIs w2 (.slice p2 k2 cap2) d n):=HU1.out.below hb2 (Nat.le_refl _)
 have HN2:Hid (NumIs w2 r g n):=HN1.out.below hb2 (Nat.le_refl _)
 have HX2:Hid (NumIs w2 (.slice pa ka ca) (z / g) n):=ha
 clear ha hb2 HA1 HR1 HB1 HV1 HU1 HN1 c1
 have c2:w2.cell? ⟨w.heap.size,2,none⟩ = some (.slice p2 k2 cap2):=HA2.out.cell 2
 go_wp2_with fail
 with_reducible refine (Tryz.nDiv HU2.out HN2.out hg1 (by omega)).mono ?_
 rintro e w3 ⟨⟨b,y,rfl,hb,-⟩,hb3⟩
 obtain ⟨pb,kb,cb,rfl⟩:=hb.slice
 have HA3:Hid (CellsAt w3 w.heap.size #[.bool neg,.slice p k cap,.slice p2 k2 cap2] 35):=HA2.out.below hb3
 have HR3:Hid (CellsAt w3 (w.heap.size + 1) #[.bool false,.slice none 0 0,.slice none 0 0] 35):=HR2.out.below hb3
 have HB3:Hid (Below w.heap.size w w3):=HB2.out.trans (hb3.mono HB2.out.size)
 have HX3:Hid (NumIs w3 (.slice pa ka ca) (z / g) n):=HX2.out.below hb3 (Nat.le_refl _)
 have HY3:Hid (NumIs w3 (.slice pb kb cb) (d / g) n):=hb
 clear hb hb3 HA2 HR2 HB2 HU2 HN2 HX2 c2
 have c0:w3.cell? ⟨w.heap.size,0,none⟩ = some (.bool neg):=HA3.out.cell 0
 go_wp2_with fail
 with_reducible refine (Tryz.rFrac neg (.slice pa ka ca) (.slice pb kb cb) (z / g) (d / g) n n _ HX3.out HY3.out).mono ?_
 rintro e w4 ⟨rfl,hb4⟩
 have HR4:Hid (CellsAt w4 (w.heap.size + 1) #[.bool false,.slice none 0 0,.slice none 0 0] 35):=HR3.out.below hb4
 have HB4:Hid (Below w.heap.size w w4):=HB3.out.trans (hb4.mono HB3.out.size)
 have HX4:Hid (NumIs w4 (.slice pa ka ca) (z / g) n):=HX3.out.below hb4 (Nat.le_refl _)
 have HY4:Hid (NumIs w4 (.slice pb kb cb) (d / g) n):=HY3.out.below hb4 (Nat.le_refl _)
 clear hb4 HA3 HR3 HB3 HX3 HY3 c0
 obtain ⟨bb,hbb⟩:∃ bb:Bool,(neg && decide (0 < z / g)) = bb:=⟨_,rfl⟩
 rw [hbb]
 have HBB:Hid ((neg && decide (0 < z / g)) = bb):=hbb
 clear hbb
 have r0:w4.cell? ⟨w.heap.size + 1,0,none⟩ = some (.bool false):=HR4.out.cell 0
 have r1:w4.cell? ⟨w.heap.size + 1,1,none⟩ = some (.slice none 0 0):=HR4.out.cell 1
 have r2:w4.cell? ⟨w.heap.size + 1,2,none⟩ = some (.slice none 0 0):=HR4.out.cell 2
 have f0:=HR4.out.free 0
 have f1:=HR4.out.free 1
 have f2:=HR4.out.free 2
 go_wp2
 have HX5:Hid (NumIs (((w4.setCell ⟨w.heap.size + 1,0,none⟩ (.bool bb)).setCell ⟨w.heap.size + 1,1,none⟩ (.slice pa ka ca)).setCell ⟨w.heap.size + 1,2,none⟩ (.slice pb kb cb)) (.slice pa ka ca) (z / g) n):=HX4.out.put3 HR4.out (by decide)
 have HY5:Hid (NumIs (((w4.setCell ⟨w.heap.size + 1,0,none⟩ (.bool bb)).setCell ⟨w.heap.size + 1,1,none⟩ (.slice pa ka ca)).setCell ⟨w.heap.size + 1,2,none⟩ (.slice pb kb cb)) (.slice pb kb cb) (d / g) n):=HY4.out.put3 HR4.out (by decide)
 have HB5:Hid (Below w.heap.size w (((w4.setCell ⟨w.heap.size + 1,0,none⟩ (.bool bb)).setCell ⟨w.heap.size + 1,1,none⟩ (.slice pa ka ca)).setCell ⟨w.heap.size + 1,2,none⟩ (.slice pb kb cb))):=((HB4.out.setCell (by simp) _).setCell (by simp) _).setCell (by simp) _
 have HR5:Hid (CellsAt (((w4.setCell ⟨w.heap.size + 1,0,none⟩ (.bool bb)).setCell ⟨w.heap.size + 1,1,none⟩ (.slice pa ka ca)).setCell ⟨w.heap.size + 1,2,none⟩ (.slice pb kb cb)) (w.heap.size + 1) #[.bool bb,.slice pa ka ca,.slice pb kb cb] 35):=HR4.out.put3
 clear HX4 HY4 HB4 HR4 r0 r1 r2 f0 f1 f2
 generalize (((w4.setCell ⟨w.heap.size + 1,0,none⟩ (.bool bb)).setCell ⟨w.heap.size + 1,1,none⟩ (.slice pa ka ca)).setCell ⟨w.heap.size + 1,2,none⟩ (.slice pb kb cb)) = w5 at *
 have r0:w5.cell? ⟨w.heap.size + 1,0,none⟩ = some (.bool bb):=HR5.out.cell 0
 have r1:w5.cell? ⟨w.heap.size + 1,1,none⟩ = some (.slice pa ka ca):=HR5.out.cell 1
 have r2:w5.cell? ⟨w.heap.size + 1,2,none⟩ = some (.slice pb kb cb):=HR5.out.cell 2
 refine bodyPost_ret (by simp [results,Tryz.results73,go_sem,r0,r1,r2]; try rfl) rfl ⟨⟨_,_,by rw [HBB.out],HX5.out,HY5.out⟩,HB5.out⟩
end Go.Proofs
namespace Go.Proofs
open Go.RowKit
theorem low_parts {neg:Bool} {z d:Int} (hz:0 ≤ z) (hd:1 ≤ d) :
 (((mkRat (Fr.sgn neg z.toNat) d.toNat).num.natAbs : Nat) : Int) = z / (Int.gcd z d : Int) ∧ ((mkRat (Fr.sgn neg z.toNat) d.toNat).den : Int) = d / (Int.gcd z d : Int) ∧
   decide ((mkRat (Fr.sgn neg z.toNat) d.toNat).num < 0) = (neg && decide (0 < z / (Int.gcd z d:Int))):=by
 obtain ⟨Z,rfl⟩:=Int.eq_ofNat_of_zero_le hz
 obtain ⟨D,rfl⟩:=Int.eq_ofNat_of_zero_le (show 0 ≤ d by omega)
 have hD:D ≠ 0:=by omega
 rw [Rat.num_mkRat,Rat.den_mkRat,if_neg (by simpa using hD),if_neg (by simpa using hD)]
 simp only [Int.toNat_natCast,Int.gcd_natCast_natCast,Fr.sgn_abs]
 have hdv:Z.gcd D ∣ Z:=Nat.gcd_dvd_left _ _
 have hg:0 < Z.gcd D:=Nat.gcd_pos_of_pos_right _ (by omega)
 rw [Nat.gcd_comm D Z]
 obtain ⟨k,hk⟩:=hdv
 obtain ⟨g,hgg⟩:∃ g,Z.gcd D = g:=⟨_,rfl⟩
 rw [hgg] at hk hg ⊢
 subst hk
 have e1:((g * k:Nat):Int) / (g:Int) = k:=by rw [Int.natCast_mul]; exact Int.mul_ediv_cancel_left _ (by omega)
 have e2:(-((g * k:Nat):Int)) / (g:Int) = -(k:Int):=by rw [Int.natCast_mul,← Int.mul_neg]; exact Int.mul_ediv_cancel_left _ (by omega)
 refine ⟨?_,?_,?_⟩
 ·cases neg
  ·show (((((g * k:Nat):Int) / (g:Int)).natAbs:Nat):Int) = _
   rw [e1]; omega
  ·show (((-((g * k:Nat):Int) / (g:Int)).natAbs:Nat):Int) = _
   rw [e2,e1]; omega
 ·exact Int.natCast_ediv _ _
 ·cases neg
  ·show decide ((((g * k:Nat):Int) / (g:Int)) < 0) = (false && _)
   rw [e1]; simp
  ·show decide ((-((g * k:Nat):Int) / (g:Int)) < 0) = (true && _)
   rw [e2,e1,Bool.true_and,Bool.eq_iff_iff]; simp
theorem shown_right (b:Bool) (t u:ByteArray):Fr.shown b false t u = (if b then ⟨#[45]⟩ ++ t else t) ++ (⟨#[47]⟩ ++ u):=by
 unfold Fr.shown
 rw [if_neg (by simp),ByteArray.append_assoc]
theorem dec_len {z:Int} {n:Nat} (h0:0 ≤ z) (h:z < 10000 ^ n) (hn:1 ≤ n):(⟨(Lib.decDigits z.toNat).toArray⟩:ByteArray).size ≤ 4 * n:=by
 obtain ⟨Z,rfl⟩:=Int.eq_ofNat_of_zero_le h0
 rw [← Tx.length_list]
 show (Lib.decDigits ((Z:Int)).toNat).toArray.toList.length ≤ _
 rw [List.toList_toArray,Lib.decDigits_length,Int.toNat_natCast]
 refine Tx.nDigits_le _ _ (by omega) ?_
 have e:((10000 ^ n:Nat):Int) = (10000:Int) ^ n:=by rw [Int.natCast_pow]; rfl
 have h1:Z < 10000 ^ n:=Int.ofNat_lt.1 (by rw [e]; exact h)
 rw [Nat.pow_mul]
 exact h1
theorem NumIs.lt {w:World} {v:Value} {z:Int} {n:Nat} (h:NumIs w v z n):z < 10000 ^ n:=by
 obtain ⟨xs,h1,h2,h3,rfl,h5⟩:=h
 have h6:=val_lt h2
 have h7:(10000:Int) ^ xs.length ≤ 10000 ^ n:=pow_mono' h5
 omega
theorem Tryz.rQText (neg:Bool) (v u:Value) (z d:Int) (n:Nat) (q:Rat) (w:World) (hv:NumIs w v z n) (hu:NumIs w u d n) (hd:1 ≤ d) (hq:q = mkRat (Fr.sgn neg z.toNat) d.toNat) (hn1:1 ≤ n) (hn:n ≤ 40000) :
 Calls Tryz.prog 24 #[.agg #[.bool neg,v,u]] w fun e w'=>e = .returned (.string ⟨(Fr.textQ q).toArray⟩) ∧ Below w.heap.size w w':=by
 obtain ⟨p,k,cap,rfl⟩:=hv.slice
 obtain ⟨p2,k2,cap2,rfl⟩:=hu.slice
 obtain ⟨lp1,lp2,lp3⟩:=low_parts (neg:=neg) hv.nonneg hd
 rw [← hq] at lp1 lp2 lp3
 have hsh:=Fr.shown_text q
 have hZ:=hv.lt
 have hD:=hu.lt
 have hz0:=hv.nonneg
 have HL:Hid (∀ W,NumIs W (.slice p k cap) z n → NumIs W (.slice p2 k2 cap2) d n → Calls Tryz.prog 73 #[.agg #[.bool neg,.slice p k cap,.slice p2 k2 cap2]] W fun e w'=>(∃ a b,e = .returned (.agg #[.bool (decide (q.num < 0)),a,b]) ∧ NumIs w' a (q.num.natAbs:Int) n ∧ NumIs w' b (q.den:Int) n) ∧ Below W.heap.size W w'):=fun W h1 h2=>by
  have h:=Tryz.rLow neg (.slice p k cap) (.slice p2 k2 cap2) z d n W h1 h2 hd hn
  rw [lp1,lp2,lp3]
  exact h
 have hZ2:(q.num.natAbs:Int) < 10000 ^ n:=by
  rw [lp1]
  have h1:z / (Int.gcd z d:Int) ≤ z:=Int.ediv_le_self _ hz0
  omega
 have hD2:(q.den:Int) < 10000 ^ n:=by
  rw [lp2]
  have h1:d / (Int.gcd z d:Int) ≤ d:=Int.ediv_le_self _ (by omega)
  omega
 have hs1:=dec_len (by omega) hZ2 hn1
 have hs2:=dec_len (by omega) hD2 hn1
 have HT1:Hid (∀ W a,NumIs W a (q.num.natAbs:Int) n → Calls Tryz.prog 74 #[a] W fun e w'=>e = .returned (.string ⟨(Lib.decDigits q.num.natAbs).toArray⟩) ∧ Below W.heap.size W w'):=fun W a h=>Tryz.rText a _ n W h (by omega)
 have HT2:Hid (∀ W a,NumIs W a (q.den:Int) n → Calls Tryz.prog 74 #[a] W fun e w'=>e = .returned (.string ⟨(Lib.decDigits q.den).toArray⟩) ∧ Below W.heap.size W w'):=fun W a h=>Tryz.rText a _ n W h (by omega)
 rw [Int.toNat_natCast] at hs1 hs2
 obtain ⟨t1,ht1⟩:∃ t:ByteArray,(⟨(Lib.decDigits q.num.natAbs).toArray⟩:ByteArray) = t:=⟨_,rfl⟩
 obtain ⟨t2,ht2⟩:∃ t:ByteArray,(⟨(Lib.decDigits q.den).toArray⟩:ByteArray) = t:=⟨_,rfl⟩
 rw [ht1] at hs1 hsh HT1
 rw [ht2] at hs2 hsh HT2
 obtain ⟨b,hb⟩:∃ b:Bool,decide (q.num < 0) = b:=⟨_,rfl⟩
 obtain ⟨c,hc⟩:∃ c:Bool,decide (q.den = 1) = c:=⟨_,rfl⟩
 rw [hb] at HL hsh
 rw [hc] at hsh
 have HSH:Hid (Fr.shown b c t1 t2 = ⟨(Fr.textQ q).toArray⟩):=hsh
 have HCM:Hid (decide (0 < cmpI (q.den:Int) 1) = !c):=by
  show _ = _
  have hp:=q.den_pos
  rw [← hc]
  by_cases h:q.den = 1
  ·rw [cmpI_eq (by omega)]; simp [h]
  ·rw [cmpI_gt (by omega)]; simp [h]
 rw [← HSH.out]
 have HV:Hid (NumIs w (.slice p k cap) z n):=hv
 have HU:Hid (NumIs w (.slice p2 k2 cap2) d n):=hu
 clear hv hu lp1 lp2 lp3 hZ hD hz0 hZ2 hD2 ht1 ht2 hb hc hsh hq hd
 have HA0:Hid (CellsAt (w.alloc (.cells #[.bool neg,.slice p k cap,.slice p2 k2 cap2] 35)) w.heap.size #[.bool neg,.slice p k cap,.slice p2 k2 cap2] 35):=CellsAt.new w _ _ rfl
 have HB0:Hid (Below w.heap.size w (w.alloc (.cells #[.bool neg,.slice p k cap,.slice p2 k2 cap2] 35))):=(Below.refl _ _).alloc (Nat.le_refl _) _
 go_enter Tryz.func24,Tryz.ntmps24
 go_wp2_with fail
 generalize (w.alloc (.cells #[.bool neg,.slice p k cap,.slice p2 k2 cap2] 35)) = W0 at *
 have HV0:Hid (NumIs W0 (.slice p k cap) z n):=HV.out.below HB0.out (Nat.le_refl _)
 have HU0:Hid (NumIs W0 (.slice p2 k2 cap2) d n):=HU.out.below HB0.out (Nat.le_refl _)
 clear HV HU
 with_reducible refine (HL.out W0 HV0.out HU0.out).mono ?_
 rintro e w1 ⟨⟨a,y,rfl,ha,hy⟩,hb1⟩
 obtain ⟨pa,ka,ca,rfl⟩:=ha.slice
 obtain ⟨pb,kb,cb,rfl⟩:=hy.slice
 have HA1:Hid (CellsAt w1 w.heap.size #[.bool neg,.slice p k cap,.slice p2 k2 cap2] 35):=HA0.out.below hb1
 have HB1:Hid (Below w.heap.size w w1):=HB0.out.trans (hb1.mono HB0.out.size)
 have HX1:Hid (NumIs w1 (.slice pa ka ca) (q.num.natAbs:Int) n):=ha
 have HY1:Hid (NumIs w1 (.slice pb kb cb) (q.den:Int) n):=hy
 clear ha hy hb1 HA0 HB0 HV0 HU0 HL
 have r0:w1.cell? ⟨w.heap.size,0,none⟩ = some (.bool neg):=HA1.out.cell 0
 have r1:w1.cell? ⟨w.heap.size,1,none⟩ = some (.slice p k cap):=HA1.out.cell 1
 have r2:w1.cell? ⟨w.heap.size,2,none⟩ = some (.slice p2 k2 cap2):=HA1.out.cell 2
 have f0:=HA1.out.free 0
 have f1:=HA1.out.free 1
 have f2:=HA1.out.free 2
 go_wp2_with fail
 have HX2:Hid (NumIs (((w1.setCell ⟨w.heap.size,0,none⟩ (.bool b)).setCell ⟨w.heap.size,1,none⟩ (.slice pa ka ca)).setCell ⟨w.heap.size,2,none⟩ (.slice pb kb cb)) (.slice pa ka ca) (q.num.natAbs:Int) n):=HX1.out.put3 HA1.out (by decide)
 have HY2:Hid (NumIs (((w1.setCell ⟨w.heap.size,0,none⟩ (.bool b)).setCell ⟨w.heap.size,1,none⟩ (.slice pa ka ca)).setCell ⟨w.heap.size,2,none⟩ (.slice pb kb cb)) (.slice pb kb cb) (q.den:Int) n):=HY1.out.put3 HA1.out (by decide)
 have HB2:Hid (Below w.heap.size w (((w1.setCell ⟨w.heap.size,0,none⟩ (.bool b)).setCell ⟨w.heap.size,1,none⟩ (.slice pa ka ca)).setCell ⟨w.heap.size,2,none⟩ (.slice pb kb cb))):=((HB1.out.setCell (Nat.le_refl _) _).setCell (Nat.le_refl _) _).setCell (Nat.le_refl _) _
 have HA2:Hid (CellsAt (((w1.setCell ⟨w.heap.size,0,none⟩ (.bool b)).setCell ⟨w.heap.size,1,none⟩ (.slice pa ka ca)).setCell ⟨w.heap.size,2,none⟩ (.slice pb kb cb)) w.heap.size #[.bool b,.slice pa ka ca,.slice pb kb cb] 35):=HA1.out.put3
 clear HX1 HY1 HB1 HA1 r0 r1 r2 f0 f1 f2
 generalize (((w1.setCell ⟨w.heap.size,0,none⟩ (.bool b)).setCell ⟨w.heap.size,1,none⟩ (.slice pa ka ca)).setCell ⟨w.heap.size,2,none⟩ (.slice pb kb cb)) = w2 at *
 have HCC:Hid (∀ W v u,NumIs W v (q.den:Int) n → NumIs W u 1 1 → Calls Tryz.prog 61 #[v,u] W fun e w'=>(∃ x:Int,e = .returned (.int .i64 x) ∧ decide (0 < x) = !c) ∧ w' = W):=fun W v u h1 h2=>
  (Tryz.nCmp h1 h2).mono fun e w' h=>⟨⟨_,h.1,HCM.out⟩,h.2⟩
 clear HCM
 with_reducible refine (HT1.out w2 _ HX2.out).mono ?_
 rintro e w3 ⟨rfl,hb3⟩
 have HA3:Hid (CellsAt w3 w.heap.size #[.bool b,.slice pa ka ca,.slice pb kb cb] 35):=HA2.out.below hb3
 have HB3:Hid (Below w.heap.size w w3):=HB2.out.trans (hb3.mono HB2.out.size)
 have HY3:Hid (NumIs w3 (.slice pb kb cb) (q.den:Int) n):=HY2.out.below hb3 (Nat.le_refl _)
 clear hb3 HA2 HB2 HX2 HY2 HT1
 have c0:w3.cell? ⟨w.heap.size,0,none⟩ = some (.bool b):=HA3.out.cell 0
 have c2:w3.cell? ⟨w.heap.size,2,none⟩ = some (.slice pb kb cb):=HA3.out.cell 2
 have HO4:Hid (NumIs (w3.alloc (.cells #[.int .i64 1] 3)) (.slice (some ⟨w3.heap.size,0,none⟩) 1 1) 1 1):=NumIs.one w3 1 (by omega) (by omega)
 have HY4:Hid (NumIs (w3.alloc (.cells #[.int .i64 1] 3)) (.slice pb kb cb) (q.den:Int) n):=HY3.out.alloc _
 have HA4:Hid (CellsAt (w3.alloc (.cells #[.int .i64 1] 3)) w.heap.size #[.bool b,.slice pa ka ca,.slice pb kb cb] 35):=HA3.out.alloc _
 have HB4:Hid (Below w.heap.size w (w3.alloc (.cells #[.int .i64 1] 3))):=HB3.out.alloc HB3.out.size _
 clear HB3 HA3 HY3
 cases b
 all_goals
  go_wp2_with fail
  with_reducible refine (HCC.out _ _ _ HY4.out HO4.out).mono ?_
  rintro e w5 ⟨⟨x,rfl,hx⟩,rfl⟩
  clear HO4 HCC
  cases c
  ·have d2:=HA4.out.cell 2
   simp at hx
   go_wp2_with fail
   with_reducible refine (HT2.out _ _ HY4.out).mono ?_
   rintro e w6 ⟨rfl,hb6⟩
   have HB6:Hid (Below w.heap.size w w6):=HB4.out.trans (hb6.mono HB4.out.size)
   clear hb6 HB4 HY4 HA4 HT2 d2 c0 c2
   go_wp2
   go_ret
   exact ⟨by rw [shown_right]; rfl,HB6.out⟩
  ·clear HT2 HA4 HY4 c0 c2
   simp at hx
   go_wp2
   go_ret
   exact ⟨rfl,HB4.out⟩
end Go.Proofs
namespace Go.Proofs
open Go.RowKit
theorem rat_int {x z:Int} (h:x = z):(x:Rat) = mkRat z (1:Int).toNat:=by
 subst h
 exact (Rat.mk_eq_mkRat _ 1 (by decide) (by simp)).symm ▸ rfl
end Go.Proofs
namespace Go.Proofs
open Go.RowKit
theorem ryBelow {B:Nat} {a w:World} (h:Below B a w) (n:Nat):Below B a (w.drewN n):=⟨h.os,h.tape,h.output,h.size,h.block⟩
theorem num_nought (w:World) (n:Nat):NumIs w (.slice none 0 0) 0 n:=⟨[],Digs.nil w,Dig.nil,.inl rfl,rfl,by simp⟩
/-- A number below ten thousand has one digit. -/
theorem num_digit {w:World} {p:Option Addr} {k cap:Nat} {z:Int} {n:Nat} (h:NumIs w (.slice p k cap) z n) (h1:1 ≤ z) (h9:z ≤ 9999):k = 1:=by
 obtain ⟨xs,g1,g2,g3,rfl,g5⟩:=h
 obtain ⟨p',cap',e,hl,-⟩:=g1.slice
 obtain ⟨rfl,rfl,rfl⟩:p = p' ∧ k = xs.length ∧ cap = cap':=by simpa using e
 have hne:xs ≠ []:=fun e=>by rw [e] at h1; simp at h1
 have hlen:xs.length ≠ 0:=fun e=>hne (List.length_eq_zero_iff.1 e)
 have hp:=top_pos g2 g3 hne
 by_cases h2:xs.length = 1
 ·exact h2
 ·have h3:(10000:Int) ^ 1 ≤ 10000 ^ (xs.length - 1):=pow_mono' (by omega)
  rw [Int.pow_succ,Int.pow_zero,Int.one_mul] at h3
  omega
theorem num_single {w:World} {p:Option Addr} {cap:Nat} {z:Int} {n:Nat} (h:NumIs w (.slice p 1 cap) z n) :
 ∃ g,p = some ⟨g,0,none⟩ ∧ w.cell? ⟨g,0,none⟩ = some (.int .i64 z) ∧ ∀ C c t,CellsAt w C c t → t ≠ 3 → g ≠ C:=by
 obtain ⟨xs,g1,g2,g3,rfl,g5⟩:=h
 obtain ⟨p',cap',e,hl,hr⟩:=g1.slice
 obtain ⟨rfl,hx,rfl⟩:p = p' ∧ 1 = xs.length ∧ cap = cap':=by simpa using e
 obtain ⟨x,rfl⟩:∃ x,xs = [x]:=List.length_eq_one_iff.1 hx.symm
 obtain ⟨g,rfl,hrow⟩:=hr (by simp)
 have hc:=hrow.cells 0 (by simp)
 refine ⟨g,rfl,by rw [val_one]; exact hc,fun C c t hC ht e=>?_⟩
 subst e
 obtain ⟨-,⟨he,-⟩ | ⟨g',cap2,cur,he,-,hh,-⟩⟩:=g1
 ·simp at he
 ·obtain ⟨rfl,-⟩:g = g' ∧ cap = cap2:=by simpa using he
  have h3:some (Obj.cells cur 3 (0,0)) = some (Obj.cells c t (0,0)):=hh.symm.trans hC
  simp at h3
  exact ht h3.2.symm
theorem sgn_same {M bb:Bool} {z:Nat} (h:(M && decide (0 < (z:Int))) = bb):Fr.sgn bb ((z:Int)).toNat = Fr.sgn M z:=by
 subst h
 cases M
 ·rfl
 ·by_cases h:0 < z
  ·have e:(true && decide (0 < (z:Int))) = true:=by simp; omega
   rw [e]; rfl
  ·have e:z = 0:=by omega
   subst e; rfl
theorem empty_list {s:ByteArray} (h0:s.size = 0):s.toList.isEmpty = true:=by
 rw [ByteArray.toList_eq,empty_text h0]; rfl
theorem minus_none {s:ByteArray} (h0:s.size = 0):Fr.minus s = false:=by
 rw [empty_text h0]; rfl
end Go.Proofs
