/- What Get of the reference's fractions returns, of any text. -/
import Derived.Test.YtcnjcfoaoaldeaaGreatDoorRy
import Derived.Deep.CutRange
import Derived.Deep.CutBlock
set_option linter.unusedVariables false
set_option maxHeartbeats 16000000
set_option maxRecDepth 100000
namespace Go.Proofs
open Go.RowKit
/-- A number has no more digits than its size asks. -/
theorem NumIs.tight {w:World} {v:Value} {z:Int} {n m:Nat} (h:NumIs w v z n) (hz:z < 10000 ^ m):NumIs w v z m:=by
 obtain ⟨xs,h1,h2,h3,h4,h5⟩:=h
 refine ⟨xs,h1,h2,h3,h4,?_⟩
 by_cases h0:xs = []
 ·rw [h0]; simp
 ·have h6:=top_pos h2 h3 h0
  by_cases h7:xs.length ≤ m
  ·exact h7
  ·have h8:(10000:Int) ^ m ≤ 10000 ^ (xs.length - 1):=pow_mono' (by omega)
   omega
theorem ten_four {z k m:Nat} (h:z < 10 ^ k) (hk:k ≤ 4 * m):(z:Int) < 10000 ^ m:=by
 have h1:10 ^ k ≤ 10 ^ (4 * m):=Nat.pow_le_pow_right (by omega) hk
 have h2:(10000:Int) ^ m = ((10 ^ (4 * m):Nat):Int):=by rw [Nat.pow_mul,Int.natCast_pow]; rfl
 rw [h2]
 exact Int.ofNat_lt.2 (Nat.lt_of_lt_of_le h h1)
theorem GnSaid.one {s:ByteArray} {e:Ending} {w:World} (h:GnSaid s e w) :
 ∃ p n c z b,e = .returned (.tuple #[.slice p n c,.bool b]) ∧ b = Tx.plainB s ∧ 0 ≤ z ∧ NumIs w (.slice p n c) z 500 ∧ (b = true → z = Tx.num s):=by
 rcases h with ⟨hp,v,rfl,hv⟩ | ⟨hp,rfl⟩
 ·obtain ⟨p,n,c,rfl⟩:=hv.slice
  have h1:(Tx.num s:Int) < 10000 ^ 500:=by
   refine ten_four (Tx.dv_lt (Tx.plainB_digs hp).2.2) ?_
   rw [Tx.length_list]; exact (Tx.plainB_true.1 hp).2
  exact ⟨p,n,c,_,true,rfl,hp.symm,by omega,hv.tight h1,fun _=>rfl⟩
 ·exact ⟨none,0,0,0,false,rfl,hp.symm,Int.le_refl _,num_nought _ _,fun h=>by simp at h⟩
/-- What Get works on: a fraction of its own at C, its result's cells, two numbers. -/
def RgAt (w W:World) (C:Nat) (bb:Bool) (v dv:Value) (z d:Int):Prop:=
 CellsAt W C #[.bool bb,v,dv] 35 ∧ CellsAt W w.heap.size #[.bool false,.slice none 0 0,.slice none 0 0] 35 ∧ Below w.heap.size w W ∧ NumIs W v z 500 ∧ NumIs W dv d 500
theorem RgAt.below {w W W':World} {C:Nat} {bb:Bool} {v dv:Value} {z d:Int} (h:RgAt w W C bb v dv z d) (hb:Below W.heap.size W W'):RgAt w W' C bb v dv z d:=
 ⟨h.1.below hb,h.2.1.below hb,h.2.2.1.trans (hb.mono h.2.2.1.size),h.2.2.2.1.below hb (Nat.le_refl _),h.2.2.2.2.below hb (Nat.le_refl _)⟩
theorem RgAt.alloc {w W:World} {C:Nat} {bb:Bool} {v dv:Value} {z d:Int} (h:RgAt w W C bb v dv z d) (o:Obj):RgAt w (W.alloc o) C bb v dv z d:=h.below ((Below.refl _ _).alloc (Nat.le_refl _) o)
theorem RgAt.put {w W:World} {C:Nat} {bb:Bool} {v dv u:Value} {z d e:Int} (h:RgAt w W C bb v dv z d) (hC:w.heap.size < C) (hu:NumIs W u e 500):RgAt w (W.setCell ⟨C,2,none⟩ u) C bb v u z e:=
 ⟨h.1.set 2 u,h.2.1.other (by omega) 2 u,h.2.2.1.setCell (p:=⟨C,2,none⟩) (Nat.le_of_lt hC) u,h.2.2.2.1.store h.1 (by decide) 2 u,hu.store h.1 (by decide) 2 u⟩
/-- What is done: the result's cells are written. -/
def RDone (w W:World) (b:Bool) (u v:Value):Prop:=CellsAt W w.heap.size #[.bool b,u,v] 35 ∧ Below w.heap.size w W
theorem rDone {w W:World} (hc:CellsAt W w.heap.size #[.bool false,.slice none 0 0,.slice none 0 0] 35) (hb:Below w.heap.size w W) (b:Bool) (u v:Value) :
 RDone w (((W.setCell ⟨w.heap.size,0,none⟩ (.bool b)).setCell ⟨w.heap.size,1,none⟩ u).setCell ⟨w.heap.size,2,none⟩ v) b u v:=
 ⟨hc.put3,((hb.setCell (p:=⟨w.heap.size,0,none⟩) (Nat.le_refl _) _).setCell (p:=⟨w.heap.size,1,none⟩) (Nat.le_refl _) _).setCell (p:=⟨w.heap.size,2,none⟩) (Nat.le_refl _) _⟩
namespace Vt
open Go.Proofs.Fr
/-- What the reference reads of a text of any length. -/
def RGetA (s:ByteArray) (w:World) (e:Ending):Prop:=
 (∃ q v,getQ s = some q ∧ e = .returned (.tuple #[v,.bool true]) ∧ QIs w v q 500) ∨ (getQ s = none ∧ ∃ a n c,e = .returned (.tuple #[.agg #[.bool false,.slice none 0 0,.slice a n c],.bool false]))
/-- Behind the second number: is the text a fraction's so far? -/
def RgOk (s:ByteArray) (b:Bool) (z d:Int):Prop:=
 (b = false → getQ s = none) ∧ (b = true → Tx.plainB (upper s) = true ∧ z = Tx.num (upper s) ∧ 1 ≤ d ∧ (stroke (size s) < (size s).size → Tx.plainB (lower s) = true ∧ d = Tx.num (lower s)) ∧ (¬stroke (size s) < (size s).size → d = 1))
theorem rgYes {s:ByteArray} {z d:Int} {bb:Bool} (h:RgOk s true z d) (hbb:(minus s && decide (0 < z)) = bb) (h0:0 ≤ z) (h1:¬(d = 1 ∧ stroke (size s) < (size s).size)) (h2:¬(minus s = true ∧ z = 0)) (h3:(Int.gcd z d:Int) = 1) :
 ∃ q,getQ s = some q ∧ (bb = true → 1 ≤ z) ∧ q = mkRat (sgn bb z.toNat) d.toNat:=by
 obtain ⟨g1,g2,g3,g4,g5⟩:=h.2 rfl
 subst g2
 have e:sgn bb ((Tx.num (upper s):Int)).toNat = sgn (minus s) (Tx.num (upper s)):=sgn_same hbb
 have hn:¬(minus s = true ∧ Tx.num (upper s) = 0):=fun g=>h2 ⟨g.1,by rw [g.2]; rfl⟩
 have hz:bb = true → 1 ≤ (Tx.num (upper s):Int):=fun g=>by rw [← hbb] at g; simp at g; omega
 by_cases hk:stroke (size s) < (size s).size
 ·obtain ⟨k1,rfl⟩:=g4 hk
  rw [Int.gcd_natCast_natCast] at h3
  have h4:1 < Tx.num (lower s):=by
   have:¬((Tx.num (lower s):Int) = 1):=fun g=>h1 ⟨g,hk⟩
   omega
  exact ⟨_,getQ_two hk g1 hn k1 ⟨by omega,h4⟩,hz,by rw [e]; rfl⟩
 ·obtain rfl:=g5 hk
  exact ⟨_,getQ_whole hk g1 hn,hz,by rw [e]; exact rat_int rfl⟩
theorem rgNo {s:ByteArray} {z d:Int} (h:RgOk s true z d) (h1:(d = 1 ∧ stroke (size s) < (size s).size) ∨ (minus s = true ∧ z = 0) ∨ ¬(Int.gcd z d:Int) = 1):getQ s = none:=by
 obtain ⟨g1,g2,g3,g4,g5⟩:=h.2 rfl
 subst g2
 by_cases hk:stroke (size s) < (size s).size
 ·obtain ⟨k1,rfl⟩:=g4 hk
  rw [Int.gcd_natCast_natCast] at h1
  rcases h1 with h1 | h1 | h1
  ·exact getQ_no2 hk (.inr (by omega))
  ·exact getQ_no (.inr ⟨h1.1,by omega⟩)
  ·exact getQ_no2 hk (.inr (fun g=>h1 (by omega)))
 ·obtain rfl:=g5 hk
  rcases h1 with h1 | h1 | h1
  ·exact absurd h1.2 hk
  ·exact getQ_no (.inr ⟨h1.1,by omega⟩)
  ·simp at h1
theorem rgFirst {s t:ByteArray} {k:Nat} {b1:Bool} {z:Int} (hs:size s = t) (hk:stroke t = k) (hp:b1 = Tx.plainB (upper s)) (hz:b1 = true → z = Tx.num (upper s)) (hg:(b1 && decide (k < t.size)) = false):RgOk s b1 z 1:=by
 refine ⟨fun h=>getQ_no (.inl (by rw [← hp,h])),fun h=>?_⟩
 subst h
 refine ⟨hp.symm,hz rfl,by omega,fun g=>?_,fun _=>rfl⟩
 rw [hs,hk] at g
 simp at hg; omega
theorem rgSecond {s t:ByteArray} {k n:Nat} {b3:Bool} {z d:Int} (hs:size s = t) (hk:stroke t = k) (hp:true = Tx.plainB (upper s)) (hz:true = true → z = Tx.num (upper s)) (hlt:k < t.size) (hp3:b3 = Tx.plainB (lower s)) (hd:b3 = true → d = Tx.num (lower s)) (hd0:0 ≤ d) (hn:n = 0 ↔ d = 0) (b:Bool) (hb:b = (b3 && decide (0 < n))):RgOk s b z d:=by
 subst hb
 have hl:stroke (size s) < (size s).size:=by rw [hs,hk]; exact hlt
 refine ⟨fun h=>?_,fun h=>?_⟩
 ·cases b3
  ·exact getQ_no2 hl (.inl hp3.symm)
  ·have h0:d = 0:=hn.1 (by simp at h; omega)
   exact getQ_no2 hl (.inr (by rw [hd rfl] at h0; omega))
 ·simp only [Bool.and_eq_true,decide_eq_true_eq] at h
  obtain ⟨rfl,h⟩:=h
  exact ⟨hp.symm,hz rfl,by
   have:¬d = 0:=fun g=>by
    have:=hn.2 g
    omega
   omega,fun _=>⟨hp3.symm,hd rfl⟩,fun g=>absurd hl g⟩
theorem Tryz.rGetA (s:ByteArray) (w:World) (hs:s.size ≤ 9223372036854775807) :
 Calls Tryz.prog 16 #[.string s] w fun e w'=>RGetA s w' e ∧ Below w.heap.size w w':=by
 have HB0:Hid (Below w.heap.size w (w.alloc (.cells #[.bool false,.slice none 0 0,.slice none 0 0] 35))):=(Below.refl _ _).alloc (Nat.le_refl _) _
 have HR0:Hid (CellsAt (w.alloc (.cells #[.bool false,.slice none 0 0,.slice none 0 0] 35)) w.heap.size #[.bool false,.slice none 0 0,.slice none 0 0] 35):=CellsAt.new _ _ _ rfl
 have hbd2:∀ (g:Nat) (w:World),(Instr.build 35 #[(2,.slice (some ⟨g,0,none⟩) 1 1)]).run Tryz.prog w = .ok (.agg #[.bool false,.slice none 0 0,.slice (some ⟨g,0,none⟩) 1 1]) w:=fun g w=>run_build w 35 _ _ (by kernel_rfl)
 go_enter Tryz.func16,Tryz.ntmps16
 go_upto_region 1 with (fail)
 go_cut [4,5] from 10 to 17 (fun tv nv wx=>tv = .string s ∧ nv = .bool (minus s) ∧ CellsAt wx w.heap.size #[.bool false,.slice none 0 0,.slice none 0 0] 35 ∧ Below w.heap.size w wx)
 case first=>
  by_cases h0:s.size = 0
  ·have hE:=empty_list h0
   have HM:=Lib.hid (minus_none h0)
   clear h0
   go_quiet (fail)
   go_wp2
   go_meet
   exact ⟨rfl,by rw [HM.out],HR0.out.drewN nq,ryBelow HB0.out nq⟩
  ·have hE:=nonempty_list h0
   have hP:0 < s.size:=by omega
   have HM:=Lib.hid (minus_at hP)
   by_cases hb:(s[0].toNat:Int) = 45
   ·have hb1:((s[0].toNat:Int) == 45) = true:=by simpa using hb
    have HD:=Lib.hid (decide_eq_true hb)
    clear hb h0
    go_quiet (fail)
    go_wp2
    go_meet
    exact ⟨rfl,by rw [HM.out,HD.out],HR0.out.drewN nq,ryBelow HB0.out nq⟩
   ·have hb1:((s[0].toNat:Int) == 45) = false:=by simpa using hb
    have HD:=Lib.hid (decide_eq_false hb)
    clear hb h0
    go_quiet (fail)
    go_wp2
    go_meet
    exact ⟨rfl,by rw [HM.out,HD.out],HR0.out.drewN nq,ryBelow HB0.out nq⟩
 case rest=>
  obtain ⟨rfl,rfl,hr1,hb1⟩:=hcut
  rename World=>w1
  have HR1:=Lib.hid hr1
  have HB1:=Lib.hid hb1
  clear hr1 hb1 HR0 HB0
  have HTL:=Lib.hid (size_le s)
  obtain ⟨M,hM⟩:∃ M,minus s = M:=⟨_,rfl⟩
  rw [hM]
  have HM:=Lib.hid hM
  clear hM
  go_upto_if 18 with (fail)
  go_cut [4] from 18 to 20 (fun tv wx=>tv = .string (size s) ∧ w1 = wx)
  case first=>
   cases M
   ·have HS:Hid (size s = s):=by show _ = _; rw [size_minus,HM.out]; rfl
    go_wp2
    go_meet
    exact ⟨by rw [HS.out],rfl⟩
   ·have HS:Hid (size s = s.extract 1 s.size):=by show _ = _; rw [size_minus,HM.out]; rfl
    have hP:(1:Int) ≤ s.size:=by
     by_cases h0:s.size = 0
     ·have:=HM.out
      rw [minus_none h0] at this; simp at this
     ·omega
    go_wp2
    go_meet
    exact ⟨by rw [HS.out],rfl⟩
  case rest=>
   obtain ⟨rfl,rfl⟩:=hcut
   obtain ⟨t,ht⟩:∃ t,size s = t:=⟨_,rfl⟩
   have HS:=Lib.hid ht
   rw [ht] at HTL ⊢
   clear ht
   have hts:t.size ≤ 9223372036854775807:=by have:=HTL.out; omega
   go_upto_block 0 with (fail)
   go_cut [6] from 21 to 32 (fun kv wx=>kv = .int .i64 (stroke t) ∧ w1 = wx)
   case first=>
    have hkl:=stroke_le t
    go_wp2_with fail
    go_loop [6] (fun kv=>∃ k:Nat,kv = .int .i64 k ∧ k ≤ stroke t) (fun kv=>t.size - (intOf kv).toNat)
    case atStart=>exact ⟨0,rfl,Nat.zero_le _⟩
    case round=>
     obtain ⟨k,rfl,hk⟩:=hrel
     by_cases hlt:k < t.size
     ·have hat:=stroke_at hlt hk
      by_cases h47:(t[k].toNat:Int) = 47
      ·have HK:Hid (stroke t = k):=(hat.1 h47).symm
       have hn47:((t[k].toNat:Int) != 47) = false:=by simpa using h47
       clear hat hk h47 hkl
       go_wp2_with fail
       go_meet
       exact ⟨by rw [HK.out],rfl⟩
      ·have h2:=hat.2 h47
       have hn47:((t[k].toNat:Int) != 47) = true:=by simpa using h47
       clear hat
       go_wp2
       exact ⟨⟨k + 1,by simp,h2⟩,by simp [intOf]; omega⟩
     ·have HK:Hid (stroke t = k):=by show _ = _; omega
      clear hk hkl
      go_wp2_with fail
      go_meet
      exact ⟨by rw [HK.out],rfl⟩
   case rest=>
    obtain ⟨rfl,rfl⟩:=hcut
    have hkl:=stroke_le t
    obtain ⟨k,hk⟩:∃ k,stroke t = k:=⟨_,rfl⟩
    have HK:=Lib.hid hk
    rw [hk] at hkl ⊢
    clear hk
    have c2:(k:Int) ≤ t.size:=by omega
    go_wp2_with fail
    have HUP:Hid (upper s = t.extract 0 k):=by show _ = _; unfold upper; rw [HS.out,HK.out]
    with_reducible refine (Tryz.getNX (t.extract 0 k) _ (by rw [ByteArray.size_extract]; have:=HTL.out; omega)).mono ?_
    rintro e w2 ⟨hg,hb2⟩
    obtain ⟨p,n,c,z,b1,rfl,hp1,hz0,hn,hz1⟩:=hg.one
    have HB2:=Lib.hid (HB1.out.trans (hb2.mono HB1.out.size))
    have HR2:=Lib.hid (HR1.out.below hb2)
    have HN3:=Lib.hid (hn.alloc (.cells #[.int .i64 1] 3))
    have HO3:=Lib.hid ((NumIs.one w2 1 (by omega) (by omega)).mono (show 1 ≤ 500 by omega))
    have HR3:=Lib.hid (HR2.out.alloc (.cells #[.int .i64 1] 3))
    have HB3:=Lib.hid (HB2.out.alloc HB2.out.size (.cells #[.int .i64 1] 3))
    have HZ0:=Lib.hid hz0
    have HZ1:Hid (b1 = true → z = Tx.num (upper s)):=by show _ → _; rw [HUP.out]; exact hz1
    have HP1:Hid (b1 = Tx.plainB (upper s)):=by show _ = _; rw [hp1,HUP.out]
    clear HB1 HR1 hb2 hg hn hz0 hz1 hp1 HB2 HR2
    go_wp2_with fail
    with_reducible refine (Tryz.rFrac M (.slice p n c) (.slice (some ⟨w2.heap.size,0,none⟩) 1 1) z 1 _ _ _ HN3.out HO3.out).mono ?_
    rintro e w4 ⟨rfl,hb4⟩
    obtain ⟨bb,hbb⟩:∃ bb:Bool,(M && decide (0 < z)) = bb:=⟨_,rfl⟩
    rw [hbb]
    have HBB:=Lib.hid hbb
    have HR4:=HR3.out.below hb4
    have HA5:=Lib.hid (show RgAt w (w4.alloc (.cells #[.bool bb,.slice p n c,.slice (some ⟨w2.heap.size,0,none⟩) 1 1] 35)) w4.heap.size bb (.slice p n c) (.slice (some ⟨w2.heap.size,0,none⟩) 1 1) z 1 from
     ⟨CellsAt.new _ _ _ rfl,HR4.alloc _,(HB3.out.trans (hb4.mono HB3.out.size)).alloc (HB3.out.trans (hb4.mono HB3.out.size)).size _,(HN3.out.below hb4 (Nat.le_refl _)).alloc _,(HO3.out.below hb4 (Nat.le_refl _)).alloc _⟩)
    have hBC:=HR4.lt
    clear hbb hb4 HR3 HB3 HN3 HO3 HR4
    go_upto_region 9 with (fail)
    rw [set3]
    obtain ⟨C,hC⟩:∃ C,w4.heap.size = C:=⟨_,rfl⟩
    rw [hC] at HA5 hBC ⊢
    generalize (w4.alloc (.cells #[.bool bb,.slice p n c,.slice (some ⟨w2.heap.size,0,none⟩) 1 1] 35)) = w5 at *
    clear hC
    go_cut [50] from 44 to 49 (fun cv wx=>cv = .bool (b1 && decide (k < t.size)) ∧ w5 = wx)
    case first=>
     cases b1
     ·go_wp2
      go_meet
      exact ⟨rfl,rfl⟩
     ·go_wp2
      go_meet
      exact ⟨rfl,rfl⟩
    case rest=>
     obtain ⟨rfl,rfl⟩:=hcut
     obtain ⟨g,hg⟩:∃ g,(b1 && decide (k < t.size)) = g:=⟨_,rfl⟩
     rw [hg]
     have HG:=Lib.hid hg
     clear hg
     go_upto_if 50 with (fail)
     go_cut [8] from 51 to 66 (fun okv wx=>∃ b2 p2 n2 c3 d,okv = .bool b2 ∧ RgAt w wx C bb (.slice p n c) (.slice p2 n2 c3) z d ∧ RgOk s b2 z d)
     case first=>
      cases g
      ·go_wp2
       go_meet
       exact ⟨b1,_,_,_,1,rfl,HA5.out,rgFirst HS.out HK.out HP1.out HZ1.out HG.out⟩
      ·have hg:=HG.out
       simp only [Bool.and_eq_true,decide_eq_true_eq] at hg
       obtain ⟨rfl,hlt⟩:=hg
       have c3:(k:Int) + 1 ≤ t.size:=by omega
       have c5:(0:Int) ≤ (k:Int) + 1:=by omega
       have HLO:Hid (lower s = t.extract (k + 1) t.size):=by show _ = _; unfold lower; rw [HS.out,HK.out]
       have HLT:Hid (k < t.size):=by show _ < _; omega
       clear hlt
       go_wp2_with fail
       with_reducible refine (Tryz.getNX (t.extract (k + 1) t.size) _ (by rw [ByteArray.size_extract]; omega)).mono ?_
       rintro e w6 ⟨hg,hb6⟩
       obtain ⟨p2,n2,c3,d,b3,rfl,hp3,hd0,hn2,hd1⟩:=hg.one
       have HA6:=Lib.hid (HA5.out.below hb6)
       have HA7:=Lib.hid (HA6.out.put hBC hn2)
       have HN2:=Lib.hid (num_empty hn2).1
       have HOK:=Lib.hid (fun b (hb:b = (b3 && decide (0 < n2)))=>rgSecond HS.out HK.out HP1.out (fun _=>HZ1.out (by simp)) HLT.out (by rw [HLO.out]; exact hp3) (by rw [HLO.out]; exact hd1) hd0 HN2.out b hb)
       clear hg hb6 hp3 hd1
       obtain ⟨w7,hw7⟩:∃ W,w6.setCell ⟨C,2,none⟩ (.slice p2 n2 c3) = W:=⟨_,rfl⟩
       rw [hw7] at HA7
       have a2:=HA6.out.1.cell 2
       have af2:=HA6.out.1.free 2
       have e2:=HA7.out.1.cell 2
       simp only [List.getElem?_toArray,List.getElem?_cons_succ,List.getElem?_cons_zero] at a2 e2
       clear hn2
       cases b3
       ·go_wp2
        go_meet
        exact ⟨_,_,_,_,d,rfl,HA7.out,HOK.out _ rfl⟩
       ·go_wp2
        go_meet
        exact ⟨_,_,_,_,d,rfl,HA7.out,HOK.out _ rfl⟩
     case rest=>
      obtain ⟨b2,p2,n2,c3,d,rfl,ha,hok⟩:=hcut
      rename World=>w8
      have HA8:=Lib.hid ha
      have HOK:=Lib.hid hok
      clear ha hok HA5 HP1 HZ1 HG
      go_upto_region 12 with (fail)
      go_cut [105] from 67 to 104 (fun bv wx=>∃ bad,bv = .bool bad ∧ RgAt w wx C bb (.slice p n c) (.slice p2 n2 c3) z d ∧ (bad = true → getQ s = none) ∧ (bad = false → ∃ q,getQ s = some q ∧ (bb = true → 1 ≤ z) ∧ q = mkRat (sgn bb z.toNat) d.toNat ∧ 1 ≤ d))
      case first=>
       cases b2
       ·have hno:=HOK.out.1 rfl
        have HNO:=Lib.hid hno
        clear hno
        go_wp2
        go_meet
        exact ⟨true,rfl,HA8.out,fun _=>HNO.out,fun h=>by simp at h⟩
       ·have a1:=HA8.out.1.cell 1
        have a2:=HA8.out.1.cell 2
        simp only [List.getElem?_toArray,List.getElem?_cons_succ,List.getElem?_cons_zero] at a1 a2
        have HN:=Lib.hid HA8.out.2.2.2.1
        have HD:=Lib.hid HA8.out.2.2.2.2
        have HD1:Hid (1 ≤ d):=(HOK.out.2 rfl).2.2.1
        have alt:(∃ g2,n2 = 1 ∧ p2 = some ⟨g2,0,none⟩ ∧ w8.cell? ⟨g2,0,none⟩ = some (.int .i64 d)) ∨ ((n2:Int) == 1) = false:=by
         by_cases h:n2 = 1
         ·subst h
          obtain ⟨g2,e,hg2,-⟩:=num_single HD.out
          exact .inl ⟨g2,rfl,e,hg2⟩
         ·exact .inr (by simp; omega)
        have HNZ:=Lib.hid (num_empty HN.out).1
        have HDB:Hid (((n2:Int) == 1) = false → ¬d = 1):=by
         show _ → _
         intro h e
         have:=num_digit HD.out (by omega) (by omega)
         simp at h; omega
        have HKK:Hid (decide (k < t.size) = decide (stroke (size s) < (size s).size)):=by show _ = _; rw [HS.out,HK.out]
        have fin:∀ x,(¬(d = 1 ∧ stroke (size s) < (size s).size)) → (¬(minus s = true ∧ z = 0)) → cmpI (Int.gcd z d:Int) 1 = x → ∀ wx,RgAt w wx C bb (.slice p n c) (.slice p2 n2 c3) z d → ∃ bad,Value.bool (x != 0) = .bool bad ∧ RgAt w wx C bb (.slice p n c) (.slice p2 n2 c3) z d ∧ (bad = true → getQ s = none) ∧ (bad = false → ∃ q,getQ s = some q ∧ (bb = true → 1 ≤ z) ∧ q = mkRat (sgn bb z.toNat) d.toNat ∧ 1 ≤ d):=by
         intro x h1 h2 hx wx hat
         refine ⟨_,rfl,hat,fun h=>?_,fun h=>?_⟩
         ·refine rgNo HOK.out (.inr (.inr fun e=>?_))
          rw [cmpI_eq e] at hx
          subst hx
          simp at h
         ·have e : (Int.gcd z d : Int) = 1 := by
           have hp:0 < Int.gcd z d:=Int.gcd_pos_of_ne_zero_right z (by have:=HD1.out; omega)
           by_cases e:(Int.gcd z d:Int) = 1
           ·exact e
           ·rw [cmpI_gt (by omega)] at hx
            subst hx
            simp at h
          obtain ⟨q,g1,g2,g3⟩:=rgYes (bb:=bb) HOK.out (by rw [HM.out]; exact HBB.out) HZ0.out h1 h2 e
          exact ⟨q,g1,g2,g3,HD1.out⟩
        have FIN:=Lib.hid fin
        clear fin
        have alt2:(∃ g2,n2 = 1 ∧ p2 = some ⟨g2,0,none⟩ ∧ w8.cell? ⟨g2,0,none⟩ = some (.int .i64 d) ∧ ((d:Int) == 1) = true ∧ decide (k < t.size) = true) ∨
         ((∃ g2,n2 = 1 ∧ p2 = some ⟨g2,0,none⟩ ∧ w8.cell? ⟨g2,0,none⟩ = some (.int .i64 d) ∧ ((d:Int) == 1) = true ∧ decide (k < t.size) = false) ∧ ¬(d = 1 ∧ stroke (size s) < (size s).size)) ∨
         ((∃ g2,n2 = 1 ∧ p2 = some ⟨g2,0,none⟩ ∧ w8.cell? ⟨g2,0,none⟩ = some (.int .i64 d) ∧ ((d:Int) == 1) = false) ∧ ¬(d = 1 ∧ stroke (size s) < (size s).size)) ∨
         (((n2:Int) == 1) = false ∧ ¬(d = 1 ∧ stroke (size s) < (size s).size)):=by
         have hkk:=HKK.out
         rcases alt with ⟨g2,h1,h2,h3⟩ | h1
         ·by_cases hd:d = 1
          ·by_cases hl:k < t.size
           ·exact .inl ⟨g2,h1,h2,h3,by simpa using hd,by simpa using hl⟩
           ·exact .inr (.inl ⟨⟨g2,h1,h2,h3,by simpa using hd,by simpa using hl⟩,fun h=>hl (by rw [decide_eq_decide] at hkk; exact hkk.2 h.2)⟩)
          ·exact .inr (.inr (.inl ⟨⟨g2,h1,h2,h3,by simpa using hd⟩,fun h=>hd h.1⟩))
         ·exact .inr (.inr (.inr ⟨h1,fun h=>HDB.out h1 h.1⟩))
        have alt3:(M = true ∧ ((n:Int) == 0) = true ∧ z = 0) ∨ (M = true ∧ ((n:Int) == 0) = false ∧ ¬z = 0) ∨ M = false:=by
         have hnz:=HNZ.out
         cases M
         ·exact .inr (.inr rfl)
         ·by_cases hz:z = 0
          ·exact .inl ⟨rfl,by have:=hnz.2 hz; simp; omega,hz⟩
          ·exact .inr (.inl ⟨rfl,by simp; omega,hz⟩)
        have ALT3:=Lib.hid alt3
        clear alt alt3
        rcases alt2 with ⟨g2,rfl,rfl,x1,x2,x3⟩ | ⟨⟨g2,rfl,rfl,x1,x2,x3⟩,hx⟩ | ⟨⟨g2,rfl,rfl,x1,x2⟩,hx⟩ | ⟨x1,hx⟩
        ·have HX:Hid (d = 1 ∧ stroke (size s) < (size s).size):=⟨by simpa using x2,by have:=HKK.out; rw [x3] at this; simpa using this.symm⟩
         go_wp2
         go_meet
         exact ⟨true,rfl,HA8.out,fun _=>rgNo HOK.out (.inl HX.out),fun h=>by simp at h⟩
        all_goals
         have HX:=Lib.hid hx
         clear hx
         rcases ALT3.out with ⟨rfl,y1,y2⟩ | ⟨rfl,y1,y2⟩ | rfl
         ·have HY:Hid (minus s = true ∧ z = 0):=⟨HM.out,y2⟩
          clear y2 ALT3
          go_wp2
          go_meet
          exact ⟨true,rfl,HA8.out,fun _=>rgNo HOK.out (.inr (.inl HY.out)),fun h=>by simp at h⟩
         all_goals
          have HY:Hid (¬(minus s = true ∧ z = 0)):=by
           show ¬_
           rw [HM.out]
           first
            | exact fun h=>y2 h.2
            | exact fun h=>by simp at h
          clear ALT3
          try clear y2
          go_wp2_with fail
          with_reducible refine (Tryz.rGcd _ _ z d 500 500 _ HN.out HD.out (by omega) (by omega)).mono ?_
          rintro e wg ⟨⟨r,rfl,hr⟩,hbg⟩
          obtain ⟨wk,hwk⟩:∃ W,wg.alloc (.cells #[.int .i64 1] 3) = W:=⟨_,rfl⟩
          have HAK:=Lib.hid ((HA8.out.below hbg).alloc (.cells #[.int .i64 1] 3))
          have HGK:=Lib.hid (hr.alloc (.cells #[.int .i64 1] 3))
          have HO:=Lib.hid (NumIs.one wg 1 (by omega) (by omega))
          rw [hwk] at HAK HGK
          have HOK1:Hid (NumIs wk (.slice (some ⟨wg.heap.size,0,none⟩) 1 1) 1 1):=by
           show NumIs _ _ _ _
           rw [← hwk]; exact HO.out
          clear hr hbg HO
          go_wp2_with fail
          clear hwk
          with_reducible refine (Tryz.nCmp HGK.out HOK1.out).mono ?_
          rintro e wx ⟨rfl,rfl⟩
          obtain ⟨x,hx⟩:∃ x,cmpI (Int.gcd z d:Int) 1 = x:=⟨_,rfl⟩
          rw [hx]
          have HFIN:=Lib.hid (FIN.out x HX.out HY.out hx _ HAK.out)
          clear hx
          go_wp2
          go_meet
          exact HFIN.out
      case rest=>
       obtain ⟨bad,rfl,ha,hno,hyes⟩:=hcut
       rename World=>w9
       have HA9:=Lib.hid ha
       have HNO:=Lib.hid hno
       have HYES:=Lib.hid hyes
       clear ha hno hyes HA8 HOK
       cases bad
       ·obtain ⟨q,g1,g2,g3,g4⟩:=HYES.out rfl
        have HQ:Hid (QIs w9 (.agg #[.bool bb,.slice p n c,.slice p2 n2 c3]) q 500):=⟨bb,_,_,z,d,rfl,HA9.out.2.2.2.1,HA9.out.2.2.2.2,g4,g2,g3⟩
        have HG1:=Lib.hid g1
        have HF:=Lib.hid (rDone HA9.out.2.1 HA9.out.2.2.1 bb (.slice p n c) (.slice p2 n2 c3))
        clear g1 g2 g3 g4 HNO HYES
        have a0:=HA9.out.1.cell 0
        have a1:=HA9.out.1.cell 1
        have a2:=HA9.out.1.cell 2
        have r0:=HA9.out.2.1.cell 0
        have r1:=HA9.out.2.1.cell 1
        have r2:=HA9.out.2.1.cell 2
        simp only [List.getElem?_toArray,List.getElem?_cons_succ,List.getElem?_cons_zero] at a0 a1 a2 r0 r1 r2
        have rf0:=HA9.out.2.1.free 0
        have rf1:=HA9.out.2.1.free 1
        have rf2:=HA9.out.2.1.free 2
        go_wp2
        have HQZ:=HF.out
        have HQ2:=HQ.out
        obtain ⟨neg,N,D,zz,dd,q1,q2,q3,q4⟩:=HQ2
        have q2':=q2.put3 (x:=.bool bb) (y:=.slice p n c) (u:=.slice p2 n2 c3) HA9.out.2.1 (by decide)
        have q3':=q3.put3 (x:=.bool bb) (y:=.slice p n c) (u:=.slice p2 n2 c3) HA9.out.2.1 (by decide)
        have HQ3:=Lib.hid (show QIs _ _ q 500 from ⟨neg,N,D,zz,dd,q1,q2',q3',q4⟩)
        clear q1 q2 q3 q4 q2' q3'
        generalize (((w9.setCell ⟨w.heap.size,0,none⟩ (.bool bb)).setCell ⟨w.heap.size,1,none⟩ (.slice p n c)).setCell ⟨w.heap.size,2,none⟩ (.slice p2 n2 c3)) = wz at *
        obtain ⟨f1,f2⟩:=HF.out
        have z0:=f1.cell 0
        have z1:=f1.cell 1
        have z2:=f1.cell 2
        simp only [List.getElem?_toArray,List.getElem?_cons_succ,List.getElem?_cons_zero] at z0 z1 z2
        (try simp only [Exit.inBlock,Exit.then])
        refine bodyPost_ret (v:=.tuple #[.agg #[.bool bb,.slice p n c,.slice p2 n2 c3],.bool true]) (by simp [results,Tryz.results16,go_sem,z0,z1,z2]; try rfl) rfl ⟨.inl ⟨q,_,HG1.out,rfl,HQ3.out⟩,f2⟩
       ·have HN:=Lib.hid (HNO.out rfl)
        have HA:=Lib.hid (HA9.out.alloc (.cells #[.int .i64 1] 3))
        have HF:=Lib.hid (rDone HA.out.2.1 HA.out.2.2.1 false (.slice none 0 0) (.slice (some ⟨w9.heap.size,0,none⟩) 1 1))
        have r0:=HA.out.2.1.cell 0
        have r1:=HA.out.2.1.cell 1
        have r2:=HA.out.2.1.cell 2
        simp only [List.getElem?_toArray,List.getElem?_cons_succ,List.getElem?_cons_zero] at r0 r1 r2
        have rf0:=HA.out.2.1.free 0
        have rf1:=HA.out.2.1.free 1
        have rf2:=HA.out.2.1.free 2
        go_wp2
        generalize (((((w9.alloc (.cells #[.int .i64 1] 3))).setCell ⟨w.heap.size,0,none⟩ (.bool false)).setCell ⟨w.heap.size,1,none⟩ (.slice none 0 0)).setCell ⟨w.heap.size,2,none⟩ (.slice (some ⟨w9.heap.size,0,none⟩) 1 1)) = wz at *
        obtain ⟨f1,f2⟩:=HF.out
        have z0:=f1.cell 0
        have z1:=f1.cell 1
        have z2:=f1.cell 2
        simp only [List.getElem?_toArray,List.getElem?_cons_succ,List.getElem?_cons_zero] at z0 z1 z2
        (try simp only [Exit.inBlock,Exit.then])
        refine bodyPost_ret (v:=.tuple #[.agg #[.bool false,.slice none 0 0,.slice (some ⟨w9.heap.size,0,none⟩) 1 1],.bool false]) (by simp [results,Tryz.results16,go_sem,z0,z1,z2]; try rfl) rfl ⟨.inr ⟨HN.out,_,_,_,rfl⟩,f2⟩
end Vt
end Go.Proofs
