/- Matrices: what add at a part of a line, and putBack of the package mat do. Matrices: what answers of the package mat returns. Matrices: what Rank and Inverse of the package mat return. Matrices: what Solve of the package mat returns. MatTall: of more rows than columns there is one solution, or none: the call returns true. MatSolve: there is one solution exactly where there is an inverse: the call returns true. -/
import Derived.Test.YtcnjcfoaoaldeaaGreatDoorRn
import Derived.Test.YtcnjcfoaoaldeaaGreatDoorMv
import Derived.Test.YtcnjcfoaoaldeaaGreatDoorMf
set_option linter.unusedVariables false
set_option maxHeartbeats 16000000
set_option maxRecDepth 100000
namespace Go.Proofs.Mt
open Go.RowKit Go.Proofs.Wd Go.Proofs.Fr Go.Proofs.Vt Go.Proofs.Mm
/-- What stands in a line behind the add of a part. -/
def addH (f fw:Nat → Rat) (q:Rat) (o:Nat):Nat → Rat:=fun x=>if x < o then f x else f x + q * fw (x - o)
def addG (f fw:Nat → Rat) (q:Rat) (o i:Nat):Nat → Rat:=fun x=>if o ≤ x ∧ x < o + i then f x + q * fw (x - o) else f x
theorem Tryz.matAddAt (g N o n cap:Nat) (u v:Value) (f fw:Nat → Rat) (q:Rat) (k i j:Nat) (w:World) (ho:LineO w g N cap f k) (hon:o + n = N) (hu:FracIs w u q i) (hv:LineR w v n fw j) (hne:∀ b o m c,v = .slice (some ⟨b,o,none⟩) m c → 0 < m → b ≠ g) (hn:0 < n) (hn9:n ≤ 1000) (hk:1 ≤ k) (hi:1 ≤ i) (hj:1 ≤ j) (hs:k + i + j + 1 ≤ 30000000000) :
 Calls Tryz.prog 79 #[.slice (some ⟨g,o,none⟩) n (cap - o),u,v] w fun e w'=>e = .returned (.tuple #[]) ∧ LineO w' g N cap (addH f fw q o) (k + i + j + 1) ∧ w.grownBy w' (some g):=by
 have HODD:=Lib.hid (ho.odd (by omega))
 have HO:=Lib.hid ho
 have HU:=Lib.hid hu
 have HV:=Lib.hid hv
 have HNE:=Lib.hid hne
 have hc:=ho.le
 have hc9:=ho.max
 obtain ⟨p,cap2,rfl,c1,c2⟩:=hv.slice
 obtain ⟨ua,rfl⟩:=frac_pointer hu
 unfold maxLen at c2 hc9
 obtain ⟨s,hs0⟩:∃ s:Int,q.num.sign = s:=⟨_,rfl⟩
 have e0:(s == 0) = decide (q = 0):=by rw [← hs0,Bool.eq_iff_iff]; simp
 have HSG:Hid (∀ W,FracIs W (.pointer ua) q i → Calls Tryz.prog 64 #[.pointer ua] W fun e w'=>e = .returned (.int .i64 s) ∧ Below W.heap.size W w'):=fun W h=>by
  have:=Tryz.Sign (.pointer ua) q i W h
  rw [hs0] at this
  exact this
 have HSZ:Hid (∀ x,x < n → Sz (f (o + x)) k):=fun x hx=>by
  obtain ⟨a,-,-,h⟩:=ho.cell (j:=o + x) (by omega)
  exact h.sz hk
 clear ho hu hv hne hs0
 go_enter Tryz.func79,Tryz.ntmps79
 go_wp2_with fail
 with_reducible refine (HSG.out _ HU.out).mono ?_
 rintro e w1 ⟨rfl,hb1⟩
 have HG1:=Lib.hid (grown_of_below hb1 (some g))
 have HO1:=Lib.hid (HO.out.below hb1)
 clear hb1 HSG HO
 by_cases hq:q = 0
 ·have e1:decide (q = 0) = true:=by simpa using hq
  have HR:Hid (LineO w1 g N cap (addH f fw q o) (k + i + j + 1)):=HO1.out.congr (fun x _=>by rw [addH,hq]; split <;> simp [Rat.zero_mul,Rat.add_zero]) (by omega)
  clear hq HO1 HNE
  go_wp2
  exact bodyPost_ret (v:=.tuple #[]) (by simp [results,Tryz.results79,go_sem]; try rfl) rfl ⟨rfl,HR.out,HG1.out⟩
 ·have e1:decide (q = 0) = false:=by simpa using hq
  clear hq
  go_wp2_with fail
  go_loopw [13] (fun iv wr=>∃ x:Nat,iv = .int .i64 x ∧ x ≤ n ∧ LineO wr g N cap (addG f fw q o x) (k + i + j + 1) ∧ w.grownBy wr (some g)) (fun iv _=>n - (intOf iv).toNat)
  case atStart=>exact ⟨0,rfl,Nat.zero_le _,HO1.out.congr (fun x _=>by rw [addG,if_neg (by omega)]) (by omega),HG1.out⟩
  case round=>
   obtain ⟨x,rfl,hx,ho,hg⟩:=hrel
   clear HO1 HG1
   by_cases hlt:x < n
   ·obtain ⟨g',o',cap',b,he,-,-,d0,hb,hg'⟩:=HV.out.nth hlt
    simp only [Value.slice.injEq,true_and] at he
    obtain ⟨rfl,rfl⟩:=he
    have hgg:=HNE.out g' o' n cap2 rfl hn
    have d0:=hg.cell d0 (by simpa using hgg)
    have HFB:=Lib.hid (frac_far hb hg HODD.out)
    have HFU:=Lib.hid (frac_far HU.out hg HODD.out)
    have HO:=Lib.hid ho
    have HG:=Lib.hid hg
    have x0:(0:Int) ≤ (x:Int):=by omega
    have x1:(x:Int) < (n:Int):=by omega
    have HK:Hid (addG f fw q o x (o + x) = f (o + x)):=by show addG f fw q o x (o + x) = f (o + x); rw [addG,if_neg (by omega)]
    obtain ⟨z,hz⟩:∃ z,fw x = z:=⟨_,rfl⟩
    have HZ:=Lib.hid hz
    rw [hz] at HFB
    obtain ⟨t,ht⟩:∃ t:Int,z.num.sign = t:=⟨_,rfl⟩
    have e2:(t == 0) = decide (z = 0):=by rw [← ht,Bool.eq_iff_iff]; simp
    have e2':(t != 0) = !decide (z = 0):=by rw [bne,e2]
    have HSG:Hid (∀ W,FracIs W (.pointer b) z j → Calls Tryz.prog 64 #[.pointer b] W fun e w'=>e = .returned (.int .i64 t) ∧ Below W.heap.size W w'):=fun W h=>by
     have:=Tryz.Sign (.pointer b) z j W h
     rw [ht] at this
     exact this
    clear ho hg hb hz ht
    go_wp2_with fail
    with_reducible refine (HSG.out _ HFB.out).mono ?_
    rintro e w2 ⟨rfl,hb⟩
    have HG2:=Lib.hid (grown_trans HG.out (grown_of_below hb (some g)))
    have HO2:=Lib.hid (HO.out.below hb)
    have HFB2:=Lib.hid (HFB.out.below hb)
    have HFU2:=Lib.hid (HFU.out.below hb)
    clear hb HSG HG HO HFB HFU d0
    by_cases hz0:z = 0
    ·have e3:decide (z = 0) = true:=by simpa using hz0
     have HR:Hid (LineO w2 g N cap (addG f fw q o (x + 1)) (k + i + j + 1)):=HO2.out.congr (fun y hy=>by
      by_cases e:y = o + x
      ·subst e
       rw [HK.out,addG,if_pos (by omega),Nat.add_sub_cancel_left,HZ.out,hz0,Rat.mul_zero,Rat.add_zero]
      ·unfold addG
       by_cases e5:o ≤ y ∧ y < o + x
       ·rw [if_pos e5,if_pos (by omega)]
       ·rw [if_neg e5,if_neg (by omega)]) (Nat.le_refl _)
     clear hz0 HO2 HZ HK
     go_wp2
     go_roundw
     case rel=>exact ⟨x + 1,by go_num,by omega,HR.out,HG2.out⟩
     case measure=>simp [intOf]; omega
    ·have e3:decide (z = 0) = false:=by simpa using hz0
     clear hz0
     go_wp2_with fail
     have HB:Hid (Below w2.heap.size w2 w2):=Below.refl _ _
     refine wp_region_held_drew (S:=fun w'=>True) (by kernel_rfl) trivial (fun hHeld=>?_)
     replace HB:=Lib.hid (HB.out.drew)
     replace HO2:=Lib.hid (HO2.out.below (Below.refl _ _).drew)
     replace HFB2:=Lib.hid (HFB2.out.below (Below.refl _ _).drew)
     replace HFU2:=Lib.hid (HFU2.out.below (Below.refl _ _).drew)
     clear hHeld
     generalize w2.drew = w2d at *
     have hHeld:(fun w':World=>True) w2d:=trivial
     refine takeY 0 (h:=?_)
     refine takeY 1 (h:=?_)
     refine takeY 2 (h:=?_)
     (try simp only [Act.put,List.setIfInBounds_toArray,List.set_cons_zero,List.set_cons_succ])
     refine takeY 3 (h:=?_)
     refine takeY 4 (h:=?_)
     refine takeY 6 (h:=?_)
     (try simp only [Act.put,List.setIfInBounds_toArray,List.set_cons_zero,List.set_cons_succ])
     refine takeY 7 (h:=?_)
     (try simp only [Act.put,List.setIfInBounds_toArray,List.set_cons_zero,List.set_cons_succ])
     refine wpAnyH_ready (rs:=[5,8]) (by kernel_rfl) (by simp) ?_
     refine AllReadyH.cons (by (simp only [List.getElem?_toArray,List.getElem?_cons_succ,List.getElem?_cons_zero]) <;> rfl) (fun KX hK=>?_) (AllReadyH.cons (by (simp only [List.getElem?_toArray,List.getElem?_cons_succ,List.getElem?_cons_zero]) <;> rfl) (fun KX hK=>?_) AllReadyH.nil)
     ·skip
      obtain ⟨lc,y0,-,hlf⟩:=HO2.out.cell (j:=o + x) (by omega)
      rw [HK.out] at hlf
      have hlf:=hlf.fit (HSZ.out x hlt)
      go_simp
      clear y0 hHeld
      have HLF:=Lib.hid hlf
      clear hlf
      refine hK.out _ _ trivial (fun hHeld=>?_)
      clear hK KX
      (try simp only [Act.put,List.setIfInBounds_toArray,List.set_cons_zero,List.set_cons_succ])
      refine wpAnyH_ready (rs:=[8]) (by kernel_rfl) (by simp) ?_
      refine AllReadyH.cons (by (simp only [List.getElem?_toArray,List.getElem?_cons_succ,List.getElem?_cons_zero]) <;> rfl) (fun KX hK=>?_) AllReadyH.nil
      go_simp
      with_reducible refine (Tryz.mulA (.pointer ua) (.pointer b) q z i j _ HFU2.out HFB2.out hi hj (by omega) (by omega)).mono ?_
      rintro e w2d21 ⟨⟨m,rfl,hm⟩,hb⟩
      obtain ⟨m,rfl⟩:=frac_pointer hm
      clear hHeld
      replace HB:=Lib.hid (HB.out.trans (hb.mono HB.out.size))
      replace HO2:=Lib.hid (HO2.out.below hb)
      replace HFB2:=Lib.hid (HFB2.out.below hb)
      replace HFU2:=Lib.hid (HFU2.out.below hb)
      replace HLF:=Lib.hid (HLF.out.below hb)
      clear hb
      have HM:=Lib.hid hm
      clear hm
      refine hK.out _ _ trivial (fun hHeld=>?_)
      clear hK KX
      (try simp only [Act.put,List.setIfInBounds_toArray,List.set_cons_zero,List.set_cons_succ])
      refine wpAnyH_ready (rs:=[9]) (by kernel_rfl) (by simp) ?_
      refine AllReadyH.cons (by (simp only [List.getElem?_toArray,List.getElem?_cons_succ,List.getElem?_cons_zero]) <;> rfl) (fun KX hK=>?_) AllReadyH.nil
      go_simp
      with_reducible refine (Tryz.addA (.pointer lc) (.pointer m) (f (o + x)) (q * z) k (i + j) _ HLF.out HM.out (by omega) (by omega) (by omega) (by omega)).mono ?_
      rintro e w2d22 ⟨⟨a,rfl,ha⟩,hb⟩
      obtain ⟨a,rfl⟩:=frac_pointer ha
      clear hHeld
      replace HB:=Lib.hid (HB.out.trans (hb.mono HB.out.size))
      replace HO2:=Lib.hid (HO2.out.below hb)
      replace HFB2:=Lib.hid (HFB2.out.below hb)
      replace HFU2:=Lib.hid (HFU2.out.below hb)
      replace HLF:=Lib.hid (HLF.out.below hb)
      replace HM:=Lib.hid (HM.out.below hb)
      clear hb
      have HA:=Lib.hid ha
      clear ha
      refine hK.out _ _ trivial (fun hHeld=>?_)
      clear hK KX
      (try simp only [Act.put,List.setIfInBounds_toArray,List.set_cons_zero,List.set_cons_succ])
      refine takeY 10 (h:=?_)
      (try simp only [Act.put,List.setIfInBounds_toArray,List.set_cons_zero,List.set_cons_succ])
      refine wpAnyH_ready (rs:=[11]) (by kernel_rfl) (by simp) ?_
      refine AllReadyH.cons (by (simp only [List.getElem?_toArray,List.getElem?_cons_succ,List.getElem?_cons_zero]) <;> rfl) (fun KX hK=>?_) AllReadyH.nil
      obtain ⟨ob,y0,y1,-⟩:=HO2.out.cell (j:=o + x) (by omega)
      have HR:Hid (LineO (w2d22.setCell ⟨g,o + x,none⟩ (.pointer a)) g N cap (addG f fw q o (x + 1)) (k + i + j + 1)):=(HO2.out.set (HA.out.more (by omega)) (j:=o + x) (by omega)).congr (fun y hy=>by
       by_cases e:y = o + x
       ·subst e
        rw [if_pos rfl,addG,if_pos (by omega),Nat.add_sub_cancel_left,HZ.out]
       ·rw [if_neg e]
        unfold addG
        by_cases e5:o ≤ y ∧ y < o + x
        ·rw [if_pos e5,if_pos (by omega)]
        ·rw [if_neg e5,if_neg (by omega)]) (Nat.le_refl _)
      have HG3:Hid (w.grownBy (w2d22.setCell ⟨g,o + x,none⟩ (.pointer a)) (some g)):=grown_trans (grown_trans HG2.out (grown_of_below HB.out (some g))) (grown_setCell _ _ _ _)
      go_simp
      clear y0 y1 hHeld HO2 HA HB HLF HM HFB2 HFU2
      refine hK.out _ _ trivial (fun hHeld=>?_)
      clear hK KX
      (try simp only [Act.put,List.setIfInBounds_toArray,List.set_cons_zero,List.set_cons_succ])
      refine wpAnyH_done (by kernel_rfl) ?_ _
      clear hHeld HG2
      go_wp2
      go_roundw
      case rel=>exact ⟨x + 1,by go_num,by omega,HR.out,HG3.out⟩
      case measure=>simp [intOf]; omega
     ·skip
      go_simp
      with_reducible refine (Tryz.mulA (.pointer ua) (.pointer b) q z i j _ HFU2.out HFB2.out hi hj (by omega) (by omega)).mono ?_
      rintro e w2d21 ⟨⟨m,rfl,hm⟩,hb⟩
      obtain ⟨m,rfl⟩:=frac_pointer hm
      clear hHeld
      replace HB:=Lib.hid (HB.out.trans (hb.mono HB.out.size))
      replace HO2:=Lib.hid (HO2.out.below hb)
      replace HFB2:=Lib.hid (HFB2.out.below hb)
      replace HFU2:=Lib.hid (HFU2.out.below hb)
      clear hb
      have HM:=Lib.hid hm
      clear hm
      refine hK.out _ _ trivial (fun hHeld=>?_)
      clear hK KX
      (try simp only [Act.put,List.setIfInBounds_toArray,List.set_cons_zero,List.set_cons_succ])
      refine wpAnyH_ready (rs:=[5]) (by kernel_rfl) (by simp) ?_
      refine AllReadyH.cons (by (simp only [List.getElem?_toArray,List.getElem?_cons_succ,List.getElem?_cons_zero]) <;> rfl) (fun KX hK=>?_) AllReadyH.nil
      obtain ⟨lc,y0,-,hlf⟩:=HO2.out.cell (j:=o + x) (by omega)
      rw [HK.out] at hlf
      have hlf:=hlf.fit (HSZ.out x hlt)
      go_simp
      clear y0 hHeld
      have HLF:=Lib.hid hlf
      clear hlf
      refine hK.out _ _ trivial (fun hHeld=>?_)
      clear hK KX
      (try simp only [Act.put,List.setIfInBounds_toArray,List.set_cons_zero,List.set_cons_succ])
      refine wpAnyH_ready (rs:=[9]) (by kernel_rfl) (by simp) ?_
      refine AllReadyH.cons (by (simp only [List.getElem?_toArray,List.getElem?_cons_succ,List.getElem?_cons_zero]) <;> rfl) (fun KX hK=>?_) AllReadyH.nil
      go_simp
      with_reducible refine (Tryz.addA (.pointer lc) (.pointer m) (f (o + x)) (q * z) k (i + j) _ HLF.out HM.out (by omega) (by omega) (by omega) (by omega)).mono ?_
      rintro e w2d22 ⟨⟨a,rfl,ha⟩,hb⟩
      obtain ⟨a,rfl⟩:=frac_pointer ha
      clear hHeld
      replace HB:=Lib.hid (HB.out.trans (hb.mono HB.out.size))
      replace HO2:=Lib.hid (HO2.out.below hb)
      replace HFB2:=Lib.hid (HFB2.out.below hb)
      replace HFU2:=Lib.hid (HFU2.out.below hb)
      replace HM:=Lib.hid (HM.out.below hb)
      replace HLF:=Lib.hid (HLF.out.below hb)
      clear hb
      have HA:=Lib.hid ha
      clear ha
      refine hK.out _ _ trivial (fun hHeld=>?_)
      clear hK KX
      (try simp only [Act.put,List.setIfInBounds_toArray,List.set_cons_zero,List.set_cons_succ])
      refine takeY 10 (h:=?_)
      (try simp only [Act.put,List.setIfInBounds_toArray,List.set_cons_zero,List.set_cons_succ])
      refine wpAnyH_ready (rs:=[11]) (by kernel_rfl) (by simp) ?_
      refine AllReadyH.cons (by (simp only [List.getElem?_toArray,List.getElem?_cons_succ,List.getElem?_cons_zero]) <;> rfl) (fun KX hK=>?_) AllReadyH.nil
      obtain ⟨ob,y0,y1,-⟩:=HO2.out.cell (j:=o + x) (by omega)
      have HR:Hid (LineO (w2d22.setCell ⟨g,o + x,none⟩ (.pointer a)) g N cap (addG f fw q o (x + 1)) (k + i + j + 1)):=(HO2.out.set (HA.out.more (by omega)) (j:=o + x) (by omega)).congr (fun y hy=>by
       by_cases e:y = o + x
       ·subst e
        rw [if_pos rfl,addG,if_pos (by omega),Nat.add_sub_cancel_left,HZ.out]
       ·rw [if_neg e]
        unfold addG
        by_cases e5:o ≤ y ∧ y < o + x
        ·rw [if_pos e5,if_pos (by omega)]
        ·rw [if_neg e5,if_neg (by omega)]) (Nat.le_refl _)
      have HG3:Hid (w.grownBy (w2d22.setCell ⟨g,o + x,none⟩ (.pointer a)) (some g)):=grown_trans (grown_trans HG2.out (grown_of_below HB.out (some g))) (grown_setCell _ _ _ _)
      go_simp
      clear y0 y1 hHeld HO2 HA HB HLF HM HFB2 HFU2
      refine hK.out _ _ trivial (fun hHeld=>?_)
      clear hK KX
      (try simp only [Act.put,List.setIfInBounds_toArray,List.set_cons_zero,List.set_cons_succ])
      refine wpAnyH_done (by kernel_rfl) ?_ _
      clear hHeld HG2
      go_wp2
      go_roundw
      case rel=>exact ⟨x + 1,by go_num,by omega,HR.out,HG3.out⟩
      case measure=>simp [intOf]; omega
   ·have e3:decide ((x:Int) < (n:Int)) = false:=by simp; omega
    have e3':decide (x < n) = false:=by simpa using hlt
    have HR:Hid (LineO wr g N cap (addH f fw q o) (k + i + j + 1)):=ho.congr (fun y hy=>by
     unfold addH addG
     by_cases e:y < o
     ·rw [if_pos e,if_neg (by omega)]
     ·rw [if_neg e,if_pos (by omega)]) (Nat.le_refl _)
    have HG:=Lib.hid hg
    clear ho hg
    go_wp2
    go_end0
    exact ⟨rfl,HR.out,HG.out⟩
/-- How long what is put back may become, with so many lines behind. -/
def bk (s:Nat):Nat → Nat
 | 0=>s
 | d + 1=>2 * bk s d + s + 1
theorem bk_le {s d m:Nat} (h:d ≤ m):bk s d ≤ bk s m:=by
 induction m with
 | zero=>rw [show d = 0 by omega]; exact Nat.le_refl _
 | succ m ih =>
   by_cases e:d = m + 1
   ·rw [e]; exact Nat.le_refl _
   ·have:=ih (by omega)
    show _ ≤ 2 * bk s m + s + 1
    omega
theorem bk_ge (s d:Nat):s ≤ bk s d:=bk_le (d:=0) (Nat.zero_le _)
theorem tail_none (f:Nat → Rat) (a:Nat):tail f a a = 0:=by
 rw [show (0:Rat) = Vm.sum (fun _=>0) a from ?_]
 ·exact Vm.sum_congr fun j hj=>by show (if a ≤ j then f j else 0) = 0; rw [if_neg (by omega)]
 ·have : ∀ n, Vm.sum (fun _ => (0 : Rat)) n = 0 := fun n => by
   induction n with
   | zero=>rfl
   | succ n ih=>show Vm.sum (fun _=>(0:Rat)) n + 0 = 0; rw [ih]; grind
  rw [this]
theorem tail_more (f:Nat → Rat) {a n:Nat} (h:a ≤ n):tail f a (n + 1) = tail f a n + f n:=by
 show Vm.sum (fun j=>if a ≤ j then f j else 0) n + (if a ≤ n then f n else 0) = _
 rw [if_pos h]; rfl
theorem tail_congr {f g:Nat → Rat} {a n:Nat} (h:∀ j,a ≤ j → j < n → f j = g j):tail f a n = tail g a n:=Vm.sum_congr fun j hj=>by
 by_cases e:a ≤ j
 ·rw [if_pos e,if_pos e,h j e hj]
 ·rw [if_neg e,if_neg e]
/-- The lines from i on are put back. -/
structure Back (E:F) (told:Nat → Nat) (u r i:Nat) (H:F):Prop where
 un:∀ l j,j < u → H l j = E l j
 old:∀ l,l < i → H l = E l
 far:∀ l,u ≤ l → H l = E l
 put:∀ l c,i ≤ l → l < u → c < r → H l (u + c) = E l (u + c) - tail (fun j=>E l (told j) * H j (u + c)) (l + 1) u
theorem Back.start (E:F) (told:Nat → Nat) (u r:Nat):Back E told u r u E:=⟨fun _ _ _=>rfl,fun _ _=>rfl,fun _ _=>rfl,fun l c h1 h2=>by omega⟩
/-- .. and of line i what the lines before k tell. -/
def partH (E H:F) (told:Nat → Nat) (u i k:Nat):F:=fun l=>if l = i then fun x=>if x < u then E i x else E i x - tail (fun j=>E i (told j) * H j x) (i + 1) k else H l
theorem partH_other (E H:F) (told:Nat → Nat) {u i k l:Nat} (h:l ≠ i):partH E H told u i k l = H l:=by rw [partH,if_neg h]
theorem partH_start {E H:F} {told:Nat → Nat} {u r i:Nat} (h:Back E told u r (i + 1) H) (l x:Nat):partH E H told u i (i + 1) l x = H l x:=by
 unfold partH
 by_cases e:l = i
 ·rw [if_pos e,e,h.old i (by omega)]
  split
  ·rfl
  ·rw [tail_none]; grind
 ·rw [if_neg e]
theorem partH_un (E H:F) (told:Nat → Nat) {u i k x:Nat} (h:x < u):partH E H told u i k i x = E i x:=by rw [partH,if_pos rfl,if_pos h]
theorem partH_step (E H:F) (told:Nat → Nat) {u i k:Nat} (h:i + 1 ≤ k) (x:Nat):partH E H told u i (k + 1) i x = addH (partH E H told u i k i) (fun c=>H k (u + c)) (-(E i (told k))) u x:=by
 unfold addH partH
 by_cases e:x < u
 ·simp only [if_true,e]
 ·simp only [if_true,e,if_false]
  rw [tail_more _ h,show u + (x - u) = x by omega]
  grind
theorem partH_done {E H:F} {told:Nat → Nat} {u r i:Nat} (h:Back E told u r (i + 1) H) (hi:i < u):Back E told u r i (partH E H told u i u):=by
 refine ⟨fun l j hj=>?_,fun l hl=>?_,fun l hl=>?_,fun l c h1 h2 hc=>?_⟩
 ·by_cases e:l = i
  ·rw [e,partH_un _ _ _ hj]
  ·rw [partH_other _ _ _ e]; exact h.un l j hj
 ·rw [partH_other _ _ _ (by omega)]; exact h.old l (by omega)
 ·rw [partH_other _ _ _ (by omega)]; exact h.far l hl
 ·have ht:∀ l',i ≤ l' → tail (fun j=>E l (told j) * partH E H told u i u j (u + c)) (l' + 1) u = tail (fun j=>E l (told j) * H j (u + c)) (l' + 1) u:=fun l' hl'=>tail_congr fun j hj _=>by rw [partH_other _ _ _ (by omega)]
  rw [ht l h1]
  by_cases e:l = i
  ·subst e
   rw [partH,if_pos rfl,if_neg (by omega)]
  ·rw [partH_other _ _ _ e]; exact h.put l c (by omega) h2 hc
/-- The lengths. -/
def Kb (s u i:Nat):Nat → Nat:=fun l=>if i ≤ l ∧ l < u then bk s (u - 1 - l) else s
def Kp (s u i k:Nat):Nat → Nat:=fun l=>if l = i then bk s (u - 1 - i) - bk s (u - k) + s else Kb s u (i + 1) l
theorem Kp_start {s u i:Nat} (hi:i < u) (l:Nat):Kb s u (i + 1) l ≤ Kp s u i (i + 1) l:=by
 unfold Kp
 by_cases e:l = i
 ·rw [if_pos e,Kb,if_neg (by omega),show u - 1 - i = u - (i + 1) by omega]; omega
 ·rw [if_neg e]; exact Nat.le_refl _
theorem Kp_at (s u i k:Nat):Kp s u i k i = bk s (u - 1 - i) - bk s (u - k) + s:=by rw [Kp,if_pos rfl]
theorem Kp_le {s u i k l:Nat} (h:l ≠ i):Kp s u i k l ≤ Kp s u i (k + 1) l:=by rw [Kp,if_neg h,Kp,if_neg h]; exact Nat.le_refl _
theorem Kp_line {s u i k:Nat} (h:i + 1 ≤ k) (hk:k < u):Kp s u i k k = bk s (u - 1 - k):=by rw [Kp,if_neg (by omega),Kb,if_pos (by omega)]
theorem Kp_step {s u i k:Nat} (h:i + 1 ≤ k) (hk:k < u):Kp s u i k i + s + bk s (u - 1 - k) + 1 ≤ Kp s u i (k + 1) i:=by
 rw [Kp_at,Kp_at]
 have h1:bk s (u - k) = 2 * bk s (u - (k + 1)) + s + 1:=by rw [show u - k = (u - (k + 1)) + 1 by omega]; rfl
 have h2:bk s (u - k) ≤ bk s (u - 1 - i):=bk_le (by omega)
 rw [show u - 1 - k = u - (k + 1) by omega]
 omega
theorem Kp_le_bk (s u i k:Nat):Kp s u i k i ≤ bk s u:=by
 rw [Kp_at]
 have h1:bk s (u - 1 - i) ≤ bk s u:=bk_le (by omega)
 have h2:=bk_ge s (u - k)
 have h3:=bk_ge s u
 have h4:=bk_ge s (u - 1 - i)
 omega
theorem Kp_end {s u i:Nat} (hi:i < u) (l:Nat):Kp s u i u l ≤ Kb s u i l:=by
 unfold Kp
 by_cases e:l = i
 ·rw [if_pos e,Kb,if_pos (by omega),Nat.sub_self,e]
  have:=bk_ge s (u - 1 - i)
  show _ - s + s ≤ _
  omega
 ·rw [if_neg e]
  unfold Kb
  split
  ·rw [if_pos (by omega)]; exact Nat.le_refl _
  ·rw [if_neg (by omega)]; exact Nat.le_refl _
theorem Kb_start (s u l:Nat):s ≤ Kb s u u l:=by rw [Kb,if_neg (by omega)]; exact Nat.le_refl _
/-- The right part of a line. -/
theorem LineO.part {w:World} {g N cap k u r:Nat} {f:Nat → Rat} (h:LineO w g N cap f k) (hn:u + r = N):LineR w (.slice (some ⟨g,u,none⟩) r (cap - u)) r (fun c=>f (u + c)) k:=by
 obtain ⟨cur,h1,h2,h3⟩:=h.cells
 have h4:=h.le
 have h5:=h.max
 exact ⟨_,_,rfl,by omega,by omega,.inr ⟨g,u,cur,rfl,h1,fun j hj=>h3 (u + j) (by omega)⟩⟩
/-- The unknowns that are told, in memory. -/
theorem Eqs.tolds {B:Nat} {w:World} {e L cap R u N t:Nat} {E:F} {told K G c:Nat → Nat} (h:Eqs B w e L cap R u N t E told K G c) (ht:0 < t):∃ b q cur,CellsAt w e #[.slice (some ⟨L,0,none⟩) R cap,.int .i64 u,.slice (some ⟨b,0,none⟩) t q] 126 ∧ CellsAt w b cur 3 ∧ t ≤ q ∧ q ≤ maxLen ∧ ∀ j,j < t → cur[j]? = some (.int .i64 (told j:Nat)):=by
 obtain ⟨tv,us,h1,⟨-,⟨rfl,r⟩ | ⟨b,q,cur,rfl,r1,r2,r3,r4,r5,r6⟩⟩,h3,h4⟩:=h.st
 ·omega
 ·refine ⟨b,q,cur,h1,r2,r3,r4,fun j hj=>?_⟩
  have:=h4 j hj
  rw [← r6,List.getElem?_take_of_lt (by omega),Array.getElem?_toList] at this
  exact this
theorem Tryz.matPutBack (B e L cap R u N r s:Nat) (E:F) (told G c:Nat → Nat) (w:World) (h:Eqs B w e L cap R u N u E told (fun _=>s) G c) (ht:∀ j,j < u → told j < u) (hu:u ≤ R) (hN:u + r = N) (hr:0 < r) (hu0:0 < u) (hR:R ≤ 1000) (hN9:N ≤ 1000) (hs:1 ≤ s) (hsz:bk s u ≤ 30000000000) (hB:B ≤ w.heap.size) :
 Calls Tryz.prog 126 #[.pointer (some ⟨e,0,none⟩)] w fun q w'=>q = .returned (.tuple #[]) ∧ (∃ H,Eqs B w' e L cap R u N u H told (Kb s u 0) G c ∧ Back E told u r 0 H) ∧ Below B w w':=by
 subst hN
 have HBB:=Lib.hid hB
 have HT:=Lib.hid ht
 have hg:∀ l,l < R → (∀ j,j < u + r → Sz (E l j) s):=fun l hl j hj=>by
  obtain ⟨a,-,-,h⟩:=(h.lns.line l hl).cell hj
  exact h.sz hs
 have HSZ:=Lib.hid hg
 have HE:Hid (Eqs B w e L cap R u (u + r) u E told (Kb s u u) G c):=h.congr (fun _ _ _ _=>rfl) (fun l _=>Kb_start s u l)
 have HK:Hid (Back E told u r u E):=Back.start _ _ _ _
 have HB:Hid (Below B w w):=Below.refl _ _
 obtain ⟨b,q,-,hst,-,hq1,hq2,-⟩:=h.tolds hu0
 have s2:=hst.cell 2
 have s9:=hst.lt
 simp only [List.getElem?_toArray,List.getElem?_cons_zero,List.getElem?_cons_succ] at s2
 clear h hB ht hg hst
 go_enter Tryz.func126,Tryz.ntmps126
 go_wp2_with fail
 clear s2 s9 hq1 hq2
 go_loopw [2] (fun iv wr=>∃ (i:Nat) (H:F),iv = .int .i64 ((i:Int) - 1) ∧ i ≤ u ∧ Eqs B wr e L cap R u (u + r) u H told (Kb s u i) G c ∧ Back E told u r i H ∧ Below B w wr) (fun iv _=>(intOf iv + 1).toNat)
 case atStart=>exact ⟨u,E,rfl,Nat.le_refl _,HE.out,HK.out,HB.out⟩
 case round=>
  obtain ⟨i,H,rfl,hi,he,hk,hb⟩:=hrel
  clear HE HK HB
  have HE:=Lib.hid he
  have HK:=Lib.hid hk
  have HB:=Lib.hid hb
  cases i with
  | zero =>
    clear he hk hb
    go_wp2
    go_end0
    exact ⟨rfl,⟨H,HE.out,HK.out⟩,HB.out⟩
  | succ i =>
    obtain ⟨z,hz⟩:∃ z:Int,((i + 1:Nat):Int) - 1 = z:=⟨_,rfl⟩
    have hzi:z = (i:Int):=by omega
    rw [hz]
    subst hzi
    clear hz
    obtain ⟨b,q,cur,hst,hcu,hq1,hq2,hcs⟩:=he.tolds hu0
    have s0:=hst.cell 0
    have s2:=hst.cell 2
    have s9:=hst.lt
    simp only [List.getElem?_toArray,List.getElem?_cons_zero,List.getElem?_cons_succ] at s0 s2
    obtain ⟨l0,-,l1⟩:=he.lns.cell (i:=i) (by omega)
    have i0:(0:Int) ≤ (i:Int):=by omega
    have i1:(i:Int) < (R:Int):=by omega
    clear he hk hb hst hcu hcs
    go_wp2_with fail
    have HE1:Hid (Eqs B wr e L cap R u (u + r) u (partH E H told u i (i + 1)) told (Kp s u i (i + 1)) G c):=HE.out.congr (fun l _ x _=>partH_start HK.out l x) (fun l _=>Kp_start (by omega) l)
    clear s0 s2 s9 l0 l1 HE hq1 hq2
    go_loopw [4] (fun kv wr=>∃ k:Nat,kv = .int .i64 k ∧ i + 1 ≤ k ∧ k ≤ u ∧ Eqs B wr e L cap R u (u + r) u (partH E H told u i k) told (Kp s u i k) G c ∧ Below B w wr) (fun kv _=>u - (intOf kv).toNat)
    case atStart=>exact ⟨i + 1,by go_num,Nat.le_refl _,hi,HE1.out,HB.out⟩
    case round=>
     obtain ⟨k,rfl,hki,hku,he,hb⟩:=hrel
     clear HE1 HB
     obtain ⟨b,q,cur,hst,hcu,hq1,hq2,hcs⟩:=he.tolds hu0
     have s2:=hst.cell 2
     have s9:=hst.lt
     simp only [List.getElem?_toArray,List.getElem?_cons_zero,List.getElem?_cons_succ] at s2
     have HE:=Lib.hid he
     have HB:=Lib.hid hb
     have HS:=Lib.hid hst
     have HCU:=Lib.hid hcu
     have HCS:=Lib.hid hcs
     have k0:(0:Int) ≤ (k:Int):=by omega
     by_cases hlt:k < u
     ·have k1:(k:Int) < (u:Int):=by omega
      have k2:(k:Int) < (R:Int):=by omega
      have t0:(0:Int) ≤ (told k:Int):=by omega
      have htk:=HT.out k hlt
      have t1:(told k:Int) < (u:Int) + (r:Int):=by omega
      have u0:(0:Int) ≤ (u:Int):=by omega
      have u1:(u:Int) ≤ (u:Int) + (r:Int):=by omega
      have ci:=(he.lns.line i (by omega)).le
      have ci9:=(he.lns.line i (by omega)).max
      have ck:=(he.lns.line k (by omega)).le
      have ck9:=(he.lns.line k (by omega)).max
      have ci2:c i ≠ u:=by omega
      have ck2:c k ≠ u:=by omega
      unfold maxLen at ci9 ck9 hq2
      clear he hb hst hcu hcs
      go_wp2_with fail
      clear s2 s9
      refine wp_region_held_drew (S:=fun w'=>w'.cell? ⟨e,0,none⟩ = some (.slice (some ⟨L,0,none⟩) R cap) ∧ w'.cell? ⟨e,1,none⟩ = some (.int .i64 u) ∧ w'.cell? ⟨e,2,none⟩ = some (.slice (some ⟨b,0,none⟩) u q) ∧ w'.cell? ⟨b,k,none⟩ = some (.int .i64 (told k:Nat)) ∧ w'.cell? ⟨L,k,none⟩ = some (.slice (some ⟨G k,0,none⟩) (u + r) (c k))) (by kernel_rfl) ⟨HS.out.cell 0,HS.out.cell 1,HS.out.cell 2,(HCU.out.cell k).trans (HCS.out k hlt),(HE.out.lns.cell (i:=k) (by omega)).1⟩ (fun hHeld=>?_)
      replace HB:=Lib.hid (HB.out.drew)
      replace HE:=Lib.hid (HE.out.below (Below.refl _ _).drew)
      replace HS:=Lib.hid (HS.out.below (Below.refl _ _).drew)
      replace HCU:=Lib.hid (HCU.out.below (Below.refl _ _).drew)
      clear hHeld
      generalize wr.drew = wd at *
      have hHeld:(fun w':World=>w'.cell? ⟨e,0,none⟩ = some (.slice (some ⟨L,0,none⟩) R cap) ∧ w'.cell? ⟨e,1,none⟩ = some (.int .i64 u) ∧ w'.cell? ⟨e,2,none⟩ = some (.slice (some ⟨b,0,none⟩) u q) ∧ w'.cell? ⟨b,k,none⟩ = some (.int .i64 (told k:Nat)) ∧ w'.cell? ⟨L,k,none⟩ = some (.slice (some ⟨G k,0,none⟩) (u + r) (c k))) wd:=⟨HS.out.cell 0,HS.out.cell 1,HS.out.cell 2,(HCU.out.cell k).trans (HCS.out k hlt),(HE.out.lns.cell (i:=k) (by omega)).1⟩
      refine takeY 0 (h:=?_)
      refine takeY 1 (h:=?_)
      refine takeY 2 (h:=?_)
      (try simp only [Act.put,List.setIfInBounds_toArray,List.set_cons_zero,List.set_cons_succ])
      refine takeY 3 (h:=?_)
      refine takeY 4 (h:=?_)
      refine takeY 5 (h:=?_)
      (try simp only [Act.put,List.setIfInBounds_toArray,List.set_cons_zero,List.set_cons_succ])
      refine takeY 6 (h:=?_)
      refine takeY 7 (h:=?_)
      refine takeY 8 (h:=?_)
      (try simp only [Act.put,List.setIfInBounds_toArray,List.set_cons_zero,List.set_cons_succ])
      refine takeY 9 (h:=?_)
      refine takeY 10 (h:=?_)
      refine takeY 11 (h:=?_)
      (try simp only [Act.put,List.setIfInBounds_toArray,List.set_cons_zero,List.set_cons_succ])
      refine takeY 12 (h:=?_)
      refine takeY 13 (h:=?_)
      refine takeY 14 (h:=?_)
      (try simp only [Act.put,List.setIfInBounds_toArray,List.set_cons_zero,List.set_cons_succ])
      refine takeY 17 (h:=?_)
      refine takeY 18 (h:=?_)
      refine takeY 19 (h:=?_)
      (try simp only [Act.put,List.setIfInBounds_toArray,List.set_cons_zero,List.set_cons_succ])
      refine takeY 20 (h:=?_)
      refine takeY 21 (h:=?_)
      refine takeY 22 (h:=?_)
      (try simp only [Act.put,List.setIfInBounds_toArray,List.set_cons_zero,List.set_cons_succ])
      refine takeY 23 (h:=?_)
      refine takeY 24 (h:=?_)
      refine takeY 25 (h:=?_)
      (try simp only [Act.put,List.setIfInBounds_toArray,List.set_cons_zero,List.set_cons_succ])
      refine takeY 26 (h:=?_)
      refine takeY 27 (h:=?_)
      refine takeY 28 (h:=?_)
      (try simp only [Act.put,List.setIfInBounds_toArray,List.set_cons_zero,List.set_cons_succ])
      refine wpAnyH_ready (rs:=[15]) (by kernel_rfl) (by simp) ?_
      refine AllReadyH.cons (by (simp only [List.getElem?_toArray,List.getElem?_cons_succ,List.getElem?_cons_zero]) <;> rfl) (fun KX hK=>?_) AllReadyH.nil
      obtain ⟨lb,m0,-,hf⟩:=(HE.out.lns.line i (by omega)).cell (j:=told k) (by omega)
      rw [partH_un _ _ _ htk] at hf
      have HF:=Lib.hid (hf.fit (HSZ.out i (by omega) (told k) (by omega)))
      clear hf
      go_simp
      clear hHeld m0
      refine hK.out _ _ ⟨HS.out.cell 0,HS.out.cell 1,HS.out.cell 2,(HCU.out.cell k).trans (HCS.out k hlt),(HE.out.lns.cell (i:=k) (by omega)).1⟩ (fun hHeld=>?_)
      clear hK KX
      (try simp only [Act.put,List.setIfInBounds_toArray,List.set_cons_zero,List.set_cons_succ])
      refine wpAnyH_ready (rs:=[16]) (by kernel_rfl) (by simp) ?_
      refine AllReadyH.cons (by (simp only [List.getElem?_toArray,List.getElem?_cons_succ,List.getElem?_cons_zero]) <;> rfl) (fun KX hK=>?_) AllReadyH.nil
      go_simp
      with_reducible refine (Tryz.frNeg (.pointer lb) _ s _ HF.out hs).mono ?_
      rintro e wd21 ⟨⟨nv,rfl,hnv⟩,hb⟩
      obtain ⟨nb,rfl⟩:=frac_pointer hnv
      clear hHeld
      replace HB:=Lib.hid (HB.out.trans (hb.mono (Nat.le_trans HBB.out HB.out.size)))
      replace HE:=Lib.hid (HE.out.below hb)
      replace HS:=Lib.hid (HS.out.below hb)
      replace HCU:=Lib.hid (HCU.out.below hb)
      replace HF:=Lib.hid (HF.out.below hb)
      clear hb
      have HN:=Lib.hid hnv
      clear hnv
      refine hK.out _ _ ⟨HS.out.cell 0,HS.out.cell 1,HS.out.cell 2,(HCU.out.cell k).trans (HCS.out k hlt),(HE.out.lns.cell (i:=k) (by omega)).1⟩ (fun hHeld=>?_)
      clear hK KX
      (try simp only [Act.put,List.setIfInBounds_toArray,List.set_cons_zero,List.set_cons_succ])
      refine wpAnyH_ready (rs:=[29]) (by kernel_rfl) (by simp) ?_
      refine AllReadyH.cons (by (simp only [List.getElem?_toArray,List.getElem?_cons_succ,List.getElem?_cons_zero]) <;> rfl) (fun KX hK=>?_) AllReadyH.nil
      have ho:=HE.out.lns.line i (by omega)
      have hv:=(HE.out.lns.line k (by omega)).part rfl
      have hrow:=HE.out.bG i (by omega)
      rw [partH_other _ _ _ (show k ≠ i by omega),Kp_line hki hlt] at hv
      have hne:∀ b o m c',Value.slice (some ⟨G k,u,none⟩) r (c k - u) = .slice (some ⟨b,o,none⟩) m c' → 0 < m → b ≠ G i:=fun b o m c' he _ hx=>by
       simp only [Value.slice.injEq,Option.some.injEq,Addr.mk.injEq] at he
       have:=HE.out.lns.inj k i (by omega) (by omega) (he.1.1.trans hx)
       omega
      obtain ⟨cg,hcg,-⟩:=ho.cells
      have hn1:=cells_ne HS.out hcg (by decide)
      have hn2:=cells_ne HCU.out hcg (by decide)
      have hkb:=Kp_step (s:=s) hki hlt
      have hkl:=Kp_le_bk s u i (k + 1)
      have hk1:1 ≤ Kp s u i k i:=by rw [Kp_at]; omega
      have hb1:1 ≤ bk s (u - 1 - k):=Nat.le_trans hs (bk_ge _ _)
      go_simp
      with_reducible refine (Tryz.matAddAt (G i) (u + r) u r (c i) (.pointer nb) _ (partH E H told u i k i) (fun x=>H k (u + x)) (-(E i (told k))) (Kp s u i k i) s (bk s (u - 1 - k)) _ ho rfl HN.out hv hne hr (by omega) hk1 hs hb1 (by omega)).mono ?_
      rintro e1 w30 ⟨rfl,hl,hg⟩
      have HE3:Hid (Eqs B w30 e L cap R u (u + r) u (partH E H told u i (k + 1)) told (Kp s u i (k + 1)) G c):=HE.out.setLine (i:=i) (by omega) (by omega) hg hl (fun x _=>partH_step E H told hki x) hkb fun l _ e=>⟨by rw [partH_other _ _ _ e,partH_other _ _ _ e],Kp_le e⟩
      have HB3:Hid (Below B w w30):=HB.out.grown hg (Nat.le_trans HBB.out HB.out.size) (fun y hy=>by rw [← Option.some.inj hy]; exact hrow)
      have HS3:=Lib.hid (cells_far HS.out hg hn1)
      have HC3:=Lib.hid (cells_far HCU.out hg hn2)
      clear hHeld ho hv hrow hne hl hg HE HB HF HN HS HCU hn1 hn2 hkb hkl hk1 hb1 hcg
      refine hK.out _ _ ⟨HS3.out.cell 0,HS3.out.cell 1,HS3.out.cell 2,(HC3.out.cell k).trans (HCS.out k hlt),(HE3.out.lns.cell (i:=k) (by omega)).1⟩ (fun hHeld=>?_)
      clear hK KX hHeld
      (try simp only [Act.put,List.setIfInBounds_toArray,List.set_cons_zero,List.set_cons_succ])
      refine wpAnyH_done (by kernel_rfl) ?_ _
      go_wp2
      go_roundw
      case rel=>exact ⟨k + 1,by go_num,by omega,by omega,HE3.out,HB3.out⟩
      case measure=>simp [intOf]; omega
     ·have e3:decide ((k:Int) < (u:Int)) = false:=by simp; omega
      have e3':decide (k < u) = false:=by simpa using hlt
      obtain rfl:k = u:=by omega
      have HE3:Hid (Eqs B wr e L cap R k (k + r) k (partH E H told k i k) told (Kb s k i) G c):=he.congr (fun _ _ _ _=>rfl) (fun l _=>Kp_end (by omega) l)
      have HK3:Hid (Back E told k r i (partH E H told k i k)):=partH_done HK.out (by omega)
      clear he hb hst hcu hcs HE HS HCU HCS HK
      go_wp2
      go_roundw
      case rel=>exact ⟨i,_,by go_num,by omega,HE3.out,HK3.out,HB.out⟩
      case measure=>simp [intOf]
end Go.Proofs.Mt
namespace Go.Proofs.Mt
open Go.RowKit Go.Proofs.Wd Go.Proofs.Fr Go.Proofs.Vt Go.Proofs.Mm
/-- There is just one answer to each question, and X tells them. -/
structure AnsY (E X:F) (R u r:Nat):Prop where
 rank:RankIs E R u u
 sol:∀ c,c < r → ∀ i,i < R → dotF (E i) (fun x=>X x c) u = E i (u + c)
 one:∀ c y,c < r → (∀ i,i < R → dotF (E i) y u = E i (u + c)) → ∀ x,x < u → y x = X x c
/-- There is not. -/
def AnsN (E:F) (R u r:Nat):Prop:=(∃ t,t < u ∧ RankIs E R u t) ∨ (u < R ∧ ∃ c,c < r ∧ ∀ y,¬∀ i,i < R → dotF (E i) y u = E i (u + c))
theorem dot_zero {f x:Nat → Rat} {n:Nat} (h:∀ j,j < n → f j = 0):dotF f x n = 0:=by
 unfold dotF
 rw [Vm.sum_congr (g:=fun _=>0) (fun j hj=>by show f j * x j = 0; rw [h j hj,Rat.zero_mul])]
 induction n with
 | zero=>rfl
 | succ n ih=>show Vm.sum (fun _=>(0:Rat)) n + 0 = 0; rw [ih fun j hj=>h j (by omega)]; grind
theorem ansN_rank {E E':F} {told:Nat → Nat} {t R u r:Nat} (h:RowEq E E' R (u + r)) (e:Ech E' told t R u) (b:Bare E' t R u) (ht:t < u):AnsN E R u r:=.inl ⟨t,ht,rank_of h (by omega) e b⟩
theorem ansN_line {E E':F} {R u r l j:Nat} (h:RowEq E E' R (u + r)) (b:Bare E' u R u) (hl:u ≤ l) (hlR:l < R) (hj:j < u + r) (hz:E' l j ≠ 0):AnsN E R u r:=by
 have hju:u ≤ j:=Nat.le_of_not_lt fun hx=>hz (b l j hl hlR hx)
 refine .inr ⟨by omega,j - u,by omega,fun y hy=>hz ?_⟩
 have:=(h.solves (c:=j - u) (by omega)).1 hy l hlR
 rw [dot_zero fun j hj=>b l j hl hlR hj,show u + (j - u) = j by omega] at this
 exact this.symm
theorem ansY {E E' H X:F} {told:Nat → Nat} {R u r:Nat} (h:RowEq E E' R (u + r)) (e:Ech E' told u R u) (b:Bare E' u R u) (hz:∀ l,u ≤ l → l < R → ∀ j,j < u + r → E' l j = 0) (hk:Back E' told u r 0 H) (hX:∀ i c,i < u → X (told i) c = H i (u + c)):AnsY E X R u r:=by
 have hsol:∀ c,c < r → ∀ i,i < R → dotF (E' i) (fun x=>X x c) u = E' i (u + c):=fun c hc i hi=>by
  by_cases hiu:i < u
  ·exact back_solves e (b:=fun i=>E' i (u + c)) (X:=fun j=>H j (u + c)) (fun j hj=>hX j c hj) (fun i hi=>hk.put i c (Nat.zero_le _) hi hc) hiu
  ·rw [dot_zero fun j hj=>hz i (by omega) hi j (by omega),hz i (by omega) hi (u + c) (by omega)]
 refine ⟨rank_of h (by omega) e b,fun c hc=>(h.solves hc).2 (hsol c hc),fun c y hc hy=>?_⟩
 exact Ech.uniq h e hy ((h.solves hc).2 (hsol c hc))
/-- What stands at an unknown. -/
noncomputable def ansX (H:F) (told:Nat → Nat) (u:Nat):F:=fun x c=>open Classical in if h:∃ i,i < u ∧ told i = x then H h.choose (u + c) else 0
theorem ansX_at {E':F} {told:Nat → Nat} {R u i:Nat} (H:F) (e:Ech E' told u R u) (hi:i < u) (c:Nat):ansX H told u (told i) c = H i (u + c):=by
 have h:∃ j,j < u ∧ told j = told i:=⟨i,hi,rfl⟩
 rw [ansX,dif_pos h,e.inj h.choose_spec.1 hi h.choose_spec.2]
/-- The lines of the unknowns, n of them written. -/
def XAt (w:World) (g u r n:Nat) (told:Nat → Nat) (X:F) (k:Nat):Prop:=∃ cur,CellsAt w g cur 113 ∧ cur.size = u ∧ ∀ j,j < u → ∃ v,cur[j]? = some v ∧ ((v = .slice none 0 0 ∧ ∀ i,i < n → told i ≠ j) ∨ LineR w v r (X j) k)
theorem XAt.below {w w':World} {g u r n k:Nat} {told:Nat → Nat} {X:F} (h:XAt w g u r n told X k) (hb:Below w.heap.size w w'):XAt w' g u r n told X k:=by
 obtain ⟨cur,h1,h2,h3⟩:=h
 refine ⟨cur,h1.below hb,h2,fun j hj=>?_⟩
 obtain ⟨v,v1,v2⟩:=h3 j hj
 exact ⟨v,v1,v2.imp id fun x=>x.below hb⟩
theorem XAt.odd {w:World} {g u r n k:Nat} {told:Nat → Nat} {X:F} (h:XAt w g u r n told X k) (hr:0 < r):Odd w g:=by
 obtain ⟨cur,h1,h2,h3⟩:=h
 refine ⟨cur,_,h1,by decide,fun u' hu=>?_⟩
 have hlt:=(Array.getElem?_eq_some_iff.1 hu).1
 obtain ⟨v,v1,v2⟩:=h3 0 (by omega)
 rw [hu] at v1
 rw [Option.some.inj v1]
 rcases v2 with ⟨rfl,-⟩ | v2
 ·exact .inr (.inl ⟨0,0,rfl⟩)
 ·exact v2.oddv hr
theorem XAt.set {w:World} {g u r n k:Nat} {told:Nat → Nat} {X:F} {v:Value} (h:XAt w g u r n told X k) (hr:0 < r) (hn:told n < u) (hv:LineR w v r (X (told n)) k):XAt (w.setCell ⟨g,told n,none⟩ v) g u r (n + 1) told X k:=by
 have ho:=h.odd hr
 obtain ⟨cur,h1,h2,h3⟩:=h
 refine ⟨_,h1.set _ v,by simp [h2],fun j hj=>?_⟩
 by_cases e:j = told n
 ·subst e
  exact ⟨v,get_put' (by omega),.inr (hv.far (grown_setCell _ _ _ _) ho (hv.other h1 (by decide)))⟩
 ·obtain ⟨y,y1,y2⟩:=h3 j hj
  refine ⟨y,by rw [get_put (fun q=>e q.symm)]; exact y1,?_⟩
  rcases y2 with ⟨rfl,y3⟩ | y3
  ·refine .inl ⟨rfl,fun i hi=>?_⟩
   by_cases e2:i = n
   ·rw [e2]; exact fun q=>e q.symm
   ·exact y3 i (by omega)
  ·exact .inr (y3.far (grown_setCell _ _ _ _) ho (y3.other h1 (by decide)))
theorem XAt.cell {w:World} {g u r n k j:Nat} {told:Nat → Nat} {X:F} (h:XAt w g u r n told X k) (hj:j < u):(∃ v,w.cell? ⟨g,j,none⟩ = some v) ∧ w.frozen? ⟨g,j,none⟩ = false ∧ g < w.heap.size:=by
 obtain ⟨cur,h1,h2,h3⟩:=h
 obtain ⟨v,v1,-⟩:=h3 j hj
 exact ⟨⟨v,(h1.cell j).trans v1⟩,h1.free j,h1.lt⟩
theorem XAt.done {w:World} {g u r k:Nat} {told:Nat → Nat} {X:F} (h:XAt w g u r u told X k) (ho:∀ j,j < u → ∃ i,i < u ∧ told i = j) (hu:u ≤ maxLen):LinesR w (.slice (some ⟨g,0,none⟩) u u) u r X k:=by
 obtain ⟨cur,h1,h2,h3⟩:=h
 refine ⟨_,_,rfl,Nat.le_refl _,hu,.inr ⟨g,0,cur,rfl,h1,fun j hj=>?_⟩⟩
 obtain ⟨v,v1,v2⟩:=h3 j hj
 refine ⟨v,by rw [Nat.zero_add]; exact v1,?_⟩
 rcases v2 with ⟨-,v2⟩ | v2
 ·obtain ⟨i,hi,e⟩:=ho j hj
  exact absurd e (v2 i hi)
 ·exact v2
theorem LinesO.xat {w:World} {g u r C k:Nat} {M:F} (h:LinesO w g u 0 C M k) (told:Nat → Nat) (X:F) (kx:Nat):XAt w g u r 0 told X kx:=by
 obtain ⟨cur,h1,h2,h3,h4⟩:=h.cells
 exact ⟨cur,h1,h2,fun j hj=>⟨_,h4 j (Nat.zero_le _) hj,.inl ⟨rfl,fun i hi=>by omega⟩⟩⟩
theorem Kb_le (s u i l:Nat):Kb s u i l ≤ bk s u:=by
 unfold Kb
 split
 ·exact bk_le (by omega)
 ·exact bk_ge _ _
/-- Another block of lines is written over. -/
theorem Eqs.apart {B:Nat} {w w':World} {e L cap R u N t b:Nat} {E:F} {told K G c:Nat → Nat} {cur:Array Value} (h:Eqs B w e L cap R u N t E told K G c) (hg:w.grownBy w' (some b)) (hc:CellsAt w b cur 113) (ho:Odd w b) (hne:L ≠ b):Eqs B w' e L cap R u N t E told K G c:=by
 refine h.other hg hc (by decide) (by decide) (h.lns.keeps (keeps_grown hg) (fun x hx=>by rw [hx]; exact ho) hne fun i hi hx=>?_) h.bG
 obtain ⟨cg,hcg,-⟩:=(h.lns.line i hi).cells
 exact cells_ne hcg hc (by decide) hx
theorem Tryz.matAnswers (B e L cap R u r k:Nat) (E:F) (told G c:Nat → Nat) (w:World) (h:Eqs B w e L cap R u (u + r) 0 E told (fun _=>k) G c) (hu0:0 < u) (hr:0 < r) (hR:R ≤ 1000) (hN:u + r ≤ 1000) (hk:1 ≤ k) (hs:bk (gr k u) u ≤ 30000000000) (hB:B ≤ w.heap.size) :
 Calls Tryz.prog 82 #[.pointer (some ⟨e,0,none⟩)] w fun q w'=>((q = .returned (.tuple #[.slice none 0 0,.bool false]) ∧ AnsN E R u r) ∨ (∃ g X,q = .returned (.tuple #[.slice (some ⟨g,0,none⟩) u u,.bool true]) ∧ AnsY E X R u r ∧ LinesR w' (.slice (some ⟨g,0,none⟩) u u) u r X (bk (gr k u) u))) ∧ Below B w w':=by
 have HE0:=Lib.hid h
 have HBB:=Lib.hid hB
 have HSS:=Lib.hid hs
 have hgs:=bk_ge (gr k u) u
 clear h hB
 go_enter Tryz.func82,Tryz.ntmps82
 go_wp2_with fail
 with_reducible refine (Tryz.matEliminate B e L cap R u (u + r) k E told G c _ HE0.out (by omega) hR hN hk (by omega) HBB.out).mono ?_
 rintro e1 w1 ⟨rfl,⟨t,E',told',G',c',he,heq,hec,hba⟩,hb⟩
 have HE:=Lib.hid he
 have HQ:=Lib.hid heq
 have HC:=Lib.hid hec
 have HA:=Lib.hid hba
 have HB:=Lib.hid hb
 have htu:=hec.tu
 have htR:=hec.le
 obtain ⟨p,q,hst⟩:=he.parts
 have HS:=Lib.hid hst
 clear he heq hec hba hb hst HE0
 go_wp2_with fail
 refine wp_region_held_drew (S:=fun w'=>w'.cell? ⟨e,0,none⟩ = some (.slice (some ⟨L,0,none⟩) R cap) ∧ w'.cell? ⟨e,1,none⟩ = some (.int .i64 u) ∧ w'.cell? ⟨e,2,none⟩ = some (.slice p t q)) (by kernel_rfl) ⟨HS.out.cell 0,HS.out.cell 1,HS.out.cell 2⟩ (fun hHeld=>?_)
 replace HB:=Lib.hid (HB.out.drew)
 replace HE:=Lib.hid (HE.out.below (Below.refl _ _).drew)
 replace HS:=Lib.hid (HS.out.below (Below.refl _ _).drew)
 clear hHeld
 generalize w1.drew = w1d at *
 have hHeld:(fun w':World=>w'.cell? ⟨e,0,none⟩ = some (.slice (some ⟨L,0,none⟩) R cap) ∧ w'.cell? ⟨e,1,none⟩ = some (.int .i64 u) ∧ w'.cell? ⟨e,2,none⟩ = some (.slice p t q)) w1d:=⟨HS.out.cell 0,HS.out.cell 1,HS.out.cell 2⟩
 refine takeY 0 (h:=?_)
 refine takeY 1 (h:=?_)
 refine takeY 2 (h:=?_)
 (try simp only [Act.put,List.setIfInBounds_toArray,List.set_cons_zero,List.set_cons_succ])
 refine takeY 3 (h:=?_)
 refine takeY 4 (h:=?_)
 refine takeY 5 (h:=?_)
 (try simp only [Act.put,List.setIfInBounds_toArray,List.set_cons_zero,List.set_cons_succ])
 refine takeY 6 (h:=?_)
 refine takeY 7 (h:=?_)
 refine takeY 8 (h:=?_)
 (try simp only [Act.put,List.setIfInBounds_toArray,List.set_cons_zero,List.set_cons_succ])
 refine takeY 9 (h:=?_)
 (try simp only [Act.put,List.setIfInBounds_toArray,List.set_cons_zero,List.set_cons_succ])
 refine wpAnyH_done (by kernel_rfl) ?_ _
 by_cases hlt:t < u
 ·have e1:decide ((t:Int) < (u:Int)) = true:=by simp; omega
  have e1':decide (t < u) = true:=by simpa using hlt
  have HR:Hid (AnsN E R u r):=ansN_rank HQ.out HC.out HA.out hlt
  clear HQ HC HA HE HS
  go_wp2
  go_ret2
  exact ⟨.inl ⟨rfl,HR.out⟩,HB.out⟩
 ·obtain rfl:t = u:=by omega
  have e1:decide ((t:Int) < (t:Int)) = false:=by simp
  have e1':decide (t < t) = false:=by simp
  clear hlt
  have hcap:=HE.out.lns.le
  have hmax:=HE.out.lns.max
  unfold maxLen at hmax
  have t0:(0:Int) ≤ (t:Int):=by omega
  have t1:(t:Int) ≤ (R:Int):=by omega
  have t2:(t:Int) ≤ (cap:Int):=by omega
  obtain ⟨m,hm⟩:∃ m,R - t = m:=⟨_,rfl⟩
  have HM:=Lib.hid hm
  clear hm
  go_upto_region 4 with (fail)
  go_cut [29,30,31] (fun sv nv iv wx=>(∃ o c3,sv = .slice (some ⟨L,o,none⟩) m c3 ∧ (o = t ∨ m = 0)) ∧ nv = .int .i64 m ∧ iv = .int .i64 0 ∧ Eqs B wx e L cap R t (t + r) t E' told' (fun _=>gr k t) G' c' ∧ CellsAt wx e #[.slice (some ⟨L,0,none⟩) R cap,.int .i64 t,.slice p t q] 126 ∧ Below B w wx)
  case first=>
   by_cases hct:cap = t
   ·have HCT:=Lib.hid hct
    refine wp_region_held_drew (S:=fun w'=>w'.cell? ⟨e,0,none⟩ = some (.slice (some ⟨L,0,none⟩) R cap) ∧ w'.cell? ⟨e,1,none⟩ = some (.int .i64 t) ∧ w'.cell? ⟨e,2,none⟩ = some (.slice p t q)) (by kernel_rfl) ⟨HS.out.cell 0,HS.out.cell 1,HS.out.cell 2⟩ (fun hHeld=>?_)
    replace HB:=Lib.hid (HB.out.drew)
    replace HE:=Lib.hid (HE.out.below (Below.refl _ _).drew)
    replace HS:=Lib.hid (HS.out.below (Below.refl _ _).drew)
    clear hHeld
    generalize w1d.drew = w1dd at *
    have hHeld:(fun w':World=>w'.cell? ⟨e,0,none⟩ = some (.slice (some ⟨L,0,none⟩) R cap) ∧ w'.cell? ⟨e,1,none⟩ = some (.int .i64 t) ∧ w'.cell? ⟨e,2,none⟩ = some (.slice p t q)) w1dd:=⟨HS.out.cell 0,HS.out.cell 1,HS.out.cell 2⟩
    refine takeY 0 (h:=?_)
    refine takeY 1 (h:=?_)
    refine takeY 2 (h:=?_)
    (try simp only [Act.put,List.setIfInBounds_toArray,List.set_cons_zero,List.set_cons_succ])
    refine takeY 3 (h:=?_)
    refine takeY 4 (h:=?_)
    refine takeY 5 (h:=?_)
    (try simp only [Act.put,List.setIfInBounds_toArray,List.set_cons_zero,List.set_cons_succ])
    refine takeY 6 (h:=?_)
    refine takeY 7 (h:=?_)
    refine takeY 8 (h:=?_)
    (try simp only [Act.put,List.setIfInBounds_toArray,List.set_cons_zero,List.set_cons_succ])
    refine takeY 9 (h:=?_)
    refine takeY 10 (h:=?_)
    (try simp only [Act.put,List.setIfInBounds_toArray,List.set_cons_zero,List.set_cons_succ])
    refine wpAnyH_done (by kernel_rfl) ?_ _
    go_wp2_with fail
    go_meet
    exact ⟨⟨0,cap - t,by have h:=HM.out; simp [h,hct],.inr (by have h:=HM.out; omega)⟩,by have h:=HM.out; simp; omega,rfl,HE.out,HS.out,HB.out⟩
   ·skip
    refine wp_region_held_drew (S:=fun w'=>w'.cell? ⟨e,0,none⟩ = some (.slice (some ⟨L,0,none⟩) R cap) ∧ w'.cell? ⟨e,1,none⟩ = some (.int .i64 t) ∧ w'.cell? ⟨e,2,none⟩ = some (.slice p t q)) (by kernel_rfl) ⟨HS.out.cell 0,HS.out.cell 1,HS.out.cell 2⟩ (fun hHeld=>?_)
    replace HB:=Lib.hid (HB.out.drew)
    replace HE:=Lib.hid (HE.out.below (Below.refl _ _).drew)
    replace HS:=Lib.hid (HS.out.below (Below.refl _ _).drew)
    clear hHeld
    generalize w1d.drew = w1dd at *
    have hHeld:(fun w':World=>w'.cell? ⟨e,0,none⟩ = some (.slice (some ⟨L,0,none⟩) R cap) ∧ w'.cell? ⟨e,1,none⟩ = some (.int .i64 t) ∧ w'.cell? ⟨e,2,none⟩ = some (.slice p t q)) w1dd:=⟨HS.out.cell 0,HS.out.cell 1,HS.out.cell 2⟩
    refine takeY 0 (h:=?_)
    refine takeY 1 (h:=?_)
    refine takeY 2 (h:=?_)
    (try simp only [Act.put,List.setIfInBounds_toArray,List.set_cons_zero,List.set_cons_succ])
    refine takeY 3 (h:=?_)
    refine takeY 4 (h:=?_)
    refine takeY 5 (h:=?_)
    (try simp only [Act.put,List.setIfInBounds_toArray,List.set_cons_zero,List.set_cons_succ])
    refine takeY 6 (h:=?_)
    refine takeY 7 (h:=?_)
    refine takeY 8 (h:=?_)
    (try simp only [Act.put,List.setIfInBounds_toArray,List.set_cons_zero,List.set_cons_succ])
    refine takeY 9 (h:=?_)
    refine takeY 10 (h:=?_)
    (try simp only [Act.put,List.setIfInBounds_toArray,List.set_cons_zero,List.set_cons_succ])
    refine wpAnyH_done (by kernel_rfl) ?_ _
    go_wp2_with fail
    go_meet
    exact ⟨⟨t,cap - t,by have h:=HM.out; simp [h],.inl rfl⟩,by have h:=HM.out; simp; omega,rfl,HE.out,HS.out,HB.out⟩
  case rest=>
   obtain ⟨⟨o,c3,rfl,ho⟩,rfl,rfl,he,hst,hb⟩:=hcut
   clear HE HB HS
   have HE:=Lib.hid he
   have HS:=Lib.hid hst
   have HB:=Lib.hid hb
   have hmR:=HM.out
   have s0:=hst.cell 0
   have s1:=hst.cell 1
   have s2:=hst.cell 2
   have s9:=hst.lt
   clear he hst hb
   go_wp2_with fail
   clear s0 s1 s2 s9
   go_loopw [31] (fun iv wr=>∃ i:Nat,iv = .int .i64 i ∧ i ≤ m ∧ (∀ l,l < i → ∀ j,j < t + r → E' (t + l) j = 0) ∧ Eqs B wr e L cap R t (t + r) t E' told' (fun _=>gr k t) G' c' ∧ Below B w wr) (fun iv _=>m - (intOf iv).toNat)
   case atStart=>exact ⟨0,rfl,Nat.zero_le _,fun l hl=>by omega,HE.out,HB.out⟩
   case round=>
    obtain ⟨i,rfl,hi,hz,he,hb⟩:=hrel
    clear HE HS HB
    have HE:=Lib.hid he
    have HB:=Lib.hid hb
    have HZ:=Lib.hid hz
    by_cases hlt:i < m
    ·obtain rfl:o = t:=by omega
     obtain ⟨r0,-,r1⟩:=he.lns.cell (i:=o + i) (by omega)
     have HV:=Lib.hid (he.lns.line (o + i) (by omega)).read
     have i0:(0:Int) ≤ (i:Int):=by omega
     have i1:(i:Int) < (m:Int):=by omega
     clear he hb hz
     go_wp2_with fail
     with_reducible refine (Tryz.matEmpty (o + r) _ (E' (o + i)) (gr k o) _ HV.out hN).mono ?_
     rintro e1 w3 ⟨⟨y,rfl,hy1,hy2⟩,hb⟩
     have HE3:=Lib.hid (HE.out.below hb)
     have HB3:=Lib.hid (HB.out.trans (hb.mono (Nat.le_trans HBB.out HB.out.size)))
     clear hb HE HB HV r0 r1
     cases y
     ·obtain ⟨j,hj,hne⟩:=hy2 rfl
      have HR:Hid (AnsN E R o r):=ansN_line HQ.out HA.out (Nat.le_add_right o i) (by omega) hj hne
      clear hy1 hy2 hne HE3 HQ HC HA HZ
      go_wp2
      go_ret2
      exact ⟨.inl ⟨rfl,HR.out⟩,HB3.out⟩
     ·have HZ3 : Hid (∀ l, l < i + 1 → ∀ j, j < o + r → E' (o + l) j = 0) := fun l hl j hj => by
       by_cases e2:l = i
       ·rw [e2]; exact hy1 rfl j hj
       ·exact HZ.out l (by omega) j hj
      clear hy1 hy2 HZ
      go_wp2
      go_roundw
      case rel=>exact ⟨i + 1,by go_num,by omega,HZ3.out,HE3.out,HB3.out⟩
      case measure=>simp [intOf]; omega
    ·have e3:decide ((i:Int) < (m:Int)) = false:=by simp; omega
     have e3':decide (i < m) = false:=by simpa using hlt
     obtain rfl:i = m:=by omega
     clear he hb hz
     go_wp2_with fail
     with_reducible refine (Tryz.matPutBack B e L cap R t (t + r) r (gr k t) E' told' G' c' _ HE.out HC.out.col htR rfl hr hu0 hR hN (gr_pos hk) hs (Nat.le_trans HBB.out HB.out.size)).mono ?_
     rintro e2 w4 ⟨rfl,⟨H,hh,hkb⟩,hb⟩
     obtain ⟨b,q2,cur,hst,hcu,hq1,hq2,hcs⟩:=hh.tolds hu0
     have HH:=Lib.hid hh
     have HKB:=Lib.hid hkb
     have HB4:=Lib.hid (HB.out.trans hb)
     have HS4:=Lib.hid hst
     have HCU:=Lib.hid hcu
     have HCS:=Lib.hid hcs
     unfold maxLen at hq2
     clear hh hkb hb hst hcu hcs HE HB
     obtain ⟨w5,hmk,hox,hbm⟩:=Tryz.makeLines w4 t t r (fun _ _=>0) 0 rfl (by omega)
     obtain ⟨gx,hgx⟩:∃ gx,w4.heap.size = gx:=⟨_,rfl⟩
     have HGX:=Lib.hid hgx
     have hLx:L ≠ gx:=by
      obtain ⟨cl,h1,-⟩:=HH.out.lns.cells
      have:=h1.lt
      omega
     have hBx:B ≤ gx:=by have:=Nat.le_trans HBB.out HB4.out.size; omega
     rw [hgx] at hmk hox
     have d0:=HS4.out.cell 0
     have d1:=HS4.out.cell 1
     have d9:=HS4.out.lt
     have HH5:=Lib.hid (HH.out.below hbm)
     have HB5:=Lib.hid (HB4.out.trans (hbm.mono (Nat.le_trans HBB.out HB4.out.size)))
     have HS5:=Lib.hid (HS4.out.below hbm)
     have HCU5:=Lib.hid (HCU.out.below hbm)
     have HX5:=Lib.hid (hox.xat (r:=r) told' (ansX H told' t) (bk (gr k t) t))
     have d2:=HS5.out.cell 2
     have d8:=HS5.out.lt
     simp only [List.getElem?_toArray,List.getElem?_cons_zero,List.getElem?_cons_succ] at d0 d1 d2
     clear hbm hox hgx HH HB4 HS4 HCU
     go_wp2_with fail
     clear hmk d0 d1 d2 d8 d9
     go_loopw [51] (fun iv wr=>∃ i:Nat,iv = .int .i64 i ∧ i ≤ t ∧ XAt wr gx t r i told' (ansX H told' t) (bk (gr k t) t) ∧ Eqs B wr e L cap R t (t + r) t H told' (Kb (gr k t) t 0) G' c' ∧ CellsAt wr e #[.slice (some ⟨L,0,none⟩) R cap,.int .i64 t,.slice (some ⟨b,0,none⟩) t q2] 126 ∧ CellsAt wr b cur 3 ∧ Below B w wr) (fun iv _=>t - (intOf iv).toNat)
     case atStart=>exact ⟨0,rfl,Nat.zero_le _,HX5.out,HH5.out,HS5.out,HCU5.out,HB5.out⟩
     case round=>
      obtain ⟨n,rfl,hn,hx,hh,hs2,hcu,hb⟩:=hrel
      clear HX5 HH5 HS5 HCU5 HB5
      have HX:=Lib.hid hx
      have HH:=Lib.hid hh
      have HS:=Lib.hid hs2
      have HCU:=Lib.hid hcu
      have HB:=Lib.hid hb
      by_cases hlt2:n < t
      ·have b0:wr.cell? ⟨b,n,none⟩ = some (.int .i64 (told' n:Nat)):=(hcu.cell n).trans (HCS.out n hlt2)
       have b1:=hcu.lt
       have n0:(0:Int) ≤ (n:Int):=by omega
       have n1:(n:Int) < (t:Int):=by omega
       have n2:(n:Int) < (R:Int):=by omega
       have htn:=HC.out.col n hlt2
       have k0:(0:Int) ≤ (told' n:Int):=by omega
       have k1:(told' n:Int) < (t:Int):=by omega
       have u1:(t:Int) ≤ (t:Int) + (r:Int):=by omega
       have cn:=(hh.lns.line n (by omega)).le
       have cn9:=(hh.lns.line n (by omega)).max
       have cn2:c' n ≠ t:=by omega
       unfold maxLen at cn9
       clear hx hh hs2 hcu hb
       go_wp2_with fail
       clear b0 b1
       refine wp_region_held_drew (S:=fun w'=>w'.cell? ⟨e,0,none⟩ = some (.slice (some ⟨L,0,none⟩) R cap) ∧ w'.cell? ⟨e,1,none⟩ = some (.int .i64 t) ∧ w'.cell? ⟨L,n,none⟩ = some (.slice (some ⟨G' n,0,none⟩) (t + r) (c' n))) (by kernel_rfl) ⟨HS.out.cell 0,HS.out.cell 1,(HH.out.lns.cell (i:=n) (by omega)).1⟩ (fun hHeld=>?_)
       replace HB:=Lib.hid (HB.out.drew)
       replace HH:=Lib.hid (HH.out.below (Below.refl _ _).drew)
       replace HS:=Lib.hid (HS.out.below (Below.refl _ _).drew)
       replace HCU:=Lib.hid (HCU.out.below (Below.refl _ _).drew)
       replace HX:=Lib.hid (HX.out.below (Below.refl _ _).drew)
       clear hHeld
       generalize wr.drew = wd at *
       have hHeld:(fun w':World=>w'.cell? ⟨e,0,none⟩ = some (.slice (some ⟨L,0,none⟩) R cap) ∧ w'.cell? ⟨e,1,none⟩ = some (.int .i64 t) ∧ w'.cell? ⟨L,n,none⟩ = some (.slice (some ⟨G' n,0,none⟩) (t + r) (c' n))) wd:=⟨HS.out.cell 0,HS.out.cell 1,(HH.out.lns.cell (i:=n) (by omega)).1⟩
       refine takeY 0 (h:=?_)
       refine takeY 1 (h:=?_)
       refine takeY 2 (h:=?_)
       (try simp only [Act.put,List.setIfInBounds_toArray,List.set_cons_zero,List.set_cons_succ])
       refine takeY 3 (h:=?_)
       refine takeY 4 (h:=?_)
       refine takeY 5 (h:=?_)
       (try simp only [Act.put,List.setIfInBounds_toArray,List.set_cons_zero,List.set_cons_succ])
       refine takeY 6 (h:=?_)
       refine takeY 7 (h:=?_)
       refine takeY 8 (h:=?_)
       (try simp only [Act.put,List.setIfInBounds_toArray,List.set_cons_zero,List.set_cons_succ])
       refine takeY 9 (h:=?_)
       refine takeY 10 (h:=?_)
       refine takeY 11 (h:=?_)
       (try simp only [Act.put,List.setIfInBounds_toArray,List.set_cons_zero,List.set_cons_succ])
       refine takeY 12 (h:=?_)
       refine takeY 13 (h:=?_)
       (try simp only [Act.put,List.setIfInBounds_toArray,List.set_cons_zero,List.set_cons_succ])
       refine wpAnyH_ready (rs:=[14]) (by kernel_rfl) (by simp) ?_
       refine AllReadyH.cons (by (simp only [List.getElem?_toArray,List.getElem?_cons_succ,List.getElem?_cons_zero]) <;> rfl) (fun KX hK=>?_) AllReadyH.nil
       have hv:=(HH.out.lns.line n (by omega)).part rfl
       have hv:=hv.congr (f':=ansX H told' t (told' n)) (m:=bk (gr k t) t) (fun j _=>ansX_at H HC.out hlt2 j) (Kb_le _ _ _ _)
       go_simp
       with_reducible refine (Tryz.cloneL _ r (ansX H told' t (told' n)) (bk (gr k t) t) _ hv hr (by omega)).mono ?_
       rintro e wd21 ⟨⟨g,cg,rfl,hg,-⟩,hb⟩
       clear hv
       replace hg:=hg.read
       clear hHeld
       replace HB:=Lib.hid (HB.out.trans (hb.mono (Nat.le_trans HBB.out HB.out.size)))
       replace HH:=Lib.hid (HH.out.below hb)
       replace HS:=Lib.hid (HS.out.below hb)
       replace HCU:=Lib.hid (HCU.out.below hb)
       replace HX:=Lib.hid (HX.out.below hb)
       clear hb
       have HG:=Lib.hid hg
       clear hg
       refine hK.out _ _ ⟨HS.out.cell 0,HS.out.cell 1,(HH.out.lns.cell (i:=n) (by omega)).1⟩ (fun hHeld=>?_)
       clear hK KX
       (try simp only [Act.put,List.setIfInBounds_toArray,List.set_cons_zero,List.set_cons_succ])
       refine takeY 15 (h:=?_)
       (try simp only [Act.put,List.setIfInBounds_toArray,List.set_cons_zero,List.set_cons_succ])
       refine wpAnyH_ready (rs:=[16]) (by kernel_rfl) (by simp) ?_
       refine AllReadyH.cons (by (simp only [List.getElem?_toArray,List.getElem?_cons_succ,List.getElem?_cons_zero]) <;> rfl) (fun KX hK=>?_) AllReadyH.nil
       obtain ⟨⟨xv,x0⟩,x1,x2⟩:=HX.out.cell htn
       have hox:=HX.out.odd hr
       have HXN:Hid (XAt (wd21.setCell ⟨gx,told' n,none⟩ (.slice (some ⟨g,0,none⟩) r cg)) gx t r (n + 1) told' (ansX H told' t) (bk (gr k t) t)):=HX.out.set hr htn HG.out
       obtain ⟨cx,hcx,-⟩:=HX.out
       have HHN:Hid (Eqs B (wd21.setCell ⟨gx,told' n,none⟩ (.slice (some ⟨g,0,none⟩) r cg)) e L cap R t (t + r) t H told' (Kb (gr k t) t 0) G' c'):=HH.out.apart (grown_setCell _ _ _ _) hcx hox hLx
       have HSN:=Lib.hid (cells_far HS.out (grown_setCell wd21 gx (told' n) (.slice (some ⟨g,0,none⟩) r cg)) (cells_ne HS.out hcx (by decide)))
       have HCN:=Lib.hid (cells_far HCU.out (grown_setCell wd21 gx (told' n) (.slice (some ⟨g,0,none⟩) r cg)) (cells_ne HCU.out hcx (by decide)))
       have HBN:Hid (Below B w (wd21.setCell ⟨gx,told' n,none⟩ (.slice (some ⟨g,0,none⟩) r cg))):=HB.out.setCell (p:=⟨gx,told' n,none⟩) hBx _
       go_simp
       clear hHeld HB HH HS HCU HX HG x0 x1 x2 hox hcx
       refine hK.out _ _ ⟨HSN.out.cell 0,HSN.out.cell 1,(HHN.out.lns.cell (i:=n) (by omega)).1⟩ (fun hHeld=>?_)
       clear hK KX hHeld
       (try simp only [Act.put,List.setIfInBounds_toArray,List.set_cons_zero,List.set_cons_succ])
       refine wpAnyH_done (by kernel_rfl) ?_ _
       go_wp2
       go_roundw
       case rel=>exact ⟨n + 1,by go_num,by omega,HXN.out,HHN.out,HSN.out,HCN.out,HBN.out⟩
       case measure=>simp [intOf]; omega
      ·have e4:decide ((n:Int) < (t:Int)) = false:=by simp; omega
       have e4':decide (n < t) = false:=by simpa using hlt2
       obtain rfl:n = t:=by omega
       have HL:Hid (LinesR wr (.slice (some ⟨gx,0,none⟩) n n) n r (ansX H told' n) (bk (gr k n) n)):=hx.done (onto n told' HC.out.col (fun a b ha hb e=>HC.out.inj ha hb e)) (by unfold maxLen; omega)
       have HY:Hid (AnsY E (ansX H told' n) R n r):=ansY HQ.out HC.out HA.out (fun l h1 h2 j hj=>by
        have:=HZ.out (l - n) (by have:=HM.out; omega) j hj
        rwa [show n + (l - n) = l by omega] at this) HKB.out (fun a c ha=>ansX_at H HC.out ha c)
       clear hx hh hs2 hcu hb HX HH HS HCU
       go_wp2
       go_ret2
       exact ⟨.inr ⟨gx,_,rfl,HY.out,HL.out⟩,HB.out⟩
end Go.Proofs.Mt
namespace Go.Proofs.Mt
open Go.RowKit Go.Proofs.Wd Go.Proofs.Fr Go.Proofs.Vt Go.Proofs.Mm
theorem Fac.congr {M M':F} {m n r:Nat} (h:Fac M m n r) (e:∀ i k,i < m → k < n → M' i k = M i k):Fac M' m n r:=by
 obtain ⟨A,B,hf⟩:=h
 exact ⟨A,B,fun i k hi hk=>(e i k hi hk).trans (hf i k hi hk)⟩
theorem RankIs.congr {M M':F} {m n r:Nat} (h:RankIs M m n r) (e:∀ i k,i < m → k < n → M' i k = M i k):RankIs M' m n r:=
 ⟨Fac.congr h.1 e,fun s hs hf=>h.2 s hs (Fac.congr hf fun i k hi hk=>(e i k hi hk).symm)⟩
theorem cat_left {f g:Nat → Rat} {C j:Nat} (h:j < C):catF f g C j = f j:=by rw [catF,if_pos h]
theorem cat_right (f g:Nat → Rat) (C j:Nat):catF f g C (C + j) = g j:=by rw [catF,if_neg (by omega),Nat.add_sub_cancel_left]
theorem dot_cat (f g x:Nat → Rat) (C:Nat):dotF (catF f g C) x C = dotF f x C:=Vm.sum_congr fun j hj=>by rw [cat_left hj]
theorem LinesO.right {w:World} {g R C k kr:Nat} {M Rt:F} (h:LinesO w g R 0 C M k):RightR w g R 0 Rt kr:=by
 obtain ⟨cur,h1,h2,h3,h4⟩:=h.cells
 exact ⟨cur,h1,fun i hi=>⟨none,0,h4 i (Nat.zero_le _) hi,.inr ⟨rfl,rfl⟩⟩⟩
theorem Tryz.matRank (v:Value) (R C k:Nat) (M:F) (w:World) (hv:MatR w v R C M k) (hR0:0 < R) (hR:R ≤ 1000) (hC0:0 < C) (hC:C ≤ 1000) (hk:1 ≤ k) (hs:gr k C ≤ 30000000000) :
 Calls Tryz.prog 36 #[v] w fun q w'=>(∃ t:Nat,q = .returned (.int .i64 t) ∧ RankIs M R C t) ∧ Below w.heap.size w w':=by
 have HM:=Lib.hid hv
 clear hv
 go_enter Tryz.func36,Tryz.ntmps36
 go_wp2_with fail
 with_reducible refine (Tryz.matAll v R C M k _ HM.out).mono ?_
 rintro e1 w1 ⟨⟨s,rfl,hl⟩,rfl⟩
 obtain ⟨p,cap,rfl,-,-⟩:=hl.slice
 clear hl
 obtain ⟨w2,hmk,ho,hb⟩:=Tryz.makeLines w1 R R 0 (fun _ _=>0) 0 rfl (by omega)
 obtain ⟨g,hg⟩:∃ g,w1.heap.size = g:=⟨_,rfl⟩
 have HRT:Hid (RightR w2 w1.heap.size R 0 (fun _ _=>0) k):=ho.right
 have HB:=Lib.hid hb
 have HM2:=Lib.hid (HM.out.below hb)
 rw [hg] at hmk HRT
 clear ho hb hg
 go_wp2_with fail
 clear hmk
 with_reducible refine (Tryz.matBeside v g R C 0 k M (fun _ _=>0) _ HM2.out HRT.out hR0 hR hC0 (by omega) (fun _=>0)).mono ?_
 rintro e2 w3 ⟨⟨e,L,cap2,G,c,rfl,he⟩,hb⟩
 have HE:=Lib.hid he
 have HB3:=Lib.hid (HB.out.trans (hb.mono HB.out.size))
 have HBB:Hid (w2.heap.size ≤ w3.heap.size):=hb.size
 have HB2:=Lib.hid HB.out.size
 clear he hb HB
 go_wp2_with fail
 with_reducible refine (Tryz.matEliminate w2.heap.size e L cap2 R C (C + 0) k _ (fun _=>0) G c _ HE.out (by omega) hR (by omega) hk hs HBB.out).mono ?_
 rintro e3 w4 ⟨rfl,⟨t,E',told,G',c',he,heq,hec,hba⟩,hb⟩
 obtain ⟨p2,q2,hst⟩:=he.parts
 have s2:=hst.cell 2
 have s9:=hst.lt
 simp only [List.getElem?_toArray,List.getElem?_cons_zero,List.getElem?_cons_succ] at s2
 have HR:Hid (RankIs M R C t):=RankIs.congr (rank_of heq (by omega) hec hba) fun i j _ hj=>(cat_left hj).symm
 have HB4:=Lib.hid (HB3.out.trans (hb.mono HB2.out))
 clear he heq hec hba hb hst HB3 HE
 go_wp2
 go_ret
 exact ⟨⟨t,rfl,HR.out⟩,HB4.out⟩
/-- Lines of the call's own that are made one behind the other. -/
structure Uni (B:Nat) (w:World) (g R i N:Nat) (E:F) (k:Nat) (G c:Nat → Nat):Prop where
 lns:LnsAt w g R i N E (fun _=>k) G c
 rest:∀ j,i ≤ j → j < R → w.cell? ⟨g,j,none⟩ = some (.slice none 0 0)
 bg:B ≤ g
theorem Uni.below {B:Nat} {w w':World} {g R i N k:Nat} {E:F} {G c:Nat → Nat} (h:Uni B w g R i N E k G c) (hb:Below w.heap.size w w'):Uni B w' g R i N E k G c:=
 ⟨h.lns.below hb,fun j h1 h2=>cellOf hb (h.rest j h1 h2),h.bg⟩
theorem LinesO.uni {B:Nat} {w:World} {g R C k N kx:Nat} {M E:F} (h:LinesO w g R 0 C M k) (hB:B ≤ g):Uni B w g R 0 N E kx (fun _=>0) (fun _=>0):=by
 obtain ⟨cur,h1,h2,h3,h4⟩:=h.cells
 exact ⟨LnsAt.none h1 h2 h.max,fun j _ hj=>(h1.cell j).trans (h4 j (Nat.zero_le _) hj),hB⟩
theorem Uni.odd {B:Nat} {w:World} {g R i N k:Nat} {E:F} {G c:Nat → Nat} (h:Uni B w g R i N E k G c) (hi:i < R):Odd w g:=by
 by_cases e:i = 0
 ·subst e
  obtain ⟨cur,h1,-⟩:=h.lns.cells
  refine ⟨cur,_,h1,by decide,fun u hu=>?_⟩
  have:=(h1.cell 0).symm.trans (h.rest 0 (Nat.le_refl _) hi)
  rw [hu] at this
  rw [Option.some.inj this]
  exact .inr (.inl ⟨0,0,rfl⟩)
 ·exact h.lns.odd (by omega)
theorem Uni.step {B:Nat} {w:World} {g R i N k b cb:Nat} {E E':F} {G c:Nat → Nat} (h:Uni B w g R i N E k G c) (hi:i < R) (hl:LineO w b N cb (E' i) k) (hg:∀ l,l < i → G l ≠ b) (he:∀ l,l < i → E' l = E l) :
 Uni B (w.setCell ⟨g,i,none⟩ (.slice (some ⟨b,0,none⟩) N cb)) g R (i + 1) N E' k (fun l=>if l = i then b else G l) (fun l=>if l = i then cb else c l):=by
 have ho:=h.odd hi
 have h':LnsAt w g R i N E' (fun _=>k) G c:=h.lns.congr (fun l hl j _=>by rw [he l hl]) (fun _ _=>Nat.le_refl _)
 obtain ⟨cur,h1,h2,h3⟩:=h.lns.cells
 exact ⟨h'.grow hi ho hl hg (Nat.le_refl _),fun j h4 h5=>((h1.set i _).cell j).trans ((get_put (by omega)).trans ((h1.cell j).symm.trans (h.rest j (by omega) h5))),h.bg⟩
theorem Uni.setLine {B:Nat} {w w':World} {g R i N k:Nat} {E E':F} {G c:Nat → Nat} {f:Nat → Rat} (h:Uni B w g R (i + 1) N E k G c) (hN:0 < N) (hg:w.grownBy w' (some (G i))) (hl:LineO w' (G i) N (c i) f k) (he:∀ j,j < N → E' i j = f j) (he':∀ l,l < i → E' l = E l):Uni B w' g R (i + 1) N E' k G c:=by
 obtain ⟨cur,h1,h2,h3⟩:=h.lns.cells
 have h1':=cells_far h1 hg (fun e=>h.lns.neL (by omega) e.symm)
 exact ⟨h.lns.setLine hN (by omega) hg hl he (Nat.le_refl _) fun l hl' e=>⟨he' l (by omega),Nat.le_refl _⟩,fun j h4 h5=>(h1'.cell j).trans ((h1.cell j).symm.trans (h.rest j h4 h5)),h.bg⟩
theorem Uni.right {B:Nat} {w:World} {g R N k kk:Nat} {E:F} {G c:Nat → Nat} (h:Uni B w g R R N E k G c) (hN:0 < N) (hk:k ≤ kk):RightR w g R N E kk:=by
 obtain ⟨cur,h1,h2,h3⟩:=h.lns.cells
 exact ⟨cur,h1,fun i hi=>⟨_,_,h3 i hi,.inl ⟨hN,(h.lns.line i hi).read.congr (fun _ _=>rfl) hk⟩⟩⟩
/-- The units that stand by now. -/
def unitF (i:Nat):F:=fun l=>if l < i then oneF l else fun _=>0
theorem unitF_put (i:Nat):∀ j,unitF (i + 1) i j = if j = i then 1 else 0:=fun j=>by
 rw [unitF,if_pos (by omega),oneF]
 by_cases e:i = j
 ·rw [if_pos e,if_pos e.symm]
 ·rw [if_neg e,if_neg (fun x=>e x.symm)]
theorem unitF_old {i l:Nat} (h:l < i):unitF (i + 1) l = unitF i l:=by rw [unitF,if_pos (by omega),unitF,if_pos h]
theorem Tryz.matInverse (v:Value) (n k:Nat) (M:F) (w:World) (hv:MatR w v n n M k) (hn0:0 < n) (hn:n ≤ 400) (hk:1 ≤ k) (hs:bk (gr k n) n ≤ 30000000000) :
 Calls Tryz.prog 35 #[v] w fun q w'=>((q = .returned (.tuple #[.pointer none,.bool false]) ∧ ∃ t,t < n ∧ RankIs M n n t) ∨ (∃ rv X,q = .returned (.tuple #[rv,.bool true]) ∧ MatR w' rv n n X (bk (gr k n) n) ∧ (∀ i c,i < n → c < n → mulF M X n i c = oneF i c))) ∧ Below w.heap.size w w':=by
 have HM:=Lib.hid hv
 have e1:decide ((n:Int) = (n:Int)) = true:=by simp
 clear hv
 go_enter Tryz.func35,Tryz.ntmps35
 go_wp2_with fail
 with_reducible refine (Tryz.matSize v n n M k _ HM.out).mono ?_
 rintro e1 w1 ⟨rfl,hb1⟩
 have HM1:=Lib.hid (HM.out.below hb1)
 have HB1:=Lib.hid hb1
 obtain ⟨w2,hmk,ho,hb⟩:=Tryz.makeLines w1 n n n (fun _ _=>0) 0 rfl (by omega)
 obtain ⟨g,hg⟩:∃ g,w1.heap.size = g:=⟨_,rfl⟩
 have HU:Hid (Uni w1.heap.size w2 w1.heap.size n 0 n (unitF 0) 1 (fun _=>0) (fun _=>0)):=ho.uni (Nat.le_refl _)
 have HB2:=Lib.hid hb
 have HGE:Hid (w.heap.size ≤ w1.heap.size):=hb1.size
 rw [hg] at hmk HU
 have hB:w1.heap.size ≤ g:=Nat.le_of_eq hg
 clear ho hb hb1 HM hg
 go_wp2_with fail
 clear hmk
 go_loopw [22] (fun iv wr=>∃ (i:Nat) (G c:Nat → Nat),iv = .int .i64 i ∧ i ≤ n ∧ Uni g wr g n i n (unitF i) 1 G c ∧ (∀ l,l < i → w1.heap.size ≤ G l) ∧ Below w1.heap.size w1 wr) (fun iv _=>n - (intOf iv).toNat)
 case atStart=>exact ⟨0,_,_,rfl,Nat.zero_le _,⟨HU.out.lns,HU.out.rest,Nat.le_refl _⟩,fun l hl=>by omega,HB2.out⟩
 case round=>
  obtain ⟨i,G,c,rfl,hi,hu,hG,hb⟩:=hrel
  clear HU HB2
  have HU:=Lib.hid hu
  have HB:=Lib.hid hb
  have HGG:=Lib.hid hG
  by_cases hlt:i < n
  ·have i0:(0:Int) ≤ (i:Int):=by omega
   have i1:(i:Int) < (n:Int):=by omega
   have HL:Hid (∀ l,l < i → G l < wr.heap.size):=fun l hl=>(hu.lns.line l hl).lt
   clear hu hb hG
   go_wp2_with fail
   with_reducible refine (Tryz.matNoughts n _ (by omega)).mono ?_
   rintro e2 w3 ⟨⟨b,rfl,hl,hge⟩,hb⟩
   have hu3:=HU.out.below hb
   have x0:=hu3.rest i (Nat.le_refl _) hlt
   obtain ⟨cu,hcu,-⟩:=hu3.lns.cells
   have x1:=hcu.free i
   have x2:=hcu.lt
   have hst:=hu3.step (E':=fun l=>if l < i then unitF i l else fun _=>0) (b:=b) (cb:=n) hlt (hl.congr (fun j _=>by rw [if_neg (by omega)]) (Nat.le_refl _)) (fun l hl'=>by have:=HL.out l hl'; omega) (fun l hl'=>by rw [if_pos hl'])
   obtain ⟨w4,hw4⟩:∃ W,w3.setCell ⟨g,i,none⟩ (.slice (some ⟨b,0,none⟩) n n) = W:=⟨_,rfl⟩
   have HB4:Hid (Below w1.heap.size w1 w4):=by rw [← hw4]; exact (HB.out.trans (hb.mono HB.out.size)).setCell (p:=⟨g,i,none⟩) hB _
   rw [hw4] at hst
   have HU4:=Lib.hid hst
   have hbw:w1.heap.size ≤ b:=Nat.le_trans HB.out.size hge
   have HG4:Hid (∀ l,l < i + 1 → w1.heap.size ≤ (fun l=>if l = i then b else G l) l):=fun l hl'=>by
    by_cases e:l = i
    ·simp only [e,if_true]; exact hbw
    ·simp only [e,if_false]; exact HGG.out l (by omega)
   clear hst hu3 hl hge hb HU HB HL HGG hcu
   go_wp2_with fail
   clear hw4 x0 x1 x2
   refine wp_region_held_drew (S:=fun w'=>w'.cell? ⟨g,i,none⟩ = some (.slice (some ⟨b,0,none⟩) n n)) (by kernel_rfl) (by have h:=(HU4.out.lns.cell (i:=i) (by omega)).1; simpa using h) (fun hHeld=>?_)
   replace HB4:=Lib.hid (HB4.out.drew)
   replace HU4:=Lib.hid (HU4.out.below (Below.refl _ _).drew)
   clear hHeld
   generalize w4.drew = wd at *
   have hHeld:(fun w':World=>w'.cell? ⟨g,i,none⟩ = some (.slice (some ⟨b,0,none⟩) n n)) wd:=(by have h:=(HU4.out.lns.cell (i:=i) (by omega)).1; simpa using h)
   refine takeY 0 (h:=?_)
   refine takeY 1 (h:=?_)
   refine takeY 2 (h:=?_)
   (try simp only [Act.put,List.setIfInBounds_toArray,List.set_cons_zero,List.set_cons_succ])
   refine takeY 3 (h:=?_)
   refine takeY 4 (h:=?_)
   (try simp only [Act.put,List.setIfInBounds_toArray,List.set_cons_zero,List.set_cons_succ])
   refine wpAnyH_ready (rs:=[5]) (by kernel_rfl) (by simp) ?_
   refine AllReadyH.cons (by (simp only [List.getElem?_toArray,List.getElem?_cons_succ,List.getElem?_cons_zero]) <;> rfl) (fun KX hK=>?_) AllReadyH.nil
   go_simp
   with_reducible refine (Tryz.Of 1 _ (by omega) (by omega)).mono ?_
   rintro e wd21 ⟨⟨ov,rfl,hov⟩,hb⟩
   obtain ⟨oa,rfl⟩:=frac_pointer hov
   clear hHeld
   replace HB4:=Lib.hid (HB4.out.trans (hb.mono HB4.out.size))
   replace HU4:=Lib.hid (HU4.out.below hb)
   clear hb
   have HO:=Lib.hid hov
   clear hov
   refine hK.out _ _ (by have h:=(HU4.out.lns.cell (i:=i) (by omega)).1; simpa using h) (fun hHeld=>?_)
   clear hK KX
   (try simp only [Act.put,List.setIfInBounds_toArray,List.set_cons_zero,List.set_cons_succ])
   refine takeY 6 (h:=?_)
   (try simp only [Act.put,List.setIfInBounds_toArray,List.set_cons_zero,List.set_cons_succ])
   refine wpAnyH_ready (rs:=[7]) (by kernel_rfl) (by simp) ?_
   refine AllReadyH.cons (by (simp only [List.getElem?_toArray,List.getElem?_cons_succ,List.getElem?_cons_zero]) <;> rfl) (fun KX hK=>?_) AllReadyH.nil
   have hl:=HU4.out.lns.line i (by omega)
   simp only [if_true,Nat.lt_irrefl,if_false] at hl
   obtain ⟨oc,y0,y1,-⟩:=hl.cell hlt
   have hgr:=grown_setCell wd21 b i (.pointer oa)
   have hsl:=hl.set HO.out hlt
   have HUN:Hid (Uni g (wd21.setCell ⟨b,i,none⟩ (.pointer oa)) g n (i + 1) n (unitF (i + 1)) 1 (fun l=>if l = i then b else G l) (fun l=>if l = i then n else c l)):=HU4.out.setLine (E':=unitF (i + 1)) (f:=fun j=>if j = i then 1 else 0) hn0 (by simpa using hgr) (by simpa using hsl) (fun j _=>unitF_put i j) (fun l hl'=>by rw [unitF_old hl',if_pos hl'])
   have HBN:Hid (Below w1.heap.size w1 (wd21.setCell ⟨b,i,none⟩ (.pointer oa))):=HB4.out.setCell (p:=⟨b,i,none⟩) hbw _
   go_simp
   clear hHeld HB4 HU4 HO hl hgr hsl y0 y1
   refine hK.out _ _ (by have h:=(HUN.out.lns.cell (i:=i) (by omega)).1; simpa using h) (fun hHeld=>?_)
   clear hK KX hHeld
   (try simp only [Act.put,List.setIfInBounds_toArray,List.set_cons_zero,List.set_cons_succ])
   refine wpAnyH_done (by kernel_rfl) ?_ _
   go_wp2
   go_roundw
   case rel=>exact ⟨i + 1,_,_,by go_num,by omega,HUN.out,HG4.out,HBN.out⟩
   case measure=>simp [intOf]; omega
  ·have e3:decide ((i:Int) < (n:Int)) = false:=by simp; omega
   have e3':decide (i < n) = false:=by simpa using hlt
   obtain rfl:i = n:=by omega
   have HRT:Hid (RightR wr g i i (unitF i) k):=hu.right hn0 hk
   have HM2:=Lib.hid (HM1.out.below hb)
   clear hu hb hG HU HGG HM1
   go_wp2_with fail
   with_reducible refine (Tryz.matBeside v g i i i k M (unitF i) _ HM2.out HRT.out hn0 (by omega) hn0 (by omega) (fun _=>0)).mono ?_
   rintro e2 w3 ⟨⟨e,L,cap2,G2,c2,rfl,he⟩,hb⟩
   have HE:=Lib.hid he
   have HB3:=Lib.hid (HB.out.trans (hb.mono HB.out.size))
   have HBB:Hid (wr.heap.size ≤ w3.heap.size):=hb.size
   have HBW:=Lib.hid HB.out.size
   clear he hb HB
   go_wp2_with fail
   with_reducible refine (Tryz.matAnswers wr.heap.size e L cap2 i i i k _ (fun _=>0) G2 c2 _ HE.out hn0 hn0 (by omega) (by omega) hk hs HBB.out).mono ?_
   rintro e3 w4 ⟨⟨rfl,hno⟩ | ⟨gx,X,rfl,hy,hl⟩,hb⟩
   ·have HR : Hid (∃ t, t < i ∧ RankIs M i i t) := by
     rcases hno with ⟨t,h1,h2⟩ | ⟨h1,-⟩
     ·exact ⟨t,h1,RankIs.congr h2 fun a b _ hb'=>(cat_left hb').symm⟩
     ·omega
    have HB5:=Lib.hid (HB1.out.trans ((HB3.out.trans (hb.mono HBW.out)).mono HGE.out))
    clear hno hb HE HB3 HBB HBW
    go_wp2
    go_ret2
    exact ⟨.inl ⟨rfl,HR.out⟩,HB5.out⟩
   ·have HX : Hid (∀ a c, a < i → c < i → mulF M X i a c = oneF a c) := fun a c ha hc => by
     have:=hy.sol c hc a ha
     rw [dot_cat,cat_right,unitF,if_pos ha] at this
     exact this
    have HB5:Hid (Below w1.heap.size w1 w4):=HB3.out.trans (hb.mono HBW.out)
    have HL:=Lib.hid hl
    clear hy hb hl HE HB3 HBB HBW
    have HMX:Hid (MatR (w4.alloc (.cells #[.slice (some ⟨gx,0,none⟩) i i,.int .i64 i] 117)) (.pointer (some ⟨w4.heap.size,0,none⟩)) i i X (bk (gr k i) i)):=⟨_,_,rfl,CellsAt.new _ _ _ rfl,HL.out.below ((Below.refl _ _).alloc (Nat.le_refl _) _)⟩
    have HB6:Hid (Below w.heap.size w (w4.alloc (.cells #[.slice (some ⟨gx,0,none⟩) i i,.int .i64 i] 117))):=(HB1.out.trans (HB5.out.mono HGE.out)).alloc (HB1.out.trans (HB5.out.mono HGE.out)).size _
    clear HL HB5
    go_wp2
    go_ret2
    exact ⟨.inr ⟨_,X,rfl,HMX.out,HX.out⟩,HB6.out⟩
end Go.Proofs.Mt
namespace Go.Proofs.Mt
open Go.RowKit Go.Proofs.Wd Go.Proofs.Fr Go.Proofs.Vt Go.Proofs.Mm
theorem Tryz.matSolve (v bv:Value) (R C k:Nat) (M:F) (fb:Nat → Rat) (w:World) (hv:MatR w v R C M k) (hb:LineR w bv R fb k) (hR0:0 < R) (hR:R ≤ 400) (hC0:0 < C) (hC:C ≤ 400) (hk:1 ≤ k) (hs:bk (gr k C) C ≤ 30000000000) :
 Calls Tryz.prog 37 #[v,bv] w fun q w'=>((q = .returned (.tuple #[.slice none 0 0,.bool false]) ∧ AnsN (fun i=>catF (M i) (fun _=>fb i) C) R C 1) ∨ (∃ g X,q = .returned (.tuple #[.slice (some ⟨g,0,none⟩) C C,.bool true]) ∧ AnsY (fun i=>catF (M i) (fun _=>fb i) C) X R C 1 ∧ LineO w' g C C (fun x=>X x 0) (bk (gr k C) C))) ∧ Below w.heap.size w w':=by
 have HM:=Lib.hid hv
 have HF:=Lib.hid hb
 obtain ⟨pb,cb,rfl,hb1,hb2⟩:=hb.slice
 unfold maxLen at hb2
 have e1:decide ((R:Int) = (R:Int)) = true:=by simp
 clear hv hb
 go_enter Tryz.func37,Tryz.ntmps37
 go_wp2_with fail
 with_reducible refine (Tryz.matSize v R C M k _ HM.out).mono ?_
 rintro e1 w1 ⟨rfl,hb1⟩
 have HM1:=Lib.hid (HM.out.below hb1)
 have HF1:=Lib.hid (HF.out.below hb1)
 have HB1:=Lib.hid hb1
 obtain ⟨w2,hmk,ho,hb⟩:=Tryz.makeLines w1 R R 1 (fun _ _=>0) 0 rfl (by omega)
 obtain ⟨g,hg⟩:∃ g,w1.heap.size = g:=⟨_,rfl⟩
 have HU:Hid (Uni g w2 w1.heap.size R 0 1 (fun l _=>fb l) k (fun _=>0) (fun _=>0)):=ho.uni (Nat.le_of_eq hg.symm)
 have HB2:=Lib.hid hb
 have HGE:Hid (w.heap.size ≤ w1.heap.size):=hb1.size
 rw [hg] at hmk HU
 have hB:w1.heap.size ≤ g:=Nat.le_of_eq hg
 clear ho hb hb1 HM HF hg
 go_wp2_with fail
 clear hmk
 go_loopw [30] (fun iv wr=>∃ (i:Nat) (G c:Nat → Nat),iv = .int .i64 i ∧ i ≤ R ∧ Uni g wr g R i 1 (fun l _=>fb l) k G c ∧ Below w1.heap.size w1 wr) (fun iv _=>R - (intOf iv).toNat)
 case atStart=>exact ⟨0,_,_,rfl,Nat.zero_le _,HU.out,HB2.out⟩
 case round=>
  obtain ⟨i,G,c,rfl,hi,hu,hb⟩:=hrel
  clear HU HB2
  have HU:=Lib.hid hu
  have HB:=Lib.hid hb
  by_cases hlt:i < R
  ·have i0:(0:Int) ≤ (i:Int):=by omega
   have i1:(i:Int) < (R:Int):=by omega
   obtain ⟨g',o,cap',a,he,-,-,d0,hf,hg'⟩:=(HF1.out.below hb).nth hlt
   simp only [Value.slice.injEq,true_and] at he
   obtain ⟨rfl,rfl⟩:=he
   have HFA:=Lib.hid hf
   have HL:Hid (∀ l,l < i → G l < wr.heap.size):=fun l hl=>(hu.lns.line l hl).lt
   clear hu hb hf
   go_wp2_with fail
   with_reducible refine (Tryz.matCopied (.pointer a) (fb i) k _ HFA.out hk).mono ?_
   rintro e2 w3 ⟨⟨a2,rfl,hf2⟩,hb⟩
   have hal:Below w3.heap.size w3 (w3.alloc (.cells #[.pointer a2] 30)):=(Below.refl _ _).alloc (Nat.le_refl _) _
   have hu3:=(HU.out.below hb).below hal
   obtain ⟨b,hbw⟩:∃ b,w3.heap.size = b:=⟨_,rfl⟩
   have hl:LineO (w3.alloc (.cells #[.pointer a2] 30)) b 1 1 (fun _=>fb i) k:=⟨Nat.le_refl _,by unfold maxLen; omega,#[.pointer a2],by rw [← hbw]; exact CellsAt.new _ _ _ rfl,rfl,fun j hj=>⟨a2,by rw [show j = 0 by omega]; rfl,hf2.below hal⟩⟩
   obtain ⟨w4,hw4⟩:∃ W,w3.alloc (.cells #[.pointer a2] 30) = W:=⟨_,rfl⟩
   rw [hw4] at hu3 hl hal
   have x0:=hu3.rest i (Nat.le_refl _) hlt
   obtain ⟨cu,hcu,-⟩:=hu3.lns.cells
   have x1:=hcu.free i
   have x2:=hcu.lt
   have hge:wr.heap.size ≤ b:=by rw [← hbw]; exact hb.size
   have HST:=Lib.hid (hu3.step (E':=fun l _=>fb l) (b:=b) (cb:=1) hlt hl (fun l hl'=>by have:=HL.out l hl'; omega) (fun l _=>rfl))
   have HB4:Hid (Below w1.heap.size w1 (w4.setCell ⟨g,i,none⟩ (.slice (some ⟨b,0,none⟩) 1 1))):=((HB.out.trans (hb.mono HB.out.size)).trans (hal.mono (Nat.le_trans HB.out.size hb.size))).setCell (p:=⟨g,i,none⟩) hB _
   clear hu3 hl hge hb hal HU HB HL hcu hf2 HFA
   go_wp2
   go_roundw
   case rel=>exact ⟨i + 1,_,_,by go_num,by omega,HST.out,HB4.out⟩
   case measure=>simp [intOf]; omega
  ·have e3:decide ((i:Int) < (R:Int)) = false:=by simp; omega
   have e3':decide (i < R) = false:=by simpa using hlt
   obtain rfl:i = R:=by omega
   have HRT:Hid (RightR wr g i 1 (fun l _=>fb l) k):=hu.right (by omega) (Nat.le_refl _)
   have HM2:=Lib.hid (HM1.out.below hb)
   clear hu hb HU HM1 HF1
   go_wp2_with fail
   with_reducible refine (Tryz.matBeside v g i C 1 k M (fun l _=>fb l) _ HM2.out HRT.out hR0 (by omega) hC0 (by omega) (fun _=>0)).mono ?_
   rintro e2 w3 ⟨⟨e,L,cap2,G2,c2,rfl,he⟩,hb⟩
   have HE:=Lib.hid he
   have HB3:=Lib.hid (HB.out.trans (hb.mono HB.out.size))
   have HBB:Hid (wr.heap.size ≤ w3.heap.size):=hb.size
   have HBW:=Lib.hid HB.out.size
   clear he hb HB
   go_wp2_with fail
   with_reducible refine (Tryz.matAnswers wr.heap.size e L cap2 i C 1 k _ (fun _=>0) G2 c2 _ HE.out hC0 (by omega) (by omega) (by omega) hk hs HBB.out).mono ?_
   rintro e3 w4 ⟨⟨rfl,hno⟩ | ⟨gx,X,rfl,hy,hl⟩,hb⟩
   ·have HNO:=Lib.hid hno
    have HB5:=Lib.hid (HB1.out.trans ((HB3.out.trans (hb.mono HBW.out)).mono HGE.out))
    clear hno hb HE HB3 HBB HBW
    go_wp2
    go_ret2
    exact ⟨.inl ⟨rfl,HNO.out⟩,HB5.out⟩
   ·have HY:=Lib.hid hy
    have HB5:Hid (Below w.heap.size w w4):=HB1.out.trans ((HB3.out.trans (hb.mono HBW.out)).mono HGE.out)
    have HL:=Lib.hid hl
    clear hy hb hl HE HB3 HBB HBW
    obtain ⟨w5,hmk,ho,hb⟩:=Tryz.makeLine w4 62 Tryz.underlying62 C C (bk (gr k C) C) rfl (by omega)
    obtain ⟨gs,hgs⟩:∃ gs,w4.heap.size = gs:=⟨_,rfl⟩
    have HGS:=Lib.hid hgs
    rw [hgs] at hmk ho
    have HO:Hid (LineO w5 gs C C (fun x=>if x < 0 then X x 0 else 0) (bk (gr k C) C)):=ho.congr (fun j _=>by rw [if_neg (by omega)]) (Nat.le_refl _)
    have HBS:=Lib.hid hb
    clear ho hb hgs
    go_wp2_with fail
    clear hmk
    go_loopw [56] (fun iv wr=>∃ x:Nat,iv = .int .i64 x ∧ x ≤ C ∧ LineO wr gs C C (fun j=>if j < x then X j 0 else 0) (bk (gr k C) C) ∧ Below w4.heap.size w4 wr) (fun iv _=>C - (intOf iv).toNat)
    case atStart=>exact ⟨0,rfl,Nat.zero_le _,HO.out,HBS.out⟩
    case round=>
     obtain ⟨x,rfl,hx,ho,hb⟩:=hrel
     clear HO HBS
     by_cases hlx:x < C
     ·obtain ⟨g5,o5,cap5,p5,c5,he,-,-,y0,hl5,y1⟩:=(HL.out.below hb).nth hlx
      simp only [Value.slice.injEq,Option.some.injEq,Addr.mk.injEq] at he
      obtain ⟨⟨rfl,rfl,-⟩,-,rfl⟩:=he
      obtain ⟨g6,o6,cap6,a6,he,z1,z2,y2,hf6,y3⟩:=hl5.nth (j:=0) (by omega)
      simp only [Value.slice.injEq,true_and] at he
      obtain ⟨rfl,rfl⟩:=he
      unfold maxLen at z2
      rw [Nat.zero_add] at y0
      rw [Nat.add_zero] at y2
      obtain ⟨b0,x0,x1,-⟩:=ho.cell hlx
      have x2:=ho.lt
      have HR:Hid (LineO (wr.setCell ⟨gs,x,none⟩ (.pointer a6)) gs C C (fun j=>if j < x + 1 then X j 0 else 0) (bk (gr k C) C)):=(ho.set hf6 hlx).congr (fun j _=>by
       by_cases e:j = x
       ·rw [if_pos e,if_pos (by omega),e]
       ·rw [if_neg e]
        by_cases e2:j < x
        ·rw [if_pos e2,if_pos (by omega)]
        ·rw [if_neg e2,if_neg (by omega)]) (Nat.le_refl _)
      have HBN:Hid (Below w4.heap.size w4 (wr.setCell ⟨gs,x,none⟩ (.pointer a6))):=hb.setCell (p:=⟨gs,x,none⟩) (show _ ≤ gs by have:=HGS.out; omega) _
      have i0:(0:Int) ≤ (x:Int):=by omega
      have i1:(x:Int) < (C:Int):=by omega
      clear ho hb hl5 hf6
      go_wp2
      go_roundw
      case rel=>exact ⟨x + 1,by go_num,by omega,HR.out,HBN.out⟩
      case measure=>simp [intOf]; omega
     ·have e4:decide ((x:Int) < (C:Int)) = false:=by simp; omega
      have e4':decide (x < C) = false:=by simpa using hlx
      have HR:Hid (LineO wr gs C C (fun j=>X j 0) (bk (gr k C) C)):=ho.congr (fun j hj=>by rw [if_pos (by omega)]) (Nat.le_refl _)
      have HB6:=Lib.hid (HB5.out.trans (hb.mono HB5.out.size))
      clear ho hb
      go_wp2
      go_ret2
      exact ⟨.inr ⟨gs,X,rfl,HY.out,HR.out⟩,HB6.out⟩
end Go.Proofs.Mt
namespace Go.Proofs.Mt
open Go.RowKit Go.Proofs.Wd Go.Proofs.Fr Go.Proofs.Vt Go.Proofs.Mm
end Go.Proofs.Mt
namespace Go.Proofs.Mt
open Go.RowKit Go.Proofs.Wd Go.Proofs.Fr Go.Proofs.Vt Go.Proofs.Mm
theorem solveSize:∀ d,d < 6 → bk (gr 120 d) d ≤ 30000000000 ∧ 1 + d * (120 + bk (gr 120 d) d + 1) ≤ 30000000000:=by decide
/-- What the inverse is, with how it is told. -/
def InvR (w:World) (iv:Value) (has:Bool) (M:F) (d k:Nat):Prop:=(has = false → iv = .pointer none ∧ ∃ t,t < d ∧ RankIs M d d t) ∧ (has = true → ∃ X,MatR w iv d d X k ∧ ∀ i c,i < d → c < d → mulF M X d i c = oneF i c)
theorem InvR.below {w w':World} {iv:Value} {has:Bool} {M:F} {d k:Nat} (h:InvR w iv has M d k) (hb:Below w.heap.size w w'):InvR w' iv has M d k:=⟨h.1,fun e=>by
 obtain ⟨X,h1,h2⟩:=h.2 e
 exact ⟨X,h1.below hb,h2⟩⟩
theorem InvR.rank {w:World} {iv:Value} {has:Bool} {M:F} {d k t:Nat} (h:InvR w iv has M d k) (ht:RankIs M d d t):((t:Int) == (d:Int)) = has ∧ decide ((t:Int) = (d:Int)) = has ∧ decide (t = d) = has:=by
 cases has
 ·obtain ⟨-,t',h1,h2⟩:=h.1 rfl
  have:=ht.uniq h2
  refine ⟨?_,?_,?_⟩ <;> simp <;> omega
 ·obtain ⟨X,-,h2⟩:=h.2 rfl
  have:=ht.uniq (inv_rank h2).1
  subst this
  simp
theorem InvR.no {w:World} {iv:Value} {M:F} {d k:Nat} {X:F} {fb:Nat → Rat} (h:InvR w iv false M d k) (hy:AnsY (fun i=>catF (M i) (fun _=>fb i) d) X d d 1):False:=by
 obtain ⟨-,t,h1,h2⟩:=h.1 rfl
 have:=h2.uniq (RankIs.congr hy.rank fun i j _ hj=>(cat_left hj).symm)
 omega
theorem InvR.yes {w:World} {iv:Value} {M:F} {d k:Nat} {fb:Nat → Rat} (h:InvR w iv true M d k) (hn:AnsN (fun i=>catF (M i) (fun _=>fb i) d) d d 1):False:=by
 obtain ⟨X,-,h2⟩:=h.2 rfl
 rcases hn with ⟨t,h3,h4⟩ | ⟨h3,-⟩
 ·have:=(inv_rank h2).1.uniq (RankIs.congr h4 fun i j _ hj=>(cat_left hj).symm)
  omega
 ·omega
theorem ansY_dot {M X:F} {fb:Nat → Rat} {d i:Nat} (hy:AnsY (fun i=>catF (M i) (fun _=>fb i) d) X d d 1) (hi:i < d):dotF (M i) (fun x=>X x 0) d = fb i:=by
 have:=hy.sol 0 (by omega) i hi
 have h2:dotF (catF (M i) (fun _=>fb i) d) (fun x=>X x 0) d = catF (M i) (fun _=>fb i) d (d + 0):=this
 rw [dot_cat,cat_right] at h2
 exact h2
theorem text_one:(⟨(textQ 1).toArray⟩:ByteArray) = ⟨#[49]⟩:=by
 have:textQ 1 = [49]:=by simp [textQ,Lib.decDigits]
 rw [this]
theorem matSolveWalk (a:Int) (v1 v2:Value) (s1 s2:List ByteArray) (w:World) (wa:-9223372036854775808 ≤ a ∧ a ≤ 9223372036854775807) (hv1:StrsIn w v1 s1) (hv2:StrsIn w v2 s2) (hT:TabOk w)
 (hB:Calls Tryz.prog 11 #[] w fun e w'=>e = .returned (.bool true) ∧ Below w.heap.size w w') :
 Calls Tryz.prog 5 #[.int .i64 a,v1,v2] w fun e w'=>e = .returned (.bool true) ∧ Below w.heap.size w w':=by
 have heq:∀ (a:Option Addr) (l c:Nat) (w:World),(binOp .eql 62 (.slice a l c) (.slice none 0 0)).run Tryz.prog w = .ok (.bool a.isNone) w:=fun a l c w=>eqNil w _ _ a l c Tryz.underlying62
 have HT:Hid (TabOk w):=hT
 have HV1:=Lib.hid hv1
 have HB:Hid (Below w.heap.size w w):=Below.refl _ _
 obtain ⟨d,hd,d1,d5,ra,rb⟩:=dim5 a
 have HD:=Lib.hid hd
 obtain ⟨wa0,wa1⟩:=wa
 obtain ⟨n,hn0⟩:∃ n,s2.length = n:=⟨_,rfl⟩
 obtain ⟨p2,cap2,rfl,l1,l2⟩:=hv2.slice
 have HV2:=Lib.hid hv2
 have HN0:=Lib.hid hn0
 rw [hn0] at HV2 l1 ⊢
 unfold maxLen at l2
 obtain ⟨hz1,hz2⟩:=solveSize d (by omega)
 obtain ⟨K,hK⟩:∃ K,bk (gr 120 d) d = K:=⟨_,rfl⟩
 have HK:=Lib.hid hK
 have hK1:1 ≤ K:=by rw [← hK]; exact Nat.le_trans (gr_pos (by omega)) (bk_ge _ _)
 have hgK:gr 120 d ≤ K:=by rw [← hK]; exact bk_ge _ _
 rw [hK] at hz1 hz2
 clear hT hv1 hv2 hd hn0 hK
 go_enter Tryz.func5,Tryz.ntmps5
 go_wp2_with fail
 with_reducible refine (hB).mono ?_
 rintro e w1 ⟨rfl,hb⟩
 replace HB:=Lib.hid (HB.out.trans (hb.mono HB.out.size))
 clear hb
 clear hB
 go_wp2_with fail
 rw [HD.out]
 clear HD ra rb wa0 wa1
 with_reducible refine (Tryz.matrix d d v1 s1 _ (HV1.out.below HB.out) (by omega) (by omega) (by omega) (by omega)).mono ?_
 rintro e w2 ⟨⟨lx,rfl,hx⟩,hb⟩
 replace HB:=Lib.hid (HB.out.trans (hb.mono HB.out.size))
 clear hb
 have HX:=Lib.hid hx
 clear hx
 go_wp2_with fail
 with_reducible refine (Tryz.matNew lx d d _ (matQ s1) _ HX.out (fun i j _ _=>matQ_get s1 i j) (by omega) (by omega) (by omega) (by omega)).mono ?_
 rintro e w3 ⟨⟨um,rfl,hu⟩,hb⟩
 replace HB:=Lib.hid (HB.out.trans (hb.mono HB.out.size))
 clear hb HX
 have HU:=Lib.hid hu
 clear hu
 go_upto_region 9 with (fail)
 go_cut [11,12] (fun iv ov wx=>∃ has,ov = .bool has ∧ InvR wx iv has (matQ s1) d K ∧ MatR wx um d d (matQ s1) 120 ∧ Below w.heap.size w wx)
 case first=>
  go_wp2_with fail
  with_reducible refine (Tryz.matInverse um d 120 (matQ s1) _ HU.out (by omega) (by omega) (by omega) (by rw [HK.out]; omega)).mono ?_
  rintro e w10 ⟨⟨rfl,hno⟩ | ⟨rv,X,rfl,hm,hx⟩,hb⟩
  ·have HI:Hid (InvR w10 (.pointer none) false (matQ s1) d K):=⟨fun _=>⟨rfl,hno⟩,fun e=>by simp at e⟩
   have HU2:=Lib.hid (HU.out.below hb)
   have HB2:=Lib.hid (HB.out.trans (hb.mono HB.out.size))
   clear hno hb HU HB
   go_wp2_with fail
   go_meet
   exact ⟨false,rfl,HI.out,HU2.out,HB2.out⟩
  ·have HI:Hid (InvR w10 rv true (matQ s1) d K):=⟨fun e=>by simp at e,fun _=>⟨X,by rw [← HK.out]; exact hm,hx⟩⟩
   have HU2:=Lib.hid (HU.out.below hb)
   have HB2:=Lib.hid (HB.out.trans (hb.mono HB.out.size))
   clear hm hx hb HU HB
   go_wp2_with fail
   go_meet
   exact ⟨true,rfl,HI.out,HU2.out,HB2.out⟩
 case rest=>
  obtain ⟨has,rfl,hin,hu,hb⟩:=hcut
  clear HU HB
  have HI:=Lib.hid hin
  have HU:=Lib.hid hu
  have HB:=Lib.hid hb
  clear hin hu hb
  go_wp2_with fail
  with_reducible refine (Tryz.matRank um d d 120 (matQ s1) _ HU.out (by omega) (by omega) (by omega) (by omega) (by omega) (by omega)).mono ?_
  rintro e w11 ⟨⟨t,rfl,ht⟩,hb⟩
  obtain ⟨e1,e2,e3⟩:=HI.out.rank ht
  have HRK:=Lib.hid ht
  replace HI:=Lib.hid (HI.out.below hb)
  replace HU:=Lib.hid (HU.out.below hb)
  replace HB:=Lib.hid (HB.out.trans (hb.mono HB.out.size))
  clear ht hb
  go_wp2_with fail
  with_reducible refine (Tryz.matTurn um d d 120 (matQ s1) _ HU.out (by omega) (by omega) (by omega) (by omega)).mono ?_
  rintro e w12 ⟨⟨ut,rfl,hut⟩,hb⟩
  have HUT:=Lib.hid hut
  replace HI:=Lib.hid (HI.out.below hb)
  replace HU:=Lib.hid (HU.out.below hb)
  replace HB:=Lib.hid (HB.out.trans (hb.mono HB.out.size))
  clear hut hb
  go_wp2_with fail
  with_reducible refine (Tryz.matRank ut d d 120 _ _ HUT.out (by omega) (by omega) (by omega) (by omega) (by omega) (by omega)).mono ?_
  rintro e w13 ⟨⟨t2,rfl,ht2⟩,hb⟩
  obtain rfl:t2 = t:=RankIs.uniq ht2 HRK.out.turn
  replace HI:=Lib.hid (HI.out.below hb)
  replace HU:=Lib.hid (HU.out.below hb)
  replace HB:=Lib.hid (HB.out.trans (hb.mono HB.out.size))
  clear ht2 hb HUT
  go_wp2_with fail
  with_reducible refine (Tryz.matRank um d d 120 (matQ s1) _ HU.out (by omega) (by omega) (by omega) (by omega) (by omega) (by omega)).mono ?_
  rintro e w14 ⟨⟨t3,rfl,ht3⟩,hb⟩
  obtain rfl:t3 = t2:=RankIs.uniq ht3 HRK.out
  replace HI:=Lib.hid (HI.out.below hb)
  replace HU:=Lib.hid (HU.out.below hb)
  replace HB:=Lib.hid (HB.out.trans (hb.mono HB.out.size))
  clear ht3 hb HRK
  have HBZ:=Lib.hid HB
  skip
  go_wp2_with fail
  clear e1 e2 e3 HBZ
  go_loopw [13,14] (fun xv iv wr=>∃ (i:Nat) (f:Nat → Rat),iv = .int .i64 i ∧ i ≤ d ∧ OwnF w14.heap.size wr xv i f 120 ∧ Below w14.heap.size w14 wr) (fun _ iv _=>d - (intOf iv).toNat)
  case atStart=>exact ⟨0,fun _=>0,rfl,Nat.zero_le _,⟨fun _=>rfl,[],World.ownsRow_nil _ _ _ _,fun j hj=>by omega⟩,Below.refl _ _⟩
  case round=>
   obtain ⟨i,f,rfl,hi,hfr,hbz⟩:=hrel
   obtain ⟨xp,xc,rfl⟩:=hfr.slice
   have HFR:=Lib.hid hfr
   have HBZ:=Lib.hid hbz
   clear hfr
   by_cases hlt:i < d
   ·have i0:(0:Int) ≤ (i:Int):=by omega
    have i1:(i:Int) < (d:Int):=by omega
    have i2:(i:Int) ≤ 5:=by omega
    by_cases hin:i < n
    ·obtain ⟨s,hs⟩:∃ s,s2[i]? = some s:=⟨_,List.getElem?_eq_getElem (by have:=HN0.out; omega)⟩
     obtain ⟨g,o,cap3,he,hg,d0,hsz⟩:=(HV2.out.below (HB.out.trans (hbz.mono HB.out.size))).nth hs
     simp only [Value.slice.injEq] at he
     obtain ⟨rfl,-,rfl⟩:=he
     unfold maxLen at hsz
     have i3:(i:Int) < (n:Int):=by omega
     have i3':decide (i < n) = true:=by simpa using hin
     have HCT:Hid (∀ W,Calls Tryz.prog 15 #[.string s,.int .i64 20] W fun e w'=>(∃ t:ByteArray,e = .returned (.string t) ∧ t.size ≤ 20) ∧ w' = W):=fun W=>Tryz.cutText s 20 W (by omega) (by omega)
     clear hs hg hbz hin
     go_wp2_with fail
     with_reducible refine (HCT.out _).mono ?_
     rintro e w21 ⟨⟨t,rfl,ht⟩,hw⟩
     subst hw
     clear d0 hsz HCT
     go_wp2_with fail
     with_reducible refine (Tryz.lawF t _ (by omega)).mono ?_
     rintro e w22 ⟨⟨fv,q,rfl,hf,-⟩,hb⟩
     obtain ⟨fa,rfl⟩:=frac_pointer hf
     obtain ⟨xp',xc',w23,hrun,hx,-,hg⟩:=Tryz.appendF 62 (HFR.out.below hb) hf (by omega) (HBZ.out.trans (hb.mono HBZ.out.size)).size
     have hal:Below w22.heap.size w22 (w22.alloc (.cells #[.pointer fa] 30)):=(Below.refl _ _).alloc (Nat.le_refl _) _
     have hodd:=((HFR.out.below hb).below hal).odd
     have hbl:=(HBZ.out.trans (hb.mono HBZ.out.size)).trans (hal.mono (HBZ.out.trans (hb.mono HBZ.out.size)).size)
     have HBF:=Lib.hid (hbl.grown hg hbl.size (fun g hx=>(hodd g hx).2.1))
     have HXF:=Lib.hid hx
     clear hf hb hx hg hal hodd hbl HFR HBZ
     go_wp2_with (at_builtin; refine wpList_append rfl (.tmp 77) (.tmp 80) 62 rfl rfl rfl hrun ?_)
     go_roundw
     case rel=>exact ⟨i + 1,_,by go_num,by omega,HXF.out,HBF.out⟩
     case measure=>simp [intOf]; omega
    ·have i3:decide ((i:Int) < (n:Int)) = false:=by simp; omega
     have i3':decide (i < n) = false:=by simpa using hin
     clear hbz hin
     go_wp2_with fail
     with_reducible refine (Tryz.lawF _ _ (by decide)).mono ?_
     rintro e w22 ⟨⟨fv,q,rfl,hf,-⟩,hb⟩
     obtain ⟨fa,rfl⟩:=frac_pointer hf
     obtain ⟨xp',xc',w23,hrun,hx,-,hg⟩:=Tryz.appendF 62 (HFR.out.below hb) hf (by omega) (HBZ.out.trans (hb.mono HBZ.out.size)).size
     have hal:Below w22.heap.size w22 (w22.alloc (.cells #[.pointer fa] 30)):=(Below.refl _ _).alloc (Nat.le_refl _) _
     have hodd:=((HFR.out.below hb).below hal).odd
     have hbl:=(HBZ.out.trans (hb.mono HBZ.out.size)).trans (hal.mono (HBZ.out.trans (hb.mono HBZ.out.size)).size)
     have HBF:=Lib.hid (hbl.grown hg hbl.size (fun g hx=>(hodd g hx).2.1))
     have HXF:=Lib.hid hx
     clear hf hb hx hg hal hodd hbl HFR HBZ
     go_wp2_with (at_builtin; refine wpList_append rfl (.tmp 77) (.tmp 80) 62 rfl rfl rfl hrun ?_)
     go_roundw
     case rel=>exact ⟨i + 1,_,by go_num,by omega,HXF.out,HBF.out⟩
     case measure=>simp [intOf]; omega
   ·have e3:decide ((i:Int) < (d:Int)) = false:=by simp; omega
    have e3':decide (i < d) = false:=by simpa using hlt
    obtain rfl:i = d:=by omega
    have HXR:=Lib.hid HFR.out.read
    have HUr:=Lib.hid (HU.out.below hbz)
    have HIr:=Lib.hid (HI.out.below hbz)
    clear hbz HFR HU HI
    go_wp2_with fail
    with_reducible refine (Tryz.matSolve um _ i i 120 (matQ s1) f _ HUr.out HXR.out (by omega) (by omega) (by omega) (by omega) (by omega) (by rw [HK.out]; omega)).mono ?_
    rintro e w60 ⟨⟨rfl,hno⟩ | ⟨gs,X,rfl,hy,hl⟩,hb⟩
    ·cases has
     ·obtain ⟨rfl,-⟩:=HIr.out.1 rfl
      have HBE:=Lib.hid (HB.out.trans ((HBZ.out.trans (hb.mono HBZ.out.size)).mono HB.out.size))
      clear hno hb HXR HUr HIr HBZ
      go_wp2
      go_ret
      exact ⟨rfl,HBE.out⟩
     ·exact absurd (HIr.out.yes hno) id
    ·cases has
     ·exact absurd (HIr.out.no hy) id
     ·have HYY:Hid (∀ j,j < i → dotF (matQ s1 j) (fun x=>X x 0) i = f j):=fun j hj=>ansY_dot hy hj
      rw [HK.out] at hl
      have HL:=Lib.hid hl.read
      have HU6:=Lib.hid (HUr.out.below hb)
      have HX6:=Lib.hid (HXR.out.below hb)
      obtain ⟨XI,hm,hxi⟩:=(HIr.out.below hb).2 rfl
      have HM6:=Lib.hid hm
      have HXI:=Lib.hid hxi
      have HB6:=Lib.hid (HBZ.out.trans (hb.mono HBZ.out.size))
      clear hy hl hb hm hxi HXR HUr HIr HBZ
      go_wp2_with fail
      with_reducible refine (Tryz.matTimes um _ i i 120 K (matQ s1) (fun x=>X x 0) _ HU6.out HL.out (by omega) (by omega) (by omega) (by omega) hz2).mono ?_
      rintro e w61 ⟨⟨b,rfl,hy,-⟩,hb⟩
      have HY:=Lib.hid hy
      replace HU6:=Lib.hid (HU6.out.below hb)
      replace HX6:=Lib.hid (HX6.out.below hb)
      replace HM6:=Lib.hid (HM6.out.below hb)
      replace HB6:=Lib.hid (HB6.out.trans (hb.mono HB6.out.size))
      clear hy hb HL
      go_wp2_with fail
      with_reducible refine (Tryz.matMul um _ i i i 120 K (matQ s1) XI _ HU6.out HM6.out (by omega) (by omega) (by omega) (by omega) (by omega) (by omega) (by omega) hz2).mono ?_
      rintro e w62 ⟨⟨pm,rfl,hp⟩,hb⟩
      obtain ⟨KP,hKP⟩:∃ KP,1 + i * (120 + K + 1) = KP:=⟨_,rfl⟩
      rw [hKP] at hp HY hz2
      have hKP1:1 ≤ KP:=by omega
      have hpo:MatR w62 pm i i oneF KP:=hp.congr (fun a c ha hc=>(HXI.out a c ha hc).symm) (Nat.le_refl _)
      have HP:=Lib.hid hpo
      replace HY:=Lib.hid (HY.out.below hb)
      replace HX6:=Lib.hid (HX6.out.below hb)
      replace HB6:=Lib.hid (HB6.out.trans (hb.mono HB6.out.size))
      clear hp hpo hb HU6 HM6 hKP HXI
      go_wp2_with fail
      go_loopw [22] (fun iv wr=>∃ y:Nat,iv = .int .i64 y ∧ y ≤ i ∧ Below w62.heap.size w62 wr) (fun iv _=>i - (intOf iv).toNat)
      case atStart=>exact ⟨0,rfl,Nat.zero_le _,Below.refl _ _⟩
      case round=>
       obtain ⟨y,rfl,hy,hb⟩:=hrel
       have HBY:=Lib.hid hb
       by_cases hly:y < i
       ·have y0:(0:Int) ≤ (y:Int):=by omega
        have y1:(y:Int) < (i:Int):=by omega
        have y2:(y:Int) ≤ 5:=by omega
        obtain ⟨a1,d1',-,hf1⟩:=(HY.out.below hb).cell hly
        have c1:=(HY.out.below hb).lt
        obtain ⟨g2,o2,cap3,a2,he,k1,k2,d2,hf2,c2⟩:=(HX6.out.below hb).nth hly
        simp only [Value.slice.injEq,true_and] at he
        obtain ⟨rfl,rfl⟩:=he
        unfold maxLen at k2
        have HF1:=Lib.hid hf1
        have HF2:=Lib.hid hf2
        have HE:Hid (ordQ (dotF (matQ s1 y) (fun x=>X x 0) i) (f y) = 0):=ordQ_zero.2 (HYY.out y hly)
        clear hb hf1 hf2
        go_wp2_with fail
        refine wp_region_held_drew (S:=fun w'=>w'.cell? ⟨b,y,none⟩ = some (.pointer a1) ∧ w'.cell? ⟨g2,o2 + y,none⟩ = some (.pointer a2)) (by kernel_rfl) ⟨d1',d2⟩ (fun hHeld=>?_)
        replace HBY:=Lib.hid (HBY.out.drew)
        replace HF1:=Lib.hid (HF1.out.below (Below.refl _ _).drew)
        replace HF2:=Lib.hid (HF2.out.below (Below.refl _ _).drew)
        clear hHeld
        replace d1':wr.drew.cell? ⟨b,y,none⟩ = some (.pointer a1):=d1'
        replace d2:wr.drew.cell? ⟨g2,o2 + y,none⟩ = some (.pointer a2):=d2
        replace c1:b < wr.drew.heap.size:=c1
        replace c2:g2 < wr.drew.heap.size:=c2
        generalize wr.drew = wd at *
        have hHeld:(fun w':World=>w'.cell? ⟨b,y,none⟩ = some (.pointer a1) ∧ w'.cell? ⟨g2,o2 + y,none⟩ = some (.pointer a2)) wd:=⟨d1',d2⟩
        refine takeY 0 (h:=?_)
        refine takeY 1 (h:=?_)
        refine takeY 2 (h:=?_)
        (try simp only [Act.put,List.setIfInBounds_toArray,List.set_cons_zero,List.set_cons_succ])
        refine takeY 3 (h:=?_)
        refine takeY 4 (h:=?_)
        refine takeY 5 (h:=?_)
        (try simp only [Act.put,List.setIfInBounds_toArray,List.set_cons_zero,List.set_cons_succ])
        refine takeY 6 (h:=?_)
        refine takeY 7 (h:=?_)
        (try simp only [Act.put,List.setIfInBounds_toArray,List.set_cons_zero,List.set_cons_succ])
        refine wpAnyH_ready (rs:=[8]) (by kernel_rfl) (by simp) ?_
        refine AllReadyH.cons (by (simp only [List.getElem?_toArray,List.getElem?_cons_succ,List.getElem?_cons_zero]) <;> rfl) (fun KX hK=>?_) AllReadyH.nil
        go_simp
        with_reducible refine (Tryz.cmpA _ _ _ _ KP 120 _ HF1.out HF2.out hKP1 (by omega) hz2 (by omega)).mono ?_
        rintro e wd21 ⟨rfl,hb⟩
        rw [HE.out]
        clear hHeld
        replace d1':=cellOf hb d1'
        replace d2:=cellOf hb d2
        replace HBY:=Lib.hid (HBY.out.trans (hb.mono HBY.out.size))
        replace HF1:=Lib.hid (HF1.out.below hb)
        replace HF2:=Lib.hid (HF2.out.below hb)
        clear hb
        refine hK.out _ _ ⟨d1',d2⟩ (fun hHeld=>?_)
        clear hK KX
        (try simp only [Act.put,List.setIfInBounds_toArray,List.set_cons_zero,List.set_cons_succ])
        refine takeY 9 (h:=?_)
        (try simp only [Act.put,List.setIfInBounds_toArray,List.set_cons_zero,List.set_cons_succ])
        refine wpAnyH_done (by kernel_rfl) ?_ _
        clear hHeld HF1 HF2 HE d1' d2 c1 c2
        go_wp2_with fail
        go_loopw [23] (fun kv wr=>∃ k:Nat,kv = .int .i64 k ∧ k ≤ i ∧ Below w62.heap.size w62 wr) (fun kv _=>i - (intOf kv).toNat)
        case atStart=>exact ⟨0,rfl,Nat.zero_le _,HBY.out⟩
        case round=>
         obtain ⟨k,rfl,hk,hb⟩:=hrel
         clear HBY
         have HBK:=Lib.hid hb
         have HPk:=Lib.hid (HP.out.below hb)
         have HTk:Hid (TabOk wr):=(HT.out.after HB.out).after (HB6.out.trans (hb.mono HB6.out.size))
         clear hb
         by_cases hlk:k < i
         ·have k0:(0:Int) ≤ (k:Int):=by omega
          have k1:(k:Int) < (i:Int):=by omega
          have k2:(k:Int) ≤ 5:=by omega
          by_cases hyk:y = k
          ·subst hyk
           have HO:Hid (oneF y y = 1):=by show oneF y y = 1; rw [oneF,if_pos rfl]
           have q1:decide ((y:Int) = (y:Int)) = true:=by simp
           go_wp2_with fail
           with_reducible refine (Tryz.matAt pm i i y y KP oneF _ HPk.out hly (by omega) hKP1).mono ?_
           rintro e w70 ⟨⟨x,rfl,hx⟩,hb⟩
           rw [HO.out] at hx
           have HX:=Lib.hid hx
           replace HBK:=Lib.hid (HBK.out.trans (hb.mono HBK.out.size))
           have HT7:=Lib.hid (HTk.out.after hb)
           clear hx hb HPk HTk
           go_wp2_with fail
           with_reducible refine (Tryz.fracText (.pointer x) 1 KP _ HX.out hKP1 (by omega) HT7.out).mono ?_
           rintro e w71 ⟨rfl,hb⟩
           rw [text_one]
           replace HBK:=Lib.hid (HBK.out.trans (hb.mono HBK.out.size))
           clear hb HX HT7
           go_wp2
           go_roundw
           case rel=>exact ⟨y + 1,by go_num,by omega,HBK.out⟩
           case measure=>simp [intOf]; omega
          ·have HO:Hid (oneF y k = 0):=by show oneF y k = 0; rw [oneF,if_neg hyk]
           have q1:decide ((y:Int) = (k:Int)) = false:=by simp; omega
           have q2:decide (y = k) = false:=by simpa using hyk
           have q3:((y:Int) == (k:Int)) = false:=by simp; omega
           go_wp2_with fail
           with_reducible refine (Tryz.matAt pm i i y k KP oneF _ HPk.out hly (by omega) hKP1).mono ?_
           rintro e w70 ⟨⟨x,rfl,hx⟩,hb⟩
           rw [HO.out] at hx
           have HX:=Lib.hid hx
           replace HBK:=Lib.hid (HBK.out.trans (hb.mono HBK.out.size))
           have HT7:=Lib.hid (HTk.out.after hb)
           clear hx hb HPk HTk
           go_wp2_with fail
           with_reducible refine (Tryz.fracText (.pointer x) 0 KP _ HX.out hKP1 (by omega) HT7.out).mono ?_
           rintro e w71 ⟨rfl,hb⟩
           rw [text_nought]
           replace HBK:=Lib.hid (HBK.out.trans (hb.mono HBK.out.size))
           clear hb HX HT7
           go_wp2
           go_roundw
           case rel=>exact ⟨k + 1,by go_num,by omega,HBK.out⟩
           case measure=>simp [intOf]; omega
         ·have e5:decide ((k:Int) < (i:Int)) = false:=by simp; omega
          have e5':decide (k < i) = false:=by simpa using hlk
          obtain rfl:k = i:=by omega
          clear HPk HTk
          go_wp2
          go_roundw
          case rel=>exact ⟨y + 1,by go_num,by omega,HBK.out⟩
          case measure=>simp [intOf]; omega
       ·have e3:decide ((y:Int) < (i:Int)) = false:=by simp; omega
        have e3':decide (y < i) = false:=by simpa using hly
        have HBE:=Lib.hid (HB.out.trans ((HB6.out.trans (hb.mono HB6.out.size)).mono HB.out.size))
        clear hb HBY HB6 HY HX6 HP
        go_wp2
        go_ret
        exact ⟨rfl,HBE.out⟩
end Go.Proofs.Mt
