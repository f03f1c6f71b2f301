/- Matrices: what over and empty of the package mat return. -/
import Derived.Test.YtcnjcfoaoaldeaaGreatDoorMd
import Derived.Test.YtcnjcfoaoaldeaaGreatDoorMg
set_option linter.unusedVariables false
set_option maxHeartbeats 4000000
set_option maxRecDepth 100000
namespace Go.Proofs.Mt
open Go.RowKit Go.Proofs.Wd Go.Proofs.Fr Go.Proofs.Vt Go.Proofs.Mm
theorem calls_of_eq {P:Program} {f:Nat} {a:Array Value} {w:World} {s t:Int} (h:Calls P f a w fun e w'=>e = .returned (.int .i64 s) ∧ Below w.heap.size w w') (e:s = t):Calls P f a w fun e w'=>e = .returned (.int .i64 t) ∧ Below w.heap.size w w':=by rw [← e]; exact h
/-- What over's loop keeps to: the first i are divided. -/
def overF (f:Nat → Rat) (q:Rat) (i:Nat):Nat → Rat:=fun j=>if j < i then f j / q else 0
theorem overF_set {f:Nat → Rat} {q y:Rat} {x:Nat} (h:y = f x / q) (j:Nat):(fun j=>if j < x + 1 then f j / q else 0) j = if j = x then y else overF f q x j:=by
 unfold overF
 by_cases e:j = x
 ·rw [if_pos e,e,h]; simp
 ·rw [if_neg e]
  by_cases e2:j < x
  ·rw [if_pos e2]; simp only []; rw [if_pos (by omega)]
  ·rw [if_neg e2]; simp only []; rw [if_neg (by omega)]
theorem Tryz.matOver (n:Nat) (u v:Value) (f:Nat → Rat) (q:Rat) (k i:Nat) (w:World) (hv:LineR w v n f k) (hu:FracIs w u q i) (hq:q ≠ 0) (hn:n ≤ 1000) (hk:1 ≤ k) (hi:1 ≤ i) (hk9:k ≤ 30000000000) (hi9:i ≤ 30000000000) :
 Calls Tryz.prog 169 #[v,u] w fun e w'=>(∃ g,e = .returned (.slice (some ⟨g,0,none⟩) n n) ∧ LineO w' g n n (fun j=>f j / q) (k + i) ∧ w.heap.size ≤ g) ∧ Below w.heap.size w w':=by
 have HV:=Lib.hid hv
 have HU:=Lib.hid hu
 have HQ:=Lib.hid hq
 obtain ⟨p,cap,rfl,c1,c2⟩:=hv.slice
 obtain ⟨ua,rfl⟩:=frac_pointer hu
 unfold maxLen at c2
 obtain ⟨w1,hmk,ho,hb⟩:=Tryz.makeLine w 113 Tryz.underlying113 n n (k + i) rfl (by omega)
 obtain ⟨g,hg⟩:∃ g,w.heap.size = g:=⟨_,rfl⟩
 have HG:=Lib.hid hg
 have HO:Hid (LineO w1 g n n (overF f q 0) (k + i)):=by
  rw [← hg]; exact ho.congr (fun j _=>by rw [overF,if_neg (by omega)]) (Nat.le_refl _)
 have HB:=Lib.hid hb
 rw [hg] at hmk
 clear hv hu hq ho hb hg
 go_enter Tryz.func169,Tryz.ntmps169
 go_wp2_with fail
 clear hmk
 go_loopw [13] (fun iv wr=>∃ x:Nat,iv = .int .i64 x ∧ x ≤ n ∧ LineO wr g n n (overF f q x) (k + i) ∧ Below w.heap.size w wr) (fun iv _=>n - (intOf iv).toNat)
 case atStart=>exact ⟨0,rfl,Nat.zero_le _,HO.out,HB.out⟩
 case round=>
  obtain ⟨x,rfl,hx,ho,hb⟩:=hrel
  clear HO HB
  by_cases hlt:x < n
  ·obtain ⟨g',o,cap',b,he,-,-,d0,hf,hg'⟩:=(HV.out.below hb).nth hlt
   simp only [Value.slice.injEq,true_and] at he
   obtain ⟨rfl,rfl⟩:=he
   have HF:=Lib.hid hf
   obtain ⟨b0,x0,x1,-⟩:=ho.cell hlt
   have hdb:Below w.heap.size w (wr.setCell ⟨g,x,none⟩ (.pointer b)):=hb.setCell (p:=⟨g,x,none⟩) (show _ ≤ g by have:=HG.out; omega) _
   have HO1:Hid (LineO (wr.setCell ⟨g,x,none⟩ (.pointer b)) g n n (fun y=>if y = x then f x else overF f q x y) (k + i)):=ho.set (hf.more (by omega)) hlt
   have HF1:Hid (FracIs (wr.setCell ⟨g,x,none⟩ (.pointer b)) (.pointer b) (f x) k):=frac_far hf (grown_setCell _ _ _ _) (ho.odd (by omega))
   have HB1:=Lib.hid hdb
   have x2:(0:Int) ≤ (x:Int):=by omega
   have x3:(x:Int) < (n:Int):=by omega
   obtain ⟨z,hz⟩:∃ z,f x = z:=⟨_,rfl⟩
   have HZ:=Lib.hid hz
   rw [hz] at HF1 HO1
   obtain ⟨t,ht⟩:∃ t:Int,z.num.sign = t:=⟨_,rfl⟩
   have e2:(t == 0) = decide (z = 0):=by rw [← ht,Bool.eq_iff_iff]; simp
   have e2':(t != 0) = !decide (z = 0):=by rw [bne,e2]
   have HSG:Hid (∀ W,FracIs W (.pointer b) z k → Calls Tryz.prog 64 #[.pointer b] W fun e w'=>e = .returned (.int .i64 t) ∧ Below W.heap.size W w'):=fun W h=>calls_of_eq (Tryz.Sign (.pointer b) z k W h) ht
   clear ho hb hf hdb hz ht HF
   generalize hW:wr.setCell ⟨g,x,none⟩ (.pointer b) = W at HO1 HF1 HB1
   go_wp2_with fail
   with_reducible refine (HSG.out _ HF1.out).mono ?_
   rintro e w2 ⟨rfl,hb2⟩
   have HO2:=Lib.hid (HO1.out.below hb2)
   have HF2:=Lib.hid (HF1.out.below hb2)
   have HB2:=Lib.hid (HB1.out.trans (hb2.mono HB1.out.size))
   clear hb2 HSG HO1 HF1 HB1
   by_cases hz0:z = 0
   ·have e3:decide (z = 0) = true:=by simpa using hz0
    have HR:Hid (LineO w2 g n n (overF f q (x + 1)) (k + i)):=HO2.out.congr (fun y _=>overF_set (by rw [HZ.out,hz0,Rat.div_def,Rat.zero_mul]) y) (Nat.le_refl _)
    clear hz0 HO2 HZ HF2
    go_wp2
    go_roundw
    case rel=>exact ⟨x + 1,by go_num,by omega,HR.out,HB2.out⟩
    case measure=>simp [intOf]; omega
   ·have e3:decide (z = 0) = false:=by simpa using hz0
    clear hz0
    have HU2:=Lib.hid (HU.out.below HB2.out)
    go_wp2_with fail
    with_reducible refine (Tryz.divA (.pointer b) (.pointer ua) z q k i _ HF2.out HU2.out hk hi hk9 hi9 HQ.out).mono ?_
    rintro e w3 ⟨⟨r,rfl,hr⟩,hb3⟩
    obtain ⟨a,rfl⟩:=frac_pointer hr
    have HO3:=Lib.hid (HO2.out.below hb3)
    obtain ⟨b1,y0,y1,-⟩:=HO3.out.cell hlt
    have HR:Hid (LineO (w3.setCell ⟨g,x,none⟩ (.pointer a)) g n n (overF f q (x + 1)) (k + i)):=(HO3.out.set hr hlt).congr (fun y _=>by
     show overF f q (x + 1) y = if y = x then z / q else if y = x then z else overF f q x y
     rw [overF_set (y:=z / q) (x:=x) (f:=f) (q:=q) (by rw [HZ.out]) y |> (fun h=>(show overF f q (x + 1) y = _ from h))]
     by_cases e:y = x
     ·rw [if_pos e,if_pos e]
     ·rw [if_neg e,if_neg e,if_neg e]) (Nat.le_refl _)
    have HB3:Hid (Below w.heap.size w (w3.setCell ⟨g,x,none⟩ (.pointer a))):=(HB2.out.trans (hb3.mono HB2.out.size)).setCell (p:=⟨g,x,none⟩) (show _ ≤ g by have:=HG.out; omega) _
    clear hr hb3 HO2 HO3 HF2 HU2 HB2 HZ
    go_wp2
    go_roundw
    case rel=>exact ⟨x + 1,by go_num,by omega,HR.out,HB3.out⟩
    case measure=>simp [intOf]; omega
  ·have e3:decide ((x:Int) < (n:Int)) = false:=by simp; omega
   have e3':decide (x < n) = false:=by simpa using hlt
   have HR:Hid (LineO wr g n n (fun j=>f j / q) (k + i)):=ho.congr (fun j hj=>by rw [overF,if_pos (by omega)]) (Nat.le_refl _)
   have HB4:=Lib.hid hb
   clear ho hb
   go_wp2
   go_ret
   exact ⟨⟨g,rfl,HR.out,Nat.le_of_eq HG.out⟩,HB4.out⟩
theorem Tryz.matEmpty (n:Nat) (v:Value) (f:Nat → Rat) (k:Nat) (w:World) (hv:LineR w v n f k) (hn:n ≤ 1000) :
 Calls Tryz.prog 125 #[v] w fun e w'=>(∃ b,e = .returned (.bool b) ∧ (b = true → ∀ j,j < n → f j = 0) ∧ (b = false → ∃ j,j < n ∧ f j ≠ 0)) ∧ Below w.heap.size w w':=by
 have HV:=Lib.hid hv
 obtain ⟨p,cap,rfl,c1,c2⟩:=hv.slice
 unfold maxLen at c2
 have HB0:Hid (Below w.heap.size w w):=Below.refl _ _
 clear hv
 go_enter Tryz.func125,Tryz.ntmps125
 go_wp2_with fail
 go_loopw [7] (fun iv wr=>∃ x:Nat,iv = .int .i64 x ∧ x ≤ n ∧ (∀ j,j < x → f j = 0) ∧ Below w.heap.size w wr) (fun iv _=>n - (intOf iv).toNat)
 case atStart=>exact ⟨0,rfl,Nat.zero_le _,fun j hj=>by omega,HB0.out⟩
 case round=>
  obtain ⟨x,rfl,hx,ho,hb⟩:=hrel
  clear HB0
  have HO:=Lib.hid ho
  by_cases hlt:x < n
  ·obtain ⟨g',o,cap',b,he,-,-,d0,hf,hg'⟩:=(HV.out.below hb).nth hlt
   simp only [Value.slice.injEq,true_and] at he
   obtain ⟨rfl,rfl⟩:=he
   have HF:=Lib.hid hf
   have HB:=Lib.hid hb
   have x2:(0:Int) ≤ (x:Int):=by omega
   have x3:(x:Int) < (n:Int):=by omega
   obtain ⟨t,ht⟩:∃ t:Int,(f x).num.sign = t:=⟨_,rfl⟩
   have e2:(t == 0) = decide (f x = 0):=by rw [← ht,Bool.eq_iff_iff]; simp
   have e2':(t != 0) = !decide (f x = 0):=by rw [bne,e2]
   have HSG:Hid (∀ W,FracIs W (.pointer b) (f x) k → Calls Tryz.prog 64 #[.pointer b] W fun e w'=>e = .returned (.int .i64 t) ∧ Below W.heap.size W w'):=fun W h=>calls_of_eq (Tryz.Sign (.pointer b) (f x) k W h) ht
   clear hb hf ht ho
   go_wp2_with fail
   with_reducible refine (HSG.out _ HF.out).mono ?_
   rintro e w2 ⟨rfl,hb2⟩
   have HB2:=Lib.hid (HB.out.trans (hb2.mono HB.out.size))
   clear hb2 HSG HB HF
   by_cases hz0:f x = 0
   ·have e3:decide (f x = 0) = true:=by simpa using hz0
    have HZ:Hid (∀ j,j < x + 1 → f j = 0):=fun j hj=>by
     by_cases e:j = x
     ·rw [e]; exact hz0
     ·exact HO.out j (by omega)
    clear hz0
    go_wp2
    go_roundw
    case rel=>exact ⟨x + 1,by go_num,by omega,HZ.out,HB2.out⟩
    case measure=>simp [intOf]; omega
   ·have e3:decide (f x = 0) = false:=by simpa using hz0
    have HZ:=Lib.hid hz0
    clear hz0
    go_wp2
    go_ret
    exact ⟨⟨_,rfl,by simp,fun _=>⟨x,hlt,HZ.out⟩⟩,HB2.out⟩
  ·have e3:decide ((x:Int) < (n:Int)) = false:=by simp; omega
   have e3':decide (x < n) = false:=by simpa using hlt
   have HB4:=Lib.hid hb
   clear ho hb
   go_wp2
   go_ret
   exact ⟨⟨_,rfl,fun _ j hj=>HO.out j (by omega),by simp⟩,HB4.out⟩
end Go.Proofs.Mt
