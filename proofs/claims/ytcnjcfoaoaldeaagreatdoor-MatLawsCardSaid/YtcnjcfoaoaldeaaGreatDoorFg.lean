/- What lowest, Get, New, Parts, Neg and Floor of the package frac return. -/
import Derived.Test.YtcnjcfoaoaldeaaGreatDoorFt
import Derived.Test.YtcnjcfoaoaldeaaGreatDoorGc
import Derived.Test.YtcnjcfoaoaldeaaGreatDoorWe
set_option linter.unusedVariables false
set_option maxHeartbeats 8000000
set_option maxRecDepth 100000
namespace Go.Proofs.Fr
open Go.RowKit Go.Proofs.Wd
/-- What lowest tells. -/
def LowIs (n d:Nat) (b:Bool):Prop:=b = true ↔ Nat.gcd n d = 1 ∧ 1 < d
theorem Tryz.lowest (p r:Value) (n d:Nat) (k:Nat) (w:World) (hp:Num w p n k) (hr:Num w r d k) (hk:k ≤ 80000000000) :
 Calls Tryz.prog 102 #[p,r] w fun e w'=>(∃ b,e = .returned (.bool b) ∧ LowIs n d b) ∧ Below w.heap.size w w':=by
 have HP:Hid (Num w p n k):=hp
 have HR:Hid (Num w r d k):=hr
 have HG:Hid (Calls Tryz.prog 138 #[p,r] w fun e w'=>(∃ g,e = .returned g ∧ Num w' g (Nat.gcd n d:Nat) k) ∧ Below w.heap.size w w'):=by
  have h:=Tryz.natGcd p r n d k k w hp hr hk hk
  rw [Int.gcd_natCast_natCast,Nat.max_self] at h
  exact h
 clear hp hr
 obtain ⟨g,hg⟩:∃ g,Nat.gcd n d = g:=⟨_,rfl⟩
 have HGG:Hid (∀ b:Bool,(b = true ↔ g = 1 ∧ 1 < d) → LowIs n d b):=fun b hb=>by unfold LowIs; rw [hg]; exact hb
 rw [hg] at HG
 clear hg
 go_enter Tryz.func102,Tryz.ntmps102
 go_wp2_with fail
 with_reducible refine HG.out.mono ?_
 rintro e w1 ⟨⟨v,rfl,hv⟩,hb1⟩
 have HV1:Hid (Num w1 v g k):=hv
 have HR1:Hid (Num w1 r d k):=HR.out.below hb1 (Nat.le_refl _)
 have HB1:Hid (Below w.heap.size w w1):=hb1
 clear hv hb1 HG HP HR
 go_wp2_with fail
 with_reducible refine (Tryz.natWord v _ k _ HV1.out).mono ?_
 rintro e w2 ⟨hw,rfl⟩
 clear HV1
 rcases hw with ⟨h9,rfl⟩ | ⟨h9,rfl⟩
 ·by_cases h1:g = 1
  ·subst h1
   go_wp2_with fail
   with_reducible refine (Tryz.natBits r _ k _ HR1.out (by omega)).mono ?_
   rintro e w3 ⟨⟨L,hL,rfl⟩,rfl⟩
   have HE:Hid (LowIs n d (decide (1 < L))):=by
    refine HGG.out _ ?_
    have h2:=hL.lo
    have h3:=hL.zero
    have h4:=hL.one
    simp; omega
   clear hL
   go_wp2
   go_ret
   exact ⟨⟨_,rfl,HE.out⟩,HB1.out⟩
  ·have hb:((g:Int) == 1) = false:=by simp; omega
   have HE:Hid (LowIs n d false):=HGG.out _ (by simp [h1])
   go_wp2
   go_ret
   exact ⟨⟨_,rfl,HE.out⟩,HB1.out⟩
 ·have HE : Hid (LowIs n d false) := by
   refine HGG.out _ ?_
   have h1:¬g = 1:=by omega
   simp [h1]
  go_wp2
  go_ret
  exact ⟨⟨_,rfl,HE.out⟩,HB1.out⟩
/-- What Get tells of a text. -/
def FracGet (s:ByteArray) (w:World) (e:Ending):Prop:=
 (∃ q v,getQ s = some q ∧ e = .returned (.tuple #[v,.bool true]) ∧ FracIs w v q 120) ∨ (getQ s = none ∧ e = .returned (.tuple #[.pointer none,.bool false]))
theorem Tryz.fracGet (s:ByteArray) (w:World) (hs:s.size ≤ 4294967280) :
 Calls Tryz.prog 46 #[.string s] w fun e w'=>FracGet s w' e ∧ Below w.heap.size w w':=by
 have hsz:=size_le s
 have HU:Hid ((upper s).size ≤ 9223372036854775807):=by
  show _ ≤ _
  unfold upper
  rw [ByteArray.size_extract]; omega
 have HL:Hid ((lower s).size ≤ 9223372036854775807):=by
  show _ ≤ _
  unfold lower
  rw [ByteArray.size_extract]; omega
 have HN1:=Lib.hid (@getQ_no s)
 have HN2:=Lib.hid (@getQ_no2 s)
 have HY1:=Lib.hid (@getQ_whole s)
 have HY2:=Lib.hid (@getQ_two s)
 have HCUT:Hid (∀ W,Calls Tryz.prog 99 #[.string (size s),.string ⟨#[47]⟩] W fun e w'=>((stroke (size s) < (size s).size ∧ e = .returned (.tuple #[.string (upper s),.string (lower s),.bool true])) ∨ (¬stroke (size s) < (size s).size ∧ e = .returned (.tuple #[.string (upper s),.string ⟨#[]⟩,.bool false]))) ∧ Below W.heap.size W w'):=fun W=>
  (Tryz.cut (size s) W (by omega)).mono fun e w' h=>⟨by
   rcases h.1 with ⟨g1,g2⟩ | ⟨g1,g2⟩
   ·exact .inl ⟨g1,g2⟩
   ·exact .inr ⟨g1,by rw [← upper_all g1]; exact g2⟩,h.2⟩
 have HSIGN:Hid (∀ W,Calls Tryz.prog 98 #[.string s,.string ⟨#[45]⟩] W fun e w'=>e = .returned (.tuple #[.string (size s),.bool (minus s)]) ∧ w' = W):=fun W=>Tryz.cutSign s W
 clear hsz hs
 obtain ⟨m,hm⟩:∃ m,minus s = m:=⟨_,rfl⟩
 rw [hm] at HN1 HY1 HY2 HSIGN
 clear hm
 go_enter Tryz.func46,Tryz.ntmps46
 go_wp2_with fail
 with_reducible refine (HSIGN.out _).mono ?_
 rintro e w1 ⟨rfl,rfl⟩
 clear HSIGN
 go_wp2_with fail
 with_reducible refine (HCUT.out _).mono ?_
 rintro e w2 ⟨hcut,hb2⟩
 have HB2:Hid (Below w1.heap.size w1 w2):=hb2
 clear hb2 HCUT
 rcases hcut with ⟨hk,rfl⟩ | ⟨hk,rfl⟩
 ·have HK:Hid (stroke (size s) < (size s).size):=hk
  clear hk HY1
  go_wp2_with fail
  with_reducible refine (Tryz.GetX (upper s) _ HU.out).mono ?_
  rintro e w3 ⟨hg,hb3⟩
  have HB3:Hid (Below w1.heap.size w1 w3):=Below.after HB2.out hb3
  clear hb3 HB2
  rcases hg with ⟨hp,v,rfl,hv⟩ | ⟨hp,rfl⟩
  ·have HP:Hid (Tx.plainB (upper s) = true):=hp
   have HV:Hid (Num w3 v (Tx.num (upper s):Int) 120):=hv
   clear hp hv
   by_cases hz:m = true ∧ Tx.num (upper s) = 0
   ·have HZ:Hid (getQ s = none):=HN1.out (.inr hz)
    obtain ⟨rfl,hz0⟩:=hz
    go_wp2_with fail
    with_reducible refine (Tryz.natBits v _ 120 _ HV.out (by omega)).mono ?_
    rintro e w4 ⟨⟨L,hL,rfl⟩,rfl⟩
    obtain rfl:L = 0:=hL.zero.2 (by omega)
    clear hL
    go_wp2
    go_ret2
    exact ⟨.inr ⟨HZ.out,rfl⟩,HB3.out⟩
   ·skip
    cases m
    ·skip
     go_wp2_with fail
     with_reducible refine (Tryz.GetX (lower s) _ HL.out).mono ?_
     rintro e w5 ⟨hg,hb5⟩
     have HB5:Hid (Below w1.heap.size w1 w5):=Below.after HB3.out hb5
     have HV5:Hid (Num w5 v (Tx.num (upper s):Int) 120):=HV.out.below hb5 (Nat.le_refl _)
     clear hb5 HB3 HV
     rcases hg with ⟨hp,v2,rfl,hv2⟩ | ⟨hp,rfl⟩
     ·have HP2:Hid (Tx.plainB (lower s) = true):=hp
      have HW5:Hid (Num w5 v2 (Tx.num (lower s):Int) 120):=hv2
      clear hp hv2
      go_wp2_with fail
      with_reducible refine (Tryz.lowest v v2 _ _ 120 _ HV5.out HW5.out (by omega)).mono ?_
      rintro e w6 ⟨⟨b,rfl,hb⟩,hb6⟩
      have HB6:Hid (Below w1.heap.size w1 w6):=Below.after HB5.out hb6
      have HV6:Hid (Num w6 v (Tx.num (upper s):Int) 120):=HV5.out.below hb6 (Nat.le_refl _)
      have HW6:Hid (Num w6 v2 (Tx.num (lower s):Int) 120):=HW5.out.below hb6 (Nat.le_refl _)
      clear hb6 HB5 HV5 HW5
      cases b
      ·have HZ:Hid (getQ s = none):=HN2.out HK.out (.inr (fun g=>by have:=hb.2 g; simp at this))
       clear hb HN1 HN2 HY2
       go_wp2
       go_ret2
       exact ⟨.inr ⟨HZ.out,rfl⟩,HB6.out⟩
      ·have hlow:=hb.1 rfl
       have HZ:=Lib.hid (HY2.out HK.out HP.out hz HP2.out hlow)
       have hpt:=mk_parts (z:=sgn false (Tx.num (upper s))) (d:=Tx.num (lower s)) (by omega) (by rw [sgn_abs]; exact hlow.1)
       have HOF:Hid (∀ W,Num W v (Tx.num (upper s):Int) 120 → Num W v2 (Tx.num (lower s):Int) 120 → Calls Tryz.prog 100 #[.bool false,v,v2] W fun e w'=>(∃ x,e = .returned x ∧ FracIs w' x (mkRat (sgn false (Tx.num (upper s))) (Tx.num (lower s))) 120) ∧ Below W.heap.size W w'):=fun W h1 h2=>Tryz.ofNats false v v2 _ _ _ 120 W h1 h2 hpt.1 hpt.2 (by omega)
       clear hb hlow hpt HN1 HN2 HY2 hz
       go_wp2_with fail
       with_reducible refine (HOF.out _ HV6.out HW6.out).mono ?_
       rintro e w7 ⟨⟨x,rfl,hx⟩,hb7⟩
       have HX7:Hid (FracIs w7 x (mkRat (sgn false (Tx.num (upper s))) (Tx.num (lower s))) 120):=hx
       have HB7:Hid (Below w1.heap.size w1 w7):=Below.after HB6.out hb7
       clear hx hb7 HOF
       go_wp2
       go_ret2
       exact ⟨.inl ⟨_,_,HZ.out,rfl,HX7.out⟩,HB7.out⟩
     ·have HZ:Hid (getQ s = none):=HN2.out HK.out (.inl hp)
      clear hp hz HN1 HN2 HY2
      go_wp2
      go_ret2
      exact ⟨.inr ⟨HZ.out,rfl⟩,HB5.out⟩
    ·skip
     go_wp2_with fail
     with_reducible refine (Tryz.natBits v _ 120 _ HV.out (by omega)).mono ?_
     rintro e w4 ⟨⟨L,hL,rfl⟩,rfl⟩
     have hLb:(L == 0) = false:=by
      have h2:=hL.zero
      have h3:¬Tx.num (upper s) = 0:=fun g=>hz ⟨by simp,g⟩
      simp; omega
     clear hL
     go_wp2_with fail
     with_reducible refine (Tryz.GetX (lower s) _ HL.out).mono ?_
     rintro e w5 ⟨hg,hb5⟩
     have HB5:Hid (Below w1.heap.size w1 w5):=Below.after HB3.out hb5
     have HV5:Hid (Num w5 v (Tx.num (upper s):Int) 120):=HV.out.below hb5 (Nat.le_refl _)
     clear hb5 HB3 HV
     rcases hg with ⟨hp,v2,rfl,hv2⟩ | ⟨hp,rfl⟩
     ·have HP2:Hid (Tx.plainB (lower s) = true):=hp
      have HW5:Hid (Num w5 v2 (Tx.num (lower s):Int) 120):=hv2
      clear hp hv2
      go_wp2_with fail
      with_reducible refine (Tryz.lowest v v2 _ _ 120 _ HV5.out HW5.out (by omega)).mono ?_
      rintro e w6 ⟨⟨b,rfl,hb⟩,hb6⟩
      have HB6:Hid (Below w1.heap.size w1 w6):=Below.after HB5.out hb6
      have HV6:Hid (Num w6 v (Tx.num (upper s):Int) 120):=HV5.out.below hb6 (Nat.le_refl _)
      have HW6:Hid (Num w6 v2 (Tx.num (lower s):Int) 120):=HW5.out.below hb6 (Nat.le_refl _)
      clear hb6 HB5 HV5 HW5
      cases b
      ·have HZ:Hid (getQ s = none):=HN2.out HK.out (.inr (fun g=>by have:=hb.2 g; simp at this))
       clear hb HN1 HN2 HY2
       go_wp2
       go_ret2
       exact ⟨.inr ⟨HZ.out,rfl⟩,HB6.out⟩
      ·have hlow:=hb.1 rfl
       have HZ:=Lib.hid (HY2.out HK.out HP.out hz HP2.out hlow)
       have hpt:=mk_parts (z:=sgn true (Tx.num (upper s))) (d:=Tx.num (lower s)) (by omega) (by rw [sgn_abs]; exact hlow.1)
       have HOF:Hid (∀ W,Num W v (Tx.num (upper s):Int) 120 → Num W v2 (Tx.num (lower s):Int) 120 → Calls Tryz.prog 100 #[.bool true,v,v2] W fun e w'=>(∃ x,e = .returned x ∧ FracIs w' x (mkRat (sgn true (Tx.num (upper s))) (Tx.num (lower s))) 120) ∧ Below W.heap.size W w'):=fun W h1 h2=>Tryz.ofNats true v v2 _ _ _ 120 W h1 h2 hpt.1 hpt.2 (by omega)
       clear hb hlow hpt HN1 HN2 HY2 hz
       go_wp2_with fail
       with_reducible refine (HOF.out _ HV6.out HW6.out).mono ?_
       rintro e w7 ⟨⟨x,rfl,hx⟩,hb7⟩
       have HX7:Hid (FracIs w7 x (mkRat (sgn true (Tx.num (upper s))) (Tx.num (lower s))) 120):=hx
       have HB7:Hid (Below w1.heap.size w1 w7):=Below.after HB6.out hb7
       clear hx hb7 HOF
       go_wp2
       go_ret2
       exact ⟨.inl ⟨_,_,HZ.out,rfl,HX7.out⟩,HB7.out⟩
     ·have HZ:Hid (getQ s = none):=HN2.out HK.out (.inl hp)
      clear hp hz HN1 HN2 HY2
      go_wp2
      go_ret2
      exact ⟨.inr ⟨HZ.out,rfl⟩,HB5.out⟩
  ·have HZ:Hid (getQ s = none):=HN1.out (.inl hp)
   clear hp
   cases m
   all_goals
    go_wp2
    go_ret2
    exact ⟨.inr ⟨HZ.out,rfl⟩,HB3.out⟩
 ·have HK:Hid (¬stroke (size s) < (size s).size):=hk
  clear hk HY2 HN2 HL
  go_wp2_with fail
  with_reducible refine (Tryz.GetX (upper s) _ HU.out).mono ?_
  rintro e w3 ⟨hg,hb3⟩
  have HB3:Hid (Below w1.heap.size w1 w3):=Below.after HB2.out hb3
  clear hb3 HB2
  rcases hg with ⟨hp,v,rfl,hv⟩ | ⟨hp,rfl⟩
  ·have HP:Hid (Tx.plainB (upper s) = true):=hp
   have HV:Hid (Num w3 v (Tx.num (upper s):Int) 120):=hv
   clear hp hv
   by_cases hz:m = true ∧ Tx.num (upper s) = 0
   ·have HZ:Hid (getQ s = none):=HN1.out (.inr hz)
    obtain ⟨rfl,hz0⟩:=hz
    go_wp2_with fail
    with_reducible refine (Tryz.natBits v _ 120 _ HV.out (by omega)).mono ?_
    rintro e w4 ⟨⟨L,hL,rfl⟩,rfl⟩
    obtain rfl:L = 0:=hL.zero.2 (by omega)
    clear hL
    go_wp2
    go_ret2
    exact ⟨.inr ⟨HZ.out,rfl⟩,HB3.out⟩
   ·skip
    cases m
    ·skip
     go_wp2_with fail
     with_reducible refine (Tryz.natOf 1 _ (by omega) (by omega)).mono ?_
     rintro e w5 ⟨⟨v2,rfl,hv2⟩,hb5⟩
     have HB5:Hid (Below w1.heap.size w1 w5):=Below.after HB3.out hb5
     have HV5:Hid (Num w5 v (Tx.num (upper s):Int) 120):=HV.out.below hb5 (Nat.le_refl _)
     have HW5:Hid (Num w5 v2 ((1:Nat):Int) 120):=hv2.fewer (by omega)
     clear hb5 hv2 HB3 HV
     have HZ:=Lib.hid (HY1.out HK.out HP.out hz)
     have HOF:Hid (∀ W,Num W v (Tx.num (upper s):Int) 120 → Num W v2 ((1:Nat):Int) 120 → Calls Tryz.prog 100 #[.bool false,v,v2] W fun e w'=>(∃ x,e = .returned x ∧ FracIs w' x ((sgn false (Tx.num (upper s)):Int):Rat) 120) ∧ Below W.heap.size W w'):=fun W h1 h2=>Tryz.ofNats false v v2 _ 1 _ 120 W h1 h2 (by simp) (by simp) (by omega)
     clear HN1 HY1 hz
     go_wp2_with fail
     with_reducible refine (HOF.out _ HV5.out HW5.out).mono ?_
     rintro e w7 ⟨⟨x,rfl,hx⟩,hb7⟩
     have HX7:Hid (FracIs w7 x ((sgn false (Tx.num (upper s)):Int):Rat) 120):=hx
     have HB7:Hid (Below w1.heap.size w1 w7):=Below.after HB5.out hb7
     clear hx hb7 HOF
     go_wp2
     go_ret2
     exact ⟨.inl ⟨_,_,HZ.out,rfl,HX7.out⟩,HB7.out⟩
    ·skip
     go_wp2_with fail
     with_reducible refine (Tryz.natBits v _ 120 _ HV.out (by omega)).mono ?_
     rintro e w4 ⟨⟨L,hL,rfl⟩,rfl⟩
     have hLb:(L == 0) = false:=by
      have h2:=hL.zero
      have h3:¬Tx.num (upper s) = 0:=fun g=>hz ⟨by simp,g⟩
      simp; omega
     clear hL
     go_wp2_with fail
     with_reducible refine (Tryz.natOf 1 _ (by omega) (by omega)).mono ?_
     rintro e w5 ⟨⟨v2,rfl,hv2⟩,hb5⟩
     have HB5:Hid (Below w1.heap.size w1 w5):=Below.after HB3.out hb5
     have HV5:Hid (Num w5 v (Tx.num (upper s):Int) 120):=HV.out.below hb5 (Nat.le_refl _)
     have HW5:Hid (Num w5 v2 ((1:Nat):Int) 120):=hv2.fewer (by omega)
     clear hb5 hv2 HB3 HV
     have HZ:=Lib.hid (HY1.out HK.out HP.out hz)
     have HOF:Hid (∀ W,Num W v (Tx.num (upper s):Int) 120 → Num W v2 ((1:Nat):Int) 120 → Calls Tryz.prog 100 #[.bool true,v,v2] W fun e w'=>(∃ x,e = .returned x ∧ FracIs w' x ((sgn true (Tx.num (upper s)):Int):Rat) 120) ∧ Below W.heap.size W w'):=fun W h1 h2=>Tryz.ofNats true v v2 _ 1 _ 120 W h1 h2 (by simp) (by simp) (by omega)
     clear HN1 HY1 hz
     go_wp2_with fail
     with_reducible refine (HOF.out _ HV5.out HW5.out).mono ?_
     rintro e w7 ⟨⟨x,rfl,hx⟩,hb7⟩
     have HX7:Hid (FracIs w7 x ((sgn true (Tx.num (upper s)):Int):Rat) 120):=hx
     have HB7:Hid (Below w1.heap.size w1 w7):=Below.after HB5.out hb7
     clear hx hb7 HOF
     go_wp2
     go_ret2
     exact ⟨.inl ⟨_,_,HZ.out,rfl,HX7.out⟩,HB7.out⟩
  ·have HZ:Hid (getQ s = none):=HN1.out (.inl hp)
   clear hp
   cases m
   all_goals
    go_wp2
    go_ret2
    exact ⟨.inr ⟨HZ.out,rfl⟩,HB3.out⟩
end Go.Proofs.Fr
