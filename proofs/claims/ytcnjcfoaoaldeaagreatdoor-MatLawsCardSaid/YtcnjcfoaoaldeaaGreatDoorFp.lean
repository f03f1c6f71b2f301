/- What over, New, Parts, Neg and Floor of the package frac return. What Add and Sub of the package frac return: sums of words, else of naturals. What Mul, Div and Cmp of the package frac return. What turned, Div and Cmp of the package frac return. -/
import Derived.Test.YtcnjcfoaoaldeaaGreatDoorFl
import Derived.Test.YtcnjcfoaoaldeaaGreatDoorFw
import Derived.Test.YtcnjcfoaoaldeaaGreatDoorGc
import Derived.Test.YtcnjcfoaoaldeaaGreatDoorLs
import Derived.StillTailTactics
import Derived.Lib.Hide
import Derived.Test.YtcnjcfoaoaldeaaGreatDoorRn
set_option linter.unusedVariables false
set_option maxHeartbeats 4000000
set_option maxRecDepth 100000
namespace Go.Proofs.Fr
open Go.RowKit Go.Proofs.Wd
theorem Tryz.frOver (v u:Value) (z y:Nat) (n m:Nat) (w:World) (hv:Num w v z n) (hu:Num w u y m) (hn:n ≤ 90000000000) (hy:1 ≤ y) :
 Calls Tryz.prog 139 #[v,u] w fun e w'=>(∃ r,e = .returned r ∧ Num w' r ((z / y:Nat):Int) (n + 1)) ∧ Below w.heap.size w w':=by
 have HC:Hid (Calls Tryz.prog 113 #[v,u] w fun e w'=>(∃ q r,e = .returned (.tuple #[q,r,.bool true]) ∧ Num w' q ((z / y:Nat):Int) (n + 1)) ∧ Below w.heap.size w w'):=
  (Tryz.natDiv v u z y n m w hv hu hn (by omega)).mono fun e w' ⟨⟨q,r,h1,h2,_⟩,hb⟩=>⟨⟨q,r,h1,by rw [Int.natCast_ediv]; exact h2⟩,hb⟩
 clear hv hu
 go_enter Tryz.func139,Tryz.ntmps139
 go_wp2_with fail
 with_reducible refine HC.out.mono ?_
 rintro e w1 ⟨⟨q,r,rfl,hq⟩,hb1⟩
 have HQ:Hid (Num w1 q ((z / y:Nat):Int) (n + 1)):=hq
 have HB:Hid (Below w.heap.size w w1):=hb1
 clear hq hb1 HC
 go_wp2
 go_ret
 exact ⟨⟨q,rfl,HQ.out⟩,HB.out⟩
theorem Tryz.frGcd (v u:Value) (z y:Nat) (n m:Nat) (w:World) (hv:Num w v z n) (hu:Num w u y m) (hn:n ≤ 80000000000) (hm:m ≤ 80000000000) :
 Calls Tryz.prog 138 #[v,u] w fun e w'=>(∃ r,e = .returned r ∧ Num w' r ((Nat.gcd z y:Nat):Int) (max n m)) ∧ Below w.heap.size w w':=by
 have h:=Tryz.natGcd v u z y n m w hv hu hn hm
 rw [Int.gcd_natCast_natCast] at h
 exact h
theorem Tryz.frMul (v u:Value) (z y:Nat) (n m:Nat) (w:World) (hv:Num w v z n) (hu:Num w u y m) (hn:n ≤ 100000000000) (hm:m ≤ 100000000000) :
 Calls Tryz.prog 132 #[v,u] w fun e w'=>(∃ r,e = .returned r ∧ Num w' r ((z * y:Nat):Int) (n + m)) ∧ Below w.heap.size w w':=by
 have h:=Tryz.natMul v u z y n m w hv hu hn hm
 rw [← Int.natCast_mul] at h
 exact h
theorem Tryz.frNeg (v:Value) (q:Rat) (k:Nat) (w:World) (h:FracIs w v q k) (hk:1 ≤ k) :
 Calls Tryz.prog 148 #[v] w fun e w'=>(∃ u,e = .returned u ∧ FracIs w' u (-q) k) ∧ Below w.heap.size w w':=by
 by_cases hz:q.num = 0
 ·have HS : Hid (Calls Tryz.prog 64 #[v] w fun e w' => e = .returned (.int .i64 0) ∧ Below w.heap.size w w') := by
   have:=Tryz.Sign v q k w h
   rw [hz] at this
   exact this
  have HO:Hid (∀ W,Calls Tryz.prog 42 #[.int .i64 0] W fun e w'=>(∃ v,e = .returned v ∧ FracIs w' v (-q) k) ∧ Below W.heap.size W w'):=fun W=>by
   refine (Tryz.Of 0 W (by omega) (by omega)).mono ?_
   rintro e w' ⟨⟨u,rfl,hu⟩,hb⟩
   refine ⟨⟨u,rfl,frac_at hu ?_ hk⟩,hb⟩
   rw [Rat.num_eq_zero.1 hz]; rfl
  clear h hz
  go_enter Tryz.func148,Tryz.ntmps148
  go_wp2_with fail
  with_reducible refine HS.out.mono ?_
  rintro e w1 ⟨rfl,hb1⟩
  have HB1:Hid (Below w.heap.size w w1):=hb1
  clear hb1 HS
  go_wp2_with fail
  with_reducible refine (HO.out _).mono ?_
  rintro e w2 ⟨⟨u,rfl,hu⟩,hb2⟩
  have HU:Hid (FracIs w2 u (-q) k):=hu
  have HB2:Hid (Below w.heap.size w w2):=Below.after HB1.out hb2
  clear hu hb2 HB1 HO
  go_wp2
  go_ret
  exact ⟨⟨u,rfl,HU.out⟩,HB2.out⟩
 ·obtain ⟨a,rfl,ha⟩:=h.resolve_left (fun g=>hz (by rw [g.2]; rfl))
  obtain ⟨s,hs⟩:∃ s:Int,q.num.sign = s:=⟨_,rfl⟩
  have hs0:(s == 0) = false:=by
   rw [← hs]; simpa using hz
  have HS:Hid (Calls Tryz.prog 64 #[.pointer (some ⟨a,0,none⟩)] w fun e w'=>e = .returned (.int .i64 s) ∧ Below w.heap.size w w'):=by
   have:=Tryz.Sign (.pointer (some ⟨a,0,none⟩)) q k w (.inr ⟨a,rfl,ha⟩)
   rw [hs] at this
   exact this
  clear hs
  go_enter Tryz.func148,Tryz.ntmps148
  go_wp2_with fail
  with_reducible refine HS.out.mono ?_
  rintro e w1 ⟨rfl,hb1⟩
  have HB1:Hid (Below w.heap.size w w1):=hb1
  have HA1:Hid (FracAt w1 a q k):=ha.below hb1
  clear hb1 HS
  obtain ⟨b,hb⟩:∃ b:Bool,decide (q.num < 0) = b:=⟨_,rfl⟩
  obtain ⟨n,d,l,c0,c1,c2,c3,HM⟩:∃ (n d:Int) (l:Option Addr),w1.cell? ⟨a,0,none⟩ = some (.bool b) ∧ w1.cell? ⟨a,1,none⟩ = some (.int .u64 n) ∧ w1.cell? ⟨a,2,none⟩ = some (.int .u64 d) ∧ w1.cell? ⟨a,3,none⟩ = some (.pointer l) ∧
   Hid (∀ W,Below w1.heap.size w1 W → FracIs (W.alloc (.cells #[.bool (!b),.int .u64 n,.int .u64 d,.pointer l] 110)) (.pointer (some ⟨W.heap.size,0,none⟩)) (-q) k):=by
   obtain ⟨h1,h2,h3⟩:=HA1.out
   rw [hb] at h2
   have e0:decide ((-q).num < 0) = !b:=by
    rw [← hb,Rat.neg_num]
    by_cases h:q.num < 0
    ·rw [decide_eq_true h,decide_eq_false (by omega)]; rfl
    ·rw [decide_eq_false h,decide_eq_true (by omega)]; rfl
   rcases h3 with ⟨g1,g2,g3,g4⟩ | ⟨g1,g2,g3,b',p,r,g4,g5,g6,g7,g8,g9⟩
   ·refine ⟨_,_,_,h2,g2,g3,g4,fun W hW=>.inr ⟨_,rfl,by simp,?_,.inl ⟨?_,?_,?_,?_⟩⟩⟩
    ·rw [e0]; simp
    ·unfold Short; rw [Rat.neg_num,Rat.neg_den,Int.natAbs_neg]; exact g1
    ·rw [Rat.neg_num,Int.natAbs_neg]; simp
    ·rw [Rat.neg_den]; simp
    ·simp
   ·refine ⟨_,_,_,h2,g2,g3,g4,fun W hW=>?_⟩
    have hb2:=(Below.refl W.heap.size W).alloc (Nat.le_refl _) (.cells #[.bool (!b),.int .u64 0,.int .u64 0,.pointer (some ⟨b',0,none⟩)] 110)
    have hs:=hW.size
    refine .inr ⟨_,rfl,by simp,?_,.inr ⟨?_,?_,?_,b',p,r,?_,by simp; omega,?_,?_,?_,?_⟩⟩
    ·rw [e0]; simp
    ·unfold Short; rw [Rat.neg_num,Rat.neg_den,Int.natAbs_neg]; exact g1
    ·simp
    ·simp
    ·simp
    ·rw [hb2.cell (by simp; omega),hW.cell g5]; exact g6
    ·rw [hb2.cell (by simp; omega),hW.cell g5]; exact g7
    ·rw [Rat.neg_num,Int.natAbs_neg]; exact (g8.below hW (Nat.le_refl _)).below hb2 (Nat.le_refl _)
    ·rw [Rat.neg_den]; exact (g9.below hW (Nat.le_refl _)).below hb2 (Nat.le_refl _)
  have hbd:∀ (x:Bool) (n d:Int) (l:Option Addr) (w:World),(Instr.build 110 #[(0,.bool x),(1,.int .u64 n),(2,.int .u64 d),(3,.pointer l)]).run Tryz.prog w = .ok (.agg #[.bool x,.int .u64 n,.int .u64 d,.pointer l]) w:=fun x n d l w=>run_build w 110 _ _ (by kernel_rfl)
  clear ha hb HA1 hz
  cases b
  all_goals
   go_wp2
   go_still_tail 18,(by kernel_rfl)
   repeat still_step
   try refine wpStill_nil ?_
   change wpList _ _ _ _ _ w1.drew
   have HM2:=Lib.hid (HM.out w1.drew (Below.refl _ _).drew)
   have HB2:=Lib.hid HB1.out.drew
   clear HM HB1 c0 c1 c2 c3
   generalize w1.drew = w2 at *
   go_wp2
   go_ret
   exact ⟨⟨_,rfl,HM2.out⟩,HB2.out.alloc HB2.out.size _⟩
end Go.Proofs.Fr
namespace Go.Proofs.Fr
open Go.RowKit Go.Proofs.Wd
theorem Tryz.frTimes (x y:Nat) (w:World) (hx:x ≤ 18446744073709551615) (hy:y ≤ 18446744073709551615) :
 Calls Tryz.prog 137 #[.int .u64 x,.int .u64 y] w fun e w'=>(∃ (l:Nat) (b:Bool),l ≤ 18446744073709551615 ∧ (b = true → l = x * y) ∧ e = .returned (.tuple #[.int .u64 l,.bool b])) ∧ w' = w:=by
 go_enter Tryz.func137,Tryz.ntmps137
 go_wp2_with fail
 with_reducible refine (Go.Proofs.Tryz.Mul x y _ (by omega) (by omega) (by omega) (by omega)).mono ?_
 rintro e w1 ⟨⟨h,l,he,h0,h1,l0,l1,rfl⟩,rfl⟩
 obtain ⟨l,rfl⟩:=Int.eq_ofNat_of_zero_le l0
 have HE:Hid ((h == 0) = true → l = x * y):=fun g=>by
  have g:h = 0:=by simpa using g
  subst g
  rw [Int.zero_mul,Int.zero_add,← Int.natCast_mul] at he
  omega
 have HL:Hid (l ≤ 18446744073709551615):=by show _ ≤ _; omega
 clear he
 go_wp2
 go_ret2
 exact ⟨⟨l,_,HL.out,HE.out,rfl⟩,rfl⟩
theorem Tryz.frDivisor (x y:Nat) (w:World) (hx:x ≤ 18446744073709551615) (hy:y ≤ 18446744073709551615) :
 Calls Tryz.prog 136 #[.int .u64 x,.int .u64 y] w fun e w'=>e = .returned (.int .u64 (Nat.gcd x y:Nat)) ∧ Below w.heap.size w w':=by
 obtain ⟨g,hg⟩:∃ g,Nat.gcd x y = g:=⟨_,rfl⟩
 rw [hg]
 have HG:Hid (Nat.gcd x y = g):=hg
 clear hg
 go_enter Tryz.func136,Tryz.ntmps136
 go_wp2
 go_loopw [0,1] (fun u v wr=>∃ a b:Nat,u = .int .u64 a ∧ v = .int .u64 b ∧ a ≤ 18446744073709551615 ∧ b ≤ 18446744073709551615 ∧ Nat.gcd a b = g ∧ Below w.heap.size w wr) (fun u v _=>(intOf v).toNat)
 case atStart=>exact ⟨x,y,rfl,rfl,hx,hy,HG.out,Below.refl _ _⟩
 case round=>
  obtain ⟨a,b,rfl,rfl,ha,hb,hgg,hbl⟩:=hrel
  have HB:Hid (Below w.heap.size w wr):=hbl
  clear hbl
  by_cases h0:b = 0
  ·subst h0
   obtain rfl:a = g:=by simpa using hgg
   go_wp2
   go_ret
   exact ⟨rfl,HB.out⟩
  ·have hb0:((b:Int) == 0) = false:=by simp; omega
   have hb1:((b:Int) != 0) = true:=by simp; omega
   obtain ⟨m,hm⟩:∃ m,a % b = m:=⟨_,rfl⟩
   have hrem:(a:Int).tmod (b:Int) = (m:Int):=by rw [Int.tmod_eq_emod_of_nonneg (by omega),← Int.natCast_emod,hm]
   have hrem2:(a:Int) % (b:Int) = (m:Int):=by rw [← Int.natCast_emod,hm]
   have HS:Hid (Nat.gcd b m = g):=by
    show _ = _
    rw [← hm,Nat.gcd_comm,← Nat.gcd_rec,Nat.gcd_comm]; exact hgg
   have HM:m < b:=by rw [← hm]; exact Nat.mod_lt _ (by omega)
   clear hgg hm
   go_wp2
   go_quiet (fail)
   have HB2:=Lib.hid (belowN HB.out nq)
   generalize wr.drewN nq = w2 at *
   go_wp2
   exact ⟨⟨b,m,rfl,rfl,hb,by omega,HS.out,HB2.out⟩,by simp [intOf]; omega⟩
/-- What signedSum tells. -/
def SgnIs (nx ny:Bool) (x y:Nat) (e:Ending):Prop:=∃ (neg:Bool) (n:Nat) (b:Bool),n ≤ 18446744073709551615 ∧ (b = true → sgn neg n = sgn nx x + sgn ny y) ∧ e = .returned (.tuple #[.bool neg,.int .u64 n,.bool b])
theorem Tryz.frSignedSum (nx ny:Bool) (x y:Nat) (w:World) (hx:x ≤ 18446744073709551615) (hy:y ≤ 18446744073709551615) :
 Calls Tryz.prog 173 #[.bool nx,.int .u64 x,.bool ny,.int .u64 y] w fun e w'=>SgnIs nx ny x y e ∧ w' = w:=by
 have HG:Hid (nx ≠ ny → (y:Int) ≤ x → ∀ s:Int,s = x - y → SgnIs nx ny x y (.returned (.tuple #[.bool nx,.int .u64 s,.bool true]))):=by
  rintro hne hle s rfl
  refine ⟨nx,x - y,true,by omega,fun _=>?_,by rw [Int.ofNat_sub (by omega)]⟩
  cases nx <;> cases ny <;> simp [sgn] at hne ⊢ <;> omega
 have HL:Hid (nx ≠ ny → ¬(y:Int) ≤ x → ∀ s:Int,s = y - x → SgnIs nx ny x y (.returned (.tuple #[.bool ny,.int .u64 s,.bool true]))):=by
  rintro hne hle s rfl
  refine ⟨ny,y - x,true,by omega,fun _=>?_,by rw [Int.ofNat_sub (by omega)]⟩
  cases nx <;> cases ny <;> simp [sgn] at hne ⊢ <;> omega
 by_cases hne:nx = ny
 ·subst hne
  have hnn:(nx == nx) = true:=by simp
  have HA:Hid (∀ (s:Int) (d:Bool),s + (if d = true then 18446744073709551616 else 0) = x + y → 0 ≤ s → s ≤ 18446744073709551615 → SgnIs nx nx x y (.returned (.tuple #[.bool nx,.int .u64 s,.bool (!d)]))):=by
   rintro s d he h0 h1
   obtain ⟨s,rfl⟩:=Int.eq_ofNat_of_zero_le h0
   refine ⟨nx,s,!d,by omega,fun h=>?_,rfl⟩
   cases d
   ·have:s = x + y:=by simp at he; omega
    subst this
    cases nx <;> simp [sgn] <;> omega
   ·simp at h
  go_enter Tryz.func173,Tryz.ntmps173
  go_wp2_with fail
  with_reducible refine (Go.Proofs.Tryz.AddX x y false _ (by omega) (by omega) (by omega) (by omega)).mono ?_
  rintro e w1 ⟨⟨s,d,he,s0,s1,rfl⟩,rfl⟩
  have HE:Hid (SgnIs nx nx x y (.returned (.tuple #[.bool nx,.int .u64 s,.bool (!d)]))):=HA.out s d (by simpa using he) s0 s1
  clear he HA HG HL
  go_wp2
  go_ret3
  exact ⟨HE.out,rfl⟩
 ·have hnn:(nx == ny) = false:=by simpa using hne
  by_cases hle:(y:Int) ≤ x
  ·have HE:Hid (SgnIs nx ny x y (.returned (.tuple #[.bool nx,.int .u64 ((x:Int) - y),.bool true]))):=HG.out hne hle _ rfl
   clear HG HL
   go_enter Tryz.func173,Tryz.ntmps173
   go_wp2
   go_ret3
   exact ⟨HE.out,rfl⟩
  ·have HE:Hid (SgnIs nx ny x y (.returned (.tuple #[.bool ny,.int .u64 ((y:Int) - x),.bool true]))):=HL.out hne hle _ rfl
   clear HG HL
   go_enter Tryz.func173,Tryz.ntmps173
   go_wp2
   go_ret3
   exact ⟨HE.out,rfl⟩
/-- What shortSum tells. -/
def ShortIs (q:Rat) (w:World) (e:Ending):Prop:=(∃ v,e = .returned (.tuple #[v,.bool true]) ∧ FracIs w v q 1) ∨ e = .returned (.tuple #[.pointer none,.bool false])
theorem Tryz.frShortSum (u v:Value) (a b c:Rat) (nb:Bool) (i j:Nat) (w:World) (hu:FracIs w u a i) (hv:FracIs w v b j) (hc:c.num = sgn nb b.num.natAbs) (hd:c.den = b.den) :
 Calls Tryz.prog 134 #[u,v,.bool nb] w fun e w'=>ShortIs (a + c) w' e ∧ Below w.heap.size w w':=by
 have HL0:Hid (Lies w w [] [(u,a,i),(v,b,j)]):=((Lies.start w).addF hv).addF hu
 have HNO:Hid (∀ W,ShortIs (a + c) W (.returned (.tuple #[.pointer none,.bool false]))):=fun W=>.inr rfl
 clear hu hv
 by_cases hs:Short a
 ·by_cases ht:Short b
  ·obtain ⟨n1,hn1⟩:∃ n,a.num.natAbs = n:=⟨_,rfl⟩
   obtain ⟨d1,hd1⟩:∃ n,a.den = n:=⟨_,rfl⟩
   obtain ⟨n2,hn2⟩:∃ n,b.num.natAbs = n:=⟨_,rfl⟩
   obtain ⟨d2,hd2⟩:∃ n,b.den = n:=⟨_,rfl⟩
   have HW1:Hid (∀ W,FracIs W u a i → Calls Tryz.prog 121 #[u] W fun e w'=>e = .returned (.tuple #[.int .u64 n1,.int .u64 d1,.bool true]) ∧ Below W.heap.size W w'):=fun W h=>
    (Tryz.words u a i W h).mono fun e w' h=>⟨by have:=(h.1.resolve_right fun g=>g.1 hs).2; rw [hn1,hd1] at this; exact this,h.2⟩
   have HW2:Hid (∀ W,FracIs W v b j → Calls Tryz.prog 121 #[v] W fun e w'=>e = .returned (.tuple #[.int .u64 n2,.int .u64 d2,.bool true]) ∧ Below W.heap.size W w'):=fun W h=>
    (Tryz.words v b j W h).mono fun e w' h=>⟨by have:=(h.1.resolve_right fun g=>g.1 ht).2; rw [hn2,hd2] at this; exact this,h.2⟩
   obtain ⟨s,hsg⟩:∃ s:Int,a.num.sign = s:=⟨_,rfl⟩
   have HSG:Hid (∀ W,FracIs W u a i → Calls Tryz.prog 64 #[u] W fun e w'=>e = .returned (.int .i64 s) ∧ Below W.heap.size W w'):=fun W h=>by
    have:=Tryz.Sign u a i W h
    rw [hsg] at this
    exact this
   obtain ⟨g,hg⟩:∃ g,Nat.gcd d1 d2 = g:=⟨_,rfl⟩
   have d10:0 < d1:=by have:=a.den_pos; omega
   have d20:0 < d2:=by have:=b.den_pos; omega
   have g0:0 < g:=by rw [← hg]; exact Nat.gcd_pos_of_pos_left _ d10
   obtain ⟨n9,d9⟩:=hs
   obtain ⟨m9,e9⟩:=ht
   rw [hn1] at n9
   rw [hd1] at d9
   rw [hn2] at m9
   rw [hd2] at e9
   have g9:g ≤ 18446744073709551615:=by
    have:g ≤ d1:=by rw [← hg]; exact Nat.gcd_le_left _ d10
    omega
   have HDV:Hid (∀ W,Calls Tryz.prog 136 #[.int .u64 d1,.int .u64 d2] W fun e w'=>e = .returned (.int .u64 g) ∧ Below W.heap.size W w'):=fun W=>by
    have:=Tryz.frDivisor d1 d2 W (by omega) (by omega)
    rw [hg] at this
    exact this
   obtain ⟨o1,ho1⟩:∃ o,d1 / g = o:=⟨_,rfl⟩
   obtain ⟨o2,ho2⟩:∃ o,d2 / g = o:=⟨_,rfl⟩
   have o19:o1 ≤ 18446744073709551615:=by have:=Nat.div_le_self d1 g; omega
   have o29:o2 ≤ 18446744073709551615:=by have:=Nat.div_le_self d2 g; omega
   have hq1:((d1:Int) / (g:Int)) = (o1:Int):=by rw [← ho1,Int.natCast_ediv]
   have hq2:((d2:Int) / (g:Int)) = (o2:Int):=by rw [← ho2,Int.natCast_ediv]
   have ht1:(d1:Int).tdiv (g:Int) = (o1:Int):=by rw [Int.tdiv_eq_ediv_of_nonneg (by omega),hq1]
   have ht2:(d2:Int).tdiv (g:Int) = (o2:Int):=by rw [Int.tdiv_eq_ediv_of_nonneg (by omega),hq2]
   have hgz:((g:Int) == 0) = false:=by simp; omega
   have HF:Hid (∀ (neg:Bool) (n t1 t2 l d:Nat) (W:World),n ≤ 18446744073709551615 → d ≤ 18446744073709551615 → t1 = n1 * o2 → t2 = n2 * o1 → sgn neg n = sgn (decide (s < 0)) t1 + sgn nb t2 → Nat.gcd g n = l → d = o1 * (d2 / l) → ∀ n3:Nat,n / l = n3 →
    Calls Tryz.prog 90 #[.bool neg,.int .u64 (n3:Int),.int .u64 d] W fun e w'=>(∃ v,e = .returned v ∧ FracIs w' v (a + c) 1) ∧ Below W.heap.size W w'):=by
    intro neg n t1 t2 l d W hn9 hd9 ht1 ht2 hsum hl hdd n3 hn3
    subst hn3
    have hsn:decide (s < 0) = decide (a.num < 0):=by rw [← hsg,Bool.eq_iff_iff]; simp [Int.sign_neg_iff]
    have h:=sum_parts (a:=a) (b:=c) (g:=g) (o1:=o1) (o2:=o2) (l:=l) (neg:=neg) (n:=n) hc (by rw [hd1,hd,hd2]; exact hg.symm) (by rw [hd1]; exact ho1.symm) (by rw [hd,hd2]; exact ho2.symm)
     (by rw [hn1,hn2,← ht1,← ht2,← hsn]; exact hsum) (by rw [Nat.gcd_comm]; exact hl.symm)
    rw [hd,hd2] at h
    exact Tryz.ofWords neg (n / l) d (a + c) W h.1 (by rw [h.2,hdd]) (by have:=Nat.div_le_self n l; omega) hd9
   have HE:Hid (∀ W v,FracIs W v (a + c) 1 → ShortIs (a + c) W (.returned (.tuple #[v,.bool true]))):=fun W v h=>.inl ⟨v,rfl,h⟩
   have HDL:Hid (∀ l,d2 / l ≤ 18446744073709551615):=fun l=>by have:=Nat.div_le_self d2 l; omega
   have HCD:Hid (∀ x y:Nat,((x:Int) / (y:Int)) = ((x / y:Nat):Int)):=fun x y=>(Int.natCast_ediv x y).symm
   clear hn1 hd1 hn2 hd2 hsg hg ho1 ho2 hc hd
   go_enter Tryz.func134,Tryz.ntmps134
   go_wp2_with fail
   with_reducible refine (HW1.out _ (HL0.out.frac (v:=u) (q:=a) (k:=i) (List.Mem.head _))).mono ?_
   rintro e w1 ⟨rfl,hb1⟩
   have HL1:Hid (Lies w w1 [] [(u,a,i),(v,b,j)]):=HL0.out.after hb1
   clear hb1  HL0 HW1
   go_wp2_with fail
   with_reducible refine (HW2.out _ (HL1.out.frac (v:=v) (q:=b) (k:=j) (List.Mem.tail _ (List.Mem.head _)))).mono ?_
   rintro e w2 ⟨rfl,hb2⟩
   have HL2:Hid (Lies w w2 [] [(u,a,i),(v,b,j)]):=HL1.out.after hb2
   clear hb2  HL1 HW2
   go_wp2_with fail
   with_reducible refine (HDV.out _).mono ?_
   rintro e w3 ⟨rfl,hb3⟩
   have HL3:Hid (Lies w w3 [] [(u,a,i),(v,b,j)]):=HL2.out.after hb3
   clear hb3  HL2 HDV
   go_wp2_with fail
   go_quiet (fail)
   have HLq:=Lib.hid (HL3.out.after (belowN (Below.refl _ _) nq))
   clear HL3
   generalize w3.drewN nq = w4 at *
   have HL4:Hid (Lies w w4 [] [(u,a,i),(v,b,j)]):=HLq
   clear HLq
   go_wp2_with fail
   with_reducible refine (Tryz.frTimes n1 o2 _ (by omega) o29).mono ?_
   rintro e w5 ⟨⟨t1,b1,t19,ht1,rfl⟩,rfl⟩
   have HT1:Hid (b1 = true → t1 = n1 * o2):=ht1
   clear ht1
   go_wp2_with fail
   with_reducible refine (Tryz.frTimes n2 o1 _ (by omega) o19).mono ?_
   rintro e w6 ⟨⟨t2,b2,t29,ht2,rfl⟩,rfl⟩
   have HT2:Hid (b2 = true → t2 = n2 * o1):=ht2
   clear ht2
   have HL6:Hid (Lies w w6 [] [(u,a,i),(v,b,j)]):=HL4
   clear HL4
   go_wp2_with fail
   with_reducible refine (HSG.out _ (HL6.out.frac (v:=u) (q:=a) (k:=i) (List.Mem.head _))).mono ?_
   rintro e w7 ⟨rfl,hb7⟩
   have HL7:Hid (Lies w w7 [] [(u,a,i),(v,b,j)]):=HL6.out.after hb7
   clear hb7  HL6 HSG
   go_wp2_with fail
   with_reducible refine (Tryz.frSignedSum (decide (s < 0)) nb t1 t2 _ t19 t29).mono ?_
   rintro e w8 ⟨⟨neg,n,b3,n39,hn3,rfl⟩,rfl⟩
   have HN3:Hid (b3 = true → sgn neg n = sgn (decide (s < 0)) t1 + sgn nb t2):=hn3
   clear hn3
   have HL8:Hid (Lies w w8 [] [(u,a,i),(v,b,j)]):=HL7
   clear HL7
   cases b1
   ·go_wp2
    go_ret2
    exact ⟨HNO.out _,HL8.out.below⟩
   cases b2
   ·go_wp2
    go_ret2
    exact ⟨HNO.out _,HL8.out.below⟩
   cases b3
   ·go_wp2
    go_ret2
    exact ⟨HNO.out _,HL8.out.below⟩
   obtain ⟨l,hl⟩:∃ l,Nat.gcd g n = l:=⟨_,rfl⟩
   have l0:0 < l:=by rw [← hl]; exact Nat.gcd_pos_of_pos_left _ g0
   have HDV2:Hid (∀ W,Calls Tryz.prog 136 #[.int .u64 g,.int .u64 n] W fun e w'=>e = .returned (.int .u64 l) ∧ Below W.heap.size W w'):=fun W=>by
    have:=Tryz.frDivisor g n W g9 n39
    rw [hl] at this
    exact this
   have HLL:Hid (Nat.gcd g n = l):=hl
   have hlz:((l:Int) == 0) = false:=by simp; omega
   obtain ⟨d3,hd3⟩:∃ d3,d2 / l = d3:=⟨_,rfl⟩
   obtain ⟨n3,hn3⟩:∃ n3,n / l = n3:=⟨_,rfl⟩
   have d39:d3 ≤ 18446744073709551615:=by have:=HDL.out l; omega
   have n349:n3 ≤ 18446744073709551615:=by have:=Nat.div_le_self n l; omega
   have hq3:(d2:Int) / (l:Int) = (d3:Int):=by rw [HCD.out,hd3]
   have hq4:(n:Int) / (l:Int) = (n3:Int):=by rw [HCD.out,hn3]
   have ht3:(d2:Int).tdiv (l:Int) = (d3:Int):=by rw [Int.tdiv_eq_ediv_of_nonneg (by omega),hq3]
   have ht4:(n:Int).tdiv (l:Int) = (n3:Int):=by rw [Int.tdiv_eq_ediv_of_nonneg (by omega),hq4]
   have HD3L:Hid (d2 / l = d3):=hd3
   have HN3L:Hid (n / l = n3):=hn3
   clear hd3 hn3
   clear hl
   go_wp2_with fail
   with_reducible refine (HDV2.out _).mono ?_
   rintro e w9 ⟨rfl,hb9⟩
   have HL9:Hid (Lies w w9 [] [(u,a,i),(v,b,j)]):=HL8.out.after hb9
   clear hb9  HL8 HDV2
   go_wp2_with fail
   with_reducible refine (Tryz.frTimes o1 d3 _ o19 d39).mono ?_
   rintro e w10 ⟨⟨d,b4,dd9,hd3,rfl⟩,rfl⟩
   have HD3:Hid (b4 = true → d = o1 * d3):=hd3
   clear hd3
   have HL10:Hid (Lies w w10 [] [(u,a,i),(v,b,j)]):=HL9
   clear HL9
   cases b4
   ·go_wp2
    go_ret2
    exact ⟨HNO.out _,HL10.out.below⟩
   have HF2:=Lib.hid (fun W=>HF.out neg n t1 t2 l d W n39 dd9 (HT1.out (by simp)) (HT2.out (by simp)) (HN3.out (by simp)) HLL.out (by rw [HD3L.out]; exact HD3.out (by simp)) n3 HN3L.out)
   clear HF HT1 HT2 HN3 HLL HD3
   go_wp2_with fail
   with_reducible refine (HF2.out _).mono ?_
   rintro e w11 ⟨⟨r,rfl,hr⟩,hb11⟩
   have HL11:Hid (Lies w w11 [] [(r,a + c,1),(u,a,i),(v,b,j)]):=(HL10.out.after hb11).addF hr
   clear hb11 hr HL10 HF2
   go_wp2
   go_ret2
   exact ⟨HE.out _ r (HL11.out.frac (v:=r) (q:=a + c) (k:=1) (List.Mem.head _)),HL11.out.below⟩
  ·have HW2 : Hid (∀ W, FracIs W v b j → Calls Tryz.prog 121 #[v] W fun e w' => (∃ n d, e = .returned (.tuple #[.int .u64 n, .int .u64 d, .bool false])) ∧ Below W.heap.size W w') := fun W h =>
    (Tryz.words v b j W h).mono fun e w' h=>⟨(h.1.resolve_left fun g=>ht g.1).2,h.2⟩
   have HW1:Hid (∀ W,FracIs W u a i → Calls Tryz.prog 121 #[u] W fun e w'=>(∃ n d,e = .returned (.tuple #[.int .u64 n,.int .u64 d,.bool true])) ∧ Below W.heap.size W w'):=fun W h=>
    (Tryz.words u a i W h).mono fun e w' h=>⟨⟨_,_,(h.1.resolve_right fun g=>g.1 hs).2⟩,h.2⟩
   clear hs ht hc hd
   go_enter Tryz.func134,Tryz.ntmps134
   go_wp2_with fail
   with_reducible refine (HW1.out _ (HL0.out.frac (v:=u) (q:=a) (k:=i) (List.Mem.head _))).mono ?_
   rintro e w1 ⟨⟨m1,c1,rfl⟩,hb1⟩
   have HL1:Hid (Lies w w1 [] [(u,a,i),(v,b,j)]):=HL0.out.after hb1
   clear hb1  HL0 HW1
   go_wp2_with fail
   with_reducible refine (HW2.out _ (HL1.out.frac (v:=v) (q:=b) (k:=j) (List.Mem.tail _ (List.Mem.head _)))).mono ?_
   rintro e w2 ⟨⟨m2,c2,rfl⟩,hb2⟩
   have HL2:Hid (Lies w w2 [] [(u,a,i),(v,b,j)]):=HL1.out.after hb2
   clear hb2  HL1 HW2
   go_wp2
   go_ret2
   exact ⟨HNO.out _,HL2.out.below⟩
 ·have HW1 : Hid (∀ W, FracIs W u a i → Calls Tryz.prog 121 #[u] W fun e w' => (∃ n d, e = .returned (.tuple #[.int .u64 n, .int .u64 d, .bool false])) ∧ Below W.heap.size W w') := fun W h =>
   (Tryz.words u a i W h).mono fun e w' h=>⟨(h.1.resolve_left fun g=>hs g.1).2,h.2⟩
  have HW2:Hid (∀ W,FracIs W v b j → Calls Tryz.prog 121 #[v] W fun e w'=>(∃ n d o,e = .returned (.tuple #[.int .u64 n,.int .u64 d,.bool o])) ∧ Below W.heap.size W w'):=fun W h=>
   (Tryz.words v b j W h).mono fun e w' h=>⟨by
    rcases h.1 with ⟨-,h⟩ | ⟨-,n,d,h⟩
    ·exact ⟨_,_,_,h⟩
    ·exact ⟨_,_,_,h⟩,h.2⟩
  clear hs hc hd
  go_enter Tryz.func134,Tryz.ntmps134
  go_wp2_with fail
  with_reducible refine (HW1.out _ (HL0.out.frac (v:=u) (q:=a) (k:=i) (List.Mem.head _))).mono ?_
  rintro e w1 ⟨⟨m1,c1,rfl⟩,hb1⟩
  have HL1:Hid (Lies w w1 [] [(u,a,i),(v,b,j)]):=HL0.out.after hb1
  clear hb1  HL0 HW1
  go_wp2_with fail
  with_reducible refine (HW2.out _ (HL1.out.frac (v:=v) (q:=b) (k:=j) (List.Mem.tail _ (List.Mem.head _)))).mono ?_
  rintro e w2 ⟨⟨m2,c2,o,rfl⟩,hb2⟩
  have HL2:Hid (Lies w w2 [] [(u,a,i),(v,b,j)]):=HL1.out.after hb2
  clear hb2  HL1 HW2
  go_wp2
  go_ret2
  exact ⟨HNO.out _,HL2.out.below⟩
/-- What signedNats tells. -/
def SgnNat (nx ny:Bool) (x y k:Nat) (w:World) (e:Ending):Prop:=∃ (neg:Bool) (n:Nat) (v:Value),sgn neg n = sgn nx x + sgn ny y ∧ e = .returned (.tuple #[.bool neg,v]) ∧ Num w v (n:Int) k
theorem Tryz.frSignedNats (nx ny:Bool) (u v:Value) (x y k:Nat) (w:World) (hu:Num w u x k) (hv:Num w v y k) (hk:k ≤ 90000000000) :
 Calls Tryz.prog 174 #[.bool nx,u,.bool ny,v] w fun e w'=>SgnNat nx ny x y (k + 1) w' e ∧ Below w.heap.size w w':=by
 have HL0:Hid (Lies w w [(u,(x:Int),k),(v,(y:Int),k)] []):=((Lies.start w).addN hv).addN hu
 clear hu hv
 by_cases hne:nx = ny
 ·subst hne
  have hnn:(nx == nx) = true:=by simp
  have HA:Hid (∀ W,Num W u x k → Num W v y k → Calls Tryz.prog 114 #[u,v] W fun e w'=>(∃ r,e = .returned r ∧ Num w' r ((x + y:Nat):Int) (k + 1)) ∧ Below W.heap.size W w'):=fun W h1 h2=>by
   have:=Tryz.natAdd u v x y k k W h1 h2 (by omega) (by omega)
   rw [Nat.max_self,← Int.natCast_add] at this
   exact this
  have HE:Hid (∀ W r,Num W r ((x + y:Nat):Int) (k + 1) → SgnNat nx nx x y (k + 1) W (.returned (.tuple #[.bool nx,r]))):=fun W r h=>⟨nx,x + y,r,by cases nx <;> simp [sgn] <;> omega,rfl,h⟩
  go_enter Tryz.func174,Tryz.ntmps174
  go_wp2_with fail
  with_reducible refine (HA.out _ (HL0.out.num (v:=u) (z:=(x:Int)) (n:=k) (List.Mem.head _)) (HL0.out.num (v:=v) (z:=(y:Int)) (n:=k) (List.Mem.tail _ (List.Mem.head _)))).mono ?_
  rintro e w1 ⟨⟨r,rfl,hr⟩,hb1⟩
  have HL1:Hid (Lies w w1 [(r,((x + y:Nat):Int),k + 1),(u,(x:Int),k),(v,(y:Int),k)] []):=(HL0.out.after hb1).addN hr
  clear hb1 hr HL0 HA
  go_wp2
  go_ret2
  exact ⟨HE.out _ r (HL1.out.num (v:=r) (z:=((x + y:Nat):Int)) (n:=k + 1) (List.Mem.head _)),HL1.out.below⟩
 ·have hnn:(nx == ny) = false:=by simpa using hne
  by_cases hle:y ≤ x
  ·have HA : Hid (∀ W, Num W u x k → Num W v y k → Calls Tryz.prog 204 #[u, v] W fun e w' => (∃ r, e = .returned (.tuple #[r, .bool true]) ∧ Num w' r ((x - y : Nat) : Int) k) ∧ Below W.heap.size W w') := fun W h1 h2 => by
    refine (Tryz.natLess u v x y k k W h1 h2 (by omega)).mono ?_
    rintro e w' ⟨h,hb⟩
    obtain ⟨-,r,rfl,hr⟩:=h.resolve_right (fun g=>by have:=g.1; omega)
    exact ⟨⟨r,rfl,by rw [Int.ofNat_sub hle]; exact hr⟩,hb⟩
   have HE:Hid (∀ W r,Num W r ((x - y:Nat):Int) k → SgnNat nx ny x y (k + 1) W (.returned (.tuple #[.bool nx,r]))):=fun W r h=>⟨nx,x - y,r,by cases nx <;> cases ny <;> simp [sgn] at hne ⊢ <;> omega,rfl,h.fewer (by omega)⟩
   go_enter Tryz.func174,Tryz.ntmps174
   go_wp2_with fail
   with_reducible refine (HA.out _ (HL0.out.num (v:=u) (z:=(x:Int)) (n:=k) (List.Mem.head _)) (HL0.out.num (v:=v) (z:=(y:Int)) (n:=k) (List.Mem.tail _ (List.Mem.head _)))).mono ?_
   rintro e w1 ⟨⟨r,rfl,hr⟩,hb1⟩
   have HL1:Hid (Lies w w1 [(r,((x - y:Nat):Int),k),(u,(x:Int),k),(v,(y:Int),k)] []):=(HL0.out.after hb1).addN hr
   clear hb1 hr HL0 HA
   go_wp2
   go_ret2
   exact ⟨HE.out _ r (HL1.out.num (v:=r) (z:=((x - y:Nat):Int)) (n:=k) (List.Mem.head _)),HL1.out.below⟩
  ·have HN : Hid (∀ W, Num W u x k → Num W v y k → Calls Tryz.prog 204 #[u, v] W fun e w' => e = .returned (.tuple #[.pointer none, .bool false]) ∧ Below W.heap.size W w') := fun W h1 h2 => by
    refine (Tryz.natLess u v x y k k W h1 h2 (by omega)).mono ?_
    rintro e w' ⟨h,hb⟩
    obtain ⟨-,rfl⟩:=h.resolve_left (fun g=>by have:=g.1; omega)
    exact ⟨rfl,hb⟩
   have HA:Hid (∀ W,Num W u x k → Num W v y k → Calls Tryz.prog 204 #[v,u] W fun e w'=>(∃ r,e = .returned (.tuple #[r,.bool true]) ∧ Num w' r ((y - x:Nat):Int) k) ∧ Below W.heap.size W w'):=fun W h1 h2=>by
    refine (Tryz.natLess v u y x k k W h2 h1 (by omega)).mono ?_
    rintro e w' ⟨h,hb⟩
    obtain ⟨-,r,rfl,hr⟩:=h.resolve_right (fun g=>by have:=g.1; omega)
    exact ⟨⟨r,rfl,by rw [Int.ofNat_sub (by omega)]; exact hr⟩,hb⟩
   have HE:Hid (∀ W r,Num W r ((y - x:Nat):Int) k → SgnNat nx ny x y (k + 1) W (.returned (.tuple #[.bool ny,r]))):=fun W r h=>⟨ny,y - x,r,by cases nx <;> cases ny <;> simp [sgn] at hne ⊢ <;> omega,rfl,h.fewer (by omega)⟩
   go_enter Tryz.func174,Tryz.ntmps174
   go_wp2_with fail
   with_reducible refine (HN.out _ (HL0.out.num (v:=u) (z:=(x:Int)) (n:=k) (List.Mem.head _)) (HL0.out.num (v:=v) (z:=(y:Int)) (n:=k) (List.Mem.tail _ (List.Mem.head _)))).mono ?_
   rintro e w1 ⟨rfl,hb1⟩
   have HL1:Hid (Lies w w1 [(u,(x:Int),k),(v,(y:Int),k)] []):=HL0.out.after hb1
   clear hb1  HL0 HN
   go_wp2_with fail
   with_reducible refine (HA.out _ (HL1.out.num (v:=u) (z:=(x:Int)) (n:=k) (List.Mem.head _)) (HL1.out.num (v:=v) (z:=(y:Int)) (n:=k) (List.Mem.tail _ (List.Mem.head _)))).mono ?_
   rintro e w2 ⟨⟨r,rfl,hr⟩,hb2⟩
   have HL2:Hid (Lies w w2 [(r,((y - x:Nat):Int),k),(u,(x:Int),k),(v,(y:Int),k)] []):=(HL1.out.after hb2).addN hr
   clear hb2 hr HL1 HA
   go_wp2
   go_ret2
   exact ⟨HE.out _ r (HL2.out.num (v:=r) (z:=((y - x:Nat):Int)) (n:=k) (List.Mem.head _)),HL2.out.below⟩
theorem Tryz.frLongSum (u v:Value) (a b c:Rat) (nb:Bool) (k:Nat) (w:World) (hu:FracIs w u a k) (hv:FracIs w v b k) (hc:c.num = sgn nb b.num.natAbs) (hd:c.den = b.den) (hk:1 ≤ k) (hk9:k ≤ 30000000000) :
 Calls Tryz.prog 135 #[u,v,.bool nb] w fun e w'=>(∃ r,e = .returned r ∧ FracIs w' r (a + c) (k + k + 3)) ∧ Below w.heap.size w w':=by
 have HL0:Hid (Lies w w [] [(u,a,k),(v,b,k)]):=((Lies.start w).addF hv).addF hu
 clear hu hv
 obtain ⟨n1,hn1⟩:∃ n,a.num.natAbs = n:=⟨_,rfl⟩
 obtain ⟨d1,hd1⟩:∃ n,a.den = n:=⟨_,rfl⟩
 obtain ⟨n2,hn2⟩:∃ n,b.num.natAbs = n:=⟨_,rfl⟩
 obtain ⟨d2,hd2⟩:∃ n,b.den = n:=⟨_,rfl⟩
 have HN1:Hid (∀ W,FracIs W u a k → Calls Tryz.prog 63 #[u] W fun e w'=>(∃ p r,e = .returned (.tuple #[p,r]) ∧ Num w' p (n1:Int) k ∧ Num w' r (d1:Int) k) ∧ Below W.heap.size W w'):=fun W h=>by
  have:=Tryz.nats u a k W h hk
  rw [hn1,hd1] at this
  exact this
 have HN2:Hid (∀ W,FracIs W v b k → Calls Tryz.prog 63 #[v] W fun e w'=>(∃ p r,e = .returned (.tuple #[p,r]) ∧ Num w' p (n2:Int) k ∧ Num w' r (d2:Int) k) ∧ Below W.heap.size W w'):=fun W h=>by
  have:=Tryz.nats v b k W h hk
  rw [hn2,hd2] at this
  exact this
 obtain ⟨s,hsg⟩:∃ s:Int,a.num.sign = s:=⟨_,rfl⟩
 have HSG:Hid (∀ W,FracIs W u a k → Calls Tryz.prog 64 #[u] W fun e w'=>e = .returned (.int .i64 s) ∧ Below W.heap.size W w'):=fun W h=>by
  have:=Tryz.Sign u a k W h
  rw [hsg] at this
  exact this
 obtain ⟨g,hg⟩:∃ g,Nat.gcd d1 d2 = g:=⟨_,rfl⟩
 have d10:0 < d1:=by have:=a.den_pos; omega
 have d20:0 < d2:=by have:=b.den_pos; omega
 have g0:0 < g:=by rw [← hg]; exact Nat.gcd_pos_of_pos_left _ d10
 obtain ⟨o1,ho1⟩:∃ o,d1 / g = o:=⟨_,rfl⟩
 obtain ⟨o2,ho2⟩:∃ o,d2 / g = o:=⟨_,rfl⟩
 have HG:Hid (∀ W p r,Num W p (d1:Int) k → Num W r (d2:Int) k → Calls Tryz.prog 138 #[p,r] W fun e w'=>(∃ x,e = .returned x ∧ Num w' x (g:Int) k) ∧ Below W.heap.size W w'):=fun W p r h1 h2=>by
  have h:=Tryz.frGcd p r d1 d2 k k W h1 h2 (by omega) (by omega)
  rw [hg,Nat.max_self] at h
  exact h
 have HO1:Hid (∀ W p x,Num W p (d1:Int) k → Num W x (g:Int) k → Calls Tryz.prog 139 #[p,x] W fun e w'=>(∃ y,e = .returned y ∧ Num w' y (o1:Int) (k + 1)) ∧ Below W.heap.size W w'):=fun W p x h1 h2=>by
  have h:=Tryz.frOver p x d1 g k k W h1 h2 (by omega) g0
  rw [ho1] at h
  exact h
 have HO2:Hid (∀ W p x,Num W p (d2:Int) k → Num W x (g:Int) k → Calls Tryz.prog 139 #[p,x] W fun e w'=>(∃ y,e = .returned y ∧ Num w' y (o2:Int) (k + 1)) ∧ Below W.heap.size W w'):=fun W p x h1 h2=>by
  have h:=Tryz.frOver p x d2 g k k W h1 h2 (by omega) g0
  rw [ho2] at h
  exact h
 have HM1:Hid (∀ W p x,Num W p (n1:Int) k → Num W x (o2:Int) (k + 1) → Calls Tryz.prog 132 #[p,x] W fun e w'=>(∃ y,e = .returned y ∧ Num w' y ((n1 * o2:Nat):Int) (k + k + 1)) ∧ Below W.heap.size W w'):=fun W p x h1 h2=>Tryz.frMul p x n1 o2 k (k + 1) W h1 h2 (by omega) (by omega)
 have HM2:Hid (∀ W p x,Num W p (n2:Int) k → Num W x (o1:Int) (k + 1) → Calls Tryz.prog 132 #[p,x] W fun e w'=>(∃ y,e = .returned y ∧ Num w' y ((n2 * o1:Nat):Int) (k + k + 1)) ∧ Below W.heap.size W w'):=fun W p x h1 h2=>Tryz.frMul p x n2 o1 k (k + 1) W h1 h2 (by omega) (by omega)
 obtain ⟨t1,ht1⟩:∃ t,n1 * o2 = t:=⟨_,rfl⟩
 obtain ⟨t2,ht2⟩:∃ t,n2 * o1 = t:=⟨_,rfl⟩
 rw [ht1] at HM1
 rw [ht2] at HM2
 have HS:Hid (∀ W x y,Num W x (t1:Int) (k + k + 1) → Num W y (t2:Int) (k + k + 1) → Calls Tryz.prog 174 #[.bool (decide (s < 0)),x,.bool nb,y] W fun e w'=>SgnNat (decide (s < 0)) nb t1 t2 (k + k + 2) w' e ∧ Below W.heap.size W w'):=fun W x y h1 h2=>Tryz.frSignedNats (decide (s < 0)) nb x y t1 t2 (k + k + 1) W h1 h2 (by omega)
 have HF:Hid (∀ (neg:Bool) (n l:Nat) (W:World) (x y:Value),sgn neg n = sgn (decide (s < 0)) t1 + sgn nb t2 → Nat.gcd n g = l → Num W x ((n / l:Nat):Int) (k + k + 3) → Num W y ((o1 * (d2 / l):Nat):Int) (k + k + 3) →
  Calls Tryz.prog 100 #[.bool neg,x,y] W fun e w'=>(∃ v,e = .returned v ∧ FracIs w' v (a + c) (k + k + 3)) ∧ Below W.heap.size W w'):=by
  intro neg n l W x y hsum hl hx hy
  have hsn:decide (s < 0) = decide (a.num < 0):=by rw [← hsg,Bool.eq_iff_iff]; simp [Int.sign_neg_iff]
  have h:=sum_parts (a:=a) (b:=c) (g:=g) (o1:=o1) (o2:=o2) (l:=l) (neg:=neg) (n:=n) hc (by rw [hd1,hd,hd2]; exact hg.symm) (by rw [hd1]; exact ho1.symm) (by rw [hd,hd2]; exact ho2.symm)
   (by rw [hn1,hn2,ht1,ht2,← hsn]; exact hsum) hl.symm
  rw [hd,hd2] at h
  exact Tryz.ofNats neg x y (n / l) (o1 * (d2 / l)) (a + c) (k + k + 3) W hx hy h.1 h.2 (by omega)
 clear hn1 hd1 hn2 hd2 hsg hg ho1 ho2 hc hd ht1 ht2
 go_enter Tryz.func135,Tryz.ntmps135
 go_wp2_with fail
 with_reducible refine (HN1.out _ (HL0.out.frac (v:=u) (q:=a) (k:=k) (List.Mem.head _))).mono ?_
 rintro e w1 ⟨⟨p1,r1,rfl,hp1,hr1⟩,hb1⟩
 have HL1:Hid (Lies w w1 [(r1,(d1:Int),k),(p1,(n1:Int),k)] [(u,a,k),(v,b,k)]):=((HL0.out.after hb1).addN hp1).addN hr1
 clear hb1 hp1 hr1 HL0 HN1
 go_wp2_with fail
 with_reducible refine (HN2.out _ (HL1.out.frac (v:=v) (q:=b) (k:=k) (List.Mem.tail _ (List.Mem.head _)))).mono ?_
 rintro e w2 ⟨⟨p2,r2,rfl,hp2,hr2⟩,hb2⟩
 have HL2:Hid (Lies w w2 [(r2,(d2:Int),k),(p2,(n2:Int),k),(r1,(d1:Int),k),(p1,(n1:Int),k)] [(u,a,k),(v,b,k)]):=((HL1.out.after hb2).addN hp2).addN hr2
 clear hb2 hp2 hr2 HL1 HN2
 go_wp2_with fail
 with_reducible refine (HG.out _ r1 r2 (HL2.out.num (v:=r1) (z:=(d1:Int)) (n:=k) (List.Mem.tail _ (List.Mem.tail _ (List.Mem.head _)))) (HL2.out.num (v:=r2) (z:=(d2:Int)) (n:=k) (List.Mem.head _))).mono ?_
 rintro e w3 ⟨⟨gv,rfl,hgv⟩,hb3⟩
 have HL3:Hid (Lies w w3 [(gv,(g:Int),k),(r2,(d2:Int),k),(p2,(n2:Int),k),(r1,(d1:Int),k),(p1,(n1:Int),k)] [(u,a,k),(v,b,k)]):=(HL2.out.after hb3).addN hgv
 clear hb3 hgv HL2 HG
 go_wp2_with fail
 with_reducible refine (HO1.out _ r1 gv (HL3.out.num (v:=r1) (z:=(d1:Int)) (n:=k) (List.Mem.tail _ (List.Mem.tail _ (List.Mem.tail _ (List.Mem.head _))))) (HL3.out.num (v:=gv) (z:=(g:Int)) (n:=k) (List.Mem.head _))).mono ?_
 rintro e w4 ⟨⟨v1,rfl,hv1⟩,hb4⟩
 have HL4:Hid (Lies w w4 [(v1,(o1:Int),k + 1),(gv,(g:Int),k),(r2,(d2:Int),k),(p2,(n2:Int),k),(r1,(d1:Int),k),(p1,(n1:Int),k)] [(u,a,k),(v,b,k)]):=(HL3.out.after hb4).addN hv1
 clear hb4 hv1 HL3 HO1
 go_wp2_with fail
 with_reducible refine (HO2.out _ r2 gv (HL4.out.num (v:=r2) (z:=(d2:Int)) (n:=k) (List.Mem.tail _ (List.Mem.tail _ (List.Mem.head _)))) (HL4.out.num (v:=gv) (z:=(g:Int)) (n:=k) (List.Mem.tail _ (List.Mem.head _)))).mono ?_
 rintro e w5 ⟨⟨v2,rfl,hv2⟩,hb5⟩
 have HL5:Hid (Lies w w5 [(v2,(o2:Int),k + 1),(v1,(o1:Int),k + 1),(gv,(g:Int),k),(r2,(d2:Int),k),(p2,(n2:Int),k),(r1,(d1:Int),k),(p1,(n1:Int),k)] [(u,a,k),(v,b,k)]):=(HL4.out.after hb5).addN hv2
 clear hb5 hv2 HL4 HO2
 go_wp2_with fail
 with_reducible refine (HSG.out _ (HL5.out.frac (v:=u) (q:=a) (k:=k) (List.Mem.head _))).mono ?_
 rintro e w6 ⟨rfl,hb6⟩
 have HL6:Hid (Lies w w6 [(v2,(o2:Int),k + 1),(v1,(o1:Int),k + 1),(gv,(g:Int),k),(r2,(d2:Int),k),(p2,(n2:Int),k),(r1,(d1:Int),k),(p1,(n1:Int),k)] [(u,a,k),(v,b,k)]):=HL5.out.after hb6
 clear hb6  HL5 HSG
 go_wp2_with fail
 with_reducible refine (HM1.out _ p1 v2 (HL6.out.num (v:=p1) (z:=(n1:Int)) (n:=k) (List.Mem.tail _ (List.Mem.tail _ (List.Mem.tail _ (List.Mem.tail _ (List.Mem.tail _ (List.Mem.tail _ (List.Mem.head _)))))))) (HL6.out.num (v:=v2) (z:=(o2:Int)) (n:=k + 1) (List.Mem.head _))).mono ?_
 rintro e w7 ⟨⟨m1,rfl,hm1⟩,hb7⟩
 have HL7:Hid (Lies w w7 [(m1,(t1:Int),k + k + 1),(v2,(o2:Int),k + 1),(v1,(o1:Int),k + 1),(gv,(g:Int),k),(r2,(d2:Int),k),(p2,(n2:Int),k),(r1,(d1:Int),k),(p1,(n1:Int),k)] [(u,a,k),(v,b,k)]):=(HL6.out.after hb7).addN hm1
 clear hb7 hm1 HL6 HM1
 go_wp2_with fail
 with_reducible refine (HM2.out _ p2 v1 (HL7.out.num (v:=p2) (z:=(n2:Int)) (n:=k) (List.Mem.tail _ (List.Mem.tail _ (List.Mem.tail _ (List.Mem.tail _ (List.Mem.tail _ (List.Mem.head _))))))) (HL7.out.num (v:=v1) (z:=(o1:Int)) (n:=k + 1) (List.Mem.tail _ (List.Mem.tail _ (List.Mem.head _))))).mono ?_
 rintro e w8 ⟨⟨m2,rfl,hm2⟩,hb8⟩
 have HL8:Hid (Lies w w8 [(m2,(t2:Int),k + k + 1),(m1,(t1:Int),k + k + 1),(v2,(o2:Int),k + 1),(v1,(o1:Int),k + 1),(gv,(g:Int),k),(r2,(d2:Int),k),(p2,(n2:Int),k),(r1,(d1:Int),k),(p1,(n1:Int),k)] [(u,a,k),(v,b,k)]):=(HL7.out.after hb8).addN hm2
 clear hb8 hm2 HL7 HM2
 go_wp2_with fail
 with_reducible refine (HS.out _ m1 m2 (HL8.out.num (v:=m1) (z:=(t1:Int)) (n:=k + k + 1) (List.Mem.tail _ (List.Mem.head _))) (HL8.out.num (v:=m2) (z:=(t2:Int)) (n:=k + k + 1) (List.Mem.head _))).mono ?_
 rintro e w9 ⟨⟨neg,n,z,hsum,rfl,hz⟩,hb9⟩
 have HL9:Hid (Lies w w9 [(z,(n:Int),k + k + 2),(m2,(t2:Int),k + k + 1),(m1,(t1:Int),k + k + 1),(v2,(o2:Int),k + 1),(v1,(o1:Int),k + 1),(gv,(g:Int),k),(r2,(d2:Int),k),(p2,(n2:Int),k),(r1,(d1:Int),k),(p1,(n1:Int),k)] [(u,a,k),(v,b,k)]):=(HL8.out.after hb9).addN hz
 clear hb9 hz HL8 HS
 obtain ⟨l,hl⟩:∃ l,Nat.gcd n g = l:=⟨_,rfl⟩
 have l0:1 ≤ l:=by rw [← hl]; exact Nat.gcd_pos_of_pos_right _ g0
 have HG2:Hid (∀ W,Num W z (n:Int) (k + k + 2) → Num W gv (g:Int) k → Calls Tryz.prog 138 #[z,gv] W fun e w'=>(∃ x,e = .returned x ∧ Num w' x (l:Int) (k + k + 2)) ∧ Below W.heap.size W w'):=fun W h1 h2=>by
  have h:=Tryz.frGcd z gv n g (k + k + 2) k W h1 h2 (by omega) (by omega)
  rw [hl,show max (k + k + 2) k = k + k + 2 by omega] at h
  exact h
 have HF2:=Lib.hid (fun W x y=>HF.out neg n l W x y hsum hl)
 clear hsum hl HF
 go_wp2_with fail
 with_reducible refine (HG2.out _ (HL9.out.num (v:=z) (z:=(n:Int)) (n:=k + k + 2) (List.Mem.head _)) (HL9.out.num (v:=gv) (z:=(g:Int)) (n:=k) (List.Mem.tail _ (List.Mem.tail _ (List.Mem.tail _ (List.Mem.tail _ (List.Mem.tail _ (List.Mem.head _)))))))).mono ?_
 rintro e w10 ⟨⟨lv,rfl,hlv⟩,hb10⟩
 have HL10:Hid (Lies w w10 [(lv,(l:Int),k + k + 2),(z,(n:Int),k + k + 2),(m2,(t2:Int),k + k + 1),(m1,(t1:Int),k + k + 1),(v2,(o2:Int),k + 1),(v1,(o1:Int),k + 1),(gv,(g:Int),k),(r2,(d2:Int),k),(p2,(n2:Int),k),(r1,(d1:Int),k),(p1,(n1:Int),k)] [(u,a,k),(v,b,k)]):=(HL9.out.after hb10).addN hlv
 clear hb10 hlv HL9 HG2
 go_wp2_with fail
 with_reducible refine (Tryz.frOver z lv n l (k + k + 2) (k + k + 2) _ (HL10.out.num (v:=z) (z:=(n:Int)) (n:=k + k + 2) (List.Mem.tail _ (List.Mem.head _))) (HL10.out.num (v:=lv) (z:=(l:Int)) (n:=k + k + 2) (List.Mem.head _)) (by omega) l0).mono ?_
 rintro e w11 ⟨⟨y1,rfl,hy1⟩,hb11⟩
 have HL11:Hid (Lies w w11 [(y1,((n / l:Nat):Int),k + k + 3),(lv,(l:Int),k + k + 2),(z,(n:Int),k + k + 2),(m2,(t2:Int),k + k + 1),(m1,(t1:Int),k + k + 1),(v2,(o2:Int),k + 1),(v1,(o1:Int),k + 1),(gv,(g:Int),k),(r2,(d2:Int),k),(p2,(n2:Int),k),(r1,(d1:Int),k),(p1,(n1:Int),k)] [(u,a,k),(v,b,k)]):=(HL10.out.after hb11).addN hy1
 clear hb11 hy1 HL10
 go_wp2_with fail
 with_reducible refine (Tryz.frOver r2 lv d2 l k (k + k + 2) _ (HL11.out.num (v:=r2) (z:=(d2:Int)) (n:=k) (List.Mem.tail _ (List.Mem.tail _ (List.Mem.tail _ (List.Mem.tail _ (List.Mem.tail _ (List.Mem.tail _ (List.Mem.tail _ (List.Mem.tail _ (List.Mem.head _)))))))))) (HL11.out.num (v:=lv) (z:=(l:Int)) (n:=k + k + 2) (List.Mem.tail _ (List.Mem.head _))) (by omega) l0).mono ?_
 rintro e w12 ⟨⟨y2,rfl,hy2⟩,hb12⟩
 have HL12:Hid (Lies w w12 [(y2,((d2 / l:Nat):Int),k + 1),(y1,((n / l:Nat):Int),k + k + 3),(lv,(l:Int),k + k + 2),(z,(n:Int),k + k + 2),(m2,(t2:Int),k + k + 1),(m1,(t1:Int),k + k + 1),(v2,(o2:Int),k + 1),(v1,(o1:Int),k + 1),(gv,(g:Int),k),(r2,(d2:Int),k),(p2,(n2:Int),k),(r1,(d1:Int),k),(p1,(n1:Int),k)] [(u,a,k),(v,b,k)]):=(HL11.out.after hb12).addN hy2
 clear hb12 hy2 HL11
 go_wp2_with fail
 with_reducible refine (Tryz.frMul v1 y2 o1 (d2 / l) (k + 1) (k + 1) _ (HL12.out.num (v:=v1) (z:=(o1:Int)) (n:=k + 1) (List.Mem.tail _ (List.Mem.tail _ (List.Mem.tail _ (List.Mem.tail _ (List.Mem.tail _ (List.Mem.tail _ (List.Mem.tail _ (List.Mem.head _))))))))) (HL12.out.num (v:=y2) (z:=((d2 / l:Nat):Int)) (n:=k + 1) (List.Mem.head _)) (by omega) (by omega)).mono ?_
 rintro e w13 ⟨⟨y3,rfl,hy3⟩,hb13⟩
 have HL13:Hid (Lies w w13 [(y3,((o1 * (d2 / l):Nat):Int),k + k + 3),(y2,((d2 / l:Nat):Int),k + 1),(y1,((n / l:Nat):Int),k + k + 3),(lv,(l:Int),k + k + 2),(z,(n:Int),k + k + 2),(m2,(t2:Int),k + k + 1),(m1,(t1:Int),k + k + 1),(v2,(o2:Int),k + 1),(v1,(o1:Int),k + 1),(gv,(g:Int),k),(r2,(d2:Int),k),(p2,(n2:Int),k),(r1,(d1:Int),k),(p1,(n1:Int),k)] [(u,a,k),(v,b,k)]):=(HL12.out.after hb13).addN (hy3.fewer (by omega))
 clear hb13  HL12
 go_wp2_with fail
 with_reducible refine (HF2.out _ y1 y3 (HL13.out.num (v:=y1) (z:=((n / l:Nat):Int)) (n:=k + k + 3) (List.Mem.tail _ (List.Mem.tail _ (List.Mem.head _)))) (HL13.out.num (v:=y3) (z:=((o1 * (d2 / l):Nat):Int)) (n:=k + k + 3) (List.Mem.head _))).mono ?_
 rintro e w14 ⟨⟨r,rfl,hr⟩,hb14⟩
 have HL14:Hid (Lies w w14 [(y3,((o1 * (d2 / l):Nat):Int),k + k + 3),(y2,((d2 / l:Nat):Int),k + 1),(y1,((n / l:Nat):Int),k + k + 3),(lv,(l:Int),k + k + 2),(z,(n:Int),k + k + 2),(m2,(t2:Int),k + k + 1),(m1,(t1:Int),k + k + 1),(v2,(o2:Int),k + 1),(v1,(o1:Int),k + 1),(gv,(g:Int),k),(r2,(d2:Int),k),(p2,(n2:Int),k),(r1,(d1:Int),k),(p1,(n1:Int),k)] [(r,a + c,k + k + 3),(u,a,k),(v,b,k)]):=(HL13.out.after hb14).addF hr
 clear hb14 hr HL13 HF2
 go_wp2
 go_ret
 exact ⟨⟨r,rfl,(HL14.out.frac (v:=r) (q:=a + c) (k:=k + k + 3) (List.Mem.head _))⟩,HL14.out.below⟩
theorem Tryz.frSum (u v:Value) (a b c:Rat) (nb:Bool) (k:Nat) (w:World) (hu:FracIs w u a k) (hv:FracIs w v b k) (hc:c.num = sgn nb b.num.natAbs) (hd:c.den = b.den) (hk:1 ≤ k) (hk9:k ≤ 30000000000) :
 Calls Tryz.prog 87 #[u,v,.bool nb] w fun e w'=>(∃ r,e = .returned r ∧ FracIs w' r (a + c) (k + k + 3)) ∧ Below w.heap.size w w':=by
 have HL0:Hid (Lies w w [] [(u,a,k),(v,b,k)]):=((Lies.start w).addF hv).addF hu
 have HS:Hid (∀ W,FracIs W u a k → FracIs W v b k → Calls Tryz.prog 134 #[u,v,.bool nb] W fun e w'=>ShortIs (a + c) w' e ∧ Below W.heap.size W w'):=fun W h1 h2=>Tryz.frShortSum u v a b c nb k k W h1 h2 hc hd
 have HN:Hid (∀ W,FracIs W u a k → FracIs W v b k → Calls Tryz.prog 135 #[u,v,.bool nb] W fun e w'=>(∃ r,e = .returned r ∧ FracIs w' r (a + c) (k + k + 3)) ∧ Below W.heap.size W w'):=fun W h1 h2=>Tryz.frLongSum u v a b c nb k W h1 h2 hc hd hk hk9
 clear hu hv hc hd
 go_enter Tryz.func87,Tryz.ntmps87
 go_wp2_with fail
 with_reducible refine (HS.out _ (HL0.out.frac (v:=u) (q:=a) (k:=k) (List.Mem.head _)) (HL0.out.frac (v:=v) (q:=b) (k:=k) (List.Mem.tail _ (List.Mem.head _)))).mono ?_
 rintro e w1 ⟨hsh,hb1⟩
 have HL1:Hid (Lies w w1 [] [(u,a,k),(v,b,k)]):=HL0.out.after hb1
 clear hb1 HL0 HS
 rcases hsh with ⟨r,rfl,hr⟩ | rfl
 ·have HR:Hid (FracIs w1 r (a + c) (k + k + 3)):=hr.more (by omega)
  clear hr
  go_wp2
  go_ret
  exact ⟨⟨r,rfl,HR.out⟩,HL1.out.below⟩
 go_wp2_with fail
 with_reducible refine (HN.out _ (HL1.out.frac (v:=u) (q:=a) (k:=k) (List.Mem.head _)) (HL1.out.frac (v:=v) (q:=b) (k:=k) (List.Mem.tail _ (List.Mem.head _)))).mono ?_
 rintro e w2 ⟨⟨r,rfl,hr⟩,hb2⟩
 have HL2:Hid (Lies w w2 [] [(r,a + c,k + k + 3),(u,a,k),(v,b,k)]):=(HL1.out.after hb2).addF hr
 clear hb2 hr HL1 HN
 go_wp2
 go_ret
 exact ⟨⟨r,rfl,(HL2.out.frac (v:=r) (q:=a + c) (k:=k + k + 3) (List.Mem.head _))⟩,HL2.out.below⟩
theorem Tryz.frAdd (u v:Value) (a b:Rat) (k:Nat) (w:World) (hu:FracIs w u a k) (hv:FracIs w v b k) (hk:1 ≤ k) (hk9:k ≤ 30000000000) :
 Calls Tryz.prog 40 #[u,v] w fun e w'=>(∃ r,e = .returned r ∧ FracIs w' r (a + b) (k + k + 3)) ∧ Below w.heap.size w w':=by
 have HL0:Hid (Lies w w [] [(u,a,k),(v,b,k)]):=((Lies.start w).addF hv).addF hu
 obtain ⟨s,hsg⟩:∃ s:Int,b.num.sign = s:=⟨_,rfl⟩
 have HSG:Hid (∀ W,FracIs W v b k → Calls Tryz.prog 64 #[v] W fun e w'=>e = .returned (.int .i64 s) ∧ Below W.heap.size W w'):=fun W h=>by
  have:=Tryz.Sign v b k W h
  rw [hsg] at this
  exact this
 have HS:Hid (∀ W,FracIs W u a k → FracIs W v b k → Calls Tryz.prog 87 #[u,v,.bool (decide (s < 0))] W fun e w'=>(∃ r,e = .returned r ∧ FracIs w' r (a + b) (k + k + 3)) ∧ Below W.heap.size W w'):=fun W h1 h2=>by
  have hsn:decide (s < 0) = decide (b.num < 0):=by rw [← hsg,Bool.eq_iff_iff]; simp [Int.sign_neg_iff]
  exact Tryz.frSum u v a b b (decide (s < 0)) k W h1 h2 (by rw [hsn,sgn_self]) rfl hk hk9
 clear hu hv hsg
 go_enter Tryz.func40,Tryz.ntmps40
 go_wp2_with fail
 with_reducible refine (HSG.out _ (HL0.out.frac (v:=v) (q:=b) (k:=k) (List.Mem.tail _ (List.Mem.head _)))).mono ?_
 rintro e w1 ⟨rfl,hb1⟩
 have HL1:Hid (Lies w w1 [] [(u,a,k),(v,b,k)]):=HL0.out.after hb1
 clear hb1  HL0 HSG
 go_wp2_with fail
 with_reducible refine (HS.out _ (HL1.out.frac (v:=u) (q:=a) (k:=k) (List.Mem.head _)) (HL1.out.frac (v:=v) (q:=b) (k:=k) (List.Mem.tail _ (List.Mem.head _)))).mono ?_
 rintro e w2 ⟨⟨r,rfl,hr⟩,hb2⟩
 have HL2:Hid (Lies w w2 [] [(r,a + b,k + k + 3),(u,a,k),(v,b,k)]):=(HL1.out.after hb2).addF hr
 clear hb2 hr HL1 HS
 go_wp2
 go_ret
 exact ⟨⟨r,rfl,(HL2.out.frac (v:=r) (q:=a + b) (k:=k + k + 3) (List.Mem.head _))⟩,HL2.out.below⟩
end Go.Proofs.Fr
namespace Go.Proofs.Fr
open Go.RowKit Go.Proofs.Wd
theorem sgn_both (a b:Bool) (x y:Nat):sgn a x * sgn b y = sgn (a != b) (x * y):=by
 cases a <;> cases b <;> simp [sgn,Int.natCast_mul,Int.neg_mul,Int.mul_neg]
/-- The parts of a product, its sign told by the signs of both. -/
theorem prod_parts {a b:Rat} {f s:Nat} (hf:f = Nat.gcd a.num.natAbs b.den) (hs:s = Nat.gcd b.num.natAbs a.den) :
 (a * b).num = sgn (a.num.sign != b.num.sign) (a.num.natAbs / f * (b.num.natAbs / s)) ∧ (a * b).den = a.den / s * (b.den / f):=by
 have h:=mul_parts a b hf hs
 refine ⟨?_,h.2⟩
 have ea:a.num / (f:Int) = sgn (decide (a.num < 0)) (a.num.natAbs / f):=by
  rw [← sgn_div _ (by rw [hf]; exact Nat.gcd_dvd_left _ _),sgn_self]
 have eb:b.num / (s:Int) = sgn (decide (b.num < 0)) (b.num.natAbs / s):=by
  rw [← sgn_div _ (by rw [hs]; exact Nat.gcd_dvd_left _ _),sgn_self]
 rw [h.1,ea,eb,sgn_both]
 rcases Int.lt_trichotomy a.num 0 with ha | ha | ha
 ·rcases Int.lt_trichotomy b.num 0 with hb | hb | hb
  ·simp [ha,hb,Int.sign_eq_neg_one_of_neg]
  ·simp [hb,sgn]
  ·rw [Int.sign_eq_neg_one_of_neg ha,Int.sign_eq_one_of_pos hb,decide_eq_true ha,decide_eq_false (by omega:¬ b.num < 0)]; rfl
 ·simp [ha,sgn]
 ·rcases Int.lt_trichotomy b.num 0 with hb | hb | hb
  ·rw [Int.sign_eq_one_of_pos ha,Int.sign_eq_neg_one_of_neg hb,decide_eq_false (by omega:¬ a.num < 0),decide_eq_true hb]; rfl
  ·simp [hb,sgn]
  ·rw [Int.sign_eq_one_of_pos ha,Int.sign_eq_one_of_pos hb,decide_eq_false (by omega:¬ a.num < 0),decide_eq_false (by omega:¬ b.num < 0)]; rfl
theorem Tryz.frTimesX (x y:Nat) (w:World) (hx:x ≤ 18446744073709551615) (hy:y ≤ 18446744073709551615) :
 Calls Tryz.prog 137 #[.int .u64 x,.int .u64 y] w fun e w'=>e = .returned (.tuple #[.int .u64 ((x * y % 18446744073709551616:Nat):Int),.bool (decide (x * y < 18446744073709551616))]) ∧ w' = w:=by
 go_enter Tryz.func137,Tryz.ntmps137
 go_wp2_with fail
 with_reducible refine (Go.Proofs.Tryz.Mul x y _ (by omega) (by omega) (by omega) (by omega)).mono ?_
 rintro e w1 ⟨⟨h,l,he,h0,h1,l0,l1,rfl⟩,rfl⟩
 rw [← Int.natCast_mul] at he
 have HE:Hid (Ending.returned (.tuple #[.int .u64 l,.bool (h == 0)]) = Ending.returned (.tuple #[.int .u64 ((x * y % 18446744073709551616:Nat):Int),.bool (decide (x * y < 18446744073709551616))])):=by
  show _ = _
  generalize x * y = z at *
  have e1:(h == 0) = decide (z < 18446744073709551616):=by rw [Bool.eq_iff_iff]; simp; omega
  have e2:l = ((z % 18446744073709551616:Nat):Int):=by omega
  rw [e1,e2]
 clear he
 go_wp2
 go_ret2
 exact ⟨HE.out,rfl⟩
theorem Tryz.frShortProduct (u v:Value) (a b:Rat) (i j:Nat) (w:World) (hu:FracIs w u a i) (hv:FracIs w v b j) :
 Calls Tryz.prog 88 #[u,v] w fun e w'=>ShortIs (a * b) w' e ∧ Below w.heap.size w w':=by
 have HL0:Hid (Lies w w [] [(u,a,i),(v,b,j)]):=((Lies.start w).addF hv).addF hu
 have HNO:Hid (∀ W,ShortIs (a * b) W (.returned (.tuple #[.pointer none,.bool false]))):=fun W=>.inr rfl
 clear hu hv
 by_cases hs:Short a
 ·by_cases ht:Short b
  ·obtain ⟨n1,hn1⟩:∃ n,a.num.natAbs = n:=⟨_,rfl⟩
   obtain ⟨d1,hd1⟩:∃ n,a.den = n:=⟨_,rfl⟩
   obtain ⟨n2,hn2⟩:∃ n,b.num.natAbs = n:=⟨_,rfl⟩
   obtain ⟨d2,hd2⟩:∃ n,b.den = n:=⟨_,rfl⟩
   have HW1:Hid (∀ W,FracIs W u a i → Calls Tryz.prog 121 #[u] W fun e w'=>e = .returned (.tuple #[.int .u64 n1,.int .u64 d1,.bool true]) ∧ Below W.heap.size W w'):=fun W h=>
    (Tryz.words u a i W h).mono fun e w' h=>⟨by have:=(h.1.resolve_right fun g=>g.1 hs).2; rw [hn1,hd1] at this; exact this,h.2⟩
   have HW2:Hid (∀ W,FracIs W v b j → Calls Tryz.prog 121 #[v] W fun e w'=>e = .returned (.tuple #[.int .u64 n2,.int .u64 d2,.bool true]) ∧ Below W.heap.size W w'):=fun W h=>
    (Tryz.words v b j W h).mono fun e w' h=>⟨by have:=(h.1.resolve_right fun g=>g.1 ht).2; rw [hn2,hd2] at this; exact this,h.2⟩
   obtain ⟨sa,hsa⟩:∃ s:Int,a.num.sign = s:=⟨_,rfl⟩
   obtain ⟨sb,hsb⟩:∃ s:Int,b.num.sign = s:=⟨_,rfl⟩
   have HS1:Hid (∀ W,FracIs W u a i → Calls Tryz.prog 64 #[u] W fun e w'=>e = .returned (.int .i64 sa) ∧ Below W.heap.size W w'):=fun W h=>by
    have:=Tryz.Sign u a i W h
    rw [hsa] at this
    exact this
   have HS2:Hid (∀ W,FracIs W v b j → Calls Tryz.prog 64 #[v] W fun e w'=>e = .returned (.int .i64 sb) ∧ Below W.heap.size W w'):=fun W h=>by
    have:=Tryz.Sign v b j W h
    rw [hsb] at this
    exact this
   obtain ⟨f,hf⟩:∃ g,Nat.gcd n1 d2 = g:=⟨_,rfl⟩
   obtain ⟨s,hsg⟩:∃ g,Nat.gcd n2 d1 = g:=⟨_,rfl⟩
   have d10:0 < d1:=by have:=a.den_pos; omega
   have d20:0 < d2:=by have:=b.den_pos; omega
   have f0:0 < f:=by rw [← hf]; exact Nat.gcd_pos_of_pos_right _ d20
   have s0:0 < s:=by rw [← hsg]; exact Nat.gcd_pos_of_pos_right _ d10
   obtain ⟨n9,d9⟩:=hs
   obtain ⟨m9,e9⟩:=ht
   rw [hn1] at n9
   rw [hd1] at d9
   rw [hn2] at m9
   rw [hd2] at e9
   have HD1:Hid (∀ W,Calls Tryz.prog 136 #[.int .u64 n1,.int .u64 d2] W fun e w'=>e = .returned (.int .u64 f) ∧ Below W.heap.size W w'):=fun W=>by
    have:=Tryz.frDivisor n1 d2 W (by omega) (by omega)
    rw [hf] at this
    exact this
   have HD2:Hid (∀ W,Calls Tryz.prog 136 #[.int .u64 n2,.int .u64 d1] W fun e w'=>e = .returned (.int .u64 s) ∧ Below W.heap.size W w'):=fun W=>by
    have:=Tryz.frDivisor n2 d1 W (by omega) (by omega)
    rw [hsg] at this
    exact this
   obtain ⟨p1,hp1⟩:∃ p,n1 / f = p:=⟨_,rfl⟩
   obtain ⟨p2,hp2⟩:∃ p,n2 / s = p:=⟨_,rfl⟩
   obtain ⟨q1,hq1⟩:∃ p,d1 / s = p:=⟨_,rfl⟩
   obtain ⟨q2,hq2⟩:∃ p,d2 / f = p:=⟨_,rfl⟩
   have p19:p1 ≤ 18446744073709551615:=by have:=Nat.div_le_self n1 f; omega
   have p29:p2 ≤ 18446744073709551615:=by have:=Nat.div_le_self n2 s; omega
   have q19:q1 ≤ 18446744073709551615:=by have:=Nat.div_le_self d1 s; omega
   have q29:q2 ≤ 18446744073709551615:=by have:=Nat.div_le_self d2 f; omega
   have e1:(n1:Int) / (f:Int) = (p1:Int):=by rw [← hp1,Int.natCast_ediv]
   have e2:(n2:Int) / (s:Int) = (p2:Int):=by rw [← hp2,Int.natCast_ediv]
   have e3:(d1:Int) / (s:Int) = (q1:Int):=by rw [← hq1,Int.natCast_ediv]
   have e4:(d2:Int) / (f:Int) = (q2:Int):=by rw [← hq2,Int.natCast_ediv]
   have t1:(n1:Int).tdiv (f:Int) = (p1:Int):=by rw [Int.tdiv_eq_ediv_of_nonneg (by omega),e1]
   have t2:(n2:Int).tdiv (s:Int) = (p2:Int):=by rw [Int.tdiv_eq_ediv_of_nonneg (by omega),e2]
   have t3:(d1:Int).tdiv (s:Int) = (q1:Int):=by rw [Int.tdiv_eq_ediv_of_nonneg (by omega),e3]
   have t4:(d2:Int).tdiv (f:Int) = (q2:Int):=by rw [Int.tdiv_eq_ediv_of_nonneg (by omega),e4]
   have hfz:((f:Int) == 0) = false:=by simp; omega
   have hsz:((s:Int) == 0) = false:=by simp; omega
   have HF:Hid (∀ (n d:Nat) (neg:Bool) (W:World),n ≤ 18446744073709551615 → d ≤ 18446744073709551615 → n = p1 * p2 → d = q1 * q2 → neg = (sa != sb) →
    Calls Tryz.prog 90 #[.bool neg,.int .u64 (n:Int),.int .u64 d] W fun e w'=>(∃ v,e = .returned v ∧ FracIs w' v (a * b) 1) ∧ Below W.heap.size W w'):=by
    intro n d neg W hn9 hd9 hn hd hneg
    have h:=prod_parts (a:=a) (b:=b) (f:=f) (s:=s) (by rw [hn1,hd2]; exact hf.symm) (by rw [hn2,hd1]; exact hsg.symm)
    rw [hsa,hsb,hn1,hn2,hd1,hd2,hp1,hp2,hq1,hq2] at h
    exact Tryz.ofWords neg n d (a * b) W (by rw [h.1,hneg,hn]) (by rw [h.2,hd]) hn9 hd9
   have HE:Hid (∀ W v,FracIs W v (a * b) 1 → ShortIs (a * b) W (.returned (.tuple #[v,.bool true]))):=fun W v h=>.inl ⟨v,rfl,h⟩
   clear hn1 hd1 hn2 hd2 hsa hsb hf hsg hp1 hp2 hq1 hq2
   go_enter Tryz.func88,Tryz.ntmps88
   go_wp2_with fail
   with_reducible refine (HW1.out _ (HL0.out.frac (v:=u) (q:=a) (k:=i) (List.Mem.head _))).mono ?_
   rintro e w1 ⟨rfl,hb1⟩
   have HL1:Hid (Lies w w1 [] [(u,a,i),(v,b,j)]):=HL0.out.after hb1
   clear hb1  HL0 HW1
   go_wp2_with fail
   with_reducible refine (HW2.out _ (HL1.out.frac (v:=v) (q:=b) (k:=j) (List.Mem.tail _ (List.Mem.head _)))).mono ?_
   rintro e w2 ⟨rfl,hb2⟩
   have HL2:Hid (Lies w w2 [] [(u,a,i),(v,b,j)]):=HL1.out.after hb2
   clear hb2  HL1 HW2
   go_wp2_with fail
   with_reducible refine (HD1.out _).mono ?_
   rintro e w3 ⟨rfl,hb3⟩
   have HL3:Hid (Lies w w3 [] [(u,a,i),(v,b,j)]):=HL2.out.after hb3
   clear hb3  HL2 HD1
   go_wp2_with fail
   with_reducible refine (HD2.out _).mono ?_
   rintro e w4 ⟨rfl,hb4⟩
   have HL4:Hid (Lies w w4 [] [(u,a,i),(v,b,j)]):=HL3.out.after hb4
   clear hb4  HL3 HD2
   obtain ⟨m1,hm1⟩:∃ m,p1 * p2 % 18446744073709551616 = m:=⟨_,rfl⟩
   obtain ⟨b1,hb1⟩:∃ b:Bool,decide (p1 * p2 < 18446744073709551616) = b:=⟨_,rfl⟩
   have m19:m1 ≤ 18446744073709551615:=by omega
   have HT1:Hid (∀ W,Calls Tryz.prog 137 #[.int .u64 p1,.int .u64 p2] W fun e w'=>e = .returned (.tuple #[.int .u64 m1,.bool b1]) ∧ w' = W):=fun W=>by
    have:=Tryz.frTimesX p1 p2 W p19 p29
    rw [hm1,hb1] at this
    exact this
   have HM1:Hid (b1 = true → m1 = p1 * p2):=fun h=>by
    rw [h,decide_eq_true_eq] at hb1
    omega
   clear hm1 hb1
   go_wp2_with fail
   go_quiet ((go_at_call 137; exact Calls.quiet_of_same (HT1.out _)))
   have HLq:=Lib.hid (HL4.out.after (belowN (Below.refl _ _) nq))
   clear HL4 HT1
   generalize w4.drewN nq = w5 at *
   have HL5:Hid (Lies w w5 [] [(u,a,i),(v,b,j)]):=HLq
   clear HLq
   obtain ⟨m2,hm2⟩:∃ m,q1 * q2 % 18446744073709551616 = m:=⟨_,rfl⟩
   obtain ⟨b2,hb2⟩:∃ b:Bool,decide (q1 * q2 < 18446744073709551616) = b:=⟨_,rfl⟩
   have m29:m2 ≤ 18446744073709551615:=by omega
   have HT2:Hid (∀ W,Calls Tryz.prog 137 #[.int .u64 q1,.int .u64 q2] W fun e w'=>e = .returned (.tuple #[.int .u64 m2,.bool b2]) ∧ w' = W):=fun W=>by
    have:=Tryz.frTimesX q1 q2 W q19 q29
    rw [hm2,hb2] at this
    exact this
   have HM2:Hid (b2 = true → m2 = q1 * q2):=fun h=>by
    rw [h,decide_eq_true_eq] at hb2
    omega
   clear hm2 hb2
   go_wp2_with fail
   go_quiet ((go_at_call 137; exact Calls.quiet_of_same (HT2.out _)))
   have HLq:=Lib.hid (HL5.out.after (belowN (Below.refl _ _) nq))
   clear HL5 HT2
   generalize w5.drewN nq = w6 at *
   have HL6:Hid (Lies w w6 [] [(u,a,i),(v,b,j)]):=HLq
   clear HLq
   cases b1
   ·go_wp2
    go_ret2
    exact ⟨HNO.out _,HL6.out.below⟩
   cases b2
   ·go_wp2
    go_ret2
    exact ⟨HNO.out _,HL6.out.below⟩
   have HF2:=Lib.hid (fun neg W=>HF.out m1 m2 neg W m19 m29 (HM1.out (by simp)) (HM2.out (by simp)))
   clear HF HM1 HM2
   go_wp2_with fail
   with_reducible refine (HS1.out _ (HL6.out.frac (v:=u) (q:=a) (k:=i) (List.Mem.head _))).mono ?_
   rintro e w7 ⟨rfl,hb7⟩
   have HL7:Hid (Lies w w7 [] [(u,a,i),(v,b,j)]):=HL6.out.after hb7
   clear hb7  HL6 HS1
   go_wp2_with fail
   with_reducible refine (HS2.out _ (HL7.out.frac (v:=v) (q:=b) (k:=j) (List.Mem.tail _ (List.Mem.head _)))).mono ?_
   rintro e w8 ⟨rfl,hb8⟩
   have HL8:Hid (Lies w w8 [] [(u,a,i),(v,b,j)]):=HL7.out.after hb8
   clear hb8  HL7 HS2
   go_wp2_with fail
   with_reducible refine (HF2.out _ _ rfl).mono ?_
   rintro e w9 ⟨⟨r,rfl,hr⟩,hb9⟩
   have HL9:Hid (Lies w w9 [] [(r,a * b,1),(u,a,i),(v,b,j)]):=(HL8.out.after hb9).addF hr
   clear hb9 hr HL8 HF2
   go_wp2
   go_ret2
   exact ⟨HE.out _ r (HL9.out.frac (v:=r) (q:=a * b) (k:=1) (List.Mem.head _)),HL9.out.below⟩
  ·have HW2 : Hid (∀ W, FracIs W v b j → Calls Tryz.prog 121 #[v] W fun e w' => (∃ n d, e = .returned (.tuple #[.int .u64 n, .int .u64 d, .bool false])) ∧ Below W.heap.size W w') := fun W h =>
    (Tryz.words v b j W h).mono fun e w' h=>⟨(h.1.resolve_left fun g=>ht g.1).2,h.2⟩
   have HW1:Hid (∀ W,FracIs W u a i → Calls Tryz.prog 121 #[u] W fun e w'=>(∃ n d,e = .returned (.tuple #[.int .u64 n,.int .u64 d,.bool true])) ∧ Below W.heap.size W w'):=fun W h=>
    (Tryz.words u a i W h).mono fun e w' h=>⟨⟨_,_,(h.1.resolve_right fun g=>g.1 hs).2⟩,h.2⟩
   clear hs ht
   go_enter Tryz.func88,Tryz.ntmps88
   go_wp2_with fail
   with_reducible refine (HW1.out _ (HL0.out.frac (v:=u) (q:=a) (k:=i) (List.Mem.head _))).mono ?_
   rintro e w1 ⟨⟨m1,c1,rfl⟩,hb1⟩
   have HL1:Hid (Lies w w1 [] [(u,a,i),(v,b,j)]):=HL0.out.after hb1
   clear hb1  HL0 HW1
   go_wp2_with fail
   with_reducible refine (HW2.out _ (HL1.out.frac (v:=v) (q:=b) (k:=j) (List.Mem.tail _ (List.Mem.head _)))).mono ?_
   rintro e w2 ⟨⟨m2,c2,rfl⟩,hb2⟩
   have HL2:Hid (Lies w w2 [] [(u,a,i),(v,b,j)]):=HL1.out.after hb2
   clear hb2  HL1 HW2
   go_wp2
   go_ret2
   exact ⟨HNO.out _,HL2.out.below⟩
 ·have HW1 : Hid (∀ W, FracIs W u a i → Calls Tryz.prog 121 #[u] W fun e w' => (∃ n d, e = .returned (.tuple #[.int .u64 n, .int .u64 d, .bool false])) ∧ Below W.heap.size W w') := fun W h =>
   (Tryz.words u a i W h).mono fun e w' h=>⟨(h.1.resolve_left fun g=>hs g.1).2,h.2⟩
  have HW2:Hid (∀ W,FracIs W v b j → Calls Tryz.prog 121 #[v] W fun e w'=>(∃ n d o,e = .returned (.tuple #[.int .u64 n,.int .u64 d,.bool o])) ∧ Below W.heap.size W w'):=fun W h=>
   (Tryz.words v b j W h).mono fun e w' h=>⟨by
    rcases h.1 with ⟨-,h⟩ | ⟨-,n,d,h⟩
    ·exact ⟨_,_,_,h⟩
    ·exact ⟨_,_,_,h⟩,h.2⟩
  clear hs
  go_enter Tryz.func88,Tryz.ntmps88
  go_wp2_with fail
  with_reducible refine (HW1.out _ (HL0.out.frac (v:=u) (q:=a) (k:=i) (List.Mem.head _))).mono ?_
  rintro e w1 ⟨⟨m1,c1,rfl⟩,hb1⟩
  have HL1:Hid (Lies w w1 [] [(u,a,i),(v,b,j)]):=HL0.out.after hb1
  clear hb1  HL0 HW1
  go_wp2_with fail
  with_reducible refine (HW2.out _ (HL1.out.frac (v:=v) (q:=b) (k:=j) (List.Mem.tail _ (List.Mem.head _)))).mono ?_
  rintro e w2 ⟨⟨m2,c2,o,rfl⟩,hb2⟩
  have HL2:Hid (Lies w w2 [] [(u,a,i),(v,b,j)]):=HL1.out.after hb2
  clear hb2  HL1 HW2
  go_wp2
  go_ret2
  exact ⟨HNO.out _,HL2.out.below⟩
theorem Tryz.frLongProduct (u v:Value) (a b:Rat) (k:Nat) (w:World) (hu:FracIs w u a k) (hv:FracIs w v b k) (hk:1 ≤ k) (hk9:k ≤ 30000000000) :
 Calls Tryz.prog 89 #[u,v] w fun e w'=>(∃ r,e = .returned r ∧ FracIs w' r (a * b) (k + k + 2)) ∧ Below w.heap.size w w':=by
 have HL0:Hid (Lies w w [] [(u,a,k),(v,b,k)]):=((Lies.start w).addF hv).addF hu
 obtain ⟨n1,hn1⟩:∃ n,a.num.natAbs = n:=⟨_,rfl⟩
 obtain ⟨d1,hd1⟩:∃ n,a.den = n:=⟨_,rfl⟩
 obtain ⟨n2,hn2⟩:∃ n,b.num.natAbs = n:=⟨_,rfl⟩
 obtain ⟨d2,hd2⟩:∃ n,b.den = n:=⟨_,rfl⟩
 have HN1:Hid (∀ W,FracIs W u a k → Calls Tryz.prog 63 #[u] W fun e w'=>(∃ p r,e = .returned (.tuple #[p,r]) ∧ Num w' p (n1:Int) k ∧ Num w' r (d1:Int) k) ∧ Below W.heap.size W w'):=fun W h=>by
  have:=Tryz.nats u a k W h hk
  rw [hn1,hd1] at this
  exact this
 have HN2:Hid (∀ W,FracIs W v b k → Calls Tryz.prog 63 #[v] W fun e w'=>(∃ p r,e = .returned (.tuple #[p,r]) ∧ Num w' p (n2:Int) k ∧ Num w' r (d2:Int) k) ∧ Below W.heap.size W w'):=fun W h=>by
  have:=Tryz.nats v b k W h hk
  rw [hn2,hd2] at this
  exact this
 obtain ⟨sa,hsa⟩:∃ s:Int,a.num.sign = s:=⟨_,rfl⟩
 obtain ⟨sb,hsb⟩:∃ s:Int,b.num.sign = s:=⟨_,rfl⟩
 have HS1:Hid (∀ W,FracIs W u a k → Calls Tryz.prog 64 #[u] W fun e w'=>e = .returned (.int .i64 sa) ∧ Below W.heap.size W w'):=fun W h=>by
  have:=Tryz.Sign u a k W h
  rw [hsa] at this
  exact this
 have HS2:Hid (∀ W,FracIs W v b k → Calls Tryz.prog 64 #[v] W fun e w'=>e = .returned (.int .i64 sb) ∧ Below W.heap.size W w'):=fun W h=>by
  have:=Tryz.Sign v b k W h
  rw [hsb] at this
  exact this
 obtain ⟨f,hf⟩:∃ g,Nat.gcd n1 d2 = g:=⟨_,rfl⟩
 obtain ⟨s,hsg⟩:∃ g,Nat.gcd n2 d1 = g:=⟨_,rfl⟩
 have d10:0 < d1:=by have:=a.den_pos; omega
 have d20:0 < d2:=by have:=b.den_pos; omega
 have f0:1 ≤ f:=by rw [← hf]; exact Nat.gcd_pos_of_pos_right _ d20
 have s0:1 ≤ s:=by rw [← hsg]; exact Nat.gcd_pos_of_pos_right _ d10
 have HG1:Hid (∀ W p r,Num W p (n1:Int) k → Num W r (d2:Int) k → Calls Tryz.prog 138 #[p,r] W fun e w'=>(∃ x,e = .returned x ∧ Num w' x (f:Int) k) ∧ Below W.heap.size W w'):=fun W p r h1 h2=>by
  have h:=Tryz.frGcd p r n1 d2 k k W h1 h2 (by omega) (by omega)
  rw [hf,Nat.max_self] at h
  exact h
 have HG2:Hid (∀ W p r,Num W p (n2:Int) k → Num W r (d1:Int) k → Calls Tryz.prog 138 #[p,r] W fun e w'=>(∃ x,e = .returned x ∧ Num w' x (s:Int) k) ∧ Below W.heap.size W w'):=fun W p r h1 h2=>by
  have h:=Tryz.frGcd p r n2 d1 k k W h1 h2 (by omega) (by omega)
  rw [hsg,Nat.max_self] at h
  exact h
 obtain ⟨p1,hp1⟩:∃ p,n1 / f = p:=⟨_,rfl⟩
 obtain ⟨p2,hp2⟩:∃ p,n2 / s = p:=⟨_,rfl⟩
 obtain ⟨q1,hq1⟩:∃ p,d1 / s = p:=⟨_,rfl⟩
 obtain ⟨q2,hq2⟩:∃ p,d2 / f = p:=⟨_,rfl⟩
 have HO:Hid (∀ (z y x:Nat) W p r,z / y = x → 1 ≤ y → Num W p (z:Int) k → Num W r (y:Int) k → Calls Tryz.prog 139 #[p,r] W fun e w'=>(∃ v,e = .returned v ∧ Num w' v (x:Int) (k + 1)) ∧ Below W.heap.size W w'):=fun z y x W p r hx hy h1 h2=>by
  have h:=Tryz.frOver p r z y k k W h1 h2 (by omega) hy
  rw [hx] at h
  exact h
 have HM:Hid (∀ (z y:Nat) W p r,Num W p (z:Int) (k + 1) → Num W r (y:Int) (k + 1) → Calls Tryz.prog 132 #[p,r] W fun e w'=>(∃ v,e = .returned v ∧ Num w' v ((z * y:Nat):Int) (k + k + 2)) ∧ Below W.heap.size W w'):=fun z y W p r h1 h2=>by
  have h:=Tryz.frMul p r z y (k + 1) (k + 1) W h1 h2 (by omega) (by omega)
  rw [show k + 1 + (k + 1) = k + k + 2 by omega] at h
  exact h
 have HF:Hid (∀ (neg:Bool) (W:World) (x y:Value),neg = (sa != sb) → Num W x ((p1 * p2:Nat):Int) (k + k + 2) → Num W y ((q1 * q2:Nat):Int) (k + k + 2) →
  Calls Tryz.prog 100 #[.bool neg,x,y] W fun e w'=>(∃ v,e = .returned v ∧ FracIs w' v (a * b) (k + k + 2)) ∧ Below W.heap.size W w'):=by
  intro neg W x y hneg hx hy
  have h:=prod_parts (a:=a) (b:=b) (f:=f) (s:=s) (by rw [hn1,hd2]; exact hf.symm) (by rw [hn2,hd1]; exact hsg.symm)
  rw [hsa,hsb,hn1,hn2,hd1,hd2,hp1,hp2,hq1,hq2] at h
  exact Tryz.ofNats neg x y (p1 * p2) (q1 * q2) (a * b) (k + k + 2) W hx hy (by rw [h.1,hneg]) h.2 (by omega)
 have HP1:=Lib.hid hp1
 have HP2:=Lib.hid hp2
 have HQ1:=Lib.hid hq1
 have HQ2:=Lib.hid hq2
 clear hn1 hd1 hn2 hd2 hsa hsb hf hsg hp1 hp2 hq1 hq2 hu hv
 go_enter Tryz.func89,Tryz.ntmps89
 go_wp2_with fail
 with_reducible refine (HN1.out _ (HL0.out.frac (v:=u) (q:=a) (k:=k) (List.Mem.head _))).mono ?_
 rintro e w1 ⟨⟨x1,r1,rfl,hx1,hr1⟩,hb1⟩
 have HL1:Hid (Lies w w1 [(r1,(d1:Int),k),(x1,(n1:Int),k)] [(u,a,k),(v,b,k)]):=((HL0.out.after hb1).addN hx1).addN hr1
 clear hb1 hx1 hr1 HL0 HN1
 go_wp2_with fail
 with_reducible refine (HN2.out _ (HL1.out.frac (v:=v) (q:=b) (k:=k) (List.Mem.tail _ (List.Mem.head _)))).mono ?_
 rintro e w2 ⟨⟨x2,r2,rfl,hx2,hr2⟩,hb2⟩
 have HL2:Hid (Lies w w2 [(r2,(d2:Int),k),(x2,(n2:Int),k),(r1,(d1:Int),k),(x1,(n1:Int),k)] [(u,a,k),(v,b,k)]):=((HL1.out.after hb2).addN hx2).addN hr2
 clear hb2 hx2 hr2 HL1 HN2
 go_wp2_with fail
 with_reducible refine (HG1.out _ x1 r2 (HL2.out.num (v:=x1) (z:=(n1:Int)) (n:=k) (List.Mem.tail _ (List.Mem.tail _ (List.Mem.tail _ (List.Mem.head _))))) (HL2.out.num (v:=r2) (z:=(d2:Int)) (n:=k) (List.Mem.head _))).mono ?_
 rintro e w3 ⟨⟨fv,rfl,hfv⟩,hb3⟩
 have HL3:Hid (Lies w w3 [(fv,(f:Int),k),(r2,(d2:Int),k),(x2,(n2:Int),k),(r1,(d1:Int),k),(x1,(n1:Int),k)] [(u,a,k),(v,b,k)]):=(HL2.out.after hb3).addN hfv
 clear hb3 hfv HL2 HG1
 go_wp2_with fail
 with_reducible refine (HG2.out _ x2 r1 (HL3.out.num (v:=x2) (z:=(n2:Int)) (n:=k) (List.Mem.tail _ (List.Mem.tail _ (List.Mem.head _)))) (HL3.out.num (v:=r1) (z:=(d1:Int)) (n:=k) (List.Mem.tail _ (List.Mem.tail _ (List.Mem.tail _ (List.Mem.head _)))))).mono ?_
 rintro e w4 ⟨⟨sv,rfl,hsv⟩,hb4⟩
 have HL4:Hid (Lies w w4 [(sv,(s:Int),k),(fv,(f:Int),k),(r2,(d2:Int),k),(x2,(n2:Int),k),(r1,(d1:Int),k),(x1,(n1:Int),k)] [(u,a,k),(v,b,k)]):=(HL3.out.after hb4).addN hsv
 clear hb4 hsv HL3 HG2
 go_wp2_with fail
 with_reducible refine (HO.out n1 f p1 _ x1 fv HP1.out f0 (HL4.out.num (v:=x1) (z:=(n1:Int)) (n:=k) (List.Mem.tail _ (List.Mem.tail _ (List.Mem.tail _ (List.Mem.tail _ (List.Mem.tail _ (List.Mem.head _))))))) (HL4.out.num (v:=fv) (z:=(f:Int)) (n:=k) (List.Mem.tail _ (List.Mem.head _)))).mono ?_
 rintro e w5 ⟨⟨y1,rfl,hy1⟩,hb5⟩
 have HL5:Hid (Lies w w5 [(y1,(p1:Int),k + 1),(sv,(s:Int),k),(fv,(f:Int),k),(r2,(d2:Int),k),(x2,(n2:Int),k),(r1,(d1:Int),k),(x1,(n1:Int),k)] [(u,a,k),(v,b,k)]):=(HL4.out.after hb5).addN hy1
 clear hb5 hy1 HL4
 go_wp2_with fail
 with_reducible refine (HO.out n2 s p2 _ x2 sv HP2.out s0 (HL5.out.num (v:=x2) (z:=(n2:Int)) (n:=k) (List.Mem.tail _ (List.Mem.tail _ (List.Mem.tail _ (List.Mem.tail _ (List.Mem.head _)))))) (HL5.out.num (v:=sv) (z:=(s:Int)) (n:=k) (List.Mem.tail _ (List.Mem.head _)))).mono ?_
 rintro e w6 ⟨⟨y2,rfl,hy2⟩,hb6⟩
 have HL6:Hid (Lies w w6 [(y2,(p2:Int),k + 1),(y1,(p1:Int),k + 1),(sv,(s:Int),k),(fv,(f:Int),k),(r2,(d2:Int),k),(x2,(n2:Int),k),(r1,(d1:Int),k),(x1,(n1:Int),k)] [(u,a,k),(v,b,k)]):=(HL5.out.after hb6).addN hy2
 clear hb6 hy2 HL5
 go_wp2_with fail
 with_reducible refine (HM.out p1 p2 _ y1 y2 (HL6.out.num (v:=y1) (z:=(p1:Int)) (n:=k + 1) (List.Mem.tail _ (List.Mem.head _))) (HL6.out.num (v:=y2) (z:=(p2:Int)) (n:=k + 1) (List.Mem.head _))).mono ?_
 rintro e w7 ⟨⟨m1,rfl,hm1⟩,hb7⟩
 have HL7:Hid (Lies w w7 [(m1,((p1 * p2:Nat):Int),k + k + 2),(y2,(p2:Int),k + 1),(y1,(p1:Int),k + 1),(sv,(s:Int),k),(fv,(f:Int),k),(r2,(d2:Int),k),(x2,(n2:Int),k),(r1,(d1:Int),k),(x1,(n1:Int),k)] [(u,a,k),(v,b,k)]):=(HL6.out.after hb7).addN hm1
 clear hb7 hm1 HL6
 go_wp2_with fail
 with_reducible refine (HO.out d1 s q1 _ r1 sv HQ1.out s0 (HL7.out.num (v:=r1) (z:=(d1:Int)) (n:=k) (List.Mem.tail _ (List.Mem.tail _ (List.Mem.tail _ (List.Mem.tail _ (List.Mem.tail _ (List.Mem.tail _ (List.Mem.tail _ (List.Mem.head _))))))))) (HL7.out.num (v:=sv) (z:=(s:Int)) (n:=k) (List.Mem.tail _ (List.Mem.tail _ (List.Mem.tail _ (List.Mem.head _)))))).mono ?_
 rintro e w8 ⟨⟨z1,rfl,hz1⟩,hb8⟩
 have HL8:Hid (Lies w w8 [(z1,(q1:Int),k + 1),(m1,((p1 * p2:Nat):Int),k + k + 2),(y2,(p2:Int),k + 1),(y1,(p1:Int),k + 1),(sv,(s:Int),k),(fv,(f:Int),k),(r2,(d2:Int),k),(x2,(n2:Int),k),(r1,(d1:Int),k),(x1,(n1:Int),k)] [(u,a,k),(v,b,k)]):=(HL7.out.after hb8).addN hz1
 clear hb8 hz1 HL7
 go_wp2_with fail
 with_reducible refine (HO.out d2 f q2 _ r2 fv HQ2.out f0 (HL8.out.num (v:=r2) (z:=(d2:Int)) (n:=k) (List.Mem.tail _ (List.Mem.tail _ (List.Mem.tail _ (List.Mem.tail _ (List.Mem.tail _ (List.Mem.tail _ (List.Mem.head _)))))))) (HL8.out.num (v:=fv) (z:=(f:Int)) (n:=k) (List.Mem.tail _ (List.Mem.tail _ (List.Mem.tail _ (List.Mem.tail _ (List.Mem.tail _ (List.Mem.head _)))))))).mono ?_
 rintro e w9 ⟨⟨z2,rfl,hz2⟩,hb9⟩
 have HL9:Hid (Lies w w9 [(z2,(q2:Int),k + 1),(z1,(q1:Int),k + 1),(m1,((p1 * p2:Nat):Int),k + k + 2),(y2,(p2:Int),k + 1),(y1,(p1:Int),k + 1),(sv,(s:Int),k),(fv,(f:Int),k),(r2,(d2:Int),k),(x2,(n2:Int),k),(r1,(d1:Int),k),(x1,(n1:Int),k)] [(u,a,k),(v,b,k)]):=(HL8.out.after hb9).addN hz2
 clear hb9 hz2 HL8
 go_wp2_with fail
 with_reducible refine (HM.out q1 q2 _ z1 z2 (HL9.out.num (v:=z1) (z:=(q1:Int)) (n:=k + 1) (List.Mem.tail _ (List.Mem.head _))) (HL9.out.num (v:=z2) (z:=(q2:Int)) (n:=k + 1) (List.Mem.head _))).mono ?_
 rintro e w10 ⟨⟨m2,rfl,hm2⟩,hb10⟩
 have HL10:Hid (Lies w w10 [(m2,((q1 * q2:Nat):Int),k + k + 2),(z2,(q2:Int),k + 1),(z1,(q1:Int),k + 1),(m1,((p1 * p2:Nat):Int),k + k + 2),(y2,(p2:Int),k + 1),(y1,(p1:Int),k + 1),(sv,(s:Int),k),(fv,(f:Int),k),(r2,(d2:Int),k),(x2,(n2:Int),k),(r1,(d1:Int),k),(x1,(n1:Int),k)] [(u,a,k),(v,b,k)]):=(HL9.out.after hb10).addN hm2
 clear hb10 hm2 HL9
 go_wp2_with fail
 with_reducible refine (HS1.out _ (HL10.out.frac (v:=u) (q:=a) (k:=k) (List.Mem.head _))).mono ?_
 rintro e w11 ⟨rfl,hb11⟩
 have HL11:Hid (Lies w w11 [(m2,((q1 * q2:Nat):Int),k + k + 2),(z2,(q2:Int),k + 1),(z1,(q1:Int),k + 1),(m1,((p1 * p2:Nat):Int),k + k + 2),(y2,(p2:Int),k + 1),(y1,(p1:Int),k + 1),(sv,(s:Int),k),(fv,(f:Int),k),(r2,(d2:Int),k),(x2,(n2:Int),k),(r1,(d1:Int),k),(x1,(n1:Int),k)] [(u,a,k),(v,b,k)]):=HL10.out.after hb11
 clear hb11  HL10 HS1
 go_wp2_with fail
 with_reducible refine (HS2.out _ (HL11.out.frac (v:=v) (q:=b) (k:=k) (List.Mem.tail _ (List.Mem.head _)))).mono ?_
 rintro e w12 ⟨rfl,hb12⟩
 have HL12:Hid (Lies w w12 [(m2,((q1 * q2:Nat):Int),k + k + 2),(z2,(q2:Int),k + 1),(z1,(q1:Int),k + 1),(m1,((p1 * p2:Nat):Int),k + k + 2),(y2,(p2:Int),k + 1),(y1,(p1:Int),k + 1),(sv,(s:Int),k),(fv,(f:Int),k),(r2,(d2:Int),k),(x2,(n2:Int),k),(r1,(d1:Int),k),(x1,(n1:Int),k)] [(u,a,k),(v,b,k)]):=HL11.out.after hb12
 clear hb12  HL11 HS2
 go_wp2_with fail
 with_reducible refine (HF.out _ _ m1 m2 rfl (HL12.out.num (v:=m1) (z:=((p1 * p2:Nat):Int)) (n:=k + k + 2) (List.Mem.tail _ (List.Mem.tail _ (List.Mem.tail _ (List.Mem.head _))))) (HL12.out.num (v:=m2) (z:=((q1 * q2:Nat):Int)) (n:=k + k + 2) (List.Mem.head _))).mono ?_
 rintro e w13 ⟨⟨r,rfl,hr⟩,hb13⟩
 have HL13:Hid (Lies w w13 [(m2,((q1 * q2:Nat):Int),k + k + 2),(z2,(q2:Int),k + 1),(z1,(q1:Int),k + 1),(m1,((p1 * p2:Nat):Int),k + k + 2),(y2,(p2:Int),k + 1),(y1,(p1:Int),k + 1),(sv,(s:Int),k),(fv,(f:Int),k),(r2,(d2:Int),k),(x2,(n2:Int),k),(r1,(d1:Int),k),(x1,(n1:Int),k)] [(r,a * b,k + k + 2),(u,a,k),(v,b,k)]):=(HL12.out.after hb13).addF hr
 clear hb13 hr HL12 HF
 go_wp2
 go_ret
 exact ⟨⟨r,rfl,(HL13.out.frac (v:=r) (q:=a * b) (k:=k + k + 2) (List.Mem.head _))⟩,HL13.out.below⟩
theorem Tryz.frMulF (u v:Value) (a b:Rat) (k:Nat) (w:World) (hu:FracIs w u a k) (hv:FracIs w v b k) (hk:1 ≤ k) (hk9:k ≤ 30000000000) :
 Calls Tryz.prog 41 #[u,v] w fun e w'=>(∃ r,e = .returned r ∧ FracIs w' r (a * b) (k + k + 2)) ∧ Below w.heap.size w w':=by
 have HL0:Hid (Lies w w [] [(u,a,k),(v,b,k)]):=((Lies.start w).addF hv).addF hu
 clear hu hv
 go_enter Tryz.func41,Tryz.ntmps41
 go_wp2_with fail
 with_reducible refine (Tryz.frShortProduct u v a b k k _ (HL0.out.frac (v:=u) (q:=a) (k:=k) (List.Mem.head _)) (HL0.out.frac (v:=v) (q:=b) (k:=k) (List.Mem.tail _ (List.Mem.head _)))).mono ?_
 rintro e w1 ⟨hsh,hb1⟩
 have HL1:Hid (Lies w w1 [] [(u,a,k),(v,b,k)]):=HL0.out.after hb1
 clear hb1 HL0
 rcases hsh with ⟨r,rfl,hr⟩ | rfl
 ·have HR:Hid (FracIs w1 r (a * b) (k + k + 2)):=hr.more (by omega)
  clear hr
  go_wp2
  go_ret
  exact ⟨⟨r,rfl,HR.out⟩,HL1.out.below⟩
 go_wp2_with fail
 with_reducible refine (Tryz.frLongProduct u v a b k _ (HL1.out.frac (v:=u) (q:=a) (k:=k) (List.Mem.head _)) (HL1.out.frac (v:=v) (q:=b) (k:=k) (List.Mem.tail _ (List.Mem.head _))) hk hk9).mono ?_
 rintro e w2 ⟨⟨r,rfl,hr⟩,hb2⟩
 have HL2:Hid (Lies w w2 [] [(r,a * b,k + k + 2),(u,a,k),(v,b,k)]):=(HL1.out.after hb2).addF hr
 clear hb2 hr HL1
 go_wp2
 go_ret
 exact ⟨⟨r,rfl,(HL2.out.frac (v:=r) (q:=a * b) (k:=k + k + 2) (List.Mem.head _))⟩,HL2.out.below⟩
end Go.Proofs.Fr
namespace Go.Proofs.Fr
open Go.RowKit Go.Proofs.Wd
theorem Tryz.cmpOr (B:Nat) (x y:Int) (w:World) (h0:w.cell? ⟨B,0,none⟩ = some (.int .i64 x)) (h1:w.cell? ⟨B,1,none⟩ = some (.int .i64 y)) :
 Calls Tryz.prog 130 #[.slice (some ⟨B,0,none⟩) 2 2] w fun e w'=>e = .returned (.int .i64 (if x = 0 then y else x)) ∧ w' = w:=by
 go_enter Tryz.func130,Tryz.ntmps130
 go_wp2
 go_loop [5,8] (fun v i=>∃ k:Nat,k ≤ 2 ∧ i = .int .i64 k ∧ (k = 0 ∨ x = 0) ∧ (k ≤ 1 ∨ y = 0)) (fun _ i=>2 - (intOf i).toNat)
 case atStart=>exact ⟨0,by omega,rfl,.inl rfl,.inl (by omega)⟩
 case round=>
  obtain ⟨k,hk,rfl,hx,hy⟩:=hrel
  obtain rfl | rfl | rfl:k = 0 ∨ k = 1 ∨ k = 2:=by omega
  ·by_cases h:x = 0
   ·subst h
    go_wp2
    exact ⟨⟨1,by omega,rfl,.inr (by simp),.inl (by omega)⟩,by simp [intOf]⟩
   ·have e1:(x != 0) = true:=by simpa using h
    have e2:(x == 0) = false:=by simpa using h
    go_wp2
    go_ret
    exact ⟨rfl,rfl⟩
  ·obtain rfl:x = 0:=hx.resolve_left (by omega)
   by_cases h:y = 0
   ·subst h
    go_wp2
    exact ⟨⟨2,by omega,rfl,.inr (by simp),.inr (by simp)⟩,by simp [intOf]⟩
   ·have e1:(y != 0) = true:=by simpa using h
    have e2:(y == 0) = false:=by simpa using h
    go_wp2
    go_ret
    first | exact ⟨rfl,rfl⟩ | exact ⟨by simp,rfl⟩
  ·obtain rfl:x = 0:=hx.resolve_left (by omega)
   obtain rfl:y = 0:=hy.resolve_left (by omega)
   go_wp2
   go_ret
   first | exact ⟨rfl,rfl⟩ | exact ⟨by simp,rfl⟩
theorem cmpI_two {h1 l1 h2 l2 x y:Int} (hx:x = h1 * 18446744073709551616 + l1) (hy:y = h2 * 18446744073709551616 + l2) (a0:0 ≤ l1) (a1:l1 ≤ 18446744073709551615) (b0:0 ≤ l2) (b1:l2 ≤ 18446744073709551615) :
 (if cmpI h1 h2 = 0 then cmpI l1 l2 else cmpI h1 h2) = cmpI x y:=by
 subst hx; subst hy
 unfold cmpI
 by_cases c1:h1 < h2
 ·rw [if_pos c1,if_neg (by decide),if_pos (by omega)]
 ·by_cases c2:h1 = h2
  ·subst c2
   have e:∀ a b:Int,(h1 * 18446744073709551616 + a < h1 * 18446744073709551616 + b) = (a < b):=fun a b=>by rw [eq_iff_iff]; omega
   simp [e]
  ·repeat' split
   all_goals first | rfl | (exfalso; omega)
/-- The order of two fractions. -/
def ordQ (a b:Rat):Int:=cmpI (a.num * b.den) (b.num * a.den)
theorem cmpI_zero {a b:Int}:cmpI a b = 0 ↔ a = b:=by
 unfold cmpI
 constructor
 ·intro h
  repeat' split at h
  all_goals first | omega | (exact absurd h (by decide))
 ·rintro rfl; simp
theorem ordQ_zero {a b:Rat}:ordQ a b = 0 ↔ a = b:=by
 unfold ordQ
 rw [cmpI_zero,Rat.eq_iff_mul_eq_mul]
theorem cmpI_three (a b : Int) : cmpI a b = -1 ∨ cmpI a b = 0 ∨ cmpI a b = 1 := by unfold cmpI; repeat' split
                                                                                   all_goals simp
theorem ordQ_signs {a b:Rat} (h:a.num.sign ≠ b.num.sign):cmpI a.num.sign b.num.sign = ordQ a b:=by
 have ha:=a.den_pos
 have hb:=b.den_pos
 have key:∀ x y:Int,∀ m n:Nat,0 < m → 0 < n → x.sign ≠ y.sign → cmpI x.sign y.sign = cmpI (x * n) (y * m):=by
  intro x y m n hm hn hs
  have m0:(0:Int) < m:=by omega
  have n0:(0:Int) < n:=by omega
  have lt:x.sign < y.sign → x * n < y * m:=by
   intro h
   rcases Int.lt_trichotomy x 0 with hx | rfl | hx
   ·rcases Int.lt_trichotomy y 0 with hy | rfl | hy
    ·rw [Int.sign_eq_neg_one_of_neg hx,Int.sign_eq_neg_one_of_neg hy] at h; omega
    ·have:=Int.mul_neg_of_neg_of_pos hx n0; omega
    ·have h1:=Int.mul_neg_of_neg_of_pos hx n0
     have h2:=Int.mul_pos hy m0; omega
   ·rcases Int.lt_trichotomy y 0 with hy | rfl | hy
    ·rw [Int.sign_eq_neg_one_of_neg hy] at h; simp at h
    ·simp at h
    ·have h2:=Int.mul_pos hy m0; omega
   ·rcases Int.lt_trichotomy y 0 with hy | rfl | hy
    ·rw [Int.sign_eq_one_of_pos hx,Int.sign_eq_neg_one_of_neg hy] at h; omega
    ·rw [Int.sign_eq_one_of_pos hx] at h; simp at h
    ·rw [Int.sign_eq_one_of_pos hx,Int.sign_eq_one_of_pos hy] at h; omega
  have gt:y.sign < x.sign → y * m < x * n:=by
   intro h
   rcases Int.lt_trichotomy y 0 with hx | rfl | hx
   ·rcases Int.lt_trichotomy x 0 with hy | rfl | hy
    ·rw [Int.sign_eq_neg_one_of_neg hx,Int.sign_eq_neg_one_of_neg hy] at h; omega
    ·have:=Int.mul_neg_of_neg_of_pos hx m0; omega
    ·have h1:=Int.mul_neg_of_neg_of_pos hx m0
     have h2:=Int.mul_pos hy n0; omega
   ·rcases Int.lt_trichotomy x 0 with hy | rfl | hy
    ·rw [Int.sign_eq_neg_one_of_neg hy] at h; simp at h
    ·simp at h
    ·have h2:=Int.mul_pos hy n0; omega
   ·rcases Int.lt_trichotomy x 0 with hy | rfl | hy
    ·rw [Int.sign_eq_one_of_pos hx,Int.sign_eq_neg_one_of_neg hy] at h; omega
    ·rw [Int.sign_eq_one_of_pos hx] at h; simp at h
    ·rw [Int.sign_eq_one_of_pos hx,Int.sign_eq_one_of_pos hy] at h; omega
  unfold cmpI
  by_cases c:x.sign < y.sign
  ·rw [if_pos c,if_pos (lt c)]
  ·have c2:y.sign < x.sign:=by omega
   have:=gt c2
   rw [if_neg c,if_pos c2,if_neg (by omega),if_pos this]
 exact key _ _ _ _ ha hb h
theorem ordQ_size {a b:Rat} (h:a.num.sign = b.num.sign):a.num.sign * cmpI (a.num.natAbs * b.den) (b.num.natAbs * a.den) = ordQ a b:=by
 unfold ordQ
 rcases Int.lt_trichotomy a.num 0 with ha | ha | ha
 ·have hb : b.num < 0 := by
   rw [Int.sign_eq_neg_one_of_neg ha] at h
   exact Int.sign_eq_neg_one_iff_neg.1 h.symm
  have e1:(a.num.natAbs:Int) = -a.num:=by omega
  have e2:(b.num.natAbs:Int) = -b.num:=by omega
  rw [Int.sign_eq_neg_one_of_neg ha,e1,e2,Int.neg_mul a.num,Int.neg_mul b.num]
  generalize a.num * b.den = x
  generalize b.num * a.den = y
  unfold cmpI
  repeat' split
  all_goals first | rfl | omega
 ·have hb : b.num = 0 := by
   rw [ha] at h
   exact Int.sign_eq_zero_iff_zero.1 h.symm
  rw [ha,hb]; simp [cmpI]
 ·have hb : 0 < b.num := by
   rw [Int.sign_eq_one_of_pos ha] at h
   exact Int.sign_eq_one_iff_pos.1 h.symm
  have e1:(a.num.natAbs:Int) = a.num:=by omega
  have e2:(b.num.natAbs:Int) = b.num:=by omega
  rw [Int.sign_eq_one_of_pos ha,e1,e2,Int.one_mul]
/-- What shortCompare tells. -/
def ShortCmp (c:Int) (e:Ending):Prop:=e = .returned (.tuple #[.int .i64 c,.bool true]) ∨ e = .returned (.tuple #[.int .i64 0,.bool false])
theorem Tryz.frShortCompare (u v:Value) (a b:Rat) (i j:Nat) (w:World) (hu:FracIs w u a i) (hv:FracIs w v b j) :
 Calls Tryz.prog 85 #[u,v] w fun e w'=>ShortCmp (cmpI (a.num.natAbs * b.den) (b.num.natAbs * a.den)) e ∧ Below w.heap.size w w':=by
 have HL0:Hid (Lies w w [] [(u,a,i),(v,b,j)]):=((Lies.start w).addF hv).addF hu
 obtain ⟨c,hc⟩:∃ c,cmpI (a.num.natAbs * b.den) (b.num.natAbs * a.den) = c:=⟨_,rfl⟩
 rw [hc]
 have HNO:Hid (ShortCmp c (.returned (.tuple #[.int .i64 0,.bool false]))):=.inr rfl
 have HE:Hid (ShortCmp c (.returned (.tuple #[.int .i64 c,.bool true]))):=.inl rfl
 clear hu hv
 by_cases hs:Short a
 ·by_cases ht:Short b
  ·obtain ⟨n1,hn1⟩:∃ n,a.num.natAbs = n:=⟨_,rfl⟩
   obtain ⟨d1,hd1⟩:∃ n,a.den = n:=⟨_,rfl⟩
   obtain ⟨n2,hn2⟩:∃ n,b.num.natAbs = n:=⟨_,rfl⟩
   obtain ⟨d2,hd2⟩:∃ n,b.den = n:=⟨_,rfl⟩
   have HW1:Hid (∀ W,FracIs W u a i → Calls Tryz.prog 121 #[u] W fun e w'=>e = .returned (.tuple #[.int .u64 n1,.int .u64 d1,.bool true]) ∧ Below W.heap.size W w'):=fun W h=>
    (Tryz.words u a i W h).mono fun e w' h=>⟨by have:=(h.1.resolve_right fun g=>g.1 hs).2; rw [hn1,hd1] at this; exact this,h.2⟩
   have HW2:Hid (∀ W,FracIs W v b j → Calls Tryz.prog 121 #[v] W fun e w'=>e = .returned (.tuple #[.int .u64 n2,.int .u64 d2,.bool true]) ∧ Below W.heap.size W w'):=fun W h=>
    (Tryz.words v b j W h).mono fun e w' h=>⟨by have:=(h.1.resolve_right fun g=>g.1 ht).2; rw [hn2,hd2] at this; exact this,h.2⟩
   obtain ⟨n9,d9⟩:=hs
   obtain ⟨m9,e9⟩:=ht
   rw [hn1] at n9
   rw [hd1] at d9
   rw [hn2] at m9
   rw [hd2] at e9
   rw [hn1,hn2,hd1,hd2] at hc
   have HC:Hid (cmpI ((n1:Int) * (d2:Int)) ((n2:Int) * (d1:Int)) = c):=hc
   clear hn1 hd1 hn2 hd2 hc
   go_enter Tryz.func85,Tryz.ntmps85
   go_wp2_with fail
   with_reducible refine (HW1.out _ (HL0.out.frac (v:=u) (q:=a) (k:=i) (List.Mem.head _))).mono ?_
   rintro e w1 ⟨rfl,hb1⟩
   have HL1:Hid (Lies w w1 [] [(u,a,i),(v,b,j)]):=HL0.out.after hb1
   clear hb1  HL0 HW1
   go_wp2_with fail
   with_reducible refine (HW2.out _ (HL1.out.frac (v:=v) (q:=b) (k:=j) (List.Mem.tail _ (List.Mem.head _)))).mono ?_
   rintro e w2 ⟨rfl,hb2⟩
   have HL2:Hid (Lies w w2 [] [(u,a,i),(v,b,j)]):=HL1.out.after hb2
   clear hb2  HL1 HW2
   go_wp2_with fail
   with_reducible refine (Go.Proofs.Tryz.Mul n1 d2 _ (by omega) (by omega) (by omega) (by omega)).mono ?_
   rintro e w3 ⟨⟨h1,l1,he1,h10,h11,l10,l11,rfl⟩,rfl⟩
   have HE1:=Lib.hid he1
   clear he1
   go_wp2_with fail
   with_reducible refine (Go.Proofs.Tryz.Mul n2 d1 _ (by omega) (by omega) (by omega) (by omega)).mono ?_
   rintro e w4 ⟨⟨h2,l2,he2,h20,h21,l20,l21,rfl⟩,rfl⟩
   have HE2:=Lib.hid he2
   clear he2
   have HL4:Hid (Lies w w4 [] [(u,a,i),(v,b,j)]):=HL2
   clear HL2
   go_wp2_with fail
   with_reducible refine (Tryz.cmpU h1 h2 _).mono ?_
   rintro e w5 ⟨rfl,rfl⟩
   go_wp2_with fail
   with_reducible refine (Tryz.cmpU l1 l2 _).mono ?_
   rintro e w6 ⟨rfl,rfl⟩
   have HL6:Hid (Lies w w6 [] [(u,a,i),(v,b,j)]):=HL4
   clear HL4
   obtain ⟨x,hx⟩:∃ x,cmpI h1 h2 = x:=⟨_,rfl⟩
   obtain ⟨y,hy⟩:∃ y,cmpI l1 l2 = y:=⟨_,rfl⟩
   have HXY:Hid ((if x = 0 then y else x) = c):=by
    show _ = _
    rw [← hx,← hy,← HC.out]
    exact cmpI_two HE1.out HE2.out l10 l11 l20 l21
   rw [hx,hy]
   clear hx hy HC HE1 HE2
   have hc0:(w6.alloc (.cells #[.int .i64 x,.int .i64 y] 3)).cell? ⟨w6.heap.size,0,none⟩ = some (.int .i64 x):=by simp
   have hc1:(w6.alloc (.cells #[.int .i64 x,.int .i64 y] 3)).cell? ⟨w6.heap.size,1,none⟩ = some (.int .i64 y):=by simp
   have HB7:Hid (Below w.heap.size w (w6.alloc (.cells #[.int .i64 x,.int .i64 y] 3))):=HL6.out.below.alloc HL6.out.below.size _
   go_wp2_with fail
   with_reducible refine (Tryz.cmpOr w6.heap.size x y _ hc0 hc1).mono ?_
   rintro e w7 ⟨rfl,rfl⟩
   rw [HXY.out]
   go_wp2
   go_ret2
   exact ⟨HE.out,HB7.out⟩
  ·have HW2 : Hid (∀ W, FracIs W v b j → Calls Tryz.prog 121 #[v] W fun e w' => (∃ n d, e = .returned (.tuple #[.int .u64 n, .int .u64 d, .bool false])) ∧ Below W.heap.size W w') := fun W h =>
    (Tryz.words v b j W h).mono fun e w' h=>⟨(h.1.resolve_left fun g=>ht g.1).2,h.2⟩
   have HW1:Hid (∀ W,FracIs W u a i → Calls Tryz.prog 121 #[u] W fun e w'=>(∃ n d,e = .returned (.tuple #[.int .u64 n,.int .u64 d,.bool true])) ∧ Below W.heap.size W w'):=fun W h=>
    (Tryz.words u a i W h).mono fun e w' h=>⟨⟨_,_,(h.1.resolve_right fun g=>g.1 hs).2⟩,h.2⟩
   clear hs ht hc
   go_enter Tryz.func85,Tryz.ntmps85
   go_wp2_with fail
   with_reducible refine (HW1.out _ (HL0.out.frac (v:=u) (q:=a) (k:=i) (List.Mem.head _))).mono ?_
   rintro e w1 ⟨⟨m1,c1,rfl⟩,hb1⟩
   have HL1:Hid (Lies w w1 [] [(u,a,i),(v,b,j)]):=HL0.out.after hb1
   clear hb1  HL0 HW1
   go_wp2_with fail
   with_reducible refine (HW2.out _ (HL1.out.frac (v:=v) (q:=b) (k:=j) (List.Mem.tail _ (List.Mem.head _)))).mono ?_
   rintro e w2 ⟨⟨m2,c2,rfl⟩,hb2⟩
   have HL2:Hid (Lies w w2 [] [(u,a,i),(v,b,j)]):=HL1.out.after hb2
   clear hb2  HL1 HW2
   go_wp2
   go_ret2
   exact ⟨HNO.out,HL2.out.below⟩
 ·have HW1 : Hid (∀ W, FracIs W u a i → Calls Tryz.prog 121 #[u] W fun e w' => (∃ n d, e = .returned (.tuple #[.int .u64 n, .int .u64 d, .bool false])) ∧ Below W.heap.size W w') := fun W h =>
   (Tryz.words u a i W h).mono fun e w' h=>⟨(h.1.resolve_left fun g=>hs g.1).2,h.2⟩
  have HW2:Hid (∀ W,FracIs W v b j → Calls Tryz.prog 121 #[v] W fun e w'=>(∃ n d o,e = .returned (.tuple #[.int .u64 n,.int .u64 d,.bool o])) ∧ Below W.heap.size W w'):=fun W h=>
   (Tryz.words v b j W h).mono fun e w' h=>⟨by
    rcases h.1 with ⟨-,h⟩ | ⟨-,n,d,h⟩
    ·exact ⟨_,_,_,h⟩
    ·exact ⟨_,_,_,h⟩,h.2⟩
  clear hs hc
  go_enter Tryz.func85,Tryz.ntmps85
  go_wp2_with fail
  with_reducible refine (HW1.out _ (HL0.out.frac (v:=u) (q:=a) (k:=i) (List.Mem.head _))).mono ?_
  rintro e w1 ⟨⟨m1,c1,rfl⟩,hb1⟩
  have HL1:Hid (Lies w w1 [] [(u,a,i),(v,b,j)]):=HL0.out.after hb1
  clear hb1  HL0 HW1
  go_wp2_with fail
  with_reducible refine (HW2.out _ (HL1.out.frac (v:=v) (q:=b) (k:=j) (List.Mem.tail _ (List.Mem.head _)))).mono ?_
  rintro e w2 ⟨⟨m2,c2,o,rfl⟩,hb2⟩
  have HL2:Hid (Lies w w2 [] [(u,a,i),(v,b,j)]):=HL1.out.after hb2
  clear hb2  HL1 HW2
  go_wp2
  go_ret2
  exact ⟨HNO.out,HL2.out.below⟩
theorem Tryz.frLongCompare (u v:Value) (a b:Rat) (k:Nat) (w:World) (hu:FracIs w u a k) (hv:FracIs w v b k) (hk:1 ≤ k) (hk9:k ≤ 30000000000) :
 Calls Tryz.prog 86 #[u,v] w fun e w'=>e = .returned (.int .i64 (cmpI (a.num.natAbs * b.den) (b.num.natAbs * a.den))) ∧ Below w.heap.size w w':=by
 have HL0:Hid (Lies w w [] [(u,a,k),(v,b,k)]):=((Lies.start w).addF hv).addF hu
 obtain ⟨n1,hn1⟩:∃ n,a.num.natAbs = n:=⟨_,rfl⟩
 obtain ⟨d1,hd1⟩:∃ n,a.den = n:=⟨_,rfl⟩
 obtain ⟨n2,hn2⟩:∃ n,b.num.natAbs = n:=⟨_,rfl⟩
 obtain ⟨d2,hd2⟩:∃ n,b.den = n:=⟨_,rfl⟩
 have HN1:Hid (∀ W,FracIs W u a k → Calls Tryz.prog 63 #[u] W fun e w'=>(∃ p r,e = .returned (.tuple #[p,r]) ∧ Num w' p (n1:Int) k ∧ Num w' r (d1:Int) k) ∧ Below W.heap.size W w'):=fun W h=>by
  have:=Tryz.nats u a k W h hk
  rw [hn1,hd1] at this
  exact this
 have HN2:Hid (∀ W,FracIs W v b k → Calls Tryz.prog 63 #[v] W fun e w'=>(∃ p r,e = .returned (.tuple #[p,r]) ∧ Num w' p (n2:Int) k ∧ Num w' r (d2:Int) k) ∧ Below W.heap.size W w'):=fun W h=>by
  have:=Tryz.nats v b k W h hk
  rw [hn2,hd2] at this
  exact this
 have HC:Hid (cmpI (a.num.natAbs * b.den) (b.num.natAbs * a.den) = cmpI ((n1 * d2:Nat):Int) ((n2 * d1:Nat):Int)):=by
  show _ = _
  rw [hn1,hn2,hd1,hd2,Int.natCast_mul,Int.natCast_mul]
 rw [HC.out]
 obtain ⟨z1,hz1⟩:∃ z,n1 * d2 = z:=⟨_,rfl⟩
 obtain ⟨z2,hz2⟩:∃ z,n2 * d1 = z:=⟨_,rfl⟩
 have HM1:Hid (∀ W p r,Num W p (n1:Int) k → Num W r (d2:Int) k → Calls Tryz.prog 132 #[p,r] W fun e w'=>(∃ v,e = .returned v ∧ Num w' v (z1:Int) (k + k)) ∧ Below W.heap.size W w'):=fun W p r h1 h2=>by
  have h:=Tryz.frMul p r n1 d2 k k W h1 h2 (by omega) (by omega)
  rw [hz1] at h
  exact h
 have HM2:Hid (∀ W p r,Num W p (n2:Int) k → Num W r (d1:Int) k → Calls Tryz.prog 132 #[p,r] W fun e w'=>(∃ v,e = .returned v ∧ Num w' v (z2:Int) (k + k)) ∧ Below W.heap.size W w'):=fun W p r h1 h2=>by
  have h:=Tryz.frMul p r n2 d1 k k W h1 h2 (by omega) (by omega)
  rw [hz2] at h
  exact h
 rw [hz1,hz2]
 clear hn1 hd1 hn2 hd2 HC hz1 hz2 hu hv
 go_enter Tryz.func86,Tryz.ntmps86
 go_wp2_with fail
 with_reducible refine (HN1.out _ (HL0.out.frac (v:=u) (q:=a) (k:=k) (List.Mem.head _))).mono ?_
 rintro e w1 ⟨⟨x1,r1,rfl,hx1,hr1⟩,hb1⟩
 have HL1:Hid (Lies w w1 [(r1,(d1:Int),k),(x1,(n1:Int),k)] [(u,a,k),(v,b,k)]):=((HL0.out.after hb1).addN hx1).addN hr1
 clear hb1 hx1 hr1 HL0 HN1
 go_wp2_with fail
 with_reducible refine (HN2.out _ (HL1.out.frac (v:=v) (q:=b) (k:=k) (List.Mem.tail _ (List.Mem.head _)))).mono ?_
 rintro e w2 ⟨⟨x2,r2,rfl,hx2,hr2⟩,hb2⟩
 have HL2:Hid (Lies w w2 [(r2,(d2:Int),k),(x2,(n2:Int),k),(r1,(d1:Int),k),(x1,(n1:Int),k)] [(u,a,k),(v,b,k)]):=((HL1.out.after hb2).addN hx2).addN hr2
 clear hb2 hx2 hr2 HL1 HN2
 go_wp2_with fail
 with_reducible refine (HM1.out _ x1 r2 (HL2.out.num (v:=x1) (z:=(n1:Int)) (n:=k) (List.Mem.tail _ (List.Mem.tail _ (List.Mem.tail _ (List.Mem.head _))))) (HL2.out.num (v:=r2) (z:=(d2:Int)) (n:=k) (List.Mem.head _))).mono ?_
 rintro e w3 ⟨⟨m1,rfl,hm1⟩,hb3⟩
 have HL3:Hid (Lies w w3 [(m1,(z1:Int),k + k),(r2,(d2:Int),k),(x2,(n2:Int),k),(r1,(d1:Int),k),(x1,(n1:Int),k)] [(u,a,k),(v,b,k)]):=(HL2.out.after hb3).addN hm1
 clear hb3 hm1 HL2 HM1
 go_wp2_with fail
 with_reducible refine (HM2.out _ x2 r1 (HL3.out.num (v:=x2) (z:=(n2:Int)) (n:=k) (List.Mem.tail _ (List.Mem.tail _ (List.Mem.head _)))) (HL3.out.num (v:=r1) (z:=(d1:Int)) (n:=k) (List.Mem.tail _ (List.Mem.tail _ (List.Mem.tail _ (List.Mem.head _)))))).mono ?_
 rintro e w4 ⟨⟨m2,rfl,hm2⟩,hb4⟩
 have HL4:Hid (Lies w w4 [(m2,(z2:Int),k + k),(m1,(z1:Int),k + k),(r2,(d2:Int),k),(x2,(n2:Int),k),(r1,(d1:Int),k),(x1,(n1:Int),k)] [(u,a,k),(v,b,k)]):=(HL3.out.after hb4).addN hm2
 clear hb4 hm2 HL3 HM2
 go_wp2_with fail
 with_reducible refine (Wd.Tryz.Cmp m1 m2 (z1:Int) (z2:Int) (k + k) (k + k) _ (HL4.out.num (v:=m1) (z:=(z1:Int)) (n:=k + k) (List.Mem.tail _ (List.Mem.head _))) (HL4.out.num (v:=m2) (z:=(z2:Int)) (n:=k + k) (List.Mem.head _))).mono ?_
 rintro e w5 ⟨rfl,hb5⟩
 have HL5:Hid (Lies w w5 [(m2,(z2:Int),k + k),(m1,(z1:Int),k + k),(r2,(d2:Int),k),(x2,(n2:Int),k),(r1,(d1:Int),k),(x1,(n1:Int),k)] [(u,a,k),(v,b,k)]):=HL4.out.after hb5
 clear hb5  HL4
 go_wp2
 go_ret
 exact ⟨rfl,HL5.out.below⟩
theorem Tryz.frCmp (u v:Value) (a b:Rat) (k:Nat) (w:World) (hu:FracIs w u a k) (hv:FracIs w v b k) (hk:1 ≤ k) (hk9:k ≤ 30000000000) :
 Calls Tryz.prog 39 #[u,v] w fun e w'=>e = .returned (.int .i64 (ordQ a b)) ∧ Below w.heap.size w w':=by
 have HL0:Hid (Lies w w [] [(u,a,k),(v,b,k)]):=((Lies.start w).addF hv).addF hu
 clear hu hv
 obtain ⟨sa,hsa⟩:∃ s:Int,a.num.sign = s:=⟨_,rfl⟩
 obtain ⟨sb,hsb⟩:∃ s:Int,b.num.sign = s:=⟨_,rfl⟩
 have HS1:Hid (∀ W,FracIs W u a k → Calls Tryz.prog 64 #[u] W fun e w'=>e = .returned (.int .i64 sa) ∧ Below W.heap.size W w'):=fun W h=>by
  have:=Tryz.Sign u a k W h
  rw [hsa] at this
  exact this
 have HS2:Hid (∀ W,FracIs W v b k → Calls Tryz.prog 64 #[v] W fun e w'=>e = .returned (.int .i64 sb) ∧ Below W.heap.size W w'):=fun W h=>by
  have:=Tryz.Sign v b k W h
  rw [hsb] at this
  exact this
 obtain ⟨o,ho⟩:∃ o,ordQ a b = o:=⟨_,rfl⟩
 rw [ho]
 by_cases hne:sa = sb
 ·subst hne
  have e1:(sa == sa) = true:=by simp
  have e2:(sa != sa) = false:=by simp
  obtain ⟨c,hc⟩:∃ c,cmpI (a.num.natAbs * b.den) (b.num.natAbs * a.den) = c:=⟨_,rfl⟩
  have HO:Hid (sa * c = o):=by
   show _ = _
   rw [← hc,← hsa,← ho]
   exact ordQ_size (by rw [hsa,hsb])
  have hs3:sa = -1 ∨ sa = 0 ∨ sa = 1:=by
   rw [← hsa]
   rcases Int.lt_trichotomy a.num 0 with h | h | h
   ·exact .inl (Int.sign_eq_neg_one_of_neg h)
   ·rw [h]; simp
   ·exact .inr (.inr (Int.sign_eq_one_of_pos h))
  have hc3:c = -1 ∨ c = 0 ∨ c = 1:=by rw [← hc]; exact cmpI_three _ _
  have pw:RowKit.wrap64 (sa * c) = sa * c:=by rcases hs3 with rfl | rfl | rfl <;> rcases hc3 with rfl | rfl | rfl <;> decide +kernel
  have p0:-9223372036854775808 ≤ sa * c:=by rcases hs3 with rfl | rfl | rfl <;> rcases hc3 with rfl | rfl | rfl <;> decide
  have p1:sa * c ≤ 9223372036854775807:=by rcases hs3 with rfl | rfl | rfl <;> rcases hc3 with rfl | rfl | rfl <;> decide
  have HSC:Hid (∀ W,FracIs W u a k → FracIs W v b k → Calls Tryz.prog 85 #[u,v] W fun e w'=>ShortCmp c e ∧ Below W.heap.size W w'):=fun W h1 h2=>by
   have:=Tryz.frShortCompare u v a b k k W h1 h2
   rw [hc] at this
   exact this
  have HLC:Hid (∀ W,FracIs W u a k → FracIs W v b k → Calls Tryz.prog 86 #[u,v] W fun e w'=>e = .returned (.int .i64 c) ∧ Below W.heap.size W w'):=fun W h1 h2=>by
   have:=Tryz.frLongCompare u v a b k W h1 h2 hk hk9
   rw [hc] at this
   exact this
  clear hs3 hc3 hc hsa hsb ho
  go_enter Tryz.func39,Tryz.ntmps39
  go_wp2_with fail
  with_reducible refine (HS1.out _ (HL0.out.frac (v:=u) (q:=a) (k:=k) (List.Mem.head _))).mono ?_
  rintro e w1 ⟨rfl,hb1⟩
  have HL1:Hid (Lies w w1 [] [(u,a,k),(v,b,k)]):=HL0.out.after hb1
  clear hb1  HL0 HS1
  go_wp2_with fail
  with_reducible refine (HS2.out _ (HL1.out.frac (v:=v) (q:=b) (k:=k) (List.Mem.tail _ (List.Mem.head _)))).mono ?_
  rintro e w2 ⟨rfl,hb2⟩
  have HL2:Hid (Lies w w2 [] [(u,a,k),(v,b,k)]):=HL1.out.after hb2
  clear hb2  HL1 HS2
  go_wp2_with fail
  with_reducible refine (HSC.out _ (HL2.out.frac (v:=u) (q:=a) (k:=k) (List.Mem.head _)) (HL2.out.frac (v:=v) (q:=b) (k:=k) (List.Mem.tail _ (List.Mem.head _)))).mono ?_
  rintro e w3 ⟨hsh,hb3⟩
  have HL3:Hid (Lies w w3 [] [(u,a,k),(v,b,k)]):=HL2.out.after hb3
  clear hb3 HL2 HSC
  rcases hsh with rfl | rfl
  ·go_wp2
   go_ret
   exact ⟨by rw [← HO.out]; rfl,HL3.out.below⟩
  go_wp2_with fail
  with_reducible refine (HLC.out _ (HL3.out.frac (v:=u) (q:=a) (k:=k) (List.Mem.head _)) (HL3.out.frac (v:=v) (q:=b) (k:=k) (List.Mem.tail _ (List.Mem.head _)))).mono ?_
  rintro e w4 ⟨rfl,hb4⟩
  have HL4:Hid (Lies w w4 [] [(u,a,k),(v,b,k)]):=HL3.out.after hb4
  clear hb4  HL3 HLC
  go_wp2
  go_ret
  exact ⟨by rw [← HO.out]; rfl,HL4.out.below⟩
 ·have e1:(sa == sb) = false:=by simpa using hne
  have e2:(sa != sb) = true:=by simpa using hne
  have HO:Hid (cmpI sa sb = o):=by
   show _ = _
   rw [← hsa,← hsb,← ho]
   exact ordQ_signs (by rw [hsa,hsb]; exact hne)
  clear hsa hsb ho
  go_enter Tryz.func39,Tryz.ntmps39
  go_wp2_with fail
  with_reducible refine (HS1.out _ (HL0.out.frac (v:=u) (q:=a) (k:=k) (List.Mem.head _))).mono ?_
  rintro e w1 ⟨rfl,hb1⟩
  have HL1:Hid (Lies w w1 [] [(u,a,k),(v,b,k)]):=HL0.out.after hb1
  clear hb1  HL0 HS1
  go_wp2_with fail
  with_reducible refine (HS2.out _ (HL1.out.frac (v:=v) (q:=b) (k:=k) (List.Mem.tail _ (List.Mem.head _)))).mono ?_
  rintro e w2 ⟨rfl,hb2⟩
  have HL2:Hid (Lies w w2 [] [(u,a,k),(v,b,k)]):=HL1.out.after hb2
  clear hb2  HL1
  go_wp2_with fail
  with_reducible refine (HS2.out _ (HL2.out.frac (v:=v) (q:=b) (k:=k) (List.Mem.tail _ (List.Mem.head _)))).mono ?_
  rintro e w3 ⟨rfl,hb3⟩
  have HL3:Hid (Lies w w3 [] [(u,a,k),(v,b,k)]):=HL2.out.after hb3
  clear hb3  HL2 HS2
  go_wp2_with fail
  with_reducible refine (Tryz.cmpN sa sb _).mono ?_
  rintro e w4 ⟨rfl,rfl⟩
  rw [HO.out]
  go_wp2
  go_ret
  exact ⟨rfl,HL3.out.below⟩
theorem Tryz.frTurned (v:Value) (q:Rat) (k:Nat) (w:World) (h:FracIs w v q k) (hk:1 ≤ k) (h0:q ≠ 0) :
 Calls Tryz.prog 219 #[v] w fun e w'=>(∃ u,e = .returned u ∧ FracIs w' u (q⁻¹) k) ∧ Below w.heap.size w w':=by
 have hz:q.num ≠ 0:=fun e=>h0 (Rat.num_eq_zero.1 e)
 obtain ⟨a,rfl,ha⟩:=h.resolve_left (fun g=>h0 g.2)
 have hden:(q⁻¹).den = q.num.natAbs:=by rw [Rat.den_inv,if_neg hz]
 have hnum:(q⁻¹).num = sgn (decide (q.num < 0)) q.den:=by
  rw [Rat.num_inv]
  unfold sgn
  rcases Int.lt_trichotomy q.num 0 with h | h | h
  ·rw [Int.sign_eq_neg_one_of_neg h]; simp [h]
  ·exact absurd h hz
  ·rw [Int.sign_eq_one_of_pos h]; simp; omega
 have hneg:decide ((q⁻¹).num < 0) = decide (q.num < 0):=by
  rw [hnum,sgn_neg,Bool.and_eq_left_iff_imp]
  intro _
  simpa using q.den_pos
 by_cases hs:Short q
 ·have HW : Hid (∀ W, FracIs W (.pointer (some ⟨a, 0, none⟩)) q k → Calls Tryz.prog 121 #[.pointer (some ⟨a, 0, none⟩)] W fun e w' => e = .returned (.tuple #[.int .u64 (q.num.natAbs : Int), .int .u64 (q.den : Int), .bool true]) ∧ Below W.heap.size W w') := fun W hW =>
   (Tryz.words _ q k W hW).mono fun e w' h=>⟨(h.1.resolve_right fun g=>g.1 hs).2,h.2⟩
  have HF:Hid (FracIs w (.pointer (some ⟨a,0,none⟩)) q k):=.inr ⟨a,rfl,ha⟩
  obtain ⟨n,hn⟩:∃ n:Nat,q.num.natAbs = n:=⟨_,rfl⟩
  obtain ⟨d,hd⟩:∃ d:Nat,q.den = d:=⟨_,rfl⟩
  obtain ⟨b,hb⟩:∃ b:Bool,decide (q.num < 0) = b:=⟨_,rfl⟩
  have HO:Hid (∀ W,Calls Tryz.prog 90 #[.bool b,.int .u64 d,.int .u64 n] W fun e w'=>(∃ v,e = .returned v ∧ FracIs w' v (q⁻¹) k) ∧ Below W.heap.size W w'):=fun W=>
   (Tryz.ofWords b d n (q⁻¹) W (by rw [hnum,hb,hd]) (by rw [hden,hn]) (by have:=hs.2; omega) (by have:=hs.1; omega)).mono fun e w' ⟨⟨v,h1,h2⟩,h3⟩=>⟨⟨v,h1,h2.more hk⟩,h3⟩
  obtain ⟨hal,hc,-⟩:=ha
  rw [hb] at hc
  rw [hn,hd] at HW
  clear hs hn hd hb h h0 hz hden hnum hneg
  go_enter Tryz.func219,Tryz.ntmps219
  go_wp2_with fail
  with_reducible refine (HW.out _ HF.out).mono ?_
  rintro e w1 ⟨rfl,hb1⟩
  have HB1:Hid (Below w.heap.size w w1):=hb1
  rw [← hb1.cell hal] at hc
  clear hb1 HW HF hal
  go_wp2_with fail
  with_reducible refine (HO.out _).mono ?_
  rintro e w2 ⟨⟨u,rfl,hu⟩,hb2⟩
  have HU:Hid (FracIs w2 u (q⁻¹) k):=hu
  have HB2:Hid (Below w.heap.size w w2):=Below.after HB1.out hb2
  clear hu hb2 HB1 HO
  go_wp2
  go_ret
  exact ⟨⟨u,rfl,HU.out⟩,HB2.out⟩
 ·have HW : Hid (∀ W, FracIs W (.pointer (some ⟨a, 0, none⟩)) q k → Calls Tryz.prog 121 #[.pointer (some ⟨a, 0, none⟩)] W fun e w' => (∃ n d, e = .returned (.tuple #[.int .u64 n, .int .u64 d, .bool false])) ∧ Below W.heap.size W w') := fun W hW =>
   (Tryz.words _ q k W hW).mono fun e w' h=>⟨(h.1.resolve_left fun g=>hs g.1).2,h.2⟩
  have HF:Hid (FracIs w (.pointer (some ⟨a,0,none⟩)) q k):=.inr ⟨a,rfl,ha⟩
  obtain ⟨b,hb⟩:∃ b:Bool,decide (q.num < 0) = b:=⟨_,rfl⟩
  obtain ⟨hal,hc0,h3⟩:=ha
  obtain ⟨-,-,-,bb,p,r,hc3,hbs,hp0,hr0,hp,hr⟩:=h3.resolve_left (fun g=>hs g.1)
  obtain ⟨pa,rfl⟩:∃ x,p = .pointer x:=num_pointer hp
  obtain ⟨ra,rfl⟩:∃ x,r = .pointer x:=num_pointer hr
  have HN:Hid (Num w (.pointer pa) (q.num.natAbs:Int) k ∧ Num w (.pointer ra) (q.den:Int) k):=⟨hp,hr⟩
  have HD:Hid (∀ W m,W.heap.size = m → Num W (.pointer pa) (q.num.natAbs:Int) k → Num W (.pointer ra) (q.den:Int) k →
   FracIs ((W.alloc (.cells #[.pointer ra,.pointer pa] 174)).alloc (.cells #[.bool b,.int .u64 0,.int .u64 0,.pointer (some ⟨m,0,none⟩)] 110)) (.pointer (some ⟨m + 1,0,none⟩)) (q⁻¹) k):=by
   rintro W m rfl h1 h2
   have hb1:Below W.heap.size W (W.alloc (.cells #[.pointer ra,.pointer pa] 174)):=(Below.refl _ _).alloc (Nat.le_refl _) _
   have hb2:Below (W.heap.size + 1) (W.alloc (.cells #[.pointer ra,.pointer pa] 174)) ((W.alloc (.cells #[.pointer ra,.pointer pa] 174)).alloc (.cells #[.bool b,.int .u64 0,.int .u64 0,.pointer (some ⟨W.heap.size,0,none⟩)] 110)):=(Below.refl _ _).alloc (by simp) _
   have hsz:(W.alloc (.cells #[.pointer ra,.pointer pa] 174)).heap.size = W.heap.size + 1:=by simp
   refine .inr ⟨_,rfl,by simp,?_,.inr ⟨?_,?_,?_,W.heap.size,.pointer ra,.pointer pa,?_,by simp; omega,?_,?_,?_,?_⟩⟩
   ·rw [hneg,hb]; exact newAt _ _ _ hsz 0
   ·intro g
    refine hs ⟨?_,?_⟩
    ·rw [← hden]; exact g.2
    ·have:=g.1; rw [hnum,sgn_abs] at this; exact this
   ·exact newAt _ _ _ hsz 1
   ·exact newAt _ _ _ hsz 2
   ·exact newAt _ _ _ hsz 3
   ·rw [hb2.cell (by simp)]; simp
   ·rw [hb2.cell (by simp)]; simp
   ·rw [hnum,sgn_abs]; exact (h2.below hb1 (Nat.le_refl _)).below hb2 (by simp)
   ·rw [hden]; exact (h1.below hb1 (Nat.le_refl _)).below hb2 (by simp)
  have hbd1:∀ w:World,(Instr.build 174 #[(0,.pointer ra),(1,.pointer pa)]).run Tryz.prog w = .ok (.agg #[.pointer ra,.pointer pa]) w:=fun w=>run_build w 174 _ _ (by kernel_rfl)
  have hbd2:∀ (a:Option Addr) (w:World),(Instr.build 110 #[(0,.bool b),(3,.pointer a)]).run Tryz.prog w = .ok (.agg #[.bool b,.int .u64 0,.int .u64 0,.pointer a]) w:=fun a w=>run_build w 110 _ _ (by kernel_rfl)
  rw [hb] at hc0
  clear hs hb h h0 hz hden hnum hneg hp hr h3
  go_enter Tryz.func219,Tryz.ntmps219
  go_wp2_with fail
  with_reducible refine (HW.out _ HF.out).mono ?_
  rintro e w1 ⟨⟨n,d,rfl⟩,hb1⟩
  have HB1:Hid (Below w.heap.size w w1):=hb1
  have HN1:Hid (Num w1 (.pointer pa) (q.num.natAbs:Int) k ∧ Num w1 (.pointer ra) (q.den:Int) k):=⟨HN.out.1.below hb1 (Nat.le_refl _),HN.out.2.below hb1 (Nat.le_refl _)⟩
  rw [← hb1.cell hal] at hc0 hc3
  rw [← hb1.cell hbs] at hp0 hr0
  have HAL:=Lib.hid hal
  have HBL:=Lib.hid hbs
  clear hb1 HW HF HN hal hbs
  go_wp2
  have hal1:a < w1.heap.size:=by have:=HB1.out.size; have:=HAL.out; omega
  have hbl1:bb < w1.heap.size:=by have:=HB1.out.size; have:=HBL.out; omega
  refine wp_region_held_drew (S:=(fun w':World=>w'.cell? ⟨a,0,none⟩ = some (.bool b) ∧ w'.cell? ⟨a,3,none⟩ = some (.pointer (some ⟨bb,0,none⟩)) ∧ w'.cell? ⟨bb,1,none⟩ = some (.pointer ra) ∧ w'.cell? ⟨bb,0,none⟩ = some (.pointer pa))) (by kernel_rfl) ⟨hc0,hc3,hr0,hp0⟩ (fun hHeld=>?_)
  have hal2:a < w1.drew.heap.size:=hal1
  have hbl2:bb < w1.drew.heap.size:=hbl1
  have HM2:=Lib.hid (HD.out w1.drew _ rfl (HN1.out.1.below (Below.refl w1.heap.size w1).drew (Nat.le_refl _)) (HN1.out.2.below (Below.refl w1.heap.size w1).drew (Nat.le_refl _)))
  have HB2:=Lib.hid HB1.out.drew
  clear HD HB1 HN1 hc0 hc3 hp0 hr0 hal1 hbl1
  generalize w1.drew = w2 at *
  have HS3:Hid (∀ (X:Obj) (ad:Nat) (j:Nat),ad < w2.heap.size → (w2.alloc X).cell? ⟨ad,j,none⟩ = w2.cell? ⟨ad,j,none⟩):=fun X ad j h=>((Below.refl w2.heap.size w2).alloc (Nat.le_refl _) X).cell h
  have HS4:Hid (∀ (X Y:Obj) (ad:Nat) (j:Nat),ad < w2.heap.size → ((w2.alloc X).alloc Y).cell? ⟨ad,j,none⟩ = w2.cell? ⟨ad,j,none⟩):=fun X Y ad j h=>(((Below.refl w2.heap.size w2).alloc (Nat.le_refl _) X).alloc (by simp) Y).cell h
  obtain ⟨g1,g2,g3,g4⟩:=id hHeld
  refine takeY 0 (h:=?_)
  refine takeY 1 (h:=?_)
  refine takeY 2 (h:=?_)
  (try simp only [Act.put,List.setIfInBounds_toArray,List.set_cons_zero,List.set_cons_succ])
  refine takeY 3 (h:=?_)
  refine takeY 4 (h:=?_)
  refine takeY 5 (h:=?_)
  (try simp only [Act.put,List.setIfInBounds_toArray,List.set_cons_zero,List.set_cons_succ])
  refine takeY 6 (h:=?_)
  refine takeY 7 (h:=?_)
  refine takeY 8 (h:=?_)
  (try simp only [Act.put,List.setIfInBounds_toArray,List.set_cons_zero,List.set_cons_succ])
  refine takeY 9 (h:=?_)
  refine takeY 10 (h:=?_)
  refine takeY 11 (h:=?_)
  (try simp only [Act.put,List.setIfInBounds_toArray,List.set_cons_zero,List.set_cons_succ])
  refine takeY 12 (h:=?_)
  refine takeY 13 (h:=?_)
  refine takeY 14 (h:=?_)
  (try simp only [Act.put,List.setIfInBounds_toArray,List.set_cons_zero,List.set_cons_succ])
  refine takeY 15 (h:=?_)
  refine takeY 16 (h:=?_)
  refine takeY 17 (h:=?_)
  (try simp only [Act.put,List.setIfInBounds_toArray,List.set_cons_zero,List.set_cons_succ])
  refine takeY 18 (h:=?_)
  (try simp only [Act.put,List.setIfInBounds_toArray,List.set_cons_zero,List.set_cons_succ])
  refine wpAnyH_ready (rs:=[19]) (by kernel_rfl) (by simp) ?_
  refine AllReadyH.cons (by (simp only [List.getElem?_toArray,List.getElem?_cons_succ,List.getElem?_cons_zero]) <;> rfl) (fun K hK=>?_) AllReadyH.nil
  go_simp
  refine hK.out _ _ ⟨(HS3.out _ _ _ hal2).trans g1,(HS3.out _ _ _ hal2).trans g2,(HS3.out _ _ _ hbl2).trans g3,(HS3.out _ _ _ hbl2).trans g4⟩ (fun hHeld=>?_)
  clear hK K
  (try simp only [Act.put,List.setIfInBounds_toArray,List.set_cons_zero,List.set_cons_succ])
  refine takeY 20 (h:=?_)
  (try simp only [Act.put,List.setIfInBounds_toArray,List.set_cons_zero,List.set_cons_succ])
  refine wpAnyH_ready (rs:=[21]) (by kernel_rfl) (by simp) ?_
  refine AllReadyH.cons (by (simp only [List.getElem?_toArray,List.getElem?_cons_succ,List.getElem?_cons_zero]) <;> rfl) (fun K hK=>?_) AllReadyH.nil
  go_simp
  refine hK.out _ _ ⟨(HS4.out _ _ _ _ hal2).trans g1,(HS4.out _ _ _ _ hal2).trans g2,(HS4.out _ _ _ _ hbl2).trans g3,(HS4.out _ _ _ _ hbl2).trans g4⟩ (fun hHeld=>?_)
  clear hK K
  (try simp only [Act.put,List.setIfInBounds_toArray,List.set_cons_zero,List.set_cons_succ])
  refine takeY 22 (h:=?_)
  (try simp only [Act.put,List.setIfInBounds_toArray,List.set_cons_zero,List.set_cons_succ])
  refine wpAnyH_done (by kernel_rfl) ?_ _
  clear hHeld g1 g2 g3 g4 HS3 HS4
  go_wp2
  go_ret
  exact ⟨⟨_,rfl,HM2.out⟩,(HB2.out.alloc HB2.out.size _).alloc (by have:=HB2.out.size; simp; omega) _⟩
theorem Tryz.frDiv (u v:Value) (a b:Rat) (k:Nat) (w:World) (hu:FracIs w u a k) (hv:FracIs w v b k) (hk:1 ≤ k) (hk9:k ≤ 30000000000) (h0:b ≠ 0) :
 Calls Tryz.prog 182 #[u,v] w fun e w'=>(∃ r,e = .returned (.tuple #[r,.bool true]) ∧ FracIs w' r (a / b) (k + k + 2)) ∧ Below w.heap.size w w':=by
 have HL0:Hid (Lies w w [] [(u,a,k),(v,b,k)]):=((Lies.start w).addF hv).addF hu
 obtain ⟨s,hsg⟩:∃ s:Int,b.num.sign = s:=⟨_,rfl⟩
 have hs0:(s == 0) = false:=by
  rw [← hsg]; simpa [Rat.num_eq_zero] using h0
 have HSG:Hid (∀ W,FracIs W v b k → Calls Tryz.prog 64 #[v] W fun e w'=>e = .returned (.int .i64 s) ∧ Below W.heap.size W w'):=fun W h=>by
  have:=Tryz.Sign v b k W h
  rw [hsg] at this
  exact this
 have HT:Hid (∀ W,FracIs W v b k → Calls Tryz.prog 219 #[v] W fun e w'=>(∃ u,e = .returned u ∧ FracIs w' u (b⁻¹) k) ∧ Below W.heap.size W w'):=fun W h=>Tryz.frTurned v b k W h hk h0
 rw [Rat.div_def]
 clear hu hv hsg h0
 go_enter Tryz.func182,Tryz.ntmps182
 go_wp2_with fail
 with_reducible refine (HSG.out _ (HL0.out.frac (v:=v) (q:=b) (k:=k) (List.Mem.tail _ (List.Mem.head _)))).mono ?_
 rintro e w1 ⟨rfl,hb1⟩
 have HL1:Hid (Lies w w1 [] [(u,a,k),(v,b,k)]):=HL0.out.after hb1
 clear hb1  HL0 HSG
 go_wp2_with fail
 with_reducible refine (HT.out _ (HL1.out.frac (v:=v) (q:=b) (k:=k) (List.Mem.tail _ (List.Mem.head _)))).mono ?_
 rintro e w2 ⟨⟨t,rfl,ht⟩,hb2⟩
 have HL2:Hid (Lies w w2 [] [(t,b⁻¹,k),(u,a,k),(v,b,k)]):=(HL1.out.after hb2).addF ht
 clear hb2 ht HL1 HT
 go_wp2_with fail
 with_reducible refine (Tryz.frMulF u t a b⁻¹ k _ (HL2.out.frac (v:=u) (q:=a) (k:=k) (List.Mem.tail _ (List.Mem.head _))) (HL2.out.frac (v:=t) (q:=b⁻¹) (k:=k) (List.Mem.head _)) hk hk9).mono ?_
 rintro e w3 ⟨⟨r,rfl,hr⟩,hb3⟩
 have HL3:Hid (Lies w w3 [] [(r,a * b⁻¹,k + k + 2),(t,b⁻¹,k),(u,a,k),(v,b,k)]):=(HL2.out.after hb3).addF hr
 clear hb3 hr HL2
 go_wp2
 go_ret2
 exact ⟨⟨r,rfl,(HL3.out.frac (v:=r) (q:=a * b⁻¹) (k:=k + k + 2) (List.Mem.head _))⟩,HL3.out.below⟩
end Go.Proofs.Fr
