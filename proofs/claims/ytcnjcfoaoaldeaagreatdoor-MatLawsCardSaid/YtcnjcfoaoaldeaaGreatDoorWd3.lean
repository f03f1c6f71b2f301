/- What raised of the package nat returns: the number by a power of two. What lowered of the package nat returns: the number by a power of two, downward. What made, all, Shl, Shr and Cmp of the package nat return. -/
import Derived.Test.YtcnjcfoaoaldeaaGreatDoorWd
import Derived.Deep.RegionWith
import Derived.StillTailTactics
set_option linter.unusedVariables false
set_option maxHeartbeats 4000000
set_option maxRecDepth 100000
namespace Go.Proofs.Wd
open Go.RowKit
theorem orMid (a lo:Int) (p:Nat) (a0:0 ≤ a) (a1:a < 2 ^ p) (l0:0 ≤ lo) (h:a + lo * 2 ^ p ≤ 18446744073709551615):bits .or .u64 a (lo * 2 ^ p) = a + lo * 2 ^ p:=by
 obtain ⟨A,rfl⟩:=Int.eq_ofNat_of_zero_le a0
 obtain ⟨L,rfl⟩:=Int.eq_ofNat_of_zero_le l0
 have e2:(2:Int) ^ p = ((2 ^ p:Nat):Int):=by norm_cast
 have e:(L:Int) * 2 ^ p = ((L * 2 ^ p:Nat):Int):=by rw [e2]; norm_cast
 have hA:A < 2 ^ p:=by rw [e2] at a1; exact Int.ofNat_lt.1 a1
 have key:L * 2 ^ p ||| A = L * 2 ^ p + A:=by
  have:=Nat.shiftLeft_add_eq_or_of_lt (i:=p) hA L
  rw [Nat.shiftLeft_eq] at this
  exact this.symm
 rw [e] at h ⊢
 rw [bits_or_u64_nat _ _ (by omega) (by omega),Nat.or_comm,key]
 omega
/-- The two halves of a word that is shifted: P = 2^p, Q = 2^(64-p). -/
theorem cutWord {x:Int} {p:Int} (h0:0 ≤ x) (h1:x ≤ 18446744073709551615) (p0:0 ≤ p) (p1:p ≤ 63) :
 shlV x p = x % 2 ^ (64 - p).toNat * 2 ^ p.toNat ∧ shrV x (64 - p) = x / 2 ^ (64 - p).toNat ∧ x / 2 ^ (64 - p).toNat < 2 ^ p.toNat ∧ 0 ≤ x / 2 ^ (64 - p).toNat ∧ 0 ≤ x % 2 ^ (64 - p).toNat ∧ x % 2 ^ (64 - p).toNat < 2 ^ (64 - p).toNat ∧
 x % 2 ^ (64 - p).toNat + 2 ^ (64 - p).toNat * (x / 2 ^ (64 - p).toNat) = x ∧ (2:Int) ^ p.toNat * 2 ^ (64 - p).toNat = 18446744073709551616 ∧ (0:Int) < 2 ^ p.toNat ∧ (0:Int) < 2 ^ (64 - p).toNat:=by
 have hP:(0:Int) < 2 ^ p.toNat:=Int.pow_pos (by omega)
 have hQ:(0:Int) < 2 ^ (64 - p).toNat:=Int.pow_pos (by omega)
 have hPQ:(2:Int) ^ p.toNat * 2 ^ (64 - p).toNat = 18446744073709551616:=by
  rw [← Int.pow_add,show p.toNat + (64 - p).toNat = 64 by omega]; rfl
 rw [shlPos x p p0 (by omega),shrPos x (64 - p) (by omega) (by omega)]
 generalize (2:Int) ^ p.toNat = P at *
 generalize (2:Int) ^ (64 - p).toNat = Q at *
 refine ⟨?_,rfl,?_,Int.ediv_nonneg h0 (by omega),Int.emod_nonneg _ (by omega),Int.emod_lt_of_pos _ hQ,Int.emod_add_mul_ediv x Q,hPQ,hP,hQ⟩
 ·rw [← hPQ,Int.mul_comm x P,Int.mul_emod_mul_of_pos _ _ hP,Int.mul_comm]
 ·exact Int.ediv_lt_of_lt_mul hQ (by omega)
theorem pow64 (n:Nat):(18446744073709551616:Int) ^ n = 2 ^ (64 * n):=by
 rw [Int.pow_mul]; rfl
/-- What holds at the head of raised's loop: W words further, p bits. -/
structure RaisedAt (xs:List Int) (W:Nat) (P:Int) (i:Nat) (L:List Int):Prop where
 len:L.length = W + xs.length + 1
 dig:∀ j,0 ≤ L.getD j 0 ∧ L.getD j 0 ≤ 18446744073709551615
 mid:L.getD (W + i) 0 < P
 rest:∀ j,W + i < j → L.getD j 0 = 0
 sum:val L = 18446744073709551616 ^ W * P * val (xs.take i)
theorem RaisedAt.start (xs:List Int) (W:Nat) {P:Int} (hP:0 < P):RaisedAt xs W P 0 (List.replicate (W + xs.length + 1) 0):=by
 have z:∀ j,(List.replicate (W + xs.length + 1) (0:Int)).getD j 0 = 0:=fun j=>by
  simp [List.getD,List.getElem?_replicate]; split <;> simp
 refine ⟨by simp,fun j=>by rw [z]; omega,by rw [z]; exact hP,fun j _=>z j,by rw [val_zeros]; simp⟩
theorem RaisedAt.step {xs L:List Int} {W i:Nat} {P Q x lo hi:Int} (h:RaisedAt xs W P i L) (hi':i < xs.length) (hx:xs.getD i 0 = x) (hPQ:P * Q = 18446744073709551616) (hP:0 < P) (hQ:0 < Q)
 (lo0:0 ≤ lo) (lo1:lo < Q) (hi0:0 ≤ hi) (hi1:hi < P) (hsum:lo + Q * hi = x) :
 L.getD (W + i) 0 + lo * P ≤ 18446744073709551615 ∧ RaisedAt xs W P (i + 1) ((L.set (W + i) (L.getD (W + i) 0 + lo * P)).set (W + i + 1) hi):=by
 have hl:=h.len
 have hm:=h.mid
 have hd:=h.dig (W + i)
 have hr:=h.rest (W + i + 1) (by omega)
 have hloP:lo * P ≤ (Q - 1) * P:=Int.mul_le_mul_of_nonneg_right (by omega) (by omega)
 have e1:(Q - 1) * P = 18446744073709551616 - P:=by rw [Int.sub_mul,Int.mul_comm Q P,hPQ]; omega
 have hlo0:0 ≤ lo * P:=Int.mul_nonneg lo0 (by omega)
 have hPB:P ≤ 18446744073709551616:=by
  have:P * 1 ≤ P * Q:=Int.mul_le_mul_of_nonneg_left (by omega) (by omega)
  omega
 have hcell:L.getD (W + i) 0 + lo * P ≤ 18446744073709551615:=by omega
 refine ⟨hcell,by simp only [List.length_set]; exact hl,fun j=>?_,?_,fun j hj=>?_,?_⟩
 ·by_cases e:W + i + 1 = j
  ·subst e; rw [getD_set_self _ (by simp only [List.length_set]; omega)]; omega
  ·rw [getD_set_ne _ e]
   by_cases e2:W + i = j
   ·subst e2; rw [getD_set_self _ (by omega)]; omega
   ·rw [getD_set_ne _ e2]; exact h.dig j
 ·rw [show W + (i + 1) = W + i + 1 by omega,getD_set_self _ (by simp only [List.length_set]; omega)]; exact hi1
 ·rw [getD_set_ne _ (by omega),getD_set_ne _ (by omega)]; exact h.rest j (by omega)
 ·rw [val_set _ _ _ (by simp only [List.length_set]; omega), val_set _ _ _ (by omega), getD_set_ne _ (by omega), hr, h.sum, val_take_succ _ _ hi', hx,
   show L.getD (W + i) 0 + lo * P - L.getD (W + i) 0 = lo * P by omega,Int.sub_zero,Int.pow_succ,Int.mul_add (18446744073709551616 ^ W * P),Int.add_assoc]
  congr 1
  rw [Int.mul_assoc (18446744073709551616 ^ (W + i)),← Int.mul_add,Int.pow_add,← hsum,← hPQ]
  generalize (P * Q) ^ W = A
  generalize (P * Q) ^ i = C
  rw [Int.mul_comm lo P,Int.mul_assoc P Q hi,← Int.mul_add,Int.mul_assoc A P,Int.mul_left_comm P C,Int.mul_assoc A C]
theorem RaisedAt.digs {xs L:List Int} {W i:Nat} {P:Int} (h:RaisedAt xs W P i L):Dig L:=Dig.of_get fun j _=>h.dig j
theorem Tryz.info73:(Tryz.prog.info? 73).map (fun i=>(i.zero,i.size,i.bytes)) = some (some (.int .u64 0),1,8):=by kernel_rfl
end Go.Proofs.Wd
namespace Go.Proofs.Wd
open Go.RowKit
/-- What holds at the head of lowered's loop. -/
structure LoweredAt (ys:List Int) (P Q:Int) (i:Nat) (L:List Int):Prop where
 len:L.length = ys.length
 dig:∀ j,0 ≤ L.getD j 0 ∧ L.getD j 0 ≤ 18446744073709551615
 mid:0 < i → L.getD (i - 1) 0 < Q
 rest:∀ j,i ≤ j → L.getD j 0 = 0
 sum:val L = val (ys.take i) / P
theorem LoweredAt.start (ys:List Int) (P Q:Int):LoweredAt ys P Q 0 (List.replicate ys.length 0):=by
 have z:∀ j,(List.replicate ys.length (0:Int)).getD j 0 = 0:=fun j=>by
  simp [List.getD,List.getElem?_replicate]; split <;> simp
 refine ⟨by simp,fun j=>by rw [z]; omega,fun h=>by omega,fun j _=>z j,by rw [val_zeros]; simp⟩
/-- A word that is lowered: its upper part, and what goes one word down. -/
theorem cutLow {x:Int} {p:Int} (h0:0 ≤ x) (h1:x ≤ 18446744073709551615) (p0:0 ≤ p) (p1:p ≤ 63) :
 shrV x p = x / 2 ^ p.toNat ∧ shlV x (64 - p) = x % 2 ^ p.toNat * 2 ^ (64 - p).toNat ∧ (2:Int) ^ p.toNat * 2 ^ (64 - p).toNat = 18446744073709551616 ∧ (0:Int) < 2 ^ p.toNat ∧ (0:Int) < 2 ^ (64 - p).toNat:=by
 have hP:(0:Int) < 2 ^ p.toNat:=Int.pow_pos (by omega)
 have hQ:(0:Int) < 2 ^ (64 - p).toNat:=Int.pow_pos (by omega)
 have hPQ:(2:Int) ^ p.toNat * 2 ^ (64 - p).toNat = 18446744073709551616:=by
  rw [← Int.pow_add,show p.toNat + (64 - p).toNat = 64 by omega]; rfl
 rw [shlPos x (64 - p) (by omega) (by omega),shrPos x p (by omega) (by omega)]
 generalize (2:Int) ^ p.toNat = P at *
 generalize (2:Int) ^ (64 - p).toNat = Q at *
 refine ⟨rfl,?_,hPQ,hP,hQ⟩
 rw [← hPQ,Int.mul_comm x Q,Int.mul_comm P Q,Int.mul_emod_mul_of_pos _ _ hQ,Int.mul_comm]
theorem LoweredAt.first {ys L:List Int} {P Q x:Int} (h:LoweredAt ys P Q 0 L) (hi:0 < ys.length) (hx:ys.getD 0 0 = x) (hPQ:P * Q = 18446744073709551616) (hP:0 < P) (hQ:0 < Q) (x0:0 ≤ x) (x1:x ≤ 18446744073709551615) :
 LoweredAt ys P Q 1 (L.set 0 (x / P)):=by
 have hl:=h.len
 have hr:=h.rest 0 (by omega)
 have hq:x / P < Q:=Int.ediv_lt_of_lt_mul hP (by rw [Int.mul_comm,hPQ]; omega)
 have hq0:0 ≤ x / P:=Int.ediv_nonneg x0 (by omega)
 have hQB:Q ≤ 18446744073709551616:=by
  have:Q * 1 ≤ Q * P:=Int.mul_le_mul_of_nonneg_left (by omega) (by omega)
  rw [Int.mul_comm Q P,hPQ] at this; omega
 refine ⟨by rw [List.length_set]; exact hl,fun j=>?_,fun _=>by rw [getD_set_self _ (by omega)]; exact hq,fun j hj=>?_,?_⟩
 ·by_cases e:0 = j
  ·subst e; rw [getD_set_self _ (by omega)]; omega
  ·rw [getD_set_ne _ e]; exact h.dig j
 ·rw [getD_set_ne _ (by omega)]; exact h.rest j (by omega)
 ·rw [val_set _ _ _ (by omega),hr,h.sum,val_take_succ _ _ hi,hx]; simp
theorem LoweredAt.step {ys L:List Int} {i:Nat} {P Q x:Int} (h:LoweredAt ys P Q (i + 1) L) (hi:i + 1 < ys.length) (hx:ys.getD (i + 1) 0 = x) (hPQ:P * Q = 18446744073709551616) (hP:0 < P) (hQ:0 < Q) (x0:0 ≤ x) (x1:x ≤ 18446744073709551615) :
 L.getD i 0 + x % P * Q ≤ 18446744073709551615 ∧ LoweredAt ys P Q (i + 2) ((L.set (i + 1) (x / P)).set i (L.getD i 0 + x % P * Q)):=by
 have hl:=h.len
 have hr:=h.rest (i + 1) (by omega)
 have hm:=h.mid (by omega)
 rw [Nat.add_sub_cancel] at hm
 have hd:=h.dig i
 have hq:x / P < Q:=Int.ediv_lt_of_lt_mul hP (by rw [Int.mul_comm,hPQ]; omega)
 have hq0:0 ≤ x / P:=Int.ediv_nonneg x0 (by omega)
 have hr0:0 ≤ x % P:=Int.emod_nonneg _ (by omega)
 have hr1:x % P < P:=Int.emod_lt_of_pos _ hP
 have hQB:Q ≤ 18446744073709551616:=by
  have:Q * 1 ≤ Q * P:=Int.mul_le_mul_of_nonneg_left (by omega) (by omega)
  rw [Int.mul_comm Q P,hPQ] at this; omega
 have hrQ:x % P * Q ≤ (P - 1) * Q:=Int.mul_le_mul_of_nonneg_right (by omega) (by omega)
 have e1:(P - 1) * Q = 18446744073709551616 - Q:=by rw [Int.sub_mul,hPQ]; omega
 have hrQ0:0 ≤ x % P * Q:=Int.mul_nonneg hr0 (by omega)
 refine ⟨by omega,by simp only [List.length_set]; exact hl,fun j=>?_,fun _=>?_,fun j hj=>?_,?_⟩
 ·by_cases e:i = j
  ·subst e; rw [getD_set_self _ (by simp only [List.length_set]; omega)]; omega
  ·rw [getD_set_ne _ e]
   by_cases e2:i + 1 = j
   ·subst e2; rw [getD_set_self _ (by omega)]; omega
   ·rw [getD_set_ne _ e2]; exact h.dig j
 ·rw [show i + 2 - 1 = i + 1 by omega,getD_set_ne _ (by omega),getD_set_self _ (by omega)]; exact hq
 ·rw [getD_set_ne _ (by omega),getD_set_ne _ (by omega)]; exact h.rest j (by omega)
 ·rw [val_set _ _ _ (by simp only [List.length_set]; omega), val_set _ _ _ (by omega), getD_set_ne _ (by omega), hr, h.sum, show i + 2 = i + 1 + 1 by omega, val_take_succ _ _ hi, hx, Int.sub_zero,
   show L.getD i 0 + x % P * Q - L.getD i 0 = x % P * Q by omega,Int.pow_succ]
  have e2:(18446744073709551616:Int) ^ i * 18446744073709551616 * x = 18446744073709551616 ^ i * Q * x * P:=by
   rw [← hPQ]
   generalize (P * Q) ^ i = A
   rw [Int.mul_comm P Q,← Int.mul_assoc,Int.mul_assoc (A * Q) P x,Int.mul_comm P x,← Int.mul_assoc]
  rw [e2,Int.add_mul_ediv_right _ _ (by omega),Int.add_assoc]
  congr 1
  have e3:x = P * (x / P) + x % P:=(Int.mul_ediv_add_emod x P).symm
  conv=>rhs; rw [e3]
  rw [Int.mul_add,← hPQ]
  generalize (P * Q) ^ i = A
  generalize x / P = u
  generalize x % P = v
  rw [Int.mul_comm P Q,← Int.mul_assoc A Q P,Int.mul_assoc (A * Q) P u,Int.mul_comm v Q,← Int.mul_assoc A Q v]
theorem LoweredAt.digs {ys L:List Int} {i:Nat} {P Q:Int} (h:LoweredAt ys P Q i L):Dig L:=Dig.of_get fun j _=>h.dig j
theorem val_drop_div {xs:List Int} (hx:Dig xs) (W:Nat):val (xs.drop W) = val xs / 18446744073709551616 ^ W:=by
 have h:=val_parts xs W
 have h1:=take_lt hx W
 have h2:=val_nonneg (hx.take W)
 have hp:=pow_pos' W
 rw [h,Int.add_mul_ediv_left _ _ (by omega),Int.ediv_eq_zero_of_lt h2 h1]
 simp
theorem lowAll {xs:List Int} (hx:Dig xs) (W:Nat) (r k:Int) (r0:0 ≤ r) (hk:k = 64 * W + r):val (xs.drop W) / 2 ^ r.toNat = val xs / 2 ^ k.toNat:=by
 rw [val_drop_div hx,Int.ediv_ediv_of_nonneg (by have:=pow_pos' W; omega),pow64,← Int.pow_add,show 64 * W + r.toNat = k.toNat by omega]
theorem val_over {xs:List Int} (hx:Dig xs) {W:Nat} {r k:Int} (hW:xs.length ≤ W) (r0:0 ≤ r) (hk:k = 64 * W + r):val xs / 2 ^ k.toNat = 0:=by
 refine Int.ediv_eq_zero_of_lt (val_nonneg hx) ?_
 have h1:=val_lt hx
 have h2:=pow_mono' hW
 rw [pow64 W] at h2
 have h3:(2:Int) ^ k.toNat = 2 ^ (64 * W) * 2 ^ r.toNat:=by rw [← Int.pow_add,show 64 * W + r.toNat = k.toNat by omega]
 have h4:(0:Int) < 2 ^ r.toNat:=Int.pow_pos (by omega)
 have h5:(2:Int) ^ (64 * W) * 1 ≤ 2 ^ (64 * W) * 2 ^ r.toNat:=Int.mul_le_mul_of_nonneg_left (by omega) (by have:(0:Int) < 2 ^ (64 * W):=Int.pow_pos (by omega); omega)
 omega
theorem Tryz.lowered (v:Value) (xs:List Int) (k:Int) (w:World) (h:Digs w v xs) (hx:Dig xs) (k0:0 ≤ k) (k1:k ≤ 100000) (hlen:xs.length ≤ 1000000000000) :
 Calls Tryz.prog 195 #[v,.int .i64 k] w fun e w'=>(∃ v' L,e = .returned v' ∧ Digs w' v' L ∧ Dig L ∧ L.length ≤ xs.length ∧ val L = val xs / 2 ^ k.toNat) ∧ Below w.heap.size w w':=by
 obtain ⟨p,cap,rfl,hxl,hxr⟩:=h.slice
 obtain ⟨i0,hi,hz0,hz1,hz2⟩:=info_parts Tryz.info73
 have HX:Hid (0 < xs.length → ∃ g,p = some ⟨g,0,none⟩ ∧ RowAt w g cap xs):=hxr
 clear hxr h
 obtain ⟨W,hW⟩:∃ W:Nat,k / 64 = W:=⟨(k / 64).toNat,by omega⟩
 obtain ⟨r,hr⟩:∃ r:Int,k % 64 = r:=⟨_,rfl⟩
 have hk:k = 64 * W + r ∧ 0 ≤ r ∧ r ≤ 63:=by omega
 obtain ⟨hk,r0,r1⟩:=hk
 have HK:Hid (k = 64 * W + r):=hk
 have hW1:W ≤ 1563:=by omega
 clear hk
 obtain ⟨l,hl⟩:∃ l,xs.length = l:=⟨_,rfl⟩
 by_cases hWl:l ≤ W
 ·have H0:Hid (val xs / 2 ^ k.toNat = 0):=val_over hx (by omega) r0 HK.out
  rw [hl] at hxl hlen HX
  rw [hl]
  go_enter Tryz.func195,Tryz.ntmps195
  go_wp2
  go_ret
  exact ⟨⟨_,[],rfl,Digs.nil _,Dig.nil,by simp,by rw [H0.out]; rfl⟩,Below.refl _ _⟩
 ·obtain ⟨g,rfl,hg⟩:=HX.out (by omega)
  obtain ⟨m,hm⟩:∃ m,l - W = m:=⟨_,rfl⟩
  have hfit:=hg.fits
  have hmax:=hg.max
  unfold maxLen at hmax
  rw [hl] at hxl hlen HX hfit
  rw [hl]
  go_enter Tryz.func195,Tryz.ntmps195
  have HM:Hid (l - W = m):=hm
  have hm0:m ≤ 1000000000000:=by omega
  go_wp2_with (first
   |(refine wpList_make_full _ rfl _ _ 139 rfl w.heap.size 73 i0 (.int .u64 0) 1 Tryz.underlying139 hi hz0 hz1 .i64 .i64 _ _ m rfl rfl rfl rfl (by rw [hz2]; omega) (by unfold maxLen; omega) (by omega) ?_))
  intro w1 hown hgrow
  have hrow1:=RowOf.of_made (by rw [toList_madeCells_one] at hown; exact hown)
  have hb1:Below w.heap.size w w1:=(Below.refl _ _).grown hgrow (Nat.le_refl _) (fun k hk=>by cases hk)
  have hyl:(xs.drop W).length = m:=by rw [List.length_drop,hl]; omega
  have HY:Hid ((xs.drop W).length = m):=hyl
  clear hown hgrow hyl hm
  go_wp2
  go_loopw [26] (fun i wr=>∃ (j:Nat) (L:List Int),i = .int .i64 j ∧ j ≤ m ∧ RowOf wr w.heap.size L ∧ LoweredAt (xs.drop W) (2 ^ r.toNat) (2 ^ (64 - r).toNat) j L ∧ Below w.heap.size w wr) (fun i _=>m - (intOf i).toNat)
  case atStart=>exact ⟨0,List.replicate m 0,rfl,by omega,hrow1,by rw [← HY.out]; exact LoweredAt.start _ _ _,hb1⟩
  case round=>
   obtain ⟨j,L,rfl,hj,hrow,hat,hb⟩:=hrel
   have HA:Hid (LoweredAt (xs.drop W) (2 ^ r.toNat) (2 ^ (64 - r).toNat) j L):=hat
   have HB:Hid (Below w.heap.size w wr):=hb
   have HR:Hid (RowOf wr w.heap.size L):=hrow
   have hLn:L.length = m:=by rw [hat.len,HY.out]
   by_cases hjm:j = m
   ·subst hjm
    clear hrow hat hb
    have HD:Hid (Digs wr (.slice (some ⟨w.heap.size,0,none⟩) j j) L):=by
     have h:=HR.out.digs (by unfold maxLen; omega)
     rw [hLn] at h
     exact h
    have HS:Hid (val L = val xs / 2 ^ k.toNat):=by
     have h:=HA.out.sum
     rw [List.take_of_length_le (by rw [HY.out]; omega),lowAll hx W r k r0 HK.out] at h
     exact h
    clear hLn
    go_wp2
    go_ret
    exact ⟨⟨_,L,rfl,HD.out,HA.out.digs,by rw [HA.out.len,HY.out]; have:=HM.out; omega,HS.out⟩,HB.out⟩
   ·obtain ⟨x,hxj⟩:∃ x,(xs.drop W).getD j 0 = x:=⟨_,rfl⟩
    have hxd:=(hx.drop W).get j
    rw [hxj] at hxd
    have hxj':xs.getD (W + j) 0 = x:=by
     rw [← hxj]; simp [List.getD,List.getElem?_drop]
    obtain ⟨c1,c2,c3,c4,c5⟩:=cutLow hxd.1 hxd.2 r0 r1
    have hcx:=(hb.cell (p:=⟨g,W + j,none⟩) hg.lt).trans (hg.cells (W + j) (by have:=HM.out; omega))
    rw [hxj'] at hcx
    have hgO:g ≠ w.heap.size:=by have:=hg.lt; omega
    obtain ⟨up,hup⟩:∃ up,shrV x r = up:=⟨_,rfl⟩
    obtain ⟨dn,hdn⟩:∃ dn,shlV x (64 - r) = dn:=⟨_,rfl⟩
    have HSHR:Hid (∀ w,Calls Tryz.prog 229 #[.int .u64 x,.int .i64 r] w fun e w'=>e = .returned (.int .u64 up) ∧ w' = w):=fun w=>by
     rw [← hup]; exact Tryz.Shr x r w hxd.1 hxd.2 (by omega) (by omega)
    have HSHL:Hid (∀ w,Calls Tryz.prog 228 #[.int .u64 x,.int .i64 (64 - r)] w fun e w'=>e = .returned (.int .u64 dn) ∧ w' = w):=fun w=>by
     rw [← hdn]; exact Tryz.Shl x (64 - r) w hxd.1 hxd.2 (by omega) (by omega)
    have hcz:=hrow.cell (j:=j) (by omega)
    have hfr:=hrow.frozen j
    cases j with
    | zero =>
      rw [Nat.add_zero] at hcx
      have HST:Hid (LoweredAt (xs.drop W) (2 ^ r.toNat) (2 ^ (64 - r).toNat) 1 (L.set 0 up)):=by
       have h:=hat.first (by rw [HY.out]; omega) hxj c3 c4 c5 hxd.1 hxd.2
       rw [← c1,hup] at h
       exact h
      have HR2:Hid (RowOf (wr.setCell ⟨w.heap.size,0,none⟩ (.int .u64 up)) w.heap.size (L.set 0 up)):=HR.out.set _ _
      have HB2:Hid (Below w.heap.size w (wr.setCell ⟨w.heap.size,0,none⟩ (.int .u64 up))):=HB.out.setCell (Nat.le_refl _) _
      have hm1:0 < m:=by omega
      clear hrow hat hb hxj hxj' c1 c2 c3 c4 c5 hup hdn
      go_wp2_with (go_at_call 229; (with_reducible refine (HSHR.out _).mono ?_); rintro e w' ⟨rfl,rfl⟩)
      exact ⟨⟨1,_,rfl,by omega,HR2.out,HST.out,HB2.out⟩,by simp [intOf]; omega⟩
    | succ j =>
      obtain ⟨c,hc⟩:∃ c,L.getD j 0 = c:=⟨_,rfl⟩
      have hcd:=hat.dig j
      have hcm:=hat.mid (by omega)
      rw [Nat.add_sub_cancel] at hcm
      rw [hc] at hcd hcm
      have hst:=hat.step (by rw [HY.out]; omega) hxj c3 c4 c5 hxd.1 hxd.2
      rw [hc,← c1,← c2,hup,hdn] at hst
      have hr0:0 ≤ x % 2 ^ r.toNat:=Int.emod_nonneg _ (by omega)
      have hdn0:0 ≤ dn:=by rw [← hdn,c2]; exact Int.mul_nonneg hr0 (by omega)
      have hor:=orMid c (x % 2 ^ r.toNat) (64 - r).toNat hcd.1 hcm hr0 (by rw [← c2,hdn]; exact hst.1)
      rw [← c2,hdn] at hor
      have hsh:=hst.1
      have HST:Hid (LoweredAt (xs.drop W) (2 ^ r.toNat) (2 ^ (64 - r).toNat) (j + 2) ((L.set (j + 1) up).set j (c + dn))):=hst.2
      have HR1:Hid (RowOf (wr.setCell ⟨w.heap.size,j + 1,none⟩ (.int .u64 up)) w.heap.size (L.set (j + 1) up)):=HR.out.set _ _
      have HB1:Hid (Below w.heap.size w (wr.setCell ⟨w.heap.size,j + 1,none⟩ (.int .u64 up))):=HB.out.setCell (Nat.le_refl _) _
      have hm1:j + 1 < m:=by omega
      have HC:Hid (L.getD j 0 = c):=hc
      clear hrow hat hb hxj hxj' c1 c2 c3 c4 c5 hup hdn hc hcm hst
      go_wp2_with (go_at_call 229; (with_reducible refine (HSHR.out _).mono ?_); rintro e w' ⟨rfl,rfl⟩)
      have hwj:IntKind.i64.wrap (j:Int) = (j:Int):=by simp [IntKind.wrap,IntKind.signed,IntKind.bits]; omega
      have hwr:IntKind.i64.wrap (64 - r) = 64 - r:=by simp [IntKind.wrap,IntKind.signed,IntKind.bits]; omega
      have hjm':(j:Int) < (m:Int):=by omega
      have hwj1:IntKind.i64.wrap ((j:Int) + 1 - 1) = (j:Int):=by rw [show (j:Int) + 1 - 1 = j by omega]; exact hwj
      generalize hW1:w'.setCell { block:=w.heap.size,off:=j + 1 } (Value.int IntKind.u64 up) = W1 at *
      have hfrd:W1.drew.frozen? ⟨w.heap.size,j,none⟩ = false:=HR1.out.frozen j
      have hccd:W1.drew.cell? ⟨w.heap.size,j,none⟩ = some (.int .u64 c):=by
       have h:=HR1.out.cell (j:=j) (by rw [List.length_set]; omega)
       rw [getD_set_ne _ (by omega),HC.out] at h
       exact h
      have HR2:Hid (RowOf (W1.drew.setCell ⟨w.heap.size,j,none⟩ (.int .u64 (c + dn))) w.heap.size ((L.set (j + 1) up).set j (c + dn))):=HR1.out.drew.set _ _
      have HB2:Hid (Below w.heap.size w (W1.drew.setCell ⟨w.heap.size,j,none⟩ (.int .u64 (c + dn)))):=HB1.out.drew.setCell (Nat.le_refl _) _
      clear hW1 hcx hcz hfr
      go_still_tail 11,(by kernel_rfl)
      still_call (HSHL.out _)
      repeat still_step
      refine wpStill_nil ?_
      change wpList _ _ _ _ _ W1.drew
      generalize W1.drew = W0 at *
      go_wp2
      exact ⟨⟨j + 2,_,by simp; omega,by omega,HR2.out,HST.out,HB2.out⟩,by simp [intOf]; omega⟩
end Go.Proofs.Wd
namespace Go.Proofs.Wd
open Go.RowKit
/-- v is a number of the package nat, nil or not, with the words xs. -/
def IsNat (w:World) (v:Value) (xs:List Int):Prop:=(v = .pointer none ∧ xs = []) ∨ ∃ a s,v = .pointer (some ⟨a,0,none⟩) ∧ a < w.heap.size ∧ w.cell? ⟨a,0,none⟩ = some s ∧ Digs w s xs
theorem IsNat.below {w w':World} {v:Value} {xs:List Int} {B:Nat} (h:IsNat w v xs) (hb:Below B w w') (hB:w.heap.size ≤ B):IsNat w' v xs:=by
 rcases h with h | ⟨a,s,h1,h2,h3,h4⟩
 ·exact .inl h
 ·exact .inr ⟨a,s,h1,by have:=hb.size; omega,(hb.cell (p:=⟨a,0,none⟩) (by show a < B; omega)).trans h3,h4.below hb hB⟩
/-- v holds the number z, by at most n words. -/
def Num (w:World) (v:Value) (z:Int) (n:Nat):Prop:=∃ xs,IsNat w v xs ∧ Dig xs ∧ Top xs ∧ val xs = z ∧ xs.length ≤ n
theorem Num.below {w w':World} {v:Value} {z:Int} {n B:Nat} (h:Num w v z n) (hb:Below B w w') (hB:w.heap.size ≤ B):Num w' v z n:=by
 obtain ⟨xs,h1,h2⟩:=h
 exact ⟨xs,h1.below hb hB,h2⟩
theorem Tryz.all (v:Value) (xs:List Int) (w:World) (h:IsNat w v xs) :
 Calls Tryz.prog 104 #[v] w fun e w'=>(∃ s,e = .returned s ∧ Digs w s xs) ∧ w' = w:=by
 rcases h with ⟨rfl,rfl⟩ | ⟨a,s,rfl,h2,h3,h4⟩
 ·go_enter Tryz.func104,Tryz.ntmps104
  go_wp2
  go_ret
  exact ⟨⟨_,rfl,Digs.nil _⟩,rfl⟩
 ·have H4:Hid (Digs w s xs):=h4
  clear h4
  go_enter Tryz.func104,Tryz.ntmps104
  go_wp2
  go_ret
  exact ⟨⟨_,rfl,H4.out⟩,rfl⟩
theorem Tryz.made (v:Value) (xs:List Int) (w:World) (h:Digs w v xs) (hx:Dig xs) :
 Calls Tryz.prog 97 #[v] w fun e w'=>(∃ v',e = .returned v' ∧ Num w' v' (val xs) xs.length) ∧ Below w.heap.size w w':=by
 obtain ⟨p,cap,rfl,hlen,hrow⟩:=h.slice
 have H:Hid (Digs w (.slice p xs.length cap) xs):=h
 clear h hrow
 have hbd:∀ (k:Nat) (w:World),(Instr.build 192 #[(0,.slice p k cap)]).run Tryz.prog w = .ok (.agg #[.slice p k cap]) w:=fun k w=>run_build w 192 _ _ (by kernel_rfl)
 go_enter Tryz.func97,Tryz.ntmps97
 go_wp2_with (go_at_call 108; (refine (Tryz.trim p cap xs _ H.out).mono ?_); rintro e w' ⟨⟨k,rfl,hk,ht,hv⟩,rfl⟩; have HT:Hid (k ≤ xs.length ∧ Top (xs.take k) ∧ val (xs.take k) = val xs):=⟨hk,ht,hv⟩; clear hk ht hv)
 go_ret
 obtain ⟨hk,ht,hv⟩:=HT.out
 refine ⟨⟨_,rfl,xs.take k,.inr ⟨w'.heap.size,.slice p k cap,rfl,by simp,by simp,?_⟩,hx.take k,ht,hv,by rw [List.length_take]; omega⟩,(Below.refl _ _).alloc (Nat.le_refl _) _⟩
 exact (H.out.cut k hk).below ((Below.refl w'.heap.size w').alloc (Nat.le_refl _) _) (Nat.le_refl _)
theorem Below.after {a b c:World} (h:Below a.heap.size a b) (k:Below b.heap.size b c):Below a.heap.size a c:=h.trans (k.mono h.size)
theorem Num.fewer {w:World} {v:Value} {z:Int} {n m:Nat} (h:Num w v z n) (hm:n ≤ m):Num w v z m:=by
 obtain ⟨xs,h1,h2,h3,h4,h5⟩:=h
 exact ⟨xs,h1,h2,h3,h4,by omega⟩
theorem Tryz.Cmp (v u:Value) (z y:Int) (n m:Nat) (w:World) (hv:Num w v z n) (hu:Num w u y m) :
 Calls Tryz.prog 133 #[v,u] w fun e w'=>e = .returned (.int .i64 (cmpI z y)) ∧ Below w.heap.size w w':=by
 obtain ⟨xs,hi,hd,ht,hz,hl⟩:=hv
 obtain ⟨ys,gi,gd,gt,gz,gl⟩:=hu
 have HI:Hid (IsNat w v xs):=hi
 have GI:Hid (IsNat w u ys):=gi
 have HC:Hid (∀ s t,Digs w s xs → Digs w t ys → Calls Tryz.prog 172 #[s,t] w fun e w'=>e = .returned (.int .i64 (cmpI z y)) ∧ Below w.heap.size w w'):=fun s t hs ht'=>by
  rw [← hz,← gz]; exact Tryz.compare s t xs ys w hs ht' hd gd ht gt
 clear hi gi hd gd ht gt hz gz
 go_enter Tryz.func133,Tryz.ntmps133
 go_wp2_with (first
  |(go_at_call 104; (first | (refine (Tryz.all v xs _ HI.out).mono ?_; rintro e w1 ⟨⟨s,rfl,hs⟩,rfl⟩; have HS:Hid (Digs w1 s xs):=hs; clear hs HI) | (refine (Tryz.all u ys _ GI.out).mono ?_; rintro e w2 ⟨⟨t,rfl,hs⟩,rfl⟩; have HT:Hid (Digs w2 t ys):=hs; clear hs)))
  |(go_at_call 172; (with_reducible refine (HC.out _ _ HS.out HT.out).mono ?_); rintro e w3 ⟨rfl,hb⟩))
 go_ret
 exact ⟨rfl,hb⟩
end Go.Proofs.Wd
