/- What work of the package nat writes: a rest made of so many of one row, so many of another. -/
import Derived.Test.YtcnjcfoaoaldeaaGreatDoorQw
import Derived.Deep.QuietTactic
import Derived.BigQuiet
set_option linter.unusedVariables false
set_option maxHeartbeats 8000000
set_option maxRecDepth 100000
namespace Go.Proofs.Wd
open Go.RowKit
/-- What holds at the head of work's loop: p of ps, q of qs taken off, k words done. -/
structure WorkAt (ps qs:List Int) (p q:Int) (len:Nat) (k:Nat) (a b:Int) (c:Bool) (M:List Int):Prop where
 len:M.length = len
 dig:Dig M
 sum:val (M.take k) + q * val (qs.take k) + 18446744073709551616 ^ k * a = p * val (ps.take k) + 18446744073709551616 ^ k * (b + cI c)
 a0:0 ≤ a
 a1:a ≤ 18446744073709551615
 b0:0 ≤ b
 b1:b ≤ 18446744073709551615
theorem WorkAt.start (ps qs:List Int) (p q:Int) {L:List Int} (h:Dig L):WorkAt ps qs p q L.length 0 0 0 false L:=⟨rfl,h,by simp [cI],by omega,by omega,by omega,by omega⟩
theorem take_set_self (M:List Int) (k:Nat) (s:Int):(M.set k s).take k = M.take k:=by
 rw [List.take_set,List.set_eq_of_length_le (by rw [List.length_take]; omega)]
theorem WorkAt.step {ps qs M:List Int} {p q:Int} {len k:Nat} {a b:Int} {c d:Bool} {x y h l h2 l2 s:Int} (H:WorkAt ps qs p q len k a b c M) (hM:k < len) (hp:k < ps.length) (hq:k < qs.length) (hx:ps.getD k 0 = x) (hy:qs.getD k 0 = y)
 (e1:h * 18446744073709551616 + l = x * p + a) (e2:h2 * 18446744073709551616 + l2 = y * q + b) (e3:s + l2 + cI c = l + 18446744073709551616 * cI d) (s0:0 ≤ s) (s1:s ≤ 18446744073709551615)
 (h0:0 ≤ h) (h1:h ≤ 18446744073709551615) (i0:0 ≤ h2) (i1:h2 ≤ 18446744073709551615):WorkAt ps qs p q len (k + 1) h h2 d (M.set k s):=by
 have hl:=H.len
 refine ⟨by rw [List.length_set,hl],Dig.set H.dig k s0 s1,?_,h0,h1,i0,i1⟩
 rw [val_take_succ _ _ (by rw [List.length_set]; omega),val_take_succ _ _ hp,val_take_succ _ _ hq,take_set_self,hx,hy,Int.pow_succ]
 have hg:(M.set k s).getD k 0 = s:=by simp [List.getD,show k < M.length by omega]
 rw [hg]
 have hs:=H.sum
 generalize (18446744073709551616:Int) ^ k = P at *
 generalize val (M.take k) = m at *
 generalize val (ps.take k) = vp at *
 generalize val (qs.take k) = vq at *
 generalize cI c = cc at *
 generalize cI d = dd at *
 grind
theorem WorkAt.last {ps qs M:List Int} {p q:Int} {len n:Nat} {a b:Int} {c:Bool} (H:WorkAt ps qs p q len n a b c M) (hn:n ≤ len) (hp:ps.length = n) (hq:qs.length = n) (h0:0 ≤ p * val ps - q * val qs) (h1:p * val ps - q * val qs < 18446744073709551616 ^ n):val (M.take n) = p * val ps - q * val qs:=by
 have hs:=H.sum
 have ep:ps.take n = ps:=List.take_of_length_le (by omega)
 have eq:qs.take n = qs:=List.take_of_length_le (by omega)
 rw [ep,eq] at hs
 have m0:=val_nonneg (H.dig.take n)
 have m1:=take_lt H.dig n
 have hP:=pow_pos' n
 generalize (18446744073709551616:Int) ^ n = P at *
 have e:val (M.take n) = p * val ps - q * val qs + P * (b + cI c - a):=by grind
 generalize b + cI c - a = t at *
 have:t = 0:=by
  by_cases g:1 ≤ t
  ·have:P * 1 ≤ P * t:=Int.mul_le_mul_of_nonneg_left g (by omega)
   omega
  ·by_cases g2:t ≤ -1
   ·have:P * t ≤ P * (-1):=Int.mul_le_mul_of_nonneg_left g2 (by omega)
    omega
   ·omega
 rw [e,this]; simp
theorem grownBy_alloc (w:World) (o:Obj) (row:Option Nat):w.grownBy (w.alloc o) row:=
 ⟨rfl,rfl,rfl,by simp,fun k hk _=>by show (w.heap.push o)[k]? = _; rw [Array.getElem?_push_lt hk]; simp [hk]⟩
theorem Tryz.workAhead (u v:Int) (gz capz n gx capx gy capy:Nat) (L xs ys:List Int) (w:World) (hz:RowOf w gz L) (hL:Dig L) (hfit:n ≤ L.length) (hlen:L.length ≤ 1000000000000) (hx:RowAt w gx capx xs) (hy:RowAt w gy capy ys) (hxl:xs.length = n) (hyl:ys.length = n) (hxd:Dig xs) (hyd:Dig ys) (hxz:gx ≠ gz) (hyz:gy ≠ gz)
 (u0:0 ≤ u) (u1:u ≤ 18446744073709551615) (v0:0 ≤ v) (v1:v ≤ 18446744073709551615) (h0:0 ≤ u * val xs - v * val ys) (h1:u * val xs - v * val ys < 18446744073709551616 ^ n) :
 Calls Tryz.prog 236 #[.agg #[.int .u64 u,.int .u64 v],.slice (some ⟨gz,0,none⟩) n capz,.slice (some ⟨gx,0,none⟩) n capx,.slice (some ⟨gy,0,none⟩) n capy,.bool true] w fun e w'=>
  (∃ M,e = .returned (.tuple #[]) ∧ RowOf w' gz M ∧ Dig M ∧ M.length = L.length ∧ val (M.take n) = u * val xs - v * val ys) ∧ w.grownBy w' (some gz):=by
 have HZ:Hid (RowOf w gz L):=hz
 have HXR:Hid (RowAt w gx capx xs):=hx
 have HYR:Hid (RowAt w gy capy ys):=hy
 have HXL:Hid (xs.length = n):=hxl
 have HYL:Hid (ys.length = n):=hyl
 have HXD:Hid (Dig xs):=hxd
 have HYD:Hid (Dig ys):=hyd
 have HLD:Hid (Dig L):=hL
 have H0:Hid (0 ≤ u * val xs - v * val ys):=h0
 have H1:Hid (u * val xs - v * val ys < 18446744073709551616 ^ n):=h1
 obtain ⟨N,hN⟩:∃ N,L.length = N:=⟨_,rfl⟩
 have HN:Hid (L.length = N):=hN
 rw [hN] at hfit hlen
 rw [hN]
 have hgz:=hz.lt
 have hgx:=hx.lt
 have hgy:=hy.lt
 have hcxm:=hx.fits
 have hcym:=hy.fits
 rw [hxl] at hcxm
 rw [hyl] at hcym
 clear hz hx hy hxl hyl hxd hyd hL h0 h1 hN
 go_enter Tryz.func236,Tryz.ntmps236
 go_wp2
 go_quiet (fail)
 have HG0:Hid (w.grownBy ((w.alloc (.cells #[.int .u64 u,.int .u64 v] 270)).drewN nq) (some gz)):=grownBy_drewN (grownBy_alloc _ _ _) _
 have HZ0:Hid (RowOf ((w.alloc (.cells #[.int .u64 u,.int .u64 v] 270)).drewN nq) gz L):=by
  show RowOf _ _ _
  refine RowOf.drewN ?_ _
  exact HZ.out.below ((Below.refl _ _).alloc (Nat.le_refl _) _) hgz
 go_wp2
 generalize (w.alloc (.cells #[.int .u64 u,.int .u64 v] 270)).drewN nq = w0 at *
 go_loopw [12,13,14,31] (fun ov lv bv i wr=>∃ (a b:Int) (c:Bool) (k:Nat) (M:List Int),ov = .int .u64 a ∧ lv = .int .u64 b ∧ bv = .bool c ∧ i = .int .i64 k ∧ k ≤ n ∧ WorkAt xs ys u v N k a b c M ∧ RowOf wr gz M ∧ w.grownBy wr (some gz)) (fun _ _ _ i _=>n - (intOf i).toNat)
 case atStart=>exact ⟨0,0,false,0,L,rfl,rfl,rfl,rfl,by omega,by rw [← HN.out]; exact WorkAt.start _ _ _ _ HLD.out,HZ0.out,HG0.out⟩
 case round=>
  obtain ⟨a,b,c,k,M,rfl,rfl,rfl,rfl,hk,hat,hrow,hg⟩:=hrel
  have HA:Hid (WorkAt xs ys u v N k a b c M):=hat
  have HR:Hid (RowOf wr gz M):=hrow
  have HG:Hid (w.grownBy wr (some gz)):=hg
  have a0:=hat.a0
  have a1:=hat.a1
  have b0:=hat.b0
  have b1:=hat.b1
  by_cases hkn:k = n
  ·subst hkn
   clear hat hrow hg
   go_wp2
   go_end0
   have hl:=HA.out.last hfit HXL.out HYL.out H0.out H1.out
   exact ⟨⟨M,rfl,HR.out,HA.out.dig,HA.out.len,hl⟩,HG.out⟩
  ·obtain ⟨x,hx⟩:∃ x,xs.getD k 0 = x:=⟨_,rfl⟩
   obtain ⟨y,hy⟩:∃ y,ys.getD k 0 = y:=⟨_,rfl⟩
   have hcx:wr.cell? ⟨gx,k,none⟩ = some (.int .u64 (xs.getD k 0)):=hg.cell (HXR.out.cells k (by have:=HXL.out; omega)) (by simp; omega)
   have hcy:wr.cell? ⟨gy,k,none⟩ = some (.int .u64 (ys.getD k 0)):=hg.cell (HYR.out.cells k (by have:=HYL.out; omega)) (by simp; omega)
   obtain ⟨z,hz⟩:∃ z,M.getD k 0 = z:=⟨_,rfl⟩
   have hcz:=hrow.cell (j:=k) (by rw [hat.len]; omega)
   have hfr:=hrow.frozen k
   have hxd:=HXD.out.get k
   have hyd:=HYD.out.get k
   rw [hx] at hcx hxd
   rw [hy] at hcy hyd
   rw [hz] at hcz
   have HX:Hid (xs.getD k 0 = x):=hx
   have HY:Hid (ys.getD k 0 = y):=hy
   clear hat hrow hg hx hy hz
   go_wp2_with fail
   with_reducible refine (Tryz.row x u a _ hxd.1 hxd.2 u0 u1 a0 a1).mono ?_
   rintro e w' ⟨⟨h,l,he,h0,h1,l0,l1,rfl⟩,rfl⟩
   have HE:Hid (h * 18446744073709551616 + l = x * u + a):=he
   clear he
   go_wp2_with fail
   with_reducible refine (Tryz.row y v b _ hyd.1 hyd.2 v0 v1 b0 b1).mono ?_
   rintro e w' ⟨⟨h2,l2,he2,i0,i1,j0,j1,rfl⟩,rfl⟩
   have HE2:Hid (h2 * 18446744073709551616 + l2 = y * v + b):=he2
   clear he2
   go_wp2_with fail
   with_reducible refine (Tryz.SubX l l2 c _ l0 l1 j0 j1).mono ?_
   rintro e w' ⟨⟨s,d,hs,s0,s1,rfl⟩,rfl⟩
   have HST:Hid (WorkAt xs ys u v N (k + 1) h h2 d (M.set k s)):=HA.out.step (by omega) (by have:=HXL.out; omega) (by have:=HYL.out; omega) HX.out HY.out HE.out HE2.out hs s0 s1 h0 h1 i0 i1
   clear hs
   go_wp2
   exact ⟨⟨h,h2,d,k + 1,M.set k s,rfl,rfl,rfl,by simp,by omega,HST.out,HR.out.set k s,grownBy_set HG.out _ none _⟩,by simp [intOf]; omega⟩
theorem Tryz.workBehind (u v:Int) (gz capz n gx capx gy capy:Nat) (L xs ys:List Int) (w:World) (hz:RowOf w gz L) (hL:Dig L) (hfit:n ≤ L.length) (hlen:L.length ≤ 1000000000000) (hx:RowAt w gx capx xs) (hy:RowAt w gy capy ys) (hxl:xs.length = n) (hyl:ys.length = n) (hxd:Dig xs) (hyd:Dig ys) (hxz:gx ≠ gz) (hyz:gy ≠ gz)
 (u0:0 ≤ u) (u1:u ≤ 18446744073709551615) (v0:0 ≤ v) (v1:v ≤ 18446744073709551615) (h0:0 ≤ v * val ys - u * val xs) (h1:v * val ys - u * val xs < 18446744073709551616 ^ n) :
 Calls Tryz.prog 236 #[.agg #[.int .u64 u,.int .u64 v],.slice (some ⟨gz,0,none⟩) n capz,.slice (some ⟨gx,0,none⟩) n capx,.slice (some ⟨gy,0,none⟩) n capy,.bool false] w fun e w'=>
  (∃ M,e = .returned (.tuple #[]) ∧ RowOf w' gz M ∧ Dig M ∧ M.length = L.length ∧ val (M.take n) = v * val ys - u * val xs) ∧ w.grownBy w' (some gz):=by
 have HZ:Hid (RowOf w gz L):=hz
 have HXR:Hid (RowAt w gx capx xs):=hx
 have HYR:Hid (RowAt w gy capy ys):=hy
 have HXL:Hid (xs.length = n):=hxl
 have HYL:Hid (ys.length = n):=hyl
 have HXD:Hid (Dig xs):=hxd
 have HYD:Hid (Dig ys):=hyd
 have HLD:Hid (Dig L):=hL
 have H0:Hid (0 ≤ v * val ys - u * val xs):=h0
 have H1:Hid (v * val ys - u * val xs < 18446744073709551616 ^ n):=h1
 obtain ⟨N,hN⟩:∃ N,L.length = N:=⟨_,rfl⟩
 have HN:Hid (L.length = N):=hN
 rw [hN] at hfit hlen
 rw [hN]
 have hgz:=hz.lt
 have hgx:=hx.lt
 have hgy:=hy.lt
 have hcxm:=hx.fits
 have hcym:=hy.fits
 rw [hxl] at hcxm
 rw [hyl] at hcym
 clear hz hx hy hxl hyl hxd hyd hL h0 h1 hN
 go_enter Tryz.func236,Tryz.ntmps236
 go_wp2
 go_quiet (fail)
 have HG0:Hid (w.grownBy ((w.alloc (.cells #[.int .u64 u,.int .u64 v] 270)).drewN nq) (some gz)):=grownBy_drewN (grownBy_alloc _ _ _) _
 have HZ0:Hid (RowOf ((w.alloc (.cells #[.int .u64 u,.int .u64 v] 270)).drewN nq) gz L):=by
  show RowOf _ _ _
  refine RowOf.drewN ?_ _
  exact HZ.out.below ((Below.refl _ _).alloc (Nat.le_refl _) _) hgz
 go_wp2
 generalize (w.alloc (.cells #[.int .u64 u,.int .u64 v] 270)).drewN nq = w0 at *
 go_loopw [12,13,14,31] (fun ov lv bv i wr=>∃ (a b:Int) (c:Bool) (k:Nat) (M:List Int),ov = .int .u64 a ∧ lv = .int .u64 b ∧ bv = .bool c ∧ i = .int .i64 k ∧ k ≤ n ∧ WorkAt ys xs v u N k a b c M ∧ RowOf wr gz M ∧ w.grownBy wr (some gz)) (fun _ _ _ i _=>n - (intOf i).toNat)
 case atStart=>exact ⟨0,0,false,0,L,rfl,rfl,rfl,rfl,by omega,by rw [← HN.out]; exact WorkAt.start _ _ _ _ HLD.out,HZ0.out,HG0.out⟩
 case round=>
  obtain ⟨a,b,c,k,M,rfl,rfl,rfl,rfl,hk,hat,hrow,hg⟩:=hrel
  have HA:Hid (WorkAt ys xs v u N k a b c M):=hat
  have HR:Hid (RowOf wr gz M):=hrow
  have HG:Hid (w.grownBy wr (some gz)):=hg
  have a0:=hat.a0
  have a1:=hat.a1
  have b0:=hat.b0
  have b1:=hat.b1
  by_cases hkn:k = n
  ·subst hkn
   clear hat hrow hg
   go_wp2
   go_end0
   have hl:=HA.out.last hfit HYL.out HXL.out H0.out H1.out
   exact ⟨⟨M,rfl,HR.out,HA.out.dig,HA.out.len,hl⟩,HG.out⟩
  ·obtain ⟨x,hx⟩:∃ x,ys.getD k 0 = x:=⟨_,rfl⟩
   obtain ⟨y,hy⟩:∃ y,xs.getD k 0 = y:=⟨_,rfl⟩
   have hcx:wr.cell? ⟨gy,k,none⟩ = some (.int .u64 (ys.getD k 0)):=hg.cell (HYR.out.cells k (by have:=HYL.out; omega)) (by simp; omega)
   have hcy:wr.cell? ⟨gx,k,none⟩ = some (.int .u64 (xs.getD k 0)):=hg.cell (HXR.out.cells k (by have:=HXL.out; omega)) (by simp; omega)
   obtain ⟨z,hz⟩:∃ z,M.getD k 0 = z:=⟨_,rfl⟩
   have hcz:=hrow.cell (j:=k) (by rw [hat.len]; omega)
   have hfr:=hrow.frozen k
   have hxd:=HYD.out.get k
   have hyd:=HXD.out.get k
   rw [hx] at hcx hxd
   rw [hy] at hcy hyd
   rw [hz] at hcz
   have HX:Hid (ys.getD k 0 = x):=hx
   have HY:Hid (xs.getD k 0 = y):=hy
   clear hat hrow hg hx hy hz
   go_wp2_with fail
   with_reducible refine (Tryz.row x v a _ hxd.1 hxd.2 v0 v1 a0 a1).mono ?_
   rintro e w' ⟨⟨h,l,he,h0,h1,l0,l1,rfl⟩,rfl⟩
   have HE:Hid (h * 18446744073709551616 + l = x * v + a):=he
   clear he
   go_wp2_with fail
   with_reducible refine (Tryz.row y u b _ hyd.1 hyd.2 u0 u1 b0 b1).mono ?_
   rintro e w' ⟨⟨h2,l2,he2,i0,i1,j0,j1,rfl⟩,rfl⟩
   have HE2:Hid (h2 * 18446744073709551616 + l2 = y * u + b):=he2
   clear he2
   go_wp2_with fail
   with_reducible refine (Tryz.SubX l l2 c _ l0 l1 j0 j1).mono ?_
   rintro e w' ⟨⟨s,d,hs,s0,s1,rfl⟩,rfl⟩
   have HST:Hid (WorkAt ys xs v u N (k + 1) h h2 d (M.set k s)):=HA.out.step (by omega) (by have:=HYL.out; omega) (by have:=HXL.out; omega) HX.out HY.out HE.out HE2.out hs s0 s1 h0 h1 i0 i1
   clear hs
   go_wp2
   exact ⟨⟨h,h2,d,k + 1,M.set k s,rfl,rfl,rfl,by simp,by omega,HST.out,HR.out.set k s,grownBy_set HG.out _ none _⟩,by simp [intOf]; omega⟩
end Go.Proofs.Wd
