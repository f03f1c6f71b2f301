/- What holds at the head of shortened's loop, and how each way through it keeps it. What shortened of the package nat returns: two rests with the same divisors, the second of one word or none. What divisor and Gcd of the package nat return: the greatest common divisor. What Gcd and Mul of the package nat return. -/
import Derived.Test.YtcnjcfoaoaldeaaGreatDoorWr
import Derived.Test.YtcnjcfoaoaldeaaGreatDoorNd
import Derived.Deep.OwnRows
import Derived.Lib.Hide
import Derived.Test.YtcnjcfoaoaldeaaGreatDoorRn
import Derived.Test.YtcnjcfoaoaldeaaGreatDoorWd6
import Derived.Test.YtcnjcfoaoaldeaaGreatDoorPr
set_option linter.unusedVariables false
set_option maxHeartbeats 8000000
set_option maxRecDepth 100000
namespace Go.Proofs.Wd
open Go.RowKit
theorem Tryz.work (e:Bool) (u v:Int) (gz capz n gx capx gy capy:Nat) (L xs ys:List Int) (w:World) (hz:RowOf w gz L) (hL:Dig L) (hfit:n ≤ L.length) (hlen:L.length ≤ 1000000000000) (hx:RowAt w gx capx xs) (hy:RowAt w gy capy ys) (hxl:xs.length = n) (hyl:ys.length = n) (hxd:Dig xs) (hyd:Dig ys) (hxz:gx ≠ gz) (hyz:gy ≠ gz)
 (u0:0 ≤ u) (u1:u ≤ 18446744073709551615) (v0:0 ≤ v) (v1:v ≤ 18446744073709551615) (h0:0 ≤ made2 (val xs) (val ys) u v e) (h1:made2 (val xs) (val ys) u v e < 18446744073709551616 ^ n) :
 Calls Tryz.prog 236 #[.agg #[.int .u64 u,.int .u64 v],.slice (some ⟨gz,0,none⟩) n capz,.slice (some ⟨gx,0,none⟩) n capx,.slice (some ⟨gy,0,none⟩) n capy,.bool e] w fun e' w'=>
  (∃ M,e' = .returned (.tuple #[]) ∧ RowOf w' gz M ∧ Dig M ∧ M.length = L.length ∧ val (M.take n) = made2 (val xs) (val ys) u v e) ∧ w.grownBy w' (some gz):=by
 cases e with
 | true=>exact Tryz.workAhead u v gz capz n gx capx gy capy L xs ys w hz hL hfit hlen hx hy hxl hyl hxd hyd hxz hyz u0 u1 v0 v1 (by simpa [made2] using h0) (by simpa [made2] using h1)
 | false=>exact Tryz.workBehind u v gz capz n gx capx gy capy L xs ys w hz hL hfit hlen hx hy hxl hyl hxd hyd hxz hyz u0 u1 v0 v1 (by simpa [made2] using h0) (by simpa [made2] using h1)
/-- The number that a slice of words holds. -/
def rowVal (w:World) (v:Value):Nat:=match v with
 | .slice (some a) l _ => match w.heap[a.block]? with
   | some (.cells cs _ _)=>(val ((cs.toList.map intOf).take l)).toNat
   | _=>0
 | _=>0
theorem rowVal_row {w:World} {g l c:Nat} {L:List Int} (h:RowOf w g L):rowVal w (.slice (some ⟨g,0,none⟩) l c) = (val (L.take l)).toNat:=by
 unfold rowVal RowOf at *
 simp only [h,List.map_map]
 rw [show (intOf ∘ Value.int IntKind.u64) = id from rfl,List.map_id]
/-- A slice from the head of a block of its own that is newer than w0. -/
structure Buf (w0 w:World) (v:Value) (g l c:Nat) (L:List Int):Prop where
 is:v = .slice (some ⟨g,0,none⟩) l c
 row:RowOf w g L
 len:L.length = c
 le:l ≤ c
 cap:c ≤ 1000000000000
 dig:Dig L
 new:w0.heap.size ≤ g
theorem Buf.digs {w0 w:World} {v:Value} {g l c:Nat} {L:List Int} (h:Buf w0 w v g l c L):Digs w (.slice (some ⟨g,0,none⟩) l c) (L.take l):=by
 have h1:=(h.row.digs (by rw [h.len]; have:=h.cap; unfold maxLen; omega)).take l (by rw [h.len]; exact h.le)
 rw [h.len] at h1
 exact h1
theorem Buf.at {w0 w:World} {v:Value} {g l c:Nat} {L:List Int} (h:Buf w0 w v g l c L):RowAt w g c (L.take l):=by
 have h1:=RowAt.of_row h.row (by rw [h.len]; exact h.cap) l (by rw [h.len]; exact h.le)
 rw [h.len] at h1
 exact h1
theorem Buf.kept {w0 w w':World} {v:Value} {g l c:Nat} {L:List Int} {row:Option Nat} (h:Buf w0 w v g l c L) (hg:w.grownBy w' row) (hne:some g ≠ row):Buf w0 w' v g l c L:=
 ⟨h.is,h.row.kept hg hne,h.len,h.le,h.cap,h.dig,h.new⟩
theorem Buf.below {w0 w w':World} {v:Value} {g l c:Nat} {L:List Int} (h:Buf w0 w v g l c L) (hb:Below w.heap.size w w'):Buf w0 w' v g l c L:=
 ⟨h.is,h.row.below hb h.row.lt,h.len,h.le,h.cap,h.dig,h.new⟩
theorem Buf.cut {w0 w:World} {v:Value} {g l c:Nat} {L:List Int} (h:Buf w0 w v g l c L) {n:Nat} (hn:n ≤ l):Buf w0 w (.slice (some ⟨g,0,none⟩) n c) g n c L:=
 ⟨rfl,h.row,h.len,Nat.le_trans hn h.le,h.cap,h.dig,h.new⟩
theorem Buf.tl {w0 w:World} {v:Value} {g l c:Nat} {L:List Int} (h:Buf w0 w v g l c L):(L.take l).length = l:=by
 rw [List.length_take,h.len]; have:=h.le; omega
theorem Buf.trims {w0 w:World} {v:Value} {g l c:Nat} {L:List Int} (h:Buf w0 w v g l c L) :
 Calls Tryz.prog 108 #[.slice (some ⟨g,0,none⟩) l c] w fun e w'=>(∃ k:Nat,e = .returned (.slice (some ⟨g,0,none⟩) k c) ∧ k ≤ l ∧ Top (L.take k) ∧ val (L.take k) = val (L.take l)) ∧ w' = w:=by
 have h1:=Tryz.trim (some ⟨g,0,none⟩) c (L.take l) w (by rw [h.tl]; exact h.digs)
 rw [h.tl] at h1
 refine h1.mono ?_
 rintro e w' ⟨⟨k,rfl,hk,ht,hv⟩,rfl⟩
 rw [List.take_take,Nat.min_eq_left hk] at ht hv
 exact ⟨⟨k,rfl,hk,ht,hv⟩,rfl⟩
/-- A number that is not greater than one of n words stands in n words. -/
theorem Buf.short {w0 w:World} {v:Value} {g l c:Nat} {L:List Int} (h:Buf w0 w v g l c L) {n:Nat} (hn:n ≤ l) (hv:val (L.take l) < 18446744073709551616 ^ n):val (L.take n) = val (L.take l):=by
 have h1:=val_take_of_lt (h.dig.take l) hv
 rw [List.take_take,Nat.min_eq_left hn] at h1
 exact h1
theorem two_words {xs ys:List Int} (hx:Dig xs) (hy:Dig ys) (ty:Top ys) (h2:2 ≤ ys.length) (hle:val ys ≤ val xs):2 ≤ xs.length:=by
 have h1:=top_pos hy ty (fun e=>by rw [e] at h2; simp at h2)
 have h3:=val_lt hx
 by_cases g:2 ≤ xs.length
 ·exact g
 ·have h4:=pow_mono' (i:=xs.length) (j:=ys.length - 1) (by omega)
  omega
/-- What holds at the head of shortened's loop. -/
structure ShAt (w0 w:World) (xv yv sv tv:Value) (l gx gy gs gt cx cy cs ct:Nat) (Lx Ly Ls Lt:List Int) (G:Nat):Prop where
 x:Buf w0 w xv gx l cx Lx
 y:Buf w0 w yv gy l cy Ly
 s:Buf w0 w sv gs l cs Ls
 t:Buf w0 w tv gt l ct Lt
 xy:gx ≠ gy
 xs:gx ≠ gs
 xt:gx ≠ gt
 ys:gy ≠ gs
 yt:gy ≠ gt
 st:gs ≠ gt
 le:val (Ly.take l) ≤ val (Lx.take l)
 gcd:Int.gcd (val (Lx.take l)) (val (Ly.take l)) = G
 below:Below w0.heap.size w0 w
theorem RowOf.of_alloc (w:World) (m:Nat):RowOf (w.alloc (.cells (madeCells #[Value.int .u64 0] m) 73)) w.heap.size (List.replicate m 0):=by
 unfold RowOf
 rw [heap_alloc_last]
 have h:=toList_madeCells_one (Value.int .u64 0) m
 congr 2
 apply Array.ext'
 simp only [List.map_replicate]
 exact h
theorem RowOf.alloc {w:World} {g:Nat} {L:List Int} (h:RowOf w g L) (o:Obj):RowOf (w.alloc o) g L:=h.below ((Below.refl _ _).alloc (Nat.le_refl _) _) h.lt
theorem ShAt.cutAll {w0 w:World} {xv yv sv tv:Value} {l gx gy gs gt cx cy cs ct:Nat} {Lx Ly Ls Lt:List Int} {G:Nat} (h:ShAt w0 w xv yv sv tv l gx gy gs gt cx cy cs ct Lx Ly Ls Lt G) {n:Nat} (hn:n ≤ l) (hv:val (Lx.take l) < 18446744073709551616 ^ n) :
 ShAt w0 w (.slice (some ⟨gx,0,none⟩) n cx) (.slice (some ⟨gy,0,none⟩) n cy) (.slice (some ⟨gs,0,none⟩) n cs) (.slice (some ⟨gt,0,none⟩) n ct) n gx gy gs gt cx cy cs ct Lx Ly Ls Lt G ∧ val (Lx.take n) = val (Lx.take l) ∧ val (Ly.take n) = val (Ly.take l):=by
 have ex:=h.x.short hn hv
 have ey:=h.y.short hn (Int.lt_of_le_of_lt h.le hv)
 exact ⟨⟨h.x.cut hn,h.y.cut hn,h.s.cut hn,h.t.cut hn,h.xy,h.xs,h.xt,h.ys,h.yt,h.st,by rw [ex,ey]; exact h.le,by rw [ex,ey]; exact h.gcd,h.below⟩,ex,ey⟩
theorem ShAt.drewN {w0 w:World} {xv yv sv tv:Value} {l gx gy gs gt cx cy cs ct:Nat} {Lx Ly Ls Lt:List Int} {G:Nat} (h:ShAt w0 w xv yv sv tv l gx gy gs gt cx cy cs ct Lx Ly Ls Lt G) (n:Nat):ShAt w0 (w.drewN n) xv yv sv tv l gx gy gs gt cx cy cs ct Lx Ly Ls Lt G:=by
 have hb:Below w.heap.size w (w.drewN n):=belowN (Below.refl _ _) n
 exact ⟨h.x.below hb,h.y.below hb,h.s.below hb,h.t.below hb,h.xy,h.xs,h.xt,h.ys,h.yt,h.st,h.le,h.gcd,belowN h.below n⟩
theorem ShAt.later {w0 w w':World} {xv yv sv tv:Value} {l gx gy gs gt cx cy cs ct:Nat} {Lx Ly Ls Lt:List Int} {G:Nat} (h:ShAt w0 w xv yv sv tv l gx gy gs gt cx cy cs ct Lx Ly Ls Lt G) (hb:Below w.heap.size w w'):ShAt w0 w' xv yv sv tv l gx gy gs gt cx cy cs ct Lx Ly Ls Lt G:=
 ⟨h.x.below hb,h.y.below hb,h.s.below hb,h.t.below hb,h.xy,h.xs,h.xt,h.ys,h.yt,h.st,h.le,h.gcd,Below.after h.below hb⟩
theorem ShAt.divided {w0 w w':World} {xv yv sv tv:Value} {l gx gy gs gt cx cy cs ct:Nat} {Lx Ly Ls Lt:List Int} {G:Nat} (h:ShAt w0 w xv yv sv tv l gx gy gs gt cx cy cs ct Lx Ly Ls Lt G) {M:List Int} {g:Nat} (hb:Below w.heap.size w w') (hg:w.heap.size ≤ g) (hr:RowOf w' g M) (hM:Dig M) (hl:M.length = l) (hl6:l ≤ 1000000000000)
 (e:val M = val (Lx.take l) % val (Ly.take l)) (y0:0 < val (Ly.take l)):ShAt w0 w' yv (.slice (some ⟨g,0,none⟩) l l) sv tv l gy g gs gt cy l cs ct Ly M Ls Lt G:=by
 have hM2:M.take l = M:=List.take_of_length_le (by omega)
 have bx:=h.x.row.lt
 have by_:=h.y.row.lt
 have bs:=h.s.row.lt
 have bt:=h.t.row.lt
 refine ⟨h.y.below hb,⟨rfl,hr,hl,Nat.le_refl _,hl6,hM,Nat.le_trans h.below.size hg⟩,h.s.below hb,h.t.below hb,by omega,h.ys,h.yt,by omega,by omega,h.st,?_,?_,Below.after h.below hb⟩
 ·rw [hM2,e]; exact Int.le_of_lt (Int.emod_lt_of_pos _ y0)
 ·rw [hM2,e,gcd_mod]; exact h.gcd
theorem ShAt.worked {w0 w w1 w2:World} {xv yv sv tv:Value} {l gx gy gs gt cx cy cs ct:Nat} {Lx Ly Ls Lt:List Int} {G:Nat} (h:ShAt w0 w xv yv sv tv l gx gy gs gt cx cy cs ct Lx Ly Ls Lt G) {M1 M2:List Int} {u0 v0 u1 v1:Int} {q:Bool} (k1:w.grownBy w1 (some gs)) (r1:RowOf w1 gs M1) (d1:Dig M1) (l1:M1.length = Ls.length)
 (k2:w1.grownBy w2 (some gt)) (r2:RowOf w2 gt M2) (d2:Dig M2) (l2:M2.length = Lt.length) (good:Good (val (Lx.take l)) (val (Ly.take l)) u0 v0 u1 v1 q) (e1:val (M1.take l) = made2 (val (Lx.take l)) (val (Ly.take l)) u0 v0 q) (e2:val (M2.take l) = made2 (val (Lx.take l)) (val (Ly.take l)) u1 v1 (!q)) :
 ShAt w0 w2 sv tv xv yv l gs gt gx gy cs ct cx cy M1 M2 Lx Ly G:=by
 have hne:∀ {a b:Nat},a ≠ b → some a ≠ some b:=fun h e=>h (Option.some.inj e)
 refine ⟨⟨h.s.is,r1.kept k2 (hne h.st),by rw [l1]; exact h.s.len,h.s.le,h.s.cap,d1,h.s.new⟩,⟨h.t.is,r2,by rw [l2]; exact h.t.len,h.t.le,h.t.cap,d2,h.t.new⟩,(h.x.kept k1 (hne h.xs)).kept k2 (hne h.xt),(h.y.kept k1 (hne h.ys)).kept k2 (hne h.yt),h.st,h.xs.symm,h.ys.symm,h.xt.symm,h.yt.symm,h.xy,?_,?_,?_⟩
 ·rw [e1,e2]; exact Int.le_of_lt good.lt
 ·rw [e1,e2,good.gcd]; exact h.gcd
 ·refine (h.below.grown k1 h.below.size (fun k hk=>?_)).grown k2 (Nat.le_trans h.below.size k1.size) (fun k hk=>?_)
  ·cases hk; exact h.s.new
  ·cases hk; exact h.t.new
theorem made_bounds {X Y u0 v0 u1 v1:Int} {q:Bool} {n:Nat} (g:Good X Y u0 v0 u1 v1 q) (hY:Y < 18446744073709551616 ^ n):0 ≤ made2 X Y u0 v0 q ∧ made2 X Y u0 v0 q < 18446744073709551616 ^ n ∧ 0 ≤ made2 X Y u1 v1 (!q) ∧ made2 X Y u1 v1 (!q) < 18446744073709551616 ^ n ∧ made2 X Y u1 v1 (!q) < Y:=by
 have:=g.s0
 have:=g.lt
 have:=g.le
 refine ⟨?_,?_,?_,?_,?_⟩ <;> omega
end Go.Proofs.Wd
namespace Go.Proofs.Wd
open Go.RowKit
/-- Rows without a nought on top that hold one number are as long as each other. -/
theorem top_len {a b:List Int} (ha:Dig a) (hb:Dig b) (ta:Top a) (tb:Top b) (h:val a = val b):a.length = b.length:=by
 have key:∀ {c d:List Int},Dig c → Dig d → Top d → val c = val d → d.length ≤ c.length:=by
  intro c d hc hd td e
  by_cases h0:d = []
  ·subst h0; simp
  ·have h1:=top_pos hd td h0
   have h2:=val_lt hc
   by_cases g:d.length ≤ c.length
   ·exact g
   ·have:=pow_mono' (i:=c.length) (j:=d.length - 1) (by omega)
    omega
 exact Nat.le_antisymm (key hb ha ta h.symm) (key ha hb tb h)
theorem top_one {a:List Int} {n:Nat} (t:Top a) (hd:Dig a) (hl:a.length = n + 2):1 ≤ a.getD (n + 1) 0:=by
 rcases t with e | e
 ·rw [e] at hl; simp at hl
 ·rw [hl,show n + 2 - 1 = n + 1 by omega] at e
  have:=hd.get (n + 1)
  omega
theorem Tryz.shortened (v u:Value) (xs ys:List Int) (w:World) (hv:Digs w v xs) (hu:Digs w u ys) (hx:Dig xs) (hy:Dig ys) (tx:Top xs) (ty:Top ys) (hlen:xs.length ≤ 80000000000) (h2:2 ≤ ys.length) (hle:val ys ≤ val xs) :
 Calls Tryz.prog 205 #[v,u] w fun e w'=>(∃ p q P Q,e = .returned (.tuple #[p,q]) ∧ Digs w' p P ∧ Digs w' q Q ∧ Dig P ∧ Dig Q ∧ Top P ∧ Top Q ∧ Int.gcd (val P) (val Q) = Int.gcd (val xs) (val ys) ∧ val Q ≤ val P ∧ Q.length ≤ 1 ∧ P.length ≤ xs.length) ∧ Below w.heap.size w w':=by
 obtain ⟨i0,hi,hz0,hz1,hz2⟩:=info_parts Tryz.info73
 have hx2:=two_words hx hy ty h2 hle
 obtain ⟨p,cap,rfl,hxl,hxr⟩:=hv.slice
 obtain ⟨m,hm⟩:∃ m,xs.length = m:=⟨_,rfl⟩
 have HM:Hid (xs.length = m):=hm
 have HV:Hid (Digs w (.slice p xs.length cap) xs):=hv
 have HU:Hid (Digs w u ys):=hu
 have HX:Hid (Dig xs):=hx
 have HY:Hid (Dig ys):=hy
 have HLE:Hid (val ys ≤ val xs):=hle
 have HXB:Hid (val xs < 18446744073709551616 ^ m):=show val xs < _ by rw [← hm]; exact val_lt hx
 rw [hm] at hlen hx2 hxl HV
 rw [hm]
 obtain ⟨G,hG⟩:∃ G,Int.gcd (val xs) (val ys) = G:=⟨_,rfl⟩
 have HG:Hid (Int.gcd (val xs) (val ys) = G):=hG
 rw [hG]
 clear hv hu hx hy tx ty hle hxr hm h2 hG
 go_enter Tryz.func205,Tryz.ntmps205
 go_wp2_with fail
 with_reducible refine (Tryz.widened _ xs m _ HV.out HX.out (by omega)).mono ?_
 rintro e w1 ⟨⟨Mx,rfl,hr1,hd1,hl1,hv1⟩,hb1⟩
 have HR1:Hid (Buf w w1 (.slice (some ⟨w.heap.size,0,none⟩) m m) w.heap.size m m Mx):=⟨rfl,hr1,hl1,Nat.le_refl _,by omega,hd1,Nat.le_refl _⟩
 have HV1:Hid (val Mx = val xs):=hv1 HXB.out
 have HU1:Hid (Digs w1 u ys):=HU.out.below hb1 (Nat.le_refl _)
 have HB1:Hid (Below w.heap.size w w1):=hb1
 have HSZ:Hid (w.heap.size < w1.heap.size):=hr1.lt
 clear hr1 hd1 hl1 hv1 hb1 HV HU
 go_wp2_with fail
 with_reducible refine (Tryz.widened u ys m _ HU1.out HY.out (by omega)).mono ?_
 rintro e w2 ⟨⟨My,rfl,hr2,hd2,hl2,hv2⟩,hb2⟩
 have HBX:Hid (Buf w w2 (.slice (some ⟨w.heap.size,0,none⟩) m m) w.heap.size m m Mx):=HR1.out.below hb2
 have HBY:Hid (Buf w w2 (.slice (some ⟨w1.heap.size,0,none⟩) m m) w1.heap.size m m My):=⟨rfl,hr2,hl2,Nat.le_refl _,by omega,hd2,HB1.out.size⟩
 have HVY:Hid (val My = val ys):=hv2 (Int.lt_of_le_of_lt HLE.out HXB.out)
 have HB2:Hid (Below w.heap.size w w2):=Below.after HB1.out hb2
 have HSZ2:Hid (w1.heap.size < w2.heap.size):=hr2.lt
 clear hr2 hd2 hl2 hv2 hb2 HU1 HR1
 have hmk:=run_make_row' (P:=Tryz.prog) 139 73 (.int .u64 0) 8 Tryz.underlying139 Tryz.info73 rfl .i64 .i64 m (by omega) (by omega)
 go_wp2
 have HA:Hid (RowOf ((w2.alloc (.cells (madeCells #[.int .u64 0] m) 73)).alloc (.cells (madeCells #[.int .u64 0] m) 73)).drew w2.heap.size (List.replicate m 0)):=((RowOf.of_alloc w2 m).alloc _).drew
 have HC:Hid (RowOf ((w2.alloc (.cells (madeCells #[.int .u64 0] m) 73)).alloc (.cells (madeCells #[.int .u64 0] m) 73)).drew (w2.heap.size + 1) (List.replicate m 0)):=by
  have h:=RowOf.of_alloc (w2.alloc (.cells (madeCells #[.int .u64 0] m) 73)) m
  rw [show (w2.alloc (.cells (madeCells #[.int .u64 0] m) 73)).heap.size = w2.heap.size + 1 by simp] at h
  exact h.drew
 have HB3:Hid (Below w2.heap.size w2 ((w2.alloc (.cells (madeCells #[.int .u64 0] m) 73)).alloc (.cells (madeCells #[.int .u64 0] m) 73)).drew):=(((Below.refl _ _).alloc (Nat.le_refl _) _).alloc (by simp) _).drew
 go_region
 all_goals (
  generalize ((w2.alloc (.cells (madeCells #[.int .u64 0] m) 73)).alloc (.cells (madeCells #[.int .u64 0] m) 73)).drew = w3 at *
  have HZD:Hid (Dig (List.replicate m 0)):=(show Dig (List.replicate m 0) from fun d hd=>by rw [(List.mem_replicate.1 hd).2]; omega)
  have HT:Hid (Mx.take m = Mx ∧ My.take m = My):=⟨List.take_of_length_le (by have:=HBX.out.len; omega),List.take_of_length_le (by have:=HBY.out.len; omega)⟩
  have HSA:Hid (∀ {g g':Nat},RowOf w3 g (List.replicate m 0) → RowOf w3 g' (List.replicate m 0) → w1.heap.size < g → w1.heap.size < g' → g ≠ g' → ShAt w w3 (.slice (some ⟨w.heap.size,0,none⟩) m m) (.slice (some ⟨w1.heap.size,0,none⟩) m m) (.slice (some ⟨g,0,none⟩) m m) (.slice (some ⟨g',0,none⟩) m m) m w.heap.size w1.heap.size g g' m m m m Mx My (List.replicate m 0) (List.replicate m 0) G):=by
   intro g g' hg hg' l1 l2 hne
   have hsz:=HSZ.out
   exact ⟨HBX.out.below HB3.out,HBY.out.below HB3.out,⟨rfl,hg,by simp,Nat.le_refl _,by omega,HZD.out,by omega⟩,⟨rfl,hg',by simp,Nat.le_refl _,by omega,HZD.out,by omega⟩,by omega,by omega,by omega,by omega,by omega,hne,by rw [HT.out.1,HT.out.2,HVY.out,HV1.out]; exact HLE.out,by rw [HT.out.1,HT.out.2,HVY.out,HV1.out]; exact HG.out,Below.after HB2.out HB3.out⟩
  have HST:Hid (ShAt w w3 (.slice (some ⟨w.heap.size,0,none⟩) m m) (.slice (some ⟨w1.heap.size,0,none⟩) m m) (.slice (some ⟨w2.heap.size,0,none⟩) m m) (.slice (some ⟨w2.heap.size + 1,0,none⟩) m m) m w.heap.size w1.heap.size w2.heap.size (w2.heap.size + 1) m m m m Mx My (List.replicate m 0) (List.replicate m 0) G):=HSA.out HA.out HC.out HSZ2.out (by have:=HSZ2.out; omega) (by omega)
  have HTS:Hid (ShAt w w3 (.slice (some ⟨w.heap.size,0,none⟩) m m) (.slice (some ⟨w1.heap.size,0,none⟩) m m) (.slice (some ⟨w2.heap.size + 1,0,none⟩) m m) (.slice (some ⟨w2.heap.size,0,none⟩) m m) m w.heap.size w1.heap.size (w2.heap.size + 1) w2.heap.size m m m m Mx My (List.replicate m 0) (List.replicate m 0) G):=HSA.out HC.out HA.out (by have:=HSZ2.out; omega) HSZ2.out (by omega)
  clear HSA HZD HT HA HC HB3 HBX HBY HV1 HVY HB1 HB2 HSZ HSZ2 HLE HX HY HXB HG hmk hi hz0 hz1 hz2
  go_wp2
  go_loopw [0,1,6,7] (fun xv yv sv tv wr=>∃ l gx gy gs gt cx cy cs ct Lx Ly Ls Lt,l ≤ m ∧ ShAt w wr xv yv sv tv l gx gy gs gt cx cy cs ct Lx Ly Ls Lt G) (fun _ yv _ _ wr=>rowVal wr yv)
  case atStart=>first | exact ⟨m,_,_,_,_,_,_,_,_,_,_,_,_,Nat.le_refl _,HST.out⟩ | exact ⟨m,_,_,_,_,_,_,_,_,_,_,_,_,Nat.le_refl _,HTS.out⟩
  case round=>
   clear HST HTS
   obtain ⟨l,gx,gy,gs,gt,cx,cy,cs,ct,Lx,Ly,Ls,Lt,hlm,hat⟩:=hrel
   obtain rfl:=hat.x.is
   obtain rfl:=hat.y.is
   obtain rfl:=hat.s.is
   obtain rfl:=hat.t.is
   have HAT:=Lib.hid hat
   clear hat
   go_wp2_with fail
   with_reducible refine (HAT.out.y.trims).mono ?_
   rintro e w4 ⟨⟨ky,rfl,hky,tky,vky⟩,rfl⟩
   have HKY:Hid (Top (Ly.take ky) ∧ val (Ly.take ky) = val (Ly.take l)):=⟨tky,vky⟩
   clear tky vky
   by_cases hk1:ky ≤ 1
   ·go_wp2_with fail
    with_reducible refine (HAT.out.x.trims).mono ?_
    rintro e w5 ⟨⟨kx,rfl,hkx,tkx,vkx⟩,rfl⟩
    have HKX:Hid (Top (Lx.take kx) ∧ val (Lx.take kx) = val (Lx.take l)):=⟨tkx,vkx⟩
    clear tkx vkx
    go_wp2_with fail
    with_reducible refine (HAT.out.y.trims).mono ?_
    rintro e w6 ⟨⟨ky2,rfl,hky2,tky2,vky2⟩,rfl⟩
    have HKY2:Hid (Top (Ly.take ky2) ∧ val (Ly.take ky2) = val (Ly.take l)):=⟨tky2,vky2⟩
    clear tky2 vky2
    go_wp2
    go_ret2
    have hlen2:=top_len (HAT.out.y.dig.take ky2) (HAT.out.y.dig.take ky) HKY2.out.1 HKY.out.1 (by rw [HKY2.out.2,HKY.out.2])
    rw [List.length_take,List.length_take] at hlen2
    have hylen:=HAT.out.y.len
    have hyle:=HAT.out.y.le
    exact ⟨⟨_,_,Lx.take kx,Ly.take ky2,rfl,(HAT.out.x.cut hkx).digs,(HAT.out.y.cut hky2).digs,HAT.out.x.dig.take kx,HAT.out.y.dig.take ky2,HKX.out.1,HKY2.out.1,by rw [HKX.out.2,HKY2.out.2]; exact HAT.out.gcd,by rw [HKX.out.2,HKY2.out.2]; exact HAT.out.le,by rw [List.length_take]; omega,by rw [List.length_take]; omega⟩,HAT.out.below⟩
   ·go_wp2_with fail
    with_reducible refine (HAT.out.x.trims).mono ?_
    rintro e w5 ⟨⟨n,rfl,hn,tn,vn⟩,rfl⟩
    have hyl2:(Ly.take ky).length = ky:=by rw [List.length_take,HAT.out.y.len]; have:=HAT.out.y.le; omega
    have hxl2:(Lx.take n).length = n:=by rw [List.length_take,HAT.out.x.len]; have:=HAT.out.x.le; omega
    have hn2:=two_words (HAT.out.x.dig.take n) (HAT.out.y.dig.take ky) HKY.out.1 (by rw [hyl2]; omega) (by rw [HKY.out.2,vn]; exact HAT.out.le)
    rw [hxl2] at hn2
    have hcut:=HAT.out.cutAll hn (by rw [← vn]; exact take_lt HAT.out.x.dig n)
    have HCUT:=Lib.hid hcut.1
    have HEX:Hid (val (Lx.take n) = val (Lx.take l)):=hcut.2.1
    have HEY:Hid (val (Ly.take n) = val (Ly.take l)):=hcut.2.2
    have HTN:Hid (Top (Lx.take n)):=tn
    have hcx:=HAT.out.x.le
    have hcy:=HAT.out.y.le
    have hcs:=HAT.out.s.le
    have hct:=HAT.out.t.le
    have HRV:Hid (rowVal w5 (.slice (some ⟨gy,0,none⟩) l cy) = (val (Ly.take l)).toNat):=rowVal_row HAT.out.y.row
    have HPOS:Hid (0 < val (Ly.take n)):=by
     have h1:=top_pos (HAT.out.y.dig.take ky) HKY.out.1 (fun e=>by rw [e] at hyl2; simp at hyl2; omega)
     have h2:=pow_pos' ((Ly.take ky).length - 1)
     have h3:=HEY.out
     have h4:=HKY.out.2
     show 0 < val (Ly.take n)
     omega
    obtain ⟨j,rfl⟩:∃ j,n = j + 2:=⟨n - 2,by omega⟩
    clear hcut tn vn hyl2 hxl2 hn2
    go_wp2_with fail
    go_quiet (fail)
    have HD:=Lib.hid (HCUT.out.drewN nq)
    generalize w5.drewN nq = w7 at *
    clear HCUT HAT
    go_wp2_with fail
    with_reducible refine (Tryz.foresee gx cx gy cy j (Lx.take (j + 2)) (Ly.take (j + 2)) w7 HD.out.x.at HD.out.y.at HD.out.x.tl HD.out.y.tl (HD.out.x.dig.take _) (HD.out.y.dig.take _) (by omega) (top_one HTN.out (HD.out.x.dig.take _) HD.out.x.tl) HD.out.le).mono ?_
    rintro e w8 ⟨⟨u0,v0,u1,v1,q,rfl,a0,a1,b0,b1,c0,c1,d0,d1,hg⟩,hb8⟩
    have HGD:=Lib.hid hg
    have HD8:=Lib.hid (HD.out.later hb8)
    have HD9:=Lib.hid (HD8.out.later (((Below.refl w8.heap.size w8).alloc (Nat.le_refl _) (.cells #[.int .u64 u0,.int .u64 v0] 270)).alloc (by simp) (.cells #[.int .u64 u1,.int .u64 v1] 270)))
    have HC1:Hid (ShOf ((w8.alloc (.cells #[.int .u64 u0,.int .u64 v0] 270)).alloc (.cells #[.int .u64 u1,.int .u64 v1] 270)) (w8.heap.size + 1) u1 v1):=by
     have h:=ShOf.new (w8.alloc (.cells #[.int .u64 u0,.int .u64 v0] 270)) u1 v1
     rw [show (w8.alloc (.cells #[.int .u64 u0,.int .u64 v0] 270)).heap.size = w8.heap.size + 1 by simp] at h
     exact h
    have hbs:gs < w8.heap.size:=HD8.out.s.row.lt
    have hcast:((j + 2:Nat):Int) = (j:Int) + 2:=by omega
    clear hg hb8 HD
    by_cases hv0:v0 = 0
    ·subst hv0
     go_wp2_with fail
     generalize ((w8.alloc (.cells #[.int .u64 u0,.int .u64 0] 270)).alloc (.cells #[.int .u64 u1,.int .u64 v1] 270)) = w9 at *
     clear HC1 HD8 HGD
     with_reducible refine (HD9.out.y.trims).mono ?_
     rintro e w10 ⟨⟨k3,rfl,hk3,tk3,vk3⟩,rfl⟩
     have HK3:Hid (Top (Ly.take k3) ∧ val (Ly.take k3) = val (Ly.take (j + 2))):=⟨tk3,vk3⟩
     clear tk3 vk3
     go_wp2_with fail
     with_reducible refine (Tryz.quotient _ _ (Lx.take (j + 2)) (Ly.take k3) w10 HD9.out.x.digs (HD9.out.y.cut hk3).digs (HD9.out.x.dig.take _) (HD9.out.y.dig.take _) HTN.out HK3.out.1 (by have:=HD9.out.x.tl; omega) (fun e=>by have h1:=HK3.out.2; have h2:=HPOS.out; rw [e] at h1; simp at h1; omega)).mono ?_
     rintro e w11 ⟨⟨qv,rv,Q,R,rfl,hq,hr,dq,dr,hsum,r0,r1,lq,lr⟩,hb11⟩
     have HR11:Hid (Digs w11 rv R):=hr
     have HDR:Hid (Dig R):=dr
     have HMOD:Hid (val R = val (Lx.take (j + 2)) % val (Ly.take (j + 2)) ∧ val R < 18446744073709551616 ^ (j + 2) ∧ val R < val (Ly.take l)):=by
      have h1:=quo_div hsum r0 r1
      have h2:=HK3.out.2
      have h3:=HEY.out
      have h4:=take_lt HD9.out.y.dig (j + 2)
      rw [h2] at h1
      exact ⟨h1.2.symm,by omega,by omega⟩
     have HD11:=Lib.hid (HD9.out.later hb11)
     clear hq hr dq dr hsum r0 r1 lq lr hb11 HD9
     go_wp2_with fail
     have HW:=Tryz.widened rv R (j + 2) w11 HR11.out HDR.out (by omega)
     rw [hcast] at HW
     with_reducible refine HW.mono ?_
     clear HW
     rintro e w12 ⟨⟨M,rfl,hr12,hd12,hl12,hv12⟩,hb12⟩
     have HNEW:=Lib.hid (HD11.out.divided hb12 (Nat.le_refl _) hr12 hd12 hl12 (by omega) (by rw [hv12 HMOD.out.2.1]; exact HMOD.out.1) HPOS.out)
     have HMV:Hid (rowVal w12 (.slice (some ⟨w11.heap.size,0,none⟩) (j + 2) (j + 2)) = (val R).toNat):=by
      have h:=rowVal_row (l:=j + 2) (c:=j + 2) hr12
      rw [List.take_of_length_le (Nat.le_of_eq hl12),hv12 HMOD.out.2.1] at h
      exact h
     clear hr12 hd12 hl12 hv12 hb12
     go_wp2
     exact ⟨⟨j + 2,_,_,_,_,_,_,_,_,_,_,_,_,by omega,HNEW.out⟩,by
      rw [HMV.out,HRV.out]
      have h1:=HMOD.out.2.2
      have h2:=HPOS.out
      have h3:=HEY.out
      omega⟩
    ·have HGOOD:Hid (Good (val (Lx.take (j + 2))) (val (Ly.take (j + 2))) u0 v0 u1 v1 q):=HGD.out.resolve_left hv0
     have HMB:=Lib.hid (made_bounds (n:=j + 2) HGOOD.out (take_lt HD8.out.y.dig (j + 2)))
     go_wp2_with fail
     generalize ((w8.alloc (.cells #[.int .u64 u0,.int .u64 v0] 270)).alloc (.cells #[.int .u64 u1,.int .u64 v1] 270)) = w9 at *
     have HW:=Tryz.work q u0 v0 gs cs (j + 2) gx cx gy cy Ls (Lx.take (j + 2)) (Ly.take (j + 2)) w9 HD9.out.s.row HD9.out.s.dig (by have:=HD9.out.s.len; have:=HD9.out.s.le; omega) (by have:=HD9.out.s.len; have:=HD9.out.s.cap; omega) HD9.out.x.at HD9.out.y.at HD9.out.x.tl HD9.out.y.tl (HD9.out.x.dig.take _) (HD9.out.y.dig.take _) HD9.out.xs HD9.out.ys a0 a1 b0 b1 HMB.out.1 HMB.out.2.1
     with_reducible refine HW.mono ?_
     clear HW
     rintro e w10 ⟨⟨M1,rfl,hr1,hd1,hl1,hv1⟩,hg1⟩
     have HG1:=Lib.hid hg1
     have HM1:Hid (RowOf w10 gs M1 ∧ Dig M1 ∧ M1.length = Ls.length ∧ val (M1.take (j + 2)) = made2 (val (Lx.take (j + 2))) (val (Ly.take (j + 2))) u0 v0 q):=⟨hr1,hd1,hl1,hv1⟩
     have hc0:w10.cell? ⟨w8.heap.size + 1,0,none⟩ = some (.int .u64 u1):=hg1.cell HC1.out.c0 (by simp; omega)
     have hc1:w10.cell? ⟨w8.heap.size + 1,1,none⟩ = some (.int .u64 v1):=hg1.cell HC1.out.c1 (by simp; omega)
     clear hr1 hd1 hl1 hv1 hg1 HD8 HGD
     go_wp2_with fail
     have hne:∀ {a b:Nat},a ≠ b → some a ≠ some b:=fun h e=>h (Option.some.inj e)
     have HT10:=Lib.hid (HD9.out.t.kept HG1.out (hne HD9.out.st.symm))
     have HX10:=Lib.hid (HD9.out.x.kept HG1.out (hne HD9.out.xs))
     have HY10:=Lib.hid (HD9.out.y.kept HG1.out (hne HD9.out.ys))
     have HW:=Tryz.work (!q) u1 v1 gt ct (j + 2) gx cx gy cy Lt (Lx.take (j + 2)) (Ly.take (j + 2)) w10 HT10.out.row HT10.out.dig (by have:=HT10.out.len; have:=HT10.out.le; omega) (by have:=HT10.out.len; have:=HT10.out.cap; omega) HX10.out.at HY10.out.at HX10.out.tl HY10.out.tl (HX10.out.dig.take _) (HY10.out.dig.take _) HD9.out.xt HD9.out.yt c0 c1 d0 d1 HMB.out.2.2.1 HMB.out.2.2.2.1
     with_reducible refine HW.mono ?_
     clear HW HT10 HX10 HY10
     rintro e w11 ⟨⟨M2,rfl,hr2,hd2,hl2,hv2⟩,hg2⟩
     have HNEW:=Lib.hid (HD9.out.worked HG1.out HM1.out.1 HM1.out.2.1 HM1.out.2.2.1 hg2 hr2 hd2 hl2 HGOOD.out HM1.out.2.2.2 hv2)
     have HMV:Hid (rowVal w11 (.slice (some ⟨gt,0,none⟩) (j + 2) ct) = (made2 (val (Lx.take (j + 2))) (val (Ly.take (j + 2))) u1 v1 (!q)).toNat):=by
      have h:=rowVal_row (l:=j + 2) (c:=ct) hr2
      rw [hv2] at h
      exact h
     have HLT:Hid (made2 (val (Lx.take (j + 2))) (val (Ly.take (j + 2))) u1 v1 (!q) < val (Ly.take l)):=by
      show _ < _
      rw [← HEY.out]; exact HMB.out.2.2.2.2
     clear hr2 hd2 hl2 hv2 hg2 HG1 HM1 HD9 HC1 hc0 hc1 HGOOD HMB
     go_wp2_with fail
     exact ⟨⟨j + 2,_,_,_,_,_,_,_,_,_,_,_,_,by omega,HNEW.out⟩,by
      rw [HMV.out,HRV.out]
      have h1:=HLT.out
      have h2:=HPOS.out
      have h3:=HEY.out
      omega⟩)
end Go.Proofs.Wd
namespace Go.Proofs.Wd
open Go.RowKit
/-- A row of words with the greatest divisor. -/
def DivIs (xs ys:List Int) (w:World) (e:Ending):Prop:=∃ r R,e = .returned r ∧ Digs w r R ∧ Dig R ∧ val R = Int.gcd (val xs) (val ys) ∧ R.length ≤ xs.length
theorem gcd_word {p y:Int} {g:Nat} (h:Int.gcd p y = g):Int.gcd y (p % y) = g:=by rw [gcd_mod,h]
theorem word_len {P:List Int} {y:Int} (h:y ≤ val P) (y1:1 ≤ y):1 ≤ P.length:=by
 cases P with
 | nil=>simp at h; omega
 | cons _ _=>simp
theorem Tryz.divisorNone (v u:Value) (xs ys:List Int) (w:World) (hv:Digs w v xs) (hu:Digs w u ys) (hx:Dig xs) (h0:ys.length = 0) (hlen:xs.length ≤ 80000000000) :
 Calls Tryz.prog 175 #[v,u] w fun e w'=>DivIs xs ys w' e ∧ Below w.heap.size w w':=by
 obtain rfl:=List.length_eq_zero_iff.1 h0
 have HV:Hid (Digs w v xs):=hv
 have HX:Hid (Dig xs):=hx
 have HLEN:Hid (xs.length ≤ xs.length ∧ xs.length ≤ 80000000000):=⟨Nat.le_refl _,hlen⟩
 have HG:Hid (val xs = Int.gcd (val xs) (val ([]:List Int))):=by
  have:=val_nonneg hx
  show _ = _
  rw [val_nil,Int.gcd_zero]; omega
 have HB:Hid (Below w.heap.size w w):=Below.refl _ _
 obtain ⟨q,dap,rfl,-,-⟩:=hu.slice
 simp only [List.length_nil]
 clear hv hu hx h0 hlen
 go_enter Tryz.func175,Tryz.ntmps175
 go_wp2_with fail
 with_reducible refine (Tryz.clone v xs _ HV.out (by have:=HLEN.out; omega)).mono ?_
 rintro e w8 ⟨⟨r,rfl,hr⟩,hb8⟩
 have HR8:Hid (Digs w8 r xs):=Digs.of_own hr
 have HB8:Hid (Below w.heap.size w w8):=Below.after HB.out hb8
 clear hr hb8
 go_wp2
 go_ret
 exact ⟨⟨_,xs,rfl,HR8.out,HX.out,HG.out,HLEN.out.1⟩,HB8.out⟩
theorem Tryz.divisorWord (v u:Value) (xs:List Int) (y:Int) (w:World) (hv:Digs w v xs) (hu:Digs w u [y]) (hx:Dig xs) (y1:1 ≤ y) (y9:y ≤ 18446744073709551615) (hle:y ≤ val xs) (hlen:xs.length ≤ 80000000000) :
 Calls Tryz.prog 175 #[v,u] w fun e w'=>DivIs xs [y] w' e ∧ Below w.heap.size w w':=by
 obtain ⟨ys,hys⟩:∃ ys,[y] = ys:=⟨_,rfl⟩
 have hvy:val ys = y:=by rw [← hys]; simp [val_cons]
 have HV:Hid (Digs w v xs):=hv
 have HX:Hid (Dig xs):=hx
 have HLEN:Hid (xs.length ≤ xs.length ∧ xs.length ≤ 80000000000):=⟨Nat.le_refl _,hlen⟩
 have HG:Hid (Int.gcd (val xs) y = Int.gcd (val xs) (val ys)):=by rw [hvy]; rfl
 have HY:Hid (1 ≤ y ∧ y ≤ 18446744073709551615 ∧ 1 ≤ xs.length):=⟨y1,y9,word_len hle y1⟩
 have HB:Hid (Below w.heap.size w w):=Below.refl _ _
 obtain ⟨q,dap,rfl,-,hyr⟩:=hu.slice
 obtain ⟨gy,rfl,hgy⟩:=hyr (by simp)
 have hyc:=hgy.cells 0 (by simp)
 simp only [List.getD_cons_zero] at hyc
 have hylt:=hgy.lt
 simp only [List.length_singleton]
 rw [hys]
 clear hv hu hx hlen hle hyr hgy hys hvy
 go_enter Tryz.func175,Tryz.ntmps175
 go_wp2_with fail
 have HPD:=Lib.hid (HV.out.below ((Below.refl w.heap.size w).drew) (Nat.le_refl _))
 have HBD:=Lib.hid (HB.out.drew)
 refine wp_region_held_drew (S:=(fun w':World=>w'.cell? ⟨gy,0,none⟩ = some (.int .u64 y))) (by kernel_rfl) hyc (fun hHeld=>?_)
 refine takeY 0 (h:=?_)
 refine takeY 1 (h:=?_)
 refine takeY 2 (h:=?_)
 (try simp only [Act.put,List.setIfInBounds_toArray,List.set_cons_zero,List.set_cons_succ])
 refine takeY 3 (h:=?_)
 refine takeY 4 (h:=?_)
 refine takeY 5 (h:=?_)
 (try simp only [Act.put,List.setIfInBounds_toArray,List.set_cons_zero,List.set_cons_succ])
 refine takeY 6 (h:=?_)
 (try simp only [Act.put,List.setIfInBounds_toArray,List.set_cons_zero,List.set_cons_succ])
 refine wpAnyH_ready (rs:=[7]) (by kernel_rfl) (by simp) ?_
 refine AllReadyH.cons (by (simp only [List.getElem?_toArray,List.getElem?_cons_succ,List.getElem?_cons_zero]) <;> rfl) (fun K hK=>?_) AllReadyH.nil
 go_simp
 go_at_call 207
 with_reducible refine (Tryz.wordRest v xs y _ HPD.out HX.out HY.out.1 HY.out.2.1 (by have:=HLEN.out; omega)).mono ?_
 rintro e w8 ⟨rfl,rfl⟩
 have hm0:0 ≤ val xs % y:=Int.emod_nonneg _ (by have:=HY.out; omega)
 have hm1:val xs % y < y:=Int.emod_lt_of_pos _ (by have:=HY.out; omega)
 obtain ⟨r,hr⟩:∃ r,val xs % y = r:=⟨_,rfl⟩
 have HRV:Hid (val xs % y = r):=hr
 have hy9:=HY.out.2.1
 rw [hr] at hm0 hm1 ⊢
 clear hr
 refine hK.out _ _ hHeld (fun hHeld=>?_)
 clear hK K
 (try simp only [Act.put,List.setIfInBounds_toArray,List.set_cons_zero,List.set_cons_succ])
 refine wpAnyH_ready (rs:=[8]) (by kernel_rfl) (by simp) ?_
 refine AllReadyH.cons (by (simp only [List.getElem?_toArray,List.getElem?_cons_succ,List.getElem?_cons_zero]) <;> rfl) (fun K hK=>?_) AllReadyH.nil
 go_simp
 go_at_call 206
 with_reducible refine (Tryz.wordDivisor y r _ (by omega) hy9 hm0 (by omega)).mono ?_
 rintro e w9 ⟨rfl,hb9⟩
 have HGV:Hid ((Int.gcd y r:Int) = Int.gcd (val xs) (val ys) ∧ Int.gcd y r ≤ y):=⟨by rw [← HRV.out,gcd_word HG.out],Int.le_of_dvd (by omega) (Int.gcd_dvd_left _ _)⟩
 obtain ⟨gg,hgg⟩:∃ gg:Int,(Int.gcd y r:Int) = gg:=⟨_,rfl⟩
 have HGG:Hid (gg = Int.gcd (val xs) (val ys) ∧ 0 ≤ gg ∧ gg ≤ 18446744073709551615):=⟨by rw [← hgg,HGV.out.1],by omega,by have:=HGV.out.2; omega⟩
 rw [hgg]
 have hh9:w9.cell? ⟨gy,0,none⟩ = some (.int .u64 y):=(hb9.cell (p:=⟨gy,0,none⟩) hylt).trans hyc
 have HB9:Hid (Below w.heap.size w w9):=Below.after HBD.out hb9
 have hlt9:gy < w9.heap.size:=Nat.lt_of_lt_of_le hylt hb9.size
 clear hgg HGV hHeld
 refine hK.out _ _ hh9 (fun hHeld=>?_)
 clear hK K
 (try simp only [Act.put,List.setIfInBounds_toArray,List.set_cons_zero,List.set_cons_succ])
 refine wpAnyH_ready (rs:=[9]) (by kernel_rfl) (by simp) ?_
 refine AllReadyH.cons (by (simp only [List.getElem?_toArray,List.getElem?_cons_succ,List.getElem?_cons_zero]) <;> rfl) (fun K hK=>?_) AllReadyH.nil
 go_simp
 have hrow:RowOf (w9.alloc (.cells #[.int .u64 gg] 73)) w9.heap.size [gg]:=by unfold RowOf; rw [heap_alloc_last]; rfl
 have HROW:=Lib.hid hrow
 have hhA:(w9.alloc (.cells #[.int .u64 gg] 73)).cell? ⟨gy,0,none⟩ = some (.int .u64 y):=(((Below.refl w9.heap.size w9).alloc (Nat.le_refl _) _).cell (p:=⟨gy,0,none⟩) hlt9).trans hh9
 clear hrow hHeld
 refine hK.out _ _ hhA (fun hHeld=>?_)
 clear hK K
 (try simp only [Act.put,List.setIfInBounds_toArray,List.set_cons_zero,List.set_cons_succ])
 refine takeY 10 (h:=?_)
 (try simp only [Act.put,List.setIfInBounds_toArray,List.set_cons_zero,List.set_cons_succ])
 refine wpAnyH_done (by kernel_rfl) ?_ _
 clear hHeld
 go_wp2
 go_ret
 exact ⟨⟨_,[gg],rfl,HROW.out.digs (by unfold maxLen; simp),fun d hd=>by rw [List.mem_singleton.1 hd]; exact HGG.out.2,by rw [val_cons]; simp; exact HGG.out.1,by have:=HLEN.out; have:=HY.out; simp; omega⟩,HB9.out.alloc (by have:=HB9.out.size; exact this) _⟩
theorem Tryz.divisorLong (v u:Value) (xs ys:List Int) (w:World) (hv:Digs w v xs) (hu:Digs w u ys) (hx:Dig xs) (hy:Dig ys) (tx:Top xs) (ty:Top ys) (h2:2 ≤ ys.length) (hle:val ys ≤ val xs) (hlen:xs.length ≤ 80000000000) :
 Calls Tryz.prog 175 #[v,u] w fun e w'=>DivIs xs ys w' e ∧ Below w.heap.size w w':=by
 have HS:=Lib.hid (Tryz.shortened v u xs ys w hv hu hx hy tx ty hlen h2 hle)
 obtain ⟨n,hn⟩:∃ n,xs.length = n:=⟨_,rfl⟩
 have HN:Hid (xs.length = n):=hn
 rw [hn] at hlen
 obtain ⟨q,dap,rfl,hyl,-⟩:=hu.slice
 obtain ⟨m,hm⟩:∃ m,ys.length = m:=⟨_,rfl⟩
 rw [hm] at HS h2 hyl ⊢
 clear hv hu hx hy tx ty hle hn hm
 go_enter Tryz.func175,Tryz.ntmps175
 go_wp2_with fail
 with_reducible refine HS.out.mono ?_
 rintro e w1 ⟨⟨p,q,P,Q,rfl,hp,hq,dp,dq,tp,tq,hg,hle,hq1,hpl⟩,hb1⟩
 have HP:Hid (Digs w1 p P):=hp
 have HDP:Hid (Dig P):=dp
 have HB1:Hid (Below w.heap.size w w1):=hb1
 have HLEN:Hid (P.length ≤ xs.length ∧ P.length ≤ 80000000000):=⟨hpl,by have:=HN.out; omega⟩
 by_cases h0:Q.length = 0
 ·obtain rfl:=List.length_eq_zero_iff.1 h0
  have HG:Hid (val P = Int.gcd (val xs) (val ys)):=by
   have:=val_nonneg dp
   show _ = _
   rw [← hg,val_nil,Int.gcd_zero]; omega
  obtain ⟨qq,qap,rfl,-,-⟩:=hq.slice
  simp only [List.length_nil]
  clear HS hp hq dp dq tp tq hg hle hq1 hpl hb1 h0
  go_wp2_with fail
  with_reducible refine (Tryz.clone p P _ HP.out (by have:=HLEN.out; omega)).mono ?_
  rintro e w8 ⟨⟨r,rfl,hr⟩,hb8⟩
  have HR8:Hid (Digs w8 r P):=Digs.of_own hr
  have HB8:Hid (Below w.heap.size w w8):=Below.after HB1.out hb8
  clear hr hb8
  go_wp2
  go_ret
  exact ⟨⟨_,P,rfl,HR8.out,HDP.out,HG.out,HLEN.out.1⟩,HB8.out⟩
 ·obtain ⟨y,rfl⟩:=List.length_eq_one_iff.1 (show Q.length = 1 by omega)
  have hvy:val [y] = y:=by simp [val_cons]
  have y1:1 ≤ y:=by
   have:=dq y (by simp)
   rcases tq with e | e
   ·exact absurd e (by simp)
   ·simp at e; omega
  have HG:Hid (Int.gcd (val P) y = Int.gcd (val xs) (val ys)):=by show _ = _; rw [← hg,hvy]
  have HY:Hid (1 ≤ y ∧ y ≤ 18446744073709551615 ∧ 1 ≤ P.length):=⟨y1,(dq y (by simp)).2,word_len (by rw [hvy] at hle; exact hle) y1⟩
  obtain ⟨qq,qap,rfl,-,hyr⟩:=hq.slice
  obtain ⟨gy,rfl,hgy⟩:=hyr (by simp)
  have hyc:=hgy.cells 0 (by simp)
  simp only [List.getD_cons_zero] at hyc
  have hylt:=hgy.lt
  simp only [List.length_singleton]
  clear HS hp hq dp dq tp tq hg hle hq1 hpl hb1 h0 hyr hgy hvy y1
  go_wp2_with fail
  have HPD:=Lib.hid (HP.out.below ((Below.refl w1.heap.size w1).drew) (Nat.le_refl _))
  have HBD:=Lib.hid (HB1.out.drew)
  refine wp_region_held_drew (S:=(fun w':World=>w'.cell? ⟨gy,0,none⟩ = some (.int .u64 y))) (by kernel_rfl) hyc (fun hHeld=>?_)
  refine takeY 0 (h:=?_)
  refine takeY 1 (h:=?_)
  refine takeY 2 (h:=?_)
  (try simp only [Act.put,List.setIfInBounds_toArray,List.set_cons_zero,List.set_cons_succ])
  refine takeY 3 (h:=?_)
  refine takeY 4 (h:=?_)
  refine takeY 5 (h:=?_)
  (try simp only [Act.put,List.setIfInBounds_toArray,List.set_cons_zero,List.set_cons_succ])
  refine takeY 6 (h:=?_)
  (try simp only [Act.put,List.setIfInBounds_toArray,List.set_cons_zero,List.set_cons_succ])
  refine wpAnyH_ready (rs:=[7]) (by kernel_rfl) (by simp) ?_
  refine AllReadyH.cons (by (simp only [List.getElem?_toArray,List.getElem?_cons_succ,List.getElem?_cons_zero]) <;> rfl) (fun K hK=>?_) AllReadyH.nil
  go_simp
  go_at_call 207
  with_reducible refine (Tryz.wordRest p P y _ HPD.out HDP.out HY.out.1 HY.out.2.1 (by have:=HLEN.out; omega)).mono ?_
  rintro e w8 ⟨rfl,rfl⟩
  have hm0:0 ≤ val P % y:=Int.emod_nonneg _ (by have:=HY.out; omega)
  have hm1:val P % y < y:=Int.emod_lt_of_pos _ (by have:=HY.out; omega)
  obtain ⟨r,hr⟩:∃ r,val P % y = r:=⟨_,rfl⟩
  have HRV:Hid (val P % y = r):=hr
  have hy9:=HY.out.2.1
  rw [hr] at hm0 hm1 ⊢
  clear hr
  refine hK.out _ _ hHeld (fun hHeld=>?_)
  clear hK K
  (try simp only [Act.put,List.setIfInBounds_toArray,List.set_cons_zero,List.set_cons_succ])
  refine wpAnyH_ready (rs:=[8]) (by kernel_rfl) (by simp) ?_
  refine AllReadyH.cons (by (simp only [List.getElem?_toArray,List.getElem?_cons_succ,List.getElem?_cons_zero]) <;> rfl) (fun K hK=>?_) AllReadyH.nil
  go_simp
  go_at_call 206
  with_reducible refine (Tryz.wordDivisor y r _ (by omega) hy9 hm0 (by omega)).mono ?_
  rintro e w9 ⟨rfl,hb9⟩
  have HGV:Hid ((Int.gcd y r:Int) = Int.gcd (val xs) (val ys) ∧ Int.gcd y r ≤ y):=⟨by rw [← HRV.out,gcd_word HG.out],Int.le_of_dvd (by omega) (Int.gcd_dvd_left _ _)⟩
  obtain ⟨gg,hgg⟩:∃ gg:Int,(Int.gcd y r:Int) = gg:=⟨_,rfl⟩
  have HGG:Hid (gg = Int.gcd (val xs) (val ys) ∧ 0 ≤ gg ∧ gg ≤ 18446744073709551615):=⟨by rw [← hgg,HGV.out.1],by omega,by have:=HGV.out.2; omega⟩
  rw [hgg]
  have hh9:w9.cell? ⟨gy,0,none⟩ = some (.int .u64 y):=(hb9.cell (p:=⟨gy,0,none⟩) hylt).trans hyc
  have HB9:Hid (Below w.heap.size w w9):=Below.after HBD.out hb9
  have hlt9:gy < w9.heap.size:=Nat.lt_of_lt_of_le hylt hb9.size
  clear hgg HGV hHeld
  refine hK.out _ _ hh9 (fun hHeld=>?_)
  clear hK K
  (try simp only [Act.put,List.setIfInBounds_toArray,List.set_cons_zero,List.set_cons_succ])
  refine wpAnyH_ready (rs:=[9]) (by kernel_rfl) (by simp) ?_
  refine AllReadyH.cons (by (simp only [List.getElem?_toArray,List.getElem?_cons_succ,List.getElem?_cons_zero]) <;> rfl) (fun K hK=>?_) AllReadyH.nil
  go_simp
  have hrow:RowOf (w9.alloc (.cells #[.int .u64 gg] 73)) w9.heap.size [gg]:=by unfold RowOf; rw [heap_alloc_last]; rfl
  have HROW:=Lib.hid hrow
  have hhA:(w9.alloc (.cells #[.int .u64 gg] 73)).cell? ⟨gy,0,none⟩ = some (.int .u64 y):=(((Below.refl w9.heap.size w9).alloc (Nat.le_refl _) _).cell (p:=⟨gy,0,none⟩) hlt9).trans hh9
  clear hrow hHeld
  refine hK.out _ _ hhA (fun hHeld=>?_)
  clear hK K
  (try simp only [Act.put,List.setIfInBounds_toArray,List.set_cons_zero,List.set_cons_succ])
  refine takeY 10 (h:=?_)
  (try simp only [Act.put,List.setIfInBounds_toArray,List.set_cons_zero,List.set_cons_succ])
  refine wpAnyH_done (by kernel_rfl) ?_ _
  clear hHeld
  go_wp2
  go_ret
  exact ⟨⟨_,[gg],rfl,HROW.out.digs (by unfold maxLen; simp),fun d hd=>by rw [List.mem_singleton.1 hd]; exact HGG.out.2,by rw [val_cons]; simp; exact HGG.out.1,by have:=HLEN.out; have:=HY.out; simp; omega⟩,HB9.out.alloc (by have:=HB9.out.size; exact this) _⟩
theorem Tryz.divisor (v u:Value) (xs ys:List Int) (w:World) (hv:Digs w v xs) (hu:Digs w u ys) (hx:Dig xs) (hy:Dig ys) (tx:Top xs) (ty:Top ys) (hle:val ys ≤ val xs) (hlen:xs.length ≤ 80000000000) :
 Calls Tryz.prog 175 #[v,u] w fun e w'=>DivIs xs ys w' e ∧ Below w.heap.size w w':=by
 by_cases h2:2 ≤ ys.length
 ·exact Tryz.divisorLong v u xs ys w hv hu hx hy tx ty h2 hle hlen
 ·by_cases h0:ys.length = 0
  ·exact Tryz.divisorNone v u xs ys w hv hu hx h0 hlen
  ·obtain ⟨y,rfl⟩:=List.length_eq_one_iff.1 (show ys.length = 1 by omega)
   have hvy:val [y] = y:=by simp [val_cons]
   have hyd:=hy y (by simp)
   have y1:1 ≤ y:=by
    rcases ty with e | e
    ·exact absurd e (by simp)
    ·simp at e; omega
   exact Tryz.divisorWord v u xs y w hv hu hx y1 hyd.2 (by rw [hvy] at hle; exact hle) hlen
end Go.Proofs.Wd
namespace Go.Proofs.Wd
open Go.RowKit
theorem Tryz.natGcd (v u:Value) (z y:Int) (n m:Nat) (w:World) (hv:Num w v z n) (hu:Num w u y m) (hn:n ≤ 80000000000) (hm:m ≤ 80000000000) :
 Calls Tryz.prog 138 #[v,u] w fun e w'=>(∃ r,e = .returned r ∧ Num w' r (Int.gcd z y) (max n m)) ∧ Below w.heap.size w w':=by
 obtain ⟨xs,ix,dx,tx,rfl,lx⟩:=hv
 obtain ⟨ys,iy,dy,ty,rfl,ly⟩:=hu
 have HU:Hid (IsNat w u ys):=iy
 have HV:Hid (IsNat w v xs):=ix
 have HC:=Lib.hid (show ∀ a b W,Digs W a xs → Digs W b ys → Calls Tryz.prog 172 #[a,b] W fun e w'=>e = .returned (.int .i64 (cmpI (val xs) (val ys))) ∧ Below W.heap.size W w' from fun a b W h k=>Tryz.compare a b xs ys W h k dx dy tx ty)
 have HL:Hid (xs.length ≤ n ∧ ys.length ≤ m):=⟨lx,ly⟩
 have HG:Hid (Int.gcd (val ys) (val xs) = Int.gcd (val xs) (val ys)):=Int.gcd_comm _ _
 obtain ⟨c,hc⟩:∃ c,cmpI (val xs) (val ys) = c:=⟨_,rfl⟩
 by_cases hlt:val xs < val ys
 ·have hcv:c = -1:=by rw [← hc,cmpI_lt hlt]
  subst hcv
  have HD:=Lib.hid (show ∀ a b W,Digs W a xs → Digs W b ys → Calls Tryz.prog 175 #[b,a] W fun e w'=>DivIs ys xs w' e ∧ Below W.heap.size W w' from fun a b W h k=>Tryz.divisor b a ys xs W k h dy dx ty tx (by omega) (by omega))
  rw [hc] at HC
  clear ix iy dx dy tx ty lx ly hc hlt
  go_enter Tryz.func138,Tryz.ntmps138
  go_wp2_with fail
  with_reducible refine (Tryz.all v xs _ HV.out).mono ?_
  rintro e w1 ⟨⟨s1,rfl,hs1⟩,rfl⟩
  have HS1:Hid (Digs w1 s1 xs):=hs1
  clear hs1
  go_wp2_with fail
  with_reducible refine (Tryz.all u ys _ HU.out).mono ?_
  rintro e w2 ⟨⟨s2,rfl,hs2⟩,rfl⟩
  have HS2:Hid (Digs w2 s2 ys):=hs2
  clear hs2
  go_wp2_with fail
  with_reducible refine (HC.out s1 s2 _ HS1.out HS2.out).mono ?_
  rintro e w3 ⟨rfl,hb3⟩
  have HA3:Hid (Digs w3 s1 xs):=HS1.out.below hb3 (Nat.le_refl _)
  have HB3:Hid (Digs w3 s2 ys):=HS2.out.below hb3 (Nat.le_refl _)
  have HW3:Hid (Below w2.heap.size w2 w3):=hb3
  clear hb3 HC HS1 HS2
  go_wp2_with fail
  with_reducible refine (HD.out s1 s2 _ HA3.out HB3.out).mono ?_
  rintro e w4 ⟨⟨r,R,rfl,hr,dr,er,lr⟩,hb4⟩
  have HR4:Hid (Digs w4 r R):=hr
  have HDR:Hid (Dig R):=dr
  have HER:Hid (val R = Int.gcd (val xs) (val ys) ∧ R.length ≤ max n m):=⟨by rw [er,HG.out],by have:=HL.out; omega⟩
  have HW4:Hid (Below w2.heap.size w2 w4):=Below.after HW3.out hb4
  clear hr dr er lr hb4 HD HA3 HB3 HW3
  go_wp2_with fail
  with_reducible refine (Tryz.made r R _ HR4.out HDR.out).mono ?_
  rintro e w5 ⟨⟨r',rfl,hr'⟩,hb5⟩
  have HR5:Hid (Num w5 r' (val R) R.length):=hr'
  have HW5:Hid (Below w2.heap.size w2 w5):=Below.after HW4.out hb5
  clear hr' hb5
  go_wp2
  go_ret
  exact ⟨⟨r',rfl,by rw [← HER.out.1]; exact HR5.out.fewer HER.out.2⟩,HW5.out⟩
 ·have hcv:0 ≤ c:=by rw [← hc]; unfold cmpI; rw [if_neg hlt]; split <;> omega
  have HD:=Lib.hid (show ∀ a b W,Digs W a xs → Digs W b ys → Calls Tryz.prog 175 #[a,b] W fun e w'=>DivIs xs ys w' e ∧ Below W.heap.size W w' from fun a b W h k=>Tryz.divisor a b xs ys W h k dx dy tx ty (by omega) (by omega))
  rw [hc] at HC
  clear ix iy dx dy tx ty lx ly hc hlt
  go_enter Tryz.func138,Tryz.ntmps138
  go_wp2_with fail
  with_reducible refine (Tryz.all v xs _ HV.out).mono ?_
  rintro e w1 ⟨⟨s1,rfl,hs1⟩,rfl⟩
  have HS1:Hid (Digs w1 s1 xs):=hs1
  clear hs1
  go_wp2_with fail
  with_reducible refine (Tryz.all u ys _ HU.out).mono ?_
  rintro e w2 ⟨⟨s2,rfl,hs2⟩,rfl⟩
  have HS2:Hid (Digs w2 s2 ys):=hs2
  clear hs2
  go_wp2_with fail
  with_reducible refine (HC.out s1 s2 _ HS1.out HS2.out).mono ?_
  rintro e w3 ⟨rfl,hb3⟩
  have HA3:Hid (Digs w3 s1 xs):=HS1.out.below hb3 (Nat.le_refl _)
  have HB3:Hid (Digs w3 s2 ys):=HS2.out.below hb3 (Nat.le_refl _)
  have HW3:Hid (Below w2.heap.size w2 w3):=hb3
  clear hb3 HC HS1 HS2
  go_wp2_with fail
  with_reducible refine (HD.out s1 s2 _ HA3.out HB3.out).mono ?_
  rintro e w4 ⟨⟨r,R,rfl,hr,dr,er,lr⟩,hb4⟩
  have HR4:Hid (Digs w4 r R):=hr
  have HDR:Hid (Dig R):=dr
  have HER:Hid (val R = Int.gcd (val xs) (val ys) ∧ R.length ≤ max n m):=⟨by rw [er],by have:=HL.out; omega⟩
  have HW4:Hid (Below w2.heap.size w2 w4):=Below.after HW3.out hb4
  clear hr dr er lr hb4 HD HA3 HB3 HW3
  go_wp2_with fail
  with_reducible refine (Tryz.made r R _ HR4.out HDR.out).mono ?_
  rintro e w5 ⟨⟨r',rfl,hr'⟩,hb5⟩
  have HR5:Hid (Num w5 r' (val R) R.length):=hr'
  have HW5:Hid (Below w2.heap.size w2 w5):=Below.after HW4.out hb5
  clear hr' hb5
  go_wp2
  go_ret
  exact ⟨⟨r',rfl,by rw [← HER.out.1]; exact HR5.out.fewer HER.out.2⟩,HW5.out⟩
theorem Tryz.natMul (v u:Value) (z y:Int) (n m:Nat) (w:World) (hv:Num w v z n) (hu:Num w u y m) (hn:n ≤ 100000000000) (hm:m ≤ 100000000000) :
 Calls Tryz.prog 132 #[v,u] w fun e w'=>(∃ r,e = .returned r ∧ Num w' r (z * y) (n + m)) ∧ Below w.heap.size w w':=by
 obtain ⟨xs,ix,dx,tx,rfl,lx⟩:=hv
 obtain ⟨ys,iy,dy,ty,rfl,ly⟩:=hu
 have HU:Hid (IsNat w u ys):=iy
 have HV:Hid (IsNat w v xs):=ix
 have HD:=Lib.hid (show ∀ a b W,Digs W a xs → Digs W b ys → Calls Tryz.prog 171 #[a,b] W fun e w'=>(∃ r L,e = .returned r ∧ NewRow w' W.heap.size r L ∧ Dig L ∧ L.length = xs.length + ys.length ∧ val L = val xs * val ys) ∧ Below W.heap.size W w' from fun a b W h k=>Tryz.product a b xs ys W h k dx dy (by omega) (by omega))
 have HL:Hid (xs.length ≤ n ∧ ys.length ≤ m):=⟨lx,ly⟩
 clear ix iy dx dy tx ty lx ly
 go_enter Tryz.func132,Tryz.ntmps132
 go_wp2_with fail
 with_reducible refine (Tryz.all v xs _ HV.out).mono ?_
 rintro e w1 ⟨⟨s1,rfl,hs1⟩,rfl⟩
 have HS1:Hid (Digs w1 s1 xs):=hs1
 clear hs1
 go_wp2_with fail
 with_reducible refine (Tryz.all u ys _ HU.out).mono ?_
 rintro e w2 ⟨⟨s2,rfl,hs2⟩,rfl⟩
 have HS2:Hid (Digs w2 s2 ys):=hs2
 clear hs2
 go_wp2_with fail
 with_reducible refine (HD.out s1 s2 _ HS1.out HS2.out).mono ?_
 rintro e w4 ⟨⟨r,R,rfl,hr,dr,lr,er⟩,hb4⟩
 have HR4:Hid (Digs w4 r R):=hr.digs (by have:=HL.out; omega)
 have HDR:Hid (Dig R):=dr
 have HER:Hid (val R = val xs * val ys ∧ R.length ≤ n + m):=⟨er,by have:=HL.out; omega⟩
 have HW4:Hid (Below w2.heap.size w2 w4):=hb4
 clear hr dr er lr hb4 HD HS1 HS2
 go_wp2_with fail
 with_reducible refine (Tryz.made r R _ HR4.out HDR.out).mono ?_
 rintro e w5 ⟨⟨r',rfl,hr'⟩,hb5⟩
 have HR5:Hid (Num w5 r' (val R) R.length):=hr'
 have HW5:Hid (Below w2.heap.size w2 w5):=Below.after HW4.out hb5
 clear hr' hb5
 go_wp2
 go_ret
 exact ⟨⟨r',rfl,by rw [← HER.out.1]; exact HR5.out.fewer HER.out.2⟩,HW5.out⟩
end Go.Proofs.Wd
