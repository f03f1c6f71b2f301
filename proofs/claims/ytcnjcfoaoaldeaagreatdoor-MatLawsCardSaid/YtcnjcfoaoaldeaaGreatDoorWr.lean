/- What foresee of the package nat tells: two rests that follow one another, made of the two numbers. What widened of the package nat returns: the words in so many of its own. What wordRest and wordDivisor of the package nat return. -/
import Derived.Test.YtcnjcfoaoaldeaaGreatDoorWk
import Derived.Handy
import Derived.Test.YtcnjcfoaoaldeaaGreatDoorSm
import Derived.Laws.CopyOwn
set_option linter.unusedVariables false
set_option maxHeartbeats 8000000
set_option maxRecDepth 100000
namespace Go.Proofs.Wd
open Go.RowKit
theorem orTop (a lo:Int) (p:Nat) (a0:0 ≤ a) (a1:a < 2 ^ p) (l0:0 ≤ lo) (h:a + lo * 2 ^ p ≤ 18446744073709551615):bits .or .u64 (lo * 2 ^ p) a = lo * 2 ^ p + a:=by
 have hp:(0:Int) < 2 ^ p:=Int.pow_pos (by omega)
 have hm:0 ≤ lo * 2 ^ p:=Int.mul_nonneg l0 (by omega)
 have e:=orMid a lo p a0 a1 l0 h
 generalize lo * 2 ^ p = b at *
 obtain ⟨A,rfl⟩:=Int.eq_ofNat_of_zero_le a0
 obtain ⟨B,rfl⟩:=Int.eq_ofNat_of_zero_le hm
 rw [bits_or_u64_nat _ _ (by omega) (by omega)] at e ⊢
 rw [Nat.or_comm,e]; omega
/-- The words on top of a number, shifted, in one word. -/
theorem leadWord {x y s:Int} (s0:0 ≤ s) (s1:s ≤ 63) (x0:0 ≤ x) (x1:x * 2 ^ s.toNat + 2 ^ s.toNat ≤ 18446744073709551616) (y0:0 ≤ y) (y1:y ≤ 18446744073709551615) :
 bits .or .u64 (shlV x s) (shrV y (64 - s)) = x * 2 ^ s.toNat + y / 2 ^ (64 - s).toNat ∧ 0 ≤ y / 2 ^ (64 - s).toNat ∧ y / 2 ^ (64 - s).toNat < 2 ^ s.toNat:=by
 have hS:(0:Int) < 2 ^ s.toNat:=Int.pow_pos (by omega)
 obtain ⟨-,c2,c3,c4,-⟩:=cutWord y0 y1 s0 s1
 have e1:shlV x s = x * 2 ^ s.toNat:=by
  rw [shlPos x s s0 (by omega)]
  exact Int.emod_eq_of_lt (Int.mul_nonneg x0 (by omega)) (by omega)
 rw [e1,c2]
 refine ⟨orTop _ _ _ c4 c3 x0 (by omega),c4,c3⟩
theorem top_le {xs ys:List Int} {n:Nat} (hx:Dig xs) (hy:Dig ys) (hxl:xs.length = n + 1) (hyl:ys.length = n + 1) (h:val ys ≤ val xs):ys.getD n 0 ≤ xs.getD n 0:=by
 have e:=val_parts ys n
 have f:=val_parts xs n
 rw [val_drop,List.drop_eq_nil_of_le (by omega)] at e f
 simp only [val_nil,Int.mul_zero,Int.add_zero] at e f
 have a:=val_nonneg (hy.take n)
 have b:=take_lt hx n
 have hP:=pow_pos' n
 by_cases g:ys.getD n 0 ≤ xs.getD n 0
 ·exact g
 ·exfalso
  have:18446744073709551616 ^ n * (xs.getD n 0 + 1) ≤ 18446744073709551616 ^ n * ys.getD n 0:=Int.mul_le_mul_of_nonneg_left (by omega) (by omega)
  rw [Int.mul_add,Int.mul_one] at this
  omega
theorem lead_le {X Y P a b xl yl:Int} (hX:X = a * P + xl) (hY:Y = b * P + yl) (x1:xl < P) (y0:0 ≤ yl) (hP:0 < P) (h:Y ≤ X):b ≤ a:=by
 by_cases g:b ≤ a
 ·exact g
 ·exfalso
  have:(a + 1) * P ≤ b * P:=Int.mul_le_mul_of_nonneg_right (by omega) (by omega)
  rw [Int.add_mul,Int.one_mul] at this
  omega
/-- All that foresee's loop asks of the two numbers. -/
structure Lead (X Y P a0 b0:Int):Prop where
 ex:∃ xl yl,X = a0 * P + xl ∧ Y = b0 * P + yl ∧ 0 ≤ xl ∧ xl < P ∧ 0 ≤ yl ∧ yl < P
 le:Y ≤ X
 ba:b0 ≤ a0
 bn:0 ≤ b0
 a1:1 ≤ a0
 a9:a0 ≤ 18446744073709551615
theorem heap_alloc_last (w:World) (o:Obj):(w.alloc o).heap[w.heap.size]? = some o:=by
 show (w.heap.push o)[w.heap.size]? = _
 simp
theorem heap_alloc_last' (w:World) (o:Obj) {k:Nat} (h:k = w.heap.size):(w.alloc o).heap[k]? = some o:=by rw [h]; exact heap_alloc_last w o
theorem heap_alloc_old (w:World) (o:Obj) {k:Nat} (h:k < w.heap.size):(w.alloc o).heap[k]? = w.heap[k]?:=by
 show (w.heap.push o)[k]? = _
 rw [Array.getElem?_push_lt h]; simp [h]
theorem heap_drewN' (w:World):∀ n,(w.drewN n).heap = w.heap
 | 0=>by rw [World.drewN_zero]
 | n + 1=>by rw [← World.drew_drewN]; exact heap_drewN' w n
theorem cell_drewN' (w:World) (n:Nat) (p:Addr):(w.drewN n).cell? p = w.cell? p:=by simp only [World.cell?_drewN]
/-- Block g holds a share. -/
def ShOf (w:World) (g:Nat) (u v:Int):Prop:=w.heap[g]? = some (.cells #[.int .u64 u,.int .u64 v] 270 (0,0))
theorem ShOf.c0 {w:World} {g:Nat} {u v:Int} (h:ShOf w g u v):w.cell? ⟨g,0,none⟩ = some (.int .u64 u):=by
 rw [cell_of_row _ _ _ _ _ _ h]; rfl
theorem ShOf.c1 {w:World} {g:Nat} {u v:Int} (h:ShOf w g u v):w.cell? ⟨g,1,none⟩ = some (.int .u64 v):=by
 rw [cell_of_row _ _ _ _ _ _ h]; rfl
theorem ShOf.f {w:World} {g:Nat} {u v:Int} (h:ShOf w g u v) (j:Nat):w.frozen? ⟨g,j,none⟩ = false:=frozen_of_row _ _ j _ _ h
theorem ShOf.lt {w:World} {g:Nat} {u v:Int} (h:ShOf w g u v):g < w.heap.size:=(Array.getElem?_eq_some_iff.1 h).1
theorem ShOf.put {w:World} {g:Nat} {u v u' v':Int} (h:ShOf w g u v):ShOf ((w.setCell ⟨g,0,none⟩ (.int .u64 u')).setCell ⟨g,1,none⟩ (.int .u64 v')) g u' v':=by
 unfold ShOf at *
 have h1:=heap_setCell_same w g 0 _ _ (.int .u64 u') h
 rw [heap_setCell_same _ g 1 _ _ (.int .u64 v') h1]
 rfl
theorem ShOf.other {w:World} {g b i:Nat} {u v:Int} {x:Value} (h:ShOf w g u v) (hne:g ≠ b):ShOf (w.setCell ⟨b,i,none⟩ x) g u v:=by
 unfold ShOf at *
 rw [Below.heap_setCell _ _ _ _ hne]; exact h
theorem ShOf.alloc {w:World} {g:Nat} {u v:Int} (h:ShOf w g u v) (o:Obj):ShOf (w.alloc o) g u v:=by
 unfold ShOf at *
 rw [heap_alloc_old _ _ (ShOf.lt h)]; exact h
theorem ShOf.new (w:World) (u v:Int):ShOf (w.alloc (.cells #[.int .u64 u,.int .u64 v] 270)) w.heap.size u v:=heap_alloc_last w _
theorem ShOf.drew {w:World} {g:Nat} {u v:Int} (h:ShOf w g u v):ShOf w.drew g u v:=h
theorem ShOf.drewN {w:World} {g:Nat} {u v:Int} (h:ShOf w g u v) (n:Nat):ShOf (w.drewN n) g u v:=by unfold ShOf at *; rw [heap_drewN']; exact h
theorem Tryz.foresee (gx capx gy capy n:Nat) (xs ys:List Int) (w:World) (hx:RowAt w gx capx xs) (hy:RowAt w gy capy ys) (hxl:xs.length = n + 2) (hyl:ys.length = n + 2) (hxd:Dig xs) (hyd:Dig ys) (hlen:n ≤ 1000000000000) (htop:1 ≤ xs.getD (n + 1) 0) (hle:val ys ≤ val xs) :
 Calls Tryz.prog 235 #[.slice (some ⟨gx,0,none⟩) (n + 2) capx,.slice (some ⟨gy,0,none⟩) (n + 2) capy] w fun e w'=>
  (∃ u0 v0 u1 v1 q,e = .returned (.tuple #[.agg #[.int .u64 u0,.int .u64 v0],.agg #[.int .u64 u1,.int .u64 v1],.bool q]) ∧ 0 ≤ u0 ∧ u0 ≤ 18446744073709551615 ∧ 0 ≤ v0 ∧ v0 ≤ 18446744073709551615 ∧ 0 ≤ u1 ∧ u1 ≤ 18446744073709551615 ∧ 0 ≤ v1 ∧ v1 ≤ 18446744073709551615 ∧ (v0 = 0 ∨ Good (val xs) (val ys) u0 v0 u1 v1 q)) ∧ Below w.heap.size w w':=by
 obtain ⟨x1,hx1⟩:∃ x1,xs.getD (n + 1) 0 = x1:=⟨_,rfl⟩
 obtain ⟨x2,hx2⟩:∃ x2,xs.getD n 0 = x2:=⟨_,rfl⟩
 obtain ⟨y1,hy1⟩:∃ y1,ys.getD (n + 1) 0 = y1:=⟨_,rfl⟩
 obtain ⟨y2,hy2⟩:∃ y2,ys.getD n 0 = y2:=⟨_,rfl⟩
 have dx1:=hxd.get (n + 1)
 have dx2:=hxd.get n
 have dy1:=hyd.get (n + 1)
 have dy2:=hyd.get n
 have hyx:=top_le hxd hyd hxl hyl hle
 have cx1:=hx.cells (n + 1) (by omega)
 have cx2:=hx.cells n (by omega)
 have cy1:=hy.cells (n + 1) (by omega)
 have cy2:=hy.cells n (by omega)
 have hgx:=hx.lt
 have hgy:=hy.lt
 rw [hx1] at dx1 cx1 htop hyx
 rw [hx2] at dx2 cx2
 rw [hy1] at dy1 cy1 hyx
 rw [hy2] at dy2 cy2
 have HL:Hid (∀ L,IsLen x1 L → ∃ a0 b0 P,bits .or .u64 (shlV x1 (64 - L)) (shrV x2 (64 - (64 - L))) = a0 ∧ bits .or .u64 (shlV y1 (64 - L)) (shrV y2 (64 - (64 - L))) = b0 ∧ Lead (val xs) (val ys) P a0 b0):=by
  intro L hL
  obtain ⟨s0,s1,slo,shi⟩:=shift_of hL htop
  generalize 64 - L = s at *
  have hSS:(0:Int) < 2 ^ s.toNat:=Int.pow_pos (by omega)
  have hm:y1 * 2 ^ s.toNat ≤ x1 * 2 ^ s.toNat:=Int.mul_le_mul_of_nonneg_right hyx (by omega)
  obtain ⟨e1,p0,p1⟩:=leadWord (y:=x2) s0 s1 dx1.1 (by omega) dx2.1 dx2.2
  obtain ⟨e2,q0,q1⟩:=leadWord (y:=y2) s0 s1 dy1.1 (by omega) dy2.1 dy2.2
  obtain ⟨xl,f1,f2,f3⟩:=lead_of hxd hxl (by omega) s0 s1
  obtain ⟨yl,g1,g2,g3⟩:=lead_of hyd hyl (by omega) s0 s1
  rw [show n + 2 - 2 = n by omega] at f1 f3 g1 g3
  rw [show n + 2 - 1 = n + 1 by omega] at f1 g1
  rw [hx1,hx2] at f1
  rw [hy1,hy2] at g1
  have hyn:0 ≤ y1 * 2 ^ s.toNat:=Int.mul_nonneg dy1.1 (by omega)
  refine ⟨_,_,_,e1,e2,⟨xl,yl,f1,g1,f2,f3,g2,g3⟩,hle,lead_le f1 g1 f3 g2 (by omega) hle,by omega,by omega,by omega⟩
 clear hx hy hxl hyl hxd hyd hx1 hx2 hy1 hy2 hle
 go_enter Tryz.func235,Tryz.ntmps235
 go_wp2_with fail
 with_reducible refine (Tryz.Len x1 _ dx1.1 dx1.2).mono ?_
 rintro e w2 ⟨⟨Ln,hL,rfl⟩,hw2⟩
 obtain ⟨a0,b0,P,ea,eb,hlead⟩:=HL.out Ln hL
 have hLl:=hL.lo
 have hLh:=hL.hi
 obtain ⟨s0,s1,-,-⟩:=shift_of hL htop
 obtain ⟨s,hs⟩:∃ s,64 - Ln = s:=⟨_,rfl⟩
 rw [hs] at ea eb s0 s1
 obtain ⟨g4,hg4⟩:∃ g4,w.heap.size = g4:=⟨_,rfl⟩
 have hS4:ShOf w2 g4 0 0:=by unfold ShOf; rw [hw2,← hg4,heap_alloc_old _ _ (by simp),heap_alloc_last]
 have hS5:ShOf w2 (g4 + 1) 0 0:=by unfold ShOf; rw [hw2,← hg4,heap_alloc_last' _ _ (by simp)]
 have HB2:Hid (Below w.heap.size w w2):=by
  show Below _ _ _
  rw [hw2]; exact ((Below.refl _ _).alloc (Nat.le_refl _) _).alloc (by simp) _
 have cx1':=(HB2.out.cell (p:=⟨gx,n + 1,none⟩) hgx).trans cx1
 have cx2':=(HB2.out.cell (p:=⟨gx,n,none⟩) hgx).trans cx2
 have cy1':=(HB2.out.cell (p:=⟨gy,n + 1,none⟩) hgy).trans cy1
 have cy2':=(HB2.out.cell (p:=⟨gy,n,none⟩) hgy).trans cy2
 have hsz:w2.heap.size = g4 + 2:=by rw [hw2,← hg4]; simp
 have HLEAD:Hid (Lead (val xs) (val ys) P a0 b0):=hlead
 have hsub:IntKind.i64.wrap ((n:Int) + 2 - 2) = (n:Int):=by rw [show (n:Int) + 2 - 2 = n by omega]; simp [IntKind.wrap,IntKind.signed,IntKind.bits]; omega
 have hsub1:IntKind.i64.wrap ((n:Int) + 2 - 1) = (n:Int) + 1:=by rw [show (n:Int) + 2 - 1 = n + 1 by omega]; simp [IntKind.wrap,IntKind.signed,IntKind.bits]; omega
 obtain ⟨lx1,hlx1⟩:∃ z,shlV x1 s = z:=⟨_,rfl⟩
 obtain ⟨lx2,hlx2⟩:∃ z,shrV x2 (64 - s) = z:=⟨_,rfl⟩
 obtain ⟨ly1,hly1⟩:∃ z,shlV y1 s = z:=⟨_,rfl⟩
 obtain ⟨ly2,hly2⟩:∃ z,shrV y2 (64 - s) = z:=⟨_,rfl⟩
 have HC1:Hid (∀ W,Calls Tryz.prog 228 #[.int .u64 x1,.int .i64 s] W fun e w'=>e = .returned (.int .u64 lx1) ∧ w' = W):=fun W=>by rw [← hlx1]; exact Go.Proofs.Tryz.Shl x1 s W dx1.1 dx1.2 (by omega) (by omega)
 have HC2:Hid (∀ W,Calls Tryz.prog 229 #[.int .u64 x2,.int .i64 (64 - s)] W fun e w'=>e = .returned (.int .u64 lx2) ∧ w' = W):=fun W=>by rw [← hlx2]; exact Go.Proofs.Tryz.Shr x2 (64 - s) W dx2.1 dx2.2 (by omega) (by omega)
 have HC3:Hid (∀ W,Calls Tryz.prog 228 #[.int .u64 y1,.int .i64 s] W fun e w'=>e = .returned (.int .u64 ly1) ∧ w' = W):=fun W=>by rw [← hly1]; exact Go.Proofs.Tryz.Shl y1 s W dy1.1 dy1.2 (by omega) (by omega)
 have HC4:Hid (∀ W,Calls Tryz.prog 229 #[.int .u64 y2,.int .i64 (64 - s)] W fun e w'=>e = .returned (.int .u64 ly2) ∧ w' = W):=fun W=>by rw [← hly2]; exact Go.Proofs.Tryz.Shr y2 (64 - s) W dy2.1 dy2.2 (by omega) (by omega)
 rw [hlx1,hlx2] at ea
 rw [hly1,hly2] at eb
 have hgw:w.heap.size ≤ g4:=by omega
 rw [hg4]
 obtain ⟨g5,hg5⟩:∃ g5,g4 + 1 = g5:=⟨_,rfl⟩
 obtain ⟨g6,hg6⟩:∃ g6,g4 + 2 = g6:=⟨_,rfl⟩
 rw [hg5]
 rw [hg5] at hS5
 rw [hg6] at hsz
 have n45:g4 ≠ g5:=by omega
 have n46:g4 ≠ g6:=by omega
 have n56:g5 ≠ g6:=by omega
 have n54:g5 ≠ g4:=by omega
 have n64:g6 ≠ g4:=by omega
 have n65:g6 ≠ g5:=by omega
 clear HL hL hw2 hlead cx1 cx2 cy1 cy2 hlx1 hlx2 hly1 hly2 hg4
 go_wp2
 go_quiet ((first
  |(go_at_call 228; exact Calls.quiet_of_same (HC1.out _))
  |(go_at_call 229; exact Calls.quiet_of_same (HC2.out _))))
 have HB3:Hid (Below w.heap.size w (w2.drewN nq)):=belowN HB2.out nq
 have hS4:=hS4.drewN nq
 have hS5:=hS5.drewN nq
 rw [← heap_drewN' w2 nq] at hsz
 rw [← cell_drewN' w2 nq] at cy1' cy2'
 clear HB2 cx1' cx2'
 generalize w2.drewN nq = w3 at *
 go_wp2
 go_quiet ((first
  |(go_at_call 228; exact Calls.quiet_of_same (HC3.out _))
  |(go_at_call 229; exact Calls.quiet_of_same (HC4.out _))))
 have HB4:Hid (Below w.heap.size w (w3.drewN nq)):=belowN HB3.out nq
 have hS4:=hS4.drewN nq
 have hS5:=hS5.drewN nq
 rw [← heap_drewN' w3 nq] at hsz
 clear HB3 cy1' cy2'
 generalize w3.drewN nq = w4 at *
 have hN:ShOf (w4.alloc (.cells #[.int .u64 0,.int .u64 0] 270)) g6 0 0:=by rw [← hsz]; exact ShOf.new w4 0 0
 have hS5':ShOf (w4.alloc (.cells #[.int .u64 0,.int .u64 0] 270)) g5 0 0:=hS5.alloc _
 have hS4':ShOf (w4.alloc (.cells #[.int .u64 0,.int .u64 0] 270)) g4 0 0:=hS4.alloc _
 have c50:=hS5'.c0
 have c51:=hS5'.c1
 have cN0:=hN.c0
 have cN1:=hN.c1
 have f50:=hS5'.f 0
 have f51:=hS5'.f 1
 have fN0:=hN.f 0
 have fN1:=hN.f 1
 have HS4:Hid (ShOf (w4.alloc (.cells #[.int .u64 0,.int .u64 0] 270)) g4 0 0):=hS4'
 have HS5:Hid (ShOf (w4.alloc (.cells #[.int .u64 0,.int .u64 0] 270)) g5 0 0):=hS5'
 have HSN:Hid (ShOf (w4.alloc (.cells #[.int .u64 0,.int .u64 0] 270)) g6 0 0):=hN
 have HB5:Hid (Below w.heap.size w (w4.alloc (.cells #[.int .u64 0,.int .u64 0] 270))):=HB4.out.alloc (by have:=HB4.out.size; exact this) _
 clear hN hS5' hS4' hS4 hS5
 go_wp2
 have HQ4:Hid (ShOf (((((w4.alloc (.cells #[.int .u64 0,.int .u64 0] 270)).setCell ⟨g5,0,none⟩ (.int .u64 1)).setCell ⟨g5,1,none⟩ (.int .u64 0)).setCell ⟨g6,0,none⟩ (.int .u64 0)).setCell ⟨g6,1,none⟩ (.int .u64 1)) g4 0 0):=(((HS4.out.other n45).other n45).other n46).other n46
 have HQ5:Hid (ShOf (((((w4.alloc (.cells #[.int .u64 0,.int .u64 0] 270)).setCell ⟨g5,0,none⟩ (.int .u64 1)).setCell ⟨g5,1,none⟩ (.int .u64 0)).setCell ⟨g6,0,none⟩ (.int .u64 0)).setCell ⟨g6,1,none⟩ (.int .u64 1)) g5 1 0):=(HS5.out.put.other n56).other n56
 have HQ6:Hid (ShOf (((((w4.alloc (.cells #[.int .u64 0,.int .u64 0] 270)).setCell ⟨g5,0,none⟩ (.int .u64 1)).setCell ⟨g5,1,none⟩ (.int .u64 0)).setCell ⟨g6,0,none⟩ (.int .u64 0)).setCell ⟨g6,1,none⟩ (.int .u64 1)) g6 0 1):=((HSN.out.other n65).other n65).put
 have HB6:Hid (Below w.heap.size w (((((w4.alloc (.cells #[.int .u64 0,.int .u64 0] 270)).setCell ⟨g5,0,none⟩ (.int .u64 1)).setCell ⟨g5,1,none⟩ (.int .u64 0)).setCell ⟨g6,0,none⟩ (.int .u64 0)).setCell ⟨g6,1,none⟩ (.int .u64 1))):=(((HB5.out.setCell (show w.heap.size ≤ g5 by omega) _).setCell (show w.heap.size ≤ g5 by omega) _).setCell (show w.heap.size ≤ g6 by omega) _).setCell (show w.heap.size ≤ g6 by omega) _
 generalize (((((w4.alloc (.cells #[.int .u64 0,.int .u64 0] 270)).setCell ⟨g5,0,none⟩ (.int .u64 1)).setCell ⟨g5,1,none⟩ (.int .u64 0)).setCell ⟨g6,0,none⟩ (.int .u64 0)).setCell ⟨g6,1,none⟩ (.int .u64 1)) = w5 at *
 clear HS4 HS5 HSN HB4 HB5 c50 c51 cN0 cN1 f50 f51 fN0 fN1
 go_loopw [6,9,10] (fun ev av bv wr=>∃ (u0 v0 u1 v1 u2 v2 a b:Int) (q:Bool),ev = .bool q ∧ av = .int .u64 a ∧ bv = .int .u64 b ∧ FAt (val xs) (val ys) a0 b0 u0 v0 u1 v1 u2 v2 a b q ∧ ShOf wr g4 u0 v0 ∧ ShOf wr g5 u1 v1 ∧ ShOf wr g6 u2 v2 ∧ Below w.heap.size w wr) (fun _ _ bv _=>(intOf bv).toNat)
 case atStart=>exact ⟨0,0,1,0,0,1,a0,b0,false,rfl,rfl,rfl,FAt.start _ _ HLEAD.out.ba HLEAD.out.bn HLEAD.out.a1,HQ4.out,HQ5.out,HQ6.out,HB6.out⟩
 case round=>
  obtain ⟨u0,v0,u1,v1,u2,v2,a,b,q,rfl,rfl,rfl,hat,h4,h5,h6,hb⟩:=hrel
  have HA:Hid (FAt (val xs) (val ys) a0 b0 u0 v0 u1 v1 u2 v2 a b q):=hat
  have H4:Hid (ShOf wr g4 u0 v0):=h4
  have H5:Hid (ShOf wr g5 u1 v1):=h5
  have H6:Hid (ShOf wr g6 u2 v2):=h6
  have HB:Hid (Below w.heap.size w wr):=hb
  have a9:=HLEAD.out.a9
  have c40:=h4.c0
  have c41:=h4.c1
  have c50:=h5.c0
  have c51:=h5.c1
  have c60:=h6.c0
  have c61:=h6.c1
  have f4:=h4.f
  have f5:=h5.f
  have f6:=h6.f
  have u0n:=hat.u0n; have v0n:=hat.v0n; have u1n:=hat.u1n; have v1n:=hat.v1n; have u2n:=hat.u2n; have v2n:=hat.v2n
  have u0m:=hat.u0m; have v0m:=hat.v0m; have u1m:=hat.u1m; have v1m:=hat.v1m; have u2m:=hat.u2m; have v2m:=hat.v2m
  have hba:=hat.ba
  have hbn:=hat.bn
  have ham:a ≤ a0:=by
   have h1:=hat.whole
   have h2:a * 1 ≤ a * v2:=Int.mul_le_mul_of_nonneg_left v2n (by omega)
   have h3:0 ≤ b * v1:=Int.mul_nonneg hbn v1n
   omega
  clear hat h4 h5 h6 hb
  by_cases hc1:v2 ≤ b
  ·have hroom:=HA.out.room hc1
   by_cases hc2:v1 + v2 ≤ a - b
   ·obtain ⟨xl,yl,eX,eY,p1,p2,p3,p4⟩:=HLEAD.out.ex
    have hstep:=HA.out.step eX eY p1 p2 p3 p4 HLEAD.out.le hc1 hc2
    obtain ⟨hnew,m1,m2,m3,m4⟩:=hstep
    have R0:0 ≤ a % b:=Int.emod_nonneg _ (by omega)
    have R1:a % b < b:=Int.emod_lt_of_pos _ (by omega)
    have k1:=hnew.u2m
    have k2:=hnew.v2m
    have k3:=hnew.u2n
    have k4:=hnew.v2n
    obtain ⟨M1,hM1⟩:∃ M1,a / b * u2 = M1:=⟨_,rfl⟩
    obtain ⟨M2,hM2⟩:∃ M2,a / b * v2 = M2:=⟨_,rfl⟩
    rw [hM1] at m1 m2 k1 k3 hnew
    rw [hM2] at m3 m4 k2 k4 hnew
    have w1:IntKind.u64.wrap (a / b * u2) = M1:=by rw [hM1,u64w]; omega
    have w2:IntKind.u64.wrap (a / b * v2) = M2:=by rw [hM2,u64w]; omega
    have HNEW:Hid (FAt (val xs) (val ys) a0 b0 u1 v1 u2 v2 (u1 + M1) (v1 + M2) b (a % b) (!q)):=hnew
    clear eX eY p1 p2 p3 p4 hnew
    go_wp2
    go_quiet (fail)
    have H4:=Lib.hid (H4.out.drewN nq)
    have H5:=Lib.hid (H5.out.drewN nq)
    have H6:=Lib.hid (H6.out.drewN nq)
    have HB:=Lib.hid (belowN HB.out nq)
    clear c40 c41 c50 c51 c60 c61 f4 f5 f6
    generalize wr.drewN nq = w6 at *
    obtain ⟨g7,hg7⟩:∃ g7,w6.heap.size = g7:=⟨_,rfl⟩
    have l4:=H4.out.lt
    have l5:=H5.out.lt
    have l6:=H6.out.lt
    have lw:=HB.out.size
    have n47:g4 ≠ g7:=by omega
    have n57:g5 ≠ g7:=by omega
    have n67:g6 ≠ g7:=by omega
    have n74:g7 ≠ g4:=by omega
    have n75:g7 ≠ g5:=by omega
    have n76:g7 ≠ g6:=by omega
    have e50:=H5.out.c0
    have e51:=H5.out.c1
    have e60:=H6.out.c0
    have e61:=H6.out.c1
    have H4a:=H4.out.alloc (.cells #[.int .u64 0,.int .u64 0] 270)
    have H5a:=H5.out.alloc (.cells #[.int .u64 0,.int .u64 0] 270)
    have H6a:=H6.out.alloc (.cells #[.int .u64 0,.int .u64 0] 270)
    have H7a:ShOf (w6.alloc (.cells #[.int .u64 0,.int .u64 0] 270)) g7 0 0:=by rw [← hg7]; exact ShOf.new w6 0 0
    have c50:=H5a.c0
    have c51:=H5a.c1
    have c60:=H6a.c0
    have c61:=H6a.c1
    have c70:=H7a.c0
    have c71:=H7a.c1
    have f70:=H7a.f 0
    have f71:=H7a.f 1
    have H4b:=Lib.hid H4a
    have H5b:=Lib.hid H5a
    have H6b:=Lib.hid H6a
    have H7b:=Lib.hid H7a
    have HBb:Hid (Below w.heap.size w (w6.alloc (.cells #[.int .u64 0,.int .u64 0] 270))):=HB.out.alloc lw _
    clear H4a H5a H6a H7a
    go_wp2
    have H4c:ShOf (w6.alloc (.cells #[.int .u64 (u1 + M1),.int .u64 (v1 + M2)] 270)) g4 u0 v0:=H4.out.alloc _
    have H5c:ShOf (w6.alloc (.cells #[.int .u64 (u1 + M1),.int .u64 (v1 + M2)] 270)) g5 u1 v1:=H5.out.alloc _
    have H6c:ShOf (w6.alloc (.cells #[.int .u64 (u1 + M1),.int .u64 (v1 + M2)] 270)) g6 u2 v2:=H6.out.alloc _
    have H7c:ShOf (w6.alloc (.cells #[.int .u64 (u1 + M1),.int .u64 (v1 + M2)] 270)) g7 (u1 + M1) (v1 + M2):=by rw [← hg7]; exact ShOf.new w6 _ _
    have HBc:Hid (Below w.heap.size w (w6.alloc (.cells #[.int .u64 (u1 + M1),.int .u64 (v1 + M2)] 270))):=HB.out.alloc lw _
    generalize (w6.alloc (.cells #[.int .u64 (u1 + M1),.int .u64 (v1 + M2)] 270)) = w7 at *
    clear e50 e51 e60 e61 c50 c51 c60 c61 c70 c71 f70 f71 H4b H5b H6b H7b HBb H4 H5 H6 HB
    have c50:=H5c.c0
    have c51:=H5c.c1
    have c60:=H6c.c0
    have c61:=H6c.c1
    have c70:=H7c.c0
    have c71:=H7c.c1
    have c40:=H4c.c0
    have c41:=H4c.c1
    have f40:=H4c.f 0
    have f41:=H4c.f 1
    have f50:=H5c.f 0
    have f51:=H5c.f 1
    have f60:=H6c.f 0
    have f61:=H6c.f 1
    have H4d:=Lib.hid H4c
    have H5d:=Lib.hid H5c
    have H6d:=Lib.hid H6c
    clear H4c H5c H6c H7c
    go_wp2
    go_region
    have K4:Hid (ShOf ((((((w7.setCell ⟨g4,0,none⟩ (.int .u64 u1)).setCell ⟨g4,1,none⟩ (.int .u64 v1)).setCell ⟨g5,0,none⟩ (.int .u64 u2)).setCell ⟨g5,1,none⟩ (.int .u64 v2)).setCell ⟨g6,0,none⟩ (.int .u64 (u1 + M1))).setCell ⟨g6,1,none⟩ (.int .u64 (v1 + M2))).drew g4 u1 v1):=by
     have h:ShOf ((((((w7.setCell ⟨g4,0,none⟩ (.int .u64 u1)).setCell ⟨g4,1,none⟩ (.int .u64 v1)).setCell ⟨g5,0,none⟩ (.int .u64 u2)).setCell ⟨g5,1,none⟩ (.int .u64 v2)).setCell ⟨g6,0,none⟩ (.int .u64 (u1 + M1))).setCell ⟨g6,1,none⟩ (.int .u64 (v1 + M2))) g4 u1 v1:=(((H4d.out.put.other n45).other n45).other n46).other n46
     exact h.drew
    have K5:Hid (ShOf ((((((w7.setCell ⟨g4,0,none⟩ (.int .u64 u1)).setCell ⟨g4,1,none⟩ (.int .u64 v1)).setCell ⟨g5,0,none⟩ (.int .u64 u2)).setCell ⟨g5,1,none⟩ (.int .u64 v2)).setCell ⟨g6,0,none⟩ (.int .u64 (u1 + M1))).setCell ⟨g6,1,none⟩ (.int .u64 (v1 + M2))).drew g5 u2 v2):=by
     have h:ShOf ((((((w7.setCell ⟨g4,0,none⟩ (.int .u64 u1)).setCell ⟨g4,1,none⟩ (.int .u64 v1)).setCell ⟨g5,0,none⟩ (.int .u64 u2)).setCell ⟨g5,1,none⟩ (.int .u64 v2)).setCell ⟨g6,0,none⟩ (.int .u64 (u1 + M1))).setCell ⟨g6,1,none⟩ (.int .u64 (v1 + M2))) g5 u2 v2:=(((((H5d.out.other n54).other n54).put).other n56).other n56)
     exact h.drew
    have K6:Hid (ShOf ((((((w7.setCell ⟨g4,0,none⟩ (.int .u64 u1)).setCell ⟨g4,1,none⟩ (.int .u64 v1)).setCell ⟨g5,0,none⟩ (.int .u64 u2)).setCell ⟨g5,1,none⟩ (.int .u64 v2)).setCell ⟨g6,0,none⟩ (.int .u64 (u1 + M1))).setCell ⟨g6,1,none⟩ (.int .u64 (v1 + M2))).drew g6 (u1 + M1) (v1 + M2)):=by
     have h:ShOf ((((((w7.setCell ⟨g4,0,none⟩ (.int .u64 u1)).setCell ⟨g4,1,none⟩ (.int .u64 v1)).setCell ⟨g5,0,none⟩ (.int .u64 u2)).setCell ⟨g5,1,none⟩ (.int .u64 v2)).setCell ⟨g6,0,none⟩ (.int .u64 (u1 + M1))).setCell ⟨g6,1,none⟩ (.int .u64 (v1 + M2))) g6 (u1 + M1) (v1 + M2):=((((H6d.out.other n64).other n64).other n65).other n65).put
     exact h.drew
    have KB:Hid (Below w.heap.size w ((((((w7.setCell ⟨g4,0,none⟩ (.int .u64 u1)).setCell ⟨g4,1,none⟩ (.int .u64 v1)).setCell ⟨g5,0,none⟩ (.int .u64 u2)).setCell ⟨g5,1,none⟩ (.int .u64 v2)).setCell ⟨g6,0,none⟩ (.int .u64 (u1 + M1))).setCell ⟨g6,1,none⟩ (.int .u64 (v1 + M2))).drew):=((((((HBc.out.setCell (show w.heap.size ≤ g4 by omega) _).setCell (show w.heap.size ≤ g4 by omega) _).setCell (show w.heap.size ≤ g5 by omega) _).setCell (show w.heap.size ≤ g5 by omega) _).setCell (show w.heap.size ≤ g6 by omega) _).setCell (show w.heap.size ≤ g6 by omega) _).drew
    generalize ((((((w7.setCell ⟨g4,0,none⟩ (.int .u64 u1)).setCell ⟨g4,1,none⟩ (.int .u64 v1)).setCell ⟨g5,0,none⟩ (.int .u64 u2)).setCell ⟨g5,1,none⟩ (.int .u64 v2)).setCell ⟨g6,0,none⟩ (.int .u64 (u1 + M1))).setCell ⟨g6,1,none⟩ (.int .u64 (v1 + M2))).drew = w8 at *
    go_wp2
    exact ⟨⟨u1,v1,u2,v2,u1 + M1,v1 + M2,b,a % b,!q,rfl,rfl,rfl,HNEW.out,K4.out,K5.out,K6.out,KB.out⟩,by simp [intOf]; omega⟩
   ·skip
    go_wp2
    go_region
    have K4:ShOf ((((wr.setCell ⟨g4,0,none⟩ (.int .u64 u0)).setCell ⟨g4,1,none⟩ (.int .u64 v0)).setCell ⟨g5,0,none⟩ (.int .u64 u1)).setCell ⟨g5,1,none⟩ (.int .u64 v1)).drew g4 u0 v0:=by
     have h:ShOf ((((wr.setCell ⟨g4,0,none⟩ (.int .u64 u0)).setCell ⟨g4,1,none⟩ (.int .u64 v0)).setCell ⟨g5,0,none⟩ (.int .u64 u1)).setCell ⟨g5,1,none⟩ (.int .u64 v1)) g4 u0 v0:=(H4.out.put.other n45).other n45
     exact h.drew
    have K5:ShOf ((((wr.setCell ⟨g4,0,none⟩ (.int .u64 u0)).setCell ⟨g4,1,none⟩ (.int .u64 v0)).setCell ⟨g5,0,none⟩ (.int .u64 u1)).setCell ⟨g5,1,none⟩ (.int .u64 v1)).drew g5 u1 v1:=by
     have h:ShOf ((((wr.setCell ⟨g4,0,none⟩ (.int .u64 u0)).setCell ⟨g4,1,none⟩ (.int .u64 v0)).setCell ⟨g5,0,none⟩ (.int .u64 u1)).setCell ⟨g5,1,none⟩ (.int .u64 v1)) g5 u1 v1:=((H5.out.other n54).other n54).put
     exact h.drew
    have HBE:Hid (Below w.heap.size w ((((wr.setCell ⟨g4,0,none⟩ (.int .u64 u0)).setCell ⟨g4,1,none⟩ (.int .u64 v0)).setCell ⟨g5,0,none⟩ (.int .u64 u1)).setCell ⟨g5,1,none⟩ (.int .u64 v1)).drew):=((((HB.out.setCell (show w.heap.size ≤ g4 by omega) _).setCell (show w.heap.size ≤ g4 by omega) _).setCell (show w.heap.size ≤ g5 by omega) _).setCell (show w.heap.size ≤ g5 by omega) _).drew
    generalize ((((wr.setCell ⟨g4,0,none⟩ (.int .u64 u0)).setCell ⟨g4,1,none⟩ (.int .u64 v0)).setCell ⟨g5,0,none⟩ (.int .u64 u1)).setCell ⟨g5,1,none⟩ (.int .u64 v1)).drew = w9 at *
    have d40:=K4.c0
    have d41:=K4.c1
    have d50:=K5.c0
    have d51:=K5.c1
    clear K4 K5
    go_wp2
    (try simp only [Exit.inBlock,Exit.then])
    refine bodyPost_ret (by simp [results,Tryz.results235,go_sem,d40,d41,d50,d51]; try rfl) rfl ?_
    exact ⟨⟨u0,v0,u1,v1,q,rfl,u0n,by omega,v0n,by omega,u1n,by omega,v1n,by omega,HA.out.first⟩,HBE.out⟩
  ·skip
   go_wp2
   go_region
   have K4:ShOf ((((wr.setCell ⟨g4,0,none⟩ (.int .u64 u0)).setCell ⟨g4,1,none⟩ (.int .u64 v0)).setCell ⟨g5,0,none⟩ (.int .u64 u1)).setCell ⟨g5,1,none⟩ (.int .u64 v1)).drew g4 u0 v0:=by
    have h:ShOf ((((wr.setCell ⟨g4,0,none⟩ (.int .u64 u0)).setCell ⟨g4,1,none⟩ (.int .u64 v0)).setCell ⟨g5,0,none⟩ (.int .u64 u1)).setCell ⟨g5,1,none⟩ (.int .u64 v1)) g4 u0 v0:=(H4.out.put.other n45).other n45
    exact h.drew
   have K5:ShOf ((((wr.setCell ⟨g4,0,none⟩ (.int .u64 u0)).setCell ⟨g4,1,none⟩ (.int .u64 v0)).setCell ⟨g5,0,none⟩ (.int .u64 u1)).setCell ⟨g5,1,none⟩ (.int .u64 v1)).drew g5 u1 v1:=by
    have h:ShOf ((((wr.setCell ⟨g4,0,none⟩ (.int .u64 u0)).setCell ⟨g4,1,none⟩ (.int .u64 v0)).setCell ⟨g5,0,none⟩ (.int .u64 u1)).setCell ⟨g5,1,none⟩ (.int .u64 v1)) g5 u1 v1:=((H5.out.other n54).other n54).put
    exact h.drew
   have HBE:Hid (Below w.heap.size w ((((wr.setCell ⟨g4,0,none⟩ (.int .u64 u0)).setCell ⟨g4,1,none⟩ (.int .u64 v0)).setCell ⟨g5,0,none⟩ (.int .u64 u1)).setCell ⟨g5,1,none⟩ (.int .u64 v1)).drew):=((((HB.out.setCell (show w.heap.size ≤ g4 by omega) _).setCell (show w.heap.size ≤ g4 by omega) _).setCell (show w.heap.size ≤ g5 by omega) _).setCell (show w.heap.size ≤ g5 by omega) _).drew
   generalize ((((wr.setCell ⟨g4,0,none⟩ (.int .u64 u0)).setCell ⟨g4,1,none⟩ (.int .u64 v0)).setCell ⟨g5,0,none⟩ (.int .u64 u1)).setCell ⟨g5,1,none⟩ (.int .u64 v1)).drew = w9 at *
   have d40:=K4.c0
   have d41:=K4.c1
   have d50:=K5.c0
   have d51:=K5.c1
   clear K4 K5
   go_wp2
   (try simp only [Exit.inBlock,Exit.then])
   refine bodyPost_ret (by simp [results,Tryz.results235,go_sem,d40,d41,d50,d51]; try rfl) rfl ?_
   exact ⟨⟨u0,v0,u1,v1,q,rfl,u0n,by omega,v0n,by omega,u1n,by omega,v1n,by omega,HA.out.first⟩,HBE.out⟩
end Go.Proofs.Wd
namespace Go.Proofs.Wd
open Go.RowKit
theorem val_take_of_lt {L:List Int} (h:Dig L) {n:Nat} (hv:val L < 18446744073709551616 ^ n):val (L.take n) = val L:=by
 have e:=val_parts L n
 have a:=val_nonneg (h.take n)
 have b:=val_nonneg (h.drop n)
 have hP:=pow_pos' n
 generalize (18446744073709551616:Int) ^ n = P at *
 by_cases g:val (L.drop n) = 0
 ·rw [g] at e; simp at e; omega
 ·exfalso
  have:P * 1 ≤ P * val (L.drop n):=Int.mul_le_mul_of_nonneg_left (by omega) (by omega)
  omega
theorem val_pad (L:List Int):∀ k,val (L ++ List.replicate k 0) = val L
 | 0=>by simp
 | k + 1 => by
   rw [List.replicate_succ',← List.append_assoc,val_snoc,val_pad L k]; simp
theorem dig_pad {L:List Int} (h:Dig L) (k:Nat):Dig (L ++ List.replicate k 0):=h.append fun d hd=>by rw [(List.mem_replicate.1 hd).2]; omega
theorem spliced2 (xs:List Int) (n:Nat) (h:xs.length ≤ n):splice (List.replicate n (Value.int .u64 0)) 0 (xs.map (Value.int .u64)) = (xs ++ List.replicate (n - xs.length) 0).map (Value.int .u64):=by
 unfold splice
 rw [List.take_zero,List.nil_append,Nat.zero_add,List.length_map,List.map_append,List.drop_replicate,List.map_replicate]
theorem Tryz.widened (v:Value) (xs:List Int) (n:Nat) (w:World) (hv:Digs w v xs) (hx:Dig xs) (hlen:n ≤ 1000000000000) :
 Calls Tryz.prog 234 #[v,.int .i64 n] w fun e w'=>(∃ M,e = .returned (.slice (some ⟨w.heap.size,0,none⟩) n n) ∧ RowOf w' w.heap.size M ∧ Dig M ∧ M.length = n ∧ (val xs < 18446744073709551616 ^ n → val M = val xs)) ∧ Below w.heap.size w w':=by
 obtain ⟨i0,hi,hz0,hz1,hz2⟩:=info_parts Tryz.info73
 have hsz1:(Tryz.prog.info? 73).map (·.size) = some 1:=by rw [hi]; simp [hz1]
 obtain ⟨p,cap,rfl,hxl,hxr⟩:=hv.slice
 have HX:Hid (Dig xs):=hx
 have HXR:Hid (0 < xs.length → ∃ g,p = some ⟨g,0,none⟩ ∧ RowAt w g cap xs):=hxr
 obtain ⟨l,hl⟩:∃ l,xs.length = l:=⟨_,rfl⟩
 have HL:Hid (xs.length = l):=hl
 rw [hl] at hxl
 rw [hl]
 obtain ⟨T,hT⟩:∃ T,xs.take n = T:=⟨_,rfl⟩
 have HT:Hid (xs.take n = T):=hT
 have HTL:Hid (T.length = min n l):=show T.length = min n l by rw [← hT,List.length_take,hl]
 clear hv hx hxr hl hT
 go_enter Tryz.func234,Tryz.ntmps234
 go_wp2_with (first
  |(refine wpList_make_full _ rfl _ _ 139 rfl w.heap.size 73 i0 (.int .u64 0) 1 Tryz.underlying139 hi hz0 hz1 .i64 .i64 _ _ n rfl rfl rfl rfl (by rw [hz2]; omega) (by unfold maxLen; omega) (by omega) ?_))
 intro w1 hown hgrow
 have hrow1:=RowOf.of_made (by rw [toList_madeCells_one] at hown; exact hown)
 have HB1:Hid (Below w.heap.size w w1):=(Below.refl _ _).grown hgrow (Nat.le_refl _) (fun k hk=>by cases hk)
 have HROWC:Hid (w1.heap[w.heap.size]? = some (.cells (List.replicate n (Value.int .u64 0)).toArray 73 (0,0))):=by
  have h:=hrow1
  unfold RowOf at h
  rw [List.map_replicate] at h
  exact h
 clear hown hgrow hrow1
 go_wp2_with (first
  |(refine wpList_copy_splice rfl (.tmp 8) (.tmp 9) 139 139 rfl 73 Tryz.underlying139 hsz1 _ _ _ _ _ _ rfl rfl w.heap.size 0 (List.replicate n (Value.int .u64 0)) 73 HROWC.out (T.map (Value.int .u64)) ?c1 ?c2 ?c3 ?c4 w.heap.size w HB1.out (Nat.le_refl _) ?_))
 case c1=>rw [List.length_map,HTL.out]; exact Nat.min_comm n l
 case c2=>
  intro hpos
  obtain ⟨g, hg, hr⟩ := HXR.out (by have h : 0 < T.length := by simpa using hpos
                                    have:=HL.out; have:=HTL.out; omega)
  first
   | refine ⟨rfl,_,hg,?_⟩
   | refine ⟨_,hg,?_⟩
  intro j v hj
  have hjl:j < T.length:=(List.getElem?_eq_some_iff.1 hj).1
  have hjn:j < n ∧ j < xs.length:=by have:=HTL.out; have:=HL.out; omega
  have e:(⟨g,0,none⟩:Addr).add j = ⟨g,j,none⟩:=by unfold Addr.add; split <;> simp_all
  have hlt:=hr.lt
  rw [e,HB1.out.cell (p:=⟨g,j,none⟩) hlt,hr.cells j hjn.2]
  have ht:T.getD j 0 = xs.getD j 0:=by rw [← HT.out]; simp only [List.getD,List.getElem?_take_of_lt hjn.1]
  rw [← ht]
  simp [List.getD,hj]
 case c3=>simp; have:=HTL.out; omega
 case c4=>
  intro u hm
  obtain ⟨z,_,rfl⟩:=List.mem_map.1 hm
  rfl
 intro w2 hrow2 hb2
 have HM:Hid (RowOf w2 w.heap.size (T ++ List.replicate (n - T.length) 0)):=by
  have h:=hrow2.out
  rw [spliced2 _ _ (by rw [HTL.out]; omega)] at h
  exact h
 have HB2:Hid (Below w.heap.size w w2):=hb2
 clear hrow2 hb2
 go_wp2
 go_ret
 refine ⟨⟨_,rfl,HM.out,dig_pad (by rw [← HT.out]; exact HX.out.take n) _,by rw [List.length_append,List.length_replicate,HTL.out]; omega,fun h=>?_⟩,HB2.out⟩
 rw [val_pad,← HT.out,val_take_of_lt HX.out h]
end Go.Proofs.Wd
namespace Go.Proofs.Wd
open Go.RowKit
theorem rest_step {xs:List Int} {k:Nat} {y Q r q r2:Int} (h:val (xs.drop (k + 1)) = y * Q + r) (e:q * y + r2 = r * 18446744073709551616 + xs.getD k 0):val (xs.drop k) = y * (18446744073709551616 * Q + q) + r2:=by
 rw [val_drop,h]
 grind
theorem Tryz.wordRest (v:Value) (xs:List Int) (y:Int) (w:World) (hv:Digs w v xs) (hx:Dig xs) (y0:1 ≤ y) (y1:y ≤ 18446744073709551615) (hlen:xs.length ≤ 1000000000000) :
 Calls Tryz.prog 207 #[v,.int .u64 y] w fun e w'=>e = .returned (.int .u64 (val xs % y)) ∧ w' = w:=by
 obtain ⟨p,cap,rfl,hxl,hxr⟩:=hv.slice
 obtain ⟨n,hn⟩:∃ n,xs.length = n:=⟨_,rfl⟩
 have HN:Hid (xs.length = n):=hn
 have HX:Hid (Dig xs):=hx
 have HXR:Hid (0 < xs.length → ∃ g,p = some ⟨g,0,none⟩ ∧ RowAt w g cap xs):=hxr
 have HS:Hid (val (xs.drop n) = y * 0 + 0):=by
  show _ = _
  rw [List.drop_eq_nil_of_le (by omega)]; simp
 rw [hn] at hxl hlen
 rw [hn]
 clear hv hx hxr hn
 go_enter Tryz.func207,Tryz.ntmps207
 go_wp2
 go_loopw [5,6] (fun rv i wr=>∃ (k:Nat) (r Q:Int),rv = .int .u64 r ∧ i = .int .i64 ((k:Int) - 1) ∧ k ≤ n ∧ val (xs.drop k) = y * Q + r ∧ 0 ≤ r ∧ r < y ∧ wr = w) (fun _ i _=>(intOf i + 1).toNat)
 case atStart=>exact ⟨n,0,0,rfl,rfl,by omega,HS.out,by omega,by omega,rfl⟩
 case round=>
  obtain ⟨k,r,Q,rfl,rfl,hk,hs,r0,r1,rfl⟩:=hrel
  have HV:Hid (val (xs.drop k) = y * Q + r):=hs
  clear hs
  cases k with
  | zero =>
    have hr:val xs % y = r:=by
     have h:=HV.out
     rw [List.drop_zero] at h
     rw [h,Int.add_comm,Int.add_mul_emod_self_left,Int.emod_eq_of_lt r0 r1]
    have HR:Hid (val xs % y = r):=hr
    clear hr
    go_wp2
    go_ret
    exact ⟨by rw [HR.out]; rfl,rfl⟩
  | succ k =>
    rw [show ((k + 1:Nat):Int) - 1 = k by omega]
    obtain ⟨g,rfl,hgr⟩:=HXR.out (by have:=HN.out; omega)
    obtain ⟨x,hxk⟩:∃ x,xs.getD k 0 = x:=⟨_,rfl⟩
    have hcx:=hgr.cells k (by have:=HN.out; omega)
    have hxd:=HX.out.get k
    rw [hxk] at hcx hxd
    have HXK:Hid (xs.getD k 0 = x):=hxk
    clear hgr hxk
    go_wp2_with fail
    with_reducible refine (Tryz.Div r x y _ r0 r1 hxd.1 hxd.2 y1).mono ?_
    rintro e w' ⟨⟨q,r',q0,q1,s0,s1,he,rfl⟩,rfl⟩
    have HE:Hid (q * y + r' = r * 18446744073709551616 + x):=he
    clear he
    go_wp2
    exact ⟨⟨k,r',18446744073709551616 * Q + q,rfl,rfl,by omega,rest_step HV.out (by rw [HXK.out]; exact HE.out),s0,s1,trivial⟩,by simp [intOf]⟩
theorem Tryz.wordDivisor (x y:Int) (w:World) (x0:0 ≤ x) (x1:x ≤ 18446744073709551615) (y0:0 ≤ y) (y1:y ≤ 18446744073709551615) :
 Calls Tryz.prog 206 #[.int .u64 x,.int .u64 y] w fun e w'=>e = .returned (.int .u64 (Int.gcd x y)) ∧ Below w.heap.size w w':=by
 go_enter Tryz.func206,Tryz.ntmps206
 go_wp2
 go_loopw [0,1] (fun av bv wr=>∃ (a b:Int),av = .int .u64 a ∧ bv = .int .u64 b ∧ 0 ≤ a ∧ a ≤ 18446744073709551615 ∧ 0 ≤ b ∧ b ≤ 18446744073709551615 ∧ Int.gcd a b = Int.gcd x y ∧ Below w.heap.size w wr) (fun _ bv _=>(intOf bv).toNat)
 case atStart=>exact ⟨x,y,rfl,rfl,x0,x1,y0,y1,rfl,Below.refl _ _⟩
 case round=>
  obtain ⟨a,b,rfl,rfl,a0,a1,b0,b1,hg,hb⟩:=hrel
  have HG:Hid (Int.gcd a b = Int.gcd x y):=hg
  have HB:Hid (Below w.heap.size w wr):=hb
  clear hg hb
  by_cases hz:b = 0
  ·subst hz
   have HE:Hid ((Int.gcd x y:Int) = a):=by
    show _ = _
    rw [← HG.out,Int.gcd_zero]; omega
   go_wp2
   go_ret
   exact ⟨by rw [HE.out]; rfl,HB.out⟩
  ·have R0:0 ≤ a % b:=Int.emod_nonneg _ (by omega)
   have R1:a % b < b:=Int.emod_lt_of_pos _ (by omega)
   have HG2:Hid (Int.gcd b (a % b) = Int.gcd x y):=by
    show _ = _
    rw [gcd_mod,HG.out]
   go_wp2
   go_quiet (fail)
   have HB2:Hid (Below w.heap.size w (wr.drewN nq)):=belowN HB.out nq
   go_wp2
   exact ⟨⟨b,a % b,rfl,rfl,b0,b1,R0,by omega,HG2.out,HB2.out⟩,by simp [intOf]; omega⟩
end Go.Proofs.Wd
