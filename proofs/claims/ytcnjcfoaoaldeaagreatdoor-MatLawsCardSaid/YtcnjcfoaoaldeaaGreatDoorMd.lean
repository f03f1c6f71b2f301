/- What New of the package vec calls: the comparison, sorting of rising terms, twice. What sorting of few rising terms, twice, IndexFunc and DeleteFunc at terms return. What At of the package vec returns: a number by its column, found by halves. Matrices: what width, read, New, all, Size, copied, At of the package mat return. Matrices: what copied, At, noughts, add, dot, Times of the package mat return. Matrices: what dot, Times, Mul, Turn of the package mat return. Matrices: what Turn of the package mat returns, what matrix of the law file returns. -/
import Derived.Test.YtcnjcfoaoaldeaaGreatDoorVo
import Derived.Test.YtcnjcfoaoaldeaaGreatDoorShelf2
import Derived.Test.YtcnjcfoaoaldeaaGreatDoorMr
import Derived.Test.YtcnjcfoaoaldeaaGreatDoorRn
import Derived.Test.YtcnjcfoaoaldeaaGreatDoorFg
set_option linter.unusedVariables false
set_option maxHeartbeats 8000000
set_option maxRecDepth 100000
namespace Go.Proofs.Vt
open Go.RowKit Go.Proofs.Wd Go.Proofs.Fr
end Go.Proofs.Vt
namespace Go.Proofs.Vt
open Go.RowKit Go.Proofs.Wd Go.Proofs.Fr
end Go.Proofs.Vt
namespace Go.Proofs.Vt
open Go.RowKit Go.Proofs.Wd Go.Proofs.Fr
theorem frac_copy {w:World} {a:Nat} {q:Rat} {k:Nat} (h:FracAt w a q k):∃ b x y p,w.cell? ⟨a,0,none⟩ = some (.bool b) ∧ w.cell? ⟨a,1,none⟩ = some (.int .u64 x) ∧ w.cell? ⟨a,2,none⟩ = some (.int .u64 y) ∧ w.cell? ⟨a,3,none⟩ = some (.pointer p) ∧
 FracAt (w.alloc (.cells #[.bool b,.int .u64 x,.int .u64 y,.pointer p] 110)) w.heap.size q k:=by
 obtain ⟨h1,h2,h3⟩:=h
 rcases h3 with ⟨g1,g2,g3,g4⟩ | ⟨g1,g2,g3,b,p,r,g4,g5,g6,g7,g8,g9⟩
 ·refine ⟨_,_,_,_,h2,g2,g3,g4,?_⟩
  have hn:=CellsAt.new w #[.bool (decide (q.num < 0)),.int .u64 (q.num.natAbs:Int),.int .u64 (q.den:Int),.pointer none] 110 rfl
  exact ⟨hn.lt,hn.cell 0,.inl ⟨g1,hn.cell 1,hn.cell 2,hn.cell 3⟩⟩
 ·refine ⟨_,_,_,_,h2,g2,g3,g4,?_⟩
  have hn:=CellsAt.new w #[.bool (decide (q.num < 0)),.int .u64 0,.int .u64 0,.pointer (some ⟨b,0,none⟩)] 110 rfl
  have hb:Below w.heap.size w (w.alloc (.cells #[.bool (decide (q.num < 0)),.int .u64 0,.int .u64 0,.pointer (some ⟨b,0,none⟩)] 110)):=(Below.refl _ _).alloc (Nat.le_refl _) _
  exact ⟨hn.lt,hn.cell 0,.inr ⟨g1,hn.cell 1,hn.cell 2,b,p,r,hn.cell 3,by have:=hb.size; omega,by rw [hb.cell g5]; exact g6,by rw [hb.cell g5]; exact g7,g8.below hb (Nat.le_refl _),g9.below hb (Nat.le_refl _)⟩⟩
end Go.Proofs.Vt
namespace Go.Proofs.Mt
open Go.RowKit Go.Proofs.Wd Go.Proofs.Fr Go.Proofs.Vt Go.Proofs.Mm
theorem Tryz.matWidth (v:Value) (R C:Nat) (T:Nat → Nat → ByteArray) (w:World) (h:RowsF w v R C T) (h1:1 ≤ R) (hR:R ≤ 440) (hC:C ≤ 440) :
 Calls Tryz.prog 75 #[v] w fun e w'=>e = .returned (.tuple #[.int .i64 C,.bool true]) ∧ w' = w:=by
 have H:=Lib.hid h
 obtain ⟨g,o,cap,p,c,rfl,d0,-,c1,c2,hg⟩:=h.nth (i:=0) (by omega)
 simp only [Nat.add_zero] at d0
 unfold maxLen at c2
 have hp:(0:Int) < (R:Int):=by omega
 have hp':0 < R:=by omega
 have e0:((R:Int) == 0) = false:=by simp; omega
 have e1:decide ((440:Int) < (R:Int)) = false:=by simp; omega
 have e2:decide ((440:Int) < (C:Int)) = false:=by simp; omega
 have e1':decide (440 < R) = false:=by simp; omega
 have e2':decide (440 < C) = false:=by simp; omega
 have hR':(R:Int) ≤ 440:=by omega
 clear h hg
 go_enter Tryz.func75,Tryz.ntmps75
 go_wp2_with fail
 go_loop [23] (fun iv=>∃ i:Nat,iv = .int .i64 i ∧ i ≤ R) (fun iv=>R - (intOf iv).toNat)
 case atStart=>exact ⟨0,rfl,Nat.zero_le _⟩
 case round=>
  obtain ⟨i,rfl,hi⟩:=hrel
  by_cases hlt:i < R
  ·obtain ⟨g',o',cap',p',c',he,d1,-,c1',c2',-⟩:=H.out.nth hlt
   simp only [Value.slice.injEq,Option.some.injEq,Addr.mk.injEq,and_true,true_and] at he
   obtain ⟨⟨rfl,rfl⟩,rfl⟩:=he
   unfold maxLen at c2'
   have hi0:(0:Int) ≤ (i:Int):=by omega
   have hi1:(i:Int) < (R:Int):=by omega
   clear d0
   go_wp2
   go_round
   case rel=>exact ⟨i + 1,by go_num,by omega⟩
   case measure=>simp [intOf]; omega
  ·have e3:decide ((i:Int) < (R:Int)) = false:=by simp; omega
   have e3':decide (i < R) = false:=by simpa using hlt
   go_wp2
   go_ret2
   exact ⟨rfl,rfl⟩
theorem Tryz.matRead (v:Value) (n:Nat) (s:Nat → ByteArray) (f:Nat → Rat) (w:World) (h:StrsF w v n s) (hf:∀ j,j < n → getQ (s j) = some (f j)) (hn:n ≤ 1000) :
 Calls Tryz.prog 76 #[v] w fun e w'=>(∃ g,e = .returned (.tuple #[.slice (some ⟨g,0,none⟩) n n,.bool true]) ∧ LineO w' g n n f 120 ∧ w.heap.size ≤ g) ∧ Below w.heap.size w w':=by
 have H:=Lib.hid h
 have HF:=Lib.hid hf
 obtain ⟨p,cap,rfl,c1,c2⟩:=h.slice
 unfold maxLen at c2
 obtain ⟨w1,hmk,ho,hb⟩:=Tryz.makeLine w 113 Tryz.underlying113 n n 120 rfl (by omega)
 obtain ⟨g,hg⟩:∃ g,w.heap.size = g:=⟨_,rfl⟩
 have HG:=Lib.hid hg
 have HO:Hid (LineO w1 g n n (fun j=>if j < 0 then f j else 0) 120):=by
  rw [← hg]; exact ho.congr (fun j _=>by rw [if_neg (by omega)]) (Nat.le_refl _)
 have HB:=Lib.hid hb
 rw [hg] at hmk
 clear h hf ho hb hg
 go_enter Tryz.func76,Tryz.ntmps76
 go_wp2_with fail
 clear hmk
 go_loopw [14] (fun iv wr=>∃ i:Nat,iv = .int .i64 i ∧ i ≤ n ∧ LineO wr g n n (fun j=>if j < i then f j else 0) 120 ∧ Below w.heap.size w wr) (fun iv _=>n - (intOf iv).toNat)
 case atStart=>exact ⟨0,rfl,Nat.zero_le _,HO.out,HB.out⟩
 case round=>
  obtain ⟨i,rfl,hi,ho,hb⟩:=hrel
  by_cases hlt:i < n
  ·obtain ⟨g',o,cap',he,d0,-⟩:=(H.out.below hb).nth hlt
   simp only [Value.slice.injEq,true_and] at he
   obtain ⟨rfl,rfl⟩:=he
   have HO1:=Lib.hid ho
   have HB1:=Lib.hid hb
   have hq:=HF.out i hlt
   have HQ:=Lib.hid hq
   have hsz:=getQ_size hq
   obtain ⟨t,ht⟩:∃ t,s i = t:=⟨_,rfl⟩
   rw [ht] at d0 HQ hsz
   have hi0:(0:Int) ≤ (i:Int):=by omega
   have hi1:(i:Int) < (n:Int):=by omega
   clear ho hb hq ht HO HB
   go_wp2_with fail
   with_reducible refine (Tryz.fracGet t _ (by omega)).mono ?_
   rintro e w3 ⟨⟨q,u,h1,rfl,h3⟩ | ⟨h1,rfl⟩,hb3⟩
   ·have hqf:q = f i:=by have:=HQ.out; rw [h1] at this; exact Option.some.inj this
    subst hqf
    obtain ⟨a,rfl⟩:=frac_pointer h3
    have HO3:=Lib.hid (HO1.out.below hb3)
    have HB3:=Lib.hid (HB1.out.trans (hb3.mono HB1.out.size))
    obtain ⟨b0,x0,x1,-⟩:=HO3.out.cell hlt
    have HR:Hid (LineO (w3.setCell ⟨g,i,none⟩ (.pointer a)) g n n (fun j=>if j < i + 1 then f j else 0) 120):=(HO3.out.set h3 hlt).congr (fun j hj=>by
     by_cases e:j = i
     ·rw [if_pos e,if_pos (by omega),e]
     ·rw [if_neg e]
      by_cases e2:j < i
      ·rw [if_pos e2,if_pos (by omega)]
      ·rw [if_neg e2,if_neg (by omega)]) (Nat.le_refl _)
    have HB4:Hid (Below w.heap.size w (w3.setCell ⟨g,i,none⟩ (.pointer a))):=HB3.out.setCell (p:=⟨g,i,none⟩) (show _ ≤ g by have:=HG.out; omega) _
    clear h1 h3 hb3 HO1 HB1 HO3 HB3 d0 HQ
    go_wp2
    go_roundw
    case rel=>exact ⟨i + 1,by go_num,by omega,HR.out,HB4.out⟩
    case measure=>simp [intOf]; omega
   ·exact absurd (h1.symm.trans HQ.out) (by simp)
  ·have e3:decide ((i:Int) < (n:Int)) = false:=by simp; omega
   have e3':decide (i < n) = false:=by simpa using hlt
   have HR:Hid (LineO wr g n n f 120):=ho.congr (fun j hj=>by rw [if_pos (by omega)]) (Nat.le_refl _)
   have HB4:=Lib.hid hb
   clear ho hb HO HB
   go_wp2
   go_ret2
   exact ⟨⟨g,rfl,HR.out,Nat.le_of_eq HG.out⟩,HB4.out⟩
/-- Lines of the call's own: the first i are written. -/
structure LinesO (w:World) (g R i C:Nat) (M:F) (k:Nat):Prop where
 max:R ≤ maxLen
 cells:∃ cur,CellsAt w g cur 113 ∧ cur.size = R ∧ (∀ j,j < i → ∃ u,cur[j]? = some u ∧ LineR w u C (M j) k) ∧ ∀ j,i ≤ j → j < R → cur[j]? = some (.slice none 0 0)
theorem LineR.oddv {w:World} {v:Value} {n k:Nat} {f:Nat → Rat} (h:LineR w v n f k) (hn:0 < n):OddV w v:=by
 obtain ⟨p,cap,rfl,-,-,h4 | ⟨g,o,cur,rfl,g2,-⟩⟩:=h
 ·omega
 ·exact .inr (.inr (.inl ⟨g,o,n,cap,cur,_,rfl,g2,by decide⟩))
theorem LinesO.odd {w:World} {g R i C k:Nat} {M:F} (h:LinesO w g R i C M k) (hR:0 < R) (hC:0 < C):Odd w g:=by
 obtain ⟨cur,h1,h2,h3,h4⟩:=h.cells
 refine ⟨cur,_,h1,by decide,fun u hu=>?_⟩
 by_cases hi:0 < i
 ·obtain ⟨a,a1,a2⟩:=h3 0 hi
  rw [hu] at a1
  rw [Option.some.inj a1]
  exact a2.oddv hC
 ·have:=h4 0 (by omega) hR
  rw [hu] at this
  rw [Option.some.inj this]
  exact .inr (.inl ⟨0,0,rfl⟩)
theorem LinesO.below {w w':World} {g R i C k:Nat} {M:F} (h:LinesO w g R i C M k) (hb:Below w.heap.size w w'):LinesO w' g R i C M k:=by
 obtain ⟨cur,h1,h2,h3,h4⟩:=h.cells
 refine ⟨h.max,cur,h1.below hb,h2,fun j hj=>?_,h4⟩
 obtain ⟨a,a1,a2⟩:=h3 j hj
 exact ⟨a,a1,a2.below hb⟩
theorem LinesO.cell {w:World} {g R i C k j:Nat} {M:F} (h:LinesO w g R i C M k) (hj:j < R):(∃ u,w.cell? ⟨g,j,none⟩ = some u) ∧ w.frozen? ⟨g,j,none⟩ = false:=by
 obtain ⟨cur,h1,h2,h3,h4⟩:=h.cells
 exact ⟨⟨cur[j]'(by omega),by rw [h1.cell,Array.getElem?_eq_getElem (by omega)]⟩,h1.free j⟩
theorem LinesO.set {w:World} {g R i C k:Nat} {M:F} {u:Value} (h:LinesO w g R i C M k) (hu:LineR w u C (M i) k) (hi:i < R) (hC:0 < C):LinesO (w.setCell ⟨g,i,none⟩ u) g R (i + 1) C M k:=by
 have ho:=h.odd (by omega) hC
 have hgr:=grown_setCell w g i u
 obtain ⟨cur,h1,h2,h3,h4⟩:=h.cells
 refine ⟨h.max,_,h1.set i _,by rw [Array.size_setIfInBounds]; exact h2,fun j hj=>?_,fun j hj hj2=>by rw [get_put (by omega)]; exact h4 j (by omega) hj2⟩
 by_cases e:j = i
 ·subst e
  exact ⟨u,get_put' (by omega),hu.far hgr ho (hu.other h1 (by decide))⟩
 ·obtain ⟨a,a1,a2⟩:=h3 j (by omega)
  exact ⟨a,by rw [get_put (by omega)]; exact a1,a2.far hgr ho (a2.other h1 (by decide))⟩
theorem LinesO.read {w:World} {g R C k:Nat} {M:F} (h:LinesO w g R R C M k):LinesR w (.slice (some ⟨g,0,none⟩) R R) R C M k:=by
 obtain ⟨cur,h1,h2,h3,h4⟩:=h.cells
 exact ⟨_,R,rfl,Nat.le_refl _,h.max,.inr ⟨g,0,cur,rfl,h1,fun j hj=>by rw [Nat.zero_add]; exact h3 j hj⟩⟩
theorem Tryz.makeLines (w:World) (c:Int) (n C:Nat) (M:F) (k:Nat) (hc:c = n) (hn:n ≤ 1000000000000):∃ w',(Instr.makeSlice 112 (.int .i64 c) (.int .i64 c)).run Tryz.prog w = .ok (.slice (some ⟨w.heap.size,0,none⟩) n n) w' ∧ LinesO w' w.heap.size n 0 C M k ∧ Below w.heap.size w w':=by
 obtain ⟨i0,hi,hz0,hz1,hz2⟩:=info_parts Tryz.infoLine
 subst hc
 have hr:=run_make (P:=Tryz.prog) w 112 113 i0 _ Tryz.underlying112 hi hz0 .i64 .i64 n n (by omega) (by omega) (by rw [hz2]; omega) (by omega)
 rw [hz1,Int.toNat_natCast] at hr
 refine ⟨_,hr,⟨by unfold maxLen; omega,_,CellsAt.new w _ _ rfl,by rw [size_madeCells,Nat.mul_one],fun j hj=>by omega,fun j _ hj=>?_⟩,(Below.refl _ _).alloc (Nat.le_refl _) _⟩
 simp [madeCells,Value.cells,hj,Nat.mod_one]
theorem Tryz.matNew (v:Value) (R C:Nat) (T:Nat → Nat → ByteArray) (M:F) (w:World) (h:RowsF w v R C T) (hf:∀ i j,i < R → j < C → getQ (T i j) = some (M i j)) (h1:1 ≤ R) (hR:R ≤ 440) (h2:1 ≤ C) (hC:C ≤ 440) :
 Calls Tryz.prog 30 #[v] w fun e w'=>(∃ r,e = .returned (.tuple #[r,.bool true]) ∧ MatR w' r R C M 120) ∧ Below w.heap.size w w':=by
 have H:=Lib.hid h
 have HF:=Lib.hid hf
 obtain ⟨p,cap,rfl,c1,c2⟩:=h.slice
 unfold maxLen at c2
 clear h hf
 go_enter Tryz.func30,Tryz.ntmps30
 go_wp2_with fail
 with_reducible refine (Tryz.matWidth _ R C T _ H.out h1 hR hC).mono ?_
 rintro e w0 ⟨rfl,hw0⟩
 subst hw0
 obtain ⟨w1,hmk,ho,hb⟩:=Tryz.makeLines w0 R R C M 120 rfl (by omega)
 obtain ⟨g,hg⟩:∃ g,w0.heap.size = g:=⟨_,rfl⟩
 have HG:=Lib.hid hg
 rw [hg] at ho hmk
 have HO:=Lib.hid ho
 have HB:=Lib.hid hb
 clear ho hb hg
 go_wp2_with fail
 clear hmk
 go_loopw [21] (fun iv wr=>∃ i:Nat,iv = .int .i64 i ∧ i ≤ R ∧ LinesO wr g R i C M 120 ∧ Below w0.heap.size w0 wr) (fun iv _=>R - (intOf iv).toNat)
 case atStart=>exact ⟨0,rfl,Nat.zero_le _,HO.out,HB.out⟩
 case round=>
  obtain ⟨i,rfl,hi,ho,hb⟩:=hrel
  by_cases hlt:i < R
  ·obtain ⟨g',o,cap',p',c',he,d0,hs,c1',c2',-⟩:=(H.out.below hb).nth hlt
   simp only [Value.slice.injEq,true_and] at he
   obtain ⟨rfl,rfl⟩:=he
   have HO1:=Lib.hid ho
   have HB1:=Lib.hid hb
   have HS:=Lib.hid hs
   have hi0:(0:Int) ≤ (i:Int):=by omega
   have hi1:(i:Int) < (R:Int):=by omega
   clear ho hb hs HO HB
   go_wp2_with fail
   with_reducible refine (Tryz.matRead _ C (T i) (M i) _ HS.out (fun j hj=>HF.out i j hlt hj) (by omega)).mono ?_
   rintro e w3 ⟨⟨gl,rfl,hl,hgl⟩,hb3⟩
   have HO3:=Lib.hid (HO1.out.below hb3)
   have HB3:=Lib.hid (HB1.out.trans (hb3.mono HB1.out.size))
   obtain ⟨⟨u,x0⟩,x1⟩:=HO3.out.cell hlt
   have HR:Hid (LinesO (w3.setCell ⟨g,i,none⟩ (.slice (some ⟨gl,0,none⟩) C C)) g R (i + 1) C M 120):=HO3.out.set hl.read hlt (by omega)
   have HB4:Hid (Below w0.heap.size w0 (w3.setCell ⟨g,i,none⟩ (.slice (some ⟨gl,0,none⟩) C C))):=HB3.out.setCell (p:=⟨g,i,none⟩) (show _ ≤ g by have:=HG.out; omega) _
   clear hl hgl hb3 HO1 HB1 HO3 HB3 d0 HS
   go_wp2
   go_roundw
   case rel=>exact ⟨i + 1,by go_num,by omega,HR.out,HB4.out⟩
   case measure=>simp [intOf]; omega
  ·have e3:decide ((i:Int) < (R:Int)) = false:=by simp; omega
   have e3':decide (i < R) = false:=by simpa using hlt
   obtain rfl:i = R:=by omega
   have HBB:Hid (Below w0.heap.size w0 (wr.alloc (.cells #[.slice (some ⟨g,0,none⟩) i i,.int .i64 C] 117))):=hb.alloc hb.size _
   have HR:Hid (MatR (wr.alloc (.cells #[.slice (some ⟨g,0,none⟩) i i,.int .i64 C] 117)) (.pointer (some ⟨wr.heap.size,0,none⟩)) i C M 120):=⟨_,_,rfl,CellsAt.new _ _ _ rfl,ho.read.below ((Below.refl _ _).alloc (Nat.le_refl _) _)⟩
   clear ho hb HO HB
   go_wp2
   go_ret2
   exact ⟨⟨_,rfl,HR.out⟩,HBB.out⟩
theorem Tryz.matAll (v:Value) (R C:Nat) (M:F) (k:Nat) (w:World) (h:MatR w v R C M k) :
 Calls Tryz.prog 77 #[v] w fun e w'=>(∃ s,e = .returned s ∧ LinesR w' s R C M k) ∧ w' = w:=by
 obtain ⟨a,p,cap,rfl,c1,c2,d0,d1,hl,ha⟩:=h.parts
 have HL:=Lib.hid hl
 clear h hl
 go_enter Tryz.func77,Tryz.ntmps77
 go_wp2
 go_ret
 exact ⟨⟨_,rfl,HL.out⟩,rfl⟩
theorem Tryz.matSize (v:Value) (R C:Nat) (M:F) (k:Nat) (w:World) (h:MatR w v R C M k) :
 Calls Tryz.prog 32 #[v] w fun e w'=>e = .returned (.tuple #[.int .i64 R,.int .i64 C]) ∧ Below w.heap.size w w':=by
 obtain ⟨a,p,cap,rfl,c1,c2,d0,d1,hl,ha⟩:=h.parts
 unfold maxLen at c2
 have HB:Hid (∀ n,Below w.heap.size w (w.drewN n)):=fun n=>belowN (Below.refl _ _) n
 clear h hl
 go_enter Tryz.func32,Tryz.ntmps32
 go_wp2_with fail
 go_quiet (fail)
 go_wp2
 go_ret2
 exact ⟨rfl,HB.out _⟩
end Go.Proofs.Mt
namespace Go.Proofs.Mt
open Go.RowKit Go.Proofs.Wd Go.Proofs.Fr Go.Proofs.Vt Go.Proofs.Mm
theorem Tryz.matCopied (v:Value) (q:Rat) (k:Nat) (w:World) (h:FracIs w v q k) (hk:1 ≤ k) :
 Calls Tryz.prog 80 #[v] w fun e w'=>(∃ a,e = .returned (.pointer a) ∧ FracIs w' (.pointer a) q k) ∧ Below w.heap.size w w':=by
 rcases h with ⟨rfl,rfl⟩ | ⟨a,rfl,hfa⟩
 ·go_enter Tryz.func80,Tryz.ntmps80
  go_wp2_with fail
  with_reducible refine (Tryz.Of 0 _ (by omega) (by omega)).mono ?_
  rintro e w3 ⟨⟨r,rfl,hv⟩,hb3⟩
  obtain ⟨a,rfl⟩:=frac_pointer hv
  have HF:Hid (FracIs w3 (.pointer a) 0 k):=hv.more hk
  have HB3:=Lib.hid hb3
  clear hv hb3
  go_wp2
  go_ret
  exact ⟨⟨_,rfl,HF.out⟩,HB3.out⟩
 ·obtain ⟨b,x,y,p,a0,a1,a2,a3,hcp⟩:=frac_copy hfa
  have HC:=Lib.hid hcp
  have HB3:Hid (Below w.heap.size w (w.alloc (.cells #[.bool b,.int .u64 x,.int .u64 y,.pointer p] 110))):=(Below.refl _ _).alloc (Nat.le_refl _) _
  clear hcp hfa
  go_enter Tryz.func80,Tryz.ntmps80
  go_wp2
  go_ret
  exact ⟨⟨_,rfl,.inr ⟨_,rfl,HC.out⟩⟩,HB3.out⟩
theorem Tryz.matAt (v:Value) (R C i j k:Nat) (M:F) (w:World) (h:MatR w v R C M k) (hi:i < R) (hj:j < C) (hk:1 ≤ k) :
 Calls Tryz.prog 33 #[v,.int .i64 i,.int .i64 j] w fun e w'=>(∃ a,e = .returned (.pointer a) ∧ FracIs w' (.pointer a) (M i j) k) ∧ Below w.heap.size w w':=by
 have H:=Lib.hid h
 have i0:(0:Int) ≤ (i:Int):=by omega
 have i1:(i:Int) < (R:Int):=by omega
 have j0:(0:Int) ≤ (j:Int):=by omega
 have j1:(j:Int) < (C:Int):=by omega
 have e1:decide ((i:Int) < 0) = false:=by simp
 have e2:decide ((R:Int) ≤ (i:Int)) = false:=by simp; omega
 have e2':decide (R ≤ i) = false:=by simp; omega
 have e3:decide ((j:Int) < 0) = false:=by simp
 have e4:decide ((C:Int) ≤ (j:Int)) = false:=by simp; omega
 have e4':decide (C ≤ j) = false:=by simp; omega
 clear h
 go_enter Tryz.func33,Tryz.ntmps33
 go_wp2_with fail
 with_reducible refine (Tryz.matSize v R C M k _ H.out).mono ?_
 rintro e w1 ⟨rfl,hb1⟩
 have HB:=Lib.hid hb1
 obtain ⟨a,p,cap,rfl,c1,c2,d0,d1,hl,ha⟩:=(H.out.below hb1).parts
 obtain ⟨g,o,cap',p',c',he,-,-,d2,hl2,-⟩:=hl.nth hi
 simp only [Value.slice.injEq,true_and] at he
 obtain ⟨rfl,rfl⟩:=he
 obtain ⟨g',o',c2',f,he,c3,c4,d3,hf,-⟩:=hl2.nth hj
 simp only [Value.slice.injEq,true_and] at he
 obtain ⟨rfl,rfl⟩:=he
 unfold maxLen at c2 c4
 have HF:=Lib.hid hf
 clear hb1 hl hl2 hf H
 go_wp2_with fail
 with_reducible refine (Tryz.matCopied _ (M i j) k _ HF.out hk).mono ?_
 rintro e w2 ⟨⟨r,rfl,hr⟩,hb2⟩
 have HR:=Lib.hid hr
 have HB2:=Lib.hid (HB.out.trans (hb2.mono HB.out.size))
 clear hr hb2 HB HF
 go_wp2
 go_ret
 exact ⟨⟨_,rfl,HR.out⟩,HB2.out⟩
theorem Tryz.matNoughts (n:Nat) (w:World) (hn:n ≤ 1000) :
 Calls Tryz.prog 78 #[.int .i64 n] w fun e w'=>(∃ g,e = .returned (.slice (some ⟨g,0,none⟩) n n) ∧ LineO w' g n n (fun _=>0) 1 ∧ w.heap.size ≤ g) ∧ Below w.heap.size w w':=by
 go_enter Tryz.func78,Tryz.ntmps78
 go_upto_region 1 with (fail)
 go_cut [3,4] (fun lv nv wx=>∃ g a,lv = .slice (some ⟨g,0,none⟩) n n ∧ nv = .pointer a ∧ LineO wx g n n (fun _=>0) 1 ∧ FracIs wx (.pointer a) 0 1 ∧ w.heap.size ≤ g ∧ Below w.heap.size w wx)
 case first=>
  have HB:Hid (Below w.heap.size w w):=Below.refl _ _
  refine wp_region_held_drew (S:=fun w'=>True) (by kernel_rfl) trivial (fun hHeld=>?_)
  replace HB:=Lib.hid (HB.out.drew)
  clear hHeld
  generalize w.drew = wd at *
  have hHeld:(fun w':World=>True) wd:=trivial
  refine takeY 0 (h:=?_)
  (try simp only [Act.put,List.setIfInBounds_toArray,List.set_cons_zero,List.set_cons_succ])
  refine wpAnyH_ready (rs:=[1,2]) (by kernel_rfl) (by simp) ?_
  refine AllReadyH.cons (by (simp only [List.getElem?_toArray,List.getElem?_cons_succ,List.getElem?_cons_zero]) <;> rfl) (fun KX hK=>?_) (AllReadyH.cons (by (simp only [List.getElem?_toArray,List.getElem?_cons_succ,List.getElem?_cons_zero]) <;> rfl) (fun KX hK=>?_) AllReadyH.nil)
  ·skip
   obtain ⟨w1,hmk,ho,hb⟩:=Tryz.makeLine wd 113 Tryz.underlying113 n n 1 rfl (by omega)
   have hge:w.heap.size ≤ wd.heap.size:=HB.out.size
   obtain ⟨g,hg⟩:∃ g,wd.heap.size = g:=⟨_,rfl⟩
   rw [hg] at hmk ho hge
   clear hg hHeld
   go_simp
   clear hmk
   have HO:=Lib.hid ho
   clear ho
   replace HB:=Lib.hid (HB.out.trans (hb.mono HB.out.size))
   clear hb
   refine hK.out _ _ trivial (fun hHeld=>?_)
   clear hK KX
   (try simp only [Act.put,List.setIfInBounds_toArray,List.set_cons_zero,List.set_cons_succ])
   refine wpAnyH_ready (rs:=[2]) (by kernel_rfl) (by simp) ?_
   refine AllReadyH.cons (by (simp only [List.getElem?_toArray,List.getElem?_cons_succ,List.getElem?_cons_zero]) <;> rfl) (fun KX hK=>?_) AllReadyH.nil
   go_simp
   with_reducible refine (Tryz.Of 0 _ (by omega) (by omega)).mono ?_
   rintro e w21 ⟨⟨v,rfl,hv⟩,hb⟩
   obtain ⟨v,rfl⟩:=frac_pointer hv
   clear hHeld
   replace HB:=Lib.hid (HB.out.trans (hb.mono HB.out.size))
   replace HO:=Lib.hid (HO.out.below hb)
   clear hb
   have HV:=Lib.hid hv
   clear hv
   refine hK.out _ _ trivial (fun hHeld=>?_)
   clear hK KX
   (try simp only [Act.put,List.setIfInBounds_toArray,List.set_cons_zero,List.set_cons_succ])
   refine takeY 3 (h:=?_)
   refine takeY 4 (h:=?_)
   (try simp only [Act.put,List.setIfInBounds_toArray,List.set_cons_zero,List.set_cons_succ])
   refine wpAnyH_done (by kernel_rfl) ?_ _
   go_wp2_with fail
   go_meet
   exact ⟨_,_,rfl,rfl,HO.out,HV.out,hge,HB.out⟩
  ·skip
   go_simp
   with_reducible refine (Tryz.Of 0 _ (by omega) (by omega)).mono ?_
   rintro e wd21 ⟨⟨v,rfl,hv⟩,hb⟩
   obtain ⟨v,rfl⟩:=frac_pointer hv
   clear hHeld
   replace HB:=Lib.hid (HB.out.trans (hb.mono HB.out.size))
   clear hb
   have HV:=Lib.hid hv
   clear hv
   refine hK.out _ _ trivial (fun hHeld=>?_)
   clear hK KX
   (try simp only [Act.put,List.setIfInBounds_toArray,List.set_cons_zero,List.set_cons_succ])
   refine wpAnyH_ready (rs:=[1]) (by kernel_rfl) (by simp) ?_
   refine AllReadyH.cons (by (simp only [List.getElem?_toArray,List.getElem?_cons_succ,List.getElem?_cons_zero]) <;> rfl) (fun KX hK=>?_) AllReadyH.nil
   obtain ⟨w1,hmk,ho,hb⟩:=Tryz.makeLine wd21 113 Tryz.underlying113 n n 1 rfl (by omega)
   have hge:w.heap.size ≤ wd21.heap.size:=HB.out.size
   obtain ⟨g,hg⟩:∃ g,wd21.heap.size = g:=⟨_,rfl⟩
   rw [hg] at hmk ho hge
   clear hg hHeld
   go_simp
   clear hmk
   have HO:=Lib.hid ho
   clear ho
   replace HB:=Lib.hid (HB.out.trans (hb.mono HB.out.size))
   replace HV:=Lib.hid (HV.out.below hb)
   clear hb
   refine hK.out _ _ trivial (fun hHeld=>?_)
   clear hK KX
   (try simp only [Act.put,List.setIfInBounds_toArray,List.set_cons_zero,List.set_cons_succ])
   refine takeY 3 (h:=?_)
   refine takeY 4 (h:=?_)
   (try simp only [Act.put,List.setIfInBounds_toArray,List.set_cons_zero,List.set_cons_succ])
   refine wpAnyH_done (by kernel_rfl) ?_ _
   go_wp2_with fail
   go_meet
   exact ⟨_,_,rfl,rfl,HO.out,HV.out,hge,HB.out⟩
 case rest=>
  obtain ⟨g,a,rfl,rfl,ho,hv,hge,hb⟩:=hcut
  have HO:=Lib.hid ho
  have HV:=Lib.hid hv
  have HB:=Lib.hid hb
  clear ho hv hb
  go_wp2_with fail
  go_loopw [11] (fun iv wr=>∃ i:Nat,iv = .int .i64 i ∧ i ≤ n ∧ LineO wr g n n (fun _=>0) 1 ∧ FracIs wr (.pointer a) 0 1 ∧ Below w.heap.size w wr) (fun iv _=>n - (intOf iv).toNat)
  case atStart=>exact ⟨0,rfl,Nat.zero_le _,HO.out,HV.out,HB.out⟩
  case round=>
   obtain ⟨i,rfl,hi,ho,hv,hb⟩:=hrel
   clear HO HV HB
   by_cases hlt:i < n
   ·obtain ⟨b0,x0,x1,-⟩:=ho.cell hlt
    have HR:Hid (LineO (wr.setCell ⟨g,i,none⟩ (.pointer a)) g n n (fun _=>0) 1):=(ho.set hv hlt).congr (fun j _=>by split <;> rfl) (Nat.le_refl _)
    have HV:Hid (FracIs (wr.setCell ⟨g,i,none⟩ (.pointer a)) (.pointer a) 0 1):=frac_far hv (grown_setCell _ _ _ _) (ho.odd (by omega))
    have HB:Hid (Below w.heap.size w (wr.setCell ⟨g,i,none⟩ (.pointer a))):=hb.setCell (p:=⟨g,i,none⟩) (show _ ≤ g by omega) _
    have i0:(0:Int) ≤ (i:Int):=by omega
    have i1:(i:Int) < (n:Int):=by omega
    clear ho hv hb
    go_wp2
    go_roundw
    case rel=>exact ⟨i + 1,by go_num,by omega,HR.out,HV.out,HB.out⟩
    case measure=>simp [intOf]; omega
   ·have e3:decide ((i:Int) < (n:Int)) = false:=by simp; omega
    have e3':decide (i < n) = false:=by simpa using hlt
    have HO:=Lib.hid ho
    have HB:=Lib.hid hb
    clear ho hv hb
    go_wp2
    go_ret
    exact ⟨⟨g,rfl,HO.out,hge⟩,HB.out⟩
/-- What add's loop keeps to: the first i are added. -/
def addF (f fw:Nat → Rat) (q:Rat) (i:Nat):Nat → Rat:=fun j=>if j < i then f j + q * fw j else f j
theorem Tryz.matAdd (g n cap:Nat) (u v:Value) (f fw:Nat → Rat) (q:Rat) (k i j:Nat) (w:World) (ho:LineO w g n cap f k) (hu:FracIs w u q i) (hv:LineR w v n fw j) (hne:∀ b o m c,v = .slice (some ⟨b,o,none⟩) m c → 0 < m → b ≠ g) (hn:0 < n) (hn9:n ≤ 1000) (hk:1 ≤ k) (hi:1 ≤ i) (hj:1 ≤ j) (hs:k + i + j + 1 ≤ 30000000000) :
 Calls Tryz.prog 79 #[.slice (some ⟨g,0,none⟩) n cap,u,v] w fun e w'=>e = .returned (.tuple #[]) ∧ LineO w' g n cap (fun x=>f x + q * fw x) (k + i + j + 1) ∧ w.grownBy w' (some g):=by
 have HODD:=Lib.hid (ho.odd hn)
 have HO:=Lib.hid ho
 have HU:=Lib.hid hu
 have HV:=Lib.hid hv
 have HNE:=Lib.hid hne
 have hc:=ho.le
 have hc9:=ho.max
 obtain ⟨p,cap2,rfl,c1,c2⟩:=hv.slice
 obtain ⟨ua,rfl⟩:=frac_pointer hu
 unfold maxLen at c2 hc9
 obtain ⟨s,hs0⟩:∃ s:Int,q.num.sign = s:=⟨_,rfl⟩
 have e0:(s == 0) = decide (q = 0):=by rw [← hs0,Bool.eq_iff_iff]; simp
 have HSG:Hid (∀ W,FracIs W (.pointer ua) q i → Calls Tryz.prog 64 #[.pointer ua] W fun e w'=>e = .returned (.int .i64 s) ∧ Below W.heap.size W w'):=fun W h=>by
  have:=Tryz.Sign (.pointer ua) q i W h
  rw [hs0] at this
  exact this
 have HSZ:Hid (∀ x,x < n → Sz (f x) k):=fun x hx=>by
  obtain ⟨a,-,-,h⟩:=ho.cell hx
  exact h.sz hk
 clear ho hu hv hne hs0
 go_enter Tryz.func79,Tryz.ntmps79
 go_wp2_with fail
 with_reducible refine (HSG.out _ HU.out).mono ?_
 rintro e w1 ⟨rfl,hb1⟩
 have HG1:=Lib.hid (grown_of_below hb1 (some g))
 have HO1:=Lib.hid (HO.out.below hb1)
 clear hb1 HSG HO
 by_cases hq:q = 0
 ·have e1:decide (q = 0) = true:=by simpa using hq
  have HR:Hid (LineO w1 g n cap (fun x=>f x + q * fw x) (k + i + j + 1)):=HO1.out.congr (fun x _=>by rw [hq,Rat.zero_mul,Rat.add_zero]) (by omega)
  clear hq HO1 HNE
  go_wp2
  exact bodyPost_ret (v:=.tuple #[]) (by simp [results,Tryz.results79,go_sem]; try rfl) rfl ⟨rfl,HR.out,HG1.out⟩
 ·have e1:decide (q = 0) = false:=by simpa using hq
  clear hq
  go_wp2_with fail
  go_loopw [13] (fun iv wr=>∃ x:Nat,iv = .int .i64 x ∧ x ≤ n ∧ LineO wr g n cap (addF f fw q x) (k + i + j + 1) ∧ w.grownBy wr (some g)) (fun iv _=>n - (intOf iv).toNat)
  case atStart=>exact ⟨0,rfl,Nat.zero_le _,HO1.out.congr (fun x _=>by rw [addF,if_neg (by omega)]) (by omega),HG1.out⟩
  case round=>
   obtain ⟨x,rfl,hx,ho,hg⟩:=hrel
   clear HO1 HG1
   by_cases hlt:x < n
   ·obtain ⟨g',o,cap',b,he,-,-,d0,hb,hg'⟩:=HV.out.nth hlt
    simp only [Value.slice.injEq,true_and] at he
    obtain ⟨rfl,rfl⟩:=he
    have hgg:=HNE.out g' o n cap2 rfl hn
    have d0:=hg.cell d0 (by simpa using hgg)
    have HFB:=Lib.hid (frac_far hb hg HODD.out)
    have HFU:=Lib.hid (frac_far HU.out hg HODD.out)
    have HO:=Lib.hid ho
    have HG:=Lib.hid hg
    have x0:(0:Int) ≤ (x:Int):=by omega
    have x1:(x:Int) < (n:Int):=by omega
    have HK:Hid (addF f fw q x x = f x):=by show addF f fw q x x = f x; rw [addF,if_neg (by omega)]
    obtain ⟨z,hz⟩:∃ z,fw x = z:=⟨_,rfl⟩
    have HZ:=Lib.hid hz
    rw [hz] at HFB
    obtain ⟨t,ht⟩:∃ t:Int,z.num.sign = t:=⟨_,rfl⟩
    have e2:(t == 0) = decide (z = 0):=by rw [← ht,Bool.eq_iff_iff]; simp
    have e2':(t != 0) = !decide (z = 0):=by rw [bne,e2]
    have HSG:Hid (∀ W,FracIs W (.pointer b) z j → Calls Tryz.prog 64 #[.pointer b] W fun e w'=>e = .returned (.int .i64 t) ∧ Below W.heap.size W w'):=fun W h=>by
     have:=Tryz.Sign (.pointer b) z j W h
     rw [ht] at this
     exact this
    clear ho hg hb hz ht
    go_wp2_with fail
    with_reducible refine (HSG.out _ HFB.out).mono ?_
    rintro e w2 ⟨rfl,hb⟩
    have HG2:=Lib.hid (grown_trans HG.out (grown_of_below hb (some g)))
    have HO2:=Lib.hid (HO.out.below hb)
    have HFB2:=Lib.hid (HFB.out.below hb)
    have HFU2:=Lib.hid (HFU.out.below hb)
    clear hb HSG HG HO HFB HFU d0
    by_cases hz0:z = 0
    ·have e3:decide (z = 0) = true:=by simpa using hz0
     have HR:Hid (LineO w2 g n cap (addF f fw q (x + 1)) (k + i + j + 1)):=HO2.out.congr (fun y hy=>by
      by_cases e:y = x
      ·subst e
       rw [HK.out,addF,if_pos (by omega),HZ.out,hz0,Rat.mul_zero,Rat.add_zero]
      ·unfold addF
       by_cases e5:y < x
       ·rw [if_pos e5,if_pos (by omega)]
       ·rw [if_neg e5,if_neg (by omega)]) (Nat.le_refl _)
     clear hz0 HO2 HZ HK
     go_wp2
     go_roundw
     case rel=>exact ⟨x + 1,by go_num,by omega,HR.out,HG2.out⟩
     case measure=>simp [intOf]; omega
    ·have e3:decide (z = 0) = false:=by simpa using hz0
     clear hz0
     go_wp2_with fail
     have HB:Hid (Below w2.heap.size w2 w2):=Below.refl _ _
     refine wp_region_held_drew (S:=fun w'=>True) (by kernel_rfl) trivial (fun hHeld=>?_)
     replace HB:=Lib.hid (HB.out.drew)
     replace HO2:=Lib.hid (HO2.out.below (Below.refl _ _).drew)
     replace HFB2:=Lib.hid (HFB2.out.below (Below.refl _ _).drew)
     replace HFU2:=Lib.hid (HFU2.out.below (Below.refl _ _).drew)
     clear hHeld
     generalize w2.drew = w2d at *
     have hHeld:(fun w':World=>True) w2d:=trivial
     refine takeY 0 (h:=?_)
     refine takeY 1 (h:=?_)
     refine takeY 2 (h:=?_)
     (try simp only [Act.put,List.setIfInBounds_toArray,List.set_cons_zero,List.set_cons_succ])
     refine takeY 3 (h:=?_)
     refine takeY 4 (h:=?_)
     refine takeY 6 (h:=?_)
     (try simp only [Act.put,List.setIfInBounds_toArray,List.set_cons_zero,List.set_cons_succ])
     refine takeY 7 (h:=?_)
     (try simp only [Act.put,List.setIfInBounds_toArray,List.set_cons_zero,List.set_cons_succ])
     refine wpAnyH_ready (rs:=[5,8]) (by kernel_rfl) (by simp) ?_
     refine AllReadyH.cons (by (simp only [List.getElem?_toArray,List.getElem?_cons_succ,List.getElem?_cons_zero]) <;> rfl) (fun KX hK=>?_) (AllReadyH.cons (by (simp only [List.getElem?_toArray,List.getElem?_cons_succ,List.getElem?_cons_zero]) <;> rfl) (fun KX hK=>?_) AllReadyH.nil)
     ·skip
      obtain ⟨lc,y0,-,hlf⟩:=HO2.out.cell hlt
      rw [HK.out] at hlf
      have hlf:=hlf.fit (HSZ.out x hlt)
      go_simp
      clear y0 hHeld
      have HLF:=Lib.hid hlf
      clear hlf
      refine hK.out _ _ trivial (fun hHeld=>?_)
      clear hK KX
      (try simp only [Act.put,List.setIfInBounds_toArray,List.set_cons_zero,List.set_cons_succ])
      refine wpAnyH_ready (rs:=[8]) (by kernel_rfl) (by simp) ?_
      refine AllReadyH.cons (by (simp only [List.getElem?_toArray,List.getElem?_cons_succ,List.getElem?_cons_zero]) <;> rfl) (fun KX hK=>?_) AllReadyH.nil
      go_simp
      with_reducible refine (Tryz.mulA (.pointer ua) (.pointer b) q z i j _ HFU2.out HFB2.out hi hj (by omega) (by omega)).mono ?_
      rintro e w2d21 ⟨⟨m,rfl,hm⟩,hb⟩
      obtain ⟨m,rfl⟩:=frac_pointer hm
      clear hHeld
      replace HB:=Lib.hid (HB.out.trans (hb.mono HB.out.size))
      replace HO2:=Lib.hid (HO2.out.below hb)
      replace HFB2:=Lib.hid (HFB2.out.below hb)
      replace HFU2:=Lib.hid (HFU2.out.below hb)
      replace HLF:=Lib.hid (HLF.out.below hb)
      clear hb
      have HM:=Lib.hid hm
      clear hm
      refine hK.out _ _ trivial (fun hHeld=>?_)
      clear hK KX
      (try simp only [Act.put,List.setIfInBounds_toArray,List.set_cons_zero,List.set_cons_succ])
      refine wpAnyH_ready (rs:=[9]) (by kernel_rfl) (by simp) ?_
      refine AllReadyH.cons (by (simp only [List.getElem?_toArray,List.getElem?_cons_succ,List.getElem?_cons_zero]) <;> rfl) (fun KX hK=>?_) AllReadyH.nil
      go_simp
      with_reducible refine (Tryz.addA (.pointer lc) (.pointer m) (f x) (q * z) k (i + j) _ HLF.out HM.out (by omega) (by omega) (by omega) (by omega)).mono ?_
      rintro e w2d22 ⟨⟨a,rfl,ha⟩,hb⟩
      obtain ⟨a,rfl⟩:=frac_pointer ha
      clear hHeld
      replace HB:=Lib.hid (HB.out.trans (hb.mono HB.out.size))
      replace HO2:=Lib.hid (HO2.out.below hb)
      replace HFB2:=Lib.hid (HFB2.out.below hb)
      replace HFU2:=Lib.hid (HFU2.out.below hb)
      replace HLF:=Lib.hid (HLF.out.below hb)
      replace HM:=Lib.hid (HM.out.below hb)
      clear hb
      have HA:=Lib.hid ha
      clear ha
      refine hK.out _ _ trivial (fun hHeld=>?_)
      clear hK KX
      (try simp only [Act.put,List.setIfInBounds_toArray,List.set_cons_zero,List.set_cons_succ])
      refine takeY 10 (h:=?_)
      (try simp only [Act.put,List.setIfInBounds_toArray,List.set_cons_zero,List.set_cons_succ])
      refine wpAnyH_ready (rs:=[11]) (by kernel_rfl) (by simp) ?_
      refine AllReadyH.cons (by (simp only [List.getElem?_toArray,List.getElem?_cons_succ,List.getElem?_cons_zero]) <;> rfl) (fun KX hK=>?_) AllReadyH.nil
      obtain ⟨ob,y0,y1,-⟩:=HO2.out.cell hlt
      have HR:Hid (LineO (w2d22.setCell ⟨g,x,none⟩ (.pointer a)) g n cap (addF f fw q (x + 1)) (k + i + j + 1)):=(HO2.out.set (HA.out.more (by omega)) hlt).congr (fun y hy=>by
       by_cases e:y = x
       ·subst e
        rw [if_pos rfl,addF,if_pos (by omega),HZ.out]
       ·rw [if_neg e]
        unfold addF
        by_cases e5:y < x
        ·rw [if_pos e5,if_pos (by omega)]
        ·rw [if_neg e5,if_neg (by omega)]) (Nat.le_refl _)
      have HG3:Hid (w.grownBy (w2d22.setCell ⟨g,x,none⟩ (.pointer a)) (some g)):=grown_trans (grown_trans HG2.out (grown_of_below HB.out (some g))) (grown_setCell _ _ _ _)
      go_simp
      clear y0 y1 hHeld HO2 HA HB HLF HM HFB2 HFU2
      refine hK.out _ _ trivial (fun hHeld=>?_)
      clear hK KX
      (try simp only [Act.put,List.setIfInBounds_toArray,List.set_cons_zero,List.set_cons_succ])
      refine wpAnyH_done (by kernel_rfl) ?_ _
      clear hHeld HG2
      go_wp2
      go_roundw
      case rel=>exact ⟨x + 1,by go_num,by omega,HR.out,HG3.out⟩
      case measure=>simp [intOf]; omega
     ·skip
      go_simp
      with_reducible refine (Tryz.mulA (.pointer ua) (.pointer b) q z i j _ HFU2.out HFB2.out hi hj (by omega) (by omega)).mono ?_
      rintro e w2d21 ⟨⟨m,rfl,hm⟩,hb⟩
      obtain ⟨m,rfl⟩:=frac_pointer hm
      clear hHeld
      replace HB:=Lib.hid (HB.out.trans (hb.mono HB.out.size))
      replace HO2:=Lib.hid (HO2.out.below hb)
      replace HFB2:=Lib.hid (HFB2.out.below hb)
      replace HFU2:=Lib.hid (HFU2.out.below hb)
      clear hb
      have HM:=Lib.hid hm
      clear hm
      refine hK.out _ _ trivial (fun hHeld=>?_)
      clear hK KX
      (try simp only [Act.put,List.setIfInBounds_toArray,List.set_cons_zero,List.set_cons_succ])
      refine wpAnyH_ready (rs:=[5]) (by kernel_rfl) (by simp) ?_
      refine AllReadyH.cons (by (simp only [List.getElem?_toArray,List.getElem?_cons_succ,List.getElem?_cons_zero]) <;> rfl) (fun KX hK=>?_) AllReadyH.nil
      obtain ⟨lc,y0,-,hlf⟩:=HO2.out.cell hlt
      rw [HK.out] at hlf
      have hlf:=hlf.fit (HSZ.out x hlt)
      go_simp
      clear y0 hHeld
      have HLF:=Lib.hid hlf
      clear hlf
      refine hK.out _ _ trivial (fun hHeld=>?_)
      clear hK KX
      (try simp only [Act.put,List.setIfInBounds_toArray,List.set_cons_zero,List.set_cons_succ])
      refine wpAnyH_ready (rs:=[9]) (by kernel_rfl) (by simp) ?_
      refine AllReadyH.cons (by (simp only [List.getElem?_toArray,List.getElem?_cons_succ,List.getElem?_cons_zero]) <;> rfl) (fun KX hK=>?_) AllReadyH.nil
      go_simp
      with_reducible refine (Tryz.addA (.pointer lc) (.pointer m) (f x) (q * z) k (i + j) _ HLF.out HM.out (by omega) (by omega) (by omega) (by omega)).mono ?_
      rintro e w2d22 ⟨⟨a,rfl,ha⟩,hb⟩
      obtain ⟨a,rfl⟩:=frac_pointer ha
      clear hHeld
      replace HB:=Lib.hid (HB.out.trans (hb.mono HB.out.size))
      replace HO2:=Lib.hid (HO2.out.below hb)
      replace HFB2:=Lib.hid (HFB2.out.below hb)
      replace HFU2:=Lib.hid (HFU2.out.below hb)
      replace HM:=Lib.hid (HM.out.below hb)
      replace HLF:=Lib.hid (HLF.out.below hb)
      clear hb
      have HA:=Lib.hid ha
      clear ha
      refine hK.out _ _ trivial (fun hHeld=>?_)
      clear hK KX
      (try simp only [Act.put,List.setIfInBounds_toArray,List.set_cons_zero,List.set_cons_succ])
      refine takeY 10 (h:=?_)
      (try simp only [Act.put,List.setIfInBounds_toArray,List.set_cons_zero,List.set_cons_succ])
      refine wpAnyH_ready (rs:=[11]) (by kernel_rfl) (by simp) ?_
      refine AllReadyH.cons (by (simp only [List.getElem?_toArray,List.getElem?_cons_succ,List.getElem?_cons_zero]) <;> rfl) (fun KX hK=>?_) AllReadyH.nil
      obtain ⟨ob,y0,y1,-⟩:=HO2.out.cell hlt
      have HR:Hid (LineO (w2d22.setCell ⟨g,x,none⟩ (.pointer a)) g n cap (addF f fw q (x + 1)) (k + i + j + 1)):=(HO2.out.set (HA.out.more (by omega)) hlt).congr (fun y hy=>by
       by_cases e:y = x
       ·subst e
        rw [if_pos rfl,addF,if_pos (by omega),HZ.out]
       ·rw [if_neg e]
        unfold addF
        by_cases e5:y < x
        ·rw [if_pos e5,if_pos (by omega)]
        ·rw [if_neg e5,if_neg (by omega)]) (Nat.le_refl _)
      have HG3:Hid (w.grownBy (w2d22.setCell ⟨g,x,none⟩ (.pointer a)) (some g)):=grown_trans (grown_trans HG2.out (grown_of_below HB.out (some g))) (grown_setCell _ _ _ _)
      go_simp
      clear y0 y1 hHeld HO2 HA HB HLF HM HFB2 HFU2
      refine hK.out _ _ trivial (fun hHeld=>?_)
      clear hK KX
      (try simp only [Act.put,List.setIfInBounds_toArray,List.set_cons_zero,List.set_cons_succ])
      refine wpAnyH_done (by kernel_rfl) ?_ _
      clear hHeld HG2
      go_wp2
      go_roundw
      case rel=>exact ⟨x + 1,by go_num,by omega,HR.out,HG3.out⟩
      case measure=>simp [intOf]; omega
   ·have e3:decide ((x:Int) < (n:Int)) = false:=by simp; omega
    have e3':decide (x < n) = false:=by simpa using hlt
    have HR:Hid (LineO wr g n cap (fun y=>f y + q * fw y) (k + i + j + 1)):=ho.congr (fun y hy=>by rw [addF,if_pos (by omega)]) (Nat.le_refl _)
    have HG:=Lib.hid hg
    clear ho hg
    go_wp2
    go_end0
    exact ⟨rfl,HR.out,HG.out⟩
end Go.Proofs.Mt
namespace Go.Proofs.Mt
open Go.RowKit Go.Proofs.Wd Go.Proofs.Fr Go.Proofs.Vt Go.Proofs.Mm
/-- A matrix of the call's own that has i lines by now. -/
def Grows (w0 w:World) (pg i C:Nat) (P:F) (k:Nat):Prop:=
 ∃ sv us,CellsAt w pg #[sv,.int .i64 C] 117 ∧ w.ownsRow w0.heap.size 113 1 sv i us ∧ (i = 0 → sv = .slice none 0 0) ∧ (∀ j,j < i → ∃ u,us[j]? = some u ∧ LineR w u C (P j) k) ∧ w0.heap.size ≤ pg
theorem Grows.below {w0 w w':World} {pg i C k:Nat} {P:F} (h:Grows w0 w pg i C P k) (hb:Below w.heap.size w w'):Grows w0 w' pg i C P k:=by
 obtain ⟨sv,us,h1,h2,h3,h4,h5⟩:=h
 refine ⟨sv,us,h1.below hb,ownsRow_below h2 hb,h3,fun j hj=>?_,h5⟩
 obtain ⟨u,u1,u2⟩:=h4 j hj
 exact ⟨u,u1,u2.below hb⟩
theorem Grows.new (w0 w:World) (C k:Nat) (P:F) (h:w0.heap.size ≤ w.heap.size):Grows w0 (w.alloc (.cells #[.slice none 0 0,.int .i64 C] 117)) w.heap.size 0 C P k:=
 ⟨_,[],CellsAt.new _ _ _ rfl,World.ownsRow_nil _ _ _ _,fun _=>rfl,fun j hj=>by omega,h⟩
theorem Grows.done {w0 w:World} {pg i C k:Nat} {P:F} (h:Grows w0 w pg i C P k) (hi:0 < i):MatR w (.pointer (some ⟨pg,0,none⟩)) i C P k:=by
 obtain ⟨sv,us,h1,h2,h3,h4,h5⟩:=h
 refine ⟨pg,sv,rfl,h1,?_⟩
 obtain ⟨h20,h2 | ⟨b,cap,cur,rfl,hbb,hh,hn,hm,hs,ht⟩⟩:=h2
 ·omega
 ·refine ⟨_,cap,rfl,hn,hm,.inr ⟨b,0,cur,rfl,hh,fun j hj=>?_⟩⟩
  obtain ⟨u,u1,u2⟩:=h4 j hj
  rw [← ht,List.getElem?_take_of_lt (by omega),Array.getElem?_toList] at u1
  exact ⟨u,by rw [Nat.zero_add]; exact u1,u2⟩
/-- A line is laid behind the others. -/
theorem Tryz.push {w0 W:World} {pg i C k g:Nat} {P:F} (ty:TypeId) (h:Grows w0 W pg i C P k) (hu:LineR W (.slice (some ⟨g,0,none⟩) C C) C (P i) k) (hi:i ≤ 1000) (hC:0 < C) (hb:Below w0.heap.size w0 W) :
 ∃ sv vp vn vc w', W.cell? ⟨pg, 0, none⟩ = some sv ∧ pg < W.heap.size ∧ (Builtin.append_ #[112, 112] ty #[sv, .slice (some ⟨W.heap.size, 0, none⟩) 1 1]).run Tryz.prog (W.alloc (.cells #[.slice (some ⟨g, 0, none⟩) C C] 113)) = .ok (.slice vp vn vc) w' ∧
   (∃ x,w'.cell? ⟨pg,0,none⟩ = some x) ∧ w'.frozen? ⟨pg,0,none⟩ = false ∧ Grows w0 (w'.setCell ⟨pg,0,none⟩ (.slice vp vn vc)) pg (i + 1) C P k ∧ Below w0.heap.size w0 (w'.setCell ⟨pg,0,none⟩ (.slice vp vn vc)):=by
 obtain ⟨i0,hi0,hz0,hz1,hz2⟩:=info_parts Tryz.infoLine
 obtain ⟨sv,us,h1,h2,h3,h4,h5⟩:=h
 have hal:Below W.heap.size W (W.alloc (.cells #[.slice (some ⟨g,0,none⟩) C C] 113)):=(Below.refl _ _).alloc (Nat.le_refl _) _
 have hnew:=(CellsAt.new W #[.slice (some ⟨g,0,none⟩) C C] 113 rfl).cell 0
 have l1:=h1.below hal
 have l2:=ownsRow_below h2 hal
 have hul:us.length = i:=by have:=h2.1; omega
 have l4:∀ j,j < i + 1 → ∃ u,(us ++ [Value.slice (some ⟨g,0,none⟩) C C])[j]? = some u ∧ LineR (W.alloc (.cells #[.slice (some ⟨g,0,none⟩) C C] 113)) u C (P j) k:=by
  intro j hj
  by_cases e:j < i
  ·obtain ⟨u,u1,u2⟩:=h4 j e
   exact ⟨u,by rw [List.getElem?_append_left (by omega)]; exact u1,u2.below hal⟩
  ·obtain rfl:j = i:=by omega
   exact ⟨_,by rw [List.getElem?_append_right (by omega),hul,Nat.sub_self]; rfl,hu.below hal⟩
 have hbl:=hb.trans (hal.mono hb.size)
 obtain ⟨W1,hW1⟩:∃ W1,W.alloc (.cells #[.slice (some ⟨g,0,none⟩) C C] 113) = W1:=⟨_,rfl⟩
 rw [hW1] at hal hnew l1 l2 l4 hbl ⊢
 obtain ⟨v',w',hr,g1,g2,g3⟩:=run_append_own (P:=Tryz.prog) W1 w0.heap.size 112 ty 113 i0 _ 1 24 Tryz.underlying112 hi0 hz0 hz1 hz2 rfl (by decide) sv i us l2 ⟨W.heap.size,0,none⟩ 1 1 [.slice (some ⟨g,0,none⟩) C C] rfl (by
  intro j u hj
  match j,hj with
  | 0, hj =>
    rw [show (⟨W.heap.size,0,none⟩:Addr).add 0 = ⟨W.heap.size,0,none⟩ from rfl,hnew]
    simpa using hj) (by
  intro u hu
  rw [List.mem_singleton.1 hu]; rfl) (by unfold maxLen; omega) (by omega) hbl.size
 obtain ⟨vp,vn,vc,rfl⟩:∃ p n c,v' = .slice p n c:=by
  obtain ⟨-,⟨rfl,-⟩ | ⟨b2,cap2,cur2,rfl,-⟩⟩:=g1
  ·exact ⟨_,_,_,rfl⟩
  ·exact ⟨_,_,_,rfl⟩
 obtain ⟨v',hv'⟩:∃ v',Value.slice vp vn vc = v':=⟨_,rfl⟩
 rw [hv'] at hr g1
 -- what is written: the elder row, and the matrix's own block
 have hrow:∀ b,sv.ownBlock = some b → Odd W1 b ∧ b ≠ pg ∧ w0.heap.size ≤ b ∧ ∃ cur,CellsAt W1 b cur 113:=by
  intro b hob
  have hlo:=(World.ownsRow.lt l2 b hob).1
  have hi1:0 < i:=by
   refine Nat.pos_of_ne_zero fun e=>?_
   rw [h3 e] at hob
   simp [Value.ownBlock] at hob
  obtain ⟨u0,u01,u02⟩:=l4 0 (by omega)
  rw [List.getElem?_append_left (by omega)] at u01
  obtain ⟨h20,h2 | ⟨b',cap,cur,rfl,hbb,hh,hn,hm,hs,ht⟩⟩:=l2
  ·rw [h2.1] at hob
   simp [Value.ownBlock] at hob
  ·obtain rfl:b' = b:=by simpa [Value.ownBlock] using hob
   have hh:CellsAt W1 b' cur 113:=hh
   refine ⟨⟨cur,_,hh,by decide,fun u hu=>?_⟩,fun e=>?_,hlo,cur,hh⟩
   ·have:us[0]? = cur[0]?:=by rw [← ht,List.getElem?_take_of_lt (by omega),Array.getElem?_toList]
    rw [← this,u01] at hu
    rw [← Option.some.inj hu]
    exact u02.oddv hC
   ·rw [← e] at l1
    have h9:some (Obj.cells #[Value.slice (some ⟨b',0,none⟩) i cap,.int .i64 C] 117 (0,0)) = some (Obj.cells cur 113 (0,0)):=l1.symm.trans hh
    simp at h9
 have hpg:Odd W1 pg:=by
  refine ⟨_,_,l1,by decide,fun u hu=>?_⟩
  obtain rfl:sv = u:=by simpa using hu
  obtain ⟨-,h2 | ⟨b',cap,cur,rfl,hbb,hh,r⟩⟩:=l2
  ·rw [h2.1]; exact .inr (.inl ⟨0,0,rfl⟩)
  ·exact .inr (.inr (.inl ⟨b',0,_,_,cur,_,rfl,hh,by decide⟩))
 have hK:Keeps W1 (w'.setCell ⟨pg,0,none⟩ v') (fun x=>x = pg ∨ sv.ownBlock = some x):=⟨by have:=g2.size; simpa [World.setCell] using this,fun x hx hne=>by
  rw [Below.heap_setCell _ _ _ _ (fun e=>hne (.inl e))]
  exact g2.block x hx (fun e=>hne (.inr e.symm))⟩
 have hS:∀ x,(x = pg ∨ sv.ownBlock = some x) → Odd W1 x:=fun x hx=>by
  rcases hx with rfl | hx
  ·exact hpg
  ·exact (hrow x hx).1
 have k1:CellsAt w' pg #[sv,.int .i64 C] 117:=(g2.block pg l1.lt (fun e=>(hrow pg e.symm).2.1 rfl)).trans l1
 have kb:Below w0.heap.size w0 w':=hbl.grown g2 hbl.size (fun x hx=>(hrow x hx).2.2.1)
 refine ⟨sv,vp,vn,vc,w',?_⟩
 rw [hv']
 refine ⟨h1.cell 0,h1.lt,hr,⟨_,k1.cell 0⟩,k1.free 0,⟨v',us ++ [Value.slice (some ⟨g,0,none⟩) C C],by simpa using k1.set 0 v',?_,fun e=>by omega,fun j hj=>?_,h5⟩,kb.setCell (p:=⟨pg,0,none⟩) h5 v'⟩
 ·refine World.ownsRow.kept g1 (grown_setCell w' pg 0 v') ?_
  cases hob:v'.ownBlock with
  | none=>exact .inl rfl
  | some b =>
    refine .inr fun e=>?_
    obtain rfl:b = pg:=Option.some.inj e
    obtain ⟨-,g1 | ⟨b2,cap2,cur2,rfl,hbb2,hh2,r2⟩⟩:=g1
    ·rw [g1.1] at hob; simp [Value.ownBlock] at hob
    ·obtain rfl:b2 = b:=by simpa [Value.ownBlock] using hob
     have h9:some (Obj.cells cur2 113 (0,0)) = some (Obj.cells #[sv,.int .i64 C] 117 (0,0)):=hh2.symm.trans k1
     simp at h9
 ·obtain ⟨u,u1,u2⟩:=l4 j hj
  refine ⟨u,u1,u2.keeps hK hS fun b o m c e hm hx=>?_⟩
  rcases hx with hx | hx
  ·exact u2.other l1 (by decide) b o m c e hm hx
  ·obtain ⟨-,-,-,cur,hcc⟩:=hrow b hx
   exact u2.other hcc (by decide) b o m c e hm rfl
theorem Tryz.matAllX (a:Nat) (p:Option Addr) (R cap:Nat) (t:Value) (w:World) (h:CellsAt w a #[.slice p R cap,t] 117) :
 Calls Tryz.prog 77 #[.pointer (some ⟨a,0,none⟩)] w fun e w'=>e = .returned (.slice p R cap) ∧ w' = w:=by
 have d0:w.cell? ⟨a,0,none⟩ = some (.slice p R cap):=h.cell 0
 clear h
 go_enter Tryz.func77,Tryz.ntmps77
 go_wp2
 go_ret
 exact ⟨rfl,rfl⟩
/-- A matrix, its own block and its lines told. -/
theorem MatR.all {w:World} {v:Value} {R C k:Nat} {M:F} (h:MatR w v R C M k):∃ a p cap,v = .pointer (some ⟨a,0,none⟩) ∧ R ≤ cap ∧ cap ≤ maxLen ∧ CellsAt w a #[.slice p R cap,.int .i64 C] 117 ∧ LinesR w (.slice p R cap) R C M k:=by
 obtain ⟨a,s,h1,h2,h3⟩:=h
 obtain ⟨p,cap,rfl,h4,h5⟩:=h3.slice
 exact ⟨a,p,cap,h1,h4,h5,h2,h3⟩
/-- The first x numbers of a line by their lines, added. -/
def partF (A B:F) (i x:Nat):Nat → Rat:=fun c=>Vm.sum (fun j=>A i j * B j c) x
theorem Tryz.matMul (u v:Value) (R m C k i:Nat) (A B:F) (w:World) (hu:MatR w u R m A k) (hv:MatR w v m C B i) (hR0:0 < R) (hR:R ≤ 1000) (hm:m ≤ 1000) (hC0:0 < C) (hC:C ≤ 1000) (hk:1 ≤ k) (hi:1 ≤ i) (hs:1 + m * (k + i + 1) ≤ 30000000000) :
 Calls Tryz.prog 31 #[u,v] w fun e w'=>(∃ r,e = .returned (.tuple #[r,.bool true]) ∧ MatR w' r R C (mulF A B m) (1 + m * (k + i + 1))) ∧ Below w.heap.size w w':=by
 have HU:=Lib.hid hu
 have HV:=Lib.hid hv
 have HSZ:Hid (∀ y,y < m → 1 + y * (k + i + 1) + (k + i + 1) ≤ 1 + m * (k + i + 1)):=fun y hy=>by
  have:(y + 1) * (k + i + 1) ≤ m * (k + i + 1):=Nat.mul_le_mul_right _ hy
  rw [Nat.succ_mul] at this; omega
 clear hu hv
 go_enter Tryz.func31,Tryz.ntmps31
 go_wp2_with fail
 with_reducible refine (Tryz.matSize u R m A k _ HU.out).mono ?_
 rintro e w1 ⟨rfl,hb⟩
 replace HU:=Lib.hid (HU.out.below hb)
 replace HV:=Lib.hid (HV.out.below hb)
 have HB:=Lib.hid hb
 clear hb
 go_wp2_with fail
 with_reducible refine (Tryz.matSize v m C B i _ HV.out).mono ?_
 rintro e w2 ⟨rfl,hb⟩
 replace HU:=Lib.hid (HU.out.below hb)
 replace HV:=Lib.hid (HV.out.below hb)
 replace HB:=Lib.hid (HB.out.trans (hb.mono HB.out.size))
 clear hb
 obtain ⟨a,p,cap,rfl,l1,l2,hc,hl⟩:=HU.out.all
 obtain ⟨a2,p2,cap2,rfl,l3,l4,hc2,hl2⟩:=HV.out.all
 unfold maxLen at l2 l4
 have HL:=Lib.hid hl
 have HL2:=Lib.hid hl2
 have HC2:=Lib.hid hc2
 -- the product's own block
 obtain ⟨w3,hw3⟩:∃ W,w2.alloc (.cells #[.slice none 0 0,.int .i64 C] 117) = W:=⟨_,rfl⟩
 have hb3:Below w2.heap.size w2 w3:=by rw [← hw3]; exact (Below.refl _ _).alloc (Nat.le_refl _) _
 obtain ⟨pg,hpg⟩:∃ g,w2.heap.size = g:=⟨_,rfl⟩
 have hgr:=Grows.new w2 w2 C (1 + m * (k + i + 1)) (mulF A B m) (Nat.le_refl _)
 rw [hw3,hpg] at hgr
 have HG:=Lib.hid hgr
 have HC3:=Lib.hid (hc.below hb3)
 have HB3:=Lib.hid hb3
 clear hc hl hc2 hl2 hgr hb3 HU HV
 go_wp2_with fail
 clear hw3 hpg
 with_reducible refine (Tryz.matAllX a p R cap _ _ HC3.out).mono ?_
 rintro e w4 ⟨rfl,hw4⟩
 subst hw4
 clear HC3
 go_wp2_with fail
 go_loopw [35] (fun iv wr=>∃ r:Nat,iv = .int .i64 r ∧ r ≤ R ∧ Grows w2 wr pg r C (mulF A B m) (1 + m * (k + i + 1)) ∧ Below w2.heap.size w2 wr) (fun iv _=>R - (intOf iv).toNat)
 case atStart=>exact ⟨0,rfl,Nat.zero_le _,HG.out,HB3.out⟩
 case round=>
  obtain ⟨r,rfl,hr,hg,hb⟩:=hrel
  by_cases hlt:r < R
  ·obtain ⟨g1,o1,cap3,q,c,he,-,-,d0,hl1,hg1⟩:=(HL.out.below hb).nth hlt
   simp only [Value.slice.injEq,true_and] at he
   obtain ⟨rfl,rfl⟩:=he
   obtain ⟨q1,c1,he,n1,n2⟩:=hl1.slice
   simp only [Value.slice.injEq,true_and] at he
   obtain ⟨rfl,rfl⟩:=he
   unfold maxLen at n2
   have HL1:=Lib.hid hl1
   have HG1:=Lib.hid hg
   have HB1:=Lib.hid hb
   have r0:(0:Int) ≤ (r:Int):=by omega
   have r1:(r:Int) < (R:Int):=by omega
   clear hg hb hl1 hg1 HG HB3
   go_wp2_with fail
   with_reducible refine (Tryz.matNoughts C _ hC).mono ?_
   rintro e w5 ⟨⟨b,rfl,ho,hbw⟩,hb5⟩
   have HO5:Hid (LineO w5 b C C (partF A B r 0) (1 + 0 * (k + i + 1))):=ho.congr (fun _ _=>rfl) (by omega)
   have HB5:=Lib.hid hb5
   clear ho hb5 d0
   go_wp2_with fail
   obtain ⟨wo,hwo⟩:∃ wo:World,wo = wr:=⟨_,rfl⟩
   subst hwo
   go_loopw [43] (fun iv wr=>∃ x:Nat,iv = .int .i64 x ∧ x ≤ m ∧ LineO wr b C C (partF A B r x) (1 + x * (k + i + 1)) ∧ Below wo.heap.size wo wr) (fun iv _=>m - (intOf iv).toNat)
   case atStart=>exact ⟨0,rfl,Nat.zero_le _,HO5.out,HB5.out⟩
   case round=>
    obtain ⟨x,rfl,hx,ho,hb⟩:=hrel
    clear HO5 HB5
    have HBx:=Lib.hid (HB1.out.trans (hb.mono HB1.out.size))
    by_cases hlx:x < m
    ·obtain ⟨g2,o2,cap4,fa,he,-,-,d1,hf1,hg2⟩:=(HL1.out.below hb).nth hlx
     simp only [Value.slice.injEq,true_and] at he
     obtain ⟨rfl,rfl⟩:=he
     obtain ⟨g3,o3,cap5,q2,c2,he,-,-,d2,hl3,hg3⟩:=(HL2.out.below HBx.out).nth hlx
     simp only [Value.slice.injEq,true_and] at he
     obtain ⟨rfl,rfl⟩:=he
     have d3:=(HC2.out.below HBx.out).cell 0
     simp only [List.getElem?_toArray,List.getElem?_cons_zero] at d3
     have hold:=HL2.out.nth hlx
     have HF1:=Lib.hid hf1
     have HL3:=Lib.hid hl3
     have HO:=Lib.hid ho
     have HBo:=Lib.hid hb
     have x0:(0:Int) ≤ (x:Int):=by omega
     have x1:(x:Int) < (m:Int):=by omega
     have hsz:=HSZ.out x hlx
     -- the other's line is older than the sum
     have HNE:Hid (∀ b' o m' c,Value.slice q2 C c2 = .slice (some ⟨b',o,none⟩) m' c → 0 < m' → b' ≠ b):=by
      obtain ⟨g4,o4,cap6,q4,c4,he4,-,-,e2,hl4,hg4⟩:=hold
      simp only [Value.slice.injEq,Option.some.injEq,Addr.mk.injEq,and_true,true_and] at he4
      obtain ⟨⟨rfl,rfl⟩,-⟩:=he4
      rw [HBx.out.cell hg4] at d2
      rw [d2] at e2
      simp only [Option.some.injEq,Value.slice.injEq,true_and] at e2
      obtain ⟨rfl,rfl⟩:=e2
      intro b' o m' c e hm'
      simp only [Value.slice.injEq] at e
      obtain ⟨rfl,rfl,rfl⟩:=e
      obtain ⟨p5,cap7,e5,-,-,e6 | ⟨g6,o6,cur6,rfl,hc6,-⟩⟩:=hl4
      ·omega
      ·simp only [Value.slice.injEq,Option.some.injEq,Addr.mk.injEq,and_true,true_and] at e5
       obtain ⟨⟨rfl,-⟩,-⟩:=e5
       have h1:=hc6.lt
       have h2:=HB1.out.size
       omega
     clear ho hb hf1 hl3 hg2 hg3 hold
     go_wp2_with fail
     with_reducible refine (Tryz.matAdd b C C _ _ (partF A B r x) (B x) (A r x) (1 + x * (k + i + 1)) k i _ HO.out HF1.out HL3.out HNE.out hC0 hC (by omega) hk hi (by omega)).mono ?_
     rintro e w6 ⟨rfl,ho,hg6⟩
     have HO6:Hid (LineO w6 b C C (partF A B r (x + 1)) (1 + (x + 1) * (k + i + 1))):=ho.congr (fun c _=>rfl) (by rw [Nat.succ_mul]; omega)
     have HB6:Hid (Below wo.heap.size wo w6):=HBo.out.grown hg6 HBo.out.size (fun z hz=>by obtain rfl:=Option.some.inj hz; exact hbw)
     clear ho hg6 HO HBo HF1 HL3 HNE HBx d1 d2 d3
     go_wp2
     go_roundw
     case rel=>exact ⟨x + 1,by go_num,by omega,HO6.out,HB6.out⟩
     case measure=>simp [intOf]; omega
    ·have e3:decide ((x:Int) < (m:Int)) = false:=by simp; omega
     have e3':decide (x < m) = false:=by simpa using hlx
     obtain rfl:x = m:=by omega
     obtain ⟨sv,vp,vn,vc,w',x0,x1,hrun,⟨y,x2⟩,x3,hgr,hbb⟩:=Tryz.push 112 (HG1.out.below hb) (g:=b) (ho.read.congr (fun c _=>rfl) (Nat.le_refl _)) (by omega) hC0 HBx.out
     have HGN:=Lib.hid hgr
     have HBN:=Lib.hid hbb
     clear ho hb hgr hbb HBx HG1 HB1 HL1
     go_wp2_with (at_builtin; refine wpList_append rfl (.tmp 63) (.tmp 65) 112 rfl rfl rfl hrun ?_)
     go_roundw
     case rel=>exact ⟨r + 1,by go_num,by omega,HGN.out,HBN.out⟩
     case measure=>simp [intOf]; omega
  ·have e3:decide ((r:Int) < (R:Int)) = false:=by simp; omega
   have e3':decide (r < R) = false:=by simpa using hlt
   obtain rfl:r = R:=by omega
   have HR:=Lib.hid (hg.done hR0)
   have HBB:=Lib.hid (HB.out.trans (hb.mono HB.out.size))
   clear hg hb HG HB HB3
   go_wp2
   go_ret2
   exact ⟨⟨_,rfl,HR.out⟩,HBB.out⟩
end Go.Proofs.Mt
namespace Go.Proofs.Mt
open Go.RowKit Go.Proofs.Wd Go.Proofs.Fr Go.Proofs.Vt Go.Proofs.Mm
theorem Tryz.matTurn (v:Value) (R C k:Nat) (M:F) (w:World) (hv:MatR w v R C M k) (hR0:0 < R) (hR:R ≤ 1000) (hC0:0 < C) (hC:C ≤ 1000) :
 Calls Tryz.prog 34 #[v] w fun e w'=>(∃ r,e = .returned r ∧ MatR w' r C R (fun i j=>M j i) k) ∧ Below w.heap.size w w':=by
 have HV:=Lib.hid hv
 clear hv
 go_enter Tryz.func34,Tryz.ntmps34
 go_wp2_with fail
 with_reducible refine (Tryz.matSize v R C M k _ HV.out).mono ?_
 rintro e w2 ⟨rfl,hb⟩
 have HB:=Lib.hid hb
 obtain ⟨a,p,cap,rfl,l1,l2,hc,hl⟩:=(HV.out.below hb).all
 unfold maxLen at l2
 have HL:=Lib.hid hl
 have HC:=Lib.hid hc
 obtain ⟨w3,hw3⟩:∃ W,w2.alloc (.cells #[.slice none 0 0,.int .i64 R] 117) = W:=⟨_,rfl⟩
 have hb3:Below w2.heap.size w2 w3:=by rw [← hw3]; exact (Below.refl _ _).alloc (Nat.le_refl _) _
 obtain ⟨pg,hpg⟩:∃ g,w2.heap.size = g:=⟨_,rfl⟩
 have hgr:=Grows.new w2 w2 R k (fun i j=>M j i) (Nat.le_refl _)
 rw [hw3,hpg] at hgr
 have HG:=Lib.hid hgr
 have HB3:=Lib.hid hb3
 clear hb hc hl hgr hb3 HV
 go_wp2_with fail
 clear hw3 hpg
 go_loopw [19] (fun iv wr=>∃ r:Nat,iv = .int .i64 r ∧ r ≤ C ∧ Grows w2 wr pg r R (fun i j=>M j i) k ∧ Below w2.heap.size w2 wr) (fun iv _=>C - (intOf iv).toNat)
 case atStart=>exact ⟨0,rfl,Nat.zero_le _,HG.out,HB3.out⟩
 case round=>
  obtain ⟨r,rfl,hr,hg,hb⟩:=hrel
  by_cases hlt:r < C
  ·have HG1:=Lib.hid hg
   have HB1:=Lib.hid hb
   have d0:=(HC.out.below hb).cell 0
   simp only [List.getElem?_toArray,List.getElem?_cons_zero] at d0
   have da:=(HC.out.below hb).lt
   have r0:(0:Int) ≤ (r:Int):=by omega
   have r1:(r:Int) < (C:Int):=by omega
   obtain ⟨w4,hmk,ho,hb4⟩:=Tryz.makeLine wr 113 Tryz.underlying113 R R k rfl (by omega)
   obtain ⟨b,hbs⟩:∃ g,wr.heap.size = g:=⟨_,rfl⟩
   have hbw:wr.heap.size ≤ b:=Nat.le_of_eq hbs
   rw [hbs] at hmk ho
   have HO4:Hid (LineO w4 b R R (fun x=>if x < 0 then M x r else 0) k):=ho.congr (fun j _=>by rw [if_neg (by omega)]) (Nat.le_refl _)
   have HB4:=Lib.hid hb4
   have d1:=(hb4.cell da).trans d0
   clear hg hb ho hb4 HG HB3 hbs d0 da
   go_wp2_with fail
   clear hmk d1
   obtain ⟨wo,hwo⟩:∃ wo:World,wo = wr:=⟨_,rfl⟩
   subst hwo
   go_loopw [29] (fun iv wr=>∃ x:Nat,iv = .int .i64 x ∧ x ≤ R ∧ LineO wr b R R (fun y=>if y < x then M y r else 0) k ∧ Below wo.heap.size wo wr) (fun iv _=>R - (intOf iv).toNat)
   case atStart=>exact ⟨0,rfl,Nat.zero_le _,HO4.out,HB4.out⟩
   case round=>
    obtain ⟨x,rfl,hx,ho,hb⟩:=hrel
    clear HO4 HB4
    have HBx:=Lib.hid (HB1.out.trans (hb.mono HB1.out.size))
    by_cases hlx:x < R
    ·obtain ⟨g1,o1,cap3,q,c,he,-,-,d1,hl1,hg1⟩:=(HL.out.below HBx.out).nth hlx
     simp only [Value.slice.injEq,true_and] at he
     obtain ⟨rfl,rfl⟩:=he
     obtain ⟨g2,o2,cap4,fa,he,n1,n2,d2,hf1,hg2⟩:=hl1.nth hlt
     simp only [Value.slice.injEq,true_and] at he
     obtain ⟨rfl,rfl⟩:=he
     unfold maxLen at n2
     obtain ⟨y,y0,y1,-⟩:=ho.cell hlx
     have x0:(0:Int) ≤ (x:Int):=by omega
     have x1:(x:Int) < (R:Int):=by omega
     have HO6:Hid (LineO (wr.setCell ⟨b,x,none⟩ (.pointer fa)) b R R (fun y=>if y < x + 1 then M y r else 0) k):=(ho.set hf1 hlx).congr (fun j hj=>by
      by_cases e:j = x
      ·rw [if_pos e,if_pos (by omega),e]
      ·rw [if_neg e]
       by_cases e2:j < x
       ·rw [if_pos e2,if_pos (by omega)]
       ·rw [if_neg e2,if_neg (by omega)]) (Nat.le_refl _)
     have HB6:Hid (Below wo.heap.size wo (wr.setCell ⟨b,x,none⟩ (.pointer fa))):=hb.setCell (p:=⟨b,x,none⟩) (show _ ≤ b by omega) _
     clear ho hb hl1 hf1 hg1 hg2 HBx
     go_wp2
     go_roundw
     case rel=>exact ⟨x + 1,by go_num,by omega,HO6.out,HB6.out⟩
     case measure=>simp [intOf]; omega
    ·have e3:decide ((x:Int) < (R:Int)) = false:=by simp; omega
     have e3':decide (x < R) = false:=by simpa using hlx
     obtain rfl:x = R:=by omega
     obtain ⟨sv,vp,vn,vc,w',x0,x1,hrun,⟨y,x2⟩,x3,hgr,hbb⟩:=Tryz.push 112 (HG1.out.below hb) (g:=b) (ho.read.congr (fun c hc=>by show M c r = _; rw [if_pos hc]) (Nat.le_refl _)) (by omega) hR0 HBx.out
     have HGN:=Lib.hid hgr
     have HBN:=Lib.hid hbb
     clear ho hb hgr hbb HBx HG1 HB1
     go_wp2_with (at_builtin; refine wpList_append rfl (.tmp 46) (.tmp 48) 112 rfl rfl rfl hrun ?_)
     go_roundw
     case rel=>exact ⟨r + 1,by go_num,by omega,HGN.out,HBN.out⟩
     case measure=>simp [intOf]; omega
  ·have e3:decide ((r:Int) < (C:Int)) = false:=by simp; omega
   have e3':decide (r < C) = false:=by simpa using hlt
   obtain rfl:r = C:=by omega
   have HR:=Lib.hid (hg.done hC0)
   have HBB:=Lib.hid (HB.out.trans (hb.mono HB.out.size))
   clear hg hb HG HB HB3
   go_wp2
   go_ret
   exact ⟨⟨_,rfl,HR.out⟩,HBB.out⟩
/-- Texts of the call's own, in a row. -/
def OwnS (B:Nat) (w:World) (v:Value) (n:Nat) (s:Nat → ByteArray):Prop:=∃ us,w.ownsRow B 9 1 v n us ∧ ∀ j,j < n → us[j]? = some (.string (s j))
theorem OwnS.below {B:Nat} {w w':World} {v:Value} {n:Nat} {s:Nat → ByteArray} (h:OwnS B w v n s) (hb:Below w.heap.size w w'):OwnS B w' v n s:=by
 obtain ⟨us,h1,h2⟩:=h
 exact ⟨us,ownsRow_below h1 hb,h2⟩
theorem OwnS.slice {B:Nat} {w:World} {v:Value} {n:Nat} {s:Nat → ByteArray} (h:OwnS B w v n s):∃ p c,v = .slice p n c:=by
 obtain ⟨us,⟨-,⟨rfl,rfl⟩ | ⟨g,cap,cur,rfl,-⟩⟩,-⟩:=h
 ·exact ⟨_,_,rfl⟩
 ·exact ⟨_,_,rfl⟩
theorem OwnS.read {B:Nat} {w:World} {v:Value} {n:Nat} {s:Nat → ByteArray} (h:OwnS B w v n s) (hn:0 < n):StrsF w v n s:=by
 obtain ⟨us,⟨h0,⟨rfl,hn0⟩ | ⟨g,cap,cur,rfl,hb,hh,h1,h2,h3,h4⟩⟩,h5⟩:=h
 ·omega
 ·refine ⟨_,cap,rfl,h1,h2,.inr ⟨g,0,cur,rfl,hh,fun j hj=>?_⟩⟩
  have:=h5 j hj
  rw [← h4,List.getElem?_take_of_lt (by omega),Array.getElem?_toList] at this
  rw [Nat.zero_add]; exact this
theorem Tryz.infoStr:(Tryz.prog.info? 9).map (fun i=>(i.zero,i.size,i.bytes)) = some (some (.string ⟨#[]⟩),1,16):=by kernel_rfl
theorem Tryz.infoStrs:(Tryz.prog.info? 23).map (fun i=>(i.zero,i.size,i.bytes)) = some (some (.slice none 0 0),1,24):=by kernel_rfl
theorem get_app {l:List Value} {u:Value} {n j:Nat} (h:l.length = n) (hj:j < n + 1):(l ++ [u])[j]? = if j < n then l[j]? else some u:=by
 split
 ·rw [List.getElem?_append_left (by omega)]
 ·rw [List.getElem?_append_right (by omega),h,show j - n = 0 by omega]; rfl
/-- One text more. -/
theorem Tryz.appendS {B:Nat} {w:World} {v:Value} {n:Nat} {s:Nat → ByteArray} (ty:TypeId) (h:OwnS B w v n s) (t:ByteArray) (hn:n ≤ 1000) (hB:B ≤ w.heap.size) (hst:s n = t) :
 ∃ p c w',(Builtin.append_ #[23,23] ty #[v,.slice (some ⟨w.heap.size,0,none⟩) 1 1]).run Tryz.prog (w.alloc (.cells #[.string t] 9)) = .ok (.slice p (n + 1) c) w' ∧ OwnS B w' (.slice p (n + 1) c) (n + 1) s ∧ w.grownBy w' v.ownBlock:=by
 obtain ⟨i0,hi0,hz0,hz1,hz2⟩:=info_parts Tryz.infoStr
 obtain ⟨us,h1,h2⟩:=h
 have hal:Below w.heap.size w (w.alloc (.cells #[.string t] 9)):=(Below.refl _ _).alloc (Nat.le_refl _) _
 have hnew:=(CellsAt.new w #[.string t] 9 rfl).cell 0
 obtain ⟨v',w',hr,g1,g2,-⟩:=run_append_own (P:=Tryz.prog) (w.alloc (.cells #[.string t] 9)) B 23 ty 9 i0 _ 1 16 Tryz.underlying23 hi0 hz0 hz1 hz2 rfl (by decide) v n us (ownsRow_below h1 hal) ⟨w.heap.size,0,none⟩ 1 1 [.string t] rfl (by
  intro j u hj
  match j,hj with
  | 0, hj =>
    rw [show (⟨w.heap.size,0,none⟩:Addr).add 0 = ⟨w.heap.size,0,none⟩ from rfl,hnew]
    simpa using hj) (by
  intro u hu
  rw [List.mem_singleton.1 hu]; rfl) (by unfold maxLen; omega) (by omega) (Nat.le_trans hB hal.size)
 have hul:us.length = n:=by have:=h1.1; omega
 have ho:OwnS B w' v' (n + 1) s:=⟨_,g1,fun j hj=>by
  rw [get_app hul hj]
  split
  ·exact h2 j (by assumption)
  ·rw [← hst,show j = n by omega]⟩
 obtain ⟨p,c,rfl⟩:=ho.slice
 exact ⟨p,c,w',hr,ho,grown_trans (grown_of_below hal _) g2⟩
/-- Rows of texts of the call's own. -/
def OwnR (B:Nat) (w:World) (v:Value) (n C:Nat) (T:Nat → Nat → ByteArray):Prop:=∃ us,w.ownsRow B 23 1 v n us ∧ ∀ j,j < n → ∃ u,us[j]? = some u ∧ StrsF w u C (T j)
theorem OwnR.below {B:Nat} {w w':World} {v:Value} {n C:Nat} {T:Nat → Nat → ByteArray} (h:OwnR B w v n C T) (hb:Below w.heap.size w w'):OwnR B w' v n C T:=by
 obtain ⟨us,h1,h2⟩:=h
 refine ⟨us,ownsRow_below h1 hb,fun j hj=>?_⟩
 obtain ⟨u,u1,u2⟩:=h2 j hj
 exact ⟨u,u1,u2.below hb⟩
theorem OwnR.slice {B:Nat} {w:World} {v:Value} {n C:Nat} {T:Nat → Nat → ByteArray} (h:OwnR B w v n C T):∃ p c,v = .slice p n c:=by
 obtain ⟨us,⟨-,⟨rfl,rfl⟩ | ⟨g,cap,cur,rfl,-⟩⟩,-⟩:=h
 ·exact ⟨_,_,rfl⟩
 ·exact ⟨_,_,rfl⟩
theorem OwnR.read {B:Nat} {w:World} {v:Value} {n C:Nat} {T:Nat → Nat → ByteArray} (h:OwnR B w v n C T) (hn:0 < n):RowsF w v n C T:=by
 obtain ⟨us,⟨h0,⟨rfl,hn0⟩ | ⟨g,cap,cur,rfl,hb,hh,h1,h2,h3,h4⟩⟩,h5⟩:=h
 ·omega
 ·refine ⟨_,cap,rfl,h1,h2,.inr ⟨g,0,cur,rfl,hh,fun j hj=>?_⟩⟩
  obtain ⟨u,u1,u2⟩:=h5 j hj
  rw [← h4,List.getElem?_take_of_lt (by omega),Array.getElem?_toList] at u1
  exact ⟨u,by rw [Nat.zero_add]; exact u1,u2⟩
theorem grown_none {w w':World} (h:w.grownBy w' none):Below w.heap.size w w':=⟨h.os,h.tape,h.output,h.size,fun k hk=>h.block k hk (by simp)⟩
theorem StrsF.kept {w w':World} {v:Value} {n:Nat} {s:Nat → ByteArray} {row:Option Nat} (h:StrsF w v n s) (hg:w.grownBy w' row) (hr:∀ g,row = some g → ∃ cur t,CellsAt w g cur t ∧ t ≠ 9):StrsF w' v n s:=by
 cases row with
 | none=>exact h.below (grown_none hg)
 | some g =>
   obtain ⟨cur,t,h1,h2⟩:=hr g rfl
   exact h.far hg h1 h2
/-- One row more. -/
theorem Tryz.appendR {B:Nat} {w:World} {v u:Value} {n C:Nat} {T:Nat → Nat → ByteArray} (ty:TypeId) (h:OwnR B w v n C T) (hu:StrsF w u C (T n)) (hn:n ≤ 1000) (hB:B ≤ w.heap.size) :
 ∃ p c w',(Builtin.append_ #[50,50] ty #[v,.slice (some ⟨w.heap.size,0,none⟩) 1 1]).run Tryz.prog (w.alloc (.cells #[u] 23)) = .ok (.slice p (n + 1) c) w' ∧ OwnR B w' (.slice p (n + 1) c) (n + 1) C T ∧ w.grownBy w' v.ownBlock:=by
 obtain ⟨i0,hi0,hz0,hz1,hz2⟩:=info_parts Tryz.infoStrs
 obtain ⟨us,h1,h2⟩:=h
 have hal:Below w.heap.size w (w.alloc (.cells #[u] 23)):=(Below.refl _ _).alloc (Nat.le_refl _) _
 have hnew:=(CellsAt.new w #[u] 23 rfl).cell 0
 have l1:=ownsRow_below h1 hal
 obtain ⟨v',w',hr,g1,g2,-⟩:=run_append_own (P:=Tryz.prog) (w.alloc (.cells #[u] 23)) B 50 ty 23 i0 _ 1 24 Tryz.underlying50 hi0 hz0 hz1 hz2 rfl (by decide) v n us l1 ⟨w.heap.size,0,none⟩ 1 1 [u] rfl (by
  intro j u hj
  match j,hj with
  | 0, hj =>
    rw [show (⟨w.heap.size,0,none⟩:Addr).add 0 = ⟨w.heap.size,0,none⟩ from rfl,hnew]
    simpa using hj) (by
  intro x hx
  obtain ⟨p,cap,rfl,-⟩:=hu
  rw [List.mem_singleton.1 hx]; rfl) (by unfold maxLen; omega) (by omega) (Nat.le_trans hB hal.size)
 have hul:us.length = n:=by have:=h1.1; omega
 have hrow:∀ g,v.ownBlock = some g → ∃ cur t,CellsAt (w.alloc (.cells #[u] 23)) g cur t ∧ t ≠ 9:=by
  intro g hg
  obtain ⟨-,⟨rfl,-⟩ | ⟨b,cap,cur,rfl,hbb,hh,-⟩⟩:=l1
  ·simp [Value.ownBlock] at hg
  ·obtain rfl:b = g:=by simpa [Value.ownBlock] using hg
   exact ⟨cur,_,hh,by decide⟩
 have ho:OwnR B w' v' (n + 1) C T:=⟨_,g1,fun j hj=>by
  rw [get_app hul hj]
  split
  ·obtain ⟨x,x1,x2⟩:=h2 j (by assumption)
   exact ⟨x,x1,(x2.below hal).kept g2 hrow⟩
  ·exact ⟨u,rfl,by rw [show j = n by omega]; exact (hu.below hal).kept g2 hrow⟩⟩
 obtain ⟨p,c,rfl⟩:=ho.slice
 exact ⟨p,c,w',hr,ho,grown_trans (grown_of_below hal _) g2⟩
/-- What matrix picks out of texts. -/
noncomputable def pickT (ss:List ByteArray) (i k:Nat):ByteArray:=
 match ss[(i * 7 + k * 3 + i * k) % ss.length]? with
 | some s=>if (getQ s).isSome then s else ⟨#[48]⟩
 | none=>⟨#[48]⟩
theorem pickT_ok (ss:List ByteArray) (i k:Nat):(getQ (pickT ss i k)).isSome = true:=by
 unfold pickT
 split
 ·split
  ·assumption
  ·rw [getQ_nought]; rfl
 ·rw [getQ_nought]; rfl
noncomputable def matQ (ss:List ByteArray):F:=fun i k=>(getQ (pickT ss i k)).getD 0
theorem matQ_get (ss:List ByteArray) (i k:Nat):getQ (pickT ss i k) = some (matQ ss i k):=by
 have:=pickT_ok ss i k
 unfold matQ
 cases h:getQ (pickT ss i k) with
 | none=>rw [h] at this; exact absurd this (by decide)
 | some q=>rfl
theorem Tryz.matrix (R C:Nat) (v:Value) (ss:List ByteArray) (w:World) (h:StrsIn w v ss) (hR0:0 < R) (hR:R ≤ 5) (hC0:0 < C) (hC:C ≤ 5) :
 Calls Tryz.prog 29 #[.int .i64 R,.int .i64 C,v] w fun e w'=>(∃ r,e = .returned r ∧ RowsF w' r R C (pickT ss)) ∧ Below w.heap.size w w':=by
 have H:=Lib.hid h
 obtain ⟨p,cap,rfl,l1,l2⟩:=h.slice
 unfold maxLen at l2
 obtain ⟨n,hn0⟩:∃ n,ss.length = n:=⟨_,rfl⟩
 have HN0:=Lib.hid hn0
 rw [hn0] at H l1 ⊢
 clear h hn0
 go_enter Tryz.func29,Tryz.ntmps29
 go_wp2_with fail
 go_loopw [7,8] (fun mv iv wr=>∃ (i:Nat) (p:Option Addr) (c:Nat),iv = .int .i64 i ∧ mv = .slice p i c ∧ i ≤ R ∧ OwnR w.heap.size wr (.slice p i c) i C (pickT ss) ∧ Below w.heap.size w wr) (fun _ iv _=>R - (intOf iv).toNat)
 case atStart=>exact ⟨0,none,0,rfl,rfl,Nat.zero_le _,⟨[],World.ownsRow_nil _ _ _ _,fun j hj=>by omega⟩,Below.refl _ _⟩
 case round=>
  obtain ⟨i,mp,mc,rfl,rfl,hi,hm,hb⟩:=hrel
  by_cases hlt:i < R
  ·have HM1:=Lib.hid hm
   have HB1:=Lib.hid hb
   have i0:(0:Int) ≤ (i:Int):=by omega
   have i1:(i:Int) < (R:Int):=by omega
   have i2:(i:Int) ≤ 4:=by omega
   clear hm hb
   go_wp2_with fail
   obtain ⟨wo,hwo⟩:∃ wo:World,wo = wr:=⟨_,rfl⟩
   subst hwo
   go_loopw [9,10] (fun rv kv wr=>∃ (k:Nat) (p:Option Addr) (c:Nat),kv = .int .i64 k ∧ rv = .slice p k c ∧ k ≤ C ∧ OwnS wo.heap.size wr (.slice p k c) k (pickT ss i) ∧ Below wo.heap.size wo wr) (fun _ kv _=>C - (intOf kv).toNat)
   case atStart=>exact ⟨0,none,0,rfl,rfl,Nat.zero_le _,⟨[],World.ownsRow_nil _ _ _ _,fun j hj=>by omega⟩,Below.refl _ _⟩
   case round=>
    obtain ⟨k,rp,rc,rfl,rfl,hk,ho,hb⟩:=hrel
    by_cases hlk:k < C
    ·have HO:=Lib.hid ho
     have HB:=Lib.hid hb
     have k0:(0:Int) ≤ (k:Int):=by omega
     have k1:(k:Int) < (C:Int):=by omega
     have k2:(k:Int) ≤ 4:=by omega
     clear ho hb
     by_cases hn:n = 0
     ·have EQ : Hid (pickT ss i k = ⟨#[48]⟩) := by
       show _ = _
       rw [List.length_eq_zero_iff.1 (HN0.out.trans hn)]; rfl
      have hz:decide ((0:Int) < (n:Int)) = false:=by simp; omega
      have hz':decide (0 < n) = false:=by simp; omega
      clear hn
      obtain ⟨p',c',w9,hrun,ho,hg⟩:=Tryz.appendS 23 HO.out ⟨#[48]⟩ (by omega) HB.out.size EQ.out
      have HN:=Lib.hid ho
      have HBN:=Lib.hid (HB.out.grown hg HB.out.size (fun z hz=>by obtain ⟨us,h1,-⟩:=HO.out; exact (World.ownsRow.lt h1 z hz).1))
      clear ho hg HO HB
      go_wp2_with (at_builtin; refine wpList_append rfl (.tmp 49) (.tmp 51) 23 rfl rfl rfl hrun ?_)
      go_roundw
      case rel=>exact ⟨k + 1,p',c',by go_num,rfl,by omega,HN.out,HBN.out⟩
      case measure=>simp [intOf]; omega
     ·have hpos:0 < n:=by omega
      obtain ⟨pr,hpr⟩:∃ p,i * k = p:=⟨_,rfl⟩
      have hpl:pr ≤ 16:=by rw [← hpr]; exact Nat.mul_le_mul (show i ≤ 4 by omega) (show k ≤ 4 by omega)
      have hik:(i:Int) * (k:Int) = (pr:Int):=by rw [← hpr]; exact (Int.natCast_mul i k).symm
      obtain ⟨j,hj⟩:∃ j,(i * 7 + k * 3 + pr) % n = j:=⟨_,rfl⟩
      have hjn:j < n:=by rw [← hj]; exact Nat.mod_lt _ hpos
      have hm1:((i:Int) * 7 + (k:Int) * 3 + (pr:Int)) % (n:Int) = (j:Int):=by rw [← hj]; simp
      have hm2:((i:Int) * 7 + (k:Int) * 3 + (pr:Int)).tmod (n:Int) = (j:Int):=by rw [Int.tmod_eq_emod_of_nonneg (by omega)]; exact hm1
      obtain ⟨s,hs⟩:∃ s,ss[j]? = some s:=⟨_,List.getElem?_eq_getElem (by have:=HN0.out; omega)⟩
      obtain ⟨g,o,cap',he,hg,d0,hsz⟩:=(H.out.below (HB1.out.trans (HB.out.mono HB1.out.size))).nth hs
      simp only [Value.slice.injEq] at he
      obtain ⟨rfl,-,rfl⟩:=he
      unfold maxLen at hsz
      have HPK:Hid (pickT ss i k = if (getQ s).isSome then s else ⟨#[48]⟩):=by
       show _ = _
       unfold pickT
       rw [HN0.out,hpr,hj,hs]
      have n0:(0:Int) < (n:Int):=by omega
      have n9:(n:Int) ≤ 9223372036854775807:=by omega
      have j0:(0:Int) ≤ (j:Int):=by omega
      have j1:(j:Int) < (n:Int):=by omega
      have p0:(0:Int) ≤ (pr:Int):=by omega
      have p1:(pr:Int) ≤ 16:=by omega
      have hnz:((n:Int) == 0) = false:=by simp; omega
      clear hpr hj hs hg
      go_wp2_with fail
      with_reducible refine (Tryz.rGetA s _ (by omega)).mono ?_
      rintro e w3 ⟨hget,hb3⟩
      obtain ⟨xb,xp2,xn2,xc2,xp3,xn3,xc3,bok,rfl,hbok,hq⟩:=hget.parts
      have hb4:Below w3.heap.size w3 (w3.alloc (.cells #[.bool xb,.slice xp2 xn2 xc2,.slice xp3 xn3 xc3] 35)):=(Below.refl _ _).alloc (Nat.le_refl _) _
      replace HO:=Lib.hid ((HO.out.below hb3).below hb4)
      replace HB:=Lib.hid ((HB.out.trans (hb3.mono HB.out.size)).trans (hb4.mono (HB.out.trans (hb3.mono HB.out.size)).size))
      have HQ:=Lib.hid hq
      have hnew:=CellsAt.new w3 #[.bool xb,.slice xp2 xn2 xc2,.slice xp3 xn3 xc3] 35 rfl
      obtain ⟨w4,hw4⟩:∃ W,w3.alloc (.cells #[.bool xb,.slice xp2 xn2 xc2,.slice xp3 xn3 xc3] 35) = W:=⟨_,rfl⟩
      rw [hw4] at HO HB hnew hb4
      clear hget hq hb3 d0 hm1 hm2 hik
      cases hgo:getQ s with
      | none =>
        rw [hgo] at hbok
        obtain rfl:bok = false:=hbok
        have EQ:Hid (pickT ss i k = ⟨#[48]⟩):=by show _ = _; rw [HPK.out,hgo]; rfl
        clear hgo hb4 HPK HQ hnew
        obtain ⟨p',c',w9,hrun,ho,hg⟩:=Tryz.appendS 23 HO.out ⟨#[48]⟩ (by omega) HB.out.size EQ.out
        have HN:=Lib.hid ho
        have HBN:=Lib.hid (HB.out.grown hg HB.out.size (fun z hz=>by obtain ⟨us,h1,-⟩:=HO.out; exact (World.ownsRow.lt h1 z hz).1))
        clear ho hg HO HB
        go_wp2_with (at_builtin; refine wpList_append rfl (.tmp 49) (.tmp 51) 23 rfl rfl rfl hrun ?_)
        go_roundw
        case rel=>exact ⟨k + 1,p',c',by go_num,rfl,by omega,HN.out,HBN.out⟩
        case measure=>simp [intOf]; omega
      | some q =>
        rw [hgo] at hbok
        obtain rfl:bok = true:=hbok
        have EQ:Hid (pickT ss i k = s):=by show _ = _; rw [HPK.out,hgo]; rfl
        have HQQ:=Lib.hid ((HQ.out q hgo).below hb4)
        have HTX:=Lib.hid (text_own hgo)
        have c0:=hnew.cell 0
        have c1:=hnew.cell 1
        have c2:=hnew.cell 2
        simp only [List.getElem?_toArray,List.getElem?_cons_zero,List.getElem?_cons_succ] at c0 c1 c2
        clear hgo hb4 HPK HQ hnew
        go_wp2_with fail
        with_reducible refine (Tryz.rQTextA _ q 500 _ HQQ.out (by omega) (by omega)).mono ?_
        rintro e w5 ⟨rfl,hb5⟩
        rw [HTX.out]
        replace HO:=Lib.hid (HO.out.below hb5)
        replace HB:=Lib.hid (HB.out.trans (hb5.mono HB.out.size))
        clear hb5 HQQ HTX c0 c1 c2
        obtain ⟨p',c',w9,hrun,ho,hg⟩:=Tryz.appendS 23 HO.out s (by omega) HB.out.size EQ.out
        have HN:=Lib.hid ho
        have HBN:=Lib.hid (HB.out.grown hg HB.out.size (fun z hz=>by obtain ⟨us,h1,-⟩:=HO.out; exact (World.ownsRow.lt h1 z hz).1))
        clear ho hg HO HB
        go_wp2_with (at_builtin; refine wpList_append rfl (.tmp 49) (.tmp 51) 23 rfl rfl rfl hrun ?_)
        go_roundw
        case rel=>exact ⟨k + 1,p',c',by go_num,rfl,by omega,HN.out,HBN.out⟩
        case measure=>simp [intOf]; omega
    ·have e3:decide ((k:Int) < (C:Int)) = false:=by simp; omega
     have e3':decide (k < C) = false:=by simpa using hlk
     obtain rfl:k = C:=by omega
     have HBB:=Lib.hid (HB1.out.trans (hb.mono HB1.out.size))
     have HMr:=Lib.hid (HM1.out.below hb)
     obtain ⟨p',c',w9,hrun,hr,hg⟩:=Tryz.appendR 50 HMr.out (ho.read hC0) (by omega) HBB.out.size
     have HN:=Lib.hid hr
     have HBN:=Lib.hid (HBB.out.grown hg HBB.out.size (fun z hz=>by obtain ⟨us,h1,-⟩:=HMr.out; exact (World.ownsRow.lt h1 z hz).1))
     clear ho hb hr hg HM1 HB1 HBB HMr
     go_wp2_with (at_builtin; refine wpList_append rfl (.tmp 53) (.tmp 55) 50 rfl rfl rfl hrun ?_)
     go_roundw
     case rel=>exact ⟨i + 1,p',c',by go_num,rfl,by omega,HN.out,HBN.out⟩
     case measure=>simp [intOf]; omega
  ·have e3:decide ((i:Int) < (R:Int)) = false:=by simp; omega
   have e3':decide (i < R) = false:=by simpa using hlt
   obtain rfl:i = R:=by omega
   have HR:=Lib.hid (hm.read hR0)
   have HBB:=Lib.hid hb
   clear hm hb
   go_wp2
   go_ret
   exact ⟨⟨_,rfl,HR.out⟩,HBB.out⟩
end Go.Proofs.Mt
