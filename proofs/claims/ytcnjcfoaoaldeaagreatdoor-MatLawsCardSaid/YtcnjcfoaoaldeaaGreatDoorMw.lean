/- Matrices: what tell of the package mat does. Matrices: what eliminate, beside and Rank of the package mat do. Matrices: what add at a part of a line, and putBack of the package mat do. -/
import Derived.Test.YtcnjcfoaoaldeaaGreatDoorRn
import Derived.Test.YtcnjcfoaoaldeaaGreatDoorMq
set_option linter.unusedVariables false
set_option maxHeartbeats 4000000
set_option maxRecDepth 100000
namespace Go.Proofs.Mt
open Go.RowKit Go.Proofs.Wd Go.Proofs.Fr Go.Proofs.Vt Go.Proofs.Mm
/-- The lines with the one that tells. -/
def tell1 (E:F) (t a x:Nat):F:=fun l=>if l = t then pivF E a x else swapRow E t a l
def tellK1 (k t:Nat):Nat → Nat:=fun l=>if l = t then k + k else k
/-- .. and i of those behind done. -/
def tell2 (E:F) (t a x i:Nat):F:=fun l=>if l < t + 1 + i then tellF E t a x l else swapRow E t a l
def tellK2 (k t i:Nat):Nat → Nat:=fun l=>if l = t then k + k else if l < t + 1 + i then k + k + (k + k) + 1 else k
theorem tell2_start (E:F) {t a x l:Nat} (ha:t ≤ a):tell2 E t a x 0 l = tell1 E t a x l:=by
 unfold tell2 tell1
 by_cases e:l = t
 ·rw [if_pos (by omega),if_pos e,tellF,if_neg (by omega),if_pos e]
 ·rw [if_neg e]
  by_cases e2:l < t
  ·rw [if_pos (by omega),tellF,if_pos e2,swap_old (by omega) (by omega)]
  ·rw [if_neg (by omega)]
theorem tellK2_start (k t l:Nat):tellK1 k t l ≤ tellK2 k t 0 l:=by unfold tellK1 tellK2; split <;> (try split) <;> omega
theorem tell2_piv (E:F) (t a x i:Nat):tell2 E t a x i t = pivF E a x:=by rw [tell2,if_pos (by omega),tellF,if_neg (by omega),if_pos rfl]
theorem tell2_at (E:F) (t a x i:Nat):tell2 E t a x i (t + 1 + i) = swapRow E t a (t + 1 + i):=by rw [tell2,if_neg (by omega)]
theorem tell2_new (E:F) (t a x i j:Nat):tell2 E t a x (i + 1) (t + 1 + i) j = swapRow E t a (t + 1 + i) j + -(swapRow E t a (t + 1 + i) x) * pivF E a x j:=by
 rw [tell2,if_pos (by omega),tellF,if_neg (by omega),if_neg (by omega)]
theorem tell2_old (E:F) {t a x i l:Nat} (h:l ≠ t + 1 + i):tell2 E t a x (i + 1) l = tell2 E t a x i l:=by
 unfold tell2
 by_cases e:l < t + 1 + i
 ·rw [if_pos (by omega),if_pos e]
 ·rw [if_neg (by omega),if_neg e]
theorem tellK2_old {k t i l:Nat} (h:l ≠ t + 1 + i):tellK2 k t i l ≤ tellK2 k t (i + 1) l:=by unfold tellK2; split <;> (try split) <;> (try split) <;> omega
theorem tellK2_at (k t i:Nat):tellK2 k t i (t + 1 + i) = k:=by rw [tellK2,if_neg (by omega),if_neg (by omega)]
theorem tellK2_t (k t i:Nat):tellK2 k t i t = k + k:=by rw [tellK2,if_pos rfl]
theorem tellK2_new (k t i:Nat):k + k + (k + k) + 1 ≤ tellK2 k t (i + 1) (t + 1 + i):=by rw [tellK2,if_neg (by omega),if_pos (by omega)]; exact Nat.le_refl _
theorem tellK2_end (k t i l:Nat):tellK2 k t i l ≤ 4 * k + 1:=by unfold tellK2; split <;> (try split) <;> omega
theorem Tryz.matTell (B e L cap R u N t n a x k:Nat) (E:F) (told G c:Nat → Nat) (w:World) (h:Eqs B w e L cap R u N t E told (fun _=>k) G c) (hn:t + n = R) (ha:a < n) (hx:x < u) (hz:E (t + a) x ≠ 0) (hu:u ≤ N) (hR:R ≤ 1000) (hN:N ≤ 1000) (hk:1 ≤ k) (hs:k + k + (k + k) + 1 ≤ 30000000000) (hB:B ≤ w.heap.size) :
 Calls Tryz.prog 129 #[.pointer (some ⟨e,0,none⟩),.int .i64 a,.int .i64 x] w fun r w'=>r = .returned (.tuple #[]) ∧ (∃ G' c',Eqs B w' e L cap R u N (t + 1) (tellF E t (t + a) x) (toldF told t x) (fun _=>4 * k + 1) G' c') ∧ Below B w w':=by
 subst hn
 obtain ⟨p,q,hst⟩:=h.parts
 have HE:=Lib.hid h
 have HS:=Lib.hid hst
 have HZ:=Lib.hid hz
 have HB:Hid (Below B w w):=Below.refl _ _
 have HBB:=Lib.hid hB
 have hcap:=h.lns.le
 have hmax:=h.lns.max
 have hmax2:=hmax
 unfold maxLen at hmax2
 have t0:(0:Int) ≤ (t:Int):=by omega
 have t1:(t:Int) ≤ (t:Int) + (n:Int):=by omega
 have t2:(t:Int) ≤ ((cap:Nat):Int):=by omega
 have t3:cap ≠ t:=by omega
 have a0:(0:Int) ≤ (a:Int):=by omega
 have a1:(a:Int) < (n:Int):=by omega
 have n0:(0:Int) < (n:Int):=by omega
 have n0':0 < n:=by omega
 have n1:(1:Int) ≤ (n:Int):=by omega
 have n2:1 ≤ n:=by omega
 have n3:1 ≤ cap - t:=by omega
 obtain ⟨m,hm⟩:∃ m,n - 1 = m:=⟨_,rfl⟩
 have HM:=Lib.hid hm
 have hxN:x < N:=by omega
 have x0:(0:Int) ≤ (x:Int):=by omega
 have x1:(x:Int) < (N:Int):=by omega
 clear h hst hz hB hm
 go_enter Tryz.func129,Tryz.ntmps129
 go_upto_region 0 with (fail)
 go_cut [6] (fun rv wx=>rv = .slice (some ⟨L,t,none⟩) n (cap - t) ∧ Eqs B wx e L cap (t + n) u N t E told (fun _=>k) G c ∧ Below B w wx)
 case first=>
  refine wp_region_held_drew (S:=fun w'=>w'.cell? ⟨e,0,none⟩ = some (.slice (some ⟨L,0,none⟩) (t + n) cap) ∧ w'.cell? ⟨e,1,none⟩ = some (.int .i64 u) ∧ w'.cell? ⟨e,2,none⟩ = some (.slice p t q)) (by kernel_rfl) ⟨HS.out.cell 0,HS.out.cell 1,HS.out.cell 2⟩ (fun hHeld=>?_)
  replace HB:=Lib.hid (HB.out.drew)
  replace HS:=Lib.hid (HS.out.below (Below.refl _ _).drew)
  replace HE:=Lib.hid (HE.out.below (Below.refl _ _).drew)
  clear hHeld
  generalize w.drew = wd at *
  have hHeld:(fun w':World=>w'.cell? ⟨e,0,none⟩ = some (.slice (some ⟨L,0,none⟩) (t + n) cap) ∧ w'.cell? ⟨e,1,none⟩ = some (.int .i64 u) ∧ w'.cell? ⟨e,2,none⟩ = some (.slice p t q)) wd:=⟨HS.out.cell 0,HS.out.cell 1,HS.out.cell 2⟩
  refine takeY 0 (h:=?_)
  refine takeY 1 (h:=?_)
  refine takeY 2 (h:=?_)
  (try simp only [Act.put,List.setIfInBounds_toArray,List.set_cons_zero,List.set_cons_succ])
  refine takeY 3 (h:=?_)
  refine takeY 4 (h:=?_)
  refine takeY 5 (h:=?_)
  (try simp only [Act.put,List.setIfInBounds_toArray,List.set_cons_zero,List.set_cons_succ])
  refine takeY 6 (h:=?_)
  refine takeY 7 (h:=?_)
  refine takeY 8 (h:=?_)
  (try simp only [Act.put,List.setIfInBounds_toArray,List.set_cons_zero,List.set_cons_succ])
  refine takeY 9 (h:=?_)
  refine takeY 10 (h:=?_)
  (try simp only [Act.put,List.setIfInBounds_toArray,List.set_cons_zero,List.set_cons_succ])
  refine wpAnyH_done (by kernel_rfl) ?_ _
  go_wp2_with fail
  go_meet
  exact ⟨by simp,HE.out,HB.out⟩
 case rest=>
  obtain ⟨rfl,he,hb⟩:=hcut
  obtain ⟨wx,hwx⟩:=he.world
  subst hwx
  clear HE HS HB
  have HE:=Lib.hid he
  have HB:=Lib.hid hb
  obtain ⟨l0,-,l1⟩:=he.lns.cell (i:=t) (by omega)
  obtain ⟨m0,-,-⟩:=he.lns.cell (i:=t + a) (by omega)
  clear he hb
  go_upto_region 1 with (fail)
  go_cut [6] (fun rv wx=>rv = .slice (some ⟨L,t,none⟩) n (cap - t) ∧ (∃ G1 c1,Eqs B wx e L cap (t + n) u N t (swapRow E t (t + a)) told (fun _=>k) G1 c1) ∧ Below B w wx)
  case first=>
   refine wp_region_held_drew (S:=fun w'=>True) (by kernel_rfl) trivial (fun hHeld=>?_)
   replace HB:=Lib.hid (HB.out.drew)
   replace HE:=Lib.hid (HE.out.below (Below.refl _ _).drew)
   clear hHeld
   replace l0:wx.drew.cell? ⟨L,t,none⟩ = some (.slice (some ⟨G t,0,none⟩) N (c t)):=l0
   replace m0:wx.drew.cell? ⟨L,t + a,none⟩ = some (.slice (some ⟨G (t + a),0,none⟩) N (c (t + a))):=m0
   replace l1:L < wx.drew.heap.size:=l1
   generalize wx.drew = wd at *
   have hHeld:(fun w':World=>True) wd:=trivial
   refine takeY 0 (h:=?_)
   refine takeY 1 (h:=?_)
   refine takeY 2 (h:=?_)
   (try simp only [Act.put,List.setIfInBounds_toArray,List.set_cons_zero,List.set_cons_succ])
   refine takeY 3 (h:=?_)
   refine takeY 4 (h:=?_)
   refine takeY 5 (h:=?_)
   (try simp only [Act.put,List.setIfInBounds_toArray,List.set_cons_zero,List.set_cons_succ])
   refine takeY 7 (h:=?_)
   refine takeY 8 (h:=?_)
   (try simp only [Act.put,List.setIfInBounds_toArray,List.set_cons_zero,List.set_cons_succ])
   refine wpAnyH_ready (rs:=[6,9]) (by kernel_rfl) (by simp) ?_
   refine AllReadyH.cons (by (simp only [List.getElem?_toArray,List.getElem?_cons_succ,List.getElem?_cons_zero]) <;> rfl) (fun KX hK=>?_) (AllReadyH.cons (by (simp only [List.getElem?_toArray,List.getElem?_cons_succ,List.getElem?_cons_zero]) <;> rfl) (fun KX hK=>?_) AllReadyH.nil)
   ·skip
    go_simp
    clear hHeld
    refine hK.out _ _ trivial (fun hHeld=>?_)
    clear hK KX
    (try simp only [Act.put,List.setIfInBounds_toArray,List.set_cons_zero,List.set_cons_succ])
    refine wpAnyH_ready (rs:=[9]) (by kernel_rfl) (by simp) ?_
    refine AllReadyH.cons (by (simp only [List.getElem?_toArray,List.getElem?_cons_succ,List.getElem?_cons_zero]) <;> rfl) (fun KX hK=>?_) AllReadyH.nil
    go_simp
    clear hHeld
    refine hK.out _ _ trivial (fun hHeld=>?_)
    clear hK KX
    (try simp only [Act.put,List.setIfInBounds_toArray,List.set_cons_zero,List.set_cons_succ])
    refine takeY 10 (h:=?_)
    (try simp only [Act.put,List.setIfInBounds_toArray,List.set_cons_zero,List.set_cons_succ])
    refine wpAnyH_ready (rs:=[11]) (by kernel_rfl) (by simp) ?_
    refine AllReadyH.cons (by (simp only [List.getElem?_toArray,List.getElem?_cons_succ,List.getElem?_cons_zero]) <;> rfl) (fun KX hK=>?_) AllReadyH.nil
    obtain ⟨f0,f1,-⟩:=HE.out.lns.cell (i:=t) (by omega)
    have hsw:=HE.out.swap (s:=t) (a:=t + a) (by omega) (by omega)
    obtain ⟨w3,hw3⟩:∃ W,wd.setCell ⟨L,t,none⟩ (.slice (some ⟨G (t + a),0,none⟩) N (c (t + a))) = W:=⟨_,rfl⟩
    have HSW:Hid (Eqs B (w3.setCell ⟨L,t + a,none⟩ (.slice (some ⟨G t,0,none⟩) N (c t))) e L cap (t + n) u N t (swapRow E t (t + a)) told (fun _=>k) (swapN G t (t + a)) (swapN c t (t + a))):=by
     rw [← hw3]
     exact hsw.congr (fun _ _ _ _=>rfl) (fun i hi=>by rw [swapN_swap]; exact Nat.le_refl _)
    have HBS:Hid (Below B w (w3.setCell ⟨L,t + a,none⟩ (.slice (some ⟨G t,0,none⟩) N (c t)))):=by
     rw [← hw3]
     exact (HB.out.setCell (p:=⟨L,t,none⟩) HE.out.bL _).setCell (p:=⟨L,t + a,none⟩) HE.out.bL _
    obtain ⟨cur,hc1,-⟩:=HE.out.lns.cells
    have hc2:CellsAt w3 L (cur.setIfInBounds t (.slice (some ⟨G (t + a),0,none⟩) N (c (t + a)))) 113:=by rw [← hw3]; exact hc1.set t (.slice (some ⟨G (t + a),0,none⟩) N (c (t + a)))
    have g0:∃ y,w3.cell? ⟨L,t + a,none⟩ = some y:=by
     by_cases e0:a = 0
     ·subst e0
      refine ⟨_,(hc2.cell _).trans (get_put' ?_)⟩
      have:=(hc1.cell t).symm.trans l0
      exact (Array.getElem?_eq_some_iff.1 this).1
     ·exact ⟨(.slice (some ⟨G (t + a),0,none⟩) N (c (t + a))),(hc2.cell _).trans ((get_put (by omega)).trans ((hc1.cell (t + a)).symm.trans m0))⟩
    obtain ⟨y,g0⟩:=g0
    have g1:=hc2.free (t + a)
    have g2:=hc2.lt
    clear hsw hc1 hc2 f0
    go_simp
    clear hHeld HB HE l0 m0 l1 f1
    refine hK.out _ _ trivial (fun hHeld=>?_)
    clear hK KX
    (try simp only [Act.put,List.setIfInBounds_toArray,List.set_cons_zero,List.set_cons_succ])
    refine takeY 12 (h:=?_)
    (try simp only [Act.put,List.setIfInBounds_toArray,List.set_cons_zero,List.set_cons_succ])
    refine wpAnyH_ready (rs:=[13]) (by kernel_rfl) (by simp) ?_
    refine AllReadyH.cons (by (simp only [List.getElem?_toArray,List.getElem?_cons_succ,List.getElem?_cons_zero]) <;> rfl) (fun KX hK=>?_) AllReadyH.nil
    go_simp
    clear hHeld g0 g1 g2 hw3
    refine hK.out _ _ trivial (fun hHeld=>?_)
    clear hK KX hHeld
    (try simp only [Act.put,List.setIfInBounds_toArray,List.set_cons_zero,List.set_cons_succ])
    refine wpAnyH_done (by kernel_rfl) ?_ _
    go_wp2_with fail
    go_meet
    exact ⟨rfl,⟨_,_,HSW.out⟩,HBS.out⟩
   ·skip
    go_simp
    clear hHeld
    refine hK.out _ _ trivial (fun hHeld=>?_)
    clear hK KX
    (try simp only [Act.put,List.setIfInBounds_toArray,List.set_cons_zero,List.set_cons_succ])
    refine wpAnyH_ready (rs:=[6]) (by kernel_rfl) (by simp) ?_
    refine AllReadyH.cons (by (simp only [List.getElem?_toArray,List.getElem?_cons_succ,List.getElem?_cons_zero]) <;> rfl) (fun KX hK=>?_) AllReadyH.nil
    go_simp
    clear hHeld
    refine hK.out _ _ trivial (fun hHeld=>?_)
    clear hK KX
    (try simp only [Act.put,List.setIfInBounds_toArray,List.set_cons_zero,List.set_cons_succ])
    refine takeY 10 (h:=?_)
    (try simp only [Act.put,List.setIfInBounds_toArray,List.set_cons_zero,List.set_cons_succ])
    refine wpAnyH_ready (rs:=[11]) (by kernel_rfl) (by simp) ?_
    refine AllReadyH.cons (by (simp only [List.getElem?_toArray,List.getElem?_cons_succ,List.getElem?_cons_zero]) <;> rfl) (fun KX hK=>?_) AllReadyH.nil
    obtain ⟨f0,f1,-⟩:=HE.out.lns.cell (i:=t) (by omega)
    have hsw:=HE.out.swap (s:=t) (a:=t + a) (by omega) (by omega)
    obtain ⟨w3,hw3⟩:∃ W,wd.setCell ⟨L,t,none⟩ (.slice (some ⟨G (t + a),0,none⟩) N (c (t + a))) = W:=⟨_,rfl⟩
    have HSW:Hid (Eqs B (w3.setCell ⟨L,t + a,none⟩ (.slice (some ⟨G t,0,none⟩) N (c t))) e L cap (t + n) u N t (swapRow E t (t + a)) told (fun _=>k) (swapN G t (t + a)) (swapN c t (t + a))):=by
     rw [← hw3]
     exact hsw.congr (fun _ _ _ _=>rfl) (fun i hi=>by rw [swapN_swap]; exact Nat.le_refl _)
    have HBS:Hid (Below B w (w3.setCell ⟨L,t + a,none⟩ (.slice (some ⟨G t,0,none⟩) N (c t)))):=by
     rw [← hw3]
     exact (HB.out.setCell (p:=⟨L,t,none⟩) HE.out.bL _).setCell (p:=⟨L,t + a,none⟩) HE.out.bL _
    obtain ⟨cur,hc1,-⟩:=HE.out.lns.cells
    have hc2:CellsAt w3 L (cur.setIfInBounds t (.slice (some ⟨G (t + a),0,none⟩) N (c (t + a)))) 113:=by rw [← hw3]; exact hc1.set t (.slice (some ⟨G (t + a),0,none⟩) N (c (t + a)))
    have g0:∃ y,w3.cell? ⟨L,t + a,none⟩ = some y:=by
     by_cases e0:a = 0
     ·subst e0
      refine ⟨_,(hc2.cell _).trans (get_put' ?_)⟩
      have:=(hc1.cell t).symm.trans l0
      exact (Array.getElem?_eq_some_iff.1 this).1
     ·exact ⟨(.slice (some ⟨G (t + a),0,none⟩) N (c (t + a))),(hc2.cell _).trans ((get_put (by omega)).trans ((hc1.cell (t + a)).symm.trans m0))⟩
    obtain ⟨y,g0⟩:=g0
    have g1:=hc2.free (t + a)
    have g2:=hc2.lt
    clear hsw hc1 hc2 f0
    go_simp
    clear hHeld HB HE l0 m0 l1 f1
    refine hK.out _ _ trivial (fun hHeld=>?_)
    clear hK KX
    (try simp only [Act.put,List.setIfInBounds_toArray,List.set_cons_zero,List.set_cons_succ])
    refine takeY 12 (h:=?_)
    (try simp only [Act.put,List.setIfInBounds_toArray,List.set_cons_zero,List.set_cons_succ])
    refine wpAnyH_ready (rs:=[13]) (by kernel_rfl) (by simp) ?_
    refine AllReadyH.cons (by (simp only [List.getElem?_toArray,List.getElem?_cons_succ,List.getElem?_cons_zero]) <;> rfl) (fun KX hK=>?_) AllReadyH.nil
    go_simp
    clear hHeld g0 g1 g2 hw3
    refine hK.out _ _ trivial (fun hHeld=>?_)
    clear hK KX hHeld
    (try simp only [Act.put,List.setIfInBounds_toArray,List.set_cons_zero,List.set_cons_succ])
    refine wpAnyH_done (by kernel_rfl) ?_ _
    go_wp2_with fail
    go_meet
    exact ⟨rfl,⟨_,_,HSW.out⟩,HBS.out⟩
  case rest=>
   obtain ⟨rfl,⟨G1,c1,he⟩,hb⟩:=hcut
   obtain ⟨wy,hwy⟩:=he.world
   subst hwy
   clear HE HB l0 l1 m0
   have HE:=Lib.hid he
   have HB:=Lib.hid hb
   obtain ⟨l0,l2,l1⟩:=he.lns.cell (i:=t) (by omega)
   obtain ⟨b,m0,-,hf⟩:=(he.lns.line t (by omega)).cell (j:=x) (by omega)
   obtain ⟨cg,hcg,hcs,hcf⟩:=(he.lns.line t (by omega)).cells
   have hcx:cg[x]? = some (.pointer b):=(hcg.cell x).symm.trans m0
   have HCG:=Lib.hid hcg
   have HF:=Lib.hid hf
   have hcl:=(he.lns.line t (by omega)).le
   have hcm:=(he.lns.line t (by omega)).max
   unfold maxLen at hcm
   have HNE:=Lib.hid (he.lns.neL (i:=t) (by omega))
   clear he hb hf hcg hcs hcf
   go_upto_region 2 with (fail)
   go_cut [6] (fun rv wx=>rv = .slice (some ⟨L,t,none⟩) n (cap - t) ∧ (∃ G2 c2,Eqs B wx e L cap (t + n) u N t (tell1 E t (t + a) x) told (tellK1 k t) G2 c2) ∧ Below B w wx)
   case first=>
    refine wp_region_held_drew (S:=fun w'=>w'.cell? ⟨G1 t,x,none⟩ = some (.pointer b)) (by kernel_rfl) ((HCG.out.cell x).trans hcx) (fun hHeld=>?_)
    replace HB:=Lib.hid (HB.out.drew)
    replace HE:=Lib.hid (HE.out.below (Below.refl _ _).drew)
    replace HCG:=Lib.hid (HCG.out.below (Below.refl _ _).drew)
    replace HF:=Lib.hid (HF.out.below (Below.refl _ _).drew)
    clear hHeld m0
    replace l0:wy.drew.cell? ⟨L,t,none⟩ = some (.slice (some ⟨G1 t,0,none⟩) N (c1 t)):=l0
    replace l1:L < wy.drew.heap.size:=l1
    clear l2
    generalize wy.drew = wd at *
    have hHeld:(fun w':World=>w'.cell? ⟨G1 t,x,none⟩ = some (.pointer b)) wd:=((HCG.out.cell x).trans hcx)
    refine takeY 0 (h:=?_)
    refine takeY 1 (h:=?_)
    refine takeY 2 (h:=?_)
    (try simp only [Act.put,List.setIfInBounds_toArray,List.set_cons_zero,List.set_cons_succ])
    refine takeY 4 (h:=?_)
    refine takeY 5 (h:=?_)
    refine takeY 7 (h:=?_)
    (try simp only [Act.put,List.setIfInBounds_toArray,List.set_cons_zero,List.set_cons_succ])
    refine wpAnyH_ready (rs:=[3,6]) (by kernel_rfl) (by simp) ?_
    refine AllReadyH.cons (by (simp only [List.getElem?_toArray,List.getElem?_cons_succ,List.getElem?_cons_zero]) <;> rfl) (fun KX hK=>?_) (AllReadyH.cons (by (simp only [List.getElem?_toArray,List.getElem?_cons_succ,List.getElem?_cons_zero]) <;> rfl) (fun KX hK=>?_) AllReadyH.nil)
    ·skip
     go_simp
     clear hHeld
     refine hK.out _ _ ((HCG.out.cell x).trans hcx) (fun hHeld=>?_)
     clear hK KX
     (try simp only [Act.put,List.setIfInBounds_toArray,List.set_cons_zero,List.set_cons_succ])
     refine wpAnyH_ready (rs:=[6]) (by kernel_rfl) (by simp) ?_
     refine AllReadyH.cons (by (simp only [List.getElem?_toArray,List.getElem?_cons_succ,List.getElem?_cons_zero]) <;> rfl) (fun KX hK=>?_) AllReadyH.nil
     go_simp
     clear hHeld
     refine hK.out _ _ ((HCG.out.cell x).trans hcx) (fun hHeld=>?_)
     clear hK KX
     (try simp only [Act.put,List.setIfInBounds_toArray,List.set_cons_zero,List.set_cons_succ])
     refine takeY 8 (h:=?_)
     refine takeY 9 (h:=?_)
     (try simp only [Act.put,List.setIfInBounds_toArray,List.set_cons_zero,List.set_cons_succ])
     refine wpAnyH_ready (rs:=[10]) (by kernel_rfl) (by simp) ?_
     refine AllReadyH.cons (by (simp only [List.getElem?_toArray,List.getElem?_cons_succ,List.getElem?_cons_zero]) <;> rfl) (fun KX hK=>?_) AllReadyH.nil
     have hlv:=(HE.out.lns.line t (by omega)).read
     have HGE:Hid (∀ l,l < t + n → G1 l < wd.heap.size):=fun l hl=>(HE.out.lns.line l hl).lt
     have hBw:B ≤ wd.heap.size:=Nat.le_trans HBB.out HB.out.size
     have hqz:swapRow E t (t + a) t x ≠ 0:=by rw [swapRow,if_pos rfl]; exact HZ.out
     have HFU:=HF.out
     clear l0 l1
     go_simp
     with_reducible refine (Tryz.matOver N (.pointer b) _ (swapRow E t (t + a) t) (swapRow E t (t + a) t x) k k _ hlv HFU hqz (by omega) hk hk (by omega) (by omega)).mono ?_
     rintro e wd21 ⟨⟨g,rfl,hg,hge⟩,hb⟩
     have HGG:Hid (∀ l,l < t + n → G1 l ≠ g):=fun l hl=>by have:=HGE.out l hl; omega
     have hBg:B ≤ g:=by omega
     clear hge HGE hBw hlv hqz HFU
     clear hHeld
     replace HB:=Lib.hid (HB.out.trans (hb.mono (Nat.le_trans HBB.out HB.out.size)))
     replace HE:=Lib.hid (HE.out.below hb)
     replace HCG:=Lib.hid (HCG.out.below hb)
     replace HF:=Lib.hid (HF.out.below hb)
     clear hb
     have HG:=Lib.hid hg
     clear hg
     refine hK.out _ _ ((HCG.out.cell x).trans hcx) (fun hHeld=>?_)
     clear hK KX
     (try simp only [Act.put,List.setIfInBounds_toArray,List.set_cons_zero,List.set_cons_succ])
     refine takeY 11 (h:=?_)
     (try simp only [Act.put,List.setIfInBounds_toArray,List.set_cons_zero,List.set_cons_succ])
     refine wpAnyH_ready (rs:=[12]) (by kernel_rfl) (by simp) ?_
     refine AllReadyH.cons (by (simp only [List.getElem?_toArray,List.getElem?_cons_succ,List.getElem?_cons_zero]) <;> rfl) (fun KX hK=>?_) AllReadyH.nil
     obtain ⟨f0,f1,f2⟩:=HE.out.lns.cell (i:=t) (by omega)
     have HPU:Hid (Eqs B (wd21.setCell ⟨L,t,none⟩ (.slice (some ⟨g,0,none⟩) N N)) e L cap (t + n) u N t (tell1 E t (t + a) x) told (tellK1 k t) (fun l=>if l = t then g else G1 l) (fun l=>if l = t then N else c1 l)):=
      HE.out.put (f:=fun j=>swapRow E t (t + a) t j / swapRow E t (t + a) t x) (k:=k + k) (by omega) HG.out HGG.out hBg (fun j _=>by
       rw [tell1,if_pos rfl,swapRow,if_pos rfl]; rfl) (by rw [tellK1,if_pos rfl]; exact Nat.le_refl _) fun l hl e=>⟨by rw [tell1,if_neg e],by rw [tellK1,if_neg e]; exact Nat.le_refl _⟩
     have HBS:Hid (Below B w (wd21.setCell ⟨L,t,none⟩ (.slice (some ⟨g,0,none⟩) N N))):=HB.out.setCell (p:=⟨L,t,none⟩) HE.out.bL _
     have HCG2:Hid (CellsAt (wd21.setCell ⟨L,t,none⟩ (.slice (some ⟨g,0,none⟩) N N)) (G1 t) cg 30):=cells_far HCG.out (grown_setCell _ _ _ _) HNE.out
     go_simp
     clear hHeld HB HE HG HGG HCG HF f0 f1 f2
     refine hK.out _ _ ((HCG2.out.cell x).trans hcx) (fun hHeld=>?_)
     clear hK KX hHeld
     (try simp only [Act.put,List.setIfInBounds_toArray,List.set_cons_zero,List.set_cons_succ])
     refine wpAnyH_done (by kernel_rfl) ?_ _
     go_wp2_with fail
     go_meet
     exact ⟨rfl,⟨_,_,HPU.out⟩,HBS.out⟩
    ·skip
     go_simp
     clear hHeld
     refine hK.out _ _ ((HCG.out.cell x).trans hcx) (fun hHeld=>?_)
     clear hK KX
     (try simp only [Act.put,List.setIfInBounds_toArray,List.set_cons_zero,List.set_cons_succ])
     refine takeY 8 (h:=?_)
     refine takeY 9 (h:=?_)
     (try simp only [Act.put,List.setIfInBounds_toArray,List.set_cons_zero,List.set_cons_succ])
     refine wpAnyH_ready (rs:=[3]) (by kernel_rfl) (by simp) ?_
     refine AllReadyH.cons (by (simp only [List.getElem?_toArray,List.getElem?_cons_succ,List.getElem?_cons_zero]) <;> rfl) (fun KX hK=>?_) AllReadyH.nil
     go_simp
     clear hHeld
     refine hK.out _ _ ((HCG.out.cell x).trans hcx) (fun hHeld=>?_)
     clear hK KX
     (try simp only [Act.put,List.setIfInBounds_toArray,List.set_cons_zero,List.set_cons_succ])
     refine wpAnyH_ready (rs:=[10]) (by kernel_rfl) (by simp) ?_
     refine AllReadyH.cons (by (simp only [List.getElem?_toArray,List.getElem?_cons_succ,List.getElem?_cons_zero]) <;> rfl) (fun KX hK=>?_) AllReadyH.nil
     have hlv:=(HE.out.lns.line t (by omega)).read
     have HGE:Hid (∀ l,l < t + n → G1 l < wd.heap.size):=fun l hl=>(HE.out.lns.line l hl).lt
     have hBw:B ≤ wd.heap.size:=Nat.le_trans HBB.out HB.out.size
     have hqz:swapRow E t (t + a) t x ≠ 0:=by rw [swapRow,if_pos rfl]; exact HZ.out
     have HFU:=HF.out
     clear l0 l1
     go_simp
     with_reducible refine (Tryz.matOver N (.pointer b) _ (swapRow E t (t + a) t) (swapRow E t (t + a) t x) k k _ hlv HFU hqz (by omega) hk hk (by omega) (by omega)).mono ?_
     rintro e wd21 ⟨⟨g,rfl,hg,hge⟩,hb⟩
     have HGG:Hid (∀ l,l < t + n → G1 l ≠ g):=fun l hl=>by have:=HGE.out l hl; omega
     have hBg:B ≤ g:=by omega
     clear hge HGE hBw hlv hqz HFU
     clear hHeld
     replace HB:=Lib.hid (HB.out.trans (hb.mono (Nat.le_trans HBB.out HB.out.size)))
     replace HE:=Lib.hid (HE.out.below hb)
     replace HCG:=Lib.hid (HCG.out.below hb)
     replace HF:=Lib.hid (HF.out.below hb)
     clear hb
     have HG:=Lib.hid hg
     clear hg
     refine hK.out _ _ ((HCG.out.cell x).trans hcx) (fun hHeld=>?_)
     clear hK KX
     (try simp only [Act.put,List.setIfInBounds_toArray,List.set_cons_zero,List.set_cons_succ])
     refine takeY 11 (h:=?_)
     (try simp only [Act.put,List.setIfInBounds_toArray,List.set_cons_zero,List.set_cons_succ])
     refine wpAnyH_ready (rs:=[12]) (by kernel_rfl) (by simp) ?_
     refine AllReadyH.cons (by (simp only [List.getElem?_toArray,List.getElem?_cons_succ,List.getElem?_cons_zero]) <;> rfl) (fun KX hK=>?_) AllReadyH.nil
     obtain ⟨f0,f1,f2⟩:=HE.out.lns.cell (i:=t) (by omega)
     have HPU:Hid (Eqs B (wd21.setCell ⟨L,t,none⟩ (.slice (some ⟨g,0,none⟩) N N)) e L cap (t + n) u N t (tell1 E t (t + a) x) told (tellK1 k t) (fun l=>if l = t then g else G1 l) (fun l=>if l = t then N else c1 l)):=
      HE.out.put (f:=fun j=>swapRow E t (t + a) t j / swapRow E t (t + a) t x) (k:=k + k) (by omega) HG.out HGG.out hBg (fun j _=>by
       rw [tell1,if_pos rfl,swapRow,if_pos rfl]; rfl) (by rw [tellK1,if_pos rfl]; exact Nat.le_refl _) fun l hl e=>⟨by rw [tell1,if_neg e],by rw [tellK1,if_neg e]; exact Nat.le_refl _⟩
     have HBS:Hid (Below B w (wd21.setCell ⟨L,t,none⟩ (.slice (some ⟨g,0,none⟩) N N))):=HB.out.setCell (p:=⟨L,t,none⟩) HE.out.bL _
     have HCG2:Hid (CellsAt (wd21.setCell ⟨L,t,none⟩ (.slice (some ⟨g,0,none⟩) N N)) (G1 t) cg 30):=cells_far HCG.out (grown_setCell _ _ _ _) HNE.out
     go_simp
     clear hHeld HB HE HG HGG HCG HF f0 f1 f2
     refine hK.out _ _ ((HCG2.out.cell x).trans hcx) (fun hHeld=>?_)
     clear hK KX hHeld
     (try simp only [Act.put,List.setIfInBounds_toArray,List.set_cons_zero,List.set_cons_succ])
     refine wpAnyH_done (by kernel_rfl) ?_ _
     go_wp2_with fail
     go_meet
     exact ⟨rfl,⟨_,_,HPU.out⟩,HBS.out⟩
   case rest=>
    obtain ⟨rfl,⟨G2,c2,he⟩,hb⟩:=hcut
    obtain ⟨wz,hwz⟩:=he.world
    subst hwz
    clear HE HB l0 l1 l2 m0 HCG hcx HF hcl hcm HNE
    have HE:=Lib.hid he
    have HB:=Lib.hid hb
    clear he hb
    go_upto_region 3 with (fail)
    go_cut [6,44,45,46] (fun rv sv nv iv wx=>rv = .slice (some ⟨L,t,none⟩) n (cap - t) ∧ (∃ o c3,sv = .slice (some ⟨L,o,none⟩) m c3 ∧ (o = t + 1 ∨ m = 0)) ∧ nv = .int .i64 m ∧ iv = .int .i64 0 ∧ Eqs B wx e L cap (t + n) u N t (tell1 E t (t + a) x) told (tellK1 k t) G2 c2 ∧ Below B w wx)
    case first=>
     by_cases hct:cap - t = 1
     ·have HCT:=Lib.hid hct
      go_wp2_with fail
      go_meet
      exact ⟨rfl,⟨_,_,by rw [HM.out],by have h:=HM.out; omega⟩,by have h:=HM.out; simp; omega,rfl,HE.out,HB.out⟩
     ·go_wp2_with fail
      go_meet
      exact ⟨rfl,⟨_,_,by rw [HM.out],by have h:=HM.out; omega⟩,by have h:=HM.out; simp; omega,rfl,HE.out,HB.out⟩
    case rest=>
     obtain ⟨rfl,⟨o,c3,rfl,ho⟩,rfl,rfl,he,hb⟩:=hcut
     clear HE HB
     have HE:Hid (Eqs B _ e L cap (t + n) u N t (tell2 E t (t + a) x 0) told (tellK2 k t 0) G2 c2):=he.congr (fun l _ j _=>by rw [tell2_start E (by omega)]) (fun l _=>tellK2_start k t l)
     have HB:=Lib.hid hb
     have hmn:=HM.out
     clear he hb
     go_wp2_with fail
     go_loopw [46] (fun iv wr=>∃ i:Nat,iv = .int .i64 i ∧ i ≤ m ∧ Eqs B wr e L cap (t + n) u N t (tell2 E t (t + a) x i) told (tellK2 k t i) G2 c2 ∧ Below B w wr) (fun iv _=>m - (intOf iv).toNat)
     case atStart=>exact ⟨0,rfl,Nat.zero_le _,HE.out,HB.out⟩
     case round=>
      obtain ⟨i,rfl,hi,he,hb⟩:=hrel
      clear HE HB
      by_cases hlt:i < m
      ·obtain rfl:o = t + 1:=by omega
       obtain ⟨r0,-,r1⟩:=he.lns.cell (i:=t + 1 + i) (by omega)
       have hcl:=(he.lns.line (t + 1 + i) (by omega)).le
       have hcm:=(he.lns.line (t + 1 + i) (by omega)).max
       unfold maxLen at hcm
       have HE:=Lib.hid he
       have HB:=Lib.hid hb
       have i0:(0:Int) ≤ (i:Int):=by omega
       have i1:(i:Int) < (m:Int):=by omega
       clear he hb
       go_wp2_with fail
       clear r0 r1
       refine wp_region_held_drew (S:=fun w'=>w'.cell? ⟨L,t,none⟩ = some (.slice (some ⟨G2 t,0,none⟩) N (c2 t))) (by kernel_rfl) (HE.out.lns.cell (i:=t) (by omega)).1 (fun hHeld=>?_)
       replace HB:=Lib.hid (HB.out.drew)
       replace HE:=Lib.hid (HE.out.below (Below.refl _ _).drew)
       clear hHeld
       generalize wr.drew = wd at *
       have hHeld:(fun w':World=>w'.cell? ⟨L,t,none⟩ = some (.slice (some ⟨G2 t,0,none⟩) N (c2 t))) wd:=(HE.out.lns.cell (i:=t) (by omega)).1
       refine takeY 0 (h:=?_)
       refine takeY 1 (h:=?_)
       refine takeY 2 (h:=?_)
       (try simp only [Act.put,List.setIfInBounds_toArray,List.set_cons_zero,List.set_cons_succ])
       refine takeY 3 (h:=?_)
       refine takeY 6 (h:=?_)
       refine takeY 7 (h:=?_)
       (try simp only [Act.put,List.setIfInBounds_toArray,List.set_cons_zero,List.set_cons_succ])
       refine takeY 8 (h:=?_)
       (try simp only [Act.put,List.setIfInBounds_toArray,List.set_cons_zero,List.set_cons_succ])
       refine wpAnyH_ready (rs:=[4]) (by kernel_rfl) (by simp) ?_
       refine AllReadyH.cons (by (simp only [List.getElem?_toArray,List.getElem?_cons_succ,List.getElem?_cons_zero]) <;> rfl) (fun KX hK=>?_) AllReadyH.nil
       obtain ⟨b,m0,-,hf⟩:=(HE.out.lns.line (t + 1 + i) (by omega)).cell (j:=x) (by omega)
       rw [tell2_at,tellK2_at] at hf
       have HF:=Lib.hid hf
       clear hf
       go_simp
       clear hHeld m0
       refine hK.out _ _ (HE.out.lns.cell (i:=t) (by omega)).1 (fun hHeld=>?_)
       clear hK KX
       (try simp only [Act.put,List.setIfInBounds_toArray,List.set_cons_zero,List.set_cons_succ])
       refine wpAnyH_ready (rs:=[5]) (by kernel_rfl) (by simp) ?_
       refine AllReadyH.cons (by (simp only [List.getElem?_toArray,List.getElem?_cons_succ,List.getElem?_cons_zero]) <;> rfl) (fun KX hK=>?_) AllReadyH.nil
       go_simp
       with_reducible refine (Tryz.frNeg (.pointer b) _ k _ HF.out hk).mono ?_
       rintro e wd21 ⟨⟨nv,rfl,hnv⟩,hb⟩
       obtain ⟨nb,rfl⟩:=frac_pointer hnv
       clear hHeld
       replace HB:=Lib.hid (HB.out.trans (hb.mono (Nat.le_trans HBB.out HB.out.size)))
       replace HE:=Lib.hid (HE.out.below hb)
       replace HF:=Lib.hid (HF.out.below hb)
       clear hb
       have HN:=Lib.hid hnv
       clear hnv
       refine hK.out _ _ (HE.out.lns.cell (i:=t) (by omega)).1 (fun hHeld=>?_)
       clear hK KX
       (try simp only [Act.put,List.setIfInBounds_toArray,List.set_cons_zero,List.set_cons_succ])
       refine wpAnyH_ready (rs:=[9]) (by kernel_rfl) (by simp) ?_
       refine AllReadyH.cons (by (simp only [List.getElem?_toArray,List.getElem?_cons_succ,List.getElem?_cons_zero]) <;> rfl) (fun KX hK=>?_) AllReadyH.nil
       have ho:=HE.out.lns.line (t + 1 + i) (by omega)
       have hv:=(HE.out.lns.line t (by omega)).read
       have hrow:=HE.out.bG (t + 1 + i) (by omega)
       rw [tell2_at,tellK2_at] at ho
       rw [tell2_piv,tellK2_t] at hv
       have hne:∀ b o m c,Value.slice (some ⟨G2 t,0,none⟩) N (c2 t) = .slice (some ⟨b,o,none⟩) m c → 0 < m → b ≠ G2 (t + 1 + i):=fun b o m c he _ hx=>by
        simp only [Value.slice.injEq,Option.some.injEq,Addr.mk.injEq] at he
        have:=HE.out.lns.inj t (t + 1 + i) (by omega) (by omega) (he.1.1.trans hx)
        omega
       go_simp
       with_reducible refine (Tryz.matAdd (G2 (t + 1 + i)) N (c2 (t + 1 + i)) (.pointer nb) _ (swapRow E t (t + a) (t + 1 + i)) (pivF E (t + a) x) (-(swapRow E t (t + a) (t + 1 + i) x)) k k (k + k) _ ho HN.out hv hne (by omega) (by omega) hk hk (by omega) hs).mono ?_
       rintro e1 w30 ⟨rfl,hl,hg⟩
       have HE3:Hid (Eqs B w30 e L cap (t + n) u N t (tell2 E t (t + a) x (i + 1)) told (tellK2 k t (i + 1)) G2 c2):=HE.out.setLine (i:=t + 1 + i) (by omega) (by omega) hg hl (fun j _=>tell2_new E t (t + a) x i j) (tellK2_new k t i) fun l _ e=>⟨tell2_old E e,tellK2_old e⟩
       have HB3:Hid (Below B w w30):=HB.out.grown hg (Nat.le_trans HBB.out HB.out.size) (fun y hy=>by rw [← Option.some.inj hy]; exact hrow)
       clear hHeld ho hv hrow hne hl hg HE HB HF HN
       refine hK.out _ _ (HE3.out.lns.cell (i:=t) (by omega)).1 (fun hHeld=>?_)
       clear hK KX hHeld
       (try simp only [Act.put,List.setIfInBounds_toArray,List.set_cons_zero,List.set_cons_succ])
       refine wpAnyH_done (by kernel_rfl) ?_ _
       go_wp2
       go_roundw
       case rel=>exact ⟨i + 1,by go_num,by omega,HE3.out,HB3.out⟩
       case measure=>simp [intOf]; omega
      ·have e3:decide ((i:Int) < (m:Int)) = false:=by simp; omega
       have e3':decide (i < m) = false:=by simpa using hlt
       obtain rfl:i = m:=by omega
       have he2:Eqs B wr e L cap (t + n) u N t (tellF E t (t + a) x) told (fun _=>4 * k + 1) G2 c2:=he.congr (fun l hl j _=>by rw [tell2,if_pos (by omega)]) (fun l _=>tellK2_end k t i l)
       obtain ⟨tv,vp,vn,vc,w',y0,y1,hrun,⟨y,y2⟩,y3,hg,hbb⟩:=Tryz.pushTold 22 he2 x (by omega) (by omega) (Nat.le_trans HBB.out hb.size)
       have HEN:=Lib.hid hg
       have HBN:=Lib.hid (hb.trans hbb)
       clear he hb he2 hg hbb
       go_wp2_with (at_builtin; refine wpList_append rfl (.tmp 65) (.tmp 67) 22 rfl rfl rfl hrun ?_)
       go_end0
       exact ⟨rfl,⟨_,_,HEN.out⟩,HBN.out⟩
end Go.Proofs.Mt
namespace Go.Proofs.Mt
open Go.RowKit Go.Proofs.Wd Go.Proofs.Fr Go.Proofs.Vt Go.Proofs.Mm
/-- What eliminate comes to. -/
def Elim (B:Nat) (w:World) (e L cap R u N k:Nat) (E:F):Prop:=
 ∃ t E' told G c,Eqs B w e L cap R u N t E' told (fun _=>gr k t) G c ∧ RowEq E E' R N ∧ Ech E' told t R u ∧ Bare E' t R u
theorem gr_step (k t:Nat):gr k (t + 1) = 4 * gr k t + 1:=rfl
theorem Tryz.matEliminate (B e L cap R u N k:Nat) (E:F) (told G c:Nat → Nat) (w:World) (h:Eqs B w e L cap R u N 0 E told (fun _=>k) G c) (hu:u ≤ N) (hR:R ≤ 1000) (hN:N ≤ 1000) (hk:1 ≤ k) (hs:gr k u ≤ 30000000000) (hB:B ≤ w.heap.size) :
 Calls Tryz.prog 83 #[.pointer (some ⟨e,0,none⟩)] w fun r w'=>r = .returned (.tuple #[]) ∧ Elim B w' e L cap R u N k E ∧ Below B w w':=by
 have HE:=Lib.hid h
 have HBB:=Lib.hid hB
 have HS:=Lib.hid hs
 clear h hB
 go_enter Tryz.func83,Tryz.ntmps83
 go_wp2_with fail
 go_loopg [2,3,4] R (fun g _ _ _ wr=>∃ t E' told G c,t + g = R ∧ Eqs B wr e L cap R u N t E' told (fun _=>gr k t) G c ∧ RowEq E E' R N ∧ Ech E' told t R u ∧ Below B w wr)
 case atStart=>exact ⟨0,E,told,G,c,by omega,HE.out,RowEq.refl _ _ _,Ech.start _ _ _ _,Below.refl _ _⟩
 case round=>
  obtain ⟨t,E',told',G',c',htg,he,heq,hec,hb⟩:=hrel
  clear HE
  have HE:=Lib.hid he
  have HQ:=Lib.hid heq
  have HC:=Lib.hid hec
  have HB:=Lib.hid hb
  clear he heq hec hb
  go_wp2_with fail
  with_reducible refine (Tryz.matPick B e L cap R u N t gk E' told' (fun _=>gr k t) G' c' _ HE.out htg hu hR hN).mono ?_
  rintro e1 w1 ⟨⟨a,x,ok,rfl,hp⟩,hb⟩
  have HE1:=Lib.hid (HE.out.below hb)
  have HB1:=Lib.hid (HB.out.trans (hb.mono (Nat.le_trans HBB.out HB.out.size)))
  clear hb HE HB
  cases ok
  ·have HR : Hid (Elim B w1 e L cap R u N k E) := ⟨t, E', told', G', c', HE1.out, HQ.out, HC.out, fun l y hl hlm hy => by
    have:=(hp.2 rfl).1 (l - t) y (by omega) hy
    rwa [show t + (l - t) = l by omega] at this⟩
   clear hp HE1 HQ HC
   go_wp2
   exact bodyPost_ret (v:=.tuple #[]) (by simp [results,Tryz.results83,go_sem]; try rfl) rfl ⟨rfl,HR.out,HB1.out⟩
  ·obtain ⟨ha,hx,hz⟩:=hp.1 rfl
   have htu:=(tell_ech HC.out (by omega) (Nat.le_add_right t a) (by omega) hx hz).tu
   have hgr:gr k (t + 1) ≤ gr k u:=gr_le htu
   rw [gr_step] at hgr
   have HQ2:Hid (RowEq E (tellF E' t (t + a) x) R N):=HQ.out.trans (tell_eq (by omega) (Nat.le_add_right t a) (by omega) hz)
   have HC2:=Lib.hid (tell_ech HC.out (by omega) (Nat.le_add_right t a) (by omega) hx hz)
   have HZ:=Lib.hid hz
   have hs4:gr k t + gr k t + (gr k t + gr k t) + 1 ≤ 30000000000:=by omega
   have hg1:1 ≤ gr k t:=gr_pos hk
   clear hp hz HQ HC hgr
   go_wp2_with fail
   with_reducible refine (Tryz.matTell B e L cap R u N t gk a x (gr k t) E' told' G' c' _ HE1.out htg ha hx HZ.out hu hR hN hg1 hs4 (Nat.le_trans HBB.out HB1.out.size)).mono ?_
   rintro e2 w2 ⟨rfl,⟨G2,c2,he2⟩,hb2⟩
   have HE2:=Lib.hid he2
   have HB2:=Lib.hid (HB1.out.trans hb2)
   clear he2 hb2 HE1 HB1 HZ
   go_wp2
   go_roundg (gk - 1)
   case measure=>omega
   case rel=>exact ⟨t + 1,_,_,G2,c2,by omega,HE2.out,HQ2.out,HC2.out,HB2.out⟩
/-- One line of the call's own more. -/
theorem LnsAt.grow {w:World} {L cap i N g cg k:Nat} {E:F} {K G c:Nat → Nat} (h:LnsAt w L cap i N E K G c) (hi:i < cap) (ho:Odd w L) (hl:LineO w g N cg (E i) k) (hg:∀ l,l < i → G l ≠ g) (hk:k ≤ K i) :
 LnsAt (w.setCell ⟨L,i,none⟩ (.slice (some ⟨g,0,none⟩) N cg)) L cap (i + 1) N E K (fun l=>if l = i then g else G l) (fun l=>if l = i then cg else c l):=by
 obtain ⟨cur,h1,h2,h3⟩:=h.cells
 have hlL:g ≠ L:=hl.ne h1 (by decide)
 refine ⟨hi,h.max,⟨_,h1.set i _,by simp [h2],fun l hl'=>?_⟩,fun l hl'=>?_,fun a b ha hb hab=>?_⟩
 ·by_cases e:l = i
  ·simp only [e,if_true]; exact get_put' (by omega)
  ·simp only [e,if_false]; rw [get_put (fun x=>e x.symm)]; exact h3 l (by omega)
 ·by_cases e:l = i
  ·simp only [e,if_true]; exact (hl.far (grown_setCell _ _ _ _) ho hlL).congr (fun _ _=>rfl) hk
  ·simp only [e,if_false]; exact (h.line l (by omega)).far (grown_setCell _ _ _ _) ho (h.neL (by omega))
 ·by_cases ea:a = i <;> by_cases eb:b = i <;> simp only [ea,eb,if_true,if_false] at hab
  ·rw [ea,eb]
  ·exact absurd hab.symm (hg b (by omega))
  ·exact absurd hab (hg a (by omega))
  ·exact h.inj a b (by omega) (by omega) hab
theorem LnsAt.none {w:World} {L cap N:Nat} {E:F} {K G c:Nat → Nat} {cur:Array Value} (h:CellsAt w L cur 113) (h2:cur.size = cap) (hm:cap ≤ maxLen):LnsAt w L cap 0 N E K G c:=
 ⟨Nat.zero_le _,hm,⟨cur,h,h2,fun i hi=>by omega⟩,fun i hi=>by omega,fun i j hi=>by omega⟩
/-- The right sides. -/
def RightR (w:World) (g R r:Nat) (Rt:F) (k:Nat):Prop:=∃ cur,CellsAt w g cur 113 ∧ ∀ i,i < R → ∃ p c,cur[i]? = some (.slice p r c) ∧ LineN w (.slice p r c) r (Rt i) k
theorem RightR.below {w w':World} {g R r k:Nat} {Rt:F} (h:RightR w g R r Rt k) (hb:Below w.heap.size w w'):RightR w' g R r Rt k:=by
 obtain ⟨cur,h1,h2⟩:=h
 refine ⟨cur,h1.below hb,fun i hi=>?_⟩
 obtain ⟨p,c,a,b⟩:=h2 i hi
 exact ⟨p,c,a,b.below hb⟩
theorem RightR.nth {w:World} {g R r k i:Nat} {Rt:F} (h:RightR w g R r Rt k) (hi:i < R):∃ p c,w.cell? ⟨g,i,none⟩ = some (.slice p r c) ∧ LineN w (.slice p r c) r (Rt i) k ∧ g < w.heap.size:=by
 obtain ⟨cur,h1,h2⟩:=h
 obtain ⟨p,c,a,b⟩:=h2 i hi
 exact ⟨p,c,(h1.cell i).trans a,b,h1.lt⟩
/-- What is not yet changed. -/
def Rest (w:World) (L i R C:Nat) (M:F) (k:Nat):Prop:=∀ j,i ≤ j → j < R → ∃ p c,w.cell? ⟨L,j,none⟩ = some (.slice p C c) ∧ LineR w (.slice p C c) C (M j) k
theorem cellOf {w w':World} (h:Below w.heap.size w w') {a:Addr} {v:Value} (hc:w.cell? a = some v):w'.cell? a = some v:=by
 rw [h.cell (World.block_lt_of_cell? w a hc)]
 exact hc
/-- Lines that are lengthened: the first i are done. -/
structure Bes (B:Nat) (w:World) (L cap R i C N:Nat) (E M:F) (k:Nat) (G c:Nat → Nat):Prop where
 lns:LnsAt w L cap i N E (fun _=>k) G c
 rest:Rest w L i R C M k
 hR:R ≤ cap
 bL:B ≤ L
 bG:∀ l,l < i → B ≤ G l
theorem Bes.below {B:Nat} {w w':World} {L cap R i C N k:Nat} {E M:F} {G c:Nat → Nat} (h:Bes B w L cap R i C N E M k G c) (hb:Below w.heap.size w w'):Bes B w' L cap R i C N E M k G c:=
 ⟨h.lns.below hb,fun j h1 h2=>by
  obtain ⟨p,c,a,b⟩:=h.rest j h1 h2
  exact ⟨p,c,cellOf hb a,b.below hb⟩,h.hR,h.bL,h.bG⟩
theorem Bes.odd {B:Nat} {w:World} {L cap R i C N k:Nat} {E M:F} {G c:Nat → Nat} (h:Bes B w L cap R i C N E M k G c) (hi:i < R) (hC:0 < C):Odd w L:=by
 by_cases e:i = 0
 ·subst e
  obtain ⟨cur,h1,-⟩:=h.lns.cells
  obtain ⟨p,c,a,b⟩:=h.rest 0 (Nat.le_refl _) hi
  refine ⟨cur,_,h1,by decide,fun u hu=>?_⟩
  have:=(h1.cell 0).symm.trans a
  rw [hu] at this
  rw [Option.some.inj this]
  exact b.oddv hC
 ·exact h.lns.odd (by omega)
theorem Bes.step {B:Nat} {w:World} {L cap R i C N k g cg:Nat} {E M:F} {G c:Nat → Nat} (h:Bes B w L cap R i C N E M k G c) (hi:i < R) (hC:0 < C) (hl:LineO w g N cg (E i) k) (hg:∀ l,l < i → G l ≠ g) (hB:B ≤ g) :
 Bes B (w.setCell ⟨L,i,none⟩ (.slice (some ⟨g,0,none⟩) N cg)) L cap R (i + 1) C N E M k (fun l=>if l = i then g else G l) (fun l=>if l = i then cg else c l):=by
 have ho:=h.odd hi hC
 obtain ⟨cur,h1,h2,h3⟩:=h.lns.cells
 refine ⟨h.lns.grow (Nat.lt_of_lt_of_le hi h.hR) ho hl hg (Nat.le_refl _),fun j h4 h5=>?_,h.hR,h.bL,fun l hl'=>?_⟩
 ·obtain ⟨p,c,a,b⟩:=h.rest j (by omega) h5
  exact ⟨p,c,((h1.set i _).cell j).trans ((get_put (by omega)).trans ((h1.cell j).symm.trans a)),b.far (grown_setCell _ _ _ _) ho (b.other h1 (by decide))⟩
 ·by_cases e:l = i
  ·simp only [e,if_true]; exact hB
  ·simp only [e,if_false]; exact h.bG l (by omega)
theorem Bes.start {B:Nat} {w:World} {L R cap C N k:Nat} {E M:F} (h:OwnM B w L R cap C M k):Bes B w L cap R 0 C N E M k (fun _=>0) (fun _=>0):=by
 obtain ⟨cur,h1,h2,h3,h4,h5,h6⟩:=h
 refine ⟨LnsAt.none h1 h2 h4,fun j _ hj=>?_,h3,h5,fun l hl=>by omega⟩
 obtain ⟨u,a,b⟩:=h6 j hj
 obtain ⟨p,c,rfl,-⟩:=b.slice
 exact ⟨p,c,(h1.cell j).trans a,b⟩
theorem Bes.done {B:Nat} {w:World} {e L cap R C N k:Nat} {E M:F} {G c:Nat → Nat} (told:Nat → Nat) (h:Bes B w L cap R R C N E M k G c) (he:CellsAt w e #[.slice (some ⟨L,0,none⟩) R cap,.int .i64 C,.slice none 0 0] 126) (hB:B ≤ e):Eqs B w e L cap R C N 0 E told (fun _=>k) G c:=
 ⟨h.lns,⟨_,[],he,World.ownsRow_nil _ _ _ _,fun _=>rfl,fun j hj=>by omega⟩,hB,h.bL,h.bG⟩
theorem Tryz.matBeside (v:Value) (gr R C r k:Nat) (M Rt:F) (w:World) (hv:MatR w v R C M k) (hr:RightR w gr R r Rt k) (hR0:0 < R) (hR:R ≤ 1000) (hC0:0 < C) (hC:C + r ≤ 1000) (told:Nat → Nat) :
 Calls Tryz.prog 81 #[v,.slice (some ⟨gr,0,none⟩) R R] w fun q w'=>(∃ e L cap G c,q = .returned (.pointer (some ⟨e,0,none⟩)) ∧ Eqs w.heap.size w' e L cap R C (C + r) 0 (fun i=>catF (M i) (Rt i) C) told (fun _=>k) G c) ∧ Below w.heap.size w w':=by
 have HM:=Lib.hid hv
 have HR:=Lib.hid hr
 have hgr1:gr < w.heap.size:=by obtain ⟨cur,h1,-⟩:=hr; exact h1.lt
 obtain ⟨N,hN⟩:∃ N,C + r = N:=⟨_,rfl⟩
 have HN:=Lib.hid hN
 rw [hN] at hC ⊢
 clear hv hr hN
 go_enter Tryz.func81,Tryz.ntmps81
 go_wp2_with fail
 with_reducible refine (Tryz.matAll v R C M k _ HM.out).mono ?_
 rintro e1 w1 ⟨⟨s,rfl,hs⟩,rfl⟩
 have HS:=Lib.hid hs
 clear hs
 go_wp2_with fail
 with_reducible refine (Tryz.cloneM s R C M k _ HS.out hR0 hR).mono ?_
 rintro e2 w2 ⟨⟨L,cap,rfl,ho⟩,hb⟩
 have HO:=Lib.hid ho
 have HB:=Lib.hid hb
 have hRc:R ≤ cap:=by obtain ⟨cur,h1,h2,h3,h4,-⟩:=ho; exact h3
 have hcm:cap ≤ maxLen:=by obtain ⟨cur,h1,h2,h3,h4,-⟩:=ho; exact h4
 unfold maxLen at hcm
 clear ho hb HS
 obtain ⟨w3,hw3⟩:∃ W,w2.alloc (.cells #[.slice (some ⟨L,0,none⟩) R cap,.int .i64 0,.slice none 0 0] 126) = W:=⟨_,rfl⟩
 obtain ⟨e0,he0⟩:∃ e0,w2.heap.size = e0:=⟨_,rfl⟩
 have hE3:CellsAt w3 e0 #[.slice (some ⟨L,0,none⟩) R cap,.int .i64 0,.slice none 0 0] 126:=by rw [← hw3,← he0]; exact CellsAt.new _ _ _ rfl
 have hal:Below w2.heap.size w2 w3:=by rw [← hw3]; exact (Below.refl _ _).alloc (Nat.le_refl _) _
 have HO3:=Lib.hid (HO.out.below hal)
 have HB3:=Lib.hid (HB.out.trans (hal.mono HB.out.size))
 have HE3:=Lib.hid hE3
 have hwe:w1.heap.size ≤ e0:=by rw [← he0]; exact HB.out.size
 clear hE3 hal HO HB
 go_wp2_with fail
 clear hw3 he0
 with_reducible refine (Tryz.matSize v R C M k _ (HM.out.below HB3.out)).mono ?_
 rintro e3 w4 ⟨rfl,hb⟩
 have HO4:=Lib.hid (HO3.out.below hb)
 have HB4:=Lib.hid (HB3.out.trans (hb.mono HB3.out.size))
 have HE4:=Lib.hid (HE3.out.below hb)
 clear hb HO3 HB3 HE3
 obtain ⟨w5,hw5⟩:∃ W,w4.setCell ⟨e0,1,none⟩ (.int .i64 C) = W:=⟨_,rfl⟩
 have d0:=HE4.out.cell 1
 have d1:=HE4.out.free 1
 have d2:=HE4.out.lt
 simp only [List.getElem?_toArray,List.getElem?_cons_zero,List.getElem?_cons_succ] at d0
 have HE5:Hid (CellsAt w5 e0 #[.slice (some ⟨L,0,none⟩) R cap,.int .i64 C,.slice none 0 0] 126):=by
  rw [← hw5]
  have:=HE4.out.set 1 (.int .i64 C)
  simpa [Hid] using this
 have HB5:Hid (Below w1.heap.size w1 w5):=by rw [← hw5]; exact HB4.out.setCell (p:=⟨e0,1,none⟩) hwe _
 have hodd:Odd w4 e0:=by
  refine ⟨_,_,HE4.out,by decide,fun y hy=>?_⟩
  obtain rfl:Value.slice (some ⟨L,0,none⟩) R cap = y:=by simpa using hy
  obtain ⟨cur,g1,-⟩:=HO4.out
  exact .inr (.inr (.inl ⟨_,_,_,_,cur,_,rfl,g1,by decide⟩))
 have HS5:Hid (Bes w1.heap.size w5 L cap R 0 C N (fun i=>catF (M i) (Rt i) C) M k (fun _=>0) (fun _=>0)):=by
  refine Bes.start ?_
  obtain ⟨cur,g1,g2,g3,g4,g5,g6⟩:=HO4.out
  refine ⟨cur,cells_far g1 (by rw [← hw5]; exact grown_setCell _ _ _ _) (cells_ne g1 HE4.out (by decide)),g2,g3,g4,g5,fun i hi=>?_⟩
  obtain ⟨u,u1,u2⟩:=g6 i hi
  exact ⟨u,u1,by rw [← hw5]; exact u2.far (grown_setCell _ _ _ _) hodd (u2.other HE4.out (by decide))⟩
 have s0:=HE5.out.cell 0
 have s1:=HE5.out.lt
 simp only [List.getElem?_toArray,List.getElem?_cons_zero] at s0
 clear hodd HE4 HB4 HO4
 go_wp2_with fail
 clear hw5 d0 d1 d2 s0 s1
 go_loopw [25] (fun iv wr=>∃ (i:Nat) (G c:Nat → Nat),iv = .int .i64 i ∧ i ≤ R ∧ Bes w1.heap.size wr L cap R i C N (fun i=>catF (M i) (Rt i) C) M k G c ∧ CellsAt wr e0 #[.slice (some ⟨L,0,none⟩) R cap,.int .i64 C,.slice none 0 0] 126 ∧ Below w1.heap.size w1 wr) (fun iv _=>R - (intOf iv).toNat)
 case atStart=>exact ⟨0,_,_,rfl,Nat.zero_le _,HS5.out,HE5.out,HB5.out⟩
 case round=>
  obtain ⟨i,G,c,rfl,hi,hs,he,hb⟩:=hrel
  clear HS5 HE5 HB5
  have HS:=Lib.hid hs
  have HE:=Lib.hid he
  have HB:=Lib.hid hb
  by_cases hlt:i < R
  ·obtain ⟨p2,c2,-,-,-⟩:=(HR.out.below hb).nth hlt
   have i0:(0:Int) ≤ (i:Int):=by omega
   have i1:(i:Int) < (R:Int):=by omega
   obtain ⟨p2,c2,m2,hn2,hg2⟩:=(HR.out.below hb).nth hlt
   have HN2:=Lib.hid hn2
   clear hs he hb hn2
   go_wp2_with fail
   refine wp_region_held_drew (S:=fun w'=>w'.cell? ⟨e0,0,none⟩ = some (.slice (some ⟨L,0,none⟩) R cap) ∧ w'.cell? ⟨gr,i,none⟩ = some (.slice p2 r c2)) (by kernel_rfl) ⟨HE.out.cell 0,m2⟩ (fun hHeld=>?_)
   replace HB:=Lib.hid (HB.out.drew)
   replace HE:=Lib.hid (HE.out.below (Below.refl _ _).drew)
   replace HS:=Lib.hid (HS.out.below (Below.refl _ _).drew)
   replace HN2:=Lib.hid (HN2.out.below (Below.refl _ _).drew)
   clear hHeld
   replace m2:wr.drew.cell? ⟨gr,i,none⟩ = some (.slice p2 r c2):=m2
   replace hg2:gr < wr.drew.heap.size:=hg2
   generalize wr.drew = wd at *
   have hHeld:(fun w':World=>w'.cell? ⟨e0,0,none⟩ = some (.slice (some ⟨L,0,none⟩) R cap) ∧ w'.cell? ⟨gr,i,none⟩ = some (.slice p2 r c2)) wd:=⟨HE.out.cell 0,m2⟩
   refine takeY 0 (h:=?_)
   refine takeY 1 (h:=?_)
   refine takeY 2 (h:=?_)
   (try simp only [Act.put,List.setIfInBounds_toArray,List.set_cons_zero,List.set_cons_succ])
   refine takeY 3 (h:=?_)
   refine takeY 4 (h:=?_)
   refine takeY 5 (h:=?_)
   (try simp only [Act.put,List.setIfInBounds_toArray,List.set_cons_zero,List.set_cons_succ])
   refine takeY 6 (h:=?_)
   refine takeY 7 (h:=?_)
   refine takeY 8 (h:=?_)
   (try simp only [Act.put,List.setIfInBounds_toArray,List.set_cons_zero,List.set_cons_succ])
   refine takeY 9 (h:=?_)
   refine takeY 10 (h:=?_)
   refine takeY 12 (h:=?_)
   (try simp only [Act.put,List.setIfInBounds_toArray,List.set_cons_zero,List.set_cons_succ])
   refine takeY 13 (h:=?_)
   refine takeY 14 (h:=?_)
   refine takeY 15 (h:=?_)
   (try simp only [Act.put,List.setIfInBounds_toArray,List.set_cons_zero,List.set_cons_succ])
   refine wpAnyH_ready (rs:=[11]) (by kernel_rfl) (by simp) ?_
   refine AllReadyH.cons (by (simp only [List.getElem?_toArray,List.getElem?_cons_succ,List.getElem?_cons_zero]) <;> rfl) (fun KX hK=>?_) AllReadyH.nil
   obtain ⟨p1,c1,m1,hl1⟩:=HS.out.rest i (Nat.le_refl _) hlt
   have HL1:=Lib.hid hl1
   clear hl1
   go_simp
   clear hHeld m1
   refine hK.out _ _ ⟨HE.out.cell 0,m2⟩ (fun hHeld=>?_)
   clear hK KX
   (try simp only [Act.put,List.setIfInBounds_toArray,List.set_cons_zero,List.set_cons_succ])
   refine wpAnyH_ready (rs:=[16]) (by kernel_rfl) (by simp) ?_
   refine AllReadyH.cons (by (simp only [List.getElem?_toArray,List.getElem?_cons_succ,List.getElem?_cons_zero]) <;> rfl) (fun KX hK=>?_) AllReadyH.nil
   have hb:Below wd.heap.size wd (wd.alloc (.cells #[.slice p1 C c1,.slice p2 r c2] 113)):=(Below.refl _ _).alloc (Nat.le_refl _) _
   have hcb:=CellsAt.new wd #[.slice p1 C c1,.slice p2 r c2] 113 rfl
   obtain ⟨gb,hgb⟩:∃ gb,wd.heap.size = gb:=⟨_,rfl⟩
   obtain ⟨w8,hw8⟩:∃ W,wd.alloc (.cells #[.slice p1 C c1,.slice p2 r c2] 113) = W:=⟨_,rfl⟩
   rw [hw8] at hb hcb
   rw [hgb] at hcb
   clear hHeld
   go_simp
   clear hw8 hgb
   have HCB:=Lib.hid hcb
   clear hcb
   replace m2:=cellOf hb m2
   replace HB:=Lib.hid (HB.out.trans (hb.mono HB.out.size))
   replace HE:=Lib.hid (HE.out.below hb)
   replace HS:=Lib.hid (HS.out.below hb)
   replace HN2:=Lib.hid (HN2.out.below hb)
   replace HL1:=Lib.hid (HL1.out.below hb)
   clear hb
   refine hK.out _ _ ⟨HE.out.cell 0,m2⟩ (fun hHeld=>?_)
   clear hK KX
   (try simp only [Act.put,List.setIfInBounds_toArray,List.set_cons_zero,List.set_cons_succ])
   refine wpAnyH_ready (rs:=[17]) (by kernel_rfl) (by simp) ?_
   refine AllReadyH.cons (by (simp only [List.getElem?_toArray,List.getElem?_cons_succ,List.getElem?_cons_zero]) <;> rfl) (fun KX hK=>?_) AllReadyH.nil
   have HLT:Hid (∀ l,l < i → G l < w8.heap.size):=fun l hl=>(HS.out.lns.line l hl).lt
   have HBG:=Lib.hid HB.out.size
   go_simp
   with_reducible refine (Tryz.concatL gb _ _ C r (M i) (Rt i) k _ HCB.out HL1.out HN2.out hC0 (by have:=HN.out; omega)).mono ?_
   rintro e w21 ⟨⟨g,cg,rfl,hg,hge⟩,hb⟩
   rw [HN.out] at hg ⊢
   have HG:=Lib.hid hg
   have HGE:=Lib.hid hge
   clear hg hge
   clear hHeld
   replace m2:=cellOf hb m2
   replace HB:=Lib.hid (HB.out.trans (hb.mono HB.out.size))
   replace HE:=Lib.hid (HE.out.below hb)
   replace HS:=Lib.hid (HS.out.below hb)
   replace HN2:=Lib.hid (HN2.out.below hb)
   replace HL1:=Lib.hid (HL1.out.below hb)
   replace HCB:=Lib.hid (HCB.out.below hb)
   clear hb
   refine hK.out _ _ ⟨HE.out.cell 0,m2⟩ (fun hHeld=>?_)
   clear hK KX
   (try simp only [Act.put,List.setIfInBounds_toArray,List.set_cons_zero,List.set_cons_succ])
   refine takeY 18 (h:=?_)
   (try simp only [Act.put,List.setIfInBounds_toArray,List.set_cons_zero,List.set_cons_succ])
   refine wpAnyH_ready (rs:=[19]) (by kernel_rfl) (by simp) ?_
   refine AllReadyH.cons (by (simp only [List.getElem?_toArray,List.getElem?_cons_succ,List.getElem?_cons_zero]) <;> rfl) (fun KX hK=>?_) AllReadyH.nil
   have hST:=HS.out.step hlt hC0 HG.out (fun l hl=>by have:=HLT.out l hl; have:=HGE.out; omega) (Nat.le_trans HBG.out HGE.out)
   have HST:=Lib.hid hST
   obtain ⟨cur,k1,-⟩:=HS.out.lns.cells
   have HE9:Hid (CellsAt (w21.setCell ⟨L,i,none⟩ (.slice (some ⟨g,0,none⟩) N cg)) e0 #[.slice (some ⟨L,0,none⟩) R cap,.int .i64 C,.slice none 0 0] 126):=cells_far HE.out (grown_setCell _ _ _ _) (cells_ne HE.out k1 (by decide))
   have HB9:Hid (Below w1.heap.size w1 (w21.setCell ⟨L,i,none⟩ (.slice (some ⟨g,0,none⟩) N cg))):=HB.out.setCell (p:=⟨L,i,none⟩) HS.out.bL _
   obtain ⟨p1',c1',m1,-⟩:=HS.out.rest i (Nat.le_refl _) hlt
   have f1:=k1.free i
   have f2:=k1.lt
   have m9:(w21.setCell ⟨L,i,none⟩ (.slice (some ⟨g,0,none⟩) N cg)).cell? ⟨gr,i,none⟩ = some (.slice p2 r c2):=by
    obtain ⟨p2',c2',m2',-,-⟩:=(HR.out.below HB9.out).nth hlt
    obtain ⟨p3',c3',m3',-,-⟩:=(HR.out.below HB.out).nth hlt
    rw [m2']
    have a1:=(HB9.out.cell (p:=⟨gr,i,none⟩) hgr1)
    have a2:=(HB.out.cell (p:=⟨gr,i,none⟩) hgr1)
    rw [← m2',a1,← a2,m2]
   go_simp
   clear hHeld HB HE HS HG HGE HLT HBG HL1 HN2 HCB m1 f1 f2 k1 m2 hST
   refine hK.out _ _ ⟨HE9.out.cell 0,m9⟩ (fun hHeld=>?_)
   clear hK KX hHeld m9
   (try simp only [Act.put,List.setIfInBounds_toArray,List.set_cons_zero,List.set_cons_succ])
   refine wpAnyH_done (by kernel_rfl) ?_ _
   go_wp2
   go_roundw
   case rel=>exact ⟨i + 1,_,_,by go_num,by omega,HST.out,HE9.out,HB9.out⟩
   case measure=>simp [intOf]; omega
  ·have e3:decide ((i:Int) < (R:Int)) = false:=by simp; omega
   have e3':decide (i < R) = false:=by simpa using hlt
   obtain rfl:i = R:=by omega
   have HR9:=Lib.hid (hs.done told he hwe)
   clear hs he hb HS HE
   go_wp2
   go_ret
   exact ⟨⟨e0,L,cap,G,c,rfl,HR9.out⟩,HB.out⟩
end Go.Proofs.Mt
namespace Go.Proofs.Mt
open Go.RowKit Go.Proofs.Wd Go.Proofs.Fr Go.Proofs.Vt Go.Proofs.Mm
/-- What stands in a line behind the add of a part. -/
def addH (f fw:Nat → Rat) (q:Rat) (o:Nat):Nat → Rat:=fun x=>if x < o then f x else f x + q * fw (x - o)
def addG (f fw:Nat → Rat) (q:Rat) (o i:Nat):Nat → Rat:=fun x=>if o ≤ x ∧ x < o + i then f x + q * fw (x - o) else f x
theorem Tryz.matAddAt (g N o n cap:Nat) (u v:Value) (f fw:Nat → Rat) (q:Rat) (k i j:Nat) (w:World) (ho:LineO w g N cap f k) (hon:o + n = N) (hu:FracIs w u q i) (hv:LineR w v n fw j) (hne:∀ b o m c,v = .slice (some ⟨b,o,none⟩) m c → 0 < m → b ≠ g) (hn:0 < n) (hn9:n ≤ 1000) (hk:1 ≤ k) (hi:1 ≤ i) (hj:1 ≤ j) (hs:k + i + j + 1 ≤ 30000000000) :
 Calls Tryz.prog 79 #[.slice (some ⟨g,o,none⟩) n (cap - o),u,v] w fun e w'=>e = .returned (.tuple #[]) ∧ LineO w' g N cap (addH f fw q o) (k + i + j + 1) ∧ w.grownBy w' (some g):=by
 have HODD:=Lib.hid (ho.odd (by omega))
 have HO:=Lib.hid ho
 have HU:=Lib.hid hu
 have HV:=Lib.hid hv
 have HNE:=Lib.hid hne
 have hc:=ho.le
 have hc9:=ho.max
 obtain ⟨p,cap2,rfl,c1,c2⟩:=hv.slice
 obtain ⟨ua,rfl⟩:=frac_pointer hu
 unfold maxLen at c2 hc9
 obtain ⟨s,hs0⟩:∃ s:Int,q.num.sign = s:=⟨_,rfl⟩
 have e0:(s == 0) = decide (q = 0):=by rw [← hs0,Bool.eq_iff_iff]; simp
 have HSG:Hid (∀ W,FracIs W (.pointer ua) q i → Calls Tryz.prog 64 #[.pointer ua] W fun e w'=>e = .returned (.int .i64 s) ∧ Below W.heap.size W w'):=fun W h=>by
  have:=Tryz.Sign (.pointer ua) q i W h
  rw [hs0] at this
  exact this
 have HSZ:Hid (∀ x,x < n → Sz (f (o + x)) k):=fun x hx=>by
  obtain ⟨a,-,-,h⟩:=ho.cell (j:=o + x) (by omega)
  exact h.sz hk
 clear ho hu hv hne hs0
 go_enter Tryz.func79,Tryz.ntmps79
 go_wp2_with fail
 with_reducible refine (HSG.out _ HU.out).mono ?_
 rintro e w1 ⟨rfl,hb1⟩
 have HG1:=Lib.hid (grown_of_below hb1 (some g))
 have HO1:=Lib.hid (HO.out.below hb1)
 clear hb1 HSG HO
 by_cases hq:q = 0
 ·have e1:decide (q = 0) = true:=by simpa using hq
  have HR:Hid (LineO w1 g N cap (addH f fw q o) (k + i + j + 1)):=HO1.out.congr (fun x _=>by rw [addH,hq]; split <;> simp [Rat.zero_mul,Rat.add_zero]) (by omega)
  clear hq HO1 HNE
  go_wp2
  exact bodyPost_ret (v:=.tuple #[]) (by simp [results,Tryz.results79,go_sem]; try rfl) rfl ⟨rfl,HR.out,HG1.out⟩
 ·have e1:decide (q = 0) = false:=by simpa using hq
  clear hq
  go_wp2_with fail
  go_loopw [13] (fun iv wr=>∃ x:Nat,iv = .int .i64 x ∧ x ≤ n ∧ LineO wr g N cap (addG f fw q o x) (k + i + j + 1) ∧ w.grownBy wr (some g)) (fun iv _=>n - (intOf iv).toNat)
  case atStart=>exact ⟨0,rfl,Nat.zero_le _,HO1.out.congr (fun x _=>by rw [addG,if_neg (by omega)]) (by omega),HG1.out⟩
  case round=>
   obtain ⟨x,rfl,hx,ho,hg⟩:=hrel
   clear HO1 HG1
   by_cases hlt:x < n
   ·obtain ⟨g',o',cap',b,he,-,-,d0,hb,hg'⟩:=HV.out.nth hlt
    simp only [Value.slice.injEq,true_and] at he
    obtain ⟨rfl,rfl⟩:=he
    have hgg:=HNE.out g' o' n cap2 rfl hn
    have d0:=hg.cell d0 (by simpa using hgg)
    have HFB:=Lib.hid (frac_far hb hg HODD.out)
    have HFU:=Lib.hid (frac_far HU.out hg HODD.out)
    have HO:=Lib.hid ho
    have HG:=Lib.hid hg
    have x0:(0:Int) ≤ (x:Int):=by omega
    have x1:(x:Int) < (n:Int):=by omega
    have HK:Hid (addG f fw q o x (o + x) = f (o + x)):=by show addG f fw q o x (o + x) = f (o + x); rw [addG,if_neg (by omega)]
    obtain ⟨z,hz⟩:∃ z,fw x = z:=⟨_,rfl⟩
    have HZ:=Lib.hid hz
    rw [hz] at HFB
    obtain ⟨t,ht⟩:∃ t:Int,z.num.sign = t:=⟨_,rfl⟩
    have e2:(t == 0) = decide (z = 0):=by rw [← ht,Bool.eq_iff_iff]; simp
    have e2':(t != 0) = !decide (z = 0):=by rw [bne,e2]
    have HSG:Hid (∀ W,FracIs W (.pointer b) z j → Calls Tryz.prog 64 #[.pointer b] W fun e w'=>e = .returned (.int .i64 t) ∧ Below W.heap.size W w'):=fun W h=>by
     have:=Tryz.Sign (.pointer b) z j W h
     rw [ht] at this
     exact this
    clear ho hg hb hz ht
    go_wp2_with fail
    with_reducible refine (HSG.out _ HFB.out).mono ?_
    rintro e w2 ⟨rfl,hb⟩
    have HG2:=Lib.hid (grown_trans HG.out (grown_of_below hb (some g)))
    have HO2:=Lib.hid (HO.out.below hb)
    have HFB2:=Lib.hid (HFB.out.below hb)
    have HFU2:=Lib.hid (HFU.out.below hb)
    clear hb HSG HG HO HFB HFU d0
    by_cases hz0:z = 0
    ·have e3:decide (z = 0) = true:=by simpa using hz0
     have HR:Hid (LineO w2 g N cap (addG f fw q o (x + 1)) (k + i + j + 1)):=HO2.out.congr (fun y hy=>by
      by_cases e:y = o + x
      ·subst e
       rw [HK.out,addG,if_pos (by omega),Nat.add_sub_cancel_left,HZ.out,hz0,Rat.mul_zero,Rat.add_zero]
      ·unfold addG
       by_cases e5:o ≤ y ∧ y < o + x
       ·rw [if_pos e5,if_pos (by omega)]
       ·rw [if_neg e5,if_neg (by omega)]) (Nat.le_refl _)
     clear hz0 HO2 HZ HK
     go_wp2
     go_roundw
     case rel=>exact ⟨x + 1,by go_num,by omega,HR.out,HG2.out⟩
     case measure=>simp [intOf]; omega
    ·have e3:decide (z = 0) = false:=by simpa using hz0
     clear hz0
     go_wp2_with fail
     have HB:Hid (Below w2.heap.size w2 w2):=Below.refl _ _
     refine wp_region_held_drew (S:=fun w'=>True) (by kernel_rfl) trivial (fun hHeld=>?_)
     replace HB:=Lib.hid (HB.out.drew)
     replace HO2:=Lib.hid (HO2.out.below (Below.refl _ _).drew)
     replace HFB2:=Lib.hid (HFB2.out.below (Below.refl _ _).drew)
     replace HFU2:=Lib.hid (HFU2.out.below (Below.refl _ _).drew)
     clear hHeld
     generalize w2.drew = w2d at *
     have hHeld:(fun w':World=>True) w2d:=trivial
     refine takeY 0 (h:=?_)
     refine takeY 1 (h:=?_)
     refine takeY 2 (h:=?_)
     (try simp only [Act.put,List.setIfInBounds_toArray,List.set_cons_zero,List.set_cons_succ])
     refine takeY 3 (h:=?_)
     refine takeY 4 (h:=?_)
     refine takeY 6 (h:=?_)
     (try simp only [Act.put,List.setIfInBounds_toArray,List.set_cons_zero,List.set_cons_succ])
     refine takeY 7 (h:=?_)
     (try simp only [Act.put,List.setIfInBounds_toArray,List.set_cons_zero,List.set_cons_succ])
     refine wpAnyH_ready (rs:=[5,8]) (by kernel_rfl) (by simp) ?_
     refine AllReadyH.cons (by (simp only [List.getElem?_toArray,List.getElem?_cons_succ,List.getElem?_cons_zero]) <;> rfl) (fun KX hK=>?_) (AllReadyH.cons (by (simp only [List.getElem?_toArray,List.getElem?_cons_succ,List.getElem?_cons_zero]) <;> rfl) (fun KX hK=>?_) AllReadyH.nil)
     ·skip
      obtain ⟨lc,y0,-,hlf⟩:=HO2.out.cell (j:=o + x) (by omega)
      rw [HK.out] at hlf
      have hlf:=hlf.fit (HSZ.out x hlt)
      go_simp
      clear y0 hHeld
      have HLF:=Lib.hid hlf
      clear hlf
      refine hK.out _ _ trivial (fun hHeld=>?_)
      clear hK KX
      (try simp only [Act.put,List.setIfInBounds_toArray,List.set_cons_zero,List.set_cons_succ])
      refine wpAnyH_ready (rs:=[8]) (by kernel_rfl) (by simp) ?_
      refine AllReadyH.cons (by (simp only [List.getElem?_toArray,List.getElem?_cons_succ,List.getElem?_cons_zero]) <;> rfl) (fun KX hK=>?_) AllReadyH.nil
      go_simp
      with_reducible refine (Tryz.mulA (.pointer ua) (.pointer b) q z i j _ HFU2.out HFB2.out hi hj (by omega) (by omega)).mono ?_
      rintro e w2d21 ⟨⟨m,rfl,hm⟩,hb⟩
      obtain ⟨m,rfl⟩:=frac_pointer hm
      clear hHeld
      replace HB:=Lib.hid (HB.out.trans (hb.mono HB.out.size))
      replace HO2:=Lib.hid (HO2.out.below hb)
      replace HFB2:=Lib.hid (HFB2.out.below hb)
      replace HFU2:=Lib.hid (HFU2.out.below hb)
      replace HLF:=Lib.hid (HLF.out.below hb)
      clear hb
      have HM:=Lib.hid hm
      clear hm
      refine hK.out _ _ trivial (fun hHeld=>?_)
      clear hK KX
      (try simp only [Act.put,List.setIfInBounds_toArray,List.set_cons_zero,List.set_cons_succ])
      refine wpAnyH_ready (rs:=[9]) (by kernel_rfl) (by simp) ?_
      refine AllReadyH.cons (by (simp only [List.getElem?_toArray,List.getElem?_cons_succ,List.getElem?_cons_zero]) <;> rfl) (fun KX hK=>?_) AllReadyH.nil
      go_simp
      with_reducible refine (Tryz.addA (.pointer lc) (.pointer m) (f (o + x)) (q * z) k (i + j) _ HLF.out HM.out (by omega) (by omega) (by omega) (by omega)).mono ?_
      rintro e w2d22 ⟨⟨a,rfl,ha⟩,hb⟩
      obtain ⟨a,rfl⟩:=frac_pointer ha
      clear hHeld
      replace HB:=Lib.hid (HB.out.trans (hb.mono HB.out.size))
      replace HO2:=Lib.hid (HO2.out.below hb)
      replace HFB2:=Lib.hid (HFB2.out.below hb)
      replace HFU2:=Lib.hid (HFU2.out.below hb)
      replace HLF:=Lib.hid (HLF.out.below hb)
      replace HM:=Lib.hid (HM.out.below hb)
      clear hb
      have HA:=Lib.hid ha
      clear ha
      refine hK.out _ _ trivial (fun hHeld=>?_)
      clear hK KX
      (try simp only [Act.put,List.setIfInBounds_toArray,List.set_cons_zero,List.set_cons_succ])
      refine takeY 10 (h:=?_)
      (try simp only [Act.put,List.setIfInBounds_toArray,List.set_cons_zero,List.set_cons_succ])
      refine wpAnyH_ready (rs:=[11]) (by kernel_rfl) (by simp) ?_
      refine AllReadyH.cons (by (simp only [List.getElem?_toArray,List.getElem?_cons_succ,List.getElem?_cons_zero]) <;> rfl) (fun KX hK=>?_) AllReadyH.nil
      obtain ⟨ob,y0,y1,-⟩:=HO2.out.cell (j:=o + x) (by omega)
      have HR:Hid (LineO (w2d22.setCell ⟨g,o + x,none⟩ (.pointer a)) g N cap (addG f fw q o (x + 1)) (k + i + j + 1)):=(HO2.out.set (HA.out.more (by omega)) (j:=o + x) (by omega)).congr (fun y hy=>by
       by_cases e:y = o + x
       ·subst e
        rw [if_pos rfl,addG,if_pos (by omega),Nat.add_sub_cancel_left,HZ.out]
       ·rw [if_neg e]
        unfold addG
        by_cases e5:o ≤ y ∧ y < o + x
        ·rw [if_pos e5,if_pos (by omega)]
        ·rw [if_neg e5,if_neg (by omega)]) (Nat.le_refl _)
      have HG3:Hid (w.grownBy (w2d22.setCell ⟨g,o + x,none⟩ (.pointer a)) (some g)):=grown_trans (grown_trans HG2.out (grown_of_below HB.out (some g))) (grown_setCell _ _ _ _)
      go_simp
      clear y0 y1 hHeld HO2 HA HB HLF HM HFB2 HFU2
      refine hK.out _ _ trivial (fun hHeld=>?_)
      clear hK KX
      (try simp only [Act.put,List.setIfInBounds_toArray,List.set_cons_zero,List.set_cons_succ])
      refine wpAnyH_done (by kernel_rfl) ?_ _
      clear hHeld HG2
      go_wp2
      go_roundw
      case rel=>exact ⟨x + 1,by go_num,by omega,HR.out,HG3.out⟩
      case measure=>simp [intOf]; omega
     ·skip
      go_simp
      with_reducible refine (Tryz.mulA (.pointer ua) (.pointer b) q z i j _ HFU2.out HFB2.out hi hj (by omega) (by omega)).mono ?_
      rintro e w2d21 ⟨⟨m,rfl,hm⟩,hb⟩
      obtain ⟨m,rfl⟩:=frac_pointer hm
      clear hHeld
      replace HB:=Lib.hid (HB.out.trans (hb.mono HB.out.size))
      replace HO2:=Lib.hid (HO2.out.below hb)
      replace HFB2:=Lib.hid (HFB2.out.below hb)
      replace HFU2:=Lib.hid (HFU2.out.below hb)
      clear hb
      have HM:=Lib.hid hm
      clear hm
      refine hK.out _ _ trivial (fun hHeld=>?_)
      clear hK KX
      (try simp only [Act.put,List.setIfInBounds_toArray,List.set_cons_zero,List.set_cons_succ])
      refine wpAnyH_ready (rs:=[5]) (by kernel_rfl) (by simp) ?_
      refine AllReadyH.cons (by (simp only [List.getElem?_toArray,List.getElem?_cons_succ,List.getElem?_cons_zero]) <;> rfl) (fun KX hK=>?_) AllReadyH.nil
      obtain ⟨lc,y0,-,hlf⟩:=HO2.out.cell (j:=o + x) (by omega)
      rw [HK.out] at hlf
      have hlf:=hlf.fit (HSZ.out x hlt)
      go_simp
      clear y0 hHeld
      have HLF:=Lib.hid hlf
      clear hlf
      refine hK.out _ _ trivial (fun hHeld=>?_)
      clear hK KX
      (try simp only [Act.put,List.setIfInBounds_toArray,List.set_cons_zero,List.set_cons_succ])
      refine wpAnyH_ready (rs:=[9]) (by kernel_rfl) (by simp) ?_
      refine AllReadyH.cons (by (simp only [List.getElem?_toArray,List.getElem?_cons_succ,List.getElem?_cons_zero]) <;> rfl) (fun KX hK=>?_) AllReadyH.nil
      go_simp
      with_reducible refine (Tryz.addA (.pointer lc) (.pointer m) (f (o + x)) (q * z) k (i + j) _ HLF.out HM.out (by omega) (by omega) (by omega) (by omega)).mono ?_
      rintro e w2d22 ⟨⟨a,rfl,ha⟩,hb⟩
      obtain ⟨a,rfl⟩:=frac_pointer ha
      clear hHeld
      replace HB:=Lib.hid (HB.out.trans (hb.mono HB.out.size))
      replace HO2:=Lib.hid (HO2.out.below hb)
      replace HFB2:=Lib.hid (HFB2.out.below hb)
      replace HFU2:=Lib.hid (HFU2.out.below hb)
      replace HM:=Lib.hid (HM.out.below hb)
      replace HLF:=Lib.hid (HLF.out.below hb)
      clear hb
      have HA:=Lib.hid ha
      clear ha
      refine hK.out _ _ trivial (fun hHeld=>?_)
      clear hK KX
      (try simp only [Act.put,List.setIfInBounds_toArray,List.set_cons_zero,List.set_cons_succ])
      refine takeY 10 (h:=?_)
      (try simp only [Act.put,List.setIfInBounds_toArray,List.set_cons_zero,List.set_cons_succ])
      refine wpAnyH_ready (rs:=[11]) (by kernel_rfl) (by simp) ?_
      refine AllReadyH.cons (by (simp only [List.getElem?_toArray,List.getElem?_cons_succ,List.getElem?_cons_zero]) <;> rfl) (fun KX hK=>?_) AllReadyH.nil
      obtain ⟨ob,y0,y1,-⟩:=HO2.out.cell (j:=o + x) (by omega)
      have HR:Hid (LineO (w2d22.setCell ⟨g,o + x,none⟩ (.pointer a)) g N cap (addG f fw q o (x + 1)) (k + i + j + 1)):=(HO2.out.set (HA.out.more (by omega)) (j:=o + x) (by omega)).congr (fun y hy=>by
       by_cases e:y = o + x
       ·subst e
        rw [if_pos rfl,addG,if_pos (by omega),Nat.add_sub_cancel_left,HZ.out]
       ·rw [if_neg e]
        unfold addG
        by_cases e5:o ≤ y ∧ y < o + x
        ·rw [if_pos e5,if_pos (by omega)]
        ·rw [if_neg e5,if_neg (by omega)]) (Nat.le_refl _)
      have HG3:Hid (w.grownBy (w2d22.setCell ⟨g,o + x,none⟩ (.pointer a)) (some g)):=grown_trans (grown_trans HG2.out (grown_of_below HB.out (some g))) (grown_setCell _ _ _ _)
      go_simp
      clear y0 y1 hHeld HO2 HA HB HLF HM HFB2 HFU2
      refine hK.out _ _ trivial (fun hHeld=>?_)
      clear hK KX
      (try simp only [Act.put,List.setIfInBounds_toArray,List.set_cons_zero,List.set_cons_succ])
      refine wpAnyH_done (by kernel_rfl) ?_ _
      clear hHeld HG2
      go_wp2
      go_roundw
      case rel=>exact ⟨x + 1,by go_num,by omega,HR.out,HG3.out⟩
      case measure=>simp [intOf]; omega
   ·have e3:decide ((x:Int) < (n:Int)) = false:=by simp; omega
    have e3':decide (x < n) = false:=by simpa using hlt
    have HR:Hid (LineO wr g N cap (addH f fw q o) (k + i + j + 1)):=ho.congr (fun y hy=>by
     unfold addH addG
     by_cases e:y < o
     ·rw [if_pos e,if_neg (by omega)]
     ·rw [if_neg e,if_pos (by omega)]) (Nat.le_refl _)
    have HG:=Lib.hid hg
    clear ho hg
    go_wp2
    go_end0
    exact ⟨rfl,HR.out,HG.out⟩
/-- How long what is put back may become, with so many lines behind. -/
def bk (s:Nat):Nat → Nat
 | 0=>s
 | d + 1=>2 * bk s d + s + 1
theorem bk_le {s d m:Nat} (h:d ≤ m):bk s d ≤ bk s m:=by
 induction m with
 | zero=>rw [show d = 0 by omega]; exact Nat.le_refl _
 | succ m ih =>
   by_cases e:d = m + 1
   ·rw [e]; exact Nat.le_refl _
   ·have:=ih (by omega)
    show _ ≤ 2 * bk s m + s + 1
    omega
theorem bk_ge (s d:Nat):s ≤ bk s d:=bk_le (d:=0) (Nat.zero_le _)
theorem tail_none (f:Nat → Rat) (a:Nat):tail f a a = 0:=by
 rw [show (0:Rat) = Vm.sum (fun _=>0) a from ?_]
 ·exact Vm.sum_congr fun j hj=>by show (if a ≤ j then f j else 0) = 0; rw [if_neg (by omega)]
 ·have : ∀ n, Vm.sum (fun _ => (0 : Rat)) n = 0 := fun n => by
   induction n with
   | zero=>rfl
   | succ n ih=>show Vm.sum (fun _=>(0:Rat)) n + 0 = 0; rw [ih]; grind
  rw [this]
theorem tail_more (f:Nat → Rat) {a n:Nat} (h:a ≤ n):tail f a (n + 1) = tail f a n + f n:=by
 show Vm.sum (fun j=>if a ≤ j then f j else 0) n + (if a ≤ n then f n else 0) = _
 rw [if_pos h]; rfl
theorem tail_congr {f g:Nat → Rat} {a n:Nat} (h:∀ j,a ≤ j → j < n → f j = g j):tail f a n = tail g a n:=Vm.sum_congr fun j hj=>by
 by_cases e:a ≤ j
 ·rw [if_pos e,if_pos e,h j e hj]
 ·rw [if_neg e,if_neg e]
/-- The lines from i on are put back. -/
structure Back (E:F) (told:Nat → Nat) (u r i:Nat) (H:F):Prop where
 un:∀ l j,j < u → H l j = E l j
 old:∀ l,l < i → H l = E l
 far:∀ l,u ≤ l → H l = E l
 put:∀ l c,i ≤ l → l < u → c < r → H l (u + c) = E l (u + c) - tail (fun j=>E l (told j) * H j (u + c)) (l + 1) u
theorem Back.start (E:F) (told:Nat → Nat) (u r:Nat):Back E told u r u E:=⟨fun _ _ _=>rfl,fun _ _=>rfl,fun _ _=>rfl,fun l c h1 h2=>by omega⟩
/-- .. and of line i what the lines before k tell. -/
def partH (E H:F) (told:Nat → Nat) (u i k:Nat):F:=fun l=>if l = i then fun x=>if x < u then E i x else E i x - tail (fun j=>E i (told j) * H j x) (i + 1) k else H l
theorem partH_other (E H:F) (told:Nat → Nat) {u i k l:Nat} (h:l ≠ i):partH E H told u i k l = H l:=by rw [partH,if_neg h]
theorem partH_start {E H:F} {told:Nat → Nat} {u r i:Nat} (h:Back E told u r (i + 1) H) (l x:Nat):partH E H told u i (i + 1) l x = H l x:=by
 unfold partH
 by_cases e:l = i
 ·rw [if_pos e,e,h.old i (by omega)]
  split
  ·rfl
  ·rw [tail_none]; grind
 ·rw [if_neg e]
theorem partH_un (E H:F) (told:Nat → Nat) {u i k x:Nat} (h:x < u):partH E H told u i k i x = E i x:=by rw [partH,if_pos rfl,if_pos h]
theorem partH_step (E H:F) (told:Nat → Nat) {u i k:Nat} (h:i + 1 ≤ k) (x:Nat):partH E H told u i (k + 1) i x = addH (partH E H told u i k i) (fun c=>H k (u + c)) (-(E i (told k))) u x:=by
 unfold addH partH
 by_cases e:x < u
 ·simp only [if_true,e]
 ·simp only [if_true,e,if_false]
  rw [tail_more _ h,show u + (x - u) = x by omega]
  grind
theorem partH_done {E H:F} {told:Nat → Nat} {u r i:Nat} (h:Back E told u r (i + 1) H) (hi:i < u):Back E told u r i (partH E H told u i u):=by
 refine ⟨fun l j hj=>?_,fun l hl=>?_,fun l hl=>?_,fun l c h1 h2 hc=>?_⟩
 ·by_cases e:l = i
  ·rw [e,partH_un _ _ _ hj]
  ·rw [partH_other _ _ _ e]; exact h.un l j hj
 ·rw [partH_other _ _ _ (by omega)]; exact h.old l (by omega)
 ·rw [partH_other _ _ _ (by omega)]; exact h.far l hl
 ·have ht:∀ l',i ≤ l' → tail (fun j=>E l (told j) * partH E H told u i u j (u + c)) (l' + 1) u = tail (fun j=>E l (told j) * H j (u + c)) (l' + 1) u:=fun l' hl'=>tail_congr fun j hj _=>by rw [partH_other _ _ _ (by omega)]
  rw [ht l h1]
  by_cases e:l = i
  ·subst e
   rw [partH,if_pos rfl,if_neg (by omega)]
  ·rw [partH_other _ _ _ e]; exact h.put l c (by omega) h2 hc
/-- The lengths. -/
def Kb (s u i:Nat):Nat → Nat:=fun l=>if i ≤ l ∧ l < u then bk s (u - 1 - l) else s
def Kp (s u i k:Nat):Nat → Nat:=fun l=>if l = i then bk s (u - 1 - i) - bk s (u - k) + s else Kb s u (i + 1) l
theorem Kp_start {s u i:Nat} (hi:i < u) (l:Nat):Kb s u (i + 1) l ≤ Kp s u i (i + 1) l:=by
 unfold Kp
 by_cases e:l = i
 ·rw [if_pos e,Kb,if_neg (by omega),show u - 1 - i = u - (i + 1) by omega]; omega
 ·rw [if_neg e]; exact Nat.le_refl _
theorem Kp_at (s u i k:Nat):Kp s u i k i = bk s (u - 1 - i) - bk s (u - k) + s:=by rw [Kp,if_pos rfl]
theorem Kp_le {s u i k l:Nat} (h:l ≠ i):Kp s u i k l ≤ Kp s u i (k + 1) l:=by rw [Kp,if_neg h,Kp,if_neg h]; exact Nat.le_refl _
theorem Kp_line {s u i k:Nat} (h:i + 1 ≤ k) (hk:k < u):Kp s u i k k = bk s (u - 1 - k):=by rw [Kp,if_neg (by omega),Kb,if_pos (by omega)]
theorem Kp_step {s u i k:Nat} (h:i + 1 ≤ k) (hk:k < u):Kp s u i k i + s + bk s (u - 1 - k) + 1 ≤ Kp s u i (k + 1) i:=by
 rw [Kp_at,Kp_at]
 have h1:bk s (u - k) = 2 * bk s (u - (k + 1)) + s + 1:=by rw [show u - k = (u - (k + 1)) + 1 by omega]; rfl
 have h2:bk s (u - k) ≤ bk s (u - 1 - i):=bk_le (by omega)
 rw [show u - 1 - k = u - (k + 1) by omega]
 omega
theorem Kp_le_bk (s u i k:Nat):Kp s u i k i ≤ bk s u:=by
 rw [Kp_at]
 have h1:bk s (u - 1 - i) ≤ bk s u:=bk_le (by omega)
 have h2:=bk_ge s (u - k)
 have h3:=bk_ge s u
 have h4:=bk_ge s (u - 1 - i)
 omega
theorem Kp_end {s u i:Nat} (hi:i < u) (l:Nat):Kp s u i u l ≤ Kb s u i l:=by
 unfold Kp
 by_cases e:l = i
 ·rw [if_pos e,Kb,if_pos (by omega),Nat.sub_self,e]
  have:=bk_ge s (u - 1 - i)
  show _ - s + s ≤ _
  omega
 ·rw [if_neg e]
  unfold Kb
  split
  ·rw [if_pos (by omega)]; exact Nat.le_refl _
  ·rw [if_neg (by omega)]; exact Nat.le_refl _
theorem Kb_start (s u l:Nat):s ≤ Kb s u u l:=by rw [Kb,if_neg (by omega)]; exact Nat.le_refl _
/-- The right part of a line. -/
theorem LineO.part {w:World} {g N cap k u r:Nat} {f:Nat → Rat} (h:LineO w g N cap f k) (hn:u + r = N):LineR w (.slice (some ⟨g,u,none⟩) r (cap - u)) r (fun c=>f (u + c)) k:=by
 obtain ⟨cur,h1,h2,h3⟩:=h.cells
 have h4:=h.le
 have h5:=h.max
 exact ⟨_,_,rfl,by omega,by omega,.inr ⟨g,u,cur,rfl,h1,fun j hj=>h3 (u + j) (by omega)⟩⟩
/-- The unknowns that are told, in memory. -/
theorem Eqs.tolds {B:Nat} {w:World} {e L cap R u N t:Nat} {E:F} {told K G c:Nat → Nat} (h:Eqs B w e L cap R u N t E told K G c) (ht:0 < t):∃ b q cur,CellsAt w e #[.slice (some ⟨L,0,none⟩) R cap,.int .i64 u,.slice (some ⟨b,0,none⟩) t q] 126 ∧ CellsAt w b cur 3 ∧ t ≤ q ∧ q ≤ maxLen ∧ ∀ j,j < t → cur[j]? = some (.int .i64 (told j:Nat)):=by
 obtain ⟨tv,us,h1,⟨-,⟨rfl,r⟩ | ⟨b,q,cur,rfl,r1,r2,r3,r4,r5,r6⟩⟩,h3,h4⟩:=h.st
 ·omega
 ·refine ⟨b,q,cur,h1,r2,r3,r4,fun j hj=>?_⟩
  have:=h4 j hj
  rw [← r6,List.getElem?_take_of_lt (by omega),Array.getElem?_toList] at this
  exact this
theorem Tryz.matPutBack (B e L cap R u N r s:Nat) (E:F) (told G c:Nat → Nat) (w:World) (h:Eqs B w e L cap R u N u E told (fun _=>s) G c) (ht:∀ j,j < u → told j < u) (hu:u ≤ R) (hN:u + r = N) (hr:0 < r) (hu0:0 < u) (hR:R ≤ 1000) (hN9:N ≤ 1000) (hs:1 ≤ s) (hsz:bk s u ≤ 30000000000) (hB:B ≤ w.heap.size) :
 Calls Tryz.prog 126 #[.pointer (some ⟨e,0,none⟩)] w fun q w'=>q = .returned (.tuple #[]) ∧ (∃ H,Eqs B w' e L cap R u N u H told (Kb s u 0) G c ∧ Back E told u r 0 H) ∧ Below B w w':=by
 subst hN
 have HBB:=Lib.hid hB
 have HT:=Lib.hid ht
 have hg:∀ l,l < R → (∀ j,j < u + r → Sz (E l j) s):=fun l hl j hj=>by
  obtain ⟨a,-,-,h⟩:=(h.lns.line l hl).cell hj
  exact h.sz hs
 have HSZ:=Lib.hid hg
 have HE:Hid (Eqs B w e L cap R u (u + r) u E told (Kb s u u) G c):=h.congr (fun _ _ _ _=>rfl) (fun l _=>Kb_start s u l)
 have HK:Hid (Back E told u r u E):=Back.start _ _ _ _
 have HB:Hid (Below B w w):=Below.refl _ _
 obtain ⟨b,q,-,hst,-,hq1,hq2,-⟩:=h.tolds hu0
 have s2:=hst.cell 2
 have s9:=hst.lt
 simp only [List.getElem?_toArray,List.getElem?_cons_zero,List.getElem?_cons_succ] at s2
 clear h hB ht hg hst
 go_enter Tryz.func126,Tryz.ntmps126
 go_wp2_with fail
 clear s2 s9 hq1 hq2
 go_loopw [2] (fun iv wr=>∃ (i:Nat) (H:F),iv = .int .i64 ((i:Int) - 1) ∧ i ≤ u ∧ Eqs B wr e L cap R u (u + r) u H told (Kb s u i) G c ∧ Back E told u r i H ∧ Below B w wr) (fun iv _=>(intOf iv + 1).toNat)
 case atStart=>exact ⟨u,E,rfl,Nat.le_refl _,HE.out,HK.out,HB.out⟩
 case round=>
  obtain ⟨i,H,rfl,hi,he,hk,hb⟩:=hrel
  clear HE HK HB
  have HE:=Lib.hid he
  have HK:=Lib.hid hk
  have HB:=Lib.hid hb
  cases i with
  | zero =>
    clear he hk hb
    go_wp2
    go_end0
    exact ⟨rfl,⟨H,HE.out,HK.out⟩,HB.out⟩
  | succ i =>
    obtain ⟨z,hz⟩:∃ z:Int,((i + 1:Nat):Int) - 1 = z:=⟨_,rfl⟩
    have hzi:z = (i:Int):=by omega
    rw [hz]
    subst hzi
    clear hz
    obtain ⟨b,q,cur,hst,hcu,hq1,hq2,hcs⟩:=he.tolds hu0
    have s0:=hst.cell 0
    have s2:=hst.cell 2
    have s9:=hst.lt
    simp only [List.getElem?_toArray,List.getElem?_cons_zero,List.getElem?_cons_succ] at s0 s2
    obtain ⟨l0,-,l1⟩:=he.lns.cell (i:=i) (by omega)
    have i0:(0:Int) ≤ (i:Int):=by omega
    have i1:(i:Int) < (R:Int):=by omega
    clear he hk hb hst hcu hcs
    go_wp2_with fail
    have HE1:Hid (Eqs B wr e L cap R u (u + r) u (partH E H told u i (i + 1)) told (Kp s u i (i + 1)) G c):=HE.out.congr (fun l _ x _=>partH_start HK.out l x) (fun l _=>Kp_start (by omega) l)
    clear s0 s2 s9 l0 l1 HE hq1 hq2
    go_loopw [4] (fun kv wr=>∃ k:Nat,kv = .int .i64 k ∧ i + 1 ≤ k ∧ k ≤ u ∧ Eqs B wr e L cap R u (u + r) u (partH E H told u i k) told (Kp s u i k) G c ∧ Below B w wr) (fun kv _=>u - (intOf kv).toNat)
    case atStart=>exact ⟨i + 1,by go_num,Nat.le_refl _,hi,HE1.out,HB.out⟩
    case round=>
     obtain ⟨k,rfl,hki,hku,he,hb⟩:=hrel
     clear HE1 HB
     obtain ⟨b,q,cur,hst,hcu,hq1,hq2,hcs⟩:=he.tolds hu0
     have s2:=hst.cell 2
     have s9:=hst.lt
     simp only [List.getElem?_toArray,List.getElem?_cons_zero,List.getElem?_cons_succ] at s2
     have HE:=Lib.hid he
     have HB:=Lib.hid hb
     have HS:=Lib.hid hst
     have HCU:=Lib.hid hcu
     have HCS:=Lib.hid hcs
     have k0:(0:Int) ≤ (k:Int):=by omega
     by_cases hlt:k < u
     ·have k1:(k:Int) < (u:Int):=by omega
      have k2:(k:Int) < (R:Int):=by omega
      have t0:(0:Int) ≤ (told k:Int):=by omega
      have htk:=HT.out k hlt
      have t1:(told k:Int) < (u:Int) + (r:Int):=by omega
      have u0:(0:Int) ≤ (u:Int):=by omega
      have u1:(u:Int) ≤ (u:Int) + (r:Int):=by omega
      have ci:=(he.lns.line i (by omega)).le
      have ci9:=(he.lns.line i (by omega)).max
      have ck:=(he.lns.line k (by omega)).le
      have ck9:=(he.lns.line k (by omega)).max
      have ci2:c i ≠ u:=by omega
      have ck2:c k ≠ u:=by omega
      unfold maxLen at ci9 ck9 hq2
      clear he hb hst hcu hcs
      go_wp2_with fail
      clear s2 s9
      refine wp_region_held_drew (S:=fun w'=>w'.cell? ⟨e,0,none⟩ = some (.slice (some ⟨L,0,none⟩) R cap) ∧ w'.cell? ⟨e,1,none⟩ = some (.int .i64 u) ∧ w'.cell? ⟨e,2,none⟩ = some (.slice (some ⟨b,0,none⟩) u q) ∧ w'.cell? ⟨b,k,none⟩ = some (.int .i64 (told k:Nat)) ∧ w'.cell? ⟨L,k,none⟩ = some (.slice (some ⟨G k,0,none⟩) (u + r) (c k))) (by kernel_rfl) ⟨HS.out.cell 0,HS.out.cell 1,HS.out.cell 2,(HCU.out.cell k).trans (HCS.out k hlt),(HE.out.lns.cell (i:=k) (by omega)).1⟩ (fun hHeld=>?_)
      replace HB:=Lib.hid (HB.out.drew)
      replace HE:=Lib.hid (HE.out.below (Below.refl _ _).drew)
      replace HS:=Lib.hid (HS.out.below (Below.refl _ _).drew)
      replace HCU:=Lib.hid (HCU.out.below (Below.refl _ _).drew)
      clear hHeld
      generalize wr.drew = wd at *
      have hHeld:(fun w':World=>w'.cell? ⟨e,0,none⟩ = some (.slice (some ⟨L,0,none⟩) R cap) ∧ w'.cell? ⟨e,1,none⟩ = some (.int .i64 u) ∧ w'.cell? ⟨e,2,none⟩ = some (.slice (some ⟨b,0,none⟩) u q) ∧ w'.cell? ⟨b,k,none⟩ = some (.int .i64 (told k:Nat)) ∧ w'.cell? ⟨L,k,none⟩ = some (.slice (some ⟨G k,0,none⟩) (u + r) (c k))) wd:=⟨HS.out.cell 0,HS.out.cell 1,HS.out.cell 2,(HCU.out.cell k).trans (HCS.out k hlt),(HE.out.lns.cell (i:=k) (by omega)).1⟩
      refine takeY 0 (h:=?_)
      refine takeY 1 (h:=?_)
      refine takeY 2 (h:=?_)
      (try simp only [Act.put,List.setIfInBounds_toArray,List.set_cons_zero,List.set_cons_succ])
      refine takeY 3 (h:=?_)
      refine takeY 4 (h:=?_)
      refine takeY 5 (h:=?_)
      (try simp only [Act.put,List.setIfInBounds_toArray,List.set_cons_zero,List.set_cons_succ])
      refine takeY 6 (h:=?_)
      refine takeY 7 (h:=?_)
      refine takeY 8 (h:=?_)
      (try simp only [Act.put,List.setIfInBounds_toArray,List.set_cons_zero,List.set_cons_succ])
      refine takeY 9 (h:=?_)
      refine takeY 10 (h:=?_)
      refine takeY 11 (h:=?_)
      (try simp only [Act.put,List.setIfInBounds_toArray,List.set_cons_zero,List.set_cons_succ])
      refine takeY 12 (h:=?_)
      refine takeY 13 (h:=?_)
      refine takeY 14 (h:=?_)
      (try simp only [Act.put,List.setIfInBounds_toArray,List.set_cons_zero,List.set_cons_succ])
      refine takeY 17 (h:=?_)
      refine takeY 18 (h:=?_)
      refine takeY 19 (h:=?_)
      (try simp only [Act.put,List.setIfInBounds_toArray,List.set_cons_zero,List.set_cons_succ])
      refine takeY 20 (h:=?_)
      refine takeY 21 (h:=?_)
      refine takeY 22 (h:=?_)
      (try simp only [Act.put,List.setIfInBounds_toArray,List.set_cons_zero,List.set_cons_succ])
      refine takeY 23 (h:=?_)
      refine takeY 24 (h:=?_)
      refine takeY 25 (h:=?_)
      (try simp only [Act.put,List.setIfInBounds_toArray,List.set_cons_zero,List.set_cons_succ])
      refine takeY 26 (h:=?_)
      refine takeY 27 (h:=?_)
      refine takeY 28 (h:=?_)
      (try simp only [Act.put,List.setIfInBounds_toArray,List.set_cons_zero,List.set_cons_succ])
      refine wpAnyH_ready (rs:=[15]) (by kernel_rfl) (by simp) ?_
      refine AllReadyH.cons (by (simp only [List.getElem?_toArray,List.getElem?_cons_succ,List.getElem?_cons_zero]) <;> rfl) (fun KX hK=>?_) AllReadyH.nil
      obtain ⟨lb,m0,-,hf⟩:=(HE.out.lns.line i (by omega)).cell (j:=told k) (by omega)
      rw [partH_un _ _ _ htk] at hf
      have HF:=Lib.hid (hf.fit (HSZ.out i (by omega) (told k) (by omega)))
      clear hf
      go_simp
      clear hHeld m0
      refine hK.out _ _ ⟨HS.out.cell 0,HS.out.cell 1,HS.out.cell 2,(HCU.out.cell k).trans (HCS.out k hlt),(HE.out.lns.cell (i:=k) (by omega)).1⟩ (fun hHeld=>?_)
      clear hK KX
      (try simp only [Act.put,List.setIfInBounds_toArray,List.set_cons_zero,List.set_cons_succ])
      refine wpAnyH_ready (rs:=[16]) (by kernel_rfl) (by simp) ?_
      refine AllReadyH.cons (by (simp only [List.getElem?_toArray,List.getElem?_cons_succ,List.getElem?_cons_zero]) <;> rfl) (fun KX hK=>?_) AllReadyH.nil
      go_simp
      with_reducible refine (Tryz.frNeg (.pointer lb) _ s _ HF.out hs).mono ?_
      rintro e wd21 ⟨⟨nv,rfl,hnv⟩,hb⟩
      obtain ⟨nb,rfl⟩:=frac_pointer hnv
      clear hHeld
      replace HB:=Lib.hid (HB.out.trans (hb.mono (Nat.le_trans HBB.out HB.out.size)))
      replace HE:=Lib.hid (HE.out.below hb)
      replace HS:=Lib.hid (HS.out.below hb)
      replace HCU:=Lib.hid (HCU.out.below hb)
      replace HF:=Lib.hid (HF.out.below hb)
      clear hb
      have HN:=Lib.hid hnv
      clear hnv
      refine hK.out _ _ ⟨HS.out.cell 0,HS.out.cell 1,HS.out.cell 2,(HCU.out.cell k).trans (HCS.out k hlt),(HE.out.lns.cell (i:=k) (by omega)).1⟩ (fun hHeld=>?_)
      clear hK KX
      (try simp only [Act.put,List.setIfInBounds_toArray,List.set_cons_zero,List.set_cons_succ])
      refine wpAnyH_ready (rs:=[29]) (by kernel_rfl) (by simp) ?_
      refine AllReadyH.cons (by (simp only [List.getElem?_toArray,List.getElem?_cons_succ,List.getElem?_cons_zero]) <;> rfl) (fun KX hK=>?_) AllReadyH.nil
      have ho:=HE.out.lns.line i (by omega)
      have hv:=(HE.out.lns.line k (by omega)).part rfl
      have hrow:=HE.out.bG i (by omega)
      rw [partH_other _ _ _ (show k ≠ i by omega),Kp_line hki hlt] at hv
      have hne:∀ b o m c',Value.slice (some ⟨G k,u,none⟩) r (c k - u) = .slice (some ⟨b,o,none⟩) m c' → 0 < m → b ≠ G i:=fun b o m c' he _ hx=>by
       simp only [Value.slice.injEq,Option.some.injEq,Addr.mk.injEq] at he
       have:=HE.out.lns.inj k i (by omega) (by omega) (he.1.1.trans hx)
       omega
      obtain ⟨cg,hcg,-⟩:=ho.cells
      have hn1:=cells_ne HS.out hcg (by decide)
      have hn2:=cells_ne HCU.out hcg (by decide)
      have hkb:=Kp_step (s:=s) hki hlt
      have hkl:=Kp_le_bk s u i (k + 1)
      have hk1:1 ≤ Kp s u i k i:=by rw [Kp_at]; omega
      have hb1:1 ≤ bk s (u - 1 - k):=Nat.le_trans hs (bk_ge _ _)
      go_simp
      with_reducible refine (Tryz.matAddAt (G i) (u + r) u r (c i) (.pointer nb) _ (partH E H told u i k i) (fun x=>H k (u + x)) (-(E i (told k))) (Kp s u i k i) s (bk s (u - 1 - k)) _ ho rfl HN.out hv hne hr (by omega) hk1 hs hb1 (by omega)).mono ?_
      rintro e1 w30 ⟨rfl,hl,hg⟩
      have HE3:Hid (Eqs B w30 e L cap R u (u + r) u (partH E H told u i (k + 1)) told (Kp s u i (k + 1)) G c):=HE.out.setLine (i:=i) (by omega) (by omega) hg hl (fun x _=>partH_step E H told hki x) hkb fun l _ e=>⟨by rw [partH_other _ _ _ e,partH_other _ _ _ e],Kp_le e⟩
      have HB3:Hid (Below B w w30):=HB.out.grown hg (Nat.le_trans HBB.out HB.out.size) (fun y hy=>by rw [← Option.some.inj hy]; exact hrow)
      have HS3:=Lib.hid (cells_far HS.out hg hn1)
      have HC3:=Lib.hid (cells_far HCU.out hg hn2)
      clear hHeld ho hv hrow hne hl hg HE HB HF HN HS HCU hn1 hn2 hkb hkl hk1 hb1 hcg
      refine hK.out _ _ ⟨HS3.out.cell 0,HS3.out.cell 1,HS3.out.cell 2,(HC3.out.cell k).trans (HCS.out k hlt),(HE3.out.lns.cell (i:=k) (by omega)).1⟩ (fun hHeld=>?_)
      clear hK KX hHeld
      (try simp only [Act.put,List.setIfInBounds_toArray,List.set_cons_zero,List.set_cons_succ])
      refine wpAnyH_done (by kernel_rfl) ?_ _
      go_wp2
      go_roundw
      case rel=>exact ⟨k + 1,by go_num,by omega,by omega,HE3.out,HB3.out⟩
      case measure=>simp [intOf]; omega
     ·have e3:decide ((k:Int) < (u:Int)) = false:=by simp; omega
      have e3':decide (k < u) = false:=by simpa using hlt
      obtain rfl:k = u:=by omega
      have HE3:Hid (Eqs B wr e L cap R k (k + r) k (partH E H told k i k) told (Kb s k i) G c):=he.congr (fun _ _ _ _=>rfl) (fun l _=>Kp_end (by omega) l)
      have HK3:Hid (Back E told k r i (partH E H told k i k)):=partH_done HK.out (by omega)
      clear he hb hst hcu hcs HE HS HCU HCS HK
      go_wp2
      go_roundw
      case rel=>exact ⟨i,_,by go_num,by omega,HE3.out,HK3.out,HB.out⟩
      case measure=>simp [intOf]
end Go.Proofs.Mt
