/- Matrices: what answers of the package mat returns. Matrices: what Rank and Inverse of the package mat return. Matrices: what Solve of the package mat returns. MatTall: of more rows than columns there is one solution, or none: the call returns true. MatLaws: products of matrices; turned about; the inverse of the inverse: the call returns true. -/
import Derived.Test.YtcnjcfoaoaldeaaGreatDoorRn
import Derived.Test.YtcnjcfoaoaldeaaGreatDoorMw
import Derived.Test.YtcnjcfoaoaldeaaGreatDoorMf
set_option linter.unusedVariables false
set_option maxHeartbeats 16000000
set_option maxRecDepth 100000
namespace Go.Proofs.Mt
open Go.RowKit Go.Proofs.Wd Go.Proofs.Fr Go.Proofs.Vt Go.Proofs.Mm
/-- There is just one answer to each question, and X tells them. -/
structure AnsY (E X:F) (R u r:Nat):Prop where
 rank:RankIs E R u u
 sol:∀ c,c < r → ∀ i,i < R → dotF (E i) (fun x=>X x c) u = E i (u + c)
 one:∀ c y,c < r → (∀ i,i < R → dotF (E i) y u = E i (u + c)) → ∀ x,x < u → y x = X x c
/-- There is not. -/
def AnsN (E:F) (R u r:Nat):Prop:=(∃ t,t < u ∧ RankIs E R u t) ∨ (u < R ∧ ∃ c,c < r ∧ ∀ y,¬∀ i,i < R → dotF (E i) y u = E i (u + c))
theorem dot_zero {f x:Nat → Rat} {n:Nat} (h:∀ j,j < n → f j = 0):dotF f x n = 0:=by
 unfold dotF
 rw [Vm.sum_congr (g:=fun _=>0) (fun j hj=>by show f j * x j = 0; rw [h j hj,Rat.zero_mul])]
 induction n with
 | zero=>rfl
 | succ n ih=>show Vm.sum (fun _=>(0:Rat)) n + 0 = 0; rw [ih fun j hj=>h j (by omega)]; grind
theorem ansN_rank {E E':F} {told:Nat → Nat} {t R u r:Nat} (h:RowEq E E' R (u + r)) (e:Ech E' told t R u) (b:Bare E' t R u) (ht:t < u):AnsN E R u r:=.inl ⟨t,ht,rank_of h (by omega) e b⟩
theorem ansN_line {E E':F} {R u r l j:Nat} (h:RowEq E E' R (u + r)) (b:Bare E' u R u) (hl:u ≤ l) (hlR:l < R) (hj:j < u + r) (hz:E' l j ≠ 0):AnsN E R u r:=by
 have hju:u ≤ j:=Nat.le_of_not_lt fun hx=>hz (b l j hl hlR hx)
 refine .inr ⟨by omega,j - u,by omega,fun y hy=>hz ?_⟩
 have:=(h.solves (c:=j - u) (by omega)).1 hy l hlR
 rw [dot_zero fun j hj=>b l j hl hlR hj,show u + (j - u) = j by omega] at this
 exact this.symm
theorem ansY {E E' H X:F} {told:Nat → Nat} {R u r:Nat} (h:RowEq E E' R (u + r)) (e:Ech E' told u R u) (b:Bare E' u R u) (hz:∀ l,u ≤ l → l < R → ∀ j,j < u + r → E' l j = 0) (hk:Back E' told u r 0 H) (hX:∀ i c,i < u → X (told i) c = H i (u + c)):AnsY E X R u r:=by
 have hsol:∀ c,c < r → ∀ i,i < R → dotF (E' i) (fun x=>X x c) u = E' i (u + c):=fun c hc i hi=>by
  by_cases hiu:i < u
  ·exact back_solves e (b:=fun i=>E' i (u + c)) (X:=fun j=>H j (u + c)) (fun j hj=>hX j c hj) (fun i hi=>hk.put i c (Nat.zero_le _) hi hc) hiu
  ·rw [dot_zero fun j hj=>hz i (by omega) hi j (by omega),hz i (by omega) hi (u + c) (by omega)]
 refine ⟨rank_of h (by omega) e b,fun c hc=>(h.solves hc).2 (hsol c hc),fun c y hc hy=>?_⟩
 exact Ech.uniq h e hy ((h.solves hc).2 (hsol c hc))
/-- What stands at an unknown. -/
noncomputable def ansX (H:F) (told:Nat → Nat) (u:Nat):F:=fun x c=>open Classical in if h:∃ i,i < u ∧ told i = x then H h.choose (u + c) else 0
theorem ansX_at {E':F} {told:Nat → Nat} {R u i:Nat} (H:F) (e:Ech E' told u R u) (hi:i < u) (c:Nat):ansX H told u (told i) c = H i (u + c):=by
 have h:∃ j,j < u ∧ told j = told i:=⟨i,hi,rfl⟩
 rw [ansX,dif_pos h,e.inj h.choose_spec.1 hi h.choose_spec.2]
/-- The lines of the unknowns, n of them written. -/
def XAt (w:World) (g u r n:Nat) (told:Nat → Nat) (X:F) (k:Nat):Prop:=∃ cur,CellsAt w g cur 113 ∧ cur.size = u ∧ ∀ j,j < u → ∃ v,cur[j]? = some v ∧ ((v = .slice none 0 0 ∧ ∀ i,i < n → told i ≠ j) ∨ LineR w v r (X j) k)
theorem XAt.below {w w':World} {g u r n k:Nat} {told:Nat → Nat} {X:F} (h:XAt w g u r n told X k) (hb:Below w.heap.size w w'):XAt w' g u r n told X k:=by
 obtain ⟨cur,h1,h2,h3⟩:=h
 refine ⟨cur,h1.below hb,h2,fun j hj=>?_⟩
 obtain ⟨v,v1,v2⟩:=h3 j hj
 exact ⟨v,v1,v2.imp id fun x=>x.below hb⟩
theorem XAt.odd {w:World} {g u r n k:Nat} {told:Nat → Nat} {X:F} (h:XAt w g u r n told X k) (hr:0 < r):Odd w g:=by
 obtain ⟨cur,h1,h2,h3⟩:=h
 refine ⟨cur,_,h1,by decide,fun u' hu=>?_⟩
 have hlt:=(Array.getElem?_eq_some_iff.1 hu).1
 obtain ⟨v,v1,v2⟩:=h3 0 (by omega)
 rw [hu] at v1
 rw [Option.some.inj v1]
 rcases v2 with ⟨rfl,-⟩ | v2
 ·exact .inr (.inl ⟨0,0,rfl⟩)
 ·exact v2.oddv hr
theorem XAt.set {w:World} {g u r n k:Nat} {told:Nat → Nat} {X:F} {v:Value} (h:XAt w g u r n told X k) (hr:0 < r) (hn:told n < u) (hv:LineR w v r (X (told n)) k):XAt (w.setCell ⟨g,told n,none⟩ v) g u r (n + 1) told X k:=by
 have ho:=h.odd hr
 obtain ⟨cur,h1,h2,h3⟩:=h
 refine ⟨_,h1.set _ v,by simp [h2],fun j hj=>?_⟩
 by_cases e:j = told n
 ·subst e
  exact ⟨v,get_put' (by omega),.inr (hv.far (grown_setCell _ _ _ _) ho (hv.other h1 (by decide)))⟩
 ·obtain ⟨y,y1,y2⟩:=h3 j hj
  refine ⟨y,by rw [get_put (fun q=>e q.symm)]; exact y1,?_⟩
  rcases y2 with ⟨rfl,y3⟩ | y3
  ·refine .inl ⟨rfl,fun i hi=>?_⟩
   by_cases e2:i = n
   ·rw [e2]; exact fun q=>e q.symm
   ·exact y3 i (by omega)
  ·exact .inr (y3.far (grown_setCell _ _ _ _) ho (y3.other h1 (by decide)))
theorem XAt.cell {w:World} {g u r n k j:Nat} {told:Nat → Nat} {X:F} (h:XAt w g u r n told X k) (hj:j < u):(∃ v,w.cell? ⟨g,j,none⟩ = some v) ∧ w.frozen? ⟨g,j,none⟩ = false ∧ g < w.heap.size:=by
 obtain ⟨cur,h1,h2,h3⟩:=h
 obtain ⟨v,v1,-⟩:=h3 j hj
 exact ⟨⟨v,(h1.cell j).trans v1⟩,h1.free j,h1.lt⟩
theorem XAt.done {w:World} {g u r k:Nat} {told:Nat → Nat} {X:F} (h:XAt w g u r u told X k) (ho:∀ j,j < u → ∃ i,i < u ∧ told i = j) (hu:u ≤ maxLen):LinesR w (.slice (some ⟨g,0,none⟩) u u) u r X k:=by
 obtain ⟨cur,h1,h2,h3⟩:=h
 refine ⟨_,_,rfl,Nat.le_refl _,hu,.inr ⟨g,0,cur,rfl,h1,fun j hj=>?_⟩⟩
 obtain ⟨v,v1,v2⟩:=h3 j hj
 refine ⟨v,by rw [Nat.zero_add]; exact v1,?_⟩
 rcases v2 with ⟨-,v2⟩ | v2
 ·obtain ⟨i,hi,e⟩:=ho j hj
  exact absurd e (v2 i hi)
 ·exact v2
theorem LinesO.xat {w:World} {g u r C k:Nat} {M:F} (h:LinesO w g u 0 C M k) (told:Nat → Nat) (X:F) (kx:Nat):XAt w g u r 0 told X kx:=by
 obtain ⟨cur,h1,h2,h3,h4⟩:=h.cells
 exact ⟨cur,h1,h2,fun j hj=>⟨_,h4 j (Nat.zero_le _) hj,.inl ⟨rfl,fun i hi=>by omega⟩⟩⟩
theorem Kb_le (s u i l:Nat):Kb s u i l ≤ bk s u:=by
 unfold Kb
 split
 ·exact bk_le (by omega)
 ·exact bk_ge _ _
/-- Another block of lines is written over. -/
theorem Eqs.apart {B:Nat} {w w':World} {e L cap R u N t b:Nat} {E:F} {told K G c:Nat → Nat} {cur:Array Value} (h:Eqs B w e L cap R u N t E told K G c) (hg:w.grownBy w' (some b)) (hc:CellsAt w b cur 113) (ho:Odd w b) (hne:L ≠ b):Eqs B w' e L cap R u N t E told K G c:=by
 refine h.other hg hc (by decide) (by decide) (h.lns.keeps (keeps_grown hg) (fun x hx=>by rw [hx]; exact ho) hne fun i hi hx=>?_) h.bG
 obtain ⟨cg,hcg,-⟩:=(h.lns.line i hi).cells
 exact cells_ne hcg hc (by decide) hx
theorem Tryz.matAnswers (B e L cap R u r k:Nat) (E:F) (told G c:Nat → Nat) (w:World) (h:Eqs B w e L cap R u (u + r) 0 E told (fun _=>k) G c) (hu0:0 < u) (hr:0 < r) (hR:R ≤ 1000) (hN:u + r ≤ 1000) (hk:1 ≤ k) (hs:bk (gr k u) u ≤ 30000000000) (hB:B ≤ w.heap.size) :
 Calls Tryz.prog 82 #[.pointer (some ⟨e,0,none⟩)] w fun q w'=>((q = .returned (.tuple #[.slice none 0 0,.bool false]) ∧ AnsN E R u r) ∨ (∃ g X,q = .returned (.tuple #[.slice (some ⟨g,0,none⟩) u u,.bool true]) ∧ AnsY E X R u r ∧ LinesR w' (.slice (some ⟨g,0,none⟩) u u) u r X (bk (gr k u) u))) ∧ Below B w w':=by
 have HE0:=Lib.hid h
 have HBB:=Lib.hid hB
 have HSS:=Lib.hid hs
 have hgs:=bk_ge (gr k u) u
 clear h hB
 go_enter Tryz.func82,Tryz.ntmps82
 go_wp2_with fail
 with_reducible refine (Tryz.matEliminate B e L cap R u (u + r) k E told G c _ HE0.out (by omega) hR hN hk (by omega) HBB.out).mono ?_
 rintro e1 w1 ⟨rfl,⟨t,E',told',G',c',he,heq,hec,hba⟩,hb⟩
 have HE:=Lib.hid he
 have HQ:=Lib.hid heq
 have HC:=Lib.hid hec
 have HA:=Lib.hid hba
 have HB:=Lib.hid hb
 have htu:=hec.tu
 have htR:=hec.le
 obtain ⟨p,q,hst⟩:=he.parts
 have HS:=Lib.hid hst
 clear he heq hec hba hb hst HE0
 go_wp2_with fail
 refine wp_region_held_drew (S:=fun w'=>w'.cell? ⟨e,0,none⟩ = some (.slice (some ⟨L,0,none⟩) R cap) ∧ w'.cell? ⟨e,1,none⟩ = some (.int .i64 u) ∧ w'.cell? ⟨e,2,none⟩ = some (.slice p t q)) (by kernel_rfl) ⟨HS.out.cell 0,HS.out.cell 1,HS.out.cell 2⟩ (fun hHeld=>?_)
 replace HB:=Lib.hid (HB.out.drew)
 replace HE:=Lib.hid (HE.out.below (Below.refl _ _).drew)
 replace HS:=Lib.hid (HS.out.below (Below.refl _ _).drew)
 clear hHeld
 generalize w1.drew = w1d at *
 have hHeld:(fun w':World=>w'.cell? ⟨e,0,none⟩ = some (.slice (some ⟨L,0,none⟩) R cap) ∧ w'.cell? ⟨e,1,none⟩ = some (.int .i64 u) ∧ w'.cell? ⟨e,2,none⟩ = some (.slice p t q)) w1d:=⟨HS.out.cell 0,HS.out.cell 1,HS.out.cell 2⟩
 refine takeY 0 (h:=?_)
 refine takeY 1 (h:=?_)
 refine takeY 2 (h:=?_)
 (try simp only [Act.put,List.setIfInBounds_toArray,List.set_cons_zero,List.set_cons_succ])
 refine takeY 3 (h:=?_)
 refine takeY 4 (h:=?_)
 refine takeY 5 (h:=?_)
 (try simp only [Act.put,List.setIfInBounds_toArray,List.set_cons_zero,List.set_cons_succ])
 refine takeY 6 (h:=?_)
 refine takeY 7 (h:=?_)
 refine takeY 8 (h:=?_)
 (try simp only [Act.put,List.setIfInBounds_toArray,List.set_cons_zero,List.set_cons_succ])
 refine takeY 9 (h:=?_)
 (try simp only [Act.put,List.setIfInBounds_toArray,List.set_cons_zero,List.set_cons_succ])
 refine wpAnyH_done (by kernel_rfl) ?_ _
 by_cases hlt:t < u
 ·have e1:decide ((t:Int) < (u:Int)) = true:=by simp; omega
  have e1':decide (t < u) = true:=by simpa using hlt
  have HR:Hid (AnsN E R u r):=ansN_rank HQ.out HC.out HA.out hlt
  clear HQ HC HA HE HS
  go_wp2
  go_ret2
  exact ⟨.inl ⟨rfl,HR.out⟩,HB.out⟩
 ·obtain rfl:t = u:=by omega
  have e1:decide ((t:Int) < (t:Int)) = false:=by simp
  have e1':decide (t < t) = false:=by simp
  clear hlt
  have hcap:=HE.out.lns.le
  have hmax:=HE.out.lns.max
  unfold maxLen at hmax
  have t0:(0:Int) ≤ (t:Int):=by omega
  have t1:(t:Int) ≤ (R:Int):=by omega
  have t2:(t:Int) ≤ (cap:Int):=by omega
  obtain ⟨m,hm⟩:∃ m,R - t = m:=⟨_,rfl⟩
  have HM:=Lib.hid hm
  clear hm
  go_upto_region 4 with (fail)
  go_cut [29,30,31] (fun sv nv iv wx=>(∃ o c3,sv = .slice (some ⟨L,o,none⟩) m c3 ∧ (o = t ∨ m = 0)) ∧ nv = .int .i64 m ∧ iv = .int .i64 0 ∧ Eqs B wx e L cap R t (t + r) t E' told' (fun _=>gr k t) G' c' ∧ CellsAt wx e #[.slice (some ⟨L,0,none⟩) R cap,.int .i64 t,.slice p t q] 126 ∧ Below B w wx)
  case first=>
   by_cases hct:cap = t
   ·have HCT:=Lib.hid hct
    refine wp_region_held_drew (S:=fun w'=>w'.cell? ⟨e,0,none⟩ = some (.slice (some ⟨L,0,none⟩) R cap) ∧ w'.cell? ⟨e,1,none⟩ = some (.int .i64 t) ∧ w'.cell? ⟨e,2,none⟩ = some (.slice p t q)) (by kernel_rfl) ⟨HS.out.cell 0,HS.out.cell 1,HS.out.cell 2⟩ (fun hHeld=>?_)
    replace HB:=Lib.hid (HB.out.drew)
    replace HE:=Lib.hid (HE.out.below (Below.refl _ _).drew)
    replace HS:=Lib.hid (HS.out.below (Below.refl _ _).drew)
    clear hHeld
    generalize w1d.drew = w1dd at *
    have hHeld:(fun w':World=>w'.cell? ⟨e,0,none⟩ = some (.slice (some ⟨L,0,none⟩) R cap) ∧ w'.cell? ⟨e,1,none⟩ = some (.int .i64 t) ∧ w'.cell? ⟨e,2,none⟩ = some (.slice p t q)) w1dd:=⟨HS.out.cell 0,HS.out.cell 1,HS.out.cell 2⟩
    refine takeY 0 (h:=?_)
    refine takeY 1 (h:=?_)
    refine takeY 2 (h:=?_)
    (try simp only [Act.put,List.setIfInBounds_toArray,List.set_cons_zero,List.set_cons_succ])
    refine takeY 3 (h:=?_)
    refine takeY 4 (h:=?_)
    refine takeY 5 (h:=?_)
    (try simp only [Act.put,List.setIfInBounds_toArray,List.set_cons_zero,List.set_cons_succ])
    refine takeY 6 (h:=?_)
    refine takeY 7 (h:=?_)
    refine takeY 8 (h:=?_)
    (try simp only [Act.put,List.setIfInBounds_toArray,List.set_cons_zero,List.set_cons_succ])
    refine takeY 9 (h:=?_)
    refine takeY 10 (h:=?_)
    (try simp only [Act.put,List.setIfInBounds_toArray,List.set_cons_zero,List.set_cons_succ])
    refine wpAnyH_done (by kernel_rfl) ?_ _
    go_wp2_with fail
    go_meet
    exact ⟨⟨0,cap - t,by have h:=HM.out; simp [h,hct],.inr (by have h:=HM.out; omega)⟩,by have h:=HM.out; simp; omega,rfl,HE.out,HS.out,HB.out⟩
   ·skip
    refine wp_region_held_drew (S:=fun w'=>w'.cell? ⟨e,0,none⟩ = some (.slice (some ⟨L,0,none⟩) R cap) ∧ w'.cell? ⟨e,1,none⟩ = some (.int .i64 t) ∧ w'.cell? ⟨e,2,none⟩ = some (.slice p t q)) (by kernel_rfl) ⟨HS.out.cell 0,HS.out.cell 1,HS.out.cell 2⟩ (fun hHeld=>?_)
    replace HB:=Lib.hid (HB.out.drew)
    replace HE:=Lib.hid (HE.out.below (Below.refl _ _).drew)
    replace HS:=Lib.hid (HS.out.below (Below.refl _ _).drew)
    clear hHeld
    generalize w1d.drew = w1dd at *
    have hHeld:(fun w':World=>w'.cell? ⟨e,0,none⟩ = some (.slice (some ⟨L,0,none⟩) R cap) ∧ w'.cell? ⟨e,1,none⟩ = some (.int .i64 t) ∧ w'.cell? ⟨e,2,none⟩ = some (.slice p t q)) w1dd:=⟨HS.out.cell 0,HS.out.cell 1,HS.out.cell 2⟩
    refine takeY 0 (h:=?_)
    refine takeY 1 (h:=?_)
    refine takeY 2 (h:=?_)
    (try simp only [Act.put,List.setIfInBounds_toArray,List.set_cons_zero,List.set_cons_succ])
    refine takeY 3 (h:=?_)
    refine takeY 4 (h:=?_)
    refine takeY 5 (h:=?_)
    (try simp only [Act.put,List.setIfInBounds_toArray,List.set_cons_zero,List.set_cons_succ])
    refine takeY 6 (h:=?_)
    refine takeY 7 (h:=?_)
    refine takeY 8 (h:=?_)
    (try simp only [Act.put,List.setIfInBounds_toArray,List.set_cons_zero,List.set_cons_succ])
    refine takeY 9 (h:=?_)
    refine takeY 10 (h:=?_)
    (try simp only [Act.put,List.setIfInBounds_toArray,List.set_cons_zero,List.set_cons_succ])
    refine wpAnyH_done (by kernel_rfl) ?_ _
    go_wp2_with fail
    go_meet
    exact ⟨⟨t,cap - t,by have h:=HM.out; simp [h],.inl rfl⟩,by have h:=HM.out; simp; omega,rfl,HE.out,HS.out,HB.out⟩
  case rest=>
   obtain ⟨⟨o,c3,rfl,ho⟩,rfl,rfl,he,hst,hb⟩:=hcut
   clear HE HB HS
   have HE:=Lib.hid he
   have HS:=Lib.hid hst
   have HB:=Lib.hid hb
   have hmR:=HM.out
   have s0:=hst.cell 0
   have s1:=hst.cell 1
   have s2:=hst.cell 2
   have s9:=hst.lt
   clear he hst hb
   go_wp2_with fail
   clear s0 s1 s2 s9
   go_loopw [31] (fun iv wr=>∃ i:Nat,iv = .int .i64 i ∧ i ≤ m ∧ (∀ l,l < i → ∀ j,j < t + r → E' (t + l) j = 0) ∧ Eqs B wr e L cap R t (t + r) t E' told' (fun _=>gr k t) G' c' ∧ Below B w wr) (fun iv _=>m - (intOf iv).toNat)
   case atStart=>exact ⟨0,rfl,Nat.zero_le _,fun l hl=>by omega,HE.out,HB.out⟩
   case round=>
    obtain ⟨i,rfl,hi,hz,he,hb⟩:=hrel
    clear HE HS HB
    have HE:=Lib.hid he
    have HB:=Lib.hid hb
    have HZ:=Lib.hid hz
    by_cases hlt:i < m
    ·obtain rfl:o = t:=by omega
     obtain ⟨r0,-,r1⟩:=he.lns.cell (i:=o + i) (by omega)
     have HV:=Lib.hid (he.lns.line (o + i) (by omega)).read
     have i0:(0:Int) ≤ (i:Int):=by omega
     have i1:(i:Int) < (m:Int):=by omega
     clear he hb hz
     go_wp2_with fail
     with_reducible refine (Tryz.matEmpty (o + r) _ (E' (o + i)) (gr k o) _ HV.out hN).mono ?_
     rintro e1 w3 ⟨⟨y,rfl,hy1,hy2⟩,hb⟩
     have HE3:=Lib.hid (HE.out.below hb)
     have HB3:=Lib.hid (HB.out.trans (hb.mono (Nat.le_trans HBB.out HB.out.size)))
     clear hb HE HB HV r0 r1
     cases y
     ·obtain ⟨j,hj,hne⟩:=hy2 rfl
      have HR:Hid (AnsN E R o r):=ansN_line HQ.out HA.out (Nat.le_add_right o i) (by omega) hj hne
      clear hy1 hy2 hne HE3 HQ HC HA HZ
      go_wp2
      go_ret2
      exact ⟨.inl ⟨rfl,HR.out⟩,HB3.out⟩
     ·have HZ3 : Hid (∀ l, l < i + 1 → ∀ j, j < o + r → E' (o + l) j = 0) := fun l hl j hj => by
       by_cases e2:l = i
       ·rw [e2]; exact hy1 rfl j hj
       ·exact HZ.out l (by omega) j hj
      clear hy1 hy2 HZ
      go_wp2
      go_roundw
      case rel=>exact ⟨i + 1,by go_num,by omega,HZ3.out,HE3.out,HB3.out⟩
      case measure=>simp [intOf]; omega
    ·have e3:decide ((i:Int) < (m:Int)) = false:=by simp; omega
     have e3':decide (i < m) = false:=by simpa using hlt
     obtain rfl:i = m:=by omega
     clear he hb hz
     go_wp2_with fail
     with_reducible refine (Tryz.matPutBack B e L cap R t (t + r) r (gr k t) E' told' G' c' _ HE.out HC.out.col htR rfl hr hu0 hR hN (gr_pos hk) hs (Nat.le_trans HBB.out HB.out.size)).mono ?_
     rintro e2 w4 ⟨rfl,⟨H,hh,hkb⟩,hb⟩
     obtain ⟨b,q2,cur,hst,hcu,hq1,hq2,hcs⟩:=hh.tolds hu0
     have HH:=Lib.hid hh
     have HKB:=Lib.hid hkb
     have HB4:=Lib.hid (HB.out.trans hb)
     have HS4:=Lib.hid hst
     have HCU:=Lib.hid hcu
     have HCS:=Lib.hid hcs
     unfold maxLen at hq2
     clear hh hkb hb hst hcu hcs HE HB
     obtain ⟨w5,hmk,hox,hbm⟩:=Tryz.makeLines w4 t t r (fun _ _=>0) 0 rfl (by omega)
     obtain ⟨gx,hgx⟩:∃ gx,w4.heap.size = gx:=⟨_,rfl⟩
     have HGX:=Lib.hid hgx
     have hLx:L ≠ gx:=by
      obtain ⟨cl,h1,-⟩:=HH.out.lns.cells
      have:=h1.lt
      omega
     have hBx:B ≤ gx:=by have:=Nat.le_trans HBB.out HB4.out.size; omega
     rw [hgx] at hmk hox
     have d0:=HS4.out.cell 0
     have d1:=HS4.out.cell 1
     have d9:=HS4.out.lt
     have HH5:=Lib.hid (HH.out.below hbm)
     have HB5:=Lib.hid (HB4.out.trans (hbm.mono (Nat.le_trans HBB.out HB4.out.size)))
     have HS5:=Lib.hid (HS4.out.below hbm)
     have HCU5:=Lib.hid (HCU.out.below hbm)
     have HX5:=Lib.hid (hox.xat (r:=r) told' (ansX H told' t) (bk (gr k t) t))
     have d2:=HS5.out.cell 2
     have d8:=HS5.out.lt
     simp only [List.getElem?_toArray,List.getElem?_cons_zero,List.getElem?_cons_succ] at d0 d1 d2
     clear hbm hox hgx HH HB4 HS4 HCU
     go_wp2_with fail
     clear hmk d0 d1 d2 d8 d9
     go_loopw [51] (fun iv wr=>∃ i:Nat,iv = .int .i64 i ∧ i ≤ t ∧ XAt wr gx t r i told' (ansX H told' t) (bk (gr k t) t) ∧ Eqs B wr e L cap R t (t + r) t H told' (Kb (gr k t) t 0) G' c' ∧ CellsAt wr e #[.slice (some ⟨L,0,none⟩) R cap,.int .i64 t,.slice (some ⟨b,0,none⟩) t q2] 126 ∧ CellsAt wr b cur 3 ∧ Below B w wr) (fun iv _=>t - (intOf iv).toNat)
     case atStart=>exact ⟨0,rfl,Nat.zero_le _,HX5.out,HH5.out,HS5.out,HCU5.out,HB5.out⟩
     case round=>
      obtain ⟨n,rfl,hn,hx,hh,hs2,hcu,hb⟩:=hrel
      clear HX5 HH5 HS5 HCU5 HB5
      have HX:=Lib.hid hx
      have HH:=Lib.hid hh
      have HS:=Lib.hid hs2
      have HCU:=Lib.hid hcu
      have HB:=Lib.hid hb
      by_cases hlt2:n < t
      ·have b0:wr.cell? ⟨b,n,none⟩ = some (.int .i64 (told' n:Nat)):=(hcu.cell n).trans (HCS.out n hlt2)
       have b1:=hcu.lt
       have n0:(0:Int) ≤ (n:Int):=by omega
       have n1:(n:Int) < (t:Int):=by omega
       have n2:(n:Int) < (R:Int):=by omega
       have htn:=HC.out.col n hlt2
       have k0:(0:Int) ≤ (told' n:Int):=by omega
       have k1:(told' n:Int) < (t:Int):=by omega
       have u1:(t:Int) ≤ (t:Int) + (r:Int):=by omega
       have cn:=(hh.lns.line n (by omega)).le
       have cn9:=(hh.lns.line n (by omega)).max
       have cn2:c' n ≠ t:=by omega
       unfold maxLen at cn9
       clear hx hh hs2 hcu hb
       go_wp2_with fail
       clear b0 b1
       refine wp_region_held_drew (S:=fun w'=>w'.cell? ⟨e,0,none⟩ = some (.slice (some ⟨L,0,none⟩) R cap) ∧ w'.cell? ⟨e,1,none⟩ = some (.int .i64 t) ∧ w'.cell? ⟨L,n,none⟩ = some (.slice (some ⟨G' n,0,none⟩) (t + r) (c' n))) (by kernel_rfl) ⟨HS.out.cell 0,HS.out.cell 1,(HH.out.lns.cell (i:=n) (by omega)).1⟩ (fun hHeld=>?_)
       replace HB:=Lib.hid (HB.out.drew)
       replace HH:=Lib.hid (HH.out.below (Below.refl _ _).drew)
       replace HS:=Lib.hid (HS.out.below (Below.refl _ _).drew)
       replace HCU:=Lib.hid (HCU.out.below (Below.refl _ _).drew)
       replace HX:=Lib.hid (HX.out.below (Below.refl _ _).drew)
       clear hHeld
       generalize wr.drew = wd at *
       have hHeld:(fun w':World=>w'.cell? ⟨e,0,none⟩ = some (.slice (some ⟨L,0,none⟩) R cap) ∧ w'.cell? ⟨e,1,none⟩ = some (.int .i64 t) ∧ w'.cell? ⟨L,n,none⟩ = some (.slice (some ⟨G' n,0,none⟩) (t + r) (c' n))) wd:=⟨HS.out.cell 0,HS.out.cell 1,(HH.out.lns.cell (i:=n) (by omega)).1⟩
       refine takeY 0 (h:=?_)
       refine takeY 1 (h:=?_)
       refine takeY 2 (h:=?_)
       (try simp only [Act.put,List.setIfInBounds_toArray,List.set_cons_zero,List.set_cons_succ])
       refine takeY 3 (h:=?_)
       refine takeY 4 (h:=?_)
       refine takeY 5 (h:=?_)
       (try simp only [Act.put,List.setIfInBounds_toArray,List.set_cons_zero,List.set_cons_succ])
       refine takeY 6 (h:=?_)
       refine takeY 7 (h:=?_)
       refine takeY 8 (h:=?_)
       (try simp only [Act.put,List.setIfInBounds_toArray,List.set_cons_zero,List.set_cons_succ])
       refine takeY 9 (h:=?_)
       refine takeY 10 (h:=?_)
       refine takeY 11 (h:=?_)
       (try simp only [Act.put,List.setIfInBounds_toArray,List.set_cons_zero,List.set_cons_succ])
       refine takeY 12 (h:=?_)
       refine takeY 13 (h:=?_)
       (try simp only [Act.put,List.setIfInBounds_toArray,List.set_cons_zero,List.set_cons_succ])
       refine wpAnyH_ready (rs:=[14]) (by kernel_rfl) (by simp) ?_
       refine AllReadyH.cons (by (simp only [List.getElem?_toArray,List.getElem?_cons_succ,List.getElem?_cons_zero]) <;> rfl) (fun KX hK=>?_) AllReadyH.nil
       have hv:=(HH.out.lns.line n (by omega)).part rfl
       have hv:=hv.congr (f':=ansX H told' t (told' n)) (m:=bk (gr k t) t) (fun j _=>ansX_at H HC.out hlt2 j) (Kb_le _ _ _ _)
       go_simp
       with_reducible refine (Tryz.cloneL _ r (ansX H told' t (told' n)) (bk (gr k t) t) _ hv hr (by omega)).mono ?_
       rintro e wd21 ⟨⟨g,cg,rfl,hg,-⟩,hb⟩
       clear hv
       replace hg:=hg.read
       clear hHeld
       replace HB:=Lib.hid (HB.out.trans (hb.mono (Nat.le_trans HBB.out HB.out.size)))
       replace HH:=Lib.hid (HH.out.below hb)
       replace HS:=Lib.hid (HS.out.below hb)
       replace HCU:=Lib.hid (HCU.out.below hb)
       replace HX:=Lib.hid (HX.out.below hb)
       clear hb
       have HG:=Lib.hid hg
       clear hg
       refine hK.out _ _ ⟨HS.out.cell 0,HS.out.cell 1,(HH.out.lns.cell (i:=n) (by omega)).1⟩ (fun hHeld=>?_)
       clear hK KX
       (try simp only [Act.put,List.setIfInBounds_toArray,List.set_cons_zero,List.set_cons_succ])
       refine takeY 15 (h:=?_)
       (try simp only [Act.put,List.setIfInBounds_toArray,List.set_cons_zero,List.set_cons_succ])
       refine wpAnyH_ready (rs:=[16]) (by kernel_rfl) (by simp) ?_
       refine AllReadyH.cons (by (simp only [List.getElem?_toArray,List.getElem?_cons_succ,List.getElem?_cons_zero]) <;> rfl) (fun KX hK=>?_) AllReadyH.nil
       obtain ⟨⟨xv,x0⟩,x1,x2⟩:=HX.out.cell htn
       have hox:=HX.out.odd hr
       have HXN:Hid (XAt (wd21.setCell ⟨gx,told' n,none⟩ (.slice (some ⟨g,0,none⟩) r cg)) gx t r (n + 1) told' (ansX H told' t) (bk (gr k t) t)):=HX.out.set hr htn HG.out
       obtain ⟨cx,hcx,-⟩:=HX.out
       have HHN:Hid (Eqs B (wd21.setCell ⟨gx,told' n,none⟩ (.slice (some ⟨g,0,none⟩) r cg)) e L cap R t (t + r) t H told' (Kb (gr k t) t 0) G' c'):=HH.out.apart (grown_setCell _ _ _ _) hcx hox hLx
       have HSN:=Lib.hid (cells_far HS.out (grown_setCell wd21 gx (told' n) (.slice (some ⟨g,0,none⟩) r cg)) (cells_ne HS.out hcx (by decide)))
       have HCN:=Lib.hid (cells_far HCU.out (grown_setCell wd21 gx (told' n) (.slice (some ⟨g,0,none⟩) r cg)) (cells_ne HCU.out hcx (by decide)))
       have HBN:Hid (Below B w (wd21.setCell ⟨gx,told' n,none⟩ (.slice (some ⟨g,0,none⟩) r cg))):=HB.out.setCell (p:=⟨gx,told' n,none⟩) hBx _
       go_simp
       clear hHeld HB HH HS HCU HX HG x0 x1 x2 hox hcx
       refine hK.out _ _ ⟨HSN.out.cell 0,HSN.out.cell 1,(HHN.out.lns.cell (i:=n) (by omega)).1⟩ (fun hHeld=>?_)
       clear hK KX hHeld
       (try simp only [Act.put,List.setIfInBounds_toArray,List.set_cons_zero,List.set_cons_succ])
       refine wpAnyH_done (by kernel_rfl) ?_ _
       go_wp2
       go_roundw
       case rel=>exact ⟨n + 1,by go_num,by omega,HXN.out,HHN.out,HSN.out,HCN.out,HBN.out⟩
       case measure=>simp [intOf]; omega
      ·have e4:decide ((n:Int) < (t:Int)) = false:=by simp; omega
       have e4':decide (n < t) = false:=by simpa using hlt2
       obtain rfl:n = t:=by omega
       have HL:Hid (LinesR wr (.slice (some ⟨gx,0,none⟩) n n) n r (ansX H told' n) (bk (gr k n) n)):=hx.done (onto n told' HC.out.col (fun a b ha hb e=>HC.out.inj ha hb e)) (by unfold maxLen; omega)
       have HY:Hid (AnsY E (ansX H told' n) R n r):=ansY HQ.out HC.out HA.out (fun l h1 h2 j hj=>by
        have:=HZ.out (l - n) (by have:=HM.out; omega) j hj
        rwa [show n + (l - n) = l by omega] at this) HKB.out (fun a c ha=>ansX_at H HC.out ha c)
       clear hx hh hs2 hcu hb HX HH HS HCU
       go_wp2
       go_ret2
       exact ⟨.inr ⟨gx,_,rfl,HY.out,HL.out⟩,HB.out⟩
end Go.Proofs.Mt
namespace Go.Proofs.Mt
open Go.RowKit Go.Proofs.Wd Go.Proofs.Fr Go.Proofs.Vt Go.Proofs.Mm
theorem Fac.congr {M M':F} {m n r:Nat} (h:Fac M m n r) (e:∀ i k,i < m → k < n → M' i k = M i k):Fac M' m n r:=by
 obtain ⟨A,B,hf⟩:=h
 exact ⟨A,B,fun i k hi hk=>(e i k hi hk).trans (hf i k hi hk)⟩
theorem RankIs.congr {M M':F} {m n r:Nat} (h:RankIs M m n r) (e:∀ i k,i < m → k < n → M' i k = M i k):RankIs M' m n r:=
 ⟨Fac.congr h.1 e,fun s hs hf=>h.2 s hs (Fac.congr hf fun i k hi hk=>(e i k hi hk).symm)⟩
theorem cat_left {f g:Nat → Rat} {C j:Nat} (h:j < C):catF f g C j = f j:=by rw [catF,if_pos h]
theorem cat_right (f g:Nat → Rat) (C j:Nat):catF f g C (C + j) = g j:=by rw [catF,if_neg (by omega),Nat.add_sub_cancel_left]
theorem dot_cat (f g x:Nat → Rat) (C:Nat):dotF (catF f g C) x C = dotF f x C:=Vm.sum_congr fun j hj=>by rw [cat_left hj]
/-- Lines of the call's own that are made one behind the other. -/
structure Uni (B:Nat) (w:World) (g R i N:Nat) (E:F) (k:Nat) (G c:Nat → Nat):Prop where
 lns:LnsAt w g R i N E (fun _=>k) G c
 rest:∀ j,i ≤ j → j < R → w.cell? ⟨g,j,none⟩ = some (.slice none 0 0)
 bg:B ≤ g
theorem Uni.below {B:Nat} {w w':World} {g R i N k:Nat} {E:F} {G c:Nat → Nat} (h:Uni B w g R i N E k G c) (hb:Below w.heap.size w w'):Uni B w' g R i N E k G c:=
 ⟨h.lns.below hb,fun j h1 h2=>cellOf hb (h.rest j h1 h2),h.bg⟩
theorem LinesO.uni {B:Nat} {w:World} {g R C k N kx:Nat} {M E:F} (h:LinesO w g R 0 C M k) (hB:B ≤ g):Uni B w g R 0 N E kx (fun _=>0) (fun _=>0):=by
 obtain ⟨cur,h1,h2,h3,h4⟩:=h.cells
 exact ⟨LnsAt.none h1 h2 h.max,fun j _ hj=>(h1.cell j).trans (h4 j (Nat.zero_le _) hj),hB⟩
theorem Uni.odd {B:Nat} {w:World} {g R i N k:Nat} {E:F} {G c:Nat → Nat} (h:Uni B w g R i N E k G c) (hi:i < R):Odd w g:=by
 by_cases e:i = 0
 ·subst e
  obtain ⟨cur,h1,-⟩:=h.lns.cells
  refine ⟨cur,_,h1,by decide,fun u hu=>?_⟩
  have:=(h1.cell 0).symm.trans (h.rest 0 (Nat.le_refl _) hi)
  rw [hu] at this
  rw [Option.some.inj this]
  exact .inr (.inl ⟨0,0,rfl⟩)
 ·exact h.lns.odd (by omega)
theorem Uni.step {B:Nat} {w:World} {g R i N k b cb:Nat} {E E':F} {G c:Nat → Nat} (h:Uni B w g R i N E k G c) (hi:i < R) (hl:LineO w b N cb (E' i) k) (hg:∀ l,l < i → G l ≠ b) (he:∀ l,l < i → E' l = E l) :
 Uni B (w.setCell ⟨g,i,none⟩ (.slice (some ⟨b,0,none⟩) N cb)) g R (i + 1) N E' k (fun l=>if l = i then b else G l) (fun l=>if l = i then cb else c l):=by
 have ho:=h.odd hi
 have h':LnsAt w g R i N E' (fun _=>k) G c:=h.lns.congr (fun l hl j _=>by rw [he l hl]) (fun _ _=>Nat.le_refl _)
 obtain ⟨cur,h1,h2,h3⟩:=h.lns.cells
 exact ⟨h'.grow hi ho hl hg (Nat.le_refl _),fun j h4 h5=>((h1.set i _).cell j).trans ((get_put (by omega)).trans ((h1.cell j).symm.trans (h.rest j (by omega) h5))),h.bg⟩
theorem Uni.setLine {B:Nat} {w w':World} {g R i N k:Nat} {E E':F} {G c:Nat → Nat} {f:Nat → Rat} (h:Uni B w g R (i + 1) N E k G c) (hN:0 < N) (hg:w.grownBy w' (some (G i))) (hl:LineO w' (G i) N (c i) f k) (he:∀ j,j < N → E' i j = f j) (he':∀ l,l < i → E' l = E l):Uni B w' g R (i + 1) N E' k G c:=by
 obtain ⟨cur,h1,h2,h3⟩:=h.lns.cells
 have h1':=cells_far h1 hg (fun e=>h.lns.neL (by omega) e.symm)
 exact ⟨h.lns.setLine hN (by omega) hg hl he (Nat.le_refl _) fun l hl' e=>⟨he' l (by omega),Nat.le_refl _⟩,fun j h4 h5=>(h1'.cell j).trans ((h1.cell j).symm.trans (h.rest j h4 h5)),h.bg⟩
theorem Uni.right {B:Nat} {w:World} {g R N k kk:Nat} {E:F} {G c:Nat → Nat} (h:Uni B w g R R N E k G c) (hN:0 < N) (hk:k ≤ kk):RightR w g R N E kk:=by
 obtain ⟨cur,h1,h2,h3⟩:=h.lns.cells
 exact ⟨cur,h1,fun i hi=>⟨_,_,h3 i hi,.inl ⟨hN,(h.lns.line i hi).read.congr (fun _ _=>rfl) hk⟩⟩⟩
/-- The units that stand by now. -/
def unitF (i:Nat):F:=fun l=>if l < i then oneF l else fun _=>0
theorem unitF_put (i:Nat):∀ j,unitF (i + 1) i j = if j = i then 1 else 0:=fun j=>by
 rw [unitF,if_pos (by omega),oneF]
 by_cases e:i = j
 ·rw [if_pos e,if_pos e.symm]
 ·rw [if_neg e,if_neg (fun x=>e x.symm)]
theorem unitF_old {i l:Nat} (h:l < i):unitF (i + 1) l = unitF i l:=by rw [unitF,if_pos (by omega),unitF,if_pos h]
theorem Tryz.matInverse (v:Value) (n k:Nat) (M:F) (w:World) (hv:MatR w v n n M k) (hn0:0 < n) (hn:n ≤ 400) (hk:1 ≤ k) (hs:bk (gr k n) n ≤ 30000000000) :
 Calls Tryz.prog 35 #[v] w fun q w'=>((q = .returned (.tuple #[.pointer none,.bool false]) ∧ ∃ t,t < n ∧ RankIs M n n t) ∨ (∃ rv X,q = .returned (.tuple #[rv,.bool true]) ∧ MatR w' rv n n X (bk (gr k n) n) ∧ (∀ i c,i < n → c < n → mulF M X n i c = oneF i c))) ∧ Below w.heap.size w w':=by
 have HM:=Lib.hid hv
 have e1:decide ((n:Int) = (n:Int)) = true:=by simp
 clear hv
 go_enter Tryz.func35,Tryz.ntmps35
 go_wp2_with fail
 with_reducible refine (Tryz.matSize v n n M k _ HM.out).mono ?_
 rintro e1 w1 ⟨rfl,hb1⟩
 have HM1:=Lib.hid (HM.out.below hb1)
 have HB1:=Lib.hid hb1
 obtain ⟨w2,hmk,ho,hb⟩:=Tryz.makeLines w1 n n n (fun _ _=>0) 0 rfl (by omega)
 obtain ⟨g,hg⟩:∃ g,w1.heap.size = g:=⟨_,rfl⟩
 have HU:Hid (Uni w1.heap.size w2 w1.heap.size n 0 n (unitF 0) 1 (fun _=>0) (fun _=>0)):=ho.uni (Nat.le_refl _)
 have HB2:=Lib.hid hb
 have HGE:Hid (w.heap.size ≤ w1.heap.size):=hb1.size
 rw [hg] at hmk HU
 have hB:w1.heap.size ≤ g:=Nat.le_of_eq hg
 clear ho hb hb1 HM hg
 go_wp2_with fail
 clear hmk
 go_loopw [22] (fun iv wr=>∃ (i:Nat) (G c:Nat → Nat),iv = .int .i64 i ∧ i ≤ n ∧ Uni g wr g n i n (unitF i) 1 G c ∧ (∀ l,l < i → w1.heap.size ≤ G l) ∧ Below w1.heap.size w1 wr) (fun iv _=>n - (intOf iv).toNat)
 case atStart=>exact ⟨0,_,_,rfl,Nat.zero_le _,⟨HU.out.lns,HU.out.rest,Nat.le_refl _⟩,fun l hl=>by omega,HB2.out⟩
 case round=>
  obtain ⟨i,G,c,rfl,hi,hu,hG,hb⟩:=hrel
  clear HU HB2
  have HU:=Lib.hid hu
  have HB:=Lib.hid hb
  have HGG:=Lib.hid hG
  by_cases hlt:i < n
  ·have i0:(0:Int) ≤ (i:Int):=by omega
   have i1:(i:Int) < (n:Int):=by omega
   have HL:Hid (∀ l,l < i → G l < wr.heap.size):=fun l hl=>(hu.lns.line l hl).lt
   clear hu hb hG
   go_wp2_with fail
   with_reducible refine (Tryz.matNoughts n _ (by omega)).mono ?_
   rintro e2 w3 ⟨⟨b,rfl,hl,hge⟩,hb⟩
   have hu3:=HU.out.below hb
   have x0:=hu3.rest i (Nat.le_refl _) hlt
   obtain ⟨cu,hcu,-⟩:=hu3.lns.cells
   have x1:=hcu.free i
   have x2:=hcu.lt
   have hst:=hu3.step (E':=fun l=>if l < i then unitF i l else fun _=>0) (b:=b) (cb:=n) hlt (hl.congr (fun j _=>by rw [if_neg (by omega)]) (Nat.le_refl _)) (fun l hl'=>by have:=HL.out l hl'; omega) (fun l hl'=>by rw [if_pos hl'])
   obtain ⟨w4,hw4⟩:∃ W,w3.setCell ⟨g,i,none⟩ (.slice (some ⟨b,0,none⟩) n n) = W:=⟨_,rfl⟩
   have HB4:Hid (Below w1.heap.size w1 w4):=by rw [← hw4]; exact (HB.out.trans (hb.mono HB.out.size)).setCell (p:=⟨g,i,none⟩) hB _
   rw [hw4] at hst
   have HU4:=Lib.hid hst
   have hbw:w1.heap.size ≤ b:=Nat.le_trans HB.out.size hge
   have HG4:Hid (∀ l,l < i + 1 → w1.heap.size ≤ (fun l=>if l = i then b else G l) l):=fun l hl'=>by
    by_cases e:l = i
    ·simp only [e,if_true]; exact hbw
    ·simp only [e,if_false]; exact HGG.out l (by omega)
   clear hst hu3 hl hge hb HU HB HL HGG hcu
   go_wp2_with fail
   clear hw4 x0 x1 x2
   refine wp_region_held_drew (S:=fun w'=>w'.cell? ⟨g,i,none⟩ = some (.slice (some ⟨b,0,none⟩) n n)) (by kernel_rfl) (by have h:=(HU4.out.lns.cell (i:=i) (by omega)).1; simpa using h) (fun hHeld=>?_)
   replace HB4:=Lib.hid (HB4.out.drew)
   replace HU4:=Lib.hid (HU4.out.below (Below.refl _ _).drew)
   clear hHeld
   generalize w4.drew = wd at *
   have hHeld:(fun w':World=>w'.cell? ⟨g,i,none⟩ = some (.slice (some ⟨b,0,none⟩) n n)) wd:=(by have h:=(HU4.out.lns.cell (i:=i) (by omega)).1; simpa using h)
   refine takeY 0 (h:=?_)
   refine takeY 1 (h:=?_)
   refine takeY 2 (h:=?_)
   (try simp only [Act.put,List.setIfInBounds_toArray,List.set_cons_zero,List.set_cons_succ])
   refine takeY 3 (h:=?_)
   refine takeY 4 (h:=?_)
   (try simp only [Act.put,List.setIfInBounds_toArray,List.set_cons_zero,List.set_cons_succ])
   refine wpAnyH_ready (rs:=[5]) (by kernel_rfl) (by simp) ?_
   refine AllReadyH.cons (by (simp only [List.getElem?_toArray,List.getElem?_cons_succ,List.getElem?_cons_zero]) <;> rfl) (fun KX hK=>?_) AllReadyH.nil
   go_simp
   with_reducible refine (Tryz.Of 1 _ (by omega) (by omega)).mono ?_
   rintro e wd21 ⟨⟨ov,rfl,hov⟩,hb⟩
   obtain ⟨oa,rfl⟩:=frac_pointer hov
   clear hHeld
   replace HB4:=Lib.hid (HB4.out.trans (hb.mono HB4.out.size))
   replace HU4:=Lib.hid (HU4.out.below hb)
   clear hb
   have HO:=Lib.hid hov
   clear hov
   refine hK.out _ _ (by have h:=(HU4.out.lns.cell (i:=i) (by omega)).1; simpa using h) (fun hHeld=>?_)
   clear hK KX
   (try simp only [Act.put,List.setIfInBounds_toArray,List.set_cons_zero,List.set_cons_succ])
   refine takeY 6 (h:=?_)
   (try simp only [Act.put,List.setIfInBounds_toArray,List.set_cons_zero,List.set_cons_succ])
   refine wpAnyH_ready (rs:=[7]) (by kernel_rfl) (by simp) ?_
   refine AllReadyH.cons (by (simp only [List.getElem?_toArray,List.getElem?_cons_succ,List.getElem?_cons_zero]) <;> rfl) (fun KX hK=>?_) AllReadyH.nil
   have hl:=HU4.out.lns.line i (by omega)
   simp only [if_true,Nat.lt_irrefl,if_false] at hl
   obtain ⟨oc,y0,y1,-⟩:=hl.cell hlt
   have hgr:=grown_setCell wd21 b i (.pointer oa)
   have hsl:=hl.set HO.out hlt
   have HUN:Hid (Uni g (wd21.setCell ⟨b,i,none⟩ (.pointer oa)) g n (i + 1) n (unitF (i + 1)) 1 (fun l=>if l = i then b else G l) (fun l=>if l = i then n else c l)):=HU4.out.setLine (E':=unitF (i + 1)) (f:=fun j=>if j = i then 1 else 0) hn0 (by simpa using hgr) (by simpa using hsl) (fun j _=>unitF_put i j) (fun l hl'=>by rw [unitF_old hl',if_pos hl'])
   have HBN:Hid (Below w1.heap.size w1 (wd21.setCell ⟨b,i,none⟩ (.pointer oa))):=HB4.out.setCell (p:=⟨b,i,none⟩) hbw _
   go_simp
   clear hHeld HB4 HU4 HO hl hgr hsl y0 y1
   refine hK.out _ _ (by have h:=(HUN.out.lns.cell (i:=i) (by omega)).1; simpa using h) (fun hHeld=>?_)
   clear hK KX hHeld
   (try simp only [Act.put,List.setIfInBounds_toArray,List.set_cons_zero,List.set_cons_succ])
   refine wpAnyH_done (by kernel_rfl) ?_ _
   go_wp2
   go_roundw
   case rel=>exact ⟨i + 1,_,_,by go_num,by omega,HUN.out,HG4.out,HBN.out⟩
   case measure=>simp [intOf]; omega
  ·have e3:decide ((i:Int) < (n:Int)) = false:=by simp; omega
   have e3':decide (i < n) = false:=by simpa using hlt
   obtain rfl:i = n:=by omega
   have HRT:Hid (RightR wr g i i (unitF i) k):=hu.right hn0 hk
   have HM2:=Lib.hid (HM1.out.below hb)
   clear hu hb hG HU HGG HM1
   go_wp2_with fail
   with_reducible refine (Tryz.matBeside v g i i i k M (unitF i) _ HM2.out HRT.out hn0 (by omega) hn0 (by omega) (fun _=>0)).mono ?_
   rintro e2 w3 ⟨⟨e,L,cap2,G2,c2,rfl,he⟩,hb⟩
   have HE:=Lib.hid he
   have HB3:=Lib.hid (HB.out.trans (hb.mono HB.out.size))
   have HBB:Hid (wr.heap.size ≤ w3.heap.size):=hb.size
   have HBW:=Lib.hid HB.out.size
   clear he hb HB
   go_wp2_with fail
   with_reducible refine (Tryz.matAnswers wr.heap.size e L cap2 i i i k _ (fun _=>0) G2 c2 _ HE.out hn0 hn0 (by omega) (by omega) hk hs HBB.out).mono ?_
   rintro e3 w4 ⟨⟨rfl,hno⟩ | ⟨gx,X,rfl,hy,hl⟩,hb⟩
   ·have HR : Hid (∃ t, t < i ∧ RankIs M i i t) := by
     rcases hno with ⟨t,h1,h2⟩ | ⟨h1,-⟩
     ·exact ⟨t,h1,RankIs.congr h2 fun a b _ hb'=>(cat_left hb').symm⟩
     ·omega
    have HB5:=Lib.hid (HB1.out.trans ((HB3.out.trans (hb.mono HBW.out)).mono HGE.out))
    clear hno hb HE HB3 HBB HBW
    go_wp2
    go_ret2
    exact ⟨.inl ⟨rfl,HR.out⟩,HB5.out⟩
   ·have HX : Hid (∀ a c, a < i → c < i → mulF M X i a c = oneF a c) := fun a c ha hc => by
     have:=hy.sol c hc a ha
     rw [dot_cat,cat_right,unitF,if_pos ha] at this
     exact this
    have HB5:Hid (Below w1.heap.size w1 w4):=HB3.out.trans (hb.mono HBW.out)
    have HL:=Lib.hid hl
    clear hy hb hl HE HB3 HBB HBW
    have HMX:Hid (MatR (w4.alloc (.cells #[.slice (some ⟨gx,0,none⟩) i i,.int .i64 i] 117)) (.pointer (some ⟨w4.heap.size,0,none⟩)) i i X (bk (gr k i) i)):=⟨_,_,rfl,CellsAt.new _ _ _ rfl,HL.out.below ((Below.refl _ _).alloc (Nat.le_refl _) _)⟩
    have HB6:Hid (Below w.heap.size w (w4.alloc (.cells #[.slice (some ⟨gx,0,none⟩) i i,.int .i64 i] 117))):=(HB1.out.trans (HB5.out.mono HGE.out)).alloc (HB1.out.trans (HB5.out.mono HGE.out)).size _
    clear HL HB5
    go_wp2
    go_ret2
    exact ⟨.inr ⟨_,X,rfl,HMX.out,HX.out⟩,HB6.out⟩
end Go.Proofs.Mt
namespace Go.Proofs.Mt
open Go.RowKit Go.Proofs.Wd Go.Proofs.Fr Go.Proofs.Vt Go.Proofs.Mm
end Go.Proofs.Mt
namespace Go.Proofs.Mt
open Go.RowKit Go.Proofs.Wd Go.Proofs.Fr Go.Proofs.Vt Go.Proofs.Mm
theorem dim4 (a:Int):∃ R:Nat,1 + a.tmod 4 % 4 = (R:Int) ∧ 1 ≤ R ∧ R ≤ 4 ∧ -3 ≤ a.tmod 4 ∧ a.tmod 4 ≤ 3:=by
 have h1:=Int.tmod_lt_of_pos a (show (0:Int) < 4 by omega)
 have h2:=Int.lt_tmod_of_pos a (show (0:Int) < 4 by omega)
 exact ⟨(1 + a.tmod 4 % 4).toNat,by omega,by omega,by omega,by omega,by omega⟩
end Go.Proofs.Mt
namespace Go.Proofs.Mt
open Go.RowKit Go.Proofs.Wd Go.Proofs.Fr Go.Proofs.Vt Go.Proofs.Mm
theorem lawsSize:∀ d,d < 5 → bk (gr 120 d) d ≤ 30000000000 ∧ bk (gr (bk (gr 120 d) d) d) d ≤ 30000000000:=by decide
theorem matWorld {w:World} {v:Value} {R C k:Nat} {M:F} (h:MatR w v R C M k):∃ W,W = w:=⟨w,rfl⟩
theorem mul_turn (A B:F) (d i k:Nat):mulF (fun i j=>B j i) (fun i j=>A j i) d k i = mulF A B d i k:=Vm.sum_congr fun j _=>Rat.mul_comm _ _
theorem matLawsWalk (a:Int) (v1 v2 v3:Value) (s1 s2 s3:List ByteArray) (w:World) (wa:-9223372036854775808 ≤ a ∧ a ≤ 9223372036854775807) (hv1:StrsIn w v1 s1) (hv2:StrsIn w v2 s2) (hv3:StrsIn w v3 s3)
 (hB:Calls Tryz.prog 11 #[] w fun e w'=>e = .returned (.bool true) ∧ Below w.heap.size w w') :
 Calls Tryz.prog 9 #[.int .i64 a,v1,v2,v3] w fun e w'=>e = .returned (.bool true) ∧ Below w.heap.size w w':=by
 have HV1:=Lib.hid hv1
 have HV2:=Lib.hid hv2
 have HV3:=Lib.hid hv3
 have HB:Hid (Below w.heap.size w w):=Below.refl _ _
 obtain ⟨d,hd,d1,d4,ra,rb⟩:=dim4 a
 have HD:=Lib.hid hd
 obtain ⟨wa0,wa1⟩:=wa
 obtain ⟨hz1,hz2⟩:=lawsSize d (by omega)
 obtain ⟨KI,hK⟩:∃ K,bk (gr 120 d) d = K:=⟨_,rfl⟩
 have HK:=Lib.hid hK
 have hKI:120 ≤ KI:=by rw [← hK]; exact Nat.le_trans (gr_le (n:=0) (Nat.zero_le _)) (bk_ge _ _)
 rw [hK] at hz1 hz2
 obtain ⟨KB,hKB⟩:∃ K,bk (gr KI d) d = K:=⟨_,rfl⟩
 have HKB:=Lib.hid hKB
 have hKB1:120 ≤ KB:=by rw [← hKB]; exact Nat.le_trans (Nat.le_trans hKI (gr_le (n:=0) (Nat.zero_le _))) (bk_ge _ _)
 rw [hKB] at hz2
 obtain ⟨K1,hK1⟩:∃ K,1 + d * (120 + 120 + 1) = K:=⟨_,rfl⟩
 have hK1a:1 ≤ K1:=by omega
 have hK1b:K1 ≤ 965:=by omega
 obtain ⟨K2,hK2⟩:∃ K,1 + d * (K1 + 120 + 1) = K:=⟨_,rfl⟩
 have hm:d * (K1 + 120 + 1) ≤ 4 * (965 + 120 + 1):=Nat.mul_le_mul d4 (by omega)
 have hK2a:1 ≤ K2:=by omega
 have hK2b:K2 ≤ 5000:=by omega
 have hK2c:1 + d * (120 + K1 + 1) = K2:=by rw [← hK2,Nat.add_comm 120 K1]
 have HK1:=Lib.hid hK1
 have HK2:=Lib.hid hK2
 have HK3:=Lib.hid hK2c
 clear hv1 hv2 hv3 hd hK hKB hm hK1 hK2 hK2c
 go_enter Tryz.func9,Tryz.ntmps9
 go_wp2_with fail
 with_reducible refine (hB).mono ?_
 rintro e w1 ⟨rfl,hb⟩
 replace HB:=Lib.hid (HB.out.trans (hb.mono HB.out.size))
 clear hb
 clear hB
 go_wp2_with fail
 rw [HD.out]
 clear HD ra rb wa0 wa1
 with_reducible refine (Tryz.matrix d d v1 s1 _ (HV1.out.below HB.out) (by omega) (by omega) (by omega) (by omega)).mono ?_
 rintro e w2 ⟨⟨lx1,rfl,hx⟩,hb⟩
 replace HB:=Lib.hid (HB.out.trans (hb.mono HB.out.size))
 clear hb
 have HX:=Lib.hid hx
 clear hx
 go_wp2_with fail
 with_reducible refine (Tryz.matNew lx1 d d _ (matQ s1) _ HX.out (fun i j _ _=>matQ_get s1 i j) (by omega) (by omega) (by omega) (by omega)).mono ?_
 rintro e w3 ⟨⟨um1,rfl,hu⟩,hb⟩
 replace HB:=Lib.hid (HB.out.trans (hb.mono HB.out.size))
 clear hb HX
 have HU1:=Lib.hid hu
 clear hu
 go_wp2_with fail
 with_reducible refine (Tryz.matrix d d v2 s2 _ (HV2.out.below HB.out) (by omega) (by omega) (by omega) (by omega)).mono ?_
 rintro e w4 ⟨⟨lx2,rfl,hx⟩,hb⟩
 replace HU1:=Lib.hid (HU1.out.below hb)
 replace HB:=Lib.hid (HB.out.trans (hb.mono HB.out.size))
 clear hb
 have HX:=Lib.hid hx
 clear hx
 go_wp2_with fail
 with_reducible refine (Tryz.matNew lx2 d d _ (matQ s2) _ HX.out (fun i j _ _=>matQ_get s2 i j) (by omega) (by omega) (by omega) (by omega)).mono ?_
 rintro e w5 ⟨⟨um2,rfl,hu⟩,hb⟩
 replace HU1:=Lib.hid (HU1.out.below hb)
 replace HB:=Lib.hid (HB.out.trans (hb.mono HB.out.size))
 clear hb HX
 have HU2:=Lib.hid hu
 clear hu
 go_wp2_with fail
 with_reducible refine (Tryz.matrix d d v3 s3 _ (HV3.out.below HB.out) (by omega) (by omega) (by omega) (by omega)).mono ?_
 rintro e w6 ⟨⟨lx3,rfl,hx⟩,hb⟩
 replace HU1:=Lib.hid (HU1.out.below hb)
 replace HU2:=Lib.hid (HU2.out.below hb)
 replace HB:=Lib.hid (HB.out.trans (hb.mono HB.out.size))
 clear hb
 have HX:=Lib.hid hx
 clear hx
 go_wp2_with fail
 with_reducible refine (Tryz.matNew lx3 d d _ (matQ s3) _ HX.out (fun i j _ _=>matQ_get s3 i j) (by omega) (by omega) (by omega) (by omega)).mono ?_
 rintro e w7 ⟨⟨um3,rfl,hu⟩,hb⟩
 replace HU1:=Lib.hid (HU1.out.below hb)
 replace HU2:=Lib.hid (HU2.out.below hb)
 replace HB:=Lib.hid (HB.out.trans (hb.mono HB.out.size))
 clear hb HX
 have HU3:=Lib.hid hu
 clear hu
 go_wp2_with fail
 with_reducible refine (Tryz.matMul um1 um2 d d d 120 120 (matQ s1) (matQ s2) _ HU1.out HU2.out (by omega) (by omega) (by omega) (by omega) (by omega) (by omega) (by omega) (by rw [HK1.out]; omega)).mono ?_
 rintro e w8 ⟨⟨ab,rfl,hm⟩,hb⟩
 rw [HK1.out] at hm
 replace HU1:=Lib.hid (HU1.out.below hb)
 replace HU2:=Lib.hid (HU2.out.below hb)
 replace HU3:=Lib.hid (HU3.out.below hb)
 replace HB:=Lib.hid (HB.out.trans (hb.mono HB.out.size))
 clear hb
 have HAB:=Lib.hid hm
 clear hm
 go_wp2_with fail
 with_reducible refine (Tryz.matMul um2 um3 d d d 120 120 (matQ s2) (matQ s3) _ HU2.out HU3.out (by omega) (by omega) (by omega) (by omega) (by omega) (by omega) (by omega) (by rw [HK1.out]; omega)).mono ?_
 rintro e w9 ⟨⟨bc,rfl,hm⟩,hb⟩
 rw [HK1.out] at hm
 replace HU1:=Lib.hid (HU1.out.below hb)
 replace HU2:=Lib.hid (HU2.out.below hb)
 replace HU3:=Lib.hid (HU3.out.below hb)
 replace HAB:=Lib.hid (HAB.out.below hb)
 replace HB:=Lib.hid (HB.out.trans (hb.mono HB.out.size))
 clear hb
 have HBC:=Lib.hid hm
 clear hm
 go_wp2_with fail
 with_reducible refine (Tryz.matMul ab um3 d d d K1 120 _ (matQ s3) _ HAB.out HU3.out (by omega) (by omega) (by omega) (by omega) (by omega) (by omega) (by omega) (by rw [HK2.out]; omega)).mono ?_
 rintro e w10 ⟨⟨xx,rfl,hm⟩,hb⟩
 rw [HK2.out] at hm
 replace HU1:=Lib.hid (HU1.out.below hb)
 replace HU2:=Lib.hid (HU2.out.below hb)
 replace HU3:=Lib.hid (HU3.out.below hb)
 replace HAB:=Lib.hid (HAB.out.below hb)
 replace HBC:=Lib.hid (HBC.out.below hb)
 replace HB:=Lib.hid (HB.out.trans (hb.mono HB.out.size))
 clear hb
 have HXX:=Lib.hid hm
 clear hm
 go_wp2_with fail
 with_reducible refine (Tryz.matMul um1 bc d d d 120 K1 (matQ s1) _ _ HU1.out HBC.out (by omega) (by omega) (by omega) (by omega) (by omega) (by omega) (by omega) (by rw [HK3.out]; omega)).mono ?_
 rintro e w11 ⟨⟨yy,rfl,hm⟩,hb⟩
 rw [HK3.out] at hm
 replace HU1:=Lib.hid (HU1.out.below hb)
 replace HU2:=Lib.hid (HU2.out.below hb)
 replace HU3:=Lib.hid (HU3.out.below hb)
 replace HAB:=Lib.hid (HAB.out.below hb)
 replace HBC:=Lib.hid (HBC.out.below hb)
 replace HXX:=Lib.hid (HXX.out.below hb)
 replace HB:=Lib.hid (HB.out.trans (hb.mono HB.out.size))
 clear hb
 have HYY:=Lib.hid hm
 clear hm
 go_wp2_with fail
 with_reducible refine (Tryz.matTurn um2 d d 120 (matQ s2) _ HU2.out (by omega) (by omega) (by omega) (by omega)).mono ?_
 rintro e w12 ⟨⟨ut2,rfl,hm⟩,hb⟩
 replace HU1:=Lib.hid (HU1.out.below hb)
 replace HU2:=Lib.hid (HU2.out.below hb)
 replace HU3:=Lib.hid (HU3.out.below hb)
 replace HAB:=Lib.hid (HAB.out.below hb)
 replace HBC:=Lib.hid (HBC.out.below hb)
 replace HXX:=Lib.hid (HXX.out.below hb)
 replace HYY:=Lib.hid (HYY.out.below hb)
 replace HB:=Lib.hid (HB.out.trans (hb.mono HB.out.size))
 clear hb
 have HT2:=Lib.hid hm
 clear hm
 go_wp2_with fail
 with_reducible refine (Tryz.matTurn um1 d d 120 (matQ s1) _ HU1.out (by omega) (by omega) (by omega) (by omega)).mono ?_
 rintro e w13 ⟨⟨ut1,rfl,hm⟩,hb⟩
 replace HU1:=Lib.hid (HU1.out.below hb)
 replace HU2:=Lib.hid (HU2.out.below hb)
 replace HU3:=Lib.hid (HU3.out.below hb)
 replace HAB:=Lib.hid (HAB.out.below hb)
 replace HBC:=Lib.hid (HBC.out.below hb)
 replace HXX:=Lib.hid (HXX.out.below hb)
 replace HYY:=Lib.hid (HYY.out.below hb)
 replace HT2:=Lib.hid (HT2.out.below hb)
 replace HB:=Lib.hid (HB.out.trans (hb.mono HB.out.size))
 clear hb
 have HT1:=Lib.hid hm
 clear hm
 go_wp2_with fail
 with_reducible refine (Tryz.matMul ut2 ut1 d d d 120 120 _ _ _ HT2.out HT1.out (by omega) (by omega) (by omega) (by omega) (by omega) (by omega) (by omega) (by rw [HK1.out]; omega)).mono ?_
 rintro e w14 ⟨⟨tt,rfl,hm⟩,hb⟩
 rw [HK1.out] at hm
 replace HU1:=Lib.hid (HU1.out.below hb)
 replace HU2:=Lib.hid (HU2.out.below hb)
 replace HU3:=Lib.hid (HU3.out.below hb)
 replace HAB:=Lib.hid (HAB.out.below hb)
 replace HBC:=Lib.hid (HBC.out.below hb)
 replace HXX:=Lib.hid (HXX.out.below hb)
 replace HYY:=Lib.hid (HYY.out.below hb)
 replace HT2:=Lib.hid (HT2.out.below hb)
 replace HT1:=Lib.hid (HT1.out.below hb)
 replace HB:=Lib.hid (HB.out.trans (hb.mono HB.out.size))
 clear hb
 have HTT:=Lib.hid hm
 clear hm
 clear HBC HT1 HT2 HU2 HU3
 go_upto_region 13 with (fail)
 go_cut [26,27,28] (fun iv ov bv wx=>(∃ has,ov = .bool has ∧ (has = true → ∃ X,MatR wx iv d d X KI ∧ ∀ i c,i < d → c < d → mulF (matQ s1) X d i c = oneF i c)) ∧ MatR wx um1 d d (matQ s1) 120 ∧ MatR wx ab d d (mulF (matQ s1) (matQ s2) d) K1 ∧ MatR wx xx d d (mulF (mulF (matQ s1) (matQ s2) d) (matQ s3) d) K2 ∧ MatR wx yy d d (mulF (matQ s1) (mulF (matQ s2) (matQ s3) d) d) K2 ∧ MatR wx tt d d (mulF (fun i j=>matQ s2 j i) (fun i j=>matQ s1 j i) d) K1 ∧ Below w.heap.size w wx)
 case first=>
  go_wp2_with fail
  with_reducible refine (Tryz.matInverse um1 d 120 (matQ s1) _ HU1.out (by omega) (by omega) (by omega) (by rw [HK.out]; omega)).mono ?_
  rintro e wi ⟨⟨rfl,hno⟩ | ⟨rv,X,rfl,hm,hx⟩,hb⟩
  ·clear hno
   replace HU1:=Lib.hid (HU1.out.below hb)
   replace HAB:=Lib.hid (HAB.out.below hb)
   replace HXX:=Lib.hid (HXX.out.below hb)
   replace HYY:=Lib.hid (HYY.out.below hb)
   replace HTT:=Lib.hid (HTT.out.below hb)
   replace HB:=Lib.hid (HB.out.trans (hb.mono HB.out.size))
   clear hb
   go_wp2_with fail
   go_meet
   exact ⟨⟨false,rfl,fun e=>by simp at e⟩,HU1.out,HAB.out,HXX.out,HYY.out,HTT.out,HB.out⟩
  ·rw [HK.out] at hm
   have HM:=Lib.hid hm
   have HX:=Lib.hid hx
   clear hm hx
   replace HU1:=Lib.hid (HU1.out.below hb)
   replace HAB:=Lib.hid (HAB.out.below hb)
   replace HXX:=Lib.hid (HXX.out.below hb)
   replace HYY:=Lib.hid (HYY.out.below hb)
   replace HTT:=Lib.hid (HTT.out.below hb)
   replace HB:=Lib.hid (HB.out.trans (hb.mono HB.out.size))
   clear hb
   go_wp2_with fail
   go_meet
   exact ⟨⟨true,rfl,fun _=>⟨X,HM.out,HX.out⟩⟩,HU1.out,HAB.out,HXX.out,HYY.out,HTT.out,HB.out⟩
 case rest=>
  obtain ⟨⟨has,rfl,hinv⟩,h1,h2,h3,h4,h5,h6⟩:=hcut
  clear HU1 HAB HXX HYY HTT HB
  have HU1:=Lib.hid h1
  have HAB:=Lib.hid h2
  have HXX:=Lib.hid h3
  have HYY:=Lib.hid h4
  have HTT:=Lib.hid h5
  have HB:=Lib.hid h6
  have HI:=Lib.hid hinv
  clear h1 h2 h3 h4 h5 h6 hinv
  go_upto_if 101 with (fail)
  go_cut [27,28] (fun ov bv wx=>MatR wx bv d d (matQ s1) KB ∧ MatR wx um1 d d (matQ s1) 120 ∧ MatR wx ab d d (mulF (matQ s1) (matQ s2) d) K1 ∧ MatR wx xx d d (mulF (mulF (matQ s1) (matQ s2) d) (matQ s3) d) K2 ∧ MatR wx yy d d (mulF (matQ s1) (mulF (matQ s2) (matQ s3) d) d) K2 ∧ MatR wx tt d d (mulF (fun i j=>matQ s2 j i) (fun i j=>matQ s1 j i) d) K1 ∧ Below w.heap.size w wx)
  case first=>
   cases has
   ·go_wp2_with fail
    go_meet
    exact ⟨HU1.out.congr (fun _ _ _ _=>rfl) hKB1,HU1.out,HAB.out,HXX.out,HYY.out,HTT.out,HB.out⟩
   ·obtain ⟨X,hm,hx⟩:=HI.out rfl
    have HM:=Lib.hid hm
    have HX:=Lib.hid hx
    clear hm hx HI
    go_wp2_with fail
    with_reducible refine (Tryz.matInverse _ d KI X _ HM.out (by omega) (by omega) (by omega) (by rw [HKB.out]; omega)).mono ?_
    rintro e wi ⟨⟨rfl,hno⟩ | ⟨rv,Y,rfl,hm,hx⟩,hb⟩
    ·obtain ⟨t,ht,hr⟩:=hno
     have:=hr.uniq (inv_rank HX.out).2
     omega
    ·rw [HKB.out] at hm
     have HM2:Hid (MatR wi rv d d (matQ s1) KB):=hm.congr (fun i c hi hc=>(inv_inv HX.out hx hi hc).symm) (Nat.le_refl _)
     clear hm hx HX HM
     replace HU1:=Lib.hid (HU1.out.below hb)
     replace HAB:=Lib.hid (HAB.out.below hb)
     replace HXX:=Lib.hid (HXX.out.below hb)
     replace HYY:=Lib.hid (HYY.out.below hb)
     replace HTT:=Lib.hid (HTT.out.below hb)
     replace HB:=Lib.hid (HB.out.trans (hb.mono HB.out.size))
     clear hb
     go_wp2_with fail
     go_meet
     exact ⟨HM2.out,HU1.out,HAB.out,HXX.out,HYY.out,HTT.out,HB.out⟩
  case rest=>
   obtain ⟨h0,h1,h2,h3,h4,h5,h6⟩:=hcut
   clear HU1 HAB HXX HYY HTT HB HI
   have HW:=Lib.hid h0
   have HU1:=Lib.hid h1
   have HAB:=Lib.hid h2
   have HXX:=Lib.hid h3
   have HYY:=Lib.hid h4
   have HTT:=Lib.hid h5
   have HB:=Lib.hid h6
   clear h0 h1 h2 h3 h4 h5 h6
   obtain ⟨wz,hwz⟩:=matWorld HU1.out
   subst hwz
   go_wp2_with fail
   go_loopw [29] (fun iv wr=>∃ y:Nat,iv = .int .i64 y ∧ y ≤ d ∧ Below wz.heap.size wz wr) (fun iv _=>d - (intOf iv).toNat)
   case atStart=>exact ⟨0,rfl,Nat.zero_le _,Below.refl _ _⟩
   case round=>
    obtain ⟨y,rfl,hy,hb⟩:=hrel
    have HBY:=Lib.hid hb
    clear hb
    by_cases hly:y < d
    ·have y0:(0:Int) ≤ (y:Int):=by omega
     have y1:(y:Int) < (d:Int):=by omega
     have y2:(y:Int) ≤ 5:=by omega
     go_wp2_with fail
     go_loopw [30] (fun kv wr=>∃ k:Nat,kv = .int .i64 k ∧ k ≤ d ∧ Below wz.heap.size wz wr) (fun kv _=>d - (intOf kv).toNat)
     case atStart=>exact ⟨0,rfl,Nat.zero_le _,HBY.out⟩
     case round=>
      obtain ⟨k,rfl,hk,hb⟩:=hrel
      clear HBY
      have HBK:=Lib.hid hb
      clear hb
      by_cases hlk:k < d
      ·have k0:(0:Int) ≤ (k:Int):=by omega
       have k1:(k:Int) < (d:Int):=by omega
       have k2:(k:Int) ≤ 5:=by omega
       have E1:Hid (ordQ (mulF (mulF (matQ s1) (matQ s2) d) (matQ s3) d y k) (mulF (matQ s1) (mulF (matQ s2) (matQ s3) d) d y k) = 0):=ordQ_zero.2 (mul_assocF _ _ _ _ _ _ _)
       have E2:Hid (ordQ (mulF (fun i j=>matQ s2 j i) (fun i j=>matQ s1 j i) d k y) (mulF (matQ s1) (matQ s2) d y k) = 0):=ordQ_zero.2 (mul_turn _ _ _ _ _)
       have E3:Hid (ordQ (matQ s1 y k) (matQ s1 y k) = 0):=ordQ_zero.2 rfl
       go_wp2_with fail
       with_reducible refine (Tryz.matAt xx d d y k K2 _ _ (HXX.out.below HBK.out) hly hlk (by omega)).mono ?_
       rintro e w70 ⟨⟨x1,rfl,hx⟩,hb⟩
       have HX1:=Lib.hid hx
       replace HBK:=Lib.hid (HBK.out.trans (hb.mono HBK.out.size))
       clear hx hb
       go_wp2_with fail
       with_reducible refine (Tryz.matAt yy d d y k K2 _ _ (HYY.out.below HBK.out) hly hlk (by omega)).mono ?_
       rintro e w71 ⟨⟨x2,rfl,hx⟩,hb⟩
       have HX2:=Lib.hid hx
       replace HX1:=Lib.hid (HX1.out.below hb)
       replace HBK:=Lib.hid (HBK.out.trans (hb.mono HBK.out.size))
       clear hx hb
       go_wp2_with fail
       with_reducible refine (Tryz.cmpA _ _ _ _ K2 K2 _ HX1.out HX2.out (by omega) (by omega) (by omega) (by omega)).mono ?_
       rintro e w72 ⟨rfl,hb⟩
       rw [E1.out]
       replace HBK:=Lib.hid (HBK.out.trans (hb.mono HBK.out.size))
       clear hb HX1 HX2 E1
       go_wp2_with fail
       with_reducible refine (Tryz.matAt tt d d k y K1 _ _ (HTT.out.below HBK.out) hlk hly (by omega)).mono ?_
       rintro e w70 ⟨⟨x1,rfl,hx⟩,hb⟩
       have HX1:=Lib.hid hx
       replace HBK:=Lib.hid (HBK.out.trans (hb.mono HBK.out.size))
       clear hx hb
       go_wp2_with fail
       with_reducible refine (Tryz.matAt ab d d y k K1 _ _ (HAB.out.below HBK.out) hly hlk (by omega)).mono ?_
       rintro e w71 ⟨⟨x2,rfl,hx⟩,hb⟩
       have HX2:=Lib.hid hx
       replace HX1:=Lib.hid (HX1.out.below hb)
       replace HBK:=Lib.hid (HBK.out.trans (hb.mono HBK.out.size))
       clear hx hb
       go_wp2_with fail
       with_reducible refine (Tryz.cmpA _ _ _ _ K1 K1 _ HX1.out HX2.out (by omega) (by omega) (by omega) (by omega)).mono ?_
       rintro e w72 ⟨rfl,hb⟩
       rw [E2.out]
       replace HBK:=Lib.hid (HBK.out.trans (hb.mono HBK.out.size))
       clear hb HX1 HX2 E2
       go_wp2_with fail
       with_reducible refine (Tryz.matAt _ d d y k KB _ _ (HW.out.below HBK.out) hly hlk (by omega)).mono ?_
       rintro e w70 ⟨⟨x1,rfl,hx⟩,hb⟩
       have HX1:=Lib.hid hx
       replace HBK:=Lib.hid (HBK.out.trans (hb.mono HBK.out.size))
       clear hx hb
       go_wp2_with fail
       with_reducible refine (Tryz.matAt um1 d d y k 120 _ _ (HU1.out.below HBK.out) hly hlk (by omega)).mono ?_
       rintro e w71 ⟨⟨x2,rfl,hx⟩,hb⟩
       have HX2:=Lib.hid hx
       replace HX1:=Lib.hid (HX1.out.below hb)
       replace HBK:=Lib.hid (HBK.out.trans (hb.mono HBK.out.size))
       clear hx hb
       go_wp2_with fail
       with_reducible refine (Tryz.cmpA _ _ _ _ KB 120 _ HX1.out HX2.out (by omega) (by omega) (by omega) (by omega)).mono ?_
       rintro e w72 ⟨rfl,hb⟩
       rw [E3.out]
       replace HBK:=Lib.hid (HBK.out.trans (hb.mono HBK.out.size))
       clear hb HX1 HX2 E3
       go_wp2
       go_roundw
       case rel=>exact ⟨k + 1,by go_num,by omega,HBK.out⟩
       case measure=>simp [intOf]; omega
      ·have e3:decide ((k:Int) < (d:Int)) = false:=by simp; omega
       have e3':decide (k < d) = false:=by simpa using hlk
       go_wp2
       go_roundw
       case rel=>exact ⟨y + 1,by go_num,by omega,HBK.out⟩
       case measure=>simp [intOf]; omega
    ·have e3:decide ((y:Int) < (d:Int)) = false:=by simp; omega
     have e3':decide (y < d) = false:=by simpa using hly
     have HBE:=Lib.hid (HB.out.trans (HBY.out.mono HB.out.size))
     clear HBY HB
     go_wp2
     go_ret
     exact ⟨rfl,HBE.out⟩
end Go.Proofs.Mt
