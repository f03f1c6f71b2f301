/- What sum of the package nat returns, and Add, Of and Word of its numbers. -/
import Derived.Test.YtcnjcfoaoaldeaaGreatDoorBw
import Derived.Test.YtcnjcfoaoaldeaaGreatDoorWd3
import Derived.Laws.CopyOwn
set_option linter.unusedVariables false
set_option maxHeartbeats 8000000
set_option maxRecDepth 100000
namespace Go.Proofs.Wd
open Go.RowKit
/-- Two rows of words, the second not longer: what stands behind the copy, the sum, the carry. -/
theorem padded {xs:List Int} (h:Dig xs):Dig (xs ++ [0]) ∧ val (xs ++ [0]) = val xs:=by
 refine ⟨h.append fun d hd=>by rw [List.mem_singleton.1 hd]; omega,?_⟩
 rw [val_snoc]; simp
theorem RowAt.below {w w':World} {g cap B:Nat} {xs:List Int} (h:RowAt w g cap xs) (hb:Below B w w') (hg:g < B):RowAt w' g cap xs:=
 ⟨by have:=hb.size; have:=h.lt; omega,h.fits,h.max,fun j hj=>by rw [hb.cell (p:=⟨g,j,none⟩) hg]; exact h.cells j hj⟩
theorem spliced (xs:List Int):splice (List.replicate (xs.length + 1) (Value.int .u64 0)) 0 (xs.map (Value.int .u64)) = (xs ++ [0]).map (Value.int .u64):=by
 unfold splice
 rw [List.take_zero,List.nil_append,Nat.zero_add,List.length_map,List.map_append,List.drop_replicate,show xs.length + 1 - xs.length = 1 by omega]
 rfl
theorem sum_whole {xs ys M:List Int} {c:Bool} (hx:Dig xs) (hy:Dig ys) (hl:ys.length ≤ xs.length) (h:AddTo (xs ++ [0]) ys 0 ys.length c M) :
 M.length = xs.length + 1 ∧ Dig M ∧ val M + 18446744073709551616 ^ ys.length * cI c = val xs + val ys:=by
 refine ⟨by rw [h.len]; simp,h.dig,?_⟩
 have:=h.sum
 rw [(padded hx).2,List.take_of_length_le (Nat.le_refl _)] at this
 simpa using this
theorem one_whole {xs ys M K:List Int} {k:Nat} {c:Bool} (hx:Dig xs) (hy:Dig ys) (hl:ys.length ≤ xs.length) (hM:M.length = xs.length + 1) (hs:val M + 18446744073709551616 ^ ys.length * cI true = val xs + val ys)
 (h:OneTo M ys.length k c K) (hk:k ≤ xs.length + 1 - ys.length) (hc:c = true → k = xs.length + 1 - ys.length):K.length = xs.length + 1 ∧ Dig K ∧ val K = val xs + val ys:=by
 refine ⟨by rw [h.len,hM],h.dig,?_⟩
 have h1:=h.sum
 simp only [cI,if_true,Int.mul_one] at hs
 rw [hs] at h1
 cases c with
 | false=>simpa [cI] using h1
 | true =>
   exfalso
   have hk2:=hc rfl
   rw [show ys.length + k = xs.length + 1 by omega] at h1
   simp only [cI,if_true,Int.mul_one] at h1
   have b1:=val_lt hx
   have b2:=val_lt hy
   have b3:=pow_mono' hl
   have b4:=val_nonneg h.dig
   have b5:=pow_pos' xs.length
   rw [Int.pow_succ] at h1
   generalize (18446744073709551616:Int) ^ xs.length = P at *
   omega
/-- A new row, its words those of L. -/
def NewRow (w:World) (B:Nat) (v:Value) (L:List Int):Prop:=v = .slice (some ⟨B,0,none⟩) L.length L.length ∧ RowOf w B L
theorem NewRow.digs {w:World} {B:Nat} {v:Value} {L:List Int} (h:NewRow w B v L) (hl:L.length ≤ 1000000000000):Digs w v L:=by
 rw [h.1]; exact h.2.digs (by unfold maxLen; omega)
theorem Tryz.sum (v u:Value) (xs ys:List Int) (w:World) (hv:Digs w v xs) (hu:Digs w u ys) (hx:Dig xs) (hy:Dig ys) (hlen:xs.length ≤ 100000000000) (hlen2:ys.length ≤ 100000000000) :
 Calls Tryz.prog 156 #[v,u] w fun e w'=>(∃ r L,e = .returned r ∧ NewRow w' w.heap.size r L ∧ Dig L ∧ L.length = max xs.length ys.length + 1 ∧ val L = val xs + val ys) ∧ Below w.heap.size w w':=by
 obtain ⟨i0,hi,hz0,hz1,hz2⟩:=info_parts Tryz.info73
 have hsz1:(Tryz.prog.info? 73).map (·.size) = some 1:=by rw [hi]; simp [hz1]
 obtain ⟨p,cap,rfl,hxl,hxr⟩:=hv.slice
 obtain ⟨q,dap,rfl,hyl,hyr⟩:=hu.slice
 have HX:Hid (Dig xs):=hx
 have HY:Hid (Dig ys):=hy
 have HXR:Hid (0 < xs.length → ∃ g,p = some ⟨g,0,none⟩ ∧ RowAt w g cap xs):=hxr
 have HYR:Hid (0 < ys.length → ∃ g,q = some ⟨g,0,none⟩ ∧ RowAt w g dap ys):=hyr
 obtain ⟨n,hn⟩:∃ n,xs.length = n:=⟨_,rfl⟩
 obtain ⟨m,hm⟩:∃ m,ys.length = m:=⟨_,rfl⟩
 have HN:Hid (xs.length = n):=hn
 have HM:Hid (ys.length = m):=hm
 rw [hn] at hxl hlen
 rw [hm] at hyl hlen2
 rw [hn,hm]
 clear hv hu hx hy hxr hyr hn hm
 by_cases hc:n < m
 ·have hle:n ≤ m:=by omega
  go_enter Tryz.func156,Tryz.ntmps156
  go_wp2_with (first
   |(refine wpList_make_full _ rfl _ _ 139 rfl w.heap.size 73 i0 (.int .u64 0) 1 Tryz.underlying139 hi hz0 hz1 .i64 .i64 _ _ (m + 1) rfl rfl rfl rfl (by rw [hz2]; omega) (by unfold maxLen; omega) (by omega) ?_))
  intro w1 hown hgrow
  have hrow1:=RowOf.of_made (by rw [toList_madeCells_one] at hown; exact hown)
  have HROW:Hid (RowOf w1 w.heap.size (List.replicate (ys.length + 1) 0)):=by show RowOf _ _ _; rw [HM.out]; exact hrow1
  have HB1:Hid (Below w.heap.size w w1):=(Below.refl _ _).grown hgrow (Nat.le_refl _) (fun k hk=>by cases hk)
  have HROWC:Hid (w1.heap[w.heap.size]? = some (.cells (List.replicate (ys.length + 1) (Value.int .u64 0)).toArray 73 (0,0))):=by
   have h:=HROW.out
   unfold RowOf at h
   rw [List.map_replicate] at h
   exact h
  clear hown hgrow hrow1
  go_wp2_with (first
   |(refine wpList_copy_splice rfl (.tmp 17) (.tmp 18) 139 139 rfl 73 Tryz.underlying139 hsz1 _ _ _ _ _ _ rfl rfl w.heap.size 0 (List.replicate (ys.length + 1) (Value.int .u64 0)) 73 HROWC.out (ys.map (Value.int .u64)) ?c1 ?c2 ?c3 ?c4 w.heap.size w HB1.out (Nat.le_refl _) ?_))
  case c1=>rw [List.length_map,HM.out]; exact (Nat.min_eq_left (by omega)).symm
  case c2=>
   intro hpos
   obtain ⟨g,hg,hr⟩:=HYR.out (by simpa using hpos)
   first
    | refine ⟨rfl,_,hg,?_⟩
    | refine ⟨_,hg,?_⟩
   intro j v hj
   have hjl:j < ys.length:=(List.getElem?_eq_some_iff.1 hj).1
   have e:(⟨g,0,none⟩:Addr).add j = ⟨g,j,none⟩:=by unfold Addr.add; split <;> simp_all
   have hlt:=hr.lt
   rw [e,HB1.out.cell (p:=⟨g,j,none⟩) hlt,hr.cells j hjl]
   simp [List.getD,hj]
  case c3=>simp
  case c4=>
   intro u hm
   obtain ⟨z,_,rfl⟩:=List.mem_map.1 hm
   rfl
  intro w2 hrow2 hb2
  have HR2:Hid (RowOf w2 w.heap.size (ys ++ [0])):=by
   have h:=hrow2.out
   rw [spliced] at h
   exact h
  have HB2:Hid (Below w.heap.size w w2):=hb2
  have HL2:Hid ((ys ++ [0]).length = m + 1):=by show _ = _; rw [List.length_append,HM.out]; rfl
  clear hrow2 hb2
  have hadd:=Tryz.addTo w.heap.size 0 (m + 1) (ys ++ [0]) xs p cap w2 HR2.out (padded HY.out).1 (by rw [HL2.out,HN.out]; omega) (by rw [HL2.out]; omega) HX.out (fun h=>by
   obtain ⟨g,hg,hr⟩:=HXR.out h
   exact ⟨g,hg,by have:=hr.lt; omega,hr.below HB2.out hr.lt⟩)
  rw [HN.out] at hadd
  have HADD:=hadd
  clear hadd
  go_wp2_with fail
  with_reducible refine HADD.mono ?_
  clear HADD
  rintro e w3 ⟨⟨M,c,rfl,hrow3,hat⟩,hg3⟩
  have hat':AddTo (ys ++ [0]) xs 0 xs.length c M:=by rw [HN.out]; exact hat
  have HW:Hid (M.length = ys.length + 1 ∧ Dig M ∧ val M + 18446744073709551616 ^ xs.length * cI c = val ys + val xs):=sum_whole HY.out HX.out (by rw [HM.out,HN.out]; omega) hat'
  have HR3:Hid (RowOf w3 w.heap.size M):=hrow3
  have HB3:Hid (Below w.heap.size w w3):=HB2.out.grown hg3 (by have:=HB2.out.size; exact this) (fun k hk=>by cases hk; exact Nat.le_refl _)
  have HML:Hid (M.length = m + 1):=by show _ = _; rw [HW.out.1,HM.out]
  clear hrow3 hat hat' hg3
  cases c with
  | false =>
    go_wp2
    go_ret
    refine ⟨⟨_,M,rfl,⟨by rw [HML.out]; rfl,HR3.out⟩,HW.out.2.1,by rw [HML.out]; omega,?_⟩,HB3.out⟩
    have h:=HW.out.2.2
    simp only [cI,if_false,Int.mul_zero,Int.add_zero,Bool.false_eq_true] at h
    rw [h]; omega
  | true =>
    have hone:=Tryz.addOne w.heap.size n (m + 1 - n) (m + 1 - n) M w3 HR3.out HW.out.2.1 (by rw [HML.out]; omega) (by rw [HML.out]; omega)
    have HONE:=hone
    clear hone
    go_wp2_with fail
    with_reducible refine HONE.mono ?_
    clear HONE
    rintro e w4 ⟨⟨K,k,c,rfl,hrow4,hat4,hk4,hc4⟩,hg4⟩
    have hat4':OneTo M xs.length k c K:=by rw [HN.out]; exact hat4
    have HK:Hid (K.length = ys.length + 1 ∧ Dig K ∧ val K = val ys + val xs):=one_whole HY.out HX.out (by rw [HM.out,HN.out]; omega) HW.out.1 HW.out.2.2 hat4' (by rw [HM.out,HN.out]; exact hk4) (fun h=>by rw [HM.out,HN.out]; exact hc4 h)
    have HR4:Hid (RowOf w4 w.heap.size K):=hrow4
    have HB4:Hid (Below w.heap.size w w4):=HB3.out.grown hg4 (by have:=HB3.out.size; exact this) (fun k hk=>by cases hk; exact Nat.le_refl _)
    have HKL:Hid (K.length = m + 1):=by show _ = _; rw [HK.out.1,HM.out]
    clear hrow4 hat4 hat4' hg4 hk4 hc4
    go_wp2
    go_ret
    refine ⟨⟨_,K,rfl,⟨by rw [HKL.out]; rfl,HR4.out⟩,HK.out.2.1,by rw [HKL.out]; omega,?_⟩,HB4.out⟩
    rw [HK.out.2.2]; omega
 ·have hle:m ≤ n:=by omega
  go_enter Tryz.func156,Tryz.ntmps156
  go_wp2_with (first
   |(refine wpList_make_full _ rfl _ _ 139 rfl w.heap.size 73 i0 (.int .u64 0) 1 Tryz.underlying139 hi hz0 hz1 .i64 .i64 _ _ (n + 1) rfl rfl rfl rfl (by rw [hz2]; omega) (by unfold maxLen; omega) (by omega) ?_))
  intro w1 hown hgrow
  have hrow1:=RowOf.of_made (by rw [toList_madeCells_one] at hown; exact hown)
  have HROW:Hid (RowOf w1 w.heap.size (List.replicate (xs.length + 1) 0)):=by show RowOf _ _ _; rw [HN.out]; exact hrow1
  have HB1:Hid (Below w.heap.size w w1):=(Below.refl _ _).grown hgrow (Nat.le_refl _) (fun k hk=>by cases hk)
  have HROWC:Hid (w1.heap[w.heap.size]? = some (.cells (List.replicate (xs.length + 1) (Value.int .u64 0)).toArray 73 (0,0))):=by
   have h:=HROW.out
   unfold RowOf at h
   rw [List.map_replicate] at h
   exact h
  clear hown hgrow hrow1
  go_wp2_with (first
   |(refine wpList_copy_splice rfl (.tmp 17) (.tmp 18) 139 139 rfl 73 Tryz.underlying139 hsz1 _ _ _ _ _ _ rfl rfl w.heap.size 0 (List.replicate (xs.length + 1) (Value.int .u64 0)) 73 HROWC.out (xs.map (Value.int .u64)) ?c1 ?c2 ?c3 ?c4 w.heap.size w HB1.out (Nat.le_refl _) ?_))
  case c1=>rw [List.length_map,HN.out]; exact (Nat.min_eq_left (by omega)).symm
  case c2=>
   intro hpos
   obtain ⟨g,hg,hr⟩:=HXR.out (by simpa using hpos)
   first
    | refine ⟨rfl,_,hg,?_⟩
    | refine ⟨_,hg,?_⟩
   intro j v hj
   have hjl:j < xs.length:=(List.getElem?_eq_some_iff.1 hj).1
   have e:(⟨g,0,none⟩:Addr).add j = ⟨g,j,none⟩:=by unfold Addr.add; split <;> simp_all
   have hlt:=hr.lt
   rw [e,HB1.out.cell (p:=⟨g,j,none⟩) hlt,hr.cells j hjl]
   simp [List.getD,hj]
  case c3=>simp
  case c4=>
   intro u hm
   obtain ⟨z,_,rfl⟩:=List.mem_map.1 hm
   rfl
  intro w2 hrow2 hb2
  have HR2:Hid (RowOf w2 w.heap.size (xs ++ [0])):=by
   have h:=hrow2.out
   rw [spliced] at h
   exact h
  have HB2:Hid (Below w.heap.size w w2):=hb2
  have HL2:Hid ((xs ++ [0]).length = n + 1):=by show _ = _; rw [List.length_append,HN.out]; rfl
  clear hrow2 hb2
  have hadd:=Tryz.addTo w.heap.size 0 (n + 1) (xs ++ [0]) ys q dap w2 HR2.out (padded HX.out).1 (by rw [HL2.out,HM.out]; omega) (by rw [HL2.out]; omega) HY.out (fun h=>by
   obtain ⟨g,hg,hr⟩:=HYR.out h
   exact ⟨g,hg,by have:=hr.lt; omega,hr.below HB2.out hr.lt⟩)
  rw [HM.out] at hadd
  have HADD:=hadd
  clear hadd
  go_wp2_with fail
  with_reducible refine HADD.mono ?_
  clear HADD
  rintro e w3 ⟨⟨M,c,rfl,hrow3,hat⟩,hg3⟩
  have hat':AddTo (xs ++ [0]) ys 0 ys.length c M:=by rw [HM.out]; exact hat
  have HW:Hid (M.length = xs.length + 1 ∧ Dig M ∧ val M + 18446744073709551616 ^ ys.length * cI c = val xs + val ys):=sum_whole HX.out HY.out (by rw [HN.out,HM.out]; omega) hat'
  have HR3:Hid (RowOf w3 w.heap.size M):=hrow3
  have HB3:Hid (Below w.heap.size w w3):=HB2.out.grown hg3 (by have:=HB2.out.size; exact this) (fun k hk=>by cases hk; exact Nat.le_refl _)
  have HML:Hid (M.length = n + 1):=by show _ = _; rw [HW.out.1,HN.out]
  clear hrow3 hat hat' hg3
  cases c with
  | false =>
    go_wp2
    go_ret
    refine ⟨⟨_,M,rfl,⟨by rw [HML.out]; rfl,HR3.out⟩,HW.out.2.1,by rw [HML.out]; omega,?_⟩,HB3.out⟩
    have h:=HW.out.2.2
    simp only [cI,if_false,Int.mul_zero,Int.add_zero,Bool.false_eq_true] at h
    rw [h]
  | true =>
    have hone:=Tryz.addOne w.heap.size m (n + 1 - m) (n + 1 - m) M w3 HR3.out HW.out.2.1 (by rw [HML.out]; omega) (by rw [HML.out]; omega)
    have HONE:=hone
    clear hone
    go_wp2_with fail
    with_reducible refine HONE.mono ?_
    clear HONE
    rintro e w4 ⟨⟨K,k,c,rfl,hrow4,hat4,hk4,hc4⟩,hg4⟩
    have hat4':OneTo M ys.length k c K:=by rw [HM.out]; exact hat4
    have HK:Hid (K.length = xs.length + 1 ∧ Dig K ∧ val K = val xs + val ys):=one_whole HX.out HY.out (by rw [HN.out,HM.out]; omega) HW.out.1 HW.out.2.2 hat4' (by rw [HN.out,HM.out]; exact hk4) (fun h=>by rw [HN.out,HM.out]; exact hc4 h)
    have HR4:Hid (RowOf w4 w.heap.size K):=hrow4
    have HB4:Hid (Below w.heap.size w w4):=HB3.out.grown hg4 (by have:=HB3.out.size; exact this) (fun k hk=>by cases hk; exact Nat.le_refl _)
    have HKL:Hid (K.length = n + 1):=by show _ = _; rw [HK.out.1,HN.out]
    clear hrow4 hat4 hat4' hg4 hk4 hc4
    go_wp2
    go_ret
    refine ⟨⟨_,K,rfl,⟨by rw [HKL.out]; rfl,HR4.out⟩,HK.out.2.1,by rw [HKL.out]; omega,?_⟩,HB4.out⟩
    rw [HK.out.2.2]
theorem Tryz.natAdd (v u:Value) (z y:Int) (n m:Nat) (w:World) (hv:Num w v z n) (hu:Num w u y m) (hn:n ≤ 100000000000) (hm:m ≤ 100000000000) :
 Calls Tryz.prog 114 #[v,u] w fun e w'=>(∃ r,e = .returned r ∧ Num w' r (z + y) (max n m + 1)) ∧ Below w.heap.size w w':=by
 obtain ⟨xs,hi,hd,ht,hz,hl⟩:=hv
 obtain ⟨ys,gi,gd,gt,gz,gl⟩:=hu
 have HI:Hid (IsNat w v xs):=hi
 have GI:Hid (IsNat w u ys):=gi
 have HD:Hid (Dig xs):=hd
 have GD:Hid (Dig ys):=gd
 have HZ:Hid (val xs + val ys = z + y):=by show _ = _; rw [hz,gz]
 clear hi gi hd gd ht gt hz gz
 go_enter Tryz.func114,Tryz.ntmps114
 go_wp2_with fail
 refine (Tryz.all v xs _ HI.out).mono ?_
 rintro e w1 ⟨⟨s,rfl,hs⟩,rfl⟩
 have HS:Hid (Digs w1 s xs):=hs
 clear hs HI
 go_wp2_with fail
 refine (Tryz.all u ys _ GI.out).mono ?_
 rintro e w2 ⟨⟨t,rfl,ht⟩,rfl⟩
 have HT:Hid (Digs w2 t ys):=ht
 clear ht GI
 go_wp2_with fail
 refine (Tryz.sum s t xs ys _ HS.out HT.out HD.out GD.out (by omega) (by omega)).mono ?_
 rintro e w3 ⟨⟨r,L,rfl,hr,hL,hLl,hLv⟩,hb3⟩
 have HR:Hid (Digs w3 r L):=hr.digs (by omega)
 have HL:Hid (Dig L):=hL
 have HV:Hid (val L = z + y):=by show _ = _; rw [hLv,HZ.out]
 have HB:Hid (Below w2.heap.size w2 w3):=hb3
 have hll:L.length ≤ max n m + 1:=by omega
 clear hr hL hLl hLv hb3
 go_wp2_with fail
 refine (Tryz.made r L _ HR.out HL.out).mono ?_
 rintro e w4 ⟨⟨v4,rfl,h4⟩,hb4⟩
 have H4:Hid (Num w4 v4 (z + y) (max n m + 1)):=by show Num _ _ _ _; rw [← HV.out]; exact h4.fewer hll
 have HB4:Hid (Below w2.heap.size w2 w4):=Below.after HB.out hb4
 clear h4 hb4
 go_wp2
 go_ret
 exact ⟨⟨_,rfl,H4.out⟩,HB4.out⟩
theorem Tryz.natOf (x:Int) (w:World) (x0:0 ≤ x) (x1:x ≤ 18446744073709551615) :
 Calls Tryz.prog 101 #[.int .u64 x] w fun e w'=>(∃ r,e = .returned r ∧ Num w' r x 1) ∧ Below w.heap.size w w':=by
 have HD:Hid (Dig [x]):=fun d hd=>by rw [List.mem_singleton.1 hd]; exact ⟨x0,x1⟩
 have HV:Hid (val [x] = x):=by show _ = _; simp [val_cons]
 have HR:Hid (Digs (w.alloc (.cells #[.int .u64 x] 73)) (.slice (some ⟨w.heap.size,0,none⟩) 1 1) [x]):=by
  have h:RowOf (w.alloc (.cells #[.int .u64 x] 73)) w.heap.size [x]:=by unfold RowOf; show (w.heap.push _)[w.heap.size]? = _; simp
  exact h.digs (by unfold maxLen; simp)
 have HB:Hid (Below w.heap.size w (w.alloc (.cells #[.int .u64 x] 73))):=(Below.refl _ _).alloc (Nat.le_refl _) _
 go_enter Tryz.func101,Tryz.ntmps101
 go_wp2_with fail
 refine (Tryz.made _ [x] _ HR.out HD.out).mono ?_
 rintro e w4 ⟨⟨v4,rfl,h4⟩,hb4⟩
 have H4:Hid (Num w4 v4 x 1):=by show Num _ _ _ _; rw [← HV.out]; exact h4
 have HB4:Hid (Below w.heap.size w w4):=Below.after HB.out hb4
 clear h4 hb4
 go_wp2
 go_ret
 exact ⟨⟨_,rfl,H4.out⟩,HB4.out⟩
/-- What Word tells: a number that fits a word, and true; else nought and false. -/
def WordIs (z:Int) (e:Ending):Prop:=(z ≤ 18446744073709551615 ∧ e = .returned (.tuple #[.int .u64 z,.bool true])) ∨ (18446744073709551615 < z ∧ e = .returned (.tuple #[.int .u64 0,.bool false]))
theorem Tryz.natWord (v:Value) (z:Int) (n:Nat) (w:World) (hv:Num w v z n) :
 Calls Tryz.prog 122 #[v] w fun e w'=>WordIs z e ∧ w' = w:=by
 obtain ⟨xs,hi,hd,ht,hz,hl⟩:=hv
 have HI:Hid (IsNat w v xs):=hi
 by_cases h0:xs = []
 ·subst h0
  have HZ:Hid (WordIs z (.returned (.tuple #[.int .u64 0,.bool true]))):=.inl ⟨by rw [← hz]; simp,by rw [← hz]; rfl⟩
  clear hi hd ht hz
  go_enter Tryz.func122,Tryz.ntmps122
  go_wp2_with (go_at_call 104; refine (Tryz.all v [] _ HI.out).mono ?_; rintro e w1 ⟨⟨s,rfl,hs⟩,rfl⟩; obtain ⟨p,cap,rfl,-,-⟩:=hs.slice; clear hs)
  go_ret2
  exact ⟨HZ.out,rfl⟩
 ·have hlp:0 < xs.length:=by have:xs.length ≠ 0:=fun e=>h0 (List.length_eq_zero_iff.1 e); omega
  by_cases h1:xs.length = 1
  ·obtain ⟨x,rfl⟩:∃ x,xs = [x]:=List.length_eq_one_iff.1 h1
   have hxz:x = z:=by rw [← hz]; simp [val_cons]
   subst hxz
   have hxd:=hd x (by simp)
   have HZ:Hid (WordIs x (.returned (.tuple #[.int .u64 x,.bool true]))):=.inl ⟨hxd.2,rfl⟩
   clear hi hd ht hz h0 h1 hlp
   go_enter Tryz.func122,Tryz.ntmps122
   go_wp2_with fail
   refine (Tryz.all v [x] _ HI.out).mono ?_
   rintro e w1 ⟨⟨s,rfl,hs⟩,rfl⟩
   obtain ⟨p,cap,rfl,hpl,hpr⟩:=hs.slice
   obtain ⟨g,rfl,hr⟩:=hpr (by simp)
   have hc:=hr.cells 0 (by simp)
   simp only [List.getD_cons_zero] at hc
   simp only [List.length_singleton]
   clear hs hpr hr hpl HI
   go_wp2
   go_ret2
   exact ⟨HZ.out,rfl⟩
  ·have hp:=top_pos hd ht h0
   have hpw:(18446744073709551616:Int) ^ 1 ≤ 18446744073709551616 ^ (xs.length - 1):=pow_mono' (by omega)
   have HZ:Hid (WordIs z (.returned (.tuple #[.int .u64 0,.bool false]))):=.inr ⟨by rw [← hz]; simp at hpw; omega,rfl⟩
   obtain ⟨l,hll⟩:∃ l,xs.length = l:=⟨_,rfl⟩
   have hl2:2 ≤ l:=by omega
   have HLL:Hid (xs.length = l):=hll
   have hb0:((l:Int) == 0) = false:=by simp; omega
   have hb1:((l:Int) == 1) = false:=by simp; omega
   clear hi hd ht hz h0 h1 hlp hp hpw hll hl
   go_enter Tryz.func122,Tryz.ntmps122
   go_wp2_with fail
   refine (Tryz.all v xs _ HI.out).mono ?_
   rintro e w1 ⟨⟨s,rfl,hs⟩,rfl⟩
   obtain ⟨p,cap,rfl,hpl,hpr⟩:=hs.slice
   rw [HLL.out]
   clear hs hpr hpl HI
   go_wp2
   go_ret2
   exact ⟨HZ.out,rfl⟩
end Go.Proofs.Wd
