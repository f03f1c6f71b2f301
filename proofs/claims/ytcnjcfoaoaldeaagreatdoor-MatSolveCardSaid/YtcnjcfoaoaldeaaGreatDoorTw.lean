/- What Text of the package nat returns: the numeral of the number. -/
import Derived.Test.YtcnjcfoaoaldeaaGreatDoorTt
import Derived.Test.YtcnjcfoaoaldeaaGreatDoorFu
import Derived.Test.YtcnjcfoaoaldeaaGreatDoorWd6
import Derived.ShutString
set_option linter.unusedVariables false
set_option maxHeartbeats 8000000
set_option maxRecDepth 100000
namespace Go.Proofs.Wd
open Go.RowKit
/-- strconv's table of powers of ten lies as the program lays it, now and behind whatever makes new memory alone. -/
def TabOk (w : World) : Prop := ∀ w', Below w.heap.size w w' → Lib.TabIs Tryz.prog w' "internal/strconv.uint64pow10" .u64 Lib.pow10Tab
theorem TabOk.of {w : World} (h : Lib.TabIs Tryz.prog w "internal/strconv.uint64pow10" .u64 Lib.pow10Tab) : TabOk w := Lib.tabBelow_of_tabIs h
theorem TabOk.after {w w':World} (h:TabOk w) (hb:Below w.heap.size w w'):TabOk w':=fun w2 h2=>h w2 (Below.after hb h2)
theorem TabOk.here {w : World} (h : TabOk w) : Lib.TabIs Tryz.prog w "internal/strconv.uint64pow10" .u64 Lib.pow10Tab := h w (Below.refl _ _)
def sliceLen:Value → Nat | .slice _ k _=>k | _=>0
theorem ownsRow_sliceLen {w:World} {B:Nat} {v:Value} {n:Nat} {xs:List Value} (h:w.ownsRow B 73 1 v n xs):sliceLen v = n:=by
 obtain ⟨h0,h⟩:=h
 rcases h with ⟨rfl,h⟩ | ⟨g,cap,cur,rfl,_⟩
 ·exact h.symm
 ·rfl
theorem Tryz.textX (v:Value) (z:Int) (n:Nat) (w:World) (h:Num w v z n) (hn:n ≤ 100000000000) (hT:TabOk w) :
 Calls Tryz.prog 50 #[v] w fun e w'=>e = .returned (.string ⟨(Lib.decDigits z.toNat).toArray⟩) ∧ Below w.heap.size w w':=by
 by_cases hz:z = 0
 ·subst hz
  refine (Tryz.textZero v n w h).mono ?_
  rintro e w' ⟨rfl,hb⟩
  refine ⟨?_,hb⟩
  rw [show (0:Int).toNat = 0 from rfl,Lib.decDigits_one (by decide)]
  rfl
 ·obtain ⟨i0,hi,hz0,hz1,hz2⟩:=info_parts Tryz.info73
  obtain ⟨xs,hnat,hdig,htop,hval,hlen⟩:=h
  have HNAT:Hid (IsNat w v xs):=hnat
  have hxs:xs ≠ []:=fun e=>hz (by rw [← hval,e]; rfl)
  have hzlt:z < 18446744073709551616 ^ n:=by
   have h1:=val_lt hdig
   have h2:=pow_mono' hlen
   omega
  have HZ:Hid (z < 18446744073709551616 ^ n):=hzlt
  have HZN:Hid (z ≠ 0):=hz
  have HS:Hid (TextAt z xs []):=TextAt.start hdig htop hval
  have HT:Hid (TabOk w):=hT
  obtain ⟨l,hl⟩:∃ l,xs.length = l:=⟨_,rfl⟩
  have hl0:0 < l:=by have:xs.length ≠ 0:=fun e=>hxs (List.length_eq_zero_iff.1 e); omega
  have HL:Hid (xs.length = l):=hl
  rw [hl] at hlen
  clear hnat hdig htop hval hz hxs hzlt hT hl
  go_enter Tryz.func50,Tryz.ntmps50
  go_wp2_with fail
  refine (Tryz.all v xs _ HNAT.out).mono ?_
  rintro e w1 ⟨⟨s,rfl,hs⟩,rfl⟩
  have HDS:Hid (Digs w1 s xs):=hs
  clear hs HNAT
  go_wp2_with fail
  refine (Tryz.clone s xs _ HDS.out (by have:=HL.out; omega)).mono ?_
  rintro e w2 ⟨⟨s2,rfl,hs2⟩,hb2⟩
  obtain ⟨g,cap,rfl,hg⟩:=own_cases hs2 (by have:=HL.out; omega)
  have hge:=hg.ge
  have HG:Hid (OwnAt w2 w1.heap.size g cap xs):=hg
  have HB2:Hid (Below w1.heap.size w1 w2):=hb2
  obtain ⟨hge1,hge2⟩:=hge
  rw [HL.out]
  clear hs2 hb2 hg HDS
  have hl00:((l:Int) == 0) = false:=by simp; omega
  obtain ⟨C,hC⟩:∃ C,w2.heap.size = C:=⟨_,rfl⟩
  have HC:Hid (w2.heap.size = C):=hC
  have hgC:g < C:=by omega
  clear hC hge2
  go_wp2
  go_loopw [3,4] (fun lv gv wr=>∃ (L:List Int) (G:List Nat),lv = .slice (some ⟨g,0,none⟩) L.length cap ∧ OwnAt wr w1.heap.size g cap L ∧ wr.ownsRow C 73 1 gv (gi G).length ((gi G).map (Value.int .u64)) ∧ TextAt z L G ∧ L.length ≤ l ∧ G.length ≤ 2 * n ∧ C ≤ wr.heap.size ∧ Below w1.heap.size w1 wr) (fun _ gv _=>2 * n - sliceLen gv)
  case atStart=>exact ⟨xs,[],by rw [HL.out],HG.out,World.ownsRow_nil _ _ _ _,HS.out,by rw [HL.out]; exact Nat.le_refl _,by simp,by rw [HC.out]; exact Nat.le_refl _,HB2.out⟩
  case round=>
   obtain ⟨L,G,rfl,hown,hgr,hat,hLl,hGn,hCw,hb⟩:=hrel
   have HO:Hid (OwnAt wr w1.heap.size g cap L):=hown
   have HR:Hid (wr.ownsRow C 73 1 u4 (gi G).length ((gi G).map (Value.int .u64))):=hgr
   have HA:Hid (TextAt z L G):=hat
   have HB:Hid (Below w1.heap.size w1 wr):=hb
   obtain ⟨m,hm⟩:∃ m,L.length = m:=⟨_,rfl⟩
   have HM:Hid (L.length = m):=hm
   rw [hm] at hLl
   rw [hm]
   clear hown hgr hat hb HG HB2
   by_cases hm0:m = 0
   ·subst hm0
    have hnil:L = []:=List.length_eq_zero_iff.1 hm
    have hA0:TextAt z [] G:=by have h:=HA.out; rw [hnil] at h; exact h
    have HGO:Hid (Tx.GroupsOk G):=hA0.groups.1
    have HGZ:Hid ((Tx.valT G:Int) = z):=hA0.groups.2
    obtain ⟨q,hq⟩:∃ q,G.length = q:=⟨_,rfl⟩
    have HQ:Hid (G.length = q):=hq
    have hq0:0 < q:=by
     by_cases e:G = []
     ·exfalso
      have h:=HGZ.out
      rw [e] at h
      have hz0:z = 0:=by simpa [Tx.valT] using h.symm
      exact HZN.out hz0
     ·have:G.length ≠ 0:=fun e2=>e (List.length_eq_zero_iff.1 e2)
      omega
    obtain ⟨gg,gcap,rfl,hgg⟩:=own_cases HR.out (by rw [gi_length]; omega)
    have HGG:Hid (OwnAt wr C gg gcap (gi G)):=hgg
    have hggl:=hgg.ge.2
    have HGL:Hid ((gi G).length = q):=by rw [gi_length]; exact hq
    rw [hq] at hGn
    rw [HGL.out]
    clear hq hgg hA0 hnil hm HA HO HS
    obtain ⟨wo,rfl⟩:∃ wo:World,wo = wr:=⟨_,rfl⟩
    obtain ⟨D,hD⟩:∃ D,wo.heap.size = D:=⟨_,rfl⟩
    have hgD:gg < D:=by omega
    have HBD:Hid (Lib.IsBuilder 156 5 D D (Lib.byteCells (decTail G q)) (wo.alloc (.cells #[.pointer none,.slice none 0 0] 156))):=by
     show Lib.IsBuilder _ _ _ _ _ _
     rw [← HQ.out,decTail_end,← hD]
     exact Lib.fresh_isBuilder _ _ wo
    have HW1:Hid (w1.heap.size ≤ D):=by rw [← hD]; exact HB.out.size
    have HBA:Hid (Below D wo (wo.alloc (.cells #[.pointer none,.slice none 0 0] 156))):=(Below.refl _ _).alloc (by rw [hD]; exact Nat.le_refl _) _
    have hDa:D ≤ (wo.alloc (.cells #[.pointer none,.slice none 0 0] 156)).heap.size:=by simp; omega
    have HDA:=Lib.hid hDa
    clear hDa hCw
    go_wp2
    have HDD:Hid (wo.heap.size = D):=hD
    clear hD
    go_loopw [6] (fun kv ws=>∃ j:Nat,kv = .int .i64 ((j:Int) - 1) ∧ j ≤ q ∧ Lib.IsBuilder 156 5 D D (Lib.byteCells (decTail G j)) ws ∧ D ≤ ws.heap.size ∧ Below D wo ws) (fun kv _=>(intOf kv + 1).toNat)
    case atStart=>exact ⟨q,rfl,Nat.le_refl _,HBD.out,HDA.out,HBA.out⟩
    case round=>
     obtain ⟨j,rfl,hj,hbu,hDs,hbs⟩:=hrel
     have HBU:Hid (Lib.IsBuilder 156 5 D D (Lib.byteCells (decTail G j)) wr):=hbu
     have HBS:Hid (Below D wo wr):=hbs
     have hlen:=decTail_len HGO.out (q - j) j (by have:=HQ.out; omega)
     have HLN:Hid ((decTail G j).length ≤ 19 * (q - j)):=hlen
     clear hbu hlen
     cases j with
     | zero =>
       clear hbs
       have HZ0:Hid (decTail G 0 = Lib.decDigits z.toNat):=by
        show _ = _
        rw [decTail_zero (by have:=HQ.out; omega)]
        congr 1
        have:=HGZ.out; omega
       go_wp2_with fail
       refine (Tryz.Builder_String_any D D (decTail G 0) _ HBU.out hDs).mono ?_
       rintro e w7 ⟨rfl,hb7⟩
       have HB7:Hid (Below w1.heap.size w1 w7):=HB.out.trans ((HBS.out.mono HW1.out).trans (hb7.mono HW1.out))
       clear hb7
       go_wp2
       go_ret
       exact ⟨by rw [HZ0.out]; rfl,HB7.out⟩
     | succ j =>
       rw [show ((j + 1:Nat):Int) - 1 = j by omega]
       obtain ⟨x,hx⟩:∃ x,G.getD j 0 = x:=⟨_,rfl⟩
       have hxl:x < 10000000000000000000:=by rw [← hx]; exact HGO.out.lt j
       have hcx:=(hbs.cell (p:=⟨gg,j,none⟩) hgD).trans (HGG.out.cell (j:=j) (by have:=HGL.out; omega))
       rw [gi_get,hx] at hcx
       have HX:Hid (G.getD j 0 = x):=hx
       have HTB:Hid (TabOk wr):=HT.out.after (HB.out.trans (HBS.out.mono HW1.out))
       have hnd:Lib.nDigits x ≤ 19:=group_digits hxl
       have HND:Hid (∀ l:List UInt8,l = Lib.decDigits x → (⟨l.toArray⟩:ByteArray).size = Lib.nDigits x):=fun l hl=>by subst hl; rw [← Tx.length_list]; simp [Lib.decDigits_length]
       clear hbs hx
       by_cases ht:j + 1 = q
       ·have HJ : Hid (decTail G j = decTail G (j + 1) ++ Lib.decDigits x) := by
         show _ = _
         rw [decTail_top (by have:=HQ.out; omega),HX.out,show j + 1 = G.length by have:=HQ.out; omega,decTail_end]; rfl
        go_wp2_with fail
        refine (Tryz.FormatUint x (by omega) _ HTB.out.here).mono ?_
        rintro e w5 ⟨rfl,hb5⟩
        have HB5:Hid (Below D wo w5):=HBS.out.trans (hb5.mono hDs)
        have HBU5:Hid (Lib.IsBuilder 156 5 D D (Lib.byteCells (decTail G (j + 1))) w5):=builder_below HBU.out hb5
        have hsz5:=hb5.size
        clear hb5 HBU HBS HTB
        obtain ⟨t,ht5⟩:∃ t:ByteArray,(⟨(Lib.decDigits x).toArray⟩:ByteArray) = t:=⟨_,rfl⟩
        have htn:t.size = Lib.nDigits x:=by rw [← ht5]; exact HND.out _ rfl
        have htl:Lib.strCells t = Lib.byteCells (Lib.decDigits x):=by rw [← ht5]; rfl
        have HTL:Hid (Lib.strCells t = Lib.byteCells (Lib.decDigits x)):=htl
        have HTN:Hid (t.size = Lib.nDigits x):=htn
        rw [ht5]
        clear ht5 htl htn
        go_wp2_with fail
        refine (Tryz.WriteString D D _ t _ HBU5.out (by rw [HTN.out,Lib.byteCells_length]; have:=HLN.out; omega) (by omega)).mono ?_
        rintro e w6 ⟨rfl,hbu6,hb6⟩
        have HB6:Hid (Below D wo w6):=HB5.out.trans hb6
        have HBU6:Hid (Lib.IsBuilder 156 5 D D (Lib.byteCells (decTail G j)) w6):=by
         refine .inr ?_
         rw [HJ.out,Lib.byteCells_append,← HTL.out]
         exact hbu6
        have hsz6:=hb6.size
        clear hbu6 hb6 HBU5 HB5
        go_wp2
        exact ⟨⟨j,rfl,by omega,HBU6.out,by omega,HB6.out⟩,by simp [intOf]⟩
       ·have HJ : Hid (decTail G j = decTail G (j + 1) ++ (List.replicate (19 - Lib.nDigits x) 48 ++ Lib.decDigits x)) := by
         show _ = _
         rw [decTail_next HGO.out (by have:=HQ.out; omega),HX.out]
        go_wp2_with fail
        refine (Tryz.FormatUint x (by omega) _ HTB.out.here).mono ?_
        rintro e w5 ⟨rfl,hb5⟩
        have HB5:Hid (Below D wo w5):=HBS.out.trans (hb5.mono hDs)
        have HBU5:Hid (Lib.IsBuilder 156 5 D D (Lib.byteCells (decTail G (j + 1))) w5):=builder_below HBU.out hb5
        have hsz5:=hb5.size
        clear hb5 HBU HBS HTB
        obtain ⟨t,ht5⟩:∃ t:ByteArray,(⟨(Lib.decDigits x).toArray⟩:ByteArray) = t:=⟨_,rfl⟩
        have htn:t.size = Lib.nDigits x:=by rw [← ht5]; exact HND.out _ rfl
        have htl:Lib.strCells t = Lib.byteCells (Lib.decDigits x):=by rw [← ht5]; rfl
        have HTL:Hid (Lib.strCells t = Lib.byteCells (Lib.decDigits x)):=htl
        have HTN:Hid (t.size = Lib.nDigits x):=htn
        have htn19:(t.size:Int) ≤ 19:=by omega
        rw [ht5]
        clear ht5 htl htn
        go_wp2_with fail
        have hrep:=Tryz.strings_Repeat ⟨#[48]⟩ (19 - t.size) w5 (by omega) (by show 1 * _ ≤ _; omega)
        rw [show ((19 - t.size:Nat):Int) = 19 - (t.size:Int) by omega] at hrep
        refine hrep.mono ?_
        clear hrep
        rintro e w6 ⟨rfl,hb6⟩
        obtain ⟨u,hu⟩:∃ u:ByteArray,(⟨(Lib.repeatL (⟨#[48]⟩:ByteArray).data.toList (19 - t.size)).toArray⟩:ByteArray) = u:=⟨_,rfl⟩
        have hul:u.data.toList = List.replicate (19 - t.size) 48:=by rw [← hu]; exact Tx.repeat_one 48 _
        have HUL:Hid (Lib.strCells u = Lib.byteCells (List.replicate (19 - Lib.nDigits x) 48)):=by
         show _ = _
         rw [Lib.strCells_eq,hul,HTN.out]
        have hun:u.size ≤ 19:=by rw [← Tx.length_list,hul,List.length_replicate]; omega
        have HB6:Hid (Below D wo w6):=HB5.out.trans (hb6.mono (by omega))
        have HBU6:Hid (Lib.IsBuilder 156 5 D D (Lib.byteCells (decTail G (j + 1))) w6):=builder_below HBU5.out hb6
        have hsz6:=hb6.size
        rw [hu]
        clear hb6 hu hul HB5 HBU5
        go_wp2_with fail
        refine (Tryz.WriteString D D _ u _ HBU6.out (by rw [Lib.byteCells_length]; have:=HLN.out; omega) (by omega)).mono ?_
        rintro e w7 ⟨rfl,hbu7,hb7⟩
        have HB7:Hid (Below D wo w7):=HB6.out.trans hb7
        have HBU7:Hid (Lib.IsBuilder 156 5 D D (Lib.byteCells (decTail G (j + 1)) ++ Lib.strCells u) w7):=.inr hbu7
        have hsz7:=hb7.size
        clear hbu7 hb7 HBU6 HB6
        go_wp2_with fail
        refine (Tryz.WriteString D D _ t _ HBU7.out (by rw [List.length_append,Lib.strCells_length,Lib.byteCells_length]; have:=HLN.out; omega) (by omega)).mono ?_
        rintro e w8 ⟨rfl,hbu8,hb8⟩
        have HB8:Hid (Below D wo w8):=HB7.out.trans hb8
        have HBU8:Hid (Lib.IsBuilder 156 5 D D (Lib.byteCells (decTail G j)) w8):=by
         refine .inr ?_
         rw [HJ.out,Lib.byteCells_append,Lib.byteCells_append,← HTL.out,← HUL.out,← List.append_assoc]
         exact hbu8
        have hsz8:=hb8.size
        clear hbu8 hb8 HBU7 HB7
        go_wp2
        exact ⟨⟨j,rfl,by omega,HBU8.out,by omega,HB8.out⟩,by simp [intOf]⟩
   ·have hne:L ≠ []:=fun e=>hm0 (by rw [← hm,e]; rfl)
    have HNE:Hid (L ≠ []):=hne
    have hfit:=HA.out.fits hne HZ.out
    have hmp:0 < m:=by omega
    clear hm hne hm0
    go_wp2_with fail
    have hcells:∀ j,j < L.length → wr.cell? ⟨g,j,none⟩ = some (.int .u64 (L.getD j 0)):=fun j hj=>HO.out.cell hj
    have hby:=Tryz.byWord g cap g cap L L 10000000000000000000 w1.heap.size wr HO.out rfl HA.out.dig hcells (by omega) (by omega) (by have:=HM.out; omega)
    rw [HM.out] at hby
    refine hby.mono ?_
    clear hcells hby
    rintro e w3 ⟨⟨L',r,rfl,ho',hd',hl',hv',r0,r1⟩,hgb⟩
    have HO':Hid (OwnAt w3 w1.heap.size g cap L'):=ho'
    have HD':Hid (Dig L'):=hd'
    have HL':Hid (L'.length = m):=hl'
    have HV':Hid (val L = 10000000000000000000 * val L' + r):=hv'
    have HGB:Hid (wr.grownBy w3 (some g)):=hgb
    have hsz:=hgb.size
    have hown3:w3.ownsRow C 73 1 u4 (gi G).length ((gi G).map (Value.int .u64)):=HR.out.kept hgb (by
     cases hv:u4.ownBlock with
     | none=>exact .inl rfl
     | some k=>have:=(World.ownsRow.lt HR.out k hv).1; exact .inr (by simp; omega))
    have HW3:Hid (w3.ownsRow C 73 1 u4 (gi G).length ((gi G).map (Value.int .u64))):=hown3
    have HGL:Hid ((gi G).length = G.length):=gi_length G
    clear ho' hd' hl' hv' hgb hown3
    go_wp2_with (first
     |(at_builtin; refine wpList_append_own _ rfl _ _ 139 rfl C 73 i0 (.int .u64 0) 1 8 Tryz.underlying139 hi hz0 hz1 hz2 rfl (by decide) _ _ _ rfl (HW3.out.alloc _) ⟨w3.heap.size,0,none⟩ 1 1 [.int .u64 r] rfl rfl ?c1 ?c2 ?c3 ?c4 ?c5 ?_))
    case c1=>
     intro j u hj
     match j,hj with
     | 0,hj=>simp at hj; subst hj; simp [Addr.add]
    case c2=>intro u hu; rw [List.mem_singleton.1 hu]; rfl
    case c3=>have:=HGL.out; unfold maxLen; omega
    case c4=>have:=HGL.out; omega
    case c5=>simp; omega
    intro v' w4 hown' hgrow _
    have HR4:Hid (w4.ownsRow C 73 1 v' (gi (G ++ [r.toNat])).length ((gi (G ++ [r.toNat])).map (Value.int .u64))):=by
     have h:=hown'
     show World.ownsRow _ _ _ _ _ _ _
     rw [gi_snoc G r0,List.length_append,List.map_append]
     exact h
    have hg4:OwnAt w4 w1.heap.size g cap L':=(HO'.out.kept (World.grownBy_alloc w3 _ none) (by simp)).kept hgrow (by
     intro e
     have:=(World.ownsRow.lt HW3.out g e.symm).1
     omega)
    have HO4:Hid (OwnAt w4 w1.heap.size g cap L'):=hg4
    have HB4:Hid (Below w1.heap.size w1 w4):=((HB.out.grown HGB.out (by have:=HB.out.size; exact this) (fun k hk=>by cases hk; exact hge1)).alloc (by have:=HB.out.size; omega) _).grown hgrow (by have:=HB.out.size; simp; omega) (fun k hk=>by have:=(World.ownsRow.lt HW3.out k hk).1; omega)
    have hsz4:C ≤ w4.heap.size:=by have:=hgrow.size; simp at this; omega
    clear hown' hgrow hg4
    go_wp2_with fail
    have HTRIM:Hid (Calls Tryz.prog 108 #[.slice (some ⟨g,0,none⟩) m cap] w4 fun e w'=>(∃ k:Nat,e = .returned (.slice (some ⟨g,0,none⟩) k cap) ∧ k ≤ L'.length ∧ Top (L'.take k) ∧ val (L'.take k) = val L') ∧ w' = w4):=by
     have h:=Tryz.trim (some ⟨g,0,none⟩) cap L' w4 (HO4.out.digs)
     rw [HL'.out] at h ⊢
     exact h
    refine HTRIM.out.mono ?_
    clear HTRIM
    rintro e w5 ⟨⟨k,rfl,hk,ht,hv⟩,rfl⟩
    have HST:Hid (TextAt z (L'.take k) (G ++ [r.toNat])):=HA.out.step HNE.out HD'.out HV'.out r0 r1 ht hv
    have HOK:Hid (OwnAt w5 w1.heap.size g cap (L'.take k)):=HO4.out.take k hk
    have HLK:Hid ((L'.take k).length = k):=by rw [List.length_take]; show _ = _; omega
    have hkl:k ≤ l:=by have:=HL'.out; omega
    clear ht hv
    have hs1:sliceLen u4 = (gi G).length:=ownsRow_sliceLen HR.out
    have hs2:sliceLen v' = (gi (G ++ [r.toNat])).length:=ownsRow_sliceLen HR4.out
    rw [gi_length] at hs1 hs2
    rw [List.length_append] at hs2
    have HS1:Hid (sliceLen u4 = G.length):=hs1
    have HS2:Hid (sliceLen v' = G.length + 1):=hs2
    clear hs1 hs2
    go_wp2
    exact ⟨⟨L'.take k,G ++ [r.toNat],by rw [HLK.out],HOK.out,HR4.out,HST.out,by rw [HLK.out]; exact hkl,by rw [List.length_append]; simp; omega,hsz4,HB4.out⟩,by rw [HS1.out,HS2.out]; omega⟩
end Go.Proofs.Wd
