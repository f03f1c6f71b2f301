/- What Text of the reference's numbers returns: the numeral. What Text of the reference's numbers returns: the walk. -/
import Derived.Test.YtcnjcfoaoaldeaaGreatDoorRm
import Derived.Test.YtcnjcfoaoaldeaaGreatDoorTx
import Derived.Lib.Hide
import Derived.Laws.IdiomStrings
set_option linter.unusedVariables false
set_option maxHeartbeats 4000000
set_option maxRecDepth 100000
namespace Go.Proofs.Tx
open Go.Lib
theorem pad_cons (m z:Nat):pad (m + 1) z = UInt8.ofNat (48 + z / 10 ^ m % 10) :: pad m z:=by
 induction m generalizing z with
 | zero=>simp [pad]
 | succ m ih =>
   rw [pad,ih (z / 10),Nat.div_div_eq_div_mul,← Nat.pow_succ',List.cons_append]
   rfl
theorem pad_is_dec {m z:Nat} (hm:1 ≤ m) (h0:z / 10 ^ m = 0) (h1:z / 10 ^ (m - 1) ≠ 0):pad m z = decDigits z:=by
 have hp:0 < 10 ^ m:=Nat.pow_pos (by decide)
 have hlt:z < 10 ^ m:=by
  rcases Nat.div_eq_zero_iff.1 h0 with h | h
  ·omega
  ·exact h
 rw [pad_dec m z hm hlt]
 have hn:nDigits z = m:=by
  have h2:=nDigits_le m z hm hlt
  have h3:=lt_pow_nDigits z
  by_cases e:nDigits z = m
  ·exact e
  ·exfalso
   have h4:10 ^ nDigits z ≤ 10 ^ (m - 1):=Nat.pow_le_pow_right (by decide) (by omega)
   exact h1 (Nat.div_eq_of_lt (by omega))
 rw [hn,Nat.sub_self]; rfl
end Go.Proofs.Tx
namespace Go.Proofs
open Go.RowKit
/-- What holds in the middle of Text: the lowest 4 i + k digits of z stand in s, d is what is left of word i. -/
structure RtAt (L:List Int) (z i k:Nat) (d:Int) (s:ByteArray):Prop where
 text:s.data.toList = Tx.pad (4 * i + k) z
 k4:k ≤ 4
 rest:((z / 10 ^ (4 * i + k):Nat):Int) = d + 10 ^ (4 - k) * val (L.drop (i + 1))
 d0:0 ≤ d
 d1:d < 10 ^ (4 - k)
 top:i + 1 = L.length → (k = 0 → d ≠ 0) ∧ (0 < k → z / 10 ^ (4 * i + k - 1) ≠ 0)
/-- At the head of the outer loop. -/
def RtHead (L:List Int) (z i:Nat) (s:ByteArray):Prop:=i ≤ L.length ∧ (i < L.length → s.data.toList = Tx.pad (4 * i) z ∧ ((z / 10 ^ (4 * i):Nat):Int) = val (L.drop i)) ∧ (i = L.length → s.data.toList = Lib.decDigits z)
theorem RtHead.start {L:List Int} {z:Nat} (hz:(z:Int) = val L) (h0:L ≠ []):RtHead L z 0 ⟨#[]⟩:=by
 refine ⟨Nat.zero_le _,fun _=>⟨rfl,by simpa using hz⟩,fun e=>?_⟩
 exact absurd (List.length_eq_zero_iff.1 e.symm) h0
theorem RtHead.word {L:List Int} {z i:Nat} {s:ByteArray} (h:RtHead L z i s) (hd:Dig L) (ht:Top L) (hi:i < L.length):RtAt L z i 0 (L.getD i 0) s:=by
 obtain ⟨h1,h2⟩:=h.2.1 hi
 have hg:=hd.get i
 refine ⟨h1,by omega,?_,hg.1,by show _ < (10000:Int); omega,fun e=>⟨fun _=>?_,fun e2=>by omega⟩⟩
 ·rw [Nat.add_zero,h2,val_drop]; rfl
 ·rcases ht with rfl | ht
  ·simp at hi
  ·rw [show i = L.length - 1 by omega]; exact ht
theorem RtAt.step {L:List Int} {z i k:Nat} {d:Int} {s t:ByteArray} (h:RtAt L z i k d s) (hk:k < 4) (hb:i + 1 = L.length → d ≠ 0) (ht:t.data.toList = UInt8.ofNat (48 + d.toNat % 10) :: s.data.toList):RtAt L z i (k + 1) (d / 10) t:=by
 have hr:=h.rest
 have h0:=h.d0
 have h1:=h.d1
 generalize hV:val (L.drop (i + 1)) = V at hr
 have key:∃ e:Int,d + 10 ^ (4 - k) * V = d + 10 * e ∧ (10:Int) ^ (4 - (k + 1)) * V = e ∧ d / 10 < 10 ^ (4 - (k + 1)):=by
  have:k = 0 ∨ k = 1 ∨ k = 2 ∨ k = 3:=by omega
  rcases this with rfl | rfl | rfl | rfl
  ·exact ⟨1000 * V,by show d + 10000 * V = _; omega,rfl,by change d < 10000 at h1; show _ < (1000:Int); omega⟩
  ·exact ⟨100 * V,by show d + 1000 * V = _; omega,rfl,by change d < 1000 at h1; show _ < (100:Int); omega⟩
  ·exact ⟨10 * V,by show d + 100 * V = _; omega,rfl,by change d < 100 at h1; show _ < (10:Int); omega⟩
  ·exact ⟨1 * V,by show d + 10 * V = _; omega,rfl,by change d < 10 at h1; show _ < (1:Int); omega⟩
 obtain ⟨e,e1,e2,e3⟩:=key
 rw [e1] at hr
 have hm:z / 10 ^ (4 * i + (k + 1)) = z / 10 ^ (4 * i + k) / 10:=by
  rw [Nat.div_div_eq_div_mul,← Nat.pow_succ]; rfl
 refine ⟨?_,by omega,?_,by omega,e3,fun e=>⟨fun e3=>by omega,fun _=>?_⟩⟩
 ·rw [ht,h.text,show 4 * i + (k + 1) = 4 * i + k + 1 by omega,Tx.pad_cons]
  have:z / 10 ^ (4 * i + k) % 10 = d.toNat % 10:=by omega
  rw [this]
 ·rw [hV,e2,hm]; omega
 ·rw [show 4 * i + (k + 1) - 1 = 4 * i + k by omega]
  by_cases hk0:k = 0
  ·have:=hb e
   have hz:val (L.drop (i + 1)) = 0:=by rw [List.drop_eq_nil_of_le (by omega)]; rfl
   intro e4
   rw [e4] at hr
   rw [← hV,hz,Int.mul_zero] at e2
   omega
  ·have:=hb e
   have hz:val (L.drop (i + 1)) = 0:=by rw [List.drop_eq_nil_of_le (by omega)]; rfl
   intro e4
   rw [e4] at hr
   rw [← hV,hz,Int.mul_zero] at e2
   omega
theorem RtAt.leave {L:List Int} {z i k:Nat} {d:Int} {s:ByteArray} (h:RtAt L z i k d s) (hi:i < L.length) (hx:k = 4 ∨ (i + 1 = L.length ∧ d = 0)):RtHead L z (i + 1) s:=by
 have hr:=h.rest
 have h0:=h.d0
 have h1:=h.d1
 have hk:=h.k4
 by_cases hl:i + 1 = L.length
 ·refine ⟨by omega,fun e=>by omega,fun _=>?_⟩
  have hd:d = 0:=by
   rcases hx with rfl | hx
   ·change d < 1 at h1; omega
   ·exact hx.2
  have hz:val (L.drop (i + 1)) = 0:=by rw [List.drop_eq_nil_of_le (by omega)]; rfl
  rw [hz,hd,Int.mul_zero] at hr
  obtain ⟨t1,t2⟩:=h.top hl
  have hk0:0 < k:=by
   by_cases e:k = 0
   ·exact absurd hd (t1 e)
   ·omega
  rw [h.text]
  exact Tx.pad_is_dec (by omega) (by omega) (t2 hk0)
 ·have hk4:k = 4:=hx.resolve_right (fun e=>hl e.1)
  subst hk4
  change d < 1 at h1
  have hd:d = 0:=by omega
  subst hd
  refine ⟨by omega,fun _=>⟨?_,?_⟩,fun e=>absurd e hl⟩
  ·rw [h.text,show 4 * (i + 1) = 4 * i + 4 by omega]
  ·rw [show 4 * (i + 1) = 4 * i + 4 by omega,hr]; simp
end Go.Proofs
namespace Go.Proofs
open Go.RowKit
theorem bytes_eq {s:ByteArray} {l:List UInt8} (h:s.data.toList = l):s = ⟨l.toArray⟩:=by
 obtain ⟨⟨m⟩⟩:=s
 simp at h
 rw [h]
theorem castStep (k:Nat):Value.int IntKind.i64 ((k:Int) + 1) = Value.int IntKind.i64 ((k + 1:Nat):Int):=rfl
theorem Tryz.rText (v:Value) (z:Int) (n:Nat) (w:World) (h:NumIs w v z n) (hn:n ≤ 100000000000) :
 Calls Tryz.prog 74 #[v] w fun e w'=>e = .returned (.string ⟨(Lib.decDigits z.toNat).toArray⟩) ∧ Below w.heap.size w w':=by
 obtain ⟨L,hdg,hd,ht,hv,hl⟩:=h
 rcases hdg.cases with ⟨rfl,rfl⟩ | ⟨g,cap,rfl,hr⟩
 ·have hz:z.toNat = 0:=by rw [← hv]; rfl
  have HZ:Hid ((⟨(Lib.decDigits z.toNat).toArray⟩:ByteArray) = ⟨#[48]⟩):=by
   show _ = _
   rw [hz,Lib.decDigits_one (by decide)]; rfl
  clear hv hz hdg
  go_enter Tryz.func74,Tryz.ntmps74
  go_wp2
  go_ret
  exact ⟨by rw [HZ.out]; rfl,Below.refl _ _⟩
 ·by_cases hL:L = []
  ·subst hL
   have hz:z.toNat = 0:=by rw [← hv]; rfl
   have HZ:Hid ((⟨(Lib.decDigits z.toNat).toArray⟩:ByteArray) = ⟨#[48]⟩):=by
    show _ = _
    rw [hz,Lib.decDigits_one (by decide)]; rfl
   clear hv hz hdg
   go_enter Tryz.func74,Tryz.ntmps74
   go_wp2
   go_ret
   exact ⟨by rw [HZ.out]; rfl,Below.refl _ _⟩
  ·have hz0:0 ≤ z:=by rw [← hv]; exact val_nonneg hd
   have HST:Hid (RtHead L z.toNat 0 ⟨#[]⟩):=RtHead.start (by rw [hv]; omega) hL
   obtain ⟨m,hm⟩:∃ m,L.length = m:=⟨_,rfl⟩
   have HM:Hid (L.length = m):=hm
   have hm0:0 < m:=by have:L.length ≠ 0:=fun e=>hL (List.length_eq_zero_iff.1 e); omega
   have hm00:((m:Int) == 0) = false:=by simp; omega
   have HD:Hid (Dig L):=hd
   have HT:Hid (Top L):=ht
   have HR:Hid (RowAt w g cap L):=hr
   have hlt:=hr.lt
   have hf:=hr.fits
   have hx:=hr.max
   unfold maxLen at hx
   rw [hm] at hl hf
   rw [hm]
   obtain ⟨Z,hZ⟩:∃ Z,z.toNat = Z:=⟨_,rfl⟩
   rw [hZ] at HST
   rw [hZ]
   clear hd ht hr hdg hv hL hm hz0 hZ
   go_enter Tryz.func74,Tryz.ntmps74
   go_wp2
   go_loopw [3,4] (fun sv i wr=>∃ (b:ByteArray) (k:Nat),sv = .string b ∧ i = .int .i64 k ∧ k ≤ m ∧ b.size ≤ 4 * k ∧ RtHead L Z k b ∧ Below w.heap.size w wr) (fun _ i _=>m - (intOf i).toNat)
   case atStart=>exact ⟨_,0,rfl,rfl,by omega,Nat.le_refl 0,HST.out,Below.refl _ _⟩
   case round=>
    obtain ⟨b,i,rfl,rfl,hi,hbs,hat,hb⟩:=hrel
    have HA:Hid (RtHead L Z i b):=hat
    have HB:Hid (Below w.heap.size w wr):=hb
    by_cases hin:i = m
    ·subst hin
     have HTX:Hid (b = ⟨(Lib.decDigits Z).toArray⟩):=bytes_eq (hat.2.2 HM.out.symm)
     clear hat hb
     go_wp2
     go_ret
     exact ⟨by rw [HTX.out]; rfl,HB.out⟩
    ·obtain ⟨x,hx⟩:∃ x,L.getD i 0 = x:=⟨_,rfl⟩
     have hiL:i < L.length:=by have:=HM.out; omega
     have hcx:=(hb.cell (p:=⟨g,i,none⟩) hlt).trans (HR.out.cells i hiL)
     rw [hx] at hcx
     have HW:Hid (RtAt L Z i 0 x b):=by rw [← hx]; exact HA.out.word HD.out HT.out hiL
     have HIL:=Lib.hid hiL
     have hxd:=HD.out.get i
     rw [hx] at hxd
     obtain ⟨wo,rfl⟩:∃ wo:World,wo = wr:=⟨_,rfl⟩
     have hdi:decide (i < m) = true:=by simp; omega
     clear hat hb hx hiL
     go_wp2
     go_loopw [3,5,6] (fun sv dv kv ws=>∃ (c:ByteArray) (d:Int) (k:Nat),sv = .string c ∧ dv = .int .i64 d ∧ kv = .int .i64 k ∧ k ≤ 4 ∧ 0 ≤ d ∧ d ≤ 9999 ∧ c.size ≤ 4 * i + k ∧ RtAt L Z i k d c ∧ Below wo.heap.size wo ws) (fun _ _ kv _=>4 - (intOf kv).toNat)
     case atStart=>exact ⟨b,x,0,rfl,rfl,rfl,by omega,hxd.1,hxd.2,by omega,HW.out,Below.refl _ _⟩
     case round=>
      obtain ⟨c,d,k,rfl,rfl,rfl,hk,d0,d1,hcs,hat,hb⟩:=hrel
      have HA2:Hid (RtAt L Z i k d c):=hat
      have HB2:Hid (Below wo.heap.size wo wr):=hb
      have hsz:=hb.size
      obtain ⟨y,hy⟩:∃ y:UInt8,y = UInt8.ofNat (48 + d.toNat % 10):=⟨_,rfl⟩
      have hyn:(y.toNat:Int) = 48 + d % 10:=by rw [hy,Tx.toNat_digit (by omega)]; omega
      have HY:Hid (y = UInt8.ofNat (48 + d.toNat % 10)):=hy
      have hcv:(convert 154 9 (.slice (some ⟨wr.heap.size,0,none⟩) 1 1)).run Tryz.prog (wr.alloc (.cells #[.int .u8 (48 + d % 10)] 5)) = .ok (.string ⟨#[y]⟩) (wr.alloc (.cells #[.int .u8 (48 + d % 10)] 5)):=by
       have h:=run_convert_bytes_back (P:=Tryz.prog) (wr.alloc (.cells #[.int .u8 (48 + d % 10)] 5)) 154 9 5 ⟨wr.heap.size,0,none⟩ 1 [y] Tryz.underlying154 Tryz.underlying5 Tryz.underlying9 (fun j hj=>by
        have:j = 0:=by simpa using hj
        subst this
        simp [Addr.add,hyn])
       exact h
      have HBA:Hid (Below wo.heap.size wo (wr.alloc (.cells #[.int .u8 (48 + d % 10)] 5))):=hb.alloc hsz _
      have HBO:Hid (Below w.heap.size w wr):=Below.trans HB.out (hb.mono (by have:=HB.out.size; omega))
      have HSZ:Hid ((⟨#[y]⟩ ++ c:ByteArray).size = c.size + 1):=by
       show _ = _
       rw [ByteArray.size_append]; show 1 + c.size = _; omega
      have HTL:Hid ((⟨#[y]⟩ ++ c:ByteArray).data.toList = UInt8.ofNat (48 + d.toNat % 10) :: c.data.toList):=by
       show _ = _
       rw [ByteArray.data_append,Array.toList_append,HY.out]; rfl
      clear hat hb hy hyn
      by_cases hk4:k = 4
      ·have HL2:Hid (RtHead L Z (i + 1) c):=HA2.out.leave HIL.out (.inl hk4)
       subst hk4
       go_wp2
       exact ⟨⟨c,i + 1,rfl,by simp,by omega,by omega,HL2.out,HBO.out⟩,by simp [intOf]; omega⟩
      ·by_cases hd0:d = 0
       ·have hdb:(d == 0) = true:=by simpa using hd0
        have HL2:Hid (i + 1 = m → RtHead L Z (i + 1) c):=fun e=>HA2.out.leave HIL.out (.inr ⟨by rw [HM.out]; exact e,hd0⟩)
        have HST2:Hid (i + 1 ≠ m → RtAt L Z i (k + 1) (d / 10) (⟨#[y]⟩ ++ c)):=fun e=>HA2.out.step (by omega) (fun e2=>absurd (by rw [← HM.out]; exact e2) e) HTL.out
        have HD0:=Lib.hid hd0
        clear hd0
        by_cases hl1:i + 1 = m
        ·have hb1:((i:Int) == (m:Int) - 1) = true:=by simp; omega
         have him:(i:Int) = (m:Int) - 1:=by omega
         go_wp2
         exact ⟨⟨c,i + 1,rfl,by simp; omega,by omega,by omega,HL2.out hl1,HBO.out⟩,by simp [intOf]; omega⟩
        ·have hb1:((i:Int) == (m:Int) - 1) = false:=by simp; omega
         have him:¬ (i:Int) = (m:Int) - 1:=by omega
         go_wp2
         exact ⟨⟨_,d / 10,k + 1,rfl,rfl,castStep k,by omega,by omega,by omega,by rw [HSZ.out]; omega,HST2.out hl1,HBA.out⟩,by simp [intOf]; omega⟩
       ·have hdb:(d == 0) = false:=by simpa using hd0
        have HST2:Hid (RtAt L Z i (k + 1) (d / 10) (⟨#[y]⟩ ++ c)):=HA2.out.step (by omega) (fun _=>hd0) HTL.out
        clear hd0
        by_cases hl1:i + 1 = m
        ·have hb1:((i:Int) == (m:Int) - 1) = true:=by simp; omega
         go_wp2
         exact ⟨⟨_,d / 10,k + 1,rfl,rfl,castStep k,by omega,by omega,by omega,by rw [HSZ.out]; omega,HST2.out,HBA.out⟩,by simp [intOf]; omega⟩
        ·have hb1:((i:Int) == (m:Int) - 1) = false:=by simp; omega
         have him:¬ (i:Int) = (m:Int) - 1:=by omega
         go_wp2
         exact ⟨⟨_,d / 10,k + 1,rfl,rfl,castStep k,by omega,by omega,by omega,by rw [HSZ.out]; omega,HST2.out,HBA.out⟩,by simp [intOf]; omega⟩
end Go.Proofs
