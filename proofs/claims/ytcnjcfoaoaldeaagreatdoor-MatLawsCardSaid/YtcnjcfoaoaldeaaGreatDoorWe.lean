/- What plain and group of the package nat return: whether a text is a number, and the number that a group of digits shows. What Get of the package nat returns: the number that a text shows and true, or nil and false. -/
import Derived.Test.YtcnjcfoaoaldeaaGreatDoorWd6
import Derived.Test.YtcnjcfoaoaldeaaGreatDoorTx
import Derived.Laws.DeepStrings4
set_option linter.unusedVariables false
set_option maxHeartbeats 4000000
set_option maxRecDepth 100000
namespace Go.Proofs.Wd
open Go.RowKit
theorem empty_of_size {s:ByteArray} (h:s.size = 0):s = ⟨#[]⟩:=by
 obtain ⟨⟨l⟩⟩:=s
 cases l with
 | nil=>rfl
 | cons a l=>simp [ByteArray.size] at h
theorem list_empty {s:ByteArray} (h:0 < s.size):s.toList.isEmpty = false:=by
 cases h':s.toList with
 | nil =>
   rw [ByteArray.toList_eq] at h'
   have h2:s.size = s.data.toList.length:=Go.Lib.size_eq s
   rw [h'] at h2
   rw [List.length_nil] at h2; omega
 | cons=>rfl
theorem nought_alone {s:ByteArray} (h:s.size = 1) (h0:∀ h:0 < s.size,(s[0].toNat:Int) = 48):s.toList = [48]:=by
 rw [ByteArray.toList_eq]
 have h2:s.data.toList.length = 1:=h
 have h3:=h0 (by omega)
 obtain ⟨⟨l⟩⟩:=s
 cases l with
 | nil=>simp at h2
 | cons a l =>
   cases l with
   | cons b l=>simp at h2
   | nil =>
     have e:a.toNat = 48:=by
      have:(a.toNat:Int) = 48:=h3
      omega
     rw [show a = 48 from by rw [← UInt8.ofNat_toNat (x:=a),e]; rfl]
theorem alone_size {s:ByteArray} (h:(!s.toList == [48]) = false):s.size = 1:=by
 have h1:s.toList = [48]:=by simpa using h
 have h2:s.size = s.data.toList.length:=Go.Lib.size_eq s
 rw [ByteArray.toList_eq] at h1
 rw [h2,h1]; rfl
theorem two_size {s:ByteArray} (h:(!s.toList == [48]) = true) (h0:∀ h:0 < s.size,(s[0].toNat:Int) = 48):s.size ≠ 1:=fun e=>by
 rw [nought_alone e h0] at h
 simp at h
theorem Tryz.groupX (s:ByteArray) (w:World) (hs:s.size ≤ 19) (hd:∀ c ∈ s.data.toList,Tx.isDig c) :
 Calls Tryz.prog 96 #[.string s] w fun e w'=>e = .returned (.int .u64 (Tx.num s:Int)) ∧ w' = w:=by
 have HD:Hid (∀ c ∈ s.data.toList,Tx.isDig c):=hd
 clear hd
 obtain ⟨n,hn⟩:∃ n,s.size = n:=⟨_,rfl⟩
 rw [hn] at hs
 go_enter Tryz.func96,Tryz.ntmps96
 go_wp2
 go_loop [3,7] (fun x i=>∃ (a:Int) (k:Nat),x = .int .u64 a ∧ i = .int .i64 k ∧ a = (Tx.dv (s.data.toList.take k):Int) ∧ k ≤ n) (fun x i=>n - (intOf i).toNat)
 case atStart=>exact ⟨0,0,rfl,rfl,by simp,by omega⟩
 case round=>
  obtain ⟨a,k,rfl,rfl,ha,hk⟩:=hrel
  have HA:Hid (a = (Tx.dv (s.data.toList.take k):Int)):=ha
  have hlt:=Tx.dv_take_lt HD.out k
  have a0:0 ≤ a:=by omega
  by_cases hkn:k = n
  ·subst hkn
   clear ha hlt
   have HE:Hid (a = (Tx.num s:Int)):=by
    have h:=HA.out
    rw [List.take_of_length_le (by rw [Tx.length_list]; omega)] at h
    exact h
   go_wp2
   go_ret
   exact ⟨by rw [HE.out]; rfl,rfl⟩
  ·have hks:k < s.size:=by omega
   have hb:=Tx.dig_at HD.out hks
   have hp:=Tx.pow18 (k:=k) (by omega)
   have a1:a ≤ 1000000000000000000:=by omega
   have HS:Hid ((Tx.dv (s.data.toList.take (k + 1)):Int) = a * 10 + ((s[k].toNat:Int) - 48)):=by
    rw [HA.out]; exact Tx.dv_take_int s k hks hb.1
   clear ha hlt hp
   go_wp2
   exact ⟨⟨_,k + 1,rfl,by simp,by have:=HS.out; omega,by omega⟩,by simp [intOf]; omega⟩
/-- The first k places are digits. -/
def DigsTo (s:ByteArray) (k:Nat):Prop:=∀ j (h:j < s.size),j < k → 48 ≤ (s[j].toNat:Int) ∧ (s[j].toNat:Int) ≤ 57
theorem Tryz.plainX (s:ByteArray) (w:World) (hmax:s.size ≤ 9223372036854775807) :
 Calls Tryz.prog 94 #[.string s] w fun e w'=>e = .returned (.bool (Tx.plainB s)) ∧ w' = w:=by
 by_cases h0:s.size = 0
 ·have HF:Hid (Tx.plainB s = false):=Tx.not_numeral_size (.inl h0)
  obtain rfl:=empty_of_size h0
  clear h0
  go_enter Tryz.func94,Tryz.ntmps94
  go_wp2
  go_ret
  exact ⟨by rw [HF.out]; rfl,rfl⟩
 ·have hP:0 < s.size:=by omega
  have hE:=list_empty hP
  by_cases h1:2000 < s.size
  ·have HF:Hid (Tx.plainB s = false):=Tx.not_numeral_size (.inr h1)
   go_enter Tryz.func94,Tryz.ntmps94
   go_wp2
   go_ret
   exact ⟨by rw [HF.out]; rfl,rfl⟩
  ·have HF:Hid ((!s.toList == [48]) = true → (s[0].toNat:Int) = 48 → Tx.plainB s = false):=fun h g=>Tx.not_numeral_nought (by have:=two_size h (fun _=>g); omega) g
   have HT:Hid ((s.size = 1 ∨ (s[0].toNat:Int) ≠ 48) → (∀ j (h:j < s.size),48 ≤ (s[j].toNat:Int) ∧ (s[j].toNat:Int) ≤ 57) → Tx.plainB s = true):=fun h g=>Tx.plainB_true.2 ⟨Tx.numeral_of hP h g,by omega⟩
   have HNB:Hid (∀ k,∀ h:k < s.size,(s[k].toNat:Int) < 48 ∨ 57 < (s[k].toNat:Int) → Tx.plainB s = false):=fun k h g=>Tx.not_numeral_bad h g
   obtain ⟨n,hn⟩:∃ n,s.size = n:=⟨_,rfl⟩
   have HN:Hid (s.size = n):=hn
   go_enter Tryz.func94,Tryz.ntmps94
   go_wp2
   ·go_ret
    exact ⟨by rw [HF.out ((by assumption:2000 < (n:Int) ∨ (!s.toList == [48]) = true).resolve_left (by omega)) (by assumption)]; rfl,rfl⟩
   all_goals
    have HFIRST:Hid (s.size = 1 ∨ (s[0].toNat:Int) ≠ 48):=by
     first
      | exact .inr (by assumption)
      | exact .inl (alone_size (by assumption:(n:Int) ≤ 2000 ∧ (!s.toList == [48]) = false).2)
    go_loop [22] (fun i=>∃ k:Nat,i = .int .i64 k ∧ k ≤ n ∧ DigsTo s k) (fun i=>n - (intOf i).toNat)
    case atStart=>exact ⟨0,rfl,by omega,fun j h g=>absurd g (by omega)⟩
    case round=>
     obtain ⟨k,rfl,hk,hd⟩:=hrel
     have HD:Hid (DigsTo s k):=hd
     clear hd
     by_cases hkn:k = n
     ·subst hkn
      have HY:Hid (Tx.plainB s = true):=HT.out HFIRST.out (fun j h=>HD.out j h (by have:=HN.out; omega))
      go_wp2
      go_ret
      exact ⟨by rw [HY.out]; rfl,rfl⟩
     ·have hks:k < s.size:=by have:=HN.out; omega
      have HBAD:Hid ((s[k].toNat:Int) < 48 ∨ 57 < (s[k].toNat:Int) → Tx.plainB s = false):=HNB.out k hks
      have HNX:Hid (48 ≤ (s[k].toNat:Int) ∧ (s[k].toNat:Int) ≤ 57 → DigsTo s (k + 1)):=fun h j hj hjk=>by
       by_cases e:j = k
       ·subst e; exact h
       ·exact HD.out j hj (by omega)
      go_wp2
      all_goals first
       | exact ⟨⟨k + 1,by simp,by omega,HNX.out (by omega)⟩,by simp [intOf]; omega⟩
       | exact ⟨⟨_,_,.int .i64 ((k:Int) + 1),⟨k + 1,by simp,by omega,HNX.out (by omega)⟩,rfl,rfl,rfl⟩,by simp [intOf]; omega⟩
       |(go_ret; exact ⟨by rw [HBAD.out (by omega)]; rfl,rfl⟩)
end Go.Proofs.Wd
namespace Go.Proofs.Wd
open Go.RowKit
/-- The number and true of a text that is one, nil and false of another. -/
def GetIs (s:ByteArray) (w:World) (e:Ending):Prop:=(Tx.plainB s = true ∧ ∃ v,e = .returned (.tuple #[v,.bool true]) ∧ Num w v (Tx.num s:Int) 120) ∨ (Tx.plainB s = false ∧ e = .returned (.tuple #[.pointer none,.bool false]))
theorem GetIs.no {s:ByteArray} (w:World) (h:Tx.plainB s = false):GetIs s w (.returned (.tuple #[.pointer none,.bool false])):=.inr ⟨h,rfl⟩
theorem size_cut (s:ByteArray) (a b:Nat):(s.extract a b).size ≤ b - a:=by rw [ByteArray.size_extract]; omega
/-- What holds at the head of Get's loop: the places below kk are read, m groups are left. -/
structure GetAt (s:ByteArray) (n:Nat) (L:List Int) (ee kk m:Nat):Prop where
 dig:Dig L
 left:n + 19 = ee + 19 * m
 lt:kk < ee
 le:ee ≤ kk + 19
 fin:m = 0 → kk = n
 more:0 < m → kk < n
 len:L.length + m ≤ 107
 sum:val L = (Tx.dv (s.data.toList.take kk):Int)
 full:0 < kk → ee = kk + 19
theorem GetAt.start (s:ByteArray) {n e0 m:Nat} (h1:n + 19 = e0 + 19 * m) (h2:0 < m) (h3:m ≤ 106) (h4:e0 ≤ 19) (h5:0 < e0):GetAt s n [] e0 0 m:=
 ⟨Dig.nil,h1,h5,by omega,by omega,by omega,by simp; omega,by simp,by omega⟩
theorem GetAt.step {s:ByteArray} {n:Nat} {L L':List Int} {ee kk m:Nat} (h:GetAt s n L ee kk (m + 1)) (hn:s.size = n) (hd:Dig L') (hl:L'.length = L.length + 1) (hv:val L' = val L * 10000000000000000000 + (Tx.num (s.extract kk ee):Int)):GetAt s n L' (ee + 19) ee m:=by
 have h1:=h.left
 have h2:=h.lt
 have h3:=h.le
 have h4:=h.more (by omega)
 refine ⟨hd,by omega,by omega,by omega,by omega,by omega,by have:=h.len; omega,?_,fun _=>rfl⟩
 rw [hv,h.sum,Tx.dv_group s kk ee (by omega) (by omega)]
 by_cases hk:kk = 0
 ·subst hk; simp
 ·have:=h.full (by omega)
  rw [show ee - kk = 19 by omega,show (10:Nat) ^ 19 = 10000000000000000000 from rfl]
  omega
theorem GetAt.last {s:ByteArray} {n:Nat} {L:List Int} {ee kk:Nat} (h:GetAt s n L ee kk 0) (hn:s.size = n):val L = (Tx.num s:Int) ∧ L.length ≤ 120:=by
 have h1:=h.fin rfl
 have h2:=h.len
 refine ⟨?_,by omega⟩
 rw [h.sum,List.take_of_length_le (by rw [Tx.length_list]; omega)]; rfl
theorem Tryz.GetX (s:ByteArray) (w:World) (hmax:s.size ≤ 9223372036854775807) :
 Calls Tryz.prog 45 #[.string s] w fun e w'=>GetIs s w' e ∧ Below w.heap.size w w':=by
 obtain ⟨i0,hi,hz0,hz1,hz2⟩:=info_parts Tryz.info73
 by_cases h0:Tx.plainB s = true
 ·obtain ⟨hn0,hn1,hdg⟩:=Tx.plainB_digs h0
  have HDG:Hid (∀ c ∈ s.data.toList,Tx.isDig c):=hdg
  have H0:Hid (Tx.plainB s = true):=h0
  clear hdg
  obtain ⟨n,hn⟩:∃ n,s.size = n:=⟨_,rfl⟩
  have HN:Hid (s.size = n):=hn
  have HPL:Hid (∀ w,Calls Tryz.prog 94 #[.string s] w fun e w'=>e = .returned (.bool true) ∧ w' = w):=fun w=>by
   rw [← h0]; exact Tryz.plainX s w hmax
  clear h0
  rw [hn] at hn0 hn1
  obtain ⟨c,hc⟩:∃ c:Nat,(n:Int) / 19 + 1 = c:=⟨((n:Int) / 19 + 1).toNat,by omega⟩
  have hc1:c ≤ 1000:=by omega
  obtain ⟨e0,he0⟩:∃ e0:Nat,((n:Int) - 1) % 19 + 1 = e0:=⟨(((n:Int) - 1) % 19 + 1).toNat,by omega⟩
  have HE0:Hid (∃ m:Nat,n + 19 = e0 + 19 * m ∧ 0 < m ∧ m ≤ 106 ∧ e0 ≤ 19 ∧ 0 < e0):=⟨(n + 19 - e0) / 19,by omega,by omega,by omega,by omega,by omega⟩
  go_enter Tryz.func45,Tryz.ntmps45
  go_wp2_with (first
   |(go_at_call 94; (with_reducible refine (HPL.out _).mono ?_); rintro e w1 ⟨rfl,rfl⟩)
   |(refine wpList_make_own _ rfl _ _ 139 rfl w1.heap.size 73 i0 (.int .u64 0) 1 Tryz.underlying139 hi hz0 hz1 .i64 .i64 _ c rfl rfl rfl (by rw [hz2]; omega) (by unfold maxLen; omega) (Nat.le_refl _) ?_))
  intro w2 hown hgrow
  have HO:Hid (w2.ownsRow w1.heap.size 73 1 (.slice (some ⟨w1.heap.size,0,none⟩) 0 c) 0 []):=hown
  have HB:Hid (Below w1.heap.size w1 w2):=(Below.refl _ _).grown hgrow (Nat.le_refl _) (fun k hk=>by cases hk)
  clear hown hgrow
  go_wp2
  go_loopw [4,5,6] (fun x e k wr=>∃ (L:List Int) (ee kk m:Nat),e = .int .i64 ee ∧ k = .int .i64 kk ∧ wr.ownsRow w1.heap.size 73 1 x L.length (L.map (Value.int .u64)) ∧ GetAt s n L ee kk m ∧ Below w1.heap.size w1 wr) (fun _ e _ _=>n + 19 - (intOf e).toNat)
  case atStart=>
   obtain ⟨m,h1,h2,h3,h4,h5⟩:=HE0.out
   exact ⟨[],e0,0,m,rfl,rfl,HO.out,GetAt.start s h1 h2 h3 h4 h5,HB.out⟩
  case round=>
   obtain ⟨L,ee,kk,m,rfl,rfl,hown,hat,hb⟩:=hrel
   have HW:Hid (wr.ownsRow w1.heap.size 73 1 _ L.length (L.map (Value.int .u64))):=hown
   have HA:Hid (GetAt s n L ee kk m):=hat
   have HD:Hid (Dig L):=hat.dig
   have HB2:Hid (Below w1.heap.size w1 wr):=hb
   have hsz:=hb.size
   have h1:=hat.left
   have h2:=hat.lt
   have h3:=hat.le
   have h4:=hat.fin
   have h5:=hat.more
   have h6:=hat.len
   have H1:Hid (n + 19 = ee + 19 * m):=h1
   clear hown hb HO HB hat
   cases m with
   | zero =>
     have hkn:kk = n:=h4 rfl
     have HL:Hid (val L = (Tx.num s:Int) ∧ L.length ≤ 120):=HA.out.last HN.out
     subst hkn
     clear h4 h5
     go_wp2_with (go_at_call 97; refine (Tryz.made _ L _ (Digs.of_own HW.out) HD.out).mono ?_; rintro e w3 ⟨⟨v3,rfl,hv3⟩,hb3⟩; have HG:Hid (GetIs s w3 (.returned (.tuple #[v3,.bool true]))):=.inl ⟨H0.out,_,rfl,by rw [← HL.out.1]; exact Num.fewer hv3 HL.out.2⟩; have HB3:Hid (Below w1.heap.size w1 w3):=HB2.out.trans (hb3.mono hsz); clear hv3 hb3)
     go_ret2
     exact ⟨HG.out,HB3.out⟩
   | succ m =>
     have hkn:kk < n:=h5 (by omega)
     have hee:ee ≤ n:=by omega
     clear h1 h4 h5
     have HCUT:Hid ((s.extract kk ee).size ≤ 19):=Nat.le_trans (size_cut s kk ee) (by omega)
     have hsl:∀ w,(Instr.slice 9 (.string s) (some (.int .i64 (kk:Int))) (some (.int .i64 (ee:Int))) none).run Tryz.prog w = .ok (.string (s.extract kk ee)) w:=fun w=>by
      rw [run_slice_string_if w _ s _ _ _ _ Tryz.underlying9,if_pos (by omega),if_pos (by omega)]; rfl
     obtain ⟨g,hg⟩:∃ g:Int,(Tx.num (s.extract kk ee):Int) = g:=⟨_,rfl⟩
     have hgr:0 ≤ g ∧ g ≤ 18446744073709551615:=by
      have h:=Tx.dv_take_lt (Tx.digs_cut HDG.out kk ee) 19
      rw [List.take_of_length_le (by rw [Tx.length_list]; exact HCUT.out)] at h
      rw [← hg]; unfold Tx.num; omega
     obtain ⟨g0,g1⟩:=hgr
     have HG:Hid ((Tx.num (s.extract kk ee):Int) = g):=hg
     have HGR:Hid (∀ w,Calls Tryz.prog 96 #[.string (s.extract kk ee)] w fun e w'=>e = .returned (.int .u64 g) ∧ w' = w):=fun w=>by
      rw [← hg]; exact Tryz.groupX _ w HCUT.out (Tx.digs_cut HDG.out kk ee)
     clear hg
     go_wp2_with (first
      |(go_at_call 96; (with_reducible refine (HGR.out _).mono ?_); rintro e w3 ⟨rfl,rfl⟩)
      |(go_at_call 95; refine (Tryz.pushed _ L _ w1.heap.size _ HW.out hsz HD.out g0 g1 (by omega)).mono ?_; rintro e w4 ⟨⟨v',L',rfl,ho',hd',hl',hv'⟩,hb'⟩; have HW':Hid (w4.ownsRow w1.heap.size 73 1 v' L'.length (L'.map (Value.int .u64))):=ho'; have HA':Hid (GetAt s n L' (ee + 19) ee m):=HA.out.step HN.out hd' hl' (by rw [hv',HG.out]); have HB':Hid (Below w1.heap.size w1 w4):=HB2.out.trans hb'; clear ho' hd' hl' hv' hb'))
     exact ⟨⟨L',ee + 19,ee,m,by simp,rfl,HW'.out,HA'.out,HB'.out⟩,by simp [intOf]; omega⟩
 ·have h0':Tx.plainB s = false:=by simpa using h0
  have H0:Hid (Tx.plainB s = false):=h0'
  have HPL:Hid (∀ w,Calls Tryz.prog 94 #[.string s] w fun e w'=>e = .returned (.bool false) ∧ w' = w):=fun w=>by
   rw [← h0']; exact Tryz.plainX s w hmax
  clear h0 h0'
  go_enter Tryz.func45,Tryz.ntmps45
  go_wp2_with (go_at_call 94; (with_reducible refine (HPL.out _).mono ?_); rintro e w1 ⟨rfl,rfl⟩)
  go_ret2
  exact ⟨GetIs.no _ H0.out,Below.refl _ _⟩
end Go.Proofs.Wd
