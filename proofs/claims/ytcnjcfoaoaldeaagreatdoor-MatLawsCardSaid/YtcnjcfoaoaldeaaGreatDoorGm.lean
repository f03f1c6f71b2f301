/- What GetN of the reference returns: the digits of a text that is a number, or nothing. -/
import Derived.Test.YtcnjcfoaoaldeaaGreatDoorRm
import Derived.Test.YtcnjcfoaoaldeaaGreatDoorTx
set_option linter.unusedVariables false
set_option maxHeartbeats 4000000
set_option maxRecDepth 100000
namespace Go.Proofs
open Go.RowKit
/-- The number and true of a text that is one, nil and false of another. -/
def GnSaid (s:ByteArray) (e:Ending) (w:World):Prop:=(Tx.plainB s = true ∧ ∃ v,e = .returned (.tuple #[v,.bool true]) ∧ NumIs w v (Tx.num s:Int) s.size) ∨ (Tx.plainB s = false ∧ e = .returned (.tuple #[.slice none 0 0,.bool false]))
theorem GnSaid.no {s:ByteArray} (w:World) (h:Tx.plainB s = false):GnSaid s (.returned (.tuple #[.slice none 0 0,.bool false])) w:=.inr ⟨h,rfl⟩
theorem nonempty_list {s:ByteArray} (h0:¬s.size = 0):s.toList.isEmpty = false:=by
 cases h:s.toList with
 | nil =>
   rw [ByteArray.toList_eq] at h
   have h2:s.size = s.data.toList.length:=Go.Lib.size_eq s
   rw [h] at h2
   exact absurd h2 h0
 | cons=>rfl
theorem empty_text {s:ByteArray} (h:s.size = 0):s = ⟨#[]⟩:=by
 obtain ⟨⟨l⟩⟩:=s
 cases l with
 | nil=>rfl
 | cons a l=>simp [ByteArray.size] at h
theorem oneCell (w:World) (u:Value) (e:TypeId) (j:Nat) (y:Value) (hj:[u][j]? = some y):(w.alloc (.cells #[u] e)).cell? ((⟨w.heap.size,0,none⟩:Addr).add j) = some y:=by
 match j,hj with
 | 0,hj=>simp at hj; subst hj; simp [Addr.add]
/-- What holds at the head of GetN's loop: the places from k on are read, weight a, so much b left over. -/
structure GnAt (s:ByteArray) (k:Nat) (L:List Int) (a b:Int):Prop where
 kn:k ≤ s.size
 dig:Dig L
 digs:∀ j (h:j < s.size),k ≤ j → 48 ≤ (s[j].toNat:Int) ∧ (s[j].toNat:Int) ≤ 57
 b0:0 ≤ b
 ba:b + 1 ≤ a
 ha:a = 1 ∨ a = 10 ∨ a = 100 ∨ a = 1000
 sum:val L + 10000 ^ L.length * b = (Tx.dv (s.data.toList.drop k):Int)
 wt:0 < k → 10000 ^ L.length * a = (10:Int) ^ (s.size - k)
 one:k = 0 → b = 0
 len:L.length + k ≤ s.size
theorem GnAt.start (s:ByteArray):GnAt s s.size [] 1 0:=
 ⟨Nat.le_refl _,Dig.nil,fun j h h2=>by omega,by omega,by omega,.inl rfl,by rw [List.drop_eq_nil_of_le (by rw [Tx.length_list]; omega)]; rfl,fun _=>by simp,fun _=>rfl,by simp⟩
theorem GnAt.left {s:ByteArray} {k:Nat} {L:List Int} {a b:Int} (h:GnAt s (k + 1) L a b) (hk:k < s.size) (c0:48 ≤ (s[k].toNat:Int)) (c1:(s[k].toNat:Int) ≤ 57) :
 val L + 10000 ^ L.length * (b + ((s[k].toNat:Int) - 48) * a) = (Tx.dv (s.data.toList.drop k):Int) ∧ (∀ j (h:j < s.size),k ≤ j → 48 ≤ (s[j].toNat:Int) ∧ (s[j].toNat:Int) ≤ 57) ∧ 0 ≤ b + ((s[k].toNat:Int) - 48) * a ∧ b + ((s[k].toNat:Int) - 48) * a + 1 ≤ a * 10:=by
 have hw:=h.wt (by omega)
 refine ⟨?_,fun j hj hkj=>?_,?_,?_⟩
 ·rw [Int.mul_add,← Int.add_assoc,h.sum,Tx.dv_left s k hk,Int.mul_comm ((s[k].toNat:Int) - 48) a,← Int.mul_assoc,hw,Int.mul_comm]
  push_cast
  rw [show ((s[k].toNat - 48:Nat):Int) = (s[k].toNat:Int) - 48 by omega]
  omega
 ·by_cases e:j = k
  ·subst e; exact ⟨c0,c1⟩
  ·exact h.digs j hj (by omega)
 ·have:=h.b0
  rcases h.ha with rfl | rfl | rfl | rfl <;> omega
 ·have:=h.ba
  rcases h.ha with rfl | rfl | rfl | rfl <;> omega
theorem GnAt.step {s:ByteArray} {k:Nat} {L:List Int} {a b:Int} (h:GnAt s (k + 1) L a b) (hk:k < s.size) (c0:48 ≤ (s[k].toNat:Int)) (c1:(s[k].toNat:Int) ≤ 57) (ha:a ≠ 1000) (hz:((k:Int) == 0) = false) {a' b':Int} (ea:a' = a * 10) (eb:b' = b + ((s[k].toNat:Int) - 48) * a):GnAt s k L a' b':=by
 subst ea; subst eb
 have h0:0 < k:=by
  have:¬ (k:Int) = 0:=by simpa using hz
  omega
 obtain ⟨h1,h2,h3,h4⟩:=h.left hk c0 c1
 refine ⟨by omega,h.dig,h2,h3,h4,?_,h1,fun _=>?_,fun e=>by omega,by have:=h.len; omega⟩
 ·rcases h.ha with rfl | rfl | rfl | rfl <;> omega
 ·rw [← Int.mul_assoc,h.wt (by omega),show s.size - k = s.size - (k + 1) + 1 by omega,Int.pow_succ]
theorem GnAt.push {s:ByteArray} {k:Nat} {L:List Int} {a b:Int} (h:GnAt s (k + 1) L a b) (hk:k < s.size) (c0:48 ≤ (s[k].toNat:Int)) (c1:(s[k].toNat:Int) ≤ 57) (ha:a = 1000 ∨ ((k:Int) == 0) = true) {b':Int} (eb:b' = b + ((s[k].toNat:Int) - 48) * a):GnAt s k (L ++ [b']) 1 0:=by
 subst eb
 obtain ⟨h1,h2,h3,h4⟩:=h.left hk c0 c1
 refine ⟨by omega,h.dig.append (fun d hd=>?_),h2,by omega,by omega,.inl rfl,?_,fun hk0=>?_,fun _=>rfl,?_⟩
 ·rw [List.mem_singleton.1 hd]
  refine ⟨h3,?_⟩
  rcases h.ha with rfl | rfl | rfl | rfl <;> omega
 ·rw [val_snoc,h1]; simp
 ·have hz:¬ (k:Int) = 0:=by omega
  have ha:a = 1000:=ha.resolve_right (by simpa using hz)
  have hw:=h.wt (by omega)
  rw [ha] at hw
  rw [List.length_append,List.length_singleton,Int.pow_succ,show s.size - k = s.size - (k + 1) + 1 by omega,Int.pow_succ,← hw]
  omega
 ·have:=h.len; rw [List.length_append,List.length_singleton]; omega
theorem GnAt.last {s:ByteArray} {L:List Int} {a b:Int} (h:GnAt s 0 L a b):val L = (Tx.num s:Int):=by
 have h1:=h.sum
 rw [h.one rfl] at h1
 simpa [Tx.num] using h1
theorem GnAt.plain {s:ByteArray} {L:List Int} {a b:Int} (h:GnAt s 0 L a b) (h0:0 < s.size) (h1:s.size ≤ 2000) (h2:s.size = 1 ∨ (s[0].toNat:Int) ≠ 48):Tx.plainB s = true:=
 Tx.plainB_true.2 ⟨Tx.numeral_of h0 h2 (fun j hj=>h.digs j hj (Nat.zero_le _)),h1⟩
theorem Tryz.getNX (s:ByteArray) (w:World) (hmax:s.size ≤ 9223372036854775807) :
 Calls Tryz.prog 59 #[.string s] w fun e w'=>GnSaid s e w' ∧ Below w.heap.size w w':=by
 obtain ⟨i0,hi,hz0,hz1,hz2⟩:=info_parts Tryz.info3
 by_cases h0:s.size = 0
 ·have HF:Hid (Tx.plainB s = false):=Tx.not_numeral_size (.inl h0)
  obtain rfl:=empty_text h0
  clear h0
  go_enter Tryz.func59,Tryz.ntmps59
  go_wp2
  go_ret2
  exact ⟨GnSaid.no _ HF.out,Below.refl _ _⟩
 ·have hE:=nonempty_list h0
  have hP:0 < s.size:=by omega
  by_cases h1:2000 < s.size
  ·have HF:Hid (Tx.plainB s = false):=Tx.not_numeral_size (.inr h1)
   go_enter Tryz.func59,Tryz.ntmps59
   go_wp2
   go_ret2
   exact ⟨GnSaid.no _ HF.out,Below.refl _ _⟩
  ·obtain ⟨n,hn⟩:∃ n,s.size = n:=⟨_,rfl⟩
   have HN:Hid (s.size = n):=hn
   have H1000:Hid (s.size ≤ 2000):=by unfold Hid; omega
   have HNO:Hid (1 < s.size → (s[0].toNat:Int) = 48 → Tx.plainB s = false):=fun h g=>Tx.not_numeral_nought h g
   have HNB:Hid (∀ k,∀ h:k < s.size,(s[k].toNat:Int) < 48 ∨ 57 < (s[k].toNat:Int) → Tx.plainB s = false):=fun k h g=>Tx.not_numeral_bad h g
   go_enter Tryz.func59,Tryz.ntmps59
   go_wp2
   ·go_ret2
    exact ⟨GnSaid.no _ (HNO.out (by omega) (by omega)),Below.refl _ _⟩
   all_goals
    have HFIRST:Hid (s.size = 1 ∨ (s[0].toNat:Int) ≠ 48):=by unfold Hid; omega
    go_loopw [4,5,6,7] (fun x wt d i wr=>∃ (L:List Int) (k:Nat) (a b:Int),wt = .int .i64 a ∧ d = .int .i64 b ∧ i = .int .i64 ((k:Int) - 1) ∧ GnAt s k L a b ∧ wr.ownsRow w.heap.size 3 1 x L.length (L.map (Value.int .i64)) ∧ Below w.heap.size w wr) (fun _ _ _ i _=>(intOf i + 1).toNat)
    case atStart=>exact ⟨[],n,1,0,rfl,rfl,rfl,by rw [← HN.out]; exact GnAt.start s,World.ownsRow_nil _ _ _ _,Below.refl _ _⟩
    case round=>
     obtain ⟨L,k,a,b,rfl,rfl,rfl,hat,hown,hb⟩:=hrel
     have HA:Hid (GnAt s k L a b):=hat
     have HW:Hid (wr.ownsRow w.heap.size 3 1 _ L.length (L.map (Value.int .i64))):=hown
     have HB:Hid (Below w.heap.size w wr):=hb
     have hsz:=hb.size
     have hk:=hat.kn
     have hlk:=hat.len
     have b0:=hat.b0
     have b1:=hat.ba
     have ha:=hat.ha
     clear hb hat
     cases k with
     | zero =>
       clear hown
       go_wp2_with (go_at_call 119; refine (Tryz.rTrim _ L _ (Digs.of_own HW.out)).mono ?_; rintro e w3 ⟨⟨v3,rfl,hv3⟩,rfl⟩; have HV3:Hid (TrimOf w3 v3 L):=hv3; clear hv3)
       go_ret2
       refine ⟨.inl ⟨HA.out.plain hP H1000.out HFIRST.out,v3,rfl,?_⟩,HB.out⟩
       obtain ⟨j,j1,j2,j3,j4⟩:=HV3.out
       exact ⟨L.take j,j2,HA.out.dig.take j,j3,by rw [j4,HA.out.last],by rw [List.length_take]; omega⟩
     | succ k =>
       rw [show ((k + 1:Nat):Int) - 1 = k by omega]
       clear hown
       have hks:k < s.size:=by omega
       have HBAD:Hid ((s[k].toNat:Int) < 48 ∨ 57 < (s[k].toNat:Int) → Tx.plainB s = false):=HNB.out k hks
       rcases ha with rfl | rfl | rfl | rfl
       ·go_wp2_with (first
         |(at_builtin; refine wpList_append_own _ rfl _ _ 33 rfl w.heap.size 3 i0 (.int .i64 0) 1 8 Tryz.underlying33 hi hz0 hz1 hz2 rfl (by decide) _ _ _ rfl (HW.out.alloc _) ⟨wr.heap.size,0,none⟩ 1 1 [.int .i64 (b + (((s[k]'hks).toNat:Int) - 48))] rfl rfl (fun j y hj=>oneCell _ _ _ j y hj) (fun u hu=>by rw [List.mem_singleton.1 hu]; rfl) (by unfold maxLen; omega) (by omega) (by simp; omega) ?_))
        all_goals first
         |(go_ret2; exact ⟨GnSaid.no _ (HBAD.out (by omega)),HB.out⟩)
         |(exact ⟨⟨L,k,_,_,rfl,rfl,rfl,HA.out.step hks (by omega) (by omega) (by omega) (by assumption) (by omega) (by omega),HW.out,HB.out⟩,by simp [intOf] <;> omega⟩)
         |(intro v' w1 hown' hgrow _
           have HB1:Hid (Below w.heap.size w w1):=(HB.out.alloc hsz _).grown hgrow (by simp; omega) (fun k hk=>(World.ownsRow.lt HW.out k hk).1)
           have HW1:Hid (w1.ownsRow w.heap.size 3 1 v' (L ++ [b + (((s[k]'hks).toNat:Int) - 48)]).length ((L ++ [b + (((s[k]'hks).toNat:Int) - 48)]).map (Value.int .i64))):=by simpa [Hid] using hown'
           have HA1:Hid (GnAt s k (L ++ [b + (((s[k]'hks).toNat:Int) - 48)]) 1 0):=HA.out.push hks (by omega) (by omega) (by first | exact .inl rfl | exact .inr (by assumption)) (by omega)
           clear hown' hgrow
           go_wp2
           exact ⟨⟨L ++ [b + (((s[k]'hks).toNat:Int) - 48)],k,1,0,rfl,rfl,rfl,HA1.out,HW1.out,HB1.out⟩,by simp [intOf] <;> omega⟩)
       ·go_wp2_with (first
         |(at_builtin; refine wpList_append_own _ rfl _ _ 33 rfl w.heap.size 3 i0 (.int .i64 0) 1 8 Tryz.underlying33 hi hz0 hz1 hz2 rfl (by decide) _ _ _ rfl (HW.out.alloc _) ⟨wr.heap.size,0,none⟩ 1 1 [.int .i64 (b + (((s[k]'hks).toNat:Int) - 48) * 10)] rfl rfl (fun j y hj=>oneCell _ _ _ j y hj) (fun u hu=>by rw [List.mem_singleton.1 hu]; rfl) (by unfold maxLen; omega) (by omega) (by simp; omega) ?_))
        all_goals first
         |(go_ret2; exact ⟨GnSaid.no _ (HBAD.out (by omega)),HB.out⟩)
         |(exact ⟨⟨L,k,_,_,rfl,rfl,rfl,HA.out.step hks (by omega) (by omega) (by omega) (by assumption) (by omega) (by omega),HW.out,HB.out⟩,by simp [intOf] <;> omega⟩)
         |(intro v' w1 hown' hgrow _
           have HB1:Hid (Below w.heap.size w w1):=(HB.out.alloc hsz _).grown hgrow (by simp; omega) (fun k hk=>(World.ownsRow.lt HW.out k hk).1)
           have HW1:Hid (w1.ownsRow w.heap.size 3 1 v' (L ++ [b + (((s[k]'hks).toNat:Int) - 48) * 10]).length ((L ++ [b + (((s[k]'hks).toNat:Int) - 48) * 10]).map (Value.int .i64))):=by simpa [Hid] using hown'
           have HA1:Hid (GnAt s k (L ++ [b + (((s[k]'hks).toNat:Int) - 48) * 10]) 1 0):=HA.out.push hks (by omega) (by omega) (by first | exact .inl rfl | exact .inr (by assumption)) (by omega)
           clear hown' hgrow
           go_wp2
           exact ⟨⟨L ++ [b + (((s[k]'hks).toNat:Int) - 48) * 10],k,1,0,rfl,rfl,rfl,HA1.out,HW1.out,HB1.out⟩,by simp [intOf] <;> omega⟩)
       ·go_wp2_with (first
         |(at_builtin; refine wpList_append_own _ rfl _ _ 33 rfl w.heap.size 3 i0 (.int .i64 0) 1 8 Tryz.underlying33 hi hz0 hz1 hz2 rfl (by decide) _ _ _ rfl (HW.out.alloc _) ⟨wr.heap.size,0,none⟩ 1 1 [.int .i64 (b + (((s[k]'hks).toNat:Int) - 48) * 100)] rfl rfl (fun j y hj=>oneCell _ _ _ j y hj) (fun u hu=>by rw [List.mem_singleton.1 hu]; rfl) (by unfold maxLen; omega) (by omega) (by simp; omega) ?_))
        all_goals first
         |(go_ret2; exact ⟨GnSaid.no _ (HBAD.out (by omega)),HB.out⟩)
         |(exact ⟨⟨L,k,_,_,rfl,rfl,rfl,HA.out.step hks (by omega) (by omega) (by omega) (by assumption) (by omega) (by omega),HW.out,HB.out⟩,by simp [intOf] <;> omega⟩)
         |(intro v' w1 hown' hgrow _
           have HB1:Hid (Below w.heap.size w w1):=(HB.out.alloc hsz _).grown hgrow (by simp; omega) (fun k hk=>(World.ownsRow.lt HW.out k hk).1)
           have HW1:Hid (w1.ownsRow w.heap.size 3 1 v' (L ++ [b + (((s[k]'hks).toNat:Int) - 48) * 100]).length ((L ++ [b + (((s[k]'hks).toNat:Int) - 48) * 100]).map (Value.int .i64))):=by simpa [Hid] using hown'
           have HA1:Hid (GnAt s k (L ++ [b + (((s[k]'hks).toNat:Int) - 48) * 100]) 1 0):=HA.out.push hks (by omega) (by omega) (by first | exact .inl rfl | exact .inr (by assumption)) (by omega)
           clear hown' hgrow
           go_wp2
           exact ⟨⟨L ++ [b + (((s[k]'hks).toNat:Int) - 48) * 100],k,1,0,rfl,rfl,rfl,HA1.out,HW1.out,HB1.out⟩,by simp [intOf] <;> omega⟩)
       ·go_wp2_with (first
         |(at_builtin; refine wpList_append_own _ rfl _ _ 33 rfl w.heap.size 3 i0 (.int .i64 0) 1 8 Tryz.underlying33 hi hz0 hz1 hz2 rfl (by decide) _ _ _ rfl (HW.out.alloc _) ⟨wr.heap.size,0,none⟩ 1 1 [.int .i64 (b + (((s[k]'hks).toNat:Int) - 48) * 1000)] rfl rfl (fun j y hj=>oneCell _ _ _ j y hj) (fun u hu=>by rw [List.mem_singleton.1 hu]; rfl) (by unfold maxLen; omega) (by omega) (by simp; omega) ?_))
        all_goals first
         |(go_ret2; exact ⟨GnSaid.no _ (HBAD.out (by omega)),HB.out⟩)
         |(exact ⟨⟨L,k,_,_,rfl,rfl,rfl,HA.out.step hks (by omega) (by omega) (by omega) (by assumption) (by omega) (by omega),HW.out,HB.out⟩,by simp [intOf] <;> omega⟩)
         |(intro v' w1 hown' hgrow _
           have HB1:Hid (Below w.heap.size w w1):=(HB.out.alloc hsz _).grown hgrow (by simp; omega) (fun k hk=>(World.ownsRow.lt HW.out k hk).1)
           have HW1:Hid (w1.ownsRow w.heap.size 3 1 v' (L ++ [b + (((s[k]'hks).toNat:Int) - 48) * 1000]).length ((L ++ [b + (((s[k]'hks).toNat:Int) - 48) * 1000]).map (Value.int .i64))):=by simpa [Hid] using hown'
           have HA1:Hid (GnAt s k (L ++ [b + (((s[k]'hks).toNat:Int) - 48) * 1000]) 1 0):=HA.out.push hks (by omega) (by omega) (by first | exact .inl rfl | exact .inr (by assumption)) (by omega)
           clear hown' hgrow
           go_wp2
           exact ⟨⟨L ++ [b + (((s[k]'hks).toNat:Int) - 48) * 1000],k,1,0,rfl,rfl,rfl,HA1.out,HW1.out,HB1.out⟩,by simp [intOf] <;> omega⟩)
end Go.Proofs
