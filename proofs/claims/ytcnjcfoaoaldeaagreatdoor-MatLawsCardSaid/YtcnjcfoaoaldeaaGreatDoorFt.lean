/- What strings.CutPrefix and Cut return at one byte; what lowest, Get and Text of the package frac return. -/
import Derived.Test.YtcnjcfoaoaldeaaGreatDoorFw
import Derived.Test.YtcnjcfoaoaldeaaGreatDoorFz
import Derived.Test.YtcnjcfoaoaldeaaGreatDoorTw
import Derived.Test.YtcnjcfoaoaldeaaGreatDoorWe
set_option linter.unusedVariables false
set_option maxHeartbeats 4000000
set_option maxRecDepth 100000
namespace Go.Proofs.Fr
open Go.RowKit Go.Proofs.Wd
theorem index_idx (l:List UInt8) (c:UInt8):Lib.indexByte l c = if l.idxOf c < l.length then (l.idxOf c:Int) else -1:=by
 induction l with
 | nil=>simp [Lib.indexByte]
 | cons b l ih =>
   unfold Lib.indexByte
   by_cases h:b = c
   ·subst h; simp
   ·have hb:(b == c) = false:=by simpa using h
    rw [List.idxOf_cons,hb,ih]
    by_cases g:l.idxOf c < l.length
    ·rw [if_pos g]
     have:¬((l.idxOf c:Int) == -1) = true:=by simp
     simp [this,g]
    ·rw [if_neg g]; simp [g]
theorem prefix_one (l:List UInt8) (c:UInt8):Lib.hasPrefix l [c] = decide (l.head? = some c):=by
 cases l with
 | nil=>simp [Lib.hasPrefix]
 | cons a l =>
   rw [Bool.eq_iff_iff]
   simp only [Lib.hasPrefix,List.isPrefixOf,List.head?_cons,Option.some.injEq,decide_eq_true_eq,Bool.and_true,beq_iff_eq]
   exact ⟨fun h=>h.symm,fun h=>h.symm⟩
theorem trim_size (s:ByteArray):(⟨(Lib.trimPrefix s.data.toList [45]).toArray⟩:ByteArray) = size s:=by
 unfold Lib.trimPrefix size
 rw [prefix_one]
 by_cases h:s.data.toList.head? = some 45
 ·rw [if_pos (by simpa using h),if_pos h]
  apply ByteArray.ext
  apply Array.ext'
  rw [Tx.extract_list,List.take_of_length_le (by rw [Tx.length_list]; omega)]
  rfl
 ·rw [if_neg (by simpa using h),if_neg h]
/-- What Cut tells at a stroke. -/
def CutIs (t:ByteArray) (e:Ending):Prop:=
 (stroke t < t.size ∧ e = .returned (.tuple #[.string (t.extract 0 (stroke t)),.string (t.extract (stroke t + 1) t.size),.bool true])) ∨
 (¬stroke t < t.size ∧ e = .returned (.tuple #[.string t,.string ⟨#[]⟩,.bool false]))
theorem Tryz.cutLite (t:ByteArray) (w:World) (hs:t.size ≤ 4294967280) :
 Calls Tryz.prog 142 #[.string t,.string ⟨#[47]⟩] w fun e w'=>CutIs t e ∧ Below w.heap.size w w':=by
 obtain ⟨k,hk⟩:∃ k,stroke t = k:=⟨_,rfl⟩
 have hkl:=stroke_le t
 have hix:=index_idx t.data.toList 47
 rw [Tx.length_list] at hix
 have hst:t.data.toList.idxOf 47 = k:=hk
 rw [hst] at hix
 by_cases hlt:k < t.size
 ·have HR:Hid (CutIs t (.returned (.tuple #[.string (t.extract 0 k),.string (t.extract (k + 1) t.size),.bool true]))):=.inl ⟨by omega,by rw [hk]⟩
  have HI:Hid (∀ w,Calls Tryz.prog 178 #[.string t,.string ⟨#[47]⟩] w fun e w'=>e = .returned (.int .i64 k) ∧ w' = w):=fun w=>by
   have h:=Tryz.stringslite_Index_one t 47 w
   rw [hix,if_pos hlt] at h
   exact h
  have c1:(0:Int) ≤ k:=by omega
  have c2:(k:Int) ≤ t.size:=by omega
  have c3:(k:Int) + 1 ≤ t.size:=by omega
  clear hix hst hk hkl
  go_enter Tryz.func142,Tryz.ntmps142
  go_wp2_with fail
  with_reducible refine (HI.out _).mono ?_
  rintro e w1 ⟨rfl,rfl⟩
  clear HI
  go_wp2
  go_quiet (fail)
  go_wp2
  go_ret3
  exact ⟨HR.out,belowN (Below.refl _ _) nq⟩
 ·have HR:Hid (CutIs t (.returned (.tuple #[.string t,.string ⟨#[]⟩,.bool false]))):=.inr ⟨by omega,rfl⟩
  have HI:Hid (∀ w,Calls Tryz.prog 178 #[.string t,.string ⟨#[47]⟩] w fun e w'=>e = .returned (.int .i64 (-1)) ∧ w' = w):=fun w=>by
   have h:=Tryz.stringslite_Index_one t 47 w
   rw [hix,if_neg hlt] at h
   exact h
  clear hix hst hk hkl hlt
  go_enter Tryz.func142,Tryz.ntmps142
  go_wp2_with fail
  with_reducible refine (HI.out _).mono ?_
  rintro e w1 ⟨rfl,rfl⟩
  clear HI
  go_wp2
  go_ret3
  exact ⟨HR.out,Below.refl _ _⟩
theorem Tryz.cut (t:ByteArray) (w:World) (hs:t.size ≤ 4294967280) :
 Calls Tryz.prog 99 #[.string t,.string ⟨#[47]⟩] w fun e w'=>CutIs t e ∧ Below w.heap.size w w':=by
 go_enter Tryz.func99,Tryz.ntmps99
 go_wp2_with fail
 with_reducible refine (Tryz.cutLite t _ hs).mono ?_
 rintro e w1 ⟨he,hb1⟩
 have HB:Hid (Below w.heap.size w w1):=hb1
 have HC:Hid (CutIs t e):=he
 clear hb1
 rcases he with ⟨h,rfl⟩ | ⟨h,rfl⟩
 all_goals
  clear h
  go_wp2
  go_ret3
  exact ⟨HC.out,HB.out⟩
theorem Tryz.cutSign (s:ByteArray) (w:World) :
 Calls Tryz.prog 98 #[.string s,.string ⟨#[45]⟩] w fun e w'=>e = .returned (.tuple #[.string (size s),.bool (decide (s.data.toList.head? = some 45))]) ∧ w' = w:=by
 have h:=Tryz.strings_CutPrefix s ⟨#[45]⟩ w
 rw [trim_size,prefix_one] at h
 exact h
theorem num_lt {w:World} {v:Value} {z:Int} {n:Nat} (h:Num w v z n):z < 18446744073709551616 ^ n:=by
 obtain ⟨xs,h1,h2,h3,rfl,h5⟩:=h
 have h6:=val_lt h2
 have h7:(18446744073709551616:Int) ^ xs.length ≤ 18446744073709551616 ^ n:=pow_mono' h5
 omega
theorem FracIs.lt {w:World} {v:Value} {q:Rat} {k:Nat} (h:FracIs w v q k) (hk:1 ≤ k):(q.num.natAbs:Int) < 18446744073709551616 ^ k ∧ (q.den:Int) < 18446744073709551616 ^ k:=by
 have h1:(18446744073709551616:Int) ^ 1 ≤ 18446744073709551616 ^ k:=pow_mono' hk
 rw [Int.pow_succ,Int.pow_zero,Int.one_mul] at h1
 rcases h with ⟨rfl,rfl⟩ | ⟨a,rfl,ha,h0,⟨hs,-⟩ | ⟨hs,-,-,b,p,r,-,-,-,-,hp,hr⟩⟩
 ·simp; omega
 ·obtain ⟨g1,g2⟩:=hs; omega
 ·exact ⟨num_lt hp,num_lt hr⟩
end Go.Proofs.Fr
