/- What Len, Zeros, digit, Div and Sub of the package bits return. -/
import Derived.Test.YtcnjcfoaoaldeaaGreatDoorWd
set_option linter.unusedVariables false
set_option maxHeartbeats 4000000
namespace Go.Proofs
open Go.RowKit
/-- What Len returns, told by its place among the powers of two. -/
structure IsLen (x L:Int):Prop where
 lo:0 ≤ L
 hi:L ≤ 64
 lt:x < 2 ^ L.toNat
 ge:x = 0 ∧ L = 0 ∨ 1 ≤ L ∧ 2 ^ (L - 1).toNat ≤ x
/-- What holds at the head of Len's loop: what is left of the word, the bits that have been counted, the step. -/
structure LenAt (x a b c:Int):Prop where
 at0:0 ≤ b
 div:a = x / 2 ^ b.toNat
 pos:b = 0 ∨ 1 ≤ a
 step:c = 32 ∧ a ≤ 18446744073709551615 ∨ c = 16 ∧ a ≤ 4294967295 ∨ c = 8 ∧ a ≤ 65535 ∨ c = 4 ∧ a ≤ 255 ∨ c = 2 ∧ a ≤ 15 ∨ c = 1 ∧ a ≤ 3 ∨ c = 0 ∧ a ≤ 1
 room:b + 2 * c ≤ 64
 top:b ≤ 63
theorem divMore (x b:Int) (k:Nat) (p:Int) (hp:p = 2 ^ k) (hb:0 ≤ b):x / 2 ^ b.toNat / p = x / 2 ^ (b + k).toNat:=by
 have h2:(0:Int) < 2 ^ b.toNat:=Int.pow_pos (by omega)
 subst hp
 rw [Int.ediv_ediv,if_neg (fun h=>by omega),Int.sub_zero,← Int.pow_add,show b.toNat + k = (b + k).toNat by omega]
theorem LenAt.up {x a b c:Int} (k:Nat) {p d:Int} (h:LenAt x a b c) (hp:p = 2 ^ k) (h1:1 ≤ a / p) (h2:d = 16 ∧ a / p ≤ 4294967295 ∨ d = 8 ∧ a / p ≤ 65535 ∨ d = 4 ∧ a / p ≤ 255 ∨ d = 2 ∧ a / p ≤ 15 ∨ d = 1 ∧ a / p ≤ 3 ∨ d = 0 ∧ a / p ≤ 1) (h3:(k:Int) + 2 * d ≤ 2 * c) (h4:(k:Int) + 1 ≤ 2 * c):LenAt x (a / p) (b + k) d:=by
 have g1:=h.at0
 have g5:=h.room
 refine ⟨by omega,?_,by omega,by omega,by omega,by omega⟩
 have:=divMore x b k p hp g1
 rw [← h.div] at this
 exact this
theorem LenAt.stay {x a b c d:Int} (h:LenAt x a b c) (h2:d = 16 ∧ a ≤ 4294967295 ∨ d = 8 ∧ a ≤ 65535 ∨ d = 4 ∧ a ≤ 255 ∨ d = 2 ∧ a ≤ 15 ∨ d = 1 ∧ a ≤ 3 ∨ d = 0 ∧ a ≤ 1) (h3:d ≤ c):LenAt x a b d:=
 ⟨h.at0,h.div,h.pos,by omega,by have:=h.room; omega,h.top⟩
theorem LenAt.done {x a b:Int} (h0:0 ≤ x) (h:LenAt x a b 0) (ha:0 ≤ a):IsLen x (b + a):=by
 obtain ⟨h1,h2,h3,h4,h5,h6⟩:=h
 have hp:(0:Int) < 2 ^ b.toNat:=Int.pow_pos (by omega)
 have e1:(2:Int) ^ (b + 1).toNat = 2 ^ b.toNat * 2:=by rw [show (b + 1).toNat = b.toNat + 1 by omega,Int.pow_succ]
 have e0:=Int.mul_ediv_add_emod x (2 ^ b.toNat)
 have m0:=Int.emod_nonneg x (show (2:Int) ^ b.toNat ≠ 0 by omega)
 have m1:=Int.emod_lt_of_pos x hp
 rw [← h2] at e0
 have:a = 0 ∨ a = 1:=by omega
 rcases this with rfl | rfl
 ·have hb:b = 0:=by omega
  subst hb
  have e:x = 0:=by simp at h2; omega
  exact ⟨by omega,by omega,by simp [e],.inl ⟨e,rfl⟩⟩
 ·rw [Int.mul_one] at e0
  refine ⟨by omega,by omega,by rw [e1]; omega,.inr ⟨by omega,?_⟩⟩
  rw [show (b + 1 - 1).toNat = b.toNat by omega]
  omega
theorem Tryz.Len (x:Int) (w:World) (h0:0 ≤ x) (h1:x ≤ 18446744073709551615) :
 Calls Tryz.prog 52 #[.int .u64 x] w fun e w'=>(∃ L,IsLen x L ∧ e = .returned (.int .i64 L)) ∧ w' = w:=by
 go_enter Tryz.func52,Tryz.ntmps52
 go_wp2
 go_loop [0,3,4] (fun y n s=>∃ a b c:Int,y = .int .u64 a ∧ n = .int .i64 b ∧ s = .int .i64 c ∧ 0 ≤ a ∧ LenAt x a b c) (fun y n s=>(intOf s).toNat)
 case atStart=>exact ⟨x,0,32,rfl,rfl,rfl,h0,by omega,by simp,.inl rfl,by omega,by omega,by omega⟩
 case round=>
  obtain ⟨a,b,c,rfl,rfl,rfl,ha,hat⟩:=hrel
  have HA:Hid (LenAt x a b c):=hat
  obtain ⟨g1,g2,g3,g4,g5,g6⟩:=hat
  clear g2 g3
  rcases g4 with ⟨rfl,g4⟩ | ⟨rfl,g4⟩ | ⟨rfl,g4⟩ | ⟨rfl,g4⟩ | ⟨rfl,g4⟩ | ⟨rfl,g4⟩ | ⟨rfl,g4⟩
  ·go_wp2
   ·rename_i hne
    have hne:a / 4294967296 ≠ 0:=by simpa using hne
    exact ⟨⟨_,_,_,rfl,rfl,rfl,by omega,LenAt.up 32 HA.out (by rfl) (by omega) (by omega) (by omega) (by omega)⟩,by simp [intOf]⟩
   ·rename_i hz
    have hz:a / 4294967296 = 0:=by simpa using hz
    exact ⟨⟨_,_,_,rfl,rfl,rfl,by omega,LenAt.stay HA.out (by omega) (by omega)⟩,by simp [intOf]⟩
  ·go_wp2
   ·rename_i hne
    have hne:a / 65536 ≠ 0:=by simpa using hne
    exact ⟨⟨_,_,_,rfl,rfl,rfl,by omega,LenAt.up 16 HA.out (by rfl) (by omega) (by omega) (by omega) (by omega)⟩,by simp [intOf]⟩
   ·rename_i hz
    have hz:a / 65536 = 0:=by simpa using hz
    exact ⟨⟨_,_,_,rfl,rfl,rfl,by omega,LenAt.stay HA.out (by omega) (by omega)⟩,by simp [intOf]⟩
  ·go_wp2
   ·rename_i hne
    have hne:a / 256 ≠ 0:=by simpa using hne
    exact ⟨⟨_,_,_,rfl,rfl,rfl,by omega,LenAt.up 8 HA.out (by rfl) (by omega) (by omega) (by omega) (by omega)⟩,by simp [intOf]⟩
   ·rename_i hz
    have hz:a / 256 = 0:=by simpa using hz
    exact ⟨⟨_,_,_,rfl,rfl,rfl,by omega,LenAt.stay HA.out (by omega) (by omega)⟩,by simp [intOf]⟩
  ·go_wp2
   ·rename_i hne
    have hne:a / 16 ≠ 0:=by simpa using hne
    exact ⟨⟨_,_,_,rfl,rfl,rfl,by omega,LenAt.up 4 HA.out (by rfl) (by omega) (by omega) (by omega) (by omega)⟩,by simp [intOf]⟩
   ·rename_i hz
    have hz:a / 16 = 0:=by simpa using hz
    exact ⟨⟨_,_,_,rfl,rfl,rfl,by omega,LenAt.stay HA.out (by omega) (by omega)⟩,by simp [intOf]⟩
  ·go_wp2
   ·rename_i hne
    have hne:a / 4 ≠ 0:=by simpa using hne
    exact ⟨⟨_,_,_,rfl,rfl,rfl,by omega,LenAt.up 2 HA.out (by rfl) (by omega) (by omega) (by omega) (by omega)⟩,by simp [intOf]⟩
   ·rename_i hz
    have hz:a / 4 = 0:=by simpa using hz
    exact ⟨⟨_,_,_,rfl,rfl,rfl,by omega,LenAt.stay HA.out (by omega) (by omega)⟩,by simp [intOf]⟩
  ·go_wp2
   ·rename_i hne
    have hne:a / 2 ≠ 0:=by simpa using hne
    exact ⟨⟨_,_,_,rfl,rfl,rfl,by omega,LenAt.up 1 HA.out (by rfl) (by omega) (by omega) (by omega) (by omega)⟩,by simp [intOf]⟩
   ·rename_i hz
    have hz:a / 2 = 0:=by simpa using hz
    exact ⟨⟨_,_,_,rfl,rfl,rfl,by omega,LenAt.stay HA.out (by omega) (by omega)⟩,by simp [intOf]⟩
  ·go_wp2
   go_ret
   exact ⟨⟨_,LenAt.done h0 HA.out ha,rfl⟩,rfl⟩
theorem ones_xor (x:Nat) (h:x < 2 ^ 64):18446744073709551615 ^^^ x = 18446744073709551615 - x:=by
 apply Nat.eq_of_testBit_eq
 intro j
 rw [Nat.testBit_xor,show (18446744073709551615:Nat) = 2 ^ 64 - 1 by rfl,Nat.testBit_two_pow_sub_one,show 2 ^ 64 - 1 - x = 2 ^ 64 - (x + 1) by omega,Nat.testBit_two_pow_sub_succ h]
 by_cases hj:j < 64
 ·simp [hj]
 ·have:x.testBit j = false:=Nat.testBit_lt_two_pow (Nat.lt_of_lt_of_le h (Nat.pow_le_pow_right (by omega) (by omega)))
  simp [hj,this]
/-- What holds at the head of digit's loop: the guess at the quotient is not too small, what is left is what its upper half leaves. -/
structure DigAt (x y u l n q a:Int):Prop where
 q0:0 ≤ q
 q1:q ≤ 4294967297
 a0:0 ≤ a
 left:a = x - q * u
 low:(x * 4294967296 + n) / y ≤ q
theorem digStart {x y n:Int} (hy:9223372036854775808 ≤ y) (hy1:y ≤ 18446744073709551615) (hx0:0 ≤ x) (hx:x < y) (n0:0 ≤ n) (n1:n ≤ 4294967295) :
 DigAt x y (y / 4294967296) (y % 4294967296) n (x / (y / 4294967296)) (x - x / (y / 4294967296) * (y / 4294967296)) ∧ 0 ≤ x / (y / 4294967296) * (y / 4294967296) ∧ x / (y / 4294967296) * (y / 4294967296) ≤ x:=by
 have hu:2147483648 ≤ y / 4294967296:=by omega
 have hyu:y < y / 4294967296 * 4294967296 + 4294967296:=by omega
 have hyl:y / 4294967296 * 4294967296 ≤ y:=by omega
 generalize y / 4294967296 = u at hu hyu hyl ⊢
 have hq0:0 ≤ x / u:=Int.ediv_nonneg hx0 (by omega)
 have e:=Int.ediv_mul_le x (show u ≠ 0 by omega)
 have e0:0 ≤ x / u * u:=Int.mul_nonneg hq0 (by omega)
 refine ⟨⟨hq0,?_,by omega,rfl,?_⟩,e0,e⟩
 ·apply Int.le_of_lt_add_one
  apply Int.ediv_lt_of_lt_mul (by omega)
  omega
 ·rw [Int.le_ediv_iff_mul_le (by omega)]
  apply Int.le_of_lt_add_one
  have hN:(x * 4294967296 + n) / y * y ≤ x * 4294967296 + n:=Int.ediv_mul_le _ (by omega)
  have hQ:0 ≤ (x * 4294967296 + n) / y:=Int.ediv_nonneg (by omega) (by omega)
  generalize (x * 4294967296 + n) / y = Q at hN hQ ⊢
  have h2:Q * (u * 4294967296) ≤ Q * y:=Int.mul_le_mul_of_nonneg_left hyl hQ
  rw [← Int.mul_assoc] at h2
  omega
/-- One round more: the guess was too great. -/
theorem digStep {x y u l n q a:Int} (h:DigAt x y u l n q a) (hyu:y = u * 4294967296 + l) (hu:0 ≤ u) (hy:0 < y) (n0:0 ≤ n) (hgt:a * 4294967296 + n < q * l):DigAt x y u l n (q - 1) (a + u) ∧ 1 ≤ q:=by
 obtain ⟨h1,h2,h3,h4,h5⟩:=h
 have hlt:x * 4294967296 + n < q * y:=by
  rw [hyu,Int.mul_add,← Int.mul_assoc]; omega
 have hQ:(x * 4294967296 + n) / y < q:=Int.ediv_lt_of_lt_mul hy hlt
 have hq:1 ≤ q:=by
  rcases Int.lt_or_le q 1 with g | g
  ·have:q = 0:=by omega
   subst this
   rw [Int.zero_mul] at hlt h4
   omega
  ·exact g
 exact ⟨⟨by omega,by omega,by omega,by rw [Int.sub_mul]; omega,by omega⟩,hq⟩
/-- At the end the guess is the quotient. -/
theorem digEnd {x y u l n q a:Int} (h:DigAt x y u l n q a) (hyu:y = u * 4294967296 + l) (hy:0 < y) (l0:0 ≤ l) (l1:l ≤ 4294967295) (n0:0 ≤ n) (hle:4294967296 ≤ a ∨ q * l ≤ a * 4294967296 + n):q = (x * 4294967296 + n) / y:=by
 obtain ⟨h1,h2,h3,h4,h5⟩:=h
 have hql:q * l ≤ a * 4294967296 + n:=by
  rcases hle with g | g
  ·have:=Int.mul_le_mul h2 l1 l0 (by omega)
   omega
  ·exact g
 have hge:q * y ≤ x * 4294967296 + n:=by
  rw [hyu,Int.mul_add,← Int.mul_assoc]; omega
 have:=(Int.le_ediv_iff_mul_le hy).2 hge
 omega
theorem prodIn {q l:Int} (h1:0 ≤ q) (h2:q ≤ 4294967297) (l0:0 ≤ l) (l1:l ≤ 4294967295):0 ≤ q * l ∧ q * l ≤ 18446744073709551615:=
 ⟨Int.mul_nonneg h1 l0,by have:=Int.mul_le_mul h2 l1 l0 (by omega); omega⟩
theorem digRest {x n y q:Int} (hy:0 < y) (hy1:y ≤ 18446744073709551615) (n0:0 ≤ n) (n1:n ≤ 4294967295) (hq:q = (x * 4294967296 + n) / y) :
 IntKind.u64.wrap (bits .or .u64 (IntKind.u64.wrap (x * 4294967296)) n - IntKind.u64.wrap (q * y)) = (x * 4294967296 + n) % y:=by
 rw [u64w,u64w,u64w,show x * 4294967296 % 18446744073709551616 = (x % 4294967296) * 4294967296 by omega,orLow _ _ (by omega) (by omega) n0 n1]
 have e:=Int.mul_ediv_add_emod (x * 4294967296 + n) y
 have r0:=Int.emod_nonneg (x * 4294967296 + n) (show y ≠ 0 by omega)
 have r1:=Int.emod_lt_of_pos (x * 4294967296 + n) hy
 rw [← hq,Int.mul_comm] at e
 generalize q * y = z at e ⊢
 generalize (x * 4294967296 + n) % y = r at e r0 r1 ⊢
 omega
theorem Tryz.digit (x n y:Int) (w:World) (hy:9223372036854775808 ≤ y) (hy1:y ≤ 18446744073709551615) (hx0:0 ≤ x) (hx:x < y) (n0:0 ≤ n) (n1:n ≤ 4294967295) :
 Calls Tryz.prog 93 #[.int .u64 x,.int .u64 n,.int .u64 y] w fun e w'=>e = .returned (.tuple #[.int .u64 ((x * 4294967296 + n) / y),.int .u64 ((x * 4294967296 + n) % y)]) ∧ w' = w:=by
 obtain ⟨hst,hA0,hA1⟩:=digStart hy hy1 hx0 hx n0 n1
 obtain ⟨u,hu⟩:∃ u,y / 4294967296 = u:=⟨_,rfl⟩
 obtain ⟨l,hl⟩:∃ l,y % 4294967296 = l:=⟨_,rfl⟩
 rw [hu,hl] at hst
 rw [hu] at hA0 hA1
 have HY:Hid (y = u * 4294967296 + l):=by show y = _; omega
 have hub:2147483648 ≤ u ∧ u ≤ 4294967295:=by omega
 have hlb:0 ≤ l ∧ l ≤ 4294967295:=by omega
 have hqi:0 ≤ x / u ∧ x / u ≤ 4294967297:=⟨hst.q0,hst.q1⟩
 obtain ⟨A,hA⟩:∃ A,x / u * u = A:=⟨_,rfl⟩
 have HS:Hid (DigAt x y u l n (x / u) (x - A)):=by rw [← hA]; exact hst
 rw [hA] at hA0 hA1
 clear hst
 go_enter Tryz.func93,Tryz.ntmps93
 go_wp2_with (go_at_call 92; refine (Tryz.halves _ _ (by omega) (by omega)).mono ?_; rintro e w' ⟨rfl,rfl⟩)
 go_loop [6,10] (fun q a=>∃ q' a':Int,q = .int .u64 q' ∧ a = .int .u64 a' ∧ DigAt x y u l n q' a') (fun q a=>(intOf q).toNat)
 case atStart=>exact ⟨x / u,x - A,rfl,rfl,HS.out⟩
 case round=>
  obtain ⟨q,a,rfl,rfl,hd⟩:=hrel
  have HD:Hid (DigAt x y u l n q a):=hd
  obtain ⟨d1,d2,d3,d4,d5⟩:=hd
  have hp:=prodIn d1 d2 hlb.1 hlb.2
  obtain ⟨B,hB⟩:∃ B,q * l = B:=⟨_,rfl⟩
  rw [hB] at hp
  have hax:a ≤ x:=by have:=Int.mul_nonneg d1 (show 0 ≤ u by omega); omega
  clear d4 d5
  by_cases hlt:a < 4294967296
  ·have hor:=orLow a n (by omega) (by omega) n0 n1
   by_cases hgt:a * 4294967296 + n < B
   ·obtain ⟨st1,st2⟩:=digStep HD.out HY.out (by omega) (by omega) n0 (by omega)
    have HN:Hid (DigAt x y u l n (q - 1) (a + u)):=st1
    clear st1
    go_wp2
    exact ⟨⟨_,_,rfl,rfl,HN.out⟩,by simp [intOf]; omega⟩
   ·have he:=digEnd HD.out HY.out (by omega) hlb.1 hlb.2 n0 (.inr (by omega))
    have HE:Hid (q = (x * 4294967296 + n) / y):=he
    clear he
    go_wp2
    all_goals (go_ret2; refine ⟨?_,rfl⟩)
    all_goals exact wordPair HE.out (digRest (by omega) hy1 n0 n1 HE.out)
  ·have he:=digEnd HD.out HY.out (by omega) hlb.1 hlb.2 n0 (.inl (by omega))
   have HE:Hid (q = (x * 4294967296 + n) / y):=he
   clear he
   go_wp2
   all_goals (go_ret2; refine ⟨?_,rfl⟩)
   all_goals exact wordPair HE.out (digRest (by omega) hy1 n0 n1 HE.out)
theorem orPow (k a b:Nat) (hb:b < 2 ^ k) (h:a * 2 ^ k + b < 18446744073709551616):bits .or .u64 ((a * 2 ^ k:Nat):Int) b = ((a * 2 ^ k + b:Nat):Int):=by
 have key:a * 2 ^ k ||| b = a * 2 ^ k + b:=by
  have:=Nat.shiftLeft_add_eq_or_of_lt (i:=k) hb a
  rw [Nat.shiftLeft_eq] at this
  exact this.symm
 rw [bits_or_u64_nat _ _ (by omega) (by omega),key]
theorem divMath {N Y y p q1 q2 r1 r2 H W low h:Int} (hp:0 < p) (hy:0 < y) (hY:Y = y * p) (hN:N = h * 18446744073709551616 + low) (e:N * p = H * 18446744073709551616 + W)
 (e1:q1 = (H * 4294967296 + W / 4294967296) / Y) (f1:r1 = (H * 4294967296 + W / 4294967296) % Y) (e2:q2 = (r1 * 4294967296 + W % 4294967296) / Y) (f2:r2 = (r1 * 4294967296 + W % 4294967296) % Y) :
 (q1 * 4294967296 + q2) * y + r2 / p = N ∧ 0 ≤ r2 / p ∧ r2 / p < y:=by
 have hYp:0 < Y:=by rw [hY]; exact Int.mul_pos hy hp
 have g1:=Int.mul_ediv_add_emod (H * 4294967296 + W / 4294967296) Y
 have g2:=Int.mul_ediv_add_emod (r1 * 4294967296 + W % 4294967296) Y
 rw [← e1,← f1] at g1
 rw [← e2,← f2] at g2
 have b0:0 ≤ r2:=by rw [f2]; exact Int.emod_nonneg _ (by omega)
 have b1:r2 < Y:=by rw [f2]; exact Int.emod_lt_of_pos _ hYp
 have hsum:N * p = Y * q1 * 4294967296 + Y * q2 + r2:=by omega
 have hr:r2 = (N - (q1 * 4294967296 + q2) * y) * p:=by
  rw [Int.sub_mul,hsum,hY]
  have:(q1 * 4294967296 + q2) * y * p = y * p * q1 * 4294967296 + y * p * q2:=by
   rw [Int.add_mul,Int.add_mul]
   have a1:q1 * 4294967296 * y * p = y * p * q1 * 4294967296:=by
    rw [Int.mul_right_comm q1,Int.mul_right_comm (q1 * y),Int.mul_assoc q1 y p,Int.mul_comm q1]
   have a2:q2 * y * p = y * p * q2:=by rw [Int.mul_assoc,Int.mul_comm]
   rw [a1,a2]
  omega
 have hR:r2 / p = N - (q1 * 4294967296 + q2) * y:=by rw [hr]; exact Int.mul_ediv_cancel _ (by omega)
 have c0:0 ≤ r2 / p:=Int.ediv_nonneg b0 (by omega)
 have c1:r2 / p < y:=Int.ediv_lt_of_lt_mul hp (by rw [← hY]; exact b1)
 exact ⟨by omega,c0,c1⟩
theorem digIn {H Y n:Int} (h0:0 ≤ H) (h1:H < Y) (n0:0 ≤ n) (n1:n ≤ 4294967295):0 ≤ (H * 4294967296 + n) / Y ∧ (H * 4294967296 + n) / Y ≤ 4294967295 ∧ 0 ≤ (H * 4294967296 + n) % Y ∧ (H * 4294967296 + n) % Y < Y:=
 ⟨Int.ediv_nonneg (by omega) (by omega),Int.le_of_lt_add_one (Int.ediv_lt_of_lt_mul (by omega) (by omega)),Int.emod_nonneg _ (by omega),Int.emod_lt_of_pos _ (by omega)⟩
/-- The parts of a division of two words by one. -/
theorem divParts {h low y L:Int} (hl:IsLen y L) (hy:0 < y) (hy1:y ≤ 18446744073709551615) (h0:0 ≤ h) (hlt:h < y) (l0:0 ≤ low) (l1:low ≤ 18446744073709551615) :
 ∃ s Y HP LQ H W q1 r1 q2 r2 R : Int, 64 - L = s ∧ 0 ≤ s ∧ s ≤ 63 ∧ Op.shift .shl .u64 y .u64 s = pure (.int .u64 Y) ∧ Op.shift .shl .u64 h .u64 s = pure (.int .u64 HP) ∧ Op.shift .shr .u64 low .u64 (64 - s) = pure (.int .u64 LQ) ∧
   bits .or .u64 HP LQ = H ∧ Op.shift .shl .u64 low .u64 s = pure (.int .u64 W) ∧ (H * 4294967296 + W / 4294967296) / Y = q1 ∧ (H * 4294967296 + W / 4294967296) % Y = r1 ∧ (r1 * 4294967296 + W % 4294967296) / Y = q2 ∧ (r1 * 4294967296 + W % 4294967296) % Y = r2 ∧
   bits .or .u64 (q1 * 4294967296) q2 = q1 * 4294967296 + q2 ∧ Op.shift .shr .u64 r2 .u64 s = pure (.int .u64 R) ∧
   9223372036854775808 ≤ Y ∧ Y ≤ 18446744073709551615 ∧ 0 ≤ H ∧ H < Y ∧ 0 ≤ W ∧ W ≤ 18446744073709551615 ∧ 0 ≤ q1 ∧ q1 ≤ 4294967295 ∧ 0 ≤ q2 ∧ q2 ≤ 4294967295 ∧ 0 ≤ r1 ∧ r1 < Y ∧ 0 ≤ r2 ∧ r2 < Y ∧
   (q1 * 4294967296 + q2) * y + R = h * 18446744073709551616 + low ∧ 0 ≤ R ∧ R < y:=by
 obtain ⟨g1,g2,g3,g4⟩:=hl
 have g4:1 ≤ L ∧ 2 ^ (L - 1).toNat ≤ y:=by
  rcases g4 with ⟨g,_⟩ | g
  ·omega
  ·exact g
 obtain ⟨k,hk⟩:∃ k:Nat,(64 - L).toNat = k:=⟨_,rfl⟩
 have hks:((k:Nat):Int) = 64 - L:=by omega
 obtain ⟨hN,rfl⟩:=Int.eq_ofNat_of_zero_le h0
 obtain ⟨lN,rfl⟩:=Int.eq_ofNat_of_zero_le l0
 obtain ⟨yN,rfl⟩:=Int.eq_ofNat_of_zero_le (Int.le_of_lt hy)
 have hpos:0 < 2 ^ k:=Nat.two_pow_pos k
 have hjk:2 ^ (64 - k) * 2 ^ k = 18446744073709551616:=by rw [← Nat.pow_add,show 64 - k + k = 64 by omega]
 have hjp:0 < 2 ^ (64 - k):=Nat.two_pow_pos _
 have g3':yN < 2 ^ (64 - k):=by
  rw [show L.toNat = 64 - k by omega] at g3
  exact_mod_cast g3
 have g4':9223372036854775808 ≤ yN * 2 ^ k:=by
  have a:=g4.2
  rw [show (L - 1).toNat = 63 - k by omega] at a
  have a:2 ^ (63 - k) ≤ yN:=by exact_mod_cast a
  have:=Nat.mul_le_mul_right (2 ^ k) a
  rw [← Nat.pow_add,show 63 - k + k = 63 by omega] at this
  exact this
 have hY1:yN * 2 ^ k < 18446744073709551616:=by rw [← hjk]; exact Nat.mul_lt_mul_of_pos_right g3' hpos
 have hhy:hN < yN:=by omega
 have hq:lN / 2 ^ (64 - k) < 2 ^ k:=by rw [Nat.div_lt_iff_lt_mul hjp,Nat.mul_comm,hjk]; omega
 have hhp:hN * 2 ^ k + 2 ^ k ≤ yN * 2 ^ k:=by
  have:=Nat.mul_le_mul_right (2 ^ k) (show hN + 1 ≤ yN by omega)
  rw [Nat.add_mul,Nat.one_mul] at this
  exact this
 have sh:=fun x:Nat=>shlAt .u64 x (64 - L) (by omega)
 have hcast:∀ x:Nat,((x:Int) * 2 ^ min (64 - L).toNat IntKind.u64.bits) = ((x * 2 ^ k:Nat):Int):=fun x=>by
  rw [hk,show min k IntKind.u64.bits = k by show min k 64 = k; omega]; push_cast; rfl
 have hY:=sh yN
 rw [hcast,u64w,show ((yN * 2 ^ k:Nat):Int) % 18446744073709551616 = ((yN * 2 ^ k:Nat):Int) by omega] at hY
 have hH:=sh hN
 rw [hcast,u64w,show ((hN * 2 ^ k:Nat):Int) % 18446744073709551616 = ((hN * 2 ^ k:Nat):Int) by omega] at hH
 have hW:=sh lN
 rw [hcast,u64w] at hW
 have hQ:=shrAt .u64 lN (64 - (64 - L)) (by omega)
 rw [show min (64 - (64 - L)).toNat IntKind.u64.bits = 64 - k by show min _ 64 = _; omega,show ((lN:Int) / 2 ^ (64 - k)) = ((lN / 2 ^ (64 - k):Nat):Int) by push_cast; rfl] at hQ
 have hor:=orPow k hN (lN / 2 ^ (64 - k)) hq (by omega)
 have eN:(((hN:Int) * 18446744073709551616 + lN) * ((2 ^ k:Nat):Int)) = ((hN * 2 ^ k + lN / 2 ^ (64 - k):Nat):Int) * 18446744073709551616 + ((lN * 2 ^ k:Nat):Int) % 18446744073709551616:=by
  have e:lN * 2 ^ k / 18446744073709551616 = lN / 2 ^ (64 - k):=by rw [← hjk]; exact Nat.mul_div_mul_right _ _ hpos
  have e2:=Nat.div_add_mod (lN * 2 ^ k) 18446744073709551616
  rw [e] at e2
  have e3:((hN:Int) * 18446744073709551616 + lN) * ((2 ^ k:Nat):Int) = ((hN * 2 ^ k:Nat):Int) * 18446744073709551616 + ((lN * 2 ^ k:Nat):Int):=by
   rw [Int.add_mul,Int.natCast_mul,Int.natCast_mul,Int.mul_right_comm]
  omega
 obtain ⟨Y,eY⟩:∃ Y:Int,((yN * 2 ^ k:Nat):Int) = Y:=⟨_,rfl⟩
 obtain ⟨H,eH⟩:∃ H:Int,((hN * 2 ^ k + lN / 2 ^ (64 - k):Nat):Int) = H:=⟨_,rfl⟩
 obtain ⟨W,eW⟩:∃ W:Int,((lN * 2 ^ k:Nat):Int) % 18446744073709551616 = W:=⟨_,rfl⟩
 have Y0:9223372036854775808 ≤ Y:=by omega
 have Y1:Y ≤ 18446744073709551615:=by omega
 have H0:0 ≤ H:=by rw [← eH]; exact Int.natCast_nonneg _
 have H1:H < Y:=by
  rw [← eH,← eY]
  have:hN * 2 ^ k + lN / 2 ^ (64 - k) < yN * 2 ^ k:=by omega
  exact_mod_cast this
 have W0:0 ≤ W:=by omega
 have W1:W ≤ 18446744073709551615:=by omega
 rw [eY] at hY
 rw [eH] at hor eN
 rw [eW] at hW eN
 have d1:=digIn H0 H1 (show 0 ≤ W / 4294967296 by omega) (by omega)
 have d2:=digIn d1.2.2.1 d1.2.2.2 (show 0 ≤ W % 4294967296 by omega) (by omega)
 have hR:=shrAt .u64 (((H * 4294967296 + W / 4294967296) % Y * 4294967296 + W % 4294967296) % Y) (64 - L) (by omega)
 rw [show min (64 - L).toNat IntKind.u64.bits = k by show min (64 - L).toNat 64 = k; omega,show (2:Int) ^ k = ((2 ^ k:Nat):Int) by push_cast; rfl] at hR
 have hm:=divMath (N:=(hN:Int) * 18446744073709551616 + lN) (y:=(yN:Int)) (Y:=Y) (p:=((2 ^ k:Nat):Int)) (by omega) hy (by rw [← eY]; exact Int.natCast_mul _ _) rfl eN rfl rfl rfl rfl
 exact ⟨_,Y,_,_,H,W,_,_,_,_,_,rfl,by omega,by omega,hY,hH,hQ,hor,hW,rfl,rfl,rfl,rfl,orLow _ _ d1.1 d1.2.1 d2.1 d2.2.1,hR,Y0,Y1,H0,H1,W0,W1,d1.1,d1.2.1,d2.1,d2.2.1,d1.2.2.1,d1.2.2.2,d2.2.2.1,d2.2.2.2,hm.1,hm.2.1,hm.2.2⟩
theorem Tryz.Div (h low y:Int) (w:World) (h0:0 ≤ h) (hlt:h < y) (l0:0 ≤ low) (l1:low ≤ 18446744073709551615) (hy1:y ≤ 18446744073709551615) :
 Calls Tryz.prog 44 #[.int .u64 h,.int .u64 low,.int .u64 y] w fun e w'=>(∃ q r,0 ≤ q ∧ q ≤ 18446744073709551615 ∧ 0 ≤ r ∧ r < y ∧ q * y + r = h * 18446744073709551616 + low ∧ e = .returned (.tuple #[.int .u64 q,.int .u64 r,.bool true])) ∧ w' = w:=by
 go_enter Tryz.func44,Tryz.ntmps44
 go_wp2_with (first
  |(go_at_call 52; refine (Tryz.Len _ _ (by omega) hy1).mono ?_; rintro e w' ⟨⟨L, hL, rfl⟩, rfl⟩
    obtain ⟨s,Y,HP,LQ,H,W,q1,r1,q2,r2,R,e1,s0,s1,e2,e3,e4,e5,e6,e7,e8,e9,e10,e11,e12,Y0,Y1,H0,H1,W0,W1,a0,a1,b0,b1,c0,c1,m0,m1,em,R0,R1⟩:=divParts hL (by omega) hy1 h0 hlt l0 l1
    have HM:Hid ((q1 * 4294967296 + q2) * y + R = h * 18446744073709551616 + low):=em
    have g1:=hL.lo
    have g2:=hL.hi
    clear em hL)
  |(go_at_call 92; refine (Tryz.halves _ _ W0 W1).mono ?_; rintro e w' ⟨rfl,rfl⟩)
  |(go_at_call 93; refine (Tryz.digit _ _ _ _ Y0 Y1 (by omega) (by omega) (by omega) (by omega)).mono ?_; rintro e w' ⟨rfl,rfl⟩))
 all_goals exact bodyPost_ret (v:=.tuple #[.int .u64 (q1 * 4294967296 + q2),.int .u64 R,.bool true]) (by simp [results,Tryz.results44,go_sem]) rfl ⟨⟨_,_,by omega,by omega,R0,R1,HM.out,rfl⟩,rfl⟩
theorem Tryz.DivNo (h low y:Int) (w:World) (h0:0 ≤ h) (hge:y ≤ h) (h1:h ≤ 18446744073709551615) (l0:0 ≤ low) (l1:low ≤ 18446744073709551615) (hy0:0 ≤ y) :
 Calls Tryz.prog 44 #[.int .u64 h,.int .u64 low,.int .u64 y] w fun e w'=>e = .returned (.tuple #[.int .u64 0,.int .u64 0,.bool false]) ∧ w' = w:=by
 go_enter Tryz.func44,Tryz.ntmps44
 go_wp2_with fail
 all_goals exact bodyPost_ret (v:=.tuple #[.int .u64 0,.int .u64 0,.bool false]) (by simp [results,Tryz.results44,go_sem]) rfl ⟨rfl,rfl⟩
theorem Tryz.Sub (x y:Int) (c:Bool) (w:World) (h0:0 ≤ x) (h1:x ≤ 18446744073709551615) (h2:0 ≤ y) (h3:y ≤ 18446744073709551615) :
 Calls Tryz.prog 250 #[.int .u64 x,.int .u64 y,.bool c] w fun e w'=>e = .returned (.tuple #[.int .u64 ((x - y - if c = true then 1 else 0) % 18446744073709551616),.bool (decide (x < y + if c = true then 1 else 0))]) ∧ w' = w:=by
 have fin:∀ (s t:Int) (a b:Bool),s = t → a = b → Ending.returned (.tuple #[.int .u64 s,.bool a]) = Ending.returned (.tuple #[.int .u64 t,.bool b]):=fun s t a b h k=>by rw [h,k]
 by_cases hlt:x < y
 ·have hw:IntKind.u64.wrap (x - y) = x - y + 18446744073709551616:=by rw [u64w]; omega
  cases c
  ·go_enter Tryz.func250,Tryz.ntmps250
   go_wp2
   all_goals (go_ret2; refine ⟨fin _ _ _ _ ?_ ?_,rfl⟩)
   all_goals (first | omega | (simp; done) | (simp; omega))
  ·have hne:(x - y + 18446744073709551616 == 0) = false:=by simp; omega
   go_enter Tryz.func250,Tryz.ntmps250
   go_wp2
   all_goals (go_ret2; refine ⟨fin _ _ _ _ ?_ ?_,rfl⟩)
   all_goals (first | omega | (simp; done) | (simp; omega))
 ·have hw:IntKind.u64.wrap (x - y) = x - y:=by rw [u64w]; omega
  cases c
  ·go_enter Tryz.func250,Tryz.ntmps250
   go_wp2
   all_goals (go_ret2; refine ⟨fin _ _ _ _ ?_ ?_,rfl⟩)
   all_goals (first | omega | (simp; done) | (simp; omega))
  ·by_cases he:x = y
   ·subst he
    go_enter Tryz.func250,Tryz.ntmps250
    go_wp2
    all_goals (go_ret2; refine ⟨fin _ _ _ _ ?_ ?_,rfl⟩)
    all_goals (first | omega | (rw [u64w]; omega) | (simp; done) | (simp; omega) | trace_state)
   ·have hne:(x - y == 0) = false:=by simp; omega
    go_enter Tryz.func250,Tryz.ntmps250
    go_wp2
    all_goals (go_ret2; refine ⟨fin _ _ _ _ ?_ ?_,rfl⟩)
    all_goals (first | omega | (simp; done) | (simp; omega))
end Go.Proofs
