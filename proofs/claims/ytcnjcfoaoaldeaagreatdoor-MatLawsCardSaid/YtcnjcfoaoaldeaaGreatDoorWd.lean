/- What Shl, Shr, halves, Add and Mul of the package bits return. Numbers by words of 64 bits, the lowest first, as the package nat has them: what trim and compare return. What cmp.Compare at uint64 and compare of the package nat return. -/
import Derived.Test.YtcnjcfoaoaldeaaGreatDoorProg
import Derived.Lib.Strings
import Derived.Lib.Slices
import Derived.Lib.Small
import Derived.Lib.Walk
import Derived.Lib.BitFns
import Derived.Laws.Shifts
import Derived.Below
import Derived.Deep.QuietTactic
import Derived.BigQuiet
import Derived.Outline
import Derived.LoopTactic
import Derived.Laws.Bits64b
import Derived.Laws.BitsAllLaws
import Derived.Laws.Rows
import Derived.Laws.Tables
import Derived.Laws.OwnMore
import Derived.OwnWalk
set_option linter.unusedVariables false
set_option maxHeartbeats 4000000
set_option maxRecDepth 100000
namespace Go.Proofs
open Go.RowKit
theorem i64B {a:Int} (h:(Lit.int .i64 a).wf = true):-9223372036854775808 ≤ a ∧ a ≤ 9223372036854775807:=by
 simpa [Lit.wf,IntKind.min,IntKind.max,IntKind.signed,IntKind.bits] using h
def shlV (x n:Int):Int:=if n ≤ -64 then 0 else if n < 0 then x / 2 ^ (-n).toNat else x * 2 ^ min n.toNat 64 % 18446744073709551616
def shrV (x n:Int):Int:=if n ≤ -64 then 0 else if n < 0 then x * 2 ^ (-n).toNat % 18446744073709551616 else x / 2 ^ min n.toNat 64
theorem u64w (y:Int):IntKind.u64.wrap y = y % 18446744073709551616:=by simp [IntKind.wrap,IntKind.signed,IntKind.bits]
theorem shlAt (k:IntKind) (x c:Int) (h:0 ≤ c):Op.shift .shl k x .u64 c = pure (.int k (k.wrap (x * 2 ^ min c.toNat k.bits))):=shift_shl_any k .u64 x c h
theorem shrAt (k:IntKind) (x c:Int) (h:0 ≤ c):Op.shift .shr k x .u64 c = pure (.int k (x / 2 ^ min c.toNat k.bits)):=shift_shr_any k .u64 x c h
theorem negMin (n:Int) (h:n < 0) (g:-64 < n):min (-n).toNat 64 = (-n).toNat:=by omega
theorem Tryz.Shl (x n:Int) (w:World) (h0:0 ≤ x) (h1:x ≤ 18446744073709551615) (h2:-9223372036854775808 ≤ n) (h3:n ≤ 9223372036854775807) :
 Calls Tryz.prog 228 #[.int .u64 x,.int .i64 n] w fun e w'=>e = .returned (.int .u64 (shlV x n)) ∧ w' = w:=by
 by_cases c1:n ≤ -64
 ·go_enter Tryz.func228,Tryz.ntmps228
  go_wp2
  all_goals (go_ret; refine ⟨congrArg Ending.returned (congrArg (Value.int IntKind.u64) ?_),rfl⟩; unfold shlV)
  rw [if_pos c1]
 ·by_cases c2:n < 0
  ·have hs:=shrAt .u64 x (-n) (by omega)
   have hm:=negMin n c2 (by omega)
   go_enter Tryz.func228,Tryz.ntmps228
   go_wp2
   all_goals (go_ret; refine ⟨congrArg Ending.returned (congrArg (Value.int IntKind.u64) ?_),rfl⟩; unfold shlV)
   rw [if_neg (by omega),if_pos c2]
  ·have hs:=shlAt .u64 x n (by omega)
   go_enter Tryz.func228,Tryz.ntmps228
   go_wp2
   all_goals (go_ret; refine ⟨congrArg Ending.returned (congrArg (Value.int IntKind.u64) ?_),rfl⟩; unfold shlV)
   rw [if_neg (by omega),if_neg (by omega),u64w]
theorem Tryz.Shr (x n:Int) (w:World) (h0:0 ≤ x) (h1:x ≤ 18446744073709551615) (h2:-9223372036854775808 ≤ n) (h3:n ≤ 9223372036854775807) :
 Calls Tryz.prog 229 #[.int .u64 x,.int .i64 n] w fun e w'=>e = .returned (.int .u64 (shrV x n)) ∧ w' = w:=by
 by_cases c1:n ≤ -64
 ·go_enter Tryz.func229,Tryz.ntmps229
  go_wp2
  all_goals (go_ret; refine ⟨congrArg Ending.returned (congrArg (Value.int IntKind.u64) ?_),rfl⟩; unfold shrV)
  rw [if_pos c1]
 ·by_cases c2:n < 0
  ·have hs:=shlAt .u64 x (-n) (by omega)
   have hm:=negMin n c2 (by omega)
   go_enter Tryz.func229,Tryz.ntmps229
   go_wp2
   all_goals (go_ret; refine ⟨congrArg Ending.returned (congrArg (Value.int IntKind.u64) ?_),rfl⟩; unfold shrV)
   rw [if_neg (by omega),if_pos c2,u64w]
  ·have hs:=shrAt .u64 x n (by omega)
   go_enter Tryz.func229,Tryz.ntmps229
   go_wp2
   all_goals (go_ret; refine ⟨congrArg Ending.returned (congrArg (Value.int IntKind.u64) ?_),rfl⟩; unfold shrV)
   rw [if_neg (by omega),if_neg (by omega)]
theorem u64In (y:Int):0 ≤ IntKind.u64.wrap y ∧ IntKind.u64.wrap y ≤ 18446744073709551615:=by rw [u64w]; omega
theorem belowN {B:Nat} {a w:World} (h:Below B a w):∀ n,Below B a (w.drewN n)
 | 0=>by rw [World.drewN_zero]; exact h
 | n + 1=>by rw [← World.drew_drewN]; exact (belowN h n).drew
theorem shrPos (x n:Int) (a0:0 ≤ n) (a1:n ≤ 64):shrV x n = x / 2 ^ n.toNat:=by
 unfold shrV
 rw [if_neg (by omega),if_neg (by omega),show min n.toNat 64 = n.toNat by omega]
theorem shlPos (x n:Int) (a0:0 ≤ n) (a1:n ≤ 64):shlV x n = x * 2 ^ n.toNat % 18446744073709551616:=by
 unfold shlV
 rw [if_neg (by omega),if_neg (by omega),show min n.toNat 64 = n.toNat by omega]
theorem Tryz.halves (x:Int) (w:World) (h0:0 ≤ x) (h1:x ≤ 18446744073709551615) :
 Calls Tryz.prog 92 #[.int .u64 x] w fun e w'=>e = .returned (.tuple #[.int .u64 (x / 4294967296),.int .u64 (x % 4294967296)]) ∧ w' = w:=by
 go_enter Tryz.func92,Tryz.ntmps92
 go_wp2
 all_goals (go_ret2; refine ⟨?_,rfl⟩)
 all_goals rfl
theorem addF (x y:Int) (h0:0 ≤ x) (h1:x ≤ 18446744073709551615) (h2:0 ≤ y) (h3:y ≤ 18446744073709551615) :
 IntKind.u64.wrap (x + y) = (x + y) % 18446744073709551616 ∧ decide (IntKind.u64.wrap (x + y) < x) = decide (18446744073709551616 ≤ x + y):=by
 rw [u64w]
 exact ⟨rfl,decide_eq_decide.2 (by omega)⟩
theorem addT (x y:Int) (h0:0 ≤ x) (h1:x ≤ 18446744073709551615) (h2:0 ≤ y) (h3:y ≤ 18446744073709551615) :
 IntKind.u64.wrap (IntKind.u64.wrap (x + y) + 1) = (x + y + 1) % 18446744073709551616 ∧ (decide (IntKind.u64.wrap (x + y) < x) || IntKind.u64.wrap (IntKind.u64.wrap (x + y) + 1) == 0) = decide (18446744073709551616 ≤ x + y + 1):=by
 rw [u64w,u64w]
 refine ⟨by omega,?_⟩
 rw [Bool.eq_iff_iff]
 simp only [Bool.or_eq_true,decide_eq_true_eq,beq_iff_eq]
 omega
theorem sumPair {a b:Int} {c d:Bool} (h:a = b) (g:c = d):Ending.returned (.tuple #[.int .u64 a,.bool c]) = .returned (.tuple #[.int .u64 b,.bool d]):=by rw [h,g]
theorem Tryz.Add (x y:Int) (c:Bool) (w:World) (h0:0 ≤ x) (h1:x ≤ 18446744073709551615) (h2:0 ≤ y) (h3:y ≤ 18446744073709551615) :
 Calls Tryz.prog 176 #[.int .u64 x,.int .u64 y,.bool c] w fun e w'=>e = .returned (.tuple #[.int .u64 ((x + y + if c then 1 else 0) % 18446744073709551616),.bool (decide (18446744073709551616 ≤ x + y + if c then 1 else 0))]) ∧ w' = w:=by
 cases c
 ·go_enter Tryz.func176,Tryz.ntmps176
  go_wp2
  all_goals (go_ret2; refine ⟨?_,rfl⟩)
  all_goals exact sumPair (addF x y h0 h1 h2 h3).1 (addF x y h0 h1 h2 h3).2
 ·go_enter Tryz.func176,Tryz.ntmps176
  go_wp2
  all_goals (go_ret2; refine ⟨?_,rfl⟩)
  all_goals first
   | exact sumPair (addT x y h0 h1 h2 h3).1 (addT x y h0 h1 h2 h3).2
   |(have hc : IntKind.u64.wrap (x + y) < x := by assumption
     rw [u64w] at hc
     exact sumPair (addT x y h0 h1 h2 h3).1 (decide_eq_true (by omega)).symm)
theorem wordPair {a b c d:Int} (h:a = b) (g:c = d):Ending.returned (.tuple #[.int .u64 a,.int .u64 c]) = .returned (.tuple #[.int .u64 b,.int .u64 d]):=by rw [h,g]
theorem orLow (a b:Int) (h0:0 ≤ a) (h1:a ≤ 4294967295) (g0:0 ≤ b) (g1:b ≤ 4294967295):bits .or .u64 (a * 4294967296) b = a * 4294967296 + b:=by
 obtain ⟨A,rfl⟩:=Int.eq_ofNat_of_zero_le h0
 obtain ⟨B,rfl⟩:=Int.eq_ofNat_of_zero_le g0
 have e:((A:Int) * 4294967296) = ((A * 4294967296:Nat):Int):=by omega
 have key:A * 4294967296 ||| B = A * 4294967296 + B:=by
  have:=Nat.shiftLeft_add_eq_or_of_lt (i:=32) (show B < 2 ^ 32 by omega) A
  rw [Nat.shiftLeft_eq] at this
  exact this.symm
 rw [e,bits_or_u64_nat _ _ (by omega) (by omega),key]
 omega
/-- The product of two words, by halves: each of the sums fits a word. -/
theorem mulParts (x y:Int) (h0:0 ≤ x) (h1:x ≤ 18446744073709551615) (h2:0 ≤ y) (h3:y ≤ 18446744073709551615) :
 ∃ a b c d p q r s:Int,x / 4294967296 = a ∧ x % 4294967296 = b ∧ y / 4294967296 = c ∧ y % 4294967296 = d ∧ a * c = p ∧ a * d = q ∧ b * c = r ∧ b * d = s ∧ 0 ≤ p ∧ p ≤ 18446744065119617025 ∧ 0 ≤ q ∧ q ≤ 18446744065119617025 ∧ 0 ≤ r ∧ r ≤ 18446744065119617025 ∧ 0 ≤ s ∧ s ≤ 18446744065119617025 ∧ x * y = p * 18446744073709551616 + (q + r) * 4294967296 + s:=by
 have key:∀ a b:Int,0 ≤ a → a ≤ 4294967295 → 0 ≤ b → b ≤ 4294967295 → 0 ≤ a * b ∧ a * b ≤ 18446744065119617025:=fun a b ha hA hb hB=>
  ⟨Int.mul_nonneg ha hb,by have:=Int.mul_le_mul hA hB hb (by omega); omega⟩
 have ha:0 ≤ x / 4294967296 ∧ x / 4294967296 ≤ 4294967295:=by omega
 have hb:0 ≤ x % 4294967296 ∧ x % 4294967296 ≤ 4294967295:=by omega
 have hc:0 ≤ y / 4294967296 ∧ y / 4294967296 ≤ 4294967295:=by omega
 have hd:0 ≤ y % 4294967296 ∧ y % 4294967296 ≤ 4294967295:=by omega
 have e1:x = x / 4294967296 * 4294967296 + x % 4294967296:=by omega
 have e2:y = y / 4294967296 * 4294967296 + y % 4294967296:=by omega
 have k1:=key _ _ ha.1 ha.2 hc.1 hc.2
 have k2:=key _ _ ha.1 ha.2 hd.1 hd.2
 have k3:=key _ _ hb.1 hb.2 hc.1 hc.2
 have k4:=key _ _ hb.1 hb.2 hd.1 hd.2
 refine ⟨_,_,_,_,_,_,_,_,rfl,rfl,rfl,rfl,rfl,rfl,rfl,rfl,k1.1,k1.2,k2.1,k2.2,k3.1,k3.2,k4.1,k4.2,?_⟩
 have hxy:x * y = (x / 4294967296 * 4294967296 + x % 4294967296) * (y / 4294967296 * 4294967296 + y % 4294967296):=by rw [← e1,← e2]
 rw [hxy]
 generalize x / 4294967296 = a
 generalize x % 4294967296 = b
 generalize y / 4294967296 = c
 generalize y % 4294967296 = d
 rw [Int.add_mul,Int.mul_add,Int.mul_add]
 have f1:a * 4294967296 * (c * 4294967296) = a * c * 18446744073709551616:=by rw [Int.mul_assoc,Int.mul_left_comm 4294967296,← Int.mul_assoc]; omega
 have f2:a * 4294967296 * d = a * d * 4294967296:=Int.mul_right_comm _ _ _
 have f3:b * (c * 4294967296) = b * c * 4294967296:=(Int.mul_assoc _ _ _).symm
 omega
theorem Tryz.Mul (x y:Int) (w:World) (h0:0 ≤ x) (h1:x ≤ 18446744073709551615) (h2:0 ≤ y) (h3:y ≤ 18446744073709551615) :
 Calls Tryz.prog 43 #[.int .u64 x,.int .u64 y] w fun e w'=>(∃ h l,x * y = h * 18446744073709551616 + l ∧ 0 ≤ h ∧ h ≤ 18446744073709551615 ∧ 0 ≤ l ∧ l ≤ 18446744073709551615 ∧ e = .returned (.tuple #[.int .u64 h,.int .u64 l])) ∧ w' = w:=by
 obtain ⟨a,b,c,d,p,q,r,s,ea,eb,ec,ed,ep,eq,er,es,p0,p1,q0,q1,r0,r1,s0,s1,exy⟩:=mulParts x y h0 h1 h2 h3
 have ho:=fun a b i j k l=>orLow a b i j k l
 have hA:0 ≤ a:=by omega
 have hB:0 ≤ b:=by omega
 have hC:0 ≤ c:=by omega
 have hD:0 ≤ d:=by omega
 clear ho
 have HX:Hid (x * y = p * 18446744073709551616 + (q + r) * 4294967296 + s):=exy
 clear exy
 go_enter Tryz.func43,Tryz.ntmps43
 go_wp2_with (go_at_call 92; refine (Tryz.halves _ _ (by omega) (by omega)).mono ?_; rintro e w' ⟨rfl,rfl⟩)
 all_goals (go_ret2; refine ⟨⟨_,_,?_,?_,?_,?_,?_,rfl⟩,rfl⟩)
 all_goals (try rw [orLow _ _ (by omega) (by omega) (by omega) (by omega)])
 all_goals (try rw [HX.out])
 all_goals omega
theorem Tryz.AddX (x y:Int) (c:Bool) (w:World) (h0:0 ≤ x) (h1:x ≤ 18446744073709551615) (h2:0 ≤ y) (h3:y ≤ 18446744073709551615) :
 Calls Tryz.prog 176 #[.int .u64 x,.int .u64 y,.bool c] w fun e w'=>(∃ s d,s + (if d = true then 18446744073709551616 else 0) = x + y + (if c = true then 1 else 0) ∧ 0 ≤ s ∧ s ≤ 18446744073709551615 ∧ e = .returned (.tuple #[.int .u64 s,.bool d])) ∧ w' = w:=by
 refine (Tryz.Add x y c w h0 h1 h2 h3).mono ?_
 rintro e w' ⟨rfl,rfl⟩
 refine ⟨⟨_,_,?_,by omega,by omega,rfl⟩,rfl⟩
 simp only [decide_eq_true_eq]
 cases c
 ·simp only [Bool.false_eq_true,if_false]
  split <;> omega
 ·simp only [if_true]
  split <;> omega
end Go.Proofs
namespace Go.Proofs.Wd
open Go.RowKit
/-- The number that digits of 2^64 show, the lowest first. -/
def val:List Int → Int
 | []=>0
 | d :: l=>d + 18446744073709551616 * val l
/-- Digits. -/
def Dig (l:List Int):Prop:=∀ d ∈ l,0 ≤ d ∧ d ≤ 18446744073709551615
@[simp] theorem val_nil:val [] = 0:=rfl
theorem val_cons (d:Int) (l:List Int):val (d :: l) = d + 18446744073709551616 * val l:=rfl
theorem val_append (a b:List Int):val (a ++ b) = val a + 18446744073709551616 ^ a.length * val b:=by
 induction a with
 | nil=>simp
 | cons d l ih =>
   simp only [List.cons_append,val_cons,ih,List.length_cons,Int.pow_succ]
   rw [Int.mul_add,Int.add_assoc,← Int.mul_assoc,Int.mul_comm 18446744073709551616 (18446744073709551616 ^ l.length)]
theorem val_snoc (a:List Int) (d:Int):val (a ++ [d]) = val a + 18446744073709551616 ^ a.length * d:=by
 rw [val_append,val_cons]; simp
theorem val_zeros (n:Nat):val (List.replicate n 0) = 0:=by
 induction n with
 | zero=>rfl
 | succ n ih=>rw [List.replicate_succ,val_cons,ih]; rfl
theorem val_set (l:List Int) (j:Nat) (v:Int) (h:j < l.length):val (l.set j v) = val l + 18446744073709551616 ^ j * (v - l.getD j 0):=by
 induction l generalizing j with
 | nil=>simp at h
 | cons d l ih =>
   cases j with
   | zero=>simp [val_cons]; omega
   | succ j =>
     simp only [List.set_cons_succ,val_cons,List.getD_cons_succ,Int.pow_succ]
     rw [ih j (by simpa using h),Int.mul_add,Int.add_assoc,← Int.mul_assoc,Int.mul_comm 18446744073709551616 (18446744073709551616 ^ j)]
theorem Dig.nil:Dig []:=fun _ h=>by simp at h
theorem Dig.tail {d:Int} {l:List Int} (h:Dig (d :: l)):Dig l:=fun x hx=>h x (List.mem_cons_of_mem _ hx)
theorem Dig.head {d:Int} {l:List Int} (h:Dig (d :: l)):0 ≤ d ∧ d ≤ 18446744073709551615:=h d (by simp)
theorem Dig.append {a b:List Int} (h:Dig a) (k:Dig b):Dig (a ++ b):=fun x hx=>by
 rcases List.mem_append.1 hx with g | g
 ·exact h x g
 ·exact k x g
theorem Dig.take {l:List Int} (h:Dig l) (n:Nat):Dig (l.take n):=fun x hx=>h x (List.mem_of_mem_take hx)
theorem Dig.drop {l:List Int} (h:Dig l) (n:Nat):Dig (l.drop n):=fun x hx=>h x (List.mem_of_mem_drop hx)
theorem Dig.get {l:List Int} (h:Dig l) (j:Nat):0 ≤ l.getD j 0 ∧ l.getD j 0 ≤ 18446744073709551615:=by
 by_cases g:j < l.length
 ·have:=h l[j] (List.getElem_mem g)
  simpa [List.getD,g] using this
 ·have:l[j]? = none:=by simp; omega
  simp [List.getD,this]
theorem Dig.of_get {l:List Int} (h:∀ j,j < l.length → 0 ≤ l.getD j 0 ∧ l.getD j 0 ≤ 18446744073709551615):Dig l:=by
 intro x hx
 obtain ⟨j,hj,rfl⟩:=List.mem_iff_getElem.1 hx
 have:=h j hj
 simpa [List.getD,hj] using this
theorem pow_pos' (n:Nat):(0:Int) < 18446744073709551616 ^ n:=Int.pow_pos (by omega)
theorem val_nonneg {l:List Int} (h:Dig l):0 ≤ val l:=by
 induction l with
 | nil=>simp
 | cons d l ih=>have:=ih h.tail; have:=h.head; rw [val_cons]; omega
theorem val_lt {l:List Int} (h:Dig l):val l < 18446744073709551616 ^ l.length:=by
 induction l with
 | nil=>simp
 | cons d l ih=>have:=ih h.tail; have:=h.head; rw [val_cons,List.length_cons,Int.pow_succ]; omega
/-- Of the digits from place k on. -/
theorem val_drop (l:List Int) (k:Nat):val (l.drop k) = l.getD k 0 + 18446744073709551616 * val (l.drop (k + 1)):=by
 by_cases h:k < l.length
 ·rw [List.drop_eq_getElem_cons h,val_cons]
  simp [List.getD,h]
 ·rw [List.drop_eq_nil_of_le (by omega),List.drop_eq_nil_of_le (by omega)]
  have:l[k]? = none:=by simp; omega
  simp [List.getD,this]
theorem val_take_drop (l:List Int) (k:Nat) (h:k ≤ l.length):val l = val (l.take k) + 18446744073709551616 ^ k * val (l.drop k):=by
 conv=>lhs; rw [← List.take_append_drop k l]
 rw [val_append,List.length_take,Nat.min_eq_left h]
theorem val_take_succ (l:List Int) (k:Nat) (h:k < l.length):val (l.take (k + 1)) = val (l.take k) + 18446744073709551616 ^ k * l.getD k 0:=by
 rw [List.take_add_one,List.getElem?_eq_getElem h]
 simp only [Option.toList_some]
 rw [val_snoc,List.length_take,Nat.min_eq_left (by omega)]
 simp [List.getD,h]
/-- No nought above. -/
def Top (l:List Int):Prop:=l = [] ∨ l.getD (l.length - 1) 0 ≠ 0
theorem top_pos {l:List Int} (h:Dig l) (t:Top l) (hl:l ≠ []):18446744073709551616 ^ (l.length - 1) ≤ val l:=by
 have hn:0 < l.length:=by cases l with | nil=>exact absurd rfl hl | cons=>simp
 rcases t with t | t
 ·exact absurd t hl
 ·rw [val_take_drop l (l.length - 1) (by omega),val_drop]
  have a:=val_nonneg (h.take (l.length - 1))
  have b:=h.get (l.length - 1)
  have c:=val_nonneg (h.drop (l.length - 1 + 1))
  have p:=pow_pos' (l.length - 1)
  have:18446744073709551616 ^ (l.length - 1) * 1 ≤ 18446744073709551616 ^ (l.length - 1) * (l.getD (l.length - 1) 0 + 18446744073709551616 * val (l.drop (l.length - 1 + 1))):=Int.mul_le_mul_of_nonneg_left (by omega) (by omega)
  omega
/-- The slice v holds the digits xs in world w. -/
def Digs (w:World) (v:Value) (xs:List Int):Prop:=w.ownsRow 0 73 1 v xs.length (xs.map (Value.int .u64))
theorem Digs.nil (w:World):Digs w (.slice none 0 0) []:=World.ownsRow_nil _ _ _ _
/-- What a walk asks of digits. -/
structure RowAt (w:World) (g:Nat) (cap:Nat) (xs:List Int):Prop where
 lt:g < w.heap.size
 fits:xs.length ≤ cap
 max:cap ≤ maxLen
 cells:∀ j,j < xs.length → w.cell? ⟨g,j,none⟩ = some (.int .u64 (xs.getD j 0))
theorem Digs.cases {w:World} {v:Value} {xs:List Int} (h:Digs w v xs):(v = .slice none 0 0 ∧ xs = []) ∨ ∃ g cap,v = .slice (some ⟨g,0,none⟩) xs.length cap ∧ RowAt w g cap xs:=by
 obtain ⟨h0,h⟩:=h
 rcases h with ⟨rfl,h⟩ | ⟨g,cap,cur,rfl,hg,hh,hn,hc,hs,ht⟩
 ·exact .inl ⟨rfl,List.length_eq_zero_iff.1 h⟩
 ·refine .inr ⟨g,cap,rfl,(Array.getElem?_eq_some_iff.1 hh).1,hn,hc,fun j hj=>?_⟩
  rw [cell_of_row _ _ _ _ _ _ hh]
  have e:cur.toList[j]? = (xs.map (Value.int .u64))[j]?:=by
   rw [← ht,List.getElem?_take_of_lt (by omega)]
  rw [Array.getElem?_toList] at e
  rw [e,List.getElem?_map,List.getElem?_eq_getElem hj]
  simp [List.getD,hj]
theorem Digs.below {w w':World} {v:Value} {xs:List Int} {B:Nat} (h:Digs w v xs) (hb:Below B w w') (hB:w.heap.size ≤ B):Digs w' v xs:=by
 obtain ⟨h0,h⟩:=h
 refine ⟨h0,?_⟩
 rcases h with h | ⟨g,cap,cur,h1,hg,hh,r⟩
 ·exact .inl h
 ·have hlt:=(Array.getElem?_eq_some_iff.1 hh).1
  exact .inr ⟨g,cap,cur,h1,hg,by rw [hb.block g (by omega)]; exact hh,r⟩
theorem Digs.take {w:World} {g cap:Nat} {xs:List Int} (h:Digs w (.slice (some ⟨g,0,none⟩) xs.length cap) xs) (k:Nat) (hk:k ≤ xs.length):Digs w (.slice (some ⟨g,0,none⟩) k cap) (xs.take k):=by
 obtain ⟨h0,h⟩:=h
 have hl:(xs.take k).length = k:=by simp; omega
 refine ⟨by simp,?_⟩
 rcases h with h | ⟨g',cap',cur,h1,hg,hh,hn,hc,hs,ht⟩
 ·simp at h
 ·simp only [Value.slice.injEq,Option.some.injEq,Addr.mk.injEq,and_true,true_and] at h1
  obtain ⟨rfl,rfl⟩:=h1
  refine .inr ⟨g,cap,cur,by rw [hl],hg,hh,by omega,hc,hs,?_⟩
  have:(cur.toList.take (xs.length * 1)).take k = (xs.map (Value.int .u64)).take k:=by rw [ht]
  rw [List.take_take,Nat.min_eq_left (by omega)] at this
  rw [hl,Nat.mul_one,this,List.map_take]
theorem top_take {xs:List Int} {k:Nat} (hk:k ≤ xs.length) (h:k = 0 ∨ xs.getD (k - 1) 0 ≠ 0):Top (xs.take k):=by
 by_cases k0:k = 0
 ·subst k0; exact .inl (by simp)
 ·have h:=h.resolve_left k0
  refine .inr ?_
  have hl:(xs.take k).length = k:=by simp; omega
  rw [hl]
  have e:(xs.take k).getD (k - 1) 0 = xs.getD (k - 1) 0:=by
   simp only [List.getD]
   rw [List.getElem?_take_of_lt (by omega)]
  rw [e]; exact h
theorem Digs.of_own {w:World} {B:Nat} {v:Value} {xs:List Int} (h:w.ownsRow B 73 1 v xs.length (xs.map (Value.int .u64))):Digs w v xs:=by
 obtain ⟨h0,h⟩:=h
 refine ⟨h0,?_⟩
 rcases h with h | ⟨g,cap,cur,h1,hg,r⟩
 ·exact .inl h
 ·exact .inr ⟨g,cap,cur,h1,by omega,r⟩
theorem Digs.slice {w:World} {v:Value} {xs:List Int} (h:Digs w v xs):∃ p cap,v = .slice p xs.length cap ∧ xs.length ≤ 9223372036854775807 ∧ (0 < xs.length → ∃ g,p = some ⟨g,0,none⟩ ∧ RowAt w g cap xs):=by
 rcases h.cases with ⟨rfl,rfl⟩ | ⟨g,cap,rfl,hr⟩
 ·exact ⟨none,0,rfl,by simp,fun h=>by simp at h⟩
 ·exact ⟨_,cap,rfl,by have:=hr.fits; have:=hr.max; unfold maxLen at this; omega,fun _=>⟨g,rfl,hr⟩⟩
theorem pow_mono' {i j:Nat} (h:i ≤ j):(18446744073709551616:Int) ^ i ≤ 18446744073709551616 ^ j:=by
 have e:(18446744073709551616:Int) ^ j = 18446744073709551616 ^ i * 18446744073709551616 ^ (j - i):=by rw [← Int.pow_add,show i + (j - i) = j by omega]
 have h1:=pow_pos' (j - i)
 have h2:(18446744073709551616:Int) ^ i * 1 ≤ 18446744073709551616 ^ i * 18446744073709551616 ^ (j - i):=Int.mul_le_mul_of_nonneg_left (by omega) (by have:=pow_pos' i; omega)
 omega
theorem val_parts (l:List Int) (k:Nat):val l = val (l.take k) + 18446744073709551616 ^ k * val (l.drop k):=by
 by_cases h:k ≤ l.length
 ·exact val_take_drop l k h
 ·rw [List.take_of_length_le (by omega),List.drop_eq_nil_of_le (by omega)]; simp
theorem take_lt {l:List Int} (h:Dig l) (k:Nat):val (l.take k) < 18446744073709551616 ^ k:=
 Int.lt_of_lt_of_le (val_lt (h.take k)) (pow_mono' (by rw [List.length_take]; omega))
theorem lt_of_drop {xs ys:List Int} (hx:Dig xs) (hy:Dig ys) (k:Nat) (h:val (xs.drop k) < val (ys.drop k)):val xs < val ys:=by
 rw [val_parts xs k,val_parts ys k]
 have h1:=take_lt hx k
 have h2:=val_nonneg (hy.take k)
 have h3:(18446744073709551616:Int) ^ k * (val (xs.drop k) + 1) ≤ 18446744073709551616 ^ k * val (ys.drop k):=Int.mul_le_mul_of_nonneg_left (by omega) (by have:=pow_pos' k; omega)
 rw [Int.mul_add] at h3
 omega
/-- The order of two numbers, as Cmp tells it. -/
def cmpI (a b:Int):Int:=if a < b then -1 else if b < a then 1 else 0
theorem cmpI_lt {a b:Int} (h:a < b):cmpI a b = -1:=by unfold cmpI; rw [if_pos h]
theorem cmpI_gt {a b:Int} (h:b < a):cmpI a b = 1:=by unfold cmpI; rw [if_neg (by omega),if_pos h]
theorem cmpI_eq {a b:Int} (h:a = b):cmpI a b = 0:=by unfold cmpI; rw [if_neg (by omega),if_neg (by omega)]
theorem getD_over {l:List Int} {k:Nat} (h:¬ k < l.length):l.getD k 0 = 0:=by
 have:l[k]? = none:=by simp; omega
 simp [List.getD,this]
/-- Block O holds just the numbers L. -/
def RowOf (w:World) (O:Nat) (L:List Int):Prop:=w.heap[O]? = some (.cells (L.map (Value.int .u64)).toArray 73 (0,0))
theorem RowOf.cell {w:World} {O:Nat} {L:List Int} (h:RowOf w O L) {j:Nat} (hj:j < L.length):w.cell? ⟨O,j,none⟩ = some (.int .u64 (L.getD j 0)):=by
 rw [cell_of_row _ _ _ _ _ _ h]
 simp [List.getD,hj]
theorem RowOf.frozen {w:World} {O:Nat} {L:List Int} (h:RowOf w O L) (j:Nat):w.frozen? ⟨O,j,none⟩ = false:=frozen_of_row _ _ j _ _ h
theorem RowOf.set {w:World} {O:Nat} {L:List Int} (h:RowOf w O L) (j:Nat) (z:Int):RowOf (w.setCell ⟨O,j,none⟩ (.int .u64 z)) O (L.set j z):=by
 unfold RowOf
 rw [heap_setCell_same _ _ _ _ _ _ h]
 congr 2
 apply Array.ext'
 simp [List.map_set]
theorem RowOf.below {w w':World} {O B:Nat} {L:List Int} (h:RowOf w O L) (hb:Below B w w') (hO:O < B):RowOf w' O L:=by
 unfold RowOf; rw [hb.block O hO]; exact h
theorem RowOf.drew {w:World} {O:Nat} {L:List Int} (h:RowOf w O L):RowOf w.drew O L:=h
theorem RowOf.drewN {w:World} {O:Nat} {L:List Int} (h:RowOf w O L):∀ n,RowOf (w.drewN n) O L
 | 0=>by rw [World.drewN_zero]; exact h
 | n + 1=>by rw [← World.drew_drewN]; exact (RowOf.drewN h n).drew
theorem RowOf.of_made {w:World} {B g n:Nat} (h:w.ownsRow B 73 1 (.slice (some ⟨g,0,none⟩) n n) n (List.replicate n (.int .u64 0))):RowOf w g (List.replicate n 0):=by
 obtain ⟨h0,h⟩:=h
 rcases h with h | ⟨g',cap,cur,h1,hg,hh,hn,hc,hs,ht⟩
 ·simp at h
 ·simp only [Value.slice.injEq,Option.some.injEq,Addr.mk.injEq,and_true,true_and] at h1
  obtain ⟨rfl,rfl⟩:=h1
  unfold RowOf
  rw [hh]
  have:cur.toList.take (n * 1) = cur.toList:=List.take_of_length_le (by simp; omega)
  rw [List.map_replicate]
  congr 2
  apply Array.ext'
  rw [← this,ht]
theorem RowOf.digs {w:World} {O:Nat} {L:List Int} (h:RowOf w O L) (hl:L.length ≤ maxLen):Digs w (.slice (some ⟨O,0,none⟩) L.length L.length) L:=by
 refine ⟨by simp,.inr ⟨O,L.length,_,rfl,by omega,h,Nat.le_refl _,hl,by simp,?_⟩⟩
 rw [Nat.mul_one]; exact List.take_of_length_le (by simp)
theorem RowOf.lt {w:World} {O:Nat} {L:List Int} (h:RowOf w O L):O < w.heap.size:=(Array.getElem?_eq_some_iff.1 h).1
theorem getD_set_self {L:List Int} {k:Nat} (z:Int) (h:k < L.length):(L.set k z).getD k 0 = z:=by
 simp [List.getD,h]
theorem getD_set_ne {L:List Int} {k j:Nat} (z:Int) (h:k ≠ j):(L.set k z).getD j 0 = L.getD j 0:=by
 simp [List.getD,h]
theorem val_take_next (l:List Int) (k:Nat):val (l.take (k + 1)) = val (l.take k) + 18446744073709551616 ^ k * l.getD k 0:=by
 by_cases h:k < l.length
 ·exact val_take_succ l k h
 ·rw [List.take_of_length_le (by omega),List.take_of_length_le (by omega),getD_over h]; simp
theorem Digs.cut {w:World} {p:Option Addr} {cap:Nat} {xs:List Int} (h:Digs w (.slice p xs.length cap) xs) (k:Nat) (hk:k ≤ xs.length):Digs w (.slice p k cap) (xs.take k):=by
 rcases h.cases with ⟨h1,rfl⟩ | ⟨g,cap',h1,_⟩
 ·simp only [Value.slice.injEq] at h1
  obtain ⟨rfl,_,rfl⟩:=h1
  obtain rfl:k = 0:=by simpa using hk
  exact Digs.nil _
 ·simp only [Value.slice.injEq,true_and] at h1
  obtain ⟨rfl,rfl⟩:=h1
  exact h.take k hk
theorem Tryz.trim (p:Option Addr) (cap:Nat) (xs:List Int) (w:World) (h:Digs w (.slice p xs.length cap) xs) :
 Calls Tryz.prog 108 #[.slice p xs.length cap] w fun e w'=>(∃ k:Nat,e = .returned (.slice p k cap) ∧ k ≤ xs.length ∧ Top (xs.take k) ∧ val (xs.take k) = val xs) ∧ w' = w:=by
 obtain ⟨p',cap',hp,hlen,hrow⟩:=h.slice
 simp only [Value.slice.injEq,true_and] at hp
 obtain ⟨rfl,rfl⟩:=hp
 have HR:Hid (0 < xs.length → ∃ g,p = some ⟨g,0,none⟩ ∧ RowAt w g cap xs):=hrow
 clear hrow h
 go_enter Tryz.func108,Tryz.ntmps108
 go_wp2
 go_loop [0] (fun v=>∃ k:Nat,k ≤ xs.length ∧ v = .slice p k cap ∧ val (xs.take k) = val xs) (fun v=>match v with | .slice _ k _=>k | _=>0)
 case atStart=>exact ⟨xs.length,Nat.le_refl _,rfl,by simp⟩
 case round=>
  obtain ⟨k,hk,rfl,hv⟩:=hrel
  have HV:Hid (val (xs.take k) = val xs):=hv
  clear hv
  cases k with
  | zero =>
    go_wp2
    go_ret
    exact ⟨⟨0,rfl,by omega,.inl (by simp),HV.out⟩,rfl⟩
  | succ k =>
    obtain ⟨g,rfl,hr⟩:=HR.out (by omega)
    obtain ⟨hlt,hfits,hmax,hcells⟩:=hr
    unfold maxLen at hmax
    have hc:=hcells k (by omega)
    clear hcells
    obtain ⟨d,hd⟩:∃ d,xs.getD k 0 = d:=⟨_,rfl⟩
    rw [hd] at hc
    have hD:Hid (xs.getD k 0 = d):=hd
    clear hd
    have hcase:(d == 0) = true ∨ (d == 0) = false:=by cases (d == 0) <;> simp
    rcases hcase with h0 | h0
    ·have hd0:d = 0:=by simpa using h0
     go_wp2
     exact ⟨⟨k,by omega,rfl,by rw [← HV.out,val_take_succ _ _ (by omega),hD.out,hd0]; simp⟩,by simp⟩
    ·have hd0:d ≠ 0:=by simpa using h0
     go_wp2
     go_ret
     exact ⟨⟨k + 1,rfl,hk,top_take hk (.inr (by rw [Nat.add_sub_cancel,hD.out]; exact hd0)),HV.out⟩,rfl⟩
end Go.Proofs.Wd
namespace Go.Proofs.Wd
open Go.RowKit
theorem Tryz.nanU (a:Int) (w:World):Calls Tryz.prog 170 #[.int .u64 a] w fun e w'=>e = .returned (.bool false) ∧ w' = w:=by
 go_enter Tryz.func170,Tryz.ntmps170
 go_wp2
 all_goals (go_ret; exact ⟨by simp,rfl⟩)
theorem Tryz.nanI (a:Int) (w:World):Calls Tryz.prog 117 #[.int .i64 a] w fun e w'=>e = .returned (.bool false) ∧ w' = w:=by
 go_enter Tryz.func117,Tryz.ntmps117
 go_wp2
 all_goals (go_ret; exact ⟨by simp,rfl⟩)
theorem Tryz.cmpU (a b:Int) (w:World):Calls Tryz.prog 131 #[.int .u64 a,.int .u64 b] w fun e w'=>e = .returned (.int .i64 (cmpI a b)) ∧ w' = w:=by
 go_enter Tryz.func131,Tryz.ntmps131
 go_wp2_with (go_at_call 170; refine (Tryz.nanU _ _).mono ?_; rintro e w' ⟨rfl,rfl⟩)
 all_goals (go_ret; refine ⟨?_,rfl⟩)
 ·rw [cmpI_lt (by assumption)]; rfl
 ·rw [cmpI_gt (by assumption)]; rfl
 ·rw [cmpI_eq (by omega)]; rfl
theorem Tryz.cmpN (a b:Int) (w:World):Calls Tryz.prog 55 #[.int .i64 a,.int .i64 b] w fun e w'=>e = .returned (.int .i64 (cmpI a b)) ∧ w' = w:=by
 go_enter Tryz.func55,Tryz.ntmps55
 go_wp2_with (go_at_call 117; refine (Tryz.nanI _ _).mono ?_; rintro e w' ⟨rfl,rfl⟩)
 all_goals (go_ret; refine ⟨?_,rfl⟩)
 ·rw [cmpI_lt (by assumption)]; rfl
 ·rw [cmpI_gt (by assumption)]; rfl
 ·rw [cmpI_eq (by omega)]; rfl
/-- The longer of two numbers without noughts above is the greater. -/
theorem lenLt {xs ys:List Int} (hx:Dig xs) (hy:Dig ys) (ty:Top ys) (h:xs.length < ys.length):val xs < val ys:=by
 have h1:=val_lt hx
 have h2:=top_pos hy ty (fun e=>by subst e; simp at h)
 have h3:=pow_mono' (show xs.length ≤ ys.length - 1 by omega)
 omega
theorem cmpLen {xs ys:List Int} (hx:Dig xs) (hy:Dig ys) (tx:Top xs) (ty:Top ys) (h:xs.length ≠ ys.length):cmpI (val xs) (val ys) = cmpI xs.length ys.length:=by
 by_cases c:xs.length < ys.length
 ·rw [cmpI_lt (lenLt hx hy ty c),cmpI_lt (by omega)]
 ·rw [cmpI_gt (lenLt hy hx tx (by omega)),cmpI_gt (by omega)]
theorem Tryz.compare (v u:Value) (xs ys:List Int) (w:World) (hv:Digs w v xs) (hu:Digs w u ys) (hx:Dig xs) (hy:Dig ys) (tx:Top xs) (ty:Top ys) :
 Calls Tryz.prog 172 #[v,u] w fun e w'=>e = .returned (.int .i64 (cmpI (val xs) (val ys))) ∧ Below w.heap.size w w':=by
 obtain ⟨p,cap,rfl,hxl,hxr⟩:=hv.slice
 obtain ⟨q,dap,rfl,hyl,hyr⟩:=hu.slice
 have HX:Hid (0 < xs.length → ∃ g,p = some ⟨g,0,none⟩ ∧ RowAt w g cap xs):=hxr
 have HY:Hid (0 < ys.length → ∃ g,q = some ⟨g,0,none⟩ ∧ RowAt w g dap ys):=hyr
 have HL:Hid (xs.length ≠ ys.length → cmpI (val xs) (val ys) = cmpI xs.length ys.length):=fun h=>cmpLen hx hy tx ty h
 clear hxr hyr hv hu
 obtain ⟨n,hn⟩:∃ n,xs.length = n:=⟨_,rfl⟩
 obtain ⟨m,hm⟩:∃ m,ys.length = m:=⟨_,rfl⟩
 rw [hn] at hxl
 rw [hm] at hyl
 rw [hn,hm] at HL
 rw [hn,hm]
 go_enter Tryz.func172,Tryz.ntmps172
 by_cases hnm:n = m
 ·subst hnm
  go_wp2
  go_loopw [5] (fun i wr=>∃ k:Nat,i = .int .i64 (k - 1) ∧ k ≤ n ∧ val (xs.drop k) = val (ys.drop k) ∧ Below w.heap.size w wr) (fun i _=>(intOf i + 1).toNat)
  case atStart=>exact ⟨n,rfl,Nat.le_refl _,by rw [List.drop_eq_nil_of_le (by omega),List.drop_eq_nil_of_le (by omega)],Below.refl _ _⟩
  case round=>
   obtain ⟨k,rfl,hk,he,hb⟩:=hrel
   have HE:Hid (val (xs.drop k) = val (ys.drop k)):=he
   have HB:Hid (Below w.heap.size w wr):=hb
   clear he
   cases k with
   | zero =>
     have H0:Hid (cmpI (val xs) (val ys) = 0):=cmpI_eq (by simpa using HE.out)
     clear hb
     go_wp2
     go_ret
     exact ⟨by rw [H0.out]; rfl,HB.out⟩
   | succ k =>
     rw [show ((k + 1:Nat):Int) - 1 = k by omega]
     obtain ⟨x,hxk⟩:∃ x,xs.getD k 0 = x:=⟨_,rfl⟩
     obtain ⟨y,hyk⟩:∃ y,ys.getD k 0 = y:=⟨_,rfl⟩
     have HNE:Hid (x ≠ y → cmpI (val xs) (val ys) = cmpI x y):=fun h=>by
      by_cases c:x < y
      ·rw [cmpI_lt c]; exact cmpI_lt (lt_of_drop hx hy k (by rw [val_drop xs,val_drop ys,hxk,hyk,HE.out]; omega))
      ·rw [cmpI_gt (show y < x by omega)]; exact cmpI_gt (lt_of_drop hy hx k (by rw [val_drop xs,val_drop ys,hxk,hyk,HE.out]; omega))
     have HEQ:Hid (x = y → val (xs.drop k) = val (ys.drop k)):=fun h=>by rw [val_drop xs,val_drop ys,hxk,hyk,HE.out,h]
     obtain ⟨g,rfl,hr⟩:=HX.out (by omega)
     obtain ⟨g',rfl,hr'⟩:=HY.out (by omega)
     have hcx:=(hb.cell (p:=⟨g,k,none⟩) hr.lt).trans (hr.cells k (by omega))
     have hcy:=(hb.cell (p:=⟨g',k,none⟩) hr'.lt).trans (hr'.cells k (by omega))
     rw [hxk] at hcx
     rw [hyk] at hcy
     clear hr hr' hxk hyk hb
     go_wp2
     go_region
     go_wp2
     ·have hne:x ≠ y:=by intro e; subst e; simp at *
      obtain ⟨W1,hW1⟩:∃ W,wr.drew = W:=⟨_,rfl⟩
      have hcx1:W1.cell? ⟨g,k,none⟩ = some (.int .u64 x):=by rw [← hW1]; exact hcx
      have hcy1:W1.cell? ⟨g',k,none⟩ = some (.int .u64 y):=by rw [← hW1]; exact hcy
      have HBD:Hid (∀ n,Below w.heap.size w (W1.drewN n)):=by rw [← hW1]; exact belowN HB.out.drew
      rw [hW1]
      clear hW1 hcx hcy
      have HNN:Hid (cmpI (val xs) (val ys) = cmpI x y):=HNE.out hne
      have hk1:(k:Int) < (n:Int):=by omega
      have hk0:(0:Int) ≤ (k:Int):=by omega
      go_quiet ((first | (go_at_call 131; exact Calls.quiet_of_same (Tryz.cmpU _ _ _))))
      go_wp2
      go_ret
      exact ⟨by rw [HNN.out]; rfl,HBD.out _⟩
     ·have he:x = y:=by simpa using (by assumption:(x != y) = false)
      exact ⟨⟨k,rfl,by omega,HEQ.out he,HB.out.drew⟩,by simp [intOf]⟩
 ·have HLL:Hid (cmpI (val xs) (val ys) = cmpI n m):=HL.out hnm
  have hne:((n:Int) != (m:Int)) = true:=by simp; omega
  go_wp2_with (go_at_call 55; refine (Tryz.cmpN _ _ _).mono ?_; rintro e w' ⟨rfl,rfl⟩)
  go_ret
  exact ⟨by rw [HLL.out]; rfl,Below.refl _ _⟩
end Go.Proofs.Wd
