/- Decimals by groups of nineteen digits: the numeral of a number out of those of its groups. Texts that are numbers, as a Bool; digits read from the left by groups, from the right by weights. -/
import Derived.Lib.ItoaNum
import Derived.Lib.Repeat
set_option linter.unusedVariables false
namespace Go.Proofs.Tx
open Go.Lib
/-- Just k digits of u, the first ahead. -/
def pad:Nat → Nat → List UInt8
 | 0,_=>[]
 | k + 1,u=>pad k (u / 10) ++ [UInt8.ofNat (48 + u % 10)]
theorem pad_dec (k g:Nat) (hk:1 ≤ k) (hg:g < 10 ^ k):pad k g = List.replicate (k - nDigits g) 48 ++ decDigits g:=by
 induction k generalizing g with
 | zero=>omega
 | succ k ih =>
   rw [Nat.pow_succ] at hg
   by_cases h:g < 10
   ·rw [nDigits_small h,decDigits_one h,pad,Nat.mod_eq_of_lt h,Nat.div_eq_of_lt h]
    congr 1
    have:∀ k,pad k 0 = List.replicate k 48:=by
     intro k
     induction k with
     | zero=>rfl
     | succ k ih=>rw [pad,Nat.zero_div,ih,List.replicate_succ']; rfl
    rw [this]; simp
   ·have hk0 : 1 ≤ k := by
     cases k with
     | zero=>simp at hg; omega
     | succ k=>omega
    rw [nDigits_big h,pad,ih (g / 10) hk0 (by omega),List.append_assoc]
    have e:decDigits g = decDigits (g / 10) ++ [UInt8.ofNat (48 + g % 10)]:=by
     conv=>lhs; rw [decDigits,dif_neg h]
    rw [e,show k + 1 - (nDigits (g / 10) + 1) = k - nDigits (g / 10) by omega]
theorem nDigits_le (k g:Nat) (hk:1 ≤ k) (hg:g < 10 ^ k):nDigits g ≤ k:=by
 induction k generalizing g with
 | zero=>omega
 | succ k ih =>
   by_cases h:g < 10
   ·rw [nDigits_small h]; omega
   ·rw [Nat.pow_succ] at hg
    have hk0:1 ≤ k:=by
     cases k with
     | zero=>simp at hg; omega
     | succ k=>omega
    rw [nDigits_big h]
    have:=ih (g / 10) hk0 (by omega)
    omega
/-- A byte is a digit. -/
def isDig (c:UInt8):Prop:=48 ≤ c.toNat ∧ c.toNat ≤ 57
/-- The number that digits show, the first ahead. -/
def dv (l:List UInt8):Nat:=l.foldl (fun a c=>a * 10 + (c.toNat - 48)) 0
theorem foldl_dv (l:List UInt8) (a:Nat):l.foldl (fun a c=>a * 10 + (c.toNat - 48)) a = a * 10 ^ l.length + dv l:=by
 unfold dv
 induction l generalizing a with
 | nil=>simp
 | cons c l ih =>
   rw [List.foldl_cons,List.foldl_cons,ih,ih (0 * 10 + (c.toNat - 48)),List.length_cons,Nat.pow_succ,Nat.add_mul,Nat.zero_mul,Nat.zero_add,Nat.mul_assoc,Nat.mul_comm 10,Nat.add_assoc]
@[simp] theorem dv_nil:dv [] = 0:=rfl
theorem dv_snoc (l:List UInt8) (c:UInt8):dv (l ++ [c]) = dv l * 10 + (c.toNat - 48):=by
 unfold dv; rw [List.foldl_append]; rfl
theorem dv_cons (l:List UInt8) (c:UInt8):dv (c :: l) = (c.toNat - 48) * 10 ^ l.length + dv l:=by
 have:=foldl_dv l (0 * 10 + (c.toNat - 48))
 rw [Nat.zero_mul,Nat.zero_add] at this
 rw [← this]; unfold dv; rw [List.foldl_cons,Nat.zero_mul,Nat.zero_add]
theorem dv_append (l m:List UInt8):dv (l ++ m) = dv l * 10 ^ m.length + dv m:=by
 unfold dv; rw [List.foldl_append]; exact foldl_dv m _
theorem dv_lt {l:List UInt8} (h:∀ c ∈ l,isDig c):dv l < 10 ^ l.length:=by
 induction l with
 | nil=>simp
 | cons c l ih =>
   have h1:=ih (fun c hc=>h c (List.mem_cons_of_mem _ hc))
   have h2:=h c (by simp)
   unfold isDig at h2
   rw [dv_cons,List.length_cons,Nat.pow_succ]
   have:(c.toNat - 48) * 10 ^ l.length ≤ 9 * 10 ^ l.length:=Nat.mul_le_mul_right _ (by omega)
   omega
theorem ofDig {c:UInt8} (h:isDig c):UInt8.ofNat (48 + (c.toNat - 48)) = c:=by
 unfold isDig at h
 rw [show 48 + (c.toNat - 48) = c.toNat by omega]
 simp
/-- A text of a number, as it is written: digits, no nought ahead but of nought itself. -/
def Numeral (l:List UInt8):Prop:=l ≠ [] ∧ (l.length = 1 ∨ l.head? ≠ some 48) ∧ ∀ c ∈ l,isDig c
theorem dv_pos {l:List UInt8} (h0:l ≠ []) (h1:l.head? ≠ some 48) (h2:∀ c ∈ l,isDig c):1 ≤ dv l:=by
 cases l with
 | nil=>exact absurd rfl h0
 | cons c l =>
   have h3:=h2 c (by simp)
   unfold isDig at h3
   have h4:c.toNat ≠ 48:=fun e=>h1 (by rw [List.head?_cons,← UInt8.ofNat_toNat (x:=c),e]; rfl)
   rw [dv_cons]
   have:1 * 10 ^ l.length ≤ (c.toNat - 48) * 10 ^ l.length:=Nat.mul_le_mul_right _ (by omega)
   have hp:1 ≤ 10 ^ l.length:=Nat.one_le_pow _ _ (by decide)
   omega
theorem dec_dv_pos (n:Nat) (l:List UInt8) (hn:l.length = n) (h0:l ≠ []) (h1:l.head? ≠ some 48) (h2:∀ c ∈ l,isDig c):decDigits (dv l) = l:=by
 induction n generalizing l with
 | zero=>exact absurd (List.length_eq_zero_iff.1 hn) h0
 | succ n ih =>
   obtain ⟨m,c,rfl⟩:∃ m c,l = m ++ [c]:=⟨l.dropLast,l.getLast h0,(List.dropLast_concat_getLast h0).symm⟩
   have hc:=h2 c (by simp)
   rw [dv_snoc]
   by_cases hm:m = []
   ·subst hm
    unfold isDig at hc
    rw [dv_nil,Nat.zero_mul,Nat.zero_add,decDigits_one (by omega),ofDig (by unfold isDig; omega)]
    rfl
   ·have g1 : m.head? ≠ some 48 := by
     cases m with
     | nil=>exact absurd rfl hm
     | cons a m=>simpa using h1
    have g2:∀ c ∈ m,isDig c:=fun c hc=>h2 c (by simp [hc])
    have hp:=dv_pos hm g1 g2
    unfold isDig at hc
    rw [decDigits,dif_neg (by omega),show (dv m * 10 + (c.toNat - 48)) / 10 = dv m by omega,show (dv m * 10 + (c.toNat - 48)) % 10 = c.toNat - 48 by omega,
     ih m (by simpa using hn) hm g1 g2,ofDig (by unfold isDig; omega)]
theorem dec_dv {l:List UInt8} (h:Numeral l):decDigits (dv l) = l:=by
 obtain ⟨h0,h1,h2⟩:=h
 by_cases g:l.head? = some 48
 ·have hl:=h1.resolve_right (by simp [g])
  cases l with
  | nil=>exact absurd rfl h0
  | cons c l =>
    have:l = []:=by simpa using hl
    subst this
    simp only [List.head?_cons,Option.some.injEq] at g
    subst g
    rw [dv_cons]
    simp [decDigits_one]
 ·exact dec_dv_pos _ l rfl h0 g h2
theorem toNat_digit {k:Nat} (h:k < 10):(UInt8.ofNat (48 + k)).toNat = 48 + k:=by
 simp; omega
theorem dec_dig (n:Nat):∀ c ∈ decDigits n,isDig c:=by
 induction n using Nat.strongRecOn with
 | _ n ih =>
   by_cases h:n < 10
   ·rw [decDigits_one h]
    intro c hc
    rw [List.mem_singleton.1 hc]
    unfold isDig
    rw [toNat_digit h]
    omega
   ·rw [decDigits,dif_neg h]
    intro c hc
    rcases List.mem_append.1 hc with hc | hc
    ·exact ih (n / 10) (by omega) c hc
    ·rw [List.mem_singleton.1 hc]
     unfold isDig
     rw [toNat_digit (Nat.mod_lt _ (by decide))]
     omega
theorem dec_ne (n:Nat):decDigits n ≠ []:=fun h=>by
 have h1:=decDigits_length n
 have h2:=nDigits_pos n
 rw [h] at h1
 simp at h1
 omega
theorem dec_head (n:Nat) (h:1 ≤ n):(decDigits n).head? ≠ some 48:=by
 induction n using Nat.strongRecOn with
 | _ n ih =>
   by_cases h9:n < 10
   ·rw [decDigits_one h9,List.head?_cons]
    intro e
    have:=congrArg (fun o:Option UInt8=>(o.getD 0).toNat) e
    simp at this
    omega
   ·rw [decDigits,dif_neg h9]
    have:=ih (n / 10) (by omega) (by omega)
    cases hd:decDigits (n / 10) with
    | nil=>exact absurd hd (dec_ne _)
    | cons a l=>rw [hd] at this; simpa using this
theorem numeral_dec (n:Nat):Numeral (decDigits n):=by
 refine ⟨dec_ne n,?_,dec_dig n⟩
 by_cases h:n < 10
 ·exact .inl (by rw [decDigits_length,nDigits_small h])
 ·exact .inr (dec_head n (by omega))
end Go.Proofs.Tx
namespace Go.Proofs.Tx
open Go.Lib
open Classical in
/-- A text that is a number of at most two thousand digits. -/
noncomputable def plainB (s:ByteArray):Bool:=decide (Numeral s.data.toList ∧ s.size ≤ 2000)
theorem plainB_true {s:ByteArray}:plainB s = true ↔ Numeral s.data.toList ∧ s.size ≤ 2000:=by unfold plainB; simp
theorem plainB_false {s:ByteArray} (h:¬ (Numeral s.data.toList ∧ s.size ≤ 2000)):plainB s = false:=by unfold plainB; simp [h]
/-- The number that a text shows. -/
def num (s:ByteArray):Nat:=dv s.data.toList
theorem get_list (s:ByteArray) {k:Nat} (h:k < s.size):s.data.toList[k]'(by simpa using h) = s[k]:=rfl
theorem take_snoc (s:ByteArray) (k:Nat) (h:k < s.size):s.data.toList.take (k + 1) = s.data.toList.take k ++ [s[k]]:=by
 rw [List.take_succ_eq_append_getElem (by simpa using h)]; rfl
theorem drop_cons (s:ByteArray) (k:Nat) (h:k < s.size):s.data.toList.drop k = s[k] :: s.data.toList.drop (k + 1):=by
 rw [List.drop_eq_getElem_cons (by simpa using h)]; rfl
theorem length_list (s:ByteArray):s.data.toList.length = s.size:=rfl
theorem extract_list (s:ByteArray) (a b:Nat):(s.extract a b).data.toList = (s.data.toList.take b).drop a:=by
 simp [ByteArray.data_extract,List.drop_take,List.extract]
/-- Digits as integers. -/
theorem dv_take_int (s:ByteArray) (k:Nat) (h:k < s.size) (h1:48 ≤ (s[k].toNat:Int)):(dv (s.data.toList.take (k + 1)):Int) = (dv (s.data.toList.take k):Int) * 10 + ((s[k].toNat:Int) - 48):=by
 rw [take_snoc s k h,dv_snoc]; omega
theorem dv_take_lt {s:ByteArray} (hs:∀ c ∈ s.data.toList,isDig c) (k:Nat):dv (s.data.toList.take k) < 10 ^ k:=by
 have h:=dv_lt (l:=s.data.toList.take k) (fun c hc=>hs c (List.mem_of_mem_take hc))
 have:10 ^ (s.data.toList.take k).length ≤ 10 ^ k:=Nat.pow_le_pow_right (by decide) (by rw [List.length_take]; omega)
 omega
theorem pow18 {k:Nat} (h:k < 19):10 ^ k ≤ 1000000000000000000:=by
 have:10 ^ k ≤ 10 ^ 18:=Nat.pow_le_pow_right (by decide) (by omega)
 simpa using this
theorem dig_at {s:ByteArray} (hs:∀ c ∈ s.data.toList,isDig c) {k:Nat} (h:k < s.size):48 ≤ (s[k].toNat:Int) ∧ (s[k].toNat:Int) ≤ 57:=by
 have:=hs s[k] (by rw [← get_list s h]; exact List.getElem_mem _)
 unfold isDig at this
 omega
/-- A group more. -/
theorem dv_group (s:ByteArray) (a b:Nat) (hab:a ≤ b) (hb:b ≤ s.size):dv (s.data.toList.take b) = dv (s.data.toList.take a) * 10 ^ (b - a) + num (s.extract a b):=by
 unfold num
 rw [extract_list]
 have e:s.data.toList.take b = s.data.toList.take a ++ (s.data.toList.take b).drop a:=by
  conv=>lhs; rw [← List.take_append_drop a (s.data.toList.take b)]
  rw [List.take_take,Nat.min_eq_left hab]
 rw [e,dv_append]
 congr 3
 rw [List.length_drop,List.length_take,length_list]; omega
/-- A digit more at the left. -/
theorem dv_left (s:ByteArray) (k:Nat) (h:k < s.size):dv (s.data.toList.drop k) = (s[k].toNat - 48) * 10 ^ (s.size - (k + 1)) + dv (s.data.toList.drop (k + 1)):=by
 rw [drop_cons s k h,dv_cons,List.length_drop,length_list]
theorem numeral_of {s:ByteArray} (h0:0 < s.size) (h1:s.size = 1 ∨ (s[0].toNat:Int) ≠ 48) (h2:∀ j (h:j < s.size),48 ≤ (s[j].toNat:Int) ∧ (s[j].toNat:Int) ≤ 57):Numeral s.data.toList:=by
 refine ⟨fun e=>?_,?_,fun c hc=>?_⟩
 ·have:=length_list s; rw [e] at this; simp at this; omega
 ·rcases h1 with h1 | h1
  ·exact .inl h1
  ·refine .inr fun e=>h1 ?_
   have:s.data.toList.head? = some s[0]:=by
    rw [List.head?_eq_getElem?,List.getElem?_eq_getElem (by simpa using h0)]; rfl
   rw [this] at e
   simp only [Option.some.injEq] at e
   rw [e]; rfl
 ·obtain ⟨j,hj,rfl⟩:=List.mem_iff_getElem.1 hc
  have:=h2 j (by simpa using hj)
  rw [get_list s (by simpa using hj)]
  unfold isDig; omega
theorem not_numeral_bad {s:ByteArray} {j:Nat} (h:j < s.size) (hb:(s[j].toNat:Int) < 48 ∨ 57 < (s[j].toNat:Int)):plainB s = false:=by
 refine plainB_false fun ⟨⟨_,_,hd⟩,_⟩=>?_
 have:=dig_at hd h
 omega
theorem not_numeral_nought {s:ByteArray} (h:1 < s.size) (hb:(s[0].toNat:Int) = 48):plainB s = false:=by
 refine plainB_false fun ⟨⟨_,h1,_⟩,_⟩=>?_
 rcases h1 with h1 | h1
 ·rw [length_list] at h1; omega
 ·refine h1 ?_
  rw [List.head?_eq_getElem?,List.getElem?_eq_getElem (by rw [length_list]; omega),get_list s (by omega),← UInt8.ofNat_toNat (x:=s[0]),show s[0].toNat = 48 by omega]
  rfl
theorem not_numeral_size {s:ByteArray} (h:s.size = 0 ∨ 2000 < s.size):plainB s = false:=by
 refine plainB_false fun ⟨⟨h0,_,_⟩,h2⟩=>?_
 rcases h with h | h
 ·exact h0 (List.length_eq_zero_iff.1 (by rw [length_list]; exact h))
 ·omega
theorem plainB_digs {s:ByteArray} (h:plainB s = true):0 < s.size ∧ s.size ≤ 2000 ∧ (∀ c ∈ s.data.toList,isDig c):=by
 obtain ⟨⟨h0,_,h2⟩,h3⟩:=plainB_true.1 h
 refine ⟨?_,h3,h2⟩
 have:s.data.toList.length ≠ 0:=fun e=>h0 (List.length_eq_zero_iff.1 e)
 rw [length_list] at this; omega
theorem plainB_text {s:ByteArray} (h:plainB s = true):decDigits (num s) = s.data.toList:=dec_dv (plainB_true.1 h).1
theorem digs_cut {s:ByteArray} (h:∀ c ∈ s.data.toList,isDig c) (a b:Nat):∀ c ∈ (s.extract a b).data.toList,isDig c:=by
 rw [extract_list]
 exact fun c hc=>h c (List.mem_of_mem_take (List.mem_of_mem_drop hc))
end Go.Proofs.Tx
