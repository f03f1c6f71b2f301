/- One number in many forms: what they are read as; a fraction's own text. -/
import Derived.Test.YtoiihhkafcglhaaGreatDoorLr
namespace Go.Proofs.Fr
open Go.Proofs
set_option linter.unusedVariables false
/-- A text with a byte that stands in no fraction. -/
theorem bad_text {s : ByteArray} {c : UInt8} (h : c ∈ s.data.toList) (h45 : c ≠ 45) (h47 : c ≠ 47) (hd : ¬Tx.isDig c) :
    (Tx.plainB (upper s) = false ∨ (stroke (size s) < (size s).size ∧ Tx.plainB (lower s) = false)) ∧ getQ s = none := by
  have hno : ∀ t : ByteArray, c ∈ t.data.toList → Tx.plainB t = false := by
    intro t ht
    cases hp : Tx.plainB t with
    | false => rfl
    | true => exact absurd ((Tx.plainB_true.1 hp).1.2.2 c ht) hd
  rw [size_list s] at h
  have h1 : c ∈ (size s).data.toList := by
    rcases List.mem_append.1 h with h | h
    · split at h
      · exact absurd (List.mem_singleton.1 h) h45
      · exact (List.not_mem_nil h).elim
    · exact h
  rw [stroke_list (size s)] at h1
  rcases List.mem_append.1 h1 with h2 | h2
  · have := hno (upper s) h2
    exact ⟨.inl this, getQ_no (.inl this)⟩
  · split at h2
    · rename_i hk
      rcases List.mem_cons.1 h2 with e | h3
      · exact absurd e h47
      · have := hno (lower s) h3
        exact ⟨.inr ⟨hk, this⟩, getQ_no2 hk (.inl this)⟩
    · exact (List.not_mem_nil h2).elim
theorem dig_ne {c : UInt8} (h : Tx.isDig c) : c ≠ 45 ∧ c ≠ 43 ∧ c ≠ 46 ∧ c ≠ 47 := by
  unfold Tx.isDig at h
  refine ⟨?_, ?_, ?_, ?_⟩ <;> (rintro rfl; revert h; decide)
theorem dec_head (n : Nat) : ∃ c l, Lib.decDigits n = c :: l ∧ Tx.isDig c := by
  have h := Tx.numeral_dec n
  cases hd : Lib.decDigits n with
  | nil => exact absurd hd h.1
  | cons c l => exact ⟨c, l, rfl, h.2.2 c (by rw [hd]; simp)⟩
/-- A fraction's own text, if it is short, is that fraction. -/
theorem getQ_own {q : Rat} (hl : (textQ q).length ≤ 40) : getQ ⟨(textQ q).toArray⟩ = some q := by
  obtain ⟨s, hs⟩ : ∃ s : ByteArray, (⟨(textQ q).toArray⟩ : ByteArray) = s := ⟨_, rfl⟩
  have hsl : s.data.toList = textQ q := by rw [← hs]
  rw [hs]
  obtain ⟨c, l, hc, hcd⟩ := dec_head q.num.natAbs
  obtain ⟨U, hU⟩ : ∃ U, Lib.decDigits q.num.natAbs = U := ⟨_, rfl⟩
  obtain ⟨V, hV⟩ : ∃ V, Lib.decDigits q.den = V := ⟨_, rfl⟩
  have hUd : ∀ c ∈ U, Tx.isDig c := by rw [← hU]; exact Tx.dec_dig _
  have hUn : Tx.Numeral U := by rw [← hU]; exact Tx.numeral_dec _
  have hVn : Tx.Numeral V := by rw [← hV]; exact Tx.numeral_dec _
  have hUv : Tx.dv U = q.num.natAbs := by rw [← hU]; exact Tx.dv_dec _
  have hVv : Tx.dv V = q.den := by rw [← hV]; exact Tx.dv_dec _
  have htx : textQ q = (if q.num < 0 then [45] else []) ++ (U ++ if q.den = 1 then [] else 47 :: V) := by unfold textQ; rw [hU, hV]
  have hhead : s.data.toList.head? = some 45 ↔ q.num < 0 := by
    rw [hsl, htx]
    by_cases hn : q.num < 0
    · simp [hn]
    · rw [if_neg hn, List.nil_append, ← hU, hc]
      simp only [List.cons_append, List.head?_cons, Option.some.injEq]
      exact ⟨fun e => absurd e (dig_ne hcd).1, fun e => absurd e hn⟩
  have hm : minus s = decide (q.num < 0) := by
    unfold minus
    rw [Bool.eq_iff_iff, decide_eq_true_eq, decide_eq_true_eq]; exact hhead
  have hsz : (size s).data.toList = U ++ if q.den = 1 then [] else 47 :: V := by
    have h1 := size_list s
    by_cases hn : q.num < 0
    · rw [if_pos (hhead.2 hn), hsl, htx, if_pos hn] at h1
      exact (List.append_cancel_left h1).symm
    · rw [if_neg (fun e => hn (hhead.1 e)), List.nil_append, hsl, htx, if_neg hn, List.nil_append] at h1
      exact h1.symm
  have h47 : (47 : UInt8) ∉ U := fun h => (dig_ne (hUd _ h)).2.2.2 rfl
  have hst : stroke (size s) = U.length := by
    unfold stroke
    rw [hsz]
    split
    · rw [List.append_nil]; exact List.idxOf_eq_length h47
    · rw [List.idxOf_append, if_neg h47]; simp
  have hup : (upper s).data.toList = U := by
    unfold upper
    rw [hst, Tx.extract_list, List.drop_zero, hsz, List.take_left]
  have hle := hl
  rw [htx, List.length_append, List.length_append] at hle
  have hpu : Tx.plainB (upper s) = true := Tx.plainB_true.2 ⟨by rw [hup]; exact hUn, by rw [← Tx.length_list, hup]; omega⟩
  have hnu : Tx.num (upper s) = q.num.natAbs := by unfold Tx.num; rw [hup, hUv]
  have hz : ¬(minus s = true ∧ Tx.num (upper s) = 0) := by
    rw [hm, hnu, decide_eq_true_eq]
    omega
  by_cases h1 : q.den = 1
  · rw [if_pos h1, List.append_nil] at hsz
    have hk : ¬stroke (size s) < (size s).size := by rw [hst, ← Tx.length_list, hsz]; omega
    rw [getQ_whole hk hpu hz, hm, hnu, sgn_self]
    congr 1
    have := Rat.mkRat_self q
    rw [h1, Rat.mkRat_one] at this
    exact this
  · rw [if_neg h1] at hsz
    have hk : stroke (size s) < (size s).size := by rw [hst, ← Tx.length_list, hsz]; simp
    have hlo : (lower s).data.toList = V := by
      unfold lower
      rw [hst, Tx.extract_list, List.take_of_length_le (by rw [Tx.length_list]; omega), hsz, show U ++ 47 :: V = (U ++ [47]) ++ V by simp, show U.length + 1 = (U ++ [47]).length by simp, List.drop_left]
    rw [if_neg h1, List.length_cons] at hle
    have hpl : Tx.plainB (lower s) = true := Tx.plainB_true.2 ⟨by rw [hlo]; exact hVn, by rw [← Tx.length_list, hlo]; omega⟩
    have hnl : Tx.num (lower s) = q.den := by unfold Tx.num; rw [hlo, hVv]
    have hd := q.den_pos
    rw [getQ_two hk hpu hz hpl (by rw [hnu, hnl]; exact ⟨q.reduced, by omega⟩), hm, hnu, hnl, sgn_self, Rat.mkRat_self]
theorem text_int (e : Int) : textQ (e : Rat) = (if e < 0 then [45] else []) ++ Lib.decDigits e.natAbs := by
  unfold textQ
  by_cases h : e < 0 <;> simp [h]
theorem dec_len3 {n : Nat} (h : n ≤ 100) : (Lib.decDigits n).length ≤ 3 := by
  rw [Lib.decDigits_length]
  exact Tx.nDigits_le 3 n (by decide) (by omega)
theorem allDig_dec (n : Nat) : allDig (Lib.decDigits n) = true := allDig_iff.2 ⟨(Tx.numeral_dec n).1, (Tx.numeral_dec n).2.2⟩
theorem pow_text {e : Int} (h0 : -100 ≤ e) (h1 : e ≤ 100) : powOf (textQ (e : Rat)) = some e := by
  have hs : litSign (textQ (e : Rat)) = (decide (e < 0), Lib.decDigits e.natAbs) := by
    rw [text_int]
    unfold litSign
    by_cases hn : e < 0
    · simp [hn]
    · obtain ⟨c, l, hc, hcd⟩ := dec_head e.natAbs
      have h := dig_ne hcd
      rw [if_neg hn, List.nil_append, hc]
      simp [h.1, h.2.1, hn]
  unfold powOf
  rw [hs, if_pos ⟨dec_len3 (by omega), allDig_dec _, by rw [Tx.dv_dec]; omega⟩, Tx.dv_dec, sgn_self]
theorem findE_body {b r : List UInt8} {c : UInt8} (hb : ∀ c ∈ b, isE c = false) (hc : isE c = true) : (b ++ c :: r).findIdx isE = b.length := by
  rw [List.findIdx_append]
  have : b.findIdx isE = b.length := List.findIdx_eq_length.2 hb
  rw [this, if_neg (by omega), List.findIdx_cons, hc]; simp
theorem cut_body {b : List UInt8} {c : UInt8} {e : Int} (hb : ∀ c ∈ b, isE c = false) (hc : isE c = true) (h0 : -100 ≤ e) (h1 : e ≤ 100) : cutPow (b ++ c :: textQ (e : Rat)) = some (b, e) := by
  unfold cutPow
  rw [findE_body hb hc, if_pos (by simp), List.take_left, show b ++ c :: textQ (e : Rat) = (b ++ [c]) ++ textQ (e : Rat) by simp, show b.length + 1 = (b ++ [c]).length by simp, List.drop_left, pow_text h0 h1]
  rfl
theorem sign_body {neg : Bool} {b : List UInt8} (hb : b.head? ≠ some 45 ∧ b.head? ≠ some 43) : litSign ((if neg = true then [45] else []) ++ b) = (neg, b) := by
  cases neg
  · unfold litSign; simp [hb.1, hb.2]
  · unfold litSign; simp
/-- Digits with a point among them, and an exponent. -/
theorem form_point {neg : Bool} {D : List UInt8} {k : Nat} {c : UInt8} {e : Int} (hD : ∀ c ∈ D, Tx.isDig c) (h0 : D ≠ []) (hc : isE c = true) (e0 : -100 ≤ e) (e1 : e ≤ 100) :
    decQ ((if neg = true then [45] else []) ++ ((D.take k ++ 46 :: D.drop k) ++ c :: textQ (e : Rat))) = some (scaleQ (sgn neg (Tx.dv D)) (e - (D.length - k : Nat))) := by
  have hT : ∀ c ∈ D.take k, Tx.isDig c := fun c h => hD c (List.mem_of_mem_take h)
  have h46 : (46 : UInt8) ∉ D.take k := fun h => (dig_ne (hT _ h)).2.2.1 rfl
  have hhd : (D.take k ++ 46 :: D.drop k ++ c :: textQ (e : Rat)).head? ≠ some 45 ∧ (D.take k ++ 46 :: D.drop k ++ c :: textQ (e : Rat)).head? ≠ some 43 := by
    cases ht : D.take k with
    | nil => simp
    | cons x l =>
      have := dig_ne (hT x (by rw [ht]; simp))
      simp [this.1, this.2.1]
  have hnE : ∀ c ∈ D.take k ++ 46 :: D.drop k, isE c = false := by
    intro c h
    rcases List.mem_append.1 h with h | h
    · exact digB_noE (digB_iff.2 (hT c h))
    · rcases List.mem_cons.1 h with rfl | h
      · decide
      · exact digB_noE (digB_iff.2 (hD c (List.mem_of_mem_drop h)))
  have hw : wholeOf (D.take k ++ 46 :: D.drop k) = D.take k := by unfold wholeOf; rw [idx_at h46]; simp
  have hp : partOf (D.take k ++ 46 :: D.drop k) = D.drop k := by
    unfold partOf
    rw [idx_at h46, show D.take k ++ 46 :: D.drop k = (D.take k ++ [46]) ++ D.drop k by simp, show (D.take k).length + 1 = (D.take k ++ [46]).length by simp, List.drop_left]
  unfold decQ
  rw [sign_body hhd]
  show (match cutPow (D.take k ++ 46 :: D.drop k ++ c :: textQ (e : Rat)) with
    | none => none
    | some (b, e) => if allDig (wholeOf b ++ partOf b) = true then some (scaleQ (sgn neg (Tx.dv (wholeOf b ++ partOf b))) (e - (partOf b).length)) else none) = _
  rw [cut_body hnE hc e0 e1]
  show (if allDig (wholeOf (D.take k ++ 46 :: D.drop k) ++ partOf (D.take k ++ 46 :: D.drop k)) = true then _ else _) = _
  rw [hw, hp, List.take_append_drop, if_pos (allDig_iff.2 ⟨h0, hD⟩), List.length_drop]
/-- Digits and an exponent. -/
theorem form_whole {neg : Bool} {D : List UInt8} {c : UInt8} {e : Int} (hD : ∀ c ∈ D, Tx.isDig c) (h0 : D ≠ []) (hc : isE c = true) (e0 : -100 ≤ e) (e1 : e ≤ 100) :
    decQ ((if neg = true then [45] else []) ++ (D ++ c :: textQ (e : Rat))) = some (scaleQ (sgn neg (Tx.dv D)) e) := by
  have h46 : (46 : UInt8) ∉ D := fun h => (dig_ne (hD _ h)).2.2.1 rfl
  have hhd : (D ++ c :: textQ (e : Rat)).head? ≠ some 45 ∧ (D ++ c :: textQ (e : Rat)).head? ≠ some 43 := by
    cases D with
    | nil => exact absurd rfl h0
    | cons x l =>
      have := dig_ne (hD x (by simp))
      simp [this.1, this.2.1]
  have hi : D.idxOf 46 = D.length := List.idxOf_eq_length h46
  have hw : wholeOf D = D := by unfold wholeOf; rw [hi, List.take_length]
  have hp : partOf D = [] := by unfold partOf; rw [hi, List.drop_eq_nil_of_le (by omega)]
  unfold decQ
  rw [sign_body hhd]
  show (match cutPow (D ++ c :: textQ (e : Rat)) with
    | none => none
    | some (b, e) => if allDig (wholeOf b ++ partOf b) = true then some (scaleQ (sgn neg (Tx.dv (wholeOf b ++ partOf b))) (e - (partOf b).length)) else none) = _
  rw [cut_body (fun c h => digB_noE (digB_iff.2 (hD c h))) hc e0 e1]
  show (if allDig (wholeOf D ++ partOf D) = true then _ else _) = _
  rw [hw, hp, List.append_nil, if_pos (allDig_iff.2 ⟨h0, hD⟩)]
  simp
theorem text_ascii (q : Rat) : ∀ c ∈ textQ q, c.toNat < 128 := by
  intro c hc
  have hd : ∀ n, ∀ c ∈ Lib.decDigits n, c.toNat < 128 := fun n c h => by
    have := Tx.dec_dig n c h
    unfold Tx.isDig at this
    omega
  unfold textQ at hc
  rcases List.mem_append.1 hc with h | h
  · split at h
    · rw [List.mem_singleton.1 h]; decide
    · exact (List.not_mem_nil h).elim
  · rcases List.mem_append.1 h with h | h
    · exact hd _ c h
    · split at h
      · exact (List.not_mem_nil h).elim
      · rcases List.mem_cons.1 h with rfl | h
        · decide
        · exact hd _ c h
theorem sign_ascii {l : List UInt8} (h : ∀ c ∈ l, c.toNat < 128) : ∀ c ∈ (litSign l).2, c.toNat < 128 := by
  intro c hc
  unfold litSign at hc
  split at hc
  · exact h c (List.mem_of_mem_drop hc)
  · split at hc
    · exact h c (List.mem_of_mem_drop hc)
    · exact h c hc
end Go.Proofs.Fr
