/- Texts that are numbers, as a Bool; digits read from the left by groups, from the right by weights. -/
import Derived.Test.YtgcnpjnanlbmpaaGreatDoorTx
namespace Go.Proofs.Tx
open Go.Lib
set_option linter.unusedVariables false
open Classical in
/-- A text that is a number of at most two thousand digits. -/
noncomputable def plainB (s : ByteArray) : Bool := decide (Numeral s.data.toList ∧ s.size ≤ 2000)
theorem plainB_true {s : ByteArray} : plainB s = true ↔ Numeral s.data.toList ∧ s.size ≤ 2000 := by unfold plainB; simp
theorem plainB_false {s : ByteArray} (h : ¬ (Numeral s.data.toList ∧ s.size ≤ 2000)) : plainB s = false := by unfold plainB; simp [h]
/-- The number that a text shows. -/
def num (s : ByteArray) : Nat := dv s.data.toList
theorem get_list (s : ByteArray) {k : Nat} (h : k < s.size) : s.data.toList[k]'(by simpa using h) = s[k] := rfl
theorem take_snoc (s : ByteArray) (k : Nat) (h : k < s.size) : s.data.toList.take (k + 1) = s.data.toList.take k ++ [s[k]] := by
  rw [List.take_succ_eq_append_getElem (by simpa using h)]; rfl
theorem drop_cons (s : ByteArray) (k : Nat) (h : k < s.size) : s.data.toList.drop k = s[k] :: s.data.toList.drop (k + 1) := by
  rw [List.drop_eq_getElem_cons (by simpa using h)]; rfl
theorem length_list (s : ByteArray) : s.data.toList.length = s.size := rfl
theorem extract_list (s : ByteArray) (a b : Nat) : (s.extract a b).data.toList = (s.data.toList.take b).drop a := by
  simp [ByteArray.data_extract, List.drop_take, List.extract]
/-- Digits as integers. -/
theorem dv_take_int (s : ByteArray) (k : Nat) (h : k < s.size) (h1 : 48 ≤ (s[k].toNat : Int)) : (dv (s.data.toList.take (k + 1)) : Int) = (dv (s.data.toList.take k) : Int) * 10 + ((s[k].toNat : Int) - 48) := by
  rw [take_snoc s k h, dv_snoc]; omega
theorem dv_take_lt {s : ByteArray} (hs : ∀ c ∈ s.data.toList, isDig c) (k : Nat) : dv (s.data.toList.take k) < 10 ^ k := by
  have h := dv_lt (l := s.data.toList.take k) (fun c hc => hs c (List.mem_of_mem_take hc))
  have : 10 ^ (s.data.toList.take k).length ≤ 10 ^ k := Nat.pow_le_pow_right (by decide) (by rw [List.length_take]; omega)
  omega
theorem pow19 {k : Nat} (h : k ≤ 19) : 10 ^ k ≤ 10000000000000000000 := by
  have : 10 ^ k ≤ 10 ^ 19 := Nat.pow_le_pow_right (by decide) h
  simpa using this
theorem pow18 {k : Nat} (h : k < 19) : 10 ^ k ≤ 1000000000000000000 := by
  have : 10 ^ k ≤ 10 ^ 18 := Nat.pow_le_pow_right (by decide) (by omega)
  simpa using this
theorem dig_at {s : ByteArray} (hs : ∀ c ∈ s.data.toList, isDig c) {k : Nat} (h : k < s.size) : 48 ≤ (s[k].toNat : Int) ∧ (s[k].toNat : Int) ≤ 57 := by
  have := hs s[k] (by rw [← get_list s h]; exact List.getElem_mem _)
  unfold isDig at this
  omega
/-- A group more. -/
theorem dv_group (s : ByteArray) (a b : Nat) (hab : a ≤ b) (hb : b ≤ s.size) : dv (s.data.toList.take b) = dv (s.data.toList.take a) * 10 ^ (b - a) + num (s.extract a b) := by
  unfold num
  rw [extract_list]
  have e : s.data.toList.take b = s.data.toList.take a ++ (s.data.toList.take b).drop a := by
    conv => lhs; rw [← List.take_append_drop a (s.data.toList.take b)]
    rw [List.take_take, Nat.min_eq_left hab]
  rw [e, dv_append]
  congr 3
  rw [List.length_drop, List.length_take, length_list]; omega
/-- A digit more at the left. -/
theorem dv_left (s : ByteArray) (k : Nat) (h : k < s.size) : dv (s.data.toList.drop k) = (s[k].toNat - 48) * 10 ^ (s.size - (k + 1)) + dv (s.data.toList.drop (k + 1)) := by
  rw [drop_cons s k h, dv_cons, List.length_drop, length_list]
theorem numeral_of {s : ByteArray} (h0 : 0 < s.size) (h1 : s.size = 1 ∨ (s[0].toNat : Int) ≠ 48) (h2 : ∀ j (h : j < s.size), 48 ≤ (s[j].toNat : Int) ∧ (s[j].toNat : Int) ≤ 57) : Numeral s.data.toList := by
  refine ⟨fun e => ?_, ?_, fun c hc => ?_⟩
  · have := length_list s; rw [e] at this; simp at this; omega
  · rcases h1 with h1 | h1
    · exact .inl h1
    · refine .inr fun e => h1 ?_
      have : s.data.toList.head? = some s[0] := by
        rw [List.head?_eq_getElem?, List.getElem?_eq_getElem (by simpa using h0)]; rfl
      rw [this] at e
      simp only [Option.some.injEq] at e
      rw [e]; rfl
  · obtain ⟨j, hj, rfl⟩ := List.mem_iff_getElem.1 hc
    have := h2 j (by simpa using hj)
    rw [get_list s (by simpa using hj)]
    unfold isDig; omega
theorem not_numeral_bad {s : ByteArray} {j : Nat} (h : j < s.size) (hb : (s[j].toNat : Int) < 48 ∨ 57 < (s[j].toNat : Int)) : plainB s = false := by
  refine plainB_false fun ⟨⟨_, _, hd⟩, _⟩ => ?_
  have := dig_at hd h
  omega
theorem not_numeral_nought {s : ByteArray} (h : 1 < s.size) (hb : (s[0].toNat : Int) = 48) : plainB s = false := by
  refine plainB_false fun ⟨⟨_, h1, _⟩, _⟩ => ?_
  rcases h1 with h1 | h1
  · rw [length_list] at h1; omega
  · refine h1 ?_
    rw [List.head?_eq_getElem?, List.getElem?_eq_getElem (by rw [length_list]; omega), get_list s (by omega), ← UInt8.ofNat_toNat (x := s[0]), show s[0].toNat = 48 by omega]
    rfl
theorem not_numeral_size {s : ByteArray} (h : s.size = 0 ∨ 2000 < s.size) : plainB s = false := by
  refine plainB_false fun ⟨⟨h0, _, _⟩, h2⟩ => ?_
  rcases h with h | h
  · exact h0 (List.length_eq_zero_iff.1 (by rw [length_list]; exact h))
  · omega
theorem plainB_digs {s : ByteArray} (h : plainB s = true) : 0 < s.size ∧ s.size ≤ 2000 ∧ (∀ c ∈ s.data.toList, isDig c) := by
  obtain ⟨⟨h0, _, h2⟩, h3⟩ := plainB_true.1 h
  refine ⟨?_, h3, h2⟩
  have : s.data.toList.length ≠ 0 := fun e => h0 (List.length_eq_zero_iff.1 e)
  rw [length_list] at this; omega
theorem plainB_text {s : ByteArray} (h : plainB s = true) : decDigits (num s) = s.data.toList := dec_dv (plainB_true.1 h).1
theorem digs_cut {s : ByteArray} (h : ∀ c ∈ s.data.toList, isDig c) (a b : Nat) : ∀ c ∈ (s.extract a b).data.toList, isDig c := by
  rw [extract_list]
  exact fun c hc => h c (List.mem_of_mem_take (List.mem_of_mem_drop hc))
end Go.Proofs.Tx
