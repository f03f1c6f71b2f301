/- What Digits of the statements returns: a text that is a number. -/
import Derived.Test.YtoiihhkafcglhaaGreatDoorWe
import Derived.Test.YtoiihhkafcglhaaGreatDoorGm
namespace Go.Proofs.Wd
open Go.RowKit
set_option linter.unusedVariables false
/-- Digits, none of them a nought ahead, at most n. -/
def DigT (t : ByteArray) (n : Int) : Prop := (∀ c ∈ t.data.toList, Tx.isDig c) ∧ t.data.toList.head? ≠ some 48 ∧ (t.size : Int) ≤ n
theorem one_cut (s : ByteArray) (k : Nat) (h : k < s.size) : (s.extract k (k + 1)).data.toList = [s[k]] := by
  rw [Tx.extract_list, Tx.take_snoc s k h, List.drop_append_of_le_length (by rw [List.length_take, Tx.length_list]; omega), List.drop_eq_nil_of_le (by rw [List.length_take]; omega)]
  rfl
theorem DigT.more {t s : ByteArray} {n : Int} {k : Nat} (h : DigT t n) (hk : k < s.size) (hn : (t.size : Int) < n) (c0 : 48 ≤ (s[k].toNat : Int)) (c1 : (s[k].toNat : Int) ≤ 57) (h0 : t.size ≠ 0 ∨ (s[k].toNat : Int) ≠ 48) : DigT (t ++ s.extract k (k + 1)) n := by
  have e : (t ++ s.extract k (k + 1)).data.toList = t.data.toList ++ [s[k]] := by
    rw [ByteArray.data_append, Array.toList_append, one_cut s k hk]
  obtain ⟨h1, h2, h3⟩ := h
  refine ⟨?_, ?_, ?_⟩
  · rw [e]
    intro c hc
    rcases List.mem_append.1 hc with hc | hc
    · exact h1 c hc
    · rw [List.mem_singleton.1 hc]; unfold Tx.isDig; omega
  · rw [e]
    cases ht : t.data.toList with
    | nil =>
      have hz : t.size = 0 := by rw [← Tx.length_list, ht]; rfl
      have := h0.resolve_left (by omega)
      intro e2
      simp only [List.nil_append, List.head?_cons, Option.some.injEq] at e2
      rw [e2] at this
      exact this rfl
    | cons a l => rw [ht] at h2; simpa using h2
  · have : (t ++ s.extract k (k + 1)).size = t.size + 1 := by
      rw [← Tx.length_list, e, List.length_append, Tx.length_list]; rfl
    omega
theorem DigT.numeral {t : ByteArray} {n : Int} (h : DigT t n) (h0 : t.size ≠ 0) : Tx.Numeral t.data.toList := by
  refine ⟨fun e => h0 ?_, .inr h.2.1, h.1⟩
  rw [← Tx.length_list, e]; rfl
theorem DigT.start {n : Int} (h : 1 ≤ n) : DigT ⟨#[]⟩ n := ⟨fun c hc => by simp at hc, by simp, by show ((0 : Nat) : Int) ≤ n; omega⟩
theorem nought_numeral : Tx.Numeral (⟨#[48]⟩ : ByteArray).data.toList := by
  refine ⟨by simp, .inl rfl, fun c hc => ?_⟩
  simp at hc; subst hc; unfold Tx.isDig; decide
/-- What Digits tells. -/
def DigitsIs (n : Int) (e : Ending) : Prop := ∃ t, e = .returned (.string t) ∧ Tx.Numeral t.data.toList ∧ (t.size : Int) ≤ n
set_option maxHeartbeats 4000000 in
set_option maxRecDepth 100000 in
theorem Tryz.Digits (s : ByteArray) (n : Int) (w : World) (hmax : s.size ≤ 9223372036854775807) (n0 : 1 ≤ n) (n1 : n ≤ 1000000) :
    Calls Tryz.prog 7 #[.string s, .int .i64 n] w fun e w' => DigitsIs n e ∧ w' = w := by
  obtain ⟨l, hl⟩ : ∃ l, s.size = l := ⟨_, rfl⟩
  have HL : Hid (s.size = l) := hl
  rw [hl] at hmax
  go_enter Tryz.func7, Tryz.ntmps7
  go_wp2
  go_loop [5, 6] (fun t i => ∃ (b : ByteArray) (k : Nat), t = .string b ∧ i = .int .i64 k ∧ k ≤ l ∧ DigT b n) (fun _ i => l - (intOf i).toNat)
  case atStart => exact ⟨_, 0, rfl, rfl, by omega, DigT.start n0⟩
  case round =>
    obtain ⟨b, k, rfl, rfl, hk, hb⟩ := hrel
    have HB : Hid (DigT b n) := hb
    have hbn := hb.2.2
    clear hb
    by_cases h0 : b.size = 0
    · obtain rfl := empty_of_size h0
      clear h0 hbn
      by_cases hkl : k = l
      · subst hkl
        go_wp2
        go_ret
        exact ⟨⟨_, rfl, nought_numeral, by show ((1 : Nat) : Int) ≤ n; omega⟩, rfl⟩
      · have hks : k < s.size := by have := HL.out; omega
        have HM : Hid (48 ≤ (s[k].toNat : Int) → (s[k].toNat : Int) ≤ 57 → ((s[k].toNat : Int) != 48) = true → DigT (⟨#[]⟩ ++ s.extract k (k + 1)) n) := fun c0 c1 c2 => HB.out.more hks (by show ((0 : Nat) : Int) < n; omega) c0 c1 (.inr (by simpa using c2))
        go_wp2
        all_goals first
          | exact ⟨⟨_, k + 1, rfl, by simp, by omega, HM.out (by assumption) (by assumption) (by assumption)⟩, by simp [intOf]; omega⟩
          | exact ⟨⟨_, k + 1, rfl, by simp, by omega, HB.out⟩, by simp [intOf]; omega⟩
    · have hE := list_empty (s := b) (by omega)
      have HR : Hid (DigitsIs n (.returned (.string b))) := ⟨b, rfl, HB.out.numeral h0, hbn⟩
      by_cases hkl : k = l
      · subst hkl
        go_wp2
        go_ret
        exact ⟨HR.out, rfl⟩
      · have hks : k < s.size := by have := HL.out; omega
        by_cases hbl : (b.size : Int) < n
        · have HM : Hid (48 ≤ (s[k].toNat : Int) → (s[k].toNat : Int) ≤ 57 → DigT (b ++ s.extract k (k + 1)) n) := fun c0 c1 => HB.out.more hks hbl c0 c1 (.inl h0)
          go_wp2
          all_goals first
            | exact ⟨⟨_, k + 1, rfl, by simp, by omega, HM.out (by assumption) (by assumption)⟩, by simp [intOf]; omega⟩
            | exact ⟨⟨_, k + 1, rfl, by simp, by omega, HB.out⟩, by simp [intOf]; omega⟩
        · go_wp2
          go_ret
          exact ⟨HR.out, rfl⟩
end Go.Proofs.Wd
