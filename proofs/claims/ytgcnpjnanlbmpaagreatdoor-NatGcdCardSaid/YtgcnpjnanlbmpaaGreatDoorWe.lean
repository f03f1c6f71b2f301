/- What plain and group of the package nat return: whether a text is a number, and the number that a group of digits shows. -/
import Derived.Test.YtgcnpjnanlbmpaaGreatDoorWd7
import Derived.Test.YtgcnpjnanlbmpaaGreatDoorTx2
namespace Go.Proofs.Wd
open Go.RowKit
set_option linter.unusedVariables false
theorem empty_of_size {s : ByteArray} (h : s.size = 0) : s = ⟨#[]⟩ := by
  obtain ⟨⟨l⟩⟩ := s
  cases l with
  | nil => rfl
  | cons a l => simp [ByteArray.size] at h
theorem list_empty {s : ByteArray} (h : 0 < s.size) : s.toList.isEmpty = false := by
  cases h' : s.toList with
  | nil =>
    rw [ByteArray.toList_eq] at h'
    have h2 : s.size = s.data.toList.length := Go.Lib.size_eq s
    rw [h'] at h2
    rw [List.length_nil] at h2; omega
  | cons => rfl
theorem nought_alone {s : ByteArray} (h : s.size = 1) (h0 : ∀ h : 0 < s.size, (s[0].toNat : Int) = 48) : s.toList = [48] := by
  rw [ByteArray.toList_eq]
  have h2 : s.data.toList.length = 1 := h
  have h3 := h0 (by omega)
  obtain ⟨⟨l⟩⟩ := s
  cases l with
  | nil => simp at h2
  | cons a l =>
    cases l with
    | cons b l => simp at h2
    | nil =>
      have e : a.toNat = 48 := by
        have : (a.toNat : Int) = 48 := h3
        omega
      rw [show a = 48 from by rw [← UInt8.ofNat_toNat (x := a), e]; rfl]
theorem alone_size {s : ByteArray} (h : (!s.toList == [48]) = false) : s.size = 1 := by
  have h1 : s.toList = [48] := by simpa using h
  have h2 : s.size = s.data.toList.length := Go.Lib.size_eq s
  rw [ByteArray.toList_eq] at h1
  rw [h2, h1]; rfl
theorem two_size {s : ByteArray} (h : (!s.toList == [48]) = true) (h0 : ∀ h : 0 < s.size, (s[0].toNat : Int) = 48) : s.size ≠ 1 := fun e => by
  rw [nought_alone e h0] at h
  simp at h
set_option maxHeartbeats 2000000 in
set_option maxRecDepth 100000 in
theorem Tryz.groupX (s : ByteArray) (w : World) (hs : s.size ≤ 19) (hd : ∀ c ∈ s.data.toList, Tx.isDig c) :
    Calls Tryz.prog 52 #[.string s] w fun e w' => e = .returned (.int .u64 (Tx.num s : Int)) ∧ w' = w := by
  have HD : Hid (∀ c ∈ s.data.toList, Tx.isDig c) := hd
  clear hd
  obtain ⟨n, hn⟩ : ∃ n, s.size = n := ⟨_, rfl⟩
  rw [hn] at hs
  go_enter Tryz.func52, Tryz.ntmps52
  go_wp2
  go_loop [3, 7] (fun x i => ∃ (a : Int) (k : Nat), x = .int .u64 a ∧ i = .int .i64 k ∧ a = (Tx.dv (s.data.toList.take k) : Int) ∧ k ≤ n) (fun x i => n - (intOf i).toNat)
  case atStart => exact ⟨0, 0, rfl, rfl, by simp, by omega⟩
  case round =>
    obtain ⟨a, k, rfl, rfl, ha, hk⟩ := hrel
    have HA : Hid (a = (Tx.dv (s.data.toList.take k) : Int)) := ha
    have hlt := Tx.dv_take_lt HD.out k
    have a0 : 0 ≤ a := by omega
    by_cases hkn : k = n
    · subst hkn
      clear ha hlt
      have HE : Hid (a = (Tx.num s : Int)) := by
        have h := HA.out
        rw [List.take_of_length_le (by rw [Tx.length_list]; omega)] at h
        exact h
      go_wp2
      go_ret
      exact ⟨by rw [HE.out]; rfl, rfl⟩
    · have hks : k < s.size := by omega
      have hb := Tx.dig_at HD.out hks
      have hp := Tx.pow18 (k := k) (by omega)
      have a1 : a ≤ 1000000000000000000 := by omega
      have HS : Hid ((Tx.dv (s.data.toList.take (k + 1)) : Int) = a * 10 + ((s[k].toNat : Int) - 48)) := by
        rw [HA.out]; exact Tx.dv_take_int s k hks hb.1
      clear ha hlt hp
      go_wp2
      exact ⟨⟨_, k + 1, rfl, by simp, by have := HS.out; omega, by omega⟩, by simp [intOf]; omega⟩
/-- The first k places are digits. -/
def DigsTo (s : ByteArray) (k : Nat) : Prop := ∀ j (h : j < s.size), j < k → 48 ≤ (s[j].toNat : Int) ∧ (s[j].toNat : Int) ≤ 57
set_option maxHeartbeats 4000000 in
set_option maxRecDepth 100000 in
theorem Tryz.plainX (s : ByteArray) (w : World) (hmax : s.size ≤ 9223372036854775807) :
    Calls Tryz.prog 50 #[.string s] w fun e w' => e = .returned (.bool (Tx.plainB s)) ∧ w' = w := by
  by_cases h0 : s.size = 0
  · have HF : Hid (Tx.plainB s = false) := Tx.not_numeral_size (.inl h0)
    obtain rfl := empty_of_size h0
    clear h0
    go_enter Tryz.func50, Tryz.ntmps50
    go_wp2
    go_ret
    exact ⟨by rw [HF.out]; rfl, rfl⟩
  · have hP : 0 < s.size := by omega
    have hE := list_empty hP
    by_cases h1 : 2000 < s.size
    · have HF : Hid (Tx.plainB s = false) := Tx.not_numeral_size (.inr h1)
      go_enter Tryz.func50, Tryz.ntmps50
      go_wp2
      go_ret
      exact ⟨by rw [HF.out]; rfl, rfl⟩
    · have HF : Hid ((!s.toList == [48]) = true → (s[0].toNat : Int) = 48 → Tx.plainB s = false) := fun h g => Tx.not_numeral_nought (by have := two_size h (fun _ => g); omega) g
      have HT : Hid ((s.size = 1 ∨ (s[0].toNat : Int) ≠ 48) → (∀ j (h : j < s.size), 48 ≤ (s[j].toNat : Int) ∧ (s[j].toNat : Int) ≤ 57) → Tx.plainB s = true) := fun h g => Tx.plainB_true.2 ⟨Tx.numeral_of hP h g, by omega⟩
      have HNB : Hid (∀ k, ∀ h : k < s.size, (s[k].toNat : Int) < 48 ∨ 57 < (s[k].toNat : Int) → Tx.plainB s = false) := fun k h g => Tx.not_numeral_bad h g
      obtain ⟨n, hn⟩ : ∃ n, s.size = n := ⟨_, rfl⟩
      have HN : Hid (s.size = n) := hn
      go_enter Tryz.func50, Tryz.ntmps50
      go_wp2
      · go_ret
        exact ⟨by rw [HF.out ((by assumption : 2000 < (n : Int) ∨ (!s.toList == [48]) = true).resolve_left (by omega)) (by assumption)]; rfl, rfl⟩
      all_goals
        have HFIRST : Hid (s.size = 1 ∨ (s[0].toNat : Int) ≠ 48) := by
          first
            | exact .inr (by assumption)
            | exact .inl (alone_size (by assumption : (n : Int) ≤ 2000 ∧ (!s.toList == [48]) = false).2)
        go_loop [22] (fun i => ∃ k : Nat, i = .int .i64 k ∧ k ≤ n ∧ DigsTo s k) (fun i => n - (intOf i).toNat)
        case atStart => exact ⟨0, rfl, by omega, fun j h g => absurd g (by omega)⟩
        case round =>
          obtain ⟨k, rfl, hk, hd⟩ := hrel
          have HD : Hid (DigsTo s k) := hd
          clear hd
          by_cases hkn : k = n
          · subst hkn
            have HY : Hid (Tx.plainB s = true) := HT.out HFIRST.out (fun j h => HD.out j h (by have := HN.out; omega))
            go_wp2
            go_ret
            exact ⟨by rw [HY.out]; rfl, rfl⟩
          · have hks : k < s.size := by have := HN.out; omega
            have HBAD : Hid ((s[k].toNat : Int) < 48 ∨ 57 < (s[k].toNat : Int) → Tx.plainB s = false) := HNB.out k hks
            have HNX : Hid (48 ≤ (s[k].toNat : Int) ∧ (s[k].toNat : Int) ≤ 57 → DigsTo s (k + 1)) := fun h j hj hjk => by
              by_cases e : j = k
              · subst e; exact h
              · exact HD.out j hj (by omega)
            go_wp2
            all_goals first
              | exact ⟨⟨k + 1, by simp, by omega, HNX.out (by omega)⟩, by simp [intOf]; omega⟩
              | exact ⟨⟨_, _, .int .i64 ((k : Int) + 1), ⟨k + 1, by simp, by omega, HNX.out (by omega)⟩, rfl, rfl, rfl⟩, by simp [intOf]; omega⟩
              | (go_ret; exact ⟨by rw [HBAD.out (by omega)]; rfl, rfl⟩)
end Go.Proofs.Wd
