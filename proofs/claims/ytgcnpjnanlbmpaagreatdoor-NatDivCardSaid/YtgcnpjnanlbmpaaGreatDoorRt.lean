/- What Text of the reference's numbers returns: the numeral. -/
import Derived.Test.YtgcnpjnanlbmpaaGreatDoorDig0
import Derived.Test.YtgcnpjnanlbmpaaGreatDoorTx2
namespace Go.Proofs.Tx
open Go.Lib
theorem pad_cons (m z : Nat) : pad (m + 1) z = UInt8.ofNat (48 + z / 10 ^ m % 10) :: pad m z := by
  induction m generalizing z with
  | zero => simp [pad]
  | succ m ih =>
    rw [pad, ih (z / 10), Nat.div_div_eq_div_mul, ← Nat.pow_succ', List.cons_append]
    rfl
theorem pad_is_dec {m z : Nat} (hm : 1 ≤ m) (h0 : z / 10 ^ m = 0) (h1 : z / 10 ^ (m - 1) ≠ 0) : pad m z = decDigits z := by
  have hp : 0 < 10 ^ m := Nat.pow_pos (by decide)
  have hlt : z < 10 ^ m := by
    rcases Nat.div_eq_zero_iff.1 h0 with h | h
    · omega
    · exact h
  rw [pad_dec m z hm hlt]
  have hn : nDigits z = m := by
    have h2 := nDigits_le m z hm hlt
    have h3 := lt_pow_nDigits z
    by_cases e : nDigits z = m
    · exact e
    · exfalso
      have h4 : 10 ^ nDigits z ≤ 10 ^ (m - 1) := Nat.pow_le_pow_right (by decide) (by omega)
      exact h1 (Nat.div_eq_of_lt (by omega))
  rw [hn, Nat.sub_self]; rfl
end Go.Proofs.Tx
namespace Go.Proofs
open Go.RowKit
set_option linter.unusedVariables false
/-- What holds in the middle of Text: the lowest 4 i + k digits of z stand in s, d is what is left of word i. -/
structure RtAt (L : List Int) (z i k : Nat) (d : Int) (s : ByteArray) : Prop where
  text : s.data.toList = Tx.pad (4 * i + k) z
  k4 : k ≤ 4
  rest : ((z / 10 ^ (4 * i + k) : Nat) : Int) = d + 10 ^ (4 - k) * val (L.drop (i + 1))
  d0 : 0 ≤ d
  d1 : d < 10 ^ (4 - k)
  top : i + 1 = L.length → (k = 0 → d ≠ 0) ∧ (0 < k → z / 10 ^ (4 * i + k - 1) ≠ 0)
/-- At the head of the outer loop. -/
def RtHead (L : List Int) (z i : Nat) (s : ByteArray) : Prop := i ≤ L.length ∧ (i < L.length → s.data.toList = Tx.pad (4 * i) z ∧ ((z / 10 ^ (4 * i) : Nat) : Int) = val (L.drop i)) ∧ (i = L.length → s.data.toList = Lib.decDigits z)
theorem RtHead.start {L : List Int} {z : Nat} (hz : (z : Int) = val L) (h0 : L ≠ []) : RtHead L z 0 ⟨#[]⟩ := by
  refine ⟨Nat.zero_le _, fun _ => ⟨rfl, by simpa using hz⟩, fun e => ?_⟩
  exact absurd (List.length_eq_zero_iff.1 e.symm) h0
theorem RtHead.word {L : List Int} {z i : Nat} {s : ByteArray} (h : RtHead L z i s) (hd : Dig L) (ht : Top L) (hi : i < L.length) : RtAt L z i 0 (L.getD i 0) s := by
  obtain ⟨h1, h2⟩ := h.2.1 hi
  have hg := hd.get i
  refine ⟨h1, by omega, ?_, hg.1, by show _ < (10000 : Int); omega, fun e => ⟨fun _ => ?_, fun e2 => by omega⟩⟩
  · rw [Nat.add_zero, h2, val_drop]; rfl
  · rcases ht with rfl | ht
    · simp at hi
    · rw [show i = L.length - 1 by omega]; exact ht
theorem RtAt.step {L : List Int} {z i k : Nat} {d : Int} {s t : ByteArray} (h : RtAt L z i k d s) (hk : k < 4) (hb : i + 1 = L.length → d ≠ 0) (ht : t.data.toList = UInt8.ofNat (48 + d.toNat % 10) :: s.data.toList) : RtAt L z i (k + 1) (d / 10) t := by
  have hr := h.rest
  have h0 := h.d0
  have h1 := h.d1
  generalize hV : val (L.drop (i + 1)) = V at hr
  have key : ∃ e : Int, d + 10 ^ (4 - k) * V = d + 10 * e ∧ (10 : Int) ^ (4 - (k + 1)) * V = e ∧ d / 10 < 10 ^ (4 - (k + 1)) := by
    have : k = 0 ∨ k = 1 ∨ k = 2 ∨ k = 3 := by omega
    rcases this with rfl | rfl | rfl | rfl
    · exact ⟨1000 * V, by show d + 10000 * V = _; omega, rfl, by change d < 10000 at h1; show _ < (1000 : Int); omega⟩
    · exact ⟨100 * V, by show d + 1000 * V = _; omega, rfl, by change d < 1000 at h1; show _ < (100 : Int); omega⟩
    · exact ⟨10 * V, by show d + 100 * V = _; omega, rfl, by change d < 100 at h1; show _ < (10 : Int); omega⟩
    · exact ⟨1 * V, by show d + 10 * V = _; omega, rfl, by change d < 10 at h1; show _ < (1 : Int); omega⟩
  obtain ⟨e, e1, e2, e3⟩ := key
  rw [e1] at hr
  have hm : z / 10 ^ (4 * i + (k + 1)) = z / 10 ^ (4 * i + k) / 10 := by
    rw [Nat.div_div_eq_div_mul, ← Nat.pow_succ]; rfl
  refine ⟨?_, by omega, ?_, by omega, e3, fun e => ⟨fun e3 => by omega, fun _ => ?_⟩⟩
  · rw [ht, h.text, show 4 * i + (k + 1) = 4 * i + k + 1 by omega, Tx.pad_cons]
    have : z / 10 ^ (4 * i + k) % 10 = d.toNat % 10 := by omega
    rw [this]
  · rw [hV, e2, hm]; omega
  · rw [show 4 * i + (k + 1) - 1 = 4 * i + k by omega]
    by_cases hk0 : k = 0
    · have := hb e
      have hz : val (L.drop (i + 1)) = 0 := by rw [List.drop_eq_nil_of_le (by omega)]; rfl
      intro e4
      rw [e4] at hr
      rw [← hV, hz, Int.mul_zero] at e2
      omega
    · have := hb e
      have hz : val (L.drop (i + 1)) = 0 := by rw [List.drop_eq_nil_of_le (by omega)]; rfl
      intro e4
      rw [e4] at hr
      rw [← hV, hz, Int.mul_zero] at e2
      omega
theorem RtAt.leave {L : List Int} {z i k : Nat} {d : Int} {s : ByteArray} (h : RtAt L z i k d s) (hi : i < L.length) (hx : k = 4 ∨ (i + 1 = L.length ∧ d = 0)) : RtHead L z (i + 1) s := by
  have hr := h.rest
  have h0 := h.d0
  have h1 := h.d1
  have hk := h.k4
  by_cases hl : i + 1 = L.length
  · refine ⟨by omega, fun e => by omega, fun _ => ?_⟩
    have hd : d = 0 := by
      rcases hx with rfl | hx
      · change d < 1 at h1; omega
      · exact hx.2
    have hz : val (L.drop (i + 1)) = 0 := by rw [List.drop_eq_nil_of_le (by omega)]; rfl
    rw [hz, hd, Int.mul_zero] at hr
    obtain ⟨t1, t2⟩ := h.top hl
    have hk0 : 0 < k := by
      by_cases e : k = 0
      · exact absurd hd (t1 e)
      · omega
    rw [h.text]
    exact Tx.pad_is_dec (by omega) (by omega) (t2 hk0)
  · have hk4 : k = 4 := hx.resolve_right (fun e => hl e.1)
    subst hk4
    change d < 1 at h1
    have hd : d = 0 := by omega
    subst hd
    refine ⟨by omega, fun _ => ⟨?_, ?_⟩, fun e => absurd e hl⟩
    · rw [h.text, show 4 * (i + 1) = 4 * i + 4 by omega]
    · rw [show 4 * (i + 1) = 4 * i + 4 by omega, hr]; simp
end Go.Proofs
