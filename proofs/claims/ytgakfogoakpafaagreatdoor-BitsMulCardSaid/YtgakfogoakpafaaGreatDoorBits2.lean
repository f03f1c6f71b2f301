/- What Len and Zeros of the package bits return, and the walk of BitsTwo. -/
import Derived.Test.YtgakfogoakpafaaGreatDoorBits
import Derived.LoopTactic
import Derived.Laws.Bits64b
import Derived.Laws.BitsAllLaws
namespace Go.Proofs
open Go.RowKit
set_option linter.unusedVariables false
theorem shlIn (x n : Int) (h0 : 0 ≤ x) (h1 : x ≤ 18446744073709551615) : 0 ≤ shlV x n ∧ shlV x n ≤ 18446744073709551615 := by
  unfold shlV
  split
  · omega
  · split
    · exact ⟨Int.ediv_nonneg h0 (Int.le_of_lt (Int.pow_pos (by omega))), Int.le_trans (Int.ediv_le_self _ h0) h1⟩
    · omega
theorem shrIn (x n : Int) (h0 : 0 ≤ x) (h1 : x ≤ 18446744073709551615) : 0 ≤ shrV x n ∧ shrV x n ≤ 18446744073709551615 := by
  unfold shrV
  split
  · omega
  · split
    · omega
    · exact ⟨Int.ediv_nonneg h0 (Int.le_of_lt (Int.pow_pos (by omega))), Int.le_trans (Int.ediv_le_self _ h0) h1⟩
/-- What Len returns, told by its place among the powers of two. -/
structure IsLen (x L : Int) : Prop where
  lo : 0 ≤ L
  hi : L ≤ 64
  lt : x < 2 ^ L.toNat
  ge : x = 0 ∧ L = 0 ∨ 1 ≤ L ∧ 2 ^ (L - 1).toNat ≤ x
/-- What holds at the head of Len's loop: what is left of the word, the bits that have been counted, the step. -/
structure LenAt (x a b c : Int) : Prop where
  at0 : 0 ≤ b
  div : a = x / 2 ^ b.toNat
  pos : b = 0 ∨ 1 ≤ a
  step : c = 32 ∧ a ≤ 18446744073709551615 ∨ c = 16 ∧ a ≤ 4294967295 ∨ c = 8 ∧ a ≤ 65535 ∨ c = 4 ∧ a ≤ 255 ∨ c = 2 ∧ a ≤ 15 ∨ c = 1 ∧ a ≤ 3 ∨ c = 0 ∧ a ≤ 1
  room : b + 2 * c ≤ 64
  top : b ≤ 63
theorem divMore (x b : Int) (k : Nat) (p : Int) (hp : p = 2 ^ k) (hb : 0 ≤ b) : x / 2 ^ b.toNat / p = x / 2 ^ (b + k).toNat := by
  have h2 : (0 : Int) < 2 ^ b.toNat := Int.pow_pos (by omega)
  subst hp
  rw [Int.ediv_ediv, if_neg (fun h => by omega), Int.sub_zero, ← Int.pow_add, show b.toNat + k = (b + k).toNat by omega]
theorem LenAt.up {x a b c : Int} (k : Nat) {p d : Int} (h : LenAt x a b c) (hp : p = 2 ^ k) (h1 : 1 ≤ a / p) (h2 : d = 16 ∧ a / p ≤ 4294967295 ∨ d = 8 ∧ a / p ≤ 65535 ∨ d = 4 ∧ a / p ≤ 255 ∨ d = 2 ∧ a / p ≤ 15 ∨ d = 1 ∧ a / p ≤ 3 ∨ d = 0 ∧ a / p ≤ 1) (h3 : (k : Int) + 2 * d ≤ 2 * c) (h4 : (k : Int) + 1 ≤ 2 * c) : LenAt x (a / p) (b + k) d := by
  have g1 := h.at0
  have g5 := h.room
  refine ⟨by omega, ?_, by omega, by omega, by omega, by omega⟩
  have := divMore x b k p hp g1
  rw [← h.div] at this
  exact this
theorem LenAt.stay {x a b c d : Int} (h : LenAt x a b c) (h2 : d = 16 ∧ a ≤ 4294967295 ∨ d = 8 ∧ a ≤ 65535 ∨ d = 4 ∧ a ≤ 255 ∨ d = 2 ∧ a ≤ 15 ∨ d = 1 ∧ a ≤ 3 ∨ d = 0 ∧ a ≤ 1) (h3 : d ≤ c) : LenAt x a b d :=
  ⟨h.at0, h.div, h.pos, by omega, by have := h.room; omega, h.top⟩
theorem LenAt.done {x a b : Int} (h0 : 0 ≤ x) (h : LenAt x a b 0) (ha : 0 ≤ a) : IsLen x (b + a) := by
  obtain ⟨h1, h2, h3, h4, h5, h6⟩ := h
  have hp : (0 : Int) < 2 ^ b.toNat := Int.pow_pos (by omega)
  have e1 : (2 : Int) ^ (b + 1).toNat = 2 ^ b.toNat * 2 := by rw [show (b + 1).toNat = b.toNat + 1 by omega, Int.pow_succ]
  have e0 := Int.mul_ediv_add_emod x (2 ^ b.toNat)
  have m0 := Int.emod_nonneg x (show (2 : Int) ^ b.toNat ≠ 0 by omega)
  have m1 := Int.emod_lt_of_pos x hp
  rw [← h2] at e0
  have : a = 0 ∨ a = 1 := by omega
  rcases this with rfl | rfl
  · have hb : b = 0 := by omega
    subst hb
    have e : x = 0 := by simp at h2; omega
    exact ⟨by omega, by omega, by simp [e], .inl ⟨e, rfl⟩⟩
  · rw [Int.mul_one] at e0
    refine ⟨by omega, by omega, by rw [e1]; omega, .inr ⟨by omega, ?_⟩⟩
    rw [show (b + 1 - 1).toNat = b.toNat by omega]
    omega
set_option maxHeartbeats 2000000 in
theorem Tryz.Len (x : Int) (w : World) (h0 : 0 ≤ x) (h1 : x ≤ 18446744073709551615) :
    Calls Tryz.prog 16 #[.int .u64 x] w fun e w' => (∃ L, IsLen x L ∧ e = .returned (.int .i64 L)) ∧ w' = w := by
  go_enter Tryz.func16, Tryz.ntmps16
  go_wp2
  go_loop [0, 3, 4] (fun y n s => ∃ a b c : Int, y = .int .u64 a ∧ n = .int .i64 b ∧ s = .int .i64 c ∧ 0 ≤ a ∧ LenAt x a b c) (fun y n s => (intOf s).toNat)
  case atStart => exact ⟨x, 0, 32, rfl, rfl, rfl, h0, by omega, by simp, .inl rfl, by omega, by omega, by omega⟩
  case round =>
    obtain ⟨a, b, c, rfl, rfl, rfl, ha, hat⟩ := hrel
    have HA : Hid (LenAt x a b c) := hat
    obtain ⟨g1, g2, g3, g4, g5, g6⟩ := hat
    clear g2 g3
    rcases g4 with ⟨rfl, g4⟩ | ⟨rfl, g4⟩ | ⟨rfl, g4⟩ | ⟨rfl, g4⟩ | ⟨rfl, g4⟩ | ⟨rfl, g4⟩ | ⟨rfl, g4⟩
    · go_wp2
      · rename_i hne
        have hne : a / 4294967296 ≠ 0 := by simpa using hne
        exact ⟨⟨_, _, _, rfl, rfl, rfl, by omega, LenAt.up 32 HA.out (by rfl) (by omega) (by omega) (by omega) (by omega)⟩, by simp [intOf]⟩
      · rename_i hz
        have hz : a / 4294967296 = 0 := by simpa using hz
        exact ⟨⟨_, _, _, rfl, rfl, rfl, by omega, LenAt.stay HA.out (by omega) (by omega)⟩, by simp [intOf]⟩
    · go_wp2
      · rename_i hne
        have hne : a / 65536 ≠ 0 := by simpa using hne
        exact ⟨⟨_, _, _, rfl, rfl, rfl, by omega, LenAt.up 16 HA.out (by rfl) (by omega) (by omega) (by omega) (by omega)⟩, by simp [intOf]⟩
      · rename_i hz
        have hz : a / 65536 = 0 := by simpa using hz
        exact ⟨⟨_, _, _, rfl, rfl, rfl, by omega, LenAt.stay HA.out (by omega) (by omega)⟩, by simp [intOf]⟩
    · go_wp2
      · rename_i hne
        have hne : a / 256 ≠ 0 := by simpa using hne
        exact ⟨⟨_, _, _, rfl, rfl, rfl, by omega, LenAt.up 8 HA.out (by rfl) (by omega) (by omega) (by omega) (by omega)⟩, by simp [intOf]⟩
      · rename_i hz
        have hz : a / 256 = 0 := by simpa using hz
        exact ⟨⟨_, _, _, rfl, rfl, rfl, by omega, LenAt.stay HA.out (by omega) (by omega)⟩, by simp [intOf]⟩
    · go_wp2
      · rename_i hne
        have hne : a / 16 ≠ 0 := by simpa using hne
        exact ⟨⟨_, _, _, rfl, rfl, rfl, by omega, LenAt.up 4 HA.out (by rfl) (by omega) (by omega) (by omega) (by omega)⟩, by simp [intOf]⟩
      · rename_i hz
        have hz : a / 16 = 0 := by simpa using hz
        exact ⟨⟨_, _, _, rfl, rfl, rfl, by omega, LenAt.stay HA.out (by omega) (by omega)⟩, by simp [intOf]⟩
    · go_wp2
      · rename_i hne
        have hne : a / 4 ≠ 0 := by simpa using hne
        exact ⟨⟨_, _, _, rfl, rfl, rfl, by omega, LenAt.up 2 HA.out (by rfl) (by omega) (by omega) (by omega) (by omega)⟩, by simp [intOf]⟩
      · rename_i hz
        have hz : a / 4 = 0 := by simpa using hz
        exact ⟨⟨_, _, _, rfl, rfl, rfl, by omega, LenAt.stay HA.out (by omega) (by omega)⟩, by simp [intOf]⟩
    · go_wp2
      · rename_i hne
        have hne : a / 2 ≠ 0 := by simpa using hne
        exact ⟨⟨_, _, _, rfl, rfl, rfl, by omega, LenAt.up 1 HA.out (by rfl) (by omega) (by omega) (by omega) (by omega)⟩, by simp [intOf]⟩
      · rename_i hz
        have hz : a / 2 = 0 := by simpa using hz
        exact ⟨⟨_, _, _, rfl, rfl, rfl, by omega, LenAt.stay HA.out (by omega) (by omega)⟩, by simp [intOf]⟩
    · go_wp2
      go_ret
      exact ⟨⟨_, LenAt.done h0 HA.out ha, rfl⟩, rfl⟩

theorem odd_part : ∀ (x : Nat), 0 < x → ∃ z m, x = 2 ^ (z + 1) * m + 2 ^ z := by
  intro x
  induction x using Nat.strongRecOn with
  | _ x ih =>
    intro hx
    by_cases h : x % 2 = 1
    · exact ⟨0, x / 2, by simp; omega⟩
    · obtain ⟨z, m, e⟩ := ih (x / 2) (by omega) (by omega)
      refine ⟨z + 1, m, ?_⟩
      have h2 : x = (x / 2) * 2 := by omega
      rw [h2, e, Nat.add_mul, Nat.mul_right_comm, ← Nat.pow_succ, ← Nat.pow_succ]
theorem low_bit (z m : Nat) (h : 2 ^ (z + 1) * m + 2 ^ z < 2 ^ 64) : (2 ^ (z + 1) * m + 2 ^ z) &&& (2 ^ 64 - (2 ^ (z + 1) * m + 2 ^ z)) = 2 ^ z := by
  have hp : 0 < 2 ^ z := Nat.two_pow_pos z
  have hz : 2 ^ z < 2 ^ (z + 1) := by rw [Nat.pow_succ]; omega
  have e : 2 ^ (z + 1) * m + 2 ^ z = (2 ^ (z + 1) * m + (2 ^ z - 1)) + 1 := by omega
  apply Nat.eq_of_testBit_eq
  intro j
  rw [Nat.testBit_and, Nat.testBit_two_pow]
  rw [show 2 ^ 64 - (2 ^ (z + 1) * m + 2 ^ z) = 2 ^ 64 - ((2 ^ (z + 1) * m + (2 ^ z - 1)) + 1) by omega, Nat.testBit_two_pow_sub_succ (by omega), Nat.testBit_two_pow_mul_add _ hz, Nat.testBit_two_pow_mul_add _ (by omega)]
  by_cases hj : j < z + 1
  · rw [if_pos hj, if_pos hj, Nat.testBit_two_pow, Nat.testBit_two_pow_sub_one]
    have h64 : j < 64 := by
      have : 2 ^ z < 2 ^ 64 := by omega
      have := (Nat.pow_lt_pow_iff_right (show 1 < 2 by omega)).1 this
      omega
    by_cases q : z = j
    · subst q; simp [h64]
    · simp [q]
  · rw [if_neg hj, if_neg hj]
    have : ¬ z = j := by omega
    cases m.testBit (j - (z + 1)) <;> simp [this]
theorem ones_xor (x : Nat) (h : x < 2 ^ 64) : 18446744073709551615 ^^^ x = 18446744073709551615 - x := by
  apply Nat.eq_of_testBit_eq
  intro j
  rw [Nat.testBit_xor, show (18446744073709551615 : Nat) = 2 ^ 64 - 1 by rfl, Nat.testBit_two_pow_sub_one, show 2 ^ 64 - 1 - x = 2 ^ 64 - (x + 1) by omega, Nat.testBit_two_pow_sub_succ h]
  by_cases hj : j < 64
  · simp [hj]
  · have : x.testBit j = false := Nat.testBit_lt_two_pow (Nat.lt_of_lt_of_le h (Nat.pow_le_pow_right (by omega) (by omega)))
    simp [hj, this]
theorem zeroWord (z m : Nat) (x : Int) (hx : x = ((2 ^ (z + 1) * m + 2 ^ z : Nat) : Int)) (h1 : x ≤ 18446744073709551615) :
    bits .and .u64 x (IntKind.u64.wrap (bits .xor .u64 (if IntKind.u64.signed = true then -1 else IntKind.u64.max) x + 1)) = 2 ^ z := by
  have hp : 0 < 2 ^ z := Nat.two_pow_pos z
  have hl : 2 ^ (z + 1) * m + 2 ^ z < 2 ^ 64 := by omega
  have hm : (if IntKind.u64.signed = true then -1 else IntKind.u64.max) = ((18446744073709551615 : Nat) : Int) := by rfl
  rw [hm, hx, bits_xor_u64_nat _ _ (by omega) (by omega), ones_xor _ hl, u64w]
  have e : (((18446744073709551615 - (2 ^ (z + 1) * m + 2 ^ z) : Nat) : Int) + 1) % 18446744073709551616 = ((2 ^ 64 - (2 ^ (z + 1) * m + 2 ^ z) : Nat) : Int) := by omega
  rw [e, bits_and_u64_nat _ _ (by omega) (by omega), low_bit z m hl]
  simp
/-- What Zeros returns. -/
structure IsZeros (x z : Int) : Prop where
  lo : 0 ≤ z
  at0 : x = 0 → z = 64
  odd : x ≠ 0 → z ≤ 63 ∧ ∃ m : Int, 0 ≤ m ∧ x = (2 * m + 1) * 2 ^ z.toNat
theorem isLen_pow {z : Nat} {L : Int} (h : IsLen (2 ^ z) L) : L = z + 1 := by
  obtain ⟨h1, h2, h3, h4⟩ := h
  have hp : (0 : Int) < 2 ^ z := Int.pow_pos (by omega)
  rcases h4 with ⟨h4, _⟩ | ⟨h4, h5⟩
  · omega
  · have a1 : z < L.toNat := by
      have : (2 : Nat) ^ z < 2 ^ L.toNat := by exact_mod_cast h3
      exact (Nat.pow_lt_pow_iff_right (show 1 < 2 by omega)).1 this
    have a2 : (L - 1).toNat ≤ z := by
      have : (2 : Nat) ^ (L - 1).toNat ≤ 2 ^ z := by exact_mod_cast h5
      exact (Nat.pow_le_pow_iff_right (show 1 < 2 by omega)).1 this
    omega
set_option maxHeartbeats 2000000 in
theorem Tryz.Zeros (x : Int) (w : World) (h0 : 0 ≤ x) (h1 : x ≤ 18446744073709551615) :
    Calls Tryz.prog 18 #[.int .u64 x] w fun e w' => (∃ z, IsZeros x z ∧ e = .returned (.int .i64 z)) ∧ w' = w := by
  by_cases hx : x = 0
  · subst hx
    go_enter Tryz.func18, Tryz.ntmps18
    go_wp2
    go_ret
    exact ⟨⟨64, ⟨by omega, fun _ => rfl, fun h => absurd rfl h⟩, rfl⟩, rfl⟩
  · have hx0 : (x == 0) = false := by simpa using hx
    obtain ⟨z, m, hzm⟩ := odd_part x.toNat (by omega)
    have hxe : x = ((2 ^ (z + 1) * m + 2 ^ z : Nat) : Int) := by rw [← hzm]; omega
    have hw := zeroWord z m x hxe h1
    have hz : (2 : Int) ^ z ≤ x := by rw [hxe]; push_cast; have : (0 : Int) ≤ 2 ^ (z + 1) * m := Int.mul_nonneg (Int.le_of_lt (Int.pow_pos (by omega))) (by omega); omega
    have HZ : Hid (IsZeros x z) := by
      refine ⟨by omega, fun h => absurd h hx, fun _ => ⟨?_, m, by omega, ?_⟩⟩
      · have h64 : (2 : Nat) ^ z < 2 ^ 64 := by omega
        have := (Nat.pow_lt_pow_iff_right (show 1 < 2 by omega)).1 h64
        omega
      · rw [hxe]
        simp only [Int.toNat_natCast]
        push_cast
        rw [Int.add_mul, Int.pow_succ, Int.one_mul, Int.mul_comm (2 * (m : Int)), ← Int.mul_assoc]
    have h0p : (0 : Int) ≤ 2 ^ z := Int.le_of_lt (Int.pow_pos (by omega))
    have HP : Hid ((2 : Int) ^ z ≤ 18446744073709551615) := by show (2 : Int) ^ z ≤ _; omega
    clear hxe hzm hz
    go_enter Tryz.func18, Tryz.ntmps18
    go_wp2_with (go_at_call 16; refine (Tryz.Len _ _ h0p HP.out).mono ?_; rintro e w' ⟨⟨L, hL, rfl⟩, rfl⟩; obtain rfl := isLen_pow hL)
    all_goals (go_ret; exact ⟨⟨z, HZ.out, by have := (HZ.out.odd hx).1; simp; exact sw_of (by omega) (by omega)⟩, rfl⟩)

theorem lowPart (x n : Int) (h0 : 0 ≤ x) (h1 : x ≤ 18446744073709551615) (a0 : 0 ≤ n) (a1 : n ≤ 63) :
    ∃ q p, Op.shift .shl .u64 1 .i64 (64 - n) = pure (.int .u64 q) ∧ IntKind.u64.wrap (q - 1) = p ∧ bits .and .u64 x p = shrV (shlV x n) n := by
  have hsh := shift_shl_any .u64 .i64 1 (64 - n) (by omega)
  refine ⟨_, _, hsh, rfl, ?_⟩
  have hb : (IntKind.u64.bits : Nat) = 64 := rfl
  rw [hb, show min (64 - n).toNat 64 = (64 - n).toNat by omega, Int.one_mul, u64w, u64w]
  have hk : ∃ k : Nat, (64 - n).toNat = k ∧ 1 ≤ k ∧ k ≤ 64 := ⟨_, rfl, by omega, by omega⟩
  obtain ⟨k, hk, k1, k2⟩ := hk
  rw [hk]
  have hpow : (2 : Nat) ^ k ≤ 2 ^ 64 := Nat.pow_le_pow_right (by omega) k2
  have hpos : 0 < 2 ^ k := Nat.two_pow_pos k
  have e1 : ((2 : Int) ^ k % 18446744073709551616 - 1) % 18446744073709551616 = ((2 ^ k - 1 : Nat) : Int) := by
    have : ((2 : Int) ^ k) = ((2 ^ k : Nat) : Int) := by simp
    rw [this]
    omega
  obtain ⟨X, rfl⟩ := Int.eq_ofNat_of_zero_le h0
  rw [e1, bits_and_u64_nat _ _ (by omega) (by omega), Nat.and_two_pow_sub_one_eq_mod]
  unfold shrV shlV
  rw [if_neg (by omega), if_neg (by omega), if_neg (by omega), if_neg (by omega), show min n.toNat 64 = n.toNat by omega]
  have hp : (0 : Int) < 2 ^ n.toNat := Int.pow_pos (by omega)
  have e2 : (18446744073709551616 : Int) = 2 ^ k * 2 ^ n.toNat := by rw [← Int.pow_add, show k + n.toNat = 64 by omega]; rfl
  rw [e2, Int.mul_comm (X : Int), Int.mul_comm (2 ^ k), Int.mul_emod_mul_of_pos _ _ hp, Int.mul_ediv_cancel_left _ (by omega)]
  simp
theorem belowN {B : Nat} {a w : World} (h : Below B a w) : ∀ n, Below B a (w.drewN n)
  | 0 => by rw [World.drewN_zero]; exact h
  | n + 1 => by rw [← World.drew_drewN]; exact (belowN h n).drew
theorem shrPos (x n : Int) (a0 : 0 ≤ n) (a1 : n ≤ 64) : shrV x n = x / 2 ^ n.toNat := by
  unfold shrV
  rw [if_neg (by omega), if_neg (by omega), show min n.toNat 64 = n.toNat by omega]
theorem shlPos (x n : Int) (a0 : 0 ≤ n) (a1 : n ≤ 64) : shlV x n = x * 2 ^ n.toNat % 18446744073709551616 := by
  unfold shlV
  rw [if_neg (by omega), if_neg (by omega), show min n.toNat 64 = n.toNat by omega]
theorem twoUp {x z : Int} (h : IsZeros x z) (hx : x ≠ 0) (h1 : x ≤ 18446744073709551615) (h0 : 0 ≤ x) : shlV (shrV x z) z = x ∧ bits .and .u64 (shrV x z) 1 = 1 := by
  obtain ⟨hz, m, hm, e⟩ := h.odd hx
  have hl := h.lo
  have hp : (0 : Int) < 2 ^ z.toNat := Int.pow_pos (by omega)
  have e1 : shrV x z = 2 * m + 1 := by
    rw [shrPos x z hl (by omega)]
    conv => lhs; rw [e]
    exact Int.mul_ediv_cancel _ (by omega)
  rw [e1, shlPos _ z hl (by omega), ← e]
  refine ⟨by omega, ?_⟩
  have hb : 2 * m + 1 ≤ x := by
    conv => rhs; rw [e]
    have := Int.mul_le_mul_of_nonneg_left (show (1 : Int) ≤ 2 ^ z.toNat by omega) (show 0 ≤ 2 * m + 1 by omega)
    omega
  obtain ⟨M, rfl⟩ := Int.eq_ofNat_of_zero_le hm
  have := bits_and_u64_nat (2 * M + 1) 1 (by omega) (by omega)
  rw [Nat.and_one_is_mod, show (2 * M + 1) % 2 = 1 by omega] at this
  exact_mod_cast this
theorem lenZero {x L : Int} (h : IsLen x L) (hx : x = 0) : L = 0 := by
  rcases h.ge with ⟨_, g⟩ | ⟨g, g2⟩
  · exact g
  · have : (0 : Int) < 2 ^ (L - 1).toNat := Int.pow_pos (by omega)
    omega
theorem lenDown {x L : Int} (h : IsLen x L) (hx : x ≠ 0) (h0 : 0 ≤ x) : 1 ≤ L ∧ shrV x L = 0 ∧ shrV x (L - 1) = 1 := by
  obtain ⟨g1, g2, g3, g4⟩ := h
  have g4 : 1 ≤ L ∧ 2 ^ (L - 1).toNat ≤ x := by
    rcases g4 with ⟨g, _⟩ | g
    · exact absurd g hx
    · exact g
  refine ⟨g4.1, ?_, ?_⟩
  · rw [shrPos _ _ g1 g2]; exact Int.ediv_eq_zero_of_lt h0 g3
  · rw [shrPos _ _ (by omega) (by omega)]
    have hp : (0 : Int) < 2 ^ (L - 1).toNat := Int.pow_pos (by omega)
    have e : (2 : Int) ^ L.toNat = 2 ^ (L - 1).toNat * 2 := by rw [show L.toNat = (L - 1).toNat + 1 by omega, Int.pow_succ]
    rw [e] at g3
    have a1 : 1 ≤ x / 2 ^ (L - 1).toNat := by rw [Int.le_ediv_iff_mul_le hp]; omega
    have a2 : x / 2 ^ (L - 1).toNat < 2 := by rw [Int.ediv_lt_iff_lt_mul hp]; omega
    omega
set_option maxHeartbeats 4000000 in
theorem twoWalk (x n : Int) (w : World) (h0 : 0 ≤ x) (h1 : x ≤ 18446744073709551615) (h2 : -9223372036854775808 ≤ n) (h3 : n ≤ 9223372036854775807)
    (hB : Calls Tryz.prog 11 #[] w fun e w' => e = .returned (.bool true) ∧ Below w.heap.size w w') :
    Calls Tryz.prog 7 #[.int .u64 x, .int .i64 n] w fun e w' => e = .returned (.bool true) ∧ Below w.heap.size w w' := by
  obtain ⟨r, hr, hr0, hr1⟩ : ∃ r, n.tmod 64 = r ∧ -64 < r ∧ r < 64 := ⟨_, rfl, Int.lt_tmod_of_pos _ (by omega), Int.tmod_lt_of_pos _ (by omega)⟩
  obtain ⟨q, p, hq, hp, hand⟩ := lowPart x (r % 64) h0 h1 (by omega) (by omega)
  have hk : IntKind.i64.wrap (64 - r % 64) = 64 - r % 64 := by rw [IntKind.wrap_i64]; omega
  go_enter Tryz.func7, Tryz.ntmps7
  go_wp2_with (go_at_call 11; (with_reducible refine hB.mono ?_); rintro e w1 ⟨rfl, hb⟩)
  go_quiet ((first
    | (go_at_call 13; exact Calls.quiet_of_same (Tryz.Shl _ _ _ (by omega) (by omega) (by omega) (by omega)))
    | (go_at_call 14; exact Calls.quiet_of_same (Tryz.Shr _ _ _ (by first | omega | exact (shlIn _ _ (by omega) (by omega)).1) (by first | omega | exact (shlIn _ _ (by omega) (by omega)).2) (by omega) (by omega)))))
  clear hq hp hand hk hr
  by_cases hx : x = 0
  · subst hx
    go_wp2_with (first
      | (go_at_call 18; refine (Tryz.Zeros 0 _ (by omega) (by omega)).mono ?_; rintro e w' ⟨⟨z, hz, rfl⟩, rfl⟩; obtain rfl := hz.at0 rfl; clear hz)
      | (go_at_call 16; refine (Tryz.Len 0 _ (by omega) (by omega)).mono ?_; rintro e w' ⟨⟨L, hL, rfl⟩, rfl⟩; obtain rfl : L = 0 := lenZero hL rfl; clear hL))
    all_goals (go_ret; exact ⟨rfl, belowN hb _⟩)
  · have hx0 : (x == 0) = false := by simpa using hx
    go_wp2_with (first
      | (go_at_call 18; refine (Tryz.Zeros _ _ h0 h1).mono ?_; rintro e w' ⟨⟨z, hz, rfl⟩, rfl⟩; obtain ⟨f1, f2⟩ := twoUp hz hx h1 h0; have z0 := hz.lo; have z1 := (hz.odd hx).1; clear hz)
      | (go_at_call 16; refine (Tryz.Len _ _ h0 h1).mono ?_; rintro e w' ⟨⟨L, hL, rfl⟩, rfl⟩; obtain ⟨l1, f3, f4⟩ := lenDown hL hx h0; have l2 := hL.hi; clear hL)
      | (go_at_call 14; refine (Tryz.Shr _ _ _ h0 h1 (by omega) (by omega)).mono ?_; rintro e w' ⟨rfl, rfl⟩)
      | (go_at_call 13; refine (Tryz.Shl _ _ _ (shrIn _ _ h0 h1).1 (shrIn _ _ h0 h1).2 (by omega) (by omega)).mono ?_; rintro e w' ⟨rfl, rfl⟩))
    all_goals (go_ret; exact ⟨rfl, belowN hb _⟩)
end Go.Proofs
