/- What wordRest and wordDivisor of the package nat return. -/
import Derived.Test.YtgcnpjnanlbmpaaGreatDoorWn
namespace Go.Proofs.Wd
open Go.RowKit
set_option linter.unusedVariables false
theorem rest_step {xs : List Int} {k : Nat} {y Q r q r2 : Int} (h : val (xs.drop (k + 1)) = y * Q + r) (e : q * y + r2 = r * 18446744073709551616 + xs.getD k 0) : val (xs.drop k) = y * (18446744073709551616 * Q + q) + r2 := by
  rw [val_drop, h]
  grind
set_option maxHeartbeats 4000000 in
set_option maxRecDepth 100000 in
theorem Tryz.wordRest (v : Value) (xs : List Int) (y : Int) (w : World) (hv : Digs w v xs) (hx : Dig xs) (y0 : 1 ≤ y) (y1 : y ≤ 18446744073709551615) (hlen : xs.length ≤ 1000000) :
    Calls Tryz.prog 134 #[v, .int .u64 y] w fun e w' => e = .returned (.int .u64 (val xs % y)) ∧ w' = w := by
  obtain ⟨p, cap, rfl, hxl, hxr⟩ := hv.slice
  obtain ⟨n, hn⟩ : ∃ n, xs.length = n := ⟨_, rfl⟩
  have HN : Hid (xs.length = n) := hn
  have HX : Hid (Dig xs) := hx
  have HXR : Hid (0 < xs.length → ∃ g, p = some ⟨g, 0, none⟩ ∧ RowAt w g cap xs) := hxr
  have HS : Hid (val (xs.drop n) = y * 0 + 0) := by
    show _ = _
    rw [List.drop_eq_nil_of_le (by omega)]; simp
  rw [hn] at hxl hlen
  rw [hn]
  clear hv hx hxr hn
  go_enter Tryz.func134, Tryz.ntmps134
  go_wp2
  go_loopw [5, 6] (fun rv i wr => ∃ (k : Nat) (r Q : Int), rv = .int .u64 r ∧ i = .int .i64 ((k : Int) - 1) ∧ k ≤ n ∧ val (xs.drop k) = y * Q + r ∧ 0 ≤ r ∧ r < y ∧ wr = w) (fun _ i _ => (intOf i + 1).toNat)
  case atStart => exact ⟨n, 0, 0, rfl, rfl, by omega, HS.out, by omega, by omega, rfl⟩
  case round =>
    obtain ⟨k, r, Q, rfl, rfl, hk, hs, r0, r1, rfl⟩ := hrel
    have HV : Hid (val (xs.drop k) = y * Q + r) := hs
    clear hs
    cases k with
    | zero =>
      have hr : val xs % y = r := by
        have h := HV.out
        rw [List.drop_zero] at h
        rw [h, Int.add_comm, Int.add_mul_emod_self_left, Int.emod_eq_of_lt r0 r1]
      have HR : Hid (val xs % y = r) := hr
      clear hr
      go_wp2
      go_ret
      exact ⟨by rw [HR.out]; rfl, rfl⟩
    | succ k =>
      rw [show ((k + 1 : Nat) : Int) - 1 = k by omega]
      obtain ⟨g, rfl, hgr⟩ := HXR.out (by have := HN.out; omega)
      obtain ⟨x, hxk⟩ : ∃ x, xs.getD k 0 = x := ⟨_, rfl⟩
      have hcx := hgr.cells k (by have := HN.out; omega)
      have hxd := HX.out.get k
      rw [hxk] at hcx hxd
      have HXK : Hid (xs.getD k 0 = x) := hxk
      clear hgr hxk
      go_wp2_with fail
      with_reducible refine (Tryz.Div r x y _ r0 r1 hxd.1 hxd.2 y1).mono ?_
      rintro e w' ⟨⟨q, r', q0, q1, s0, s1, he, rfl⟩, rfl⟩
      have HE : Hid (q * y + r' = r * 18446744073709551616 + x) := he
      clear he
      go_wp2
      exact ⟨⟨k, r', 18446744073709551616 * Q + q, rfl, rfl, by omega, rest_step HV.out (by rw [HXK.out]; exact HE.out), s0, s1, trivial⟩, by simp [intOf]⟩
set_option maxHeartbeats 4000000 in
set_option maxRecDepth 100000 in
theorem Tryz.wordDivisor (x y : Int) (w : World) (x0 : 0 ≤ x) (x1 : x ≤ 18446744073709551615) (y0 : 0 ≤ y) (y1 : y ≤ 18446744073709551615) :
    Calls Tryz.prog 133 #[.int .u64 x, .int .u64 y] w fun e w' => e = .returned (.int .u64 (Int.gcd x y)) ∧ Below w.heap.size w w' := by
  go_enter Tryz.func133, Tryz.ntmps133
  go_wp2
  go_loopw [0, 1] (fun av bv wr => ∃ (a b : Int), av = .int .u64 a ∧ bv = .int .u64 b ∧ 0 ≤ a ∧ a ≤ 18446744073709551615 ∧ 0 ≤ b ∧ b ≤ 18446744073709551615 ∧ Int.gcd a b = Int.gcd x y ∧ Below w.heap.size w wr) (fun _ bv _ => (intOf bv).toNat)
  case atStart => exact ⟨x, y, rfl, rfl, x0, x1, y0, y1, rfl, Below.refl _ _⟩
  case round =>
    obtain ⟨a, b, rfl, rfl, a0, a1, b0, b1, hg, hb⟩ := hrel
    have HG : Hid (Int.gcd a b = Int.gcd x y) := hg
    have HB : Hid (Below w.heap.size w wr) := hb
    clear hg hb
    by_cases hz : b = 0
    · subst hz
      have HE : Hid ((Int.gcd x y : Int) = a) := by
        show _ = _
        rw [← HG.out, Int.gcd_zero]; omega
      go_wp2
      go_ret
      exact ⟨by rw [HE.out]; rfl, HB.out⟩
    · have R0 : 0 ≤ a % b := Int.emod_nonneg _ (by omega)
      have R1 : a % b < b := Int.emod_lt_of_pos _ (by omega)
      have HG2 : Hid (Int.gcd b (a % b) = Int.gcd x y) := by
        show _ = _
        rw [gcd_mod, HG.out]
      go_wp2
      go_quiet (fail)
      have HB2 : Hid (Below w.heap.size w (wr.drewN nq)) := belowN HB.out nq
      go_wp2
      exact ⟨⟨b, a % b, rfl, rfl, b0, b1, R0, by omega, HG2.out, HB2.out⟩, by simp [intOf]; omega⟩
end Go.Proofs.Wd
