/- What sum of the package nat returns, and Add, Of and Word of its numbers. -/
import Derived.Test.YtoiihhkafcglhaaGreatDoorBw
import Derived.Test.YtoiihhkafcglhaaGreatDoorWd3
import Derived.Laws.CopyOwn
namespace Go.Proofs.Wd
open Go.RowKit
set_option linter.unusedVariables false
theorem RowAt.below {w w' : World} {g cap B : Nat} {xs : List Int} (h : RowAt w g cap xs) (hb : Below B w w') (hg : g < B) : RowAt w' g cap xs :=
  ⟨by have := hb.size; have := h.lt; omega, h.fits, h.max, fun j hj => by rw [hb.cell (p := ⟨g, j, none⟩) hg]; exact h.cells j hj⟩
/-- A new row, its words those of L. -/
def NewRow (w : World) (B : Nat) (v : Value) (L : List Int) : Prop := v = .slice (some ⟨B, 0, none⟩) L.length L.length ∧ RowOf w B L
theorem NewRow.digs {w : World} {B : Nat} {v : Value} {L : List Int} (h : NewRow w B v L) (hl : L.length ≤ 1000000) : Digs w v L := by
  rw [h.1]; exact h.2.digs (by unfold maxLen; omega)
set_option maxHeartbeats 4000000 in
set_option maxRecDepth 100000 in
theorem Tryz.natOf (x : Int) (w : World) (x0 : 0 ≤ x) (x1 : x ≤ 18446744073709551615) :
    Calls Tryz.prog 63 #[.int .u64 x] w fun e w' => (∃ r, e = .returned r ∧ Num w' r x 1) ∧ Below w.heap.size w w' := by
  have HD : Hid (Dig [x]) := fun d hd => by rw [List.mem_singleton.1 hd]; exact ⟨x0, x1⟩
  have HV : Hid (val [x] = x) := by show _ = _; simp [val_cons]
  have HR : Hid (Digs (w.alloc (.cells #[.int .u64 x] 49)) (.slice (some ⟨w.heap.size, 0, none⟩) 1 1) [x]) := by
    have h : RowOf (w.alloc (.cells #[.int .u64 x] 49)) w.heap.size [x] := by unfold RowOf; show (w.heap.push _)[w.heap.size]? = _; simp
    exact h.digs (by unfold maxLen; simp)
  have HB : Hid (Below w.heap.size w (w.alloc (.cells #[.int .u64 x] 49))) := (Below.refl _ _).alloc (Nat.le_refl _) _
  go_enter Tryz.func63, Tryz.ntmps63
  go_wp2_with fail
  refine (Tryz.made _ [x] _ HR.out HD.out).mono ?_
  rintro e w4 ⟨⟨v4, rfl, h4⟩, hb4⟩
  have H4 : Hid (Num w4 v4 x 1) := by show Num _ _ _ _; rw [← HV.out]; exact h4
  have HB4 : Hid (Below w.heap.size w w4) := Below.after HB.out hb4
  clear h4 hb4
  go_wp2
  go_ret
  exact ⟨⟨_, rfl, H4.out⟩, HB4.out⟩
/-- What Word tells: a number that fits a word, and true; else nought and false. -/
def WordIs (z : Int) (e : Ending) : Prop := (z ≤ 18446744073709551615 ∧ e = .returned (.tuple #[.int .u64 z, .bool true])) ∨ (18446744073709551615 < z ∧ e = .returned (.tuple #[.int .u64 0, .bool false]))
set_option maxHeartbeats 4000000 in
set_option maxRecDepth 100000 in
theorem Tryz.natWord (v : Value) (z : Int) (n : Nat) (w : World) (hv : Num w v z n) :
    Calls Tryz.prog 107 #[v] w fun e w' => WordIs z e ∧ w' = w := by
  obtain ⟨xs, hi, hd, ht, hz, hl⟩ := hv
  have HI : Hid (IsNat w v xs) := hi
  by_cases h0 : xs = []
  · subst h0
    have HZ : Hid (WordIs z (.returned (.tuple #[.int .u64 0, .bool true]))) := .inl ⟨by rw [← hz]; simp, by rw [← hz]; rfl⟩
    clear hi hd ht hz
    go_enter Tryz.func107, Tryz.ntmps107
    go_wp2_with (go_at_call 58; refine (Tryz.all v [] _ HI.out).mono ?_; rintro e w1 ⟨⟨s, rfl, hs⟩, rfl⟩; obtain ⟨p, cap, rfl, -, -⟩ := hs.slice; clear hs)
    go_ret2
    exact ⟨HZ.out, rfl⟩
  · have hlp : 0 < xs.length := by have : xs.length ≠ 0 := fun e => h0 (List.length_eq_zero_iff.1 e); omega
    by_cases h1 : xs.length = 1
    · obtain ⟨x, rfl⟩ : ∃ x, xs = [x] := List.length_eq_one_iff.1 h1
      have hxz : x = z := by rw [← hz]; simp [val_cons]
      subst hxz
      have hxd := hd x (by simp)
      have HZ : Hid (WordIs x (.returned (.tuple #[.int .u64 x, .bool true]))) := .inl ⟨hxd.2, rfl⟩
      clear hi hd ht hz h0 h1 hlp
      go_enter Tryz.func107, Tryz.ntmps107
      go_wp2_with fail
      refine (Tryz.all v [x] _ HI.out).mono ?_
      rintro e w1 ⟨⟨s, rfl, hs⟩, rfl⟩
      obtain ⟨p, cap, rfl, hpl, hpr⟩ := hs.slice
      obtain ⟨g, rfl, hr⟩ := hpr (by simp)
      have hc := hr.cells 0 (by simp)
      simp only [List.getD_cons_zero] at hc
      simp only [List.length_singleton]
      clear hs hpr hr hpl HI
      go_wp2
      go_ret2
      exact ⟨HZ.out, rfl⟩
    · have hp := top_pos hd ht h0
      have hpw : (18446744073709551616 : Int) ^ 1 ≤ 18446744073709551616 ^ (xs.length - 1) := pow_mono' (by omega)
      have HZ : Hid (WordIs z (.returned (.tuple #[.int .u64 0, .bool false]))) := .inr ⟨by rw [← hz]; simp at hpw; omega, rfl⟩
      obtain ⟨l, hll⟩ : ∃ l, xs.length = l := ⟨_, rfl⟩
      have hl2 : 2 ≤ l := by omega
      have HLL : Hid (xs.length = l) := hll
      have hb0 : ((l : Int) == 0) = false := by simp; omega
      have hb1 : ((l : Int) == 1) = false := by simp; omega
      clear hi hd ht hz h0 h1 hlp hp hpw hll hl
      go_enter Tryz.func107, Tryz.ntmps107
      go_wp2_with fail
      refine (Tryz.all v xs _ HI.out).mono ?_
      rintro e w1 ⟨⟨s, rfl, hs⟩, rfl⟩
      obtain ⟨p, cap, rfl, hpl, hpr⟩ := hs.slice
      rw [HLL.out]
      clear hs hpr hpl HI
      go_wp2
      go_ret2
      exact ⟨HZ.out, rfl⟩
end Go.Proofs.Wd
