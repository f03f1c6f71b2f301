/- Fractions as they lie in memory; how many bits a number of the package nat has. -/
import Derived.Test.YtcnjcfoaoaldeaaGreatDoorSm
import Derived.Test.YtcnjcfoaoaldeaaGreatDoorFq
set_option linter.unusedVariables false
namespace Go.Proofs.Fr
open Go.RowKit Go.Proofs.Wd
/-- Both parts are words. -/
def Short (q : Rat) : Prop := (q.num.natAbs : Int) ≤ 18446744073709551615 ∧ (q.den : Int) ≤ 18446744073709551615
/-- A fraction's struct: its parts are words, or behind a pointer. -/
def FracAt (w : World) (a : Nat) (q : Rat) (k : Nat) : Prop :=
 a < w.heap.size ∧ w.cell? ⟨a, 0, none⟩ = some (.bool (decide (q.num < 0))) ∧
   ((Short q ∧ w.cell? ⟨a, 1, none⟩ = some (.int .u64 (q.num.natAbs : Int)) ∧ w.cell? ⟨a, 2, none⟩ = some (.int .u64 (q.den : Int)) ∧ w.cell? ⟨a, 3, none⟩ = some (.pointer none)) ∨
    (¬Short q ∧ w.cell? ⟨a, 1, none⟩ = some (.int .u64 0) ∧ w.cell? ⟨a, 2, none⟩ = some (.int .u64 0) ∧ ∃ b p r, w.cell? ⟨a, 3, none⟩ = some (.pointer (some ⟨b, 0, none⟩)) ∧ b < w.heap.size ∧
     w.cell? ⟨b, 0, none⟩ = some p ∧ w.cell? ⟨b, 1, none⟩ = some r ∧ Num w p (q.num.natAbs : Int) k ∧ Num w r (q.den : Int) k))
/-- A fraction: nothing is 0. -/
def FracIs (w : World) (v : Value) (q : Rat) (k : Nat) : Prop := (v = .pointer none ∧ q = 0) ∨ ∃ a, v = .pointer (some ⟨a, 0, none⟩) ∧ FracAt w a q k
theorem FracAt.below {w w' : World} {a : Nat} {q : Rat} {k : Nat} (h : FracAt w a q k) (hb : Below w.heap.size w w') : FracAt w' a q k := by
 obtain ⟨h1, h2, h3⟩ := h
 have hs := hb.size
 refine ⟨by omega, by rw [hb.cell h1]; exact h2, ?_⟩
 rcases h3 with ⟨g1, g2, g3, g4⟩ | ⟨g1, g2, g3, b, p, r, g4, g5, g6, g7, g8, g9⟩
 ·exact .inl ⟨g1, by rw [hb.cell h1]; exact g2, by rw [hb.cell h1]; exact g3, by rw [hb.cell h1]; exact g4⟩
 ·exact .inr ⟨g1, by rw [hb.cell h1]; exact g2, by rw [hb.cell h1]; exact g3, b, p, r, by rw [hb.cell h1]; exact g4, by omega, by rw [hb.cell g5]; exact g6, by rw [hb.cell g5]; exact g7, g8.below hb (Nat.le_refl _), g9.below hb (Nat.le_refl _)⟩
theorem FracIs.below {w w' : World} {v : Value} {q : Rat} {k : Nat} (h : FracIs w v q k) (hb : Below w.heap.size w w') : FracIs w' v q k := by
 rcases h with ⟨h1, h2⟩ | ⟨a, h1, h2⟩
 ·exact .inl ⟨h1, h2⟩
 ·exact .inr ⟨a, h1, h2.below hb⟩
theorem FracAt.more {w : World} {a : Nat} {q : Rat} {k m : Nat} (h : FracAt w a q k) (hm : k ≤ m) : FracAt w a q m := by
 obtain ⟨h1, h2, h3⟩ := h
 refine ⟨h1, h2, ?_⟩
 rcases h3 with h3 | ⟨g1, g2, g3, b, p, r, g4, g5, g6, g7, g8, g9⟩
 ·exact .inl h3
 ·exact .inr ⟨g1, g2, g3, b, p, r, g4, g5, g6, g7, g8.fewer hm, g9.fewer hm⟩
theorem FracIs.more {w : World} {v : Value} {q : Rat} {k m : Nat} (h : FracIs w v q k) (hm : k ≤ m) : FracIs w v q m := by
 rcases h with h | ⟨a, h1, h2⟩
 ·exact .inl h
 ·exact .inr ⟨a, h1, h2.more hm⟩
theorem short_zero : Short 0 := by unfold Short; simp
/-- Of the number 0 the denominator is 1. -/
theorem den_zero {q : Rat} (h : q.num = 0) : q.den = 1 := by rw [Rat.num_eq_zero.1 h]; rfl
theorem long_num {q : Rat} (h : ¬Short q) : q.num ≠ 0 := fun e => h (by unfold Short; rw [e, den_zero e]; simp)
/-- What Bits tells: just of 0 it is 0, just of 1 it is 1. -/
structure BitsIs (z L : Int) : Prop where
 lo : 0 ≤ L
 zero : L = 0 ↔ z = 0
 one : L = 1 ↔ z = 1
 hi : L ≤ 9223372036854775807
end Go.Proofs.Fr
