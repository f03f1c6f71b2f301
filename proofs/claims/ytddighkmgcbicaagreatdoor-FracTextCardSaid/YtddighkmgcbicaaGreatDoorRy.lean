/- What Get of the reference's fractions returns. -/
import Derived.Test.YtddighkmgcbicaaGreatDoorRw
import Derived.Test.YtddighkmgcbicaaGreatDoorFz
namespace Go.Proofs
open Go.RowKit
set_option linter.unusedVariables false
theorem ryBelow {B : Nat} {a w : World} (h : Below B a w) (n : Nat) : Below B a (w.drewN n) := ⟨h.os, h.tape, h.output, h.size, h.block⟩
theorem ryOther (w : World) {C g : Nat} (h : C ≠ g) (j i : Nat) (v : Value) : (w.setCell ⟨C, j, none⟩ v).cell? ⟨g, i, none⟩ = w.cell? ⟨g, i, none⟩ :=
  World.cell?_of_block (w := w) (Below.heap_setCell _ _ _ _ (fun e => h e.symm))
theorem num_nought (w : World) (n : Nat) : NumIs w (.slice none 0 0) 0 n := ⟨[], Digs.nil w, Dig.nil, .inl rfl, rfl, by simp⟩
/-- A number below ten thousand has one digit. -/
theorem num_digit {w : World} {p : Option Addr} {k cap : Nat} {z : Int} {n : Nat} (h : NumIs w (.slice p k cap) z n) (h1 : 1 ≤ z) (h9 : z ≤ 9999) : k = 1 := by
  obtain ⟨xs, g1, g2, g3, rfl, g5⟩ := h
  obtain ⟨p', cap', e, hl, -⟩ := g1.slice
  obtain ⟨rfl, rfl, rfl⟩ : p = p' ∧ k = xs.length ∧ cap = cap' := by simpa using e
  have hne : xs ≠ [] := fun e => by rw [e] at h1; simp at h1
  have hlen : xs.length ≠ 0 := fun e => hne (List.length_eq_zero_iff.1 e)
  have hp := top_pos g2 g3 hne
  by_cases h2 : xs.length = 1
  · exact h2
  · have h3 : (10000 : Int) ^ 1 ≤ 10000 ^ (xs.length - 1) := pow_mono' (by omega)
    rw [Int.pow_succ, Int.pow_zero, Int.one_mul] at h3
    omega
theorem num_single {w : World} {p : Option Addr} {cap : Nat} {z : Int} {n : Nat} (h : NumIs w (.slice p 1 cap) z n) :
    ∃ g, p = some ⟨g, 0, none⟩ ∧ w.cell? ⟨g, 0, none⟩ = some (.int .i64 z) ∧ ∀ C c t, CellsAt w C c t → t ≠ 3 → g ≠ C := by
  obtain ⟨xs, g1, g2, g3, rfl, g5⟩ := h
  obtain ⟨p', cap', e, hl, hr⟩ := g1.slice
  obtain ⟨rfl, hx, rfl⟩ : p = p' ∧ 1 = xs.length ∧ cap = cap' := by simpa using e
  obtain ⟨x, rfl⟩ : ∃ x, xs = [x] := List.length_eq_one_iff.1 hx.symm
  obtain ⟨g, rfl, hrow⟩ := hr (by simp)
  have hc := hrow.cells 0 (by simp)
  refine ⟨g, rfl, by rw [val_one]; exact hc, fun C c t hC ht e => ?_⟩
  subst e
  obtain ⟨-, ⟨he, -⟩ | ⟨g', cap2, cur, he, -, hh, -⟩⟩ := g1
  · simp at he
  · obtain ⟨rfl, -⟩ : g = g' ∧ cap = cap2 := by simpa using he
    have h3 : some (Obj.cells cur 3 (0, 0)) = some (Obj.cells c t (0, 0)) := hh.symm.trans hC
    simp at h3
    exact ht h3.2.symm
theorem sgn_same {M bb : Bool} {z : Nat} (h : (M && decide (0 < (z : Int))) = bb) : Fr.sgn bb ((z : Int)).toNat = Fr.sgn M z := by
  subst h
  cases M
  · rfl
  · by_cases h : 0 < z
    · have e : (true && decide (0 < (z : Int))) = true := by simp; omega
      rw [e]; rfl
    · have e : z = 0 := by omega
      subst e; rfl
theorem empty_list {s : ByteArray} (h0 : s.size = 0) : s.toList.isEmpty = true := by
  rw [ByteArray.toList_eq, empty_text h0]; rfl
theorem minus_none {s : ByteArray} (h0 : s.size = 0) : Fr.minus s = false := by
  rw [empty_text h0]; rfl
/-- What the reference tells of a text. -/
def RGet (s : ByteArray) (w : World) (e : Ending) : Prop :=
  (∃ q v, Fr.getQ s = some q ∧ e = .returned (.tuple #[v, .bool true]) ∧ QIs w v q (s.size + 1)) ∨ (Fr.getQ s = none ∧ ∃ a n c, e = .returned (.tuple #[.agg #[.bool false, .slice none 0 0, .slice a n c], .bool false]))
end Go.Proofs
