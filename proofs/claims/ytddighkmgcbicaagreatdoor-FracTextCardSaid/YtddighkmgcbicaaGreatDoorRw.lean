/- What Of and Get of the reference's fractions return. -/
import Derived.Test.YtddighkmgcbicaaGreatDoorRv
namespace Go.Proofs
open Go.RowKit
set_option linter.unusedVariables false
theorem refU (y : Int) (h0 : 0 ≤ y) (h1 : y ≤ 18446744073709551615) : IntKind.u64.wrap y = y := by
  simp [IntKind.wrap, IntKind.signed, IntKind.bits]; omega
theorem rat_int {x z : Int} (h : x = z) : (x : Rat) = mkRat z (1 : Int).toNat := by
  subst h
  exact (Rat.mk_eq_mkRat _ 1 (by decide) (by simp)).symm ▸ rfl
set_option maxHeartbeats 4000000 in
set_option maxRecDepth 100000 in
theorem Tryz.rOf (x : Int) (w : World) (h0 : -9223372036854775808 ≤ x) (h1 : x ≤ 9223372036854775807) :
    Calls Tryz.prog 22 #[.int .i64 x] w fun e w' => (∃ v, e = .returned v ∧ QIs w' v (x : Rat) 5) ∧ Below w.heap.size w w' := by
  have HB0 : Hid (Below w.heap.size w (w.alloc (.cells #[.bool false, .slice none 0 0, .slice none 0 0] 30))) := (Below.refl _ _).alloc (Nat.le_refl _) _
  have HR0 : Hid (CellsAt (w.alloc (.cells #[.bool false, .slice none 0 0, .slice none 0 0] 30)) w.heap.size #[.bool false, .slice none 0 0, .slice none 0 0] 30) := CellsAt.new _ _ _ rfl
  by_cases hx : x < 0
  · have hw1 := refU (-(x + 1)) (by omega) (by omega)
    have hw2 := refU (-(x + 1) + 1) (by omega) (by omega)
    go_enter Tryz.func22, Tryz.ntmps22
    go_wp2_with fail
    generalize (w.alloc (.cells #[.bool false, .slice none 0 0, .slice none 0 0] 30)) = W0 at *
    with_reducible refine (Tryz.rOfU (-(x + 1) + 1) _ (by omega) (by omega)).mono ?_
    rintro e w1 ⟨⟨r, rfl, hr⟩, hb1⟩
    obtain ⟨p, k, cap, rfl⟩ := hr.slice
    have HR1 : Hid (CellsAt (w1.alloc (.cells #[.int .i64 1] 3)) w.heap.size #[.bool false, .slice none 0 0, .slice none 0 0] 30) := (HR0.out.below hb1).alloc _
    have HB1 : Hid (Below w.heap.size w (w1.alloc (.cells #[.int .i64 1] 3))) := (HB0.out.trans (hb1.mono HB0.out.size)).alloc (Nat.le_trans HB0.out.size hb1.size) _
    have HX1 : Hid (NumIs (w1.alloc (.cells #[.int .i64 1] 3)) (.slice p k cap) (-(x + 1) + 1) 5) := hr.alloc _
    have HO1 : Hid (NumIs (w1.alloc (.cells #[.int .i64 1] 3)) (.slice (some ⟨w1.heap.size, 0, none⟩) 1 1) 1 5) := (NumIs.one w1 1 (by omega) (by omega)).mono (by omega)
    clear hr hb1 HR0 HB0
    have r0 : (w1.alloc (.cells #[.int .i64 1] 3)).cell? ⟨w.heap.size, 0, none⟩ = some (.bool false) := HR1.out.cell 0
    have r1 : (w1.alloc (.cells #[.int .i64 1] 3)).cell? ⟨w.heap.size, 1, none⟩ = some (.slice none 0 0) := HR1.out.cell 1
    have r2 : (w1.alloc (.cells #[.int .i64 1] 3)).cell? ⟨w.heap.size, 2, none⟩ = some (.slice none 0 0) := HR1.out.cell 2
    have f0 := HR1.out.free 0
    have f1 := HR1.out.free 1
    have f2 := HR1.out.free 2
    have hbd : ∀ (g : Nat) (w : World), (Instr.build 30 #[(0, .bool true), (1, .slice p k cap), (2, .slice (some ⟨g, 0, none⟩) 1 1)]).run Tryz.prog w = .ok (.agg #[.bool true, .slice p k cap, .slice (some ⟨g, 0, none⟩) 1 1]) w := fun g w => run_build w 30 _ _ (by kernel_rfl)
    go_wp2
    have HX5 := Lib.hid (HX1.out.put3 (x := .bool true) (y := .slice p k cap) (u := .slice (some ⟨w1.heap.size, 0, none⟩) 1 1) HR1.out (by decide))
    have HY5 := Lib.hid (HO1.out.put3 (x := .bool true) (y := .slice p k cap) (u := .slice (some ⟨w1.heap.size, 0, none⟩) 1 1) HR1.out (by decide))
    have HR5 := Lib.hid (HR1.out.put3 (x := .bool true) (y := .slice p k cap) (z := .slice (some ⟨w1.heap.size, 0, none⟩) 1 1))
    have HB5 := Lib.hid (((HB1.out.setCell (p := ⟨w.heap.size, 0, none⟩) (Nat.le_refl _) (.bool true)).setCell (p := ⟨w.heap.size, 1, none⟩) (Nat.le_refl _) (.slice p k cap)).setCell (p := ⟨w.heap.size, 2, none⟩) (Nat.le_refl _) (.slice (some ⟨w1.heap.size, 0, none⟩) 1 1))
    clear HX1 HO1 HB1 HR1 r0 r1 r2 f0 f1 f2
    generalize ((((w1.alloc (.cells #[.int .i64 1] 3)).setCell ⟨w.heap.size, 0, none⟩ (.bool true)).setCell ⟨w.heap.size, 1, none⟩ (.slice p k cap)).setCell ⟨w.heap.size, 2, none⟩ (.slice (some ⟨w1.heap.size, 0, none⟩) 1 1)) = w5 at *
    have r0 : w5.cell? ⟨w.heap.size, 0, none⟩ = some (.bool true) := HR5.out.cell 0
    have r1 : w5.cell? ⟨w.heap.size, 1, none⟩ = some (.slice p k cap) := HR5.out.cell 1
    have r2 : w5.cell? ⟨w.heap.size, 2, none⟩ = some (.slice (some ⟨w1.heap.size, 0, none⟩) 1 1) := HR5.out.cell 2
    refine bodyPost_ret (by simp [results, Tryz.results22, go_sem, r0, r1, r2]; try rfl) rfl ⟨⟨_, rfl, true, _, _, -(x + 1) + 1, 1, rfl, HX5.out, HY5.out, by omega, fun h => by omega, ?_⟩, HB5.out⟩
    apply rat_int
    unfold Fr.sgn
    rw [if_pos rfl]
    omega
  · have hw1 := refU x (by omega) (by omega)
    go_enter Tryz.func22, Tryz.ntmps22
    go_wp2_with fail
    generalize (w.alloc (.cells #[.bool false, .slice none 0 0, .slice none 0 0] 30)) = W0 at *
    with_reducible refine (Tryz.rOfU (x) _ (by omega) (by omega)).mono ?_
    rintro e w1 ⟨⟨r, rfl, hr⟩, hb1⟩
    obtain ⟨p, k, cap, rfl⟩ := hr.slice
    have HR1 : Hid (CellsAt (w1.alloc (.cells #[.int .i64 1] 3)) w.heap.size #[.bool false, .slice none 0 0, .slice none 0 0] 30) := (HR0.out.below hb1).alloc _
    have HB1 : Hid (Below w.heap.size w (w1.alloc (.cells #[.int .i64 1] 3))) := (HB0.out.trans (hb1.mono HB0.out.size)).alloc (Nat.le_trans HB0.out.size hb1.size) _
    have HX1 : Hid (NumIs (w1.alloc (.cells #[.int .i64 1] 3)) (.slice p k cap) (x) 5) := hr.alloc _
    have HO1 : Hid (NumIs (w1.alloc (.cells #[.int .i64 1] 3)) (.slice (some ⟨w1.heap.size, 0, none⟩) 1 1) 1 5) := (NumIs.one w1 1 (by omega) (by omega)).mono (by omega)
    clear hr hb1 HR0 HB0
    have r0 : (w1.alloc (.cells #[.int .i64 1] 3)).cell? ⟨w.heap.size, 0, none⟩ = some (.bool false) := HR1.out.cell 0
    have r1 : (w1.alloc (.cells #[.int .i64 1] 3)).cell? ⟨w.heap.size, 1, none⟩ = some (.slice none 0 0) := HR1.out.cell 1
    have r2 : (w1.alloc (.cells #[.int .i64 1] 3)).cell? ⟨w.heap.size, 2, none⟩ = some (.slice none 0 0) := HR1.out.cell 2
    have f0 := HR1.out.free 0
    have f1 := HR1.out.free 1
    have f2 := HR1.out.free 2
    have hbd : ∀ (g : Nat) (w : World), (Instr.build 30 #[(0, .bool false), (1, .slice p k cap), (2, .slice (some ⟨g, 0, none⟩) 1 1)]).run Tryz.prog w = .ok (.agg #[.bool false, .slice p k cap, .slice (some ⟨g, 0, none⟩) 1 1]) w := fun g w => run_build w 30 _ _ (by kernel_rfl)
    go_wp2
    have HX5 := Lib.hid (HX1.out.put3 (x := .bool false) (y := .slice p k cap) (u := .slice (some ⟨w1.heap.size, 0, none⟩) 1 1) HR1.out (by decide))
    have HY5 := Lib.hid (HO1.out.put3 (x := .bool false) (y := .slice p k cap) (u := .slice (some ⟨w1.heap.size, 0, none⟩) 1 1) HR1.out (by decide))
    have HR5 := Lib.hid (HR1.out.put3 (x := .bool false) (y := .slice p k cap) (z := .slice (some ⟨w1.heap.size, 0, none⟩) 1 1))
    have HB5 := Lib.hid (((HB1.out.setCell (p := ⟨w.heap.size, 0, none⟩) (Nat.le_refl _) (.bool false)).setCell (p := ⟨w.heap.size, 1, none⟩) (Nat.le_refl _) (.slice p k cap)).setCell (p := ⟨w.heap.size, 2, none⟩) (Nat.le_refl _) (.slice (some ⟨w1.heap.size, 0, none⟩) 1 1))
    clear HX1 HO1 HB1 HR1 r0 r1 r2 f0 f1 f2
    generalize ((((w1.alloc (.cells #[.int .i64 1] 3)).setCell ⟨w.heap.size, 0, none⟩ (.bool false)).setCell ⟨w.heap.size, 1, none⟩ (.slice p k cap)).setCell ⟨w.heap.size, 2, none⟩ (.slice (some ⟨w1.heap.size, 0, none⟩) 1 1)) = w5 at *
    have r0 : w5.cell? ⟨w.heap.size, 0, none⟩ = some (.bool false) := HR5.out.cell 0
    have r1 : w5.cell? ⟨w.heap.size, 1, none⟩ = some (.slice p k cap) := HR5.out.cell 1
    have r2 : w5.cell? ⟨w.heap.size, 2, none⟩ = some (.slice (some ⟨w1.heap.size, 0, none⟩) 1 1) := HR5.out.cell 2
    refine bodyPost_ret (by simp [results, Tryz.results22, go_sem, r0, r1, r2]; try rfl) rfl ⟨⟨_, rfl, false, _, _, x, 1, rfl, HX5.out, HY5.out, by omega, fun h => by simp at h, ?_⟩, HB5.out⟩
    apply rat_int
    unfold Fr.sgn
    rw [if_neg (by simp)]
    omega
end Go.Proofs
