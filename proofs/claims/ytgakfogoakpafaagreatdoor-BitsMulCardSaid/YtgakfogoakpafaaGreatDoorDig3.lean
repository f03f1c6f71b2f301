/- What Sub of the package bits returns; and the walk of BitsCarry. -/
import Derived.Test.YtgakfogoakpafaaGreatDoorDig2
import Derived.Test.YtgakfogoakpafaaGreatDoorBits3
namespace Go.Proofs
open Go.RowKit
set_option linter.unusedVariables false
theorem Tryz.nAdd {v u : Value} {a b : Int} {n m : Nat} {w : World} (hv : NumIs w v a n) (hu : NumIs w u b m) (hlen : n + m ≤ 1000000) :
    Calls Tryz.prog 23 #[v, u] w fun e w' => (∃ v', e = .returned v' ∧ NumIs w' v' (a + b) (max n m + 1)) ∧ Below w.heap.size w w' := by
  obtain ⟨xs, h1, h2, h3, rfl, h5⟩ := hv
  obtain ⟨ys, k1, k2, k3, rfl, k5⟩ := hu
  refine (Tryz.rAdd v u xs ys w h1 k1 h2 k2 (by omega)).mono ?_
  rintro e w' ⟨⟨v', rfl, h⟩, hb⟩
  exact ⟨⟨v', rfl, h.mono (by omega)⟩, hb⟩
theorem Tryz.nMul {v u : Value} {a b : Int} {n m : Nat} {w : World} (hv : NumIs w v a n) (hu : NumIs w u b m) (hlen : n + m ≤ 1000000) :
    Calls Tryz.prog 21 #[v, u] w fun e w' => (∃ v', e = .returned v' ∧ NumIs w' v' (a * b) (n + m + 1)) ∧ Below w.heap.size w w' := by
  obtain ⟨xs, h1, h2, h3, rfl, h5⟩ := hv
  obtain ⟨ys, k1, k2, k3, rfl, k5⟩ := hu
  refine (Tryz.rMul v u xs ys w h1 k1 h2 k2 (by omega)).mono ?_
  rintro e w' ⟨⟨v', rfl, h⟩, hb⟩
  exact ⟨⟨v', rfl, h.mono (by omega)⟩, hb⟩
theorem Tryz.nCmp {v u : Value} {a b : Int} {n m : Nat} {w : World} (hv : NumIs w v a n) (hu : NumIs w u b m) :
    Calls Tryz.prog 25 #[v, u] w fun e w' => e = .returned (.int .i64 (cmpI a b)) ∧ w' = w := by
  obtain ⟨xs, h1, h2, h3, rfl, h5⟩ := hv
  obtain ⟨ys, k1, k2, k3, rfl, k5⟩ := hu
  exact Tryz.rCmp v u xs ys w h1 k1 h2 k2
theorem Tryz.nTwo64 (w : World) : Calls Tryz.prog 24 #[.int .i64 64] w fun e w' => (∃ v', e = .returned v' ∧ NumIs w' v' 18446744073709551616 129) ∧ Below w.heap.size w w' := Tryz.rTwo 64 w (by omega)
set_option maxHeartbeats 1000000 in
theorem Tryz.Sub (x y : Int) (c : Bool) (w : World) (h0 : 0 ≤ x) (h1 : x ≤ 18446744073709551615) (h2 : 0 ≤ y) (h3 : y ≤ 18446744073709551615) :
    Calls Tryz.prog 29 #[.int .u64 x, .int .u64 y, .bool c] w fun e w' => e = .returned (.tuple #[.int .u64 ((x - y - if c = true then 1 else 0) % 18446744073709551616), .bool (decide (x < y + if c = true then 1 else 0))]) ∧ w' = w := by
  have fin : ∀ (s t : Int) (a b : Bool), s = t → a = b → Ending.returned (.tuple #[.int .u64 s, .bool a]) = Ending.returned (.tuple #[.int .u64 t, .bool b]) := fun s t a b h k => by rw [h, k]
  by_cases hlt : x < y
  · have hw : IntKind.u64.wrap (x - y) = x - y + 18446744073709551616 := by rw [u64w]; omega
    cases c
    · go_enter Tryz.func29, Tryz.ntmps29
      go_wp2
      all_goals (go_ret2; refine ⟨fin _ _ _ _ ?_ ?_, rfl⟩)
      all_goals (first | omega | (simp; done) | (simp; omega))
    · have hne : (x - y + 18446744073709551616 == 0) = false := by simp; omega
      go_enter Tryz.func29, Tryz.ntmps29
      go_wp2
      all_goals (go_ret2; refine ⟨fin _ _ _ _ ?_ ?_, rfl⟩)
      all_goals (first | omega | (simp; done) | (simp; omega))
  · have hw : IntKind.u64.wrap (x - y) = x - y := by rw [u64w]; omega
    cases c
    · go_enter Tryz.func29, Tryz.ntmps29
      go_wp2
      all_goals (go_ret2; refine ⟨fin _ _ _ _ ?_ ?_, rfl⟩)
      all_goals (first | omega | (simp; done) | (simp; omega))
    · by_cases he : x = y
      · subst he
        go_enter Tryz.func29, Tryz.ntmps29
        go_wp2
        all_goals (go_ret2; refine ⟨fin _ _ _ _ ?_ ?_, rfl⟩)
        all_goals (first | omega | (rw [u64w]; omega) | (simp; done) | (simp; omega) | trace_state)
      · have hne : (x - y == 0) = false := by simp; omega
        go_enter Tryz.func29, Tryz.ntmps29
        go_wp2
        all_goals (go_ret2; refine ⟨fin _ _ _ _ ?_ ?_, rfl⟩)
        all_goals (first | omega | (simp; done) | (simp; omega))
theorem NumIs.alloc {w : World} {v : Value} {z : Int} {n : Nat} (h : NumIs w v z n) (o : Obj) : NumIs (w.alloc o) v z n := h.below ((Below.refl _ _).alloc (Nat.le_refl _) o) (Nat.le_refl _)
theorem Tryz.nCmpEq {v u : Value} {a b : Int} {n m : Nat} {w : World} (hv : NumIs w v a n) (hu : NumIs w u b m) (h : a = b) :
    Calls Tryz.prog 25 #[v, u] w fun e w' => e = .returned (.int .i64 0) ∧ w' = w := by
  have := Tryz.nCmp hv hu
  rw [cmpI_eq h] at this
  exact this
theorem Tryz.AddAs (x y : Int) (c : Bool) (s : Int) (d : Bool) (w : World) (h0 : 0 ≤ x) (h1 : x ≤ 18446744073709551615) (h2 : 0 ≤ y) (h3 : y ≤ 18446744073709551615)
    (hs : s + (if d = true then 18446744073709551616 else 0) = x + y + (if c = true then 1 else 0)) (s0 : 0 ≤ s) (s1 : s ≤ 18446744073709551615) :
    Calls Tryz.prog 28 #[.int .u64 x, .int .u64 y, .bool c] w fun e w' => e = .returned (.tuple #[.int .u64 s, .bool d]) ∧ w' = w := by
  refine (Tryz.Add x y c w h0 h1 h2 h3).mono ?_
  rintro e w' ⟨rfl, rfl⟩
  refine ⟨?_, rfl⟩
  have e1 : (x + y + if c = true then 1 else 0) % 18446744073709551616 = s := by cases d <;> simp at hs <;> omega
  have e2 : decide (18446744073709551616 ≤ x + y + if c = true then 1 else 0) = d := by cases d <;> simp at hs <;> simp <;> omega
  rw [e1, e2]
theorem Tryz.SubAs (x y : Int) (c : Bool) (s : Int) (d : Bool) (w : World) (h0 : 0 ≤ x) (h1 : x ≤ 18446744073709551615) (h2 : 0 ≤ y) (h3 : y ≤ 18446744073709551615)
    (hs : s + y + (if c = true then 1 else 0) = x + (if d = true then 18446744073709551616 else 0)) (s0 : 0 ≤ s) (s1 : s ≤ 18446744073709551615) :
    Calls Tryz.prog 29 #[.int .u64 x, .int .u64 y, .bool c] w fun e w' => e = .returned (.tuple #[.int .u64 s, .bool d]) ∧ w' = w := by
  refine (Tryz.Sub x y c w h0 h1 h2 h3).mono ?_
  rintro e w' ⟨rfl, rfl⟩
  refine ⟨?_, rfl⟩
  have e1 : (x - y - if c = true then 1 else 0) % 18446744073709551616 = s := by cases d <;> simp at hs <;> omega
  have e2 : decide (x < y + if c = true then 1 else 0) = d := by cases d <;> simp at hs <;> simp <;> omega
  rw [e1, e2]
set_option maxHeartbeats 4000000 in
set_option maxRecDepth 100000 in
theorem carryWalk (x y : Int) (c : Bool) (w : World) (h0 : 0 ≤ x) (h1 : x ≤ 18446744073709551615) (h2 : 0 ≤ y) (h3 : y ≤ 18446744073709551615)
    (hB : Calls Tryz.prog 11 #[] w fun e w' => e = .returned (.bool true) ∧ Below w.heap.size w w') :
    Calls Tryz.prog 5 #[.int .u64 x, .int .u64 y, .bool c] w fun e w' => e = .returned (.bool true) ∧ Below w.heap.size w w' := by
  obtain ⟨d, s, s0, s1, hs⟩ : ∃ (d : Bool) (s : Int), 0 ≤ s ∧ s ≤ 18446744073709551615 ∧ s + (if d = true then 18446744073709551616 else 0) = x + y + (if c = true then 1 else 0) := by
    by_cases g : 18446744073709551616 ≤ x + y + (if c = true then 1 else 0)
    · exact ⟨true, x + y + (if c = true then 1 else 0) - 18446744073709551616, by omega, by split at g <;> omega, by simp⟩
    · exact ⟨false, x + y + (if c = true then 1 else 0), by omega, by omega, by simp⟩
  have HS : Hid (s + (if d = true then 18446744073709551616 else 0) = x + y + (if c = true then 1 else 0)) := hs
  have HADD : Hid (∀ w, Calls Tryz.prog 28 #[.int .u64 x, .int .u64 y, .bool c] w fun e w' => e = .returned (.tuple #[.int .u64 s, .bool d]) ∧ w' = w) := fun w => Tryz.AddAs x y c s d w h0 h1 h2 h3 hs s0 s1
  have HSUB : Hid (∀ w, Calls Tryz.prog 29 #[.int .u64 s, .int .u64 y, .bool c] w fun e w' => e = .returned (.tuple #[.int .u64 x, .bool d]) ∧ w' = w) := fun w => Tryz.SubAs s y c x d w s0 s1 h2 h3 hs.symm h0 h1
  clear hs
  cases c
  · cases d
    · have hs := HS.out
      simp only [Bool.false_eq_true, if_false, Int.add_zero] at hs
      have HE := (show Hid _ from hs)
      clear hs
      go_enter Tryz.func5, Tryz.ntmps5
      go_wp2_with (first
        | (go_at_call 11; (with_reducible refine hB.mono ?_); rintro e w1 ⟨rfl, hb⟩)
        | (go_at_call 28; with_reducible refine (HADD.out _).mono ?_; rintro e w2 ⟨rfl, rfl⟩)
        | (go_at_call 22; with_reducible refine (Tryz.rOfU x _ h0 h1).mono ?_; rintro e wa ⟨⟨vx, rfl, Vx⟩, ba⟩; replace hb := hb.trans (ba.mono hb.size))
        | (go_at_call 22; with_reducible refine (Tryz.rOfU y _ h2 h3).mono ?_; rintro e wb ⟨⟨vy, rfl, Vy⟩, bb⟩; replace Vx := Vx.below bb (Nat.le_refl _); replace hb := hb.trans (bb.mono hb.size))
        | (go_at_call 23; with_reducible refine (Tryz.nAdd Vx Vy (by omega)).mono ?_; rintro e wc ⟨⟨vn, rfl, Vn⟩, bc⟩; replace hb := hb.trans (bc.mono hb.size))
        | (go_at_call 23; with_reducible refine (Tryz.nAdd (Vn.alloc _) (NumIs.one _ 1 (by omega) (by omega)) (by omega)).mono ?_; rintro e wd ⟨⟨vo, rfl, Vo⟩, bd⟩; replace hb := (hb.alloc hb.size _).trans (bd.mono (by simp; have := hb.size; omega)))
        | (go_at_call 22; with_reducible refine (Tryz.rOfU s _ s0 s1).mono ?_; rintro e we ⟨⟨vm, rfl, Vm⟩, be⟩; replace Vn := Vn.below be (Nat.le_refl _); replace hb := hb.trans (be.mono hb.size))
        | (go_at_call 24; with_reducible refine (Tryz.nTwo64 _).mono ?_; rintro e wf ⟨⟨vt, rfl, Vt⟩, bf⟩; replace Vn := Vn.below bf (Nat.le_refl _); replace Vm := Vm.below bf (Nat.le_refl _); replace hb := hb.trans (bf.mono hb.size))
        | (go_at_call 23; with_reducible refine (Tryz.nAdd Vm Vt (by omega)).mono ?_; rintro e wg ⟨⟨vk, rfl, Vk⟩, bg⟩; replace Vn := Vn.below bg (Nat.le_refl _); replace hb := hb.trans (bg.mono hb.size))
        | (go_at_call 29; with_reducible refine (HSUB.out _).mono ?_; rintro e w2 ⟨rfl, rfl⟩)
        | (go_at_call 25; with_reducible refine (Tryz.nCmpEq Vn Vm (by have := HE.out; omega)).mono ?_; rintro e w2 ⟨rfl, rfl⟩))
      go_ret
      exact ⟨rfl, hb⟩
    · have hs := HS.out
      simp only [Bool.false_eq_true, if_true, if_false, Int.add_zero] at hs
      have HE := (show Hid _ from hs)
      clear hs
      go_enter Tryz.func5, Tryz.ntmps5
      go_wp2_with (first
        | (go_at_call 11; (with_reducible refine hB.mono ?_); rintro e w1 ⟨rfl, hb⟩)
        | (go_at_call 28; with_reducible refine (HADD.out _).mono ?_; rintro e w2 ⟨rfl, rfl⟩)
        | (go_at_call 22; with_reducible refine (Tryz.rOfU x _ h0 h1).mono ?_; rintro e wa ⟨⟨vx, rfl, Vx⟩, ba⟩; replace hb := hb.trans (ba.mono hb.size))
        | (go_at_call 22; with_reducible refine (Tryz.rOfU y _ h2 h3).mono ?_; rintro e wb ⟨⟨vy, rfl, Vy⟩, bb⟩; replace Vx := Vx.below bb (Nat.le_refl _); replace hb := hb.trans (bb.mono hb.size))
        | (go_at_call 23; with_reducible refine (Tryz.nAdd Vx Vy (by omega)).mono ?_; rintro e wc ⟨⟨vn, rfl, Vn⟩, bc⟩; replace hb := hb.trans (bc.mono hb.size))
        | (go_at_call 23; with_reducible refine (Tryz.nAdd (Vn.alloc _) (NumIs.one _ 1 (by omega) (by omega)) (by omega)).mono ?_; rintro e wd ⟨⟨vo, rfl, Vo⟩, bd⟩; replace hb := (hb.alloc hb.size _).trans (bd.mono (by simp; have := hb.size; omega)))
        | (go_at_call 22; with_reducible refine (Tryz.rOfU s _ s0 s1).mono ?_; rintro e we ⟨⟨vm, rfl, Vm⟩, be⟩; replace Vn := Vn.below be (Nat.le_refl _); replace hb := hb.trans (be.mono hb.size))
        | (go_at_call 24; with_reducible refine (Tryz.nTwo64 _).mono ?_; rintro e wf ⟨⟨vt, rfl, Vt⟩, bf⟩; replace Vn := Vn.below bf (Nat.le_refl _); replace Vm := Vm.below bf (Nat.le_refl _); replace hb := hb.trans (bf.mono hb.size))
        | (go_at_call 23; with_reducible refine (Tryz.nAdd Vm Vt (by omega)).mono ?_; rintro e wg ⟨⟨vk, rfl, Vk⟩, bg⟩; replace Vn := Vn.below bg (Nat.le_refl _); replace hb := hb.trans (bg.mono hb.size))
        | (go_at_call 29; with_reducible refine (HSUB.out _).mono ?_; rintro e w2 ⟨rfl, rfl⟩)
        | (go_at_call 25; with_reducible refine (Tryz.nCmpEq Vn Vk (by have := HE.out; omega)).mono ?_; rintro e w2 ⟨rfl, rfl⟩))
      go_ret
      exact ⟨rfl, hb⟩
  · cases d
    · have hs := HS.out
      simp only [Bool.false_eq_true, if_true, if_false, Int.add_zero] at hs
      have HE := (show Hid _ from hs)
      clear hs
      go_enter Tryz.func5, Tryz.ntmps5
      go_wp2_with (first
        | (go_at_call 11; (with_reducible refine hB.mono ?_); rintro e w1 ⟨rfl, hb⟩)
        | (go_at_call 28; with_reducible refine (HADD.out _).mono ?_; rintro e w2 ⟨rfl, rfl⟩)
        | (go_at_call 22; with_reducible refine (Tryz.rOfU x _ h0 h1).mono ?_; rintro e wa ⟨⟨vx, rfl, Vx⟩, ba⟩; replace hb := hb.trans (ba.mono hb.size))
        | (go_at_call 22; with_reducible refine (Tryz.rOfU y _ h2 h3).mono ?_; rintro e wb ⟨⟨vy, rfl, Vy⟩, bb⟩; replace Vx := Vx.below bb (Nat.le_refl _); replace hb := hb.trans (bb.mono hb.size))
        | (go_at_call 23; with_reducible refine (Tryz.nAdd Vx Vy (by omega)).mono ?_; rintro e wc ⟨⟨vn, rfl, Vn⟩, bc⟩; replace hb := hb.trans (bc.mono hb.size))
        | (go_at_call 23; with_reducible refine (Tryz.nAdd (Vn.alloc _) (NumIs.one _ 1 (by omega) (by omega)) (by omega)).mono ?_; rintro e wd ⟨⟨vo, rfl, Vo⟩, bd⟩; replace hb := (hb.alloc hb.size _).trans (bd.mono (by simp; have := hb.size; omega)))
        | (go_at_call 22; with_reducible refine (Tryz.rOfU s _ s0 s1).mono ?_; rintro e we ⟨⟨vm, rfl, Vm⟩, be⟩; replace Vo := Vo.below be (Nat.le_refl _); replace hb := hb.trans (be.mono hb.size))
        | (go_at_call 24; with_reducible refine (Tryz.nTwo64 _).mono ?_; rintro e wf ⟨⟨vt, rfl, Vt⟩, bf⟩; replace Vo := Vo.below bf (Nat.le_refl _); replace Vm := Vm.below bf (Nat.le_refl _); replace hb := hb.trans (bf.mono hb.size))
        | (go_at_call 23; with_reducible refine (Tryz.nAdd Vm Vt (by omega)).mono ?_; rintro e wg ⟨⟨vk, rfl, Vk⟩, bg⟩; replace Vo := Vo.below bg (Nat.le_refl _); replace hb := hb.trans (bg.mono hb.size))
        | (go_at_call 29; with_reducible refine (HSUB.out _).mono ?_; rintro e w2 ⟨rfl, rfl⟩)
        | (go_at_call 25; with_reducible refine (Tryz.nCmpEq Vo Vm (by have := HE.out; omega)).mono ?_; rintro e w2 ⟨rfl, rfl⟩))
      go_ret
      exact ⟨rfl, hb⟩
    · have hs := HS.out
      simp only [if_true] at hs
      have HE := (show Hid _ from hs)
      clear hs
      go_enter Tryz.func5, Tryz.ntmps5
      go_wp2_with (first
        | (go_at_call 11; (with_reducible refine hB.mono ?_); rintro e w1 ⟨rfl, hb⟩)
        | (go_at_call 28; with_reducible refine (HADD.out _).mono ?_; rintro e w2 ⟨rfl, rfl⟩)
        | (go_at_call 22; with_reducible refine (Tryz.rOfU x _ h0 h1).mono ?_; rintro e wa ⟨⟨vx, rfl, Vx⟩, ba⟩; replace hb := hb.trans (ba.mono hb.size))
        | (go_at_call 22; with_reducible refine (Tryz.rOfU y _ h2 h3).mono ?_; rintro e wb ⟨⟨vy, rfl, Vy⟩, bb⟩; replace Vx := Vx.below bb (Nat.le_refl _); replace hb := hb.trans (bb.mono hb.size))
        | (go_at_call 23; with_reducible refine (Tryz.nAdd Vx Vy (by omega)).mono ?_; rintro e wc ⟨⟨vn, rfl, Vn⟩, bc⟩; replace hb := hb.trans (bc.mono hb.size))
        | (go_at_call 23; with_reducible refine (Tryz.nAdd (Vn.alloc _) (NumIs.one _ 1 (by omega) (by omega)) (by omega)).mono ?_; rintro e wd ⟨⟨vo, rfl, Vo⟩, bd⟩; replace hb := (hb.alloc hb.size _).trans (bd.mono (by simp; have := hb.size; omega)))
        | (go_at_call 22; with_reducible refine (Tryz.rOfU s _ s0 s1).mono ?_; rintro e we ⟨⟨vm, rfl, Vm⟩, be⟩; replace Vo := Vo.below be (Nat.le_refl _); replace hb := hb.trans (be.mono hb.size))
        | (go_at_call 24; with_reducible refine (Tryz.nTwo64 _).mono ?_; rintro e wf ⟨⟨vt, rfl, Vt⟩, bf⟩; replace Vo := Vo.below bf (Nat.le_refl _); replace Vm := Vm.below bf (Nat.le_refl _); replace hb := hb.trans (bf.mono hb.size))
        | (go_at_call 23; with_reducible refine (Tryz.nAdd Vm Vt (by omega)).mono ?_; rintro e wg ⟨⟨vk, rfl, Vk⟩, bg⟩; replace Vo := Vo.below bg (Nat.le_refl _); replace hb := hb.trans (bg.mono hb.size))
        | (go_at_call 29; with_reducible refine (HSUB.out _).mono ?_; rintro e w2 ⟨rfl, rfl⟩)
        | (go_at_call 25; with_reducible refine (Tryz.nCmpEq Vo Vk (by have := HE.out; omega)).mono ?_; rintro e w2 ⟨rfl, rfl⟩))
      go_ret
      exact ⟨rfl, hb⟩
end Go.Proofs
