/- What cmp.Compare at uint64 and compare of the package nat return. -/
import Derived.Test.YtgcnpjnanlbmpaaGreatDoorWd
namespace Go.Proofs.Wd
open Go.RowKit
set_option linter.unusedVariables false
set_option maxHeartbeats 1000000 in
theorem Tryz.nanU (a : Int) (w : World) : Calls Tryz.prog 175 #[.int .u64 a] w fun e w' => e = .returned (.bool false) ∧ w' = w := by
  go_enter Tryz.func175, Tryz.ntmps175
  go_wp2
  all_goals (go_ret; exact ⟨by simp, rfl⟩)
set_option maxHeartbeats 1000000 in
theorem Tryz.nanI (a : Int) (w : World) : Calls Tryz.prog 129 #[.int .i64 a] w fun e w' => e = .returned (.bool false) ∧ w' = w := by
  go_enter Tryz.func129, Tryz.ntmps129
  go_wp2
  all_goals (go_ret; exact ⟨by simp, rfl⟩)
set_option maxHeartbeats 1000000 in
theorem Tryz.cmpU (a b : Int) (w : World) : Calls Tryz.prog 131 #[.int .u64 a, .int .u64 b] w fun e w' => e = .returned (.int .i64 (cmpI a b)) ∧ w' = w := by
  go_enter Tryz.func131, Tryz.ntmps131
  go_wp2_with (go_at_call 175; refine (Tryz.nanU _ _).mono ?_; rintro e w' ⟨rfl, rfl⟩)
  all_goals (go_ret; refine ⟨?_, rfl⟩)
  · rw [cmpI_lt (by assumption)]; rfl
  · rw [cmpI_gt (by assumption)]; rfl
  · rw [cmpI_eq (by omega)]; rfl
set_option maxHeartbeats 1000000 in
theorem Tryz.cmpN (a b : Int) (w : World) : Calls Tryz.prog 74 #[.int .i64 a, .int .i64 b] w fun e w' => e = .returned (.int .i64 (cmpI a b)) ∧ w' = w := by
  go_enter Tryz.func74, Tryz.ntmps74
  go_wp2_with (go_at_call 129; refine (Tryz.nanI _ _).mono ?_; rintro e w' ⟨rfl, rfl⟩)
  all_goals (go_ret; refine ⟨?_, rfl⟩)
  · rw [cmpI_lt (by assumption)]; rfl
  · rw [cmpI_gt (by assumption)]; rfl
  · rw [cmpI_eq (by omega)]; rfl
/-- The longer of two numbers without noughts above is the greater. -/
theorem lenLt {xs ys : List Int} (hx : Dig xs) (hy : Dig ys) (ty : Top ys) (h : xs.length < ys.length) : val xs < val ys := by
  have h1 := val_lt hx
  have h2 := top_pos hy ty (fun e => by subst e; simp at h)
  have h3 := pow_mono' (show xs.length ≤ ys.length - 1 by omega)
  omega
theorem cmpLen {xs ys : List Int} (hx : Dig xs) (hy : Dig ys) (tx : Top xs) (ty : Top ys) (h : xs.length ≠ ys.length) : cmpI (val xs) (val ys) = cmpI xs.length ys.length := by
  by_cases c : xs.length < ys.length
  · rw [cmpI_lt (lenLt hx hy ty c), cmpI_lt (by omega)]
  · rw [cmpI_gt (lenLt hy hx tx (by omega)), cmpI_gt (by omega)]
set_option maxHeartbeats 4000000 in
set_option maxRecDepth 100000 in
theorem Tryz.compare (v u : Value) (xs ys : List Int) (w : World) (hv : Digs w v xs) (hu : Digs w u ys) (hx : Dig xs) (hy : Dig ys) (tx : Top xs) (ty : Top ys) :
    Calls Tryz.prog 79 #[v, u] w fun e w' => e = .returned (.int .i64 (cmpI (val xs) (val ys))) ∧ Below w.heap.size w w' := by
  obtain ⟨p, cap, rfl, hxl, hxr⟩ := hv.slice
  obtain ⟨q, dap, rfl, hyl, hyr⟩ := hu.slice
  have HX : Hid (0 < xs.length → ∃ g, p = some ⟨g, 0, none⟩ ∧ RowAt w g cap xs) := hxr
  have HY : Hid (0 < ys.length → ∃ g, q = some ⟨g, 0, none⟩ ∧ RowAt w g dap ys) := hyr
  have HL : Hid (xs.length ≠ ys.length → cmpI (val xs) (val ys) = cmpI xs.length ys.length) := fun h => cmpLen hx hy tx ty h
  clear hxr hyr hv hu
  obtain ⟨n, hn⟩ : ∃ n, xs.length = n := ⟨_, rfl⟩
  obtain ⟨m, hm⟩ : ∃ m, ys.length = m := ⟨_, rfl⟩
  rw [hn] at hxl
  rw [hm] at hyl
  rw [hn, hm] at HL
  rw [hn, hm]
  go_enter Tryz.func79, Tryz.ntmps79
  by_cases hnm : n = m
  · subst hnm
    go_wp2
    go_loopw [5] (fun i wr => ∃ k : Nat, i = .int .i64 (k - 1) ∧ k ≤ n ∧ val (xs.drop k) = val (ys.drop k) ∧ Below w.heap.size w wr) (fun i _ => (intOf i + 1).toNat)
    case atStart => exact ⟨n, rfl, Nat.le_refl _, by rw [List.drop_eq_nil_of_le (by omega), List.drop_eq_nil_of_le (by omega)], Below.refl _ _⟩
    case round =>
      obtain ⟨k, rfl, hk, he, hb⟩ := hrel
      have HE : Hid (val (xs.drop k) = val (ys.drop k)) := he
      have HB : Hid (Below w.heap.size w wr) := hb
      clear he
      cases k with
      | zero =>
        have H0 : Hid (cmpI (val xs) (val ys) = 0) := cmpI_eq (by simpa using HE.out)
        clear hb
        go_wp2
        go_ret
        exact ⟨by rw [H0.out]; rfl, HB.out⟩
      | succ k =>
        rw [show ((k + 1 : Nat) : Int) - 1 = k by omega]
        obtain ⟨x, hxk⟩ : ∃ x, xs.getD k 0 = x := ⟨_, rfl⟩
        obtain ⟨y, hyk⟩ : ∃ y, ys.getD k 0 = y := ⟨_, rfl⟩
        have HNE : Hid (x ≠ y → cmpI (val xs) (val ys) = cmpI x y) := fun h => by
          by_cases c : x < y
          · rw [cmpI_lt c]; exact cmpI_lt (lt_of_drop hx hy k (by rw [val_drop xs, val_drop ys, hxk, hyk, HE.out]; omega))
          · rw [cmpI_gt (show y < x by omega)]; exact cmpI_gt (lt_of_drop hy hx k (by rw [val_drop xs, val_drop ys, hxk, hyk, HE.out]; omega))
        have HEQ : Hid (x = y → val (xs.drop k) = val (ys.drop k)) := fun h => by rw [val_drop xs, val_drop ys, hxk, hyk, HE.out, h]
        obtain ⟨g, rfl, hr⟩ := HX.out (by omega)
        obtain ⟨g', rfl, hr'⟩ := HY.out (by omega)
        have hcx := (hb.cell (p := ⟨g, k, none⟩) hr.lt).trans (hr.cells k (by omega))
        have hcy := (hb.cell (p := ⟨g', k, none⟩) hr'.lt).trans (hr'.cells k (by omega))
        rw [hxk] at hcx
        rw [hyk] at hcy
        clear hr hr' hxk hyk hb
        go_wp2
        go_region
        go_wp2
        · have hne : x ≠ y := by intro e; subst e; simp at *
          obtain ⟨W1, hW1⟩ : ∃ W, wr.drew = W := ⟨_, rfl⟩
          have hcx1 : W1.cell? ⟨g, k, none⟩ = some (.int .u64 x) := by rw [← hW1]; exact hcx
          have hcy1 : W1.cell? ⟨g', k, none⟩ = some (.int .u64 y) := by rw [← hW1]; exact hcy
          have HBD : Hid (∀ n, Below w.heap.size w (W1.drewN n)) := by rw [← hW1]; exact belowN HB.out.drew
          rw [hW1]
          clear hW1 hcx hcy
          have HNN : Hid (cmpI (val xs) (val ys) = cmpI x y) := HNE.out hne
          have hk1 : (k : Int) < (n : Int) := by omega
          have hk0 : (0 : Int) ≤ (k : Int) := by omega
          go_quiet ((first | (go_at_call 131; exact Calls.quiet_of_same (Tryz.cmpU _ _ _))))
          go_wp2
          go_ret
          exact ⟨by rw [HNN.out]; rfl, HBD.out _⟩
        · have he : x = y := by simpa using (by assumption : (x != y) = false)
          exact ⟨⟨k, rfl, by omega, HEQ.out he, HB.out.drew⟩, by simp [intOf]⟩
  · have HLL : Hid (cmpI (val xs) (val ys) = cmpI n m) := HL.out hnm
    have hne : ((n : Int) != (m : Int)) = true := by simp; omega
    go_wp2_with (go_at_call 74; refine (Tryz.cmpN _ _ _).mono ?_; rintro e w' ⟨rfl, rfl⟩)
    go_ret
    exact ⟨by rw [HLL.out]; rfl, Below.refl _ _⟩
end Go.Proofs.Wd
