/- What Zero, Prod, Sum of the reference's fractions return. -/
import Derived.Test.YtcnjcfoaoaldeaaGreatDoorRn
import Derived.Test.YtcnjcfoaoaldeaaGreatDoorRh
import Derived.Test.YtcnjcfoaoaldeaaGreatDoorRy
import Derived.Test.YtcnjcfoaoaldeaaGreatDoorRa
import Derived.Test.YtcnjcfoaoaldeaaGreatDoorFl
set_option linter.unusedVariables false
set_option maxHeartbeats 8000000
set_option maxRecDepth 100000
namespace Go.Proofs.Vt
open Go.RowKit Go.Proofs.Fr
abbrev NI (w : World) (v : Value) (z : Int) (n : Nat) : Prop := NumIs w v z n
theorem NI.below {w w' : World} {v : Value} {z : Int} {n : Nat} (h : NI w v z n) (hb : Below w.heap.size w w') : NI w' v z n := NumIs.below h hb (Nat.le_refl _)
theorem sgn_prod (n1 n2 : Bool) (a b : Nat) : sgn n1 a * sgn n2 b = sgn (n1 != n2) (a * b) := by
 unfold sgn
 cases n1 <;> cases n2 <;> simp [Int.natCast_mul, Int.neg_mul, Int.mul_neg]
theorem sgn_zero (n : Bool) : sgn n 0 = 0 := by unfold sgn; split <;> rfl
theorem sgn_and (n : Bool) (z : Int) (h : 0 ≤ z) : sgn (n && decide (0 < z)) z.toNat = sgn n z.toNat := by
 by_cases h0 : 0 < z
 ·rw [decide_eq_true h0, Bool.and_true]
 ·have e : z.toNat = 0 := by omega
  rw [e, sgn_zero, sgn_zero]
theorem q_prod {n1 n2 : Bool} {z1 z2 d1 d2 : Int} (h1 : 0 ≤ z1) (h2 : 0 ≤ z2) (e1 : 1 ≤ d1) (e2 : 1 ≤ d2) :
 mkRat (sgn n1 z1.toNat) d1.toNat * mkRat (sgn n2 z2.toNat) d2.toNat = mkRat (sgn ((n1 != n2) && decide (0 < z1 * z2)) (z1 * z2).toNat) (d1 * d2).toNat := by
 rw [Rat.mkRat_mul_mkRat, sgn_prod, sgn_and _ _ (Int.mul_nonneg h1 h2), Int.toNat_mul h1 h2, Int.toNat_mul (by omega) (by omega)]
theorem sgn_int (n : Bool) {z : Int} (h : 0 ≤ z) : sgn n z.toNat = if n then -z else z := by
 unfold sgn; split <;> omega
theorem q_sum {n1 n2 n : Bool} {z1 z2 d1 d2 s : Int} (h1 : 0 ≤ z1) (h2 : 0 ≤ z2) (e1 : 1 ≤ d1) (e2 : 1 ≤ d2) (hs : 0 ≤ s)
 (h : (n1 = n2 ∧ n = n1 ∧ s = z1 * d2 + z2 * d1) ∨ (n1 ≠ n2 ∧ n = n1 ∧ s = z1 * d2 - z2 * d1) ∨ (n1 ≠ n2 ∧ n = n2 ∧ s = z2 * d1 - z1 * d2)) :
 mkRat (sgn n1 z1.toNat) d1.toNat + mkRat (sgn n2 z2.toNat) d2.toNat = mkRat (sgn (n && decide (0 < s)) s.toNat) (d1 * d2).toNat := by
 rw [Rat.mkRat_add_mkRat _ _ (by omega) (by omega), sgn_and _ _ hs, sgn_int _ h1, sgn_int _ h2, sgn_int _ hs, Int.toNat_of_nonneg (by omega), Int.toNat_of_nonneg (by omega), Int.toNat_mul (by omega) (by omega)]
 congr 1
 rcases h with ⟨rfl, rfl, rfl⟩ | ⟨g, rfl, rfl⟩ | ⟨g, rfl, rfl⟩
 ·cases n <;> simp <;> grind
 ·cases n <;> cases n2 <;> simp at g ⊢ <;> grind
 ·cases n1 <;> cases n <;> simp at g ⊢ <;> grind
theorem Tryz.rProd (v u : Value) (a b : Rat) (n m : Nat) (w : World) (hv : QIs w v a n) (hu : QIs w u b m) (hlen : n + m ≤ 1000000) :
 Calls Tryz.prog 22 #[v, u] w fun e w' => (∃ r, e = .returned r ∧ QIs w' r (a * b) (n + m + 1)) ∧ Below w.heap.size w w' := by
 obtain ⟨n1, N1, D1, z1, d1, rfl, hN1, hD1, hd1, hz1, rfl⟩ := hv
 obtain ⟨n2, N2, D2, z2, d2, rfl, hN2, hD2, hd2, hz2, rfl⟩ := hu
 obtain ⟨p1, k1, c1, rfl⟩ := hN1.slice
 obtain ⟨p2, k2, c2, rfl⟩ := hD1.slice
 obtain ⟨p3, k3, c3, rfl⟩ := hN2.slice
 obtain ⟨p4, k4, c4, rfl⟩ := hD2.slice
 have HZ1 := Lib.hid hN1.nonneg
 have HZ2 := Lib.hid hN2.nonneg
 have HE1 := Lib.hid hd1
 have HE2 := Lib.hid hd2
 obtain ⟨wA, hwA⟩ : ∃ W, w.alloc (.cells #[.bool n1, .slice p1 k1 c1, .slice p2 k2 c2] 35) = W := ⟨_, rfl⟩
 have hB1 : Below w.heap.size w wA := by rw [← hwA]; exact (Below.refl _ _).alloc (Nat.le_refl _) _
 have hA1 : CellsAt wA w.heap.size #[.bool n1, .slice p1 k1 c1, .slice p2 k2 c2] 35 := by rw [← hwA]; exact CellsAt.new w _ _ rfl
 obtain ⟨wB, hwB⟩ : ∃ W, wA.alloc (.cells #[.bool n2, .slice p3 k3 c3, .slice p4 k4 c4] 35) = W := ⟨_, rfl⟩
 have hB2 : Below wA.heap.size wA wB := by rw [← hwB]; exact (Below.refl _ _).alloc (Nat.le_refl _) _
 have hC2 : CellsAt wB wA.heap.size #[.bool n2, .slice p3 k3 c3, .slice p4 k4 c4] 35 := by rw [← hwB]; exact CellsAt.new wA _ _ rfl
 have hB3 : Below wB.heap.size wB (wB.alloc (.cells #[.bool false, .slice none 0 0, .slice none 0 0] 35)) := (Below.refl _ _).alloc (Nat.le_refl _) _
 have l1 : w.heap.size < wA.heap.size := hA1.lt
 have l2 : wA.heap.size < wB.heap.size := hC2.lt
 have hB := (hB1.trans (hB2.mono hB1.size)).trans (hB3.mono (Nat.le_trans hB1.size hB2.size))
 have HB := Lib.hid hB
 have HA := Lib.hid ((hA1.below hB2).below hB3)
 have HC := Lib.hid (hC2.below hB3)
 have HR : Hid (CellsAt (wB.alloc (.cells #[.bool false, .slice none 0 0, .slice none 0 0] 35)) wB.heap.size #[.bool false, .slice none 0 0, .slice none 0 0] 35) := CellsAt.new _ _ _ rfl
 have HN1 : Hid (NI (wB.alloc (.cells #[.bool false, .slice none 0 0, .slice none 0 0] 35)) (.slice p1 k1 c1) z1 n) := NI.below hN1 hB
 have HD1 : Hid (NI (wB.alloc (.cells #[.bool false, .slice none 0 0, .slice none 0 0] 35)) (.slice p2 k2 c2) d1 n) := NI.below hD1 hB
 have HN2 : Hid (NI (wB.alloc (.cells #[.bool false, .slice none 0 0, .slice none 0 0] 35)) (.slice p3 k3 c3) z2 m) := NI.below hN2 hB
 have HD2 : Hid (NI (wB.alloc (.cells #[.bool false, .slice none 0 0, .slice none 0 0] 35)) (.slice p4 k4 c4) d2 m) := NI.below hD2 hB
 clear hN1 hD1 hN2 hD2 hd1 hd2 hz1 hz2 hB hB1 hB2 hB3 hA1 hC2
 go_enter Tryz.func22, Tryz.ntmps22
 go_wp2_with fail
 clear hwA hwB
 generalize (wB.alloc (.cells #[.bool false, .slice none 0 0, .slice none 0 0] 35)) = w0 at *
 refine wp_region_held_drew (S := fun w' => w'.cell? ⟨w.heap.size, 0, none⟩ = some (.bool n1) ∧ w'.cell? ⟨w.heap.size, 1, none⟩ = some (.slice p1 k1 c1) ∧ w'.cell? ⟨w.heap.size, 2, none⟩ = some (.slice p2 k2 c2) ∧ w'.cell? ⟨wA.heap.size, 0, none⟩ = some (.bool n2) ∧ w'.cell? ⟨wA.heap.size, 1, none⟩ = some (.slice p3 k3 c3) ∧ w'.cell? ⟨wA.heap.size, 2, none⟩ = some (.slice p4 k4 c4)) (by kernel_rfl) ⟨HA.out.cell 0, HA.out.cell 1, HA.out.cell 2, HC.out.cell 0, HC.out.cell 1, HC.out.cell 2⟩ (fun hHeld => ?_)
 replace HB := Lib.hid (HB.out.drew)
 replace HA := Lib.hid (HA.out.below (Below.refl _ _).drew)
 replace HC := Lib.hid (HC.out.below (Below.refl _ _).drew)
 replace HR := Lib.hid (HR.out.below (Below.refl _ _).drew)
 replace HN1 := Lib.hid (HN1.out.below (Below.refl _ _).drew)
 replace HD1 := Lib.hid (HD1.out.below (Below.refl _ _).drew)
 replace HN2 := Lib.hid (HN2.out.below (Below.refl _ _).drew)
 replace HD2 := Lib.hid (HD2.out.below (Below.refl _ _).drew)
 clear hHeld
 generalize w0.drew = w0d at *
 have hHeld : (fun w' : World => w'.cell? ⟨w.heap.size, 0, none⟩ = some (.bool n1) ∧ w'.cell? ⟨w.heap.size, 1, none⟩ = some (.slice p1 k1 c1) ∧ w'.cell? ⟨w.heap.size, 2, none⟩ = some (.slice p2 k2 c2) ∧ w'.cell? ⟨wA.heap.size, 0, none⟩ = some (.bool n2) ∧ w'.cell? ⟨wA.heap.size, 1, none⟩ = some (.slice p3 k3 c3) ∧ w'.cell? ⟨wA.heap.size, 2, none⟩ = some (.slice p4 k4 c4)) w0d := ⟨HA.out.cell 0, HA.out.cell 1, HA.out.cell 2, HC.out.cell 0, HC.out.cell 1, HC.out.cell 2⟩
 refine takeY 0 (h := ?_)
 refine takeY 1 (h := ?_)
 refine takeY 2 (h := ?_)
 (try simp only [Act.put, List.setIfInBounds_toArray, List.set_cons_zero, List.set_cons_succ])
 refine takeY 3 (h := ?_)
 refine takeY 4 (h := ?_)
 refine takeY 5 (h := ?_)
 (try simp only [Act.put, List.setIfInBounds_toArray, List.set_cons_zero, List.set_cons_succ])
 refine takeY 6 (h := ?_)
 refine takeY 7 (h := ?_)
 refine takeY 8 (h := ?_)
 (try simp only [Act.put, List.setIfInBounds_toArray, List.set_cons_zero, List.set_cons_succ])
 refine takeY 10 (h := ?_)
 refine takeY 11 (h := ?_)
 refine takeY 12 (h := ?_)
 (try simp only [Act.put, List.setIfInBounds_toArray, List.set_cons_zero, List.set_cons_succ])
 refine takeY 13 (h := ?_)
 (try simp only [Act.put, List.setIfInBounds_toArray, List.set_cons_zero, List.set_cons_succ])
 refine wpAnyH_ready (rs := [9]) (by kernel_rfl) (by simp) ?_
 refine AllReadyH.cons (by (simp only [List.getElem?_toArray, List.getElem?_cons_succ, List.getElem?_cons_zero]) <;> rfl) (fun KX hK => ?_) AllReadyH.nil
 go_simp
 with_reducible refine (Tryz.nMul HN1.out HN2.out (by omega)).mono ?_
 rintro e w0d21 ⟨⟨v1, rfl, h1⟩, hb⟩
 obtain ⟨q1, l1, e1, rfl⟩ := h1.slice
 have h1 : NI _ (.slice q1 l1 e1) (z1 * z2) (n + m + 1) := h1
 clear hHeld
 replace HB := Lib.hid (HB.out.trans (hb.mono HB.out.size))
 replace HA := Lib.hid (HA.out.below hb)
 replace HC := Lib.hid (HC.out.below hb)
 replace HR := Lib.hid (HR.out.below hb)
 replace HN1 := Lib.hid (HN1.out.below hb)
 replace HD1 := Lib.hid (HD1.out.below hb)
 replace HN2 := Lib.hid (HN2.out.below hb)
 replace HD2 := Lib.hid (HD2.out.below hb)
 clear hb
 have HX := Lib.hid h1
 clear h1
 refine hK.out _ _ ⟨HA.out.cell 0, HA.out.cell 1, HA.out.cell 2, HC.out.cell 0, HC.out.cell 1, HC.out.cell 2⟩ (fun hHeld => ?_)
 clear hK KX
 (try simp only [Act.put, List.setIfInBounds_toArray, List.set_cons_zero, List.set_cons_succ])
 refine wpAnyH_ready (rs := [14]) (by kernel_rfl) (by simp) ?_
 refine AllReadyH.cons (by (simp only [List.getElem?_toArray, List.getElem?_cons_succ, List.getElem?_cons_zero]) <;> rfl) (fun KX hK => ?_) AllReadyH.nil
 go_simp
 with_reducible refine (Tryz.nMul HD1.out HD2.out (by omega)).mono ?_
 rintro e w0d22 ⟨⟨v2, rfl, h2⟩, hb⟩
 obtain ⟨q2, l2, e2, rfl⟩ := h2.slice
 have h2 : NI _ (.slice q2 l2 e2) (d1 * d2) (n + m + 1) := h2
 clear hHeld
 replace HB := Lib.hid (HB.out.trans (hb.mono HB.out.size))
 replace HA := Lib.hid (HA.out.below hb)
 replace HC := Lib.hid (HC.out.below hb)
 replace HR := Lib.hid (HR.out.below hb)
 replace HN1 := Lib.hid (HN1.out.below hb)
 replace HD1 := Lib.hid (HD1.out.below hb)
 replace HN2 := Lib.hid (HN2.out.below hb)
 replace HD2 := Lib.hid (HD2.out.below hb)
 replace HX := Lib.hid (HX.out.below hb)
 clear hb
 have HY := Lib.hid h2
 clear h2
 refine hK.out _ _ ⟨HA.out.cell 0, HA.out.cell 1, HA.out.cell 2, HC.out.cell 0, HC.out.cell 1, HC.out.cell 2⟩ (fun hHeld => ?_)
 clear hK KX
 (try simp only [Act.put, List.setIfInBounds_toArray, List.set_cons_zero, List.set_cons_succ])
 obtain ⟨bb, hbb⟩ : ∃ bb : Bool, ((!(n1 == n2)) && decide (0 < z1 * z2)) = bb := ⟨_, rfl⟩
 have HBB := Lib.hid hbb
 refine wpAnyH_ready (rs := [15]) (by kernel_rfl) (by simp) ?_
 refine AllReadyH.cons (by (simp only [List.getElem?_toArray, List.getElem?_cons_succ, List.getElem?_cons_zero]) <;> rfl) (fun KX hK => ?_) AllReadyH.nil
 go_simp
 with_reducible refine (Tryz.rFrac (!(n1 == n2)) (.slice q1 l1 e1) (.slice q2 l2 e2) (z1 * z2) (d1 * d2) _ _ _ HX.out HY.out).mono ?_
 rintro e w0d23 ⟨rfl, hb⟩
 rw [hbb]
 clear hbb
 clear hHeld
 replace HB := Lib.hid (HB.out.trans (hb.mono HB.out.size))
 replace HA := Lib.hid (HA.out.below hb)
 replace HC := Lib.hid (HC.out.below hb)
 replace HR := Lib.hid (HR.out.below hb)
 replace HN1 := Lib.hid (HN1.out.below hb)
 replace HD1 := Lib.hid (HD1.out.below hb)
 replace HN2 := Lib.hid (HN2.out.below hb)
 replace HD2 := Lib.hid (HD2.out.below hb)
 replace HX := Lib.hid (HX.out.below hb)
 replace HY := Lib.hid (HY.out.below hb)
 clear hb
 refine hK.out _ _ ⟨HA.out.cell 0, HA.out.cell 1, HA.out.cell 2, HC.out.cell 0, HC.out.cell 1, HC.out.cell 2⟩ (fun hHeld => ?_)
 clear hK KX
 (try simp only [Act.put, List.setIfInBounds_toArray, List.set_cons_zero, List.set_cons_succ])
 refine wpAnyH_ready (rs := [16]) (by kernel_rfl) (by simp) ?_
 refine AllReadyH.cons (by (simp only [List.getElem?_toArray, List.getElem?_cons_succ, List.getElem?_cons_zero]) <;> rfl) (fun KX hK => ?_) AllReadyH.nil
 have r0 := HR.out.cell 0
 have f0 := HR.out.free 0
 have r1 := HR.out.cell 1
 have f1 := HR.out.free 1
 have r2 := HR.out.cell 2
 have f2 := HR.out.free 2
 simp only [List.getElem?_toArray, List.getElem?_cons_zero, List.getElem?_cons_succ] at r0 r1 r2
 go_simp
 replace HX := Lib.hid (NumIs.put3 (x := .bool bb) (y := .slice q1 l1 e1) (u := .slice q2 l2 e2) HX.out HR.out (by decide))
 replace HY := Lib.hid (NumIs.put3 (x := .bool bb) (y := .slice q1 l1 e1) (u := .slice q2 l2 e2) HY.out HR.out (by decide))
 replace HA := Lib.hid (((HA.out.other (g := wB.heap.size) (by omega) 0 (.bool bb)).other (g := wB.heap.size) (by omega) 1 (.slice q1 l1 e1)).other (g := wB.heap.size) (by omega) 2 (.slice q2 l2 e2))
 replace HC := Lib.hid (((HC.out.other (g := wB.heap.size) (by omega) 0 (.bool bb)).other (g := wB.heap.size) (by omega) 1 (.slice q1 l1 e1)).other (g := wB.heap.size) (by omega) 2 (.slice q2 l2 e2))
 replace HB := Lib.hid (((HB.out.setCell (p := ⟨wB.heap.size, 0, none⟩) (by simp only []; omega) (.bool bb)).setCell (p := ⟨wB.heap.size, 1, none⟩) (by simp only []; omega) (.slice q1 l1 e1)).setCell (p := ⟨wB.heap.size, 2, none⟩) (by simp only []; omega) (.slice q2 l2 e2))
 replace HR := Lib.hid (HR.out.put3 (x := .bool bb) (y := .slice q1 l1 e1) (z := .slice q2 l2 e2))
 clear hHeld r0 r1 r2 f0 f1 f2 HN1 HD1 HN2 HD2
 generalize ((w0d23.setCell ⟨wB.heap.size, 0, none⟩ (.bool bb)).setCell ⟨wB.heap.size, 1, none⟩ (.slice q1 l1 e1)).setCell ⟨wB.heap.size, 2, none⟩ (.slice q2 l2 e2) = w44 at *
 refine hK.out _ _ ⟨HA.out.cell 0, HA.out.cell 1, HA.out.cell 2, HC.out.cell 0, HC.out.cell 1, HC.out.cell 2⟩ (fun hHeld => ?_)
 clear hK KX
 (try simp only [Act.put, List.setIfInBounds_toArray, List.set_cons_zero, List.set_cons_succ])
 refine wpAnyH_done (by kernel_rfl) ?_ _
 have r0 := HR.out.cell 0
 have r1 := HR.out.cell 1
 have r2 := HR.out.cell 2
 simp only [List.getElem?_toArray, List.getElem?_cons_zero, List.getElem?_cons_succ] at r0 r1 r2
 go_wp2_with fail
 (try simp only [Exit.inBlock, Exit.then])
 refine bodyPost_ret (v := .agg #[.bool bb, .slice q1 l1 e1, .slice q2 l2 e2]) (by simp [results, Tryz.results22, go_sem, r0, r1, r2]; try rfl) rfl ⟨⟨_, rfl, bb, _, _, z1 * z2, d1 * d2, rfl, HX.out, HY.out, Int.mul_pos HE1.out HE2.out, fun h => by have := HBB.out; rw [h] at this; simp at this; omega, by rw [← HBB.out]; exact q_prod HZ1.out HZ2.out HE1.out HE2.out⟩, HB.out⟩
theorem Tryz.rSum (v u : Value) (a b : Rat) (n m : Nat) (w : World) (hv : QIs w v a n) (hu : QIs w u b m) (hlen : n + m ≤ 400000) :
 Calls Tryz.prog 21 #[v, u] w fun e w' => (∃ r, e = .returned r ∧ QIs w' r (a + b) (n + m + 2)) ∧ Below w.heap.size w w' := by
 obtain ⟨n1, N1, D1, z1, d1, rfl, hN1, hD1, hd1, hz1, rfl⟩ := hv
 obtain ⟨n2, N2, D2, z2, d2, rfl, hN2, hD2, hd2, hz2, rfl⟩ := hu
 obtain ⟨p1, k1, c1, rfl⟩ := hN1.slice
 obtain ⟨p2, k2, c2, rfl⟩ := hD1.slice
 obtain ⟨p3, k3, c3, rfl⟩ := hN2.slice
 obtain ⟨p4, k4, c4, rfl⟩ := hD2.slice
 have HZ1 := Lib.hid hN1.nonneg
 have HZ2 := Lib.hid hN2.nonneg
 have HE1 := Lib.hid hd1
 have HE2 := Lib.hid hd2
 obtain ⟨wA, hwA⟩ : ∃ W, w.alloc (.cells #[.bool n1, .slice p1 k1 c1, .slice p2 k2 c2] 35) = W := ⟨_, rfl⟩
 have hB1 : Below w.heap.size w wA := by rw [← hwA]; exact (Below.refl _ _).alloc (Nat.le_refl _) _
 have hA1 : CellsAt wA w.heap.size #[.bool n1, .slice p1 k1 c1, .slice p2 k2 c2] 35 := by rw [← hwA]; exact CellsAt.new w _ _ rfl
 obtain ⟨wB, hwB⟩ : ∃ W, wA.alloc (.cells #[.bool n2, .slice p3 k3 c3, .slice p4 k4 c4] 35) = W := ⟨_, rfl⟩
 have hB2 : Below wA.heap.size wA wB := by rw [← hwB]; exact (Below.refl _ _).alloc (Nat.le_refl _) _
 have hC2 : CellsAt wB wA.heap.size #[.bool n2, .slice p3 k3 c3, .slice p4 k4 c4] 35 := by rw [← hwB]; exact CellsAt.new wA _ _ rfl
 have hB3 : Below wB.heap.size wB (wB.alloc (.cells #[.bool false, .slice none 0 0, .slice none 0 0] 35)) := (Below.refl _ _).alloc (Nat.le_refl _) _
 have l1 : w.heap.size < wA.heap.size := hA1.lt
 have l2 : wA.heap.size < wB.heap.size := hC2.lt
 have hB := (hB1.trans (hB2.mono hB1.size)).trans (hB3.mono (Nat.le_trans hB1.size hB2.size))
 have HB := Lib.hid hB
 have HA := Lib.hid ((hA1.below hB2).below hB3)
 have HC := Lib.hid (hC2.below hB3)
 have HR : Hid (CellsAt (wB.alloc (.cells #[.bool false, .slice none 0 0, .slice none 0 0] 35)) wB.heap.size #[.bool false, .slice none 0 0, .slice none 0 0] 35) := CellsAt.new _ _ _ rfl
 have HN1 : Hid (NI (wB.alloc (.cells #[.bool false, .slice none 0 0, .slice none 0 0] 35)) (.slice p1 k1 c1) z1 n) := NI.below hN1 hB
 have HD1 : Hid (NI (wB.alloc (.cells #[.bool false, .slice none 0 0, .slice none 0 0] 35)) (.slice p2 k2 c2) d1 n) := NI.below hD1 hB
 have HN2 : Hid (NI (wB.alloc (.cells #[.bool false, .slice none 0 0, .slice none 0 0] 35)) (.slice p3 k3 c3) z2 m) := NI.below hN2 hB
 have HD2 : Hid (NI (wB.alloc (.cells #[.bool false, .slice none 0 0, .slice none 0 0] 35)) (.slice p4 k4 c4) d2 m) := NI.below hD2 hB
 clear hN1 hD1 hN2 hD2 hd1 hd2 hz1 hz2 hB hB1 hB2 hB3 hA1 hC2
 go_enter Tryz.func21, Tryz.ntmps21
 go_wp2_with fail
 clear hwA hwB
 generalize (wB.alloc (.cells #[.bool false, .slice none 0 0, .slice none 0 0] 35)) = w0 at *
 refine wp_region_held_drew (S := fun w' => w'.cell? ⟨w.heap.size, 0, none⟩ = some (.bool n1) ∧ w'.cell? ⟨w.heap.size, 1, none⟩ = some (.slice p1 k1 c1) ∧ w'.cell? ⟨w.heap.size, 2, none⟩ = some (.slice p2 k2 c2) ∧ w'.cell? ⟨wA.heap.size, 0, none⟩ = some (.bool n2) ∧ w'.cell? ⟨wA.heap.size, 1, none⟩ = some (.slice p3 k3 c3) ∧ w'.cell? ⟨wA.heap.size, 2, none⟩ = some (.slice p4 k4 c4)) (by kernel_rfl) ⟨HA.out.cell 0, HA.out.cell 1, HA.out.cell 2, HC.out.cell 0, HC.out.cell 1, HC.out.cell 2⟩ (fun hHeld => ?_)
 replace HB := Lib.hid (HB.out.drew)
 replace HA := Lib.hid (HA.out.below (Below.refl _ _).drew)
 replace HC := Lib.hid (HC.out.below (Below.refl _ _).drew)
 replace HR := Lib.hid (HR.out.below (Below.refl _ _).drew)
 replace HN1 := Lib.hid (HN1.out.below (Below.refl _ _).drew)
 replace HD1 := Lib.hid (HD1.out.below (Below.refl _ _).drew)
 replace HN2 := Lib.hid (HN2.out.below (Below.refl _ _).drew)
 replace HD2 := Lib.hid (HD2.out.below (Below.refl _ _).drew)
 clear hHeld
 generalize w0.drew = w0d at *
 have hHeld : (fun w' : World => w'.cell? ⟨w.heap.size, 0, none⟩ = some (.bool n1) ∧ w'.cell? ⟨w.heap.size, 1, none⟩ = some (.slice p1 k1 c1) ∧ w'.cell? ⟨w.heap.size, 2, none⟩ = some (.slice p2 k2 c2) ∧ w'.cell? ⟨wA.heap.size, 0, none⟩ = some (.bool n2) ∧ w'.cell? ⟨wA.heap.size, 1, none⟩ = some (.slice p3 k3 c3) ∧ w'.cell? ⟨wA.heap.size, 2, none⟩ = some (.slice p4 k4 c4)) w0d := ⟨HA.out.cell 0, HA.out.cell 1, HA.out.cell 2, HC.out.cell 0, HC.out.cell 1, HC.out.cell 2⟩
 refine takeY 0 (h := ?_)
 refine takeY 1 (h := ?_)
 refine takeY 2 (h := ?_)
 (try simp only [Act.put, List.setIfInBounds_toArray, List.set_cons_zero, List.set_cons_succ])
 refine takeY 3 (h := ?_)
 refine takeY 5 (h := ?_)
 refine takeY 6 (h := ?_)
 (try simp only [Act.put, List.setIfInBounds_toArray, List.set_cons_zero, List.set_cons_succ])
 refine takeY 7 (h := ?_)
 refine takeY 8 (h := ?_)
 (try simp only [Act.put, List.setIfInBounds_toArray, List.set_cons_zero, List.set_cons_succ])
 refine wpAnyH_ready (rs := [4]) (by kernel_rfl) (by simp) ?_
 refine AllReadyH.cons (by (simp only [List.getElem?_toArray, List.getElem?_cons_succ, List.getElem?_cons_zero]) <;> rfl) (fun KX hK => ?_) AllReadyH.nil
 go_simp
 with_reducible refine (Tryz.nMul HN1.out HD2.out (by omega)).mono ?_
 rintro e w0d21 ⟨⟨v1, rfl, h1⟩, hb⟩
 obtain ⟨q1, l1, e1, rfl⟩ := h1.slice
 have h1 : NI _ (.slice q1 l1 e1) (z1 * d2) (n + m + 1) := h1
 clear hHeld
 replace HB := Lib.hid (HB.out.trans (hb.mono HB.out.size))
 replace HA := Lib.hid (HA.out.below hb)
 replace HC := Lib.hid (HC.out.below hb)
 replace HR := Lib.hid (HR.out.below hb)
 replace HN1 := Lib.hid (HN1.out.below hb)
 replace HD1 := Lib.hid (HD1.out.below hb)
 replace HN2 := Lib.hid (HN2.out.below hb)
 replace HD2 := Lib.hid (HD2.out.below hb)
 clear hb
 have HX := Lib.hid h1
 clear h1
 refine hK.out _ _ ⟨HA.out.cell 0, HA.out.cell 1, HA.out.cell 2, HC.out.cell 0, HC.out.cell 1, HC.out.cell 2⟩ (fun hHeld => ?_)
 clear hK KX
 (try simp only [Act.put, List.setIfInBounds_toArray, List.set_cons_zero, List.set_cons_succ])
 refine wpAnyH_ready (rs := [9]) (by kernel_rfl) (by simp) ?_
 refine AllReadyH.cons (by (simp only [List.getElem?_toArray, List.getElem?_cons_succ, List.getElem?_cons_zero]) <;> rfl) (fun KX hK => ?_) AllReadyH.nil
 go_simp
 with_reducible refine (Tryz.nMul HN2.out HD1.out (by omega)).mono ?_
 rintro e w0d22 ⟨⟨v2, rfl, h2⟩, hb⟩
 obtain ⟨q2, l2, e2, rfl⟩ := h2.slice
 have h2 : NI _ (.slice q2 l2 e2) (z2 * d1) (m + n + 1) := h2
 clear hHeld
 replace HB := Lib.hid (HB.out.trans (hb.mono HB.out.size))
 replace HA := Lib.hid (HA.out.below hb)
 replace HC := Lib.hid (HC.out.below hb)
 replace HR := Lib.hid (HR.out.below hb)
 replace HN1 := Lib.hid (HN1.out.below hb)
 replace HD1 := Lib.hid (HD1.out.below hb)
 replace HN2 := Lib.hid (HN2.out.below hb)
 replace HD2 := Lib.hid (HD2.out.below hb)
 replace HX := Lib.hid (HX.out.below hb)
 clear hb
 have HY := Lib.hid h2
 clear h2
 refine hK.out _ _ ⟨HA.out.cell 0, HA.out.cell 1, HA.out.cell 2, HC.out.cell 0, HC.out.cell 1, HC.out.cell 2⟩ (fun hHeld => ?_)
 clear hK KX
 (try simp only [Act.put, List.setIfInBounds_toArray, List.set_cons_zero, List.set_cons_succ])
 refine takeY 10 (h := ?_)
 refine takeY 11 (h := ?_)
 (try simp only [Act.put, List.setIfInBounds_toArray, List.set_cons_zero, List.set_cons_succ])
 refine wpAnyH_done (by kernel_rfl) ?_ _
 clear hHeld
 have a0 := HA.out.cell 0
 have a2 := HA.out.cell 2
 have c0 := HC.out.cell 0
 have c2 := HC.out.cell 2
 simp only [List.getElem?_toArray, List.getElem?_cons_zero, List.getElem?_cons_succ] at a0 a2 c0 c2
 go_wp2_with fail
 with_reducible refine (Tryz.nMul HD1.out HD2.out (by omega)).mono ?_
 rintro e w30 ⟨⟨v3, rfl, h3⟩, hb⟩
 obtain ⟨q3, l3, e3, rfl⟩ := h3.slice
 have h3 : NI _ (.slice q3 l3 e3) (d1 * d2) (n + m + 1) := h3
 clear a0 a2 c0 c2
 replace HB := Lib.hid (HB.out.trans (hb.mono HB.out.size))
 replace HA := Lib.hid (HA.out.below hb)
 replace HC := Lib.hid (HC.out.below hb)
 replace HR := Lib.hid (HR.out.below hb)
 replace HN1 := Lib.hid (HN1.out.below hb)
 replace HD1 := Lib.hid (HD1.out.below hb)
 replace HN2 := Lib.hid (HN2.out.below hb)
 replace HD2 := Lib.hid (HD2.out.below hb)
 replace HX := Lib.hid (HX.out.below hb)
 replace HY := Lib.hid (HY.out.below hb)
 clear hb
 have HD := Lib.hid h3
 clear h3
 have hx0 := NumIs.nonneg HX.out
 have hy0 := NumIs.nonneg HY.out
 have HX0 := Lib.hid hx0
 have HY0 := Lib.hid hy0
 clear hx0 hy0
 have a0 := HA.out.cell 0
 have c0 := HC.out.cell 0
 simp only [List.getElem?_toArray, List.getElem?_cons_zero] at a0 c0
 by_cases hn : n1 = n2
 ·have hnb : (n1 == n2) = true := by simpa using hn
  have HN := Lib.hid hn
  clear hn
  go_wp2_with fail
  clear a0 c0
  refine wp_region_held_drew (S := fun w' => w'.cell? ⟨w.heap.size, 0, none⟩ = some (.bool n1) ∧ w'.cell? ⟨w.heap.size, 1, none⟩ = some (.slice p1 k1 c1) ∧ w'.cell? ⟨w.heap.size, 2, none⟩ = some (.slice p2 k2 c2) ∧ w'.cell? ⟨wA.heap.size, 0, none⟩ = some (.bool n2) ∧ w'.cell? ⟨wA.heap.size, 1, none⟩ = some (.slice p3 k3 c3) ∧ w'.cell? ⟨wA.heap.size, 2, none⟩ = some (.slice p4 k4 c4)) (by kernel_rfl) ⟨HA.out.cell 0, HA.out.cell 1, HA.out.cell 2, HC.out.cell 0, HC.out.cell 1, HC.out.cell 2⟩ (fun hHeld => ?_)
  replace HB := Lib.hid (HB.out.drew)
  replace HA := Lib.hid (HA.out.below (Below.refl _ _).drew)
  replace HC := Lib.hid (HC.out.below (Below.refl _ _).drew)
  replace HR := Lib.hid (HR.out.below (Below.refl _ _).drew)
  replace HN1 := Lib.hid (HN1.out.below (Below.refl _ _).drew)
  replace HD1 := Lib.hid (HD1.out.below (Below.refl _ _).drew)
  replace HN2 := Lib.hid (HN2.out.below (Below.refl _ _).drew)
  replace HD2 := Lib.hid (HD2.out.below (Below.refl _ _).drew)
  replace HX := Lib.hid (HX.out.below (Below.refl _ _).drew)
  replace HY := Lib.hid (HY.out.below (Below.refl _ _).drew)
  replace HD := Lib.hid (HD.out.below (Below.refl _ _).drew)
  clear hHeld
  generalize w30.drew = w30d at *
  have hHeld : (fun w' : World => w'.cell? ⟨w.heap.size, 0, none⟩ = some (.bool n1) ∧ w'.cell? ⟨w.heap.size, 1, none⟩ = some (.slice p1 k1 c1) ∧ w'.cell? ⟨w.heap.size, 2, none⟩ = some (.slice p2 k2 c2) ∧ w'.cell? ⟨wA.heap.size, 0, none⟩ = some (.bool n2) ∧ w'.cell? ⟨wA.heap.size, 1, none⟩ = some (.slice p3 k3 c3) ∧ w'.cell? ⟨wA.heap.size, 2, none⟩ = some (.slice p4 k4 c4)) w30d := ⟨HA.out.cell 0, HA.out.cell 1, HA.out.cell 2, HC.out.cell 0, HC.out.cell 1, HC.out.cell 2⟩
  refine takeY 0 (h := ?_)
  refine takeY 1 (h := ?_)
  refine takeY 2 (h := ?_)
  (try simp only [Act.put, List.setIfInBounds_toArray, List.set_cons_zero, List.set_cons_succ])
  refine takeY 3 (h := ?_)
  refine takeY 5 (h := ?_)
  (try simp only [Act.put, List.setIfInBounds_toArray, List.set_cons_zero, List.set_cons_succ])
  refine wpAnyH_ready (rs := [4]) (by kernel_rfl) (by simp) ?_
  refine AllReadyH.cons (by (simp only [List.getElem?_toArray, List.getElem?_cons_succ, List.getElem?_cons_zero]) <;> rfl) (fun KX hK => ?_) AllReadyH.nil
  go_simp
  with_reducible refine (Tryz.nAdd HX.out HY.out (by omega)).mono ?_
  rintro e w30d23 ⟨⟨v4, rfl, h4⟩, hb⟩
  obtain ⟨q4, l4, e4, rfl⟩ := h4.slice
  have h4 : NI _ (.slice q4 l4 e4) (z1 * d2 + z2 * d1) _ := h4
  clear hHeld
  replace HB := Lib.hid (HB.out.trans (hb.mono HB.out.size))
  replace HA := Lib.hid (HA.out.below hb)
  replace HC := Lib.hid (HC.out.below hb)
  replace HR := Lib.hid (HR.out.below hb)
  replace HN1 := Lib.hid (HN1.out.below hb)
  replace HD1 := Lib.hid (HD1.out.below hb)
  replace HN2 := Lib.hid (HN2.out.below hb)
  replace HD2 := Lib.hid (HD2.out.below hb)
  replace HX := Lib.hid (HX.out.below hb)
  replace HY := Lib.hid (HY.out.below hb)
  replace HD := Lib.hid (HD.out.below hb)
  clear hb
  have HS := Lib.hid h4
  clear h4
  refine hK.out _ _ ⟨HA.out.cell 0, HA.out.cell 1, HA.out.cell 2, HC.out.cell 0, HC.out.cell 1, HC.out.cell 2⟩ (fun hHeld => ?_)
  clear hK KX
  (try simp only [Act.put, List.setIfInBounds_toArray, List.set_cons_zero, List.set_cons_succ])
  obtain ⟨bb, hbb⟩ : ∃ bb : Bool, (n1 && decide (0 < z1 * d2 + z2 * d1)) = bb := ⟨_, rfl⟩
  have HBB := Lib.hid hbb
  have HS0 := Lib.hid (NumIs.nonneg HS.out)
  refine wpAnyH_ready (rs := [6]) (by kernel_rfl) (by simp) ?_
  refine AllReadyH.cons (by (simp only [List.getElem?_toArray, List.getElem?_cons_succ, List.getElem?_cons_zero]) <;> rfl) (fun KX hK => ?_) AllReadyH.nil
  go_simp
  with_reducible refine (Tryz.rFrac n1 (.slice q4 l4 e4) (.slice q3 l3 e3) (z1 * d2 + z2 * d1) (d1 * d2) _ _ _ HS.out HD.out).mono ?_
  rintro e w30d24 ⟨rfl, hb⟩
  rw [hbb]
  clear hbb
  clear hHeld
  replace HB := Lib.hid (HB.out.trans (hb.mono HB.out.size))
  replace HA := Lib.hid (HA.out.below hb)
  replace HC := Lib.hid (HC.out.below hb)
  replace HR := Lib.hid (HR.out.below hb)
  replace HN1 := Lib.hid (HN1.out.below hb)
  replace HD1 := Lib.hid (HD1.out.below hb)
  replace HN2 := Lib.hid (HN2.out.below hb)
  replace HD2 := Lib.hid (HD2.out.below hb)
  replace HX := Lib.hid (HX.out.below hb)
  replace HY := Lib.hid (HY.out.below hb)
  replace HD := Lib.hid (HD.out.below hb)
  replace HS := Lib.hid (HS.out.below hb)
  clear hb
  refine hK.out _ _ ⟨HA.out.cell 0, HA.out.cell 1, HA.out.cell 2, HC.out.cell 0, HC.out.cell 1, HC.out.cell 2⟩ (fun hHeld => ?_)
  clear hK KX
  (try simp only [Act.put, List.setIfInBounds_toArray, List.set_cons_zero, List.set_cons_succ])
  refine wpAnyH_ready (rs := [7]) (by kernel_rfl) (by simp) ?_
  refine AllReadyH.cons (by (simp only [List.getElem?_toArray, List.getElem?_cons_succ, List.getElem?_cons_zero]) <;> rfl) (fun KX hK => ?_) AllReadyH.nil
  have r0 := HR.out.cell 0
  have f0 := HR.out.free 0
  have r1 := HR.out.cell 1
  have f1 := HR.out.free 1
  have r2 := HR.out.cell 2
  have f2 := HR.out.free 2
  simp only [List.getElem?_toArray, List.getElem?_cons_zero, List.getElem?_cons_succ] at r0 r1 r2
  go_simp
  replace HS := Lib.hid (NumIs.put3 (x := .bool bb) (y := .slice q4 l4 e4) (u := .slice q3 l3 e3) HS.out HR.out (by decide))
  replace HD := Lib.hid (NumIs.put3 (x := .bool bb) (y := .slice q4 l4 e4) (u := .slice q3 l3 e3) HD.out HR.out (by decide))
  replace HA := Lib.hid (((HA.out.other (g := wB.heap.size) (by omega) 0 (.bool bb)).other (g := wB.heap.size) (by omega) 1 (.slice q4 l4 e4)).other (g := wB.heap.size) (by omega) 2 (.slice q3 l3 e3))
  replace HC := Lib.hid (((HC.out.other (g := wB.heap.size) (by omega) 0 (.bool bb)).other (g := wB.heap.size) (by omega) 1 (.slice q4 l4 e4)).other (g := wB.heap.size) (by omega) 2 (.slice q3 l3 e3))
  replace HB := Lib.hid (((HB.out.setCell (p := ⟨wB.heap.size, 0, none⟩) (by simp only []; omega) (.bool bb)).setCell (p := ⟨wB.heap.size, 1, none⟩) (by simp only []; omega) (.slice q4 l4 e4)).setCell (p := ⟨wB.heap.size, 2, none⟩) (by simp only []; omega) (.slice q3 l3 e3))
  replace HR := Lib.hid (HR.out.put3 (x := .bool bb) (y := .slice q4 l4 e4) (z := .slice q3 l3 e3))
  clear hHeld r0 r1 r2 f0 f1 f2 HN1 HD1 HN2 HD2 HX HY
  generalize ((w30d24.setCell ⟨wB.heap.size, 0, none⟩ (.bool bb)).setCell ⟨wB.heap.size, 1, none⟩ (.slice q4 l4 e4)).setCell ⟨wB.heap.size, 2, none⟩ (.slice q3 l3 e3) = w45 at *
  refine hK.out _ _ ⟨HA.out.cell 0, HA.out.cell 1, HA.out.cell 2, HC.out.cell 0, HC.out.cell 1, HC.out.cell 2⟩ (fun hHeld => ?_)
  clear hK KX
  (try simp only [Act.put, List.setIfInBounds_toArray, List.set_cons_zero, List.set_cons_succ])
  refine wpAnyH_done (by kernel_rfl) ?_ _
  have r0 := HR.out.cell 0
  have r1 := HR.out.cell 1
  have r2 := HR.out.cell 2
  simp only [List.getElem?_toArray, List.getElem?_cons_zero, List.getElem?_cons_succ] at r0 r1 r2
  go_wp2_with fail
  (try simp only [Exit.inBlock, Exit.then])
  refine bodyPost_ret (v := .agg #[.bool bb, .slice q4 l4 e4, .slice q3 l3 e3]) (by simp [results, Tryz.results21, go_sem, r0, r1, r2]; try rfl) rfl ⟨⟨_, rfl, bb, _, _, z1 * d2 + z2 * d1, d1 * d2, rfl, NumIs.mono HS.out (by omega), NumIs.mono HD.out (by omega), Int.mul_pos HE1.out HE2.out, fun h => by have := HBB.out; rw [h] at this; simp at this; omega, by rw [← HBB.out]; exact q_sum HZ1.out HZ2.out HE1.out HE2.out HS0.out (.inl ⟨HN.out, rfl, rfl⟩)⟩, HB.out⟩
 ·have hnb : (n1 == n2) = false := by simpa using hn
  have HN := Lib.hid hn
  clear hn
  go_wp2_with fail
  with_reducible refine (Tryz.nCmp HX.out HY.out).mono ?_
  rintro e w31 ⟨rfl, rfl⟩
  obtain ⟨s, hs⟩ : ∃ s, cmpI (z1 * d2) (z2 * d1) = s := ⟨_, rfl⟩
  rw [hs]
  by_cases hc : z2 * d1 ≤ z1 * d2
  ·have e1 : decide (0 ≤ s) = true := by
    rw [← hs]
    by_cases h : z2 * d1 = z1 * d2
    ·rw [cmpI_eq h.symm]; rfl
    ·rw [cmpI_gt (by omega)]; rfl
   have HCC := Lib.hid hc
   clear hc hs
   go_wp2_with fail
   clear a0 c0
   refine wp_region_held_drew (S := fun w' => w'.cell? ⟨w.heap.size, 0, none⟩ = some (.bool n1) ∧ w'.cell? ⟨w.heap.size, 1, none⟩ = some (.slice p1 k1 c1) ∧ w'.cell? ⟨w.heap.size, 2, none⟩ = some (.slice p2 k2 c2) ∧ w'.cell? ⟨wA.heap.size, 0, none⟩ = some (.bool n2) ∧ w'.cell? ⟨wA.heap.size, 1, none⟩ = some (.slice p3 k3 c3) ∧ w'.cell? ⟨wA.heap.size, 2, none⟩ = some (.slice p4 k4 c4)) (by kernel_rfl) ⟨HA.out.cell 0, HA.out.cell 1, HA.out.cell 2, HC.out.cell 0, HC.out.cell 1, HC.out.cell 2⟩ (fun hHeld => ?_)
   replace HB := Lib.hid (HB.out.drew)
   replace HA := Lib.hid (HA.out.below (Below.refl _ _).drew)
   replace HC := Lib.hid (HC.out.below (Below.refl _ _).drew)
   replace HR := Lib.hid (HR.out.below (Below.refl _ _).drew)
   replace HN1 := Lib.hid (HN1.out.below (Below.refl _ _).drew)
   replace HD1 := Lib.hid (HD1.out.below (Below.refl _ _).drew)
   replace HN2 := Lib.hid (HN2.out.below (Below.refl _ _).drew)
   replace HD2 := Lib.hid (HD2.out.below (Below.refl _ _).drew)
   replace HX := Lib.hid (HX.out.below (Below.refl _ _).drew)
   replace HY := Lib.hid (HY.out.below (Below.refl _ _).drew)
   replace HD := Lib.hid (HD.out.below (Below.refl _ _).drew)
   clear hHeld
   generalize w31.drew = w31d at *
   have hHeld : (fun w' : World => w'.cell? ⟨w.heap.size, 0, none⟩ = some (.bool n1) ∧ w'.cell? ⟨w.heap.size, 1, none⟩ = some (.slice p1 k1 c1) ∧ w'.cell? ⟨w.heap.size, 2, none⟩ = some (.slice p2 k2 c2) ∧ w'.cell? ⟨wA.heap.size, 0, none⟩ = some (.bool n2) ∧ w'.cell? ⟨wA.heap.size, 1, none⟩ = some (.slice p3 k3 c3) ∧ w'.cell? ⟨wA.heap.size, 2, none⟩ = some (.slice p4 k4 c4)) w31d := ⟨HA.out.cell 0, HA.out.cell 1, HA.out.cell 2, HC.out.cell 0, HC.out.cell 1, HC.out.cell 2⟩
   refine takeY 0 (h := ?_)
   refine takeY 1 (h := ?_)
   refine takeY 2 (h := ?_)
   (try simp only [Act.put, List.setIfInBounds_toArray, List.set_cons_zero, List.set_cons_succ])
   refine takeY 3 (h := ?_)
   refine takeY 5 (h := ?_)
   (try simp only [Act.put, List.setIfInBounds_toArray, List.set_cons_zero, List.set_cons_succ])
   refine wpAnyH_ready (rs := [4]) (by kernel_rfl) (by simp) ?_
   refine AllReadyH.cons (by (simp only [List.getElem?_toArray, List.getElem?_cons_succ, List.getElem?_cons_zero]) <;> rfl) (fun KX hK => ?_) AllReadyH.nil
   go_simp
   with_reducible refine (Tryz.nSub HX.out HY.out HCC.out (by omega)).mono ?_
   rintro e w31d23 ⟨⟨v4, rfl, h4⟩, hb⟩
   obtain ⟨q4, l4, e4, rfl⟩ := h4.slice
   have h4 : NI _ (.slice q4 l4 e4) (z1 * d2 - z2 * d1) _ := h4
   clear hHeld
   replace HB := Lib.hid (HB.out.trans (hb.mono HB.out.size))
   replace HA := Lib.hid (HA.out.below hb)
   replace HC := Lib.hid (HC.out.below hb)
   replace HR := Lib.hid (HR.out.below hb)
   replace HN1 := Lib.hid (HN1.out.below hb)
   replace HD1 := Lib.hid (HD1.out.below hb)
   replace HN2 := Lib.hid (HN2.out.below hb)
   replace HD2 := Lib.hid (HD2.out.below hb)
   replace HX := Lib.hid (HX.out.below hb)
   replace HY := Lib.hid (HY.out.below hb)
   replace HD := Lib.hid (HD.out.below hb)
   clear hb
   have HS := Lib.hid h4
   clear h4
   refine hK.out _ _ ⟨HA.out.cell 0, HA.out.cell 1, HA.out.cell 2, HC.out.cell 0, HC.out.cell 1, HC.out.cell 2⟩ (fun hHeld => ?_)
   clear hK KX
   (try simp only [Act.put, List.setIfInBounds_toArray, List.set_cons_zero, List.set_cons_succ])
   obtain ⟨bb, hbb⟩ : ∃ bb : Bool, (n1 && decide (0 < z1 * d2 - z2 * d1)) = bb := ⟨_, rfl⟩
   have HBB := Lib.hid hbb
   have HS0 := Lib.hid (NumIs.nonneg HS.out)
   refine wpAnyH_ready (rs := [6]) (by kernel_rfl) (by simp) ?_
   refine AllReadyH.cons (by (simp only [List.getElem?_toArray, List.getElem?_cons_succ, List.getElem?_cons_zero]) <;> rfl) (fun KX hK => ?_) AllReadyH.nil
   go_simp
   with_reducible refine (Tryz.rFrac n1 (.slice q4 l4 e4) (.slice q3 l3 e3) (z1 * d2 - z2 * d1) (d1 * d2) _ _ _ HS.out HD.out).mono ?_
   rintro e w31d24 ⟨rfl, hb⟩
   rw [hbb]
   clear hbb
   clear hHeld
   replace HB := Lib.hid (HB.out.trans (hb.mono HB.out.size))
   replace HA := Lib.hid (HA.out.below hb)
   replace HC := Lib.hid (HC.out.below hb)
   replace HR := Lib.hid (HR.out.below hb)
   replace HN1 := Lib.hid (HN1.out.below hb)
   replace HD1 := Lib.hid (HD1.out.below hb)
   replace HN2 := Lib.hid (HN2.out.below hb)
   replace HD2 := Lib.hid (HD2.out.below hb)
   replace HX := Lib.hid (HX.out.below hb)
   replace HY := Lib.hid (HY.out.below hb)
   replace HD := Lib.hid (HD.out.below hb)
   replace HS := Lib.hid (HS.out.below hb)
   clear hb
   refine hK.out _ _ ⟨HA.out.cell 0, HA.out.cell 1, HA.out.cell 2, HC.out.cell 0, HC.out.cell 1, HC.out.cell 2⟩ (fun hHeld => ?_)
   clear hK KX
   (try simp only [Act.put, List.setIfInBounds_toArray, List.set_cons_zero, List.set_cons_succ])
   refine wpAnyH_ready (rs := [7]) (by kernel_rfl) (by simp) ?_
   refine AllReadyH.cons (by (simp only [List.getElem?_toArray, List.getElem?_cons_succ, List.getElem?_cons_zero]) <;> rfl) (fun KX hK => ?_) AllReadyH.nil
   have r0 := HR.out.cell 0
   have f0 := HR.out.free 0
   have r1 := HR.out.cell 1
   have f1 := HR.out.free 1
   have r2 := HR.out.cell 2
   have f2 := HR.out.free 2
   simp only [List.getElem?_toArray, List.getElem?_cons_zero, List.getElem?_cons_succ] at r0 r1 r2
   go_simp
   replace HS := Lib.hid (NumIs.put3 (x := .bool bb) (y := .slice q4 l4 e4) (u := .slice q3 l3 e3) HS.out HR.out (by decide))
   replace HD := Lib.hid (NumIs.put3 (x := .bool bb) (y := .slice q4 l4 e4) (u := .slice q3 l3 e3) HD.out HR.out (by decide))
   replace HA := Lib.hid (((HA.out.other (g := wB.heap.size) (by omega) 0 (.bool bb)).other (g := wB.heap.size) (by omega) 1 (.slice q4 l4 e4)).other (g := wB.heap.size) (by omega) 2 (.slice q3 l3 e3))
   replace HC := Lib.hid (((HC.out.other (g := wB.heap.size) (by omega) 0 (.bool bb)).other (g := wB.heap.size) (by omega) 1 (.slice q4 l4 e4)).other (g := wB.heap.size) (by omega) 2 (.slice q3 l3 e3))
   replace HB := Lib.hid (((HB.out.setCell (p := ⟨wB.heap.size, 0, none⟩) (by simp only []; omega) (.bool bb)).setCell (p := ⟨wB.heap.size, 1, none⟩) (by simp only []; omega) (.slice q4 l4 e4)).setCell (p := ⟨wB.heap.size, 2, none⟩) (by simp only []; omega) (.slice q3 l3 e3))
   replace HR := Lib.hid (HR.out.put3 (x := .bool bb) (y := .slice q4 l4 e4) (z := .slice q3 l3 e3))
   clear hHeld r0 r1 r2 f0 f1 f2 HN1 HD1 HN2 HD2 HX HY
   generalize ((w31d24.setCell ⟨wB.heap.size, 0, none⟩ (.bool bb)).setCell ⟨wB.heap.size, 1, none⟩ (.slice q4 l4 e4)).setCell ⟨wB.heap.size, 2, none⟩ (.slice q3 l3 e3) = w45 at *
   refine hK.out _ _ ⟨HA.out.cell 0, HA.out.cell 1, HA.out.cell 2, HC.out.cell 0, HC.out.cell 1, HC.out.cell 2⟩ (fun hHeld => ?_)
   clear hK KX
   (try simp only [Act.put, List.setIfInBounds_toArray, List.set_cons_zero, List.set_cons_succ])
   refine wpAnyH_done (by kernel_rfl) ?_ _
   have r0 := HR.out.cell 0
   have r1 := HR.out.cell 1
   have r2 := HR.out.cell 2
   simp only [List.getElem?_toArray, List.getElem?_cons_zero, List.getElem?_cons_succ] at r0 r1 r2
   go_wp2_with fail
   (try simp only [Exit.inBlock, Exit.then])
   refine bodyPost_ret (v := .agg #[.bool bb, .slice q4 l4 e4, .slice q3 l3 e3]) (by simp [results, Tryz.results21, go_sem, r0, r1, r2]; try rfl) rfl ⟨⟨_, rfl, bb, _, _, z1 * d2 - z2 * d1, d1 * d2, rfl, NumIs.mono HS.out (by omega), NumIs.mono HD.out (by omega), Int.mul_pos HE1.out HE2.out, fun h => by have := HBB.out; rw [h] at this; simp at this; omega, by rw [← HBB.out]; exact q_sum HZ1.out HZ2.out HE1.out HE2.out HS0.out (.inr (.inl ⟨HN.out, rfl, rfl⟩))⟩, HB.out⟩
  ·have e1 : decide (0 ≤ s) = false := by rw [← hs, cmpI_lt (by omega)]; rfl
   have HCC := Lib.hid (show z1 * d2 ≤ z2 * d1 by omega)
   clear hc hs
   go_wp2_with fail
   clear a0 c0
   refine wp_region_held_drew (S := fun w' => w'.cell? ⟨w.heap.size, 0, none⟩ = some (.bool n1) ∧ w'.cell? ⟨w.heap.size, 1, none⟩ = some (.slice p1 k1 c1) ∧ w'.cell? ⟨w.heap.size, 2, none⟩ = some (.slice p2 k2 c2) ∧ w'.cell? ⟨wA.heap.size, 0, none⟩ = some (.bool n2) ∧ w'.cell? ⟨wA.heap.size, 1, none⟩ = some (.slice p3 k3 c3) ∧ w'.cell? ⟨wA.heap.size, 2, none⟩ = some (.slice p4 k4 c4)) (by kernel_rfl) ⟨HA.out.cell 0, HA.out.cell 1, HA.out.cell 2, HC.out.cell 0, HC.out.cell 1, HC.out.cell 2⟩ (fun hHeld => ?_)
   replace HB := Lib.hid (HB.out.drew)
   replace HA := Lib.hid (HA.out.below (Below.refl _ _).drew)
   replace HC := Lib.hid (HC.out.below (Below.refl _ _).drew)
   replace HR := Lib.hid (HR.out.below (Below.refl _ _).drew)
   replace HN1 := Lib.hid (HN1.out.below (Below.refl _ _).drew)
   replace HD1 := Lib.hid (HD1.out.below (Below.refl _ _).drew)
   replace HN2 := Lib.hid (HN2.out.below (Below.refl _ _).drew)
   replace HD2 := Lib.hid (HD2.out.below (Below.refl _ _).drew)
   replace HX := Lib.hid (HX.out.below (Below.refl _ _).drew)
   replace HY := Lib.hid (HY.out.below (Below.refl _ _).drew)
   replace HD := Lib.hid (HD.out.below (Below.refl _ _).drew)
   clear hHeld
   generalize w31.drew = w31d at *
   have hHeld : (fun w' : World => w'.cell? ⟨w.heap.size, 0, none⟩ = some (.bool n1) ∧ w'.cell? ⟨w.heap.size, 1, none⟩ = some (.slice p1 k1 c1) ∧ w'.cell? ⟨w.heap.size, 2, none⟩ = some (.slice p2 k2 c2) ∧ w'.cell? ⟨wA.heap.size, 0, none⟩ = some (.bool n2) ∧ w'.cell? ⟨wA.heap.size, 1, none⟩ = some (.slice p3 k3 c3) ∧ w'.cell? ⟨wA.heap.size, 2, none⟩ = some (.slice p4 k4 c4)) w31d := ⟨HA.out.cell 0, HA.out.cell 1, HA.out.cell 2, HC.out.cell 0, HC.out.cell 1, HC.out.cell 2⟩
   refine takeY 0 (h := ?_)
   refine takeY 1 (h := ?_)
   refine takeY 2 (h := ?_)
   (try simp only [Act.put, List.setIfInBounds_toArray, List.set_cons_zero, List.set_cons_succ])
   refine takeY 3 (h := ?_)
   refine takeY 5 (h := ?_)
   (try simp only [Act.put, List.setIfInBounds_toArray, List.set_cons_zero, List.set_cons_succ])
   refine wpAnyH_ready (rs := [4]) (by kernel_rfl) (by simp) ?_
   refine AllReadyH.cons (by (simp only [List.getElem?_toArray, List.getElem?_cons_succ, List.getElem?_cons_zero]) <;> rfl) (fun KX hK => ?_) AllReadyH.nil
   go_simp
   with_reducible refine (Tryz.nSub HY.out HX.out HCC.out (by omega)).mono ?_
   rintro e w31d23 ⟨⟨v4, rfl, h4⟩, hb⟩
   obtain ⟨q4, l4, e4, rfl⟩ := h4.slice
   have h4 : NI _ (.slice q4 l4 e4) (z2 * d1 - z1 * d2) _ := h4
   clear hHeld
   replace HB := Lib.hid (HB.out.trans (hb.mono HB.out.size))
   replace HA := Lib.hid (HA.out.below hb)
   replace HC := Lib.hid (HC.out.below hb)
   replace HR := Lib.hid (HR.out.below hb)
   replace HN1 := Lib.hid (HN1.out.below hb)
   replace HD1 := Lib.hid (HD1.out.below hb)
   replace HN2 := Lib.hid (HN2.out.below hb)
   replace HD2 := Lib.hid (HD2.out.below hb)
   replace HX := Lib.hid (HX.out.below hb)
   replace HY := Lib.hid (HY.out.below hb)
   replace HD := Lib.hid (HD.out.below hb)
   clear hb
   have HS := Lib.hid h4
   clear h4
   refine hK.out _ _ ⟨HA.out.cell 0, HA.out.cell 1, HA.out.cell 2, HC.out.cell 0, HC.out.cell 1, HC.out.cell 2⟩ (fun hHeld => ?_)
   clear hK KX
   (try simp only [Act.put, List.setIfInBounds_toArray, List.set_cons_zero, List.set_cons_succ])
   obtain ⟨bb, hbb⟩ : ∃ bb : Bool, (n2 && decide (0 < z2 * d1 - z1 * d2)) = bb := ⟨_, rfl⟩
   have HBB := Lib.hid hbb
   have HS0 := Lib.hid (NumIs.nonneg HS.out)
   refine wpAnyH_ready (rs := [6]) (by kernel_rfl) (by simp) ?_
   refine AllReadyH.cons (by (simp only [List.getElem?_toArray, List.getElem?_cons_succ, List.getElem?_cons_zero]) <;> rfl) (fun KX hK => ?_) AllReadyH.nil
   go_simp
   with_reducible refine (Tryz.rFrac n2 (.slice q4 l4 e4) (.slice q3 l3 e3) (z2 * d1 - z1 * d2) (d1 * d2) _ _ _ HS.out HD.out).mono ?_
   rintro e w31d24 ⟨rfl, hb⟩
   rw [hbb]
   clear hbb
   clear hHeld
   replace HB := Lib.hid (HB.out.trans (hb.mono HB.out.size))
   replace HA := Lib.hid (HA.out.below hb)
   replace HC := Lib.hid (HC.out.below hb)
   replace HR := Lib.hid (HR.out.below hb)
   replace HN1 := Lib.hid (HN1.out.below hb)
   replace HD1 := Lib.hid (HD1.out.below hb)
   replace HN2 := Lib.hid (HN2.out.below hb)
   replace HD2 := Lib.hid (HD2.out.below hb)
   replace HX := Lib.hid (HX.out.below hb)
   replace HY := Lib.hid (HY.out.below hb)
   replace HD := Lib.hid (HD.out.below hb)
   replace HS := Lib.hid (HS.out.below hb)
   clear hb
   refine hK.out _ _ ⟨HA.out.cell 0, HA.out.cell 1, HA.out.cell 2, HC.out.cell 0, HC.out.cell 1, HC.out.cell 2⟩ (fun hHeld => ?_)
   clear hK KX
   (try simp only [Act.put, List.setIfInBounds_toArray, List.set_cons_zero, List.set_cons_succ])
   refine wpAnyH_ready (rs := [7]) (by kernel_rfl) (by simp) ?_
   refine AllReadyH.cons (by (simp only [List.getElem?_toArray, List.getElem?_cons_succ, List.getElem?_cons_zero]) <;> rfl) (fun KX hK => ?_) AllReadyH.nil
   have r0 := HR.out.cell 0
   have f0 := HR.out.free 0
   have r1 := HR.out.cell 1
   have f1 := HR.out.free 1
   have r2 := HR.out.cell 2
   have f2 := HR.out.free 2
   simp only [List.getElem?_toArray, List.getElem?_cons_zero, List.getElem?_cons_succ] at r0 r1 r2
   go_simp
   replace HS := Lib.hid (NumIs.put3 (x := .bool bb) (y := .slice q4 l4 e4) (u := .slice q3 l3 e3) HS.out HR.out (by decide))
   replace HD := Lib.hid (NumIs.put3 (x := .bool bb) (y := .slice q4 l4 e4) (u := .slice q3 l3 e3) HD.out HR.out (by decide))
   replace HA := Lib.hid (((HA.out.other (g := wB.heap.size) (by omega) 0 (.bool bb)).other (g := wB.heap.size) (by omega) 1 (.slice q4 l4 e4)).other (g := wB.heap.size) (by omega) 2 (.slice q3 l3 e3))
   replace HC := Lib.hid (((HC.out.other (g := wB.heap.size) (by omega) 0 (.bool bb)).other (g := wB.heap.size) (by omega) 1 (.slice q4 l4 e4)).other (g := wB.heap.size) (by omega) 2 (.slice q3 l3 e3))
   replace HB := Lib.hid (((HB.out.setCell (p := ⟨wB.heap.size, 0, none⟩) (by simp only []; omega) (.bool bb)).setCell (p := ⟨wB.heap.size, 1, none⟩) (by simp only []; omega) (.slice q4 l4 e4)).setCell (p := ⟨wB.heap.size, 2, none⟩) (by simp only []; omega) (.slice q3 l3 e3))
   replace HR := Lib.hid (HR.out.put3 (x := .bool bb) (y := .slice q4 l4 e4) (z := .slice q3 l3 e3))
   clear hHeld r0 r1 r2 f0 f1 f2 HN1 HD1 HN2 HD2 HX HY
   generalize ((w31d24.setCell ⟨wB.heap.size, 0, none⟩ (.bool bb)).setCell ⟨wB.heap.size, 1, none⟩ (.slice q4 l4 e4)).setCell ⟨wB.heap.size, 2, none⟩ (.slice q3 l3 e3) = w45 at *
   refine hK.out _ _ ⟨HA.out.cell 0, HA.out.cell 1, HA.out.cell 2, HC.out.cell 0, HC.out.cell 1, HC.out.cell 2⟩ (fun hHeld => ?_)
   clear hK KX
   (try simp only [Act.put, List.setIfInBounds_toArray, List.set_cons_zero, List.set_cons_succ])
   refine wpAnyH_done (by kernel_rfl) ?_ _
   have r0 := HR.out.cell 0
   have r1 := HR.out.cell 1
   have r2 := HR.out.cell 2
   simp only [List.getElem?_toArray, List.getElem?_cons_zero, List.getElem?_cons_succ] at r0 r1 r2
   go_wp2_with fail
   (try simp only [Exit.inBlock, Exit.then])
   refine bodyPost_ret (v := .agg #[.bool bb, .slice q4 l4 e4, .slice q3 l3 e3]) (by simp [results, Tryz.results21, go_sem, r0, r1, r2]; try rfl) rfl ⟨⟨_, rfl, bb, _, _, z2 * d1 - z1 * d2, d1 * d2, rfl, NumIs.mono HS.out (by omega), NumIs.mono HD.out (by omega), Int.mul_pos HE1.out HE2.out, fun h => by have := HBB.out; rw [h] at this; simp at this; omega, by rw [← HBB.out]; exact q_sum HZ1.out HZ2.out HE1.out HE2.out HS0.out (.inr (.inr ⟨HN.out, rfl, rfl⟩))⟩, HB.out⟩
theorem Tryz.rZero (w : World) :
 Calls Tryz.prog 19 #[] w fun e w' => (∃ r, e = .returned r ∧ QIs w' r 0 1) ∧ Below w.heap.size w w' := by
 have hbd : ∀ (g : Nat) (w : World), (Instr.build 35 #[(2, .slice (some ⟨g, 0, none⟩) 1 1)]).run Tryz.prog w = .ok (.agg #[.bool false, .slice none 0 0, .slice (some ⟨g, 0, none⟩) 1 1]) w := fun g w => run_build w 35 _ _ (by kernel_rfl)
 obtain ⟨wA, hwA⟩ : ∃ W, w.alloc (.cells #[.bool false, .slice none 0 0, .slice none 0 0] 35) = W := ⟨_, rfl⟩
 have hB1 : Below w.heap.size w wA := by rw [← hwA]; exact (Below.refl _ _).alloc (Nat.le_refl _) _
 have hA1 : CellsAt wA w.heap.size #[.bool false, .slice none 0 0, .slice none 0 0] 35 := by rw [← hwA]; exact CellsAt.new w _ _ rfl
 obtain ⟨wB, hwB⟩ : ∃ W, wA.alloc (.cells #[.int .i64 1] 3) = W := ⟨_, rfl⟩
 have hB2 : Below wA.heap.size wA wB := by rw [← hwB]; exact (Below.refl _ _).alloc (Nat.le_refl _) _
 have hA := hA1.below hB2
 have hN : NumIs wB (.slice (some ⟨wA.heap.size, 0, none⟩) 1 1) 1 1 := by rw [← hwB]; exact NumIs.one wA 1 (by omega) (by omega)
 have HN := Lib.hid (hN.put3 (x := .bool false) (y := .slice none 0 0) (u := .slice (some ⟨wA.heap.size, 0, none⟩) 1 1) hA (by decide))
 have HF := Lib.hid (rDone hA (hB1.trans (hB2.mono hB1.size)) false (.slice none 0 0) (.slice (some ⟨wA.heap.size, 0, none⟩) 1 1))
 have r0 := hA.cell 0
 have r1 := hA.cell 1
 have r2 := hA.cell 2
 simp only [List.getElem?_toArray, List.getElem?_cons_zero, List.getElem?_cons_succ] at r0 r1 r2
 have f0 := hA.free 0
 have f1 := hA.free 1
 have f2 := hA.free 2
 clear hB1 hA1 hB2 hA hN
 go_enter Tryz.func19, Tryz.ntmps19
 go_wp2
 generalize (((wB.setCell ⟨w.heap.size, 0, none⟩ (.bool false)).setCell ⟨w.heap.size, 1, none⟩ (.slice none 0 0)).setCell ⟨w.heap.size, 2, none⟩ (.slice (some ⟨wA.heap.size, 0, none⟩) 1 1)) = wz at *
 obtain ⟨g1, g2⟩ := HF.out
 have z0 := g1.cell 0
 have z1 := g1.cell 1
 have z2 := g1.cell 2
 simp only [List.getElem?_toArray, List.getElem?_cons_zero, List.getElem?_cons_succ] at z0 z1 z2
 (try simp only [Exit.inBlock, Exit.then])
 refine bodyPost_ret (v := .agg #[.bool false, .slice none 0 0, .slice (some ⟨wA.heap.size, 0, none⟩) 1 1]) (by simp [results, Tryz.results19, go_sem, z0, z1, z2]; try rfl) rfl ⟨⟨_, rfl, false, _, _, 0, 1, rfl, num_nought _ _, HN.out, by omega, fun h => by simp at h, by rfl⟩, g2⟩
end Go.Proofs.Vt
