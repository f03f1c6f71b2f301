/- What Gcd, Frac, Low and Text of the reference's fractions return. -/
import Derived.Test.YtddighkmgcbicaaGreatDoorRs
import Derived.Test.YtddighkmgcbicaaGreatDoorRt
import Derived.Test.YtddighkmgcbicaaGreatDoorFq
import Derived.Test.YtddighkmgcbicaaGreatDoorCa
import Derived.Deep.LoopGhost
import Derived.Lib.Hide
namespace Go.Proofs
open Go.RowKit
set_option linter.unusedVariables false
theorem NumIs.nonneg {w : World} {v : Value} {z : Int} {n : Nat} (h : NumIs w v z n) : 0 ≤ z := by
  obtain ⟨xs, h1, h2, h3, rfl, h5⟩ := h
  exact val_nonneg h2
/-- A fraction of the reference: D above 0, in any terms. -/
def QIs (w : World) (v : Value) (q : Rat) (n : Nat) : Prop :=
  ∃ neg N D z d, v = .agg #[.bool neg, N, D] ∧ NumIs w N z n ∧ NumIs w D d n ∧ 1 ≤ d ∧ (neg = true → 1 ≤ z) ∧ q = mkRat (Fr.sgn neg z.toNat) d.toNat
theorem QIs.below {w w' : World} {v : Value} {q : Rat} {n : Nat} (h : QIs w v q n) (hb : Below w.heap.size w w') : QIs w' v q n := by
  obtain ⟨neg, N, D, z, d, h1, h2, h3, h4⟩ := h
  exact ⟨neg, N, D, z, d, h1, h2.below hb (Nat.le_refl _), h3.below hb (Nat.le_refl _), h4⟩
set_option maxHeartbeats 4000000 in
set_option maxRecDepth 100000 in
theorem Tryz.rGcd (v u : Value) (a b : Int) (n m : Nat) (w : World) (hv : NumIs w v a n) (hu : NumIs w u b m) (hn : n ≤ 40000) (hm : m ≤ 40000) :
    Calls Tryz.prog 73 #[v, u] w fun e w' => (∃ r, e = .returned r ∧ NumIs w' r (Int.gcd a b) (max n m)) ∧ Below w.heap.size w w' := by
  obtain ⟨l, hl⟩ : ∃ l, max n m = l := ⟨_, rfl⟩
  have hl4 : l ≤ 40000 := by omega
  have HN : Hid (n ≤ l ∧ m ≤ l) := ⟨by omega, by omega⟩
  rw [hl]
  have HV : Hid (NumIs w v a n) := hv
  have HU : Hid (NumIs w u b m) := hu
  clear hv hu hl hn hm
  go_enter Tryz.func73, Tryz.ntmps73
  go_wp2
  go_loopg [0, 1] (b.toNat) (fun gk x y wr => ∃ A B, B.toNat = gk ∧ NumIs wr x A l ∧ NumIs wr y B l ∧ Int.gcd A B = Int.gcd a b ∧ Below w.heap.size w wr)
  case atStart => exact ⟨a, b, rfl, HV.out.mono HN.out.1, HU.out.mono HN.out.2, rfl, Below.refl _ _⟩
  case round =>
    obtain ⟨A, B, hB, hx, hy, hg, hb⟩ := hrel
    have HX : Hid (NumIs wr _ A l) := hx
    have HY : Hid (NumIs wr _ B l) := hy
    have HB : Hid (Below w.heap.size w wr) := hb
    have HG : Hid (Int.gcd A B = Int.gcd a b) := hg
    have HA0 : 0 ≤ A := hx.nonneg
    have HB0 : 0 ≤ B := hy.nonneg
    obtain ⟨ys, hyd, hyg, hyt, hyv, hyl⟩ := hy
    clear hx hb hg
    by_cases h0 : ys = []
    · subst h0
      obtain ⟨p, cap, rfl, -, -⟩ := hyd.slice
      have HR : Hid (A = Int.gcd a b) := by
        show _ = _
        rw [← HG.out, ← hyv]
        simp; omega
      clear hyd hyg hyt hyv hyl hB
      go_wp2
      go_ret
      exact ⟨⟨_, rfl, by rw [← HR.out]; exact HX.out⟩, HB.out⟩
    · have hB1 : 1 ≤ B := by
        have hp := top_pos hyg hyt h0
        have := pow_pos' (ys.length - 1)
        omega
      obtain ⟨p, cap, rfl, h9, -⟩ := hyd.slice
      have hlp : 0 < ys.length := by have : ys.length ≠ 0 := fun e => h0 (List.length_eq_zero_iff.1 e); omega
      have HM : Hid ((A % B).toNat < gk ∧ Int.gcd B (A % B) = Int.gcd a b) := by
        refine ⟨?_, ?_⟩
        · have := Int.emod_lt_of_pos A (show 0 < B by omega)
          have := Int.emod_nonneg A (show B ≠ 0 by omega)
          omega
        · rw [← HG.out, Int.emod_def, Int.gcd_sub_mul_left_right, Int.gcd_comm]
      obtain ⟨t, ht⟩ : ∃ t, ys.length = t := ⟨_, rfl⟩
      rw [ht] at HY hlp h9
      rw [ht]
      clear hyd hyg hyt hyv hyl h0 ht hB
      go_wp2_with fail
      with_reducible refine (Tryz.nDiv HX.out HY.out hB1 (by omega)).mono ?_
      rintro e w2 ⟨⟨q, r, rfl, -, hr⟩, hb2⟩
      have HR2 : Hid (NumIs w2 r (A % B) l) := hr
      have HY2 : Hid (NumIs w2 (.slice p t cap) B l) := HY.out.below hb2 (Nat.le_refl _)
      have HB2 : Hid (Below w.heap.size w w2) := HB.out.trans (hb2.mono HB.out.size)
      clear hr hb2 HX HY HB
      go_wp2
      go_roundg ((A % B).toNat)
      case measure => exact HM.out.1
      case rel => exact ⟨B, A % B, rfl, HY2.out, HR2.out, HM.out.2, HB2.out⟩
theorem NumIs.store {w : World} {v : Value} {z : Int} {n B : Nat} {c : Array Value} {t : TypeId} (h : NumIs w v z n) (hc : CellsAt w B c t) (ht : t ≠ 3) (j : Nat) (u : Value) : NumIs (w.setCell ⟨B, j, none⟩ u) v z n := by
  obtain ⟨xs, h1, h2⟩ := h
  exact ⟨xs, hc.keeps h1 ht j u, h2⟩
theorem NumIs.put3 {w : World} {v : Value} {z : Int} {n B : Nat} {a b c x y u : Value} {t : TypeId} (h : NumIs w v z n) (hc : CellsAt w B #[a, b, c] t) (ht : t ≠ 3) : NumIs (((w.setCell ⟨B, 0, none⟩ x).setCell ⟨B, 1, none⟩ y).setCell ⟨B, 2, none⟩ u) v z n :=
  ((h.store hc ht 0 x).store (hc.set 0 x) ht 1 y).store ((hc.set 0 x).set 1 y) ht 2 u
/-- No digits: the number 0. -/
theorem num_empty {w : World} {p : Option Addr} {k cap : Nat} {z : Int} {n : Nat} (h : NumIs w (.slice p k cap) z n) : (k = 0 ↔ z = 0) ∧ k ≤ 9223372036854775807 := by
  obtain ⟨xs, h1, h2, h3, rfl, h5⟩ := h
  obtain ⟨p', cap', e, hl, -⟩ := h1.slice
  obtain ⟨rfl, rfl, rfl⟩ : p = p' ∧ k = xs.length ∧ cap = cap' := by simpa using e
  refine ⟨⟨fun e => ?_, fun e => ?_⟩, hl⟩
  · rw [List.length_eq_zero_iff.1 e]; rfl
  · by_cases h0 : xs = []
    · rw [h0]; rfl
    · have hp := top_pos h2 h3 h0
      have := pow_pos' (xs.length - 1)
      omega
theorem NumIs.slice {w : World} {v : Value} {z : Int} {n : Nat} (h : NumIs w v z n) : ∃ p k cap, v = .slice p k cap := by
  obtain ⟨xs, h1, -⟩ := h
  obtain ⟨p, cap, e, -⟩ := h1.slice
  exact ⟨p, _, cap, e⟩
theorem modify_push (h : Array Obj) (o : Obj) (f : Obj → Obj) : (h.push o).modify h.size f = h.push (f o) := by
  apply Array.ext_getElem?
  intro i
  rw [Array.getElem?_modify, Array.getElem?_push, Array.getElem?_push]
  by_cases e : h.size = i
  · subst e; simp
  · rw [if_neg e, if_neg (fun g => e g.symm), if_neg (fun g => e g.symm)]
/-- A struct of three cells that is written as soon as it is made. -/
theorem set3 (w : World) (a b c x y z : Value) (t : TypeId) : (((w.alloc (.cells #[a, b, c] t)).setCell ⟨w.heap.size, 0, none⟩ x).setCell ⟨w.heap.size, 1, none⟩ y).setCell ⟨w.heap.size, 2, none⟩ z = w.alloc (.cells #[x, y, z] t) := by
  simp only [World.setCell, World.alloc, modify_push]
  rfl
set_option maxHeartbeats 4000000 in
set_option maxRecDepth 100000 in
theorem Tryz.rFrac (neg : Bool) (v u : Value) (z d : Int) (n m : Nat) (w : World) (hv : NumIs w v z n) (hu : NumIs w u d m) :
    Calls Tryz.prog 71 #[.bool neg, v, u] w fun e w' => e = .returned (.agg #[.bool (neg && decide (0 < z)), v, u]) ∧ Below w.heap.size w w' := by
  obtain ⟨p, k, cap, rfl⟩ := hv.slice
  obtain ⟨p2, k2, cap2, rfl⟩ := hu.slice
  obtain ⟨hk, hk9⟩ := num_empty hv
  have hz := hv.nonneg
  have HR : Hid (decide (0 < z) = decide ((0 : Int) < k)) := by
    show _ = _
    rw [Bool.eq_iff_iff]; simp; omega
  rw [HR.out]
  have hbd : ∀ (b : Bool) (w : World), (Instr.build 30 #[(0, .bool b), (1, .slice p k cap), (2, .slice p2 k2 cap2)]).run Tryz.prog w = .ok (.agg #[.bool b, .slice p k cap, .slice p2 k2 cap2]) w := fun b w => run_build w 30 _ _ (by kernel_rfl)
  clear hv hu hk hz
  cases neg
  all_goals
    go_enter Tryz.func71, Tryz.ntmps71
    go_wp2
    rw [set3]
    refine bodyPost_ret (by simp [results, Tryz.results71, go_sem]; try rfl) rfl ⟨rfl, (Below.refl _ _).alloc (Nat.le_refl _) _⟩
set_option maxHeartbeats 4000000 in
set_option maxRecDepth 100000 in
theorem Tryz.rLow (neg : Bool) (v u : Value) (z d : Int) (n : Nat) (w : World) (hv : NumIs w v z n) (hu : NumIs w u d n) (hd : 1 ≤ d) (hn : n ≤ 40000) :
    Calls Tryz.prog 77 #[.agg #[.bool neg, v, u]] w fun e w' => (∃ a b, e = .returned (.agg #[.bool (neg && decide (0 < z / (Int.gcd z d : Int))), a, b]) ∧ NumIs w' a (z / (Int.gcd z d : Int)) n ∧ NumIs w' b (d / (Int.gcd z d : Int)) n) ∧ Below w.heap.size w w' := by
  obtain ⟨p, k, cap, rfl⟩ := hv.slice
  obtain ⟨p2, k2, cap2, rfl⟩ := hu.slice
  have HV : Hid (NumIs w (.slice p k cap) z n) := hv
  have HU : Hid (NumIs w (.slice p2 k2 cap2) d n) := hu
  obtain ⟨g, hg⟩ : ∃ g : Int, (Int.gcd z d : Int) = g := ⟨_, rfl⟩
  have hg1 : 1 ≤ g := by
    rw [← hg]
    have : 0 < Int.gcd z d := Int.gcd_pos_of_ne_zero_right _ (by omega)
    omega
  have HG : Hid (∀ W, NumIs W (.slice p k cap) z n → NumIs W (.slice p2 k2 cap2) d n → Calls Tryz.prog 73 #[.slice p k cap, .slice p2 k2 cap2] W fun e w' => (∃ r, e = .returned r ∧ NumIs w' r g n) ∧ Below W.heap.size W w') := fun W h1 h2 => by
    have h := Tryz.rGcd (.slice p k cap) (.slice p2 k2 cap2) z d n n W h1 h2 hn hn
    rw [hg, Nat.max_self] at h
    exact h
  rw [hg]
  clear hv hu hg
  have HA0 : Hid (CellsAt ((w.alloc (.cells #[.bool neg, .slice p k cap, .slice p2 k2 cap2] 30)).alloc (.cells #[.bool false, .slice none 0 0, .slice none 0 0] 30)) w.heap.size #[.bool neg, .slice p k cap, .slice p2 k2 cap2] 30) := (CellsAt.new w _ _ rfl).alloc _
  have HR0 : Hid (CellsAt ((w.alloc (.cells #[.bool neg, .slice p k cap, .slice p2 k2 cap2] 30)).alloc (.cells #[.bool false, .slice none 0 0, .slice none 0 0] 30)) (w.heap.size + 1) #[.bool false, .slice none 0 0, .slice none 0 0] 30) := CellsAt.new _ _ _ (by simp)
  have HB0 : Hid (Below w.heap.size w ((w.alloc (.cells #[.bool neg, .slice p k cap, .slice p2 k2 cap2] 30)).alloc (.cells #[.bool false, .slice none 0 0, .slice none 0 0] 30))) := ((Below.refl _ _).alloc (Nat.le_refl _) _).alloc (by simp) _
  go_enter Tryz.func77, Tryz.ntmps77
  go_wp2_with fail
  generalize ((w.alloc (.cells #[.bool neg, .slice p k cap, .slice p2 k2 cap2] 30)).alloc (.cells #[.bool false, .slice none 0 0, .slice none 0 0] 30)) = W0 at *
  have HV0 : Hid (NumIs W0 (.slice p k cap) z n) := HV.out.below HB0.out (Nat.le_refl _)
  have HU0 : Hid (NumIs W0 (.slice p2 k2 cap2) d n) := HU.out.below HB0.out (Nat.le_refl _)
  clear HV HU
  with_reducible refine (HG.out W0 HV0.out HU0.out).mono ?_
  rintro e w1 ⟨⟨r, rfl, hr⟩, hb1⟩
  have HA1 : Hid (CellsAt w1 w.heap.size #[.bool neg, .slice p k cap, .slice p2 k2 cap2] 30) := HA0.out.below hb1
  have HR1 : Hid (CellsAt w1 (w.heap.size + 1) #[.bool false, .slice none 0 0, .slice none 0 0] 30) := HR0.out.below hb1
  have HB1 : Hid (Below w.heap.size w w1) := HB0.out.trans (hb1.mono HB0.out.size)
  have HV1 : Hid (NumIs w1 (.slice p k cap) z n) := HV0.out.below hb1 (Nat.le_refl _)
  have HU1 : Hid (NumIs w1 (.slice p2 k2 cap2) d n) := HU0.out.below hb1 (Nat.le_refl _)
  have HN1 : Hid (NumIs w1 r g n) := hr
  clear hr hb1 HA0 HR0 HB0 HV0 HU0 HG
  have c1 : w1.cell? ⟨w.heap.size, 1, none⟩ = some (.slice p k cap) := HA1.out.cell 1
  go_wp2_with fail
  with_reducible refine (Tryz.nDiv HV1.out HN1.out hg1 (by omega)).mono ?_
  rintro e w2 ⟨⟨a, x, rfl, ha, -⟩, hb2⟩
  obtain ⟨pa, ka, ca, rfl⟩ := ha.slice
  have HA2 : Hid (CellsAt w2 w.heap.size #[.bool neg, .slice p k cap, .slice p2 k2 cap2] 30) := HA1.out.below hb2
  have HR2 : Hid (CellsAt w2 (w.heap.size + 1) #[.bool false, .slice none 0 0, .slice none 0 0] 30) := HR1.out.below hb2
  have HB2 : Hid (Below w.heap.size w w2) := HB1.out.trans (hb2.mono HB1.out.size)
  have HU2 : Hid (NumIs w2 (.slice p2 k2 cap2) d n) := HU1.out.below hb2 (Nat.le_refl _)
  have HN2 : Hid (NumIs w2 r g n) := HN1.out.below hb2 (Nat.le_refl _)
  have HX2 : Hid (NumIs w2 (.slice pa ka ca) (z / g) n) := ha
  clear ha hb2 HA1 HR1 HB1 HV1 HU1 HN1 c1
  have c2 : w2.cell? ⟨w.heap.size, 2, none⟩ = some (.slice p2 k2 cap2) := HA2.out.cell 2
  go_wp2_with fail
  with_reducible refine (Tryz.nDiv HU2.out HN2.out hg1 (by omega)).mono ?_
  rintro e w3 ⟨⟨b, y, rfl, hb, -⟩, hb3⟩
  obtain ⟨pb, kb, cb, rfl⟩ := hb.slice
  have HA3 : Hid (CellsAt w3 w.heap.size #[.bool neg, .slice p k cap, .slice p2 k2 cap2] 30) := HA2.out.below hb3
  have HR3 : Hid (CellsAt w3 (w.heap.size + 1) #[.bool false, .slice none 0 0, .slice none 0 0] 30) := HR2.out.below hb3
  have HB3 : Hid (Below w.heap.size w w3) := HB2.out.trans (hb3.mono HB2.out.size)
  have HX3 : Hid (NumIs w3 (.slice pa ka ca) (z / g) n) := HX2.out.below hb3 (Nat.le_refl _)
  have HY3 : Hid (NumIs w3 (.slice pb kb cb) (d / g) n) := hb
  clear hb hb3 HA2 HR2 HB2 HU2 HN2 HX2 c2
  have c0 : w3.cell? ⟨w.heap.size, 0, none⟩ = some (.bool neg) := HA3.out.cell 0
  go_wp2_with fail
  with_reducible refine (Tryz.rFrac neg (.slice pa ka ca) (.slice pb kb cb) (z / g) (d / g) n n _ HX3.out HY3.out).mono ?_
  rintro e w4 ⟨rfl, hb4⟩
  have HR4 : Hid (CellsAt w4 (w.heap.size + 1) #[.bool false, .slice none 0 0, .slice none 0 0] 30) := HR3.out.below hb4
  have HB4 : Hid (Below w.heap.size w w4) := HB3.out.trans (hb4.mono HB3.out.size)
  have HX4 : Hid (NumIs w4 (.slice pa ka ca) (z / g) n) := HX3.out.below hb4 (Nat.le_refl _)
  have HY4 : Hid (NumIs w4 (.slice pb kb cb) (d / g) n) := HY3.out.below hb4 (Nat.le_refl _)
  clear hb4 HA3 HR3 HB3 HX3 HY3 c0
  obtain ⟨bb, hbb⟩ : ∃ bb : Bool, (neg && decide (0 < z / g)) = bb := ⟨_, rfl⟩
  rw [hbb]
  have HBB : Hid ((neg && decide (0 < z / g)) = bb) := hbb
  clear hbb
  have r0 : w4.cell? ⟨w.heap.size + 1, 0, none⟩ = some (.bool false) := HR4.out.cell 0
  have r1 : w4.cell? ⟨w.heap.size + 1, 1, none⟩ = some (.slice none 0 0) := HR4.out.cell 1
  have r2 : w4.cell? ⟨w.heap.size + 1, 2, none⟩ = some (.slice none 0 0) := HR4.out.cell 2
  have f0 := HR4.out.free 0
  have f1 := HR4.out.free 1
  have f2 := HR4.out.free 2
  go_wp2
  have HX5 : Hid (NumIs (((w4.setCell ⟨w.heap.size + 1, 0, none⟩ (.bool bb)).setCell ⟨w.heap.size + 1, 1, none⟩ (.slice pa ka ca)).setCell ⟨w.heap.size + 1, 2, none⟩ (.slice pb kb cb)) (.slice pa ka ca) (z / g) n) := HX4.out.put3 HR4.out (by decide)
  have HY5 : Hid (NumIs (((w4.setCell ⟨w.heap.size + 1, 0, none⟩ (.bool bb)).setCell ⟨w.heap.size + 1, 1, none⟩ (.slice pa ka ca)).setCell ⟨w.heap.size + 1, 2, none⟩ (.slice pb kb cb)) (.slice pb kb cb) (d / g) n) := HY4.out.put3 HR4.out (by decide)
  have HB5 : Hid (Below w.heap.size w (((w4.setCell ⟨w.heap.size + 1, 0, none⟩ (.bool bb)).setCell ⟨w.heap.size + 1, 1, none⟩ (.slice pa ka ca)).setCell ⟨w.heap.size + 1, 2, none⟩ (.slice pb kb cb))) := ((HB4.out.setCell (by simp) _).setCell (by simp) _).setCell (by simp) _
  have HR5 : Hid (CellsAt (((w4.setCell ⟨w.heap.size + 1, 0, none⟩ (.bool bb)).setCell ⟨w.heap.size + 1, 1, none⟩ (.slice pa ka ca)).setCell ⟨w.heap.size + 1, 2, none⟩ (.slice pb kb cb)) (w.heap.size + 1) #[.bool bb, .slice pa ka ca, .slice pb kb cb] 30) := HR4.out.put3
  clear HX4 HY4 HB4 HR4 r0 r1 r2 f0 f1 f2
  generalize (((w4.setCell ⟨w.heap.size + 1, 0, none⟩ (.bool bb)).setCell ⟨w.heap.size + 1, 1, none⟩ (.slice pa ka ca)).setCell ⟨w.heap.size + 1, 2, none⟩ (.slice pb kb cb)) = w5 at *
  have r0 : w5.cell? ⟨w.heap.size + 1, 0, none⟩ = some (.bool bb) := HR5.out.cell 0
  have r1 : w5.cell? ⟨w.heap.size + 1, 1, none⟩ = some (.slice pa ka ca) := HR5.out.cell 1
  have r2 : w5.cell? ⟨w.heap.size + 1, 2, none⟩ = some (.slice pb kb cb) := HR5.out.cell 2
  refine bodyPost_ret (by simp [results, Tryz.results77, go_sem, r0, r1, r2]; try rfl) rfl ⟨⟨_, _, by rw [HBB.out], HX5.out, HY5.out⟩, HB5.out⟩
end Go.Proofs
