/- What Text, Of and Get of the reference's fractions return. -/
import Derived.Test.YtddighkmgcbicaaGreatDoorRq
import Derived.Test.YtddighkmgcbicaaGreatDoorGm
import Derived.Laws.IdiomStrings
namespace Go.Proofs
open Go.RowKit
set_option linter.unusedVariables false
theorem low_parts {neg : Bool} {z d : Int} (hz : 0 ≤ z) (hd : 1 ≤ d) :
    (((mkRat (Fr.sgn neg z.toNat) d.toNat).num.natAbs : Nat) : Int) = z / (Int.gcd z d : Int) ∧ ((mkRat (Fr.sgn neg z.toNat) d.toNat).den : Int) = d / (Int.gcd z d : Int) ∧
      decide ((mkRat (Fr.sgn neg z.toNat) d.toNat).num < 0) = (neg && decide (0 < z / (Int.gcd z d : Int))) := by
  obtain ⟨Z, rfl⟩ := Int.eq_ofNat_of_zero_le hz
  obtain ⟨D, rfl⟩ := Int.eq_ofNat_of_zero_le (show 0 ≤ d by omega)
  have hD : D ≠ 0 := by omega
  rw [Rat.num_mkRat, Rat.den_mkRat, if_neg (by simpa using hD), if_neg (by simpa using hD)]
  simp only [Int.toNat_natCast, Int.gcd_natCast_natCast, Fr.sgn_abs]
  have hdv : Z.gcd D ∣ Z := Nat.gcd_dvd_left _ _
  have hg : 0 < Z.gcd D := Nat.gcd_pos_of_pos_right _ (by omega)
  rw [Nat.gcd_comm D Z]
  obtain ⟨k, hk⟩ := hdv
  obtain ⟨g, hgg⟩ : ∃ g, Z.gcd D = g := ⟨_, rfl⟩
  rw [hgg] at hk hg ⊢
  subst hk
  have e1 : ((g * k : Nat) : Int) / (g : Int) = k := by rw [Int.natCast_mul]; exact Int.mul_ediv_cancel_left _ (by omega)
  have e2 : (-((g * k : Nat) : Int)) / (g : Int) = -(k : Int) := by rw [Int.natCast_mul, ← Int.mul_neg]; exact Int.mul_ediv_cancel_left _ (by omega)
  refine ⟨?_, ?_, ?_⟩
  · cases neg
    · show (((((g * k : Nat) : Int) / (g : Int)).natAbs : Nat) : Int) = _
      rw [e1]; omega
    · show (((-((g * k : Nat) : Int) / (g : Int)).natAbs : Nat) : Int) = _
      rw [e2, e1]; omega
  · exact Int.natCast_ediv _ _
  · cases neg
    · show decide ((((g * k : Nat) : Int) / (g : Int)) < 0) = (false && _)
      rw [e1]; simp
    · show decide ((-((g * k : Nat) : Int) / (g : Int)) < 0) = (true && _)
      rw [e2, e1, Bool.true_and, Bool.eq_iff_iff]; simp
theorem shown_right (b : Bool) (t u : ByteArray) : Fr.shown b false t u = (if b then ⟨#[45]⟩ ++ t else t) ++ (⟨#[47]⟩ ++ u) := by
  unfold Fr.shown
  rw [if_neg (by simp), ByteArray.append_assoc]
theorem dec_len {z : Int} {n : Nat} (h0 : 0 ≤ z) (h : z < 10000 ^ n) (hn : 1 ≤ n) : (⟨(Lib.decDigits z.toNat).toArray⟩ : ByteArray).size ≤ 4 * n := by
  obtain ⟨Z, rfl⟩ := Int.eq_ofNat_of_zero_le h0
  rw [← Tx.length_list]
  show (Lib.decDigits ((Z : Int)).toNat).toArray.toList.length ≤ _
  rw [List.toList_toArray, Lib.decDigits_length, Int.toNat_natCast]
  refine Tx.nDigits_le _ _ (by omega) ?_
  have e : ((10000 ^ n : Nat) : Int) = (10000 : Int) ^ n := by rw [Int.natCast_pow]; rfl
  have h1 : Z < 10000 ^ n := Int.ofNat_lt.1 (by rw [e]; exact h)
  rw [Nat.pow_mul]
  exact h1
theorem NumIs.lt {w : World} {v : Value} {z : Int} {n : Nat} (h : NumIs w v z n) : z < 10000 ^ n := by
  obtain ⟨xs, h1, h2, h3, rfl, h5⟩ := h
  have h6 := val_lt h2
  have h7 : (10000 : Int) ^ xs.length ≤ 10000 ^ n := pow_mono' h5
  omega
set_option maxHeartbeats 4000000 in
set_option maxRecDepth 100000 in
theorem Tryz.rQText (neg : Bool) (v u : Value) (z d : Int) (n : Nat) (q : Rat) (w : World) (hv : NumIs w v z n) (hu : NumIs w u d n) (hd : 1 ≤ d) (hq : q = mkRat (Fr.sgn neg z.toNat) d.toNat) (hn1 : 1 ≤ n) (hn : n ≤ 40000) :
    Calls Tryz.prog 20 #[.agg #[.bool neg, v, u]] w fun e w' => e = .returned (.string ⟨(Fr.textQ q).toArray⟩) ∧ Below w.heap.size w w' := by
  obtain ⟨p, k, cap, rfl⟩ := hv.slice
  obtain ⟨p2, k2, cap2, rfl⟩ := hu.slice
  obtain ⟨lp1, lp2, lp3⟩ := low_parts (neg := neg) hv.nonneg hd
  rw [← hq] at lp1 lp2 lp3
  have hsh := Fr.shown_text q
  have hZ := hv.lt
  have hD := hu.lt
  have hz0 := hv.nonneg
  have HL : Hid (∀ W, NumIs W (.slice p k cap) z n → NumIs W (.slice p2 k2 cap2) d n → Calls Tryz.prog 77 #[.agg #[.bool neg, .slice p k cap, .slice p2 k2 cap2]] W fun e w' => (∃ a b, e = .returned (.agg #[.bool (decide (q.num < 0)), a, b]) ∧ NumIs w' a (q.num.natAbs : Int) n ∧ NumIs w' b (q.den : Int) n) ∧ Below W.heap.size W w') := fun W h1 h2 => by
    have h := Tryz.rLow neg (.slice p k cap) (.slice p2 k2 cap2) z d n W h1 h2 hd hn
    rw [lp1, lp2, lp3]
    exact h
  have hZ2 : (q.num.natAbs : Int) < 10000 ^ n := by
    rw [lp1]
    have h1 : z / (Int.gcd z d : Int) ≤ z := Int.ediv_le_self _ hz0
    omega
  have hD2 : (q.den : Int) < 10000 ^ n := by
    rw [lp2]
    have h1 : d / (Int.gcd z d : Int) ≤ d := Int.ediv_le_self _ (by omega)
    omega
  have hs1 := dec_len (by omega) hZ2 hn1
  have hs2 := dec_len (by omega) hD2 hn1
  have HT1 : Hid (∀ W a, NumIs W a (q.num.natAbs : Int) n → Calls Tryz.prog 78 #[a] W fun e w' => e = .returned (.string ⟨(Lib.decDigits q.num.natAbs).toArray⟩) ∧ Below W.heap.size W w') := fun W a h => Tryz.rText a _ n W h (by omega)
  have HT2 : Hid (∀ W a, NumIs W a (q.den : Int) n → Calls Tryz.prog 78 #[a] W fun e w' => e = .returned (.string ⟨(Lib.decDigits q.den).toArray⟩) ∧ Below W.heap.size W w') := fun W a h => Tryz.rText a _ n W h (by omega)
  rw [Int.toNat_natCast] at hs1 hs2
  obtain ⟨t1, ht1⟩ : ∃ t : ByteArray, (⟨(Lib.decDigits q.num.natAbs).toArray⟩ : ByteArray) = t := ⟨_, rfl⟩
  obtain ⟨t2, ht2⟩ : ∃ t : ByteArray, (⟨(Lib.decDigits q.den).toArray⟩ : ByteArray) = t := ⟨_, rfl⟩
  rw [ht1] at hs1 hsh HT1
  rw [ht2] at hs2 hsh HT2
  obtain ⟨b, hb⟩ : ∃ b : Bool, decide (q.num < 0) = b := ⟨_, rfl⟩
  obtain ⟨c, hc⟩ : ∃ c : Bool, decide (q.den = 1) = c := ⟨_, rfl⟩
  rw [hb] at HL hsh
  rw [hc] at hsh
  have HSH : Hid (Fr.shown b c t1 t2 = ⟨(Fr.textQ q).toArray⟩) := hsh
  have HCM : Hid (decide (0 < cmpI (q.den : Int) 1) = !c) := by
    show _ = _
    have hp := q.den_pos
    rw [← hc]
    by_cases h : q.den = 1
    · rw [cmpI_eq (by omega)]; simp [h]
    · rw [cmpI_gt (by omega)]; simp [h]
  rw [← HSH.out]
  have HV : Hid (NumIs w (.slice p k cap) z n) := hv
  have HU : Hid (NumIs w (.slice p2 k2 cap2) d n) := hu
  clear hv hu lp1 lp2 lp3 hZ hD hz0 hZ2 hD2 ht1 ht2 hb hc hsh hq hd
  have HA0 : Hid (CellsAt (w.alloc (.cells #[.bool neg, .slice p k cap, .slice p2 k2 cap2] 30)) w.heap.size #[.bool neg, .slice p k cap, .slice p2 k2 cap2] 30) := CellsAt.new w _ _ rfl
  have HB0 : Hid (Below w.heap.size w (w.alloc (.cells #[.bool neg, .slice p k cap, .slice p2 k2 cap2] 30))) := (Below.refl _ _).alloc (Nat.le_refl _) _
  go_enter Tryz.func20, Tryz.ntmps20
  go_wp2_with fail
  generalize (w.alloc (.cells #[.bool neg, .slice p k cap, .slice p2 k2 cap2] 30)) = W0 at *
  have HV0 : Hid (NumIs W0 (.slice p k cap) z n) := HV.out.below HB0.out (Nat.le_refl _)
  have HU0 : Hid (NumIs W0 (.slice p2 k2 cap2) d n) := HU.out.below HB0.out (Nat.le_refl _)
  clear HV HU
  with_reducible refine (HL.out W0 HV0.out HU0.out).mono ?_
  rintro e w1 ⟨⟨a, y, rfl, ha, hy⟩, hb1⟩
  obtain ⟨pa, ka, ca, rfl⟩ := ha.slice
  obtain ⟨pb, kb, cb, rfl⟩ := hy.slice
  have HA1 : Hid (CellsAt w1 w.heap.size #[.bool neg, .slice p k cap, .slice p2 k2 cap2] 30) := HA0.out.below hb1
  have HB1 : Hid (Below w.heap.size w w1) := HB0.out.trans (hb1.mono HB0.out.size)
  have HX1 : Hid (NumIs w1 (.slice pa ka ca) (q.num.natAbs : Int) n) := ha
  have HY1 : Hid (NumIs w1 (.slice pb kb cb) (q.den : Int) n) := hy
  clear ha hy hb1 HA0 HB0 HV0 HU0 HL
  have r0 : w1.cell? ⟨w.heap.size, 0, none⟩ = some (.bool neg) := HA1.out.cell 0
  have r1 : w1.cell? ⟨w.heap.size, 1, none⟩ = some (.slice p k cap) := HA1.out.cell 1
  have r2 : w1.cell? ⟨w.heap.size, 2, none⟩ = some (.slice p2 k2 cap2) := HA1.out.cell 2
  have f0 := HA1.out.free 0
  have f1 := HA1.out.free 1
  have f2 := HA1.out.free 2
  go_wp2_with fail
  have HX2 : Hid (NumIs (((w1.setCell ⟨w.heap.size, 0, none⟩ (.bool b)).setCell ⟨w.heap.size, 1, none⟩ (.slice pa ka ca)).setCell ⟨w.heap.size, 2, none⟩ (.slice pb kb cb)) (.slice pa ka ca) (q.num.natAbs : Int) n) := HX1.out.put3 HA1.out (by decide)
  have HY2 : Hid (NumIs (((w1.setCell ⟨w.heap.size, 0, none⟩ (.bool b)).setCell ⟨w.heap.size, 1, none⟩ (.slice pa ka ca)).setCell ⟨w.heap.size, 2, none⟩ (.slice pb kb cb)) (.slice pb kb cb) (q.den : Int) n) := HY1.out.put3 HA1.out (by decide)
  have HB2 : Hid (Below w.heap.size w (((w1.setCell ⟨w.heap.size, 0, none⟩ (.bool b)).setCell ⟨w.heap.size, 1, none⟩ (.slice pa ka ca)).setCell ⟨w.heap.size, 2, none⟩ (.slice pb kb cb))) := ((HB1.out.setCell (Nat.le_refl _) _).setCell (Nat.le_refl _) _).setCell (Nat.le_refl _) _
  have HA2 : Hid (CellsAt (((w1.setCell ⟨w.heap.size, 0, none⟩ (.bool b)).setCell ⟨w.heap.size, 1, none⟩ (.slice pa ka ca)).setCell ⟨w.heap.size, 2, none⟩ (.slice pb kb cb)) w.heap.size #[.bool b, .slice pa ka ca, .slice pb kb cb] 30) := HA1.out.put3
  clear HX1 HY1 HB1 HA1 r0 r1 r2 f0 f1 f2
  generalize (((w1.setCell ⟨w.heap.size, 0, none⟩ (.bool b)).setCell ⟨w.heap.size, 1, none⟩ (.slice pa ka ca)).setCell ⟨w.heap.size, 2, none⟩ (.slice pb kb cb)) = w2 at *
  have HCC : Hid (∀ W v u, NumIs W v (q.den : Int) n → NumIs W u 1 1 → Calls Tryz.prog 72 #[v, u] W fun e w' => (∃ x : Int, e = .returned (.int .i64 x) ∧ decide (0 < x) = !c) ∧ w' = W) := fun W v u h1 h2 =>
    (Tryz.nCmp h1 h2).mono fun e w' h => ⟨⟨_, h.1, HCM.out⟩, h.2⟩
  clear HCM
  with_reducible refine (HT1.out w2 _ HX2.out).mono ?_
  rintro e w3 ⟨rfl, hb3⟩
  have HA3 : Hid (CellsAt w3 w.heap.size #[.bool b, .slice pa ka ca, .slice pb kb cb] 30) := HA2.out.below hb3
  have HB3 : Hid (Below w.heap.size w w3) := HB2.out.trans (hb3.mono HB2.out.size)
  have HY3 : Hid (NumIs w3 (.slice pb kb cb) (q.den : Int) n) := HY2.out.below hb3 (Nat.le_refl _)
  clear hb3 HA2 HB2 HX2 HY2 HT1
  have c0 : w3.cell? ⟨w.heap.size, 0, none⟩ = some (.bool b) := HA3.out.cell 0
  have c2 : w3.cell? ⟨w.heap.size, 2, none⟩ = some (.slice pb kb cb) := HA3.out.cell 2
  have HO4 : Hid (NumIs (w3.alloc (.cells #[.int .i64 1] 3)) (.slice (some ⟨w3.heap.size, 0, none⟩) 1 1) 1 1) := NumIs.one w3 1 (by omega) (by omega)
  have HY4 : Hid (NumIs (w3.alloc (.cells #[.int .i64 1] 3)) (.slice pb kb cb) (q.den : Int) n) := HY3.out.alloc _
  have HA4 : Hid (CellsAt (w3.alloc (.cells #[.int .i64 1] 3)) w.heap.size #[.bool b, .slice pa ka ca, .slice pb kb cb] 30) := HA3.out.alloc _
  have HB4 : Hid (Below w.heap.size w (w3.alloc (.cells #[.int .i64 1] 3))) := HB3.out.alloc HB3.out.size _
  clear HB3 HA3 HY3
  cases b
  all_goals
    go_wp2_with fail
    with_reducible refine (HCC.out _ _ _ HY4.out HO4.out).mono ?_
    rintro e w5 ⟨⟨x, rfl, hx⟩, rfl⟩
    clear HO4 HCC
    cases c
    · have d2 := HA4.out.cell 2
      simp at hx
      go_wp2_with fail
      with_reducible refine (HT2.out _ _ HY4.out).mono ?_
      rintro e w6 ⟨rfl, hb6⟩
      have HB6 : Hid (Below w.heap.size w w6) := HB4.out.trans (hb6.mono HB4.out.size)
      clear hb6 HB4 HY4 HA4 HT2 d2 c0 c2
      go_wp2
      go_ret
      exact ⟨by rw [shown_right]; rfl, HB6.out⟩
    · clear HT2 HA4 HY4 c0 c2
      simp at hx
      go_wp2
      go_ret
      exact ⟨rfl, HB4.out⟩
end Go.Proofs
