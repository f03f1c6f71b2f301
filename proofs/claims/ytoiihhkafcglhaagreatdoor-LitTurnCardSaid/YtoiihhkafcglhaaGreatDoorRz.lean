/- What Get of the reference's fractions returns, of texts that are none. -/
import Derived.Test.YtoiihhkafcglhaaGreatDoorRye
namespace Go.Proofs
open Go.RowKit
set_option linter.unusedVariables false
set_option maxHeartbeats 16000000 in
set_option maxRecDepth 100000 in
theorem Tryz.rGetBP (s : ByteArray) (w : World) (hbad : Tx.plainB (Fr.upper s) = false ∨ (Fr.stroke (Fr.size s) < (Fr.size s).size ∧ Tx.plainB (Fr.lower s) = false)) (hmax : s.size ≤ 30000) (hP : 0 < s.size) (hm : Fr.minus s = false) :
    Calls Tryz.prog 42 #[.string s] w fun e w' => RGet s w' e ∧ Below w.heap.size w w' := by
  have HB0 : Hid (Below w.heap.size w (w.alloc (.cells #[.bool false, .slice none 0 0, .slice none 0 0] 27))) := (Below.refl _ _).alloc (Nat.le_refl _) _
  have HR0 : Hid (CellsAt (w.alloc (.cells #[.bool false, .slice none 0 0, .slice none 0 0] 27)) w.heap.size #[.bool false, .slice none 0 0, .slice none 0 0] 27) := CellsAt.new _ _ _ rfl
  have hE := nonempty_list (show ¬s.size = 0 by omega)
  have HM : Hid (Fr.minus s = false) := hm
  have HS : Hid (Fr.size s = s) := by show _ = _; rw [Fr.size_minus, hm]; rfl
  have hb : ((s[0].toNat : Int) == 45) = false := by
    rw [Fr.minus_at hP] at hm
    have : ¬(s[0].toNat : Int) = 45 := by simpa using hm
    simpa using this
  have HBAD := Lib.hid hbad
  clear hbad
  have htl : s.size ≤ s.size := Nat.le_refl _
  clear hm
  go_enter Tryz.func42, Tryz.ntmps42
  go_wp2_with fail
  go_quiet (fail)
  have HB1 := Lib.hid (ryBelow HB0.out nq)
  have HR1 := Lib.hid (HR0.out.drewN nq)
  clear HB0 HR0 hb
  generalize (w.alloc (.cells #[.bool false, .slice none 0 0, .slice none 0 0] 27)).drewN nq = W0 at *
  go_wp2_with fail
  have HTL : Hid (s.size ≤ s.size) := htl
  have hkl := Fr.stroke_le s
  go_loop [6] (fun kv => ∃ k : Nat, kv = .int .i64 k ∧ k ≤ Fr.stroke s) (fun kv => s.size - (intOf kv).toNat)
  case atStart => exact ⟨0, rfl, Nat.zero_le _⟩
  case round =>
    obtain ⟨k, rfl, hk⟩ := hrel
    by_cases hlt : k < s.size
    · have hat := Fr.stroke_at hlt hk
      by_cases h47 : (s[k].toNat : Int) = 47
      · have HK : Hid (Fr.stroke s = k) := (hat.1 h47).symm
        have hb47 : ((s[k].toNat : Int) == 47) = true := by simpa using h47
        have hn47 : ((s[k].toNat : Int) != 47) = false := by simpa using h47
        clear hat hk h47 hkl
        have c1 : (0 : Int) ≤ k := by omega
        have c2 : (k : Int) ≤ s.size := by omega
        have c3 : (k : Int) + 1 ≤ s.size := by omega
        have c5 : (0 : Int) ≤ (k : Int) + 1 := by omega
        go_wp2_with fail
        have HUP : Hid (Fr.upper s = (s.extract 0 k)) := by show _ = _; unfold Fr.upper; rw [HS.out, HK.out]
        have hul : (s.extract 0 k).size ≤ s.size := by rw [ByteArray.size_extract]; have := HTL.out; omega
        have HNP := Lib.hid (fun h => Fr.getQ_no (s := s) (.inl (by rw [HUP.out]; exact h)))
        with_reducible refine (Tryz.getNX (s.extract 0 k) _ (by omega)).mono ?_
        rintro e w2 ⟨hg, hb2⟩
        have HB2 := Lib.hid (HB1.out.trans (hb2.mono HB1.out.size))
        have HR2 := Lib.hid (HR1.out.below hb2)
        clear HB1 HR1 hb2
        have HO3 := Lib.hid ((NumIs.one w2 1 (by omega) (by omega)).mono (show 1 ≤ s.size + 1 by omega))
        have HR3 := Lib.hid (HR2.out.alloc (.cells #[.int .i64 1] 3))
        have HB3 := Lib.hid (HB2.out.alloc HB2.out.size (.cells #[.int .i64 1] 3))
        have O3 := Lib.hid (CellsAt.new w2 #[.int .i64 1] 3 rfl)
        rcases hg with ⟨hp, v, rfl, hv⟩ | ⟨hp, rfl⟩
        · skip
          have HPU : Hid (Tx.plainB (s.extract 0 k) = true) := hp
          obtain ⟨p, n, c, rfl⟩ := hv.slice
          have hvn := num_empty hv
          obtain ⟨hvn0, hvn9⟩ := hvn
          have HN3 := Lib.hid ((hv.mono (show (s.extract 0 k).size ≤ s.size + 1 by omega)).alloc (.cells #[.int .i64 1] 3))
          obtain ⟨z, hz⟩ : ∃ z, Tx.num (s.extract 0 k) = z := ⟨_, rfl⟩
          rw [hz] at hvn0 HN3
          have HVN := Lib.hid hvn0
          clear hvn0
          have HZ : Hid (Tx.num (Fr.upper s) = z) := by show _ = _; rw [HUP.out, hz]
          clear hp hv hz HB2 HR2 HNP
          go_wp2_with fail
          with_reducible refine (Tryz.rFrac false (.slice p n c) (.slice (some ⟨w2.heap.size, 0, none⟩) 1 1) z 1 _ _ _ HN3.out HO3.out).mono ?_
          rintro e w4 ⟨rfl, hb4⟩
          have HR4 := Lib.hid (HR3.out.below hb4)
          have HB4 := Lib.hid (HB3.out.trans (hb4.mono HB3.out.size))
          have HN4 := Lib.hid (HN3.out.below hb4 (Nat.le_refl _))
          have HO4 := Lib.hid (HO3.out.below hb4 (Nat.le_refl _))
          have O4 := Lib.hid (O3.out.below hb4)
          clear hb4 HR3 HB3 HN3 HO3 O3
          obtain ⟨bb, hbb⟩ : ∃ bb : Bool, (false && decide (0 < (z : Int))) = bb := ⟨_, rfl⟩
          rw [hbb]
          have HBB : Hid ((false && decide (0 < (z : Int))) = bb) := hbb
          clear hbb
          have HA5 := Lib.hid (CellsAt.new w4 #[.bool bb, .slice p n c, .slice (some ⟨w2.heap.size, 0, none⟩) 1 1] 27 rfl)
          have HR5 := Lib.hid (HR4.out.alloc (.cells #[.bool bb, .slice p n c, .slice (some ⟨w2.heap.size, 0, none⟩) 1 1] 27))
          have HB5 := Lib.hid (HB4.out.alloc HB4.out.size (.cells #[.bool bb, .slice p n c, .slice (some ⟨w2.heap.size, 0, none⟩) 1 1] 27))
          have HN5 := Lib.hid (HN4.out.alloc (.cells #[.bool bb, .slice p n c, .slice (some ⟨w2.heap.size, 0, none⟩) 1 1] 27))
          have HO5 := Lib.hid (HO4.out.alloc (.cells #[.bool bb, .slice p n c, .slice (some ⟨w2.heap.size, 0, none⟩) 1 1] 27))
          have hBC := HR4.out.lt
          have HLO : Hid (Fr.lower s = (s.extract (k + 1) s.size)) := by show _ = _; unfold Fr.lower; rw [HS.out, HK.out]
          have HFK : Hid (Fr.stroke (Fr.size s) < (Fr.size s).size) := by show _ < _; rw [HS.out, HK.out]; exact hlt
          have hll : (s.extract (k + 1) s.size).size ≤ s.size := by rw [ByteArray.size_extract]; have := HTL.out; omega
          go_wp2_with fail
          rw [set3]
          obtain ⟨C, hC⟩ : ∃ C, w4.heap.size = C := ⟨_, rfl⟩
          have hne : C ≠ w.heap.size := by omega
          have hne2 : w.heap.size ≠ C := by omega
          rw [hC] at HA5 hBC ⊢
          generalize (w4.alloc (.cells #[.bool bb, .slice p n c, .slice (some ⟨w2.heap.size, 0, none⟩) 1 1] 27)) = w5 at *
          clear hC HR4 HB4 HN4 HO4 HO5 O4
          with_reducible refine (Tryz.getNX (s.extract (k + 1) s.size) _ (by omega)).mono ?_
          rintro e w6 ⟨hg, hb6⟩
          have HA6 := Lib.hid (HA5.out.below hb6)
          have HR6 := Lib.hid (HR5.out.below hb6)
          have HB6 := Lib.hid (HB5.out.trans (hb6.mono HB5.out.size))
          have HN6 := Lib.hid (HN5.out.below hb6 (Nat.le_refl _))
          clear hb6 HA5 HR5 HB5 HN5
          have hbd2 : ∀ (g : Nat) (w : World), (Instr.build 27 #[(2, .slice (some ⟨g, 0, none⟩) 1 1)]).run Tryz.prog w = .ok (.agg #[.bool false, .slice none 0 0, .slice (some ⟨g, 0, none⟩) 1 1]) w := fun g w => run_build w 27 _ _ (by kernel_rfl)
          have a0 : (w6).cell? ⟨C, 0, none⟩ = some (.bool bb) := HA6.out.cell 0
          have a1 : (w6).cell? ⟨C, 1, none⟩ = some (.slice p n c) := HA6.out.cell 1
          have a2 : (w6).cell? ⟨C, 2, none⟩ = some (.slice (some ⟨w2.heap.size, 0, none⟩) 1 1) := HA6.out.cell 2
          have af0 := HA6.out.free 0
          have af1 := HA6.out.free 1
          have af2 := HA6.out.free 2
          have r0 : (w6).cell? ⟨w.heap.size, 0, none⟩ = some (.bool false) := HR6.out.cell 0
          have r1 : (w6).cell? ⟨w.heap.size, 1, none⟩ = some (.slice none 0 0) := HR6.out.cell 1
          have r2 : (w6).cell? ⟨w.heap.size, 2, none⟩ = some (.slice none 0 0) := HR6.out.cell 2
          have rf0 := HR6.out.free 0
          have rf1 := HR6.out.free 1
          have rf2 := HR6.out.free 2
          rcases hg with ⟨hp, v2, rfl, hv2⟩ | ⟨hp, rfl⟩
          · skip
            exact absurd hp (by rw [← HLO.out, (HBAD.out.resolve_left (by rw [HUP.out, HPU.out]; simp)).2]; simp)
          · skip
            have HNO := Lib.hid (Fr.getQ_no2 (s := s) HFK.out (.inl (by rw [HLO.out]; exact hp)))
            clear hp
            obtain ⟨w7, hw7⟩ : ∃ W, w6.setCell ⟨C, 2, none⟩ (.slice none 0 0) = W := ⟨_, rfl⟩
            have HA7 := Lib.hid (HA6.out.set 2 (.slice none 0 0))
            have HR7 := Lib.hid (HR6.out.other hne2 2 (.slice none 0 0))
            have HB7 := Lib.hid (HB6.out.setCell (p := ⟨C, 2, none⟩) (Nat.le_of_lt hBC) (.slice none 0 0))
            have HN7 := Lib.hid (HN6.out.store HA6.out (by decide) 2 (.slice none 0 0))
            rw [hw7] at HA7 HR7 HB7 HN7
            have b0 : (w7).cell? ⟨C, 0, none⟩ = some (.bool bb) := HA7.out.cell 0
            have b1 : (w7).cell? ⟨C, 1, none⟩ = some (.slice p n c) := HA7.out.cell 1
            have b2 : (w7).cell? ⟨C, 2, none⟩ = some (.slice none 0 0) := HA7.out.cell 2
            have bf0 := HA7.out.free 0
            have bf1 := HA7.out.free 1
            have bf2 := HA7.out.free 2
            have HRN := Lib.hid (HR7.out.alloc (.cells #[.int .i64 1] 3))
            have x0 : ((w7.alloc (.cells #[.int .i64 1] 3))).cell? ⟨w.heap.size, 0, none⟩ = some (.bool false) := HRN.out.cell 0
            have x1 : ((w7.alloc (.cells #[.int .i64 1] 3))).cell? ⟨w.heap.size, 1, none⟩ = some (.slice none 0 0) := HRN.out.cell 1
            have x2 : ((w7.alloc (.cells #[.int .i64 1] 3))).cell? ⟨w.heap.size, 2, none⟩ = some (.slice none 0 0) := HRN.out.cell 2
            have xf0 := HRN.out.free 0
            have xf1 := HRN.out.free 1
            have xf2 := HRN.out.free 2
            go_wp2
            have HBN := Lib.hid (HB7.out.alloc HB7.out.size (.cells #[.int .i64 1] 3))
            have HRZ := Lib.hid (HRN.out.put3 (x := .bool false) (y := .slice none 0 0) (z := .slice (some ⟨(w7).heap.size, 0, none⟩) 1 1))
            have HBZ := Lib.hid (((HBN.out.setCell (p := ⟨w.heap.size, 0, none⟩) (Nat.le_refl _) (.bool false)).setCell (p := ⟨w.heap.size, 1, none⟩) (Nat.le_refl _) (.slice none 0 0)).setCell (p := ⟨w.heap.size, 2, none⟩) (Nat.le_refl _) (.slice (some ⟨(w7).heap.size, 0, none⟩) 1 1))
            generalize ((((w7.alloc (.cells #[.int .i64 1] 3)).setCell ⟨w.heap.size, 0, none⟩ (.bool false)).setCell ⟨w.heap.size, 1, none⟩ (.slice none 0 0)).setCell ⟨w.heap.size, 2, none⟩ (.slice (some ⟨(w7).heap.size, 0, none⟩) 1 1)) = wz at *
            have z0 : wz.cell? ⟨w.heap.size, 0, none⟩ = some (.bool false) := HRZ.out.cell 0
            have z1 : wz.cell? ⟨w.heap.size, 1, none⟩ = some (.slice none 0 0) := HRZ.out.cell 1
            have z2 : wz.cell? ⟨w.heap.size, 2, none⟩ = some (.slice (some ⟨(w7).heap.size, 0, none⟩) 1 1) := HRZ.out.cell 2
            (try simp only [Exit.inBlock, Exit.then])
            refine bodyPost_ret (v := .tuple #[.agg #[.bool false, .slice none 0 0, .slice (some ⟨(w7).heap.size, 0, none⟩) 1 1], .bool false]) (by simp [results, Tryz.results42, go_sem, z0, z1, z2]; try rfl) rfl ⟨.inr ⟨HNO.out, _, _, _, rfl⟩, HBZ.out⟩
        · skip
          have HNO := Lib.hid (HNP.out hp)
          have HN3 := Lib.hid (num_nought (w2.alloc (.cells #[.int .i64 1] 3)) (s.size + 1))
          clear hp HB2 HR2 HNP
          go_wp2_with fail
          with_reducible refine (Tryz.rFrac false (.slice none 0 0) (.slice (some ⟨w2.heap.size, 0, none⟩) 1 1) 0 1 _ _ _ HN3.out HO3.out).mono ?_
          rintro e w4 ⟨rfl, hb4⟩
          have HR4 := Lib.hid (HR3.out.below hb4)
          have HB4 := Lib.hid (HB3.out.trans (hb4.mono HB3.out.size))
          clear hb4 HR3 HB3 HN3 HO3 O3
          obtain ⟨bb, hbb⟩ : ∃ bb : Bool, (false && decide (0 < (0 : Int))) = bb := ⟨_, rfl⟩
          rw [hbb]
          clear hbb
          obtain ⟨w5, hw5⟩ : ∃ W, w4.alloc (.cells #[.bool bb, .slice none 0 0, .slice (some ⟨w2.heap.size, 0, none⟩) 1 1] 27) = W := ⟨_, rfl⟩
          have hch : ((((w4.alloc (.cells #[.bool false, .slice none 0 0, .slice none 0 0] 27)).setCell ⟨w4.heap.size, 0, none⟩ (.bool bb)).setCell ⟨w4.heap.size, 1, none⟩ (.slice none 0 0)).setCell ⟨w4.heap.size, 2, none⟩ (.slice (some ⟨w2.heap.size, 0, none⟩) 1 1)) = w5 := by rw [set3, hw5]
          have HR5 := Lib.hid (HR4.out.alloc (.cells #[.bool bb, .slice none 0 0, .slice (some ⟨w2.heap.size, 0, none⟩) 1 1] 27))
          have HB5 := Lib.hid (HB4.out.alloc HB4.out.size (.cells #[.bool bb, .slice none 0 0, .slice (some ⟨w2.heap.size, 0, none⟩) 1 1] 27))
          rw [hw5] at HR5 HB5
          clear hw5
          have hBC := HR4.out.lt
          have hne : w4.heap.size ≠ w.heap.size := by omega
          have hne2 : w.heap.size ≠ w4.heap.size := by omega
          have hbd2 : ∀ (g : Nat) (w : World), (Instr.build 27 #[(2, .slice (some ⟨g, 0, none⟩) 1 1)]).run Tryz.prog w = .ok (.agg #[.bool false, .slice none 0 0, .slice (some ⟨g, 0, none⟩) 1 1]) w := fun g w => run_build w 27 _ _ (by kernel_rfl)
          have HRN := Lib.hid (HR5.out.alloc (.cells #[.int .i64 1] 3))
          have x0 : ((w5.alloc (.cells #[.int .i64 1] 3))).cell? ⟨w.heap.size, 0, none⟩ = some (.bool false) := HRN.out.cell 0
          have x1 : ((w5.alloc (.cells #[.int .i64 1] 3))).cell? ⟨w.heap.size, 1, none⟩ = some (.slice none 0 0) := HRN.out.cell 1
          have x2 : ((w5.alloc (.cells #[.int .i64 1] 3))).cell? ⟨w.heap.size, 2, none⟩ = some (.slice none 0 0) := HRN.out.cell 2
          have xf0 := HRN.out.free 0
          have xf1 := HRN.out.free 1
          have xf2 := HRN.out.free 2
          go_wp2
          have HBN := Lib.hid (HB5.out.alloc HB5.out.size (.cells #[.int .i64 1] 3))
          have HRZ := Lib.hid (HRN.out.put3 (x := .bool false) (y := .slice none 0 0) (z := .slice (some ⟨(w5).heap.size, 0, none⟩) 1 1))
          have HBZ := Lib.hid (((HBN.out.setCell (p := ⟨w.heap.size, 0, none⟩) (Nat.le_refl _) (.bool false)).setCell (p := ⟨w.heap.size, 1, none⟩) (Nat.le_refl _) (.slice none 0 0)).setCell (p := ⟨w.heap.size, 2, none⟩) (Nat.le_refl _) (.slice (some ⟨(w5).heap.size, 0, none⟩) 1 1))
          generalize ((((w5.alloc (.cells #[.int .i64 1] 3)).setCell ⟨w.heap.size, 0, none⟩ (.bool false)).setCell ⟨w.heap.size, 1, none⟩ (.slice none 0 0)).setCell ⟨w.heap.size, 2, none⟩ (.slice (some ⟨(w5).heap.size, 0, none⟩) 1 1)) = wz at *
          have z0 : wz.cell? ⟨w.heap.size, 0, none⟩ = some (.bool false) := HRZ.out.cell 0
          have z1 : wz.cell? ⟨w.heap.size, 1, none⟩ = some (.slice none 0 0) := HRZ.out.cell 1
          have z2 : wz.cell? ⟨w.heap.size, 2, none⟩ = some (.slice (some ⟨(w5).heap.size, 0, none⟩) 1 1) := HRZ.out.cell 2
          (try simp only [Exit.inBlock, Exit.then])
          refine bodyPost_ret (v := .tuple #[.agg #[.bool false, .slice none 0 0, .slice (some ⟨(w5).heap.size, 0, none⟩) 1 1], .bool false]) (by simp [results, Tryz.results42, go_sem, z0, z1, z2]; try rfl) rfl ⟨.inr ⟨HNO.out, _, _, _, rfl⟩, HBZ.out⟩
      · have h2 := hat.2 h47
        have hb47 : ((s[k].toNat : Int) == 47) = false := by simpa using h47
        have hn47 : ((s[k].toNat : Int) != 47) = true := by simpa using h47
        clear hat
        go_wp2
        exact ⟨⟨k + 1, by simp, h2⟩, by simp [intOf]; omega⟩
    · have HK : Hid (Fr.stroke s = k) := by show _ = _; omega
      have c1 : (0 : Int) ≤ k := by omega
      have c2 : (k : Int) ≤ s.size := by omega
      have c4 : ¬(k : Int) < s.size := by omega
      clear hk hkl
      go_wp2_with fail
      have HUP : Hid (Fr.upper s = (s.extract 0 k)) := by show _ = _; unfold Fr.upper; rw [HS.out, HK.out]
      have hul : (s.extract 0 k).size ≤ s.size := by rw [ByteArray.size_extract]; have := HTL.out; omega
      have HNP := Lib.hid (fun h => Fr.getQ_no (s := s) (.inl (by rw [HUP.out]; exact h)))
      with_reducible refine (Tryz.getNX (s.extract 0 k) _ (by omega)).mono ?_
      rintro e w2 ⟨hg, hb2⟩
      have HB2 := Lib.hid (HB1.out.trans (hb2.mono HB1.out.size))
      have HR2 := Lib.hid (HR1.out.below hb2)
      clear HB1 HR1 hb2
      have HO3 := Lib.hid ((NumIs.one w2 1 (by omega) (by omega)).mono (show 1 ≤ s.size + 1 by omega))
      have HR3 := Lib.hid (HR2.out.alloc (.cells #[.int .i64 1] 3))
      have HB3 := Lib.hid (HB2.out.alloc HB2.out.size (.cells #[.int .i64 1] 3))
      have O3 := Lib.hid (CellsAt.new w2 #[.int .i64 1] 3 rfl)
      rcases hg with ⟨hp, v, rfl, hv⟩ | ⟨hp, rfl⟩
      · skip
        exact absurd (HBAD.out.resolve_left (by rw [HUP.out, hp]; simp)).1 (by rw [HS.out, HK.out]; exact hlt)
      · skip
        have HNO := Lib.hid (HNP.out hp)
        have HN3 := Lib.hid (num_nought (w2.alloc (.cells #[.int .i64 1] 3)) (s.size + 1))
        clear hp HB2 HR2 HNP
        go_wp2_with fail
        with_reducible refine (Tryz.rFrac false (.slice none 0 0) (.slice (some ⟨w2.heap.size, 0, none⟩) 1 1) 0 1 _ _ _ HN3.out HO3.out).mono ?_
        rintro e w4 ⟨rfl, hb4⟩
        have HR4 := Lib.hid (HR3.out.below hb4)
        have HB4 := Lib.hid (HB3.out.trans (hb4.mono HB3.out.size))
        clear hb4 HR3 HB3 HN3 HO3 O3
        obtain ⟨bb, hbb⟩ : ∃ bb : Bool, (false && decide (0 < (0 : Int))) = bb := ⟨_, rfl⟩
        rw [hbb]
        clear hbb
        obtain ⟨w5, hw5⟩ : ∃ W, w4.alloc (.cells #[.bool bb, .slice none 0 0, .slice (some ⟨w2.heap.size, 0, none⟩) 1 1] 27) = W := ⟨_, rfl⟩
        have hch : ((((w4.alloc (.cells #[.bool false, .slice none 0 0, .slice none 0 0] 27)).setCell ⟨w4.heap.size, 0, none⟩ (.bool bb)).setCell ⟨w4.heap.size, 1, none⟩ (.slice none 0 0)).setCell ⟨w4.heap.size, 2, none⟩ (.slice (some ⟨w2.heap.size, 0, none⟩) 1 1)) = w5 := by rw [set3, hw5]
        have HR5 := Lib.hid (HR4.out.alloc (.cells #[.bool bb, .slice none 0 0, .slice (some ⟨w2.heap.size, 0, none⟩) 1 1] 27))
        have HB5 := Lib.hid (HB4.out.alloc HB4.out.size (.cells #[.bool bb, .slice none 0 0, .slice (some ⟨w2.heap.size, 0, none⟩) 1 1] 27))
        rw [hw5] at HR5 HB5
        clear hw5
        have hBC := HR4.out.lt
        have hne : w4.heap.size ≠ w.heap.size := by omega
        have hne2 : w.heap.size ≠ w4.heap.size := by omega
        have hbd2 : ∀ (g : Nat) (w : World), (Instr.build 27 #[(2, .slice (some ⟨g, 0, none⟩) 1 1)]).run Tryz.prog w = .ok (.agg #[.bool false, .slice none 0 0, .slice (some ⟨g, 0, none⟩) 1 1]) w := fun g w => run_build w 27 _ _ (by kernel_rfl)
        have HRN := Lib.hid (HR5.out.alloc (.cells #[.int .i64 1] 3))
        have x0 : ((w5.alloc (.cells #[.int .i64 1] 3))).cell? ⟨w.heap.size, 0, none⟩ = some (.bool false) := HRN.out.cell 0
        have x1 : ((w5.alloc (.cells #[.int .i64 1] 3))).cell? ⟨w.heap.size, 1, none⟩ = some (.slice none 0 0) := HRN.out.cell 1
        have x2 : ((w5.alloc (.cells #[.int .i64 1] 3))).cell? ⟨w.heap.size, 2, none⟩ = some (.slice none 0 0) := HRN.out.cell 2
        have xf0 := HRN.out.free 0
        have xf1 := HRN.out.free 1
        have xf2 := HRN.out.free 2
        go_wp2
        have HBN := Lib.hid (HB5.out.alloc HB5.out.size (.cells #[.int .i64 1] 3))
        have HRZ := Lib.hid (HRN.out.put3 (x := .bool false) (y := .slice none 0 0) (z := .slice (some ⟨(w5).heap.size, 0, none⟩) 1 1))
        have HBZ := Lib.hid (((HBN.out.setCell (p := ⟨w.heap.size, 0, none⟩) (Nat.le_refl _) (.bool false)).setCell (p := ⟨w.heap.size, 1, none⟩) (Nat.le_refl _) (.slice none 0 0)).setCell (p := ⟨w.heap.size, 2, none⟩) (Nat.le_refl _) (.slice (some ⟨(w5).heap.size, 0, none⟩) 1 1))
        generalize ((((w5.alloc (.cells #[.int .i64 1] 3)).setCell ⟨w.heap.size, 0, none⟩ (.bool false)).setCell ⟨w.heap.size, 1, none⟩ (.slice none 0 0)).setCell ⟨w.heap.size, 2, none⟩ (.slice (some ⟨(w5).heap.size, 0, none⟩) 1 1)) = wz at *
        have z0 : wz.cell? ⟨w.heap.size, 0, none⟩ = some (.bool false) := HRZ.out.cell 0
        have z1 : wz.cell? ⟨w.heap.size, 1, none⟩ = some (.slice none 0 0) := HRZ.out.cell 1
        have z2 : wz.cell? ⟨w.heap.size, 2, none⟩ = some (.slice (some ⟨(w5).heap.size, 0, none⟩) 1 1) := HRZ.out.cell 2
        (try simp only [Exit.inBlock, Exit.then])
        refine bodyPost_ret (v := .tuple #[.agg #[.bool false, .slice none 0 0, .slice (some ⟨(w5).heap.size, 0, none⟩) 1 1], .bool false]) (by simp [results, Tryz.results42, go_sem, z0, z1, z2]; try rfl) rfl ⟨.inr ⟨HNO.out, _, _, _, rfl⟩, HBZ.out⟩
set_option maxHeartbeats 16000000 in
set_option maxRecDepth 100000 in
theorem Tryz.rGetBM (s : ByteArray) (w : World) (hbad : Tx.plainB (Fr.upper s) = false ∨ (Fr.stroke (Fr.size s) < (Fr.size s).size ∧ Tx.plainB (Fr.lower s) = false)) (hmax : s.size ≤ 30000) (hP : 0 < s.size) (hm : Fr.minus s = true) :
    Calls Tryz.prog 42 #[.string s] w fun e w' => RGet s w' e ∧ Below w.heap.size w w' := by
  have HB0 : Hid (Below w.heap.size w (w.alloc (.cells #[.bool false, .slice none 0 0, .slice none 0 0] 27))) := (Below.refl _ _).alloc (Nat.le_refl _) _
  have HR0 : Hid (CellsAt (w.alloc (.cells #[.bool false, .slice none 0 0, .slice none 0 0] 27)) w.heap.size #[.bool false, .slice none 0 0, .slice none 0 0] 27) := CellsAt.new _ _ _ rfl
  have hE := nonempty_list (show ¬s.size = 0 by omega)
  have HM : Hid (Fr.minus s = true) := hm
  have HS : Hid (Fr.size s = s.extract 1 s.size) := by show _ = _; rw [Fr.size_minus, hm]; rfl
  have hb : ((s[0].toNat : Int) == 45) = true := by
    rw [Fr.minus_at hP] at hm
    have : (s[0].toNat : Int) = 45 := by simpa using hm
    simpa using this
  have HBAD := Lib.hid hbad
  clear hbad
  have htl : (s.extract 1 s.size).size ≤ s.size := by rw [ByteArray.size_extract]; omega
  have c0 : (1 : Int) ≤ s.size := by omega
  clear hm
  go_enter Tryz.func42, Tryz.ntmps42
  go_wp2_with fail
  go_quiet (fail)
  have HB1 := Lib.hid (ryBelow HB0.out nq)
  have HR1 := Lib.hid (HR0.out.drewN nq)
  clear HB0 HR0 hb
  generalize (w.alloc (.cells #[.bool false, .slice none 0 0, .slice none 0 0] 27)).drewN nq = W0 at *
  go_wp2_with fail
  generalize s.extract 1 s.size = t at *
  have HTL : Hid (t.size ≤ s.size) := htl
  have hkl := Fr.stroke_le t
  go_loop [6] (fun kv => ∃ k : Nat, kv = .int .i64 k ∧ k ≤ Fr.stroke t) (fun kv => t.size - (intOf kv).toNat)
  case atStart => exact ⟨0, rfl, Nat.zero_le _⟩
  case round =>
    obtain ⟨k, rfl, hk⟩ := hrel
    by_cases hlt : k < t.size
    · have hat := Fr.stroke_at hlt hk
      by_cases h47 : (t[k].toNat : Int) = 47
      · have HK : Hid (Fr.stroke t = k) := (hat.1 h47).symm
        have hb47 : ((t[k].toNat : Int) == 47) = true := by simpa using h47
        have hn47 : ((t[k].toNat : Int) != 47) = false := by simpa using h47
        clear hat hk h47 hkl
        have c1 : (0 : Int) ≤ k := by omega
        have c2 : (k : Int) ≤ t.size := by omega
        have c3 : (k : Int) + 1 ≤ t.size := by omega
        have c5 : (0 : Int) ≤ (k : Int) + 1 := by omega
        go_wp2_with fail
        have HUP : Hid (Fr.upper s = (t.extract 0 k)) := by show _ = _; unfold Fr.upper; rw [HS.out, HK.out]
        have hul : (t.extract 0 k).size ≤ s.size := by rw [ByteArray.size_extract]; have := HTL.out; omega
        have HNP := Lib.hid (fun h => Fr.getQ_no (s := s) (.inl (by rw [HUP.out]; exact h)))
        with_reducible refine (Tryz.getNX (t.extract 0 k) _ (by omega)).mono ?_
        rintro e w2 ⟨hg, hb2⟩
        have HB2 := Lib.hid (HB1.out.trans (hb2.mono HB1.out.size))
        have HR2 := Lib.hid (HR1.out.below hb2)
        clear HB1 HR1 hb2
        have HO3 := Lib.hid ((NumIs.one w2 1 (by omega) (by omega)).mono (show 1 ≤ s.size + 1 by omega))
        have HR3 := Lib.hid (HR2.out.alloc (.cells #[.int .i64 1] 3))
        have HB3 := Lib.hid (HB2.out.alloc HB2.out.size (.cells #[.int .i64 1] 3))
        have O3 := Lib.hid (CellsAt.new w2 #[.int .i64 1] 3 rfl)
        rcases hg with ⟨hp, v, rfl, hv⟩ | ⟨hp, rfl⟩
        · skip
          have HPU : Hid (Tx.plainB (t.extract 0 k) = true) := hp
          obtain ⟨p, n, c, rfl⟩ := hv.slice
          have hvn := num_empty hv
          obtain ⟨hvn0, hvn9⟩ := hvn
          have HN3 := Lib.hid ((hv.mono (show (t.extract 0 k).size ≤ s.size + 1 by omega)).alloc (.cells #[.int .i64 1] 3))
          obtain ⟨z, hz⟩ : ∃ z, Tx.num (t.extract 0 k) = z := ⟨_, rfl⟩
          rw [hz] at hvn0 HN3
          have HVN := Lib.hid hvn0
          clear hvn0
          have HZ : Hid (Tx.num (Fr.upper s) = z) := by show _ = _; rw [HUP.out, hz]
          clear hp hv hz HB2 HR2 HNP
          go_wp2_with fail
          with_reducible refine (Tryz.rFrac true (.slice p n c) (.slice (some ⟨w2.heap.size, 0, none⟩) 1 1) z 1 _ _ _ HN3.out HO3.out).mono ?_
          rintro e w4 ⟨rfl, hb4⟩
          have HR4 := Lib.hid (HR3.out.below hb4)
          have HB4 := Lib.hid (HB3.out.trans (hb4.mono HB3.out.size))
          have HN4 := Lib.hid (HN3.out.below hb4 (Nat.le_refl _))
          have HO4 := Lib.hid (HO3.out.below hb4 (Nat.le_refl _))
          have O4 := Lib.hid (O3.out.below hb4)
          clear hb4 HR3 HB3 HN3 HO3 O3
          obtain ⟨bb, hbb⟩ : ∃ bb : Bool, (true && decide (0 < (z : Int))) = bb := ⟨_, rfl⟩
          rw [hbb]
          have HBB : Hid ((true && decide (0 < (z : Int))) = bb) := hbb
          clear hbb
          have HA5 := Lib.hid (CellsAt.new w4 #[.bool bb, .slice p n c, .slice (some ⟨w2.heap.size, 0, none⟩) 1 1] 27 rfl)
          have HR5 := Lib.hid (HR4.out.alloc (.cells #[.bool bb, .slice p n c, .slice (some ⟨w2.heap.size, 0, none⟩) 1 1] 27))
          have HB5 := Lib.hid (HB4.out.alloc HB4.out.size (.cells #[.bool bb, .slice p n c, .slice (some ⟨w2.heap.size, 0, none⟩) 1 1] 27))
          have HN5 := Lib.hid (HN4.out.alloc (.cells #[.bool bb, .slice p n c, .slice (some ⟨w2.heap.size, 0, none⟩) 1 1] 27))
          have HO5 := Lib.hid (HO4.out.alloc (.cells #[.bool bb, .slice p n c, .slice (some ⟨w2.heap.size, 0, none⟩) 1 1] 27))
          have hBC := HR4.out.lt
          have HLO : Hid (Fr.lower s = (t.extract (k + 1) t.size)) := by show _ = _; unfold Fr.lower; rw [HS.out, HK.out]
          have HFK : Hid (Fr.stroke (Fr.size s) < (Fr.size s).size) := by show _ < _; rw [HS.out, HK.out]; exact hlt
          have hll : (t.extract (k + 1) t.size).size ≤ s.size := by rw [ByteArray.size_extract]; have := HTL.out; omega
          go_wp2_with fail
          rw [set3]
          obtain ⟨C, hC⟩ : ∃ C, w4.heap.size = C := ⟨_, rfl⟩
          have hne : C ≠ w.heap.size := by omega
          have hne2 : w.heap.size ≠ C := by omega
          rw [hC] at HA5 hBC ⊢
          generalize (w4.alloc (.cells #[.bool bb, .slice p n c, .slice (some ⟨w2.heap.size, 0, none⟩) 1 1] 27)) = w5 at *
          clear hC HR4 HB4 HN4 HO4 HO5 O4
          with_reducible refine (Tryz.getNX (t.extract (k + 1) t.size) _ (by omega)).mono ?_
          rintro e w6 ⟨hg, hb6⟩
          have HA6 := Lib.hid (HA5.out.below hb6)
          have HR6 := Lib.hid (HR5.out.below hb6)
          have HB6 := Lib.hid (HB5.out.trans (hb6.mono HB5.out.size))
          have HN6 := Lib.hid (HN5.out.below hb6 (Nat.le_refl _))
          clear hb6 HA5 HR5 HB5 HN5
          have hbd2 : ∀ (g : Nat) (w : World), (Instr.build 27 #[(2, .slice (some ⟨g, 0, none⟩) 1 1)]).run Tryz.prog w = .ok (.agg #[.bool false, .slice none 0 0, .slice (some ⟨g, 0, none⟩) 1 1]) w := fun g w => run_build w 27 _ _ (by kernel_rfl)
          have a0 : (w6).cell? ⟨C, 0, none⟩ = some (.bool bb) := HA6.out.cell 0
          have a1 : (w6).cell? ⟨C, 1, none⟩ = some (.slice p n c) := HA6.out.cell 1
          have a2 : (w6).cell? ⟨C, 2, none⟩ = some (.slice (some ⟨w2.heap.size, 0, none⟩) 1 1) := HA6.out.cell 2
          have af0 := HA6.out.free 0
          have af1 := HA6.out.free 1
          have af2 := HA6.out.free 2
          have r0 : (w6).cell? ⟨w.heap.size, 0, none⟩ = some (.bool false) := HR6.out.cell 0
          have r1 : (w6).cell? ⟨w.heap.size, 1, none⟩ = some (.slice none 0 0) := HR6.out.cell 1
          have r2 : (w6).cell? ⟨w.heap.size, 2, none⟩ = some (.slice none 0 0) := HR6.out.cell 2
          have rf0 := HR6.out.free 0
          have rf1 := HR6.out.free 1
          have rf2 := HR6.out.free 2
          rcases hg with ⟨hp, v2, rfl, hv2⟩ | ⟨hp, rfl⟩
          · skip
            exact absurd hp (by rw [← HLO.out, (HBAD.out.resolve_left (by rw [HUP.out, HPU.out]; simp)).2]; simp)
          · skip
            have HNO := Lib.hid (Fr.getQ_no2 (s := s) HFK.out (.inl (by rw [HLO.out]; exact hp)))
            clear hp
            obtain ⟨w7, hw7⟩ : ∃ W, w6.setCell ⟨C, 2, none⟩ (.slice none 0 0) = W := ⟨_, rfl⟩
            have HA7 := Lib.hid (HA6.out.set 2 (.slice none 0 0))
            have HR7 := Lib.hid (HR6.out.other hne2 2 (.slice none 0 0))
            have HB7 := Lib.hid (HB6.out.setCell (p := ⟨C, 2, none⟩) (Nat.le_of_lt hBC) (.slice none 0 0))
            have HN7 := Lib.hid (HN6.out.store HA6.out (by decide) 2 (.slice none 0 0))
            rw [hw7] at HA7 HR7 HB7 HN7
            have b0 : (w7).cell? ⟨C, 0, none⟩ = some (.bool bb) := HA7.out.cell 0
            have b1 : (w7).cell? ⟨C, 1, none⟩ = some (.slice p n c) := HA7.out.cell 1
            have b2 : (w7).cell? ⟨C, 2, none⟩ = some (.slice none 0 0) := HA7.out.cell 2
            have bf0 := HA7.out.free 0
            have bf1 := HA7.out.free 1
            have bf2 := HA7.out.free 2
            have HRN := Lib.hid (HR7.out.alloc (.cells #[.int .i64 1] 3))
            have x0 : ((w7.alloc (.cells #[.int .i64 1] 3))).cell? ⟨w.heap.size, 0, none⟩ = some (.bool false) := HRN.out.cell 0
            have x1 : ((w7.alloc (.cells #[.int .i64 1] 3))).cell? ⟨w.heap.size, 1, none⟩ = some (.slice none 0 0) := HRN.out.cell 1
            have x2 : ((w7.alloc (.cells #[.int .i64 1] 3))).cell? ⟨w.heap.size, 2, none⟩ = some (.slice none 0 0) := HRN.out.cell 2
            have xf0 := HRN.out.free 0
            have xf1 := HRN.out.free 1
            have xf2 := HRN.out.free 2
            go_wp2
            have HBN := Lib.hid (HB7.out.alloc HB7.out.size (.cells #[.int .i64 1] 3))
            have HRZ := Lib.hid (HRN.out.put3 (x := .bool false) (y := .slice none 0 0) (z := .slice (some ⟨(w7).heap.size, 0, none⟩) 1 1))
            have HBZ := Lib.hid (((HBN.out.setCell (p := ⟨w.heap.size, 0, none⟩) (Nat.le_refl _) (.bool false)).setCell (p := ⟨w.heap.size, 1, none⟩) (Nat.le_refl _) (.slice none 0 0)).setCell (p := ⟨w.heap.size, 2, none⟩) (Nat.le_refl _) (.slice (some ⟨(w7).heap.size, 0, none⟩) 1 1))
            generalize ((((w7.alloc (.cells #[.int .i64 1] 3)).setCell ⟨w.heap.size, 0, none⟩ (.bool false)).setCell ⟨w.heap.size, 1, none⟩ (.slice none 0 0)).setCell ⟨w.heap.size, 2, none⟩ (.slice (some ⟨(w7).heap.size, 0, none⟩) 1 1)) = wz at *
            have z0 : wz.cell? ⟨w.heap.size, 0, none⟩ = some (.bool false) := HRZ.out.cell 0
            have z1 : wz.cell? ⟨w.heap.size, 1, none⟩ = some (.slice none 0 0) := HRZ.out.cell 1
            have z2 : wz.cell? ⟨w.heap.size, 2, none⟩ = some (.slice (some ⟨(w7).heap.size, 0, none⟩) 1 1) := HRZ.out.cell 2
            (try simp only [Exit.inBlock, Exit.then])
            refine bodyPost_ret (v := .tuple #[.agg #[.bool false, .slice none 0 0, .slice (some ⟨(w7).heap.size, 0, none⟩) 1 1], .bool false]) (by simp [results, Tryz.results42, go_sem, z0, z1, z2]; try rfl) rfl ⟨.inr ⟨HNO.out, _, _, _, rfl⟩, HBZ.out⟩
        · skip
          have HNO := Lib.hid (HNP.out hp)
          have HN3 := Lib.hid (num_nought (w2.alloc (.cells #[.int .i64 1] 3)) (s.size + 1))
          clear hp HB2 HR2 HNP
          go_wp2_with fail
          with_reducible refine (Tryz.rFrac true (.slice none 0 0) (.slice (some ⟨w2.heap.size, 0, none⟩) 1 1) 0 1 _ _ _ HN3.out HO3.out).mono ?_
          rintro e w4 ⟨rfl, hb4⟩
          have HR4 := Lib.hid (HR3.out.below hb4)
          have HB4 := Lib.hid (HB3.out.trans (hb4.mono HB3.out.size))
          clear hb4 HR3 HB3 HN3 HO3 O3
          obtain ⟨bb, hbb⟩ : ∃ bb : Bool, (true && decide (0 < (0 : Int))) = bb := ⟨_, rfl⟩
          rw [hbb]
          clear hbb
          obtain ⟨w5, hw5⟩ : ∃ W, w4.alloc (.cells #[.bool bb, .slice none 0 0, .slice (some ⟨w2.heap.size, 0, none⟩) 1 1] 27) = W := ⟨_, rfl⟩
          have hch : ((((w4.alloc (.cells #[.bool false, .slice none 0 0, .slice none 0 0] 27)).setCell ⟨w4.heap.size, 0, none⟩ (.bool bb)).setCell ⟨w4.heap.size, 1, none⟩ (.slice none 0 0)).setCell ⟨w4.heap.size, 2, none⟩ (.slice (some ⟨w2.heap.size, 0, none⟩) 1 1)) = w5 := by rw [set3, hw5]
          have HR5 := Lib.hid (HR4.out.alloc (.cells #[.bool bb, .slice none 0 0, .slice (some ⟨w2.heap.size, 0, none⟩) 1 1] 27))
          have HB5 := Lib.hid (HB4.out.alloc HB4.out.size (.cells #[.bool bb, .slice none 0 0, .slice (some ⟨w2.heap.size, 0, none⟩) 1 1] 27))
          rw [hw5] at HR5 HB5
          clear hw5
          have hBC := HR4.out.lt
          have hne : w4.heap.size ≠ w.heap.size := by omega
          have hne2 : w.heap.size ≠ w4.heap.size := by omega
          have hbd2 : ∀ (g : Nat) (w : World), (Instr.build 27 #[(2, .slice (some ⟨g, 0, none⟩) 1 1)]).run Tryz.prog w = .ok (.agg #[.bool false, .slice none 0 0, .slice (some ⟨g, 0, none⟩) 1 1]) w := fun g w => run_build w 27 _ _ (by kernel_rfl)
          have HRN := Lib.hid (HR5.out.alloc (.cells #[.int .i64 1] 3))
          have x0 : ((w5.alloc (.cells #[.int .i64 1] 3))).cell? ⟨w.heap.size, 0, none⟩ = some (.bool false) := HRN.out.cell 0
          have x1 : ((w5.alloc (.cells #[.int .i64 1] 3))).cell? ⟨w.heap.size, 1, none⟩ = some (.slice none 0 0) := HRN.out.cell 1
          have x2 : ((w5.alloc (.cells #[.int .i64 1] 3))).cell? ⟨w.heap.size, 2, none⟩ = some (.slice none 0 0) := HRN.out.cell 2
          have xf0 := HRN.out.free 0
          have xf1 := HRN.out.free 1
          have xf2 := HRN.out.free 2
          go_wp2
          have HBN := Lib.hid (HB5.out.alloc HB5.out.size (.cells #[.int .i64 1] 3))
          have HRZ := Lib.hid (HRN.out.put3 (x := .bool false) (y := .slice none 0 0) (z := .slice (some ⟨(w5).heap.size, 0, none⟩) 1 1))
          have HBZ := Lib.hid (((HBN.out.setCell (p := ⟨w.heap.size, 0, none⟩) (Nat.le_refl _) (.bool false)).setCell (p := ⟨w.heap.size, 1, none⟩) (Nat.le_refl _) (.slice none 0 0)).setCell (p := ⟨w.heap.size, 2, none⟩) (Nat.le_refl _) (.slice (some ⟨(w5).heap.size, 0, none⟩) 1 1))
          generalize ((((w5.alloc (.cells #[.int .i64 1] 3)).setCell ⟨w.heap.size, 0, none⟩ (.bool false)).setCell ⟨w.heap.size, 1, none⟩ (.slice none 0 0)).setCell ⟨w.heap.size, 2, none⟩ (.slice (some ⟨(w5).heap.size, 0, none⟩) 1 1)) = wz at *
          have z0 : wz.cell? ⟨w.heap.size, 0, none⟩ = some (.bool false) := HRZ.out.cell 0
          have z1 : wz.cell? ⟨w.heap.size, 1, none⟩ = some (.slice none 0 0) := HRZ.out.cell 1
          have z2 : wz.cell? ⟨w.heap.size, 2, none⟩ = some (.slice (some ⟨(w5).heap.size, 0, none⟩) 1 1) := HRZ.out.cell 2
          (try simp only [Exit.inBlock, Exit.then])
          refine bodyPost_ret (v := .tuple #[.agg #[.bool false, .slice none 0 0, .slice (some ⟨(w5).heap.size, 0, none⟩) 1 1], .bool false]) (by simp [results, Tryz.results42, go_sem, z0, z1, z2]; try rfl) rfl ⟨.inr ⟨HNO.out, _, _, _, rfl⟩, HBZ.out⟩
      · have h2 := hat.2 h47
        have hb47 : ((t[k].toNat : Int) == 47) = false := by simpa using h47
        have hn47 : ((t[k].toNat : Int) != 47) = true := by simpa using h47
        clear hat
        go_wp2
        exact ⟨⟨k + 1, by simp, h2⟩, by simp [intOf]; omega⟩
    · have HK : Hid (Fr.stroke t = k) := by show _ = _; omega
      have c1 : (0 : Int) ≤ k := by omega
      have c2 : (k : Int) ≤ t.size := by omega
      have c4 : ¬(k : Int) < t.size := by omega
      clear hk hkl
      go_wp2_with fail
      have HUP : Hid (Fr.upper s = (t.extract 0 k)) := by show _ = _; unfold Fr.upper; rw [HS.out, HK.out]
      have hul : (t.extract 0 k).size ≤ s.size := by rw [ByteArray.size_extract]; have := HTL.out; omega
      have HNP := Lib.hid (fun h => Fr.getQ_no (s := s) (.inl (by rw [HUP.out]; exact h)))
      with_reducible refine (Tryz.getNX (t.extract 0 k) _ (by omega)).mono ?_
      rintro e w2 ⟨hg, hb2⟩
      have HB2 := Lib.hid (HB1.out.trans (hb2.mono HB1.out.size))
      have HR2 := Lib.hid (HR1.out.below hb2)
      clear HB1 HR1 hb2
      have HO3 := Lib.hid ((NumIs.one w2 1 (by omega) (by omega)).mono (show 1 ≤ s.size + 1 by omega))
      have HR3 := Lib.hid (HR2.out.alloc (.cells #[.int .i64 1] 3))
      have HB3 := Lib.hid (HB2.out.alloc HB2.out.size (.cells #[.int .i64 1] 3))
      have O3 := Lib.hid (CellsAt.new w2 #[.int .i64 1] 3 rfl)
      rcases hg with ⟨hp, v, rfl, hv⟩ | ⟨hp, rfl⟩
      · skip
        exact absurd (HBAD.out.resolve_left (by rw [HUP.out, hp]; simp)).1 (by rw [HS.out, HK.out]; exact hlt)
      · skip
        have HNO := Lib.hid (HNP.out hp)
        have HN3 := Lib.hid (num_nought (w2.alloc (.cells #[.int .i64 1] 3)) (s.size + 1))
        clear hp HB2 HR2 HNP
        go_wp2_with fail
        with_reducible refine (Tryz.rFrac true (.slice none 0 0) (.slice (some ⟨w2.heap.size, 0, none⟩) 1 1) 0 1 _ _ _ HN3.out HO3.out).mono ?_
        rintro e w4 ⟨rfl, hb4⟩
        have HR4 := Lib.hid (HR3.out.below hb4)
        have HB4 := Lib.hid (HB3.out.trans (hb4.mono HB3.out.size))
        clear hb4 HR3 HB3 HN3 HO3 O3
        obtain ⟨bb, hbb⟩ : ∃ bb : Bool, (true && decide (0 < (0 : Int))) = bb := ⟨_, rfl⟩
        rw [hbb]
        clear hbb
        obtain ⟨w5, hw5⟩ : ∃ W, w4.alloc (.cells #[.bool bb, .slice none 0 0, .slice (some ⟨w2.heap.size, 0, none⟩) 1 1] 27) = W := ⟨_, rfl⟩
        have hch : ((((w4.alloc (.cells #[.bool false, .slice none 0 0, .slice none 0 0] 27)).setCell ⟨w4.heap.size, 0, none⟩ (.bool bb)).setCell ⟨w4.heap.size, 1, none⟩ (.slice none 0 0)).setCell ⟨w4.heap.size, 2, none⟩ (.slice (some ⟨w2.heap.size, 0, none⟩) 1 1)) = w5 := by rw [set3, hw5]
        have HR5 := Lib.hid (HR4.out.alloc (.cells #[.bool bb, .slice none 0 0, .slice (some ⟨w2.heap.size, 0, none⟩) 1 1] 27))
        have HB5 := Lib.hid (HB4.out.alloc HB4.out.size (.cells #[.bool bb, .slice none 0 0, .slice (some ⟨w2.heap.size, 0, none⟩) 1 1] 27))
        rw [hw5] at HR5 HB5
        clear hw5
        have hBC := HR4.out.lt
        have hne : w4.heap.size ≠ w.heap.size := by omega
        have hne2 : w.heap.size ≠ w4.heap.size := by omega
        have hbd2 : ∀ (g : Nat) (w : World), (Instr.build 27 #[(2, .slice (some ⟨g, 0, none⟩) 1 1)]).run Tryz.prog w = .ok (.agg #[.bool false, .slice none 0 0, .slice (some ⟨g, 0, none⟩) 1 1]) w := fun g w => run_build w 27 _ _ (by kernel_rfl)
        have HRN := Lib.hid (HR5.out.alloc (.cells #[.int .i64 1] 3))
        have x0 : ((w5.alloc (.cells #[.int .i64 1] 3))).cell? ⟨w.heap.size, 0, none⟩ = some (.bool false) := HRN.out.cell 0
        have x1 : ((w5.alloc (.cells #[.int .i64 1] 3))).cell? ⟨w.heap.size, 1, none⟩ = some (.slice none 0 0) := HRN.out.cell 1
        have x2 : ((w5.alloc (.cells #[.int .i64 1] 3))).cell? ⟨w.heap.size, 2, none⟩ = some (.slice none 0 0) := HRN.out.cell 2
        have xf0 := HRN.out.free 0
        have xf1 := HRN.out.free 1
        have xf2 := HRN.out.free 2
        go_wp2
        have HBN := Lib.hid (HB5.out.alloc HB5.out.size (.cells #[.int .i64 1] 3))
        have HRZ := Lib.hid (HRN.out.put3 (x := .bool false) (y := .slice none 0 0) (z := .slice (some ⟨(w5).heap.size, 0, none⟩) 1 1))
        have HBZ := Lib.hid (((HBN.out.setCell (p := ⟨w.heap.size, 0, none⟩) (Nat.le_refl _) (.bool false)).setCell (p := ⟨w.heap.size, 1, none⟩) (Nat.le_refl _) (.slice none 0 0)).setCell (p := ⟨w.heap.size, 2, none⟩) (Nat.le_refl _) (.slice (some ⟨(w5).heap.size, 0, none⟩) 1 1))
        generalize ((((w5.alloc (.cells #[.int .i64 1] 3)).setCell ⟨w.heap.size, 0, none⟩ (.bool false)).setCell ⟨w.heap.size, 1, none⟩ (.slice none 0 0)).setCell ⟨w.heap.size, 2, none⟩ (.slice (some ⟨(w5).heap.size, 0, none⟩) 1 1)) = wz at *
        have z0 : wz.cell? ⟨w.heap.size, 0, none⟩ = some (.bool false) := HRZ.out.cell 0
        have z1 : wz.cell? ⟨w.heap.size, 1, none⟩ = some (.slice none 0 0) := HRZ.out.cell 1
        have z2 : wz.cell? ⟨w.heap.size, 2, none⟩ = some (.slice (some ⟨(w5).heap.size, 0, none⟩) 1 1) := HRZ.out.cell 2
        (try simp only [Exit.inBlock, Exit.then])
        refine bodyPost_ret (v := .tuple #[.agg #[.bool false, .slice none 0 0, .slice (some ⟨(w5).heap.size, 0, none⟩) 1 1], .bool false]) (by simp [results, Tryz.results42, go_sem, z0, z1, z2]; try rfl) rfl ⟨.inr ⟨HNO.out, _, _, _, rfl⟩, HBZ.out⟩
theorem Tryz.rGetB (s : ByteArray) (w : World) (hbad : Tx.plainB (Fr.upper s) = false ∨ (Fr.stroke (Fr.size s) < (Fr.size s).size ∧ Tx.plainB (Fr.lower s) = false)) (hmax : s.size ≤ 30000) :
    Calls Tryz.prog 42 #[.string s] w fun e w' => RGet s w' e ∧ Below w.heap.size w w' := by
  by_cases h0 : s.size = 0
  · exact Tryz.rGetE s w hmax h0
  · cases hm : Fr.minus s
    · exact Tryz.rGetBP s w hbad hmax (by omega) hm
    · exact Tryz.rGetBM s w hbad hmax (by omega) hm
end Go.Proofs
