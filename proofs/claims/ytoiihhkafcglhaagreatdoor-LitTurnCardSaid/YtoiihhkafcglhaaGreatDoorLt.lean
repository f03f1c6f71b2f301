/- What exponent of the reference returns. What Lit of the reference returns of texts that are no fraction. -/
import Derived.Test.YtoiihhkafcglhaaGreatDoorLr
import Derived.Test.YtoiihhkafcglhaaGreatDoorLa
import Derived.Test.YtoiihhkafcglhaaGreatDoorRz
import Derived.Test.YtoiihhkafcglhaaGreatDoorRa
import Derived.Test.YtoiihhkafcglhaaGreatDoorRg
namespace Go.Proofs.Fr
open Go.RowKit Go.Proofs.Wd
set_option linter.unusedVariables false
/-- What exponent tells. -/
def ExpIs (o : Option Int) (e : Ending) : Prop := (∃ p, o = some p ∧ -100 ≤ p ∧ p ≤ 100 ∧ e = .returned (.tuple #[.int .i64 p, .bool true])) ∨ (o = none ∧ ∃ n, e = .returned (.tuple #[.int .i64 n, .bool false]))
/-- The number of what stands behind a sign. -/
def powD (neg : Bool) (d : List UInt8) : Option Int := if d.length ≤ 3 ∧ allDig d = true ∧ Tx.dv d ≤ 100 then some (sgn neg (Tx.dv d)) else none
theorem powOf_d (l : List UInt8) : powOf l = powD (litSign l).1 (litSign l).2 := rfl
theorem get_head {s : ByteArray} (h : 0 < s.size) : s.data.toList = s[0] :: s.data.toList.drop 1 := by
  have h0 := Lib.data_getElem? s 0 h
  cases hl : s.data.toList with
  | nil => rw [hl] at h0; simp at h0
  | cons a l =>
    rw [hl] at h0
    simp at h0
    rw [h0]; rfl
theorem byte_eq {b : UInt8} {n : Nat} (hn : n < 256) : ((b.toNat : Int) = n) ↔ b = UInt8.ofNat n := by
  constructor
  · intro h
    rw [← UInt8.ofNat_toNat (x := b)]
    congr 1
    omega
  · rintro rfl
    simp; omega
/-- The digits of the exponent so far. -/
def ExpAt (D : ByteArray) (k : Nat) (n : Int) : Prop := k ≤ 3 ∧ k ≤ D.size ∧ n = (Tx.dv (D.data.toList.take k) : Int) ∧ (∀ c ∈ D.data.toList.take k, Tx.isDig c)
theorem ExpAt.start (D : ByteArray) : ExpAt D 0 0 := ⟨by omega, by omega, by simp [Tx.dv], by simp⟩
theorem ExpAt.bound {D : ByteArray} {k : Nat} {n : Int} (h : ExpAt D k n) : 0 ≤ n ∧ n < 1000 := by
  obtain ⟨h1, h2, rfl, h4⟩ := h
  have h5 := Tx.dv_lt h4
  have h6 : (D.data.toList.take k).length ≤ 3 := by rw [List.length_take]; omega
  have h7 : (10 : Nat) ^ (D.data.toList.take k).length ≤ 10 ^ 3 := Nat.pow_le_pow_right (by decide) h6
  omega
theorem ExpAt.next {D : ByteArray} {k : Nat} {n : Int} (h : ExpAt D k n) (hk : k < D.size) (h1 : 48 ≤ (D[k].toNat : Int)) (h2 : (D[k].toNat : Int) ≤ 57) (h3 : k ≤ 2) : ExpAt D (k + 1) (n * 10 + ((D[k].toNat : Int) - 48)) := by
  obtain ⟨g1, g2, rfl, g4⟩ := h
  have ht : D.data.toList.take (k + 1) = D.data.toList.take k ++ [D[k]] := by
    rw [List.take_add_one, Lib.data_getElem? D k hk]; rfl
  refine ⟨by omega, by omega, ?_, ?_⟩
  · rw [ht, Tx.dv_snoc]; omega
  · rw [ht]
    intro c hc
    rcases List.mem_append.1 hc with hc | hc
    · exact g4 c hc
    · rw [List.mem_singleton.1 hc]; unfold Tx.isDig; omega
theorem powD_bad {neg : Bool} {D : ByteArray} {k : Nat} (hk : k < D.size) (hb : (D[k].toNat : Int) < 48 ∨ 57 < (D[k].toNat : Int)) : powD neg D.data.toList = none := by
  unfold powD
  rw [if_neg]
  rw [allDig_stop hk hb]
  simp
theorem powD_long {neg : Bool} {D : ByteArray} (h : 3 < D.size) : powD neg D.data.toList = none := by
  unfold powD
  rw [if_neg]
  rw [Tx.length_list]
  omega
theorem ExpAt.done {D : ByteArray} {n : Int} (h : ExpAt D D.size n) (neg : Bool) : powD neg D.data.toList = if D.size ≠ 0 ∧ n ≤ 100 then some (if neg = true then -n else n) else none := by
  obtain ⟨g1, g2, rfl, g4⟩ := h
  have ht : D.data.toList.take D.size = D.data.toList := by rw [List.take_of_length_le (by rw [Tx.length_list]; omega)]
  rw [ht] at g4 ⊢
  unfold powD
  by_cases h0 : D.size = 0
  · rw [if_neg (c := D.size ≠ 0 ∧ _) (fun g => g.1 h0), if_neg]
    rintro ⟨-, ha, -⟩
    have := (allDig_iff.1 ha).1
    exact this (List.length_eq_zero_iff.1 (by rw [Tx.length_list]; exact h0))
  · have ha : allDig D.data.toList = true := allDig_iff.2 ⟨fun e => h0 (by rw [← Tx.length_list, e]; rfl), g4⟩
    rw [ha, Tx.length_list]
    by_cases hp : Tx.dv D.data.toList ≤ 100
    · rw [if_pos ⟨g1, rfl, hp⟩, if_pos ⟨h0, by omega⟩]
      cases neg <;> rfl
    · rw [if_neg (fun g => hp g.2.2), if_neg (fun g => hp (by omega))]
theorem ExpAt.empty {D : ByteArray} {n : Int} (h : ExpAt D 0 n) (h0 : D.size = 0) : powD false D.data.toList = none := by
  have h2 := (show ExpAt D D.size n by rw [h0]; exact h).done false
  rw [h2, if_neg (fun g => g.1 h0)]
set_option maxHeartbeats 8000000 in
set_option maxRecDepth 100000 in
theorem Tryz.refExp (s : ByteArray) (w : World) (hs : s.size ≤ 1000) :
    Calls Tryz.prog 46 #[.string s] w fun e w' => ExpIs (expOf s.data.toList) e ∧ Below w.heap.size w w' := by
  by_cases h0 : s.size = 0
  · have hl : s.data.toList = [] := List.length_eq_zero_iff.1 (by rw [Tx.length_list]; exact h0)
    have hemp : s.toList.isEmpty = true := by rw [Lib.toList_data, hl]; rfl
    have HY : Hid (ExpIs (expOf s.data.toList) (.returned (.tuple #[.int .i64 0, .bool true]))) := .inl ⟨0, by rw [hl]; rfl, by omega, by omega, rfl⟩
    clear hl
    go_enter Tryz.func46, Tryz.ntmps46
    go_wp2
    go_ret2
    exact ⟨HY.out, Below.refl _ _⟩
  · have hpos : 0 < s.size := by omega
    have hne : s.toList.isEmpty = false := by
      rw [Lib.toList_data, get_head hpos]; rfl
    have hl := get_head hpos
    obtain ⟨o, ho⟩ : ∃ o, expOf s.data.toList = o := ⟨_, rfl⟩
    have hE : isE s[0] = true ↔ ((s[0].toNat : Int) = 101 ∨ (s[0].toNat : Int) = 69) := by
      unfold isE
      rw [Bool.or_eq_true, beq_iff_eq, beq_iff_eq]
      have h1 := byte_eq (b := s[0]) (n := 101) (by omega)
      have h2 := byte_eq (b := s[0]) (n := 69) (by omega)
      constructor
      · rintro (h | h)
        · exact .inl (h1.2 h)
        · exact .inr (h2.2 h)
      · rintro (h | h)
        · exact .inl (h1.1 h)
        · exact .inr (h2.1 h)
    rw [ho]
    by_cases he : isE s[0] = true
    · have hT := ho
      rw [hl] at hT
      unfold expOf at hT
      simp only [he, if_true] at hT
      obtain ⟨T, hTT⟩ : ∃ T, s.extract 1 s.size = T := ⟨_, rfl⟩
      have hTl : T.data.toList = s.data.toList.drop 1 := by rw [← hTT, Tx.extract_list, List.take_of_length_le (by rw [Tx.length_list]; omega)]
      have hTs : T.size ≤ 1000 := by rw [← hTT, ByteArray.size_extract]; omega
      rw [← hTl, powOf_d] at hT
      have HT := Lib.hid hT
      have he2 := hE.1 he
      have hEb : ((s[0].toNat : Int) == 101 || (s[0].toNat : Int) == 69) = true := by
        rcases he2 with h | h <;> rw [h] <;> decide
      clear hT hTl hl ho hE he
      have HB := Lib.hid (Below.refl w.heap.size w)
      obtain ⟨c101, hc101⟩ : ∃ b : Bool, ((s[0].toNat : Int) != 101) = b := ⟨_, rfl⟩
      by_cases hT0 : T.size = 0
      · have HO : Hid (o = powD false T.data.toList) := by
          show _ = _
          rw [← HT.out]
          have h0 : T.data.toList = [] := List.length_eq_zero_iff.1 (by rw [Tx.length_list]; exact hT0)
          rw [h0]; rfl
        have hemp0 : T.toList.isEmpty = true := by
          rw [Lib.toList_data, List.length_eq_zero_iff.1 (show T.data.toList.length = 0 by rw [Tx.length_list]; exact hT0)]; rfl
        clear HT
        rcases he2 with he2 | he2
        all_goals
          go_enter Tryz.func46, Tryz.ntmps46
          go_wp2
          go_loop [5, 6] (fun n i => n = .int .i64 0 ∧ i = .int .i64 0) (fun _ _ => 0)
          case atStart => exact ⟨rfl, rfl⟩
          case round =>
            obtain ⟨rfl, rfl⟩ := hrel
            obtain rfl : o = none := by
              rw [HO.out, (ExpAt.start T).empty hT0]
            clear HO
            go_wp2
            go_ret2
            exact ⟨.inr ⟨rfl, _, rfl⟩, HB.out⟩
      · have hTp : 0 < T.size := by omega
        have hempT : T.toList.isEmpty = false := by rw [Lib.toList_data, get_head hTp]; rfl
        have hTh := get_head hTp
        have hhd : T.data.toList.head? = some T[0] := by rw [hTh]; rfl
        have b43 := byte_eq (b := T[0]) (n := 43) (by omega)
        have b45 := byte_eq (b := T[0]) (n := 45) (by omega)
        obtain ⟨D, hD⟩ : ∃ D, T.extract 1 T.size = D := ⟨_, rfl⟩
        have hDl : D.data.toList = T.data.toList.drop 1 := by rw [← hD, Tx.extract_list, List.take_of_length_le (by rw [Tx.length_list]; omega)]
        have hDs : D.size ≤ 1000 := by rw [← hD, ByteArray.size_extract]; omega
        by_cases h45 : (T[0].toNat : Int) = 45
        · have HO : Hid (o = powD true D.data.toList) := by
            show _ = _
            rw [← HT.out]
            unfold litSign
            rw [if_pos (by rw [hhd, b45.1 h45]; rfl), hDl]
          clear HT hDl hhd b43 b45 hTh
          have x43 : ((T[0].toNat : Int) == 43) = false := by rw [h45]; decide
          have x45 : ((T[0].toNat : Int) == 45) = true := by rw [h45]; decide
          rcases he2 with he2 | he2
          all_goals
            go_enter Tryz.func46, Tryz.ntmps46
            go_wp2
            go_quiet (fail)
            have HB := Lib.hid (belowN HB.out nq)
            generalize w.drewN nq = w1 at *
            go_wp2
            go_loop [5, 6] (fun n i => ∃ (k : Nat) (a : Int), n = .int .i64 a ∧ i = .int .i64 k ∧ ExpAt D k a) (fun _ i => D.size - (intOf i).toNat)
            case atStart => exact ⟨0, 0, rfl, rfl, ExpAt.start _⟩
            case round =>
              obtain ⟨k, a, rfl, rfl, ha⟩ := hrel
              have hb := ha.bound
              obtain ⟨a0, a9⟩ := hb
              have hk3 := ha.1
              have hks := ha.2.1
              have HA := Lib.hid ha
              clear ha
              by_cases hkn : k = D.size
              · subst hkn
                have hdn := HA.out.done true
                have HO2 : Hid (o = if D.size ≠ 0 ∧ a ≤ 100 then some (if true = true then -a else a) else none) := by
                  show _ = _
                  rw [HO.out, hdn]
                clear hdn HO HA
                by_cases hd0 : D.size = 0
                · have hemp : D.toList.isEmpty = true := by
                    rw [Lib.toList_data, List.length_eq_zero_iff.1 (show D.data.toList.length = 0 by rw [Tx.length_list]; exact hd0)]; rfl
                  obtain rfl : o = none := by rw [HO2.out, if_neg (fun g => g.1 hd0)]
                  clear HO2
                  first
                    | (exfalso; omega)
                    | (go_wp2
                       go_ret2
                       exact ⟨.inr ⟨rfl, _, rfl⟩, HB.out⟩)
                · have hemp : D.toList.isEmpty = false := by
                    rw [Lib.toList_data, get_head (show 0 < D.size by omega)]; rfl
                  by_cases ha1 : a ≤ 100
                  · obtain rfl : o = some (-a) := by rw [HO2.out, if_pos ⟨hd0, ha1⟩]; rfl
                    have HY : Hid (ExpIs (some (-a)) (.returned (.tuple #[.int .i64 (-a), .bool true]))) := .inl ⟨_, rfl, by omega, by omega, rfl⟩
                    have hle : decide (-a ≤ 100) = true := by simp; omega
                    clear HO2
                    go_wp2
                    go_ret2
                    exact ⟨HY.out, HB.out⟩
                  · obtain rfl : o = none := by rw [HO2.out, if_neg (fun g => ha1 g.2)]
                    clear HO2
                    go_wp2
                    go_ret2
                    exact ⟨.inr ⟨rfl, _, rfl⟩, HB.out⟩
              · have hkl : k < D.size := by omega
                by_cases h1 : (D[k].toNat : Int) < 48
                · obtain rfl : o = none := by rw [HO.out]; exact powD_bad hkl (.inl h1)
                  clear HO HA
                  go_wp2
                  go_ret2
                  exact ⟨.inr ⟨rfl, _, rfl⟩, HB.out⟩
                · by_cases h2 : 57 < (D[k].toNat : Int)
                  · obtain rfl : o = none := by rw [HO.out]; exact powD_bad hkl (.inr h2)
                    clear HO HA
                    go_wp2
                    go_ret2
                    exact ⟨.inr ⟨rfl, _, rfl⟩, HB.out⟩
                  · by_cases h3 : 2 < k
                    · obtain rfl : o = none := by rw [HO.out]; exact powD_long (by omega)
                      clear HO HA
                      go_wp2
                      go_ret2
                      exact ⟨.inr ⟨rfl, _, rfl⟩, HB.out⟩
                    · have HN := Lib.hid (HA.out.next hkl (by omega) (by omega) (by omega))
                      clear HA
                      go_wp2
                      exact ⟨⟨k + 1, _, rfl, by simp, HN.out⟩, by simp [intOf]; omega⟩

        · by_cases h43 : (T[0].toNat : Int) = 43
          · have HO : Hid (o = powD false D.data.toList) := by
              show _ = _
              rw [← HT.out]
              unfold litSign
              have n45 : ¬ T.data.toList.head? = some 45 := by
                rw [hhd]
                intro e
                exact h45 (b45.2 (by simpa using e))
              rw [if_neg n45, if_pos (by rw [hhd, b43.1 h43]; rfl), hDl]
            clear HT hDl hhd b43 b45 hTh
            have x43 : ((T[0].toNat : Int) == 43) = true := by rw [h43]; decide
            have x45 : ((T[0].toNat : Int) == 45) = false := by rw [h43]; decide
            rcases he2 with he2 | he2
            all_goals
              go_enter Tryz.func46, Tryz.ntmps46
              go_wp2
              go_quiet (fail)
              have HB := Lib.hid (belowN HB.out nq)
              generalize w.drewN nq = w1 at *
              go_wp2
              go_loop [5, 6] (fun n i => ∃ (k : Nat) (a : Int), n = .int .i64 a ∧ i = .int .i64 k ∧ ExpAt D k a) (fun _ i => D.size - (intOf i).toNat)
              case atStart => exact ⟨0, 0, rfl, rfl, ExpAt.start _⟩
              case round =>
                obtain ⟨k, a, rfl, rfl, ha⟩ := hrel
                have hb := ha.bound
                obtain ⟨a0, a9⟩ := hb
                have hk3 := ha.1
                have hks := ha.2.1
                have HA := Lib.hid ha
                clear ha
                by_cases hkn : k = D.size
                · subst hkn
                  have hdn := HA.out.done false
                  have HO2 : Hid (o = if D.size ≠ 0 ∧ a ≤ 100 then some (if false = true then -a else a) else none) := by
                    show _ = _
                    rw [HO.out, hdn]
                  clear hdn HO HA
                  by_cases hd0 : D.size = 0
                  · have hemp : D.toList.isEmpty = true := by
                      rw [Lib.toList_data, List.length_eq_zero_iff.1 (show D.data.toList.length = 0 by rw [Tx.length_list]; exact hd0)]; rfl
                    obtain rfl : o = none := by rw [HO2.out, if_neg (fun g => g.1 hd0)]
                    clear HO2
                    first
                      | (exfalso; omega)
                      | (go_wp2
                         go_ret2
                         exact ⟨.inr ⟨rfl, _, rfl⟩, HB.out⟩)
                  · have hemp : D.toList.isEmpty = false := by
                      rw [Lib.toList_data, get_head (show 0 < D.size by omega)]; rfl
                    by_cases ha1 : a ≤ 100
                    · obtain rfl : o = some (a) := by rw [HO2.out, if_pos ⟨hd0, ha1⟩]; rfl
                      have HY : Hid (ExpIs (some (a)) (.returned (.tuple #[.int .i64 (a), .bool true]))) := .inl ⟨_, rfl, by omega, by omega, rfl⟩
                      have hle : decide (a ≤ 100) = true := by simp; omega
                      clear HO2
                      go_wp2
                      go_ret2
                      exact ⟨HY.out, HB.out⟩
                    · obtain rfl : o = none := by rw [HO2.out, if_neg (fun g => ha1 g.2)]
                      clear HO2
                      go_wp2
                      go_ret2
                      exact ⟨.inr ⟨rfl, _, rfl⟩, HB.out⟩
                · have hkl : k < D.size := by omega
                  by_cases h1 : (D[k].toNat : Int) < 48
                  · obtain rfl : o = none := by rw [HO.out]; exact powD_bad hkl (.inl h1)
                    clear HO HA
                    go_wp2
                    go_ret2
                    exact ⟨.inr ⟨rfl, _, rfl⟩, HB.out⟩
                  · by_cases h2 : 57 < (D[k].toNat : Int)
                    · obtain rfl : o = none := by rw [HO.out]; exact powD_bad hkl (.inr h2)
                      clear HO HA
                      go_wp2
                      go_ret2
                      exact ⟨.inr ⟨rfl, _, rfl⟩, HB.out⟩
                    · by_cases h3 : 2 < k
                      · obtain rfl : o = none := by rw [HO.out]; exact powD_long (by omega)
                        clear HO HA
                        go_wp2
                        go_ret2
                        exact ⟨.inr ⟨rfl, _, rfl⟩, HB.out⟩
                      · have HN := Lib.hid (HA.out.next hkl (by omega) (by omega) (by omega))
                        clear HA
                        go_wp2
                        exact ⟨⟨k + 1, _, rfl, by simp, HN.out⟩, by simp [intOf]; omega⟩

          · have HO : Hid (o = powD false T.data.toList) := by
              show _ = _
              rw [← HT.out]
              unfold litSign
              have n45 : ¬ T.data.toList.head? = some 45 := by
                rw [hhd]
                intro e
                exact h45 (b45.2 (by simpa using e))
              have n43 : ¬ T.data.toList.head? = some 43 := by
                rw [hhd]
                intro e
                exact h43 (b43.2 (by simpa using e))
              rw [if_neg n45, if_neg n43]
            clear HT hDl hhd b43 b45 hTh
            have x43 : ((T[0].toNat : Int) == 43) = false := by simpa using h43
            have x45 : ((T[0].toNat : Int) == 45) = false := by simpa using h45
            rcases he2 with he2 | he2
            all_goals
              go_enter Tryz.func46, Tryz.ntmps46
              go_wp2
              go_loop [5, 6] (fun n i => ∃ (k : Nat) (a : Int), n = .int .i64 a ∧ i = .int .i64 k ∧ ExpAt T k a) (fun _ i => T.size - (intOf i).toNat)
              case atStart => exact ⟨0, 0, rfl, rfl, ExpAt.start _⟩
              case round =>
                obtain ⟨k, a, rfl, rfl, ha⟩ := hrel
                have hb := ha.bound
                obtain ⟨a0, a9⟩ := hb
                have hk3 := ha.1
                have hks := ha.2.1
                have HA := Lib.hid ha
                clear ha
                by_cases hkn : k = T.size
                · subst hkn
                  have hdn := HA.out.done false
                  have HO2 : Hid (o = if T.size ≠ 0 ∧ a ≤ 100 then some (if false = true then -a else a) else none) := by
                    show _ = _
                    rw [HO.out, hdn]
                  clear hdn HO HA
                  by_cases hd0 : T.size = 0
                  · have hemp : T.toList.isEmpty = true := by
                      rw [Lib.toList_data, List.length_eq_zero_iff.1 (show T.data.toList.length = 0 by rw [Tx.length_list]; exact hd0)]; rfl
                    obtain rfl : o = none := by rw [HO2.out, if_neg (fun g => g.1 hd0)]
                    clear HO2
                    first
                      | (exfalso; omega)
                      | (go_wp2
                         go_ret2
                         exact ⟨.inr ⟨rfl, _, rfl⟩, HB.out⟩)
                  · have hemp : T.toList.isEmpty = false := by
                      rw [Lib.toList_data, get_head (show 0 < T.size by omega)]; rfl
                    by_cases ha1 : a ≤ 100
                    · obtain rfl : o = some (a) := by rw [HO2.out, if_pos ⟨hd0, ha1⟩]; rfl
                      have HY : Hid (ExpIs (some (a)) (.returned (.tuple #[.int .i64 (a), .bool true]))) := .inl ⟨_, rfl, by omega, by omega, rfl⟩
                      have hle : decide (a ≤ 100) = true := by simp; omega
                      clear HO2
                      go_wp2
                      go_ret2
                      exact ⟨HY.out, HB.out⟩
                    · obtain rfl : o = none := by rw [HO2.out, if_neg (fun g => ha1 g.2)]
                      clear HO2
                      go_wp2
                      go_ret2
                      exact ⟨.inr ⟨rfl, _, rfl⟩, HB.out⟩
                · have hkl : k < T.size := by omega
                  by_cases h1 : (T[k].toNat : Int) < 48
                  · obtain rfl : o = none := by rw [HO.out]; exact powD_bad hkl (.inl h1)
                    clear HO HA
                    go_wp2
                    go_ret2
                    exact ⟨.inr ⟨rfl, _, rfl⟩, HB.out⟩
                  · by_cases h2 : 57 < (T[k].toNat : Int)
                    · obtain rfl : o = none := by rw [HO.out]; exact powD_bad hkl (.inr h2)
                      clear HO HA
                      go_wp2
                      go_ret2
                      exact ⟨.inr ⟨rfl, _, rfl⟩, HB.out⟩
                    · by_cases h3 : 2 < k
                      · obtain rfl : o = none := by rw [HO.out]; exact powD_long (by omega)
                        clear HO HA
                        go_wp2
                        go_ret2
                        exact ⟨.inr ⟨rfl, _, rfl⟩, HB.out⟩
                      · have HN := Lib.hid (HA.out.next hkl (by omega) (by omega) (by omega))
                        clear HA
                        go_wp2
                        exact ⟨⟨k + 1, _, rfl, by simp, HN.out⟩, by simp [intOf]; omega⟩

    · have hn : o = none := by
        rw [← ho, hl]
        unfold expOf
        simp [he]
      subst hn
      have h1 : ¬ (s[0].toNat : Int) = 101 := fun h => he (hE.2 (.inl h))
      have h2 : ¬ (s[0].toNat : Int) = 69 := fun h => he (hE.2 (.inr h))
      have h1b : ((s[0].toNat : Int) != 101) = true := by simpa using h1
      have h2b : ((s[0].toNat : Int) != 69) = true := by simpa using h2
      have h1c : ((s[0].toNat : Int) == 101) = false := by simpa using h1
      have h2c : ((s[0].toNat : Int) == 69) = false := by simpa using h2
      clear hl ho hE he
      go_enter Tryz.func46, Tryz.ntmps46
      go_wp2
      go_ret2
      exact ⟨.inr ⟨rfl, _, rfl⟩, Below.refl _ _⟩
end Go.Proofs.Fr
namespace Go.Proofs
open Go.RowKit
set_option linter.unusedVariables false
set_option maxHeartbeats 16000000 in
set_option maxRecDepth 100000 in
theorem Tryz.rZero (w : World) :
    Calls Tryz.prog 41 #[] w fun e w' => (∃ g, e = .returned (.agg #[.bool false, .slice none 0 0, .slice (some ⟨g, 0, none⟩) 1 1])) ∧ Below w.heap.size w w' := by
  have hbd2 : ∀ (g : Nat) (w : World), (Instr.build 27 #[(2, .slice (some ⟨g, 0, none⟩) 1 1)]).run Tryz.prog w = .ok (.agg #[.bool false, .slice none 0 0, .slice (some ⟨g, 0, none⟩) 1 1]) w := fun g w => run_build w 27 _ _ (by kernel_rfl)
  go_enter Tryz.func41, Tryz.ntmps41
  go_wp2
  have HC := Lib.hid ((CellsAt.new w #[.bool false, .slice none 0 0, .slice (some ⟨w.heap.size + 1, 0, none⟩) 1 1] 27 rfl).alloc (.cells #[.int .i64 1] 3))
  have HB := Lib.hid (((Below.refl w.heap.size w).alloc (Nat.le_refl _) (.cells #[.bool false, .slice none 0 0, .slice (some ⟨w.heap.size + 1, 0, none⟩) 1 1] 27)).alloc (by simp) (.cells #[.int .i64 1] 3))
  generalize ((w.alloc (.cells #[.bool false, .slice none 0 0, .slice (some ⟨w.heap.size + 1, 0, none⟩) 1 1] 27)).alloc (.cells #[.int .i64 1] 3)) = wz at *
  have z0 := HC.out.cell 0
  have z1 := HC.out.cell 1
  have z2 := HC.out.cell 2
  refine bodyPost_ret (v := .agg #[.bool false, .slice none 0 0, .slice (some ⟨w.heap.size + 1, 0, none⟩) 1 1]) (by simp [results, Tryz.results41, go_sem, z0, z1, z2]; try rfl) rfl ⟨⟨_, rfl⟩, HB.out⟩
theorem Tryz.nDig {v : Value} {d : Int} {w : World} (h : Digs w v [d]) (h0 : 0 ≤ d) (h9 : d ≤ 9) :
    Calls Tryz.prog 45 #[v] w fun e w' => (∃ v', e = .returned v' ∧ NumIs w' v' d 1) ∧ w' = w := by
  refine (Tryz.rTrim v [d] w h).mono ?_
  rintro e w' ⟨⟨v', rfl, k, hk, h1, h2, h3⟩, hw⟩
  refine ⟨⟨v', rfl, [d].take k, by rw [hw]; exact h1, ?_, h2, by rw [h3, val_one], by simp at hk ⊢; omega⟩, hw⟩
  intro x hx
  have := List.mem_of_mem_take hx
  rw [List.mem_singleton.1 this]
  omega
/-- What Lit tells. -/
def RLit (o : Option Rat) (w : World) (e : Ending) : Prop :=
  (∃ q v, o = some q ∧ e = .returned (.tuple #[v, .bool true]) ∧ QIs w v q 500) ∨ (o = none ∧ ∃ a n c, e = .returned (.tuple #[.agg #[.bool false, .slice none 0 0, .slice a n c], .bool false]))
/-- The scan at the place k. -/
structure ScanAt (T : ByteArray) (k : Nat) (z : Int) (d p b : Nat) : Prop where
  le : k ≤ T.size
  all : ∀ c ∈ T.data.toList.take k, Fr.numC c = true
  sc : Fr.scan (T.data.toList.take k) = (z.toNat, d, p, b)
  z0 : 0 ≤ z
  small : d ≤ k ∧ p ≤ k ∧ b ≤ k * p
theorem ScanAt.start (T : ByteArray) : ScanAt T 0 0 0 0 0 := ⟨by omega, by simp, by simp [Fr.scan], by omega, by omega⟩
theorem take_next (T : ByteArray) {k : Nat} (hk : k < T.size) : T.data.toList.take (k + 1) = T.data.toList.take k ++ [T[k]] := by
  rw [List.take_add_one, Lib.data_getElem? T k hk]; rfl
theorem ScanAt.point {T : ByteArray} {k : Nat} {z : Int} {d p b : Nat} (h : ScanAt T k z d p b) (hk : k < T.size) (hc : (T[k].toNat : Int) = 46) : ScanAt T (k + 1) z d (p + 1) b := by
  have hb := (Fr.byte_eq (b := T[k]) (n := 46) (by omega)).1 hc
  refine ⟨by omega, ?_, ?_, h.z0, ?_⟩
  · rw [take_next T hk]
    intro c hm
    rcases List.mem_append.1 hm with hm | hm
    · exact h.all c hm
    · rw [List.mem_singleton.1 hm, hb]; decide
  · rw [take_next T hk]
    unfold Fr.scan
    rw [List.foldl_append, show List.foldl Fr.step (0, 0, 0, 0) (T.data.toList.take k) = _ from h.sc, hb]
    rfl
  · obtain ⟨h1, h2, h3⟩ := h.small
    have : (k + 1) * (p + 1) = k * p + k + p + 1 := by grind
    omega
theorem ScanAt.digit {T : ByteArray} {k : Nat} {z : Int} {d p b : Nat} (h : ScanAt T k z d p b) (hk : k < T.size) (h1 : 48 ≤ (T[k].toNat : Int)) (h2 : (T[k].toNat : Int) ≤ 57) : ScanAt T (k + 1) (z * 10 + ((T[k].toNat : Int) - 48)) (d + 1) p (b + p) := by
  have hd : Fr.digB T[k] = true := by rw [Fr.digB_iff]; unfold Tx.isDig; omega
  have hz := h.z0
  refine ⟨by omega, ?_, ?_, by omega, ?_⟩
  · rw [take_next T hk]
    intro c hm
    rcases List.mem_append.1 hm with hm | hm
    · exact h.all c hm
    · rw [List.mem_singleton.1 hm]; unfold Fr.numC; rw [hd]; simp
  · rw [take_next T hk]
    unfold Fr.scan
    rw [List.foldl_append, show List.foldl Fr.step (0, 0, 0, 0) (T.data.toList.take k) = _ from h.sc]
    show Fr.step _ _ = _
    rw [Fr.step_dig hd]
    congr 1
    show z.toNat * 10 + (T[k].toNat - 48) = _
    omega
  · obtain ⟨g1, g2, g3⟩ := h.small
    have : (k + 1) * p = k * p + p := by grind
    omega
theorem scale_q {neg bb : Bool} {z e0 : Int} {i j : Nat} (hz : 0 ≤ z) (hbb : (neg && decide (0 < z)) = bb) (hj : j = e0.toNat) (hi : i = (-e0).toNat) :
    Fr.scaleQ (Fr.sgn neg z.toNat) e0 = mkRat (Fr.sgn bb (z * 10 ^ j).toNat) ((10 : Int) ^ i).toNat := by
  obtain ⟨n, rfl⟩ := Int.eq_ofNat_of_zero_le hz
  have hp : ∀ m : Nat, ((10 : Int) ^ m) = ((10 ^ m : Nat) : Int) := fun m => by rw [Int.natCast_pow]; rfl
  have hs : ∀ m : Nat, Fr.sgn bb (n * m) = Fr.sgn neg (n * m) := by
    intro m
    subst hbb
    by_cases h0 : n = 0
    · subst h0; cases neg <;> simp [Fr.sgn]
    · have : decide ((0 : Int) < (n : Int)) = true := by simp; omega
      rw [this, Bool.and_true]
  rw [hp, hp, ← Int.natCast_mul, Int.toNat_natCast, Int.toNat_natCast, Int.toNat_natCast, hs]
  unfold Fr.scaleQ
  by_cases h : e0 < 0
  · rw [if_pos h, ← hi, show j = 0 by omega]; simp
  · rw [if_neg h, ← hj, show i = 0 by omega, Nat.pow_zero, Rat.mkRat_one, hp, Fr.sgn_mul]
/-- Where the scan stops, the run ends. -/
theorem ScanAt.stop {T : ByteArray} {k : Nat} {z : Int} {d p b : Nat} (h : ScanAt T k z d p b) (hs : ∀ hk : k < T.size, Fr.numC T[k] = false) : T.data.toList.takeWhile Fr.numC = T.data.toList.take k ∧ T.data.toList.dropWhile Fr.numC = T.data.toList.drop k := by
  have hsplit : T.data.toList = T.data.toList.take k ++ T.data.toList.drop k := (List.take_append_drop _ _).symm
  have hd : (T.data.toList.drop k).takeWhile Fr.numC = [] ∧ (T.data.toList.drop k).dropWhile Fr.numC = T.data.toList.drop k := by
    by_cases hk : k < T.size
    · have hl : k < T.data.toList.length := by rw [Tx.length_list]; exact hk
      rw [List.drop_eq_getElem_cons hl]
      have e : T.data.toList[k] = T[k] := by
        have h1 := Lib.data_getElem? T k hk
        rw [List.getElem?_eq_getElem hl] at h1
        exact Option.some.inj h1
      rw [e, List.takeWhile_cons, List.dropWhile_cons, hs hk]
      exact ⟨rfl, rfl⟩
    · rw [List.drop_eq_nil_of_le (by rw [Tx.length_list]; omega)]; exact ⟨rfl, rfl⟩
  constructor
  · conv => lhs; rw [hsplit]
    rw [List.takeWhile_append_of_pos h.all, hd.1, List.append_nil]
  · conv => lhs; rw [hsplit]
    rw [List.dropWhile_append_of_pos h.all, hd.2]
set_option maxHeartbeats 16000000 in
set_option maxRecDepth 100000 in
theorem Tryz.rLit (s : ByteArray) (w : World) (hs : s.size ≤ 40) (HG : Hid (∀ W, Calls Tryz.prog 42 #[.string s] W fun e w' => (∃ a n c, e = .returned (.tuple #[.agg #[.bool false, .slice none 0 0, .slice a n c], .bool false])) ∧ Below W.heap.size W w')) :
    Calls Tryz.prog 11 #[.string s] w fun e w' => RLit (Fr.refDec s.data.toList) w' e ∧ Below w.heap.size w w' := by
  obtain ⟨o, ho⟩ : ∃ o, Fr.refDec s.data.toList = o := ⟨_, rfl⟩
  rw [ho]
  have HO := Lib.hid ho
  have HB0 : Hid (Below w.heap.size w (w.alloc (.cells #[.bool false, .slice none 0 0, .slice none 0 0] 27))) := (Below.refl _ _).alloc (Nat.le_refl _) _
  have HR0 : Hid (CellsAt (w.alloc (.cells #[.bool false, .slice none 0 0, .slice none 0 0] 27)) w.heap.size #[.bool false, .slice none 0 0, .slice none 0 0] 27) := CellsAt.new _ _ _ rfl
  clear ho
  go_enter Tryz.func11, Tryz.ntmps11
  go_wp2_with fail
  generalize w.alloc (.cells #[.bool false, .slice none 0 0, .slice none 0 0] 27) = W0 at *
  with_reducible refine (HG.out _).mono ?_
  rintro e w1 ⟨⟨pa, na, ca, rfl⟩, hb1⟩
  have HB1 := Lib.hid (HB0.out.trans (hb1.mono HB0.out.size))
  have HR1 := Lib.hid (HR0.out.below hb1)
  obtain ⟨w2, hw2⟩ : ∃ W, w1.alloc (.cells #[.bool false, .slice none 0 0, .slice pa na ca] 27) = W := ⟨_, rfl⟩
  have hch : (((w1.alloc (.cells #[.bool false, .slice none 0 0, .slice none 0 0] 27)).setCell ⟨w1.heap.size, 0, none⟩ (.bool false)).setCell ⟨w1.heap.size, 1, none⟩ (.slice none 0 0)).setCell ⟨w1.heap.size, 2, none⟩ (.slice pa na ca) = w2 := by rw [set3, hw2]
  have HB2 : Hid (Below w.heap.size w w2) := by show Below _ _ _; rw [← hw2]; exact HB1.out.alloc HB1.out.size _
  have HR2 : Hid (CellsAt w2 w.heap.size #[.bool false, .slice none 0 0, .slice none 0 0] 27) := by show CellsAt _ _ _ _; rw [← hw2]; exact HR1.out.alloc _
  clear hb1 HB0 HR0 HB1 HR1 HG
  go_upto_region 7 with (fail)
  clear hch hw2
  go_cut [41] (fun c wx => ∃ sg : Bool, c = .bool sg ∧ (sg = true → ∃ h : 0 < s.size, (s[0].toNat : Int) = 45 ∨ (s[0].toNat : Int) = 43) ∧ (sg = false → Fr.litSign s.data.toList = (false, s.data.toList)) ∧ wx = w2)
  case first =>
    by_cases h0 : s.size = 0
    · have hE := empty_list h0
      have hl : s.data.toList = [] := List.length_eq_zero_iff.1 (by rw [Tx.length_list]; exact h0)
      have HL : Hid (Fr.litSign s.data.toList = (false, s.data.toList)) := by show _ = _; rw [hl]; rfl
      clear hl
      go_wp2
      go_meet
      exact ⟨false, rfl, fun h => absurd h (by decide), fun _ => HL.out, rfl⟩
    · have hP : 0 < s.size := by omega
      have hE := nonempty_list h0
      have hhd : s.data.toList.head? = some s[0] := by rw [Fr.get_head hP]; rfl
      have b43 := Fr.byte_eq (b := s[0]) (n := 43) (by omega)
      have b45 := Fr.byte_eq (b := s[0]) (n := 45) (by omega)
      have n45 : ¬(s[0].toNat : Int) = 45 → ¬s.data.toList.head? = some 45 := fun h e => h (b45.2 (by rw [hhd] at e; simpa using e))
      have n43 : ¬(s[0].toNat : Int) = 43 → ¬s.data.toList.head? = some 43 := fun h e => h (b43.2 (by rw [hhd] at e; simpa using e))
      by_cases h45 : (s[0].toNat : Int) = 45
      · have x43 : ((s[0].toNat : Int) == 43) = false := by rw [h45]; decide
        have x45 : ((s[0].toNat : Int) == 45) = true := by rw [h45]; decide
        clear hhd b43 b45 n45 n43
        have H45 := Lib.hid h45
        clear h45
        go_wp2
        go_meet
        exact ⟨true, rfl, fun _ => ⟨hP, .inl H45.out⟩, fun h => absurd h (by decide), rfl⟩
      · by_cases h43 : (s[0].toNat : Int) = 43
        · have x43 : ((s[0].toNat : Int) == 43) = true := by rw [h43]; decide
          clear hhd b43 b45 n45 n43
          have H43 := Lib.hid h43
          clear h43
          go_wp2
          go_meet
          exact ⟨true, rfl, fun _ => ⟨hP, .inr H43.out⟩, fun h => absurd h (by decide), rfl⟩
        · have HL : Hid (Fr.litSign s.data.toList = (false, s.data.toList)) := by
            show _ = _
            unfold Fr.litSign
            rw [if_neg (n45 h45), if_neg (n43 h43)]
          have x43 : ((s[0].toNat : Int) == 43) = false := by simpa using h43
          have x45 : ((s[0].toNat : Int) == 45) = false := by simpa using h45
          clear hhd b43 b45 n45 n43
          go_wp2
          go_meet
          exact ⟨false, rfl, fun h => absurd h (by decide), fun _ => HL.out, rfl⟩
  obtain ⟨sg, rfl, hsg1, hsg0, rfl⟩ := hcut
  have HSG1 := Lib.hid hsg1
  have HSG0 := Lib.hid hsg0
  clear hsg1 hsg0
  go_upto_if 41 with (fail)
  go_cut [6, 7] (fun tv nv wx => ∃ (T : ByteArray) (neg : Bool), tv = .string T ∧ nv = .bool neg ∧ Fr.litSign s.data.toList = (neg, T.data.toList) ∧ T.size ≤ 40 ∧ Below w.heap.size w wx ∧ CellsAt wx w.heap.size #[.bool false, .slice none 0 0, .slice none 0 0] 27)
  case first =>
    cases sg
    · have HL := Lib.hid (HSG0.out rfl)
      clear HSG0 HSG1
      go_wp2
      go_meet
      exact ⟨s, false, rfl, rfl, HL.out, hs, HB2.out, HR2.out⟩
    · obtain ⟨hP, h4⟩ := HSG1.out rfl
      clear HSG0 HSG1
      have hhd : s.data.toList.head? = some s[0] := by rw [Fr.get_head hP]; rfl
      have b43 := Fr.byte_eq (b := s[0]) (n := 43) (by omega)
      have b45 := Fr.byte_eq (b := s[0]) (n := 45) (by omega)
      have HTL : Hid ((s.extract 1 s.size).data.toList = s.data.toList.drop 1) := by show _ = _; rw [Tx.extract_list, List.take_of_length_le (by rw [Tx.length_list]; omega)]
      have hTs : (s.extract 1 s.size).size ≤ 40 := by rw [ByteArray.size_extract]; omega
      have c1 : (1 : Int) ≤ s.size := by omega
      rcases h4 with h45 | h43
      · have HL : Hid (Fr.litSign s.data.toList = (true, (s.extract 1 s.size).data.toList)) := by
          show _ = _
          unfold Fr.litSign
          rw [if_pos (by rw [hhd, b45.1 h45]; rfl), HTL.out]
        have x45 : ((s[0].toNat : Int) == 45) = true := by rw [h45]; decide
        clear hhd b43 b45 HTL h45
        go_wp2
        go_quiet (fail)
        go_wp2
        go_meet
        exact ⟨_, true, rfl, rfl, HL.out, hTs, ryBelow HB2.out nq, HR2.out.drewN nq⟩
      · have HL : Hid (Fr.litSign s.data.toList = (false, (s.extract 1 s.size).data.toList)) := by
          show _ = _
          unfold Fr.litSign
          have n45 : ¬s.data.toList.head? = some 45 := fun e => by
            rw [hhd] at e
            have := b45.2 (by simpa using e)
            omega
          rw [if_neg n45, if_pos (by rw [hhd, b43.1 h43]; rfl), HTL.out]
        have x45 : ((s[0].toNat : Int) == 45) = false := by rw [h43]; decide
        clear hhd b43 b45 HTL h43
        go_wp2
        go_quiet (fail)
        go_wp2
        go_meet
        exact ⟨_, false, rfl, rfl, HL.out, hTs, ryBelow HB2.out nq, HR2.out.drewN nq⟩
  case rest =>
    obtain ⟨T, neg, rfl, rfl, hT, hTs, hB, hR⟩ := hcut
    have HT := Lib.hid hT
    have HB := Lib.hid hB
    have HR := Lib.hid hR
    clear hT hB hR HB2 HR2
    go_upto_block 0 with (fail)
    go_cut [8, 9, 10, 11, 12] (fun nv dv pv bv iv wx => ∃ (k d p b : Nat) (z : Int) (pn : Option Addr) (nn cn : Nat), nv = .slice pn nn cn ∧ iv = .int .i64 k ∧ dv = .int .i64 d ∧ pv = .int .i64 p ∧ bv = .int .i64 b ∧ ScanAt T k z d p b ∧ (∀ hk : k < T.size, Fr.numC T[k] = false) ∧ NumIs wx nv z (4 * k + 1) ∧ Below w.heap.size w wx ∧ CellsAt wx w.heap.size #[.bool false, .slice none 0 0, .slice none 0 0] 27)
    case first =>
      go_wp2_with fail
      go_loopw [8, 9, 10, 11, 12] (fun nv dv pv bv iv wr => ∃ (k d p b : Nat) (z : Int) (pn : Option Addr) (nn cn : Nat), nv = .slice pn nn cn ∧ iv = .int .i64 k ∧ dv = .int .i64 d ∧ pv = .int .i64 p ∧ bv = .int .i64 b ∧ ScanAt T k z d p b ∧ NumIs wr nv z (4 * k + 1) ∧ Below w.heap.size w wr ∧ CellsAt wr w.heap.size #[.bool false, .slice none 0 0, .slice none 0 0] 27) (fun _ _ _ _ iv _ => T.size - (intOf iv).toNat)
      case atStart => exact ⟨0, 0, 0, 0, 0, none, 0, 0, rfl, rfl, rfl, rfl, rfl, ScanAt.start T, num_nought _ _, HB.out, HR.out⟩
      case round =>
        obtain ⟨k, d, p, b, z, pn, nn, cn, rfl, rfl, rfl, rfl, rfl, hsc, hn, hb, hr⟩ := hrel
        have hkl := hsc.le
        obtain ⟨hd9, hp9, hb9⟩ := hsc.small
        have hkk : k * p ≤ 1600 := Nat.mul_le_mul (show k ≤ 40 by omega) (show p ≤ 40 by omega)
        have HS := Lib.hid hsc
        have HN := Lib.hid hn
        have HB1 := Lib.hid hb
        have HR1 := Lib.hid hr
        clear hsc hn hb hr
        by_cases hk : k < T.size
        · by_cases h46 : (T[k].toNat : Int) = 46
          · have x46 : ((T[k].toNat : Int) == 46) = true := by simpa using h46
            have HS2 := Lib.hid (HS.out.point hk h46)
            go_wp2
            exact ⟨⟨k + 1, d, p + 1, b, z, pn, nn, cn, rfl, by simp, rfl, by simp, rfl, HS2.out, HN.out.mono (by omega), HB1.out, HR1.out⟩, by simp [intOf]; omega⟩
          · have x46 : ((T[k].toNat : Int) == 46) = false := by simpa using h46
            by_cases hdg : 48 ≤ (T[k].toNat : Int) ∧ (T[k].toNat : Int) ≤ 57
            · obtain ⟨h48, h57⟩ := hdg
              have HS2 := Lib.hid (HS.out.digit hk h48 h57)
              obtain ⟨dd, hdd⟩ : ∃ dd : Int, (T[k].toNat : Int) - 48 = dd := ⟨_, rfl⟩
              rw [hdd] at HS2
              have hd0 : 0 ≤ dd := by omega
              have hd9 : dd ≤ 9 := by omega
              have hw1 : IntKind.u8.wrap ((T[k].toNat : Int) - 48) = dd := by rw [hdd]; simp [IntKind.wrap, IntKind.signed, IntKind.bits]; omega
              have hw2 : IntKind.i64.wrap dd = dd := by simp [IntKind.wrap, IntKind.signed, IntKind.bits]; omega
              have hw3 : IntKind.u8.wrap dd = dd := by simp [IntKind.wrap, IntKind.signed, IntKind.bits]; omega
              have c1 : (0 : Int) ≤ k := by omega
              have c2 : (k : Int) < T.size := by omega
              go_wp2_with fail
              refine wp_region_held_drew (S := fun W => NumIs W (.slice pn nn cn) z (4 * k + 1) ∧ Below w.heap.size w W ∧ CellsAt W w.heap.size #[.bool false, .slice none 0 0, .slice none 0 0] 27) (by kernel_rfl) ⟨HN.out.below (Below.refl wr.heap.size wr).drew (Nat.le_refl _), HB1.out.drew, HR1.out.below (Below.refl wr.heap.size wr).drew⟩ (fun hHeld => ?_)
              have HB := Lib.hid hHeld.2.1
              have HR := Lib.hid hHeld.2.2
              have HN2 := Lib.hid hHeld.1
              clear HN HB1 HR1
              have HN := HN2
              clear HN2
              generalize wr.drew = w3 at *
              (refine takeYes (i := 0) ?_ (by (simp only [List.getElem?_toArray, List.getElem?_cons_zero]) <;> rfl) (by kernel_rfl) (by kernel_rfl) (by kernel_rfl) (by exact fun _ _ _ h => h) (by rfl) (by assumption) ?_ ?_)
              rotate_left
              · (intro w hSw; (try dsimp only at hSw); go_simp <;> with_reducible rfl)
              (try simp only [Act.put, List.setIfInBounds_toArray, List.set_cons_zero, List.set_cons_succ])
              (refine takeYes (i := 3) ?_ (by (simp only [List.getElem?_toArray, List.getElem?_cons_succ, List.getElem?_cons_zero]) <;> rfl) (by kernel_rfl) (by kernel_rfl) (by kernel_rfl) (by exact fun _ _ _ h => h) (by rfl) (by assumption) ?_ ?_)
              rotate_left
              · (intro w hSw; (try dsimp only at hSw); go_simp <;> with_reducible rfl)
              (try simp only [Act.put, List.setIfInBounds_toArray, List.set_cons_zero, List.set_cons_succ])
              (refine takeYes (i := 4) ?_ (by (simp only [List.getElem?_toArray, List.getElem?_cons_succ, List.getElem?_cons_zero]) <;> rfl) (by kernel_rfl) (by kernel_rfl) (by kernel_rfl) (by exact fun _ _ _ h => h) (by rfl) (by assumption) ?_ ?_)
              rotate_left
              · (intro w hSw; (try dsimp only at hSw); go_simp <;> with_reducible rfl)
              (try simp only [Act.put, List.setIfInBounds_toArray, List.set_cons_zero, List.set_cons_succ])
              (refine takeYes (i := 5) ?_ (by (simp only [List.getElem?_toArray, List.getElem?_cons_succ, List.getElem?_cons_zero]) <;> rfl) (by kernel_rfl) (by kernel_rfl) (by kernel_rfl) (by exact fun _ _ _ h => h) (by rfl) (by assumption) ?_ ?_)
              rotate_left
              · (intro w hSw; (try dsimp only at hSw); go_simp <;> with_reducible rfl)
              (try simp only [Act.put, List.setIfInBounds_toArray, List.set_cons_zero, List.set_cons_succ])
              (refine takeYes (i := 6) ?_ (by (simp only [List.getElem?_toArray, List.getElem?_cons_succ, List.getElem?_cons_zero]) <;> rfl) (by kernel_rfl) (by kernel_rfl) (by kernel_rfl) (by exact fun _ _ _ h => h) (by rfl) (by assumption) ?_ ?_)
              rotate_left
              · (intro w hSw; (try dsimp only at hSw); go_simp <;> with_reducible rfl)
              (try simp only [Act.put, List.setIfInBounds_toArray, List.set_cons_zero, List.set_cons_succ])
              (refine takeYes (i := 7) ?_ (by (simp only [List.getElem?_toArray, List.getElem?_cons_succ, List.getElem?_cons_zero]) <;> rfl) (by kernel_rfl) (by kernel_rfl) (by kernel_rfl) (by exact fun _ _ _ h => h) (by rfl) (by assumption) ?_ ?_)
              rotate_left
              · (intro w hSw; (try dsimp only at hSw); go_simp <;> with_reducible rfl)
              (try simp only [Act.put, List.setIfInBounds_toArray, List.set_cons_zero, List.set_cons_succ])
              refine wpAnyH_ready (rs := [1, 8]) (by kernel_rfl) (by simp) ?_
              refine AllReadyH.cons (by (simp only [List.getElem?_toArray, List.getElem?_cons_succ, List.getElem?_cons_zero]) <;> rfl) (fun K hK => ?_) (AllReadyH.cons (by (simp only [List.getElem?_toArray, List.getElem?_cons_succ, List.getElem?_cons_zero]) <;> rfl) (fun K hK => ?_) AllReadyH.nil)
              · skip
                go_simp
                have HX := Lib.hid (NumIs.one w3 10 (by omega) (by omega))
                have HN1 := Lib.hid (HN.out.alloc (.cells #[.int .i64 10] 3))
                have HB1 := Lib.hid (HB.out.alloc HB.out.size (.cells #[.int .i64 10] 3))
                have HR1 := Lib.hid (HR.out.alloc (.cells #[.int .i64 10] 3))
                clear hHeld HN HB HR
                have HN := HN1
                clear HN1
                have HB := HB1
                clear HB1
                have HR := HR1
                clear HR1
                obtain ⟨ten, hten⟩ : ∃ v : Value, .slice (some ⟨w3.heap.size, 0, none⟩) 1 1 = v := ⟨_, rfl⟩
                rw [hten] at HX ⊢
                have HT := HX
                clear HX hten
                generalize w3.alloc (.cells #[.int .i64 10] 3) = w4 at *
                refine hK.out _ _ ⟨HN.out, HB.out, HR.out⟩ (fun hHeld => ?_)
                clear hK K
                (try simp only [Act.put, List.setIfInBounds_toArray, List.set_cons_zero, List.set_cons_succ])
                refine wpAnyH_ready (rs := [2, 8]) (by kernel_rfl) (by simp) ?_
                refine AllReadyH.cons (by (simp only [List.getElem?_toArray, List.getElem?_cons_succ, List.getElem?_cons_zero]) <;> rfl) (fun K hK => ?_) (AllReadyH.cons (by (simp only [List.getElem?_toArray, List.getElem?_cons_succ, List.getElem?_cons_zero]) <;> rfl) (fun K hK => ?_) AllReadyH.nil)
                · skip
                  go_simp
                  go_at_call 44
                  with_reducible refine (Tryz.nMul HN.out HT.out (by omega)).mono ?_
                  rintro e w5 ⟨⟨pv, rfl, hpv⟩, hb⟩
                  have HX := Lib.hid hpv
                  clear hpv
                  have HN1 := Lib.hid (HN.out.below hb (Nat.le_refl _))
                  have HB1 := Lib.hid (HB.out.trans (hb.mono HB.out.size))
                  have HR1 := Lib.hid (HR.out.below hb)
                  clear hHeld HN HB HR
                  have HN := HN1
                  clear HN1
                  have HB := HB1
                  clear HB1
                  have HR := HR1
                  clear HR1
                  clear hb
                  have HP := HX
                  clear HX
                  refine hK.out _ _ ⟨HN.out, HB.out, HR.out⟩ (fun hHeld => ?_)
                  clear hK K
                  (try simp only [Act.put, List.setIfInBounds_toArray, List.set_cons_zero, List.set_cons_succ])
                  refine wpAnyH_ready (rs := [8]) (by kernel_rfl) (by simp) ?_
                  refine AllReadyH.cons (by (simp only [List.getElem?_toArray, List.getElem?_cons_succ, List.getElem?_cons_zero]) <;> rfl) (fun K hK => ?_) AllReadyH.nil
                  go_simp
                  have HX := Lib.hid (Digs.one w5 dd)
                  have HN1 := Lib.hid (HN.out.alloc (.cells #[.int .i64 dd] 3))
                  have HB1 := Lib.hid (HB.out.alloc HB.out.size (.cells #[.int .i64 dd] 3))
                  have HR1 := Lib.hid (HR.out.alloc (.cells #[.int .i64 dd] 3))
                  have HP1 := Lib.hid (HP.out.alloc (.cells #[.int .i64 dd] 3))
                  clear hHeld HN HB HR HP
                  have HN := HN1
                  clear HN1
                  have HB := HB1
                  clear HB1
                  have HR := HR1
                  clear HR1
                  have HP := HP1
                  clear HP1
                  obtain ⟨dg, hdg⟩ : ∃ v : Value, .slice (some ⟨w5.heap.size, 0, none⟩) 1 1 = v := ⟨_, rfl⟩
                  rw [hdg] at HX ⊢
                  have HD := HX
                  clear HX hdg
                  generalize w5.alloc (.cells #[.int .i64 dd] 3) = w6 at *
                  refine hK.out _ _ ⟨HN.out, HB.out, HR.out⟩ (fun hHeld => ?_)
                  clear hK K
                  (try simp only [Act.put, List.setIfInBounds_toArray, List.set_cons_zero, List.set_cons_succ])
                  refine wpAnyH_ready (rs := [9]) (by kernel_rfl) (by simp) ?_
                  refine AllReadyH.cons (by (simp only [List.getElem?_toArray, List.getElem?_cons_succ, List.getElem?_cons_zero]) <;> rfl) (fun K hK => ?_) AllReadyH.nil
                  go_simp
                  go_at_call 45
                  with_reducible refine (Tryz.nDig HD.out hd0 hd9).mono ?_
                  rintro e w7 ⟨⟨ev, rfl, hev⟩, hw⟩
                  subst w7
                  have HE := Lib.hid hev
                  clear hev hHeld HD
                  refine hK.out _ _ ⟨HN.out, HB.out, HR.out⟩ (fun hHeld => ?_)
                  clear hK K
                  (try simp only [Act.put, List.setIfInBounds_toArray, List.set_cons_zero, List.set_cons_succ])
                  refine wpAnyH_ready (rs := [10]) (by kernel_rfl) (by simp) ?_
                  refine AllReadyH.cons (by (simp only [List.getElem?_toArray, List.getElem?_cons_succ, List.getElem?_cons_zero]) <;> rfl) (fun K hK => ?_) AllReadyH.nil
                  go_simp
                  go_at_call 43
                  with_reducible refine (Tryz.nAdd HP.out HE.out (by omega)).mono ?_
                  rintro e w8 ⟨⟨sv, rfl, hsv⟩, hb⟩
                  have HV := Lib.hid hsv
                  clear hsv
                  have HN1 := Lib.hid (HN.out.below hb (Nat.le_refl _))
                  have HB1 := Lib.hid (HB.out.trans (hb.mono HB.out.size))
                  have HR1 := Lib.hid (HR.out.below hb)
                  clear hHeld HN HB HR
                  have HN := HN1
                  clear HN1
                  have HB := HB1
                  clear HB1
                  have HR := HR1
                  clear HR1
                  clear hb HP HE
                  refine hK.out _ _ ⟨HN.out, HB.out, HR.out⟩ (fun hHeld => ?_)
                  clear hK K
                  (try simp only [Act.put, List.setIfInBounds_toArray, List.set_cons_zero, List.set_cons_succ])
                  (refine takeYes (i := 11) ?_ (by (simp only [List.getElem?_toArray, List.getElem?_cons_succ, List.getElem?_cons_zero]) <;> rfl) (by kernel_rfl) (by kernel_rfl) (by kernel_rfl) (by exact fun _ _ _ h => h) (by rfl) (by assumption) ?_ ?_)
                  rotate_left
                  · (intro w hSw; (try dsimp only at hSw); go_simp <;> with_reducible rfl)
                  (try simp only [Act.put, List.setIfInBounds_toArray, List.set_cons_zero, List.set_cons_succ])
                  refine wpAnyH_done (by kernel_rfl) ?_ _
                  clear hHeld
                  obtain ⟨p9, n9, c9, rfl⟩ := HV.out.slice
                  go_wp2
                  exact ⟨⟨k + 1, d + 1, p, b + p, z * 10 + dd, p9, n9, c9, rfl, by simp, by simp, rfl, by simp, HS2.out, HV.out.mono (by omega), HB.out, HR.out⟩, by simp [intOf]; omega⟩
                · skip
                  go_simp
                  have HX := Lib.hid (Digs.one w4 dd)
                  have HN1 := Lib.hid (HN.out.alloc (.cells #[.int .i64 dd] 3))
                  have HB1 := Lib.hid (HB.out.alloc HB.out.size (.cells #[.int .i64 dd] 3))
                  have HR1 := Lib.hid (HR.out.alloc (.cells #[.int .i64 dd] 3))
                  have HT1 := Lib.hid (HT.out.alloc (.cells #[.int .i64 dd] 3))
                  clear hHeld HN HB HR HT
                  have HN := HN1
                  clear HN1
                  have HB := HB1
                  clear HB1
                  have HR := HR1
                  clear HR1
                  have HT := HT1
                  clear HT1
                  obtain ⟨dg, hdg⟩ : ∃ v : Value, .slice (some ⟨w4.heap.size, 0, none⟩) 1 1 = v := ⟨_, rfl⟩
                  rw [hdg] at HX ⊢
                  have HD := HX
                  clear HX hdg
                  generalize w4.alloc (.cells #[.int .i64 dd] 3) = w5 at *
                  refine hK.out _ _ ⟨HN.out, HB.out, HR.out⟩ (fun hHeld => ?_)
                  clear hK K
                  (try simp only [Act.put, List.setIfInBounds_toArray, List.set_cons_zero, List.set_cons_succ])
                  refine wpAnyH_ready (rs := [2]) (by kernel_rfl) (by simp) ?_
                  refine AllReadyH.cons (by (simp only [List.getElem?_toArray, List.getElem?_cons_succ, List.getElem?_cons_zero]) <;> rfl) (fun K hK => ?_) AllReadyH.nil
                  go_simp
                  go_at_call 44
                  with_reducible refine (Tryz.nMul HN.out HT.out (by omega)).mono ?_
                  rintro e w6 ⟨⟨pv, rfl, hpv⟩, hb⟩
                  have HX := Lib.hid hpv
                  clear hpv
                  have HN1 := Lib.hid (HN.out.below hb (Nat.le_refl _))
                  have HB1 := Lib.hid (HB.out.trans (hb.mono HB.out.size))
                  have HR1 := Lib.hid (HR.out.below hb)
                  have HD1 := Lib.hid (HD.out.below hb (Nat.le_refl _))
                  clear hHeld HN HB HR HD
                  have HN := HN1
                  clear HN1
                  have HB := HB1
                  clear HB1
                  have HR := HR1
                  clear HR1
                  have HD := HD1
                  clear HD1
                  clear hb
                  have HP := HX
                  clear HX
                  refine hK.out _ _ ⟨HN.out, HB.out, HR.out⟩ (fun hHeld => ?_)
                  clear hK K
                  (try simp only [Act.put, List.setIfInBounds_toArray, List.set_cons_zero, List.set_cons_succ])
                  refine wpAnyH_ready (rs := [9]) (by kernel_rfl) (by simp) ?_
                  refine AllReadyH.cons (by (simp only [List.getElem?_toArray, List.getElem?_cons_succ, List.getElem?_cons_zero]) <;> rfl) (fun K hK => ?_) AllReadyH.nil
                  go_simp
                  go_at_call 45
                  with_reducible refine (Tryz.nDig HD.out hd0 hd9).mono ?_
                  rintro e w7 ⟨⟨ev, rfl, hev⟩, hw⟩
                  subst w7
                  have HE := Lib.hid hev
                  clear hev hHeld HD
                  refine hK.out _ _ ⟨HN.out, HB.out, HR.out⟩ (fun hHeld => ?_)
                  clear hK K
                  (try simp only [Act.put, List.setIfInBounds_toArray, List.set_cons_zero, List.set_cons_succ])
                  refine wpAnyH_ready (rs := [10]) (by kernel_rfl) (by simp) ?_
                  refine AllReadyH.cons (by (simp only [List.getElem?_toArray, List.getElem?_cons_succ, List.getElem?_cons_zero]) <;> rfl) (fun K hK => ?_) AllReadyH.nil
                  go_simp
                  go_at_call 43
                  with_reducible refine (Tryz.nAdd HP.out HE.out (by omega)).mono ?_
                  rintro e w8 ⟨⟨sv, rfl, hsv⟩, hb⟩
                  have HV := Lib.hid hsv
                  clear hsv
                  have HN1 := Lib.hid (HN.out.below hb (Nat.le_refl _))
                  have HB1 := Lib.hid (HB.out.trans (hb.mono HB.out.size))
                  have HR1 := Lib.hid (HR.out.below hb)
                  clear hHeld HN HB HR
                  have HN := HN1
                  clear HN1
                  have HB := HB1
                  clear HB1
                  have HR := HR1
                  clear HR1
                  clear hb HP HE
                  refine hK.out _ _ ⟨HN.out, HB.out, HR.out⟩ (fun hHeld => ?_)
                  clear hK K
                  (try simp only [Act.put, List.setIfInBounds_toArray, List.set_cons_zero, List.set_cons_succ])
                  (refine takeYes (i := 11) ?_ (by (simp only [List.getElem?_toArray, List.getElem?_cons_succ, List.getElem?_cons_zero]) <;> rfl) (by kernel_rfl) (by kernel_rfl) (by kernel_rfl) (by exact fun _ _ _ h => h) (by rfl) (by assumption) ?_ ?_)
                  rotate_left
                  · (intro w hSw; (try dsimp only at hSw); go_simp <;> with_reducible rfl)
                  (try simp only [Act.put, List.setIfInBounds_toArray, List.set_cons_zero, List.set_cons_succ])
                  refine wpAnyH_done (by kernel_rfl) ?_ _
                  clear hHeld
                  obtain ⟨p9, n9, c9, rfl⟩ := HV.out.slice
                  go_wp2
                  exact ⟨⟨k + 1, d + 1, p, b + p, z * 10 + dd, p9, n9, c9, rfl, by simp, by simp, rfl, by simp, HS2.out, HV.out.mono (by omega), HB.out, HR.out⟩, by simp [intOf]; omega⟩
              · skip
                go_simp
                have HX := Lib.hid (Digs.one w3 dd)
                have HN1 := Lib.hid (HN.out.alloc (.cells #[.int .i64 dd] 3))
                have HB1 := Lib.hid (HB.out.alloc HB.out.size (.cells #[.int .i64 dd] 3))
                have HR1 := Lib.hid (HR.out.alloc (.cells #[.int .i64 dd] 3))
                clear hHeld HN HB HR
                have HN := HN1
                clear HN1
                have HB := HB1
                clear HB1
                have HR := HR1
                clear HR1
                obtain ⟨dg, hdg⟩ : ∃ v : Value, .slice (some ⟨w3.heap.size, 0, none⟩) 1 1 = v := ⟨_, rfl⟩
                rw [hdg] at HX ⊢
                have HD := HX
                clear HX hdg
                generalize w3.alloc (.cells #[.int .i64 dd] 3) = w4 at *
                refine hK.out _ _ ⟨HN.out, HB.out, HR.out⟩ (fun hHeld => ?_)
                clear hK K
                (try simp only [Act.put, List.setIfInBounds_toArray, List.set_cons_zero, List.set_cons_succ])
                refine wpAnyH_ready (rs := [1]) (by kernel_rfl) (by simp) ?_
                refine AllReadyH.cons (by (simp only [List.getElem?_toArray, List.getElem?_cons_succ, List.getElem?_cons_zero]) <;> rfl) (fun K hK => ?_) AllReadyH.nil
                go_simp
                have HX := Lib.hid (NumIs.one w4 10 (by omega) (by omega))
                have HN1 := Lib.hid (HN.out.alloc (.cells #[.int .i64 10] 3))
                have HB1 := Lib.hid (HB.out.alloc HB.out.size (.cells #[.int .i64 10] 3))
                have HR1 := Lib.hid (HR.out.alloc (.cells #[.int .i64 10] 3))
                have HD1 := Lib.hid (HD.out.alloc (.cells #[.int .i64 10] 3))
                clear hHeld HN HB HR HD
                have HN := HN1
                clear HN1
                have HB := HB1
                clear HB1
                have HR := HR1
                clear HR1
                have HD := HD1
                clear HD1
                obtain ⟨ten, hten⟩ : ∃ v : Value, .slice (some ⟨w4.heap.size, 0, none⟩) 1 1 = v := ⟨_, rfl⟩
                rw [hten] at HX ⊢
                have HT := HX
                clear HX hten
                generalize w4.alloc (.cells #[.int .i64 10] 3) = w5 at *
                refine hK.out _ _ ⟨HN.out, HB.out, HR.out⟩ (fun hHeld => ?_)
                clear hK K
                (try simp only [Act.put, List.setIfInBounds_toArray, List.set_cons_zero, List.set_cons_succ])
                refine wpAnyH_ready (rs := [2]) (by kernel_rfl) (by simp) ?_
                refine AllReadyH.cons (by (simp only [List.getElem?_toArray, List.getElem?_cons_succ, List.getElem?_cons_zero]) <;> rfl) (fun K hK => ?_) AllReadyH.nil
                go_simp
                go_at_call 44
                with_reducible refine (Tryz.nMul HN.out HT.out (by omega)).mono ?_
                rintro e w6 ⟨⟨pv, rfl, hpv⟩, hb⟩
                have HX := Lib.hid hpv
                clear hpv
                have HN1 := Lib.hid (HN.out.below hb (Nat.le_refl _))
                have HB1 := Lib.hid (HB.out.trans (hb.mono HB.out.size))
                have HR1 := Lib.hid (HR.out.below hb)
                have HD1 := Lib.hid (HD.out.below hb (Nat.le_refl _))
                clear hHeld HN HB HR HD
                have HN := HN1
                clear HN1
                have HB := HB1
                clear HB1
                have HR := HR1
                clear HR1
                have HD := HD1
                clear HD1
                clear hb
                have HP := HX
                clear HX
                refine hK.out _ _ ⟨HN.out, HB.out, HR.out⟩ (fun hHeld => ?_)
                clear hK K
                (try simp only [Act.put, List.setIfInBounds_toArray, List.set_cons_zero, List.set_cons_succ])
                refine wpAnyH_ready (rs := [9]) (by kernel_rfl) (by simp) ?_
                refine AllReadyH.cons (by (simp only [List.getElem?_toArray, List.getElem?_cons_succ, List.getElem?_cons_zero]) <;> rfl) (fun K hK => ?_) AllReadyH.nil
                go_simp
                go_at_call 45
                with_reducible refine (Tryz.nDig HD.out hd0 hd9).mono ?_
                rintro e w7 ⟨⟨ev, rfl, hev⟩, hw⟩
                subst w7
                have HE := Lib.hid hev
                clear hev hHeld HD
                refine hK.out _ _ ⟨HN.out, HB.out, HR.out⟩ (fun hHeld => ?_)
                clear hK K
                (try simp only [Act.put, List.setIfInBounds_toArray, List.set_cons_zero, List.set_cons_succ])
                refine wpAnyH_ready (rs := [10]) (by kernel_rfl) (by simp) ?_
                refine AllReadyH.cons (by (simp only [List.getElem?_toArray, List.getElem?_cons_succ, List.getElem?_cons_zero]) <;> rfl) (fun K hK => ?_) AllReadyH.nil
                go_simp
                go_at_call 43
                with_reducible refine (Tryz.nAdd HP.out HE.out (by omega)).mono ?_
                rintro e w8 ⟨⟨sv, rfl, hsv⟩, hb⟩
                have HV := Lib.hid hsv
                clear hsv
                have HN1 := Lib.hid (HN.out.below hb (Nat.le_refl _))
                have HB1 := Lib.hid (HB.out.trans (hb.mono HB.out.size))
                have HR1 := Lib.hid (HR.out.below hb)
                clear hHeld HN HB HR
                have HN := HN1
                clear HN1
                have HB := HB1
                clear HB1
                have HR := HR1
                clear HR1
                clear hb HP HE
                refine hK.out _ _ ⟨HN.out, HB.out, HR.out⟩ (fun hHeld => ?_)
                clear hK K
                (try simp only [Act.put, List.setIfInBounds_toArray, List.set_cons_zero, List.set_cons_succ])
                (refine takeYes (i := 11) ?_ (by (simp only [List.getElem?_toArray, List.getElem?_cons_succ, List.getElem?_cons_zero]) <;> rfl) (by kernel_rfl) (by kernel_rfl) (by kernel_rfl) (by exact fun _ _ _ h => h) (by rfl) (by assumption) ?_ ?_)
                rotate_left
                · (intro w hSw; (try dsimp only at hSw); go_simp <;> with_reducible rfl)
                (try simp only [Act.put, List.setIfInBounds_toArray, List.set_cons_zero, List.set_cons_succ])
                refine wpAnyH_done (by kernel_rfl) ?_ _
                clear hHeld
                obtain ⟨p9, n9, c9, rfl⟩ := HV.out.slice
                go_wp2
                exact ⟨⟨k + 1, d + 1, p, b + p, z * 10 + dd, p9, n9, c9, rfl, by simp, by simp, rfl, by simp, HS2.out, HV.out.mono (by omega), HB.out, HR.out⟩, by simp [intOf]; omega⟩
            · have HST : Hid (∀ hk : k < T.size, Fr.numC T[k] = false) := by
                intro hk
                unfold Fr.numC
                rw [Bool.or_eq_false_iff]
                refine ⟨?_, ?_⟩
                · rw [beq_eq_false_iff_ne]
                  rintro e
                  exact h46 ((Fr.byte_eq (b := T[k]) (n := 46) (by omega)).2 e)
                · cases hd : Fr.digB T[k] with
                  | false => rfl
                  | true =>
                    rw [Fr.digB_iff] at hd
                    unfold Tx.isDig at hd
                    omega
              by_cases h48 : 48 ≤ (T[k].toNat : Int)
              · have h57 : ¬(T[k].toNat : Int) ≤ 57 := fun h => hdg ⟨h48, h⟩
                clear hdg
                go_wp2
                go_meet
                exact ⟨k, d, p, b, z, pn, nn, cn, rfl, rfl, rfl, rfl, rfl, HS.out, HST.out, HN.out, HB1.out, HR1.out⟩
              · clear hdg
                go_wp2
                go_meet
                exact ⟨k, d, p, b, z, pn, nn, cn, rfl, rfl, rfl, rfl, rfl, HS.out, HST.out, HN.out, HB1.out, HR1.out⟩
        · go_wp2
          go_meet
          exact ⟨k, d, p, b, z, pn, nn, cn, rfl, rfl, rfl, rfl, rfl, HS.out, fun h => absurd h hk, HN.out, HB1.out, HR1.out⟩
    case rest =>
      obtain ⟨k, d, p, b, z, pn, nn, cn, rfl, rfl, rfl, rfl, rfl, hsc, hst, hn, hb, hr⟩ := hcut
      have hkl := hsc.le
      obtain ⟨hd9, hp9, hb9⟩ := hsc.small
      have hz0 := hsc.z0
      have hstop := hsc.stop hst
      obtain ⟨E, hE⟩ : ∃ E, T.extract k T.size = E := ⟨_, rfl⟩
      have hEl : E.data.toList = T.data.toList.drop k := by rw [← hE, Tx.extract_list, List.take_of_length_le (by rw [Tx.length_list]; omega)]
      have hEs : E.size ≤ 1000 := by rw [← hE, ByteArray.size_extract]; omega
      have HRD : Hid (o = if d = 0 ∨ 1 < p then none else (Fr.expOf E.data.toList).map fun e => Fr.scaleQ (Fr.sgn neg z.toNat) (e - b)) := by
        show _ = _
        rw [← HO.out]
        unfold Fr.refDec
        rw [HT.out]
        show (if (Fr.scan (T.data.toList.takeWhile Fr.numC)).2.1 = 0 ∨ 1 < (Fr.scan (T.data.toList.takeWhile Fr.numC)).2.2.1 then none else (Fr.expOf (T.data.toList.dropWhile Fr.numC)).map fun e => Fr.scaleQ (Fr.sgn neg (Fr.scan (T.data.toList.takeWhile Fr.numC)).1) (e - (Fr.scan (T.data.toList.takeWhile Fr.numC)).2.2.2)) = _
        rw [hstop.1, hstop.2, hsc.sc, hEl]
      have HEX : Hid (∀ W, Calls Tryz.prog 46 #[.string E] W fun e w' => Fr.ExpIs (Fr.expOf E.data.toList) e ∧ Below W.heap.size W w') := fun W => Fr.Tryz.refExp E W hEs
      obtain ⟨ex, hex⟩ : ∃ x, Fr.expOf E.data.toList = x := ⟨_, rfl⟩
      rw [hex] at HRD HEX
      have HN1 := Lib.hid hn
      have HB1 := Lib.hid hb
      have HR1 := Lib.hid hr
      have c1 : (0 : Int) ≤ k := by omega
      have c2 : (k : Int) ≤ T.size := by omega
      clear hsc hst hn hb hr hstop hEl hEs HO HT HB HR hex
      by_cases hd0 : d = 0
      · have HNO : Hid (o = none) := by show _ = _; rw [HRD.out, if_pos (.inl hd0)]
        subst hd0
        clear HRD HEX HN1
        go_wp2_with fail
        with_reducible refine (Tryz.rZero _).mono ?_
        rintro e wn ⟨⟨gn, rfl⟩, hbn⟩
        have HRN := Lib.hid (HR1.out.below hbn)
        have HBN := Lib.hid (HB1.out.trans (hbn.mono HB1.out.size))
        clear hbn HR1 HB1
        have r0 : (wn).cell? ⟨w.heap.size, 0, none⟩ = some (.bool false) := HRN.out.cell 0
        have r1 : (wn).cell? ⟨w.heap.size, 1, none⟩ = some (.slice none 0 0) := HRN.out.cell 1
        have r2 : (wn).cell? ⟨w.heap.size, 2, none⟩ = some (.slice none 0 0) := HRN.out.cell 2
        have rf0 := HRN.out.free 0
        have rf1 := HRN.out.free 1
        have rf2 := HRN.out.free 2
        go_wp2
        have HRZ := Lib.hid (HRN.out.put3 (x := .bool false) (y := .slice none 0 0) (z := .slice (some ⟨gn, 0, none⟩) 1 1))
        have HBZ := Lib.hid (((HBN.out.setCell (p := ⟨w.heap.size, 0, none⟩) (Nat.le_refl _) (.bool false)).setCell (p := ⟨w.heap.size, 1, none⟩) (Nat.le_refl _) (.slice none 0 0)).setCell (p := ⟨w.heap.size, 2, none⟩) (Nat.le_refl _) (.slice (some ⟨gn, 0, none⟩) 1 1))
        generalize (((wn.setCell ⟨w.heap.size, 0, none⟩ (.bool false)).setCell ⟨w.heap.size, 1, none⟩ (.slice none 0 0)).setCell ⟨w.heap.size, 2, none⟩ (.slice (some ⟨gn, 0, none⟩) 1 1)) = wz at *
        have z0 : wz.cell? ⟨w.heap.size, 0, none⟩ = some (.bool false) := HRZ.out.cell 0
        have z1 : wz.cell? ⟨w.heap.size, 1, none⟩ = some (.slice none 0 0) := HRZ.out.cell 1
        have z2 : wz.cell? ⟨w.heap.size, 2, none⟩ = some (.slice (some ⟨gn, 0, none⟩) 1 1) := HRZ.out.cell 2
        (try simp only [Exit.inBlock, Exit.then])
        refine bodyPost_ret (v := .tuple #[.agg #[.bool false, .slice none 0 0, .slice (some ⟨gn, 0, none⟩) 1 1], .bool false]) (by simp [results, Tryz.results11, go_sem, z0, z1, z2]; try rfl) rfl ⟨.inr ⟨HNO.out, _, _, _, rfl⟩, HBZ.out⟩
      · have hd1 : ((d : Int) == 0) = false := by simp; omega
        by_cases hp1 : 1 < p
        · have HNO : Hid (o = none) := by show _ = _; rw [HRD.out, if_pos (.inr hp1)]
          clear HRD HEX HN1
          go_wp2_with fail
          with_reducible refine (Tryz.rZero _).mono ?_
          rintro e wn ⟨⟨gn, rfl⟩, hbn⟩
          have HRN := Lib.hid (HR1.out.below hbn)
          have HBN := Lib.hid (HB1.out.trans (hbn.mono HB1.out.size))
          clear hbn HR1 HB1
          have r0 : (wn).cell? ⟨w.heap.size, 0, none⟩ = some (.bool false) := HRN.out.cell 0
          have r1 : (wn).cell? ⟨w.heap.size, 1, none⟩ = some (.slice none 0 0) := HRN.out.cell 1
          have r2 : (wn).cell? ⟨w.heap.size, 2, none⟩ = some (.slice none 0 0) := HRN.out.cell 2
          have rf0 := HRN.out.free 0
          have rf1 := HRN.out.free 1
          have rf2 := HRN.out.free 2
          go_wp2
          have HRZ := Lib.hid (HRN.out.put3 (x := .bool false) (y := .slice none 0 0) (z := .slice (some ⟨gn, 0, none⟩) 1 1))
          have HBZ := Lib.hid (((HBN.out.setCell (p := ⟨w.heap.size, 0, none⟩) (Nat.le_refl _) (.bool false)).setCell (p := ⟨w.heap.size, 1, none⟩) (Nat.le_refl _) (.slice none 0 0)).setCell (p := ⟨w.heap.size, 2, none⟩) (Nat.le_refl _) (.slice (some ⟨gn, 0, none⟩) 1 1))
          generalize (((wn.setCell ⟨w.heap.size, 0, none⟩ (.bool false)).setCell ⟨w.heap.size, 1, none⟩ (.slice none 0 0)).setCell ⟨w.heap.size, 2, none⟩ (.slice (some ⟨gn, 0, none⟩) 1 1)) = wz at *
          have z0 : wz.cell? ⟨w.heap.size, 0, none⟩ = some (.bool false) := HRZ.out.cell 0
          have z1 : wz.cell? ⟨w.heap.size, 1, none⟩ = some (.slice none 0 0) := HRZ.out.cell 1
          have z2 : wz.cell? ⟨w.heap.size, 2, none⟩ = some (.slice (some ⟨gn, 0, none⟩) 1 1) := HRZ.out.cell 2
          (try simp only [Exit.inBlock, Exit.then])
          refine bodyPost_ret (v := .tuple #[.agg #[.bool false, .slice none 0 0, .slice (some ⟨gn, 0, none⟩) 1 1], .bool false]) (by simp [results, Tryz.results11, go_sem, z0, z1, z2]; try rfl) rfl ⟨.inr ⟨HNO.out, _, _, _, rfl⟩, HBZ.out⟩
        · have hpk : k * p ≤ 40 := Nat.le_trans (Nat.mul_le_mul (show k ≤ 40 by omega) (show p ≤ 1 by omega)) (by omega)
          have hb40 : b ≤ 40 := by omega
          go_wp2_with fail
          with_reducible refine (HEX.out _).mono ?_
          rintro e w3 ⟨hx, hb3⟩
          have HN3 := Lib.hid (HN1.out.below hb3 (Nat.le_refl _))
          have HB3 := Lib.hid (HB1.out.trans (hb3.mono HB1.out.size))
          have HR3 := Lib.hid (HR1.out.below hb3)
          clear hb3 HEX HN1 HB1 HR1
          rcases hx with ⟨pw, hpw, pw0, pw1, rfl⟩ | ⟨hpw, n3, rfl⟩
          · obtain ⟨e0, he0⟩ : ∃ e : Int, pw - (b : Int) = e := ⟨_, rfl⟩
            have HOS : Hid (o = some (Fr.scaleQ (Fr.sgn neg z.toNat) e0)) := by
              show _ = _
              rw [HRD.out, if_neg (by rintro (h | h) <;> omega), hpw, ← he0]; rfl
            have e00 : -140 ≤ e0 := by omega
            have e01 : e0 ≤ 100 := by omega
            have HO4 := Lib.hid (NumIs.one w3 1 (by omega) (by omega))
            have HN4 := Lib.hid (HN3.out.alloc (.cells #[.int .i64 1] 3))
            have HB4 := Lib.hid (HB3.out.alloc HB3.out.size (.cells #[.int .i64 1] 3))
            have HR4 := Lib.hid (HR3.out.alloc (.cells #[.int .i64 1] 3))
            clear hpw HRD HN3 HB3 HR3
            go_wp2_with fail
            obtain ⟨g4, hg4⟩ : ∃ g, w3.heap.size = g := ⟨_, rfl⟩
            rw [hg4] at HO4 ⊢
            generalize w3.alloc (.cells #[.int .i64 1] 3) = w4 at *
            clear hg4
            with_reducible refine (Tryz.rFrac neg (.slice pn nn cn) (.slice (some ⟨g4, 0, none⟩) 1 1) z 1 _ _ _ HN4.out HO4.out).mono ?_
            rintro e w5 ⟨rfl, hb5⟩
            obtain ⟨bb, hbb⟩ : ∃ bb : Bool, (neg && decide (0 < z)) = bb := ⟨_, rfl⟩
            rw [hbb]
            have HBB : Hid ((neg && decide (0 < z)) = bb) := hbb
            have HN5 := Lib.hid (HN4.out.below hb5 (Nat.le_refl _))
            have HO5 := Lib.hid (HO4.out.below hb5 (Nat.le_refl _))
            have HB5 := Lib.hid (HB4.out.trans (hb5.mono HB4.out.size))
            have HR5 := Lib.hid (HR4.out.below hb5)
            clear hb5 HN4 HO4 HB4 HR4 hbb
            have HA6 := Lib.hid (CellsAt.new w5 #[.bool bb, .slice pn nn cn, .slice (some ⟨g4, 0, none⟩) 1 1] 27 rfl)
            have HN6 := Lib.hid (HN5.out.alloc (.cells #[.bool bb, .slice pn nn cn, .slice (some ⟨g4, 0, none⟩) 1 1] 27))
            have HO6 := Lib.hid (HO5.out.alloc (.cells #[.bool bb, .slice pn nn cn, .slice (some ⟨g4, 0, none⟩) 1 1] 27))
            have HB6 := Lib.hid (HB5.out.alloc HB5.out.size (.cells #[.bool bb, .slice pn nn cn, .slice (some ⟨g4, 0, none⟩) 1 1] 27))
            have HR6 := Lib.hid (HR5.out.alloc (.cells #[.bool bb, .slice pn nn cn, .slice (some ⟨g4, 0, none⟩) 1 1] 27))
            have hBC := HR5.out.lt
            have hBw := HB5.out.size
            clear HN5 HO5 HB5 HR5
            go_wp2
            generalize w5.alloc (.cells #[.bool bb, .slice pn nn cn, .slice (some ⟨g4, 0, none⟩) 1 1] 27) = w6 at *
            obtain ⟨C, hC⟩ : ∃ C, w5.heap.size = C := ⟨_, rfl⟩
            have hne : C ≠ w.heap.size := by omega
            have hne2 : w.heap.size ≠ C := by omega
            rw [hC] at HA6 hBC hBw ⊢
            clear hC
            go_loopw [16] (fun kv wr => ∃ (j : Nat) (p1 : Option Addr) (n1 c1 : Nat), kv = .int .i64 (e0 - j) ∧ (j : Int) ≤ max e0 0 ∧ CellsAt wr C #[.bool bb, .slice p1 n1 c1, .slice (some ⟨g4, 0, none⟩) 1 1] 27 ∧ NumIs wr (.slice p1 n1 c1) (z * 10 ^ j) (200 + 2 * j) ∧ NumIs wr (.slice (some ⟨g4, 0, none⟩) 1 1) 1 1 ∧ Below w.heap.size w wr ∧ CellsAt wr w.heap.size #[.bool false, .slice none 0 0, .slice none 0 0] 27) (fun kv _ => (intOf kv).toNat)
            case atStart => exact ⟨0, pn, nn, cn, by simp, by omega, HA6.out, by simpa using HN6.out.mono (show 4 * k + 1 ≤ 200 by omega), HO6.out, HB6.out, HR6.out⟩
            case round =>
              obtain ⟨j, p1, n1, c1, rfl, hj, ha, hn, ho, hb, hr⟩ := hrel
              have HA := Lib.hid ha
              have HN := Lib.hid hn
              have HO := Lib.hid ho
              have HB := Lib.hid hb
              have HR := Lib.hid hr
              clear ha hn ho hb hr HA6 HN6 HO6 HB6 HR6
              by_cases hpos : 0 < e0 - (j : Int)
              · have a1 : wr.cell? ⟨C, 1, none⟩ = some (.slice p1 n1 c1) := HA.out.cell 1
                have HT7 := Lib.hid (NumIs.one wr 10 (by omega) (by omega))
                have HA7 := Lib.hid (HA.out.alloc (.cells #[.int .i64 10] 3))
                have HN7 := Lib.hid (HN.out.alloc (.cells #[.int .i64 10] 3))
                have HO7 := Lib.hid (HO.out.alloc (.cells #[.int .i64 10] 3))
                have HB7 := Lib.hid (HB.out.alloc HB.out.size (.cells #[.int .i64 10] 3))
                have HR7 := Lib.hid (HR.out.alloc (.cells #[.int .i64 10] 3))
                clear HA HN HO HB HR
                go_wp2_with fail
                generalize wr.alloc (.cells #[.int .i64 10] 3) = w7 at *
                with_reducible refine (Tryz.nMul HN7.out HT7.out (by omega)).mono ?_
                rintro e w8 ⟨⟨v, rfl, hv⟩, hb8⟩
                obtain ⟨p2, n2, c2, rfl⟩ := hv.slice
                have HV := Lib.hid hv
                have HA8 := Lib.hid (HA7.out.below hb8)
                have HO8 := Lib.hid (HO7.out.below hb8 (Nat.le_refl _))
                have HB8 := Lib.hid (HB7.out.trans (hb8.mono HB7.out.size))
                have HR8 := Lib.hid (HR7.out.below hb8)
                have a8 : w8.cell? ⟨C, 1, none⟩ = some (.slice p1 n1 c1) := HA8.out.cell 1
                have f8 := HA8.out.free 1
                clear hv hb8 HA7 HO7 HB7 HR7 HN7 HT7 a1
                have HZ : Hid (z * 10 ^ j * 10 = z * 10 ^ (j + 1)) := by show _ = _; rw [Int.pow_succ, Int.mul_assoc]
                go_wp2
                exact ⟨⟨j + 1, p2, n2, c2, congrArg (Value.int .i64) (by omega), by omega, HA8.out.set 1 _, by rw [← HZ.out]; exact (HV.out.store HA8.out (by decide) 1 _).mono (by omega), HO8.out.store HA8.out (by decide) 1 _, HB8.out.setCell (p := ⟨C, 1, none⟩) (Nat.le_of_lt hBC) _, HR8.out.other hne2 1 _⟩, by simp [intOf]; omega⟩
              · have hjj : j = e0.toNat := by omega
                go_wp2
                go_loopw [17] (fun kv wr => ∃ (i : Nat) (p2 : Option Addr) (n2 c2 : Nat), kv = .int .i64 (e0 + i) ∧ (i : Int) ≤ max (-e0) 0 ∧ CellsAt wr C #[.bool bb, .slice p1 n1 c1, .slice p2 n2 c2] 27 ∧ NumIs wr (.slice p1 n1 c1) (z * 10 ^ j) 500 ∧ NumIs wr (.slice p2 n2 c2) (10 ^ i) (1 + 2 * i) ∧ Below w.heap.size w wr ∧ CellsAt wr w.heap.size #[.bool false, .slice none 0 0, .slice none 0 0] 27) (fun kv _ => (-(intOf kv)).toNat)
                case atStart => exact ⟨0, _, _, _, by simp, by omega, HA.out, HN.out.mono (by omega), by simpa using HO.out, HB.out, HR.out⟩
                case round =>
                  obtain ⟨i, p2, n2, c2, rfl, hi, ha, hn, ho, hb, hr⟩ := hrel
                  clear HA HN HO HB HR
                  have HA := Lib.hid ha
                  have HN := Lib.hid hn
                  have HO := Lib.hid ho
                  have HB := Lib.hid hb
                  have HR := Lib.hid hr
                  clear ha hn ho hb hr
                  by_cases hneg : e0 + (i : Int) < 0
                  · have a1 : wr.cell? ⟨C, 2, none⟩ = some (.slice p2 n2 c2) := HA.out.cell 2
                    have HT7 := Lib.hid (NumIs.one wr 10 (by omega) (by omega))
                    have HA7 := Lib.hid (HA.out.alloc (.cells #[.int .i64 10] 3))
                    have HN7 := Lib.hid (HN.out.alloc (.cells #[.int .i64 10] 3))
                    have HO7 := Lib.hid (HO.out.alloc (.cells #[.int .i64 10] 3))
                    have HB7 := Lib.hid (HB.out.alloc HB.out.size (.cells #[.int .i64 10] 3))
                    have HR7 := Lib.hid (HR.out.alloc (.cells #[.int .i64 10] 3))
                    clear HA HN HO HB HR
                    go_wp2_with fail
                    generalize wr.alloc (.cells #[.int .i64 10] 3) = w7 at *
                    with_reducible refine (Tryz.nMul HO7.out HT7.out (by omega)).mono ?_
                    rintro e w8 ⟨⟨v, rfl, hv⟩, hb8⟩
                    obtain ⟨p3, n3, c3, rfl⟩ := hv.slice
                    have HV := Lib.hid hv
                    have HA8 := Lib.hid (HA7.out.below hb8)
                    have HN8 := Lib.hid (HN7.out.below hb8 (Nat.le_refl _))
                    have HB8 := Lib.hid (HB7.out.trans (hb8.mono HB7.out.size))
                    have HR8 := Lib.hid (HR7.out.below hb8)
                    have a8 : w8.cell? ⟨C, 2, none⟩ = some (.slice p2 n2 c2) := HA8.out.cell 2
                    have f8 := HA8.out.free 2
                    clear hv hb8 HA7 HN7 HB7 HR7 HO7 HT7 a1
                    have HZ : Hid ((10 : Int) ^ i * 10 = 10 ^ (i + 1)) := by show _ = _; rw [Int.pow_succ]
                    go_wp2
                    exact ⟨⟨i + 1, p3, n3, c3, congrArg (Value.int .i64) (by omega), by omega, HA8.out.set 2 _, HN8.out.store HA8.out (by decide) 2 _, by rw [← HZ.out]; exact (HV.out.store HA8.out (by decide) 2 _).mono (by omega), HB8.out.setCell (p := ⟨C, 2, none⟩) (Nat.le_of_lt hBC) _, HR8.out.other hne2 2 _⟩, by simp [intOf]; omega⟩
                  · have hii : i = (-e0).toNat := by omega
                    have HQQ := Lib.hid (scale_q hz0 HBB.out hjj hii)
                    have HP1 : Hid (1 ≤ (10 : Int) ^ i) := by show _ ≤ _; have : (0 : Int) < 10 ^ i := Int.pow_pos (by omega); omega
                    have HP2 : Hid (bb = true → 1 ≤ z * 10 ^ j) := fun h => by
                      have h1 := HBB.out
                      rw [h] at h1
                      have h2 : 0 < z := by simp at h1; omega
                      have h3 : (0 : Int) < 10 ^ j := Int.pow_pos (by omega)
                      have h4 := Int.mul_pos h2 h3
                      omega
                    clear hjj hii
                    have a0 : (wr).cell? ⟨C, 0, none⟩ = some (.bool bb) := HA.out.cell 0
                    have a1 : (wr).cell? ⟨C, 1, none⟩ = some (.slice p1 n1 c1) := HA.out.cell 1
                    have a2 : (wr).cell? ⟨C, 2, none⟩ = some (.slice p2 n2 c2) := HA.out.cell 2
                    have af0 := HA.out.free 0
                    have af1 := HA.out.free 1
                    have af2 := HA.out.free 2
                    have r0 : (wr).cell? ⟨w.heap.size, 0, none⟩ = some (.bool false) := HR.out.cell 0
                    have r1 : (wr).cell? ⟨w.heap.size, 1, none⟩ = some (.slice none 0 0) := HR.out.cell 1
                    have r2 : (wr).cell? ⟨w.heap.size, 2, none⟩ = some (.slice none 0 0) := HR.out.cell 2
                    have rf0 := HR.out.free 0
                    have rf1 := HR.out.free 1
                    have rf2 := HR.out.free 2
                    go_wp2
                    have HRZ := Lib.hid (HR.out.put3 (x := .bool bb) (y := .slice p1 n1 c1) (z := .slice p2 n2 c2))
                    have HBZ := Lib.hid (((HB.out.setCell (p := ⟨w.heap.size, 0, none⟩) (Nat.le_refl _) (.bool bb)).setCell (p := ⟨w.heap.size, 1, none⟩) (Nat.le_refl _) (.slice p1 n1 c1)).setCell (p := ⟨w.heap.size, 2, none⟩) (Nat.le_refl _) (.slice p2 n2 c2))
                    have HNZ := Lib.hid (HN.out.put3 (x := .bool bb) (y := .slice p1 n1 c1) (u := .slice p2 n2 c2) HR.out (by decide))
                    have HDZ := Lib.hid (HO.out.put3 (x := .bool bb) (y := .slice p1 n1 c1) (u := .slice p2 n2 c2) HR.out (by decide))
                    generalize (((wr.setCell ⟨w.heap.size, 0, none⟩ (.bool bb)).setCell ⟨w.heap.size, 1, none⟩ (.slice p1 n1 c1)).setCell ⟨w.heap.size, 2, none⟩ (.slice p2 n2 c2)) = wz at *
                    have z0 : wz.cell? ⟨w.heap.size, 0, none⟩ = some (.bool bb) := HRZ.out.cell 0
                    have z1 : wz.cell? ⟨w.heap.size, 1, none⟩ = some (.slice p1 n1 c1) := HRZ.out.cell 1
                    have z2 : wz.cell? ⟨w.heap.size, 2, none⟩ = some (.slice p2 n2 c2) := HRZ.out.cell 2
                    (try simp only [Exit.inBlock, Exit.then])
                    refine bodyPost_ret (v := .tuple #[.agg #[.bool bb, .slice p1 n1 c1, .slice p2 n2 c2], .bool true]) (by simp [results, Tryz.results11, go_sem, z0, z1, z2]; try rfl) rfl ⟨.inl ⟨_, _, HOS.out, rfl, bb, _, _, z * 10 ^ j, 10 ^ i, rfl, HNZ.out, HDZ.out.mono (by omega), HP1.out, HP2.out, HQQ.out⟩, HBZ.out⟩
          · have HNO : Hid (o = none) := by show _ = _; rw [HRD.out, if_neg (by rintro (h | h) <;> omega), hpw]; rfl
            clear HRD HN3 hpw
            go_wp2_with fail
            with_reducible refine (Tryz.rZero _).mono ?_
            rintro e wn ⟨⟨gn, rfl⟩, hbn⟩
            have HRN := Lib.hid (HR3.out.below hbn)
            have HBN := Lib.hid (HB3.out.trans (hbn.mono HB3.out.size))
            clear hbn HR3 HB3
            have r0 : (wn).cell? ⟨w.heap.size, 0, none⟩ = some (.bool false) := HRN.out.cell 0
            have r1 : (wn).cell? ⟨w.heap.size, 1, none⟩ = some (.slice none 0 0) := HRN.out.cell 1
            have r2 : (wn).cell? ⟨w.heap.size, 2, none⟩ = some (.slice none 0 0) := HRN.out.cell 2
            have rf0 := HRN.out.free 0
            have rf1 := HRN.out.free 1
            have rf2 := HRN.out.free 2
            go_wp2
            have HRZ := Lib.hid (HRN.out.put3 (x := .bool false) (y := .slice none 0 0) (z := .slice (some ⟨gn, 0, none⟩) 1 1))
            have HBZ := Lib.hid (((HBN.out.setCell (p := ⟨w.heap.size, 0, none⟩) (Nat.le_refl _) (.bool false)).setCell (p := ⟨w.heap.size, 1, none⟩) (Nat.le_refl _) (.slice none 0 0)).setCell (p := ⟨w.heap.size, 2, none⟩) (Nat.le_refl _) (.slice (some ⟨gn, 0, none⟩) 1 1))
            generalize (((wn.setCell ⟨w.heap.size, 0, none⟩ (.bool false)).setCell ⟨w.heap.size, 1, none⟩ (.slice none 0 0)).setCell ⟨w.heap.size, 2, none⟩ (.slice (some ⟨gn, 0, none⟩) 1 1)) = wz at *
            have z0 : wz.cell? ⟨w.heap.size, 0, none⟩ = some (.bool false) := HRZ.out.cell 0
            have z1 : wz.cell? ⟨w.heap.size, 1, none⟩ = some (.slice none 0 0) := HRZ.out.cell 1
            have z2 : wz.cell? ⟨w.heap.size, 2, none⟩ = some (.slice (some ⟨gn, 0, none⟩) 1 1) := HRZ.out.cell 2
            (try simp only [Exit.inBlock, Exit.then])
            refine bodyPost_ret (v := .tuple #[.agg #[.bool false, .slice none 0 0, .slice (some ⟨gn, 0, none⟩) 1 1], .bool false]) (by simp [results, Tryz.results11, go_sem, z0, z1, z2]; try rfl) rfl ⟨.inr ⟨HNO.out, _, _, _, rfl⟩, HBZ.out⟩

end Go.Proofs
