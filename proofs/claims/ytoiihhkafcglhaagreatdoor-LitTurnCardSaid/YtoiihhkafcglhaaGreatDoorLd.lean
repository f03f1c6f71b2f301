/- What decimal and Get of the package lit return. What decimal and Get of the package lit return. -/
import Derived.Test.YtoiihhkafcglhaaGreatDoorLa
import Derived.Test.YtoiihhkafcglhaaGreatDoorFt
import Derived.Lib.AtoiErrMem
namespace Go.Proofs.Fr
open Go.RowKit Go.Proofs.Wd
set_option linter.unusedVariables false
theorem cut_take (t : ByteArray) (k : Nat) : (t.extract 0 k).data.toList = t.data.toList.take k := by rw [Tx.extract_list, List.drop_zero]
theorem cut_drop (t : ByteArray) (k : Nat) : (t.extract k t.size).data.toList = t.data.toList.drop k := by
  rw [Tx.extract_list, List.take_of_length_le (by rw [Tx.length_list]; omega)]
/-- What Cut tells at a point. -/
def DotIs (l : List UInt8) (e : Ending) : Prop := ∃ (r1 r2 : ByteArray) (b : Bool), r1.data.toList = wholeOf l ∧ r2.data.toList = partOf l ∧ e = .returned (.tuple #[.string r1, .string r2, .bool b])
set_option maxHeartbeats 4000000 in
set_option maxRecDepth 100000 in
theorem Tryz.dotLite (t : ByteArray) (w : World) (hs : t.size ≤ 4294967280) :
    Calls Tryz.prog 124 #[.string t, .string ⟨#[46]⟩] w fun e w' => DotIs t.data.toList e ∧ Below w.heap.size w w' := by
  obtain ⟨k, hk⟩ : ∃ k, t.data.toList.idxOf 46 = k := ⟨_, rfl⟩
  have hkl : k ≤ t.size := by rw [← hk, ← Tx.length_list]; exact List.idxOf_le_length
  have hix := index_idx t.data.toList 46
  rw [Tx.length_list, hk] at hix
  by_cases hlt : k < t.size
  · have HR : Hid (DotIs t.data.toList (.returned (.tuple #[.string (t.extract 0 k), .string (t.extract (k + 1) t.size), .bool true]))) := ⟨_, _, _, by rw [cut_take]; unfold wholeOf; rw [hk], by rw [cut_drop]; unfold partOf; rw [hk], rfl⟩
    have HI : Hid (∀ w, Calls Tryz.prog 160 #[.string t, .string ⟨#[46]⟩] w fun e w' => e = .returned (.int .i64 k) ∧ w' = w) := fun w => by
      have h := Tryz.stringslite_Index_one t 46 w
      rw [hix, if_pos hlt] at h
      exact h
    have c1 : (0 : Int) ≤ k := by omega
    have c2 : (k : Int) ≤ t.size := by omega
    have c3 : (k : Int) + 1 ≤ t.size := by omega
    clear hix hk hkl
    go_enter Tryz.func124, Tryz.ntmps124
    go_wp2_with fail
    with_reducible refine (HI.out _).mono ?_
    rintro e w1 ⟨rfl, rfl⟩
    clear HI
    go_wp2
    go_quiet (fail)
    go_wp2
    go_ret3
    exact ⟨HR.out, belowN (Below.refl _ _) nq⟩
  · have HR : Hid (DotIs t.data.toList (.returned (.tuple #[.string t, .string ⟨#[]⟩, .bool false]))) := ⟨_, _, _, by unfold wholeOf; rw [hk, List.take_of_length_le (by rw [Tx.length_list]; omega)], by unfold partOf; rw [hk, List.drop_eq_nil_of_le (by rw [Tx.length_list]; omega)], rfl⟩
    have HI : Hid (∀ w, Calls Tryz.prog 160 #[.string t, .string ⟨#[46]⟩] w fun e w' => e = .returned (.int .i64 (-1)) ∧ w' = w) := fun w => by
      have h := Tryz.stringslite_Index_one t 46 w
      rw [hix, if_neg hlt] at h
      exact h
    clear hix hk hkl hlt
    go_enter Tryz.func124, Tryz.ntmps124
    go_wp2_with fail
    with_reducible refine (HI.out _).mono ?_
    rintro e w1 ⟨rfl, rfl⟩
    clear HI
    go_wp2
    go_ret3
    exact ⟨HR.out, Below.refl _ _⟩
set_option maxHeartbeats 4000000 in
set_option maxRecDepth 100000 in
theorem Tryz.dot (t : ByteArray) (w : World) (hs : t.size ≤ 4294967280) :
    Calls Tryz.prog 71 #[.string t, .string ⟨#[46]⟩] w fun e w' => DotIs t.data.toList e ∧ Below w.heap.size w w' := by
  have HD := Lib.hid (Tryz.dotLite t w hs)
  obtain ⟨l, hl⟩ : ∃ l, t.data.toList = l := ⟨_, rfl⟩
  rw [hl] at HD ⊢
  clear hl
  go_enter Tryz.func71, Tryz.ntmps71
  go_wp2_with fail
  with_reducible refine HD.out.mono ?_
  rintro e w1 ⟨⟨r1, r2, b, h1, h2, rfl⟩, hb1⟩
  have HB : Hid (Below w.heap.size w w1) := hb1
  have HC : Hid (DotIs l (.returned (.tuple #[.string r1, .string r2, .bool b]))) := ⟨r1, r2, b, h1, h2, rfl⟩
  clear hb1 h1 h2 HD
  go_wp2
  go_ret3
  exact ⟨HC.out, HB.out⟩
/-- Where the first e stands, as IndexAny tells. -/
def idxE (l : List UInt8) : Int := if l.findIdx isE < l.length then (l.findIdx isE : Int) else -1
theorem any_idxE (l : List UInt8) : Lib.indexAny l [101, 69] = idxE l := by
  induction l with
  | nil => rfl
  | cons b l ih =>
    unfold Lib.indexAny
    rw [ih]
    have he : [101, 69].contains b = isE b := by
      unfold isE
      rw [Bool.eq_iff_iff]; simp
    rw [he]
    unfold idxE
    rw [List.findIdx_cons]
    cases hb : isE b with
    | true => simp
    | false =>
      by_cases g : l.findIdx isE < l.length
      · simp [g]
      · simp [g]
/-- IndexAny tells of a string where its first e stands. -/
def AnyOk (s : ByteArray) : Prop := ∀ W, Calls Tryz.prog 143 #[.string s, .string ⟨#[101, 69]⟩] W fun e w' => e = .returned (.int .i64 (idxE s.data.toList)) ∧ Below W.heap.size W w'
theorem any_ascii (s : ByteArray) (hs : s.size ≤ 1000) (ha : ∀ c ∈ s.data.toList, c.toNat < 128) : AnyOk s := fun W => by
  have h := Tryz.strings_IndexAny_laid s ⟨#[101, 69]⟩ W (by omega) (by decide) (fun j b hb => ha b (List.mem_of_getElem? hb)) (fun j b hb => by
    have hm := List.mem_of_getElem? hb
    have : b = 101 ∨ b = 69 := by simpa using hm
    rcases this with rfl | rfl <;> decide)
  rw [show (⟨#[101, 69]⟩ : ByteArray).data.toList = [101, 69] from rfl, any_idxE] at h
  exact h
theorem atoi_dv {l : List UInt8} (h : allDig l = true) : Lib.atoi l = some (Tx.dv l : Int) := by
  obtain ⟨h0, hd⟩ := allDig_iff.1 h
  have key : ∀ (l : List UInt8) (acc : Nat), (∀ c ∈ l, Tx.isDig c) → Lib.decFrom acc l = some (acc * 10 ^ l.length + Tx.dv l) := by
    intro l
    induction l with
    | nil => intro acc _; simp [Lib.decFrom, Tx.dv]
    | cons c l ih =>
      intro acc hd
      have hc := hd c (by simp)
      unfold Tx.isDig at hc
      unfold Lib.decFrom Lib.digitVal
      rw [if_pos hc]
      show Lib.decFrom (acc * 10 + (c.toNat - 48)) l = _
      rw [ih _ (fun x hx => hd x (by simp [hx])), Tx.dv_cons, List.length_cons, Nat.pow_succ]
      congr 1
      grind
  cases l with
  | nil => exact absurd rfl h0
  | cons c l =>
    have hc := hd c (by simp)
    unfold Tx.isDig at hc
    have e1 : (c == 45) = false := by
      rw [beq_eq_false_iff_ne]; rintro rfl; revert hc; decide
    have e2 : (c == 43) = false := by
      rw [beq_eq_false_iff_ne]; rintro rfl; revert hc; decide
    show (if (c == 45) = true then (Lib.decNat l).map (fun m : Nat => -(m : Int)) else if (c == 43) = true then (Lib.decNat l).map (fun m : Nat => (m : Int)) else (Lib.decNat (c :: l)).map fun m : Nat => (m : Int)) = _
    rw [e1, e2, if_neg (by decide), if_neg (by decide)]
    unfold Lib.decNat
    rw [if_neg (by simp), key _ 0 hd]
    simp
theorem litSign_len (l : List UInt8) : (litSign l).2.length ≤ l.length := by
  unfold litSign
  split
  · rw [List.length_drop]; omega
  · split
    · rw [List.length_drop]; omega
    · exact Nat.le_refl _
/-- What cutPower tells. -/
def PowIs (l : List UInt8) (e : Ending) : Prop :=
  (∃ b p r, cutPow l = some (b, p) ∧ -100 ≤ p ∧ p ≤ 100 ∧ r.data.toList = b ∧ e = .returned (.tuple #[.string r, .int .i64 p, .bool true])) ∨ (cutPow l = none ∧ e = .returned (.tuple #[.string ⟨#[]⟩, .int .i64 0, .bool false]))
set_option maxHeartbeats 8000000 in
set_option maxRecDepth 100000 in
theorem Tryz.litCutPower (s : ByteArray) (w : World) (hs : s.size ≤ 1000) (hA : AnyOk s) :
    Calls Tryz.prog 102 #[.string s] w fun e w' => PowIs s.data.toList e ∧ Below w.heap.size w w' := by
  obtain ⟨l, hl⟩ : ∃ l, s.data.toList = l := ⟨_, rfl⟩
  have hll : l.length = s.size := by rw [← hl, Tx.length_list]
  obtain ⟨k, hk⟩ : ∃ k, l.findIdx isE = k := ⟨_, rfl⟩
  have HA : Hid (∀ W, Calls Tryz.prog 143 #[.string s, .string ⟨#[101, 69]⟩] W fun e w' => e = .returned (.int .i64 (if k < l.length then (k : Int) else -1)) ∧ Below W.heap.size W w') := fun W => by
    have h := hA W
    rw [hl] at h
    unfold idxE at h
    rw [hk] at h
    exact h
  rw [hl]
  clear hA
  by_cases hlt : k < l.length
  · rw [if_pos hlt] at HA
    obtain ⟨t, ht⟩ : ∃ t, s.extract (k + 1) s.size = t := ⟨_, rfl⟩
    have htl : t.data.toList = l.drop (k + 1) := by rw [← ht, cut_drop, hl]
    obtain ⟨neg, hneg⟩ : ∃ b, (litSign (l.drop (k + 1))).1 = b := ⟨_, rfl⟩
    obtain ⟨dl, hdl⟩ : ∃ d, (litSign (l.drop (k + 1))).2 = d := ⟨_, rfl⟩
    have HS : Hid (∀ W, Calls Tryz.prog 101 #[.string t] W fun e w' => e = .returned (.tuple #[.bool neg, .string ⟨dl.toArray⟩]) ∧ w' = W) := fun W => by
      have h := Tryz.litCutSign t W
      rw [htl, hneg, hdl] at h
      exact h
    obtain ⟨D, hD⟩ : ∃ D : ByteArray, (⟨dl.toArray⟩ : ByteArray) = D := ⟨_, rfl⟩
    have hDl : D.data.toList = dl := by rw [← hD]
    have hDs : D.size = dl.length := by rw [← Tx.length_list, hDl]
    have hdle : dl.length ≤ 1000 := by
      have h1 := litSign_len (l.drop (k + 1))
      rw [hdl, List.length_drop] at h1
      omega
    rw [hD] at HS
    have HAD : Hid (∀ W, Calls Tryz.prog 103 #[.string D] W fun e w' => e = .returned (.bool (allDig dl)) ∧ w' = W) := fun W => by
      have h := Tryz.litAllDigits D W (by omega)
      rw [hDl] at h
      exact h
    have hcp : cutPow l = (powOf (l.drop (k + 1))).map fun p => (l.take k, p) := by unfold cutPow; rw [hk, if_pos hlt]
    have hks : (k : Int) + 1 ≤ s.size := by omega
    have hks2 : (k : Int) ≤ s.size := by omega
    have hk0 : ¬ (k : Int) < 0 := by omega
    have hkk : k ≤ 1000 := by omega
    have hls : dl.length ≤ 1000 := by omega
    have hno : powOf (l.drop (k + 1)) = none → PowIs l (.returned (.tuple #[.string ⟨#[]⟩, .int .i64 0, .bool false])) := fun h => .inr ⟨by rw [hcp, h]; rfl, rfl⟩
    by_cases hbig : 3 < dl.length
    · have HN : Hid (PowIs l (.returned (.tuple #[.string ⟨#[]⟩, .int .i64 0, .bool false]))) := hno (by unfold powOf; rw [if_neg (by rw [hdl]; omega)])
      clear hl hk hneg hdl htl hcp hDl hlt hll HAD hD hno
      go_enter Tryz.func102, Tryz.ntmps102
      go_wp2_with fail
      with_reducible refine (HA.out _).mono ?_
      rintro e w1 ⟨rfl, hb1⟩
      have HB := Lib.hid hb1
      clear hb1 HA
      go_wp2_with fail
      with_reducible refine (HS.out _).mono ?_
      rintro e w2 ⟨rfl, hw2⟩
      subst w2
      clear HS
      go_wp2
      go_ret3
      exact ⟨HN.out, HB.out⟩
    · by_cases had : allDig dl = true
      · rw [had] at HAD
        obtain ⟨z, hz⟩ : ∃ z, Tx.dv dl = z := ⟨_, rfl⟩
        have hat : Lib.atoi D.data.toList = some (z : Int) := by rw [hDl, ← hz]; exact atoi_dv had
        have hz9 : z < 1000 := by
          have h1 := Tx.dv_lt (allDig_iff.1 had).2
          have h2 : (10 : Nat) ^ dl.length ≤ 10 ^ 3 := Nat.pow_le_pow_right (by decide) (by omega)
          omega
        have HAT : Hid (∀ W, Calls Tryz.prog 144 #[.string D] W fun e w' => e = .returned (.tuple #[.int .i64 (z : Int), .nilIface]) ∧ Below W.heap.size W w') := fun W => by
          refine (Tryz.strconv_Atoi D z (by omega) hat W).mono ?_
          rintro e w' ⟨rfl, t, rfl⟩
          exact ⟨rfl, Lib.bytesWorld_below _ _ _⟩
        by_cases hz1 : z ≤ 100
        · obtain ⟨r, hr⟩ : ∃ r, s.extract 0 k = r := ⟨_, rfl⟩
          have hrl : r.data.toList = l.take k := by rw [← hr, cut_take, hl]
          have hpw : powOf (l.drop (k + 1)) = some (sgn neg z) := by
            unfold powOf
            rw [hdl, hneg, hz, if_pos ⟨by omega, had, hz1⟩]
          have HY : Hid (∀ p : Int, p = sgn neg z → PowIs l (.returned (.tuple #[.string r, .int .i64 p, .bool true]))) := fun p hp =>
            .inl ⟨l.take k, p, r, by rw [hcp, hpw, hp]; rfl, by rw [hp]; unfold sgn; split <;> omega, by rw [hp]; unfold sgn; split <;> omega, hrl, rfl⟩
          have HY0 : Hid (neg = false → PowIs l (.returned (.tuple #[.string r, .int .i64 (z : Int), .bool true]))) := fun h => HY.out _ (by rw [h]; rfl)
          have HY1 : Hid (neg = true → PowIs l (.returned (.tuple #[.string r, .int .i64 (-(z : Int)), .bool true]))) := fun h => HY.out _ (by rw [h]; rfl)
          clear HY hl hk hneg hdl htl hcp hDl hlt hll hD hat had hz hrl hpw hno
          cases neg
          · have HE := Lib.hid (HY0.out rfl)
            clear HY0 HY1
            go_enter Tryz.func102, Tryz.ntmps102
            go_wp2_with fail
            with_reducible refine (HA.out _).mono ?_
            rintro e w1 ⟨rfl, hb1⟩
            have HB := Lib.hid hb1
            clear hb1 HA
            go_wp2_with fail
            with_reducible refine (HS.out _).mono ?_
            rintro e w2 ⟨rfl, hw2⟩
            subst w2
            clear HS
            go_wp2_with fail
            with_reducible refine (HAD.out _).mono ?_
            rintro e w3 ⟨rfl, hw3⟩
            subst w3
            clear HAD
            go_wp2_with fail
            with_reducible refine (HAT.out _).mono ?_
            rintro e w4 ⟨rfl, hb4⟩
            have HB4 := Lib.hid (Below.after HB.out hb4)
            clear HB hb4 HAT
            have HB := HB4
            clear HB4
            go_wp2
            go_ret3
            exact ⟨HE.out, HB.out⟩
          · have HE := Lib.hid (HY1.out rfl)
            clear HY0 HY1
            go_enter Tryz.func102, Tryz.ntmps102
            go_wp2_with fail
            with_reducible refine (HA.out _).mono ?_
            rintro e w1 ⟨rfl, hb1⟩
            have HB := Lib.hid hb1
            clear hb1 HA
            go_wp2_with fail
            with_reducible refine (HS.out _).mono ?_
            rintro e w2 ⟨rfl, hw2⟩
            subst w2
            clear HS
            go_wp2_with fail
            with_reducible refine (HAD.out _).mono ?_
            rintro e w3 ⟨rfl, hw3⟩
            subst w3
            clear HAD
            go_wp2_with fail
            with_reducible refine (HAT.out _).mono ?_
            rintro e w4 ⟨rfl, hb4⟩
            have HB4 := Lib.hid (Below.after HB.out hb4)
            clear HB hb4 HAT
            have HB := HB4
            clear HB4
            go_wp2
            go_ret3
            exact ⟨HE.out, HB.out⟩
        · have HN : Hid (PowIs l (.returned (.tuple #[.string ⟨#[]⟩, .int .i64 0, .bool false]))) := hno (by unfold powOf; rw [if_neg (by rw [hdl, hz]; omega)])
          clear hl hk hneg hdl htl hcp hDl hlt hll hD hat had hz hno
          go_enter Tryz.func102, Tryz.ntmps102
          go_wp2_with fail
          with_reducible refine (HA.out _).mono ?_
          rintro e w1 ⟨rfl, hb1⟩
          have HB := Lib.hid hb1
          clear hb1 HA
          go_wp2_with fail
          with_reducible refine (HS.out _).mono ?_
          rintro e w2 ⟨rfl, hw2⟩
          subst w2
          clear HS
          go_wp2_with fail
          with_reducible refine (HAD.out _).mono ?_
          rintro e w3 ⟨rfl, hw3⟩
          subst w3
          clear HAD
          go_wp2_with fail
          with_reducible refine (HAT.out _).mono ?_
          rintro e w4 ⟨rfl, hb4⟩
          have HB4 := Lib.hid (Below.after HB.out hb4)
          clear HB hb4 HAT
          have HB := HB4
          clear HB4
          go_wp2
          go_ret3
          exact ⟨HN.out, HB.out⟩
      · have hadf : allDig dl = false := by simpa using had
        rw [hadf] at HAD
        have HN : Hid (PowIs l (.returned (.tuple #[.string ⟨#[]⟩, .int .i64 0, .bool false]))) := hno (by unfold powOf; rw [if_neg (by rw [hdl, hadf]; simp)])
        clear hl hk hneg hdl htl hcp hDl hlt hll hD hno had hadf
        go_enter Tryz.func102, Tryz.ntmps102
        go_wp2_with fail
        with_reducible refine (HA.out _).mono ?_
        rintro e w1 ⟨rfl, hb1⟩
        have HB := Lib.hid hb1
        clear hb1 HA
        go_wp2_with fail
        with_reducible refine (HS.out _).mono ?_
        rintro e w2 ⟨rfl, hw2⟩
        subst w2
        clear HS
        go_wp2_with fail
        with_reducible refine (HAD.out _).mono ?_
        rintro e w3 ⟨rfl, hw3⟩
        subst w3
        clear HAD
        go_wp2
        go_ret3
        exact ⟨HN.out, HB.out⟩
  · rw [if_neg hlt] at HA
    have HY : Hid (PowIs l (.returned (.tuple #[.string s, .int .i64 0, .bool true]))) := .inl ⟨l, 0, s, by unfold cutPow; rw [hk, if_neg hlt], by omega, by omega, hl, rfl⟩
    clear hl hk hlt hll
    go_enter Tryz.func102, Tryz.ntmps102
    go_wp2_with fail
    with_reducible refine (HA.out _).mono ?_
    rintro e w1 ⟨rfl, hb1⟩
    have HB := Lib.hid hb1
    clear hb1 HA
    go_wp2
    go_ret3
    exact ⟨HY.out, HB.out⟩
end Go.Proofs.Fr
namespace Go.Proofs.Fr
open Go.RowKit Go.Proofs.Wd
set_option linter.unusedVariables false
/-- What decimal tells. -/
def DecIs (o : Option Rat) (w : World) (e : Ending) : Prop := (∃ q v, o = some q ∧ e = .returned (.tuple #[v, .bool true]) ∧ FracIs w v q 242) ∨ (o = none ∧ e = .returned (.tuple #[.pointer none, .bool false]))
theorem join_list (a b : ByteArray) : (a ++ b).data.toList = a.data.toList ++ b.data.toList := by simp
theorem cutPow_len {l b : List UInt8} {p : Int} (h : cutPow l = some (b, p)) : b.length ≤ l.length := by
  unfold cutPow at h
  split at h
  · cases hp : powOf (l.drop (l.findIdx isE + 1)) with
    | none => rw [hp] at h; simp at h
    | some x =>
      rw [hp] at h
      simp only [Option.map_some, Option.some.injEq, Prod.mk.injEq] at h
      rw [← h.1, List.length_take]; omega
  · simp only [Option.some.injEq, Prod.mk.injEq] at h
    rw [← h.1]; omega
set_option maxHeartbeats 8000000 in
set_option maxRecDepth 100000 in
theorem Tryz.litDecimal (s : ByteArray) (w : World) (hs : s.size ≤ 200) (hA : AnyOk ⟨(litSign s.data.toList).2.toArray⟩) :
    Calls Tryz.prog 40 #[.string s] w fun e w' => DecIs (decQ s.data.toList) w' e ∧ Below w.heap.size w w' := by
  obtain ⟨l, hl⟩ : ∃ l, s.data.toList = l := ⟨_, rfl⟩
  obtain ⟨neg, hneg⟩ : ∃ b, (litSign l).1 = b := ⟨_, rfl⟩
  obtain ⟨sl, hsl⟩ : ∃ d, (litSign l).2 = d := ⟨_, rfl⟩
  have HS : Hid (∀ W, Calls Tryz.prog 101 #[.string s] W fun e w' => e = .returned (.tuple #[.bool neg, .string ⟨sl.toArray⟩]) ∧ w' = W) := fun W => by
    have h := Tryz.litCutSign s W
    rw [hl, hneg, hsl] at h
    exact h
  rw [hl, hsl] at hA
  obtain ⟨S, hS⟩ : ∃ S : ByteArray, (⟨sl.toArray⟩ : ByteArray) = S := ⟨_, rfl⟩
  rw [hS] at HS hA
  have hSl : S.data.toList = sl := by rw [← hS]
  have hSs : S.size ≤ 200 := by
    rw [← Tx.length_list, hSl, ← hsl]
    have h1 := litSign_len l
    rw [← hl, Tx.length_list] at h1
    rw [← hl]; omega
  have HP : Hid (∀ W, Calls Tryz.prog 102 #[.string S] W fun e w' => PowIs sl e ∧ Below W.heap.size W w') := fun W => by
    have h := Tryz.litCutPower S W (by omega) hA
    rw [hSl] at h
    exact h
  have hdq : (cutPow sl = none → decQ l = none) ∧ ∀ b e, cutPow sl = some (b, e) → decQ l = if allDig (wholeOf b ++ partOf b) = true then some (scaleQ (sgn neg (Tx.dv (wholeOf b ++ partOf b))) (e - (partOf b).length)) else none := by
    constructor
    · intro h; unfold decQ; rw [hsl, h]
    · intro b e h; unfold decQ; rw [hneg, hsl, h]
  have hsl9 : sl.length ≤ 200 := by rw [← hSl, Tx.length_list]; exact hSs
  rw [hl]
  obtain ⟨o, ho⟩ : ∃ o, decQ l = o := ⟨_, rfl⟩
  rw [ho] at hdq ⊢
  have HO := Lib.hid hdq
  clear hl hneg hsl hS hSl hSs hdq ho hA
  have HL0 : Hid (Lies w w [] []) := Lies.start w
  go_enter Tryz.func40, Tryz.ntmps40
  go_wp2_with fail
  with_reducible refine (HS.out _).mono ?_
  rintro e w1 ⟨rfl, hw1⟩
  subst w1
  clear HS
  go_wp2_with fail
  with_reducible refine (HP.out _).mono ?_
  rintro e w2 ⟨hp, hb2⟩
  have HL2 : Hid (Lies w w2 [] []) := HL0.out.after hb2
  clear hb2 HL0 HP
  rcases hp with ⟨b, p, r, hcp, p0, p1, hr, rfl⟩ | ⟨hcp, rfl⟩
  · have HO2 : Hid (o = if allDig (wholeOf b ++ partOf b) = true then some (scaleQ (sgn neg (Tx.dv (wholeOf b ++ partOf b))) (p - (partOf b).length)) else none) := by
      show _ = _
      exact HO.out.2 b p hcp
    have hrs : r.size ≤ 200 := by
      have := cutPow_len hcp
      rw [← hr, Tx.length_list] at this
      omega
    have HD : Hid (∀ W, Calls Tryz.prog 71 #[.string r, .string ⟨#[46]⟩] W fun e w' => DotIs b e ∧ Below W.heap.size W w') := fun W => by
      have h := Tryz.dot r W (by omega)
      rw [hr] at h
      exact h
    have HBL : Hid (b.length ≤ 200) := by have := cutPow_len hcp; show _ ≤ _; omega
    clear hcp hr HO
    go_wp2_with fail
    with_reducible refine (HD.out _).mono ?_
    rintro e w3 ⟨⟨r1, r2, fnd, h1, h2, rfl⟩, hb3⟩
    have HL3 : Hid (Lies w w3 [] []) := HL2.out.after hb3
    obtain ⟨g, hg⟩ : ∃ g, r1 ++ r2 = g := ⟨_, rfl⟩
    have hgl : g.data.toList = wholeOf b ++ partOf b := by rw [← hg, join_list, h1, h2]
    have hbl : b.length ≤ 200 := HBL.out
    have h1s : r1.size ≤ 200 := by rw [← Tx.length_list, h1]; unfold wholeOf; rw [List.length_take]; omega
    have h2s : r2.size ≤ 200 := by rw [← Tx.length_list, h2]; unfold partOf; rw [List.length_drop]; omega
    have hgs : g.size ≤ 400 := by rw [← hg, ByteArray.size_append]; omega
    have h2l : (partOf b).length = r2.size := by rw [← h2, Tx.length_list]
    obtain ⟨dl, hdl⟩ : ∃ d, wholeOf b ++ partOf b = d := ⟨_, rfl⟩
    rw [hdl] at hgl
    rw [hdl, h2l] at HO2
    have HAD : Hid (∀ W, Calls Tryz.prog 103 #[.string g] W fun e w' => e = .returned (.bool (allDig dl)) ∧ w' = W) := fun W => by
      have h := Tryz.litAllDigits g W (by omega)
      rw [hgl] at h
      exact h
    clear hb3 HL2 HD h1 h2 hbl h2l hdl
    by_cases had : allDig dl = true
    · rw [had] at HAD
      rw [had, if_pos rfl] at HO2
      obtain ⟨d, hd⟩ : ∃ d, Tx.dv dl = d := ⟨_, rfl⟩
      obtain ⟨z, hz⟩ : ∃ z : Int, p - (r2.size : Int) = z := ⟨_, rfl⟩
      rw [hd, hz] at HO2
      have HNB : Hid (∀ W, Calls Tryz.prog 105 #[.string g] W fun e w' => (∃ v, e = .returned v ∧ FracIs w' v ((d : Int) : Rat) 120) ∧ Below W.heap.size W w') := fun W => by
        have h := Tryz.litNumber g W (by rw [hgl]; exact (allDig_iff.1 had).2) (by omega)
        rw [hgl, hd] at h
        exact h
      have z0 : -1000 ≤ z := by omega
      have z1 : z ≤ 1000 := by omega
      obtain ⟨Q, hQ⟩ : ∃ Q, scaleQ (d : Int) z = Q := ⟨_, rfl⟩
      have HSC : Hid (∀ W v, FracIs W v ((d : Int) : Rat) 120 → Calls Tryz.prog 104 #[v, .int .i64 z] W fun e w' => (∃ u, e = .returned u ∧ FracIs w' u Q 242) ∧ Below W.heap.size W w') := fun W v h => by
        have := Tryz.litScaled v d z W h z0 z1
        rw [hQ] at this
        exact this
      cases neg
      · have HY : Hid (o = some Q) := by
          show _ = _
          rw [HO2.out, ← hQ]; rfl
        clear had hd hgl HO2 hQ
        go_wp2_with fail
        with_reducible refine (HAD.out _).mono ?_
        rintro e w4 ⟨rfl, hw4⟩
        subst w4
        clear HAD
        go_wp2_with fail
        with_reducible refine (HNB.out _).mono ?_
        rintro e w4 ⟨⟨v, rfl, hv⟩, hb4⟩
        have HL4 : Hid (Lies w w4 [] [(v, ((d : Int) : Rat), 120)]) := (HL3.out.after hb4).addF hv
        clear hb4 hv HL3 HNB
        go_wp2_with fail
        with_reducible refine (HSC.out _ v (HL4.out.frac (v := v) (q := ((d : Int) : Rat)) (k := 120) (List.Mem.head _))).mono ?_
        rintro e w5 ⟨⟨u, rfl, hu⟩, hb5⟩
        have HL5 : Hid (Lies w w5 [] [(u, Q, 242), (v, ((d : Int) : Rat), 120)]) := (HL4.out.after hb5).addF hu
        clear hb5 hu HL4 HSC
        go_wp2
        go_ret2
        exact ⟨.inl ⟨Q, u, HY.out, rfl, (HL5.out.frac (v := u) (q := Q) (k := 242) (List.Mem.head _))⟩, HL5.out.below⟩
      · have HY : Hid (o = some (-Q)) := by
          show _ = _
          rw [HO2.out, ← hQ, scale_neg]; rfl
        clear had hd hgl HO2 hQ
        go_wp2_with fail
        with_reducible refine (HAD.out _).mono ?_
        rintro e w4 ⟨rfl, hw4⟩
        subst w4
        clear HAD
        go_wp2_with fail
        with_reducible refine (HNB.out _).mono ?_
        rintro e w4 ⟨⟨v, rfl, hv⟩, hb4⟩
        have HL4 : Hid (Lies w w4 [] [(v, ((d : Int) : Rat), 120)]) := (HL3.out.after hb4).addF hv
        clear hb4 hv HL3 HNB
        go_wp2_with fail
        with_reducible refine (HSC.out _ v (HL4.out.frac (v := v) (q := ((d : Int) : Rat)) (k := 120) (List.Mem.head _))).mono ?_
        rintro e w5 ⟨⟨u, rfl, hu⟩, hb5⟩
        have HL5 : Hid (Lies w w5 [] [(u, Q, 242), (v, ((d : Int) : Rat), 120)]) := (HL4.out.after hb5).addF hu
        clear hb5 hu HL4 HSC
        go_wp2_with fail
        with_reducible refine (Tryz.frNeg u Q 242 _ (HL5.out.frac (v := u) (q := Q) (k := 242) (List.Mem.head _)) (by omega)).mono ?_
        rintro e w6 ⟨⟨t, rfl, ht⟩, hb6⟩
        have HL6 : Hid (Lies w w6 [] [(t, -Q, 242), (u, Q, 242), (v, ((d : Int) : Rat), 120)]) := (HL5.out.after hb6).addF ht
        clear hb6 ht HL5 
        go_wp2
        go_ret2
        exact ⟨.inl ⟨-Q, t, HY.out, rfl, (HL6.out.frac (v := t) (q := -Q) (k := 242) (List.Mem.head _))⟩, HL6.out.below⟩
    · have hadf : allDig dl = false := by simpa using had
      rw [hadf] at HAD
      rw [hadf, if_neg (by decide)] at HO2
      clear had hadf hgl
      go_wp2_with fail
      with_reducible refine (HAD.out _).mono ?_
      rintro e w4 ⟨rfl, hw4⟩
      subst w4
      clear HAD
      go_wp2
      go_ret2
      exact ⟨.inr ⟨HO2.out, rfl⟩, HL3.out.below⟩
  · have HN : Hid (o = none) := by
      show _ = _
      exact HO.out.1 hcp
    clear hcp HO
    go_wp2
    go_ret2
    exact ⟨.inr ⟨HN.out, rfl⟩, HL2.out.below⟩
set_option maxHeartbeats 4000000 in
set_option maxRecDepth 100000 in
theorem Tryz.litGet (s : ByteArray) (w : World) (hs : s.size ≤ 4294967280) (hA : s.size ≤ 40 → AnyOk ⟨(litSign s.data.toList).2.toArray⟩) :
    Calls Tryz.prog 10 #[.string s] w fun e w' => DecIs (litQ s) w' e ∧ Below w.heap.size w w' := by
  by_cases hbig : 40 < s.size
  · have HN : Hid (litQ s = none) := by show _ = _; unfold litQ; rw [if_pos hbig]
    rw [HN.out]
    clear HN hA
    go_enter Tryz.func10, Tryz.ntmps10
    go_wp2
    go_ret2
    exact ⟨.inr ⟨rfl, rfl⟩, Below.refl _ _⟩
  · have hq : (∀ q, getQ s = some q → litQ s = some q) ∧ (getQ s = none → litQ s = decQ s.data.toList) := by
      constructor
      · intro q h; unfold litQ; rw [if_neg hbig, h]
      · intro h; unfold litQ; rw [if_neg hbig, h]
    have hA2 := hA (by omega)
    obtain ⟨o, ho⟩ : ∃ o, litQ s = o := ⟨_, rfl⟩
    rw [ho] at hq ⊢
    have HO := Lib.hid hq
    have HD := Lib.hid (fun W => Tryz.litDecimal s W (by omega) hA2)
    have HG := Lib.hid (fun W => Tryz.fracGet s W (by omega))
    clear hq ho hA hA2
    go_enter Tryz.func10, Tryz.ntmps10
    go_wp2_with fail
    with_reducible refine (HG.out _).mono ?_
    rintro e w1 ⟨hg, hb1⟩
    have HB := Lib.hid hb1
    clear hb1 HG
    rcases hg with ⟨q, v, hq, rfl, hv⟩ | ⟨hq, rfl⟩
    · have HY : Hid (o = some q) := by
        show _ = _
        exact HO.out.1 q hq
      have HV : Hid (FracIs w1 v q 242) := hv.more (by omega)
      clear hq hv HO HD
      go_wp2
      go_ret2
      exact ⟨.inl ⟨q, v, HY.out, rfl, HV.out⟩, HB.out⟩
    · have HY : Hid (o = decQ s.data.toList) := by
        show _ = _
        exact HO.out.2 hq
      rw [← HY.out] at HD
      clear hq HO HY
      go_wp2_with fail
      with_reducible refine (HD.out _).mono ?_
      rintro e w2 ⟨hd, hb2⟩
      have HB2 := Lib.hid (Below.after HB.out hb2)
      clear hb2 HB HD
      rcases hd with ⟨q, v, hq, rfl, hv⟩ | ⟨hq, rfl⟩
      · have HV : Hid (FracIs w2 v q 242) := hv
        have HQ : Hid (o = some q) := hq
        clear hq hv
        go_wp2
        go_ret2
        exact ⟨.inl ⟨q, v, HQ.out, rfl, HV.out⟩, HB2.out⟩
      · have HQ : Hid (o = none) := hq
        clear hq
        go_wp2
        go_ret2
        exact ⟨.inr ⟨HQ.out, rfl⟩, HB2.out⟩
end Go.Proofs.Fr
