/- What the helpers of the package lit return: signs, digits, powers of ten. -/
import Derived.Test.YtoiihhkafcglhaaGreatDoorLq
import Derived.Test.YtoiihhkafcglhaaGreatDoorFg
import Derived.Test.YtoiihhkafcglhaaGreatDoorFp
import Derived.Test.YtoiihhkafcglhaaGreatDoorShelf
import Derived.Test.YtoiihhkafcglhaaGreatDoorShelf2
namespace Go.Proofs.Fr
open Go.RowKit Go.Proofs.Wd
set_option linter.unusedVariables false
theorem prefixC (l : List UInt8) (c : UInt8) : Lib.hasPrefix l [c] = decide (l.head? = some c) := by
  unfold Lib.hasPrefix
  cases l with
  | nil => simp
  | cons a l =>
    by_cases h : c = a
    · subst h; simp [List.isPrefixOf]
    · have h2 : ¬ a = c := fun e => h e.symm
      simp [List.isPrefixOf, h, h2]
theorem trimC (l : List UInt8) (c : UInt8) : Lib.trimPrefix l [c] = if l.head? = some c then l.drop 1 else l := by
  unfold Lib.trimPrefix
  rw [prefixC]
  by_cases h : l.head? = some c <;> simp [h]
set_option maxHeartbeats 4000000 in
set_option maxRecDepth 100000 in
theorem Tryz.litCutSign (s : ByteArray) (w : World) :
    Calls Tryz.prog 101 #[.string s] w fun e w' => e = .returned (.tuple #[.bool (litSign s.data.toList).1, .string ⟨(litSign s.data.toList).2.toArray⟩]) ∧ w' = w := by
  have HC : Hid (∀ W, Calls Tryz.prog 70 #[.string s, .string ⟨#[45]⟩] W fun e w' => e = .returned (.tuple #[.string ⟨(if s.data.toList.head? = some 45 then s.data.toList.drop 1 else s.data.toList).toArray⟩, .bool (decide (s.data.toList.head? = some 45))]) ∧ w' = W) := fun W => by
    have h := Tryz.strings_CutPrefix s ⟨#[45]⟩ W
    rw [show (⟨#[45]⟩ : ByteArray).data.toList = [45] from rfl, trimC, prefixC] at h
    exact h
  have HT : Hid (∀ W, Calls Tryz.prog 142 #[.string s, .string ⟨#[43]⟩] W fun e w' => e = .returned (.string ⟨(if s.data.toList.head? = some 43 then s.data.toList.drop 1 else s.data.toList).toArray⟩) ∧ w' = W) := fun W => by
    have h := Tryz.strings_TrimPrefix s ⟨#[43]⟩ W
    rw [show (⟨#[43]⟩ : ByteArray).data.toList = [43] from rfl, trimC] at h
    exact h
  by_cases h1 : s.data.toList.head? = some 45
  · rw [if_pos h1, decide_eq_true h1] at HC
    obtain ⟨r, hr⟩ : ∃ r, s.data.toList.drop 1 = r := ⟨_, rfl⟩
    have HR : Hid (litSign s.data.toList = (true, r)) := by show _ = _; unfold litSign; rw [if_pos h1, hr]
    rw [hr] at HC
    rw [HR.out]
    clear h1 HR hr
    go_enter Tryz.func101, Tryz.ntmps101
    go_wp2_with fail
    with_reducible refine (HC.out _).mono ?_
    rintro e w1 ⟨rfl, rfl⟩
    go_wp2
    go_ret2
    exact ⟨rfl, rfl⟩
  · rw [if_neg h1, decide_eq_false h1] at HC
    obtain ⟨r, hr⟩ : ∃ r, (if s.data.toList.head? = some 43 then s.data.toList.drop 1 else s.data.toList) = r := ⟨_, rfl⟩
    have HR : Hid (litSign s.data.toList = (false, r)) := by
      show _ = _
      rw [← hr]
      unfold litSign
      rw [if_neg h1]
      split <;> rfl
    rw [hr] at HT
    rw [HR.out]
    clear h1 HR hr
    go_enter Tryz.func101, Tryz.ntmps101
    go_wp2_with fail
    with_reducible refine (HC.out _).mono ?_
    rintro e w1 ⟨rfl, rfl⟩
    go_wp2_with fail
    with_reducible refine (HT.out _).mono ?_
    rintro e w2 ⟨rfl, rfl⟩
    go_wp2
    go_ret2
    exact ⟨rfl, rfl⟩
theorem allDig_stop {s : ByteArray} {k : Nat} (h : k < s.size) (hb : (s[k].toNat : Int) < 48 ∨ 57 < (s[k].toNat : Int)) : allDig s.data.toList = false := by
  have hm : s[k] ∈ s.data.toList := by
    have h2 : s.data.toList[k]? = some s[k] := Lib.data_getElem? s k h
    exact List.mem_of_getElem? h2
  cases ha : allDig s.data.toList with
  | false => rfl
  | true =>
    have := (allDig_iff.1 ha).2 _ hm
    unfold Tx.isDig at this
    omega
theorem allDig_end {s : ByteArray} (h : ∀ k (h : k < s.size), 48 ≤ (s[k].toNat : Int) ∧ (s[k].toNat : Int) ≤ 57) : allDig s.data.toList = !s.toList.isEmpty := by
  rw [Bool.eq_iff_iff, allDig_iff]
  rw [Lib.toList_data]
  constructor
  · rintro ⟨h1, -⟩
    cases hs : s.data.toList with
    | nil => exact absurd hs h1
    | cons a l => rfl
  · intro h1
    refine ⟨fun e => by rw [e] at h1; simp at h1, fun c hc => ?_⟩
    obtain ⟨k, hk⟩ := List.mem_iff_getElem?.1 hc
    have hk2 : k < s.size := by rw [Lib.size_eq]; exact (List.getElem?_eq_some_iff.1 hk).1
    rw [Lib.data_getElem? s k hk2] at hk
    have := h k hk2
    simp at hk
    unfold Tx.isDig
    rw [← hk]
    omega
set_option maxHeartbeats 4000000 in
set_option maxRecDepth 100000 in
theorem Tryz.litAllDigits (s : ByteArray) (w : World) (hmax : s.size ≤ 9223372036854775807) :
    Calls Tryz.prog 103 #[.string s] w fun e w' => e = .returned (.bool (allDig s.data.toList)) ∧ w' = w := by
  have HE := Lib.hid (@allDig_end s)
  obtain ⟨n, hn⟩ : ∃ n, s.size = n := ⟨_, rfl⟩
  obtain ⟨ad, had⟩ : ∃ b, allDig s.data.toList = b := ⟨_, rfl⟩
  rw [had]
  have HAD := Lib.hid had
  clear had
  go_enter Tryz.func103, Tryz.ntmps103
  go_wp2
  go_loop [3, 6] (fun _ i => ∃ k : Nat, i = .int .i64 k ∧ k ≤ n ∧ ∀ j (h : j < s.size), j < k → 48 ≤ (s[j].toNat : Int) ∧ (s[j].toNat : Int) ≤ 57) (fun _ i => n - (intOf i).toNat)
  case atStart => exact ⟨0, rfl, by omega, fun j _ h => by omega⟩
  case round =>
    obtain ⟨k, rfl, hk, ha⟩ := hrel
    have HA := Lib.hid ha
    by_cases hkn : k = n
    · obtain rfl : ad = !s.toList.isEmpty := by rw [← HAD.out]; exact HE.out (fun j h => ha j h (by omega))
      clear ha HE HA HAD
      subst hkn
      go_wp2
      go_ret
      exact ⟨rfl, rfl⟩
    · have hks : k < s.size := by omega
      clear ha
      by_cases h1 : (s[k].toNat : Int) < 48
      · obtain rfl : ad = false := by rw [← HAD.out]; exact allDig_stop hks (.inl h1)
        clear HA HE HAD
        go_wp2
        go_ret
        exact ⟨rfl, rfl⟩
      · by_cases h2 : 57 < (s[k].toNat : Int)
        · obtain rfl : ad = false := by rw [← HAD.out]; exact allDig_stop hks (.inr h2)
          clear HA HE HAD
          go_wp2
          go_ret
          exact ⟨rfl, rfl⟩
        · have HA2 : Hid (∀ j (h : j < s.size), j < k + 1 → 48 ≤ (s[j].toNat : Int) ∧ (s[j].toNat : Int) ≤ 57) := fun j h hj => by
            by_cases e : j = k
            · subst e; omega
            · exact HA.out j h (by omega)
          clear HA
          go_wp2
          exact ⟨⟨k + 1, by simp, by omega, HA2.out⟩, by simp [intOf]; omega⟩
set_option maxHeartbeats 4000000 in
set_option maxRecDepth 100000 in
theorem Tryz.litTenTo (p : Nat) (w : World) (hp : p ≤ 1000) :
    Calls Tryz.prog 146 #[.int .i64 p] w fun e w' => (∃ v, e = .returned v ∧ FracIs w' v (((10 ^ p : Nat) : Int) : Rat) 120) ∧ Below w.heap.size w w' := by
  have HR : Hid (∀ W, Calls Tryz.prog 92 #[.string ⟨#[48]⟩, .int .i64 p] W fun e w' => e = .returned (.string ⟨(Lib.repeatL [48] p).toArray⟩) ∧ Below W.heap.size W w') := fun W => Tryz.strings_Repeat ⟨#[48]⟩ p W (by omega) (by show 1 * p ≤ _; omega)
  obtain ⟨t, ht⟩ : ∃ t : ByteArray, (⟨(Lib.repeatL [48] p).toArray⟩ : ByteArray) = t := ⟨_, rfl⟩
  have HG : Hid (∀ W, Calls Tryz.prog 24 #[.string (⟨#[49]⟩ ++ t)] W fun e w' => (∃ v, e = .returned (.tuple #[v, .bool true]) ∧ FracIs w' v (((10 ^ p : Nat) : Int) : Rat) 120) ∧ Below W.heap.size W w') := fun W => by
    have e1 : (⟨#[49]⟩ ++ t : ByteArray) = ⟨(49 :: Lib.repeatL [48] p).toArray⟩ := by
      rw [← ht]; apply ByteArray.ext; simp
    have hg := getQ_numeral (numeral_ten p) (by rw [List.length_cons, Lib.repeatL_length]; simp; omega)
    rw [dv_ten] at hg
    rw [e1]
    refine (Tryz.fracGet _ W (by show (49 :: Lib.repeatL [48] p).toArray.size ≤ _; rw [List.size_toArray, List.length_cons, Lib.repeatL_length]; simp; omega)).mono ?_
    rintro e w' ⟨⟨q, v, hq, rfl, hv⟩ | ⟨hq, -⟩, hb⟩
    · rw [hg] at hq
      obtain rfl := Option.some.inj hq
      exact ⟨⟨v, rfl, hv⟩, hb⟩
    · rw [hg] at hq; simp at hq
  have hts : t.size ≤ 1000 := by
    rw [← ht]
    show (Lib.repeatL [48] p).toArray.size ≤ 1000
    rw [List.size_toArray, Lib.repeatL_length]; simp; omega
  rw [ht] at HR
  clear ht
  go_enter Tryz.func146, Tryz.ntmps146
  have HL0 : Hid (Lies w w [] []) := Lies.start w
  go_wp2_with fail
  with_reducible refine (HR.out _).mono ?_
  rintro e w1 ⟨rfl, hb1⟩
  have HL1 : Hid (Lies w w1 [] []) := HL0.out.after hb1
  clear hb1  HL0 HR
  go_wp2_with fail
  with_reducible refine (HG.out _).mono ?_
  rintro e w2 ⟨⟨v, rfl, hv⟩, hb2⟩
  have HL2 : Hid (Lies w w2 [] [(v, (((10 ^ p : Nat) : Int) : Rat), 120)]) := (HL1.out.after hb2).addF hv
  clear hb2 hv HL1 HG
  go_wp2
  go_ret
  exact ⟨⟨v, rfl, (HL2.out.frac (v := v) (q := (((10 ^ p : Nat) : Int) : Rat)) (k := 120) (List.Mem.head _))⟩, HL2.out.below⟩
set_option maxHeartbeats 4000000 in
set_option maxRecDepth 100000 in
theorem Tryz.litNumber (s : ByteArray) (w : World) (hd : ∀ c ∈ s.data.toList, Tx.isDig c) (hs : s.size ≤ 1000) :
    Calls Tryz.prog 105 #[.string s] w fun e w' => (∃ v, e = .returned v ∧ FracIs w' v ((Tx.dv s.data.toList : Int) : Rat) 120) ∧ Below w.heap.size w w' := by
  obtain ⟨l, hl⟩ : ∃ l, s.data.toList.dropWhile (· == 48) = l := ⟨_, rfl⟩
  have HT : Hid (∀ W, Calls Tryz.prog 148 #[.string s, .string ⟨#[48]⟩] W fun e w' => e = .returned (.string ⟨l.toArray⟩) ∧ w' = W) := fun W => by
    have h := Tryz.strings_TrimLeft_one s 48 (by decide) W
    unfold Lib.trimLeftB at h
    rw [hl] at h
    exact h
  have hdv : Tx.dv l = Tx.dv s.data.toList := by rw [← hl]; exact dv_noughts _
  have hle : l.length ≤ 1000 := by
    have h1 : l.length ≤ s.data.toList.length := by rw [← hl]; exact (List.dropWhile_sublist _).length_le
    rw [Lib.size_eq] at hs
    omega
  have HL0 : Hid (Lies w w [] []) := Lies.start w
  by_cases h0 : l = []
  · subst h0
    have HO : Hid (∀ W, Calls Tryz.prog 28 #[.int .i64 0] W fun e w' => (∃ v, e = .returned v ∧ FracIs w' v ((Tx.dv s.data.toList : Int) : Rat) 120) ∧ Below W.heap.size W w') := fun W => by
      refine (Tryz.Of 0 W (by omega) (by omega)).mono ?_
      rintro e w' ⟨⟨u, rfl, hu⟩, hb⟩
      exact ⟨⟨u, rfl, frac_at hu (by rw [← hdv]; rfl) (by omega)⟩, hb⟩
    clear hl hdv hle hd
    go_enter Tryz.func105, Tryz.ntmps105
    go_wp2_with fail
    with_reducible refine (HT.out _).mono ?_
    rintro e w1 ⟨rfl, hw1⟩
    subst w1
    clear HT
    go_wp2_with fail
    with_reducible refine (HO.out _).mono ?_
    rintro e w1 ⟨⟨v, rfl, hv⟩, hb1⟩
    have HL1 : Hid (Lies w w1 [] [(v, ((Tx.dv s.data.toList : Int) : Rat), 120)]) := (HL0.out.after hb1).addF hv
    clear hb1 hv HL0 HO
    go_wp2
    go_ret
    exact ⟨⟨v, rfl, (HL1.out.frac (v := v) (q := ((Tx.dv s.data.toList : Int) : Rat)) (k := 120) (List.Mem.head _))⟩, HL1.out.below⟩
  · have HG : Hid (∀ W, Calls Tryz.prog 24 #[.string ⟨l.toArray⟩] W fun e w' => (∃ v, e = .returned (.tuple #[v, .bool true]) ∧ FracIs w' v ((Tx.dv s.data.toList : Int) : Rat) 120) ∧ Below W.heap.size W w') := fun W => by
      have hnum : Tx.Numeral l := by rw [← hl]; exact numeral_noughts hd (by rw [hl]; exact h0)
      have hg := getQ_numeral hnum (by omega)
      rw [hdv] at hg
      refine (Tryz.fracGet _ W (by show l.toArray.size ≤ _; rw [List.size_toArray]; omega)).mono ?_
      rintro e w' ⟨⟨q, v, hq, rfl, hv⟩ | ⟨hq, -⟩, hb⟩
      · rw [hg] at hq
        obtain rfl := Option.some.inj hq
        exact ⟨⟨v, rfl, hv⟩, hb⟩
      · rw [hg] at hq; simp at hq
    have hemp : l.isEmpty = false := by
      cases l with
      | nil => exact absurd rfl h0
      | cons a l => rfl
    clear hl hdv hle hd h0
    go_enter Tryz.func105, Tryz.ntmps105
    go_wp2_with fail
    with_reducible refine (HT.out _).mono ?_
    rintro e w1 ⟨rfl, hw1⟩
    subst w1
    clear HT
    go_wp2_with fail
    with_reducible refine (HG.out _).mono ?_
    rintro e w1 ⟨⟨v, rfl, hv⟩, hb1⟩
    have HL1 : Hid (Lies w w1 [] [(v, ((Tx.dv s.data.toList : Int) : Rat), 120)]) := (HL0.out.after hb1).addF hv
    clear hb1 hv HL0 HG
    go_wp2
    go_ret
    exact ⟨⟨v, rfl, (HL1.out.frac (v := v) (q := ((Tx.dv s.data.toList : Int) : Rat)) (k := 120) (List.Mem.head _))⟩, HL1.out.below⟩
set_option maxHeartbeats 4000000 in
set_option maxRecDepth 100000 in
theorem Tryz.litScaled (v : Value) (m z : Int) (w : World) (h : FracIs w v (m : Rat) 120) (z0 : -1000 ≤ z) (z1 : z ≤ 1000) :
    Calls Tryz.prog 104 #[v, .int .i64 z] w fun e w' => (∃ u, e = .returned u ∧ FracIs w' u (scaleQ m z) 242) ∧ Below w.heap.size w w' := by
  have HL0 : Hid (Lies w w [] [(v, (m : Rat), 120)]) := (Lies.start w).addF h
  by_cases hz : z < 0
  · obtain ⟨p, hp⟩ : ∃ p : Nat, -z = p := ⟨(-z).toNat, by omega⟩
    have hzp : z = -(p : Int) := by omega
    have hpn : (-z).toNat = p := by omega
    have HS : Hid ((m : Rat) / (((10 ^ p : Nat) : Int) : Rat) = scaleQ m z) := by
      show _ = _
      rw [← hpn]; exact scale_down m hz
    have HD : Hid (∀ W t, FracIs W v (m : Rat) 120 → FracIs W t (((10 ^ p : Nat) : Int) : Rat) 120 → Calls Tryz.prog 145 #[v, t] W fun e w' => (∃ r, e = .returned (.tuple #[r, .bool true]) ∧ FracIs w' r (scaleQ m z) 242) ∧ Below W.heap.size W w') := fun W t h1 h2 => by
      have h := Tryz.frDiv v t (m : Rat) _ 120 W h1 h2 (by omega) (by omega) (ten_pos p)
      rw [HS.out] at h
      exact h
    rw [← HS.out] at HD ⊢
    obtain ⟨q, hq⟩ : ∃ q : Rat, (m : Rat) / (((10 ^ p : Nat) : Int) : Rat) = q := ⟨_, rfl⟩
    rw [hq] at HD ⊢
    subst hzp
    have hneg : -(-(p : Int)) = (p : Int) := by omega
    clear hq HS h hp hpn
    go_enter Tryz.func104, Tryz.ntmps104
    go_wp2_with fail
    with_reducible refine (Tryz.litTenTo p _ (by omega)).mono ?_
    rintro e w1 ⟨⟨t, rfl, ht⟩, hb1⟩
    have HL1 : Hid (Lies w w1 [] [(t, (((10 ^ p : Nat) : Int) : Rat), 120), (v, (m : Rat), 120)]) := (HL0.out.after hb1).addF ht
    clear hb1 ht HL0 
    go_wp2_with fail
    with_reducible refine (HD.out _ t (HL1.out.frac (v := v) (q := (m : Rat)) (k := 120) (List.Mem.tail _ (List.Mem.head _))) (HL1.out.frac (v := t) (q := (((10 ^ p : Nat) : Int) : Rat)) (k := 120) (List.Mem.head _))).mono ?_
    rintro e w2 ⟨⟨r, rfl, hr⟩, hb2⟩
    have HL2 : Hid (Lies w w2 [] [(r, q, 242), (t, (((10 ^ p : Nat) : Int) : Rat), 120), (v, (m : Rat), 120)]) := (HL1.out.after hb2).addF hr
    clear hb2 hr HL1 HD
    go_wp2
    go_ret
    exact ⟨⟨r, rfl, (HL2.out.frac (v := r) (q := q) (k := 242) (List.Mem.head _))⟩, HL2.out.below⟩
  · obtain ⟨p, rfl⟩ : ∃ p : Nat, z = p := ⟨z.toNat, by omega⟩
    have HS : Hid ((m : Rat) * (((10 ^ p : Nat) : Int) : Rat) = scaleQ m p) := by
      show _ = _
      exact scale_up m hz
    have HD : Hid (∀ W t, FracIs W v (m : Rat) 120 → FracIs W t (((10 ^ p : Nat) : Int) : Rat) 120 → Calls Tryz.prog 147 #[v, t] W fun e w' => (∃ r, e = .returned r ∧ FracIs w' r (scaleQ m p) 242) ∧ Below W.heap.size W w') := fun W t h1 h2 => by
      have h := Tryz.frMulF v t (m : Rat) _ 120 W h1 h2 (by omega) (by omega)
      rw [HS.out] at h
      exact h
    obtain ⟨q, hq⟩ : ∃ q : Rat, scaleQ m p = q := ⟨_, rfl⟩
    rw [hq] at HD ⊢
    clear hq HS h
    go_enter Tryz.func104, Tryz.ntmps104
    go_wp2_with fail
    with_reducible refine (Tryz.litTenTo p _ (by omega)).mono ?_
    rintro e w1 ⟨⟨t, rfl, ht⟩, hb1⟩
    have HL1 : Hid (Lies w w1 [] [(t, (((10 ^ p : Nat) : Int) : Rat), 120), (v, (m : Rat), 120)]) := (HL0.out.after hb1).addF ht
    clear hb1 ht HL0 
    go_wp2_with fail
    with_reducible refine (HD.out _ t (HL1.out.frac (v := v) (q := (m : Rat)) (k := 120) (List.Mem.tail _ (List.Mem.head _))) (HL1.out.frac (v := t) (q := (((10 ^ p : Nat) : Int) : Rat)) (k := 120) (List.Mem.head _))).mono ?_
    rintro e w2 ⟨⟨r, rfl, hr⟩, hb2⟩
    have HL2 : Hid (Lies w w2 [] [(r, q, 242), (t, (((10 ^ p : Nat) : Int) : Rat), 120), (v, (m : Rat), 120)]) := (HL1.out.after hb2).addF hr
    clear hb2 hr HL1 HD
    go_wp2
    go_ret
    exact ⟨⟨r, rfl, (HL2.out.frac (v := r) (q := q) (k := 242) (List.Mem.head _))⟩, HL2.out.below⟩
end Go.Proofs.Fr
