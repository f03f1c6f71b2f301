/- NatDiv: quotients of numbers of high words, where a first guess is too great: the call returns true. -/
import Derived.Test.YtgcnpjnanlbmpaaGreatDoorNd
import Derived.Test.YtgcnpjnanlbmpaaGreatDoorTw
import Derived.Test.YtgcnpjnanlbmpaaGreatDoorSm
import Derived.Test.YtgcnpjnanlbmpaaGreatDoorLs
import Derived.Test.YtgcnpjnanlbmpaaGreatDoorRtw
import Derived.Test.YtgcnpjnanlbmpaaGreatDoorRs
import Derived.Test.YtgcnpjnanlbmpaaGreatDoorGm
namespace Go.Proofs.Wd
open Go.RowKit
set_option linter.unusedVariables false
/-- The text of a number that is not too long. -/
theorem plain_dec {z n : Nat} (hn : n ≤ 2000) (h1 : 1 ≤ n) (h : z < 2 ^ n) : Tx.plainB ⟨(Lib.decDigits z).toArray⟩ = true ∧ Tx.num ⟨(Lib.decDigits z).toArray⟩ = z := by
  have h2 : z < 10 ^ n := Nat.lt_of_lt_of_le h (Nat.pow_le_pow_left (by omega) n)
  refine ⟨Tx.plainB_true.2 ⟨by simpa using Tx.numeral_dec z, ?_⟩, by unfold Tx.num; simpa using Tx.dv_dec z⟩
  rw [← Tx.length_list]
  show (Lib.decDigits z).length ≤ 2000
  rw [Lib.decDigits_length]
  exact Nat.le_trans (Tx.nDigits_le n z h1 h2) hn
theorem pow_two_add {a b : Nat} {x : Int} (h0 : 0 ≤ x) (h : x < 2 ^ a) (c : Int) (hc : c = 2 ^ b) : x * c < 2 ^ (a + b) := by
  rw [hc, Int.pow_add]
  exact Int.mul_lt_mul_of_pos_right h (Int.pow_pos (by omega))
theorem far_pos {z k : Int} (h0 : 0 ≤ k) (h1 : k ≤ 100000) : far z k = z * 2 ^ k.toNat := by unfold far; rw [if_neg (by omega), if_neg (by omega)]
/-- A word more at the lower end. -/
theorem more_word {z y : Int} {n : Nat} (h0 : 1 ≤ z) (h : z < 2 ^ (64 * n)) (y0 : 0 ≤ y) (y1 : y ≤ 18446744073709551615) : 1 ≤ far z 64 + y ∧ far z 64 + y < 2 ^ (64 * (n + 1)) := by
  rw [far_pos (by omega) (by omega), show (2 : Int) ^ (64 : Int).toNat = 18446744073709551616 from rfl, show 64 * (n + 1) = 64 * n + 64 by omega, Int.pow_add, show (2 : Int) ^ 64 = 18446744073709551616 from rfl]
  generalize (2 : Int) ^ (64 * n) = P at *
  omega
theorem two_mono {a b : Nat} (h : a ≤ b) : (2 : Int) ^ a ≤ 2 ^ b := by
  rw [show b = a + (b - a) by omega, Int.pow_add]
  have h1 : (0 : Int) < 2 ^ a := Int.pow_pos (by omega)
  have h2 : (0 : Int) < 2 ^ (b - a) := Int.pow_pos (by omega)
  have h3 : (2 : Int) ^ a * 1 ≤ 2 ^ a * 2 ^ (b - a) := Int.mul_le_mul_of_nonneg_left (by omega) (by omega)
  omega
theorem more_words {Z A : Int} {j J N : Nat} (hN : N = 576) (h0 : 1 ≤ Z) (h : Z < 2 ^ (64 * (j + 1))) (hj : j ≤ 4) (hJ : J ≤ 3) (hA : far Z (64 * ((J : Int) + 1)) = A) : 0 ≤ A ∧ A < 2 ^ N := by
  rw [far_pos (by omega) (by omega), show (64 * ((J : Int) + 1)).toNat = 64 * (J + 1) by omega] at hA
  subst hA
  have hp : (0 : Int) < 2 ^ (64 * (J + 1)) := Int.pow_pos (by omega)
  refine ⟨Int.mul_nonneg (by omega) (by omega), ?_⟩
  have h2 : Z * 2 ^ (64 * (J + 1)) < 2 ^ (64 * (j + 1)) * 2 ^ (64 * (J + 1)) := Int.mul_lt_mul_of_pos_right h hp
  rw [← Int.pow_add] at h2
  exact Int.lt_of_lt_of_le h2 (two_mono (by omega))
theorem nat_lt {z : Int} {n : Nat} (h0 : 0 ≤ z) (h : z < 2 ^ n) : z.toNat < 2 ^ n := by
  have e : ((z.toNat : Nat) : Int) < ((2 ^ n : Nat) : Int) := by rw [Int.toNat_of_nonneg h0, Int.natCast_pow]; exact h
  exact Int.ofNat_lt.1 e
theorem refBelow {w w' : World} {v : Value} {z : Int} {n : Nat} (h : NumIs w v z n) (hb : Below w.heap.size w w') : NumIs w' v z n := by
  obtain ⟨xs, h1, h2⟩ := h
  exact ⟨xs, Go.Proofs.Digs.below h1 hb (Nat.le_refl _), h2⟩
/-- What is kept while the quotient is held against the reference's. -/
structure DivS (w0 w : World) (q r : Value) (Q R : Int) : Prop where
  q : Num w q Q 8011
  r : Num w r R 8011
  below : Below w0.heap.size w0 w
  tab : TabOk w
theorem DivS.after {w0 w w' : World} {q r : Value} {Q R : Int} (h : DivS w0 w q r Q R) (hb : Below w.heap.size w w') : DivS w0 w' q r Q R :=
  ⟨h.q.below hb (Nat.le_refl _), h.r.below hb (Nat.le_refl _), Below.after h.below hb, h.tab.after hb⟩
set_option maxHeartbeats 8000000 in
set_option maxRecDepth 100000 in
theorem divWalk (x y k j : Int) (w : World) (x0 : 0 ≤ x) (x1 : x ≤ 18446744073709551615) (y0 : 0 ≤ y) (y1 : y ≤ 18446744073709551615) (hT : TabOk w)
    (hB : Calls Tryz.prog 10 #[] w fun e w' => e = .returned (.bool true) ∧ Below w.heap.size w w') :
    Calls Tryz.prog 5 #[.int .u64 x, .int .u64 y, .int .i64 k, .int .i64 j] w fun e w' => e = .returned (.bool true) ∧ Below w.heap.size w w' := by
  obtain ⟨r, hr⟩ : ∃ r, k.tmod 4 = r := ⟨_, rfl⟩
  have hrb : -4 < r ∧ r < 4 := by rw [← hr]; exact ⟨Int.lt_tmod_of_pos _ (by omega), Int.tmod_lt_of_pos _ (by omega)⟩
  obtain ⟨r0, r1⟩ := hrb
  obtain ⟨r', hr'⟩ : ∃ r', j.tmod 4 = r' := ⟨_, rfl⟩
  have hrb' : -4 < r' ∧ r' < 4 := by rw [← hr']; exact ⟨Int.lt_tmod_of_pos _ (by omega), Int.tmod_lt_of_pos _ (by omega)⟩
  obtain ⟨r0', r1'⟩ := hrb'
  obtain ⟨K, hK⟩ : ∃ K : Nat, 1 + r % 4 = K := ⟨(1 + r % 4).toNat, by omega⟩
  obtain ⟨J, hJ⟩ : ∃ J : Nat, (r' + 4) % 4 = J := ⟨((r' + 4) % 4).toNat, by omega⟩
  have hKb : 1 ≤ K ∧ K ≤ 4 := by omega
  obtain ⟨K0, K1⟩ := hKb
  have J1 : J ≤ 3 := by omega
  have HT : Hid (TabOk w) := hT
  obtain ⟨N, hN⟩ : ∃ N : Nat, N = 576 := ⟨_, rfl⟩
  clear hT
  go_enter Tryz.func5, Tryz.ntmps5
  go_wp2_with (go_at_call 10; (with_reducible refine hB.mono ?_); rintro e w1 ⟨rfl, hb1⟩)
  have HB1 : Hid (Below w.heap.size w w1) := hb1
  clear hb1 hB
  with_reducible refine (Tryz.natOf (9223372036854775808 + x / 2) _ (by omega) (by omega)).mono ?_
  rintro e w2 ⟨⟨b, rfl, hb⟩, hb2⟩
  have HB2 : Hid (Below w.heap.size w w2) := Below.after HB1.out hb2
  have HBN : Hid (Num w2 b (9223372036854775808 + x / 2) 1) := hb
  clear hb hb2 HB1
  rw [hJ]
  go_wp2
  go_loopw [10, 11] (fun b i wr => ∃ (j : Nat) (Z : Int), i = .int .i64 j ∧ j ≤ K ∧ Num wr b Z (1 + 1601 * j) ∧ 1 ≤ Z ∧ Z < 2 ^ (64 * (j + 1)) ∧ Below w.heap.size w wr) (fun _ i _ => K - (intOf i).toNat)
  case atStart => exact ⟨0, _, rfl, by omega, HBN.out, by omega, by show _ < (2 : Int) ^ 64; omega, HB2.out⟩
  case round =>
    obtain ⟨j, Z, rfl, hj, hn, z1, zl, hbb⟩ := hrel
    have HN : Hid (Num wr u10 Z (1 + 1601 * j)) := hn
    have HB : Hid (Below w.heap.size w wr) := hbb
    have HZL : Hid (Z < 2 ^ (64 * (j + 1))) := zl
    clear hn hbb zl
    by_cases hjk : j = K
    · subst hjk
      go_wp2_with fail
      with_reducible refine (Tryz.Shl u10 Z (64 * ((J : Int) + 1)) _ _ HN.out (by omega) (by omega) (by omega)).mono ?_
      rintro e w3 ⟨⟨a, rfl, ha⟩, hb3⟩
      obtain ⟨A, hA⟩ : ∃ A, far Z (64 * ((J : Int) + 1)) = A := ⟨_, rfl⟩
      rw [hA] at ha
      have HA3 : Hid (Num w3 a A 8010) := ha.fewer (by omega)
      have HZ3 : Hid (Num w3 u10 Z 8010) := (HN.out.below hb3 (Nat.le_refl _)).fewer (by omega)
      have HB3 : Hid (Below w.heap.size w w3) := Below.after HB.out hb3
      have hAb := more_words (J := J) hN z1 HZL.out (by omega) (by omega) hA
      obtain ⟨A0, A1⟩ := hAb
      have HA1 : Hid (A < 2 ^ N) := A1
      have HZ1 : Hid (Z < 2 ^ N) := Int.lt_of_lt_of_le HZL.out (two_mono (by omega))
      clear ha hb3 HN HB HZL A1 hA
      obtain ⟨c, hc⟩ : ∃ c, IntKind.u64.wrap (1 + x) = c := ⟨_, rfl⟩
      have hcb : 0 ≤ c ∧ c ≤ 18446744073709551615 := by rw [u64w] at hc; omega
      obtain ⟨c0, c1⟩ := hcb
      go_wp2_with fail
      with_reducible refine (Tryz.natOf c _ c0 c1).mono ?_
      rintro e w4 ⟨⟨d, rfl, hd⟩, hb4⟩
      have HD4 : Hid (Num w4 d c 1) := hd
      have HA4 : Hid (Num w4 a A 8010) := HA3.out.below hb4 (Nat.le_refl _)
      have HZ4 : Hid (Num w4 u10 Z 8010) := HZ3.out.below hb4 (Nat.le_refl _)
      have HB4 : Hid (Below w.heap.size w w4) := Below.after HB3.out hb4
      clear hd hb4 HA3 HZ3 HB3
      go_wp2_with fail
      with_reducible refine (Tryz.natLess a d A c 8010 1 _ HA4.out HD4.out (by omega)).mono ?_
      rintro e w5 ⟨hl, hb5⟩
      have HA5 : Hid (Num w5 a A 8010) := HA4.out.below hb5 (Nat.le_refl _)
      have HZ5 : Hid (Num w5 u10 Z 8010) := HZ4.out.below hb5 (Nat.le_refl _)
      have HB5 : Hid (Below w.heap.size w w5) := Below.after HB4.out hb5
      have HT5 : Hid (TabOk w5) := HT.out.after HB5.out
      clear hb5 HA4 HZ4 HB4 HD4
      rcases hl with ⟨hle, v, rfl, hv⟩ | ⟨hlt, rfl⟩
      · have HV5 : Hid (Num w5 v (A - c) 8010) := hv
        have HV1 : Hid (A - c < 2 ^ N) := Int.lt_of_le_of_lt (by omega) HA1.out
        have hV0 : 0 ≤ A - c := by omega
        generalize A - c = D at *
        clear hv HA5 HA1 hle A0
        have HS5 : Hid (DivS w w5 u10 u10 Z Z) := ⟨HZ5.out.fewer (by omega), HZ5.out.fewer (by omega), HB5.out, HT5.out⟩
        clear HB5 HT5
        go_wp2_with fail
        with_reducible refine (Tryz.natDiv v u10 D Z 8010 8010 _ HV5.out HZ5.out (by omega) z1).mono ?_
        rintro e w6 ⟨⟨q, r6, rfl, hq, hr6⟩, hb6⟩
        have HS6 : Hid (DivS w w6 q r6 (D / Z) (D % Z)) := ⟨hq, hr6, (HS5.out.after hb6).below, (HS5.out.after hb6).tab⟩
        have HV6 : Hid (Num w6 v D 8010) := HV5.out.below hb6 (Nat.le_refl _)
        have HZ6 : Hid (Num w6 u10 Z 8010) := HZ5.out.below hb6 (Nat.le_refl _)
        clear hq hr6 hb6 HS5 HV5 HZ5
        obtain ⟨t1, ht1⟩ : ∃ t1 : ByteArray, (⟨(Lib.decDigits (D).toNat).toArray⟩ : ByteArray) = t1 := ⟨_, rfl⟩
        obtain ⟨t2, ht2⟩ : ∃ t2 : ByteArray, (⟨(Lib.decDigits Z.toNat).toArray⟩ : ByteArray) = t2 := ⟨_, rfl⟩
        have hp1 := plain_dec (z := (D).toNat) (n := N) (by omega) (by omega) (nat_lt hV0 HV1.out)
        have hp2 := plain_dec (z := Z.toNat) (n := N) (by omega) (by omega) (nat_lt (by omega) HZ1.out)
        rw [ht1] at hp1
        rw [ht2] at hp2
        have hs1 := (Tx.plainB_digs hp1.1).2.1
        have hs2 := (Tx.plainB_digs hp2.1).2.1
        have HP1 : Hid (Tx.plainB t1 = true ∧ (Tx.num t1 : Int) = D) := ⟨hp1.1, by rw [hp1.2]; omega⟩
        have HP2 : Hid (Tx.plainB t2 = true ∧ (Tx.num t2 : Int) = Z) := ⟨hp2.1, by rw [hp2.2]; omega⟩
        have HX1 : Hid (Calls Tryz.prog 14 #[v] w6 fun e w' => e = .returned (.string t1) ∧ Below w6.heap.size w6 w') := by
          have h := Tryz.textX v D 8010 w6 HV6.out (by omega) HS6.out.tab
          rw [ht1] at h
          exact h
        have HX2 : Hid (∀ W, Num W u10 Z 8010 → TabOk W → Calls Tryz.prog 14 #[u10] W fun e w' => e = .returned (.string t2) ∧ Below W.heap.size W w') := fun W hW hT => by
          have h := Tryz.textX u10 Z 8010 W hW (by omega) hT
          rw [ht2] at h
          exact h
        clear hp1 hp2 ht1 ht2 HV6 HV1 HZ1
        go_wp2_with fail
        with_reducible refine HX1.out.mono ?_
        rintro e w7 ⟨rfl, hb7⟩
        have HS7 : Hid (DivS w w7 q r6 (D / Z) (D % Z)) := HS6.out.after hb7
        have HZ7 : Hid (Num w7 u10 Z 8010) := HZ6.out.below hb7 (Nat.le_refl _)
        clear hb7 HS6 HZ6 HX1
        go_wp2_with fail
        with_reducible refine (Go.Proofs.Tryz.getNX t1 _ (by omega)).mono ?_
        rintro e w8 ⟨hg8, hb8⟩
        obtain ⟨-, v8, rfl, hv8⟩ := hg8.resolve_right (fun h => by rw [HP1.out.1] at h; exact absurd h.1 (by simp))
        have HM8 : Hid (NumIs w8 v8 D t1.size) := by
          show NumIs _ _ _ _
          rw [← HP1.out.2]; exact hv8
        have HS8 : Hid (DivS w w8 q r6 (D / Z) (D % Z)) := HS7.out.after hb8
        have HZ8 : Hid (Num w8 u10 Z 8010) := HZ7.out.below hb8 (Nat.le_refl _)
        clear hg8 hv8 hb8 HS7 HZ7
        go_wp2_with fail
        with_reducible refine (HX2.out _ HZ8.out HS8.out.tab).mono ?_
        rintro e w9 ⟨rfl, hb9⟩
        have HM9 : Hid (NumIs w9 v8 D t1.size) := refBelow HM8.out hb9
        have HS9 : Hid (DivS w w9 q r6 (D / Z) (D % Z)) := HS8.out.after hb9
        clear hb9 HS8 HZ8 HX2 HM8
        go_wp2_with fail
        with_reducible refine (Go.Proofs.Tryz.getNX t2 _ (by omega)).mono ?_
        rintro e w10 ⟨hg10, hb10⟩
        obtain ⟨-, v10, rfl, hv10⟩ := hg10.resolve_right (fun h => by rw [HP2.out.1] at h; exact absurd h.1 (by simp))
        have HN10 : Hid (NumIs w10 v10 Z t2.size) := by
          show NumIs _ _ _ _
          rw [← HP2.out.2]; exact hv10
        have HM10 : Hid (NumIs w10 v8 D t1.size) := refBelow HM9.out hb10
        have HS10 : Hid (DivS w w10 q r6 (D / Z) (D % Z)) := HS9.out.after hb10
        clear hg10 hv10 hb10 HS9 HM9
        go_wp2_with fail
        with_reducible refine (Go.Proofs.Tryz.nDiv HM10.out HN10.out z1 (by omega)).mono ?_
        rintro e w11 ⟨⟨p11, o11, rfl, hp11, ho11⟩, hb11⟩
        have HP11 : Hid (NumIs w11 p11 (D / Z) t1.size) := hp11
        have HO11 : Hid (NumIs w11 o11 (D % Z) t2.size) := ho11
        have HS11 : Hid (DivS w w11 q r6 (D / Z) (D % Z)) := HS10.out.after hb11
        clear hp11 ho11 hb11 HS10 HM10 HN10
        generalize D / Z = E1 at *
        generalize D % Z = E2 at *
        go_wp2_with fail
        with_reducible refine (Tryz.textX q E1 8011 _ HS11.out.q (by omega) HS11.out.tab).mono ?_
        rintro e w12 ⟨rfl, hb12⟩
        have HS12 : Hid (DivS w w12 q r6 E1 E2) := HS11.out.after hb12
        have HP12 : Hid (NumIs w12 p11 E1 t1.size) := refBelow HP11.out hb12
        have HO12 : Hid (NumIs w12 o11 E2 t2.size) := refBelow HO11.out hb12
        clear hb12 HS11 HP11 HO11
        go_wp2_with fail
        with_reducible refine (Go.Proofs.Tryz.rText p11 E1 _ _ HP12.out (by omega)).mono ?_
        rintro e w13 ⟨rfl, hb13⟩
        have HS13 : Hid (DivS w w13 q r6 E1 E2) := HS12.out.after hb13
        have HO13 : Hid (NumIs w13 o11 E2 t2.size) := refBelow HO12.out hb13
        clear hb13 HS12 HP12 HO12
        go_wp2_with fail
        with_reducible refine (Tryz.textX r6 E2 8011 _ HS13.out.r (by omega) HS13.out.tab).mono ?_
        rintro e w14 ⟨rfl, hb14⟩
        have HS14 : Hid (DivS w w14 q r6 E1 E2) := HS13.out.after hb14
        have HO14 : Hid (NumIs w14 o11 E2 t2.size) := refBelow HO13.out hb14
        clear hb14 HS13 HO13
        go_wp2_with fail
        with_reducible refine (Go.Proofs.Tryz.rText o11 E2 _ _ HO14.out (by omega)).mono ?_
        rintro e w15 ⟨rfl, hb15⟩
        have HS15 : Hid (DivS w w15 q r6 E1 E2) := HS14.out.after hb15
        clear hb15 HS14 HO14
        go_wp2
        go_ret
        exact ⟨by simp, HS15.out.below⟩
      · have HV5 : Hid (Num w5 a A 8010) := HA5.out
        have HV1 : Hid (A < 2 ^ N) := HA1.out
        have hV0 : 0 ≤ A := A0
        clear HA5 HA1 hlt A0
        have HS5 : Hid (DivS w w5 u10 u10 Z Z) := ⟨HZ5.out.fewer (by omega), HZ5.out.fewer (by omega), HB5.out, HT5.out⟩
        clear HB5 HT5
        go_wp2_with fail
        with_reducible refine (Tryz.natDiv a u10 A Z 8010 8010 _ HV5.out HZ5.out (by omega) z1).mono ?_
        rintro e w6 ⟨⟨q, r6, rfl, hq, hr6⟩, hb6⟩
        have HS6 : Hid (DivS w w6 q r6 (A / Z) (A % Z)) := ⟨hq, hr6, (HS5.out.after hb6).below, (HS5.out.after hb6).tab⟩
        have HV6 : Hid (Num w6 a A 8010) := HV5.out.below hb6 (Nat.le_refl _)
        have HZ6 : Hid (Num w6 u10 Z 8010) := HZ5.out.below hb6 (Nat.le_refl _)
        clear hq hr6 hb6 HS5 HV5 HZ5
        obtain ⟨t1, ht1⟩ : ∃ t1 : ByteArray, (⟨(Lib.decDigits (A).toNat).toArray⟩ : ByteArray) = t1 := ⟨_, rfl⟩
        obtain ⟨t2, ht2⟩ : ∃ t2 : ByteArray, (⟨(Lib.decDigits Z.toNat).toArray⟩ : ByteArray) = t2 := ⟨_, rfl⟩
        have hp1 := plain_dec (z := (A).toNat) (n := N) (by omega) (by omega) (nat_lt hV0 HV1.out)
        have hp2 := plain_dec (z := Z.toNat) (n := N) (by omega) (by omega) (nat_lt (by omega) HZ1.out)
        rw [ht1] at hp1
        rw [ht2] at hp2
        have hs1 := (Tx.plainB_digs hp1.1).2.1
        have hs2 := (Tx.plainB_digs hp2.1).2.1
        have HP1 : Hid (Tx.plainB t1 = true ∧ (Tx.num t1 : Int) = A) := ⟨hp1.1, by rw [hp1.2]; omega⟩
        have HP2 : Hid (Tx.plainB t2 = true ∧ (Tx.num t2 : Int) = Z) := ⟨hp2.1, by rw [hp2.2]; omega⟩
        have HX1 : Hid (Calls Tryz.prog 14 #[a] w6 fun e w' => e = .returned (.string t1) ∧ Below w6.heap.size w6 w') := by
          have h := Tryz.textX a A 8010 w6 HV6.out (by omega) HS6.out.tab
          rw [ht1] at h
          exact h
        have HX2 : Hid (∀ W, Num W u10 Z 8010 → TabOk W → Calls Tryz.prog 14 #[u10] W fun e w' => e = .returned (.string t2) ∧ Below W.heap.size W w') := fun W hW hT => by
          have h := Tryz.textX u10 Z 8010 W hW (by omega) hT
          rw [ht2] at h
          exact h
        clear hp1 hp2 ht1 ht2 HV6 HV1 HZ1
        go_wp2_with fail
        with_reducible refine HX1.out.mono ?_
        rintro e w7 ⟨rfl, hb7⟩
        have HS7 : Hid (DivS w w7 q r6 (A / Z) (A % Z)) := HS6.out.after hb7
        have HZ7 : Hid (Num w7 u10 Z 8010) := HZ6.out.below hb7 (Nat.le_refl _)
        clear hb7 HS6 HZ6 HX1
        go_wp2_with fail
        with_reducible refine (Go.Proofs.Tryz.getNX t1 _ (by omega)).mono ?_
        rintro e w8 ⟨hg8, hb8⟩
        obtain ⟨-, v8, rfl, hv8⟩ := hg8.resolve_right (fun h => by rw [HP1.out.1] at h; exact absurd h.1 (by simp))
        have HM8 : Hid (NumIs w8 v8 A t1.size) := by
          show NumIs _ _ _ _
          rw [← HP1.out.2]; exact hv8
        have HS8 : Hid (DivS w w8 q r6 (A / Z) (A % Z)) := HS7.out.after hb8
        have HZ8 : Hid (Num w8 u10 Z 8010) := HZ7.out.below hb8 (Nat.le_refl _)
        clear hg8 hv8 hb8 HS7 HZ7
        go_wp2_with fail
        with_reducible refine (HX2.out _ HZ8.out HS8.out.tab).mono ?_
        rintro e w9 ⟨rfl, hb9⟩
        have HM9 : Hid (NumIs w9 v8 A t1.size) := refBelow HM8.out hb9
        have HS9 : Hid (DivS w w9 q r6 (A / Z) (A % Z)) := HS8.out.after hb9
        clear hb9 HS8 HZ8 HX2 HM8
        go_wp2_with fail
        with_reducible refine (Go.Proofs.Tryz.getNX t2 _ (by omega)).mono ?_
        rintro e w10 ⟨hg10, hb10⟩
        obtain ⟨-, v10, rfl, hv10⟩ := hg10.resolve_right (fun h => by rw [HP2.out.1] at h; exact absurd h.1 (by simp))
        have HN10 : Hid (NumIs w10 v10 Z t2.size) := by
          show NumIs _ _ _ _
          rw [← HP2.out.2]; exact hv10
        have HM10 : Hid (NumIs w10 v8 A t1.size) := refBelow HM9.out hb10
        have HS10 : Hid (DivS w w10 q r6 (A / Z) (A % Z)) := HS9.out.after hb10
        clear hg10 hv10 hb10 HS9 HM9
        go_wp2_with fail
        with_reducible refine (Go.Proofs.Tryz.nDiv HM10.out HN10.out z1 (by omega)).mono ?_
        rintro e w11 ⟨⟨p11, o11, rfl, hp11, ho11⟩, hb11⟩
        have HP11 : Hid (NumIs w11 p11 (A / Z) t1.size) := hp11
        have HO11 : Hid (NumIs w11 o11 (A % Z) t2.size) := ho11
        have HS11 : Hid (DivS w w11 q r6 (A / Z) (A % Z)) := HS10.out.after hb11
        clear hp11 ho11 hb11 HS10 HM10 HN10
        generalize A / Z = E1 at *
        generalize A % Z = E2 at *
        go_wp2_with fail
        with_reducible refine (Tryz.textX q E1 8011 _ HS11.out.q (by omega) HS11.out.tab).mono ?_
        rintro e w12 ⟨rfl, hb12⟩
        have HS12 : Hid (DivS w w12 q r6 E1 E2) := HS11.out.after hb12
        have HP12 : Hid (NumIs w12 p11 E1 t1.size) := refBelow HP11.out hb12
        have HO12 : Hid (NumIs w12 o11 E2 t2.size) := refBelow HO11.out hb12
        clear hb12 HS11 HP11 HO11
        go_wp2_with fail
        with_reducible refine (Go.Proofs.Tryz.rText p11 E1 _ _ HP12.out (by omega)).mono ?_
        rintro e w13 ⟨rfl, hb13⟩
        have HS13 : Hid (DivS w w13 q r6 E1 E2) := HS12.out.after hb13
        have HO13 : Hid (NumIs w13 o11 E2 t2.size) := refBelow HO12.out hb13
        clear hb13 HS12 HP12 HO12
        go_wp2_with fail
        with_reducible refine (Tryz.textX r6 E2 8011 _ HS13.out.r (by omega) HS13.out.tab).mono ?_
        rintro e w14 ⟨rfl, hb14⟩
        have HS14 : Hid (DivS w w14 q r6 E1 E2) := HS13.out.after hb14
        have HO14 : Hid (NumIs w14 o11 E2 t2.size) := refBelow HO13.out hb14
        clear hb14 HS13 HO13
        go_wp2_with fail
        with_reducible refine (Go.Proofs.Tryz.rText o11 E2 _ _ HO14.out (by omega)).mono ?_
        rintro e w15 ⟨rfl, hb15⟩
        have HS15 : Hid (DivS w w15 q r6 E1 E2) := HS14.out.after hb15
        clear hb15 HS14 HO14
        go_wp2
        go_ret
        exact ⟨by simp, HS15.out.below⟩
    · go_wp2_with fail
      with_reducible refine (Tryz.Shl u10 Z 64 _ _ HN.out (by omega) (by omega) (by omega)).mono ?_
      rintro e w3 ⟨⟨b3, rfl, hb3⟩, hbb3⟩
      have HN3 : Hid (Num w3 b3 (far Z 64) (1 + 1601 * j + 1600)) := hb3
      have HB3 : Hid (Below w.heap.size w w3) := Below.after HB.out hbb3
      clear hb3 hbb3 HB HN
      go_wp2_with fail
      with_reducible refine (Tryz.natOf y _ y0 y1).mono ?_
      rintro e w4 ⟨⟨b4, rfl, hb4⟩, hbb4⟩
      have HN4 : Hid (Num w4 b3 (far Z 64) (1 + 1601 * j + 1600)) := HN3.out.below hbb4 (Nat.le_refl _)
      have HY4 : Hid (Num w4 b4 y 1) := hb4
      have HB4 : Hid (Below w.heap.size w w4) := Below.after HB3.out hbb4
      clear hb4 hbb4 HB3 HN3
      go_wp2_with fail
      with_reducible refine (Tryz.natAdd b3 b4 (far Z 64) y _ 1 _ HN4.out HY4.out (by omega) (by omega)).mono ?_
      rintro e w5 ⟨⟨b5, rfl, hb5⟩, hbb5⟩
      have HN5 : Hid (Num w5 b5 (far Z 64 + y) (1 + 1601 * (j + 1))) := hb5.fewer (by omega)
      have HB5 : Hid (Below w.heap.size w w5) := Below.after HB4.out hbb5
      have hm := more_word z1 HZL.out y0 y1
      obtain ⟨z1', zl'⟩ := hm
      have HZL' : Hid (far Z 64 + y < 2 ^ (64 * (j + 1 + 1))) := zl'
      clear hb5 hbb5 HB4 HN4 HY4 zl'
      go_wp2
      exact ⟨⟨j + 1, _, by simp, by omega, HN5.out, z1', HZL'.out, HB5.out⟩, by simp [intOf]; omega⟩
end Go.Proofs.Wd
