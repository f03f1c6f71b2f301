/- What IndexFunc and DeleteFunc at terms return. What DeleteFunc at terms returns: those that are not 0. What DeleteFunc at terms returns: the walk. What New of the package vec returns. What Coefs of the package vec returns. VecLaws: products of vectors go with sums; a vector less itself is nothing: the call returns true. What F and Text of the law file return. VecAll: what stands where in vectors, sums, products: the call returns true. What at of the law file returns. MatMul: products of matrices, row by column; turned about: the call returns true. -/
import Derived.Test.YtcnjcfoaoaldeaaGreatDoorFg
import Derived.Laws.MakeOwn
import Derived.Test.YtcnjcfoaoaldeaaGreatDoorVs
import Derived.Test.YtcnjcfoaoaldeaaGreatDoorRk
import Derived.Test.YtcnjcfoaoaldeaaGreatDoorRn
import Derived.Test.YtcnjcfoaoaldeaaGreatDoorMd
set_option linter.unusedVariables false
set_option maxHeartbeats 32000000
set_option maxRecDepth 100000
namespace Go.Proofs.Vt
open Go.RowKit Go.Proofs.Wd Go.Proofs.Fr
end Go.Proofs.Vt
namespace Go.Proofs.Vt
open Go.RowKit Go.Proofs.Wd Go.Proofs.Fr
end Go.Proofs.Vt
namespace Go.Proofs.Vt
open Go.RowKit Go.Proofs.Wd Go.Proofs.Fr
end Go.Proofs.Vt
namespace Go.Proofs.Vt
open Go.RowKit Go.Proofs.Wd Go.Proofs.Fr
end Go.Proofs.Vt
namespace Go.Proofs.Vt
open Go.RowKit Go.Proofs.Wd Go.Proofs.Fr
end Go.Proofs.Vt
namespace Go.Proofs.Vt
open Go.RowKit Go.Proofs.Wd Go.Proofs.Fr
end Go.Proofs.Vt
namespace Go.Proofs.Vt
open Go.RowKit Go.Proofs.Wd Go.Proofs.Fr
theorem q_put {w : World} {v x y u a b c : Value} {q : Rat} {n B : Nat} (h : QIs w v q n) (hc : CellsAt w B #[a, b, c] 35) : QIs (((w.setCell ⟨B, 0, none⟩ x).setCell ⟨B, 1, none⟩ y).setCell ⟨B, 2, none⟩ u) v q n := by
 obtain ⟨neg, N, D, z, d, h1, h2, h3, h4⟩ := h
 exact ⟨neg, N, D, z, d, h1, h2.put3 hc (by decide), h3.put3 hc (by decide), h4⟩
end Go.Proofs.Vt
namespace Go.Proofs.Mt
open Go.RowKit Go.Proofs.Wd Go.Proofs.Fr Go.Proofs.Vt Go.Proofs.Mm
theorem Tryz.matMulBad (u v : Value) (R m n C k i : Nat) (A B : F) (w : World) (hu : MatR w u R m A k) (hv : MatR w v n C B i) (hne : m ≠ n) :
 Calls Tryz.prog 31 #[u, v] w fun e w' => e = .returned (.tuple #[.pointer none, .bool false]) ∧ Below w.heap.size w w' := by
 have HU := Lib.hid hu
 have HV := Lib.hid hv
 have e1 : ((m : Int) == (n : Int)) = false := by simp; omega
 have e2 : ((m : Int) != (n : Int)) = true := by simp; omega
 have e3 : (m == n) = false := by simpa using hne
 have e4 : (m != n) = true := by simpa using hne
 have e5 : decide (m = n) = false := by simpa using hne
 clear hu hv hne
 go_enter Tryz.func31, Tryz.ntmps31
 go_wp2_with fail
 with_reducible refine (Tryz.matSize u R m A k _ HU.out).mono ?_
 rintro e w1 ⟨rfl, hb⟩
 replace HV := Lib.hid (HV.out.below hb)
 have HB := Lib.hid hb
 clear hb
 go_wp2_with fail
 with_reducible refine (Tryz.matSize v n C B i _ HV.out).mono ?_
 rintro e w2 ⟨rfl, hb⟩
 replace HB := Lib.hid (HB.out.trans (hb.mono HB.out.size))
 clear hb
 go_wp2
 go_ret2
 exact ⟨rfl, HB.out⟩
theorem dim4 (a : Int) : ∃ R : Nat, 1 + a.tmod 4 % 4 = (R : Int) ∧ 1 ≤ R ∧ R ≤ 4 ∧ -3 ≤ a.tmod 4 ∧ a.tmod 4 ≤ 3 := by
 have h1 := Int.tmod_lt_of_pos a (show (0 : Int) < 4 by omega)
 have h2 := Int.lt_tmod_of_pos a (show (0 : Int) < 4 by omega)
 exact ⟨(1 + a.tmod 4 % 4).toNat, by omega, by omega, by omega, by omega, by omega⟩
/-- What the innermost loop keeps to. -/
def SumAt (wz : World) (gs : Nat) (f : Nat → Rat) (j : Nat) (wr : World) : Prop :=
 Below wz.heap.size wz wr ∧ ∃ eb ep2 en2 ec2 ep3 en3 ec3, CellsAt wr gs #[.bool eb, .slice ep2 en2 ec2, .slice ep3 en3 ec3] 35 ∧ QIs wr (.agg #[.bool eb, .slice ep2 en2 ec2, .slice ep3 en3 ec3]) (Vm.sum f j) (1 + j * 1003)
theorem matMulWalk (a b c : Int) (v1 v2 : Value) (s1 s2 : List ByteArray) (w : World) (wa : -9223372036854775808 ≤ a ∧ a ≤ 9223372036854775807) (wb : -9223372036854775808 ≤ b ∧ b ≤ 9223372036854775807) (wc : -9223372036854775808 ≤ c ∧ c ≤ 9223372036854775807) (hv1 : StrsIn w v1 s1) (hv2 : StrsIn w v2 s2) (hT : TabOk w)
 (hB : Calls Tryz.prog 11 #[] w fun e w' => e = .returned (.bool true) ∧ Below w.heap.size w w') :
 Calls Tryz.prog 4 #[.int .i64 a, .int .i64 b, .int .i64 c, v1, v2] w fun e w' => e = .returned (.bool true) ∧ Below w.heap.size w w' := by
 have HT : Hid (TabOk w) := hT
 have HV1 := Lib.hid hv1
 have HV2 := Lib.hid hv2
 have HB : Hid (Below w.heap.size w w) := Below.refl _ _
 obtain ⟨R, hR, R1, R4, ra, rb⟩ := dim4 a
 obtain ⟨m, hm, m1, m4, ma, mb⟩ := dim4 b
 obtain ⟨C, hC, C1, C4, ca, cb⟩ := dim4 c
 have HR := Lib.hid hR
 have HM := Lib.hid hm
 have HC := Lib.hid hC
 obtain ⟨wa0, wa1⟩ := wa
 obtain ⟨wb0, wb1⟩ := wb
 obtain ⟨wc0, wc1⟩ := wc
 clear hT hv1 hv2 hR hm hC
 go_enter Tryz.func4, Tryz.ntmps4
 go_wp2_with fail
 with_reducible refine (hB).mono ?_
 rintro e w1 ⟨rfl, hb⟩
 replace HB := Lib.hid (HB.out.trans (hb.mono HB.out.size))
 clear hb
 clear hB
 go_wp2_with fail
 rw [HR.out, HM.out, HC.out]
 clear HR HM HC ra rb ma mb ca cb wa0 wa1 wb0 wb1 wc0 wc1
 with_reducible refine (Tryz.matrix R m v1 s1 _ (HV1.out.below HB.out) (by omega) (by omega) (by omega) (by omega)).mono ?_
 rintro e w2 ⟨⟨lx, rfl, hx⟩, hb⟩
 replace HB := Lib.hid (HB.out.trans (hb.mono HB.out.size))
 clear hb
 have HX := Lib.hid hx
 clear hx
 go_wp2_with fail
 with_reducible refine (Tryz.matrix m C v2 s2 _ (HV2.out.below HB.out) (by omega) (by omega) (by omega) (by omega)).mono ?_
 rintro e w3 ⟨⟨ly, rfl, hy⟩, hb⟩
 replace HX := Lib.hid (HX.out.below hb)
 replace HB := Lib.hid (HB.out.trans (hb.mono HB.out.size))
 clear hb
 have HY := Lib.hid hy
 clear hy
 go_wp2_with fail
 with_reducible refine (Tryz.matNew lx R m _ (matQ s1) _ HX.out (fun i j _ _ => matQ_get s1 i j) (by omega) (by omega) (by omega) (by omega)).mono ?_
 rintro e w4 ⟨⟨um, rfl, hu⟩, hb⟩
 replace HX := Lib.hid (HX.out.below hb)
 replace HY := Lib.hid (HY.out.below hb)
 replace HB := Lib.hid (HB.out.trans (hb.mono HB.out.size))
 clear hb
 have HU := Lib.hid hu
 clear hu
 go_wp2_with fail
 with_reducible refine (Tryz.matNew ly m C _ (matQ s2) _ HY.out (fun i j _ _ => matQ_get s2 i j) (by omega) (by omega) (by omega) (by omega)).mono ?_
 rintro e w5 ⟨⟨un, rfl, hn⟩, hb⟩
 replace HX := Lib.hid (HX.out.below hb)
 replace HY := Lib.hid (HY.out.below hb)
 replace HU := Lib.hid (HU.out.below hb)
 replace HB := Lib.hid (HB.out.trans (hb.mono HB.out.size))
 clear hb
 have HN := Lib.hid hn
 clear hn
 obtain ⟨K, hK, hK1⟩ : ∃ K, 1 + m * (120 + 120 + 1) = K ∧ K ≤ 1000 := ⟨_, rfl, by omega⟩
 have HK := Lib.hid hK
 have hK0 : 1 ≤ K := by omega
 clear hK
 go_wp2_with fail
 with_reducible refine (Tryz.matMul um un R m C 120 120 (matQ s1) (matQ s2) _ HU.out HN.out (by omega) (by omega) (by omega) (by omega) (by omega) (by omega) (by omega) (by omega)).mono ?_
 rintro e w6 ⟨⟨up, rfl, hp⟩, hb⟩
 rw [HK.out] at hp
 replace HX := Lib.hid (HX.out.below hb)
 replace HY := Lib.hid (HY.out.below hb)
 replace HU := Lib.hid (HU.out.below hb)
 replace HN := Lib.hid (HN.out.below hb)
 replace HB := Lib.hid (HB.out.trans (hb.mono HB.out.size))
 clear hb
 have HP := Lib.hid hp
 clear hp
 go_wp2_with fail
 with_reducible refine (Tryz.matSize up R C _ K _ HP.out).mono ?_
 rintro e w7 ⟨rfl, hb⟩
 replace HX := Lib.hid (HX.out.below hb)
 replace HY := Lib.hid (HY.out.below hb)
 replace HU := Lib.hid (HU.out.below hb)
 replace HN := Lib.hid (HN.out.below hb)
 replace HP := Lib.hid (HP.out.below hb)
 replace HB := Lib.hid (HB.out.trans (hb.mono HB.out.size))
 clear hb
 go_wp2_with fail
 with_reducible refine (Tryz.matAtRow up R C K _ _ HP.out).mono ?_
 rintro e w8 ⟨rfl, hb⟩
 replace HX := Lib.hid (HX.out.below hb)
 replace HY := Lib.hid (HY.out.below hb)
 replace HU := Lib.hid (HU.out.below hb)
 replace HN := Lib.hid (HN.out.below hb)
 replace HP := Lib.hid (HP.out.below hb)
 replace HB := Lib.hid (HB.out.trans (hb.mono HB.out.size))
 clear hb
 go_wp2_with fail
 with_reducible refine (Tryz.matAtCol up R C K _ _ HP.out (by omega)).mono ?_
 rintro e w9 ⟨rfl, hb⟩
 replace HX := Lib.hid (HX.out.below hb)
 replace HY := Lib.hid (HY.out.below hb)
 replace HU := Lib.hid (HU.out.below hb)
 replace HN := Lib.hid (HN.out.below hb)
 replace HP := Lib.hid (HP.out.below hb)
 replace HB := Lib.hid (HB.out.trans (hb.mono HB.out.size))
 clear hb
 go_wp2_with fail
 have HTZ : Hid (TabOk w9) := HT.out.after HB.out
 go_loopw [22] (fun iv wr => ∃ i : Nat, iv = .int .i64 i ∧ i ≤ R ∧ Below w9.heap.size w9 wr) (fun iv _ => R - (intOf iv).toNat)
 case atStart => exact ⟨0, rfl, Nat.zero_le _, Below.refl _ _⟩
 case round =>
  obtain ⟨i, rfl, hi, hb1⟩ := hrel
  by_cases hlt : i < R
  ·have HB1 := Lib.hid hb1
   have i0 : (0 : Int) ≤ (i : Int) := by omega
   have i1 : (i : Int) < (R : Int) := by omega
   have i2 : (i : Int) ≤ 4 := by omega
   clear hb1
   go_wp2_with fail
   obtain ⟨wo, hwo⟩ : ∃ wo : World, wo = wr := ⟨_, rfl⟩
   subst hwo
   go_loopw [23] (fun kv wr => ∃ k : Nat, kv = .int .i64 k ∧ k ≤ C ∧ Below w9.heap.size w9 wr) (fun kv _ => C - (intOf kv).toNat)
   case atStart => exact ⟨0, rfl, Nat.zero_le _, HB1.out⟩
   case round =>
    obtain ⟨k, rfl, hk, hb2⟩ := hrel
    by_cases hlk : k < C
    ·have HB2 := Lib.hid hb2
     have k0 : (0 : Int) ≤ (k : Int) := by omega
     have k1 : (k : Int) < (C : Int) := by omega
     have k2 : (k : Int) ≤ 4 := by omega
     clear hb2
     go_wp2_with fail
     with_reducible refine (Tryz.rZero _).mono ?_
     rintro e w31 ⟨⟨r, rfl, hr⟩, hb⟩
     obtain ⟨db, dp2, dn2, dc2, dp3, dn3, dc3, rfl⟩ := QIs.agg hr
     have HBz := Lib.hid (HB2.out.trans (hb.mono HB2.out.size))
     obtain ⟨wd, hwd⟩ : ∃ W, w31.alloc (.cells #[.bool db, .slice dp2 dn2 dc2, .slice dp3 dn3 dc3] 35) = W := ⟨_, rfl⟩
     have hbd : Below w31.heap.size w31 wd := by rw [← hwd]; exact (Below.refl _ _).alloc (Nat.le_refl _) _
     have hcd := CellsAt.new w31 #[.bool db, .slice dp2 dn2 dc2, .slice dp3 dn3 dc3] 35 rfl
     rw [hwd] at hcd
     obtain ⟨gs, hgs⟩ : ∃ g, w31.heap.size = g := ⟨_, rfl⟩
     rw [hgs] at hcd
     have hst : SumAt w31 gs (fun j => matQ s1 i j * matQ s2 j k) 0 wd := ⟨hbd, db, dp2, dn2, dc2, dp3, dn3, dc3, hcd, hr.below hbd⟩
     have HST := Lib.hid hst
     have lgs : w31.heap.size ≤ gs := by omega
     clear hb hr hbd hcd hst HB2
     go_wp2_with fail
     clear hwd hgs
     obtain ⟨wq, hwq⟩ : ∃ wq : World, wq = wr := ⟨_, rfl⟩
     subst hwq
     go_loopw [25] (fun jv wr => ∃ j : Nat, jv = .int .i64 j ∧ j ≤ m ∧ SumAt w31 gs (fun j => matQ s1 i j * matQ s2 j k) j wr) (fun jv _ => m - (intOf jv).toNat)
     case atStart => exact ⟨0, rfl, Nat.zero_le _, HST.out⟩
     case round =>
      obtain ⟨j, rfl, hj, hs⟩ := hrel
      obtain ⟨hb, eb, ep2, en2, ec2, ep3, en3, ec3, hcd, hqd⟩ := hs
      clear HST
      by_cases hlj : j < m
      ·have HB3 := Lib.hid hb
       have HBx := Lib.hid (HBz.out.trans (hb.mono HBz.out.size))
       have HD := Lib.hid hcd
       have HQD := Lib.hid hqd
       have j0 : (0 : Int) ≤ (j : Int) := by omega
       have j1 : (j : Int) < (m : Int) := by omega
       have j2 : (j : Int) ≤ 4 := by omega
       clear hb hcd hqd
       clear HBx
       obtain ⟨g1, o1, c1, p1, c2, rfl, d0, hs, c3, c4, -⟩ := (HX.out.below (HBz.out.trans (HB3.out.mono HBz.out.size))).nth (i := i) (by omega)
       obtain ⟨g2, o2, c5, he, d1, -⟩ := hs.nth (j := j) (by omega)
       simp only [Value.slice.injEq, true_and] at he
       obtain ⟨rfl, rfl⟩ := he
       unfold maxLen at c4
       obtain ⟨t, ht⟩ : ∃ t, pickT s1 i j = t := ⟨_, rfl⟩
       have hget := matQ_get s1 i j
       rw [ht] at d1 hget
       have HGET := Lib.hid hget
       have hsz := getQ_size hget
       obtain ⟨qa, hval⟩ : ∃ q, matQ s1 i j = q := ⟨_, rfl⟩
       rw [hval] at HGET
       have HQA := Lib.hid hval
       clear hs ht hget hval
       go_wp2_with fail
       with_reducible refine (Tryz.rGetA t _ (by omega)).mono ?_
       rintro e w41 ⟨hget, hb⟩
       obtain ⟨ub, up2, un2, uc2, up3, un3, uc3, uk, rfl, -, hq⟩ := hget.parts
       have hq := hq _ HGET.out
       replace HD := Lib.hid (HD.out.below hb)
       replace HQD := Lib.hid (HQD.out.below hb)
       replace HB3 := Lib.hid (HB3.out.trans (hb.mono HB3.out.size))
       clear hb
       have HQU := Lib.hid hq
       clear hq
       obtain ⟨wu, hwu⟩ : ∃ W, w41.alloc (.cells #[.bool ub, .slice up2 un2 uc2, .slice up3 un3 uc3] 35) = W := ⟨_, rfl⟩
       have hb : Below w41.heap.size w41 wu := by rw [← hwu]; exact (Below.refl _ _).alloc (Nat.le_refl _) _
       have hcu := CellsAt.new w41 #[.bool ub, .slice up2 un2 uc2, .slice up3 un3 uc3] 35 rfl
       rw [hwu] at hcu
       obtain ⟨gu, hgu⟩ : ∃ g, w41.heap.size = g := ⟨_, rfl⟩
       rw [hgu] at hcu
       have lu : gs < gu := by rw [← hgu]; exact HD.out.lt
       have bu := HB3.out.size
       rw [hgu] at bu
       replace HD := Lib.hid (HD.out.below hb)
       replace HQD := Lib.hid (HQD.out.below hb)
       replace HQU := Lib.hid (HQU.out.below hb)
       replace HB3 := Lib.hid (HB3.out.trans (hb.mono HB3.out.size))
       have HCU := Lib.hid hcu
       clear hb hcu hget HGET d0 d1
       obtain ⟨g1, o1, c1, p1, c2, rfl, d0, hs, c3, c4, -⟩ := (HY.out.below (HBz.out.trans (HB3.out.mono HBz.out.size))).nth (i := j) (by omega)
       obtain ⟨g2, o2, c5, he, d1, -⟩ := hs.nth (j := k) (by omega)
       simp only [Value.slice.injEq, true_and] at he
       obtain ⟨rfl, rfl⟩ := he
       unfold maxLen at c4
       obtain ⟨t, ht⟩ : ∃ t, pickT s2 j k = t := ⟨_, rfl⟩
       have hget := matQ_get s2 j k
       rw [ht] at d1 hget
       have HGET := Lib.hid hget
       have hsz := getQ_size hget
       obtain ⟨qb, hval⟩ : ∃ q, matQ s2 j k = q := ⟨_, rfl⟩
       rw [hval] at HGET
       have HQB := Lib.hid hval
       clear hs ht hget hval
       go_wp2_with fail
       with_reducible refine (Tryz.rGetA t _ (by omega)).mono ?_
       rintro e w42 ⟨hget, hb⟩
       obtain ⟨vb, vp2, vn2, vc2, vp3, vn3, vc3, vk, rfl, -, hq⟩ := hget.parts
       have hq := hq _ HGET.out
       replace HD := Lib.hid (HD.out.below hb)
       replace HQD := Lib.hid (HQD.out.below hb)
       replace HQU := Lib.hid (HQU.out.below hb)
       replace HCU := Lib.hid (HCU.out.below hb)
       replace HB3 := Lib.hid (HB3.out.trans (hb.mono HB3.out.size))
       clear hb
       have HQV := Lib.hid hq
       clear hq
       obtain ⟨wv, hwv⟩ : ∃ W, w42.alloc (.cells #[.bool vb, .slice vp2 vn2 vc2, .slice vp3 vn3 vc3] 35) = W := ⟨_, rfl⟩
       have hb : Below w42.heap.size w42 wv := by rw [← hwv]; exact (Below.refl _ _).alloc (Nat.le_refl _) _
       have hcu := CellsAt.new w42 #[.bool vb, .slice vp2 vn2 vc2, .slice vp3 vn3 vc3] 35 rfl
       rw [hwv] at hcu
       obtain ⟨gv, hgv⟩ : ∃ g, w42.heap.size = g := ⟨_, rfl⟩
       rw [hgv] at hcu
       have lv : gs < gv := by rw [← hgv]; exact HD.out.lt
       have bv := HB3.out.size
       rw [hgv] at bv
       replace HD := Lib.hid (HD.out.below hb)
       replace HQD := Lib.hid (HQD.out.below hb)
       replace HQU := Lib.hid (HQU.out.below hb)
       replace HCU := Lib.hid (HCU.out.below hb)
       replace HQV := Lib.hid (HQV.out.below hb)
       replace HB3 := Lib.hid (HB3.out.trans (hb.mono HB3.out.size))
       have HCV := Lib.hid hcu
       clear hb hcu hget HGET d0 d1
       go_wp2_with fail
       clear hwu hwv hgu hgv
       refine wp_region_held_drew (S := fun w' => w'.cell? ⟨gu, 0, none⟩ = some (.bool ub) ∧ w'.cell? ⟨gu, 1, none⟩ = some (.slice up2 un2 uc2) ∧ w'.cell? ⟨gu, 2, none⟩ = some (.slice up3 un3 uc3) ∧ w'.cell? ⟨gv, 0, none⟩ = some (.bool vb) ∧ w'.cell? ⟨gv, 1, none⟩ = some (.slice vp2 vn2 vc2) ∧ w'.cell? ⟨gv, 2, none⟩ = some (.slice vp3 vn3 vc3)) (by kernel_rfl) ⟨HCU.out.cell 0, HCU.out.cell 1, HCU.out.cell 2, HCV.out.cell 0, HCV.out.cell 1, HCV.out.cell 2⟩ (fun hHeld => ?_)
       replace HB3 := Lib.hid (HB3.out.drew)
       replace HD := Lib.hid (HD.out.below (Below.refl _ _).drew)
       replace HQD := Lib.hid (HQD.out.below (Below.refl _ _).drew)
       replace HQU := Lib.hid (HQU.out.below (Below.refl _ _).drew)
       replace HQV := Lib.hid (HQV.out.below (Below.refl _ _).drew)
       replace HCU := Lib.hid (HCU.out.below (Below.refl _ _).drew)
       replace HCV := Lib.hid (HCV.out.below (Below.refl _ _).drew)
       clear hHeld
       generalize wv.drew = wvd at *
       have hHeld : (fun w' : World => w'.cell? ⟨gu, 0, none⟩ = some (.bool ub) ∧ w'.cell? ⟨gu, 1, none⟩ = some (.slice up2 un2 uc2) ∧ w'.cell? ⟨gu, 2, none⟩ = some (.slice up3 un3 uc3) ∧ w'.cell? ⟨gv, 0, none⟩ = some (.bool vb) ∧ w'.cell? ⟨gv, 1, none⟩ = some (.slice vp2 vn2 vc2) ∧ w'.cell? ⟨gv, 2, none⟩ = some (.slice vp3 vn3 vc3)) wvd := ⟨HCU.out.cell 0, HCU.out.cell 1, HCU.out.cell 2, HCV.out.cell 0, HCV.out.cell 1, HCV.out.cell 2⟩
       refine takeY 1 (h := ?_)
       refine takeY 2 (h := ?_)
       (try simp only [Act.put, List.setIfInBounds_toArray, List.set_cons_zero, List.set_cons_succ])
       refine wpAnyH_ready (rs := [0, 3]) (by kernel_rfl) (by simp) ?_
       refine AllReadyH.cons (by (simp only [List.getElem?_toArray, List.getElem?_cons_zero]) <;> rfl) (fun KX hK => ?_) (AllReadyH.cons (by (simp only [List.getElem?_toArray, List.getElem?_cons_succ, List.getElem?_cons_zero]) <;> rfl) (fun KX hK => ?_) AllReadyH.nil)
       ·skip
        have d0 := HD.out.cell 0
        have d1 := HD.out.cell 1
        have d2 := HD.out.cell 2
        simp only [List.getElem?_toArray, List.getElem?_cons_zero, List.getElem?_cons_succ] at d0 d1 d2
        go_simp
        clear d0 d1 d2 hHeld
        refine hK.out _ _ ⟨HCU.out.cell 0, HCU.out.cell 1, HCU.out.cell 2, HCV.out.cell 0, HCV.out.cell 1, HCV.out.cell 2⟩ (fun hHeld => ?_)
        clear hK KX
        (try simp only [Act.put, List.setIfInBounds_toArray, List.set_cons_zero, List.set_cons_succ])
        refine wpAnyH_ready (rs := [3]) (by kernel_rfl) (by simp) ?_
        refine AllReadyH.cons (by (simp only [List.getElem?_toArray, List.getElem?_cons_succ, List.getElem?_cons_zero]) <;> rfl) (fun KX hK => ?_) AllReadyH.nil
        go_simp
        with_reducible refine (Tryz.rProd (.agg #[.bool ub, .slice up2 un2 uc2, .slice up3 un3 uc3]) (.agg #[.bool vb, .slice vp2 vn2 vc2, .slice vp3 vn3 vc3]) qa qb 500 500 _ HQU.out HQV.out (by omega)).mono ?_
        rintro e wvd21 ⟨⟨r, rfl, hr⟩, hb⟩
        obtain ⟨mb, mp2, mn2, mc2, mp3, mn3, mc3, rfl⟩ := QIs.agg hr
        clear hHeld
        replace HB3 := Lib.hid (HB3.out.trans (hb.mono HB3.out.size))
        replace HD := Lib.hid (HD.out.below hb)
        replace HQD := Lib.hid (HQD.out.below hb)
        replace HQU := Lib.hid (HQU.out.below hb)
        replace HQV := Lib.hid (HQV.out.below hb)
        replace HCU := Lib.hid (HCU.out.below hb)
        replace HCV := Lib.hid (HCV.out.below hb)
        clear hb
        have HQM := Lib.hid hr
        clear hr
        refine hK.out _ _ ⟨HCU.out.cell 0, HCU.out.cell 1, HCU.out.cell 2, HCV.out.cell 0, HCV.out.cell 1, HCV.out.cell 2⟩ (fun hHeld => ?_)
        clear hK KX
        (try simp only [Act.put, List.setIfInBounds_toArray, List.set_cons_zero, List.set_cons_succ])
        refine wpAnyH_ready (rs := [4]) (by kernel_rfl) (by simp) ?_
        refine AllReadyH.cons (by (simp only [List.getElem?_toArray, List.getElem?_cons_succ, List.getElem?_cons_zero]) <;> rfl) (fun KX hK => ?_) AllReadyH.nil
        go_simp
        with_reducible refine (Tryz.rSum (.agg #[.bool eb, .slice ep2 en2 ec2, .slice ep3 en3 ec3]) (.agg #[.bool mb, .slice mp2 mn2 mc2, .slice mp3 mn3 mc3]) (Vm.sum (fun j => matQ s1 i j * matQ s2 j k) j) (qa * qb) (1 + j * 1003) 1001 _ HQD.out HQM.out (by omega)).mono ?_
        rintro e wvd22 ⟨⟨r, rfl, hr⟩, hb⟩
        obtain ⟨nb, np2, nn2, nc2, np3, nn3, nc3, rfl⟩ := QIs.agg hr
        clear hHeld
        replace HB3 := Lib.hid (HB3.out.trans (hb.mono HB3.out.size))
        replace HD := Lib.hid (HD.out.below hb)
        replace HQD := Lib.hid (HQD.out.below hb)
        replace HQU := Lib.hid (HQU.out.below hb)
        replace HQV := Lib.hid (HQV.out.below hb)
        replace HCU := Lib.hid (HCU.out.below hb)
        replace HCV := Lib.hid (HCV.out.below hb)
        replace HQM := Lib.hid (HQM.out.below hb)
        clear hb
        have HQN := Lib.hid hr
        clear hr
        refine hK.out _ _ ⟨HCU.out.cell 0, HCU.out.cell 1, HCU.out.cell 2, HCV.out.cell 0, HCV.out.cell 1, HCV.out.cell 2⟩ (fun hHeld => ?_)
        clear hK KX
        (try simp only [Act.put, List.setIfInBounds_toArray, List.set_cons_zero, List.set_cons_succ])
        refine wpAnyH_ready (rs := [5]) (by kernel_rfl) (by simp) ?_
        refine AllReadyH.cons (by (simp only [List.getElem?_toArray, List.getElem?_cons_succ, List.getElem?_cons_zero]) <;> rfl) (fun KX hK => ?_) AllReadyH.nil
        have d0 := HD.out.cell 0
        have f0 := HD.out.free 0
        have d1 := HD.out.cell 1
        have f1 := HD.out.free 1
        have d2 := HD.out.cell 2
        have f2 := HD.out.free 2
        simp only [List.getElem?_toArray, List.getElem?_cons_zero, List.getElem?_cons_succ] at d0 d1 d2
        go_simp
        replace HQN := Lib.hid (q_put (x := .bool nb) (y := .slice np2 nn2 nc2) (u := .slice np3 nn3 nc3) HQN.out HD.out)
        replace HCU := Lib.hid (((HCU.out.other (g := gs) (by omega) 0 (.bool nb)).other (g := gs) (by omega) 1 (.slice np2 nn2 nc2)).other (g := gs) (by omega) 2 (.slice np3 nn3 nc3))
        replace HCV := Lib.hid (((HCV.out.other (g := gs) (by omega) 0 (.bool nb)).other (g := gs) (by omega) 1 (.slice np2 nn2 nc2)).other (g := gs) (by omega) 2 (.slice np3 nn3 nc3))
        replace HB3 := Lib.hid (((HB3.out.setCell (p := ⟨gs, 0, none⟩) (show _ ≤ gs by omega) (.bool nb)).setCell (p := ⟨gs, 1, none⟩) (show _ ≤ gs by omega) (.slice np2 nn2 nc2)).setCell (p := ⟨gs, 2, none⟩) (show _ ≤ gs by omega) (.slice np3 nn3 nc3))
        replace HD := Lib.hid (CellsAt.put3 (x := .bool nb) (y := .slice np2 nn2 nc2) (z := .slice np3 nn3 nc3) HD.out)
        clear hHeld d0 d1 d2 f0 f1 f2 HQD HQU HQV HQM
        generalize ((wvd22.setCell ⟨gs, 0, none⟩ (.bool nb)).setCell ⟨gs, 1, none⟩ (.slice np2 nn2 nc2)).setCell ⟨gs, 2, none⟩ (.slice np3 nn3 nc3) = wvd23 at *
        refine hK.out _ _ ⟨HCU.out.cell 0, HCU.out.cell 1, HCU.out.cell 2, HCV.out.cell 0, HCV.out.cell 1, HCV.out.cell 2⟩ (fun hHeld => ?_)
        clear hK KX
        (try simp only [Act.put, List.setIfInBounds_toArray, List.set_cons_zero, List.set_cons_succ])
        refine wpAnyH_done (by kernel_rfl) ?_ _
        clear hHeld HCU HCV
        have HR : Hid (SumAt w31 gs (fun j => matQ s1 i j * matQ s2 j k) (j + 1) wvd23) := ⟨HB3.out, nb, np2, nn2, nc2, np3, nn3, nc3, HD.out, by
         show QIs _ _ (Vm.sum (fun j => matQ s1 i j * matQ s2 j k) j + matQ s1 i j * matQ s2 j k) _
         rw [HQA.out, HQB.out]; exact QIs.more HQN.out (by omega)⟩
        clear HB3 HD HQN HQA HQB
        go_wp2
        go_roundw
        case rel => exact ⟨j + 1, by go_num, by omega, HR.out⟩
        case measure => simp [intOf]; omega
       ·skip
        go_simp
        with_reducible refine (Tryz.rProd (.agg #[.bool ub, .slice up2 un2 uc2, .slice up3 un3 uc3]) (.agg #[.bool vb, .slice vp2 vn2 vc2, .slice vp3 vn3 vc3]) qa qb 500 500 _ HQU.out HQV.out (by omega)).mono ?_
        rintro e wvd21 ⟨⟨r, rfl, hr⟩, hb⟩
        obtain ⟨mb, mp2, mn2, mc2, mp3, mn3, mc3, rfl⟩ := QIs.agg hr
        clear hHeld
        replace HB3 := Lib.hid (HB3.out.trans (hb.mono HB3.out.size))
        replace HD := Lib.hid (HD.out.below hb)
        replace HQD := Lib.hid (HQD.out.below hb)
        replace HQU := Lib.hid (HQU.out.below hb)
        replace HQV := Lib.hid (HQV.out.below hb)
        replace HCU := Lib.hid (HCU.out.below hb)
        replace HCV := Lib.hid (HCV.out.below hb)
        clear hb
        have HQM := Lib.hid hr
        clear hr
        refine hK.out _ _ ⟨HCU.out.cell 0, HCU.out.cell 1, HCU.out.cell 2, HCV.out.cell 0, HCV.out.cell 1, HCV.out.cell 2⟩ (fun hHeld => ?_)
        clear hK KX
        (try simp only [Act.put, List.setIfInBounds_toArray, List.set_cons_zero, List.set_cons_succ])
        refine wpAnyH_ready (rs := [0]) (by kernel_rfl) (by simp) ?_
        refine AllReadyH.cons (by (simp only [List.getElem?_toArray, List.getElem?_cons_zero]) <;> rfl) (fun KX hK => ?_) AllReadyH.nil
        have d0 := HD.out.cell 0
        have d1 := HD.out.cell 1
        have d2 := HD.out.cell 2
        simp only [List.getElem?_toArray, List.getElem?_cons_zero, List.getElem?_cons_succ] at d0 d1 d2
        go_simp
        clear d0 d1 d2 hHeld
        refine hK.out _ _ ⟨HCU.out.cell 0, HCU.out.cell 1, HCU.out.cell 2, HCV.out.cell 0, HCV.out.cell 1, HCV.out.cell 2⟩ (fun hHeld => ?_)
        clear hK KX
        (try simp only [Act.put, List.setIfInBounds_toArray, List.set_cons_zero, List.set_cons_succ])
        refine wpAnyH_ready (rs := [4]) (by kernel_rfl) (by simp) ?_
        refine AllReadyH.cons (by (simp only [List.getElem?_toArray, List.getElem?_cons_succ, List.getElem?_cons_zero]) <;> rfl) (fun KX hK => ?_) AllReadyH.nil
        go_simp
        with_reducible refine (Tryz.rSum (.agg #[.bool eb, .slice ep2 en2 ec2, .slice ep3 en3 ec3]) (.agg #[.bool mb, .slice mp2 mn2 mc2, .slice mp3 mn3 mc3]) (Vm.sum (fun j => matQ s1 i j * matQ s2 j k) j) (qa * qb) (1 + j * 1003) 1001 _ HQD.out HQM.out (by omega)).mono ?_
        rintro e wvd22 ⟨⟨r, rfl, hr⟩, hb⟩
        obtain ⟨nb, np2, nn2, nc2, np3, nn3, nc3, rfl⟩ := QIs.agg hr
        clear hHeld
        replace HB3 := Lib.hid (HB3.out.trans (hb.mono HB3.out.size))
        replace HD := Lib.hid (HD.out.below hb)
        replace HQD := Lib.hid (HQD.out.below hb)
        replace HQU := Lib.hid (HQU.out.below hb)
        replace HQV := Lib.hid (HQV.out.below hb)
        replace HCU := Lib.hid (HCU.out.below hb)
        replace HCV := Lib.hid (HCV.out.below hb)
        replace HQM := Lib.hid (HQM.out.below hb)
        clear hb
        have HQN := Lib.hid hr
        clear hr
        refine hK.out _ _ ⟨HCU.out.cell 0, HCU.out.cell 1, HCU.out.cell 2, HCV.out.cell 0, HCV.out.cell 1, HCV.out.cell 2⟩ (fun hHeld => ?_)
        clear hK KX
        (try simp only [Act.put, List.setIfInBounds_toArray, List.set_cons_zero, List.set_cons_succ])
        refine wpAnyH_ready (rs := [5]) (by kernel_rfl) (by simp) ?_
        refine AllReadyH.cons (by (simp only [List.getElem?_toArray, List.getElem?_cons_succ, List.getElem?_cons_zero]) <;> rfl) (fun KX hK => ?_) AllReadyH.nil
        have d0 := HD.out.cell 0
        have f0 := HD.out.free 0
        have d1 := HD.out.cell 1
        have f1 := HD.out.free 1
        have d2 := HD.out.cell 2
        have f2 := HD.out.free 2
        simp only [List.getElem?_toArray, List.getElem?_cons_zero, List.getElem?_cons_succ] at d0 d1 d2
        go_simp
        replace HQN := Lib.hid (q_put (x := .bool nb) (y := .slice np2 nn2 nc2) (u := .slice np3 nn3 nc3) HQN.out HD.out)
        replace HCU := Lib.hid (((HCU.out.other (g := gs) (by omega) 0 (.bool nb)).other (g := gs) (by omega) 1 (.slice np2 nn2 nc2)).other (g := gs) (by omega) 2 (.slice np3 nn3 nc3))
        replace HCV := Lib.hid (((HCV.out.other (g := gs) (by omega) 0 (.bool nb)).other (g := gs) (by omega) 1 (.slice np2 nn2 nc2)).other (g := gs) (by omega) 2 (.slice np3 nn3 nc3))
        replace HB3 := Lib.hid (((HB3.out.setCell (p := ⟨gs, 0, none⟩) (show _ ≤ gs by omega) (.bool nb)).setCell (p := ⟨gs, 1, none⟩) (show _ ≤ gs by omega) (.slice np2 nn2 nc2)).setCell (p := ⟨gs, 2, none⟩) (show _ ≤ gs by omega) (.slice np3 nn3 nc3))
        replace HD := Lib.hid (CellsAt.put3 (x := .bool nb) (y := .slice np2 nn2 nc2) (z := .slice np3 nn3 nc3) HD.out)
        clear hHeld d0 d1 d2 f0 f1 f2 HQD HQU HQV HQM
        generalize ((wvd22.setCell ⟨gs, 0, none⟩ (.bool nb)).setCell ⟨gs, 1, none⟩ (.slice np2 nn2 nc2)).setCell ⟨gs, 2, none⟩ (.slice np3 nn3 nc3) = wvd23 at *
        refine hK.out _ _ ⟨HCU.out.cell 0, HCU.out.cell 1, HCU.out.cell 2, HCV.out.cell 0, HCV.out.cell 1, HCV.out.cell 2⟩ (fun hHeld => ?_)
        clear hK KX
        (try simp only [Act.put, List.setIfInBounds_toArray, List.set_cons_zero, List.set_cons_succ])
        refine wpAnyH_done (by kernel_rfl) ?_ _
        clear hHeld HCU HCV
        have HR : Hid (SumAt w31 gs (fun j => matQ s1 i j * matQ s2 j k) (j + 1) wvd23) := ⟨HB3.out, nb, np2, nn2, nc2, np3, nn3, nc3, HD.out, by
         show QIs _ _ (Vm.sum (fun j => matQ s1 i j * matQ s2 j k) j + matQ s1 i j * matQ s2 j k) _
         rw [HQA.out, HQB.out]; exact QIs.more HQN.out (by omega)⟩
        clear HB3 HD HQN HQA HQB
        go_wp2
        go_roundw
        case rel => exact ⟨j + 1, by go_num, by omega, HR.out⟩
        case measure => simp [intOf]; omega
      ·have e3 : decide ((j : Int) < (m : Int)) = false := by simp; omega
       have e3' : decide (j < m) = false := by simpa using hlj
       obtain rfl : j = m := by omega
       have HBW := Lib.hid (HBz.out.trans (hb.mono HBz.out.size))
       have HD := Lib.hid hcd
       obtain ⟨q, hq⟩ : ∃ q, Vm.sum (fun j => matQ s1 i j * matQ s2 j k) j = q := ⟨_, rfl⟩
       rw [hq] at hqd
       have HQD := Lib.hid hqd
       have HSUM : Hid (mulF (matQ s1) (matQ s2) j i k = q) := hq
       clear hb hcd hqd hq
       go_wp2_with fail
       refine wp_region_held_drew (S := fun w' => w'.cell? ⟨gs, 0, none⟩ = some (.bool eb) ∧ w'.cell? ⟨gs, 1, none⟩ = some (.slice ep2 en2 ec2) ∧ w'.cell? ⟨gs, 2, none⟩ = some (.slice ep3 en3 ec3)) (by kernel_rfl) ⟨HD.out.cell 0, HD.out.cell 1, HD.out.cell 2⟩ (fun hHeld => ?_)
       replace HBW := Lib.hid (HBW.out.drew)
       replace HD := Lib.hid (HD.out.below (Below.refl _ _).drew)
       replace HQD := Lib.hid (HQD.out.below (Below.refl _ _).drew)
       clear hHeld
       generalize wr.drew = wrd at *
       have hHeld : (fun w' : World => w'.cell? ⟨gs, 0, none⟩ = some (.bool eb) ∧ w'.cell? ⟨gs, 1, none⟩ = some (.slice ep2 en2 ec2) ∧ w'.cell? ⟨gs, 2, none⟩ = some (.slice ep3 en3 ec3)) wrd := ⟨HD.out.cell 0, HD.out.cell 1, HD.out.cell 2⟩
       refine takeY 0 (h := ?_)
       refine takeY 1 (h := ?_)
       refine takeY 2 (h := ?_)
       (try simp only [Act.put, List.setIfInBounds_toArray, List.set_cons_zero, List.set_cons_succ])
       refine takeY 5 (h := ?_)
       (try simp only [Act.put, List.setIfInBounds_toArray, List.set_cons_zero, List.set_cons_succ])
       refine wpAnyH_ready (rs := [3]) (by kernel_rfl) (by simp) ?_
       refine AllReadyH.cons (by (simp only [List.getElem?_toArray, List.getElem?_cons_succ, List.getElem?_cons_zero]) <;> rfl) (fun KX hK => ?_) AllReadyH.nil
       go_simp
       with_reducible refine (Tryz.matAt up R C i k K _ _ (HP.out.below HBW.out) (by omega) (by omega) hK0).mono ?_
       rintro e wrd21 ⟨⟨x, rfl, hx⟩, hb⟩
       have hx : FracIs _ _ (mulF (matQ s1) (matQ s2) j i k) K := hx
       rw [HSUM.out] at hx
       clear hHeld
       replace HBW := Lib.hid (HBW.out.trans (hb.mono HBW.out.size))
       replace HD := Lib.hid (HD.out.below hb)
       replace HQD := Lib.hid (HQD.out.below hb)
       clear hb
       have HF1 := Lib.hid hx
       clear hx
       refine hK.out _ _ ⟨HD.out.cell 0, HD.out.cell 1, HD.out.cell 2⟩ (fun hHeld => ?_)
       clear hK KX
       (try simp only [Act.put, List.setIfInBounds_toArray, List.set_cons_zero, List.set_cons_succ])
       refine wpAnyH_ready (rs := [4]) (by kernel_rfl) (by simp) ?_
       refine AllReadyH.cons (by (simp only [List.getElem?_toArray, List.getElem?_cons_succ, List.getElem?_cons_zero]) <;> rfl) (fun KX hK => ?_) AllReadyH.nil
       go_simp
       with_reducible refine (Tryz.fracText (.pointer x) q K _ HF1.out hK0 (by omega) (HTZ.out.after HBW.out)).mono ?_
       rintro e wrd22 ⟨rfl, hb⟩
       clear hHeld
       replace HBW := Lib.hid (HBW.out.trans (hb.mono HBW.out.size))
       replace HD := Lib.hid (HD.out.below hb)
       replace HQD := Lib.hid (HQD.out.below hb)
       replace HF1 := Lib.hid (HF1.out.below hb)
       clear hb
       refine hK.out _ _ ⟨HD.out.cell 0, HD.out.cell 1, HD.out.cell 2⟩ (fun hHeld => ?_)
       clear hK KX
       (try simp only [Act.put, List.setIfInBounds_toArray, List.set_cons_zero, List.set_cons_succ])
       refine wpAnyH_ready (rs := [6]) (by kernel_rfl) (by simp) ?_
       refine AllReadyH.cons (by (simp only [List.getElem?_toArray, List.getElem?_cons_succ, List.getElem?_cons_zero]) <;> rfl) (fun KX hK => ?_) AllReadyH.nil
       go_simp
       with_reducible refine (Tryz.rQTextA (.agg #[.bool eb, .slice ep2 en2 ec2, .slice ep3 en3 ec3]) q (1 + j * 1003) _ HQD.out (by omega) (by omega)).mono ?_
       rintro e wrd23 ⟨rfl, hb⟩
       clear hHeld
       replace HBW := Lib.hid (HBW.out.trans (hb.mono HBW.out.size))
       replace HD := Lib.hid (HD.out.below hb)
       replace HQD := Lib.hid (HQD.out.below hb)
       replace HF1 := Lib.hid (HF1.out.below hb)
       clear hb
       refine hK.out _ _ ⟨HD.out.cell 0, HD.out.cell 1, HD.out.cell 2⟩ (fun hHeld => ?_)
       clear hK KX
       (try simp only [Act.put, List.setIfInBounds_toArray, List.set_cons_zero, List.set_cons_succ])
       refine takeY 7 (h := ?_)
       refine takeY 8 (h := ?_)
       refine takeY 9 (h := ?_)
       (try simp only [Act.put, List.setIfInBounds_toArray, List.set_cons_zero, List.set_cons_succ])
       refine takeY 11 (h := ?_)
       refine takeY 12 (h := ?_)
       refine takeY 15 (h := ?_)
       (try simp only [Act.put, List.setIfInBounds_toArray, List.set_cons_zero, List.set_cons_succ])
       refine wpAnyH_ready (rs := [10]) (by kernel_rfl) (by simp) ?_
       refine AllReadyH.cons (by (simp only [List.getElem?_toArray, List.getElem?_cons_succ, List.getElem?_cons_zero]) <;> rfl) (fun KX hK => ?_) AllReadyH.nil
       go_simp
       with_reducible refine (Tryz.matTurn up R C K _ _ (HP.out.below HBW.out) (by omega) (by omega) (by omega) (by omega)).mono ?_
       rintro e wrd24 ⟨⟨ut, rfl, hut⟩, hb⟩
       clear hHeld
       replace HBW := Lib.hid (HBW.out.trans (hb.mono HBW.out.size))
       replace HD := Lib.hid (HD.out.below hb)
       replace HQD := Lib.hid (HQD.out.below hb)
       replace HF1 := Lib.hid (HF1.out.below hb)
       clear hb
       have HUT := Lib.hid hut
       clear hut
       refine hK.out _ _ ⟨HD.out.cell 0, HD.out.cell 1, HD.out.cell 2⟩ (fun hHeld => ?_)
       clear hK KX
       (try simp only [Act.put, List.setIfInBounds_toArray, List.set_cons_zero, List.set_cons_succ])
       refine wpAnyH_ready (rs := [13]) (by kernel_rfl) (by simp) ?_
       refine AllReadyH.cons (by (simp only [List.getElem?_toArray, List.getElem?_cons_succ, List.getElem?_cons_zero]) <;> rfl) (fun KX hK => ?_) AllReadyH.nil
       go_simp
       with_reducible refine (Tryz.matAt ut C R k i K _ _ HUT.out (by omega) (by omega) hK0).mono ?_
       rintro e wrd25 ⟨⟨x, rfl, hx⟩, hb⟩
       have hx : FracIs _ _ (mulF (matQ s1) (matQ s2) j i k) K := hx
       rw [HSUM.out] at hx
       clear hHeld
       replace HBW := Lib.hid (HBW.out.trans (hb.mono HBW.out.size))
       replace HD := Lib.hid (HD.out.below hb)
       replace HQD := Lib.hid (HQD.out.below hb)
       replace HF1 := Lib.hid (HF1.out.below hb)
       replace HUT := Lib.hid (HUT.out.below hb)
       clear hb
       have HF2 := Lib.hid hx
       clear hx
       refine hK.out _ _ ⟨HD.out.cell 0, HD.out.cell 1, HD.out.cell 2⟩ (fun hHeld => ?_)
       clear hK KX
       (try simp only [Act.put, List.setIfInBounds_toArray, List.set_cons_zero, List.set_cons_succ])
       refine wpAnyH_ready (rs := [14]) (by kernel_rfl) (by simp) ?_
       refine AllReadyH.cons (by (simp only [List.getElem?_toArray, List.getElem?_cons_succ, List.getElem?_cons_zero]) <;> rfl) (fun KX hK => ?_) AllReadyH.nil
       go_simp
       with_reducible refine (Tryz.fracText (.pointer x) q K _ HF2.out hK0 (by omega) (HTZ.out.after HBW.out)).mono ?_
       rintro e wrd26 ⟨rfl, hb⟩
       clear hHeld
       replace HBW := Lib.hid (HBW.out.trans (hb.mono HBW.out.size))
       replace HD := Lib.hid (HD.out.below hb)
       replace HQD := Lib.hid (HQD.out.below hb)
       replace HF1 := Lib.hid (HF1.out.below hb)
       replace HUT := Lib.hid (HUT.out.below hb)
       replace HF2 := Lib.hid (HF2.out.below hb)
       clear hb
       refine hK.out _ _ ⟨HD.out.cell 0, HD.out.cell 1, HD.out.cell 2⟩ (fun hHeld => ?_)
       clear hK KX
       (try simp only [Act.put, List.setIfInBounds_toArray, List.set_cons_zero, List.set_cons_succ])
       refine wpAnyH_ready (rs := [16]) (by kernel_rfl) (by simp) ?_
       refine AllReadyH.cons (by (simp only [List.getElem?_toArray, List.getElem?_cons_succ, List.getElem?_cons_zero]) <;> rfl) (fun KX hK => ?_) AllReadyH.nil
       go_simp
       with_reducible refine (Tryz.rQTextA (.agg #[.bool eb, .slice ep2 en2 ec2, .slice ep3 en3 ec3]) q (1 + j * 1003) _ HQD.out (by omega) (by omega)).mono ?_
       rintro e wrd27 ⟨rfl, hb⟩
       clear hHeld
       replace HBW := Lib.hid (HBW.out.trans (hb.mono HBW.out.size))
       replace HD := Lib.hid (HD.out.below hb)
       replace HQD := Lib.hid (HQD.out.below hb)
       replace HF1 := Lib.hid (HF1.out.below hb)
       replace HUT := Lib.hid (HUT.out.below hb)
       replace HF2 := Lib.hid (HF2.out.below hb)
       clear hb
       refine hK.out _ _ ⟨HD.out.cell 0, HD.out.cell 1, HD.out.cell 2⟩ (fun hHeld => ?_)
       clear hK KX
       (try simp only [Act.put, List.setIfInBounds_toArray, List.set_cons_zero, List.set_cons_succ])
       refine takeY 17 (h := ?_)
       refine takeY 18 (h := ?_)
       (try simp only [Act.put, List.setIfInBounds_toArray, List.set_cons_zero, List.set_cons_succ])
       refine wpAnyH_done (by kernel_rfl) ?_ _
       clear hHeld HF1 HF2 HUT HD HQD
       go_wp2
       go_roundw
       case rel => exact ⟨k + 1, by go_num, by omega, HBW.out⟩
       case measure => simp [intOf]; omega
    ·have e3 : decide ((k : Int) < (C : Int)) = false := by simp; omega
     have e3' : decide (k < C) = false := by simpa using hlk
     have HBW := Lib.hid hb2
     clear hb2
     go_wp2
     go_roundw
     case rel => exact ⟨i + 1, by go_num, by omega, HBW.out⟩
     case measure => simp [intOf]; omega
  ·have e3 : decide ((i : Int) < (R : Int)) = false := by simp; omega
   have e3' : decide (i < R) = false := by simpa using hlt
   have HBW := Lib.hid hb1
   clear hb1
   by_cases hCR : C = R
   ·subst hCR
    go_wp2_with fail
    with_reducible refine (Tryz.matMul un um m C m 120 120 (matQ s2) (matQ s1) _ (HN.out.below HBW.out) (HU.out.below HBW.out) (by omega) (by omega) (by omega) (by omega) (by omega) (by omega) (by omega) (by omega)).mono ?_
    rintro e w91 ⟨⟨r, rfl, -⟩, hb⟩
    have HE := Lib.hid (HB.out.trans ((HBW.out.trans (hb.mono HBW.out.size)).mono HB.out.size))
    clear hb
    go_wp2
    go_ret
    exact ⟨by simp, HE.out⟩
   ·have e4 : ((R : Int) == (C : Int)) = false := by simp; omega
    have e5 : (R == C) = false := by simp; omega
    have e6 : decide (R = C) = false := by simp; omega
    go_wp2_with fail
    with_reducible refine (Tryz.matMulBad un um m C R m 120 120 (matQ s2) (matQ s1) _ (HN.out.below HBW.out) (HU.out.below HBW.out) hCR).mono ?_
    rintro e w91 ⟨rfl, hb⟩
    have HE := Lib.hid (HB.out.trans ((HBW.out.trans (hb.mono HBW.out.size)).mono HB.out.size))
    clear hb
    go_wp2
    go_ret
    exact ⟨by simp, HE.out⟩
end Go.Proofs.Mt
