/- VecAll: vectors: what stands where, sums, products: the call returns true. -/
import Derived.Test.YtcnjcfoaoaldeaaGreatDoorVe
import Derived.Test.YtcnjcfoaoaldeaaGreatDoorRn
import Derived.IntWalk
set_option linter.unusedVariables false
set_option maxHeartbeats 16000000
set_option maxRecDepth 100000
namespace Go.Proofs.Vt
open Go.RowKit Go.Proofs.Wd Go.Proofs.Fr
open Vm (T Rise Full In)
theorem text_ne {q : Rat} (h : q ≠ 0) : (⟨(textQ q).toArray⟩ : ByteArray) ≠ ⟨#[48]⟩ := by
 intro e
 have e : textQ q = [48] := by
  have := congrArg (fun b : ByteArray => b.data.toList) e
  simpa using this
 unfold textQ at e
 split at e
 ·simp at e
 ·rw [List.nil_append] at e
  have hz : Lib.decDigits 0 = [48] := by simp [Lib.decDigits]
  have hl := congrArg List.length e
  rw [List.length_append] at hl
  have hd : 1 ≤ (Lib.decDigits q.num.natAbs).length := by
   have := Tx.dec_ne q.num.natAbs
   rcases hx : Lib.decDigits q.num.natAbs with _ | ⟨a, l⟩
   ·exact absurd hx this
   ·simp
  split at e
  ·rw [List.append_nil, ← hz] at e
   have := Tx.dec_inj e
   exact h (by rw [← Rat.num_eq_zero]; omega)
  ·rename_i h1 h2
   rw [if_neg h2] at hl
   simp at hl
   omega
theorem not48 {t : ByteArray} (h : t ≠ ⟨#[48]⟩) : (t.toList == [48]) = false := by
 rw [ByteArray.toList_eq]
 obtain ⟨⟨l⟩⟩ := t
 simpa using h
theorem addQ_at (q : Rat) {l r : T} (hl : Vec10 l) (hr : Vec10 r) (i : Int) : Vm.at_ (addQ q l r) i = Vm.at_ l i + q * Vm.at_ r i := by
 unfold addQ
 split
 ·rename_i h; rw [h, Rat.zero_mul, Rat.add_zero]
 ·rw [Vm.at_add _ _ _ hl.rise hr.rise, Rat.mul_comm]
theorem in30 {cs : C} (h : CoefOk 30 cs) : In 31 (Vm.keep (termsOf cs)) := fun t ht => by
 have := termsOf_in (n := 30) h t (Vm.mem_keep ht)
 omega
theorem addQ_full (q : Rat) {l r : T} (hl : Vec10 l) (hr : Vec10 r) : Full (addQ q l r) := by
 unfold addQ
 split
 ·exact hl.full
 ·rename_i h; exact Vm.full_add _ h _ _ hl.full hr.full
theorem addQ_in (q : Rat) {n : Nat} {l r : T} (hl : In n l) (hr : In n r) : In n (addQ q l r) := by
 unfold addQ
 split
 ·exact hl
 ·exact Vm.in_add _ _ _ hl hr
/-- What the loop over the columns keeps to. -/
def AllAt (wz : World) (gd : Nat) (f g : Nat → Rat) (i c : Nat) (wr : World) : Prop :=
 Below wz.heap.size wz wr ∧ c = Vm.count f i ∧ ∃ db dp2 dn2 dc2 dp3 dn3 dc3, CellsAt wr gd #[.bool db, .slice dp2 dn2 dc2, .slice dp3 dn3 dc3] 35 ∧ QIs wr (.agg #[.bool db, .slice dp2 dn2 dc2, .slice dp3 dn3 dc3]) (Vm.sum g i) (1 + i * 1003)
/-- One cell. -/
structure Cell1 (w : World) (g j : Nat) (v : Value) : Prop where
 lt : g < w.heap.size
 is : w.cell? ⟨g, j, none⟩ = some v
theorem Cell1.below {w w' : World} {g j : Nat} {v : Value} (h : Cell1 w g j v) (hb : Below w.heap.size w w') : Cell1 w' g j v := ⟨Nat.lt_of_lt_of_le h.lt hb.size, by rw [hb.cell h.lt]; exact h.is⟩
theorem count_le (f : Nat → Rat) (n : Nat) : Vm.count f n ≤ n := by
 induction n with
 | zero => exact Nat.le_refl _
 | succ n ih => rw [Vm.count]; split <;> omega
theorem vecAllWalk (u1 u2 v1 v2 : Value) (z1 z2 : List Int) (s1 s2 : List ByteArray) (t : ByteArray) (w : World) (hu1 : IntsIn w u1 z1) (hu2 : IntsIn w u2 z2) (hv1 : StrsIn w v1 s1) (hv2 : StrsIn w v2 s2) (ht : t.size ≤ 9223372036854775807) (hT : TabOk w)
 (hB : Calls Tryz.prog 11 #[] w fun e w' => e = .returned (.bool true) ∧ Below w.heap.size w w') :
 Calls Tryz.prog 3 #[u1, u2, v1, v2, .string t] w fun e w' => e = .returned (.bool true) ∧ Below w.heap.size w w' := by
 have HT : Hid (TabOk w) := hT
 have HU1 := Lib.hid hu1
 have HU2 := Lib.hid hu2
 have HV1 := Lib.hid hv1
 have HV2 := Lib.hid hv2
 have HB : Hid (Below w.heap.size w w) := Below.refl _ _
 have HCT : Hid (∀ W, Calls Tryz.prog 15 #[.string t, .int .i64 20] W fun e w' => (∃ t : ByteArray, e = .returned (.string t) ∧ t.size ≤ 20) ∧ w' = W) := fun W => Tryz.cutText t 20 W ht (by omega)
 clear hT hu1 hu2 hv1 hv2
 go_enter Tryz.func3, Tryz.ntmps3
 go_wp2_with fail
 with_reducible refine (hB).mono ?_
 rintro e w1 ⟨rfl, hb⟩
 replace HB := Lib.hid (HB.out.trans (hb.mono HB.out.size))
 clear hb
 clear hB
 go_wp2_with fail
 with_reducible refine (Tryz.coefs u1 v1 z1 s1 _ (HU1.out.below HB.out) (HV1.out.below HB.out)).mono ?_
 rintro e w2 ⟨⟨l1, cs1, rfl, hl, hok, hn1⟩, hb⟩
 have HOK1 := Lib.hid hok
 clear hok
 replace HB := Lib.hid (HB.out.trans (hb.mono HB.out.size))
 clear hb
 have HL1 := Lib.hid hl.reads
 clear hl
 go_wp2_with fail
 with_reducible refine (Tryz.coefs u2 v2 z2 s2 _ (HU2.out.below HB.out) (HV2.out.below HB.out)).mono ?_
 rintro e w3 ⟨⟨l2, cs2, rfl, hl, hok, hn2⟩, hb⟩
 have HOK2 := Lib.hid hok
 clear hok
 replace HL1 := Lib.hid (HL1.out.below hb)
 replace HB := Lib.hid (HB.out.trans (hb.mono HB.out.size))
 clear hb
 have HL2 := Lib.hid hl.reads
 clear hl
 go_wp2_with fail
 with_reducible refine (Tryz.vecNew _ l1 cs1 _ HL1.out (coefOk_up HOK1.out (by omega)) (by omega)).mono ?_
 rintro e w4 ⟨⟨va, rfl, hva⟩, hb⟩
 replace HL1 := Lib.hid (HL1.out.below hb)
 replace HL2 := Lib.hid (HL2.out.below hb)
 replace HB := Lib.hid (HB.out.trans (hb.mono HB.out.size))
 clear hb
 have HX1 := Lib.hid (vec10 HOK1.out hn1)
 have HI1 := Lib.hid (in30 HOK1.out)
 have HAT1 : Hid (∀ i, Vm.at_ (termsOf cs1) i = Vm.at_ (Vm.keep (termsOf cs1)) i) := fun i => (Vm.at_keep _ (termsOf_rise HOK1.out) i).symm
 obtain ⟨ta, hta⟩ : ∃ ts, Vm.keep (termsOf cs1) = ts := ⟨_, rfl⟩
 rw [hta] at hva HX1 HI1 HAT1
 have HVa := Lib.hid hva
 clear hva hta
 go_wp2_with fail
 with_reducible refine (Tryz.vecNew _ l2 cs2 _ HL2.out (coefOk_up HOK2.out (by omega)) (by omega)).mono ?_
 rintro e w5 ⟨⟨vb, rfl, hvb⟩, hb⟩
 replace HL1 := Lib.hid (HL1.out.below hb)
 replace HL2 := Lib.hid (HL2.out.below hb)
 replace HVa := Lib.hid (HVa.out.below hb)
 replace HB := Lib.hid (HB.out.trans (hb.mono HB.out.size))
 clear hb
 have HX2 := Lib.hid (vec10 HOK2.out hn2)
 have HI2 := Lib.hid (in30 HOK2.out)
 have HAT2 : Hid (∀ i, Vm.at_ (termsOf cs2) i = Vm.at_ (Vm.keep (termsOf cs2)) i) := fun i => (Vm.at_keep _ (termsOf_rise HOK2.out) i).symm
 obtain ⟨tb, htb⟩ : ∃ ts, Vm.keep (termsOf cs2) = ts := ⟨_, rfl⟩
 rw [htb] at hvb HX2 HI2 HAT2
 have HVb := Lib.hid hvb
 clear hvb htb
 go_wp2_with fail
 with_reducible refine (HCT.out _).mono ?_
 rintro e w6 ⟨⟨t2, rfl, ht2⟩, rfl⟩
 go_wp2_with fail
 with_reducible refine (Tryz.lawF t2 _ (by omega)).mono ?_
 rintro e w7 ⟨⟨f, q, rfl, hf, hown⟩, hb⟩
 replace HL1 := Lib.hid (HL1.out.below hb)
 replace HL2 := Lib.hid (HL2.out.below hb)
 replace HVa := Lib.hid (HVa.out.below hb)
 replace HVb := Lib.hid (HVb.out.below hb)
 replace HB := Lib.hid (HB.out.trans (hb.mono HB.out.size))
 clear hb
 have HF := Lib.hid hf
 clear hf
 have HOWN := Lib.hid hown
 clear hown
 go_wp2_with fail
 with_reducible refine (Tryz.fracText f q 120 _ HF.out (by omega) (by omega) (HT.out.after HB.out)).mono ?_
 rintro e w8 ⟨rfl, hb⟩
 replace HL1 := Lib.hid (HL1.out.below hb)
 replace HL2 := Lib.hid (HL2.out.below hb)
 replace HVa := Lib.hid (HVa.out.below hb)
 replace HVb := Lib.hid (HVb.out.below hb)
 replace HF := Lib.hid (HF.out.below hb)
 replace HB := Lib.hid (HB.out.trans (hb.mono HB.out.size))
 clear hb
 obtain ⟨tq, htq⟩ : ∃ s : ByteArray, (⟨(textQ q).toArray⟩ : ByteArray) = s := ⟨_, rfl⟩
 rw [htq] at HOWN ⊢
 clear htq
 have hsz := getQ_size HOWN.out
 go_wp2_with fail
 with_reducible refine (Tryz.rGetA tq _ (by omega)).mono ?_
 rintro e w9 ⟨hget, hb⟩
 replace HL1 := Lib.hid (HL1.out.below hb)
 replace HL2 := Lib.hid (HL2.out.below hb)
 replace HVa := Lib.hid (HVa.out.below hb)
 replace HVb := Lib.hid (HVb.out.below hb)
 replace HF := Lib.hid (HF.out.below hb)
 replace HB := Lib.hid (HB.out.trans (hb.mono HB.out.size))
 clear hb
 obtain ⟨xb, xp2, xn2, xc2, xp3, xn3, xc3, bok, rfl, -, hq⟩ := hget.parts
 have hq := hq q HOWN.out
 have HQX := Lib.hid hq
 clear hget hq HOWN
 obtain ⟨wx, hwx⟩ : ∃ W, w9.alloc (.cells #[.bool xb, .slice xp2 xn2 xc2, .slice xp3 xn3 xc3] 35) = W := ⟨_, rfl⟩
 have hbx : Below w9.heap.size w9 wx := by rw [← hwx]; exact (Below.refl _ _).alloc (Nat.le_refl _) _
 have HX := Lib.hid (CellsAt.new w9 #[.bool xb, .slice xp2 xn2 xc2, .slice xp3 xn3 xc3] 35 rfl)
 rw [hwx] at HX
 obtain ⟨gx, hgx⟩ : ∃ g, w9.heap.size = g := ⟨_, rfl⟩
 rw [hgx] at HX
 replace HL1 := Lib.hid (HL1.out.below hbx)
 replace HL2 := Lib.hid (HL2.out.below hbx)
 replace HVa := Lib.hid (HVa.out.below hbx)
 replace HVb := Lib.hid (HVb.out.below hbx)
 replace HF := Lib.hid (HF.out.below hbx)
 replace HQX := Lib.hid (HQX.out.below hbx)
 replace HB := Lib.hid (HB.out.trans (hbx.mono HB.out.size))
 clear hbx
 have ltx : gx < wx.heap.size := HX.out.lt
 go_wp2_with fail
 with_reducible refine (Tryz.vecAdd va f vb ta tb q 120 120 120 _ HVa.out HF.out HVb.out (by omega) (by omega) (by omega) (by omega) (by omega) (by omega) (by have := HX1.out.len; omega) (by have := HX2.out.len; omega)).mono ?_
 rintro e w10 ⟨⟨sv, rfl, hs⟩, hb⟩
 rw [show (if q = 0 then ta else Vm.add q ta tb) = addQ q ta tb from rfl] at hs
 replace HL1 := Lib.hid (HL1.out.below hb)
 replace HL2 := Lib.hid (HL2.out.below hb)
 replace HVa := Lib.hid (HVa.out.below hb)
 replace HVb := Lib.hid (HVb.out.below hb)
 replace HQX := Lib.hid (HQX.out.below hb)
 replace HX := Lib.hid (HX.out.below hb)
 replace HB := Lib.hid (HB.out.trans (hb.mono HB.out.size))
 clear hb HF
 have HS := Lib.hid hs
 clear hs
 have lts : gx < w10.heap.size := HX.out.lt
 clear hwx hgx ltx
 go_wp2_with fail
 with_reducible refine (Tryz.rZero _).mono ?_
 rintro e w11 ⟨⟨r, rfl, hr⟩, hb⟩
 obtain ⟨db, dp2, dn2, dc2, dp3, dn3, dc3, rfl⟩ := QIs.agg hr
 replace HL1 := Lib.hid (HL1.out.below hb)
 replace HL2 := Lib.hid (HL2.out.below hb)
 replace HVa := Lib.hid (HVa.out.below hb)
 replace HVb := Lib.hid (HVb.out.below hb)
 replace HQX := Lib.hid (HQX.out.below hb)
 replace HX := Lib.hid (HX.out.below hb)
 replace HS := Lib.hid (HS.out.below hb)
 replace HB := Lib.hid (HB.out.trans (hb.mono HB.out.size))
 clear hb
 obtain ⟨wd, hwd⟩ : ∃ W, w11.alloc (.cells #[.bool db, .slice dp2 dn2 dc2, .slice dp3 dn3 dc3] 35) = W := ⟨_, rfl⟩
 have hbd : Below w11.heap.size w11 wd := by rw [← hwd]; exact (Below.refl _ _).alloc (Nat.le_refl _) _
 have hcd := CellsAt.new w11 #[.bool db, .slice dp2 dn2 dc2, .slice dp3 dn3 dc3] 35 rfl
 rw [hwd] at hcd
 obtain ⟨gd, hgd⟩ : ∃ g, w11.heap.size = g := ⟨_, rfl⟩
 rw [hgd] at hcd
 obtain ⟨tab, htab⟩ : ∃ ts, addQ q ta tb = ts := ⟨_, rfl⟩
 rw [htab] at HS
 have hfac := addQ_facts q HX1.out HX2.out
 have hfull := addQ_full q HX1.out HX2.out
 have hin := addQ_in q HI1.out HI2.out
 have haq := addQ_at q HX1.out HX2.out
 rw [htab] at hfac hfull hin
 have haq : ∀ i : Int, Vm.at_ tab i = Vm.at_ ta i + q * Vm.at_ tb i := fun i => by rw [← htab]; exact haq i
 have HFAC := Lib.hid hfac
 have HFULL := Lib.hid hfull
 have HIN := Lib.hid hin
 have HAQ := Lib.hid haq
 have ltab : tab.length ≤ 20 := hfac.2.2.2
 have hst : AllAt w11 gd (fun i => Vm.at_ tab i) (fun i => Vm.at_ ta i * Vm.at_ tb i) 0 0 wd := ⟨hbd, rfl, db, dp2, dn2, dc2, dp3, dn3, dc3, hcd, hr.below hbd⟩
 have HST := Lib.hid hst
 have HGD := Lib.hid hgd
 have hxd : gx < gd := by have := HX.out.lt; omega
 have lgd : w11.heap.size ≤ gd := by omega
 have lta := HX1.out.len
 have ltb := HX2.out.len
 have HTZ : Hid (TabOk w11) := HT.out.after HB.out
 clear hbd hcd hfac hfull hin haq htab hr hst lts
 have HB0 := HB
 clear HB
 go_wp2_with fail
 clear hwd hgd
 go_loopw [23, 24] (fun nv iv wr => ∃ i c : Nat, nv = .int .i64 c ∧ iv = .int .i64 i ∧ i ≤ 31 ∧ AllAt w11 gd (fun i => Vm.at_ tab i) (fun i => Vm.at_ ta i * Vm.at_ tb i) i c wr) (fun _ iv _ => 31 - (intOf iv).toNat)
 case atStart => exact ⟨0, 0, rfl, rfl, by omega, HST.out⟩
 case round =>
  obtain ⟨i, c, rfl, rfl, hi31, hall⟩ := hrel
  obtain ⟨hb, hcc, eb, ep2, en2, ec2, ep3, en3, ec3, hcd, hqd⟩ := hall
  have hc31 : c ≤ i := by rw [hcc]; exact count_le _ _
  have HB := Lib.hid hb
  have HCC := Lib.hid hcc
  have HD := Lib.hid hcd
  have HQD := Lib.hid hqd
  clear hb hcc hcd hqd
  by_cases hlt : i < 31
  ·have hi0 : (0 : Int) ≤ (i : Int) := by omega
   have hi1 : (i : Int) < 31 := by omega
   go_wp2_with fail
   with_reducible refine (Tryz.lawAt _ l1 cs1 30 i _ (HL1.out.below HB.out) HOK1.out (by omega)).mono ?_
   rintro e w31 ⟨⟨r, rfl, hr⟩, hb⟩
   obtain ⟨pb, pp2, pn2, pc2, pp3, pn3, pc3, rfl⟩ := QIs.agg hr
   rw [HAT1.out] at hr
   replace HD := Lib.hid (HD.out.below hb)
   replace HQD := Lib.hid (HQD.out.below hb)
   replace HB := Lib.hid (HB.out.trans (hb.mono HB.out.size))
   clear hb
   have HQP := Lib.hid hr
   clear hr
   go_wp2_with fail
   with_reducible refine (Tryz.lawAt _ l2 cs2 30 i _ (HL2.out.below HB.out) HOK2.out (by omega)).mono ?_
   rintro e w32 ⟨⟨r, rfl, hr⟩, hb⟩
   obtain ⟨qb, qp2, qn2, qc2, qp3, qn3, qc3, rfl⟩ := QIs.agg hr
   rw [HAT2.out] at hr
   replace HD := Lib.hid (HD.out.below hb)
   replace HQD := Lib.hid (HQD.out.below hb)
   replace HQP := Lib.hid (HQP.out.below hb)
   replace HB := Lib.hid (HB.out.trans (hb.mono HB.out.size))
   clear hb
   have HQQ := Lib.hid hr
   clear hr
   obtain ⟨pa, hpa⟩ : ∃ x, Vm.at_ ta (i : Int) = x := ⟨_, rfl⟩
   obtain ⟨qa, hqa⟩ : ∃ x, Vm.at_ tb (i : Int) = x := ⟨_, rfl⟩
   obtain ⟨sa, hsa⟩ : ∃ x, Vm.at_ tab (i : Int) = x := ⟨_, rfl⟩
   have HSA : Hid (sa = pa + q * qa) := by rw [← hpa, ← hqa, ← hsa]; exact HAQ.out _
   rw [hpa] at HQP
   rw [hqa] at HQQ
   have HPA := Lib.hid hpa
   have HQA := Lib.hid hqa
   have HSS := Lib.hid hsa
   clear hpa hqa hsa
   obtain ⟨wa, hwa⟩ : ∃ W, w32.alloc (.cells #[.bool false, .slice none 0 0, .slice none 0 0] 35) = W := ⟨_, rfl⟩
   obtain ⟨wb, hwb⟩ : ∃ W, wa.alloc (.cells #[.bool false, .slice none 0 0, .slice none 0 0] 35) = W := ⟨_, rfl⟩
   have ha1 : Below w32.heap.size w32 wa := by rw [← hwa]; exact (Below.refl _ _).alloc (Nat.le_refl _) _
   have hb1 : Below wa.heap.size wa wb := by rw [← hwb]; exact (Below.refl _ _).alloc (Nat.le_refl _) _
   have ca := CellsAt.new w32 #[.bool false, .slice none 0 0, .slice none 0 0] 35 rfl
   have cb := CellsAt.new wa #[.bool false, .slice none 0 0, .slice none 0 0] 35 rfl
   rw [hwa] at ca
   rw [hwb] at cb
   obtain ⟨gp, hgp⟩ : ∃ g, w32.heap.size = g := ⟨_, rfl⟩
   obtain ⟨gq, hgq⟩ : ∃ g, wa.heap.size = g := ⟨_, rfl⟩
   rw [hgp] at ca
   rw [hgq] at cb
   have lp : gp < gq := by rw [← hgq]; exact ca.lt
   have ldp : gd < gp := by rw [← hgp]; exact HD.out.lt
   have lB : w11.heap.size ≤ gp := by rw [← hgp]; exact HB.out.size
   have hab := ha1.trans (hb1.mono ha1.size)
   have ca := ca.below hb1
   have HDb := Lib.hid (HD.out.below hab)
   have HBb := Lib.hid (HB.out.trans (hab.mono HB.out.size))
   have HQDb := Lib.hid (HQD.out.below hab)
   have HQPb := Lib.hid (HQP.out.below hab)
   have HQQb := Lib.hid (HQQ.out.below hab)
   clear HD HB HQD HQP HQQ ha1 hb1 hab
   obtain ⟨wg, hwg⟩ : ∃ W, ((wb.setCell ⟨gp, 0, none⟩ (.bool pb)).setCell ⟨gp, 1, none⟩ (.slice pp2 pn2 pc2)).setCell ⟨gp, 2, none⟩ (.slice pp3 pn3 pc3) = W := ⟨_, rfl⟩
   have HP : Hid (CellsAt wg gp #[.bool pb, .slice pp2 pn2 pc2, .slice pp3 pn3 pc3] 35) := by rw [← hwg]; exact CellsAt.put3 ca
   have HQc : Hid (CellsAt wg gq #[.bool false, .slice none 0 0, .slice none 0 0] 35) := by rw [← hwg]; exact ((cb.other (g := gp) (by omega) 0 _).other (g := gp) (by omega) 1 _).other (g := gp) (by omega) 2 _
   have HDc : Hid (CellsAt wg gd #[.bool eb, .slice ep2 en2 ec2, .slice ep3 en3 ec3] 35) := by rw [← hwg]; exact ((HDb.out.other (g := gp) (by omega) 0 _).other (g := gp) (by omega) 1 _).other (g := gp) (by omega) 2 _
   have HBc : Hid (Below w11.heap.size w11 wg) := by rw [← hwg]; exact ((HBb.out.setCell (p := ⟨gp, 0, none⟩) (show _ ≤ gp by omega) _).setCell (p := ⟨gp, 1, none⟩) (show _ ≤ gp by omega) _).setCell (p := ⟨gp, 2, none⟩) (show _ ≤ gp by omega) _
   have HQDc : Hid (QIs wg (.agg #[.bool eb, .slice ep2 en2 ec2, .slice ep3 en3 ec3]) (Vm.sum (fun i => Vm.at_ ta i * Vm.at_ tb i) i) (1 + i * 1003)) := by rw [← hwg]; exact q_put HQDb.out ca
   have HQPc : Hid (QIs wg (.agg #[.bool pb, .slice pp2 pn2 pc2, .slice pp3 pn3 pc3]) pa 500) := by rw [← hwg]; exact q_put HQPb.out ca
   have HQQc : Hid (QIs wg (.agg #[.bool qb, .slice qp2 qn2 qc2, .slice qp3 qn3 qc3]) qa 500) := by rw [← hwg]; exact q_put HQQb.out ca
   obtain ⟨wf, hwf⟩ : ∃ W, ((wg.setCell ⟨gq, 0, none⟩ (.bool qb)).setCell ⟨gq, 1, none⟩ (.slice qp2 qn2 qc2)).setCell ⟨gq, 2, none⟩ (.slice qp3 qn3 qc3) = W := ⟨_, rfl⟩
   have HPf : Hid (CellsAt wf gp #[.bool pb, .slice pp2 pn2 pc2, .slice pp3 pn3 pc3] 35) := by rw [← hwf]; exact ((HP.out.other (g := gq) (by omega) 0 _).other (g := gq) (by omega) 1 _).other (g := gq) (by omega) 2 _
   have HQf : Hid (CellsAt wf gq #[.bool qb, .slice qp2 qn2 qc2, .slice qp3 qn3 qc3] 35) := by rw [← hwf]; exact CellsAt.put3 HQc.out
   have HDf : Hid (CellsAt wf gd #[.bool eb, .slice ep2 en2 ec2, .slice ep3 en3 ec3] 35) := by rw [← hwf]; exact ((HDc.out.other (g := gq) (by omega) 0 _).other (g := gq) (by omega) 1 _).other (g := gq) (by omega) 2 _
   have HBf : Hid (Below w11.heap.size w11 wf) := by rw [← hwf]; exact ((HBc.out.setCell (p := ⟨gq, 0, none⟩) (show _ ≤ gq by omega) _).setCell (p := ⟨gq, 1, none⟩) (show _ ≤ gq by omega) _).setCell (p := ⟨gq, 2, none⟩) (show _ ≤ gq by omega) _
   have HQDf : Hid (QIs wf (.agg #[.bool eb, .slice ep2 en2 ec2, .slice ep3 en3 ec3]) (Vm.sum (fun i => Vm.at_ ta i * Vm.at_ tb i) i) (1 + i * 1003)) := by rw [← hwf]; exact q_put HQDc.out HQc.out
   have HQPf : Hid (QIs wf (.agg #[.bool pb, .slice pp2 pn2 pc2, .slice pp3 pn3 pc3]) pa 500) := by rw [← hwf]; exact q_put HQPc.out HQc.out
   have HQQf : Hid (QIs wf (.agg #[.bool qb, .slice qp2 qn2 qc2, .slice qp3 qn3 qc3]) qa 500) := by rw [← hwf]; exact q_put HQQc.out HQc.out
   have a0 := ca.cell 0
   have a1 := ca.cell 1
   have a2 := ca.cell 2
   have af0 := ca.free 0
   have af1 := ca.free 1
   have af2 := ca.free 2
   have b0 := HQc.out.cell 0
   have b1 := HQc.out.cell 1
   have b2 := HQc.out.cell 2
   have bf0 := HQc.out.free 0
   have bf1 := HQc.out.free 1
   have bf2 := HQc.out.free 2
   simp only [List.getElem?_toArray, List.getElem?_cons_zero, List.getElem?_cons_succ] at a0 a1 a2 b0 b1 b2
   clear ca cb HDb HBb HQDb HQPb HQQb HP HQc HDc HBc HQDc HQPc HQQc
   go_upto_region 18 with (fail)
   clear hwa hwb hwg hwf hgp hgq a0 a1 a2 b0 b1 b2 af0 af1 af2 bf0 bf1 bf2
   have lgs : gq < wf.heap.size := HQf.out.lt
   go_cut [27] from 79 to 83 (fun sv wx => ∃ gs sb sp2 sn2 sc2 sp3 sn3 sc3, sv = .pointer (some ⟨gs, 0, none⟩) ∧ CellsAt wx gs #[.bool sb, .slice sp2 sn2 sc2, .slice sp3 sn3 sc3] 35 ∧ QIs wx (.agg #[.bool sb, .slice sp2 sn2 sc2, .slice sp3 sn3 sc3]) sa 1503 ∧ wf.heap.size ≤ gs ∧ Below wf.heap.size wf wx)
   case first =>
    have HX_ := Lib.hid (HX.out.below HBf.out)
    have HQX_ := Lib.hid (HQX.out.below HBf.out)
    have HB : Hid (Below wf.heap.size wf wf) := Below.refl _ _
    clear HX HQX HBf HDf HQDf HL1 HL2 HVa HVb HS
    have HP := HPf
    clear HPf
    have HQ := HQf
    clear HQf
    have HX := HX_
    clear HX_
    have HQX := HQX_
    clear HQX_
    have HQP := HQPf
    clear HQPf
    have HQQ := HQQf
    clear HQQf
    refine wp_region_held_drew (S := fun w' => w'.cell? ⟨gp, 0, none⟩ = some (.bool pb) ∧ w'.cell? ⟨gp, 1, none⟩ = some (.slice pp2 pn2 pc2) ∧ w'.cell? ⟨gp, 2, none⟩ = some (.slice pp3 pn3 pc3) ∧ w'.cell? ⟨gx, 0, none⟩ = some (.bool xb) ∧ w'.cell? ⟨gx, 1, none⟩ = some (.slice xp2 xn2 xc2) ∧ w'.cell? ⟨gx, 2, none⟩ = some (.slice xp3 xn3 xc3) ∧ w'.cell? ⟨gq, 0, none⟩ = some (.bool qb) ∧ w'.cell? ⟨gq, 1, none⟩ = some (.slice qp2 qn2 qc2) ∧ w'.cell? ⟨gq, 2, none⟩ = some (.slice qp3 qn3 qc3)) (by kernel_rfl) ⟨HP.out.cell 0, HP.out.cell 1, HP.out.cell 2, HX.out.cell 0, HX.out.cell 1, HX.out.cell 2, HQ.out.cell 0, HQ.out.cell 1, HQ.out.cell 2⟩ (fun hHeld => ?_)
    replace HB := Lib.hid (HB.out.drew)
    replace HP := Lib.hid (HP.out.below (Below.refl _ _).drew)
    replace HQ := Lib.hid (HQ.out.below (Below.refl _ _).drew)
    replace HX := Lib.hid (HX.out.below (Below.refl _ _).drew)
    replace HQX := Lib.hid (HQX.out.below (Below.refl _ _).drew)
    replace HQP := Lib.hid (HQP.out.below (Below.refl _ _).drew)
    replace HQQ := Lib.hid (HQQ.out.below (Below.refl _ _).drew)
    clear hHeld
    generalize wf.drew = wfd at *
    have hHeld : (fun w' : World => w'.cell? ⟨gp, 0, none⟩ = some (.bool pb) ∧ w'.cell? ⟨gp, 1, none⟩ = some (.slice pp2 pn2 pc2) ∧ w'.cell? ⟨gp, 2, none⟩ = some (.slice pp3 pn3 pc3) ∧ w'.cell? ⟨gx, 0, none⟩ = some (.bool xb) ∧ w'.cell? ⟨gx, 1, none⟩ = some (.slice xp2 xn2 xc2) ∧ w'.cell? ⟨gx, 2, none⟩ = some (.slice xp3 xn3 xc3) ∧ w'.cell? ⟨gq, 0, none⟩ = some (.bool qb) ∧ w'.cell? ⟨gq, 1, none⟩ = some (.slice qp2 qn2 qc2) ∧ w'.cell? ⟨gq, 2, none⟩ = some (.slice qp3 qn3 qc3)) wfd := ⟨HP.out.cell 0, HP.out.cell 1, HP.out.cell 2, HX.out.cell 0, HX.out.cell 1, HX.out.cell 2, HQ.out.cell 0, HQ.out.cell 1, HQ.out.cell 2⟩
    refine takeY 0 (h := ?_)
    refine takeY 1 (h := ?_)
    refine takeY 2 (h := ?_)
    (try simp only [Act.put, List.setIfInBounds_toArray, List.set_cons_zero, List.set_cons_succ])
    refine wpAnyH_ready (rs := [3, 5]) (by kernel_rfl) (by simp) ?_
    refine AllReadyH.cons (by (simp only [List.getElem?_toArray, List.getElem?_cons_succ, List.getElem?_cons_zero]) <;> rfl) (fun KX hK => ?_) (AllReadyH.cons (by (simp only [List.getElem?_toArray, List.getElem?_cons_succ, List.getElem?_cons_zero]) <;> rfl) (fun KX hK => ?_) AllReadyH.nil)
    ·skip
     go_simp
     with_reducible refine (Tryz.rProd (.agg #[.bool xb, .slice xp2 xn2 xc2, .slice xp3 xn3 xc3]) (.agg #[.bool qb, .slice qp2 qn2 qc2, .slice qp3 qn3 qc3]) q qa 500 500 _ HQX.out HQQ.out (by omega)).mono ?_
     rintro e wfd21 ⟨⟨r, rfl, hr⟩, hb⟩
     obtain ⟨mb, mp2, mn2, mc2, mp3, mn3, mc3, rfl⟩ := QIs.agg hr
     clear hHeld
     replace HB := Lib.hid (HB.out.trans (hb.mono HB.out.size))
     replace HP := Lib.hid (HP.out.below hb)
     replace HQ := Lib.hid (HQ.out.below hb)
     replace HX := Lib.hid (HX.out.below hb)
     replace HQX := Lib.hid (HQX.out.below hb)
     replace HQP := Lib.hid (HQP.out.below hb)
     replace HQQ := Lib.hid (HQQ.out.below hb)
     clear hb
     have HQM := Lib.hid hr
     clear hr
     refine hK.out _ _ ⟨HP.out.cell 0, HP.out.cell 1, HP.out.cell 2, HX.out.cell 0, HX.out.cell 1, HX.out.cell 2, HQ.out.cell 0, HQ.out.cell 1, HQ.out.cell 2⟩ (fun hHeld => ?_)
     clear hK KX
     (try simp only [Act.put, List.setIfInBounds_toArray, List.set_cons_zero, List.set_cons_succ])
     refine wpAnyH_ready (rs := [4, 5]) (by kernel_rfl) (by simp) ?_
     refine AllReadyH.cons (by (simp only [List.getElem?_toArray, List.getElem?_cons_succ, List.getElem?_cons_zero]) <;> rfl) (fun KX hK => ?_) (AllReadyH.cons (by (simp only [List.getElem?_toArray, List.getElem?_cons_succ, List.getElem?_cons_zero]) <;> rfl) (fun KX hK => ?_) AllReadyH.nil)
     ·skip
      go_simp
      with_reducible refine (Tryz.rSum (.agg #[.bool pb, .slice pp2 pn2 pc2, .slice pp3 pn3 pc3]) (.agg #[.bool mb, .slice mp2 mn2 mc2, .slice mp3 mn3 mc3]) pa (q * qa) 500 1001 _ HQP.out HQM.out (by omega)).mono ?_
      rintro e wfd22 ⟨⟨r, rfl, hr⟩, hb⟩
      obtain ⟨sb, sp2, sn2, sc2, sp3, sn3, sc3, rfl⟩ := QIs.agg hr
      clear hHeld
      replace HB := Lib.hid (HB.out.trans (hb.mono HB.out.size))
      replace HP := Lib.hid (HP.out.below hb)
      replace HQ := Lib.hid (HQ.out.below hb)
      replace HX := Lib.hid (HX.out.below hb)
      replace HQX := Lib.hid (HQX.out.below hb)
      replace HQP := Lib.hid (HQP.out.below hb)
      replace HQQ := Lib.hid (HQQ.out.below hb)
      replace HQM := Lib.hid (HQM.out.below hb)
      clear hb
      have HQS := Lib.hid hr
      clear hr
      refine hK.out _ _ ⟨HP.out.cell 0, HP.out.cell 1, HP.out.cell 2, HX.out.cell 0, HX.out.cell 1, HX.out.cell 2, HQ.out.cell 0, HQ.out.cell 1, HQ.out.cell 2⟩ (fun hHeld => ?_)
      clear hK KX
      (try simp only [Act.put, List.setIfInBounds_toArray, List.set_cons_zero, List.set_cons_succ])
      refine wpAnyH_ready (rs := [5]) (by kernel_rfl) (by simp) ?_
      refine AllReadyH.cons (by (simp only [List.getElem?_toArray, List.getElem?_cons_succ, List.getElem?_cons_zero]) <;> rfl) (fun KX hK => ?_) AllReadyH.nil
      go_simp
      have hb : Below wfd22.heap.size wfd22 (wfd22.alloc (.cells #[.bool false, .slice none 0 0, .slice none 0 0] 35)) := (Below.refl _ _).alloc (Nat.le_refl _) _
      have HZ := Lib.hid (CellsAt.new wfd22 #[.bool false, .slice none 0 0, .slice none 0 0] 35 rfl)
      have lHZHP : gp < wfd22.heap.size := HP.out.lt
      have lHZHX : gx < wfd22.heap.size := HX.out.lt
      have lHZHQ : gq < wfd22.heap.size := HQ.out.lt
      have lHZ := HB.out.size
      clear hHeld
      replace HB := Lib.hid (HB.out.trans (hb.mono HB.out.size))
      replace HP := Lib.hid (HP.out.below hb)
      replace HQ := Lib.hid (HQ.out.below hb)
      replace HX := Lib.hid (HX.out.below hb)
      replace HQX := Lib.hid (HQX.out.below hb)
      replace HQP := Lib.hid (HQP.out.below hb)
      replace HQQ := Lib.hid (HQQ.out.below hb)
      replace HQM := Lib.hid (HQM.out.below hb)
      replace HQS := Lib.hid (HQS.out.below hb)
      clear hb
      generalize wfd22.alloc (.cells #[.bool false, .slice none 0 0, .slice none 0 0] 35) = wfd23 at *
      generalize wfd22.heap.size = gHZ at *
      refine hK.out _ _ ⟨HP.out.cell 0, HP.out.cell 1, HP.out.cell 2, HX.out.cell 0, HX.out.cell 1, HX.out.cell 2, HQ.out.cell 0, HQ.out.cell 1, HQ.out.cell 2⟩ (fun hHeld => ?_)
      clear hK KX
      (try simp only [Act.put, List.setIfInBounds_toArray, List.set_cons_zero, List.set_cons_succ])
      refine wpAnyH_ready (rs := [6]) (by kernel_rfl) (by simp) ?_
      refine AllReadyH.cons (by (simp only [List.getElem?_toArray, List.getElem?_cons_succ, List.getElem?_cons_zero]) <;> rfl) (fun KX hK => ?_) AllReadyH.nil
      have d0 := HZ.out.cell 0
      have f0 := HZ.out.free 0
      have d1 := HZ.out.cell 1
      have f1 := HZ.out.free 1
      have d2 := HZ.out.cell 2
      have f2 := HZ.out.free 2
      simp only [List.getElem?_toArray, List.getElem?_cons_zero, List.getElem?_cons_succ] at d0 d1 d2
      go_simp
      replace HQS := Lib.hid (q_put (x := .bool sb) (y := .slice sp2 sn2 sc2) (u := .slice sp3 sn3 sc3) HQS.out HZ.out)
      replace HP := Lib.hid (((HP.out.other (g := gHZ) (by omega) 0 (.bool sb)).other (g := gHZ) (by omega) 1 (.slice sp2 sn2 sc2)).other (g := gHZ) (by omega) 2 (.slice sp3 sn3 sc3))
      replace HX := Lib.hid (((HX.out.other (g := gHZ) (by omega) 0 (.bool sb)).other (g := gHZ) (by omega) 1 (.slice sp2 sn2 sc2)).other (g := gHZ) (by omega) 2 (.slice sp3 sn3 sc3))
      replace HQ := Lib.hid (((HQ.out.other (g := gHZ) (by omega) 0 (.bool sb)).other (g := gHZ) (by omega) 1 (.slice sp2 sn2 sc2)).other (g := gHZ) (by omega) 2 (.slice sp3 sn3 sc3))
      replace HB := Lib.hid (((HB.out.setCell (p := ⟨gHZ, 0, none⟩) (show _ ≤ gHZ by omega) (.bool sb)).setCell (p := ⟨gHZ, 1, none⟩) (show _ ≤ gHZ by omega) (.slice sp2 sn2 sc2)).setCell (p := ⟨gHZ, 2, none⟩) (show _ ≤ gHZ by omega) (.slice sp3 sn3 sc3))
      replace HZ := Lib.hid (CellsAt.put3 (x := .bool sb) (y := .slice sp2 sn2 sc2) (z := .slice sp3 sn3 sc3) HZ.out)
      clear hHeld d0 d1 d2 f0 f1 f2 HQX HQP HQQ HQM
      generalize ((wfd23.setCell ⟨gHZ, 0, none⟩ (.bool sb)).setCell ⟨gHZ, 1, none⟩ (.slice sp2 sn2 sc2)).setCell ⟨gHZ, 2, none⟩ (.slice sp3 sn3 sc3) = wfd24 at *
      refine hK.out _ _ ⟨HP.out.cell 0, HP.out.cell 1, HP.out.cell 2, HX.out.cell 0, HX.out.cell 1, HX.out.cell 2, HQ.out.cell 0, HQ.out.cell 1, HQ.out.cell 2⟩ (fun hHeld => ?_)
      clear hK KX
      (try simp only [Act.put, List.setIfInBounds_toArray, List.set_cons_zero, List.set_cons_succ])
      refine wpAnyH_done (by kernel_rfl) ?_ _
      go_wp2_with fail
      go_meet
      exact ⟨gHZ, sb, sp2, sn2, sc2, sp3, sn3, sc3, rfl, HZ.out, by rw [HSA.out]; exact HQS.out, lHZ, HB.out⟩
     ·skip
      go_simp
      have hb : Below wfd21.heap.size wfd21 (wfd21.alloc (.cells #[.bool false, .slice none 0 0, .slice none 0 0] 35)) := (Below.refl _ _).alloc (Nat.le_refl _) _
      have HZ := Lib.hid (CellsAt.new wfd21 #[.bool false, .slice none 0 0, .slice none 0 0] 35 rfl)
      have lHZHP : gp < wfd21.heap.size := HP.out.lt
      have lHZHX : gx < wfd21.heap.size := HX.out.lt
      have lHZHQ : gq < wfd21.heap.size := HQ.out.lt
      have lHZ := HB.out.size
      clear hHeld
      replace HB := Lib.hid (HB.out.trans (hb.mono HB.out.size))
      replace HP := Lib.hid (HP.out.below hb)
      replace HQ := Lib.hid (HQ.out.below hb)
      replace HX := Lib.hid (HX.out.below hb)
      replace HQX := Lib.hid (HQX.out.below hb)
      replace HQP := Lib.hid (HQP.out.below hb)
      replace HQQ := Lib.hid (HQQ.out.below hb)
      replace HQM := Lib.hid (HQM.out.below hb)
      clear hb
      generalize wfd21.alloc (.cells #[.bool false, .slice none 0 0, .slice none 0 0] 35) = wfd22 at *
      generalize wfd21.heap.size = gHZ at *
      refine hK.out _ _ ⟨HP.out.cell 0, HP.out.cell 1, HP.out.cell 2, HX.out.cell 0, HX.out.cell 1, HX.out.cell 2, HQ.out.cell 0, HQ.out.cell 1, HQ.out.cell 2⟩ (fun hHeld => ?_)
      clear hK KX
      (try simp only [Act.put, List.setIfInBounds_toArray, List.set_cons_zero, List.set_cons_succ])
      refine wpAnyH_ready (rs := [4]) (by kernel_rfl) (by simp) ?_
      refine AllReadyH.cons (by (simp only [List.getElem?_toArray, List.getElem?_cons_succ, List.getElem?_cons_zero]) <;> rfl) (fun KX hK => ?_) AllReadyH.nil
      go_simp
      with_reducible refine (Tryz.rSum (.agg #[.bool pb, .slice pp2 pn2 pc2, .slice pp3 pn3 pc3]) (.agg #[.bool mb, .slice mp2 mn2 mc2, .slice mp3 mn3 mc3]) pa (q * qa) 500 1001 _ HQP.out HQM.out (by omega)).mono ?_
      rintro e wfd23 ⟨⟨r, rfl, hr⟩, hb⟩
      obtain ⟨sb, sp2, sn2, sc2, sp3, sn3, sc3, rfl⟩ := QIs.agg hr
      clear hHeld
      replace HB := Lib.hid (HB.out.trans (hb.mono HB.out.size))
      replace HP := Lib.hid (HP.out.below hb)
      replace HQ := Lib.hid (HQ.out.below hb)
      replace HX := Lib.hid (HX.out.below hb)
      replace HQX := Lib.hid (HQX.out.below hb)
      replace HQP := Lib.hid (HQP.out.below hb)
      replace HQQ := Lib.hid (HQQ.out.below hb)
      replace HQM := Lib.hid (HQM.out.below hb)
      replace HZ := Lib.hid (HZ.out.below hb)
      clear hb
      have HQS := Lib.hid hr
      clear hr
      refine hK.out _ _ ⟨HP.out.cell 0, HP.out.cell 1, HP.out.cell 2, HX.out.cell 0, HX.out.cell 1, HX.out.cell 2, HQ.out.cell 0, HQ.out.cell 1, HQ.out.cell 2⟩ (fun hHeld => ?_)
      clear hK KX
      (try simp only [Act.put, List.setIfInBounds_toArray, List.set_cons_zero, List.set_cons_succ])
      refine wpAnyH_ready (rs := [6]) (by kernel_rfl) (by simp) ?_
      refine AllReadyH.cons (by (simp only [List.getElem?_toArray, List.getElem?_cons_succ, List.getElem?_cons_zero]) <;> rfl) (fun KX hK => ?_) AllReadyH.nil
      have d0 := HZ.out.cell 0
      have f0 := HZ.out.free 0
      have d1 := HZ.out.cell 1
      have f1 := HZ.out.free 1
      have d2 := HZ.out.cell 2
      have f2 := HZ.out.free 2
      simp only [List.getElem?_toArray, List.getElem?_cons_zero, List.getElem?_cons_succ] at d0 d1 d2
      go_simp
      replace HQS := Lib.hid (q_put (x := .bool sb) (y := .slice sp2 sn2 sc2) (u := .slice sp3 sn3 sc3) HQS.out HZ.out)
      replace HP := Lib.hid (((HP.out.other (g := gHZ) (by omega) 0 (.bool sb)).other (g := gHZ) (by omega) 1 (.slice sp2 sn2 sc2)).other (g := gHZ) (by omega) 2 (.slice sp3 sn3 sc3))
      replace HX := Lib.hid (((HX.out.other (g := gHZ) (by omega) 0 (.bool sb)).other (g := gHZ) (by omega) 1 (.slice sp2 sn2 sc2)).other (g := gHZ) (by omega) 2 (.slice sp3 sn3 sc3))
      replace HQ := Lib.hid (((HQ.out.other (g := gHZ) (by omega) 0 (.bool sb)).other (g := gHZ) (by omega) 1 (.slice sp2 sn2 sc2)).other (g := gHZ) (by omega) 2 (.slice sp3 sn3 sc3))
      replace HB := Lib.hid (((HB.out.setCell (p := ⟨gHZ, 0, none⟩) (show _ ≤ gHZ by omega) (.bool sb)).setCell (p := ⟨gHZ, 1, none⟩) (show _ ≤ gHZ by omega) (.slice sp2 sn2 sc2)).setCell (p := ⟨gHZ, 2, none⟩) (show _ ≤ gHZ by omega) (.slice sp3 sn3 sc3))
      replace HZ := Lib.hid (CellsAt.put3 (x := .bool sb) (y := .slice sp2 sn2 sc2) (z := .slice sp3 sn3 sc3) HZ.out)
      clear hHeld d0 d1 d2 f0 f1 f2 HQX HQP HQQ HQM
      generalize ((wfd23.setCell ⟨gHZ, 0, none⟩ (.bool sb)).setCell ⟨gHZ, 1, none⟩ (.slice sp2 sn2 sc2)).setCell ⟨gHZ, 2, none⟩ (.slice sp3 sn3 sc3) = wfd24 at *
      refine hK.out _ _ ⟨HP.out.cell 0, HP.out.cell 1, HP.out.cell 2, HX.out.cell 0, HX.out.cell 1, HX.out.cell 2, HQ.out.cell 0, HQ.out.cell 1, HQ.out.cell 2⟩ (fun hHeld => ?_)
      clear hK KX
      (try simp only [Act.put, List.setIfInBounds_toArray, List.set_cons_zero, List.set_cons_succ])
      refine wpAnyH_done (by kernel_rfl) ?_ _
      go_wp2_with fail
      go_meet
      exact ⟨gHZ, sb, sp2, sn2, sc2, sp3, sn3, sc3, rfl, HZ.out, by rw [HSA.out]; exact HQS.out, lHZ, HB.out⟩
    ·skip
     go_simp
     have hb : Below wfd.heap.size wfd (wfd.alloc (.cells #[.bool false, .slice none 0 0, .slice none 0 0] 35)) := (Below.refl _ _).alloc (Nat.le_refl _) _
     have HZ := Lib.hid (CellsAt.new wfd #[.bool false, .slice none 0 0, .slice none 0 0] 35 rfl)
     have lHZHP : gp < wfd.heap.size := HP.out.lt
     have lHZHX : gx < wfd.heap.size := HX.out.lt
     have lHZHQ : gq < wfd.heap.size := HQ.out.lt
     have lHZ := HB.out.size
     clear hHeld
     replace HB := Lib.hid (HB.out.trans (hb.mono HB.out.size))
     replace HP := Lib.hid (HP.out.below hb)
     replace HQ := Lib.hid (HQ.out.below hb)
     replace HX := Lib.hid (HX.out.below hb)
     replace HQX := Lib.hid (HQX.out.below hb)
     replace HQP := Lib.hid (HQP.out.below hb)
     replace HQQ := Lib.hid (HQQ.out.below hb)
     clear hb
     generalize wfd.alloc (.cells #[.bool false, .slice none 0 0, .slice none 0 0] 35) = wfd21 at *
     generalize wfd.heap.size = gHZ at *
     refine hK.out _ _ ⟨HP.out.cell 0, HP.out.cell 1, HP.out.cell 2, HX.out.cell 0, HX.out.cell 1, HX.out.cell 2, HQ.out.cell 0, HQ.out.cell 1, HQ.out.cell 2⟩ (fun hHeld => ?_)
     clear hK KX
     (try simp only [Act.put, List.setIfInBounds_toArray, List.set_cons_zero, List.set_cons_succ])
     refine wpAnyH_ready (rs := [3]) (by kernel_rfl) (by simp) ?_
     refine AllReadyH.cons (by (simp only [List.getElem?_toArray, List.getElem?_cons_succ, List.getElem?_cons_zero]) <;> rfl) (fun KX hK => ?_) AllReadyH.nil
     go_simp
     with_reducible refine (Tryz.rProd (.agg #[.bool xb, .slice xp2 xn2 xc2, .slice xp3 xn3 xc3]) (.agg #[.bool qb, .slice qp2 qn2 qc2, .slice qp3 qn3 qc3]) q qa 500 500 _ HQX.out HQQ.out (by omega)).mono ?_
     rintro e wfd22 ⟨⟨r, rfl, hr⟩, hb⟩
     obtain ⟨mb, mp2, mn2, mc2, mp3, mn3, mc3, rfl⟩ := QIs.agg hr
     clear hHeld
     replace HB := Lib.hid (HB.out.trans (hb.mono HB.out.size))
     replace HP := Lib.hid (HP.out.below hb)
     replace HQ := Lib.hid (HQ.out.below hb)
     replace HX := Lib.hid (HX.out.below hb)
     replace HQX := Lib.hid (HQX.out.below hb)
     replace HQP := Lib.hid (HQP.out.below hb)
     replace HQQ := Lib.hid (HQQ.out.below hb)
     replace HZ := Lib.hid (HZ.out.below hb)
     clear hb
     have HQM := Lib.hid hr
     clear hr
     refine hK.out _ _ ⟨HP.out.cell 0, HP.out.cell 1, HP.out.cell 2, HX.out.cell 0, HX.out.cell 1, HX.out.cell 2, HQ.out.cell 0, HQ.out.cell 1, HQ.out.cell 2⟩ (fun hHeld => ?_)
     clear hK KX
     (try simp only [Act.put, List.setIfInBounds_toArray, List.set_cons_zero, List.set_cons_succ])
     refine wpAnyH_ready (rs := [4]) (by kernel_rfl) (by simp) ?_
     refine AllReadyH.cons (by (simp only [List.getElem?_toArray, List.getElem?_cons_succ, List.getElem?_cons_zero]) <;> rfl) (fun KX hK => ?_) AllReadyH.nil
     go_simp
     with_reducible refine (Tryz.rSum (.agg #[.bool pb, .slice pp2 pn2 pc2, .slice pp3 pn3 pc3]) (.agg #[.bool mb, .slice mp2 mn2 mc2, .slice mp3 mn3 mc3]) pa (q * qa) 500 1001 _ HQP.out HQM.out (by omega)).mono ?_
     rintro e wfd23 ⟨⟨r, rfl, hr⟩, hb⟩
     obtain ⟨sb, sp2, sn2, sc2, sp3, sn3, sc3, rfl⟩ := QIs.agg hr
     clear hHeld
     replace HB := Lib.hid (HB.out.trans (hb.mono HB.out.size))
     replace HP := Lib.hid (HP.out.below hb)
     replace HQ := Lib.hid (HQ.out.below hb)
     replace HX := Lib.hid (HX.out.below hb)
     replace HQX := Lib.hid (HQX.out.below hb)
     replace HQP := Lib.hid (HQP.out.below hb)
     replace HQQ := Lib.hid (HQQ.out.below hb)
     replace HZ := Lib.hid (HZ.out.below hb)
     replace HQM := Lib.hid (HQM.out.below hb)
     clear hb
     have HQS := Lib.hid hr
     clear hr
     refine hK.out _ _ ⟨HP.out.cell 0, HP.out.cell 1, HP.out.cell 2, HX.out.cell 0, HX.out.cell 1, HX.out.cell 2, HQ.out.cell 0, HQ.out.cell 1, HQ.out.cell 2⟩ (fun hHeld => ?_)
     clear hK KX
     (try simp only [Act.put, List.setIfInBounds_toArray, List.set_cons_zero, List.set_cons_succ])
     refine wpAnyH_ready (rs := [6]) (by kernel_rfl) (by simp) ?_
     refine AllReadyH.cons (by (simp only [List.getElem?_toArray, List.getElem?_cons_succ, List.getElem?_cons_zero]) <;> rfl) (fun KX hK => ?_) AllReadyH.nil
     have d0 := HZ.out.cell 0
     have f0 := HZ.out.free 0
     have d1 := HZ.out.cell 1
     have f1 := HZ.out.free 1
     have d2 := HZ.out.cell 2
     have f2 := HZ.out.free 2
     simp only [List.getElem?_toArray, List.getElem?_cons_zero, List.getElem?_cons_succ] at d0 d1 d2
     go_simp
     replace HQS := Lib.hid (q_put (x := .bool sb) (y := .slice sp2 sn2 sc2) (u := .slice sp3 sn3 sc3) HQS.out HZ.out)
     replace HP := Lib.hid (((HP.out.other (g := gHZ) (by omega) 0 (.bool sb)).other (g := gHZ) (by omega) 1 (.slice sp2 sn2 sc2)).other (g := gHZ) (by omega) 2 (.slice sp3 sn3 sc3))
     replace HX := Lib.hid (((HX.out.other (g := gHZ) (by omega) 0 (.bool sb)).other (g := gHZ) (by omega) 1 (.slice sp2 sn2 sc2)).other (g := gHZ) (by omega) 2 (.slice sp3 sn3 sc3))
     replace HQ := Lib.hid (((HQ.out.other (g := gHZ) (by omega) 0 (.bool sb)).other (g := gHZ) (by omega) 1 (.slice sp2 sn2 sc2)).other (g := gHZ) (by omega) 2 (.slice sp3 sn3 sc3))
     replace HB := Lib.hid (((HB.out.setCell (p := ⟨gHZ, 0, none⟩) (show _ ≤ gHZ by omega) (.bool sb)).setCell (p := ⟨gHZ, 1, none⟩) (show _ ≤ gHZ by omega) (.slice sp2 sn2 sc2)).setCell (p := ⟨gHZ, 2, none⟩) (show _ ≤ gHZ by omega) (.slice sp3 sn3 sc3))
     replace HZ := Lib.hid (CellsAt.put3 (x := .bool sb) (y := .slice sp2 sn2 sc2) (z := .slice sp3 sn3 sc3) HZ.out)
     clear hHeld d0 d1 d2 f0 f1 f2 HQX HQP HQQ HQM
     generalize ((wfd23.setCell ⟨gHZ, 0, none⟩ (.bool sb)).setCell ⟨gHZ, 1, none⟩ (.slice sp2 sn2 sc2)).setCell ⟨gHZ, 2, none⟩ (.slice sp3 sn3 sc3) = wfd24 at *
     refine hK.out _ _ ⟨HP.out.cell 0, HP.out.cell 1, HP.out.cell 2, HX.out.cell 0, HX.out.cell 1, HX.out.cell 2, HQ.out.cell 0, HQ.out.cell 1, HQ.out.cell 2⟩ (fun hHeld => ?_)
     clear hK KX
     (try simp only [Act.put, List.setIfInBounds_toArray, List.set_cons_zero, List.set_cons_succ])
     refine wpAnyH_done (by kernel_rfl) ?_ _
     go_wp2_with fail
     go_meet
     exact ⟨gHZ, sb, sp2, sn2, sc2, sp3, sn3, sc3, rfl, HZ.out, by rw [HSA.out]; exact HQS.out, lHZ, HB.out⟩
   case rest =>
    obtain ⟨gs, sb, sp2, sn2, sc2, sp3, sn3, sc3, rfl, hcs, hqs, hls, hbs⟩ := hcut
    have lsq : gq < gs := by omega
    have HSC := Lib.hid hcs
    have HQS := Lib.hid hqs
    have HP := Lib.hid (HPf.out.below hbs)
    have HQ := Lib.hid (HQf.out.below hbs)
    have HD := Lib.hid (HDf.out.below hbs)
    have HB := Lib.hid (HBf.out.trans (hbs.mono HBf.out.size))
    have HQP := Lib.hid (HQPf.out.below hbs)
    have HQQ := Lib.hid (HQQf.out.below hbs)
    have HQD := Lib.hid (HQDf.out.below hbs)
    clear hcs hqs hls hbs HPf HQf HDf HBf HQPf HQQf HQDf lgs
    go_wp2_with fail
    refine wp_region_held_drew (S := fun w' => w'.cell? ⟨gp, 0, none⟩ = some (.bool pb) ∧ w'.cell? ⟨gp, 1, none⟩ = some (.slice pp2 pn2 pc2) ∧ w'.cell? ⟨gp, 2, none⟩ = some (.slice pp3 pn3 pc3) ∧ w'.cell? ⟨gs, 0, none⟩ = some (.bool sb) ∧ w'.cell? ⟨gs, 1, none⟩ = some (.slice sp2 sn2 sc2) ∧ w'.cell? ⟨gs, 2, none⟩ = some (.slice sp3 sn3 sc3)) (by kernel_rfl) ⟨HP.out.cell 0, HP.out.cell 1, HP.out.cell 2, HSC.out.cell 0, HSC.out.cell 1, HSC.out.cell 2⟩ (fun hHeld => ?_)
    replace HB := Lib.hid (HB.out.drew)
    replace HSC := Lib.hid (HSC.out.below (Below.refl _ _).drew)
    replace HQS := Lib.hid (HQS.out.below (Below.refl _ _).drew)
    replace HP := Lib.hid (HP.out.below (Below.refl _ _).drew)
    replace HQ := Lib.hid (HQ.out.below (Below.refl _ _).drew)
    replace HD := Lib.hid (HD.out.below (Below.refl _ _).drew)
    replace HQP := Lib.hid (HQP.out.below (Below.refl _ _).drew)
    replace HQQ := Lib.hid (HQQ.out.below (Below.refl _ _).drew)
    replace HQD := Lib.hid (HQD.out.below (Below.refl _ _).drew)
    clear hHeld
    generalize wc.drew = wcd at *
    have hHeld : (fun w' : World => w'.cell? ⟨gp, 0, none⟩ = some (.bool pb) ∧ w'.cell? ⟨gp, 1, none⟩ = some (.slice pp2 pn2 pc2) ∧ w'.cell? ⟨gp, 2, none⟩ = some (.slice pp3 pn3 pc3) ∧ w'.cell? ⟨gs, 0, none⟩ = some (.bool sb) ∧ w'.cell? ⟨gs, 1, none⟩ = some (.slice sp2 sn2 sc2) ∧ w'.cell? ⟨gs, 2, none⟩ = some (.slice sp3 sn3 sc3)) wcd := ⟨HP.out.cell 0, HP.out.cell 1, HP.out.cell 2, HSC.out.cell 0, HSC.out.cell 1, HSC.out.cell 2⟩
    refine takeY 0 (h := ?_)
    refine takeY 1 (h := ?_)
    refine takeY 4 (h := ?_)
    (try simp only [Act.put, List.setIfInBounds_toArray, List.set_cons_zero, List.set_cons_succ])
    refine wpAnyH_ready (rs := [2]) (by kernel_rfl) (by simp) ?_
    refine AllReadyH.cons (by (simp only [List.getElem?_toArray, List.getElem?_cons_succ, List.getElem?_cons_zero]) <;> rfl) (fun KX hK => ?_) AllReadyH.nil
    go_simp
    with_reducible refine (Tryz.vecAt va ta 120 i _ (HVa.out.below HB.out) HX1.out.rise HX1.out.full (by omega) (by omega)).mono ?_
    rintro e wcd21 ⟨⟨r, rfl, hr⟩, hb⟩
    rw [HPA.out] at hr
    obtain ⟨r, rfl⟩ := frac_pointer hr
    clear hHeld
    replace HB := Lib.hid (HB.out.trans (hb.mono HB.out.size))
    replace HSC := Lib.hid (HSC.out.below hb)
    replace HQS := Lib.hid (HQS.out.below hb)
    replace HP := Lib.hid (HP.out.below hb)
    replace HQ := Lib.hid (HQ.out.below hb)
    replace HD := Lib.hid (HD.out.below hb)
    replace HQP := Lib.hid (HQP.out.below hb)
    replace HQQ := Lib.hid (HQQ.out.below hb)
    replace HQD := Lib.hid (HQD.out.below hb)
    clear hb
    have HFA := Lib.hid hr
    clear hr
    refine hK.out _ _ ⟨HP.out.cell 0, HP.out.cell 1, HP.out.cell 2, HSC.out.cell 0, HSC.out.cell 1, HSC.out.cell 2⟩ (fun hHeld => ?_)
    clear hK KX
    (try simp only [Act.put, List.setIfInBounds_toArray, List.set_cons_zero, List.set_cons_succ])
    refine wpAnyH_ready (rs := [3]) (by kernel_rfl) (by simp) ?_
    refine AllReadyH.cons (by (simp only [List.getElem?_toArray, List.getElem?_cons_succ, List.getElem?_cons_zero]) <;> rfl) (fun KX hK => ?_) AllReadyH.nil
    go_simp
    with_reducible refine (Tryz.fracText (.pointer r) pa 120 _ HFA.out (by omega) (by omega) (HTZ.out.after HB.out)).mono ?_
    rintro e wcd22 ⟨rfl, hb⟩
    clear hHeld
    replace HB := Lib.hid (HB.out.trans (hb.mono HB.out.size))
    replace HSC := Lib.hid (HSC.out.below hb)
    replace HQS := Lib.hid (HQS.out.below hb)
    replace HP := Lib.hid (HP.out.below hb)
    replace HQ := Lib.hid (HQ.out.below hb)
    replace HD := Lib.hid (HD.out.below hb)
    replace HQP := Lib.hid (HQP.out.below hb)
    replace HQQ := Lib.hid (HQQ.out.below hb)
    replace HQD := Lib.hid (HQD.out.below hb)
    replace HFA := Lib.hid (HFA.out.below hb)
    clear hb
    refine hK.out _ _ ⟨HP.out.cell 0, HP.out.cell 1, HP.out.cell 2, HSC.out.cell 0, HSC.out.cell 1, HSC.out.cell 2⟩ (fun hHeld => ?_)
    clear hK KX
    (try simp only [Act.put, List.setIfInBounds_toArray, List.set_cons_zero, List.set_cons_succ])
    refine wpAnyH_ready (rs := [5]) (by kernel_rfl) (by simp) ?_
    refine AllReadyH.cons (by (simp only [List.getElem?_toArray, List.getElem?_cons_succ, List.getElem?_cons_zero]) <;> rfl) (fun KX hK => ?_) AllReadyH.nil
    go_simp
    with_reducible refine (Tryz.rQTextA (.agg #[.bool pb, .slice pp2 pn2 pc2, .slice pp3 pn3 pc3]) pa 500 _ HQP.out (by omega) (by omega)).mono ?_
    rintro e wcd23 ⟨rfl, hb⟩
    clear hHeld
    replace HB := Lib.hid (HB.out.trans (hb.mono HB.out.size))
    replace HSC := Lib.hid (HSC.out.below hb)
    replace HQS := Lib.hid (HQS.out.below hb)
    replace HP := Lib.hid (HP.out.below hb)
    replace HQ := Lib.hid (HQ.out.below hb)
    replace HD := Lib.hid (HD.out.below hb)
    replace HQP := Lib.hid (HQP.out.below hb)
    replace HQQ := Lib.hid (HQQ.out.below hb)
    replace HQD := Lib.hid (HQD.out.below hb)
    replace HFA := Lib.hid (HFA.out.below hb)
    clear hb
    refine hK.out _ _ ⟨HP.out.cell 0, HP.out.cell 1, HP.out.cell 2, HSC.out.cell 0, HSC.out.cell 1, HSC.out.cell 2⟩ (fun hHeld => ?_)
    clear hK KX
    (try simp only [Act.put, List.setIfInBounds_toArray, List.set_cons_zero, List.set_cons_succ])
    refine takeY 6 (h := ?_)
    refine takeY 7 (h := ?_)
    refine takeY 8 (h := ?_)
    (try simp only [Act.put, List.setIfInBounds_toArray, List.set_cons_zero, List.set_cons_succ])
    refine takeY 9 (h := ?_)
    refine takeY 12 (h := ?_)
    (try simp only [Act.put, List.setIfInBounds_toArray, List.set_cons_zero, List.set_cons_succ])
    refine wpAnyH_ready (rs := [10]) (by kernel_rfl) (by simp) ?_
    refine AllReadyH.cons (by (simp only [List.getElem?_toArray, List.getElem?_cons_succ, List.getElem?_cons_zero]) <;> rfl) (fun KX hK => ?_) AllReadyH.nil
    go_simp
    with_reducible refine (Tryz.vecAt sv tab 361 i _ (HS.out.below HB.out) HFAC.out.1 HFULL.out (by omega) (by omega)).mono ?_
    rintro e wcd24 ⟨⟨r, rfl, hr⟩, hb⟩
    rw [HSS.out] at hr
    obtain ⟨r, rfl⟩ := frac_pointer hr
    clear hHeld
    replace HB := Lib.hid (HB.out.trans (hb.mono HB.out.size))
    replace HSC := Lib.hid (HSC.out.below hb)
    replace HQS := Lib.hid (HQS.out.below hb)
    replace HP := Lib.hid (HP.out.below hb)
    replace HQ := Lib.hid (HQ.out.below hb)
    replace HD := Lib.hid (HD.out.below hb)
    replace HQP := Lib.hid (HQP.out.below hb)
    replace HQQ := Lib.hid (HQQ.out.below hb)
    replace HQD := Lib.hid (HQD.out.below hb)
    replace HFA := Lib.hid (HFA.out.below hb)
    clear hb
    have HFS := Lib.hid hr
    clear hr
    refine hK.out _ _ ⟨HP.out.cell 0, HP.out.cell 1, HP.out.cell 2, HSC.out.cell 0, HSC.out.cell 1, HSC.out.cell 2⟩ (fun hHeld => ?_)
    clear hK KX
    (try simp only [Act.put, List.setIfInBounds_toArray, List.set_cons_zero, List.set_cons_succ])
    refine wpAnyH_ready (rs := [11]) (by kernel_rfl) (by simp) ?_
    refine AllReadyH.cons (by (simp only [List.getElem?_toArray, List.getElem?_cons_succ, List.getElem?_cons_zero]) <;> rfl) (fun KX hK => ?_) AllReadyH.nil
    go_simp
    with_reducible refine (Tryz.fracText (.pointer r) sa 361 _ HFS.out (by omega) (by omega) (HTZ.out.after HB.out)).mono ?_
    rintro e wcd25 ⟨rfl, hb⟩
    clear hHeld
    replace HB := Lib.hid (HB.out.trans (hb.mono HB.out.size))
    replace HSC := Lib.hid (HSC.out.below hb)
    replace HQS := Lib.hid (HQS.out.below hb)
    replace HP := Lib.hid (HP.out.below hb)
    replace HQ := Lib.hid (HQ.out.below hb)
    replace HD := Lib.hid (HD.out.below hb)
    replace HQP := Lib.hid (HQP.out.below hb)
    replace HQQ := Lib.hid (HQQ.out.below hb)
    replace HQD := Lib.hid (HQD.out.below hb)
    replace HFA := Lib.hid (HFA.out.below hb)
    replace HFS := Lib.hid (HFS.out.below hb)
    clear hb
    refine hK.out _ _ ⟨HP.out.cell 0, HP.out.cell 1, HP.out.cell 2, HSC.out.cell 0, HSC.out.cell 1, HSC.out.cell 2⟩ (fun hHeld => ?_)
    clear hK KX
    (try simp only [Act.put, List.setIfInBounds_toArray, List.set_cons_zero, List.set_cons_succ])
    refine wpAnyH_ready (rs := [13]) (by kernel_rfl) (by simp) ?_
    refine AllReadyH.cons (by (simp only [List.getElem?_toArray, List.getElem?_cons_succ, List.getElem?_cons_zero]) <;> rfl) (fun KX hK => ?_) AllReadyH.nil
    go_simp
    with_reducible refine (Tryz.rQTextA (.agg #[.bool sb, .slice sp2 sn2 sc2, .slice sp3 sn3 sc3]) sa 1503 _ HQS.out (by omega) (by omega)).mono ?_
    rintro e wcd26 ⟨rfl, hb⟩
    clear hHeld
    replace HB := Lib.hid (HB.out.trans (hb.mono HB.out.size))
    replace HSC := Lib.hid (HSC.out.below hb)
    replace HQS := Lib.hid (HQS.out.below hb)
    replace HP := Lib.hid (HP.out.below hb)
    replace HQ := Lib.hid (HQ.out.below hb)
    replace HD := Lib.hid (HD.out.below hb)
    replace HQP := Lib.hid (HQP.out.below hb)
    replace HQQ := Lib.hid (HQQ.out.below hb)
    replace HQD := Lib.hid (HQD.out.below hb)
    replace HFA := Lib.hid (HFA.out.below hb)
    replace HFS := Lib.hid (HFS.out.below hb)
    clear hb
    refine hK.out _ _ ⟨HP.out.cell 0, HP.out.cell 1, HP.out.cell 2, HSC.out.cell 0, HSC.out.cell 1, HSC.out.cell 2⟩ (fun hHeld => ?_)
    clear hK KX
    (try simp only [Act.put, List.setIfInBounds_toArray, List.set_cons_zero, List.set_cons_succ])
    refine takeY 14 (h := ?_)
    refine takeY 15 (h := ?_)
    (try simp only [Act.put, List.setIfInBounds_toArray, List.set_cons_zero, List.set_cons_succ])
    refine wpAnyH_done (by kernel_rfl) ?_ _
    clear hHeld HFA HFS
    go_wp2_with fail
    refine wp_region_held_drew (S := fun w' => w'.cell? ⟨gp, 0, none⟩ = some (.bool pb) ∧ w'.cell? ⟨gp, 1, none⟩ = some (.slice pp2 pn2 pc2) ∧ w'.cell? ⟨gp, 2, none⟩ = some (.slice pp3 pn3 pc3) ∧ w'.cell? ⟨gq, 0, none⟩ = some (.bool qb) ∧ w'.cell? ⟨gq, 1, none⟩ = some (.slice qp2 qn2 qc2) ∧ w'.cell? ⟨gq, 2, none⟩ = some (.slice qp3 qn3 qc3)) (by kernel_rfl) ⟨HP.out.cell 0, HP.out.cell 1, HP.out.cell 2, HQ.out.cell 0, HQ.out.cell 1, HQ.out.cell 2⟩ (fun hHeld => ?_)
    replace HB := Lib.hid (HB.out.drew)
    replace HSC := Lib.hid (HSC.out.below (Below.refl _ _).drew)
    replace HQS := Lib.hid (HQS.out.below (Below.refl _ _).drew)
    replace HP := Lib.hid (HP.out.below (Below.refl _ _).drew)
    replace HQ := Lib.hid (HQ.out.below (Below.refl _ _).drew)
    replace HD := Lib.hid (HD.out.below (Below.refl _ _).drew)
    replace HQP := Lib.hid (HQP.out.below (Below.refl _ _).drew)
    replace HQQ := Lib.hid (HQQ.out.below (Below.refl _ _).drew)
    replace HQD := Lib.hid (HQD.out.below (Below.refl _ _).drew)
    clear hHeld
    generalize wcd26.drew = wcd26d at *
    have hHeld : (fun w' : World => w'.cell? ⟨gp, 0, none⟩ = some (.bool pb) ∧ w'.cell? ⟨gp, 1, none⟩ = some (.slice pp2 pn2 pc2) ∧ w'.cell? ⟨gp, 2, none⟩ = some (.slice pp3 pn3 pc3) ∧ w'.cell? ⟨gq, 0, none⟩ = some (.bool qb) ∧ w'.cell? ⟨gq, 1, none⟩ = some (.slice qp2 qn2 qc2) ∧ w'.cell? ⟨gq, 2, none⟩ = some (.slice qp3 qn3 qc3)) wcd26d := ⟨HP.out.cell 0, HP.out.cell 1, HP.out.cell 2, HQ.out.cell 0, HQ.out.cell 1, HQ.out.cell 2⟩
    refine takeY 1 (h := ?_)
    refine takeY 2 (h := ?_)
    (try simp only [Act.put, List.setIfInBounds_toArray, List.set_cons_zero, List.set_cons_succ])
    refine wpAnyH_ready (rs := [0, 3]) (by kernel_rfl) (by simp) ?_
    refine AllReadyH.cons (by (simp only [List.getElem?_toArray, List.getElem?_cons_zero]) <;> rfl) (fun KX hK => ?_) (AllReadyH.cons (by (simp only [List.getElem?_toArray, List.getElem?_cons_succ, List.getElem?_cons_zero]) <;> rfl) (fun KX hK => ?_) AllReadyH.nil)
    ·skip
     have d0 := HD.out.cell 0
     have d1 := HD.out.cell 1
     have d2 := HD.out.cell 2
     simp only [List.getElem?_toArray, List.getElem?_cons_zero, List.getElem?_cons_succ] at d0 d1 d2
     go_simp
     clear d0 d1 d2 hHeld
     refine hK.out _ _ ⟨HP.out.cell 0, HP.out.cell 1, HP.out.cell 2, HQ.out.cell 0, HQ.out.cell 1, HQ.out.cell 2⟩ (fun hHeld => ?_)
     clear hK KX
     (try simp only [Act.put, List.setIfInBounds_toArray, List.set_cons_zero, List.set_cons_succ])
     refine wpAnyH_ready (rs := [3]) (by kernel_rfl) (by simp) ?_
     refine AllReadyH.cons (by (simp only [List.getElem?_toArray, List.getElem?_cons_succ, List.getElem?_cons_zero]) <;> rfl) (fun KX hK => ?_) AllReadyH.nil
     go_simp
     with_reducible refine (Tryz.rProd (.agg #[.bool pb, .slice pp2 pn2 pc2, .slice pp3 pn3 pc3]) (.agg #[.bool qb, .slice qp2 qn2 qc2, .slice qp3 qn3 qc3]) pa qa 500 500 _ HQP.out HQQ.out (by omega)).mono ?_
     rintro e wcd26d21 ⟨⟨r, rfl, hr⟩, hb⟩
     obtain ⟨mb, mp2, mn2, mc2, mp3, mn3, mc3, rfl⟩ := QIs.agg hr
     clear hHeld
     replace HB := Lib.hid (HB.out.trans (hb.mono HB.out.size))
     replace HSC := Lib.hid (HSC.out.below hb)
     replace HQS := Lib.hid (HQS.out.below hb)
     replace HP := Lib.hid (HP.out.below hb)
     replace HQ := Lib.hid (HQ.out.below hb)
     replace HD := Lib.hid (HD.out.below hb)
     replace HQP := Lib.hid (HQP.out.below hb)
     replace HQQ := Lib.hid (HQQ.out.below hb)
     replace HQD := Lib.hid (HQD.out.below hb)
     clear hb
     have HQM := Lib.hid hr
     clear hr
     refine hK.out _ _ ⟨HP.out.cell 0, HP.out.cell 1, HP.out.cell 2, HQ.out.cell 0, HQ.out.cell 1, HQ.out.cell 2⟩ (fun hHeld => ?_)
     clear hK KX
     (try simp only [Act.put, List.setIfInBounds_toArray, List.set_cons_zero, List.set_cons_succ])
     refine wpAnyH_ready (rs := [4]) (by kernel_rfl) (by simp) ?_
     refine AllReadyH.cons (by (simp only [List.getElem?_toArray, List.getElem?_cons_succ, List.getElem?_cons_zero]) <;> rfl) (fun KX hK => ?_) AllReadyH.nil
     go_simp
     with_reducible refine (Tryz.rSum (.agg #[.bool eb, .slice ep2 en2 ec2, .slice ep3 en3 ec3]) (.agg #[.bool mb, .slice mp2 mn2 mc2, .slice mp3 mn3 mc3]) (Vm.sum (fun i => Vm.at_ ta i * Vm.at_ tb i) i) (pa * qa) (1 + i * 1003) 1001 _ HQD.out HQM.out (by omega)).mono ?_
     rintro e wcd26d22 ⟨⟨r, rfl, hr⟩, hb⟩
     obtain ⟨nb, np2, nn2, nc2, np3, nn3, nc3, rfl⟩ := QIs.agg hr
     clear hHeld
     replace HB := Lib.hid (HB.out.trans (hb.mono HB.out.size))
     replace HSC := Lib.hid (HSC.out.below hb)
     replace HQS := Lib.hid (HQS.out.below hb)
     replace HP := Lib.hid (HP.out.below hb)
     replace HQ := Lib.hid (HQ.out.below hb)
     replace HD := Lib.hid (HD.out.below hb)
     replace HQP := Lib.hid (HQP.out.below hb)
     replace HQQ := Lib.hid (HQQ.out.below hb)
     replace HQD := Lib.hid (HQD.out.below hb)
     replace HQM := Lib.hid (HQM.out.below hb)
     clear hb
     have HQN := Lib.hid hr
     clear hr
     refine hK.out _ _ ⟨HP.out.cell 0, HP.out.cell 1, HP.out.cell 2, HQ.out.cell 0, HQ.out.cell 1, HQ.out.cell 2⟩ (fun hHeld => ?_)
     clear hK KX
     (try simp only [Act.put, List.setIfInBounds_toArray, List.set_cons_zero, List.set_cons_succ])
     refine wpAnyH_ready (rs := [5]) (by kernel_rfl) (by simp) ?_
     refine AllReadyH.cons (by (simp only [List.getElem?_toArray, List.getElem?_cons_succ, List.getElem?_cons_zero]) <;> rfl) (fun KX hK => ?_) AllReadyH.nil
     have d0 := HD.out.cell 0
     have f0 := HD.out.free 0
     have d1 := HD.out.cell 1
     have f1 := HD.out.free 1
     have d2 := HD.out.cell 2
     have f2 := HD.out.free 2
     simp only [List.getElem?_toArray, List.getElem?_cons_zero, List.getElem?_cons_succ] at d0 d1 d2
     go_simp
     replace HQN := Lib.hid (q_put (x := .bool nb) (y := .slice np2 nn2 nc2) (u := .slice np3 nn3 nc3) HQN.out HD.out)
     replace HQS := Lib.hid (q_put (x := .bool nb) (y := .slice np2 nn2 nc2) (u := .slice np3 nn3 nc3) HQS.out HD.out)
     replace HP := Lib.hid (((HP.out.other (g := gd) (by omega) 0 (.bool nb)).other (g := gd) (by omega) 1 (.slice np2 nn2 nc2)).other (g := gd) (by omega) 2 (.slice np3 nn3 nc3))
     replace HQ := Lib.hid (((HQ.out.other (g := gd) (by omega) 0 (.bool nb)).other (g := gd) (by omega) 1 (.slice np2 nn2 nc2)).other (g := gd) (by omega) 2 (.slice np3 nn3 nc3))
     replace HSC := Lib.hid (((HSC.out.other (g := gd) (by omega) 0 (.bool nb)).other (g := gd) (by omega) 1 (.slice np2 nn2 nc2)).other (g := gd) (by omega) 2 (.slice np3 nn3 nc3))
     replace HB := Lib.hid (((HB.out.setCell (p := ⟨gd, 0, none⟩) (show _ ≤ gd by omega) (.bool nb)).setCell (p := ⟨gd, 1, none⟩) (show _ ≤ gd by omega) (.slice np2 nn2 nc2)).setCell (p := ⟨gd, 2, none⟩) (show _ ≤ gd by omega) (.slice np3 nn3 nc3))
     replace HD := Lib.hid (CellsAt.put3 (x := .bool nb) (y := .slice np2 nn2 nc2) (z := .slice np3 nn3 nc3) HD.out)
     clear hHeld d0 d1 d2 f0 f1 f2 HQP HQQ HQD HQM
     generalize ((wcd26d22.setCell ⟨gd, 0, none⟩ (.bool nb)).setCell ⟨gd, 1, none⟩ (.slice np2 nn2 nc2)).setCell ⟨gd, 2, none⟩ (.slice np3 nn3 nc3) = wcd26d23 at *
     refine hK.out _ _ ⟨HP.out.cell 0, HP.out.cell 1, HP.out.cell 2, HQ.out.cell 0, HQ.out.cell 1, HQ.out.cell 2⟩ (fun hHeld => ?_)
     clear hK KX
     (try simp only [Act.put, List.setIfInBounds_toArray, List.set_cons_zero, List.set_cons_succ])
     refine wpAnyH_done (by kernel_rfl) ?_ _
     clear hHeld
     have s0 := HSC.out.cell 0
     have s1 := HSC.out.cell 1
     have s2 := HSC.out.cell 2
     simp only [List.getElem?_toArray, List.getElem?_cons_zero, List.getElem?_cons_succ] at s0 s1 s2
     have HGN : Hid (Vm.sum (fun i => Vm.at_ ta i * Vm.at_ tb i) (i + 1) = Vm.sum (fun i => Vm.at_ ta i * Vm.at_ tb i) i + pa * qa) := by
      show Vm.sum (fun i => Vm.at_ ta i * Vm.at_ tb i) i + Vm.at_ ta (i : Int) * Vm.at_ tb (i : Int) = _
      rw [HPA.out, HQA.out]
     have HQN' : Hid (QIs wcd26d23 (.agg #[.bool nb, .slice np2 nn2 nc2, .slice np3 nn3 nc3]) (Vm.sum (fun i => Vm.at_ ta i * Vm.at_ tb i) (i + 1)) (1 + (i + 1) * 1003)) := by
      show QIs _ _ _ _
      rw [HGN.out]; exact QIs.more HQN.out (by omega)
     clear HQN HGN
     have h31 : (c : Int) ≤ 31 := by omega
     have hc0 : (0 : Int) ≤ (c : Int) := by omega
     by_cases hz : sa = 0
     ·have e1 : decide (sa = 0) = true := by simpa using hz
      have HCN : Hid (c = Vm.count (fun i => Vm.at_ tab i) (i + 1)) := by
       show _ = Vm.count (fun i => Vm.at_ tab i) i + if Vm.at_ tab (i : Int) = 0 then 0 else 1
       rw [HSS.out, ← HCC.out, if_pos hz]
       rfl
      clear hz HCC
      go_wp2_with fail
      with_reducible refine (Tryz.rQZero (.agg #[.bool sb, .slice sp2 sn2 sc2, .slice sp3 sn3 sc3]) sa 1503 _ HQS.out).mono ?_
      rintro e w95 ⟨rfl, hb⟩
      replace HB := Lib.hid (HB.out.trans (hb.mono HB.out.size))
      replace HD := Lib.hid (HD.out.below hb)
      have HQN2 := Lib.hid (HQN'.out.below hb)
      rw [e1]
      clear hb HQN' HP HQ HSC HQS s0 s1 s2
      go_wp2
      go_roundw
      case rel => exact ⟨i + 1, c, rfl, by go_num, by omega, HB.out, HCN.out, nb, np2, nn2, nc2, np3, nn3, nc3, HD.out, HQN2.out⟩
      case measure => simp [intOf]; omega
     ·have e1 : decide (sa = 0) = false := by simpa using hz
      have HCN : Hid (c + 1 = Vm.count (fun i => Vm.at_ tab i) (i + 1)) := by
       show _ = Vm.count (fun i => Vm.at_ tab i) i + if Vm.at_ tab (i : Int) = 0 then 0 else 1
       rw [HSS.out, ← HCC.out, if_neg hz]
      clear hz HCC
      go_wp2_with fail
      with_reducible refine (Tryz.rQZero (.agg #[.bool sb, .slice sp2 sn2 sc2, .slice sp3 sn3 sc3]) sa 1503 _ HQS.out).mono ?_
      rintro e w95 ⟨rfl, hb⟩
      replace HB := Lib.hid (HB.out.trans (hb.mono HB.out.size))
      replace HD := Lib.hid (HD.out.below hb)
      have HQN2 := Lib.hid (HQN'.out.below hb)
      rw [e1]
      clear hb HQN' HP HQ HSC HQS s0 s1 s2
      go_wp2
      go_roundw
      case rel => exact ⟨i + 1, c + 1, by go_num, by go_num, by omega, HB.out, HCN.out, nb, np2, nn2, nc2, np3, nn3, nc3, HD.out, HQN2.out⟩
      case measure => simp [intOf]; omega
    ·skip
     go_simp
     with_reducible refine (Tryz.rProd (.agg #[.bool pb, .slice pp2 pn2 pc2, .slice pp3 pn3 pc3]) (.agg #[.bool qb, .slice qp2 qn2 qc2, .slice qp3 qn3 qc3]) pa qa 500 500 _ HQP.out HQQ.out (by omega)).mono ?_
     rintro e wcd26d21 ⟨⟨r, rfl, hr⟩, hb⟩
     obtain ⟨mb, mp2, mn2, mc2, mp3, mn3, mc3, rfl⟩ := QIs.agg hr
     clear hHeld
     replace HB := Lib.hid (HB.out.trans (hb.mono HB.out.size))
     replace HSC := Lib.hid (HSC.out.below hb)
     replace HQS := Lib.hid (HQS.out.below hb)
     replace HP := Lib.hid (HP.out.below hb)
     replace HQ := Lib.hid (HQ.out.below hb)
     replace HD := Lib.hid (HD.out.below hb)
     replace HQP := Lib.hid (HQP.out.below hb)
     replace HQQ := Lib.hid (HQQ.out.below hb)
     replace HQD := Lib.hid (HQD.out.below hb)
     clear hb
     have HQM := Lib.hid hr
     clear hr
     refine hK.out _ _ ⟨HP.out.cell 0, HP.out.cell 1, HP.out.cell 2, HQ.out.cell 0, HQ.out.cell 1, HQ.out.cell 2⟩ (fun hHeld => ?_)
     clear hK KX
     (try simp only [Act.put, List.setIfInBounds_toArray, List.set_cons_zero, List.set_cons_succ])
     refine wpAnyH_ready (rs := [0]) (by kernel_rfl) (by simp) ?_
     refine AllReadyH.cons (by (simp only [List.getElem?_toArray, List.getElem?_cons_zero]) <;> rfl) (fun KX hK => ?_) AllReadyH.nil
     have d0 := HD.out.cell 0
     have d1 := HD.out.cell 1
     have d2 := HD.out.cell 2
     simp only [List.getElem?_toArray, List.getElem?_cons_zero, List.getElem?_cons_succ] at d0 d1 d2
     go_simp
     clear d0 d1 d2 hHeld
     refine hK.out _ _ ⟨HP.out.cell 0, HP.out.cell 1, HP.out.cell 2, HQ.out.cell 0, HQ.out.cell 1, HQ.out.cell 2⟩ (fun hHeld => ?_)
     clear hK KX
     (try simp only [Act.put, List.setIfInBounds_toArray, List.set_cons_zero, List.set_cons_succ])
     refine wpAnyH_ready (rs := [4]) (by kernel_rfl) (by simp) ?_
     refine AllReadyH.cons (by (simp only [List.getElem?_toArray, List.getElem?_cons_succ, List.getElem?_cons_zero]) <;> rfl) (fun KX hK => ?_) AllReadyH.nil
     go_simp
     with_reducible refine (Tryz.rSum (.agg #[.bool eb, .slice ep2 en2 ec2, .slice ep3 en3 ec3]) (.agg #[.bool mb, .slice mp2 mn2 mc2, .slice mp3 mn3 mc3]) (Vm.sum (fun i => Vm.at_ ta i * Vm.at_ tb i) i) (pa * qa) (1 + i * 1003) 1001 _ HQD.out HQM.out (by omega)).mono ?_
     rintro e wcd26d22 ⟨⟨r, rfl, hr⟩, hb⟩
     obtain ⟨nb, np2, nn2, nc2, np3, nn3, nc3, rfl⟩ := QIs.agg hr
     clear hHeld
     replace HB := Lib.hid (HB.out.trans (hb.mono HB.out.size))
     replace HSC := Lib.hid (HSC.out.below hb)
     replace HQS := Lib.hid (HQS.out.below hb)
     replace HP := Lib.hid (HP.out.below hb)
     replace HQ := Lib.hid (HQ.out.below hb)
     replace HD := Lib.hid (HD.out.below hb)
     replace HQP := Lib.hid (HQP.out.below hb)
     replace HQQ := Lib.hid (HQQ.out.below hb)
     replace HQD := Lib.hid (HQD.out.below hb)
     replace HQM := Lib.hid (HQM.out.below hb)
     clear hb
     have HQN := Lib.hid hr
     clear hr
     refine hK.out _ _ ⟨HP.out.cell 0, HP.out.cell 1, HP.out.cell 2, HQ.out.cell 0, HQ.out.cell 1, HQ.out.cell 2⟩ (fun hHeld => ?_)
     clear hK KX
     (try simp only [Act.put, List.setIfInBounds_toArray, List.set_cons_zero, List.set_cons_succ])
     refine wpAnyH_ready (rs := [5]) (by kernel_rfl) (by simp) ?_
     refine AllReadyH.cons (by (simp only [List.getElem?_toArray, List.getElem?_cons_succ, List.getElem?_cons_zero]) <;> rfl) (fun KX hK => ?_) AllReadyH.nil
     have d0 := HD.out.cell 0
     have f0 := HD.out.free 0
     have d1 := HD.out.cell 1
     have f1 := HD.out.free 1
     have d2 := HD.out.cell 2
     have f2 := HD.out.free 2
     simp only [List.getElem?_toArray, List.getElem?_cons_zero, List.getElem?_cons_succ] at d0 d1 d2
     go_simp
     replace HQN := Lib.hid (q_put (x := .bool nb) (y := .slice np2 nn2 nc2) (u := .slice np3 nn3 nc3) HQN.out HD.out)
     replace HQS := Lib.hid (q_put (x := .bool nb) (y := .slice np2 nn2 nc2) (u := .slice np3 nn3 nc3) HQS.out HD.out)
     replace HP := Lib.hid (((HP.out.other (g := gd) (by omega) 0 (.bool nb)).other (g := gd) (by omega) 1 (.slice np2 nn2 nc2)).other (g := gd) (by omega) 2 (.slice np3 nn3 nc3))
     replace HQ := Lib.hid (((HQ.out.other (g := gd) (by omega) 0 (.bool nb)).other (g := gd) (by omega) 1 (.slice np2 nn2 nc2)).other (g := gd) (by omega) 2 (.slice np3 nn3 nc3))
     replace HSC := Lib.hid (((HSC.out.other (g := gd) (by omega) 0 (.bool nb)).other (g := gd) (by omega) 1 (.slice np2 nn2 nc2)).other (g := gd) (by omega) 2 (.slice np3 nn3 nc3))
     replace HB := Lib.hid (((HB.out.setCell (p := ⟨gd, 0, none⟩) (show _ ≤ gd by omega) (.bool nb)).setCell (p := ⟨gd, 1, none⟩) (show _ ≤ gd by omega) (.slice np2 nn2 nc2)).setCell (p := ⟨gd, 2, none⟩) (show _ ≤ gd by omega) (.slice np3 nn3 nc3))
     replace HD := Lib.hid (CellsAt.put3 (x := .bool nb) (y := .slice np2 nn2 nc2) (z := .slice np3 nn3 nc3) HD.out)
     clear hHeld d0 d1 d2 f0 f1 f2 HQP HQQ HQD HQM
     generalize ((wcd26d22.setCell ⟨gd, 0, none⟩ (.bool nb)).setCell ⟨gd, 1, none⟩ (.slice np2 nn2 nc2)).setCell ⟨gd, 2, none⟩ (.slice np3 nn3 nc3) = wcd26d23 at *
     refine hK.out _ _ ⟨HP.out.cell 0, HP.out.cell 1, HP.out.cell 2, HQ.out.cell 0, HQ.out.cell 1, HQ.out.cell 2⟩ (fun hHeld => ?_)
     clear hK KX
     (try simp only [Act.put, List.setIfInBounds_toArray, List.set_cons_zero, List.set_cons_succ])
     refine wpAnyH_done (by kernel_rfl) ?_ _
     clear hHeld
     have s0 := HSC.out.cell 0
     have s1 := HSC.out.cell 1
     have s2 := HSC.out.cell 2
     simp only [List.getElem?_toArray, List.getElem?_cons_zero, List.getElem?_cons_succ] at s0 s1 s2
     have HGN : Hid (Vm.sum (fun i => Vm.at_ ta i * Vm.at_ tb i) (i + 1) = Vm.sum (fun i => Vm.at_ ta i * Vm.at_ tb i) i + pa * qa) := by
      show Vm.sum (fun i => Vm.at_ ta i * Vm.at_ tb i) i + Vm.at_ ta (i : Int) * Vm.at_ tb (i : Int) = _
      rw [HPA.out, HQA.out]
     have HQN' : Hid (QIs wcd26d23 (.agg #[.bool nb, .slice np2 nn2 nc2, .slice np3 nn3 nc3]) (Vm.sum (fun i => Vm.at_ ta i * Vm.at_ tb i) (i + 1)) (1 + (i + 1) * 1003)) := by
      show QIs _ _ _ _
      rw [HGN.out]; exact QIs.more HQN.out (by omega)
     clear HQN HGN
     have h31 : (c : Int) ≤ 31 := by omega
     have hc0 : (0 : Int) ≤ (c : Int) := by omega
     by_cases hz : sa = 0
     ·have e1 : decide (sa = 0) = true := by simpa using hz
      have HCN : Hid (c = Vm.count (fun i => Vm.at_ tab i) (i + 1)) := by
       show _ = Vm.count (fun i => Vm.at_ tab i) i + if Vm.at_ tab (i : Int) = 0 then 0 else 1
       rw [HSS.out, ← HCC.out, if_pos hz]
       rfl
      clear hz HCC
      go_wp2_with fail
      with_reducible refine (Tryz.rQZero (.agg #[.bool sb, .slice sp2 sn2 sc2, .slice sp3 sn3 sc3]) sa 1503 _ HQS.out).mono ?_
      rintro e w95 ⟨rfl, hb⟩
      replace HB := Lib.hid (HB.out.trans (hb.mono HB.out.size))
      replace HD := Lib.hid (HD.out.below hb)
      have HQN2 := Lib.hid (HQN'.out.below hb)
      rw [e1]
      clear hb HQN' HP HQ HSC HQS s0 s1 s2
      go_wp2
      go_roundw
      case rel => exact ⟨i + 1, c, rfl, by go_num, by omega, HB.out, HCN.out, nb, np2, nn2, nc2, np3, nn3, nc3, HD.out, HQN2.out⟩
      case measure => simp [intOf]; omega
     ·have e1 : decide (sa = 0) = false := by simpa using hz
      have HCN : Hid (c + 1 = Vm.count (fun i => Vm.at_ tab i) (i + 1)) := by
       show _ = Vm.count (fun i => Vm.at_ tab i) i + if Vm.at_ tab (i : Int) = 0 then 0 else 1
       rw [HSS.out, ← HCC.out, if_neg hz]
      clear hz HCC
      go_wp2_with fail
      with_reducible refine (Tryz.rQZero (.agg #[.bool sb, .slice sp2 sn2 sc2, .slice sp3 sn3 sc3]) sa 1503 _ HQS.out).mono ?_
      rintro e w95 ⟨rfl, hb⟩
      replace HB := Lib.hid (HB.out.trans (hb.mono HB.out.size))
      replace HD := Lib.hid (HD.out.below hb)
      have HQN2 := Lib.hid (HQN'.out.below hb)
      rw [e1]
      clear hb HQN' HP HQ HSC HQS s0 s1 s2
      go_wp2
      go_roundw
      case rel => exact ⟨i + 1, c + 1, by go_num, by go_num, by omega, HB.out, HCN.out, nb, np2, nn2, nc2, np3, nn3, nc3, HD.out, HQN2.out⟩
      case measure => simp [intOf]; omega
  ·have e1 : decide ((i : Int) < 31) = false := by simp; omega
   obtain rfl : i = 31 := by omega
   have HDOT : Hid (Vm.sum (fun i => Vm.at_ ta i * Vm.at_ tb i) 31 = Vm.dot 0 ta tb ∧ Vm.sum (fun i => Vm.at_ ta i * Vm.at_ tb i) 31 = Vm.dot 0 tb ta) := by
    have h1 := Vm.dot_eq 0 ta tb HX1.out.rise HX2.out.rise HI1.out HI2.out
    have h2 := Vm.dot_eq 0 tb ta HX2.out.rise HX1.out.rise HI2.out HI1.out
    rw [Rat.zero_add] at h1 h2
    exact ⟨h1.symm, by rw [h2, Vm.sum_comm_mul]; rfl⟩
   have HCT2 : Hid (c = tab.length) := by rw [HCC.out]; exact Vm.count_len HFAC.out.1 HFULL.out HIN.out
   clear HCC hi31 hc31 hlt
   obtain rfl := HCT2.out
   clear HCT2
   obtain ⟨dq, hdq⟩ : ∃ x, Vm.sum (fun i => Vm.at_ ta i * Vm.at_ tb i) 31 = x := ⟨_, rfl⟩
   rw [hdq] at HDOT HQD
   clear hdq
   go_wp2_with fail
   with_reducible refine (Tryz.vecCoefs sv tab 361 _ (HS.out.below HB.out) (by omega) (by omega) (by omega) (HTZ.out.after HB.out)).mono ?_
   rintro e w101 ⟨⟨cc, rfl, hcc⟩, hb⟩
   obtain ⟨pc, capc, rfl, lc1, lc2⟩ := hcc.reads.slice
   rw [coefsOf_len] at lc1 ⊢
   unfold maxLen at lc2
   replace HD := Lib.hid (HD.out.below hb)
   replace HQD := Lib.hid (HQD.out.below hb)
   replace HB := Lib.hid (HB.out.trans (hb.mono HB.out.size))
   clear hb
   have HC := Lib.hid hcc.reads
   clear hcc
   go_wp2_with fail
   go_loopw [114] (fun jv wr => ∃ j : Nat, jv = .int .i64 j ∧ j ≤ tab.length ∧ Below w101.heap.size w101 wr) (fun jv _ => tab.length - (intOf jv).toNat)
   case atStart => exact ⟨0, rfl, Nat.zero_le _, Below.refl _ _⟩
   case round =>
    obtain ⟨j, rfl, hj, hbj⟩ := hrel
    have HBJ := Lib.hid hbj
    clear hbj
    by_cases hlt : j < tab.length
    ·obtain ⟨t, ht⟩ : ∃ t, tab[j]? = some t := ⟨_, List.getElem?_eq_getElem hlt⟩
     obtain ⟨g, o, cap', he, -, -, d0, d1, hg⟩ := (HC.out.below HBJ.out).nth (coefsOf_get ht)
     simp only [Value.slice.injEq, true_and] at he
     obtain ⟨rfl, rfl⟩ := he
     have HC0 : Hid (Cell1 wr g (o + j * 2) (.int .i64 t.1)) := ⟨hg, d0⟩
     have HAT : Hid (Vm.at_ tab t.1 = t.2) := Vm.at_mem HFAC.out.1 (List.mem_of_getElem? ht)
     have hne := text_ne (HFULL.out t (List.mem_of_getElem? ht))
     obtain ⟨tx, htx⟩ : ∃ s : ByteArray, (⟨(textQ t.2).toArray⟩ : ByteArray) = s := ⟨_, rfl⟩
     rw [htx] at hne
     simp only [htx] at d1
     have HC1 : Hid (Cell1 wr g (o + j * 2 + 1) (.string tx)) := ⟨hg, d1⟩
     have HTX := Lib.hid htx
     have etx := not48 hne
     have hj0 : (0 : Int) ≤ (j : Int) := by omega
     have hj1 : (j : Int) < (tab.length : Int) := by omega
     have HBW := Lib.hid (HB.out.trans (HBJ.out.mono HB.out.size))
     clear htx d0 d1 hg HB HD HQD
     by_cases hpos : 0 < j
     ·obtain ⟨m, hm⟩ : ∃ m, j = m + 1 := ⟨j - 1, by omega⟩
      obtain ⟨u, hu⟩ : ∃ u, tab[m]? = some u := ⟨_, List.getElem?_eq_getElem (by omega)⟩
      have hut : u.1 < t.1 := rise_nth HFAC.out.1 hu ht (by omega)
      obtain ⟨g', o', cap2, he, -, -, d0, -, hg⟩ := (HC.out.below HBJ.out).nth (coefsOf_get hu)
      simp only [Value.slice.injEq, Option.some.injEq, Addr.mk.injEq, and_true, true_and] at he
      obtain ⟨⟨rfl, rfl⟩, -⟩ := he
      have HC2 : Hid (Cell1 wr g (o + m * 2) (.int .i64 u.1)) := ⟨hg, d0⟩
      have hjm : (j : Int) - 1 = (m : Int) := by omega
      have hw : IntKind.i64.wrap ((j : Int) - 1) = (m : Int) := by rw [hjm]; exact IntWalk.i64_in _ (by omega)
      have hm0 : (0 : Int) ≤ (m : Int) := by omega
      have hm1 : (m : Int) < (tab.length : Int) := by omega
      have e0 : decide (0 < (j : Int)) = true := by simp; omega
      have e0' : decide (0 < j) = true := by simpa using hpos
      have e1 : decide (t.1 ≤ u.1) = false := by simp; omega
      clear d0 hg ht hu hm hjm hut
      go_wp2_with fail
      refine wp_region_held_drew (S := fun w' => w'.cell? ⟨g, o + j * 2, none⟩ = some (.int .i64 t.1) ∧ w'.cell? ⟨g, o + j * 2 + 1, none⟩ = some (.string tx) ∧ w'.cell? ⟨g, o + m * 2, none⟩ = some (.int .i64 u.1)) (by kernel_rfl) ⟨HC0.out.is, HC1.out.is, HC2.out.is⟩ (fun hHeld => ?_)
      replace HBJ := Lib.hid (HBJ.out.drew)
      replace HBW := Lib.hid (HBW.out.drew)
      replace HC0 := Lib.hid (HC0.out.below (Below.refl _ _).drew)
      replace HC1 := Lib.hid (HC1.out.below (Below.refl _ _).drew)
      replace HC2 := Lib.hid (HC2.out.below (Below.refl _ _).drew)
      clear hHeld
      generalize wr.drew = wrd at *
      have hHeld : (fun w' : World => w'.cell? ⟨g, o + j * 2, none⟩ = some (.int .i64 t.1) ∧ w'.cell? ⟨g, o + j * 2 + 1, none⟩ = some (.string tx) ∧ w'.cell? ⟨g, o + m * 2, none⟩ = some (.int .i64 u.1)) wrd := ⟨HC0.out.is, HC1.out.is, HC2.out.is⟩
      refine takeY 0 (h := ?_)
      refine takeY 1 (h := ?_)
      refine takeY 2 (h := ?_)
      (try simp only [Act.put, List.setIfInBounds_toArray, List.set_cons_zero, List.set_cons_succ])
      refine takeY 3 (h := ?_)
      refine takeY 4 (h := ?_)
      refine takeY 5 (h := ?_)
      (try simp only [Act.put, List.setIfInBounds_toArray, List.set_cons_zero, List.set_cons_succ])
      refine takeY 6 (h := ?_)
      refine takeY 7 (h := ?_)
      refine takeY 8 (h := ?_)
      (try simp only [Act.put, List.setIfInBounds_toArray, List.set_cons_zero, List.set_cons_succ])
      refine takeY 9 (h := ?_)
      refine takeY 10 (h := ?_)
      refine takeY 11 (h := ?_)
      (try simp only [Act.put, List.setIfInBounds_toArray, List.set_cons_zero, List.set_cons_succ])
      refine takeY 12 (h := ?_)
      refine takeY 13 (h := ?_)
      refine takeY 14 (h := ?_)
      (try simp only [Act.put, List.setIfInBounds_toArray, List.set_cons_zero, List.set_cons_succ])
      refine takeY 15 (h := ?_)
      refine takeY 16 (h := ?_)
      refine takeY 17 (h := ?_)
      (try simp only [Act.put, List.setIfInBounds_toArray, List.set_cons_zero, List.set_cons_succ])
      refine takeY 18 (h := ?_)
      refine takeY 19 (h := ?_)
      refine takeY 20 (h := ?_)
      (try simp only [Act.put, List.setIfInBounds_toArray, List.set_cons_zero, List.set_cons_succ])
      refine takeY 21 (h := ?_)
      refine takeY 22 (h := ?_)
      refine takeY 23 (h := ?_)
      (try simp only [Act.put, List.setIfInBounds_toArray, List.set_cons_zero, List.set_cons_succ])
      refine takeY 24 (h := ?_)
      refine takeY 25 (h := ?_)
      refine takeY 26 (h := ?_)
      (try simp only [Act.put, List.setIfInBounds_toArray, List.set_cons_zero, List.set_cons_succ])
      refine takeY 27 (h := ?_)
      refine takeY 28 (h := ?_)
      refine takeY 29 (h := ?_)
      (try simp only [Act.put, List.setIfInBounds_toArray, List.set_cons_zero, List.set_cons_succ])
      refine takeY 30 (h := ?_)
      refine takeY 33 (h := ?_)
      refine takeY 34 (h := ?_)
      (try simp only [Act.put, List.setIfInBounds_toArray, List.set_cons_zero, List.set_cons_succ])
      refine takeY 35 (h := ?_)
      refine takeY 36 (h := ?_)
      refine takeY 37 (h := ?_)
      (try simp only [Act.put, List.setIfInBounds_toArray, List.set_cons_zero, List.set_cons_succ])
      refine wpAnyH_ready (rs := [31]) (by kernel_rfl) (by simp) ?_
      refine AllReadyH.cons (by (simp only [List.getElem?_toArray, List.getElem?_cons_succ, List.getElem?_cons_zero]) <;> rfl) (fun KX hK => ?_) AllReadyH.nil
      go_simp
      with_reducible refine (Tryz.vecAt sv tab 361 t.1 _ (HS.out.below HBW.out) HFAC.out.1 HFULL.out (by omega) (by omega)).mono ?_
      rintro e wrd21 ⟨⟨r, rfl, hr⟩, hb⟩
      rw [HAT.out] at hr
      obtain ⟨r, rfl⟩ := frac_pointer hr
      clear hHeld
      replace HBJ := Lib.hid (HBJ.out.trans (hb.mono HBJ.out.size))
      replace HBW := Lib.hid (HBW.out.trans (hb.mono HBW.out.size))
      replace HC0 := Lib.hid (HC0.out.below hb)
      replace HC1 := Lib.hid (HC1.out.below hb)
      replace HC2 := Lib.hid (HC2.out.below hb)
      clear hb
      have HF := Lib.hid hr
      clear hr
      refine hK.out _ _ ⟨HC0.out.is, HC1.out.is, HC2.out.is⟩ (fun hHeld => ?_)
      clear hK KX
      (try simp only [Act.put, List.setIfInBounds_toArray, List.set_cons_zero, List.set_cons_succ])
      refine wpAnyH_ready (rs := [32]) (by kernel_rfl) (by simp) ?_
      refine AllReadyH.cons (by (simp only [List.getElem?_toArray, List.getElem?_cons_succ, List.getElem?_cons_zero]) <;> rfl) (fun KX hK => ?_) AllReadyH.nil
      go_simp
      with_reducible refine (Tryz.fracText (.pointer r) t.2 361 _ HF.out (by omega) (by omega) (HTZ.out.after HBW.out)).mono ?_
      rintro e wrd22 ⟨rfl, hb⟩
      rw [HTX.out]
      clear hHeld
      replace HBJ := Lib.hid (HBJ.out.trans (hb.mono HBJ.out.size))
      replace HBW := Lib.hid (HBW.out.trans (hb.mono HBW.out.size))
      replace HC0 := Lib.hid (HC0.out.below hb)
      replace HC1 := Lib.hid (HC1.out.below hb)
      replace HC2 := Lib.hid (HC2.out.below hb)
      replace HF := Lib.hid (HF.out.below hb)
      clear hb
      refine hK.out _ _ ⟨HC0.out.is, HC1.out.is, HC2.out.is⟩ (fun hHeld => ?_)
      clear hK KX
      (try simp only [Act.put, List.setIfInBounds_toArray, List.set_cons_zero, List.set_cons_succ])
      refine takeY 38 (h := ?_)
      refine takeY 39 (h := ?_)
      (try simp only [Act.put, List.setIfInBounds_toArray, List.set_cons_zero, List.set_cons_succ])
      refine wpAnyH_done (by kernel_rfl) ?_ _
      clear hHeld HF HC0 HC1 HBW HC2
      go_wp2
      go_roundw
      case rel => exact ⟨j + 1, by go_num, by omega, HBJ.out⟩
      case measure => simp [intOf]; omega
     ·have e0 : decide (0 < (j : Int)) = false := by simp; omega
      have e0' : decide (0 < j) = false := by simpa using hpos
      clear ht
      go_wp2_with fail
      refine wp_region_held_drew (S := fun w' => w'.cell? ⟨g, o + j * 2, none⟩ = some (.int .i64 t.1) ∧ w'.cell? ⟨g, o + j * 2 + 1, none⟩ = some (.string tx)) (by kernel_rfl) ⟨HC0.out.is, HC1.out.is⟩ (fun hHeld => ?_)
      replace HBJ := Lib.hid (HBJ.out.drew)
      replace HBW := Lib.hid (HBW.out.drew)
      replace HC0 := Lib.hid (HC0.out.below (Below.refl _ _).drew)
      replace HC1 := Lib.hid (HC1.out.below (Below.refl _ _).drew)
      clear hHeld
      generalize wr.drew = wrd at *
      have hHeld : (fun w' : World => w'.cell? ⟨g, o + j * 2, none⟩ = some (.int .i64 t.1) ∧ w'.cell? ⟨g, o + j * 2 + 1, none⟩ = some (.string tx)) wrd := ⟨HC0.out.is, HC1.out.is⟩
      refine takeY 0 (h := ?_)
      refine takeY 1 (h := ?_)
      refine takeY 2 (h := ?_)
      (try simp only [Act.put, List.setIfInBounds_toArray, List.set_cons_zero, List.set_cons_succ])
      refine takeN 3 (h := ?_)
      refine takeN 4 (h := ?_)
      refine takeN 5 (h := ?_)
      (try simp only [Act.put, List.setIfInBounds_toArray, List.set_cons_zero, List.set_cons_succ])
      refine takeN 6 (h := ?_)
      refine takeN 7 (h := ?_)
      refine takeN 8 (h := ?_)
      (try simp only [Act.put, List.setIfInBounds_toArray, List.set_cons_zero, List.set_cons_succ])
      refine takeN 9 (h := ?_)
      refine takeN 10 (h := ?_)
      refine takeN 11 (h := ?_)
      (try simp only [Act.put, List.setIfInBounds_toArray, List.set_cons_zero, List.set_cons_succ])
      refine takeN 12 (h := ?_)
      refine takeN 13 (h := ?_)
      refine takeN 14 (h := ?_)
      (try simp only [Act.put, List.setIfInBounds_toArray, List.set_cons_zero, List.set_cons_succ])
      refine takeY 15 (h := ?_)
      refine takeY 16 (h := ?_)
      refine takeY 17 (h := ?_)
      (try simp only [Act.put, List.setIfInBounds_toArray, List.set_cons_zero, List.set_cons_succ])
      refine takeY 18 (h := ?_)
      refine takeY 19 (h := ?_)
      refine takeY 20 (h := ?_)
      (try simp only [Act.put, List.setIfInBounds_toArray, List.set_cons_zero, List.set_cons_succ])
      refine takeY 21 (h := ?_)
      refine takeY 22 (h := ?_)
      refine takeY 23 (h := ?_)
      (try simp only [Act.put, List.setIfInBounds_toArray, List.set_cons_zero, List.set_cons_succ])
      refine takeY 24 (h := ?_)
      refine takeY 25 (h := ?_)
      refine takeY 26 (h := ?_)
      (try simp only [Act.put, List.setIfInBounds_toArray, List.set_cons_zero, List.set_cons_succ])
      refine takeY 27 (h := ?_)
      refine takeY 28 (h := ?_)
      refine takeY 29 (h := ?_)
      (try simp only [Act.put, List.setIfInBounds_toArray, List.set_cons_zero, List.set_cons_succ])
      refine takeY 30 (h := ?_)
      refine takeY 33 (h := ?_)
      refine takeY 34 (h := ?_)
      (try simp only [Act.put, List.setIfInBounds_toArray, List.set_cons_zero, List.set_cons_succ])
      refine takeY 35 (h := ?_)
      refine takeY 36 (h := ?_)
      refine takeY 37 (h := ?_)
      (try simp only [Act.put, List.setIfInBounds_toArray, List.set_cons_zero, List.set_cons_succ])
      refine wpAnyH_ready (rs := [31]) (by kernel_rfl) (by simp) ?_
      refine AllReadyH.cons (by (simp only [List.getElem?_toArray, List.getElem?_cons_succ, List.getElem?_cons_zero]) <;> rfl) (fun KX hK => ?_) AllReadyH.nil
      go_simp
      with_reducible refine (Tryz.vecAt sv tab 361 t.1 _ (HS.out.below HBW.out) HFAC.out.1 HFULL.out (by omega) (by omega)).mono ?_
      rintro e wrd21 ⟨⟨r, rfl, hr⟩, hb⟩
      rw [HAT.out] at hr
      obtain ⟨r, rfl⟩ := frac_pointer hr
      clear hHeld
      replace HBJ := Lib.hid (HBJ.out.trans (hb.mono HBJ.out.size))
      replace HBW := Lib.hid (HBW.out.trans (hb.mono HBW.out.size))
      replace HC0 := Lib.hid (HC0.out.below hb)
      replace HC1 := Lib.hid (HC1.out.below hb)
      clear hb
      have HF := Lib.hid hr
      clear hr
      refine hK.out _ _ ⟨HC0.out.is, HC1.out.is⟩ (fun hHeld => ?_)
      clear hK KX
      (try simp only [Act.put, List.setIfInBounds_toArray, List.set_cons_zero, List.set_cons_succ])
      refine wpAnyH_ready (rs := [32]) (by kernel_rfl) (by simp) ?_
      refine AllReadyH.cons (by (simp only [List.getElem?_toArray, List.getElem?_cons_succ, List.getElem?_cons_zero]) <;> rfl) (fun KX hK => ?_) AllReadyH.nil
      go_simp
      with_reducible refine (Tryz.fracText (.pointer r) t.2 361 _ HF.out (by omega) (by omega) (HTZ.out.after HBW.out)).mono ?_
      rintro e wrd22 ⟨rfl, hb⟩
      rw [HTX.out]
      clear hHeld
      replace HBJ := Lib.hid (HBJ.out.trans (hb.mono HBJ.out.size))
      replace HBW := Lib.hid (HBW.out.trans (hb.mono HBW.out.size))
      replace HC0 := Lib.hid (HC0.out.below hb)
      replace HC1 := Lib.hid (HC1.out.below hb)
      replace HF := Lib.hid (HF.out.below hb)
      clear hb
      refine hK.out _ _ ⟨HC0.out.is, HC1.out.is⟩ (fun hHeld => ?_)
      clear hK KX
      (try simp only [Act.put, List.setIfInBounds_toArray, List.set_cons_zero, List.set_cons_succ])
      refine takeY 38 (h := ?_)
      refine takeY 39 (h := ?_)
      (try simp only [Act.put, List.setIfInBounds_toArray, List.set_cons_zero, List.set_cons_succ])
      refine wpAnyH_done (by kernel_rfl) ?_ _
      clear hHeld HF HC0 HC1 HBW
      go_wp2
      go_roundw
      case rel => exact ⟨j + 1, by go_num, by omega, HBJ.out⟩
      case measure => simp [intOf]; omega
    ·have e1 : decide ((j : Int) < (tab.length : Int)) = false := by simp; omega
     have e1' : decide (j < tab.length) = false := by simpa using hlt
     have HBW := Lib.hid (HB.out.trans (HBJ.out.mono HB.out.size))
     have HD_ := Lib.hid (HD.out.below HBJ.out)
     have HQD_ := Lib.hid (HQD.out.below HBJ.out)
     clear HB HD HQD HBJ
     go_wp2_with fail
     have HD := HD_
     clear HD_
     have HQD := HQD_
     clear HQD_
     refine wp_region_held_drew (S := fun w' => w'.cell? ⟨gd, 0, none⟩ = some (.bool eb) ∧ w'.cell? ⟨gd, 1, none⟩ = some (.slice ep2 en2 ec2) ∧ w'.cell? ⟨gd, 2, none⟩ = some (.slice ep3 en3 ec3)) (by kernel_rfl) ⟨HD.out.cell 0, HD.out.cell 1, HD.out.cell 2⟩ (fun hHeld => ?_)
     replace HBW := Lib.hid (HBW.out.drew)
     replace HD := Lib.hid (HD.out.below (Below.refl _ _).drew)
     replace HQD := Lib.hid (HQD.out.below (Below.refl _ _).drew)
     clear hHeld
     generalize wr.drew = wrd at *
     have hHeld : (fun w' : World => w'.cell? ⟨gd, 0, none⟩ = some (.bool eb) ∧ w'.cell? ⟨gd, 1, none⟩ = some (.slice ep2 en2 ec2) ∧ w'.cell? ⟨gd, 2, none⟩ = some (.slice ep3 en3 ec3)) wrd := ⟨HD.out.cell 0, HD.out.cell 1, HD.out.cell 2⟩
     refine takeY 0 (h := ?_)
     refine takeY 1 (h := ?_)
     refine takeY 4 (h := ?_)
     (try simp only [Act.put, List.setIfInBounds_toArray, List.set_cons_zero, List.set_cons_succ])
     refine wpAnyH_ready (rs := [2]) (by kernel_rfl) (by simp) ?_
     refine AllReadyH.cons (by (simp only [List.getElem?_toArray, List.getElem?_cons_succ, List.getElem?_cons_zero]) <;> rfl) (fun KX hK => ?_) AllReadyH.nil
     go_simp
     with_reducible refine (Tryz.vecDot va vb ta tb 120 120 2411 _ (HVa.out.below HBW.out) (HVb.out.below HBW.out) (by omega) (by omega) (by omega) (by omega) (by have := HX1.out.len; have := HX2.out.len; omega) (by omega)).mono ?_
     rintro e wrd21 ⟨⟨r, rfl, hr⟩, hb⟩
     rw [← HDOT.out.1] at hr
     obtain ⟨r, rfl⟩ := frac_pointer hr
     clear hHeld
     replace HBW := Lib.hid (HBW.out.trans (hb.mono HBW.out.size))
     replace HD := Lib.hid (HD.out.below hb)
     replace HQD := Lib.hid (HQD.out.below hb)
     clear hb
     have HF1 := Lib.hid hr
     clear hr
     refine hK.out _ _ ⟨HD.out.cell 0, HD.out.cell 1, HD.out.cell 2⟩ (fun hHeld => ?_)
     clear hK KX
     (try simp only [Act.put, List.setIfInBounds_toArray, List.set_cons_zero, List.set_cons_succ])
     refine wpAnyH_ready (rs := [3]) (by kernel_rfl) (by simp) ?_
     refine AllReadyH.cons (by (simp only [List.getElem?_toArray, List.getElem?_cons_succ, List.getElem?_cons_zero]) <;> rfl) (fun KX hK => ?_) AllReadyH.nil
     go_simp
     with_reducible refine (Tryz.fracText (.pointer r) dq 2411 _ HF1.out (by omega) (by omega) (HTZ.out.after HBW.out)).mono ?_
     rintro e wrd22 ⟨rfl, hb⟩
     clear hHeld
     replace HBW := Lib.hid (HBW.out.trans (hb.mono HBW.out.size))
     replace HD := Lib.hid (HD.out.below hb)
     replace HQD := Lib.hid (HQD.out.below hb)
     replace HF1 := Lib.hid (HF1.out.below hb)
     clear hb
     refine hK.out _ _ ⟨HD.out.cell 0, HD.out.cell 1, HD.out.cell 2⟩ (fun hHeld => ?_)
     clear hK KX
     (try simp only [Act.put, List.setIfInBounds_toArray, List.set_cons_zero, List.set_cons_succ])
     refine wpAnyH_ready (rs := [5]) (by kernel_rfl) (by simp) ?_
     refine AllReadyH.cons (by (simp only [List.getElem?_toArray, List.getElem?_cons_succ, List.getElem?_cons_zero]) <;> rfl) (fun KX hK => ?_) AllReadyH.nil
     go_simp
     with_reducible refine (Tryz.rQTextA (.agg #[.bool eb, .slice ep2 en2 ec2, .slice ep3 en3 ec3]) dq (1 + 31 * 1003) _ HQD.out (by omega) (by omega)).mono ?_
     rintro e wrd23 ⟨rfl, hb⟩
     clear hHeld
     replace HBW := Lib.hid (HBW.out.trans (hb.mono HBW.out.size))
     replace HD := Lib.hid (HD.out.below hb)
     replace HQD := Lib.hid (HQD.out.below hb)
     replace HF1 := Lib.hid (HF1.out.below hb)
     clear hb
     refine hK.out _ _ ⟨HD.out.cell 0, HD.out.cell 1, HD.out.cell 2⟩ (fun hHeld => ?_)
     clear hK KX
     (try simp only [Act.put, List.setIfInBounds_toArray, List.set_cons_zero, List.set_cons_succ])
     refine takeY 6 (h := ?_)
     refine takeY 7 (h := ?_)
     refine takeY 8 (h := ?_)
     (try simp only [Act.put, List.setIfInBounds_toArray, List.set_cons_zero, List.set_cons_succ])
     refine takeY 9 (h := ?_)
     refine takeY 12 (h := ?_)
     (try simp only [Act.put, List.setIfInBounds_toArray, List.set_cons_zero, List.set_cons_succ])
     refine wpAnyH_ready (rs := [10]) (by kernel_rfl) (by simp) ?_
     refine AllReadyH.cons (by (simp only [List.getElem?_toArray, List.getElem?_cons_succ, List.getElem?_cons_zero]) <;> rfl) (fun KX hK => ?_) AllReadyH.nil
     go_simp
     with_reducible refine (Tryz.vecDot vb va tb ta 120 120 2411 _ (HVb.out.below HBW.out) (HVa.out.below HBW.out) (by omega) (by omega) (by omega) (by omega) (by have := HX1.out.len; have := HX2.out.len; omega) (by omega)).mono ?_
     rintro e wrd24 ⟨⟨r, rfl, hr⟩, hb⟩
     rw [← HDOT.out.2] at hr
     obtain ⟨r, rfl⟩ := frac_pointer hr
     clear hHeld
     replace HBW := Lib.hid (HBW.out.trans (hb.mono HBW.out.size))
     replace HD := Lib.hid (HD.out.below hb)
     replace HQD := Lib.hid (HQD.out.below hb)
     replace HF1 := Lib.hid (HF1.out.below hb)
     clear hb
     have HF2 := Lib.hid hr
     clear hr
     refine hK.out _ _ ⟨HD.out.cell 0, HD.out.cell 1, HD.out.cell 2⟩ (fun hHeld => ?_)
     clear hK KX
     (try simp only [Act.put, List.setIfInBounds_toArray, List.set_cons_zero, List.set_cons_succ])
     refine wpAnyH_ready (rs := [11]) (by kernel_rfl) (by simp) ?_
     refine AllReadyH.cons (by (simp only [List.getElem?_toArray, List.getElem?_cons_succ, List.getElem?_cons_zero]) <;> rfl) (fun KX hK => ?_) AllReadyH.nil
     go_simp
     with_reducible refine (Tryz.fracText (.pointer r) dq 2411 _ HF2.out (by omega) (by omega) (HTZ.out.after HBW.out)).mono ?_
     rintro e wrd25 ⟨rfl, hb⟩
     clear hHeld
     replace HBW := Lib.hid (HBW.out.trans (hb.mono HBW.out.size))
     replace HD := Lib.hid (HD.out.below hb)
     replace HQD := Lib.hid (HQD.out.below hb)
     replace HF1 := Lib.hid (HF1.out.below hb)
     replace HF2 := Lib.hid (HF2.out.below hb)
     clear hb
     refine hK.out _ _ ⟨HD.out.cell 0, HD.out.cell 1, HD.out.cell 2⟩ (fun hHeld => ?_)
     clear hK KX
     (try simp only [Act.put, List.setIfInBounds_toArray, List.set_cons_zero, List.set_cons_succ])
     refine wpAnyH_ready (rs := [13]) (by kernel_rfl) (by simp) ?_
     refine AllReadyH.cons (by (simp only [List.getElem?_toArray, List.getElem?_cons_succ, List.getElem?_cons_zero]) <;> rfl) (fun KX hK => ?_) AllReadyH.nil
     go_simp
     with_reducible refine (Tryz.rQTextA (.agg #[.bool eb, .slice ep2 en2 ec2, .slice ep3 en3 ec3]) dq (1 + 31 * 1003) _ HQD.out (by omega) (by omega)).mono ?_
     rintro e wrd26 ⟨rfl, hb⟩
     clear hHeld
     replace HBW := Lib.hid (HBW.out.trans (hb.mono HBW.out.size))
     replace HD := Lib.hid (HD.out.below hb)
     replace HQD := Lib.hid (HQD.out.below hb)
     replace HF1 := Lib.hid (HF1.out.below hb)
     replace HF2 := Lib.hid (HF2.out.below hb)
     clear hb
     refine hK.out _ _ ⟨HD.out.cell 0, HD.out.cell 1, HD.out.cell 2⟩ (fun hHeld => ?_)
     clear hK KX
     (try simp only [Act.put, List.setIfInBounds_toArray, List.set_cons_zero, List.set_cons_succ])
     refine takeY 14 (h := ?_)
     refine takeY 15 (h := ?_)
     refine takeY 16 (h := ?_)
     (try simp only [Act.put, List.setIfInBounds_toArray, List.set_cons_zero, List.set_cons_succ])
     refine takeY 17 (h := ?_)
     refine takeY 18 (h := ?_)
     refine takeY 19 (h := ?_)
     (try simp only [Act.put, List.setIfInBounds_toArray, List.set_cons_zero, List.set_cons_succ])
     refine takeY 20 (h := ?_)
     refine takeY 21 (h := ?_)
     refine takeY 22 (h := ?_)
     (try simp only [Act.put, List.setIfInBounds_toArray, List.set_cons_zero, List.set_cons_succ])
     refine takeY 23 (h := ?_)
     refine takeY 25 (h := ?_)
     (try simp only [Act.put, List.setIfInBounds_toArray, List.set_cons_zero, List.set_cons_succ])
     refine wpAnyH_ready (rs := [24]) (by kernel_rfl) (by simp) ?_
     refine AllReadyH.cons (by (simp only [List.getElem?_toArray, List.getElem?_cons_succ, List.getElem?_cons_zero]) <;> rfl) (fun KX hK => ?_) AllReadyH.nil
     go_simp
     with_reducible refine (Tryz.vecLen sv tab _ _ (HS.out.below HBW.out)).mono ?_
     rintro e w99 ⟨rfl, rfl⟩
     refine hK.out _ _ ⟨HD.out.cell 0, HD.out.cell 1, HD.out.cell 2⟩ (fun hHeld => ?_)
     clear hK KX
     (try simp only [Act.put, List.setIfInBounds_toArray, List.set_cons_zero, List.set_cons_succ])
     refine takeY 26 (h := ?_)
     refine takeY 27 (h := ?_)
     refine takeY 28 (h := ?_)
     (try simp only [Act.put, List.setIfInBounds_toArray, List.set_cons_zero, List.set_cons_succ])
     refine wpAnyH_done (by kernel_rfl) ?_ _
     clear hHeld HF1 HF2 HD HQD
     go_wp2
     go_ret
     exact ⟨rfl, HB0.out.trans (HBW.out.mono HB0.out.size)⟩
end Go.Proofs.Vt
