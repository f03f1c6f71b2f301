/- VecLaws: products of vectors go with sums; a vector less itself is nothing: the call returns true. What F and Text of the law file return. -/
import Derived.Test.YtcnjcfoaoaldeaaGreatDoorVq
import Derived.Test.YtcnjcfoaoaldeaaGreatDoorVs
namespace Go.Proofs.Vt
open Go.RowKit Go.Proofs.Wd Go.Proofs.Fr
open Vm (T Rise Full In)
set_option linter.unusedVariables false
set_option maxHeartbeats 4000000 in
set_option maxRecDepth 100000 in
theorem Tryz.cutText (s : ByteArray) (n : Nat) (w : World) (hmax : s.size ≤ 9223372036854775807) (hn : n ≤ 1000000) :
    Calls Tryz.prog 15 #[.string s, .int .i64 n] w fun e w' => (∃ t : ByteArray, e = .returned (.string t) ∧ t.size ≤ n) ∧ w' = w := by
  obtain ⟨m, hm⟩ : ∃ m : Nat, (min (s.size : Int) (n : Int)) = m := ⟨min s.size n, by omega⟩
  have hmb : m ≤ s.size ∧ m ≤ n := by omega
  obtain ⟨hm1, hm2⟩ := hmb
  have HC : Hid ((s.extract 0 m).size ≤ n) := Nat.le_trans (size_cut s 0 m) (by omega)
  go_enter Tryz.func15, Tryz.ntmps15
  go_wp2
  go_ret
  exact ⟨⟨_, rfl, HC.out⟩, rfl⟩
theorem text_nought : (⟨(textQ 0).toArray⟩ : ByteArray) = ⟨#[48]⟩ := by
  unfold textQ
  have hd : Lib.decDigits 0 = [48] := by simp [Lib.decDigits]
  simp [hd]
/-- What F tells: a fraction that its own text shows. -/
def FSaid (w : World) (e : Ending) : Prop := ∃ (v : Value) (q : Rat), e = .returned v ∧ FracIs w v q 120 ∧ getQ ⟨(textQ q).toArray⟩ = some q
set_option maxHeartbeats 4000000 in
set_option maxRecDepth 100000 in
theorem Tryz.lawF (s : ByteArray) (w : World) (hs : s.size ≤ 4294967280) :
    Calls Tryz.prog 14 #[.string s] w fun e w' => FSaid w' e ∧ Below w.heap.size w w' := by
  go_enter Tryz.func14, Tryz.ntmps14
  go_wp2_with fail
  with_reducible refine (Tryz.fracGet s _ hs).mono ?_
  rintro e w1 ⟨⟨q, v, h1, rfl, h3⟩ | ⟨h1, rfl⟩, hb⟩
  · have HR : Hid (FSaid w1 (.returned v)) := ⟨v, q, rfl, h3, by rw [text_own h1]; exact h1⟩
    have HB := Lib.hid hb
    clear h1 h3 hb
    go_wp2
    go_ret
    exact ⟨HR.out, HB.out⟩
  · have HB := Lib.hid hb
    clear h1 hb
    go_wp2_with fail
    with_reducible refine (Tryz.Of 0 _ (by omega) (by omega)).mono ?_
    rintro e w2 ⟨⟨v, rfl, hv⟩, hb2⟩
    have HR : Hid (FSaid w2 (.returned v)) := ⟨v, 0, rfl, hv.more (by omega), by rw [text_nought]; exact getQ_nought⟩
    have HB2 := Lib.hid (HB.out.trans (hb2.mono HB.out.size))
    clear hv hb2 HB
    go_wp2
    go_ret
    exact ⟨HR.out, HB2.out⟩
theorem coefOk_up {a b : Int} {cs : C} (h : CoefOk a cs) (hab : a ≤ b) : CoefOk b cs := ⟨h.1, fun c hc => by have := h.2 c hc; exact ⟨this.1, by omega, this.2.2⟩⟩
theorem keep_short (ts : T) : (Vm.keep ts).length ≤ ts.length := List.length_filter_le _ _
/-- A vector as New makes it of what coefs tells. -/
structure Vec10 (ts : T) : Prop where
  rise : Rise ts
  full : Full ts
  inn : In 1000 ts
  len : ts.length ≤ 10
theorem vec10 {cs : C} (h : CoefOk 30 cs) (hn : cs.length ≤ 10) : Vec10 (Vm.keep (termsOf cs)) :=
  ⟨Vm.rise_keep (termsOf_rise h), Vm.full_keep _, fun t ht => by
    have := termsOf_in (n := 30) h t (Vm.mem_keep ht)
    omega, by have := keep_short (termsOf cs); rw [termsOf_len] at this; omega⟩
/-- v and k times w, as Add tells it. -/
def addQ (q : Rat) (l r : T) : T := if q = 0 then l else Vm.add q l r
theorem addQ_facts (q : Rat) {l r : T} (hl : Vec10 l) (hr : Vec10 r) : Rise (addQ q l r) ∧ In 1000 (addQ q l r) ∧ (addQ q l r).length ≤ l.length + r.length ∧ (addQ q l r).length ≤ 20 := by
  have h1 := hl.len
  have h2 := hr.len
  unfold addQ
  split
  · exact ⟨hl.rise, hl.inn, by omega, by omega⟩
  · have := Vm.len_add q l r
    exact ⟨Vm.rise_add _ _ _ hl.rise hr.rise, Vm.in_add _ _ _ hl.inn hr.inn, this, by omega⟩
theorem addQ_dot (q : Rat) {l r c : T} (hl : Vec10 l) (hr : Vec10 r) (hc : Vec10 c) : Vm.dot 0 (addQ q l r) c = Vm.dot 0 l c + q * Vm.dot 0 r c := by
  obtain ⟨a1, a2, -⟩ := addQ_facts q hl hr
  rw [Vm.dot_eq 0 _ _ a1 hc.rise a2 hc.inn, Vm.dot_eq 0 _ _ hl.rise hc.rise hl.inn hc.inn, Vm.dot_eq 0 _ _ hr.rise hc.rise hr.inn hc.inn, Rat.zero_add, Rat.zero_add, Rat.zero_add]
  unfold addQ
  split
  · rename_i h; rw [h, Rat.zero_mul, Rat.add_zero]
  · rw [Vm.dotS_add _ _ _ _ _ hl.rise hr.rise]
theorem addQ_self {l : T} (hl : Vec10 l) : addQ ((-1 : Int) : Rat) l l = [] := by
  unfold addQ
  rw [if_neg (by decide)]
  refine Vm.nil_of_zero (Vm.rise_add _ _ _ hl.rise hl.rise) (Vm.full_add _ (by decide) _ _ hl.full hl.full) (fun i => ?_)
  rw [Vm.at_add _ _ _ hl.rise hl.rise]
  have : ((-1 : Int) : Rat) = -1 := rfl
  rw [this]
  grind
set_option maxHeartbeats 16000000 in
set_option maxRecDepth 100000 in
theorem vecLawsWalk (u1 u2 u3 v1 v2 v3 : Value) (z1 z2 z3 : List Int) (s1 s2 s3 : List ByteArray) (t : ByteArray) (w : World) (hu1 : IntsIn w u1 z1) (hu2 : IntsIn w u2 z2) (hu3 : IntsIn w u3 z3) (hv1 : StrsIn w v1 s1) (hv2 : StrsIn w v2 s2) (hv3 : StrsIn w v3 s3) (ht : t.size ≤ 9223372036854775807) (hT : TabOk w)
    (hB : Calls Tryz.prog 11 #[] w fun e w' => e = .returned (.bool true) ∧ Below w.heap.size w w') :
    Calls Tryz.prog 7 #[u1, u2, u3, v1, v2, v3, .string t] w fun e w' => e = .returned (.bool true) ∧ Below w.heap.size w w' := by
  have HT : Hid (TabOk w) := hT
  have HU1 := Lib.hid hu1
  have HU2 := Lib.hid hu2
  have HU3 := Lib.hid hu3
  have HV1 := Lib.hid hv1
  have HV2 := Lib.hid hv2
  have HV3 := Lib.hid hv3
  have HB : Hid (Below w.heap.size w w) := Below.refl _ _
  have HCT : Hid (∀ W, Calls Tryz.prog 15 #[.string t, .int .i64 20] W fun e w' => (∃ t : ByteArray, e = .returned (.string t) ∧ t.size ≤ 20) ∧ w' = W) := fun W => Tryz.cutText t 20 W ht (by omega)
  clear hT hu1 hu2 hu3 hv1 hv2 hv3
  go_enter Tryz.func7, Tryz.ntmps7
  go_wp2_with fail
  with_reducible refine (hB).mono ?_
  rintro e w1 ⟨rfl, hb⟩
  have HB_ := Lib.hid (HB.out.trans (hb.mono HB.out.size))
  clear hb HB 
  have HB := HB_
  clear HB_
  clear hB
  go_wp2_with fail
  with_reducible refine (Tryz.coefs u1 v1 z1 s1 _ (HU1.out.below HB.out) (HV1.out.below HB.out)).mono ?_
  rintro e w2 ⟨⟨l, cs, rfl, hl, hok, hn⟩, hb⟩
  have HB_ := Lib.hid (HB.out.trans (hb.mono HB.out.size))
  clear hb HB 
  have HB := HB_
  clear HB_
  have HOK := Lib.hid hok
  have HLL := Lib.hid hl
  clear hok hl
  go_wp2_with fail
  with_reducible refine (Tryz.vecNew _ l cs _ HLL.out.reads (coefOk_up HOK.out (by omega)) (by omega)).mono ?_
  rintro e w3 ⟨⟨a, rfl, hA⟩, hb⟩
  have HB_ := Lib.hid (HB.out.trans (hb.mono HB.out.size))
  clear hb HB 
  have HB := HB_
  clear HB_
  have H10A := Lib.hid (vec10 HOK.out hn)
  obtain ⟨ta, hta⟩ : ∃ ts, Vm.keep (termsOf cs) = ts := ⟨_, rfl⟩
  rw [hta] at hA H10A
  have HA := Lib.hid hA
  clear hA HOK HLL hn hta
  go_wp2_with fail
  with_reducible refine (Tryz.coefs u2 v2 z2 s2 _ (HU2.out.below HB.out) (HV2.out.below HB.out)).mono ?_
  rintro e w4 ⟨⟨l, cs, rfl, hl, hok, hn⟩, hb⟩
  have HA_ := Lib.hid (HA.out.below hb)
  have HB_ := Lib.hid (HB.out.trans (hb.mono HB.out.size))
  clear hb HB HA
  have HA := HA_
  clear HA_
  have HB := HB_
  clear HB_
  have HOK := Lib.hid hok
  have HLL := Lib.hid hl
  clear hok hl
  go_wp2_with fail
  with_reducible refine (Tryz.vecNew _ l cs _ HLL.out.reads (coefOk_up HOK.out (by omega)) (by omega)).mono ?_
  rintro e w5 ⟨⟨b, rfl, hB⟩, hb⟩
  have HA_ := Lib.hid (HA.out.below hb)
  have HB_ := Lib.hid (HB.out.trans (hb.mono HB.out.size))
  clear hb HB HA
  have HA := HA_
  clear HA_
  have HB := HB_
  clear HB_
  have H10B := Lib.hid (vec10 HOK.out hn)
  obtain ⟨tb, htb⟩ : ∃ ts, Vm.keep (termsOf cs) = ts := ⟨_, rfl⟩
  rw [htb] at hB H10B
  have HBv := Lib.hid hB
  clear hB HOK HLL hn htb
  go_wp2_with fail
  with_reducible refine (Tryz.coefs u3 v3 z3 s3 _ (HU3.out.below HB.out) (HV3.out.below HB.out)).mono ?_
  rintro e w6 ⟨⟨l, cs, rfl, hl, hok, hn⟩, hb⟩
  have HA_ := Lib.hid (HA.out.below hb)
  have HBv_ := Lib.hid (HBv.out.below hb)
  have HB_ := Lib.hid (HB.out.trans (hb.mono HB.out.size))
  clear hb HB HA HBv
  have HA := HA_
  clear HA_
  have HBv := HBv_
  clear HBv_
  have HB := HB_
  clear HB_
  have HOK := Lib.hid hok
  have HLL := Lib.hid hl
  clear hok hl
  go_wp2_with fail
  with_reducible refine (Tryz.vecNew _ l cs _ HLL.out.reads (coefOk_up HOK.out (by omega)) (by omega)).mono ?_
  rintro e w7 ⟨⟨c, rfl, hC⟩, hb⟩
  have HA_ := Lib.hid (HA.out.below hb)
  have HBv_ := Lib.hid (HBv.out.below hb)
  have HB_ := Lib.hid (HB.out.trans (hb.mono HB.out.size))
  clear hb HB HA HBv
  have HA := HA_
  clear HA_
  have HBv := HBv_
  clear HBv_
  have HB := HB_
  clear HB_
  have H10C := Lib.hid (vec10 HOK.out hn)
  obtain ⟨tc, htc⟩ : ∃ ts, Vm.keep (termsOf cs) = ts := ⟨_, rfl⟩
  rw [htc] at hC H10C
  have HC := Lib.hid hC
  clear hC HOK HLL hn htc
  go_wp2_with fail
  with_reducible refine (HCT.out _).mono ?_
  rintro e w8 ⟨⟨t2, rfl, ht2⟩, rfl⟩
  go_wp2_with fail
  with_reducible refine (Tryz.lawF t2 _ (by omega)).mono ?_
  rintro e w9 ⟨⟨f, q, rfl, hf, -⟩, hb⟩
  have HA_ := Lib.hid (HA.out.below hb)
  have HBv_ := Lib.hid (HBv.out.below hb)
  have HC_ := Lib.hid (HC.out.below hb)
  have HB_ := Lib.hid (HB.out.trans (hb.mono HB.out.size))
  clear hb HB HA HBv HC
  have HA := HA_
  clear HA_
  have HBv := HBv_
  clear HBv_
  have HC := HC_
  clear HC_
  have HB := HB_
  clear HB_
  have HF := Lib.hid hf
  clear hf
  have la := H10A.out.len
  have lb := H10B.out.len
  have lc := H10C.out.len
  have ad := addQ_facts q H10A.out H10B.out
  have lab := ad.2.2.2
  have lab2 := ad.2.2.1
  clear ad
  obtain ⟨tab, htab⟩ : ∃ ts, addQ q ta tb = ts := ⟨_, rfl⟩
  have HTAB := Lib.hid htab
  rw [htab] at lab lab2
  clear htab
  go_wp2_with fail
  with_reducible refine (Tryz.vecAdd a f b ta tb q 120 120 120 _ HA.out HF.out HBv.out (by omega) (by omega) (by omega) (by omega) (by omega) (by omega) (by omega) (by omega)).mono ?_
  rintro e w10 ⟨⟨s1, rfl, hs1⟩, hb⟩
  rw [show (if q = 0 then ta else Vm.add q ta tb) = tab from HTAB.out] at hs1
  have HA_ := Lib.hid (HA.out.below hb)
  have HBv_ := Lib.hid (HBv.out.below hb)
  have HC_ := Lib.hid (HC.out.below hb)
  have HF_ := Lib.hid (HF.out.below hb)
  have HB_ := Lib.hid (HB.out.trans (hb.mono HB.out.size))
  clear hb HB HA HBv HC HF
  have HA := HA_
  clear HA_
  have HBv := HBv_
  clear HBv_
  have HC := HC_
  clear HC_
  have HF := HF_
  clear HF_
  have HB := HB_
  clear HB_
  have HS1 := Lib.hid hs1
  clear hs1
  go_wp2_with fail
  with_reducible refine (Tryz.vecDot s1 c tab tc 361 120 9641 _ HS1.out HC.out (by omega) (by omega) (by omega) (by omega) (by omega) (by omega)).mono ?_
  rintro e w11 ⟨⟨d1, rfl, hd1⟩, hb⟩
  have HA_ := Lib.hid (HA.out.below hb)
  have HBv_ := Lib.hid (HBv.out.below hb)
  have HC_ := Lib.hid (HC.out.below hb)
  have HF_ := Lib.hid (HF.out.below hb)
  have HS1_ := Lib.hid (HS1.out.below hb)
  have HB_ := Lib.hid (HB.out.trans (hb.mono HB.out.size))
  clear hb HB HA HBv HC HF HS1
  have HA := HA_
  clear HA_
  have HBv := HBv_
  clear HBv_
  have HC := HC_
  clear HC_
  have HF := HF_
  clear HF_
  have HS1 := HS1_
  clear HS1_
  have HB := HB_
  clear HB_
  have HD1 := Lib.hid hd1
  clear hd1
  go_wp2_with fail
  with_reducible refine (Tryz.vecDot a c ta tc 120 120 2411 _ HA.out HC.out (by omega) (by omega) (by omega) (by omega) (by omega) (by omega)).mono ?_
  rintro e w12 ⟨⟨d2, rfl, hd2⟩, hb⟩
  have HA_ := Lib.hid (HA.out.below hb)
  have HBv_ := Lib.hid (HBv.out.below hb)
  have HC_ := Lib.hid (HC.out.below hb)
  have HF_ := Lib.hid (HF.out.below hb)
  have HS1_ := Lib.hid (HS1.out.below hb)
  have HD1_ := Lib.hid (HD1.out.below hb)
  have HB_ := Lib.hid (HB.out.trans (hb.mono HB.out.size))
  clear hb HB HA HBv HC HF HS1 HD1
  have HA := HA_
  clear HA_
  have HBv := HBv_
  clear HBv_
  have HC := HC_
  clear HC_
  have HF := HF_
  clear HF_
  have HS1 := HS1_
  clear HS1_
  have HD1 := HD1_
  clear HD1_
  have HB := HB_
  clear HB_
  have HD2 := Lib.hid hd2
  clear hd2
  go_wp2_with fail
  with_reducible refine (Tryz.vecDot b c tb tc 120 120 2411 _ HBv.out HC.out (by omega) (by omega) (by omega) (by omega) (by omega) (by omega)).mono ?_
  rintro e w13 ⟨⟨d3, rfl, hd3⟩, hb⟩
  have HA_ := Lib.hid (HA.out.below hb)
  have HBv_ := Lib.hid (HBv.out.below hb)
  have HC_ := Lib.hid (HC.out.below hb)
  have HF_ := Lib.hid (HF.out.below hb)
  have HS1_ := Lib.hid (HS1.out.below hb)
  have HD1_ := Lib.hid (HD1.out.below hb)
  have HD2_ := Lib.hid (HD2.out.below hb)
  have HB_ := Lib.hid (HB.out.trans (hb.mono HB.out.size))
  clear hb HB HA HBv HC HF HS1 HD1 HD2
  have HA := HA_
  clear HA_
  have HBv := HBv_
  clear HBv_
  have HC := HC_
  clear HC_
  have HF := HF_
  clear HF_
  have HS1 := HS1_
  clear HS1_
  have HD1 := HD1_
  clear HD1_
  have HD2 := HD2_
  clear HD2_
  have HB := HB_
  clear HB_
  have HD3 := Lib.hid hd3
  clear hd3
  go_wp2_with fail
  with_reducible refine (Tryz.mulA f d3 q (Vm.dot 0 tb tc) 120 2411 _ HF.out HD3.out (by omega) (by omega) (by omega) (by omega)).mono ?_
  rintro e w14 ⟨⟨d4, rfl, hd4⟩, hb⟩
  have HA_ := Lib.hid (HA.out.below hb)
  have HBv_ := Lib.hid (HBv.out.below hb)
  have HC_ := Lib.hid (HC.out.below hb)
  have HF_ := Lib.hid (HF.out.below hb)
  have HS1_ := Lib.hid (HS1.out.below hb)
  have HD1_ := Lib.hid (HD1.out.below hb)
  have HD2_ := Lib.hid (HD2.out.below hb)
  have HB_ := Lib.hid (HB.out.trans (hb.mono HB.out.size))
  clear hb HB HA HBv HC HF HS1 HD1 HD2 HD3
  have HA := HA_
  clear HA_
  have HBv := HBv_
  clear HBv_
  have HC := HC_
  clear HC_
  have HF := HF_
  clear HF_
  have HS1 := HS1_
  clear HS1_
  have HD1 := HD1_
  clear HD1_
  have HD2 := HD2_
  clear HD2_
  have HB := HB_
  clear HB_
  have HD4 := Lib.hid hd4
  clear hd4
  go_wp2_with fail
  with_reducible refine (Tryz.addA d2 d4 (Vm.dot 0 ta tc) (q * Vm.dot 0 tb tc) 2411 2531 _ HD2.out HD4.out (by omega) (by omega) (by omega) (by omega)).mono ?_
  rintro e w15 ⟨⟨d5, rfl, hd5⟩, hb⟩
  have HA_ := Lib.hid (HA.out.below hb)
  have HBv_ := Lib.hid (HBv.out.below hb)
  have HC_ := Lib.hid (HC.out.below hb)
  have HF_ := Lib.hid (HF.out.below hb)
  have HS1_ := Lib.hid (HS1.out.below hb)
  have HD1_ := Lib.hid (HD1.out.below hb)
  have HD2_ := Lib.hid (HD2.out.below hb)
  have HB_ := Lib.hid (HB.out.trans (hb.mono HB.out.size))
  clear hb HB HA HBv HC HF HS1 HD1 HD2 HD4
  have HA := HA_
  clear HA_
  have HBv := HBv_
  clear HBv_
  have HC := HC_
  clear HC_
  have HF := HF_
  clear HF_
  have HS1 := HS1_
  clear HS1_
  have HD1 := HD1_
  clear HD1_
  have HD2 := HD2_
  clear HD2_
  have HB := HB_
  clear HB_
  have HD5 := Lib.hid hd5
  clear hd5
  have HE1 : Hid (ordQ (Vm.dot 0 tab tc) (Vm.dot 0 ta tc + q * Vm.dot 0 tb tc) = 0) := ordQ_zero.2 (by rw [← HTAB.out]; exact addQ_dot q H10A.out H10B.out H10C.out)
  go_wp2_with fail
  with_reducible refine (Tryz.cmpA d1 d5 _ _ 9641 4943 _ HD1.out HD5.out (by omega) (by omega) (by omega) (by omega)).mono ?_
  rintro e w16 ⟨rfl, hb⟩
  have HA_ := Lib.hid (HA.out.below hb)
  have HBv_ := Lib.hid (HBv.out.below hb)
  have HC_ := Lib.hid (HC.out.below hb)
  have HF_ := Lib.hid (HF.out.below hb)
  have HS1_ := Lib.hid (HS1.out.below hb)
  have HB_ := Lib.hid (HB.out.trans (hb.mono HB.out.size))
  clear hb HB HA HBv HC HF HS1 HD1 HD2 HD5
  have HA := HA_
  clear HA_
  have HBv := HBv_
  clear HBv_
  have HC := HC_
  clear HC_
  have HF := HF_
  clear HF_
  have HS1 := HS1_
  clear HS1_
  have HB := HB_
  clear HB_
  rw [HE1.out]
  clear HE1
  go_wp2_with fail
  with_reducible refine (Tryz.Of (-1) _ (by omega) (by omega)).mono ?_
  rintro e w17 ⟨⟨m1, rfl, hm1⟩, hb⟩
  have HA_ := Lib.hid (HA.out.below hb)
  have HBv_ := Lib.hid (HBv.out.below hb)
  have HC_ := Lib.hid (HC.out.below hb)
  have HF_ := Lib.hid (HF.out.below hb)
  have HS1_ := Lib.hid (HS1.out.below hb)
  have HB_ := Lib.hid (HB.out.trans (hb.mono HB.out.size))
  clear hb HB HA HBv HC HF HS1
  have HA := HA_
  clear HA_
  have HBv := HBv_
  clear HBv_
  have HC := HC_
  clear HC_
  have HF := HF_
  clear HF_
  have HS1 := HS1_
  clear HS1_
  have HB := HB_
  clear HB_
  have HM1 := Lib.hid hm1
  clear hm1
  go_wp2_with fail
  with_reducible refine (Tryz.vecAdd a m1 a ta ta _ 120 120 1 _ HA.out HM1.out HA.out (by omega) (by omega) (by omega) (by omega) (by omega) (by omega) (by omega) (by omega)).mono ?_
  rintro e w18 ⟨⟨s2, rfl, hs2⟩, hb⟩
  rw [show (if ((-1 : Int) : Rat) = 0 then ta else Vm.add ((-1 : Int) : Rat) ta ta) = [] from addQ_self H10A.out] at hs2
  have HA_ := Lib.hid (HA.out.below hb)
  have HBv_ := Lib.hid (HBv.out.below hb)
  have HC_ := Lib.hid (HC.out.below hb)
  have HF_ := Lib.hid (HF.out.below hb)
  have HS1_ := Lib.hid (HS1.out.below hb)
  have HB_ := Lib.hid (HB.out.trans (hb.mono HB.out.size))
  clear hb HB HA HBv HC HF HS1 HM1
  have HA := HA_
  clear HA_
  have HBv := HBv_
  clear HBv_
  have HC := HC_
  clear HC_
  have HF := HF_
  clear HF_
  have HS1 := HS1_
  clear HS1_
  have HB := HB_
  clear HB_
  have HS2 := Lib.hid hs2
  clear hs2
  go_wp2_with fail
  with_reducible refine (Tryz.vecLen s2 [] _ _ HS2.out).mono ?_
  rintro e w19 ⟨rfl, rfl⟩
  clear HS2
  go_wp2_with fail
  with_reducible refine (Tryz.vecAdd a (.pointer none) b ta tb 0 120 120 1 _ HA.out (by unfold FracIs; exact .inl ⟨rfl, rfl⟩) HBv.out (by omega) (by omega) (by omega) (by omega) (by omega) (by omega) (by omega) (by omega)).mono ?_
  rintro e w20 ⟨⟨s3, rfl, hs3⟩, hb⟩
  rw [if_pos rfl] at hs3
  have HA_ := Lib.hid (HA.out.below hb)
  have HBv_ := Lib.hid (HBv.out.below hb)
  have HC_ := Lib.hid (HC.out.below hb)
  have HF_ := Lib.hid (HF.out.below hb)
  have HS1_ := Lib.hid (HS1.out.below hb)
  have HB_ := Lib.hid (HB.out.trans (hb.mono HB.out.size))
  clear hb HB HA HBv HC HF HS1
  have HA := HA_
  clear HA_
  have HBv := HBv_
  clear HBv_
  have HC := HC_
  clear HC_
  have HF := HF_
  clear HF_
  have HS1 := HS1_
  clear HS1_
  have HB := HB_
  clear HB_
  have HS3 := Lib.hid hs3
  clear hs3
  go_wp2_with fail
  with_reducible refine (Tryz.vecDot s3 c ta tc 242 120 3631 _ HS3.out HC.out (by omega) (by omega) (by omega) (by omega) (by omega) (by omega)).mono ?_
  rintro e w21 ⟨⟨d6, rfl, hd6⟩, hb⟩
  have HA_ := Lib.hid (HA.out.below hb)
  have HBv_ := Lib.hid (HBv.out.below hb)
  have HC_ := Lib.hid (HC.out.below hb)
  have HF_ := Lib.hid (HF.out.below hb)
  have HS1_ := Lib.hid (HS1.out.below hb)
  have HB_ := Lib.hid (HB.out.trans (hb.mono HB.out.size))
  clear hb HB HA HBv HC HF HS1 HS3
  have HA := HA_
  clear HA_
  have HBv := HBv_
  clear HBv_
  have HC := HC_
  clear HC_
  have HF := HF_
  clear HF_
  have HS1 := HS1_
  clear HS1_
  have HB := HB_
  clear HB_
  have HD6 := Lib.hid hd6
  clear hd6
  go_wp2_with fail
  with_reducible refine (Tryz.vecDot a c ta tc 120 120 2411 _ HA.out HC.out (by omega) (by omega) (by omega) (by omega) (by omega) (by omega)).mono ?_
  rintro e w22 ⟨⟨d7, rfl, hd7⟩, hb⟩
  have HA_ := Lib.hid (HA.out.below hb)
  have HBv_ := Lib.hid (HBv.out.below hb)
  have HC_ := Lib.hid (HC.out.below hb)
  have HF_ := Lib.hid (HF.out.below hb)
  have HS1_ := Lib.hid (HS1.out.below hb)
  have HD6_ := Lib.hid (HD6.out.below hb)
  have HB_ := Lib.hid (HB.out.trans (hb.mono HB.out.size))
  clear hb HB HA HBv HC HF HS1 HD6
  have HA := HA_
  clear HA_
  have HBv := HBv_
  clear HBv_
  have HC := HC_
  clear HC_
  have HF := HF_
  clear HF_
  have HS1 := HS1_
  clear HS1_
  have HD6 := HD6_
  clear HD6_
  have HB := HB_
  clear HB_
  have HD7 := Lib.hid hd7
  clear hd7
  have HE2 : Hid (ordQ (Vm.dot 0 ta tc) (Vm.dot 0 ta tc) = 0) := ordQ_self _
  go_wp2_with fail
  with_reducible refine (Tryz.cmpA d6 d7 _ _ 3631 2411 _ HD6.out HD7.out (by omega) (by omega) (by omega) (by omega)).mono ?_
  rintro e w23 ⟨rfl, hb⟩
  have HA_ := Lib.hid (HA.out.below hb)
  have HBv_ := Lib.hid (HBv.out.below hb)
  have HC_ := Lib.hid (HC.out.below hb)
  have HF_ := Lib.hid (HF.out.below hb)
  have HS1_ := Lib.hid (HS1.out.below hb)
  have HB_ := Lib.hid (HB.out.trans (hb.mono HB.out.size))
  clear hb HB HA HBv HC HF HS1 HD6 HD7
  have HA := HA_
  clear HA_
  have HBv := HBv_
  clear HBv_
  have HC := HC_
  clear HC_
  have HF := HF_
  clear HF_
  have HS1 := HS1_
  clear HS1_
  have HB := HB_
  clear HB_
  rw [HE2.out]
  clear HE2
  go_wp2_with fail
  with_reducible refine (Tryz.vecAdd a f b ta tb q 120 120 120 _ HA.out HF.out HBv.out (by omega) (by omega) (by omega) (by omega) (by omega) (by omega) (by omega) (by omega)).mono ?_
  rintro e w24 ⟨⟨s4, rfl, hs4⟩, hb⟩
  rw [show (if q = 0 then ta else Vm.add q ta tb) = tab from HTAB.out] at hs4
  have HA_ := Lib.hid (HA.out.below hb)
  have HBv_ := Lib.hid (HBv.out.below hb)
  have HC_ := Lib.hid (HC.out.below hb)
  have HF_ := Lib.hid (HF.out.below hb)
  have HS1_ := Lib.hid (HS1.out.below hb)
  have HB_ := Lib.hid (HB.out.trans (hb.mono HB.out.size))
  clear hb HB HA HBv HC HF HS1
  have HA := HA_
  clear HA_
  have HBv := HBv_
  clear HBv_
  have HC := HC_
  clear HC_
  have HF := HF_
  clear HF_
  have HS1 := HS1_
  clear HS1_
  have HB := HB_
  clear HB_
  have HS4 := Lib.hid hs4
  clear hs4
  go_wp2_with fail
  with_reducible refine (Tryz.vecCoefs s4 tab _ _ HS4.out (by omega) (by omega) (by omega) (HT.out.after HB.out)).mono ?_
  rintro e w25 ⟨⟨cc, rfl, hcc⟩, hb⟩
  obtain ⟨pc, capc, rfl, -, -⟩ := hcc.reads.slice
  rw [coefsOf_len]
  have HA_ := Lib.hid (HA.out.below hb)
  have HBv_ := Lib.hid (HBv.out.below hb)
  have HC_ := Lib.hid (HC.out.below hb)
  have HF_ := Lib.hid (HF.out.below hb)
  have HS1_ := Lib.hid (HS1.out.below hb)
  have HS4_ := Lib.hid (HS4.out.below hb)
  have HB_ := Lib.hid (HB.out.trans (hb.mono HB.out.size))
  clear hb HB HA HBv HC HF HS1 HS4
  have HA := HA_
  clear HA_
  have HBv := HBv_
  clear HBv_
  have HC := HC_
  clear HC_
  have HF := HF_
  clear HF_
  have HS1 := HS1_
  clear HS1_
  have HS4 := HS4_
  clear HS4_
  have HB := HB_
  clear HB_
  go_wp2_with fail
  with_reducible refine (Tryz.vecLen a ta _ _ HA.out).mono ?_
  rintro e w26 ⟨rfl, rfl⟩
  go_wp2_with fail
  with_reducible refine (Tryz.vecLen b tb _ _ HBv.out).mono ?_
  rintro e w27 ⟨rfl, rfl⟩
  have e9 : ((tab.length : Int) ≤ (ta.length : Int) + (tb.length : Int)) := by omega
  go_wp2
  go_ret
  exact ⟨by simp; try omega, HB.out⟩
end Go.Proofs.Vt
