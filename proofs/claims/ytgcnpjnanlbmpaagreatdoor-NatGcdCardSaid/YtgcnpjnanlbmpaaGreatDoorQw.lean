/- What quotient of the package nat returns: the walk. -/
import Derived.Test.YtgcnpjnanlbmpaaGreatDoorQt
import Derived.Test.YtgcnpjnanlbmpaaGreatDoorRx
import Derived.Test.YtgcnpjnanlbmpaaGreatDoorWd4
import Derived.Test.YtgcnpjnanlbmpaaGreatDoorWd6
namespace Go.Proofs.Wd
open Go.RowKit
set_option linter.unusedVariables false
/-- The quotient and the rest, in rows of their own or none. -/
def QuIs (xs ys : List Int) (w : World) (e : Ending) : Prop := ∃ q r Q R, e = .returned (.tuple #[q, r]) ∧ Digs w q Q ∧ Digs w r R ∧ Dig Q ∧ Dig R ∧ val xs = val Q * val ys + val R ∧ 0 ≤ val R ∧ val R < val ys ∧ Q.length ≤ xs.length + 1 ∧ R.length ≤ xs.length + 1
set_option maxHeartbeats 4000000 in
set_option maxRecDepth 100000 in
theorem Tryz.quotientLess (v u : Value) (xs ys : List Int) (w : World) (hv : Digs w v xs) (hu : Digs w u ys) (hx : Dig xs) (hy : Dig ys) (tx : Top xs) (ty : Top ys) (hlen : xs.length ≤ 100000) (hlt : val xs < val ys) :
    Calls Tryz.prog 95 #[v, u] w fun e w' => QuIs xs ys w' e ∧ Below w.heap.size w w' := by
  have HC : Hid (Calls Tryz.prog 79 #[v, u] w fun e w' => e = .returned (.int .i64 (-1)) ∧ Below w.heap.size w w') := by
    refine (Tryz.compare v u xs ys w hv hu hx hy tx ty).mono ?_
    rintro e w' ⟨rfl, hb⟩
    exact ⟨by rw [cmpI_lt hlt], hb⟩
  have HV : Hid (Digs w v xs) := hv
  have HX : Hid (Dig xs) := hx
  have HLT : Hid (val xs < val ys) := hlt
  clear hv hu hx hy tx ty hlt
  go_enter Tryz.func95, Tryz.ntmps95
  go_wp2_with fail
  refine HC.out.mono ?_
  rintro e w1 ⟨rfl, hb1⟩
  have HV1 : Hid (Digs w1 v xs) := HV.out.below hb1 (Nat.le_refl _)
  have HB1 : Hid (Below w.heap.size w w1) := hb1
  clear hb1 HC HV
  go_wp2_with fail
  refine (Tryz.clone v xs _ HV1.out (by omega)).mono ?_
  rintro e w2 ⟨⟨r, rfl, hr⟩, hb2⟩
  have HR : Hid (Digs w2 r xs) := Digs.of_own hr
  have HB2 : Hid (Below w.heap.size w w2) := Below.after HB1.out hb2
  clear hr hb2
  go_wp2
  go_ret2
  exact ⟨⟨_, _, [], xs, rfl, Digs.nil _, HR.out, Dig.nil, HX.out, by simp, val_nonneg HX.out, HLT.out, by simp, by omega⟩, HB2.out⟩
set_option maxHeartbeats 4000000 in
set_option maxRecDepth 100000 in
theorem Tryz.quotientWord (v u : Value) (xs : List Int) (y : Int) (w : World) (hv : Digs w v xs) (hu : Digs w u [y]) (hx : Dig xs) (hy : Dig [y]) (tx : Top xs) (ty : Top [y]) (hlen : xs.length ≤ 100000) (hle : y ≤ val xs) (y1 : 1 ≤ y) :
    Calls Tryz.prog 95 #[v, u] w fun e w' => QuIs xs [y] w' e ∧ Below w.heap.size w w' := by
  obtain ⟨i0, hi, hz0, hz1, hz2⟩ := info_parts Tryz.info22
  have hvy : val [y] = y := by simp [val_cons]
  have HC : Hid (∃ c, 0 ≤ c ∧ Calls Tryz.prog 79 #[v, u] w fun e w' => e = .returned (.int .i64 c) ∧ Below w.heap.size w w') := by
    refine ⟨cmpI (val xs) (val [y]), ?_, Tryz.compare v u xs [y] w hv hu hx hy tx ty⟩
    unfold cmpI; rw [if_neg (by rw [hvy]; omega)]; split <;> omega
  obtain ⟨cc, cc0, HCC⟩ := HC.out
  have HC2 := HCC
  clear HC HCC
  obtain ⟨q, dap, rfl, -, hyr⟩ := hu.slice
  obtain ⟨gy, rfl, hgy⟩ := hyr (by simp)
  obtain ⟨p, cap, rfl, hxl, hxr⟩ := hv.slice
  have hxn : 0 < xs.length := by
    by_cases e : xs = []
    · subst e; simp at hle; omega
    · have : xs.length ≠ 0 := fun e2 => e (List.length_eq_zero_iff.1 e2)
      omega
  obtain ⟨gx, rfl, hgx⟩ := hxr hxn
  have hyc := hgy.cells 0 (by simp)
  simp only [List.getD_cons_zero] at hyc
  have hylt := hgy.lt
  have HX : Hid (Dig xs) := hx
  have HGX : Hid (RowAt w gx cap xs) := hgx
  have HVY : Hid (val [y] = y) := hvy
  have hy9 := (hy y (by simp)).2
  obtain ⟨n, hn⟩ : ∃ n, xs.length = n := ⟨_, rfl⟩
  have HN : Hid (xs.length = n) := hn
  rw [hn] at hxl hlen hxn HC2
  rw [hn]
  simp only [List.length_singleton] at HC2 ⊢
  clear hv hu hx hy tx ty hgx hgy hxr hyr hvy hn hle
  have HCH := Lib.hid HC2
  clear HC2
  go_enter Tryz.func95, Tryz.ntmps95
  go_wp2_with fail
  refine HCH.out.mono ?_
  rintro e w1 ⟨rfl, hb1⟩
  have hyc1 := (hb1.cell (p := ⟨gy, 0, none⟩) hylt).trans hyc
  have HB1 : Hid (Below w.heap.size w w1) := hb1
  have HGX1 : Hid (RowAt w1 gx cap xs) := HGX.out.below hb1 HGX.out.lt
  have hylt1 : gy < w1.heap.size := by have := hb1.size; omega
  clear hb1 HCH hyc
  go_wp2_with (first
    | (refine wpList_make_full _ rfl _ _ 86 rfl w1.heap.size 22 i0 (.int .u64 0) 1 Tryz.underlying86 hi hz0 hz1 .i64 .i64 _ _ n rfl rfl rfl rfl (by rw [hz2]; omega) (by unfold maxLen; omega) (by omega) ?_))
  intro w2 hown hgrow
  have hb2 : Below w1.heap.size w1 w2 := (Below.refl _ _).grown hgrow (Nat.le_refl _) (fun k hk => by cases hk)
  have HO : Hid (OwnAt w2 w1.heap.size w1.heap.size n (List.replicate n 0)) := by
    show World.ownsRow _ _ _ _ _ _ _
    rw [toList_madeCells_one] at hown
    rw [List.length_replicate, List.map_replicate]
    exact hown
  have hyc2 := (hb2.cell (p := ⟨gy, 0, none⟩) hylt1).trans hyc1
  have HB2 : Hid (Below w.heap.size w w2) := Below.after HB1.out hb2
  have HGX2 : Hid (RowAt w2 gx cap xs) := HGX1.out.below hb2 HGX1.out.lt
  clear hown hgrow hb2 hyc1
  have HBY := Tryz.byWord w1.heap.size n gx cap (List.replicate n 0) xs y w1.heap.size w2 HO.out (by rw [List.length_replicate, HN.out]) HX.out HGX2.out.cells y1 hy9 (by rw [HN.out]; omega)
  rw [HN.out] at HBY
  go_wp2_with fail
  with_reducible refine HBY.mono ?_
  clear HBY
  rintro e w3 ⟨⟨Q, r, rfl, ho3, hq3, hl3, hv3, r0, r1⟩, hg3⟩
  have HQ : Hid (Digs (w3.alloc (.cells #[.int .u64 r] 22)) (.slice (some ⟨w1.heap.size, 0, none⟩) n n) Q) := by
    have h := ho3.digs
    rw [hl3] at h
    exact h.below ((Below.refl _ _).alloc (Nat.le_refl _) _) (Nat.le_refl _)
  have HR : Hid (Digs (w3.alloc (.cells #[.int .u64 r] 22)) (.slice (some ⟨w3.heap.size, 0, none⟩) 1 1) [r]) := by
    have h : RowOf (w3.alloc (.cells #[.int .u64 r] 22)) w3.heap.size [r] := by unfold RowOf; show (w3.heap.push _)[w3.heap.size]? = _; simp
    exact h.digs (by unfold maxLen; simp)
  have HS : Hid (val xs = val Q * val [y] + val [r] ∧ 0 ≤ val [r] ∧ val [r] < val [y]) := by
    have e : val [r] = r := by simp [val_cons]
    rw [HVY.out, e, hv3, Int.mul_comm y]
    exact ⟨rfl, r0, r1⟩
  have HDQ : Hid (Dig Q) := hq3
  have HDR : Hid (Dig [r]) := fun d hd => by rw [List.mem_singleton.1 hd]; omega
  have HLQ : Hid (Q.length = n) := hl3
  have HB3 : Hid (Below w.heap.size w (w3.alloc (.cells #[.int .u64 r] 22))) := (HB2.out.grown hg3 (by have := HB2.out.size; exact this) (fun k hk => by cases hk; exact HB1.out.size)).alloc (by have := HB2.out.size; have := hg3.size; omega) _
  clear ho3 hq3 hl3 hv3 hg3
  go_wp2
  go_ret2
  exact ⟨⟨_, _, Q, [r], rfl, HQ.out, HR.out, HDQ.out, HDR.out, HS.out.1, HS.out.2.1, HS.out.2.2, by rw [HLQ.out, HN.out]; omega, by simp⟩, HB3.out⟩
end Go.Proofs.Wd
