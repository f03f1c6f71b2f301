/- VecLaws: products of vectors go with sums; a vector less itself is nothing: the call returns true. -/
import Derived.Test.YtcnjcfoaoaldeaaGreatDoorBase2
import Derived.Test.YtcnjcfoaoaldeaaGreatDoorVg
import Derived.Test.YtcnjcfoaoaldeaaGreatDoorVr
import Derived.Test.YtcnjcfoaoaldeaaGreatDoorTie
import Derived.ProofKit
import Derived.OpenShut
import Derived.ChangeMaps5
import Derived.LaidMore
import Derived.Lay
import Derived.SevenTiedAt
import Derived.Stop.Joined
import Derived.Test.YtcnjcfoaoaldeaaGreatDoorCards
namespace Go.Proofs.YtcnjcfoaoaldeaaGreatDoor.lawVecLaws
open Go.ChangeShapes Go.WideShapes Go.ChangeAt Go.RowKit Go.ChangeMaps
set_option linter.unusedVariables false

theorem own : ownKnob Tryz.prog.godebug = none := by kernel_rfl

theorem walk (v0 : Value) (z0 : List Int) (v1 : Value) (z1 : List Int) (v2 : Value) (z2 : List Int) (v3 : Value) (z3 : List ByteArray) (v4 : Value) (z4 : List ByteArray) (v5 : Value) (z5 : List ByteArray) (a6 : ByteArray) (w6 : a6.size ≤ maxLen) (w : World) (h0 : Vt.IntsIn w v0 z0) (h1 : Vt.IntsIn w v1 z1) (h2 : Vt.IntsIn w v2 z2) (h3 : Vt.StrsIn w v3 z3) (h4 : Vt.StrsIn w v4 z4) (h5 : Vt.StrsIn w v5 z5) (hG : Sym.GOk tabs w) (hT : Wd.TabOk w) :
    Calls Tryz.prog 7 #[v0, v1, v2, v3, v4, v5, .string a6] w fun e w' => e = .returned (.bool true) ∧ Below w.heap.size w w' :=
  Vt.vecLawsWalk v0 v1 v2 v3 v4 v5 z0 z1 z2 z3 z4 z5 a6 w h0 h1 h2 h3 h4 h5 (by unfold maxLen at w6; omega) hT (begun_calls hG)

set_option maxRecDepth 100000 in
theorem lifted (os : Os) (started : os.Started) (H : Type) (enc : TypeId × Value → H) :
    ReturnsInHanded {} Tryz.checked os 7 .any (fun w args => (Rows.vecLawsSpec.pre enc Tryz.prog Tryz.f7 Rows.vecLawsRow.domain false w args ∧ laidMetH Tryz.prog Rows.vecLawsRow.laid w) ∧ sizedMet enc Tryz.prog Tryz.f7 (OpenSpec.ofChange Rows.vecLawsSpec) false w args) (Rows.vecLawsSpec.post enc Tryz.prog Tryz.f7 false true false false) := by
  refine returnsInHanded_of_change_and (C := Tryz.checked) (X := fun w _ => laidMetH Tryz.prog Rows.vecLawsRow.laid w) (fun _ _ _ hh h => h.of_heap hh) own started (by kernel_rfl) Tryz.func7
    (ChangeSpec.witness_shaped (enc := enc) (C := Tryz.checked) (os := os) (X := fun w _ => laidMetH Tryz.prog Rows.vecLawsRow.laid w) false (World.laidAll Tryz.prog os Rows.vecLawsRow.laid) #[.slice none 0 0, .slice none 0 0, .slice none 0 0, .slice none 0 0, .slice none 0 0, .slice none 0 0, .string ⟨#[]⟩] 8 (World.laidAll_os _ _ _)
      (World.shaped_of_ZipB (by kernel_rfl) (by kernel_rfl)) (by kernel_rfl) (by kernel_rfl) (by kernel_rfl)
      (by rw [MakeChecks.laidMetH_plain _ _ _ (by kernel_rfl)]; exact laidMet_laidAll _ (by kernel_rfl) (by kernel_rfl))) ?_
  intro W base args ds gs before hval0 hW _ _ hL _
  have hval : ∀ (j : Nat) t v, Tryz.f7.params[j]? = some t → args[j]? = some v → Value.okWide Tryz.prog W .any base t v := hval0
  have hW' := hW
  obtain ⟨p, q, hA0, hV, rfl, hfz, hnd⟩ := hW
  have hA : DataW.TrodAll enc Tryz.prog W 0 (fun _ => true) true Tryz.f7.params.toList args.toList ds p := hA0
  rw [Tryz.params7] at hA hval
  obtain ⟨v0, vs0, d0, ds0, p0, q0, hargs, rfl, rfl, h0, r0⟩ := trodAll_cons hA
  obtain ⟨v1, vs1, d1, ds1, p1, q1, rfl, rfl, rfl, h1, r1⟩ := trodAll_cons r0
  obtain ⟨v2, vs2, d2, ds2, p2, q2, rfl, rfl, rfl, h2, r2⟩ := trodAll_cons r1
  obtain ⟨v3, vs3, d3, ds3, p3, q3, rfl, rfl, rfl, h3, r3⟩ := trodAll_cons r2
  obtain ⟨v4, vs4, d4, ds4, p4, q4, rfl, rfl, rfl, h4, r4⟩ := trodAll_cons r3
  obtain ⟨v5, vs5, d5, ds5, p5, q5, rfl, rfl, rfl, h5, r5⟩ := trodAll_cons r4
  obtain ⟨v6, vs6, d6, ds6, p6, q6, rfl, rfl, rfl, h6, r6⟩ := trodAll_cons r5
  obtain ⟨rfl, rfl, rfl⟩ := trodAll_nil r6
  obtain rfl : args = #[v0, v1, v2, v3, v4, v5, v6] := by cases args; simp_all
  obtain ⟨rfl, rfl⟩ := trodVars_none hV
  obtain ⟨b0, l0, c0, he0⟩ := okWide_slice Tryz.underlying22 (hval 0 22 v0 rfl rfl)
  obtain ⟨z0, hz0⟩ := Vt.Tryz.intsIn he0 h0
  obtain ⟨b1, l1, c1, he1⟩ := okWide_slice Tryz.underlying22 (hval 1 22 v1 rfl rfl)
  obtain ⟨z1, hz1⟩ := Vt.Tryz.intsIn he1 h1
  obtain ⟨b2, l2, c2, he2⟩ := okWide_slice Tryz.underlying22 (hval 2 22 v2 rfl rfl)
  obtain ⟨z2, hz2⟩ := Vt.Tryz.intsIn he2 h2
  obtain ⟨b3, l3, c3, he3⟩ := okWide_slice Tryz.underlying23 (hval 3 23 v3 rfl rfl)
  obtain ⟨z3, hz3⟩ := Vt.Tryz.strsIn he3 h3
  obtain ⟨b4, l4, c4, he4⟩ := okWide_slice Tryz.underlying23 (hval 4 23 v4 rfl rfl)
  obtain ⟨z4, hz4⟩ := Vt.Tryz.strsIn he4 h4
  obtain ⟨b5, l5, c5, he5⟩ := okWide_slice Tryz.underlying23 (hval 5 23 v5 rfl rfl)
  obtain ⟨z5, hz5⟩ := Vt.Tryz.strsIn he5 h5
  obtain ⟨a6, rfl, rfl, rfl, w6⟩ := open_string Tryz.underlying9 (hval 6 9 v6 rfl rfl) h6
  clear hA0 hval0
  simp only [List.append_nil] at hW'
  refine (walk v0 z0 v1 z1 v2 z2 v3 z3 v4 z4 v5 z5 a6 w6 W hz0 hz1 hz2 hz3 hz4 hz5 (tabs_ok hL) (tab_ok hL)).mono fun e W' ⟨he, hg⟩ => ?_
  subst he
  exact ⟨_, rfl, ⟨_, _, _, [], _, [], hW', (trodAll_cons_mk (shut_bool Tryz.underlying4 _) trodAll_mk0), (trodAll_cons_mk (Vt.Tryz.backInts h0 hg (fun x hx => by simpa using hW'.lt x (by simp [hx]))) (trodAll_cons_mk (Vt.Tryz.backInts h1 hg (fun x hx => by simpa using hW'.lt x (by simp [hx]))) (trodAll_cons_mk (Vt.Tryz.backInts h2 hg (fun x hx => by simpa using hW'.lt x (by simp [hx]))) (trodAll_cons_mk (Vt.Tryz.backStrs h3 hg (fun x hx => by simpa using hW'.lt x (by simp [hx]))) (trodAll_cons_mk (Vt.Tryz.backStrs h4 hg (fun x hx => by simpa using hW'.lt x (by simp [hx]))) (trodAll_cons_mk (Vt.Tryz.backStrs h5 hg (fun x hx => by simpa using hW'.lt x (by simp [hx]))) (trodAll_cons_mk (shut_string Tryz.underlying9 w6) trodAll_mk0))))))), rfl, hg.frame _, fun h => by cases h⟩⟩
end Go.Proofs.YtcnjcfoaoaldeaaGreatDoor.lawVecLaws
