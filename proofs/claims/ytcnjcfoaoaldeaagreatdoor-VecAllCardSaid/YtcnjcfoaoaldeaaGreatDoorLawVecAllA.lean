/- VecAll: vectors: what stands where, sums, products: the call returns true. -/
import Derived.Test.YtcnjcfoaoaldeaaGreatDoorBase2
import Derived.Test.YtcnjcfoaoaldeaaGreatDoorVu
import Derived.Test.YtcnjcfoaoaldeaaGreatDoorVr
import Derived.Test.YtcnjcfoaoaldeaaGreatDoorTie
import Derived.ProofKit
import Derived.OpenShut
import Derived.ChangeMaps5
import Derived.LaidMore
import Derived.Lay
import Derived.SevenTiedAt
import Derived.Stop.Joined
import Derived.Test.YtcnjcfoaoaldeaaGreatDoorCards
set_option linter.unusedVariables false
set_option maxRecDepth 100000
namespace Go.Proofs.YtcnjcfoaoaldeaaGreatDoor.lawVecAll
open Go.ChangeShapes Go.WideShapes Go.ChangeAt Go.RowKit Go.ChangeMaps
theorem own : ownKnob Tryz.prog.godebug = none := by kernel_rfl
theorem walk (v0 : Value) (z0 : List Int) (v1 : Value) (z1 : List Int) (v2 : Value) (z2 : List ByteArray) (v3 : Value) (z3 : List ByteArray) (a4 : ByteArray) (w4 : a4.size ≤ maxLen) (w : World) (h0 : Vt.IntsIn w v0 z0) (h1 : Vt.IntsIn w v1 z1) (h2 : Vt.StrsIn w v2 z2) (h3 : Vt.StrsIn w v3 z3) (hG : Sym.GOk tabs w) (hT : Wd.TabOk w) :
 Calls Tryz.prog 3 #[v0, v1, v2, v3, .string a4] w fun e w' => e = .returned (.bool true) ∧ Below w.heap.size w w' :=
 Vt.vecAllWalk v0 v1 v2 v3 z0 z1 z2 z3 a4 w h0 h1 h2 h3 (by unfold maxLen at w4; omega) hT (begun_calls hG)
theorem lifted (os : Os) (started : os.Started) (H : Type) (enc : TypeId × Value → H) :
 ReturnsInHanded {} Tryz.checked os 3 .any (fun w args => (Rows.vecAllSpec.pre enc Tryz.prog Tryz.f3 Rows.vecAllRow.domain false w args ∧ laidMetH Tryz.prog Rows.vecAllRow.laid w) ∧ sizedMet enc Tryz.prog Tryz.f3 (OpenSpec.ofChange Rows.vecAllSpec) false w args) (Rows.vecAllSpec.post enc Tryz.prog Tryz.f3 false true false false) := by
 refine returnsInHanded_of_change_and (C := Tryz.checked) (X := fun w _ => laidMetH Tryz.prog Rows.vecAllRow.laid w) (fun _ _ _ hh h => h.of_heap hh) own started (by kernel_rfl) Tryz.func3
  (ChangeSpec.witness_shaped (enc := enc) (C := Tryz.checked) (os := os) (X := fun w _ => laidMetH Tryz.prog Rows.vecAllRow.laid w) false (World.laidAll Tryz.prog os Rows.vecAllRow.laid) #[.slice none 0 0, .slice none 0 0, .slice none 0 0, .slice none 0 0, .string ⟨#[]⟩] 8 (World.laidAll_os _ _ _)
   (World.shaped_of_ZipB (by kernel_rfl) (by kernel_rfl)) (by kernel_rfl) (by kernel_rfl) (by kernel_rfl)
   (by rw [MakeChecks.laidMetH_plain _ _ _ (by kernel_rfl)]; exact laidMet_laidAll _ (by kernel_rfl) (by kernel_rfl))) ?_
 intro W base args ds gs before hval0 hW _ _ hL _
 have hval : ∀ (j : Nat) t v, Tryz.f3.params[j]? = some t → args[j]? = some v → Value.okWide Tryz.prog W .any base t v := hval0
 have hW' := hW
 obtain ⟨p, q, hA0, hV, rfl, hfz, hnd⟩ := hW
 have hA : DataW.TrodAll enc Tryz.prog W 0 (fun _ => true) true Tryz.f3.params.toList args.toList ds p := hA0
 rw [Tryz.params3] at hA hval
 obtain ⟨v0, vs0, d0, ds0, p0, q0, hargs, rfl, rfl, h0, r0⟩ := trodAll_cons hA
 obtain ⟨v1, vs1, d1, ds1, p1, q1, rfl, rfl, rfl, h1, r1⟩ := trodAll_cons r0
 obtain ⟨v2, vs2, d2, ds2, p2, q2, rfl, rfl, rfl, h2, r2⟩ := trodAll_cons r1
 obtain ⟨v3, vs3, d3, ds3, p3, q3, rfl, rfl, rfl, h3, r3⟩ := trodAll_cons r2
 obtain ⟨v4, vs4, d4, ds4, p4, q4, rfl, rfl, rfl, h4, r4⟩ := trodAll_cons r3
 obtain ⟨rfl, rfl, rfl⟩ := trodAll_nil r4
 obtain rfl : args = #[v0, v1, v2, v3, v4] := by cases args; simp_all
 obtain ⟨rfl, rfl⟩ := trodVars_none hV
 obtain ⟨b0, l0, c0, he0⟩ := okWide_slice Tryz.underlying22 (hval 0 22 v0 rfl rfl)
 obtain ⟨z0, hz0⟩ := Vt.Tryz.intsIn he0 h0
 obtain ⟨b1, l1, c1, he1⟩ := okWide_slice Tryz.underlying22 (hval 1 22 v1 rfl rfl)
 obtain ⟨z1, hz1⟩ := Vt.Tryz.intsIn he1 h1
 obtain ⟨b2, l2, c2, he2⟩ := okWide_slice Tryz.underlying23 (hval 2 23 v2 rfl rfl)
 obtain ⟨z2, hz2⟩ := Vt.Tryz.strsIn he2 h2
 obtain ⟨b3, l3, c3, he3⟩ := okWide_slice Tryz.underlying23 (hval 3 23 v3 rfl rfl)
 obtain ⟨z3, hz3⟩ := Vt.Tryz.strsIn he3 h3
 obtain ⟨a4, rfl, rfl, rfl, w4⟩ := open_string Tryz.underlying9 (hval 4 9 v4 rfl rfl) h4
 clear hA0 hval0
 simp only [List.append_nil] at hW'
 refine (walk v0 z0 v1 z1 v2 z2 v3 z3 a4 w4 W hz0 hz1 hz2 hz3 (tabs_ok hL) (tab_ok hL)).mono fun e W' ⟨he, hg⟩ => ?_
 subst he
 exact ⟨_, rfl, ⟨_, _, _, [], _, [], hW', (trodAll_cons_mk (shut_bool Tryz.underlying4 _) trodAll_mk0), (trodAll_cons_mk (Vt.Tryz.backInts h0 hg (fun x hx => by simpa using hW'.lt x (by simp [hx]))) (trodAll_cons_mk (Vt.Tryz.backInts h1 hg (fun x hx => by simpa using hW'.lt x (by simp [hx]))) (trodAll_cons_mk (Vt.Tryz.backStrs h2 hg (fun x hx => by simpa using hW'.lt x (by simp [hx]))) (trodAll_cons_mk (Vt.Tryz.backStrs h3 hg (fun x hx => by simpa using hW'.lt x (by simp [hx]))) (trodAll_cons_mk (shut_string Tryz.underlying9 w4) trodAll_mk0))))), rfl, hg.frame _, fun h => by cases h⟩⟩
end Go.Proofs.YtcnjcfoaoaldeaaGreatDoor.lawVecAll
