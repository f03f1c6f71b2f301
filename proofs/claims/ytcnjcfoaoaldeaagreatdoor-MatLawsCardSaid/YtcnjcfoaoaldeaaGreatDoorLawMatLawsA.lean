/- MatLaws: products of matrices are associative, turned about they change places, the inverse of the inverse is the matrix: the call returns true. -/
import Derived.Test.YtcnjcfoaoaldeaaGreatDoorBase2
import Derived.Test.YtcnjcfoaoaldeaaGreatDoorMn
import Derived.Test.YtcnjcfoaoaldeaaGreatDoorVr
import Derived.Test.YtcnjcfoaoaldeaaGreatDoorTie
import Derived.ProofKit
import Derived.OpenShut
import Derived.ChangeMaps5
import Derived.LaidMore
import Derived.Lay
import Derived.SevenTiedAt
import Derived.Stop.Joined
import Derived.Test.YtcnjcfoaoaldeaaGreatDoorCards
set_option linter.unusedVariables false
set_option maxRecDepth 100000
namespace Go.Proofs.YtcnjcfoaoaldeaaGreatDoor.lawMatLaws
open Go.ChangeShapes Go.WideShapes Go.ChangeAt Go.RowKit Go.ChangeMaps
theorem own:ownKnob Tryz.prog.godebug = none:=by kernel_rfl
theorem walk (a0:Int) (v1:Value) (z1:List ByteArray) (v2:Value) (z2:List ByteArray) (v3:Value) (z3:List ByteArray) (w0:(Lit.int .i64 a0).wf = true) (w:World) (h1:Vt.StrsIn w v1 z1) (h2:Vt.StrsIn w v2 z2) (h3:Vt.StrsIn w v3 z3) (hG:Sym.GOk tabs w) (hT:Wd.TabOk w) :
 Calls Tryz.prog 9 #[.int .i64 a0,v1,v2,v3] w fun e w'=>e = .returned (.bool true) ∧ Below w.heap.size w w':=
 (fun _:Wd.TabOk w=>Mt.matLawsWalk a0 v1 v2 v3 z1 z2 z3 w ⟨(i64B w0).1,(i64B w0).2⟩ h1 h2 h3 (begun_calls hG)) hT
theorem lifted (os:Os) (started:os.Started) (H:Type) (enc:TypeId × Value → H) :
 ReturnsInHanded {} Tryz.checked os 9 .any (fun w args=>(Rows.matLawsSpec.pre enc Tryz.prog Tryz.f9 Rows.matLawsRow.domain false w args ∧ laidMetH Tryz.prog Rows.matLawsRow.laid w) ∧ sizedMet enc Tryz.prog Tryz.f9 (OpenSpec.ofChange Rows.matLawsSpec) false w args) (Rows.matLawsSpec.post enc Tryz.prog Tryz.f9 false true false false):=by
 refine returnsInHanded_of_change_and (C:=Tryz.checked) (X:=fun w _=>laidMetH Tryz.prog Rows.matLawsRow.laid w) (fun _ _ _ hh h=>h.of_heap hh) own started (by kernel_rfl) Tryz.func9
  (ChangeSpec.witness_shaped (enc:=enc) (C:=Tryz.checked) (os:=os) (X:=fun w _=>laidMetH Tryz.prog Rows.matLawsRow.laid w) false (World.laidAll Tryz.prog os Rows.matLawsRow.laid) #[.int .i64 0,.slice none 0 0,.slice none 0 0,.slice none 0 0] 8 (World.laidAll_os _ _ _)
   (World.shaped_of_ZipB (by kernel_rfl) (by kernel_rfl)) (by kernel_rfl) (by kernel_rfl) (by kernel_rfl)
   (by rw [MakeChecks.laidMetH_plain _ _ _ (by kernel_rfl)]; exact laidMet_laidAll _ (by kernel_rfl) (by kernel_rfl))) ?_
 intro W base args ds gs before hval0 hW _ _ hL _
 have hval:∀ (j:Nat) t v,Tryz.f9.params[j]? = some t → args[j]? = some v → Value.okWide Tryz.prog W .any base t v:=hval0
 have hW':=hW
 obtain ⟨p,q,hA0,hV,rfl,hfz,hnd⟩:=hW
 have hA:DataW.TrodAll enc Tryz.prog W 0 (fun _=>true) true Tryz.f9.params.toList args.toList ds p:=hA0
 rw [Tryz.params9] at hA hval
 obtain ⟨v0,vs0,d0,ds0,p0,q0,hargs,rfl,rfl,h0,r0⟩:=trodAll_cons hA
 obtain ⟨v1,vs1,d1,ds1,p1,q1,rfl,rfl,rfl,h1,r1⟩:=trodAll_cons r0
 obtain ⟨v2,vs2,d2,ds2,p2,q2,rfl,rfl,rfl,h2,r2⟩:=trodAll_cons r1
 obtain ⟨v3,vs3,d3,ds3,p3,q3,rfl,rfl,rfl,h3,r3⟩:=trodAll_cons r2
 obtain ⟨rfl,rfl,rfl⟩:=trodAll_nil r3
 obtain rfl:args = #[v0,v1,v2,v3]:=by cases args; simp_all
 obtain ⟨rfl,rfl⟩:=trodVars_none hV
 obtain ⟨a0,rfl,rfl,rfl,w0⟩:=open_int Tryz.underlying3 (hval 0 3 v0 rfl rfl) h0
 obtain ⟨b1,l1,c1,he1⟩:=okWide_slice Tryz.underlying23 (hval 1 23 v1 rfl rfl)
 obtain ⟨z1,hz1⟩:=Vt.Tryz.strsIn he1 h1
 obtain ⟨b2,l2,c2,he2⟩:=okWide_slice Tryz.underlying23 (hval 2 23 v2 rfl rfl)
 obtain ⟨z2,hz2⟩:=Vt.Tryz.strsIn he2 h2
 obtain ⟨b3,l3,c3,he3⟩:=okWide_slice Tryz.underlying23 (hval 3 23 v3 rfl rfl)
 obtain ⟨z3,hz3⟩:=Vt.Tryz.strsIn he3 h3
 clear hA0 hval0
 simp only [List.append_nil] at hW'
 refine (walk a0 v1 z1 v2 z2 v3 z3 w0 W hz1 hz2 hz3 (tabs_ok hL) (tab_ok hL)).mono fun e W' ⟨he,hg⟩=>?_
 subst he
 exact ⟨_,rfl,⟨_,_,_,[],_,[],hW',(trodAll_cons_mk (shut_bool Tryz.underlying4 _) trodAll_mk0),(trodAll_cons_mk (shut_int Tryz.underlying3 w0) (trodAll_cons_mk (Vt.Tryz.backStrs h1 hg (fun x hx=>by simpa using hW'.lt x (by simp [hx]))) (trodAll_cons_mk (Vt.Tryz.backStrs h2 hg (fun x hx=>by simpa using hW'.lt x (by simp [hx]))) (trodAll_cons_mk (Vt.Tryz.backStrs h3 hg (fun x hx=>by simpa using hW'.lt x (by simp [hx]))) trodAll_mk0)))),rfl,hg.frame _,fun h=>by cases h⟩⟩
end Go.Proofs.YtcnjcfoaoaldeaaGreatDoor.lawMatLaws
