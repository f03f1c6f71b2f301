/- The function 'begun', which every law of this seat asks first, returns true in whatever world in which strconv's table of powers of ten holds what the program lays there; nothing that was there before is turned. By the reckoning of SymA and SymB. -/
import Derived.Test.YtcnjcfoaoaldeaaGreatDoorSymB
import Derived.Test.YtcnjcfoaoaldeaaGreatDoorRows
import Derived.Lib.LaidTab
import Derived.Stop.LaidErr
import Derived.MakeChecks
import Derived.KernelRfl
set_option linter.unusedVariables false
namespace Go.Proofs.YtcnjcfoaoaldeaaGreatDoor
open Go Go.Sym Go.RowKit
theorem mixed:Tryz.prog.follows .mixedOrders = true:=by kernel_rfl
theorem names:NamesOk Tryz.prog:=names_ok (l:=Tryz.prog.funcs) (by kernel_rfl) rfl
def powTab:List Int:=[1,10,100,1000,10000,100000,1000000,10000000,100000000,1000000000,10000000000,100000000000,1000000000000,10000000000000,100000000000000,1000000000000000,10000000000000000,100000000000000000,1000000000000000000,10000000000000000000]
/-- What of the package-level variables is known. -/
def tabs:Nat → Option (List Value):=fun g=>match Nat.beq g 1 with
 | true=>some (powTab.map fun z=>Value.int .u64 z)
 | false=>none
/-- The functions without a body. -/
noncomputable def absent:FuncId → Option (List AV → Option AV):=fun f=>match Nat.beq f 237 with
 | true=>some (xLits Tryz.prog Extern.BytealgIndexByte.indexByte)
 | false => match Nat.beq f 189 with
   | true=>some xSame
   | false=>none
theorem absent_ok:XSound Tryz.prog absent:=by
 intro f e args v hx hv N E vs hvs
 unfold absent at hx
 split at hx
 ·rename_i h1
  simp only [Option.some.injEq] at hx
  subst hx
  have h1:=beq_iff.1 h1
  subst h1
  exact xLits_sound Tryz.func237 (by kernel_rfl) (by kernel_rfl) (by kernel_rfl) (by kernel_rfl) hv N E vs hvs
 ·split at hx
  ·rename_i h1
   simp only [Option.some.injEq] at hx
   subst hx
   have h1:=beq_iff.1 h1
   subst h1
   exact xSame_sound Tryz.func189 (by kernel_rfl) (by kernel_rfl) (by kernel_rfl) (by kernel_rfl) hv N E vs hvs
  ·simp at hx
def isTrue:Option (AV × Hp × Nat) → Bool
 | some (.lit (.bool true),_,_)=>true
 | _=>false
theorem isTrue_eq {r:Option (AV × Hp × Nat)} (h:isTrue r = true):∃ h' n',r = some (.lit (.bool true),h',n'):=by
 unfold isTrue at h
 split at h
 ·exact ⟨_,_,rfl⟩
 ·simp at h
/-- What the rows list: the table is among it. -/
theorem tabs_ok {W:World} (h:laidMetH Tryz.prog Rows.vecAllRow.laid W):GOk tabs W:=by
 rw [MakeChecks.laidMetH_plain _ _ _ (by kernel_rfl)] at h
 have h3:=(h.tail).tail
 have hT : Lib.TabIs Tryz.prog W "internal/strconv.uint64pow10" .u64 powTab :=
  Lib.tabIs_of_head (show Tryz.prog.globalNamed "internal/strconv.uint64pow10" = some 1 by kernel_rfl) (show (Tryz.prog.globals[1]?).map (·.type) = some 262 by kernel_rfl)
   Tryz.underlying262 Tryz.underlying73 (by kernel_rfl) (by kernel_rfl) h3
 intro g cells i v hg hi
 unfold tabs at hg
 split at hg
 ·rename_i h1
  have h1:=beq_iff.1 h1
  subst h1
  simp only [Option.some.injEq] at hg
  subst hg
  have hi':i < powTab.length:=by
   have:=(List.getElem?_eq_some_iff.1 hi).1
   simpa using this
  rw [hT.cell (show Tryz.prog.globalNamed "internal/strconv.uint64pow10" = some 1 by kernel_rfl) i hi']
  simp only [List.getElem?_map,Option.map_eq_some_iff] at hi
  obtain ⟨z,hz,rfl⟩:=hi
  simp [List.getD,hz]
 ·simp at hg
/-- A call without arguments that is reckoned out to true. -/
theorem reckoned {W:World} (hG:GOk tabs W) {f:FuncId} (h:isTrue (evCall Tryz.prog tabs absent 60 f [] .e 0) = true) :
 Calls Tryz.prog f #[] W fun e w'=>e = .returned (.bool true) ∧ Below W.heap.size W w':=by
 obtain ⟨h',n',he⟩:=isTrue_eq h
 exact call_done mixed hG absent_ok names he
theorem begun_run:isTrue (evCall Tryz.prog tabs absent 60 11 [] .e 0) = true:=by kernel_rfl
theorem begun_calls {W:World} (hG:GOk tabs W):Calls Tryz.prog 11 #[] W fun e w'=>e = .returned (.bool true) ∧ Below W.heap.size W w':=reckoned hG begun_run
end Go.Proofs.YtcnjcfoaoaldeaaGreatDoor
