/- Blocks of cells that a call makes and writes: what they hold, through calls and stores. -/
import Derived.Test.YtcnjcfoaoaldeaaGreatDoorProg
import Derived.Below
import Derived.Laws.Rows
import Derived.Laws.OwnMore
import Derived.Lib.Hide
import Derived.Deep.Draws
import Derived.OneCell
set_option linter.unusedVariables false
namespace Go.Proofs
open Go.RowKit
/-- A block holds just these cells, and none of them is frozen. -/
def CellsAt (w:World) (B:Nat) (c:Array Value) (t:TypeId):Prop:=w.heap[B]? = some (.cells c t (0,0))
namespace CellsAt
variable {w w':World} {B:Nat} {c:Array Value} {t:TypeId}
theorem lt (h:CellsAt w B c t):B < w.heap.size:=(Array.getElem?_eq_some_iff.1 h).1
theorem cell (h:CellsAt w B c t) (j:Nat):w.cell? ⟨B,j,none⟩ = c[j]?:=by
 unfold World.cell?
 show (match w.heap[B]? with | some (.cells c _ _)=>if (none:Option Nat).isSome then none else c[j]? | _=>none) = _
 rw [h]; rfl
theorem free (h:CellsAt w B c t) (j:Nat):w.frozen? ⟨B,j,none⟩ = false:=by
 unfold World.frozen?
 show (match w.heap[B]? with | some (.cells _ _ (lo,hi))=>decide (lo ≤ j) && decide (j < hi) | _=>false) = _
 rw [h]; simp
theorem new (w:World) (c:Array Value) (t:TypeId) {B:Nat} (hB:w.heap.size = B):CellsAt (w.alloc (.cells c t)) B c t:=by
 subst hB
 show (w.heap.push _)[w.heap.size]? = _
 simp
theorem below (h:CellsAt w B c t) (hb:Below w.heap.size w w'):CellsAt w' B c t:=(hb.block B h.lt).trans h
theorem alloc (h:CellsAt w B c t) (o:Obj):CellsAt (w.alloc o) B c t:=h.below ((Below.refl _ _).alloc (Nat.le_refl _) o)
theorem set (h:CellsAt w B c t) (j:Nat) (v:Value):CellsAt (w.setCell ⟨B,j,none⟩ v) B (c.setIfInBounds j v) t:=by
 unfold CellsAt World.setCell
 show (w.heap.modify B _)[B]? = _
 rw [Array.getElem?_modify,if_pos rfl,h]
 rfl
theorem other (h:CellsAt w B c t) {g:Nat} (hne:B ≠ g) (j:Nat) (v:Value):CellsAt (w.setCell ⟨g,j,none⟩ v) B c t:=by
 unfold CellsAt World.setCell
 show (w.heap.modify g _)[B]? = _
 rw [Array.getElem?_modify,if_neg (fun e=>hne e.symm),h]
theorem drewN (h:CellsAt w B c t) (n:Nat):CellsAt (w.drewN n) B c t:=by
 induction n generalizing w with
 | zero=>exact h
 | succ n ih=>exact ih (w:=w.drew) h
end CellsAt
/-- A struct of three cells that is written. -/
theorem CellsAt.put3 {w:World} {B:Nat} {a b c x y z:Value} {t:TypeId} (h:CellsAt w B #[a,b,c] t):CellsAt (((w.setCell ⟨B,0,none⟩ x).setCell ⟨B,1,none⟩ y).setCell ⟨B,2,none⟩ z) B #[x,y,z] t:=
 ((h.set 0 x).set 1 y).set 2 z
/-- What the call owns stays while a block of another type is written. -/
theorem CellsAt.keeps {w:World} {B:Nat} {c:Array Value} {t:TypeId} (h:CellsAt w B c t) {base:Nat} {e:TypeId} {size:Nat} {v:Value} {n:Nat} {xs:List Value} (hv:w.ownsRow base e size v n xs) (hne:t ≠ e) (j:Nat) (u:Value):(w.setCell ⟨B,j,none⟩ u).ownsRow base e size v n xs:=by
 refine ownsRow_setCell_other hv (fun ho=>?_) u
 obtain ⟨h1,h2⟩:=hv
 rcases h2 with ⟨rfl,-⟩ | ⟨g,cap,cur,rfl,hg,hh,r⟩
 ·simp [Value.ownBlock] at ho
 ·have e2:g = B:=by simpa [Value.ownBlock] using ho
  subst e2
  have h3:some (Obj.cells cur e (0,0)) = some (Obj.cells c t (0,0)):=hh.symm.trans h
  simp at h3
  exact hne h3.2.symm
end Go.Proofs
