/- Slices of ints and of strings that come in: what a walk asks of them, and that they read as they did. -/
import Derived.Test.YtcnjcfoaoaldeaaGreatDoorMr
import Derived.ChangeSlices
import Derived.SliceStrings
import Derived.Carry
import Derived.RowKit
set_option linter.unusedVariables false
namespace Go.Proofs.Vt
open Go.RowKit Go.ChangeShapes
theorem Tryz.laidOut:laidOutB Tryz.prog = true:=by kernel_rfl
theorem Tryz.cellsString:Tryz.prog.cellsOf 9 = 1:=by kernel_rfl
theorem plain_addr {w:World} {a:Addr} {v:Value} (h:w.cell? a = some v):a.spot = none:=by
 unfold World.cell? at h
 split at h
 ·split at h
  ·simp at h
  ·rename_i h1
   simpa using h1
 ·simp at h
variable {H:Type} {enc:TypeId × Value → H}
theorem Tryz.strsIn {W:World} {v:Value} {d:DataW H} {ps:List MemPlace} {a:Option Addr} {len cap:Nat} (hv:v = .slice a len cap) (h:DataW.Trod enc Tryz.prog W 0 (fun _=>true) true 23 v d ps):∃ ss,StrsIn W v ss:=by
 subst hv
 obtain ⟨fuel,hf⟩:=h
 rcases open_strings Tryz.underlying23 Tryz.underlying9 Tryz.cellsString hf with ⟨hcs,-⟩ | ⟨a',len',cap',ss,hcs,-,hl,hm,hz,-,hcell,hws⟩
 ·simp only [Value.cells,List.cons.injEq,and_true] at hcs
  simp only [Value.slice.injEq] at hcs
  obtain ⟨rfl,rfl,rfl⟩:=hcs
  exact ⟨[],none,0,rfl,Nat.le_refl _,Nat.zero_le _,fun z hz=>by simp at hz,.inl rfl⟩
 ·simp only [Value.cells,List.cons.injEq,and_true] at hcs
  simp only [Value.slice.injEq] at hcs
  obtain ⟨rfl,rfl,rfl⟩:=hcs
  rw [if_pos rfl] at hz
  refine ⟨ss.take len,some a',cap,by rw [List.length_take]; simp; omega,by rw [List.length_take]; omega,hm,fun s hs=>hws s (List.mem_of_mem_take hs),?_⟩
  by_cases h0:len = 0
  ·left; subst h0; simp
  ·right
   have h1:=hcell 0 (by omega)
   have hs:=plain_addr h1
   obtain ⟨b,o,sp⟩:=a'
   obtain rfl:sp = none:=hs
   refine ⟨b,o,rfl,World.block_lt_of_cell? W _ h1,fun j z hj=>?_⟩
   rw [List.getElem?_take] at hj
   split at hj
   ·have hjl:=(List.getElem?_eq_some_iff.1 hj).1
    have:=hcell j hjl
    rw [Lib.add_plain] at this
    rw [this]
    simp [List.getD,hj]
   ·simp at hj
theorem Tryz.backStrs {W W':World} {v:Value} {d:DataW H} {ps:List MemPlace} (h:DataW.Trod enc Tryz.prog W 0 (fun _=>true) true 23 v d ps) (hb:Below W.heap.size W W') (hlt:∀ x ∈ ps,x.block < W.heap.size) :
 DataW.Trod enc Tryz.prog W' 0 (fun b=>decide (b < W.heap.size)) true 23 v d ps:=
 Below.trod Tryz.laidOut (by kernel_rfl) (of_decide_eq_true (by kernel_rfl)) h hb hlt
end Go.Proofs.Vt
