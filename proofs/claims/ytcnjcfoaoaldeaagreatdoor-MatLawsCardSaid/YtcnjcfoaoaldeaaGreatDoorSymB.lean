/- The reckoning of SymA is sound for memory, regions in any order, code and calls: a call that it reckons out returns that value, whatever the tape says. -/
import Derived.Test.YtcnjcfoaoaldeaaGreatDoorRn
import Derived.Test.YtcnjcfoaoaldeaaGreatDoorSymA
set_option linter.unusedVariables false
set_option maxHeartbeats 1000000
namespace Go.Sym
open Go RowKit
def RowAt (P:Program) (N:Nat → Prop) (E:Env) (w:World) (b:Nat) (cells:List AV) (e:TypeId) (opn:Bool):Prop:=
 ∃ (vs rest : List Value) (fz : Nat × Nat), w.heap[E.ρ b]? = some (.cells (vs ++ rest).toArray e fz) ∧ RelL N E cells vs ∧ (opn = false → rest = []) ∧
   (opn = true → ∃ s,sizeT P e = some s ∧ (vs ++ rest).length = E.κ b * s) ∧ (∀ i,i < (vs ++ rest).length → ¬ (fz.1 ≤ i ∧ i < fz.2))
structure HRel (P:Program) (N:Nat → Prop) (E:Env) (w0:World) (h:Hp) (w:World):Prop where
 row:∀ b cells e opn,h.get b = some (.row cells e opn) → RowAt P N E w b cells e opn
 iter:∀ b s pos,h.get b = some (.iter s pos) → w.heap[E.ρ b]? = some (.stringIter s pos)
 dom:∀ b x,h.get b = some x → N b ∧ w0.heap.size ≤ E.ρ b
 inj:∀ b b' x y,h.get b = some x → h.get b' = some y → E.ρ b = E.ρ b' → b = b'
 below:Below w0.heap.size w0 w
/-- All but block g is as it was. -/
structure Keeps (g:Nat) (w w':World):Prop where
 other:∀ k,k ≠ g → w'.heap[k]? = w.heap[k]?
 size:w'.heap.size = w.heap.size
 os:w'.os = w.os
 tape:w'.tape = w.tape
 output:w'.output = w.output
section
variable {P:Program} {N N':Nat → Prop} {E E':Env} {w0 w w':World} {h h':Hp}
theorem Keeps.refl (g:Nat) (w:World):Keeps g w w:=⟨fun _ _=>rfl,rfl,rfl,rfl,rfl⟩
theorem Keeps.trans {g:Nat} {a b c:World} (h:Keeps g a b) (k:Keeps g b c):Keeps g a c:=
 ⟨fun i hi=>(k.other i hi).trans (h.other i hi),k.size.trans h.size,k.os.trans h.os,k.tape.trans h.tape,k.output.trans h.output⟩
theorem Keeps.setCell (w:World) (a:Addr) (v:Value):Keeps a.block w (w.setCell a v):=
 ⟨fun k hk=>Below.heap_setCell w a v k hk,by simp,rfl,rfl,rfl⟩
theorem Keeps.below {g:Nat} (h:Below w0.heap.size w0 w) (k:Keeps g w w') (hg:w0.heap.size ≤ g):Below w0.heap.size w0 w':=
 ⟨k.os.trans h.os,k.tape.trans h.tape,k.output.trans h.output,by rw [k.size]; exact h.size,fun i hi=>(k.other i (by omega)).trans (h.block i hi)⟩
theorem cell_of_row {g i:Nat} {c:Array Value} {e:TypeId} {fz:Nat × Nat} (hg:w.heap[g]? = some (.cells c e fz)):w.cell? ⟨g,i,none⟩ = c[i]?:=by
 simp [World.cell?,hg]
theorem frozen_of_row {g i:Nat} {c:Array Value} {e:TypeId} {fz:Nat × Nat} (hg:w.heap[g]? = some (.cells c e fz)) (hf:¬ (fz.1 ≤ i ∧ i < fz.2)):w.frozen? ⟨g,i,none⟩ = false:=by
 obtain ⟨f1,f2⟩:=fz
 simp only at hf
 simp [World.frozen?,hg]
 omega
theorem run_store_row {g o:Nat} {e:TypeId} {fz:Nat × Nat}:∀ (vs:List Value) (i:Nat) (cur:List Value) (w:World),w.heap[g]? = some (.cells cur.toArray e fz) →
 o + i + vs.length ≤ cur.length → (∀ k,k < cur.length → ¬ (fz.1 ≤ k ∧ k < fz.2)) → (∀ v ∈ vs,v.oneCell' = true) →
 ∃ w',(storeCells ⟨g,o,none⟩ vs i).run P w = .ok () w' ∧ w'.heap[g]? = some (.cells (cur.take (o + i) ++ vs ++ cur.drop (o + i + vs.length)).toArray e fz) ∧ Keeps g w w'
 | [],i,cur,w,hg,hl,hf,ho=>⟨w,by simp [storeCells],by simpa using hg,.refl g w⟩
 | v :: vs, i, cur, w, hg, hl, hf, ho => by
   simp only [List.length_cons] at hl
   have hc:w.cell? ⟨g,o + i,none⟩ = some (cur[o + i]'(by omega)):=by
    rw [cell_of_row hg]; simp
   have hfz:w.frozen? ⟨g,o + i,none⟩ = false:=frozen_of_row hg (hf _ (by omega))
   have hset:(w.setCell ⟨g,o + i,none⟩ v).heap[g]? = some (.cells (cur.set (o + i) v).toArray e fz):=by
    simp [World.setCell,Array.getElem?_modify,hg]
   obtain ⟨w',h1,h2,h3⟩:=run_store_row (o:=o) vs (i + 1) (cur.set (o + i) v) (w.setCell ⟨g,o + i,none⟩ v) hset (by simp; omega)
    (fun k hk=>hf k (by simpa using hk)) (fun u hu=>ho u (by simp [hu]))
   refine ⟨w',?_,?_,(Keeps.setCell w ⟨g,o + i,none⟩ v).trans h3⟩
   ·unfold storeCells
    rw [Sem.run_bind,addr_add,run_store P w _ v .plain (ho v (by simp)),hc]
    simp only [hfz,Bool.false_eq_true,if_false,Result.andThen_ok]
    exact h1
   ·rw [h2]
    congr 2
    have:=list_seg_step cur (o + i) v vs (by omega)
    rw [show o + (i + 1) = o + i + 1 by omega]
    simpa [Nat.add_assoc,Nat.add_comm,Nat.add_left_comm] using this
theorem RowAt.mono {b:Nat} {cells:List AV} {e:TypeId} {opn:Bool} (hr:RowAt P N E w b cells e opn) (hs:∀ b,N b → N' b) (ha:Agree N E E') (hb:N b):RowAt P N' E' w b cells e opn:=by
 obtain ⟨vs,rest,fz,h1,h2,h3,h4,h5⟩:=hr
 refine ⟨vs,rest,fz,by rw [(ha b hb).1]; exact h1,h2.mono hs ha,h3,fun ho=>?_,h5⟩
 obtain ⟨s,s1,s2⟩:=h4 ho
 exact ⟨s,s1,by rw [(ha b hb).2.1]; exact s2⟩
theorem RowAt.world {b:Nat} {cells:List AV} {e:TypeId} {opn:Bool} (hr:RowAt P N E w b cells e opn) (hw:w'.heap[E.ρ b]? = w.heap[E.ρ b]?):RowAt P N E w' b cells e opn:=by
 obtain ⟨vs,rest,fz,h1,h2⟩:=hr
 exact ⟨vs,rest,fz,hw.trans h1,h2⟩
theorem HRel.mono (hr:HRel P N E w0 h w) (hs:∀ b,N b → N' b) (ha:Agree N E E'):HRel P N' E' w0 h w where
 row b cells e opn hb:=(hr.row b cells e opn hb).mono hs ha (hr.dom b _ hb).1
 iter b s pos hb:=by rw [(ha b (hr.dom b _ hb).1).1]; exact hr.iter b s pos hb
 dom b x hb:=⟨hs b (hr.dom b x hb).1,by rw [(ha b (hr.dom b x hb).1).1]; exact (hr.dom b x hb).2⟩
 inj b b' x y hb hb' he:=hr.inj b b' x y hb hb' (by rwa [(ha b (hr.dom b x hb).1).1,(ha b' (hr.dom b' y hb').1).1] at he)
 below:=hr.below
/-- A world that differs in what is no memory. -/
theorem HRel.same (hr:HRel P N E w0 h w) (hh:w'.heap = w.heap) (h1:w'.os = w.os) (h2:w'.tape = w.tape) (h3:w'.output = w.output):HRel P N E w0 h w' where
 row b cells e opn hb:=(hr.row b cells e opn hb).world (by rw [hh])
 iter b s pos hb:=by rw [hh]; exact hr.iter b s pos hb
 dom:=hr.dom
 inj:=hr.inj
 below:=⟨h1.trans hr.below.os,h2.trans hr.below.tape,h3.trans hr.below.output,by rw [hh]; exact hr.below.size,fun k hk=>by rw [hh]; exact hr.below.block k hk⟩
theorem HRel.kill (hr:HRel P N E w0 h w) {b:Nat} (hs:h.set 40 b none = some h'):HRel P N E w0 h' w:=by
 have sub:∀ k x,h'.get k = some x → h.get k = some x:=fun k x hk=>by
  by_cases e:k = b
  ·subst e; rw [T.get_set_eq hs] at hk; cases hk
  ·rwa [T.get_set_ne hs e] at hk
 exact ⟨fun k cells e opn hk=>hr.row k cells e opn (sub k _ hk),fun k s pos hk=>hr.iter k s pos (sub k _ hk),fun k x hk=>hr.dom k x (sub k x hk),
  fun k k' x y hk hk'=>hr.inj k k' x y (sub k x hk) (sub k' y hk'),hr.below⟩
/-- A block that the call holds is turned. -/
theorem HRel.turn (hr:HRel P N E w0 h w) {b:Nat} {x0 x:Blk} (hb:h.get b = some x0) (hs:h.set 40 b (some x) = some h') (hk:Keeps (E.ρ b) w w')
 (hrow:∀ cells e opn,x = .row cells e opn → RowAt P N E w' b cells e opn) (hiter:∀ s pos,x = .iter s pos → w'.heap[E.ρ b]? = some (.stringIter s pos)):HRel P N E w0 h' w':=by
 have sub:∀ k y,h'.get k = some y → k ≠ b → h.get k = some y:=fun k y hk e=>by rwa [T.get_set_ne hs e] at hk
 have at_:h'.get b = some x:=T.get_set_eq hs
 have hex:∀ k y,h'.get k = some y → ∃ z,h.get k = some z:=fun k y hk=>by
  by_cases e:k = b
  ·subst e; exact ⟨_,hb⟩
  ·exact ⟨y,sub k y hk e⟩
 have hne:∀ k y,h.get k = some y → k ≠ b → E.ρ k ≠ E.ρ b:=fun k y hk e hh=>e (hr.inj k b y x0 hk hb hh)
 refine ⟨fun k cells e opn hk'=>?_,fun k s pos hk'=>?_,fun k y hk'=>?_,fun k k' y z hk1 hk2 he=>?_,hk.below hr.below (hr.dom b _ hb).2⟩
 ·by_cases e:k = b
  ·subst e; rw [at_] at hk'; exact hrow _ _ _ (Option.some.inj hk')
  ·have:=sub k _ hk' e
   exact (hr.row k _ _ _ this).world (hk.other _ (hne k _ this e))
 ·by_cases e:k = b
  ·subst e; rw [at_] at hk'; exact hiter _ _ (Option.some.inj hk')
  ·have:=sub k _ hk' e
   rw [hk.other _ (hne k _ this e)]; exact hr.iter k s pos this
 ·obtain ⟨z,hz⟩:=hex k y hk'; exact hr.dom k z hz
 ·obtain ⟨y',hy'⟩:=hex k y hk1; obtain ⟨z',hz'⟩:=hex k' z hk2
  exact hr.inj k k' y' z' hy' hz' he
def Env.add (E:Env) (nm g k:Nat) (a:Addr):Env:=
 ⟨fun b=>if b = nm then g else E.ρ b,fun b=>if b = nm then k else E.κ b,fun b=>if b = nm then a else E.α b⟩
theorem Env.add_agree {nm g k:Nat} {a:Addr} (hn:¬ N nm):Agree N E (E.add nm g k a):=fun b hb=>by
 have:b ≠ nm:=fun e=>hn (e ▸ hb)
 simp [Env.add,this]
def plus (N:Nat → Prop) (nm:Nat):Nat → Prop:=fun b=>N b ∨ b = nm
/-- A new block. -/
theorem HRel.new (hr:HRel P N E w0 h w) {nm k:Nat} {x:Blk} {o:Obj} (hn:¬ N nm) (hs:h.set 40 nm (some x) = some h')
 (hrow:∀ cells e opn,x = .row cells e opn → ∃ (vs rest:List Value) (fz:Nat × Nat),o = .cells (vs ++ rest).toArray e fz ∧ RelL N E cells vs ∧ (opn = false → rest = []) ∧
  (opn = true → ∃ s,sizeT P e = some s ∧ (vs ++ rest).length = k * s) ∧ (∀ i,i < (vs ++ rest).length → ¬ (fz.1 ≤ i ∧ i < fz.2)))
 (hiter:∀ s pos,x = .iter s pos → o = .stringIter s pos) (hw:w'.heap = w.heap.push o) (h1:w'.os = w.os) (h2:w'.tape = w.tape) (h3:w'.output = w.output) :
 HRel P (plus N nm) (E.add nm w.heap.size k default) w0 h' w':=by
 have ha:Agree N E (E.add nm w.heap.size k default):=Env.add_agree hn
 have sub:∀ b y,h'.get b = some y → b ≠ nm → h.get b = some y:=fun b y hk e=>by rwa [T.get_set_ne hs e] at hk
 have at_:h'.get nm = some x:=T.get_set_eq hs
 have hlt:∀ b y,h.get b = some y → E.ρ b < w.heap.size:=fun b y hb=>by
  cases y with
  | row cells e opn =>
    obtain ⟨vs,rest,fz,g,-⟩:=hr.row b _ _ _ hb
    exact (Array.getElem?_eq_some_iff.1 g).1
  | iter s pos=>exact (Array.getElem?_eq_some_iff.1 (hr.iter b _ _ hb)).1
 have old:∀ i,i < w.heap.size → w'.heap[i]? = w.heap[i]?:=fun i hi=>by
  rw [hw,Array.getElem?_push,if_neg (by omega)]
 have nw:w'.heap[w.heap.size]? = some o:=by rw [hw]; simp
 have hsz:=hr.below.size
 refine ⟨fun b cells e opn hb=>?_,fun b s pos hb=>?_,fun b y hb=>?_,fun b b' y z hb hb' he=>?_,?_⟩
 ·by_cases e':b = nm
  ·subst e'
   rw [at_] at hb
   obtain ⟨vs,rest,fz,g1,g2,g3,g4,g5⟩:=hrow _ _ _ (Option.some.inj hb)
   refine ⟨vs,rest,fz,?_,g2.mono (fun _ h=>.inl h) ha,g3,fun ho=>?_,g5⟩
   ·show w'.heap[(E.add b w.heap.size k default).ρ b]? = _
    simp only [Env.add,if_true]
    rw [nw,g1]
   ·obtain ⟨s,s1,s2⟩:=g4 ho
    exact ⟨s,s1,by simpa [Env.add] using s2⟩
  ·have hb':=sub b _ hb e'
   refine ((hr.row b _ _ _ hb').mono (fun _ h=>.inl h) ha (hr.dom b _ hb').1).world ?_
   rw [(ha b (hr.dom b _ hb').1).1]
   exact old _ (hlt b _ hb')
 ·by_cases e':b = nm
  ·subst e'
   rw [at_] at hb
   show w'.heap[(E.add b w.heap.size k default).ρ b]? = _
   simp only [Env.add,if_true]
   rw [nw,hiter _ _ (Option.some.inj hb)]
  ·have hb':=sub b _ hb e'
   rw [(ha b (hr.dom b _ hb').1).1,old _ (hlt b _ hb')]
   exact hr.iter b _ _ hb'
 ·by_cases e':b = nm
  ·subst e'; exact ⟨.inr rfl,by simp [Env.add,hsz]⟩
  ·have hb':=sub b _ hb e'
   exact ⟨.inl (hr.dom b _ hb').1,by rw [(ha b (hr.dom b _ hb').1).1]; exact (hr.dom b _ hb').2⟩
 ·by_cases e1:b = nm <;> by_cases e2:b' = nm
  ·rw [e1,e2]
  ·exfalso
   have hb2:=sub b' _ hb' e2
   have:=hlt b' _ hb2
   rw [(ha b' (hr.dom b' _ hb2).1).1,e1] at he
   simp [Env.add] at he
   omega
  ·exfalso
   have hb2:=sub b _ hb e1
   have:=hlt b _ hb2
   rw [(ha b (hr.dom b _ hb2).1).1,e2] at he
   simp [Env.add] at he
   omega
  ·have hb1:=sub b _ hb e1
   have hb2:=sub b' _ hb' e2
   rw [(ha b (hr.dom b _ hb1).1).1,(ha b' (hr.dom b' _ hb2).1).1] at he
   exact hr.inj b b' _ _ hb1 hb2 he
 ·exact ⟨h1.trans hr.below.os,h2.trans hr.below.tape,h3.trans hr.below.output,by rw [hw]; simp; omega,fun i hi=>by rw [old i (by omega)]; exact hr.below.block i hi⟩
end
end Go.Sym
namespace Go.Sym
open Go RowKit
/-- What the listed variables hold. -/
def GOk (G:Nat → Option (List Value)) (w0:World):Prop:=∀ (g:Nat) (cells:List Value) (i:Nat) (v:Value),G g = some cells → cells[i]? = some v → w0.cell? ⟨g,i,none⟩ = some v
section
variable {P:Program} {G:Nat → Option (List Value)} {N N':Nat → Prop} {E E':Env} {w0 w w':World} {h h':Hp} {sz:Nat} {fr:Fr} {a:Act}
theorem run_load_cell {g off:Nat} {v:Value} (hc:w.cell? ⟨g,off,none⟩ = some v) (m:Mode):(load ⟨g,off,none⟩ m).run P w = .ok v w:=by
 simp [load,Sem.run,hc]
theorem loadVar_row {t:TypeId} {cs:List AV} {vs:List Value} {off g:Nat} {av:AV} (hr:RelL N E cs vs) (hp:partA P t cs off = some av) :
 ∃ v,Rel N E av v ∧ ∀ (w:World) rest e fz,w.heap[g]? = some (.cells (vs ++ rest).toArray e fz) → (loadVar t ⟨g,off,none⟩).run P w = .ok v w:=by
 unfold partA at hp
 cases ha:isAggT P t with
 | none=>simp [ha] at hp
 | some b =>
   cases b with
   | true =>
     simp only [ha] at hp
     cases hs:sizeT P t with
     | none=>simp [hs] at hp
     | some n =>
       simp only [hs] at hp
       cases hd:dropN off cs with
       | none=>simp [hd] at hp
       | some r =>
         simp only [hd] at hp
         cases ht:takeN n r with
         | none=>simp [ht] at hp
         | some l =>
           simp only [ht,Option.some.injEq] at hp
           obtain ⟨d1,d2⟩:=dropN_eq _ _ _ hd
           obtain ⟨t1,t2⟩:=takeN_eq _ _ _ ht
           subst hp; subst d1; subst t1
           have hl:=hr.length
           refine ⟨.agg ((vs.drop off).take n).toArray,.ag ((hr.drop off).take n),fun w rest e fz hg=>?_⟩
           unfold loadVar
           rw [Sem.run_bind,run_isAgg ha]
           simp only [Result.andThen_ok,if_true]
           rw [Sem.run_bind,run_size hs]
           simp only [Result.andThen_ok]
           have hlen:((vs.drop off).take n).length = n:=by simp at t2 ⊢; omega
           have:=run_loadCells_list (P:=P) w ⟨g,off,none⟩ ((vs.drop off).take n) (fun j v hj=>by
            rw [addr_add,cell_of_row hg]
            have hjn:j < n:=by
             have:=(List.getElem?_eq_some_iff.1 hj).1
             omega
            rw [List.getElem?_take,if_pos hjn,List.getElem?_drop] at hj
            have:off + j < vs.length:=(List.getElem?_eq_some_iff.1 hj).1
            simp [List.getElem?_append_left this,hj])
           rw [hlen] at this
           rw [Sem.run_bind,this]
           rfl
   | false =>
     simp only [ha] at hp
     rw [nth_eq] at hp
     obtain ⟨v,h1,h2⟩:=hr.get hp
     refine ⟨v,h2,fun w rest e fz hg=>?_⟩
     unfold loadVar
     rw [Sem.run_bind,run_isAgg ha]
     simp only [Result.andThen_ok,Bool.false_eq_true,if_false]
     refine run_load_cell ?_ _
     rw [cell_of_row hg]
     have:off < vs.length:=(List.getElem?_eq_some_iff.1 h1).1
     simp [List.getElem?_append_left this,h1]
theorem run_sliceData {argTypes:Array TypeId} {ty:TypeId} {ad:Addr} {len c:Nat} (hc:c ≠ 0) :
 (Builtin.unsafeSliceData_ argTypes ty #[.slice (some ad) len c]).run P w = .ok (.pointer (some ad)) w:=by
 change Sem.run P (if c ≠ 0 then pure (Value.pointer (some ad)) else _) w = _
 rw [if_pos hc]
 rfl
/-- What a read leans on, in a world. -/
def Leans (P:Program) (N:Nat → Prop) (E:Env) (w0:World) (h:Hp) (ob:Option Nat) (w':World):Prop:=
 Below w0.heap.size w0 w' ∧ ∀ b,ob = some b → ∀ cells e opn,h.get b = some (.row cells e opn) → RowAt P N E w' b cells e opn
theorem HRel.leans (hr:HRel P N E w0 h w) (ob:Option Nat):Leans P N E w0 h ob w:=⟨hr.below,fun b _ cells e opn hb=>hr.row b cells e opn hb⟩
theorem read_global {t:TypeId} {ad:Addr} {av:AV} (hG:GOk G w0) (hp:aload P G h t (.lit (.pointer (some ad))) = some av) :
 ∃ v,av = .lit v ∧ ∀ w',Below w0.heap.size w0 w' → (loadVar t ad).run P w' = .ok v w':=by
 obtain ⟨blk,off,spot⟩:=ad
 simp only [aload] at hp
 cases spot with
 | some s=>simp at hp
 | none =>
   simp only at hp
   cases hg:G blk with
   | none=>simp [hg] at hp
   | some cells =>
     simp only [hg] at hp
     split at hp
     ·rename_i ha
      split at hp
      ·rename_i v hv
       simp only [Option.some.injEq] at hp
       rw [nth_eq] at hv
       have h1:=hG _ _ _ _ hg hv
       refine ⟨v,hp.symm,fun w' hb=>?_⟩
       have hlt:=block_lt_of_cell h1
       unfold loadVar
       rw [Sem.run_bind,run_isAgg ha]
       simp only [Result.andThen_ok,Bool.false_eq_true,if_false]
       exact run_load_cell ((hb.cell hlt).trans h1) _
      ·simp at hp
     ·simp at hp
theorem aread_sound (hG:GOk G w0) (hF:FRel N E sz fr a) (hr:HRel P N E w0 h w) {o:Oper} {av:AV} {ob:Option Nat} (hp:aread P G fr h o = some (av,ob)) :
 ∃ v,Rel N E av v ∧ ∀ w',Leans P N E w0 h ob w' → (execOp a.eval o).run P w' = .ok (.value v) w':=by
 obtain ⟨dst,op,type,pos,after,guard⟩:=o
 cases op <;> simp only [aread] at hp <;> try (simp at hp; done)
 case load t x=>
  split at hp
  ·rename_i b off hx
   split at hp
   ·rename_i v hv
    simp only [Option.some.injEq,Prod.mk.injEq] at hp
    obtain ⟨rfl,rfl⟩:=hp
    simp only [aload] at hv
    split at hv
    ·rename_i cells e opn hb
     obtain ⟨vs,rest,fz,g1,g2,-⟩:=hr.row b _ _ _ hb
     obtain ⟨u,h1,h2⟩:=loadVar_row (g:=E.ρ b) g2 hv
     refine ⟨u,h1,fun w' hl=>run_v ?_⟩
     obtain ⟨vs',rest',fz',k1,k2,-⟩:=hl.2 b rfl _ _ _ hb
     have:vs' = vs:=k2.now.symm.trans g2.now
     subst this
     unfold Instr.loadAt
     rw [(hF.eval hx).ptr_inv,Sem.run_bind]
     simp only [Instr.sureAddr,Sem.run_pure,Result.andThen_ok]
     exact h2 w' rest' _ fz' k1
    ·simp at hv
   ·simp at hp
  ·rename_i u hx
   split at hp
   ·rename_i v hv
    simp only [Option.some.injEq,Prod.mk.injEq] at hp
    obtain ⟨rfl,rfl⟩:=hp
    cases u with
    | pointer p =>
      cases p with
      | none=>simp [aload] at hv
      | some ad =>
        obtain ⟨r,rfl,h2⟩:=read_global hG hv
        refine ⟨r,.lit r,fun w' hl=>run_v ?_⟩
        unfold Instr.loadAt
        rw [(hF.eval hx).lit_eq,Sem.run_bind]
        simp only [Instr.sureAddr,Sem.run_pure,Result.andThen_ok]
        exact h2 w' hl.1
    | _=>simp [aload] at hv
   ·simp at hp
  ·simp at hp
 case slice t x lo hi mx=>
  split at hp
  ·rename_i b off len d elem hx hu
   split at hp
   ·rename_i size l k cells e hs hl hk hb
    split at hp
    ·rename_i c1 c2 c3 c4
     simp only [fN_eq,Option.some.injEq,Prod.mk.injEq] at hp
     obtain ⟨rfl,rfl⟩:=hp
     have c1:=ble_iff.1 c1; have c2:=beq_iff.1 c2; have c3:=beq_iff.1 c3
     subst c2
     have hN:=(hr.dom b _ hb).1
     have c4':l = 0 ∨ l < k:=by
      rcases Bool.or_eq_true _ _ ▸ c4 with q | q
      ·exact .inl (beq_iff.1 q)
      ·exact .inr (blt_iff.1 q)
     refine ⟨_,Rel.sl_of hN _ _ _,fun w' hle=>run_v ?_⟩
     obtain ⟨vs,rest,fz,g1,g2,-,g4,-⟩:=hle.2 b rfl _ _ _ hb
     obtain ⟨s,s1,s2⟩:=g4 rfl
     rw [hs] at s1
     obtain rfl:=Option.some.inj s1
     have hlen:=g2.length
     have hcap:d + k ≤ E.κ b:=by
      have h1:(d + k) * (size + 1) ≤ E.κ b * (size + 1):=by
       rw [← s2,Nat.add_mul]
       simp only [List.length_append]
       simp only [Nat.succ_eq_add_one] at c1 c3
       omega
      exact Nat.le_of_mul_le_mul_right h1 (Nat.succ_pos _)
     rw [(hF.eval hx).sl_inv]
     unfold Instr.sliceAt
     rw [Sem.run_bind,run_under hu]
     simp only [Result.andThen_ok]
     unfold Instr.slice
     rw [Sem.run_bind,run_under hu]
     simp only [Result.andThen_ok,Option.map_none,Cap.val]
     rw [Sem.run_bind,run_bounds hF true hl hk (by omega) (by omega)]
     simp only [Result.andThen_ok]
     rw [Sem.run_bind,run_size hs]
     simp only [Result.andThen_ok,Sem.run_pure,Option.map_some,addr_add]
     rcases c4' with rfl | hlt
     ·simp
     ·have:¬ (E.κ b - d = l):=by omega
      rw [if_neg this]
      simp [Nat.sub_sub]
    ·simp at hp
   ·simp at hp
  ·simp at hp
 case call c=>
  obtain ⟨callee,args,argTypes⟩:=c
  cases callee with
  | value f=>simp at hp
  | invoke r m=>simp at hp
  | builtin bi =>
    cases bi <;> simp only at hp <;> try (simp at hp; done)
    rcases hl:args.toList with _ | ⟨x,_ | ⟨y,l⟩⟩ <;> simp only [hl] at hp <;> try (simp at hp; done)
    have hargs:args.map a.eval = #[a.eval x]:=by
     apply Array.ext'
     simp [hl]
    split at hp
    ·rename_i b off len c hx
     have r:=hF.eval hx
     split at hp
     ·rename_i k _
      simp only [Option.some.injEq,Prod.mk.injEq] at hp
      obtain ⟨rfl,rfl⟩:=hp
      refine ⟨_,r.sl_ptr _,fun w' hle=>?_⟩
      rw [exec_builtin,hargs]
      refine run_v ?_
      rw [r.sl_inv]
      exact run_sliceData (by simp [Cap.val])
     ·rename_i n
      split at hp
      ·rename_i cells e hb
       split at hp
       ·rename_i c0 cs
        simp only [Option.some.injEq,Prod.mk.injEq] at hp
        obtain ⟨rfl,rfl⟩:=hp
        refine ⟨_,r.sl_ptr _,fun w' hle=>?_⟩
        obtain ⟨vs,rest,fz,g1,g2,-,g4,-⟩:=hle.2 b rfl _ _ _ hb
        obtain ⟨s,s1,s2⟩:=g4 rfl
        have hlen:=g2.length
        have:E.κ b ≠ 0:=by
         intro e0
         rw [e0] at s2
         simp at s2
         rw [s2.1] at hlen
         simp at hlen
        rw [exec_builtin,hargs]
        refine run_v ?_
        rw [r.sl_inv]
        exact run_sliceData (by simpa [Cap.val] using this)
       ·simp at hp
      ·simp at hp
     ·simp at hp
    ·simp at hp
end
end Go.Sym
namespace Go.Sym
open Go RowKit
section
variable {P:Program} {G:Nat → Option (List Value)} {N N':Nat → Prop} {E E':Env} {w0 w w':World} {h h':Hp} {sz:Nat} {fr:Fr} {a:Act}
/-- What an operation that turns memory does. -/
def Does (P:Program) (N:Nat → Prop) (E:Env) (w0 w:World) (nm:Nat) (s:Sem Next) (ov:Option AV) (h':Hp):Prop:=
 ∃ (N' : Nat → Prop) (E' : Env) (r : Next) (w' : World), s.run P w = .ok r w' ∧ (match ov with | some av => ∃ v, r = .value v ∧ Rel N' E' av v | none => r = .skip) ∧
   (∀ b,N b → N' b) ∧ (∀ b,N' b → N b ∨ b = nm) ∧ Agree N E E' ∧ HRel P N' E' w0 h' w'
theorem Does.same {nm:Nat} {s:Sem Next} {av:AV} {v:Value} {w':World} (h1:s.run P w = .ok (.value v) w') (h2:Rel N E av v) (h3:HRel P N E w0 h' w'):Does P N E w0 w nm s (some av) h':=
 ⟨N,E,.value v,w',h1,⟨v,rfl,h2⟩,fun _ h=>h,fun _ h=>.inl h,.refl N E,h3⟩
/-- A new block of just these cells. -/
theorem Does.row {nm:Nat} {s:Sem Next} {cells:List AV} {vs:List Value} {e:TypeId} (hr:HRel P N E w0 h w) (hn:¬ N nm) (hc:RelL N E cells vs)
 (hs:newBlk h nm (.row cells e false) = some h') {av:AV} {v:Value}
 (h1:s.run P w = .ok (.value v) { w with heap:=w.heap.push (.cells vs.toArray e) })
 (h2:∀ E':Env,E'.ρ nm = w.heap.size → Rel (plus N nm) E' av v):Does P N E w0 w nm s (some av) h':=by
 have hs':h.set 40 nm (some (.row cells e false)) = some h':=by
  unfold newBlk at hs
  split at hs
  ·simp at hs
  ·exact hs
 refine ⟨plus N nm,E.add nm w.heap.size 0 default,.value v,_,h1,⟨v,rfl,h2 _ (by simp [Env.add])⟩,fun _ h=>.inl h,fun _ h=>h,Env.add_agree hn,?_⟩
 refine hr.new hn hs' (fun cells' e' opn hx=>?_) (fun s pos hx=>by simp at hx) rfl rfl rfl rfl
 simp only [Blk.row.injEq] at hx
 obtain ⟨rfl,rfl,rfl⟩:=hx
 exact ⟨vs,[],(0,0),by simp,hc,fun _=>rfl,fun ho=>by simp at ho,fun i _=>by simp⟩
theorem ptr_new {nm k:Nat} {E':Env} (he:E'.ρ nm = k):Rel (plus N nm) E' (.ptr nm 0) (.pointer (some ⟨k,0,none⟩)):=by
 rw [← he]; exact Rel.ptr_of (.inr rfl) 0
theorem sl_new {nm k n c:Nat} {E':Env} (he:E'.ρ nm = k):Rel (plus N nm) E' (.sl nm 0 n (.num c)) (.slice (some ⟨k,0,none⟩) n c):=by
 rw [← he]; exact Rel.sl_of (.inr rfl) 0 n (.num c)
theorem repN_get {α:Type} (z:List α):∀ (n i:Nat),i < n * z.length → (repN n z)[i]? = z[i % z.length]?
 | 0,i,h=>by simp at h
 | n + 1, i, h => by
   simp only [repN]
   by_cases hi:i < z.length
   ·rw [List.getElem?_append_left hi,Nat.mod_eq_of_lt hi]
   ·rw [List.getElem?_append_right (by omega),repN_get z n (i - z.length) (by rw [Nat.add_mul] at h; omega)]
    congr 1
    rw [Nat.mod_eq_sub_mod (by omega:i ≥ z.length)]
theorem repN_length {α:Type} (z:List α):∀ n,(repN n z).length = n * z.length
 | 0=>by simp [repN]
 | n + 1=>by simp [repN,repN_length z n,Nat.add_mul,Nat.add_comm]
theorem repN_map {α β:Type} (f:α → β) (z:List α):∀ n,(repN n z).map f = repN n (z.map f)
 | 0=>by simp [repN]
 | n + 1=>by simp [repN,repN_map f z n]
theorem zeros_eq (z:Array Value) (n:Nat):(Array.range (n * z.size)).map (fun i=>z[i % z.size]!) = (repN n z.toList).toArray:=by
 apply Array.ext
 ·simp [repN_length]
 ·intro i h1 h2
  simp at h1
  have hz:0 < z.size:=Nat.pos_of_ne_zero (fun e=>by rw [e] at h1; omega)
  have:=repN_get z.toList n i (by simpa using h1)
  simp only [Array.length_toList] at this
  have hm:i % z.size < z.size:=Nat.mod_lt _ hz
  simp only [Array.getElem_map,Array.getElem_range,List.getElem_toArray]
  have e2:(repN n z.toList)[i]? = some ((repN n z.toList)[i]'(by simpa using h2)):=List.getElem?_eq_getElem _
  rw [e2,Array.getElem?_toList,Array.getElem?_eq_getElem hm] at this
  rw [Option.some.inj this]
  simp [hm]
theorem RelL.ones:∀ {avs:List AV} {vs:List Value},RelL N E avs vs → avs.all AV.one = true → ∀ v ∈ vs,v.oneCell' = true
 | [],vs,h,_,v,hv=>by have:=h.nil_eq; subst this; simp at hv
 | a :: avs, vs, h, ho, v, hv => by
   obtain ⟨u,us,rfl,h1,h2⟩:=h.cons_inv
   simp only [List.all_cons,Bool.and_eq_true] at ho
   rcases List.mem_cons.1 hv with e | e
   ·subst e; exact h1.one ho.1
   ·exact RelL.ones h2 ho.2 v e
/-- Cells written over those of a row. -/
theorem write_row {b off:Nat} {avs cells cells':List AV} {vs:List Value} {e:TypeId} {opn:Bool} (hr:HRel P N E w0 h w) (hv:RelL N E avs vs)
 (hb:h.get b = some (.row cells e opn)) (ho:avs.all AV.one = true) (hov:over cells off avs = some cells') (hset:h.set 40 b (some (.row cells' e opn)) = some h') :
 ∃ w',(storeCells ⟨E.ρ b,off,none⟩ vs).run P w = .ok () w' ∧ HRel P N E w0 h' w':=by
 obtain ⟨us,rest,fz,g1,g2,g3,g4,g5⟩:=hr.row b _ _ _ hb
 obtain ⟨o1,o2⟩:=g2.over hv hov
 obtain ⟨w',r1,r2,r3⟩:=run_store_row (P:=P) (o:=off) vs 0 (us ++ rest) w g1 (by simp; omega) g5 (RelL.ones hv ho)
 refine ⟨w',r1,hr.turn hb hset r3 (fun cells'' e' opn' hx=>?_) (fun s pos hx=>by simp at hx)⟩
 simp only [Blk.row.injEq] at hx
 obtain ⟨rfl,rfl,rfl⟩:=hx
 refine ⟨us.take off ++ vs ++ us.drop (off + vs.length),rest,fz,?_,o1,g3,fun hop=>?_,fun i hi=>g5 i (by simp at hi ⊢; omega)⟩
 ·rw [r2]
  congr 2
  simp only [Nat.add_zero]
  rw [List.take_append_of_le_length (by omega),List.drop_append_of_le_length (by omega)]
  simp
 ·obtain ⟨s,s1,s2⟩:=g4 hop
  exact ⟨s,s1,by rw [← s2]; simp; omega⟩
theorem store_does {nm:Nat} {t:TypeId} {x:Operand} {y:Operand} {b off size:Nat} {av:AV} {cells cells':List AV} {e:TypeId} {opn:Bool} (hF:FRel N E sz fr a) (hr:HRel P N E w0 h w)
 (hx:aeval fr x = some (.ptr b off)) (hy:aeval fr y = some av) (hs:sizeT P t = some size)
 (hb:h.get b = some (.row cells e opn)) (hl:av.cells.length = size) (ho:av.cells.all AV.one = true) (hov:over cells off av.cells = some cells') (hset:h.set 40 b (some (.row cells' e opn)) = some h') :
 Does P N E w0 w nm (do Instr.storeAt t (a.eval x) (a.eval y); pure Next.skip) none h':=by
 have hc:=(hF.eval hy).cells
 obtain ⟨w',h1,h2⟩:=write_row hr hc hb ho hov hset
 refine ⟨N,E,.skip,w',run_u ?_,rfl,fun _ h=>h,fun _ h=>.inl h,.refl N E,h2⟩
 unfold Instr.storeAt
 rw [(hF.eval hx).ptr_inv,Sem.run_bind]
 simp only [Instr.sureAddr,Sem.run_pure,Result.andThen_ok]
 unfold storeVar
 have hlen:=hc.length
 simp only [Array.length_toList] at hlen
 rw [Sem.run_bind,run_size hs]
 simp only [Result.andThen_ok]
 rw [if_neg (by simp; omega)]
 simpa using h1
theorem alloc_does {nm:Nat} {t:TypeId} {z:List AV} (hr:HRel P N E w0 h w) (hn:¬ N nm) (hz:zeroCells P t = some z) (hs:newBlk h nm (.row z t false) = some h') :
 Does P N E w0 w nm (do pure (Next.value (← Instr.alloc t true (.tuple #[])))) (some (.ptr nm 0)) h':=by
 obtain ⟨i,z',hi,hz',rfl⟩:=zeroCells_eq hz
 refine Does.row hr hn (RelL.lits z'.cells.toList) hs (v:=.pointer (some ⟨w.heap.size,0,none⟩)) (run_v ?_) (fun E' he=>ptr_new he)
 unfold Instr.alloc
 rw [Sem.run_bind,run_zero hi hz']
 simp [newVar,newRow]
theorem box_does {nm:Nat} {t:TypeId} {x:Operand} {av:AV} (hF:FRel N E sz fr a) (hr:HRel P N E w0 h w) (hn:¬ N nm) (hx:aeval fr x = some av) (hs:newBlk h nm (.row av.cells t false) = some h') :
 Does P N E w0 w nm (do pure (Next.value (← Instr.box t (a.eval x)))) (some (.ptr nm 0)) h':=by
 refine Does.row hr hn (hF.eval hx).cells hs (v:=.pointer (some ⟨w.heap.size,0,none⟩)) (run_v ?_) (fun E' he=>ptr_new he)
 simp [Instr.box,newVar,newRow]
theorem zero_size {t:TypeId} {size:Nat} {z:List AV} (hz:zeroCells P t = some z) (hl:z.length = size) :
 ∃ i z',P.info? t = some i ∧ i.zero = some z' ∧ z = z'.cells.toList.map .lit ∧ z'.cells.size = size:=by
 obtain ⟨i,z',hi,hz',rfl⟩:=zeroCells_eq hz
 exact ⟨i,z',hi,hz',rfl,by simpa using hl⟩
theorem buildSlice_does {nm:Nat} {t elem:TypeId} {len size:Nat} {parts:Array (Nat × Operand)} {ps:List (Nat × AV)} {z cells:List AV} (hF:FRel N E sz fr a) (hr:HRel P N E w0 h w) (hn:¬ N nm)
 (hu:P.underlying t = some (.slice elem)) (hp:aparts fr parts.toList = some ps) (hs:sizeT P elem = some size) (hz:zeroCells P elem = some z) (hlen:len * size ≤ 1000000) (hzl:z.length = size)
 (hf:fillA (fun i=>some (i * size,size)) (repN len z) ps = some cells) (hset:newBlk h nm (.row cells elem false) = some h') :
 Does P N E w0 w nm (do pure (Next.value (← Instr.buildSlice t len (parts.map fun (i,x)=>(i,a.eval x))))) (some (.sl nm 0 len (.num len))) h':=by
 obtain ⟨us,e1,e2,e3⟩:=hF.parts _ _ hp
 obtain ⟨i,z',hi,hz',rfl,hzs⟩:=zero_size hz hzl
 have hrep:RelL N E (repN len (z'.cells.toList.map .lit)) (repN len z'.cells.toList):=by
  rw [← repN_map]; exact RelL.lits _
 obtain ⟨rs,f1,f2⟩:=fill_sound (fun i=>some (i * size,size)) ps _ cells us _ e2 e3 hrep hf
 have hparts:(parts.map fun (i,x)=>(i,a.eval x)) = us.toArray:=by
  rw [← e1]
  apply Array.ext'
  simp
 refine Does.row hr hn f2 hset (v:=.slice (some ⟨w.heap.size,0,none⟩) len len) (run_v ?_) (fun E' he=>sl_new he)
 rw [hparts]
 unfold Instr.buildSlice
 rw [Sem.run_bind,run_under hu]
 simp only [Result.andThen_ok]
 rw [Sem.run_bind,run_size hs]
 simp only [Result.andThen_ok]
 have hbig:¬ (len * size > 2 ^ 24):=by omega
 rw [if_neg hbig]
 have hcells:(Array.range (len * size)).map (fun i=>(if len * size = 0 then #[] else z'.cells)[i % (if len * size = 0 then #[] else z'.cells).size]!) = (repN len z'.cells.toList).toArray:=by
  by_cases h0:len * size = 0
  ·rw [h0]
   have:(repN len z'.cells.toList).length = 0:=by rw [repN_length]; simpa [hzs] using h0
   have:repN len z'.cells.toList = []:=List.length_eq_zero_iff.1 this
   simp [this]
  ·simp only [h0,if_false]
   rw [← hzs]; exact zeros_eq _ _
 by_cases h0:len * size = 0
 ·simp only [h0,if_true] at hcells ⊢
  simp [newRow]
  simp at hcells
  rw [hcells,f1]
  simp
 ·simp only [h0,if_false] at hcells ⊢
  rw [Sem.run_bind,run_zero hi hz']
  simp only [Result.andThen_ok]
  rw [Sem.run_bind]
  simp only [Result.andThen_ok,Sem.run_pure]
  rw [hcells,f1]
  simp [newRow]
end
end Go.Sym
namespace Go.Sym
open Go RowKit
section
variable {P:Program} {G:Nat → Option (List Value)} {N N':Nat → Prop} {E E':Env} {w0 w w':World} {h h':Hp} {sz:Nat} {fr:Fr} {a:Act}
theorem makeSlice_does {nm:Nat} {t elem:TypeId} {x y:Operand} {kl kc:IntKind} {l c:Nat} {i:TypeInfo} {z:List AV} (hF:FRel N E sz fr a) (hr:HRel P N E w0 h w) (hn:¬ N nm)
 (hu:P.underlying t = some (.slice elem)) (hx:aeval fr x = some (.lit (.int kl (.ofNat l)))) (hy:aeval fr y = some (.lit (.int kc (.ofNat c)))) (hi:P.info? elem = some i)
 (hz:zeroCells P elem = some z) (hlc:l ≤ c) (hc:c ≤ 100000) (hb:c * i.bytes ≤ 1000000000) (hzl:z.length = i.size) (hset:newBlk h nm (.row (repN c z) elem false) = some h') :
 Does P N E w0 w nm (do pure (Next.value (← Instr.makeSlice t (a.eval x) (a.eval y)))) (some (.sl nm 0 l (.num c))) h':=by
 obtain ⟨i',z',hi',hz',rfl,hzs⟩:=zero_size hz hzl
 rw [hi] at hi'
 obtain rfl:=Option.some.inj hi'
 have hrep:RelL N E (repN c (z'.cells.toList.map .lit)) (repN c z'.cells.toList):=by
  rw [← repN_map]; exact RelL.lits _
 refine Does.row hr hn hrep hset (v:=.slice (some ⟨w.heap.size,0,none⟩) l c) (run_v ?_) (fun E' he=>sl_new he)
 rw [(hF.eval hx).lit_eq,(hF.eval hy).lit_eq]
 have hb':(i.bytes:Int) * (Int.ofNat c) ≤ 281474976710656:=by
  have:((c * i.bytes:Nat):Int) ≤ ((1000000000:Nat):Int):=Int.ofNat_le.2 hb
  rw [Int.natCast_mul,Int.mul_comm] at this
  simp only [Int.ofNat_eq_natCast]
  omega
 have:=run_make (P:=P) w t elem i z' hu hi hz' kl kc (Int.ofNat l) (Int.ofNat c) (by simp) (by simpa using hlc) hb' (by simp; omega)
 rw [this]
 have e:madeCells z'.cells ((Int.ofNat c).toNat * i.size) = (repN c z'.cells.toList).toArray:=by
  rw [← zeros_eq,← hzs]; rfl
 rw [e]
 rfl
/-! ### append -/
/-- What is appended: so many elements, these cells. -/
def Src (P:Program) (w:World) (i:TypeInfo) (z:Value) (dx:TypeDesc) (x:Value) (n:Nat) (news:List Value):Prop:=
 ((∃ k,dx = .int k) ∧ (∃ k,x = .int k (.ofNat n)) ∧ n ≤ 100000 ∧ n * i.bytes ≤ 1000000000 ∧ 0 < n * i.size ∧ (Builtin.zeroCells z.cells n) = news.toArray) ∨
 ((∀ k,dx ≠ .int k) ∧ (Builtin.lenOf x).run P w = .ok n w ∧ ∀ w',w'.heap = w.heap → (Builtin.firstCells i.size n x).run P w' = .ok news.toArray w')
theorem run_append_in {st xt ty e:TypeId} {argTypes:Array TypeId} {i:TypeInfo} {z:Value} {dx:TypeDesc} {s x:Value} {n sLen sCap g off:Nat} {news:List Value}
 (h0:argTypes[0]? = some st) (h1:argTypes[1]? = some xt) (hu:P.underlying st = some (.slice e)) (hx:P.underlying xt = some dx) (hi:P.info? e = some i) (hz:i.zero = some z)
 (hsrc:Src P w i z dx x n news) (hs:s = .slice (some ⟨g,off,none⟩) sLen sCap) (hfit:sLen + n ≤ sCap)
 (hst:(storeCells ⟨g,off + sLen * i.size,none⟩ news).run P w = .ok () w') :
 (Builtin.append_ argTypes ty #[s,x]).run P w = .ok (.slice (some ⟨g,off,none⟩) (sLen + n) sCap) w':=by
 subst hs
 rcases hsrc with ⟨⟨k,rfl⟩,⟨kk,rfl⟩,hn,hb,hpos,hnews⟩ | ⟨hd,hlen,hcells⟩
 ·have wl:IntKind.i64.wrap (n:Int) = n:=by rw [IntKind.wrap_i64]; omega
  have n1:¬ ((n:Int) < 0):=by omega
  have n2:¬ (281474976710656 < (n:Int) * (i.bytes:Int)):=by
   have:((n * i.bytes:Nat):Int) ≤ ((1000000000:Nat):Int):=Int.ofNat_le.2 hb
   rw [Int.natCast_mul] at this
   omega
  have n3:¬ (n * i.size = 0):=by omega
  simp [Builtin.append_,h0,h1,run_under hu,run_under hx,run_info hi,sizeOf,asInt,asIntOf,wl,n1,n2,hfit,n3,run_zero hi hz,hnews,addr_add,hst]
 ·have hc:=hcells w rfl
  simp [Builtin.append_,h0,h1,run_under hu,run_under hx,sizeOf,run_info hi,hlen,hfit,hc,addr_add,hst]
theorem run_append_out {st xt ty e:TypeId} {argTypes:Array TypeId} {i:TypeInfo} {z:Value} {dx:TypeDesc} {s x:Value} {n sLen sCap:Nat} {base:Option Addr} {olds news:List Value}
 (h0:argTypes[0]? = some st) (h1:argTypes[1]? = some xt) (hu:P.underlying st = some (.slice e)) (hx:P.underlying xt = some dx) (hi:P.info? e = some i) (hz:i.zero = some z)
 (hsrc:Src P w i z dx x n news) (hs:s = .slice base sLen sCap) (hfit:sCap < sLen + n) (hb:(sLen + n) * i.bytes ≤ 1000000000) (h63:sLen + n ≤ 1000000000000)
 (hold:∀ w',w'.heap = w.heap → (Builtin.firstCells i.size sLen s).run P w' = .ok olds.toArray w') :
 ∃ c w', sLen + n ≤ c ∧ (Builtin.append_ argTypes ty #[s, x]).run P w = .ok (.slice (some ⟨w.heap.size, 0, none⟩) (sLen + n) c) w' ∧
   w'.heap = w.heap.push (.cells (olds ++ news ++ (Builtin.zeroCells z.cells (c - (sLen + n))).toList).toArray e) ∧ w'.os = w.os ∧ w'.tape = w.tape ∧ w'.output = w.output:=by
 have hnc:=nextslicecap_le hfit
 have h48:¬ (281474976710656 < Builtin.nextslicecap (sLen + n) sCap * i.bytes):=by
  have:Builtin.nextslicecap (sLen + n) sCap * i.bytes ≤ (2 * (sLen + n)) * i.bytes:=Nat.mul_le_mul_right _ hnc
  rw [Nat.mul_assoc] at this
  omega
 have h63':¬ (9223372036854775807 < (sLen:Int) + (n:Int)):=by omega
 have hn:¬ (sLen + n ≤ sCap):=by omega
 have ho:=hold w.drew rfl
 refine ⟨Question.cut (.appendCap (sLen + n) sCap e) (w.tape w.drawn (.appendCap (sLen + n) sCap e)),
  w.drew.alloc (.cells (olds ++ news ++ (Builtin.zeroCells z.cells (Question.cut (.appendCap (sLen + n) sCap e) (w.tape w.drawn (.appendCap (sLen + n) sCap e)) - (sLen + n))).toList).toArray e),
  by simp [Question.cut],?_,?_,?_,?_,?_⟩
 case refine_1=>
  rcases hsrc with ⟨⟨k,rfl⟩,⟨kk,rfl⟩,hn',hb',hpos,hnews⟩ | ⟨hd,hlen,hcells⟩
  ·have wl:IntKind.i64.wrap (n:Int) = n:=by rw [IntKind.wrap_i64]; omega
   have n1:¬ ((n:Int) < 0):=by omega
   have n2:¬ (281474976710656 < (n:Int) * (i.bytes:Int)):=by
    have:((n * i.bytes:Nat):Int) ≤ ((1000000000:Nat):Int):=Int.ofNat_le.2 hb'
    rw [Int.natCast_mul] at this
    omega
   have n3:¬ (n * i.size = 0):=by omega
   subst hs
   simp [Builtin.append_,h0,h1,run_under hu,run_under hx,run_info hi,sizeOf,asInt,asIntOf,wl,n1,n2,hn,n3,run_zero hi hz,hnews,h63',h48,Question.forced,ho,newRow]
   refine congrArg (fun c=>w.drew.alloc (Obj.cells c e)) ?_
   apply Array.ext'
   simp
  ·have hc:=hcells w.drew rfl
   subst hs
   simp [Builtin.append_,h0,h1,run_under hu,run_under hx,sizeOf,run_info hi,hlen,hn,hc,h63',h48,Question.forced,ho,run_zero hi hz,newRow]
   refine congrArg (fun c=>w.drew.alloc (Obj.cells c e)) ?_
   apply Array.ext'
   simp
 all_goals rfl
theorem run_append_nil0 {st xt ty e:TypeId} {argTypes:Array TypeId} {i:TypeInfo} {z:Value} {dx:TypeDesc} {x:Value} {news:List Value}
 (h0:argTypes[0]? = some st) (h1:argTypes[1]? = some xt) (hu:P.underlying st = some (.slice e)) (hx:P.underlying xt = some dx) (hi:P.info? e = some i)
 (hsrc:Src P w i z dx x 0 news):(Builtin.append_ argTypes ty #[.slice none 0 0,x]).run P w = .ok (.slice none 0 0) w:=by
 rcases hsrc with ⟨_,_,_,_,hpos,_⟩ | ⟨hd,hlen,hcells⟩
 ·simp at hpos
 ·have hc:=hcells w rfl
  simp [Builtin.append_,h0,h1,run_under hu,run_under hx,sizeOf,run_info hi,hlen,hc]
/-- A block goes over to a new name. -/
theorem HRel.rename (hr:HRel P N E w0 h w) {b nm:Nat} {cells:List AV} {e:TypeId} {opn:Bool} {cells':List AV} {h1:Hp} (hb:h.get b = some (.row cells e opn)) (hn:¬ N nm)
 (hs1:h.set 40 b none = some h1) (hs:h1.set 40 nm (some (.row cells' e true)) = some h') (hk:Keeps (E.ρ b) w w')
 (hrow:∃ (vs rest:List Value) (fz:Nat × Nat),w'.heap[E.ρ b]? = some (.cells (vs ++ rest).toArray e fz) ∧ RelL N E cells' vs ∧
  (∃ s,sizeT P e = some s ∧ (vs ++ rest).length = E.κ b * s) ∧ (∀ i,i < (vs ++ rest).length → ¬ (fz.1 ≤ i ∧ i < fz.2))) :
 HRel P (plus N nm) (E.add nm (E.ρ b) (E.κ b) default) w0 h' w':=by
 have ha:Agree N E (E.add nm (E.ρ b) (E.κ b) default):=Env.add_agree hn
 have hbnm:b ≠ nm:=fun e'=>hn (e' ▸ (hr.dom b _ hb).1)
 have at_:h'.get nm = some (.row cells' e true):=T.get_set_eq hs
 have sub:∀ k y,h'.get k = some y → k ≠ nm → h.get k = some y ∧ k ≠ b:=fun k y hk' e'=>by
  rw [T.get_set_ne hs e'] at hk'
  by_cases e2:k = b
  ·subst e2; rw [T.get_set_eq hs1] at hk'; cases hk'
  ·rw [T.get_set_ne hs1 e2] at hk'; exact ⟨hk',e2⟩
 have hne:∀ k y,h.get k = some y → k ≠ b → E.ρ k ≠ E.ρ b:=fun k y hk' e' hh=>e' (hr.inj k b y _ hk' hb hh)
 refine ⟨fun k cs e' opn' hk'=>?_,fun k s pos hk'=>?_,fun k y hk'=>?_,fun k k' y z hk1 hk2 he=>?_,hk.below hr.below (hr.dom b _ hb).2⟩
 ·by_cases e1:k = nm
  ·subst e1
   rw [at_] at hk'
   simp only [Option.some.injEq,Blk.row.injEq] at hk'
   obtain ⟨rfl,rfl,rfl⟩:=hk'
   obtain ⟨vs,rest,fz,g1,g2,g3,g4⟩:=hrow
   refine ⟨vs,rest,fz,by simpa [Env.add] using g1,g2.mono (fun _ h=>.inl h) ha,fun ho=>by simp at ho,fun _=>?_,g4⟩
   obtain ⟨s,s1,s2⟩:=g3
   exact ⟨s,s1,by simpa [Env.add] using s2⟩
  ·obtain ⟨q1,q2⟩:=sub k _ hk' e1
   refine ((hr.row k _ _ _ q1).mono (fun _ h=>.inl h) ha (hr.dom k _ q1).1).world ?_
   rw [(ha k (hr.dom k _ q1).1).1]
   exact hk.other _ (hne k _ q1 q2)
 ·by_cases e1:k = nm
  ·subst e1; rw [at_] at hk'; simp at hk'
  ·obtain ⟨q1,q2⟩:=sub k _ hk' e1
   rw [(ha k (hr.dom k _ q1).1).1,hk.other _ (hne k _ q1 q2)]
   exact hr.iter k _ _ q1
 ·by_cases e1:k = nm
  ·subst e1; exact ⟨.inr rfl,by simpa [Env.add] using (hr.dom b _ hb).2⟩
  ·obtain ⟨q1,q2⟩:=sub k _ hk' e1
   exact ⟨.inl (hr.dom k _ q1).1,by rw [(ha k (hr.dom k _ q1).1).1]; exact (hr.dom k _ q1).2⟩
 ·by_cases e1:k = nm <;> by_cases e2:k' = nm
  ·rw [e1,e2]
  ·exfalso
   obtain ⟨q1,q2⟩:=sub k' _ hk2 e2
   rw [(ha k' (hr.dom k' _ q1).1).1,e1] at he
   simp only [Env.add,if_true] at he
   exact hne k' _ q1 q2 he.symm
  ·exfalso
   obtain ⟨q1,q2⟩:=sub k _ hk1 e1
   rw [(ha k (hr.dom k _ q1).1).1,e2] at he
   simp only [Env.add,if_true] at he
   exact hne k _ q1 q2 he
  ·obtain ⟨q1,q2⟩:=sub k _ hk1 e1
   obtain ⟨p1,p2⟩:=sub k' _ hk2 e2
   rw [(ha k (hr.dom k _ q1).1).1,(ha k' (hr.dom k' _ p1).1).1] at he
   exact hr.inj k k' _ _ q1 p1 he
theorem newBlk_set {nm:Nat} {x:Blk} (hs:newBlk h nm x = some h'):h.set 40 nm (some x) = some h':=by
 unfold newBlk at hs
 split at hs
 ·simp at hs
 ·exact hs
/-- The cells that a slice reads. -/
theorem firstCells_row {b off n size len cap:Nat} {cells r l:List AV} {vs rest:List Value} {e:TypeId} {fz:Nat × Nat} (hv:RelL N E cells vs) (hd:dropN off cells = some r) (ht:takeN (n * size) r = some l)
 (hg:w.heap[E.ρ b]? = some (.cells (vs ++ rest).toArray e fz)) :
 RelL N E l ((vs.drop off).take (n * size)) ∧ (Builtin.firstCells size n (.slice (some ⟨E.ρ b,off,none⟩) len cap)).run P w = .ok ((vs.drop off).take (n * size)).toArray w:=by
 obtain ⟨d1,d2⟩:=dropN_eq _ _ _ hd
 obtain ⟨t1,t2⟩:=takeN_eq _ _ _ ht
 subst d1; subst t1
 have hl:=hv.length
 refine ⟨(hv.drop off).take _,?_⟩
 refine run_firstCells_some w size n ⟨E.ρ b,off,none⟩ len cap _ ?_ (fun j v hj=>?_)
 ·simp at t2 ⊢; omega
 ·rw [addr_add,cell_of_row hg]
  have hjn:j < n * size:=by
   have:=(List.getElem?_eq_some_iff.1 hj).1
   simp at this
   omega
  rw [List.getElem?_take,if_pos hjn,List.getElem?_drop] at hj
  have:off + j < vs.length:=(List.getElem?_eq_some_iff.1 hj).1
  simp [List.getElem?_append_left this,hj]
theorem zeroCells_size (z:Array Value) (n:Nat):(Builtin.zeroCells z n).size = n * z.size:=by simp [Builtin.zeroCells]
theorem append_does {nm:Nat} {st xt ty e:TypeId} {argTypes:Array TypeId} {i:TypeInfo} {z:Value} {dx:TypeDesc} {s:AV} {sv x:Value} {len:Nat} {new:List AV} {news:List Value} {ov:Option AV}
 (hr:HRel P N E w0 h w) (hn:¬ N nm)
 (h0:argTypes[0]? = some st) (h1:argTypes[1]? = some xt) (hu:P.underlying st = some (.slice e)) (hx:P.underlying xt = some dx) (hi:P.info? e = some i) (hz:i.zero = some z) (hzs:z.cells.size = i.size)
 (hsrc:Src P w i z dx x len news) (hs:Rel N E s sv) (hnew:RelL N E new news) (hone:new.all AV.one = true) (hnl:new.length = len * i.size)
 (hA:appendA h nm e i.size i.bytes s len new = some (ov,h')) :
 Does P N E w0 w nm (do pure (Next.value (← Builtin.append_ argTypes ty #[sv,x]))) ov h':=by
 have hsz:sizeT P e = some i.size:=by simp [sizeT,hi]
 have hnews:=hnew.length
 unfold appendA at hA
 split at hA
 ·-- nil
  have hv:=hs.lit_eq
  subst hv
  split at hA
  ·simp only [Option.some.injEq,Prod.mk.injEq] at hA
   obtain ⟨rfl,rfl⟩:=hA
   exact Does.same (run_v (run_append_nil0 h0 h1 hu hx hi hsrc)) hs hr
  ·rename_i hlen0
   split at hA
   ·rename_i hb
    simp only [Bool.and_eq_true] at hb
    have hb1:=ble_iff.1 hb.1; have hb2:=ble_iff.1 hb.2
    split at hA
    ·rename_i h2 hset
     simp only [Option.some.injEq,Prod.mk.injEq] at hA
     obtain ⟨rfl,rfl⟩:=hA
     have hl0:len ≠ 0:=fun e=>hlen0 e
     obtain ⟨c,w',c1,c2,c3,c4,c5,c6⟩:=run_append_out (P:=P) (ty:=ty) (olds:=[]) h0 h1 hu hx hi hz hsrc (rfl:Value.slice none 0 0 = .slice none 0 0) (by omega) (by simpa using hb1) (by omega)
      (fun w' _=>by simp [Builtin.firstCells])
     refine ⟨plus N nm,E.add nm w.heap.size c default,_,w',run_v c2,⟨_,rfl,?_⟩,fun _ h=>.inl h,fun _ h=>h,Env.add_agree hn,?_⟩
     ·have:=Rel.sl_of (N:=plus N nm) (E:=E.add nm w.heap.size c default) (b:=nm) (.inr rfl) 0 len (.kap 0)
      simpa [Env.add,Cap.val] using this
     ·refine hr.new hn (newBlk_set hset) (fun cells' e' opn hq=>?_) (fun s pos hq=>by simp at hq) c3 c4 c5 c6
      simp only [Blk.row.injEq] at hq
      obtain ⟨rfl,rfl,rfl⟩:=hq
      refine ⟨news,(Builtin.zeroCells z.cells (c - (0 + len))).toList,(0,0),by simp,hnew,fun ho=>by simp at ho,fun _=>⟨_,hsz,?_⟩,fun i _ q=>Nat.not_lt_zero _ q.2⟩
      simp only [List.length_append,Array.length_toList,zeroCells_size,hzs,hnews,hnl,Nat.zero_add]
      rw [← Nat.add_mul]
      congr 1
      omega
    ·simp at hA
   ·simp at hA
 ·-- a slice of the call's own
  rename_i b off slen c
  split at hA
  ·rename_i cells e' opn need hb hneed
   simp only [fN_eq,Option.some.injEq] at hneed
   subst hneed
   split at hA
   ·simp at hA
   ·rename_i he
    have he:=beq_iff.1 he
    subst he
    have hv:=hs.sl_inv
    subst hv
    obtain ⟨vs,rest,fz,g1,g2,g3,g4,g5⟩:=hr.row b _ _ _ hb
    have hvl:=g2.length
    split at hA
    ·-- the capacity is known
     rename_i cap
     split at hA
     ·rename_i hfit
      have hfit:=ble_iff.1 hfit
      split at hA
      ·rename_i cells' hov
       split at hA
       ·rename_i h2 hset
        simp only [Option.some.injEq,Prod.mk.injEq] at hA
        obtain ⟨rfl,rfl⟩:=hA
        obtain ⟨w',r1,r2⟩:=write_row (P:=P) hr hnew hb hone hov hset
        exact Does.same (run_v (run_append_in h0 h1 hu hx hi hz hsrc rfl hfit r1)) (hs.sl_sl _ _ _) r2
       ·simp at hA
      ·simp at hA
     ·rename_i hfit
      have hfit:¬ (slen + len ≤ cap):=fun q=>by rw [ble_iff.2 q] at hfit; cases hfit
      split at hA
      ·rename_i r hd
       split at hA
       ·rename_i old hto hbb
        simp only [Bool.and_eq_true] at hbb
        have hb1:=ble_iff.1 hbb.1; have hb2:=ble_iff.1 hbb.2
        split at hA
        ·rename_i h2 hset
         simp only [Option.some.injEq,Prod.mk.injEq] at hA
         obtain ⟨rfl,rfl⟩:=hA
         obtain ⟨k1,-⟩:=firstCells_row (P:=P) (len:=slen) (cap:=cap) g2 hd hto g1
         obtain ⟨c,w',c1,c2,c3,c4,c5,c6⟩:=run_append_out (P:=P) (ty:=ty) (olds:=(vs.drop off).take (slen * i.size)) h0 h1 hu hx hi hz hsrc rfl (by show cap < slen + len; omega) hb1 (by omega)
          (fun w' hw'=>(firstCells_row (P:=P) g2 hd hto (by rw [hw']; exact g1)).2)
         refine ⟨plus N nm,E.add nm w.heap.size c default,_,w',run_v c2,⟨_,rfl,?_⟩,fun _ h=>.inl h,fun _ h=>h,Env.add_agree hn,?_⟩
         ·have:=Rel.sl_of (N:=plus N nm) (E:=E.add nm w.heap.size c default) (b:=nm) (.inr rfl) 0 (slen + len) (.kap 0)
          simpa [Env.add,Cap.val] using this
         ·refine hr.new hn (newBlk_set hset) (fun cells' e' opn hq=>?_) (fun s pos hq=>by simp at hq) c3 c4 c5 c6
          simp only [Blk.row.injEq] at hq
          obtain ⟨rfl,rfl,rfl⟩:=hq
          refine ⟨_,_,(0,0),rfl,k1.append hnew,fun ho=>by simp at ho,fun _=>⟨_,hsz,?_⟩,fun i _ q=>Nat.not_lt_zero _ q.2⟩
          have l1:=k1.length
          have l2:=(takeN_eq _ _ _ hto)
          have l3:old.length = slen * i.size:=by rw [l2.1]; simp; omega
          simp only [List.length_append,Array.length_toList,zeroCells_size,hzs,hnews,hnl,l1,l3]
          rw [← Nat.add_mul,← Nat.add_mul]
          congr 1
          omega
        ·simp at hA
       ·simp at hA
      ·simp at hA
    ·-- the capacity is not known
     split at hA
     ·rename_i old hoff hto hbb
      have hoff:=beq_iff.1 hoff
      subst hoff
      simp only [Bool.and_eq_true] at hbb
      have hb1:=ble_iff.1 hbb.1; have hb2:=ble_iff.1 hbb.2
      split at hA
      ·rename_i h1' hset1
       split at hA
       ·rename_i h2 hset
        simp only [Option.some.injEq,Prod.mk.injEq] at hA
        obtain ⟨rfl,rfl⟩:=hA
        have hd:dropN 0 cells = some cells:=by simp [dropN]
        obtain ⟨k1,-⟩:=firstCells_row (P:=P) (len:=slen) (cap:=0) g2 hd hto g1
        have l1:=k1.length
        have l2:=(takeN_eq _ _ _ hto)
        have l3:old.length = slen * i.size:=by rw [l2.1]; simp; omega
        obtain ⟨s',s1,s2⟩:=g4 rfl
        rw [hsz] at s1
        obtain rfl:=Option.some.inj s1
        by_cases hfit:slen + len ≤ E.κ b
        ·-- in place
         have hroom:slen * i.size + news.length ≤ (vs ++ rest).length:=by
          rw [s2,hnews,hnl,← Nat.add_mul]; exact Nat.mul_le_mul_right _ hfit
         obtain ⟨w',r1,r2,r3⟩:=run_store_row (P:=P) (o:=slen * i.size) news 0 (vs ++ rest) w g1 (by simpa using hroom) g5 (RelL.ones hnew hone)
         refine ⟨plus N nm,E.add nm (E.ρ b) (E.κ b) default,_,w',run_v (run_append_in h0 h1 hu hx hi hz hsrc rfl (by simpa [Cap.val] using hfit) (by simpa using r1)),⟨_,rfl,?_⟩,
          fun _ h=>.inl h,fun _ h=>h,Env.add_agree hn,?_⟩
         ·have:=Rel.sl_of (N:=plus N nm) (E:=E.add nm (E.ρ b) (E.κ b) default) (b:=nm) (.inr rfl) 0 (slen + len) (.kap 0)
          simpa [Env.add,Cap.val] using this
         ·refine hr.rename hb hn hset1 (newBlk_set hset) r3 ⟨vs.take (slen * i.size) ++ news,(vs ++ rest).drop (slen * i.size + news.length),fz,?_,?_,⟨_,hsz,?_⟩,fun k hk=>g5 k ?_⟩
          ·rw [r2]
           congr 2
           simp only [Nat.add_zero]
           have:slen * i.size ≤ vs.length:=by rw [hvl]; exact l2.2
           rw [List.take_append_of_le_length this]
          ·have:=(g2.take (slen * i.size)).append hnew
           rw [l2.1]; exact this
          ·rw [← s2]
           have:slen * i.size ≤ vs.length:=by rw [hvl]; exact l2.2
           simp at hroom ⊢
           omega
          ·have:slen * i.size ≤ vs.length:=by rw [hvl]; exact l2.2
           simp at hk hroom ⊢
           omega
        ·-- a new array
         obtain ⟨c,w',c1,c2,c3,c4,c5,c6⟩:=run_append_out (P:=P) (ty:=ty) (olds:=(vs.drop 0).take (slen * i.size)) h0 h1 hu hx hi hz hsrc rfl (by show E.κ b - 0 < slen + len; omega) hb1 (by omega)
          (fun w' hw'=>(firstCells_row (P:=P) g2 hd hto (by rw [hw']; exact g1)).2)
         refine ⟨plus N nm,E.add nm w.heap.size c default,_,w',run_v c2,⟨_,rfl,?_⟩,fun _ h=>.inl h,fun _ h=>h,Env.add_agree hn,?_⟩
         ·have:=Rel.sl_of (N:=plus N nm) (E:=E.add nm w.heap.size c default) (b:=nm) (.inr rfl) 0 (slen + len) (.kap 0)
          simpa [Env.add,Cap.val] using this
         ·refine (hr.kill hset1).new hn (newBlk_set hset) (fun cells' e' opn hq=>?_) (fun s pos hq=>by simp at hq) c3 c4 c5 c6
          simp only [Blk.row.injEq] at hq
          obtain ⟨rfl,rfl,rfl⟩:=hq
          refine ⟨_,_,(0,0),rfl,k1.append hnew,fun ho=>by simp at ho,fun _=>⟨_,hsz,?_⟩,fun i _ q=>Nat.not_lt_zero _ q.2⟩
          simp only [List.length_append,Array.length_toList,zeroCells_size,hzs,hnews,hnl,l1,l3]
          rw [← Nat.add_mul,← Nat.add_mul]
          congr 1
          omega
       ·simp at hA
      ·simp at hA
     ·simp at hA
    ·simp at hA
  ·simp at hA
 ·simp at hA
end
end Go.Sym
namespace Go.Sym
open Go RowKit
section
variable {P:Program} {G:Nat → Option (List Value)} {N N':Nat → Prop} {E E':Env} {w0 w w':World} {h h':Hp} {sz:Nat} {fr:Fr} {a:Act}
theorem src_sound {size n:Nat} {x:AV} {xv:Value} {cs:List AV} (hr:HRel P N E w0 h w) (hx:Rel N E x xv) (hs:srcCells h size n x = some cs) :
 ∃ vs,RelL N E cs vs ∧ ∀ w',w'.heap = w.heap → (Builtin.firstCells size n xv).run P w' = .ok vs.toArray w':=by
 unfold srcCells at hs
 split at hs
 ·rename_i b off len c
  split at hs
  ·rename_i cells e opn hb
   split at hs
   ·rename_i r hd
    obtain ⟨vs,rest,fz,g1,g2,-⟩:=hr.row b _ _ _ hb
    have hv:=hx.sl_inv
    subst hv
    exact ⟨_,(firstCells_row (P:=P) (len:=len) (cap:=c.val E b) g2 hd hs g1).1,fun w' hw'=>(firstCells_row (P:=P) g2 hd hs (by rw [hw']; exact g1)).2⟩
   ·simp at hs
  ·simp at hs
 ·have hv:=hx.lit_eq
  subst hv
  split at hs
  ·simp only [Option.some.injEq] at hs
   subst hs
   exact ⟨[],.nil,fun w' _=>by simp [Builtin.firstCells]⟩
  ·simp at hs
 ·have hv:=hx.es_inv
  subst hv
  split at hs
  ·simp only [Option.some.injEq] at hs
   subst hs
   exact ⟨[],.nil,fun w' _=>by simp [Builtin.firstCells,loadCells,loadCellsFrom]⟩
  ·simp at hs
 ·rename_i s
  have hv:=hx.lit_eq
  subst hv
  split at hs
  ·rename_i l ht
   simp only [Option.some.injEq] at hs
   subst hs
   obtain ⟨t1,t2⟩:=takeN_eq _ _ _ ht
   subst t1
   refine ⟨(s.data.toList.take n).map fun b=>.int .u8 b.toNat,?_,fun w' _=>?_⟩
   ·have:=RelL.lits (N:=N) (E:=E) ((s.data.toList.take n).map fun b=>Value.int .u8 b.toNat)
    simpa [Function.comp_def] using this
   ·simp only [Builtin.firstCells,Sem.run_pure]
    congr 1
    apply Array.ext'
    simp [ByteArray.data_extract]
  ·simp at hs
 ·simp at hs
theorem lenA_sound {x:AV} {xv:Value} {n:Nat} (hx:Rel N E x xv) (hl:lenA x = some n) (w:World):(Builtin.lenOf xv).run P w = .ok n w:=by
 unfold lenA at hl
 split at hl
 ·simp only [Option.some.injEq] at hl; subst hl; rw [hx.sl_inv]; rfl
 ·simp only [Option.some.injEq] at hl; subst hl; rw [hx.lit_eq]; rfl
 ·simp only [Option.some.injEq] at hl; subst hl; rw [hx.es_inv]; rfl
 ·rw [fN_eq] at hl
  simp only [Option.some.injEq] at hl; subst hl; rw [hx.lit_eq]
  simp only [Array.length_toList]
  rfl
 ·simp at hl
theorem bytesA_eq:∀ (cs:List AV) (bs:List UInt8),bytesA cs = some bs → cs = bs.map fun b=>.lit (.int .u8 (b.toNat:Int))
 | [],bs,h=>by simp [bytesA] at h; simp [h]
 | c :: cs, bs, h => by
   unfold bytesA at h
   split at h
   ·simp_all
   ·rename_i n l heq
    simp only [List.cons.injEq] at heq
    obtain ⟨rfl,rfl⟩:=heq
    split at h
    ·rename_i r hn hr
     simp only [Option.some.injEq] at h
     subst h
     have:=bytesA_eq _ _ hr
     have hn:=blt_iff.1 hn
     simp [this,UInt8.toNat_ofNat',Nat.mod_eq_of_lt hn]
    ·simp at h
   ·simp at h
theorem shape_row {g:Nat} {c:Array Value} {e:TypeId} {fz:Nat × Nat} (hg:w.heap[g]? = some (.cells c e fz)):w.shape? g = some (e,c.size):=by
 simp [World.shape?,hg]
theorem copy_does {nm:Nat} {dt elem ty:TypeId} {argTypes:Array TypeId} {d x:Operand} {b off dlen size len:Nat} {c:Cap} {xa:AV} {new cells cells':List AV} {e:TypeId} {opn:Bool}
 (hF:FRel N E sz fr a) (hr:HRel P N E w0 h w) (h0:argTypes[0]? = some dt) (hu:P.underlying dt = some (.slice elem)) (hd:aeval fr d = some (.sl b off dlen c)) (hx:aeval fr x = some xa)
 (hs:sizeT P elem = some size) (hl:lenA xa = some len) (hsrc:srcCells h size (Nat.min len dlen) xa = some new) (hb:h.get b = some (.row cells e opn)) (hone:new.all AV.one = true)
 (hov:over cells off new = some cells') (hset:h.set 40 b (some (.row cells' e opn)) = some h') :
 Does P N E w0 w nm (do pure (Next.value (← Builtin.copy_ argTypes ty #[a.eval d,a.eval x]))) (some (.lit (.int .i64 (.ofNat (Nat.min len dlen))))) h':=by
 obtain ⟨vs,k1,k2⟩:=src_sound (P:=P) hr (hF.eval hx) hsrc
 obtain ⟨w',r1,r2⟩:=write_row (P:=P) hr k1 hb hone hov hset
 refine Does.same (v:=.int .i64 (Nat.min len dlen:Nat)) (run_v ?_) (Rel.lit _) r2
 unfold Builtin.copy_
 rw [(hF.eval hd).sl_inv]
 simp [h0,run_under hu,lenA_sound (P:=P) (hF.eval hx) hl,run_size hs,k2 w rfl,r1,goInt]
theorem unsafeString_does {nm:Nat} {pt it ty elem:TypeId} {p l:Operand} {b k:Nat} {cells cs:List AV} {bs:List UInt8} {opn:Bool}
 (hF:FRel N E sz fr a) (hr:HRel P N E w0 h w) (hu:P.underlying pt = some (.pointer elem)) (hp:aeval fr p = some (.ptr b 0)) (hl:aeval fr l = some (.lit (.int .i64 (.ofNat k))))
 (hs:sizeT P elem = some 1) (hb:h.get b = some (.row cells elem opn)) (hk1:1 ≤ k) (hk2:k ≤ 1000000000) (ht:takeN k cells = some cs) (hbs:bytesA cs = some bs) (hset:h.set 40 b none = some h') :
 Does P N E w0 w nm (do pure (Next.value (← Builtin.unsafeString_ #[pt,it] ty #[a.eval p,a.eval l]))) (some (.lit (.string ⟨⟨bs⟩⟩))) h':=by
 obtain ⟨vs,rest,fz,g1,g2,-⟩:=hr.row b _ _ _ hb
 obtain ⟨t1,t2⟩:=takeN_eq _ _ _ ht
 have hcs:=bytesA_eq _ _ hbs
 have hvl:=g2.length
 have hbl:bs.length = k:=by
  have:=congrArg List.length hcs
  rw [t1] at this
  simp at this
  omega
 have hc:P.cellsOf elem = 1:=by
  obtain ⟨i,i1,i2⟩:=sizeT_info hs
  simp [Program.cellsOf,i1,i2]
 have hv:vs.take k = bs.map fun b=>Value.int .u8 (b.toNat:Int):=by
  have h1:=(g2.take k).now
  rw [← t1,hcs] at h1
  rw [← h1,concL_map]
  simp [conc]
 have hrun:=Lib.run_unsafeString_row (P:=P) w pt it ty elem hu hc (E.ρ b) _ (shape_row g1) bs (by intro e; rw [e] at hbl; simp at hbl; omega) (by simp; omega) (by omega) (fun j x hj=>by
  rw [addr_add,cell_of_row g1]
  have hjl:j < bs.length:=(List.getElem?_eq_some_iff.1 hj).1
  have:(vs.take k)[j]? = some (.int .u8 (x.toNat:Int)):=by rw [hv]; simp [hj]
  rw [List.getElem?_take,if_pos (by omega)] at this
  have hjv:j < vs.length:=(List.getElem?_eq_some_iff.1 this).1
  simp [List.getElem?_append_left hjv,this])
 refine Does.same (v:=.string ⟨⟨bs⟩⟩) (run_v ?_) (Rel.lit _) (?_:HRel P N E w0 h' (w.freeze ⟨E.ρ b,0,none⟩ bs.length))
 ·rw [(hF.eval hp).ptr_inv,(hF.eval hl).lit_eq]
  have e1:(Int.ofNat k) = ((bs.length:Nat):Int):=by rw [hbl]; rfl
  rw [e1]
  exact hrun
 ·have hk:=hr.kill hset
  have hnb:∀ k' y,h'.get k' = some y → E.ρ k' ≠ E.ρ b:=fun k' y hk' he=>by
   by_cases e2:k' = b
   ·subst e2; rw [T.get_set_eq hset] at hk'; cases hk'
   ·rw [T.get_set_ne hset e2] at hk'
    exact e2 (hr.inj k' b _ _ hk' hb he)
  have hoth:∀ i,i ≠ E.ρ b → (w.freeze ⟨E.ρ b,0,none⟩ bs.length).heap[i]? = w.heap[i]?:=fun i hi=>by
   unfold World.freeze
   split
   ·rfl
   ·simp only [Array.getElem?_modify]
    rw [if_neg (by omega)]
  exact ⟨fun k' cells e opn hk'=>(hk.row k' _ _ _ hk').world (hoth _ (hnb k' _ hk')),fun k' s pos hk'=>by rw [hoth _ (hnb k' _ hk')]; exact hk.iter k' _ _ hk',
   hk.dom,hk.inj,Lib.below_freeze hr.below (hr.dom b _ hb).2 _⟩
theorem liesAt_self {e:TypeId} {size:Nat} (hc:P.cellsOf e = size) (h1:1 ≤ size):liesAt P P.depth e (size / P.cellsOf e) 0 e 1 = true:=by
 have hd:P.depth = (2 * (P.types.size + Made.depth) + 1) + 1:=rfl
 rw [hd]
 simp only [liesAt,Bool.or_eq_true]
 left
 rw [hd]
 have:size / size = 1:=Nat.div_self h1
 have h0:size ≠ 0:=by omega
 simp [rowAt,hc,sameLayout,this,h0]
theorem toUnsafe_does {nm:Nat} {s d t:TypeId} {x:Operand} {b off k:Nat} {cells:List AV} {e:TypeId} {opn:Bool} (hF:FRel N E sz fr a) (hr:HRel P N E w0 h w)
 (hs:P.underlying s = some (.pointer t)) (hd:P.underlying d = some .unsafePointer) (hx:aeval fr x = some (.ptr b off)) (hb:h.get b = some (.row cells e opn)) (hz:sizeT P t = some (k + 1)) (ho:off < cells.length) :
 Does P N E w0 w nm (do pure (Next.value (← convert s d (a.eval x)))) (some (.ptr b off)) h:=by
 obtain ⟨vs,rest,fz,g1,g2,-⟩:=hr.row b _ _ _ hb
 obtain ⟨i,i1,i2⟩:=sizeT_info hz
 have hvl:=g2.length
 have r:=hF.eval hx
 refine Does.same (run_v ?_) r hr
 rw [r.ptr_inv]
 exact Lib.run_to_unsafe w ⟨E.ρ b,off,none⟩ hs hd i1 (by omega) (shape_row g1) (by simp; omega)
theorem fromUnsafe_does {nm:Nat} {s d u:TypeId} {x:Operand} {b size:Nat} {cells:List AV} (hF:FRel N E sz fr a) (hr:HRel P N E w0 h w)
 (hs:P.underlying s = some .unsafePointer) (hd:P.underlying d = some (.pointer u)) (hx:aeval fr x = some (.ptr b 0)) (hb:h.get b = some (.row cells u false)) (hz:sizeT P u = some size) (hl:cells.length = size) (h1:1 ≤ size) :
 Does P N E w0 w nm (do pure (Next.value (← convert s d (a.eval x)))) (some (.ptr b 0)) h:=by
 obtain ⟨vs,rest,fz,g1,g2,g3,-⟩:=hr.row b _ _ _ hb
 obtain ⟨i,i1,i2⟩:=sizeT_info hz
 have hvl:=g2.length
 have r:=hF.eval hx
 refine Does.same (run_v ?_) r hr
 rw [r.ptr_inv]
 have hc:P.cellsOf u = size:=by simp [Program.cellsOf,i1,i2]
 refine Lib.run_from_unsafe w ⟨E.ρ b,0,none⟩ hs hd i1 (shape_row g1) ?_
 have:(vs ++ rest).toArray.size = size:=by rw [g3 rfl]; simp; omega
 rw [this]
 exact liesAt_self hc h1
theorem toString_does {nm:Nat} {s d e:TypeId} {x:Operand} {b off len:Nat} {c:Cap} {cells r cs:List AV} {el:TypeId} {opn:Bool} {bs:List UInt8} (hF:FRel N E sz fr a) (hr:HRel P N E w0 h w)
 (hs:P.underlying s = some (.slice e)) (hd:P.underlying d = some .string) (he:P.underlying e = some (.int .u8)) (hx:aeval fr x = some (.sl b off len c)) (hb:h.get b = some (.row cells el opn))
 (hdr:dropN off cells = some r) (ht:takeN len r = some cs) (hbs:bytesA cs = some bs) :
 Does P N E w0 w nm (do pure (Next.value (← convert s d (a.eval x)))) (some (.lit (.string ⟨⟨bs⟩⟩))) h:=by
 obtain ⟨vs,rest,fz,g1,g2,-⟩:=hr.row b _ _ _ hb
 have hcs:=bytesA_eq _ _ hbs
 obtain ⟨k1,k2⟩:=firstCells_row (P:=P) (n:=len) (size:=1) (len:=len) (cap:=0) g2 hdr (by simpa using ht) g1
 refine Does.same (run_v ?_) (Rel.lit _) hr
 rw [(hF.eval hx).sl_inv]
 have e1:=k1.now
 rw [hcs,concL_map] at e1
 simp only [List.map_map,Nat.mul_one] at e1
 have hlen:bs.length = len:=by
  have:=(takeN_eq _ _ _ ht)
  have l:=congrArg List.length hcs
  rw [this.1] at l
  simp at l
  have:=this.2
  omega
 have hl:(loadCells ⟨E.ρ b,off,none⟩ len).run P w = .ok ((bs.map fun b=>(b.toNat:Int)).map (Value.int .u8)).toArray w:=by
  simp only [Builtin.firstCells,Nat.mul_one] at k2
  rw [k2]
  congr 2
  rw [← e1]
  simp [Function.comp_def,conc]
 have hrun:=run_bytesToString (P:=P) w ⟨E.ρ b,off,none⟩ len (c.val E b) _ hl
 have hfold:∀ (l:List UInt8) (acc:ByteArray),(l.map fun b=>(b.toNat:Int)).foldl (fun r n=>r.push (UInt8.ofNat n.toNat)) acc = ⟨acc.data ++ l.toArray⟩:=by
  intro l
  induction l with
  | nil=>intro acc; simp
  | cons x l ih =>
    intro acc
    simp only [List.map_cons,List.foldl_cons]
    rw [ih]
    apply ByteArray.ext
    simp [ByteArray.push]
 rw [hfold] at hrun
 have:(⟨ByteArray.empty.data ++ bs.toArray⟩:ByteArray) = ⟨⟨bs⟩⟩:=by
  apply ByteArray.ext
  simp
 rw [this] at hrun
 simp [convert,run_under hs,run_under hd,run_under he,hrun]
theorem toBytes_does {nm:Nat} {s d e:TypeId} {x:Operand} {bs:List UInt8} (hF:FRel N E sz fr a) (hr:HRel P N E w0 h w) (hn:¬ N nm)
 (hs:P.underlying s = some .string) (hd:P.underlying d = some (.slice e)) (he:P.underlying e = some (.int .u8)) (hz:sizeT P e = some 1) (hx:aeval fr x = some (.lit (.string ⟨⟨bs⟩⟩)))
 (hset:newBlk h nm (.row (bs.map fun b=>.lit (.int .u8 b.toNat)) e true) = some h') (hne:bs ≠ []) :
 Does P N E w0 w nm (do pure (Next.value (← convert s d (a.eval x)))) (some (.sl nm 0 bs.length (.kap 0))) h':=by
 rcases bs with _ | ⟨b0,bs⟩
 ·exact absurd rfl hne
 let q:Question:=.appendCap (b0 :: bs).length 0 e
 let c:=q.cut (w.tape w.drawn q)
 have hc:(b0 :: bs).length ≤ c:=by simp [c,q,Question.cut]
 let cells:Array Value:=((b0 :: bs).map fun b=>Value.int .u8 (b.toNat:Int)).toArray ++ Array.replicate (c - (b0 :: bs).length) (.int .u8 0)
 have hsize:cells.size = c:=by simp [cells]; simp at hc; omega
 refine ⟨plus N nm,E.add nm w.heap.size c default,.value (.slice (some ⟨w.heap.size,0,none⟩) (b0 :: bs).length c),{ w.drew with heap:=w.heap.push (.cells cells e (c,c + 1)) },run_v ?_,⟨_,rfl,?_⟩,
  fun _ h=>.inl h,fun _ h=>h,Env.add_agree hn,?_⟩
 ·rw [(hF.eval hx).lit_eq]
  have hsz:(⟨⟨b0 :: bs⟩⟩:ByteArray).size = (b0 :: bs).length:=rfl
  have hrun:(Conv.stringToBytes e ⟨⟨b0 :: bs⟩⟩).run P w = .ok (.slice (some ⟨w.heap.size,0,none⟩) (b0 :: bs).length c) { w.drew with heap:=w.heap.push (.cells cells e (c,c + 1)) }:=by
   have hd:((⟨⟨b0 :: bs⟩⟩:ByteArray).data.map fun b=>Value.int .u8 (b.toNat:Int)) = ((b0 :: bs).map fun b=>Value.int .u8 (b.toNat:Int)).toArray:=by
    apply Array.ext'; simp
   unfold Conv.stringToBytes
   rw [Sem.run_bind,run_choose]
   rw [if_neg (by simp [Question.forced])]
   simp only [Result.andThen_ok,hsz]
   rw [Sem.run_bind]
   simp only [newRow]
   rw [Sem.run_bind,run_newObj]
   simp only [Result.andThen_ok,Sem.run_pure]
   rw [hd]
   rw [Sem.run_bind]
   unfold markStringish
   rw [Sem.run_bind,run_shape]
   simp only [Result.andThen_ok]
   have hshape:(World.shape? { w.drew with heap:=w.heap.push (.cells cells e) } w.heap.size) = some (e,c):=by
    simp [World.shape?,hsize]
   show ((match World.shape? { w.drew with heap:=w.heap.push (.cells cells e) } w.heap.size with
    | some (_,n)=>freeze { block:=w.heap.size,off:=n } 1
    | x=>pure ()).run P _).andThen _ = _
   rw [hshape]
   simp only [run_freeze,Result.andThen_ok,Sem.run_pure]
   congr 1
   unfold World.freeze
   simp only [Nat.one_ne_zero,if_false]
   congr 1
   apply Array.ext
   ·simp
   ·intro i h1 h2
    simp only [Array.getElem_modify]
    split
    ·rename_i hi; subst hi; simp; rfl
    ·rename_i hi
     have:i < w.heap.size:=by simp at h2; omega
     simp [Array.getElem_push_lt this]
  simp [convert,run_under hs,run_under hd,run_under he,hrun]
 ·have:=Rel.sl_of (N:=plus N nm) (E:=E.add nm w.heap.size c default) (b:=nm) (.inr rfl) 0 (b0 :: bs).length (.kap 0)
  simpa [Env.add,Cap.val] using this
 ·refine hr.new hn (newBlk_set hset) (fun cells' e' opn hq=>?_) (fun s pos hq=>by simp at hq) rfl rfl rfl rfl
  simp only [Blk.row.injEq] at hq
  obtain ⟨rfl,rfl,rfl⟩:=hq
  refine ⟨(b0 :: bs).map fun b=>Value.int .u8 (b.toNat:Int),List.replicate (c - (b0 :: bs).length) (.int .u8 0),(c,c + 1),?_,?_,fun ho=>by simp at ho,fun _=>⟨1,hz,?_⟩,fun i hi q=>?_⟩
  ·congr 1
   apply Array.ext'
   simp [cells]
  ·have:=RelL.lits (N:=N) (E:=E) ((b0 :: bs).map fun b=>Value.int .u8 (b.toNat:Int))
   simpa [Function.comp_def] using this
  ·simp at hc ⊢; omega
  ·simp at hi hc q; omega
theorem range_does {nm:Nat} {t:TypeId} {x:Operand} {s:ByteArray} (hF:FRel N E sz fr a) (hr:HRel P N E w0 h w) (hn:¬ N nm) (hu:P.underlying t = some .string) (hx:aeval fr x = some (.lit (.string s)))
 (hset:newBlk h nm (.iter s 0) = some h'):Does P N E w0 w nm (do pure (Next.value (← Instr.range t (a.eval x)))) (some (.ptr nm 0)) h':=by
 refine ⟨plus N nm,E.add nm w.heap.size 0 default,.value (.pointer (some ⟨w.heap.size,0,none⟩)),_,run_v (by rw [(hF.eval hx).lit_eq]; exact run_range_string w t s hu),⟨_,rfl,ptr_new (by simp [Env.add])⟩,
  fun _ h=>.inl h,fun _ h=>h,Env.add_agree hn,?_⟩
 exact hr.new hn (newBlk_set hset) (fun cells e opn hq=>by simp at hq) (fun s' pos hq=>by simp only [Blk.iter.injEq] at hq; obtain ⟨rfl,rfl⟩:=hq; rfl) rfl rfl rfl rfl
theorem next_does {nm:Nat} {ty:TypeId} {x:Operand} {b pos:Nat} {s:ByteArray} {ov:Option AV} (hF:FRel N E sz fr a) (hr:HRel P N E w0 h w) (hx:aeval fr x = some (.ptr b 0)) (hb:h.get b = some (.iter s pos))
 (hA : (match Nat.blt pos s.size with
     | true => match h.set 40 b (some (.iter s (pos + (Utf8.decode s pos).2))), fI (Utf8.decode s pos).1 with
       | some h',some c=>some (some (.tp [.lit (.bool true),.lit (.int .i64 (.ofNat pos)),.lit (.int .i32 c)]),h')
       | _,_=>none
     | false=>some (some (.tp [.lit (.bool false)]),h)) = some (ov,h')) :
 Does P N E w0 w nm (do pure (Next.value (← Instr.next (a.eval x) true ty))) ov h':=by
 have hi:=hr.iter b _ _ hb
 have hlt:E.ρ b < w.heap.size:=(Array.getElem?_eq_some_iff.1 hi).1
 split at hA
 ·rename_i hp
  have hp:=blt_iff.1 hp
  rw [fI_eq] at hA
  split at hA
  ·rename_i h2 c hset hc
   simp only [Option.some.injEq,Prod.mk.injEq] at hA hc
   obtain ⟨rfl,rfl⟩:=hA
   subst hc
   refine Does.same (v:=.tuple #[.bool true,.int .i64 pos,.int .i32 (Utf8.decode s pos).1]) (w':={ w with heap:=w.heap.setIfInBounds (E.ρ b) (.stringIter s (pos + (Utf8.decode s pos).2)) }) (run_v ?_) ?_ ?_
   ·rw [(hF.eval hx).ptr_inv]
    simp [Instr.next,getObj,setObj,Sem.run,hi,hp,goInt]
   ·have:=Rel.tp (RelL.lits (N:=N) (E:=E) [.bool true,.int .i64 pos,.int .i32 (Utf8.decode s pos).1])
    simpa using this
   ·refine hr.turn hb hset ⟨fun k hk=>?_,by simp,rfl,rfl,rfl⟩ (fun cells e opn hq=>by simp at hq) (fun s' pos' hq=>?_)
    ·simp only
     rw [Array.getElem?_setIfInBounds_ne (by omega)]
    ·simp only [Blk.iter.injEq] at hq
     obtain ⟨rfl,rfl⟩:=hq
     simp [hlt]
  ·simp at hA
 ·rename_i hp
  have hp:¬ pos < s.size:=fun q=>by rw [blt_iff.2 q] at hp; cases hp
  simp only [Option.some.injEq,Prod.mk.injEq] at hA
  obtain ⟨rfl,rfl⟩:=hA
  refine Does.same (v:=.tuple #[.bool false]) (run_v ?_) ?_ hr
  ·rw [(hF.eval hx).ptr_inv]
   simp [Instr.next,getObj,Sem.run,hi,hp]
  ·have:=Rel.tp (RelL.lits (N:=N) (E:=E) [.bool false])
   simpa using this
end
end Go.Sym
namespace Go.Sym
open Go RowKit
section
variable {P:Program} {G:Nat → Option (List Value)} {N N':Nat → Prop} {E E':Env} {w0 w w':World} {h h':Hp} {sz:Nat} {fr:Fr} {a:Act}
theorem sliceEs_does {nm:Nat} {t elem:TypeId} {x:Operand} {lo hi:Option Operand} {b off len d size l:Nat} {cells:List AV} (hF:FRel N E sz fr a) (hr:HRel P N E w0 h w) (hn:¬ N nm)
 (hx:aeval fr x = some (.sl b off len (.kap d))) (hu:P.underlying t = some (.slice elem)) (hs:sizeT P elem = some (size + 1)) (hl:boundA fr lo 0 = some l) (hk:boundA fr hi len = some l)
 (hb:h.get b = some (.row cells elem true)) (c1:off + l * (size + 1) ≤ cells.length) (c3:off = d * (size + 1)) :
 Does P N E w0 w nm (do pure (Next.value (← Instr.sliceAt t (a.eval x) (lo.map a.eval) (hi.map a.eval) (none.map a.eval)))) (some (.es nm)) h:=by
 obtain ⟨vs,rest,fz,g1,g2,-,g4,-⟩:=hr.row b _ _ _ hb
 obtain ⟨s,s1,s2⟩:=g4 rfl
 rw [hs] at s1
 obtain rfl:=Option.some.inj s1
 have hlen:=g2.length
 have hcap:d + l ≤ E.κ b:=by
  have h1:(d + l) * (size + 1) ≤ E.κ b * (size + 1):=by
   rw [← s2,Nat.add_mul]
   simp only [List.length_append]
   omega
  exact Nat.le_of_mul_le_mul_right h1 (Nat.succ_pos _)
 let A:Addr:=if E.κ b - d = l then ⟨E.ρ b,off,none⟩ else ⟨E.ρ b,off + l * (size + 1),none⟩
 refine ⟨plus N nm,E.add nm 0 (E.κ b - d - l) A,.value (.slice (some A) 0 (E.κ b - d - l)),w,run_v ?_,⟨_,rfl,?_⟩,fun _ h=>.inl h,fun _ h=>h,Env.add_agree hn,hr.mono (fun _ h=>.inl h) (Env.add_agree hn)⟩
 ·rw [(hF.eval hx).sl_inv]
  unfold Instr.sliceAt
  rw [Sem.run_bind,run_under hu]
  simp only [Result.andThen_ok]
  unfold Instr.slice
  rw [Sem.run_bind,run_under hu]
  simp only [Result.andThen_ok,Option.map_none,Cap.val]
  rw [Sem.run_bind,run_bounds hF true hl hk (Nat.le_refl _) (by omega)]
  simp only [Result.andThen_ok]
  rw [Sem.run_bind,run_size hs]
  simp only [Result.andThen_ok,Sem.run_pure,Option.map_some,addr_add,Nat.sub_self]
  by_cases e:E.κ b - d = l
  ·simp [A,e]
  ·simp [A,e]
 ·have:=Rel.es_of (N:=plus N nm) (E:=E.add nm 0 (E.κ b - d - l) A) (k:=nm) (.inr rfl)
  simpa [Env.add] using this
theorem builtin_sound (hF:FRel N E sz fr a) (hr:HRel P N E w0 h w) {nm:Nat} (hn:¬ N nm) {bi:Builtin} {args:Array Operand} {argTypes:Array TypeId} {type:TypeId} {cs:Array Bool} {ov:Option AV}
 (hA:builtinA P fr h nm bi argTypes args.toList = some (ov,h')):Does P N E w0 w nm (builtin bi argTypes type cs (args.map a.eval)) ov h':=by
 have hargs:∀ l,args.toList = l → args.map a.eval = (l.map a.eval).toArray:=fun l hl=>by
  apply Array.ext'
  simp [hl]
 unfold builtinA at hA
 split at hA
 ·-- append
  rename_i s x hl
  rw [hargs _ hl]
  split at hA
  ·rename_i sa xa st xt hs hx h0 h1
   have hxr:=hF.eval hx
   split at hA
   ·rename_i elem k hu hux
    split at hA
    ·rename_i i z kk l hi hz
     obtain ⟨i',z',hi',hz',rfl⟩:=zeroCells_eq hz
     rw [hi] at hi'
     obtain rfl:=Option.some.inj hi'
     split at hA
     ·simp at hA
     ·simp at hA
     ·rename_i szp lp hsz
      split at hA
      ·rename_i len c1 c2 c3 c4
       rw [fN_eq] at c4
       simp only [Option.some.injEq] at c4
       subst c4
       have c1:=ble_iff.1 c1; have c2:=ble_iff.1 c2; have c3:=beq_iff.1 c3
       split at hA
       ·rename_i hone
        have hrep:RelL N E (repN (lp + 1) (z'.cells.toList.map .lit)) (repN (lp + 1) z'.cells.toList):=by
         rw [← repN_map]; exact RelL.lits _
        have hzs:z'.cells.size = i.size:=by simpa using c3
        refine append_does hr hn h0 h1 hu hux hi hz' hzs (.inl ⟨⟨k,rfl⟩,⟨kk,hxr.lit_eq⟩,c1,c2,?_,?_⟩) (hF.eval hs) hrep ?_ ?_ hA
        ·rw [hsz]; exact Nat.mul_pos (by omega) (by omega)
        ·unfold Builtin.zeroCells; exact zeros_eq _ _
        ·have : ∀ n, (repN n (z'.cells.toList.map AV.lit)).all AV.one = true := by
          intro n
          induction n with
          | zero=>rfl
          | succ n ih=>simp only [repN,List.all_append,ih,hone,Bool.and_self]
         exact this (lp + 1)
        ·rw [repN_length]; simp [hzs]
       ·simp at hA
      ·simp at hA
    ·simp at hA
   ·rename_i elem dx hux' hu hux
    split at hA
    ·rename_i i z len hi hz hlen
     obtain ⟨i',z',hi',hz',rfl⟩:=zeroCells_eq hz
     rw [hi] at hi'
     obtain rfl:=Option.some.inj hi'
     split at hA
     ·rename_i sz' hsz c3
      have c3:=beq_iff.1 c3
      split at hA
      ·rename_i new hnew
       split at hA
       ·rename_i hone hnl
        have hnl:=beq_iff.1 hnl
        obtain ⟨vs,k1,k2⟩:=src_sound (P:=P) hr hxr hnew
        exact append_does hr hn h0 h1 hu hux hi hz' (by simpa using c3) (.inr ⟨fun k e=>hux' k (by rw [e]),lenA_sound hxr hlen w,k2⟩) (hF.eval hs) k1 hone hnl hA
       ·simp at hA
      ·simp at hA
     ·simp at hA
    ·simp at hA
   ·simp at hA
  ·simp at hA
 ·-- copy
  rename_i d x hl
  rw [hargs _ hl]
  split at hA
  ·rename_i b off dlen c xa dt hd hx h0
   split at hA
   ·rename_i elem hu
    split at hA
    ·rename_i size len hs hlen
     simp only [fN_eq] at hA
     split at hA
     ·rename_i new cells e opn hsrc hb
      split at hA
      ·rename_i cells' hone hov
       split at hA
       ·rename_i h2 hset
        simp only [Option.some.injEq,Prod.mk.injEq] at hA
        obtain ⟨rfl,rfl⟩:=hA
        exact copy_does hF hr h0 hu hd hx hs hlen hsrc hb hone hov hset
       ·simp at hA
      ·simp at hA
     ·simp at hA
    ·simp at hA
   ·simp at hA
  ·simp at hA
 ·-- unsafeString
  rename_i p l hl
  rw [hargs _ hl]
  split at hA
  ·rename_i b k pt it hp hk hat
   have hat':argTypes = #[pt,it]:=by
    apply Array.ext'
    simpa using hat
   subst hat'
   split at hA
   ·rename_i elem cells e opn hu hb
    split at hA
    ·rename_i c1 c2 c3 c4
     have c1:=beq_iff.1 c1; have c3:=ble_iff.1 c3; have c4:=ble_iff.1 c4
     subst c1
     split at hA
     ·rename_i cs' ht
      split at hA
      ·rename_i bs hbs
       split at hA
       ·rename_i h2 hset
        simp only [Option.some.injEq,Prod.mk.injEq] at hA
        obtain ⟨rfl,rfl⟩:=hA
        exact unsafeString_does hF hr hu hp hk c2 hb c3 c4 ht hbs hset
       ·simp at hA
      ·simp at hA
     ·simp at hA
    ·simp at hA
   ·simp at hA
  ·simp at hA
 ·simp at hA
theorem aheap_sound (hF:FRel N E sz fr a) (hr:HRel P N E w0 h w) {nm:Nat} (hn:¬ N nm) {o:Oper} {ov:Option AV} (hA:aheap P fr h nm o = some (ov,h')) :
 Does P N E w0 w nm (execOp a.eval o) ov h':=by
 obtain ⟨dst,op,type,pos,after,guard⟩:=o
 cases op <;> simp only [aheap] at hA <;> try (simp at hA; done)
 case alloc elem=>
  split at hA
  ·rename_i z hz
   split at hA
   ·rename_i h2 hset
    simp only [Option.some.injEq,Prod.mk.injEq] at hA
    obtain ⟨rfl,rfl⟩:=hA
    exact alloc_does hr hn hz hset
   ·simp at hA
  ·simp at hA
 case box elem x=>
  split at hA
  ·rename_i v hx
   split at hA
   ·rename_i h2 hset
    simp only [Option.some.injEq,Prod.mk.injEq] at hA
    obtain ⟨rfl,rfl⟩:=hA
    exact box_does hF hr hn hx hset
   ·simp at hA
  ·simp at hA
 case buildSlice t len parts=>
  split at hA
  ·rename_i elem ps hu hp
   split at hA
   ·rename_i size z hs hz
    split at hA
    ·rename_i cells c1 c2 hf
     split at hA
     ·rename_i h2 hset
      simp only [Option.some.injEq,Prod.mk.injEq] at hA
      obtain ⟨rfl,rfl⟩:=hA
      exact buildSlice_does hF hr hn hu hp hs hz (ble_iff.1 c1) (beq_iff.1 c2) hf hset
     ·simp at hA
    ·simp at hA
   ·simp at hA
  ·simp at hA
 case store t x y=>
  split at hA
  ·rename_i b off v size hx hy hs
   split at hA
   ·rename_i cells e opn hb
    split at hA
    ·rename_i cells' c1 c2 hov
     split at hA
     ·rename_i h2 hset
      simp only [Option.some.injEq,Prod.mk.injEq] at hA
      obtain ⟨rfl,rfl⟩:=hA
      exact store_does hF hr hx hy hs hb (beq_iff.1 c1) c2 hov hset
     ·simp at hA
    ·simp at hA
   ·simp at hA
  ·simp at hA
 case convert s d x=>
  split at hA
  ·rename_i t b off hs hd hx
   split at hA
   ·rename_i cells e opn k hb hz
    split at hA
    ·rename_i c1
     simp only [Option.some.injEq,Prod.mk.injEq] at hA
     obtain ⟨rfl,rfl⟩:=hA
     exact toUnsafe_does hF hr hs hd hx hb hz (blt_iff.1 c1)
    ·simp at hA
   ·simp at hA
  ·rename_i u b hs hd hx
   split at hA
   ·rename_i cells e size hb hz
    split at hA
    ·rename_i c1 c2 c3
     have c1:=beq_iff.1 c1
     subst c1
     simp only [Option.some.injEq,Prod.mk.injEq] at hA
     obtain ⟨rfl,rfl⟩:=hA
     exact fromUnsafe_does hF hr hs hd hx hb hz (beq_iff.1 c2) (ble_iff.1 c3)
    ·simp at hA
   ·simp at hA
  ·rename_i e b off len c hs hd hx
   split at hA
   ·rename_i cells el opn he hb
    split at hA
    ·rename_i r hdr
     split at hA
     ·rename_i cs ht
      split at hA
      ·rename_i bs hbs
       simp only [Option.some.injEq,Prod.mk.injEq] at hA
       obtain ⟨rfl,rfl⟩:=hA
       exact toString_does hF hr hs hd he hx hb hdr ht hbs
      ·simp at hA
     ·simp at hA
    ·simp at hA
   ·simp at hA
  ·rename_i e s hs hd hx
   obtain ⟨⟨l⟩⟩:=s
   split at hA
   ·rename_i b0 bs he hz hl
    simp only at hl
    subst hl
    split at hA
    ·rename_i h2 len hset hlen
     rw [fN_eq] at hlen
     simp only [Option.some.injEq,Prod.mk.injEq] at hA hlen
     obtain ⟨rfl,rfl⟩:=hA
     subst hlen
     exact toBytes_does hF hr hn hs hd he hz hx hset (by simp)
    ·simp at hA
   ·simp at hA
  ·simp at hA
 case makeSlice t x y=>
  split at hA
  ·rename_i elem kl l kc c hu hx hy
   split at hA
   ·rename_i i z hi hz c1 c2
    split at hA
    ·rename_i c3 c4
     split at hA
     ·rename_i h2 hset
      simp only [Option.some.injEq,Prod.mk.injEq] at hA
      obtain ⟨rfl,rfl⟩:=hA
      exact makeSlice_does hF hr hn hu hx hy hi hz (ble_iff.1 c1) (ble_iff.1 c2) (ble_iff.1 c3) (beq_iff.1 c4) hset
     ·simp at hA
    ·simp at hA
   ·simp at hA
  ·simp at hA
 case slice t x lo hi mx=>
  split at hA
  ·rename_i b off len d elem hx hu
   split at hA
   ·rename_i size l k cells e hs hl hk hb
    split at hA
    ·rename_i c1 c2 c3 c4
     have c1:=ble_iff.1 c1; have c2:=beq_iff.1 c2; have c3:=beq_iff.1 c3; have c4:=beq_iff.1 c4
     subst c2; subst c4
     split at hA
     ·simp only [Option.some.injEq,Prod.mk.injEq] at hA
      obtain ⟨rfl,rfl⟩:=hA
      exact sliceEs_does hF hr hn hx hu hs hl hk hb c1 c3
     ·simp at hA
    ·simp at hA
   ·simp at hA
  ·simp at hA
 case range t x=>
  split at hA
  ·rename_i s hu hx
   split at hA
   ·rename_i h2 hset
    simp only [Option.some.injEq,Prod.mk.injEq] at hA
    obtain ⟨rfl,rfl⟩:=hA
    exact range_does hF hr hn hu hx hset
   ·simp at hA
  ·simp at hA
 case next it isString=>
  split at hA
  ·rename_i b hx
   split at hA
   ·rename_i s pos hb
    exact next_does hF hr hx hb hA
   ·simp at hA
  ·simp at hA
 case call c=>
  obtain ⟨callee,args,argTypes⟩:=c
  cases callee with
  | value f=>simp at hA
  | invoke r m=>simp at hA
  | builtin bi=>exact builtin_sound hF hr hn hA
end
end Go.Sym
namespace Go.Sym
open Go RowKit
/-! ## Any order of a region's operations -/
section
variable {P:Program} {ops:Array Oper} {Q:Exit → Act → World → Prop} {keep:Nat → World → World → Prop}
/-- Whatever order is picked; and what 'keep' says of each operation that is carried out. -/
def wpAnyN (P:Program) (ops:Array Oper) (Q:Exit → Act → World → Prop) (keep:Nat → World → World → Prop):Nat → Array Bool → Act → World → Prop
 | 0,listed,a,w=>Region.ready .any ops listed = [] ∧ Q .normal a w
 | k + 1, listed, a, w => (Region.ready .any ops listed = [] → Q .normal a w) ∧
   ∀ i ∈ Region.ready .any ops listed,wpOp P ops Q i (fun a' w'=>keep i w w' ∧ wpAnyN P ops Q keep k (listed.setIfInBounds i true) a' w') a w
theorem wpAny_of_N:∀ (k:Nat) (listed:Array Bool) (a:Act) (w:World),wpAnyN P ops Q keep k listed a w → wpAny P .any ops Q k listed a w
 | 0,_,_,_,h=>h
 | k + 1,_,_,_,h=>⟨h.1,fun i hi=>wpOp_mono (fun a' w' h'=>wpAny_of_N k _ a' w' h'.2) (h.2 i hi)⟩
/-- Who is listed, his predecessors are listed. -/
def Down (ops:Array Oper) (listed:Array Bool):Prop:=
 ∀ j oj,ops[j]? = some oj → listed.getD j false = true → ∀ e ∈ oj.after,Region.binds .any e = true → listed.getD e.on false = true
theorem Down.start (n:Nat):Down ops (Array.replicate n false):=fun j oj _ hl=>by
 simp [Array.getD_eq_getD_getElem?,Array.getElem?_replicate] at hl
 split at hl <;> simp at hl
theorem Down.set {listed:Array Bool} {i:Nat} (h:Down ops listed) (hi:i ∈ Region.ready .any ops listed):Down ops (listed.setIfInBounds i true):=by
 intro j oj hj hl e he hb
 by_cases hij:i = j
 ·subst hij
  obtain ⟨_,o,ho,hall⟩:=mem_ready.1 hi
  rw [hj] at ho
  obtain rfl:=Option.some.inj ho
  exact getD_set_true (hall e he hb)
 ·rw [getD_set_ne false hij] at hl
  exact getD_set_true (h j oj hj hl e he hb)
inductive Anc (ops:Array Oper):Nat → Nat → Prop
 | direct {j oj e} (hj:ops[j]? = some oj) (he:e ∈ oj.after) (hb:Region.binds .any e = true):Anc ops e.on j
 | step {i j oj e} (hj:ops[j]? = some oj) (he:e ∈ oj.after) (hb:Region.binds .any e = true) (h:Anc ops i e.on):Anc ops i j
theorem Anc.listed {i j:Nat} {listed:Array Bool} (hd:Down ops listed) (h:Anc ops i j) :
 (∀ oj,ops[j]? = some oj → ∀ e ∈ oj.after,Region.binds .any e = true → listed.getD e.on false = true) → listed.getD i false = true:=by
 induction h with
 | direct hj he hb=>intro hp; exact hp _ hj _ he hb
 | step hj he hb _ ih=>intro hp; exact ih fun o ho e' he' hb'=>hd _ o ho (hp _ hj _ he hb) e' he' hb'
theorem getD_both' {listed:Array Bool} {i:Nat} (h:listed.getD i true = false):listed.getD i false = false:=by
 simp only [Array.getD_eq_getD_getElem?] at *
 cases hx:listed[i]? <;> simp_all
/-- **An operation that may come up now may be taken first.** -/
theorem wpAnyN_first {i:Nat} {oi:Oper} {v:Value} (S1:World → Prop) (hi:ops[i]? = some oi) (hsel:∀ (j:Nat) (o:Oper) cs b,ops[j]? = some o → o.op ≠ .select cs b)
 (hQ:∀ c a w,Q (.panic c) (a.put oi.dst v) w → Q (.panic c) a w) (hself:∀ w,keep i w w)
 (hS:∀ j w w',¬ Anc ops i j → keep j w w' → S1 w → S1 w') :
 ∀ (k : Nat) (listed : Array Bool) (a : Act) (w : World), Down ops listed →
   (∀ j oj,ops[j]? = some oj → j ≠ i → listed.getD j true = false → (∀ e ∈ oj.after,Region.binds .any e = true → e.on ≠ i) → oi.apart ops oj = true) →
   i ∈ Region.ready .any ops listed → YieldsIf P ops S1 oi v a → S1 w →
   wpAnyN P ops Q keep k (listed.setIfInBounds i true) (a.put oi.dst v) w → wpAnyN P ops Q keep (k + 1) listed a w:=by
 intro k
 induction k with
 | zero =>
   intro listed a w _ _ hr hy h1 H
   refine ⟨fun h=>(by rw [h] at hr; cases hr),fun j hj=>?_⟩
   by_cases hji:j = i
   ·subst hji; exact hy.wpOp hi h1 ⟨hself w,H⟩
   ·have:=ready_mono hj hji
    rw [H.1] at this
    cases this
 | succ k ih =>
   intro listed a w hd hfree hr hy h1 H
   refine ⟨fun h=>(by rw [h] at hr; cases hr),fun j hj=>?_⟩
   by_cases hji:j = i
   ·subst hji; exact hy.wpOp hi h1 ⟨hself w,H⟩
   ·obtain ⟨hjun,oj,hoj,hall⟩:=mem_ready.1 hj
    have hiun:=getD_both' (mem_ready.1 hr).1
    have hnot:¬ Anc ops i j:=fun ha=>by
     have:=ha.listed hd fun o ho=>by rw [hoj] at ho; obtain rfl:=Option.some.inj ho; exact hall
     rw [hiun] at this; cases this
    have hnotd:∀ e ∈ oj.after,Region.binds .any e = true → e.on ≠ i:=fun e he hb heq=>hnot (heq ▸ Anc.direct hoj he hb)
    have step:=wpOp_putIf hoj (hfree j oj hoj hji hjun hnotd) (fun cs b=>hsel i oi cs b hi) (fun cs b=>hsel j oj cs b hoj) hQ hy (H.2 j (ready_mono hj hji))
    refine wpOp_mono (fun a' w' h3=>⟨h3.2.1,ih (listed.setIfInBounds j true) a' w' (hd.set hj) (fun l ol hol hli hun hno=>?_) (ready_mono hr (Ne.symm hji)) h3.1 (hS j w w' hnot h3.2.1 h1) ?_⟩) step
    ·refine hfree l ol hol hli ?_ hno
     by_cases hjl:j = l
     ·subst hjl; exact hjun
     ·rwa [getD_set_ne true hjl] at hun
    ·rw [Array.setIfInBounds_comm _ _ hji]
     exact h3.2.2
/-! ### The masks -/
theorem maskOf_bit (acc:List Nat):∀ (l:List Edge) (s i:Nat),(maskOf acc l s).testBit i = true →
 s.testBit i = true ∨ ∃ e ∈ l,Region.binds .any e = true ∧ (e.on = i ∨ ∃ m,acc[e.on]? = some m ∧ m.testBit i = true)
 | [],s,i,h=>.inl (by simpa [maskOf] using h)
 | e :: l, s, i, h => by
   simp only [maskOf] at h
   split at h
   ·rename_i hb
    rcases maskOf_bit acc l _ i h with h1 | ⟨e',he',h2⟩
    ·have e1:∀ a b:Nat,Nat.lor a b = a ||| b:=fun _ _=>rfl
     have e2:Nat.pow 2 e.on = 2 ^ e.on:=rfl
     rw [e1,e1,e2,Nat.testBit_or,Nat.testBit_or,Nat.testBit_two_pow] at h1
     simp only [Bool.or_eq_true,decide_eq_true_eq] at h1
     rcases h1 with (h1 | h1) | h1
     ·exact .inl h1
     ·exact .inr ⟨e,by simp,hb,.inl h1⟩
     ·rw [nth_eq] at h1
      cases hm:acc[e.on]? with
      | none=>simp [hm] at h1
      | some m=>simp only [hm] at h1; exact .inr ⟨e,by simp,hb,.inr ⟨m,hm,h1⟩⟩
    ·exact .inr ⟨e',by simp [he'],h2⟩
   ·rcases maskOf_bit acc l s i h with h1 | ⟨e',he',h2⟩
    ·exact .inl h1
    ·exact .inr ⟨e',by simp [he'],h2⟩
theorem masks_bit:∀ (l:List Oper) (acc:List Nat),(∀ j,l[j]? = ops[acc.length + j]?) → (∀ j m,acc[j]? = some m → ∀ i,m.testBit i = true → Anc ops i j) →
 ∀ j m,(masks l acc)[j]? = some m → ∀ i,m.testBit i = true → Anc ops i j
 | [],acc,_,hacc=>hacc
 | o :: l, acc, hl, hacc => by
   simp only [masks,fN_eq]
   have ho:ops[acc.length]? = some o:=by have:=hl 0; simpa using this.symm
   refine masks_bit l (acc ++ [maskOf acc o.after.toList 0]) (fun j=>?_) (fun j m hm i hbit=>?_)
   ·have:=hl (j + 1)
    simpa [Nat.add_assoc,Nat.add_comm 1 j] using this
   ·by_cases hj:j < acc.length
    ·rw [List.getElem?_append_left hj] at hm; exact hacc j m hm i hbit
    ·rw [List.getElem?_append_right (by omega)] at hm
     have hj':j = acc.length:=by
      have:=(List.getElem?_eq_some_iff.1 hm).1
      simp at this
      omega
     subst hj'
     simp at hm
     subst hm
     rcases maskOf_bit acc _ _ _ hbit with h1 | ⟨e,he,hb,h2⟩
     ·simp at h1
     ·have he':e ∈ o.after:=by simpa using he
      rcases h2 with rfl | ⟨m,hm,h2⟩
      ·exact .direct ho he' hb
      ·exact .step ho he' hb (hacc _ m hm i h2)
theorem ahead_anc {i j:Nat} (h:ahead (masks ops.toList []) i j = true):Anc ops i j:=by
 unfold ahead at h
 rw [nth_eq] at h
 cases hm:(masks ops.toList [])[j]? with
 | none=>simp [hm] at h
 | some m =>
   simp only [hm] at h
   exact masks_bit ops.toList [] (by simp) (by simp) j m hm i h
end
/-! ## Alike -/
theorem sameV0_eq (a b:Value) (h:sameV0 a b = true):a = b:=by
 unfold sameV0 at h
 split at h <;> simp_all [Nat.beq_eq]
theorem sameVs_eq {f:Value → Value → Bool} (hf:∀ a b,f a b = true → a = b):∀ l m,sameVs f l m = true → l = m
 | [],[],_=>rfl
 | [],_ :: _,h=>by simp [sameVs] at h
 | _ :: _,[],h=>by simp [sameVs] at h
 | a :: l, b :: m, h => by
   simp only [sameVs,Bool.and_eq_true] at h
   rw [hf a b h.1,sameVs_eq hf l m h.2]
theorem sameV_eq:∀ (k:Nat) (a b:Value),sameV k a b = true → a = b
 | 0,a,b,h=>sameV0_eq a b h
 | k + 1, a, b, h => by
   simp only [sameV] at h
   split at h
   ·simp only [Bool.and_eq_true,Nat.beq_eq] at h
    rw [h.1,sameV_eq k _ _ h.2]
   ·rw [sameVs_eq (sameV_eq k) _ _ h]
   ·rw [sameVs_eq (sameV_eq k) _ _ h]
   ·exact sameV0_eq _ _ h
theorem sameL_eq {f:AV → AV → Bool} (hf:∀ a b,f a b = true → a = b):∀ l m,sameL f l m = true → l = m
 | [],[],_=>rfl
 | [],_ :: _,h=>by simp [sameL] at h
 | _ :: _,[],h=>by simp [sameL] at h
 | a :: l, b :: m, h => by
   simp only [sameL,Bool.and_eq_true] at h
   rw [hf a b h.1,sameL_eq hf l m h.2]
theorem sameA0_eq (a b:AV) (h:sameA0 a b = true):a = b:=by
 unfold sameA0 at h
 split at h
 ·rw [sameV_eq 3 _ _ h]
 all_goals simp_all [Nat.beq_eq]
theorem sameA_eq:∀ (k:Nat) (a b:AV),sameA k a b = true → a = b
 | 0,a,b,h=>sameA0_eq a b h
 | k + 1, a, b, h => by
   simp only [sameA] at h
   split at h
   ·simp only [Bool.and_eq_true,Nat.beq_eq] at h
    rw [h.1,sameL_eq (sameA_eq k) _ _ h.2]
   ·simp only [Bool.and_eq_true,Nat.beq_eq] at h
    rw [h.1,sameA_eq k _ _ h.2]
   ·rw [sameL_eq (sameA_eq k) _ _ h]
   ·rw [sameL_eq (sameA_eq k) _ _ h]
   ·exact sameA0_eq _ _ h
theorem sameBlk_eq (a b:Blk) (h:sameBlk a b = true):a = b:=by
 unfold sameBlk at h
 split at h
 ·simp only [Bool.and_eq_true,Nat.beq_eq,beq_iff_eq] at h
  rw [h.1.1,h.1.2,sameL_eq (sameA_eq 5) _ _ h.2]
 ·simp only [Bool.and_eq_true,Nat.beq_eq,decide_eq_true_eq] at h
  rw [h.1,h.2]
 ·simp at h
theorem sameO_eq {α:Type} {f:α → α → Bool} (hf:∀ a b,f a b = true → a = b) (a b:Option α) (h:sameO f a b = true):a = b:=by
 cases a <;> cases b <;> simp [sameO] at h ⊢
 exact hf _ _ h
theorem sameT_eq {α:Type} {f:α → α → Bool} (hf:∀ a b,f a b = true → a = b):∀ a b:T α,sameT f a b = true → a = b
 | .e,.e,_=>rfl
 | .e,.n ..,h=>by simp [sameT] at h
 | .n ..,.e,h=>by simp [sameT] at h
 | .n l v r, .n l' v' r', h => by
   simp only [sameT,Bool.and_eq_true] at h
   rw [sameO_eq hf _ _ h.1,sameT_eq hf _ _ h.2.1,sameT_eq hf _ _ h.2.2]
theorem sameSt_eq (a b:St) (h:sameSt a b = true):a = b:=by
 obtain ⟨f,hp,n⟩:=a
 obtain ⟨f',hp',n'⟩:=b
 simp only [sameSt,Bool.and_eq_true,Nat.beq_eq] at h
 rw [h.1,sameT_eq (sameA_eq 5) _ _ h.2.1,sameT_eq sameBlk_eq _ _ h.2.2]
theorem goOn_eq {f:Nat → Option St} {r:St}:∀ l:List Nat,joinOn f r l = true → ∀ i ∈ l,f i = some r
 | [],_,i,hi=>by simp at hi
 | j :: l, h, i, hi => by
   simp only [joinOn] at h
   cases hf:f j with
   | none=>simp [hf] at h
   | some r' =>
     simp only [hf,Bool.and_eq_true] at h
     rcases List.mem_cons.1 hi with rfl | hi
     ·rw [hf,sameSt_eq _ _ h.1]
     ·exact goOn_eq l h.2 i hi
theorem joinAll_eq {f:Nat → Option St} {r:St} {l:List Nat} (h:joinAll f l = some r):∀ i ∈ l,f i = some r:=by
 cases l with
 | nil=>simp [joinAll] at h
 | cons j l =>
   simp only [joinAll] at h
   cases hf:f j with
   | none=>simp [hf] at h
   | some r' =>
     simp only [hf] at h
     cases hg:joinOn f r' l with
     | false=>simp [hg] at h
     | true =>
       simp only [hg,Option.some.injEq] at h
       subst h
       intro i hi
       rcases List.mem_cons.1 hi with rfl | hi
       ·exact hf
       ·exact goOn_eq l hg i hi
end Go.Sym
namespace Go.Sym
open Go RowKit
/-- What is asked of the functions that stand for bodies that the translation lacks. -/
def XSound (P:Program) (X:FuncId → Option (List AV → Option AV)):Prop:=
 ∀ f e args v,X f = some e → e args = some v → ∀ (N:Nat → Prop) (E:Env) vs,RelL N E args vs → ∃ u,Rel N E v u ∧ ∀ w,(callFunc f vs.toArray).run P w = .ok (.value u) w
/-- From names N under E to names N' under E'. -/
structure Ext (N:Nat → Prop) (E:Env) (n:Nat) (N':Nat → Prop) (E':Env) (n':Nat):Prop where
 sub:∀ b,N b → N' b
 new:∀ b,N' b → N b ∨ n ≤ b
 bd:∀ b,N' b → b < n'
 le:n ≤ n'
 agree:Agree N E E'
theorem Ext.refl {N:Nat → Prop} {E:Env} {n:Nat} (hb:∀ b,N b → b < n):Ext N E n N E n:=⟨fun _ h=>h,fun _ h=>.inl h,hb,Nat.le_refl _,.refl N E⟩
theorem Ext.trans {N N' N'':Nat → Prop} {E E' E'':Env} {n n' n'':Nat} (h:Ext N E n N' E' n') (k:Ext N' E' n' N'' E'' n''):Ext N E n N'' E'' n'':=
 ⟨fun b hb=>k.sub b (h.sub b hb),fun b hb=>by
  rcases k.new b hb with q | q
  ·exact h.new b q
  ·exact .inr (Nat.le_trans h.le q),k.bd,Nat.le_trans h.le k.le,h.agree.trans k.agree h.sub⟩
def RecSound (P:Program) (w0:World) (rec:FuncId → List AV → Hp → Nat → Option (AV × Hp × Nat)):Prop:=
 ∀ f args h n v h' n', rec f args h n = some (v, h', n') → (∃ fn, P.funcs[f]? = some fn ∧ fn.body.isSome = true) ∧
   ∀ (N : Nat → Prop) (E : Env) w vs, (∀ b, N b → b < n) → HRel P N E w0 h w → RelL N E args vs →
     Calls P f vs.toArray w fun e w'=>∃ N' E' u,e = .returned u ∧ Ext N E n N' E' n' ∧ Rel N' E' v u ∧ HRel P N' E' w0 h' w'
def NamesOk (P : Program) : Prop := ∀ (f : Nat) (fn : Func), P.funcs[f]? = some fn → fn.name ≠ "runtime.NumGoroutine"
section
variable {P:Program} {G:Nat → Option (List Value)} {X:FuncId → Option (List AV → Option AV)} {rec:FuncId → List AV → Hp → Nat → Option (AV × Hp × Nat)}
variable {N N':Nat → Prop} {E E':Env} {w0 w w':World} {h h':Hp} {sz n n' nm:Nat} {fr fr':Fr} {a:Act} {ops:Array Oper}
theorem put_sound (hF:FRel N E sz fr a) {dst:Option Tmp} {av:AV} {v:Value} (hv:Rel N E av v) (hp:put sz fr dst av = some fr'):FRel N E sz fr' (a.put dst v):=by
 cases dst with
 | none =>
   simp only [put,Option.some.injEq] at hp
   subst hp
   exact hF
 | some d =>
   simp only [put] at hp
   split at hp
   ·rename_i hd
    have hd:=blt_iff.1 hd
    refine ⟨hF.defers,by simpa [Act.put] using hF.size,fun t u ht=>?_⟩
    have hsz:=hF.size
    by_cases e:t = d
    ·subst e
     rw [T.get_set_eq hp] at ht
     simp only [Option.some.injEq] at ht
     subst ht
     have ht:t < a.tmps.size:=by rw [hsz]; exact hd
     exact ⟨v,by simp [Act.put,ht],hv⟩
    ·rw [T.get_set_ne hp e] at ht
     obtain ⟨x,h1,h2⟩:=hF.get t u ht
     exact ⟨x,by simpa [Act.put,Array.getElem?_setIfInBounds_ne (Ne.symm e)] using h1,h2⟩
   ·simp at hp
theorem undef_rel:Rel N E (.lit undef) undef:=Rel.lit _
theorem wanted_sound (hF:FRel N E sz fr a) {o:Oper} {b:Bool} (hw:wantedA ops fr o = some b):Region.wanted o (yielded ops a.tmps) = b:=by
 unfold wantedA at hw
 unfold Region.wanted
 split at hw
 ·rename_i hg
  simp only [Option.some.injEq] at hw
  simp [hg,hw]
 ·rename_i j want hg
  simp only [hg]
  rw [nthA_eq] at hw
  split at hw
  ·rename_i oj hoj
   split at hw
   ·rename_i d hd
    have hy:∀ v,a.tmps[d]? = some v → yielded ops a.tmps j = (match v with | .bool b=>some b | _=>none):=fun v hv=>by
     unfold yielded
     simp [hoj,hd,hv]
     cases v <;> rfl
    split at hw
    ·rename_i b' hb
     obtain ⟨v,h1,h2⟩:=hF.get d _ hb
     have:=h2.lit_eq
     subst this
     rw [hy _ h1]
     cases want <;> simp at hw <;> subst hw <;> first | (cases b' <;> rfl) | (cases b <;> rfl)
    ·rename_i vs hb
     obtain ⟨v,h1,h2⟩:=hF.get d _ hb
     have:=h2.lit_eq
     subst this
     rw [hy _ h1]
     simp only [Option.some.injEq] at hw
     subst hw
     rfl
    ·simp at hw
   ·simp at hw
  ·simp at hw
theorem run_callee (hF:FRel N E sz fr a) {o:Oper} {f:FuncId} {args:List AV} (hc:acallee fr o = some (f,args)) :
 ∃ vs,RelL N E args vs ∧ (∀ w,(execOp a.eval o).run P w = (callFunc f vs.toArray).run P w):=by
 obtain ⟨dst,op,type,pos,after,guard⟩:=o
 cases op <;> simp only [acallee] at hc <;> try (simp at hc; done)
 rename_i c
 obtain ⟨callee,cargs,argTypes⟩:=c
 cases callee <;> simp only at hc <;> try (simp at hc; done)
 rename_i fo
 have hargs:cargs.map a.eval = (cargs.toList.map a.eval).toArray:=by apply Array.ext'; simp
 split at hc
 ·rename_i f' cap vs hf hv
  simp only [Option.some.injEq,Prod.mk.injEq] at hc
  obtain ⟨rfl,rfl⟩:=hc
  obtain ⟨cs,e,hl⟩:=(hF.eval hf).fn_inv
  refine ⟨_,(hF.evals _ _ hv).append hl,fun w=>?_⟩
  simp only [execOp,resolve,e,Deferred.ofValue,hargs]
  simp [invoke]
 ·rename_i f' first captured vs hf hv
  split at hc
  ·rename_i h1 h2
   simp only [Option.some.injEq,Prod.mk.injEq] at hc
   obtain ⟨rfl,rfl⟩:=hc
   have e:=(hF.eval hf).lit_eq
   have e1:first = #[]:=by apply Array.ext'; simpa using h1
   have e2:captured = #[]:=by apply Array.ext'; simpa using h2
   subst e1; subst e2
   refine ⟨_,hF.evals _ _ hv,fun w=>?_⟩
   simp only [execOp,resolve,e,Deferred.ofValue,hargs]
   simp [invoke]
  ·simp at hc
 ·simp at hc
/-- One operation, if it is wanted. -/
theorem evStep_sound (hG:GOk G w0) (hX:XSound P X) (hN:NamesOk P) (hrec:RecSound P w0 rec) {o:Oper} (hs:evStep P G X rec sz ops fr h nm n o = some (fr',h',n'))
 (hF:FRel N E sz fr a) (hr:HRel P N E w0 h w) (hb:∀ b,N b → b < n) (hnm:¬ N nm) {K:Act → World → Prop} {Q:Exit → Act → World → Prop}
 (hK:∀ N' E' a' w',(∀ b,N b → N' b) → (∀ b,N' b → N b ∨ b = nm ∨ n ≤ b) → (∀ b,N' b → b < n') → n ≤ n' → Agree N E E' → FRel N' E' sz fr' a' → HRel P N' E' w0 h' w' → K a' w') :
 if Region.wanted o (yielded ops a.tmps) then o.wp P a w K Q else K (a.put o.dst undef) w:=by
 unfold evStep at hs
 split at hs
 ·rename_i hw
  rw [wanted_sound hF hw]
  simp only [if_true]
  -- the operation's outcome
  have fin:∀ (ov:Option AV) (h2:Hp) (n2:Nat),(match (some (ov,h2,n2):Option (Option AV × Hp × Nat)) with
   | some (some v, h', n') => match put sz fr o.dst v with
     | some fr'=>some (fr',h',n')
     | none=>none
   | some (none, h', n') => match put sz fr o.dst (.lit undef) with
     | some fr'=>some (fr',h',n')
     | none=>none
   | none=>none) = some (fr',h',n') → h2 = h' ∧ n2 = n' ∧ put sz fr o.dst (ov.getD (.lit undef)) = some fr':=by
   intro ov h2 n2 hq
   cases ov <;> simp only at hq <;> split at hq <;> simp_all
  unfold Oper.wp
  cases he:evOp P G X rec fr h nm n o with
  | none=>simp [he] at hs
  | some r =>
    obtain ⟨ov,h2,n2⟩:=r
    rw [he] at hs
    obtain ⟨rfl,rfl,hput⟩:=fin ov h2 n2 hs
    clear hs fin
    unfold evOp at he
    split at he
    ·rename_i v hp
     simp only [Option.some.injEq,Prod.mk.injEq] at he
     obtain ⟨rfl,rfl,rfl⟩:=he
     obtain ⟨u,h1,h2⟩:=apure_sound hF hp
     rw [h2 w]
     exact hK N E _ _ (fun _ h=>h) (fun _ h=>.inl h) hb (Nat.le_refl _) (.refl N E) (put_sound hF h1 hput) hr
    ·split at he
     ·rename_i v ob hp
      simp only [Option.some.injEq,Prod.mk.injEq] at he
      obtain ⟨rfl,rfl,rfl⟩:=he
      obtain ⟨u,h1,h2⟩:=aread_sound hG hF hr hp
      rw [h2 w (hr.leans _)]
      exact hK N E _ _ (fun _ h=>h) (fun _ h=>.inl h) hb (Nat.le_refl _) (.refl N E) (put_sound hF h1 hput) hr
     ·split at he
      ·rename_i f args hc
       obtain ⟨vs,k1,k2⟩:=run_callee hF hc
       rw [k2 w]
       split at he
       ·rename_i e hx
        split at he
        ·rename_i v hv
         simp only [Option.some.injEq,Prod.mk.injEq] at he
         obtain ⟨rfl,rfl,rfl⟩:=he
         obtain ⟨u,h1,h2⟩:=hX f e args v hx hv N E vs k1
         rw [h2 w]
         exact hK N E _ _ (fun _ h=>h) (fun _ h=>.inl h) hb (Nat.le_refl _) (.refl N E) (put_sound hF h1 hput) hr
        ·simp at he
       ·split at he
        ·rename_i v h3 n3 hv
         simp only [Option.some.injEq,Prod.mk.injEq] at he
         obtain ⟨rfl,rfl,rfl⟩:=he
         obtain ⟨⟨fn,f1,f2⟩,hcall⟩:=hrec _ _ _ _ _ _ _ hv
         have hrun:(callFunc f vs.toArray).run P w = .ok (.enter f vs.toArray) w:=by
          unfold callFunc
          have f3:=hN _ _ f1
          have f4:fn.body ≠ none:=fun e=>by rw [e] at f2; cases f2
          simp [f1,f3,f4]
         rw [hrun]
         refine (hcall N E w vs hb hr k1).mono ?_
         rintro e w'' ⟨N',E',u,rfl,hext,hu,hr'⟩
         exact hK N' E' _ _ hext.sub (fun b hb'=>(hext.new b hb').imp id .inr) hext.bd hext.le hext.agree
          (put_sound (hF.mono hext.sub hext.agree) hu hput) hr'
        ·simp at he
      ·split at he
       ·rename_i ov' h3 hA
        obtain ⟨N',E',r,w',r1,r2,r3,r4,r5,r6⟩:=aheap_sound hF hr hnm hA
        rw [r1]
        have hn2:n ≤ n2 ∧ nm < n2 ∧ ov' = ov ∧ h3 = h2:=by
         split at he
         ·rename_i hlt
          have hlt:=blt_iff.1 hlt
          simp only [Option.some.injEq,Prod.mk.injEq] at he
          obtain ⟨rfl,rfl,rfl⟩:=he
          exact ⟨Nat.le_refl _,hlt,rfl,rfl⟩
         ·rename_i hlt
          have hlt:¬ nm < n:=fun q=>by rw [blt_iff.2 q] at hlt; cases hlt
          simp only [fN_eq,Option.some.injEq,Prod.mk.injEq] at he
          obtain ⟨rfl,rfl,rfl⟩:=he
          exact ⟨by omega,by omega,rfl,rfl⟩
        obtain ⟨q1,q2,rfl,rfl⟩:=hn2
        have hbd:∀ b,N' b → b < n2:=fun b hb'=>by
         rcases r4 b hb' with q | q
         ·exact Nat.lt_of_lt_of_le (hb b q) q1
         ·omega
        cases ov' with
        | none =>
          simp only at r2
          subst r2
          exact hK N' E' _ _ r3 (fun b hb'=>(r4 b hb').imp id .inl) hbd q1 r5 (put_sound (hF.mono r3 r5) undef_rel hput) r6
        | some av =>
          obtain ⟨u,rfl,hu⟩:=r2
          exact hK N' E' _ _ r3 (fun b hb'=>(r4 b hb').imp id .inl) hbd q1 r5 (put_sound (hF.mono r3 r5) hu hput) r6
       ·simp at he
 ·rename_i hw
  rw [wanted_sound hF hw]
  simp only [Bool.false_eq_true,if_false]
  split at hs
  ·rename_i fr2 hput
   simp only [Option.some.injEq,Prod.mk.injEq] at hs
   obtain ⟨rfl,rfl,rfl⟩:=hs
   exact hK N E _ _ (fun _ h=>h) (fun _ h=>.inl h) hb (Nat.le_refl _) (.refl N E) (put_sound hF undef_rel hput) hr
  ·simp at hs
 ·simp at hs
theorem evList_sound (hG:GOk G w0) (hX:XSound P X) (hN:NamesOk P) (hrec:RecSound P w0 rec) {Q:Exit → Act → World → Prop}:∀ (l:List Oper) (fr:Fr) (h:Hp) (n:Nat) (N:Nat → Prop) (E:Env) (a:Act) (w:World),
 evList P G X rec sz ops l fr h n = some (fr',h',n') → FRel N E sz fr a → HRel P N E w0 h w → (∀ b,N b → b < n) →
 (∀ N' E' a' w',Ext N E n N' E' n' → FRel N' E' sz fr' a' → HRel P N' E' w0 h' w' → Q .normal a' w') → wpList P ops Q l a w
 | [], fr, h, n, N, E, a, w, he, hF, hr, hb, hQ => by
   simp only [evList,Option.some.injEq,Prod.mk.injEq] at he
   obtain ⟨rfl,rfl,rfl⟩:=he
   exact hQ N E a w (.refl hb) hF hr
 | o :: l, fr, h, n, N, E, a, w, he, hF, hr, hb, hQ => by
   simp only [evList] at he
   split at he
   ·rename_i fr1 h1 n1 hs
    have:=evStep_sound hG hX hN hrec (K:=wpList P ops Q l) (Q:=Q) hs hF hr hb (fun q=>Nat.lt_irrefl _ (hb _ q)) (fun N1 E1 a1 w1 s1 s2 s3 s4 s5 f1 r1=>
     evList_sound hG hX hN hrec l fr1 h1 n1 N1 E1 a1 w1 he f1 r1 s3 (fun N' E' a' w' hx=>hQ N' E' a' w'
      (Ext.trans ⟨s1,fun b hb'=>by rcases s2 b hb' with q | q | q; exact .inl q; exact .inr (by omega); exact .inr q,s3,s4,s5⟩ hx)))
    simp only [wpList]
    split
    ·rename_i hw; rw [if_pos hw] at this; exact .inl this
    ·rename_i hw; rw [if_neg hw] at this; exact this
   ·simp at he
theorem stillOp_sound (hG:GOk G w0) (hF:FRel N E sz fr a) (hr:HRel P N E w0 h w) {o:Oper} {av:AV} {ob:Option Nat} (hs:stillOp P G fr h o = some (av,ob)) :
 ∃ v,Rel N E av v ∧ ∀ w',Leans P N E w0 h ob w' → (execOp a.eval o).run P w' = .ok (.value v) w':=by
 unfold stillOp at hs
 split at hs
 ·rename_i v hp
  simp only [Option.some.injEq,Prod.mk.injEq] at hs
  obtain ⟨rfl,rfl⟩:=hs
  obtain ⟨u,h1,h2⟩:=apure_sound hF hp
  exact ⟨u,h1,fun w' _=>h2 w'⟩
 ·exact aread_sound hG hF hr hs
theorem evStill_sound (hG:GOk G w0) (hr:HRel P N E w0 h w) {Q:Act → Prop}:∀ (l:List Oper) (fr:Fr) (a:Act),evStill P G sz ops h l fr = some fr' → FRel N E sz fr a →
 (∀ a',FRel N E sz fr' a' → Q a') → wpStill P ops w Q l a
 | [], fr, a, he, hF, hQ => by
   simp only [evStill,Option.some.injEq] at he
   subst he
   exact hQ a hF
 | o :: l, fr, a, he, hF, hQ => by
   simp only [evStill] at he
   simp only [wpStill]
   split at he
   ·rename_i hw
    rw [wanted_sound hF hw]
    simp only [if_true]
    split at he
    ·rename_i v ob hs
     split at he
     ·rename_i fr1 hput
      obtain ⟨u,h1,h2⟩:=stillOp_sound hG hF hr hs
      unfold Oper.still
      rw [h2 w (hr.leans _)]
      exact ⟨rfl,evStill_sound hG hr l fr1 _ he (put_sound hF h1 hput) hQ⟩
     ·simp at he
    ·simp at he
   ·rename_i hw
    rw [wanted_sound hF hw]
    simp only [Bool.false_eq_true,if_false]
    split at he
    ·rename_i fr1 hput
     exact evStill_sound hG hr l fr1 _ he (put_sound hF undef_rel hput) hQ
    ·simp at he
   ·simp at he
end
end Go.Sym
namespace Go.Sym
open Go RowKit
section
variable {P:Program} {G:Nat → Option (List Value)} {X:FuncId → Option (List AV → Option AV)} {rec:FuncId → List AV → Hp → Nat → Option (AV × Hp × Nat)}
variable {N N':Nat → Prop} {E E':Env} {w0 w w':World} {h h':Hp} {sz n n' nm:Nat} {fr fr':Fr} {a:Act} {ops:Array Oper}
/-! ## Sets as bits -/
theorem maskL_bit:∀ (l:List Bool) (k:Nat),(maskL l).testBit k = (l[k]?).getD false
 | [],k=>by simp [maskL]
 | b :: l,0=>by cases b <;> simp [maskL,Nat.testBit_zero] <;> omega
 | b :: l, k + 1 => by
   have ih:=maskL_bit l k
   have e:maskL (b :: l) / 2 = maskL l:=by cases b <;> simp only [maskL] <;> omega
   rw [Nat.testBit_succ,e,ih]; simp
theorem edgeMask_bit:∀ (l:List Edge) (k:Nat),(edgeMask l).testBit k = l.any fun e=>Region.binds .any e && e.on == k
 | [],k=>by simp [edgeMask]
 | e :: l, k => by
   have ih:=edgeMask_bit l k
   simp only [edgeMask,List.any_cons]
   cases hb:Region.binds .any e with
   | true =>
     show (edgeMask l ||| 2 ^ e.on).testBit k = _
     rw [Nat.testBit_or,ih,Nat.testBit_two_pow,Bool.or_comm]
     congr 1
   | false=>simpa using ih
theorem slotMask_bit:∀ (l:List Nat) (k:Nat),(slotMask l).testBit k = l.contains k
 | [],k=>by simp [slotMask]
 | t :: l, k => by
   have ih:=slotMask_bit l k
   show (slotMask l ||| 2 ^ t).testBit k = _
   rw [Nat.testBit_or,ih,Nat.testBit_two_pow,List.contains_cons,Bool.or_comm]
   congr 1
   by_cases q:t = k
   ·subst q; simp
   ·have:¬ k = t:=fun e=>q e.symm
    simp [q,this]
theorem land_eq {m l:Nat}:Nat.beq (Nat.land m l) m = true ↔ ∀ k,m.testBit k = true → l.testBit k = true:=by
 rw [beq_iff]
 show m &&& l = m ↔ _
 constructor
 ·intro e k hk
  have:=congrArg (fun z=>z.testBit k) e
  simp only [Nat.testBit_and,hk] at this
  simpa using this
 ·intro e
  apply Nat.eq_of_testBit_eq
  intro k
  rw [Nat.testBit_and]
  cases hk:m.testBit k with
  | false=>simp
  | true=>simp [e k hk]
theorem land_zero {m l:Nat}:Nat.beq (Nat.land l m) 0 = true ↔ ∀ k,l.testBit k = true → m.testBit k = false:=by
 rw [beq_iff]
 show l &&& m = 0 ↔ _
 constructor
 ·intro e k hk
  have:=congrArg (fun z=>z.testBit k) e
  simpa only [Nat.testBit_and,hk,Nat.zero_testBit,Bool.true_and] using this
 ·intro e
  apply Nat.eq_of_testBit_eq
  intro k
  rw [Nat.testBit_and,Nat.zero_testBit]
  cases hk:l.testBit k with
  | false=>simp
  | true=>simp [e k hk]
theorem dstMask_bit (d:Option Nat) (k:Nat):(dstMask d).testBit k = (d == some k):=by
 cases d with
 | none=>simp [dstMask]
 | some t =>
   show (2 ^ t).testBit k = _
   rw [Nat.testBit_two_pow]
   by_cases q:t = k <;> simp [q]
def recOf (ops:Array Oper) (o:Oper) (i:Nat):R1:=.mk i (edgeMask o.after.toList) (slotMask (Oper.looksAt ops o)) (dstMask o.dst)
def recsP (ops:Array Oper):List Oper → Nat → List R1
 | [],_=>[]
 | o :: l,i=>recOf ops o i :: recsP ops l (i + 1)
theorem recsA_eq (ops:Array Oper):∀ (l:List Oper) (i:Nat),recsA ops l i = some (recsP ops l i)
 | [],_=>rfl
 | o :: l,i=>by simp only [recsA,fN_eq,recsA_eq ops l (i + 1)]; rfl
theorem readyM_eq (listed:Array Bool) (hs:listed.size = ops.size):∀ (l:List Oper) (s:Nat),ops.toList.drop s = l →
 readyM (maskL listed.toList) (recsP ops l s) = (List.range' s l.length).filter fun i=>!listed.getD i true && ((ops[i]?).map fun x=>x.after.all fun e=>!Region.binds .any e || listed.getD e.on false).getD false
 | [],s,hl=>by simp [recsP,readyM]
 | o :: l, s, hl => by
   have hso:ops.toList[s]? = some o:=by
    have:=congrArg (fun z=>z[0]?) hl
    simpa using this
   have hlt:s < ops.size:=by
    have:=(List.getElem?_eq_some_iff.1 hso).1
    simpa using this
   have ho:ops[s]? = some o:=by simpa using hso
   have hd:ops.toList.drop (s + 1) = l:=by
    have:=congrArg List.tail hl
    simpa [List.tail_drop] using this
   have ih:=readyM_eq listed hs l (s + 1) hd
   have hbit:∀ k,(maskL listed.toList).testBit k = listed.getD k false:=fun k=>by rw [maskL_bit]; simp [Array.getD_eq_getD_getElem?]
   have e1:listed.getD s true = (maskL listed.toList).testBit s:=by
    rw [hbit]
    have:s < listed.size:=by omega
    simp [Array.getD,this]
   have e2:Nat.beq (Nat.land (edgeMask o.after.toList) (maskL listed.toList)) (edgeMask o.after.toList) = o.after.all fun e=>!Region.binds .any e || listed.getD e.on false:=by
    rw [Bool.eq_iff_iff,land_eq,Array.all_eq_true']
    constructor
    ·intro hk e he
     cases hb:Region.binds .any e with
     | false=>simp
     | true =>
       have:=hk e.on (by rw [edgeMask_bit,List.any_eq_true]; exact ⟨e,by simpa using he,by simp [hb]⟩)
       rw [hbit] at this
       simp [this]
    ·intro hk k hm
     rw [edgeMask_bit,List.any_eq_true] at hm
     obtain ⟨e,he,h2⟩:=hm
     simp only [Bool.and_eq_true,beq_iff_eq] at h2
     obtain ⟨h2,rfl⟩:=h2
     have:=hk e (by simpa using he)
     rw [hbit]
     simpa [h2] using this
   simp only [recsP,recOf,readyM,List.length_cons,List.range'_succ,List.filter_cons,ho,Option.map_some,Option.getD_some,e1,← e2,ih]
   generalize (maskL listed.toList).testBit s = b1
   generalize Nat.beq (Nat.land (edgeMask o.after.toList) (maskL listed.toList)) (edgeMask o.after.toList) = b2
   cases b1 <;> cases b2 <;> rfl
theorem readyQ_eq {rs:List R1} (hrs:recsA ops ops.toList 0 = some rs):readyQ ops rs = Region.ready .any ops:=by
 rw [recsA_eq,Option.some.injEq] at hrs
 subst hrs
 funext listed
 unfold readyQ
 split
 ·rename_i L hs hL
  rw [fN_eq,Option.some.injEq] at hL
  subst hL
  rw [readyM_eq listed (beq_iff.1 hs) ops.toList 0 (by simp)]
  unfold Region.ready
  rw [List.range_eq_range']
  simp
 ·rfl
theorem findR_eq:∀ (l:List Oper) (s i j m k d:Nat),ops.toList.drop s = l → findR i (recsP ops l s) = some (.mk j m k d) → ∃ o,ops[i]? = some o ∧ .mk j m k d = recOf ops o i
 | [],s,i,j,m,k,d,_,h=>by simp [recsP,findR] at h
 | o :: l, s, i, j, m, k, d, hl, h => by
   have hso:ops.toList[s]? = some o:=by
    have:=congrArg (fun z=>z[0]?) hl
    simpa using this
   have ho:ops[s]? = some o:=by simpa using hso
   have hd:ops.toList.drop (s + 1) = l:=by
    have:=congrArg List.tail hl
    simpa [List.tail_drop] using this
   simp only [recsP,recOf,findR] at h
   split at h
   ·rename_i hsi
    have hsi:=beq_iff.1 hsi
    subst hsi
    exact ⟨o,ho,(Option.some.inj h).symm⟩
   ·exact findR_eq l (s + 1) i j m k d hd h
theorem apart_eq (oi oj:Oper):(Nat.beq (Nat.land (dstMask oi.dst) (Nat.lor (slotMask (Oper.looksAt ops oj)) (dstMask oj.dst))) 0 && Nat.beq (Nat.land (dstMask oj.dst) (slotMask (Oper.looksAt ops oi))) 0) = Oper.apart ops oi oj:=by
 rw [Bool.eq_iff_iff,Bool.and_eq_true,land_zero,land_zero]
 unfold Oper.apart
 rw [Bool.and_eq_true]
 have hor:∀ k,(Nat.lor (slotMask (Oper.looksAt ops oj)) (dstMask oj.dst)).testBit k = ((Oper.looksAt ops oj).contains k || oj.dst == some k):=fun k=>by
  show (slotMask (Oper.looksAt ops oj) ||| dstMask oj.dst).testBit k = _
  rw [Nat.testBit_or,slotMask_bit,dstMask_bit]
 refine and_congr ?_ ?_
 ·cases hd:oi.dst with
  | none=>simp [dstMask]
  | some d =>
    simp only [dstMask_bit,hor]
    constructor
    ·intro h
     have:=h d (by simp)
     rw [Bool.or_eq_false_iff] at this
     show (!(Oper.looksAt ops oj).contains d && !(oj.dst == some d)) = true
     rw [this.1,this.2]; rfl
    ·intro h k hk
     have hk:d = k:=by simpa using hk
     subst hk
     have h:(!(Oper.looksAt ops oj).contains d && !(oj.dst == some d)) = true:=h
     revert h
     generalize (Oper.looksAt ops oj).contains d = b1
     generalize (oj.dst == some d) = b2
     cases b1 <;> cases b2 <;> simp
 ·cases hd:oj.dst with
  | none=>simp [dstMask]
  | some d =>
    simp only [dstMask_bit,slotMask_bit]
    constructor
    ·intro h
     show (!(Oper.looksAt ops oi).contains d) = true
     rw [h d (by simp)]; rfl
    ·intro h k hk
     have hk:d = k:=by simpa using hk
     subst hk
     have h:(!(Oper.looksAt ops oi).contains d) = true:=h
     revert h
     generalize (Oper.looksAt ops oi).contains d = b1
     cases b1 <;> simp
theorem freeM_eq (listed:Array Bool) (hs:listed.size = ops.size) (i:Nat) (oi:Oper):∀ (l:List Oper) (s:Nat),ops.toList.drop s = l →
 freeM (maskL listed.toList) i (dstMask oi.dst) (slotMask (Oper.looksAt ops oi)) (recsP ops l s) = (List.range' s l.length).all fun j=>j == i || listed.getD j true || match ops[j]? with
  | some oj=>(oj.after.any fun e=>Region.binds .any e && e.on == i) || Oper.apart ops oi oj
  | none=>true
 | [],s,hl=>by simp [recsP,freeM]
 | o :: l, s, hl => by
   have hso:ops.toList[s]? = some o:=by
    have:=congrArg (fun z=>z[0]?) hl
    simpa using this
   have hlt:s < ops.size:=by
    have:=(List.getElem?_eq_some_iff.1 hso).1
    simpa using this
   have ho:ops[s]? = some o:=by simpa using hso
   have hd:ops.toList.drop (s + 1) = l:=by
    have:=congrArg List.tail hl
    simpa [List.tail_drop] using this
   have ih:=freeM_eq listed hs i oi l (s + 1) hd
   have e1:listed.getD s true = (maskL listed.toList).testBit s:=by
    rw [maskL_bit]
    have:s < listed.size:=by omega
    simp [Array.getD,this]
   have e3:Nat.beq s i = (s == i):=by rw [Bool.eq_iff_iff,beq_iff]; simp
   simp only [recsP,recOf,freeM,List.length_cons,List.range'_succ,List.all_cons,ho,e1,ih,edgeMask_bit,apart_eq,e3,Bool.or_assoc]
   simp
theorem freeQ_eq {rs:List R1} (hrs:recsA ops ops.toList 0 = some rs):freeQ ops rs = Region.free .any ops:=by
 rw [recsA_eq,Option.some.injEq] at hrs
 subst hrs
 funext listed i
 unfold freeQ
 split
 ·rename_i L j m k d hs hL hf
  rw [fN_eq,Option.some.injEq] at hL
  subst hL
  obtain ⟨oi,ho,he⟩:=findR_eq ops.toList 0 i j m k d (by simp) hf
  unfold recOf at he
  injection he with h1 h2 h3 h4
  subst h1; subst h2; subst h3; subst h4
  rw [freeM_eq listed (beq_iff.1 hs) j oi ops.toList 0 (by simp)]
  unfold Region.free
  simp only [ho]
  rw [List.range_eq_range',Array.length_toList]
  rfl
 ·rfl
/-- A block that was read first is as it was. -/
def HeldP (P:Program) (N:Nat → Prop) (E:Env) (h:Hp) (b:Nat) (w:World):Prop:=
 ∀ cells e opn,h.get b = some (.row cells e opn) → RowAt P N E w b cells e opn
def keeps (P:Program) (N:Nat → Prop) (E:Env) (w0:World) (h:Hp) (ops:Array Oper) (hold:List (Nat × Nat)) (i:Nat) (w w':World):Prop:=
 (Below w0.heap.size w0 w → Below w0.heap.size w0 w') ∧ ∀ p ∈ hold,ahead (masks ops.toList []) p.1 i = false → HeldP P N E h p.2 w → HeldP P N E h p.2 w'
theorem keeps_self {hold:List (Nat × Nat)} (i:Nat) (w:World):keeps P N E w0 h ops hold i w w:=⟨id,fun _ _ _=>id⟩
theorem firstTake_sound {fre:Nat → Bool}:∀ {rs:List Nat} {i:Nat} {o:Oper} {v:AV} {b:Option Nat},firstTake P G ops fre fr h rs = some (i,o,v,b) →
 i ∈ rs ∧ ops[i]? = some o ∧ fre i = true ∧ ((wantedA ops fr o = some true ∧ stillOp P G fr h o = some (v,b)) ∨ (wantedA ops fr o = some false ∧ v = .lit undef ∧ b = none))
 | [],_,_,_,_,hf=>by simp [firstTake] at hf
 | j :: rs, i, o, v, b, hf => by
   simp only [firstTake] at hf
   split at hf
   ·simp at hf
   ·rename_i oj hoj
    split at hf
    ·rename_i v' b' hfree hm
     simp only [Option.some.injEq,Prod.mk.injEq] at hf
     obtain ⟨rfl,rfl,rfl,rfl⟩:=hf
     refine ⟨by simp,hoj,hfree,?_⟩
     split at hm
     ·exact .inl ⟨by assumption,hm⟩
     ·simp only [Option.some.injEq,Prod.mk.injEq] at hm
      exact .inr ⟨by assumption,hm.1.symm,hm.2.symm⟩
     ·simp at hm
    ·obtain ⟨h1,h2⟩:=firstTake_sound hf
     exact ⟨by simp [h1],h2⟩
theorem firstPure_sound {fre:Nat → Bool}:∀ {rs:List Nat} {i:Nat} {o:Oper} {v:AV},firstPure P ops fre fr rs = some (i,o,v) →
 i ∈ rs ∧ ops[i]? = some o ∧ fre i = true ∧ ((wantedA ops fr o = some true ∧ apure P fr o = some v) ∨ (wantedA ops fr o = some false ∧ v = .lit undef))
 | [],_,_,_,hf=>by simp [firstPure] at hf
 | j :: rs, i, o, v, hf => by
   simp only [firstPure] at hf
   split at hf
   ·simp at hf
   ·rename_i oj hoj
    split at hf
    ·rename_i v' hfree hm
     simp only [Option.some.injEq,Prod.mk.injEq] at hf
     obtain ⟨rfl,rfl,rfl⟩:=hf
     refine ⟨by simp,hoj,hfree,?_⟩
     split at hm
     ·exact .inl ⟨by assumption,hm⟩
     ·simp only [Option.some.injEq] at hm
      exact .inr ⟨by assumption,hm.symm⟩
     ·simp at hm
    ·obtain ⟨h1,h2⟩:=firstPure_sound hf
     exact ⟨by simp [h1],h2⟩
/-- Takes, one behind the other. -/
theorem evTakes_sound (hG:GOk G w0) (hr:HRel P N E w0 h w) (hsel:Region.noSelect ops = true) {Q:Exit → Act → World → Prop} (hQ:∀ c a a' w,Q (.panic c) a w → Q (.panic c) a' w) (H:List (Nat × Nat)) :
 ∀ (k : Nat) (listed : Array Bool) (fr : Fr) (hold : List (Nat × Nat)) (a : Act) {k' : Nat} {listed' : Array Bool} {fr' : Fr} {hold' : List (Nat × Nat)},
   evTakes P G sz ops (Region.ready .any ops) (Region.free .any ops) h k listed fr hold = some (k',listed',fr',hold') → (∀ p ∈ hold',p ∈ H) → FRel N E sz fr a → Down ops listed →
   (∀ a',FRel N E sz fr' a' → Down ops listed' → wpAnyN P ops Q (keeps P N E w0 h ops H) k' listed' a' w) →
   (∀ p ∈ hold,p ∈ hold') ∧ wpAnyN P ops Q (keeps P N E w0 h ops H) k listed a w
 | 0, listed, fr, hold, a, k', listed', fr', hold', he, hH, hF, hd, hK => by
   simp only [evTakes,Option.some.injEq,Prod.mk.injEq] at he
   obtain ⟨rfl,rfl,rfl,rfl⟩:=he
   exact ⟨fun _ h=>h,hK a hF hd⟩
 | k + 1, listed, fr, hold, a, k', listed', fr', hold', he, hH, hF, hd, hK => by
   simp only [evTakes] at he
   split at he
   ·rename_i i o v b hft
    rw [fA_eq] at he
    split at he
    ·rename_i fr1 l1 hput hl1
     simp only [Option.some.injEq] at hl1
     subst hl1
     obtain ⟨i1,i2,i3,i4⟩:=firstTake_sound hft
     -- what it yields
     obtain ⟨u,hu,hy⟩:∃ u,Rel N E v u ∧ YieldsIf P ops (Leans P N E w0 h b) o u a:=by
      rcases i4 with ⟨hw,hs⟩ | ⟨hw,rfl,rfl⟩
      ·obtain ⟨u,h1,h2⟩:=stillOp_sound hG hF hr hs
       exact ⟨u,h1,.inl ⟨wanted_sound hF hw,fun w' hl=>h2 w' hl⟩⟩
      ·exact ⟨undef,undef_rel,.inr ⟨wanted_sound hF hw,rfl⟩⟩
     have ih:=evTakes_sound hG hr hsel hQ H k _ fr1 (addHold i b hold) (a.put o.dst u) he hH (put_sound hF hu hput) (hd.set i1) hK
     have hsub:∀ p ∈ hold,p ∈ hold':=fun p hp=>ih.1 p (by unfold addHold; split <;> simp [hp])
     refine ⟨hsub,?_⟩
     refine wpAnyN_first (Leans P N E w0 h b) i2 (Region.noSelect_spec hsel) (fun c a' w' hq=>hQ c _ _ w' hq) (fun w=>keeps_self i w) ?_ k listed a w hd (Region.free_spec i2 i3) i1 hy (hr.leans _) ih.2
     intro j w1 w2 hanc hkeep hl
     refine ⟨hkeep.1 hl.1,fun b' hb' cells e opn hg=>?_⟩
     subst hb'
     have hin:(i,b') ∈ H:=hH _ (ih.1 _ (by simp [addHold]))
     have hah:ahead (masks ops.toList []) i j = false:=by
      cases hq:ahead (masks ops.toList []) i j with
      | false=>rfl
      | true=>exact absurd (ahead_anc hq) hanc
     exact hkeep.2 _ hin hah (fun cells e opn hg=>hl.2 b' rfl cells e opn hg) cells e opn hg
    ·simp at he
   ·simp only [Option.some.injEq,Prod.mk.injEq] at he
    obtain ⟨rfl,rfl,rfl,rfl⟩:=he
    exact ⟨fun _ h=>h,hK a hF hd⟩
theorem held_of {N0:Nat → Prop} {E0:Env} {h0:Hp} {wa:World} {b:Nat} (hr0:HRel P N0 E0 w0 h0 wa) (hr:HRel P N' E' w0 h' w') (hs:∀ b,N0 b → N' b) (ha:Agree N0 E0 E')
 (h2:sameO sameBlk (h0.get b) (h'.get b) = true):HeldP P N0 E0 h0 b w':=by
 intro cells e opn hg
 have e1:=sameO_eq sameBlk_eq _ _ h2
 rw [hg] at e1
 obtain ⟨vs,rest,fz,g1,g2,g3,g4,g5⟩:=hr.row b _ _ _ e1.symm
 obtain ⟨vs0,rest0,fz0,k1,k2,-⟩:=hr0.row b _ _ _ hg
 have hN:=(hr0.dom b _ hg).1
 have:vs0 = vs:=(k2.mono hs ha).now.symm.trans g2.now
 subst this
 exact ⟨vs0,rest,fz,by rw [← (ha b hN).1]; exact g1,k2,g3,fun ho=>by
  obtain ⟨s,s1,s2⟩:=g4 ho
  exact ⟨s,s1,by rw [← (ha b hN).2.1]; exact s2⟩,g5⟩
theorem heldAll_sound {N0:Nat → Prop} {E0:Env} {h0:Hp} {wa:World} {ms:List Nat} {j:Nat} (hr0:HRel P N0 E0 w0 h0 wa) (hr:HRel P N' E' w0 h' w') (hs:∀ b,N0 b → N' b) (ha:Agree N0 E0 E') :
 ∀ {hold:List (Nat × Nat)},heldAll ms j h0 h' hold = true → ∀ p ∈ hold,ahead ms p.1 j = false → HeldP P N0 E0 h0 p.2 w'
 | [],_,p,hp,_=>by simp at hp
 |(i, b) :: l, h, p, hp, hq => by
   simp only [heldAll,Bool.and_eq_true,Bool.or_eq_true] at h
   rcases List.mem_cons.1 hp with rfl | hp
   ·rcases h.1 with h1 | h1
    ·rw [h1] at hq; cases hq
    ·exact held_of hr0 hr hs ha h1.2
   ·exact heldAll_sound hr0 hr hs ha h.2 p hp hq
/-- What is left when all that may be taken first has been taken. -/
theorem evRest_sound (hG:GOk G w0) (hX:XSound P X) (hN:NamesOk P) (hrec:RecSound P w0 rec) (hsel:Region.noSelect ops = true) {N0:Nat → Prop} {E0:Env} {h0:Hp} {wa:World} (hr0:HRel P N0 E0 w0 h0 wa)
 {hold:List (Nat × Nat)} {n0:Nat} {Q:Exit → Act → World → Prop} (hQ:∀ c a a' w,Q (.panic c) a w → Q (.panic c) a' w) :
 ∀ (k : Nat) (listed : Array Bool) (fr : Fr) (h : Hp) (n : Nat) (N : Nat → Prop) (E : Env) (a : Act) (w : World),
   evRest P G X rec sz ops (Region.ready .any ops) (Region.free .any ops) (masks ops.toList []) h0 n0 hold k listed fr h n = some (fr',h',n') → FRel N E sz fr a → HRel P N E w0 h w → (∀ b,N b → b < n) → (∀ b,N0 b → N b) → Agree N0 E0 E →
   n0 + ops.size ≤ n → (∀ b,N b → N0 b ∨ n0 ≤ b) → (∀ b,N0 b → b < n0) → (∀ i,i < ops.size → listed.getD i true = false → ¬ N (n0 + i)) → Down ops listed →
   (∀ N' E' a' w',Ext N0 E0 n0 N' E' n' → FRel N' E' sz fr' a' → HRel P N' E' w0 h' w' → Q .normal a' w') → wpAnyN P ops Q (keeps P N0 E0 w0 h0 ops hold) k listed a w:=by
 intro k
 induction k with
 | zero =>
   intro listed fr h n N E a w he hF hr hb hs ha hn0 hnew hb0 hun hd hK
   simp only [evRest] at he
   split at he
   ·rename_i hready
    simp only [Option.some.injEq,Prod.mk.injEq] at he
    obtain ⟨rfl,rfl,rfl⟩:=he
    exact ⟨hready,hK N E a w ⟨hs,hnew,hb,by omega,ha⟩ hF hr⟩
   ·simp at he
 | succ k ih =>
   intro listed fr h n N E a w he hF hr hb hs ha hn0 hnew hb0 hun hd hK
   simp only [evRest] at he
   split at he
   ·rename_i hready
    simp only [Option.some.injEq,Prod.mk.injEq] at he
    obtain ⟨rfl,rfl,rfl⟩:=he
    exact ⟨fun _=>hK N E a w ⟨hs,hnew,hb,by omega,ha⟩ hF hr,by rw [hready]; simp⟩
   ·rename_i i0 rest hready
    have unlist:∀ j (N2:Nat → Prop),(∀ i,i < ops.size → (listed.setIfInBounds j true).getD i true = false → i ≠ j ∧ listed.getD i true = false):=fun j N2 i hi hl=>by
     by_cases e:j = i
     ·subst e
      simp only [Array.getD_eq_getD_getElem?] at hl
      by_cases hj:j < listed.size
      ·simp [hj] at hl
      ·simp at hl
     ·rw [getD_set_ne true e] at hl; exact ⟨Ne.symm e,hl⟩
    split at he
    ·rename_i j o v hfp
     rw [fA_eq] at he
     split at he
     ·rename_i fr1 l1 hput hl1
      simp only [Option.some.injEq] at hl1
      subst hl1
      obtain ⟨i1,i2,i3,i4⟩:=firstPure_sound hfp
      have i1:j ∈ Region.ready .any ops listed:=by rw [hready]; exact i1
      obtain ⟨u,hu,hy⟩:∃ u,Rel N E v u ∧ YieldsIf P ops (fun _=>True) o u a:=by
       rcases i4 with ⟨hw,hs⟩ | ⟨hw,rfl⟩
       ·obtain ⟨u,h1,h2⟩:=apure_sound hF hs
        exact ⟨u,h1,.inl ⟨wanted_sound hF hw,fun w' _=>h2 w'⟩⟩
       ·exact ⟨undef,undef_rel,.inr ⟨wanted_sound hF hw,rfl⟩⟩
      refine wpAnyN_first (fun _=>True) i2 (Region.noSelect_spec hsel) (fun c a' w' hq=>hQ c _ _ w' hq) (fun w=>keeps_self j w) (fun _ _ _ _ _ _=>trivial) k listed a w hd (Region.free_spec i2 i3) i1 hy trivial ?_
      exact ih _ fr1 h n N E _ w he (put_sound hF hu hput) hr hb hs ha hn0 hnew hb0 (fun i hi hl=>hun i hi (unlist j N i hi hl).2) (hd.set i1) hK
     ·simp at he
    ·have hj:=joinAll_eq he
     refine ⟨fun h0=>(by rw [hready] at h0; cases h0),fun i hi=>?_⟩
     have hi':=hi
     rw [hready] at hi'
     have he:=hj i hi'
     obtain ⟨hiu,oi,hoi,hall⟩:=mem_ready.1 hi
     have hilt:i < ops.size:=(Array.getElem?_eq_some_iff.1 hoi).1
     simp only [hoi] at he
     rw [fA_eq] at he
     split at he
     ·rename_i fr1 h1 n1 l1 hst hl1
      simp only [Option.some.injEq] at hl1
      subst hl1
      split at he
      ·rename_i hheld
       unfold wpOp
       simp only [hoi]
       have hnm:=hun i hilt hiu
       have:=evStep_sound hG hX hN hrec (K:=fun a' w'=>keeps P N0 E0 w0 h0 ops hold i w w' ∧ wpAnyN P ops Q (keeps P N0 E0 w0 h0 ops hold) k (listed.setIfInBounds i true) a' w') (Q:=Q) hst hF hr hb hnm
        (fun N1 E1 a1 w1 s1 s2 s3 s4 s5 f1 r1=>?_)
       ·split
        ·rename_i hw; rw [if_pos hw] at this; exact .inl this
        ·rename_i hw; rw [if_neg hw] at this; exact this
       ·have hs1:∀ b,N0 b → N1 b:=fun b hb'=>s1 b (hs b hb')
        have ha1:Agree N0 E0 E1:=ha.trans s5 hs
        refine ⟨⟨fun _=>r1.below,fun p hp hq _=>heldAll_sound hr0 r1 hs1 ha1 hheld p hp hq⟩,?_⟩
        refine ih _ fr1 h1 n1 N1 E1 a1 w1 he f1 r1 s3 hs1 ha1 (by omega) (fun b hb'=>?_) hb0 (fun i' hi' hl' hN1=>?_) (hd.set hi) hK
        ·rcases s2 b hb' with q | q | q
         ·exact hnew b q
         ·exact .inr (by omega)
         ·exact .inr (by omega)
        ·obtain ⟨e1,e2⟩:=unlist i N1 i' hi' hl'
         rcases s2 _ hN1 with q | q | q
         ·exact hun i' hi' e2 q
         ·exact e1 (by omega)
         ·omega
      ·simp at he
     ·simp at he
theorem evDraw_sound (hm:P.follows .mixedOrders = true) (hG:GOk G w0) (hX:XSound P X) (hN:NamesOk P) (hrec:RecSound P w0 rec) {id:Nat} {Q:Exit → Act → World → Prop}
 (hQ:∀ c a a' w,Q (.panic c) a w → Q (.panic c) a' w) (he:evDraw P G X rec sz ops fr h n = some (fr',h',n')) (hF:FRel N E sz fr a) (hr:HRel P N E w0 h w) (hb:∀ b,N b → b < n)
 (hK:∀ N' E' a' w',Ext N E n N' E' n' → FRel N' E' sz fr' a' → HRel P N' E' w0 h' w' → Q .normal a' w'):(Code.region id ops true).wp P Q a w:=by
 have hrd:HRel P N E w0 h { w with drawn:=w.drawn + 1 }:=hr.same rfl rfl rfl rfl
 unfold evDraw at he
 split at he
 ·rename_i rs hrs
  rw [readyQ_eq hrs,freeQ_eq hrs] at he
  split at he
  ·rename_i k listed fr1 hold hsel htk
   simp only [fN_eq] at he
   refine wp_region_any hm (wpAny_of_N _ _ _ _ (evTakes_sound hG hrd hsel hQ hold _ _ _ _ _ htk (fun _ h=>h) hF (Down.start _) (fun a' hF' hd'=>?_)).2)
   refine evRest_sound hG hX hN hrec hsel hrd hQ k listed fr1 h (n + ops.size) N E a' _ he hF' hrd (fun b hb'=>by have:=hb b hb'; omega) (fun _ h=>h) (.refl N E) (Nat.le_refl _) (fun b hb'=>.inl hb') hb
    (fun i hi _ hq=>by have:=hb _ hq; omega) hd' hK
  ·simp at he
 ·simp at he
theorem evRegion_sound (hm:P.follows .mixedOrders = true) (hG:GOk G w0) (hX:XSound P X) (hN:NamesOk P) (hrec:RecSound P w0 rec) {id:Nat} {draw:Bool} {Q:Exit → Act → World → Prop}
 (hQ:∀ c a a' w,Q (.panic c) a w → Q (.panic c) a' w) (he:evRegion P G X rec sz ops draw fr h n = some (fr',h',n')) (hF:FRel N E sz fr a) (hr:HRel P N E w0 h w) (hb:∀ b,N b → b < n)
 (hK:∀ N' E' a' w',Ext N E n N' E' n' → FRel N' E' sz fr' a' → HRel P N' E' w0 h' w' → Q .normal a' w'):(Code.region id ops draw).wp P Q a w:=by
 unfold evRegion at he
 split at he
 ·exact wp_region_list (evList_sound hG hX hN hrec _ _ _ _ _ _ _ _ he hF hr hb hK)
 ·have hrd:HRel P N E w0 h { w with drawn:=w.drawn + 1 }:=hr.same rfl rfl rfl rfl
  split at he
  ·rename_i fr1 hst
   split at he
   ·rename_i hlex
    simp only [Option.some.injEq,Prod.mk.injEq] at he
    obtain ⟨rfl,rfl,rfl⟩:=he
    exact wp_region_still hm hlex (evStill_sound hG hrd _ _ _ hst hF (fun a' hF'=>hK N E a' _ (.refl hb) hF' hrd))
   ·exact evDraw_sound hm hG hX hN hrec hQ he hF hr hb hK
  ·exact evDraw_sound hm hG hX hN hrec hQ he hF hr hb hK
end
end Go.Sym
namespace Go.Sym
open Go RowKit
def AX.exit':AX → Exit
 | .normal=>.normal
 | .exit id=>.exit id
 | .ret=>.ret
section
variable {P:Program} {G:Nat → Option (List Value)} {X:FuncId → Option (List AV → Option AV)} {rec:FuncId → List AV → Hp → Nat → Option (AV × Hp × Nat)}
variable {N N':Nat → Prop} {E E':Env} {w0 w w':World} {h h':Hp} {sz n n' nm:Nat} {fr fr':Fr} {a:Act} {ops:Array Oper}
/-- A step of code, told. -/
def CodeSound (P:Program) (w0:World) (sz:Nat) (c:Code) (step:Fr → Hp → Nat → Res):Prop:=
 ∀ fr h n ax fr' h' n', step fr h n = some (ax, fr', h', n') → ∀ (N : Nat → Prop) (E : Env) (a : Act) (w : World) (Q : Exit → Act → World → Prop), (∀ c a a' w, Q (.panic c) a w → Q (.panic c) a' w) →
   FRel N E sz fr a → HRel P N E w0 h w → (∀ b,N b → b < n) →
   (∀ N' E' a' w',Ext N E n N' E' n' → FRel N' E' sz fr' a' → HRel P N' E' w0 h' w' → Q ax.exit' a' w') → c.wp P Q a w
theorem loop_sound {c:Code} {step:Fr → Hp → Nat → Res} (hc:CodeSound P w0 sz c step):∀ (k:Nat) (fr:Fr) (h:Hp) (n:Nat) {ax:AX} {fr':Fr} {h':Hp} {n':Nat},evLoop step k fr h n = some (ax,fr',h',n') →
 ∀ (N:Nat → Prop) (E:Env) (a:Act) (w:World) (Q:Exit → Act → World → Prop),(∀ c a a' w,Q (.panic c) a w → Q (.panic c) a' w) → FRel N E sz fr a → HRel P N E w0 h w → (∀ b,N b → b < n) →
 (∀ N' E' a' w',Ext N E n N' E' n' → FRel N' E' sz fr' a' → HRel P N' E' w0 h' w' → Q ax.exit' a' w') → Code.rounds P c Q k a w
 | 0,_,_,_,_,_,_,_,he=>by simp [evLoop] at he
 | k + 1, fr, h, n, ax, fr', h', n', he => by
   intro N E a w Q hQ hF hr hb hK
   simp only [evLoop] at he
   rw [rounds_succ]
   split at he
   ·rename_i fr1 h1 n1 hs
    refine hc _ _ _ _ _ _ _ hs N E a w _ (fun c a a' w hq=>hQ c a a' w hq) hF hr hb (fun N1 E1 a1 w1 hx hF1 hr1=>?_)
    exact loop_sound hc k fr1 h1 n1 he N1 E1 a1 w1 Q hQ hF1 hr1 hx.bd (fun N' E' a' w' hx'=>hK N' E' a' w' (hx.trans hx'))
   ·rename_i r hne
    cases ax with
    | normal=>exact absurd he (hne _ _ _)
    | exit id=>exact hc _ _ _ _ _ _ _ he N E a w _ (fun c a a' w hq=>hQ c a a' w hq) hF hr hb hK
    | ret=>exact hc _ _ _ _ _ _ _ he N E a w _ (fun c a a' w hq=>hQ c a a' w hq) hF hr hb hK
theorem evCode_sound (hm:P.follows .mixedOrders = true) (hG:GOk G w0) (hX:XSound P X) (hN:NamesOk P) (hrec:RecSound P w0 rec):∀ c:Code,CodeSound P w0 sz c (fun fr h n=>evCode P G X rec sz c fr h n):=by
 intro c
 induction c with
 | skip =>
   intro fr h n ax fr' h' n' he N E a w Q hQ hF hr hb hK
   simp only [evCode,Option.some.injEq,Prod.mk.injEq] at he
   obtain ⟨rfl,rfl,rfl,rfl⟩:=he
   exact wp_skip (hK N E a w (.refl hb) hF hr)
 | label l =>
   intro fr h n ax fr' h' n' he N E a w Q hQ hF hr hb hK
   simp only [evCode,Option.some.injEq,Prod.mk.injEq] at he
   obtain ⟨rfl,rfl,rfl,rfl⟩:=he
   exact wp_label (hK N E a w (.refl hb) hF hr)
 | exit id =>
   intro fr h n ax fr' h' n' he N E a w Q hQ hF hr hb hK
   simp only [evCode,Option.some.injEq,Prod.mk.injEq] at he
   obtain ⟨rfl,rfl,rfl,rfl⟩:=he
   exact wp_exit (hK N E a w (.refl hb) hF hr)
 | ret =>
   intro fr h n ax fr' h' n' he N E a w Q hQ hF hr hb hK
   simp only [evCode,Option.some.injEq,Prod.mk.injEq] at he
   obtain ⟨rfl,rfl,rfl,rfl⟩:=he
   exact wp_ret (hK N E a w (.refl hb) hF hr)
 | region id ops draw =>
   intro fr h n ax fr' h' n' he N E a w Q hQ hF hr hb hK
   simp only [evCode] at he
   split at he
   ·rename_i fr1 h1 n1 hs
    simp only [Option.some.injEq,Prod.mk.injEq] at he
    obtain ⟨rfl,rfl,rfl,rfl⟩:=he
    exact evRegion_sound hm hG hX hN hrec hQ hs hF hr hb hK
   ·simp at he
 | seq x y ihx ihy =>
   intro fr h n ax fr' h' n' he N E a w Q hQ hF hr hb hK
   simp only [evCode] at he
   split at he
   ·rename_i fr1 h1 n1 hs
    refine wp_seq (ihx _ _ _ _ _ _ _ hs N E a w _ (fun c a a' w hq=>hQ c a a' w hq) hF hr hb (fun N1 E1 a1 w1 hx hF1 hr1=>?_))
    exact ihy _ _ _ _ _ _ _ he N1 E1 a1 w1 Q hQ hF1 hr1 hx.bd (fun N' E' a' w' hx'=>hK N' E' a' w' (hx.trans hx'))
   ·rename_i r hne
    refine wp_seq ?_
    cases ax with
    | normal=>exact absurd he (hne _ _ _)
    | exit id=>exact ihx _ _ _ _ _ _ _ he N E a w _ (fun c a a' w hq=>hQ c a a' w hq) hF hr hb hK
    | ret=>exact ihx _ _ _ _ _ _ _ he N E a w _ (fun c a a' w hq=>hQ c a a' w hq) hF hr hb hK
 | cond c x y ihx ihy =>
   intro fr h n ax fr' h' n' he N E a w Q hQ hF hr hb hK
   simp only [evCode] at he
   split at he
   ·rename_i hc
    exact wp_cond_true (hF.eval hc).lit_eq (ihx _ _ _ _ _ _ _ he N E a w Q hQ hF hr hb hK)
   ·rename_i hc
    exact wp_cond_false (hF.eval hc).lit_eq (ihy _ _ _ _ _ _ _ he N E a w Q hQ hF hr hb hK)
   ·simp at he
 | block id c ih =>
   intro fr h n ax fr' h' n' he N E a w Q hQ hF hr hb hK
   simp only [evCode] at he
   refine wp_block ?_
   split at he
   ·rename_i id' fr1 h1 n1 hs
    split at he
    ·rename_i hid
     have hid:=beq_iff.1 hid
     subst hid
     simp only [Option.some.injEq,Prod.mk.injEq] at he
     obtain ⟨rfl,rfl,rfl,rfl⟩:=he
     refine ih _ _ _ _ _ _ _ hs N E a w _ (fun c a a' w hq=>hQ c a a' w hq) hF hr hb (fun N' E' a' w' hx hF' hr'=>?_)
     show (if id' = id' then Q .normal a' w' else Q (.exit id') a' w')
     rw [if_pos rfl]
     exact hK N' E' a' w' hx hF' hr'
    ·rename_i hid
     simp only [Option.some.injEq,Prod.mk.injEq] at he
     obtain ⟨rfl,rfl,rfl,rfl⟩:=he
     refine ih _ _ _ _ _ _ _ hs N E a w _ (fun c a a' w hq=>hQ c a a' w hq) hF hr hb (fun N' E' a' w' hx hF' hr'=>?_)
     show (if id' = id then Q .normal a' w' else Q (.exit id') a' w')
     rw [if_neg (fun e=>by subst e; simp at hid)]
     exact hK N' E' a' w' hx hF' hr'
   ·rename_i r hne
    cases ax with
    | normal=>exact ih _ _ _ _ _ _ _ he N E a w _ (fun c a a' w hq=>hQ c a a' w hq) hF hr hb hK
    | exit id'=>exact absurd he (hne _ _ _ _)
    | ret=>exact ih _ _ _ _ _ _ _ he N E a w _ (fun c a a' w hq=>hQ c a a' w hq) hF hr hb hK
 | loop c ih =>
   intro fr h n ax fr' h' n' he N E a w Q hQ hF hr hb hK
   simp only [evCode] at he
   exact wp_loop_rounds _ (loop_sound ih _ _ _ _ he N E a w Q hQ hF hr hb hK)
 | _=>intro fr h n ax fr' h' n' he; simp [evCode] at he
def resSem (tmps:Array Value):ResultVar → Sem Value
 | .tmp t=>pure (tmps.getD t undef)
 | .cell x t=>do loadVar t (← asAddr (tmps.getD x undef))
theorem loadA_sound (hF:FRel N E sz fr a) (hr:HRel P N E w0 h w) {r:ResultVar} {av:AV} (he:loadA P G h fr r = some av) :
 ∃ v,Rel N E av v ∧ (resSem a.tmps r).run P w = .ok v w:=by
 have getD:∀ t v,a.tmps[t]? = some v → a.tmps.getD t undef = v:=fun t v ht=>by simp [Array.getD_eq_getD_getElem?,ht]
 cases r with
 | tmp t =>
   simp only [loadA] at he
   obtain ⟨v,h1,h2⟩:=hF.get t _ he
   exact ⟨v,h2,by show Sem.run P (pure (a.tmps.getD t undef)) w = _; rw [getD t v h1]; rfl⟩
 | cell x t =>
   simp only [loadA] at he
   split at he
   ·rename_i b off hx
    obtain ⟨v,h1,h2⟩:=hF.get x _ hx
    have:=h2.ptr_inv
    subst this
    simp only [aload] at he
    split at he
    ·rename_i cells e opn hb
     obtain ⟨vs,rest,fz,g1,g2,-⟩:=hr.row b _ _ _ hb
     obtain ⟨u,k1,k2⟩:=loadVar_row (P:=P) (g:=E.ρ b) g2 he
     refine ⟨u,k1,?_⟩
     show Sem.run P (do loadVar t (← asAddr (a.tmps.getD x undef))) w = _
     rw [getD x _ h1,Sem.run_bind]
     simp only [asAddr,Sem.run_pure,Result.andThen_ok]
     exact k2 w rest e fz g1
    ·simp at he
   ·simp at he
theorem loadAll_sound (hF:FRel N E sz fr a) (hr:HRel P N E w0 h w):∀ (l:List ResultVar) (avs:List AV),loadAll P G h fr l = some avs →
 ∃ vs,RelL N E avs vs ∧ (l.mapM (resSem a.tmps)).run P w = .ok vs w
 | [], avs, he => by
   simp only [loadAll,Option.some.injEq] at he
   subst he
   exact ⟨[],.nil,by simp⟩
 | r :: l, avs, he => by
   simp only [loadAll] at he
   split at he
   ·rename_i v hv
    split at he
    ·rename_i vs hvs
     simp only [Option.some.injEq] at he
     subst he
     obtain ⟨u,h1,h2⟩:=loadA_sound hF hr hv
     obtain ⟨us,k1,k2⟩:=loadAll_sound hF hr l vs hvs
     refine ⟨u :: us,.cons h1 k1,?_⟩
     simp only [List.mapM_cons]
     rw [Sem.run_bind,h2]
     simp only [Result.andThen_ok]
     rw [Sem.run_bind,k2]
     simp
    ·simp at he
   ·simp at he
theorem results_sound (hF:FRel N E sz fr a) (hr:HRel P N E w0 h w) {fn:Func} {avs:List AV} (he:loadAll P G h fr fn.results.toList = some avs) :
 ∃ v,Rel N E (pack avs) v ∧ (results fn a.tmps).run P w = .ok v w:=by
 obtain ⟨vs,k1,k2⟩:=loadAll_sound hF hr _ _ he
 have hl:=k1.length
 have hdef:results fn a.tmps = (do let vs ← fn.results.mapM (resSem a.tmps); pure (if h:vs.size = 1 then vs[0] else .tuple vs)):=rfl
 rw [hdef,Array.mapM_eq_mapM_toList]
 rcases avs with _ | ⟨x,_ | ⟨y,l⟩⟩
 ·obtain rfl:=k1.nil_eq
  refine ⟨.tuple #[],Rel.tp .nil,?_⟩
  rw [Sem.run_bind,Sem.run_map,k2]
  simp
 ·obtain ⟨v,us,rfl,h1,h2⟩:=k1.cons_inv
  obtain rfl:=h2.nil_eq
  refine ⟨v,h1,?_⟩
  rw [Sem.run_bind,Sem.run_map,k2]
  simp
 ·refine ⟨.tuple vs.toArray,Rel.tp k1,?_⟩
  rw [Sem.run_bind,Sem.run_map,k2]
  simp only [Result.andThen_ok,Sem.run_pure]
  congr 1
  rw [dif_neg]
  simp at hl ⊢
  omega
theorem layArgs_sound {vs0:List Value}:∀ (l:List AV) (k:Nat) (fr:Fr) (us:List Value) {fr':Fr},layArgs l k fr = some fr' → RelL N E l us → (∀ j v,us[j]? = some v → vs0[k + j]? = some v) →
 (∀ t av,fr.get t = some av → ∃ v,vs0[t]? = some v ∧ Rel N E av v) → ∀ t av,fr'.get t = some av → ∃ v,vs0[t]? = some v ∧ Rel N E av v
 | [], k, fr, us, fr', he, _, _, hfr => by
   simp only [layArgs,Option.some.injEq] at he
   subst he
   exact hfr
 | v :: l, k, fr, us, fr', he, hl, hu, hfr => by
   simp only [layArgs] at he
   split at he
   ·rename_i fr1 hset
    obtain ⟨u,us',rfl,h1,h2⟩:=hl.cons_inv
    refine layArgs_sound l (k + 1) fr1 us' he h2 (fun j x hj=>?_) (fun t av ht=>?_)
    ·have:=hu (j + 1) x (by simpa using hj)
     simpa [Nat.add_assoc,Nat.add_comm 1 j] using this
    ·by_cases e:t = k
     ·subst e
      rw [T.get_set_eq hset] at ht
      simp only [Option.some.injEq] at ht
      subst ht
      exact ⟨u,by have:=hu 0 u (by simp); simpa using this,h1⟩
     ·rw [T.get_set_ne hset e] at ht
      exact hfr t av ht
   ·simp at he
/-- **A call that is reckoned out.** -/
theorem evCall_sound (hm:P.follows .mixedOrders = true) (hG:GOk G w0) (hX:XSound P X) (hN:NamesOk P):∀ k,RecSound P w0 (evCall P G X k):=by
 intro k
 induction k with
 | zero=>intro f args h n v h' n' he; simp [evCall] at he
 | succ k ih =>
   intro f args h n v h' n' he
   simp only [evCall] at he
   split at he
   ·simp at he
   ·rename_i fn hfn
    split at he
    ·simp at he
    ·rename_i c hbody
     refine ⟨⟨fn,hfn,by rw [hbody]; rfl⟩,fun N E w vs hb hr hvs=>?_⟩
     split at he
     ·rename_i fr sz' hlay hsz
      rw [fN_eq] at hsz
      simp only [Option.some.injEq] at hsz
      subst hsz
      refine calls_of_wp hfn hbody ?_
      have hlen:=hvs.length
      have hF:FRel N E (args.length + (fn.ntmps - args.length)) fr { tmps:=vs.toArray ++ Array.replicate (fn.ntmps - vs.toArray.size) undef,defers:=[] }:=by
       refine ⟨rfl,by simp [hlen],fun t av ht=>?_⟩
       obtain ⟨u,h1,h2⟩:=layArgs_sound (vs0:=vs) args 0 .e vs hlay hvs (fun j v hj=>by simpa using hj) (fun t av ht=>by rw [T.get_e] at ht; cases ht) t av ht
       refine ⟨u,?_,h2⟩
       have:t < vs.length:=(List.getElem?_eq_some_iff.1 h1).1
       rw [Array.getElem?_append_left (by simpa using this)]
       simpa using h1
      have fin:∀ (fr1:Fr) (h1:Hp) (n1:Nat),(match loadAll P G h1 fr1 fn.results.toList with
       | some vs=>some (pack vs,h1,n1)
       | none=>none) = some (v,h',n') → ∀ N' E' a' w',Ext N E n N' E' n1 → FRel N' E' (args.length + (fn.ntmps - args.length)) fr1 a' → HRel P N' E' w0 h1 w' →
       a'.defers = [] ∧ ∃ u,(results fn a'.tmps).run P w' = .ok u w' ∧ ∃ N' E' u',Ending.returned u = .returned u' ∧ Ext N E n N' E' n' ∧ Rel N' E' v u' ∧ HRel P N' E' w0 h' w':=by
       intro fr1 h1 n1 hq N' E' a' w' hx hF' hr'
       refine ⟨hF'.defers,?_⟩
       cases hl:loadAll P G h1 fr1 fn.results.toList with
       | none=>simp [hl] at hq
       | some avs =>
         rw [hl] at hq
         obtain ⟨u,k1,k2⟩:=results_sound hF' hr' hl
         simp only [Option.some.injEq,Prod.mk.injEq] at hq
         obtain ⟨e1,rfl,rfl⟩:=hq
         rw [e1] at k1
         exact ⟨u,k2,N',E',u,rfl,hx,k1,hr'⟩
      split at he
      ·rename_i fr1 h1 n1 hc
       exact evCode_sound hm hG hX hN ih c _ _ _ _ _ _ _ hc N E _ w _ (fun c a a' w hq=>by obtain ⟨_,_,_,_,hq,_⟩:=hq; cases hq) hF hr hb (fin fr1 h1 n1 he)
      ·rename_i fr1 h1 n1 hc
       exact evCode_sound hm hG hX hN ih c _ _ _ _ _ _ _ hc N E _ w _ (fun c a a' w hq=>by obtain ⟨_,_,_,_,hq,_⟩:=hq; cases hq) hF hr hb (fin fr1 h1 n1 he)
      ·simp at he
     ·simp at he
/-- The same, for a call from the world that is at hand. -/
theorem call_done (hm:P.follows .mixedOrders = true) (hG:GOk G w) (hX:XSound P X) (hN:NamesOk P) {k:Nat} {f:FuncId} {v:Value} {h':Hp} {n':Nat} (he:evCall P G X k f [] .e 0 = some (.lit v,h',n')) :
 Calls P f #[] w fun e w'=>e = .returned v ∧ Below w.heap.size w w':=by
 have hr:HRel P (fun _=>False) ⟨fun _=>0,fun _=>0,fun _=>default⟩ w .e w:=
  ⟨fun b cells e opn hb=>(by rw [T.get_e] at hb; cases hb),fun b s pos hb=>(by rw [T.get_e] at hb; cases hb),fun b x hb=>(by rw [T.get_e] at hb; cases hb),
   fun b b' x y hb=>(by rw [T.get_e] at hb; cases hb),Below.refl _ _⟩
 refine ((evCall_sound hm hG hX hN k f [] .e 0 _ h' n' he).2 _ _ w [] (fun b hb=>hb.elim) hr .nil).mono ?_
 rintro e w' ⟨N',E',u,rfl,-,hu,hr'⟩
 exact ⟨by rw [hu.lit_eq],hr'.below⟩
end
/-! ## Functions that the translation has no body of -/
/-- Told by the row that stands for it, where all that it is handed is known. -/
def xLits (P:Program) (ex:Array Value → Sem Value):List AV → Option AV:=fun args=>match allLits args with
 | some vs => match pureRun P (ex vs.toArray) with
   | some v=>litOf v
   | none=>none
 | none=>none
/-- It hands back what it is handed. -/
def xSame:List AV → Option AV
 | [v]=>some v
 | _=>none
section
variable {P:Program}
theorem xLits_sound {f : FuncId} {fn : Func} {ex : Array Value → Sem Value} (hf : P.funcs[f]? = some fn) (hname : (fn.name == "runtime.NumGoroutine") = false) (hb : fn.body.isNone = true)
 (hn:Extern.findNext fn = none) (he:Extern.find fn = some ex) {args:List AV} {v:AV} (hx:xLits P ex args = some v) (N:Nat → Prop) (E:Env) (vs:List Value) (hvs:RelL N E args vs) :
 ∃ u,Rel N E v u ∧ ∀ w,(callFunc f vs.toArray).run P w = .ok (.value u) w:=by
 unfold xLits at hx
 split at hx
 ·rename_i us hl
  split at hx
  ·rename_i u hu
   rw [litOf_eq] at hx
   simp only [Option.some.injEq] at hx
   subst hx
   have e1:=allLits_eq _ _ hl
   subst e1
   have e2:vs = us:=hvs.now.symm.trans (RelL.lits (N:=N) (E:=E) us).now
   subst e2
   refine ⟨u,.lit u,fun w=>?_⟩
   rw [run_callFunc_extern hf hname hb hn he,pureRun_run P _ _ hu w]
   rfl
  ·simp at hx
 ·simp at hx
theorem xSame_sound {f : FuncId} {fn : Func} (hf : P.funcs[f]? = some fn) (hname : (fn.name == "runtime.NumGoroutine") = false) (hb : fn.body.isNone = true)
 (hn:Extern.findNext fn = none) (he:Extern.find fn = some Extern.AbiNoEscape.same) {args:List AV} {v:AV} (hx:xSame args = some v) (N:Nat → Prop) (E:Env) (vs:List Value) (hvs:RelL N E args vs) :
 ∃ u,Rel N E v u ∧ ∀ w,(callFunc f vs.toArray).run P w = .ok (.value u) w:=by
 unfold xSame at hx
 split at hx
 ·simp only [Option.some.injEq] at hx
  subst hx
  obtain ⟨u,us,rfl,h1,h2⟩:=hvs.cons_inv
  obtain rfl:=h2.nil_eq
  refine ⟨u,h1,fun w=>?_⟩
  rw [run_callFunc_extern hf hname hb hn he,Lib.run_noEscape]
  rfl
 ·simp at hx
theorem names_ok {l : Array Func} (h : (l.all fun fn => !(fn.name == "runtime.NumGoroutine")) = true) (hP : P.funcs = l) : NamesOk P := by
 intro f fn hf e
 rw [hP] at hf
 have:=Array.all_eq_true_iff_forall_mem.1 h fn (Array.mem_of_getElem? hf)
 simp [e] at this
end
end Go.Sym
