/- Coefficients as they lie in memory: rows that a call makes, what append and cuts do to them; which texts the reference reads, of any length. What coefs of the law file returns: some coefficients by rising columns, each a fraction's text. Matrices as they lie in memory: lines, rows of lines, rows of texts; what stays while a block of a call's own is written. -/
import Derived.Test.YtcnjcfoaoaldeaaGreatDoorVo
import Derived.Test.YtcnjcfoaoaldeaaGreatDoorRh
import Derived.LoopTactic
import Derived.Test.YtcnjcfoaoaldeaaGreatDoorMm
import Derived.Laws.MakeOwn
set_option linter.unusedVariables false
namespace Go.Proofs.Vt
open Go.RowKit Go.Proofs.Wd Go.Proofs.Fr
/-- What is longer than a fraction's text is none. -/
theorem bad_long {s:ByteArray} (h:4002 < s.size):Tx.plainB (upper s) = false ∨ (stroke (size s) < (size s).size ∧ Tx.plainB (lower s) = false):=by
 have hs:s.size ≤ (size s).size + 1:=by
  unfold size
  split
  ·rw [ByteArray.size_extract]; omega
  ·omega
 have hk:=stroke_le (size s)
 by_cases h1:Tx.plainB (upper s) = false
 ·exact .inl h1
 ·have h2:=(Tx.plainB_true.1 (by simpa using h1)).2
  unfold upper at h2
  rw [ByteArray.size_extract] at h2
  refine .inr ⟨by omega,?_⟩
  refine Tx.plainB_false (fun g=>?_)
  have h3:=g.2
  unfold lower at h3
  rw [ByteArray.size_extract] at h3
  omega
theorem getQ_bad {s:ByteArray} (h:Tx.plainB (upper s) = false ∨ (stroke (size s) < (size s).size ∧ Tx.plainB (lower s) = false)):getQ s = none:=by
 rcases h with h | ⟨h1,h2⟩
 ·exact getQ_no (.inl h)
 ·exact getQ_no2 h1 (.inl h2)
theorem getQ_size {s:ByteArray} {q:Rat} (h:getQ s = some q):s.size ≤ 4002:=by
 by_cases hs:s.size ≤ 4002
 ·exact hs
 ·rw [getQ_bad (bad_long (by omega))] at h; simp at h
theorem QIs.agg {w:World} {v:Value} {q:Rat} {n:Nat} (h:QIs w v q n):∃ neg p2 n2 c2 p3 n3 c3,v = .agg #[.bool neg,.slice p2 n2 c2,.slice p3 n3 c3]:=by
 obtain ⟨neg,N,D,z,d,h1,h2,h3,h4⟩:=h
 obtain ⟨p2,n2,c2,rfl⟩:=h2.slice
 obtain ⟨p3,n3,c3,rfl⟩:=h3.slice
 exact ⟨neg,p2,n2,c2,p3,n3,c3,h1⟩
theorem RGetA.parts {s:ByteArray} {w:World} {e:Ending} (h:RGetA s w e):∃ neg p2 n2 c2 p3 n3 c3 bok,e = .returned (.tuple #[.agg #[.bool neg,.slice p2 n2 c2,.slice p3 n3 c3],.bool bok]) ∧ bok = (getQ s).isSome ∧ ∀ q,getQ s = some q → QIs w (.agg #[.bool neg,.slice p2 n2 c2,.slice p3 n3 c3]) q 500:=by
 rcases h with ⟨q,v,h1,rfl,h3⟩ | ⟨h1,a,n,c,rfl⟩
 ·obtain ⟨neg,p2,n2,c2,p3,n3,c3,rfl⟩:=QIs.agg h3
  exact ⟨neg,p2,n2,c2,p3,n3,c3,true,rfl,by rw [h1]; rfl,fun q' hq=>by rw [h1] at hq; obtain rfl:=Option.some.inj hq; exact h3⟩
 ·exact ⟨false,none,0,0,a,n,c,false,rfl,by rw [h1]; rfl,fun q' hq=>by rw [h1] at hq; simp at hq⟩
/-- The text of a text's fraction is that text. -/
theorem text_own {s:ByteArray} {q:Rat} (h:getQ s = some q):(⟨(textQ q).toArray⟩:ByteArray) = s:=by
 rw [getQ_text h]
theorem Tryz.rQTextA (v:Value) (q:Rat) (n:Nat) (w:World) (h:QIs w v q n) (hn1:1 ≤ n) (hn:n ≤ 40000) :
 Calls Tryz.prog 24 #[v] w fun e w'=>e = .returned (.string ⟨(textQ q).toArray⟩) ∧ Below w.heap.size w w':=by
 obtain ⟨neg,N,D,z,d,rfl,h2,h3,h4,h5,h6⟩:=h
 exact Tryz.rQText neg N D z d n q w h2 h3 h4 h6 hn1 hn
end Go.Proofs.Vt
namespace Go.Proofs.Vt
open Go.RowKit Go.Proofs.Wd Go.Proofs.Fr
def StrsIn (w:World) (v:Value) (ss:List ByteArray):Prop:=
 ∃ p cap,v = .slice p ss.length cap ∧ ss.length ≤ cap ∧ cap ≤ maxLen ∧ (∀ s ∈ ss,s.size ≤ maxLen) ∧ (ss = [] ∨ ∃ b o,p = some ⟨b,o,none⟩ ∧ b < w.heap.size ∧ ∀ j s,ss[j]? = some s → w.cell? ⟨b,o + j,none⟩ = some (.string s))
theorem StrsIn.nth {w:World} {v:Value} {ss:List ByteArray} {j:Nat} {s:ByteArray} (h:StrsIn w v ss) (hj:ss[j]? = some s):∃ b o cap,v = .slice (some ⟨b,o,none⟩) ss.length cap ∧ b < w.heap.size ∧ w.cell? ⟨b,o + j,none⟩ = some (.string s) ∧ s.size ≤ maxLen:=by
 obtain ⟨p,cap,h1,h2,h3,h4,h5⟩:=h
 rcases h5 with rfl | ⟨b,o,rfl,hb,hc⟩
 ·simp at hj
 ·exact ⟨b,o,cap,h1,hb,hc j s hj,h4 s (List.mem_of_getElem? hj)⟩
theorem StrsIn.slice {w:World} {v:Value} {ss:List ByteArray} (h:StrsIn w v ss):∃ p cap,v = .slice p ss.length cap ∧ ss.length ≤ cap ∧ cap ≤ maxLen:=by
 obtain ⟨p,cap,h1,h2,h3,-⟩:=h; exact ⟨p,cap,h1,h2,h3⟩
theorem StrsIn.below {w w':World} {v:Value} {ss:List ByteArray} (h:StrsIn w v ss) (hb:Below w.heap.size w w'):StrsIn w' v ss:=by
 obtain ⟨p,cap,h1,h2,h3,h4,h5⟩:=h
 refine ⟨p,cap,h1,h2,h3,h4,?_⟩
 rcases h5 with h5 | ⟨b,o,g1,g2,g3⟩
 ·exact .inl h5
 ·exact .inr ⟨b,o,g1,Nat.lt_of_lt_of_le g2 hb.size,fun j z hj=>by rw [hb.cell g2]; exact g3 j z hj⟩
theorem getQ_nought:getQ ⟨#[48]⟩ = some 0:=by
 have hs:size ⟨#[48]⟩ = ⟨#[48]⟩:=by unfold size; rw [if_neg (by decide)]
 have hk:stroke ⟨#[48]⟩ = 1:=by unfold stroke; decide
 have hu:upper ⟨#[48]⟩ = ⟨#[48]⟩:=by unfold upper; rw [hs,hk]; rfl
 have hd:Lib.decDigits 0 = [48]:=by simp [Lib.decDigits]
 have hp:Tx.plainB ⟨#[48]⟩ = true:=Tx.plainB_true.2 ⟨by have:=Tx.numeral_dec 0; rw [hd] at this; exact this,by decide⟩
 have hn:Tx.num ⟨#[48]⟩ = 0:=by unfold Tx.num; rfl
 have hm:minus ⟨#[48]⟩ = false:=by unfold minus; decide
 have:=getQ_whole (s:=⟨#[48]⟩) (by rw [hs,hk]; decide) (by rw [hu]; exact hp) (by rw [hm]; simp)
 rw [this,hu,hn,hm]
 rfl
end Go.Proofs.Vt
namespace Go.Proofs.Mt
open Go.RowKit Go.Proofs.Wd Go.Proofs.Fr Go.Proofs.Vt Go.Proofs.Mm
/-- What may stand first in a block that is no part of a fraction. -/
def OddV (w:World) (u:Value):Prop:=(∃ z,u = .int .i64 z) ∨ (∃ n c,u = .slice none n c) ∨ (∃ g o n c cur t,u = .slice (some ⟨g,o,none⟩) n c ∧ CellsAt w g cur t ∧ t ≠ 73) ∨ u = .pointer none ∨ (∃ a b,u = .pointer (some ⟨a,0,none⟩) ∧ w.cell? ⟨a,0,none⟩ = some (.bool b)) ∨ ∃ s,u = .string s
/-- A block that is no part of a fraction. -/
def Odd (w:World) (g:Nat):Prop:=∃ cur t,CellsAt w g cur t ∧ t ≠ 73 ∧ ∀ u,cur[0]? = some u → OddV w u
theorem OddV.of_frac {w:World} {u:Value} {q:Rat} {k:Nat} (h:FracIs w u q k):OddV w u:=by
 rcases h with ⟨rfl,-⟩ | ⟨a,rfl,-,g1,-⟩
 ·exact .inr (.inr (.inr (.inl rfl)))
 ·exact .inr (.inr (.inr (.inr (.inl ⟨a,_,rfl,g1⟩))))
theorem grown_of_below {w w':World} (h:Below w.heap.size w w') (row:Option Nat):w.grownBy w' row:=⟨h.os,h.tape,h.output,h.size,fun k hk _=>h.block k hk⟩
theorem grown_setCell (w:World) (g j:Nat) (u:Value):w.grownBy (w.setCell ⟨g,j,none⟩ u) (some g):=
 ⟨rfl,rfl,rfl,by simp [World.setCell],fun k hk hne=>Below.heap_setCell _ _ _ _ (fun e=>hne (by rw [e]))⟩
theorem grown_trans {a b c:World} {row:Option Nat} (h:a.grownBy b row) (g:b.grownBy c row):a.grownBy c row:=
 ⟨g.os.trans h.os,g.tape.trans h.tape,g.output.trans h.output,Nat.le_trans h.size g.size,fun k hk hne=>(g.block k (Nat.lt_of_lt_of_le hk h.size) hne).trans (h.block k hk hne)⟩
theorem cells_far {w w':World} {B g:Nat} {c:Array Value} {t:TypeId} (h:CellsAt w B c t) (hg:w.grownBy w' (some g)) (hne:B ≠ g):CellsAt w' B c t:=(hg.block B h.lt (by simpa using hne)).trans h
/-- All blocks but some are as they were. -/
structure Keeps (w w':World) (S:Nat → Prop):Prop where
 size:w.heap.size ≤ w'.heap.size
 block:∀ k,k < w.heap.size → ¬S k → w'.heap[k]? = w.heap[k]?
theorem Keeps.cell {w w':World} {S:Nat → Prop} (h:Keeps w w' S) {b j:Nat} {u:Value} (hu:w.cell? ⟨b,j,none⟩ = some u) (hb:¬S b):w'.cell? ⟨b,j,none⟩ = some u:=by
 rw [World.cell?_of_block (h.block b (World.block_lt_of_cell? w _ hu) hb)]; exact hu
theorem Keeps.cells {w w':World} {S:Nat → Prop} (h:Keeps w w' S) {b:Nat} {c:Array Value} {t:TypeId} (hc:CellsAt w b c t) (hb:¬S b):CellsAt w' b c t:=(h.block b hc.lt hb).trans hc
theorem keeps_grown {w w':World} {g:Nat} (h:w.grownBy w' (some g)):Keeps w w' (· = g):=⟨h.size,fun k hk hne=>h.block k hk (by simpa using hne)⟩
theorem num_keeps {w w':World} {v:Value} {z:Int} {n:Nat} {S:Nat → Prop} (h:Num w v z n) (hz:z ≠ 0) (hg:Keeps w w' S) (hr:∀ g,S g → Odd w g):Num w' v z n:=by
 obtain ⟨xs,h1,h2,h3,h4,h5⟩:=h
 refine ⟨xs,?_,h2,h3,h4,h5⟩
 rcases h1 with h1 | ⟨a,s,g1,g2,g3,g4⟩
 ·exact .inl h1
 ·have hx:xs ≠ []:=fun e=>hz (by rw [← h4,e]; rfl)
  have hgt:∀ (b:Nat) (c2:Array Value),w.heap[b]? = some (.cells c2 73 (0,0)) → ¬S b:=fun b c2 hb e=>by
   have hb:CellsAt w b c2 73:=hb
   obtain ⟨cur,t,o1,o2,o3⟩:=hr b e
   have h9:some (Obj.cells cur t (0,0)) = some (Obj.cells c2 73 (0,0)):=o1.symm.trans hb
   simp at h9
   exact o2 h9.2
  have hag:¬S a:=by
   intro e
   obtain ⟨cur,t,o1,o2,o3⟩:=hr a e
   rw [o1.cell] at g3
   obtain ⟨-,g41⟩:=g4
   rcases g41 with ⟨rfl,hn⟩ | ⟨b,cap,c2,rfl,hb,hh,r⟩
   ·exact hx (List.length_eq_zero_iff.1 hn)
   ·rcases o3 _ g3 with ⟨z,e⟩ | ⟨n',c',e⟩ | ⟨g',o',n',c',cur',t',e,e2,e3⟩ | e | ⟨a',b',e,-⟩ | ⟨s',e⟩
    ·simp at e
    ·simp at e
    ·simp only [Value.slice.injEq,Option.some.injEq,Addr.mk.injEq] at e
     obtain ⟨⟨rfl,-⟩,-⟩:=e
     have h9:some (Obj.cells cur' t' (0,0)) = some (Obj.cells c2 73 (0,0)):=e2.symm.trans hh
     simp at h9
     exact e3 h9.2
    ·simp at e
    ·simp at e
    ·simp at e
  refine .inr ⟨a,s,g1,Nat.lt_of_lt_of_le g2 hg.size,hg.cell g3 hag,g4.1,?_⟩
  obtain ⟨-,g41⟩:=g4
  rcases g41 with h | ⟨b,cap,c2,rfl,hb,hh,r⟩
  ·exact .inl h
  ·exact .inr ⟨b,cap,c2,rfl,hb,(hg.block b (Array.getElem?_eq_some_iff.1 hh).1 (hgt b c2 hh)).trans hh,r⟩
/-- A fraction stays while a block is written that is no part of one. -/
theorem frac_keeps {w w':World} {v:Value} {q:Rat} {k:Nat} {S:Nat → Prop} (h:FracIs w v q k) (hg:Keeps w w' S) (hr:∀ g,S g → Odd w g):FracIs w' v q k:=by
 rcases h with h | ⟨a,rfl,g0,g1,h⟩
 ·exact .inl h
 ·have hn : ¬S a := by
   intro e
   obtain ⟨cur,t,o1,o2,o3⟩:=hr a e
   rw [o1.cell] at g1
   rcases o3 _ g1 with ⟨z,e⟩ | ⟨n',c',e⟩ | ⟨g',o',n',c',cur',t',e,e2,e3⟩ | e | ⟨a',b',e,-⟩ | ⟨s',e⟩ <;> simp at e
  have ga:∀ j u,w.cell? ⟨a,j,none⟩ = some u → w'.cell? ⟨a,j,none⟩ = some u:=fun j u hu=>hg.cell hu hn
  have g0':a < w'.heap.size:=Nat.lt_of_lt_of_le g0 hg.size
  rcases h with ⟨e0,e1,e2,e3⟩ | ⟨e0,e1,e2,b',x,y',e3,e4,e5,e6,e7,e8⟩
  ·exact .inr ⟨a,rfl,g0',ga _ _ g1,.inl ⟨e0,ga _ _ e1,ga _ _ e2,ga _ _ e3⟩⟩
  ·have hz1:(q.num.natAbs:Int) ≠ 0:=by have:=long_num e0; omega
   have hz2:(q.den:Int) ≠ 0:=by have:=q.den_pos; omega
   have hb:¬S b':=by
    intro e
    obtain ⟨cur,t,o1,o2,o3⟩:=hr b' e
    rw [o1.cell] at e5
    obtain ⟨xs,⟨rfl,rfl⟩ | ⟨l,s,rfl,l1,l2,l3⟩,-,-,l4,-⟩:=e7
    ·exact hz1 l4.symm
    ·rcases o3 _ e5 with ⟨z,e⟩ | ⟨n',c',e⟩ | ⟨g',o',n',c',cur',t',e,e2,e3⟩ | e | ⟨a',b',e,e2⟩ | ⟨s',e⟩
     ·simp at e
     ·simp at e
     ·simp at e
     ·simp at e
     ·simp only [Value.pointer.injEq,Option.some.injEq,Addr.mk.injEq,and_true] at e
      subst e
      rw [l2] at e2
      obtain ⟨p,cap,rfl,-,-⟩:=l3.slice
      simp at e2
     ·simp at e
   exact .inr ⟨a,rfl,g0',ga _ _ g1,.inr ⟨e0,ga _ _ e1,ga _ _ e2,b',x,y',ga _ _ e3,Nat.lt_of_lt_of_le e4 hg.size,hg.cell e5 hb,hg.cell e6 hb,num_keeps e7 hz1 hg hr,num_keeps e8 hz2 hg hr⟩⟩
theorem frac_far {w w':World} {v:Value} {q:Rat} {k g:Nat} (h:FracIs w v q k) (hg:w.grownBy w' (some g)) (hr:Odd w g):FracIs w' v q k:=frac_keeps h (keeps_grown hg) (fun b hb=>by rw [hb]; exact hr)
theorem get_put {xs:Array Value} {v:Value} {i j:Nat} (h:i ≠ j):(xs.setIfInBounds i v)[j]? = xs[j]?:=by
 rw [Array.getElem?_setIfInBounds,if_neg h]
theorem get_put' {xs:Array Value} {v:Value} {i:Nat} (h:i < xs.size):(xs.setIfInBounds i v)[i]? = some v:=by
 rw [Array.getElem?_setIfInBounds,if_pos rfl,if_pos h]
/-- A line that is read: n fractions. -/
def LineR (w:World) (v:Value) (n:Nat) (f:Nat → Rat) (k:Nat):Prop:=
 ∃ p cap,v = .slice p n cap ∧ n ≤ cap ∧ cap ≤ maxLen ∧ (n = 0 ∨ ∃ g o cur,p = some ⟨g,o,none⟩ ∧ CellsAt w g cur 30 ∧ ∀ j,j < n → ∃ a,cur[o + j]? = some (.pointer a) ∧ FracIs w (.pointer a) (f j) k)
theorem LineR.below {w w':World} {v:Value} {n k:Nat} {f:Nat → Rat} (h:LineR w v n f k) (hb:Below w.heap.size w w'):LineR w' v n f k:=by
 obtain ⟨p,cap,h1,h2,h3,h4⟩:=h
 refine ⟨p,cap,h1,h2,h3,?_⟩
 rcases h4 with h4 | ⟨g,o,cur,g1,g2,g3⟩
 ·exact .inl h4
 ·refine .inr ⟨g,o,cur,g1,g2.below hb,fun j hj=>?_⟩
  obtain ⟨a,a1,a2⟩:=g3 j hj
  exact ⟨a,a1,a2.below hb⟩
theorem LineR.congr {w:World} {v:Value} {n k m:Nat} {f f':Nat → Rat} (h:LineR w v n f k) (e:∀ j,j < n → f' j = f j) (hm:k ≤ m):LineR w v n f' m:=by
 obtain ⟨p,cap,h1,h2,h3,h4⟩:=h
 refine ⟨p,cap,h1,h2,h3,?_⟩
 rcases h4 with h4 | ⟨g,o,cur,g1,g2,g3⟩
 ·exact .inl h4
 ·refine .inr ⟨g,o,cur,g1,g2,fun j hj=>?_⟩
  obtain ⟨a,a1,a2⟩:=g3 j hj
  exact ⟨a,a1,by rw [e j hj]; exact a2.more hm⟩
theorem LineR.slice {w:World} {v:Value} {n k:Nat} {f:Nat → Rat} (h:LineR w v n f k):∃ p cap,v = .slice p n cap ∧ n ≤ cap ∧ cap ≤ maxLen:=by
 obtain ⟨p,cap,h1,h2,h3,-⟩:=h
 exact ⟨p,cap,h1,h2,h3⟩
/-- One of its fractions. -/
theorem LineR.nth {w:World} {v:Value} {n k j:Nat} {f:Nat → Rat} (h:LineR w v n f k) (hj:j < n) :
 ∃ g o cap a,v = .slice (some ⟨g,o,none⟩) n cap ∧ n ≤ cap ∧ cap ≤ maxLen ∧ w.cell? ⟨g,o + j,none⟩ = some (.pointer a) ∧ FracIs w (.pointer a) (f j) k ∧ g < w.heap.size:=by
 obtain ⟨p,cap,h1,h2,h3,h4⟩:=h
 rcases h4 with h4 | ⟨g,o,cur,rfl,g2,g3⟩
 ·omega
 ·obtain ⟨a,a1,a2⟩:=g3 j hj
  exact ⟨g,o,cap,a,h1,h2,h3,by rw [g2.cell]; exact a1,a2,g2.lt⟩
theorem LineR.keeps {w w':World} {v:Value} {n k:Nat} {f:Nat → Rat} {S:Nat → Prop} (h:LineR w v n f k) (hg:Keeps w w' S) (hr:∀ g,S g → Odd w g) (hne:∀ b o m c,v = .slice (some ⟨b,o,none⟩) m c → 0 < m → ¬S b):LineR w' v n f k:=by
 obtain ⟨p,cap,rfl,h2,h3,h4⟩:=h
 refine ⟨p,cap,rfl,h2,h3,?_⟩
 rcases h4 with h4 | ⟨b,o,cur,rfl,g2,g3⟩
 ·exact .inl h4
 ·by_cases hn:n = 0
  ·exact .inl hn
  ·refine .inr ⟨b,o,cur,rfl,hg.cells g2 (hne b o n cap rfl (by omega)),fun j hj=>?_⟩
   obtain ⟨a,a1,a2⟩:=g3 j hj
   exact ⟨a,a1,frac_keeps a2 hg hr⟩
theorem LineR.far {w w':World} {v:Value} {n k g:Nat} {f:Nat → Rat} (h:LineR w v n f k) (hg:w.grownBy w' (some g)) (hr:Odd w g) (hne:∀ b o m c,v = .slice (some ⟨b,o,none⟩) m c → 0 < m → b ≠ g):LineR w' v n f k:=by
 obtain ⟨p,cap,rfl,h2,h3,h4⟩:=h
 refine ⟨p,cap,rfl,h2,h3,?_⟩
 rcases h4 with h4 | ⟨b,o,cur,rfl,g2,g3⟩
 ·exact .inl h4
 ·by_cases hn:n = 0
  ·exact .inl hn
  ·refine .inr ⟨b,o,cur,rfl,cells_far g2 hg (hne b o n cap rfl (by omega)),fun j hj=>?_⟩
   obtain ⟨a,a1,a2⟩:=g3 j hj
   exact ⟨a,a1,frac_far a2 hg hr⟩
/-- A line's block is of pointers. -/
theorem LineR.other {w:World} {v:Value} {n k g:Nat} {f:Nat → Rat} {cur:Array Value} {t:TypeId} (h:LineR w v n f k) (hc:CellsAt w g cur t) (ht:t ≠ 30):∀ b o m c,v = .slice (some ⟨b,o,none⟩) m c → 0 < m → b ≠ g:=by
 obtain ⟨p,cap,rfl,h2,h3,h4⟩:=h
 rintro b o m c e hm rfl
 simp only [Value.slice.injEq] at e
 obtain ⟨rfl,rfl,rfl⟩:=e
 rcases h4 with h4 | ⟨b',o',cur',e,g2,-⟩
 ·omega
 ·simp only [Option.some.injEq,Addr.mk.injEq,and_true] at e
  obtain ⟨rfl,rfl⟩:=e
  have h9:some (Obj.cells cur t (0,0)) = some (Obj.cells cur' 30 (0,0)):=hc.symm.trans g2
  simp at h9
  exact ht h9.2
/-- A line of the call's own, from the head of block g on. -/
structure LineO (w:World) (g n cap:Nat) (f:Nat → Rat) (k:Nat):Prop where
 le:n ≤ cap
 max:cap ≤ maxLen
 cells:∃ cur,CellsAt w g cur 30 ∧ cur.size = cap ∧ ∀ j,j < n → ∃ a,cur[j]? = some (.pointer a) ∧ FracIs w (.pointer a) (f j) k
theorem LineO.lt {w:World} {g n cap k:Nat} {f:Nat → Rat} (h:LineO w g n cap f k):g < w.heap.size:=by
 obtain ⟨cur,h1,-⟩:=h.cells
 exact h1.lt
theorem LineO.odd {w:World} {g n cap k:Nat} {f:Nat → Rat} (h:LineO w g n cap f k) (hn:0 < n):Odd w g:=by
 obtain ⟨cur,h1,h2,h3⟩:=h.cells
 refine ⟨cur,_,h1,by decide,fun u hu=>?_⟩
 obtain ⟨a,a1,a2⟩:=h3 0 hn
 rw [hu] at a1
 rw [Option.some.inj a1]
 exact OddV.of_frac a2
theorem LineO.read {w:World} {g n cap k:Nat} {f:Nat → Rat} (h:LineO w g n cap f k):LineR w (.slice (some ⟨g,0,none⟩) n cap) n f k:=by
 obtain ⟨cur,h1,h2,h3⟩:=h.cells
 exact ⟨_,cap,rfl,h.le,h.max,.inr ⟨g,0,cur,rfl,h1,fun j hj=>by rw [Nat.zero_add]; exact h3 j hj⟩⟩
theorem LineO.below {w w':World} {g n cap k:Nat} {f:Nat → Rat} (h:LineO w g n cap f k) (hb:Below w.heap.size w w'):LineO w' g n cap f k:=by
 obtain ⟨cur,h1,h2,h3⟩:=h.cells
 refine ⟨h.le,h.max,cur,h1.below hb,h2,fun j hj=>?_⟩
 obtain ⟨a,a1,a2⟩:=h3 j hj
 exact ⟨a,a1,a2.below hb⟩
theorem LineO.far {w w':World} {g n cap k b:Nat} {f:Nat → Rat} (h:LineO w g n cap f k) (hg:w.grownBy w' (some b)) (hr:Odd w b) (hne:g ≠ b):LineO w' g n cap f k:=by
 obtain ⟨cur,h1,h2,h3⟩:=h.cells
 refine ⟨h.le,h.max,cur,cells_far h1 hg hne,h2,fun j hj=>?_⟩
 obtain ⟨a,a1,a2⟩:=h3 j hj
 exact ⟨a,a1,frac_far a2 hg hr⟩
theorem LineO.congr {w:World} {g n cap k m:Nat} {f f':Nat → Rat} (h:LineO w g n cap f k) (e:∀ j,j < n → f' j = f j) (hm:k ≤ m):LineO w g n cap f' m:=by
 obtain ⟨cur,h1,h2,h3⟩:=h.cells
 refine ⟨h.le,h.max,cur,h1,h2,fun j hj=>?_⟩
 obtain ⟨a,a1,a2⟩:=h3 j hj
 exact ⟨a,a1,by rw [e j hj]; exact a2.more hm⟩
theorem LineO.cell {w:World} {g n cap k j:Nat} {f:Nat → Rat} (h:LineO w g n cap f k) (hj:j < n):∃ a,w.cell? ⟨g,j,none⟩ = some (.pointer a) ∧ w.frozen? ⟨g,j,none⟩ = false ∧ FracIs w (.pointer a) (f j) k:=by
 obtain ⟨cur,h1,h2,h3⟩:=h.cells
 obtain ⟨a,a1,a2⟩:=h3 j hj
 exact ⟨a,by rw [h1.cell]; exact a1,h1.free j,a2⟩
/-- One fraction is written. -/
theorem LineO.set {w:World} {g n cap k j:Nat} {f:Nat → Rat} {u:Option Addr} {q:Rat} (h:LineO w g n cap f k) (hu:FracIs w (.pointer u) q k) (hj:j < n):LineO (w.setCell ⟨g,j,none⟩ (.pointer u)) g n cap (fun x=>if x = j then q else f x) k:=by
 have ho:=h.odd (by omega)
 have hgr:=grown_setCell w g j (.pointer u)
 have hle:=h.le
 obtain ⟨cur,h1,h2,h3⟩:=h.cells
 refine ⟨h.le,h.max,_,h1.set j _,by rw [Array.size_setIfInBounds]; exact h2,fun x hx=>?_⟩
 by_cases e:x = j
 ·subst e
  exact ⟨u,get_put' (by omega),by rw [if_pos rfl]; exact frac_far hu hgr ho⟩
 ·obtain ⟨a,a1,a2⟩:=h3 x hx
  exact ⟨a,by rw [get_put (fun e2=>e e2.symm)]; exact a1,by rw [if_neg e]; exact frac_far a2 hgr ho⟩
theorem LineO.new {w w':World} {g n cap:Nat} {cur:Array Value} (h1:CellsAt w g cur 30) (h2:cur.size = cap) (hn:n ≤ cap) (hm:cap ≤ maxLen) (h3:∀ j,j < n → cur[j]? = some (.pointer none)) (k:Nat):LineO w g n cap (fun _=>0) k:=
 ⟨hn,hm,cur,h1,h2,fun j hj=>⟨none,h3 j hj,.inl ⟨rfl,rfl⟩⟩⟩
/-- Lines that are read: R of C fractions each. -/
def LinesR (w:World) (v:Value) (R C:Nat) (M:F) (k:Nat):Prop:=
 ∃ p cap,v = .slice p R cap ∧ R ≤ cap ∧ cap ≤ maxLen ∧ (R = 0 ∨ ∃ g o cur,p = some ⟨g,o,none⟩ ∧ CellsAt w g cur 113 ∧ ∀ i,i < R → ∃ u,cur[o + i]? = some u ∧ LineR w u C (M i) k)
theorem LinesR.below {w w':World} {v:Value} {R C k:Nat} {M:F} (h:LinesR w v R C M k) (hb:Below w.heap.size w w'):LinesR w' v R C M k:=by
 obtain ⟨p,cap,h1,h2,h3,h4⟩:=h
 refine ⟨p,cap,h1,h2,h3,?_⟩
 rcases h4 with h4 | ⟨g,o,cur,g1,g2,g3⟩
 ·exact .inl h4
 ·refine .inr ⟨g,o,cur,g1,g2.below hb,fun j hj=>?_⟩
  obtain ⟨a,a1,a2⟩:=g3 j hj
  exact ⟨a,a1,a2.below hb⟩
theorem LinesR.slice {w:World} {v:Value} {R C k:Nat} {M:F} (h:LinesR w v R C M k):∃ p cap,v = .slice p R cap ∧ R ≤ cap ∧ cap ≤ maxLen:=by
 obtain ⟨p,cap,h1,h2,h3,-⟩:=h
 exact ⟨p,cap,h1,h2,h3⟩
theorem LinesR.nth {w:World} {v:Value} {R C k i:Nat} {M:F} (h:LinesR w v R C M k) (hi:i < R) :
 ∃ g o cap p c,v = .slice (some ⟨g,o,none⟩) R cap ∧ R ≤ cap ∧ cap ≤ maxLen ∧ w.cell? ⟨g,o + i,none⟩ = some (.slice p C c) ∧ LineR w (.slice p C c) C (M i) k ∧ g < w.heap.size:=by
 obtain ⟨p,cap,h1,h2,h3,h4⟩:=h
 rcases h4 with h4 | ⟨g,o,cur,rfl,g2,g3⟩
 ·omega
 ·obtain ⟨a,a1,a2⟩:=g3 i hi
  obtain ⟨p',c',rfl,-,-⟩:=a2.slice
  exact ⟨g,o,cap,p',c',h1,h2,h3,by rw [g2.cell]; exact a1,a2,g2.lt⟩
theorem LinesR.congr {w:World} {v:Value} {R C k m:Nat} {M M':F} (h:LinesR w v R C M k) (e:∀ i j,i < R → j < C → M' i j = M i j) (hm:k ≤ m):LinesR w v R C M' m:=by
 obtain ⟨p,cap,h1,h2,h3,h4⟩:=h
 refine ⟨p,cap,h1,h2,h3,?_⟩
 rcases h4 with h4 | ⟨g,o,cur,g1,g2,g3⟩
 ·exact .inl h4
 ·refine .inr ⟨g,o,cur,g1,g2,fun j hj=>?_⟩
  obtain ⟨a,a1,a2⟩:=g3 j hj
  exact ⟨a,a1,a2.congr (e j · hj) hm⟩
/-- A matrix that is read. -/
def MatR (w:World) (v:Value) (R C:Nat) (M:F) (k:Nat):Prop:=
 ∃ a s,v = .pointer (some ⟨a,0,none⟩) ∧ CellsAt w a #[s,.int .i64 C] 117 ∧ LinesR w s R C M k
theorem MatR.below {w w':World} {v:Value} {R C k:Nat} {M:F} (h:MatR w v R C M k) (hb:Below w.heap.size w w'):MatR w' v R C M k:=by
 obtain ⟨a,s,h1,h2,h3⟩:=h
 exact ⟨a,s,h1,h2.below hb,h3.below hb⟩
theorem MatR.congr {w:World} {v:Value} {R C k m:Nat} {M M':F} (h:MatR w v R C M k) (e:∀ i j,i < R → j < C → M' i j = M i j) (hm:k ≤ m):MatR w v R C M' m:=by
 obtain ⟨a,s,h1,h2,h3⟩:=h
 exact ⟨a,s,h1,h2,h3.congr e hm⟩
theorem MatR.parts {w:World} {v:Value} {R C k:Nat} {M:F} (h:MatR w v R C M k) :
 ∃ a p cap,v = .pointer (some ⟨a,0,none⟩) ∧ R ≤ cap ∧ cap ≤ maxLen ∧ w.cell? ⟨a,0,none⟩ = some (.slice p R cap) ∧ w.cell? ⟨a,1,none⟩ = some (.int .i64 C) ∧ LinesR w (.slice p R cap) R C M k ∧ a < w.heap.size:=by
 obtain ⟨a,s,h1,h2,h3⟩:=h
 obtain ⟨p,cap,rfl,h4,h5⟩:=h3.slice
 exact ⟨a,p,cap,h1,h4,h5,h2.cell 0,h2.cell 1,h3,h2.lt⟩
/-- A list of texts. -/
def StrsF (w:World) (v:Value) (n:Nat) (s:Nat → ByteArray):Prop:=
 ∃ p cap,v = .slice p n cap ∧ n ≤ cap ∧ cap ≤ maxLen ∧ (n = 0 ∨ ∃ g o cur,p = some ⟨g,o,none⟩ ∧ CellsAt w g cur 9 ∧ ∀ j,j < n → cur[o + j]? = some (.string (s j)))
theorem StrsF.below {w w':World} {v:Value} {n:Nat} {s:Nat → ByteArray} (h:StrsF w v n s) (hb:Below w.heap.size w w'):StrsF w' v n s:=by
 obtain ⟨p,cap,h1,h2,h3,h4⟩:=h
 refine ⟨p,cap,h1,h2,h3,?_⟩
 rcases h4 with h4 | ⟨g,o,cur,g1,g2,g3⟩
 ·exact .inl h4
 ·exact .inr ⟨g,o,cur,g1,g2.below hb,g3⟩
theorem StrsF.slice {w:World} {v:Value} {n:Nat} {s:Nat → ByteArray} (h:StrsF w v n s):∃ p cap,v = .slice p n cap ∧ n ≤ cap ∧ cap ≤ maxLen:=by
 obtain ⟨p,cap,h1,h2,h3,-⟩:=h
 exact ⟨p,cap,h1,h2,h3⟩
theorem StrsF.nth {w:World} {v:Value} {n j:Nat} {s:Nat → ByteArray} (h:StrsF w v n s) (hj:j < n) :
 ∃ g o cap,v = .slice (some ⟨g,o,none⟩) n cap ∧ w.cell? ⟨g,o + j,none⟩ = some (.string (s j)) ∧ g < w.heap.size:=by
 obtain ⟨p,cap,h1,h2,h3,h4⟩:=h
 rcases h4 with h4 | ⟨g,o,cur,rfl,g2,g3⟩
 ·omega
 ·exact ⟨g,o,cap,h1,by rw [g2.cell]; exact g3 j hj,g2.lt⟩
theorem StrsF.far {w w':World} {v:Value} {n g:Nat} {s:Nat → ByteArray} {cur:Array Value} {t:TypeId} (h:StrsF w v n s) (hg:w.grownBy w' (some g)) (hc:CellsAt w g cur t) (ht:t ≠ 9):StrsF w' v n s:=by
 obtain ⟨p,cap,h1,h2,h3,h4⟩:=h
 refine ⟨p,cap,h1,h2,h3,?_⟩
 rcases h4 with h4 | ⟨b,o,cur',g1,g2,g3⟩
 ·exact .inl h4
 ·refine .inr ⟨b,o,cur',g1,cells_far g2 hg (fun e=>?_),g3⟩
  subst e
  have h9:some (Obj.cells cur t (0,0)) = some (Obj.cells cur' 9 (0,0)):=hc.symm.trans g2
  simp at h9
  exact ht h9.2
/-- Rows of texts: R of C each. -/
def RowsF (w:World) (v:Value) (R C:Nat) (T:Nat → Nat → ByteArray):Prop:=
 ∃ p cap,v = .slice p R cap ∧ R ≤ cap ∧ cap ≤ maxLen ∧ (R = 0 ∨ ∃ g o cur,p = some ⟨g,o,none⟩ ∧ CellsAt w g cur 23 ∧ ∀ i,i < R → ∃ u,cur[o + i]? = some u ∧ StrsF w u C (T i))
theorem RowsF.below {w w':World} {v:Value} {R C:Nat} {T:Nat → Nat → ByteArray} (h:RowsF w v R C T) (hb:Below w.heap.size w w'):RowsF w' v R C T:=by
 obtain ⟨p,cap,h1,h2,h3,h4⟩:=h
 refine ⟨p,cap,h1,h2,h3,?_⟩
 rcases h4 with h4 | ⟨g,o,cur,g1,g2,g3⟩
 ·exact .inl h4
 ·refine .inr ⟨g,o,cur,g1,g2.below hb,fun j hj=>?_⟩
  obtain ⟨a,a1,a2⟩:=g3 j hj
  exact ⟨a,a1,a2.below hb⟩
theorem RowsF.slice {w:World} {v:Value} {R C:Nat} {T:Nat → Nat → ByteArray} (h:RowsF w v R C T):∃ p cap,v = .slice p R cap ∧ R ≤ cap ∧ cap ≤ maxLen:=by
 obtain ⟨p,cap,h1,h2,h3,-⟩:=h
 exact ⟨p,cap,h1,h2,h3⟩
theorem RowsF.nth {w:World} {v:Value} {R C i:Nat} {T:Nat → Nat → ByteArray} (h:RowsF w v R C T) (hi:i < R) :
 ∃ g o cap p c,v = .slice (some ⟨g,o,none⟩) R cap ∧ w.cell? ⟨g,o + i,none⟩ = some (.slice p C c) ∧ StrsF w (.slice p C c) C (T i) ∧ C ≤ c ∧ c ≤ maxLen ∧ g < w.heap.size:=by
 obtain ⟨p,cap,h1,h2,h3,h4⟩:=h
 rcases h4 with h4 | ⟨g,o,cur,rfl,g2,g3⟩
 ·omega
 ·obtain ⟨a,a1,a2⟩:=g3 i hi
  obtain ⟨p',c',rfl,b1,b2⟩:=a2.slice
  exact ⟨g,o,cap,p',c',h1,by rw [g2.cell]; exact a1,a2,b1,b2,g2.lt⟩
theorem Tryz.infoPtr:(Tryz.prog.info? 30).map (fun i=>(i.zero,i.size,i.bytes)) = some (some (.pointer none),1,8):=by kernel_rfl
theorem Tryz.infoLine:(Tryz.prog.info? 113).map (fun i=>(i.zero,i.size,i.bytes)) = some (some (.slice none 0 0),1,24):=by kernel_rfl
/-- make of a line. -/
theorem Tryz.makeLine (w:World) (T:TypeId) (hT:Tryz.prog.underlying T = some (.slice 30)) (c:Int) (n k:Nat) (hc:c = n) (hn:n ≤ 1000000000000):∃ w',(Instr.makeSlice T (.int .i64 c) (.int .i64 c)).run Tryz.prog w = .ok (.slice (some ⟨w.heap.size,0,none⟩) n n) w' ∧ LineO w' w.heap.size n n (fun _=>0) k ∧ Below w.heap.size w w':=by
 obtain ⟨i0,hi,hz0,hz1,hz2⟩:=info_parts Tryz.infoPtr
 subst hc
 have hr:=run_make (P:=Tryz.prog) w T 30 i0 _ hT hi hz0 .i64 .i64 n n (by omega) (by omega) (by rw [hz2]; omega) (by omega)
 rw [hz1,Int.toNat_natCast] at hr
 refine ⟨_,hr,LineO.new (w':=w) (CellsAt.new w _ _ rfl) (by rw [size_madeCells,Nat.mul_one]) (Nat.le_refl _) (by unfold maxLen; omega) (fun j hj=>?_) k,(Below.refl _ _).alloc (Nat.le_refl _) _⟩
 have h2:j < n * 1:=by omega
 simp [madeCells,Value.cells,hj,Nat.mod_one]
end Go.Proofs.Mt
