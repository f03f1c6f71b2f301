/- What IndexFunc and DeleteFunc at terms return. What DeleteFunc at terms returns: those that are not 0. What DeleteFunc at terms returns: the walk. What New of the package vec returns. What Coefs of the package vec returns. VecLaws: products of vectors go with sums; a vector less itself is nothing: the call returns true. What F and Text of the law file return. VecMat: a matrix by a vector is its rows by it, one by one: the call returns true. -/
import Derived.Test.YtcnjcfoaoaldeaaGreatDoorFg
import Derived.Laws.MakeOwn
import Derived.Test.YtcnjcfoaoaldeaaGreatDoorVs
import Derived.Test.YtcnjcfoaoaldeaaGreatDoorMd
set_option linter.unusedVariables false
set_option maxHeartbeats 4000000
set_option maxRecDepth 100000
namespace Go.Proofs.Vt
open Go.RowKit Go.Proofs.Wd Go.Proofs.Fr
end Go.Proofs.Vt
namespace Go.Proofs.Vt
open Go.RowKit Go.Proofs.Wd Go.Proofs.Fr
end Go.Proofs.Vt
namespace Go.Proofs.Vt
open Go.RowKit Go.Proofs.Wd Go.Proofs.Fr
end Go.Proofs.Vt
namespace Go.Proofs.Vt
open Go.RowKit Go.Proofs.Wd Go.Proofs.Fr
end Go.Proofs.Vt
namespace Go.Proofs.Vt
open Go.RowKit Go.Proofs.Wd Go.Proofs.Fr
end Go.Proofs.Vt
namespace Go.Proofs.Vt
open Go.RowKit Go.Proofs.Wd Go.Proofs.Fr
theorem Tryz.cutText (s:ByteArray) (n:Nat) (w:World) (hmax:s.size ≤ 9223372036854775807) (hn:n ≤ 1000000000000) :
 Calls Tryz.prog 15 #[.string s,.int .i64 n] w fun e w'=>(∃ t:ByteArray,e = .returned (.string t) ∧ t.size ≤ n) ∧ w' = w:=by
 obtain ⟨m,hm⟩:∃ m:Nat,(min (s.size:Int) (n:Int)) = m:=⟨min s.size n,by omega⟩
 have hmb:m ≤ s.size ∧ m ≤ n:=by omega
 obtain ⟨hm1,hm2⟩:=hmb
 have HC:Hid ((s.extract 0 m).size ≤ n):=Nat.le_trans (size_cut s 0 m) (by omega)
 go_enter Tryz.func15,Tryz.ntmps15
 go_wp2
 go_ret
 exact ⟨⟨_,rfl,HC.out⟩,rfl⟩
theorem text_nought:(⟨(textQ 0).toArray⟩:ByteArray) = ⟨#[48]⟩:=by
 unfold textQ
 have hd:Lib.decDigits 0 = [48]:=by simp [Lib.decDigits]
 simp [hd]
/-- What F tells: a fraction that its own text shows. -/
def FSaid (w:World) (e:Ending):Prop:=∃ (v:Value) (q:Rat),e = .returned v ∧ FracIs w v q 120 ∧ getQ ⟨(textQ q).toArray⟩ = some q
theorem Tryz.lawF (s:ByteArray) (w:World) (hs:s.size ≤ 4294967280) :
 Calls Tryz.prog 14 #[.string s] w fun e w'=>FSaid w' e ∧ Below w.heap.size w w':=by
 go_enter Tryz.func14,Tryz.ntmps14
 go_wp2_with fail
 with_reducible refine (Tryz.fracGet s _ hs).mono ?_
 rintro e w1 ⟨⟨q,v,h1,rfl,h3⟩ | ⟨h1,rfl⟩,hb⟩
 ·have HR:Hid (FSaid w1 (.returned v)):=⟨v,q,rfl,h3,by rw [text_own h1]; exact h1⟩
  have HB:=Lib.hid hb
  clear h1 h3 hb
  go_wp2
  go_ret
  exact ⟨HR.out,HB.out⟩
 ·have HB:=Lib.hid hb
  clear h1 hb
  go_wp2_with fail
  with_reducible refine (Tryz.Of 0 _ (by omega) (by omega)).mono ?_
  rintro e w2 ⟨⟨v,rfl,hv⟩,hb2⟩
  have HR:Hid (FSaid w2 (.returned v)):=⟨v,0,rfl,hv.more (by omega),by rw [text_nought]; exact getQ_nought⟩
  have HB2:=Lib.hid (HB.out.trans (hb2.mono HB.out.size))
  clear hv hb2 HB
  go_wp2
  go_ret
  exact ⟨HR.out,HB2.out⟩
end Go.Proofs.Vt
namespace Go.Proofs.Mt
open Go.RowKit Go.Proofs.Wd Go.Proofs.Fr Go.Proofs.Vt Go.Proofs.Mm
/-- A row of fractions of the call's own. -/
def OwnF (B:Nat) (w:World) (v:Value) (n:Nat) (f:Nat → Rat) (k:Nat):Prop:=(n = 0 → v = .slice none 0 0) ∧ ∃ us,w.ownsRow B 30 1 v n us ∧ ∀ j,j < n → ∃ a,us[j]? = some (.pointer a) ∧ FracIs w (.pointer a) (f j) k
theorem OwnF.below {B:Nat} {w w':World} {v:Value} {n k:Nat} {f:Nat → Rat} (h:OwnF B w v n f k) (hb:Below w.heap.size w w'):OwnF B w' v n f k:=by
 obtain ⟨h0,us,h1,h2⟩:=h
 refine ⟨h0,us,ownsRow_below h1 hb,fun j hj=>?_⟩
 obtain ⟨a,a1,a2⟩:=h2 j hj
 exact ⟨a,a1,a2.below hb⟩
theorem OwnF.slice {B:Nat} {w:World} {v:Value} {n k:Nat} {f:Nat → Rat} (h:OwnF B w v n f k):∃ p c,v = .slice p n c:=by
 obtain ⟨-,us,⟨-,⟨rfl,rfl⟩ | ⟨g,cap,cur,rfl,-⟩⟩,-⟩:=h
 ·exact ⟨_,_,rfl⟩
 ·exact ⟨_,_,rfl⟩
theorem OwnF.read {B:Nat} {w:World} {v:Value} {n k:Nat} {f:Nat → Rat} (h:OwnF B w v n f k):LineR w v n f k:=by
 obtain ⟨h9,us,⟨h0,⟨rfl,rfl⟩ | ⟨g,cap,cur,rfl,hb,hh,h1,h2,h3,h4⟩⟩,h5⟩:=h
 ·exact ⟨_,0,rfl,Nat.le_refl _,by unfold maxLen; omega,.inl rfl⟩
 ·refine ⟨_,cap,rfl,h1,h2,.inr ⟨g,0,cur,rfl,hh,fun j hj=>?_⟩⟩
  obtain ⟨a,a1,a2⟩:=h5 j hj
  rw [← h4,List.getElem?_take_of_lt (by omega),Array.getElem?_toList] at a1
  exact ⟨a,by rw [Nat.zero_add]; exact a1,a2⟩
/-- Its block is no part of a fraction. -/
theorem OwnF.odd {B:Nat} {w:World} {v:Value} {n k:Nat} {f:Nat → Rat} (h:OwnF B w v n f k):∀ g,v.ownBlock = some g → Odd w g ∧ B ≤ g ∧ ∃ cur,CellsAt w g cur 30:=by
 obtain ⟨h9,us,h1,h5⟩:=h
 intro g hg
 have hlo:=(World.ownsRow.lt h1 g hg).1
 obtain ⟨h0,⟨rfl,-⟩ | ⟨b,cap,cur,rfl,hb,hh,h1,h2,h3,h4⟩⟩:=h1
 ·simp [Value.ownBlock] at hg
 ·obtain rfl:b = g:=by simpa [Value.ownBlock] using hg
  have hh:CellsAt w b cur 30:=hh
  have hn:0 < n:=by
   refine Nat.pos_of_ne_zero fun e=>?_
   have:=h9 e
   simp at this
  obtain ⟨a,a1,a2⟩:=h5 0 hn
  refine ⟨⟨cur,_,hh,by decide,fun u hu=>?_⟩,hlo,cur,hh⟩
  rw [← h4,List.getElem?_take_of_lt (by omega),Array.getElem?_toList,hu] at a1
  rw [Option.some.inj a1]
  exact OddV.of_frac a2
theorem grown_any {w w':World} {row:Option Nat} (h:w.grownBy w' row):Keeps w w' (fun x=>row = some x):=⟨h.size,fun k hk hne=>h.block k hk (fun e=>hne e.symm)⟩
/-- One fraction more. -/
theorem Tryz.appendF {B:Nat} {w:World} {v:Value} {n k:Nat} {f:Nat → Rat} {a:Option Addr} {q:Rat} (ty:TypeId) (h:OwnF B w v n f k) (ha:FracIs w (.pointer a) q k) (hn:n ≤ 1000) (hB:B ≤ w.heap.size) :
 ∃ p c w',(Builtin.append_ #[62,62] ty #[v,.slice (some ⟨w.heap.size,0,none⟩) 1 1]).run Tryz.prog (w.alloc (.cells #[.pointer a] 30)) = .ok (.slice p (n + 1) c) w' ∧ OwnF B w' (.slice p (n + 1) c) (n + 1) (fun j=>if j = n then q else f j) k ∧ FracIs w' (.pointer a) q k ∧ (w.alloc (.cells #[.pointer a] 30)).grownBy w' v.ownBlock:=by
 obtain ⟨i0,hi0,hz0,hz1,hz2⟩:=info_parts Tryz.infoPtr
 have hal:Below w.heap.size w (w.alloc (.cells #[.pointer a] 30)):=(Below.refl _ _).alloc (Nat.le_refl _) _
 have hnew:=(CellsAt.new w #[.pointer a] 30 rfl).cell 0
 have h':=h.below hal
 have ha':=ha.below hal
 have hodd:=h'.odd
 obtain ⟨h9,us,h1,h2⟩:=h'
 obtain ⟨v',w',hr,g1,g2,-⟩:=run_append_own (P:=Tryz.prog) (w.alloc (.cells #[.pointer a] 30)) B 62 ty 30 i0 _ 1 8 Tryz.underlying62 hi0 hz0 hz1 hz2 rfl (by decide) v n us h1 ⟨w.heap.size,0,none⟩ 1 1 [.pointer a] rfl (by
  intro j u hj
  match j,hj with
  | 0, hj =>
    rw [show (⟨w.heap.size,0,none⟩:Addr).add 0 = ⟨w.heap.size,0,none⟩ from rfl,hnew]
    simpa using hj) (by
  intro u hu
  rw [List.mem_singleton.1 hu]; rfl) (by unfold maxLen; omega) (by omega) (Nat.le_trans hB hal.size)
 have hul:us.length = n:=by have:=h1.1; omega
 have hk:∀ {u:Value} {x:Rat},FracIs (w.alloc (.cells #[.pointer a] 30)) u x k → FracIs w' u x k:=fun hx=>frac_keeps hx (grown_any g2) (fun g hx=>(hodd g hx).1)
 have ho:OwnF B w' v' (n + 1) (fun j=>if j = n then q else f j) k:=⟨fun e=>by omega,_,g1,fun j hj=>by
  rw [get_app hul hj]
  by_cases e:j < n
  ·obtain ⟨x,x1,x2⟩:=h2 j e
   exact ⟨x,by rw [if_pos e]; exact x1,by show FracIs w' _ (if j = n then q else f j) k; rw [if_neg (by omega)]; exact hk x2⟩
  ·exact ⟨a,by rw [if_neg e],by show FracIs w' _ (if j = n then q else f j) k; rw [if_pos (by omega)]; exact hk ha'⟩⟩
 obtain ⟨p,c,rfl⟩:=ho.slice
 exact ⟨p,c,w',hr,ho,hk ha',g2⟩
theorem dim5 (a:Int):∃ R:Nat,1 + a.tmod 5 % 5 = (R:Int) ∧ 1 ≤ R ∧ R ≤ 5 ∧ -4 ≤ a.tmod 5 ∧ a.tmod 5 ≤ 4:=by
 have h1:=Int.tmod_lt_of_pos a (show (0:Int) < 5 by omega)
 have h2:=Int.lt_tmod_of_pos a (show (0:Int) < 5 by omega)
 exact ⟨(1 + a.tmod 5 % 5).toNat,by omega,by omega,by omega,by omega,by omega⟩
end Go.Proofs.Mt
