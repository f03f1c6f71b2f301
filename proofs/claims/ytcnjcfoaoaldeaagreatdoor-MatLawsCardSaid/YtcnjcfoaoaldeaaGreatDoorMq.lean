/- Matrices: lines of the call's own that grow; slices.Clone, Grow, Concat at lines. Matrices: the lines of equations in memory. Matrices: what counts and pick of the package mat return. Matrices: equations in memory, as their lines change. -/
import Derived.Test.YtcnjcfoaoaldeaaGreatDoorMh
import Derived.Lib.AppendZerosOnto
import Derived.Laws.AppendOwnNone
import Derived.Test.YtcnjcfoaoaldeaaGreatDoorRn
set_option linter.unusedVariables false
set_option maxHeartbeats 4000000
set_option maxRecDepth 100000
namespace Go.Proofs.Mt
open Go.RowKit Go.Proofs.Wd Go.Proofs.Fr Go.Proofs.Vt Go.Proofs.Mm
/-- A row of fractions of the call's own. -/
def OwnL (B:Nat) (w:World) (v:Value) (n:Nat) (f:Nat → Rat) (k:Nat):Prop:=
 ∃ us,w.ownsRow B 30 1 v n us ∧ (∀ j,j < n → ∃ a,us[j]? = some (.pointer a) ∧ FracIs w (.pointer a) (f j) k) ∧ ∀ b,v.ownBlock = some b → Odd w b
theorem OwnL.congr {B:Nat} {w:World} {v:Value} {n k m:Nat} {f g:Nat → Rat} (h:OwnL B w v n f k) (e:∀ j,j < n → g j = f j) (hm:k ≤ m):OwnL B w v n g m:=by
 obtain ⟨us,h1,h2,h3⟩:=h
 refine ⟨us,h1,fun j hj=>?_,h3⟩
 obtain ⟨a,a1,a2⟩:=h2 j hj
 exact ⟨a,a1,by rw [e j hj]; exact a2.more hm⟩
theorem OwnL.slice {B:Nat} {w:World} {v:Value} {n k:Nat} {f:Nat → Rat} (h:OwnL B w v n f k):∃ p c,v = .slice p n c:=by
 obtain ⟨us,⟨-,⟨rfl,rfl⟩ | ⟨g,cap,cur,rfl,-⟩⟩,-⟩:=h
 ·exact ⟨_,_,rfl⟩
 ·exact ⟨_,_,rfl⟩
theorem OwnL.line {B:Nat} {w:World} {v:Value} {n k:Nat} {f:Nat → Rat} (h:OwnL B w v n f k) (hn:0 < n):∃ g c,v = .slice (some ⟨g,0,none⟩) n c ∧ LineO w g n c f k ∧ B ≤ g:=by
 obtain ⟨us,⟨h0,⟨rfl,rfl⟩ | ⟨g,cap,cur,rfl,h1,h2,h3,h4,h5,h6⟩⟩,h7,-⟩:=h
 ·omega
 ·refine ⟨g,cap,rfl,⟨h3,h4,cur,h2,by omega,fun j hj=>?_⟩,h1⟩
  obtain ⟨a,a1,a2⟩:=h7 j hj
  rw [← h6,List.getElem?_take_of_lt (by omega),Array.getElem?_toList] at a1
  exact ⟨a,a1,a2⟩
theorem OwnL.lit (w:World) (f:Nat → Rat) (k:Nat):OwnL w.heap.size (w.alloc (.cells #[] 30)) (.slice (some ⟨w.heap.size,0,none⟩) 0 0) 0 f k:=
 ⟨[],World.ownsRow_lit w #[] 0 (Nat.le_refl _) (by unfold maxLen; omega) rfl,fun j hj=>by omega,fun b hb=>by
  obtain rfl:w.heap.size = b:=by simpa [Value.ownBlock] using hb
  exact ⟨_,_,CellsAt.new w #[] 30 rfl,by decide,fun u hu=>by simp at hu⟩⟩
theorem LineR.news {w:World} {v:Value} {m k:Nat} {f:Nat → Rat} (h:LineR w v m f k) (hm:0 < m):∃ (g o c:Nat) (news:List Value),v = .slice (some ⟨g,o,none⟩) m c ∧ news.length = m ∧ (∀ j u,news[j]? = some u → w.cell? ((⟨g,o,none⟩:Addr).add j) = some u) ∧ (∀ u ∈ news,∃ a,u = .pointer a) ∧ ∀ j,j < m → ∃ a,news[j]? = some (.pointer a) ∧ FracIs w (.pointer a) (f j) k:=by
 obtain ⟨p,cap,rfl,h1,h2,h3 | ⟨g,o,cur,rfl,h4,h5⟩⟩:=h
 ·omega
 ·have hex : ∀ j, ∃ a, j < m → cur[o + j]? = some (.pointer a) ∧ FracIs w (.pointer a) (f j) k := fun j => by
   by_cases hj:j < m
   ·obtain ⟨a,a1,a2⟩:=h5 j hj
    exact ⟨a,fun _=>⟨a1,a2⟩⟩
   ·exact ⟨none,fun h=>absurd h hj⟩
  refine ⟨g,o,cap,(List.range m).map fun j=>Value.pointer (hex j).choose,rfl,by simp,fun j u hj=>?_,fun u hu=>?_,fun j hj=>?_⟩
  ·rw [List.getElem?_map] at hj
   by_cases hjm:j < m
   ·rw [List.getElem?_range hjm,Option.map_some] at hj
    rw [← Option.some.inj hj]
    have:=((hex j).choose_spec hjm).1
    have e:(⟨g,o,none⟩:Addr).add j = ⟨g,o + j,none⟩:=Addr.add_lit g o j
    rw [e]
    exact (h4.cell (o + j)).trans this
   ·rw [List.getElem?_eq_none (by simpa using hjm)] at hj
    simp at hj
  ·obtain ⟨j,-,rfl⟩:=List.mem_map.1 hu
   exact ⟨_,rfl⟩
  ·exact ⟨_,by rw [List.getElem?_map,List.getElem?_range hj]; rfl,((hex j).choose_spec hj).2⟩
theorem Tryz.appendL {B:Nat} {w:World} {v u:Value} {n m k:Nat} {f g h:Nat → Rat} (ty:TypeId) (ho:OwnL B w v n f k) (hu:LineR w u m g k) (hm:0 < m) (hn:n + m ≤ 10000) (hB:B ≤ w.heap.size) (hf:∀ j,j < n → h j = f j) (hg:∀ j,j < m → h (n + j) = g j) :
 ∃ p c w',(Builtin.append_ #[113,113] ty #[v,u]).run Tryz.prog w = .ok (.slice p (n + m) c) w' ∧ OwnL B w' (.slice p (n + m) c) (n + m) h k ∧ Below B w w':=by
 obtain ⟨i0,hi0,hz0,hz1,hz2⟩:=info_parts Tryz.infoPtr
 obtain ⟨us,h1,h2,h3⟩:=ho
 obtain ⟨gb,o,cu,news,rfl,n1,n2,n3,n4⟩:=hu.news hm
 obtain ⟨v',w',hr,g1,g2,-⟩:=run_append_own (P:=Tryz.prog) w B 113 ty 30 i0 _ 1 8 Tryz.underlying113 hi0 hz0 hz1 hz2 rfl (by decide) v n us h1 ⟨gb,o,none⟩ m cu news (by omega) n2 (fun u hu=>by obtain ⟨a,rfl⟩:=n3 u hu; rfl) (by unfold maxLen; omega) (by omega) hB
 have hK:Keeps w w' (fun x=>v.ownBlock = some x):=⟨g2.size,fun x hx hne=>g2.block x hx (fun e=>hne e.symm)⟩
 have hS:∀ x,v.ownBlock = some x → Odd w x:=fun x hx=>h3 x hx
 have hul:us.length = n:=by have:=h1.1; omega
 have hall:∀ j,j < n + m → ∃ a,(us ++ news)[j]? = some (.pointer a) ∧ FracIs w' (.pointer a) (h j) k:=fun j hj=>by
  by_cases e:j < n
  ·obtain ⟨a,a1,a2⟩:=h2 j e
   exact ⟨a,by rw [List.getElem?_append_left (by omega)]; exact a1,by rw [hf j e]; exact frac_keeps a2 hK hS⟩
  ·obtain ⟨a,a1,a2⟩:=n4 (j - n) (by omega)
   exact ⟨a,by rw [List.getElem?_append_right (by omega),hul]; exact a1,by have:=hg (j - n) (by omega); rw [show n + (j - n) = j by omega] at this; rw [this]; exact frac_keeps a2 hK hS⟩
 have hodd:∀ b,v'.ownBlock = some b → Odd w' b:=fun b hb=>by
  obtain ⟨-,g1 | ⟨b2,cap2,cur2,rfl,hbb2,hh2,hn2,hm2,hs2,ht2⟩⟩:=g1
  ·rw [g1.1] at hb; simp [Value.ownBlock] at hb
  ·obtain rfl:b2 = b:=by simpa [Value.ownBlock] using hb
   refine ⟨cur2,_,hh2,by decide,fun u hu=>?_⟩
   obtain ⟨a,a1,a2⟩:=hall 0 (by omega)
   rw [← ht2,List.getElem?_take_of_lt (by omega),Array.getElem?_toList,hu] at a1
   rw [Option.some.inj a1]
   exact OddV.of_frac a2
 have hO:OwnL B w' v' (n + m) h k:=⟨_,g1,hall,hodd⟩
 obtain ⟨p,c,rfl⟩:=hO.slice
 refine ⟨p,c,w',hr,hO,(Below.refl B w).grown g2 hB (fun x hx=>?_)⟩
 exact (World.ownsRow.lt h1 x hx).1
theorem Tryz.cloneL (v:Value) (n:Nat) (f:Nat → Rat) (k:Nat) (w:World) (hv:LineR w v n f k) (hn0:0 < n) (hn:n ≤ 1000) :
 Calls Tryz.prog 127 #[v] w fun e w'=>(∃ g c,e = .returned (.slice (some ⟨g,0,none⟩) n c) ∧ LineO w' g n c f k ∧ w.heap.size ≤ g) ∧ Below w.heap.size w w':=by
 have heq:∀ (a:Option Addr) (l c:Nat) (w:World),(binOp .eql 113 (.slice a l c) (.slice none 0 0)).run Tryz.prog w = .ok (.bool a.isNone) w:=fun a l c w=>eqNil w _ _ a l c Tryz.underlying113
 have hal:Below w.heap.size w (w.alloc (.cells #[] 30)):=(Below.refl _ _).alloc (Nat.le_refl _) _
 obtain ⟨p,c,w2,hrun,ho,hb⟩:=Tryz.appendL (h:=f) 113 (OwnL.lit w f k) (hv.below hal) hn0 (by omega) hal.size (fun j hj=>by omega) (fun j _=>by rw [Nat.zero_add])
 rw [Nat.zero_add] at hrun ho
 obtain ⟨g,c2,he,hl,hg⟩:=ho.line hn0
 simp only [Value.slice.injEq,true_and] at he
 obtain ⟨rfl,rfl⟩:=he
 have HL:=Lib.hid hl
 have HB:=Lib.hid (hal.trans hb)
 obtain ⟨g',o,cap,a,rfl,c1,c2,-⟩:=hv.nth hn0
 clear hl hb ho hal hv
 go_enter Tryz.func127,Tryz.ntmps127
 go_wp2_with (at_builtin; refine Lib.wpList_append_run _ rfl _ _ _ _ rfl _ _ rfl rfl _ _ hrun ?_)
 go_ret
 exact ⟨⟨g,_,rfl,HL.out,hg⟩,HB.out⟩
/-- Lines of the call's own, each wherever. -/
def OwnM (B:Nat) (w:World) (g R cap C:Nat) (M:F) (k:Nat):Prop:=
 ∃ cur,CellsAt w g cur 113 ∧ cur.size = cap ∧ R ≤ cap ∧ cap ≤ maxLen ∧ B ≤ g ∧ ∀ i,i < R → ∃ u,cur[i]? = some u ∧ LineR w u C (M i) k
theorem OwnM.below {B:Nat} {w w':World} {g R cap C k:Nat} {M:F} (h:OwnM B w g R cap C M k) (hb:Below w.heap.size w w'):OwnM B w' g R cap C M k:=by
 obtain ⟨cur,h1,h2,h3,h4,h5,h6⟩:=h
 refine ⟨cur,h1.below hb,h2,h3,h4,h5,fun i hi=>?_⟩
 obtain ⟨u,u1,u2⟩:=h6 i hi
 exact ⟨u,u1,u2.below hb⟩
theorem LinesR.news {w:World} {v:Value} {m C k:Nat} {M:F} (h:LinesR w v m C M k) (hm:0 < m):∃ (g o c:Nat) (news:List Value),v = .slice (some ⟨g,o,none⟩) m c ∧ news.length = m ∧ (∀ j u,news[j]? = some u → w.cell? ((⟨g,o,none⟩:Addr).add j) = some u) ∧ (∀ u ∈ news,u.oneCell' = true) ∧ ∀ j,j < m → ∃ u,news[j]? = some u ∧ LineR w u C (M j) k:=by
 obtain ⟨p,cap,rfl,h1,h2,h3 | ⟨g,o,cur,rfl,h4,h5⟩⟩:=h
 ·omega
 ·have hex : ∀ j, ∃ u, (j < m → cur[o + j]? = some u ∧ LineR w u C (M j) k) ∧ u.oneCell' = true := fun j => by
   by_cases hj:j < m
   ·obtain ⟨a,a1,a2⟩:=h5 j hj
    obtain ⟨p,c,rfl,-⟩:=a2.slice
    exact ⟨_,fun _=>⟨a1,a2⟩,rfl⟩
   ·exact ⟨.slice none 0 0,fun h=>absurd h hj,rfl⟩
  refine ⟨g,o,cap,(List.range m).map fun j=>(hex j).choose,rfl,by simp,fun j u hj=>?_,fun u hu=>?_,fun j hj=>?_⟩
  ·rw [List.getElem?_map] at hj
   by_cases hjm:j < m
   ·rw [List.getElem?_range hjm,Option.map_some] at hj
    rw [← Option.some.inj hj]
    have:=((hex j).choose_spec.1 hjm).1
    have e:(⟨g,o,none⟩:Addr).add j = ⟨g,o + j,none⟩:=Addr.add_lit g o j
    rw [e]
    exact (h4.cell (o + j)).trans this
   ·rw [List.getElem?_eq_none (by simpa using hjm)] at hj
    simp at hj
  ·obtain ⟨j,-,rfl⟩:=List.mem_map.1 hu
   exact (hex j).choose_spec.2
  ·exact ⟨_,by rw [List.getElem?_map,List.getElem?_range hj]; rfl,((hex j).choose_spec.1 hj).2⟩
theorem Tryz.cloneM (v:Value) (R C:Nat) (M:F) (k:Nat) (w:World) (hv:LinesR w v R C M k) (hR0:0 < R) (hR:R ≤ 1000) :
 Calls Tryz.prog 123 #[v] w fun e w'=>(∃ g c,e = .returned (.slice (some ⟨g,0,none⟩) R c) ∧ OwnM w.heap.size w' g R c C M k) ∧ Below w.heap.size w w':=by
 have heq:∀ (a:Option Addr) (l c:Nat) (w:World),(binOp .eql 112 (.slice a l c) (.slice none 0 0)).run Tryz.prog w = .ok (.bool a.isNone) w:=fun a l c w=>eqNil w _ _ a l c Tryz.underlying112
 obtain ⟨i0,hi0,hz0,hz1,hz2⟩:=info_parts Tryz.infoLine
 have hal:Below w.heap.size w (w.alloc (.cells #[] 113)):=(Below.refl _ _).alloc (Nat.le_refl _) _
 obtain ⟨gb,o,cu,news,rfl,n1,n2,n3,n4⟩:=(hv.below hal).news hR0
 obtain ⟨v',w',hrun,g1,g2,-⟩:=run_append_own (P:=Tryz.prog) (w.alloc (.cells #[] 113)) w.heap.size 112 112 113 i0 _ 1 24 Tryz.underlying112 hi0 hz0 hz1 hz2 rfl (by decide) (.slice (some ⟨w.heap.size,0,none⟩) 0 0) 0 [] (World.ownsRow_lit w #[] 0 (Nat.le_refl _) (by unfold maxLen; omega) rfl) ⟨gb,o,none⟩ R cu news (by omega) n2 n3 (by unfold maxLen; omega) (by omega) hal.size
 have hK:Keeps (w.alloc (.cells #[] 113)) w' (fun x=>x = w.heap.size):=⟨g2.size,fun x hx hne=>g2.block x hx (fun e=>hne (by simpa [Value.ownBlock] using e))⟩
 have hS:∀ x,x = w.heap.size → Odd (w.alloc (.cells #[] 113)) x:=fun x hx=>by
  rw [hx]
  exact ⟨_,_,CellsAt.new w #[] 113 rfl,by decide,fun u hu=>by simp at hu⟩
 have hb:Below w.heap.size w w':=hal.grown g2 hal.size (fun x hx=>by
  have:w.heap.size = x:=by simpa [Value.ownBlock] using hx
  omega)
 obtain ⟨-,g1 | ⟨g,cap,cur,rfl,hbb,hh,hn,hm,hs,ht⟩⟩:=g1
 ·have:=g1.2; omega
 ·have HM : Hid (OwnM w.heap.size w' g R cap C M k) := ⟨cur, hh, by omega, by omega, hm, hbb, fun i hi => by
   obtain ⟨u,u1,u2⟩:=n4 i hi
   rw [List.nil_append] at ht
   rw [← ht,List.getElem?_take_of_lt (by omega),Array.getElem?_toList] at u1
   exact ⟨u,u1,u2.keeps hK hS fun b o m c e hm hx=>by
    rw [hx] at e
    exact u2.other (CellsAt.new w #[] 113 rfl) (by decide) _ o m c e hm rfl⟩⟩
  have HB:=Lib.hid hb
  rw [Nat.zero_add] at hrun
  clear hb g2 hal n1 n2 n3 n4 hK hS hv hh ht
  go_enter Tryz.func123,Tryz.ntmps123
  go_wp2_with (at_builtin; refine Lib.wpList_append_run _ rfl _ _ _ _ rfl _ _ rfl rfl _ _ hrun ?_)
  go_ret
  exact ⟨⟨g,_,rfl,HM.out⟩,HB.out⟩
theorem Tryz.growL (n:Nat) (f:Nat → Rat) (k:Nat) (w:World) (hn0:0 < n) (hn:n ≤ 10000) :
 Calls Tryz.prog 167 #[.slice none 0 0,.int .i64 n] w fun e w'=>(∃ v,e = .returned v ∧ OwnL w.heap.size w' v 0 f k) ∧ Below w.heap.size w w':=by
 obtain ⟨i0,hi0,hz0,hz1,hz2⟩:=info_parts Tryz.infoPtr
 have hrun:=Lib.run_append_grow_zeros (P:=Tryz.prog) w 113 3 113 30 i0 _ .i64 .i64 Tryz.underlying113 Tryz.underlying3 hi0 hz0 none 0 0 [] (run_firstCells_none w.drew i0.size 0 0 0) n hn0 (by omega) (by omega) (by omega) (by rw [hz2]; omega) (by
  have:=growslice_fits (old:=0) (need:=0 + n) (bytes:=i0.bytes) (by omega) (by rw [hz2]; omega)
  exact this)
 have hge:n ≤ grownCap w (0 + n) 0 30:=by have:=grownCap_ge w (0 + n) 0 30; omega
 have hle:grownCap w (0 + n) 0 30 ≤ maxLen:=grownCap_le_maxLen w (0 + n) 0 _ (by unfold maxLen; omega)
 obtain ⟨G,hG⟩:∃ G,grownCap w (0 + n) 0 30 = G:=⟨_,rfl⟩
 rw [hG,Nat.zero_add] at hrun
 rw [hG] at hge hle
 obtain ⟨cur,hcur⟩:∃ cur,([]:List Value).toArray ++ Builtin.zeroCells (Value.pointer none).cells n ++ Builtin.zeroCells (Value.pointer none).cells (G - n) = cur:=⟨_,rfl⟩
 have hsz:cur.size = G:=by rw [← hcur]; simp [size_zeroCells,Value.cells]; omega
 have hc0:∀ u,cur[0]? = some u → u = .pointer none:=fun u hu=>by
  rw [← hcur,Array.getElem?_append_left (by simp [size_zeroCells,Value.cells]; omega)] at hu
  simp [Builtin.zeroCells,Value.cells] at hu
  obtain ⟨x,-,hu⟩:=hu
  simp [Nat.mod_one] at hu
  exact hu.symm
 rw [hcur] at hrun
 have ho:OwnL w.heap.size (w.drew.alloc (.cells cur 30)) (.slice (some ⟨w.heap.size,0,none⟩) 0 G) 0 f k:=⟨[],⟨rfl,.inr ⟨w.heap.size,G,cur,rfl,Nat.le_refl _,CellsAt.new w.drew cur 30 rfl,by omega,hle,by omega,by simp⟩⟩,fun j hj=>by omega,fun b hb=>by
  obtain rfl:w.heap.size = b:=by simpa [Value.ownBlock] using hb
  exact ⟨cur,_,CellsAt.new w.drew cur 30 rfl,by decide,fun u hu=>by rw [hc0 u hu]; exact .inr (.inr (.inr (.inl rfl)))⟩⟩
 have hb:Below w.heap.size w (w.drew.alloc (.cells cur 30)):=(Below.refl _ _).drew.alloc (Nat.le_refl _) _
 generalize w.drew.alloc (.cells cur 30) = w2 at hrun ho hb
 have HO:=Lib.hid ho
 have HB:=Lib.hid hb
 unfold maxLen at hle
 clear ho hb hG hcur hsz hc0
 have e1:decide ((n:Int) < 0) = false:=by simp
 have e2:decide (0 < (n:Int)) = true:=by simp; omega
 go_enter Tryz.func167,Tryz.ntmps167
 go_wp2_with (at_builtin; refine Lib.wpList_append_run _ rfl _ _ _ _ rfl _ _ rfl rfl _ _ hrun ?_)
 go_ret
 exact ⟨⟨_,rfl,HO.out⟩,HB.out⟩
theorem OwnL.weaken {B B':Nat} {w:World} {v:Value} {n k:Nat} {f:Nat → Rat} (h:OwnL B w v n f k) (hb:B' ≤ B):OwnL B' w v n f k:=by
 obtain ⟨us,⟨h0,h1⟩,h2⟩:=h
 refine ⟨us,⟨h0,?_⟩,h2⟩
 rcases h1 with h1 | ⟨g,cap,cur,r1,r2,r3⟩
 ·exact .inl h1
 ·exact .inr ⟨g,cap,cur,r1,Nat.le_trans hb r2,r3⟩
/-- One line behind the other. -/
def catF (f g:Nat → Rat) (C:Nat):Nat → Rat:=fun j=>if j < C then f j else g (j - C)
/-- What stands at the right: a line of r, or nil. -/
def LineN (w:World) (v:Value) (r:Nat) (f:Nat → Rat) (k:Nat):Prop:=(0 < r ∧ LineR w v r f k) ∨ (r = 0 ∧ v = .slice none 0 0)
theorem LineN.below {w w':World} {v:Value} {n k:Nat} {f:Nat → Rat} (h:LineN w v n f k) (hb:Below w.heap.size w w'):LineN w' v n f k:=by
 rcases h with ⟨h1,h2⟩ | h
 ·exact .inl ⟨h1,h2.below hb⟩
 ·exact .inr h
theorem LineN.slice {w:World} {v:Value} {n k:Nat} {f:Nat → Rat} (h:LineN w v n f k):∃ p c,v = .slice p n c:=by
 rcases h with ⟨h1,h2⟩ | ⟨rfl,rfl⟩
 ·obtain ⟨p,c,rfl,-⟩:=h2.slice
  exact ⟨p,c,rfl⟩
 ·exact ⟨_,_,rfl⟩
theorem Tryz.appendN {B:Nat} {w:World} {v u:Value} {n m k:Nat} {f g h:Nat → Rat} (ty:TypeId) (ho:OwnL B w v n f k) (hu:LineN w u m g k) (hn:n + m ≤ 10000) (hB:B ≤ w.heap.size) (hf:∀ j,j < n → h j = f j) (hg:∀ j,j < m → h (n + j) = g j) :
 ∃ p c w',(Builtin.append_ #[113,113] ty #[v,u]).run Tryz.prog w = .ok (.slice p (n + m) c) w' ∧ OwnL B w' (.slice p (n + m) c) (n + m) h k ∧ Below B w w':=by
 rcases hu with ⟨hm,hu⟩ | ⟨rfl,rfl⟩
 ·exact Tryz.appendL ty ho hu hm hn hB hf hg
 ·obtain ⟨i0,hi0,-⟩:=info_parts Tryz.infoPtr
  obtain ⟨us,h1,h2⟩:=id ho
  have hr:=run_append_owned_none (P:=Tryz.prog) (w:=w) B 113 ty 30 i0 1 Tryz.underlying113 hi0 v n us h1
  obtain ⟨p,c,rfl⟩:=ho.slice
  exact ⟨p,c,w,hr,ho.congr hf (Nat.le_refl _),Below.refl _ _⟩
theorem Tryz.concatL (g:Nat) (a b:Value) (C r:Nat) (f fr:Nat → Rat) (k:Nat) (w:World) (hc:CellsAt w g #[a,b] 113) (ha:LineR w a C f k) (hb:LineN w b r fr k) (hC0:0 < C) (hn:C + r ≤ 1000) :
 Calls Tryz.prog 124 #[.slice (some ⟨g,0,none⟩) 2 2] w fun e w'=>(∃ g c,e = .returned (.slice (some ⟨g,0,none⟩) (C + r:Nat) c) ∧ LineO w' g (C + r) c (catF f fr C) k ∧ w.heap.size ≤ g) ∧ Below w.heap.size w w':=by
 obtain ⟨pa,ca,rfl,-⟩:=ha.slice
 obtain ⟨pb,cb,rfl⟩:=hb.slice
 have HC:=Lib.hid hc
 have HA:=Lib.hid ha
 have HN:=Lib.hid hb
 obtain ⟨n,hnn⟩:∃ n,C + r = n:=⟨_,rfl⟩
 have HNN:=Lib.hid hnn
 have HB0:Hid (Below w.heap.size w w):=Below.refl _ _
 rw [hnn] at hn ⊢
 have hrn:(C:Int) + r = n:=by omega
 clear hc ha hb hnn
 go_enter Tryz.func124,Tryz.ntmps124
 go_wp2_with fail
 go_loopw [3,11] (fun sv iv wr=>∃ i:Nat,iv = .int .i64 i ∧ ((i = 0 ∧ sv = .int .i64 0) ∨ (i = 1 ∧ sv = .int .i64 C) ∨ (i = 2 ∧ sv = .int .i64 n)) ∧ Below w.heap.size w wr) (fun sv iv _=>2 - (intOf iv).toNat)
 case atStart=>exact ⟨0,rfl,.inl ⟨rfl,rfl⟩,HB0.out⟩
 case round=>
  obtain ⟨i,rfl,hi,hb⟩:=hrel
  clear HB0
  have c0:=(HC.out.below hb).cell 0
  have c1:=(HC.out.below hb).cell 1
  simp only [List.getElem?_toArray,List.getElem?_cons_zero,List.getElem?_cons_succ] at c0 c1
  have hg:=(HC.out.below hb).lt
  have HB:=Lib.hid hb
  clear hb
  rcases hi with ⟨rfl,rfl⟩ | ⟨rfl,rfl⟩ | ⟨rfl,rfl⟩
  ·have e1:decide ((C:Int) < 0) = false:=by simp
   go_wp2
   go_roundw
   case rel=>exact ⟨1,by go_num,.inr (.inl ⟨rfl,by go_num⟩),HB.out⟩
   case measure=>simp [intOf]
  ·have e1:decide ((n:Int) < 0) = false:=by simp
   go_wp2
   go_roundw
   case rel=>exact ⟨2,by go_num,.inr (.inr ⟨rfl,by go_num⟩),HB.out⟩
   case measure=>simp [intOf]
  ·go_wp2_with fail
   with_reducible refine (Tryz.growL n (catF f fr C) k _ (by omega) (by omega)).mono ?_
   rintro e w2 ⟨⟨v,rfl,hv⟩,hb⟩
   have HV:=Lib.hid hv
   have HB2:=Lib.hid (HB.out.trans (hb.mono HB.out.size))
   have HSZ:=Lib.hid HB.out.size
   clear hv hb HB c0 c1 hg
   go_wp2_with fail
   have HV:=Lib.hid (HV.out.weaken HSZ.out)
   go_loopw [6,27] (fun sv iv wr=>∃ i:Nat,iv = .int .i64 i ∧ ((i = 0 ∧ OwnL w.heap.size wr sv 0 (catF f fr C) k) ∨ (i = 1 ∧ OwnL w.heap.size wr sv C (catF f fr C) k) ∨ (i = 2 ∧ OwnL w.heap.size wr sv n (catF f fr C) k)) ∧ Below w.heap.size w wr) (fun sv iv _=>2 - (intOf iv).toNat)
   case atStart=>exact ⟨0,rfl,.inl ⟨rfl,HV.out⟩,HB2.out⟩
   case round=>
    obtain ⟨i,rfl,hi,hb⟩:=hrel
    clear HV HB2
    have c0:=(HC.out.below hb).cell 0
    have c1:=(HC.out.below hb).cell 1
    simp only [List.getElem?_toArray,List.getElem?_cons_zero,List.getElem?_cons_succ] at c0 c1
    have hg:=(HC.out.below hb).lt
    have HB:=Lib.hid hb
    rcases hi with ⟨rfl,ho⟩ | ⟨rfl,ho⟩ | ⟨rfl,ho⟩
    ·obtain ⟨p1,c2,w3,hrun,ho3,hb3⟩:=Tryz.appendN (h:=catF f fr C) 113 ho (.inl ⟨hC0,HA.out.below hb⟩) (by omega) hb.size (fun j hj=>by omega) (fun j hj=>by rw [Nat.zero_add,catF,if_pos hj])
     rw [Nat.zero_add] at hrun ho3
     have HO:=Lib.hid ho3
     have HB3:=Lib.hid (hb.trans hb3)
     clear ho ho3 hb hb3 HB
     go_wp2_with (at_builtin; refine Lib.wpList_append_run _ rfl _ _ _ _ rfl _ _ rfl rfl _ _ hrun ?_)
     go_roundw
     case rel=>exact ⟨1,by go_num,.inr (.inl ⟨rfl,HO.out⟩),HB3.out⟩
     case measure=>simp [intOf]
    ·obtain ⟨p1,c2,w3,hrun,ho3,hb3⟩:=Tryz.appendN (h:=catF f fr C) 113 ho (HN.out.below hb) (by have:=HNN.out; omega) hb.size (fun j hj=>rfl) (fun j hj=>by rw [catF,if_neg (by omega),Nat.add_sub_cancel_left])
     rw [HNN.out] at hrun ho3
     have HO:=Lib.hid ho3
     have HB3:=Lib.hid (hb.trans hb3)
     clear ho ho3 hb hb3 HB
     go_wp2_with (at_builtin; refine Lib.wpList_append_run _ rfl _ _ _ _ rfl _ _ rfl rfl _ _ hrun ?_)
     go_roundw
     case rel=>exact ⟨2,by go_num,.inr (.inr ⟨rfl,HO.out⟩),HB3.out⟩
     case measure=>simp [intOf]
    ·obtain ⟨gx,cx,rfl,hl,hge⟩:=ho.line (by have:=HNN.out; omega)
     have HL:=Lib.hid hl
     clear ho hl hb c0 c1
     go_wp2
     go_ret
     exact ⟨⟨gx,_,rfl,HL.out,hge⟩,HB.out⟩
end Go.Proofs.Mt
namespace Go.Proofs.Mt
open Go.RowKit Go.Proofs.Wd Go.Proofs.Fr Go.Proofs.Vt Go.Proofs.Mm
theorem LineO.keeps {w w':World} {g n cap k:Nat} {f:Nat → Rat} {S:Nat → Prop} (h:LineO w g n cap f k) (hg:Keeps w w' S) (hr:∀ b,S b → Odd w b) (hne:¬S g):LineO w' g n cap f k:=by
 obtain ⟨cur,h1,h2,h3⟩:=h.cells
 refine ⟨h.le,h.max,cur,hg.cells h1 hne,h2,fun j hj=>?_⟩
 obtain ⟨a,a1,a2⟩:=h3 j hj
 exact ⟨a,a1,frac_keeps a2 hg hr⟩
theorem LineO.ne {w:World} {g n cap k b:Nat} {f:Nat → Rat} {cur:Array Value} {t:TypeId} (h:LineO w g n cap f k) (hc:CellsAt w b cur t) (ht:t ≠ 30):g ≠ b:=fun e=>by
 obtain ⟨cur',h1,-⟩:=h.cells
 rw [e] at h1
 have h9:some (Obj.cells cur' 30 (0,0)) = some (Obj.cells cur t (0,0)):=h1.symm.trans hc
 simp only [Option.some.injEq,Obj.cells.injEq] at h9
 exact ht h9.2.1.symm
/-- A block of lines of the call's own, no two of them one. -/
structure LnsAt (w:World) (L cap R N:Nat) (E:F) (K G c:Nat → Nat):Prop where
 le:R ≤ cap
 max:cap ≤ maxLen
 cells:∃ cur,CellsAt w L cur 113 ∧ cur.size = cap ∧ ∀ i,i < R → cur[i]? = some (.slice (some ⟨G i,0,none⟩) N (c i))
 line:∀ i,i < R → LineO w (G i) N (c i) (E i) (K i)
 inj:∀ i j,i < R → j < R → G i = G j → i = j
theorem LnsAt.below {w w':World} {L cap R N:Nat} {E:F} {K G c:Nat → Nat} (h:LnsAt w L cap R N E K G c) (hb:Below w.heap.size w w'):LnsAt w' L cap R N E K G c:=by
 obtain ⟨cur,h1,h2,h3⟩:=h.cells
 exact ⟨h.le,h.max,⟨cur,h1.below hb,h2,h3⟩,fun i hi=>(h.line i hi).below hb,h.inj⟩
theorem LnsAt.congr {w:World} {L cap R N:Nat} {E E':F} {K K' G c:Nat → Nat} (h:LnsAt w L cap R N E K G c) (he:∀ i,i < R → ∀ j,j < N → E' i j = E i j) (hk:∀ i,i < R → K i ≤ K' i):LnsAt w L cap R N E' K' G c:=
 ⟨h.le,h.max,h.cells,fun i hi=>(h.line i hi).congr (fun j hj=>he i hi j hj) (hk i hi),h.inj⟩
theorem LnsAt.cell {w:World} {L cap R N i:Nat} {E:F} {K G c:Nat → Nat} (h:LnsAt w L cap R N E K G c) (hi:i < R):w.cell? ⟨L,i,none⟩ = some (.slice (some ⟨G i,0,none⟩) N (c i)) ∧ w.frozen? ⟨L,i,none⟩ = false ∧ L < w.heap.size:=by
 obtain ⟨cur,h1,h2,h3⟩:=h.cells
 exact ⟨(h1.cell i).trans (h3 i hi),h1.free i,h1.lt⟩
theorem LnsAt.odd {w:World} {L cap R N:Nat} {E:F} {K G c:Nat → Nat} (h:LnsAt w L cap R N E K G c) (hR:0 < R):Odd w L:=by
 obtain ⟨cur,h1,h2,h3⟩:=h.cells
 refine ⟨cur,_,h1,by decide,fun u hu=>?_⟩
 rw [h3 0 hR] at hu
 rw [← Option.some.inj hu]
 obtain ⟨cu,h4,-⟩:=(h.line 0 hR).cells
 exact .inr (.inr (.inl ⟨_,_,_,_,cu,_,rfl,h4,by decide⟩))
theorem LnsAt.neL {w:World} {L cap R N i:Nat} {E:F} {K G c:Nat → Nat} (h:LnsAt w L cap R N E K G c) (hi:i < R):G i ≠ L:=by
 obtain ⟨cur,h1,-⟩:=h.cells
 exact (h.line i hi).ne h1 (by decide)
theorem LnsAt.keeps {w w':World} {L cap R N:Nat} {E:F} {K G c:Nat → Nat} {S:Nat → Prop} (h:LnsAt w L cap R N E K G c) (hg:Keeps w w' S) (hr:∀ b,S b → Odd w b) (hL:¬S L) (hG:∀ i,i < R → ¬S (G i)):LnsAt w' L cap R N E K G c:=by
 obtain ⟨cur,h1,h2,h3⟩:=h.cells
 exact ⟨h.le,h.max,⟨cur,hg.cells h1 hL,h2,h3⟩,fun i hi=>(h.line i hi).keeps hg hr (hG i hi),h.inj⟩
/-- A line is written over. -/
theorem LnsAt.setLine {w w':World} {L cap R N i k:Nat} {E E':F} {K K' G c:Nat → Nat} {f:Nat → Rat} (h:LnsAt w L cap R N E K G c) (hN:0 < N) (hi:i < R) (hg:w.grownBy w' (some (G i))) (hl:LineO w' (G i) N (c i) f k)
 (he:∀ j,j < N → E' i j = f j) (hk:k ≤ K' i) (he':∀ l,l < R → l ≠ i → E' l = E l ∧ K l ≤ K' l):LnsAt w' L cap R N E' K' G c:=by
 obtain ⟨cur,h1,h2,h3⟩:=h.cells
 refine ⟨h.le,h.max,⟨cur,cells_far h1 hg (fun e=>h.neL hi e.symm),h2,h3⟩,fun l hl'=>?_,h.inj⟩
 by_cases e:l = i
 ·subst e; exact hl.congr he hk
 ·rw [(he' l hl' e).1]
  exact ((h.line l hl').far hg ((h.line i hi).odd hN) (fun e2=>e (h.inj l i hl' hi e2))).congr (fun _ _=>rfl) (he' l hl' e).2
/-- Another line is put in a place. -/
theorem LnsAt.put {w:World} {L cap R N i g cg k:Nat} {E E':F} {K K' G G' c c':Nat → Nat} {f:Nat → Rat} (h:LnsAt w L cap R N E K G c) (hi:i < R) (hl:LineO w g N cg f k) (hg:∀ l,l < R → l ≠ i → G l ≠ g)
 (he:∀ j,j < N → E' i j = f j) (hk:k ≤ K' i) (hG:G' i = g) (hc:c' i = cg) (he':∀ l,l < R → l ≠ i → E' l = E l ∧ K l ≤ K' l ∧ G' l = G l ∧ c' l = c l):LnsAt (w.setCell ⟨L,i,none⟩ (.slice (some ⟨g,0,none⟩) N cg)) L cap R N E' K' G' c':=by
 obtain ⟨cur,h1,h2,h3⟩:=h.cells
 have ho:=h.odd (Nat.lt_of_le_of_lt (Nat.zero_le _) hi)
 have hlL:g ≠ L:=hl.ne h1 (by decide)
 refine ⟨h.le,h.max,⟨_,h1.set i _,by simp [h2],fun l hl'=>?_⟩,fun l hl'=>?_,fun a b ha hb hab=>?_⟩
 ·by_cases e:l = i
  ·subst e; rw [hG,hc]; exact get_put' (by rw [h2]; exact Nat.lt_of_lt_of_le hi h.le)
  ·obtain ⟨-,-,e3,e4⟩:=he' l hl' e
   rw [e3,e4,get_put (fun x=>e x.symm)]; exact h3 l hl'
 ·by_cases e:l = i
  ·subst e; rw [hG,hc]; exact (hl.far (grown_setCell _ _ _ _) ho hlL).congr he hk
  ·obtain ⟨e1,e2,e3,e4⟩:=he' l hl' e
   rw [e1,e3,e4]
   exact ((h.line l hl').far (grown_setCell _ _ _ _) ho (h.neL hl')).congr (fun _ _=>rfl) e2
 ·by_cases ea:a = i
  ·by_cases eb:b = i
   ·rw [ea,eb]
   ·rw [ea,hG,(he' b hb eb).2.2.1] at hab
    exact absurd hab.symm (hg b hb eb)
  ·by_cases eb:b = i
   ·rw [eb,hG,(he' a ha ea).2.2.1] at hab
    exact absurd hab (hg a ha ea)
   ·rw [(he' a ha ea).2.2.1,(he' b hb eb).2.2.1] at hab
    exact h.inj a b ha hb hab
/-- Two places are changed for one another: what stands at t comes to a, and the other way. -/
def swapN (G:Nat → Nat) (t a:Nat):Nat → Nat:=fun i=>if i = t then G a else if i = a then G t else G i
theorem swapN_swap (G:Nat → Nat) (t a i:Nat):swapN G t a i = G (if i = t then a else if i = a then t else i):=by
 unfold swapN; split
 ·rfl
 ·split <;> rfl
theorem swapRow_at (E:F) (t a i:Nat):swapRow E t a i = E (if i = t then a else if i = a then t else i):=by
 unfold swapRow; split
 ·rfl
 ·split <;> rfl
theorem LnsAt.swap {w:World} {L cap R N t a:Nat} {E:F} {K G c:Nat → Nat} (h:LnsAt w L cap R N E K G c) (ht:t < R) (ha:a < R) :
 LnsAt ((w.setCell ⟨L,t,none⟩ (.slice (some ⟨G a,0,none⟩) N (c a))).setCell ⟨L,a,none⟩ (.slice (some ⟨G t,0,none⟩) N (c t))) L cap R N (swapRow E t a) (swapN K t a) (swapN G t a) (swapN c t a):=by
 obtain ⟨cur,h1,h2,h3⟩:=h.cells
 have ho:=h.odd (Nat.lt_of_le_of_lt (Nat.zero_le _) ht)
 have hlt:∀ i,i < R → (if i = t then a else if i = a then t else i) < R:=fun i hi=>by
  split
  ·exact ha
  ·split
   ·exact ht
   ·exact hi
 have hK:Keeps w ((w.setCell ⟨L,t,none⟩ (.slice (some ⟨G a,0,none⟩) N (c a))).setCell ⟨L,a,none⟩ (.slice (some ⟨G t,0,none⟩) N (c t))) (fun x=>x = L):=
  keeps_grown (grown_trans (grown_setCell _ _ _ _) (grown_setCell _ _ _ _))
 refine ⟨h.le,h.max,⟨_,(h1.set t _).set a _,by simp [h2],fun i hi=>?_⟩,fun i hi=>?_,fun i j hi hj hij=>?_⟩
 ·rw [swapN_swap,swapN_swap]
  by_cases e:i = a
  ·subst e
   rw [get_put' (by simp [h2]; exact Nat.lt_of_lt_of_le hi h.le)]
   by_cases e2:i = t
   ·rw [if_pos e2,e2]
   ·rw [if_neg e2,if_pos rfl]
  ·rw [get_put (fun x=>e x.symm)]
   by_cases e2:i = t
   ·subst e2
    rw [get_put' (by rw [h2]; exact Nat.lt_of_lt_of_le hi h.le),if_pos rfl]
   ·rw [get_put (fun x=>e2 x.symm),if_neg e2,if_neg e]; exact h3 i hi
 ·rw [swapN_swap,swapN_swap,swapN_swap,swapRow_at]
  exact (h.line _ (hlt i hi)).keeps hK (fun b hb=>by rw [hb]; exact ho) (h.neL (hlt i hi))
 ·rw [swapN_swap,swapN_swap] at hij
  have:=h.inj _ _ (hlt i hi) (hlt j hj) hij
  revert this
  split <;> split <;> (try split) <;> (try split) <;> intro this <;> omega
/-- Whole numbers in a block, whatever they are. -/
def Zs (w:World) (g n:Nat):Prop:=∃ cur,CellsAt w g cur 3 ∧ cur.size = n ∧ ∀ j,j < n → ∃ z,cur[j]? = some (.int .i64 z)
theorem Zs.below {w w':World} {g n:Nat} (h:Zs w g n) (hb:Below w.heap.size w w'):Zs w' g n:=by
 obtain ⟨cur,h1,h2⟩:=h
 exact ⟨cur,h1.below hb,h2⟩
theorem Zs.cell {w:World} {g n j:Nat} (h:Zs w g n) (hj:j < n):∃ z,w.cell? ⟨g,j,none⟩ = some (.int .i64 z) ∧ w.frozen? ⟨g,j,none⟩ = false ∧ g < w.heap.size:=by
 obtain ⟨cur,h1,h2,h3⟩:=h
 obtain ⟨z,hz⟩:=h3 j hj
 exact ⟨z,(h1.cell j).trans hz,h1.free j,h1.lt⟩
theorem Zs.set {w:World} {g n j:Nat} (h:Zs w g n) (z:Int):Zs (w.setCell ⟨g,j,none⟩ (.int .i64 z)) g n:=by
 obtain ⟨cur,h1,h2,h3⟩:=h
 refine ⟨_,h1.set j _,by simp [h2],fun i hi=>?_⟩
 by_cases e:j = i
 ·subst e; exact ⟨z,get_put' (by omega)⟩
 ·rw [get_put e]; exact h3 i hi
theorem Zs.far {w:World} {g n b j:Nat} {u:Value} (h:Zs w g n) (hne:g ≠ b):Zs (w.setCell ⟨b,j,none⟩ u) g n:=by
 obtain ⟨cur,h1,h2⟩:=h
 exact ⟨cur,cells_far h1 (grown_setCell _ _ _ _) hne,h2⟩
theorem Tryz.infoInt:(Tryz.prog.info? 3).map (fun i=>(i.zero,i.size,i.bytes)) = some (some (.int .i64 0),1,8):=by with_unfolding_all rfl
theorem Tryz.makeZs (w:World) (c:Int) (n:Nat) (hc:c = n) (hn:n ≤ 1000000000000):∃ w',(Instr.makeSlice 22 (.int .i64 c) (.int .i64 c)).run Tryz.prog w = .ok (.slice (some ⟨w.heap.size,0,none⟩) n n) w' ∧ Zs w' w.heap.size n ∧ Below w.heap.size w w':=by
 obtain ⟨i0,hi,hz0,hz1,hz2⟩:=info_parts Tryz.infoInt
 subst hc
 have hr:=run_make (P:=Tryz.prog) w 22 3 i0 _ Tryz.underlying22 hi hz0 .i64 .i64 n n (by omega) (by omega) (by rw [hz2]; omega) (by omega)
 rw [hz1,Int.toNat_natCast] at hr
 refine ⟨_,hr,⟨_,CellsAt.new w _ _ rfl,by rw [size_madeCells,Nat.mul_one],fun j hj=>⟨0,?_⟩⟩,(Below.refl _ _).alloc (Nat.le_refl _) _⟩
 have h2:j < n * 1:=by omega
 simp [madeCells,Value.cells,hj,Nat.mod_one]
/-- Equations in memory: R lines of N, of them u unknowns; t are told. -/
structure Eqs (B:Nat) (w:World) (e L cap R u N t:Nat) (E:F) (told K G c:Nat → Nat):Prop where
 lns:LnsAt w L cap R N E K G c
 st:∃ tv us,CellsAt w e #[.slice (some ⟨L,0,none⟩) R cap,.int .i64 u,tv] 126 ∧ w.ownsRow B 3 1 tv t us ∧ (t = 0 → tv = .slice none 0 0) ∧ ∀ j,j < t → us[j]? = some (.int .i64 (told j:Nat))
 be:B ≤ e
 bL:B ≤ L
 bG:∀ i,i < R → B ≤ G i
theorem Eqs.below {B:Nat} {w w':World} {e L cap R u N t:Nat} {E:F} {told K G c:Nat → Nat} (h:Eqs B w e L cap R u N t E told K G c) (hb:Below w.heap.size w w'):Eqs B w' e L cap R u N t E told K G c:=by
 obtain ⟨tv,us,h1,h2,h3⟩:=h.st
 exact ⟨h.lns.below hb,⟨tv,us,h1.below hb,ownsRow_below h2 hb,h3⟩,h.be,h.bL,h.bG⟩
theorem Eqs.parts {B:Nat} {w:World} {e L cap R u N t:Nat} {E:F} {told K G c:Nat → Nat} (h:Eqs B w e L cap R u N t E told K G c):∃ p q,CellsAt w e #[.slice (some ⟨L,0,none⟩) R cap,.int .i64 u,.slice p t q] 126:=by
 obtain ⟨tv,us,h1,⟨-,⟨rfl,rfl⟩ | ⟨b,q,cur,rfl,-⟩⟩,h3⟩:=h.st
 ·exact ⟨none,0,h1⟩
 ·exact ⟨_,q,h1⟩
end Go.Proofs.Mt
namespace Go.Proofs.Mt
open Go.RowKit Go.Proofs.Wd Go.Proofs.Fr Go.Proofs.Vt Go.Proofs.Mm
theorem Zs.lt {w:World} {g n:Nat} (h:Zs w g n):g < w.heap.size:=by
 obtain ⟨cur,h1,-⟩:=h
 exact h1.lt
theorem Tryz.matCounts (B e L cap R u N t n cn o:Nat) (E:F) (told K G c:Nat → Nat) (w:World) (h:Eqs B w e L cap R u N t E told K G c) (hn:t + n = R) (hu:u ≤ N) (hR:R ≤ 1000) (hN:N ≤ 1000) (hcn:n ≤ cn) (hcn9:cn ≤ maxLen) (ho:o = t ∨ n = 0) :
 Calls Tryz.prog 168 #[.pointer (some ⟨e,0,none⟩),.slice (some ⟨L,o,none⟩) n cn] w fun r w'=>(∃ gi gc,r = .returned (.tuple #[.slice (some ⟨gi,0,none⟩) n n,.slice (some ⟨gc,0,none⟩) u u]) ∧ Zs w' gi n ∧ Zs w' gc u) ∧ Below w.heap.size w w':=by
 obtain ⟨p,q,hst⟩:=h.parts
 have HE:=Lib.hid h
 have HS:=Lib.hid hst
 have HB:Hid (Below w.heap.size w w):=Below.refl _ _
 unfold maxLen at hcn9
 clear h hst
 go_enter Tryz.func168,Tryz.ntmps168
 go_upto_region 1 with (fail)
 go_cut [4,5] (fun iv cv wx=>∃ gi gc,iv = .slice (some ⟨gi,0,none⟩) n n ∧ cv = .slice (some ⟨gc,0,none⟩) u u ∧ Zs wx gi n ∧ Zs wx gc u ∧ gi ≠ gc ∧ w.heap.size ≤ gi ∧ w.heap.size ≤ gc ∧ Below w.heap.size w wx)
 case first=>
  refine wp_region_held_drew (S:=fun w'=>w'.cell? ⟨e,0,none⟩ = some (.slice (some ⟨L,0,none⟩) R cap) ∧ w'.cell? ⟨e,1,none⟩ = some (.int .i64 u) ∧ w'.cell? ⟨e,2,none⟩ = some (.slice p t q)) (by kernel_rfl) ⟨HS.out.cell 0,HS.out.cell 1,HS.out.cell 2⟩ (fun hHeld=>?_)
  replace HB:=Lib.hid (HB.out.drew)
  replace HS:=Lib.hid (HS.out.below (Below.refl _ _).drew)
  clear hHeld
  generalize w.drew = wd at *
  have hHeld:(fun w':World=>w'.cell? ⟨e,0,none⟩ = some (.slice (some ⟨L,0,none⟩) R cap) ∧ w'.cell? ⟨e,1,none⟩ = some (.int .i64 u) ∧ w'.cell? ⟨e,2,none⟩ = some (.slice p t q)) wd:=⟨HS.out.cell 0,HS.out.cell 1,HS.out.cell 2⟩
  refine takeY 0 (h:=?_)
  refine takeY 1 (h:=?_)
  refine takeY 3 (h:=?_)
  (try simp only [Act.put,List.setIfInBounds_toArray,List.set_cons_zero,List.set_cons_succ])
  refine takeY 4 (h:=?_)
  refine takeY 5 (h:=?_)
  refine takeY 6 (h:=?_)
  (try simp only [Act.put,List.setIfInBounds_toArray,List.set_cons_zero,List.set_cons_succ])
  refine wpAnyH_ready (rs:=[2,7]) (by kernel_rfl) (by simp) ?_
  refine AllReadyH.cons (by (simp only [List.getElem?_toArray,List.getElem?_cons_succ,List.getElem?_cons_zero]) <;> rfl) (fun KX hK=>?_) (AllReadyH.cons (by (simp only [List.getElem?_toArray,List.getElem?_cons_succ,List.getElem?_cons_zero]) <;> rfl) (fun KX hK=>?_) AllReadyH.nil)
  ·skip
   obtain ⟨w1,hmk,hz,hb⟩:=Tryz.makeZs wd n n rfl (by omega)
   have hgi:w.heap.size ≤ wd.heap.size:=HB.out.size
   obtain ⟨gi,hg⟩:∃ g,wd.heap.size = g:=⟨_,rfl⟩
   have HGi:=Lib.hid hg
   rw [hg] at hmk hz hgi
   clear hg hHeld
   go_simp
   clear hmk
   have HZi:=Lib.hid hz
   have hli:=hz.lt
   have hsi:=hb.size
   clear hz
   replace HB:=Lib.hid (HB.out.trans (hb.mono HB.out.size))
   replace HS:=Lib.hid (HS.out.below hb)
   clear hb
   refine hK.out _ _ ⟨HS.out.cell 0,HS.out.cell 1,HS.out.cell 2⟩ (fun hHeld=>?_)
   clear hK KX
   (try simp only [Act.put,List.setIfInBounds_toArray,List.set_cons_zero,List.set_cons_succ])
   refine takeY 8 (h:=?_)
   (try simp only [Act.put,List.setIfInBounds_toArray,List.set_cons_zero,List.set_cons_succ])
   refine wpAnyH_ready (rs:=[7]) (by kernel_rfl) (by simp) ?_
   refine AllReadyH.cons (by (simp only [List.getElem?_toArray,List.getElem?_cons_succ,List.getElem?_cons_zero]) <;> rfl) (fun KX hK=>?_) AllReadyH.nil
   obtain ⟨w2,hmk,hz,hb⟩:=Tryz.makeZs w1 u u rfl (by omega)
   have hgc:w.heap.size ≤ w1.heap.size:=HB.out.size
   obtain ⟨gc,hg⟩:∃ g,w1.heap.size = g:=⟨_,rfl⟩
   have HGc:=Lib.hid hg
   rw [hg] at hmk hz hgc
   clear hg hHeld
   go_simp
   clear hmk
   have HZc:=Lib.hid hz
   have hlc:=hz.lt
   have hsc:=hb.size
   clear hz
   replace HB:=Lib.hid (HB.out.trans (hb.mono HB.out.size))
   replace HS:=Lib.hid (HS.out.below hb)
   replace HZi:=Lib.hid (HZi.out.below hb)
   clear hb
   refine hK.out _ _ ⟨HS.out.cell 0,HS.out.cell 1,HS.out.cell 2⟩ (fun hHeld=>?_)
   clear hK KX
   (try simp only [Act.put,List.setIfInBounds_toArray,List.set_cons_zero,List.set_cons_succ])
   refine takeY 9 (h:=?_)
   (try simp only [Act.put,List.setIfInBounds_toArray,List.set_cons_zero,List.set_cons_succ])
   refine wpAnyH_done (by kernel_rfl) ?_ _
   go_wp2_with fail
   go_meet
   exact ⟨_,_,rfl,rfl,HZi.out,HZc.out,by have a:=HGi.out; have b:=HGc.out; omega,hgi,hgc,HB.out⟩
  ·skip
   obtain ⟨w1,hmk,hz,hb⟩:=Tryz.makeZs wd u u rfl (by omega)
   have hgc:w.heap.size ≤ wd.heap.size:=HB.out.size
   obtain ⟨gc,hg⟩:∃ g,wd.heap.size = g:=⟨_,rfl⟩
   have HGc:=Lib.hid hg
   rw [hg] at hmk hz hgc
   clear hg hHeld
   go_simp
   clear hmk
   have HZc:=Lib.hid hz
   have hlc:=hz.lt
   have hsc:=hb.size
   clear hz
   replace HB:=Lib.hid (HB.out.trans (hb.mono HB.out.size))
   replace HS:=Lib.hid (HS.out.below hb)
   clear hb
   refine hK.out _ _ ⟨HS.out.cell 0,HS.out.cell 1,HS.out.cell 2⟩ (fun hHeld=>?_)
   clear hK KX
   (try simp only [Act.put,List.setIfInBounds_toArray,List.set_cons_zero,List.set_cons_succ])
   refine wpAnyH_ready (rs:=[2]) (by kernel_rfl) (by simp) ?_
   refine AllReadyH.cons (by (simp only [List.getElem?_toArray,List.getElem?_cons_succ,List.getElem?_cons_zero]) <;> rfl) (fun KX hK=>?_) AllReadyH.nil
   obtain ⟨w2,hmk,hz,hb⟩:=Tryz.makeZs w1 n n rfl (by omega)
   have hgi:w.heap.size ≤ w1.heap.size:=HB.out.size
   obtain ⟨gi,hg⟩:∃ g,w1.heap.size = g:=⟨_,rfl⟩
   have HGi:=Lib.hid hg
   rw [hg] at hmk hz hgi
   clear hg hHeld
   go_simp
   clear hmk
   have HZi:=Lib.hid hz
   have hli:=hz.lt
   have hsi:=hb.size
   clear hz
   replace HB:=Lib.hid (HB.out.trans (hb.mono HB.out.size))
   replace HS:=Lib.hid (HS.out.below hb)
   replace HZc:=Lib.hid (HZc.out.below hb)
   clear hb
   refine hK.out _ _ ⟨HS.out.cell 0,HS.out.cell 1,HS.out.cell 2⟩ (fun hHeld=>?_)
   clear hK KX
   (try simp only [Act.put,List.setIfInBounds_toArray,List.set_cons_zero,List.set_cons_succ])
   refine takeY 8 (h:=?_)
   refine takeY 9 (h:=?_)
   (try simp only [Act.put,List.setIfInBounds_toArray,List.set_cons_zero,List.set_cons_succ])
   refine wpAnyH_done (by kernel_rfl) ?_ _
   go_wp2_with fail
   go_meet
   exact ⟨_,_,rfl,rfl,HZi.out,HZc.out,by have a:=HGi.out; have b:=HGc.out; omega,hgi,hgc,HB.out⟩
 case rest=>
  obtain ⟨gi,gc,rfl,rfl,zi,zc,hgg,hgi,hgc,hb⟩:=hcut
  have HZi:=Lib.hid zi
  have HZc:=Lib.hid zc
  have HB1:=Lib.hid hb
  clear zi zc hb HB
  go_wp2_with fail
  go_loopw [20] (fun iv wr=>∃ i:Nat,iv = .int .i64 i ∧ i ≤ n ∧ Zs wr gi n ∧ Zs wr gc u ∧ Below w.heap.size w wr) (fun iv _=>n - (intOf iv).toNat)
  case atStart=>exact ⟨0,rfl,Nat.zero_le _,HZi.out,HZc.out,HB1.out⟩
  case round=>
   obtain ⟨i,rfl,hi,zi,zc,hb⟩:=hrel
   clear HZi HZc HB1
   by_cases hlt:i < n
   ·obtain rfl:o = t:=by omega
    have hE:=HE.out.below hb
    obtain ⟨x0,-,x1⟩:=hE.lns.cell (i:=o + i) (by omega)
    have hS:=HS.out.below hb
    have s1:=hS.cell 1
    simp only [List.getElem?_toArray,List.getElem?_cons_zero,List.getElem?_cons_succ] at s1
    have s2:=hS.lt
    have hle:=(hE.lns.line (o + i) (by omega)).le
    have hmx:=(hE.lns.line (o + i) (by omega)).max
    unfold maxLen at hmx
    have HZi:=Lib.hid zi
    have HZc:=Lib.hid zc
    have HB1:=Lib.hid hb
    have i0:(0:Int) ≤ (i:Int):=by omega
    have i1:(i:Int) < (n:Int):=by omega
    have u0:(0:Int) ≤ (u:Int):=by omega
    have u1:(u:Int) ≤ ((c (o + i):Nat):Int):=by omega
    clear zi zc hb hE hS
    go_wp2_with fail
    go_loopw [32] (fun jv wr=>∃ j:Nat,jv = .int .i64 j ∧ j ≤ u ∧ Zs wr gi n ∧ Zs wr gc u ∧ Below w.heap.size w wr) (fun iv _=>u - (intOf iv).toNat)
    case atStart=>exact ⟨0,rfl,Nat.zero_le _,HZi.out,HZc.out,HB1.out⟩
    case round=>
     obtain ⟨j,rfl,hj,zi,zc,hb⟩:=hrel
     clear HZi HZc HB1 x0 x1 s1 s2
     by_cases hjl:j < u
     ·obtain ⟨b,y0,-,hf⟩:=((HE.out.below hb).lns.line (o + i) (by omega)).cell (j:=j) (by omega)
      have HF:=Lib.hid hf
      have HZi:=Lib.hid zi
      have HZc:=Lib.hid zc
      have HB1:=Lib.hid hb
      have j0:(0:Int) ≤ (j:Int):=by omega
      have j1:(j:Int) < (u:Int):=by omega
      obtain ⟨z,hz⟩:∃ z,E (o + i) j = z:=⟨_,rfl⟩
      obtain ⟨kk,hkk⟩:∃ kk,K (o + i) = kk:=⟨_,rfl⟩
      rw [hz,hkk] at HF
      obtain ⟨s,hs⟩:∃ s:Int,z.num.sign = s:=⟨_,rfl⟩
      have e2:(s == 0) = decide (z = 0):=by rw [← hs,Bool.eq_iff_iff]; simp
      have e2':(s != 0) = !decide (z = 0):=by rw [bne,e2]
      have HSG:Hid (∀ W,FracIs W (.pointer b) z kk → Calls Tryz.prog 64 #[.pointer b] W fun e w'=>e = .returned (.int .i64 s) ∧ Below W.heap.size W w'):=fun W h=>calls_of_eq (Tryz.Sign (.pointer b) z kk W h) hs
      clear zi zc hb hf hz hkk hs
      go_wp2_with fail
      with_reducible refine (HSG.out _ HF.out).mono ?_
      rintro e1 w2 ⟨rfl,hb2⟩
      have HZi2:=Lib.hid (HZi.out.below hb2)
      have HZc2:=Lib.hid (HZc.out.below hb2)
      have HB2:=Lib.hid (HB1.out.trans (hb2.mono HB1.out.size))
      clear hb2 HSG HF HZi HZc HB1 y0
      by_cases hz0:z = 0
      ·have e3:decide (z = 0) = true:=by simpa using hz0
       clear hz0
       go_wp2
       go_roundw
       case rel=>exact ⟨j + 1,by go_num,by omega,HZi2.out,HZc2.out,HB2.out⟩
       case measure=>simp [intOf]; omega
      ·have e3:decide (z = 0) = false:=by simpa using hz0
       clear hz0
       obtain ⟨z1,a0,a1,a2⟩:=HZi2.out.cell hlt
       obtain ⟨w3,hw3⟩:∃ W,w2.setCell ⟨gi,i,none⟩ (.int .i64 (wrap64 (z1 + 1))) = W:=⟨_,rfl⟩
       have HZi3:Hid (Zs w3 gi n):=by rw [← hw3]; exact HZi2.out.set _
       have HZc3:Hid (Zs w3 gc u):=by rw [← hw3]; exact HZc2.out.far (fun e=>hgg e.symm)
       have HB3:Hid (Below w.heap.size w w3):=by rw [← hw3]; exact HB2.out.setCell (p:=⟨gi,i,none⟩) hgi _
       obtain ⟨z2,b0,b1,b2⟩:=HZc3.out.cell hjl
       have HZi4:Hid (Zs (w3.setCell ⟨gc,j,none⟩ (.int .i64 (wrap64 (z2 + 1)))) gi n):=HZi3.out.far hgg
       have HZc4:Hid (Zs (w3.setCell ⟨gc,j,none⟩ (.int .i64 (wrap64 (z2 + 1)))) gc u):=HZc3.out.set _
       have HB4:Hid (Below w.heap.size w (w3.setCell ⟨gc,j,none⟩ (.int .i64 (wrap64 (z2 + 1))))):=HB3.out.setCell (p:=⟨gc,j,none⟩) hgc _
       clear HZi2 HZc2 HB2 HZi3 HZc3 HB3
       go_wp2
       go_roundw
       case rel=>exact ⟨j + 1,by go_num,by omega,HZi4.out,HZc4.out,HB4.out⟩
       case measure=>simp [intOf]; omega
     ·have e3:decide ((j:Int) < (u:Int)) = false:=by simp; omega
      have e3':decide (j < u) = false:=by simpa using hjl
      have HZi2:=Lib.hid zi
      have HZc2:=Lib.hid zc
      have HB2:=Lib.hid hb
      clear zi zc hb
      go_wp2
      go_roundw
      case rel=>exact ⟨i + 1,by go_num,by omega,HZi2.out,HZc2.out,HB2.out⟩
      case measure=>simp [intOf]; omega
   ·have e3:decide ((i:Int) < (n:Int)) = false:=by simp; omega
    have e3':decide (i < n) = false:=by simpa using hlt
    have HZi2:=Lib.hid zi
    have HZc2:=Lib.hid zc
    have HB2:=Lib.hid hb
    clear zi zc hb
    go_wp2
    go_ret2
    exact ⟨⟨gi,gc,rfl,HZi2.out,HZc2.out⟩,HB2.out⟩
/-- What the search has by now: the lines before i are seen, and of line i the numbers before j. -/
def Pk (E:F) (t n u i j:Nat) (ok:Bool) (a x:Nat):Prop:=(ok = true → a < n ∧ x < u ∧ E (t + a) x ≠ 0) ∧ (ok = false → (∀ l y,l < i → y < u → E (t + l) y = 0) ∧ ∀ y,y < j → E (t + i) y = 0)
theorem Pk.next {E:F} {t n u i j a x:Nat} {ok:Bool} (h:Pk E t n u i j ok a x) (hz:E (t + i) j = 0):Pk E t n u i (j + 1) ok a x:=⟨h.1,fun e=>⟨(h.2 e).1,fun y hy=>by
 by_cases e2:y = j
 ·rw [e2]; exact hz
 ·exact (h.2 e).2 y (by omega)⟩⟩
theorem Pk.line {E:F} {t n u i a x:Nat} {ok:Bool} (h:Pk E t n u i u ok a x):Pk E t n u (i + 1) 0 ok a x:=⟨h.1,fun e=>⟨fun l y hl hy=>by
 by_cases e2:l = i
 ·rw [e2]; exact (h.2 e).2 y hy
 ·exact (h.2 e).1 l y (by omega) hy,fun y hy=>by omega⟩⟩
theorem Pk.took {E:F} {t n u i j:Nat} (hi:i < n) (hj:j < u) (hz:E (t + i) j ≠ 0):Pk E t n u i (j + 1) true i j:=⟨fun _=>⟨hi,hj,hz⟩,fun e=>by simp at e⟩
theorem Pk.stays {E:F} {t n u i j i' j' a x:Nat} (h:Pk E t n u i j true a x):Pk E t n u i' j' true a x:=⟨h.1,fun e=>by simp at e⟩
theorem Tryz.matPick (B e L cap R u N t n:Nat) (E:F) (told K G c:Nat → Nat) (w:World) (h:Eqs B w e L cap R u N t E told K G c) (hn:t + n = R) (hu:u ≤ N) (hR:R ≤ 1000) (hN:N ≤ 1000) :
 Calls Tryz.prog 128 #[.pointer (some ⟨e,0,none⟩)] w fun r w'=>(∃ (a x:Nat) (ok:Bool),r = .returned (.tuple #[.int .i64 a,.int .i64 x,.bool ok]) ∧ Pk E t n u n 0 ok a x) ∧ Below w.heap.size w w':=by
 subst hn
 obtain ⟨p,q,hst⟩:=h.parts
 have HE:=Lib.hid h
 have HS:=Lib.hid hst
 have HB:Hid (Below w.heap.size w w):=Below.refl _ _
 have hcap:=h.lns.le
 have hmax:=h.lns.max
 have hmax2:=hmax
 unfold maxLen at hmax2
 have t0:(0:Int) ≤ (t:Int):=by omega
 have t1:(t:Int) ≤ (t:Int) + (n:Int):=by omega
 have t2:(t:Int) ≤ ((cap:Nat):Int):=by omega
 clear h hst
 go_enter Tryz.func128,Tryz.ntmps128
 go_upto_region 1 with (fail)
 go_cut [2,3,4,5] (fun av xv kv rv wx=>av = .int .i64 0 ∧ xv = .int .i64 0 ∧ kv = .bool false ∧ (∃ o,rv = .slice (some ⟨L,o,none⟩) n (cap - t) ∧ (o = t ∨ n = 0)) ∧ Below w.heap.size w wx)
 case first=>
  by_cases hct:cap = t
  ·have HCT:=Lib.hid hct
   refine wp_region_held_drew (S:=fun w'=>w'.cell? ⟨e,0,none⟩ = some (.slice (some ⟨L,0,none⟩) (t + n) cap) ∧ w'.cell? ⟨e,1,none⟩ = some (.int .i64 u) ∧ w'.cell? ⟨e,2,none⟩ = some (.slice p t q)) (by kernel_rfl) ⟨HS.out.cell 0,HS.out.cell 1,HS.out.cell 2⟩ (fun hHeld=>?_)
   replace HB:=Lib.hid (HB.out.drew)
   replace HS:=Lib.hid (HS.out.below (Below.refl _ _).drew)
   clear hHeld
   generalize w.drew = wd at *
   have hHeld:(fun w':World=>w'.cell? ⟨e,0,none⟩ = some (.slice (some ⟨L,0,none⟩) (t + n) cap) ∧ w'.cell? ⟨e,1,none⟩ = some (.int .i64 u) ∧ w'.cell? ⟨e,2,none⟩ = some (.slice p t q)) wd:=⟨HS.out.cell 0,HS.out.cell 1,HS.out.cell 2⟩
   refine takeY 0 (h:=?_)
   refine takeY 1 (h:=?_)
   refine takeY 2 (h:=?_)
   (try simp only [Act.put,List.setIfInBounds_toArray,List.set_cons_zero,List.set_cons_succ])
   refine takeY 3 (h:=?_)
   refine takeY 4 (h:=?_)
   refine takeY 5 (h:=?_)
   (try simp only [Act.put,List.setIfInBounds_toArray,List.set_cons_zero,List.set_cons_succ])
   refine takeY 6 (h:=?_)
   refine takeY 7 (h:=?_)
   refine takeY 8 (h:=?_)
   (try simp only [Act.put,List.setIfInBounds_toArray,List.set_cons_zero,List.set_cons_succ])
   refine takeY 9 (h:=?_)
   refine takeY 10 (h:=?_)
   (try simp only [Act.put,List.setIfInBounds_toArray,List.set_cons_zero,List.set_cons_succ])
   refine wpAnyH_done (by kernel_rfl) ?_ _
   go_wp2_with fail
   go_meet
   exact ⟨rfl,rfl,rfl,⟨0,by simp [hct],.inr (by omega)⟩,HB.out⟩
  ·skip
   refine wp_region_held_drew (S:=fun w'=>w'.cell? ⟨e,0,none⟩ = some (.slice (some ⟨L,0,none⟩) (t + n) cap) ∧ w'.cell? ⟨e,1,none⟩ = some (.int .i64 u) ∧ w'.cell? ⟨e,2,none⟩ = some (.slice p t q)) (by kernel_rfl) ⟨HS.out.cell 0,HS.out.cell 1,HS.out.cell 2⟩ (fun hHeld=>?_)
   replace HB:=Lib.hid (HB.out.drew)
   replace HS:=Lib.hid (HS.out.below (Below.refl _ _).drew)
   clear hHeld
   generalize w.drew = wd at *
   have hHeld:(fun w':World=>w'.cell? ⟨e,0,none⟩ = some (.slice (some ⟨L,0,none⟩) (t + n) cap) ∧ w'.cell? ⟨e,1,none⟩ = some (.int .i64 u) ∧ w'.cell? ⟨e,2,none⟩ = some (.slice p t q)) wd:=⟨HS.out.cell 0,HS.out.cell 1,HS.out.cell 2⟩
   refine takeY 0 (h:=?_)
   refine takeY 1 (h:=?_)
   refine takeY 2 (h:=?_)
   (try simp only [Act.put,List.setIfInBounds_toArray,List.set_cons_zero,List.set_cons_succ])
   refine takeY 3 (h:=?_)
   refine takeY 4 (h:=?_)
   refine takeY 5 (h:=?_)
   (try simp only [Act.put,List.setIfInBounds_toArray,List.set_cons_zero,List.set_cons_succ])
   refine takeY 6 (h:=?_)
   refine takeY 7 (h:=?_)
   refine takeY 8 (h:=?_)
   (try simp only [Act.put,List.setIfInBounds_toArray,List.set_cons_zero,List.set_cons_succ])
   refine takeY 9 (h:=?_)
   refine takeY 10 (h:=?_)
   (try simp only [Act.put,List.setIfInBounds_toArray,List.set_cons_zero,List.set_cons_succ])
   refine wpAnyH_done (by kernel_rfl) ?_ _
   go_wp2_with fail
   go_meet
   exact ⟨rfl,rfl,rfl,⟨t,by simp,.inl rfl⟩,HB.out⟩
 case rest=>
  obtain ⟨rfl,rfl,rfl,⟨o,rfl,ho⟩,hb⟩:=hcut
  have HB0:=Lib.hid hb
  clear hb HB
  go_wp2_with fail
  with_reducible refine (Tryz.matCounts B e L cap (t + n) u N t n (cap - t) o E told K G c _ (HE.out.below HB0.out) rfl hu hR hN (by omega) (by unfold maxLen; omega) ho).mono ?_
  rintro e1 w1 ⟨⟨gi,gc,rfl,zi,zc⟩,hb⟩
  have HZi:=Lib.hid zi
  have HZc:=Lib.hid zc
  have HB1:=Lib.hid (HB0.out.trans (hb.mono HB0.out.size))
  have HP:Hid (Pk E t n u 0 0 false 0 0):=⟨fun e=>by simp at e,fun _=>⟨fun l y hl=>by omega,fun y hy=>by omega⟩⟩
  clear zi zc hb HB0
  go_wp2_with fail
  go_loopw [2,3,4,8,32] (fun av xv kv lv iv wr=>∃ (i a x:Nat) (ok:Bool) (z:Int),av = .int .i64 a ∧ xv = .int .i64 x ∧ kv = .bool ok ∧ lv = .int .i64 z ∧ iv = .int .i64 i ∧ i ≤ n ∧ Pk E t n u i 0 ok a x ∧ Zs wr gi n ∧ Zs wr gc u ∧ Below w.heap.size w wr) (fun av xv kv lv iv _=>n - (intOf iv).toNat)
  case atStart=>exact ⟨0,0,0,false,0,rfl,rfl,rfl,rfl,rfl,Nat.zero_le _,HP.out,HZi.out,HZc.out,HB1.out⟩
  case round=>
   obtain ⟨i,a,x,ok,z0,rfl,rfl,rfl,rfl,rfl,hi,hp,zi,zc,hb⟩:=hrel
   clear HZi HZc HB1 HP
   by_cases hlt:i < n
   ·obtain rfl:o = t:=by omega
    have hE:=HE.out.below hb
    obtain ⟨x0,-,x1⟩:=hE.lns.cell (i:=o + i) (by omega)
    have hS:=HS.out.below hb
    have s1:=hS.cell 1
    simp only [List.getElem?_toArray,List.getElem?_cons_zero,List.getElem?_cons_succ] at s1
    have s2:=hS.lt
    have hle:=(hE.lns.line (o + i) (by omega)).le
    have hmx:=(hE.lns.line (o + i) (by omega)).max
    unfold maxLen at hmx
    have HP:=Lib.hid hp
    have HZi:=Lib.hid zi
    have HZc:=Lib.hid zc
    have HB1:=Lib.hid hb
    have i0:(0:Int) ≤ (i:Int):=by omega
    have i1:(i:Int) < (n:Int):=by omega
    have u0:(0:Int) ≤ (u:Int):=by omega
    have u1:(u:Int) ≤ ((c (o + i):Nat):Int):=by omega
    clear zi zc hb hE hS hp
    go_wp2_with fail
    go_loopw [2,3,4,8,44] (fun av xv kv lv jv wr=>∃ (j a x:Nat) (ok:Bool) (z:Int),av = .int .i64 a ∧ xv = .int .i64 x ∧ kv = .bool ok ∧ lv = .int .i64 z ∧ jv = .int .i64 j ∧ j ≤ u ∧ Pk E o n u i j ok a x ∧ Zs wr gi n ∧ Zs wr gc u ∧ Below w.heap.size w wr) (fun av xv kv lv jv _=>u - (intOf jv).toNat)
    case atStart=>exact ⟨0,a,x,ok,z0,rfl,rfl,rfl,rfl,rfl,Nat.zero_le _,HP.out,HZi.out,HZc.out,HB1.out⟩
    case round=>
     obtain ⟨j,a,x,ok,z0,rfl,rfl,rfl,rfl,rfl,hj,hp,zi,zc,hb⟩:=hrel
     clear HZi HZc HB1 HP x0 x1 s1 s2
     by_cases hjl:j < u
     ·obtain ⟨b,y0,-,hf⟩:=((HE.out.below hb).lns.line (o + i) (by omega)).cell (j:=j) (by omega)
      have HF:=Lib.hid hf
      have HP:=Lib.hid hp
      have HZi:=Lib.hid zi
      have HZc:=Lib.hid zc
      have HB1:=Lib.hid hb
      have j0:(0:Int) ≤ (j:Int):=by omega
      have j1:(j:Int) < (u:Int):=by omega
      obtain ⟨z,hz⟩:∃ z,E (o + i) j = z:=⟨_,rfl⟩
      have HZ:=Lib.hid hz
      obtain ⟨kk,hkk⟩:∃ kk,K (o + i) = kk:=⟨_,rfl⟩
      rw [hz,hkk] at HF
      obtain ⟨s,hs⟩:∃ s:Int,z.num.sign = s:=⟨_,rfl⟩
      have e2:(s == 0) = decide (z = 0):=by rw [← hs,Bool.eq_iff_iff]; simp
      have HSG:Hid (∀ W,FracIs W (.pointer b) z kk → Calls Tryz.prog 64 #[.pointer b] W fun e w'=>e = .returned (.int .i64 s) ∧ Below W.heap.size W w'):=fun W h=>calls_of_eq (Tryz.Sign (.pointer b) z kk W h) hs
      clear zi zc hb hf hz hkk hs hp
      go_wp2_with fail
      with_reducible refine (HSG.out _ HF.out).mono ?_
      rintro e1 w2 ⟨rfl,hb2⟩
      have HZi2:=Lib.hid (HZi.out.below hb2)
      have HZc2:=Lib.hid (HZc.out.below hb2)
      have HB2:=Lib.hid (HB1.out.trans (hb2.mono HB1.out.size))
      clear hb2 HSG HF HZi HZc HB1 y0
      by_cases hz0:z = 0
      ·have e3:decide (z = 0) = true:=by simpa using hz0
       have HP2:=Lib.hid (HP.out.next (HZ.out.trans hz0))
       clear hz0 HP HZ
       go_wp2
       go_roundw
       case rel=>exact ⟨j + 1,a,x,ok,z0,rfl,rfl,rfl,rfl,by go_num,by omega,HP2.out,HZi2.out,HZc2.out,HB2.out⟩
       case measure=>simp [intOf]; omega
      ·have e3:decide (z = 0) = false:=by simpa using hz0
       have HZ0:Hid (E (o + i) j ≠ 0):=by rw [HZ.out]; exact hz0
       clear hz0 HZ
       go_upto_region 11 with (fail)
       go_cut [13] (fun fv wx=>∃ f,fv = .int .i64 f ∧ Zs wx gi n ∧ Zs wx gc u ∧ Below w.heap.size w wx)
       case first=>
        obtain ⟨z1,a0,-,a2⟩:=HZi2.out.cell hlt
        obtain ⟨z2,b0,-,b2⟩:=HZc2.out.cell hjl
        refine wp_region_held_drew (S:=fun w'=>w'.cell? ⟨gi,i,none⟩ = some (.int .i64 z1) ∧ w'.cell? ⟨gc,j,none⟩ = some (.int .i64 z2)) (by kernel_rfl) ⟨a0,b0⟩ (fun hHeld=>?_)
        replace HZi2:=Lib.hid (HZi2.out.below (Below.refl _ _).drew)
        replace HZc2:=Lib.hid (HZc2.out.below (Below.refl _ _).drew)
        replace HB2:=Lib.hid HB2.out.drew
        clear hHeld
        replace a0:w2.drew.cell? ⟨gi,i,none⟩ = some (.int .i64 z1):=a0
        replace b0:w2.drew.cell? ⟨gc,j,none⟩ = some (.int .i64 z2):=b0
        generalize w2.drew = w2d at *
        have hHeld:(fun w':World=>w'.cell? ⟨gi,i,none⟩ = some (.int .i64 z1) ∧ w'.cell? ⟨gc,j,none⟩ = some (.int .i64 z2)) w2d:=⟨a0,b0⟩
        refine takeY 0 (h:=?_)
        refine takeY 1 (h:=?_)
        refine takeY 2 (h:=?_)
        (try simp only [Act.put,List.setIfInBounds_toArray,List.set_cons_zero,List.set_cons_succ])
        refine takeY 3 (h:=?_)
        refine takeY 4 (h:=?_)
        refine takeY 5 (h:=?_)
        (try simp only [Act.put,List.setIfInBounds_toArray,List.set_cons_zero,List.set_cons_succ])
        refine takeY 6 (h:=?_)
        refine takeY 7 (h:=?_)
        refine takeY 8 (h:=?_)
        (try simp only [Act.put,List.setIfInBounds_toArray,List.set_cons_zero,List.set_cons_succ])
        refine takeY 9 (h:=?_)
        refine takeY 10 (h:=?_)
        refine takeY 11 (h:=?_)
        (try simp only [Act.put,List.setIfInBounds_toArray,List.set_cons_zero,List.set_cons_succ])
        refine wpAnyH_done (by kernel_rfl) ?_ _
        go_wp2_with fail
        go_meet
        exact ⟨_,rfl,HZi2.out,HZc2.out,HB2.out⟩
       case rest=>
        obtain ⟨f,rfl,zi,zc,hb⟩:=hcut
        have HZi3:=Lib.hid zi
        have HZc3:=Lib.hid zc
        have HB3:=Lib.hid hb
        clear zi zc hb HZi2 HZc2 HB2
        cases ok
        ·have HP2:Hid (Pk E o n u i (j + 1) true i j):=Pk.took hlt hjl HZ0.out
         clear HP
         go_wp2
         go_roundw
         case rel=>exact ⟨j + 1,i,j,true,f,rfl,rfl,rfl,rfl,by go_num,by omega,HP2.out,HZi3.out,HZc3.out,HB3.out⟩
         case measure=>simp [intOf]; omega
        ·have HP2:Hid (Pk E o n u i (j + 1) true i j):=Pk.took hlt hjl HZ0.out
         have HP3:Hid (Pk E o n u i (j + 1) true a x):=HP.out.stays
         clear HP
         by_cases hf:f < z0
         ·have e4:decide (f < z0) = true:=by simpa using hf
          go_wp2
          go_roundw
          case rel=>exact ⟨j + 1,i,j,true,f,rfl,rfl,rfl,rfl,by go_num,by omega,HP2.out,HZi3.out,HZc3.out,HB3.out⟩
          case measure=>simp [intOf]; omega
         ·have e4:decide (f < z0) = false:=by simpa using hf
          go_wp2
          go_roundw
          case rel=>exact ⟨j + 1,a,x,true,z0,rfl,rfl,rfl,rfl,by go_num,by omega,HP3.out,HZi3.out,HZc3.out,HB3.out⟩
          case measure=>simp [intOf]; omega
     ·have e3:decide ((j:Int) < (u:Int)) = false:=by simp; omega
      have e3':decide (j < u) = false:=by simpa using hjl
      obtain rfl:j = u:=by omega
      have HP2:=Lib.hid hp.line
      have HZi2:=Lib.hid zi
      have HZc2:=Lib.hid zc
      have HB2:=Lib.hid hb
      clear zi zc hb hp
      go_wp2
      go_roundw
      case rel=>exact ⟨i + 1,a,x,ok,z0,rfl,rfl,rfl,rfl,by go_num,by omega,HP2.out,HZi2.out,HZc2.out,HB2.out⟩
      case measure=>simp [intOf]; omega
   ·have e3:decide ((i:Int) < (n:Int)) = false:=by simp; omega
    have e3':decide (i < n) = false:=by simpa using hlt
    obtain rfl:i = n:=by omega
    have HP2:=Lib.hid hp
    have HB2:=Lib.hid hb
    clear zi zc hb hp
    go_wp2
    exact bodyPost_ret (v:=.tuple #[.int .i64 a,.int .i64 x,.bool ok]) (by simp [results,Tryz.results128,go_sem]; try rfl) rfl ⟨⟨a,x,ok,rfl,HP2.out⟩,HB2.out⟩
end Go.Proofs.Mt
namespace Go.Proofs.Mt
open Go.RowKit Go.Proofs.Wd Go.Proofs.Fr Go.Proofs.Vt Go.Proofs.Mm
theorem cells_ne {w:World} {a b:Nat} {x y:Array Value} {s t:TypeId} (h:CellsAt w a x s) (h':CellsAt w b y t) (hst:s ≠ t):a ≠ b:=fun e=>by
 rw [e] at h
 have h9:some (Obj.cells x s (0,0)) = some (Obj.cells y t (0,0)):=h.symm.trans h'
 simp only [Option.some.injEq,Obj.cells.injEq] at h9
 exact hst h9.2.1
theorem own_cells {w:World} {B s n b:Nat} {t:TypeId} {v:Value} {us:List Value} (h:w.ownsRow B t s v n us) (hb:v.ownBlock = some b):∃ cur,CellsAt w b cur t:=by
 obtain ⟨-,⟨rfl,-⟩ | ⟨b2,cap2,cur2,rfl,hbb2,hh2,-⟩⟩:=h
 ·simp [Value.ownBlock] at hb
 ·obtain rfl:b2 = b:=by simpa [Value.ownBlock] using hb
  exact ⟨cur2,hh2⟩
/-- A block of lines or of a line is written over. -/
theorem Eqs.other {B:Nat} {w w':World} {e L cap R u N t b:Nat} {E E':F} {told K G c K' G' c':Nat → Nat} {cur:Array Value} {ty:TypeId} (h:Eqs B w e L cap R u N t E told K G c) (hg:w.grownBy w' (some b)) (hc:CellsAt w b cur ty) (h1:ty ≠ 126) (h2:ty ≠ 3)
 (hl:LnsAt w' L cap R N E' K' G' c') (hG:∀ i,i < R → B ≤ G' i):Eqs B w' e L cap R u N t E' told K' G' c':=by
 obtain ⟨tv,us,s1,s2,s3,s4⟩:=h.st
 refine ⟨hl,⟨tv,us,cells_far s1 hg (cells_ne s1 hc (fun x=>h1 x.symm)),World.ownsRow.kept s2 hg ?_,s3,s4⟩,h.be,h.bL,hG⟩
 cases hob:tv.ownBlock with
 | none=>exact .inl rfl
 | some d =>
   refine .inr fun x=>?_
   obtain rfl:d = b:=Option.some.inj x
   obtain ⟨cu,hcu⟩:=own_cells s2 hob
   exact cells_ne hcu hc (fun x=>h2 x.symm) rfl
theorem Eqs.congr {B:Nat} {w:World} {e L cap R u N t:Nat} {E E':F} {told K K' G c:Nat → Nat} (h:Eqs B w e L cap R u N t E told K G c) (he:∀ i,i < R → ∀ j,j < N → E' i j = E i j) (hk:∀ i,i < R → K i ≤ K' i):Eqs B w e L cap R u N t E' told K' G c:=
 ⟨h.lns.congr he hk,h.st,h.be,h.bL,h.bG⟩
theorem Eqs.swap {B:Nat} {w:World} {e L cap R u N t s a:Nat} {E:F} {told K G c:Nat → Nat} (h:Eqs B w e L cap R u N t E told K G c) (hs:s < R) (ha:a < R) :
 Eqs B ((w.setCell ⟨L,s,none⟩ (.slice (some ⟨G a,0,none⟩) N (c a))).setCell ⟨L,a,none⟩ (.slice (some ⟨G s,0,none⟩) N (c s))) e L cap R u N t (swapRow E s a) told (swapN K s a) (swapN G s a) (swapN c s a):=by
 obtain ⟨cur,h1,-⟩:=h.lns.cells
 refine h.other (grown_trans (grown_setCell _ _ _ _) (grown_setCell _ _ _ _)) h1 (by decide) (by decide) (h.lns.swap hs ha) fun i hi=>?_
 rw [swapN_swap]
 apply h.bG
 split
 ·exact ha
 ·split
  ·exact hs
  ·exact hi
theorem Eqs.put {B:Nat} {w:World} {e L cap R u N t i g cg k:Nat} {E E':F} {told K K' G c:Nat → Nat} {f:Nat → Rat} (h:Eqs B w e L cap R u N t E told K G c) (hi:i < R) (hl:LineO w g N cg f k) (hg:∀ l,l < R → G l ≠ g) (hB:B ≤ g)
 (he:∀ j,j < N → E' i j = f j) (hk:k ≤ K' i) (he':∀ l,l < R → l ≠ i → E' l = E l ∧ K l ≤ K' l) :
 Eqs B (w.setCell ⟨L,i,none⟩ (.slice (some ⟨g,0,none⟩) N cg)) e L cap R u N t E' told K' (fun l=>if l = i then g else G l) (fun l=>if l = i then cg else c l):=by
 obtain ⟨cur,h1,-⟩:=h.lns.cells
 refine h.other (grown_setCell _ _ _ _) h1 (by decide) (by decide) (h.lns.put hi hl (fun l h1 _=>hg l h1) he hk (by simp) (by simp) fun l hl' e=>?_) fun l hl'=>?_
 ·obtain ⟨a,b⟩:=he' l hl' e
  exact ⟨a,b,by simp [e],by simp [e]⟩
 ·show B ≤ if l = i then g else G l
  split
  ·exact hB
  ·exact h.bG l hl'
theorem Eqs.setLine {B:Nat} {w w':World} {e L cap R u N t i k:Nat} {E E':F} {told K K' G c:Nat → Nat} {f:Nat → Rat} (h:Eqs B w e L cap R u N t E told K G c) (hN:0 < N) (hi:i < R) (hg:w.grownBy w' (some (G i))) (hl:LineO w' (G i) N (c i) f k)
 (he:∀ j,j < N → E' i j = f j) (hk:k ≤ K' i) (he':∀ l,l < R → l ≠ i → E' l = E l ∧ K l ≤ K' l):Eqs B w' e L cap R u N t E' told K' G c:=by
 obtain ⟨cur,h1,-⟩:=(h.lns.line i hi).cells
 exact h.other hg h1 (by decide) (by decide) (h.lns.setLine hN hi hg hl he hk he') h.bG
theorem Eqs.world {B:Nat} {w:World} {e L cap R u N t:Nat} {E:F} {told K G c:Nat → Nat} (h:Eqs B w e L cap R u N t E told K G c):∃ W,W = w:=⟨w,rfl⟩
theorem Tryz.pushTold {B:Nat} {w:World} {e L cap R u N t:Nat} {E:F} {told K G c:Nat → Nat} (ty:TypeId) (h:Eqs B w e L cap R u N t E told K G c) (x:Nat) (ht:t ≤ 1000) (hR:0 < R) (hB:B ≤ w.heap.size) :
 ∃ tv vp vn vc w', w.cell? ⟨e, 2, none⟩ = some tv ∧ e < w.heap.size ∧ (Builtin.append_ #[22, 22] ty #[tv, .slice (some ⟨w.heap.size, 0, none⟩) 1 1]).run Tryz.prog (w.alloc (.cells #[.int .i64 x] 3)) = .ok (.slice vp vn vc) w' ∧
   (∃ y,w'.cell? ⟨e,2,none⟩ = some y) ∧ w'.frozen? ⟨e,2,none⟩ = false ∧ Eqs B (w'.setCell ⟨e,2,none⟩ (.slice vp vn vc)) e L cap R u N (t + 1) E (toldF told t x) K G c ∧ Below B w (w'.setCell ⟨e,2,none⟩ (.slice vp vn vc)):=by
 obtain ⟨i0,hi0,hz0,hz1,hz2⟩:=info_parts Tryz.infoInt
 have hal:Below w.heap.size w (w.alloc (.cells #[.int .i64 x] 3)):=(Below.refl _ _).alloc (Nat.le_refl _) _
 have hnew:=(CellsAt.new w #[.int .i64 x] 3 rfl).cell 0
 obtain ⟨tv0,us0,s0,-⟩:=h.st
 have h0:=s0.cell 2
 have hlt:=s0.lt
 have hE:=h.below hal
 obtain ⟨tv,us,s1,s2,s3,s4⟩:=hE.st
 obtain rfl:tv0 = tv:=by
  have a1:=(s0.below hal).cell 2
  have a2:=s1.cell 2
  rw [a1] at a2
  simpa using a2
 have hul:us.length = t:=by have:=s2.1; omega
 have hbl:Below B w (w.alloc (.cells #[.int .i64 x] 3)):=hal.mono hB
 obtain ⟨W1,hW1⟩:∃ W1,w.alloc (.cells #[.int .i64 x] 3) = W1:=⟨_,rfl⟩
 rw [hW1] at hal hnew hE s1 s2 hbl ⊢
 obtain ⟨v',w',hr,g1,g2,-⟩:=run_append_own (P:=Tryz.prog) W1 B 22 ty 3 i0 _ 1 8 Tryz.underlying22 hi0 hz0 hz1 hz2 rfl (by decide) tv0 t us s2 ⟨w.heap.size,0,none⟩ 1 1 [.int .i64 x] rfl (by
  intro j u hj
  match j,hj with
  | 0, hj =>
    rw [show (⟨w.heap.size,0,none⟩:Addr).add 0 = ⟨w.heap.size,0,none⟩ from rfl,hnew]
    simpa using hj) (by
  intro u hu
  rw [List.mem_singleton.1 hu]; rfl) (by unfold maxLen; omega) (by omega) (Nat.le_trans hB hal.size)
 obtain ⟨vp,vn,vc,rfl⟩:∃ p n c,v' = .slice p n c:=by
  obtain ⟨-,⟨rfl,-⟩ | ⟨b2,cap2,cur2,rfl,-⟩⟩:=g1
  ·exact ⟨_,_,_,rfl⟩
  ·exact ⟨_,_,_,rfl⟩
 obtain ⟨v',hv'⟩:∃ v',Value.slice vp vn vc = v':=⟨_,rfl⟩
 rw [hv'] at hr g1
 obtain ⟨curL,hL1,-⟩:=hE.lns.cells
 have hrow:∀ b,tv0.ownBlock = some b → Odd W1 b ∧ B ≤ b ∧ ∃ cur,CellsAt W1 b cur 3:=by
  intro b hob
  have hlo:=(World.ownsRow.lt s2 b hob).1
  obtain ⟨cur,hcur⟩:=own_cells s2 hob
  refine ⟨⟨cur,_,hcur,by decide,fun y hy=>?_⟩,hlo,cur,hcur⟩
  have ht0:0 < t:=by
   refine Nat.pos_of_ne_zero fun e=>?_
   rw [s3 e] at hob
   simp [Value.ownBlock] at hob
  obtain ⟨-,r | ⟨b',cap',cur',rfl,hbb,hh,hn,hm,hs,ht'⟩⟩:=s2
  ·rw [r.1] at hob; simp [Value.ownBlock] at hob
  ·obtain rfl:b' = b:=by simpa [Value.ownBlock] using hob
   have h9:some (Obj.cells cur' 3 (0,0)) = some (Obj.cells cur 3 (0,0)):=hh.symm.trans hcur
   obtain rfl:cur' = cur:=by simpa using h9
   have h4:=s4 0 ht0
   rw [← ht',List.getElem?_take_of_lt (by omega),Array.getElem?_toList,hy] at h4
   rw [Option.some.inj h4]
   exact .inl ⟨_,rfl⟩
 have hpe:Odd W1 e:=by
  refine ⟨_,_,s1,by decide,fun y hy=>?_⟩
  obtain rfl:Value.slice (some ⟨L,0,none⟩) R cap = y:=by simpa using hy
  exact .inr (.inr (.inl ⟨_,_,_,_,curL,_,rfl,hL1,by decide⟩))
 have hK:Keeps W1 (w'.setCell ⟨e,2,none⟩ v') (fun y=>y = e ∨ tv0.ownBlock = some y):=⟨by have:=g2.size; simpa [World.setCell] using this,fun y hy hne=>by
  rw [Below.heap_setCell _ _ _ _ (fun q=>hne (.inl q))]
  exact g2.block y hy (fun q=>hne (.inr q.symm))⟩
 have hS:∀ y,(y = e ∨ tv0.ownBlock = some y) → Odd W1 y:=fun y hy=>by
  rcases hy with rfl | hy
  ·exact hpe
  ·exact (hrow y hy).1
 have hoe:tv0.ownBlock ≠ some e:=fun q=>by
  obtain ⟨-,-,cur,hcc⟩:=hrow e q
  exact cells_ne hcc s1 (by decide) rfl
 have k1:CellsAt w' e #[.slice (some ⟨L,0,none⟩) R cap,.int .i64 u,tv0] 126:=(g2.block e s1.lt hoe.symm).trans s1
 have kb:Below B w w':=hbl.grown g2 (Nat.le_trans hB hal.size) (fun y hy=>(hrow y hy).2.1)
 refine ⟨tv0,vp,vn,vc,w',h0,hlt,?_⟩
 rw [hv']
 refine ⟨hr,⟨_,k1.cell 2⟩,k1.free 2,⟨?_,⟨v',us ++ [.int .i64 x],by simpa using k1.set 2 v',?_,fun q=>by omega,fun j hj=>?_⟩,h.be,h.bL,h.bG⟩,kb.setCell (p:=⟨e,2,none⟩) h.be v'⟩
 ·refine hE.lns.keeps hK hS ?_ fun i hi=>?_
  ·rintro (q | q)
   ·exact cells_ne hL1 s1 (by decide) q
   ·obtain ⟨-,-,cur,hcc⟩:=hrow L q
    exact cells_ne hL1 hcc (by decide) rfl
  ·obtain ⟨cg,hcg,-⟩:=(hE.lns.line i hi).cells
   rintro (q | q)
   ·exact cells_ne hcg s1 (by decide) q
   ·obtain ⟨-,-,cur,hcc⟩:=hrow _ q
    exact cells_ne hcg hcc (by decide) rfl
 ·refine World.ownsRow.kept g1 (grown_setCell w' e 2 v') ?_
  cases hob:v'.ownBlock with
  | none=>exact .inl rfl
  | some b =>
    refine .inr fun q=>?_
    obtain rfl:b = e:=Option.some.inj q
    obtain ⟨cu,hcu⟩:=own_cells g1 hob
    exact cells_ne hcu k1 (by decide) rfl
 ·rw [get_app hul hj]
  unfold toldF
  split
  ·rw [if_neg (by omega)]; exact s4 j (by assumption)
  ·rw [if_pos (by omega)]
end Go.Proofs.Mt
