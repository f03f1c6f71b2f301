/- FracOwn: what is told of a fraction is no way into it: the call returns true. -/
import Derived.Test.YtoiihhkafcglhaaGreatDoorFb
import Derived.Test.YtoiihhkafcglhaaGreatDoorFt
import Derived.Test.YtoiihhkafcglhaaGreatDoorDt
import Derived.Test.YtoiihhkafcglhaaGreatDoorGm
import Derived.Test.YtoiihhkafcglhaaGreatDoorWe
import Derived.Test.YtoiihhkafcglhaaGreatDoorCa
namespace Go.Proofs.Fr
open Go.RowKit Go.Proofs.Wd
set_option linter.unusedVariables false
theorem Tryz.getAny (s : ByteArray) (w : World) (hs : s.size ≤ 9223372036854775807) :
    Calls Tryz.prog 23 #[.string s] w fun e w' => (∃ v b z, e = .returned (.tuple #[v, .bool b]) ∧ Num w' v ((z : Nat) : Int) 120) ∧ Below w.heap.size w w' := by
  refine (Tryz.GetX s w hs).mono ?_
  rintro e w' ⟨⟨-, v, rfl, hv⟩ | ⟨-, rfl⟩, hb⟩
  · exact ⟨⟨v, true, _, rfl, hv⟩, hb⟩
  · exact ⟨⟨_, false, 0, rfl, num_none w' 120⟩, hb⟩
theorem Tryz.refAny (s : ByteArray) (w : World) (hs : s.size ≤ 9223372036854775807) :
    Calls Tryz.prog 54 #[.string s] w fun e w' => (∃ p k c b, k ≤ 9223372036854775807 ∧ e = .returned (.tuple #[.slice p k c, .bool b])) ∧ Below w.heap.size w w' := by
  refine (Go.Proofs.Tryz.getNX s w hs).mono ?_
  rintro e w' ⟨⟨-, v, rfl, xs, hx, -⟩ | ⟨-, rfl⟩, hb⟩
  · obtain ⟨p, c, rfl, hl, -⟩ := hx.slice
    exact ⟨⟨p, _, c, true, hl, rfl⟩, hb⟩
  · exact ⟨⟨none, 0, 0, false, by omega, rfl⟩, hb⟩
theorem pushed (h : Array Obj) (o : Obj) (f : Obj → Obj) : (h.push o).modify h.size f = h.push (f o) := by
  apply Array.ext_getElem?
  intro i
  rw [Array.getElem?_modify, Array.getElem?_push, Array.getElem?_push]
  by_cases e : h.size = i
  · subst e; simp
  · rw [if_neg e, if_neg (fun g => e g.symm), if_neg (fun g => e g.symm)]
theorem three (w : World) (a b c x y z : Value) (t : TypeId) : (((w.alloc (.cells #[a, b, c] t)).setCell ⟨w.heap.size, 0, none⟩ x).setCell ⟨w.heap.size, 1, none⟩ y).setCell ⟨w.heap.size, 2, none⟩ z = w.alloc (.cells #[x, y, z] t) := by
  simp only [World.setCell, World.alloc, pushed]
  rfl
theorem otherCell (w : World) {a B : Nat} (h : a ≠ B) (i j : Nat) (u : Value) : (w.setCell ⟨B, j, none⟩ u).cell? ⟨a, i, none⟩ = w.cell? ⟨a, i, none⟩ := World.cell?_of_block (Below.heap_setCell w _ u a h)
/-- A number stays while a struct is written that begins with a bool. -/
theorem num_put {w : World} {v : Value} {z : Int} {n B : Nat} {c : Array Value} {t : TypeId} {b : Bool} (h : Num w v z n) (hc : CellsAt w B c t) (h0 : c[0]? = some (.bool b)) (ht : t ≠ 49) (j : Nat) (u : Value) : Num (w.setCell ⟨B, j, none⟩ u) v z n := by
  obtain ⟨xs, h1, h2⟩ := h
  refine ⟨xs, ?_, h2⟩
  rcases h1 with h1 | ⟨a, s, g1, g2, g3, g4⟩
  · exact .inl h1
  · obtain ⟨p, cap, rfl, -, -⟩ := g4.slice
    have hne : a ≠ B := by
      rintro rfl
      rw [hc.cell 0, h0] at g3
      simp at g3
    exact .inr ⟨a, _, g1, by simpa using g2, by rw [otherCell w hne]; exact g3, hc.keeps g4 ht j u⟩
/-- A fraction stays while a struct is written that begins with a bool and a slice. -/
theorem frac_put {w : World} {v : Value} {q : Rat} {k B : Nat} {c : Array Value} {t : TypeId} {b : Bool} {p : Option Addr} {m m2 : Nat} (h : FracIs w v q k) (hc : CellsAt w B c t) (h0 : c[0]? = some (.bool b)) (h1 : c[1]? = some (.slice p m m2)) (ht : t ≠ 49) (j : Nat) (u : Value) : FracIs (w.setCell ⟨B, j, none⟩ u) v q k := by
  rcases h with h | ⟨a, rfl, g0, g1, h⟩
  · exact .inl h
  · have hne : ∀ x, w.cell? ⟨a, 1, none⟩ = some (.int .u64 x) → a ≠ B := by
      rintro x hx rfl
      rw [hc.cell 1, h1] at hx
      simp at hx
    rcases h with ⟨e0, e1, e2, e3⟩ | ⟨e0, e1, e2, b', x, y, e3, e4, e5, e6, e7, e8⟩
    · have hn := hne _ e1
      exact .inr ⟨a, rfl, by simpa using g0, by rw [otherCell w hn]; exact g1, .inl ⟨e0, by rw [otherCell w hn]; exact e1, by rw [otherCell w hn]; exact e2, by rw [otherCell w hn]; exact e3⟩⟩
    · have hn := hne _ e1
      have hb : b' ≠ B := by
        rintro rfl
        obtain ⟨l, rfl⟩ := num_pointer e7
        rw [hc.cell 0, h0] at e5
        simp at e5
      exact .inr ⟨a, rfl, by simpa using g0, by rw [otherCell w hn]; exact g1, .inr ⟨e0, by rw [otherCell w hn]; exact e1, by rw [otherCell w hn]; exact e2, b', x, y, by rw [otherCell w hn]; exact e3, by simpa using e4, by rw [otherCell w hb]; exact e5, by rw [otherCell w hb]; exact e6, num_put e7 hc h0 ht j u, num_put e8 hc h0 ht j u⟩⟩
theorem frac_put3 {w : World} {v : Value} {q : Rat} {k B : Nat} {t : TypeId} {b b' : Bool} {p p' : Option Addr} {m m2 n n2 : Nat} {x y : Value} (h : FracIs w v q k) (hc : CellsAt w B #[.bool b, .slice p m m2, x] t) (ht : t ≠ 49) :
    FracIs (((w.setCell ⟨B, 0, none⟩ (.bool b')).setCell ⟨B, 1, none⟩ (.slice p' n n2)).setCell ⟨B, 2, none⟩ y) v q k :=
  frac_put (b := b') (p := p') (m := n) (m2 := n2) (frac_put (b := b') (p := p) (m := m) (m2 := m2) (frac_put (b := b) (p := p) (m := m) (m2 := m2) h hc rfl rfl ht 0 _) (hc.set 0 _) rfl rfl ht 1 _) ((hc.set 0 _).set 1 _) rfl rfl ht 2 _
set_option maxHeartbeats 4000000 in
set_option maxRecDepth 100000 in
theorem Tryz.refFrac (neg : Bool) (p p2 : Option Addr) (k cap k2 cap2 : Nat) (w : World) (hk : k ≤ 9223372036854775807) :
    Calls Tryz.prog 47 #[.bool neg, .slice p k cap, .slice p2 k2 cap2] w fun e w' => (∃ b, e = .returned (.agg #[.bool b, .slice p k cap, .slice p2 k2 cap2])) ∧ Below w.heap.size w w' := by
  have hbd : ∀ (b : Bool) (w : World), (Instr.build 27 #[(0, .bool b), (1, .slice p k cap), (2, .slice p2 k2 cap2)]).run Tryz.prog w = .ok (.agg #[.bool b, .slice p k cap, .slice p2 k2 cap2]) w := fun b w => run_build w 27 _ _ (by kernel_rfl)
  cases neg
  all_goals
    go_enter Tryz.func47, Tryz.ntmps47
    go_wp2
    refine bodyPost_ret (by simp [results, Tryz.results47, go_sem]; try rfl) rfl ⟨⟨_, rfl⟩, (Below.refl _ _).alloc (Nat.le_refl _) _⟩
/-- What R tells: some fraction, and something else. -/
def RIs (w : World) (e : Ending) : Prop := ∃ v q b p k c p2 k2 c2, e = .returned (.tuple #[v, .agg #[.bool b, .slice p k c, .slice p2 k2 c2]]) ∧ FracIs w v q 121
set_option maxHeartbeats 4000000 in
set_option maxRecDepth 100000 in
theorem Tryz.RX (s t : ByteArray) (neg : Bool) (w : World) (hs : s.size ≤ 9223372036854775807) (ht : t.size ≤ 9223372036854775807) :
    Calls Tryz.prog 14 #[.string s, .string t, .bool neg] w fun e w' => RIs w' e ∧ Below w.heap.size w w' := by
  go_enter Tryz.func14, Tryz.ntmps14
  go_wp2_with fail
  with_reducible refine (Tryz.Digits s 25 _ hs (by omega) (by omega)).mono ?_
  rintro e w1 ⟨⟨s1, rfl, -, hs1⟩, rfl⟩
  go_wp2_with fail
  with_reducible refine (Tryz.Digits t 25 _ ht (by omega) (by omega)).mono ?_
  rintro e w2 ⟨⟨t1, rfl, -, ht1⟩, rfl⟩
  have HL1 : Hid (Lies w (w.alloc (.cells #[.bool false, .slice none 0 0, .slice none 0 0] 27)) [] []) := (Lies.start w).after ((Below.refl _ _).alloc (Nat.le_refl _) _)
  have HR1 : Hid (CellsAt (w.alloc (.cells #[.bool false, .slice none 0 0, .slice none 0 0] 27)) w.heap.size #[.bool false, .slice none 0 0, .slice none 0 0] 27) := CellsAt.new _ _ _ rfl
  obtain ⟨c, hc⟩ : ∃ c : Bool, (t1.toList == [48]) = c := ⟨_, rfl⟩
  cases c
  · skip
    go_wp2_with fail
    generalize hw2 : w.alloc (.cells #[.bool false, .slice none 0 0, .slice none 0 0] 27) = w2 at *
    have HL2 := HL1
    have HR2 := HR1
    clear HL1 HR1 hw2
    with_reducible refine (Tryz.getAny s1 _ (by omega)).mono ?_
    rintro e w3 ⟨⟨n, b1, N, rfl, hn⟩, hb3⟩
    have HL3 : Hid (Lies w w3 [(n, (N : Int), 120)] []) := (HL2.out.after hb3).addN hn
    have HR3 : Hid (CellsAt w3 w.heap.size #[.bool false, .slice none 0 0, .slice none 0 0] 27) := HR2.out.below hb3
    clear hb3 hn HR2 HL2 
    go_wp2_with fail
    with_reducible refine (Tryz.getAny t1 _ (by first | omega | decide)).mono ?_
    rintro e w4 ⟨⟨d, b2, D, rfl, hd⟩, hb4⟩
    have HL4 : Hid (Lies w w4 [(d, (D : Int), 120), (n, (N : Int), 120)] []) := (HL3.out.after hb4).addN hd
    have HR4 : Hid (CellsAt w4 w.heap.size #[.bool false, .slice none 0 0, .slice none 0 0] 27) := HR3.out.below hb4
    clear hb4 hd HR3 HL3 
    go_wp2_with fail
    with_reducible refine (Tryz.refAny s1 _ (by omega)).mono ?_
    rintro e w5 ⟨⟨p1, k1, c1, b3, hk1, rfl⟩, hb5⟩
    have HL5 : Hid (Lies w w5 [(d, (D : Int), 120), (n, (N : Int), 120)] []) := HL4.out.after hb5
    have HR5 : Hid (CellsAt w5 w.heap.size #[.bool false, .slice none 0 0, .slice none 0 0] 27) := HR4.out.below hb5
    clear hb5 HR4 HL4 
    go_wp2_with fail
    with_reducible refine (Tryz.refAny t1 _ (by first | omega | decide)).mono ?_
    rintro e w6 ⟨⟨p2, k2, c2, b4, hk2, rfl⟩, hb6⟩
    have HL6 : Hid (Lies w w6 [(d, (D : Int), 120), (n, (N : Int), 120)] []) := HL5.out.after hb6
    have HR6 : Hid (CellsAt w6 w.heap.size #[.bool false, .slice none 0 0, .slice none 0 0] 27) := HR5.out.below hb6
    clear hb6 HR5 HL5 
    go_wp2_with fail
    with_reducible refine (Tryz.frNew neg n d N D 120 _ (HL6.out.num (v := n) (z := (N : Int)) (n := 120) (List.Mem.tail _ (List.Mem.head _))) (HL6.out.num (v := d) (z := (D : Int)) (n := 120) (List.Mem.head _)) (by omega)).mono ?_
    rintro e w7 ⟨hnw, hb7⟩
    have HL7 : Hid (Lies w w7 [(d, (D : Int), 120), (n, (N : Int), 120)] []) := HL6.out.after hb7
    have HR7 := Lib.hid (HR6.out.below hb7)
    clear hb7 HR6 HL6
    obtain ⟨v, q, b, rfl, hv⟩ : ∃ v q b, e = .returned (.tuple #[v, .bool b]) ∧ FracIs w7 v q 121 := by
      rcases hnw with ⟨-, v, rfl, hv⟩ | ⟨-, rfl⟩
      · exact ⟨v, _, true, rfl, hv⟩
      · exact ⟨_, 0, false, rfl, .inl ⟨rfl, rfl⟩⟩
    have HLi : Hid (Lies w w7 [(d, (D : Int), 120), (n, (N : Int), 120)] [(v, q, 121)]) := HL7.out.addF hv
    clear hv hnw HL7
    go_wp2_with fail
    with_reducible refine (Tryz.refFrac neg p1 p2 k1 c1 k2 c2 _ hk1).mono ?_
    rintro e w8 ⟨⟨b5, rfl⟩, hb8⟩
    have HL8 : Hid (Lies w w8 [(d, (D : Int), 120), (n, (N : Int), 120)] [(v, q, 121)]) := HLi.out.after hb8
    have HR8 : Hid (CellsAt w8 w.heap.size #[.bool false, .slice none 0 0, .slice none 0 0] 27) := HR7.out.below hb8
    clear hb8 HR7 HLi 
    have r0 : w8.cell? ⟨w.heap.size, 0, none⟩ = some (.bool false) := HR8.out.cell 0
    have f0 := HR8.out.free 0
    have r1 : w8.cell? ⟨w.heap.size, 1, none⟩ = some (.slice none 0 0) := HR8.out.cell 1
    have f1 := HR8.out.free 1
    have r2 : w8.cell? ⟨w.heap.size, 2, none⟩ = some (.slice none 0 0) := HR8.out.cell 2
    have f2 := HR8.out.free 2
    have HV9 : Hid (FracIs (((w8.setCell ⟨w.heap.size, 0, none⟩ (.bool b5)).setCell ⟨w.heap.size, 1, none⟩ (.slice p1 k1 c1)).setCell ⟨w.heap.size, 2, none⟩ (.slice p2 k2 c2)) v q 121) := frac_put3 (HL8.out.frac (v := v) (q := q) (k := 121) (List.Mem.head _)) HR8.out (by decide)
    have HB9 : Hid (Below w.heap.size w (((w8.setCell ⟨w.heap.size, 0, none⟩ (.bool b5)).setCell ⟨w.heap.size, 1, none⟩ (.slice p1 k1 c1)).setCell ⟨w.heap.size, 2, none⟩ (.slice p2 k2 c2))) := ((HL8.out.below.setCell (by simp) _).setCell (by simp) _).setCell (by simp) _
    have HR9 : Hid (CellsAt (((w8.setCell ⟨w.heap.size, 0, none⟩ (.bool b5)).setCell ⟨w.heap.size, 1, none⟩ (.slice p1 k1 c1)).setCell ⟨w.heap.size, 2, none⟩ (.slice p2 k2 c2)) w.heap.size #[.bool b5, .slice p1 k1 c1, .slice p2 k2 c2] 27) := HR8.out.put3
    go_wp2
    clear r0 r1 r2 f0 f1 f2 HL8 HR8
    generalize ((w8.setCell ⟨w.heap.size, 0, none⟩ (.bool b5)).setCell ⟨w.heap.size, 1, none⟩ (.slice p1 k1 c1)).setCell ⟨w.heap.size, 2, none⟩ (.slice p2 k2 c2) = w9 at *
    have r0 := HR9.out.cell 0
    have r1 := HR9.out.cell 1
    have r2 := HR9.out.cell 2
    refine bodyPost_ret (by simp [results, Tryz.results14, go_sem, r0, r1, r2]; try rfl) rfl ⟨⟨v, q, b5, p1, k1, c1, p2, k2, c2, rfl, HV9.out⟩, HB9.out⟩
  · skip
    go_wp2_with fail
    generalize hw2 : w.alloc (.cells #[.bool false, .slice none 0 0, .slice none 0 0] 27) = w2 at *
    have HL2 := HL1
    have HR2 := HR1
    clear HL1 HR1 hw2
    with_reducible refine (Tryz.getAny s1 _ (by omega)).mono ?_
    rintro e w3 ⟨⟨n, b1, N, rfl, hn⟩, hb3⟩
    have HL3 : Hid (Lies w w3 [(n, (N : Int), 120)] []) := (HL2.out.after hb3).addN hn
    have HR3 : Hid (CellsAt w3 w.heap.size #[.bool false, .slice none 0 0, .slice none 0 0] 27) := HR2.out.below hb3
    clear hb3 hn HR2 HL2 
    go_wp2_with fail
    with_reducible refine (Tryz.getAny ⟨#[51]⟩ _ (by first | omega | decide)).mono ?_
    rintro e w4 ⟨⟨d, b2, D, rfl, hd⟩, hb4⟩
    have HL4 : Hid (Lies w w4 [(d, (D : Int), 120), (n, (N : Int), 120)] []) := (HL3.out.after hb4).addN hd
    have HR4 : Hid (CellsAt w4 w.heap.size #[.bool false, .slice none 0 0, .slice none 0 0] 27) := HR3.out.below hb4
    clear hb4 hd HR3 HL3 
    go_wp2_with fail
    with_reducible refine (Tryz.refAny s1 _ (by omega)).mono ?_
    rintro e w5 ⟨⟨p1, k1, c1, b3, hk1, rfl⟩, hb5⟩
    have HL5 : Hid (Lies w w5 [(d, (D : Int), 120), (n, (N : Int), 120)] []) := HL4.out.after hb5
    have HR5 : Hid (CellsAt w5 w.heap.size #[.bool false, .slice none 0 0, .slice none 0 0] 27) := HR4.out.below hb5
    clear hb5 HR4 HL4 
    go_wp2_with fail
    with_reducible refine (Tryz.refAny ⟨#[51]⟩ _ (by first | omega | decide)).mono ?_
    rintro e w6 ⟨⟨p2, k2, c2, b4, hk2, rfl⟩, hb6⟩
    have HL6 : Hid (Lies w w6 [(d, (D : Int), 120), (n, (N : Int), 120)] []) := HL5.out.after hb6
    have HR6 : Hid (CellsAt w6 w.heap.size #[.bool false, .slice none 0 0, .slice none 0 0] 27) := HR5.out.below hb6
    clear hb6 HR5 HL5 
    go_wp2_with fail
    with_reducible refine (Tryz.frNew neg n d N D 120 _ (HL6.out.num (v := n) (z := (N : Int)) (n := 120) (List.Mem.tail _ (List.Mem.head _))) (HL6.out.num (v := d) (z := (D : Int)) (n := 120) (List.Mem.head _)) (by omega)).mono ?_
    rintro e w7 ⟨hnw, hb7⟩
    have HL7 : Hid (Lies w w7 [(d, (D : Int), 120), (n, (N : Int), 120)] []) := HL6.out.after hb7
    have HR7 := Lib.hid (HR6.out.below hb7)
    clear hb7 HR6 HL6
    obtain ⟨v, q, b, rfl, hv⟩ : ∃ v q b, e = .returned (.tuple #[v, .bool b]) ∧ FracIs w7 v q 121 := by
      rcases hnw with ⟨-, v, rfl, hv⟩ | ⟨-, rfl⟩
      · exact ⟨v, _, true, rfl, hv⟩
      · exact ⟨_, 0, false, rfl, .inl ⟨rfl, rfl⟩⟩
    have HLi : Hid (Lies w w7 [(d, (D : Int), 120), (n, (N : Int), 120)] [(v, q, 121)]) := HL7.out.addF hv
    clear hv hnw HL7
    go_wp2_with fail
    with_reducible refine (Tryz.refFrac neg p1 p2 k1 c1 k2 c2 _ hk1).mono ?_
    rintro e w8 ⟨⟨b5, rfl⟩, hb8⟩
    have HL8 : Hid (Lies w w8 [(d, (D : Int), 120), (n, (N : Int), 120)] [(v, q, 121)]) := HLi.out.after hb8
    have HR8 : Hid (CellsAt w8 w.heap.size #[.bool false, .slice none 0 0, .slice none 0 0] 27) := HR7.out.below hb8
    clear hb8 HR7 HLi 
    have r0 : w8.cell? ⟨w.heap.size, 0, none⟩ = some (.bool false) := HR8.out.cell 0
    have f0 := HR8.out.free 0
    have r1 : w8.cell? ⟨w.heap.size, 1, none⟩ = some (.slice none 0 0) := HR8.out.cell 1
    have f1 := HR8.out.free 1
    have r2 : w8.cell? ⟨w.heap.size, 2, none⟩ = some (.slice none 0 0) := HR8.out.cell 2
    have f2 := HR8.out.free 2
    have HV9 : Hid (FracIs (((w8.setCell ⟨w.heap.size, 0, none⟩ (.bool b5)).setCell ⟨w.heap.size, 1, none⟩ (.slice p1 k1 c1)).setCell ⟨w.heap.size, 2, none⟩ (.slice p2 k2 c2)) v q 121) := frac_put3 (HL8.out.frac (v := v) (q := q) (k := 121) (List.Mem.head _)) HR8.out (by decide)
    have HB9 : Hid (Below w.heap.size w (((w8.setCell ⟨w.heap.size, 0, none⟩ (.bool b5)).setCell ⟨w.heap.size, 1, none⟩ (.slice p1 k1 c1)).setCell ⟨w.heap.size, 2, none⟩ (.slice p2 k2 c2))) := ((HL8.out.below.setCell (by simp) _).setCell (by simp) _).setCell (by simp) _
    have HR9 : Hid (CellsAt (((w8.setCell ⟨w.heap.size, 0, none⟩ (.bool b5)).setCell ⟨w.heap.size, 1, none⟩ (.slice p1 k1 c1)).setCell ⟨w.heap.size, 2, none⟩ (.slice p2 k2 c2)) w.heap.size #[.bool b5, .slice p1 k1 c1, .slice p2 k2 c2] 27) := HR8.out.put3
    go_wp2
    clear r0 r1 r2 f0 f1 f2 HL8 HR8
    generalize ((w8.setCell ⟨w.heap.size, 0, none⟩ (.bool b5)).setCell ⟨w.heap.size, 1, none⟩ (.slice p1 k1 c1)).setCell ⟨w.heap.size, 2, none⟩ (.slice p2 k2 c2) = w9 at *
    have r0 := HR9.out.cell 0
    have r1 := HR9.out.cell 1
    have r2 := HR9.out.cell 2
    refine bodyPost_ret (by simp [results, Tryz.results14, go_sem, r0, r1, r2]; try rfl) rfl ⟨⟨v, q, b5, p1, k1, c1, p2, k2, c2, rfl, HV9.out⟩, HB9.out⟩
set_option maxHeartbeats 8000000 in
set_option maxRecDepth 100000 in
theorem fracOwnWalk (s t : ByteArray) (neg : Bool) (w : World) (hs : s.size ≤ 9223372036854775807) (ht : t.size ≤ 9223372036854775807) (hT : TabOk w)
    (hB : Calls Tryz.prog 6 #[] w fun e w' => e = .returned (.bool true) ∧ Below w.heap.size w w') :
    Calls Tryz.prog 4 #[.string s, .string t, .bool neg] w fun e w' => e = .returned (.bool true) ∧ Below w.heap.size w w' := by
  have HT : Hid (TabOk w) := hT
  clear hT
  go_enter Tryz.func4, Tryz.ntmps4
  go_wp2_with (go_at_call 6; (with_reducible refine hB.mono ?_); rintro e w1 ⟨rfl, hb1⟩; have HL1 : Hid (Lies w w1 [] []) := (Lies.start w).after hb1; clear hb1 hB)
  go_wp2_with fail
  with_reducible refine (Tryz.RX s t neg _ hs ht).mono ?_
  rintro e w2 ⟨⟨a, q, b, p, k, c, p2, k2, c2, rfl, ha⟩, hb2⟩
  have HL2 : Hid (Lies w w2 [] [(a, q, 121)]) := (HL1.out.after hb2).addF ha
  clear hb2 ha HL1 
  obtain ⟨w3, hw3⟩ : ∃ W, w2.alloc (.cells #[.bool b, .slice p k c, .slice p2 k2 c2] 27) = W := ⟨_, rfl⟩
  have hch : (((w2.alloc (.cells #[.bool false, .slice none 0 0, .slice none 0 0] 27)).setCell ⟨w2.heap.size, 0, none⟩ (.bool b)).setCell ⟨w2.heap.size, 1, none⟩ (.slice p k c)).setCell ⟨w2.heap.size, 2, none⟩ (.slice p2 k2 c2) = w3 := by rw [three, hw3]
  have HL3 : Hid (Lies w w3 [] [(a, q, 121)]) := by rw [← hw3]; exact HL2.out.after ((Below.refl _ _).alloc (Nat.le_refl _) _)
  clear HL2
  go_wp2_with fail
  clear hch hw3
  with_reducible refine (Tryz.fracText a q 121 _ (HL3.out.frac (v := a) (q := q) (k := 121) (List.Mem.head _)) (by omega) (by omega) (HT.out.after HL3.out.below)).mono ?_
  rintro e w4 ⟨rfl, hb4⟩
  have HL4 : Hid (Lies w w4 [] [(a, q, 121)]) := HL3.out.after hb4
  clear hb4  HL3 
  go_wp2_with fail
  with_reducible refine (Tryz.frParts a q 121 _ (HL4.out.frac (v := a) (q := q) (k := 121) (List.Mem.head _)) (by omega) (by omega)).mono ?_
  rintro e w5 ⟨⟨n, d, rfl, hn, hd⟩, hb5⟩
  have HL5 : Hid (Lies w w5 [(d, (q.den : Int), 122), (n, (q.num.natAbs : Int), 122)] [(a, q, 121)]) := ((HL4.out.after hb5).addN hn).addN hd
  clear hb5 hn hd HL4 
  go_wp2_with fail
  with_reducible refine (Tryz.natAdd n d _ _ 122 122 _ (HL5.out.num (v := n) (z := (q.num.natAbs : Int)) (n := 122) (List.Mem.tail _ (List.Mem.head _))) (HL5.out.num (v := d) (z := (q.den : Int)) (n := 122) (List.Mem.head _)) (by omega) (by omega)).mono ?_
  rintro e w6 ⟨⟨r1, rfl, -⟩, hb6⟩
  have HL6 : Hid (Lies w w6 [(d, (q.den : Int), 122), (n, (q.num.natAbs : Int), 122)] [(a, q, 121)]) := HL5.out.after hb6
  clear hb6  HL5 
  go_wp2_with fail
  with_reducible refine (Wd.Tryz.Shl n _ 3 122 _ (HL6.out.num (v := n) (z := (q.num.natAbs : Int)) (n := 122) (List.Mem.tail _ (List.Mem.head _))) (by omega) (by omega) (by omega)).mono ?_
  rintro e w7 ⟨⟨r2, rfl, -⟩, hb7⟩
  have HL7 : Hid (Lies w w7 [(d, (q.den : Int), 122), (n, (q.num.natAbs : Int), 122)] [(a, q, 121)]) := HL6.out.after hb7
  clear hb7  HL6 
  go_wp2_with fail
  with_reducible refine (Tryz.frAdd a a q q 121 _ (HL7.out.frac (v := a) (q := q) (k := 121) (List.Mem.head _)) (HL7.out.frac (v := a) (q := q) (k := 121) (List.Mem.head _)) (by omega) (by omega)).mono ?_
  rintro e w8 ⟨⟨r3, rfl, -⟩, hb8⟩
  have HL8 : Hid (Lies w w8 [(d, (q.den : Int), 122), (n, (q.num.natAbs : Int), 122)] [(a, q, 121)]) := HL7.out.after hb8
  clear hb8  HL7 
  go_wp2_with fail
  with_reducible refine (Tryz.frNeg a q 121 _ (HL8.out.frac (v := a) (q := q) (k := 121) (List.Mem.head _)) (by omega)).mono ?_
  rintro e w9 ⟨⟨r4, rfl, -⟩, hb9⟩
  have HL9 : Hid (Lies w w9 [(d, (q.den : Int), 122), (n, (q.num.natAbs : Int), 122)] [(a, q, 121)]) := HL8.out.after hb9
  clear hb9  HL8 
  go_wp2_with fail
  with_reducible refine (Tryz.frFloor a q 121 _ (HL9.out.frac (v := a) (q := q) (k := 121) (List.Mem.head _)) (by omega) (by omega)).mono ?_
  rintro e w10 ⟨⟨r5, r6, rfl, -⟩, hb10⟩
  have HL10 : Hid (Lies w w10 [(d, (q.den : Int), 122), (n, (q.num.natAbs : Int), 122)] [(a, q, 121)]) := HL9.out.after hb10
  clear hb10  HL9 
  go_wp2_with fail
  with_reducible refine (Tryz.fracText a q 121 _ (HL10.out.frac (v := a) (q := q) (k := 121) (List.Mem.head _)) (by omega) (by omega) (HT.out.after HL10.out.below)).mono ?_
  rintro e w11 ⟨rfl, hb11⟩
  have HL11 : Hid (Lies w w11 [(d, (q.den : Int), 122), (n, (q.num.natAbs : Int), 122)] [(a, q, 121)]) := HL10.out.after hb11
  clear hb11  HL10 
  go_wp2
  go_ret
  exact ⟨rfl, HL11.out.below⟩
end Go.Proofs.Fr
