/- What DeleteFunc at terms returns: the walk. What New of the package vec returns. What Coefs of the package vec returns. What At of the package vec returns: a number by its column, found by halves. VecLaws: products of vectors go with sums; a vector less itself is nothing: the call returns true. What F and Text of the law file return. VecAll: what stands where in vectors, sums, products: the call returns true. What at of the law file returns. -/
import Derived.Test.YtcnjcfoaoaldeaaGreatDoorVy
import Derived.Test.YtcnjcfoaoaldeaaGreatDoorFg
import Derived.Laws.MakeOwn
import Derived.Test.YtcnjcfoaoaldeaaGreatDoorRn
import Derived.Test.YtcnjcfoaoaldeaaGreatDoorVs
import Derived.Test.YtcnjcfoaoaldeaaGreatDoorRk
set_option linter.unusedVariables false
set_option maxHeartbeats 8000000
set_option maxRecDepth 100000
namespace Go.Proofs.Vt
open Go.RowKit Go.Proofs.Wd Go.Proofs.Fr
open Vm (T Rise Full In)
theorem Tryz.termsTo (p : Option Addr) (n cap k : Nat) (hk : k ≤ n) (hn : n ≤ cap) (w : World) : (Instr.slice 85 (.slice p n cap) none (some (.int .i64 k)) none).run Tryz.prog w = .ok (sliced p 0 k cap 2) w := by
 have h := run_slice_h (P := Tryz.prog) (w := w) 85 p n cap (by simp [Program.elem, Tryz.underlying85]) .i64 k (by omega) (by omega)
 rw [h, show Tryz.prog.elem 85 = 87 by simp [Program.elem, Tryz.underlying85], Tryz.sizeOf87]
 rfl
theorem Tryz.termsFrom (p : Option Addr) (n cap k : Nat) (hk : k ≤ n) (hn : n ≤ cap) (hc : cap ≤ 9223372036854775807) (w : World) : (Instr.slice 85 (.slice p n cap) (some (.int .i64 k)) none none).run Tryz.prog w = .ok (sliced p k n cap 2) w := by
 have h := run_slice_l (P := Tryz.prog) (w := w) 85 p n cap (by simp [Program.elem, Tryz.underlying85]) .i64 k (by omega) (by omega)
 rw [h, show Tryz.prog.elem 85 = 87 by simp [Program.elem, Tryz.underlying85], Tryz.sizeOf87]
 rfl
theorem Tryz.deleteT (B : Nat) (v : Value) (ts : T) (k : Nat) (w : World) (h : OwnT B w v ts k) (hB : B ≤ w.heap.size) (hn : ts.length ≤ 1000) :
 Calls Tryz.prog 57 #[v, .func (.func 58) #[] #[]] w fun e w' => (∃ s, e = .returned s ∧ Terms w' s (Vm.keep ts) k) ∧ Below B w w' := by
 obtain ⟨p, cap, rfl, l1, l2⟩ := h.terms.slice
 have H : Hid (OwnT B w _ ts k) := h
 clear h
 unfold maxLen at l2
 go_enter Tryz.func57, Tryz.ntmps57
 go_wp2_with fail
 with_reducible refine (Tryz.indexT _ ts k _ H.out.terms).mono ?_
 rintro e w1 ⟨hsaid, hb1⟩
 rcases hsaid with ⟨rfl, hall⟩ | ⟨i0, t0, rfl, ht0, hz0, hn0⟩
 ·have HR : Hid (Terms w1 (.slice p ts.length cap) (Vm.keep ts) k) := by rw [keep_full hall]; exact H.out.terms.below hb1
  have HB1 : Hid (Below B w w1) := hb1.mono hB
  clear hall hb1 H
  go_wp2
  go_ret
  exact ⟨⟨_, rfl, HR.out⟩, HB1.out⟩
 ·have hi0 : i0 < ts.length := (List.getElem?_eq_some_iff.1 ht0).1
  obtain ⟨g, o, cap', f, he, -, -, -, -, -, hg⟩ := H.out.terms.nth ht0
  simp only [Value.slice.injEq, true_and] at he
  obtain ⟨rfl, rfl⟩ := he
  have ho : o = 0 := by
   obtain ⟨ps, -, h2, -⟩ := H.out
   rcases h2.2 with ⟨e, -⟩ | ⟨g', cap', cur, e, -⟩
   ·simp at e
   ·simp only [Value.slice.injEq, Option.some.injEq, Addr.mk.injEq] at e
    exact e.1.2.1
  subst ho
  have hgB : B ≤ g := H.out.ge g rfl
  obtain ⟨cur, hD⟩ := DelAt.start H.out hb1 ht0 hz0 hn0
  have HD : Hid (DelAt w g ts k (i0 + 1) i0 w1 cur) := hD
  have e0 : ((i0 : Int) == -1) = false := by simp
  clear ht0 hz0 hn0 hD hb1 hg
  go_wp2_with fail
  go_loopw [5, 6] (fun iv jv wr => ∃ (i j : Nat) (cur : Array Value), iv = .int .i64 i ∧ jv = .int .i64 j ∧ j ≤ ts.length ∧ DelAt w g ts k j i wr cur) (fun _ jv _ => ts.length - (intOf jv).toNat)
  case atStart => exact ⟨i0, i0 + 1, cur, rfl, by go_num, by omega, HD.out⟩
  case round =>
   obtain ⟨i, j, cur, rfl, rfl, hj, hD⟩ := hrel
   by_cases hlt : j < ts.length
   ·obtain ⟨t, ht⟩ : ∃ t, ts[j]? = some t := ⟨_, List.getElem?_eq_getElem hlt⟩
    obtain ⟨f, c0, c1, hf⟩ := hD.left j t (Nat.le_refl _) ht
    obtain ⟨fa, rfl⟩ := frac_pointer hf
    rw [← hD.cells.cell] at c0 c1
    have hij := hD.less
    have HT := Lib.hid ht
    have hs1 : Below wr.heap.size wr (wr.alloc (.cells #[.int .i64 t.1, .pointer fa] 87)) := (Below.refl _ _).alloc (Nat.le_refl _) _
    have HD2 : Hid (DelAt w g ts k j i (wr.alloc (.cells #[.int .i64 t.1, .pointer fa] 87)) cur) := hD.below hs1
    have HF2 := Lib.hid (hf.below hs1)
    have HC2 : Hid (CellsAt (wr.alloc (.cells #[.int .i64 t.1, .pointer fa] 87)) wr.heap.size #[.int .i64 t.1, .pointer fa] 87) := CellsAt.new _ _ _ rfl
    clear ht hD hf hs1
    go_wp2_with fail
    generalize wr.alloc (.cells #[.int .i64 t.1, .pointer fa] 87) = w5 at *
    with_reducible refine (Tryz.none_ t.1 (.pointer fa) t.2 k _ HF2.out).mono ?_
    rintro e w6 ⟨rfl, hb6⟩
    have HD6 : Hid (DelAt w g ts k j i w6 cur) := HD2.out.below hb6
    have HF6 := Lib.hid (HF2.out.below hb6)
    have a0 := (HC2.out.below hb6).cell 0
    have a1 := (HC2.out.below hb6).cell 1
    simp only [List.getElem?_toArray, List.getElem?_cons_zero, List.getElem?_cons_succ] at a0 a1
    clear hb6 HD2 HF2 HC2 c0 c1
    by_cases h0 : t.2 = 0
    ·have e1 : decide (t.2 = 0) = true := by simpa using h0
     have HR : Hid (DelAt w g ts k (j + 1) i w6 cur) := HD6.out.skip HT.out h0
     have H0 := Lib.hid h0
     clear h0 HD6 HT HF6
     go_wp2
     go_roundw
     case rel => exact ⟨i, j + 1, cur, rfl, by go_num, by omega, HR.out⟩
     case measure => simp [intOf]; omega
    ·have e1 : decide (t.2 = 0) = false := by simpa using h0
     have HR : Hid (DelAt w g ts k (j + 1) (i + 1) ((w6.setCell ⟨g, i * 2, none⟩ (.int .i64 t.1)).setCell ⟨g, i * 2 + 1, none⟩ (.pointer fa)) _) := HD6.out.put HT.out h0 HF6.out
     have hsz := HD6.out.size
     have hx0 := HD6.out.cells.cell (i * 2)
     have hx1 := HD6.out.cells.cell (i * 2 + 1)
     rw [Array.getElem?_eq_getElem (by omega)] at hx0 hx1
     have hy0 := HD6.out.cells.free (i * 2)
     have hy1 := HD6.out.cells.free (i * 2 + 1)
     have H0 := Lib.hid h0
     clear h0 HD6 HT HF6
     go_wp2
     go_roundw
     case rel => exact ⟨i + 1, j + 1, _, by go_num, by go_num, by omega, by simpa using HR.out⟩
     case measure => simp [intOf]; omega
   ·have e1 : decide (j < ts.length) = false := by simpa using hlt
    obtain rfl : j = ts.length := by omega
    have hij := hD.less
    obtain ⟨w5, cur5, hrun, hc5, hx5, hg5⟩ := Tryz.clearT 0 (o := i * 2) (m := ts.length - i) (cap := cap - i) hD.cells (by have := hD.size; omega) (by omega)
    have hhead : IntHead wr (some g) := by
     obtain ⟨z, hz⟩ := hD.head
     constructor
     ·intro g' hg' u hu
      obtain rfl := Option.some.inj hg'
      rw [hD.cells.cell, hz] at hu
      exact ⟨z, (Option.some.inj hu).symm⟩
     ·intro g' hg'
      obtain rfl := Option.some.inj hg'
      exact ⟨_, _, hD.cells, by decide⟩
    have hcount := hD.count
    rw [List.take_length] at hcount
    have HR : Hid (Terms w5 (.slice (some ⟨g, 0, none⟩) i cap) (Vm.keep ts) k) := by
     refine ⟨_, cap, by rw [hcount], by omega, by unfold maxLen; omega, .inr ⟨g, 0, cur5, rfl, hc5, fun x t ht => ?_⟩⟩
     have hxi : x < i := by rw [hcount]; exact (List.getElem?_eq_some_iff.1 ht).1
     obtain ⟨f, a, b, c⟩ := hD.done x t (by rw [List.take_length]; exact ht)
     exact ⟨f, by rw [Nat.zero_add, hx5 _ (by omega)]; exact a, by rw [Nat.zero_add, hx5 _ (by omega)]; exact b, frac_grown c hg5 hhead⟩
    have HB5 : Hid (Below B w w5) := (Below.refl B w).grown (grownBy_trans hD.grown hg5) hB (fun g' hg' => by obtain rfl := Option.some.inj hg'; exact hgB)
    have hsl : ∀ W, (Instr.slice 85 (.slice (some ⟨g, 0, none⟩) ts.length cap) (some (.int .i64 i)) none none).run Tryz.prog W = .ok (.slice (some ⟨g, i * 2, none⟩) (ts.length - i) (cap - i)) W := fun W => by
     rw [Tryz.termsFrom _ _ _ i (by omega) l1 (by omega)]
     unfold sliced
     rw [if_neg (by omega), Option.map_some, Lib.add_plain, Nat.zero_add]
    have hsr : ∀ W, (Instr.slice 85 (.slice (some ⟨g, 0, none⟩) ts.length cap) none (some (.int .i64 i)) none).run Tryz.prog W = .ok (.slice (some ⟨g, 0, none⟩) i cap) W := fun W => by
     rw [Tryz.termsTo _ _ _ i (by omega) l1]
     unfold sliced
     rw [if_neg (by omega), Option.map_some, Lib.add_plain, Nat.zero_mul]; rfl
    clear hD hc5 hx5 hg5 hhead hcount
    go_wp2_with (at_builtin; refine wpList_clear rfl (.tmp 38) 85 rfl rfl hrun ?_)
    clear hrun
    go_ret
    exact ⟨⟨_, rfl, HR.out⟩, HB5.out⟩
end Go.Proofs.Vt
namespace Go.Proofs.Vt
open Go.RowKit Go.Proofs.Wd Go.Proofs.Fr
open Vm (T Rise Full In)
/-- The terms that coefficients show. -/
noncomputable def termsOf (cs : C) : T := cs.map fun c => (c.1, (getQ c.2).getD 0)
theorem termsOf_len (cs : C) : (termsOf cs).length = cs.length := List.length_map _
theorem termsOf_get {cs : C} {j : Nat} {c : Int × ByteArray} {q : Rat} (h : cs[j]? = some c) (hq : getQ c.2 = some q) : (termsOf cs)[j]? = some (c.1, q) := by
 unfold termsOf
 rw [List.getElem?_map, h, Option.map_some, hq]; rfl
theorem termsOf_rise {m : Int} {cs : C} (h : CoefOk m cs) : Rise (termsOf cs) := List.pairwise_map.2 h.1
theorem termsOf_in {n : Nat} {cs : C} (h : CoefOk n cs) : In n (termsOf cs) := fun t ht => by
 obtain ⟨c, hc, rfl⟩ := List.mem_map.1 ht
 exact ⟨(h.2 c hc).1, (h.2 c hc).2.1⟩
/-- What New's loop keeps to. -/
structure NewAt (g : Nat) (ts : T) (K k : Nat) (wr : World) (cur : Array Value) : Prop where
 cells : CellsAt wr g cur 87
 size : cur.size = ts.length * 2
 head : 0 < ts.length → ∃ z, cur[0]? = some (.int .i64 z)
 done : ∀ x t, x < k → ts[x]? = some t → TermAt wr cur x t K
theorem NewAt.below {wr w' : World} {g k K : Nat} {ts : T} {cur : Array Value} (h : NewAt g ts K k wr cur) (hb : Below wr.heap.size wr w') : NewAt g ts K k w' cur := by
 obtain ⟨h1, h2, h3, h4⟩ := h
 exact ⟨h1.below hb, h2, h3, fun x t hx ht => by obtain ⟨f, a, b, c⟩ := h4 x t hx ht; exact ⟨f, a, b, c.below hb⟩⟩
theorem NewAt.put {wr : World} {g k K : Nat} {ts : T} {cur : Array Value} {t : Int × Rat} {f : Value} (h : NewAt g ts K k wr cur) (ht : ts[k]? = some t) (hf : FracIs wr f t.2 K) :
 NewAt g ts K (k + 1) ((wr.setCell ⟨g, k * 2, none⟩ (.int .i64 t.1)).setCell ⟨g, k * 2 + 1, none⟩ f) ((cur.setIfInBounds (k * 2) (.int .i64 t.1)).setIfInBounds (k * 2 + 1) f) := by
 obtain ⟨h1, h2, h3, h4⟩ := h
 have hlt : k < ts.length := (List.getElem?_eq_some_iff.1 ht).1
 obtain ⟨z, h3⟩ := h3 (by omega)
 have get : ∀ x, x ≠ k → ((cur.setIfInBounds (k * 2) (.int .i64 t.1)).setIfInBounds (k * 2 + 1) f)[x * 2]? = cur[x * 2]? ∧ ((cur.setIfInBounds (k * 2) (.int .i64 t.1)).setIfInBounds (k * 2 + 1) f)[x * 2 + 1]? = cur[x * 2 + 1]? := fun x hx => by
  rw [get_set (by omega), get_set (by omega), get_set (by omega), get_set (by omega)]
  exact ⟨rfl, rfl⟩
 refine ⟨(h1.set (k * 2) _).set (k * 2 + 1) _, by simpa using h2, fun _ => ?_, fun x u hx hu => ?_⟩
 ·by_cases hi : k = 0
  ·subst hi
   exact ⟨t.1, by rw [get_set (by omega)]; exact get_set' (by omega)⟩
  ·exact ⟨z, by rw [get_set (by omega), get_set (by omega)]; exact h3⟩
 ·by_cases e : x = k
  ·subst e
   rw [ht] at hu
   obtain rfl := Option.some.inj hu
   exact ⟨f, by rw [get_set (by omega)]; exact get_set' (by omega), get_set' (by simp; omega), put_frac h1 h3 hf⟩
  ·obtain ⟨f', a, b, c⟩ := h4 x u (by omega) hu
   exact ⟨f', by rw [(get x e).1]; exact a, by rw [(get x e).2]; exact b, put_frac h1 h3 c⟩
theorem NewAt.own {B : Nat} {wr : World} {g K : Nat} {ts : T} {cur : Array Value} (h : NewAt g ts K ts.length wr cur) (hB : B ≤ g) (hm : ts.length ≤ 1000) : OwnT B wr (.slice (some ⟨g, 0, none⟩) ts.length ts.length) ts K := by
 obtain ⟨h1, h2, h3, h4⟩ := h
 have hT : Terms wr (.slice (some ⟨g, 0, none⟩) ts.length ts.length) ts K := by
  refine ⟨_, _, rfl, Nat.le_refl _, by unfold maxLen; omega, .inr ⟨g, 0, cur, rfl, h1, fun j t ht => ?_⟩⟩
  obtain ⟨f, a, b, c⟩ := h4 j t (List.getElem?_eq_some_iff.1 ht).1 ht
  exact ⟨f, by rw [Nat.zero_add]; exact a, by rw [Nat.zero_add]; exact b, c⟩
 obtain ⟨ps, p1, p2, p3⟩ := hT.cells
 have hl : ps.length = ts.length := by rw [p1, List.length_map]
 refine ⟨ps, p1, ⟨cellsOf_len _, .inr ⟨g, ts.length, cur, by rw [hl], hB, h1, by omega, by unfold maxLen; omega, h2, ?_⟩⟩, p2, ?_, ?_⟩
 ·apply List.ext_getElem?
  intro j
  by_cases hj : j < (cellsOf ps).length
  ·have hu := List.getElem?_eq_getElem hj
   have := p3 g 0 _ _ rfl j _ hu
   rw [Lib.add_plain, Nat.zero_add, h1.cell] at this
   rw [cellsOf_len] at hj
   rw [hu, List.getElem?_take_of_lt (by omega), Array.getElem?_toList]
   exact this
  ·rw [cellsOf_len] at hj
   rw [List.getElem?_eq_none (l := cur.toList.take (ps.length * 2)) (Nat.le_trans (List.length_take_le _ _) (by omega)), List.getElem?_eq_none (by rw [cellsOf_len]; omega)]
 ·intro g' hg' u hu
  obtain rfl : g = g' := by simpa [Value.ownBlock] using hg'
  rw [h1.cell] at hu
  by_cases h0 : 0 < ts.length
  ·obtain ⟨z, hz⟩ := h3 h0
   rw [hz] at hu
   exact ⟨z, (Option.some.inj hu).symm⟩
  ·have := (Array.getElem?_eq_some_iff.1 hu).1
   omega
 ·intro g' hg'
  obtain rfl : g = g' := by simpa [Value.ownBlock] using hg'
  exact ⟨_, _, h1, by decide⟩
theorem Tryz.makeN (w : World) (ts : T) (K : Nat) (hn : ts.length ≤ 1000) : ∃ w' cur, (Instr.makeSlice 85 (.int .i64 ts.length) (.int .i64 ts.length)).run Tryz.prog w = .ok (.slice (some ⟨w.heap.size, 0, none⟩) ts.length ts.length) w' ∧ NewAt w.heap.size ts K 0 w' cur ∧ Below w.heap.size w w' := by
 obtain ⟨i0, hi, hz0, hz1, hz2⟩ := info_parts Tryz.infoTerm
 have hr := run_make (P := Tryz.prog) w 85 87 i0 _ Tryz.underlying85 hi hz0 .i64 .i64 ts.length ts.length (by omega) (by omega) (by rw [hz2]; omega) (by omega)
 rw [hz1, Int.toNat_natCast] at hr
 refine ⟨_, _, hr, ⟨CellsAt.new _ _ _ rfl, size_madeCells _ _, fun h0 => ⟨0, ?_⟩, fun x t hx _ => by omega⟩, (Below.refl _ _).alloc (Nat.le_refl _) _⟩
 have h2 : 0 < ts.length * 2 := by omega
 simp [madeCells, h2, Value.cells]
theorem Tryz.vecNew (L : Nat) (v : Value) (cs : C) (w : World) (h : ReadsC w L v cs) (hok : CoefOk 1000 cs) (hn : cs.length ≤ 12) :
 Calls Tryz.prog 13 #[v] w fun e w' => (∃ s, e = .returned (.tuple #[s, .bool true]) ∧ VecIs w' s (Vm.keep (termsOf cs)) 120) ∧ Below w.heap.size w w' := by
 obtain ⟨p, cap, rfl, l1, l2⟩ := h.slice
 have H : Hid (ReadsC w L _ cs) := h
 have HOK : Hid (CoefOk 1000 cs) := hok
 unfold maxLen at l2
 clear h hok
 have hlen := termsOf_len cs
 obtain ⟨w1, cur1, hmk, hN1, hb1⟩ := Tryz.makeN w (termsOf cs) 120 (by omega)
 rw [hlen] at hmk
 have HN1 := Lib.hid hN1
 have HB1 := Lib.hid hb1
 have HLEN := Lib.hid hlen
 have e0 : decide (1000 < (cs.length : Int)) = false := by simp; omega
 clear hN1 hb1 hlen
 go_enter Tryz.func13, Tryz.ntmps13
 go_wp2_with fail
 go_loopw [17] (fun iv wr => ∃ (k : Nat) (cur : Array Value), iv = .int .i64 k ∧ k ≤ cs.length ∧ NewAt w.heap.size (termsOf cs) 120 k wr cur ∧ Below w.heap.size w wr) (fun iv _ => cs.length - (intOf iv).toNat)
 case atStart => exact ⟨0, cur1, rfl, Nat.zero_le _, HN1.out, HB1.out⟩
 case round =>
  obtain ⟨k, cur, rfl, hk, hN, hb⟩ := hrel
  by_cases hlt : k < cs.length
  ·obtain ⟨c, hc⟩ : ∃ c, cs[k]? = some c := ⟨_, List.getElem?_eq_getElem hlt⟩
   obtain ⟨q0, q1, q, hq⟩ := HOK.out.2 c (List.mem_of_getElem? hc)
   obtain ⟨g, o, cap', he, -, -, c0, c1, hg⟩ := H.out.nth hc
   simp only [Value.slice.injEq, true_and] at he
   obtain ⟨rfl, rfl⟩ := he
   rw [← hb.cell hg] at c0 c1
   have HT := Lib.hid (termsOf_get hc hq)
   have HQ := Lib.hid hq
   have hs9 := getQ_size hq
   have hs1 : Below wr.heap.size wr (wr.alloc (.cells #[.int .i64 c.1, .string c.2] 46)) := (Below.refl _ _).alloc (Nat.le_refl _) _
   have HN2 : Hid (NewAt w.heap.size (termsOf cs) 120 k (wr.alloc (.cells #[.int .i64 c.1, .string c.2] 46)) cur) := hN.below hs1
   have HB2 := Lib.hid (hb.trans (hs1.mono hb.size))
   have HC2 : Hid (CellsAt (wr.alloc (.cells #[.int .i64 c.1, .string c.2] 46)) wr.heap.size #[.int .i64 c.1, .string c.2] 46) := CellsAt.new _ _ _ rfl
   have e1 : decide (c.1 < 0) = false := by simp; omega
   have e2 : decide (999 < c.1) = false := by simp; omega
   clear hc hq hN hs1 hg hb
   go_wp2_with fail
   generalize wr.alloc (.cells #[.int .i64 c.1, .string c.2] 46) = w5 at *
   with_reducible refine (Tryz.fracGet c.2 _ (by omega)).mono ?_
   rintro e w6 ⟨hget, hb6⟩
   obtain ⟨f, rfl, hf⟩ : ∃ f, e = .returned (.tuple #[f, .bool true]) ∧ FracIs w6 f q 120 := by
    rcases hget with ⟨q', f, h1, h2, h3⟩ | ⟨h1, h2⟩
    ·rw [HQ.out] at h1
     obtain rfl := Option.some.inj h1
     exact ⟨f, h2, h3⟩
    ·rw [HQ.out] at h1; simp at h1
   obtain ⟨fa, rfl⟩ := frac_pointer hf
   have HR : Hid (NewAt w.heap.size (termsOf cs) 120 (k + 1) ((w6.setCell ⟨w.heap.size, k * 2, none⟩ (.int .i64 c.1)).setCell ⟨w.heap.size, k * 2 + 1, none⟩ (.pointer fa)) _) := (HN2.out.below hb6).put HT.out hf
   have HB6 : Hid (Below w.heap.size w ((w6.setCell ⟨w.heap.size, k * 2, none⟩ (.int .i64 c.1)).setCell ⟨w.heap.size, k * 2 + 1, none⟩ (.pointer fa))) := ((HB2.out.trans (hb6.mono HB2.out.size)).setCell (p := ⟨w.heap.size, k * 2, none⟩) (Nat.le_refl _) _).setCell (p := ⟨w.heap.size, k * 2 + 1, none⟩) (Nat.le_refl _) _
   have hsz : cur.size = cs.length * 2 := by rw [HN2.out.size, HLEN.out]
   obtain ⟨u0, hx0⟩ : ∃ u, w6.cell? ⟨w.heap.size, k * 2, none⟩ = some u := ⟨cur[k * 2]'(by omega), by rw [(HN2.out.below hb6).cells.cell (k * 2), Array.getElem?_eq_getElem (by omega)]⟩
   obtain ⟨u1, hx1⟩ : ∃ u, w6.cell? ⟨w.heap.size, k * 2 + 1, none⟩ = some u := ⟨cur[k * 2 + 1]'(by omega), by rw [(HN2.out.below hb6).cells.cell (k * 2 + 1), Array.getElem?_eq_getElem (by omega)]⟩
   have hy0 := (HN2.out.below hb6).cells.free (k * 2)
   have hy1 := (HN2.out.below hb6).cells.free (k * 2 + 1)
   have a0 := (HC2.out.below hb6).cell 0
   have a1 := (HC2.out.below hb6).cell 1
   simp only [List.getElem?_toArray, List.getElem?_cons_zero, List.getElem?_cons_succ] at a0 a1
   have HSZ := Lib.hid hsz
   clear hget hb6 HN2 HB2 HC2 HQ HT hf c0 c1 hsz
   go_wp2
   go_roundw
   case rel => exact ⟨k + 1, _, by go_num, by omega, HR.out, HB6.out⟩
   case measure => simp [intOf]; omega
  ·have e1 : decide (k < cs.length) = false := by simpa using hlt
   obtain rfl : k = cs.length := by omega
   have HO : Hid (OwnT w.heap.size wr (.slice (some ⟨w.heap.size, 0, none⟩) cs.length cs.length) (termsOf cs) 120) := by
    have := hN
    rw [← HLEN.out] at this
    have := this.own (Nat.le_refl _) (by rw [HLEN.out]; omega)
    rw [HLEN.out] at this
    exact this
   have HB := Lib.hid hb
   clear hN hb
   go_wp2_with fail
   with_reducible refine (Tryz.sortT _ (termsOf cs) 120 _ HO.out.terms (termsOf_rise HOK.out) (by rw [HLEN.out]; omega)).mono ?_
   rintro e w5 ⟨rfl, hb5⟩
   have HO5 := Lib.hid (HO.out.below hb5)
   have HB5 := Lib.hid (HB.out.trans (hb5.mono HB.out.size))
   clear hb5 HO HB
   go_wp2_with fail
   with_reducible refine (Tryz.twice _ (termsOf cs) 120 _ HO5.out.terms (termsOf_rise HOK.out)).mono ?_
   rintro e w6 ⟨rfl, hb6⟩
   have HO6 := Lib.hid (HO5.out.below hb6)
   have HB6 := Lib.hid (HB5.out.trans (hb6.mono HB5.out.size))
   clear hb6 HO5 HB5
   go_wp2_with fail
   with_reducible refine (Tryz.deleteT w.heap.size _ (termsOf cs) 120 _ HO6.out HB6.out.size (by rw [HLEN.out]; omega)).mono ?_
   rintro e w7 ⟨⟨s, rfl, hs⟩, hb7⟩
   obtain ⟨p', cap', rfl, -, -⟩ := hs.slice
   obtain ⟨m, hm⟩ : ∃ m, (Vm.keep (termsOf cs)).length = m := ⟨_, rfl⟩
   rw [hm] at hs ⊢
   have HS := Lib.hid hs
   have HB7 : Hid (Below w.heap.size w w7) := HB6.out.trans hb7
   have hbd : ∀ (p : Option Addr) (n c : Nat) (w : World), (Instr.build 95 #[(0, .slice p n c)]).run Tryz.prog w = .ok (.agg #[.slice p n c]) w := fun p n c w => run_build w 95 _ _ (by kernel_rfl)
   clear hb7 HO6 HB6 hs hm
   have HV : Hid (VecIs (w7.alloc (.cells #[.slice p' m cap'] 95)) (.pointer (some ⟨w7.heap.size, 0, none⟩)) (Vm.keep (termsOf cs)) 120) := .inr ⟨_, _, rfl, by simp, by simp, HS.out.below ((Below.refl _ _).alloc (Nat.le_refl _) _)⟩
   have HBV : Hid (Below w.heap.size w (w7.alloc (.cells #[.slice p' m cap'] 95))) := HB7.out.alloc HB7.out.size _
   clear HS HB7
   go_wp2
   go_ret2
   exact ⟨⟨_, rfl, HV.out⟩, HBV.out⟩
end Go.Proofs.Vt
namespace Go.Proofs.Vt
open Go.RowKit Go.Proofs.Wd Go.Proofs.Fr
open Vm (T Rise Full In)
/-- The coefficients that terms show. -/
def coefsOf (ts : T) : C := ts.map fun t => (t.1, ⟨(textQ t.2).toArray⟩)
theorem coefsOf_len (ts : T) : (coefsOf ts).length = ts.length := List.length_map _
theorem coefsOf_get {ts : T} {j : Nat} {t : Int × Rat} (h : ts[j]? = some t) : (coefsOf ts)[j]? = some (t.1, ⟨(textQ t.2).toArray⟩) := by
 unfold coefsOf
 rw [List.getElem?_map, h]; rfl
/-- What the loop keeps to. -/
structure CoefNew (g : Nat) (cs : C) (k : Nat) (wr : World) (cur : Array Value) : Prop where
 cells : CellsAt wr g cur 46
 size : cur.size = cs.length * 2
 done : ∀ x c, x < k → cs[x]? = some c → cur[x * 2]? = some (.int .i64 c.1) ∧ cur[x * 2 + 1]? = some (.string c.2)
theorem CoefNew.below {wr w' : World} {g k : Nat} {cs : C} {cur : Array Value} (h : CoefNew g cs k wr cur) (hb : Below wr.heap.size wr w') : CoefNew g cs k w' cur := by
 obtain ⟨h1, h2, h3⟩ := h
 exact ⟨h1.below hb, h2, h3⟩
theorem CoefNew.put {wr : World} {g k : Nat} {cs : C} {cur : Array Value} {c : Int × ByteArray} (h : CoefNew g cs k wr cur) (hc : cs[k]? = some c) :
 CoefNew g cs (k + 1) ((wr.setCell ⟨g, k * 2, none⟩ (.int .i64 c.1)).setCell ⟨g, k * 2 + 1, none⟩ (.string c.2)) ((cur.setIfInBounds (k * 2) (.int .i64 c.1)).setIfInBounds (k * 2 + 1) (.string c.2)) := by
 obtain ⟨h1, h2, h3⟩ := h
 have hlt : k < cs.length := (List.getElem?_eq_some_iff.1 hc).1
 refine ⟨(h1.set (k * 2) _).set (k * 2 + 1) _, by simpa using h2, fun x d hx hd => ?_⟩
 by_cases e : x = k
 ·subst e
  rw [hc] at hd
  obtain rfl := Option.some.inj hd
  exact ⟨by rw [get_set (by omega)]; exact get_set' (by omega), get_set' (by simp; omega)⟩
 ·rw [get_set (by omega), get_set (by omega), get_set (by omega), get_set (by omega)]
  exact h3 x d (by omega) hd
theorem CoefNew.own {B : Nat} {wr : World} {g : Nat} {cs : C} {cur : Array Value} (h : CoefNew g cs cs.length wr cur) (hB : B ≤ g) (hm : cs.length ≤ 1000000) : OwnC B wr (.slice (some ⟨g, 0, none⟩) cs.length cs.length) cs := by
 obtain ⟨h1, h2, h3⟩ := h
 refine ⟨cellsC_len _, .inr ⟨g, cs.length, cur, rfl, hB, h1, Nat.le_refl _, by unfold maxLen; omega, h2, ?_⟩⟩
 apply List.ext_getElem?
 intro j
 by_cases hj : j < cs.length * 2
 ·obtain ⟨c, hc⟩ : ∃ c, cs[j / 2]? = some c := ⟨_, List.getElem?_eq_getElem (by omega)⟩
  have a := h3 _ _ (by omega) hc
  have b := cellsC_get _ _ _ hc
  rw [List.getElem?_take_of_lt (by omega), Array.getElem?_toList]
  rcases Nat.mod_two_eq_zero_or_one j with e | e
  ·rw [show j = j / 2 * 2 by omega, a.1, b.1]
  ·rw [show j = j / 2 * 2 + 1 by omega, a.2, b.2]
 ·rw [List.getElem?_eq_none (l := cur.toList.take (cs.length * 2)) (Nat.le_trans (List.length_take_le _ _) (by omega)), List.getElem?_eq_none (by rw [cellsC_len]; omega)]
theorem Tryz.makeC (w : World) (cs : C) (hn : cs.length ≤ 1000000) : ∃ w' cur, (Instr.makeSlice 25 (.int .i64 cs.length) (.int .i64 cs.length)).run Tryz.prog w = .ok (.slice (some ⟨w.heap.size, 0, none⟩) cs.length cs.length) w' ∧ CoefNew w.heap.size cs 0 w' cur ∧ Below w.heap.size w w' := by
 obtain ⟨i0, hi, hz0, hz1, hz2⟩ := info_parts Tryz.infoCoef
 have hr := run_make (P := Tryz.prog) w 25 46 i0 _ Tryz.underlying25 hi hz0 .i64 .i64 cs.length cs.length (by omega) (by omega) (by rw [hz2]; omega) (by omega)
 rw [hz1, Int.toNat_natCast] at hr
 exact ⟨_, _, hr, ⟨CellsAt.new _ _ _ rfl, size_madeCells _ _, fun x t hx _ => by omega⟩, (Below.refl _ _).alloc (Nat.le_refl _) _⟩
theorem Tryz.vecCoefs (v : Value) (ts : T) (k : Nat) (w : World) (h : VecIs w v ts k) (hk : 1 ≤ k) (hk9 : k ≤ 100000) (hn : ts.length ≤ 1000000) (hT : TabOk w) :
 Calls Tryz.prog 26 #[v] w fun e w' => (∃ r, e = .returned r ∧ OwnC w.heap.size w' r (coefsOf ts)) ∧ Below w.heap.size w w' := by
 have H : Hid (VecIs w v ts k) := h
 have HTB : Hid (TabOk w) := hT
 have hlen := coefsOf_len ts
 obtain ⟨w1, cur1, hmk, hN1, hb1⟩ := Tryz.makeC w (coefsOf ts) (by omega)
 rw [hlen] at hmk
 have HN1 := Lib.hid hN1
 have HB1 := Lib.hid hb1
 have HLEN := Lib.hid hlen
 clear h hT hN1 hb1 hlen
 go_enter Tryz.func26, Tryz.ntmps26
 go_wp2_with fail
 with_reducible refine (Tryz.list v ts k _ H.out).mono ?_
 rintro e w2 ⟨⟨s, rfl, hs⟩, hw2⟩
 subst hw2
 obtain ⟨p, cap, rfl, l1, l2⟩ := hs.slice
 unfold maxLen at l2
 have HS := Lib.hid hs
 clear hs H
 go_wp2_with fail
 go_loopw [14] (fun iv wr => ∃ (n : Nat) (cur : Array Value), iv = .int .i64 n ∧ n ≤ ts.length ∧ CoefNew w2.heap.size (coefsOf ts) n wr cur ∧ Below w2.heap.size w2 wr) (fun iv _ => ts.length - (intOf iv).toNat)
 case atStart => exact ⟨0, cur1, rfl, Nat.zero_le _, HN1.out, HB1.out⟩
 case round =>
  obtain ⟨n, cur, rfl, hn', hN, hb⟩ := hrel
  by_cases hlt : n < ts.length
  ·obtain ⟨t, ht⟩ : ∃ t, ts[n]? = some t := ⟨_, List.getElem?_eq_getElem hlt⟩
   obtain ⟨g, o, cap', f, he, -, -, c0, c1, hf, hg⟩ := HS.out.nth ht
   simp only [Value.slice.injEq, true_and] at he
   obtain ⟨rfl, rfl⟩ := he
   obtain ⟨fa, rfl⟩ := frac_pointer hf
   rw [← hb.cell hg] at c0 c1
   have HC := Lib.hid (coefsOf_get ht)
   have hs1 : Below wr.heap.size wr (wr.alloc (.cells #[.int .i64 t.1, .pointer fa] 87)) := (Below.refl _ _).alloc (Nat.le_refl _) _
   have HN : Hid (CoefNew w2.heap.size (coefsOf ts) n (wr.alloc (.cells #[.int .i64 t.1, .pointer fa] 87)) cur) := hN.below hs1
   have HB := Lib.hid (hb.trans (hs1.mono hb.size))
   have HA : Hid (CellsAt (wr.alloc (.cells #[.int .i64 t.1, .pointer fa] 87)) wr.heap.size #[.int .i64 t.1, .pointer fa] 87) := CellsAt.new _ _ _ rfl
   have HF := Lib.hid ((hf.below hb).below hs1)
   have hga : w2.heap.size < wr.heap.size := hN.cells.lt
   obtain ⟨a, ha⟩ : ∃ a, wr.heap.size = a := ⟨_, rfl⟩
   rw [ha] at HA hga
   have HGA := Lib.hid hga
   clear ht hN hf hs1 hg hb hga
   have hn0 : (0 : Int) ≤ (n : Int) := by omega
   have hn1 : (n : Int) < (ts.length : Int) := by omega
   go_wp2_with fail
   clear ha
   generalize wr.alloc (.cells #[.int .i64 t.1, .pointer fa] 87) = w5 at *
   clear c0 c1
   refine wp_region_held_drew (S := fun w' => w'.cell? ⟨a, 0, none⟩ = some (.int .i64 t.1) ∧ w'.cell? ⟨a, 1, none⟩ = some (.pointer fa)) (by kernel_rfl) ⟨HA.out.cell 0, HA.out.cell 1⟩ (fun hHeld => ?_)
   replace HB := Lib.hid (HB.out.drew)
   replace HA := Lib.hid (HA.out.below (Below.refl _ _).drew)
   replace HF := Lib.hid (HF.out.below (Below.refl _ _).drew)
   replace HN := Lib.hid (HN.out.below (Below.refl _ _).drew)
   clear hHeld
   generalize w5.drew = w5d at *
   have hHeld : (fun w' : World => w'.cell? ⟨a, 0, none⟩ = some (.int .i64 t.1) ∧ w'.cell? ⟨a, 1, none⟩ = some (.pointer fa)) w5d := ⟨HA.out.cell 0, HA.out.cell 1⟩
   refine takeY 0 (h := ?_)
   refine takeY 1 (h := ?_)
   refine takeY 2 (h := ?_)
   (try simp only [Act.put, List.setIfInBounds_toArray, List.set_cons_zero, List.set_cons_succ])
   refine takeY 3 (h := ?_)
   refine takeY 4 (h := ?_)
   refine takeY 5 (h := ?_)
   (try simp only [Act.put, List.setIfInBounds_toArray, List.set_cons_zero, List.set_cons_succ])
   refine wpAnyH_ready (rs := [6]) (by kernel_rfl) (by simp) ?_
   refine AllReadyH.cons (by (simp only [List.getElem?_toArray, List.getElem?_cons_succ, List.getElem?_cons_zero]) <;> rfl) (fun KX hK => ?_) AllReadyH.nil
   go_simp
   with_reducible refine (Tryz.fracText (.pointer fa) t.2 k _ HF.out hk hk9 (HTB.out.after HB.out)).mono ?_
   rintro e w5d21 ⟨rfl, hb⟩
   clear hHeld
   replace HB := Lib.hid (HB.out.trans (hb.mono HB.out.size))
   replace HA := Lib.hid (HA.out.below hb)
   replace HF := Lib.hid (HF.out.below hb)
   replace HN := Lib.hid (HN.out.below hb)
   clear hb
   refine hK.out _ _ ⟨HA.out.cell 0, HA.out.cell 1⟩ (fun hHeld => ?_)
   clear hK KX
   (try simp only [Act.put, List.setIfInBounds_toArray, List.set_cons_zero, List.set_cons_succ])
   refine takeY 7 (h := ?_)
   refine takeY 8 (h := ?_)
   (try simp only [Act.put, List.setIfInBounds_toArray, List.set_cons_zero, List.set_cons_succ])
   obtain ⟨s, hsx⟩ : ∃ s : ByteArray, (⟨(textQ t.2).toArray⟩ : ByteArray) = s := ⟨_, rfl⟩
   rw [hsx] at HC ⊢
   clear hsx
   have hsz : cur.size = ts.length * 2 := by rw [HN.out.size, HLEN.out]
   obtain ⟨u0, hx0⟩ : ∃ u, w5d21.cell? ⟨w2.heap.size, n * 2, none⟩ = some u := ⟨cur[n * 2]'(by omega), by rw [HN.out.cells.cell (n * 2), Array.getElem?_eq_getElem (by omega)]⟩
   obtain ⟨u1, hx1⟩ : ∃ u, w5d21.cell? ⟨w2.heap.size, n * 2 + 1, none⟩ = some u := ⟨cur[n * 2 + 1]'(by omega), by rw [HN.out.cells.cell (n * 2 + 1), Array.getElem?_eq_getElem (by omega)]⟩
   have hy0 := HN.out.cells.free (n * 2)
   have hy1 := HN.out.cells.free (n * 2 + 1)
   have HSZ := Lib.hid hsz
   refine wpAnyH_ready (rs := [9]) (by kernel_rfl) (by simp) ?_
   refine AllReadyH.cons (by (simp only [List.getElem?_toArray, List.getElem?_cons_succ, List.getElem?_cons_zero]) <;> rfl) (fun KX hK => ?_) AllReadyH.nil
   go_simp
   have HR : Hid (CoefNew w2.heap.size (coefsOf ts) (n + 1) ((w5d21.setCell ⟨w2.heap.size, n * 2, none⟩ (.int .i64 t.1)).setCell ⟨w2.heap.size, n * 2 + 1, none⟩ (.string s)) _) := HN.out.put HC.out
   have HB6 : Hid (Below w2.heap.size w2 ((w5d21.setCell ⟨w2.heap.size, n * 2, none⟩ (.int .i64 t.1)).setCell ⟨w2.heap.size, n * 2 + 1, none⟩ (.string s))) := (HB.out.setCell (p := ⟨w2.heap.size, n * 2, none⟩) (Nat.le_refl _) _).setCell (p := ⟨w2.heap.size, n * 2 + 1, none⟩) (Nat.le_refl _) _
   have HA6 := Lib.hid ((HA.out.other (g := w2.heap.size) (by have := HGA.out; omega) (n * 2) (.int .i64 t.1)).other (g := w2.heap.size) (by have := HGA.out; omega) (n * 2 + 1) (.string s))
   clear HN HC HB HA HF hHeld hx0 hx1 hy0 hy1
   generalize (w5d21.setCell ⟨w2.heap.size, n * 2, none⟩ (.int .i64 t.1)).setCell ⟨w2.heap.size, n * 2 + 1, none⟩ (.string s) = w7 at *
   refine hK.out _ _ ⟨HA6.out.cell 0, HA6.out.cell 1⟩ (fun hHeld => ?_)
   clear hK KX
   (try simp only [Act.put, List.setIfInBounds_toArray, List.set_cons_zero, List.set_cons_succ])
   refine wpAnyH_done (by kernel_rfl) ?_ _
   clear hHeld HA6
   go_wp2
   go_roundw
   case rel => exact ⟨n + 1, _, by go_num, by omega, HR.out, HB6.out⟩
   case measure => simp [intOf]; omega
  ·have e1 : decide (n < ts.length) = false := by simpa using hlt
   obtain rfl : n = ts.length := by omega
   have HO : Hid (OwnC w2.heap.size wr (.slice (some ⟨w2.heap.size, 0, none⟩) ts.length ts.length) (coefsOf ts)) := by
    have := hN
    rw [← HLEN.out] at this
    have := this.own (Nat.le_refl _) (by rw [HLEN.out]; omega)
    rw [HLEN.out] at this
    exact this
   have HB := Lib.hid hb
   clear hN hb
   go_wp2
   go_ret
   exact ⟨⟨_, rfl, HO.out⟩, HB.out⟩
end Go.Proofs.Vt
namespace Go.Proofs.Vt
open Go.RowKit Go.Proofs.Wd Go.Proofs.Fr
open Vm (T Rise Full In)
theorem frac_copy {w : World} {a : Nat} {q : Rat} {k : Nat} (h : FracAt w a q k) : ∃ b x y p, w.cell? ⟨a, 0, none⟩ = some (.bool b) ∧ w.cell? ⟨a, 1, none⟩ = some (.int .u64 x) ∧ w.cell? ⟨a, 2, none⟩ = some (.int .u64 y) ∧ w.cell? ⟨a, 3, none⟩ = some (.pointer p) ∧
 FracAt (w.alloc (.cells #[.bool b, .int .u64 x, .int .u64 y, .pointer p] 110)) w.heap.size q k := by
 obtain ⟨h1, h2, h3⟩ := h
 rcases h3 with ⟨g1, g2, g3, g4⟩ | ⟨g1, g2, g3, b, p, r, g4, g5, g6, g7, g8, g9⟩
 ·refine ⟨_, _, _, _, h2, g2, g3, g4, ?_⟩
  have hn := CellsAt.new w #[.bool (decide (q.num < 0)), .int .u64 (q.num.natAbs : Int), .int .u64 (q.den : Int), .pointer none] 110 rfl
  exact ⟨hn.lt, hn.cell 0, .inl ⟨g1, hn.cell 1, hn.cell 2, hn.cell 3⟩⟩
 ·refine ⟨_, _, _, _, h2, g2, g3, g4, ?_⟩
  have hn := CellsAt.new w #[.bool (decide (q.num < 0)), .int .u64 0, .int .u64 0, .pointer (some ⟨b, 0, none⟩)] 110 rfl
  have hb : Below w.heap.size w (w.alloc (.cells #[.bool (decide (q.num < 0)), .int .u64 0, .int .u64 0, .pointer (some ⟨b, 0, none⟩)] 110)) := (Below.refl _ _).alloc (Nat.le_refl _) _
  exact ⟨hn.lt, hn.cell 0, .inr ⟨g1, hn.cell 1, hn.cell 2, b, p, r, hn.cell 3, by have := hb.size; omega, by rw [hb.cell g5]; exact g6, by rw [hb.cell g5]; exact g7, g8.below hb (Nat.le_refl _), g9.below hb (Nat.le_refl _)⟩⟩
theorem Tryz.atCmp (a c : Int) (f : Option Addr) (w : World) :
 Calls Tryz.prog 72 #[.agg #[.int .i64 a, .pointer f], .int .i64 c] w fun e w' => e = .returned (.int .i64 (cmpI a c)) ∧ Below w.heap.size w w' := by
 go_enter Tryz.func72, Tryz.ntmps72
 go_wp2_with fail
 with_reducible refine (Tryz.cmpN a c _).mono ?_
 rintro e w1 ⟨rfl, rfl⟩
 go_wp2
 go_ret
 exact ⟨rfl, (Below.refl _ _).alloc (Nat.le_refl _) _⟩
/-- What the search tells: where, and whether it stands there. -/
def BsSaid (ts : T) (c : Int) (e : Ending) : Prop :=
 ∃ (i : Nat) (b : Bool), e = .returned (.tuple #[.int .i64 i, .bool b]) ∧ (b = true → ∃ t, ts[i]? = some t ∧ t.1 = c) ∧ (b = false → ∀ t ∈ ts, t.1 ≠ c)
/-- What the search keeps to. -/
structure BsAt (ts : T) (c : Int) (i j : Nat) : Prop where
 le : i ≤ j
 len : j ≤ ts.length
 low : ∀ m t, ts[m]? = some t → m < i → t.1 < c
 high : ∀ m t, ts[m]? = some t → j ≤ m → c ≤ t.1
theorem rise_nth {ts : T} (hr : Rise ts) {i j : Nat} {t u : Int × Rat} (hi : ts[i]? = some t) (hj : ts[j]? = some u) (h : i < j) : t.1 < u.1 := by
 obtain ⟨h1, rfl⟩ := List.getElem?_eq_some_iff.1 hi
 obtain ⟨h2, rfl⟩ := List.getElem?_eq_some_iff.1 hj
 exact List.pairwise_iff_getElem.1 hr i j h1 h2 h
theorem BsAt.up {ts : T} {c : Int} {i j h : Nat} {t : Int × Rat} (g : BsAt ts c i j) (hr : Rise ts) (ht : ts[h]? = some t) (hj : h < j) (hi : i ≤ h) (hc : t.1 < c) : BsAt ts c (h + 1) j :=
 ⟨by omega, g.len, fun m u hu hm => by
  by_cases e : m = h
  ·subst e; rw [ht] at hu; rw [← Option.some.inj hu]; exact hc
  ·have := rise_nth hr hu ht (by omega); omega, g.high⟩
theorem BsAt.down {ts : T} {c : Int} {i j h : Nat} {t : Int × Rat} (g : BsAt ts c i j) (hr : Rise ts) (ht : ts[h]? = some t) (hj : h < j) (hi : i ≤ h) (hc : ¬t.1 < c) : BsAt ts c i h :=
 ⟨hi, by have := g.len; omega, g.low, fun m u hu hm => by
  by_cases e : m = h
  ·subst e; rw [ht] at hu; rw [← Option.some.inj hu]; omega
  ·have := rise_nth hr ht hu (by omega); omega⟩
theorem BsAt.none {ts : T} {c : Int} {i : Nat} (g : BsAt ts c i i) (hr : Rise ts) (hn : ∀ t, ts[i]? = some t → t.1 ≠ c) : ∀ t ∈ ts, t.1 ≠ c := by
 intro t ht
 obtain ⟨m, hm⟩ := List.mem_iff_getElem?.1 ht
 by_cases h1 : m < i
 ·have := g.low m t hm h1; omega
 ·by_cases h2 : m = i
  ·subst h2; exact hn t hm
  ·have h3 : i < ts.length := by have := (List.getElem?_eq_some_iff.1 hm).1; omega
   have h4 := g.high i ts[i] (List.getElem?_eq_getElem h3) (Nat.le_refl _)
   have h5 := rise_nth hr (List.getElem?_eq_getElem h3) hm (by omega)
   omega
theorem Tryz.search (v : Value) (ts : T) (k : Nat) (c : Int) (w : World) (h : Terms w v ts k) (hr : Rise ts) (hn : ts.length ≤ 1000000) :
 Calls Tryz.prog 71 #[v, .int .i64 c, .func (.func 72) #[] #[]] w fun e w' => BsSaid ts c e ∧ Below w.heap.size w w' := by
 obtain ⟨p, cap, rfl, l1, l2⟩ := h.slice
 have H : Hid (Terms w _ ts k) := h
 have HR := Lib.hid hr
 clear h hr
 unfold maxLen at l2
 go_enter Tryz.func71, Tryz.ntmps71
 go_wp2_with fail
 go_loopw [9, 10, 11] (fun iv jv hv wr => ∃ i j : Nat, iv = .int .i64 i ∧ jv = .int .i64 j ∧ BsAt ts c i j ∧ Below w.heap.size w wr) (fun iv jv _ _ => (intOf jv).toNat - (intOf iv).toNat)
 case atStart => exact ⟨0, ts.length, rfl, rfl, ⟨Nat.zero_le _, Nat.le_refl _, fun m t _ h => by omega, fun m t ht h => by have := (List.getElem?_eq_some_iff.1 ht).1; omega⟩, Below.refl _ _⟩
 case round =>
  obtain ⟨i, j, rfl, rfl, hat, hb⟩ := hrel
  have HA := Lib.hid hat
  have HB : Hid (Below w.heap.size w wr) := hb
  have g1 := hat.le
  have g2 := hat.len
  clear hat hb
  by_cases hlt : i < j
  ·obtain ⟨m, hm⟩ : ∃ m, (i + j) / 2 = m := ⟨_, rfl⟩
   have m1 : i ≤ m := by omega
   have m2 : m < j := by omega
   obtain ⟨t, ht⟩ : ∃ t, ts[m]? = some t := ⟨_, List.getElem?_eq_getElem (by omega)⟩
   obtain ⟨g, o, cap', f, he, -, -, c0, c1, hf, hg⟩ := H.out.nth ht
   simp only [Value.slice.injEq, true_and] at he
   obtain ⟨rfl, rfl⟩ := he
   obtain ⟨fa, rfl⟩ := frac_pointer hf
   rw [← HB.out.cell hg] at c0 c1
   have HT := Lib.hid ht
   clear ht hf hg
   go_upto_region 5 with (fail)
   have hm2 : ((i : Int) + j) / 2 = (m : Int) := by omega
   rw [hm2]
   clear hm hm2
   go_wp2_with fail
   with_reducible refine (Tryz.atCmp t.1 c fa _).mono ?_
   rintro e w5 ⟨rfl, hb5⟩
   have HB5 := Lib.hid (HB.out.trans (hb5.mono HB.out.size))
   obtain ⟨x, hx⟩ : ∃ x, cmpI t.1 c = x := ⟨_, rfl⟩
   rw [hx]
   clear hb5 HB c0 c1
   by_cases hc : t.1 < c
   ·have e1 : decide (x < 0) = true := by rw [← hx, cmpI_lt hc]; rfl
    have HA2 := Lib.hid (HA.out.up HR.out HT.out m2 m1 hc)
    clear hc hx HA HT
    go_wp2
    go_roundw
    case rel => exact ⟨m + 1, j, by go_num, rfl, HA2.out, HB5.out⟩
    case measure => simp [intOf]; omega
   ·have e1 : decide (x < 0) = false := by
     rw [← hx]
     by_cases h2 : t.1 = c
     ·rw [cmpI_eq h2]; rfl
     ·rw [cmpI_gt (by omega)]; rfl
    have HA2 := Lib.hid (HA.out.down HR.out HT.out m2 m1 hc)
    clear hc hx HA HT
    go_wp2
    go_roundw
    case rel => exact ⟨i, m, rfl, rfl, HA2.out, HB5.out⟩
    case measure => simp [intOf]; omega
  ·obtain rfl : i = j := by omega
   by_cases hl : i < ts.length
   ·obtain ⟨t, ht⟩ : ∃ t, ts[i]? = some t := ⟨_, List.getElem?_eq_getElem hl⟩
    obtain ⟨g, o, cap', f, he, -, -, c0, c1, hf, hg⟩ := H.out.nth ht
    simp only [Value.slice.injEq, true_and] at he
    obtain ⟨rfl, rfl⟩ := he
    obtain ⟨fa, rfl⟩ := frac_pointer hf
    rw [← HB.out.cell hg] at c0 c1
    have HT := Lib.hid ht
    clear ht hf hg
    go_wp2_with fail
    with_reducible refine (Tryz.atCmp t.1 c fa _).mono ?_
    rintro e w5 ⟨rfl, hb5⟩
    have HB5 := Lib.hid (HB.out.trans (hb5.mono HB.out.size))
    obtain ⟨x, hx⟩ : ∃ x, cmpI t.1 c = x := ⟨_, rfl⟩
    rw [hx]
    have HS : Hid (BsSaid ts c (.returned (.tuple #[.int .i64 i, .bool (x == 0)]))) := by
     have h0 : x = 0 ↔ t.1 = c := by
      rw [← hx]
      rcases Int.lt_trichotomy t.1 c with h | h | h
      ·rw [cmpI_lt h]; omega
      ·rw [cmpI_eq h]; omega
      ·rw [cmpI_gt h]; omega
     refine ⟨i, x == 0, rfl, fun h => ⟨t, HT.out, h0.1 (by simpa using h)⟩, fun h => HA.out.none HR.out (fun u hu => ?_)⟩
     rw [HT.out] at hu
     rw [← Option.some.inj hu]
     exact fun e => by rw [h0.2 e] at h; simp at h
    clear hb5 HB c0 c1 hx HA HT
    go_wp2
    go_ret2
    exact ⟨HS.out, HB5.out⟩
   ·have HS : Hid (BsSaid ts c (.returned (.tuple #[.int .i64 i, .bool false]))) :=
     ⟨i, false, rfl, fun h => by simp at h, fun _ => HA.out.none HR.out (fun u hu => absurd (List.getElem?_eq_some_iff.1 hu).1 hl)⟩
    clear HA
    go_wp2
    go_ret2
    exact ⟨HS.out, HB.out⟩
theorem Tryz.vecAt (v : Value) (ts : T) (k : Nat) (c : Int) (w : World) (h : VecIs w v ts k) (hr : Rise ts) (hf : Full ts) (hk : 1 ≤ k) (hn : ts.length ≤ 1000000) :
 Calls Tryz.prog 23 #[v, .int .i64 c] w fun e w' => (∃ r, e = .returned r ∧ FracIs w' r (Vm.at_ ts c) k) ∧ Below w.heap.size w w' := by
 have H : Hid (VecIs w v ts k) := h
 have HR := Lib.hid hr
 have HFU := Lib.hid hf
 clear h hr hf
 go_enter Tryz.func23, Tryz.ntmps23
 go_wp2_with fail
 with_reducible refine (Tryz.list v ts k _ H.out).mono ?_
 rintro e w1 ⟨⟨s, rfl, hs⟩, rfl⟩
 have HS := Lib.hid hs
 clear hs H
 go_wp2_with fail
 with_reducible refine (Tryz.search s ts k c _ HS.out HR.out hn).mono ?_
 rintro e w2 ⟨⟨i, b, rfl, hyes, hno⟩, hb2⟩
 have HY := Lib.hid hyes
 have HN := Lib.hid hno
 have HB2 := Lib.hid hb2
 have HS2 := Lib.hid (HS.out.below hb2)
 clear hyes hno hb2 HS
 cases b
 ·have HZ : Hid (Vm.at_ ts c = 0) := Vm.at_out (HN.out rfl)
  clear HY HN HS2
  go_wp2_with fail
  with_reducible refine (Tryz.Of 0 _ (by omega) (by omega)).mono ?_
  rintro e w3 ⟨⟨r, rfl, hv⟩, hb3⟩
  have HF : Hid (FracIs w3 r (Vm.at_ ts c) k) := by
   show FracIs _ _ _ _
   rw [HZ.out]; exact hv.more hk
  have HB3 := Lib.hid (HB2.out.trans (hb3.mono HB2.out.size))
  clear hv hb3 HB2 HZ
  go_wp2
  go_ret
  exact ⟨⟨_, rfl, HF.out⟩, HB3.out⟩
 ·obtain ⟨t, ht, hc⟩ := HY.out rfl
  obtain ⟨g, o, cap', f, rfl, l1, l2, c0, c1, hf, hg⟩ := HS2.out.nth ht
  have hm := List.mem_of_getElem? ht
  have hat := Vm.at_mem HR.out hm
  rw [hc] at hat
  have hne : t.2 ≠ 0 := HFU.out t hm
  have hil := (List.getElem?_eq_some_iff.1 ht).1
  unfold maxLen at l2
  rcases hf with ⟨rfl, h0⟩ | ⟨a, rfl, hfa⟩
  ·exact absurd h0 hne
  ·obtain ⟨b, x, y, p, a0, a1, a2, a3, hcp⟩ := frac_copy hfa
   have HC : Hid (FracAt (w2.alloc (.cells #[.bool b, .int .u64 x, .int .u64 y, .pointer p] 110)) w2.heap.size (Vm.at_ ts c) k) := by
    show FracAt _ _ _ _
    rw [hat]; exact hcp
   have HB3 := Lib.hid (HB2.out.alloc HB2.out.size (.cells #[.bool b, .int .u64 x, .int .u64 y, .pointer p] 110))
   clear HY HN HS2 hm hat hne ht hc hcp hfa HB2
   go_wp2
   go_ret
   exact ⟨⟨_, rfl, .inr ⟨_, rfl, HC.out⟩⟩, HB3.out⟩
end Go.Proofs.Vt
namespace Go.Proofs.Vt
open Go.RowKit Go.Proofs.Wd Go.Proofs.Fr
open Vm (T Rise Full In)
theorem Tryz.cutText (s : ByteArray) (n : Nat) (w : World) (hmax : s.size ≤ 9223372036854775807) (hn : n ≤ 1000000) :
 Calls Tryz.prog 15 #[.string s, .int .i64 n] w fun e w' => (∃ t : ByteArray, e = .returned (.string t) ∧ t.size ≤ n) ∧ w' = w := by
 obtain ⟨m, hm⟩ : ∃ m : Nat, (min (s.size : Int) (n : Int)) = m := ⟨min s.size n, by omega⟩
 have hmb : m ≤ s.size ∧ m ≤ n := by omega
 obtain ⟨hm1, hm2⟩ := hmb
 have HC : Hid ((s.extract 0 m).size ≤ n) := Nat.le_trans (size_cut s 0 m) (by omega)
 go_enter Tryz.func15, Tryz.ntmps15
 go_wp2
 go_ret
 exact ⟨⟨_, rfl, HC.out⟩, rfl⟩
theorem text_nought : (⟨(textQ 0).toArray⟩ : ByteArray) = ⟨#[48]⟩ := by
 unfold textQ
 have hd : Lib.decDigits 0 = [48] := by simp [Lib.decDigits]
 simp [hd]
/-- What F tells: a fraction that its own text shows. -/
def FSaid (w : World) (e : Ending) : Prop := ∃ (v : Value) (q : Rat), e = .returned v ∧ FracIs w v q 120 ∧ getQ ⟨(textQ q).toArray⟩ = some q
theorem Tryz.lawF (s : ByteArray) (w : World) (hs : s.size ≤ 4294967280) :
 Calls Tryz.prog 14 #[.string s] w fun e w' => FSaid w' e ∧ Below w.heap.size w w' := by
 go_enter Tryz.func14, Tryz.ntmps14
 go_wp2_with fail
 with_reducible refine (Tryz.fracGet s _ hs).mono ?_
 rintro e w1 ⟨⟨q, v, h1, rfl, h3⟩ | ⟨h1, rfl⟩, hb⟩
 ·have HR : Hid (FSaid w1 (.returned v)) := ⟨v, q, rfl, h3, by rw [text_own h1]; exact h1⟩
  have HB := Lib.hid hb
  clear h1 h3 hb
  go_wp2
  go_ret
  exact ⟨HR.out, HB.out⟩
 ·have HB := Lib.hid hb
  clear h1 hb
  go_wp2_with fail
  with_reducible refine (Tryz.Of 0 _ (by omega) (by omega)).mono ?_
  rintro e w2 ⟨⟨v, rfl, hv⟩, hb2⟩
  have HR : Hid (FSaid w2 (.returned v)) := ⟨v, 0, rfl, hv.more (by omega), by rw [text_nought]; exact getQ_nought⟩
  have HB2 := Lib.hid (HB.out.trans (hb2.mono HB.out.size))
  clear hv hb2 HB
  go_wp2
  go_ret
  exact ⟨HR.out, HB2.out⟩
theorem coefOk_up {a b : Int} {cs : C} (h : CoefOk a cs) (hab : a ≤ b) : CoefOk b cs := ⟨h.1, fun c hc => by have := h.2 c hc; exact ⟨this.1, by omega, this.2.2⟩⟩
theorem keep_short (ts : T) : (Vm.keep ts).length ≤ ts.length := List.length_filter_le _ _
/-- A vector as New makes it of what coefs tells. -/
structure Vec10 (ts : T) : Prop where
 rise : Rise ts
 full : Full ts
 inn : In 1000 ts
 len : ts.length ≤ 10
theorem vec10 {cs : C} (h : CoefOk 30 cs) (hn : cs.length ≤ 10) : Vec10 (Vm.keep (termsOf cs)) :=
 ⟨Vm.rise_keep (termsOf_rise h), Vm.full_keep _, fun t ht => by
  have := termsOf_in (n := 30) h t (Vm.mem_keep ht)
  omega, by have := keep_short (termsOf cs); rw [termsOf_len] at this; omega⟩
/-- v and k times w, as Add tells it. -/
def addQ (q : Rat) (l r : T) : T := if q = 0 then l else Vm.add q l r
theorem addQ_facts (q : Rat) {l r : T} (hl : Vec10 l) (hr : Vec10 r) : Rise (addQ q l r) ∧ In 1000 (addQ q l r) ∧ (addQ q l r).length ≤ l.length + r.length ∧ (addQ q l r).length ≤ 20 := by
 have h1 := hl.len
 have h2 := hr.len
 unfold addQ
 split
 ·exact ⟨hl.rise, hl.inn, by omega, by omega⟩
 ·have := Vm.len_add q l r
  exact ⟨Vm.rise_add _ _ _ hl.rise hr.rise, Vm.in_add _ _ _ hl.inn hr.inn, this, by omega⟩
end Go.Proofs.Vt
namespace Go.Proofs.Vt
open Go.RowKit Go.Proofs.Wd Go.Proofs.Fr
open Vm (T Rise Full In)
theorem at_first {cs : C} {k : Nat} {c : Int × ByteArray} {q : Rat} {i : Int} (hk : cs[k]? = some c) (hq : getQ c.2 = some q) (hc : c.1 = i) (h : Rise (termsOf cs)) : Vm.at_ (termsOf cs) i = q := by
 have h1 := termsOf_get hk hq
 have := Vm.at_mem h (List.mem_of_getElem? h1)
 rw [← hc]; exact this
theorem at_none {cs : C} {i : Int} (h : ∀ c ∈ cs, c.1 ≠ i) : Vm.at_ (termsOf cs) i = 0 := by
 refine Vm.at_out fun t ht => ?_
 obtain ⟨c, hc, rfl⟩ := List.mem_map.1 ht
 exact h c hc
theorem q_put {w : World} {v x y u a b c : Value} {q : Rat} {n B : Nat} (h : QIs w v q n) (hc : CellsAt w B #[a, b, c] 35) : QIs (((w.setCell ⟨B, 0, none⟩ x).setCell ⟨B, 1, none⟩ y).setCell ⟨B, 2, none⟩ u) v q n := by
 obtain ⟨neg, N, D, z, d, h1, h2, h3, h4⟩ := h
 exact ⟨neg, N, D, z, d, h1, h2.put3 hc (by decide), h3.put3 hc (by decide), h4⟩
theorem Tryz.lawAt (L : Nat) (v : Value) (cs : C) (m i : Int) (w : World) (h : ReadsC w L v cs) (hok : CoefOk m cs) (hn : cs.length ≤ 10000) :
 Calls Tryz.prog 20 #[v, .int .i64 i] w fun e w' => (∃ r, e = .returned r ∧ QIs w' r (Vm.at_ (termsOf cs) i) 500) ∧ Below w.heap.size w w' := by
 obtain ⟨p, cap, rfl, l1, l2⟩ := h.slice
 unfold maxLen at l2
 have HOK := Lib.hid hok
 have hb1 : Below w.heap.size w (w.alloc (.cells #[.bool false, .slice none 0 0, .slice none 0 0] 35)) := (Below.refl _ _).alloc (Nat.le_refl _) _
 have H := Lib.hid (h.below hb1)
 have HB := Lib.hid hb1
 have HR : Hid (CellsAt (w.alloc (.cells #[.bool false, .slice none 0 0, .slice none 0 0] 35)) w.heap.size #[.bool false, .slice none 0 0, .slice none 0 0] 35) := CellsAt.new _ _ _ rfl
 clear h hok hb1
 go_enter Tryz.func20, Tryz.ntmps20
 go_wp2_with fail
 generalize (w.alloc (.cells #[.bool false, .slice none 0 0, .slice none 0 0] 35)) = w1 at *
 go_loop [5] (fun kv => ∃ k : Nat, kv = .int .i64 k ∧ k ≤ cs.length ∧ ∀ c ∈ cs.take k, c.1 ≠ i) (fun kv => cs.length - (intOf kv).toNat)
 case atStart => exact ⟨0, rfl, Nat.zero_le _, fun c hc => by simp at hc⟩
 case round =>
  obtain ⟨k, rfl, hk, hno⟩ := hrel
  have HNO := Lib.hid hno
  clear hno
  by_cases hlt : k < cs.length
  ·obtain ⟨c, hc⟩ : ∃ c, cs[k]? = some c := ⟨_, List.getElem?_eq_getElem hlt⟩
   obtain ⟨g, o, cap', he, -, -, d0, d1, hg⟩ := H.out.nth hc
   simp only [Value.slice.injEq, true_and] at he
   obtain ⟨rfl, rfl⟩ := he
   have HC := Lib.hid hc
   clear hc hg
   by_cases hci : c.1 = i
   ·have e1 : (c.1 == i) = true := by simpa using hci
    obtain ⟨q, hq⟩ := (HOK.out.2 c (List.mem_of_getElem? HC.out)).2.2
    have HAT := Lib.hid (at_first HC.out hq hci (termsOf_rise HOK.out))
    have HGQ := Lib.hid hq
    have hsz := getQ_size hq
    clear hq hci HNO
    go_wp2_with fail
    with_reducible refine (Tryz.rGetA c.2 _ (by omega)).mono ?_
    rintro e w3 ⟨hget, hb3⟩
    obtain ⟨neg, p2, n2, c2, p3, n3, c3, bok, rfl, -, hq3⟩ := hget.parts
    have hb4 : Below w3.heap.size w3 (w3.alloc (.cells #[.bool neg, .slice p2 n2 c2, .slice p3 n3 c3] 35)) := (Below.refl _ _).alloc (Nat.le_refl _) _
    have HQ4 : Hid (QIs (w3.alloc (.cells #[.bool neg, .slice p2 n2 c2, .slice p3 n3 c3] 35)) (.agg #[.bool neg, .slice p2 n2 c2, .slice p3 n3 c3]) (Vm.at_ (termsOf cs) i) 500) := by
     show QIs _ _ _ _
     rw [HAT.out]; exact (hq3 q HGQ.out).below hb4
    have HR4 := Lib.hid ((HR.out.below hb3).below hb4)
    have HB4 := Lib.hid ((HB.out.trans (hb3.mono HB.out.size)).trans (hb4.mono (HB.out.trans (hb3.mono HB.out.size)).size))
    clear hget hq3 hb3 hb4 HR HB H d0 d1
    have HF := Lib.hid (rDone HR4.out HB4.out neg (.slice p2 n2 c2) (.slice p3 n3 c3))
    have HQF := Lib.hid (q_put (x := .bool neg) (y := .slice p2 n2 c2) (u := .slice p3 n3 c3) HQ4.out HR4.out)
    have r0 := HR4.out.cell 0
    have f0 := HR4.out.free 0
    have r1 := HR4.out.cell 1
    have f1 := HR4.out.free 1
    have r2 := HR4.out.cell 2
    have f2 := HR4.out.free 2
    simp only [List.getElem?_toArray, List.getElem?_cons_zero, List.getElem?_cons_succ] at r0 r1 r2
    go_wp2
    generalize ((((w3.alloc (.cells #[.bool neg, .slice p2 n2 c2, .slice p3 n3 c3] 35)).setCell ⟨w.heap.size, 0, none⟩ (.bool neg)).setCell ⟨w.heap.size, 1, none⟩ (.slice p2 n2 c2)).setCell ⟨w.heap.size, 2, none⟩ (.slice p3 n3 c3)) = wz at *
    obtain ⟨g1, g2⟩ := HF.out
    have z0 := g1.cell 0
    have z1 := g1.cell 1
    have z2 := g1.cell 2
    simp only [List.getElem?_toArray, List.getElem?_cons_zero, List.getElem?_cons_succ] at z0 z1 z2
    (try simp only [Exit.inBlock, Exit.then])
    refine bodyPost_ret (v := .agg #[.bool neg, .slice p2 n2 c2, .slice p3 n3 c3]) (by simp [results, Tryz.results20, go_sem, z0, z1, z2]; try rfl) rfl ⟨⟨_, rfl, HQF.out⟩, g2⟩
   ·have e1 : (c.1 == i) = false := by simpa using hci
    have HR2 : Hid (∀ e ∈ cs.take (k + 1), e.1 ≠ i) := fun e he => by
     have hC := HC.out
     rw [List.getElem?_eq_getElem hlt] at hC
     rw [List.take_succ_eq_append_getElem hlt, Option.some.inj hC] at he
     rcases List.mem_append.1 he with he | he
     ·exact HNO.out e he
     ·rw [List.mem_singleton.1 he]; exact hci
    clear hci HNO HC
    go_wp2
    go_round
    case rel => exact ⟨k + 1, by go_num, by omega, HR2.out⟩
    case measure => simp [intOf]; omega
  ·have HAT : Hid (Vm.at_ (termsOf cs) i = 0) := at_none fun c hc => HNO.out c (by rw [List.take_of_length_le (by omega)]; exact hc)
   clear HNO
   go_wp2_with fail
   with_reducible refine (Tryz.rZero _).mono ?_
   rintro e w3 ⟨⟨r, rfl, hr⟩, hb3⟩
   obtain ⟨neg, p2, n2, c2, p3, n3, c3, rfl⟩ := QIs.agg hr
   have HQ3 : Hid (QIs w3 (.agg #[.bool neg, .slice p2 n2 c2, .slice p3 n3 c3]) (Vm.at_ (termsOf cs) i) 500) := by
    show QIs _ _ _ _
    rw [HAT.out]; exact QIs.more hr (show 1 ≤ 500 by omega)
   have HR3 := Lib.hid (HR.out.below hb3)
   have HB3 := Lib.hid (HB.out.trans (hb3.mono HB.out.size))
   clear hr hb3 HR HB H
   have HF := Lib.hid (rDone HR3.out HB3.out neg (.slice p2 n2 c2) (.slice p3 n3 c3))
   have HQF := Lib.hid (q_put (x := .bool neg) (y := .slice p2 n2 c2) (u := .slice p3 n3 c3) HQ3.out HR3.out)
   have r0 := HR3.out.cell 0
   have f0 := HR3.out.free 0
   have r1 := HR3.out.cell 1
   have f1 := HR3.out.free 1
   have r2 := HR3.out.cell 2
   have f2 := HR3.out.free 2
   simp only [List.getElem?_toArray, List.getElem?_cons_zero, List.getElem?_cons_succ] at r0 r1 r2
   go_wp2
   generalize (((w3.setCell ⟨w.heap.size, 0, none⟩ (.bool neg)).setCell ⟨w.heap.size, 1, none⟩ (.slice p2 n2 c2)).setCell ⟨w.heap.size, 2, none⟩ (.slice p3 n3 c3)) = wz at *
   obtain ⟨g1, g2⟩ := HF.out
   have z0 := g1.cell 0
   have z1 := g1.cell 1
   have z2 := g1.cell 2
   simp only [List.getElem?_toArray, List.getElem?_cons_zero, List.getElem?_cons_succ] at z0 z1 z2
   (try simp only [Exit.inBlock, Exit.then])
   refine bodyPost_ret (v := .agg #[.bool neg, .slice p2 n2 c2, .slice p3 n3 c3]) (by simp [results, Tryz.results20, go_sem, z0, z1, z2]; try rfl) rfl ⟨⟨_, rfl, HQF.out⟩, g2⟩
end Go.Proofs.Vt
