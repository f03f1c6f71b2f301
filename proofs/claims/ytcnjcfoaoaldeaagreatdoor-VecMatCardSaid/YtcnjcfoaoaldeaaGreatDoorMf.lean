/- What IndexFunc and DeleteFunc at terms return. What DeleteFunc at terms returns: those that are not 0. What DeleteFunc at terms returns: the walk. What New of the package vec returns. What Coefs of the package vec returns. VecLaws: products of vectors go with sums; a vector less itself is nothing: the call returns true. What F and Text of the law file return. VecMat: a matrix by a vector is its rows by it, one by one: the call returns true. -/
import Derived.Test.YtcnjcfoaoaldeaaGreatDoorFg
import Derived.Laws.MakeOwn
import Derived.Test.YtcnjcfoaoaldeaaGreatDoorVs
import Derived.Test.YtcnjcfoaoaldeaaGreatDoorRn
import Derived.Test.YtcnjcfoaoaldeaaGreatDoorMd
set_option linter.unusedVariables false
set_option maxHeartbeats 32000000
set_option maxRecDepth 100000
namespace Go.Proofs.Vt
open Go.RowKit Go.Proofs.Wd Go.Proofs.Fr
open Vm (T Rise In)
/-- What IndexFunc tells: the first one that is 0. -/
def IdxSaid (ts : T) (e : Ending) : Prop :=
 (e = .returned (.int .i64 (-1)) ∧ ∀ t ∈ ts, t.2 ≠ 0) ∨ ∃ (i : Nat) (t : Int × Rat), e = .returned (.int .i64 i) ∧ ts[i]? = some t ∧ t.2 = 0 ∧ ∀ u ∈ ts.take i, u.2 ≠ 0
theorem Tryz.indexT (v : Value) (ts : T) (k : Nat) (w : World) (h : Terms w v ts k) :
 Calls Tryz.prog 118 #[v, .func (.func 58) #[] #[]] w fun e w' => IdxSaid ts e ∧ Below w.heap.size w w' := by
 obtain ⟨p, cap, rfl, l1, l2⟩ := h.slice
 have H : Hid (Terms w _ ts k) := h
 clear h
 unfold maxLen at l2
 go_enter Tryz.func118, Tryz.ntmps118
 go_wp2_with fail
 go_loopw [8] (fun iv wr => ∃ i : Nat, i ≤ ts.length ∧ iv = .int .i64 i ∧ (∀ u ∈ ts.take i, u.2 ≠ 0) ∧ Below w.heap.size w wr) (fun iv _ => ts.length - (intOf iv).toNat)
 case atStart => exact ⟨0, Nat.zero_le _, rfl, fun u hu => by simp at hu, Below.refl _ _⟩
 case round =>
  obtain ⟨i, hi, rfl, hz, hb⟩ := hrel
  have HB : Hid (Below w.heap.size w wr) := hb
  have HZ := Lib.hid hz
  clear hb hz
  by_cases hlt : i < ts.length
  ·obtain ⟨t, ht⟩ : ∃ t, ts[i]? = some t := ⟨_, List.getElem?_eq_getElem hlt⟩
   obtain ⟨g, o, cap', f, he, -, -, c0, c1, hf, hg⟩ := H.out.nth ht
   simp only [Value.slice.injEq, true_and] at he
   obtain ⟨rfl, rfl⟩ := he
   obtain ⟨fa, rfl⟩ := frac_pointer hf
   rw [← HB.out.cell hg] at c0 c1
   have HF := Lib.hid (hf.below HB.out)
   have HT := Lib.hid ht
   clear ht hf hg
   go_wp2_with fail
   with_reducible refine (Tryz.none_ t.1 (.pointer fa) t.2 k _ HF.out).mono ?_
   rintro e w5 ⟨rfl, hb5⟩
   have HB5 := Lib.hid (HB.out.trans (hb5.mono HB.out.size))
   clear hb5 HB c0 c1 HF
   by_cases h0 : t.2 = 0
   ·have e1 : decide (t.2 = 0) = true := by simpa using h0
    have HR : Hid (IdxSaid ts (.returned (.int .i64 i))) := .inr ⟨i, t, rfl, HT.out, h0, HZ.out⟩
    have H0 := Lib.hid h0
    clear h0 HT HZ
    go_wp2
    go_ret
    exact ⟨HR.out, HB5.out⟩
   ·have e1 : decide (t.2 = 0) = false := by simpa using h0
    have HR : Hid (∀ u ∈ ts.take (i + 1), u.2 ≠ 0) := fun u hu => by
     have hT := HT.out
     rw [List.getElem?_eq_getElem hlt] at hT
     rw [List.take_succ_eq_append_getElem hlt, Option.some.inj hT] at hu
     rcases List.mem_append.1 hu with hu | hu
     ·exact HZ.out u hu
     ·rw [List.mem_singleton.1 hu]; exact h0
    have H0 := Lib.hid h0
    clear h0 HT HZ
    go_wp2
    go_roundw
    case rel => exact ⟨i + 1, by omega, by go_num, HR.out, HB5.out⟩
    case measure => simp [intOf]; omega
  ·have e1 : decide (i < ts.length) = false := by simpa using hlt
   have HR : Hid (IdxSaid ts (.returned (.int .i64 (-1)))) := .inl ⟨rfl, fun t ht => HZ.out t (by rw [List.take_of_length_le (by omega)]; exact ht)⟩
   clear HZ
   go_wp2
   go_ret
   exact ⟨HR.out, HB.out⟩
end Go.Proofs.Vt
namespace Go.Proofs.Vt
open Go.RowKit Go.Proofs.Wd Go.Proofs.Fr
open Vm (T Rise In)
theorem grownBy_trans {a b c : World} {row : Option Nat} (h : a.grownBy b row) (k : b.grownBy c row) : a.grownBy c row :=
 ⟨k.os.trans h.os, k.tape.trans h.tape, k.output.trans h.output, Nat.le_trans h.size k.size, fun x hx hr => (k.block x (Nat.lt_of_lt_of_le hx h.size) hr).trans (h.block x hx hr)⟩
theorem grownBy_below {w w' : World} (h : Below w.heap.size w w') (row : Option Nat) : w.grownBy w' row :=
 ⟨h.os, h.tape, h.output, h.size, fun x hx _ => h.block x hx⟩
theorem grownBy_set (w : World) (g j : Nat) (v : Value) : w.grownBy (w.setCell ⟨g, j, none⟩ v) (some g) :=
 ⟨rfl, rfl, rfl, by simp, fun x hx hr => Below.heap_setCell w _ v x (fun e => hr (by rw [e]))⟩
/-- What a term's cells hold in a block. -/
def TermAt (w : World) (cur : Array Value) (x : Nat) (t : Int × Rat) (k : Nat) : Prop := ∃ f, cur[x * 2]? = some (.int .i64 t.1) ∧ cur[x * 2 + 1]? = some f ∧ FracIs w f t.2 k
/-- What DeleteFunc's loop keeps to. -/
structure DelAt (w0 : World) (g : Nat) (ts : T) (k j i : Nat) (wr : World) (cur : Array Value) : Prop where
 cells : CellsAt wr g cur 87
 size : ts.length * 2 ≤ cur.size
 head : ∃ z, cur[0]? = some (.int .i64 z)
 count : i = (Vm.keep (ts.take j)).length
 less : i < j
 done : ∀ x t, (Vm.keep (ts.take j))[x]? = some t → TermAt wr cur x t k
 left : ∀ x t, j ≤ x → ts[x]? = some t → TermAt wr cur x t k
 grown : w0.grownBy wr (some g)
theorem DelAt.below {w0 wr w' : World} {g k j i : Nat} {ts : T} {cur : Array Value} (h : DelAt w0 g ts k j i wr cur) (hb : Below wr.heap.size wr w') : DelAt w0 g ts k j i w' cur := by
 obtain ⟨h1, h2, h3, h4, h5, h6, h7, h8⟩ := h
 exact ⟨h1.below hb, h2, h3, h4, h5, fun x t ht => by obtain ⟨f, a, b, c⟩ := h6 x t ht; exact ⟨f, a, b, c.below hb⟩, fun x t hx ht => by obtain ⟨f, a, b, c⟩ := h7 x t hx ht; exact ⟨f, a, b, c.below hb⟩, grownBy_trans h8 (grownBy_below hb _)⟩
theorem keep_take {ts : T} {j : Nat} {t : Int × Rat} (ht : ts[j]? = some t) : Vm.keep (ts.take (j + 1)) = Vm.keep (ts.take j) ++ (if t.2 = 0 then [] else [t]) := by
 have hlt : j < ts.length := (List.getElem?_eq_some_iff.1 ht).1
 rw [List.take_succ_eq_append_getElem hlt]
 rw [List.getElem?_eq_getElem hlt] at ht
 rw [Option.some.inj ht]
 unfold Vm.keep
 rw [List.filter_append, List.filter_cons]
 by_cases h : t.2 = 0
 ·rw [if_neg (by simp [h]), if_pos h]; simp
 ·rw [if_pos (by simp [h]), if_neg h]; simp
theorem DelAt.skip {w0 wr : World} {g k j i : Nat} {ts : T} {cur : Array Value} {t : Int × Rat} (h : DelAt w0 g ts k j i wr cur) (ht : ts[j]? = some t) (h0 : t.2 = 0) : DelAt w0 g ts k (j + 1) i wr cur := by
 obtain ⟨h1, h2, h3, h4, h5, h6, h7, h8⟩ := h
 have e := keep_take ht
 rw [if_pos h0, List.append_nil] at e
 exact ⟨h1, h2, h3, by rw [e]; exact h4, by omega, by rw [e]; exact h6, fun x t hx ht => h7 x t (by omega) ht, h8⟩
theorem get_set {cur : Array Value} {a x : Nat} {u : Value} (h : a ≠ x) : (cur.setIfInBounds a u)[x]? = cur[x]? := by
 rw [Array.getElem?_setIfInBounds, if_neg h]
theorem get_set' {cur : Array Value} {a : Nat} {u : Value} (h : a < cur.size) : (cur.setIfInBounds a u)[a]? = some u := by
 rw [Array.getElem?_setIfInBounds, if_pos rfl, if_pos h]
/-- Writing a term into a block of terms: fractions stay. -/
theorem put_frac {w : World} {g i : Nat} {cur : Array Value} {z y : Int} {f v : Value} {q : Rat} {k : Nat} (hc : CellsAt w g cur 87) (h0 : cur[0]? = some (.int .i64 z)) (h : FracIs w v q k) :
 FracIs ((w.setCell ⟨g, i * 2, none⟩ (.int .i64 y)).setCell ⟨g, i * 2 + 1, none⟩ f) v q k := by
 have h1 := frac_store h hc h0 (by decide) (i * 2) (.int .i64 y)
 have hc1 := hc.set (i * 2) (.int .i64 y)
 have hh : ∃ z', (cur.setIfInBounds (i * 2) (.int .i64 y))[0]? = some (.int .i64 z') := by
  by_cases hi : i = 0
  ·subst hi
   exact ⟨y, get_set' (by have := (Array.getElem?_eq_some_iff.1 h0).1; omega)⟩
  ·exact ⟨z, by rw [get_set (by omega)]; exact h0⟩
 obtain ⟨z', hz⟩ := hh
 exact frac_store h1 hc1 hz (by decide) (i * 2 + 1) f
theorem DelAt.put {w0 wr : World} {g k j i : Nat} {ts : T} {cur : Array Value} {t : Int × Rat} {f : Value} (h : DelAt w0 g ts k j i wr cur) (ht : ts[j]? = some t) (h0 : t.2 ≠ 0) (hf : FracIs wr f t.2 k) :
 DelAt w0 g ts k (j + 1) (i + 1) ((wr.setCell ⟨g, i * 2, none⟩ (.int .i64 t.1)).setCell ⟨g, i * 2 + 1, none⟩ f) ((cur.setIfInBounds (i * 2) (.int .i64 t.1)).setIfInBounds (i * 2 + 1) f) := by
 obtain ⟨h1, h2, ⟨z, h3⟩, h4, h5, h6, h7, h8⟩ := h
 have hlt : j < ts.length := (List.getElem?_eq_some_iff.1 ht).1
 have e := keep_take ht
 rw [if_neg h0] at e
 have sz : i * 2 + 1 < cur.size := by omega
 have get : ∀ x, x ≠ i → ((cur.setIfInBounds (i * 2) (.int .i64 t.1)).setIfInBounds (i * 2 + 1) f)[x * 2]? = cur[x * 2]? ∧ ((cur.setIfInBounds (i * 2) (.int .i64 t.1)).setIfInBounds (i * 2 + 1) f)[x * 2 + 1]? = cur[x * 2 + 1]? := fun x hx => by
  rw [get_set (by omega), get_set (by omega), get_set (by omega), get_set (by omega)]
  exact ⟨rfl, rfl⟩
 have keepT : ∀ x u, x ≠ i → TermAt wr cur x u k → TermAt ((wr.setCell ⟨g, i * 2, none⟩ (.int .i64 t.1)).setCell ⟨g, i * 2 + 1, none⟩ f) ((cur.setIfInBounds (i * 2) (.int .i64 t.1)).setIfInBounds (i * 2 + 1) f) x u k := by
  rintro x u hx ⟨f', a, b, c⟩
  exact ⟨f', by rw [(get x hx).1]; exact a, by rw [(get x hx).2]; exact b, put_frac h1 h3 c⟩
 refine ⟨(h1.set (i * 2) _).set (i * 2 + 1) _, by simpa using h2, ?_, by rw [e, List.length_append, ← h4]; rfl, by omega, fun x u hu => ?_, fun x u hx hu => keepT x u (by omega) (h7 x u (by omega) hu), grownBy_trans (grownBy_trans h8 (grownBy_set _ _ _ _)) (grownBy_set _ _ _ _)⟩
 ·by_cases hi : i = 0
  ·subst hi
   exact ⟨t.1, by rw [get_set (by omega)]; exact get_set' (by omega)⟩
  ·exact ⟨z, by rw [get_set (by omega), get_set (by omega)]; exact h3⟩
 ·rw [e] at hu
  by_cases hx : x < i
  ·rw [List.getElem?_append_left (by omega)] at hu
   exact keepT x u (by omega) (h6 x u hu)
  ·rw [List.getElem?_append_right (by omega), ← h4] at hu
   obtain rfl : x = i := by
    have := (List.getElem?_eq_some_iff.1 hu).1
    simp at this; omega
   rw [Nat.sub_self] at hu
   obtain rfl : t = u := by simpa using hu
   exact ⟨f, by rw [get_set (by omega)]; exact get_set' (by omega), get_set' (by simp; omega), put_frac h1 h3 hf⟩
theorem keep_full {ts : T} (h : ∀ t ∈ ts, t.2 ≠ 0) : Vm.keep ts = ts := by
 unfold Vm.keep
 rw [List.filter_eq_self]
 intro t ht
 simpa using h t ht
/-- Where the loop begins. -/
theorem DelAt.start {B : Nat} {w w' : World} {g i k cap : Nat} {ts : T} {t : Int × Rat} (h : OwnT B w (.slice (some ⟨g, 0, none⟩) ts.length cap) ts k) (hb : Below w.heap.size w w') (ht : ts[i]? = some t) (h0 : t.2 = 0) (hn : ∀ u ∈ ts.take i, u.2 ≠ 0) :
 ∃ cur, DelAt w g ts k (i + 1) i w' cur := by
 have hlt : i < ts.length := (List.getElem?_eq_some_iff.1 ht).1
 have hT := h.terms.below hb
 obtain ⟨p', cap', e, -, -, hT⟩ := hT
 rcases hT with rfl | ⟨g', o', cur, rfl, hc, hx⟩
 ·simp at ht
 ·simp only [Value.slice.injEq, Option.some.injEq, Addr.mk.injEq, and_true, true_and] at e
  obtain ⟨⟨rfl, rfl⟩, rfl⟩ := e
  have hx' : ∀ x t, ts[x]? = some t → TermAt w' cur x t k := fun x t ht => by
   obtain ⟨f, a, b, c⟩ := hx x t ht
   rw [Nat.zero_add] at a b
   exact ⟨f, a, b, c⟩
  have hk : Vm.keep (ts.take (i + 1)) = ts.take i := by
   rw [keep_take ht, if_pos h0, List.append_nil, keep_full hn]
  refine ⟨cur, hc, ?_, ?_, by rw [hk, List.length_take]; omega, by omega, ?_, fun x t _ ht => hx' x t ht, grownBy_below hb _⟩
  ·obtain ⟨t2, ht2⟩ : ∃ t, ts[ts.length - 1]? = some t := ⟨_, List.getElem?_eq_getElem (by omega)⟩
   obtain ⟨f, -, b, -⟩ := hx' _ _ ht2
   have := (Array.getElem?_eq_some_iff.1 b).1
   omega
  ·obtain ⟨t2, ht2⟩ : ∃ t, ts[0]? = some t := ⟨_, List.getElem?_eq_getElem (by omega)⟩
   obtain ⟨f, a, -, -⟩ := hx' _ _ ht2
   rw [Nat.zero_mul] at a
   exact ⟨_, a⟩
  ·intro x u hu
   rw [hk, List.getElem?_take] at hu
   split at hu
   ·exact hx' x u hu
   ·simp at hu
/-- What clear does to the rest of a block of terms. -/
theorem Tryz.clearT (ty : TypeId) {w : World} {g o m cap : Nat} {cur : Array Value} (hc : CellsAt w g cur 87) (hm : o + m * 2 ≤ cur.size) (h0 : 0 < m) :
 ∃ w' cur', (Builtin.clear_ #[85] ty #[.slice (some ⟨g, o, none⟩) m cap]).run Tryz.prog w = .ok (.tuple #[]) w' ∧ CellsAt w' g cur' 87 ∧ (∀ x, x < o → cur'[x]? = cur[x]?) ∧ w.grownBy w' (some g) := by
 obtain ⟨i0, hi, hz0, hz1, hz2⟩ := info_parts Tryz.infoTerm
 obtain ⟨m, rfl⟩ : ∃ n, m = n + 1 := ⟨m - 1, by omega⟩
 have hl : (Builtin.zeroCells #[.int .i64 0, .pointer none] (m + 1)).toList.length = (m + 1) * 2 := by
  rw [Array.length_toList, size_zeroCells]; rfl
 have h1 : ∀ v ∈ (Builtin.zeroCells #[.int .i64 0, .pointer none] (m + 1)).toList, v.oneCell' = true := by
  intro v hv
  unfold Builtin.zeroCells at hv
  simp only [Array.toList_map, List.mem_map] at hv
  obtain ⟨x, -, rfl⟩ := hv
  show (#[Value.int .i64 0, .pointer none][x % 2]!).oneCell' = true
  rcases Nat.mod_two_eq_zero_or_one x with e | e <;> rw [e] <;> rfl
 obtain ⟨zs, hzs⟩ : ∃ zs, (Builtin.zeroCells #[.int .i64 0, .pointer none] (m + 1)).toList = zs := ⟨_, rfl⟩
 rw [hzs] at hl h1
 have hst := run_storeCells_at (P := Tryz.prog) g o 87 zs 0 cur w hc (by rw [hl]; omega) h1
 refine ⟨_, (cur.toList.take (o + 0) ++ zs ++ cur.toList.drop (o + 0 + zs.length)).toArray, ?_, setRow_heap w g cur _ _ _ hc, fun x hx => ?_, ⟨rfl, rfl, rfl, by simp, fun x hx hr => setRow_other w g x _ (fun e => hr (by rw [e]))⟩⟩
 ·simp [Builtin.clear_, run_underlying Tryz.underlying85, zeroValue, typeInfo, hi, hz0, Value.cells, hzs, hst]
 ·rw [List.getElem?_toArray, List.append_assoc, List.getElem?_append_left (by rw [List.length_take, Array.length_toList]; omega), List.getElem?_take_of_lt (by omega), Array.getElem?_toList]
end Go.Proofs.Vt
namespace Go.Proofs.Vt
open Go.RowKit Go.Proofs.Wd Go.Proofs.Fr
open Vm (T Rise In)
theorem Tryz.termsTo (p : Option Addr) (n cap k : Nat) (hk : k ≤ n) (hn : n ≤ cap) (w : World) : (Instr.slice 85 (.slice p n cap) none (some (.int .i64 k)) none).run Tryz.prog w = .ok (sliced p 0 k cap 2) w := by
 have h := run_slice_h (P := Tryz.prog) (w := w) 85 p n cap (by simp [Program.elem, Tryz.underlying85]) .i64 k (by omega) (by omega)
 rw [h, show Tryz.prog.elem 85 = 87 by simp [Program.elem, Tryz.underlying85], Tryz.sizeOf87]
 rfl
theorem Tryz.termsFrom (p : Option Addr) (n cap k : Nat) (hk : k ≤ n) (hn : n ≤ cap) (hc : cap ≤ 9223372036854775807) (w : World) : (Instr.slice 85 (.slice p n cap) (some (.int .i64 k)) none none).run Tryz.prog w = .ok (sliced p k n cap 2) w := by
 have h := run_slice_l (P := Tryz.prog) (w := w) 85 p n cap (by simp [Program.elem, Tryz.underlying85]) .i64 k (by omega) (by omega)
 rw [h, show Tryz.prog.elem 85 = 87 by simp [Program.elem, Tryz.underlying85], Tryz.sizeOf87]
 rfl
theorem Tryz.deleteT (B : Nat) (v : Value) (ts : T) (k : Nat) (w : World) (h : OwnT B w v ts k) (hB : B ≤ w.heap.size) (hn : ts.length ≤ 1000) :
 Calls Tryz.prog 57 #[v, .func (.func 58) #[] #[]] w fun e w' => (∃ s, e = .returned s ∧ Terms w' s (Vm.keep ts) k) ∧ Below B w w' := by
 obtain ⟨p, cap, rfl, l1, l2⟩ := h.terms.slice
 have H : Hid (OwnT B w _ ts k) := h
 clear h
 unfold maxLen at l2
 go_enter Tryz.func57, Tryz.ntmps57
 go_wp2_with fail
 with_reducible refine (Tryz.indexT _ ts k _ H.out.terms).mono ?_
 rintro e w1 ⟨hsaid, hb1⟩
 rcases hsaid with ⟨rfl, hall⟩ | ⟨i0, t0, rfl, ht0, hz0, hn0⟩
 ·have HR : Hid (Terms w1 (.slice p ts.length cap) (Vm.keep ts) k) := by rw [keep_full hall]; exact H.out.terms.below hb1
  have HB1 : Hid (Below B w w1) := hb1.mono hB
  clear hall hb1 H
  go_wp2
  go_ret
  exact ⟨⟨_, rfl, HR.out⟩, HB1.out⟩
 ·have hi0 : i0 < ts.length := (List.getElem?_eq_some_iff.1 ht0).1
  obtain ⟨g, o, cap', f, he, -, -, -, -, -, hg⟩ := H.out.terms.nth ht0
  simp only [Value.slice.injEq, true_and] at he
  obtain ⟨rfl, rfl⟩ := he
  have ho : o = 0 := by
   obtain ⟨ps, -, h2, -⟩ := H.out
   rcases h2.2 with ⟨e, -⟩ | ⟨g', cap', cur, e, -⟩
   ·simp at e
   ·simp only [Value.slice.injEq, Option.some.injEq, Addr.mk.injEq] at e
    exact e.1.2.1
  subst ho
  have hgB : B ≤ g := H.out.ge g rfl
  obtain ⟨cur, hD⟩ := DelAt.start H.out hb1 ht0 hz0 hn0
  have HD : Hid (DelAt w g ts k (i0 + 1) i0 w1 cur) := hD
  have e0 : ((i0 : Int) == -1) = false := by simp
  clear ht0 hz0 hn0 hD hb1 hg
  go_wp2_with fail
  go_loopw [5, 6] (fun iv jv wr => ∃ (i j : Nat) (cur : Array Value), iv = .int .i64 i ∧ jv = .int .i64 j ∧ j ≤ ts.length ∧ DelAt w g ts k j i wr cur) (fun _ jv _ => ts.length - (intOf jv).toNat)
  case atStart => exact ⟨i0, i0 + 1, cur, rfl, by go_num, by omega, HD.out⟩
  case round =>
   obtain ⟨i, j, cur, rfl, rfl, hj, hD⟩ := hrel
   by_cases hlt : j < ts.length
   ·obtain ⟨t, ht⟩ : ∃ t, ts[j]? = some t := ⟨_, List.getElem?_eq_getElem hlt⟩
    obtain ⟨f, c0, c1, hf⟩ := hD.left j t (Nat.le_refl _) ht
    obtain ⟨fa, rfl⟩ := frac_pointer hf
    rw [← hD.cells.cell] at c0 c1
    have hij := hD.less
    have HT := Lib.hid ht
    have hs1 : Below wr.heap.size wr (wr.alloc (.cells #[.int .i64 t.1, .pointer fa] 87)) := (Below.refl _ _).alloc (Nat.le_refl _) _
    have HD2 : Hid (DelAt w g ts k j i (wr.alloc (.cells #[.int .i64 t.1, .pointer fa] 87)) cur) := hD.below hs1
    have HF2 := Lib.hid (hf.below hs1)
    have HC2 : Hid (CellsAt (wr.alloc (.cells #[.int .i64 t.1, .pointer fa] 87)) wr.heap.size #[.int .i64 t.1, .pointer fa] 87) := CellsAt.new _ _ _ rfl
    clear ht hD hf hs1
    go_wp2_with fail
    generalize wr.alloc (.cells #[.int .i64 t.1, .pointer fa] 87) = w5 at *
    with_reducible refine (Tryz.none_ t.1 (.pointer fa) t.2 k _ HF2.out).mono ?_
    rintro e w6 ⟨rfl, hb6⟩
    have HD6 : Hid (DelAt w g ts k j i w6 cur) := HD2.out.below hb6
    have HF6 := Lib.hid (HF2.out.below hb6)
    have a0 := (HC2.out.below hb6).cell 0
    have a1 := (HC2.out.below hb6).cell 1
    simp only [List.getElem?_toArray, List.getElem?_cons_zero, List.getElem?_cons_succ] at a0 a1
    clear hb6 HD2 HF2 HC2 c0 c1
    by_cases h0 : t.2 = 0
    ·have e1 : decide (t.2 = 0) = true := by simpa using h0
     have HR : Hid (DelAt w g ts k (j + 1) i w6 cur) := HD6.out.skip HT.out h0
     have H0 := Lib.hid h0
     clear h0 HD6 HT HF6
     go_wp2
     go_roundw
     case rel => exact ⟨i, j + 1, cur, rfl, by go_num, by omega, HR.out⟩
     case measure => simp [intOf]; omega
    ·have e1 : decide (t.2 = 0) = false := by simpa using h0
     have HR : Hid (DelAt w g ts k (j + 1) (i + 1) ((w6.setCell ⟨g, i * 2, none⟩ (.int .i64 t.1)).setCell ⟨g, i * 2 + 1, none⟩ (.pointer fa)) _) := HD6.out.put HT.out h0 HF6.out
     have hsz := HD6.out.size
     have hx0 := HD6.out.cells.cell (i * 2)
     have hx1 := HD6.out.cells.cell (i * 2 + 1)
     rw [Array.getElem?_eq_getElem (by omega)] at hx0 hx1
     have hy0 := HD6.out.cells.free (i * 2)
     have hy1 := HD6.out.cells.free (i * 2 + 1)
     have H0 := Lib.hid h0
     clear h0 HD6 HT HF6
     go_wp2
     go_roundw
     case rel => exact ⟨i + 1, j + 1, _, by go_num, by go_num, by omega, by simpa using HR.out⟩
     case measure => simp [intOf]; omega
   ·have e1 : decide (j < ts.length) = false := by simpa using hlt
    obtain rfl : j = ts.length := by omega
    have hij := hD.less
    obtain ⟨w5, cur5, hrun, hc5, hx5, hg5⟩ := Tryz.clearT 0 (o := i * 2) (m := ts.length - i) (cap := cap - i) hD.cells (by have := hD.size; omega) (by omega)
    have hhead : IntHead wr (some g) := by
     obtain ⟨z, hz⟩ := hD.head
     constructor
     ·intro g' hg' u hu
      obtain rfl := Option.some.inj hg'
      rw [hD.cells.cell, hz] at hu
      exact ⟨z, (Option.some.inj hu).symm⟩
     ·intro g' hg'
      obtain rfl := Option.some.inj hg'
      exact ⟨_, _, hD.cells, by decide⟩
    have hcount := hD.count
    rw [List.take_length] at hcount
    have HR : Hid (Terms w5 (.slice (some ⟨g, 0, none⟩) i cap) (Vm.keep ts) k) := by
     refine ⟨_, cap, by rw [hcount], by omega, by unfold maxLen; omega, .inr ⟨g, 0, cur5, rfl, hc5, fun x t ht => ?_⟩⟩
     have hxi : x < i := by rw [hcount]; exact (List.getElem?_eq_some_iff.1 ht).1
     obtain ⟨f, a, b, c⟩ := hD.done x t (by rw [List.take_length]; exact ht)
     exact ⟨f, by rw [Nat.zero_add, hx5 _ (by omega)]; exact a, by rw [Nat.zero_add, hx5 _ (by omega)]; exact b, frac_grown c hg5 hhead⟩
    have HB5 : Hid (Below B w w5) := (Below.refl B w).grown (grownBy_trans hD.grown hg5) hB (fun g' hg' => by obtain rfl := Option.some.inj hg'; exact hgB)
    have hsl : ∀ W, (Instr.slice 85 (.slice (some ⟨g, 0, none⟩) ts.length cap) (some (.int .i64 i)) none none).run Tryz.prog W = .ok (.slice (some ⟨g, i * 2, none⟩) (ts.length - i) (cap - i)) W := fun W => by
     rw [Tryz.termsFrom _ _ _ i (by omega) l1 (by omega)]
     unfold sliced
     rw [if_neg (by omega), Option.map_some, Lib.add_plain, Nat.zero_add]
    have hsr : ∀ W, (Instr.slice 85 (.slice (some ⟨g, 0, none⟩) ts.length cap) none (some (.int .i64 i)) none).run Tryz.prog W = .ok (.slice (some ⟨g, 0, none⟩) i cap) W := fun W => by
     rw [Tryz.termsTo _ _ _ i (by omega) l1]
     unfold sliced
     rw [if_neg (by omega), Option.map_some, Lib.add_plain, Nat.zero_mul]; rfl
    clear hD hc5 hx5 hg5 hhead hcount
    go_wp2_with (at_builtin; refine wpList_clear rfl (.tmp 38) 85 rfl rfl hrun ?_)
    clear hrun
    go_ret
    exact ⟨⟨_, rfl, HR.out⟩, HB5.out⟩
end Go.Proofs.Vt
namespace Go.Proofs.Vt
open Go.RowKit Go.Proofs.Wd Go.Proofs.Fr
open Vm (T Rise In)
/-- The terms that coefficients show. -/
noncomputable def termsOf (cs : C) : T := cs.map fun c => (c.1, (getQ c.2).getD 0)
theorem termsOf_len (cs : C) : (termsOf cs).length = cs.length := List.length_map _
theorem termsOf_get {cs : C} {j : Nat} {c : Int × ByteArray} {q : Rat} (h : cs[j]? = some c) (hq : getQ c.2 = some q) : (termsOf cs)[j]? = some (c.1, q) := by
 unfold termsOf
 rw [List.getElem?_map, h, Option.map_some, hq]; rfl
theorem termsOf_rise {m : Int} {cs : C} (h : CoefOk m cs) : Rise (termsOf cs) := List.pairwise_map.2 h.1
theorem termsOf_in {n : Nat} {cs : C} (h : CoefOk n cs) : In n (termsOf cs) := fun t ht => by
 obtain ⟨c, hc, rfl⟩ := List.mem_map.1 ht
 exact ⟨(h.2 c hc).1, (h.2 c hc).2.1⟩
/-- What New's loop keeps to. -/
structure NewAt (g : Nat) (ts : T) (K k : Nat) (wr : World) (cur : Array Value) : Prop where
 cells : CellsAt wr g cur 87
 size : cur.size = ts.length * 2
 head : 0 < ts.length → ∃ z, cur[0]? = some (.int .i64 z)
 done : ∀ x t, x < k → ts[x]? = some t → TermAt wr cur x t K
theorem NewAt.below {wr w' : World} {g k K : Nat} {ts : T} {cur : Array Value} (h : NewAt g ts K k wr cur) (hb : Below wr.heap.size wr w') : NewAt g ts K k w' cur := by
 obtain ⟨h1, h2, h3, h4⟩ := h
 exact ⟨h1.below hb, h2, h3, fun x t hx ht => by obtain ⟨f, a, b, c⟩ := h4 x t hx ht; exact ⟨f, a, b, c.below hb⟩⟩
theorem NewAt.put {wr : World} {g k K : Nat} {ts : T} {cur : Array Value} {t : Int × Rat} {f : Value} (h : NewAt g ts K k wr cur) (ht : ts[k]? = some t) (hf : FracIs wr f t.2 K) :
 NewAt g ts K (k + 1) ((wr.setCell ⟨g, k * 2, none⟩ (.int .i64 t.1)).setCell ⟨g, k * 2 + 1, none⟩ f) ((cur.setIfInBounds (k * 2) (.int .i64 t.1)).setIfInBounds (k * 2 + 1) f) := by
 obtain ⟨h1, h2, h3, h4⟩ := h
 have hlt : k < ts.length := (List.getElem?_eq_some_iff.1 ht).1
 obtain ⟨z, h3⟩ := h3 (by omega)
 have get : ∀ x, x ≠ k → ((cur.setIfInBounds (k * 2) (.int .i64 t.1)).setIfInBounds (k * 2 + 1) f)[x * 2]? = cur[x * 2]? ∧ ((cur.setIfInBounds (k * 2) (.int .i64 t.1)).setIfInBounds (k * 2 + 1) f)[x * 2 + 1]? = cur[x * 2 + 1]? := fun x hx => by
  rw [get_set (by omega), get_set (by omega), get_set (by omega), get_set (by omega)]
  exact ⟨rfl, rfl⟩
 refine ⟨(h1.set (k * 2) _).set (k * 2 + 1) _, by simpa using h2, fun _ => ?_, fun x u hx hu => ?_⟩
 ·by_cases hi : k = 0
  ·subst hi
   exact ⟨t.1, by rw [get_set (by omega)]; exact get_set' (by omega)⟩
  ·exact ⟨z, by rw [get_set (by omega), get_set (by omega)]; exact h3⟩
 ·by_cases e : x = k
  ·subst e
   rw [ht] at hu
   obtain rfl := Option.some.inj hu
   exact ⟨f, by rw [get_set (by omega)]; exact get_set' (by omega), get_set' (by simp; omega), put_frac h1 h3 hf⟩
  ·obtain ⟨f', a, b, c⟩ := h4 x u (by omega) hu
   exact ⟨f', by rw [(get x e).1]; exact a, by rw [(get x e).2]; exact b, put_frac h1 h3 c⟩
theorem NewAt.own {B : Nat} {wr : World} {g K : Nat} {ts : T} {cur : Array Value} (h : NewAt g ts K ts.length wr cur) (hB : B ≤ g) (hm : ts.length ≤ 1000) : OwnT B wr (.slice (some ⟨g, 0, none⟩) ts.length ts.length) ts K := by
 obtain ⟨h1, h2, h3, h4⟩ := h
 have hT : Terms wr (.slice (some ⟨g, 0, none⟩) ts.length ts.length) ts K := by
  refine ⟨_, _, rfl, Nat.le_refl _, by unfold maxLen; omega, .inr ⟨g, 0, cur, rfl, h1, fun j t ht => ?_⟩⟩
  obtain ⟨f, a, b, c⟩ := h4 j t (List.getElem?_eq_some_iff.1 ht).1 ht
  exact ⟨f, by rw [Nat.zero_add]; exact a, by rw [Nat.zero_add]; exact b, c⟩
 obtain ⟨ps, p1, p2, p3⟩ := hT.cells
 have hl : ps.length = ts.length := by rw [p1, List.length_map]
 refine ⟨ps, p1, ⟨cellsOf_len _, .inr ⟨g, ts.length, cur, by rw [hl], hB, h1, by omega, by unfold maxLen; omega, h2, ?_⟩⟩, p2, ?_, ?_⟩
 ·apply List.ext_getElem?
  intro j
  by_cases hj : j < (cellsOf ps).length
  ·have hu := List.getElem?_eq_getElem hj
   have := p3 g 0 _ _ rfl j _ hu
   rw [Lib.add_plain, Nat.zero_add, h1.cell] at this
   rw [cellsOf_len] at hj
   rw [hu, List.getElem?_take_of_lt (by omega), Array.getElem?_toList]
   exact this
  ·rw [cellsOf_len] at hj
   rw [List.getElem?_eq_none (l := cur.toList.take (ps.length * 2)) (Nat.le_trans (List.length_take_le _ _) (by omega)), List.getElem?_eq_none (by rw [cellsOf_len]; omega)]
 ·intro g' hg' u hu
  obtain rfl : g = g' := by simpa [Value.ownBlock] using hg'
  rw [h1.cell] at hu
  by_cases h0 : 0 < ts.length
  ·obtain ⟨z, hz⟩ := h3 h0
   rw [hz] at hu
   exact ⟨z, (Option.some.inj hu).symm⟩
  ·have := (Array.getElem?_eq_some_iff.1 hu).1
   omega
 ·intro g' hg'
  obtain rfl : g = g' := by simpa [Value.ownBlock] using hg'
  exact ⟨_, _, h1, by decide⟩
theorem Tryz.makeN (w : World) (ts : T) (K : Nat) (hn : ts.length ≤ 1000) : ∃ w' cur, (Instr.makeSlice 85 (.int .i64 ts.length) (.int .i64 ts.length)).run Tryz.prog w = .ok (.slice (some ⟨w.heap.size, 0, none⟩) ts.length ts.length) w' ∧ NewAt w.heap.size ts K 0 w' cur ∧ Below w.heap.size w w' := by
 obtain ⟨i0, hi, hz0, hz1, hz2⟩ := info_parts Tryz.infoTerm
 have hr := run_make (P := Tryz.prog) w 85 87 i0 _ Tryz.underlying85 hi hz0 .i64 .i64 ts.length ts.length (by omega) (by omega) (by rw [hz2]; omega) (by omega)
 rw [hz1, Int.toNat_natCast] at hr
 refine ⟨_, _, hr, ⟨CellsAt.new _ _ _ rfl, size_madeCells _ _, fun h0 => ⟨0, ?_⟩, fun x t hx _ => by omega⟩, (Below.refl _ _).alloc (Nat.le_refl _) _⟩
 have h2 : 0 < ts.length * 2 := by omega
 simp [madeCells, h2, Value.cells]
theorem Tryz.vecNew (L : Nat) (v : Value) (cs : C) (w : World) (h : ReadsC w L v cs) (hok : CoefOk 1000 cs) (hn : cs.length ≤ 12) :
 Calls Tryz.prog 13 #[v] w fun e w' => (∃ s, e = .returned (.tuple #[s, .bool true]) ∧ VecIs w' s (Vm.keep (termsOf cs)) 120) ∧ Below w.heap.size w w' := by
 obtain ⟨p, cap, rfl, l1, l2⟩ := h.slice
 have H : Hid (ReadsC w L _ cs) := h
 have HOK : Hid (CoefOk 1000 cs) := hok
 unfold maxLen at l2
 clear h hok
 have hlen := termsOf_len cs
 obtain ⟨w1, cur1, hmk, hN1, hb1⟩ := Tryz.makeN w (termsOf cs) 120 (by omega)
 rw [hlen] at hmk
 have HN1 := Lib.hid hN1
 have HB1 := Lib.hid hb1
 have HLEN := Lib.hid hlen
 have e0 : decide (1000 < (cs.length : Int)) = false := by simp; omega
 clear hN1 hb1 hlen
 go_enter Tryz.func13, Tryz.ntmps13
 go_wp2_with fail
 go_loopw [17] (fun iv wr => ∃ (k : Nat) (cur : Array Value), iv = .int .i64 k ∧ k ≤ cs.length ∧ NewAt w.heap.size (termsOf cs) 120 k wr cur ∧ Below w.heap.size w wr) (fun iv _ => cs.length - (intOf iv).toNat)
 case atStart => exact ⟨0, cur1, rfl, Nat.zero_le _, HN1.out, HB1.out⟩
 case round =>
  obtain ⟨k, cur, rfl, hk, hN, hb⟩ := hrel
  by_cases hlt : k < cs.length
  ·obtain ⟨c, hc⟩ : ∃ c, cs[k]? = some c := ⟨_, List.getElem?_eq_getElem hlt⟩
   obtain ⟨q0, q1, q, hq⟩ := HOK.out.2 c (List.mem_of_getElem? hc)
   obtain ⟨g, o, cap', he, -, -, c0, c1, hg⟩ := H.out.nth hc
   simp only [Value.slice.injEq, true_and] at he
   obtain ⟨rfl, rfl⟩ := he
   rw [← hb.cell hg] at c0 c1
   have HT := Lib.hid (termsOf_get hc hq)
   have HQ := Lib.hid hq
   have hs9 := getQ_size hq
   have hs1 : Below wr.heap.size wr (wr.alloc (.cells #[.int .i64 c.1, .string c.2] 46)) := (Below.refl _ _).alloc (Nat.le_refl _) _
   have HN2 : Hid (NewAt w.heap.size (termsOf cs) 120 k (wr.alloc (.cells #[.int .i64 c.1, .string c.2] 46)) cur) := hN.below hs1
   have HB2 := Lib.hid (hb.trans (hs1.mono hb.size))
   have HC2 : Hid (CellsAt (wr.alloc (.cells #[.int .i64 c.1, .string c.2] 46)) wr.heap.size #[.int .i64 c.1, .string c.2] 46) := CellsAt.new _ _ _ rfl
   have e1 : decide (c.1 < 0) = false := by simp; omega
   have e2 : decide (999 < c.1) = false := by simp; omega
   clear hc hq hN hs1 hg hb
   go_wp2_with fail
   generalize wr.alloc (.cells #[.int .i64 c.1, .string c.2] 46) = w5 at *
   with_reducible refine (Tryz.fracGet c.2 _ (by omega)).mono ?_
   rintro e w6 ⟨hget, hb6⟩
   obtain ⟨f, rfl, hf⟩ : ∃ f, e = .returned (.tuple #[f, .bool true]) ∧ FracIs w6 f q 120 := by
    rcases hget with ⟨q', f, h1, h2, h3⟩ | ⟨h1, h2⟩
    ·rw [HQ.out] at h1
     obtain rfl := Option.some.inj h1
     exact ⟨f, h2, h3⟩
    ·rw [HQ.out] at h1; simp at h1
   obtain ⟨fa, rfl⟩ := frac_pointer hf
   have HR : Hid (NewAt w.heap.size (termsOf cs) 120 (k + 1) ((w6.setCell ⟨w.heap.size, k * 2, none⟩ (.int .i64 c.1)).setCell ⟨w.heap.size, k * 2 + 1, none⟩ (.pointer fa)) _) := (HN2.out.below hb6).put HT.out hf
   have HB6 : Hid (Below w.heap.size w ((w6.setCell ⟨w.heap.size, k * 2, none⟩ (.int .i64 c.1)).setCell ⟨w.heap.size, k * 2 + 1, none⟩ (.pointer fa))) := ((HB2.out.trans (hb6.mono HB2.out.size)).setCell (p := ⟨w.heap.size, k * 2, none⟩) (Nat.le_refl _) _).setCell (p := ⟨w.heap.size, k * 2 + 1, none⟩) (Nat.le_refl _) _
   have hsz : cur.size = cs.length * 2 := by rw [HN2.out.size, HLEN.out]
   obtain ⟨u0, hx0⟩ : ∃ u, w6.cell? ⟨w.heap.size, k * 2, none⟩ = some u := ⟨cur[k * 2]'(by omega), by rw [(HN2.out.below hb6).cells.cell (k * 2), Array.getElem?_eq_getElem (by omega)]⟩
   obtain ⟨u1, hx1⟩ : ∃ u, w6.cell? ⟨w.heap.size, k * 2 + 1, none⟩ = some u := ⟨cur[k * 2 + 1]'(by omega), by rw [(HN2.out.below hb6).cells.cell (k * 2 + 1), Array.getElem?_eq_getElem (by omega)]⟩
   have hy0 := (HN2.out.below hb6).cells.free (k * 2)
   have hy1 := (HN2.out.below hb6).cells.free (k * 2 + 1)
   have a0 := (HC2.out.below hb6).cell 0
   have a1 := (HC2.out.below hb6).cell 1
   simp only [List.getElem?_toArray, List.getElem?_cons_zero, List.getElem?_cons_succ] at a0 a1
   have HSZ := Lib.hid hsz
   clear hget hb6 HN2 HB2 HC2 HQ HT hf c0 c1 hsz
   go_wp2
   go_roundw
   case rel => exact ⟨k + 1, _, by go_num, by omega, HR.out, HB6.out⟩
   case measure => simp [intOf]; omega
  ·have e1 : decide (k < cs.length) = false := by simpa using hlt
   obtain rfl : k = cs.length := by omega
   have HO : Hid (OwnT w.heap.size wr (.slice (some ⟨w.heap.size, 0, none⟩) cs.length cs.length) (termsOf cs) 120) := by
    have := hN
    rw [← HLEN.out] at this
    have := this.own (Nat.le_refl _) (by rw [HLEN.out]; omega)
    rw [HLEN.out] at this
    exact this
   have HB := Lib.hid hb
   clear hN hb
   go_wp2_with fail
   with_reducible refine (Tryz.sortT _ (termsOf cs) 120 _ HO.out.terms (termsOf_rise HOK.out) (by rw [HLEN.out]; omega)).mono ?_
   rintro e w5 ⟨rfl, hb5⟩
   have HO5 := Lib.hid (HO.out.below hb5)
   have HB5 := Lib.hid (HB.out.trans (hb5.mono HB.out.size))
   clear hb5 HO HB
   go_wp2_with fail
   with_reducible refine (Tryz.twice _ (termsOf cs) 120 _ HO5.out.terms (termsOf_rise HOK.out)).mono ?_
   rintro e w6 ⟨rfl, hb6⟩
   have HO6 := Lib.hid (HO5.out.below hb6)
   have HB6 := Lib.hid (HB5.out.trans (hb6.mono HB5.out.size))
   clear hb6 HO5 HB5
   go_wp2_with fail
   with_reducible refine (Tryz.deleteT w.heap.size _ (termsOf cs) 120 _ HO6.out HB6.out.size (by rw [HLEN.out]; omega)).mono ?_
   rintro e w7 ⟨⟨s, rfl, hs⟩, hb7⟩
   obtain ⟨p', cap', rfl, -, -⟩ := hs.slice
   obtain ⟨m, hm⟩ : ∃ m, (Vm.keep (termsOf cs)).length = m := ⟨_, rfl⟩
   rw [hm] at hs ⊢
   have HS := Lib.hid hs
   have HB7 : Hid (Below w.heap.size w w7) := HB6.out.trans hb7
   have hbd : ∀ (p : Option Addr) (n c : Nat) (w : World), (Instr.build 95 #[(0, .slice p n c)]).run Tryz.prog w = .ok (.agg #[.slice p n c]) w := fun p n c w => run_build w 95 _ _ (by kernel_rfl)
   clear hb7 HO6 HB6 hs hm
   have HV : Hid (VecIs (w7.alloc (.cells #[.slice p' m cap'] 95)) (.pointer (some ⟨w7.heap.size, 0, none⟩)) (Vm.keep (termsOf cs)) 120) := .inr ⟨_, _, rfl, by simp, by simp, HS.out.below ((Below.refl _ _).alloc (Nat.le_refl _) _)⟩
   have HBV : Hid (Below w.heap.size w (w7.alloc (.cells #[.slice p' m cap'] 95))) := HB7.out.alloc HB7.out.size _
   clear HS HB7
   go_wp2
   go_ret2
   exact ⟨⟨_, rfl, HV.out⟩, HBV.out⟩
end Go.Proofs.Vt
namespace Go.Proofs.Vt
open Go.RowKit Go.Proofs.Wd Go.Proofs.Fr
open Vm (T Rise In)
end Go.Proofs.Vt
namespace Go.Proofs.Vt
open Go.RowKit Go.Proofs.Wd Go.Proofs.Fr
open Vm (T Rise In)
theorem Tryz.cutText (s : ByteArray) (n : Nat) (w : World) (hmax : s.size ≤ 9223372036854775807) (hn : n ≤ 1000000) :
 Calls Tryz.prog 15 #[.string s, .int .i64 n] w fun e w' => (∃ t : ByteArray, e = .returned (.string t) ∧ t.size ≤ n) ∧ w' = w := by
 obtain ⟨m, hm⟩ : ∃ m : Nat, (min (s.size : Int) (n : Int)) = m := ⟨min s.size n, by omega⟩
 have hmb : m ≤ s.size ∧ m ≤ n := by omega
 obtain ⟨hm1, hm2⟩ := hmb
 have HC : Hid ((s.extract 0 m).size ≤ n) := Nat.le_trans (size_cut s 0 m) (by omega)
 go_enter Tryz.func15, Tryz.ntmps15
 go_wp2
 go_ret
 exact ⟨⟨_, rfl, HC.out⟩, rfl⟩
theorem text_nought : (⟨(textQ 0).toArray⟩ : ByteArray) = ⟨#[48]⟩ := by
 unfold textQ
 have hd : Lib.decDigits 0 = [48] := by simp [Lib.decDigits]
 simp [hd]
/-- What F tells: a fraction that its own text shows. -/
def FSaid (w : World) (e : Ending) : Prop := ∃ (v : Value) (q : Rat), e = .returned v ∧ FracIs w v q 120 ∧ getQ ⟨(textQ q).toArray⟩ = some q
theorem Tryz.lawF (s : ByteArray) (w : World) (hs : s.size ≤ 4294967280) :
 Calls Tryz.prog 14 #[.string s] w fun e w' => FSaid w' e ∧ Below w.heap.size w w' := by
 go_enter Tryz.func14, Tryz.ntmps14
 go_wp2_with fail
 with_reducible refine (Tryz.fracGet s _ hs).mono ?_
 rintro e w1 ⟨⟨q, v, h1, rfl, h3⟩ | ⟨h1, rfl⟩, hb⟩
 ·have HR : Hid (FSaid w1 (.returned v)) := ⟨v, q, rfl, h3, by rw [text_own h1]; exact h1⟩
  have HB := Lib.hid hb
  clear h1 h3 hb
  go_wp2
  go_ret
  exact ⟨HR.out, HB.out⟩
 ·have HB := Lib.hid hb
  clear h1 hb
  go_wp2_with fail
  with_reducible refine (Tryz.Of 0 _ (by omega) (by omega)).mono ?_
  rintro e w2 ⟨⟨v, rfl, hv⟩, hb2⟩
  have HR : Hid (FSaid w2 (.returned v)) := ⟨v, 0, rfl, hv.more (by omega), by rw [text_nought]; exact getQ_nought⟩
  have HB2 := Lib.hid (HB.out.trans (hb2.mono HB.out.size))
  clear hv hb2 HB
  go_wp2
  go_ret
  exact ⟨HR.out, HB2.out⟩
theorem coefOk_up {a b : Int} {cs : C} (h : CoefOk a cs) (hab : a ≤ b) : CoefOk b cs := ⟨h.1, fun c hc => by have := h.2 c hc; exact ⟨this.1, by omega, this.2.2⟩⟩
theorem keep_short (ts : T) : (Vm.keep ts).length ≤ ts.length := List.length_filter_le _ _
end Go.Proofs.Vt
namespace Go.Proofs.Mt
open Go.RowKit Go.Proofs.Wd Go.Proofs.Fr Go.Proofs.Vt Go.Proofs.Mm
open Vm (T Rise In)
/-- A row of fractions of the call's own. -/
def OwnF (B : Nat) (w : World) (v : Value) (n : Nat) (f : Nat → Rat) (k : Nat) : Prop := (n = 0 → v = .slice none 0 0) ∧ ∃ us, w.ownsRow B 30 1 v n us ∧ ∀ j, j < n → ∃ a, us[j]? = some (.pointer a) ∧ FracIs w (.pointer a) (f j) k
theorem OwnF.below {B : Nat} {w w' : World} {v : Value} {n k : Nat} {f : Nat → Rat} (h : OwnF B w v n f k) (hb : Below w.heap.size w w') : OwnF B w' v n f k := by
 obtain ⟨h0, us, h1, h2⟩ := h
 refine ⟨h0, us, ownsRow_below h1 hb, fun j hj => ?_⟩
 obtain ⟨a, a1, a2⟩ := h2 j hj
 exact ⟨a, a1, a2.below hb⟩
theorem OwnF.slice {B : Nat} {w : World} {v : Value} {n k : Nat} {f : Nat → Rat} (h : OwnF B w v n f k) : ∃ p c, v = .slice p n c := by
 obtain ⟨-, us, ⟨-, ⟨rfl, rfl⟩ | ⟨g, cap, cur, rfl, -⟩⟩, -⟩ := h
 ·exact ⟨_, _, rfl⟩
 ·exact ⟨_, _, rfl⟩
theorem OwnF.read {B : Nat} {w : World} {v : Value} {n k : Nat} {f : Nat → Rat} (h : OwnF B w v n f k) : LineR w v n f k := by
 obtain ⟨h9, us, ⟨h0, ⟨rfl, rfl⟩ | ⟨g, cap, cur, rfl, hb, hh, h1, h2, h3, h4⟩⟩, h5⟩ := h
 ·exact ⟨_, 0, rfl, Nat.le_refl _, by unfold maxLen; omega, .inl rfl⟩
 ·refine ⟨_, cap, rfl, h1, h2, .inr ⟨g, 0, cur, rfl, hh, fun j hj => ?_⟩⟩
  obtain ⟨a, a1, a2⟩ := h5 j hj
  rw [← h4, List.getElem?_take_of_lt (by omega), Array.getElem?_toList] at a1
  exact ⟨a, by rw [Nat.zero_add]; exact a1, a2⟩
/-- Its block is no part of a fraction. -/
theorem OwnF.odd {B : Nat} {w : World} {v : Value} {n k : Nat} {f : Nat → Rat} (h : OwnF B w v n f k) : ∀ g, v.ownBlock = some g → Odd w g ∧ B ≤ g ∧ ∃ cur, CellsAt w g cur 30 := by
 obtain ⟨h9, us, h1, h5⟩ := h
 intro g hg
 have hlo := (World.ownsRow.lt h1 g hg).1
 obtain ⟨h0, ⟨rfl, -⟩ | ⟨b, cap, cur, rfl, hb, hh, h1, h2, h3, h4⟩⟩ := h1
 ·simp [Value.ownBlock] at hg
 ·obtain rfl : b = g := by simpa [Value.ownBlock] using hg
  have hh : CellsAt w b cur 30 := hh
  have hn : 0 < n := by
   refine Nat.pos_of_ne_zero fun e => ?_
   have := h9 e
   simp at this
  obtain ⟨a, a1, a2⟩ := h5 0 hn
  refine ⟨⟨cur, _, hh, by decide, fun u hu => ?_⟩, hlo, cur, hh⟩
  rw [← h4, List.getElem?_take_of_lt (by omega), Array.getElem?_toList, hu] at a1
  rw [Option.some.inj a1]
  exact OddV.of_frac a2
theorem grown_any {w w' : World} {row : Option Nat} (h : w.grownBy w' row) : Keeps w w' (fun x => row = some x) := ⟨h.size, fun k hk hne => h.block k hk (fun e => hne e.symm)⟩
theorem OwnF.kept {B : Nat} {w w' : World} {v : Value} {n k : Nat} {f : Nat → Rat} {row : Option Nat} (h : OwnF B w v n f k) (hg : w.grownBy w' row) (hr : ∀ g, row = some g → Odd w g ∧ ∃ cur t, CellsAt w g cur t ∧ t ≠ 30) : OwnF B w' v n f k := by
 obtain ⟨h9, us, h1, h5⟩ := h
 refine ⟨h9, us, World.ownsRow.kept h1 hg ?_, fun j hj => ?_⟩
 ·obtain ⟨h0, ⟨rfl, -⟩ | ⟨b, cap, cur, rfl, hb, hh, -⟩⟩ := h1
  ·exact .inl rfl
  ·refine .inr fun e => ?_
   obtain ⟨-, cur2, t, c1, c2⟩ := hr b (by rw [← e]; rfl)
   have h9 : some (Obj.cells cur 30 (0, 0)) = some (Obj.cells cur2 t (0, 0)) := hh.symm.trans c1
   simp at h9
   exact c2 h9.2.symm
 ·obtain ⟨a, a1, a2⟩ := h5 j hj
  exact ⟨a, a1, frac_keeps a2 (grown_any hg) (fun g hx => (hr g hx).1)⟩
theorem OwnC.keptT {B : Nat} {w w' : World} {v : Value} {cs : C} {row : Option Nat} (h : OwnC B w v cs) (hg : w.grownBy w' row) (hr : ∀ g, row = some g → ∃ cur t, CellsAt w g cur t ∧ t ≠ 46) : OwnC B w' v cs := by
 refine World.ownsRow.kept h hg ?_
 obtain ⟨h0, ⟨rfl, -⟩ | ⟨b, cap, cur, rfl, hb, hh, -⟩⟩ := h
 ·exact .inl rfl
 ·refine .inr fun e => ?_
  obtain ⟨cur2, t, c1, c2⟩ := hr b (by rw [← e]; rfl)
  have h9 : some (Obj.cells cur 46 (0, 0)) = some (Obj.cells cur2 t (0, 0)) := hh.symm.trans c1
  simp at h9
  exact c2 h9.2.symm
/-- A row of coefficients: its block is no part of a fraction. -/
theorem OwnC.odd {B : Nat} {w : World} {v : Value} {cs : C} (h : OwnC B w v cs) (h9 : cs = [] → v = .slice none 0 0) : ∀ g, v.ownBlock = some g → Odd w g ∧ B ≤ g ∧ ∃ cur t, CellsAt w g cur t ∧ t ≠ 30 := by
 intro g hg
 have hlo := (World.ownsRow.lt h g hg).1
 obtain ⟨h0, ⟨rfl, -⟩ | ⟨b, cap, cur, rfl, hb, hh, h1, h2, h3, h4⟩⟩ := h
 ·simp [Value.ownBlock] at hg
 ·obtain rfl : b = g := by simpa [Value.ownBlock] using hg
  have hh : CellsAt w b cur 46 := hh
  cases cs with
  | nil => have := h9 rfl; simp at this
  | cons c cs =>
    refine ⟨⟨cur, _, hh, by decide, fun u hu => ?_⟩, hlo, cur, _, hh, by decide⟩
    have h5 := (cellsC_get (c :: cs) 0 c rfl).1
    rw [Nat.zero_mul, ← h4, List.getElem?_take_of_lt (by simp), Array.getElem?_toList, hu] at h5
    exact .inl ⟨_, Option.some.inj h5⟩
/-- One fraction more. -/
theorem Tryz.appendF {B : Nat} {w : World} {v : Value} {n k : Nat} {f : Nat → Rat} {a : Option Addr} {q : Rat} (ty : TypeId) (h : OwnF B w v n f k) (ha : FracIs w (.pointer a) q k) (hn : n ≤ 1000) (hB : B ≤ w.heap.size) :
 ∃ p c w', (Builtin.append_ #[62, 62] ty #[v, .slice (some ⟨w.heap.size, 0, none⟩) 1 1]).run Tryz.prog (w.alloc (.cells #[.pointer a] 30)) = .ok (.slice p (n + 1) c) w' ∧ OwnF B w' (.slice p (n + 1) c) (n + 1) (fun j => if j = n then q else f j) k ∧ FracIs w' (.pointer a) q k ∧ (w.alloc (.cells #[.pointer a] 30)).grownBy w' v.ownBlock := by
 obtain ⟨i0, hi0, hz0, hz1, hz2⟩ := info_parts Tryz.infoPtr
 have hal : Below w.heap.size w (w.alloc (.cells #[.pointer a] 30)) := (Below.refl _ _).alloc (Nat.le_refl _) _
 have hnew := (CellsAt.new w #[.pointer a] 30 rfl).cell 0
 have h' := h.below hal
 have ha' := ha.below hal
 have hodd := h'.odd
 obtain ⟨h9, us, h1, h2⟩ := h'
 obtain ⟨v', w', hr, g1, g2, -⟩ := run_append_own (P := Tryz.prog) (w.alloc (.cells #[.pointer a] 30)) B 62 ty 30 i0 _ 1 8 Tryz.underlying62 hi0 hz0 hz1 hz2 rfl (by decide) v n us h1 ⟨w.heap.size, 0, none⟩ 1 1 [.pointer a] rfl (by
  intro j u hj
  match j, hj with
  | 0, hj =>
    rw [show (⟨w.heap.size, 0, none⟩ : Addr).add 0 = ⟨w.heap.size, 0, none⟩ from rfl, hnew]
    simpa using hj) (by
  intro u hu
  rw [List.mem_singleton.1 hu]; rfl) (by unfold maxLen; omega) (by omega) (Nat.le_trans hB hal.size)
 have hul : us.length = n := by have := h1.1; omega
 have hk : ∀ {u : Value} {x : Rat}, FracIs (w.alloc (.cells #[.pointer a] 30)) u x k → FracIs w' u x k := fun hx => frac_keeps hx (grown_any g2) (fun g hx => (hodd g hx).1)
 have ho : OwnF B w' v' (n + 1) (fun j => if j = n then q else f j) k := ⟨fun e => by omega, _, g1, fun j hj => by
  rw [get_app hul hj]
  by_cases e : j < n
  ·obtain ⟨x, x1, x2⟩ := h2 j e
   exact ⟨x, by rw [if_pos e]; exact x1, by show FracIs w' _ (if j = n then q else f j) k; rw [if_neg (by omega)]; exact hk x2⟩
  ·exact ⟨a, by rw [if_neg e], by show FracIs w' _ (if j = n then q else f j) k; rw [if_pos (by omega)]; exact hk ha'⟩⟩
 obtain ⟨p, c, rfl⟩ := ho.slice
 exact ⟨p, c, w', hr, ho, hk ha', g2⟩
/-- Coefficients by column. -/
def csF (t : Nat → ByteArray) (n : Nat) : C := (List.range n).map fun (j : Nat) => ((j : Int), t j)
theorem csF_len (t : Nat → ByteArray) (n : Nat) : (csF t n).length = n := by simp [csF]
theorem csF_succ (t : Nat → ByteArray) (n : Nat) : csF t (n + 1) = csF t n ++ [((n : Int), t n)] := by simp [csF, List.range_succ]
theorem csF_congr {t u : Nat → ByteArray} {n : Nat} (h : ∀ j, j < n → t j = u j) : csF t n = csF u n := by
 unfold csF
 exact List.map_congr_left fun j hj => by rw [h j (List.mem_range.1 hj)]
theorem csF_get (t : Nat → ByteArray) {n j : Nat} (h : j < n) : (csF t n)[j]? = some ((j : Int), t j) := by simp [csF, h]
theorem csF_ok {t : Nat → ByteArray} {g : Nat → Rat} {n : Nat} (h : ∀ j, j < n → getQ (t j) = some (g j)) : CoefOk (n : Int) (csF t n) := by
 refine ⟨List.pairwise_map.2 ?_, fun c hc => ?_⟩
 ·exact List.Pairwise.imp (fun h => by omega) (List.pairwise_lt_range)
 ·obtain ⟨j, hj, rfl⟩ := List.mem_map.1 hc
  have hj := List.mem_range.1 hj
  exact ⟨by simp, by simpa using hj, _, h j hj⟩
theorem csF_at {t : Nat → ByteArray} {g : Nat → Rat} {n j : Nat} (h : ∀ j, j < n → getQ (t j) = some (g j)) (hj : j < n) : Vm.at_ (Vm.keep (termsOf (csF t n))) j = g j := by
 have hok := csF_ok h
 rw [Vm.at_keep _ (termsOf_rise hok)]
 exact Vm.at_mem (t := ((j : Int), g j)) (termsOf_rise hok) (List.mem_of_getElem? (termsOf_get (csF_get t hj) (h j hj)))
/-- Two vectors of coefficients by column: their product. -/
theorem csF_dot {t u : Nat → ByteArray} {f g : Nat → Rat} {n : Nat} (h : ∀ j, j < n → getQ (t j) = some (f j)) (h2 : ∀ j, j < n → getQ (u j) = some (g j)) : Vm.dot 0 (Vm.keep (termsOf (csF t n))) (Vm.keep (termsOf (csF u n))) = dotF f g n := by
 have i1 : In n (Vm.keep (termsOf (csF t n))) := fun x hx => termsOf_in (csF_ok h) x (Vm.mem_keep hx)
 have i2 : In n (Vm.keep (termsOf (csF u n))) := fun x hx => termsOf_in (csF_ok h2) x (Vm.mem_keep hx)
 rw [Vm.dot_eq 0 _ _ (Vm.rise_keep (termsOf_rise (csF_ok h))) (Vm.rise_keep (termsOf_rise (csF_ok h2))) i1 i2, Rat.zero_add]
 exact Vm.sum_congr fun j hj => by rw [csF_at h hj, csF_at h2 hj]
theorem csF_short {t : Nat → ByteArray} {n : Nat} : (Vm.keep (termsOf (csF t n))).length ≤ n := by
 have := keep_short (termsOf (csF t n))
 rw [termsOf_len, csF_len] at this
 exact this
theorem dim5 (a : Int) : ∃ R : Nat, 1 + a.tmod 5 % 5 = (R : Int) ∧ 1 ≤ R ∧ R ≤ 5 ∧ -4 ≤ a.tmod 5 ∧ a.tmod 5 ≤ 4 := by
 have h1 := Int.tmod_lt_of_pos a (show (0 : Int) < 5 by omega)
 have h2 := Int.lt_tmod_of_pos a (show (0 : Int) < 5 by omega)
 exact ⟨(1 + a.tmod 5 % 5).toNat, by omega, by omega, by omega, by omega, by omega⟩
/-- What the first loop keeps to. -/
def FillAt (WZ : World) (i : Nat) (xv cv : Value) (wr : World) : Prop :=
 ∃ f : Nat → Rat, OwnF WZ.heap.size wr xv i f 120 ∧ OwnC WZ.heap.size wr cv (csF (fun j => ⟨(textQ (f j)).toArray⟩) i) ∧ (i = 0 → cv = .slice none 0 0) ∧ (∀ j, j < i → getQ ⟨(textQ (f j)).toArray⟩ = some (f j)) ∧ Below WZ.heap.size WZ wr
theorem FillAt.slices {WZ : World} {i : Nat} {xv cv : Value} {wr : World} (h : FillAt WZ i xv cv wr) : (∃ p c, xv = .slice p i c) ∧ ∃ p c, cv = .slice p i c := by
 obtain ⟨f, h1, h2, -⟩ := h
 refine ⟨h1.slice, ?_⟩
 obtain ⟨p, c, e, -⟩ := h2.reads.slice
 rw [csF_len] at e
 exact ⟨p, c, e⟩
/-- One cell. -/
structure CellI (w : World) (g j : Nat) (v : Value) : Prop where
 lt : g < w.heap.size
 is : w.cell? ⟨g, j, none⟩ = some v
theorem CellI.below {w w' : World} {g j : Nat} {v : Value} (h : CellI w g j v) (hb : Below w.heap.size w w') : CellI w' g j v := ⟨Nat.lt_of_lt_of_le h.lt hb.size, by rw [hb.cell h.lt]; exact h.is⟩
/-- Between its two appends. -/
def MidAt (WZ : World) (i : Nat) (xv cv : Value) (q : Rat) (w : World) : Prop :=
 ∃ f : Nat → Rat, OwnF WZ.heap.size w xv (i + 1) (fun j => if j = i then q else f j) 120 ∧ OwnC WZ.heap.size w cv (csF (fun j => ⟨(textQ (f j)).toArray⟩) i) ∧ (i = 0 → cv = .slice none 0 0) ∧ (∀ j, j < i → getQ ⟨(textQ (f j)).toArray⟩ = some (f j)) ∧ Below WZ.heap.size WZ w
theorem MidAt.below {WZ w w' : World} {i : Nat} {xv cv : Value} {q : Rat} (h : MidAt WZ i xv cv q w) (hb : Below w.heap.size w w') : MidAt WZ i xv cv q w' := by
 obtain ⟨f, h1, h2, h3, h4, h5⟩ := h
 exact ⟨f, h1.below hb, h2.below hb, h3, h4, h5.trans (hb.mono h5.size)⟩
theorem FillAt.below {WZ w w' : World} {i : Nat} {xv cv : Value} (h : FillAt WZ i xv cv w) (hb : Below w.heap.size w w') : FillAt WZ i xv cv w' := by
 obtain ⟨f, h1, h2, h3, h4, h5⟩ := h
 exact ⟨f, h1.below hb, h2.below hb, h3, h4, h5.trans (hb.mono h5.size)⟩
theorem Tryz.fillOne {WZ W : World} {i : Nat} {xv cv : Value} {a : Option Addr} {q : Rat} (h : FillAt WZ i xv cv W) (ha : FracIs W (.pointer a) q 120) (hi : i ≤ 1000) :
 ∃ p c w', (Builtin.append_ #[62, 62] 62 #[xv, .slice (some ⟨W.heap.size, 0, none⟩) 1 1]).run Tryz.prog (W.alloc (.cells #[.pointer a] 30)) = .ok (.slice p (i + 1) c) w' ∧ MidAt WZ i (.slice p (i + 1) c) cv q w' ∧ FracIs w' (.pointer a) q 120 := by
 obtain ⟨f, h1, h2, h3, h4, h5⟩ := h
 have hal : Below W.heap.size W (W.alloc (.cells #[.pointer a] 30)) := (Below.refl _ _).alloc (Nat.le_refl _) _
 obtain ⟨p, c, w', hr, ho, ha', hg⟩ := Tryz.appendF 62 h1 ha hi h5.size
 have hodd := (h1.below hal).odd
 have hb := h5.trans (hal.mono h5.size)
 exact ⟨p, c, w', hr, ⟨f, ho, OwnC.keptT (h2.below hal) hg (fun g hx => by
  obtain ⟨-, -, cur, hc⟩ := hodd g hx
  exact ⟨cur, _, hc, by decide⟩), h3, h4, hb.grown hg hb.size (fun g hx => (hodd g hx).2.1)⟩, ha'⟩
theorem Tryz.fillTwo {WZ W : World} {i : Nat} {xv cv : Value} {q : Rat} {t : ByteArray} (h : MidAt WZ i xv cv q W) (ht : (⟨(textQ q).toArray⟩ : ByteArray) = t) (hq : getQ t = some q) (hi : i ≤ 1000) :
 ∃ p c w', (Builtin.append_ #[25, 25] 25 #[cv, .slice (some ⟨W.heap.size, 0, none⟩) 1 1]).run Tryz.prog (W.alloc (.cells #[.int .i64 i, .string t] 46)) = .ok (.slice p (i + 1) c) w' ∧ FillAt WZ (i + 1) xv (.slice p (i + 1) c) w' := by
 obtain ⟨f, h1, h2, h3, h4, h5⟩ := h
 have hal : Below W.heap.size W (W.alloc (.cells #[.int .i64 i, .string t] 46)) := (Below.refl _ _).alloc (Nat.le_refl _) _
 have hb := h5.trans (hal.mono h5.size)
 obtain ⟨v', w', hr, ho, hg⟩ := Tryz.appendC 25 (h2.below hal) (readsC_one W i t) (by simp [csF_len]; omega) hb.size
 have hodd := OwnC.odd (h2.below hal) (fun e => h3 (by have := congrArg List.length e; rwa [csF_len] at this))
 have e1 : csF (fun j => ⟨(textQ (f j)).toArray⟩) i ++ [((i : Int), t)] = csF (fun j => ⟨(textQ (if j = i then q else f j)).toArray⟩) (i + 1) := by
  rw [csF_succ]
  show _ = _ ++ [((i : Int), (⟨(textQ (if i = i then q else f i)).toArray⟩ : ByteArray))]
  rw [if_pos rfl, ht, csF_congr (t := fun j => (⟨(textQ (if j = i then q else f j)).toArray⟩ : ByteArray)) (u := fun j => ⟨(textQ (f j)).toArray⟩) fun j hj => by show (⟨(textQ (if j = i then q else f j)).toArray⟩ : ByteArray) = _; rw [if_neg (by omega)]]
 rw [e1] at ho
 obtain ⟨p, c, e, -, -⟩ := ho.reads.slice
 rw [csF_len] at e
 subst e
 refine ⟨p, c, w', hr, fun j => if j = i then q else f j, (h1.below hal).kept hg (fun g hx => ⟨(hodd g hx).1, (hodd g hx).2.2⟩), ho, fun e => by omega, fun j hj => ?_, hb.grown hg hb.size (fun g hx => (hodd g hx).2.1)⟩
 show getQ ⟨(textQ (if j = i then q else f j)).toArray⟩ = some (if j = i then q else f j)
 by_cases e : j = i
 ·rw [if_pos e, ht]; exact hq
 ·rw [if_neg e]; exact h4 j (by omega)
/-- A row of coefficients that grows by the texts of a row. -/
theorem Tryz.rowOne {B : Nat} {W : World} {k : Nat} {cv : Value} {t : Nat → ByteArray} {s : ByteArray} (h : OwnC B W cv (csF t k)) (hs : t k = s) (hk : k ≤ 1000) (hB : B ≤ W.heap.size) :
 ∃ p c w', (Builtin.append_ #[25, 25] 25 #[cv, .slice (some ⟨W.heap.size, 0, none⟩) 1 1]).run Tryz.prog (W.alloc (.cells #[.int .i64 k, .string s] 46)) = .ok (.slice p (k + 1) c) w' ∧ OwnC B w' (.slice p (k + 1) c) (csF t (k + 1)) ∧ Below B W w' := by
 have hal : Below W.heap.size W (W.alloc (.cells #[.int .i64 k, .string s] 46)) := (Below.refl _ _).alloc (Nat.le_refl _) _
 obtain ⟨v', w', hr, ho, hg⟩ := Tryz.appendC 25 (h.below hal) (readsC_one W k s) (by simp [csF_len]; omega) (Nat.le_trans hB hal.size)
 rw [← hs, ← csF_succ] at ho
 obtain ⟨p, c, e, -, -⟩ := ho.reads.slice
 rw [csF_len] at e
 subst e
 exact ⟨p, c, w', hr, ho, (hal.mono hB).grown hg (Nat.le_trans hB hal.size) (fun g hx => (World.ownsRow.lt (h.below hal) g hx).1)⟩
theorem vecMatWalk (a : Int) (v1 v2 : Value) (s1 s2 : List ByteArray) (w : World) (wa : -9223372036854775808 ≤ a ∧ a ≤ 9223372036854775807) (hv1 : StrsIn w v1 s1) (hv2 : StrsIn w v2 s2) (hT : TabOk w)
 (hB : Calls Tryz.prog 11 #[] w fun e w' => e = .returned (.bool true) ∧ Below w.heap.size w w') :
 Calls Tryz.prog 10 #[.int .i64 a, v1, v2] w fun e w' => e = .returned (.bool true) ∧ Below w.heap.size w w' := by
 have HT : Hid (TabOk w) := hT
 have HV1 := Lib.hid hv1
 have HB : Hid (Below w.heap.size w w) := Below.refl _ _
 obtain ⟨R, hR, R1, R5, ra, rb⟩ := dim5 a
 have HR := Lib.hid hR
 obtain ⟨wa0, wa1⟩ := wa
 obtain ⟨n, hn0⟩ : ∃ n, s2.length = n := ⟨_, rfl⟩
 obtain ⟨p2, cap2, rfl, l1, l2⟩ := hv2.slice
 have HV2 := Lib.hid hv2
 have HN0 := Lib.hid hn0
 rw [hn0] at HV2 l1 ⊢
 unfold maxLen at l2
 clear hT hv1 hv2 hR hn0
 go_enter Tryz.func10, Tryz.ntmps10
 go_wp2_with fail
 with_reducible refine (hB).mono ?_
 rintro e w1 ⟨rfl, hb⟩
 replace HB := Lib.hid (HB.out.trans (hb.mono HB.out.size))
 clear hb
 clear hB
 go_wp2_with fail
 rw [HR.out]
 clear HR ra rb wa0 wa1
 with_reducible refine (Tryz.matrix R R v1 s1 _ (HV1.out.below HB.out) (by omega) (by omega) (by omega) (by omega)).mono ?_
 rintro e w2 ⟨⟨lx, rfl, hx⟩, hb⟩
 replace HB := Lib.hid (HB.out.trans (hb.mono HB.out.size))
 clear hb
 have HX := Lib.hid hx
 clear hx
 go_wp2_with fail
 with_reducible refine (Tryz.matNew lx R R _ (matQ s1) _ HX.out (fun i j _ _ => matQ_get s1 i j) (by omega) (by omega) (by omega) (by omega)).mono ?_
 rintro e w3 ⟨⟨um, rfl, hu⟩, hb⟩
 replace HX := Lib.hid (HX.out.below hb)
 replace HB := Lib.hid (HB.out.trans (hb.mono HB.out.size))
 clear hb
 have HU := Lib.hid hu
 clear hu
 go_wp2_with fail
 have HTZ : Hid (TabOk w3) := HT.out.after HB.out
 go_loopw [11, 12, 13] (fun xv cv iv wr => ∃ i : Nat, iv = .int .i64 i ∧ i ≤ R ∧ FillAt w3 i xv cv wr) (fun _ _ iv _ => R - (intOf iv).toNat)
 case atStart => exact ⟨0, rfl, Nat.zero_le _, fun _ => 0, ⟨fun _ => rfl, [], World.ownsRow_nil _ _ _ _, fun j hj => by omega⟩, World.ownsRow_nil _ _ _ _, fun _ => rfl, fun j hj => by omega, Below.refl _ _⟩
 case round =>
  obtain ⟨i, rfl, hi, hfill⟩ := hrel
  obtain ⟨⟨xp, xc, rfl⟩, ⟨cp, cc, rfl⟩⟩ := hfill.slices
  have hbz : Below w3.heap.size w3 wr := by obtain ⟨f, -, -, -, -, h⟩ := hfill; exact h
  have HFL := Lib.hid hfill
  clear hfill
  by_cases hlt : i < R
  ·have i0 : (0 : Int) ≤ (i : Int) := by omega
   have i1 : (i : Int) < (R : Int) := by omega
   have i2 : (i : Int) ≤ 5 := by omega
   have HBZ := Lib.hid hbz
   -- the text that is read
   by_cases hin : i < n
   ·obtain ⟨s, hs⟩ : ∃ s, s2[i]? = some s := ⟨_, List.getElem?_eq_getElem (by have := HN0.out; omega)⟩
    obtain ⟨g, o, cap3, he, hg, d0, hsz⟩ := (HV2.out.below (HB.out.trans (hbz.mono HB.out.size))).nth hs
    simp only [Value.slice.injEq] at he
    obtain ⟨rfl, -, rfl⟩ := he
    unfold maxLen at hsz
    have i3 : (i : Int) < (n : Int) := by omega
    have i3' : decide (i < n) = true := by simpa using hin
    have HCT : Hid (∀ W, Calls Tryz.prog 15 #[.string s, .int .i64 20] W fun e w' => (∃ t : ByteArray, e = .returned (.string t) ∧ t.size ≤ 20) ∧ w' = W) := fun W => Tryz.cutText s 20 W (by omega) (by omega)
    clear hs hg hbz hin
    go_wp2_with fail
    with_reducible refine (HCT.out _).mono ?_
    rintro e w21 ⟨⟨t, rfl, ht⟩, hw⟩
    subst hw
    clear d0 hsz HCT
    go_wp2_with fail
    with_reducible refine (Tryz.lawF t _ (by omega)).mono ?_
    rintro e w22 ⟨⟨fv, q, rfl, hf, hown⟩, hb⟩
    obtain ⟨fa, rfl⟩ := frac_pointer hf
    have HOWN := Lib.hid hown
    obtain ⟨xp', xc', w23, hrun, hmid, hfa⟩ := Tryz.fillOne (HFL.out.below hb) hf (by omega)
    have HMID := Lib.hid hmid
    have HFA := Lib.hid hfa
    have HB23 : Hid (Below w3.heap.size w3 w23) := by obtain ⟨f, -, -, -, -, h⟩ := hmid; exact h
    clear hf hown hb hmid hfa HFL HBZ
    go_wp2_with (at_builtin; refine wpList_append rfl (.tmp 60) (.tmp 62) 62 rfl rfl rfl hrun ?_)
    clear hrun
    with_reducible refine (Tryz.fracText _ q 120 _ HFA.out (by omega) (by omega) (HTZ.out.after HB23.out)).mono ?_
    rintro e w24 ⟨rfl, hb⟩
    obtain ⟨tq, htq⟩ : ∃ s : ByteArray, (⟨(textQ q).toArray⟩ : ByteArray) = s := ⟨_, rfl⟩
    rw [htq] at HOWN ⊢
    obtain ⟨cp', cc', w25, hrun, hfill⟩ := Tryz.fillTwo (HMID.out.below hb) htq HOWN.out (by omega)
    have HN := Lib.hid hfill
    clear hb htq hfill HMID HFA HB23 HOWN
    go_wp2_with (at_builtin; refine wpList_append rfl (.tmp 64) (.tmp 69) 25 rfl rfl rfl hrun ?_)
    go_roundw
    case rel => exact ⟨i + 1, by go_num, by omega, HN.out⟩
    case measure => simp [intOf]; omega
   ·have i3 : decide ((i : Int) < (n : Int)) = false := by simp; omega
    have i3' : decide (i < n) = false := by simpa using hin
    clear hbz hin
    go_wp2_with fail
    with_reducible refine (Tryz.lawF _ _ (by decide)).mono ?_
    rintro e w22 ⟨⟨fv, q, rfl, hf, hown⟩, hb⟩
    obtain ⟨fa, rfl⟩ := frac_pointer hf
    have HOWN := Lib.hid hown
    obtain ⟨xp', xc', w23, hrun, hmid, hfa⟩ := Tryz.fillOne (HFL.out.below hb) hf (by omega)
    have HMID := Lib.hid hmid
    have HFA := Lib.hid hfa
    have HB23 : Hid (Below w3.heap.size w3 w23) := by obtain ⟨f, -, -, -, -, h⟩ := hmid; exact h
    clear hf hown hb hmid hfa HFL HBZ
    go_wp2_with (at_builtin; refine wpList_append rfl (.tmp 60) (.tmp 62) 62 rfl rfl rfl hrun ?_)
    clear hrun
    with_reducible refine (Tryz.fracText _ q 120 _ HFA.out (by omega) (by omega) (HTZ.out.after HB23.out)).mono ?_
    rintro e w24 ⟨rfl, hb⟩
    obtain ⟨tq, htq⟩ : ∃ s : ByteArray, (⟨(textQ q).toArray⟩ : ByteArray) = s := ⟨_, rfl⟩
    rw [htq] at HOWN ⊢
    obtain ⟨cp', cc', w25, hrun, hfill⟩ := Tryz.fillTwo (HMID.out.below hb) htq HOWN.out (by omega)
    have HN := Lib.hid hfill
    clear hb htq hfill HMID HFA HB23 HOWN
    go_wp2_with (at_builtin; refine wpList_append rfl (.tmp 64) (.tmp 69) 25 rfl rfl rfl hrun ?_)
    go_roundw
    case rel => exact ⟨i + 1, by go_num, by omega, HN.out⟩
    case measure => simp [intOf]; omega
  ·have e3 : decide ((i : Int) < (R : Int)) = false := by simp; omega
   have e3' : decide (i < R) = false := by simpa using hlt
   obtain rfl : i = R := by omega
   obtain ⟨f, hx, hc, -, hq, -⟩ := HFL.out
   have HXR := Lib.hid hx
   have HCS := Lib.hid hc
   have HQ := Lib.hid hq
   have HBZ := Lib.hid hbz
   have HUr := Lib.hid (HU.out.below hbz)
   clear hx hc hq hbz HFL
   go_wp2_with fail
   with_reducible refine (Tryz.vecNew _ _ (csF (fun j => ⟨(textQ (f j)).toArray⟩) i) _ HCS.out.reads (coefOk_up (csF_ok HQ.out) (by omega)) (by rw [csF_len]; omega)).mono ?_
   rintro e w51 ⟨⟨vw, rfl, hw⟩, hb⟩
   replace HXR := Lib.hid (HXR.out.below hb)
   replace HUr := Lib.hid (HUr.out.below hb)
   replace HBZ := Lib.hid (HBZ.out.trans (hb.mono HBZ.out.size))
   clear hb
   have HW := Lib.hid hw
   clear hw
   clear HCS
   go_wp2_with fail
   with_reducible refine (Tryz.matTimes um _ i i 120 120 (matQ s1) f _ HUr.out HXR.out.read (by omega) (by omega) (by omega) (by omega) (by omega)).mono ?_
   rintro e w52 ⟨⟨b, rfl, hy, hyb⟩, hb⟩
   replace HXR := Lib.hid (HXR.out.below hb)
   replace HUr := Lib.hid (HUr.out.below hb)
   replace HW := Lib.hid (HW.out.below hb)
   replace HBZ := Lib.hid (HBZ.out.trans (hb.mono HBZ.out.size))
   clear hb
   have HY := Lib.hid hy
   clear hy
   clear HUr hyb
   obtain ⟨K, hK, hK1⟩ : ∃ K, 1 + i * (120 + 120 + 1) = K ∧ K ≤ 2000 := ⟨_, rfl, by omega⟩
   rw [hK] at HY
   have hK0 : 1 ≤ K := by omega
   have HK := Lib.hid hK
   clear hK
   go_wp2_with fail
   go_loopw [94] (fun yv wr => ∃ y : Nat, yv = .int .i64 y ∧ y ≤ i ∧ Below w52.heap.size w52 wr) (fun yv _ => i - (intOf yv).toNat)
   case atStart => exact ⟨0, rfl, Nat.zero_le _, Below.refl _ _⟩
   case round =>
    obtain ⟨y, rfl, hy, hb⟩ := hrel
    by_cases hly : y < i
    ·have HB4 := Lib.hid hb
     have y0 : (0 : Int) ≤ (y : Int) := by omega
     have y1 : (y : Int) < (i : Int) := by omega
     have y2 : (y : Int) ≤ 5 := by omega
     obtain ⟨g1, o1, c1, p1, c2, hlx, d0, hs, c3, c4, -⟩ := (HX.out.below (HBZ.out.trans (hb.mono HBZ.out.size))).nth hly
     unfold maxLen at c4
     subst hlx
     clear hb hs
     go_wp2_with fail
     clear d0
     obtain ⟨wo, hwo⟩ : ∃ wo : World, wo = wr := ⟨_, rfl⟩
     subst hwo
     go_loopw [21, 102] (fun rv kv wr => ∃ (k : Nat) (p : Option Addr) (c : Nat), kv = .int .i64 k ∧ rv = .slice p k c ∧ k ≤ i ∧ OwnC wo.heap.size wr (.slice p k c) (csF (pickT s1 y) k) ∧ Below wo.heap.size wo wr) (fun _ kv _ => i - (intOf kv).toNat)
     case atStart => exact ⟨0, none, 0, rfl, rfl, Nat.zero_le _, World.ownsRow_nil _ _ _ _, Below.refl _ _⟩
     case round =>
      obtain ⟨k, rp, rc, rfl, rfl, hk, ho, hb⟩ := hrel
      by_cases hlk : k < i
      ·have k0 : (0 : Int) ≤ (k : Int) := by omega
       have k1 : (k : Int) < (i : Int) := by omega
       have k2 : (k : Int) ≤ 5 := by omega
       obtain ⟨g2, o2, c5, p2, c6, he, d0, hs, -, -, -⟩ := (HX.out.below (HBZ.out.trans ((HB4.out.trans (hb.mono HB4.out.size)).mono HBZ.out.size))).nth hly
       simp only [Value.slice.injEq, Option.some.injEq, Addr.mk.injEq, and_true, true_and] at he
       obtain ⟨⟨rfl, rfl⟩, rfl⟩ := he
       obtain ⟨g3, o3, c7, he, d1, -⟩ := hs.nth hlk
       simp only [Value.slice.injEq, true_and] at he
       obtain ⟨rfl, rfl⟩ := he
       obtain ⟨t, ht⟩ : ∃ t, pickT s1 y k = t := ⟨_, rfl⟩
       rw [ht] at d1
       have hc6 : c6 ≤ 9223372036854775807 := by obtain ⟨p, c, e, -, h⟩ := hs.slice; simp only [Value.slice.injEq, true_and] at e; obtain ⟨-, rfl⟩ := e; unfold maxLen at h; omega
       have hc6' : i ≤ c6 := by obtain ⟨p, c, e, h, -⟩ := hs.slice; simp only [Value.slice.injEq, true_and] at e; obtain ⟨-, rfl⟩ := e; exact h
       obtain ⟨p', c', w61, hrun, hr, hb61⟩ := Tryz.rowOne ho ht (by omega) hb.size
       have HN := Lib.hid hr
       have HBN := Lib.hid (hb.trans hb61)
       clear ho hb hs ht hr hb61
       go_wp2_with (at_builtin; refine wpList_append rfl (.tmp 105) (.tmp 115) 25 rfl rfl rfl hrun ?_)
       go_roundw
       case rel => exact ⟨k + 1, p', c', by go_num, rfl, by omega, HN.out, HBN.out⟩
       case measure => simp [intOf]; omega
      ·have e3 : decide ((k : Int) < (i : Int)) = false := by simp; omega
       have e3' : decide (k < i) = false := by simpa using hlk
       obtain rfl : k = i := by omega
       have HRO := Lib.hid ho
       have HB5 := Lib.hid (HB4.out.trans (hb.mono HB4.out.size))
       clear ho hb HB4
       go_wp2_with fail
       with_reducible refine (Tryz.vecNew _ _ (csF (pickT s1 y) k) _ HRO.out.reads (coefOk_up (csF_ok fun j _ => matQ_get s1 y j) (by omega)) (by rw [csF_len]; omega)).mono ?_
       rintro e w71 ⟨⟨vv, rfl, hv⟩, hb⟩
       replace HB5 := Lib.hid (HB5.out.trans (hb.mono HB5.out.size))
       clear hb
       have HVV := Lib.hid hv
       clear hv
       clear HRO
       obtain ⟨ya, d5, -, hyf⟩ := (HY.out.below HB5.out).cell hly
       have HC0 : Hid (CellI w71 b y (.pointer ya)) := ⟨(HY.out.below HB5.out).lt, d5⟩
       have HYF := Lib.hid hyf
       have HVW := Lib.hid (HW.out.below HB5.out)
       have HE : Hid (ordQ (Vm.dot 0 (Vm.keep (termsOf (csF (pickT s1 y) k))) (Vm.keep (termsOf (csF (fun j => ⟨(textQ (f j)).toArray⟩) k)))) (dotF (matQ s1 y) f k) = 0) := ordQ_zero.2 (csF_dot (fun j _ => matQ_get s1 y j) HQ.out)
       have hl1 : (Vm.keep (termsOf (csF (pickT s1 y) k))).length ≤ 5 := Nat.le_trans csF_short (by omega)
       have hl2 : (Vm.keep (termsOf (csF (fun j => (⟨(textQ (f j)).toArray⟩ : ByteArray)) k))).length ≤ 5 := Nat.le_trans csF_short (by omega)
       obtain ⟨L1, hL1⟩ : ∃ L, Vm.keep (termsOf (csF (pickT s1 y) k)) = L := ⟨_, rfl⟩
       obtain ⟨L2, hL2⟩ : ∃ L, Vm.keep (termsOf (csF (fun j => (⟨(textQ (f j)).toArray⟩ : ByteArray)) k)) = L := ⟨_, rfl⟩
       rw [hL1] at HVV HE hl1
       rw [hL2] at HVW HE hl2
       clear d5 hyf hL1 hL2
       go_wp2_with fail
       refine wp_region_held_drew (S := fun w' => w'.cell? ⟨b, y, none⟩ = some (.pointer ya)) (by kernel_rfl) HC0.out.is (fun hHeld => ?_)
       replace HB5 := Lib.hid (HB5.out.drew)
       replace HVV := Lib.hid (HVV.out.below (Below.refl _ _).drew)
       replace HVW := Lib.hid (HVW.out.below (Below.refl _ _).drew)
       replace HC0 := Lib.hid (HC0.out.below (Below.refl _ _).drew)
       replace HYF := Lib.hid (HYF.out.below (Below.refl _ _).drew)
       clear hHeld
       generalize w71.drew = w71d at *
       have hHeld : (fun w' : World => w'.cell? ⟨b, y, none⟩ = some (.pointer ya)) w71d := HC0.out.is
       refine takeY 0 (h := ?_)
       refine takeY 1 (h := ?_)
       refine takeY 3 (h := ?_)
       (try simp only [Act.put, List.setIfInBounds_toArray, List.set_cons_zero, List.set_cons_succ])
       refine takeY 4 (h := ?_)
       refine takeY 5 (h := ?_)
       refine takeY 6 (h := ?_)
       (try simp only [Act.put, List.setIfInBounds_toArray, List.set_cons_zero, List.set_cons_succ])
       refine wpAnyH_ready (rs := [2]) (by kernel_rfl) (by simp) ?_
       refine AllReadyH.cons (by (simp only [List.getElem?_toArray, List.getElem?_cons_succ, List.getElem?_cons_zero]) <;> rfl) (fun KX hK => ?_) AllReadyH.nil
       go_simp
       with_reducible refine (Tryz.vecDot vv vw L1 L2 120 120 1206 _ HVV.out HVW.out (by omega) (by omega) (by omega) (by omega) (by omega) (by omega)).mono ?_
       rintro e w71d21 ⟨⟨r, rfl, hr⟩, hb⟩
       clear hHeld
       replace HB5 := Lib.hid (HB5.out.trans (hb.mono HB5.out.size))
       replace HVV := Lib.hid (HVV.out.below hb)
       replace HVW := Lib.hid (HVW.out.below hb)
       replace HC0 := Lib.hid (HC0.out.below hb)
       replace HYF := Lib.hid (HYF.out.below hb)
       clear hb
       have HD := Lib.hid hr
       clear hr
       refine hK.out _ _ HC0.out.is (fun hHeld => ?_)
       clear hK KX
       (try simp only [Act.put, List.setIfInBounds_toArray, List.set_cons_zero, List.set_cons_succ])
       refine wpAnyH_ready (rs := [7]) (by kernel_rfl) (by simp) ?_
       refine AllReadyH.cons (by (simp only [List.getElem?_toArray, List.getElem?_cons_succ, List.getElem?_cons_zero]) <;> rfl) (fun KX hK => ?_) AllReadyH.nil
       go_simp
       with_reducible refine (Tryz.cmpA _ _ _ _ 1206 K _ HD.out HYF.out (by omega) hK0 (by omega) (by omega)).mono ?_
       rintro e w71d22 ⟨rfl, hb⟩
       rw [HE.out]
       clear hHeld
       replace HB5 := Lib.hid (HB5.out.trans (hb.mono HB5.out.size))
       replace HVV := Lib.hid (HVV.out.below hb)
       replace HVW := Lib.hid (HVW.out.below hb)
       replace HC0 := Lib.hid (HC0.out.below hb)
       replace HYF := Lib.hid (HYF.out.below hb)
       replace HD := Lib.hid (HD.out.below hb)
       clear hb
       refine hK.out _ _ HC0.out.is (fun hHeld => ?_)
       clear hK KX
       (try simp only [Act.put, List.setIfInBounds_toArray, List.set_cons_zero, List.set_cons_succ])
       refine takeY 8 (h := ?_)
       (try simp only [Act.put, List.setIfInBounds_toArray, List.set_cons_zero, List.set_cons_succ])
       refine wpAnyH_done (by kernel_rfl) ?_ _
       clear hHeld HVV HVW HC0 HYF HD HE
       go_wp2
       go_roundw
       case rel => exact ⟨y + 1, by go_num, by omega, HB5.out⟩
       case measure => simp [intOf]; omega
    ·have e3 : decide ((y : Int) < (i : Int)) = false := by simp; omega
     have e3' : decide (y < i) = false := by simpa using hly
     have HXE := Lib.hid (HXR.out.below hb)
     have HBE := Lib.hid (HBZ.out.trans (hb.mono HBZ.out.size))
     clear hb
     go_wp2_with fail
     with_reducible refine (Tryz.Of 1 _ (by omega) (by omega)).mono ?_
     rintro e w81 ⟨⟨r, rfl, hr⟩, hb⟩
     obtain ⟨ra, rfl⟩ := frac_pointer hr
     replace HXE := Lib.hid (HXE.out.below hb)
     replace HBE := Lib.hid (HBE.out.trans (hb.mono HBE.out.size))
     obtain ⟨xp', xc', w82, hrun, hx, -, hg⟩ := Tryz.appendF 62 HXE.out (hr.more (show 1 ≤ 120 by omega)) (by omega) HBE.out.size
     have hal : Below w81.heap.size w81 (w81.alloc (.cells #[.pointer ra] 30)) := (Below.refl _ _).alloc (Nat.le_refl _) _
     have hodd := (HXE.out.below hal).odd
     have hbl := HBE.out.trans (hal.mono HBE.out.size)
     have HBF := Lib.hid (hbl.grown hg hbl.size (fun g hx => (hodd g hx).2.1))
     have HXF := Lib.hid hx.read
     clear hr hb hx hg hal hodd hbl HXE HBE
     go_wp2_with (at_builtin; refine wpList_append rfl (.tmp 135) (.tmp 137) 62 rfl rfl rfl hrun ?_)
     clear hrun
     with_reducible refine (Tryz.matTimesBad um _ i i 120 120 (i + 1) (matQ s1) _ _ (HU.out.below HBF.out) HXF.out (by omega)).mono ?_
     rintro e w83 ⟨rfl, hb⟩
     have HE := Lib.hid (HB.out.trans ((HBF.out.trans (hb.mono HBF.out.size)).mono HB.out.size))
     clear hb HBF HXF
     go_wp2
     go_ret
     exact ⟨rfl, HE.out⟩
end Go.Proofs.Mt
