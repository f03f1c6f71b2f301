/- What IndexFunc and DeleteFunc at terms return. What DeleteFunc at terms returns: those that are not 0. What DeleteFunc at terms returns: the walk. What New of the package vec returns. What Coefs of the package vec returns. -/
import Derived.Test.YtcnjcfoaoaldeaaGreatDoorVw
import Derived.Test.YtcnjcfoaoaldeaaGreatDoorFg
import Derived.Laws.MakeOwn
namespace Go.Proofs.Vt
open Go.RowKit Go.Proofs.Wd Go.Proofs.Fr
open Vm (T Rise Full In)
set_option linter.unusedVariables false
/-- What IndexFunc tells: the first one that is 0. -/
def IdxSaid (ts : T) (e : Ending) : Prop :=
  (e = .returned (.int .i64 (-1)) ∧ ∀ t ∈ ts, t.2 ≠ 0) ∨ ∃ (i : Nat) (t : Int × Rat), e = .returned (.int .i64 i) ∧ ts[i]? = some t ∧ t.2 = 0 ∧ ∀ u ∈ ts.take i, u.2 ≠ 0
set_option maxHeartbeats 4000000 in
set_option maxRecDepth 100000 in
theorem Tryz.indexT (v : Value) (ts : T) (k : Nat) (w : World) (h : Terms w v ts k) :
    Calls Tryz.prog 118 #[v, .func (.func 58) #[] #[]] w fun e w' => IdxSaid ts e ∧ Below w.heap.size w w' := by
  obtain ⟨p, cap, rfl, l1, l2⟩ := h.slice
  have H : Hid (Terms w _ ts k) := h
  clear h
  unfold maxLen at l2
  go_enter Tryz.func118, Tryz.ntmps118
  go_wp2_with fail
  go_loopw [8] (fun iv wr => ∃ i : Nat, i ≤ ts.length ∧ iv = .int .i64 i ∧ (∀ u ∈ ts.take i, u.2 ≠ 0) ∧ Below w.heap.size w wr) (fun iv _ => ts.length - (intOf iv).toNat)
  case atStart => exact ⟨0, Nat.zero_le _, rfl, fun u hu => by simp at hu, Below.refl _ _⟩
  case round =>
    obtain ⟨i, hi, rfl, hz, hb⟩ := hrel
    have HB : Hid (Below w.heap.size w wr) := hb
    have HZ := Lib.hid hz
    clear hb hz
    by_cases hlt : i < ts.length
    · obtain ⟨t, ht⟩ : ∃ t, ts[i]? = some t := ⟨_, List.getElem?_eq_getElem hlt⟩
      obtain ⟨g, o, cap', f, he, -, -, c0, c1, hf, hg⟩ := H.out.nth ht
      simp only [Value.slice.injEq, true_and] at he
      obtain ⟨rfl, rfl⟩ := he
      obtain ⟨fa, rfl⟩ := frac_pointer hf
      rw [← HB.out.cell hg] at c0 c1
      have HF := Lib.hid (hf.below HB.out)
      have HT := Lib.hid ht
      clear ht hf hg
      go_wp2_with fail
      with_reducible refine (Tryz.none_ t.1 (.pointer fa) t.2 k _ HF.out).mono ?_
      rintro e w5 ⟨rfl, hb5⟩
      have HB5 := Lib.hid (HB.out.trans (hb5.mono HB.out.size))
      clear hb5 HB c0 c1 HF
      by_cases h0 : t.2 = 0
      · have e1 : decide (t.2 = 0) = true := by simpa using h0
        have HR : Hid (IdxSaid ts (.returned (.int .i64 i))) := .inr ⟨i, t, rfl, HT.out, h0, HZ.out⟩
        have H0 := Lib.hid h0
        clear h0 HT HZ
        go_wp2
        go_ret
        exact ⟨HR.out, HB5.out⟩
      · have e1 : decide (t.2 = 0) = false := by simpa using h0
        have HR : Hid (∀ u ∈ ts.take (i + 1), u.2 ≠ 0) := fun u hu => by
          have hT := HT.out
          rw [List.getElem?_eq_getElem hlt] at hT
          rw [List.take_succ_eq_append_getElem hlt, Option.some.inj hT] at hu
          rcases List.mem_append.1 hu with hu | hu
          · exact HZ.out u hu
          · rw [List.mem_singleton.1 hu]; exact h0
        have H0 := Lib.hid h0
        clear h0 HT HZ
        go_wp2
        go_roundw
        case rel => exact ⟨i + 1, by omega, by go_num, HR.out, HB5.out⟩
        case measure => simp [intOf]; omega
    · have e1 : decide (i < ts.length) = false := by simpa using hlt
      have HR : Hid (IdxSaid ts (.returned (.int .i64 (-1)))) := .inl ⟨rfl, fun t ht => HZ.out t (by rw [List.take_of_length_le (by omega)]; exact ht)⟩
      clear HZ
      go_wp2
      go_ret
      exact ⟨HR.out, HB.out⟩
end Go.Proofs.Vt
namespace Go.Proofs.Vt
open Go.RowKit Go.Proofs.Wd Go.Proofs.Fr
open Vm (T Rise Full In)
set_option linter.unusedVariables false
theorem grownBy_trans {a b c : World} {row : Option Nat} (h : a.grownBy b row) (k : b.grownBy c row) : a.grownBy c row :=
  ⟨k.os.trans h.os, k.tape.trans h.tape, k.output.trans h.output, Nat.le_trans h.size k.size, fun x hx hr => (k.block x (Nat.lt_of_lt_of_le hx h.size) hr).trans (h.block x hx hr)⟩
theorem grownBy_below {w w' : World} (h : Below w.heap.size w w') (row : Option Nat) : w.grownBy w' row :=
  ⟨h.os, h.tape, h.output, h.size, fun x hx _ => h.block x hx⟩
theorem grownBy_set (w : World) (g j : Nat) (v : Value) : w.grownBy (w.setCell ⟨g, j, none⟩ v) (some g) :=
  ⟨rfl, rfl, rfl, by simp, fun x hx hr => Below.heap_setCell w _ v x (fun e => hr (by rw [e]))⟩
/-- What a term's cells hold in a block. -/
def TermAt (w : World) (cur : Array Value) (x : Nat) (t : Int × Rat) (k : Nat) : Prop := ∃ f, cur[x * 2]? = some (.int .i64 t.1) ∧ cur[x * 2 + 1]? = some f ∧ FracIs w f t.2 k
/-- What DeleteFunc's loop keeps to. -/
structure DelAt (w0 : World) (g : Nat) (ts : T) (k j i : Nat) (wr : World) (cur : Array Value) : Prop where
  cells : CellsAt wr g cur 87
  size : ts.length * 2 ≤ cur.size
  head : ∃ z, cur[0]? = some (.int .i64 z)
  count : i = (Vm.keep (ts.take j)).length
  less : i < j
  done : ∀ x t, (Vm.keep (ts.take j))[x]? = some t → TermAt wr cur x t k
  left : ∀ x t, j ≤ x → ts[x]? = some t → TermAt wr cur x t k
  grown : w0.grownBy wr (some g)
theorem DelAt.below {w0 wr w' : World} {g k j i : Nat} {ts : T} {cur : Array Value} (h : DelAt w0 g ts k j i wr cur) (hb : Below wr.heap.size wr w') : DelAt w0 g ts k j i w' cur := by
  obtain ⟨h1, h2, h3, h4, h5, h6, h7, h8⟩ := h
  exact ⟨h1.below hb, h2, h3, h4, h5, fun x t ht => by obtain ⟨f, a, b, c⟩ := h6 x t ht; exact ⟨f, a, b, c.below hb⟩, fun x t hx ht => by obtain ⟨f, a, b, c⟩ := h7 x t hx ht; exact ⟨f, a, b, c.below hb⟩, grownBy_trans h8 (grownBy_below hb _)⟩
theorem keep_take {ts : T} {j : Nat} {t : Int × Rat} (ht : ts[j]? = some t) : Vm.keep (ts.take (j + 1)) = Vm.keep (ts.take j) ++ (if t.2 = 0 then [] else [t]) := by
  have hlt : j < ts.length := (List.getElem?_eq_some_iff.1 ht).1
  rw [List.take_succ_eq_append_getElem hlt]
  rw [List.getElem?_eq_getElem hlt] at ht
  rw [Option.some.inj ht]
  unfold Vm.keep
  rw [List.filter_append, List.filter_cons]
  by_cases h : t.2 = 0
  · rw [if_neg (by simp [h]), if_pos h]; simp
  · rw [if_pos (by simp [h]), if_neg h]; simp
theorem DelAt.skip {w0 wr : World} {g k j i : Nat} {ts : T} {cur : Array Value} {t : Int × Rat} (h : DelAt w0 g ts k j i wr cur) (ht : ts[j]? = some t) (h0 : t.2 = 0) : DelAt w0 g ts k (j + 1) i wr cur := by
  obtain ⟨h1, h2, h3, h4, h5, h6, h7, h8⟩ := h
  have e := keep_take ht
  rw [if_pos h0, List.append_nil] at e
  exact ⟨h1, h2, h3, by rw [e]; exact h4, by omega, by rw [e]; exact h6, fun x t hx ht => h7 x t (by omega) ht, h8⟩
theorem get_set {cur : Array Value} {a x : Nat} {u : Value} (h : a ≠ x) : (cur.setIfInBounds a u)[x]? = cur[x]? := by
  rw [Array.getElem?_setIfInBounds, if_neg h]
theorem get_set' {cur : Array Value} {a : Nat} {u : Value} (h : a < cur.size) : (cur.setIfInBounds a u)[a]? = some u := by
  rw [Array.getElem?_setIfInBounds, if_pos rfl, if_pos h]
/-- Writing a term into a block of terms: fractions stay. -/
theorem put_frac {w : World} {g i : Nat} {cur : Array Value} {z y : Int} {f v : Value} {q : Rat} {k : Nat} (hc : CellsAt w g cur 87) (h0 : cur[0]? = some (.int .i64 z)) (h : FracIs w v q k) :
    FracIs ((w.setCell ⟨g, i * 2, none⟩ (.int .i64 y)).setCell ⟨g, i * 2 + 1, none⟩ f) v q k := by
  have h1 := frac_store h hc h0 (by decide) (i * 2) (.int .i64 y)
  have hc1 := hc.set (i * 2) (.int .i64 y)
  have hh : ∃ z', (cur.setIfInBounds (i * 2) (.int .i64 y))[0]? = some (.int .i64 z') := by
    by_cases hi : i = 0
    · subst hi
      exact ⟨y, get_set' (by have := (Array.getElem?_eq_some_iff.1 h0).1; omega)⟩
    · exact ⟨z, by rw [get_set (by omega)]; exact h0⟩
  obtain ⟨z', hz⟩ := hh
  exact frac_store h1 hc1 hz (by decide) (i * 2 + 1) f
theorem DelAt.put {w0 wr : World} {g k j i : Nat} {ts : T} {cur : Array Value} {t : Int × Rat} {f : Value} (h : DelAt w0 g ts k j i wr cur) (ht : ts[j]? = some t) (h0 : t.2 ≠ 0) (hf : FracIs wr f t.2 k) :
    DelAt w0 g ts k (j + 1) (i + 1) ((wr.setCell ⟨g, i * 2, none⟩ (.int .i64 t.1)).setCell ⟨g, i * 2 + 1, none⟩ f) ((cur.setIfInBounds (i * 2) (.int .i64 t.1)).setIfInBounds (i * 2 + 1) f) := by
  obtain ⟨h1, h2, ⟨z, h3⟩, h4, h5, h6, h7, h8⟩ := h
  have hlt : j < ts.length := (List.getElem?_eq_some_iff.1 ht).1
  have e := keep_take ht
  rw [if_neg h0] at e
  have sz : i * 2 + 1 < cur.size := by omega
  have get : ∀ x, x ≠ i → ((cur.setIfInBounds (i * 2) (.int .i64 t.1)).setIfInBounds (i * 2 + 1) f)[x * 2]? = cur[x * 2]? ∧ ((cur.setIfInBounds (i * 2) (.int .i64 t.1)).setIfInBounds (i * 2 + 1) f)[x * 2 + 1]? = cur[x * 2 + 1]? := fun x hx => by
    rw [get_set (by omega), get_set (by omega), get_set (by omega), get_set (by omega)]
    exact ⟨rfl, rfl⟩
  have keepT : ∀ x u, x ≠ i → TermAt wr cur x u k → TermAt ((wr.setCell ⟨g, i * 2, none⟩ (.int .i64 t.1)).setCell ⟨g, i * 2 + 1, none⟩ f) ((cur.setIfInBounds (i * 2) (.int .i64 t.1)).setIfInBounds (i * 2 + 1) f) x u k := by
    rintro x u hx ⟨f', a, b, c⟩
    exact ⟨f', by rw [(get x hx).1]; exact a, by rw [(get x hx).2]; exact b, put_frac h1 h3 c⟩
  refine ⟨(h1.set (i * 2) _).set (i * 2 + 1) _, by simpa using h2, ?_, by rw [e, List.length_append, ← h4]; rfl, by omega, fun x u hu => ?_, fun x u hx hu => keepT x u (by omega) (h7 x u (by omega) hu), grownBy_trans (grownBy_trans h8 (grownBy_set _ _ _ _)) (grownBy_set _ _ _ _)⟩
  · by_cases hi : i = 0
    · subst hi
      exact ⟨t.1, by rw [get_set (by omega)]; exact get_set' (by omega)⟩
    · exact ⟨z, by rw [get_set (by omega), get_set (by omega)]; exact h3⟩
  · rw [e] at hu
    by_cases hx : x < i
    · rw [List.getElem?_append_left (by omega)] at hu
      exact keepT x u (by omega) (h6 x u hu)
    · rw [List.getElem?_append_right (by omega), ← h4] at hu
      obtain rfl : x = i := by
        have := (List.getElem?_eq_some_iff.1 hu).1
        simp at this; omega
      rw [Nat.sub_self] at hu
      obtain rfl : t = u := by simpa using hu
      exact ⟨f, by rw [get_set (by omega)]; exact get_set' (by omega), get_set' (by simp; omega), put_frac h1 h3 hf⟩
theorem keep_full {ts : T} (h : ∀ t ∈ ts, t.2 ≠ 0) : Vm.keep ts = ts := by
  unfold Vm.keep
  rw [List.filter_eq_self]
  intro t ht
  simpa using h t ht
/-- Where the loop begins. -/
theorem DelAt.start {B : Nat} {w w' : World} {g i k cap : Nat} {ts : T} {t : Int × Rat} (h : OwnT B w (.slice (some ⟨g, 0, none⟩) ts.length cap) ts k) (hb : Below w.heap.size w w') (ht : ts[i]? = some t) (h0 : t.2 = 0) (hn : ∀ u ∈ ts.take i, u.2 ≠ 0) :
    ∃ cur, DelAt w g ts k (i + 1) i w' cur := by
  have hlt : i < ts.length := (List.getElem?_eq_some_iff.1 ht).1
  have hT := h.terms.below hb
  obtain ⟨p', cap', e, -, -, hT⟩ := hT
  rcases hT with rfl | ⟨g', o', cur, rfl, hc, hx⟩
  · simp at ht
  · simp only [Value.slice.injEq, Option.some.injEq, Addr.mk.injEq, and_true, true_and] at e
    obtain ⟨⟨rfl, rfl⟩, rfl⟩ := e
    have hx' : ∀ x t, ts[x]? = some t → TermAt w' cur x t k := fun x t ht => by
      obtain ⟨f, a, b, c⟩ := hx x t ht
      rw [Nat.zero_add] at a b
      exact ⟨f, a, b, c⟩
    have hk : Vm.keep (ts.take (i + 1)) = ts.take i := by
      rw [keep_take ht, if_pos h0, List.append_nil, keep_full hn]
    refine ⟨cur, hc, ?_, ?_, by rw [hk, List.length_take]; omega, by omega, ?_, fun x t _ ht => hx' x t ht, grownBy_below hb _⟩
    · obtain ⟨t2, ht2⟩ : ∃ t, ts[ts.length - 1]? = some t := ⟨_, List.getElem?_eq_getElem (by omega)⟩
      obtain ⟨f, -, b, -⟩ := hx' _ _ ht2
      have := (Array.getElem?_eq_some_iff.1 b).1
      omega
    · obtain ⟨t2, ht2⟩ : ∃ t, ts[0]? = some t := ⟨_, List.getElem?_eq_getElem (by omega)⟩
      obtain ⟨f, a, -, -⟩ := hx' _ _ ht2
      rw [Nat.zero_mul] at a
      exact ⟨_, a⟩
    · intro x u hu
      rw [hk, List.getElem?_take] at hu
      split at hu
      · exact hx' x u hu
      · simp at hu
/-- What clear does to the rest of a block of terms. -/
theorem Tryz.clearT (ty : TypeId) {w : World} {g o m cap : Nat} {cur : Array Value} (hc : CellsAt w g cur 87) (hm : o + m * 2 ≤ cur.size) (h0 : 0 < m) :
    ∃ w' cur', (Builtin.clear_ #[85] ty #[.slice (some ⟨g, o, none⟩) m cap]).run Tryz.prog w = .ok (.tuple #[]) w' ∧ CellsAt w' g cur' 87 ∧ (∀ x, x < o → cur'[x]? = cur[x]?) ∧ w.grownBy w' (some g) := by
  obtain ⟨i0, hi, hz0, hz1, hz2⟩ := info_parts Tryz.infoTerm
  obtain ⟨m, rfl⟩ : ∃ n, m = n + 1 := ⟨m - 1, by omega⟩
  have hl : (Builtin.zeroCells #[.int .i64 0, .pointer none] (m + 1)).toList.length = (m + 1) * 2 := by
    rw [Array.length_toList, size_zeroCells]; rfl
  have h1 : ∀ v ∈ (Builtin.zeroCells #[.int .i64 0, .pointer none] (m + 1)).toList, v.oneCell' = true := by
    intro v hv
    unfold Builtin.zeroCells at hv
    simp only [Array.toList_map, List.mem_map] at hv
    obtain ⟨x, -, rfl⟩ := hv
    show (#[Value.int .i64 0, .pointer none][x % 2]!).oneCell' = true
    rcases Nat.mod_two_eq_zero_or_one x with e | e <;> rw [e] <;> rfl
  obtain ⟨zs, hzs⟩ : ∃ zs, (Builtin.zeroCells #[.int .i64 0, .pointer none] (m + 1)).toList = zs := ⟨_, rfl⟩
  rw [hzs] at hl h1
  have hst := run_storeCells_at (P := Tryz.prog) g o 87 zs 0 cur w hc (by rw [hl]; omega) h1
  refine ⟨_, (cur.toList.take (o + 0) ++ zs ++ cur.toList.drop (o + 0 + zs.length)).toArray, ?_, setRow_heap w g cur _ _ _ hc, fun x hx => ?_, ⟨rfl, rfl, rfl, by simp, fun x hx hr => setRow_other w g x _ (fun e => hr (by rw [e]))⟩⟩
  · simp [Builtin.clear_, run_underlying Tryz.underlying85, zeroValue, typeInfo, hi, hz0, Value.cells, hzs, hst]
  · rw [List.getElem?_toArray, List.append_assoc, List.getElem?_append_left (by rw [List.length_take, Array.length_toList]; omega), List.getElem?_take_of_lt (by omega), Array.getElem?_toList]
end Go.Proofs.Vt
namespace Go.Proofs.Vt
open Go.RowKit Go.Proofs.Wd Go.Proofs.Fr
open Vm (T Rise Full In)
set_option linter.unusedVariables false
theorem Tryz.termsTo (p : Option Addr) (n cap k : Nat) (hk : k ≤ n) (hn : n ≤ cap) (w : World) : (Instr.slice 85 (.slice p n cap) none (some (.int .i64 k)) none).run Tryz.prog w = .ok (sliced p 0 k cap 2) w := by
  have h := run_slice_h (P := Tryz.prog) (w := w) 85 p n cap (by simp [Program.elem, Tryz.underlying85]) .i64 k (by omega) (by omega)
  rw [h, show Tryz.prog.elem 85 = 87 by simp [Program.elem, Tryz.underlying85], Tryz.sizeOf87]
  rfl
theorem Tryz.termsFrom (p : Option Addr) (n cap k : Nat) (hk : k ≤ n) (hn : n ≤ cap) (hc : cap ≤ 9223372036854775807) (w : World) : (Instr.slice 85 (.slice p n cap) (some (.int .i64 k)) none none).run Tryz.prog w = .ok (sliced p k n cap 2) w := by
  have h := run_slice_l (P := Tryz.prog) (w := w) 85 p n cap (by simp [Program.elem, Tryz.underlying85]) .i64 k (by omega) (by omega)
  rw [h, show Tryz.prog.elem 85 = 87 by simp [Program.elem, Tryz.underlying85], Tryz.sizeOf87]
  rfl
set_option maxHeartbeats 4000000 in
set_option maxRecDepth 100000 in
theorem Tryz.deleteT (B : Nat) (v : Value) (ts : T) (k : Nat) (w : World) (h : OwnT B w v ts k) (hB : B ≤ w.heap.size) (hn : ts.length ≤ 1000) :
    Calls Tryz.prog 57 #[v, .func (.func 58) #[] #[]] w fun e w' => (∃ s, e = .returned s ∧ Terms w' s (Vm.keep ts) k) ∧ Below B w w' := by
  obtain ⟨p, cap, rfl, l1, l2⟩ := h.terms.slice
  have H : Hid (OwnT B w _ ts k) := h
  clear h
  unfold maxLen at l2
  go_enter Tryz.func57, Tryz.ntmps57
  go_wp2_with fail
  with_reducible refine (Tryz.indexT _ ts k _ H.out.terms).mono ?_
  rintro e w1 ⟨hsaid, hb1⟩
  rcases hsaid with ⟨rfl, hall⟩ | ⟨i0, t0, rfl, ht0, hz0, hn0⟩
  · have HR : Hid (Terms w1 (.slice p ts.length cap) (Vm.keep ts) k) := by rw [keep_full hall]; exact H.out.terms.below hb1
    have HB1 : Hid (Below B w w1) := hb1.mono hB
    clear hall hb1 H
    go_wp2
    go_ret
    exact ⟨⟨_, rfl, HR.out⟩, HB1.out⟩
  · have hi0 : i0 < ts.length := (List.getElem?_eq_some_iff.1 ht0).1
    obtain ⟨g, o, cap', f, he, -, -, -, -, -, hg⟩ := H.out.terms.nth ht0
    simp only [Value.slice.injEq, true_and] at he
    obtain ⟨rfl, rfl⟩ := he
    have ho : o = 0 := by
      obtain ⟨ps, -, h2, -⟩ := H.out
      rcases h2.2 with ⟨e, -⟩ | ⟨g', cap', cur, e, -⟩
      · simp at e
      · simp only [Value.slice.injEq, Option.some.injEq, Addr.mk.injEq] at e
        exact e.1.2.1
    subst ho
    have hgB : B ≤ g := H.out.ge g rfl
    obtain ⟨cur, hD⟩ := DelAt.start H.out hb1 ht0 hz0 hn0
    have HD : Hid (DelAt w g ts k (i0 + 1) i0 w1 cur) := hD
    have e0 : ((i0 : Int) == -1) = false := by simp
    clear ht0 hz0 hn0 hD hb1 hg
    go_wp2_with fail
    go_loopw [5, 6] (fun iv jv wr => ∃ (i j : Nat) (cur : Array Value), iv = .int .i64 i ∧ jv = .int .i64 j ∧ j ≤ ts.length ∧ DelAt w g ts k j i wr cur) (fun _ jv _ => ts.length - (intOf jv).toNat)
    case atStart => exact ⟨i0, i0 + 1, cur, rfl, by go_num, by omega, HD.out⟩
    case round =>
      obtain ⟨i, j, cur, rfl, rfl, hj, hD⟩ := hrel
      by_cases hlt : j < ts.length
      · obtain ⟨t, ht⟩ : ∃ t, ts[j]? = some t := ⟨_, List.getElem?_eq_getElem hlt⟩
        obtain ⟨f, c0, c1, hf⟩ := hD.left j t (Nat.le_refl _) ht
        obtain ⟨fa, rfl⟩ := frac_pointer hf
        rw [← hD.cells.cell] at c0 c1
        have hij := hD.less
        have HT := Lib.hid ht
        have hs1 : Below wr.heap.size wr (wr.alloc (.cells #[.int .i64 t.1, .pointer fa] 87)) := (Below.refl _ _).alloc (Nat.le_refl _) _
        have HD2 : Hid (DelAt w g ts k j i (wr.alloc (.cells #[.int .i64 t.1, .pointer fa] 87)) cur) := hD.below hs1
        have HF2 := Lib.hid (hf.below hs1)
        have HC2 : Hid (CellsAt (wr.alloc (.cells #[.int .i64 t.1, .pointer fa] 87)) wr.heap.size #[.int .i64 t.1, .pointer fa] 87) := CellsAt.new _ _ _ rfl
        clear ht hD hf hs1
        go_wp2_with fail
        generalize wr.alloc (.cells #[.int .i64 t.1, .pointer fa] 87) = w5 at *
        with_reducible refine (Tryz.none_ t.1 (.pointer fa) t.2 k _ HF2.out).mono ?_
        rintro e w6 ⟨rfl, hb6⟩
        have HD6 : Hid (DelAt w g ts k j i w6 cur) := HD2.out.below hb6
        have HF6 := Lib.hid (HF2.out.below hb6)
        have a0 := (HC2.out.below hb6).cell 0
        have a1 := (HC2.out.below hb6).cell 1
        simp only [List.getElem?_toArray, List.getElem?_cons_zero, List.getElem?_cons_succ] at a0 a1
        clear hb6 HD2 HF2 HC2 c0 c1
        by_cases h0 : t.2 = 0
        · have e1 : decide (t.2 = 0) = true := by simpa using h0
          have HR : Hid (DelAt w g ts k (j + 1) i w6 cur) := HD6.out.skip HT.out h0
          have H0 := Lib.hid h0
          clear h0 HD6 HT HF6
          go_wp2
          go_roundw
          case rel => exact ⟨i, j + 1, cur, rfl, by go_num, by omega, HR.out⟩
          case measure => simp [intOf]; omega
        · have e1 : decide (t.2 = 0) = false := by simpa using h0
          have HR : Hid (DelAt w g ts k (j + 1) (i + 1) ((w6.setCell ⟨g, i * 2, none⟩ (.int .i64 t.1)).setCell ⟨g, i * 2 + 1, none⟩ (.pointer fa)) _) := HD6.out.put HT.out h0 HF6.out
          have hsz := HD6.out.size
          have hx0 := HD6.out.cells.cell (i * 2)
          have hx1 := HD6.out.cells.cell (i * 2 + 1)
          rw [Array.getElem?_eq_getElem (by omega)] at hx0 hx1
          have hy0 := HD6.out.cells.free (i * 2)
          have hy1 := HD6.out.cells.free (i * 2 + 1)
          have H0 := Lib.hid h0
          clear h0 HD6 HT HF6
          go_wp2
          go_roundw
          case rel => exact ⟨i + 1, j + 1, _, by go_num, by go_num, by omega, by simpa using HR.out⟩
          case measure => simp [intOf]; omega
      · have e1 : decide (j < ts.length) = false := by simpa using hlt
        obtain rfl : j = ts.length := by omega
        have hij := hD.less
        obtain ⟨w5, cur5, hrun, hc5, hx5, hg5⟩ := Tryz.clearT 0 (o := i * 2) (m := ts.length - i) (cap := cap - i) hD.cells (by have := hD.size; omega) (by omega)
        have hhead : IntHead wr (some g) := by
          obtain ⟨z, hz⟩ := hD.head
          constructor
          · intro g' hg' u hu
            obtain rfl := Option.some.inj hg'
            rw [hD.cells.cell, hz] at hu
            exact ⟨z, (Option.some.inj hu).symm⟩
          · intro g' hg'
            obtain rfl := Option.some.inj hg'
            exact ⟨_, _, hD.cells, by decide⟩
        have hcount := hD.count
        rw [List.take_length] at hcount
        have HR : Hid (Terms w5 (.slice (some ⟨g, 0, none⟩) i cap) (Vm.keep ts) k) := by
          refine ⟨_, cap, by rw [hcount], by omega, by unfold maxLen; omega, .inr ⟨g, 0, cur5, rfl, hc5, fun x t ht => ?_⟩⟩
          have hxi : x < i := by rw [hcount]; exact (List.getElem?_eq_some_iff.1 ht).1
          obtain ⟨f, a, b, c⟩ := hD.done x t (by rw [List.take_length]; exact ht)
          exact ⟨f, by rw [Nat.zero_add, hx5 _ (by omega)]; exact a, by rw [Nat.zero_add, hx5 _ (by omega)]; exact b, frac_grown c hg5 hhead⟩
        have HB5 : Hid (Below B w w5) := (Below.refl B w).grown (grownBy_trans hD.grown hg5) hB (fun g' hg' => by obtain rfl := Option.some.inj hg'; exact hgB)
        have hsl : ∀ W, (Instr.slice 85 (.slice (some ⟨g, 0, none⟩) ts.length cap) (some (.int .i64 i)) none none).run Tryz.prog W = .ok (.slice (some ⟨g, i * 2, none⟩) (ts.length - i) (cap - i)) W := fun W => by
          rw [Tryz.termsFrom _ _ _ i (by omega) l1 (by omega)]
          unfold sliced
          rw [if_neg (by omega), Option.map_some, Lib.add_plain, Nat.zero_add]
        have hsr : ∀ W, (Instr.slice 85 (.slice (some ⟨g, 0, none⟩) ts.length cap) none (some (.int .i64 i)) none).run Tryz.prog W = .ok (.slice (some ⟨g, 0, none⟩) i cap) W := fun W => by
          rw [Tryz.termsTo _ _ _ i (by omega) l1]
          unfold sliced
          rw [if_neg (by omega), Option.map_some, Lib.add_plain, Nat.zero_mul]; rfl
        clear hD hc5 hx5 hg5 hhead hcount
        go_wp2_with (at_builtin; refine wpList_clear rfl (.tmp 38) 85 rfl rfl hrun ?_)
        clear hrun
        go_ret
        exact ⟨⟨_, rfl, HR.out⟩, HB5.out⟩
end Go.Proofs.Vt
namespace Go.Proofs.Vt
open Go.RowKit Go.Proofs.Wd Go.Proofs.Fr
open Vm (T Rise Full In)
set_option linter.unusedVariables false
/-- The terms that coefficients show. -/
noncomputable def termsOf (cs : C) : T := cs.map fun c => (c.1, (getQ c.2).getD 0)
theorem termsOf_len (cs : C) : (termsOf cs).length = cs.length := List.length_map _
theorem termsOf_get {cs : C} {j : Nat} {c : Int × ByteArray} {q : Rat} (h : cs[j]? = some c) (hq : getQ c.2 = some q) : (termsOf cs)[j]? = some (c.1, q) := by
  unfold termsOf
  rw [List.getElem?_map, h, Option.map_some, hq]; rfl
theorem termsOf_rise {m : Int} {cs : C} (h : CoefOk m cs) : Rise (termsOf cs) := List.pairwise_map.2 h.1
theorem termsOf_in {n : Nat} {cs : C} (h : CoefOk n cs) : In n (termsOf cs) := fun t ht => by
  obtain ⟨c, hc, rfl⟩ := List.mem_map.1 ht
  exact ⟨(h.2 c hc).1, (h.2 c hc).2.1⟩
/-- What New's loop keeps to. -/
structure NewAt (g : Nat) (ts : T) (K k : Nat) (wr : World) (cur : Array Value) : Prop where
  cells : CellsAt wr g cur 87
  size : cur.size = ts.length * 2
  head : 0 < ts.length → ∃ z, cur[0]? = some (.int .i64 z)
  done : ∀ x t, x < k → ts[x]? = some t → TermAt wr cur x t K
theorem NewAt.below {wr w' : World} {g k K : Nat} {ts : T} {cur : Array Value} (h : NewAt g ts K k wr cur) (hb : Below wr.heap.size wr w') : NewAt g ts K k w' cur := by
  obtain ⟨h1, h2, h3, h4⟩ := h
  exact ⟨h1.below hb, h2, h3, fun x t hx ht => by obtain ⟨f, a, b, c⟩ := h4 x t hx ht; exact ⟨f, a, b, c.below hb⟩⟩
theorem NewAt.put {wr : World} {g k K : Nat} {ts : T} {cur : Array Value} {t : Int × Rat} {f : Value} (h : NewAt g ts K k wr cur) (ht : ts[k]? = some t) (hf : FracIs wr f t.2 K) :
    NewAt g ts K (k + 1) ((wr.setCell ⟨g, k * 2, none⟩ (.int .i64 t.1)).setCell ⟨g, k * 2 + 1, none⟩ f) ((cur.setIfInBounds (k * 2) (.int .i64 t.1)).setIfInBounds (k * 2 + 1) f) := by
  obtain ⟨h1, h2, h3, h4⟩ := h
  have hlt : k < ts.length := (List.getElem?_eq_some_iff.1 ht).1
  obtain ⟨z, h3⟩ := h3 (by omega)
  have get : ∀ x, x ≠ k → ((cur.setIfInBounds (k * 2) (.int .i64 t.1)).setIfInBounds (k * 2 + 1) f)[x * 2]? = cur[x * 2]? ∧ ((cur.setIfInBounds (k * 2) (.int .i64 t.1)).setIfInBounds (k * 2 + 1) f)[x * 2 + 1]? = cur[x * 2 + 1]? := fun x hx => by
    rw [get_set (by omega), get_set (by omega), get_set (by omega), get_set (by omega)]
    exact ⟨rfl, rfl⟩
  refine ⟨(h1.set (k * 2) _).set (k * 2 + 1) _, by simpa using h2, fun _ => ?_, fun x u hx hu => ?_⟩
  · by_cases hi : k = 0
    · subst hi
      exact ⟨t.1, by rw [get_set (by omega)]; exact get_set' (by omega)⟩
    · exact ⟨z, by rw [get_set (by omega), get_set (by omega)]; exact h3⟩
  · by_cases e : x = k
    · subst e
      rw [ht] at hu
      obtain rfl := Option.some.inj hu
      exact ⟨f, by rw [get_set (by omega)]; exact get_set' (by omega), get_set' (by simp; omega), put_frac h1 h3 hf⟩
    · obtain ⟨f', a, b, c⟩ := h4 x u (by omega) hu
      exact ⟨f', by rw [(get x e).1]; exact a, by rw [(get x e).2]; exact b, put_frac h1 h3 c⟩
theorem NewAt.own {B : Nat} {wr : World} {g K : Nat} {ts : T} {cur : Array Value} (h : NewAt g ts K ts.length wr cur) (hB : B ≤ g) (hm : ts.length ≤ 1000) : OwnT B wr (.slice (some ⟨g, 0, none⟩) ts.length ts.length) ts K := by
  obtain ⟨h1, h2, h3, h4⟩ := h
  have hT : Terms wr (.slice (some ⟨g, 0, none⟩) ts.length ts.length) ts K := by
    refine ⟨_, _, rfl, Nat.le_refl _, by unfold maxLen; omega, .inr ⟨g, 0, cur, rfl, h1, fun j t ht => ?_⟩⟩
    obtain ⟨f, a, b, c⟩ := h4 j t (List.getElem?_eq_some_iff.1 ht).1 ht
    exact ⟨f, by rw [Nat.zero_add]; exact a, by rw [Nat.zero_add]; exact b, c⟩
  obtain ⟨ps, p1, p2, p3⟩ := hT.cells
  have hl : ps.length = ts.length := by rw [p1, List.length_map]
  refine ⟨ps, p1, ⟨cellsOf_len _, .inr ⟨g, ts.length, cur, by rw [hl], hB, h1, by omega, by unfold maxLen; omega, h2, ?_⟩⟩, p2, ?_, ?_⟩
  · apply List.ext_getElem?
    intro j
    by_cases hj : j < (cellsOf ps).length
    · have hu := List.getElem?_eq_getElem hj
      have := p3 g 0 _ _ rfl j _ hu
      rw [Lib.add_plain, Nat.zero_add, h1.cell] at this
      rw [cellsOf_len] at hj
      rw [hu, List.getElem?_take_of_lt (by omega), Array.getElem?_toList]
      exact this
    · rw [cellsOf_len] at hj
      rw [List.getElem?_eq_none (l := cur.toList.take (ps.length * 2)) (Nat.le_trans (List.length_take_le _ _) (by omega)), List.getElem?_eq_none (by rw [cellsOf_len]; omega)]
  · intro g' hg' u hu
    obtain rfl : g = g' := by simpa [Value.ownBlock] using hg'
    rw [h1.cell] at hu
    by_cases h0 : 0 < ts.length
    · obtain ⟨z, hz⟩ := h3 h0
      rw [hz] at hu
      exact ⟨z, (Option.some.inj hu).symm⟩
    · have := (Array.getElem?_eq_some_iff.1 hu).1
      omega
  · intro g' hg'
    obtain rfl : g = g' := by simpa [Value.ownBlock] using hg'
    exact ⟨_, _, h1, by decide⟩
theorem Tryz.makeN (w : World) (ts : T) (K : Nat) (hn : ts.length ≤ 1000) : ∃ w' cur, (Instr.makeSlice 85 (.int .i64 ts.length) (.int .i64 ts.length)).run Tryz.prog w = .ok (.slice (some ⟨w.heap.size, 0, none⟩) ts.length ts.length) w' ∧ NewAt w.heap.size ts K 0 w' cur ∧ Below w.heap.size w w' := by
  obtain ⟨i0, hi, hz0, hz1, hz2⟩ := info_parts Tryz.infoTerm
  have hr := run_make (P := Tryz.prog) w 85 87 i0 _ Tryz.underlying85 hi hz0 .i64 .i64 ts.length ts.length (by omega) (by omega) (by rw [hz2]; omega) (by omega)
  rw [hz1, Int.toNat_natCast] at hr
  refine ⟨_, _, hr, ⟨CellsAt.new _ _ _ rfl, size_madeCells _ _, fun h0 => ⟨0, ?_⟩, fun x t hx _ => by omega⟩, (Below.refl _ _).alloc (Nat.le_refl _) _⟩
  have h2 : 0 < ts.length * 2 := by omega
  simp [madeCells, h2, Value.cells]
set_option maxHeartbeats 8000000 in
set_option maxRecDepth 100000 in
theorem Tryz.vecNew (L : Nat) (v : Value) (cs : C) (w : World) (h : ReadsC w L v cs) (hok : CoefOk 1000 cs) (hn : cs.length ≤ 12) :
    Calls Tryz.prog 13 #[v] w fun e w' => (∃ s, e = .returned (.tuple #[s, .bool true]) ∧ VecIs w' s (Vm.keep (termsOf cs)) 120) ∧ Below w.heap.size w w' := by
  obtain ⟨p, cap, rfl, l1, l2⟩ := h.slice
  have H : Hid (ReadsC w L _ cs) := h
  have HOK : Hid (CoefOk 1000 cs) := hok
  unfold maxLen at l2
  clear h hok
  have hlen := termsOf_len cs
  obtain ⟨w1, cur1, hmk, hN1, hb1⟩ := Tryz.makeN w (termsOf cs) 120 (by omega)
  rw [hlen] at hmk
  have HN1 := Lib.hid hN1
  have HB1 := Lib.hid hb1
  have HLEN := Lib.hid hlen
  have e0 : decide (1000 < (cs.length : Int)) = false := by simp; omega
  clear hN1 hb1 hlen
  go_enter Tryz.func13, Tryz.ntmps13
  go_wp2_with fail
  go_loopw [17] (fun iv wr => ∃ (k : Nat) (cur : Array Value), iv = .int .i64 k ∧ k ≤ cs.length ∧ NewAt w.heap.size (termsOf cs) 120 k wr cur ∧ Below w.heap.size w wr) (fun iv _ => cs.length - (intOf iv).toNat)
  case atStart => exact ⟨0, cur1, rfl, Nat.zero_le _, HN1.out, HB1.out⟩
  case round =>
    obtain ⟨k, cur, rfl, hk, hN, hb⟩ := hrel
    by_cases hlt : k < cs.length
    · obtain ⟨c, hc⟩ : ∃ c, cs[k]? = some c := ⟨_, List.getElem?_eq_getElem hlt⟩
      obtain ⟨q0, q1, q, hq⟩ := HOK.out.2 c (List.mem_of_getElem? hc)
      obtain ⟨g, o, cap', he, -, -, c0, c1, hg⟩ := H.out.nth hc
      simp only [Value.slice.injEq, true_and] at he
      obtain ⟨rfl, rfl⟩ := he
      rw [← hb.cell hg] at c0 c1
      have HT := Lib.hid (termsOf_get hc hq)
      have HQ := Lib.hid hq
      have hs9 := getQ_size hq
      have hs1 : Below wr.heap.size wr (wr.alloc (.cells #[.int .i64 c.1, .string c.2] 46)) := (Below.refl _ _).alloc (Nat.le_refl _) _
      have HN2 : Hid (NewAt w.heap.size (termsOf cs) 120 k (wr.alloc (.cells #[.int .i64 c.1, .string c.2] 46)) cur) := hN.below hs1
      have HB2 := Lib.hid (hb.trans (hs1.mono hb.size))
      have HC2 : Hid (CellsAt (wr.alloc (.cells #[.int .i64 c.1, .string c.2] 46)) wr.heap.size #[.int .i64 c.1, .string c.2] 46) := CellsAt.new _ _ _ rfl
      have e1 : decide (c.1 < 0) = false := by simp; omega
      have e2 : decide (999 < c.1) = false := by simp; omega
      clear hc hq hN hs1 hg hb
      go_wp2_with fail
      generalize wr.alloc (.cells #[.int .i64 c.1, .string c.2] 46) = w5 at *
      with_reducible refine (Tryz.fracGet c.2 _ (by omega)).mono ?_
      rintro e w6 ⟨hget, hb6⟩
      obtain ⟨f, rfl, hf⟩ : ∃ f, e = .returned (.tuple #[f, .bool true]) ∧ FracIs w6 f q 120 := by
        rcases hget with ⟨q', f, h1, h2, h3⟩ | ⟨h1, h2⟩
        · rw [HQ.out] at h1
          obtain rfl := Option.some.inj h1
          exact ⟨f, h2, h3⟩
        · rw [HQ.out] at h1; simp at h1
      obtain ⟨fa, rfl⟩ := frac_pointer hf
      have HR : Hid (NewAt w.heap.size (termsOf cs) 120 (k + 1) ((w6.setCell ⟨w.heap.size, k * 2, none⟩ (.int .i64 c.1)).setCell ⟨w.heap.size, k * 2 + 1, none⟩ (.pointer fa)) _) := (HN2.out.below hb6).put HT.out hf
      have HB6 : Hid (Below w.heap.size w ((w6.setCell ⟨w.heap.size, k * 2, none⟩ (.int .i64 c.1)).setCell ⟨w.heap.size, k * 2 + 1, none⟩ (.pointer fa))) := ((HB2.out.trans (hb6.mono HB2.out.size)).setCell (p := ⟨w.heap.size, k * 2, none⟩) (Nat.le_refl _) _).setCell (p := ⟨w.heap.size, k * 2 + 1, none⟩) (Nat.le_refl _) _
      have hsz : cur.size = cs.length * 2 := by rw [HN2.out.size, HLEN.out]
      obtain ⟨u0, hx0⟩ : ∃ u, w6.cell? ⟨w.heap.size, k * 2, none⟩ = some u := ⟨cur[k * 2]'(by omega), by rw [(HN2.out.below hb6).cells.cell (k * 2), Array.getElem?_eq_getElem (by omega)]⟩
      obtain ⟨u1, hx1⟩ : ∃ u, w6.cell? ⟨w.heap.size, k * 2 + 1, none⟩ = some u := ⟨cur[k * 2 + 1]'(by omega), by rw [(HN2.out.below hb6).cells.cell (k * 2 + 1), Array.getElem?_eq_getElem (by omega)]⟩
      have hy0 := (HN2.out.below hb6).cells.free (k * 2)
      have hy1 := (HN2.out.below hb6).cells.free (k * 2 + 1)
      have a0 := (HC2.out.below hb6).cell 0
      have a1 := (HC2.out.below hb6).cell 1
      simp only [List.getElem?_toArray, List.getElem?_cons_zero, List.getElem?_cons_succ] at a0 a1
      have HSZ := Lib.hid hsz
      clear hget hb6 HN2 HB2 HC2 HQ HT hf c0 c1 hsz
      go_wp2
      go_roundw
      case rel => exact ⟨k + 1, _, by go_num, by omega, HR.out, HB6.out⟩
      case measure => simp [intOf]; omega
    · have e1 : decide (k < cs.length) = false := by simpa using hlt
      obtain rfl : k = cs.length := by omega
      have HO : Hid (OwnT w.heap.size wr (.slice (some ⟨w.heap.size, 0, none⟩) cs.length cs.length) (termsOf cs) 120) := by
        have := hN
        rw [← HLEN.out] at this
        have := this.own (Nat.le_refl _) (by rw [HLEN.out]; omega)
        rw [HLEN.out] at this
        exact this
      have HB := Lib.hid hb
      clear hN hb
      go_wp2_with fail
      with_reducible refine (Tryz.sortT _ (termsOf cs) 120 _ HO.out.terms (termsOf_rise HOK.out) (by rw [HLEN.out]; omega)).mono ?_
      rintro e w5 ⟨rfl, hb5⟩
      have HO5 := Lib.hid (HO.out.below hb5)
      have HB5 := Lib.hid (HB.out.trans (hb5.mono HB.out.size))
      clear hb5 HO HB
      go_wp2_with fail
      with_reducible refine (Tryz.twice _ (termsOf cs) 120 _ HO5.out.terms (termsOf_rise HOK.out)).mono ?_
      rintro e w6 ⟨rfl, hb6⟩
      have HO6 := Lib.hid (HO5.out.below hb6)
      have HB6 := Lib.hid (HB5.out.trans (hb6.mono HB5.out.size))
      clear hb6 HO5 HB5
      go_wp2_with fail
      with_reducible refine (Tryz.deleteT w.heap.size _ (termsOf cs) 120 _ HO6.out HB6.out.size (by rw [HLEN.out]; omega)).mono ?_
      rintro e w7 ⟨⟨s, rfl, hs⟩, hb7⟩
      obtain ⟨p', cap', rfl, -, -⟩ := hs.slice
      obtain ⟨m, hm⟩ : ∃ m, (Vm.keep (termsOf cs)).length = m := ⟨_, rfl⟩
      rw [hm] at hs ⊢
      have HS := Lib.hid hs
      have HB7 : Hid (Below w.heap.size w w7) := HB6.out.trans hb7
      have hbd : ∀ (p : Option Addr) (n c : Nat) (w : World), (Instr.build 95 #[(0, .slice p n c)]).run Tryz.prog w = .ok (.agg #[.slice p n c]) w := fun p n c w => run_build w 95 _ _ (by kernel_rfl)
      clear hb7 HO6 HB6 hs hm
      have HV : Hid (VecIs (w7.alloc (.cells #[.slice p' m cap'] 95)) (.pointer (some ⟨w7.heap.size, 0, none⟩)) (Vm.keep (termsOf cs)) 120) := .inr ⟨_, _, rfl, by simp, by simp, HS.out.below ((Below.refl _ _).alloc (Nat.le_refl _) _)⟩
      have HBV : Hid (Below w.heap.size w (w7.alloc (.cells #[.slice p' m cap'] 95))) := HB7.out.alloc HB7.out.size _
      clear HS HB7
      go_wp2
      go_ret2
      exact ⟨⟨_, rfl, HV.out⟩, HBV.out⟩
end Go.Proofs.Vt
namespace Go.Proofs.Vt
open Go.RowKit Go.Proofs.Wd Go.Proofs.Fr
open Vm (T Rise Full In)
set_option linter.unusedVariables false
/-- The coefficients that terms show. -/
def coefsOf (ts : T) : C := ts.map fun t => (t.1, ⟨(textQ t.2).toArray⟩)
theorem coefsOf_len (ts : T) : (coefsOf ts).length = ts.length := List.length_map _
theorem coefsOf_get {ts : T} {j : Nat} {t : Int × Rat} (h : ts[j]? = some t) : (coefsOf ts)[j]? = some (t.1, ⟨(textQ t.2).toArray⟩) := by
  unfold coefsOf
  rw [List.getElem?_map, h]; rfl
/-- What the loop keeps to. -/
structure CoefNew (g : Nat) (cs : C) (k : Nat) (wr : World) (cur : Array Value) : Prop where
  cells : CellsAt wr g cur 46
  size : cur.size = cs.length * 2
  done : ∀ x c, x < k → cs[x]? = some c → cur[x * 2]? = some (.int .i64 c.1) ∧ cur[x * 2 + 1]? = some (.string c.2)
theorem CoefNew.below {wr w' : World} {g k : Nat} {cs : C} {cur : Array Value} (h : CoefNew g cs k wr cur) (hb : Below wr.heap.size wr w') : CoefNew g cs k w' cur := by
  obtain ⟨h1, h2, h3⟩ := h
  exact ⟨h1.below hb, h2, h3⟩
theorem CoefNew.put {wr : World} {g k : Nat} {cs : C} {cur : Array Value} {c : Int × ByteArray} (h : CoefNew g cs k wr cur) (hc : cs[k]? = some c) :
    CoefNew g cs (k + 1) ((wr.setCell ⟨g, k * 2, none⟩ (.int .i64 c.1)).setCell ⟨g, k * 2 + 1, none⟩ (.string c.2)) ((cur.setIfInBounds (k * 2) (.int .i64 c.1)).setIfInBounds (k * 2 + 1) (.string c.2)) := by
  obtain ⟨h1, h2, h3⟩ := h
  have hlt : k < cs.length := (List.getElem?_eq_some_iff.1 hc).1
  refine ⟨(h1.set (k * 2) _).set (k * 2 + 1) _, by simpa using h2, fun x d hx hd => ?_⟩
  by_cases e : x = k
  · subst e
    rw [hc] at hd
    obtain rfl := Option.some.inj hd
    exact ⟨by rw [get_set (by omega)]; exact get_set' (by omega), get_set' (by simp; omega)⟩
  · rw [get_set (by omega), get_set (by omega), get_set (by omega), get_set (by omega)]
    exact h3 x d (by omega) hd
theorem CoefNew.own {B : Nat} {wr : World} {g : Nat} {cs : C} {cur : Array Value} (h : CoefNew g cs cs.length wr cur) (hB : B ≤ g) (hm : cs.length ≤ 1000000) : OwnC B wr (.slice (some ⟨g, 0, none⟩) cs.length cs.length) cs := by
  obtain ⟨h1, h2, h3⟩ := h
  refine ⟨cellsC_len _, .inr ⟨g, cs.length, cur, rfl, hB, h1, Nat.le_refl _, by unfold maxLen; omega, h2, ?_⟩⟩
  apply List.ext_getElem?
  intro j
  by_cases hj : j < cs.length * 2
  · obtain ⟨c, hc⟩ : ∃ c, cs[j / 2]? = some c := ⟨_, List.getElem?_eq_getElem (by omega)⟩
    have a := h3 _ _ (by omega) hc
    have b := cellsC_get _ _ _ hc
    rw [List.getElem?_take_of_lt (by omega), Array.getElem?_toList]
    rcases Nat.mod_two_eq_zero_or_one j with e | e
    · rw [show j = j / 2 * 2 by omega, a.1, b.1]
    · rw [show j = j / 2 * 2 + 1 by omega, a.2, b.2]
  · rw [List.getElem?_eq_none (l := cur.toList.take (cs.length * 2)) (Nat.le_trans (List.length_take_le _ _) (by omega)), List.getElem?_eq_none (by rw [cellsC_len]; omega)]
theorem Tryz.makeC (w : World) (cs : C) (hn : cs.length ≤ 1000000) : ∃ w' cur, (Instr.makeSlice 25 (.int .i64 cs.length) (.int .i64 cs.length)).run Tryz.prog w = .ok (.slice (some ⟨w.heap.size, 0, none⟩) cs.length cs.length) w' ∧ CoefNew w.heap.size cs 0 w' cur ∧ Below w.heap.size w w' := by
  obtain ⟨i0, hi, hz0, hz1, hz2⟩ := info_parts Tryz.infoCoef
  have hr := run_make (P := Tryz.prog) w 25 46 i0 _ Tryz.underlying25 hi hz0 .i64 .i64 cs.length cs.length (by omega) (by omega) (by rw [hz2]; omega) (by omega)
  rw [hz1, Int.toNat_natCast] at hr
  exact ⟨_, _, hr, ⟨CellsAt.new _ _ _ rfl, size_madeCells _ _, fun x t hx _ => by omega⟩, (Below.refl _ _).alloc (Nat.le_refl _) _⟩
set_option maxHeartbeats 8000000 in
set_option maxRecDepth 100000 in
theorem Tryz.vecCoefs (v : Value) (ts : T) (k : Nat) (w : World) (h : VecIs w v ts k) (hk : 1 ≤ k) (hk9 : k ≤ 100000) (hn : ts.length ≤ 1000000) (hT : TabOk w) :
    Calls Tryz.prog 26 #[v] w fun e w' => (∃ r, e = .returned r ∧ OwnC w.heap.size w' r (coefsOf ts)) ∧ Below w.heap.size w w' := by
  have H : Hid (VecIs w v ts k) := h
  have HTB : Hid (TabOk w) := hT
  have hlen := coefsOf_len ts
  obtain ⟨w1, cur1, hmk, hN1, hb1⟩ := Tryz.makeC w (coefsOf ts) (by omega)
  rw [hlen] at hmk
  have HN1 := Lib.hid hN1
  have HB1 := Lib.hid hb1
  have HLEN := Lib.hid hlen
  clear h hT hN1 hb1 hlen
  go_enter Tryz.func26, Tryz.ntmps26
  go_wp2_with fail
  with_reducible refine (Tryz.list v ts k _ H.out).mono ?_
  rintro e w2 ⟨⟨s, rfl, hs⟩, hw2⟩
  subst hw2
  obtain ⟨p, cap, rfl, l1, l2⟩ := hs.slice
  unfold maxLen at l2
  have HS := Lib.hid hs
  clear hs H
  go_wp2_with fail
  go_loopw [14] (fun iv wr => ∃ (n : Nat) (cur : Array Value), iv = .int .i64 n ∧ n ≤ ts.length ∧ CoefNew w2.heap.size (coefsOf ts) n wr cur ∧ Below w2.heap.size w2 wr) (fun iv _ => ts.length - (intOf iv).toNat)
  case atStart => exact ⟨0, cur1, rfl, Nat.zero_le _, HN1.out, HB1.out⟩
  case round =>
    obtain ⟨n, cur, rfl, hn', hN, hb⟩ := hrel
    by_cases hlt : n < ts.length
    · obtain ⟨t, ht⟩ : ∃ t, ts[n]? = some t := ⟨_, List.getElem?_eq_getElem hlt⟩
      obtain ⟨g, o, cap', f, he, -, -, c0, c1, hf, hg⟩ := HS.out.nth ht
      simp only [Value.slice.injEq, true_and] at he
      obtain ⟨rfl, rfl⟩ := he
      obtain ⟨fa, rfl⟩ := frac_pointer hf
      rw [← hb.cell hg] at c0 c1
      have HC := Lib.hid (coefsOf_get ht)
      have hs1 : Below wr.heap.size wr (wr.alloc (.cells #[.int .i64 t.1, .pointer fa] 87)) := (Below.refl _ _).alloc (Nat.le_refl _) _
      have HN : Hid (CoefNew w2.heap.size (coefsOf ts) n (wr.alloc (.cells #[.int .i64 t.1, .pointer fa] 87)) cur) := hN.below hs1
      have HB := Lib.hid (hb.trans (hs1.mono hb.size))
      have HA : Hid (CellsAt (wr.alloc (.cells #[.int .i64 t.1, .pointer fa] 87)) wr.heap.size #[.int .i64 t.1, .pointer fa] 87) := CellsAt.new _ _ _ rfl
      have HF := Lib.hid ((hf.below hb).below hs1)
      have hga : w2.heap.size < wr.heap.size := hN.cells.lt
      obtain ⟨a, ha⟩ : ∃ a, wr.heap.size = a := ⟨_, rfl⟩
      rw [ha] at HA hga
      have HGA := Lib.hid hga
      clear ht hN hf hs1 hg hb hga
      have hn0 : (0 : Int) ≤ (n : Int) := by omega
      have hn1 : (n : Int) < (ts.length : Int) := by omega
      go_wp2_with fail
      clear ha
      generalize wr.alloc (.cells #[.int .i64 t.1, .pointer fa] 87) = w5 at *
      clear c0 c1
      refine wp_region_held_drew (S := fun w' => w'.cell? ⟨a, 0, none⟩ = some (.int .i64 t.1) ∧ w'.cell? ⟨a, 1, none⟩ = some (.pointer fa)) (by kernel_rfl) ⟨HA.out.cell 0, HA.out.cell 1⟩ (fun hHeld => ?_)
      have HB_ := Lib.hid (HB.out.drew)
      have HA_ := Lib.hid (HA.out.below (Below.refl _ _).drew)
      have HF_ := Lib.hid (HF.out.below (Below.refl _ _).drew)
      have HN_ := Lib.hid (HN.out.below (Below.refl _ _).drew)
      clear hHeld HB HA HF HN
      have HB := HB_
      clear HB_
      have HA := HA_
      clear HA_
      have HF := HF_
      clear HF_
      have HN := HN_
      clear HN_
      generalize w5.drew = w5d at *
      have hHeld : (fun w' : World => w'.cell? ⟨a, 0, none⟩ = some (.int .i64 t.1) ∧ w'.cell? ⟨a, 1, none⟩ = some (.pointer fa)) w5d := ⟨HA.out.cell 0, HA.out.cell 1⟩
      (refine takeYes (i := 0) ?_ (by (simp only [List.getElem?_toArray, List.getElem?_cons_zero]) <;> rfl) (by kernel_rfl) (by kernel_rfl) (by kernel_rfl) (by exact fun _ _ _ h => h) (by rfl) (by assumption) ?_ ?_)
      rotate_left
      · (intro w hSw; (try dsimp only at hSw); go_simp <;> with_reducible rfl)
      (try simp only [Act.put, List.setIfInBounds_toArray, List.set_cons_zero, List.set_cons_succ])
      (refine takeYes (i := 1) ?_ (by (simp only [List.getElem?_toArray, List.getElem?_cons_succ, List.getElem?_cons_zero]) <;> rfl) (by kernel_rfl) (by kernel_rfl) (by kernel_rfl) (by exact fun _ _ _ h => h) (by rfl) (by assumption) ?_ ?_)
      rotate_left
      · (intro w hSw; (try dsimp only at hSw); go_simp <;> with_reducible rfl)
      (try simp only [Act.put, List.setIfInBounds_toArray, List.set_cons_zero, List.set_cons_succ])
      (refine takeYes (i := 2) ?_ (by (simp only [List.getElem?_toArray, List.getElem?_cons_succ, List.getElem?_cons_zero]) <;> rfl) (by kernel_rfl) (by kernel_rfl) (by kernel_rfl) (by exact fun _ _ _ h => h) (by rfl) (by assumption) ?_ ?_)
      rotate_left
      · (intro w hSw; (try dsimp only at hSw); go_simp <;> with_reducible rfl)
      (try simp only [Act.put, List.setIfInBounds_toArray, List.set_cons_zero, List.set_cons_succ])
      (refine takeYes (i := 3) ?_ (by (simp only [List.getElem?_toArray, List.getElem?_cons_succ, List.getElem?_cons_zero]) <;> rfl) (by kernel_rfl) (by kernel_rfl) (by kernel_rfl) (by exact fun _ _ _ h => h) (by rfl) (by assumption) ?_ ?_)
      rotate_left
      · (intro w hSw; (try dsimp only at hSw); go_simp <;> with_reducible rfl)
      (try simp only [Act.put, List.setIfInBounds_toArray, List.set_cons_zero, List.set_cons_succ])
      (refine takeYes (i := 4) ?_ (by (simp only [List.getElem?_toArray, List.getElem?_cons_succ, List.getElem?_cons_zero]) <;> rfl) (by kernel_rfl) (by kernel_rfl) (by kernel_rfl) (by exact fun _ _ _ h => h) (by rfl) (by assumption) ?_ ?_)
      rotate_left
      · (intro w hSw; (try dsimp only at hSw); go_simp <;> with_reducible rfl)
      (try simp only [Act.put, List.setIfInBounds_toArray, List.set_cons_zero, List.set_cons_succ])
      (refine takeYes (i := 5) ?_ (by (simp only [List.getElem?_toArray, List.getElem?_cons_succ, List.getElem?_cons_zero]) <;> rfl) (by kernel_rfl) (by kernel_rfl) (by kernel_rfl) (by exact fun _ _ _ h => h) (by rfl) (by assumption) ?_ ?_)
      rotate_left
      · (intro w hSw; (try dsimp only at hSw); go_simp <;> with_reducible rfl)
      (try simp only [Act.put, List.setIfInBounds_toArray, List.set_cons_zero, List.set_cons_succ])
      refine wpAnyH_ready (rs := [6]) (by kernel_rfl) (by simp) ?_
      refine AllReadyH.cons (by (simp only [List.getElem?_toArray, List.getElem?_cons_succ, List.getElem?_cons_zero]) <;> rfl) (fun KX hK => ?_) AllReadyH.nil
      go_simp
      with_reducible refine (Tryz.fracText (.pointer fa) t.2 k _ HF.out hk hk9 (HTB.out.after HB.out)).mono ?_
      rintro e w5d21 ⟨rfl, hb⟩
      clear hHeld
      have HB_ := Lib.hid (HB.out.trans (hb.mono HB.out.size))
      have HA_ := Lib.hid (HA.out.below hb)
      have HF_ := Lib.hid (HF.out.below hb)
      have HN_ := Lib.hid (HN.out.below hb)
      clear hb HB HA HF HN
      have HB := HB_
      clear HB_
      have HA := HA_
      clear HA_
      have HF := HF_
      clear HF_
      have HN := HN_
      clear HN_
      refine hK.out _ _ ⟨HA.out.cell 0, HA.out.cell 1⟩ (fun hHeld => ?_)
      clear hK KX
      (try simp only [Act.put, List.setIfInBounds_toArray, List.set_cons_zero, List.set_cons_succ])
      (refine takeYes (i := 7) ?_ (by (simp only [List.getElem?_toArray, List.getElem?_cons_succ, List.getElem?_cons_zero]) <;> rfl) (by kernel_rfl) (by kernel_rfl) (by kernel_rfl) (by exact fun _ _ _ h => h) (by rfl) (by assumption) ?_ ?_)
      rotate_left
      · (intro w hSw; (try dsimp only at hSw); go_simp <;> with_reducible rfl)
      (try simp only [Act.put, List.setIfInBounds_toArray, List.set_cons_zero, List.set_cons_succ])
      (refine takeYes (i := 8) ?_ (by (simp only [List.getElem?_toArray, List.getElem?_cons_succ, List.getElem?_cons_zero]) <;> rfl) (by kernel_rfl) (by kernel_rfl) (by kernel_rfl) (by exact fun _ _ _ h => h) (by rfl) (by assumption) ?_ ?_)
      rotate_left
      · (intro w hSw; (try dsimp only at hSw); go_simp <;> with_reducible rfl)
      (try simp only [Act.put, List.setIfInBounds_toArray, List.set_cons_zero, List.set_cons_succ])
      obtain ⟨s, hsx⟩ : ∃ s : ByteArray, (⟨(textQ t.2).toArray⟩ : ByteArray) = s := ⟨_, rfl⟩
      rw [hsx] at HC ⊢
      clear hsx
      have hsz : cur.size = ts.length * 2 := by rw [HN.out.size, HLEN.out]
      obtain ⟨u0, hx0⟩ : ∃ u, w5d21.cell? ⟨w2.heap.size, n * 2, none⟩ = some u := ⟨cur[n * 2]'(by omega), by rw [HN.out.cells.cell (n * 2), Array.getElem?_eq_getElem (by omega)]⟩
      obtain ⟨u1, hx1⟩ : ∃ u, w5d21.cell? ⟨w2.heap.size, n * 2 + 1, none⟩ = some u := ⟨cur[n * 2 + 1]'(by omega), by rw [HN.out.cells.cell (n * 2 + 1), Array.getElem?_eq_getElem (by omega)]⟩
      have hy0 := HN.out.cells.free (n * 2)
      have hy1 := HN.out.cells.free (n * 2 + 1)
      have HSZ := Lib.hid hsz
      refine wpAnyH_ready (rs := [9]) (by kernel_rfl) (by simp) ?_
      refine AllReadyH.cons (by (simp only [List.getElem?_toArray, List.getElem?_cons_succ, List.getElem?_cons_zero]) <;> rfl) (fun KX hK => ?_) AllReadyH.nil
      go_simp
      have HR : Hid (CoefNew w2.heap.size (coefsOf ts) (n + 1) ((w5d21.setCell ⟨w2.heap.size, n * 2, none⟩ (.int .i64 t.1)).setCell ⟨w2.heap.size, n * 2 + 1, none⟩ (.string s)) _) := HN.out.put HC.out
      have HB6 : Hid (Below w2.heap.size w2 ((w5d21.setCell ⟨w2.heap.size, n * 2, none⟩ (.int .i64 t.1)).setCell ⟨w2.heap.size, n * 2 + 1, none⟩ (.string s))) := (HB.out.setCell (p := ⟨w2.heap.size, n * 2, none⟩) (Nat.le_refl _) _).setCell (p := ⟨w2.heap.size, n * 2 + 1, none⟩) (Nat.le_refl _) _
      have HA6 := Lib.hid ((HA.out.other (g := w2.heap.size) (by have := HGA.out; omega) (n * 2) (.int .i64 t.1)).other (g := w2.heap.size) (by have := HGA.out; omega) (n * 2 + 1) (.string s))
      clear HN HC HB HA HF hHeld hx0 hx1 hy0 hy1
      generalize (w5d21.setCell ⟨w2.heap.size, n * 2, none⟩ (.int .i64 t.1)).setCell ⟨w2.heap.size, n * 2 + 1, none⟩ (.string s) = w7 at *
      refine hK.out _ _ ⟨HA6.out.cell 0, HA6.out.cell 1⟩ (fun hHeld => ?_)
      clear hK KX
      (try simp only [Act.put, List.setIfInBounds_toArray, List.set_cons_zero, List.set_cons_succ])
      refine wpAnyH_done (by kernel_rfl) ?_ _
      clear hHeld HA6
      go_wp2
      go_roundw
      case rel => exact ⟨n + 1, _, by go_num, by omega, HR.out, HB6.out⟩
      case measure => simp [intOf]; omega
    · have e1 : decide (n < ts.length) = false := by simpa using hlt
      obtain rfl : n = ts.length := by omega
      have HO : Hid (OwnC w2.heap.size wr (.slice (some ⟨w2.heap.size, 0, none⟩) ts.length ts.length) (coefsOf ts)) := by
        have := hN
        rw [← HLEN.out] at this
        have := this.own (Nat.le_refl _) (by rw [HLEN.out]; omega)
        rw [HLEN.out] at this
        exact this
      have HB := Lib.hid hb
      clear hN hb
      go_wp2
      go_ret
      exact ⟨⟨_, rfl, HO.out⟩, HB.out⟩
end Go.Proofs.Vt
