/- What New of the package vec calls: the comparison, sorting of rising terms, twice. What sorting of few rising terms, twice, IndexFunc and DeleteFunc at terms return. What IndexFunc and DeleteFunc at terms return. What DeleteFunc at terms returns: those that are not 0. -/
import Derived.Test.YtcnjcfoaoaldeaaGreatDoorRn
import Derived.Test.YtcnjcfoaoaldeaaGreatDoorVf
import Derived.Test.YtcnjcfoaoaldeaaGreatDoorVo
import Derived.Test.YtcnjcfoaoaldeaaGreatDoorShelf2
set_option linter.unusedVariables false
set_option maxHeartbeats 4000000
set_option maxRecDepth 100000
namespace Go.Proofs.Vt
open Go.RowKit Go.Proofs.Wd Go.Proofs.Fr
open Vm (T Rise Full In)
theorem Tryz.newCmp (a b : Int) (f g : Option Addr) (w : World) :
 Calls Tryz.prog 54 #[.agg #[.int .i64 a, .pointer f], .agg #[.int .i64 b, .pointer g]] w fun e w' => e = .returned (.int .i64 (cmpI a b)) ∧ Below w.heap.size w w' := by
 go_enter Tryz.func54, Tryz.ntmps54
 go_wp2_with fail
 with_reducible refine (Tryz.cmpN a b _).mono ?_
 rintro e w1 ⟨rfl, rfl⟩
 go_wp2
 go_ret
 exact ⟨rfl, ((Below.refl _ _).alloc (Nat.le_refl _) _).alloc (by simp) _⟩
theorem Tryz.insertion (v : Value) (ts : T) (k : Nat) (w : World) (h : Terms w v ts k) (hr : Rise ts) (hn : ts.length ≤ 12) :
 Calls Tryz.prog 157 #[v, .int .i64 0,  .int .i64 ts.length, .func (.func 54) #[] #[]] w fun e w' => e = .returned (.tuple #[]) ∧ Below w.heap.size w w' := by
 obtain ⟨p, cap, rfl, l1, l2⟩ := h.slice
 have H : Hid (Terms w _ ts k) := h
 clear h
 unfold maxLen at l2
 go_enter Tryz.func157, Tryz.ntmps157
 go_wp2_with fail
 go_loopw [8] (fun iv wr => ∃ i : Nat, 1 ≤ i ∧ iv = .int .i64 i ∧ Below w.heap.size w wr) (fun iv _ => ts.length + 1 - (intOf iv).toNat)
 case atStart => exact ⟨1, Nat.le_refl _, rfl, Below.refl _ _⟩
 case round =>
  obtain ⟨i, hi, rfl, hb⟩ := hrel
  have HB : Hid (Below w.heap.size w wr) := hb
  clear hb
  by_cases hlt : i < ts.length
  ·obtain ⟨t, ht⟩ : ∃ t, ts[i]? = some t := ⟨_, List.getElem?_eq_getElem hlt⟩
   obtain ⟨t', ht'⟩ : ∃ t', ts[i - 1]? = some t' := ⟨_, List.getElem?_eq_getElem (by omega)⟩
   obtain ⟨g, o, cap', f, he, -, -, c0, c1, hf, hg⟩ := H.out.nth ht
   simp only [Value.slice.injEq, true_and] at he
   obtain ⟨rfl, rfl⟩ := he
   obtain ⟨g', o', cap', f', he, -, -, d0, d1, hf', hg'⟩ := H.out.nth ht'
   simp only [Value.slice.injEq, Option.some.injEq, Addr.mk.injEq, and_true, true_and] at he
   obtain ⟨⟨rfl, rfl⟩, rfl⟩ := he
   obtain ⟨fa, rfl⟩ := frac_pointer hf
   obtain ⟨fb, rfl⟩ := frac_pointer hf'
   have hlt' : t'.1 < t.1 := by
    rw [List.getElem?_eq_getElem hlt] at ht
    rw [List.getElem?_eq_getElem (by omega)] at ht'
    rw [← Option.some.inj ht, ← Option.some.inj ht']
    exact List.pairwise_iff_getElem.1 hr (i - 1) i (by omega) hlt (by omega)
   rw [← HB.out.cell hg] at c0 c1 d0 d1
   have HG := Lib.hid hg
   clear ht ht' hf hf' hg hg'
   obtain ⟨m, rfl⟩ : ∃ m, i = m + 1 := ⟨i - 1, by omega⟩
   rw [show m + 1 - 1 = m by omega] at d0 d1
   have hi1 : (0 : Int) ≤ (m : Int) + 1 - 1 := by omega
   have hw1 : IntKind.i64.wrap ((m : Int) + 1 - 1) = (m : Int) := by rw [show (m : Int) + 1 - 1 = m by omega]; simp [IntKind.wrap, IntKind.signed, IntKind.bits]; omega
   have HC : Hid (cmpI t.1 t'.1 = 1) := cmpI_gt hlt'
   have h0 : (0 : Int) < (m : Int) + 1 := by omega
   have h00 : (0 : Int) ≤ (m : Int) + 1 := by omega
   have hw0 : IntKind.i64.wrap (m : Int) = (m : Int) := by simp [IntKind.wrap, IntKind.signed, IntKind.bits]; omega
   have h01 : (m : Int) < (ts.length : Int) := by omega
   have h02 : (m : Int) + 1 < (ts.length : Int) := by omega
   clear hlt'
   go_wp2_with fail
   obtain ⟨wo, rfl⟩ : ∃ wo : World, wo = wr := ⟨_, rfl⟩
   go_loopw [9] (fun jv wr2 => jv = .int .i64 ((m : Int) + 1) ∧ Below wo.heap.size wo wr2) (fun _ _ => 0)
   case atStart => exact ⟨rfl, Below.refl _ _⟩
   case round =>
    obtain ⟨rfl, hb2⟩ := hrel
    have hgo : g < wo.heap.size := Nat.lt_of_lt_of_le HG.out HB.out.size
    rw [← hb2.cell hgo] at c0 c1 d0 d1
    clear hgo
    go_wp2_with fail
    refine wp_region_held_drew (S := fun w' => w'.cell? ⟨g, o + (m + 1) * 2, none⟩ = some (.int .i64 t.1) ∧ w'.cell? ⟨g, o + (m + 1) * 2 + 1, none⟩ = some (.pointer fa) ∧ w'.cell? ⟨g, o + m * 2, none⟩ = some (.int .i64 t'.1) ∧ w'.cell? ⟨g, o + m * 2 + 1, none⟩ = some (.pointer fb)) (by kernel_rfl) ⟨c0, c1, d0, d1⟩ (fun hHeld => ?_)
    refine takeY 0 (h := ?_)
    refine takeY 1 (h := ?_)
    refine takeY 2 (h := ?_)
    (try simp only [Act.put, List.setIfInBounds_toArray, List.set_cons_zero, List.set_cons_succ])
    refine takeY 3 (h := ?_)
    refine takeY 4 (h := ?_)
    refine takeY 5 (h := ?_)
    (try simp only [Act.put, List.setIfInBounds_toArray, List.set_cons_zero, List.set_cons_succ])
    refine takeY 6 (h := ?_)
    refine takeY 7 (h := ?_)
    refine takeY 8 (h := ?_)
    (try simp only [Act.put, List.setIfInBounds_toArray, List.set_cons_zero, List.set_cons_succ])
    refine takeY 9 (h := ?_)
    refine takeY 10 (h := ?_)
    refine takeY 11 (h := ?_)
    (try simp only [Act.put, List.setIfInBounds_toArray, List.set_cons_zero, List.set_cons_succ])
    refine takeY 12 (h := ?_)
    refine takeY 13 (h := ?_)
    (try simp only [Act.put, List.setIfInBounds_toArray, List.set_cons_zero, List.set_cons_succ])
    refine wpAnyH_ready (rs := [14]) (by kernel_rfl) (by simp) ?_
    refine AllReadyH.cons (by (simp only [List.getElem?_toArray, List.getElem?_cons_succ, List.getElem?_cons_zero]) <;> rfl) (fun KX hK => ?_) AllReadyH.nil
    go_simp
    with_reducible refine (Tryz.newCmp t.1 t'.1 fa fb _).mono ?_
    rintro e w5 ⟨rfl, hb5⟩
    rw [HC.out]
    have hg5 : g < wr.drew.heap.size := Nat.lt_of_lt_of_le HG.out (Nat.le_trans HB.out.size hb2.size)
    have HB5 : Hid (Below w.heap.size w w5) := (HB.out.trans ((hb2.mono HB.out.size).drew)).trans (hb5.mono (Nat.le_trans HB.out.size hb2.size))
    rw [← World.cell?_drew, ← hb5.cell hg5] at c0 c1 d0 d1
    clear hb5 hb2 hHeld HB
    refine hK.out _ _ ⟨c0, c1, d0, d1⟩ (fun hHeld => ?_)
    clear hK KX
    (try simp only [Act.put, List.setIfInBounds_toArray, List.set_cons_zero, List.set_cons_succ])
    refine takeY 15 (h := ?_)
    refine takeY 16 (h := ?_)
    (try simp only [Act.put, List.setIfInBounds_toArray, List.set_cons_zero, List.set_cons_succ])
    refine wpAnyH_done (by kernel_rfl) ?_ _
    clear hHeld c0 c1 d0 d1
    go_wp2
    go_roundw
    case rel => exact ⟨m + 1 + 1, by omega, by go_num, HB5.out⟩
    case measure => simp [intOf]; omega
  ·have e1 : decide (i < ts.length) = false := by simpa using hlt
   go_wp2
   go_end0
   exact ⟨rfl, HB.out⟩
end Go.Proofs.Vt
namespace Go.Proofs.Vt
open Go.RowKit Go.Proofs.Wd Go.Proofs.Fr
open Vm (T Rise Full In)
theorem Tryz.pdq (v : Value) (ts : T) (k : Nat) (lim : Int) (w : World) (h : Terms w v ts k) (hr : Rise ts) (hn : ts.length ≤ 12) :
 Calls Tryz.prog 115 #[v, .int .i64 0, .int .i64 ts.length, .int .i64 lim, .func (.func 54) #[] #[]] w fun e w' => e = .returned (.tuple #[]) ∧ Below w.heap.size w w' := by
 have H : Hid (Terms w v ts k) := h
 clear h
 have h12 : (ts.length : Int) ≤ 12 := by omega
 go_enter Tryz.func115, Tryz.ntmps115
 go_wp2_with fail
 go_loopw [1, 2] (fun av bv wr => av = .int .i64 0 ∧ bv = .int .i64 ts.length ∧ w = wr) (fun _ _ _ => 0)
 case atStart => exact ⟨rfl, rfl, rfl⟩
 case round =>
  obtain ⟨rfl, rfl, rfl⟩ := hrel
  go_wp2_with fail
  with_reducible refine (Tryz.insertion v ts k _ H.out hr hn).mono ?_
  rintro e w1 ⟨rfl, hb⟩
  have HB : Hid (Below w.heap.size w w1) := hb
  clear hb
  go_wp2
  refine bodyPost_ret (results_none rfl _ _ _) rfl ?_
  exact ⟨rfl, HB.out⟩
theorem Tryz.sortT (v : Value) (ts : T) (k : Nat) (w : World) (h : Terms w v ts k) (hr : Rise ts) (hn : ts.length ≤ 12) :
 Calls Tryz.prog 53 #[v, .func (.func 54) #[] #[]] w fun e w' => e = .returned (.tuple #[]) ∧ Below w.heap.size w w' := by
 obtain ⟨p, cap, rfl, l1, l2⟩ := h.slice
 have H : Hid (Terms w _ ts k) := h
 clear h
 unfold maxLen at l2
 have h12 : (ts.length : Int) ≤ 12 := by omega
 have hwu : IntKind.u64.wrap (ts.length : Int) = (ts.length : Int) := by simp [IntKind.wrap, IntKind.signed, IntKind.bits]; omega
 go_enter Tryz.func53, Tryz.ntmps53
 go_wp2_with fail
 with_reducible refine (Tryz.bits_Len (ts.length : Int) _ (by omega) (by omega)).mono ?_
 rintro e w1 ⟨rfl, rfl⟩
 obtain ⟨lim, hl⟩ : ∃ lim : Int, (Lib.bitLen ((ts.length : Int).toNat) : Int) = lim := ⟨_, rfl⟩
 rw [hl]
 clear hl
 go_wp2_with fail
 with_reducible refine (Tryz.pdq _ ts k lim _ H.out hr hn).mono ?_
 rintro e w2 ⟨rfl, hb⟩
 have HB : Hid (Below w1.heap.size w1 w2) := hb
 clear hb
 go_wp2
 go_end0
 exact ⟨rfl, HB.out⟩
theorem Tryz.twice (v : Value) (ts : T) (k : Nat) (w : World) (h : Terms w v ts k) (hr : Rise ts) :
 Calls Tryz.prog 56 #[v] w fun e w' => e = .returned (.bool false) ∧ Below w.heap.size w w' := by
 obtain ⟨p, cap, rfl, l1, l2⟩ := h.slice
 have H : Hid (Terms w _ ts k) := h
 clear h
 unfold maxLen at l2
 go_enter Tryz.func56, Tryz.ntmps56
 go_wp2_with fail
 go_loopw [3] (fun iv wr => ∃ i : Nat, 1 ≤ i ∧ iv = .int .i64 i ∧ Below w.heap.size w wr) (fun iv _ => ts.length + 1 - (intOf iv).toNat)
 case atStart => exact ⟨1, Nat.le_refl _, rfl, Below.refl _ _⟩
 case round =>
  obtain ⟨i, hi, rfl, hb⟩ := hrel
  have HB : Hid (Below w.heap.size w wr) := hb
  clear hb
  by_cases hlt : i < ts.length
  ·obtain ⟨t, ht⟩ : ∃ t, ts[i]? = some t := ⟨_, List.getElem?_eq_getElem hlt⟩
   obtain ⟨t', ht'⟩ : ∃ t', ts[i - 1]? = some t' := ⟨_, List.getElem?_eq_getElem (by omega)⟩
   obtain ⟨g, o, cap', f, he, -, -, c0, c1, hf, hg⟩ := H.out.nth ht
   simp only [Value.slice.injEq, true_and] at he
   obtain ⟨rfl, rfl⟩ := he
   obtain ⟨g', o', cap', f', he, -, -, d0, d1, hf', hg'⟩ := H.out.nth ht'
   simp only [Value.slice.injEq, Option.some.injEq, Addr.mk.injEq, and_true, true_and] at he
   obtain ⟨⟨rfl, rfl⟩, rfl⟩ := he
   have hlt' : t'.1 < t.1 := by
    rw [List.getElem?_eq_getElem hlt] at ht
    rw [List.getElem?_eq_getElem (by omega)] at ht'
    rw [← Option.some.inj ht, ← Option.some.inj ht']
    exact List.pairwise_iff_getElem.1 hr (i - 1) i (by omega) hlt (by omega)
   rw [← HB.out.cell hg] at c0 d0
   clear ht ht' hf hf' hg hg' c1 d1
   obtain ⟨m, rfl⟩ : ∃ m, i = m + 1 := ⟨i - 1, by omega⟩
   rw [show m + 1 - 1 = m by omega] at d0
   have hi1 : (0 : Int) ≤ (m : Int) + 1 - 1 := by omega
   have hw1 : IntKind.i64.wrap ((m : Int) + 1 - 1) = (m : Int) := by rw [show (m : Int) + 1 - 1 = m by omega]; simp [IntKind.wrap, IntKind.signed, IntKind.bits]; omega
   have hw0 : IntKind.i64.wrap (m : Int) = (m : Int) := by simp [IntKind.wrap, IntKind.signed, IntKind.bits]; omega
   have h00 : (0 : Int) ≤ (m : Int) + 1 := by omega
   have h01 : (m : Int) < (ts.length : Int) := by omega
   have h02 : (m : Int) + 1 < (ts.length : Int) := by omega
   have e1 : (t'.1 == t.1) = false := by simp; omega
   clear hlt'
   go_wp2_with fail
   refine wp_region_held_drew (S := fun w' => w'.cell? ⟨g, o + (m + 1) * 2, none⟩ = some (.int .i64 t.1) ∧ w'.cell? ⟨g, o + m * 2, none⟩ = some (.int .i64 t'.1)) (by kernel_rfl) ⟨c0, d0⟩ (fun hHeld => ?_)
   refine takeY 0 (h := ?_)
   refine takeY 1 (h := ?_)
   refine takeY 2 (h := ?_)
   (try simp only [Act.put, List.setIfInBounds_toArray, List.set_cons_zero, List.set_cons_succ])
   refine takeY 3 (h := ?_)
   refine takeY 4 (h := ?_)
   refine takeY 5 (h := ?_)
   (try simp only [Act.put, List.setIfInBounds_toArray, List.set_cons_zero, List.set_cons_succ])
   refine takeY 6 (h := ?_)
   refine takeY 7 (h := ?_)
   refine takeY 8 (h := ?_)
   (try simp only [Act.put, List.setIfInBounds_toArray, List.set_cons_zero, List.set_cons_succ])
   refine takeY 9 (h := ?_)
   refine takeY 10 (h := ?_)
   refine takeY 11 (h := ?_)
   (try simp only [Act.put, List.setIfInBounds_toArray, List.set_cons_zero, List.set_cons_succ])
   refine wpAnyH_done (by kernel_rfl) ?_ _
   have HB2 := Lib.hid HB.out.drew
   clear hHeld c0 d0
   go_wp2
   go_roundw
   case rel => exact ⟨m + 1 + 1, by omega, by go_num, HB2.out⟩
   case measure => simp [intOf]; omega
  ·have e1 : decide (i < ts.length) = false := by simpa using hlt
   go_wp2
   go_ret
   exact ⟨rfl, HB.out⟩
end Go.Proofs.Vt
namespace Go.Proofs.Vt
open Go.RowKit Go.Proofs.Wd Go.Proofs.Fr
open Vm (T Rise Full In)
/-- What IndexFunc tells: the first one that is 0. -/
def IdxSaid (ts : T) (e : Ending) : Prop :=
 (e = .returned (.int .i64 (-1)) ∧ ∀ t ∈ ts, t.2 ≠ 0) ∨ ∃ (i : Nat) (t : Int × Rat), e = .returned (.int .i64 i) ∧ ts[i]? = some t ∧ t.2 = 0 ∧ ∀ u ∈ ts.take i, u.2 ≠ 0
theorem Tryz.indexT (v : Value) (ts : T) (k : Nat) (w : World) (h : Terms w v ts k) :
 Calls Tryz.prog 118 #[v, .func (.func 58) #[] #[]] w fun e w' => IdxSaid ts e ∧ Below w.heap.size w w' := by
 obtain ⟨p, cap, rfl, l1, l2⟩ := h.slice
 have H : Hid (Terms w _ ts k) := h
 clear h
 unfold maxLen at l2
 go_enter Tryz.func118, Tryz.ntmps118
 go_wp2_with fail
 go_loopw [8] (fun iv wr => ∃ i : Nat, i ≤ ts.length ∧ iv = .int .i64 i ∧ (∀ u ∈ ts.take i, u.2 ≠ 0) ∧ Below w.heap.size w wr) (fun iv _ => ts.length - (intOf iv).toNat)
 case atStart => exact ⟨0, Nat.zero_le _, rfl, fun u hu => by simp at hu, Below.refl _ _⟩
 case round =>
  obtain ⟨i, hi, rfl, hz, hb⟩ := hrel
  have HB : Hid (Below w.heap.size w wr) := hb
  have HZ := Lib.hid hz
  clear hb hz
  by_cases hlt : i < ts.length
  ·obtain ⟨t, ht⟩ : ∃ t, ts[i]? = some t := ⟨_, List.getElem?_eq_getElem hlt⟩
   obtain ⟨g, o, cap', f, he, -, -, c0, c1, hf, hg⟩ := H.out.nth ht
   simp only [Value.slice.injEq, true_and] at he
   obtain ⟨rfl, rfl⟩ := he
   obtain ⟨fa, rfl⟩ := frac_pointer hf
   rw [← HB.out.cell hg] at c0 c1
   have HF := Lib.hid (hf.below HB.out)
   have HT := Lib.hid ht
   clear ht hf hg
   go_wp2_with fail
   with_reducible refine (Tryz.none_ t.1 (.pointer fa) t.2 k _ HF.out).mono ?_
   rintro e w5 ⟨rfl, hb5⟩
   have HB5 := Lib.hid (HB.out.trans (hb5.mono HB.out.size))
   clear hb5 HB c0 c1 HF
   by_cases h0 : t.2 = 0
   ·have e1 : decide (t.2 = 0) = true := by simpa using h0
    have HR : Hid (IdxSaid ts (.returned (.int .i64 i))) := .inr ⟨i, t, rfl, HT.out, h0, HZ.out⟩
    have H0 := Lib.hid h0
    clear h0 HT HZ
    go_wp2
    go_ret
    exact ⟨HR.out, HB5.out⟩
   ·have e1 : decide (t.2 = 0) = false := by simpa using h0
    have HR : Hid (∀ u ∈ ts.take (i + 1), u.2 ≠ 0) := fun u hu => by
     have hT := HT.out
     rw [List.getElem?_eq_getElem hlt] at hT
     rw [List.take_succ_eq_append_getElem hlt, Option.some.inj hT] at hu
     rcases List.mem_append.1 hu with hu | hu
     ·exact HZ.out u hu
     ·rw [List.mem_singleton.1 hu]; exact h0
    have H0 := Lib.hid h0
    clear h0 HT HZ
    go_wp2
    go_roundw
    case rel => exact ⟨i + 1, by omega, by go_num, HR.out, HB5.out⟩
    case measure => simp [intOf]; omega
  ·have e1 : decide (i < ts.length) = false := by simpa using hlt
   have HR : Hid (IdxSaid ts (.returned (.int .i64 (-1)))) := .inl ⟨rfl, fun t ht => HZ.out t (by rw [List.take_of_length_le (by omega)]; exact ht)⟩
   clear HZ
   go_wp2
   go_ret
   exact ⟨HR.out, HB.out⟩
end Go.Proofs.Vt
namespace Go.Proofs.Vt
open Go.RowKit Go.Proofs.Wd Go.Proofs.Fr
open Vm (T Rise Full In)
theorem grownBy_trans {a b c : World} {row : Option Nat} (h : a.grownBy b row) (k : b.grownBy c row) : a.grownBy c row :=
 ⟨k.os.trans h.os, k.tape.trans h.tape, k.output.trans h.output, Nat.le_trans h.size k.size, fun x hx hr => (k.block x (Nat.lt_of_lt_of_le hx h.size) hr).trans (h.block x hx hr)⟩
theorem grownBy_below {w w' : World} (h : Below w.heap.size w w') (row : Option Nat) : w.grownBy w' row :=
 ⟨h.os, h.tape, h.output, h.size, fun x hx _ => h.block x hx⟩
theorem grownBy_set (w : World) (g j : Nat) (v : Value) : w.grownBy (w.setCell ⟨g, j, none⟩ v) (some g) :=
 ⟨rfl, rfl, rfl, by simp, fun x hx hr => Below.heap_setCell w _ v x (fun e => hr (by rw [e]))⟩
/-- What a term's cells hold in a block. -/
def TermAt (w : World) (cur : Array Value) (x : Nat) (t : Int × Rat) (k : Nat) : Prop := ∃ f, cur[x * 2]? = some (.int .i64 t.1) ∧ cur[x * 2 + 1]? = some f ∧ FracIs w f t.2 k
/-- What DeleteFunc's loop keeps to. -/
structure DelAt (w0 : World) (g : Nat) (ts : T) (k j i : Nat) (wr : World) (cur : Array Value) : Prop where
 cells : CellsAt wr g cur 87
 size : ts.length * 2 ≤ cur.size
 head : ∃ z, cur[0]? = some (.int .i64 z)
 count : i = (Vm.keep (ts.take j)).length
 less : i < j
 done : ∀ x t, (Vm.keep (ts.take j))[x]? = some t → TermAt wr cur x t k
 left : ∀ x t, j ≤ x → ts[x]? = some t → TermAt wr cur x t k
 grown : w0.grownBy wr (some g)
theorem DelAt.below {w0 wr w' : World} {g k j i : Nat} {ts : T} {cur : Array Value} (h : DelAt w0 g ts k j i wr cur) (hb : Below wr.heap.size wr w') : DelAt w0 g ts k j i w' cur := by
 obtain ⟨h1, h2, h3, h4, h5, h6, h7, h8⟩ := h
 exact ⟨h1.below hb, h2, h3, h4, h5, fun x t ht => by obtain ⟨f, a, b, c⟩ := h6 x t ht; exact ⟨f, a, b, c.below hb⟩, fun x t hx ht => by obtain ⟨f, a, b, c⟩ := h7 x t hx ht; exact ⟨f, a, b, c.below hb⟩, grownBy_trans h8 (grownBy_below hb _)⟩
theorem keep_take {ts : T} {j : Nat} {t : Int × Rat} (ht : ts[j]? = some t) : Vm.keep (ts.take (j + 1)) = Vm.keep (ts.take j) ++ (if t.2 = 0 then [] else [t]) := by
 have hlt : j < ts.length := (List.getElem?_eq_some_iff.1 ht).1
 rw [List.take_succ_eq_append_getElem hlt]
 rw [List.getElem?_eq_getElem hlt] at ht
 rw [Option.some.inj ht]
 unfold Vm.keep
 rw [List.filter_append, List.filter_cons]
 by_cases h : t.2 = 0
 ·rw [if_neg (by simp [h]), if_pos h]; simp
 ·rw [if_pos (by simp [h]), if_neg h]; simp
theorem DelAt.skip {w0 wr : World} {g k j i : Nat} {ts : T} {cur : Array Value} {t : Int × Rat} (h : DelAt w0 g ts k j i wr cur) (ht : ts[j]? = some t) (h0 : t.2 = 0) : DelAt w0 g ts k (j + 1) i wr cur := by
 obtain ⟨h1, h2, h3, h4, h5, h6, h7, h8⟩ := h
 have e := keep_take ht
 rw [if_pos h0, List.append_nil] at e
 exact ⟨h1, h2, h3, by rw [e]; exact h4, by omega, by rw [e]; exact h6, fun x t hx ht => h7 x t (by omega) ht, h8⟩
theorem get_set {cur : Array Value} {a x : Nat} {u : Value} (h : a ≠ x) : (cur.setIfInBounds a u)[x]? = cur[x]? := by
 rw [Array.getElem?_setIfInBounds, if_neg h]
theorem get_set' {cur : Array Value} {a : Nat} {u : Value} (h : a < cur.size) : (cur.setIfInBounds a u)[a]? = some u := by
 rw [Array.getElem?_setIfInBounds, if_pos rfl, if_pos h]
/-- Writing a term into a block of terms: fractions stay. -/
theorem put_frac {w : World} {g i : Nat} {cur : Array Value} {z y : Int} {f v : Value} {q : Rat} {k : Nat} (hc : CellsAt w g cur 87) (h0 : cur[0]? = some (.int .i64 z)) (h : FracIs w v q k) :
 FracIs ((w.setCell ⟨g, i * 2, none⟩ (.int .i64 y)).setCell ⟨g, i * 2 + 1, none⟩ f) v q k := by
 have h1 := frac_store h hc h0 (by decide) (i * 2) (.int .i64 y)
 have hc1 := hc.set (i * 2) (.int .i64 y)
 have hh : ∃ z', (cur.setIfInBounds (i * 2) (.int .i64 y))[0]? = some (.int .i64 z') := by
  by_cases hi : i = 0
  ·subst hi
   exact ⟨y, get_set' (by have := (Array.getElem?_eq_some_iff.1 h0).1; omega)⟩
  ·exact ⟨z, by rw [get_set (by omega)]; exact h0⟩
 obtain ⟨z', hz⟩ := hh
 exact frac_store h1 hc1 hz (by decide) (i * 2 + 1) f
theorem DelAt.put {w0 wr : World} {g k j i : Nat} {ts : T} {cur : Array Value} {t : Int × Rat} {f : Value} (h : DelAt w0 g ts k j i wr cur) (ht : ts[j]? = some t) (h0 : t.2 ≠ 0) (hf : FracIs wr f t.2 k) :
 DelAt w0 g ts k (j + 1) (i + 1) ((wr.setCell ⟨g, i * 2, none⟩ (.int .i64 t.1)).setCell ⟨g, i * 2 + 1, none⟩ f) ((cur.setIfInBounds (i * 2) (.int .i64 t.1)).setIfInBounds (i * 2 + 1) f) := by
 obtain ⟨h1, h2, ⟨z, h3⟩, h4, h5, h6, h7, h8⟩ := h
 have hlt : j < ts.length := (List.getElem?_eq_some_iff.1 ht).1
 have e := keep_take ht
 rw [if_neg h0] at e
 have sz : i * 2 + 1 < cur.size := by omega
 have get : ∀ x, x ≠ i → ((cur.setIfInBounds (i * 2) (.int .i64 t.1)).setIfInBounds (i * 2 + 1) f)[x * 2]? = cur[x * 2]? ∧ ((cur.setIfInBounds (i * 2) (.int .i64 t.1)).setIfInBounds (i * 2 + 1) f)[x * 2 + 1]? = cur[x * 2 + 1]? := fun x hx => by
  rw [get_set (by omega), get_set (by omega), get_set (by omega), get_set (by omega)]
  exact ⟨rfl, rfl⟩
 have keepT : ∀ x u, x ≠ i → TermAt wr cur x u k → TermAt ((wr.setCell ⟨g, i * 2, none⟩ (.int .i64 t.1)).setCell ⟨g, i * 2 + 1, none⟩ f) ((cur.setIfInBounds (i * 2) (.int .i64 t.1)).setIfInBounds (i * 2 + 1) f) x u k := by
  rintro x u hx ⟨f', a, b, c⟩
  exact ⟨f', by rw [(get x hx).1]; exact a, by rw [(get x hx).2]; exact b, put_frac h1 h3 c⟩
 refine ⟨(h1.set (i * 2) _).set (i * 2 + 1) _, by simpa using h2, ?_, by rw [e, List.length_append, ← h4]; rfl, by omega, fun x u hu => ?_, fun x u hx hu => keepT x u (by omega) (h7 x u (by omega) hu), grownBy_trans (grownBy_trans h8 (grownBy_set _ _ _ _)) (grownBy_set _ _ _ _)⟩
 ·by_cases hi : i = 0
  ·subst hi
   exact ⟨t.1, by rw [get_set (by omega)]; exact get_set' (by omega)⟩
  ·exact ⟨z, by rw [get_set (by omega), get_set (by omega)]; exact h3⟩
 ·rw [e] at hu
  by_cases hx : x < i
  ·rw [List.getElem?_append_left (by omega)] at hu
   exact keepT x u (by omega) (h6 x u hu)
  ·rw [List.getElem?_append_right (by omega), ← h4] at hu
   obtain rfl : x = i := by
    have := (List.getElem?_eq_some_iff.1 hu).1
    simp at this; omega
   rw [Nat.sub_self] at hu
   obtain rfl : t = u := by simpa using hu
   exact ⟨f, by rw [get_set (by omega)]; exact get_set' (by omega), get_set' (by simp; omega), put_frac h1 h3 hf⟩
theorem keep_full {ts : T} (h : ∀ t ∈ ts, t.2 ≠ 0) : Vm.keep ts = ts := by
 unfold Vm.keep
 rw [List.filter_eq_self]
 intro t ht
 simpa using h t ht
/-- Where the loop begins. -/
theorem DelAt.start {B : Nat} {w w' : World} {g i k cap : Nat} {ts : T} {t : Int × Rat} (h : OwnT B w (.slice (some ⟨g, 0, none⟩) ts.length cap) ts k) (hb : Below w.heap.size w w') (ht : ts[i]? = some t) (h0 : t.2 = 0) (hn : ∀ u ∈ ts.take i, u.2 ≠ 0) :
 ∃ cur, DelAt w g ts k (i + 1) i w' cur := by
 have hlt : i < ts.length := (List.getElem?_eq_some_iff.1 ht).1
 have hT := h.terms.below hb
 obtain ⟨p', cap', e, -, -, hT⟩ := hT
 rcases hT with rfl | ⟨g', o', cur, rfl, hc, hx⟩
 ·simp at ht
 ·simp only [Value.slice.injEq, Option.some.injEq, Addr.mk.injEq, and_true, true_and] at e
  obtain ⟨⟨rfl, rfl⟩, rfl⟩ := e
  have hx' : ∀ x t, ts[x]? = some t → TermAt w' cur x t k := fun x t ht => by
   obtain ⟨f, a, b, c⟩ := hx x t ht
   rw [Nat.zero_add] at a b
   exact ⟨f, a, b, c⟩
  have hk : Vm.keep (ts.take (i + 1)) = ts.take i := by
   rw [keep_take ht, if_pos h0, List.append_nil, keep_full hn]
  refine ⟨cur, hc, ?_, ?_, by rw [hk, List.length_take]; omega, by omega, ?_, fun x t _ ht => hx' x t ht, grownBy_below hb _⟩
  ·obtain ⟨t2, ht2⟩ : ∃ t, ts[ts.length - 1]? = some t := ⟨_, List.getElem?_eq_getElem (by omega)⟩
   obtain ⟨f, -, b, -⟩ := hx' _ _ ht2
   have := (Array.getElem?_eq_some_iff.1 b).1
   omega
  ·obtain ⟨t2, ht2⟩ : ∃ t, ts[0]? = some t := ⟨_, List.getElem?_eq_getElem (by omega)⟩
   obtain ⟨f, a, -, -⟩ := hx' _ _ ht2
   rw [Nat.zero_mul] at a
   exact ⟨_, a⟩
  ·intro x u hu
   rw [hk, List.getElem?_take] at hu
   split at hu
   ·exact hx' x u hu
   ·simp at hu
/-- What clear does to the rest of a block of terms. -/
theorem Tryz.clearT (ty : TypeId) {w : World} {g o m cap : Nat} {cur : Array Value} (hc : CellsAt w g cur 87) (hm : o + m * 2 ≤ cur.size) (h0 : 0 < m) :
 ∃ w' cur', (Builtin.clear_ #[85] ty #[.slice (some ⟨g, o, none⟩) m cap]).run Tryz.prog w = .ok (.tuple #[]) w' ∧ CellsAt w' g cur' 87 ∧ (∀ x, x < o → cur'[x]? = cur[x]?) ∧ w.grownBy w' (some g) := by
 obtain ⟨i0, hi, hz0, hz1, hz2⟩ := info_parts Tryz.infoTerm
 obtain ⟨m, rfl⟩ : ∃ n, m = n + 1 := ⟨m - 1, by omega⟩
 have hl : (Builtin.zeroCells #[.int .i64 0, .pointer none] (m + 1)).toList.length = (m + 1) * 2 := by
  rw [Array.length_toList, size_zeroCells]; rfl
 have h1 : ∀ v ∈ (Builtin.zeroCells #[.int .i64 0, .pointer none] (m + 1)).toList, v.oneCell' = true := by
  intro v hv
  unfold Builtin.zeroCells at hv
  simp only [Array.toList_map, List.mem_map] at hv
  obtain ⟨x, -, rfl⟩ := hv
  show (#[Value.int .i64 0, .pointer none][x % 2]!).oneCell' = true
  rcases Nat.mod_two_eq_zero_or_one x with e | e <;> rw [e] <;> rfl
 obtain ⟨zs, hzs⟩ : ∃ zs, (Builtin.zeroCells #[.int .i64 0, .pointer none] (m + 1)).toList = zs := ⟨_, rfl⟩
 rw [hzs] at hl h1
 have hst := run_storeCells_at (P := Tryz.prog) g o 87 zs 0 cur w hc (by rw [hl]; omega) h1
 refine ⟨_, (cur.toList.take (o + 0) ++ zs ++ cur.toList.drop (o + 0 + zs.length)).toArray, ?_, setRow_heap w g cur _ _ _ hc, fun x hx => ?_, ⟨rfl, rfl, rfl, by simp, fun x hx hr => setRow_other w g x _ (fun e => hr (by rw [e]))⟩⟩
 ·simp [Builtin.clear_, run_underlying Tryz.underlying85, zeroValue, typeInfo, hi, hz0, Value.cells, hzs, hst]
 ·rw [List.getElem?_toArray, List.append_assoc, List.getElem?_append_left (by rw [List.length_take, Array.length_toList]; omega), List.getElem?_take_of_lt (by omega), Array.getElem?_toList]
end Go.Proofs.Vt
