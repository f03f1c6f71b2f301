/- Coefficients as they lie in memory: rows that a call makes, what append and cuts do to them; which texts the reference reads, of any length. What coefs of the law file returns: some coefficients by rising columns, each a fraction's text. -/
import Derived.Test.YtcnjcfoaoaldeaaGreatDoorVo
import Derived.Test.YtcnjcfoaoaldeaaGreatDoorRh
import Derived.Test.YtcnjcfoaoaldeaaGreatDoorRn
import Derived.LoopTactic
set_option linter.unusedVariables false
set_option maxHeartbeats 8000000
set_option maxRecDepth 100000
namespace Go.Proofs.Vt
open Go.RowKit Go.Proofs.Wd Go.Proofs.Fr
abbrev C := List (Int × ByteArray)
def cellsC (cs : C) : List Value := cs.flatMap fun c => [.int .i64 c.1, .string c.2]
theorem cellsC_len (cs : C) : (cellsC cs).length = cs.length * 2 := by
 induction cs with
 | nil => rfl
 | cons p ps ih =>
   show ([_, _] ++ cellsC ps).length = _
   rw [List.length_append, ih, List.length_cons]
   simp; omega
theorem cellsC_app (a b : C) : cellsC (a ++ b) = cellsC a ++ cellsC b := List.flatMap_append
theorem cellsC_get (ps : C) (j : Nat) (p : Int × ByteArray) (h : ps[j]? = some p) : (cellsC ps)[j * 2]? = some (.int .i64 p.1) ∧ (cellsC ps)[j * 2 + 1]? = some (.string p.2) := by
 induction ps generalizing j with
 | nil => simp at h
 | cons q ps ih =>
   show ([_, _] ++ cellsC ps)[_]? = _ ∧ ([_, _] ++ cellsC ps)[_]? = _
   cases j with
   | zero =>
     obtain rfl : q = p := by simpa using h
     simp
   | succ j =>
     have := ih j (by simpa using h)
     rw [List.getElem?_append_right (by simp; omega), List.getElem?_append_right (by simp; omega)]
     simpa [show (j + 1) * 2 - 2 = j * 2 by omega, show (j + 1) * 2 + 1 - 2 = j * 2 + 1 by omega] using this
/-- Cells of a part. -/
theorem cellsC_cut (cs : C) (l h j : Nat) (u : Value) (hj : (cellsC ((cs.take h).drop l))[j]? = some u) : (cellsC cs)[l * 2 + j]? = some u := by
 have hl : j < ((cs.take h).drop l).length * 2 := by
  rw [← cellsC_len]
  exact (List.getElem?_eq_some_iff.1 hj).1
 obtain ⟨p, hp⟩ : ∃ p, ((cs.take h).drop l)[j / 2]? = some p := ⟨_, List.getElem?_eq_getElem (by omega)⟩
 have hp2 : cs[l + j / 2]? = some p := by
  rw [List.getElem?_drop, List.getElem?_take] at hp
  split at hp
  ·exact hp
  ·simp at hp
 have h1 := cellsC_get _ _ _ hp
 have h2 := cellsC_get _ _ _ hp2
 rcases Nat.mod_two_eq_zero_or_one j with e | e
 ·rw [show j = j / 2 * 2 by omega, h1.1] at hj
  rw [show l * 2 + j = (l + j / 2) * 2 by omega, h2.1]; exact hj
 ·rw [show j = j / 2 * 2 + 1 by omega, h1.2] at hj
  rw [show l * 2 + j = (l + j / 2) * 2 + 1 by omega, h2.2]; exact hj
/-- A row of coefficients of the call's own. -/
def OwnC (B : Nat) (w : World) (v : Value) (cs : C) : Prop := w.ownsRow B 46 2 v cs.length (cellsC cs)
/-- A slice of coefficients in blocks below L. -/
def ReadsC (w : World) (L : Nat) (v : Value) (cs : C) : Prop :=
 ∃ p cap, v = .slice p cs.length cap ∧ cs.length ≤ cap ∧ cap ≤ maxLen ∧ (cs = [] ∨ ∃ g o, p = some ⟨g, o, none⟩ ∧ g < L ∧ g < w.heap.size ∧ ∀ j u, (cellsC cs)[j]? = some u → w.cell? ⟨g, o + j, none⟩ = some u)
theorem ReadsC.slice {w : World} {L : Nat} {v : Value} {cs : C} (h : ReadsC w L v cs) : ∃ p cap, v = .slice p cs.length cap ∧ cs.length ≤ cap ∧ cap ≤ maxLen := by
 obtain ⟨p, cap, h1, h2, h3, -⟩ := h
 exact ⟨p, cap, h1, h2, h3⟩
theorem ReadsC.nil (w : World) (L : Nat) : ReadsC w L (.slice none 0 0) [] := ⟨none, 0, rfl, Nat.le_refl _, Nat.zero_le _, .inl rfl⟩
theorem ReadsC.below {w w' : World} {L : Nat} {v : Value} {cs : C} (h : ReadsC w L v cs) (hb : Below w.heap.size w w') : ReadsC w' L v cs := by
 obtain ⟨p, cap, h1, h2, h3, h4⟩ := h
 refine ⟨p, cap, h1, h2, h3, ?_⟩
 rcases h4 with h4 | ⟨g, o, g1, g2, g3, g4⟩
 ·exact .inl h4
 ·exact .inr ⟨g, o, g1, g2, Nat.lt_of_lt_of_le g3 hb.size, fun j u hu => by rw [hb.cell g3]; exact g4 j u hu⟩
theorem ReadsC.grown {w w' : World} {L : Nat} {v : Value} {cs : C} {row : Option Nat} (h : ReadsC w L v cs) (hg : w.grownBy w' row) (hr : ∀ g, row = some g → L ≤ g) : ReadsC w' L v cs := by
 obtain ⟨p, cap, h1, h2, h3, h4⟩ := h
 refine ⟨p, cap, h1, h2, h3, ?_⟩
 rcases h4 with h4 | ⟨g, o, g1, g2, g3, g4⟩
 ·exact .inl h4
 ·exact .inr ⟨g, o, g1, g2, Nat.lt_of_lt_of_le g3 hg.size, fun j u hu => hg.cell (g4 j u hu) (fun e => by have := hr g e.symm; omega)⟩
/-- What one coefficient's cells hold. -/
theorem ReadsC.nth {w : World} {L j : Nat} {v : Value} {cs : C} {c : Int × ByteArray} (h : ReadsC w L v cs) (hj : cs[j]? = some c) :
 ∃ g o cap, v = .slice (some ⟨g, o, none⟩) cs.length cap ∧ cs.length ≤ cap ∧ cap ≤ maxLen ∧ w.cell? ⟨g, o + j * 2, none⟩ = some (.int .i64 c.1) ∧ w.cell? ⟨g, o + j * 2 + 1, none⟩ = some (.string c.2) ∧ g < w.heap.size := by
 obtain ⟨p, cap, h1, h2, h3, h4⟩ := h
 rcases h4 with rfl | ⟨g, o, rfl, g2, g3, g4⟩
 ·simp at hj
 ·have := cellsC_get _ _ _ hj
  exact ⟨g, o, cap, h1, h2, h3, g4 _ _ this.1, g4 _ _ this.2, g3⟩
theorem ReadsC.cut {w : World} {L : Nat} {p : Option Addr} {n cap : Nat} {cs : C} (h : ReadsC w L (.slice p n cap) cs) (l k : Nat) (hl : l ≤ k) (hk : k ≤ n) : ReadsC w L (sliced p l k cap 2) ((cs.take k).drop l) := by
 obtain ⟨p', cap', h1, h2, h3, h4⟩ := h
 simp only [Value.slice.injEq] at h1
 obtain ⟨rfl, rfl, rfl⟩ := h1
 have hlen : ((cs.take k).drop l).length = k - l := by rw [List.length_drop, List.length_take]; omega
 refine ⟨_, cap - l, by unfold sliced; rw [hlen], by omega, by omega, ?_⟩
 rcases h4 with rfl | ⟨g, o, rfl, g2, g3, g4⟩
 ·left; simp
 ·by_cases hc : cap = l
  ·left
   apply List.eq_nil_of_length_eq_zero
   omega
  ·refine .inr ⟨g, o + l * 2, by rw [if_neg hc, Option.map_some, Lib.add_plain], g2, g3, fun j u hu => ?_⟩
   rw [show o + l * 2 + j = o + (l * 2 + j) by omega]
   exact g4 _ _ (cellsC_cut cs l k j u hu)
theorem OwnC.reads {B : Nat} {w : World} {v : Value} {cs : C} (h : OwnC B w v cs) : ReadsC w w.heap.size v cs := by
 obtain ⟨h1, h2⟩ := h
 rcases h2 with ⟨rfl, h0⟩ | ⟨g, cap, cur, rfl, hg, hh, hn, hm, hs, ht⟩
 ·obtain rfl := List.length_eq_zero_iff.1 h0
  exact ReadsC.nil _ _
 ·have hlt := (Array.getElem?_eq_some_iff.1 hh).1
  refine ⟨_, cap, rfl, hn, hm, .inr ⟨g, 0, rfl, hlt, hlt, fun j u hu => ?_⟩⟩
  have hj : j < cs.length * 2 := by rw [← cellsC_len]; exact (List.getElem?_eq_some_iff.1 hu).1
  rw [← ht, List.getElem?_take_of_lt (by omega), Array.getElem?_toList] at hu
  rw [Nat.zero_add, CellsAt.cell hh j]
  exact hu
theorem OwnC.below {B : Nat} {w w' : World} {v : Value} {cs : C} (h : OwnC B w v cs) (hb : Below w.heap.size w w') : OwnC B w' v cs := ownsRow_below h hb
theorem OwnC.mono {B A : Nat} {w : World} {v : Value} {cs : C} (h : OwnC B w v cs) (hA : A ≤ B) : OwnC A w v cs := by
 obtain ⟨h1, h2⟩ := h
 refine ⟨h1, ?_⟩
 rcases h2 with h2 | ⟨g, cap, cur, e, hg, r⟩
 ·exact .inl h2
 ·exact .inr ⟨g, cap, cur, e, by omega, r⟩
theorem Tryz.infoCoef : (Tryz.prog.info? 46).map (fun i => (i.zero, i.size, i.bytes)) = some (some (.agg #[.int .i64 0, .string ⟨#[]⟩]), 2, 24) := by kernel_rfl
/-- append onto a row of one's own. -/
theorem Tryz.appendC {B L : Nat} {w : World} {v x : Value} {cs ds : C} (ty : TypeId) (h : OwnC B w v cs) (hx : ReadsC w L x ds) (hl : cs.length + ds.length ≤ 1000000) (hB : B ≤ w.heap.size) :
 ∃ v' w', (Builtin.append_ #[25, 25] ty #[v, x]).run Tryz.prog w = .ok v' w' ∧ OwnC B w' v' (cs ++ ds) ∧ w.grownBy w' v.ownBlock := by
 obtain ⟨i0, hi, hz0, hz1, hz2⟩ := info_parts Tryz.infoCoef
 obtain ⟨p, cap, rfl, h1, h2, h3⟩ := hx
 rcases h3 with rfl | ⟨g, o, rfl, g2, g3, g4⟩
 ·exact ⟨v, w, append_empty Tryz.underlying25 hi h p cap, by rw [List.append_nil]; exact h, ⟨rfl, rfl, rfl, Nat.le_refl _, fun _ _ _ => rfl⟩⟩
 ·obtain ⟨v', w', hr, e1, e2, -⟩ := run_append_own (P := Tryz.prog) w B 25 ty 46 i0 _ 2 24 Tryz.underlying25 hi hz0 hz1 hz2 rfl (by decide) v cs.length (cellsC cs) h ⟨g, o, none⟩ ds.length cap (cellsC ds)
   (by rw [cellsC_len]) (fun j u hu => by rw [Lib.add_plain]; exact g4 j u hu) (by
    intro u hu
    obtain ⟨p, hp, hu⟩ := List.mem_flatMap.1 hu
    simp only [List.mem_cons, List.not_mem_nil, or_false] at hu
    rcases hu with rfl | rfl <;> rfl) (by unfold maxLen; omega) (by omega) hB
  exact ⟨v', w', hr, by unfold OwnC; rw [List.length_append, cellsC_app]; exact e1, e2⟩
/-- A slice of one coefficient, just built. -/
theorem readsC_one (w : World) (c : Int) (s : ByteArray) : ReadsC (w.alloc (.cells #[.int .i64 c, .string s] 46)) (w.heap.size + 1) (.slice (some ⟨w.heap.size, 0, none⟩) 1 1) [(c, s)] := by
 refine ⟨_, 1, rfl, by simp, by unfold maxLen; omega, .inr ⟨w.heap.size, 0, rfl, by omega, by simp, fun j u hu => ?_⟩⟩
 rw [Nat.zero_add, (CellsAt.new w _ _ rfl).cell j]
 match j, hu with
 | 0, hu => simpa [cellsC] using hu
 | 1, hu => simpa [cellsC] using hu
/-- What is longer than a fraction's text is none. -/
theorem bad_long {s : ByteArray} (h : 4002 < s.size) : Tx.plainB (upper s) = false ∨ (stroke (size s) < (size s).size ∧ Tx.plainB (lower s) = false) := by
 have hs : s.size ≤ (size s).size + 1 := by
  unfold size
  split
  ·rw [ByteArray.size_extract]; omega
  ·omega
 have hk := stroke_le (size s)
 by_cases h1 : Tx.plainB (upper s) = false
 ·exact .inl h1
 ·have h2 := (Tx.plainB_true.1 (by simpa using h1)).2
  unfold upper at h2
  rw [ByteArray.size_extract] at h2
  refine .inr ⟨by omega, ?_⟩
  refine Tx.plainB_false (fun g => ?_)
  have h3 := g.2
  unfold lower at h3
  rw [ByteArray.size_extract] at h3
  omega
theorem getQ_bad {s : ByteArray} (h : Tx.plainB (upper s) = false ∨ (stroke (size s) < (size s).size ∧ Tx.plainB (lower s) = false)) : getQ s = none := by
 rcases h with h | ⟨h1, h2⟩
 ·exact getQ_no (.inl h)
 ·exact getQ_no2 h1 (.inl h2)
theorem getQ_size {s : ByteArray} {q : Rat} (h : getQ s = some q) : s.size ≤ 4002 := by
 by_cases hs : s.size ≤ 4002
 ·exact hs
 ·rw [getQ_bad (bad_long (by omega))] at h; simp at h
theorem QIs.more {w : World} {v : Value} {q : Rat} {n m : Nat} (h : QIs w v q n) (hm : n ≤ m) : QIs w v q m := by
 obtain ⟨neg, N, D, z, d, h1, h2, h3, h4⟩ := h
 exact ⟨neg, N, D, z, d, h1, h2.mono hm, h3.mono hm, h4⟩
theorem QIs.agg {w : World} {v : Value} {q : Rat} {n : Nat} (h : QIs w v q n) : ∃ neg p2 n2 c2 p3 n3 c3, v = .agg #[.bool neg, .slice p2 n2 c2, .slice p3 n3 c3] := by
 obtain ⟨neg, N, D, z, d, h1, h2, h3, h4⟩ := h
 obtain ⟨p2, n2, c2, rfl⟩ := h2.slice
 obtain ⟨p3, n3, c3, rfl⟩ := h3.slice
 exact ⟨neg, p2, n2, c2, p3, n3, c3, h1⟩
theorem RGetA.parts {s : ByteArray} {w : World} {e : Ending} (h : RGetA s w e) : ∃ neg p2 n2 c2 p3 n3 c3 bok, e = .returned (.tuple #[.agg #[.bool neg, .slice p2 n2 c2, .slice p3 n3 c3], .bool bok]) ∧ bok = (getQ s).isSome ∧ ∀ q, getQ s = some q → QIs w (.agg #[.bool neg, .slice p2 n2 c2, .slice p3 n3 c3]) q 500 := by
 rcases h with ⟨q, v, h1, rfl, h3⟩ | ⟨h1, a, n, c, rfl⟩
 ·obtain ⟨neg, p2, n2, c2, p3, n3, c3, rfl⟩ := QIs.agg h3
  exact ⟨neg, p2, n2, c2, p3, n3, c3, true, rfl, by rw [h1]; rfl, fun q' hq => by rw [h1] at hq; obtain rfl := Option.some.inj hq; exact h3⟩
 ·exact ⟨false, none, 0, 0, a, n, c, false, rfl, by rw [h1]; rfl, fun q' hq => by rw [h1] at hq; simp at hq⟩
/-- The text of a text's fraction is that text. -/
theorem text_own {s : ByteArray} {q : Rat} (h : getQ s = some q) : (⟨(textQ q).toArray⟩ : ByteArray) = s := by
 rw [getQ_text h]
theorem Tryz.rQTextA (v : Value) (q : Rat) (n : Nat) (w : World) (h : QIs w v q n) (hn1 : 1 ≤ n) (hn : n ≤ 40000) :
 Calls Tryz.prog 24 #[v] w fun e w' => e = .returned (.string ⟨(textQ q).toArray⟩) ∧ Below w.heap.size w w' := by
 obtain ⟨neg, N, D, z, d, rfl, h2, h3, h4, h5, h6⟩ := h
 exact Tryz.rQText neg N D z d n q w h2 h3 h4 h6 hn1 hn
end Go.Proofs.Vt
namespace Go.Proofs.Vt
open Go.RowKit Go.Proofs.Wd Go.Proofs.Fr
/-- A slice of ints, of strings, that came in. -/
def IntsIn (w : World) (v : Value) (zs : List Int) : Prop :=
 ∃ p cap, v = .slice p zs.length cap ∧ zs.length ≤ cap ∧ cap ≤ maxLen ∧ (∀ z ∈ zs, -9223372036854775808 ≤ z ∧ z ≤ 9223372036854775807) ∧ (zs = [] ∨ ∃ b o, p = some ⟨b, o, none⟩ ∧ b < w.heap.size ∧ ∀ j z, zs[j]? = some z → w.cell? ⟨b, o + j, none⟩ = some (.int .i64 z))
def StrsIn (w : World) (v : Value) (ss : List ByteArray) : Prop :=
 ∃ p cap, v = .slice p ss.length cap ∧ ss.length ≤ cap ∧ cap ≤ maxLen ∧ (∀ s ∈ ss, s.size ≤ maxLen) ∧ (ss = [] ∨ ∃ b o, p = some ⟨b, o, none⟩ ∧ b < w.heap.size ∧ ∀ j s, ss[j]? = some s → w.cell? ⟨b, o + j, none⟩ = some (.string s))
theorem IntsIn.nth {w : World} {v : Value} {zs : List Int} {j : Nat} {z : Int} (h : IntsIn w v zs) (hj : zs[j]? = some z) : ∃ b o cap, v = .slice (some ⟨b, o, none⟩) zs.length cap ∧ b < w.heap.size ∧ w.cell? ⟨b, o + j, none⟩ = some (.int .i64 z) ∧ -9223372036854775808 ≤ z ∧ z ≤ 9223372036854775807 := by
 obtain ⟨p, cap, h1, h2, h3, h4, h5⟩ := h
 rcases h5 with rfl | ⟨b, o, rfl, hb, hc⟩
 ·simp at hj
 ·exact ⟨b, o, cap, h1, hb, hc j z hj, h4 z (List.mem_of_getElem? hj)⟩
theorem StrsIn.nth {w : World} {v : Value} {ss : List ByteArray} {j : Nat} {s : ByteArray} (h : StrsIn w v ss) (hj : ss[j]? = some s) : ∃ b o cap, v = .slice (some ⟨b, o, none⟩) ss.length cap ∧ b < w.heap.size ∧ w.cell? ⟨b, o + j, none⟩ = some (.string s) ∧ s.size ≤ maxLen := by
 obtain ⟨p, cap, h1, h2, h3, h4, h5⟩ := h
 rcases h5 with rfl | ⟨b, o, rfl, hb, hc⟩
 ·simp at hj
 ·exact ⟨b, o, cap, h1, hb, hc j s hj, h4 s (List.mem_of_getElem? hj)⟩
theorem IntsIn.slice {w : World} {v : Value} {zs : List Int} (h : IntsIn w v zs) : ∃ p cap, v = .slice p zs.length cap ∧ zs.length ≤ cap ∧ cap ≤ maxLen := by
 obtain ⟨p, cap, h1, h2, h3, -⟩ := h; exact ⟨p, cap, h1, h2, h3⟩
theorem StrsIn.slice {w : World} {v : Value} {ss : List ByteArray} (h : StrsIn w v ss) : ∃ p cap, v = .slice p ss.length cap ∧ ss.length ≤ cap ∧ cap ≤ maxLen := by
 obtain ⟨p, cap, h1, h2, h3, -⟩ := h; exact ⟨p, cap, h1, h2, h3⟩
theorem IntsIn.below {w w' : World} {v : Value} {zs : List Int} (h : IntsIn w v zs) (hb : Below w.heap.size w w') : IntsIn w' v zs := by
 obtain ⟨p, cap, h1, h2, h3, h4, h5⟩ := h
 refine ⟨p, cap, h1, h2, h3, h4, ?_⟩
 rcases h5 with h5 | ⟨b, o, g1, g2, g3⟩
 ·exact .inl h5
 ·exact .inr ⟨b, o, g1, Nat.lt_of_lt_of_le g2 hb.size, fun j z hj => by rw [hb.cell g2]; exact g3 j z hj⟩
theorem StrsIn.below {w w' : World} {v : Value} {ss : List ByteArray} (h : StrsIn w v ss) (hb : Below w.heap.size w w') : StrsIn w' v ss := by
 obtain ⟨p, cap, h1, h2, h3, h4, h5⟩ := h
 refine ⟨p, cap, h1, h2, h3, h4, ?_⟩
 rcases h5 with h5 | ⟨b, o, g1, g2, g3⟩
 ·exact .inl h5
 ·exact .inr ⟨b, o, g1, Nat.lt_of_lt_of_le g2 hb.size, fun j z hj => by rw [hb.cell g2]; exact g3 j z hj⟩
/-- Coefficients as New takes them. -/
def CoefOk (m : Int) (cs : C) : Prop := cs.Pairwise (fun a b => a.1 < b.1) ∧ ∀ c ∈ cs, 0 ≤ c.1 ∧ c.1 < m ∧ ∃ q, getQ c.2 = some q
theorem CoefOk.nil (m : Int) : CoefOk m [] := ⟨List.Pairwise.nil, fun c hc => by simp at hc⟩
/-- One is put in where it belongs. -/
theorem CoefOk.put {m : Int} {cs : C} (h : CoefOk m cs) (k : Nat) (c : Int) (s : ByteArray) (q : Rat) (h0 : 0 ≤ c) (h1 : c < m) (hq : getQ s = some q) (a : ∀ d ∈ cs.take k, d.1 < c) (b : ∀ d ∈ cs.drop k, c < d.1) : CoefOk m (cs.take k ++ [(c, s)] ++ cs.drop k) := by
 obtain ⟨g1, g2⟩ := h
 have g3 := List.take_append_drop k cs
 rw [← g3] at g1
 obtain ⟨e1, e2, e3⟩ := List.pairwise_append.1 g1
 constructor
 ·refine List.pairwise_append.2 ⟨List.pairwise_append.2 ⟨e1, List.pairwise_singleton _ _, fun x hx y hy => ?_⟩, e2, fun x hx y hy => ?_⟩
  ·rw [List.mem_singleton.1 hy]; exact a x hx
  ·rcases List.mem_append.1 hx with hx | hx
   ·exact e3 x hx y hy
   ·rw [List.mem_singleton.1 hx]; exact b y hy
 ·intro d hd
  rcases List.mem_append.1 hd with hd | hd
  ·rcases List.mem_append.1 hd with hd | hd
   ·exact g2 d (List.mem_of_mem_take hd)
   ·rw [List.mem_singleton.1 hd]; exact ⟨h0, h1, q, hq⟩
  ·exact g2 d (List.mem_of_mem_drop hd)
theorem getQ_nought : getQ ⟨#[48]⟩ = some 0 := by
 have hs : size ⟨#[48]⟩ = ⟨#[48]⟩ := by unfold size; rw [if_neg (by decide)]
 have hk : stroke ⟨#[48]⟩ = 1 := by unfold stroke; decide
 have hu : upper ⟨#[48]⟩ = ⟨#[48]⟩ := by unfold upper; rw [hs, hk]; rfl
 have hd : Lib.decDigits 0 = [48] := by simp [Lib.decDigits]
 have hp : Tx.plainB ⟨#[48]⟩ = true := Tx.plainB_true.2 ⟨by have := Tx.numeral_dec 0; rw [hd] at this; exact this, by decide⟩
 have hn : Tx.num ⟨#[48]⟩ = 0 := by unfold Tx.num; rfl
 have hm : minus ⟨#[48]⟩ = false := by unfold minus; decide
 have := getQ_whole (s := ⟨#[48]⟩) (by rw [hs, hk]; decide) (by rw [hu]; exact hp) (by rw [hm]; simp)
 rw [this, hu, hn, hm]
 rfl
theorem Tryz.cutTo (p : Option Addr) (n cap k : Nat) (hk : k ≤ n) (hn : n ≤ cap) (w : World) : (Instr.slice 25 (.slice p n cap) none (some (.int .i64 k)) none).run Tryz.prog w = .ok (sliced p 0 k cap 2) w := by
 have h := run_slice_h (P := Tryz.prog) (w := w) 25 p n cap (by simp [Program.elem, Tryz.underlying25]) .i64 k (by omega) (by omega)
 rw [h, show Tryz.prog.elem 25 = 46 by simp [Program.elem, Tryz.underlying25], Tryz.sizeOf46]
 rfl
theorem Tryz.cutFrom (p : Option Addr) (n cap k : Nat) (hk : k ≤ n) (hn : n ≤ cap) (hc : cap ≤ 9223372036854775807) (w : World) : (Instr.slice 25 (.slice p n cap) (some (.int .i64 k)) none none).run Tryz.prog w = .ok (sliced p k n cap 2) w := by
 have h := run_slice_l (P := Tryz.prog) (w := w) 25 p n cap (by simp [Program.elem, Tryz.underlying25]) .i64 k (by omega) (by omega)
 rw [h, show Tryz.prog.elem 25 = 46 by simp [Program.elem, Tryz.underlying25], Tryz.sizeOf46]
 rfl
/-- What coefs tells. -/
def CoefsSaid (w0 w' : World) (e : Ending) : Prop := ∃ r cs, e = .returned r ∧ OwnC w0.heap.size w' r cs ∧ CoefOk 30 cs ∧ cs.length ≤ 10
/-- What coefs's loop keeps to. -/
def CoefsAt (w0 : World) (lv : Value) (i : Nat) (wr : World) : Prop := ∃ cs, OwnC w0.heap.size wr lv cs ∧ CoefOk 30 cs ∧ cs.length ≤ i ∧ Below w0.heap.size w0 wr
theorem colOf (z : Int) : -29 ≤ z.tmod 30 ∧ z.tmod 30 ≤ 29 ∧ 0 ≤ (z.tmod 30 + 30).tmod 30 ∧ (z.tmod 30 + 30).tmod 30 < 30 := by
 have h1 := Int.tmod_lt_of_pos z (show (0 : Int) < 30 by omega)
 have h2 := Int.lt_tmod_of_pos z (show (0 : Int) < 30 by omega)
 refine ⟨by omega, by omega, Int.tmod_nonneg _ (by omega), Int.tmod_lt_of_pos _ (by omega)⟩
theorem Tryz.coefs (u v : Value) (zs : List Int) (ss : List ByteArray) (w : World) (hu : IntsIn w u zs) (hv : StrsIn w v ss) :
 Calls Tryz.prog 12 #[u, v] w fun e w' => CoefsSaid w w' e ∧ Below w.heap.size w w' := by
 obtain ⟨p1, c1, rfl, l1, l2⟩ := hu.slice
 obtain ⟨p2, c2, rfl, m1, m2⟩ := hv.slice
 have HU : Hid (IntsIn w _ zs) := hu
 have HV : Hid (StrsIn w _ ss) := hv
 unfold maxLen at l2 m2
 clear hu hv
 go_enter Tryz.func12, Tryz.ntmps12
 go_wp2_with fail
 go_loopw [5, 6] (fun lv iv wr => ∃ i : Nat, i ≤ 10 ∧ iv = .int .i64 i ∧ CoefsAt w lv i wr) (fun _ iv _ => 10 - (intOf iv).toNat)
 case atStart => exact ⟨0, by omega, rfl, [], World.ownsRow_nil _ _ _ _, CoefOk.nil _, Nat.le_refl _, Below.refl _ _⟩
 case round =>
  obtain ⟨i, hi, rfl, cs, ho, hok, hcl, hb⟩ := hrel
  have HO : Hid (OwnC w.heap.size wr _ cs) := ho
  have HOK : Hid (CoefOk 30 cs) := hok
  have HB : Hid (Below w.heap.size w wr) := hb
  clear ho hok hb
  by_cases h1 : i < zs.length
  ·by_cases h2 : i < ss.length
   ·by_cases h3 : i < 10
    ·obtain ⟨z, hz⟩ : ∃ z, zs[i]? = some z := ⟨_, List.getElem?_eq_getElem h1⟩
     obtain ⟨s, hs⟩ : ∃ s, ss[i]? = some s := ⟨_, List.getElem?_eq_getElem h2⟩
     obtain ⟨b1, o1, c1', he1, hb1, hz1, z0, z1⟩ := HU.out.nth hz
     obtain ⟨b2, o2, c2', he2, hb2, hs1, s1⟩ := HV.out.nth hs
     simp only [Value.slice.injEq, true_and] at he1 he2
     obtain ⟨rfl, rfl⟩ := he1
     obtain ⟨rfl, rfl⟩ := he2
     rw [← HB.out.cell hb1] at hz1
     rw [← HB.out.cell hb2] at hs1
     obtain ⟨k1, k2, k3, k4⟩ := colOf z
     clear hz hs hb1 hb2
     have hi3 : (i : Int) < 10 := by omega
     go_wp2_with fail
     have k5 : (z.tmod 30 + 30).tmod 30 = (z.tmod 30 + 30) % 30 := Int.tmod_eq_emod_of_nonneg (by omega)
     rw [k5] at k3 k4
     clear k5 k1 k2
     generalize (z.tmod 30 + 30) % 30 = c at *
     obtain ⟨p, cap, rfl, n1, n2⟩ := HO.out.reads.slice
     unfold maxLen at n2
     clear hz1 z0 z1
     go_loop [8] (fun kv => ∃ k : Nat, k ≤ cs.length ∧ kv = .int .i64 k ∧ ∀ d ∈ cs.take k, d.1 < c) (fun kv => cs.length - (intOf kv).toNat)
     case atStart => exact ⟨0, Nat.zero_le _, rfl, fun d hd => by simp at hd⟩
     case round =>
      obtain ⟨k, hk, rfl, hbelow⟩ := hrel
      by_cases hlt : k < cs.length
      ·obtain ⟨d, hd⟩ : ∃ d, cs[k]? = some d := ⟨_, List.getElem?_eq_getElem hlt⟩
       obtain ⟨g, o, cap', he, -, -, hd0, -, hg⟩ := HO.out.reads.nth hd
       simp only [Value.slice.injEq, true_and] at he
       obtain ⟨rfl, rfl⟩ := he
       have hmem := List.mem_of_getElem? hd
       have d0 := (HOK.out.2 d hmem).1
       have d1 := (HOK.out.2 d hmem).2.1
       have hdk : cs[k] = d := by rw [List.getElem?_eq_getElem hlt] at hd; exact Option.some.inj hd
       have HT : Hid (∀ e ∈ cs.take (k + 1), e = d ∨ e.1 < c) := fun e he => by
        rw [List.take_succ_eq_append_getElem hlt, hdk] at he
        rcases List.mem_append.1 he with he | he
        ·exact .inr (hbelow e he)
        ·exact .inl (List.mem_singleton.1 he)
       have HD : Hid (∀ e ∈ cs.drop k, d.1 ≤ e.1) := fun e he => by
        rw [List.drop_eq_getElem_cons hlt, hdk] at he
        rcases List.mem_cons.1 he with rfl | he
        ·exact Int.le_refl _
        ·have h5 := HOK.out.1
         rw [← List.take_append_drop k cs, List.drop_eq_getElem_cons hlt, hdk] at h5
         have := (List.pairwise_cons.1 (List.pairwise_append.1 h5).2.1).1 e he
         omega
       have HBE := Lib.hid hbelow
       clear hd hmem hdk hbelow
       rcases Int.lt_trichotomy d.1 c with hdc | hdc | hdc
       ·have e1 : decide (d.1 < c) = true := by simpa using hdc
        go_wp2
        go_round
        case rel => exact ⟨k + 1, by omega, by go_num, fun e he => by
         rcases HT.out e he with rfl | h
         ·exact hdc
         ·exact h⟩
        case measure => simp [intOf]; omega
       ·have e1 : decide (d.1 < c) = false := by simp; omega
        have e2 : (d.1 == c) = true := by simp; omega
        have HR : Hid (CoefsAt w _ (i + 1) wr) := ⟨cs, HO.out, HOK.out, by omega, HB.out⟩
        have HDC := Lib.hid hdc
        clear hdc
        go_wp2
        go_roundw
        case rel => exact ⟨i + 1, by omega, by go_num, HR.out⟩
        case measure => simp [intOf]; omega
       ·have e1 : decide (d.1 < c) = false := by simp; omega
        have e2 : (d.1 == c) = false := by simp; omega
        have HK : Hid ((∀ e ∈ cs.take k, e.1 < c) ∧ (∀ e ∈ cs.drop k, c < e.1)) := ⟨HBE.out, fun e he => by have := HD.out e he; omega⟩
        clear HT HD HBE
        go_wp2_with fail
        with_reducible refine (Tryz.rGetA s _ (by unfold maxLen at s1; omega)).mono ?_
        rintro e w3 ⟨hget, hb3⟩
        have HO3 := Lib.hid (HO.out.below hb3)
        have HB3 := Lib.hid (HB.out.trans (hb3.mono HB.out.size))
        obtain ⟨neg, p2, n2, c2, p3, n3, c3, bok, rfl, hbo, hg⟩ := hget.parts
        have HG := Lib.hid hg
        have HBO := Lib.hid hbo
        clear hget hbo hg hb3 HO HB
        go_upto_if 71 with (fail)
        have hb4 : Below w3.heap.size w3 (w3.alloc (.cells #[.bool neg, .slice p2 n2 c2, .slice p3 n3 c3] 35)) := (Below.refl _ _).alloc (Nat.le_refl _) _
        have HO4 := Lib.hid (HO3.out.below hb4)
        have HB4 := Lib.hid (HB3.out.trans (hb4.mono HB3.out.size))
        have HG4 := Lib.hid (fun q hq => (HG.out q hq).below hb4)
        clear HO3 HB3 HG hb4
        go_cut [9] (fun vv wx => ∃ (sv : ByteArray) (q : Rat), vv = .string sv ∧ getQ sv = some q ∧ Below (w3.heap.size + 1) (w3.alloc (.cells #[.bool neg, .slice p2 n2 c2, .slice p3 n3 c3] 35)) wx)
        case first =>
         rcases hq : getQ s with _ | q
         ·obtain rfl : bok = false := by rw [HBO.out, hq]; rfl
          clear HBO HG4 hq
          go_wp2_with fail
          go_meet
          exact ⟨_, 0, rfl, getQ_nought, Below.refl _ _⟩
         ·obtain rfl : bok = true := by rw [HBO.out, hq]; rfl
          have HQ := Lib.hid (HG4.out q hq)
          have HS := Lib.hid hq
          clear HBO HG4 hq
          go_wp2_with fail
          with_reducible refine (Tryz.rQTextA _ q 500 _ HQ.out (by omega) (by omega)).mono ?_
          rintro e w5 ⟨rfl, hb5⟩
          rw [text_own HS.out]
          have HB5 : Hid (Below (w3.heap.size + 1) (w3.alloc (.cells #[.bool neg, .slice p2 n2 c2, .slice p3 n3 c3] 35)) w5) := Lib.hid (by simpa using hb5)
          clear hb5
          go_wp2_with fail
          go_meet
          exact ⟨s, q, rfl, HS.out, HB5.out⟩
        case rest =>
         obtain ⟨sv, q, rfl, hq, hb5⟩ := hcut
         rename World => w5
         have hb5' : Below (w3.alloc (.cells #[.bool neg, .slice p2 n2 c2, .slice p3 n3 c3] 35)).heap.size (w3.alloc (.cells #[.bool neg, .slice p2 n2 c2, .slice p3 n3 c3] 35)) w5 := by simpa using hb5
         have HO := Lib.hid (HO4.out.below hb5')
         have HB := Lib.hid (HB4.out.trans (hb5'.mono HB4.out.size))
         have HQ := Lib.hid hq
         clear hb5 hb5' HO4 HB4 HG4 hq HBO
         have hk0 : (0 : Int) ≤ (k : Int) := by omega
         obtain ⟨v1, hv1⟩ : ∃ v, sliced (some ⟨g, o, none⟩) 0 k cap 2 = v := ⟨_, rfl⟩
         obtain ⟨v2, hv2⟩ : ∃ v, sliced (some ⟨g, o, none⟩) k cs.length cap 2 = v := ⟨_, rfl⟩
         have hs1 : ∀ W, (Instr.slice 25 (.slice (some ⟨g, o, none⟩) cs.length cap) none (some (.int .i64 k)) none).run Tryz.prog W = .ok v1 W := fun W => by
          rw [← hv1]; exact Tryz.cutTo (some ⟨g, o, none⟩) cs.length cap k hk n1 W
         have hs2 : ∀ W, (Instr.slice 25 (.slice (some ⟨g, o, none⟩) cs.length cap) (some (.int .i64 k)) none none).run Tryz.prog W = .ok v2 W := fun W => by
          rw [← hv2]; exact Tryz.cutFrom (some ⟨g, o, none⟩) cs.length cap k hk n1 (by omega) W
         have HR1 : Hid (ReadsC w5 w5.heap.size v1 (cs.take k)) := by
          have := HO.out.reads.cut 0 k (by omega) hk
          rw [hv1, List.drop_zero] at this
          exact this
         have HR2 : Hid (ReadsC w5 w5.heap.size v2 (cs.drop k)) := by
          have := HO.out.reads.cut k cs.length hk (Nat.le_refl _)
          rw [hv2, List.take_length] at this
          exact this
         clear hv1 hv2 HO
         obtain ⟨L, hL⟩ : ∃ L, w5.heap.size = L := ⟨_, rfl⟩
         rw [hL] at HR1 HR2
         have HL : Hid (L ≤ w5.heap.size ∧ w.heap.size ≤ L) := ⟨by omega, by have := HB.out.size; omega⟩
         clear hL
         go_wp2_with fail
         refine wp_region_held_drew (S := fun w' => True) (by kernel_rfl) trivial (fun hHeld => ?_)
         have HR1d := Lib.hid (HR1.out.below (Below.refl _ _).drew)
         have HR2d := Lib.hid (HR2.out.below (Below.refl _ _).drew)
         have HBd := Lib.hid HB.out.drew
         have HLd : Hid (L ≤ w5.drew.heap.size ∧ w.heap.size ≤ L) := HL.out
         clear hHeld HR1 HR2 HB HL
         generalize w5.drew = w6 at *
         have hHeld : (fun w' : World => True) w6 := trivial
         refine takeY 0 (h := ?_)
         refine takeY 1 (h := ?_)
         refine takeY 2 (h := ?_)
         (try simp only [Act.put, List.setIfInBounds_toArray, List.set_cons_zero, List.set_cons_succ])
         refine takeY 4 (h := ?_)
         refine takeY 5 (h := ?_)
         refine takeY 6 (h := ?_)
         (try simp only [Act.put, List.setIfInBounds_toArray, List.set_cons_zero, List.set_cons_succ])
         refine takeY 9 (h := ?_)
         refine takeY 10 (h := ?_)
         refine takeY 11 (h := ?_)
         (try simp only [Act.put, List.setIfInBounds_toArray, List.set_cons_zero, List.set_cons_succ])
         clear hs1 hs2 hHeld
         refine wpAnyH_ready (rs := [3, 7]) (by kernel_rfl) (by simp) ?_
         refine AllReadyH.cons (by (simp only [List.getElem?_toArray, List.getElem?_cons_succ, List.getElem?_cons_zero]) <;> rfl) (fun KX hK => ?_) (AllReadyH.cons (by (simp only [List.getElem?_toArray, List.getElem?_cons_succ, List.getElem?_cons_zero]) <;> rfl) (fun KX hK => ?_) AllReadyH.nil)
         ·skip
          obtain ⟨v3, w7, hrun, ho, hg⟩ := Tryz.appendC 25 (show OwnC L w6 (.slice none 0 0) [] from World.ownsRow_nil _ _ _ _) HR1d.out (by simp; try omega) HLd.out.1
          rw [if_pos (by rfl)]
          refine wp_append (.const (.slice none 0 0)) (.tmp 76) 25 rfl rfl rfl hrun ?_
          (try simp only [Act.put, List.setIfInBounds_toArray, List.set_cons_zero, List.set_cons_succ])
          clear HR1d
          have HR2d_ := Lib.hid (HR2d.out.grown hg (fun g hg => by simp [Value.ownBlock] at hg))
          have HBd_ := Lib.hid (HBd.out.grown hg HBd.out.size (fun g hg => by simp [Value.ownBlock] at hg))
          have HLd_ : Hid (L ≤ _ ∧ w.heap.size ≤ L) := ⟨Nat.le_trans HLd.out.1 hg.size, HLd.out.2⟩
          have HNEW := Lib.hid ho
          clear ho hrun HBd HLd HR2d
          have HR2d := HR2d_
          clear HR2d_
          have HBd := HBd_
          clear HBd_
          have HLd := HLd_
          clear HLd_
          clear hg
          have HA := HNEW
          clear HNEW
          refine hK.out _ _ trivial (fun hHeld => ?_)
          clear hK KX hHeld
          (try simp only [Act.put, List.setIfInBounds_toArray, List.set_cons_zero, List.set_cons_succ])
          refine wpAnyH_ready (rs := [7]) (by kernel_rfl) (by simp) ?_
          refine AllReadyH.cons (by (simp only [List.getElem?_toArray, List.getElem?_cons_succ, List.getElem?_cons_zero]) <;> rfl) (fun KX hK => ?_) AllReadyH.nil
          go_simp
          have hb : Below w7.heap.size w7 (w7.alloc (.cells #[.int .i64 c, .string sv] 46)) := (Below.refl _ _).alloc (Nat.le_refl _) _
          have HONE := Lib.hid (readsC_one w7 c sv)
          have HR2d_ := Lib.hid (HR2d.out.below hb)
          have HA_ := Lib.hid (HA.out.below hb)
          have HBd_ := Lib.hid (HBd.out.trans (hb.mono HBd.out.size))
          have HLd_ : Hid (L ≤ (w7.alloc (.cells #[.int .i64 c, .string sv] 46)).heap.size ∧ w.heap.size ≤ L) := ⟨Nat.le_trans HLd.out.1 hb.size, HLd.out.2⟩
          clear hb HBd HLd HR2d HA
          have HR2d := HR2d_
          clear HR2d_
          have HA := HA_
          clear HA_
          have HBd := HBd_
          clear HBd_
          have HLd := HLd_
          clear HLd_
          generalize w7.alloc (.cells #[.int .i64 c, .string sv] 46) = w8 at *
          generalize w7.heap.size = gone at *
          refine hK.out _ _ trivial (fun hHeld => ?_)
          clear hK KX hHeld
          (try simp only [Act.put, List.setIfInBounds_toArray, List.set_cons_zero, List.set_cons_succ])
          refine wpAnyH_ready (rs := [8]) (by kernel_rfl) (by simp) ?_
          refine AllReadyH.cons (by (simp only [List.getElem?_toArray, List.getElem?_cons_succ, List.getElem?_cons_zero]) <;> rfl) (fun KX hK => ?_) AllReadyH.nil
          obtain ⟨v4, w9, hrun, ho, hg⟩ := Tryz.appendC 25 HA.out HONE.out (by simp; try omega) HLd.out.1
          rw [if_pos (by rfl)]
          refine wp_append (.tmp 77) (.tmp 81) 25 rfl rfl rfl hrun ?_
          (try simp only [Act.put, List.setIfInBounds_toArray, List.set_cons_zero, List.set_cons_succ])
          clear HONE
          have HR2d_ := Lib.hid (HR2d.out.grown hg (fun g hg => (World.ownsRow.lt HA.out g hg).1))
          have HBd_ := Lib.hid (HBd.out.grown hg HBd.out.size (fun g hg => Nat.le_trans HLd.out.2 ((World.ownsRow.lt HA.out g hg).1)))
          have HLd_ : Hid (L ≤ _ ∧ w.heap.size ≤ L) := ⟨Nat.le_trans HLd.out.1 hg.size, HLd.out.2⟩
          have HNEW := Lib.hid ho
          clear ho hrun HBd HLd HR2d HA
          have HR2d := HR2d_
          clear HR2d_
          have HBd := HBd_
          clear HBd_
          have HLd := HLd_
          clear HLd_
          clear hg
          have HA := HNEW
          clear HNEW
          refine hK.out _ _ trivial (fun hHeld => ?_)
          clear hK KX hHeld
          (try simp only [Act.put, List.setIfInBounds_toArray, List.set_cons_zero, List.set_cons_succ])
          refine wpAnyH_ready (rs := [12]) (by kernel_rfl) (by simp) ?_
          refine AllReadyH.cons (by (simp only [List.getElem?_toArray, List.getElem?_cons_succ, List.getElem?_cons_zero]) <;> rfl) (fun KX hK => ?_) AllReadyH.nil
          obtain ⟨v5, w10, hrun, ho, hg⟩ := Tryz.appendC 25 HA.out HR2d.out (by simp; try omega) HLd.out.1
          rw [if_pos (by rfl)]
          refine wp_append (.tmp 82) (.tmp 85) 25 rfl rfl rfl hrun ?_
          (try simp only [Act.put, List.setIfInBounds_toArray, List.set_cons_zero, List.set_cons_succ])
          clear HR2d
          have HBd_ := Lib.hid (HBd.out.grown hg HBd.out.size (fun g hg => Nat.le_trans HLd.out.2 ((World.ownsRow.lt HA.out g hg).1)))
          have HLd_ : Hid (L ≤ _ ∧ w.heap.size ≤ L) := ⟨Nat.le_trans HLd.out.1 hg.size, HLd.out.2⟩
          have HNEW := Lib.hid ho
          clear ho hrun HBd HLd  HA
          have HBd := HBd_
          clear HBd_
          have HLd := HLd_
          clear HLd_
          clear hg
          have HA := HNEW
          clear HNEW
          refine hK.out _ _ trivial (fun hHeld => ?_)
          clear hK KX hHeld
          (try simp only [Act.put, List.setIfInBounds_toArray, List.set_cons_zero, List.set_cons_succ])
          have hHeld : (fun w' : World => True) w10 := trivial
          refine takeY 13 (h := ?_)
          (try simp only [Act.put, List.setIfInBounds_toArray, List.set_cons_zero, List.set_cons_succ])
          refine wpAnyH_done (by kernel_rfl) ?_ _
          have HR : Hid (CoefsAt w v5 (i + 1) w10) := ⟨_, HA.out.mono HLd.out.2, HOK.out.put k c sv q k3 k4 HQ.out HK.out.1 HK.out.2, by simp; omega, HBd.out⟩
          clear HA HLd HOK HK HBd hHeld
          go_wp2
          go_roundw
          case rel => exact ⟨i + 1, by omega, by go_num, HR.out⟩
          case measure => simp [intOf]; omega
         ·skip
          go_simp
          have hb : Below w6.heap.size w6 (w6.alloc (.cells #[.int .i64 c, .string sv] 46)) := (Below.refl _ _).alloc (Nat.le_refl _) _
          have HONE := Lib.hid (readsC_one w6 c sv)
          have HR1d_ := Lib.hid (HR1d.out.below hb)
          have HR2d_ := Lib.hid (HR2d.out.below hb)
          have HBd_ := Lib.hid (HBd.out.trans (hb.mono HBd.out.size))
          have HLd_ : Hid (L ≤ (w6.alloc (.cells #[.int .i64 c, .string sv] 46)).heap.size ∧ w.heap.size ≤ L) := ⟨Nat.le_trans HLd.out.1 hb.size, HLd.out.2⟩
          clear hb HBd HLd HR1d HR2d
          have HR1d := HR1d_
          clear HR1d_
          have HR2d := HR2d_
          clear HR2d_
          have HBd := HBd_
          clear HBd_
          have HLd := HLd_
          clear HLd_
          generalize w6.alloc (.cells #[.int .i64 c, .string sv] 46) = w7 at *
          generalize w6.heap.size = gone at *
          refine hK.out _ _ trivial (fun hHeld => ?_)
          clear hK KX hHeld
          (try simp only [Act.put, List.setIfInBounds_toArray, List.set_cons_zero, List.set_cons_succ])
          refine wpAnyH_ready (rs := [3]) (by kernel_rfl) (by simp) ?_
          refine AllReadyH.cons (by (simp only [List.getElem?_toArray, List.getElem?_cons_succ, List.getElem?_cons_zero]) <;> rfl) (fun KX hK => ?_) AllReadyH.nil
          obtain ⟨v3, w8, hrun, ho, hg⟩ := Tryz.appendC 25 (show OwnC L w7 (.slice none 0 0) [] from World.ownsRow_nil _ _ _ _) HR1d.out (by simp; try omega) HLd.out.1
          rw [if_pos (by rfl)]
          refine wp_append (.const (.slice none 0 0)) (.tmp 76) 25 rfl rfl rfl hrun ?_
          (try simp only [Act.put, List.setIfInBounds_toArray, List.set_cons_zero, List.set_cons_succ])
          clear HR1d
          have HR2d_ := Lib.hid (HR2d.out.grown hg (fun g hg => by simp [Value.ownBlock] at hg))
          have HONE_ := Lib.hid (HONE.out.grown hg (fun g hg => by simp [Value.ownBlock] at hg))
          have HBd_ := Lib.hid (HBd.out.grown hg HBd.out.size (fun g hg => by simp [Value.ownBlock] at hg))
          have HLd_ : Hid (L ≤ _ ∧ w.heap.size ≤ L) := ⟨Nat.le_trans HLd.out.1 hg.size, HLd.out.2⟩
          have HNEW := Lib.hid ho
          clear ho hrun HBd HLd HR2d HONE
          have HR2d := HR2d_
          clear HR2d_
          have HONE := HONE_
          clear HONE_
          have HBd := HBd_
          clear HBd_
          have HLd := HLd_
          clear HLd_
          clear hg
          have HA := HNEW
          clear HNEW
          refine hK.out _ _ trivial (fun hHeld => ?_)
          clear hK KX hHeld
          (try simp only [Act.put, List.setIfInBounds_toArray, List.set_cons_zero, List.set_cons_succ])
          refine wpAnyH_ready (rs := [8]) (by kernel_rfl) (by simp) ?_
          refine AllReadyH.cons (by (simp only [List.getElem?_toArray, List.getElem?_cons_succ, List.getElem?_cons_zero]) <;> rfl) (fun KX hK => ?_) AllReadyH.nil
          obtain ⟨v4, w9, hrun, ho, hg⟩ := Tryz.appendC 25 HA.out HONE.out (by simp; try omega) HLd.out.1
          rw [if_pos (by rfl)]
          refine wp_append (.tmp 77) (.tmp 81) 25 rfl rfl rfl hrun ?_
          (try simp only [Act.put, List.setIfInBounds_toArray, List.set_cons_zero, List.set_cons_succ])
          clear HONE
          have HR2d_ := Lib.hid (HR2d.out.grown hg (fun g hg => (World.ownsRow.lt HA.out g hg).1))
          have HBd_ := Lib.hid (HBd.out.grown hg HBd.out.size (fun g hg => Nat.le_trans HLd.out.2 ((World.ownsRow.lt HA.out g hg).1)))
          have HLd_ : Hid (L ≤ _ ∧ w.heap.size ≤ L) := ⟨Nat.le_trans HLd.out.1 hg.size, HLd.out.2⟩
          have HNEW := Lib.hid ho
          clear ho hrun HBd HLd HR2d HA
          have HR2d := HR2d_
          clear HR2d_
          have HBd := HBd_
          clear HBd_
          have HLd := HLd_
          clear HLd_
          clear hg
          have HA := HNEW
          clear HNEW
          refine hK.out _ _ trivial (fun hHeld => ?_)
          clear hK KX hHeld
          (try simp only [Act.put, List.setIfInBounds_toArray, List.set_cons_zero, List.set_cons_succ])
          refine wpAnyH_ready (rs := [12]) (by kernel_rfl) (by simp) ?_
          refine AllReadyH.cons (by (simp only [List.getElem?_toArray, List.getElem?_cons_succ, List.getElem?_cons_zero]) <;> rfl) (fun KX hK => ?_) AllReadyH.nil
          obtain ⟨v5, w10, hrun, ho, hg⟩ := Tryz.appendC 25 HA.out HR2d.out (by simp; try omega) HLd.out.1
          rw [if_pos (by rfl)]
          refine wp_append (.tmp 82) (.tmp 85) 25 rfl rfl rfl hrun ?_
          (try simp only [Act.put, List.setIfInBounds_toArray, List.set_cons_zero, List.set_cons_succ])
          clear HR2d
          have HBd_ := Lib.hid (HBd.out.grown hg HBd.out.size (fun g hg => Nat.le_trans HLd.out.2 ((World.ownsRow.lt HA.out g hg).1)))
          have HLd_ : Hid (L ≤ _ ∧ w.heap.size ≤ L) := ⟨Nat.le_trans HLd.out.1 hg.size, HLd.out.2⟩
          have HNEW := Lib.hid ho
          clear ho hrun HBd HLd  HA
          have HBd := HBd_
          clear HBd_
          have HLd := HLd_
          clear HLd_
          clear hg
          have HA := HNEW
          clear HNEW
          refine hK.out _ _ trivial (fun hHeld => ?_)
          clear hK KX hHeld
          (try simp only [Act.put, List.setIfInBounds_toArray, List.set_cons_zero, List.set_cons_succ])
          have hHeld : (fun w' : World => True) w10 := trivial
          refine takeY 13 (h := ?_)
          (try simp only [Act.put, List.setIfInBounds_toArray, List.set_cons_zero, List.set_cons_succ])
          refine wpAnyH_done (by kernel_rfl) ?_ _
          have HR : Hid (CoefsAt w v5 (i + 1) w10) := ⟨_, HA.out.mono HLd.out.2, HOK.out.put k c sv q k3 k4 HQ.out HK.out.1 HK.out.2, by simp; omega, HBd.out⟩
          clear HA HLd HOK HK HBd hHeld
          go_wp2
          go_roundw
          case rel => exact ⟨i + 1, by omega, by go_num, HR.out⟩
          case measure => simp [intOf]; omega
      ·have e1 : decide (k < cs.length) = false := by simpa using hlt
       have HK : Hid ((∀ e ∈ cs.take k, e.1 < c) ∧ (∀ e ∈ cs.drop k, c < e.1)) := ⟨hbelow, fun e he => by rw [List.drop_eq_nil_of_le (by omega)] at he; simp at he⟩
       clear hbelow
       go_wp2_with fail
       with_reducible refine (Tryz.rGetA s _ (by unfold maxLen at s1; omega)).mono ?_
       rintro e w3 ⟨hget, hb3⟩
       have HO3 := Lib.hid (HO.out.below hb3)
       have HB3 := Lib.hid (HB.out.trans (hb3.mono HB.out.size))
       obtain ⟨neg, p2, n2, c2, p3, n3, c3, bok, rfl, hbo, hg⟩ := hget.parts
       have HG := Lib.hid hg
       have HBO := Lib.hid hbo
       clear hget hbo hg hb3 HO HB
       go_upto_if 71 with (fail)
       have hb4 : Below w3.heap.size w3 (w3.alloc (.cells #[.bool neg, .slice p2 n2 c2, .slice p3 n3 c3] 35)) := (Below.refl _ _).alloc (Nat.le_refl _) _
       have HO4 := Lib.hid (HO3.out.below hb4)
       have HB4 := Lib.hid (HB3.out.trans (hb4.mono HB3.out.size))
       have HG4 := Lib.hid (fun q hq => (HG.out q hq).below hb4)
       clear HO3 HB3 HG hb4
       go_cut [9] (fun vv wx => ∃ (sv : ByteArray) (q : Rat), vv = .string sv ∧ getQ sv = some q ∧ Below (w3.heap.size + 1) (w3.alloc (.cells #[.bool neg, .slice p2 n2 c2, .slice p3 n3 c3] 35)) wx)
       case first =>
        rcases hq : getQ s with _ | q
        ·obtain rfl : bok = false := by rw [HBO.out, hq]; rfl
         clear HBO HG4 hq
         go_wp2_with fail
         go_meet
         exact ⟨_, 0, rfl, getQ_nought, Below.refl _ _⟩
        ·obtain rfl : bok = true := by rw [HBO.out, hq]; rfl
         have HQ := Lib.hid (HG4.out q hq)
         have HS := Lib.hid hq
         clear HBO HG4 hq
         go_wp2_with fail
         with_reducible refine (Tryz.rQTextA _ q 500 _ HQ.out (by omega) (by omega)).mono ?_
         rintro e w5 ⟨rfl, hb5⟩
         rw [text_own HS.out]
         have HB5 : Hid (Below (w3.heap.size + 1) (w3.alloc (.cells #[.bool neg, .slice p2 n2 c2, .slice p3 n3 c3] 35)) w5) := Lib.hid (by simpa using hb5)
         clear hb5
         go_wp2_with fail
         go_meet
         exact ⟨s, q, rfl, HS.out, HB5.out⟩
       case rest =>
        obtain ⟨sv, q, rfl, hq, hb5⟩ := hcut
        rename World => w5
        have hb5' : Below (w3.alloc (.cells #[.bool neg, .slice p2 n2 c2, .slice p3 n3 c3] 35)).heap.size (w3.alloc (.cells #[.bool neg, .slice p2 n2 c2, .slice p3 n3 c3] 35)) w5 := by simpa using hb5
        have HO := Lib.hid (HO4.out.below hb5')
        have HB := Lib.hid (HB4.out.trans (hb5'.mono HB4.out.size))
        have HQ := Lib.hid hq
        clear hb5 hb5' HO4 HB4 HG4 hq HBO
        have hk0 : (0 : Int) ≤ (k : Int) := by omega
        obtain ⟨v1, hv1⟩ : ∃ v, sliced p 0 k cap 2 = v := ⟨_, rfl⟩
        obtain ⟨v2, hv2⟩ : ∃ v, sliced p k cs.length cap 2 = v := ⟨_, rfl⟩
        have hs1 : ∀ W, (Instr.slice 25 (.slice p cs.length cap) none (some (.int .i64 k)) none).run Tryz.prog W = .ok v1 W := fun W => by
         rw [← hv1]; exact Tryz.cutTo p cs.length cap k hk n1 W
        have hs2 : ∀ W, (Instr.slice 25 (.slice p cs.length cap) (some (.int .i64 k)) none none).run Tryz.prog W = .ok v2 W := fun W => by
         rw [← hv2]; exact Tryz.cutFrom p cs.length cap k hk n1 (by omega) W
        have HR1 : Hid (ReadsC w5 w5.heap.size v1 (cs.take k)) := by
         have := HO.out.reads.cut 0 k (by omega) hk
         rw [hv1, List.drop_zero] at this
         exact this
        have HR2 : Hid (ReadsC w5 w5.heap.size v2 (cs.drop k)) := by
         have := HO.out.reads.cut k cs.length hk (Nat.le_refl _)
         rw [hv2, List.take_length] at this
         exact this
        clear hv1 hv2 HO
        obtain ⟨L, hL⟩ : ∃ L, w5.heap.size = L := ⟨_, rfl⟩
        rw [hL] at HR1 HR2
        have HL : Hid (L ≤ w5.heap.size ∧ w.heap.size ≤ L) := ⟨by omega, by have := HB.out.size; omega⟩
        clear hL
        go_wp2_with fail
        refine wp_region_held_drew (S := fun w' => True) (by kernel_rfl) trivial (fun hHeld => ?_)
        have HR1d := Lib.hid (HR1.out.below (Below.refl _ _).drew)
        have HR2d := Lib.hid (HR2.out.below (Below.refl _ _).drew)
        have HBd := Lib.hid HB.out.drew
        have HLd : Hid (L ≤ w5.drew.heap.size ∧ w.heap.size ≤ L) := HL.out
        clear hHeld HR1 HR2 HB HL
        generalize w5.drew = w6 at *
        have hHeld : (fun w' : World => True) w6 := trivial
        refine takeY 0 (h := ?_)
        refine takeY 1 (h := ?_)
        refine takeY 2 (h := ?_)
        (try simp only [Act.put, List.setIfInBounds_toArray, List.set_cons_zero, List.set_cons_succ])
        refine takeY 4 (h := ?_)
        refine takeY 5 (h := ?_)
        refine takeY 6 (h := ?_)
        (try simp only [Act.put, List.setIfInBounds_toArray, List.set_cons_zero, List.set_cons_succ])
        refine takeY 9 (h := ?_)
        refine takeY 10 (h := ?_)
        refine takeY 11 (h := ?_)
        (try simp only [Act.put, List.setIfInBounds_toArray, List.set_cons_zero, List.set_cons_succ])
        clear hs1 hs2 hHeld
        refine wpAnyH_ready (rs := [3, 7]) (by kernel_rfl) (by simp) ?_
        refine AllReadyH.cons (by (simp only [List.getElem?_toArray, List.getElem?_cons_succ, List.getElem?_cons_zero]) <;> rfl) (fun KX hK => ?_) (AllReadyH.cons (by (simp only [List.getElem?_toArray, List.getElem?_cons_succ, List.getElem?_cons_zero]) <;> rfl) (fun KX hK => ?_) AllReadyH.nil)
        ·skip
         obtain ⟨v3, w7, hrun, ho, hg⟩ := Tryz.appendC 25 (show OwnC L w6 (.slice none 0 0) [] from World.ownsRow_nil _ _ _ _) HR1d.out (by simp; try omega) HLd.out.1
         rw [if_pos (by rfl)]
         refine wp_append (.const (.slice none 0 0)) (.tmp 76) 25 rfl rfl rfl hrun ?_
         (try simp only [Act.put, List.setIfInBounds_toArray, List.set_cons_zero, List.set_cons_succ])
         clear HR1d
         have HR2d_ := Lib.hid (HR2d.out.grown hg (fun g hg => by simp [Value.ownBlock] at hg))
         have HBd_ := Lib.hid (HBd.out.grown hg HBd.out.size (fun g hg => by simp [Value.ownBlock] at hg))
         have HLd_ : Hid (L ≤ _ ∧ w.heap.size ≤ L) := ⟨Nat.le_trans HLd.out.1 hg.size, HLd.out.2⟩
         have HNEW := Lib.hid ho
         clear ho hrun HBd HLd HR2d
         have HR2d := HR2d_
         clear HR2d_
         have HBd := HBd_
         clear HBd_
         have HLd := HLd_
         clear HLd_
         clear hg
         have HA := HNEW
         clear HNEW
         refine hK.out _ _ trivial (fun hHeld => ?_)
         clear hK KX hHeld
         (try simp only [Act.put, List.setIfInBounds_toArray, List.set_cons_zero, List.set_cons_succ])
         refine wpAnyH_ready (rs := [7]) (by kernel_rfl) (by simp) ?_
         refine AllReadyH.cons (by (simp only [List.getElem?_toArray, List.getElem?_cons_succ, List.getElem?_cons_zero]) <;> rfl) (fun KX hK => ?_) AllReadyH.nil
         go_simp
         have hb : Below w7.heap.size w7 (w7.alloc (.cells #[.int .i64 c, .string sv] 46)) := (Below.refl _ _).alloc (Nat.le_refl _) _
         have HONE := Lib.hid (readsC_one w7 c sv)
         have HR2d_ := Lib.hid (HR2d.out.below hb)
         have HA_ := Lib.hid (HA.out.below hb)
         have HBd_ := Lib.hid (HBd.out.trans (hb.mono HBd.out.size))
         have HLd_ : Hid (L ≤ (w7.alloc (.cells #[.int .i64 c, .string sv] 46)).heap.size ∧ w.heap.size ≤ L) := ⟨Nat.le_trans HLd.out.1 hb.size, HLd.out.2⟩
         clear hb HBd HLd HR2d HA
         have HR2d := HR2d_
         clear HR2d_
         have HA := HA_
         clear HA_
         have HBd := HBd_
         clear HBd_
         have HLd := HLd_
         clear HLd_
         generalize w7.alloc (.cells #[.int .i64 c, .string sv] 46) = w8 at *
         generalize w7.heap.size = gone at *
         refine hK.out _ _ trivial (fun hHeld => ?_)
         clear hK KX hHeld
         (try simp only [Act.put, List.setIfInBounds_toArray, List.set_cons_zero, List.set_cons_succ])
         refine wpAnyH_ready (rs := [8]) (by kernel_rfl) (by simp) ?_
         refine AllReadyH.cons (by (simp only [List.getElem?_toArray, List.getElem?_cons_succ, List.getElem?_cons_zero]) <;> rfl) (fun KX hK => ?_) AllReadyH.nil
         obtain ⟨v4, w9, hrun, ho, hg⟩ := Tryz.appendC 25 HA.out HONE.out (by simp; try omega) HLd.out.1
         rw [if_pos (by rfl)]
         refine wp_append (.tmp 77) (.tmp 81) 25 rfl rfl rfl hrun ?_
         (try simp only [Act.put, List.setIfInBounds_toArray, List.set_cons_zero, List.set_cons_succ])
         clear HONE
         have HR2d_ := Lib.hid (HR2d.out.grown hg (fun g hg => (World.ownsRow.lt HA.out g hg).1))
         have HBd_ := Lib.hid (HBd.out.grown hg HBd.out.size (fun g hg => Nat.le_trans HLd.out.2 ((World.ownsRow.lt HA.out g hg).1)))
         have HLd_ : Hid (L ≤ _ ∧ w.heap.size ≤ L) := ⟨Nat.le_trans HLd.out.1 hg.size, HLd.out.2⟩
         have HNEW := Lib.hid ho
         clear ho hrun HBd HLd HR2d HA
         have HR2d := HR2d_
         clear HR2d_
         have HBd := HBd_
         clear HBd_
         have HLd := HLd_
         clear HLd_
         clear hg
         have HA := HNEW
         clear HNEW
         refine hK.out _ _ trivial (fun hHeld => ?_)
         clear hK KX hHeld
         (try simp only [Act.put, List.setIfInBounds_toArray, List.set_cons_zero, List.set_cons_succ])
         refine wpAnyH_ready (rs := [12]) (by kernel_rfl) (by simp) ?_
         refine AllReadyH.cons (by (simp only [List.getElem?_toArray, List.getElem?_cons_succ, List.getElem?_cons_zero]) <;> rfl) (fun KX hK => ?_) AllReadyH.nil
         obtain ⟨v5, w10, hrun, ho, hg⟩ := Tryz.appendC 25 HA.out HR2d.out (by simp; try omega) HLd.out.1
         rw [if_pos (by rfl)]
         refine wp_append (.tmp 82) (.tmp 85) 25 rfl rfl rfl hrun ?_
         (try simp only [Act.put, List.setIfInBounds_toArray, List.set_cons_zero, List.set_cons_succ])
         clear HR2d
         have HBd_ := Lib.hid (HBd.out.grown hg HBd.out.size (fun g hg => Nat.le_trans HLd.out.2 ((World.ownsRow.lt HA.out g hg).1)))
         have HLd_ : Hid (L ≤ _ ∧ w.heap.size ≤ L) := ⟨Nat.le_trans HLd.out.1 hg.size, HLd.out.2⟩
         have HNEW := Lib.hid ho
         clear ho hrun HBd HLd  HA
         have HBd := HBd_
         clear HBd_
         have HLd := HLd_
         clear HLd_
         clear hg
         have HA := HNEW
         clear HNEW
         refine hK.out _ _ trivial (fun hHeld => ?_)
         clear hK KX hHeld
         (try simp only [Act.put, List.setIfInBounds_toArray, List.set_cons_zero, List.set_cons_succ])
         have hHeld : (fun w' : World => True) w10 := trivial
         refine takeY 13 (h := ?_)
         (try simp only [Act.put, List.setIfInBounds_toArray, List.set_cons_zero, List.set_cons_succ])
         refine wpAnyH_done (by kernel_rfl) ?_ _
         have HR : Hid (CoefsAt w v5 (i + 1) w10) := ⟨_, HA.out.mono HLd.out.2, HOK.out.put k c sv q k3 k4 HQ.out HK.out.1 HK.out.2, by simp; omega, HBd.out⟩
         clear HA HLd HOK HK HBd hHeld
         go_wp2
         go_roundw
         case rel => exact ⟨i + 1, by omega, by go_num, HR.out⟩
         case measure => simp [intOf]; omega
        ·skip
         go_simp
         have hb : Below w6.heap.size w6 (w6.alloc (.cells #[.int .i64 c, .string sv] 46)) := (Below.refl _ _).alloc (Nat.le_refl _) _
         have HONE := Lib.hid (readsC_one w6 c sv)
         have HR1d_ := Lib.hid (HR1d.out.below hb)
         have HR2d_ := Lib.hid (HR2d.out.below hb)
         have HBd_ := Lib.hid (HBd.out.trans (hb.mono HBd.out.size))
         have HLd_ : Hid (L ≤ (w6.alloc (.cells #[.int .i64 c, .string sv] 46)).heap.size ∧ w.heap.size ≤ L) := ⟨Nat.le_trans HLd.out.1 hb.size, HLd.out.2⟩
         clear hb HBd HLd HR1d HR2d
         have HR1d := HR1d_
         clear HR1d_
         have HR2d := HR2d_
         clear HR2d_
         have HBd := HBd_
         clear HBd_
         have HLd := HLd_
         clear HLd_
         generalize w6.alloc (.cells #[.int .i64 c, .string sv] 46) = w7 at *
         generalize w6.heap.size = gone at *
         refine hK.out _ _ trivial (fun hHeld => ?_)
         clear hK KX hHeld
         (try simp only [Act.put, List.setIfInBounds_toArray, List.set_cons_zero, List.set_cons_succ])
         refine wpAnyH_ready (rs := [3]) (by kernel_rfl) (by simp) ?_
         refine AllReadyH.cons (by (simp only [List.getElem?_toArray, List.getElem?_cons_succ, List.getElem?_cons_zero]) <;> rfl) (fun KX hK => ?_) AllReadyH.nil
         obtain ⟨v3, w8, hrun, ho, hg⟩ := Tryz.appendC 25 (show OwnC L w7 (.slice none 0 0) [] from World.ownsRow_nil _ _ _ _) HR1d.out (by simp; try omega) HLd.out.1
         rw [if_pos (by rfl)]
         refine wp_append (.const (.slice none 0 0)) (.tmp 76) 25 rfl rfl rfl hrun ?_
         (try simp only [Act.put, List.setIfInBounds_toArray, List.set_cons_zero, List.set_cons_succ])
         clear HR1d
         have HR2d_ := Lib.hid (HR2d.out.grown hg (fun g hg => by simp [Value.ownBlock] at hg))
         have HONE_ := Lib.hid (HONE.out.grown hg (fun g hg => by simp [Value.ownBlock] at hg))
         have HBd_ := Lib.hid (HBd.out.grown hg HBd.out.size (fun g hg => by simp [Value.ownBlock] at hg))
         have HLd_ : Hid (L ≤ _ ∧ w.heap.size ≤ L) := ⟨Nat.le_trans HLd.out.1 hg.size, HLd.out.2⟩
         have HNEW := Lib.hid ho
         clear ho hrun HBd HLd HR2d HONE
         have HR2d := HR2d_
         clear HR2d_
         have HONE := HONE_
         clear HONE_
         have HBd := HBd_
         clear HBd_
         have HLd := HLd_
         clear HLd_
         clear hg
         have HA := HNEW
         clear HNEW
         refine hK.out _ _ trivial (fun hHeld => ?_)
         clear hK KX hHeld
         (try simp only [Act.put, List.setIfInBounds_toArray, List.set_cons_zero, List.set_cons_succ])
         refine wpAnyH_ready (rs := [8]) (by kernel_rfl) (by simp) ?_
         refine AllReadyH.cons (by (simp only [List.getElem?_toArray, List.getElem?_cons_succ, List.getElem?_cons_zero]) <;> rfl) (fun KX hK => ?_) AllReadyH.nil
         obtain ⟨v4, w9, hrun, ho, hg⟩ := Tryz.appendC 25 HA.out HONE.out (by simp; try omega) HLd.out.1
         rw [if_pos (by rfl)]
         refine wp_append (.tmp 77) (.tmp 81) 25 rfl rfl rfl hrun ?_
         (try simp only [Act.put, List.setIfInBounds_toArray, List.set_cons_zero, List.set_cons_succ])
         clear HONE
         have HR2d_ := Lib.hid (HR2d.out.grown hg (fun g hg => (World.ownsRow.lt HA.out g hg).1))
         have HBd_ := Lib.hid (HBd.out.grown hg HBd.out.size (fun g hg => Nat.le_trans HLd.out.2 ((World.ownsRow.lt HA.out g hg).1)))
         have HLd_ : Hid (L ≤ _ ∧ w.heap.size ≤ L) := ⟨Nat.le_trans HLd.out.1 hg.size, HLd.out.2⟩
         have HNEW := Lib.hid ho
         clear ho hrun HBd HLd HR2d HA
         have HR2d := HR2d_
         clear HR2d_
         have HBd := HBd_
         clear HBd_
         have HLd := HLd_
         clear HLd_
         clear hg
         have HA := HNEW
         clear HNEW
         refine hK.out _ _ trivial (fun hHeld => ?_)
         clear hK KX hHeld
         (try simp only [Act.put, List.setIfInBounds_toArray, List.set_cons_zero, List.set_cons_succ])
         refine wpAnyH_ready (rs := [12]) (by kernel_rfl) (by simp) ?_
         refine AllReadyH.cons (by (simp only [List.getElem?_toArray, List.getElem?_cons_succ, List.getElem?_cons_zero]) <;> rfl) (fun KX hK => ?_) AllReadyH.nil
         obtain ⟨v5, w10, hrun, ho, hg⟩ := Tryz.appendC 25 HA.out HR2d.out (by simp; try omega) HLd.out.1
         rw [if_pos (by rfl)]
         refine wp_append (.tmp 82) (.tmp 85) 25 rfl rfl rfl hrun ?_
         (try simp only [Act.put, List.setIfInBounds_toArray, List.set_cons_zero, List.set_cons_succ])
         clear HR2d
         have HBd_ := Lib.hid (HBd.out.grown hg HBd.out.size (fun g hg => Nat.le_trans HLd.out.2 ((World.ownsRow.lt HA.out g hg).1)))
         have HLd_ : Hid (L ≤ _ ∧ w.heap.size ≤ L) := ⟨Nat.le_trans HLd.out.1 hg.size, HLd.out.2⟩
         have HNEW := Lib.hid ho
         clear ho hrun HBd HLd  HA
         have HBd := HBd_
         clear HBd_
         have HLd := HLd_
         clear HLd_
         clear hg
         have HA := HNEW
         clear HNEW
         refine hK.out _ _ trivial (fun hHeld => ?_)
         clear hK KX hHeld
         (try simp only [Act.put, List.setIfInBounds_toArray, List.set_cons_zero, List.set_cons_succ])
         have hHeld : (fun w' : World => True) w10 := trivial
         refine takeY 13 (h := ?_)
         (try simp only [Act.put, List.setIfInBounds_toArray, List.set_cons_zero, List.set_cons_succ])
         refine wpAnyH_done (by kernel_rfl) ?_ _
         have HR : Hid (CoefsAt w v5 (i + 1) w10) := ⟨_, HA.out.mono HLd.out.2, HOK.out.put k c sv q k3 k4 HQ.out HK.out.1 HK.out.2, by simp; omega, HBd.out⟩
         clear HA HLd HOK HK HBd hHeld
         go_wp2
         go_roundw
         case rel => exact ⟨i + 1, by omega, by go_num, HR.out⟩
         case measure => simp [intOf]; omega
    ·have HR : Hid (CoefsSaid w wr (.returned u5) ∧ Below w.heap.size w wr) := ⟨⟨_, cs, rfl, HO.out, HOK.out, by omega⟩, HB.out⟩
     have hi3 : ¬ (i : Int) < 10 := by omega
     go_wp2
     go_ret
     exact HR.out
   ·have e1 : decide (i < ss.length) = false := by simpa using h2
    have HR : Hid (CoefsSaid w wr (.returned u5) ∧ Below w.heap.size w wr) := ⟨⟨_, cs, rfl, HO.out, HOK.out, by omega⟩, HB.out⟩
    clear HO HOK HB hcl
    go_wp2
    go_ret
    exact HR.out
  ·have e1 : decide (i < zs.length) = false := by simpa using h1
   have HR : Hid (CoefsSaid w wr (.returned u5) ∧ Below w.heap.size w wr) := ⟨⟨_, cs, rfl, HO.out, HOK.out, by omega⟩, HB.out⟩
   clear HO HOK HB hcl
   go_wp2
   go_ret
   exact HR.out
end Go.Proofs.Vt
