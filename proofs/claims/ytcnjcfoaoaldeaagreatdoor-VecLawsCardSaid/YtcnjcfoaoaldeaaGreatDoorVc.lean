/- Coefficients as they lie in memory: rows that a call makes, what append and cuts do to them; which texts the reference reads, of any length. -/
import Derived.Test.YtcnjcfoaoaldeaaGreatDoorVo
import Derived.Test.YtcnjcfoaoaldeaaGreatDoorRh
namespace Go.Proofs.Vt
open Go.RowKit Go.Proofs.Wd Go.Proofs.Fr
set_option linter.unusedVariables false
abbrev C := List (Int × ByteArray)
def cellsC (cs : C) : List Value := cs.flatMap fun c => [.int .i64 c.1, .string c.2]
theorem cellsC_len (cs : C) : (cellsC cs).length = cs.length * 2 := by
  induction cs with
  | nil => rfl
  | cons p ps ih =>
    show ([_, _] ++ cellsC ps).length = _
    rw [List.length_append, ih, List.length_cons]
    simp; omega
theorem cellsC_app (a b : C) : cellsC (a ++ b) = cellsC a ++ cellsC b := List.flatMap_append
theorem cellsC_get (ps : C) (j : Nat) (p : Int × ByteArray) (h : ps[j]? = some p) : (cellsC ps)[j * 2]? = some (.int .i64 p.1) ∧ (cellsC ps)[j * 2 + 1]? = some (.string p.2) := by
  induction ps generalizing j with
  | nil => simp at h
  | cons q ps ih =>
    show ([_, _] ++ cellsC ps)[_]? = _ ∧ ([_, _] ++ cellsC ps)[_]? = _
    cases j with
    | zero =>
      obtain rfl : q = p := by simpa using h
      simp
    | succ j =>
      have := ih j (by simpa using h)
      rw [List.getElem?_append_right (by simp; omega), List.getElem?_append_right (by simp; omega)]
      simpa [show (j + 1) * 2 - 2 = j * 2 by omega, show (j + 1) * 2 + 1 - 2 = j * 2 + 1 by omega] using this
/-- Cells of a part. -/
theorem cellsC_cut (cs : C) (l h j : Nat) (u : Value) (hj : (cellsC ((cs.take h).drop l))[j]? = some u) : (cellsC cs)[l * 2 + j]? = some u := by
  have hl : j < ((cs.take h).drop l).length * 2 := by
    rw [← cellsC_len]
    exact (List.getElem?_eq_some_iff.1 hj).1
  obtain ⟨p, hp⟩ : ∃ p, ((cs.take h).drop l)[j / 2]? = some p := ⟨_, List.getElem?_eq_getElem (by omega)⟩
  have hp2 : cs[l + j / 2]? = some p := by
    rw [List.getElem?_drop, List.getElem?_take] at hp
    split at hp
    · exact hp
    · simp at hp
  have h1 := cellsC_get _ _ _ hp
  have h2 := cellsC_get _ _ _ hp2
  rcases Nat.mod_two_eq_zero_or_one j with e | e
  · rw [show j = j / 2 * 2 by omega, h1.1] at hj
    rw [show l * 2 + j = (l + j / 2) * 2 by omega, h2.1]; exact hj
  · rw [show j = j / 2 * 2 + 1 by omega, h1.2] at hj
    rw [show l * 2 + j = (l + j / 2) * 2 + 1 by omega, h2.2]; exact hj
/-- A row of coefficients of the call's own. -/
def OwnC (B : Nat) (w : World) (v : Value) (cs : C) : Prop := w.ownsRow B 46 2 v cs.length (cellsC cs)
/-- A slice of coefficients in blocks below L. -/
def ReadsC (w : World) (L : Nat) (v : Value) (cs : C) : Prop :=
  ∃ p cap, v = .slice p cs.length cap ∧ cs.length ≤ cap ∧ cap ≤ maxLen ∧ (cs = [] ∨ ∃ g o, p = some ⟨g, o, none⟩ ∧ g < L ∧ g < w.heap.size ∧ ∀ j u, (cellsC cs)[j]? = some u → w.cell? ⟨g, o + j, none⟩ = some u)
theorem ReadsC.slice {w : World} {L : Nat} {v : Value} {cs : C} (h : ReadsC w L v cs) : ∃ p cap, v = .slice p cs.length cap ∧ cs.length ≤ cap ∧ cap ≤ maxLen := by
  obtain ⟨p, cap, h1, h2, h3, -⟩ := h
  exact ⟨p, cap, h1, h2, h3⟩
theorem ReadsC.nil (w : World) (L : Nat) : ReadsC w L (.slice none 0 0) [] := ⟨none, 0, rfl, Nat.le_refl _, Nat.zero_le _, .inl rfl⟩
theorem ReadsC.below {w w' : World} {L : Nat} {v : Value} {cs : C} (h : ReadsC w L v cs) (hb : Below w.heap.size w w') : ReadsC w' L v cs := by
  obtain ⟨p, cap, h1, h2, h3, h4⟩ := h
  refine ⟨p, cap, h1, h2, h3, ?_⟩
  rcases h4 with h4 | ⟨g, o, g1, g2, g3, g4⟩
  · exact .inl h4
  · exact .inr ⟨g, o, g1, g2, Nat.lt_of_lt_of_le g3 hb.size, fun j u hu => by rw [hb.cell g3]; exact g4 j u hu⟩
theorem ReadsC.grown {w w' : World} {L : Nat} {v : Value} {cs : C} {row : Option Nat} (h : ReadsC w L v cs) (hg : w.grownBy w' row) (hr : ∀ g, row = some g → L ≤ g) : ReadsC w' L v cs := by
  obtain ⟨p, cap, h1, h2, h3, h4⟩ := h
  refine ⟨p, cap, h1, h2, h3, ?_⟩
  rcases h4 with h4 | ⟨g, o, g1, g2, g3, g4⟩
  · exact .inl h4
  · exact .inr ⟨g, o, g1, g2, Nat.lt_of_lt_of_le g3 hg.size, fun j u hu => hg.cell (g4 j u hu) (fun e => by have := hr g e.symm; omega)⟩
/-- What one coefficient's cells hold. -/
theorem ReadsC.nth {w : World} {L j : Nat} {v : Value} {cs : C} {c : Int × ByteArray} (h : ReadsC w L v cs) (hj : cs[j]? = some c) :
    ∃ g o cap, v = .slice (some ⟨g, o, none⟩) cs.length cap ∧ cs.length ≤ cap ∧ cap ≤ maxLen ∧ w.cell? ⟨g, o + j * 2, none⟩ = some (.int .i64 c.1) ∧ w.cell? ⟨g, o + j * 2 + 1, none⟩ = some (.string c.2) ∧ g < w.heap.size := by
  obtain ⟨p, cap, h1, h2, h3, h4⟩ := h
  rcases h4 with rfl | ⟨g, o, rfl, g2, g3, g4⟩
  · simp at hj
  · have := cellsC_get _ _ _ hj
    exact ⟨g, o, cap, h1, h2, h3, g4 _ _ this.1, g4 _ _ this.2, g3⟩
theorem ReadsC.cut {w : World} {L : Nat} {p : Option Addr} {n cap : Nat} {cs : C} (h : ReadsC w L (.slice p n cap) cs) (l k : Nat) (hl : l ≤ k) (hk : k ≤ n) : ReadsC w L (sliced p l k cap 2) ((cs.take k).drop l) := by
  obtain ⟨p', cap', h1, h2, h3, h4⟩ := h
  simp only [Value.slice.injEq] at h1
  obtain ⟨rfl, rfl, rfl⟩ := h1
  have hlen : ((cs.take k).drop l).length = k - l := by rw [List.length_drop, List.length_take]; omega
  refine ⟨_, cap - l, by unfold sliced; rw [hlen], by omega, by omega, ?_⟩
  rcases h4 with rfl | ⟨g, o, rfl, g2, g3, g4⟩
  · left; simp
  · by_cases hc : cap = l
    · left
      apply List.eq_nil_of_length_eq_zero
      omega
    · refine .inr ⟨g, o + l * 2, by rw [if_neg hc, Option.map_some, Lib.add_plain], g2, g3, fun j u hu => ?_⟩
      rw [show o + l * 2 + j = o + (l * 2 + j) by omega]
      exact g4 _ _ (cellsC_cut cs l k j u hu)
theorem OwnC.reads {B : Nat} {w : World} {v : Value} {cs : C} (h : OwnC B w v cs) : ReadsC w w.heap.size v cs := by
  obtain ⟨h1, h2⟩ := h
  rcases h2 with ⟨rfl, h0⟩ | ⟨g, cap, cur, rfl, hg, hh, hn, hm, hs, ht⟩
  · obtain rfl := List.length_eq_zero_iff.1 h0
    exact ReadsC.nil _ _
  · have hlt := (Array.getElem?_eq_some_iff.1 hh).1
    refine ⟨_, cap, rfl, hn, hm, .inr ⟨g, 0, rfl, hlt, hlt, fun j u hu => ?_⟩⟩
    have hj : j < cs.length * 2 := by rw [← cellsC_len]; exact (List.getElem?_eq_some_iff.1 hu).1
    rw [← ht, List.getElem?_take_of_lt (by omega), Array.getElem?_toList] at hu
    rw [Nat.zero_add, CellsAt.cell hh j]
    exact hu
theorem OwnC.below {B : Nat} {w w' : World} {v : Value} {cs : C} (h : OwnC B w v cs) (hb : Below w.heap.size w w') : OwnC B w' v cs := ownsRow_below h hb
theorem OwnC.mono {B A : Nat} {w : World} {v : Value} {cs : C} (h : OwnC B w v cs) (hA : A ≤ B) : OwnC A w v cs := by
  obtain ⟨h1, h2⟩ := h
  refine ⟨h1, ?_⟩
  rcases h2 with h2 | ⟨g, cap, cur, e, hg, r⟩
  · exact .inl h2
  · exact .inr ⟨g, cap, cur, e, by omega, r⟩
theorem Tryz.infoCoef : (Tryz.prog.info? 46).map (fun i => (i.zero, i.size, i.bytes)) = some (some (.agg #[.int .i64 0, .string ⟨#[]⟩]), 2, 24) := by kernel_rfl
/-- append onto a row of one's own. -/
theorem Tryz.appendC {B L : Nat} {w : World} {v x : Value} {cs ds : C} (ty : TypeId) (h : OwnC B w v cs) (hx : ReadsC w L x ds) (hl : cs.length + ds.length ≤ 1000000) (hB : B ≤ w.heap.size) :
    ∃ v' w', (Builtin.append_ #[25, 25] ty #[v, x]).run Tryz.prog w = .ok v' w' ∧ OwnC B w' v' (cs ++ ds) ∧ w.grownBy w' v.ownBlock := by
  obtain ⟨i0, hi, hz0, hz1, hz2⟩ := info_parts Tryz.infoCoef
  obtain ⟨p, cap, rfl, h1, h2, h3⟩ := hx
  rcases h3 with rfl | ⟨g, o, rfl, g2, g3, g4⟩
  · exact ⟨v, w, append_empty Tryz.underlying25 hi h p cap, by rw [List.append_nil]; exact h, ⟨rfl, rfl, rfl, Nat.le_refl _, fun _ _ _ => rfl⟩⟩
  · obtain ⟨v', w', hr, e1, e2, -⟩ := run_append_own (P := Tryz.prog) w B 25 ty 46 i0 _ 2 24 Tryz.underlying25 hi hz0 hz1 hz2 rfl (by decide) v cs.length (cellsC cs) h ⟨g, o, none⟩ ds.length cap (cellsC ds)
      (by rw [cellsC_len]) (fun j u hu => by rw [Lib.add_plain]; exact g4 j u hu) (by
        intro u hu
        obtain ⟨p, hp, hu⟩ := List.mem_flatMap.1 hu
        simp only [List.mem_cons, List.not_mem_nil, or_false] at hu
        rcases hu with rfl | rfl <;> rfl) (by unfold maxLen; omega) (by omega) hB
    exact ⟨v', w', hr, by unfold OwnC; rw [List.length_append, cellsC_app]; exact e1, e2⟩
/-- A slice of one coefficient, just built. -/
theorem readsC_one (w : World) (c : Int) (s : ByteArray) : ReadsC (w.alloc (.cells #[.int .i64 c, .string s] 46)) (w.heap.size + 1) (.slice (some ⟨w.heap.size, 0, none⟩) 1 1) [(c, s)] := by
  refine ⟨_, 1, rfl, by simp, by unfold maxLen; omega, .inr ⟨w.heap.size, 0, rfl, by omega, by simp, fun j u hu => ?_⟩⟩
  rw [Nat.zero_add, (CellsAt.new w _ _ rfl).cell j]
  match j, hu with
  | 0, hu => simpa [cellsC] using hu
  | 1, hu => simpa [cellsC] using hu
/-- What is longer than a fraction's text is none. -/
theorem bad_long {s : ByteArray} (h : 4002 < s.size) : Tx.plainB (upper s) = false ∨ (stroke (size s) < (size s).size ∧ Tx.plainB (lower s) = false) := by
  have hs : s.size ≤ (size s).size + 1 := by
    unfold size
    split
    · rw [ByteArray.size_extract]; omega
    · omega
  have hk := stroke_le (size s)
  by_cases h1 : Tx.plainB (upper s) = false
  · exact .inl h1
  · have h2 := (Tx.plainB_true.1 (by simpa using h1)).2
    unfold upper at h2
    rw [ByteArray.size_extract] at h2
    refine .inr ⟨by omega, ?_⟩
    refine Tx.plainB_false (fun g => ?_)
    have h3 := g.2
    unfold lower at h3
    rw [ByteArray.size_extract] at h3
    omega
theorem getQ_bad {s : ByteArray} (h : Tx.plainB (upper s) = false ∨ (stroke (size s) < (size s).size ∧ Tx.plainB (lower s) = false)) : getQ s = none := by
  rcases h with h | ⟨h1, h2⟩
  · exact getQ_no (.inl h)
  · exact getQ_no2 h1 (.inl h2)
theorem getQ_size {s : ByteArray} {q : Rat} (h : getQ s = some q) : s.size ≤ 4002 := by
  by_cases hs : s.size ≤ 4002
  · exact hs
  · rw [getQ_bad (bad_long (by omega))] at h; simp at h
theorem QIs.agg {w : World} {v : Value} {q : Rat} {n : Nat} (h : QIs w v q n) : ∃ neg p2 n2 c2 p3 n3 c3, v = .agg #[.bool neg, .slice p2 n2 c2, .slice p3 n3 c3] := by
  obtain ⟨neg, N, D, z, d, h1, h2, h3, h4⟩ := h
  obtain ⟨p2, n2, c2, rfl⟩ := h2.slice
  obtain ⟨p3, n3, c3, rfl⟩ := h3.slice
  exact ⟨neg, p2, n2, c2, p3, n3, c3, h1⟩
theorem RGetA.parts {s : ByteArray} {w : World} {e : Ending} (h : RGetA s w e) : ∃ neg p2 n2 c2 p3 n3 c3 bok, e = .returned (.tuple #[.agg #[.bool neg, .slice p2 n2 c2, .slice p3 n3 c3], .bool bok]) ∧ bok = (getQ s).isSome ∧ ∀ q, getQ s = some q → QIs w (.agg #[.bool neg, .slice p2 n2 c2, .slice p3 n3 c3]) q 500 := by
  rcases h with ⟨q, v, h1, rfl, h3⟩ | ⟨h1, a, n, c, rfl⟩
  · obtain ⟨neg, p2, n2, c2, p3, n3, c3, rfl⟩ := QIs.agg h3
    exact ⟨neg, p2, n2, c2, p3, n3, c3, true, rfl, by rw [h1]; rfl, fun q' hq => by rw [h1] at hq; obtain rfl := Option.some.inj hq; exact h3⟩
  · exact ⟨false, none, 0, 0, a, n, c, false, rfl, by rw [h1]; rfl, fun q' hq => by rw [h1] at hq; simp at hq⟩
/-- The text of a text's fraction is that text. -/
theorem text_own {s : ByteArray} {q : Rat} (h : getQ s = some q) : (⟨(textQ q).toArray⟩ : ByteArray) = s := by
  rw [getQ_text h]
theorem Tryz.rQTextA (v : Value) (q : Rat) (n : Nat) (w : World) (h : QIs w v q n) (hn1 : 1 ≤ n) (hn : n ≤ 40000) :
    Calls Tryz.prog 24 #[v] w fun e w' => e = .returned (.string ⟨(textQ q).toArray⟩) ∧ Below w.heap.size w w' := by
  obtain ⟨neg, N, D, z, d, rfl, h2, h3, h4, h5, h6⟩ := h
  exact Tryz.rQText neg N D z d n q w h2 h3 h4 h6 hn1 hn
end Go.Proofs.Vt
