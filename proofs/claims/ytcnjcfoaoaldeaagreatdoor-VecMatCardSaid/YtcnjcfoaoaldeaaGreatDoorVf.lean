/- Coefficients as they lie in memory: rows that a call makes, what append and cuts do to them; which texts the reference reads, of any length. What coefs of the law file returns: some coefficients by rising columns, each a fraction's text. -/
import Derived.Test.YtcnjcfoaoaldeaaGreatDoorVo
import Derived.Test.YtcnjcfoaoaldeaaGreatDoorRh
import Derived.LoopTactic
set_option linter.unusedVariables false
namespace Go.Proofs.Vt
open Go.RowKit Go.Proofs.Wd Go.Proofs.Fr
abbrev C := List (Int × ByteArray)
def cellsC (cs : C) : List Value := cs.flatMap fun c => [.int .i64 c.1, .string c.2]
theorem cellsC_len (cs : C) : (cellsC cs).length = cs.length * 2 := by
 induction cs with
 | nil => rfl
 | cons p ps ih =>
   show ([_, _] ++ cellsC ps).length = _
   rw [List.length_append, ih, List.length_cons]
   simp; omega
theorem cellsC_app (a b : C) : cellsC (a ++ b) = cellsC a ++ cellsC b := List.flatMap_append
theorem cellsC_get (ps : C) (j : Nat) (p : Int × ByteArray) (h : ps[j]? = some p) : (cellsC ps)[j * 2]? = some (.int .i64 p.1) ∧ (cellsC ps)[j * 2 + 1]? = some (.string p.2) := by
 induction ps generalizing j with
 | nil => simp at h
 | cons q ps ih =>
   show ([_, _] ++ cellsC ps)[_]? = _ ∧ ([_, _] ++ cellsC ps)[_]? = _
   cases j with
   | zero =>
     obtain rfl : q = p := by simpa using h
     simp
   | succ j =>
     have := ih j (by simpa using h)
     rw [List.getElem?_append_right (by simp; omega), List.getElem?_append_right (by simp; omega)]
     simpa [show (j + 1) * 2 - 2 = j * 2 by omega, show (j + 1) * 2 + 1 - 2 = j * 2 + 1 by omega] using this
/-- A row of coefficients of the call's own. -/
def OwnC (B : Nat) (w : World) (v : Value) (cs : C) : Prop := w.ownsRow B 46 2 v cs.length (cellsC cs)
/-- A slice of coefficients in blocks below L. -/
def ReadsC (w : World) (L : Nat) (v : Value) (cs : C) : Prop :=
 ∃ p cap, v = .slice p cs.length cap ∧ cs.length ≤ cap ∧ cap ≤ maxLen ∧ (cs = [] ∨ ∃ g o, p = some ⟨g, o, none⟩ ∧ g < L ∧ g < w.heap.size ∧ ∀ j u, (cellsC cs)[j]? = some u → w.cell? ⟨g, o + j, none⟩ = some u)
theorem ReadsC.slice {w : World} {L : Nat} {v : Value} {cs : C} (h : ReadsC w L v cs) : ∃ p cap, v = .slice p cs.length cap ∧ cs.length ≤ cap ∧ cap ≤ maxLen := by
 obtain ⟨p, cap, h1, h2, h3, -⟩ := h
 exact ⟨p, cap, h1, h2, h3⟩
theorem ReadsC.nil (w : World) (L : Nat) : ReadsC w L (.slice none 0 0) [] := ⟨none, 0, rfl, Nat.le_refl _, Nat.zero_le _, .inl rfl⟩
/-- What one coefficient's cells hold. -/
theorem ReadsC.nth {w : World} {L j : Nat} {v : Value} {cs : C} {c : Int × ByteArray} (h : ReadsC w L v cs) (hj : cs[j]? = some c) :
 ∃ g o cap, v = .slice (some ⟨g, o, none⟩) cs.length cap ∧ cs.length ≤ cap ∧ cap ≤ maxLen ∧ w.cell? ⟨g, o + j * 2, none⟩ = some (.int .i64 c.1) ∧ w.cell? ⟨g, o + j * 2 + 1, none⟩ = some (.string c.2) ∧ g < w.heap.size := by
 obtain ⟨p, cap, h1, h2, h3, h4⟩ := h
 rcases h4 with rfl | ⟨g, o, rfl, g2, g3, g4⟩
 ·simp at hj
 ·have := cellsC_get _ _ _ hj
  exact ⟨g, o, cap, h1, h2, h3, g4 _ _ this.1, g4 _ _ this.2, g3⟩
theorem OwnC.reads {B : Nat} {w : World} {v : Value} {cs : C} (h : OwnC B w v cs) : ReadsC w w.heap.size v cs := by
 obtain ⟨h1, h2⟩ := h
 rcases h2 with ⟨rfl, h0⟩ | ⟨g, cap, cur, rfl, hg, hh, hn, hm, hs, ht⟩
 ·obtain rfl := List.length_eq_zero_iff.1 h0
  exact ReadsC.nil _ _
 ·have hlt := (Array.getElem?_eq_some_iff.1 hh).1
  refine ⟨_, cap, rfl, hn, hm, .inr ⟨g, 0, rfl, hlt, hlt, fun j u hu => ?_⟩⟩
  have hj : j < cs.length * 2 := by rw [← cellsC_len]; exact (List.getElem?_eq_some_iff.1 hu).1
  rw [← ht, List.getElem?_take_of_lt (by omega), Array.getElem?_toList] at hu
  rw [Nat.zero_add, CellsAt.cell hh j]
  exact hu
theorem OwnC.below {B : Nat} {w w' : World} {v : Value} {cs : C} (h : OwnC B w v cs) (hb : Below w.heap.size w w') : OwnC B w' v cs := ownsRow_below h hb
theorem Tryz.infoCoef : (Tryz.prog.info? 46).map (fun i => (i.zero, i.size, i.bytes)) = some (some (.agg #[.int .i64 0, .string ⟨#[]⟩]), 2, 24) := by kernel_rfl
/-- append onto a row of one's own. -/
theorem Tryz.appendC {B L : Nat} {w : World} {v x : Value} {cs ds : C} (ty : TypeId) (h : OwnC B w v cs) (hx : ReadsC w L x ds) (hl : cs.length + ds.length ≤ 1000000) (hB : B ≤ w.heap.size) :
 ∃ v' w', (Builtin.append_ #[25, 25] ty #[v, x]).run Tryz.prog w = .ok v' w' ∧ OwnC B w' v' (cs ++ ds) ∧ w.grownBy w' v.ownBlock := by
 obtain ⟨i0, hi, hz0, hz1, hz2⟩ := info_parts Tryz.infoCoef
 obtain ⟨p, cap, rfl, h1, h2, h3⟩ := hx
 rcases h3 with rfl | ⟨g, o, rfl, g2, g3, g4⟩
 ·exact ⟨v, w, append_empty Tryz.underlying25 hi h p cap, by rw [List.append_nil]; exact h, ⟨rfl, rfl, rfl, Nat.le_refl _, fun _ _ _ => rfl⟩⟩
 ·obtain ⟨v', w', hr, e1, e2, -⟩ := run_append_own (P := Tryz.prog) w B 25 ty 46 i0 _ 2 24 Tryz.underlying25 hi hz0 hz1 hz2 rfl (by decide) v cs.length (cellsC cs) h ⟨g, o, none⟩ ds.length cap (cellsC ds)
   (by rw [cellsC_len]) (fun j u hu => by rw [Lib.add_plain]; exact g4 j u hu) (by
    intro u hu
    obtain ⟨p, hp, hu⟩ := List.mem_flatMap.1 hu
    simp only [List.mem_cons, List.not_mem_nil, or_false] at hu
    rcases hu with rfl | rfl <;> rfl) (by unfold maxLen; omega) (by omega) hB
  exact ⟨v', w', hr, by unfold OwnC; rw [List.length_append, cellsC_app]; exact e1, e2⟩
/-- A slice of one coefficient, just built. -/
theorem readsC_one (w : World) (c : Int) (s : ByteArray) : ReadsC (w.alloc (.cells #[.int .i64 c, .string s] 46)) (w.heap.size + 1) (.slice (some ⟨w.heap.size, 0, none⟩) 1 1) [(c, s)] := by
 refine ⟨_, 1, rfl, by simp, by unfold maxLen; omega, .inr ⟨w.heap.size, 0, rfl, by omega, by simp, fun j u hu => ?_⟩⟩
 rw [Nat.zero_add, (CellsAt.new w _ _ rfl).cell j]
 match j, hu with
 | 0, hu => simpa [cellsC] using hu
 | 1, hu => simpa [cellsC] using hu
/-- What is longer than a fraction's text is none. -/
theorem bad_long {s : ByteArray} (h : 4002 < s.size) : Tx.plainB (upper s) = false ∨ (stroke (size s) < (size s).size ∧ Tx.plainB (lower s) = false) := by
 have hs : s.size ≤ (size s).size + 1 := by
  unfold size
  split
  ·rw [ByteArray.size_extract]; omega
  ·omega
 have hk := stroke_le (size s)
 by_cases h1 : Tx.plainB (upper s) = false
 ·exact .inl h1
 ·have h2 := (Tx.plainB_true.1 (by simpa using h1)).2
  unfold upper at h2
  rw [ByteArray.size_extract] at h2
  refine .inr ⟨by omega, ?_⟩
  refine Tx.plainB_false (fun g => ?_)
  have h3 := g.2
  unfold lower at h3
  rw [ByteArray.size_extract] at h3
  omega
theorem getQ_bad {s : ByteArray} (h : Tx.plainB (upper s) = false ∨ (stroke (size s) < (size s).size ∧ Tx.plainB (lower s) = false)) : getQ s = none := by
 rcases h with h | ⟨h1, h2⟩
 ·exact getQ_no (.inl h)
 ·exact getQ_no2 h1 (.inl h2)
theorem getQ_size {s : ByteArray} {q : Rat} (h : getQ s = some q) : s.size ≤ 4002 := by
 by_cases hs : s.size ≤ 4002
 ·exact hs
 ·rw [getQ_bad (bad_long (by omega))] at h; simp at h
theorem QIs.agg {w : World} {v : Value} {q : Rat} {n : Nat} (h : QIs w v q n) : ∃ neg p2 n2 c2 p3 n3 c3, v = .agg #[.bool neg, .slice p2 n2 c2, .slice p3 n3 c3] := by
 obtain ⟨neg, N, D, z, d, h1, h2, h3, h4⟩ := h
 obtain ⟨p2, n2, c2, rfl⟩ := h2.slice
 obtain ⟨p3, n3, c3, rfl⟩ := h3.slice
 exact ⟨neg, p2, n2, c2, p3, n3, c3, h1⟩
theorem RGetA.parts {s : ByteArray} {w : World} {e : Ending} (h : RGetA s w e) : ∃ neg p2 n2 c2 p3 n3 c3 bok, e = .returned (.tuple #[.agg #[.bool neg, .slice p2 n2 c2, .slice p3 n3 c3], .bool bok]) ∧ bok = (getQ s).isSome ∧ ∀ q, getQ s = some q → QIs w (.agg #[.bool neg, .slice p2 n2 c2, .slice p3 n3 c3]) q 500 := by
 rcases h with ⟨q, v, h1, rfl, h3⟩ | ⟨h1, a, n, c, rfl⟩
 ·obtain ⟨neg, p2, n2, c2, p3, n3, c3, rfl⟩ := QIs.agg h3
  exact ⟨neg, p2, n2, c2, p3, n3, c3, true, rfl, by rw [h1]; rfl, fun q' hq => by rw [h1] at hq; obtain rfl := Option.some.inj hq; exact h3⟩
 ·exact ⟨false, none, 0, 0, a, n, c, false, rfl, by rw [h1]; rfl, fun q' hq => by rw [h1] at hq; simp at hq⟩
/-- The text of a text's fraction is that text. -/
theorem text_own {s : ByteArray} {q : Rat} (h : getQ s = some q) : (⟨(textQ q).toArray⟩ : ByteArray) = s := by
 rw [getQ_text h]
theorem Tryz.rQTextA (v : Value) (q : Rat) (n : Nat) (w : World) (h : QIs w v q n) (hn1 : 1 ≤ n) (hn : n ≤ 40000) :
 Calls Tryz.prog 24 #[v] w fun e w' => e = .returned (.string ⟨(textQ q).toArray⟩) ∧ Below w.heap.size w w' := by
 obtain ⟨neg, N, D, z, d, rfl, h2, h3, h4, h5, h6⟩ := h
 exact Tryz.rQText neg N D z d n q w h2 h3 h4 h6 hn1 hn
end Go.Proofs.Vt
namespace Go.Proofs.Vt
open Go.RowKit Go.Proofs.Wd Go.Proofs.Fr
def StrsIn (w : World) (v : Value) (ss : List ByteArray) : Prop :=
 ∃ p cap, v = .slice p ss.length cap ∧ ss.length ≤ cap ∧ cap ≤ maxLen ∧ (∀ s ∈ ss, s.size ≤ maxLen) ∧ (ss = [] ∨ ∃ b o, p = some ⟨b, o, none⟩ ∧ b < w.heap.size ∧ ∀ j s, ss[j]? = some s → w.cell? ⟨b, o + j, none⟩ = some (.string s))
theorem StrsIn.nth {w : World} {v : Value} {ss : List ByteArray} {j : Nat} {s : ByteArray} (h : StrsIn w v ss) (hj : ss[j]? = some s) : ∃ b o cap, v = .slice (some ⟨b, o, none⟩) ss.length cap ∧ b < w.heap.size ∧ w.cell? ⟨b, o + j, none⟩ = some (.string s) ∧ s.size ≤ maxLen := by
 obtain ⟨p, cap, h1, h2, h3, h4, h5⟩ := h
 rcases h5 with rfl | ⟨b, o, rfl, hb, hc⟩
 ·simp at hj
 ·exact ⟨b, o, cap, h1, hb, hc j s hj, h4 s (List.mem_of_getElem? hj)⟩
theorem StrsIn.slice {w : World} {v : Value} {ss : List ByteArray} (h : StrsIn w v ss) : ∃ p cap, v = .slice p ss.length cap ∧ ss.length ≤ cap ∧ cap ≤ maxLen := by
 obtain ⟨p, cap, h1, h2, h3, -⟩ := h; exact ⟨p, cap, h1, h2, h3⟩
theorem StrsIn.below {w w' : World} {v : Value} {ss : List ByteArray} (h : StrsIn w v ss) (hb : Below w.heap.size w w') : StrsIn w' v ss := by
 obtain ⟨p, cap, h1, h2, h3, h4, h5⟩ := h
 refine ⟨p, cap, h1, h2, h3, h4, ?_⟩
 rcases h5 with h5 | ⟨b, o, g1, g2, g3⟩
 ·exact .inl h5
 ·exact .inr ⟨b, o, g1, Nat.lt_of_lt_of_le g2 hb.size, fun j z hj => by rw [hb.cell g2]; exact g3 j z hj⟩
/-- Coefficients as New takes them. -/
def CoefOk (m : Int) (cs : C) : Prop := cs.Pairwise (fun a b => a.1 < b.1) ∧ ∀ c ∈ cs, 0 ≤ c.1 ∧ c.1 < m ∧ ∃ q, getQ c.2 = some q
theorem getQ_nought : getQ ⟨#[48]⟩ = some 0 := by
 have hs : size ⟨#[48]⟩ = ⟨#[48]⟩ := by unfold size; rw [if_neg (by decide)]
 have hk : stroke ⟨#[48]⟩ = 1 := by unfold stroke; decide
 have hu : upper ⟨#[48]⟩ = ⟨#[48]⟩ := by unfold upper; rw [hs, hk]; rfl
 have hd : Lib.decDigits 0 = [48] := by simp [Lib.decDigits]
 have hp : Tx.plainB ⟨#[48]⟩ = true := Tx.plainB_true.2 ⟨by have := Tx.numeral_dec 0; rw [hd] at this; exact this, by decide⟩
 have hn : Tx.num ⟨#[48]⟩ = 0 := by unfold Tx.num; rfl
 have hm : minus ⟨#[48]⟩ = false := by unfold minus; decide
 have := getQ_whole (s := ⟨#[48]⟩) (by rw [hs, hk]; decide) (by rw [hu]; exact hp) (by rw [hm]; simp)
 rw [this, hu, hn, hm]
 rfl
end Go.Proofs.Vt
