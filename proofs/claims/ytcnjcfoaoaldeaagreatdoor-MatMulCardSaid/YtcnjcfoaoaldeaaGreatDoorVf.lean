/- Coefficients as they lie in memory: rows that a call makes, what append and cuts do to them; which texts the reference reads, of any length. What coefs of the law file returns: some coefficients by rising columns, each a fraction's text. -/
import Derived.Test.YtcnjcfoaoaldeaaGreatDoorVo
import Derived.Test.YtcnjcfoaoaldeaaGreatDoorRh
import Derived.LoopTactic
set_option linter.unusedVariables false
namespace Go.Proofs.Vt
open Go.RowKit Go.Proofs.Wd Go.Proofs.Fr
/-- What is longer than a fraction's text is none. -/
theorem bad_long {s : ByteArray} (h : 4002 < s.size) : Tx.plainB (upper s) = false ∨ (stroke (size s) < (size s).size ∧ Tx.plainB (lower s) = false) := by
 have hs : s.size ≤ (size s).size + 1 := by
  unfold size
  split
  ·rw [ByteArray.size_extract]; omega
  ·omega
 have hk := stroke_le (size s)
 by_cases h1 : Tx.plainB (upper s) = false
 ·exact .inl h1
 ·have h2 := (Tx.plainB_true.1 (by simpa using h1)).2
  unfold upper at h2
  rw [ByteArray.size_extract] at h2
  refine .inr ⟨by omega, ?_⟩
  refine Tx.plainB_false (fun g => ?_)
  have h3 := g.2
  unfold lower at h3
  rw [ByteArray.size_extract] at h3
  omega
theorem getQ_bad {s : ByteArray} (h : Tx.plainB (upper s) = false ∨ (stroke (size s) < (size s).size ∧ Tx.plainB (lower s) = false)) : getQ s = none := by
 rcases h with h | ⟨h1, h2⟩
 ·exact getQ_no (.inl h)
 ·exact getQ_no2 h1 (.inl h2)
theorem getQ_size {s : ByteArray} {q : Rat} (h : getQ s = some q) : s.size ≤ 4002 := by
 by_cases hs : s.size ≤ 4002
 ·exact hs
 ·rw [getQ_bad (bad_long (by omega))] at h; simp at h
theorem QIs.more {w : World} {v : Value} {q : Rat} {n m : Nat} (h : QIs w v q n) (hm : n ≤ m) : QIs w v q m := by
 obtain ⟨neg, N, D, z, d, h1, h2, h3, h4⟩ := h
 exact ⟨neg, N, D, z, d, h1, h2.mono hm, h3.mono hm, h4⟩
theorem QIs.agg {w : World} {v : Value} {q : Rat} {n : Nat} (h : QIs w v q n) : ∃ neg p2 n2 c2 p3 n3 c3, v = .agg #[.bool neg, .slice p2 n2 c2, .slice p3 n3 c3] := by
 obtain ⟨neg, N, D, z, d, h1, h2, h3, h4⟩ := h
 obtain ⟨p2, n2, c2, rfl⟩ := h2.slice
 obtain ⟨p3, n3, c3, rfl⟩ := h3.slice
 exact ⟨neg, p2, n2, c2, p3, n3, c3, h1⟩
theorem RGetA.parts {s : ByteArray} {w : World} {e : Ending} (h : RGetA s w e) : ∃ neg p2 n2 c2 p3 n3 c3 bok, e = .returned (.tuple #[.agg #[.bool neg, .slice p2 n2 c2, .slice p3 n3 c3], .bool bok]) ∧ bok = (getQ s).isSome ∧ ∀ q, getQ s = some q → QIs w (.agg #[.bool neg, .slice p2 n2 c2, .slice p3 n3 c3]) q 500 := by
 rcases h with ⟨q, v, h1, rfl, h3⟩ | ⟨h1, a, n, c, rfl⟩
 ·obtain ⟨neg, p2, n2, c2, p3, n3, c3, rfl⟩ := QIs.agg h3
  exact ⟨neg, p2, n2, c2, p3, n3, c3, true, rfl, by rw [h1]; rfl, fun q' hq => by rw [h1] at hq; obtain rfl := Option.some.inj hq; exact h3⟩
 ·exact ⟨false, none, 0, 0, a, n, c, false, rfl, by rw [h1]; rfl, fun q' hq => by rw [h1] at hq; simp at hq⟩
/-- The text of a text's fraction is that text. -/
theorem text_own {s : ByteArray} {q : Rat} (h : getQ s = some q) : (⟨(textQ q).toArray⟩ : ByteArray) = s := by
 rw [getQ_text h]
theorem Tryz.rQTextA (v : Value) (q : Rat) (n : Nat) (w : World) (h : QIs w v q n) (hn1 : 1 ≤ n) (hn : n ≤ 40000) :
 Calls Tryz.prog 24 #[v] w fun e w' => e = .returned (.string ⟨(textQ q).toArray⟩) ∧ Below w.heap.size w w' := by
 obtain ⟨neg, N, D, z, d, rfl, h2, h3, h4, h5, h6⟩ := h
 exact Tryz.rQText neg N D z d n q w h2 h3 h4 h6 hn1 hn
end Go.Proofs.Vt
namespace Go.Proofs.Vt
open Go.RowKit Go.Proofs.Wd Go.Proofs.Fr
def StrsIn (w : World) (v : Value) (ss : List ByteArray) : Prop :=
 ∃ p cap, v = .slice p ss.length cap ∧ ss.length ≤ cap ∧ cap ≤ maxLen ∧ (∀ s ∈ ss, s.size ≤ maxLen) ∧ (ss = [] ∨ ∃ b o, p = some ⟨b, o, none⟩ ∧ b < w.heap.size ∧ ∀ j s, ss[j]? = some s → w.cell? ⟨b, o + j, none⟩ = some (.string s))
theorem StrsIn.nth {w : World} {v : Value} {ss : List ByteArray} {j : Nat} {s : ByteArray} (h : StrsIn w v ss) (hj : ss[j]? = some s) : ∃ b o cap, v = .slice (some ⟨b, o, none⟩) ss.length cap ∧ b < w.heap.size ∧ w.cell? ⟨b, o + j, none⟩ = some (.string s) ∧ s.size ≤ maxLen := by
 obtain ⟨p, cap, h1, h2, h3, h4, h5⟩ := h
 rcases h5 with rfl | ⟨b, o, rfl, hb, hc⟩
 ·simp at hj
 ·exact ⟨b, o, cap, h1, hb, hc j s hj, h4 s (List.mem_of_getElem? hj)⟩
theorem StrsIn.slice {w : World} {v : Value} {ss : List ByteArray} (h : StrsIn w v ss) : ∃ p cap, v = .slice p ss.length cap ∧ ss.length ≤ cap ∧ cap ≤ maxLen := by
 obtain ⟨p, cap, h1, h2, h3, -⟩ := h; exact ⟨p, cap, h1, h2, h3⟩
theorem StrsIn.below {w w' : World} {v : Value} {ss : List ByteArray} (h : StrsIn w v ss) (hb : Below w.heap.size w w') : StrsIn w' v ss := by
 obtain ⟨p, cap, h1, h2, h3, h4, h5⟩ := h
 refine ⟨p, cap, h1, h2, h3, h4, ?_⟩
 rcases h5 with h5 | ⟨b, o, g1, g2, g3⟩
 ·exact .inl h5
 ·exact .inr ⟨b, o, g1, Nat.lt_of_lt_of_le g2 hb.size, fun j z hj => by rw [hb.cell g2]; exact g3 j z hj⟩
theorem getQ_nought : getQ ⟨#[48]⟩ = some 0 := by
 have hs : size ⟨#[48]⟩ = ⟨#[48]⟩ := by unfold size; rw [if_neg (by decide)]
 have hk : stroke ⟨#[48]⟩ = 1 := by unfold stroke; decide
 have hu : upper ⟨#[48]⟩ = ⟨#[48]⟩ := by unfold upper; rw [hs, hk]; rfl
 have hd : Lib.decDigits 0 = [48] := by simp [Lib.decDigits]
 have hp : Tx.plainB ⟨#[48]⟩ = true := Tx.plainB_true.2 ⟨by have := Tx.numeral_dec 0; rw [hd] at this; exact this, by decide⟩
 have hn : Tx.num ⟨#[48]⟩ = 0 := by unfold Tx.num; rfl
 have hm : minus ⟨#[48]⟩ = false := by unfold minus; decide
 have := getQ_whole (s := ⟨#[48]⟩) (by rw [hs, hk]; decide) (by rw [hu]; exact hp) (by rw [hm]; simp)
 rw [this, hu, hn, hm]
 rfl
end Go.Proofs.Vt
