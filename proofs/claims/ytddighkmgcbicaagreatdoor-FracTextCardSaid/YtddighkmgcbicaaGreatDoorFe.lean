/- FracText: any text is a fraction, its own, or none; of whole numbers: the call returns true. -/
import Derived.Test.YtddighkmgcbicaaGreatDoorFg
import Derived.Test.YtddighkmgcbicaaGreatDoorRyz
import Derived.Test.YtddighkmgcbicaaGreatDoorTw
namespace Go.Proofs.Fr
open Go.RowKit Go.Proofs.Wd
set_option linter.unusedVariables false
set_option maxHeartbeats 4000000 in
theorem Tryz.cutText (s : ByteArray) (n : Nat) (w : World) (hmax : s.size ≤ 9223372036854775807) (hn : n ≤ 1000000) :
    Calls Tryz.prog 16 #[.string s, .int .i64 n] w fun e w' => (∃ t : ByteArray, e = .returned (.string t) ∧ t.size ≤ n) ∧ w' = w := by
  obtain ⟨m, hm⟩ : ∃ m : Nat, (min (s.size : Int) (n : Int)) = m := ⟨min s.size n, by omega⟩
  have hmb : m ≤ s.size ∧ m ≤ n := by omega
  obtain ⟨hm1, hm2⟩ := hmb
  have HC : Hid ((s.extract 0 m).size ≤ n) := Nat.le_trans (size_cut s 0 m) (by omega)
  go_enter Tryz.func16, Tryz.ntmps16
  go_wp2
  go_ret
  exact ⟨⟨_, rfl, HC.out⟩, rfl⟩
theorem own_text {t : ByteArray} {q : Rat} (h : getQ t = some q) : (⟨(textQ q).toArray⟩ : ByteArray) = t := by
  apply ByteArray.ext
  apply Array.ext'
  rw [getQ_text h]
set_option maxHeartbeats 8000000 in
set_option maxRecDepth 100000 in
theorem fracTextWalk (s : ByteArray) (x : Int) (w : World) (hmax : s.size ≤ 9223372036854775807) (x0 : -9223372036854775808 ≤ x) (x1 : x ≤ 9223372036854775807) (hT : TabOk w)
    (hB : Calls Tryz.prog 15 #[] w fun e w' => e = .returned (.bool true) ∧ Below w.heap.size w w') :
    Calls Tryz.prog 3 #[.string s, .int .i64 x] w fun e w' => e = .returned (.bool true) ∧ Below w.heap.size w w' := by
  have HT : Hid (TabOk w) := hT
  clear hT
  obtain ⟨tx, htx⟩ : ∃ t : ByteArray, (⟨(textQ (x : Rat)).toArray⟩ : ByteArray) = t := ⟨_, rfl⟩
  have HOT : Hid (∀ W v, FracIs W v (x : Rat) 1 → TabOk W → Calls Tryz.prog 19 #[v] W fun e w' => e = .returned (.string tx) ∧ Below W.heap.size W w') := fun W v h1 h2 => by
    rw [← htx]; exact Tryz.fracText v _ 1 W h1 (by omega) (by omega) h2
  have HRT : Hid (∀ W v, QIs W v (x : Rat) 5 → Calls Tryz.prog 20 #[v] W fun e w' => e = .returned (.string tx) ∧ Below W.heap.size W w') := fun W v h1 => by
    obtain ⟨neg, N, D, z, d, rfl, hN, hD, hd, hn, hq⟩ := h1
    rw [← htx]; exact Go.Proofs.Tryz.rQText neg N D z d 5 _ W hN hD hd hq (by omega) (by omega)
  clear htx
  have HCT : Hid (∀ W, Calls Tryz.prog 16 #[.string s, .int .i64 60] W fun e w' => (∃ t : ByteArray, e = .returned (.string t) ∧ t.size ≤ 60) ∧ w' = W) := fun W => Tryz.cutText s 60 W hmax (by omega)
  go_enter Tryz.func3, Tryz.ntmps3
  go_wp2_with (go_at_call 15; (with_reducible refine hB.mono ?_); rintro e w1 ⟨rfl, hb1⟩)
  have HB1 : Hid (Below w.heap.size w w1) := hb1
  clear hb1 hB
  with_reducible refine (HCT.out _).mono ?_
  rintro e w2 ⟨⟨t, rfl, ht⟩, rfl⟩
  go_wp2_with fail
  with_reducible refine (Tryz.fracGet t _ (by omega)).mono ?_
  rintro e w3 ⟨hg, hb3⟩
  have HB3 : Hid (Below w.heap.size w w3) := Below.after HB1.out hb3
  clear hb3 HB1
  rcases hg with ⟨q, v, hq, rfl, hv⟩ | ⟨hq, rfl⟩
  · have HV3 : Hid (FracIs w3 v q 120) := hv
    have HQ : Hid (getQ t = some q) := hq
    have HTV : Hid (∀ W, FracIs W v q 120 → TabOk W → Calls Tryz.prog 19 #[v] W fun e w' => e = .returned (.string t) ∧ Below W.heap.size W w') := fun W h1 h2 => by
      have h := Tryz.fracText v q 120 W h1 (by omega) (by omega) h2
      rw [own_text hq] at h
      exact h
    clear hq hv
    go_wp2_with fail
    with_reducible refine (Go.Proofs.Tryz.rGet t _ (by omega)).mono ?_
    rintro e w4 ⟨hg4, hb4⟩
    have HB4 : Hid (Below w.heap.size w w4) := Below.after HB3.out hb4
    have HV4 : Hid (FracIs w4 v q 120) := HV3.out.below hb4
    obtain ⟨q2, y, hq2, rfl, hy⟩ := hg4.resolve_right (fun h => by rw [HQ.out] at h; exact absurd h.1 (by simp))
    obtain rfl : q2 = q := Option.some.inj (hq2.symm.trans HQ.out)
    obtain ⟨neg, N, D, z, d, rfl, hN, hD, hd, hn, hqq⟩ := hy
    obtain ⟨p, k, c, rfl⟩ := hN.slice
    obtain ⟨p', k', c', rfl⟩ := hD.slice
    have HTR : Hid (∀ W, NumIs W (.slice p k c) z (t.size + 1) → NumIs W (.slice p' k' c') d (t.size + 1) → Calls Tryz.prog 20 #[.agg #[.bool neg, .slice p k c, .slice p' k' c']] W fun e w' => e = .returned (.string t) ∧ Below W.heap.size W w') := fun W h1 h2 => by
      have h := Go.Proofs.Tryz.rQText neg _ _ z d (t.size + 1) _ W h1 h2 hd hqq (by omega) (by omega)
      rw [own_text HQ.out] at h
      exact h
    obtain ⟨w5, hw5⟩ : ∃ W, w4.alloc (.cells #[.bool neg, .slice p k c, .slice p' k' c'] 30) = W := ⟨_, rfl⟩
    have hch : (((w4.alloc (.cells #[.bool false, .slice none 0 0, .slice none 0 0] 30)).setCell ⟨w4.heap.size, 0, none⟩ (.bool neg)).setCell ⟨w4.heap.size, 1, none⟩ (.slice p k c)).setCell ⟨w4.heap.size, 2, none⟩ (.slice p' k' c') = w5 := by rw [set3, hw5]
    have HA5 := Lib.hid (CellsAt.new w4 #[.bool neg, .slice p k c, .slice p' k' c'] 30 rfl)
    have hb5 := (Below.refl w4.heap.size w4).alloc (Nat.le_refl _) (.cells #[.bool neg, .slice p k c, .slice p' k' c'] 30)
    rw [hw5] at HA5 hb5
    have HB5 : Hid (Below w.heap.size w w5) := Below.after HB4.out hb5
    have HV5 : Hid (FracIs w5 v q2 120) := HV4.out.below hb5
    have HN5 : Hid (NumIs w5 (.slice p k c) z (t.size + 1)) := hN.below hb5 (Nat.le_refl _)
    have HD5 : Hid (NumIs w5 (.slice p' k' c') d (t.size + 1)) := hD.below hb5 (Nat.le_refl _)
    clear hg4 hq2 hN hD hd hn hqq hb4 hb5 HB3 HB4 HV3 HV4 HQ
    go_wp2_with fail
    clear hch hw5
    with_reducible refine (HTV.out w5 HV5.out (HT.out.after HB5.out)).mono ?_
    rintro e w6 ⟨rfl, hb6⟩
    have HB6 : Hid (Below w.heap.size w w6) := Below.after HB5.out hb6
    have HA6 := Lib.hid (HA5.out.below hb6)
    have HN6 : Hid (NumIs w6 (.slice p k c) z (t.size + 1)) := HN5.out.below hb6 (Nat.le_refl _)
    have HD6 : Hid (NumIs w6 (.slice p' k' c') d (t.size + 1)) := HD5.out.below hb6 (Nat.le_refl _)
    clear hb6 HA5 HN5 HD5 HV5 HB5 HTV
    have a0 : w6.cell? ⟨w4.heap.size, 0, none⟩ = some (.bool neg) := HA6.out.cell 0
    have a1 : w6.cell? ⟨w4.heap.size, 1, none⟩ = some (.slice p k c) := HA6.out.cell 1
    have a2 : w6.cell? ⟨w4.heap.size, 2, none⟩ = some (.slice p' k' c') := HA6.out.cell 2
    go_wp2_with fail
    with_reducible refine (HTR.out w6 HN6.out HD6.out).mono ?_
    rintro e w7 ⟨rfl, hb7⟩
    have HB7 : Hid (Below w.heap.size w w7) := Below.after HB6.out hb7
    clear hb7 HA6 HN6 HD6 HB6 HTR a0 a1 a2
    go_wp2_with fail
    with_reducible refine (Tryz.Of x _ x0 x1).mono ?_
    rintro e w8 ⟨⟨b, rfl, hb⟩, hb8⟩
    have HB8 : Hid (Below w.heap.size w w8) := Below.after HB7.out hb8
    have HV8 : Hid (FracIs w8 b (x : Rat) 1) := hb
    clear hb hb8 HB7
    go_wp2_with fail
    with_reducible refine (HOT.out w8 b HV8.out (HT.out.after HB8.out)).mono ?_
    rintro e w9 ⟨rfl, hb9⟩
    have HB9 : Hid (Below w.heap.size w w9) := Below.after HB8.out hb9
    clear hb9 HB8 HV8 HOT
    go_wp2_with fail
    with_reducible refine (Go.Proofs.Tryz.rOf x _ x0 x1).mono ?_
    rintro e w10 ⟨⟨y, rfl, hy⟩, hb10⟩
    have HB10 : Hid (Below w.heap.size w w10) := Below.after HB9.out hb10
    have HY10 : Hid (QIs w10 y (x : Rat) 5) := hy
    clear hy hb10 HB9
    go_wp2_with fail
    with_reducible refine (HRT.out w10 y HY10.out).mono ?_
    rintro e w11 ⟨rfl, hb11⟩
    have HB11 : Hid (Below w.heap.size w w11) := Below.after HB10.out hb11
    clear hb11 HB10 HY10 HRT
    go_wp2
    go_ret
    exact ⟨rfl, HB11.out⟩
  · have HQ : Hid (getQ t = none) := hq
    clear hq
    go_wp2_with fail
    with_reducible refine (Go.Proofs.Tryz.rGet t _ (by omega)).mono ?_
    rintro e w4 ⟨hg4, hb4⟩
    have HB4 : Hid (Below w.heap.size w w4) := Below.after HB3.out hb4
    obtain ⟨-, pa, na, ca, rfl⟩ := hg4.resolve_left (fun ⟨q, v, h, _⟩ => by rw [HQ.out] at h; exact absurd h (by simp))
    obtain ⟨w5, hw5⟩ : ∃ W, w4.alloc (.cells #[.bool false, .slice none 0 0, .slice pa na ca] 30) = W := ⟨_, rfl⟩
    have hch : (((w4.alloc (.cells #[.bool false, .slice none 0 0, .slice none 0 0] 30)).setCell ⟨w4.heap.size, 0, none⟩ (.bool false)).setCell ⟨w4.heap.size, 1, none⟩ (.slice none 0 0)).setCell ⟨w4.heap.size, 2, none⟩ (.slice pa na ca) = w5 := by rw [set3, hw5]
    have hb5 := (Below.refl w4.heap.size w4).alloc (Nat.le_refl _) (.cells #[.bool false, .slice none 0 0, .slice pa na ca] 30)
    rw [hw5] at hb5
    have HB7 : Hid (Below w.heap.size w w5) := Below.after HB4.out hb5
    clear hg4 hb4 hb5 HB3 HB4 HQ
    go_wp2_with fail
    clear hch hw5
    with_reducible refine (Tryz.Of x _ x0 x1).mono ?_
    rintro e w8 ⟨⟨b, rfl, hb⟩, hb8⟩
    have HB8 : Hid (Below w.heap.size w w8) := Below.after HB7.out hb8
    have HV8 : Hid (FracIs w8 b (x : Rat) 1) := hb
    clear hb hb8 HB7
    go_wp2_with fail
    with_reducible refine (HOT.out w8 b HV8.out (HT.out.after HB8.out)).mono ?_
    rintro e w9 ⟨rfl, hb9⟩
    have HB9 : Hid (Below w.heap.size w w9) := Below.after HB8.out hb9
    clear hb9 HB8 HV8 HOT
    go_wp2_with fail
    with_reducible refine (Go.Proofs.Tryz.rOf x _ x0 x1).mono ?_
    rintro e w10 ⟨⟨y, rfl, hy⟩, hb10⟩
    have HB10 : Hid (Below w.heap.size w w10) := Below.after HB9.out hb10
    have HY10 : Hid (QIs w10 y (x : Rat) 5) := hy
    clear hy hb10 HB9
    go_wp2_with fail
    with_reducible refine (HRT.out w10 y HY10.out).mono ?_
    rintro e w11 ⟨rfl, hb11⟩
    have HB11 : Hid (Below w.heap.size w w11) := Below.after HB10.out hb11
    clear hb11 HB10 HY10 HRT
    go_wp2
    go_ret
    exact ⟨rfl, HB11.out⟩
end Go.Proofs.Fr
