/- NatText: any text is a number, its own, or none; words, and back: the call returns true. -/
import Derived.Test.YtghblhknjangbaaGreatDoorTw
import Derived.Test.YtghblhknjangbaaGreatDoorWe2
import Derived.Test.YtghblhknjangbaaGreatDoorSm
import Derived.Test.YtghblhknjangbaaGreatDoorRtw
import Derived.Test.YtghblhknjangbaaGreatDoorGm
namespace Go.Proofs.Wd
open Go.RowKit
set_option linter.unusedVariables false
set_option maxHeartbeats 4000000 in
theorem Tryz.cutText (s : ByteArray) (n : Nat) (w : World) (hmax : s.size ≤ 9223372036854775807) (hn : n ≤ 1000000) :
    Calls Tryz.prog 11 #[.string s, .int .i64 n] w fun e w' => (∃ t : ByteArray, e = .returned (.string t) ∧ t.size ≤ n) ∧ w' = w := by
  obtain ⟨m, hm⟩ : ∃ m : Nat, (min (s.size : Int) (n : Int)) = m := ⟨min s.size n, by omega⟩
  have hmb : m ≤ s.size ∧ m ≤ n := by omega
  obtain ⟨hm1, hm2⟩ := hmb
  have HC : Hid ((s.extract 0 m).size ≤ n) := Nat.le_trans (size_cut s 0 m) (by omega)
  go_enter Tryz.func11, Tryz.ntmps11
  go_wp2
  go_ret
  exact ⟨⟨_, rfl, HC.out⟩, rfl⟩
set_option maxHeartbeats 8000000 in
set_option maxRecDepth 100000 in
theorem textWalk (s : ByteArray) (u : Int) (w : World) (hmax : s.size ≤ 9223372036854775807) (u0 : 0 ≤ u) (u1 : u ≤ 18446744073709551615) (hT : TabOk w)
    (hB : Calls Tryz.prog 10 #[] w fun e w' => e = .returned (.bool true) ∧ Below w.heap.size w w') :
    Calls Tryz.prog 3 #[.string s, .int .u64 u] w fun e w' => e = .returned (.bool true) ∧ Below w.heap.size w w' := by
  have HT : Hid (TabOk w) := hT
  clear hT
  go_enter Tryz.func3, Tryz.ntmps3
  go_wp2_with (go_at_call 10; (with_reducible refine hB.mono ?_); rintro e w1 ⟨rfl, hb1⟩)
  have HB1 : Hid (Below w.heap.size w w1) := hb1
  clear hb1 hB
  refine (Tryz.cutText s 100 _ hmax (by omega)).mono ?_
  rintro e w2 ⟨⟨t, rfl, ht⟩, rfl⟩
  go_wp2_with fail
  refine (Tryz.GetX t _ (by omega)).mono ?_
  rintro e w3 ⟨hg, hb3⟩
  have HB3 : Hid (Below w.heap.size w w3) := Below.after HB1.out hb3
  clear hb3
  by_cases hp : Tx.plainB t = true
  · obtain ⟨-, v3, rfl, hv3⟩ := hg.resolve_right (fun h => by rw [hp] at h; exact absurd h.1 (by simp))
    have HV3 : Hid (Num w3 v3 (Tx.num t : Int) 120) := hv3
    have HP : Hid (Tx.plainB t = true) := hp
    have HTX : Hid ((⟨(Lib.decDigits (Tx.num t)).toArray⟩ : ByteArray) = t) := by
      show _ = _
      rw [Tx.plainB_text hp]
    clear hg hv3 hp
    go_wp2_with fail
    refine (Go.Proofs.Tryz.getNX t _ (by omega)).mono ?_
    rintro e w4 ⟨hg4, hb4⟩
    obtain ⟨-, v4, rfl, hv4⟩ := hg4.resolve_right (fun h => by rw [HP.out] at h; exact absurd h.1 (by simp))
    have HV4 : Hid (NumIs w4 v4 (Tx.num t : Int) t.size) := hv4
    have HB4 : Hid (Below w.heap.size w w4) := Below.after HB3.out hb4
    have HW4 : Hid (Num w4 v3 (Tx.num t : Int) 120) := HV3.out.below hb4 (Nat.le_refl _)
    clear hg4 hv4 hb4 HV3 HB3
    have HC5 : Hid (Calls Tryz.prog 14 #[v3] w4 fun e w' => e = .returned (.string t) ∧ Below w4.heap.size w4 w') := by
      have h := Tryz.textX v3 (Tx.num t : Int) 120 w4 HW4.out (by omega) (HT.out.after HB4.out)
      rw [show ((Tx.num t : Nat) : Int).toNat = Tx.num t from rfl, HTX.out] at h
      exact h
    go_wp2_with fail
    refine HC5.out.mono ?_
    rintro e w5 ⟨rfl, hb5⟩
    have HV5 : Hid (NumIs w5 v4 (Tx.num t : Int) t.size) := by
      obtain ⟨xs, h1, h2⟩ := HV4.out
      exact ⟨xs, Go.Proofs.Digs.below h1 hb5 (Nat.le_refl _), h2⟩
    have HB5 : Hid (Below w.heap.size w w5) := Below.after HB4.out hb5
    clear hb5 HC5 HV4 HB4 HW4
    have HC6 : Hid (Calls Tryz.prog 15 #[v4] w5 fun e w' => e = .returned (.string t) ∧ Below w5.heap.size w5 w') := by
      have h := Go.Proofs.Tryz.rText v4 (Tx.num t : Int) t.size w5 HV5.out (by omega)
      rw [show ((Tx.num t : Nat) : Int).toNat = Tx.num t from rfl, HTX.out] at h
      exact h
    go_wp2_with fail
    refine HC6.out.mono ?_
    rintro e w6 ⟨rfl, hb6⟩
    have HB6 : Hid (Below w.heap.size w w6) := Below.after HB5.out hb6
    clear hb6 HC6 HV5 HB5
    go_wp2_with fail
    refine (Tryz.natOf u _ u0 u1).mono ?_
    rintro e w7 ⟨⟨b, rfl, hb⟩, hb7⟩
    have HV7 : Hid (Num w7 b u 1) := hb
    have HB7 : Hid (Below w.heap.size w w7) := Below.after HB6.out hb7
    clear hb hb7 HB6
    go_wp2_with fail
    refine (Tryz.natWord b u 1 _ HV7.out).mono ?_
    rintro e w8 ⟨hw, rfl⟩
    obtain ⟨-, rfl⟩ := hw.resolve_right (fun h => by have := h.1; omega)
    clear hw
    go_wp2_with fail
    refine (Tryz.natOf 18446744073709551615 _ (by omega) (by omega)).mono ?_
    rintro e w9 ⟨⟨c, rfl, hc⟩, hb9⟩
    have HC9 : Hid (Num w9 c 18446744073709551615 1) := hc
    have HV9 : Hid (Num w9 b u 1) := HV7.out.below hb9 (Nat.le_refl _)
    have HB9 : Hid (Below w.heap.size w w9) := Below.after HB7.out hb9
    clear hc hb9 HV7 HB7
    go_wp2_with fail
    refine (Tryz.natAdd b c u 18446744073709551615 1 1 _ HV9.out HC9.out (by omega) (by omega)).mono ?_
    rintro e w10 ⟨⟨d, rfl, hd⟩, hb10⟩
    have HD10 : Hid (Num w10 d (u + 18446744073709551615) (max 1 1 + 1)) := hd
    have HV10 : Hid (Num w10 b u 1) := HV9.out.below hb10 (Nat.le_refl _)
    have HB10 : Hid (Below w.heap.size w w10) := Below.after HB9.out hb10
    clear hd hb10 HV9 HB9 HC9
    go_wp2_with fail
    refine (Tryz.natWord d _ _ _ HD10.out).mono ?_
    rintro e w11 ⟨hw, rfl⟩
    have HTXT : Hid (Calls Tryz.prog 14 #[b] w11 fun e w' => e = .returned (.string ⟨(Lib.decDigits u.toNat).toArray⟩) ∧ Below w11.heap.size w11 w') := Tryz.textX b u 1 w11 HV10.out (by omega) (HT.out.after HB10.out)
    have HOFU : Hid (∀ W, Calls Tryz.prog 19 #[.int .u64 u] W fun e w' => (∃ v, e = .returned v ∧ NumIs w' v u 5) ∧ Below W.heap.size W w') := fun W => Go.Proofs.Tryz.rOfU u W u0 u1
    have HREF : Hid (∀ W v, NumIs W v u 5 → Calls Tryz.prog 15 #[v] W fun e w' => e = .returned (.string ⟨(Lib.decDigits u.toNat).toArray⟩) ∧ Below W.heap.size W w') := fun W v h => Go.Proofs.Tryz.rText v u 5 W h (by omega)
    clear HD10 HV10
    by_cases hu : u = 0
    · obtain ⟨-, rfl⟩ := hw.resolve_right (fun h => by have := h.1; omega)
      have hub : (u == 0) = true := by simpa using hu
      clear hw hu
      go_wp2_with fail
      refine HTXT.out.mono ?_
      rintro e w12 ⟨rfl, hb12⟩
      have HB12 : Hid (Below w.heap.size w w12) := Below.after HB10.out hb12
      clear hb12 HTXT HB10
      go_wp2_with fail
      refine (HOFU.out _).mono ?_
      rintro e w13 ⟨⟨r, rfl, hr⟩, hb13⟩
      have HR13 : Hid (NumIs w13 r u 5) := hr
      have HB13 : Hid (Below w.heap.size w w13) := Below.after HB12.out hb13
      clear hr hb13 HB12
      go_wp2_with fail
      refine (HREF.out _ r HR13.out).mono ?_
      rintro e w14 ⟨rfl, hb14⟩
      have HB14 : Hid (Below w.heap.size w w14) := Below.after HB13.out hb14
      clear hb14 HB13 HR13
      go_wp2
      go_ret
      exact ⟨rfl, HB14.out⟩
    · obtain ⟨-, rfl⟩ := hw.resolve_left (fun h => by have := h.1; omega)
      have hub : (u == 0) = false := by simpa using hu
      clear hw hu
      go_wp2_with fail
      refine HTXT.out.mono ?_
      rintro e w12 ⟨rfl, hb12⟩
      have HB12 : Hid (Below w.heap.size w w12) := Below.after HB10.out hb12
      clear hb12 HTXT HB10
      go_wp2_with fail
      refine (HOFU.out _).mono ?_
      rintro e w13 ⟨⟨r, rfl, hr⟩, hb13⟩
      have HR13 : Hid (NumIs w13 r u 5) := hr
      have HB13 : Hid (Below w.heap.size w w13) := Below.after HB12.out hb13
      clear hr hb13 HB12
      go_wp2_with fail
      refine (HREF.out _ r HR13.out).mono ?_
      rintro e w14 ⟨rfl, hb14⟩
      have HB14 : Hid (Below w.heap.size w w14) := Below.after HB13.out hb14
      clear hb14 HB13 HR13
      go_wp2
      go_ret
      exact ⟨rfl, HB14.out⟩
  · obtain ⟨hp0, rfl⟩ := hg.resolve_left (fun h => hp h.1)
    have HP : Hid (Tx.plainB t = false) := hp0
    clear hg hp hp0
    go_wp2_with fail
    refine (Go.Proofs.Tryz.getNX t _ (by omega)).mono ?_
    rintro e w6 ⟨hg4, hb4⟩
    obtain ⟨-, rfl⟩ := hg4.resolve_left (fun h => by rw [HP.out] at h; exact absurd h.1 (by simp))
    have HB6 : Hid (Below w.heap.size w w6) := Below.after HB3.out hb4
    clear hg4 hb4 HB3
    go_wp2_with fail
    refine (Tryz.natOf u _ u0 u1).mono ?_
    rintro e w7 ⟨⟨b, rfl, hb⟩, hb7⟩
    have HV7 : Hid (Num w7 b u 1) := hb
    have HB7 : Hid (Below w.heap.size w w7) := Below.after HB6.out hb7
    clear hb hb7 HB6
    go_wp2_with fail
    refine (Tryz.natWord b u 1 _ HV7.out).mono ?_
    rintro e w8 ⟨hw, rfl⟩
    obtain ⟨-, rfl⟩ := hw.resolve_right (fun h => by have := h.1; omega)
    clear hw
    go_wp2_with fail
    refine (Tryz.natOf 18446744073709551615 _ (by omega) (by omega)).mono ?_
    rintro e w9 ⟨⟨c, rfl, hc⟩, hb9⟩
    have HC9 : Hid (Num w9 c 18446744073709551615 1) := hc
    have HV9 : Hid (Num w9 b u 1) := HV7.out.below hb9 (Nat.le_refl _)
    have HB9 : Hid (Below w.heap.size w w9) := Below.after HB7.out hb9
    clear hc hb9 HV7 HB7
    go_wp2_with fail
    refine (Tryz.natAdd b c u 18446744073709551615 1 1 _ HV9.out HC9.out (by omega) (by omega)).mono ?_
    rintro e w10 ⟨⟨d, rfl, hd⟩, hb10⟩
    have HD10 : Hid (Num w10 d (u + 18446744073709551615) (max 1 1 + 1)) := hd
    have HV10 : Hid (Num w10 b u 1) := HV9.out.below hb10 (Nat.le_refl _)
    have HB10 : Hid (Below w.heap.size w w10) := Below.after HB9.out hb10
    clear hd hb10 HV9 HB9 HC9
    go_wp2_with fail
    refine (Tryz.natWord d _ _ _ HD10.out).mono ?_
    rintro e w11 ⟨hw, rfl⟩
    have HTXT : Hid (Calls Tryz.prog 14 #[b] w11 fun e w' => e = .returned (.string ⟨(Lib.decDigits u.toNat).toArray⟩) ∧ Below w11.heap.size w11 w') := Tryz.textX b u 1 w11 HV10.out (by omega) (HT.out.after HB10.out)
    have HOFU : Hid (∀ W, Calls Tryz.prog 19 #[.int .u64 u] W fun e w' => (∃ v, e = .returned v ∧ NumIs w' v u 5) ∧ Below W.heap.size W w') := fun W => Go.Proofs.Tryz.rOfU u W u0 u1
    have HREF : Hid (∀ W v, NumIs W v u 5 → Calls Tryz.prog 15 #[v] W fun e w' => e = .returned (.string ⟨(Lib.decDigits u.toNat).toArray⟩) ∧ Below W.heap.size W w') := fun W v h => Go.Proofs.Tryz.rText v u 5 W h (by omega)
    clear HD10 HV10
    by_cases hu : u = 0
    · obtain ⟨-, rfl⟩ := hw.resolve_right (fun h => by have := h.1; omega)
      have hub : (u == 0) = true := by simpa using hu
      clear hw hu
      go_wp2_with fail
      refine HTXT.out.mono ?_
      rintro e w12 ⟨rfl, hb12⟩
      have HB12 : Hid (Below w.heap.size w w12) := Below.after HB10.out hb12
      clear hb12 HTXT HB10
      go_wp2_with fail
      refine (HOFU.out _).mono ?_
      rintro e w13 ⟨⟨r, rfl, hr⟩, hb13⟩
      have HR13 : Hid (NumIs w13 r u 5) := hr
      have HB13 : Hid (Below w.heap.size w w13) := Below.after HB12.out hb13
      clear hr hb13 HB12
      go_wp2_with fail
      refine (HREF.out _ r HR13.out).mono ?_
      rintro e w14 ⟨rfl, hb14⟩
      have HB14 : Hid (Below w.heap.size w w14) := Below.after HB13.out hb14
      clear hb14 HB13 HR13
      go_wp2
      go_ret
      exact ⟨rfl, HB14.out⟩
    · obtain ⟨-, rfl⟩ := hw.resolve_left (fun h => by have := h.1; omega)
      have hub : (u == 0) = false := by simpa using hu
      clear hw hu
      go_wp2_with fail
      refine HTXT.out.mono ?_
      rintro e w12 ⟨rfl, hb12⟩
      have HB12 : Hid (Below w.heap.size w w12) := Below.after HB10.out hb12
      clear hb12 HTXT HB10
      go_wp2_with fail
      refine (HOFU.out _).mono ?_
      rintro e w13 ⟨⟨r, rfl, hr⟩, hb13⟩
      have HR13 : Hid (NumIs w13 r u 5) := hr
      have HB13 : Hid (Below w.heap.size w w13) := Below.after HB12.out hb13
      clear hr hb13 HB12
      go_wp2_with fail
      refine (HREF.out _ r HR13.out).mono ?_
      rintro e w14 ⟨rfl, hb14⟩
      have HB14 : Hid (Below w.heap.size w w14) := Below.after HB13.out hb14
      clear hb14 HB13 HR13
      go_wp2
      go_ret
      exact ⟨rfl, HB14.out⟩
end Go.Proofs.Wd
