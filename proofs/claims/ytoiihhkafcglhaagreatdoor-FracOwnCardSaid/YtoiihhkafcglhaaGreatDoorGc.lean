/- What Gcd and Mul of the package nat return. -/
import Derived.Test.YtoiihhkafcglhaaGreatDoorDv
import Derived.Test.YtoiihhkafcglhaaGreatDoorPr
namespace Go.Proofs.Wd
open Go.RowKit
set_option linter.unusedVariables false
set_option maxHeartbeats 8000000 in
set_option maxRecDepth 100000 in
theorem Tryz.natGcd (v u : Value) (z y : Int) (n m : Nat) (w : World) (hv : Num w v z n) (hu : Num w u y m) (hn : n ≤ 80000) (hm : m ≤ 80000) :
    Calls Tryz.prog 113 #[v, u] w fun e w' => (∃ r, e = .returned r ∧ Num w' r (Int.gcd z y) (max n m)) ∧ Below w.heap.size w w' := by
  obtain ⟨xs, ix, dx, tx, rfl, lx⟩ := hv
  obtain ⟨ys, iy, dy, ty, rfl, ly⟩ := hu
  have HU : Hid (IsNat w u ys) := iy
  have HV : Hid (IsNat w v xs) := ix
  have HC := Lib.hid (show ∀ a b W, Digs W a xs → Digs W b ys → Calls Tryz.prog 151 #[a, b] W fun e w' => e = .returned (.int .i64 (cmpI (val xs) (val ys))) ∧ Below W.heap.size W w' from fun a b W h k => Tryz.compare a b xs ys W h k dx dy tx ty)
  have HL : Hid (xs.length ≤ n ∧ ys.length ≤ m) := ⟨lx, ly⟩
  have HG : Hid (Int.gcd (val ys) (val xs) = Int.gcd (val xs) (val ys)) := Int.gcd_comm _ _
  obtain ⟨c, hc⟩ : ∃ c, cmpI (val xs) (val ys) = c := ⟨_, rfl⟩
  by_cases hlt : val xs < val ys
  · have hcv : c = -1 := by rw [← hc, cmpI_lt hlt]
    subst hcv
    have HD := Lib.hid (show ∀ a b W, Digs W a xs → Digs W b ys → Calls Tryz.prog 152 #[b, a] W fun e w' => DivIs ys xs w' e ∧ Below W.heap.size W w' from fun a b W h k => Tryz.divisor b a ys xs W k h dy dx ty tx (by omega) (by omega))
    rw [hc] at HC
    clear ix iy dx dy tx ty lx ly hc hlt
    go_enter Tryz.func113, Tryz.ntmps113
    go_wp2_with fail
    with_reducible refine (Tryz.all v xs _ HV.out).mono ?_
    rintro e w1 ⟨⟨s1, rfl, hs1⟩, rfl⟩
    have HS1 : Hid (Digs w1 s1 xs) := hs1
    clear hs1
    go_wp2_with fail
    with_reducible refine (Tryz.all u ys _ HU.out).mono ?_
    rintro e w2 ⟨⟨s2, rfl, hs2⟩, rfl⟩
    have HS2 : Hid (Digs w2 s2 ys) := hs2
    clear hs2
    go_wp2_with fail
    with_reducible refine (HC.out s1 s2 _ HS1.out HS2.out).mono ?_
    rintro e w3 ⟨rfl, hb3⟩
    have HA3 : Hid (Digs w3 s1 xs) := HS1.out.below hb3 (Nat.le_refl _)
    have HB3 : Hid (Digs w3 s2 ys) := HS2.out.below hb3 (Nat.le_refl _)
    have HW3 : Hid (Below w2.heap.size w2 w3) := hb3
    clear hb3 HC HS1 HS2
    go_wp2_with fail
    with_reducible refine (HD.out s1 s2 _ HA3.out HB3.out).mono ?_
    rintro e w4 ⟨⟨r, R, rfl, hr, dr, er, lr⟩, hb4⟩
    have HR4 : Hid (Digs w4 r R) := hr
    have HDR : Hid (Dig R) := dr
    have HER : Hid (val R = Int.gcd (val xs) (val ys) ∧ R.length ≤ max n m) := ⟨by rw [er, HG.out], by have := HL.out; omega⟩
    have HW4 : Hid (Below w2.heap.size w2 w4) := Below.after HW3.out hb4
    clear hr dr er lr hb4 HD HA3 HB3 HW3
    go_wp2_with fail
    with_reducible refine (Tryz.made r R _ HR4.out HDR.out).mono ?_
    rintro e w5 ⟨⟨r', rfl, hr'⟩, hb5⟩
    have HR5 : Hid (Num w5 r' (val R) R.length) := hr'
    have HW5 : Hid (Below w2.heap.size w2 w5) := Below.after HW4.out hb5
    clear hr' hb5
    go_wp2
    go_ret
    exact ⟨⟨r', rfl, by rw [← HER.out.1]; exact HR5.out.fewer HER.out.2⟩, HW5.out⟩
  · have hcv : 0 ≤ c := by rw [← hc]; unfold cmpI; rw [if_neg hlt]; split <;> omega
    have HD := Lib.hid (show ∀ a b W, Digs W a xs → Digs W b ys → Calls Tryz.prog 152 #[a, b] W fun e w' => DivIs xs ys w' e ∧ Below W.heap.size W w' from fun a b W h k => Tryz.divisor a b xs ys W h k dx dy tx ty (by omega) (by omega))
    rw [hc] at HC
    clear ix iy dx dy tx ty lx ly hc hlt
    go_enter Tryz.func113, Tryz.ntmps113
    go_wp2_with fail
    with_reducible refine (Tryz.all v xs _ HV.out).mono ?_
    rintro e w1 ⟨⟨s1, rfl, hs1⟩, rfl⟩
    have HS1 : Hid (Digs w1 s1 xs) := hs1
    clear hs1
    go_wp2_with fail
    with_reducible refine (Tryz.all u ys _ HU.out).mono ?_
    rintro e w2 ⟨⟨s2, rfl, hs2⟩, rfl⟩
    have HS2 : Hid (Digs w2 s2 ys) := hs2
    clear hs2
    go_wp2_with fail
    with_reducible refine (HC.out s1 s2 _ HS1.out HS2.out).mono ?_
    rintro e w3 ⟨rfl, hb3⟩
    have HA3 : Hid (Digs w3 s1 xs) := HS1.out.below hb3 (Nat.le_refl _)
    have HB3 : Hid (Digs w3 s2 ys) := HS2.out.below hb3 (Nat.le_refl _)
    have HW3 : Hid (Below w2.heap.size w2 w3) := hb3
    clear hb3 HC HS1 HS2
    go_wp2_with fail
    with_reducible refine (HD.out s1 s2 _ HA3.out HB3.out).mono ?_
    rintro e w4 ⟨⟨r, R, rfl, hr, dr, er, lr⟩, hb4⟩
    have HR4 : Hid (Digs w4 r R) := hr
    have HDR : Hid (Dig R) := dr
    have HER : Hid (val R = Int.gcd (val xs) (val ys) ∧ R.length ≤ max n m) := ⟨by rw [er], by have := HL.out; omega⟩
    have HW4 : Hid (Below w2.heap.size w2 w4) := Below.after HW3.out hb4
    clear hr dr er lr hb4 HD HA3 HB3 HW3
    go_wp2_with fail
    with_reducible refine (Tryz.made r R _ HR4.out HDR.out).mono ?_
    rintro e w5 ⟨⟨r', rfl, hr'⟩, hb5⟩
    have HR5 : Hid (Num w5 r' (val R) R.length) := hr'
    have HW5 : Hid (Below w2.heap.size w2 w5) := Below.after HW4.out hb5
    clear hr' hb5
    go_wp2
    go_ret
    exact ⟨⟨r', rfl, by rw [← HER.out.1]; exact HR5.out.fewer HER.out.2⟩, HW5.out⟩
set_option maxHeartbeats 8000000 in
set_option maxRecDepth 100000 in
theorem Tryz.natMul (v u : Value) (z y : Int) (n m : Nat) (w : World) (hv : Num w v z n) (hu : Num w u y m) (hn : n ≤ 100000) (hm : m ≤ 100000) :
    Calls Tryz.prog 111 #[v, u] w fun e w' => (∃ r, e = .returned r ∧ Num w' r (z * y) (n + m)) ∧ Below w.heap.size w w' := by
  obtain ⟨xs, ix, dx, tx, rfl, lx⟩ := hv
  obtain ⟨ys, iy, dy, ty, rfl, ly⟩ := hu
  have HU : Hid (IsNat w u ys) := iy
  have HV : Hid (IsNat w v xs) := ix
  have HD := Lib.hid (show ∀ a b W, Digs W a xs → Digs W b ys → Calls Tryz.prog 150 #[a, b] W fun e w' => (∃ r L, e = .returned r ∧ NewRow w' W.heap.size r L ∧ Dig L ∧ L.length = xs.length + ys.length ∧ val L = val xs * val ys) ∧ Below W.heap.size W w' from fun a b W h k => Tryz.product a b xs ys W h k dx dy (by omega) (by omega))
  have HL : Hid (xs.length ≤ n ∧ ys.length ≤ m) := ⟨lx, ly⟩
  clear ix iy dx dy tx ty lx ly
  go_enter Tryz.func111, Tryz.ntmps111
  go_wp2_with fail
  with_reducible refine (Tryz.all v xs _ HV.out).mono ?_
  rintro e w1 ⟨⟨s1, rfl, hs1⟩, rfl⟩
  have HS1 : Hid (Digs w1 s1 xs) := hs1
  clear hs1
  go_wp2_with fail
  with_reducible refine (Tryz.all u ys _ HU.out).mono ?_
  rintro e w2 ⟨⟨s2, rfl, hs2⟩, rfl⟩
  have HS2 : Hid (Digs w2 s2 ys) := hs2
  clear hs2
  go_wp2_with fail
  with_reducible refine (HD.out s1 s2 _ HS1.out HS2.out).mono ?_
  rintro e w4 ⟨⟨r, R, rfl, hr, dr, lr, er⟩, hb4⟩
  have HR4 : Hid (Digs w4 r R) := hr.digs (by have := HL.out; omega)
  have HDR : Hid (Dig R) := dr
  have HER : Hid (val R = val xs * val ys ∧ R.length ≤ n + m) := ⟨er, by have := HL.out; omega⟩
  have HW4 : Hid (Below w2.heap.size w2 w4) := hb4
  clear hr dr er lr hb4 HD HS1 HS2
  go_wp2_with fail
  with_reducible refine (Tryz.made r R _ HR4.out HDR.out).mono ?_
  rintro e w5 ⟨⟨r', rfl, hr'⟩, hb5⟩
  have HR5 : Hid (Num w5 r' (val R) R.length) := hr'
  have HW5 : Hid (Below w2.heap.size w2 w5) := Below.after HW4.out hb5
  clear hr' hb5
  go_wp2
  go_ret
  exact ⟨⟨r', rfl, by rw [← HER.out.1]; exact HR5.out.fewer HER.out.2⟩, HW5.out⟩
end Go.Proofs.Wd
