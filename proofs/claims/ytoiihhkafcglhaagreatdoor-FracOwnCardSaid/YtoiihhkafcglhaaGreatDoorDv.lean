/- What divisor and Gcd of the package nat return: the greatest common divisor. -/
import Derived.Test.YtoiihhkafcglhaaGreatDoorSn
import Derived.Test.YtoiihhkafcglhaaGreatDoorWd6
import Derived.Test.YtoiihhkafcglhaaGreatDoorRg
namespace Go.Proofs.Wd
open Go.RowKit
set_option linter.unusedVariables false
/-- A row of words with the greatest divisor. -/
def DivIs (xs ys : List Int) (w : World) (e : Ending) : Prop := ∃ r R, e = .returned r ∧ Digs w r R ∧ Dig R ∧ val R = Int.gcd (val xs) (val ys) ∧ R.length ≤ xs.length
theorem gcd_word {p y : Int} {g : Nat} (h : Int.gcd p y = g) : Int.gcd y (p % y) = g := by rw [gcd_mod, h]
theorem word_len {P : List Int} {y : Int} (h : y ≤ val P) (y1 : 1 ≤ y) : 1 ≤ P.length := by
  cases P with
  | nil => simp at h; omega
  | cons _ _ => simp
set_option maxHeartbeats 8000000 in
set_option maxRecDepth 100000 in
theorem Tryz.divisorNone (v u : Value) (xs ys : List Int) (w : World) (hv : Digs w v xs) (hu : Digs w u ys) (hx : Dig xs) (h0 : ys.length = 0) (hlen : xs.length ≤ 80000) :
    Calls Tryz.prog 152 #[v, u] w fun e w' => DivIs xs ys w' e ∧ Below w.heap.size w w' := by
  obtain rfl := List.length_eq_zero_iff.1 h0
  have HV : Hid (Digs w v xs) := hv
  have HX : Hid (Dig xs) := hx
  have HLEN : Hid (xs.length ≤ xs.length ∧ xs.length ≤ 80000) := ⟨Nat.le_refl _, hlen⟩
  have HG : Hid (val xs = Int.gcd (val xs) (val ([] : List Int))) := by
    have := val_nonneg hx
    show _ = _
    rw [val_nil, Int.gcd_zero]; omega
  have HB : Hid (Below w.heap.size w w) := Below.refl _ _
  obtain ⟨q, dap, rfl, -, -⟩ := hu.slice
  simp only [List.length_nil]
  clear hv hu hx h0 hlen
  go_enter Tryz.func152, Tryz.ntmps152
  go_wp2_with fail
  with_reducible refine (Tryz.clone v xs _ HV.out (by have := HLEN.out; omega)).mono ?_
  rintro e w8 ⟨⟨r, rfl, hr⟩, hb8⟩
  have HR8 : Hid (Digs w8 r xs) := Digs.of_own hr
  have HB8 : Hid (Below w.heap.size w w8) := Below.after HB.out hb8
  clear hr hb8
  go_wp2
  go_ret
  exact ⟨⟨_, xs, rfl, HR8.out, HX.out, HG.out, HLEN.out.1⟩, HB8.out⟩
set_option maxHeartbeats 8000000 in
set_option maxRecDepth 100000 in
theorem Tryz.divisorWord (v u : Value) (xs : List Int) (y : Int) (w : World) (hv : Digs w v xs) (hu : Digs w u [y]) (hx : Dig xs) (y1 : 1 ≤ y) (y9 : y ≤ 18446744073709551615) (hle : y ≤ val xs) (hlen : xs.length ≤ 80000) :
    Calls Tryz.prog 152 #[v, u] w fun e w' => DivIs xs [y] w' e ∧ Below w.heap.size w w' := by
  obtain ⟨ys, hys⟩ : ∃ ys, [y] = ys := ⟨_, rfl⟩
  have hvy : val ys = y := by rw [← hys]; simp [val_cons]
  have HV : Hid (Digs w v xs) := hv
  have HX : Hid (Dig xs) := hx
  have HLEN : Hid (xs.length ≤ xs.length ∧ xs.length ≤ 80000) := ⟨Nat.le_refl _, hlen⟩
  have HG : Hid (Int.gcd (val xs) y = Int.gcd (val xs) (val ys)) := by rw [hvy]; rfl
  have HY : Hid (1 ≤ y ∧ y ≤ 18446744073709551615 ∧ 1 ≤ xs.length) := ⟨y1, y9, word_len hle y1⟩
  have HB : Hid (Below w.heap.size w w) := Below.refl _ _
  obtain ⟨q, dap, rfl, -, hyr⟩ := hu.slice
  obtain ⟨gy, rfl, hgy⟩ := hyr (by simp)
  have hyc := hgy.cells 0 (by simp)
  simp only [List.getD_cons_zero] at hyc
  have hylt := hgy.lt
  simp only [List.length_singleton]
  rw [hys]
  clear hv hu hx hlen hle hyr hgy hys hvy
  go_enter Tryz.func152, Tryz.ntmps152
  go_wp2_with fail
  have HPD := Lib.hid (HV.out.below ((Below.refl w.heap.size w).drew) (Nat.le_refl _))
  have HBD := Lib.hid (HB.out.drew)
  refine wp_region_held_drew (S := (fun w' : World => w'.cell? ⟨gy, 0, none⟩ = some (.int .u64 y))) (by kernel_rfl) hyc (fun hHeld => ?_)
  (refine takeYes (i := 0) ?_ (by (simp only [List.getElem?_toArray, List.getElem?_cons_zero]) <;> rfl) (by kernel_rfl) (by kernel_rfl) (by kernel_rfl) (by exact fun _ _ _ h => h) (by rfl) (by assumption) ?_ ?_)
  rotate_left
  · (intro w hSw; (try dsimp only at hSw); go_simp <;> with_reducible rfl)
  (try simp only [Act.put, List.setIfInBounds_toArray, List.set_cons_zero, List.set_cons_succ])
  (refine takeYes (i := 1) ?_ (by (simp only [List.getElem?_toArray, List.getElem?_cons_succ, List.getElem?_cons_zero]) <;> rfl) (by kernel_rfl) (by kernel_rfl) (by kernel_rfl) (by exact fun _ _ _ h => h) (by rfl) (by assumption) ?_ ?_)
  rotate_left
  · (intro w hSw; (try dsimp only at hSw); go_simp <;> with_reducible rfl)
  (try simp only [Act.put, List.setIfInBounds_toArray, List.set_cons_zero, List.set_cons_succ])
  (refine takeYes (i := 2) ?_ (by (simp only [List.getElem?_toArray, List.getElem?_cons_succ, List.getElem?_cons_zero]) <;> rfl) (by kernel_rfl) (by kernel_rfl) (by kernel_rfl) (by exact fun _ _ _ h => h) (by rfl) (by assumption) ?_ ?_)
  rotate_left
  · (intro w hSw; (try dsimp only at hSw); go_simp <;> with_reducible rfl)
  (try simp only [Act.put, List.setIfInBounds_toArray, List.set_cons_zero, List.set_cons_succ])
  (refine takeYes (i := 3) ?_ (by (simp only [List.getElem?_toArray, List.getElem?_cons_succ, List.getElem?_cons_zero]) <;> rfl) (by kernel_rfl) (by kernel_rfl) (by kernel_rfl) (by exact fun _ _ _ h => h) (by rfl) (by assumption) ?_ ?_)
  rotate_left
  · (intro w hSw; (try dsimp only at hSw); go_simp <;> with_reducible rfl)
  (try simp only [Act.put, List.setIfInBounds_toArray, List.set_cons_zero, List.set_cons_succ])
  (refine takeYes (i := 4) ?_ (by (simp only [List.getElem?_toArray, List.getElem?_cons_succ, List.getElem?_cons_zero]) <;> rfl) (by kernel_rfl) (by kernel_rfl) (by kernel_rfl) (by exact fun _ _ _ h => h) (by rfl) (by assumption) ?_ ?_)
  rotate_left
  · (intro w hSw; (try dsimp only at hSw); go_simp <;> with_reducible rfl)
  (try simp only [Act.put, List.setIfInBounds_toArray, List.set_cons_zero, List.set_cons_succ])
  (refine takeYes (i := 5) ?_ (by (simp only [List.getElem?_toArray, List.getElem?_cons_succ, List.getElem?_cons_zero]) <;> rfl) (by kernel_rfl) (by kernel_rfl) (by kernel_rfl) (by exact fun _ _ _ h => h) (by rfl) (by assumption) ?_ ?_)
  rotate_left
  · (intro w hSw; (try dsimp only at hSw); go_simp <;> with_reducible rfl)
  (try simp only [Act.put, List.setIfInBounds_toArray, List.set_cons_zero, List.set_cons_succ])
  (refine takeYes (i := 6) ?_ (by (simp only [List.getElem?_toArray, List.getElem?_cons_succ, List.getElem?_cons_zero]) <;> rfl) (by kernel_rfl) (by kernel_rfl) (by kernel_rfl) (by exact fun _ _ _ h => h) (by rfl) (by assumption) ?_ ?_)
  rotate_left
  · (intro w hSw; (try dsimp only at hSw); go_simp <;> with_reducible rfl)
  (try simp only [Act.put, List.setIfInBounds_toArray, List.set_cons_zero, List.set_cons_succ])
  refine wpAnyH_ready (rs := [7]) (by kernel_rfl) (by simp) ?_
  refine AllReadyH.cons (by (simp only [List.getElem?_toArray, List.getElem?_cons_succ, List.getElem?_cons_zero]) <;> rfl) (fun K hK => ?_) AllReadyH.nil
  go_simp
  go_at_call 199
  with_reducible refine (Tryz.wordRest v xs y _ HPD.out HX.out HY.out.1 HY.out.2.1 (by have := HLEN.out; omega)).mono ?_
  rintro e w8 ⟨rfl, rfl⟩
  have hm0 : 0 ≤ val xs % y := Int.emod_nonneg _ (by have := HY.out; omega)
  have hm1 : val xs % y < y := Int.emod_lt_of_pos _ (by have := HY.out; omega)
  obtain ⟨r, hr⟩ : ∃ r, val xs % y = r := ⟨_, rfl⟩
  have HRV : Hid (val xs % y = r) := hr
  have hy9 := HY.out.2.1
  rw [hr] at hm0 hm1 ⊢
  clear hr
  refine hK.out _ _ hHeld (fun hHeld => ?_)
  clear hK K
  (try simp only [Act.put, List.setIfInBounds_toArray, List.set_cons_zero, List.set_cons_succ])
  refine wpAnyH_ready (rs := [8]) (by kernel_rfl) (by simp) ?_
  refine AllReadyH.cons (by (simp only [List.getElem?_toArray, List.getElem?_cons_succ, List.getElem?_cons_zero]) <;> rfl) (fun K hK => ?_) AllReadyH.nil
  go_simp
  go_at_call 198
  with_reducible refine (Tryz.wordDivisor y r _ (by omega) hy9 hm0 (by omega)).mono ?_
  rintro e w9 ⟨rfl, hb9⟩
  have HGV : Hid ((Int.gcd y r : Int) = Int.gcd (val xs) (val ys) ∧ Int.gcd y r ≤ y) := ⟨by rw [← HRV.out, gcd_word HG.out], Int.le_of_dvd (by omega) (Int.gcd_dvd_left _ _)⟩
  obtain ⟨gg, hgg⟩ : ∃ gg : Int, (Int.gcd y r : Int) = gg := ⟨_, rfl⟩
  have HGG : Hid (gg = Int.gcd (val xs) (val ys) ∧ 0 ≤ gg ∧ gg ≤ 18446744073709551615) := ⟨by rw [← hgg, HGV.out.1], by omega, by have := HGV.out.2; omega⟩
  rw [hgg]
  have hh9 : w9.cell? ⟨gy, 0, none⟩ = some (.int .u64 y) := (hb9.cell (p := ⟨gy, 0, none⟩) hylt).trans hyc
  have HB9 : Hid (Below w.heap.size w w9) := Below.after HBD.out hb9
  have hlt9 : gy < w9.heap.size := Nat.lt_of_lt_of_le hylt hb9.size
  clear hgg HGV hHeld
  refine hK.out _ _ hh9 (fun hHeld => ?_)
  clear hK K
  (try simp only [Act.put, List.setIfInBounds_toArray, List.set_cons_zero, List.set_cons_succ])
  refine wpAnyH_ready (rs := [9]) (by kernel_rfl) (by simp) ?_
  refine AllReadyH.cons (by (simp only [List.getElem?_toArray, List.getElem?_cons_succ, List.getElem?_cons_zero]) <;> rfl) (fun K hK => ?_) AllReadyH.nil
  go_simp
  have hrow : RowOf (w9.alloc (.cells #[.int .u64 gg] 49)) w9.heap.size [gg] := by unfold RowOf; rw [heap_alloc_last]; rfl
  have HROW := Lib.hid hrow
  have hhA : (w9.alloc (.cells #[.int .u64 gg] 49)).cell? ⟨gy, 0, none⟩ = some (.int .u64 y) := (((Below.refl w9.heap.size w9).alloc (Nat.le_refl _) _).cell (p := ⟨gy, 0, none⟩) hlt9).trans hh9
  clear hrow hHeld
  refine hK.out _ _ hhA (fun hHeld => ?_)
  clear hK K
  (try simp only [Act.put, List.setIfInBounds_toArray, List.set_cons_zero, List.set_cons_succ])
  (refine takeYes (i := 10) ?_ (by (simp only [List.getElem?_toArray, List.getElem?_cons_succ, List.getElem?_cons_zero]) <;> rfl) (by kernel_rfl) (by kernel_rfl) (by kernel_rfl) (by exact fun _ _ _ h => h) (by rfl) (by assumption) ?_ ?_)
  rotate_left
  · (intro w hSw; (try dsimp only at hSw); go_simp <;> with_reducible rfl)
  (try simp only [Act.put, List.setIfInBounds_toArray, List.set_cons_zero, List.set_cons_succ])
  refine wpAnyH_done (by kernel_rfl) ?_ _
  clear hHeld
  go_wp2
  go_ret
  exact ⟨⟨_, [gg], rfl, HROW.out.digs (by unfold maxLen; simp), fun d hd => by rw [List.mem_singleton.1 hd]; exact HGG.out.2, by rw [val_cons]; simp; exact HGG.out.1, by have := HLEN.out; have := HY.out; simp; omega⟩, HB9.out.alloc (by have := HB9.out.size; exact this) _⟩
set_option maxHeartbeats 8000000 in
set_option maxRecDepth 100000 in
theorem Tryz.divisorLong (v u : Value) (xs ys : List Int) (w : World) (hv : Digs w v xs) (hu : Digs w u ys) (hx : Dig xs) (hy : Dig ys) (tx : Top xs) (ty : Top ys) (h2 : 2 ≤ ys.length) (hle : val ys ≤ val xs) (hlen : xs.length ≤ 80000) :
    Calls Tryz.prog 152 #[v, u] w fun e w' => DivIs xs ys w' e ∧ Below w.heap.size w w' := by
  have HS := Lib.hid (Tryz.shortened v u xs ys w hv hu hx hy tx ty hlen h2 hle)
  obtain ⟨n, hn⟩ : ∃ n, xs.length = n := ⟨_, rfl⟩
  have HN : Hid (xs.length = n) := hn
  rw [hn] at hlen
  obtain ⟨q, dap, rfl, hyl, -⟩ := hu.slice
  obtain ⟨m, hm⟩ : ∃ m, ys.length = m := ⟨_, rfl⟩
  rw [hm] at HS h2 hyl ⊢
  clear hv hu hx hy tx ty hle hn hm
  go_enter Tryz.func152, Tryz.ntmps152
  go_wp2_with fail
  with_reducible refine HS.out.mono ?_
  rintro e w1 ⟨⟨p, q, P, Q, rfl, hp, hq, dp, dq, tp, tq, hg, hle, hq1, hpl⟩, hb1⟩
  have HP : Hid (Digs w1 p P) := hp
  have HDP : Hid (Dig P) := dp
  have HB1 : Hid (Below w.heap.size w w1) := hb1
  have HLEN : Hid (P.length ≤ xs.length ∧ P.length ≤ 80000) := ⟨hpl, by have := HN.out; omega⟩
  by_cases h0 : Q.length = 0
  · obtain rfl := List.length_eq_zero_iff.1 h0
    have HG : Hid (val P = Int.gcd (val xs) (val ys)) := by
      have := val_nonneg dp
      show _ = _
      rw [← hg, val_nil, Int.gcd_zero]; omega
    obtain ⟨qq, qap, rfl, -, -⟩ := hq.slice
    simp only [List.length_nil]
    clear HS hp hq dp dq tp tq hg hle hq1 hpl hb1 h0
    go_wp2_with fail
    with_reducible refine (Tryz.clone p P _ HP.out (by have := HLEN.out; omega)).mono ?_
    rintro e w8 ⟨⟨r, rfl, hr⟩, hb8⟩
    have HR8 : Hid (Digs w8 r P) := Digs.of_own hr
    have HB8 : Hid (Below w.heap.size w w8) := Below.after HB1.out hb8
    clear hr hb8
    go_wp2
    go_ret
    exact ⟨⟨_, P, rfl, HR8.out, HDP.out, HG.out, HLEN.out.1⟩, HB8.out⟩
  · obtain ⟨y, rfl⟩ := List.length_eq_one_iff.1 (show Q.length = 1 by omega)
    have hvy : val [y] = y := by simp [val_cons]
    have y1 : 1 ≤ y := by
      have := dq y (by simp)
      rcases tq with e | e
      · exact absurd e (by simp)
      · simp at e; omega
    have HG : Hid (Int.gcd (val P) y = Int.gcd (val xs) (val ys)) := by show _ = _; rw [← hg, hvy]
    have HY : Hid (1 ≤ y ∧ y ≤ 18446744073709551615 ∧ 1 ≤ P.length) := ⟨y1, (dq y (by simp)).2, word_len (by rw [hvy] at hle; exact hle) y1⟩
    obtain ⟨qq, qap, rfl, -, hyr⟩ := hq.slice
    obtain ⟨gy, rfl, hgy⟩ := hyr (by simp)
    have hyc := hgy.cells 0 (by simp)
    simp only [List.getD_cons_zero] at hyc
    have hylt := hgy.lt
    simp only [List.length_singleton]
    clear HS hp hq dp dq tp tq hg hle hq1 hpl hb1 h0 hyr hgy hvy y1
    go_wp2_with fail
    have HPD := Lib.hid (HP.out.below ((Below.refl w1.heap.size w1).drew) (Nat.le_refl _))
    have HBD := Lib.hid (HB1.out.drew)
    refine wp_region_held_drew (S := (fun w' : World => w'.cell? ⟨gy, 0, none⟩ = some (.int .u64 y))) (by kernel_rfl) hyc (fun hHeld => ?_)
    (refine takeYes (i := 0) ?_ (by (simp only [List.getElem?_toArray, List.getElem?_cons_zero]) <;> rfl) (by kernel_rfl) (by kernel_rfl) (by kernel_rfl) (by exact fun _ _ _ h => h) (by rfl) (by assumption) ?_ ?_)
    rotate_left
    · (intro w hSw; (try dsimp only at hSw); go_simp <;> with_reducible rfl)
    (try simp only [Act.put, List.setIfInBounds_toArray, List.set_cons_zero, List.set_cons_succ])
    (refine takeYes (i := 1) ?_ (by (simp only [List.getElem?_toArray, List.getElem?_cons_succ, List.getElem?_cons_zero]) <;> rfl) (by kernel_rfl) (by kernel_rfl) (by kernel_rfl) (by exact fun _ _ _ h => h) (by rfl) (by assumption) ?_ ?_)
    rotate_left
    · (intro w hSw; (try dsimp only at hSw); go_simp <;> with_reducible rfl)
    (try simp only [Act.put, List.setIfInBounds_toArray, List.set_cons_zero, List.set_cons_succ])
    (refine takeYes (i := 2) ?_ (by (simp only [List.getElem?_toArray, List.getElem?_cons_succ, List.getElem?_cons_zero]) <;> rfl) (by kernel_rfl) (by kernel_rfl) (by kernel_rfl) (by exact fun _ _ _ h => h) (by rfl) (by assumption) ?_ ?_)
    rotate_left
    · (intro w hSw; (try dsimp only at hSw); go_simp <;> with_reducible rfl)
    (try simp only [Act.put, List.setIfInBounds_toArray, List.set_cons_zero, List.set_cons_succ])
    (refine takeYes (i := 3) ?_ (by (simp only [List.getElem?_toArray, List.getElem?_cons_succ, List.getElem?_cons_zero]) <;> rfl) (by kernel_rfl) (by kernel_rfl) (by kernel_rfl) (by exact fun _ _ _ h => h) (by rfl) (by assumption) ?_ ?_)
    rotate_left
    · (intro w hSw; (try dsimp only at hSw); go_simp <;> with_reducible rfl)
    (try simp only [Act.put, List.setIfInBounds_toArray, List.set_cons_zero, List.set_cons_succ])
    (refine takeYes (i := 4) ?_ (by (simp only [List.getElem?_toArray, List.getElem?_cons_succ, List.getElem?_cons_zero]) <;> rfl) (by kernel_rfl) (by kernel_rfl) (by kernel_rfl) (by exact fun _ _ _ h => h) (by rfl) (by assumption) ?_ ?_)
    rotate_left
    · (intro w hSw; (try dsimp only at hSw); go_simp <;> with_reducible rfl)
    (try simp only [Act.put, List.setIfInBounds_toArray, List.set_cons_zero, List.set_cons_succ])
    (refine takeYes (i := 5) ?_ (by (simp only [List.getElem?_toArray, List.getElem?_cons_succ, List.getElem?_cons_zero]) <;> rfl) (by kernel_rfl) (by kernel_rfl) (by kernel_rfl) (by exact fun _ _ _ h => h) (by rfl) (by assumption) ?_ ?_)
    rotate_left
    · (intro w hSw; (try dsimp only at hSw); go_simp <;> with_reducible rfl)
    (try simp only [Act.put, List.setIfInBounds_toArray, List.set_cons_zero, List.set_cons_succ])
    (refine takeYes (i := 6) ?_ (by (simp only [List.getElem?_toArray, List.getElem?_cons_succ, List.getElem?_cons_zero]) <;> rfl) (by kernel_rfl) (by kernel_rfl) (by kernel_rfl) (by exact fun _ _ _ h => h) (by rfl) (by assumption) ?_ ?_)
    rotate_left
    · (intro w hSw; (try dsimp only at hSw); go_simp <;> with_reducible rfl)
    (try simp only [Act.put, List.setIfInBounds_toArray, List.set_cons_zero, List.set_cons_succ])
    refine wpAnyH_ready (rs := [7]) (by kernel_rfl) (by simp) ?_
    refine AllReadyH.cons (by (simp only [List.getElem?_toArray, List.getElem?_cons_succ, List.getElem?_cons_zero]) <;> rfl) (fun K hK => ?_) AllReadyH.nil
    go_simp
    go_at_call 199
    with_reducible refine (Tryz.wordRest p P y _ HPD.out HDP.out HY.out.1 HY.out.2.1 (by have := HLEN.out; omega)).mono ?_
    rintro e w8 ⟨rfl, rfl⟩
    have hm0 : 0 ≤ val P % y := Int.emod_nonneg _ (by have := HY.out; omega)
    have hm1 : val P % y < y := Int.emod_lt_of_pos _ (by have := HY.out; omega)
    obtain ⟨r, hr⟩ : ∃ r, val P % y = r := ⟨_, rfl⟩
    have HRV : Hid (val P % y = r) := hr
    have hy9 := HY.out.2.1
    rw [hr] at hm0 hm1 ⊢
    clear hr
    refine hK.out _ _ hHeld (fun hHeld => ?_)
    clear hK K
    (try simp only [Act.put, List.setIfInBounds_toArray, List.set_cons_zero, List.set_cons_succ])
    refine wpAnyH_ready (rs := [8]) (by kernel_rfl) (by simp) ?_
    refine AllReadyH.cons (by (simp only [List.getElem?_toArray, List.getElem?_cons_succ, List.getElem?_cons_zero]) <;> rfl) (fun K hK => ?_) AllReadyH.nil
    go_simp
    go_at_call 198
    with_reducible refine (Tryz.wordDivisor y r _ (by omega) hy9 hm0 (by omega)).mono ?_
    rintro e w9 ⟨rfl, hb9⟩
    have HGV : Hid ((Int.gcd y r : Int) = Int.gcd (val xs) (val ys) ∧ Int.gcd y r ≤ y) := ⟨by rw [← HRV.out, gcd_word HG.out], Int.le_of_dvd (by omega) (Int.gcd_dvd_left _ _)⟩
    obtain ⟨gg, hgg⟩ : ∃ gg : Int, (Int.gcd y r : Int) = gg := ⟨_, rfl⟩
    have HGG : Hid (gg = Int.gcd (val xs) (val ys) ∧ 0 ≤ gg ∧ gg ≤ 18446744073709551615) := ⟨by rw [← hgg, HGV.out.1], by omega, by have := HGV.out.2; omega⟩
    rw [hgg]
    have hh9 : w9.cell? ⟨gy, 0, none⟩ = some (.int .u64 y) := (hb9.cell (p := ⟨gy, 0, none⟩) hylt).trans hyc
    have HB9 : Hid (Below w.heap.size w w9) := Below.after HBD.out hb9
    have hlt9 : gy < w9.heap.size := Nat.lt_of_lt_of_le hylt hb9.size
    clear hgg HGV hHeld
    refine hK.out _ _ hh9 (fun hHeld => ?_)
    clear hK K
    (try simp only [Act.put, List.setIfInBounds_toArray, List.set_cons_zero, List.set_cons_succ])
    refine wpAnyH_ready (rs := [9]) (by kernel_rfl) (by simp) ?_
    refine AllReadyH.cons (by (simp only [List.getElem?_toArray, List.getElem?_cons_succ, List.getElem?_cons_zero]) <;> rfl) (fun K hK => ?_) AllReadyH.nil
    go_simp
    have hrow : RowOf (w9.alloc (.cells #[.int .u64 gg] 49)) w9.heap.size [gg] := by unfold RowOf; rw [heap_alloc_last]; rfl
    have HROW := Lib.hid hrow
    have hhA : (w9.alloc (.cells #[.int .u64 gg] 49)).cell? ⟨gy, 0, none⟩ = some (.int .u64 y) := (((Below.refl w9.heap.size w9).alloc (Nat.le_refl _) _).cell (p := ⟨gy, 0, none⟩) hlt9).trans hh9
    clear hrow hHeld
    refine hK.out _ _ hhA (fun hHeld => ?_)
    clear hK K
    (try simp only [Act.put, List.setIfInBounds_toArray, List.set_cons_zero, List.set_cons_succ])
    (refine takeYes (i := 10) ?_ (by (simp only [List.getElem?_toArray, List.getElem?_cons_succ, List.getElem?_cons_zero]) <;> rfl) (by kernel_rfl) (by kernel_rfl) (by kernel_rfl) (by exact fun _ _ _ h => h) (by rfl) (by assumption) ?_ ?_)
    rotate_left
    · (intro w hSw; (try dsimp only at hSw); go_simp <;> with_reducible rfl)
    (try simp only [Act.put, List.setIfInBounds_toArray, List.set_cons_zero, List.set_cons_succ])
    refine wpAnyH_done (by kernel_rfl) ?_ _
    clear hHeld
    go_wp2
    go_ret
    exact ⟨⟨_, [gg], rfl, HROW.out.digs (by unfold maxLen; simp), fun d hd => by rw [List.mem_singleton.1 hd]; exact HGG.out.2, by rw [val_cons]; simp; exact HGG.out.1, by have := HLEN.out; have := HY.out; simp; omega⟩, HB9.out.alloc (by have := HB9.out.size; exact this) _⟩
theorem Tryz.divisor (v u : Value) (xs ys : List Int) (w : World) (hv : Digs w v xs) (hu : Digs w u ys) (hx : Dig xs) (hy : Dig ys) (tx : Top xs) (ty : Top ys) (hle : val ys ≤ val xs) (hlen : xs.length ≤ 80000) :
    Calls Tryz.prog 152 #[v, u] w fun e w' => DivIs xs ys w' e ∧ Below w.heap.size w w' := by
  by_cases h2 : 2 ≤ ys.length
  · exact Tryz.divisorLong v u xs ys w hv hu hx hy tx ty h2 hle hlen
  · by_cases h0 : ys.length = 0
    · exact Tryz.divisorNone v u xs ys w hv hu hx h0 hlen
    · obtain ⟨y, rfl⟩ := List.length_eq_one_iff.1 (show ys.length = 1 by omega)
      have hvy : val [y] = y := by simp [val_cons]
      have hyd := hy y (by simp)
      have y1 : 1 ≤ y := by
        rcases ty with e | e
        · exact absurd e (by simp)
        · simp at e; omega
      exact Tryz.divisorWord v u xs y w hv hu hx y1 hyd.2 (by rw [hvy] at hle; exact hle) hlen
end Go.Proofs.Wd
