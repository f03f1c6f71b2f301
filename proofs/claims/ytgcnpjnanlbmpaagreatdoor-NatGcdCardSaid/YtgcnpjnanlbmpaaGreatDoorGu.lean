/- What guess of the package nat returns: the quotient of three words by two, downward, or the greatest word where it is past that. -/
import Derived.Test.YtgcnpjnanlbmpaaGreatDoorSr
namespace Go.Proofs.Wd
open Go.RowKit
set_option linter.unusedVariables false
theorem Tryz.DivE (h low y : Int) (w : World) (h0 : 0 ≤ h) (hlt : h < y) (l0 : 0 ≤ low) (l1 : low ≤ 18446744073709551615) (hy1 : y ≤ 18446744073709551615) :
    Calls Tryz.prog 45 #[.int .u64 h, .int .u64 low, .int .u64 y] w fun e w' => e = .returned (.tuple #[.int .u64 ((h * 18446744073709551616 + low) / y), .int .u64 ((h * 18446744073709551616 + low) % y), .bool true]) ∧ w' = w := by
  refine (Tryz.Div h low y w h0 hlt l0 l1 hy1).mono ?_
  rintro e w' ⟨⟨q, r, q0, q1, r0, r1, he, rfl⟩, rfl⟩
  refine ⟨?_, rfl⟩
  have e1 : (h * 18446744073709551616 + low) / y = q := by
    rw [← he, Int.mul_comm, Int.add_comm, Int.add_mul_ediv_left _ _ (by omega), Int.ediv_eq_zero_of_lt r0 r1]; simp
  have e2 : (h * 18446744073709551616 + low) % y = r := by
    rw [← he, Int.mul_comm, Int.add_comm, Int.add_mul_emod_self_left, Int.emod_eq_of_lt r0 r1]
  rw [e1, e2]
/-- What holds at the head of guess's loop: N by yH leaves rest, h and l are the digit by yL. -/
structure GuessAt (yH yL N r0 : Int) (d rest : Int) (over : Bool) (h l : Int) : Prop where
  prod : h * 18446744073709551616 + l = d * yL
  left : d * yH + rest + 18446744073709551616 * cI over = N
  d0 : 0 ≤ d
  d1 : d ≤ 18446744073709551615
  s0 : 0 ≤ rest
  s1 : rest ≤ 18446744073709551615
  h0 : 0 ≤ h
  h1 : h ≤ 18446744073709551615
  l0 : 0 ≤ l
  l1 : l ≤ 18446744073709551615
  most : d = 18446744073709551615 ∨ N * 18446744073709551616 + r0 < (d * yH + yH) * 18446744073709551616 + d * yL + yL
/-- A world behind draws alone. -/
def DrawsOnly (w w' : World) : Prop := ∃ m, w' = w.drewN m
/-- The digit that guess gives. -/
def GuessIs (yH yL N r0 d : Int) : Prop := 0 ≤ d ∧ d ≤ 18446744073709551615 ∧ d * (yH * 18446744073709551616 + yL) ≤ N * 18446744073709551616 + r0 ∧ (d = 18446744073709551615 ∨ N * 18446744073709551616 + r0 < (d + 1) * (yH * 18446744073709551616 + yL))
theorem GuessAt.stop {yH yL N r0 d rest h l : Int} {over : Bool} (H : GuessAt yH yL N r0 d rest over h l) (q0 : 0 ≤ r0) (hs : over = true ∨ (¬ rest < h ∧ ¬ (h = rest ∧ r0 < l))) : GuessIs yH yL N r0 d := by
  obtain ⟨p, q, d0, d1, s0, s1, h0, h1, l0, l1, m⟩ := H
  refine ⟨d0, d1, ?_, ?_⟩
  · rw [Int.mul_add, ← Int.mul_assoc, ← p]
    generalize d * yH = P at *
    cases over with
    | true => simp only [cI, if_true] at q; omega
    | false => simp only [cI, Bool.false_eq_true, if_false] at q; have := hs.resolve_left (by simp); omega
  · refine m.imp id (fun m => ?_)
    rw [Int.add_mul, Int.one_mul, Int.mul_add, ← Int.mul_assoc]
    generalize d * yH = P at *
    generalize d * yL = Q at *
    omega
theorem GuessAt.pos {yH yL N r0 d rest h l : Int} (H : GuessAt yH yL N r0 d rest false h l) (q0 : 0 ≤ r0) (hs : rest < h ∨ (h = rest ∧ r0 < l)) : 1 ≤ d := by
  have p := H.prod
  have d0 := H.d0
  have := H.h0; have := H.l0; have := H.s0
  by_cases e : d = 0
  · subst e; rw [Int.zero_mul] at p; omega
  · omega
theorem GuessAt.step {yH yL N r0 d rest h l s h' l' : Int} {c : Bool} (H : GuessAt yH yL N r0 d rest false h l) (q0 : 0 ≤ r0) (q1 : r0 ≤ 18446744073709551615) (hs : rest < h ∨ (h = rest ∧ r0 < l))
    (ha : s + (if c = true then 18446744073709551616 else 0) = rest + yH + (if false = true then 1 else 0)) (s0 : 0 ≤ s) (s1 : s ≤ 18446744073709551615)
    (hp : (d - 1) * yL = h' * 18446744073709551616 + l') (h0' : 0 ≤ h') (h1' : h' ≤ 18446744073709551615) (l0' : 0 ≤ l') (l1' : l' ≤ 18446744073709551615) :
    GuessAt yH yL N r0 (d - 1) s c h' l' := by
  have hd := H.pos q0 hs
  obtain ⟨p, q, d0, d1, s0', s1', h0, h1, l0, l1, m⟩ := H
  simp only [cI, Bool.false_eq_true, if_false] at q
  have hc : s + 18446744073709551616 * cI c = rest + yH := by unfold cI; cases c <;> simp at ha ⊢ <;> omega
  refine ⟨hp.symm, ?_, by omega, by omega, s0, s1, h0', h1', l0', l1', .inr ?_⟩
  · rw [Int.sub_mul, Int.one_mul]
    generalize d * yH = P at *
    omega
  · rw [Int.sub_mul, Int.sub_mul, Int.one_mul, Int.one_mul, ← q]
    generalize d * yH = P at *
    rw [← p]
    omega
theorem GuessAt.first {yH yL r2 r1 r0 h l : Int} (hlt : r2 < yH) (a0 : 0 ≤ r2) (b0 : 0 ≤ r1) (b1 : r1 ≤ 18446744073709551615) (c1 : r0 ≤ 18446744073709551615) (y0 : 0 ≤ yL) (yH1 : yH ≤ 18446744073709551615)
    (hp : (r2 * 18446744073709551616 + r1) / yH * yL = h * 18446744073709551616 + l) (h0 : 0 ≤ h) (h1 : h ≤ 18446744073709551615) (l0 : 0 ≤ l) (l1 : l ≤ 18446744073709551615) :
    GuessAt yH yL (r2 * 18446744073709551616 + r1) r0 ((r2 * 18446744073709551616 + r1) / yH) ((r2 * 18446744073709551616 + r1) % yH) false h l := by
  have hm0 := Int.emod_nonneg (r2 * 18446744073709551616 + r1) (show yH ≠ 0 by omega)
  have hm1 := Int.emod_lt_of_pos (r2 * 18446744073709551616 + r1) (show 0 < yH by omega)
  have hdm := Int.mul_ediv_add_emod (r2 * 18446744073709551616 + r1) yH
  have hq1 : (r2 * 18446744073709551616 + r1) / yH < 18446744073709551616 := Int.ediv_lt_of_lt_mul (by omega) (by
    have : (r2 + 1) * 18446744073709551616 ≤ yH * 18446744073709551616 := Int.mul_le_mul_of_nonneg_right (by omega) (by omega)
    rw [Int.mul_comm] at this ⊢; omega)
  have hq0 : 0 ≤ (r2 * 18446744073709551616 + r1) / yH := Int.ediv_nonneg (by omega) (by omega)
  generalize r2 * 18446744073709551616 + r1 = N at *
  generalize N / yH = d at *
  generalize N % yH = rest at *
  refine ⟨hp.symm, ?_, hq0, by omega, hm0, by omega, h0, h1, l0, l1, .inr ?_⟩
  · simp only [cI, Bool.false_eq_true, if_false]
    rw [Int.mul_comm]; omega
  · rw [Int.mul_comm d yH]
    generalize yH * d = P at *
    omega
theorem GuessAt.past {yH yL r1 r0 s h l : Int} {c : Bool} (ha : s + (if c = true then 18446744073709551616 else 0) = r1 + yH + (if false = true then 1 else 0)) (s0 : 0 ≤ s) (s1 : s ≤ 18446744073709551615)
    (hp : 18446744073709551615 * yL = h * 18446744073709551616 + l) (h0 : 0 ≤ h) (h1 : h ≤ 18446744073709551615) (l0 : 0 ≤ l) (l1 : l ≤ 18446744073709551615) :
    GuessAt yH yL (yH * 18446744073709551616 + r1) r0 18446744073709551615 s c h l := by
  have hc : s + 18446744073709551616 * cI c = r1 + yH := by unfold cI; cases c <;> simp at ha ⊢ <;> omega
  exact ⟨hp.symm, by omega, by omega, by omega, s0, s1, h0, h1, l0, l1, .inl rfl⟩
set_option maxHeartbeats 4000000 in
set_option maxRecDepth 100000 in
theorem Tryz.guess (gr o cap : Nat) (yH yL r0 r1 r2 : Int) (w : World) (c0 : w.cell? ⟨gr, o, none⟩ = some (.int .u64 r0)) (c1 : w.cell? ⟨gr, o + 1, none⟩ = some (.int .u64 r1)) (c2 : w.cell? ⟨gr, o + 2, none⟩ = some (.int .u64 r2))
    (ho : o ≤ 1000000) (a0 : 0 ≤ r0) (a1 : r0 ≤ 18446744073709551615) (b0 : 0 ≤ r1) (b1 : r1 ≤ 18446744073709551615) (e0 : 0 ≤ r2) (e1 : r2 ≤ yH) (y0 : 0 ≤ yH) (y1 : yH ≤ 18446744073709551615) (z0 : 0 ≤ yL) (z1 : yL ≤ 18446744073709551615) :
    Calls Tryz.prog 185 #[.slice (some ⟨gr, o, none⟩) 3 cap, .int .u64 yH, .int .u64 yL] w fun e w' => (∃ d, e = .returned (.int .u64 d) ∧ GuessIs yH yL (r2 * 18446744073709551616 + r1) r0 d) ∧ DrawsOnly w w' := by
  by_cases hlt : r2 < yH
  · obtain ⟨d, hd⟩ : ∃ d, (r2 * 18446744073709551616 + r1) / yH = d := ⟨_, rfl⟩
    obtain ⟨m, hm⟩ : ∃ m, (r2 * 18446744073709551616 + r1) % yH = m := ⟨_, rfl⟩
    have HF : Hid (∀ h l, d * yL = h * 18446744073709551616 + l → 0 ≤ h → h ≤ 18446744073709551615 → 0 ≤ l → l ≤ 18446744073709551615 → GuessAt yH yL (r2 * 18446744073709551616 + r1) r0 d m false h l) := fun h l hp h0 h1 l0 l1 => by
      subst hd; subst hm
      exact GuessAt.first hlt e0 b0 b1 a1 z0 y1 hp h0 h1 l0 l1
    have HDIV : Hid (∀ w, Calls Tryz.prog 45 #[.int .u64 r2, .int .u64 r1, .int .u64 yH] w fun e w' => e = .returned (.tuple #[.int .u64 d, .int .u64 m, .bool true]) ∧ w' = w) := fun w => by
      rw [← hd, ← hm]; exact Tryz.DivE r2 r1 yH w e0 hlt b0 b1 y1
    have hdb : 0 ≤ d ∧ d ≤ 18446744073709551615 := by
      have hb := HF.out 0 0
      have hq1 : (r2 * 18446744073709551616 + r1) / yH < 18446744073709551616 := Int.ediv_lt_of_lt_mul (by omega) (by
        have : (r2 + 1) * 18446744073709551616 ≤ yH * 18446744073709551616 := Int.mul_le_mul_of_nonneg_right (by omega) (by omega)
        rw [Int.mul_comm] at this ⊢; omega)
      have hq0 : 0 ≤ (r2 * 18446744073709551616 + r1) / yH := Int.ediv_nonneg (by omega) (by omega)
      omega
    obtain ⟨d0, d1⟩ := hdb
    clear hd hm
    go_enter Tryz.func185, Tryz.ntmps185
    go_wp2_with fail
    go_quiet ((go_at_call 45; exact Calls.quiet_of_same (HDIV.out _)))
    --LOOP1
    have HBW : Hid (DrawsOnly w (w.drewN nq)) := ⟨nq, rfl⟩
    go_wp2_with (go_at_call 44; refine (Tryz.Mul d yL _ d0 d1 z0 z1).mono ?_; rintro e w' ⟨⟨h, l, hp, h0, h1, l0, l1, rfl⟩, rfl⟩; have HG : Hid (GuessAt yH yL (r2 * 18446744073709551616 + r1) r0 d m false h l) := HF.out h l hp h0 h1 l0 l1; clear hp)
    go_loop [7, 8, 10, 11, 12] (fun dv sv ov hv lv => ∃ (t s h l : Int) (c : Bool), dv = .int .u64 t ∧ sv = .int .u64 s ∧ ov = .bool c ∧ hv = .int .u64 h ∧ lv = .int .u64 l ∧ GuessAt yH yL (r2 * 18446744073709551616 + r1) r0 t s c h l) (fun dv _ _ _ _ => (intOf dv).toNat)
    case atStart => exact ⟨_, _, _, _, _, rfl, rfl, rfl, rfl, rfl, HG.out⟩
    case round =>
      obtain ⟨t, s, h, l, c, rfl, rfl, rfl, rfl, rfl, hat⟩ := hrel
      have HA : Hid (GuessAt yH yL (r2 * 18446744073709551616 + r1) r0 t s c h l) := hat
      obtain ⟨-, -, d0, d1, s0, s1, h0, h1, l0, l1, -⟩ := hat
      clear HG
      cases c with
      | true =>
        have HE : Hid (GuessIs yH yL (r2 * 18446744073709551616 + r1) r0 t) := HA.out.stop a0 (.inl rfl)
        go_wp2
        all_goals (go_ret; exact ⟨⟨t, rfl, HE.out⟩, HBW.out⟩)
      | false =>
        by_cases g : s < h ∨ (h = s ∧ r0 < l)
        · have HPS : Hid (1 ≤ t) := HA.out.pos a0 g
          have htp := HPS.out
          have HGG : Hid (s < h ∨ (h = s ∧ r0 < l)) := g
          have hwt : IntKind.u64.wrap (t - 1) = t - 1 := by rw [u64w]; omega
          by_cases g1 : s < h
          · have hd1 : decide (s < h) = true := by simpa using g1
            clear g
            go_wp2_with (first
              | (go_at_call 146; refine (Tryz.AddX s yH false _ s0 s1 y0 y1).mono ?_; rintro e w' ⟨⟨s', c', ha, sa0, sa1, rfl⟩, rfl⟩; have HADD : Hid (s' + (if c' = true then 18446744073709551616 else 0) = s + yH + (if false = true then 1 else 0)) := ha; clear ha)
              | (go_at_call 44; refine (Tryz.Mul (t - 1) yL _ (by omega) (by omega) z0 z1).mono ?_; rintro e w' ⟨⟨h', l', hp, hp0, hp1, lp0, lp1, rfl⟩, rfl⟩; have HST : Hid (GuessAt yH yL (r2 * 18446744073709551616 + r1) r0 (t - 1) s' c' h' l') := HA.out.step a0 a1 HGG.out HADD.out sa0 sa1 hp hp0 hp1 lp0 lp1; clear hp))
            all_goals exact ⟨⟨t - 1, s', h', l', c', rfl, rfl, rfl, rfl, rfl, HST.out⟩, by simp [intOf]; omega⟩
          · have g2 : h = s := by omega
            have g3 : r0 < l := by omega
            have HST0 : Hid (∀ s' c' h' l', s' + (if c' = true then 18446744073709551616 else 0) = s + yH + (if false = true then 1 else 0) → 0 ≤ s' → s' ≤ 18446744073709551615 → (t - 1) * yL = h' * 18446744073709551616 + l' → 0 ≤ h' → h' ≤ 18446744073709551615 → 0 ≤ l' → l' ≤ 18446744073709551615 → GuessAt yH yL (r2 * 18446744073709551616 + r1) r0 (t - 1) s' c' h' l') := fun s' c' h' l' q1 q2 q3 q4 q5 q6 q7 q8 => HA.out.step a0 a1 HGG.out q1 q2 q3 q4 q5 q6 q7 q8
            have hd1 : decide (s < h) = false := by simpa using g1
            have hd2 : (h == s) = true := by simpa using g2
            have hd3 : decide (r0 < l) = true := by simpa using g3
            clear g g2
            go_wp2_with (first
              | (go_at_call 146; refine (Tryz.AddX s yH false _ s0 s1 y0 y1).mono ?_; rintro e w' ⟨⟨s', c', ha, sa0, sa1, rfl⟩, rfl⟩; have HADD : Hid (s' + (if c' = true then 18446744073709551616 else 0) = s + yH + (if false = true then 1 else 0)) := ha; clear ha)
              | (go_at_call 44; refine (Tryz.Mul (t - 1) yL _ (by omega) (by omega) z0 z1).mono ?_; rintro e w' ⟨⟨h', l', hp, hp0, hp1, lp0, lp1, rfl⟩, rfl⟩; have HST : Hid (GuessAt yH yL (r2 * 18446744073709551616 + r1) r0 (t - 1) s' c' h' l') := HST0.out _ _ _ _ HADD.out sa0 sa1 hp hp0 hp1 lp0 lp1; clear hp))
            all_goals exact ⟨⟨t - 1, s', h', l', c', rfl, rfl, rfl, rfl, rfl, HST.out⟩, by simp [intOf]; omega⟩
        · have HE : Hid (GuessIs yH yL (r2 * 18446744073709551616 + r1) r0 t) := HA.out.stop a0 (.inr ⟨fun e => g (.inl e), fun e => g (.inr e)⟩)
          have g1 : ¬ s < h := fun e => g (.inl e)
          by_cases g2 : h = s
          · have g3 : ¬ r0 < l := fun e => g (.inr ⟨g2, e⟩)
            have hd1 : decide (s < h) = false := by simpa using g1
            have hd2 : (h == s) = true := by simpa using g2
            have hd3 : decide (r0 < l) = false := by simpa using g3
            clear g g2
            go_wp2
            all_goals (go_ret; exact ⟨⟨t, rfl, HE.out⟩, HBW.out⟩)
          · have g2b : (h == s) = false := by simpa using g2
            have hd1 : decide (s < h) = false := by simpa using g1
            clear g g2
            go_wp2
            all_goals (go_ret; exact ⟨⟨t, rfl, HE.out⟩, HBW.out⟩)
  · have hr2 : r2 = yH := by omega
    subst hr2
    have HDIV : Hid (∀ w, Calls Tryz.prog 45 #[.int .u64 r2, .int .u64 r1, .int .u64 r2] w fun e w' => e = .returned (.tuple #[.int .u64 0, .int .u64 0, .bool false]) ∧ w' = w) := fun w => Tryz.DivNo r2 r1 r2 w e0 (by omega) y1 b0 b1 e0
    go_enter Tryz.func185, Tryz.ntmps185
    go_wp2_with fail
    go_quiet ((go_at_call 45; exact Calls.quiet_of_same (HDIV.out _)))
    have HBW : Hid (DrawsOnly w (w.drewN nq)) := ⟨nq, rfl⟩
    go_wp2_with fail
    refine (Tryz.AddX r1 r2 false _ b0 b1 e0 y1).mono ?_
    rintro e w' ⟨⟨s, c, ha, sa0, sa1, rfl⟩, hw'⟩
    have HADD : Hid (s + (if c = true then 18446744073709551616 else 0) = r1 + r2 + (if false = true then 1 else 0)) := ha
    subst hw'
    clear ha
    go_wp2_with (go_at_call 44; refine (Tryz.Mul 18446744073709551615 yL _ (by omega) (by omega) z0 z1).mono ?_; rintro e w' ⟨⟨h, l, hp, h0, h1, l0, l1, rfl⟩, rfl⟩; have HG : Hid (GuessAt r2 yL (r2 * 18446744073709551616 + r1) r0 18446744073709551615 s c h l) := GuessAt.past HADD.out sa0 sa1 hp h0 h1 l0 l1; clear hp)
    go_loop [7, 8, 10, 11, 12] (fun dv sv ov hv lv => ∃ (t s h l : Int) (c : Bool), dv = .int .u64 t ∧ sv = .int .u64 s ∧ ov = .bool c ∧ hv = .int .u64 h ∧ lv = .int .u64 l ∧ GuessAt r2 yL (r2 * 18446744073709551616 + r1) r0 t s c h l) (fun dv _ _ _ _ => (intOf dv).toNat)
    case atStart => exact ⟨_, _, _, _, _, rfl, rfl, rfl, rfl, rfl, HG.out⟩
    case round =>
      obtain ⟨t, s, h, l, c, rfl, rfl, rfl, rfl, rfl, hat⟩ := hrel
      have HA : Hid (GuessAt r2 yL (r2 * 18446744073709551616 + r1) r0 t s c h l) := hat
      obtain ⟨-, -, d0, d1, s0, s1, h0, h1, l0, l1, -⟩ := hat
      clear HG
      cases c with
      | true =>
        have HE : Hid (GuessIs r2 yL (r2 * 18446744073709551616 + r1) r0 t) := HA.out.stop a0 (.inl rfl)
        go_wp2
        all_goals (go_ret; exact ⟨⟨t, rfl, HE.out⟩, HBW.out⟩)
      | false =>
        by_cases g : s < h ∨ (h = s ∧ r0 < l)
        · have HPS : Hid (1 ≤ t) := HA.out.pos a0 g
          have htp := HPS.out
          have HGG : Hid (s < h ∨ (h = s ∧ r0 < l)) := g
          have hwt : IntKind.u64.wrap (t - 1) = t - 1 := by rw [u64w]; omega
          by_cases g1 : s < h
          · have hd1 : decide (s < h) = true := by simpa using g1
            clear g
            go_wp2_with (first
              | (go_at_call 146; refine (Tryz.AddX s r2 false _ s0 s1 e0 y1).mono ?_; rintro e w' ⟨⟨s', c', ha, sa0, sa1, rfl⟩, rfl⟩; have HADD : Hid (s' + (if c' = true then 18446744073709551616 else 0) = s + r2 + (if false = true then 1 else 0)) := ha; clear ha)
              | (go_at_call 44; refine (Tryz.Mul (t - 1) yL _ (by omega) (by omega) z0 z1).mono ?_; rintro e w' ⟨⟨h', l', hp, hp0, hp1, lp0, lp1, rfl⟩, rfl⟩; have HST : Hid (GuessAt r2 yL (r2 * 18446744073709551616 + r1) r0 (t - 1) s' c' h' l') := HA.out.step a0 a1 HGG.out HADD.out sa0 sa1 hp hp0 hp1 lp0 lp1; clear hp))
            all_goals exact ⟨⟨t - 1, s', h', l', c', rfl, rfl, rfl, rfl, rfl, HST.out⟩, by simp [intOf]; omega⟩
          · have g2 : h = s := by omega
            have g3 : r0 < l := by omega
            have HST0 : Hid (∀ s' c' h' l', s' + (if c' = true then 18446744073709551616 else 0) = s + r2 + (if false = true then 1 else 0) → 0 ≤ s' → s' ≤ 18446744073709551615 → (t - 1) * yL = h' * 18446744073709551616 + l' → 0 ≤ h' → h' ≤ 18446744073709551615 → 0 ≤ l' → l' ≤ 18446744073709551615 → GuessAt r2 yL (r2 * 18446744073709551616 + r1) r0 (t - 1) s' c' h' l') := fun s' c' h' l' q1 q2 q3 q4 q5 q6 q7 q8 => HA.out.step a0 a1 HGG.out q1 q2 q3 q4 q5 q6 q7 q8
            have hd1 : decide (s < h) = false := by simpa using g1
            have hd2 : (h == s) = true := by simpa using g2
            have hd3 : decide (r0 < l) = true := by simpa using g3
            clear g g2
            go_wp2_with (first
              | (go_at_call 146; refine (Tryz.AddX s r2 false _ s0 s1 e0 y1).mono ?_; rintro e w' ⟨⟨s', c', ha, sa0, sa1, rfl⟩, rfl⟩; have HADD : Hid (s' + (if c' = true then 18446744073709551616 else 0) = s + r2 + (if false = true then 1 else 0)) := ha; clear ha)
              | (go_at_call 44; refine (Tryz.Mul (t - 1) yL _ (by omega) (by omega) z0 z1).mono ?_; rintro e w' ⟨⟨h', l', hp, hp0, hp1, lp0, lp1, rfl⟩, rfl⟩; have HST : Hid (GuessAt r2 yL (r2 * 18446744073709551616 + r1) r0 (t - 1) s' c' h' l') := HST0.out _ _ _ _ HADD.out sa0 sa1 hp hp0 hp1 lp0 lp1; clear hp))
            all_goals exact ⟨⟨t - 1, s', h', l', c', rfl, rfl, rfl, rfl, rfl, HST.out⟩, by simp [intOf]; omega⟩
        · have HE : Hid (GuessIs r2 yL (r2 * 18446744073709551616 + r1) r0 t) := HA.out.stop a0 (.inr ⟨fun e => g (.inl e), fun e => g (.inr e)⟩)
          have g1 : ¬ s < h := fun e => g (.inl e)
          by_cases g2 : h = s
          · have g3 : ¬ r0 < l := fun e => g (.inr ⟨g2, e⟩)
            have hd1 : decide (s < h) = false := by simpa using g1
            have hd2 : (h == s) = true := by simpa using g2
            have hd3 : decide (r0 < l) = false := by simpa using g3
            clear g g2
            go_wp2
            all_goals (go_ret; exact ⟨⟨t, rfl, HE.out⟩, HBW.out⟩)
          · have g2b : (h == s) = false := by simpa using g2
            have hd1 : decide (s < h) = false := by simpa using g1
            clear g g2
            go_wp2
            all_goals (go_ret; exact ⟨⟨t, rfl, HE.out⟩, HBW.out⟩)
/-- The digit itself. -/
def gV (yH yL N r0 : Int) : Int := min ((N * 18446744073709551616 + r0) / (yH * 18446744073709551616 + yL)) 18446744073709551615
theorem gV_is {yH yL N r0 : Int} (hD : 0 < yH * 18446744073709551616 + yL) (hN : 0 ≤ N * 18446744073709551616 + r0) : GuessIs yH yL N r0 (gV yH yL N r0) := by
  unfold GuessIs gV
  generalize yH * 18446744073709551616 + yL = D at *
  generalize N * 18446744073709551616 + r0 = M at *
  have h0 : 0 ≤ M / D := Int.ediv_nonneg hN (by omega)
  have h1 : M / D * D ≤ M := Int.ediv_mul_le M (by omega)
  have h2 : M < (M / D + 1) * D := Int.lt_ediv_add_one_mul_self M hD
  by_cases g : M / D ≤ 18446744073709551615
  · rw [Int.min_eq_left g]; exact ⟨h0, g, h1, .inr h2⟩
  · rw [Int.min_eq_right (by omega)]
    refine ⟨by omega, by omega, ?_, .inl rfl⟩
    have : 18446744073709551615 * D ≤ M / D * D := Int.mul_le_mul_of_nonneg_right (by omega) (by omega)
    omega
theorem gV_one {yH yL N r0 d : Int} (hD : 0 < yH * 18446744073709551616 + yL) (h : GuessIs yH yL N r0 d) : d = gV yH yL N r0 := by
  obtain ⟨d0, d1, g1, g2⟩ := h
  unfold gV
  generalize yH * 18446744073709551616 + yL = D at *
  generalize N * 18446744073709551616 + r0 = M at *
  have h1 : d ≤ M / D := (Int.le_ediv_iff_mul_le hD).2 g1
  rcases g2 with rfl | g2
  · rw [Int.min_eq_right h1]
  · have h2 : M / D < d + 1 := Int.ediv_lt_of_lt_mul hD g2
    rw [Int.min_eq_left (by omega)]; omega
theorem Tryz.guessQ (gr o cap : Nat) (yH yL r0 r1 r2 : Int) (w : World) (c0 : w.cell? ⟨gr, o, none⟩ = some (.int .u64 r0)) (c1 : w.cell? ⟨gr, o + 1, none⟩ = some (.int .u64 r1)) (c2 : w.cell? ⟨gr, o + 2, none⟩ = some (.int .u64 r2))
    (ho : o ≤ 1000000) (a0 : 0 ≤ r0) (a1 : r0 ≤ 18446744073709551615) (b0 : 0 ≤ r1) (b1 : r1 ≤ 18446744073709551615) (e0 : 0 ≤ r2) (e1 : r2 ≤ yH) (y0 : 1 ≤ yH) (y1 : yH ≤ 18446744073709551615) (z0 : 0 ≤ yL) (z1 : yL ≤ 18446744073709551615) :
    Calls Tryz.prog 185 #[.slice (some ⟨gr, o, none⟩) 3 cap, .int .u64 yH, .int .u64 yL] w fun e w' => e = .returned (.int .u64 (gV yH yL (r2 * 18446744073709551616 + r1) r0)) ∧ ∃ m, w' = w.drewN m := by
  refine (Tryz.guess gr o cap yH yL r0 r1 r2 w c0 c1 c2 ho a0 a1 b0 b1 e0 e1 (by omega) y1 z0 z1).mono ?_
  rintro e w' ⟨⟨d, rfl, hd⟩, hb⟩
  exact ⟨by rw [gV_one (by omega) hd], hb⟩
end Go.Proofs.Wd
