/- What takeDigit of the package nat does: the walk. -/
import Derived.Test.YtoiihhkafcglhaaGreatDoorLs
import Derived.Test.YtoiihhkafcglhaaGreatDoorRg
import Derived.Lib.ItoaMem
namespace Go.Proofs.Wd
open Go.RowKit
set_option linter.unusedVariables false
theorem grownBy_draw {w w' : World} {row : Option Nat} (h : w.grownBy w' row) : w.grownBy w'.drew row := ⟨h.os, h.tape, h.output, h.size, h.block⟩
theorem grownBy_drewN {w w' : World} {row : Option Nat} (h : w.grownBy w' row) : ∀ n, w.grownBy (w'.drewN n) row
  | 0 => by rw [World.drewN_zero]; exact h
  | n + 1 => by rw [← World.drew_drewN]; exact grownBy_draw (grownBy_drewN h n)
theorem TakeIn.pos {L ys M : List Int} {k n : Nat} {d v : Int} (h : TakeIn L ys k n) (hs : SubTo L ys d k n v M) (hv : M.getD (k + n) 0 < v) (d0 : 0 ≤ d) : 1 ≤ d := by
  obtain ⟨hH, hz⟩ := h.high
  have hln := h.hn
  subst hln
  have hm := hs.mid
  have hw : val (L.drop (k + ys.length)) = M.getD (k + ys.length) 0 := by
    rw [val_drop, hz, hs.rest _ (.inr (Nat.le_refl _))]; simp
  have hb := mid_lt hs.dig k ys.length
  have hH0 := val_nonneg (h.dig.drop k)
  rw [hw] at hm
  generalize val ((M.drop k).take ys.length) = m at *
  generalize M.getD (k + ys.length) 0 = r at *
  have h3 : (18446744073709551616 : Int) ^ ys.length * 1 ≤ 18446744073709551616 ^ ys.length * (v - r) := Int.mul_le_mul_of_nonneg_left (by omega) (by have := pow_pos' ys.length; omega)
  rw [Int.mul_sub, Int.mul_one] at h3
  by_cases e : d = 0
  · subst e; rw [Int.zero_mul] at hm; omega
  · omega
set_option maxHeartbeats 8000000 in
set_option maxRecDepth 100000 in
theorem Tryz.takeDigit (gr k n capr gy capy : Nat) (L ys : List Int) (w : World) (h : TakeIn L ys k n) (hr : RowOf w gr L) (hy : RowAt w gy capy ys) (hne : gy ≠ gr) (hcap : n + 1 ≤ capr) (hcap2 : capr ≤ 1000000) :
    Calls Tryz.prog 158 #[.slice (some ⟨gr, k, none⟩) (n + 1) capr, .slice (some ⟨gy, 0, none⟩) n capy] w fun e w' => (∃ q M, e = .returned (.int .u64 q) ∧ RowOf w' gr M ∧ Taken L ys k q M) ∧ w.grownBy w' (some gr) := by
  have HH : Hid (TakeIn L ys k n) := h
  have HR : Hid (RowOf w gr L) := hr
  have HY : Hid (RowAt w gy capy ys) := hy
  obtain ⟨r0, r1, r2, yH, yL, d, f0, f1, f2, fH, fL, fd, a0, a1, b0, b1, e0, e9, e1, y0, y1, z0, z1, d0, d1, m1, m2⟩ := h.guess
  have hn2 := h.n2
  have hfit := h.fit
  have hmax := h.max
  have hyn := h.hn
  have hf := hy.fits
  have hx := hy.max
  unfold maxLen at hx
  have c0 := hr.cell (j := k + n - 2) (by omega)
  have c1 := hr.cell (j := k + n - 1) (by omega)
  have c2 := hr.cell (j := k + n) (by omega)
  have cH := hy.cells (n - 1) (by omega)
  have cL := hy.cells (n - 2) (by omega)
  have hf2 := hr.frozen (k + n)
  rw [f0] at c0; rw [f1] at c1; rw [f2] at c2; rw [fH] at cH; rw [fL] at cL
  rw [hyn] at hf
  have HM1 : Hid (val (L.drop k) < (d + 1) * val ys) := m1
  have HM2 : Hid ((d - 1) * val ys ≤ val (L.drop k)) := m2
  obtain ⟨p, hp⟩ : ∃ p, n = p + 2 := ⟨n - 2, by omega⟩
  subst hp
  rw [show k + (p + 2) - 2 = k + p by omega] at c0
  rw [show k + (p + 2) - 1 = k + p + 1 by omega] at c1
  rw [show k + (p + 2) = k + p + 2 by omega] at c2 hf2
  rw [show p + 2 - 1 = p + 1 by omega] at cH
  rw [show p + 2 - 2 = p by omega] at cL
  have HG : Hid (∀ W cap, W.cell? ⟨gr, k + p, none⟩ = some (.int .u64 r0) → W.cell? ⟨gr, k + p + 1, none⟩ = some (.int .u64 r1) → W.cell? ⟨gr, k + p + 2, none⟩ = some (.int .u64 r2) → Calls Tryz.prog 201 #[.slice (some ⟨gr, k + p, none⟩) 3 cap, .int .u64 yH, .int .u64 yL] W fun e w' => e = .returned (.int .u64 d) ∧ ∃ m, w' = W.drewN m) := fun W cap q0 q1 q2 => by
    rw [← fd]; exact Tryz.guessQ gr (k + p) cap yH yL r0 r1 r2 W q0 q1 q2 (by omega) a0 a1 b0 b1 e0 e1 y0 y1 z0 z1
  clear h hr hy f0 f1 f2 fH fL fd m1 m2 hyn
  have hw1 : IntKind.i64.wrap ((p : Int) + 2 - 2) = (p : Int) := by rw [show (p : Int) + 2 - 2 = p by omega]; simp [IntKind.wrap, IntKind.signed, IntKind.bits]; omega
  have hw2 : IntKind.i64.wrap ((p : Int) + 2 - 1) = (p : Int) + 1 := by rw [show (p : Int) + 2 - 1 = p + 1 by omega]; simp [IntKind.wrap, IntKind.signed, IntKind.bits]; omega
  have hp1 : (0 : Int) ≤ (p : Int) + 1 := by omega
  have hp2 : (p : Int) < (p : Int) + 2 := by omega
  have hw0 : IntKind.i64.wrap (p : Int) = (p : Int) := by simp [IntKind.wrap, IntKind.signed, IntKind.bits]; omega
  have hsl : ∀ W, (Instr.slice 90 (.slice (some ⟨gr, k, none⟩) (p + 2 + 1) capr) (some (.int .i64 (p : Int))) none none).run Tryz.prog W = .ok (.slice (some ⟨gr, k + p, none⟩) 3 (capr - p)) W := fun W => by
    have h := run_slice_l (P := Tryz.prog) (w := W) 90 (some ⟨gr, k, none⟩) (p + 2 + 1) capr (by simp [Program.elem, Tryz.underlying90]) .i64 (p : Int) (by omega) (by omega)
    rw [h, show Tryz.prog.elem 90 = 49 by simp [Program.elem, Tryz.underlying90], Tryz.sizeOf49]
    show Result.ok (sliced (some ⟨gr, k, none⟩) (p : Int).toNat (p + 2 + 1) capr 1) W = _
    have e : (⟨gr, k, none⟩ : Addr).add (p * 1) = ⟨gr, k + p, none⟩ := by rw [Nat.mul_one]; exact Lib.add_plain gr k p
    unfold sliced
    rw [Int.toNat_natCast, if_neg (by omega), Option.map_some, e, show p + 2 + 1 - p = 3 by omega]
  go_enter Tryz.func158, Tryz.ntmps158
  go_wp2_with fail
  refine wp_region_held_drew (S := (fun w' : World => w'.cell? ⟨gy, p + 1, none⟩ = some (.int .u64 yH) ∧ w'.cell? ⟨gy, p, none⟩ = some (.int .u64 yL) ∧ w'.cell? ⟨gr, k + p, none⟩ = some (.int .u64 r0) ∧ w'.cell? ⟨gr, k + p + 1, none⟩ = some (.int .u64 r1) ∧ w'.cell? ⟨gr, k + p + 2, none⟩ = some (.int .u64 r2))) (by kernel_rfl) ⟨cH, cL, c0, c1, c2⟩ (fun hHeld => ?_)
  (refine takeYes (i := 0) ?_ (by (simp only [List.getElem?_toArray, List.getElem?_cons_zero]) <;> rfl) (by kernel_rfl) (by kernel_rfl) (by kernel_rfl) (by exact fun _ _ _ h => h) (by rfl) (by assumption) ?_ ?_)
  rotate_left
  · (intro w hSw; (try dsimp only at hSw); go_simp <;> with_reducible rfl)
  (try simp only [Act.put, List.setIfInBounds_toArray, List.set_cons_zero, List.set_cons_succ])
  (refine takeYes (i := 1) ?_ (by (simp only [List.getElem?_toArray, List.getElem?_cons_succ, List.getElem?_cons_zero]) <;> rfl) (by kernel_rfl) (by kernel_rfl) (by kernel_rfl) (by exact fun _ _ _ h => h) (by rfl) (by assumption) ?_ ?_)
  rotate_left
  · (intro w hSw; (try dsimp only at hSw); go_simp <;> with_reducible rfl)
  (try simp only [Act.put, List.setIfInBounds_toArray, List.set_cons_zero, List.set_cons_succ])
  (refine takeYes (i := 2) ?_ (by (simp only [List.getElem?_toArray, List.getElem?_cons_succ, List.getElem?_cons_zero]) <;> rfl) (by kernel_rfl) (by kernel_rfl) (by kernel_rfl) (by exact fun _ _ _ h => h) (by rfl) (by assumption) ?_ ?_)
  rotate_left
  · (intro w hSw; (try dsimp only at hSw); go_simp <;> with_reducible rfl)
  (try simp only [Act.put, List.setIfInBounds_toArray, List.set_cons_zero, List.set_cons_succ])
  (refine takeYes (i := 3) ?_ (by (simp only [List.getElem?_toArray, List.getElem?_cons_succ, List.getElem?_cons_zero]) <;> rfl) (by kernel_rfl) (by kernel_rfl) (by kernel_rfl) (by exact fun _ _ _ h => h) (by rfl) (by assumption) ?_ ?_)
  rotate_left
  · (intro w hSw; (try dsimp only at hSw); go_simp <;> with_reducible rfl)
  (try simp only [Act.put, List.setIfInBounds_toArray, List.set_cons_zero, List.set_cons_succ])
  (refine takeYes (i := 4) ?_ (by (simp only [List.getElem?_toArray, List.getElem?_cons_succ, List.getElem?_cons_zero]) <;> rfl) (by kernel_rfl) (by kernel_rfl) (by kernel_rfl) (by exact fun _ _ _ h => h) (by rfl) (by assumption) ?_ ?_)
  rotate_left
  · (intro w hSw; (try dsimp only at hSw); go_simp <;> with_reducible rfl)
  (try simp only [Act.put, List.setIfInBounds_toArray, List.set_cons_zero, List.set_cons_succ])
  (refine takeYes (i := 5) ?_ (by (simp only [List.getElem?_toArray, List.getElem?_cons_succ, List.getElem?_cons_zero]) <;> rfl) (by kernel_rfl) (by kernel_rfl) (by kernel_rfl) (by exact fun _ _ _ h => h) (by rfl) (by assumption) ?_ ?_)
  rotate_left
  · (intro w hSw; (try dsimp only at hSw); go_simp <;> with_reducible rfl)
  (try simp only [Act.put, List.setIfInBounds_toArray, List.set_cons_zero, List.set_cons_succ])
  (refine takeYes (i := 6) ?_ (by (simp only [List.getElem?_toArray, List.getElem?_cons_succ, List.getElem?_cons_zero]) <;> rfl) (by kernel_rfl) (by kernel_rfl) (by kernel_rfl) (by exact fun _ _ _ h => h) (by rfl) (by assumption) ?_ ?_)
  rotate_left
  · (intro w hSw; (try dsimp only at hSw); go_simp <;> with_reducible rfl)
  (try simp only [Act.put, List.setIfInBounds_toArray, List.set_cons_zero, List.set_cons_succ])
  (refine takeYes (i := 7) ?_ (by (simp only [List.getElem?_toArray, List.getElem?_cons_succ, List.getElem?_cons_zero]) <;> rfl) (by kernel_rfl) (by kernel_rfl) (by kernel_rfl) (by exact fun _ _ _ h => h) (by rfl) (by assumption) ?_ ?_)
  rotate_left
  · (intro w hSw; (try dsimp only at hSw); go_simp <;> with_reducible rfl)
  (try simp only [Act.put, List.setIfInBounds_toArray, List.set_cons_zero, List.set_cons_succ])
  (refine takeYes (i := 8) ?_ (by (simp only [List.getElem?_toArray, List.getElem?_cons_succ, List.getElem?_cons_zero]) <;> rfl) (by kernel_rfl) (by kernel_rfl) (by kernel_rfl) (by exact fun _ _ _ h => h) (by rfl) (by assumption) ?_ ?_)
  rotate_left
  · (intro w hSw; (try dsimp only at hSw); go_simp <;> with_reducible rfl)
  (try simp only [Act.put, List.setIfInBounds_toArray, List.set_cons_zero, List.set_cons_succ])
  (refine takeYes (i := 9) ?_ (by (simp only [List.getElem?_toArray, List.getElem?_cons_succ, List.getElem?_cons_zero]) <;> rfl) (by kernel_rfl) (by kernel_rfl) (by kernel_rfl) (by exact fun _ _ _ h => h) (by rfl) (by assumption) ?_ ?_)
  rotate_left
  · (intro w hSw; (try dsimp only at hSw); go_simp <;> with_reducible rfl)
  (try simp only [Act.put, List.setIfInBounds_toArray, List.set_cons_zero, List.set_cons_succ])
  (refine takeYes (i := 10) ?_ (by (simp only [List.getElem?_toArray, List.getElem?_cons_succ, List.getElem?_cons_zero]) <;> rfl) (by kernel_rfl) (by kernel_rfl) (by kernel_rfl) (by exact fun _ _ _ h => h) (by rfl) (by assumption) ?_ ?_)
  rotate_left
  · (intro w hSw; (try dsimp only at hSw); go_simp <;> with_reducible rfl)
  (try simp only [Act.put, List.setIfInBounds_toArray, List.set_cons_zero, List.set_cons_succ])
  (refine takeYes (i := 11) ?_ (by (simp only [List.getElem?_toArray, List.getElem?_cons_succ, List.getElem?_cons_zero]) <;> rfl) (by kernel_rfl) (by kernel_rfl) (by kernel_rfl) (by exact fun _ _ _ h => h) (by rfl) (by assumption) ?_ ?_)
  rotate_left
  · (intro w hSw; (try dsimp only at hSw); go_simp <;> with_reducible rfl)
  (try simp only [Act.put, List.setIfInBounds_toArray, List.set_cons_zero, List.set_cons_succ])
  (refine takeYes (i := 12) ?_ (by (simp only [List.getElem?_toArray, List.getElem?_cons_succ, List.getElem?_cons_zero]) <;> rfl) (by kernel_rfl) (by kernel_rfl) (by kernel_rfl) (by exact fun _ _ _ h => h) (by rfl) (by assumption) ?_ ?_)
  rotate_left
  · (intro w hSw; (try dsimp only at hSw); go_simp <;> with_reducible rfl)
  (try simp only [Act.put, List.setIfInBounds_toArray, List.set_cons_zero, List.set_cons_succ])
  (refine takeYes (i := 13) ?_ (by (simp only [List.getElem?_toArray, List.getElem?_cons_succ, List.getElem?_cons_zero]) <;> rfl) (by kernel_rfl) (by kernel_rfl) (by kernel_rfl) (by exact fun _ _ _ h => h) (by rfl) (by assumption) ?_ ?_)
  rotate_left
  · (intro w hSw; (try dsimp only at hSw); go_simp <;> with_reducible rfl)
  (try simp only [Act.put, List.setIfInBounds_toArray, List.set_cons_zero, List.set_cons_succ])
  refine wpAnyH_ready (rs := [14]) (by kernel_rfl) (by simp) ?_
  refine AllReadyH.cons (by (simp only [List.getElem?_toArray, List.getElem?_cons_succ, List.getElem?_cons_zero]) <;> rfl) (fun K hK => ?_) AllReadyH.nil
  go_simp
  go_at_call 201
  refine (HG.out w.drew _ c0 c1 c2).mono ?_
  rintro e w2 ⟨rfl, m, hw2⟩
  have HR2 : Hid (RowOf w2 gr L) := by show RowOf _ _ _; rw [hw2]; exact RowOf.drewN (RowOf.drew HR.out) m
  have HG2 : Hid (w.grownBy w2 (some gr)) := by
    show World.grownBy _ _ _
    rw [hw2]; exact grownBy_drewN (grownBy_draw (grownBy_refl w _)) m
  have hh2 : w2.cell? ⟨gy, p + 1, none⟩ = some (.int .u64 yH) ∧ w2.cell? ⟨gy, p, none⟩ = some (.int .u64 yL) ∧ w2.cell? ⟨gr, k + p, none⟩ = some (.int .u64 r0) ∧ w2.cell? ⟨gr, k + p + 1, none⟩ = some (.int .u64 r1) ∧ w2.cell? ⟨gr, k + p + 2, none⟩ = some (.int .u64 r2) := by
    rw [hw2]; simp only [World.cell?_drewN]; exact ⟨cH, cL, c0, c1, c2⟩
  clear hHeld hw2
  refine hK.out _ _ hh2 (fun hHeld => ?_)
  clear hK K hh2
  (try simp only [Act.put, List.setIfInBounds_toArray, List.set_cons_zero, List.set_cons_succ])
  (refine takeYes (i := 15) ?_ (by (simp only [List.getElem?_toArray, List.getElem?_cons_succ, List.getElem?_cons_zero]) <;> rfl) (by kernel_rfl) (by kernel_rfl) (by kernel_rfl) (by exact fun _ _ _ h => h) (by rfl) (by assumption) ?_ ?_)
  rotate_left
  · (intro w hSw; (try dsimp only at hSw); go_simp <;> with_reducible rfl)
  (try simp only [Act.put, List.setIfInBounds_toArray, List.set_cons_zero, List.set_cons_succ])
  refine wpAnyH_done (by kernel_rfl) ?_ _
  clear hHeld
  have hylen : ys.length = p + 2 := HH.out.hn
  have HYL : Hid (ys.length = p + 2) := hylen
  have HRY : Hid (∀ W, w.grownBy W (some gr) → RowAt W gy capy ys) := fun W hW => ⟨by have := hW.size; have := HY.out.lt; omega, HY.out.fits, HY.out.max, fun j hj => hW.cell (HY.out.cells j hj) (by simp; omega)⟩
  have HSUB := Tryz.subRow gr k capr L ys (some ⟨gy, 0, none⟩) capy d w2 HR2.out HH.out.dig (by have := HH.out.fit; omega) HH.out.max HH.out.ydig (fun _ => ⟨gy, rfl, hne, HRY.out w2 HG2.out⟩) d0 d1
  rw [hylen] at HSUB
  clear hylen c0 c1 c2 cH cL hf2 HG
  go_wp2_with fail
  with_reducible refine HSUB.mono ?_
  clear HSUB
  rintro e w3 ⟨⟨M, v, rfl, hr3, hs3⟩, hg3⟩
  have HR3 : Hid (RowOf w3 gr M) := hr3
  have HS3 : Hid (SubTo L ys d k (p + 2) v M) := hs3
  have HG3 : Hid (w.grownBy w3 (some gr)) := ⟨hg3.os.trans HG2.out.os, hg3.tape.trans HG2.out.tape, hg3.output.trans HG2.out.output, Nat.le_trans HG2.out.size hg3.size, fun j hj hne => (hg3.block j (by have := HG2.out.size; omega) hne).trans (HG2.out.block j hj hne)⟩
  obtain ⟨x, hx⟩ : ∃ x, M.getD (k + (p + 2)) 0 = x := ⟨_, rfl⟩
  have hml := hs3.len
  have cx := hr3.cell (j := k + (p + 2)) (by omega)
  have hfx := hr3.frozen (k + (p + 2))
  rw [hx] at cx
  have HX : Hid (M.getD (k + (p + 2)) 0 = x) := hx
  clear hr3 hs3 hg3 hx hml
  by_cases hc : x < v
  · have hd1 : decide (x < v) = true := by simpa using hc
    have HADD := Tryz.addTo gr k capr M ys (some ⟨gy, 0, none⟩) capy w3 HR3.out HS3.out.dig (by have := HS3.out.len; have := HH.out.fit; have := HYL.out; omega) (by have := HS3.out.len; have := HH.out.max; omega) HH.out.ydig (fun _ => ⟨gy, rfl, hne, HRY.out w3 HG3.out⟩)
    rw [HYL.out] at HADD
    have hdp : 1 ≤ d := HH.out.pos HS3.out (by rw [HX.out]; exact hc) d0
    have hwd : IntKind.u64.wrap (d - 1) = d - 1 := by rw [u64w]; omega
    go_wp2_with fail
    with_reducible refine HADD.mono ?_
    clear HADD
    rintro e w4 ⟨⟨K, c, rfl, hr4, ha4⟩, hg4⟩
    have HR4 : Hid (RowOf w4 gr K) := hr4
    have HTK : Hid (Taken L ys k (d - 1) (K.set (k + (p + 2)) 0)) := (HH.out.over HS3.out (by rw [HX.out]; exact hc) ha4 d0 d1 HM2.out).2
    have HG4 : Hid (w.grownBy w4 (some gr)) := ⟨hg4.os.trans HG3.out.os, hg4.tape.trans HG3.out.tape, hg4.output.trans HG3.out.output, Nat.le_trans HG3.out.size hg4.size, fun j hj hne => (hg4.block j (by have := HG3.out.size; omega) hne).trans (HG3.out.block j hj hne)⟩
    obtain ⟨x4, hx4⟩ : ∃ x4, K.getD (k + (p + 2)) 0 = x4 := ⟨_, rfl⟩
    have cx4 := hr4.cell (j := k + (p + 2)) (by rw [ha4.len, HS3.out.len]; omega)
    have hfx4 := hr4.frozen (k + (p + 2))
    rw [hx4] at cx4
    clear hr4 ha4 hg4 hx4 cx hfx
    go_wp2
    go_ret
    exact ⟨⟨d - 1, _, rfl, HR4.out.set _ _, HTK.out⟩, grownBy_set HG4.out _ none _⟩
  · have hd1 : decide (x < v) = false := by simpa using hc
    have HTK : Hid (Taken L ys k d (M.set (k + (p + 2)) 0)) := HH.out.fits HS3.out (by rw [HX.out]; exact hc) d0 d1 HM1.out
    go_wp2
    go_ret
    exact ⟨⟨d, _, rfl, HR3.out.set _ _, HTK.out⟩, grownBy_set HG3.out _ none _⟩
end Go.Proofs.Wd
