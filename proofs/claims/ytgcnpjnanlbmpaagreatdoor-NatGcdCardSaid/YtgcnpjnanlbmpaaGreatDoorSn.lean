/- What shortened of the package nat returns: two rests with the same divisors, the second of one word or none. -/
import Derived.Test.YtgcnpjnanlbmpaaGreatDoorSh
import Derived.Lib.Hide
namespace Go.Proofs.Wd
open Go.RowKit
set_option linter.unusedVariables false
/-- Rows without a nought on top that hold one number are as long as each other. -/
theorem top_len {a b : List Int} (ha : Dig a) (hb : Dig b) (ta : Top a) (tb : Top b) (h : val a = val b) : a.length = b.length := by
  have key : ∀ {c d : List Int}, Dig c → Dig d → Top d → val c = val d → d.length ≤ c.length := by
    intro c d hc hd td e
    by_cases h0 : d = []
    · subst h0; simp
    · have h1 := top_pos hd td h0
      have h2 := val_lt hc
      by_cases g : d.length ≤ c.length
      · exact g
      · have := pow_mono' (i := c.length) (j := d.length - 1) (by omega)
        omega
  exact Nat.le_antisymm (key hb ha ta h.symm) (key ha hb tb h)
theorem top_one {a : List Int} {n : Nat} (t : Top a) (hd : Dig a) (hl : a.length = n + 2) : 1 ≤ a.getD (n + 1) 0 := by
  rcases t with e | e
  · rw [e] at hl; simp at hl
  · rw [hl, show n + 2 - 1 = n + 1 by omega] at e
    have := hd.get (n + 1)
    omega
set_option maxHeartbeats 8000000 in
set_option maxRecDepth 100000 in
theorem Tryz.shortened (v u : Value) (xs ys : List Int) (w : World) (hv : Digs w v xs) (hu : Digs w u ys) (hx : Dig xs) (hy : Dig ys) (tx : Top xs) (ty : Top ys) (hlen : xs.length ≤ 80000) (h2 : 2 ≤ ys.length) (hle : val ys ≤ val xs) :
    Calls Tryz.prog 132 #[v, u] w fun e w' => (∃ p q P Q, e = .returned (.tuple #[p, q]) ∧ Digs w' p P ∧ Digs w' q Q ∧ Dig P ∧ Dig Q ∧ Top P ∧ Top Q ∧ Int.gcd (val P) (val Q) = Int.gcd (val xs) (val ys) ∧ val Q ≤ val P ∧ Q.length ≤ 1 ∧ P.length ≤ xs.length) ∧ Below w.heap.size w w' := by
  obtain ⟨i0, hi, hz0, hz1, hz2⟩ := info_parts Tryz.info22
  have hx2 := two_words hx hy ty h2 hle
  obtain ⟨p, cap, rfl, hxl, hxr⟩ := hv.slice
  obtain ⟨m, hm⟩ : ∃ m, xs.length = m := ⟨_, rfl⟩
  have HM : Hid (xs.length = m) := hm
  have HV : Hid (Digs w (.slice p xs.length cap) xs) := hv
  have HU : Hid (Digs w u ys) := hu
  have HX : Hid (Dig xs) := hx
  have HY : Hid (Dig ys) := hy
  have HLE : Hid (val ys ≤ val xs) := hle
  have HXB : Hid (val xs < 18446744073709551616 ^ m) := show val xs < _ by rw [← hm]; exact val_lt hx
  rw [hm] at hlen hx2 hxl HV
  rw [hm]
  obtain ⟨G, hG⟩ : ∃ G, Int.gcd (val xs) (val ys) = G := ⟨_, rfl⟩
  have HG : Hid (Int.gcd (val xs) (val ys) = G) := hG
  rw [hG]
  clear hv hu hx hy tx ty hle hxr hm h2 hG
  go_enter Tryz.func132, Tryz.ntmps132
  go_wp2_with fail
  with_reducible refine (Tryz.widened _ xs m _ HV.out HX.out (by omega)).mono ?_
  rintro e w1 ⟨⟨Mx, rfl, hr1, hd1, hl1, hv1⟩, hb1⟩
  have HR1 : Hid (Buf w w1 (.slice (some ⟨w.heap.size, 0, none⟩) m m) w.heap.size m m Mx) := ⟨rfl, hr1, hl1, Nat.le_refl _, by omega, hd1, Nat.le_refl _⟩
  have HV1 : Hid (val Mx = val xs) := hv1 HXB.out
  have HU1 : Hid (Digs w1 u ys) := HU.out.below hb1 (Nat.le_refl _)
  have HB1 : Hid (Below w.heap.size w w1) := hb1
  have HSZ : Hid (w.heap.size < w1.heap.size) := hr1.lt
  clear hr1 hd1 hl1 hv1 hb1 HV HU
  go_wp2_with fail
  with_reducible refine (Tryz.widened u ys m _ HU1.out HY.out (by omega)).mono ?_
  rintro e w2 ⟨⟨My, rfl, hr2, hd2, hl2, hv2⟩, hb2⟩
  have HBX : Hid (Buf w w2 (.slice (some ⟨w.heap.size, 0, none⟩) m m) w.heap.size m m Mx) := HR1.out.below hb2
  have HBY : Hid (Buf w w2 (.slice (some ⟨w1.heap.size, 0, none⟩) m m) w1.heap.size m m My) := ⟨rfl, hr2, hl2, Nat.le_refl _, by omega, hd2, HB1.out.size⟩
  have HVY : Hid (val My = val ys) := hv2 (Int.lt_of_le_of_lt HLE.out HXB.out)
  have HB2 : Hid (Below w.heap.size w w2) := Below.after HB1.out hb2
  have HSZ2 : Hid (w1.heap.size < w2.heap.size) := hr2.lt
  clear hr2 hd2 hl2 hv2 hb2 HU1 HR1
  have hmk := run_make_row' (P := Tryz.prog) 86 22 (.int .u64 0) 8 Tryz.underlying86 Tryz.info22 rfl .i64 .i64 m (by omega) (by omega)
  go_wp2
  have HA : Hid (RowOf ((w2.alloc (.cells (madeCells #[.int .u64 0] m) 22)).alloc (.cells (madeCells #[.int .u64 0] m) 22)).drew w2.heap.size (List.replicate m 0)) := ((RowOf.of_alloc w2 m).alloc _).drew
  have HC : Hid (RowOf ((w2.alloc (.cells (madeCells #[.int .u64 0] m) 22)).alloc (.cells (madeCells #[.int .u64 0] m) 22)).drew (w2.heap.size + 1) (List.replicate m 0)) := by
    have h := RowOf.of_alloc (w2.alloc (.cells (madeCells #[.int .u64 0] m) 22)) m
    rw [show (w2.alloc (.cells (madeCells #[.int .u64 0] m) 22)).heap.size = w2.heap.size + 1 by simp] at h
    exact h.drew
  have HB3 : Hid (Below w2.heap.size w2 ((w2.alloc (.cells (madeCells #[.int .u64 0] m) 22)).alloc (.cells (madeCells #[.int .u64 0] m) 22)).drew) := (((Below.refl _ _).alloc (Nat.le_refl _) _).alloc (by simp) _).drew
  go_region
  all_goals (
    generalize ((w2.alloc (.cells (madeCells #[.int .u64 0] m) 22)).alloc (.cells (madeCells #[.int .u64 0] m) 22)).drew = w3 at *
    have HZD : Hid (Dig (List.replicate m 0)) := (show Dig (List.replicate m 0) from fun d hd => by rw [(List.mem_replicate.1 hd).2]; omega)
    have HT : Hid (Mx.take m = Mx ∧ My.take m = My) := ⟨List.take_of_length_le (by have := HBX.out.len; omega), List.take_of_length_le (by have := HBY.out.len; omega)⟩
    have HSA : Hid (∀ {g g' : Nat}, RowOf w3 g (List.replicate m 0) → RowOf w3 g' (List.replicate m 0) → w1.heap.size < g → w1.heap.size < g' → g ≠ g' → ShAt w w3 (.slice (some ⟨w.heap.size, 0, none⟩) m m) (.slice (some ⟨w1.heap.size, 0, none⟩) m m) (.slice (some ⟨g, 0, none⟩) m m) (.slice (some ⟨g', 0, none⟩) m m) m w.heap.size w1.heap.size g g' m m m m Mx My (List.replicate m 0) (List.replicate m 0) G) := by
      intro g g' hg hg' l1 l2 hne
      have hsz := HSZ.out
      exact ⟨HBX.out.below HB3.out, HBY.out.below HB3.out, ⟨rfl, hg, by simp, Nat.le_refl _, by omega, HZD.out, by omega⟩, ⟨rfl, hg', by simp, Nat.le_refl _, by omega, HZD.out, by omega⟩, by omega, by omega, by omega, by omega, by omega, hne, by rw [HT.out.1, HT.out.2, HVY.out, HV1.out]; exact HLE.out, by rw [HT.out.1, HT.out.2, HVY.out, HV1.out]; exact HG.out, Below.after HB2.out HB3.out⟩
    have HST : Hid (ShAt w w3 (.slice (some ⟨w.heap.size, 0, none⟩) m m) (.slice (some ⟨w1.heap.size, 0, none⟩) m m) (.slice (some ⟨w2.heap.size, 0, none⟩) m m) (.slice (some ⟨w2.heap.size + 1, 0, none⟩) m m) m w.heap.size w1.heap.size w2.heap.size (w2.heap.size + 1) m m m m Mx My (List.replicate m 0) (List.replicate m 0) G) := HSA.out HA.out HC.out HSZ2.out (by have := HSZ2.out; omega) (by omega)
    have HTS : Hid (ShAt w w3 (.slice (some ⟨w.heap.size, 0, none⟩) m m) (.slice (some ⟨w1.heap.size, 0, none⟩) m m) (.slice (some ⟨w2.heap.size + 1, 0, none⟩) m m) (.slice (some ⟨w2.heap.size, 0, none⟩) m m) m w.heap.size w1.heap.size (w2.heap.size + 1) w2.heap.size m m m m Mx My (List.replicate m 0) (List.replicate m 0) G) := HSA.out HC.out HA.out (by have := HSZ2.out; omega) HSZ2.out (by omega)
    clear HSA HZD HT HA HC HB3 HBX HBY HV1 HVY HB1 HB2 HSZ HSZ2 HLE HX HY HXB HG hmk hi hz0 hz1 hz2
    go_wp2
    go_loopw [0, 1, 6, 7] (fun xv yv sv tv wr => ∃ l gx gy gs gt cx cy cs ct Lx Ly Ls Lt, l ≤ m ∧ ShAt w wr xv yv sv tv l gx gy gs gt cx cy cs ct Lx Ly Ls Lt G) (fun _ yv _ _ wr => rowVal wr yv)
    case atStart => first | exact ⟨m, _, _, _, _, _, _, _, _, _, _, _, _, Nat.le_refl _, HST.out⟩ | exact ⟨m, _, _, _, _, _, _, _, _, _, _, _, _, Nat.le_refl _, HTS.out⟩
    case round =>
      clear HST HTS
      obtain ⟨l, gx, gy, gs, gt, cx, cy, cs, ct, Lx, Ly, Ls, Lt, hlm, hat⟩ := hrel
      obtain rfl := hat.x.is
      obtain rfl := hat.y.is
      obtain rfl := hat.s.is
      obtain rfl := hat.t.is
      have HAT := Lib.hid hat
      clear hat
      go_wp2_with fail
      with_reducible refine (HAT.out.y.trims).mono ?_
      rintro e w4 ⟨⟨ky, rfl, hky, tky, vky⟩, rfl⟩
      have HKY : Hid (Top (Ly.take ky) ∧ val (Ly.take ky) = val (Ly.take l)) := ⟨tky, vky⟩
      clear tky vky
      by_cases hk1 : ky ≤ 1
      · go_wp2_with fail
        with_reducible refine (HAT.out.x.trims).mono ?_
        rintro e w5 ⟨⟨kx, rfl, hkx, tkx, vkx⟩, rfl⟩
        have HKX : Hid (Top (Lx.take kx) ∧ val (Lx.take kx) = val (Lx.take l)) := ⟨tkx, vkx⟩
        clear tkx vkx
        go_wp2_with fail
        with_reducible refine (HAT.out.y.trims).mono ?_
        rintro e w6 ⟨⟨ky2, rfl, hky2, tky2, vky2⟩, rfl⟩
        have HKY2 : Hid (Top (Ly.take ky2) ∧ val (Ly.take ky2) = val (Ly.take l)) := ⟨tky2, vky2⟩
        clear tky2 vky2
        go_wp2
        go_ret2
        have hlen2 := top_len (HAT.out.y.dig.take ky2) (HAT.out.y.dig.take ky) HKY2.out.1 HKY.out.1 (by rw [HKY2.out.2, HKY.out.2])
        rw [List.length_take, List.length_take] at hlen2
        have hylen := HAT.out.y.len
        have hyle := HAT.out.y.le
        exact ⟨⟨_, _, Lx.take kx, Ly.take ky2, rfl, (HAT.out.x.cut hkx).digs, (HAT.out.y.cut hky2).digs, HAT.out.x.dig.take kx, HAT.out.y.dig.take ky2, HKX.out.1, HKY2.out.1, by rw [HKX.out.2, HKY2.out.2]; exact HAT.out.gcd, by rw [HKX.out.2, HKY2.out.2]; exact HAT.out.le, by rw [List.length_take]; omega, by rw [List.length_take]; omega⟩, HAT.out.below⟩
      · go_wp2_with fail
        with_reducible refine (HAT.out.x.trims).mono ?_
        rintro e w5 ⟨⟨n, rfl, hn, tn, vn⟩, rfl⟩
        have hyl2 : (Ly.take ky).length = ky := by rw [List.length_take, HAT.out.y.len]; have := HAT.out.y.le; omega
        have hxl2 : (Lx.take n).length = n := by rw [List.length_take, HAT.out.x.len]; have := HAT.out.x.le; omega
        have hn2 := two_words (HAT.out.x.dig.take n) (HAT.out.y.dig.take ky) HKY.out.1 (by rw [hyl2]; omega) (by rw [HKY.out.2, vn]; exact HAT.out.le)
        rw [hxl2] at hn2
        have hcut := HAT.out.cutAll hn (by rw [← vn]; exact take_lt HAT.out.x.dig n)
        have HCUT := Lib.hid hcut.1
        have HEX : Hid (val (Lx.take n) = val (Lx.take l)) := hcut.2.1
        have HEY : Hid (val (Ly.take n) = val (Ly.take l)) := hcut.2.2
        have HTN : Hid (Top (Lx.take n)) := tn
        have hcx := HAT.out.x.le
        have hcy := HAT.out.y.le
        have hcs := HAT.out.s.le
        have hct := HAT.out.t.le
        have HRV : Hid (rowVal w5 (.slice (some ⟨gy, 0, none⟩) l cy) = (val (Ly.take l)).toNat) := rowVal_row HAT.out.y.row
        have HPOS : Hid (0 < val (Ly.take n)) := by
          have h1 := top_pos (HAT.out.y.dig.take ky) HKY.out.1 (fun e => by rw [e] at hyl2; simp at hyl2; omega)
          have h2 := pow_pos' ((Ly.take ky).length - 1)
          have h3 := HEY.out
          have h4 := HKY.out.2
          show 0 < val (Ly.take n)
          omega
        obtain ⟨j, rfl⟩ : ∃ j, n = j + 2 := ⟨n - 2, by omega⟩
        clear hcut tn vn hyl2 hxl2 hn2
        go_wp2_with fail
        go_quiet (fail)
        have HD := Lib.hid (HCUT.out.drewN nq)
        generalize w5.drewN nq = w7 at *
        clear HCUT HAT
        go_wp2_with fail
        with_reducible refine (Tryz.foresee gx cx gy cy j (Lx.take (j + 2)) (Ly.take (j + 2)) w7 HD.out.x.at HD.out.y.at HD.out.x.tl HD.out.y.tl (HD.out.x.dig.take _) (HD.out.y.dig.take _) (by omega) (top_one HTN.out (HD.out.x.dig.take _) HD.out.x.tl) HD.out.le).mono ?_
        rintro e w8 ⟨⟨u0, v0, u1, v1, q, rfl, a0, a1, b0, b1, c0, c1, d0, d1, hg⟩, hb8⟩
        have HGD := Lib.hid hg
        have HD8 := Lib.hid (HD.out.later hb8)
        have HD9 := Lib.hid (HD8.out.later (((Below.refl w8.heap.size w8).alloc (Nat.le_refl _) (.cells #[.int .u64 u0, .int .u64 v0] 216)).alloc (by simp) (.cells #[.int .u64 u1, .int .u64 v1] 216)))
        have HC1 : Hid (ShOf ((w8.alloc (.cells #[.int .u64 u0, .int .u64 v0] 216)).alloc (.cells #[.int .u64 u1, .int .u64 v1] 216)) (w8.heap.size + 1) u1 v1) := by
          have h := ShOf.new (w8.alloc (.cells #[.int .u64 u0, .int .u64 v0] 216)) u1 v1
          rw [show (w8.alloc (.cells #[.int .u64 u0, .int .u64 v0] 216)).heap.size = w8.heap.size + 1 by simp] at h
          exact h
        have hbs : gs < w8.heap.size := HD8.out.s.row.lt
        have hcast : ((j + 2 : Nat) : Int) = (j : Int) + 2 := by omega
        clear hg hb8 HD
        by_cases hv0 : v0 = 0
        · subst hv0
          go_wp2_with fail
          generalize ((w8.alloc (.cells #[.int .u64 u0, .int .u64 0] 216)).alloc (.cells #[.int .u64 u1, .int .u64 v1] 216)) = w9 at *
          clear HC1 HD8 HGD
          with_reducible refine (HD9.out.y.trims).mono ?_
          rintro e w10 ⟨⟨k3, rfl, hk3, tk3, vk3⟩, rfl⟩
          have HK3 : Hid (Top (Ly.take k3) ∧ val (Ly.take k3) = val (Ly.take (j + 2))) := ⟨tk3, vk3⟩
          clear tk3 vk3
          go_wp2_with fail
          with_reducible refine (Tryz.quotient _ _ (Lx.take (j + 2)) (Ly.take k3) w10 HD9.out.x.digs (HD9.out.y.cut hk3).digs (HD9.out.x.dig.take _) (HD9.out.y.dig.take _) HTN.out HK3.out.1 (by have := HD9.out.x.tl; omega) (fun e => by have h1 := HK3.out.2; have h2 := HPOS.out; rw [e] at h1; simp at h1; omega)).mono ?_
          rintro e w11 ⟨⟨qv, rv, Q, R, rfl, hq, hr, dq, dr, hsum, r0, r1, lq, lr⟩, hb11⟩
          have HR11 : Hid (Digs w11 rv R) := hr
          have HDR : Hid (Dig R) := dr
          have HMOD : Hid (val R = val (Lx.take (j + 2)) % val (Ly.take (j + 2)) ∧ val R < 18446744073709551616 ^ (j + 2) ∧ val R < val (Ly.take l)) := by
            have h1 := quo_div hsum r0 r1
            have h2 := HK3.out.2
            have h3 := HEY.out
            have h4 := take_lt HD9.out.y.dig (j + 2)
            rw [h2] at h1
            exact ⟨h1.2.symm, by omega, by omega⟩
          have HD11 := Lib.hid (HD9.out.later hb11)
          clear hq hr dq dr hsum r0 r1 lq lr hb11 HD9
          go_wp2_with fail
          have HW := Tryz.widened rv R (j + 2) w11 HR11.out HDR.out (by omega)
          rw [hcast] at HW
          with_reducible refine HW.mono ?_
          clear HW
          rintro e w12 ⟨⟨M, rfl, hr12, hd12, hl12, hv12⟩, hb12⟩
          have HNEW := Lib.hid (HD11.out.divided hb12 (Nat.le_refl _) hr12 hd12 hl12 (by omega) (by rw [hv12 HMOD.out.2.1]; exact HMOD.out.1) HPOS.out)
          have HMV : Hid (rowVal w12 (.slice (some ⟨w11.heap.size, 0, none⟩) (j + 2) (j + 2)) = (val R).toNat) := by
            have h := rowVal_row (l := j + 2) (c := j + 2) hr12
            rw [List.take_of_length_le (Nat.le_of_eq hl12), hv12 HMOD.out.2.1] at h
            exact h
          clear hr12 hd12 hl12 hv12 hb12
          go_wp2
          exact ⟨⟨j + 2, _, _, _, _, _, _, _, _, _, _, _, _, by omega, HNEW.out⟩, by
            rw [HMV.out, HRV.out]
            have h1 := HMOD.out.2.2
            have h2 := HPOS.out
            have h3 := HEY.out
            omega⟩
        · have HGOOD : Hid (Good (val (Lx.take (j + 2))) (val (Ly.take (j + 2))) u0 v0 u1 v1 q) := HGD.out.resolve_left hv0
          have HMB := Lib.hid (made_bounds (n := j + 2) HGOOD.out (take_lt HD8.out.y.dig (j + 2)))
          go_wp2_with fail
          generalize ((w8.alloc (.cells #[.int .u64 u0, .int .u64 v0] 216)).alloc (.cells #[.int .u64 u1, .int .u64 v1] 216)) = w9 at *
          have HW := Tryz.work q u0 v0 gs cs (j + 2) gx cx gy cy Ls (Lx.take (j + 2)) (Ly.take (j + 2)) w9 HD9.out.s.row HD9.out.s.dig (by have := HD9.out.s.len; have := HD9.out.s.le; omega) (by have := HD9.out.s.len; have := HD9.out.s.cap; omega) HD9.out.x.at HD9.out.y.at HD9.out.x.tl HD9.out.y.tl (HD9.out.x.dig.take _) (HD9.out.y.dig.take _) HD9.out.xs HD9.out.ys a0 a1 b0 b1 HMB.out.1 HMB.out.2.1
          with_reducible refine HW.mono ?_
          clear HW
          rintro e w10 ⟨⟨M1, rfl, hr1, hd1, hl1, hv1⟩, hg1⟩
          have HG1 := Lib.hid hg1
          have HM1 : Hid (RowOf w10 gs M1 ∧ Dig M1 ∧ M1.length = Ls.length ∧ val (M1.take (j + 2)) = made2 (val (Lx.take (j + 2))) (val (Ly.take (j + 2))) u0 v0 q) := ⟨hr1, hd1, hl1, hv1⟩
          have hc0 : w10.cell? ⟨w8.heap.size + 1, 0, none⟩ = some (.int .u64 u1) := hg1.cell HC1.out.c0 (by simp; omega)
          have hc1 : w10.cell? ⟨w8.heap.size + 1, 1, none⟩ = some (.int .u64 v1) := hg1.cell HC1.out.c1 (by simp; omega)
          clear hr1 hd1 hl1 hv1 hg1 HD8 HGD
          go_wp2_with fail
          have hne : ∀ {a b : Nat}, a ≠ b → some a ≠ some b := fun h e => h (Option.some.inj e)
          have HT10 := Lib.hid (HD9.out.t.kept HG1.out (hne HD9.out.st.symm))
          have HX10 := Lib.hid (HD9.out.x.kept HG1.out (hne HD9.out.xs))
          have HY10 := Lib.hid (HD9.out.y.kept HG1.out (hne HD9.out.ys))
          have HW := Tryz.work (!q) u1 v1 gt ct (j + 2) gx cx gy cy Lt (Lx.take (j + 2)) (Ly.take (j + 2)) w10 HT10.out.row HT10.out.dig (by have := HT10.out.len; have := HT10.out.le; omega) (by have := HT10.out.len; have := HT10.out.cap; omega) HX10.out.at HY10.out.at HX10.out.tl HY10.out.tl (HX10.out.dig.take _) (HY10.out.dig.take _) HD9.out.xt HD9.out.yt c0 c1 d0 d1 HMB.out.2.2.1 HMB.out.2.2.2.1
          with_reducible refine HW.mono ?_
          clear HW HT10 HX10 HY10
          rintro e w11 ⟨⟨M2, rfl, hr2, hd2, hl2, hv2⟩, hg2⟩
          have HNEW := Lib.hid (HD9.out.worked HG1.out HM1.out.1 HM1.out.2.1 HM1.out.2.2.1 hg2 hr2 hd2 hl2 HGOOD.out HM1.out.2.2.2 hv2)
          have HMV : Hid (rowVal w11 (.slice (some ⟨gt, 0, none⟩) (j + 2) ct) = (made2 (val (Lx.take (j + 2))) (val (Ly.take (j + 2))) u1 v1 (!q)).toNat) := by
            have h := rowVal_row (l := j + 2) (c := ct) hr2
            rw [hv2] at h
            exact h
          have HLT : Hid (made2 (val (Lx.take (j + 2))) (val (Ly.take (j + 2))) u1 v1 (!q) < val (Ly.take l)) := by
            show _ < _
            rw [← HEY.out]; exact HMB.out.2.2.2.2
          clear hr2 hd2 hl2 hv2 hg2 HG1 HM1 HD9 HC1 hc0 hc1 HGOOD HMB
          go_wp2_with fail
          exact ⟨⟨j + 2, _, _, _, _, _, _, _, _, _, _, _, _, by omega, HNEW.out⟩, by
            rw [HMV.out, HRV.out]
            have h1 := HLT.out
            have h2 := HPOS.out
            have h3 := HEY.out
            omega⟩)
end Go.Proofs.Wd
