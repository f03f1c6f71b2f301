/- What Mul of the reference returns (for a seat that has no Add). -/
import Derived.Test.YtgcnpjnanlbmpaaGreatDoorDig0
namespace Go.Proofs
open Go.RowKit
set_option linter.unusedVariables false
theorem mul_lt {xs ys : List Int} (hx : Dig xs) (hy : Dig ys) : val xs * val ys < 10000 ^ (xs.length + ys.length) := by
  have h1 := val_lt hx
  have h2 := val_lt hy
  have h3 := val_nonneg hx
  have h4 := val_nonneg hy
  rw [Int.pow_add]
  have p1 := pow_pos' xs.length
  have a : val xs * val ys ≤ 10000 ^ xs.length * val ys := Int.mul_le_mul_of_nonneg_right (by omega) h4
  have b : (10000 : Int) ^ xs.length * val ys < 10000 ^ xs.length * 10000 ^ ys.length := Int.mul_lt_mul_of_pos_left h2 p1
  omega
set_option maxHeartbeats 8000000 in
set_option maxRecDepth 100000 in
theorem Tryz.rMul (v u : Value) (xs ys : List Int) (w : World) (hv : Digs w v xs) (hu : Digs w u ys) (hx : Dig xs) (hy : Dig ys) (hlen : xs.length + ys.length ≤ 1000000) :
    Calls Tryz.prog 97 #[v, u] w fun e w' => (∃ v', e = .returned v' ∧ NumIs w' v' (val xs * val ys) (xs.length + ys.length + 1)) ∧ Below w.heap.size w w' := by
  obtain ⟨p, cap, rfl, hxl, hxr⟩ := hv.slice
  obtain ⟨q, dap, rfl, hyl, hyr⟩ := hu.slice
  obtain ⟨i0, hi, hz0, hz1, hz2⟩ := info_parts Tryz.info3
  have HX : Hid (0 < xs.length → ∃ g, p = some ⟨g, 0, none⟩ ∧ RowAt w g cap xs) := hxr
  have HY : Hid (0 < ys.length → ∃ g, q = some ⟨g, 0, none⟩ ∧ RowAt w g dap ys) := hyr
  clear hxr hyr hv hu
  obtain ⟨n, hn⟩ : ∃ n : Nat, (xs.length : Int) + ys.length + 1 = n := ⟨xs.length + ys.length + 1, by omega⟩
  go_enter Tryz.func97, Tryz.ntmps97
  go_wp2_with (first
    | (refine wpList_make_full _ rfl _ _ 29 rfl w.heap.size 3 i0 (.int .i64 0) 1 Tryz.underlying29 hi hz0 hz1 .i64 .i64 _ _ n rfl rfl rfl rfl (by rw [hz2]; omega) (by unfold maxLen; omega) (by omega) ?_))
  intro w1 hown hgrow
  have hrow1 := RowOf.of_made (by rw [toList_madeCells_one] at hown; exact hown)
  have hb1 : Below w.heap.size w w1 := (Below.refl _ _).grown hgrow (Nat.le_refl _) (fun k hk => by cases hk)
  have HN : Hid (n = xs.length + ys.length + 1) := by show _ = _; omega
  have hn1 : n ≤ 1000001 := by omega
  clear hown hgrow hn
  go_wp2
  go_loopw [18] (fun c wr => ∃ (i : Nat) (L : List Int), c = .int .i64 i ∧ i ≤ xs.length ∧ RowOf wr w.heap.size L ∧ MulAt xs ys i 0 L ∧ Below w.heap.size w wr) (fun c _ => xs.length - (intOf c).toNat)
  case atStart =>
    have hz : ∀ j, (List.replicate n (0 : Int)).getD j 0 = 0 := fun j => by simp [List.getD, List.getElem?_replicate]; split <;> simp
    refine ⟨0, List.replicate n 0, rfl, by omega, hrow1, ⟨by simp [HN.out], fun j hj => by rw [hz]; omega, by rw [hz]; omega, fun _ => by rw [hz]; omega, fun j _ _ => hz j, ?_⟩, hb1⟩
    rw [val_zeros]; simp
  case round =>
    obtain ⟨i, L, rfl, hi, hrow, hat, hb⟩ := hrel
    have HA : Hid (MulAt xs ys i 0 L) := hat
    have HB : Hid (Below w.heap.size w wr) := hb
    have HR : Hid (RowOf wr w.heap.size L) := hrow
    clear hrow hat hb
    by_cases hin : i = xs.length
    · subst hin
      have hnm := HA.out.norm
      rw [← HN.out] at hnm
      have HM : Hid (NormAt (val xs * val ys) n 0 L) := hnm
      have hn0 : 1 ≤ n := by have := HN.out; omega
      clear hnm
      go_wp2
      go_loopw [8] (fun c wr => ∃ (j : Nat) (L : List Int), c = .int .i64 j ∧ j + 1 ≤ n ∧ RowOf wr w.heap.size L ∧ NormAt (val xs * val ys) n j L ∧ Below w.heap.size w wr) (fun c _ => n - (intOf c).toNat)
      case atStart => exact ⟨0, L, rfl, by omega, HR.out, HM.out, HB.out⟩
      case round =>
        clear HA HB HR HM
        obtain ⟨j, M, rfl, hj, hrow, hat, hb⟩ := hrel
        have HA : Hid (NormAt (val xs * val ys) n j M) := hat
        have HB : Hid (Below w.heap.size w wr) := hb
        have HR : Hid (RowOf wr w.heap.size M) := hrow
        clear hrow hat hb
        by_cases hjn : j + 1 = n
        · have hml := HA.out.len
          have HD : Hid (Dig M) := by
            have h := HA.out
            rw [← hjn] at h
            exact h.done (by rw [show j = xs.length + ys.length by have := HN.out; omega]; exact mul_lt hx hy)
          have hD : Digs wr (.slice (some ⟨w.heap.size, 0, none⟩) n n) M := by
            have := HR.out.digs (by have := HN.out; unfold maxLen; omega)
            rw [hml] at this
            exact this
          have HV : Hid (val M = val xs * val ys) := HA.out.sum
          go_wp2_with (go_at_call 54; refine (Tryz.rTrim _ _ _ hD).mono ?_; rintro e w2 ⟨⟨v', rfl, t, ht, hdt, htt, hvt⟩, rfl⟩)
          go_ret
          exact ⟨⟨_, rfl, M.take t, hdt, HD.out.take t, htt, hvt.trans HV.out, by rw [List.length_take]; have := HN.out; omega⟩, HB.out⟩
        · have hj1 : j + 1 < n := by omega
          have hml := HA.out.len
          obtain ⟨c, hc⟩ : ∃ c, M.getD j 0 = c := ⟨_, rfl⟩
          have hc9 := HA.out.mid
          rw [hc] at hc9
          have HC : Hid (M.getD j 0 = c) := hc
          obtain ⟨d, hd⟩ : ∃ d, M.getD (j + 1) 0 = d := ⟨_, rfl⟩
          have hd9 := HA.out.rest (j + 1) (by omega)
          rw [hd] at hd9
          have HD : Hid (M.getD (j + 1) 0 = d) := hd
          have hcO := HR.out.cell (j := j) (by omega)
          rw [hc] at hcO
          have hdO := HR.out.cell (j := j + 1) (by omega)
          rw [hd] at hdO
          have hfO := HR.out.frozen (j + 1)
          have HRwr := HR
          have HBwr := HB
          have HML : Hid (M.length = n) := hml
          clear hc hd hml
          go_wp2
          go_region
          obtain ⟨W1, hW1⟩ : ∃ W, wr.drew.setCell ⟨w.heap.size, j + 1, none⟩ (.int .i64 (d + c / 10000)) = W := ⟨_, rfl⟩
          rw [hW1]
          have HRW1 : Hid (RowOf W1 w.heap.size (M.set (j + 1) (d + c / 10000))) := by rw [← hW1]; exact (HRwr.out.drew).set _ _
          have HBW1 : Hid (Below w.heap.size w W1) := by rw [← hW1]; exact HBwr.out.drew.setCell (Nat.le_refl _) _
          clear hW1
          have hc1 : W1.cell? ⟨w.heap.size, j, none⟩ = some (.int .i64 c) := by
            have h := HRW1.out.cell (j := j) (by simp only [List.length_set]; have := HML.out; omega)
            rw [getD_set_ne _ (by omega), HC.out] at h
            exact h
          have hf1 := HRW1.out.frozen j
          clear hcO hdO hfO
          go_wp2
          exact ⟨⟨j + 1, _, by simp, by omega, HRW1.out.set j (c % 10000), HA.out.step hj1 c d HC.out HD.out, HBW1.out.setCell (Nat.le_refl _) _⟩, by simp [intOf]; omega⟩
    · have hil : i < xs.length := by omega
      obtain ⟨g, rfl, hr⟩ := HX.out (by omega)
      obtain ⟨a, ha⟩ : ∃ a, xs.getD i 0 = a := ⟨_, rfl⟩
      have ha9 := hx.get i
      rw [ha] at ha9
      have HXI : Hid (xs.getD i 0 = a) := ha
      have hca := hr.cells i hil
      rw [ha] at hca
      have HCA : Hid (w.cell? ⟨g, i, none⟩ = some (.int .i64 a)) := hca
      have hlt := hr.lt
      clear ha hca hr
      go_wp2
      go_loopw [23] (fun c wr => ∃ (k : Nat) (L : List Int), c = .int .i64 k ∧ k ≤ ys.length ∧ RowOf wr w.heap.size L ∧ MulAt xs ys i k L ∧ Below w.heap.size w wr) (fun c _ => ys.length - (intOf c).toNat)
      case atStart => exact ⟨0, L, rfl, by omega, HR.out, HA.out, HB.out⟩
      case round =>
        clear HA HB HR
        obtain ⟨k, M, rfl, hk, hrow, hat, hb⟩ := hrel
        have HA : Hid (MulAt xs ys i k M) := hat
        have HB : Hid (Below w.heap.size w wr) := hb
        have HR : Hid (RowOf wr w.heap.size M) := hrow
        clear hrow hat hb
        by_cases hkn : k = ys.length
        · subst hkn
          have hrw := HA.out.row hil
          go_wp2
          exact ⟨⟨i + 1, M, by simp, by omega, HR.out, hrw, HB.out⟩, by simp [intOf]; omega⟩
        · have hkl : k < ys.length := by omega
          obtain ⟨g', rfl, hr'⟩ := HY.out (by omega)
          obtain ⟨b, hbk⟩ : ∃ b, ys.getD k 0 = b := ⟨_, rfl⟩
          have hb9 := hy.get k
          rw [hbk] at hb9
          have HYK : Hid (ys.getD k 0 = b) := hbk
          have hcb0 := hr'.cells k hkl
          rw [hbk] at hcb0
          have hlt' := hr'.lt
          have hab : 0 ≤ a * b ∧ a * b ≤ 99980001 := by
            have h1 : a * b ≤ 9999 * b := Int.mul_le_mul_of_nonneg_right ha9.2 hb9.1
            have h2 := Int.mul_nonneg ha9.1 hb9.1
            omega
          have hlen' := HA.out.len
          have hik1 : i + k + 1 < n := by have := HN.out; omega
          have hikM : i + k + 1 < M.length := by omega
          obtain ⟨c, hc⟩ : ∃ c, M.getD (i + k) 0 = c := ⟨_, rfl⟩
          have hc9 := HA.out.mid
          rw [hc] at hc9
          have HC : Hid (M.getD (i + k) 0 = c) := hc
          obtain ⟨d, hd⟩ : ∃ d, M.getD (i + k + 1) 0 = d := ⟨_, rfl⟩
          have hd9 := HA.out.low (i + k + 1) (by omega)
          rw [hd] at hd9
          have HD : Hid (M.getD (i + k + 1) 0 = d) := hd
          obtain ⟨T, hT⟩ : ∃ T, c + a * b = T := ⟨_, rfl⟩
          have hT9 : 0 ≤ T ∧ T ≤ 100000001 := by omega
          have hcO := HR.out.cell (j := i + k) (by omega)
          rw [hc] at hcO
          have hfO := HR.out.frozen (i + k)
          have hca := (HB.out.cell (p := ⟨g, i, none⟩) hlt).trans HCA.out
          have hcb := (HB.out.cell (p := ⟨g', k, none⟩) hlt').trans hcb0
          have hgO : g ≠ w.heap.size := by omega
          have hgO' : g' ≠ w.heap.size := by omega
          have HRwr := HR
          have HBwr := HB
          clear hr' hbk hlen' hc hd hcb0
          go_wp2
          go_region
          obtain ⟨W1, hW1⟩ : ∃ W, wr.drew.setCell ⟨w.heap.size, i + k, none⟩ (.int .i64 (T)) = W := ⟨_, rfl⟩
          rw [hW1]
          have HRW1 : Hid (RowOf W1 w.heap.size (M.set (i + k) (T))) := by rw [← hW1]; exact (HRwr.out.drew).set _ _
          have HBW1 : Hid (Below w.heap.size w W1) := by rw [← hW1]; exact HBwr.out.drew.setCell (Nat.le_refl _) _
          clear hW1
          have hc1 : W1.cell? ⟨w.heap.size, i + k, none⟩ = some (.int .i64 T) := by
            have h := HRW1.out.cell (j := i + k) (by simp only [List.length_set]; omega)
            rw [getD_set_self _ (by omega)] at h
            exact h
          have hd1 : W1.cell? ⟨w.heap.size, i + k + 1, none⟩ = some (.int .i64 d) := by
            have h := HRW1.out.cell (j := i + k + 1) (by simp only [List.length_set]; omega)
            rw [getD_set_ne _ (by omega), HD.out] at h
            exact h
          have hf1 := HRW1.out.frozen (i + k + 1)
          clear hcO hfO hca hcb
          go_wp2
          go_region
          obtain ⟨W2, hW2⟩ : ∃ W, W1.drew.setCell ⟨w.heap.size, i + k + 1, none⟩ (.int .i64 (d + T / 10000)) = W := ⟨_, rfl⟩
          rw [hW2]
          have HRW2 : Hid (RowOf W2 w.heap.size ((M.set (i + k) T).set (i + k + 1) (d + T / 10000))) := by rw [← hW2]; exact (HRW1.out.drew).set _ _
          have HBW2 : Hid (Below w.heap.size w W2) := by rw [← hW2]; exact HBW1.out.drew.setCell (Nat.le_refl _) _
          clear hW2
          have hc2 : W2.cell? ⟨w.heap.size, i + k, none⟩ = some (.int .i64 T) := by
            have h := HRW2.out.cell (j := i + k) (by simp only [List.length_set]; omega)
            rw [getD_set_ne _ (by omega), getD_set_self _ (by omega)] at h
            exact h
          have hf2 := HRW2.out.frozen (i + k)
          clear hc1 hd1 hf1
          go_wp2
          refine ⟨⟨k + 1, _, by simp, by omega, HRW2.out.set (i + k) (T % 10000), ?_, HBW2.out.setCell (Nat.le_refl _) _⟩, by simp [intOf]; omega⟩
          have h := HA.out.step hil hkl T (by rw [HC.out, HXI.out, HYK.out]; exact hT) hT9.1 hT9.2
          rw [HD.out] at h
          exact h
theorem Digs.one (w : World) (d : Int) : Digs (w.alloc (.cells #[.int .i64 d] 3)) (.slice (some ⟨w.heap.size, 0, none⟩) 1 1) [d] := by
  have h : RowOf (w.alloc (.cells #[.int .i64 d] 3)) w.heap.size [d] := heap_alloc_new _ _
  exact h.digs (by simp [maxLen])
theorem Digs.alloc {w : World} {v : Value} {xs : List Int} (h : Digs w v xs) (o : Obj) : Digs (w.alloc o) v xs := h.below ((Below.refl _ _).alloc (Nat.le_refl _) o) (Nat.le_refl _)
theorem Dig.one {d : Int} (h0 : 0 ≤ d) (h1 : d ≤ 9999) : Dig [d] := fun x hx => by rw [List.mem_singleton.1 hx]; exact ⟨h0, h1⟩
theorem Top.one {d : Int} (h0 : d ≠ 0) : Top [d] := .inr (by simpa using h0)
theorem val_one (d : Int) : val [d] = d := by rw [val_cons]; simp
theorem NumIs.one (w : World) (d : Int) (h0 : 1 ≤ d) (h1 : d ≤ 9999) : NumIs (w.alloc (.cells #[.int .i64 d] 3)) (.slice (some ⟨w.heap.size, 0, none⟩) 1 1) d 1 :=
  ⟨[d], Digs.one w d, Dig.one (by omega) h1, Top.one (by omega), val_one d, by simp⟩
theorem NumIs.below {w w' : World} {v : Value} {z : Int} {n B : Nat} (h : NumIs w v z n) (hb : Below B w w') (hB : w.heap.size ≤ B) : NumIs w' v z n := by
  obtain ⟨xs, h1, h2⟩ := h
  exact ⟨xs, h1.below hb hB, h2⟩
theorem NumIs.mono {w : World} {v : Value} {z : Int} {n m : Nat} (h : NumIs w v z n) (hm : n ≤ m) : NumIs w v z m := by
  obtain ⟨xs, h1, h2, h3, h4, h5⟩ := h
  exact ⟨xs, h1, h2, h3, h4, by omega⟩
theorem Tryz.nMul {v u : Value} {a b : Int} {n m : Nat} {w : World} (hv : NumIs w v a n) (hu : NumIs w u b m) (hlen : n + m ≤ 1000000) :
    Calls Tryz.prog 97 #[v, u] w fun e w' => (∃ v', e = .returned v' ∧ NumIs w' v' (a * b) (n + m + 1)) ∧ Below w.heap.size w w' := by
  obtain ⟨xs, h1, h2, h3, rfl, h5⟩ := hv
  obtain ⟨ys, k1, k2, k3, rfl, k5⟩ := hu
  refine (Tryz.rMul v u xs ys w h1 k1 h2 k2 (by omega)).mono ?_
  rintro e w' ⟨⟨v', rfl, h⟩, hb⟩
  exact ⟨⟨v', rfl, h.mono (by omega)⟩, hb⟩
theorem Tryz.nCmp {v u : Value} {a b : Int} {n m : Nat} {w : World} (hv : NumIs w v a n) (hu : NumIs w u b m) :
    Calls Tryz.prog 96 #[v, u] w fun e w' => e = .returned (.int .i64 (cmpI a b)) ∧ w' = w := by
  obtain ⟨xs, h1, h2, h3, rfl, h5⟩ := hv
  obtain ⟨ys, k1, k2, k3, rfl, k5⟩ := hu
  exact Tryz.rCmp v u xs ys w h1 k1 h2 k2
theorem NumIs.alloc {w : World} {v : Value} {z : Int} {n : Nat} (h : NumIs w v z n) (o : Obj) : NumIs (w.alloc o) v z n := h.below ((Below.refl _ _).alloc (Nat.le_refl _) o) (Nat.le_refl _)
end Go.Proofs
