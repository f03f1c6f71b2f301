/- What widened of the package nat returns: the words in so many of its own. What wordRest and wordDivisor of the package nat return. -/
import Derived.Test.YtoiihhkafcglhaaGreatDoorFs
import Derived.Test.YtoiihhkafcglhaaGreatDoorSm
import Derived.Laws.CopyOwn
namespace Go.Proofs.Wd
open Go.RowKit
set_option linter.unusedVariables false
theorem val_take_of_lt {L : List Int} (h : Dig L) {n : Nat} (hv : val L < 18446744073709551616 ^ n) : val (L.take n) = val L := by
  have e := val_parts L n
  have a := val_nonneg (h.take n)
  have b := val_nonneg (h.drop n)
  have hP := pow_pos' n
  generalize (18446744073709551616 : Int) ^ n = P at *
  by_cases g : val (L.drop n) = 0
  · rw [g] at e; simp at e; omega
  · exfalso
    have : P * 1 ≤ P * val (L.drop n) := Int.mul_le_mul_of_nonneg_left (by omega) (by omega)
    omega
theorem val_pad (L : List Int) : ∀ k, val (L ++ List.replicate k 0) = val L
  | 0 => by simp
  | k + 1 => by
    rw [List.replicate_succ', ← List.append_assoc, val_snoc, val_pad L k]; simp
theorem dig_pad {L : List Int} (h : Dig L) (k : Nat) : Dig (L ++ List.replicate k 0) := h.append fun d hd => by rw [(List.mem_replicate.1 hd).2]; omega
theorem spliced2 (xs : List Int) (n : Nat) (h : xs.length ≤ n) : splice (List.replicate n (Value.int .u64 0)) 0 (xs.map (Value.int .u64)) = (xs ++ List.replicate (n - xs.length) 0).map (Value.int .u64) := by
  unfold splice
  rw [List.take_zero, List.nil_append, Nat.zero_add, List.length_map, List.map_append, List.drop_replicate, List.map_replicate]
set_option maxHeartbeats 8000000 in
set_option maxRecDepth 100000 in
theorem Tryz.widened (v : Value) (xs : List Int) (n : Nat) (w : World) (hv : Digs w v xs) (hx : Dig xs) (hlen : n ≤ 1000000) :
    Calls Tryz.prog 226 #[v, .int .i64 n] w fun e w' => (∃ M, e = .returned (.slice (some ⟨w.heap.size, 0, none⟩) n n) ∧ RowOf w' w.heap.size M ∧ Dig M ∧ M.length = n ∧ (val xs < 18446744073709551616 ^ n → val M = val xs)) ∧ Below w.heap.size w w' := by
  obtain ⟨i0, hi, hz0, hz1, hz2⟩ := info_parts Tryz.info49
  have hsz1 : (Tryz.prog.info? 49).map (·.size) = some 1 := by rw [hi]; simp [hz1]
  obtain ⟨p, cap, rfl, hxl, hxr⟩ := hv.slice
  have HX : Hid (Dig xs) := hx
  have HXR : Hid (0 < xs.length → ∃ g, p = some ⟨g, 0, none⟩ ∧ RowAt w g cap xs) := hxr
  obtain ⟨l, hl⟩ : ∃ l, xs.length = l := ⟨_, rfl⟩
  have HL : Hid (xs.length = l) := hl
  rw [hl] at hxl
  rw [hl]
  obtain ⟨T, hT⟩ : ∃ T, xs.take n = T := ⟨_, rfl⟩
  have HT : Hid (xs.take n = T) := hT
  have HTL : Hid (T.length = min n l) := show T.length = min n l by rw [← hT, List.length_take, hl]
  clear hv hx hxr hl hT
  go_enter Tryz.func226, Tryz.ntmps226
  go_wp2_with (first
    | (refine wpList_make_full _ rfl _ _ 90 rfl w.heap.size 49 i0 (.int .u64 0) 1 Tryz.underlying90 hi hz0 hz1 .i64 .i64 _ _ n rfl rfl rfl rfl (by rw [hz2]; omega) (by unfold maxLen; omega) (by omega) ?_))
  intro w1 hown hgrow
  have hrow1 := RowOf.of_made (by rw [toList_madeCells_one] at hown; exact hown)
  have HB1 : Hid (Below w.heap.size w w1) := (Below.refl _ _).grown hgrow (Nat.le_refl _) (fun k hk => by cases hk)
  have HROWC : Hid (w1.heap[w.heap.size]? = some (.cells (List.replicate n (Value.int .u64 0)).toArray 49 (0, 0))) := by
    have h := hrow1
    unfold RowOf at h
    rw [List.map_replicate] at h
    exact h
  clear hown hgrow hrow1
  go_wp2_with (first
    | (refine wpList_copy_splice rfl (.tmp 8) (.tmp 9) 90 90 rfl 49 Tryz.underlying90 hsz1 _ _ _ _ _ _ rfl rfl w.heap.size 0 (List.replicate n (Value.int .u64 0)) 49 HROWC.out (T.map (Value.int .u64)) ?c1 ?c2 ?c3 ?c4 w.heap.size w HB1.out (Nat.le_refl _) ?_))
  case c1 => rw [List.length_map, HTL.out]; exact Nat.min_comm n l
  case c2 =>
    intro hpos
    obtain ⟨g, hg, hr⟩ := HXR.out (by have h : 0 < T.length := by simpa using hpos
                                      have := HL.out; have := HTL.out; omega)
    first
      | refine ⟨rfl, _, hg, ?_⟩
      | refine ⟨_, hg, ?_⟩
    intro j v hj
    have hjl : j < T.length := (List.getElem?_eq_some_iff.1 hj).1
    have hjn : j < n ∧ j < xs.length := by have := HTL.out; have := HL.out; omega
    have e : (⟨g, 0, none⟩ : Addr).add j = ⟨g, j, none⟩ := by unfold Addr.add; split <;> simp_all
    have hlt := hr.lt
    rw [e, HB1.out.cell (p := ⟨g, j, none⟩) hlt, hr.cells j hjn.2]
    have ht : T.getD j 0 = xs.getD j 0 := by rw [← HT.out]; simp only [List.getD, List.getElem?_take_of_lt hjn.1]
    rw [← ht]
    simp [List.getD, hj]
  case c3 => simp; have := HTL.out; omega
  case c4 =>
    intro u hm
    obtain ⟨z, _, rfl⟩ := List.mem_map.1 hm
    rfl
  intro w2 hrow2 hb2
  have HM : Hid (RowOf w2 w.heap.size (T ++ List.replicate (n - T.length) 0)) := by
    have h := hrow2.out
    rw [spliced2 _ _ (by rw [HTL.out]; omega)] at h
    exact h
  have HB2 : Hid (Below w.heap.size w w2) := hb2
  clear hrow2 hb2
  go_wp2
  go_ret
  refine ⟨⟨_, rfl, HM.out, dig_pad (by rw [← HT.out]; exact HX.out.take n) _, by rw [List.length_append, List.length_replicate, HTL.out]; omega, fun h => ?_⟩, HB2.out⟩
  rw [val_pad, ← HT.out, val_take_of_lt HX.out h]
end Go.Proofs.Wd
namespace Go.Proofs.Wd
open Go.RowKit
set_option linter.unusedVariables false
theorem rest_step {xs : List Int} {k : Nat} {y Q r q r2 : Int} (h : val (xs.drop (k + 1)) = y * Q + r) (e : q * y + r2 = r * 18446744073709551616 + xs.getD k 0) : val (xs.drop k) = y * (18446744073709551616 * Q + q) + r2 := by
  rw [val_drop, h]
  grind
set_option maxHeartbeats 4000000 in
set_option maxRecDepth 100000 in
theorem Tryz.wordRest (v : Value) (xs : List Int) (y : Int) (w : World) (hv : Digs w v xs) (hx : Dig xs) (y0 : 1 ≤ y) (y1 : y ≤ 18446744073709551615) (hlen : xs.length ≤ 1000000) :
    Calls Tryz.prog 199 #[v, .int .u64 y] w fun e w' => e = .returned (.int .u64 (val xs % y)) ∧ w' = w := by
  obtain ⟨p, cap, rfl, hxl, hxr⟩ := hv.slice
  obtain ⟨n, hn⟩ : ∃ n, xs.length = n := ⟨_, rfl⟩
  have HN : Hid (xs.length = n) := hn
  have HX : Hid (Dig xs) := hx
  have HXR : Hid (0 < xs.length → ∃ g, p = some ⟨g, 0, none⟩ ∧ RowAt w g cap xs) := hxr
  have HS : Hid (val (xs.drop n) = y * 0 + 0) := by
    show _ = _
    rw [List.drop_eq_nil_of_le (by omega)]; simp
  rw [hn] at hxl hlen
  rw [hn]
  clear hv hx hxr hn
  go_enter Tryz.func199, Tryz.ntmps199
  go_wp2
  go_loopw [5, 6] (fun rv i wr => ∃ (k : Nat) (r Q : Int), rv = .int .u64 r ∧ i = .int .i64 ((k : Int) - 1) ∧ k ≤ n ∧ val (xs.drop k) = y * Q + r ∧ 0 ≤ r ∧ r < y ∧ wr = w) (fun _ i _ => (intOf i + 1).toNat)
  case atStart => exact ⟨n, 0, 0, rfl, rfl, by omega, HS.out, by omega, by omega, rfl⟩
  case round =>
    obtain ⟨k, r, Q, rfl, rfl, hk, hs, r0, r1, rfl⟩ := hrel
    have HV : Hid (val (xs.drop k) = y * Q + r) := hs
    clear hs
    cases k with
    | zero =>
      have hr : val xs % y = r := by
        have h := HV.out
        rw [List.drop_zero] at h
        rw [h, Int.add_comm, Int.add_mul_emod_self_left, Int.emod_eq_of_lt r0 r1]
      have HR : Hid (val xs % y = r) := hr
      clear hr
      go_wp2
      go_ret
      exact ⟨by rw [HR.out]; rfl, rfl⟩
    | succ k =>
      rw [show ((k + 1 : Nat) : Int) - 1 = k by omega]
      obtain ⟨g, rfl, hgr⟩ := HXR.out (by have := HN.out; omega)
      obtain ⟨x, hxk⟩ : ∃ x, xs.getD k 0 = x := ⟨_, rfl⟩
      have hcx := hgr.cells k (by have := HN.out; omega)
      have hxd := HX.out.get k
      rw [hxk] at hcx hxd
      have HXK : Hid (xs.getD k 0 = x) := hxk
      clear hgr hxk
      go_wp2_with fail
      with_reducible refine (Tryz.Div r x y _ r0 r1 hxd.1 hxd.2 y1).mono ?_
      rintro e w' ⟨⟨q, r', q0, q1, s0, s1, he, rfl⟩, rfl⟩
      have HE : Hid (q * y + r' = r * 18446744073709551616 + x) := he
      clear he
      go_wp2
      exact ⟨⟨k, r', 18446744073709551616 * Q + q, rfl, rfl, by omega, rest_step HV.out (by rw [HXK.out]; exact HE.out), s0, s1, trivial⟩, by simp [intOf]⟩
set_option maxHeartbeats 4000000 in
set_option maxRecDepth 100000 in
theorem Tryz.wordDivisor (x y : Int) (w : World) (x0 : 0 ≤ x) (x1 : x ≤ 18446744073709551615) (y0 : 0 ≤ y) (y1 : y ≤ 18446744073709551615) :
    Calls Tryz.prog 198 #[.int .u64 x, .int .u64 y] w fun e w' => e = .returned (.int .u64 (Int.gcd x y)) ∧ Below w.heap.size w w' := by
  go_enter Tryz.func198, Tryz.ntmps198
  go_wp2
  go_loopw [0, 1] (fun av bv wr => ∃ (a b : Int), av = .int .u64 a ∧ bv = .int .u64 b ∧ 0 ≤ a ∧ a ≤ 18446744073709551615 ∧ 0 ≤ b ∧ b ≤ 18446744073709551615 ∧ Int.gcd a b = Int.gcd x y ∧ Below w.heap.size w wr) (fun _ bv _ => (intOf bv).toNat)
  case atStart => exact ⟨x, y, rfl, rfl, x0, x1, y0, y1, rfl, Below.refl _ _⟩
  case round =>
    obtain ⟨a, b, rfl, rfl, a0, a1, b0, b1, hg, hb⟩ := hrel
    have HG : Hid (Int.gcd a b = Int.gcd x y) := hg
    have HB : Hid (Below w.heap.size w wr) := hb
    clear hg hb
    by_cases hz : b = 0
    · subst hz
      have HE : Hid ((Int.gcd x y : Int) = a) := by
        show _ = _
        rw [← HG.out, Int.gcd_zero]; omega
      go_wp2
      go_ret
      exact ⟨by rw [HE.out]; rfl, HB.out⟩
    · have R0 : 0 ≤ a % b := Int.emod_nonneg _ (by omega)
      have R1 : a % b < b := Int.emod_lt_of_pos _ (by omega)
      have HG2 : Hid (Int.gcd b (a % b) = Int.gcd x y) := by
        show _ = _
        rw [gcd_mod, HG.out]
      go_wp2
      go_quiet (fail)
      have HB2 : Hid (Below w.heap.size w (wr.drewN nq)) := belowN HB.out nq
      go_wp2
      exact ⟨⟨b, a % b, rfl, rfl, b0, b1, R0, by omega, HG2.out, HB2.out⟩, by simp [intOf]; omega⟩
end Go.Proofs.Wd
