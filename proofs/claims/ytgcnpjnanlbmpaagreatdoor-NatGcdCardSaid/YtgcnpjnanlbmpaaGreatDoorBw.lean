/- What byWord of the package nat does: it writes the quotient by one word, into the same words or into others. -/
import Derived.Test.YtgcnpjnanlbmpaaGreatDoorWd7
import Derived.Test.YtgcnpjnanlbmpaaGreatDoorNb2
namespace Go.Proofs.Wd
open Go.RowKit
set_option linter.unusedVariables false
theorem grownBy_refl (w : World) (row : Option Nat) : w.grownBy w row := ⟨rfl, rfl, rfl, Nat.le_refl _, fun _ _ _ => rfl⟩
theorem grownBy_set {w w' : World} {b : Nat} (h : w.grownBy w' (some b)) (i : Nat) (l : Option Nat) (v : Value) : w.grownBy (w'.setCell ⟨b, i, none⟩ v) (some b) :=
  ⟨h.os, h.tape, h.output, by have := h.size; simpa [World.setCell] using this, fun k hk hne => by rw [Below.heap_setCell _ _ _ _ (fun e => hne (by rw [e]))]; exact h.block k hk hne⟩
/-- What holds at the head of byWord's loop: the words from k on are divided, r is left of them. -/
structure ByAt (xs : List Int) (y : Int) (gx : Nat) (w : World) (k : Nat) (r : Int) (L : List Int) : Prop where
  len : L.length = xs.length
  dig : Dig (L.drop k)
  sum : val (xs.drop k) = y * val (L.drop k) + r
  r0 : 0 ≤ r
  r1 : r < y
  src : ∀ j, j < k → w.cell? ⟨gx, j, none⟩ = some (.int .u64 (xs.getD j 0))
theorem drop_set_self (L : List Int) (k : Nat) (z : Int) (h : k < L.length) : (L.set k z).drop k = z :: L.drop (k + 1) := by
  rw [List.drop_eq_getElem_cons (by rw [List.length_set]; exact h)]
  simp [List.drop_set]
theorem ByAt.step {xs L : List Int} {y : Int} {gx : Nat} {w : World} {k : Nat} {r q r' : Int} (h : ByAt xs y gx w (k + 1) r L) (hk : k < xs.length) (g : Nat) (e : q * y + r' = r * 18446744073709551616 + xs.getD k 0) (q0 : 0 ≤ q) (q1 : q ≤ 18446744073709551615) (r0 : 0 ≤ r') (r1 : r' < y) :
    ByAt xs y gx (w.setCell ⟨g, k, none⟩ (.int .u64 q)) k r' (L.set k q) := by
  have hl := h.len
  refine ⟨by rw [List.length_set]; exact hl, ?_, ?_, r0, r1, fun j hj => ?_⟩
  · rw [drop_set_self L k q (by omega)]
    intro d hd
    rcases List.mem_cons.1 hd with rfl | hd
    · exact ⟨q0, q1⟩
    · exact h.dig d hd
  · rw [drop_set_self L k q (by omega), val_cons, val_drop, h.sum]
    generalize val (L.drop (k + 1)) = V
    rw [Int.mul_add y q, Int.mul_comm y q, Int.mul_left_comm y 18446744073709551616 V]
    generalize y * V = A
    omega
  · rw [World.cell?_setCell_other _ _ _ _ (by simp; omega)]
    exact h.src j (by omega)
set_option maxHeartbeats 4000000 in
set_option maxRecDepth 100000 in
theorem Tryz.byWord (g cap gx capx : Nat) (L xs : List Int) (y : Int) (B : Nat) (w : World) (hown : OwnAt w B g cap L) (hl : L.length = xs.length) (hx : Dig xs)
    (hsrc : ∀ j, j < xs.length → w.cell? ⟨gx, j, none⟩ = some (.int .u64 (xs.getD j 0))) (y0 : 1 ≤ y) (y1 : y ≤ 18446744073709551615) (hlen : xs.length ≤ 1000000) :
    Calls Tryz.prog 57 #[.slice (some ⟨g, 0, none⟩) xs.length cap, .slice (some ⟨gx, 0, none⟩) xs.length capx, .int .u64 y] w fun e w' =>
      (∃ L' r, e = .returned (.int .u64 r) ∧ OwnAt w' B g cap L' ∧ Dig L' ∧ L'.length = xs.length ∧ val xs = y * val L' + r ∧ 0 ≤ r ∧ r < y) ∧ w.grownBy w' (some g) := by
  have hge := hown.ge.1
  obtain ⟨n, hn⟩ : ∃ n, xs.length = n := ⟨_, rfl⟩
  have HN : Hid (xs.length = n) := hn
  have HO : Hid (OwnAt w B g cap L) := hown
  have HS : Hid (ByAt xs y gx w n 0 L) := by
    refine ⟨hl, ?_, ?_, by omega, by omega, fun j hj => hsrc j (by omega)⟩
    · rw [List.drop_eq_nil_of_le (by omega)]; exact Dig.nil
    · rw [List.drop_eq_nil_of_le (by omega), List.drop_eq_nil_of_le (by omega)]; simp
  have HX : Hid (Dig xs) := hx
  rw [hn] at hlen
  rw [hn]
  clear hown hl hx hsrc hn
  go_enter Tryz.func57, Tryz.ntmps57
  go_wp2
  go_loopw [7, 8] (fun rv i wr => ∃ (k : Nat) (r : Int) (M : List Int), rv = .int .u64 r ∧ i = .int .i64 ((k : Int) - 1) ∧ k ≤ n ∧ ByAt xs y gx wr k r M ∧ OwnAt wr B g cap M ∧ w.grownBy wr (some g)) (fun _ i _ => (intOf i + 1).toNat)
  case atStart => exact ⟨n, 0, L, rfl, rfl, by omega, HS.out, HO.out, grownBy_refl w _⟩
  case round =>
    obtain ⟨k, r, M, rfl, rfl, hk, hat, ho, hb⟩ := hrel
    have HA : Hid (ByAt xs y gx wr k r M) := hat
    have HW : Hid (OwnAt wr B g cap M) := ho
    have HB : Hid (w.grownBy wr (some g)) := hb
    have r0 := hat.r0
    have r1 := hat.r1
    clear hb
    cases k with
    | zero =>
      clear ho hat
      have HE : Hid (val xs = y * val M + r) := HA.out.sum
      have HD : Hid (Dig M) := HA.out.dig
      go_wp2
      go_ret
      exact ⟨⟨M, r, rfl, HW.out, HD.out, by rw [HA.out.len, HN.out], HE.out, r0, r1⟩, HB.out⟩
    | succ k =>
      rw [show ((k + 1 : Nat) : Int) - 1 = k by omega]
      obtain ⟨x, hxk⟩ : ∃ x, xs.getD k 0 = x := ⟨_, rfl⟩
      have hcx := hat.src k (by omega)
      have hxd := HX.out.get k
      rw [hxk] at hcx hxd
      have HXK : Hid (xs.getD k 0 = x) := hxk
      have hfr := ho.frozen k
      obtain ⟨c, hc⟩ : ∃ c, M.getD k 0 = c := ⟨_, rfl⟩
      have hcg := ho.cell (j := k) (by have := HN.out; have := hat.len; omega)
      rw [hc] at hcg
      clear ho hat hxk hc
      go_wp2_with (go_at_call 45; refine (Tryz.Div r x y _ r0 r1 hxd.1 hxd.2 y1).mono ?_; rintro e w' ⟨⟨q, r', q0, q1, s0, s1, he, rfl⟩, rfl⟩; have HE : Hid (q * y + r' = r * 18446744073709551616 + x) := he; clear he)
      have HST : Hid (ByAt xs y gx (w'.setCell ⟨g, k, none⟩ (.int .u64 q)) k r' (M.set k q)) := HA.out.step (by have := HN.out; omega) g (by rw [HXK.out]; exact HE.out) q0 q1 s0 s1
      exact ⟨⟨k, r', M.set k q, rfl, rfl, by omega, HST.out, HW.out.set k q, grownBy_set HB.out _ none _⟩, by simp [intOf]⟩
end Go.Proofs.Wd
