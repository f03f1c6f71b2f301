/- What made, all, Shl, Shr and Cmp of the package nat return. -/
import Derived.Test.YtgcnpjnanlbmpaaGreatDoorWd4
namespace Go.Proofs.Wd
open Go.RowKit
set_option linter.unusedVariables false
/-- v is a number of the package nat, nil or not, with the words xs. -/
def IsNat (w : World) (v : Value) (xs : List Int) : Prop := (v = .pointer none ∧ xs = []) ∨ ∃ a s, v = .pointer (some ⟨a, 0, none⟩) ∧ a < w.heap.size ∧ w.cell? ⟨a, 0, none⟩ = some s ∧ Digs w s xs
theorem IsNat.below {w w' : World} {v : Value} {xs : List Int} {B : Nat} (h : IsNat w v xs) (hb : Below B w w') (hB : w.heap.size ≤ B) : IsNat w' v xs := by
  rcases h with h | ⟨a, s, h1, h2, h3, h4⟩
  · exact .inl h
  · exact .inr ⟨a, s, h1, by have := hb.size; omega, (hb.cell (p := ⟨a, 0, none⟩) (by show a < B; omega)).trans h3, h4.below hb hB⟩
/-- v holds the number z, by at most n words. -/
def Num (w : World) (v : Value) (z : Int) (n : Nat) : Prop := ∃ xs, IsNat w v xs ∧ Dig xs ∧ Top xs ∧ val xs = z ∧ xs.length ≤ n
theorem Num.below {w w' : World} {v : Value} {z : Int} {n B : Nat} (h : Num w v z n) (hb : Below B w w') (hB : w.heap.size ≤ B) : Num w' v z n := by
  obtain ⟨xs, h1, h2⟩ := h
  exact ⟨xs, h1.below hb hB, h2⟩
set_option maxHeartbeats 2000000 in
theorem Tryz.all (v : Value) (xs : List Int) (w : World) (h : IsNat w v xs) :
    Calls Tryz.prog 56 #[v] w fun e w' => (∃ s, e = .returned s ∧ Digs w s xs) ∧ w' = w := by
  rcases h with ⟨rfl, rfl⟩ | ⟨a, s, rfl, h2, h3, h4⟩
  · go_enter Tryz.func56, Tryz.ntmps56
    go_wp2
    go_ret
    exact ⟨⟨_, rfl, Digs.nil _⟩, rfl⟩
  · have H4 : Hid (Digs w s xs) := h4
    clear h4
    go_enter Tryz.func56, Tryz.ntmps56
    go_wp2
    go_ret
    exact ⟨⟨_, rfl, H4.out⟩, rfl⟩
set_option maxHeartbeats 2000000 in
set_option maxRecDepth 100000 in
theorem Tryz.made (v : Value) (xs : List Int) (w : World) (h : Digs w v xs) (hx : Dig xs) :
    Calls Tryz.prog 53 #[v] w fun e w' => (∃ v', e = .returned v' ∧ Num w' v' (val xs) xs.length) ∧ Below w.heap.size w w' := by
  obtain ⟨p, cap, rfl, hlen, hrow⟩ := h.slice
  have H : Hid (Digs w (.slice p xs.length cap) xs) := h
  clear h hrow
  have hbd : ∀ (k : Nat) (w : World), (Instr.build 159 #[(0, .slice p k cap)]).run Tryz.prog w = .ok (.agg #[.slice p k cap]) w := fun k w => run_build w 159 _ _ (by kernel_rfl)
  go_enter Tryz.func53, Tryz.ntmps53
  go_wp2_with (go_at_call 58; (refine (Tryz.trim p cap xs _ H.out).mono ?_); rintro e w' ⟨⟨k, rfl, hk, ht, hv⟩, rfl⟩; have HT : Hid (k ≤ xs.length ∧ Top (xs.take k) ∧ val (xs.take k) = val xs) := ⟨hk, ht, hv⟩; clear hk ht hv)
  go_ret
  obtain ⟨hk, ht, hv⟩ := HT.out
  refine ⟨⟨_, rfl, xs.take k, .inr ⟨w'.heap.size, .slice p k cap, rfl, by simp, by simp, ?_⟩, hx.take k, ht, hv, by rw [List.length_take]; omega⟩, (Below.refl _ _).alloc (Nat.le_refl _) _⟩
  exact (H.out.cut k hk).below ((Below.refl w'.heap.size w').alloc (Nat.le_refl _) _) (Nat.le_refl _)
/-- A number by 2^k, either way; nothing of what is too far. -/
def far (z k : Int) : Int := if k < -100000 ∨ 100000 < k then 0 else if k < 0 then z / 2 ^ (-k).toNat else z * 2 ^ k.toNat
theorem Below.after {a b c : World} (h : Below a.heap.size a b) (k : Below b.heap.size b c) : Below a.heap.size a c := h.trans (k.mono h.size)
theorem Num.fewer {w : World} {v : Value} {z : Int} {n m : Nat} (h : Num w v z n) (hm : n ≤ m) : Num w v z m := by
  obtain ⟨xs, h1, h2, h3, h4, h5⟩ := h
  exact ⟨xs, h1, h2, h3, h4, by omega⟩
set_option maxHeartbeats 2000000 in
set_option maxRecDepth 100000 in
theorem Tryz.Shl (v : Value) (z k : Int) (n : Nat) (w : World) (h : Num w v z n) (hn : n ≤ 1000000) (k0 : -9223372036854775808 ≤ k) (k1 : k ≤ 9223372036854775807) :
    Calls Tryz.prog 36 #[v, .int .i64 k] w fun e w' => (∃ v', e = .returned v' ∧ Num w' v' (far z k) (n + 1600)) ∧ Below w.heap.size w w' := by
  have H : Hid (Num w v z n) := h
  clear h
  have HNIL : Hid (∀ w, Calls Tryz.prog 53 #[.slice none 0 0] w fun e w' => (∃ v', e = .returned v' ∧ Num w' v' 0 0) ∧ Below w.heap.size w w') := fun w => Tryz.made _ [] w (Digs.nil w) Dig.nil
  by_cases c1 : k < -100000
  · have HF : Hid (far z k = 0) := by unfold Hid far; rw [if_pos (.inl c1)]
    go_enter Tryz.func36, Tryz.ntmps36
    go_wp2_with (go_at_call 53; (with_reducible refine (HNIL.out _).mono ?_); rintro e w1 ⟨⟨v', rfl, hv⟩, hb⟩; have HV : Hid (Num w1 v' 0 0) := hv; clear hv)
    go_ret
    exact ⟨⟨_, rfl, by rw [HF.out]; exact HV.out.fewer (by omega)⟩, hb⟩
  · by_cases c2 : 100000 < k
    · have HF : Hid (far z k = 0) := by unfold Hid far; rw [if_pos (.inr c2)]
      go_enter Tryz.func36, Tryz.ntmps36
      go_wp2_with (go_at_call 53; (with_reducible refine (HNIL.out _).mono ?_); rintro e w1 ⟨⟨v', rfl, hv⟩, hb⟩; have HV : Hid (Num w1 v' 0 0) := hv; clear hv)
      go_ret
      exact ⟨⟨_, rfl, by rw [HF.out]; exact HV.out.fewer (by omega)⟩, hb⟩
    · by_cases c3 : k < 0
      · have HF : Hid (far z k = z / 2 ^ (-k).toNat) := by unfold Hid far; rw [if_neg (by omega), if_pos c3]
        obtain ⟨xs, hi, hd, ht, hv, hl⟩ := H.out
        have HI : Hid (IsNat w v xs) := hi
        have HD : Hid (Dig xs) := hd
        have HV : Hid (val xs = z) := hv
        clear hi hd ht hv
        go_enter Tryz.func36, Tryz.ntmps36
        go_wp2_with (first
          | (go_at_call 56; (refine (Tryz.all v xs _ HI.out).mono ?_); rintro e w1 ⟨⟨s, rfl, hs⟩, rfl⟩; have HS : Hid (Digs w1 s xs) := hs; clear hs)
          | (go_at_call 92; (refine (Tryz.lowered _ xs _ _ HS.out HD.out (by omega) (by omega) (by omega)).mono ?_); rintro e w2 ⟨⟨v2, L, rfl, hs2, hd2, hl2, hv2⟩, hb2⟩; have HS2 : Hid (Digs w2 v2 L ∧ Dig L ∧ val L = val xs / 2 ^ (-k).toNat) := ⟨hs2, hd2, hv2⟩; clear hs2 hd2 hv2)
          | (go_at_call 53; (refine (Tryz.made _ L _ HS2.out.1 HS2.out.2.1).mono ?_); rintro e w3 ⟨⟨v3, rfl, hv3⟩, hb3⟩; have HV3 : Hid (Num w3 v3 (val L) L.length) := hv3; clear hv3))
        go_ret
        exact ⟨⟨_, rfl, by rw [HF.out, ← HV.out, ← HS2.out.2.2]; exact HV3.out.fewer (by omega)⟩, Below.after hb2 hb3⟩
      · have HF : Hid (far z k = z * 2 ^ k.toNat) := by unfold Hid far; rw [if_neg (by omega), if_neg c3]
        obtain ⟨xs, hi, hd, ht, hv, hl⟩ := H.out
        have HI : Hid (IsNat w v xs) := hi
        have HD : Hid (Dig xs) := hd
        have HV : Hid (val xs = z) := hv
        clear hi hd ht hv
        go_enter Tryz.func36, Tryz.ntmps36
        go_wp2_with (first
          | (go_at_call 56; (refine (Tryz.all v xs _ HI.out).mono ?_); rintro e w1 ⟨⟨s, rfl, hs⟩, rfl⟩; have HS : Hid (Digs w1 s xs) := hs; clear hs)
          | (go_at_call 93; (refine (Tryz.raised _ xs _ _ HS.out HD.out (by omega) (by omega) (by omega)).mono ?_); rintro e w2 ⟨⟨L, rfl, hs2, hd2, hl2, hv2⟩, hb2⟩; have HS2 : Hid (Digs w2 (.slice (some ⟨w1.heap.size, 0, none⟩) L.length L.length) L ∧ Dig L ∧ val L = val xs * 2 ^ k.toNat) := ⟨hs2.digs (by unfold maxLen; omega), hd2, hv2⟩; clear hs2 hd2 hv2)
          | (go_at_call 53; (refine (Tryz.made _ L _ HS2.out.1 HS2.out.2.1).mono ?_); rintro e w3 ⟨⟨v3, rfl, hv3⟩, hb3⟩; have HV3 : Hid (Num w3 v3 (val L) L.length) := hv3; clear hv3))
        go_ret
        exact ⟨⟨_, rfl, by rw [HF.out, ← HV.out, ← HS2.out.2.2]; exact HV3.out.fewer (by omega)⟩, Below.after hb2 hb3⟩
/-- The same, downward. -/
def farDown (z k : Int) : Int := if k < -100000 then 0 else far z (-k)
set_option maxHeartbeats 2000000 in
set_option maxRecDepth 100000 in
theorem Tryz.Shr (v : Value) (z k : Int) (n : Nat) (w : World) (h : Num w v z n) (hn : n ≤ 1000000) (k0 : -9223372036854775808 ≤ k) (k1 : k ≤ 9223372036854775807) :
    Calls Tryz.prog 43 #[v, .int .i64 k] w fun e w' => (∃ v', e = .returned v' ∧ Num w' v' (farDown z k) (n + 1600)) ∧ Below w.heap.size w w' := by
  have H : Hid (Num w v z n) := h
  clear h
  have HNIL : Hid (∀ w, Calls Tryz.prog 53 #[.slice none 0 0] w fun e w' => (∃ v', e = .returned v' ∧ Num w' v' 0 0) ∧ Below w.heap.size w w') := fun w => Tryz.made _ [] w (Digs.nil w) Dig.nil
  by_cases c1 : k < -100000
  · have HF : Hid (farDown z k = 0) := by unfold Hid farDown; rw [if_pos c1]
    go_enter Tryz.func43, Tryz.ntmps43
    go_wp2_with (go_at_call 53; (with_reducible refine (HNIL.out _).mono ?_); rintro e w1 ⟨⟨v', rfl, hv⟩, hb⟩; have HV : Hid (Num w1 v' 0 0) := hv; clear hv)
    go_ret
    exact ⟨⟨_, rfl, by rw [HF.out]; exact HV.out.fewer (by omega)⟩, hb⟩
  · have HF : Hid (farDown z k = far z (-k)) := by unfold Hid farDown; rw [if_neg c1]
    go_enter Tryz.func43, Tryz.ntmps43
    go_wp2_with (go_at_call 36; (refine (Tryz.Shl v z (-k) n _ H.out hn (by omega) (by omega)).mono ?_); rintro e w1 ⟨⟨v', rfl, hv⟩, hb⟩; have HV : Hid (Num w1 v' (far z (-k)) (n + 1600)) := hv; clear hv)
    go_ret
    exact ⟨⟨_, rfl, by rw [HF.out]; exact HV.out⟩, hb⟩
set_option maxHeartbeats 2000000 in
set_option maxRecDepth 100000 in
theorem Tryz.Cmp (v u : Value) (z y : Int) (n m : Nat) (w : World) (hv : Num w v z n) (hu : Num w u y m) :
    Calls Tryz.prog 42 #[v, u] w fun e w' => e = .returned (.int .i64 (cmpI z y)) ∧ Below w.heap.size w w' := by
  obtain ⟨xs, hi, hd, ht, hz, hl⟩ := hv
  obtain ⟨ys, gi, gd, gt, gz, gl⟩ := hu
  have HI : Hid (IsNat w v xs) := hi
  have GI : Hid (IsNat w u ys) := gi
  have HC : Hid (∀ s t, Digs w s xs → Digs w t ys → Calls Tryz.prog 79 #[s, t] w fun e w' => e = .returned (.int .i64 (cmpI z y)) ∧ Below w.heap.size w w') := fun s t hs ht' => by
    rw [← hz, ← gz]; exact Tryz.compare s t xs ys w hs ht' hd gd ht gt
  clear hi gi hd gd ht gt hz gz
  go_enter Tryz.func42, Tryz.ntmps42
  go_wp2_with (first
    | (go_at_call 56; (first | (refine (Tryz.all v xs _ HI.out).mono ?_; rintro e w1 ⟨⟨s, rfl, hs⟩, rfl⟩; have HS : Hid (Digs w1 s xs) := hs; clear hs HI) | (refine (Tryz.all u ys _ GI.out).mono ?_; rintro e w2 ⟨⟨t, rfl, hs⟩, rfl⟩; have HT : Hid (Digs w2 t ys) := hs; clear hs)))
    | (go_at_call 79; (with_reducible refine (HC.out _ _ HS.out HT.out).mono ?_); rintro e w3 ⟨rfl, hb⟩))
  go_ret
  exact ⟨rfl, hb⟩
end Go.Proofs.Wd
