/- Numbers by words of 64 bits, the lowest first, as the package nat has them: what trim and compare return. What cmp.Compare at uint64 and compare of the package nat return. -/
import Derived.Test.YtcnjcfoaoaldeaaGreatDoorNb
set_option linter.unusedVariables false
set_option maxHeartbeats 4000000
set_option maxRecDepth 100000
namespace Go.Proofs.Wd
open Go.RowKit
/-- The number that digits of 2^64 show, the lowest first. -/
def val : List Int → Int
 | [] => 0
 | d :: l => d + 18446744073709551616 * val l
/-- Digits. -/
def Dig (l : List Int) : Prop := ∀ d ∈ l, 0 ≤ d ∧ d ≤ 18446744073709551615
@[simp] theorem val_nil : val [] = 0 := rfl
theorem val_cons (d : Int) (l : List Int) : val (d :: l) = d + 18446744073709551616 * val l := rfl
theorem val_append (a b : List Int) : val (a ++ b) = val a + 18446744073709551616 ^ a.length * val b := by
 induction a with
 | nil => simp
 | cons d l ih =>
   simp only [List.cons_append, val_cons, ih, List.length_cons, Int.pow_succ]
   rw [Int.mul_add, Int.add_assoc, ← Int.mul_assoc, Int.mul_comm 18446744073709551616 (18446744073709551616 ^ l.length)]
theorem val_snoc (a : List Int) (d : Int) : val (a ++ [d]) = val a + 18446744073709551616 ^ a.length * d := by
 rw [val_append, val_cons]; simp
theorem val_zeros (n : Nat) : val (List.replicate n 0) = 0 := by
 induction n with
 | zero => rfl
 | succ n ih => rw [List.replicate_succ, val_cons, ih]; rfl
theorem val_set (l : List Int) (j : Nat) (v : Int) (h : j < l.length) : val (l.set j v) = val l + 18446744073709551616 ^ j * (v - l.getD j 0) := by
 induction l generalizing j with
 | nil => simp at h
 | cons d l ih =>
   cases j with
   | zero => simp [val_cons]; omega
   | succ j =>
     simp only [List.set_cons_succ, val_cons, List.getD_cons_succ, Int.pow_succ]
     rw [ih j (by simpa using h), Int.mul_add, Int.add_assoc, ← Int.mul_assoc, Int.mul_comm 18446744073709551616 (18446744073709551616 ^ j)]
theorem Dig.nil : Dig [] := fun _ h => by simp at h
theorem Dig.tail {d : Int} {l : List Int} (h : Dig (d :: l)) : Dig l := fun x hx => h x (List.mem_cons_of_mem _ hx)
theorem Dig.head {d : Int} {l : List Int} (h : Dig (d :: l)) : 0 ≤ d ∧ d ≤ 18446744073709551615 := h d (by simp)
theorem Dig.append {a b : List Int} (h : Dig a) (k : Dig b) : Dig (a ++ b) := fun x hx => by
 rcases List.mem_append.1 hx with g | g
 ·exact h x g
 ·exact k x g
theorem Dig.take {l : List Int} (h : Dig l) (n : Nat) : Dig (l.take n) := fun x hx => h x (List.mem_of_mem_take hx)
theorem Dig.drop {l : List Int} (h : Dig l) (n : Nat) : Dig (l.drop n) := fun x hx => h x (List.mem_of_mem_drop hx)
theorem Dig.get {l : List Int} (h : Dig l) (j : Nat) : 0 ≤ l.getD j 0 ∧ l.getD j 0 ≤ 18446744073709551615 := by
 by_cases g : j < l.length
 ·have := h l[j] (List.getElem_mem g)
  simpa [List.getD, g] using this
 ·have : l[j]? = none := by simp; omega
  simp [List.getD, this]
theorem Dig.of_get {l : List Int} (h : ∀ j, j < l.length → 0 ≤ l.getD j 0 ∧ l.getD j 0 ≤ 18446744073709551615) : Dig l := by
 intro x hx
 obtain ⟨j, hj, rfl⟩ := List.mem_iff_getElem.1 hx
 have := h j hj
 simpa [List.getD, hj] using this
theorem pow_pos' (n : Nat) : (0 : Int) < 18446744073709551616 ^ n := Int.pow_pos (by omega)
theorem val_nonneg {l : List Int} (h : Dig l) : 0 ≤ val l := by
 induction l with
 | nil => simp
 | cons d l ih => have := ih h.tail; have := h.head; rw [val_cons]; omega
theorem val_lt {l : List Int} (h : Dig l) : val l < 18446744073709551616 ^ l.length := by
 induction l with
 | nil => simp
 | cons d l ih => have := ih h.tail; have := h.head; rw [val_cons, List.length_cons, Int.pow_succ]; omega
/-- Of the digits from place k on. -/
theorem val_drop (l : List Int) (k : Nat) : val (l.drop k) = l.getD k 0 + 18446744073709551616 * val (l.drop (k + 1)) := by
 by_cases h : k < l.length
 ·rw [List.drop_eq_getElem_cons h, val_cons]
  simp [List.getD, h]
 ·rw [List.drop_eq_nil_of_le (by omega), List.drop_eq_nil_of_le (by omega)]
  have : l[k]? = none := by simp; omega
  simp [List.getD, this]
theorem val_take_drop (l : List Int) (k : Nat) (h : k ≤ l.length) : val l = val (l.take k) + 18446744073709551616 ^ k * val (l.drop k) := by
 conv => lhs; rw [← List.take_append_drop k l]
 rw [val_append, List.length_take, Nat.min_eq_left h]
theorem val_take_succ (l : List Int) (k : Nat) (h : k < l.length) : val (l.take (k + 1)) = val (l.take k) + 18446744073709551616 ^ k * l.getD k 0 := by
 rw [List.take_add_one, List.getElem?_eq_getElem h]
 simp only [Option.toList_some]
 rw [val_snoc, List.length_take, Nat.min_eq_left (by omega)]
 simp [List.getD, h]
/-- No nought above. -/
def Top (l : List Int) : Prop := l = [] ∨ l.getD (l.length - 1) 0 ≠ 0
theorem top_pos {l : List Int} (h : Dig l) (t : Top l) (hl : l ≠ []) : 18446744073709551616 ^ (l.length - 1) ≤ val l := by
 have hn : 0 < l.length := by cases l with | nil => exact absurd rfl hl | cons => simp
 rcases t with t | t
 ·exact absurd t hl
 ·rw [val_take_drop l (l.length - 1) (by omega), val_drop]
  have a := val_nonneg (h.take (l.length - 1))
  have b := h.get (l.length - 1)
  have c := val_nonneg (h.drop (l.length - 1 + 1))
  have p := pow_pos' (l.length - 1)
  have : 18446744073709551616 ^ (l.length - 1) * 1 ≤ 18446744073709551616 ^ (l.length - 1) * (l.getD (l.length - 1) 0 + 18446744073709551616 * val (l.drop (l.length - 1 + 1))) := Int.mul_le_mul_of_nonneg_left (by omega) (by omega)
  omega
theorem top_zero {l : List Int} (h : Dig l) (t : Top l) : val l = 0 ↔ l = [] := by
 constructor
 ·intro e
  by_cases hl : l = []
  ·exact hl
  ·have := top_pos h t hl
   have := pow_pos' (l.length - 1)
   omega
 ·rintro rfl; rfl
/-- The slice v holds the digits xs in world w. -/
def Digs (w : World) (v : Value) (xs : List Int) : Prop := w.ownsRow 0 73 1 v xs.length (xs.map (Value.int .u64))
theorem Digs.nil (w : World) : Digs w (.slice none 0 0) [] := World.ownsRow_nil _ _ _ _
/-- What a walk asks of digits. -/
structure RowAt (w : World) (g : Nat) (cap : Nat) (xs : List Int) : Prop where
 lt : g < w.heap.size
 fits : xs.length ≤ cap
 max : cap ≤ maxLen
 cells : ∀ j, j < xs.length → w.cell? ⟨g, j, none⟩ = some (.int .u64 (xs.getD j 0))
theorem Digs.cases {w : World} {v : Value} {xs : List Int} (h : Digs w v xs) : (v = .slice none 0 0 ∧ xs = []) ∨ ∃ g cap, v = .slice (some ⟨g, 0, none⟩) xs.length cap ∧ RowAt w g cap xs := by
 obtain ⟨h0, h⟩ := h
 rcases h with ⟨rfl, h⟩ | ⟨g, cap, cur, rfl, hg, hh, hn, hc, hs, ht⟩
 ·exact .inl ⟨rfl, List.length_eq_zero_iff.1 h⟩
 ·refine .inr ⟨g, cap, rfl, (Array.getElem?_eq_some_iff.1 hh).1, hn, hc, fun j hj => ?_⟩
  rw [cell_of_row _ _ _ _ _ _ hh]
  have e : cur.toList[j]? = (xs.map (Value.int .u64))[j]? := by
   rw [← ht, List.getElem?_take_of_lt (by omega)]
  rw [Array.getElem?_toList] at e
  rw [e, List.getElem?_map, List.getElem?_eq_getElem hj]
  simp [List.getD, hj]
theorem Digs.below {w w' : World} {v : Value} {xs : List Int} {B : Nat} (h : Digs w v xs) (hb : Below B w w') (hB : w.heap.size ≤ B) : Digs w' v xs := by
 obtain ⟨h0, h⟩ := h
 refine ⟨h0, ?_⟩
 rcases h with h | ⟨g, cap, cur, h1, hg, hh, r⟩
 ·exact .inl h
 ·have hlt := (Array.getElem?_eq_some_iff.1 hh).1
  exact .inr ⟨g, cap, cur, h1, hg, by rw [hb.block g (by omega)]; exact hh, r⟩
theorem Digs.take {w : World} {g cap : Nat} {xs : List Int} (h : Digs w (.slice (some ⟨g, 0, none⟩) xs.length cap) xs) (k : Nat) (hk : k ≤ xs.length) : Digs w (.slice (some ⟨g, 0, none⟩) k cap) (xs.take k) := by
 obtain ⟨h0, h⟩ := h
 have hl : (xs.take k).length = k := by simp; omega
 refine ⟨by simp, ?_⟩
 rcases h with h | ⟨g', cap', cur, h1, hg, hh, hn, hc, hs, ht⟩
 ·simp at h
 ·simp only [Value.slice.injEq, Option.some.injEq, Addr.mk.injEq, and_true, true_and] at h1
  obtain ⟨rfl, rfl⟩ := h1
  refine .inr ⟨g, cap, cur, by rw [hl], hg, hh, by omega, hc, hs, ?_⟩
  have : (cur.toList.take (xs.length * 1)).take k = (xs.map (Value.int .u64)).take k := by rw [ht]
  rw [List.take_take, Nat.min_eq_left (by omega)] at this
  rw [hl, Nat.mul_one, this, List.map_take]
theorem top_take {xs : List Int} {k : Nat} (hk : k ≤ xs.length) (h : k = 0 ∨ xs.getD (k - 1) 0 ≠ 0) : Top (xs.take k) := by
 by_cases k0 : k = 0
 ·subst k0; exact .inl (by simp)
 ·have h := h.resolve_left k0
  refine .inr ?_
  have hl : (xs.take k).length = k := by simp; omega
  rw [hl]
  have e : (xs.take k).getD (k - 1) 0 = xs.getD (k - 1) 0 := by
   simp only [List.getD]
   rw [List.getElem?_take_of_lt (by omega)]
  rw [e]; exact h
theorem Digs.of_own {w : World} {B : Nat} {v : Value} {xs : List Int} (h : w.ownsRow B 73 1 v xs.length (xs.map (Value.int .u64))) : Digs w v xs := by
 obtain ⟨h0, h⟩ := h
 refine ⟨h0, ?_⟩
 rcases h with h | ⟨g, cap, cur, h1, hg, r⟩
 ·exact .inl h
 ·exact .inr ⟨g, cap, cur, h1, by omega, r⟩
theorem Digs.slice {w : World} {v : Value} {xs : List Int} (h : Digs w v xs) : ∃ p cap, v = .slice p xs.length cap ∧ xs.length ≤ 9223372036854775807 ∧ (0 < xs.length → ∃ g, p = some ⟨g, 0, none⟩ ∧ RowAt w g cap xs) := by
 rcases h.cases with ⟨rfl, rfl⟩ | ⟨g, cap, rfl, hr⟩
 ·exact ⟨none, 0, rfl, by simp, fun h => by simp at h⟩
 ·exact ⟨_, cap, rfl, by have := hr.fits; have := hr.max; unfold maxLen at this; omega, fun _ => ⟨g, rfl, hr⟩⟩
theorem pow_mono' {i j : Nat} (h : i ≤ j) : (18446744073709551616 : Int) ^ i ≤ 18446744073709551616 ^ j := by
 have e : (18446744073709551616 : Int) ^ j = 18446744073709551616 ^ i * 18446744073709551616 ^ (j - i) := by rw [← Int.pow_add, show i + (j - i) = j by omega]
 have h1 := pow_pos' (j - i)
 have h2 : (18446744073709551616 : Int) ^ i * 1 ≤ 18446744073709551616 ^ i * 18446744073709551616 ^ (j - i) := Int.mul_le_mul_of_nonneg_left (by omega) (by have := pow_pos' i; omega)
 omega
theorem val_parts (l : List Int) (k : Nat) : val l = val (l.take k) + 18446744073709551616 ^ k * val (l.drop k) := by
 by_cases h : k ≤ l.length
 ·exact val_take_drop l k h
 ·rw [List.take_of_length_le (by omega), List.drop_eq_nil_of_le (by omega)]; simp
theorem take_lt {l : List Int} (h : Dig l) (k : Nat) : val (l.take k) < 18446744073709551616 ^ k :=
 Int.lt_of_lt_of_le (val_lt (h.take k)) (pow_mono' (by rw [List.length_take]; omega))
theorem lt_of_drop {xs ys : List Int} (hx : Dig xs) (hy : Dig ys) (k : Nat) (h : val (xs.drop k) < val (ys.drop k)) : val xs < val ys := by
 rw [val_parts xs k, val_parts ys k]
 have h1 := take_lt hx k
 have h2 := val_nonneg (hy.take k)
 have h3 : (18446744073709551616 : Int) ^ k * (val (xs.drop k) + 1) ≤ 18446744073709551616 ^ k * val (ys.drop k) := Int.mul_le_mul_of_nonneg_left (by omega) (by have := pow_pos' k; omega)
 rw [Int.mul_add] at h3
 omega
/-- The order of two numbers, as Cmp tells it. -/
def cmpI (a b : Int) : Int := if a < b then -1 else if b < a then 1 else 0
theorem cmpI_lt {a b : Int} (h : a < b) : cmpI a b = -1 := by unfold cmpI; rw [if_pos h]
theorem cmpI_gt {a b : Int} (h : b < a) : cmpI a b = 1 := by unfold cmpI; rw [if_neg (by omega), if_pos h]
theorem cmpI_eq {a b : Int} (h : a = b) : cmpI a b = 0 := by unfold cmpI; rw [if_neg (by omega), if_neg (by omega)]
theorem getD_over {l : List Int} {k : Nat} (h : ¬ k < l.length) : l.getD k 0 = 0 := by
 have : l[k]? = none := by simp; omega
 simp [List.getD, this]
/-- Block O holds just the numbers L. -/
def RowOf (w : World) (O : Nat) (L : List Int) : Prop := w.heap[O]? = some (.cells (L.map (Value.int .u64)).toArray 73 (0, 0))
theorem RowOf.cell {w : World} {O : Nat} {L : List Int} (h : RowOf w O L) {j : Nat} (hj : j < L.length) : w.cell? ⟨O, j, none⟩ = some (.int .u64 (L.getD j 0)) := by
 rw [cell_of_row _ _ _ _ _ _ h]
 simp [List.getD, hj]
theorem RowOf.frozen {w : World} {O : Nat} {L : List Int} (h : RowOf w O L) (j : Nat) : w.frozen? ⟨O, j, none⟩ = false := frozen_of_row _ _ j _ _ h
theorem RowOf.set {w : World} {O : Nat} {L : List Int} (h : RowOf w O L) (j : Nat) (z : Int) : RowOf (w.setCell ⟨O, j, none⟩ (.int .u64 z)) O (L.set j z) := by
 unfold RowOf
 rw [heap_setCell_same _ _ _ _ _ _ h]
 congr 2
 apply Array.ext'
 simp [List.map_set]
theorem RowOf.below {w w' : World} {O B : Nat} {L : List Int} (h : RowOf w O L) (hb : Below B w w') (hO : O < B) : RowOf w' O L := by
 unfold RowOf; rw [hb.block O hO]; exact h
theorem RowOf.drew {w : World} {O : Nat} {L : List Int} (h : RowOf w O L) : RowOf w.drew O L := h
theorem RowOf.drewN {w : World} {O : Nat} {L : List Int} (h : RowOf w O L) : ∀ n, RowOf (w.drewN n) O L
 | 0 => by rw [World.drewN_zero]; exact h
 | n + 1 => by rw [← World.drew_drewN]; exact (RowOf.drewN h n).drew
theorem RowOf.of_made {w : World} {B g n : Nat} (h : w.ownsRow B 73 1 (.slice (some ⟨g, 0, none⟩) n n) n (List.replicate n (.int .u64 0))) : RowOf w g (List.replicate n 0) := by
 obtain ⟨h0, h⟩ := h
 rcases h with h | ⟨g', cap, cur, h1, hg, hh, hn, hc, hs, ht⟩
 ·simp at h
 ·simp only [Value.slice.injEq, Option.some.injEq, Addr.mk.injEq, and_true, true_and] at h1
  obtain ⟨rfl, rfl⟩ := h1
  unfold RowOf
  rw [hh]
  have : cur.toList.take (n * 1) = cur.toList := List.take_of_length_le (by simp; omega)
  rw [List.map_replicate]
  congr 2
  apply Array.ext'
  rw [← this, ht]
theorem RowOf.digs {w : World} {O : Nat} {L : List Int} (h : RowOf w O L) (hl : L.length ≤ maxLen) : Digs w (.slice (some ⟨O, 0, none⟩) L.length L.length) L := by
 refine ⟨by simp, .inr ⟨O, L.length, _, rfl, by omega, h, Nat.le_refl _, hl, by simp, ?_⟩⟩
 rw [Nat.mul_one]; exact List.take_of_length_le (by simp)
theorem RowOf.lt {w : World} {O : Nat} {L : List Int} (h : RowOf w O L) : O < w.heap.size := (Array.getElem?_eq_some_iff.1 h).1
theorem getD_set_self {L : List Int} {k : Nat} (z : Int) (h : k < L.length) : (L.set k z).getD k 0 = z := by
 simp [List.getD, h]
theorem getD_set_ne {L : List Int} {k j : Nat} (z : Int) (h : k ≠ j) : (L.set k z).getD j 0 = L.getD j 0 := by
 simp [List.getD, h]
theorem val_take_next (l : List Int) (k : Nat) : val (l.take (k + 1)) = val (l.take k) + 18446744073709551616 ^ k * l.getD k 0 := by
 by_cases h : k < l.length
 ·exact val_take_succ l k h
 ·rw [List.take_of_length_le (by omega), List.take_of_length_le (by omega), getD_over h]; simp
theorem Digs.cut {w : World} {p : Option Addr} {cap : Nat} {xs : List Int} (h : Digs w (.slice p xs.length cap) xs) (k : Nat) (hk : k ≤ xs.length) : Digs w (.slice p k cap) (xs.take k) := by
 rcases h.cases with ⟨h1, rfl⟩ | ⟨g, cap', h1, _⟩
 ·simp only [Value.slice.injEq] at h1
  obtain ⟨rfl, _, rfl⟩ := h1
  obtain rfl : k = 0 := by simpa using hk
  exact Digs.nil _
 ·simp only [Value.slice.injEq, true_and] at h1
  obtain ⟨rfl, rfl⟩ := h1
  exact h.take k hk
theorem Tryz.trim (p : Option Addr) (cap : Nat) (xs : List Int) (w : World) (h : Digs w (.slice p xs.length cap) xs) :
 Calls Tryz.prog 108 #[.slice p xs.length cap] w fun e w' => (∃ k : Nat, e = .returned (.slice p k cap) ∧ k ≤ xs.length ∧ Top (xs.take k) ∧ val (xs.take k) = val xs) ∧ w' = w := by
 obtain ⟨p', cap', hp, hlen, hrow⟩ := h.slice
 simp only [Value.slice.injEq, true_and] at hp
 obtain ⟨rfl, rfl⟩ := hp
 have HR : Hid (0 < xs.length → ∃ g, p = some ⟨g, 0, none⟩ ∧ RowAt w g cap xs) := hrow
 clear hrow h
 go_enter Tryz.func108, Tryz.ntmps108
 go_wp2
 go_loop [0] (fun v => ∃ k : Nat, k ≤ xs.length ∧ v = .slice p k cap ∧ val (xs.take k) = val xs) (fun v => match v with | .slice _ k _ => k | _ => 0)
 case atStart => exact ⟨xs.length, Nat.le_refl _, rfl, by simp⟩
 case round =>
  obtain ⟨k, hk, rfl, hv⟩ := hrel
  have HV : Hid (val (xs.take k) = val xs) := hv
  clear hv
  cases k with
  | zero =>
    go_wp2
    go_ret
    exact ⟨⟨0, rfl, by omega, .inl (by simp), HV.out⟩, rfl⟩
  | succ k =>
    obtain ⟨g, rfl, hr⟩ := HR.out (by omega)
    obtain ⟨hlt, hfits, hmax, hcells⟩ := hr
    unfold maxLen at hmax
    have hc := hcells k (by omega)
    clear hcells
    obtain ⟨d, hd⟩ : ∃ d, xs.getD k 0 = d := ⟨_, rfl⟩
    rw [hd] at hc
    have hD : Hid (xs.getD k 0 = d) := hd
    clear hd
    have hcase : (d == 0) = true ∨ (d == 0) = false := by cases (d == 0) <;> simp
    rcases hcase with h0 | h0
    ·have hd0 : d = 0 := by simpa using h0
     go_wp2
     exact ⟨⟨k, by omega, rfl, by rw [← HV.out, val_take_succ _ _ (by omega), hD.out, hd0]; simp⟩, by simp⟩
    ·have hd0 : d ≠ 0 := by simpa using h0
     go_wp2
     go_ret
     exact ⟨⟨k + 1, rfl, hk, top_take hk (.inr (by rw [Nat.add_sub_cancel, hD.out]; exact hd0)), HV.out⟩, rfl⟩
end Go.Proofs.Wd
namespace Go.Proofs.Wd
open Go.RowKit
theorem Tryz.nanU (a : Int) (w : World) : Calls Tryz.prog 170 #[.int .u64 a] w fun e w' => e = .returned (.bool false) ∧ w' = w := by
 go_enter Tryz.func170, Tryz.ntmps170
 go_wp2
 all_goals (go_ret; exact ⟨by simp, rfl⟩)
theorem Tryz.nanI (a : Int) (w : World) : Calls Tryz.prog 117 #[.int .i64 a] w fun e w' => e = .returned (.bool false) ∧ w' = w := by
 go_enter Tryz.func117, Tryz.ntmps117
 go_wp2
 all_goals (go_ret; exact ⟨by simp, rfl⟩)
theorem Tryz.cmpU (a b : Int) (w : World) : Calls Tryz.prog 131 #[.int .u64 a, .int .u64 b] w fun e w' => e = .returned (.int .i64 (cmpI a b)) ∧ w' = w := by
 go_enter Tryz.func131, Tryz.ntmps131
 go_wp2_with (go_at_call 170; refine (Tryz.nanU _ _).mono ?_; rintro e w' ⟨rfl, rfl⟩)
 all_goals (go_ret; refine ⟨?_, rfl⟩)
 ·rw [cmpI_lt (by assumption)]; rfl
 ·rw [cmpI_gt (by assumption)]; rfl
 ·rw [cmpI_eq (by omega)]; rfl
theorem Tryz.cmpN (a b : Int) (w : World) : Calls Tryz.prog 55 #[.int .i64 a, .int .i64 b] w fun e w' => e = .returned (.int .i64 (cmpI a b)) ∧ w' = w := by
 go_enter Tryz.func55, Tryz.ntmps55
 go_wp2_with (go_at_call 117; refine (Tryz.nanI _ _).mono ?_; rintro e w' ⟨rfl, rfl⟩)
 all_goals (go_ret; refine ⟨?_, rfl⟩)
 ·rw [cmpI_lt (by assumption)]; rfl
 ·rw [cmpI_gt (by assumption)]; rfl
 ·rw [cmpI_eq (by omega)]; rfl
/-- The longer of two numbers without noughts above is the greater. -/
theorem lenLt {xs ys : List Int} (hx : Dig xs) (hy : Dig ys) (ty : Top ys) (h : xs.length < ys.length) : val xs < val ys := by
 have h1 := val_lt hx
 have h2 := top_pos hy ty (fun e => by subst e; simp at h)
 have h3 := pow_mono' (show xs.length ≤ ys.length - 1 by omega)
 omega
theorem cmpLen {xs ys : List Int} (hx : Dig xs) (hy : Dig ys) (tx : Top xs) (ty : Top ys) (h : xs.length ≠ ys.length) : cmpI (val xs) (val ys) = cmpI xs.length ys.length := by
 by_cases c : xs.length < ys.length
 ·rw [cmpI_lt (lenLt hx hy ty c), cmpI_lt (by omega)]
 ·rw [cmpI_gt (lenLt hy hx tx (by omega)), cmpI_gt (by omega)]
theorem Tryz.compare (v u : Value) (xs ys : List Int) (w : World) (hv : Digs w v xs) (hu : Digs w u ys) (hx : Dig xs) (hy : Dig ys) (tx : Top xs) (ty : Top ys) :
 Calls Tryz.prog 172 #[v, u] w fun e w' => e = .returned (.int .i64 (cmpI (val xs) (val ys))) ∧ Below w.heap.size w w' := by
 obtain ⟨p, cap, rfl, hxl, hxr⟩ := hv.slice
 obtain ⟨q, dap, rfl, hyl, hyr⟩ := hu.slice
 have HX : Hid (0 < xs.length → ∃ g, p = some ⟨g, 0, none⟩ ∧ RowAt w g cap xs) := hxr
 have HY : Hid (0 < ys.length → ∃ g, q = some ⟨g, 0, none⟩ ∧ RowAt w g dap ys) := hyr
 have HL : Hid (xs.length ≠ ys.length → cmpI (val xs) (val ys) = cmpI xs.length ys.length) := fun h => cmpLen hx hy tx ty h
 clear hxr hyr hv hu
 obtain ⟨n, hn⟩ : ∃ n, xs.length = n := ⟨_, rfl⟩
 obtain ⟨m, hm⟩ : ∃ m, ys.length = m := ⟨_, rfl⟩
 rw [hn] at hxl
 rw [hm] at hyl
 rw [hn, hm] at HL
 rw [hn, hm]
 go_enter Tryz.func172, Tryz.ntmps172
 by_cases hnm : n = m
 ·subst hnm
  go_wp2
  go_loopw [5] (fun i wr => ∃ k : Nat, i = .int .i64 (k - 1) ∧ k ≤ n ∧ val (xs.drop k) = val (ys.drop k) ∧ Below w.heap.size w wr) (fun i _ => (intOf i + 1).toNat)
  case atStart => exact ⟨n, rfl, Nat.le_refl _, by rw [List.drop_eq_nil_of_le (by omega), List.drop_eq_nil_of_le (by omega)], Below.refl _ _⟩
  case round =>
   obtain ⟨k, rfl, hk, he, hb⟩ := hrel
   have HE : Hid (val (xs.drop k) = val (ys.drop k)) := he
   have HB : Hid (Below w.heap.size w wr) := hb
   clear he
   cases k with
   | zero =>
     have H0 : Hid (cmpI (val xs) (val ys) = 0) := cmpI_eq (by simpa using HE.out)
     clear hb
     go_wp2
     go_ret
     exact ⟨by rw [H0.out]; rfl, HB.out⟩
   | succ k =>
     rw [show ((k + 1 : Nat) : Int) - 1 = k by omega]
     obtain ⟨x, hxk⟩ : ∃ x, xs.getD k 0 = x := ⟨_, rfl⟩
     obtain ⟨y, hyk⟩ : ∃ y, ys.getD k 0 = y := ⟨_, rfl⟩
     have HNE : Hid (x ≠ y → cmpI (val xs) (val ys) = cmpI x y) := fun h => by
      by_cases c : x < y
      ·rw [cmpI_lt c]; exact cmpI_lt (lt_of_drop hx hy k (by rw [val_drop xs, val_drop ys, hxk, hyk, HE.out]; omega))
      ·rw [cmpI_gt (show y < x by omega)]; exact cmpI_gt (lt_of_drop hy hx k (by rw [val_drop xs, val_drop ys, hxk, hyk, HE.out]; omega))
     have HEQ : Hid (x = y → val (xs.drop k) = val (ys.drop k)) := fun h => by rw [val_drop xs, val_drop ys, hxk, hyk, HE.out, h]
     obtain ⟨g, rfl, hr⟩ := HX.out (by omega)
     obtain ⟨g', rfl, hr'⟩ := HY.out (by omega)
     have hcx := (hb.cell (p := ⟨g, k, none⟩) hr.lt).trans (hr.cells k (by omega))
     have hcy := (hb.cell (p := ⟨g', k, none⟩) hr'.lt).trans (hr'.cells k (by omega))
     rw [hxk] at hcx
     rw [hyk] at hcy
     clear hr hr' hxk hyk hb
     go_wp2
     go_region
     go_wp2
     ·have hne : x ≠ y := by intro e; subst e; simp at *
      obtain ⟨W1, hW1⟩ : ∃ W, wr.drew = W := ⟨_, rfl⟩
      have hcx1 : W1.cell? ⟨g, k, none⟩ = some (.int .u64 x) := by rw [← hW1]; exact hcx
      have hcy1 : W1.cell? ⟨g', k, none⟩ = some (.int .u64 y) := by rw [← hW1]; exact hcy
      have HBD : Hid (∀ n, Below w.heap.size w (W1.drewN n)) := by rw [← hW1]; exact belowN HB.out.drew
      rw [hW1]
      clear hW1 hcx hcy
      have HNN : Hid (cmpI (val xs) (val ys) = cmpI x y) := HNE.out hne
      have hk1 : (k : Int) < (n : Int) := by omega
      have hk0 : (0 : Int) ≤ (k : Int) := by omega
      go_quiet ((first | (go_at_call 131; exact Calls.quiet_of_same (Tryz.cmpU _ _ _))))
      go_wp2
      go_ret
      exact ⟨by rw [HNN.out]; rfl, HBD.out _⟩
     ·have he : x = y := by simpa using (by assumption : (x != y) = false)
      exact ⟨⟨k, rfl, by omega, HEQ.out he, HB.out.drew⟩, by simp [intOf]⟩
 ·have HLL : Hid (cmpI (val xs) (val ys) = cmpI n m) := HL.out hnm
  have hne : ((n : Int) != (m : Int)) = true := by simp; omega
  go_wp2_with (go_at_call 55; refine (Tryz.cmpN _ _ _).mono ?_; rintro e w' ⟨rfl, rfl⟩)
  go_ret
  exact ⟨by rw [HLL.out]; rfl, Below.refl _ _⟩
end Go.Proofs.Wd
