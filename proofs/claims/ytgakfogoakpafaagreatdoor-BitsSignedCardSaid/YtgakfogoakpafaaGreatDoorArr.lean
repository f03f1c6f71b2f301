/- Words bit by bit, as the documents' answers have them: what Bits, Word, Move, Len and Zeros of the reference return; and the walk of BitsShift. -/
import Derived.Test.YtgakfogoakpafaaGreatDoorBits2
import Derived.Laws.Rows
import Derived.Laws.Tables
import Derived.Deep.WholeRow
namespace Go.Proofs
open Go.RowKit
set_option linter.unusedVariables false
/-- A word, bit by bit from above: the k highest of 64 bits. -/
def hiBits (f : Nat → Bool) : Nat → Nat
  | 0 => 0
  | k + 1 => 2 * hiBits f k + (f (63 - k)).toNat
theorem testBit_two_add (n : Nat) (b : Bool) (j : Nat) : (2 * n + b.toNat).testBit j = if j = 0 then b else n.testBit (j - 1) := by
  cases j with
  | zero => cases b <;> simp [Nat.testBit_zero] <;> omega
  | succ j =>
    rw [Nat.testBit_succ]
    have : (2 * n + b.toNat) / 2 = n := by cases b <;> simp <;> omega
    rw [this]; simp
theorem hiBits_bit (f : Nat → Bool) (k : Nat) (hk : k ≤ 64) (j : Nat) : (hiBits f k).testBit j = (decide (j < k) && f (64 - k + j)) := by
  induction k generalizing j with
  | zero => simp [hiBits]
  | succ k ih =>
    rw [hiBits, testBit_two_add]
    cases j with
    | zero => simp
    | succ j =>
      rw [if_neg (by omega), ih (by omega)]
      simp only [Nat.add_sub_cancel]
      by_cases h : j < k
      · simp [h]; congr 1; omega
      · simp [h]
theorem hiBits_lt (f : Nat → Bool) (k : Nat) : hiBits f k < 2 ^ k := by
  induction k with
  | zero => simp [hiBits]
  | succ k ih => rw [hiBits, Nat.pow_succ]; cases f (63 - k) <;> simp <;> omega
/-- The word of 64 bits. -/
def wordOf (f : Nat → Bool) : Nat := hiBits f 64
theorem wordOf_bit (f : Nat → Bool) (j : Nat) : (wordOf f).testBit j = (decide (j < 64) && f j) := by
  rw [wordOf, hiBits_bit f 64 (by omega)]; simp
theorem wordOf_lt (f : Nat → Bool) : wordOf f < 18446744073709551616 := hiBits_lt f 64
theorem wordOf_self (x : Nat) (h : x < 18446744073709551616) : wordOf x.testBit = x := by
  apply Nat.eq_of_testBit_eq
  intro j
  rw [wordOf_bit]
  by_cases hj : j < 64
  · simp [hj]
  · have : x.testBit j = false := Nat.testBit_lt_two_pow (Nat.lt_of_lt_of_le h (Nat.pow_le_pow_right (show 0 < 2 by omega) (show 64 ≤ j by omega)))
    simp [hj, this]
theorem word_eq {f : Nat → Bool} {x : Nat} (h : x < 18446744073709551616) (hf : ∀ j, j < 64 → x.testBit j = f j) : wordOf f = x := by
  rw [← wordOf_self x h]
  apply Nat.eq_of_testBit_eq
  intro j
  rw [wordOf_bit, wordOf_bit]
  by_cases hj : j < 64
  · simp [hj, hf j hj]
  · simp [hj]
/-- 64 cells that hold bits. -/
def bitRow (f : Nat → Bool) : Array Value := ((List.range 64).map fun i => Value.bool (f i)).toArray
theorem bitRow_size (f : Nat → Bool) : (bitRow f).size = 64 := by simp [bitRow]
theorem bitRow_at (f : Nat → Bool) (i : Nat) (h : i < 64) : (bitRow f)[i]? = some (.bool (f i)) := by simp [bitRow, h]
theorem bitRow_set (f : Nat → Bool) (i : Nat) (b : Bool) : (bitRow f).setIfInBounds i (.bool b) = bitRow (fun j => if j = i then b else f j) := by
  apply Array.ext_getElem?
  intro j
  rw [Array.getElem?_setIfInBounds]
  by_cases hj : j < 64
  · rw [bitRow_at _ _ hj, bitRow_at _ _ hj, bitRow_size]
    by_cases h : i = j
    · subst h; simp [hj]
    · rw [if_neg h, if_neg (fun e => h e.symm)]
  · have e1 : (bitRow fun j => if j = i then b else f j)[j]? = none := by simp [bitRow_size]; omega
    have e2 : (bitRow f)[j]? = none := by simp [bitRow_size]; omega
    rw [e1, e2, bitRow_size]
    by_cases h : i = j
    · rw [if_pos h, if_neg (by omega)]
    · rw [if_neg h]
theorem bitRow_congr {f g : Nat → Bool} (h : ∀ j, j < 64 → f j = g j) : bitRow f = bitRow g := by
  unfold bitRow
  congr 1
  apply List.map_congr_left
  intro j hj
  rw [h j (List.mem_range.1 hj)]
theorem bitRow_one (f : Nat → Bool) : (bitRow f).all (·.oneCell') = true := by
  rw [Array.all_eq_true_iff_forall_mem]
  intro v hv
  simp [bitRow] at hv
  obtain ⟨i, _, rfl⟩ := hv
  rfl
theorem bitRow_zero : bitRow (fun _ => false) = Array.replicate 64 (.bool false) := by
  unfold bitRow
  rfl
theorem bit_step (x : Int) (h0 : 0 ≤ x) (k : Nat) : (x / 2 ^ k % 2 == 1) = x.toNat.testBit k := by
  obtain ⟨X, rfl⟩ := Int.eq_ofNat_of_zero_le h0
  have e : ((X : Int) / 2 ^ k % 2) = ((X / 2 ^ k % 2 : Nat) : Int) := by push_cast; rfl
  rw [e, Int.toNat_natCast, Nat.testBit_eq_decide_div_mod_eq]
  have g : ((X / 2 ^ k % 2 : Nat) : Int) = 1 ↔ X / 2 ^ k % 2 = 1 := by omega
  rw [Bool.eq_iff_iff, beq_iff_eq, decide_eq_true_iff, g]
theorem half_step (x : Int) (k : Nat) : x / 2 ^ k / 2 = x / 2 ^ (k + 1) := by
  have h2 : (0 : Int) < 2 ^ k := Int.pow_pos (by omega)
  rw [Int.ediv_ediv, if_neg (fun h => by omega), Int.sub_zero, ← Int.pow_succ]
set_option maxHeartbeats 2000000 in
set_option maxRecDepth 100000 in
theorem Tryz.rBits (x : Int) (w : World) (h0 : 0 ≤ x) (h1 : x ≤ 18446744073709551615) :
    Calls Tryz.prog 33 #[.int .u64 x] w fun e w' => e = .returned (.agg (bitRow x.toNat.testBit)) ∧ Below w.heap.size w w' := by
  have hi : (Tryz.prog.info? 49).map (·.size) = some 64 := by kernel_rfl
  go_enter Tryz.func33, Tryz.ntmps33
  go_wp2
  go_loopw [0, 4] (fun y n wr => ∃ k : Nat, k ≤ 64 ∧ n = .int .i64 k ∧ y = .int .u64 (x / 2 ^ k) ∧ wr.heap[w.heap.size + 1]? = some (.cells (bitRow fun j => decide (j < k) && x.toNat.testBit j) 49 (0, 0)) ∧
      wr.heap[w.heap.size]? = some (.cells (bitRow fun _ => false) 49 (0, 0)) ∧ Below w.heap.size w wr) (fun _ n _ => (64 - intOf n).toNat)
  case atStart =>
    refine ⟨0, by omega, rfl, by simp, ?_, ?_, ?_⟩
    · simp only [Nat.not_lt_zero, decide_false, Bool.false_and]; exact heap_alloc2_new _ _ _
    · exact heap_alloc2_old _ _ _
    · exact ((Below.refl _ _).alloc (Nat.le_refl _) _).alloc (by simp) _
  case round =>
    obtain ⟨k, hk, rfl, rfl, hrow, hres, hb⟩ := hrel
    have hcell : k < 64 → wr.cell? ⟨w.heap.size + 1, k, none⟩ = some (.bool (decide (k < k) && x.toNat.testBit k)) := fun h => by
      rw [cell_of_row _ _ k _ _ _ hrow]; exact bitRow_at _ _ h
    have hfr := frozen_of_row _ _ k _ _ hrow
    have HR : Hid (wr.heap[w.heap.size + 1]? = some (.cells (bitRow fun j => decide (j < k) && x.toNat.testBit j) 49 (0, 0))) := hrow
    have HS : Hid (wr.heap[w.heap.size]? = some (.cells (bitRow fun _ => false) 49 (0, 0))) := hres
    have HB : Hid (Below w.heap.size w wr) := hb
    clear hrow hres hb
    have hnn : 0 ≤ x / 2 ^ k := Int.ediv_nonneg h0 (Int.le_of_lt (Int.pow_pos (by omega)))
    by_cases hk64 : k = 64
    · subst hk64
      clear hcell
      go_wp2_with (first
        | (refine wpList_load_row rfl 49 _ rfl (w.heap.size + 1) rfl 49 _ (0, 0) (.array 64 4) HR.out Tryz.underlying49 rfl (by rw [bitRow_size]; exact hi) ?_
           refine wpList_store_row rfl 49 _ _ rfl (w.heap.size) _ rfl rfl 49 _ HS.out (by rw [bitRow_size]; exact hi) (by rw [bitRow_size, bitRow_size]) (bitRow_one _) ?_))
      have HE : (bitRow fun j => decide (j < 64) && x.toNat.testBit j) = bitRow x.toNat.testBit := bitRow_congr fun j hj => by simp [hj]
      have hres' := setRow_heap wr w.heap.size _ (bitRow x.toNat.testBit) 49 (0, 0) HS.out
      rw [HE]
      refine bodyPost_ret (v := .agg (bitRow x.toNat.testBit)) ?_ rfl ⟨rfl, ?_⟩
      · exact results_cell_row rfl _ _ w.heap.size 49 _ (0, 0) (.array 64 4) rfl hres' Tryz.underlying49 rfl (by rw [bitRow_size]; exact hi)
      · have hb := HB.out
        exact hb.trans ⟨rfl, rfl, rfl, by simp, fun j hj => setRow_other _ _ _ _ (by omega)⟩
    · have hk' : k < 64 := by omega
      have hcell' := hcell hk'
      clear hcell
      have hle : x / 2 ^ k ≤ 18446744073709551615 := Int.le_trans (Int.ediv_le_self _ h0) h1
      go_wp2
      refine ⟨⟨k + 1, by omega, by simp, by rw [half_step], ?_, ?_, HB.out.setCell (by simp) _⟩, by simp [intOf]; omega⟩
      · rw [heap_setCell_same _ _ _ _ _ _ HR.out, bitRow_set, bit_step x h0]
        congr 2
        apply bitRow_congr
        intro j hj
        by_cases e : j = k
        · subst e; simp
        · rw [if_neg e]; congr 1; rw [decide_eq_decide]; omega
      · rw [heap_setCell_other _ _ _ _ (by simp)]; exact HS.out
theorem hiBits_le (f : Nat → Bool) (k : Nat) (h : k ≤ 63) : (hiBits f k : Int) * 2 + 1 ≤ 18446744073709551615 := by
  have h1 := hiBits_lt f k
  have h2 : (2 : Nat) ^ k ≤ 2 ^ 63 := Nat.pow_le_pow_right (by omega) h
  have h3 : (2 : Nat) ^ 63 = 9223372036854775808 := rfl
  omega
set_option maxHeartbeats 2000000 in
set_option maxRecDepth 100000 in
theorem Tryz.rWord (f : Nat → Bool) (w : World) :
    Calls Tryz.prog 34 #[.agg (bitRow f)] w fun e w' => e = .returned (.int .u64 (wordOf f)) ∧ Below w.heap.size w w' := by
  go_enter Tryz.func34, Tryz.ntmps34
  go_wp2
  go_loopw [3, 4] (fun y n wr => ∃ k : Nat, k ≤ 64 ∧ n = .int .i64 (63 - k) ∧ y = .int .u64 (hiBits f k) ∧ wr.heap[w.heap.size]? = some (.cells (bitRow f) 49 (0, 0)) ∧ Below w.heap.size w wr) (fun _ n _ => (intOf n + 1).toNat)
  case atStart => exact ⟨0, by omega, rfl, by simp [hiBits], heap_alloc_new _ _, (Below.refl _ _).alloc (Nat.le_refl _) _⟩
  case round =>
    obtain ⟨k, hk, rfl, rfl, hrow, hb⟩ := hrel
    have HR : Hid (wr.heap[w.heap.size]? = some (.cells (bitRow f) 49 (0, 0))) := hrow
    have HB : Hid (Below w.heap.size w wr) := hb
    clear hrow hb
    by_cases hk64 : k = 64
    · subst hk64
      go_wp2
      go_ret
      exact ⟨rfl, HB.out⟩
    · obtain ⟨m, hm, hkm⟩ : ∃ m : Nat, m ≤ 63 ∧ k = 63 - m := ⟨63 - k, by omega, by omega⟩
      have hcell : wr.cell? ⟨w.heap.size, m, none⟩ = some (.bool (f m)) := by rw [cell_of_row _ _ _ _ _ _ HR.out]; exact bitRow_at _ _ (by omega)
      have hle := hiBits_le f k (by omega)
      have hhb : Hid (hiBits f (k + 1) = 2 * hiBits f k + (f m).toNat) := by show _ = _; rw [hiBits, show 63 - k = m by omega]
      have hk2 : Hid (k = 63 - m) := hkm
      rw [show (63 : Int) - k = m by omega]
      obtain ⟨X, hX⟩ : ∃ X, hiBits f k = X := ⟨_, rfl⟩
      rw [hX] at hle hhb
      rw [hX]
      clear hX hkm hk64
      obtain ⟨b, hfm⟩ : ∃ b, f m = b := ⟨_, rfl⟩
      rw [hfm] at hcell hhb
      clear hfm
      cases b with
      | true =>
        go_wp2
        refine ⟨⟨k + 1, by have := hk2.out; omega, by have := hk2.out; simp; omega, by rw [hhb.out]; simp; omega, HR.out, HB.out⟩, by simp [intOf]⟩
      | false =>
        go_wp2
        refine ⟨⟨k + 1, by have := hk2.out; omega, by have := hk2.out; simp; omega, by rw [hhb.out]; simp; omega, HR.out, HB.out⟩, by simp [intOf]⟩
/-- What Move's places hold. -/
def moveBit (x : Nat) (n : Int) (fill : Bool) (i : Nat) : Bool :=
  let k := (i : Int) - max (-100) (min n 100)
  if 0 ≤ k ∧ k < 64 then x.testBit k.toNat else if 64 ≤ k then fill else false
set_option maxHeartbeats 2000000 in
set_option maxRecDepth 100000 in
theorem Tryz.rMove (x n : Int) (fill : Bool) (w : World) (h0 : 0 ≤ x) (h1 : x ≤ 18446744073709551615) (h2 : -9223372036854775808 ≤ n) (h3 : n ≤ 9223372036854775807) :
    Calls Tryz.prog 12 #[.int .u64 x, .int .i64 n, .bool fill] w fun e w' => e = .returned (.int .u64 (wordOf (moveBit x.toNat n fill))) ∧ Below w.heap.size w w' := by
  have hi : (Tryz.prog.info? 49).map (·.size) = some 64 := by kernel_rfl
  have hsz := bitRow_size x.toNat.testBit
  have hst := fun w : World => run_storeCells_new (P := Tryz.prog) w 49 _ (bitRow x.toNat.testBit) (by rw [bitRow_size]; exact hi) (show (bitRow fun _ => false).size = _ by rw [bitRow_size, bitRow_size]) (bitRow_one _)
  have hz49 : ∀ w, (zeroValue 49).run Tryz.prog w = .ok (.agg (bitRow fun _ => false)) w := fun w => Tryz.zeroValue49 w
  go_enter Tryz.func12, Tryz.ntmps12
  go_wp2_with (go_at_call 33; refine (Tryz.rBits x _ h0 h1).mono ?_; rintro e w1 ⟨rfl, hb⟩)
  have hB1 := hb.size
  have hb2 := (hb.alloc hb.size (.cells (bitRow x.toNat.testBit) 49)).alloc (by simp; omega) (.cells (bitRow fun _ => false) 49)
  clear hst hz49 hb
  go_loopw [9] (fun i wr => ∃ k : Nat, k ≤ 64 ∧ i = .int .i64 k ∧ wr.heap[w1.heap.size]? = some (.cells (bitRow x.toNat.testBit) 49 (0, 0)) ∧
      wr.heap[w1.heap.size + 1]? = some (.cells (bitRow fun j => decide (j < k) && moveBit x.toNat n fill j) 49 (0, 0)) ∧ Below w.heap.size w wr) (fun i _ => (64 - intOf i).toNat)
  case atStart =>
    refine ⟨0, by omega, rfl, heap_alloc2_old _ _ _, ?_, hb2⟩
    simp only [Nat.not_lt_zero, decide_false, Bool.false_and]; exact heap_alloc2_new _ _ _
  case round =>
    obtain ⟨k, hk, rfl, hrow, hout, hb⟩ := hrel
    have HR : Hid (wr.heap[w1.heap.size]? = some (.cells (bitRow x.toNat.testBit) 49 (0, 0))) := hrow
    have HS : Hid (wr.heap[w1.heap.size + 1]? = some (.cells (bitRow fun j => decide (j < k) && moveBit x.toNat n fill j) 49 (0, 0))) := hout
    have HB : Hid (Below w.heap.size w wr) := hb
    clear hrow hb hout hb2
    by_cases hk64 : k = 64
    · subst hk64
      have HE : (bitRow fun j => decide (j < 64) && moveBit x.toNat n fill j) = bitRow (moveBit x.toNat n fill) := bitRow_congr fun j hj => by simp [hj]
      have HS' := HS.out
      rw [HE] at HS'
      have HS : Hid (wr.heap[w1.heap.size + 1]? = some (.cells (bitRow (moveBit x.toNat n fill)) 49 (0, 0))) := HS'
      clear HS' HE
      go_wp2_with (first
        | (refine wpList_load_row rfl 49 _ rfl (w1.heap.size + 1) rfl 49 _ (0, 0) (.array 64 4) HS.out Tryz.underlying49 rfl (by rw [bitRow_size]; exact hi) ?_)
        | (go_at_call 34; refine (Tryz.rWord _ _).mono ?_; rintro e w2 ⟨rfl, hb⟩))
      go_ret
      exact ⟨rfl, HB.out.trans (hb.mono HB.out.size)⟩
    · have hk' : k < 64 := by omega
      obtain ⟨M, hM⟩ : ∃ M, max (-100) (min n 100) = M := ⟨_, rfl⟩
      have hM0 : -100 ≤ M ∧ M ≤ 100 := by omega
      have hcs : wr.cell? ⟨w1.heap.size + 1, k, none⟩ = some (.bool (decide (k < k) && moveBit x.toNat n fill k)) := by rw [cell_of_row _ _ _ _ _ _ HS.out]; exact bitRow_at _ _ hk'
      have hfr := frozen_of_row _ _ k _ _ HS.out
      have hmv : moveBit x.toNat n fill k = (if 0 ≤ (k : Int) - M ∧ (k : Int) - M < 64 then x.toNat.testBit ((k : Int) - M).toNat else if 64 ≤ (k : Int) - M then fill else false) := by unfold moveBit; simp only [hM]
      have hset : ∀ b, moveBit x.toNat n fill k = b → (wr.setCell ⟨w1.heap.size + 1, k, none⟩ (.bool b)).heap[w1.heap.size + 1]? = some (.cells (bitRow fun j => decide (j < k + 1) && moveBit x.toNat n fill j) 49 (0, 0)) := fun b hb => by
        rw [heap_setCell_same _ _ _ _ _ _ HS.out, bitRow_set]
        congr 2
        apply bitRow_congr
        intro j hj
        by_cases e : j = k
        · subst e; simp [hb]
        · rw [if_neg e]; congr 1; rw [decide_eq_decide]; omega
      have HSET := (show Hid _ from hset)
      clear hset
      by_cases c1 : (k : Int) - M < 0
      · have hmv' : moveBit x.toNat n fill k = false := by rw [hmv, if_neg (by omega), if_neg (by omega)]
        have HMV : Hid (moveBit x.toNat n fill k = false) := hmv'
        clear hmv hmv' hcs HSET
        go_wp2
        refine ⟨⟨k + 1, by omega, by simp, HR.out, ?_, HB.out⟩, by simp [intOf]; omega⟩
        rw [HS.out]
        congr 2
        apply bitRow_congr
        intro j hj
        by_cases e : j = k
        · subst e; simp [HMV.out]
        · congr 1; rw [decide_eq_decide]; omega
      · by_cases c2 : 64 ≤ (k : Int) - M
        · have hmv' : moveBit x.toNat n fill k = fill := by rw [hmv, if_neg (by omega), if_pos c2]
          have HMV : Hid (moveBit x.toNat n fill k = fill) := hmv'
          clear hmv hmv'
          go_wp2
          exact ⟨⟨k + 1, by omega, by simp, by rw [heap_setCell_other _ _ _ _ (by simp)]; exact HR.out, HSET.out _ HMV.out, HB.out.setCell (by simp; omega) _⟩, by simp [intOf]; omega⟩
        · obtain ⟨m, hm⟩ : ∃ m : Nat, (k : Int) - M = m := ⟨((k : Int) - M).toNat, by omega⟩
          have hmv' : moveBit x.toNat n fill k = x.toNat.testBit m := by rw [hmv, if_pos (by omega), hm]; rfl
          have HMV : Hid (moveBit x.toNat n fill k = x.toNat.testBit m) := hmv'
          have hcx : wr.cell? ⟨w1.heap.size, m, none⟩ = some (.bool (x.toNat.testBit m)) := by rw [cell_of_row _ _ _ _ _ _ HR.out]; exact bitRow_at _ _ (by omega)
          clear hmv hmv'
          have hm64 : m < 64 := by omega
          clear c1 c2
          go_wp2
          exact ⟨⟨k + 1, by omega, by simp, by rw [heap_setCell_other _ _ _ _ (by simp)]; exact HR.out, HSET.out _ HMV.out, HB.out.setCell (by simp; omega) _⟩, by simp [intOf]; omega⟩
set_option maxHeartbeats 2000000 in
theorem Tryz.rLen (x : Int) (w : World) (h0 : 0 ≤ x) (h1 : x ≤ 18446744073709551615) :
    Calls Tryz.prog 17 #[.int .u64 x] w fun e w' => (∃ L, IsLen x L ∧ e = .returned (.int .i64 L)) ∧ w' = w := by
  go_enter Tryz.func17, Tryz.ntmps17
  go_wp2
  go_loop [0, 3] (fun y n => ∃ k : Nat, y = .int .u64 (x / 2 ^ k) ∧ n = .int .i64 k ∧ (k = 0 ∨ 1 ≤ x / 2 ^ (k - 1))) (fun y _ => (intOf y).toNat)
  case atStart => exact ⟨0, by simp, rfl, .inl rfl⟩
  case round =>
    obtain ⟨k, rfl, rfl, hk⟩ := hrel
    have HK : Hid (k = 0 ∨ 1 ≤ x / 2 ^ (k - 1)) := hk
    have hnn : 0 ≤ x / 2 ^ k := Int.ediv_nonneg h0 (Int.le_of_lt (Int.pow_pos (by omega)))
    have hle : x / 2 ^ k ≤ 18446744073709551615 := Int.le_trans (Int.ediv_le_self _ h0) h1
    have HN : Hid (x / 2 ^ k / 2 = x / 2 ^ (k + 1)) := half_step x k
    have hk64 : k ≤ 64 := by
      by_cases g : k ≤ 64
      · exact g
      · have h2 : (0 : Int) < 2 ^ (k - 1) := Int.pow_pos (by omega)
        have h3 := hk.resolve_left (by omega)
        rw [Int.le_ediv_iff_mul_le h2, Int.one_mul] at h3
        have h4 : (2 : Int) ^ (k - 1) = 2 ^ 64 * 2 ^ (k - 1 - 64) := by rw [← Int.pow_add, show 64 + (k - 1 - 64) = k - 1 by omega]
        have h5 : (0 : Int) < 2 ^ (k - 1 - 64) := Int.pow_pos (by omega)
        have h6 : (2 : Int) ^ 64 = 18446744073709551616 := rfl
        rw [h4, h6] at h3
        omega
    clear hk
    obtain ⟨a, ha⟩ : ∃ a, x / 2 ^ k = a := ⟨_, rfl⟩
    have HA : Hid (x / 2 ^ k = a) := ha
    rw [ha] at hnn hle HN ⊢
    clear ha
    by_cases hp : 0 < a
    · go_wp2
      exact ⟨⟨k + 1, by rw [← HN.out], by simp, .inr (by rw [Nat.add_sub_cancel, HA.out]; omega)⟩, by simp [intOf]; omega⟩
    · go_wp2
      go_ret
      refine ⟨⟨k, ?_, rfl⟩, rfl⟩
      have ha0 : x / 2 ^ k = 0 := by rw [HA.out]; omega
      have h2 : (0 : Int) < 2 ^ k := Int.pow_pos (by omega)
      refine ⟨by omega, by omega, ?_, ?_⟩
      · have := (Int.ediv_lt_iff_lt_mul h2 (a := x) (b := 1)).1 (by omega)
        simpa using this
      · rcases HK.out with h | h
        · subst h; left; simp at ha0; exact ⟨ha0, rfl⟩
        · have hk0 : k ≠ 0 := by rintro rfl; simp at h ha0; omega
          right
          refine ⟨by omega, ?_⟩
          have h3 : (0 : Int) < 2 ^ (k - 1) := Int.pow_pos (by omega)
          rw [Int.le_ediv_iff_mul_le h3, Int.one_mul] at h
          rw [show ((k : Int) - 1).toNat = k - 1 by omega]; exact h
theorem isLen_one {x L M : Int} (h : IsLen x L) (k : IsLen x M) : L = M := by
  rcases h.ge with ⟨a, b⟩ | ⟨a, b⟩
  · rcases k.ge with ⟨c, d⟩ | ⟨c, d⟩
    · omega
    · have : (0 : Int) < 2 ^ (M - 1).toNat := Int.pow_pos (by omega)
      omega
  · rcases k.ge with ⟨c, d⟩ | ⟨c, d⟩
    · have : (0 : Int) < 2 ^ (L - 1).toNat := Int.pow_pos (by omega)
      omega
    · have e1 : (2 : Int) ^ (L - 1).toNat < 2 ^ M.toNat := Int.lt_of_le_of_lt b k.lt
      have e2 : (2 : Int) ^ (M - 1).toNat < 2 ^ L.toNat := Int.lt_of_le_of_lt d h.lt
      have f1 : (2 : Nat) ^ (L - 1).toNat < 2 ^ M.toNat := by exact_mod_cast e1
      have f2 : (2 : Nat) ^ (M - 1).toNat < 2 ^ L.toNat := by exact_mod_cast e2
      have g1 := (Nat.pow_lt_pow_iff_right (show 1 < 2 by omega)).1 f1
      have g2 := (Nat.pow_lt_pow_iff_right (show 1 < 2 by omega)).1 f2
      omega
set_option maxHeartbeats 2000000 in
theorem Tryz.rZeros (x : Int) (w : World) (h0 : 0 ≤ x) (h1 : x ≤ 18446744073709551615) :
    Calls Tryz.prog 19 #[.int .u64 x] w fun e w' => (∃ z, IsZeros x z ∧ e = .returned (.int .i64 z)) ∧ w' = w := by
  go_enter Tryz.func19, Tryz.ntmps19
  go_wp2
  go_loop [0, 3] (fun y n => ∃ (k : Nat) (a : Int), y = .int .u64 a ∧ n = .int .i64 k ∧ k ≤ 64 ∧ 0 ≤ a ∧ a ≤ 18446744073709551615 ∧ x = a * 2 ^ k) (fun _ n => (64 - intOf n).toNat)
  case atStart => exact ⟨0, x, rfl, rfl, by omega, h0, h1, by simp⟩
  case round =>
    obtain ⟨k, a, rfl, rfl, hk, ha0, ha1, hx⟩ := hrel
    have HX : Hid (x = a * 2 ^ k) := hx
    clear hx
    by_cases hk64 : k = 64
    · subst hk64
      go_wp2
      go_ret
      refine ⟨⟨64, ?_, rfl⟩, rfl⟩
      have h6 : (2 : Int) ^ 64 = 18446744073709551616 := rfl
      have hx := HX.out
      rw [h6] at hx
      exact ⟨by omega, fun _ => rfl, fun h => absurd (show x = 0 by omega) h⟩
    · have hk' : k < 64 := by omega
      have hcase : a % 2 = 0 ∨ a % 2 = 1 := by omega
      rcases hcase with h | h
      · have hb : (a % 2 == 0) = true := by simpa using h
        go_wp2
        exact ⟨⟨k + 1, a / 2, rfl, by simp, by omega, by omega, by omega, by rw [HX.out, Int.pow_succ, Int.mul_comm (2 ^ k) 2, ← Int.mul_assoc]; congr 1; omega⟩, by simp [intOf]; omega⟩
      · have hb : (a % 2 == 0) = false := by simp; omega
        go_wp2
        go_ret
        refine ⟨⟨k, ?_, rfl⟩, rfl⟩
        have h2 : (0 : Int) < 2 ^ k := Int.pow_pos (by omega)
        refine ⟨by omega, fun hz => ?_, fun _ => ⟨by omega, a / 2, by omega, ?_⟩⟩
        · have hx := HX.out
          rw [hz] at hx
          rcases Int.mul_eq_zero.1 hx.symm with e | e
          · omega
          · omega
        · rw [HX.out, Int.toNat_natCast]; congr 1; omega
theorem isZeros_one {x y z : Int} (h : IsZeros x y) (k : IsZeros x z) : y = z := by
  by_cases hx : x = 0
  · rw [h.at0 hx, k.at0 hx]
  · obtain ⟨h1, m, h2, h3⟩ := h.odd hx
    obtain ⟨k1, n, k2, k3⟩ := k.odd hx
    have hl := h.lo
    have kl := k.lo
    have key : ∀ (p q : Nat) (m n : Int), (2 * m + 1) * 2 ^ p = (2 * n + 1) * 2 ^ q → p ≤ q → p = q := by
      intro p q m n e hpq
      have hp : (0 : Int) < 2 ^ p := Int.pow_pos (by omega)
      rw [show q = p + (q - p) by omega, Int.pow_add, Int.mul_comm (2 ^ p), ← Int.mul_assoc] at e
      have e2 := Int.eq_of_mul_eq_mul_right (by omega) e
      by_cases hd : q - p = 0
      · omega
      · rw [show q - p = (q - p - 1) + 1 by omega, Int.pow_succ, ← Int.mul_assoc] at e2
        omega
    rcases Nat.le_total y.toNat z.toNat with g | g
    · have := key _ _ m n (by rw [← h3, ← k3]) g; omega
    · have := key _ _ n m (by rw [← h3, ← k3]) g; omega
theorem moveShl (x n : Int) (h0 : 0 ≤ x) (h1 : x ≤ 18446744073709551615) : (wordOf (moveBit x.toNat n false) : Int) = shlV x n := by
  obtain ⟨X, rfl⟩ := Int.eq_ofNat_of_zero_le h0
  have hX : X < 18446744073709551616 := by omega
  rw [Int.toNat_natCast]
  unfold shlV
  have big : ∀ j, 64 ≤ j → X.testBit j = false := fun j hj => Nat.testBit_lt_two_pow (Nat.lt_of_lt_of_le hX (Nat.pow_le_pow_right (show 0 < 2 by omega) hj))
  by_cases c1 : n ≤ -64
  · rw [if_pos c1, word_eq (x := 0) (by omega)]
    · rfl
    · intro j hj
      unfold moveBit
      simp only [Nat.zero_testBit]
      rw [if_neg (by omega), ite_self]
  · rw [if_neg c1]
    by_cases c2 : n < 0
    · rw [if_pos c2]
      obtain ⟨m, hm⟩ : ∃ m : Nat, n = -(m : Int) := ⟨(-n).toNat, by omega⟩
      subst hm
      rw [show (-(-(m : Int))).toNat = m by omega, word_eq (x := X / 2 ^ m)]
      · push_cast; rfl
      · exact Nat.lt_of_le_of_lt (Nat.div_le_self _ _) hX
      · intro j hj
        rw [Nat.testBit_div_two_pow]
        unfold moveBit
        simp only
        rw [show (j : Int) - max (-100) (min (-(m : Int)) 100) = ((m + j : Nat) : Int) by omega]
        by_cases g : m + j < 64
        · rw [if_pos (by omega), Int.toNat_natCast, Nat.add_comm]
        · rw [if_neg (by omega), ite_self, Nat.add_comm, big _ (by omega)]
    · rw [if_neg c2]
      obtain ⟨m, hm⟩ : ∃ m : Nat, n = (m : Int) := ⟨n.toNat, by omega⟩
      subst hm
      rw [Int.toNat_natCast, word_eq (x := X * 2 ^ min m 64 % 18446744073709551616)]
      · generalize hP : 2 ^ min m 64 = P
        have hP2 : (2 : Int) ^ min m 64 = P := by rw [← hP]; simp
        rw [hP2, Int.natCast_emod, Int.natCast_mul]; rfl
      · exact Nat.mod_lt _ (by omega)
      · intro j hj
        rw [show (18446744073709551616 : Nat) = 2 ^ 64 from rfl, Nat.testBit_mod_two_pow, Nat.testBit_mul_two_pow]
        unfold moveBit
        simp only
        by_cases g : min m 64 ≤ j
        · rw [if_pos (by omega)]
          rw [show ((j : Int) - max (-100) (min (m : Int) 100)).toNat = j - min m 64 by omega]
          simp [hj, g]
        · rw [if_neg (by omega), ite_self]
          simp [g]
theorem shrShl (x n : Int) (h0 : 0 ≤ x) (h1 : x ≤ 18446744073709551615) : shrV x n = shlV x (-n) := by
  unfold shrV shlV
  by_cases c1 : n ≤ -64
  · rw [if_pos c1, if_neg (by omega), if_neg (by omega), show min (-n).toNat 64 = 64 by omega]
    rw [show (2 : Int) ^ 64 = 18446744073709551616 from rfl]; omega
  · rw [if_neg c1]
    by_cases c2 : n < 0
    · rw [if_pos c2, if_neg (by omega), if_neg (by omega), show min (-n).toNat 64 = (-n).toNat by omega]
    · rw [if_neg c2]
      by_cases c3 : n ≤ 0
      · obtain rfl : n = 0 := by omega
        simp; omega
      · by_cases c4 : 64 ≤ n
        · rw [if_pos (by omega), show min n.toNat 64 = 64 by omega, show (2 : Int) ^ 64 = 18446744073709551616 from rfl]; omega
        · rw [if_neg (by omega), if_pos (by omega), show min n.toNat 64 = n.toNat by omega, Int.neg_neg]
theorem moveNeg (x : Nat) (n : Int) (b : Bool) : moveBit x (-max n (-100)) b = moveBit x (-n) b := by
  funext i
  unfold moveBit
  simp only
  rw [show max (-100) (min (-max n (-100)) 100) = max (-100) (min (-n) 100) by omega]
theorem moveShr (x n : Int) (h0 : 0 ≤ x) (h1 : x ≤ 18446744073709551615) : (wordOf (moveBit x.toNat (-max n (-100)) false) : Int) = shrV x n := by
  rw [moveNeg, moveShl _ _ h0 h1, shrShl _ _ h0 h1]
theorem moveSarUp (x n : Int) (h0 : 0 ≤ x) (h1 : x ≤ 18446744073709551615) (hn : n < 0) : (wordOf (moveBit x.toNat (-max n (-100)) false) : Int) = IntKind.u64.wrap (sarV (RowKit.wrap64 x) n) := by
  rw [moveShr _ _ h0 h1]
  unfold shrV sarV
  by_cases c1 : n ≤ -64
  · rw [if_pos c1, if_pos c1]; rfl
  · rw [if_neg c1, if_neg c1, if_pos hn, if_pos hn, u64w]
    have e : ∀ z : Int, RowKit.wrap64 z % 18446744073709551616 = z % 18446744073709551616 := fun z => by unfold RowKit.wrap64; omega
    rw [e, Int.mul_emod (RowKit.wrap64 x), e, ← Int.mul_emod]
theorem moveSar (x n : Int) (h0 : 0 ≤ x) (h1 : x ≤ 18446744073709551615) (hn : 0 ≤ n) : (wordOf (moveBit x.toNat (-max n (-100)) (decide (RowKit.wrap64 x < 0))) : Int) = IntKind.u64.wrap (sarV (RowKit.wrap64 x) n) := by
  by_cases hs : RowKit.wrap64 x < 0
  · rw [moveNeg]
    simp only [hs, decide_true]
    obtain ⟨X, rfl⟩ := Int.eq_ofNat_of_zero_le h0
    obtain ⟨m, rfl⟩ := Int.eq_ofNat_of_zero_le hn
    have hX : X < 18446744073709551616 := by omega
    have hsx : RowKit.wrap64 X = -1 - ((18446744073709551615 - X : Nat) : Int) := by unfold RowKit.wrap64 at hs ⊢; omega
    have hbit := Nat.testBit_two_pow_sub_succ (show X < 2 ^ 64 from hX)
    have e0 : 2 ^ 64 - (X + 1) = 18446744073709551615 - X := by omega
    rw [e0] at hbit
    have hC : 18446744073709551615 - X < 18446744073709551616 := by omega
    have hf : sarV (RowKit.wrap64 X) m = -1 - (((18446744073709551615 - X) / 2 ^ min m 64 : Nat) : Int) := by
      unfold sarV
      rw [if_neg (by omega), if_neg (by omega), Int.toNat_natCast, hsx]
      generalize 18446744073709551615 - X = C
      have hp : (0 : Int) < 2 ^ min m 64 := Int.pow_pos (by omega)
      push_cast
      have e1 := Int.mul_ediv_add_emod (C : Int) (2 ^ min m 64)
      have e2 := Int.emod_nonneg (C : Int) (show (2 : Int) ^ min m 64 ≠ 0 by omega)
      have e3 := Int.emod_lt_of_pos (C : Int) hp
      generalize (C : Int) / 2 ^ min m 64 = q at e1 ⊢
      generalize (C : Int) % 2 ^ min m 64 = r at e1 e2 e3
      generalize (2 : Int) ^ min m 64 = p at *
      apply Int.le_antisymm
      · apply Int.le_of_lt_add_one
        rw [Int.ediv_lt_iff_lt_mul hp, Int.add_mul, Int.sub_mul, Int.mul_comm q p]; omega
      · rw [Int.le_ediv_iff_mul_le hp, Int.sub_mul, Int.mul_comm q p]; omega
    rw [hf, u64w]
    have hdl : (18446744073709551615 - X) / 2 ^ min m 64 < 18446744073709551616 := Nat.lt_of_le_of_lt (Nat.div_le_self _ _) hC
    have hb2 := Nat.testBit_two_pow_sub_succ (show (18446744073709551615 - X) / 2 ^ min m 64 < 2 ^ 64 from hdl)
    have hdiv : ∀ j, ((18446744073709551615 - X) / 2 ^ min m 64).testBit j = (18446744073709551615 - X).testBit (j + min m 64) := fun j => Nat.testBit_div_two_pow ..
    generalize (18446744073709551615 - X) / 2 ^ min m 64 = D at hdl hb2 hdiv ⊢
    have e1 : 2 ^ 64 - (D + 1) = 18446744073709551615 - D := by omega
    rw [e1] at hb2
    rw [word_eq (x := 18446744073709551615 - D) (by omega)]
    · omega
    · intro j hj
      rw [hb2, hdiv, hbit]
      unfold moveBit
      simp only
      by_cases g : j + min m 64 < 64
      · rw [if_pos (by omega), show ((j : Int) - max (-100) (min (-(m : Int)) 100)).toNat = j + min m 64 by omega]
        simp [hj, g]
      · rw [if_neg (by omega), if_pos (by omega)]
        simp [hj, g]
  · simp only [hs, decide_false]
    rw [moveShr _ _ h0 h1]
    have hsx : RowKit.wrap64 x = x := by unfold RowKit.wrap64 at hs ⊢; omega
    rw [hsx]
    unfold shrV sarV
    rw [if_neg (by omega), if_neg (by omega), if_neg (by omega), if_neg (by omega), u64w]
    have a1 : 0 ≤ x / 2 ^ min n.toNat 64 := Int.ediv_nonneg h0 (Int.le_of_lt (Int.pow_pos (by omega)))
    have a2 : x / 2 ^ min n.toNat 64 ≤ x := Int.ediv_le_self _ h0
    omega
set_option maxHeartbeats 4000000 in
set_option maxRecDepth 100000 in
theorem shiftWalk (x n : Int) (w : World) (h0 : 0 ≤ x) (h1 : x ≤ 18446744073709551615) (h2 : -9223372036854775808 ≤ n) (h3 : n ≤ 9223372036854775807)
    (hB : Calls Tryz.prog 11 #[] w fun e w' => e = .returned (.bool true) ∧ Below w.heap.size w w') :
    Calls Tryz.prog 3 #[.int .u64 x, .int .i64 n] w fun e w' => e = .returned (.bool true) ∧ Below w.heap.size w w' := by
  have E1 := moveShl x n h0 h1
  have E2 := moveShr x n h0 h1
  have hsw := swIn x
  by_cases hn : n < 0
  · have E3 := moveSarUp x n h0 h1 hn
    rw [E2] at E3
    go_enter Tryz.func3, Tryz.ntmps3
    go_wp2_with (first
      | (go_at_call 11; (with_reducible refine hB.mono ?_); rintro e w1 ⟨rfl, hb⟩)
      | (go_at_call 12; refine (Tryz.rMove _ _ _ _ h0 h1 (by omega) (by omega)).mono ?_; rintro e w2 ⟨rfl, hb2⟩; replace hb := hb.trans (hb2.mono hb.size); clear hb2)
      | (go_at_call 13; refine (Tryz.Shl _ _ _ h0 h1 h2 h3).mono ?_; rintro e w2 ⟨rfl, rfl⟩)
      | (go_at_call 14; refine (Tryz.Shr _ _ _ h0 h1 h2 h3).mono ?_; rintro e w2 ⟨rfl, rfl⟩)
      | (go_at_call 15; refine (Tryz.Sar _ _ _ hsw.1 hsw.2 h2 h3).mono ?_; rintro e w2 ⟨rfl, rfl⟩)
      | (go_at_call 16; refine (Tryz.Len _ _ h0 h1).mono ?_; rintro e w2 ⟨⟨L, hL, rfl⟩, rfl⟩)
      | (go_at_call 17; refine (Tryz.rLen _ _ h0 h1).mono ?_; rintro e w2 ⟨⟨M, hM, rfl⟩, rfl⟩; obtain rfl := isLen_one hL hM; clear hL hM)
      | (go_at_call 18; refine (Tryz.Zeros _ _ h0 h1).mono ?_; rintro e w2 ⟨⟨z, hz, rfl⟩, rfl⟩)
      | (go_at_call 19; refine (Tryz.rZeros _ _ h0 h1).mono ?_; rintro e w2 ⟨⟨y, hy, rfl⟩, rfl⟩; obtain rfl := isZeros_one hz hy; clear hz hy))
    go_ret
    exact ⟨rfl, hb⟩
  · have E3 := moveSar x n h0 h1 (by omega)
    go_enter Tryz.func3, Tryz.ntmps3
    go_wp2_with (first
      | (go_at_call 11; (with_reducible refine hB.mono ?_); rintro e w1 ⟨rfl, hb⟩)
      | (go_at_call 12; refine (Tryz.rMove _ _ _ _ h0 h1 (by omega) (by omega)).mono ?_; rintro e w2 ⟨rfl, hb2⟩; replace hb := hb.trans (hb2.mono hb.size); clear hb2)
      | (go_at_call 13; refine (Tryz.Shl _ _ _ h0 h1 h2 h3).mono ?_; rintro e w2 ⟨rfl, rfl⟩)
      | (go_at_call 14; refine (Tryz.Shr _ _ _ h0 h1 h2 h3).mono ?_; rintro e w2 ⟨rfl, rfl⟩)
      | (go_at_call 15; refine (Tryz.Sar _ _ _ hsw.1 hsw.2 h2 h3).mono ?_; rintro e w2 ⟨rfl, rfl⟩)
      | (go_at_call 16; refine (Tryz.Len _ _ h0 h1).mono ?_; rintro e w2 ⟨⟨L, hL, rfl⟩, rfl⟩)
      | (go_at_call 17; refine (Tryz.rLen _ _ h0 h1).mono ?_; rintro e w2 ⟨⟨M, hM, rfl⟩, rfl⟩; obtain rfl := isLen_one hL hM; clear hL hM)
      | (go_at_call 18; refine (Tryz.Zeros _ _ h0 h1).mono ?_; rintro e w2 ⟨⟨z, hz, rfl⟩, rfl⟩)
      | (go_at_call 19; refine (Tryz.rZeros _ _ h0 h1).mono ?_; rintro e w2 ⟨⟨y, hy, rfl⟩, rfl⟩; obtain rfl := isZeros_one hz hy; clear hz hy))
    go_ret
    exact ⟨rfl, hb⟩
end Go.Proofs
