/- NatLong: texts of two thousand digits are numbers, their own, and not one digit more: the call returns true. -/
import Derived.Test.YtghblhknjangbaaGreatDoorTw
import Derived.Test.YtghblhknjangbaaGreatDoorWe2
import Derived.Deep.RegionWith
import Derived.Deep.RegionHeld3
import Derived.Test.YtghblhknjangbaaGreatDoorRg
namespace Go.Proofs.Wd
open Go.RowKit
set_option linter.unusedVariables false
theorem Tryz.info5 : (Tryz.prog.info? 5).map (fun i => (i.zero, i.size, i.bytes)) = some (some (.int .u8 0), 1, 1) := by kernel_rfl
/-- Block O holds just the bytes L. -/
def RowB (w : World) (O : Nat) (L : List Int) : Prop := w.heap[O]? = some (.cells (L.map (Value.int .u8)).toArray 5 (0, 0))
theorem RowB.cell {w : World} {O : Nat} {L : List Int} (h : RowB w O L) {j : Nat} (hj : j < L.length) : w.cell? ⟨O, j, none⟩ = some (.int .u8 (L.getD j 0)) := by
  rw [cell_of_row _ _ _ _ _ _ h]
  simp [List.getD, hj]
theorem RowB.frozen {w : World} {O : Nat} {L : List Int} (h : RowB w O L) (j : Nat) : w.frozen? ⟨O, j, none⟩ = false := frozen_of_row _ _ j _ _ h
theorem RowB.set {w : World} {O : Nat} {L : List Int} (h : RowB w O L) (j : Nat) (z : Int) : RowB (w.setCell ⟨O, j, none⟩ (.int .u8 z)) O (L.set j z) := by
  unfold RowB
  rw [heap_setCell_same _ _ _ _ _ _ h]
  congr 2
  apply Array.ext'
  simp [List.map_set]
theorem RowB.below {w w' : World} {O B : Nat} {L : List Int} (h : RowB w O L) (hb : Below B w w') (hO : O < B) : RowB w' O L := by
  unfold RowB; rw [hb.block O hO]; exact h
theorem RowB.lt {w : World} {O : Nat} {L : List Int} (h : RowB w O L) : O < w.heap.size := (Array.getElem?_eq_some_iff.1 h).1
theorem RowB.of_made {w : World} {B g n : Nat} (h : w.ownsRow B 5 1 (.slice (some ⟨g, 0, none⟩) n n) n (List.replicate n (.int .u8 0))) : RowB w g (List.replicate n 0) := by
  obtain ⟨h0, h⟩ := h
  rcases h with h | ⟨g', cap, cur, h1, hg, hh, hn, hc, hs, ht⟩
  · simp at h
  · simp only [Value.slice.injEq, Option.some.injEq, Addr.mk.injEq, and_true, true_and] at h1
    obtain ⟨rfl, rfl⟩ := h1
    unfold RowB
    rw [hh]
    have : cur.toList.take (n * 1) = cur.toList := List.take_of_length_le (by simp; omega)
    rw [List.map_replicate]
    congr 2
    apply Array.ext'
    rw [← this, ht]
/-- The first k bytes are d, the rest nought. -/
def filled (n k : Nat) (d : Int) : List Int := List.replicate k d ++ List.replicate (n - k) 0
theorem filled_length {n k : Nat} (h : k ≤ n) (d : Int) : (filled n k d).length = n := by simp [filled]; omega
theorem filled_step {n k : Nat} (h : k < n) (d : Int) : (filled n k d).set k d = filled n (k + 1) d := by
  unfold filled
  rw [show n - k = (n - (k + 1)) + 1 by omega, List.replicate_succ, List.set_append_right _ _ (by simp), List.length_replicate, Nat.sub_self, List.set_cons_zero, List.replicate_succ', List.append_assoc]
  rfl
/-- What is kept while the two texts are held against each other. -/
structure LongS (w1 : World) (v : Value) (z : Int) (j : Nat) (d : Int) (w : World) : Prop where
  row : RowB w w1.heap.size (filled j j d)
  num : Num w v z 120
  tab : TabOk w
  below : Below w1.heap.size w1 w
  lt : w1.heap.size < w.heap.size
theorem LongS.after {w1 w w' : World} {v : Value} {z : Int} {j : Nat} {d : Int} (h : LongS w1 v z j d w) (hb : Below w.heap.size w w') : LongS w1 v z j d w' :=
  ⟨h.row.below hb h.lt, h.num.below hb (Nat.le_refl _), h.tab.after hb, h.below.trans (hb.mono (by have := h.lt; omega)), by have := hb.size; have := h.lt; omega⟩
theorem LongS.drew {w1 w : World} {v : Value} {z : Int} {j : Nat} {d : Int} (h : LongS w1 v z j d w) : LongS w1 v z j d w.drew := h.after (Below.refl _ _).drew
theorem LongS.self1 {w1 w : World} {v : Value} {z : Int} {j : Nat} {d : Int} {p : Prop} (h : LongS w1 v z j d w ∧ p) : LongS w1 v z j d w := h.1
theorem LongS.after1 {w1 w w' : World} {v : Value} {z : Int} {j : Nat} {d : Int} {p : Prop} (h : LongS w1 v z j d w ∧ p) (hb : Below w.heap.size w w') : LongS w1 v z j d w' := h.1.after hb
theorem LongS.drewA {w1 w : World} {v : Value} {z : Int} {j : Nat} {d : Int} {p : Prop} (h : LongS w1 v z j d w ∧ p) : LongS w1 v z j d w.drew := h.1.drew
set_option maxHeartbeats 8000000 in
set_option maxRecDepth 100000 in
theorem longWalk (k c : Int) (w : World) (k0 : -9223372036854775808 ≤ k) (k1 : k ≤ 9223372036854775807) (c0 : 0 ≤ c) (c1 : c ≤ 255) (hT : TabOk w)
    (hB : Calls Tryz.prog 10 #[] w fun e w' => e = .returned (.bool true) ∧ Below w.heap.size w w') :
    Calls Tryz.prog 8 #[.int .i64 k, .int .u8 c] w fun e w' => e = .returned (.bool true) ∧ Below w.heap.size w w' := by
  obtain ⟨r, hr⟩ : ∃ r, k.tmod 10 = r := ⟨_, rfl⟩
  have hrb : -10 < r ∧ r < 10 := by rw [← hr]; exact ⟨Int.lt_tmod_of_pos _ (by omega), Int.tmod_lt_of_pos _ (by omega)⟩
  obtain ⟨r0, r1⟩ := hrb
  obtain ⟨n, hn⟩ : ∃ n : Nat, 1995 + r % 10 = n := ⟨(1995 + r % 10).toNat, by omega⟩
  have hnb : 1995 ≤ n ∧ n ≤ 2004 := by omega
  obtain ⟨n0, n1⟩ := hnb
  obtain ⟨d, hd⟩ : ∃ d : Int, 49 + c % 9 = d := ⟨_, rfl⟩
  have hdb : 49 ≤ d ∧ d ≤ 57 := by omega
  obtain ⟨d0, d1⟩ := hdb
  obtain ⟨i0, hi, hz0, hz1, hz2⟩ := info_parts Tryz.info5
  have HT : Hid (TabOk w) := hT
  clear k0 k1 hT
  go_enter Tryz.func8, Tryz.ntmps8
  go_wp2_with (first
    | (go_at_call 10; (with_reducible refine hB.mono ?_); rintro e w1 ⟨rfl, hb1⟩; have HB1 : Hid (Below w.heap.size w w1) := hb1; clear hb1 hB)
    | (refine wpList_make_full _ rfl _ _ 71 rfl w1.heap.size 5 i0 (.int .u8 0) 1 Tryz.underlying71 hi hz0 hz1 .i64 .i64 _ _ n rfl rfl rfl rfl (by rw [hz2]; omega) (by unfold maxLen; omega) (by omega) ?_))
  intro w2 hown hgrow
  have hrow : RowB w2 w1.heap.size (List.replicate n 0) := RowB.of_made (by rw [toList_madeCells_one] at hown; exact hown)
  have HROW : Hid (RowB w2 w1.heap.size (filled n 0 d)) := by show RowB _ _ _; simpa [filled] using hrow
  have HB2 : Hid (Below w1.heap.size w1 w2) := (Below.refl _ _).grown hgrow (Nat.le_refl _) (fun k hk => by cases hk)
  clear hown hgrow hrow
  go_wp2
  go_loopw [7, 22] (fun _ i wr => ∃ j : Nat, i = .int .i64 j ∧ j ≤ n ∧ RowB wr w1.heap.size (filled n j d) ∧ Below w1.heap.size w1 wr) (fun _ i _ => n - (intOf i).toNat)
  case atStart => exact ⟨0, rfl, by omega, HROW.out, HB2.out⟩
  case round =>
    obtain ⟨j, rfl, hj, hrow, hb⟩ := hrel
    have HR : Hid (RowB wr w1.heap.size (filled n j d)) := hrow
    have HB : Hid (Below w1.heap.size w1 wr) := hb
    by_cases hjn : j = n
    · subst hjn
      clear hrow hb
      have hlt := HR.out.lt
      obtain ⟨b8, hb8⟩ : ∃ b8 : UInt8, (b8.toNat : Int) = d := ⟨UInt8.ofNat d.toNat, by simp; omega⟩
      obtain ⟨t, ht⟩ : ∃ t : ByteArray, (⟨(List.replicate j b8).toArray⟩ : ByteArray) = t := ⟨_, rfl⟩
      have htl : t.data.toList = List.replicate j b8 := by rw [← ht]
      have htn : t.size = j := by rw [← Tx.length_list, htl, List.length_replicate]
      have HTN : Hid (t.size = j) := htn
      have HTL : Hid (t.data.toList = List.replicate j b8) := htl
      have hcv : ∀ W, RowB W w1.heap.size (filled j j d) → (convert 71 9 (.slice (some ⟨w1.heap.size, 0, none⟩) j j)).run Tryz.prog W = .ok (.string t) W := fun W hW => by
        have h := run_convert_bytes_back (P := Tryz.prog) W 71 9 5 ⟨w1.heap.size, 0, none⟩ j (List.replicate j b8) Tryz.underlying71 Tryz.underlying5 Tryz.underlying9 (fun i hi => by
          have hi' : i < j := by simpa using hi
          have e : (⟨w1.heap.size, 0, none⟩ : Addr).add i = ⟨w1.heap.size, i, none⟩ := by unfold Addr.add; split <;> simp_all
          rw [e, hW.cell (by rw [filled_length (Nat.le_refl _)]; exact hi')]
          simp [filled, List.getD, hi', hb8])
        rw [List.length_replicate] at h
        rw [ht] at h
        exact h
      have HCV := Lib.hid hcv
      have hcv1 := hcv wr HR.out
      have hnm : Tx.Numeral t.data.toList := by
        have h49 : b8.toNat ≠ 48 := by omega
        rw [htl]
        refine ⟨by simp; omega, .inr ?_, fun c hc => ?_⟩
        · rw [show j = (j - 1) + 1 by omega, List.replicate_succ]
          simp only [List.head?_cons, Option.some.injEq, ne_eq]
          intro e; rw [e] at h49; exact h49 rfl
        · rw [(List.mem_replicate.1 hc).2]; unfold Tx.isDig; omega
      have HPL : Hid (Tx.plainB t = decide (j ≤ 2000)) := by
        show _ = _
        by_cases g : j ≤ 2000
        · rw [Tx.plainB_true.2 ⟨hnm, by omega⟩]; simp [g]
        · rw [Tx.not_numeral_size (.inr (by omega))]; simp [g]
      have HTX : Hid (j ≤ 2000 → (⟨(Lib.decDigits (Tx.num t)).toArray⟩ : ByteArray) = t) := fun g => by
        have h := Tx.plainB_text (s := t) (by rw [HPL.out]; simp [g])
        rw [h]
      clear hcv htl htn ht hnm hb8
      have htsz : t.size ≤ 9223372036854775807 := by have := HTN.out; omega
      by_cases hg : j ≤ 2000
      · go_wp2_with fail
        refine (Tryz.GetX t _ htsz).mono ?_
        rintro e w3 ⟨hget, hb3⟩
        obtain ⟨hp, v3, rfl, hv3⟩ := hget.resolve_right (fun h => by rw [HPL.out] at h; simp at h; omega)
        have HV3 : Hid (Num w3 v3 (Tx.num t : Int) 120) := hv3
        have HB3 : Hid (Below w1.heap.size w1 w3) := HB.out.trans (hb3.mono (by omega))
        have HR3 : Hid (RowB w3 w1.heap.size (filled j j d)) := HR.out.below hb3 hlt
        have hlt3 := HR3.out.lt
        have HT3 : Hid (TabOk w3) := HT.out.after (Below.after HB1.out HB3.out)
        clear hget hp hv3 hb3 hcv1 HR HB
        have htx := HTX.out hg
        have HTXX := Lib.hid htx
        clear htx
        have hle : ((j : Int) ≤ 2000) := by omega
        have hS3 : LongS w1 v3 (Tx.num t : Int) j d w3 := ⟨HR3.out, HV3.out, HT3.out, HB3.out, hlt3⟩
        have hcv3 := HCV.out w3 HR3.out
        have HTEXT : Hid (∀ W, LongS w1 v3 (Tx.num t : Int) j d W → Calls Tryz.prog 14 #[v3] W fun e w' => e = .returned (.string t) ∧ Below W.heap.size W w') := fun W hW => by
          have h := Tryz.textX v3 (Tx.num t : Int) 120 W hW.num (by omega) hW.tab
          rw [show ((Tx.num t : Nat) : Int).toNat = Tx.num t from rfl, HTXX.out] at h
          exact h
        go_wp2_with fail
        refine wp_region_held_drew (S := fun w' => LongS w1 v3 (Tx.num t : Int) j d w' ∧ (convert 71 9 (.slice (some ⟨w1.heap.size, 0, none⟩) j j)).run Tryz.prog w' = .ok (.string t) w') (by kernel_rfl) ⟨hS3.drew, HCV.out _ hS3.drew.row⟩ (fun hHeld => ?_)
        (refine takeYes (i := 0) ?_ (by (simp only [List.getElem?_toArray, List.getElem?_cons_zero]) <;> rfl) (by kernel_rfl) (by kernel_rfl) (by kernel_rfl) (by exact fun _ _ _ h => h) (by rfl) (by assumption) ?_ ?_)
        rotate_left
        · (intro w hSw; (try dsimp only at hSw); go_simp <;> with_reducible rfl)
        (try simp only [Act.put, List.setIfInBounds_toArray, List.set_cons_zero, List.set_cons_succ])
        (refine takeYes (i := 1) ?_ (by (simp only [List.getElem?_toArray, List.getElem?_cons_succ, List.getElem?_cons_zero]) <;> rfl) (by kernel_rfl) (by kernel_rfl) (by kernel_rfl) (by exact fun _ _ _ h => h) (by rfl) (by assumption) ?_ ?_)
        rotate_left
        · (intro w hSw; (try dsimp only at hSw); go_simp <;> with_reducible rfl)
        (try simp only [Act.put, List.setIfInBounds_toArray, List.set_cons_zero, List.set_cons_succ])
        (refine takeYes (i := 2) ?_ (by (simp only [List.getElem?_toArray, List.getElem?_cons_succ, List.getElem?_cons_zero]) <;> rfl) (by kernel_rfl) (by kernel_rfl) (by kernel_rfl) (by exact fun _ _ _ h => h) (by rfl) (by assumption) ?_ ?_)
        rotate_left
        · (intro w hSw; (try dsimp only at hSw); go_simp <;> with_reducible rfl)
        (try simp only [Act.put, List.setIfInBounds_toArray, List.set_cons_zero, List.set_cons_succ])
        (refine takeYes (i := 3) ?_ (by (simp only [List.getElem?_toArray, List.getElem?_cons_succ, List.getElem?_cons_zero]) <;> rfl) (by kernel_rfl) (by kernel_rfl) (by kernel_rfl) (by exact fun _ _ _ h => h) (by rfl) (by assumption) ?_ ?_)
        rotate_left
        · (intro w hSw; (try dsimp only at hSw); go_simp <;> with_reducible rfl)
        (try simp only [Act.put, List.setIfInBounds_toArray, List.set_cons_zero, List.set_cons_succ])
        (refine takeYes (i := 4) ?_ (by (simp only [List.getElem?_toArray, List.getElem?_cons_succ, List.getElem?_cons_zero]) <;> rfl) (by kernel_rfl) (by kernel_rfl) (by kernel_rfl) (by exact fun _ _ _ h => h) (by rfl) (by assumption) ?_ ?_)
        rotate_left
        · (intro w hSw; (try dsimp only at hSw); go_simp <;> with_reducible rfl)
        (try simp only [Act.put, List.setIfInBounds_toArray, List.set_cons_zero, List.set_cons_succ])
        (refine takeYes (i := 5) ?_ (by (simp only [List.getElem?_toArray, List.getElem?_cons_succ, List.getElem?_cons_zero]) <;> rfl) (by kernel_rfl) (by kernel_rfl) (by kernel_rfl) (by exact fun _ _ _ h => h) (by rfl) (by assumption) ?_ ?_)
        rotate_left
        · (intro w hSw; (try dsimp only at hSw); go_simp <;> with_reducible rfl)
        (try simp only [Act.put, List.setIfInBounds_toArray, List.set_cons_zero, List.set_cons_succ])
        (refine takeYes (i := 6) ?_ (by (simp only [List.getElem?_toArray, List.getElem?_cons_succ, List.getElem?_cons_zero]) <;> rfl) (by kernel_rfl) (by kernel_rfl) (by kernel_rfl) (by exact fun _ _ _ h => h) (by rfl) (by assumption) ?_ ?_)
        rotate_left
        · (intro w hSw; (try dsimp only at hSw); go_simp <;> with_reducible rfl)
        (try simp only [Act.put, List.setIfInBounds_toArray, List.set_cons_zero, List.set_cons_succ])
        (refine takeYes (i := 7) ?_ (by (simp only [List.getElem?_toArray, List.getElem?_cons_succ, List.getElem?_cons_zero]) <;> rfl) (by kernel_rfl) (by kernel_rfl) (by kernel_rfl) (by exact fun _ _ _ h => h) (by rfl) (by assumption) ?_ ?_)
        rotate_left
        · (intro w hSw; (try dsimp only at hSw); go_simp <;> with_reducible rfl)
        (try simp only [Act.put, List.setIfInBounds_toArray, List.set_cons_zero, List.set_cons_succ])
        (refine takeYes (i := 9) ?_ (by (simp only [List.getElem?_toArray, List.getElem?_cons_succ, List.getElem?_cons_zero]) <;> rfl) (by kernel_rfl) (by kernel_rfl) (by kernel_rfl) (by exact fun _ _ _ h => h) (by rfl) (by assumption) ?_ ?_)
        rotate_left
        · (intro w hSw; (try dsimp only at hSw); go_simp <;> with_reducible rfl)
        (try simp only [Act.put, List.setIfInBounds_toArray, List.set_cons_zero, List.set_cons_succ])
        (refine takeYes (i := 10) ?_ (by (simp only [List.getElem?_toArray, List.getElem?_cons_succ, List.getElem?_cons_zero]) <;> rfl) (by kernel_rfl) (by kernel_rfl) (by kernel_rfl) (by exact fun _ _ _ h => h) (by rfl) (by assumption) ?_ ?_)
        rotate_left
        · (intro w hSw; (try dsimp only at hSw); go_simp <;> with_reducible rfl)
        (try simp only [Act.put, List.setIfInBounds_toArray, List.set_cons_zero, List.set_cons_succ])
        refine wpAnyH_ready (rs := [8]) (by kernel_rfl) (by simp) ?_
        refine AllReadyH.cons (by (simp only [List.getElem?_toArray, List.getElem?_cons_succ, List.getElem?_cons_zero]) <;> rfl) (fun K hK => ?_) AllReadyH.nil
        go_simp
        go_at_call 14
        refine (HTEXT.out _ hS3.drew).mono ?_
        rintro e w5 ⟨rfl, hb5⟩
        have hS5 := LongS.after hS3.drew hb5
        clear hHeld
        refine hK.out _ _ ⟨hS5, HCV.out _ hS5.row⟩ (fun hHeld => ?_)
        clear hK K
        (try simp only [Act.put, List.setIfInBounds_toArray, List.set_cons_zero, List.set_cons_succ])
        (refine takeYes (i := 11) ?_ (by (simp only [List.getElem?_toArray, List.getElem?_cons_succ, List.getElem?_cons_zero]) <;> rfl) (by kernel_rfl) (by kernel_rfl) (by kernel_rfl) (by exact fun _ _ _ h => h) (by rfl) (by assumption) ?_ ?_)
        rotate_left
        · (intro w hSw; (try dsimp only at hSw); go_simp <;> with_reducible rfl)
        (try simp only [Act.put, List.setIfInBounds_toArray, List.set_cons_zero, List.set_cons_succ])
        (refine takeYes (i := 12) ?_ (by (simp only [List.getElem?_toArray, List.getElem?_cons_succ, List.getElem?_cons_zero]) <;> rfl) (by kernel_rfl) (by kernel_rfl) (by kernel_rfl) (by exact fun _ _ _ h => h) (by rfl) (by assumption) ?_ ?_)
        rotate_left
        · (intro w hSw; (try dsimp only at hSw); go_simp <;> with_reducible rfl)
        (try simp only [Act.put, List.setIfInBounds_toArray, List.set_cons_zero, List.set_cons_succ])
        (refine takeYes (i := 13) ?_ (by (simp only [List.getElem?_toArray, List.getElem?_cons_succ, List.getElem?_cons_zero]) <;> rfl) (by kernel_rfl) (by kernel_rfl) (by kernel_rfl) (by exact fun _ _ _ h => h) (by rfl) (by assumption) ?_ ?_)
        rotate_left
        · (intro w hSw; (try dsimp only at hSw); go_simp <;> with_reducible rfl)
        (try simp only [Act.put, List.setIfInBounds_toArray, List.set_cons_zero, List.set_cons_succ])
        (refine takeNo (i := 14) (by (simp only [List.getElem?_toArray, List.getElem?_cons_succ, List.getElem?_cons_zero]) <;> rfl) (by kernel_rfl) (by kernel_rfl) (by kernel_rfl) (by exact fun _ _ _ h => h) (by rfl) (by assumption) ?_; (try simp only [Act.put, List.setIfInBounds_toArray, List.set_cons_zero, List.set_cons_succ]))
        (refine takeNo (i := 15) (by (simp only [List.getElem?_toArray, List.getElem?_cons_succ, List.getElem?_cons_zero]) <;> rfl) (by kernel_rfl) (by kernel_rfl) (by kernel_rfl) (by exact fun _ _ _ h => h) (by rfl) (by assumption) ?_; (try simp only [Act.put, List.setIfInBounds_toArray, List.set_cons_zero, List.set_cons_succ]))
        (refine takeNo (i := 16) (by (simp only [List.getElem?_toArray, List.getElem?_cons_succ, List.getElem?_cons_zero]) <;> rfl) (by kernel_rfl) (by kernel_rfl) (by kernel_rfl) (by exact fun _ _ _ h => h) (by rfl) (by assumption) ?_; (try simp only [Act.put, List.setIfInBounds_toArray, List.set_cons_zero, List.set_cons_succ]))
        (refine takeNo (i := 17) (by (simp only [List.getElem?_toArray, List.getElem?_cons_succ, List.getElem?_cons_zero]) <;> rfl) (by kernel_rfl) (by kernel_rfl) (by kernel_rfl) (by exact fun _ _ _ h => h) (by rfl) (by assumption) ?_; (try simp only [Act.put, List.setIfInBounds_toArray, List.set_cons_zero, List.set_cons_succ]))
        (refine takeNo (i := 18) (by (simp only [List.getElem?_toArray, List.getElem?_cons_succ, List.getElem?_cons_zero]) <;> rfl) (by kernel_rfl) (by kernel_rfl) (by kernel_rfl) (by exact fun _ _ _ h => h) (by rfl) (by assumption) ?_; (try simp only [Act.put, List.setIfInBounds_toArray, List.set_cons_zero, List.set_cons_succ]))
        (refine takeNo (i := 19) (by (simp only [List.getElem?_toArray, List.getElem?_cons_succ, List.getElem?_cons_zero]) <;> rfl) (by kernel_rfl) (by kernel_rfl) (by kernel_rfl) (by exact fun _ _ _ h => h) (by rfl) (by assumption) ?_; (try simp only [Act.put, List.setIfInBounds_toArray, List.set_cons_zero, List.set_cons_succ]))
        (refine takeYes (i := 20) ?_ (by (simp only [List.getElem?_toArray, List.getElem?_cons_succ, List.getElem?_cons_zero]) <;> rfl) (by kernel_rfl) (by kernel_rfl) (by kernel_rfl) (by exact fun _ _ _ h => h) (by rfl) (by assumption) ?_ ?_)
        rotate_left
        · (intro w hSw; (try dsimp only at hSw); go_simp <;> with_reducible rfl)
        (try simp only [Act.put, List.setIfInBounds_toArray, List.set_cons_zero, List.set_cons_succ])
        (refine takeYes (i := 21) ?_ (by (simp only [List.getElem?_toArray, List.getElem?_cons_succ, List.getElem?_cons_zero]) <;> rfl) (by kernel_rfl) (by kernel_rfl) (by kernel_rfl) (by exact fun _ _ _ h => h) (by rfl) (by assumption) ?_ ?_)
        rotate_left
        · (intro w hSw; (try dsimp only at hSw); go_simp <;> with_reducible rfl)
        (try simp only [Act.put, List.setIfInBounds_toArray, List.set_cons_zero, List.set_cons_succ])
        (refine takeYes (i := 22) ?_ (by (simp only [List.getElem?_toArray, List.getElem?_cons_succ, List.getElem?_cons_zero]) <;> rfl) (by kernel_rfl) (by kernel_rfl) (by kernel_rfl) (by exact fun _ _ _ h => h) (by rfl) (by assumption) ?_ ?_)
        rotate_left
        · (intro w hSw; (try dsimp only at hSw); go_simp <;> with_reducible rfl)
        (try simp only [Act.put, List.setIfInBounds_toArray, List.set_cons_zero, List.set_cons_succ])
        refine wpAnyH_done (by kernel_rfl) ?_ _
        have HB5 : Hid (Below w1.heap.size w1 w5) := hS5.below
        clear hHeld hS5 hb5 hcv3 hS3
        go_wp2
        go_ret
        exact ⟨rfl, Below.after HB1.out HB5.out⟩
      · go_wp2_with fail
        refine (Tryz.GetX t _ htsz).mono ?_
        rintro e w3 ⟨hget, hb3⟩
        obtain ⟨hp, rfl⟩ := hget.resolve_left (fun h => by rw [HPL.out] at h; simp at h; omega)
        have HB3 : Hid (Below w1.heap.size w1 w3) := HB.out.trans (hb3.mono (by omega))
        clear hget hp hb3 hcv1 HR HB
        have hle : ¬ ((j : Int) ≤ 2000) := by omega
        have hdec : decide ((j : Int) ≤ 2000) = false := by simpa using hle
        go_wp2_with fail
        refine wp_region_held_drew (S := fun _ => True) (by kernel_rfl) trivial (fun hHeld => ?_)
        (refine takeYes (i := 0) ?_ (by (simp only [List.getElem?_toArray, List.getElem?_cons_zero]) <;> rfl) (by kernel_rfl) (by kernel_rfl) (by kernel_rfl) (by exact fun _ _ _ h => h) (by rfl) (by assumption) ?_ ?_)
        rotate_left
        · (intro w hSw; (try dsimp only at hSw); go_simp <;> with_reducible rfl)
        (try simp only [Act.put, List.setIfInBounds_toArray, List.set_cons_zero, List.set_cons_succ])
        (refine takeYes (i := 1) ?_ (by (simp only [List.getElem?_toArray, List.getElem?_cons_succ, List.getElem?_cons_zero]) <;> rfl) (by kernel_rfl) (by kernel_rfl) (by kernel_rfl) (by exact fun _ _ _ h => h) (by rfl) (by assumption) ?_ ?_)
        rotate_left
        · (intro w hSw; (try dsimp only at hSw); go_simp <;> with_reducible rfl)
        (try simp only [Act.put, List.setIfInBounds_toArray, List.set_cons_zero, List.set_cons_succ])
        (refine takeYes (i := 2) ?_ (by (simp only [List.getElem?_toArray, List.getElem?_cons_succ, List.getElem?_cons_zero]) <;> rfl) (by kernel_rfl) (by kernel_rfl) (by kernel_rfl) (by exact fun _ _ _ h => h) (by rfl) (by assumption) ?_ ?_)
        rotate_left
        · (intro w hSw; (try dsimp only at hSw); go_simp <;> with_reducible rfl)
        (try simp only [Act.put, List.setIfInBounds_toArray, List.set_cons_zero, List.set_cons_succ])
        (refine takeYes (i := 3) ?_ (by (simp only [List.getElem?_toArray, List.getElem?_cons_succ, List.getElem?_cons_zero]) <;> rfl) (by kernel_rfl) (by kernel_rfl) (by kernel_rfl) (by exact fun _ _ _ h => h) (by rfl) (by assumption) ?_ ?_)
        rotate_left
        · (intro w hSw; (try dsimp only at hSw); go_simp <;> with_reducible rfl)
        (try simp only [Act.put, List.setIfInBounds_toArray, List.set_cons_zero, List.set_cons_succ])
        (refine takeYes (i := 4) ?_ (by (simp only [List.getElem?_toArray, List.getElem?_cons_succ, List.getElem?_cons_zero]) <;> rfl) (by kernel_rfl) (by kernel_rfl) (by kernel_rfl) (by exact fun _ _ _ h => h) (by rfl) (by assumption) ?_ ?_)
        rotate_left
        · (intro w hSw; (try dsimp only at hSw); go_simp <;> with_reducible rfl)
        (try simp only [Act.put, List.setIfInBounds_toArray, List.set_cons_zero, List.set_cons_succ])
        (refine takeYes (i := 5) ?_ (by (simp only [List.getElem?_toArray, List.getElem?_cons_succ, List.getElem?_cons_zero]) <;> rfl) (by kernel_rfl) (by kernel_rfl) (by kernel_rfl) (by exact fun _ _ _ h => h) (by rfl) (by assumption) ?_ ?_)
        rotate_left
        · (intro w hSw; (try dsimp only at hSw); go_simp <;> with_reducible rfl)
        (try simp only [Act.put, List.setIfInBounds_toArray, List.set_cons_zero, List.set_cons_succ])
        (refine takeYes (i := 6) ?_ (by (simp only [List.getElem?_toArray, List.getElem?_cons_succ, List.getElem?_cons_zero]) <;> rfl) (by kernel_rfl) (by kernel_rfl) (by kernel_rfl) (by exact fun _ _ _ h => h) (by rfl) (by assumption) ?_ ?_)
        rotate_left
        · (intro w hSw; (try dsimp only at hSw); go_simp <;> with_reducible rfl)
        (try simp only [Act.put, List.setIfInBounds_toArray, List.set_cons_zero, List.set_cons_succ])
        (refine takeNo (i := 7) (by (simp only [List.getElem?_toArray, List.getElem?_cons_succ, List.getElem?_cons_zero]) <;> rfl) (by kernel_rfl) (by kernel_rfl) (by kernel_rfl) (by exact fun _ _ _ h => h) (by rfl) (by assumption) ?_; (try simp only [Act.put, List.setIfInBounds_toArray, List.set_cons_zero, List.set_cons_succ]))
        (refine takeNo (i := 8) (by (simp only [List.getElem?_toArray, List.getElem?_cons_succ, List.getElem?_cons_zero]) <;> rfl) (by kernel_rfl) (by kernel_rfl) (by kernel_rfl) (by exact fun _ _ _ h => h) (by rfl) (by assumption) ?_; (try simp only [Act.put, List.setIfInBounds_toArray, List.set_cons_zero, List.set_cons_succ]))
        (refine takeNo (i := 9) (by (simp only [List.getElem?_toArray, List.getElem?_cons_succ, List.getElem?_cons_zero]) <;> rfl) (by kernel_rfl) (by kernel_rfl) (by kernel_rfl) (by exact fun _ _ _ h => h) (by rfl) (by assumption) ?_; (try simp only [Act.put, List.setIfInBounds_toArray, List.set_cons_zero, List.set_cons_succ]))
        (refine takeNo (i := 10) (by (simp only [List.getElem?_toArray, List.getElem?_cons_succ, List.getElem?_cons_zero]) <;> rfl) (by kernel_rfl) (by kernel_rfl) (by kernel_rfl) (by exact fun _ _ _ h => h) (by rfl) (by assumption) ?_; (try simp only [Act.put, List.setIfInBounds_toArray, List.set_cons_zero, List.set_cons_succ]))
        (refine takeNo (i := 11) (by (simp only [List.getElem?_toArray, List.getElem?_cons_succ, List.getElem?_cons_zero]) <;> rfl) (by kernel_rfl) (by kernel_rfl) (by kernel_rfl) (by exact fun _ _ _ h => h) (by rfl) (by assumption) ?_; (try simp only [Act.put, List.setIfInBounds_toArray, List.set_cons_zero, List.set_cons_succ]))
        (refine takeYes (i := 12) ?_ (by (simp only [List.getElem?_toArray, List.getElem?_cons_succ, List.getElem?_cons_zero]) <;> rfl) (by kernel_rfl) (by kernel_rfl) (by kernel_rfl) (by exact fun _ _ _ h => h) (by rfl) (by assumption) ?_ ?_)
        rotate_left
        · (intro w hSw; (try dsimp only at hSw); go_simp <;> with_reducible rfl)
        (try simp only [Act.put, List.setIfInBounds_toArray, List.set_cons_zero, List.set_cons_succ])
        (refine takeYes (i := 13) ?_ (by (simp only [List.getElem?_toArray, List.getElem?_cons_succ, List.getElem?_cons_zero]) <;> rfl) (by kernel_rfl) (by kernel_rfl) (by kernel_rfl) (by exact fun _ _ _ h => h) (by rfl) (by assumption) ?_ ?_)
        rotate_left
        · (intro w hSw; (try dsimp only at hSw); go_simp <;> with_reducible rfl)
        (try simp only [Act.put, List.setIfInBounds_toArray, List.set_cons_zero, List.set_cons_succ])
        (refine takeYes (i := 14) ?_ (by (simp only [List.getElem?_toArray, List.getElem?_cons_succ, List.getElem?_cons_zero]) <;> rfl) (by kernel_rfl) (by kernel_rfl) (by kernel_rfl) (by exact fun _ _ _ h => h) (by rfl) (by assumption) ?_ ?_)
        rotate_left
        · (intro w hSw; (try dsimp only at hSw); go_simp <;> with_reducible rfl)
        (try simp only [Act.put, List.setIfInBounds_toArray, List.set_cons_zero, List.set_cons_succ])
        (refine takeYes (i := 15) ?_ (by (simp only [List.getElem?_toArray, List.getElem?_cons_succ, List.getElem?_cons_zero]) <;> rfl) (by kernel_rfl) (by kernel_rfl) (by kernel_rfl) (by exact fun _ _ _ h => h) (by rfl) (by assumption) ?_ ?_)
        rotate_left
        · (intro w hSw; (try dsimp only at hSw); go_simp <;> with_reducible rfl)
        (try simp only [Act.put, List.setIfInBounds_toArray, List.set_cons_zero, List.set_cons_succ])
        (refine takeYes (i := 16) ?_ (by (simp only [List.getElem?_toArray, List.getElem?_cons_succ, List.getElem?_cons_zero]) <;> rfl) (by kernel_rfl) (by kernel_rfl) (by kernel_rfl) (by exact fun _ _ _ h => h) (by rfl) (by assumption) ?_ ?_)
        rotate_left
        · (intro w hSw; (try dsimp only at hSw); go_simp <;> with_reducible rfl)
        (try simp only [Act.put, List.setIfInBounds_toArray, List.set_cons_zero, List.set_cons_succ])
        (refine takeYes (i := 17) ?_ (by (simp only [List.getElem?_toArray, List.getElem?_cons_succ, List.getElem?_cons_zero]) <;> rfl) (by kernel_rfl) (by kernel_rfl) (by kernel_rfl) (by exact fun _ _ _ h => h) (by rfl) (by assumption) ?_ ?_)
        rotate_left
        · (intro w hSw; (try dsimp only at hSw); go_simp <;> with_reducible rfl)
        (try simp only [Act.put, List.setIfInBounds_toArray, List.set_cons_zero, List.set_cons_succ])
        (refine takeYes (i := 18) ?_ (by (simp only [List.getElem?_toArray, List.getElem?_cons_succ, List.getElem?_cons_zero]) <;> rfl) (by kernel_rfl) (by kernel_rfl) (by kernel_rfl) (by exact fun _ _ _ h => h) (by rfl) (by assumption) ?_ ?_)
        rotate_left
        · (intro w hSw; (try dsimp only at hSw); go_simp <;> with_reducible rfl)
        (try simp only [Act.put, List.setIfInBounds_toArray, List.set_cons_zero, List.set_cons_succ])
        (refine takeYes (i := 19) ?_ (by (simp only [List.getElem?_toArray, List.getElem?_cons_succ, List.getElem?_cons_zero]) <;> rfl) (by kernel_rfl) (by kernel_rfl) (by kernel_rfl) (by exact fun _ _ _ h => h) (by rfl) (by assumption) ?_ ?_)
        rotate_left
        · (intro w hSw; (try dsimp only at hSw); go_simp <;> with_reducible rfl)
        (try simp only [Act.put, List.setIfInBounds_toArray, List.set_cons_zero, List.set_cons_succ])
        (refine takeYes (i := 20) ?_ (by (simp only [List.getElem?_toArray, List.getElem?_cons_succ, List.getElem?_cons_zero]) <;> rfl) (by kernel_rfl) (by kernel_rfl) (by kernel_rfl) (by exact fun _ _ _ h => h) (by rfl) (by assumption) ?_ ?_)
        rotate_left
        · (intro w hSw; (try dsimp only at hSw); go_simp <;> with_reducible rfl)
        (try simp only [Act.put, List.setIfInBounds_toArray, List.set_cons_zero, List.set_cons_succ])
        (refine takeYes (i := 21) ?_ (by (simp only [List.getElem?_toArray, List.getElem?_cons_succ, List.getElem?_cons_zero]) <;> rfl) (by kernel_rfl) (by kernel_rfl) (by kernel_rfl) (by exact fun _ _ _ h => h) (by rfl) (by assumption) ?_ ?_)
        rotate_left
        · (intro w hSw; (try dsimp only at hSw); go_simp <;> with_reducible rfl)
        (try simp only [Act.put, List.setIfInBounds_toArray, List.set_cons_zero, List.set_cons_succ])
        (refine takeYes (i := 22) ?_ (by (simp only [List.getElem?_toArray, List.getElem?_cons_succ, List.getElem?_cons_zero]) <;> rfl) (by kernel_rfl) (by kernel_rfl) (by kernel_rfl) (by exact fun _ _ _ h => h) (by rfl) (by assumption) ?_ ?_)
        rotate_left
        · (intro w hSw; (try dsimp only at hSw); go_simp <;> with_reducible rfl)
        (try simp only [Act.put, List.setIfInBounds_toArray, List.set_cons_zero, List.set_cons_succ])
        refine wpAnyH_done (by kernel_rfl) ?_ _
        clear hHeld
        go_wp2
        go_ret
        exact ⟨rfl, Below.after HB1.out HB3.out.drew⟩
    · have hcz := hrow.cell (j := j) (by rw [filled_length hj]; omega)
      have hfr := hrow.frozen j
      obtain ⟨o, ho⟩ : ∃ o, (filled n j d).getD j 0 = o := ⟨_, rfl⟩
      rw [ho] at hcz
      clear hrow hb ho
      go_wp2
      have HR' : Hid (RowB (wr.setCell ⟨w1.heap.size, j, none⟩ (.int .u8 d)) w1.heap.size (filled n (j + 1) d)) := by
        have h := HR.out.set j d
        rw [filled_step (by omega) d] at h
        exact h
      exact ⟨⟨j + 1, by simp, by omega, HR'.out, HB.out.setCell (Nat.le_refl _) _⟩, by simp [intOf]; omega⟩
end Go.Proofs.Wd
