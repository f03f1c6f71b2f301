/- What Add of the reference's naturals returns. -/
import Derived.Test.YtcnjcfoaoaldeaaGreatDoorRm
set_option linter.unusedVariables false
set_option maxHeartbeats 4000000
set_option maxRecDepth 100000
namespace Go.Proofs
open Go.RowKit
theorem Tryz.rAdd (v u : Value) (xs ys : List Int) (w : World) (hv : Digs w v xs) (hu : Digs w u ys) (hx : Dig xs) (hy : Dig ys) (hlen : xs.length + ys.length ≤ 1000000) :
 Calls Tryz.prog 69 #[v, u] w fun e w' => (∃ v', e = .returned v' ∧ NumIs w' v' (val xs + val ys) (max xs.length ys.length + 1)) ∧ Below w.heap.size w w' := by
 obtain ⟨p, cap, rfl, hxl, hxr⟩ := hv.slice
 obtain ⟨q, dap, rfl, hyl, hyr⟩ := hu.slice
 obtain ⟨i0, hi, hz0, hz1, hz2⟩ := info_parts Tryz.info3
 have HX : Hid (0 < xs.length → ∃ g, p = some ⟨g, 0, none⟩ ∧ RowAt w g cap xs) := hxr
 have HY : Hid (0 < ys.length → ∃ g, q = some ⟨g, 0, none⟩ ∧ RowAt w g dap ys) := hyr
 clear hxr hyr hv hu
 obtain ⟨n, hn⟩ : ∃ n : Nat, max (xs.length : Int) ys.length + 1 = n := ⟨max xs.length ys.length + 1, by omega⟩
 obtain ⟨n', hn'⟩ : ∃ n' : Int, max (xs.length : Int) ys.length = n' := ⟨_, rfl⟩
 have hnn : n' + 1 = n := by omega
 go_enter Tryz.func69, Tryz.ntmps69
 go_wp2_with (first
  |(refine wpList_make_full _ rfl _ _ 33 rfl w.heap.size 3 i0 (.int .i64 0) 1 Tryz.underlying33 hi hz0 hz1 .i64 .i64 _ _ n rfl rfl rfl rfl (by rw [hz2]; omega) (by unfold maxLen; omega) (by omega) ?_))
 intro w1 hown hgrow
 have hrow1 := RowOf.of_made (by rw [toList_madeCells_one] at hown; exact hown)
 have hb1 : Below w.heap.size w w1 := (Below.refl _ _).grown hgrow (Nat.le_refl _) (fun k hk => by cases hk)
 have hnl : n = max xs.length ys.length + 1 := by omega
 have HN : Hid (n = max xs.length ys.length + 1) := hnl
 clear hown hgrow hn hn' hnn hnl
 go_wp2
 go_loopw [16] (fun i wr => ∃ (k : Nat) (L : List Int), i = .int .i64 k ∧ k ≤ n ∧ RowOf wr w.heap.size L ∧ AddAt xs ys k L ∧ Below w.heap.size w wr) (fun i _ => n - (intOf i).toNat)
 case atStart =>
  refine ⟨0, List.replicate n 0, rfl, by omega, hrow1, ⟨by simp [HN.out], fun j hj => by omega, ?_, fun j hj => ?_, ?_⟩, hb1⟩
  ·simp [List.getD, List.getElem?_replicate]; split <;> simp
  ·simp [List.getD, List.getElem?_replicate]; split <;> simp
  ·rw [val_zeros]; simp
 case round =>
  obtain ⟨k, L, rfl, hk, hrow, hat, hb⟩ := hrel
  have HA : Hid (AddAt xs ys k L) := hat
  have HB : Hid (Below w.heap.size w wr) := hb
  have HR : Hid (RowOf wr w.heap.size L) := hrow
  by_cases hkn : k = n
  ·subst hkn
   clear hrow hat hb
   have hla : L.length = k := by have := HA.out.len; have := HN.out; omega
   have hD : Digs wr (.slice (some ⟨w.heap.size, 0, none⟩) k k) L := by
    have := HR.out.digs (by have := HN.out; unfold maxLen; omega)
    rw [hla] at this
    exact this
   have HD : Hid (Dig L) := Dig.of_get fun j hj => HA.out.dig j (by omega)
   have HV : Hid (val L = val xs + val ys) := by
    have h := HA.out.sum
    have := HN.out
    rw [List.take_of_length_le (by omega), List.take_of_length_le (by omega)] at h
    exact h
   go_wp2_with (go_at_call 119; refine (Tryz.rTrim _ _ _ hD).mono ?_; rintro e w2 ⟨⟨v', rfl, j, hj, hdj, htj, hvj⟩, rfl⟩)
   go_ret
   exact ⟨⟨_, rfl, L.take j, hdj, HD.out.take j, htj, hvj.trans HV.out, by rw [List.length_take]; have := HN.out; omega⟩, HB.out⟩
  ·have hkl : k < L.length := by have := hat.len; have := HN.out; omega
   obtain ⟨o, ho⟩ : ∃ o, L.getD k 0 = o := ⟨_, rfl⟩
   have hco := hrow.cell hkl
   rw [ho] at hco
   have hom := hat.mid
   rw [ho] at hom
   have hfr := hrow.frozen k
   have HO : Hid (L.getD k 0 = o) := ho
   obtain ⟨x, hxk⟩ : ∃ x, xs.getD k 0 = x := ⟨_, rfl⟩
   obtain ⟨y, hyk⟩ : ∃ y, ys.getD k 0 = y := ⟨_, rfl⟩
   have hx9 := hx.get k
   rw [hxk] at hx9
   have hy9 := hy.get k
   rw [hyk] at hy9
   have HXK : Hid (xs.getD k 0 = x) := hxk
   have HYK : Hid (ys.getD k 0 = y) := hyk
   clear ho
   have hn1 : n ≤ 1000001 := by have := HN.out; omega
   have hkO : k + 1 < L.length → wr.cell? ⟨w.heap.size, k + 1, none⟩ = some (.int .i64 0) := fun h => by
    have := hrow.cell h
    rw [hat.rest (k + 1) (by omega)] at this
    exact this
   have hfr1 := hrow.frozen (k + 1)
   have HLAST : Hid (10000 ≤ o + x + y → k + 1 < L.length) := fun h => hat.last hx hy hkl (by rw [HO.out, HXK.out, HYK.out]; exact h)
   by_cases c1 : k < xs.length
   ·obtain ⟨g, rfl, hr⟩ := HX.out (by omega)
    have hcx := (hb.cell (p := ⟨g, k, none⟩) hr.lt).trans (hr.cells k c1)
    rw [hxk] at hcx
    have hgO : g ≠ w.heap.size := by have := hr.lt; omega
    clear hr
    by_cases c2 : k < ys.length
    ·obtain ⟨g', rfl, hr'⟩ := HY.out (by omega)
     have hlt' := hr'.lt
     have hcy0 := hr'.cells k c2
     rw [hyk] at hcy0
     have hgO' : g' ≠ w.heap.size := by omega
     clear hr'
     by_cases c3 : 10000 ≤ o + x + y
     ·have HRwr := HR
      have HBwr := HB
      have hcowr := hco
      have hfrwr := hfr
      clear hco hfr hrow hat hb hxk hyk
      go_wp2
      go_region
      obtain ⟨W1, hW1⟩ : ∃ W, wr.drew.setCell ⟨w.heap.size, k, none⟩ (.int .i64 (o + x)) = W := ⟨_, rfl⟩
      rw [hW1]
      have HRW1 : Hid (RowOf W1 w.heap.size (L.set k (o + x))) := by rw [← hW1]; exact (HRwr.out.drew).set _ _
      have HBW1 : Hid (Below w.heap.size w W1) := by rw [← hW1]; exact HBwr.out.drew.setCell (Nat.le_refl _) _
      clear hW1 hcowr hfrwr
      have hcoW1 : W1.cell? ⟨w.heap.size, k, none⟩ = some (.int .i64 (o + x)) := by
       have h := HRW1.out.cell (j := k) (by first | exact hkl | (simp only [List.length_set]; exact hkl))
       rw [getD_set_self _ (by first | exact hkl | (simp only [List.length_set]; exact hkl))] at h
       exact h
      have hfrW1 := HRW1.out.frozen k
      clear hcx
      have hcyW1 := (HBW1.out.cell (p := ⟨g', k, none⟩) hlt').trans hcy0
      go_wp2
      go_region
      obtain ⟨W2, hW2⟩ : ∃ W, W1.drew.setCell ⟨w.heap.size, k, none⟩ (.int .i64 (o + x + y)) = W := ⟨_, rfl⟩
      rw [hW2]
      have HRW2 : Hid (RowOf W2 w.heap.size ((L.set k (o + x)).set k (o + x + y))) := by rw [← hW2]; exact (HRW1.out.drew).set _ _
      have HBW2 : Hid (Below w.heap.size w W2) := by rw [← hW2]; exact HBW1.out.drew.setCell (Nat.le_refl _) _
      clear hW2 hcoW1 hfrW1
      have hcoW2 : W2.cell? ⟨w.heap.size, k, none⟩ = some (.int .i64 (o + x + y)) := by
       have h := HRW2.out.cell (j := k) (by first | exact hkl | (simp only [List.length_set]; exact hkl))
       rw [getD_set_self _ (by first | exact hkl | (simp only [List.length_set]; exact hkl))] at h
       exact h
      have hfrW2 := HRW2.out.frozen k
      have hk1 := HLAST.out (by omega)
      have hk1n : k + 1 < n := by have := HA.out.len; have := HN.out; omega
      have hcn : W2.cell? ⟨w.heap.size, k + 1, none⟩ = some (.int .i64 0) := by
       have h := HRW2.out.cell (j := k + 1) (by first | exact hk1 | (simp only [List.length_set]; exact hk1))
       have e : (((L.set k (o + x)).set k (o + x + y))).getD (k + 1) 0 = 0 := by
        rw [getD_set_ne _ (by omega)]; rw [getD_set_ne _ (by omega)]; exact HA.out.rest (k + 1) (by omega)
       rw [e] at h
       exact h
      have hfn := HRW2.out.frozen (k + 1)
      clear hkO hfr1
      go_wp2
      refine ⟨⟨k + 1, (L.set k (o + x + y - 10000)).set (k + 1) 1, by simp, by omega, ?_, HA.out.carry hx hy hk1 _ (by rw [HO.out, HXK.out, HYK.out]) c3, ?_⟩, by simp [intOf]; omega⟩
      ·have h := (HRW2.out.set k (o + x + y - 10000)).set (k + 1) 1
       simp only [List.set_set] at h
       simpa using h
      ·exact (HBW2.out.setCell (Nat.le_refl _) _).setCell (Nat.le_refl _) _
     ·have HRwr := HR
      have HBwr := HB
      have hcowr := hco
      have hfrwr := hfr
      clear hco hfr hrow hat hb hxk hyk
      go_wp2
      go_region
      obtain ⟨W1, hW1⟩ : ∃ W, wr.drew.setCell ⟨w.heap.size, k, none⟩ (.int .i64 (o + x)) = W := ⟨_, rfl⟩
      rw [hW1]
      have HRW1 : Hid (RowOf W1 w.heap.size (L.set k (o + x))) := by rw [← hW1]; exact (HRwr.out.drew).set _ _
      have HBW1 : Hid (Below w.heap.size w W1) := by rw [← hW1]; exact HBwr.out.drew.setCell (Nat.le_refl _) _
      clear hW1 hcowr hfrwr
      have hcoW1 : W1.cell? ⟨w.heap.size, k, none⟩ = some (.int .i64 (o + x)) := by
       have h := HRW1.out.cell (j := k) (by first | exact hkl | (simp only [List.length_set]; exact hkl))
       rw [getD_set_self _ (by first | exact hkl | (simp only [List.length_set]; exact hkl))] at h
       exact h
      have hfrW1 := HRW1.out.frozen k
      clear hcx
      have hcyW1 := (HBW1.out.cell (p := ⟨g', k, none⟩) hlt').trans hcy0
      go_wp2
      go_region
      obtain ⟨W2, hW2⟩ : ∃ W, W1.drew.setCell ⟨w.heap.size, k, none⟩ (.int .i64 (o + x + y)) = W := ⟨_, rfl⟩
      rw [hW2]
      have HRW2 : Hid (RowOf W2 w.heap.size ((L.set k (o + x)).set k (o + x + y))) := by rw [← hW2]; exact (HRW1.out.drew).set _ _
      have HBW2 : Hid (Below w.heap.size w W2) := by rw [← hW2]; exact HBW1.out.drew.setCell (Nat.le_refl _) _
      clear hW2 hcoW1 hfrW1
      have hcoW2 : W2.cell? ⟨w.heap.size, k, none⟩ = some (.int .i64 (o + x + y)) := by
       have h := HRW2.out.cell (j := k) (by first | exact hkl | (simp only [List.length_set]; exact hkl))
       rw [getD_set_self _ (by first | exact hkl | (simp only [List.length_set]; exact hkl))] at h
       exact h
      have hfrW2 := HRW2.out.frozen k
      clear hkO hfr1
      go_wp2
      refine ⟨⟨k + 1, L.set k (o + x + y), by simp, by omega, ?_, HA.out.no hx hy hkl _ (by rw [HO.out, HXK.out, HYK.out]) (by omega), HBW2.out⟩, by simp [intOf]; omega⟩
      have h := HRW2.out
      simp only [List.set_set] at h
      simpa using h
    ·by_cases c3 : 10000 ≤ o + x + 0
     ·have HRwr := HR
      have HBwr := HB
      have hcowr := hco
      have hfrwr := hfr
      clear hco hfr hrow hat hb hxk hyk
      obtain rfl : 0 = y := by have := HYK.out; rw [getD_over c2] at this; exact this
      go_wp2
      go_region
      obtain ⟨W1, hW1⟩ : ∃ W, wr.drew.setCell ⟨w.heap.size, k, none⟩ (.int .i64 (o + x)) = W := ⟨_, rfl⟩
      rw [hW1]
      have HRW1 : Hid (RowOf W1 w.heap.size (L.set k (o + x))) := by rw [← hW1]; exact (HRwr.out.drew).set _ _
      have HBW1 : Hid (Below w.heap.size w W1) := by rw [← hW1]; exact HBwr.out.drew.setCell (Nat.le_refl _) _
      clear hW1 hcowr hfrwr
      have hcoW1 : W1.cell? ⟨w.heap.size, k, none⟩ = some (.int .i64 (o + x)) := by
       have h := HRW1.out.cell (j := k) (by first | exact hkl | (simp only [List.length_set]; exact hkl))
       rw [getD_set_self _ (by first | exact hkl | (simp only [List.length_set]; exact hkl))] at h
       exact h
      have hfrW1 := HRW1.out.frozen k
      clear hcx
      have hk1 := HLAST.out (by omega)
      have hk1n : k + 1 < n := by have := HA.out.len; have := HN.out; omega
      have hcn : W1.cell? ⟨w.heap.size, k + 1, none⟩ = some (.int .i64 0) := by
       have h := HRW1.out.cell (j := k + 1) (by first | exact hk1 | (simp only [List.length_set]; exact hk1))
       have e : ((L.set k (o + x))).getD (k + 1) 0 = 0 := by
        rw [getD_set_ne _ (by omega)]; exact HA.out.rest (k + 1) (by omega)
       rw [e] at h
       exact h
      have hfn := HRW1.out.frozen (k + 1)
      clear hkO hfr1
      go_wp2
      refine ⟨⟨k + 1, (L.set k (o + x + 0 - 10000)).set (k + 1) 1, by simp, by omega, ?_, HA.out.carry hx hy hk1 _ (by rw [HO.out, HXK.out, HYK.out]) c3, ?_⟩, by simp [intOf]; omega⟩
      ·have h := (HRW1.out.set k (o + x - 10000)).set (k + 1) 1
       simp only [List.set_set] at h
       simpa using h
      ·exact (HBW1.out.setCell (Nat.le_refl _) _).setCell (Nat.le_refl _) _
     ·have HRwr := HR
      have HBwr := HB
      have hcowr := hco
      have hfrwr := hfr
      clear hco hfr hrow hat hb hxk hyk
      obtain rfl : 0 = y := by have := HYK.out; rw [getD_over c2] at this; exact this
      go_wp2
      go_region
      obtain ⟨W1, hW1⟩ : ∃ W, wr.drew.setCell ⟨w.heap.size, k, none⟩ (.int .i64 (o + x)) = W := ⟨_, rfl⟩
      rw [hW1]
      have HRW1 : Hid (RowOf W1 w.heap.size (L.set k (o + x))) := by rw [← hW1]; exact (HRwr.out.drew).set _ _
      have HBW1 : Hid (Below w.heap.size w W1) := by rw [← hW1]; exact HBwr.out.drew.setCell (Nat.le_refl _) _
      clear hW1 hcowr hfrwr
      have hcoW1 : W1.cell? ⟨w.heap.size, k, none⟩ = some (.int .i64 (o + x)) := by
       have h := HRW1.out.cell (j := k) (by first | exact hkl | (simp only [List.length_set]; exact hkl))
       rw [getD_set_self _ (by first | exact hkl | (simp only [List.length_set]; exact hkl))] at h
       exact h
      have hfrW1 := HRW1.out.frozen k
      clear hcx
      clear hkO hfr1
      go_wp2
      refine ⟨⟨k + 1, L.set k (o + x + 0), by simp, by omega, ?_, HA.out.no hx hy hkl _ (by rw [HO.out, HXK.out, HYK.out]) (by omega), HBW1.out⟩, by simp [intOf]; omega⟩
      have h := HRW1.out
      simpa using h
   ·by_cases c2 : k < ys.length
    ·obtain ⟨g', rfl, hr'⟩ := HY.out (by omega)
     have hlt' := hr'.lt
     have hcy0 := hr'.cells k c2
     rw [hyk] at hcy0
     have hgO' : g' ≠ w.heap.size := by omega
     clear hr'
     by_cases c3 : 10000 ≤ o + 0 + y
     ·have HRwr := HR
      have HBwr := HB
      have hcowr := hco
      have hfrwr := hfr
      clear hco hfr hrow hat hb hxk hyk
      obtain rfl : 0 = x := by have := HXK.out; rw [getD_over c1] at this; exact this
      have hcywr := (HBwr.out.cell (p := ⟨g', k, none⟩) hlt').trans hcy0
      go_wp2
      go_region
      obtain ⟨W2, hW2⟩ : ∃ W, wr.drew.setCell ⟨w.heap.size, k, none⟩ (.int .i64 (o + y)) = W := ⟨_, rfl⟩
      rw [hW2]
      have HRW2 : Hid (RowOf W2 w.heap.size (L.set k (o + y))) := by rw [← hW2]; exact (HRwr.out.drew).set _ _
      have HBW2 : Hid (Below w.heap.size w W2) := by rw [← hW2]; exact HBwr.out.drew.setCell (Nat.le_refl _) _
      clear hW2 hcowr hfrwr
      have hcoW2 : W2.cell? ⟨w.heap.size, k, none⟩ = some (.int .i64 (o + y)) := by
       have h := HRW2.out.cell (j := k) (by first | exact hkl | (simp only [List.length_set]; exact hkl))
       rw [getD_set_self _ (by first | exact hkl | (simp only [List.length_set]; exact hkl))] at h
       exact h
      have hfrW2 := HRW2.out.frozen k
      have hk1 := HLAST.out (by omega)
      have hk1n : k + 1 < n := by have := HA.out.len; have := HN.out; omega
      have hcn : W2.cell? ⟨w.heap.size, k + 1, none⟩ = some (.int .i64 0) := by
       have h := HRW2.out.cell (j := k + 1) (by first | exact hk1 | (simp only [List.length_set]; exact hk1))
       have e : ((L.set k (o + y))).getD (k + 1) 0 = 0 := by
        rw [getD_set_ne _ (by omega)]; exact HA.out.rest (k + 1) (by omega)
       rw [e] at h
       exact h
      have hfn := HRW2.out.frozen (k + 1)
      clear hkO hfr1
      go_wp2
      refine ⟨⟨k + 1, (L.set k (o + 0 + y - 10000)).set (k + 1) 1, by simp, by omega, ?_, HA.out.carry hx hy hk1 _ (by rw [HO.out, HXK.out, HYK.out]) c3, ?_⟩, by simp [intOf]; omega⟩
      ·have h := (HRW2.out.set k (o + y - 10000)).set (k + 1) 1
       simp only [List.set_set] at h
       simpa using h
      ·exact (HBW2.out.setCell (Nat.le_refl _) _).setCell (Nat.le_refl _) _
     ·have HRwr := HR
      have HBwr := HB
      have hcowr := hco
      have hfrwr := hfr
      clear hco hfr hrow hat hb hxk hyk
      obtain rfl : 0 = x := by have := HXK.out; rw [getD_over c1] at this; exact this
      have hcywr := (HBwr.out.cell (p := ⟨g', k, none⟩) hlt').trans hcy0
      go_wp2
      go_region
      obtain ⟨W2, hW2⟩ : ∃ W, wr.drew.setCell ⟨w.heap.size, k, none⟩ (.int .i64 (o + y)) = W := ⟨_, rfl⟩
      rw [hW2]
      have HRW2 : Hid (RowOf W2 w.heap.size (L.set k (o + y))) := by rw [← hW2]; exact (HRwr.out.drew).set _ _
      have HBW2 : Hid (Below w.heap.size w W2) := by rw [← hW2]; exact HBwr.out.drew.setCell (Nat.le_refl _) _
      clear hW2 hcowr hfrwr
      have hcoW2 : W2.cell? ⟨w.heap.size, k, none⟩ = some (.int .i64 (o + y)) := by
       have h := HRW2.out.cell (j := k) (by first | exact hkl | (simp only [List.length_set]; exact hkl))
       rw [getD_set_self _ (by first | exact hkl | (simp only [List.length_set]; exact hkl))] at h
       exact h
      have hfrW2 := HRW2.out.frozen k
      clear hkO hfr1
      go_wp2
      refine ⟨⟨k + 1, L.set k (o + 0 + y), by simp, by omega, ?_, HA.out.no hx hy hkl _ (by rw [HO.out, HXK.out, HYK.out]) (by omega), HBW2.out⟩, by simp [intOf]; omega⟩
      have h := HRW2.out
      simpa using h
    ·have HRwr := HR
     have HBwr := HB
     have hcowr := hco
     have hfrwr := hfr
     clear hco hfr hrow hat hb hxk hyk
     obtain rfl : 0 = x := by have := HXK.out; rw [getD_over c1] at this; exact this
     obtain rfl : 0 = y := by have := HYK.out; rw [getD_over c2] at this; exact this
     clear hkO hfr1
     go_wp2
     refine ⟨⟨k + 1, L.set k (o + 0 + 0), by simp, by omega, ?_, HA.out.no hx hy hkl _ (by rw [HO.out, HXK.out, HYK.out]) (by omega), HBwr.out⟩, by simp [intOf]; omega⟩
     have h := HRwr.out
     rw [show o + 0 + 0 = L.getD k 0 by rw [HO.out]; omega, set_same hkl]; exact h
theorem Tryz.nAdd {v u : Value} {a b : Int} {n m : Nat} {w : World} (hv : NumIs w v a n) (hu : NumIs w u b m) (hlen : n + m ≤ 1000000) :
 Calls Tryz.prog 69 #[v, u] w fun e w' => (∃ v', e = .returned v' ∧ NumIs w' v' (a + b) (max n m + 1)) ∧ Below w.heap.size w w' := by
 obtain ⟨xs, h1, h2, h3, rfl, h5⟩ := hv
 obtain ⟨ys, k1, k2, k3, rfl, k5⟩ := hu
 refine (Tryz.rAdd v u xs ys w h1 k1 h2 k2 (by omega)).mono ?_
 rintro e w' ⟨⟨v', rfl, h⟩, hb⟩
 exact ⟨⟨v', rfl, h.mono (by omega)⟩, hb⟩
end Go.Proofs
