/- What Mul of the package nat returns: the product. -/
import Derived.Test.YtgcnpjnanlbmpaaGreatDoorAr
import Derived.Test.YtgcnpjnanlbmpaaGreatDoorWd5
import Derived.Test.YtgcnpjnanlbmpaaGreatDoorSm
import Derived.Lib.Hide
namespace Go.Proofs.Wd
open Go.RowKit
set_option linter.unusedVariables false
/-- What holds at the head of product's loop. -/
structure ProAt (xs ys : List Int) (k : Nat) (M : List Int) : Prop where
  len : M.length = xs.length + ys.length
  dig : Dig M
  rest : ∀ j, k + ys.length ≤ j → M.getD j 0 = 0
  sum : val M = val (xs.take k) * val ys
theorem getD_zeros (n j : Nat) : (List.replicate n (0 : Int)).getD j 0 = 0 := by
  simp only [List.getD, List.getElem?_replicate]; split <;> rfl
theorem ProAt.start (xs ys : List Int) : ProAt xs ys 0 (List.replicate (xs.length + ys.length) 0) :=
  ⟨by simp, fun d hd => by rw [(List.mem_replicate.1 hd).2]; omega, fun j _ => getD_zeros _ j, by rw [val_zeros]; simp⟩
theorem ProAt.step {xs ys M N : List Int} {k : Nat} {d v : Int} (H : ProAt xs ys k M) (hk : k < xs.length) (hd : xs.getD k 0 = d) (A : AddRo M ys d k ys.length v N) : ProAt xs ys (k + 1) (N.set (k + ys.length) v) := by
  have hl := H.len
  have hn := A.len
  refine ⟨by rw [List.length_set, hn, hl], Dig.set A.dig _ A.v0 A.v1, fun j hj => ?_, ?_⟩
  · rw [getD_set_ne _ (by omega), A.rest j (by omega)]; exact H.rest j (by omega)
  · rw [val_set _ _ _ (by omega), A.rest (k + ys.length) (by omega), H.rest (k + ys.length) (by omega), val_take_succ _ _ hk, hd]
    have s := A.sum
    rw [List.take_of_length_le (Nat.le_refl ys.length), H.sum] at s
    rw [Int.sub_zero, s, Int.add_mul, Int.mul_assoc]
theorem ProAt.last {xs ys M : List Int} {k : Nat} (H : ProAt xs ys k M) (hk : xs.length ≤ k) : val M = val xs * val ys := by
  rw [H.sum, List.take_of_length_le hk]
set_option maxHeartbeats 8000000 in
set_option maxRecDepth 100000 in
theorem Tryz.product (v u : Value) (xs ys : List Int) (w : World) (hv : Digs w v xs) (hu : Digs w u ys) (hx : Dig xs) (hy : Dig ys) (hlen : xs.length ≤ 100000) (hlen2 : ys.length ≤ 100000) :
    Calls Tryz.prog 100 #[v, u] w fun e w' => (∃ r L, e = .returned r ∧ NewRow w' w.heap.size r L ∧ Dig L ∧ L.length = xs.length + ys.length ∧ val L = val xs * val ys) ∧ Below w.heap.size w w' := by
  obtain ⟨i0, hi, hz0, hz1, hz2⟩ := info_parts Tryz.info22
  obtain ⟨p, cap, rfl, hxl, hxr⟩ := hv.slice
  obtain ⟨q, dap, rfl, hyl, hyr⟩ := hu.slice
  obtain ⟨n, hn⟩ : ∃ n, xs.length = n := ⟨_, rfl⟩
  obtain ⟨m, hm⟩ : ∃ m, ys.length = m := ⟨_, rfl⟩
  have HXR : Hid (0 < n → ∃ g, p = some ⟨g, 0, none⟩ ∧ RowAt w g cap xs) := fun h => hxr (by omega)
  have HYR : Hid (0 < ys.length → ∃ g, q = some ⟨g, 0, none⟩ ∧ RowAt w g dap ys) := fun h => hyr (by omega)
  have HN : Hid (xs.length = n) := hn
  have HM : Hid (ys.length = m) := hm
  have HX : Hid (Dig xs) := hx
  have HY : Hid (Dig ys) := hy
  rw [hn] at hxl hlen
  rw [hm] at hyl hlen2
  rw [hn, hm]
  clear hv hu hx hy hxr hyr hn hm
  go_enter Tryz.func100, Tryz.ntmps100
  go_wp2_with (first
    | (refine wpList_make_full _ rfl _ _ 86 rfl w.heap.size 22 i0 (.int .u64 0) 1 Tryz.underlying86 hi hz0 hz1 .i64 .i64 _ _ (n + m) rfl rfl rfl rfl (by rw [hz2]; omega) (by unfold maxLen; omega) (by omega) ?_))
  intro w1 hown hgrow
  have hrow1 := RowOf.of_made (by rw [toList_madeCells_one] at hown; exact hown)
  have HROW : Hid (RowOf w1 w.heap.size (List.replicate (xs.length + ys.length) 0)) := by show RowOf _ _ _; rw [HN.out, HM.out]; exact hrow1
  have HB1 : Hid (Below w.heap.size w w1) := (Below.refl _ _).grown hgrow (Nat.le_refl _) (fun k hk => by cases hk)
  clear hown hgrow hrow1
  go_wp2
  go_loopw [16] (fun i wr => ∃ (k : Nat) (M : List Int), i = .int .i64 k ∧ k ≤ n ∧ ProAt xs ys k M ∧ RowOf wr w.heap.size M ∧ Below w.heap.size w wr) (fun i _ => n - (intOf i).toNat)
  case atStart => exact ⟨0, _, rfl, by omega, ProAt.start xs ys, HROW.out, HB1.out⟩
  case round =>
    obtain ⟨k, M, rfl, hk, hat, hrow, hb⟩ := hrel
    have HA : Hid (ProAt xs ys k M) := hat
    have HR : Hid (RowOf wr w.heap.size M) := hrow
    have HB : Hid (Below w.heap.size w wr) := hb
    have HML : Hid (M.length = n + m) := show M.length = n + m by rw [hat.len, HN.out, HM.out]
    by_cases hkn : k = n
    · subst hkn
      clear hat hrow hb
      go_wp2
      go_ret
      exact ⟨⟨_, M, rfl, ⟨by rw [HML.out]; rfl, HR.out⟩, HA.out.dig, HML.out, HA.out.last (by have := HN.out; omega)⟩, HB.out⟩
    · obtain ⟨g, rfl, hgr⟩ := HXR.out (by omega)
      obtain ⟨d, hd⟩ : ∃ d, xs.getD k 0 = d := ⟨_, rfl⟩
      have hlt := hgr.lt
      have hcx := (hb.cell (p := ⟨g, k, none⟩) hlt).trans (hgr.cells k (by have := HN.out; omega))
      have hxd := HX.out.get k
      rw [hd] at hcx hxd
      have HXV : Hid (xs.getD k 0 = d) := hd
      have hadd := fun capz => Tryz.addRow w.heap.size k capz M ys q dap d wr HR.out HA.out.dig (by rw [HML.out, HM.out]; omega) (by rw [HML.out]; omega) HY.out (fun h => by
        obtain ⟨g, hg, hr⟩ := HYR.out h
        exact ⟨g, hg, by have := hr.lt; omega, hr.below HB.out hr.lt⟩) hxd.1 hxd.2
      rw [HM.out] at hadd
      have HADD := Lib.hid hadd
      have hwo : IntKind.i64.wrap ((k : Int) + m) = (k : Int) + m := by simp [IntKind.wrap, IntKind.signed, IntKind.bits]; omega
      clear hat hrow hb hd hadd hgr
      go_wp2_with fail
      with_reducible refine (HADD.out _).mono ?_
      rintro e w2 ⟨⟨N, v, rfl, hr2, hat2⟩, hg2⟩
      have HR2 : Hid (RowOf w2 w.heap.size N) := hr2
      have hnl : N.length = n + m := by rw [hat2.len, HML.out]
      have hcz := hr2.cell (j := k + m) (by omega)
      have hfr := hr2.frozen (k + m)
      obtain ⟨o, ho⟩ : ∃ o, N.getD (k + m) 0 = o := ⟨_, rfl⟩
      rw [ho] at hcz
      have hv0 := hat2.v0
      have hv1 := hat2.v1
      have HST : Hid (ProAt xs ys (k + 1) (N.set (k + m) v)) := by
        have h := HA.out.step (v := v) (N := N) (by have := HN.out; omega) HXV.out (by rw [HM.out]; exact hat2)
        rw [HM.out] at h
        exact h
      have HB2 : Hid (Below w.heap.size w w2) := HB.out.grown hg2 (by have := HB.out.size; exact this) (fun j hj => by cases hj; exact Nat.le_refl _)
      clear hr2 hat2 hg2 ho HADD
      go_wp2
      exact ⟨⟨k + 1, _, by simp, by omega, HST.out, HR2.out.set (k + m) v, HB2.out.setCell (Nat.le_refl _) _⟩, by simp [intOf]; omega⟩
end Go.Proofs.Wd
