/- What Get of the package nat returns: the number that a text shows and true, or nil and false. -/
import Derived.Test.YtgcnpjnanlbmpaaGreatDoorWe
import Derived.Laws.DeepStrings4
namespace Go.Proofs.Wd
open Go.RowKit
set_option linter.unusedVariables false
/-- The number and true of a text that is one, nil and false of another. -/
def GetIs (s : ByteArray) (w : World) (e : Ending) : Prop := (Tx.plainB s = true ∧ ∃ v, e = .returned (.tuple #[v, .bool true]) ∧ Num w v (Tx.num s : Int) 120) ∨ (Tx.plainB s = false ∧ e = .returned (.tuple #[.pointer none, .bool false]))
theorem Num.nil (w : World) (n : Nat) : Num w (.pointer none) 0 n := ⟨[], .inl ⟨rfl, rfl⟩, Dig.nil, .inl rfl, rfl, by simp⟩
theorem GetIs.no {s : ByteArray} (w : World) (h : Tx.plainB s = false) : GetIs s w (.returned (.tuple #[.pointer none, .bool false])) := .inr ⟨h, rfl⟩
theorem size_cut (s : ByteArray) (a b : Nat) : (s.extract a b).size ≤ b - a := by rw [ByteArray.size_extract]; omega
set_option maxHeartbeats 4000000 in
set_option maxRecDepth 100000 in
/-- What holds at the head of Get's loop: the places below kk are read, m groups are left. -/
structure GetAt (s : ByteArray) (n : Nat) (L : List Int) (ee kk m : Nat) : Prop where
  dig : Dig L
  left : n + 19 = ee + 19 * m
  lt : kk < ee
  le : ee ≤ kk + 19
  fin : m = 0 → kk = n
  more : 0 < m → kk < n
  len : L.length + m ≤ 107
  sum : val L = (Tx.dv (s.data.toList.take kk) : Int)
  full : 0 < kk → ee = kk + 19
theorem GetAt.start (s : ByteArray) {n e0 m : Nat} (h1 : n + 19 = e0 + 19 * m) (h2 : 0 < m) (h3 : m ≤ 106) (h4 : e0 ≤ 19) (h5 : 0 < e0) : GetAt s n [] e0 0 m :=
  ⟨Dig.nil, h1, h5, by omega, by omega, by omega, by simp; omega, by simp, by omega⟩
theorem GetAt.step {s : ByteArray} {n : Nat} {L L' : List Int} {ee kk m : Nat} (h : GetAt s n L ee kk (m + 1)) (hn : s.size = n) (hd : Dig L') (hl : L'.length = L.length + 1) (hv : val L' = val L * 10000000000000000000 + (Tx.num (s.extract kk ee) : Int)) : GetAt s n L' (ee + 19) ee m := by
  have h1 := h.left
  have h2 := h.lt
  have h3 := h.le
  have h4 := h.more (by omega)
  refine ⟨hd, by omega, by omega, by omega, by omega, by omega, by have := h.len; omega, ?_, fun _ => rfl⟩
  rw [hv, h.sum, Tx.dv_group s kk ee (by omega) (by omega)]
  by_cases hk : kk = 0
  · subst hk; simp
  · have := h.full (by omega)
    rw [show ee - kk = 19 by omega, show (10 : Nat) ^ 19 = 10000000000000000000 from rfl]
    omega
theorem GetAt.last {s : ByteArray} {n : Nat} {L : List Int} {ee kk : Nat} (h : GetAt s n L ee kk 0) (hn : s.size = n) : val L = (Tx.num s : Int) ∧ L.length ≤ 120 := by
  have h1 := h.fin rfl
  have h2 := h.len
  refine ⟨?_, by omega⟩
  rw [h.sum, List.take_of_length_le (by rw [Tx.length_list]; omega)]; rfl
set_option maxHeartbeats 4000000 in
set_option maxRecDepth 100000 in
theorem Tryz.GetX (s : ByteArray) (w : World) (hmax : s.size ≤ 9223372036854775807) :
    Calls Tryz.prog 12 #[.string s] w fun e w' => GetIs s w' e ∧ Below w.heap.size w w' := by
  obtain ⟨i0, hi, hz0, hz1, hz2⟩ := info_parts Tryz.info22
  by_cases h0 : Tx.plainB s = true
  · obtain ⟨hn0, hn1, hdg⟩ := Tx.plainB_digs h0
    have HDG : Hid (∀ c ∈ s.data.toList, Tx.isDig c) := hdg
    have H0 : Hid (Tx.plainB s = true) := h0
    clear hdg
    obtain ⟨n, hn⟩ : ∃ n, s.size = n := ⟨_, rfl⟩
    have HN : Hid (s.size = n) := hn
    have HPL : Hid (∀ w, Calls Tryz.prog 50 #[.string s] w fun e w' => e = .returned (.bool true) ∧ w' = w) := fun w => by
      rw [← h0]; exact Tryz.plainX s w hmax
    clear h0
    rw [hn] at hn0 hn1
    obtain ⟨c, hc⟩ : ∃ c : Nat, (n : Int) / 19 + 1 = c := ⟨((n : Int) / 19 + 1).toNat, by omega⟩
    have hc1 : c ≤ 1000 := by omega
    obtain ⟨e0, he0⟩ : ∃ e0 : Nat, ((n : Int) - 1) % 19 + 1 = e0 := ⟨(((n : Int) - 1) % 19 + 1).toNat, by omega⟩
    have HE0 : Hid (∃ m : Nat, n + 19 = e0 + 19 * m ∧ 0 < m ∧ m ≤ 106 ∧ e0 ≤ 19 ∧ 0 < e0) := ⟨(n + 19 - e0) / 19, by omega, by omega, by omega, by omega, by omega⟩
    go_enter Tryz.func12, Tryz.ntmps12
    go_wp2_with (first
      | (go_at_call 50; (with_reducible refine (HPL.out _).mono ?_); rintro e w1 ⟨rfl, rfl⟩)
      | (refine wpList_make_own _ rfl _ _ 86 rfl w1.heap.size 22 i0 (.int .u64 0) 1 Tryz.underlying86 hi hz0 hz1 .i64 .i64 _ c rfl rfl rfl (by rw [hz2]; omega) (by unfold maxLen; omega) (Nat.le_refl _) ?_))
    intro w2 hown hgrow
    have HO : Hid (w2.ownsRow w1.heap.size 22 1 (.slice (some ⟨w1.heap.size, 0, none⟩) 0 c) 0 []) := hown
    have HB : Hid (Below w1.heap.size w1 w2) := (Below.refl _ _).grown hgrow (Nat.le_refl _) (fun k hk => by cases hk)
    clear hown hgrow
    go_wp2
    go_loopw [4, 5, 6] (fun x e k wr => ∃ (L : List Int) (ee kk m : Nat), e = .int .i64 ee ∧ k = .int .i64 kk ∧ wr.ownsRow w1.heap.size 22 1 x L.length (L.map (Value.int .u64)) ∧ GetAt s n L ee kk m ∧ Below w1.heap.size w1 wr) (fun _ e _ _ => n + 19 - (intOf e).toNat)
    case atStart =>
      obtain ⟨m, h1, h2, h3, h4, h5⟩ := HE0.out
      exact ⟨[], e0, 0, m, rfl, rfl, HO.out, GetAt.start s h1 h2 h3 h4 h5, HB.out⟩
    case round =>
      obtain ⟨L, ee, kk, m, rfl, rfl, hown, hat, hb⟩ := hrel
      have HW : Hid (wr.ownsRow w1.heap.size 22 1 _ L.length (L.map (Value.int .u64))) := hown
      have HA : Hid (GetAt s n L ee kk m) := hat
      have HD : Hid (Dig L) := hat.dig
      have HB2 : Hid (Below w1.heap.size w1 wr) := hb
      have hsz := hb.size
      have h1 := hat.left
      have h2 := hat.lt
      have h3 := hat.le
      have h4 := hat.fin
      have h5 := hat.more
      have h6 := hat.len
      have H1 : Hid (n + 19 = ee + 19 * m) := h1
      clear hown hb HO HB hat
      cases m with
      | zero =>
        have hkn : kk = n := h4 rfl
        have HL : Hid (val L = (Tx.num s : Int) ∧ L.length ≤ 120) := HA.out.last HN.out
        subst hkn
        clear h4 h5
        go_wp2_with (go_at_call 53; refine (Tryz.made _ L _ (Digs.of_own HW.out) HD.out).mono ?_; rintro e w3 ⟨⟨v3, rfl, hv3⟩, hb3⟩; have HG : Hid (GetIs s w3 (.returned (.tuple #[v3, .bool true]))) := .inl ⟨H0.out, _, rfl, by rw [← HL.out.1]; exact Num.fewer hv3 HL.out.2⟩; have HB3 : Hid (Below w1.heap.size w1 w3) := HB2.out.trans (hb3.mono hsz); clear hv3 hb3)
        go_ret2
        exact ⟨HG.out, HB3.out⟩
      | succ m =>
        have hkn : kk < n := h5 (by omega)
        have hee : ee ≤ n := by omega
        clear h1 h4 h5
        have HCUT : Hid ((s.extract kk ee).size ≤ 19) := Nat.le_trans (size_cut s kk ee) (by omega)
        have hsl : ∀ w, (Instr.slice 9 (.string s) (some (.int .i64 (kk : Int))) (some (.int .i64 (ee : Int))) none).run Tryz.prog w = .ok (.string (s.extract kk ee)) w := fun w => by
          rw [run_slice_string_if w _ s _ _ _ _ Tryz.underlying9, if_pos (by omega), if_pos (by omega)]; rfl
        obtain ⟨g, hg⟩ : ∃ g : Int, (Tx.num (s.extract kk ee) : Int) = g := ⟨_, rfl⟩
        have hgr : 0 ≤ g ∧ g ≤ 18446744073709551615 := by
          have h := Tx.dv_take_lt (Tx.digs_cut HDG.out kk ee) 19
          rw [List.take_of_length_le (by rw [Tx.length_list]; exact HCUT.out)] at h
          rw [← hg]; unfold Tx.num; omega
        obtain ⟨g0, g1⟩ := hgr
        have HG : Hid ((Tx.num (s.extract kk ee) : Int) = g) := hg
        have HGR : Hid (∀ w, Calls Tryz.prog 52 #[.string (s.extract kk ee)] w fun e w' => e = .returned (.int .u64 g) ∧ w' = w) := fun w => by
          rw [← hg]; exact Tryz.groupX _ w HCUT.out (Tx.digs_cut HDG.out kk ee)
        clear hg
        go_wp2_with (first
          | (go_at_call 52; (with_reducible refine (HGR.out _).mono ?_); rintro e w3 ⟨rfl, rfl⟩)
          | (go_at_call 51; refine (Tryz.pushed _ L _ w1.heap.size _ HW.out hsz HD.out g0 g1 (by omega)).mono ?_; rintro e w4 ⟨⟨v', L', rfl, ho', hd', hl', hv'⟩, hb'⟩; have HW' : Hid (w4.ownsRow w1.heap.size 22 1 v' L'.length (L'.map (Value.int .u64))) := ho'; have HA' : Hid (GetAt s n L' (ee + 19) ee m) := HA.out.step HN.out hd' hl' (by rw [hv', HG.out]); have HB' : Hid (Below w1.heap.size w1 w4) := HB2.out.trans hb'; clear ho' hd' hl' hv' hb'))
        exact ⟨⟨L', ee + 19, ee, m, by simp, rfl, HW'.out, HA'.out, HB'.out⟩, by simp [intOf]; omega⟩
  · have h0' : Tx.plainB s = false := by simpa using h0
    have H0 : Hid (Tx.plainB s = false) := h0'
    have HPL : Hid (∀ w, Calls Tryz.prog 50 #[.string s] w fun e w' => e = .returned (.bool false) ∧ w' = w) := fun w => by
      rw [← h0']; exact Tryz.plainX s w hmax
    clear h0 h0'
    go_enter Tryz.func12, Tryz.ntmps12
    go_wp2_with (go_at_call 50; (with_reducible refine (HPL.out _).mono ?_); rintro e w1 ⟨rfl, rfl⟩)
    go_ret2
    exact ⟨GetIs.no _ H0.out, Below.refl _ _⟩
end Go.Proofs.Wd
