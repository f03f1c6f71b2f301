/- What Text of the reference's numbers returns: the walk. -/
import Derived.Test.YtgcnpjnanlbmpaaGreatDoorRt
import Derived.Lib.Hide
import Derived.Laws.IdiomStrings
namespace Go.Proofs
open Go.RowKit
set_option linter.unusedVariables false
theorem bytes_eq {s : ByteArray} {l : List UInt8} (h : s.data.toList = l) : s = ⟨l.toArray⟩ := by
  obtain ⟨⟨m⟩⟩ := s
  simp at h
  rw [h]
theorem castStep (k : Nat) : Value.int IntKind.i64 ((k : Int) + 1) = Value.int IntKind.i64 ((k + 1 : Nat) : Int) := rfl
set_option maxHeartbeats 4000000 in
set_option maxRecDepth 100000 in
theorem Tryz.rText (v : Value) (z : Int) (n : Nat) (w : World) (h : NumIs w v z n) (hn : n ≤ 100000) :
    Calls Tryz.prog 15 #[v] w fun e w' => e = .returned (.string ⟨(Lib.decDigits z.toNat).toArray⟩) ∧ Below w.heap.size w w' := by
  obtain ⟨L, hdg, hd, ht, hv, hl⟩ := h
  rcases hdg.cases with ⟨rfl, rfl⟩ | ⟨g, cap, rfl, hr⟩
  · have hz : z.toNat = 0 := by rw [← hv]; rfl
    have HZ : Hid ((⟨(Lib.decDigits z.toNat).toArray⟩ : ByteArray) = ⟨#[48]⟩) := by
      show _ = _
      rw [hz, Lib.decDigits_one (by decide)]; rfl
    clear hv hz hdg
    go_enter Tryz.func15, Tryz.ntmps15
    go_wp2
    go_ret
    exact ⟨by rw [HZ.out]; rfl, Below.refl _ _⟩
  · by_cases hL : L = []
    · subst hL
      have hz : z.toNat = 0 := by rw [← hv]; rfl
      have HZ : Hid ((⟨(Lib.decDigits z.toNat).toArray⟩ : ByteArray) = ⟨#[48]⟩) := by
        show _ = _
        rw [hz, Lib.decDigits_one (by decide)]; rfl
      clear hv hz hdg
      go_enter Tryz.func15, Tryz.ntmps15
      go_wp2
      go_ret
      exact ⟨by rw [HZ.out]; rfl, Below.refl _ _⟩
    · have hz0 : 0 ≤ z := by rw [← hv]; exact val_nonneg hd
      have HST : Hid (RtHead L z.toNat 0 ⟨#[]⟩) := RtHead.start (by rw [hv]; omega) hL
      obtain ⟨m, hm⟩ : ∃ m, L.length = m := ⟨_, rfl⟩
      have HM : Hid (L.length = m) := hm
      have hm0 : 0 < m := by have : L.length ≠ 0 := fun e => hL (List.length_eq_zero_iff.1 e); omega
      have hm00 : ((m : Int) == 0) = false := by simp; omega
      have HD : Hid (Dig L) := hd
      have HT : Hid (Top L) := ht
      have HR : Hid (RowAt w g cap L) := hr
      have hlt := hr.lt
      have hf := hr.fits
      have hx := hr.max
      unfold maxLen at hx
      rw [hm] at hl hf
      rw [hm]
      obtain ⟨Z, hZ⟩ : ∃ Z, z.toNat = Z := ⟨_, rfl⟩
      rw [hZ] at HST
      rw [hZ]
      clear hd ht hr hdg hv hL hm hz0 hZ
      go_enter Tryz.func15, Tryz.ntmps15
      go_wp2
      go_loopw [3, 4] (fun sv i wr => ∃ (b : ByteArray) (k : Nat), sv = .string b ∧ i = .int .i64 k ∧ k ≤ m ∧ b.size ≤ 4 * k ∧ RtHead L Z k b ∧ Below w.heap.size w wr) (fun _ i _ => m - (intOf i).toNat)
      case atStart => exact ⟨_, 0, rfl, rfl, by omega, Nat.le_refl 0, HST.out, Below.refl _ _⟩
      case round =>
        obtain ⟨b, i, rfl, rfl, hi, hbs, hat, hb⟩ := hrel
        have HA : Hid (RtHead L Z i b) := hat
        have HB : Hid (Below w.heap.size w wr) := hb
        by_cases hin : i = m
        · subst hin
          have HTX : Hid (b = ⟨(Lib.decDigits Z).toArray⟩) := bytes_eq (hat.2.2 HM.out.symm)
          clear hat hb
          go_wp2
          go_ret
          exact ⟨by rw [HTX.out]; rfl, HB.out⟩
        · obtain ⟨x, hx⟩ : ∃ x, L.getD i 0 = x := ⟨_, rfl⟩
          have hiL : i < L.length := by have := HM.out; omega
          have hcx := (hb.cell (p := ⟨g, i, none⟩) hlt).trans (HR.out.cells i hiL)
          rw [hx] at hcx
          have HW : Hid (RtAt L Z i 0 x b) := by rw [← hx]; exact HA.out.word HD.out HT.out hiL
          have HIL := Lib.hid hiL
          have hxd := HD.out.get i
          rw [hx] at hxd
          obtain ⟨wo, rfl⟩ : ∃ wo : World, wo = wr := ⟨_, rfl⟩
          have hdi : decide (i < m) = true := by simp; omega
          clear hat hb hx hiL
          go_wp2
          go_loopw [3, 5, 6] (fun sv dv kv ws => ∃ (c : ByteArray) (d : Int) (k : Nat), sv = .string c ∧ dv = .int .i64 d ∧ kv = .int .i64 k ∧ k ≤ 4 ∧ 0 ≤ d ∧ d ≤ 9999 ∧ c.size ≤ 4 * i + k ∧ RtAt L Z i k d c ∧ Below wo.heap.size wo ws) (fun _ _ kv _ => 4 - (intOf kv).toNat)
          case atStart => exact ⟨b, x, 0, rfl, rfl, rfl, by omega, hxd.1, hxd.2, by omega, HW.out, Below.refl _ _⟩
          case round =>
            obtain ⟨c, d, k, rfl, rfl, rfl, hk, d0, d1, hcs, hat, hb⟩ := hrel
            have HA2 : Hid (RtAt L Z i k d c) := hat
            have HB2 : Hid (Below wo.heap.size wo wr) := hb
            have hsz := hb.size
            obtain ⟨y, hy⟩ : ∃ y : UInt8, y = UInt8.ofNat (48 + d.toNat % 10) := ⟨_, rfl⟩
            have hyn : (y.toNat : Int) = 48 + d % 10 := by rw [hy, Tx.toNat_digit (by omega)]; omega
            have HY : Hid (y = UInt8.ofNat (48 + d.toNat % 10)) := hy
            have hcv : (convert 71 9 (.slice (some ⟨wr.heap.size, 0, none⟩) 1 1)).run Tryz.prog (wr.alloc (.cells #[.int .u8 (48 + d % 10)] 5)) = .ok (.string ⟨#[y]⟩) (wr.alloc (.cells #[.int .u8 (48 + d % 10)] 5)) := by
              have h := run_convert_bytes_back (P := Tryz.prog) (wr.alloc (.cells #[.int .u8 (48 + d % 10)] 5)) 71 9 5 ⟨wr.heap.size, 0, none⟩ 1 [y] Tryz.underlying71 Tryz.underlying5 Tryz.underlying9 (fun j hj => by
                have : j = 0 := by simpa using hj
                subst this
                simp [Addr.add, hyn])
              exact h
            have HBA : Hid (Below wo.heap.size wo (wr.alloc (.cells #[.int .u8 (48 + d % 10)] 5))) := hb.alloc hsz _
            have HBO : Hid (Below w.heap.size w wr) := Below.trans HB.out (hb.mono (by have := HB.out.size; omega))
            have HSZ : Hid ((⟨#[y]⟩ ++ c : ByteArray).size = c.size + 1) := by
              show _ = _
              rw [ByteArray.size_append]; show 1 + c.size = _; omega
            have HTL : Hid ((⟨#[y]⟩ ++ c : ByteArray).data.toList = UInt8.ofNat (48 + d.toNat % 10) :: c.data.toList) := by
              show _ = _
              rw [ByteArray.data_append, Array.toList_append, HY.out]; rfl
            clear hat hb hy hyn
            by_cases hk4 : k = 4
            · have HL2 : Hid (RtHead L Z (i + 1) c) := HA2.out.leave HIL.out (.inl hk4)
              subst hk4
              go_wp2
              exact ⟨⟨c, i + 1, rfl, by simp, by omega, by omega, HL2.out, HBO.out⟩, by simp [intOf]; omega⟩
            · by_cases hd0 : d = 0
              · have hdb : (d == 0) = true := by simpa using hd0
                have HL2 : Hid (i + 1 = m → RtHead L Z (i + 1) c) := fun e => HA2.out.leave HIL.out (.inr ⟨by rw [HM.out]; exact e, hd0⟩)
                have HST2 : Hid (i + 1 ≠ m → RtAt L Z i (k + 1) (d / 10) (⟨#[y]⟩ ++ c)) := fun e => HA2.out.step (by omega) (fun e2 => absurd (by rw [← HM.out]; exact e2) e) HTL.out
                have HD0 := Lib.hid hd0
                clear hd0
                by_cases hl1 : i + 1 = m
                · have hb1 : ((i : Int) == (m : Int) - 1) = true := by simp; omega
                  have him : (i : Int) = (m : Int) - 1 := by omega
                  go_wp2
                  exact ⟨⟨c, i + 1, rfl, by simp; omega, by omega, by omega, HL2.out hl1, HBO.out⟩, by simp [intOf]; omega⟩
                · have hb1 : ((i : Int) == (m : Int) - 1) = false := by simp; omega
                  have him : ¬ (i : Int) = (m : Int) - 1 := by omega
                  go_wp2
                  exact ⟨⟨_, d / 10, k + 1, rfl, rfl, castStep k, by omega, by omega, by omega, by rw [HSZ.out]; omega, HST2.out hl1, HBA.out⟩, by simp [intOf]; omega⟩
              · have hdb : (d == 0) = false := by simpa using hd0
                have HST2 : Hid (RtAt L Z i (k + 1) (d / 10) (⟨#[y]⟩ ++ c)) := HA2.out.step (by omega) (fun _ => hd0) HTL.out
                clear hd0
                by_cases hl1 : i + 1 = m
                · have hb1 : ((i : Int) == (m : Int) - 1) = true := by simp; omega
                  go_wp2
                  exact ⟨⟨_, d / 10, k + 1, rfl, rfl, castStep k, by omega, by omega, by omega, by rw [HSZ.out]; omega, HST2.out, HBA.out⟩, by simp [intOf]; omega⟩
                · have hb1 : ((i : Int) == (m : Int) - 1) = false := by simp; omega
                  have him : ¬ (i : Int) = (m : Int) - 1 := by omega
                  go_wp2
                  exact ⟨⟨_, d / 10, k + 1, rfl, rfl, castStep k, by omega, by omega, by omega, by rw [HSZ.out]; omega, HST2.out, HBA.out⟩, by simp [intOf]; omega⟩
end Go.Proofs
