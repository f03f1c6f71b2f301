/- IndexAny of a short string in which no two bytes beyond ASCII stand side by side. LitTurn: a literal of which a byte is another one: the call returns true. -/
import Derived.Test.YtoiihhkafcglhaaGreatDoorLd
import Derived.Deep.LoopGhost
import Derived.Laws.RangeAny
import Derived.Lib.OthersKept
import Derived.Test.YtoiihhkafcglhaaGreatDoorLf
import Derived.Lib.ConvBytes
namespace Go.Proofs.Fr
open Go.RowKit Go.Proofs.Wd Go.Lib
set_option linter.unusedVariables false
theorem decode_lone {s : ByteArray} {i : Nat} (h : i < s.size) (ha : ¬ (s[i]'h).toNat < 128) (hn : ∀ g : i + 1 < s.size, (s[i + 1]'g).toNat < 128) : Utf8.decode s i = (65533, 1) := by
  have e0 : s.get! (i + 0) = s[i]'h := get_at s i h
  have hc : (decide (i + 1 < s.size) && (s.get! (i + 1)).toNat / 64 == 2) = false := by
    by_cases g : i + 1 < s.size
    · have e1 : s.get! (i + 1) = s[i + 1]'g := get_at s (i + 1) g
      have := hn g
      rw [e1]
      have h2 : ((s[i + 1]'g).toNat / 64 == 2) = false := beq_eq_false_iff_ne.2 (by omega)
      rw [h2, Bool.and_false]
    · rw [decide_eq_false g, Bool.false_and]
  unfold Utf8.decode
  simp only [e0, hc, ha, if_false, Bool.and_false, Bool.false_and, Bool.false_eq_true]
  rfl
set_option maxHeartbeats 4000000 in
set_option maxRecDepth 100000 in
/-- No rune of this string is the replacement. -/
theorem Tryz.noRune (s : ByteArray) (w : World) (ha : ∀ (j : Nat) b, s.data.toList[j]? = some b → b.toNat < 128) :
    Calls Tryz.prog 184 #[.string s, .int .i32 65533] w fun e w' => e = .returned (.int .i64 (-1)) ∧ Below w.heap.size w w' := by
  have HA := Lib.hid ha
  clear ha
  go_enter Tryz.func184, Tryz.ntmps184
  go_wp2_with fail
  go_loopg [5, 6] s.size (fun g _ _ wx => ∃ i : Nat, i + g = s.size ∧ wx = w.iter s i)
  case atStart => exact ⟨0, by omega, rfl⟩
  case round =>
    obtain ⟨i, hig, rfl⟩ := hrel
    cases gk with
    | zero =>
      obtain rfl : i = s.size := by omega
      have hnx := fun ty => run_next_end (P := Tryz.prog) w s s.size ty (Nat.lt_irrefl _)
      go_wp2_with fail
      go_ret
      exact ⟨rfl, (Below.refl _ _).alloc (Nat.le_refl _) _⟩
    | succ g =>
      have hi : i < s.size := by omega
      obtain ⟨x, hx⟩ : ∃ x : UInt8, s[i]'hi = x := ⟨_, rfl⟩
      have hx128 : x.toNat < 128 := HA.out i x (by rw [← hx]; exact Lib.data_getElem? s i hi)
      have hnx := fun ty => run_next_ascii (P := Tryz.prog) w s i ty hi (by rw [hx]; exact hx128)
      rw [hx] at hnx
      have hne : ((x.toNat : Int) == 65533) = false := beq_eq_false_iff_ne.2 (by omega)
      clear hx
      go_wp2_with fail
      go_roundg g
      case measure => omega
      case rel => exact ⟨i + 1, by omega, rfl⟩
set_option maxHeartbeats 8000000 in
set_option maxRecDepth 100000 in
/-- Where the first e stands, in at most 8 bytes, no two beyond ASCII side by side. -/
theorem any_lone (s : ByteArray) (h8 : s.size ≤ 8) (hl : ∀ (i : Nat) (h : i < s.size) (g : i + 1 < s.size), (s[i]'h).toNat < 128 ∨ (s[i + 1]'g).toNat < 128) : AnyOk s := fun w => by
  rw [← any_idxE]
  have HLN := Lib.hid hl
  clear hl
  have HRU : Hid (∀ W (r : Int), 0 ≤ r → r < 128 → Calls Tryz.prog 184 #[.string ⟨#[101, 69]⟩, .int .i32 r] W fun e w' => e = .returned (.int .i64 (Lib.indexByte [101, 69] r.toNat.toUInt8)) ∧ w' = W) := fun W r h0 h1 => Any.strings_IndexRune_ascii { Tryz.lays153 with } ⟨#[101, 69]⟩ r W h0 h1
  have HNO : Hid (∀ W, Calls Tryz.prog 184 #[.string ⟨#[101, 69]⟩, .int .i32 65533] W fun e w' => e = .returned (.int .i64 (-1)) ∧ Below W.heap.size W w') := fun W => Tryz.noRune _ W (fun j b hb => by
    have hm := List.mem_of_getElem? hb
    have : b = 101 ∨ b = 69 := by simpa using hm
    rcases this with rfl | rfl <;> decide)
  have h8z : decide ((8 : Int) < (s.size : Int)) = false := decide_eq_false (by omega)
  obtain ⟨k, hk⟩ : ∃ k, w.heap.size = k := ⟨_, rfl⟩
  have HK := Lib.hid hk
  have hb0 : Below k w (w.iter s 0) := (Below.refl _ _).alloc (Nat.le_of_eq hk.symm) _
  have hi0 : (w.iter s 0).heap[k]? = some (.stringIter s 0) := by rw [← hk]; exact World.iter_heap _ _ _
  rw [hk]
  have hrun : ∀ t, Tryz.prog.underlying t = some .string → (Instr.range t (.string s)).run Tryz.prog w = .ok (.pointer (some ⟨k, 0, none⟩)) (w.iter s 0) := fun t h => by rw [← hk]; exact run_range_string w t s h
  have hrun9 := hrun 9 Tryz.underlying9
  clear hrun
  obtain ⟨w1, hw1⟩ : ∃ W, w.iter s 0 = W := ⟨_, rfl⟩
  rw [hw1] at hb0 hi0 hrun9
  have HSH : Hid (∀ W n, Calls Tryz.prog 185 #[.int .i64 n] W fun e w' => e = .returned (.bool (decide (8 < n))) ∧ w' = W) := fun W n => Any.strings_shouldUseASCIISet { Tryz.lays153 with } n W
  clear hw1 hk
  go_enter Tryz.func143, Tryz.ntmps143
  go_wp2_with fail
  with_reducible refine (HSH.out _ _).mono ?_
  rintro e w' ⟨rfl, hw⟩
  subst w'
  rw [h8z]
  go_wp2_with fail
  clear hrun9 HSH
  go_loopg [9, 10] s.size (fun g _ _ wx => ∃ i : Nat, i + g = s.size ∧ wx.heap[k]? = some (.stringIter s i) ∧ Below k w wx ∧ Lib.NoAny s.data.toList [101, 69] i)
  case atStart => exact ⟨0, by omega, hi0, hb0, Lib.NoAny.zero _ _⟩
  case round =>
    obtain ⟨i, hig, hit, hbx, hno⟩ := hrel
    have HB := Lib.hid hbx
    have HN := Lib.hid hno
    clear hno hbx hb0 hi0
    cases gk with
    | zero =>
      obtain rfl : i = s.size := by omega
      have HE : Hid (Lib.indexAny s.data.toList [101, 69] = -1) := Lib.indexAny_none (by rw [← Lib.size_eq]; exact HN.out)
      have hnx := fun ty => run_next_end_at (P := Tryz.prog) wr k s s.size ty hit (Nat.lt_irrefl _)
      clear hit
      go_wp2_with fail
      go_ret
      exact ⟨by rw [HE.out]; rfl, HB.out⟩
    | succ g =>
      have hi : i < s.size := by omega
      obtain ⟨x, hx⟩ : ∃ x : UInt8, s[i]'hi = x := ⟨_, rfl⟩
      have hxl : s.data.toList[i]? = some x := by rw [← hx]; exact Lib.data_getElem? s i hi
      by_cases h128 : x.toNat < 128
      · have hnx := fun ty => run_next_ascii_at (P := Tryz.prog) wr k s i ty hit hi (by rw [hx]; exact h128)
        rw [hx] at hnx
        obtain ⟨w2, hw2⟩ : ∃ W, wr.iterAt k s (i + 1) = W := ⟨_, rfl⟩
        have hi2 : w2.heap[k]? = some (.stringIter s (i + 1)) := by rw [← hw2]; exact iterAt_heap wr k s i (i + 1) hit
        have hb2 : Below k w w2 := by rw [← hw2]; exact below_iterAt HB.out (Nat.le_refl _) s (i + 1)
        rw [hw2] at hnx
        have HI2 := Lib.hid hi2
        have HB2 := Lib.hid hb2
        have HX := Lib.hid hxl
        clear hx hxl hit HB hw2 hi2 hb2
        have hcon := Lib.contains_iff_indexByte [101, 69] x
        have hback : ((x.toNat : Int)).toNat.toUInt8 = x := by simp
        obtain ⟨z, hz⟩ : ∃ z, Lib.indexByte [101, 69] x = z := ⟨_, rfl⟩
        have HR : Hid (∀ W, Calls Tryz.prog 184 #[.string ⟨#[101, 69]⟩, .int .i32 x.toNat] W fun e w' => e = .returned (.int .i64 z) ∧ w' = W) := fun W => by
          have h := HRU.out W x.toNat (by omega) (by omega)
          rw [hback, hz] at h
          exact h
        rw [hz] at hcon
        clear hback hz
        cases hin : ([101, 69] : List UInt8).contains x
        · rw [hin] at hcon
          have hlt : ¬ ((0 : Int) ≤ z) := of_decide_eq_false hcon.symm
          have HN2 := Lib.hid (HN.out.succ HX.out hin)
          clear hcon HN HX hin
          go_wp2_with fail
          with_reducible refine (HR.out _).mono ?_
          rintro e w' ⟨rfl, hw⟩
          subst w'
          go_wp2_with fail
          go_roundg g
          case measure => omega
          case rel => exact ⟨i + 1, by omega, HI2.out, HB2.out, HN2.out⟩
        · rw [hin] at hcon
          have hge : (0 : Int) ≤ z := of_decide_eq_true hcon.symm
          have HE : Hid (Lib.indexAny s.data.toList [101, 69] = i) := Lib.indexAny_hit HN.out HX.out hin
          clear hcon HN HX hin
          go_wp2_with fail
          with_reducible refine (HR.out _).mono ?_
          rintro e w' ⟨rfl, hw⟩
          subst w'
          go_wp2_with fail
          go_ret
          exact ⟨by rw [HE.out]; rfl, HB2.out⟩
      · have hdec : Utf8.decode s i = (65533, 1) := decode_lone hi (by rw [hx]; exact h128) (fun g => by
          rcases HLN.out i hi g with h | h
          · rw [hx] at h; exact absurd h h128
          · exact h)
        have hnx := fun ty => run_next_any_at (P := Tryz.prog) wr k s i ty hit hi
        rw [hdec] at hnx
        obtain ⟨w2, hw2⟩ : ∃ W, wr.iterAt k s (i + 1) = W := ⟨_, rfl⟩
        have hi2 : w2.heap[k]? = some (.stringIter s (i + 1)) := by rw [← hw2]; exact iterAt_heap wr k s i (i + 1) hit
        have hb2 : Below k w w2 := by rw [← hw2]; exact below_iterAt HB.out (Nat.le_refl _) s (i + 1)
        have hnx2 : ∀ ty, (Instr.next (.pointer (some ⟨k, 0, none⟩)) true ty).run Tryz.prog wr = .ok (.tuple #[.bool true, .int .i64 i, .int .i32 65533]) w2 := fun ty => by rw [hnx ty, ← hw2]; rfl
        clear hnx
        have hin : ([101, 69] : List UInt8).contains x = false := by
          have : x ≠ 101 ∧ x ≠ 69 := ⟨by rintro rfl; exact h128 (by decide), by rintro rfl; exact h128 (by decide)⟩
          simp [this.1, this.2]
        have hks : k < w2.heap.size := (Array.getElem?_eq_some_iff.1 hi2).1
        have HN2 := Lib.hid (HN.out.succ hxl hin)
        have HI2 := Lib.hid hi2
        have HB2 := Lib.hid hb2
        have HKS := Lib.hid hks
        clear hx hxl hit HB hw2 hi2 hb2 HN hin hdec hks
        go_wp2_with fail
        with_reducible refine (HNO.out _).mono ?_
        rintro e w3 ⟨rfl, hb3⟩
        have HI3 : Hid (w3.heap[k]? = some (.stringIter s (i + 1))) := by
          have := hb3.block k HKS.out
          exact this.trans HI2.out
        have HB3 : Hid (Below k w w3) := HB2.out.trans (hb3.mono (Nat.le_of_lt HKS.out))
        clear hb3 HB2 HI2
        go_wp2_with fail
        go_roundg g
        case measure => omega
        case rel => exact ⟨i + 1, by omega, HI3.out, HB3.out, HN2.out⟩
/-- Where the first e stands, no two bytes beyond ASCII side by side. -/
theorem any_lone2 (s : ByteArray) (hs : s.size ≤ 1000) (hl : ∀ (i : Nat) (h : i < s.size) (g : i + 1 < s.size), (s[i]'h).toNat < 128 ∨ (s[i + 1]'g).toNat < 128) : AnyOk s := by
  by_cases h8 : s.size ≤ 8
  · exact any_lone s h8 hl
  · intro W
    have h116 : (Tryz.prog.info? (Tryz.lays153_ren.t 116)).map (fun i => (i.zero, i.size)) = some (some (.agg (Array.replicate 256 (.bool false))), 256) := by kernel_rfl
    have h := Any.strings_IndexAny_long Tryz.lays153 (zero_of_info h116).1 (zero_of_info h116).2 s ⟨#[101, 69]⟩ W (by decide) (by omega) (by omega) (by decide) (fun j b hb => by
      have hm := List.mem_of_getElem? hb
      have : b = 101 ∨ b = 69 := by simpa using hm
      rcases this with rfl | rfl <;> decide)
    rw [show (⟨#[101, 69]⟩ : ByteArray).data.toList = [101, 69] from rfl, any_idxE] at h
    refine h.mono ?_
    rintro e w' ⟨rfl, h2⟩
    refine ⟨rfl, ?_⟩
    rw [h2]
    exact ((Below.refl _ _).alloc (Nat.le_refl _) _).alloc (by simp) _
end Go.Proofs.Fr
namespace Go.Proofs.Fr
open Go.RowKit Go.Proofs.Wd
set_option linter.unusedVariables false
/-- Of a text of ASCII of which one byte is another one, less its sign: no two bytes beyond ASCII side by side. -/
theorem lone_sign {l p : List UInt8} {j : Nat} {c : UInt8} (hp : p = l.set j c) (ha : ∀ (i : Nat) b, l[i]? = some b → b.toNat < 128) (i : Nat) (g : i + 1 < (litSign p).2.length) :
    ((litSign p).2[i]'(by omega)).toNat < 128 ∨ ((litSign p).2[i + 1]'g).toNat < 128 := by
  have key : ∀ (d : Nat) (q : List UInt8), q = p.drop d → ∀ g : i + 1 < q.length, (q[i]'(by omega)).toNat < 128 ∨ (q[i + 1]'g).toNat < 128 := by
    rintro d q rfl g
    rw [List.length_drop] at g
    rw [List.getElem_drop, List.getElem_drop]
    by_cases h : d + i = j
    · right
      have hne : j ≠ d + (i + 1) := by omega
      have e : p[d + (i + 1)]'(by omega) = l[d + (i + 1)]'(by rw [hp, List.length_set] at g; omega) := by subst hp; rw [List.getElem_set_ne hne]
      rw [e]
      exact ha _ _ (List.getElem?_eq_getElem _)
    · left
      have hne : j ≠ d + i := fun e => h e.symm
      have e : p[d + i]'(by omega) = l[d + i]'(by rw [hp, List.length_set] at g; omega) := by subst hp; rw [List.getElem_set_ne hne]
      rw [e]
      exact ha _ _ (List.getElem?_eq_getElem _)
  have hd : ∃ d, (litSign p).2 = p.drop d := by
    unfold litSign
    split
    · exact ⟨1, rfl⟩
    · split
      · exact ⟨1, rfl⟩
      · exact ⟨0, rfl⟩
  obtain ⟨d, hd⟩ := hd
  exact key d _ hd g
/-- Of a point and an e behind it one stays. -/
theorem mark_stays (a b r : List UInt8) (j : Nat) (c8 : UInt8) : ∃ c : UInt8, c ∈ (a ++ 46 :: (b ++ 101 :: r)).set j c8 ∧ c ≠ 45 ∧ c ≠ 47 ∧ ¬Tx.isDig c := by
  by_cases h : j = a.length
  · refine ⟨101, ?_, by decide, by decide, by unfold Tx.isDig; decide⟩
    refine List.mem_of_getElem? (i := a.length + (b.length + 1)) ?_
    rw [List.getElem?_set_ne (by omega), List.getElem?_append_right (by omega), Nat.add_sub_cancel_left, List.getElem?_cons_succ, List.getElem?_append_right (Nat.le_refl _), Nat.sub_self]
    rfl
  · refine ⟨46, ?_, by decide, by decide, by unfold Tx.isDig; decide⟩
    refine List.mem_of_getElem? (i := a.length) ?_
    rw [List.getElem?_set_ne h, List.getElem?_append_right (Nat.le_refl _), Nat.sub_self]
    rfl
set_option maxHeartbeats 16000000 in
set_option maxRecDepth 100000 in
theorem litTurnWalk (s : ByteArray) (e at_ c : Int) (w : World) (hs : s.size ≤ 9223372036854775807) (e0 : -9223372036854775808 ≤ e) (e1 : e ≤ 9223372036854775807) (a0 : -9223372036854775808 ≤ at_) (a1 : at_ ≤ 9223372036854775807) (c0 : 0 ≤ c) (c1 : c ≤ 255) (hT : TabOk w)
    (hB : Calls Tryz.prog 6 #[] w fun e w' => e = .returned (.bool true) ∧ Below w.heap.size w w') :
    Calls Tryz.prog 5 #[.string s, .int .i64 e, .int .i64 at_, .int .u8 c] w fun e w' => e = .returned (.bool true) ∧ Below w.heap.size w w' := by
  have HT : Hid (TabOk w) := hT
  clear hT
  go_enter Tryz.func5, Tryz.ntmps5
  go_wp2_with (go_at_call 6; (with_reducible refine hB.mono ?_); rintro e w1 ⟨rfl, hb1⟩; have HL1 : Hid (Lies w w1 [] []) := (Lies.start w).after hb1; clear hb1 hB)
  with_reducible refine (Tryz.Digits s 8 _ hs (by omega) (by omega)).mono ?_
  rintro e' w2 ⟨⟨D, rfl, hDn, hDs⟩, hw2⟩
  subst w2
  have HDN := Lib.hid hDn
  clear hDn
  go_wp2_with fail
  with_reducible refine (Tryz.Digits s 3 _ hs (by omega) (by omega)).mono ?_
  rintro e' w2 ⟨⟨E, rfl, hEn, hEs⟩, hw2⟩
  subst w2
  have HEN := Lib.hid hEn
  clear hEn hs
  obtain ⟨e2, he2⟩ : ∃ r, e.tmod 99 = r := ⟨_, rfl⟩
  have he3 := rem_pos e 98
  rw [show (((98 : Nat) : Int) + 1) = 99 by rfl, he2] at he3
  obtain ⟨he4, he5⟩ := he3
  go_wp2_with fail
  with_reducible refine (Go.Proofs.Tryz.rOf e2 _ (by omega) (by omega)).mono ?_
  rintro e' w3 ⟨⟨v, rfl, hv⟩, hb⟩
  obtain ⟨vb, vN, vE, vz, vd, rfl, hvN, hvE, hvd, hvb, hvq⟩ := hv
  have HL3 := Lib.hid (HL1.out.after hb)
  have HTE : Hid (Calls Tryz.prog 9 #[.agg #[.bool vb, vN, vE]] w3 fun e w' => e = .returned (.string ⟨(textQ (e2 : Rat)).toArray⟩) ∧ Below w3.heap.size w3 w') := Go.Proofs.Tryz.rQText vb vN vE vz vd 5 (e2 : Rat) w3 hvN hvE hvd hvq (by omega) (by omega)
  obtain ⟨TE, hTE⟩ : ∃ X : ByteArray, ⟨(textQ (e2 : Rat)).toArray⟩ = X := ⟨_, rfl⟩
  rw [hTE] at HTE
  clear hvN hvE hvd hvb hvq hb HL1
  go_wp2_with fail
  with_reducible refine HTE.out.mono ?_
  rintro e' w4 ⟨rfl, hb⟩
  have HL4 := Lib.hid (HL3.out.after hb)
  clear hb HL3 HTE
  obtain ⟨X1, hX1⟩ : ∃ X, D ++ ⟨#[46]⟩ = X := ⟨_, rfl⟩
  obtain ⟨X2, hX2⟩ : ∃ X, X1 ++ E = X := ⟨_, rfl⟩
  obtain ⟨X3, hX3⟩ : ∃ X, X2 ++ ⟨#[101]⟩ = X := ⟨_, rfl⟩
  obtain ⟨T, hT⟩ : ∃ X, X3 ++ TE = X := ⟨_, rfl⟩
  have hTEl : TE.data.toList = textQ (e2 : Rat) := by rw [← hTE]
  have hTl : T.data.toList = D.data.toList ++ 46 :: (E.data.toList ++ 101 :: textQ (e2 : Rat)) := by
    rw [← hT, join_list, ← hX3, join_list, ← hX2, join_list, ← hX1, join_list, hTEl]
    simp
  have hTEs : TE.size ≤ 4 := by
    rw [← Tx.length_list, hTEl, text_int, List.length_append]
    have := dec_len3 (n := e2.natAbs) (by omega)
    split <;> simp <;> omega
  have s1 : X1.size ≤ 9 := by rw [← hX1, ByteArray.size_append]; show _ + 1 ≤ _; omega
  have s2 : X2.size ≤ 12 := by rw [← hX2, ByteArray.size_append]; omega
  have s3 : X3.size ≤ 13 := by rw [← hX3, ByteArray.size_append]; show _ + 1 ≤ _; omega
  have s4 : T.size ≤ 17 := by rw [← hT, ByteArray.size_append]; omega
  obtain ⟨L, hL⟩ : ∃ n, T.size = n := ⟨_, rfl⟩
  have hL2 : 2 ≤ L := by
    rw [← hL, ← Tx.length_list, hTl]
    simp
    omega
  obtain ⟨k, hk⟩ : ∃ n, w4.heap.size = n := ⟨_, rfl⟩
  obtain ⟨cap, hcap⟩ : ∃ n, Go.grownCap w4 L 0 5 = n := ⟨_, rfl⟩
  have hconv := Lib.run_convert_string_bytes (P := Tryz.prog) w4 9 47 5 T Tryz.underlying9 Tryz.underlying47 Tryz.underlying5
  obtain ⟨w5, hw5⟩ : ∃ W, Lib.bytesWorld w4 5 T = W := ⟨_, rfl⟩
  rw [hL, hcap, hk, hw5] at hconv
  have HL5 : Hid (Lies w w5 [] []) := HL4.out.after (by rw [← hw5]; exact Lib.bytesWorld_below _ _ _)
  have HB5 : Hid (Below w4.heap.size w4 w5) := by rw [← hw5]; exact Lib.bytesWorld_below _ _ _
  have HC5 : Hid (∀ j, j < L → w5.cell? ⟨k, j, none⟩ = some (.int .u8 (T.data.toList.getD j 0).toNat)) := fun j hj => by
    rw [← hw5, ← hk]; exact Lib.bytesWorld_cell _ _ _ _ (by omega)
  have HT2 := Lib.hid hTl
  have HF5 : Hid (∀ j, j < L → w5.frozen? ⟨k, j, none⟩ = false) := fun j hj => by
    rw [← hw5, ← hk]
    unfold World.frozen?
    rw [Lib.bytesWorld_at_new]
    have : j < (Lib.bytesCells w4 5 T).size := by unfold Lib.bytesCells; rw [Array.size_append, Array.size_map]; show _ < T.data.size + _; have : T.data.size = L := hL; omega
    simp
    omega
  have HK5 : Hid (w4.heap.size = k ∧ k < w5.heap.size) := by
    refine ⟨hk, ?_⟩
    rw [← hw5, Lib.bytesWorld_size]; omega
  have hTn : ¬ 9223372036854775807 < X3.size + TE.size := by omega
  clear hTE hTEl hTl hw5 hcap hk
  go_upto_if 34 with (fail)
  go_cut [2] (fun v wx => ∃ i : Int, v = .int .i64 i ∧ 0 ≤ i ∧ i ≤ 9223372036854775807 ∧ wx = w5)
  case first =>
    by_cases hneg : at_ < 0
    all_goals
      go_wp2
      go_meet
      exact ⟨_, rfl, by omega, by omega, rfl⟩
  case rest =>
    obtain ⟨i, rfl, i0, i1, rfl⟩ := hcut
    obtain ⟨j, hj⟩ : ∃ j, i % (L : Int) = j := ⟨_, rfl⟩
    obtain ⟨j, rfl⟩ : ∃ n : Nat, j = n := ⟨j.toNat, by have := Int.emod_nonneg i (show (L : Int) ≠ 0 by omega); omega⟩
    have hjL : j < L := by have := Int.emod_lt_of_pos i (show (0 : Int) < L by omega); omega
    have hL0 : ¬ (L : Int) = 0 := by omega
    have hj0 : (0 : Int) ≤ j := by omega
    have hj1 : (j : Int) < L := by omega
    have hcell := HC5.out j hjL
    have hfroz := HF5.out j hjL
    obtain ⟨c8, rfl⟩ : ∃ b : UInt8, c = (b.toNat : Int) := ⟨c.toNat.toUInt8, by simp; omega⟩
    obtain ⟨w6, hw6⟩ : ∃ W, wc.setCell ⟨k, j, none⟩ (.int .u8 (c8.toNat : Int)) = W := ⟨_, rfl⟩
    obtain ⟨P, hP⟩ : ∃ X : ByteArray, ⟨(T.data.toList.set j c8).toArray⟩ = X := ⟨_, rfl⟩
    have hPl : P.data.toList = T.data.toList.set j c8 := by rw [← hP]
    have hPL : P.data.toList.length = L := by rw [hPl, List.length_set, Tx.length_list, hL]
    have hPs : P.size = L := by rw [← Tx.length_list, hPL]
    have HL6 : Hid (Lies w w6 [] []) := HL4.out.after (by rw [← hw6]; exact HB5.out.setCell (Nat.le_of_eq HK5.out.1) _)
    have HK6 : Hid (k < w6.heap.size) := by rw [← hw6]; simp [World.setCell]; exact HK5.out.2
    have HP6 : Hid (∀ W, Below w6.heap.size w6 W → (convert 47 9 (.slice (some ⟨k, 0, none⟩) L cap)).run Tryz.prog W = .ok (.string P) W) := fun W hW => by
      have h := run_convert_bytes_back (P := Tryz.prog) W 47 9 5 ⟨k, 0, none⟩ cap (T.data.toList.set j c8) Tryz.underlying47 Tryz.underlying5 Tryz.underlying9 (fun i hi => by
        have hiL : i < L := by rw [List.length_set, Tx.length_list, hL] at hi; exact hi
        have ea : (⟨k, 0, none⟩ : Addr).add i = ⟨k, i, none⟩ := by unfold Addr.add; split <;> simp_all
        rw [ea, hW.cell (p := ⟨k, i, none⟩) HK6.out, ← hw6]
        by_cases hij : i = j
        · subst hij
          rw [World.cell?_setCell_same (u := _) (h := hcell)]
          simp
        · rw [World.cell?_setCell_other (h := fun e => hij (by injection e with _ e2 _; exact e2.symm)), HC5.out i hiL, List.getElem_set_ne (fun e => hij e.symm)]
          rw [List.getD_eq_getElem?_getD, List.getElem?_eq_getElem (by rw [Tx.length_list, hL]; exact hiL)]
          rfl
          )
      rw [List.length_set, Tx.length_list, hL, hP] at h
      exact h
    have hconv6 := HP6.out w6 (Below.refl _ _)
    have HPL : Hid (P.data.toList = (D.data.toList ++ 46 :: (E.data.toList ++ 101 :: textQ (e2 : Rat))).set j c8) := Lib.hid (by rw [hPl, HT2.out])
    have HASC : Hid (∀ (i : Nat) b, (D.data.toList ++ 46 :: (E.data.toList ++ 101 :: textQ (e2 : Rat)))[i]? = some b → b.toNat < 128) := fun i b hb => by
      have hm := List.mem_of_getElem? hb
      have hdig : ∀ S : ByteArray, Tx.Numeral S.data.toList → b ∈ S.data.toList → b.toNat < 128 := fun S h1 h2 => by
        have := h1.2.2 b h2
        unfold Tx.isDig at this
        omega
      rcases List.mem_append.1 hm with h | h
      · exact hdig D HDN.out h
      · rcases List.mem_cons.1 h with rfl | h
        · decide
        · rcases List.mem_append.1 h with h | h
          · exact hdig E HEN.out h
          · rcases List.mem_cons.1 h with rfl | h
            · decide
            · exact text_ascii _ b h
    obtain ⟨o, ho⟩ : ∃ o, litQ P = o := ⟨_, rfl⟩
    have HGP : Hid (∀ W, Calls Tryz.prog 10 #[.string P] W fun e w' => DecIs o w' e ∧ Below W.heap.size W w') := fun W => by
      rw [← ho]
      refine Tryz.litGet P W (by omega) (fun h => any_lone2 _ ?_ ?_)
      · show (litSign P.data.toList).2.toArray.size ≤ 1000
        rw [List.size_toArray]
        have := litSign_len P.data.toList
        omega
      · intro i hi g
        have hsz : (litSign P.data.toList).2.length = (⟨(litSign P.data.toList).2.toArray⟩ : ByteArray).size := by show _ = (litSign P.data.toList).2.toArray.size; rw [List.size_toArray]
        have e1 : (⟨(litSign P.data.toList).2.toArray⟩ : ByteArray)[i]'hi = (litSign P.data.toList).2[i]'(by omega) := by
          show (litSign P.data.toList).2.toArray[i]'_ = _
          rw [List.getElem_toArray]
        have e2 : (⟨(litSign P.data.toList).2.toArray⟩ : ByteArray)[i + 1]'g = (litSign P.data.toList).2[i + 1]'(by omega) := by
          show (litSign P.data.toList).2.toArray[i + 1]'_ = _
          rw [List.getElem_toArray]
        rw [e1, e2]
        exact lone_sign HPL.out HASC.out i (by omega)
    have hmark : ∃ c : UInt8, c ∈ P.data.toList ∧ c ≠ 45 ∧ c ≠ 47 ∧ ¬Tx.isDig c := by
      rw [HPL.out]
      exact mark_stays _ _ _ _ _
    have HRP : Hid (∀ W, Calls Tryz.prog 11 #[.string P] W fun e w' => RLit o w' e ∧ Below W.heap.size W w') := fun W => by
      obtain ⟨c, h1, h2, h3, h4⟩ := hmark
      rw [← ho]
      exact Tryz.rLitX P W (by omega) h1 h2 h3 h4
    have HQT : Hid (∀ W v (q : Rat) (m : Nat), QIs W v q m → 1 ≤ m → m ≤ 40000 → Calls Tryz.prog 9 #[v] W fun e w' => e = .returned (.string ⟨(textQ q).toArray⟩) ∧ Below W.heap.size W w') := fun W v q m h h1 h2 => by
      obtain ⟨b, N, E, z, d, rfl, hN, hE, hd, hb, hq⟩ := h
      exact Go.Proofs.Tryz.rQText b N E z d m q W hN hE hd hq h1 h2
    clear hmark hPl hP HPL HASC HC5 HF5 HB5 HK5 HT2 HL4 HDN HEN hPL hX1 hX2 hX3 hT he2 ho
    go_wp2_with fail
    clear hconv hcell hfroz hw6
    with_reducible refine (HGP.out _).mono ?_
    rintro e w7 ⟨hg, hb⟩
    have HB7 := Lib.hid hb
    have HL7 := Lib.hid (HL6.out.after hb)
    have hconv7 := HP6.out w7 hb
    clear hb HGP hconv6
    rcases hg with hg | hg
    · skip
      obtain ⟨Q, va, rfl, rfl, hva⟩ := hg
      have HL8 := Lib.hid (HL7.out.addF hva)
      clear HL7 hva
      go_wp2_with fail
      with_reducible refine (HRP.out _).mono ?_
      rintro e w8 ⟨hr, hb⟩
      have HL9 := Lib.hid (HL8.out.after hb)
      rcases hr with ⟨q, vr, hq, rfl, hvr⟩ | ⟨hq, -⟩
      rotate_left
      · simp at hq
      obtain rfl := Option.some.inj hq
      obtain ⟨rb, rn, rd, rz, rdd, rfl, hrn, hrd, hr1, hr2, hrq⟩ := hvr
      have HRN := Lib.hid hrn
      have HRD := Lib.hid hrd
      have HRQ := Lib.hid (And.intro hr1 (And.intro hr2 hrq))
      clear hb HL8 hrn hrd hr1 hr2 hrq HRP hq
      obtain ⟨p, pk, cc, rfl⟩ := HRN.out.slice
      obtain ⟨p', k', c', rfl⟩ := HRD.out.slice
      obtain ⟨w11, hw11⟩ : ∃ W, w8.alloc (.cells #[.bool rb, .slice p pk cc, .slice p' k' c'] 27) = W := ⟨_, rfl⟩
      have hch : (((w8.alloc (.cells #[.bool false, .slice none 0 0, .slice none 0 0] 27)).setCell ⟨w8.heap.size, 0, none⟩ (.bool rb)).setCell ⟨w8.heap.size, 1, none⟩ (.slice p pk cc)).setCell ⟨w8.heap.size, 2, none⟩ (.slice p' k' c') = w11 := by rw [set3, hw11]
      have HA11 := Lib.hid (CellsAt.new w8 #[.bool rb, .slice p pk cc, .slice p' k' c'] 27 rfl)
      have hb := (Below.refl w8.heap.size w8).alloc (Nat.le_refl _) (.cells #[.bool rb, .slice p pk cc, .slice p' k' c'] 27)
      rw [hw11] at HA11 hb
      have HL11 := Lib.hid (HL9.out.after hb)
      have HN11 := Lib.hid (HRN.out.below hb (Nat.le_refl _))
      have HD11 := Lib.hid (HRD.out.below hb (Nat.le_refl _))
      clear hb HL9 HRN HRD
      have HQI : Hid (∀ W, NumIs W (.slice p pk cc) rz 500 → NumIs W (.slice p' k' c') rdd 500 → QIs W (.agg #[.bool rb, .slice p pk cc, .slice p' k' c']) Q 500) := fun W h1 h2 => ⟨rb, _, _, rz, rdd, rfl, h1, h2, HRQ.out.1, HRQ.out.2.1, HRQ.out.2.2⟩
      clear HRQ
      go_wp2_with fail
      clear hch hw11 hconv7
      generalize w8.heap.size = B at *
      have hbd := (Below.refl w11.heap.size w11).drew
      refine wp_region_held_drew (S := fun W => Lies w W [] [(va, Q, 242)] ∧ CellsAt W B #[.bool rb, .slice p pk cc, .slice p' k' c'] 27 ∧ NumIs W (.slice p pk cc) rz 500 ∧ NumIs W (.slice p' k' c') rdd 500) (by kernel_rfl) ⟨HL11.out.after hbd, HA11.out.below hbd, HN11.out.below hbd (Nat.le_refl _), HD11.out.below hbd (Nat.le_refl _)⟩ (fun hHeld => ?_)
      have HL := Lib.hid hHeld.1
      have HA := Lib.hid hHeld.2.1
      have HN := Lib.hid hHeld.2.2.1
      have HD := Lib.hid hHeld.2.2.2
      clear HL11 HA11 HN11 HD11 hbd
      generalize w11.drew = w12 at *
      (refine takeYes (i := 0) ?_ (by (simp only [List.getElem?_toArray, List.getElem?_cons_zero]) <;> rfl) (by kernel_rfl) (by kernel_rfl) (by kernel_rfl) (by exact fun _ _ _ h => h) (by rfl) (by assumption) ?_ ?_)
      rotate_left
      · (intro w hSw; (try dsimp only at hSw); go_simp <;> first | with_reducible rfl | (rw [if_neg (by first | omega | (show ¬ _ < _ + 1; omega))]))
      (try simp only [Act.put, List.setIfInBounds_toArray, List.set_cons_zero, List.set_cons_succ])
      (refine takeYes (i := 1) ?_ (by (simp only [List.getElem?_toArray, List.getElem?_cons_succ, List.getElem?_cons_zero]) <;> rfl) (by kernel_rfl) (by kernel_rfl) (by kernel_rfl) (by exact fun _ _ _ h => h) (by rfl) (by assumption) ?_ ?_)
      rotate_left
      · (intro w hSw; (try dsimp only at hSw); go_simp <;> first | with_reducible rfl | (rw [if_neg (by first | omega | (show ¬ _ < _ + 1; omega))]))
      (try simp only [Act.put, List.setIfInBounds_toArray, List.set_cons_zero, List.set_cons_succ])
      (refine takeYes (i := 2) ?_ (by (simp only [List.getElem?_toArray, List.getElem?_cons_succ, List.getElem?_cons_zero]) <;> rfl) (by kernel_rfl) (by kernel_rfl) (by kernel_rfl) (by exact fun _ _ _ h => h) (by rfl) (by assumption) ?_ ?_)
      rotate_left
      · (intro w hSw; (try dsimp only at hSw); go_simp <;> first | with_reducible rfl | (rw [if_neg (by first | omega | (show ¬ _ < _ + 1; omega))]))
      (try simp only [Act.put, List.setIfInBounds_toArray, List.set_cons_zero, List.set_cons_succ])
      (refine takeYes (i := 3) ?_ (by (simp only [List.getElem?_toArray, List.getElem?_cons_succ, List.getElem?_cons_zero]) <;> rfl) (by kernel_rfl) (by kernel_rfl) (by kernel_rfl) (by exact fun _ _ _ h => h) (by rfl) (by assumption) ?_ ?_)
      rotate_left
      · (intro w hSw; (try dsimp only at hSw); go_simp <;> first | with_reducible rfl | (rw [if_neg (by first | omega | (show ¬ _ < _ + 1; omega))]))
      (try simp only [Act.put, List.setIfInBounds_toArray, List.set_cons_zero, List.set_cons_succ])
      (refine takeYes (i := 4) ?_ (by (simp only [List.getElem?_toArray, List.getElem?_cons_succ, List.getElem?_cons_zero]) <;> rfl) (by kernel_rfl) (by kernel_rfl) (by kernel_rfl) (by exact fun _ _ _ h => h) (by rfl) (by assumption) ?_ ?_)
      rotate_left
      · (intro w hSw; (try dsimp only at hSw); go_simp <;> first | with_reducible rfl | (rw [if_neg (by first | omega | (show ¬ _ < _ + 1; omega))]))
      (try simp only [Act.put, List.setIfInBounds_toArray, List.set_cons_zero, List.set_cons_succ])
      (refine takeYes (i := 5) ?_ (by (simp only [List.getElem?_toArray, List.getElem?_cons_succ, List.getElem?_cons_zero]) <;> rfl) (by kernel_rfl) (by kernel_rfl) (by kernel_rfl) (by exact fun _ _ _ h => h) (by rfl) (by assumption) ?_ ?_)
      rotate_left
      · (intro w hSw; (try dsimp only at hSw); go_simp <;> first | with_reducible rfl | (rw [if_neg (by first | omega | (show ¬ _ < _ + 1; omega))]))
      (try simp only [Act.put, List.setIfInBounds_toArray, List.set_cons_zero, List.set_cons_succ])
      (refine takeYes (i := 6) ?_ (by (simp only [List.getElem?_toArray, List.getElem?_cons_succ, List.getElem?_cons_zero]) <;> rfl) (by kernel_rfl) (by kernel_rfl) (by kernel_rfl) (by exact fun _ _ _ h => h) (by rfl) (by assumption) ?_ ?_)
      rotate_left
      · (intro w hSw; (try dsimp only at hSw); go_simp <;> first | with_reducible rfl | (rw [if_neg (by first | omega | (show ¬ _ < _ + 1; omega))]))
      (try simp only [Act.put, List.setIfInBounds_toArray, List.set_cons_zero, List.set_cons_succ])
      (refine takeYes (i := 8) ?_ (by (simp only [List.getElem?_toArray, List.getElem?_cons_succ, List.getElem?_cons_zero]) <;> rfl) (by kernel_rfl) (by kernel_rfl) (by kernel_rfl) (by exact fun _ _ _ h => h) (by rfl) (by assumption) ?_ ?_)
      rotate_left
      · (intro w hSw; (have a0 : w.cell? ⟨B, 0, none⟩ = some (.bool rb) := hSw.2.1.cell 0); (have a1 : w.cell? ⟨B, 1, none⟩ = some (.slice p pk cc) := hSw.2.1.cell 1); (have a2 : w.cell? ⟨B, 2, none⟩ = some (.slice p' k' c') := hSw.2.1.cell 2); clear hSw; go_simp <;> first | with_reducible rfl | (rw [if_neg (by first | omega | (show ¬ _ < _ + 1; omega))]))
      (try simp only [Act.put, List.setIfInBounds_toArray, List.set_cons_zero, List.set_cons_succ])
      refine wpAnyH_ready (rs := [7]) (by kernel_rfl) (by simp) ?_
      refine AllReadyH.cons (by (simp only [List.getElem?_toArray, List.getElem?_cons_succ, List.getElem?_cons_zero]) <;> rfl) (fun K hK => ?_) AllReadyH.nil
      go_simp
      go_at_call 12
      with_reducible refine (Tryz.fracText va Q 242 _ (HL.out.frac (List.Mem.head _)) (by omega) (by omega) (HT.out.after HL.out.below)).mono ?_
      rintro e w13 ⟨rfl, hb⟩
      have HL1 := Lib.hid (HL.out.after hb)
      have HA1 := Lib.hid (HA.out.below hb)
      have HN1 := Lib.hid (HN.out.below hb (Nat.le_refl _))
      have HD1 := Lib.hid (HD.out.below hb (Nat.le_refl _))
      clear hb HL HA HN HD hHeld
      have HL := HL1
      have HA := HA1
      have HN := HN1
      have HD := HD1
      clear HL1 HA1 HN1 HD1
      refine hK.out _ _ ⟨HL.out, HA.out, HN.out, HD.out⟩ (fun hHeld => ?_)
      clear hK K
      (try simp only [Act.put, List.setIfInBounds_toArray, List.set_cons_zero, List.set_cons_succ])
      refine wpAnyH_ready (rs := [9]) (by kernel_rfl) (by simp) ?_
      refine AllReadyH.cons (by (simp only [List.getElem?_toArray, List.getElem?_cons_succ, List.getElem?_cons_zero]) <;> rfl) (fun K hK => ?_) AllReadyH.nil
      go_simp
      go_at_call 9
      with_reducible refine (HQT.out _ _ Q 500 (HQI.out _ HN.out HD.out) (by omega) (by omega)).mono ?_
      rintro e w14 ⟨rfl, hb⟩
      have HL1 := Lib.hid (HL.out.after hb)
      have HA1 := Lib.hid (HA.out.below hb)
      have HN1 := Lib.hid (HN.out.below hb (Nat.le_refl _))
      have HD1 := Lib.hid (HD.out.below hb (Nat.le_refl _))
      clear hb HL HA HN HD hHeld
      have HL := HL1
      have HA := HA1
      have HN := HN1
      have HD := HD1
      clear HL1 HA1 HN1 HD1
      refine hK.out _ _ ⟨HL.out, HA.out, HN.out, HD.out⟩ (fun hHeld => ?_)
      clear hK K
      (try simp only [Act.put, List.setIfInBounds_toArray, List.set_cons_zero, List.set_cons_succ])
      (refine takeYes (i := 10) ?_ (by (simp only [List.getElem?_toArray, List.getElem?_cons_succ, List.getElem?_cons_zero]) <;> rfl) (by kernel_rfl) (by kernel_rfl) (by kernel_rfl) (by exact fun _ _ _ h => h) (by rfl) (by assumption) ?_ ?_)
      rotate_left
      · (intro w hSw; (try dsimp only at hSw); go_simp <;> first | with_reducible rfl | (rw [if_neg (by first | omega | (show ¬ _ < _ + 1; omega))]))
      (try simp only [Act.put, List.setIfInBounds_toArray, List.set_cons_zero, List.set_cons_succ])
      (refine takeYes (i := 11) ?_ (by (simp only [List.getElem?_toArray, List.getElem?_cons_succ, List.getElem?_cons_zero]) <;> rfl) (by kernel_rfl) (by kernel_rfl) (by kernel_rfl) (by exact fun _ _ _ h => h) (by rfl) (by assumption) ?_ ?_)
      rotate_left
      · (intro w hSw; (try dsimp only at hSw); go_simp <;> first | with_reducible rfl | (rw [if_neg (by first | omega | (show ¬ _ < _ + 1; omega))]))
      (try simp only [Act.put, List.setIfInBounds_toArray, List.set_cons_zero, List.set_cons_succ])
      (refine takeYes (i := 12) ?_ (by (simp only [List.getElem?_toArray, List.getElem?_cons_succ, List.getElem?_cons_zero]) <;> rfl) (by kernel_rfl) (by kernel_rfl) (by kernel_rfl) (by exact fun _ _ _ h => h) (by rfl) (by assumption) ?_ ?_)
      rotate_left
      · (intro w hSw; (try dsimp only at hSw); go_simp <;> first | with_reducible rfl | (rw [if_neg (by first | omega | (show ¬ _ < _ + 1; omega))]))
      (try simp only [Act.put, List.setIfInBounds_toArray, List.set_cons_zero, List.set_cons_succ])
      (refine takeNo (i := 13) (by (simp only [List.getElem?_toArray, List.getElem?_cons_succ, List.getElem?_cons_zero]) <;> rfl) (by kernel_rfl) (by kernel_rfl) (by kernel_rfl) (by exact fun _ _ _ h => h) (by rfl) (by assumption) ?_; (try simp only [Act.put, List.setIfInBounds_toArray, List.set_cons_zero, List.set_cons_succ]))
      (refine takeNo (i := 14) (by (simp only [List.getElem?_toArray, List.getElem?_cons_succ, List.getElem?_cons_zero]) <;> rfl) (by kernel_rfl) (by kernel_rfl) (by kernel_rfl) (by exact fun _ _ _ h => h) (by rfl) (by assumption) ?_; (try simp only [Act.put, List.setIfInBounds_toArray, List.set_cons_zero, List.set_cons_succ]))
      (refine takeNo (i := 15) (by (simp only [List.getElem?_toArray, List.getElem?_cons_succ, List.getElem?_cons_zero]) <;> rfl) (by kernel_rfl) (by kernel_rfl) (by kernel_rfl) (by exact fun _ _ _ h => h) (by rfl) (by assumption) ?_; (try simp only [Act.put, List.setIfInBounds_toArray, List.set_cons_zero, List.set_cons_succ]))
      (refine takeNo (i := 16) (by (simp only [List.getElem?_toArray, List.getElem?_cons_succ, List.getElem?_cons_zero]) <;> rfl) (by kernel_rfl) (by kernel_rfl) (by kernel_rfl) (by exact fun _ _ _ h => h) (by rfl) (by assumption) ?_; (try simp only [Act.put, List.setIfInBounds_toArray, List.set_cons_zero, List.set_cons_succ]))
      (refine takeNo (i := 17) (by (simp only [List.getElem?_toArray, List.getElem?_cons_succ, List.getElem?_cons_zero]) <;> rfl) (by kernel_rfl) (by kernel_rfl) (by kernel_rfl) (by exact fun _ _ _ h => h) (by rfl) (by assumption) ?_; (try simp only [Act.put, List.setIfInBounds_toArray, List.set_cons_zero, List.set_cons_succ]))
      (refine takeNo (i := 18) (by (simp only [List.getElem?_toArray, List.getElem?_cons_succ, List.getElem?_cons_zero]) <;> rfl) (by kernel_rfl) (by kernel_rfl) (by kernel_rfl) (by exact fun _ _ _ h => h) (by rfl) (by assumption) ?_; (try simp only [Act.put, List.setIfInBounds_toArray, List.set_cons_zero, List.set_cons_succ]))
      (refine takeYes (i := 19) ?_ (by (simp only [List.getElem?_toArray, List.getElem?_cons_succ, List.getElem?_cons_zero]) <;> rfl) (by kernel_rfl) (by kernel_rfl) (by kernel_rfl) (by exact fun _ _ _ h => h) (by rfl) (by assumption) ?_ ?_)
      rotate_left
      · (intro w hSw; (try dsimp only at hSw); go_simp <;> first | with_reducible rfl | (rw [if_neg (by first | omega | (show ¬ _ < _ + 1; omega))]))
      (try simp only [Act.put, List.setIfInBounds_toArray, List.set_cons_zero, List.set_cons_succ])
      (refine takeYes (i := 20) ?_ (by (simp only [List.getElem?_toArray, List.getElem?_cons_succ, List.getElem?_cons_zero]) <;> rfl) (by kernel_rfl) (by kernel_rfl) (by kernel_rfl) (by exact fun _ _ _ h => h) (by rfl) (by assumption) ?_ ?_)
      rotate_left
      · (intro w hSw; (try dsimp only at hSw); go_simp <;> first | with_reducible rfl | (rw [if_neg (by first | omega | (show ¬ _ < _ + 1; omega))]))
      (try simp only [Act.put, List.setIfInBounds_toArray, List.set_cons_zero, List.set_cons_succ])
      (refine takeYes (i := 21) ?_ (by (simp only [List.getElem?_toArray, List.getElem?_cons_succ, List.getElem?_cons_zero]) <;> rfl) (by kernel_rfl) (by kernel_rfl) (by kernel_rfl) (by exact fun _ _ _ h => h) (by rfl) (by assumption) ?_ ?_)
      rotate_left
      · (intro w hSw; (try dsimp only at hSw); go_simp <;> first | with_reducible rfl | (rw [if_neg (by first | omega | (show ¬ _ < _ + 1; omega))]))
      (try simp only [Act.put, List.setIfInBounds_toArray, List.set_cons_zero, List.set_cons_succ])
      refine wpAnyH_done (by kernel_rfl) ?_ _
      clear hHeld
      have HBE := Lib.hid HL.out.below
      clear HL HA HN HD HQI HT HQT
      go_wp2
      go_ret
      exact ⟨rfl, HBE.out⟩
    · skip
      obtain ⟨ho, rfl⟩ := hg
      go_wp2_with fail
      with_reducible refine (HRP.out _).mono ?_
      rintro e w8 ⟨hr, hb⟩
      have HL9 := Lib.hid (HL7.out.after hb)
      rcases hr with ⟨q, vr, hq, -, -⟩ | ⟨-, ra, rn, rc, rfl⟩
      · rw [ho] at hq; simp at hq
      clear hb HL7 HRP ho
      obtain ⟨w11, hw11⟩ : ∃ W, w8.alloc (.cells #[.bool false, .slice none 0 0, .slice ra rn rc] 27) = W := ⟨_, rfl⟩
      have hch : (((w8.alloc (.cells #[.bool false, .slice none 0 0, .slice none 0 0] 27)).setCell ⟨w8.heap.size, 0, none⟩ (.bool false)).setCell ⟨w8.heap.size, 1, none⟩ (.slice none 0 0)).setCell ⟨w8.heap.size, 2, none⟩ (.slice ra rn rc) = w11 := by rw [set3, hw11]
      have hb := (Below.refl w8.heap.size w8).alloc (Nat.le_refl _) (.cells #[.bool false, .slice none 0 0, .slice ra rn rc] 27)
      rw [hw11] at hb
      have HL11 := Lib.hid (HL9.out.after hb)
      clear hb HL9
      go_wp2_with fail
      clear hch hw11 hconv7
      generalize w8.heap.size = B at *
      have hbd := (Below.refl w11.heap.size w11).drew
      refine wp_region_held_drew (S := fun W => Lies w W [] []) (by kernel_rfl) (HL11.out.after hbd) (fun hHeld => ?_)
      have HL := Lib.hid hHeld
      clear HL11 hbd
      generalize w11.drew = w12 at *
      (refine takeYes (i := 0) ?_ (by (simp only [List.getElem?_toArray, List.getElem?_cons_zero]) <;> rfl) (by kernel_rfl) (by kernel_rfl) (by kernel_rfl) (by exact fun _ _ _ h => h) (by rfl) (by assumption) ?_ ?_)
      rotate_left
      · (intro w hSw; (try dsimp only at hSw); go_simp <;> first | with_reducible rfl | (rw [if_neg (by first | omega | (show ¬ _ < _ + 1; omega))]))
      (try simp only [Act.put, List.setIfInBounds_toArray, List.set_cons_zero, List.set_cons_succ])
      (refine takeYes (i := 1) ?_ (by (simp only [List.getElem?_toArray, List.getElem?_cons_succ, List.getElem?_cons_zero]) <;> rfl) (by kernel_rfl) (by kernel_rfl) (by kernel_rfl) (by exact fun _ _ _ h => h) (by rfl) (by assumption) ?_ ?_)
      rotate_left
      · (intro w hSw; (try dsimp only at hSw); go_simp <;> first | with_reducible rfl | (rw [if_neg (by first | omega | (show ¬ _ < _ + 1; omega))]))
      (try simp only [Act.put, List.setIfInBounds_toArray, List.set_cons_zero, List.set_cons_succ])
      (refine takeYes (i := 2) ?_ (by (simp only [List.getElem?_toArray, List.getElem?_cons_succ, List.getElem?_cons_zero]) <;> rfl) (by kernel_rfl) (by kernel_rfl) (by kernel_rfl) (by exact fun _ _ _ h => h) (by rfl) (by assumption) ?_ ?_)
      rotate_left
      · (intro w hSw; (try dsimp only at hSw); go_simp <;> first | with_reducible rfl | (rw [if_neg (by first | omega | (show ¬ _ < _ + 1; omega))]))
      (try simp only [Act.put, List.setIfInBounds_toArray, List.set_cons_zero, List.set_cons_succ])
      (refine takeYes (i := 3) ?_ (by (simp only [List.getElem?_toArray, List.getElem?_cons_succ, List.getElem?_cons_zero]) <;> rfl) (by kernel_rfl) (by kernel_rfl) (by kernel_rfl) (by exact fun _ _ _ h => h) (by rfl) (by assumption) ?_ ?_)
      rotate_left
      · (intro w hSw; (try dsimp only at hSw); go_simp <;> first | with_reducible rfl | (rw [if_neg (by first | omega | (show ¬ _ < _ + 1; omega))]))
      (try simp only [Act.put, List.setIfInBounds_toArray, List.set_cons_zero, List.set_cons_succ])
      (refine takeYes (i := 4) ?_ (by (simp only [List.getElem?_toArray, List.getElem?_cons_succ, List.getElem?_cons_zero]) <;> rfl) (by kernel_rfl) (by kernel_rfl) (by kernel_rfl) (by exact fun _ _ _ h => h) (by rfl) (by assumption) ?_ ?_)
      rotate_left
      · (intro w hSw; (try dsimp only at hSw); go_simp <;> first | with_reducible rfl | (rw [if_neg (by first | omega | (show ¬ _ < _ + 1; omega))]))
      (try simp only [Act.put, List.setIfInBounds_toArray, List.set_cons_zero, List.set_cons_succ])
      (refine takeYes (i := 5) ?_ (by (simp only [List.getElem?_toArray, List.getElem?_cons_succ, List.getElem?_cons_zero]) <;> rfl) (by kernel_rfl) (by kernel_rfl) (by kernel_rfl) (by exact fun _ _ _ h => h) (by rfl) (by assumption) ?_ ?_)
      rotate_left
      · (intro w hSw; (try dsimp only at hSw); go_simp <;> first | with_reducible rfl | (rw [if_neg (by first | omega | (show ¬ _ < _ + 1; omega))]))
      (try simp only [Act.put, List.setIfInBounds_toArray, List.set_cons_zero, List.set_cons_succ])
      (refine takeNo (i := 6) (by (simp only [List.getElem?_toArray, List.getElem?_cons_succ, List.getElem?_cons_zero]) <;> rfl) (by kernel_rfl) (by kernel_rfl) (by kernel_rfl) (by exact fun _ _ _ h => h) (by rfl) (by assumption) ?_; (try simp only [Act.put, List.setIfInBounds_toArray, List.set_cons_zero, List.set_cons_succ]))
      (refine takeNo (i := 7) (by (simp only [List.getElem?_toArray, List.getElem?_cons_succ, List.getElem?_cons_zero]) <;> rfl) (by kernel_rfl) (by kernel_rfl) (by kernel_rfl) (by exact fun _ _ _ h => h) (by rfl) (by assumption) ?_; (try simp only [Act.put, List.setIfInBounds_toArray, List.set_cons_zero, List.set_cons_succ]))
      (refine takeNo (i := 8) (by (simp only [List.getElem?_toArray, List.getElem?_cons_succ, List.getElem?_cons_zero]) <;> rfl) (by kernel_rfl) (by kernel_rfl) (by kernel_rfl) (by exact fun _ _ _ h => h) (by rfl) (by assumption) ?_; (try simp only [Act.put, List.setIfInBounds_toArray, List.set_cons_zero, List.set_cons_succ]))
      (refine takeNo (i := 9) (by (simp only [List.getElem?_toArray, List.getElem?_cons_succ, List.getElem?_cons_zero]) <;> rfl) (by kernel_rfl) (by kernel_rfl) (by kernel_rfl) (by exact fun _ _ _ h => h) (by rfl) (by assumption) ?_; (try simp only [Act.put, List.setIfInBounds_toArray, List.set_cons_zero, List.set_cons_succ]))
      (refine takeNo (i := 10) (by (simp only [List.getElem?_toArray, List.getElem?_cons_succ, List.getElem?_cons_zero]) <;> rfl) (by kernel_rfl) (by kernel_rfl) (by kernel_rfl) (by exact fun _ _ _ h => h) (by rfl) (by assumption) ?_; (try simp only [Act.put, List.setIfInBounds_toArray, List.set_cons_zero, List.set_cons_succ]))
      (refine takeYes (i := 11) ?_ (by (simp only [List.getElem?_toArray, List.getElem?_cons_succ, List.getElem?_cons_zero]) <;> rfl) (by kernel_rfl) (by kernel_rfl) (by kernel_rfl) (by exact fun _ _ _ h => h) (by rfl) (by assumption) ?_ ?_)
      rotate_left
      · (intro w hSw; (try dsimp only at hSw); go_simp <;> first | with_reducible rfl | (rw [if_neg (by first | omega | (show ¬ _ < _ + 1; omega))]))
      (try simp only [Act.put, List.setIfInBounds_toArray, List.set_cons_zero, List.set_cons_succ])
      (refine takeYes (i := 12) ?_ (by (simp only [List.getElem?_toArray, List.getElem?_cons_succ, List.getElem?_cons_zero]) <;> rfl) (by kernel_rfl) (by kernel_rfl) (by kernel_rfl) (by exact fun _ _ _ h => h) (by rfl) (by assumption) ?_ ?_)
      rotate_left
      · (intro w hSw; (try dsimp only at hSw); go_simp <;> first | with_reducible rfl | (rw [if_neg (by first | omega | (show ¬ _ < _ + 1; omega))]))
      (try simp only [Act.put, List.setIfInBounds_toArray, List.set_cons_zero, List.set_cons_succ])
      (refine takeYes (i := 13) ?_ (by (simp only [List.getElem?_toArray, List.getElem?_cons_succ, List.getElem?_cons_zero]) <;> rfl) (by kernel_rfl) (by kernel_rfl) (by kernel_rfl) (by exact fun _ _ _ h => h) (by rfl) (by assumption) ?_ ?_)
      rotate_left
      · (intro w hSw; (try dsimp only at hSw); go_simp <;> first | with_reducible rfl | (rw [if_neg (by first | omega | (show ¬ _ < _ + 1; omega))]))
      (try simp only [Act.put, List.setIfInBounds_toArray, List.set_cons_zero, List.set_cons_succ])
      (refine takeYes (i := 14) ?_ (by (simp only [List.getElem?_toArray, List.getElem?_cons_succ, List.getElem?_cons_zero]) <;> rfl) (by kernel_rfl) (by kernel_rfl) (by kernel_rfl) (by exact fun _ _ _ h => h) (by rfl) (by assumption) ?_ ?_)
      rotate_left
      · (intro w hSw; (try dsimp only at hSw); go_simp <;> first | with_reducible rfl | (rw [if_neg (by first | omega | (show ¬ _ < _ + 1; omega))]))
      (try simp only [Act.put, List.setIfInBounds_toArray, List.set_cons_zero, List.set_cons_succ])
      (refine takeYes (i := 15) ?_ (by (simp only [List.getElem?_toArray, List.getElem?_cons_succ, List.getElem?_cons_zero]) <;> rfl) (by kernel_rfl) (by kernel_rfl) (by kernel_rfl) (by exact fun _ _ _ h => h) (by rfl) (by assumption) ?_ ?_)
      rotate_left
      · (intro w hSw; (try dsimp only at hSw); go_simp <;> first | with_reducible rfl | (rw [if_neg (by first | omega | (show ¬ _ < _ + 1; omega))]))
      (try simp only [Act.put, List.setIfInBounds_toArray, List.set_cons_zero, List.set_cons_succ])
      (refine takeYes (i := 16) ?_ (by (simp only [List.getElem?_toArray, List.getElem?_cons_succ, List.getElem?_cons_zero]) <;> rfl) (by kernel_rfl) (by kernel_rfl) (by kernel_rfl) (by exact fun _ _ _ h => h) (by rfl) (by assumption) ?_ ?_)
      rotate_left
      · (intro w hSw; (try dsimp only at hSw); go_simp <;> first | with_reducible rfl | (rw [if_neg (by first | omega | (show ¬ _ < _ + 1; omega))]))
      (try simp only [Act.put, List.setIfInBounds_toArray, List.set_cons_zero, List.set_cons_succ])
      (refine takeYes (i := 17) ?_ (by (simp only [List.getElem?_toArray, List.getElem?_cons_succ, List.getElem?_cons_zero]) <;> rfl) (by kernel_rfl) (by kernel_rfl) (by kernel_rfl) (by exact fun _ _ _ h => h) (by rfl) (by assumption) ?_ ?_)
      rotate_left
      · (intro w hSw; (try dsimp only at hSw); go_simp <;> first | with_reducible rfl | (rw [if_neg (by first | omega | (show ¬ _ < _ + 1; omega))]))
      (try simp only [Act.put, List.setIfInBounds_toArray, List.set_cons_zero, List.set_cons_succ])
      (refine takeYes (i := 18) ?_ (by (simp only [List.getElem?_toArray, List.getElem?_cons_succ, List.getElem?_cons_zero]) <;> rfl) (by kernel_rfl) (by kernel_rfl) (by kernel_rfl) (by exact fun _ _ _ h => h) (by rfl) (by assumption) ?_ ?_)
      rotate_left
      · (intro w hSw; (try dsimp only at hSw); go_simp <;> first | with_reducible rfl | (rw [if_neg (by first | omega | (show ¬ _ < _ + 1; omega))]))
      (try simp only [Act.put, List.setIfInBounds_toArray, List.set_cons_zero, List.set_cons_succ])
      (refine takeYes (i := 19) ?_ (by (simp only [List.getElem?_toArray, List.getElem?_cons_succ, List.getElem?_cons_zero]) <;> rfl) (by kernel_rfl) (by kernel_rfl) (by kernel_rfl) (by exact fun _ _ _ h => h) (by rfl) (by assumption) ?_ ?_)
      rotate_left
      · (intro w hSw; (try dsimp only at hSw); go_simp <;> first | with_reducible rfl | (rw [if_neg (by first | omega | (show ¬ _ < _ + 1; omega))]))
      (try simp only [Act.put, List.setIfInBounds_toArray, List.set_cons_zero, List.set_cons_succ])
      (refine takeYes (i := 20) ?_ (by (simp only [List.getElem?_toArray, List.getElem?_cons_succ, List.getElem?_cons_zero]) <;> rfl) (by kernel_rfl) (by kernel_rfl) (by kernel_rfl) (by exact fun _ _ _ h => h) (by rfl) (by assumption) ?_ ?_)
      rotate_left
      · (intro w hSw; (try dsimp only at hSw); go_simp <;> first | with_reducible rfl | (rw [if_neg (by first | omega | (show ¬ _ < _ + 1; omega))]))
      (try simp only [Act.put, List.setIfInBounds_toArray, List.set_cons_zero, List.set_cons_succ])
      (refine takeYes (i := 21) ?_ (by (simp only [List.getElem?_toArray, List.getElem?_cons_succ, List.getElem?_cons_zero]) <;> rfl) (by kernel_rfl) (by kernel_rfl) (by kernel_rfl) (by exact fun _ _ _ h => h) (by rfl) (by assumption) ?_ ?_)
      rotate_left
      · (intro w hSw; (try dsimp only at hSw); go_simp <;> first | with_reducible rfl | (rw [if_neg (by first | omega | (show ¬ _ < _ + 1; omega))]))
      (try simp only [Act.put, List.setIfInBounds_toArray, List.set_cons_zero, List.set_cons_succ])
      refine wpAnyH_done (by kernel_rfl) ?_ _
      clear hHeld
      have HBE := Lib.hid HL.out.below
      clear HL HT HQT
      go_wp2
      go_ret
      exact ⟨rfl, HBE.out⟩
end Go.Proofs.Fr
