/- LitForms: one number in many forms: the call returns true. -/
import Derived.Test.YtoiihhkafcglhaaGreatDoorLm
import Derived.Test.YtoiihhkafcglhaaGreatDoorLt
import Derived.Test.YtoiihhkafcglhaaGreatDoorLd
import Derived.Test.YtoiihhkafcglhaaGreatDoorFp
import Derived.Test.YtoiihhkafcglhaaGreatDoorRye
import Derived.Test.YtoiihhkafcglhaaGreatDoorDt
namespace Go.Proofs.Fr
open Go.RowKit Go.Proofs.Wd
set_option linter.unusedVariables false
theorem litQ_dec {s : ByteArray} (hs : s.size ≤ 40) (h : getQ s = none) : litQ s = decQ s.data.toList := by
  unfold litQ; rw [if_neg (by omega), h]
theorem Tryz.rLitX (s : ByteArray) (w : World) (hs : s.size ≤ 40) {c : UInt8} (h : c ∈ s.data.toList) (h45 : c ≠ 45) (h47 : c ≠ 47) (hd : ¬Tx.isDig c) :
    Calls Tryz.prog 11 #[.string s] w fun e w' => RLit (litQ s) w' e ∧ Below w.heap.size w w' := by
  obtain ⟨hb, hg⟩ := bad_text h h45 h47 hd
  rw [litQ_dec hs hg, dec_ref]
  refine Go.Proofs.Tryz.rLit s w hs (fun W => ?_)
  refine (Go.Proofs.Tryz.rGetB s W hb (by omega)).mono ?_
  rintro e w' ⟨⟨q, v, hq, -⟩ | ⟨-, h⟩, hb⟩
  · rw [hg] at hq; simp at hq
  · exact ⟨h, hb⟩
theorem rem_pos (a : Int) (n : Nat) : -((n : Int) + 1) < a.tmod ((n : Int) + 1) ∧ a.tmod ((n : Int) + 1) < (n : Int) + 1 := by
  rcases Int.lt_or_le a 0 with h | h
  · obtain ⟨m, rfl⟩ : ∃ m : Int, a = -m := ⟨-a, by omega⟩
    rw [Int.neg_tmod, Int.tmod_eq_emod_of_nonneg (by omega)]
    have h1 := Int.emod_lt_of_pos m (show (0 : Int) < n + 1 by omega)
    have h2 := Int.emod_nonneg m (show (n : Int) + 1 ≠ 0 by omega)
    omega
  · rw [Int.tmod_eq_emod_of_nonneg h]
    have h1 := Int.emod_lt_of_pos a (show (0 : Int) < n + 1 by omega)
    have h2 := Int.emod_nonneg a (show (n : Int) + 1 ≠ 0 by omega)
    omega
set_option maxHeartbeats 16000000 in
set_option maxRecDepth 100000 in
theorem litFormsWalk (s : ByteArray) (at_ e : Int) (neg : Bool) (w : World) (hs : s.size ≤ 9223372036854775807) (a0 : -9223372036854775808 ≤ at_) (a1 : at_ ≤ 9223372036854775807) (e0 : -9223372036854775808 ≤ e) (e1 : e ≤ 9223372036854775807) (hT : TabOk w)
    (hB : Calls Tryz.prog 6 #[] w fun e w' => e = .returned (.bool true) ∧ Below w.heap.size w w') :
    Calls Tryz.prog 3 #[.string s, .int .i64 at_, .int .i64 e, .bool neg] w fun e w' => e = .returned (.bool true) ∧ Below w.heap.size w w' := by
  have HT : Hid (TabOk w) := hT
  clear hT
  go_enter Tryz.func3, Tryz.ntmps3
  go_wp2_with (go_at_call 6; (with_reducible refine hB.mono ?_); rintro e w1 ⟨rfl, hb1⟩; have HL1 : Hid (Lies w w1 [] []) := (Lies.start w).after hb1; clear hb1 hB)
  with_reducible refine (Tryz.Digits s 12 _ hs (by omega) (by omega)).mono ?_
  rintro e' w2 ⟨⟨D, rfl, hDn, hDs⟩, hw2⟩
  subst w2
  obtain ⟨n, hn⟩ : ∃ n : Nat, D.size = n := ⟨_, rfl⟩
  have HDN := Lib.hid hDn
  have HDS := Lib.hid hn
  rw [hn] at hDs
  clear hDn
  obtain ⟨r1, hr1⟩ : ∃ r, at_.tmod ((n : Int) + 1) = r := ⟨_, rfl⟩
  obtain ⟨r2, hr2⟩ : ∃ r, (r1 + n + 1).tmod ((n : Int) + 1) = r := ⟨_, rfl⟩
  obtain ⟨e2, he2⟩ : ∃ r, e.tmod 60 = r := ⟨_, rfl⟩
  have hb1 := rem_pos at_ n
  rw [hr1] at hb1
  obtain ⟨b1, b2⟩ := hb1
  have hb2 := rem_pos (r1 + n + 1) n
  rw [hr2] at hb2
  have hr0 : 0 ≤ r2 := by rw [← hr2]; exact Int.tmod_nonneg _ (by omega)
  have he3 := rem_pos e 59
  rw [show (((59 : Nat) : Int) + 1) = 60 by rfl, he2] at he3
  obtain ⟨he4, he5⟩ := he3
  obtain ⟨k, rfl⟩ := Int.eq_ofNat_of_zero_le hr0
  go_upto_if 42 with (fail)
  go_cut [11] (fun v wx => ∃ sg : ByteArray, v = .string sg ∧ sg.data.toList = (if neg = true then [45] else []) ∧ Lies w wx [] [])
  case first =>
    cases neg
    all_goals
      go_wp2
      go_meet
      exact ⟨_, rfl, rfl, HL1.out⟩
  case rest =>
    obtain ⟨sg, rfl, hsg, hl2⟩ := hcut
    have HL2 := Lib.hid hl2
    clear hl2 HL1 hr1 hr2 he2 b1 b2
    have hk : k ≤ n := by omega
    have hDl : D.data.toList.length = n := by rw [Tx.length_list]; exact hn
    obtain ⟨e3, he3⟩ : ∃ r : Int, e2 - (n : Int) + (k : Int) = r := ⟨_, rfl⟩
    have he30 : -100 ≤ e3 := by omega
    have he31 : e3 ≤ 100 := by omega
    obtain ⟨U, hU⟩ : ∃ U, D.extract 0 k = U := ⟨_, rfl⟩
    obtain ⟨V, hV⟩ : ∃ V, D.extract k n = V := ⟨_, rfl⟩
    obtain ⟨X1, hX1⟩ : ∃ X, sg ++ U = X := ⟨_, rfl⟩
    obtain ⟨X2, hX2⟩ : ∃ X, X1 ++ ⟨#[46]⟩ = X := ⟨_, rfl⟩
    obtain ⟨X3, hX3⟩ : ∃ X, X2 ++ V = X := ⟨_, rfl⟩
    obtain ⟨X4, hX4⟩ : ∃ X, X3 ++ ⟨#[101]⟩ = X := ⟨_, rfl⟩
    obtain ⟨Y1, hY1⟩ : ∃ X, sg ++ D = X := ⟨_, rfl⟩
    obtain ⟨Y2, hY2⟩ : ∃ X, Y1 ++ ⟨#[69]⟩ = X := ⟨_, rfl⟩
    obtain ⟨TE, hTE⟩ : ∃ X : ByteArray, ⟨(textQ (e2 : Rat)).toArray⟩ = X := ⟨_, rfl⟩
    obtain ⟨TF, hTF⟩ : ∃ X : ByteArray, ⟨(textQ (e3 : Rat)).toArray⟩ = X := ⟨_, rfl⟩
    obtain ⟨X, hX⟩ : ∃ X, X4 ++ TE = X := ⟨_, rfl⟩
    obtain ⟨Y, hY⟩ : ∃ X, Y2 ++ TF = X := ⟨_, rfl⟩
    have hUl : U.data.toList = D.data.toList.take k := by rw [← hU, cut_take]
    have hVl : V.data.toList = D.data.toList.drop k := by rw [← hV, ← hn, cut_drop]
    have hTEl : TE.data.toList = textQ (e2 : Rat) := by rw [← hTE]
    have hTFl : TF.data.toList = textQ (e3 : Rat) := by rw [← hTF]
    have hXl : X.data.toList = (if neg = true then [45] else []) ++ ((D.data.toList.take k ++ 46 :: D.data.toList.drop k) ++ 101 :: textQ (e2 : Rat)) := by
      rw [← hX, join_list, ← hX4, join_list, ← hX3, join_list, ← hX2, join_list, ← hX1, join_list, hsg, hUl, hVl, hTEl]
      simp
    have hYl : Y.data.toList = (if neg = true then [45] else []) ++ (D.data.toList ++ 69 :: textQ (e3 : Rat)) := by
      rw [← hY, join_list, ← hY2, join_list, ← hY1, join_list, hsg, hTFl]
      simp
    have hsgs : sg.size ≤ 1 := by rw [← Tx.length_list, hsg]; split <;> simp
    have hUs : U.size ≤ 12 := by rw [← Tx.length_list, hUl, List.length_take]; omega
    have hVs : V.size ≤ 12 := by rw [← Tx.length_list, hVl, List.length_drop]; omega
    have hTEs : TE.size ≤ 4 := by
      rw [← Tx.length_list, hTEl, text_int, List.length_append]
      have := dec_len3 (n := e2.natAbs) (by omega)
      split <;> simp <;> omega
    have hTFs : TF.size ≤ 4 := by
      rw [← Tx.length_list, hTFl, text_int, List.length_append]
      have := dec_len3 (n := e3.natAbs) (by omega)
      split <;> simp <;> omega
    have s1 : X1.size ≤ 13 := by rw [← hX1, ByteArray.size_append]; omega
    have s2 : X2.size ≤ 14 := by rw [← hX2, ByteArray.size_append]; show _ + 1 ≤ _; omega
    have s3 : X3.size ≤ 26 := by rw [← hX3, ByteArray.size_append]; omega
    have s4 : X4.size ≤ 27 := by rw [← hX4, ByteArray.size_append]; show _ + 1 ≤ _; omega
    have s5 : X.size ≤ 31 := by rw [← hX, ByteArray.size_append]; omega
    have t1 : Y1.size ≤ 13 := by rw [← hY1, ByteArray.size_append]; omega
    have t2 : Y2.size ≤ 14 := by rw [← hY2, ByteArray.size_append]; show _ + 1 ≤ _; omega
    have t5 : Y.size ≤ 18 := by rw [← hY, ByteArray.size_append]; omega
    obtain ⟨Q, hQ⟩ : ∃ Q, scaleQ (sgn neg (Tx.dv D.data.toList)) e3 = Q := ⟨_, rfl⟩
    have hD0 := HDN.out
    have hqx : decQ X.data.toList = some Q := by
      rw [hXl, form_point hD0.2.2 hD0.1 (by decide) (by omega) (by omega), ← hQ]
      congr 2
      rw [hDl]; omega
    have hqy : decQ Y.data.toList = some Q := by
      rw [hYl, form_whole hD0.2.2 hD0.1 (by decide) (by omega) (by omega), ← hQ]
    have hdig : ∀ c ∈ D.data.toList, c.toNat < 128 := fun c h => by
      have := hD0.2.2 c h
      unfold Tx.isDig at this
      omega
    have hXa : ∀ c ∈ X.data.toList, c.toNat < 128 := by
      intro c h
      rw [hXl] at h
      rcases List.mem_append.1 h with h | h
      · split at h
        · rw [List.mem_singleton.1 h]; decide
        · exact (List.not_mem_nil h).elim
      · rcases List.mem_append.1 h with h | h
        · rcases List.mem_append.1 h with h | h
          · exact hdig c (List.mem_of_mem_take h)
          · rcases List.mem_cons.1 h with rfl | h
            · decide
            · exact hdig c (List.mem_of_mem_drop h)
        · rcases List.mem_cons.1 h with rfl | h
          · decide
          · exact text_ascii _ c h
    have hYa : ∀ c ∈ Y.data.toList, c.toNat < 128 := by
      intro c h
      rw [hYl] at h
      rcases List.mem_append.1 h with h | h
      · split at h
        · rw [List.mem_singleton.1 h]; decide
        · exact (List.not_mem_nil h).elim
      · rcases List.mem_append.1 h with h | h
        · exact hdig c h
        · rcases List.mem_cons.1 h with rfl | h
          · decide
          · exact text_ascii _ c h
    have hXm : (46 : UInt8) ∈ X.data.toList := by rw [hXl]; simp
    have hYm : (69 : UInt8) ∈ Y.data.toList := by rw [hYl]; simp
    have hXq : litQ X = some Q := by rw [litQ_dec (by omega) (bad_text hXm (by decide) (by decide) (by unfold Tx.isDig; decide)).2, hqx]
    have hYq : litQ Y = some Q := by rw [litQ_dec (by omega) (bad_text hYm (by decide) (by decide) (by unfold Tx.isDig; decide)).2, hqy]
    have hany : ∀ S : ByteArray, S.size ≤ 40 → (∀ c ∈ S.data.toList, c.toNat < 128) → AnyOk ⟨(litSign S.data.toList).2.toArray⟩ := fun S h1 h2 =>
      any_ascii _ (by
        show (litSign S.data.toList).2.toArray.size ≤ 1000
        rw [List.size_toArray]
        have := litSign_len S.data.toList
        rw [Tx.length_list] at this
        omega) (by
        show ∀ c ∈ (litSign S.data.toList).2.toArray.toList, c.toNat < 128
        rw [List.toList_toArray]
        exact sign_ascii h2)
    have HGX : Hid (∀ W, Calls Tryz.prog 10 #[.string X] W fun e w' => (∃ v, e = .returned (.tuple #[v, .bool true]) ∧ FracIs w' v Q 242) ∧ Below W.heap.size W w') := fun W => by
      refine (Tryz.litGet X W (by omega) (fun h => hany X h hXa)).mono ?_
      rintro e w' ⟨⟨q, v, hq, rfl, hv⟩ | ⟨hq, -⟩, hb⟩
      · rw [hXq] at hq
        obtain rfl := Option.some.inj hq
        exact ⟨⟨v, rfl, hv⟩, hb⟩
      · rw [hXq] at hq; simp at hq
    have HGY : Hid (∀ W, Calls Tryz.prog 10 #[.string Y] W fun e w' => (∃ v, e = .returned (.tuple #[v, .bool true]) ∧ FracIs w' v Q 242) ∧ Below W.heap.size W w') := fun W => by
      refine (Tryz.litGet Y W (by omega) (fun h => hany Y h hYa)).mono ?_
      rintro e w' ⟨⟨q, v, hq, rfl, hv⟩ | ⟨hq, -⟩, hb⟩
      · rw [hYq] at hq
        obtain rfl := Option.some.inj hq
        exact ⟨⟨v, rfl, hv⟩, hb⟩
      · rw [hYq] at hq; simp at hq
    have HRX : Hid (∀ W, Calls Tryz.prog 11 #[.string X] W fun e w' => (∃ v, e = .returned (.tuple #[v, .bool true]) ∧ QIs w' v Q 500) ∧ Below W.heap.size W w') := fun W => by
      refine (Tryz.rLitX X W (by omega) hXm (by decide) (by decide) (by unfold Tx.isDig; decide)).mono ?_
      rintro e w' ⟨⟨q, v, hq, rfl, hv⟩ | ⟨hq, -⟩, hb⟩
      · rw [hXq] at hq
        obtain rfl := Option.some.inj hq
        exact ⟨⟨v, rfl, hv⟩, hb⟩
      · rw [hXq] at hq; simp at hq
    have HOF : Hid (∀ W (x : Int), -100 ≤ x → x ≤ 100 → Calls Tryz.prog 8 #[.int .i64 x] W fun e w' => (∃ v, e = .returned v ∧ QIs w' v (x : Rat) 5) ∧ Below W.heap.size W w') := fun W x h1 h2 => Go.Proofs.Tryz.rOf x W (by omega) (by omega)
    have HTXT : Hid (∀ W v (q : Rat) (m : Nat), QIs W v q m → 1 ≤ m → m ≤ 40000 → Calls Tryz.prog 9 #[v] W fun e w' => e = .returned (.string ⟨(textQ q).toArray⟩) ∧ Below W.heap.size W w') := fun W v q m h h1 h2 => by
      obtain ⟨b, N, E, z, d, rfl, hN, hE, hd, hb, hq⟩ := h
      exact Go.Proofs.Tryz.rQText b N E z d m q W hN hE hd hq h1 h2
    have HTE : Hid (∀ W v, QIs W v (e2 : Rat) 5 → Calls Tryz.prog 9 #[v] W fun e w' => e = .returned (.string TE) ∧ Below W.heap.size W w') := fun W v h => by
      rw [← hTE]; exact HTXT.out W v _ 5 h (by omega) (by omega)
    have HTF : Hid (∀ W v, QIs W v (e3 : Rat) 5 → Calls Tryz.prog 9 #[v] W fun e w' => e = .returned (.string TF) ∧ Below W.heap.size W w') := fun W v h => by
      rw [← hTF]; exact HTXT.out W v _ 5 h (by omega) (by omega)
    obtain ⟨TQ, hTQ⟩ : ∃ X : ByteArray, ⟨(textQ Q).toArray⟩ = X := ⟨_, rfl⟩
    have HTR : Hid (∀ W v, QIs W v Q 500 → Calls Tryz.prog 9 #[v] W fun e w' => e = .returned (.string TQ) ∧ Below W.heap.size W w') := fun W v h => by
      rw [← hTQ]; exact HTXT.out W v _ 500 h (by omega) (by omega)
    have HTA : Hid (∀ W v, FracIs W v Q 242 → TabOk W → Calls Tryz.prog 12 #[v] W fun e w' => e = .returned (.string TQ) ∧ Below W.heap.size W w') := fun W v h h2 => by
      rw [← hTQ]; exact Tryz.fracText v Q 242 W h (by omega) (by omega) h2
    have hTQl : TQ.data.toList = textQ Q := by rw [← hTQ]
    have HCM : Hid (∀ W u v, FracIs W u Q 242 → FracIs W v Q 242 → Calls Tryz.prog 13 #[u, v] W fun e w' => e = .returned (.int .i64 0) ∧ Below W.heap.size W w') := fun W u v h1 h2 => by
      have h := Tryz.frCmp u v Q Q 242 W h1 h2 (by omega) (by omega)
      rw [ordQ_self] at h
      exact h
    have HGT : Hid (∀ W, TQ.size ≤ 20000 → Calls Tryz.prog 10 #[.string TQ] W fun e w' => ((40 < TQ.size ∧ ∃ v b, e = .returned (.tuple #[v, .bool b])) ∨ (¬40 < TQ.size ∧ ∃ v, e = .returned (.tuple #[v, .bool true]) ∧ FracIs w' v Q 242)) ∧ Below W.heap.size W w') := fun W hs => by
      refine (Tryz.litGet TQ W (by omega) (fun h => hany TQ h (by rw [hTQl]; exact text_ascii Q))).mono ?_
      intro e w' h
      refine ⟨?_, h.2⟩
      by_cases hbig : 40 < TQ.size
      · left
        refine ⟨hbig, ?_⟩
        rcases h.1 with ⟨q, v, -, rfl, -⟩ | ⟨-, rfl⟩
        · exact ⟨_, _, rfl⟩
        · exact ⟨_, _, rfl⟩
      · right
        refine ⟨hbig, ?_⟩
        have hg : litQ TQ = some Q := by
          unfold litQ
          rw [if_neg hbig, ← hTQ, getQ_own (by rw [← hTQl, Tx.length_list]; omega)]
        rcases h.1 with ⟨q, v, hq, rfl, hv⟩ | ⟨hq, -⟩
        · rw [hg] at hq
          obtain rfl := Option.some.inj hq
          exact ⟨v, rfl, hv⟩
        · rw [hg] at hq; simp at hq
    have HTS : Hid (∀ W v, FracIs W v Q 242 → TQ.size ≤ 20000) := fun W v h => by
      have h1 := h.lt (by omega)
      have h2 := digits_len (n := Q.num.natAbs) (k := 242) h1.1 (by omega)
      have h3 := digits_len (n := Q.den) (k := 242) h1.2 (by omega)
      have e1 : (⟨(Lib.decDigits Q.num.natAbs).toArray⟩ : ByteArray).size = (Lib.decDigits Q.num.natAbs).length := by show (Lib.decDigits Q.num.natAbs).toArray.size = _; rw [List.size_toArray]
      have e2 : (⟨(Lib.decDigits Q.den).toArray⟩ : ByteArray).size = (Lib.decDigits Q.den).length := by show (Lib.decDigits Q.den).toArray.size = _; rw [List.size_toArray]
      rw [e1] at h2
      rw [e2] at h3
      rw [← Tx.length_list, hTQl]
      unfold textQ
      rw [List.length_append, List.length_append]
      split <;> split <;> simp <;> omega
    clear hTE hTF hTQ hTQl hany hXq hYq hXm hYm hXa hYa hdig hqx hqy hD0 hQ hXl hYl hTEl hTFl hUl hVl hDl hsg HTXT HDN
    have c1 : (0 : Int) ≤ k := by omega
    have c2 : (k : Int) ≤ n := by omega
    have he33 := he3
    go_wp2_with fail
    refine wp_region_held_drew (S := fun W => Lies w W [] []) (by kernel_rfl) (HL2.out.after (Below.refl wc.heap.size wc).drew) (fun hHeld => ?_)
    have HL3 := Lib.hid hHeld
    clear HL2
    generalize wc.drew = w3 at *
    (refine takeYes (i := 0) ?_ (by (simp only [List.getElem?_toArray, List.getElem?_cons_zero]) <;> rfl) (by kernel_rfl) (by kernel_rfl) (by kernel_rfl) (by exact fun _ _ _ h => h) (by rfl) (by assumption) ?_ ?_)
    rotate_left
    · (intro w hSw; (try dsimp only at hSw); go_simp <;> first | with_reducible rfl | (rw [if_neg (by first | omega | (show ¬ _ < _ + 1; omega))]))
    (try simp only [Act.put, List.setIfInBounds_toArray, List.set_cons_zero, List.set_cons_succ])
    (refine takeYes (i := 1) ?_ (by (simp only [List.getElem?_toArray, List.getElem?_cons_succ, List.getElem?_cons_zero]) <;> rfl) (by kernel_rfl) (by kernel_rfl) (by kernel_rfl) (by exact fun _ _ _ h => h) (by rfl) (by assumption) ?_ ?_)
    rotate_left
    · (intro w hSw; (try dsimp only at hSw); go_simp <;> first | with_reducible rfl | (rw [if_neg (by first | omega | (show ¬ _ < _ + 1; omega))]))
    (try simp only [Act.put, List.setIfInBounds_toArray, List.set_cons_zero, List.set_cons_succ])
    (refine takeYes (i := 2) ?_ (by (simp only [List.getElem?_toArray, List.getElem?_cons_succ, List.getElem?_cons_zero]) <;> rfl) (by kernel_rfl) (by kernel_rfl) (by kernel_rfl) (by exact fun _ _ _ h => h) (by rfl) (by assumption) ?_ ?_)
    rotate_left
    · (intro w hSw; (try dsimp only at hSw); go_simp <;> first | with_reducible rfl | (rw [if_neg (by first | omega | (show ¬ _ < _ + 1; omega))]))
    (try simp only [Act.put, List.setIfInBounds_toArray, List.set_cons_zero, List.set_cons_succ])
    (refine takeYes (i := 3) ?_ (by (simp only [List.getElem?_toArray, List.getElem?_cons_succ, List.getElem?_cons_zero]) <;> rfl) (by kernel_rfl) (by kernel_rfl) (by kernel_rfl) (by exact fun _ _ _ h => h) (by rfl) (by assumption) ?_ ?_)
    rotate_left
    · (intro w hSw; (try dsimp only at hSw); go_simp <;> first | with_reducible rfl | (rw [if_neg (by first | omega | (show ¬ _ < _ + 1; omega))]))
    (try simp only [Act.put, List.setIfInBounds_toArray, List.set_cons_zero, List.set_cons_succ])
    (refine takeYes (i := 4) ?_ (by (simp only [List.getElem?_toArray, List.getElem?_cons_succ, List.getElem?_cons_zero]) <;> rfl) (by kernel_rfl) (by kernel_rfl) (by kernel_rfl) (by exact fun _ _ _ h => h) (by rfl) (by assumption) ?_ ?_)
    rotate_left
    · (intro w hSw; (try dsimp only at hSw); go_simp <;> first | with_reducible rfl | (rw [if_neg (by first | omega | (show ¬ _ < _ + 1; omega))]))
    (try simp only [Act.put, List.setIfInBounds_toArray, List.set_cons_zero, List.set_cons_succ])
    (refine takeYes (i := 5) ?_ (by (simp only [List.getElem?_toArray, List.getElem?_cons_succ, List.getElem?_cons_zero]) <;> rfl) (by kernel_rfl) (by kernel_rfl) (by kernel_rfl) (by exact fun _ _ _ h => h) (by rfl) (by assumption) ?_ ?_)
    rotate_left
    · (intro w hSw; (try dsimp only at hSw); go_simp <;> first | with_reducible rfl | (rw [if_neg (by first | omega | (show ¬ _ < _ + 1; omega))]))
    (try simp only [Act.put, List.setIfInBounds_toArray, List.set_cons_zero, List.set_cons_succ])
    (refine takeYes (i := 6) ?_ (by (simp only [List.getElem?_toArray, List.getElem?_cons_succ, List.getElem?_cons_zero]) <;> rfl) (by kernel_rfl) (by kernel_rfl) (by kernel_rfl) (by exact fun _ _ _ h => h) (by rfl) (by assumption) ?_ ?_)
    rotate_left
    · (intro w hSw; (try dsimp only at hSw); go_simp <;> first | with_reducible rfl | (rw [if_neg (by first | omega | (show ¬ _ < _ + 1; omega))]))
    (try simp only [Act.put, List.setIfInBounds_toArray, List.set_cons_zero, List.set_cons_succ])
    (refine takeYes (i := 7) ?_ (by (simp only [List.getElem?_toArray, List.getElem?_cons_succ, List.getElem?_cons_zero]) <;> rfl) (by kernel_rfl) (by kernel_rfl) (by kernel_rfl) (by exact fun _ _ _ h => h) (by rfl) (by assumption) ?_ ?_)
    rotate_left
    · (intro w hSw; (try dsimp only at hSw); go_simp <;> first | with_reducible rfl | (rw [if_neg (by first | omega | (show ¬ _ < _ + 1; omega))]))
    (try simp only [Act.put, List.setIfInBounds_toArray, List.set_cons_zero, List.set_cons_succ])
    (refine takeYes (i := 8) ?_ (by (simp only [List.getElem?_toArray, List.getElem?_cons_succ, List.getElem?_cons_zero]) <;> rfl) (by kernel_rfl) (by kernel_rfl) (by kernel_rfl) (by exact fun _ _ _ h => h) (by rfl) (by assumption) ?_ ?_)
    rotate_left
    · (intro w hSw; (try dsimp only at hSw); go_simp <;> first | with_reducible rfl | (rw [if_neg (by first | omega | (show ¬ _ < _ + 1; omega))]))
    (try simp only [Act.put, List.setIfInBounds_toArray, List.set_cons_zero, List.set_cons_succ])
    (refine takeYes (i := 9) ?_ (by (simp only [List.getElem?_toArray, List.getElem?_cons_succ, List.getElem?_cons_zero]) <;> rfl) (by kernel_rfl) (by kernel_rfl) (by kernel_rfl) (by exact fun _ _ _ h => h) (by rfl) (by assumption) ?_ ?_)
    rotate_left
    · (intro w hSw; (try dsimp only at hSw); go_simp <;> first | with_reducible rfl | (rw [if_neg (by first | omega | (show ¬ _ < _ + 1; omega))]))
    (try simp only [Act.put, List.setIfInBounds_toArray, List.set_cons_zero, List.set_cons_succ])
    (refine takeYes (i := 10) ?_ (by (simp only [List.getElem?_toArray, List.getElem?_cons_succ, List.getElem?_cons_zero]) <;> rfl) (by kernel_rfl) (by kernel_rfl) (by kernel_rfl) (by exact fun _ _ _ h => h) (by rfl) (by assumption) ?_ ?_)
    rotate_left
    · (intro w hSw; (try dsimp only at hSw); go_simp <;> first | with_reducible rfl | (rw [if_neg (by first | omega | (show ¬ _ < _ + 1; omega))]))
    (try simp only [Act.put, List.setIfInBounds_toArray, List.set_cons_zero, List.set_cons_succ])
    (refine takeYes (i := 11) ?_ (by (simp only [List.getElem?_toArray, List.getElem?_cons_succ, List.getElem?_cons_zero]) <;> rfl) (by kernel_rfl) (by kernel_rfl) (by kernel_rfl) (by exact fun _ _ _ h => h) (by rfl) (by assumption) ?_ ?_)
    rotate_left
    · (intro w hSw; (try dsimp only at hSw); go_simp <;> first | with_reducible rfl | (rw [if_neg (by first | omega | (show ¬ _ < _ + 1; omega))]))
    (try simp only [Act.put, List.setIfInBounds_toArray, List.set_cons_zero, List.set_cons_succ])
    refine wpAnyH_ready (rs := [12]) (by kernel_rfl) (by simp) ?_
    refine AllReadyH.cons (by (simp only [List.getElem?_toArray, List.getElem?_cons_succ, List.getElem?_cons_zero]) <;> rfl) (fun K hK => ?_) AllReadyH.nil
    go_simp
    go_at_call 8
    with_reducible refine (HOF.out _ _ (by omega) (by omega)).mono ?_
    rintro e w4 ⟨⟨v, rfl, hv⟩, hb⟩
    have HL4 := Lib.hid (HL3.out.after hb)
    have HV := Lib.hid hv
    clear hv hb HL3 hHeld
    refine hK.out _ _ HL4.out (fun hHeld => ?_)
    clear hK K
    (try simp only [Act.put, List.setIfInBounds_toArray, List.set_cons_zero, List.set_cons_succ])
    refine wpAnyH_ready (rs := [13]) (by kernel_rfl) (by simp) ?_
    refine AllReadyH.cons (by (simp only [List.getElem?_toArray, List.getElem?_cons_succ, List.getElem?_cons_zero]) <;> rfl) (fun K hK => ?_) AllReadyH.nil
    go_simp
    go_at_call 9
    with_reducible refine (HTE.out _ _ HV.out).mono ?_
    rintro e w5 ⟨rfl, hb⟩
    have HL5 := Lib.hid (HL4.out.after hb)
    clear hb HL4 hHeld HV
    refine hK.out _ _ HL5.out (fun hHeld => ?_)
    clear hK K
    (try simp only [Act.put, List.setIfInBounds_toArray, List.set_cons_zero, List.set_cons_succ])
    (refine takeYes (i := 14) ?_ (by (simp only [List.getElem?_toArray, List.getElem?_cons_succ, List.getElem?_cons_zero]) <;> rfl) (by kernel_rfl) (by kernel_rfl) (by kernel_rfl) (by exact fun _ _ _ h => h) (by rfl) (by assumption) ?_ ?_)
    rotate_left
    · (intro w hSw; (try dsimp only at hSw); go_simp <;> first | with_reducible rfl | (rw [if_neg (by first | omega | (show ¬ _ < _ + 1; omega))]))
    (try simp only [Act.put, List.setIfInBounds_toArray, List.set_cons_zero, List.set_cons_succ])
    (refine takeYes (i := 15) ?_ (by (simp only [List.getElem?_toArray, List.getElem?_cons_succ, List.getElem?_cons_zero]) <;> rfl) (by kernel_rfl) (by kernel_rfl) (by kernel_rfl) (by exact fun _ _ _ h => h) (by rfl) (by assumption) ?_ ?_)
    rotate_left
    · (intro w hSw; (try dsimp only at hSw); go_simp <;> first | with_reducible rfl | (rw [if_neg (by first | omega | (show ¬ _ < _ + 1; omega))]))
    (try simp only [Act.put, List.setIfInBounds_toArray, List.set_cons_zero, List.set_cons_succ])
    refine wpAnyH_done (by kernel_rfl) ?_ _
    clear hHeld HTE
    go_wp2_with fail
    with_reducible refine (HOF.out _ e3 (by omega) (by omega)).mono ?_
    rintro e w6 ⟨⟨v, rfl, hv⟩, hb⟩
    have HL6 := Lib.hid (HL5.out.after hb)
    have HV := Lib.hid hv
    clear hv hb HL5 HOF
    go_wp2_with fail
    with_reducible refine (HTF.out _ _ HV.out).mono ?_
    rintro e w7 ⟨rfl, hb⟩
    have HL7 := Lib.hid (HL6.out.after hb)
    clear hb HL6 HV HTF
    go_wp2_with fail
    with_reducible refine (HGX.out _).mono ?_
    rintro e w8 ⟨⟨va, rfl, hva⟩, hb⟩
    have HL8 := Lib.hid ((HL7.out.after hb).addF hva)
    clear hb HL7 hva HGX
    go_wp2_with fail
    with_reducible refine (HGY.out _).mono ?_
    rintro e w9 ⟨⟨vb, rfl, hvb⟩, hb⟩
    have HL9 := Lib.hid ((HL8.out.after hb).addF hvb)
    clear hb HL8 hvb HGY
    go_wp2_with fail
    with_reducible refine (HRX.out _).mono ?_
    rintro e w10 ⟨⟨vr, rfl, hvr⟩, hb⟩
    have HL10 := Lib.hid (HL9.out.after hb)
    obtain ⟨rb, rn, rd, rz, rdd, rfl, hrn, hrd, hr1, hr2, hrq⟩ := hvr
    have HRN := Lib.hid hrn
    have HRD := Lib.hid hrd
    have HRQ := Lib.hid (And.intro hr1 (And.intro hr2 hrq))
    clear hb HL9 hrn hrd hr1 hr2 hrq HRX
    obtain ⟨p, pk, c, rfl⟩ := HRN.out.slice
    obtain ⟨p', k', c', rfl⟩ := HRD.out.slice
    obtain ⟨w11, hw11⟩ : ∃ W, w10.alloc (.cells #[.bool rb, .slice p pk c, .slice p' k' c'] 27) = W := ⟨_, rfl⟩
    have hch : (((w10.alloc (.cells #[.bool false, .slice none 0 0, .slice none 0 0] 27)).setCell ⟨w10.heap.size, 0, none⟩ (.bool rb)).setCell ⟨w10.heap.size, 1, none⟩ (.slice p pk c)).setCell ⟨w10.heap.size, 2, none⟩ (.slice p' k' c') = w11 := by rw [set3, hw11]
    have HA11 := Lib.hid (CellsAt.new w10 #[.bool rb, .slice p pk c, .slice p' k' c'] 27 rfl)
    have hb := (Below.refl w10.heap.size w10).alloc (Nat.le_refl _) (.cells #[.bool rb, .slice p pk c, .slice p' k' c'] 27)
    rw [hw11] at HA11 hb
    have HL11 := Lib.hid (HL10.out.after hb)
    have HN11 := Lib.hid (HRN.out.below hb (Nat.le_refl _))
    have HD11 := Lib.hid (HRD.out.below hb (Nat.le_refl _))
    clear hb HL10 HRN HRD
    go_wp2_with fail
    clear hch hw11
    generalize w10.heap.size = B at *
    with_reducible refine (HTA.out _ va (HL11.out.frac (List.Mem.tail _ (List.Mem.head _))) (HT.out.after HL11.out.below)).mono ?_
    rintro e w12 ⟨rfl, hb⟩
    have HL12 := Lib.hid (HL11.out.after hb)
    have HA12 := Lib.hid (HA11.out.below hb)
    have HN12 := Lib.hid (HN11.out.below hb (Nat.le_refl _))
    have HD12 := Lib.hid (HD11.out.below hb (Nat.le_refl _))
    have hts := HTS.out _ va (HL12.out.frac (List.Mem.tail _ (List.Mem.head _)))
    clear hb HL11 HA11 HN11 HD11
    go_wp2_with fail
    with_reducible refine (HGT.out _ hts).mono ?_
    rintro e w13 ⟨hg, hb⟩
    have HL13 := Lib.hid (HL12.out.after hb)
    have HA13 := Lib.hid (HA12.out.below hb)
    have HN13 := Lib.hid (HN12.out.below hb (Nat.le_refl _))
    have HD13 := Lib.hid (HD12.out.below hb (Nat.le_refl _))
    clear hb HL12 HA12 HN12 HD12 HGT
    have HQI : Hid (∀ W, NumIs W (.slice p pk c) rz 500 → NumIs W (.slice p' k' c') rdd 500 → QIs W (.agg #[.bool rb, .slice p pk c, .slice p' k' c']) Q 500) := fun W h1 h2 => ⟨rb, _, _, rz, rdd, rfl, h1, h2, HRQ.out.1, HRQ.out.2.1, HRQ.out.2.2⟩
    clear HRQ
    rcases hg with ⟨hbig, vc, ok3, rfl⟩ | ⟨hbig, vc, rfl, hvc⟩
    · skip
      have hbB : decide ((40 : Int) < (TQ.size : Int)) = true := decide_eq_true (by omega)
      go_wp2_with fail
      have hbd := (Below.refl w13.heap.size w13).drew
      refine wp_region_held_drew (S := fun W => Lies w W [] [(vb, Q, 242), (va, Q, 242)] ∧ CellsAt W B #[.bool rb, .slice p pk c, .slice p' k' c'] 27 ∧ NumIs W (.slice p pk c) rz 500 ∧ NumIs W (.slice p' k' c') rdd 500) (by kernel_rfl) ⟨HL13.out.after hbd, HA13.out.below hbd, HN13.out.below hbd (Nat.le_refl _), HD13.out.below hbd (Nat.le_refl _)⟩ (fun hHeld => ?_)
      have HL := Lib.hid hHeld.1
      have HA := Lib.hid hHeld.2.1
      have HN := Lib.hid hHeld.2.2.1
      have HD := Lib.hid hHeld.2.2.2
      clear HL13 HA13 HN13 HD13 hbd
      generalize w13.drew = w14 at *
      (refine takeYes (i := 0) ?_ (by (simp only [List.getElem?_toArray, List.getElem?_cons_zero]) <;> rfl) (by kernel_rfl) (by kernel_rfl) (by kernel_rfl) (by exact fun _ _ _ h => h) (by rfl) (by assumption) ?_ ?_)
      rotate_left
      · (intro w hSw; (try dsimp only at hSw); go_simp <;> first | with_reducible rfl | (rw [if_neg (by first | omega | (show ¬ _ < _ + 1; omega))]))
      (try simp only [Act.put, List.setIfInBounds_toArray, List.set_cons_zero, List.set_cons_succ])
      (refine takeYes (i := 1) ?_ (by (simp only [List.getElem?_toArray, List.getElem?_cons_succ, List.getElem?_cons_zero]) <;> rfl) (by kernel_rfl) (by kernel_rfl) (by kernel_rfl) (by exact fun _ _ _ h => h) (by rfl) (by assumption) ?_ ?_)
      rotate_left
      · (intro w hSw; (try dsimp only at hSw); go_simp <;> first | with_reducible rfl | (rw [if_neg (by first | omega | (show ¬ _ < _ + 1; omega))]))
      (try simp only [Act.put, List.setIfInBounds_toArray, List.set_cons_zero, List.set_cons_succ])
      refine wpAnyH_ready (rs := [2]) (by kernel_rfl) (by simp) ?_
      refine AllReadyH.cons (by (simp only [List.getElem?_toArray, List.getElem?_cons_succ, List.getElem?_cons_zero]) <;> rfl) (fun K hK => ?_) AllReadyH.nil
      go_simp
      go_at_call 13
      with_reducible refine (HCM.out _ va vb (HL.out.frac (List.Mem.tail _ (List.Mem.head _))) (HL.out.frac (List.Mem.head _))).mono ?_
      rintro e w15 ⟨rfl, hb⟩
      have HL1 := Lib.hid (HL.out.after hb)
      have HA1 := Lib.hid (HA.out.below hb)
      have HN1 := Lib.hid (HN.out.below hb (Nat.le_refl _))
      have HD1 := Lib.hid (HD.out.below hb (Nat.le_refl _))
      clear hb HL HA HN HD hHeld
      have HL := HL1
      have HA := HA1
      have HN := HN1
      have HD := HD1
      clear HL1 HA1 HN1 HD1
      refine hK.out _ _ ⟨HL.out, HA.out, HN.out, HD.out⟩ (fun hHeld => ?_)
      clear hK K
      (try simp only [Act.put, List.setIfInBounds_toArray, List.set_cons_zero, List.set_cons_succ])
      (refine takeYes (i := 3) ?_ (by (simp only [List.getElem?_toArray, List.getElem?_cons_succ, List.getElem?_cons_zero]) <;> rfl) (by kernel_rfl) (by kernel_rfl) (by kernel_rfl) (by exact fun _ _ _ h => h) (by rfl) (by assumption) ?_ ?_)
      rotate_left
      · (intro w hSw; (try dsimp only at hSw); go_simp <;> first | with_reducible rfl | (rw [if_neg (by first | omega | (show ¬ _ < _ + 1; omega))]))
      (try simp only [Act.put, List.setIfInBounds_toArray, List.set_cons_zero, List.set_cons_succ])
      (refine takeYes (i := 4) ?_ (by (simp only [List.getElem?_toArray, List.getElem?_cons_succ, List.getElem?_cons_zero]) <;> rfl) (by kernel_rfl) (by kernel_rfl) (by kernel_rfl) (by exact fun _ _ _ h => h) (by rfl) (by assumption) ?_ ?_)
      rotate_left
      · (intro w hSw; (try dsimp only at hSw); go_simp <;> first | with_reducible rfl | (rw [if_neg (by first | omega | (show ¬ _ < _ + 1; omega))]))
      (try simp only [Act.put, List.setIfInBounds_toArray, List.set_cons_zero, List.set_cons_succ])
      (refine takeYes (i := 5) ?_ (by (simp only [List.getElem?_toArray, List.getElem?_cons_succ, List.getElem?_cons_zero]) <;> rfl) (by kernel_rfl) (by kernel_rfl) (by kernel_rfl) (by exact fun _ _ _ h => h) (by rfl) (by assumption) ?_ ?_)
      rotate_left
      · (intro w hSw; (try dsimp only at hSw); go_simp <;> first | with_reducible rfl | (rw [if_neg (by first | omega | (show ¬ _ < _ + 1; omega))]))
      (try simp only [Act.put, List.setIfInBounds_toArray, List.set_cons_zero, List.set_cons_succ])
      (refine takeYes (i := 7) ?_ (by (simp only [List.getElem?_toArray, List.getElem?_cons_succ, List.getElem?_cons_zero]) <;> rfl) (by kernel_rfl) (by kernel_rfl) (by kernel_rfl) (by exact fun _ _ _ h => h) (by rfl) (by assumption) ?_ ?_)
      rotate_left
      · (intro w hSw; (have a0 : w.cell? ⟨B, 0, none⟩ = some (.bool rb) := hSw.2.1.cell 0); (have a1 : w.cell? ⟨B, 1, none⟩ = some (.slice p pk c) := hSw.2.1.cell 1); (have a2 : w.cell? ⟨B, 2, none⟩ = some (.slice p' k' c') := hSw.2.1.cell 2); clear hSw; go_simp <;> first | with_reducible rfl | (rw [if_neg (by first | omega | (show ¬ _ < _ + 1; omega))]))
      (try simp only [Act.put, List.setIfInBounds_toArray, List.set_cons_zero, List.set_cons_succ])
      refine wpAnyH_ready (rs := [6]) (by kernel_rfl) (by simp) ?_
      refine AllReadyH.cons (by (simp only [List.getElem?_toArray, List.getElem?_cons_succ, List.getElem?_cons_zero]) <;> rfl) (fun K hK => ?_) AllReadyH.nil
      go_simp
      go_at_call 12
      with_reducible refine (HTA.out _ va (HL.out.frac (List.Mem.tail _ (List.Mem.head _))) (HT.out.after HL.out.below)).mono ?_
      rintro e w16 ⟨rfl, hb⟩
      have HL1 := Lib.hid (HL.out.after hb)
      have HA1 := Lib.hid (HA.out.below hb)
      have HN1 := Lib.hid (HN.out.below hb (Nat.le_refl _))
      have HD1 := Lib.hid (HD.out.below hb (Nat.le_refl _))
      clear hb HL HA HN HD hHeld
      have HL := HL1
      have HA := HA1
      have HN := HN1
      have HD := HD1
      clear HL1 HA1 HN1 HD1
      refine hK.out _ _ ⟨HL.out, HA.out, HN.out, HD.out⟩ (fun hHeld => ?_)
      clear hK K
      (try simp only [Act.put, List.setIfInBounds_toArray, List.set_cons_zero, List.set_cons_succ])
      refine wpAnyH_ready (rs := [8]) (by kernel_rfl) (by simp) ?_
      refine AllReadyH.cons (by (simp only [List.getElem?_toArray, List.getElem?_cons_succ, List.getElem?_cons_zero]) <;> rfl) (fun K hK => ?_) AllReadyH.nil
      go_simp
      go_at_call 9
      with_reducible refine (HTR.out _ _ (HQI.out _ HN.out HD.out)).mono ?_
      rintro e w17 ⟨rfl, hb⟩
      have HL1 := Lib.hid (HL.out.after hb)
      have HA1 := Lib.hid (HA.out.below hb)
      have HN1 := Lib.hid (HN.out.below hb (Nat.le_refl _))
      have HD1 := Lib.hid (HD.out.below hb (Nat.le_refl _))
      clear hb HL HA HN HD hHeld
      have HL := HL1
      have HA := HA1
      have HN := HN1
      have HD := HD1
      clear HL1 HA1 HN1 HD1
      refine hK.out _ _ ⟨HL.out, HA.out, HN.out, HD.out⟩ (fun hHeld => ?_)
      clear hK K
      (try simp only [Act.put, List.setIfInBounds_toArray, List.set_cons_zero, List.set_cons_succ])
      (refine takeYes (i := 9) ?_ (by (simp only [List.getElem?_toArray, List.getElem?_cons_succ, List.getElem?_cons_zero]) <;> rfl) (by kernel_rfl) (by kernel_rfl) (by kernel_rfl) (by exact fun _ _ _ h => h) (by rfl) (by assumption) ?_ ?_)
      rotate_left
      · (intro w hSw; (try dsimp only at hSw); go_simp <;> first | with_reducible rfl | (rw [if_neg (by first | omega | (show ¬ _ < _ + 1; omega))]))
      (try simp only [Act.put, List.setIfInBounds_toArray, List.set_cons_zero, List.set_cons_succ])
      (refine takeYes (i := 10) ?_ (by (simp only [List.getElem?_toArray, List.getElem?_cons_succ, List.getElem?_cons_zero]) <;> rfl) (by kernel_rfl) (by kernel_rfl) (by kernel_rfl) (by exact fun _ _ _ h => h) (by rfl) (by assumption) ?_ ?_)
      rotate_left
      · (intro w hSw; (try dsimp only at hSw); go_simp <;> first | with_reducible rfl | (rw [if_neg (by first | omega | (show ¬ _ < _ + 1; omega))]))
      (try simp only [Act.put, List.setIfInBounds_toArray, List.set_cons_zero, List.set_cons_succ])
      (refine takeYes (i := 11) ?_ (by (simp only [List.getElem?_toArray, List.getElem?_cons_succ, List.getElem?_cons_zero]) <;> rfl) (by kernel_rfl) (by kernel_rfl) (by kernel_rfl) (by exact fun _ _ _ h => h) (by rfl) (by assumption) ?_ ?_)
      rotate_left
      · (intro w hSw; (try dsimp only at hSw); go_simp <;> first | with_reducible rfl | (rw [if_neg (by first | omega | (show ¬ _ < _ + 1; omega))]))
      (try simp only [Act.put, List.setIfInBounds_toArray, List.set_cons_zero, List.set_cons_succ])
      (refine takeYes (i := 12) ?_ (by (simp only [List.getElem?_toArray, List.getElem?_cons_succ, List.getElem?_cons_zero]) <;> rfl) (by kernel_rfl) (by kernel_rfl) (by kernel_rfl) (by exact fun _ _ _ h => h) (by rfl) (by assumption) ?_ ?_)
      rotate_left
      · (intro w hSw; (try dsimp only at hSw); go_simp <;> first | with_reducible rfl | (rw [if_neg (by first | omega | (show ¬ _ < _ + 1; omega))]))
      (try simp only [Act.put, List.setIfInBounds_toArray, List.set_cons_zero, List.set_cons_succ])
      refine wpAnyH_ready (rs := [13]) (by kernel_rfl) (by simp) ?_
      refine AllReadyH.cons (by (simp only [List.getElem?_toArray, List.getElem?_cons_succ, List.getElem?_cons_zero]) <;> rfl) (fun K hK => ?_) AllReadyH.nil
      go_simp
      go_at_call 12
      with_reducible refine (HTA.out _ va (HL.out.frac (List.Mem.tail _ (List.Mem.head _))) (HT.out.after HL.out.below)).mono ?_
      rintro e w18 ⟨rfl, hb⟩
      have HL1 := Lib.hid (HL.out.after hb)
      have HA1 := Lib.hid (HA.out.below hb)
      have HN1 := Lib.hid (HN.out.below hb (Nat.le_refl _))
      have HD1 := Lib.hid (HD.out.below hb (Nat.le_refl _))
      clear hb HL HA HN HD hHeld
      have HL := HL1
      have HA := HA1
      have HN := HN1
      have HD := HD1
      clear HL1 HA1 HN1 HD1
      refine hK.out _ _ ⟨HL.out, HA.out, HN.out, HD.out⟩ (fun hHeld => ?_)
      clear hK K
      (try simp only [Act.put, List.setIfInBounds_toArray, List.set_cons_zero, List.set_cons_succ])
      (refine takeYes (i := 14) ?_ (by (simp only [List.getElem?_toArray, List.getElem?_cons_succ, List.getElem?_cons_zero]) <;> rfl) (by kernel_rfl) (by kernel_rfl) (by kernel_rfl) (by exact fun _ _ _ h => h) (by rfl) (by assumption) ?_ ?_)
      rotate_left
      · (intro w hSw; (try dsimp only at hSw); go_simp <;> first | with_reducible rfl | (rw [if_neg (by first | omega | (show ¬ _ < _ + 1; omega))]))
      (try simp only [Act.put, List.setIfInBounds_toArray, List.set_cons_zero, List.set_cons_succ])
      (refine takeYes (i := 15) ?_ (by (simp only [List.getElem?_toArray, List.getElem?_cons_succ, List.getElem?_cons_zero]) <;> rfl) (by kernel_rfl) (by kernel_rfl) (by kernel_rfl) (by exact fun _ _ _ h => h) (by rfl) (by assumption) ?_ ?_)
      rotate_left
      · (intro w hSw; (try dsimp only at hSw); go_simp <;> first | with_reducible rfl | (rw [if_neg (by first | omega | (show ¬ _ < _ + 1; omega))]))
      (try simp only [Act.put, List.setIfInBounds_toArray, List.set_cons_zero, List.set_cons_succ])
      (refine takeYes (i := 16) ?_ (by (simp only [List.getElem?_toArray, List.getElem?_cons_succ, List.getElem?_cons_zero]) <;> rfl) (by kernel_rfl) (by kernel_rfl) (by kernel_rfl) (by exact fun _ _ _ h => h) (by rfl) (by assumption) ?_ ?_)
      rotate_left
      · (intro w hSw; (try dsimp only at hSw); go_simp <;> first | with_reducible rfl | (rw [if_neg (by first | omega | (show ¬ _ < _ + 1; omega))]))
      (try simp only [Act.put, List.setIfInBounds_toArray, List.set_cons_zero, List.set_cons_succ])
      (refine takeNo (i := 17) (by (simp only [List.getElem?_toArray, List.getElem?_cons_succ, List.getElem?_cons_zero]) <;> rfl) (by kernel_rfl) (by kernel_rfl) (by kernel_rfl) (by exact fun _ _ _ h => h) (by rfl) (by assumption) ?_; (try simp only [Act.put, List.setIfInBounds_toArray, List.set_cons_zero, List.set_cons_succ]))
      (refine takeNo (i := 18) (by (simp only [List.getElem?_toArray, List.getElem?_cons_succ, List.getElem?_cons_zero]) <;> rfl) (by kernel_rfl) (by kernel_rfl) (by kernel_rfl) (by exact fun _ _ _ h => h) (by rfl) (by assumption) ?_; (try simp only [Act.put, List.setIfInBounds_toArray, List.set_cons_zero, List.set_cons_succ]))
      (refine takeNo (i := 19) (by (simp only [List.getElem?_toArray, List.getElem?_cons_succ, List.getElem?_cons_zero]) <;> rfl) (by kernel_rfl) (by kernel_rfl) (by kernel_rfl) (by exact fun _ _ _ h => h) (by rfl) (by assumption) ?_; (try simp only [Act.put, List.setIfInBounds_toArray, List.set_cons_zero, List.set_cons_succ]))
      (refine takeNo (i := 20) (by (simp only [List.getElem?_toArray, List.getElem?_cons_succ, List.getElem?_cons_zero]) <;> rfl) (by kernel_rfl) (by kernel_rfl) (by kernel_rfl) (by exact fun _ _ _ h => h) (by rfl) (by assumption) ?_; (try simp only [Act.put, List.setIfInBounds_toArray, List.set_cons_zero, List.set_cons_succ]))
      (refine takeNo (i := 21) (by (simp only [List.getElem?_toArray, List.getElem?_cons_succ, List.getElem?_cons_zero]) <;> rfl) (by kernel_rfl) (by kernel_rfl) (by kernel_rfl) (by exact fun _ _ _ h => h) (by rfl) (by assumption) ?_; (try simp only [Act.put, List.setIfInBounds_toArray, List.set_cons_zero, List.set_cons_succ]))
      (refine takeNo (i := 22) (by (simp only [List.getElem?_toArray, List.getElem?_cons_succ, List.getElem?_cons_zero]) <;> rfl) (by kernel_rfl) (by kernel_rfl) (by kernel_rfl) (by exact fun _ _ _ h => h) (by rfl) (by assumption) ?_; (try simp only [Act.put, List.setIfInBounds_toArray, List.set_cons_zero, List.set_cons_succ]))
      (refine takeNo (i := 23) (by (simp only [List.getElem?_toArray, List.getElem?_cons_succ, List.getElem?_cons_zero]) <;> rfl) (by kernel_rfl) (by kernel_rfl) (by kernel_rfl) (by exact fun _ _ _ h => h) (by rfl) (by assumption) ?_; (try simp only [Act.put, List.setIfInBounds_toArray, List.set_cons_zero, List.set_cons_succ]))
      (refine takeYes (i := 24) ?_ (by (simp only [List.getElem?_toArray, List.getElem?_cons_succ, List.getElem?_cons_zero]) <;> rfl) (by kernel_rfl) (by kernel_rfl) (by kernel_rfl) (by exact fun _ _ _ h => h) (by rfl) (by assumption) ?_ ?_)
      rotate_left
      · (intro w hSw; (try dsimp only at hSw); go_simp <;> first | with_reducible rfl | (rw [if_neg (by first | omega | (show ¬ _ < _ + 1; omega))]))
      (try simp only [Act.put, List.setIfInBounds_toArray, List.set_cons_zero, List.set_cons_succ])
      (refine takeYes (i := 25) ?_ (by (simp only [List.getElem?_toArray, List.getElem?_cons_succ, List.getElem?_cons_zero]) <;> rfl) (by kernel_rfl) (by kernel_rfl) (by kernel_rfl) (by exact fun _ _ _ h => h) (by rfl) (by assumption) ?_ ?_)
      rotate_left
      · (intro w hSw; (try dsimp only at hSw); go_simp <;> first | with_reducible rfl | (rw [if_neg (by first | omega | (show ¬ _ < _ + 1; omega))]))
      (try simp only [Act.put, List.setIfInBounds_toArray, List.set_cons_zero, List.set_cons_succ])
      (refine takeYes (i := 26) ?_ (by (simp only [List.getElem?_toArray, List.getElem?_cons_succ, List.getElem?_cons_zero]) <;> rfl) (by kernel_rfl) (by kernel_rfl) (by kernel_rfl) (by exact fun _ _ _ h => h) (by rfl) (by assumption) ?_ ?_)
      rotate_left
      · (intro w hSw; (try dsimp only at hSw); go_simp <;> first | with_reducible rfl | (rw [if_neg (by first | omega | (show ¬ _ < _ + 1; omega))]))
      (try simp only [Act.put, List.setIfInBounds_toArray, List.set_cons_zero, List.set_cons_succ])
      refine wpAnyH_done (by kernel_rfl) ?_ _
      clear hHeld
      have HBE := Lib.hid HL.out.below
      clear HL HA HN HD HTA HTR HCM HQI HTS HT
      go_wp2
      go_ret
      exact ⟨rfl, HBE.out⟩
    · skip
      have hbB : decide ((40 : Int) < (TQ.size : Int)) = false := decide_eq_false (by omega)
      have HL14 := Lib.hid (HL13.out.addF hvc)
      clear HL13 hvc
      have HL13 := HL14
      clear HL14
      go_wp2_with fail
      have hbd := (Below.refl w13.heap.size w13).drew
      refine wp_region_held_drew (S := fun W => Lies w W [] [(vc, Q, 242), (vb, Q, 242), (va, Q, 242)] ∧ CellsAt W B #[.bool rb, .slice p pk c, .slice p' k' c'] 27 ∧ NumIs W (.slice p pk c) rz 500 ∧ NumIs W (.slice p' k' c') rdd 500) (by kernel_rfl) ⟨HL13.out.after hbd, HA13.out.below hbd, HN13.out.below hbd (Nat.le_refl _), HD13.out.below hbd (Nat.le_refl _)⟩ (fun hHeld => ?_)
      have HL := Lib.hid hHeld.1
      have HA := Lib.hid hHeld.2.1
      have HN := Lib.hid hHeld.2.2.1
      have HD := Lib.hid hHeld.2.2.2
      clear HL13 HA13 HN13 HD13 hbd
      generalize w13.drew = w14 at *
      (refine takeYes (i := 0) ?_ (by (simp only [List.getElem?_toArray, List.getElem?_cons_zero]) <;> rfl) (by kernel_rfl) (by kernel_rfl) (by kernel_rfl) (by exact fun _ _ _ h => h) (by rfl) (by assumption) ?_ ?_)
      rotate_left
      · (intro w hSw; (try dsimp only at hSw); go_simp <;> first | with_reducible rfl | (rw [if_neg (by first | omega | (show ¬ _ < _ + 1; omega))]))
      (try simp only [Act.put, List.setIfInBounds_toArray, List.set_cons_zero, List.set_cons_succ])
      (refine takeYes (i := 1) ?_ (by (simp only [List.getElem?_toArray, List.getElem?_cons_succ, List.getElem?_cons_zero]) <;> rfl) (by kernel_rfl) (by kernel_rfl) (by kernel_rfl) (by exact fun _ _ _ h => h) (by rfl) (by assumption) ?_ ?_)
      rotate_left
      · (intro w hSw; (try dsimp only at hSw); go_simp <;> first | with_reducible rfl | (rw [if_neg (by first | omega | (show ¬ _ < _ + 1; omega))]))
      (try simp only [Act.put, List.setIfInBounds_toArray, List.set_cons_zero, List.set_cons_succ])
      refine wpAnyH_ready (rs := [2]) (by kernel_rfl) (by simp) ?_
      refine AllReadyH.cons (by (simp only [List.getElem?_toArray, List.getElem?_cons_succ, List.getElem?_cons_zero]) <;> rfl) (fun K hK => ?_) AllReadyH.nil
      go_simp
      go_at_call 13
      with_reducible refine (HCM.out _ va vb (HL.out.frac (List.Mem.tail _ (List.Mem.tail _ (List.Mem.head _)))) (HL.out.frac (List.Mem.tail _ (List.Mem.head _)))).mono ?_
      rintro e w15 ⟨rfl, hb⟩
      have HL1 := Lib.hid (HL.out.after hb)
      have HA1 := Lib.hid (HA.out.below hb)
      have HN1 := Lib.hid (HN.out.below hb (Nat.le_refl _))
      have HD1 := Lib.hid (HD.out.below hb (Nat.le_refl _))
      clear hb HL HA HN HD hHeld
      have HL := HL1
      have HA := HA1
      have HN := HN1
      have HD := HD1
      clear HL1 HA1 HN1 HD1
      refine hK.out _ _ ⟨HL.out, HA.out, HN.out, HD.out⟩ (fun hHeld => ?_)
      clear hK K
      (try simp only [Act.put, List.setIfInBounds_toArray, List.set_cons_zero, List.set_cons_succ])
      (refine takeYes (i := 3) ?_ (by (simp only [List.getElem?_toArray, List.getElem?_cons_succ, List.getElem?_cons_zero]) <;> rfl) (by kernel_rfl) (by kernel_rfl) (by kernel_rfl) (by exact fun _ _ _ h => h) (by rfl) (by assumption) ?_ ?_)
      rotate_left
      · (intro w hSw; (try dsimp only at hSw); go_simp <;> first | with_reducible rfl | (rw [if_neg (by first | omega | (show ¬ _ < _ + 1; omega))]))
      (try simp only [Act.put, List.setIfInBounds_toArray, List.set_cons_zero, List.set_cons_succ])
      (refine takeYes (i := 4) ?_ (by (simp only [List.getElem?_toArray, List.getElem?_cons_succ, List.getElem?_cons_zero]) <;> rfl) (by kernel_rfl) (by kernel_rfl) (by kernel_rfl) (by exact fun _ _ _ h => h) (by rfl) (by assumption) ?_ ?_)
      rotate_left
      · (intro w hSw; (try dsimp only at hSw); go_simp <;> first | with_reducible rfl | (rw [if_neg (by first | omega | (show ¬ _ < _ + 1; omega))]))
      (try simp only [Act.put, List.setIfInBounds_toArray, List.set_cons_zero, List.set_cons_succ])
      (refine takeYes (i := 5) ?_ (by (simp only [List.getElem?_toArray, List.getElem?_cons_succ, List.getElem?_cons_zero]) <;> rfl) (by kernel_rfl) (by kernel_rfl) (by kernel_rfl) (by exact fun _ _ _ h => h) (by rfl) (by assumption) ?_ ?_)
      rotate_left
      · (intro w hSw; (try dsimp only at hSw); go_simp <;> first | with_reducible rfl | (rw [if_neg (by first | omega | (show ¬ _ < _ + 1; omega))]))
      (try simp only [Act.put, List.setIfInBounds_toArray, List.set_cons_zero, List.set_cons_succ])
      (refine takeYes (i := 7) ?_ (by (simp only [List.getElem?_toArray, List.getElem?_cons_succ, List.getElem?_cons_zero]) <;> rfl) (by kernel_rfl) (by kernel_rfl) (by kernel_rfl) (by exact fun _ _ _ h => h) (by rfl) (by assumption) ?_ ?_)
      rotate_left
      · (intro w hSw; (have a0 : w.cell? ⟨B, 0, none⟩ = some (.bool rb) := hSw.2.1.cell 0); (have a1 : w.cell? ⟨B, 1, none⟩ = some (.slice p pk c) := hSw.2.1.cell 1); (have a2 : w.cell? ⟨B, 2, none⟩ = some (.slice p' k' c') := hSw.2.1.cell 2); clear hSw; go_simp <;> first | with_reducible rfl | (rw [if_neg (by first | omega | (show ¬ _ < _ + 1; omega))]))
      (try simp only [Act.put, List.setIfInBounds_toArray, List.set_cons_zero, List.set_cons_succ])
      refine wpAnyH_ready (rs := [6]) (by kernel_rfl) (by simp) ?_
      refine AllReadyH.cons (by (simp only [List.getElem?_toArray, List.getElem?_cons_succ, List.getElem?_cons_zero]) <;> rfl) (fun K hK => ?_) AllReadyH.nil
      go_simp
      go_at_call 12
      with_reducible refine (HTA.out _ va (HL.out.frac (List.Mem.tail _ (List.Mem.tail _ (List.Mem.head _)))) (HT.out.after HL.out.below)).mono ?_
      rintro e w16 ⟨rfl, hb⟩
      have HL1 := Lib.hid (HL.out.after hb)
      have HA1 := Lib.hid (HA.out.below hb)
      have HN1 := Lib.hid (HN.out.below hb (Nat.le_refl _))
      have HD1 := Lib.hid (HD.out.below hb (Nat.le_refl _))
      clear hb HL HA HN HD hHeld
      have HL := HL1
      have HA := HA1
      have HN := HN1
      have HD := HD1
      clear HL1 HA1 HN1 HD1
      refine hK.out _ _ ⟨HL.out, HA.out, HN.out, HD.out⟩ (fun hHeld => ?_)
      clear hK K
      (try simp only [Act.put, List.setIfInBounds_toArray, List.set_cons_zero, List.set_cons_succ])
      refine wpAnyH_ready (rs := [8]) (by kernel_rfl) (by simp) ?_
      refine AllReadyH.cons (by (simp only [List.getElem?_toArray, List.getElem?_cons_succ, List.getElem?_cons_zero]) <;> rfl) (fun K hK => ?_) AllReadyH.nil
      go_simp
      go_at_call 9
      with_reducible refine (HTR.out _ _ (HQI.out _ HN.out HD.out)).mono ?_
      rintro e w17 ⟨rfl, hb⟩
      have HL1 := Lib.hid (HL.out.after hb)
      have HA1 := Lib.hid (HA.out.below hb)
      have HN1 := Lib.hid (HN.out.below hb (Nat.le_refl _))
      have HD1 := Lib.hid (HD.out.below hb (Nat.le_refl _))
      clear hb HL HA HN HD hHeld
      have HL := HL1
      have HA := HA1
      have HN := HN1
      have HD := HD1
      clear HL1 HA1 HN1 HD1
      refine hK.out _ _ ⟨HL.out, HA.out, HN.out, HD.out⟩ (fun hHeld => ?_)
      clear hK K
      (try simp only [Act.put, List.setIfInBounds_toArray, List.set_cons_zero, List.set_cons_succ])
      (refine takeYes (i := 9) ?_ (by (simp only [List.getElem?_toArray, List.getElem?_cons_succ, List.getElem?_cons_zero]) <;> rfl) (by kernel_rfl) (by kernel_rfl) (by kernel_rfl) (by exact fun _ _ _ h => h) (by rfl) (by assumption) ?_ ?_)
      rotate_left
      · (intro w hSw; (try dsimp only at hSw); go_simp <;> first | with_reducible rfl | (rw [if_neg (by first | omega | (show ¬ _ < _ + 1; omega))]))
      (try simp only [Act.put, List.setIfInBounds_toArray, List.set_cons_zero, List.set_cons_succ])
      (refine takeYes (i := 10) ?_ (by (simp only [List.getElem?_toArray, List.getElem?_cons_succ, List.getElem?_cons_zero]) <;> rfl) (by kernel_rfl) (by kernel_rfl) (by kernel_rfl) (by exact fun _ _ _ h => h) (by rfl) (by assumption) ?_ ?_)
      rotate_left
      · (intro w hSw; (try dsimp only at hSw); go_simp <;> first | with_reducible rfl | (rw [if_neg (by first | omega | (show ¬ _ < _ + 1; omega))]))
      (try simp only [Act.put, List.setIfInBounds_toArray, List.set_cons_zero, List.set_cons_succ])
      (refine takeYes (i := 11) ?_ (by (simp only [List.getElem?_toArray, List.getElem?_cons_succ, List.getElem?_cons_zero]) <;> rfl) (by kernel_rfl) (by kernel_rfl) (by kernel_rfl) (by exact fun _ _ _ h => h) (by rfl) (by assumption) ?_ ?_)
      rotate_left
      · (intro w hSw; (try dsimp only at hSw); go_simp <;> first | with_reducible rfl | (rw [if_neg (by first | omega | (show ¬ _ < _ + 1; omega))]))
      (try simp only [Act.put, List.setIfInBounds_toArray, List.set_cons_zero, List.set_cons_succ])
      (refine takeYes (i := 12) ?_ (by (simp only [List.getElem?_toArray, List.getElem?_cons_succ, List.getElem?_cons_zero]) <;> rfl) (by kernel_rfl) (by kernel_rfl) (by kernel_rfl) (by exact fun _ _ _ h => h) (by rfl) (by assumption) ?_ ?_)
      rotate_left
      · (intro w hSw; (try dsimp only at hSw); go_simp <;> first | with_reducible rfl | (rw [if_neg (by first | omega | (show ¬ _ < _ + 1; omega))]))
      (try simp only [Act.put, List.setIfInBounds_toArray, List.set_cons_zero, List.set_cons_succ])
      refine wpAnyH_ready (rs := [13]) (by kernel_rfl) (by simp) ?_
      refine AllReadyH.cons (by (simp only [List.getElem?_toArray, List.getElem?_cons_succ, List.getElem?_cons_zero]) <;> rfl) (fun K hK => ?_) AllReadyH.nil
      go_simp
      go_at_call 12
      with_reducible refine (HTA.out _ va (HL.out.frac (List.Mem.tail _ (List.Mem.tail _ (List.Mem.head _)))) (HT.out.after HL.out.below)).mono ?_
      rintro e w18 ⟨rfl, hb⟩
      have HL1 := Lib.hid (HL.out.after hb)
      have HA1 := Lib.hid (HA.out.below hb)
      have HN1 := Lib.hid (HN.out.below hb (Nat.le_refl _))
      have HD1 := Lib.hid (HD.out.below hb (Nat.le_refl _))
      clear hb HL HA HN HD hHeld
      have HL := HL1
      have HA := HA1
      have HN := HN1
      have HD := HD1
      clear HL1 HA1 HN1 HD1
      refine hK.out _ _ ⟨HL.out, HA.out, HN.out, HD.out⟩ (fun hHeld => ?_)
      clear hK K
      (try simp only [Act.put, List.setIfInBounds_toArray, List.set_cons_zero, List.set_cons_succ])
      (refine takeYes (i := 14) ?_ (by (simp only [List.getElem?_toArray, List.getElem?_cons_succ, List.getElem?_cons_zero]) <;> rfl) (by kernel_rfl) (by kernel_rfl) (by kernel_rfl) (by exact fun _ _ _ h => h) (by rfl) (by assumption) ?_ ?_)
      rotate_left
      · (intro w hSw; (try dsimp only at hSw); go_simp <;> first | with_reducible rfl | (rw [if_neg (by first | omega | (show ¬ _ < _ + 1; omega))]))
      (try simp only [Act.put, List.setIfInBounds_toArray, List.set_cons_zero, List.set_cons_succ])
      (refine takeYes (i := 15) ?_ (by (simp only [List.getElem?_toArray, List.getElem?_cons_succ, List.getElem?_cons_zero]) <;> rfl) (by kernel_rfl) (by kernel_rfl) (by kernel_rfl) (by exact fun _ _ _ h => h) (by rfl) (by assumption) ?_ ?_)
      rotate_left
      · (intro w hSw; (try dsimp only at hSw); go_simp <;> first | with_reducible rfl | (rw [if_neg (by first | omega | (show ¬ _ < _ + 1; omega))]))
      (try simp only [Act.put, List.setIfInBounds_toArray, List.set_cons_zero, List.set_cons_succ])
      (refine takeYes (i := 16) ?_ (by (simp only [List.getElem?_toArray, List.getElem?_cons_succ, List.getElem?_cons_zero]) <;> rfl) (by kernel_rfl) (by kernel_rfl) (by kernel_rfl) (by exact fun _ _ _ h => h) (by rfl) (by assumption) ?_ ?_)
      rotate_left
      · (intro w hSw; (try dsimp only at hSw); go_simp <;> first | with_reducible rfl | (rw [if_neg (by first | omega | (show ¬ _ < _ + 1; omega))]))
      (try simp only [Act.put, List.setIfInBounds_toArray, List.set_cons_zero, List.set_cons_succ])
      (refine takeYes (i := 17) ?_ (by (simp only [List.getElem?_toArray, List.getElem?_cons_succ, List.getElem?_cons_zero]) <;> rfl) (by kernel_rfl) (by kernel_rfl) (by kernel_rfl) (by exact fun _ _ _ h => h) (by rfl) (by assumption) ?_ ?_)
      rotate_left
      · (intro w hSw; (try dsimp only at hSw); go_simp <;> first | with_reducible rfl | (rw [if_neg (by first | omega | (show ¬ _ < _ + 1; omega))]))
      (try simp only [Act.put, List.setIfInBounds_toArray, List.set_cons_zero, List.set_cons_succ])
      (refine takeYes (i := 18) ?_ (by (simp only [List.getElem?_toArray, List.getElem?_cons_succ, List.getElem?_cons_zero]) <;> rfl) (by kernel_rfl) (by kernel_rfl) (by kernel_rfl) (by exact fun _ _ _ h => h) (by rfl) (by assumption) ?_ ?_)
      rotate_left
      · (intro w hSw; (try dsimp only at hSw); go_simp <;> first | with_reducible rfl | (rw [if_neg (by first | omega | (show ¬ _ < _ + 1; omega))]))
      (try simp only [Act.put, List.setIfInBounds_toArray, List.set_cons_zero, List.set_cons_succ])
      (refine takeYes (i := 19) ?_ (by (simp only [List.getElem?_toArray, List.getElem?_cons_succ, List.getElem?_cons_zero]) <;> rfl) (by kernel_rfl) (by kernel_rfl) (by kernel_rfl) (by exact fun _ _ _ h => h) (by rfl) (by assumption) ?_ ?_)
      rotate_left
      · (intro w hSw; (try dsimp only at hSw); go_simp <;> first | with_reducible rfl | (rw [if_neg (by first | omega | (show ¬ _ < _ + 1; omega))]))
      (try simp only [Act.put, List.setIfInBounds_toArray, List.set_cons_zero, List.set_cons_succ])
      (refine takeYes (i := 20) ?_ (by (simp only [List.getElem?_toArray, List.getElem?_cons_succ, List.getElem?_cons_zero]) <;> rfl) (by kernel_rfl) (by kernel_rfl) (by kernel_rfl) (by exact fun _ _ _ h => h) (by rfl) (by assumption) ?_ ?_)
      rotate_left
      · (intro w hSw; (try dsimp only at hSw); go_simp <;> first | with_reducible rfl | (rw [if_neg (by first | omega | (show ¬ _ < _ + 1; omega))]))
      (try simp only [Act.put, List.setIfInBounds_toArray, List.set_cons_zero, List.set_cons_succ])
      refine wpAnyH_ready (rs := [21]) (by kernel_rfl) (by simp) ?_
      refine AllReadyH.cons (by (simp only [List.getElem?_toArray, List.getElem?_cons_succ, List.getElem?_cons_zero]) <;> rfl) (fun K hK => ?_) AllReadyH.nil
      go_simp
      go_at_call 13
      with_reducible refine (HCM.out _ vc va (HL.out.frac (List.Mem.head _)) (HL.out.frac (List.Mem.tail _ (List.Mem.tail _ (List.Mem.head _))))).mono ?_
      rintro e w19 ⟨rfl, hb⟩
      have HL1 := Lib.hid (HL.out.after hb)
      have HA1 := Lib.hid (HA.out.below hb)
      have HN1 := Lib.hid (HN.out.below hb (Nat.le_refl _))
      have HD1 := Lib.hid (HD.out.below hb (Nat.le_refl _))
      clear hb HL HA HN HD hHeld
      have HL := HL1
      have HA := HA1
      have HN := HN1
      have HD := HD1
      clear HL1 HA1 HN1 HD1
      refine hK.out _ _ ⟨HL.out, HA.out, HN.out, HD.out⟩ (fun hHeld => ?_)
      clear hK K
      (try simp only [Act.put, List.setIfInBounds_toArray, List.set_cons_zero, List.set_cons_succ])
      (refine takeYes (i := 22) ?_ (by (simp only [List.getElem?_toArray, List.getElem?_cons_succ, List.getElem?_cons_zero]) <;> rfl) (by kernel_rfl) (by kernel_rfl) (by kernel_rfl) (by exact fun _ _ _ h => h) (by rfl) (by assumption) ?_ ?_)
      rotate_left
      · (intro w hSw; (try dsimp only at hSw); go_simp <;> first | with_reducible rfl | (rw [if_neg (by first | omega | (show ¬ _ < _ + 1; omega))]))
      (try simp only [Act.put, List.setIfInBounds_toArray, List.set_cons_zero, List.set_cons_succ])
      (refine takeYes (i := 23) ?_ (by (simp only [List.getElem?_toArray, List.getElem?_cons_succ, List.getElem?_cons_zero]) <;> rfl) (by kernel_rfl) (by kernel_rfl) (by kernel_rfl) (by exact fun _ _ _ h => h) (by rfl) (by assumption) ?_ ?_)
      rotate_left
      · (intro w hSw; (try dsimp only at hSw); go_simp <;> first | with_reducible rfl | (rw [if_neg (by first | omega | (show ¬ _ < _ + 1; omega))]))
      (try simp only [Act.put, List.setIfInBounds_toArray, List.set_cons_zero, List.set_cons_succ])
      (refine takeYes (i := 24) ?_ (by (simp only [List.getElem?_toArray, List.getElem?_cons_succ, List.getElem?_cons_zero]) <;> rfl) (by kernel_rfl) (by kernel_rfl) (by kernel_rfl) (by exact fun _ _ _ h => h) (by rfl) (by assumption) ?_ ?_)
      rotate_left
      · (intro w hSw; (try dsimp only at hSw); go_simp <;> first | with_reducible rfl | (rw [if_neg (by first | omega | (show ¬ _ < _ + 1; omega))]))
      (try simp only [Act.put, List.setIfInBounds_toArray, List.set_cons_zero, List.set_cons_succ])
      (refine takeYes (i := 25) ?_ (by (simp only [List.getElem?_toArray, List.getElem?_cons_succ, List.getElem?_cons_zero]) <;> rfl) (by kernel_rfl) (by kernel_rfl) (by kernel_rfl) (by exact fun _ _ _ h => h) (by rfl) (by assumption) ?_ ?_)
      rotate_left
      · (intro w hSw; (try dsimp only at hSw); go_simp <;> first | with_reducible rfl | (rw [if_neg (by first | omega | (show ¬ _ < _ + 1; omega))]))
      (try simp only [Act.put, List.setIfInBounds_toArray, List.set_cons_zero, List.set_cons_succ])
      (refine takeYes (i := 26) ?_ (by (simp only [List.getElem?_toArray, List.getElem?_cons_succ, List.getElem?_cons_zero]) <;> rfl) (by kernel_rfl) (by kernel_rfl) (by kernel_rfl) (by exact fun _ _ _ h => h) (by rfl) (by assumption) ?_ ?_)
      rotate_left
      · (intro w hSw; (try dsimp only at hSw); go_simp <;> first | with_reducible rfl | (rw [if_neg (by first | omega | (show ¬ _ < _ + 1; omega))]))
      (try simp only [Act.put, List.setIfInBounds_toArray, List.set_cons_zero, List.set_cons_succ])
      refine wpAnyH_done (by kernel_rfl) ?_ _
      clear hHeld
      have HBE := Lib.hid HL.out.below
      clear HL HA HN HD HTA HTR HCM HQI HTS HT
      go_wp2
      go_ret
      exact ⟨rfl, HBE.out⟩
end Go.Proofs.Fr
