/- What coefs of the law file returns: some coefficients by rising columns, each a fraction's text. -/
import Derived.Test.YtcnjcfoaoaldeaaGreatDoorVc
import Derived.LoopTactic
namespace Go.Proofs.Vt
open Go.RowKit Go.Proofs.Wd Go.Proofs.Fr
set_option linter.unusedVariables false
/-- A slice of ints, of strings, that came in. -/
def IntsIn (w : World) (v : Value) (zs : List Int) : Prop :=
  ∃ p cap, v = .slice p zs.length cap ∧ zs.length ≤ cap ∧ cap ≤ maxLen ∧ (∀ z ∈ zs, -9223372036854775808 ≤ z ∧ z ≤ 9223372036854775807) ∧ (zs = [] ∨ ∃ b o, p = some ⟨b, o, none⟩ ∧ b < w.heap.size ∧ ∀ j z, zs[j]? = some z → w.cell? ⟨b, o + j, none⟩ = some (.int .i64 z))
def StrsIn (w : World) (v : Value) (ss : List ByteArray) : Prop :=
  ∃ p cap, v = .slice p ss.length cap ∧ ss.length ≤ cap ∧ cap ≤ maxLen ∧ (∀ s ∈ ss, s.size ≤ maxLen) ∧ (ss = [] ∨ ∃ b o, p = some ⟨b, o, none⟩ ∧ b < w.heap.size ∧ ∀ j s, ss[j]? = some s → w.cell? ⟨b, o + j, none⟩ = some (.string s))
theorem IntsIn.nth {w : World} {v : Value} {zs : List Int} {j : Nat} {z : Int} (h : IntsIn w v zs) (hj : zs[j]? = some z) : ∃ b o cap, v = .slice (some ⟨b, o, none⟩) zs.length cap ∧ b < w.heap.size ∧ w.cell? ⟨b, o + j, none⟩ = some (.int .i64 z) ∧ -9223372036854775808 ≤ z ∧ z ≤ 9223372036854775807 := by
  obtain ⟨p, cap, h1, h2, h3, h4, h5⟩ := h
  rcases h5 with rfl | ⟨b, o, rfl, hb, hc⟩
  · simp at hj
  · exact ⟨b, o, cap, h1, hb, hc j z hj, h4 z (List.mem_of_getElem? hj)⟩
theorem StrsIn.nth {w : World} {v : Value} {ss : List ByteArray} {j : Nat} {s : ByteArray} (h : StrsIn w v ss) (hj : ss[j]? = some s) : ∃ b o cap, v = .slice (some ⟨b, o, none⟩) ss.length cap ∧ b < w.heap.size ∧ w.cell? ⟨b, o + j, none⟩ = some (.string s) ∧ s.size ≤ maxLen := by
  obtain ⟨p, cap, h1, h2, h3, h4, h5⟩ := h
  rcases h5 with rfl | ⟨b, o, rfl, hb, hc⟩
  · simp at hj
  · exact ⟨b, o, cap, h1, hb, hc j s hj, h4 s (List.mem_of_getElem? hj)⟩
theorem IntsIn.slice {w : World} {v : Value} {zs : List Int} (h : IntsIn w v zs) : ∃ p cap, v = .slice p zs.length cap ∧ zs.length ≤ cap ∧ cap ≤ maxLen := by
  obtain ⟨p, cap, h1, h2, h3, -⟩ := h; exact ⟨p, cap, h1, h2, h3⟩
theorem StrsIn.slice {w : World} {v : Value} {ss : List ByteArray} (h : StrsIn w v ss) : ∃ p cap, v = .slice p ss.length cap ∧ ss.length ≤ cap ∧ cap ≤ maxLen := by
  obtain ⟨p, cap, h1, h2, h3, -⟩ := h; exact ⟨p, cap, h1, h2, h3⟩
theorem IntsIn.below {w w' : World} {v : Value} {zs : List Int} (h : IntsIn w v zs) (hb : Below w.heap.size w w') : IntsIn w' v zs := by
  obtain ⟨p, cap, h1, h2, h3, h4, h5⟩ := h
  refine ⟨p, cap, h1, h2, h3, h4, ?_⟩
  rcases h5 with h5 | ⟨b, o, g1, g2, g3⟩
  · exact .inl h5
  · exact .inr ⟨b, o, g1, Nat.lt_of_lt_of_le g2 hb.size, fun j z hj => by rw [hb.cell g2]; exact g3 j z hj⟩
theorem StrsIn.below {w w' : World} {v : Value} {ss : List ByteArray} (h : StrsIn w v ss) (hb : Below w.heap.size w w') : StrsIn w' v ss := by
  obtain ⟨p, cap, h1, h2, h3, h4, h5⟩ := h
  refine ⟨p, cap, h1, h2, h3, h4, ?_⟩
  rcases h5 with h5 | ⟨b, o, g1, g2, g3⟩
  · exact .inl h5
  · exact .inr ⟨b, o, g1, Nat.lt_of_lt_of_le g2 hb.size, fun j z hj => by rw [hb.cell g2]; exact g3 j z hj⟩
/-- Coefficients as New takes them. -/
def CoefOk (m : Int) (cs : C) : Prop := cs.Pairwise (fun a b => a.1 < b.1) ∧ ∀ c ∈ cs, 0 ≤ c.1 ∧ c.1 < m ∧ ∃ q, getQ c.2 = some q
theorem CoefOk.nil (m : Int) : CoefOk m [] := ⟨List.Pairwise.nil, fun c hc => by simp at hc⟩
/-- One is put in where it belongs. -/
theorem CoefOk.put {m : Int} {cs : C} (h : CoefOk m cs) (k : Nat) (c : Int) (s : ByteArray) (q : Rat) (h0 : 0 ≤ c) (h1 : c < m) (hq : getQ s = some q) (a : ∀ d ∈ cs.take k, d.1 < c) (b : ∀ d ∈ cs.drop k, c < d.1) : CoefOk m (cs.take k ++ [(c, s)] ++ cs.drop k) := by
  obtain ⟨g1, g2⟩ := h
  have g3 := List.take_append_drop k cs
  rw [← g3] at g1
  obtain ⟨e1, e2, e3⟩ := List.pairwise_append.1 g1
  constructor
  · refine List.pairwise_append.2 ⟨List.pairwise_append.2 ⟨e1, List.pairwise_singleton _ _, fun x hx y hy => ?_⟩, e2, fun x hx y hy => ?_⟩
    · rw [List.mem_singleton.1 hy]; exact a x hx
    · rcases List.mem_append.1 hx with hx | hx
      · exact e3 x hx y hy
      · rw [List.mem_singleton.1 hx]; exact b y hy
  · intro d hd
    rcases List.mem_append.1 hd with hd | hd
    · rcases List.mem_append.1 hd with hd | hd
      · exact g2 d (List.mem_of_mem_take hd)
      · rw [List.mem_singleton.1 hd]; exact ⟨h0, h1, q, hq⟩
    · exact g2 d (List.mem_of_mem_drop hd)
theorem getQ_nought : getQ ⟨#[48]⟩ = some 0 := by
  have hs : size ⟨#[48]⟩ = ⟨#[48]⟩ := by unfold size; rw [if_neg (by decide)]
  have hk : stroke ⟨#[48]⟩ = 1 := by unfold stroke; decide
  have hu : upper ⟨#[48]⟩ = ⟨#[48]⟩ := by unfold upper; rw [hs, hk]; rfl
  have hd : Lib.decDigits 0 = [48] := by simp [Lib.decDigits]
  have hp : Tx.plainB ⟨#[48]⟩ = true := Tx.plainB_true.2 ⟨by have := Tx.numeral_dec 0; rw [hd] at this; exact this, by decide⟩
  have hn : Tx.num ⟨#[48]⟩ = 0 := by unfold Tx.num; rfl
  have hm : minus ⟨#[48]⟩ = false := by unfold minus; decide
  have := getQ_whole (s := ⟨#[48]⟩) (by rw [hs, hk]; decide) (by rw [hu]; exact hp) (by rw [hm]; simp)
  rw [this, hu, hn, hm]
  rfl
theorem Tryz.cutTo (p : Option Addr) (n cap k : Nat) (hk : k ≤ n) (hn : n ≤ cap) (w : World) : (Instr.slice 25 (.slice p n cap) none (some (.int .i64 k)) none).run Tryz.prog w = .ok (sliced p 0 k cap 2) w := by
  have h := run_slice_h (P := Tryz.prog) (w := w) 25 p n cap (by simp [Program.elem, Tryz.underlying25]) .i64 k (by omega) (by omega)
  rw [h, show Tryz.prog.elem 25 = 46 by simp [Program.elem, Tryz.underlying25], Tryz.sizeOf46]
  rfl
theorem Tryz.cutFrom (p : Option Addr) (n cap k : Nat) (hk : k ≤ n) (hn : n ≤ cap) (hc : cap ≤ 9223372036854775807) (w : World) : (Instr.slice 25 (.slice p n cap) (some (.int .i64 k)) none none).run Tryz.prog w = .ok (sliced p k n cap 2) w := by
  have h := run_slice_l (P := Tryz.prog) (w := w) 25 p n cap (by simp [Program.elem, Tryz.underlying25]) .i64 k (by omega) (by omega)
  rw [h, show Tryz.prog.elem 25 = 46 by simp [Program.elem, Tryz.underlying25], Tryz.sizeOf46]
  rfl
/-- What coefs tells. -/
def CoefsSaid (w0 w' : World) (e : Ending) : Prop := ∃ r cs, e = .returned r ∧ OwnC w0.heap.size w' r cs ∧ CoefOk 30 cs ∧ cs.length ≤ 10
/-- What coefs's loop keeps to. -/
def CoefsAt (w0 : World) (lv : Value) (i : Nat) (wr : World) : Prop := ∃ cs, OwnC w0.heap.size wr lv cs ∧ CoefOk 30 cs ∧ cs.length ≤ i ∧ Below w0.heap.size w0 wr
theorem colOf (z : Int) : -29 ≤ z.tmod 30 ∧ z.tmod 30 ≤ 29 ∧ 0 ≤ (z.tmod 30 + 30).tmod 30 ∧ (z.tmod 30 + 30).tmod 30 < 30 := by
  have h1 := Int.tmod_lt_of_pos z (show (0 : Int) < 30 by omega)
  have h2 := Int.lt_tmod_of_pos z (show (0 : Int) < 30 by omega)
  refine ⟨by omega, by omega, Int.tmod_nonneg _ (by omega), Int.tmod_lt_of_pos _ (by omega)⟩
set_option maxHeartbeats 8000000 in
set_option maxRecDepth 100000 in
theorem Tryz.coefs (u v : Value) (zs : List Int) (ss : List ByteArray) (w : World) (hu : IntsIn w u zs) (hv : StrsIn w v ss) :
    Calls Tryz.prog 12 #[u, v] w fun e w' => CoefsSaid w w' e ∧ Below w.heap.size w w' := by
  obtain ⟨p1, c1, rfl, l1, l2⟩ := hu.slice
  obtain ⟨p2, c2, rfl, m1, m2⟩ := hv.slice
  have HU : Hid (IntsIn w _ zs) := hu
  have HV : Hid (StrsIn w _ ss) := hv
  unfold maxLen at l2 m2
  clear hu hv
  go_enter Tryz.func12, Tryz.ntmps12
  go_wp2_with fail
  go_loopw [5, 6] (fun lv iv wr => ∃ i : Nat, i ≤ 10 ∧ iv = .int .i64 i ∧ CoefsAt w lv i wr) (fun _ iv _ => 10 - (intOf iv).toNat)
  case atStart => exact ⟨0, by omega, rfl, [], World.ownsRow_nil _ _ _ _, CoefOk.nil _, Nat.le_refl _, Below.refl _ _⟩
  case round =>
    obtain ⟨i, hi, rfl, cs, ho, hok, hcl, hb⟩ := hrel
    have HO : Hid (OwnC w.heap.size wr _ cs) := ho
    have HOK : Hid (CoefOk 30 cs) := hok
    have HB : Hid (Below w.heap.size w wr) := hb
    clear ho hok hb
    by_cases h1 : i < zs.length
    · by_cases h2 : i < ss.length
      · by_cases h3 : i < 10
        · obtain ⟨z, hz⟩ : ∃ z, zs[i]? = some z := ⟨_, List.getElem?_eq_getElem h1⟩
          obtain ⟨s, hs⟩ : ∃ s, ss[i]? = some s := ⟨_, List.getElem?_eq_getElem h2⟩
          obtain ⟨b1, o1, c1', he1, hb1, hz1, z0, z1⟩ := HU.out.nth hz
          obtain ⟨b2, o2, c2', he2, hb2, hs1, s1⟩ := HV.out.nth hs
          simp only [Value.slice.injEq, true_and] at he1 he2
          obtain ⟨rfl, rfl⟩ := he1
          obtain ⟨rfl, rfl⟩ := he2
          rw [← HB.out.cell hb1] at hz1
          rw [← HB.out.cell hb2] at hs1
          obtain ⟨k1, k2, k3, k4⟩ := colOf z
          clear hz hs hb1 hb2
          have hi3 : (i : Int) < 10 := by omega
          go_wp2_with fail
          have k5 : (z.tmod 30 + 30).tmod 30 = (z.tmod 30 + 30) % 30 := Int.tmod_eq_emod_of_nonneg (by omega)
          rw [k5] at k3 k4
          clear k5 k1 k2
          generalize (z.tmod 30 + 30) % 30 = c at *
          obtain ⟨p, cap, rfl, n1, n2⟩ := HO.out.reads.slice
          unfold maxLen at n2
          clear hz1 z0 z1
          go_loop [8] (fun kv => ∃ k : Nat, k ≤ cs.length ∧ kv = .int .i64 k ∧ ∀ d ∈ cs.take k, d.1 < c) (fun kv => cs.length - (intOf kv).toNat)
          case atStart => exact ⟨0, Nat.zero_le _, rfl, fun d hd => by simp at hd⟩
          case round =>
            obtain ⟨k, hk, rfl, hbelow⟩ := hrel
            by_cases hlt : k < cs.length
            · obtain ⟨d, hd⟩ : ∃ d, cs[k]? = some d := ⟨_, List.getElem?_eq_getElem hlt⟩
              obtain ⟨g, o, cap', he, -, -, hd0, -, hg⟩ := HO.out.reads.nth hd
              simp only [Value.slice.injEq, true_and] at he
              obtain ⟨rfl, rfl⟩ := he
              have hmem := List.mem_of_getElem? hd
              have d0 := (HOK.out.2 d hmem).1
              have d1 := (HOK.out.2 d hmem).2.1
              have hdk : cs[k] = d := by rw [List.getElem?_eq_getElem hlt] at hd; exact Option.some.inj hd
              have HT : Hid (∀ e ∈ cs.take (k + 1), e = d ∨ e.1 < c) := fun e he => by
                rw [List.take_succ_eq_append_getElem hlt, hdk] at he
                rcases List.mem_append.1 he with he | he
                · exact .inr (hbelow e he)
                · exact .inl (List.mem_singleton.1 he)
              have HD : Hid (∀ e ∈ cs.drop k, d.1 ≤ e.1) := fun e he => by
                rw [List.drop_eq_getElem_cons hlt, hdk] at he
                rcases List.mem_cons.1 he with rfl | he
                · exact Int.le_refl _
                · have h5 := HOK.out.1
                  rw [← List.take_append_drop k cs, List.drop_eq_getElem_cons hlt, hdk] at h5
                  have := (List.pairwise_cons.1 (List.pairwise_append.1 h5).2.1).1 e he
                  omega
              have HBE := Lib.hid hbelow
              clear hd hmem hdk hbelow
              rcases Int.lt_trichotomy d.1 c with hdc | hdc | hdc
              · have e1 : decide (d.1 < c) = true := by simpa using hdc
                go_wp2
                go_round
                case rel => exact ⟨k + 1, by omega, by go_num, fun e he => by
                  rcases HT.out e he with rfl | h
                  · exact hdc
                  · exact h⟩
                case measure => simp [intOf]; omega
              · have e1 : decide (d.1 < c) = false := by simp; omega
                have e2 : (d.1 == c) = true := by simp; omega
                have HR : Hid (CoefsAt w _ (i + 1) wr) := ⟨cs, HO.out, HOK.out, by omega, HB.out⟩
                have HDC := Lib.hid hdc
                clear hdc
                go_wp2
                go_roundw
                case rel => exact ⟨i + 1, by omega, by go_num, HR.out⟩
                case measure => simp [intOf]; omega
              · have e1 : decide (d.1 < c) = false := by simp; omega
                have e2 : (d.1 == c) = false := by simp; omega
                have HK : Hid ((∀ e ∈ cs.take k, e.1 < c) ∧ (∀ e ∈ cs.drop k, c < e.1)) := ⟨HBE.out, fun e he => by have := HD.out e he; omega⟩
                clear HT HD HBE
                go_wp2_with fail
                with_reducible refine (Tryz.rGetA s _ (by unfold maxLen at s1; omega)).mono ?_
                rintro e w3 ⟨hget, hb3⟩
                have HO3 := Lib.hid (HO.out.below hb3)
                have HB3 := Lib.hid (HB.out.trans (hb3.mono HB.out.size))
                obtain ⟨neg, p2, n2, c2, p3, n3, c3, bok, rfl, hbo, hg⟩ := hget.parts
                have HG := Lib.hid hg
                have HBO := Lib.hid hbo
                clear hget hbo hg hb3 HO HB
                go_upto_if 71 with (fail)
                have hb4 : Below w3.heap.size w3 (w3.alloc (.cells #[.bool neg, .slice p2 n2 c2, .slice p3 n3 c3] 35)) := (Below.refl _ _).alloc (Nat.le_refl _) _
                have HO4 := Lib.hid (HO3.out.below hb4)
                have HB4 := Lib.hid (HB3.out.trans (hb4.mono HB3.out.size))
                have HG4 := Lib.hid (fun q hq => (HG.out q hq).below hb4)
                clear HO3 HB3 HG hb4
                go_cut [9] (fun vv wx => ∃ (sv : ByteArray) (q : Rat), vv = .string sv ∧ getQ sv = some q ∧ Below (w3.heap.size + 1) (w3.alloc (.cells #[.bool neg, .slice p2 n2 c2, .slice p3 n3 c3] 35)) wx)
                case first =>
                  rcases hq : getQ s with _ | q
                  · obtain rfl : bok = false := by rw [HBO.out, hq]; rfl
                    clear HBO HG4 hq
                    go_wp2_with fail
                    go_meet
                    exact ⟨_, 0, rfl, getQ_nought, Below.refl _ _⟩
                  · obtain rfl : bok = true := by rw [HBO.out, hq]; rfl
                    have HQ := Lib.hid (HG4.out q hq)
                    have HS := Lib.hid hq
                    clear HBO HG4 hq
                    go_wp2_with fail
                    with_reducible refine (Tryz.rQTextA _ q 500 _ HQ.out (by omega) (by omega)).mono ?_
                    rintro e w5 ⟨rfl, hb5⟩
                    rw [text_own HS.out]
                    have HB5 : Hid (Below (w3.heap.size + 1) (w3.alloc (.cells #[.bool neg, .slice p2 n2 c2, .slice p3 n3 c3] 35)) w5) := Lib.hid (by simpa using hb5)
                    clear hb5
                    go_wp2_with fail
                    go_meet
                    exact ⟨s, q, rfl, HS.out, HB5.out⟩
                case rest =>
                  obtain ⟨sv, q, rfl, hq, hb5⟩ := hcut
                  rename World => w5
                  have hb5' : Below (w3.alloc (.cells #[.bool neg, .slice p2 n2 c2, .slice p3 n3 c3] 35)).heap.size (w3.alloc (.cells #[.bool neg, .slice p2 n2 c2, .slice p3 n3 c3] 35)) w5 := by simpa using hb5
                  have HO := Lib.hid (HO4.out.below hb5')
                  have HB := Lib.hid (HB4.out.trans (hb5'.mono HB4.out.size))
                  have HQ := Lib.hid hq
                  clear hb5 hb5' HO4 HB4 HG4 hq HBO
                  have hk0 : (0 : Int) ≤ (k : Int) := by omega
                  obtain ⟨v1, hv1⟩ : ∃ v, sliced (some ⟨g, o, none⟩) 0 k cap 2 = v := ⟨_, rfl⟩
                  obtain ⟨v2, hv2⟩ : ∃ v, sliced (some ⟨g, o, none⟩) k cs.length cap 2 = v := ⟨_, rfl⟩
                  have hs1 : ∀ W, (Instr.slice 25 (.slice (some ⟨g, o, none⟩) cs.length cap) none (some (.int .i64 k)) none).run Tryz.prog W = .ok v1 W := fun W => by
                    rw [← hv1]; exact Tryz.cutTo (some ⟨g, o, none⟩) cs.length cap k hk n1 W
                  have hs2 : ∀ W, (Instr.slice 25 (.slice (some ⟨g, o, none⟩) cs.length cap) (some (.int .i64 k)) none none).run Tryz.prog W = .ok v2 W := fun W => by
                    rw [← hv2]; exact Tryz.cutFrom (some ⟨g, o, none⟩) cs.length cap k hk n1 (by omega) W
                  have HR1 : Hid (ReadsC w5 w5.heap.size v1 (cs.take k)) := by
                    have := HO.out.reads.cut 0 k (by omega) hk
                    rw [hv1, List.drop_zero] at this
                    exact this
                  have HR2 : Hid (ReadsC w5 w5.heap.size v2 (cs.drop k)) := by
                    have := HO.out.reads.cut k cs.length hk (Nat.le_refl _)
                    rw [hv2, List.take_length] at this
                    exact this
                  clear hv1 hv2 HO
                  obtain ⟨L, hL⟩ : ∃ L, w5.heap.size = L := ⟨_, rfl⟩
                  rw [hL] at HR1 HR2
                  have HL : Hid (L ≤ w5.heap.size ∧ w.heap.size ≤ L) := ⟨by omega, by have := HB.out.size; omega⟩
                  clear hL
                  go_wp2_with fail
                  refine wp_region_held_drew (S := fun w' => True) (by kernel_rfl) trivial (fun hHeld => ?_)
                  have HR1d := Lib.hid (HR1.out.below (Below.refl _ _).drew)
                  have HR2d := Lib.hid (HR2.out.below (Below.refl _ _).drew)
                  have HBd := Lib.hid HB.out.drew
                  have HLd : Hid (L ≤ w5.drew.heap.size ∧ w.heap.size ≤ L) := HL.out
                  clear hHeld HR1 HR2 HB HL
                  generalize w5.drew = w6 at *
                  have hHeld : (fun w' : World => True) w6 := trivial
                  (refine takeYes (i := 0) ?_ (by (simp only [List.getElem?_toArray, List.getElem?_cons_zero]) <;> rfl) (by kernel_rfl) (by kernel_rfl) (by kernel_rfl) (by exact fun _ _ _ h => h) (by rfl) (by assumption) ?_ ?_)
                  rotate_left
                  · (intro w hSw; (try dsimp only at hSw); go_simp <;> with_reducible rfl)
                  (try simp only [Act.put, List.setIfInBounds_toArray, List.set_cons_zero, List.set_cons_succ])
                  (refine takeYes (i := 1) ?_ (by (simp only [List.getElem?_toArray, List.getElem?_cons_succ, List.getElem?_cons_zero]) <;> rfl) (by kernel_rfl) (by kernel_rfl) (by kernel_rfl) (by exact fun _ _ _ h => h) (by rfl) (by assumption) ?_ ?_)
                  rotate_left
                  · (intro w hSw; (try dsimp only at hSw); go_simp <;> with_reducible rfl)
                  (try simp only [Act.put, List.setIfInBounds_toArray, List.set_cons_zero, List.set_cons_succ])
                  (refine takeYes (i := 2) ?_ (by (simp only [List.getElem?_toArray, List.getElem?_cons_succ, List.getElem?_cons_zero]) <;> rfl) (by kernel_rfl) (by kernel_rfl) (by kernel_rfl) (by exact fun _ _ _ h => h) (by rfl) (by assumption) ?_ ?_)
                  rotate_left
                  · (intro w hSw; (try dsimp only at hSw); go_simp <;> with_reducible rfl)
                  (try simp only [Act.put, List.setIfInBounds_toArray, List.set_cons_zero, List.set_cons_succ])
                  (refine takeYes (i := 4) ?_ (by (simp only [List.getElem?_toArray, List.getElem?_cons_succ, List.getElem?_cons_zero]) <;> rfl) (by kernel_rfl) (by kernel_rfl) (by kernel_rfl) (by exact fun _ _ _ h => h) (by rfl) (by assumption) ?_ ?_)
                  rotate_left
                  · (intro w hSw; (try dsimp only at hSw); go_simp <;> with_reducible rfl)
                  (try simp only [Act.put, List.setIfInBounds_toArray, List.set_cons_zero, List.set_cons_succ])
                  (refine takeYes (i := 5) ?_ (by (simp only [List.getElem?_toArray, List.getElem?_cons_succ, List.getElem?_cons_zero]) <;> rfl) (by kernel_rfl) (by kernel_rfl) (by kernel_rfl) (by exact fun _ _ _ h => h) (by rfl) (by assumption) ?_ ?_)
                  rotate_left
                  · (intro w hSw; (try dsimp only at hSw); go_simp <;> with_reducible rfl)
                  (try simp only [Act.put, List.setIfInBounds_toArray, List.set_cons_zero, List.set_cons_succ])
                  (refine takeYes (i := 6) ?_ (by (simp only [List.getElem?_toArray, List.getElem?_cons_succ, List.getElem?_cons_zero]) <;> rfl) (by kernel_rfl) (by kernel_rfl) (by kernel_rfl) (by exact fun _ _ _ h => h) (by rfl) (by assumption) ?_ ?_)
                  rotate_left
                  · (intro w hSw; (try dsimp only at hSw); go_simp <;> with_reducible rfl)
                  (try simp only [Act.put, List.setIfInBounds_toArray, List.set_cons_zero, List.set_cons_succ])
                  (refine takeYes (i := 9) ?_ (by (simp only [List.getElem?_toArray, List.getElem?_cons_succ, List.getElem?_cons_zero]) <;> rfl) (by kernel_rfl) (by kernel_rfl) (by kernel_rfl) (by exact fun _ _ _ h => h) (by rfl) (by assumption) ?_ ?_)
                  rotate_left
                  · (intro w hSw; (try dsimp only at hSw); go_simp <;> with_reducible rfl)
                  (try simp only [Act.put, List.setIfInBounds_toArray, List.set_cons_zero, List.set_cons_succ])
                  (refine takeYes (i := 10) ?_ (by (simp only [List.getElem?_toArray, List.getElem?_cons_succ, List.getElem?_cons_zero]) <;> rfl) (by kernel_rfl) (by kernel_rfl) (by kernel_rfl) (by exact fun _ _ _ h => h) (by rfl) (by assumption) ?_ ?_)
                  rotate_left
                  · (intro w hSw; (try dsimp only at hSw); go_simp <;> with_reducible rfl)
                  (try simp only [Act.put, List.setIfInBounds_toArray, List.set_cons_zero, List.set_cons_succ])
                  (refine takeYes (i := 11) ?_ (by (simp only [List.getElem?_toArray, List.getElem?_cons_succ, List.getElem?_cons_zero]) <;> rfl) (by kernel_rfl) (by kernel_rfl) (by kernel_rfl) (by exact fun _ _ _ h => h) (by rfl) (by assumption) ?_ ?_)
                  rotate_left
                  · (intro w hSw; (try dsimp only at hSw); go_simp <;> with_reducible rfl)
                  (try simp only [Act.put, List.setIfInBounds_toArray, List.set_cons_zero, List.set_cons_succ])
                  clear hs1 hs2 hHeld
                  refine wpAnyH_ready (rs := [3, 7]) (by kernel_rfl) (by simp) ?_
                  refine AllReadyH.cons (by (simp only [List.getElem?_toArray, List.getElem?_cons_succ, List.getElem?_cons_zero]) <;> rfl) (fun KX hK => ?_) (AllReadyH.cons (by (simp only [List.getElem?_toArray, List.getElem?_cons_succ, List.getElem?_cons_zero]) <;> rfl) (fun KX hK => ?_) AllReadyH.nil)
                  · skip
                    obtain ⟨v3, w7, hrun, ho, hg⟩ := Tryz.appendC 25 (show OwnC L w6 (.slice none 0 0) [] from World.ownsRow_nil _ _ _ _) HR1d.out (by simp; try omega) HLd.out.1
                    rw [if_pos (by rfl)]
                    refine wp_append (.const (.slice none 0 0)) (.tmp 76) 25 rfl rfl rfl hrun ?_
                    (try simp only [Act.put, List.setIfInBounds_toArray, List.set_cons_zero, List.set_cons_succ])
                    clear HR1d
                    have HR2d_ := Lib.hid (HR2d.out.grown hg (fun g hg => by simp [Value.ownBlock] at hg))
                    have HBd_ := Lib.hid (HBd.out.grown hg HBd.out.size (fun g hg => by simp [Value.ownBlock] at hg))
                    have HLd_ : Hid (L ≤ _ ∧ w.heap.size ≤ L) := ⟨Nat.le_trans HLd.out.1 hg.size, HLd.out.2⟩
                    have HNEW := Lib.hid ho
                    clear ho hrun HBd HLd HR2d
                    have HR2d := HR2d_
                    clear HR2d_
                    have HBd := HBd_
                    clear HBd_
                    have HLd := HLd_
                    clear HLd_
                    clear hg
                    have HA := HNEW
                    clear HNEW
                    refine hK.out _ _ trivial (fun hHeld => ?_)
                    clear hK KX hHeld
                    (try simp only [Act.put, List.setIfInBounds_toArray, List.set_cons_zero, List.set_cons_succ])
                    refine wpAnyH_ready (rs := [7]) (by kernel_rfl) (by simp) ?_
                    refine AllReadyH.cons (by (simp only [List.getElem?_toArray, List.getElem?_cons_succ, List.getElem?_cons_zero]) <;> rfl) (fun KX hK => ?_) AllReadyH.nil
                    go_simp
                    have hb : Below w7.heap.size w7 (w7.alloc (.cells #[.int .i64 c, .string sv] 46)) := (Below.refl _ _).alloc (Nat.le_refl _) _
                    have HONE := Lib.hid (readsC_one w7 c sv)
                    have HR2d_ := Lib.hid (HR2d.out.below hb)
                    have HA_ := Lib.hid (HA.out.below hb)
                    have HBd_ := Lib.hid (HBd.out.trans (hb.mono HBd.out.size))
                    have HLd_ : Hid (L ≤ (w7.alloc (.cells #[.int .i64 c, .string sv] 46)).heap.size ∧ w.heap.size ≤ L) := ⟨Nat.le_trans HLd.out.1 hb.size, HLd.out.2⟩
                    clear hb HBd HLd HR2d HA
                    have HR2d := HR2d_
                    clear HR2d_
                    have HA := HA_
                    clear HA_
                    have HBd := HBd_
                    clear HBd_
                    have HLd := HLd_
                    clear HLd_
                    generalize w7.alloc (.cells #[.int .i64 c, .string sv] 46) = w8 at *
                    generalize w7.heap.size = gone at *
                    refine hK.out _ _ trivial (fun hHeld => ?_)
                    clear hK KX hHeld
                    (try simp only [Act.put, List.setIfInBounds_toArray, List.set_cons_zero, List.set_cons_succ])
                    refine wpAnyH_ready (rs := [8]) (by kernel_rfl) (by simp) ?_
                    refine AllReadyH.cons (by (simp only [List.getElem?_toArray, List.getElem?_cons_succ, List.getElem?_cons_zero]) <;> rfl) (fun KX hK => ?_) AllReadyH.nil
                    obtain ⟨v4, w9, hrun, ho, hg⟩ := Tryz.appendC 25 HA.out HONE.out (by simp; try omega) HLd.out.1
                    rw [if_pos (by rfl)]
                    refine wp_append (.tmp 77) (.tmp 81) 25 rfl rfl rfl hrun ?_
                    (try simp only [Act.put, List.setIfInBounds_toArray, List.set_cons_zero, List.set_cons_succ])
                    clear HONE
                    have HR2d_ := Lib.hid (HR2d.out.grown hg (fun g hg => (World.ownsRow.lt HA.out g hg).1))
                    have HBd_ := Lib.hid (HBd.out.grown hg HBd.out.size (fun g hg => Nat.le_trans HLd.out.2 ((World.ownsRow.lt HA.out g hg).1)))
                    have HLd_ : Hid (L ≤ _ ∧ w.heap.size ≤ L) := ⟨Nat.le_trans HLd.out.1 hg.size, HLd.out.2⟩
                    have HNEW := Lib.hid ho
                    clear ho hrun HBd HLd HR2d HA
                    have HR2d := HR2d_
                    clear HR2d_
                    have HBd := HBd_
                    clear HBd_
                    have HLd := HLd_
                    clear HLd_
                    clear hg
                    have HA := HNEW
                    clear HNEW
                    refine hK.out _ _ trivial (fun hHeld => ?_)
                    clear hK KX hHeld
                    (try simp only [Act.put, List.setIfInBounds_toArray, List.set_cons_zero, List.set_cons_succ])
                    refine wpAnyH_ready (rs := [12]) (by kernel_rfl) (by simp) ?_
                    refine AllReadyH.cons (by (simp only [List.getElem?_toArray, List.getElem?_cons_succ, List.getElem?_cons_zero]) <;> rfl) (fun KX hK => ?_) AllReadyH.nil
                    obtain ⟨v5, w10, hrun, ho, hg⟩ := Tryz.appendC 25 HA.out HR2d.out (by simp; try omega) HLd.out.1
                    rw [if_pos (by rfl)]
                    refine wp_append (.tmp 82) (.tmp 85) 25 rfl rfl rfl hrun ?_
                    (try simp only [Act.put, List.setIfInBounds_toArray, List.set_cons_zero, List.set_cons_succ])
                    clear HR2d
                    have HBd_ := Lib.hid (HBd.out.grown hg HBd.out.size (fun g hg => Nat.le_trans HLd.out.2 ((World.ownsRow.lt HA.out g hg).1)))
                    have HLd_ : Hid (L ≤ _ ∧ w.heap.size ≤ L) := ⟨Nat.le_trans HLd.out.1 hg.size, HLd.out.2⟩
                    have HNEW := Lib.hid ho
                    clear ho hrun HBd HLd  HA
                    have HBd := HBd_
                    clear HBd_
                    have HLd := HLd_
                    clear HLd_
                    clear hg
                    have HA := HNEW
                    clear HNEW
                    refine hK.out _ _ trivial (fun hHeld => ?_)
                    clear hK KX hHeld
                    (try simp only [Act.put, List.setIfInBounds_toArray, List.set_cons_zero, List.set_cons_succ])
                    have hHeld : (fun w' : World => True) w10 := trivial
                    (refine takeYes (i := 13) ?_ (by (simp only [List.getElem?_toArray, List.getElem?_cons_succ, List.getElem?_cons_zero]) <;> rfl) (by kernel_rfl) (by kernel_rfl) (by kernel_rfl) (by exact fun _ _ _ h => h) (by rfl) (by assumption) ?_ ?_)
                    rotate_left
                    · (intro w hSw; (try dsimp only at hSw); go_simp <;> with_reducible rfl)
                    (try simp only [Act.put, List.setIfInBounds_toArray, List.set_cons_zero, List.set_cons_succ])
                    refine wpAnyH_done (by kernel_rfl) ?_ _
                    have HR : Hid (CoefsAt w v5 (i + 1) w10) := ⟨_, HA.out.mono HLd.out.2, HOK.out.put k c sv q k3 k4 HQ.out HK.out.1 HK.out.2, by simp; omega, HBd.out⟩
                    clear HA HLd HOK HK HBd hHeld
                    go_wp2
                    go_roundw
                    case rel => exact ⟨i + 1, by omega, by go_num, HR.out⟩
                    case measure => simp [intOf]; omega
                  · skip
                    go_simp
                    have hb : Below w6.heap.size w6 (w6.alloc (.cells #[.int .i64 c, .string sv] 46)) := (Below.refl _ _).alloc (Nat.le_refl _) _
                    have HONE := Lib.hid (readsC_one w6 c sv)
                    have HR1d_ := Lib.hid (HR1d.out.below hb)
                    have HR2d_ := Lib.hid (HR2d.out.below hb)
                    have HBd_ := Lib.hid (HBd.out.trans (hb.mono HBd.out.size))
                    have HLd_ : Hid (L ≤ (w6.alloc (.cells #[.int .i64 c, .string sv] 46)).heap.size ∧ w.heap.size ≤ L) := ⟨Nat.le_trans HLd.out.1 hb.size, HLd.out.2⟩
                    clear hb HBd HLd HR1d HR2d
                    have HR1d := HR1d_
                    clear HR1d_
                    have HR2d := HR2d_
                    clear HR2d_
                    have HBd := HBd_
                    clear HBd_
                    have HLd := HLd_
                    clear HLd_
                    generalize w6.alloc (.cells #[.int .i64 c, .string sv] 46) = w7 at *
                    generalize w6.heap.size = gone at *
                    refine hK.out _ _ trivial (fun hHeld => ?_)
                    clear hK KX hHeld
                    (try simp only [Act.put, List.setIfInBounds_toArray, List.set_cons_zero, List.set_cons_succ])
                    refine wpAnyH_ready (rs := [3]) (by kernel_rfl) (by simp) ?_
                    refine AllReadyH.cons (by (simp only [List.getElem?_toArray, List.getElem?_cons_succ, List.getElem?_cons_zero]) <;> rfl) (fun KX hK => ?_) AllReadyH.nil
                    obtain ⟨v3, w8, hrun, ho, hg⟩ := Tryz.appendC 25 (show OwnC L w7 (.slice none 0 0) [] from World.ownsRow_nil _ _ _ _) HR1d.out (by simp; try omega) HLd.out.1
                    rw [if_pos (by rfl)]
                    refine wp_append (.const (.slice none 0 0)) (.tmp 76) 25 rfl rfl rfl hrun ?_
                    (try simp only [Act.put, List.setIfInBounds_toArray, List.set_cons_zero, List.set_cons_succ])
                    clear HR1d
                    have HR2d_ := Lib.hid (HR2d.out.grown hg (fun g hg => by simp [Value.ownBlock] at hg))
                    have HONE_ := Lib.hid (HONE.out.grown hg (fun g hg => by simp [Value.ownBlock] at hg))
                    have HBd_ := Lib.hid (HBd.out.grown hg HBd.out.size (fun g hg => by simp [Value.ownBlock] at hg))
                    have HLd_ : Hid (L ≤ _ ∧ w.heap.size ≤ L) := ⟨Nat.le_trans HLd.out.1 hg.size, HLd.out.2⟩
                    have HNEW := Lib.hid ho
                    clear ho hrun HBd HLd HR2d HONE
                    have HR2d := HR2d_
                    clear HR2d_
                    have HONE := HONE_
                    clear HONE_
                    have HBd := HBd_
                    clear HBd_
                    have HLd := HLd_
                    clear HLd_
                    clear hg
                    have HA := HNEW
                    clear HNEW
                    refine hK.out _ _ trivial (fun hHeld => ?_)
                    clear hK KX hHeld
                    (try simp only [Act.put, List.setIfInBounds_toArray, List.set_cons_zero, List.set_cons_succ])
                    refine wpAnyH_ready (rs := [8]) (by kernel_rfl) (by simp) ?_
                    refine AllReadyH.cons (by (simp only [List.getElem?_toArray, List.getElem?_cons_succ, List.getElem?_cons_zero]) <;> rfl) (fun KX hK => ?_) AllReadyH.nil
                    obtain ⟨v4, w9, hrun, ho, hg⟩ := Tryz.appendC 25 HA.out HONE.out (by simp; try omega) HLd.out.1
                    rw [if_pos (by rfl)]
                    refine wp_append (.tmp 77) (.tmp 81) 25 rfl rfl rfl hrun ?_
                    (try simp only [Act.put, List.setIfInBounds_toArray, List.set_cons_zero, List.set_cons_succ])
                    clear HONE
                    have HR2d_ := Lib.hid (HR2d.out.grown hg (fun g hg => (World.ownsRow.lt HA.out g hg).1))
                    have HBd_ := Lib.hid (HBd.out.grown hg HBd.out.size (fun g hg => Nat.le_trans HLd.out.2 ((World.ownsRow.lt HA.out g hg).1)))
                    have HLd_ : Hid (L ≤ _ ∧ w.heap.size ≤ L) := ⟨Nat.le_trans HLd.out.1 hg.size, HLd.out.2⟩
                    have HNEW := Lib.hid ho
                    clear ho hrun HBd HLd HR2d HA
                    have HR2d := HR2d_
                    clear HR2d_
                    have HBd := HBd_
                    clear HBd_
                    have HLd := HLd_
                    clear HLd_
                    clear hg
                    have HA := HNEW
                    clear HNEW
                    refine hK.out _ _ trivial (fun hHeld => ?_)
                    clear hK KX hHeld
                    (try simp only [Act.put, List.setIfInBounds_toArray, List.set_cons_zero, List.set_cons_succ])
                    refine wpAnyH_ready (rs := [12]) (by kernel_rfl) (by simp) ?_
                    refine AllReadyH.cons (by (simp only [List.getElem?_toArray, List.getElem?_cons_succ, List.getElem?_cons_zero]) <;> rfl) (fun KX hK => ?_) AllReadyH.nil
                    obtain ⟨v5, w10, hrun, ho, hg⟩ := Tryz.appendC 25 HA.out HR2d.out (by simp; try omega) HLd.out.1
                    rw [if_pos (by rfl)]
                    refine wp_append (.tmp 82) (.tmp 85) 25 rfl rfl rfl hrun ?_
                    (try simp only [Act.put, List.setIfInBounds_toArray, List.set_cons_zero, List.set_cons_succ])
                    clear HR2d
                    have HBd_ := Lib.hid (HBd.out.grown hg HBd.out.size (fun g hg => Nat.le_trans HLd.out.2 ((World.ownsRow.lt HA.out g hg).1)))
                    have HLd_ : Hid (L ≤ _ ∧ w.heap.size ≤ L) := ⟨Nat.le_trans HLd.out.1 hg.size, HLd.out.2⟩
                    have HNEW := Lib.hid ho
                    clear ho hrun HBd HLd  HA
                    have HBd := HBd_
                    clear HBd_
                    have HLd := HLd_
                    clear HLd_
                    clear hg
                    have HA := HNEW
                    clear HNEW
                    refine hK.out _ _ trivial (fun hHeld => ?_)
                    clear hK KX hHeld
                    (try simp only [Act.put, List.setIfInBounds_toArray, List.set_cons_zero, List.set_cons_succ])
                    have hHeld : (fun w' : World => True) w10 := trivial
                    (refine takeYes (i := 13) ?_ (by (simp only [List.getElem?_toArray, List.getElem?_cons_succ, List.getElem?_cons_zero]) <;> rfl) (by kernel_rfl) (by kernel_rfl) (by kernel_rfl) (by exact fun _ _ _ h => h) (by rfl) (by assumption) ?_ ?_)
                    rotate_left
                    · (intro w hSw; (try dsimp only at hSw); go_simp <;> with_reducible rfl)
                    (try simp only [Act.put, List.setIfInBounds_toArray, List.set_cons_zero, List.set_cons_succ])
                    refine wpAnyH_done (by kernel_rfl) ?_ _
                    have HR : Hid (CoefsAt w v5 (i + 1) w10) := ⟨_, HA.out.mono HLd.out.2, HOK.out.put k c sv q k3 k4 HQ.out HK.out.1 HK.out.2, by simp; omega, HBd.out⟩
                    clear HA HLd HOK HK HBd hHeld
                    go_wp2
                    go_roundw
                    case rel => exact ⟨i + 1, by omega, by go_num, HR.out⟩
                    case measure => simp [intOf]; omega
            · have e1 : decide (k < cs.length) = false := by simpa using hlt
              have HK : Hid ((∀ e ∈ cs.take k, e.1 < c) ∧ (∀ e ∈ cs.drop k, c < e.1)) := ⟨hbelow, fun e he => by rw [List.drop_eq_nil_of_le (by omega)] at he; simp at he⟩
              clear hbelow
              go_wp2_with fail
              with_reducible refine (Tryz.rGetA s _ (by unfold maxLen at s1; omega)).mono ?_
              rintro e w3 ⟨hget, hb3⟩
              have HO3 := Lib.hid (HO.out.below hb3)
              have HB3 := Lib.hid (HB.out.trans (hb3.mono HB.out.size))
              obtain ⟨neg, p2, n2, c2, p3, n3, c3, bok, rfl, hbo, hg⟩ := hget.parts
              have HG := Lib.hid hg
              have HBO := Lib.hid hbo
              clear hget hbo hg hb3 HO HB
              go_upto_if 71 with (fail)
              have hb4 : Below w3.heap.size w3 (w3.alloc (.cells #[.bool neg, .slice p2 n2 c2, .slice p3 n3 c3] 35)) := (Below.refl _ _).alloc (Nat.le_refl _) _
              have HO4 := Lib.hid (HO3.out.below hb4)
              have HB4 := Lib.hid (HB3.out.trans (hb4.mono HB3.out.size))
              have HG4 := Lib.hid (fun q hq => (HG.out q hq).below hb4)
              clear HO3 HB3 HG hb4
              go_cut [9] (fun vv wx => ∃ (sv : ByteArray) (q : Rat), vv = .string sv ∧ getQ sv = some q ∧ Below (w3.heap.size + 1) (w3.alloc (.cells #[.bool neg, .slice p2 n2 c2, .slice p3 n3 c3] 35)) wx)
              case first =>
                rcases hq : getQ s with _ | q
                · obtain rfl : bok = false := by rw [HBO.out, hq]; rfl
                  clear HBO HG4 hq
                  go_wp2_with fail
                  go_meet
                  exact ⟨_, 0, rfl, getQ_nought, Below.refl _ _⟩
                · obtain rfl : bok = true := by rw [HBO.out, hq]; rfl
                  have HQ := Lib.hid (HG4.out q hq)
                  have HS := Lib.hid hq
                  clear HBO HG4 hq
                  go_wp2_with fail
                  with_reducible refine (Tryz.rQTextA _ q 500 _ HQ.out (by omega) (by omega)).mono ?_
                  rintro e w5 ⟨rfl, hb5⟩
                  rw [text_own HS.out]
                  have HB5 : Hid (Below (w3.heap.size + 1) (w3.alloc (.cells #[.bool neg, .slice p2 n2 c2, .slice p3 n3 c3] 35)) w5) := Lib.hid (by simpa using hb5)
                  clear hb5
                  go_wp2_with fail
                  go_meet
                  exact ⟨s, q, rfl, HS.out, HB5.out⟩
              case rest =>
                obtain ⟨sv, q, rfl, hq, hb5⟩ := hcut
                rename World => w5
                have hb5' : Below (w3.alloc (.cells #[.bool neg, .slice p2 n2 c2, .slice p3 n3 c3] 35)).heap.size (w3.alloc (.cells #[.bool neg, .slice p2 n2 c2, .slice p3 n3 c3] 35)) w5 := by simpa using hb5
                have HO := Lib.hid (HO4.out.below hb5')
                have HB := Lib.hid (HB4.out.trans (hb5'.mono HB4.out.size))
                have HQ := Lib.hid hq
                clear hb5 hb5' HO4 HB4 HG4 hq HBO
                have hk0 : (0 : Int) ≤ (k : Int) := by omega
                obtain ⟨v1, hv1⟩ : ∃ v, sliced p 0 k cap 2 = v := ⟨_, rfl⟩
                obtain ⟨v2, hv2⟩ : ∃ v, sliced p k cs.length cap 2 = v := ⟨_, rfl⟩
                have hs1 : ∀ W, (Instr.slice 25 (.slice p cs.length cap) none (some (.int .i64 k)) none).run Tryz.prog W = .ok v1 W := fun W => by
                  rw [← hv1]; exact Tryz.cutTo p cs.length cap k hk n1 W
                have hs2 : ∀ W, (Instr.slice 25 (.slice p cs.length cap) (some (.int .i64 k)) none none).run Tryz.prog W = .ok v2 W := fun W => by
                  rw [← hv2]; exact Tryz.cutFrom p cs.length cap k hk n1 (by omega) W
                have HR1 : Hid (ReadsC w5 w5.heap.size v1 (cs.take k)) := by
                  have := HO.out.reads.cut 0 k (by omega) hk
                  rw [hv1, List.drop_zero] at this
                  exact this
                have HR2 : Hid (ReadsC w5 w5.heap.size v2 (cs.drop k)) := by
                  have := HO.out.reads.cut k cs.length hk (Nat.le_refl _)
                  rw [hv2, List.take_length] at this
                  exact this
                clear hv1 hv2 HO
                obtain ⟨L, hL⟩ : ∃ L, w5.heap.size = L := ⟨_, rfl⟩
                rw [hL] at HR1 HR2
                have HL : Hid (L ≤ w5.heap.size ∧ w.heap.size ≤ L) := ⟨by omega, by have := HB.out.size; omega⟩
                clear hL
                go_wp2_with fail
                refine wp_region_held_drew (S := fun w' => True) (by kernel_rfl) trivial (fun hHeld => ?_)
                have HR1d := Lib.hid (HR1.out.below (Below.refl _ _).drew)
                have HR2d := Lib.hid (HR2.out.below (Below.refl _ _).drew)
                have HBd := Lib.hid HB.out.drew
                have HLd : Hid (L ≤ w5.drew.heap.size ∧ w.heap.size ≤ L) := HL.out
                clear hHeld HR1 HR2 HB HL
                generalize w5.drew = w6 at *
                have hHeld : (fun w' : World => True) w6 := trivial
                (refine takeYes (i := 0) ?_ (by (simp only [List.getElem?_toArray, List.getElem?_cons_zero]) <;> rfl) (by kernel_rfl) (by kernel_rfl) (by kernel_rfl) (by exact fun _ _ _ h => h) (by rfl) (by assumption) ?_ ?_)
                rotate_left
                · (intro w hSw; (try dsimp only at hSw); go_simp <;> with_reducible rfl)
                (try simp only [Act.put, List.setIfInBounds_toArray, List.set_cons_zero, List.set_cons_succ])
                (refine takeYes (i := 1) ?_ (by (simp only [List.getElem?_toArray, List.getElem?_cons_succ, List.getElem?_cons_zero]) <;> rfl) (by kernel_rfl) (by kernel_rfl) (by kernel_rfl) (by exact fun _ _ _ h => h) (by rfl) (by assumption) ?_ ?_)
                rotate_left
                · (intro w hSw; (try dsimp only at hSw); go_simp <;> with_reducible rfl)
                (try simp only [Act.put, List.setIfInBounds_toArray, List.set_cons_zero, List.set_cons_succ])
                (refine takeYes (i := 2) ?_ (by (simp only [List.getElem?_toArray, List.getElem?_cons_succ, List.getElem?_cons_zero]) <;> rfl) (by kernel_rfl) (by kernel_rfl) (by kernel_rfl) (by exact fun _ _ _ h => h) (by rfl) (by assumption) ?_ ?_)
                rotate_left
                · (intro w hSw; (try dsimp only at hSw); go_simp <;> with_reducible rfl)
                (try simp only [Act.put, List.setIfInBounds_toArray, List.set_cons_zero, List.set_cons_succ])
                (refine takeYes (i := 4) ?_ (by (simp only [List.getElem?_toArray, List.getElem?_cons_succ, List.getElem?_cons_zero]) <;> rfl) (by kernel_rfl) (by kernel_rfl) (by kernel_rfl) (by exact fun _ _ _ h => h) (by rfl) (by assumption) ?_ ?_)
                rotate_left
                · (intro w hSw; (try dsimp only at hSw); go_simp <;> with_reducible rfl)
                (try simp only [Act.put, List.setIfInBounds_toArray, List.set_cons_zero, List.set_cons_succ])
                (refine takeYes (i := 5) ?_ (by (simp only [List.getElem?_toArray, List.getElem?_cons_succ, List.getElem?_cons_zero]) <;> rfl) (by kernel_rfl) (by kernel_rfl) (by kernel_rfl) (by exact fun _ _ _ h => h) (by rfl) (by assumption) ?_ ?_)
                rotate_left
                · (intro w hSw; (try dsimp only at hSw); go_simp <;> with_reducible rfl)
                (try simp only [Act.put, List.setIfInBounds_toArray, List.set_cons_zero, List.set_cons_succ])
                (refine takeYes (i := 6) ?_ (by (simp only [List.getElem?_toArray, List.getElem?_cons_succ, List.getElem?_cons_zero]) <;> rfl) (by kernel_rfl) (by kernel_rfl) (by kernel_rfl) (by exact fun _ _ _ h => h) (by rfl) (by assumption) ?_ ?_)
                rotate_left
                · (intro w hSw; (try dsimp only at hSw); go_simp <;> with_reducible rfl)
                (try simp only [Act.put, List.setIfInBounds_toArray, List.set_cons_zero, List.set_cons_succ])
                (refine takeYes (i := 9) ?_ (by (simp only [List.getElem?_toArray, List.getElem?_cons_succ, List.getElem?_cons_zero]) <;> rfl) (by kernel_rfl) (by kernel_rfl) (by kernel_rfl) (by exact fun _ _ _ h => h) (by rfl) (by assumption) ?_ ?_)
                rotate_left
                · (intro w hSw; (try dsimp only at hSw); go_simp <;> with_reducible rfl)
                (try simp only [Act.put, List.setIfInBounds_toArray, List.set_cons_zero, List.set_cons_succ])
                (refine takeYes (i := 10) ?_ (by (simp only [List.getElem?_toArray, List.getElem?_cons_succ, List.getElem?_cons_zero]) <;> rfl) (by kernel_rfl) (by kernel_rfl) (by kernel_rfl) (by exact fun _ _ _ h => h) (by rfl) (by assumption) ?_ ?_)
                rotate_left
                · (intro w hSw; (try dsimp only at hSw); go_simp <;> with_reducible rfl)
                (try simp only [Act.put, List.setIfInBounds_toArray, List.set_cons_zero, List.set_cons_succ])
                (refine takeYes (i := 11) ?_ (by (simp only [List.getElem?_toArray, List.getElem?_cons_succ, List.getElem?_cons_zero]) <;> rfl) (by kernel_rfl) (by kernel_rfl) (by kernel_rfl) (by exact fun _ _ _ h => h) (by rfl) (by assumption) ?_ ?_)
                rotate_left
                · (intro w hSw; (try dsimp only at hSw); go_simp <;> with_reducible rfl)
                (try simp only [Act.put, List.setIfInBounds_toArray, List.set_cons_zero, List.set_cons_succ])
                clear hs1 hs2 hHeld
                refine wpAnyH_ready (rs := [3, 7]) (by kernel_rfl) (by simp) ?_
                refine AllReadyH.cons (by (simp only [List.getElem?_toArray, List.getElem?_cons_succ, List.getElem?_cons_zero]) <;> rfl) (fun KX hK => ?_) (AllReadyH.cons (by (simp only [List.getElem?_toArray, List.getElem?_cons_succ, List.getElem?_cons_zero]) <;> rfl) (fun KX hK => ?_) AllReadyH.nil)
                · skip
                  obtain ⟨v3, w7, hrun, ho, hg⟩ := Tryz.appendC 25 (show OwnC L w6 (.slice none 0 0) [] from World.ownsRow_nil _ _ _ _) HR1d.out (by simp; try omega) HLd.out.1
                  rw [if_pos (by rfl)]
                  refine wp_append (.const (.slice none 0 0)) (.tmp 76) 25 rfl rfl rfl hrun ?_
                  (try simp only [Act.put, List.setIfInBounds_toArray, List.set_cons_zero, List.set_cons_succ])
                  clear HR1d
                  have HR2d_ := Lib.hid (HR2d.out.grown hg (fun g hg => by simp [Value.ownBlock] at hg))
                  have HBd_ := Lib.hid (HBd.out.grown hg HBd.out.size (fun g hg => by simp [Value.ownBlock] at hg))
                  have HLd_ : Hid (L ≤ _ ∧ w.heap.size ≤ L) := ⟨Nat.le_trans HLd.out.1 hg.size, HLd.out.2⟩
                  have HNEW := Lib.hid ho
                  clear ho hrun HBd HLd HR2d
                  have HR2d := HR2d_
                  clear HR2d_
                  have HBd := HBd_
                  clear HBd_
                  have HLd := HLd_
                  clear HLd_
                  clear hg
                  have HA := HNEW
                  clear HNEW
                  refine hK.out _ _ trivial (fun hHeld => ?_)
                  clear hK KX hHeld
                  (try simp only [Act.put, List.setIfInBounds_toArray, List.set_cons_zero, List.set_cons_succ])
                  refine wpAnyH_ready (rs := [7]) (by kernel_rfl) (by simp) ?_
                  refine AllReadyH.cons (by (simp only [List.getElem?_toArray, List.getElem?_cons_succ, List.getElem?_cons_zero]) <;> rfl) (fun KX hK => ?_) AllReadyH.nil
                  go_simp
                  have hb : Below w7.heap.size w7 (w7.alloc (.cells #[.int .i64 c, .string sv] 46)) := (Below.refl _ _).alloc (Nat.le_refl _) _
                  have HONE := Lib.hid (readsC_one w7 c sv)
                  have HR2d_ := Lib.hid (HR2d.out.below hb)
                  have HA_ := Lib.hid (HA.out.below hb)
                  have HBd_ := Lib.hid (HBd.out.trans (hb.mono HBd.out.size))
                  have HLd_ : Hid (L ≤ (w7.alloc (.cells #[.int .i64 c, .string sv] 46)).heap.size ∧ w.heap.size ≤ L) := ⟨Nat.le_trans HLd.out.1 hb.size, HLd.out.2⟩
                  clear hb HBd HLd HR2d HA
                  have HR2d := HR2d_
                  clear HR2d_
                  have HA := HA_
                  clear HA_
                  have HBd := HBd_
                  clear HBd_
                  have HLd := HLd_
                  clear HLd_
                  generalize w7.alloc (.cells #[.int .i64 c, .string sv] 46) = w8 at *
                  generalize w7.heap.size = gone at *
                  refine hK.out _ _ trivial (fun hHeld => ?_)
                  clear hK KX hHeld
                  (try simp only [Act.put, List.setIfInBounds_toArray, List.set_cons_zero, List.set_cons_succ])
                  refine wpAnyH_ready (rs := [8]) (by kernel_rfl) (by simp) ?_
                  refine AllReadyH.cons (by (simp only [List.getElem?_toArray, List.getElem?_cons_succ, List.getElem?_cons_zero]) <;> rfl) (fun KX hK => ?_) AllReadyH.nil
                  obtain ⟨v4, w9, hrun, ho, hg⟩ := Tryz.appendC 25 HA.out HONE.out (by simp; try omega) HLd.out.1
                  rw [if_pos (by rfl)]
                  refine wp_append (.tmp 77) (.tmp 81) 25 rfl rfl rfl hrun ?_
                  (try simp only [Act.put, List.setIfInBounds_toArray, List.set_cons_zero, List.set_cons_succ])
                  clear HONE
                  have HR2d_ := Lib.hid (HR2d.out.grown hg (fun g hg => (World.ownsRow.lt HA.out g hg).1))
                  have HBd_ := Lib.hid (HBd.out.grown hg HBd.out.size (fun g hg => Nat.le_trans HLd.out.2 ((World.ownsRow.lt HA.out g hg).1)))
                  have HLd_ : Hid (L ≤ _ ∧ w.heap.size ≤ L) := ⟨Nat.le_trans HLd.out.1 hg.size, HLd.out.2⟩
                  have HNEW := Lib.hid ho
                  clear ho hrun HBd HLd HR2d HA
                  have HR2d := HR2d_
                  clear HR2d_
                  have HBd := HBd_
                  clear HBd_
                  have HLd := HLd_
                  clear HLd_
                  clear hg
                  have HA := HNEW
                  clear HNEW
                  refine hK.out _ _ trivial (fun hHeld => ?_)
                  clear hK KX hHeld
                  (try simp only [Act.put, List.setIfInBounds_toArray, List.set_cons_zero, List.set_cons_succ])
                  refine wpAnyH_ready (rs := [12]) (by kernel_rfl) (by simp) ?_
                  refine AllReadyH.cons (by (simp only [List.getElem?_toArray, List.getElem?_cons_succ, List.getElem?_cons_zero]) <;> rfl) (fun KX hK => ?_) AllReadyH.nil
                  obtain ⟨v5, w10, hrun, ho, hg⟩ := Tryz.appendC 25 HA.out HR2d.out (by simp; try omega) HLd.out.1
                  rw [if_pos (by rfl)]
                  refine wp_append (.tmp 82) (.tmp 85) 25 rfl rfl rfl hrun ?_
                  (try simp only [Act.put, List.setIfInBounds_toArray, List.set_cons_zero, List.set_cons_succ])
                  clear HR2d
                  have HBd_ := Lib.hid (HBd.out.grown hg HBd.out.size (fun g hg => Nat.le_trans HLd.out.2 ((World.ownsRow.lt HA.out g hg).1)))
                  have HLd_ : Hid (L ≤ _ ∧ w.heap.size ≤ L) := ⟨Nat.le_trans HLd.out.1 hg.size, HLd.out.2⟩
                  have HNEW := Lib.hid ho
                  clear ho hrun HBd HLd  HA
                  have HBd := HBd_
                  clear HBd_
                  have HLd := HLd_
                  clear HLd_
                  clear hg
                  have HA := HNEW
                  clear HNEW
                  refine hK.out _ _ trivial (fun hHeld => ?_)
                  clear hK KX hHeld
                  (try simp only [Act.put, List.setIfInBounds_toArray, List.set_cons_zero, List.set_cons_succ])
                  have hHeld : (fun w' : World => True) w10 := trivial
                  (refine takeYes (i := 13) ?_ (by (simp only [List.getElem?_toArray, List.getElem?_cons_succ, List.getElem?_cons_zero]) <;> rfl) (by kernel_rfl) (by kernel_rfl) (by kernel_rfl) (by exact fun _ _ _ h => h) (by rfl) (by assumption) ?_ ?_)
                  rotate_left
                  · (intro w hSw; (try dsimp only at hSw); go_simp <;> with_reducible rfl)
                  (try simp only [Act.put, List.setIfInBounds_toArray, List.set_cons_zero, List.set_cons_succ])
                  refine wpAnyH_done (by kernel_rfl) ?_ _
                  have HR : Hid (CoefsAt w v5 (i + 1) w10) := ⟨_, HA.out.mono HLd.out.2, HOK.out.put k c sv q k3 k4 HQ.out HK.out.1 HK.out.2, by simp; omega, HBd.out⟩
                  clear HA HLd HOK HK HBd hHeld
                  go_wp2
                  go_roundw
                  case rel => exact ⟨i + 1, by omega, by go_num, HR.out⟩
                  case measure => simp [intOf]; omega
                · skip
                  go_simp
                  have hb : Below w6.heap.size w6 (w6.alloc (.cells #[.int .i64 c, .string sv] 46)) := (Below.refl _ _).alloc (Nat.le_refl _) _
                  have HONE := Lib.hid (readsC_one w6 c sv)
                  have HR1d_ := Lib.hid (HR1d.out.below hb)
                  have HR2d_ := Lib.hid (HR2d.out.below hb)
                  have HBd_ := Lib.hid (HBd.out.trans (hb.mono HBd.out.size))
                  have HLd_ : Hid (L ≤ (w6.alloc (.cells #[.int .i64 c, .string sv] 46)).heap.size ∧ w.heap.size ≤ L) := ⟨Nat.le_trans HLd.out.1 hb.size, HLd.out.2⟩
                  clear hb HBd HLd HR1d HR2d
                  have HR1d := HR1d_
                  clear HR1d_
                  have HR2d := HR2d_
                  clear HR2d_
                  have HBd := HBd_
                  clear HBd_
                  have HLd := HLd_
                  clear HLd_
                  generalize w6.alloc (.cells #[.int .i64 c, .string sv] 46) = w7 at *
                  generalize w6.heap.size = gone at *
                  refine hK.out _ _ trivial (fun hHeld => ?_)
                  clear hK KX hHeld
                  (try simp only [Act.put, List.setIfInBounds_toArray, List.set_cons_zero, List.set_cons_succ])
                  refine wpAnyH_ready (rs := [3]) (by kernel_rfl) (by simp) ?_
                  refine AllReadyH.cons (by (simp only [List.getElem?_toArray, List.getElem?_cons_succ, List.getElem?_cons_zero]) <;> rfl) (fun KX hK => ?_) AllReadyH.nil
                  obtain ⟨v3, w8, hrun, ho, hg⟩ := Tryz.appendC 25 (show OwnC L w7 (.slice none 0 0) [] from World.ownsRow_nil _ _ _ _) HR1d.out (by simp; try omega) HLd.out.1
                  rw [if_pos (by rfl)]
                  refine wp_append (.const (.slice none 0 0)) (.tmp 76) 25 rfl rfl rfl hrun ?_
                  (try simp only [Act.put, List.setIfInBounds_toArray, List.set_cons_zero, List.set_cons_succ])
                  clear HR1d
                  have HR2d_ := Lib.hid (HR2d.out.grown hg (fun g hg => by simp [Value.ownBlock] at hg))
                  have HONE_ := Lib.hid (HONE.out.grown hg (fun g hg => by simp [Value.ownBlock] at hg))
                  have HBd_ := Lib.hid (HBd.out.grown hg HBd.out.size (fun g hg => by simp [Value.ownBlock] at hg))
                  have HLd_ : Hid (L ≤ _ ∧ w.heap.size ≤ L) := ⟨Nat.le_trans HLd.out.1 hg.size, HLd.out.2⟩
                  have HNEW := Lib.hid ho
                  clear ho hrun HBd HLd HR2d HONE
                  have HR2d := HR2d_
                  clear HR2d_
                  have HONE := HONE_
                  clear HONE_
                  have HBd := HBd_
                  clear HBd_
                  have HLd := HLd_
                  clear HLd_
                  clear hg
                  have HA := HNEW
                  clear HNEW
                  refine hK.out _ _ trivial (fun hHeld => ?_)
                  clear hK KX hHeld
                  (try simp only [Act.put, List.setIfInBounds_toArray, List.set_cons_zero, List.set_cons_succ])
                  refine wpAnyH_ready (rs := [8]) (by kernel_rfl) (by simp) ?_
                  refine AllReadyH.cons (by (simp only [List.getElem?_toArray, List.getElem?_cons_succ, List.getElem?_cons_zero]) <;> rfl) (fun KX hK => ?_) AllReadyH.nil
                  obtain ⟨v4, w9, hrun, ho, hg⟩ := Tryz.appendC 25 HA.out HONE.out (by simp; try omega) HLd.out.1
                  rw [if_pos (by rfl)]
                  refine wp_append (.tmp 77) (.tmp 81) 25 rfl rfl rfl hrun ?_
                  (try simp only [Act.put, List.setIfInBounds_toArray, List.set_cons_zero, List.set_cons_succ])
                  clear HONE
                  have HR2d_ := Lib.hid (HR2d.out.grown hg (fun g hg => (World.ownsRow.lt HA.out g hg).1))
                  have HBd_ := Lib.hid (HBd.out.grown hg HBd.out.size (fun g hg => Nat.le_trans HLd.out.2 ((World.ownsRow.lt HA.out g hg).1)))
                  have HLd_ : Hid (L ≤ _ ∧ w.heap.size ≤ L) := ⟨Nat.le_trans HLd.out.1 hg.size, HLd.out.2⟩
                  have HNEW := Lib.hid ho
                  clear ho hrun HBd HLd HR2d HA
                  have HR2d := HR2d_
                  clear HR2d_
                  have HBd := HBd_
                  clear HBd_
                  have HLd := HLd_
                  clear HLd_
                  clear hg
                  have HA := HNEW
                  clear HNEW
                  refine hK.out _ _ trivial (fun hHeld => ?_)
                  clear hK KX hHeld
                  (try simp only [Act.put, List.setIfInBounds_toArray, List.set_cons_zero, List.set_cons_succ])
                  refine wpAnyH_ready (rs := [12]) (by kernel_rfl) (by simp) ?_
                  refine AllReadyH.cons (by (simp only [List.getElem?_toArray, List.getElem?_cons_succ, List.getElem?_cons_zero]) <;> rfl) (fun KX hK => ?_) AllReadyH.nil
                  obtain ⟨v5, w10, hrun, ho, hg⟩ := Tryz.appendC 25 HA.out HR2d.out (by simp; try omega) HLd.out.1
                  rw [if_pos (by rfl)]
                  refine wp_append (.tmp 82) (.tmp 85) 25 rfl rfl rfl hrun ?_
                  (try simp only [Act.put, List.setIfInBounds_toArray, List.set_cons_zero, List.set_cons_succ])
                  clear HR2d
                  have HBd_ := Lib.hid (HBd.out.grown hg HBd.out.size (fun g hg => Nat.le_trans HLd.out.2 ((World.ownsRow.lt HA.out g hg).1)))
                  have HLd_ : Hid (L ≤ _ ∧ w.heap.size ≤ L) := ⟨Nat.le_trans HLd.out.1 hg.size, HLd.out.2⟩
                  have HNEW := Lib.hid ho
                  clear ho hrun HBd HLd  HA
                  have HBd := HBd_
                  clear HBd_
                  have HLd := HLd_
                  clear HLd_
                  clear hg
                  have HA := HNEW
                  clear HNEW
                  refine hK.out _ _ trivial (fun hHeld => ?_)
                  clear hK KX hHeld
                  (try simp only [Act.put, List.setIfInBounds_toArray, List.set_cons_zero, List.set_cons_succ])
                  have hHeld : (fun w' : World => True) w10 := trivial
                  (refine takeYes (i := 13) ?_ (by (simp only [List.getElem?_toArray, List.getElem?_cons_succ, List.getElem?_cons_zero]) <;> rfl) (by kernel_rfl) (by kernel_rfl) (by kernel_rfl) (by exact fun _ _ _ h => h) (by rfl) (by assumption) ?_ ?_)
                  rotate_left
                  · (intro w hSw; (try dsimp only at hSw); go_simp <;> with_reducible rfl)
                  (try simp only [Act.put, List.setIfInBounds_toArray, List.set_cons_zero, List.set_cons_succ])
                  refine wpAnyH_done (by kernel_rfl) ?_ _
                  have HR : Hid (CoefsAt w v5 (i + 1) w10) := ⟨_, HA.out.mono HLd.out.2, HOK.out.put k c sv q k3 k4 HQ.out HK.out.1 HK.out.2, by simp; omega, HBd.out⟩
                  clear HA HLd HOK HK HBd hHeld
                  go_wp2
                  go_roundw
                  case rel => exact ⟨i + 1, by omega, by go_num, HR.out⟩
                  case measure => simp [intOf]; omega
        · have HR : Hid (CoefsSaid w wr (.returned u5) ∧ Below w.heap.size w wr) := ⟨⟨_, cs, rfl, HO.out, HOK.out, by omega⟩, HB.out⟩
          have hi3 : ¬ (i : Int) < 10 := by omega
          go_wp2
          go_ret
          exact HR.out
      · have e1 : decide (i < ss.length) = false := by simpa using h2
        have HR : Hid (CoefsSaid w wr (.returned u5) ∧ Below w.heap.size w wr) := ⟨⟨_, cs, rfl, HO.out, HOK.out, by omega⟩, HB.out⟩
        clear HO HOK HB hcl
        go_wp2
        go_ret
        exact HR.out
    · have e1 : decide (i < zs.length) = false := by simpa using h1
      have HR : Hid (CoefsSaid w wr (.returned u5) ∧ Below w.heap.size w wr) := ⟨⟨_, cs, rfl, HO.out, HOK.out, by omega⟩, HB.out⟩
      clear HO HOK HB hcl
      go_wp2
      go_ret
      exact HR.out
end Go.Proofs.Vt
