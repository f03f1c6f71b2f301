/- VecOwn: what is told is the caller's own; vectors that were added are as they were: the call returns true. -/
import Derived.Test.YtcnjcfoaoaldeaaGreatDoorVq
import Derived.Test.YtcnjcfoaoaldeaaGreatDoorVs
namespace Go.Proofs.Vt
open Go.RowKit Go.Proofs.Wd Go.Proofs.Fr
open Vm (T Rise Full In)
set_option linter.unusedVariables false
theorem headC {w : World} {g : Nat} {cur : Array Value} (hc : CellsAt w g cur 46) (h0 : ∀ u, cur[0]? = some u → ∃ z, u = .int .i64 z) : IntHead w (some g) := by
  constructor
  · intro g' hg' u hu
    obtain rfl := Option.some.inj hg'
    rw [hc.cell] at hu
    exact h0 u hu
  · intro g' hg'
    obtain rfl := Option.some.inj hg'
    exact ⟨_, _, hc, by decide⟩
/-- A vector stays while a block of coefficients is written. -/
theorem VecIs.grown {w w' : World} {v : Value} {ts : T} {k g : Nat} {cur : Array Value} (h : VecIs w v ts k) (hg : w.grownBy w' (some g)) (hc : CellsAt w g cur 46) (h0 : ∀ u, cur[0]? = some u → ∃ z, u = .int .i64 z) : VecIs w' v ts k := by
  have hr := headC hc h0
  rcases h with h | ⟨a, s, rfl, h2, h3, p, cap, rfl, h5, h6, h7⟩
  · exact .inl h
  · have ha : a ≠ g := by
      rintro rfl
      obtain ⟨z, hz⟩ := hr.head a rfl _ h3
      simp at hz
    refine .inr ⟨a, _, rfl, Nat.lt_of_lt_of_le h2 hg.size, hg.cell h3 (fun e => ha (by simpa using e)), p, cap, rfl, h5, h6, ?_⟩
    rcases h7 with h7 | ⟨g', o, cur', rfl, g2, g3⟩
    · exact .inl h7
    · have hne : g' ≠ g := by
        rintro rfl
        have e : some (Obj.cells cur' 87 (0, 0)) = some (Obj.cells cur 46 (0, 0)) := g2.symm.trans hc
        simp at e
      refine .inr ⟨g', o, cur', rfl, CellsAt_grown g2 hg (fun e => hne (Option.some.inj e)), fun j t ht => ?_⟩
      obtain ⟨f, f1, f2, f3⟩ := g3 j t ht
      exact ⟨f, f1, f2, frac_grown f3 hg hr⟩
/-- A row of one's own: the block, if it has something. -/
theorem OwnC.block {B : Nat} {w : World} {v : Value} {cs : C} (h : OwnC B w v cs) (h0 : cs ≠ []) : ∃ g cap cur, v = .slice (some ⟨g, 0, none⟩) cs.length cap ∧ B ≤ g ∧ CellsAt w g cur 46 ∧ cs.length * 2 ≤ cur.size ∧ cs.length ≤ cap ∧ cap ≤ maxLen ∧ ∃ z, cur[0]? = some (.int .i64 z) := by
  obtain ⟨h1, h2⟩ := h
  rcases h2 with ⟨rfl, e⟩ | ⟨g, cap, cur, rfl, hg, hh, hn, hm, hs, ht⟩
  · exact absurd (List.length_eq_zero_iff.1 e) h0
  · refine ⟨g, cap, cur, rfl, hg, hh, by omega, hn, hm, ?_⟩
    cases cs with
    | nil => exact absurd rfl h0
    | cons c cs =>
      have : (cur.toList.take ((c :: cs).length * 2))[0]? = some (.int .i64 c.1) := by rw [ht]; rfl
      rw [List.getElem?_take_of_lt (by simp)] at this
      exact ⟨_, by rw [← Array.getElem?_toList]; exact this⟩
/-- What a loop that writes over coefficients keeps to: the vector, what was told of it before. -/
def LAt (w0 : World) (B : Nat) (lv wv av : Value) (n : Nat) (ts : T) (cw : C) (wr : World) : Prop :=
  VecIs wr av ts 120 ∧ OwnC B wr wv cw ∧ Below w0.heap.size w0 wr ∧
    (0 < n → ∃ g cap cur, lv = .slice (some ⟨g, 0, none⟩) n cap ∧ w0.heap.size ≤ g ∧ wv.ownBlock ≠ some g ∧ CellsAt wr g cur 46 ∧ n * 2 ≤ cur.size ∧ ∃ z, cur[0]? = some (.int .i64 z))
theorem LAt.set {w0 : World} {B : Nat} {wv av : Value} {n g o cap j : Nat} {ts : T} {cw : C} {wr : World} {u : Value} (h : LAt w0 B (.slice (some ⟨g, o, none⟩) n cap) wv av n ts cw wr) (hj : j < n * 2) (hu : j = 0 → ∃ z, u = .int .i64 z) :
    LAt w0 B (.slice (some ⟨g, o, none⟩) n cap) wv av n ts cw (wr.setCell ⟨g, j, none⟩ u) := by
  obtain ⟨h1, h2, h3, h4⟩ := h
  obtain ⟨g', cap', cur, e, g1, g2, g3, g4, z, g5⟩ := h4 (by omega)
  simp only [Value.slice.injEq, Option.some.injEq, Addr.mk.injEq, and_true, true_and] at e
  obtain ⟨⟨rfl, rfl⟩, rfl⟩ := e
  have hg := grownBy_set wr g j u
  refine ⟨VecIs.grown h1 hg g3 (fun v hv => ⟨z, by rw [g5] at hv; exact (Option.some.inj hv).symm⟩), World.ownsRow.kept h2 hg (.inr g2), h3.setCell (p := ⟨g, j, none⟩) g1 u, fun _ => ⟨g, cap, _, rfl, g1, g2, g3.set j u, by simpa using g4, ?_⟩⟩
  by_cases h0 : j = 0
  · subst h0
    obtain ⟨y, rfl⟩ := hu rfl
    exact ⟨y, get_set' (by omega)⟩
  · exact ⟨z, by rw [get_set h0]; exact g5⟩
theorem LAt.cell {w0 : World} {B : Nat} {lv wv av : Value} {n j : Nat} {ts : T} {cw : C} {wr : World} (h : LAt w0 B lv wv av n ts cw wr) (hj : j < n * 2) :
    ∃ g cap u, lv = .slice (some ⟨g, 0, none⟩) n cap ∧ wr.cell? ⟨g, j, none⟩ = some u ∧ wr.frozen? ⟨g, j, none⟩ = false := by
  obtain ⟨g, cap, cur, e, g1, g2, g3, g4, -⟩ := h.2.2.2 (by omega)
  exact ⟨g, cap, cur[j]'(by omega), e, by rw [g3.cell, Array.getElem?_eq_getElem (by omega)], g3.free j⟩
theorem LAt.of {w0 w : World} {B A : Nat} {lv wv av : Value} {ts : T} {cw cl : C} (h1 : VecIs w av ts 120) (h2 : OwnC B w wv cw) (h3 : Below w0.heap.size w0 w) (hl : OwnC A w lv cl) (hA : w0.heap.size ≤ A) (hne : ∀ g o n c, lv = .slice (some ⟨g, o, none⟩) n c → 0 < n → wv.ownBlock ≠ some g) :
    LAt w0 B lv wv av cl.length ts cw w := by
  refine ⟨h1, h2, h3, fun h0 => ?_⟩
  obtain ⟨g, cap, cur, rfl, g1, g2, g3, g4, g5, g6⟩ := hl.block (by rintro rfl; simp at h0)
  exact ⟨g, cap, cur, rfl, by omega, hne _ _ _ _ rfl h0, g2, g3, g6⟩
theorem coefOk_more {a b : Int} {cs : C} (h : CoefOk a cs) (hab : a ≤ b) : CoefOk b cs := ⟨h.1, fun c hc => by have := h.2 c hc; exact ⟨this.1, by omega, this.2.2⟩⟩
theorem keep_le (ts : T) : (Vm.keep ts).length ≤ ts.length := List.length_filter_le _ _
set_option maxHeartbeats 16000000 in
set_option maxRecDepth 100000 in
theorem vecOwnWalk (u1 u2 v1 v2 : Value) (z1 z2 : List Int) (s1 s2 : List ByteArray) (w : World) (hu1 : IntsIn w u1 z1) (hu2 : IntsIn w u2 z2) (hv1 : StrsIn w v1 s1) (hv2 : StrsIn w v2 s2) (hT : TabOk w)
    (hB : Calls Tryz.prog 11 #[] w fun e w' => e = .returned (.bool true) ∧ Below w.heap.size w w') :
    Calls Tryz.prog 8 #[u1, u2, v1, v2] w fun e w' => e = .returned (.bool true) ∧ Below w.heap.size w w' := by
  have HT : Hid (TabOk w) := hT
  have HU1 := Lib.hid hu1
  have HU2 := Lib.hid hu2
  have HV1 := Lib.hid hv1
  have HV2 := Lib.hid hv2
  clear hT hu1 hu2 hv1 hv2
  go_enter Tryz.func8, Tryz.ntmps8
  go_wp2_with fail
  with_reducible refine hB.mono ?_
  rintro e w1 ⟨rfl, hb1⟩
  have HB1 := Lib.hid hb1
  clear hb1 hB
  go_wp2_with fail
  with_reducible refine (Tryz.coefs u1 v1 z1 s1 _ (HU1.out.below HB1.out) (HV1.out.below HB1.out)).mono ?_
  rintro e w2 ⟨⟨l, cs, rfl, hl, hok, hn⟩, hb2⟩
  have HL2 := Lib.hid hl
  have HOK := Lib.hid (coefOk_more hok (show (30 : Int) ≤ 1000 by omega))
  have HB2 := Lib.hid (HB1.out.trans (hb2.mono HB1.out.size))
  clear hl hok hb2
  go_wp2_with fail
  with_reducible refine (Tryz.vecNew _ l cs _ HL2.out.reads HOK.out (by omega)).mono ?_
  rintro e w3 ⟨⟨a, rfl, ha⟩, hb3⟩
  have HL3 := Lib.hid (HL2.out.below hb3)
  have HA3 := Lib.hid ha
  have HB3 := Lib.hid (HB2.out.trans (hb3.mono HB2.out.size))
  have hlt : (Vm.keep (termsOf cs)).length ≤ 10 := by have := keep_le (termsOf cs); rw [termsOf_len] at this; omega
  obtain ⟨ts, hts⟩ : ∃ ts, Vm.keep (termsOf cs) = ts := ⟨_, rfl⟩
  rw [hts] at HA3 hlt
  clear ha hb3 HL2 HB2 HOK hts
  go_wp2_with fail
  with_reducible refine (Tryz.coefs u2 v2 z2 s2 _ (HU2.out.below HB3.out) (HV2.out.below HB3.out)).mono ?_
  rintro e w4 ⟨⟨l', cs', rfl, hl', hok', hn'⟩, hb4⟩
  have HL4 := Lib.hid (HL3.out.below hb4)
  have HA4 := Lib.hid (HA3.out.below hb4)
  have HM4 := Lib.hid hl'
  have HOK' := Lib.hid (coefOk_more hok' (show (30 : Int) ≤ 1000 by omega))
  have HB4 := Lib.hid (HB3.out.trans (hb4.mono HB3.out.size))
  clear hl' hok' hb4 HL3 HA3
  go_wp2_with fail
  with_reducible refine (Tryz.vecNew _ l' cs' _ HM4.out.reads HOK'.out (by omega)).mono ?_
  rintro e w5 ⟨⟨b, rfl, hb⟩, hb5⟩
  have HL5 := Lib.hid (HL4.out.below hb5)
  have HA5 := Lib.hid (HA4.out.below hb5)
  have HC5 := Lib.hid hb
  have HB5 := Lib.hid (HB4.out.trans (hb5.mono HB4.out.size))
  have hlt' : (Vm.keep (termsOf cs')).length ≤ 10 := by have := keep_le (termsOf cs'); rw [termsOf_len] at this; omega
  obtain ⟨ts', hts'⟩ : ∃ ts, Vm.keep (termsOf cs') = ts := ⟨_, rfl⟩
  rw [hts'] at HC5 hlt'
  clear hb hb5 HL4 HA4 HM4 HOK' HB4 hts'
  go_wp2_with fail
  with_reducible refine (Tryz.vecCoefs a ts 120 _ HA5.out (by omega) (by omega) (by omega) (HT.out.after HB5.out)).mono ?_
  rintro e w6 ⟨⟨was, rfl, hw⟩, hb6⟩
  have HL6 := Lib.hid (HL5.out.below hb6)
  have HA6 := Lib.hid (HA5.out.below hb6)
  have HC6 := Lib.hid (HC5.out.below hb6)
  have HW6 := Lib.hid hw
  have HB6 := Lib.hid (HB5.out.trans (hb6.mono HB5.out.size))
  have HLB : Hid (∀ g o n c, l = .slice (some ⟨g, o, none⟩) n c → 0 < n → g < w5.heap.size) := fun g o n c e hn => by
    obtain ⟨p, cap, e2, -, -, h⟩ := HL5.out.reads
    rw [e] at e2
    simp only [Value.slice.injEq] at e2
    obtain ⟨rfl, rfl, rfl⟩ := e2
    rcases h with rfl | ⟨g', o', e3, h3, -⟩
    · simp at hn
    · simp only [Option.some.injEq, Addr.mk.injEq, and_true] at e3
      rw [e3.1]; exact h3
  clear hw hb6 HL5 HA5 HC5 HB5
  go_wp2_with fail
  with_reducible refine (Tryz.Of 3 _ (by omega) (by omega)).mono ?_
  rintro e w7 ⟨⟨f, rfl, hf⟩, hb7⟩
  have HL7 := Lib.hid (HL6.out.below hb7)
  have HA7 := Lib.hid (HA6.out.below hb7)
  have HC7 := Lib.hid (HC6.out.below hb7)
  have HW7 := Lib.hid (HW6.out.below hb7)
  have HF7 := Lib.hid hf
  have HB7 := Lib.hid (HB6.out.trans (hb7.mono HB6.out.size))
  clear hf hb7 HL6 HA6 HC6 HW6 HB6
  go_wp2_with fail
  with_reducible refine (Tryz.vecAdd a f b ts ts' _ 120 120 1 _ HA7.out HF7.out HC7.out (by omega) (by omega) (by omega) (by omega) (by omega) (by omega) (by omega) (by omega)).mono ?_
  rintro e w8 ⟨⟨sm, rfl, -⟩, hb8⟩
  have HL8 := Lib.hid (HL7.out.below hb8)
  have HA8 := Lib.hid (HA7.out.below hb8)
  have HW8 := Lib.hid (HW7.out.below hb8)
  have HB8 := Lib.hid (HB7.out.trans (hb8.mono HB7.out.size))
  clear hb8 HL7 HA7 HC7 HW7 HF7 HB7
  obtain ⟨p, cap, rfl, l1, l2⟩ := HL8.out.reads.slice
  unfold maxLen at l2
  have HS8 : Hid (LAt w w5.heap.size (.slice p cs.length cap) was a cs.length ts (coefsOf ts) w8) := LAt.of HA8.out HW8.out HB8.out HL8.out (by have := HB1.out.size; omega) (fun g o n c e hn e2 => by
    have := HLB.out g o n c e hn
    have := (World.ownsRow.lt HW8.out g e2).1
    omega)
  clear HLB HL8 HA8 HW8 HB8
  go_wp2_with fail
  go_loopw [47] (fun iv wr => ∃ i : Nat, i ≤ cs.length ∧ iv = .int .i64 i ∧ LAt w w5.heap.size (.slice p cs.length cap) was a cs.length ts (coefsOf ts) wr) (fun iv _ => cs.length - (intOf iv).toNat)
  case atStart => exact ⟨0, Nat.zero_le _, rfl, HS8.out⟩
  case round =>
    obtain ⟨i, hi, rfl, hA⟩ := hrel
    by_cases hlt : i < cs.length
    · obtain ⟨g, cap', u0, e, hx, hy⟩ := hA.cell (show i * 2 + 1 < cs.length * 2 by omega)
      simp only [Value.slice.injEq, true_and] at e
      obtain ⟨rfl, rfl⟩ := e
      have HR : Hid (LAt w w5.heap.size _ was a cs.length ts (coefsOf ts) (wr.setCell ⟨g, i * 2 + 1, none⟩ (.string ⟨#[57]⟩))) := hA.set (by omega) (by omega)
      clear hA
      go_wp2
      go_roundw
      case rel => exact ⟨i + 1, by omega, by go_num, HR.out⟩
      case measure => simp [intOf]; omega
    · have e1 : decide (i < cs.length) = false := by simpa using hlt
      have HA9 := Lib.hid hA.1
      have HW9 := Lib.hid hA.2.1
      have HB9 := Lib.hid hA.2.2.1
      clear hA HS8
      go_wp2_with fail
      with_reducible refine (Tryz.vecCoefs a ts 120 _ HA9.out (by omega) (by omega) (by omega) (HT.out.after HB9.out)).mono ?_
      rintro e w10 ⟨⟨x, rfl, hx⟩, hb10⟩
      obtain ⟨p', cap', rfl, m1, m2⟩ := hx.reads.slice
      unfold maxLen at m2
      have hcl := coefsOf_len ts
      rw [hcl] at hx m1 ⊢
      have HS10 : Hid (LAt w w5.heap.size (.slice p' ts.length cap') was a ts.length ts (coefsOf ts) w10) := by
        rw [← hcl] at hx ⊢
        refine LAt.of (HA9.out.below hb10) (HW9.out.below hb10) (HB9.out.trans (hb10.mono HB9.out.size)) hx HB9.out.size (fun g o n c e hn e2 => ?_)
        have h1 := (World.ownsRow.lt HW9.out g e2).2
        obtain ⟨g', cap'', cur, e3, h3, -⟩ := hx.block (by rintro h; rw [h] at e; simp only [Value.slice.injEq] at e; have := e.2.1; simp at this; omega)
        rw [e] at e3
        simp only [Value.slice.injEq, Option.some.injEq, Addr.mk.injEq] at e3
        omega
      have HCL := Lib.hid hcl
      clear hx hb10 HA9 HW9 HB9 hcl
      go_wp2_with fail
      obtain ⟨wo, rfl⟩ : ∃ wo : World, wo = wr := ⟨_, rfl⟩
      go_loopw [59] (fun iv wr => ∃ i : Nat, i ≤ ts.length ∧ iv = .int .i64 i ∧ LAt w w5.heap.size (.slice p' ts.length cap') was a ts.length ts (coefsOf ts) wr) (fun iv _ => ts.length - (intOf iv).toNat)
      case atStart => exact ⟨0, Nat.zero_le _, rfl, HS10.out⟩
      case round =>
        obtain ⟨i, hi, rfl, hA⟩ := hrel
        by_cases hlt : i < ts.length
        · obtain ⟨g, cap', u0, e, hx0, hy0⟩ := hA.cell (show i * 2 < ts.length * 2 by omega)
          obtain ⟨g', cap'', u1, e', hx1, hy1⟩ := hA.cell (show i * 2 + 1 < ts.length * 2 by omega)
          simp only [Value.slice.injEq, true_and] at e
          obtain ⟨rfl, rfl⟩ := e
          simp only [Value.slice.injEq, Option.some.injEq, Addr.mk.injEq, and_true, true_and] at e'
          obtain ⟨rfl, rfl⟩ := e'
          have HR : Hid (LAt w w5.heap.size _ was a ts.length ts (coefsOf ts) ((wr.setCell ⟨g, i * 2, none⟩ (.int .i64 77)).setCell ⟨g, i * 2 + 1, none⟩ (.string ⟨#[55]⟩))) := (hA.set (by omega) (fun _ => ⟨77, rfl⟩)).set (by omega) (by omega)
          clear hA
          go_wp2
          go_roundw
          case rel => exact ⟨i + 1, by omega, by go_num, HR.out⟩
          case measure => simp [intOf]; omega
        · have e1 : decide (i < ts.length) = false := by simpa using hlt
          have HA11 := Lib.hid hA.1
          have HW11 := Lib.hid hA.2.1
          have HB11 := Lib.hid hA.2.2.1
          clear hA HS10
          go_wp2_with fail
          with_reducible refine (Tryz.vecCoefs a ts 120 _ HA11.out (by omega) (by omega) (by omega) (HT.out.after HB11.out)).mono ?_
          rintro e w12 ⟨⟨y, rfl, hy⟩, hb12⟩
          have HY := Lib.hid hy.reads
          have HW := Lib.hid (OwnC.reads (HW11.out.below hb12))
          have HB12 := Lib.hid (HB11.out.trans (hb12.mono HB11.out.size))
          obtain ⟨py, cy, rfl, y1, y2⟩ := hy.reads.slice
          obtain ⟨pw, cw, rfl, w1', w2'⟩ := HW.out.slice
          unfold maxLen at y2 w2'
          have hcl : (coefsOf ts).length = ts.length := coefsOf_len ts
          rw [hcl] at y1 w1' HY HW ⊢
          have e2 : ((ts.length : Int) != (ts.length : Int)) = false := by simp
          clear hy hb12 HA11 HW11 HB11 hcl
          go_wp2_with fail
          obtain ⟨wq, rfl⟩ : ∃ wq : World, wq = wr := ⟨_, rfl⟩
          go_loopw [76] (fun iv wr => ∃ i : Nat, i ≤ ts.length ∧ iv = .int .i64 i ∧ Below w12.heap.size w12 wr) (fun iv _ => ts.length - (intOf iv).toNat)
          case atStart => exact ⟨0, Nat.zero_le _, rfl, Below.refl _ _⟩
          case round =>
            obtain ⟨i, hi, rfl, hb⟩ := hrel
            have HB := Lib.hid hb
            clear hb
            by_cases hlt : i < ts.length
            · obtain ⟨c, hc⟩ : ∃ c, (coefsOf ts)[i]? = some c := ⟨_, List.getElem?_eq_getElem (by rw [HCL.out]; exact hlt)⟩
              obtain ⟨gy, oy, cy', e, -, -, c0, c1, hgy⟩ := HY.out.nth hc
              simp only [Value.slice.injEq] at e
              obtain ⟨rfl, -, rfl⟩ := e
              obtain ⟨gw, ow, cw', e, -, -, d0, d1, hgw⟩ := HW.out.nth hc
              simp only [Value.slice.injEq] at e
              obtain ⟨rfl, -, rfl⟩ := e
              rw [← HB.out.cell hgy] at c0 c1
              rw [← HB.out.cell hgw] at d0 d1
              clear hc hgy hgw
              have hi0 : (0 : Int) ≤ (i : Int) := by omega
              have hi1 : (i : Int) < (ts.length : Int) := by omega
              go_wp2_with fail
              refine wp_region_held_drew (S := fun w' => w'.cell? ⟨gy, oy + i * 2, none⟩ = some (.int .i64 c.1) ∧ w'.cell? ⟨gy, oy + i * 2 + 1, none⟩ = some (.string c.2) ∧ w'.cell? ⟨gw, ow + i * 2, none⟩ = some (.int .i64 c.1) ∧ w'.cell? ⟨gw, ow + i * 2 + 1, none⟩ = some (.string c.2)) (by kernel_rfl) ⟨c0, c1, d0, d1⟩ (fun hHeld => ?_)
              (refine takeYes (i := 0) ?_ (by (simp only [List.getElem?_toArray, List.getElem?_cons_zero]) <;> rfl) (by kernel_rfl) (by kernel_rfl) (by kernel_rfl) (by exact fun _ _ _ h => h) (by rfl) (by assumption) ?_ ?_)
              rotate_left
              · (intro w hSw; (try dsimp only at hSw); go_simp <;> with_reducible rfl)
              (try simp only [Act.put, List.setIfInBounds_toArray, List.set_cons_zero, List.set_cons_succ])
              (refine takeYes (i := 1) ?_ (by (simp only [List.getElem?_toArray, List.getElem?_cons_succ, List.getElem?_cons_zero]) <;> rfl) (by kernel_rfl) (by kernel_rfl) (by kernel_rfl) (by exact fun _ _ _ h => h) (by rfl) (by assumption) ?_ ?_)
              rotate_left
              · (intro w hSw; (try dsimp only at hSw); go_simp <;> with_reducible rfl)
              (try simp only [Act.put, List.setIfInBounds_toArray, List.set_cons_zero, List.set_cons_succ])
              (refine takeYes (i := 2) ?_ (by (simp only [List.getElem?_toArray, List.getElem?_cons_succ, List.getElem?_cons_zero]) <;> rfl) (by kernel_rfl) (by kernel_rfl) (by kernel_rfl) (by exact fun _ _ _ h => h) (by rfl) (by assumption) ?_ ?_)
              rotate_left
              · (intro w hSw; (try dsimp only at hSw); go_simp <;> with_reducible rfl)
              (try simp only [Act.put, List.setIfInBounds_toArray, List.set_cons_zero, List.set_cons_succ])
              (refine takeYes (i := 3) ?_ (by (simp only [List.getElem?_toArray, List.getElem?_cons_succ, List.getElem?_cons_zero]) <;> rfl) (by kernel_rfl) (by kernel_rfl) (by kernel_rfl) (by exact fun _ _ _ h => h) (by rfl) (by assumption) ?_ ?_)
              rotate_left
              · (intro w hSw; (try dsimp only at hSw); go_simp <;> with_reducible rfl)
              (try simp only [Act.put, List.setIfInBounds_toArray, List.set_cons_zero, List.set_cons_succ])
              (refine takeYes (i := 4) ?_ (by (simp only [List.getElem?_toArray, List.getElem?_cons_succ, List.getElem?_cons_zero]) <;> rfl) (by kernel_rfl) (by kernel_rfl) (by kernel_rfl) (by exact fun _ _ _ h => h) (by rfl) (by assumption) ?_ ?_)
              rotate_left
              · (intro w hSw; (try dsimp only at hSw); go_simp <;> with_reducible rfl)
              (try simp only [Act.put, List.setIfInBounds_toArray, List.set_cons_zero, List.set_cons_succ])
              (refine takeYes (i := 5) ?_ (by (simp only [List.getElem?_toArray, List.getElem?_cons_succ, List.getElem?_cons_zero]) <;> rfl) (by kernel_rfl) (by kernel_rfl) (by kernel_rfl) (by exact fun _ _ _ h => h) (by rfl) (by assumption) ?_ ?_)
              rotate_left
              · (intro w hSw; (try dsimp only at hSw); go_simp <;> with_reducible rfl)
              (try simp only [Act.put, List.setIfInBounds_toArray, List.set_cons_zero, List.set_cons_succ])
              (refine takeYes (i := 6) ?_ (by (simp only [List.getElem?_toArray, List.getElem?_cons_succ, List.getElem?_cons_zero]) <;> rfl) (by kernel_rfl) (by kernel_rfl) (by kernel_rfl) (by exact fun _ _ _ h => h) (by rfl) (by assumption) ?_ ?_)
              rotate_left
              · (intro w hSw; (try dsimp only at hSw); go_simp <;> with_reducible rfl)
              (try simp only [Act.put, List.setIfInBounds_toArray, List.set_cons_zero, List.set_cons_succ])
              (refine takeYes (i := 7) ?_ (by (simp only [List.getElem?_toArray, List.getElem?_cons_succ, List.getElem?_cons_zero]) <;> rfl) (by kernel_rfl) (by kernel_rfl) (by kernel_rfl) (by exact fun _ _ _ h => h) (by rfl) (by assumption) ?_ ?_)
              rotate_left
              · (intro w hSw; (try dsimp only at hSw); go_simp <;> with_reducible rfl)
              (try simp only [Act.put, List.setIfInBounds_toArray, List.set_cons_zero, List.set_cons_succ])
              (refine takeYes (i := 8) ?_ (by (simp only [List.getElem?_toArray, List.getElem?_cons_succ, List.getElem?_cons_zero]) <;> rfl) (by kernel_rfl) (by kernel_rfl) (by kernel_rfl) (by exact fun _ _ _ h => h) (by rfl) (by assumption) ?_ ?_)
              rotate_left
              · (intro w hSw; (try dsimp only at hSw); go_simp <;> with_reducible rfl)
              (try simp only [Act.put, List.setIfInBounds_toArray, List.set_cons_zero, List.set_cons_succ])
              refine wpAnyH_done (by kernel_rfl) ?_ _
              clear hHeld c0 c1 d0 d1
              have HB13 := Lib.hid HB.out.drew
              clear HB
              go_wp2
              go_roundw
              case rel => exact ⟨i + 1, by omega, by go_num, HB13.out⟩
              case measure => simp [intOf]; omega
            · have e1 : decide (i < ts.length) = false := by simpa using hlt
              have HR : Hid (Below w.heap.size w wr) := HB12.out.trans (HB.out.mono HB12.out.size)
              clear HB HB12
              go_wp2
              go_ret
              exact ⟨rfl, HR.out⟩
end Go.Proofs.Vt
