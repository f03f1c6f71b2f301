/- What Add of the package vec returns. -/
import Derived.Test.YtcnjcfoaoaldeaaGreatDoorRn
import Derived.Test.YtcnjcfoaoaldeaaGreatDoorVo
import Derived.Laws.MakeOwn
set_option linter.unusedVariables false
set_option maxHeartbeats 4000000
set_option maxRecDepth 100000
namespace Go.Proofs.Vt
open Go.RowKit Go.Proofs.Wd Go.Proofs.Fr
open Vm (T Rise Full In)
/-- What Add's first loop keeps to. -/
def AddAt (w3 : World) (q : Rat) (d : T) (i j K N : Nat) (lv rv sv : Value) (wr : World) : Prop :=
 ∃ l r acc, Terms w3 lv l i ∧ Terms w3 rv r j ∧ OwnT w3.heap.size wr sv acc K ∧ acc ++ Vm.add q l r = d ∧ acc.length + l.length + r.length ≤ N ∧ Below w3.heap.size w3 wr
/-- What holds behind it. -/
def AddEnd (w3 : World) (q : Rat) (d : T) (i j K N : Nat) (lv rv sv : Value) (wr : World) : Prop :=
 ∃ l r acc, Terms w3 lv l i ∧ Terms w3 rv r j ∧ OwnT w3.heap.size wr sv acc K ∧ acc ++ l ++ r.map (Vm.times q) = d ∧ acc.length + l.length + r.length ≤ N ∧ Below w3.heap.size w3 wr
/-- What its second loop keeps to. -/
def AddTail (w3 : World) (q : Rat) (d : T) (i j K N : Nat) (r : T) (k : Nat) (sv : Value) (wr : World) : Prop :=
 ∃ acc, OwnT w3.heap.size wr sv acc K ∧ acc ++ (r.drop k).map (Vm.times q) = d ∧ acc.length + (r.length - k) ≤ N ∧ Below w3.heap.size w3 wr
theorem CellsAt_grown {w w' : World} {B : Nat} {c : Array Value} {t : TypeId} {row : Option Nat} (h : CellsAt w B c t) (hg : w.grownBy w' row) (hne : some B ≠ row) : CellsAt w' B c t := (hg.block B h.lt hne).trans h
theorem OwnT.lt {B : Nat} {w : World} {v : Value} {ts : T} {k : Nat} (h : OwnT B w v ts k) : ∀ g, v.ownBlock = some g → g < w.heap.size := by
 obtain ⟨ps, -, h2, -, -⟩ := h
 exact fun g hg => (World.ownsRow.lt h2 g hg).2
theorem Tryz.makeT (w : World) (c : Int) (n K : Nat) (hc : c = n) (hn : n ≤ 1000000) : ∃ w', (Instr.makeSlice 85 (.int .i64 0) (.int .i64 c)).run Tryz.prog w = .ok (.slice (some ⟨w.heap.size, 0, none⟩) 0 n) w' ∧ OwnT w.heap.size w' (.slice (some ⟨w.heap.size, 0, none⟩) 0 n) [] K ∧ Below w.heap.size w w' := by
 obtain ⟨i0, hi, hz0, hz1, hz2⟩ := info_parts Tryz.infoTerm
 subst hc
 have hr := run_make (P := Tryz.prog) w 85 87 i0 _ Tryz.underlying85 hi hz0 .i64 .i64 0 n (by omega) (by omega) (by rw [hz2]; omega) (by omega)
 rw [hz1, Int.toNat_natCast] at hr
 refine ⟨_, hr, ⟨[], rfl, World.ownsRow_made w _ n (Nat.le_refl _) (by unfold maxLen; omega) (size_madeCells _ _), fun p hp => by simp at hp, ?_, ?_⟩, (Below.refl _ _).alloc (Nat.le_refl _) _⟩
 ·intro g hg u hu
  obtain rfl : w.heap.size = g := by simpa [Value.ownBlock] using hg
  rw [(CellsAt.new w _ _ rfl).cell 0] at hu
  by_cases h0 : n = 0
  ·subst h0; simp [madeCells] at hu
  ·have h1 : (madeCells (Value.agg #[.int .i64 0, .pointer none]).cells (n * 2))[0]? = some (.int .i64 0) := by
    have h2 : 0 < n * 2 := by omega
    simp [madeCells, h2, Value.cells]
   rw [h1] at hu
   exact ⟨0, (Option.some.inj hu).symm⟩
 ·intro g hg
  obtain rfl : w.heap.size = g := by simpa [Value.ownBlock] using hg
  exact ⟨_, _, CellsAt.new _ _ _ rfl, by decide⟩
theorem Tryz.vecAdd (u f v : Value) (l r : T) (q : Rat) (i j k : Nat) (w : World) (hu : VecIs w u l i) (hf : FracIs w f q k) (hv : VecIs w v r j) (hi : 1 ≤ i) (hj : 1 ≤ j) (hk : 1 ≤ k) (hi9 : i ≤ 10000) (hj9 : j ≤ 10000) (hk9 : k ≤ 10000)
 (hl : l.length ≤ 400000) (hr : r.length ≤ 400000) :
 Calls Tryz.prog 18 #[u, f, v] w fun e w' => (∃ s, e = .returned s ∧ VecIs w' s (if q = 0 then l else Vm.add q l r) (i + j + k + 1)) ∧ Below w.heap.size w w' := by
 have HU : Hid (VecIs w u l i) := hu
 have HV : Hid (VecIs w v r j) := hv
 have HF : Hid (FracIs w f q k) := hf
 clear hu hv hf
 obtain ⟨s, hs⟩ : ∃ s : Int, q.num.sign = s := ⟨_, rfl⟩
 have HSG : Hid (∀ W, FracIs W f q k → Calls Tryz.prog 64 #[f] W fun e w' => e = .returned (.int .i64 s) ∧ Below W.heap.size W w') := fun W h => by
  have := Tryz.Sign f q k W h
  rw [hs] at this
  exact this
 obtain ⟨r2, hr2, HR⟩ : ∃ r2 : T, Hid ((if q = 0 then [] else r) = r2) ∧ Hid ((if q = 0 then l else Vm.add q l r) = Vm.add q l r2) := by
  refine ⟨_, rfl, ?_⟩
  show _ = _
  split
  ·cases l with
   | nil => rw [Vm.add]; rfl
   | cons a l => rw [Vm.add]
  ·rfl
 rw [HR.out]
 have HLEN : Hid (l.length + r2.length ≤ 800000) := by
  show _ ≤ _
  have := hr2.out
  split at this
  ·subst this; simp; omega
  ·subst this; omega
 obtain ⟨d, hd⟩ : ∃ d, Vm.add q l r2 = d := ⟨_, rfl⟩
 rw [hd]
 have HD := Lib.hid hd
 have e1 : (s == 0) = decide (q = 0) := by rw [← hs, Bool.eq_iff_iff]; simp [Int.sign_eq_zero_iff_zero, Rat.num_eq_zero]
 clear hs HR hl hr hd
 go_enter Tryz.func18, Tryz.ntmps18
 go_wp2_with fail
 with_reducible refine (Tryz.list u l i _ HU.out).mono ?_
 rintro e w1 ⟨⟨lv, rfl, hl'⟩, rfl⟩
 have HL1 : Hid (Terms w1 lv l i) := hl'
 clear hl' HU
 go_wp2_with fail
 with_reducible refine (Tryz.list v r j _ HV.out).mono ?_
 rintro e w2 ⟨⟨rv, rfl, hr'⟩, rfl⟩
 have HR2 : Hid (Terms w2 rv r j) := hr'
 clear hr' HV
 go_wp2_with fail
 with_reducible refine (HSG.out _ HF.out).mono ?_
 rintro e w3 ⟨rfl, hb3⟩
 have HL3 : Hid (Terms w3 lv l i) := HL1.out.below hb3
 have HR3 : Hid (Terms w3 rv r j) := HR2.out.below hb3
 have HF3 : Hid (FracIs w3 f q k) := HF.out.below hb3
 have HB3 : Hid (Below w2.heap.size w2 w3) := hb3
 clear hb3 HL1 HR2 HF HSG
 go_upto_if 21 with (fail)
 go_cut [8] (fun rv wx => Terms wx rv r2 j ∧ w3 = wx)
 case first =>
  go_wp2_with fail
  all_goals go_meet
  ·refine ⟨?_, rfl⟩
   have := hr2.out
   rw [if_pos (by assumption)] at this
   rw [← this]
   exact Terms.nil _ _ _ _ (Nat.zero_le _)
  ·refine ⟨?_, rfl⟩
   have := hr2.out
   rw [if_neg (by assumption)] at this
   rw [← this]
   exact HR3.out
 case rest =>
  obtain ⟨hrt, rfl⟩ := hcut
  have HR4 : Hid (Terms w3 _ r2 j) := hrt
  obtain ⟨p1, c1, rfl, l1, l2⟩ := HL3.out.slice
  obtain ⟨p2, c2, rfl, m1, m2⟩ := hrt.slice
  unfold maxLen at l2 m2
  have hsum : l.length + r2.length ≤ 800000 := HLEN.out
  clear hrt HR3 hr2 HLEN
  obtain ⟨w5, hmk, ho5, hb5⟩ := Tryz.makeT w3 ((l.length : Int) + (r2.length : Int)) (l.length + r2.length) (i + j + k + 1) (by omega) (by omega)
  obtain ⟨N, hN⟩ : ∃ N, Hid (l.length + r2.length = N) := ⟨_, rfl⟩
  have HA : Hid (AddAt w3 q d i j (i + j + k + 1) N (.slice p1 l.length c1) (.slice p2 r2.length c2) (.slice (some ⟨w3.heap.size, 0, none⟩) 0 (l.length + r2.length)) w5) := ⟨l, r2, [], HL3.out, HR4.out, ho5, HD.out, by have := hN.out; simp; omega, hb5⟩
  have hs0 : (0 : Int) ≤ (l.length : Int) + (r2.length : Int) := by omega
  clear ho5 hb5 HL3 HR4 HD
  obtain ⟨K, hK⟩ : ∃ K, i + j + k + 1 = K := ⟨_, rfl⟩
  rw [hK] at HA
  have HK := Lib.hid hK
  have hN9 : N ≤ 800000 := by have := hN.out; omega
  clear hK
  go_upto_block 0 with (fail)
  go_cut [7, 8, 9] (fun lv rv sv wx => AddEnd w3 q d i j K N lv rv sv wx)
  case first =>
   go_wp2_with fail
   go_loopw [7, 8, 9] (fun lv rv sv wr => AddAt w3 q d i j K N lv rv sv wr) (fun lv rv _ _ => lenV lv + lenV rv)
   case atStart => exact HA.out
   case round =>
    obtain ⟨l3, r3, acc, hl, hr, ho, hd, hn, hb⟩ := hrel
    cases l3 with
    | nil =>
      obtain ⟨p, cap, rfl, hc⟩ := hl.empty
      have HR : Hid (AddEnd w3 q d i j K N (.slice p 0 cap) _ _ wr) := ⟨[], r3, acc, hl, hr, ho, by rw [List.append_nil, ← hd, Vm.add], hn, hb⟩
      clear hl hr ho hd hn hb
      go_wp2_with fail
      go_meet
      exact HR.out
    | cons t l4 =>
      obtain ⟨g, o, cap, fv, rfl, hc1, hc2, hf0, hf1, hff, hg, htl⟩ := hl.cons
      unfold maxLen at hc2
      cases r3 with
      | nil =>
        obtain ⟨p', cap', rfl, hc'⟩ := hr.empty
        have HR : Hid (AddEnd w3 q d i j K N _ (.slice p' 0 cap') _ wr) := ⟨t :: l4, [], acc, hl, hr, ho, by rw [List.map_nil, List.append_nil, ← hd, Vm.add], hn, hb⟩
        clear hl hr ho hd hn hb hff htl hf0 hf1
        go_wp2_with fail
        go_meet
        exact HR.out
      | cons t' r4 =>
        obtain ⟨g', o', cap', fv', rfl, hc1', hc2', hf0', hf1', hff', hg', htr⟩ := hr.cons
        unfold maxLen at hc2'
        obtain ⟨fa, rfl⟩ := frac_pointer hff
        obtain ⟨fb, rfl⟩ := frac_pointer hff'
        rw [← hb.cell hg] at hf0 hf1
        rw [← hb.cell hg'] at hf0' hf1'
        have HLw : Hid (Terms w3 _ (t :: l4) i) := hl
        have HRw : Hid (Terms w3 _ (t' :: r4) j) := hr
        have HLt : Hid (Terms w3 _ l4 i) := htl
        have HRt : Hid (Terms w3 _ r4 j) := htr
        have HFa : Hid (FracIs wr (.pointer fa) t.2 i) := hff.below hb
        have HFb : Hid (FracIs wr (.pointer fb) t'.2 j) := hff'.below hb
        have HO : Hid (OwnT w3.heap.size wr _ acc K) := ho
        have HD : Hid (acc ++ Vm.add q (t :: l4) (t' :: r4) = d) := hd
        have HN : Hid (acc.length + (t :: l4).length + (t' :: r4).length ≤ N) := hn
        have HB : Hid (Below w3.heap.size w3 wr) := hb
        clear hl hr ho hd hn hb hff htl hff' htr hg hg'
        go_upto_region 6 with (fail)
        go_cut [10, 11] (fun av bv wx => ∃ a b : Nat, av = .pointer (some ⟨a, 0, none⟩) ∧ bv = .pointer (some ⟨b, 0, none⟩) ∧ CellsAt wx a #[.int .i64 t.1, .pointer fa] 87 ∧ CellsAt wx b #[.int .i64 t'.1, .pointer fb] 87 ∧ wr.heap.size ≤ a ∧ wr.heap.size ≤ b ∧ Below wr.heap.size wr wx)
        case first =>
         go_region_held3 (fun w' => w'.cell? ⟨g, o, none⟩ = some (.int .i64 t.1) ∧ w'.cell? ⟨g, o + 1, none⟩ = some (.pointer fa) ∧ w'.cell? ⟨g', o', none⟩ = some (.int .i64 t'.1) ∧ w'.cell? ⟨g', o' + 1, none⟩ = some (.pointer fb)) (go_keep) (fail)
         all_goals (go_wp2_with fail; go_meet; first | exact ⟨_, _, rfl, rfl, (two_blocks _ _ _ _).1, (two_blocks _ _ _ _).2.1, Nat.le_refl _, Nat.le_succ _, (two_blocks _ _ _ _).2.2⟩ | exact ⟨_, _, rfl, rfl, (two_blocks _ _ _ _).2.1, (two_blocks _ _ _ _).1, Nat.le_succ _, Nat.le_refl _, (two_blocks _ _ _ _).2.2⟩)
        case rest =>
         obtain ⟨a, b, rfl, rfl, ha, hb', hna, hnb, hbw⟩ := hcut
         have hoa : ∀ g, (u9 : Value).ownBlock = some g → g < a := fun g hg => Nat.lt_of_lt_of_le (HO.out.lt g hg) hna
         have hob : ∀ g, (u9 : Value).ownBlock = some g → g < b := fun g hg => Nat.lt_of_lt_of_le (HO.out.lt g hg) hnb
         have HOA := Lib.hid hoa
         have HOB := Lib.hid hob
         have HA6 := Lib.hid ha
         have HC6 := Lib.hid hb'
         have HFa6 := Lib.hid (HFa.out.below hbw)
         have HFb6 := Lib.hid (HFb.out.below hbw)
         have HO6 := Lib.hid (HO.out.below hbw)
         have HB6 := Lib.hid (Below.after HB.out hbw)
         have hsl : ∀ W, (Instr.slice 85 (.slice (some ⟨g, o, none⟩) (l4.length + 1) cap) (some (.int .i64 1)) none none).run Tryz.prog W = _ := Tryz.tail g o l4.length cap hc1 hc2
         have hsr : ∀ W, (Instr.slice 85 (.slice (some ⟨g', o', none⟩) (r4.length + 1) cap') (some (.int .i64 1)) none none).run Tryz.prog W = _ := Tryz.tail g' o' r4.length cap' hc1' hc2'
         have a0 := ha.cell 0
         have b0 := hb'.cell 0
         simp only [List.getElem?_toArray, List.getElem?_cons_zero] at a0 b0
         clear hf0 hf1 hf0' hf1' hna hnb hbw ha hb' HFa HFb HO HB hoa hob
         rcases Int.lt_trichotomy t.1 t'.1 with h | h | h
         ·have HC : Hid (cmpI t.1 t'.1 = -1) := cmpI_lt h
          go_wp2_with fail
          with_reducible refine (Tryz.cmpN t.1 t'.1 _).mono ?_
          rintro e w7 ⟨rfl, rfl⟩
          rw [HC.out]
          clear HC
          go_wp2_with fail
          have HB := HB6
          clear HB6
          have HO := HO6
          clear HO6
          have HA := HA6
          clear HA6
          have HFa := HFa6
          clear HFa6
          refine wp_region_held_drew (S := fun w' => w'.cell? ⟨a, 0, none⟩ = some (.int .i64 t.1) ∧ w'.cell? ⟨a, 1, none⟩ = some (.pointer fa)) (by kernel_rfl) ⟨HA.out.cell 0, HA.out.cell 1⟩ (fun hHeld => ?_)
          replace HB := Lib.hid (HB.out.drew)
          replace HO := Lib.hid (HO.out.below (Below.refl _ _).drew)
          replace HA := Lib.hid (HA.out.below (Below.refl _ _).drew)
          replace HFa := Lib.hid (HFa.out.below (Below.refl _ _).drew)
          clear hHeld
          generalize w7.drew = w7d at *
          have hHeld : (fun w' : World => w'.cell? ⟨a, 0, none⟩ = some (.int .i64 t.1) ∧ w'.cell? ⟨a, 1, none⟩ = some (.pointer fa)) w7d := ⟨HA.out.cell 0, HA.out.cell 1⟩
          refine takeY 0 (h := ?_)
          refine takeY 1 (h := ?_)
          refine takeY 4 (h := ?_)
          (try simp only [Act.put, List.setIfInBounds_toArray, List.set_cons_zero, List.set_cons_succ])
          refine takeY 5 (h := ?_)
          (try simp only [Act.put, List.setIfInBounds_toArray, List.set_cons_zero, List.set_cons_succ])
          refine wpAnyH_ready (rs := [2]) (by kernel_rfl) (by simp) ?_
          refine AllReadyH.cons (by (simp only [List.getElem?_toArray, List.getElem?_cons_succ, List.getElem?_cons_zero]) <;> rfl) (fun KX hK => ?_) AllReadyH.nil
          go_simp
          have hb : Below w7d.heap.size w7d (w7d.alloc (.cells #[.int .i64 t.1, .pointer fa] 87)) := (Below.refl _ _).alloc (Nat.le_refl _) _
          have HT := Lib.hid ((terms_one (c := t.1) HFa.out).more (show i ≤ K by have := HK.out; omega))
          clear hHeld
          replace HB := Lib.hid (HB.out.trans (hb.mono HB.out.size))
          replace HO := Lib.hid (HO.out.below hb)
          replace HA := Lib.hid (HA.out.below hb)
          replace HFa := Lib.hid (HFa.out.below hb)
          clear hb
          generalize w7d.alloc (.cells #[.int .i64 t.1, .pointer fa] 87) = w8 at *
          refine hK.out _ _ ⟨HA.out.cell 0, HA.out.cell 1⟩ (fun hHeld => ?_)
          clear hK KX
          (try simp only [Act.put, List.setIfInBounds_toArray, List.set_cons_zero, List.set_cons_succ])
          refine wpAnyH_ready (rs := [3]) (by kernel_rfl) (by simp) ?_
          refine AllReadyH.cons (by (simp only [List.getElem?_toArray, List.getElem?_cons_succ, List.getElem?_cons_zero]) <;> rfl) (fun KX hK => ?_) AllReadyH.nil
          obtain ⟨sv, w9, hrun, ho, hg⟩ := Tryz.appendT 85 HO.out HT.out (by have := HN.out; simp at this ⊢; omega) HB.out.size
          rw [if_pos (by rfl)]
          refine wp_append (.tmp 70) (.tmp 72) 85 rfl rfl rfl hrun ?_
          (try simp only [Act.put, List.setIfInBounds_toArray, List.set_cons_zero, List.set_cons_succ])
          clear hHeld hrun
          replace HA := Lib.hid (CellsAt_grown HA.out hg (fun e => by have := HOA.out _ e.symm; omega))
          replace HB := Lib.hid (HB.out.grown hg HB.out.size (fun g hg => HO.out.ge g hg))
          replace HO := Lib.hid ho
          clear ho hg HT HFa
          refine hK.out _ _ ⟨HA.out.cell 0, HA.out.cell 1⟩ (fun hHeld => ?_)
          clear hK KX
          (try simp only [Act.put, List.setIfInBounds_toArray, List.set_cons_zero, List.set_cons_succ])
          refine takeY 6 (h := ?_)
          refine takeY 7 (h := ?_)
          (try simp only [Act.put, List.setIfInBounds_toArray, List.set_cons_zero, List.set_cons_succ])
          refine wpAnyH_done (by kernel_rfl) ?_ _
          have HR : Hid (AddAt w3 q d i j K N _ _ sv w9) := ⟨l4, t' :: r4, acc ++ [(t.1, t.2)], HLt.out, HRw.out, HO.out, by rw [← HD.out, Vm.add, if_pos h, List.append_assoc]; rfl, by have := HN.out; simp at this ⊢; omega, HB.out⟩
          clear hHeld HO HA HB HD HN HLt HRw HLw HRt HOA HOB
          go_wp2
          go_roundw
          case rel => exact HR.out
          case measure => simp [lenV]
         ·have HC : Hid (cmpI t.1 t'.1 = 0) := cmpI_eq h
          have HEQ := Lib.hid h
          clear h
          go_wp2_with fail
          with_reducible refine (Tryz.cmpN t.1 t'.1 _).mono ?_
          rintro e w7 ⟨rfl, rfl⟩
          rw [HC.out]
          clear HC
          go_upto_region 8 with (fail)
          go_cut [12] (fun cv wx => ∃ (c : Nat) (p : Option Addr), cv = .pointer (some ⟨c, 0, none⟩) ∧ CellsAt wx c #[.int .i64 t.1, .pointer p] 87 ∧ FracIs wx (.pointer p) (t.2 + t'.2 * q) K ∧ Below w7.heap.size w7 wx)
          case first =>
           have HB : Hid (Below w7.heap.size w7 w7) := Below.refl _ _
           have HF := Lib.hid (HF3.out.below HB6.out)
           clear HB6
           have HA := HA6
           clear HA6
           have HC := HC6
           clear HC6
           have HFa := HFa6
           clear HFa6
           have HFb := HFb6
           clear HFb6
           clear HO6 HLt HRt HLw HRw HD HN HOA HOB
           refine wp_region_held_drew (S := fun w' => w'.cell? ⟨a, 0, none⟩ = some (.int .i64 t.1) ∧ w'.cell? ⟨a, 1, none⟩ = some (.pointer fa) ∧ w'.cell? ⟨b, 0, none⟩ = some (.int .i64 t'.1) ∧ w'.cell? ⟨b, 1, none⟩ = some (.pointer fb)) (by kernel_rfl) ⟨HA.out.cell 0, HA.out.cell 1, HC.out.cell 0, HC.out.cell 1⟩ (fun hHeld => ?_)
           replace HB := Lib.hid (HB.out.drew)
           replace HA := Lib.hid (HA.out.below (Below.refl _ _).drew)
           replace HC := Lib.hid (HC.out.below (Below.refl _ _).drew)
           replace HFa := Lib.hid (HFa.out.below (Below.refl _ _).drew)
           replace HFb := Lib.hid (HFb.out.below (Below.refl _ _).drew)
           replace HF := Lib.hid (HF.out.below (Below.refl _ _).drew)
           clear hHeld
           generalize w7.drew = w7d at *
           have hHeld : (fun w' : World => w'.cell? ⟨a, 0, none⟩ = some (.int .i64 t.1) ∧ w'.cell? ⟨a, 1, none⟩ = some (.pointer fa) ∧ w'.cell? ⟨b, 0, none⟩ = some (.int .i64 t'.1) ∧ w'.cell? ⟨b, 1, none⟩ = some (.pointer fb)) w7d := ⟨HA.out.cell 0, HA.out.cell 1, HC.out.cell 0, HC.out.cell 1⟩
           refine takeY 0 (h := ?_)
           refine takeY 1 (h := ?_)
           refine takeY 2 (h := ?_)
           (try simp only [Act.put, List.setIfInBounds_toArray, List.set_cons_zero, List.set_cons_succ])
           refine takeY 3 (h := ?_)
           refine takeY 4 (h := ?_)
           refine takeY 5 (h := ?_)
           (try simp only [Act.put, List.setIfInBounds_toArray, List.set_cons_zero, List.set_cons_succ])
           refine takeY 6 (h := ?_)
           (try simp only [Act.put, List.setIfInBounds_toArray, List.set_cons_zero, List.set_cons_succ])
           refine wpAnyH_ready (rs := [7, 10]) (by kernel_rfl) (by simp) ?_
           refine AllReadyH.cons (by (simp only [List.getElem?_toArray, List.getElem?_cons_succ, List.getElem?_cons_zero]) <;> rfl) (fun KX hK => ?_) (AllReadyH.cons (by (simp only [List.getElem?_toArray, List.getElem?_cons_succ, List.getElem?_cons_zero]) <;> rfl) (fun KX hK => ?_) AllReadyH.nil)
           ·skip
            go_simp
            with_reducible refine (Tryz.mulA (.pointer fb) f t'.2 q j k _ HFb.out HF.out hj hk (by omega) (by omega)).mono ?_
            rintro e w7d21 ⟨⟨m, rfl, hm⟩, hb⟩
            clear hHeld
            replace HB := Lib.hid (HB.out.trans (hb.mono HB.out.size))
            replace HA := Lib.hid (HA.out.below hb)
            replace HC := Lib.hid (HC.out.below hb)
            replace HFa := Lib.hid (HFa.out.below hb)
            replace HFb := Lib.hid (HFb.out.below hb)
            replace HF := Lib.hid (HF.out.below hb)
            clear hb
            have HM := Lib.hid hm
            clear hm
            refine hK.out _ _ ⟨HA.out.cell 0, HA.out.cell 1, HC.out.cell 0, HC.out.cell 1⟩ (fun hHeld => ?_)
            clear hK KX
            (try simp only [Act.put, List.setIfInBounds_toArray, List.set_cons_zero, List.set_cons_succ])
            refine wpAnyH_ready (rs := [8, 10]) (by kernel_rfl) (by simp) ?_
            refine AllReadyH.cons (by (simp only [List.getElem?_toArray, List.getElem?_cons_succ, List.getElem?_cons_zero]) <;> rfl) (fun KX hK => ?_) (AllReadyH.cons (by (simp only [List.getElem?_toArray, List.getElem?_cons_succ, List.getElem?_cons_zero]) <;> rfl) (fun KX hK => ?_) AllReadyH.nil)
            ·skip
             go_simp
             with_reducible refine (Tryz.addA (.pointer fa) m t.2 (t'.2 * q) i (j + k) _ HFa.out HM.out hi (by omega) (by omega) (by omega)).mono ?_
             rintro e w7d22 ⟨⟨p, rfl, hp⟩, hb⟩
             obtain ⟨p, rfl⟩ := frac_pointer hp
             clear hHeld
             replace HB := Lib.hid (HB.out.trans (hb.mono HB.out.size))
             replace HA := Lib.hid (HA.out.below hb)
             replace HC := Lib.hid (HC.out.below hb)
             replace HFa := Lib.hid (HFa.out.below hb)
             replace HFb := Lib.hid (HFb.out.below hb)
             replace HF := Lib.hid (HF.out.below hb)
             replace HM := Lib.hid (HM.out.below hb)
             clear hb
             have HP := Lib.hid hp
             clear hp
             refine hK.out _ _ ⟨HA.out.cell 0, HA.out.cell 1, HC.out.cell 0, HC.out.cell 1⟩ (fun hHeld => ?_)
             clear hK KX
             (try simp only [Act.put, List.setIfInBounds_toArray, List.set_cons_zero, List.set_cons_succ])
             refine takeY 9 (h := ?_)
             (try simp only [Act.put, List.setIfInBounds_toArray, List.set_cons_zero, List.set_cons_succ])
             refine wpAnyH_ready (rs := [10]) (by kernel_rfl) (by simp) ?_
             refine AllReadyH.cons (by (simp only [List.getElem?_toArray, List.getElem?_cons_succ, List.getElem?_cons_zero]) <;> rfl) (fun KX hK => ?_) AllReadyH.nil
             go_simp
             have hb : Below w7d22.heap.size w7d22 (w7d22.alloc (.cells #[.int .i64 0, .pointer none] 87)) := (Below.refl _ _).alloc (Nat.le_refl _) _
             have HZ := Lib.hid (CellsAt.new w7d22 #[.int .i64 0, .pointer none] 87 rfl)
             have lHZHA : a < w7d22.heap.size := HA.out.lt
             have lHZHC : b < w7d22.heap.size := HC.out.lt
             have lHZ := HB.out.size
             clear hHeld
             replace HB := Lib.hid (HB.out.trans (hb.mono HB.out.size))
             replace HA := Lib.hid (HA.out.below hb)
             replace HC := Lib.hid (HC.out.below hb)
             replace HFa := Lib.hid (HFa.out.below hb)
             replace HFb := Lib.hid (HFb.out.below hb)
             replace HF := Lib.hid (HF.out.below hb)
             replace HM := Lib.hid (HM.out.below hb)
             replace HP := Lib.hid (HP.out.below hb)
             clear hb
             generalize w7d22.alloc (.cells #[.int .i64 0, .pointer none] 87) = w7d23 at *
             generalize w7d22.heap.size = gHZ at *
             refine hK.out _ _ ⟨HA.out.cell 0, HA.out.cell 1, HC.out.cell 0, HC.out.cell 1⟩ (fun hHeld => ?_)
             clear hK KX
             (try simp only [Act.put, List.setIfInBounds_toArray, List.set_cons_zero, List.set_cons_succ])
             refine wpAnyH_ready (rs := [11]) (by kernel_rfl) (by simp) ?_
             refine AllReadyH.cons (by (simp only [List.getElem?_toArray, List.getElem?_cons_succ, List.getElem?_cons_zero]) <;> rfl) (fun KX hK => ?_) AllReadyH.nil
             have d0 := HZ.out.cell 0
             have d1 := HZ.out.cell 1
             have f0 := HZ.out.free 0
             have f1 := HZ.out.free 1
             simp only [List.getElem?_toArray, List.getElem?_cons_zero, List.getElem?_cons_succ] at d0 d1
             go_simp
             replace HP := Lib.hid (frac_put2 (x := t.1) (c := .pointer p) HP.out HZ.out (by decide))
             replace HA := Lib.hid ((HA.out.other (g := gHZ) (by omega) 0 (.int .i64 t.1)).other (g := gHZ) (by omega) 1 (.pointer p))
             replace HC := Lib.hid ((HC.out.other (g := gHZ) (by omega) 0 (.int .i64 t.1)).other (g := gHZ) (by omega) 1 (.pointer p))
             replace HB := Lib.hid ((HB.out.setCell (p := ⟨gHZ, 0, none⟩) lHZ (.int .i64 t.1)).setCell (p := ⟨gHZ, 1, none⟩) lHZ (.pointer p))
             replace HZ := Lib.hid (put2 (x := .int .i64 t.1) (y := .pointer p) HZ.out)
             clear hHeld d0 d1 f0 f1 HFa HFb HF HM
             generalize (w7d23.setCell ⟨gHZ, 0, none⟩ (.int .i64 t.1)).setCell ⟨gHZ, 1, none⟩ (.pointer p) = w7d24 at *
             refine hK.out _ _ ⟨HA.out.cell 0, HA.out.cell 1, HC.out.cell 0, HC.out.cell 1⟩ (fun hHeld => ?_)
             clear hK KX
             (try simp only [Act.put, List.setIfInBounds_toArray, List.set_cons_zero, List.set_cons_succ])
             refine wpAnyH_done (by kernel_rfl) ?_ _
             go_wp2_with fail
             go_meet
             exact ⟨gHZ, p, rfl, HZ.out, HP.out.more (by have := HK.out; omega), HB.out⟩
            ·skip
             go_simp
             have hb : Below w7d21.heap.size w7d21 (w7d21.alloc (.cells #[.int .i64 0, .pointer none] 87)) := (Below.refl _ _).alloc (Nat.le_refl _) _
             have HZ := Lib.hid (CellsAt.new w7d21 #[.int .i64 0, .pointer none] 87 rfl)
             have lHZHA : a < w7d21.heap.size := HA.out.lt
             have lHZHC : b < w7d21.heap.size := HC.out.lt
             have lHZ := HB.out.size
             clear hHeld
             replace HB := Lib.hid (HB.out.trans (hb.mono HB.out.size))
             replace HA := Lib.hid (HA.out.below hb)
             replace HC := Lib.hid (HC.out.below hb)
             replace HFa := Lib.hid (HFa.out.below hb)
             replace HFb := Lib.hid (HFb.out.below hb)
             replace HF := Lib.hid (HF.out.below hb)
             replace HM := Lib.hid (HM.out.below hb)
             clear hb
             generalize w7d21.alloc (.cells #[.int .i64 0, .pointer none] 87) = w7d22 at *
             generalize w7d21.heap.size = gHZ at *
             refine hK.out _ _ ⟨HA.out.cell 0, HA.out.cell 1, HC.out.cell 0, HC.out.cell 1⟩ (fun hHeld => ?_)
             clear hK KX
             (try simp only [Act.put, List.setIfInBounds_toArray, List.set_cons_zero, List.set_cons_succ])
             refine wpAnyH_ready (rs := [8]) (by kernel_rfl) (by simp) ?_
             refine AllReadyH.cons (by (simp only [List.getElem?_toArray, List.getElem?_cons_succ, List.getElem?_cons_zero]) <;> rfl) (fun KX hK => ?_) AllReadyH.nil
             go_simp
             with_reducible refine (Tryz.addA (.pointer fa) m t.2 (t'.2 * q) i (j + k) _ HFa.out HM.out hi (by omega) (by omega) (by omega)).mono ?_
             rintro e w7d23 ⟨⟨p, rfl, hp⟩, hb⟩
             obtain ⟨p, rfl⟩ := frac_pointer hp
             clear hHeld
             replace HB := Lib.hid (HB.out.trans (hb.mono HB.out.size))
             replace HA := Lib.hid (HA.out.below hb)
             replace HC := Lib.hid (HC.out.below hb)
             replace HFa := Lib.hid (HFa.out.below hb)
             replace HFb := Lib.hid (HFb.out.below hb)
             replace HF := Lib.hid (HF.out.below hb)
             replace HM := Lib.hid (HM.out.below hb)
             replace HZ := Lib.hid (HZ.out.below hb)
             clear hb
             have HP := Lib.hid hp
             clear hp
             refine hK.out _ _ ⟨HA.out.cell 0, HA.out.cell 1, HC.out.cell 0, HC.out.cell 1⟩ (fun hHeld => ?_)
             clear hK KX
             (try simp only [Act.put, List.setIfInBounds_toArray, List.set_cons_zero, List.set_cons_succ])
             refine takeY 9 (h := ?_)
             (try simp only [Act.put, List.setIfInBounds_toArray, List.set_cons_zero, List.set_cons_succ])
             refine wpAnyH_ready (rs := [11]) (by kernel_rfl) (by simp) ?_
             refine AllReadyH.cons (by (simp only [List.getElem?_toArray, List.getElem?_cons_succ, List.getElem?_cons_zero]) <;> rfl) (fun KX hK => ?_) AllReadyH.nil
             have d0 := HZ.out.cell 0
             have d1 := HZ.out.cell 1
             have f0 := HZ.out.free 0
             have f1 := HZ.out.free 1
             simp only [List.getElem?_toArray, List.getElem?_cons_zero, List.getElem?_cons_succ] at d0 d1
             go_simp
             replace HP := Lib.hid (frac_put2 (x := t.1) (c := .pointer p) HP.out HZ.out (by decide))
             replace HA := Lib.hid ((HA.out.other (g := gHZ) (by omega) 0 (.int .i64 t.1)).other (g := gHZ) (by omega) 1 (.pointer p))
             replace HC := Lib.hid ((HC.out.other (g := gHZ) (by omega) 0 (.int .i64 t.1)).other (g := gHZ) (by omega) 1 (.pointer p))
             replace HB := Lib.hid ((HB.out.setCell (p := ⟨gHZ, 0, none⟩) lHZ (.int .i64 t.1)).setCell (p := ⟨gHZ, 1, none⟩) lHZ (.pointer p))
             replace HZ := Lib.hid (put2 (x := .int .i64 t.1) (y := .pointer p) HZ.out)
             clear hHeld d0 d1 f0 f1 HFa HFb HF HM
             generalize (w7d23.setCell ⟨gHZ, 0, none⟩ (.int .i64 t.1)).setCell ⟨gHZ, 1, none⟩ (.pointer p) = w7d24 at *
             refine hK.out _ _ ⟨HA.out.cell 0, HA.out.cell 1, HC.out.cell 0, HC.out.cell 1⟩ (fun hHeld => ?_)
             clear hK KX
             (try simp only [Act.put, List.setIfInBounds_toArray, List.set_cons_zero, List.set_cons_succ])
             refine wpAnyH_done (by kernel_rfl) ?_ _
             go_wp2_with fail
             go_meet
             exact ⟨gHZ, p, rfl, HZ.out, HP.out.more (by have := HK.out; omega), HB.out⟩
           ·skip
            go_simp
            have hb : Below w7d.heap.size w7d (w7d.alloc (.cells #[.int .i64 0, .pointer none] 87)) := (Below.refl _ _).alloc (Nat.le_refl _) _
            have HZ := Lib.hid (CellsAt.new w7d #[.int .i64 0, .pointer none] 87 rfl)
            have lHZHA : a < w7d.heap.size := HA.out.lt
            have lHZHC : b < w7d.heap.size := HC.out.lt
            have lHZ := HB.out.size
            clear hHeld
            replace HB := Lib.hid (HB.out.trans (hb.mono HB.out.size))
            replace HA := Lib.hid (HA.out.below hb)
            replace HC := Lib.hid (HC.out.below hb)
            replace HFa := Lib.hid (HFa.out.below hb)
            replace HFb := Lib.hid (HFb.out.below hb)
            replace HF := Lib.hid (HF.out.below hb)
            clear hb
            generalize w7d.alloc (.cells #[.int .i64 0, .pointer none] 87) = w7d21 at *
            generalize w7d.heap.size = gHZ at *
            refine hK.out _ _ ⟨HA.out.cell 0, HA.out.cell 1, HC.out.cell 0, HC.out.cell 1⟩ (fun hHeld => ?_)
            clear hK KX
            (try simp only [Act.put, List.setIfInBounds_toArray, List.set_cons_zero, List.set_cons_succ])
            refine wpAnyH_ready (rs := [7]) (by kernel_rfl) (by simp) ?_
            refine AllReadyH.cons (by (simp only [List.getElem?_toArray, List.getElem?_cons_succ, List.getElem?_cons_zero]) <;> rfl) (fun KX hK => ?_) AllReadyH.nil
            go_simp
            with_reducible refine (Tryz.mulA (.pointer fb) f t'.2 q j k _ HFb.out HF.out hj hk (by omega) (by omega)).mono ?_
            rintro e w7d22 ⟨⟨m, rfl, hm⟩, hb⟩
            clear hHeld
            replace HB := Lib.hid (HB.out.trans (hb.mono HB.out.size))
            replace HA := Lib.hid (HA.out.below hb)
            replace HC := Lib.hid (HC.out.below hb)
            replace HFa := Lib.hid (HFa.out.below hb)
            replace HFb := Lib.hid (HFb.out.below hb)
            replace HF := Lib.hid (HF.out.below hb)
            replace HZ := Lib.hid (HZ.out.below hb)
            clear hb
            have HM := Lib.hid hm
            clear hm
            refine hK.out _ _ ⟨HA.out.cell 0, HA.out.cell 1, HC.out.cell 0, HC.out.cell 1⟩ (fun hHeld => ?_)
            clear hK KX
            (try simp only [Act.put, List.setIfInBounds_toArray, List.set_cons_zero, List.set_cons_succ])
            refine wpAnyH_ready (rs := [8]) (by kernel_rfl) (by simp) ?_
            refine AllReadyH.cons (by (simp only [List.getElem?_toArray, List.getElem?_cons_succ, List.getElem?_cons_zero]) <;> rfl) (fun KX hK => ?_) AllReadyH.nil
            go_simp
            with_reducible refine (Tryz.addA (.pointer fa) m t.2 (t'.2 * q) i (j + k) _ HFa.out HM.out hi (by omega) (by omega) (by omega)).mono ?_
            rintro e w7d23 ⟨⟨p, rfl, hp⟩, hb⟩
            obtain ⟨p, rfl⟩ := frac_pointer hp
            clear hHeld
            replace HB := Lib.hid (HB.out.trans (hb.mono HB.out.size))
            replace HA := Lib.hid (HA.out.below hb)
            replace HC := Lib.hid (HC.out.below hb)
            replace HFa := Lib.hid (HFa.out.below hb)
            replace HFb := Lib.hid (HFb.out.below hb)
            replace HF := Lib.hid (HF.out.below hb)
            replace HZ := Lib.hid (HZ.out.below hb)
            replace HM := Lib.hid (HM.out.below hb)
            clear hb
            have HP := Lib.hid hp
            clear hp
            refine hK.out _ _ ⟨HA.out.cell 0, HA.out.cell 1, HC.out.cell 0, HC.out.cell 1⟩ (fun hHeld => ?_)
            clear hK KX
            (try simp only [Act.put, List.setIfInBounds_toArray, List.set_cons_zero, List.set_cons_succ])
            refine takeY 9 (h := ?_)
            (try simp only [Act.put, List.setIfInBounds_toArray, List.set_cons_zero, List.set_cons_succ])
            refine wpAnyH_ready (rs := [11]) (by kernel_rfl) (by simp) ?_
            refine AllReadyH.cons (by (simp only [List.getElem?_toArray, List.getElem?_cons_succ, List.getElem?_cons_zero]) <;> rfl) (fun KX hK => ?_) AllReadyH.nil
            have d0 := HZ.out.cell 0
            have d1 := HZ.out.cell 1
            have f0 := HZ.out.free 0
            have f1 := HZ.out.free 1
            simp only [List.getElem?_toArray, List.getElem?_cons_zero, List.getElem?_cons_succ] at d0 d1
            go_simp
            replace HP := Lib.hid (frac_put2 (x := t.1) (c := .pointer p) HP.out HZ.out (by decide))
            replace HA := Lib.hid ((HA.out.other (g := gHZ) (by omega) 0 (.int .i64 t.1)).other (g := gHZ) (by omega) 1 (.pointer p))
            replace HC := Lib.hid ((HC.out.other (g := gHZ) (by omega) 0 (.int .i64 t.1)).other (g := gHZ) (by omega) 1 (.pointer p))
            replace HB := Lib.hid ((HB.out.setCell (p := ⟨gHZ, 0, none⟩) lHZ (.int .i64 t.1)).setCell (p := ⟨gHZ, 1, none⟩) lHZ (.pointer p))
            replace HZ := Lib.hid (put2 (x := .int .i64 t.1) (y := .pointer p) HZ.out)
            clear hHeld d0 d1 f0 f1 HFa HFb HF HM
            generalize (w7d23.setCell ⟨gHZ, 0, none⟩ (.int .i64 t.1)).setCell ⟨gHZ, 1, none⟩ (.pointer p) = w7d24 at *
            refine hK.out _ _ ⟨HA.out.cell 0, HA.out.cell 1, HC.out.cell 0, HC.out.cell 1⟩ (fun hHeld => ?_)
            clear hK KX
            (try simp only [Act.put, List.setIfInBounds_toArray, List.set_cons_zero, List.set_cons_succ])
            refine wpAnyH_done (by kernel_rfl) ?_ _
            go_wp2_with fail
            go_meet
            exact ⟨gHZ, p, rfl, HZ.out, HP.out.more (by have := HK.out; omega), HB.out⟩
          case rest =>
           obtain ⟨c, p, rfl, hc, hp, hbw⟩ := hcut
           have HC8 := Lib.hid hc
           have HP8 := Lib.hid hp
           have HO8 := Lib.hid (HO6.out.below hbw)
           have HB8 := Lib.hid (HB6.out.trans (hbw.mono HB6.out.size))
           have c0 := hc.cell 0
           have c1 := hc.cell 1
           simp only [List.getElem?_toArray, List.getElem?_cons_zero, List.getElem?_cons_succ] at c0 c1
           clear hc hp hbw HO6 HB6 HA6 HC6 HFa6 HFb6 a0 b0
           obtain ⟨z, hz⟩ : ∃ z, t.2 + t'.2 * q = z := ⟨_, rfl⟩
           rw [hz] at HP8
           have HZ := Lib.hid hz
           clear hz
           go_wp2_with fail
           with_reducible refine (Tryz.none_ t.1 (.pointer p) z K _ HP8.out).mono ?_
           rintro e w9 ⟨rfl, hb9⟩
           have HP9 := Lib.hid (HP8.out.below hb9)
           have HO9 := Lib.hid (HO8.out.below hb9)
           have HB9 := Lib.hid (HB8.out.trans (hb9.mono HB8.out.size))
           have c0 := (HC8.out.below hb9).cell 0
           have c1 := (HC8.out.below hb9).cell 1
           simp only [List.getElem?_toArray, List.getElem?_cons_zero, List.getElem?_cons_succ] at c0 c1
           clear hb9 HP8 HO8 HB8 HC8
           by_cases hz0 : z = 0
           ·have e2 : decide (z = 0) = true := by simpa using hz0
            have HR : Hid (∀ wr' lv rv, lenV lv = l4.length → lenV rv = r4.length → Terms w3 lv l4 i → Terms w3 rv r4 j → Below w9.heap.size w9 wr' → AddAt w3 q d i j K N lv rv u9 wr') := fun wr' lv rv _ _ h1 h2 hb => ⟨l4, r4, acc, h1, h2, HO9.out.below hb, by rw [← HD.out, Vm.add, if_neg (by have := HEQ.out; omega), if_neg (by have := HEQ.out; omega), if_pos (by rw [HZ.out]; exact hz0)], by have := HN.out; simp at this ⊢; omega, HB9.out.trans (hb.mono HB9.out.size)⟩
            have HZ0 := Lib.hid hz0
            clear HD HN HO9 HB9 HP9 HEQ hz0
            go_wp2_with fail
            refine wp_region_held_drew (S := fun w' => True) (by kernel_rfl) trivial (fun hHeld => ?_)
            have hHeld : (fun w' : World => True) w9.drew := trivial
            refine takeY 0 (h := ?_)
            refine takeY 1 (h := ?_)
            refine takeY 2 (h := ?_)
            (try simp only [Act.put, List.setIfInBounds_toArray, List.set_cons_zero, List.set_cons_succ])
            refine takeY 3 (h := ?_)
            refine takeY 4 (h := ?_)
            refine takeY 5 (h := ?_)
            (try simp only [Act.put, List.setIfInBounds_toArray, List.set_cons_zero, List.set_cons_succ])
            refine wpAnyH_done (by kernel_rfl) ?_ _
            go_wp2
            go_roundw
            case rel => exact HR.out _ _ _ rfl rfl HLt.out HRt.out (Below.refl _ _).drew
            case measure => simp [lenV]; omega
           ·have e2 : decide (z = 0) = false := by simpa using hz0
            have hb : Below w9.heap.size w9 (w9.alloc (.cells #[.int .i64 t.1, .pointer p] 87)) := (Below.refl _ _).alloc (Nat.le_refl _) _
            obtain ⟨sv, w10, hrun, ho, hg⟩ := Tryz.appendT 85 (HO9.out.below hb) (terms_one (c := t.1) HP9.out) (by have := HN.out; simp at this ⊢; omega) (by have := HB9.out.size; simp; omega)
            have HR : Hid (∀ wr' lv rv, lenV lv = l4.length → lenV rv = r4.length → Terms w3 lv l4 i → Terms w3 rv r4 j → Below w10.heap.size w10 wr' → AddAt w3 q d i j K N lv rv sv wr') := fun wr' lv rv _ _ h1 h2 hb' => ⟨l4, r4, acc ++ [(t.1, z)], h1, h2, ho.below hb', by rw [← HD.out, Vm.add, if_neg (by have := HEQ.out; omega), if_neg (by have := HEQ.out; omega), if_neg (by rw [HZ.out]; exact hz0), HZ.out, List.append_assoc]; rfl, by have := HN.out; simp at this ⊢; omega, by
             have h1 := (HB9.out.trans (hb.mono HB9.out.size)).grown hg (by have := HB9.out.size; simp; omega) (fun g hg => HO9.out.ge g hg)
             exact h1.trans (hb'.mono h1.size)⟩
            have HZ0 := Lib.hid hz0
            clear HD HN HO9 HB9 HP9 HEQ hz0 ho hg hb
            go_wp2_with (at_builtin; refine wpList_append rfl (.tmp 60) (.tmp 62) 85 rfl rfl rfl hrun ?_)
            refine wp_region_held_drew (S := fun w' => True) (by kernel_rfl) trivial (fun hHeld => ?_)
            have hHeld : (fun w' : World => True) w10.drew := trivial
            refine takeY 0 (h := ?_)
            refine takeY 1 (h := ?_)
            refine takeY 2 (h := ?_)
            (try simp only [Act.put, List.setIfInBounds_toArray, List.set_cons_zero, List.set_cons_succ])
            refine takeY 3 (h := ?_)
            refine takeY 4 (h := ?_)
            refine takeY 5 (h := ?_)
            (try simp only [Act.put, List.setIfInBounds_toArray, List.set_cons_zero, List.set_cons_succ])
            refine wpAnyH_done (by kernel_rfl) ?_ _
            go_wp2
            go_roundw
            case rel => exact HR.out _ _ _ rfl rfl HLt.out HRt.out (Below.refl _ _).drew
            case measure => simp [lenV]; omega
         ·have HC : Hid (cmpI t.1 t'.1 = 1) := cmpI_gt h
          go_wp2_with fail
          with_reducible refine (Tryz.cmpN t.1 t'.1 _).mono ?_
          rintro e w7 ⟨rfl, rfl⟩
          rw [HC.out]
          clear HC
          go_wp2_with fail
          have HF := Lib.hid (HF3.out.below HB6.out)
          have HB := HB6
          clear HB6
          have HO := HO6
          clear HO6
          have HC := HC6
          clear HC6
          have HFb := HFb6
          clear HFb6
          refine wp_region_held_drew (S := fun w' => w'.cell? ⟨b, 0, none⟩ = some (.int .i64 t'.1) ∧ w'.cell? ⟨b, 1, none⟩ = some (.pointer fb)) (by kernel_rfl) ⟨HC.out.cell 0, HC.out.cell 1⟩ (fun hHeld => ?_)
          replace HB := Lib.hid (HB.out.drew)
          replace HO := Lib.hid (HO.out.below (Below.refl _ _).drew)
          replace HC := Lib.hid (HC.out.below (Below.refl _ _).drew)
          replace HFb := Lib.hid (HFb.out.below (Below.refl _ _).drew)
          replace HF := Lib.hid (HF.out.below (Below.refl _ _).drew)
          clear hHeld
          generalize w7.drew = w7d at *
          have hHeld : (fun w' : World => w'.cell? ⟨b, 0, none⟩ = some (.int .i64 t'.1) ∧ w'.cell? ⟨b, 1, none⟩ = some (.pointer fb)) w7d := ⟨HC.out.cell 0, HC.out.cell 1⟩
          refine takeY 0 (h := ?_)
          refine takeY 1 (h := ?_)
          refine takeY 2 (h := ?_)
          (try simp only [Act.put, List.setIfInBounds_toArray, List.set_cons_zero, List.set_cons_succ])
          refine takeY 6 (h := ?_)
          refine takeY 7 (h := ?_)
          (try simp only [Act.put, List.setIfInBounds_toArray, List.set_cons_zero, List.set_cons_succ])
          refine wpAnyH_ready (rs := [3]) (by kernel_rfl) (by simp) ?_
          refine AllReadyH.cons (by (simp only [List.getElem?_toArray, List.getElem?_cons_succ, List.getElem?_cons_zero]) <;> rfl) (fun KX hK => ?_) AllReadyH.nil
          go_simp
          with_reducible refine (Tryz.timesX t'.1 (.pointer fb) f t'.2 q j k _ HFb.out HF.out hj hk (by omega) (by omega)).mono ?_
          rintro e w7d21 ⟨⟨m, rfl, hm⟩, hb⟩
          obtain ⟨m, rfl⟩ := frac_pointer hm
          clear hHeld
          replace HB := Lib.hid (HB.out.trans (hb.mono HB.out.size))
          replace HO := Lib.hid (HO.out.below hb)
          replace HC := Lib.hid (HC.out.below hb)
          replace HFb := Lib.hid (HFb.out.below hb)
          replace HF := Lib.hid (HF.out.below hb)
          clear hb
          have HM := Lib.hid hm
          clear hm
          refine hK.out _ _ ⟨HC.out.cell 0, HC.out.cell 1⟩ (fun hHeld => ?_)
          clear hK KX
          (try simp only [Act.put, List.setIfInBounds_toArray, List.set_cons_zero, List.set_cons_succ])
          refine wpAnyH_ready (rs := [4]) (by kernel_rfl) (by simp) ?_
          refine AllReadyH.cons (by (simp only [List.getElem?_toArray, List.getElem?_cons_succ, List.getElem?_cons_zero]) <;> rfl) (fun KX hK => ?_) AllReadyH.nil
          go_simp
          have hb : Below w7d21.heap.size w7d21 (w7d21.alloc (.cells #[.int .i64 t'.1, .pointer m] 87)) := (Below.refl _ _).alloc (Nat.le_refl _) _
          have HT := Lib.hid ((terms_one (c := t'.1) HM.out).more (show j + k ≤ K by have := HK.out; omega))
          clear hHeld
          replace HB := Lib.hid (HB.out.trans (hb.mono HB.out.size))
          replace HO := Lib.hid (HO.out.below hb)
          replace HC := Lib.hid (HC.out.below hb)
          replace HFb := Lib.hid (HFb.out.below hb)
          replace HF := Lib.hid (HF.out.below hb)
          replace HM := Lib.hid (HM.out.below hb)
          clear hb
          generalize w7d21.alloc (.cells #[.int .i64 t'.1, .pointer m] 87) = w8 at *
          refine hK.out _ _ ⟨HC.out.cell 0, HC.out.cell 1⟩ (fun hHeld => ?_)
          clear hK KX
          (try simp only [Act.put, List.setIfInBounds_toArray, List.set_cons_zero, List.set_cons_succ])
          refine wpAnyH_ready (rs := [5]) (by kernel_rfl) (by simp) ?_
          refine AllReadyH.cons (by (simp only [List.getElem?_toArray, List.getElem?_cons_succ, List.getElem?_cons_zero]) <;> rfl) (fun KX hK => ?_) AllReadyH.nil
          obtain ⟨sv, w9, hrun, ho, hg⟩ := Tryz.appendT 85 HO.out HT.out (by have := HN.out; simp at this ⊢; omega) HB.out.size
          rw [if_pos (by rfl)]
          refine wp_append (.tmp 78) (.tmp 82) 85 rfl rfl rfl hrun ?_
          (try simp only [Act.put, List.setIfInBounds_toArray, List.set_cons_zero, List.set_cons_succ])
          clear hHeld hrun
          replace HC := Lib.hid (CellsAt_grown HC.out hg (fun e => by have := HOB.out _ e.symm; omega))
          replace HB := Lib.hid (HB.out.grown hg HB.out.size (fun g hg => HO.out.ge g hg))
          replace HO := Lib.hid ho
          clear ho hg HT HFb HF HM
          refine hK.out _ _ ⟨HC.out.cell 0, HC.out.cell 1⟩ (fun hHeld => ?_)
          clear hK KX
          (try simp only [Act.put, List.setIfInBounds_toArray, List.set_cons_zero, List.set_cons_succ])
          refine takeY 8 (h := ?_)
          refine takeY 9 (h := ?_)
          (try simp only [Act.put, List.setIfInBounds_toArray, List.set_cons_zero, List.set_cons_succ])
          refine wpAnyH_done (by kernel_rfl) ?_ _
          have HR : Hid (AddAt w3 q d i j K N _ _ sv w9) := ⟨t :: l4, r4, acc ++ [(t'.1, t'.2 * q)], HLw.out, HRt.out, HO.out, by rw [← HD.out, Vm.add, if_neg (by omega), if_pos h, List.append_assoc]; rfl, by have := HN.out; simp at this ⊢; omega, HB.out⟩
          clear hHeld HO HC HB HD HN HLt HRw HLw HRt HOA HOB
          go_wp2
          go_roundw
          case rel => exact HR.out
          case measure => simp [lenV]
  case rest =>
   obtain ⟨l5, r5, acc, hl, hr, ho, hd, hn, hb⟩ := hcut
   rename World => w4
   obtain ⟨p5, c5, rfl, h51, h52⟩ := hl.slice
   obtain ⟨p6, c6, rfl, h61, h62⟩ := hr.slice
   unfold maxLen at h52 h62
   have HR5 : Hid (Terms w3 (.slice p6 r5.length c6) r5 j) := hr
   obtain ⟨sv, w5, hrun, ho5, hg5⟩ := Tryz.appendT 85 ho ((hl.below hb).more (show i ≤ K by have := HK.out; omega)) (by omega) hb.size
   have HA : Hid (AddTail w3 q d i j K N r5 0 sv w5) := ⟨acc ++ l5, ho5, by rw [← hd]; rfl, by rw [List.length_append]; omega, hb.grown hg5 hb.size (fun g hg => ho.ge g hg)⟩
   clear hl hr ho hd hn hb ho5 hg5
   go_wp2_with (at_builtin; refine wpList_append rfl (.tmp 86) (.tmp 87) 85 rfl rfl rfl hrun ?_)
   clear hrun
   go_loopw [9, 91] (fun sv iv wr => ∃ n : Nat, n ≤ r5.length ∧ iv = .int .i64 n ∧ AddTail w3 q d i j K N r5 n sv wr) (fun _ iv _ => r5.length - (intOf iv).toNat)
   case atStart => exact ⟨0, Nat.zero_le _, rfl, HA.out⟩
   case round =>
    obtain ⟨n, hn, rfl, acc2, ho, hd, hlen, hb⟩ := hrel
    by_cases hlt : n < r5.length
    ·obtain ⟨t, ht⟩ : ∃ t, r5[n]? = some t := ⟨_, List.getElem?_eq_getElem hlt⟩
     obtain ⟨g, o, cap, fv, he, -, -, hf0, hf1, hff, hg⟩ := HR5.out.nth ht
     simp only [Value.slice.injEq] at he
     obtain ⟨rfl, -, rfl⟩ := he
     obtain ⟨fa, rfl⟩ := frac_pointer hff
     rw [← hb.cell hg] at hf0 hf1
     have hdr : r5.drop n = t :: r5.drop (n + 1) := by
      rw [List.drop_eq_getElem_cons hlt]
      congr 1
      rw [List.getElem?_eq_getElem hlt] at ht
      exact Option.some.inj ht
     have HO : Hid (OwnT w3.heap.size wr _ acc2 K) := ho
     have HD : Hid (acc2 ++ [Vm.times q t] ++ (r5.drop (n + 1)).map (Vm.times q) = d) := by
      show _ = _
      rw [← hd, hdr, List.map_cons, List.append_assoc]; rfl
     have HB : Hid (Below w3.heap.size w3 wr) := hb
     have HF : Hid (FracIs wr f q k) := HF3.out.below hb
     have HFa : Hid (FracIs wr (.pointer fa) t.2 j) := hff.below hb
     clear ho hd hb hff hg ht hdr
     have hs1 : Below wr.heap.size wr (wr.alloc (.cells #[.int .i64 t.1, .pointer fa] 87)) := (Below.refl _ _).alloc (Nat.le_refl _) _
     have HO2 := Lib.hid (HO.out.below hs1)
     have HF2 := Lib.hid (HF.out.below hs1)
     have HFa2 := Lib.hid (HFa.out.below hs1)
     have HB2 := Lib.hid (HB.out.trans (hs1.mono HB.out.size))
     clear hs1 HO HF HFa HB
     go_wp2_with fail
     generalize wr.alloc (.cells #[.int .i64 t.1, .pointer fa] 87) = w6 at *
     with_reducible refine (Tryz.timesX t.1 (.pointer fa) f t.2 q j k _ HFa2.out HF2.out hj hk (by omega) (by omega)).mono ?_
     rintro e w7 ⟨⟨m, rfl, hm⟩, hb7⟩
     obtain ⟨m, rfl⟩ := frac_pointer hm
     have HO7 := Lib.hid (HO2.out.below hb7)
     have HB7 := Lib.hid (HB2.out.trans (hb7.mono HB2.out.size))
     have hs8 : Below w7.heap.size w7 (w7.alloc (.cells #[.int .i64 t.1, .pointer m] 87)) := (Below.refl _ _).alloc (Nat.le_refl _) _
     obtain ⟨sv, w8, hrun, ho, hg⟩ := Tryz.appendT 85 (HO7.out.below hs8) ((terms_one (c := t.1) hm).more (show j + k ≤ K by have := HK.out; omega)) (by simp; omega) (by have := HB7.out.size; simp; omega)
     have HR : Hid (AddTail w3 q d i j K N r5 (n + 1) sv w8) := ⟨acc2 ++ [(t.1, t.2 * q)], ho, HD.out, by rw [List.length_append, List.length_singleton]; omega, (HB7.out.trans (hs8.mono HB7.out.size)).grown hg (by have := HB7.out.size; simp; omega) (fun g hg => HO7.out.ge g hg)⟩
     clear hm hb7 HO7 HB7 hs8 ho hg HO2 HB2 HD HFa2 HF2 hlen
     go_wp2_with (at_builtin; refine wpList_append rfl (.tmp 95) (.tmp 99) 85 rfl rfl rfl hrun ?_)
     clear hrun
     go_roundw
     case rel => exact ⟨n + 1, by omega, by go_num, HR.out⟩
     case measure => simp [intOf]; omega
    ·have hdr : r5.drop n = [] := List.drop_eq_nil_of_le (by omega)
     rw [hdr, List.map_nil, List.append_nil] at hd
     subst hd
     obtain ⟨pv, cv, rfl, -, -⟩ := ho.terms.slice
     have HV : Hid (VecIs (wr.alloc (.cells #[.slice pv acc2.length cv] 95)) (.pointer (some ⟨wr.heap.size, 0, none⟩)) acc2 K) := .inr ⟨_, _, rfl, by simp, by simp, ho.terms.below ((Below.refl _ _).alloc (Nat.le_refl _) _)⟩
     have HBV : Hid (Below w2.heap.size w2 (wr.alloc (.cells #[.slice pv acc2.length cv] 95))) := (HB3.out.trans (hb.mono HB3.out.size)).alloc (by have := HB3.out.size; have := hb.size; omega) _
     have hbd : ∀ (p : Option Addr) (n c : Nat) (w : World), (Instr.build 95 #[(0, .slice p n c)]).run Tryz.prog w = .ok (.agg #[.slice p n c]) w := fun p n c w => run_build w 95 _ _ (by kernel_rfl)
     have hg : ¬ (n : Int) < r5.length := by omega
     clear ho hb hlen hdr
     go_wp2
     go_ret
     exact ⟨⟨_, rfl, by rw [HK.out]; exact HV.out⟩, HBV.out⟩
end Go.Proofs.Vt
