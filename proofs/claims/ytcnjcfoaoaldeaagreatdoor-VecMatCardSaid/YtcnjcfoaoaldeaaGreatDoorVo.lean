/- How many words a fraction's parts need: of sums, products and quotients by each side's own count. Terms of vectors as they lie in memory; what list, Len, none of the package vec return. What Dot of the package vec returns. What Add of the package vec returns. Rows of terms that a call makes for itself: what append does to them. -/
import Derived.Test.YtcnjcfoaoaldeaaGreatDoorFp
import Derived.Test.YtcnjcfoaoaldeaaGreatDoorFt
import Derived.Test.YtcnjcfoaoaldeaaGreatDoorVm
import Derived.Test.YtcnjcfoaoaldeaaGreatDoorCa
import Derived.Outline
import Derived.Lib.Hide
import Derived.Deep.DeepCutAuto
import Derived.Deep.RegionHeld3
import Derived.RegionTactic
import Derived.ChangeAlike
import Derived.Laws.AppendOwn
import Derived.Laws.OwnMore
import Derived.Test.YtcnjcfoaoaldeaaGreatDoorRn
set_option linter.unusedVariables false
set_option maxHeartbeats 4000000
set_option maxRecDepth 100000
namespace Go.Proofs.Fr
open Go.RowKit Go.Proofs.Wd
theorem num_fit {w : World} {v : Value} {z : Int} {n m : Nat} (h : Num w v z n) (hz : z < 18446744073709551616 ^ m) : Num w v z m := by
 obtain ⟨xs, h1, h2, h3, h4, h5⟩ := h
 refine ⟨xs, h1, h2, h3, h4, ?_⟩
 by_cases h0 : xs = []
 ·subst h0; simp
 ·have ht := top_pos h2 h3 h0
  rw [h4] at ht
  by_cases hc : xs.length ≤ m
  ·exact hc
  ·have := pow_mono' (i := m) (j := xs.length - 1) (by omega)
   omega
/-- Both parts have at most k words. -/
def Sz (q : Rat) (k : Nat) : Prop := q.num.natAbs < 18446744073709551616 ^ k ∧ q.den < 18446744073709551616 ^ k
theorem cast_pow (k : Nat) : ((18446744073709551616 ^ k : Nat) : Int) = (18446744073709551616 : Int) ^ k := by rw [Int.natCast_pow]; rfl
theorem lt_cast {a k : Nat} : (a : Int) < (18446744073709551616 : Int) ^ k ↔ a < 18446744073709551616 ^ k := by rw [← cast_pow]; exact Int.ofNat_lt
theorem FracIs.sz {w : World} {v : Value} {q : Rat} {k : Nat} (h : FracIs w v q k) (hk : 1 ≤ k) : Sz q k :=
 ⟨lt_cast.1 (h.lt hk).1, lt_cast.1 (h.lt hk).2⟩
theorem FracIs.fit {w : World} {v : Value} {q : Rat} {k m : Nat} (h : FracIs w v q k) (hz : Sz q m) : FracIs w v q m := by
 rcases h with h | ⟨a, h1, h2, h3, h4⟩
 ·exact .inl h
 ·refine .inr ⟨a, h1, h2, h3, ?_⟩
  rcases h4 with h4 | ⟨g1, g2, g3, b, p, r, g4, g5, g6, g7, g8, g9⟩
  ·exact .inl h4
  ·exact .inr ⟨g1, g2, g3, b, p, r, g4, g5, g6, g7, num_fit g8 (lt_cast.2 hz.1), num_fit g9 (lt_cast.2 hz.2)⟩
theorem mk_le (n : Int) {d : Nat} (hd : 0 < d) : (mkRat n d).num.natAbs ≤ n.natAbs ∧ (mkRat n d).den ≤ d := by
 have h := mk_low (decide (n < 0)) n.natAbs hd
 rw [sgn_self] at h
 rw [h.1, h.2, sgn_abs]
 exact ⟨Nat.div_le_self _ _, Nat.div_le_self _ _⟩
theorem mul_lt {a b x y : Nat} (h1 : a < x) (h2 : b < y) : a * b < x * y := Nat.mul_lt_mul'' h1 h2
theorem Sz.mul {a b : Rat} {i j : Nat} (ha : Sz a i) (hb : Sz b j) : Sz (a * b) (i + j) := by
 have e : a * b = mkRat (a.num * b.num) (a.den * b.den) := by rw [Rat.mul_def, Rat.normalize_eq_mkRat]
 have h := mk_le (a.num * b.num) (Nat.mul_pos a.den_pos b.den_pos)
 rw [← e] at h
 rw [Int.natAbs_mul] at h
 unfold Sz
 rw [Nat.pow_add]
 exact ⟨Nat.lt_of_le_of_lt h.1 (mul_lt ha.1 hb.1), Nat.lt_of_le_of_lt h.2 (mul_lt ha.2 hb.2)⟩
theorem Sz.add {a b : Rat} {i j : Nat} (ha : Sz a i) (hb : Sz b j) : Sz (a + b) (i + j + 1) := by
 have e : a + b = mkRat (a.num * b.den + b.num * a.den) (a.den * b.den) := by rw [Rat.add_def, Rat.normalize_eq_mkRat]
 have h := mk_le (a.num * b.den + b.num * a.den) (Nat.mul_pos a.den_pos b.den_pos)
 rw [← e] at h
 have h3 : (a.num * b.den + b.num * a.den).natAbs ≤ a.num.natAbs * b.den + b.num.natAbs * a.den := by
  refine Nat.le_trans (Int.natAbs_add_le _ _) ?_
  rw [Int.natAbs_mul, Int.natAbs_mul]
  simp
 have h4 := mul_lt ha.1 hb.2
 have h5 := mul_lt hb.1 ha.2
 have h6 := mul_lt ha.2 hb.2
 have h7 : (18446744073709551616 : Nat) ^ j * 18446744073709551616 ^ i = 18446744073709551616 ^ i * 18446744073709551616 ^ j := Nat.mul_comm _ _
 unfold Sz
 rw [Nat.pow_succ, Nat.pow_add]
 rw [h7] at h5
 obtain ⟨h1, h2⟩ := h
 generalize (18446744073709551616 : Nat) ^ i * 18446744073709551616 ^ j = P at *
 constructor <;> omega
theorem Tryz.addA (u v : Value) (a b : Rat) (i j : Nat) (w : World) (hu : FracIs w u a i) (hv : FracIs w v b j) (hi : 1 ≤ i) (hj : 1 ≤ j) (hi9 : i ≤ 30000) (hj9 : j ≤ 30000) :
 Calls Tryz.prog 40 #[u, v] w fun e w' => (∃ r, e = .returned r ∧ FracIs w' r (a + b) (i + j + 1)) ∧ Below w.heap.size w w' :=
 (Tryz.frAdd u v a b (max i j) w (hu.more (by omega)) (hv.more (by omega)) (by omega) (by omega)).mono fun e w' ⟨⟨r, h1, h2⟩, h3⟩ =>
  ⟨⟨r, h1, h2.fit ((hu.sz hi).add (hv.sz hj))⟩, h3⟩
theorem Tryz.mulA (u v : Value) (a b : Rat) (i j : Nat) (w : World) (hu : FracIs w u a i) (hv : FracIs w v b j) (hi : 1 ≤ i) (hj : 1 ≤ j) (hi9 : i ≤ 30000) (hj9 : j ≤ 30000) :
 Calls Tryz.prog 41 #[u, v] w fun e w' => (∃ r, e = .returned r ∧ FracIs w' r (a * b) (i + j)) ∧ Below w.heap.size w w' :=
 (Tryz.frMulF u v a b (max i j) w (hu.more (by omega)) (hv.more (by omega)) (by omega) (by omega)).mono fun e w' ⟨⟨r, h1, h2⟩, h3⟩ =>
  ⟨⟨r, h1, h2.fit ((hu.sz hi).mul (hv.sz hj))⟩, h3⟩
theorem Tryz.cmpA (u v : Value) (a b : Rat) (i j : Nat) (w : World) (hu : FracIs w u a i) (hv : FracIs w v b j) (hi : 1 ≤ i) (hj : 1 ≤ j) (hi9 : i ≤ 30000) (hj9 : j ≤ 30000) :
 Calls Tryz.prog 39 #[u, v] w fun e w' => e = .returned (.int .i64 (ordQ a b)) ∧ Below w.heap.size w w' :=
 Tryz.frCmp u v a b (max i j) w (hu.more (by omega)) (hv.more (by omega)) (by omega) (by omega)
end Go.Proofs.Fr
namespace Go.Proofs.Vt
open Go.RowKit Go.Proofs.Wd Go.Proofs.Fr
open Vm (T Rise In)
/-- A slice of terms, wherever it begins. -/
def Terms (w : World) (v : Value) (ts : T) (k : Nat) : Prop :=
 ∃ p cap, v = .slice p ts.length cap ∧ ts.length ≤ cap ∧ cap ≤ maxLen ∧ (ts = [] ∨ ∃ g o cur, p = some ⟨g, o, none⟩ ∧ CellsAt w g cur 87 ∧
   ∀ j t, ts[j]? = some t → ∃ f, cur[o + j * 2]? = some (.int .i64 t.1) ∧ cur[o + j * 2 + 1]? = some f ∧ FracIs w f t.2 k)
theorem Terms.nil (w : World) (p : Option Addr) (cap k : Nat) (h : cap ≤ maxLen) : Terms w (.slice p 0 cap) [] k := ⟨p, cap, rfl, Nat.zero_le _, h, .inl rfl⟩
theorem Terms.below {w w' : World} {v : Value} {ts : T} {k : Nat} (h : Terms w v ts k) (hb : Below w.heap.size w w') : Terms w' v ts k := by
 obtain ⟨p, cap, h1, h2, h3, h4⟩ := h
 refine ⟨p, cap, h1, h2, h3, ?_⟩
 rcases h4 with h4 | ⟨g, o, cur, g1, g2, g3⟩
 ·exact .inl h4
 ·refine .inr ⟨g, o, cur, g1, g2.below hb, fun j t ht => ?_⟩
  obtain ⟨f, f1, f2, f3⟩ := g3 j t ht
  exact ⟨f, f1, f2, f3.below hb⟩
/-- One of the terms. -/
theorem Terms.nth {w : World} {v : Value} {ts : T} {k j : Nat} {t : Int × Rat} (h : Terms w v ts k) (ht : ts[j]? = some t) :
 ∃ g o cap f, v = .slice (some ⟨g, o, none⟩) ts.length cap ∧ ts.length ≤ cap ∧ cap ≤ maxLen ∧ w.cell? ⟨g, o + j * 2, none⟩ = some (.int .i64 t.1) ∧ w.cell? ⟨g, o + j * 2 + 1, none⟩ = some f ∧ FracIs w f t.2 k ∧ g < w.heap.size := by
 obtain ⟨p, cap, h1, h2, h3, h4⟩ := h
 rcases h4 with rfl | ⟨g, o, cur, rfl, g2, g3⟩
 ·simp at ht
 ·obtain ⟨f, f1, f2, f3⟩ := g3 j t ht
  exact ⟨g, o, cap, f, h1, h2, h3, by rw [g2.cell]; exact f1, by rw [g2.cell]; exact f2, f3, g2.lt⟩
/-- The first one, and what is behind it. -/
theorem Terms.cons {w : World} {v : Value} {ts : T} {k : Nat} {t : Int × Rat} (h : Terms w v (t :: ts) k) :
 ∃ g o cap f, v = .slice (some ⟨g, o, none⟩) (ts.length + 1) cap ∧ ts.length + 1 ≤ cap ∧ cap ≤ maxLen ∧ w.cell? ⟨g, o, none⟩ = some (.int .i64 t.1) ∧ w.cell? ⟨g, o + 1, none⟩ = some f ∧ FracIs w f t.2 k ∧ g < w.heap.size ∧
   Terms w (.slice (some (if cap = 1 then ⟨g, o, none⟩ else ⟨g, o + 2, none⟩)) ts.length (cap - 1)) ts k := by
 obtain ⟨p, cap, h1, h2, h3, h4⟩ := h
 rcases h4 with h4 | ⟨g, o, cur, rfl, g2, g3⟩
 ·simp at h4
 ·obtain ⟨f, f1, f2, f3⟩ := g3 0 t rfl
  simp only [Nat.zero_mul, Nat.add_zero] at f1 f2
  simp only [List.length_cons] at h1 h2
  refine ⟨g, o, cap, f, h1, h2, h3, by rw [g2.cell]; exact f1, by rw [g2.cell]; exact f2, f3, g2.lt, _, _, rfl, by omega, by omega, ?_⟩
  by_cases hc : cap = 1
  ·exact .inl (List.length_eq_zero_iff.1 (by omega))
  ·refine .inr ⟨g, o + 2, cur, by rw [if_neg hc], g2, fun j u hu => ?_⟩
   obtain ⟨f, f1, f2, f3⟩ := g3 (j + 1) u (by simpa using hu)
   exact ⟨f, by rw [show o + 2 + j * 2 = o + (j + 1) * 2 by omega]; exact f1, by rw [show o + 2 + j * 2 + 1 = o + (j + 1) * 2 + 1 by omega]; exact f2, f3⟩
theorem Terms.empty {w : World} {v : Value} {k : Nat} (h : Terms w v [] k) : ∃ p cap, v = .slice p 0 cap ∧ cap ≤ maxLen := by
 obtain ⟨p, cap, h1, h2, h3, h4⟩ := h
 exact ⟨p, cap, h1, h3⟩
theorem Terms.slice {w : World} {v : Value} {ts : T} {k : Nat} (h : Terms w v ts k) : ∃ p cap, v = .slice p ts.length cap ∧ ts.length ≤ cap ∧ cap ≤ maxLen := by
 obtain ⟨p, cap, h1, h2, h3, h4⟩ := h
 exact ⟨p, cap, h1, h2, h3⟩
/-- A vector: nil is of nothing. -/
def VecIs (w : World) (v : Value) (ts : T) (k : Nat) : Prop :=
 (v = .pointer none ∧ ts = []) ∨ ∃ a s, v = .pointer (some ⟨a, 0, none⟩) ∧ a < w.heap.size ∧ w.cell? ⟨a, 0, none⟩ = some s ∧ Terms w s ts k
theorem VecIs.below {w w' : World} {v : Value} {ts : T} {k : Nat} (h : VecIs w v ts k) (hb : Below w.heap.size w w') : VecIs w' v ts k := by
 rcases h with h | ⟨a, s, h1, h2, h3, h4⟩
 ·exact .inl h
 ·exact .inr ⟨a, s, h1, by have := hb.size; omega, by rw [hb.cell h2]; exact h3, h4.below hb⟩
theorem Tryz.list (v : Value) (ts : T) (k : Nat) (w : World) (h : VecIs w v ts k) :
 Calls Tryz.prog 66 #[v] w fun e w' => (∃ s, e = .returned s ∧ Terms w s ts k) ∧ w' = w := by
 rcases h with ⟨rfl, rfl⟩ | ⟨a, s, rfl, h2, h3, h4⟩
 ·go_enter Tryz.func66, Tryz.ntmps66
  go_wp2
  go_ret
  exact ⟨⟨_, rfl, Terms.nil _ _ _ _ (Nat.zero_le _)⟩, rfl⟩
 ·have H4 : Hid (Terms w s ts k) := h4
  obtain ⟨p, cap, rfl, -, -⟩ := h4.slice
  clear h4
  go_enter Tryz.func66, Tryz.ntmps66
  go_wp2
  go_ret
  exact ⟨⟨_, rfl, H4.out⟩, rfl⟩
theorem frac_pointer {w : World} {v : Value} {q : Rat} {k : Nat} (h : FracIs w v q k) : ∃ a, v = .pointer a := by
 rcases h with ⟨rfl, -⟩ | ⟨a, rfl, -⟩
 ·exact ⟨_, rfl⟩
 ·exact ⟨_, rfl⟩
theorem Tryz.none_ (c : Int) (f : Value) (q : Rat) (k : Nat) (w : World) (h : FracIs w f q k) :
 Calls Tryz.prog 58 #[.agg #[.int .i64 c, f]] w fun e w' => e = .returned (.bool (decide (q = 0))) ∧ Below w.heap.size w w' := by
 have HF : Hid (FracIs (w.alloc (.cells #[.int .i64 c, f] 87)) f q k) := h.below ((Below.refl _ _).alloc (Nat.le_refl _) _)
 obtain ⟨s, hs⟩ : ∃ s : Int, q.num.sign = s := ⟨_, rfl⟩
 have hd : decide (q = 0) = (s == 0) := by
  rw [← hs, Bool.eq_iff_iff]
  simp [Int.sign_eq_zero_iff_zero, Rat.num_eq_zero]
 have HS : Hid (∀ W, FracIs W f q k → Calls Tryz.prog 64 #[f] W fun e w' => e = .returned (.int .i64 s) ∧ Below W.heap.size W w') := fun W h => by
  have := Tryz.Sign f q k W h
  rw [hs] at this
  exact this
 rw [hd]
 clear h hs hd
 have HB : Hid (Below w.heap.size w (w.alloc (.cells #[.int .i64 c, f] 87))) := (Below.refl _ _).alloc (Nat.le_refl _) _
 go_enter Tryz.func58, Tryz.ntmps58
 go_wp2_with fail
 with_reducible refine (HS.out _ HF.out).mono ?_
 rintro e w1 ⟨rfl, hb⟩
 have HB1 : Hid (Below w.heap.size w w1) := Below.after HB.out hb
 clear hb HB HF HS
 go_wp2
 go_ret
 exact ⟨rfl, HB1.out⟩
end Go.Proofs.Vt
namespace Go.Proofs.Vt
open Go.RowKit Go.Proofs.Wd Go.Proofs.Fr
open Vm (T Rise In)
theorem two_blocks (w : World) (X Y : Array Value) (t : TypeId) : CellsAt ((w.alloc (.cells X t)).alloc (.cells Y t)).drew w.heap.size X t ∧ CellsAt ((w.alloc (.cells X t)).alloc (.cells Y t)).drew (w.heap.size + 1) Y t ∧ Below w.heap.size w ((w.alloc (.cells X t)).alloc (.cells Y t)).drew :=
 ⟨(((CellsAt.new w X t rfl).alloc _).drewN 1), (CellsAt.new (w.alloc (.cells X t)) Y t (by simp)).drewN 1, (((Below.refl _ _).alloc (Nat.le_refl _) _).alloc (by simp) _).drew⟩
/-- What a slice of terms is without its first one. -/
theorem Tryz.tail (g o n cap : Nat) (hn : n + 1 ≤ cap) (hc : cap ≤ 9223372036854775807) (w : World) :
 (Instr.slice 85 (.slice (some ⟨g, o, none⟩) (n + 1) cap) (some (.int .i64 1)) none none).run Tryz.prog w = .ok (.slice (some (if cap = 1 then ⟨g, o, none⟩ else ⟨g, o + 2, none⟩)) n (cap - 1)) w := by
 have h := run_slice_l (P := Tryz.prog) (w := w) 85 (some ⟨g, o, none⟩) (n + 1) cap (by simp [Program.elem, Tryz.underlying85]) .i64 1 (by omega) (by omega)
 rw [h, show Tryz.prog.elem 85 = 87 by simp [Program.elem, Tryz.underlying85], Tryz.sizeOf87]
 show Result.ok (sliced (some ⟨g, o, none⟩) 1 (n + 1) cap 2) w = _
 unfold sliced
 by_cases hc : cap = 1
 ·subst hc
  obtain rfl : n = 0 := by omega
  simp
 ·rw [if_neg (by omega), if_neg hc, Option.map_some, show (⟨g, o, none⟩ : Addr).add (1 * 2) = ⟨g, o + 2, none⟩ from Lib.add_plain g o 2, show n + 1 - 1 = n by omega]
/-- How long a slice is. -/
def lenV : Value → Nat
 | .slice _ n _ => n
 | _ => 0
/-- What Dot's loop keeps to. -/
def DotAt (w0 : World) (d : Rat) (M c i j : Nat) (lv rv sv : Value) (wr : World) : Prop :=
 ∃ l r q m, Terms wr lv l i ∧ Terms wr rv r j ∧ FracIs wr sv q m ∧ Vm.dot q l r = d ∧ 1 ≤ m ∧ m + l.length * c ≤ M ∧ Below w0.heap.size w0 wr
theorem Tryz.vecDot (u v : Value) (l r : T) (i j M : Nat) (w : World) (hu : VecIs w u l i) (hv : VecIs w v r j) (hi : 1 ≤ i) (hj : 1 ≤ j) (hi9 : i ≤ 10000) (hj9 : j ≤ 10000) (hM : 1 + l.length * (i + j + 1) ≤ M) (hM9 : M ≤ 30000) :
 Calls Tryz.prog 27 #[u, v] w fun e w' => (∃ s, e = .returned s ∧ FracIs w' s (Vm.dot 0 l r) M) ∧ Below w.heap.size w w' := by
 have HU : Hid (VecIs w u l i) := hu
 have HV : Hid (VecIs w v r j) := hv
 clear hu hv
 obtain ⟨d, hd⟩ : ∃ d, Vm.dot 0 l r = d := ⟨_, rfl⟩
 rw [hd]
 have HD := Lib.hid hd
 clear hd
 go_enter Tryz.func27, Tryz.ntmps27
 go_wp2_with fail
 with_reducible refine (Tryz.list u l i _ HU.out).mono ?_
 rintro e w1 ⟨⟨lv, rfl, hl⟩, rfl⟩
 have HL1 : Hid (Terms w1 lv l i) := hl
 clear hl HU
 go_wp2_with fail
 with_reducible refine (Tryz.list v r j _ HV.out).mono ?_
 rintro e w2 ⟨⟨rv, rfl, hr⟩, rfl⟩
 have HR2 : Hid (Terms w2 rv r j) := hr
 clear hr HV
 go_wp2_with fail
 with_reducible refine (Tryz.Of 0 _ (by omega) (by omega)).mono ?_
 rintro e w3 ⟨⟨sv, rfl, hs⟩, hb3⟩
 have HS3 : Hid (DotAt w2 d M (i + j + 1) i j lv rv sv w3) := ⟨l, r, 0, 1, HL1.out.below hb3, HR2.out.below hb3, hs, HD.out, by omega, hM, hb3⟩
 clear hs hb3 HL1 HR2 HD hM
 go_wp2_with fail
 go_loopw [5, 6, 7] (fun lv rv sv wr => DotAt w2 d M (i + j + 1) i j lv rv sv wr) (fun lv rv _ _ => lenV lv + lenV rv)
 case atStart => exact HS3.out
 case round =>
  obtain ⟨l1, r1, q, m, hl, hr, hs, hd, hm, hM, hb⟩ := hrel
  cases l1 with
  | nil =>
    obtain ⟨p, cap, rfl, hc⟩ := hl.empty
    rw [Vm.dot] at hd
    subst hd
    have HR : Hid (FracIs wr _ q M) := hs.more (by omega)
    have HB : Hid (Below w2.heap.size w2 wr) := hb
    clear hs hb hl hr hm hM
    go_wp2
    go_ret
    exact ⟨⟨_, rfl, HR.out⟩, HB.out⟩
  | cons t l2 =>
    obtain ⟨g, o, cap, f, rfl, hc1, hc2, hf0, hf1, hff, hg, htl⟩ := hl.cons
    cases r1 with
    | nil =>
      obtain ⟨p', cap', rfl, hc'⟩ := hr.empty
      rw [Vm.dot] at hd
      subst hd
      have HR : Hid (FracIs wr _ q M) := hs.more (by rw [List.length_cons, Nat.succ_mul] at hM; omega)
      have HB : Hid (Below w2.heap.size w2 wr) := hb
      clear hs hb hl hr hm hM hff htl
      unfold maxLen at hc2
      go_wp2
      go_ret
      exact ⟨⟨_, rfl, HR.out⟩, HB.out⟩
    | cons t' r2 =>
      obtain ⟨g', o', cap', f', rfl, hc1', hc2', hf0', hf1', hff', hg', htr⟩ := hr.cons
      obtain ⟨fa, rfl⟩ := frac_pointer hff
      obtain ⟨fb, rfl⟩ := frac_pointer hff'
      have HLw : Hid (Terms wr _ (t :: l2) i) := hl
      have HRw : Hid (Terms wr _ (t' :: r2) j) := hr
      have HL : Hid (Terms wr _ l2 i) := htl
      have HR : Hid (Terms wr _ r2 j) := htr
      have HF : Hid (FracIs wr (.pointer fa) t.2 i) := hff
      have HF' : Hid (FracIs wr (.pointer fb) t'.2 j) := hff'
      have HS : Hid (FracIs wr _ q m) := hs
      have HD : Hid (Vm.dot q (t :: l2) (t' :: r2) = d) := hd
      have HM : Hid (m + (t :: l2).length * (i + j + 1) ≤ M) := hM
      have HB : Hid (Below w2.heap.size w2 wr) := hb
      clear hl hr hff hff' hs hd hM hb htl htr
      unfold maxLen at hc2 hc2'
      go_upto_region 4 with (fail)
      go_cut [8, 9] (fun av bv wx => ∃ a b : Nat, av = .pointer (some ⟨a, 0, none⟩) ∧ bv = .pointer (some ⟨b, 0, none⟩) ∧ CellsAt wx a #[.int .i64 t.1, .pointer fa] 87 ∧ CellsAt wx b #[.int .i64 t'.1, .pointer fb] 87 ∧ Below wr.heap.size wr wx)
      case first =>
       go_region_held3 (fun w' => w'.cell? ⟨g, o, none⟩ = some (.int .i64 t.1) ∧ w'.cell? ⟨g, o + 1, none⟩ = some (.pointer fa) ∧ w'.cell? ⟨g', o', none⟩ = some (.int .i64 t'.1) ∧ w'.cell? ⟨g', o' + 1, none⟩ = some (.pointer fb)) (go_keep) (fail)
       all_goals (go_wp2_with fail; go_meet; first | exact ⟨_, _, rfl, rfl, (two_blocks _ _ _ _).1, (two_blocks _ _ _ _).2.1, (two_blocks _ _ _ _).2.2⟩ | exact ⟨_, _, rfl, rfl, (two_blocks _ _ _ _).2.1, (two_blocks _ _ _ _).1, (two_blocks _ _ _ _).2.2⟩)
      case rest =>
       obtain ⟨a, b, rfl, rfl, ha, hb', hbw⟩ := hcut
       have HLw2 : Hid (Terms wc _ (t :: l2) i) := HLw.out.below hbw
       have HRw2 : Hid (Terms wc _ (t' :: r2) j) := HRw.out.below hbw
       have HL2 : Hid (Terms wc _ l2 i) := HL.out.below hbw
       have HR2 : Hid (Terms wc _ r2 j) := HR.out.below hbw
       have HF2 : Hid (FracIs wc (.pointer fa) t.2 i) := HF.out.below hbw
       have HF2' : Hid (FracIs wc (.pointer fb) t'.2 j) := HF'.out.below hbw
       have HS2 : Hid (FracIs wc _ q m) := HS.out.below hbw
       have HB2 : Hid (Below w2.heap.size w2 wc) := Below.after HB.out hbw
       have HA2 := Lib.hid ha
       have HC2 := Lib.hid hb'
       have a0 := ha.cell 0
       have b0 := hb'.cell 0
       have a1 := ha.cell 1
       have b1 := hb'.cell 1
       simp only [List.getElem?_toArray, List.getElem?_cons_zero, List.getElem?_cons_succ] at a0 a1 b0 b1
       clear HL HR HLw HRw HF HF' HS HB hbw hf0 hf1 hf0' hf1' hg hg' ha hb'
       have hsl : ∀ W, (Instr.slice 85 (.slice (some ⟨g, o, none⟩) (l2.length + 1) cap) (some (.int .i64 1)) none none).run Tryz.prog W = _ := Tryz.tail g o l2.length cap hc1 hc2
       have hsr : ∀ W, (Instr.slice 85 (.slice (some ⟨g', o', none⟩) (r2.length + 1) cap') (some (.int .i64 1)) none none).run Tryz.prog W = _ := Tryz.tail g' o' r2.length cap' hc1' hc2'
       rcases Int.lt_trichotomy t.1 t'.1 with h | h | h
       ·have e1 : (t.1 == t'.1) = false := by simp; omega
        have e2 : decide (t.1 ≤ t'.1) = true := by simp; omega
        have e3 : decide (t'.1 ≤ t.1) = false := by simp; omega
        have HR : Hid (DotAt w2 d M (i + j + 1) i j _ _ _ wc) := ⟨l2, t' :: r2, q, m, HL2.out, HRw2.out, HS2.out, by rw [← HD.out, Vm.dot, if_neg (by omega), if_pos h], hm, by have := HM.out; rw [List.length_cons, Nat.succ_mul] at this; omega, HB2.out⟩
        clear HLw2 HRw2 HL2 HR2 HS2 HB2 HM HD
        go_wp2
        go_roundw
        case rel => exact HR.out
        case measure => simp [lenV]
       ·have e1 : (t.1 == t'.1) = true := by simp; omega
        have e2 : decide (t.1 ≤ t'.1) = true := by simp; omega
        have e3 : decide (t'.1 ≤ t.1) = true := by simp; omega
        have HD2 : Hid (Vm.dot (q + t.2 * t'.2) l2 r2 = d) := by
         have := HD.out
         rw [Vm.dot, if_pos h] at this
         exact this
        have HM2 : Hid (m + (i + j) + 1 + l2.length * (i + j + 1) ≤ M) := by
         have := HM.out
         rw [List.length_cons, Nat.succ_mul] at this
         show _ ≤ _
         omega
        clear HLw2 HRw2 HM HD h
        have hm9 : m ≤ 30000 := by have := HM2.out; omega
        go_wp2_with fail
        with_reducible refine (Tryz.mulA _ _ t.2 t'.2 i j _ HF2.out HF2'.out hi hj (by omega) (by omega)).mono ?_
        rintro e w5 ⟨⟨p, rfl, hp⟩, hb5⟩
        have HL5 : Hid (Terms w5 _ l2 i) := HL2.out.below hb5
        have HR5 : Hid (Terms w5 _ r2 j) := HR2.out.below hb5
        have HS5 : Hid (FracIs w5 _ q m) := HS2.out.below hb5
        have HP5 : Hid (FracIs w5 p (t.2 * t'.2) (i + j)) := hp
        have HB5 : Hid (Below w2.heap.size w2 w5) := Below.after HB2.out hb5
        have HA5 := Lib.hid (HA2.out.below hb5)
        have HC5 := Lib.hid (HC2.out.below hb5)
        clear hp hb5 HL2 HR2 HS2 HB2 HA2 HC2 a0 a1 b0 b1 HF2 HF2'
        go_wp2_with fail
        with_reducible refine (Tryz.addA _ _ q (t.2 * t'.2) m (i + j) _ HS5.out HP5.out hm (by omega) hm9 (by omega)).mono ?_
        rintro e w6 ⟨⟨z, rfl, hz⟩, hb6⟩
        have HR : Hid (DotAt w2 d M (i + j + 1) i j _ _ z w6) := ⟨l2, r2, q + t.2 * t'.2, m + (i + j) + 1, HL5.out.below hb6, HR5.out.below hb6, hz, HD2.out, by omega, HM2.out, Below.after HB5.out hb6⟩
        have a0 := (HA5.out.below hb6).cell 0
        have b0 := (HC5.out.below hb6).cell 0
        simp only [List.getElem?_toArray, List.getElem?_cons_zero] at a0 b0
        clear hz hb6 HL5 HR5 HS5 HP5 HB5 HA5 HC5 HD2 HM2
        go_wp2
        go_roundw
        case rel => exact HR.out
        case measure => simp [lenV]; omega
       ·have e1 : (t.1 == t'.1) = false := by simp; omega
        have e2 : decide (t.1 ≤ t'.1) = false := by simp; omega
        have e3 : decide (t'.1 ≤ t.1) = true := by simp; omega
        have HR : Hid (DotAt w2 d M (i + j + 1) i j _ _ _ wc) := ⟨t :: l2, r2, q, m, HLw2.out, HR2.out, HS2.out, by rw [← HD.out, Vm.dot, if_neg (by omega), if_neg (by omega)], hm, HM.out, HB2.out⟩
        clear HLw2 HRw2 HL2 HR2 HS2 HB2 HM HD
        go_wp2
        go_roundw
        case rel => exact HR.out
        case measure => simp [lenV]
end Go.Proofs.Vt
namespace Go.Proofs.Vt
open Go.RowKit Go.Proofs.Wd Go.Proofs.Fr
open Vm (T Rise In)
theorem otherCell (w : World) {a B : Nat} (h : a ≠ B) (i j : Nat) (u : Value) : (w.setCell ⟨B, j, none⟩ u).cell? ⟨a, i, none⟩ = w.cell? ⟨a, i, none⟩ := World.cell?_of_block (Below.heap_setCell w _ u a h)
/-- A number, a fraction stay while a struct is written that begins with an int. -/
theorem num_store {w : World} {v : Value} {z y : Int} {n B : Nat} {c : Array Value} {t : TypeId} (h : Num w v z n) (hc : CellsAt w B c t) (h0 : c[0]? = some (.int .i64 y)) (ht : t ≠ 73) (j : Nat) (u : Value) : Num (w.setCell ⟨B, j, none⟩ u) v z n := by
 obtain ⟨xs, h1, h2⟩ := h
 refine ⟨xs, ?_, h2⟩
 rcases h1 with h1 | ⟨a, s, g1, g2, g3, g4⟩
 ·exact .inl h1
 ·obtain ⟨p, cap, rfl, -, -⟩ := g4.slice
  have hne : a ≠ B := by
   rintro rfl
   rw [hc.cell 0, h0] at g3
   simp at g3
  exact .inr ⟨a, _, g1, by simpa using g2, by rw [otherCell w hne]; exact g3, hc.keeps g4 ht j u⟩
theorem frac_store {w : World} {v : Value} {q : Rat} {y : Int} {k B : Nat} {c : Array Value} {t : TypeId} (h : FracIs w v q k) (hc : CellsAt w B c t) (h0 : c[0]? = some (.int .i64 y)) (ht : t ≠ 73) (j : Nat) (u : Value) : FracIs (w.setCell ⟨B, j, none⟩ u) v q k := by
 rcases h with h | ⟨a, rfl, g0, g1, h⟩
 ·exact .inl h
 ·have hn : a ≠ B := by
   rintro rfl
   rw [hc.cell 0, h0] at g1
   simp at g1
  rcases h with ⟨e0, e1, e2, e3⟩ | ⟨e0, e1, e2, b', x, y', e3, e4, e5, e6, e7, e8⟩
  ·exact .inr ⟨a, rfl, by simpa using g0, by rw [otherCell w hn]; exact g1, .inl ⟨e0, by rw [otherCell w hn]; exact e1, by rw [otherCell w hn]; exact e2, by rw [otherCell w hn]; exact e3⟩⟩
  ·have hb : b' ≠ B := by
    rintro rfl
    obtain ⟨l, rfl⟩ := num_pointer e7
    rw [hc.cell 0, h0] at e5
    simp at e5
   exact .inr ⟨a, rfl, by simpa using g0, by rw [otherCell w hn]; exact g1, .inr ⟨e0, by rw [otherCell w hn]; exact e1, by rw [otherCell w hn]; exact e2, b', x, y', by rw [otherCell w hn]; exact e3, by simpa using e4, by rw [otherCell w hb]; exact e5, by rw [otherCell w hb]; exact e6, num_store e7 hc h0 ht j u, num_store e8 hc h0 ht j u⟩⟩
end Go.Proofs.Vt
namespace Go.Proofs.Vt
open Go.RowKit Go.Proofs.Wd Go.Proofs.Fr
open Vm (T Rise In)
/-- A block that holds structs which begin with an int, or nothing. -/
structure IntHead (w : World) (row : Option Nat) : Prop where
 head : ∀ g, row = some g → ∀ u, w.cell? ⟨g, 0, none⟩ = some u → ∃ z, u = .int .i64 z
 type : ∀ g, row = some g → ∃ cur t, CellsAt w g cur t ∧ t ≠ 73
theorem num_grown {w w' : World} {v : Value} {z : Int} {n : Nat} {row : Option Nat} (h : Num w v z n) (hg : w.grownBy w' row) (hr : IntHead w row) : Num w' v z n := by
 obtain ⟨xs, h1, h2⟩ := h
 refine ⟨xs, ?_, h2⟩
 rcases h1 with h1 | ⟨a, s, g1, g2, g3, g4⟩
 ·exact .inl h1
 ·refine .inr ⟨a, s, g1, Nat.lt_of_lt_of_le g2 hg.size, hg.cell g3 (fun e => ?_), ?_⟩
  ·obtain ⟨p, cap, rfl, -, -⟩ := g4.slice
   obtain ⟨y, hy⟩ := hr.head a e.symm _ g3
   simp at hy
  ·refine World.ownsRow.kept g4 hg ?_
   obtain ⟨g40, g41⟩ := g4
   rcases g41 with ⟨rfl, -⟩ | ⟨b, cap, cur, rfl, hb, hh, r⟩
   ·exact .inl rfl
   ·refine .inr (fun e => ?_)
    obtain ⟨cur', t, hc, ht⟩ := hr.type b (by rw [← e]; rfl)
    have h3 : some (Obj.cells cur 73 (0, 0)) = some (Obj.cells cur' t (0, 0)) := hh.symm.trans hc
    simp at h3
    exact ht h3.2.symm
theorem frac_grown {w w' : World} {v : Value} {q : Rat} {k : Nat} {row : Option Nat} (h : FracIs w v q k) (hg : w.grownBy w' row) (hr : IntHead w row) : FracIs w' v q k := by
 rcases h with h | ⟨a, rfl, g0, g1, h⟩
 ·exact .inl h
 ·have hn : some a ≠ row := fun e => by
   obtain ⟨y, hy⟩ := hr.head a e.symm _ g1
   simp at hy
  have ga : ∀ j u, w.cell? ⟨a, j, none⟩ = some u → w'.cell? ⟨a, j, none⟩ = some u := fun j u hu => hg.cell hu hn
  have g0' : a < w'.heap.size := Nat.lt_of_lt_of_le g0 hg.size
  rcases h with ⟨e0, e1, e2, e3⟩ | ⟨e0, e1, e2, b', x, y', e3, e4, e5, e6, e7, e8⟩
  ·exact .inr ⟨a, rfl, g0', ga _ _ g1, .inl ⟨e0, ga _ _ e1, ga _ _ e2, ga _ _ e3⟩⟩
  ·have hb : some b' ≠ row := fun e => by
    obtain ⟨l, rfl⟩ := num_pointer e7
    obtain ⟨y, hy⟩ := hr.head b' e.symm _ e5
    simp at hy
   exact .inr ⟨a, rfl, g0', ga _ _ g1, .inr ⟨e0, ga _ _ e1, ga _ _ e2, b', x, y', ga _ _ e3, Nat.lt_of_lt_of_le e4 hg.size, hg.cell e5 hb, hg.cell e6 hb, num_grown e7 hg hr, num_grown e8 hg hr⟩⟩
/-- The cells of terms. -/
def cellsOf (ps : List (Int × Rat × Value)) : List Value := ps.flatMap fun p => [.int .i64 p.1, p.2.2]
theorem cellsOf_len (ps : List (Int × Rat × Value)) : (cellsOf ps).length = ps.length * 2 := by
 induction ps with
 | nil => rfl
 | cons p ps ih =>
   show ([_, _] ++ cellsOf ps).length = _
   rw [List.length_append, ih, List.length_cons]
   simp; omega
theorem cellsOf_get (ps : List (Int × Rat × Value)) (j : Nat) (p : Int × Rat × Value) (h : ps[j]? = some p) : (cellsOf ps)[j * 2]? = some (.int .i64 p.1) ∧ (cellsOf ps)[j * 2 + 1]? = some p.2.2 := by
 induction ps generalizing j with
 | nil => simp at h
 | cons q ps ih =>
   show ([_, _] ++ cellsOf ps)[_]? = _ ∧ ([_, _] ++ cellsOf ps)[_]? = _
   cases j with
   | zero =>
     obtain rfl : q = p := by simpa using h
     simp
   | succ j =>
     have := ih j (by simpa using h)
     rw [List.getElem?_append_right (by simp; omega), List.getElem?_append_right (by simp; omega)]
     simpa [show (j + 1) * 2 - 2 = j * 2 by omega, show (j + 1) * 2 + 1 - 2 = j * 2 + 1 by omega] using this
/-- A row of terms of the call's own. -/
def OwnT (B : Nat) (w : World) (v : Value) (ts : T) (k : Nat) : Prop :=
 ∃ ps : List (Int × Rat × Value), ts = ps.map (fun p => (p.1, p.2.1)) ∧ w.ownsRow B 87 2 v ps.length (cellsOf ps) ∧ (∀ p ∈ ps, FracIs w p.2.2 p.2.1 k) ∧ IntHead w v.ownBlock
theorem IntHead.below {w w' : World} {row : Option Nat} (h : IntHead w row) (hb : Below w.heap.size w w') : IntHead w' row := by
 constructor
 ·intro g hg u hu
  obtain ⟨cur, t, hc, -⟩ := h.type g hg
  rw [hb.cell hc.lt] at hu
  exact h.head g hg u hu
 ·intro g hg
  obtain ⟨cur, t, hc, ht⟩ := h.type g hg
  exact ⟨cur, t, hc.below hb, ht⟩
theorem ownsRow_below {B : Nat} {w w' : World} {v : Value} {n : Nat} {xs : List Value} {t : TypeId} {size : Nat} (h : w.ownsRow B t size v n xs) (hb : Below w.heap.size w w') : w'.ownsRow B t size v n xs := by
 obtain ⟨h0, h⟩ := h
 refine ⟨h0, ?_⟩
 rcases h with h | ⟨g, cap, cur, h1, hg, hh, r⟩
 ·exact .inl h
 ·exact .inr ⟨g, cap, cur, h1, hg, by rw [hb.block g (Array.getElem?_eq_some_iff.1 hh).1]; exact hh, r⟩
theorem OwnT.below {B : Nat} {w w' : World} {v : Value} {ts : T} {k : Nat} (h : OwnT B w v ts k) (hb : Below w.heap.size w w') : OwnT B w' v ts k := by
 obtain ⟨ps, h1, h2, h3, h4⟩ := h
 exact ⟨ps, h1, ownsRow_below h2 hb, fun p hp => (h3 p hp).below hb, h4.below hb⟩
theorem OwnT.terms {B : Nat} {w : World} {v : Value} {ts : T} {k : Nat} (h : OwnT B w v ts k) : Terms w v ts k := by
 obtain ⟨ps, rfl, h2, h3, h4⟩ := h
 obtain ⟨h20, h2⟩ := h2
 rcases h2 with ⟨rfl, h0⟩ | ⟨g, cap, cur, rfl, hg, hh, hn, hm, hs, ht⟩
 ·obtain rfl := List.length_eq_zero_iff.1 h0
  exact Terms.nil _ _ _ _ (Nat.zero_le _)
 ·refine ⟨_, cap, by rw [List.length_map], by rw [List.length_map]; exact hn, hm, .inr ⟨g, 0, cur, rfl, hh, fun j t hj => ?_⟩⟩
  rw [List.getElem?_map] at hj
  obtain ⟨p, hp, rfl⟩ := Option.map_eq_some_iff.1 hj
  have hl : j < ps.length := (List.getElem?_eq_some_iff.1 hp).1
  have hg := cellsOf_get ps j p hp
  rw [← ht, List.getElem?_take_of_lt (by omega), List.getElem?_take_of_lt (by omega), Array.getElem?_toList, Array.getElem?_toList] at hg
  exact ⟨p.2.2, by rw [Nat.zero_add]; exact hg.1, by rw [Nat.zero_add]; exact hg.2, h3 p (List.mem_of_getElem? hp)⟩
/-- The cells of a slice of terms, and the values of its fractions. -/
theorem Terms.cells {w : World} {v : Value} {ts : T} {k : Nat} (h : Terms w v ts k) : ∃ ps : List (Int × Rat × Value), ts = ps.map (fun p => (p.1, p.2.1)) ∧ (∀ p ∈ ps, FracIs w p.2.2 p.2.1 k) ∧
 ∀ g o n cap, v = .slice (some ⟨g, o, none⟩) n cap → ∀ j u, (cellsOf ps)[j]? = some u → w.cell? ((⟨g, o, none⟩ : Addr).add j) = some u := by
 obtain ⟨p, cap, rfl, h2, h3, h4⟩ := h
 rcases h4 with rfl | ⟨g, o, cur, rfl, hc, hx⟩
 ·exact ⟨[], rfl, fun p hp => by simp at hp, fun g o n cap _ j u hu => by simp [cellsOf] at hu⟩
 ·clear h2 h3
  suffices hs : ∀ (ts : T) (o : Nat), (∀ j t, ts[j]? = some t → ∃ f, cur[o + j * 2]? = some (.int .i64 t.1) ∧ cur[o + j * 2 + 1]? = some f ∧ FracIs w f t.2 k) → ∃ ps : List (Int × Rat × Value), ts = ps.map (fun p => (p.1, p.2.1)) ∧ (∀ p ∈ ps, FracIs w p.2.2 p.2.1 k) ∧ ∀ j u, (cellsOf ps)[j]? = some u → cur[o + j]? = some u by
   obtain ⟨ps, p1, p2, p3⟩ := hs ts o hx
   refine ⟨ps, p1, p2, ?_⟩
   rintro g' o' n cap' e j u hu
   simp only [Value.slice.injEq, Option.some.injEq, Addr.mk.injEq] at e
   obtain ⟨⟨rfl, rfl, -⟩, -, -⟩ := e
   rw [Lib.add_plain, hc.cell]
   exact p3 j u hu
  intro ts
  induction ts with
  | nil => exact fun o _ => ⟨[], rfl, fun p hp => by simp at hp, fun j u hu => by simp [cellsOf] at hu⟩
  | cons t ts ih =>
    intro o hx
    obtain ⟨f, f1, f2, f3⟩ := hx 0 t rfl
    obtain ⟨ps, p1, p2, p3⟩ := ih (o + 2) (fun j t ht => by
     obtain ⟨f, f1, f2, f3⟩ := hx (j + 1) t (by simpa using ht)
     exact ⟨f, by rw [show o + 2 + j * 2 = o + (j + 1) * 2 by omega]; exact f1, by rw [show o + 2 + j * 2 + 1 = o + (j + 1) * 2 + 1 by omega]; exact f2, f3⟩)
    refine ⟨(t.1, t.2, f) :: ps, by rw [List.map_cons, ← p1], fun p hp => ?_, fun j u hu => ?_⟩
    ·rcases List.mem_cons.1 hp with rfl | hp
     ·exact f3
     ·exact p2 p hp
    ·have hu' : ([.int .i64 t.1, f] ++ cellsOf ps)[j]? = some u := hu
     match j, hu' with
     | 0, hu' => simp at hu'; rw [← hu']; simpa using f1
     | 1, hu' => simp at hu'; rw [← hu']; simpa using f2
     | j + 2, hu' =>
       rw [List.getElem?_append_right (by simp)] at hu'
       have := p3 j u (by simpa using hu')
       rw [show o + (j + 2) = o + 2 + j by omega]
       exact this
theorem Tryz.infoTerm : (Tryz.prog.info? 87).map (fun i => (i.zero, i.size, i.bytes)) = some (some (.agg #[.int .i64 0, .pointer none]), 2, 16) := by kernel_rfl
theorem append_empty {P : Program} {w : World} {B : Nat} {t e ty : TypeId} {i : TypeInfo} {v : Value} {n size : Nat} {xs : List Value} (ht : P.underlying t = some (.slice e)) (hi : P.info? e = some i) (h : w.ownsRow B e size v n xs) (p : Option Addr) (cap : Nat) :
 (Builtin.append_ #[t, t] ty #[v, .slice p 0 cap]).run P w = .ok v w := by
 rcases h.2 with ⟨rfl, rfl⟩ | ⟨g, c, cur, rfl, _, _, hn, _⟩
 ·cases p <;> simp [Builtin.append_, run_underlying ht, sizeOf, typeInfo, hi, Builtin.lenOf, Builtin.firstCells, loadCells, loadCellsFrom]
 ·cases p <;> simp [Builtin.append_, run_underlying ht, sizeOf, typeInfo, hi, Builtin.lenOf, Builtin.firstCells, loadCells, loadCellsFrom, hn, storeCells]
/-- An append whose run is known. -/
theorem wp_append {P : Program} {o : Oper} {a : Act} {KX : Act → World → Prop} {Q : Exit → Act → World → Prop} {w w' : World} {v y v' : Value} (s x : Operand) (t : TypeId) (ho : o.op = .call { callee := .builtin .append, args := #[s, x], argTypes := #[t, t] })
 (hs : a.eval s = v) (hx : a.eval x = y) (hr : (Builtin.append_ #[t, t] o.type #[v, y]).run P w = .ok v' w') (h : KX (a.put o.dst v') w') : o.wp P a w KX Q := by
 unfold Oper.wp execOp
 simp only [ho, resolve, invoke, builtin, Sem.run_bind, Sem.run_pure, Result.andThen_ok, List.map_toArray, List.map_cons, List.map_nil, hs, hx, hr]
 exact h
theorem wpList_append {P : Program} {ops : Array Oper} {rest : List Oper} {o : Oper} {a : Act} {Q : Exit → Act → World → Prop} {w w' : World} {v y v' : Value} (hgd : o.guard = none) (s x : Operand) (t : TypeId) (ho : o.op = .call { callee := .builtin .append, args := #[s, x], argTypes := #[t, t] })
 (hs : a.eval s = v) (hx : a.eval x = y) (hr : (Builtin.append_ #[t, t] o.type #[v, y]).run P w = .ok v' w') (h : wpList P ops Q rest (a.put o.dst v') w') : wpList P ops Q (o :: rest) a w :=
 wpList_plain hgd fun _ hK => wp_append s x t ho hs hx hr (hK _ _ h)
theorem OwnT.ge {B : Nat} {w : World} {v : Value} {ts : T} {k : Nat} (h : OwnT B w v ts k) : ∀ g, v.ownBlock = some g → B ≤ g := by
 obtain ⟨ps, -, h2, -, -⟩ := h
 exact fun g hg => (World.ownsRow.lt h2 g hg).1
end Go.Proofs.Vt
