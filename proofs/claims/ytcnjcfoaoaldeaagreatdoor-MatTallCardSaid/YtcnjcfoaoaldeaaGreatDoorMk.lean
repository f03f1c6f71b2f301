/- Matrices: what answers of the package mat returns. Matrices: what Rank and Inverse of the package mat return. Matrices: what Solve of the package mat returns. MatTall: of more rows than columns there is one solution, or none: the call returns true. -/
import Derived.Test.YtcnjcfoaoaldeaaGreatDoorRn
import Derived.Test.YtcnjcfoaoaldeaaGreatDoorMw
import Derived.Test.YtcnjcfoaoaldeaaGreatDoorMf
set_option linter.unusedVariables false
set_option maxHeartbeats 16000000
set_option maxRecDepth 100000
namespace Go.Proofs.Mt
open Go.RowKit Go.Proofs.Wd Go.Proofs.Fr Go.Proofs.Vt Go.Proofs.Mm
/-- There is just one answer to each question, and X tells them. -/
structure AnsY (E X : F) (R u r : Nat) : Prop where
 rank : RankIs E R u u
 sol : ∀ c, c < r → ∀ i, i < R → dotF (E i) (fun x => X x c) u = E i (u + c)
 one : ∀ c y, c < r → (∀ i, i < R → dotF (E i) y u = E i (u + c)) → ∀ x, x < u → y x = X x c
/-- There is not. -/
def AnsN (E : F) (R u r : Nat) : Prop := (∃ t, t < u ∧ RankIs E R u t) ∨ (u < R ∧ ∃ c, c < r ∧ ∀ y, ¬∀ i, i < R → dotF (E i) y u = E i (u + c))
theorem dot_zero {f x : Nat → Rat} {n : Nat} (h : ∀ j, j < n → f j = 0) : dotF f x n = 0 := by
 unfold dotF
 rw [Vm.sum_congr (g := fun _ => 0) (fun j hj => by show f j * x j = 0; rw [h j hj, Rat.zero_mul])]
 induction n with
 | zero => rfl
 | succ n ih => show Vm.sum (fun _ => (0 : Rat)) n + 0 = 0; rw [ih fun j hj => h j (by omega)]; grind
theorem ansN_rank {E E' : F} {told : Nat → Nat} {t R u r : Nat} (h : RowEq E E' R (u + r)) (e : Ech E' told t R u) (b : Bare E' t R u) (ht : t < u) : AnsN E R u r := .inl ⟨t, ht, rank_of h (by omega) e b⟩
theorem ansN_line {E E' : F} {R u r l j : Nat} (h : RowEq E E' R (u + r)) (b : Bare E' u R u) (hl : u ≤ l) (hlR : l < R) (hj : j < u + r) (hz : E' l j ≠ 0) : AnsN E R u r := by
 have hju : u ≤ j := Nat.le_of_not_lt fun hx => hz (b l j hl hlR hx)
 refine .inr ⟨by omega, j - u, by omega, fun y hy => hz ?_⟩
 have := (h.solves (c := j - u) (by omega)).1 hy l hlR
 rw [dot_zero fun j hj => b l j hl hlR hj, show u + (j - u) = j by omega] at this
 exact this.symm
theorem ansY {E E' H X : F} {told : Nat → Nat} {R u r : Nat} (h : RowEq E E' R (u + r)) (e : Ech E' told u R u) (b : Bare E' u R u) (hz : ∀ l, u ≤ l → l < R → ∀ j, j < u + r → E' l j = 0) (hk : Back E' told u r 0 H) (hX : ∀ i c, i < u → X (told i) c = H i (u + c)) : AnsY E X R u r := by
 have hsol : ∀ c, c < r → ∀ i, i < R → dotF (E' i) (fun x => X x c) u = E' i (u + c) := fun c hc i hi => by
  by_cases hiu : i < u
  ·exact back_solves e (b := fun i => E' i (u + c)) (X := fun j => H j (u + c)) (fun j hj => hX j c hj) (fun i hi => hk.put i c (Nat.zero_le _) hi hc) hiu
  ·rw [dot_zero fun j hj => hz i (by omega) hi j (by omega), hz i (by omega) hi (u + c) (by omega)]
 refine ⟨rank_of h (by omega) e b, fun c hc => (h.solves hc).2 (hsol c hc), fun c y hc hy => ?_⟩
 exact Ech.uniq h e hy ((h.solves hc).2 (hsol c hc))
/-- What stands at an unknown. -/
noncomputable def ansX (H : F) (told : Nat → Nat) (u : Nat) : F := fun x c => open Classical in if h : ∃ i, i < u ∧ told i = x then H h.choose (u + c) else 0
theorem ansX_at {E' : F} {told : Nat → Nat} {R u i : Nat} (H : F) (e : Ech E' told u R u) (hi : i < u) (c : Nat) : ansX H told u (told i) c = H i (u + c) := by
 have h : ∃ j, j < u ∧ told j = told i := ⟨i, hi, rfl⟩
 rw [ansX, dif_pos h, e.inj h.choose_spec.1 hi h.choose_spec.2]
/-- The lines of the unknowns, n of them written. -/
def XAt (w : World) (g u r n : Nat) (told : Nat → Nat) (X : F) (k : Nat) : Prop := ∃ cur, CellsAt w g cur 113 ∧ cur.size = u ∧ ∀ j, j < u → ∃ v, cur[j]? = some v ∧ ((v = .slice none 0 0 ∧ ∀ i, i < n → told i ≠ j) ∨ LineR w v r (X j) k)
theorem XAt.below {w w' : World} {g u r n k : Nat} {told : Nat → Nat} {X : F} (h : XAt w g u r n told X k) (hb : Below w.heap.size w w') : XAt w' g u r n told X k := by
 obtain ⟨cur, h1, h2, h3⟩ := h
 refine ⟨cur, h1.below hb, h2, fun j hj => ?_⟩
 obtain ⟨v, v1, v2⟩ := h3 j hj
 exact ⟨v, v1, v2.imp id fun x => x.below hb⟩
theorem XAt.odd {w : World} {g u r n k : Nat} {told : Nat → Nat} {X : F} (h : XAt w g u r n told X k) (hr : 0 < r) : Odd w g := by
 obtain ⟨cur, h1, h2, h3⟩ := h
 refine ⟨cur, _, h1, by decide, fun u' hu => ?_⟩
 have hlt := (Array.getElem?_eq_some_iff.1 hu).1
 obtain ⟨v, v1, v2⟩ := h3 0 (by omega)
 rw [hu] at v1
 rw [Option.some.inj v1]
 rcases v2 with ⟨rfl, -⟩ | v2
 ·exact .inr (.inl ⟨0, 0, rfl⟩)
 ·exact v2.oddv hr
theorem XAt.set {w : World} {g u r n k : Nat} {told : Nat → Nat} {X : F} {v : Value} (h : XAt w g u r n told X k) (hr : 0 < r) (hn : told n < u) (hv : LineR w v r (X (told n)) k) : XAt (w.setCell ⟨g, told n, none⟩ v) g u r (n + 1) told X k := by
 have ho := h.odd hr
 obtain ⟨cur, h1, h2, h3⟩ := h
 refine ⟨_, h1.set _ v, by simp [h2], fun j hj => ?_⟩
 by_cases e : j = told n
 ·subst e
  exact ⟨v, get_put' (by omega), .inr (hv.far (grown_setCell _ _ _ _) ho (hv.other h1 (by decide)))⟩
 ·obtain ⟨y, y1, y2⟩ := h3 j hj
  refine ⟨y, by rw [get_put (fun q => e q.symm)]; exact y1, ?_⟩
  rcases y2 with ⟨rfl, y3⟩ | y3
  ·refine .inl ⟨rfl, fun i hi => ?_⟩
   by_cases e2 : i = n
   ·rw [e2]; exact fun q => e q.symm
   ·exact y3 i (by omega)
  ·exact .inr (y3.far (grown_setCell _ _ _ _) ho (y3.other h1 (by decide)))
theorem XAt.cell {w : World} {g u r n k j : Nat} {told : Nat → Nat} {X : F} (h : XAt w g u r n told X k) (hj : j < u) : (∃ v, w.cell? ⟨g, j, none⟩ = some v) ∧ w.frozen? ⟨g, j, none⟩ = false ∧ g < w.heap.size := by
 obtain ⟨cur, h1, h2, h3⟩ := h
 obtain ⟨v, v1, -⟩ := h3 j hj
 exact ⟨⟨v, (h1.cell j).trans v1⟩, h1.free j, h1.lt⟩
theorem XAt.done {w : World} {g u r k : Nat} {told : Nat → Nat} {X : F} (h : XAt w g u r u told X k) (ho : ∀ j, j < u → ∃ i, i < u ∧ told i = j) (hu : u ≤ maxLen) : LinesR w (.slice (some ⟨g, 0, none⟩) u u) u r X k := by
 obtain ⟨cur, h1, h2, h3⟩ := h
 refine ⟨_, _, rfl, Nat.le_refl _, hu, .inr ⟨g, 0, cur, rfl, h1, fun j hj => ?_⟩⟩
 obtain ⟨v, v1, v2⟩ := h3 j hj
 refine ⟨v, by rw [Nat.zero_add]; exact v1, ?_⟩
 rcases v2 with ⟨-, v2⟩ | v2
 ·obtain ⟨i, hi, e⟩ := ho j hj
  exact absurd e (v2 i hi)
 ·exact v2
theorem LinesO.xat {w : World} {g u r C k : Nat} {M : F} (h : LinesO w g u 0 C M k) (told : Nat → Nat) (X : F) (kx : Nat) : XAt w g u r 0 told X kx := by
 obtain ⟨cur, h1, h2, h3, h4⟩ := h.cells
 exact ⟨cur, h1, h2, fun j hj => ⟨_, h4 j (Nat.zero_le _) hj, .inl ⟨rfl, fun i hi => by omega⟩⟩⟩
theorem Kb_le (s u i l : Nat) : Kb s u i l ≤ bk s u := by
 unfold Kb
 split
 ·exact bk_le (by omega)
 ·exact bk_ge _ _
/-- Another block of lines is written over. -/
theorem Eqs.apart {B : Nat} {w w' : World} {e L cap R u N t b : Nat} {E : F} {told K G c : Nat → Nat} {cur : Array Value} (h : Eqs B w e L cap R u N t E told K G c) (hg : w.grownBy w' (some b)) (hc : CellsAt w b cur 113) (ho : Odd w b) (hne : L ≠ b) : Eqs B w' e L cap R u N t E told K G c := by
 refine h.other hg hc (by decide) (by decide) (h.lns.keeps (keeps_grown hg) (fun x hx => by rw [hx]; exact ho) hne fun i hi hx => ?_) h.bG
 obtain ⟨cg, hcg, -⟩ := (h.lns.line i hi).cells
 exact cells_ne hcg hc (by decide) hx
theorem Tryz.matAnswers (B e L cap R u r k : Nat) (E : F) (told G c : Nat → Nat) (w : World) (h : Eqs B w e L cap R u (u + r) 0 E told (fun _ => k) G c) (hu0 : 0 < u) (hr : 0 < r) (hR : R ≤ 1000) (hN : u + r ≤ 1000) (hk : 1 ≤ k) (hs : bk (gr k u) u ≤ 30000000000) (hB : B ≤ w.heap.size) :
 Calls Tryz.prog 82 #[.pointer (some ⟨e, 0, none⟩)] w fun q w' => ((q = .returned (.tuple #[.slice none 0 0, .bool false]) ∧ AnsN E R u r) ∨ (∃ g X, q = .returned (.tuple #[.slice (some ⟨g, 0, none⟩) u u, .bool true]) ∧ AnsY E X R u r ∧ LinesR w' (.slice (some ⟨g, 0, none⟩) u u) u r X (bk (gr k u) u))) ∧ Below B w w' := by
 have HE0 := Lib.hid h
 have HBB := Lib.hid hB
 have HSS := Lib.hid hs
 have hgs := bk_ge (gr k u) u
 clear h hB
 go_enter Tryz.func82, Tryz.ntmps82
 go_wp2_with fail
 with_reducible refine (Tryz.matEliminate B e L cap R u (u + r) k E told G c _ HE0.out (by omega) hR hN hk (by omega) HBB.out).mono ?_
 rintro e1 w1 ⟨rfl, ⟨t, E', told', G', c', he, heq, hec, hba⟩, hb⟩
 have HE := Lib.hid he
 have HQ := Lib.hid heq
 have HC := Lib.hid hec
 have HA := Lib.hid hba
 have HB := Lib.hid hb
 have htu := hec.tu
 have htR := hec.le
 obtain ⟨p, q, hst⟩ := he.parts
 have HS := Lib.hid hst
 clear he heq hec hba hb hst HE0
 go_wp2_with fail
 refine wp_region_held_drew (S := fun w' => w'.cell? ⟨e, 0, none⟩ = some (.slice (some ⟨L, 0, none⟩) R cap) ∧ w'.cell? ⟨e, 1, none⟩ = some (.int .i64 u) ∧ w'.cell? ⟨e, 2, none⟩ = some (.slice p t q)) (by kernel_rfl) ⟨HS.out.cell 0, HS.out.cell 1, HS.out.cell 2⟩ (fun hHeld => ?_)
 replace HB := Lib.hid (HB.out.drew)
 replace HE := Lib.hid (HE.out.below (Below.refl _ _).drew)
 replace HS := Lib.hid (HS.out.below (Below.refl _ _).drew)
 clear hHeld
 generalize w1.drew = w1d at *
 have hHeld : (fun w' : World => w'.cell? ⟨e, 0, none⟩ = some (.slice (some ⟨L, 0, none⟩) R cap) ∧ w'.cell? ⟨e, 1, none⟩ = some (.int .i64 u) ∧ w'.cell? ⟨e, 2, none⟩ = some (.slice p t q)) w1d := ⟨HS.out.cell 0, HS.out.cell 1, HS.out.cell 2⟩
 refine takeY 0 (h := ?_)
 refine takeY 1 (h := ?_)
 refine takeY 2 (h := ?_)
 (try simp only [Act.put, List.setIfInBounds_toArray, List.set_cons_zero, List.set_cons_succ])
 refine takeY 3 (h := ?_)
 refine takeY 4 (h := ?_)
 refine takeY 5 (h := ?_)
 (try simp only [Act.put, List.setIfInBounds_toArray, List.set_cons_zero, List.set_cons_succ])
 refine takeY 6 (h := ?_)
 refine takeY 7 (h := ?_)
 refine takeY 8 (h := ?_)
 (try simp only [Act.put, List.setIfInBounds_toArray, List.set_cons_zero, List.set_cons_succ])
 refine takeY 9 (h := ?_)
 (try simp only [Act.put, List.setIfInBounds_toArray, List.set_cons_zero, List.set_cons_succ])
 refine wpAnyH_done (by kernel_rfl) ?_ _
 by_cases hlt : t < u
 ·have e1 : decide ((t : Int) < (u : Int)) = true := by simp; omega
  have e1' : decide (t < u) = true := by simpa using hlt
  have HR : Hid (AnsN E R u r) := ansN_rank HQ.out HC.out HA.out hlt
  clear HQ HC HA HE HS
  go_wp2
  go_ret2
  exact ⟨.inl ⟨rfl, HR.out⟩, HB.out⟩
 ·obtain rfl : t = u := by omega
  have e1 : decide ((t : Int) < (t : Int)) = false := by simp
  have e1' : decide (t < t) = false := by simp
  clear hlt
  have hcap := HE.out.lns.le
  have hmax := HE.out.lns.max
  unfold maxLen at hmax
  have t0 : (0 : Int) ≤ (t : Int) := by omega
  have t1 : (t : Int) ≤ (R : Int) := by omega
  have t2 : (t : Int) ≤ (cap : Int) := by omega
  obtain ⟨m, hm⟩ : ∃ m, R - t = m := ⟨_, rfl⟩
  have HM := Lib.hid hm
  clear hm
  go_upto_region 4 with (fail)
  go_cut [29, 30, 31] (fun sv nv iv wx => (∃ o c3, sv = .slice (some ⟨L, o, none⟩) m c3 ∧ (o = t ∨ m = 0)) ∧ nv = .int .i64 m ∧ iv = .int .i64 0 ∧ Eqs B wx e L cap R t (t + r) t E' told' (fun _ => gr k t) G' c' ∧ CellsAt wx e #[.slice (some ⟨L, 0, none⟩) R cap, .int .i64 t, .slice p t q] 126 ∧ Below B w wx)
  case first =>
   by_cases hct : cap = t
   ·have HCT := Lib.hid hct
    refine wp_region_held_drew (S := fun w' => w'.cell? ⟨e, 0, none⟩ = some (.slice (some ⟨L, 0, none⟩) R cap) ∧ w'.cell? ⟨e, 1, none⟩ = some (.int .i64 t) ∧ w'.cell? ⟨e, 2, none⟩ = some (.slice p t q)) (by kernel_rfl) ⟨HS.out.cell 0, HS.out.cell 1, HS.out.cell 2⟩ (fun hHeld => ?_)
    replace HB := Lib.hid (HB.out.drew)
    replace HE := Lib.hid (HE.out.below (Below.refl _ _).drew)
    replace HS := Lib.hid (HS.out.below (Below.refl _ _).drew)
    clear hHeld
    generalize w1d.drew = w1dd at *
    have hHeld : (fun w' : World => w'.cell? ⟨e, 0, none⟩ = some (.slice (some ⟨L, 0, none⟩) R cap) ∧ w'.cell? ⟨e, 1, none⟩ = some (.int .i64 t) ∧ w'.cell? ⟨e, 2, none⟩ = some (.slice p t q)) w1dd := ⟨HS.out.cell 0, HS.out.cell 1, HS.out.cell 2⟩
    refine takeY 0 (h := ?_)
    refine takeY 1 (h := ?_)
    refine takeY 2 (h := ?_)
    (try simp only [Act.put, List.setIfInBounds_toArray, List.set_cons_zero, List.set_cons_succ])
    refine takeY 3 (h := ?_)
    refine takeY 4 (h := ?_)
    refine takeY 5 (h := ?_)
    (try simp only [Act.put, List.setIfInBounds_toArray, List.set_cons_zero, List.set_cons_succ])
    refine takeY 6 (h := ?_)
    refine takeY 7 (h := ?_)
    refine takeY 8 (h := ?_)
    (try simp only [Act.put, List.setIfInBounds_toArray, List.set_cons_zero, List.set_cons_succ])
    refine takeY 9 (h := ?_)
    refine takeY 10 (h := ?_)
    (try simp only [Act.put, List.setIfInBounds_toArray, List.set_cons_zero, List.set_cons_succ])
    refine wpAnyH_done (by kernel_rfl) ?_ _
    go_wp2_with fail
    go_meet
    exact ⟨⟨0, cap - t, by have h := HM.out; simp [h, hct], .inr (by have h := HM.out; omega)⟩, by have h := HM.out; simp; omega, rfl, HE.out, HS.out, HB.out⟩
   ·skip
    refine wp_region_held_drew (S := fun w' => w'.cell? ⟨e, 0, none⟩ = some (.slice (some ⟨L, 0, none⟩) R cap) ∧ w'.cell? ⟨e, 1, none⟩ = some (.int .i64 t) ∧ w'.cell? ⟨e, 2, none⟩ = some (.slice p t q)) (by kernel_rfl) ⟨HS.out.cell 0, HS.out.cell 1, HS.out.cell 2⟩ (fun hHeld => ?_)
    replace HB := Lib.hid (HB.out.drew)
    replace HE := Lib.hid (HE.out.below (Below.refl _ _).drew)
    replace HS := Lib.hid (HS.out.below (Below.refl _ _).drew)
    clear hHeld
    generalize w1d.drew = w1dd at *
    have hHeld : (fun w' : World => w'.cell? ⟨e, 0, none⟩ = some (.slice (some ⟨L, 0, none⟩) R cap) ∧ w'.cell? ⟨e, 1, none⟩ = some (.int .i64 t) ∧ w'.cell? ⟨e, 2, none⟩ = some (.slice p t q)) w1dd := ⟨HS.out.cell 0, HS.out.cell 1, HS.out.cell 2⟩
    refine takeY 0 (h := ?_)
    refine takeY 1 (h := ?_)
    refine takeY 2 (h := ?_)
    (try simp only [Act.put, List.setIfInBounds_toArray, List.set_cons_zero, List.set_cons_succ])
    refine takeY 3 (h := ?_)
    refine takeY 4 (h := ?_)
    refine takeY 5 (h := ?_)
    (try simp only [Act.put, List.setIfInBounds_toArray, List.set_cons_zero, List.set_cons_succ])
    refine takeY 6 (h := ?_)
    refine takeY 7 (h := ?_)
    refine takeY 8 (h := ?_)
    (try simp only [Act.put, List.setIfInBounds_toArray, List.set_cons_zero, List.set_cons_succ])
    refine takeY 9 (h := ?_)
    refine takeY 10 (h := ?_)
    (try simp only [Act.put, List.setIfInBounds_toArray, List.set_cons_zero, List.set_cons_succ])
    refine wpAnyH_done (by kernel_rfl) ?_ _
    go_wp2_with fail
    go_meet
    exact ⟨⟨t, cap - t, by have h := HM.out; simp [h], .inl rfl⟩, by have h := HM.out; simp; omega, rfl, HE.out, HS.out, HB.out⟩
  case rest =>
   obtain ⟨⟨o, c3, rfl, ho⟩, rfl, rfl, he, hst, hb⟩ := hcut
   clear HE HB HS
   have HE := Lib.hid he
   have HS := Lib.hid hst
   have HB := Lib.hid hb
   have hmR := HM.out
   have s0 := hst.cell 0
   have s1 := hst.cell 1
   have s2 := hst.cell 2
   have s9 := hst.lt
   clear he hst hb
   go_wp2_with fail
   clear s0 s1 s2 s9
   go_loopw [31] (fun iv wr => ∃ i : Nat, iv = .int .i64 i ∧ i ≤ m ∧ (∀ l, l < i → ∀ j, j < t + r → E' (t + l) j = 0) ∧ Eqs B wr e L cap R t (t + r) t E' told' (fun _ => gr k t) G' c' ∧ Below B w wr) (fun iv _ => m - (intOf iv).toNat)
   case atStart => exact ⟨0, rfl, Nat.zero_le _, fun l hl => by omega, HE.out, HB.out⟩
   case round =>
    obtain ⟨i, rfl, hi, hz, he, hb⟩ := hrel
    clear HE HS HB
    have HE := Lib.hid he
    have HB := Lib.hid hb
    have HZ := Lib.hid hz
    by_cases hlt : i < m
    ·obtain rfl : o = t := by omega
     obtain ⟨r0, -, r1⟩ := he.lns.cell (i := o + i) (by omega)
     have HV := Lib.hid (he.lns.line (o + i) (by omega)).read
     have i0 : (0 : Int) ≤ (i : Int) := by omega
     have i1 : (i : Int) < (m : Int) := by omega
     clear he hb hz
     go_wp2_with fail
     with_reducible refine (Tryz.matEmpty (o + r) _ (E' (o + i)) (gr k o) _ HV.out hN).mono ?_
     rintro e1 w3 ⟨⟨y, rfl, hy1, hy2⟩, hb⟩
     have HE3 := Lib.hid (HE.out.below hb)
     have HB3 := Lib.hid (HB.out.trans (hb.mono (Nat.le_trans HBB.out HB.out.size)))
     clear hb HE HB HV r0 r1
     cases y
     ·obtain ⟨j, hj, hne⟩ := hy2 rfl
      have HR : Hid (AnsN E R o r) := ansN_line HQ.out HA.out (Nat.le_add_right o i) (by omega) hj hne
      clear hy1 hy2 hne HE3 HQ HC HA HZ
      go_wp2
      go_ret2
      exact ⟨.inl ⟨rfl, HR.out⟩, HB3.out⟩
     ·have HZ3 : Hid (∀ l, l < i + 1 → ∀ j, j < o + r → E' (o + l) j = 0) := fun l hl j hj => by
       by_cases e2 : l = i
       ·rw [e2]; exact hy1 rfl j hj
       ·exact HZ.out l (by omega) j hj
      clear hy1 hy2 HZ
      go_wp2
      go_roundw
      case rel => exact ⟨i + 1, by go_num, by omega, HZ3.out, HE3.out, HB3.out⟩
      case measure => simp [intOf]; omega
    ·have e3 : decide ((i : Int) < (m : Int)) = false := by simp; omega
     have e3' : decide (i < m) = false := by simpa using hlt
     obtain rfl : i = m := by omega
     clear he hb hz
     go_wp2_with fail
     with_reducible refine (Tryz.matPutBack B e L cap R t (t + r) r (gr k t) E' told' G' c' _ HE.out HC.out.col htR rfl hr hu0 hR hN (gr_pos hk) hs (Nat.le_trans HBB.out HB.out.size)).mono ?_
     rintro e2 w4 ⟨rfl, ⟨H, hh, hkb⟩, hb⟩
     obtain ⟨b, q2, cur, hst, hcu, hq1, hq2, hcs⟩ := hh.tolds hu0
     have HH := Lib.hid hh
     have HKB := Lib.hid hkb
     have HB4 := Lib.hid (HB.out.trans hb)
     have HS4 := Lib.hid hst
     have HCU := Lib.hid hcu
     have HCS := Lib.hid hcs
     unfold maxLen at hq2
     clear hh hkb hb hst hcu hcs HE HB
     obtain ⟨w5, hmk, hox, hbm⟩ := Tryz.makeLines w4 t t r (fun _ _ => 0) 0 rfl (by omega)
     obtain ⟨gx, hgx⟩ : ∃ gx, w4.heap.size = gx := ⟨_, rfl⟩
     have HGX := Lib.hid hgx
     have hLx : L ≠ gx := by
      obtain ⟨cl, h1, -⟩ := HH.out.lns.cells
      have := h1.lt
      omega
     have hBx : B ≤ gx := by have := Nat.le_trans HBB.out HB4.out.size; omega
     rw [hgx] at hmk hox
     have d0 := HS4.out.cell 0
     have d1 := HS4.out.cell 1
     have d9 := HS4.out.lt
     have HH5 := Lib.hid (HH.out.below hbm)
     have HB5 := Lib.hid (HB4.out.trans (hbm.mono (Nat.le_trans HBB.out HB4.out.size)))
     have HS5 := Lib.hid (HS4.out.below hbm)
     have HCU5 := Lib.hid (HCU.out.below hbm)
     have HX5 := Lib.hid (hox.xat (r := r) told' (ansX H told' t) (bk (gr k t) t))
     have d2 := HS5.out.cell 2
     have d8 := HS5.out.lt
     simp only [List.getElem?_toArray, List.getElem?_cons_zero, List.getElem?_cons_succ] at d0 d1 d2
     clear hbm hox hgx HH HB4 HS4 HCU
     go_wp2_with fail
     clear hmk d0 d1 d2 d8 d9
     go_loopw [51] (fun iv wr => ∃ i : Nat, iv = .int .i64 i ∧ i ≤ t ∧ XAt wr gx t r i told' (ansX H told' t) (bk (gr k t) t) ∧ Eqs B wr e L cap R t (t + r) t H told' (Kb (gr k t) t 0) G' c' ∧ CellsAt wr e #[.slice (some ⟨L, 0, none⟩) R cap, .int .i64 t, .slice (some ⟨b, 0, none⟩) t q2] 126 ∧ CellsAt wr b cur 3 ∧ Below B w wr) (fun iv _ => t - (intOf iv).toNat)
     case atStart => exact ⟨0, rfl, Nat.zero_le _, HX5.out, HH5.out, HS5.out, HCU5.out, HB5.out⟩
     case round =>
      obtain ⟨n, rfl, hn, hx, hh, hs2, hcu, hb⟩ := hrel
      clear HX5 HH5 HS5 HCU5 HB5
      have HX := Lib.hid hx
      have HH := Lib.hid hh
      have HS := Lib.hid hs2
      have HCU := Lib.hid hcu
      have HB := Lib.hid hb
      by_cases hlt2 : n < t
      ·have b0 : wr.cell? ⟨b, n, none⟩ = some (.int .i64 (told' n : Nat)) := (hcu.cell n).trans (HCS.out n hlt2)
       have b1 := hcu.lt
       have n0 : (0 : Int) ≤ (n : Int) := by omega
       have n1 : (n : Int) < (t : Int) := by omega
       have n2 : (n : Int) < (R : Int) := by omega
       have htn := HC.out.col n hlt2
       have k0 : (0 : Int) ≤ (told' n : Int) := by omega
       have k1 : (told' n : Int) < (t : Int) := by omega
       have u1 : (t : Int) ≤ (t : Int) + (r : Int) := by omega
       have cn := (hh.lns.line n (by omega)).le
       have cn9 := (hh.lns.line n (by omega)).max
       have cn2 : c' n ≠ t := by omega
       unfold maxLen at cn9
       clear hx hh hs2 hcu hb
       go_wp2_with fail
       clear b0 b1
       refine wp_region_held_drew (S := fun w' => w'.cell? ⟨e, 0, none⟩ = some (.slice (some ⟨L, 0, none⟩) R cap) ∧ w'.cell? ⟨e, 1, none⟩ = some (.int .i64 t) ∧ w'.cell? ⟨L, n, none⟩ = some (.slice (some ⟨G' n, 0, none⟩) (t + r) (c' n))) (by kernel_rfl) ⟨HS.out.cell 0, HS.out.cell 1, (HH.out.lns.cell (i := n) (by omega)).1⟩ (fun hHeld => ?_)
       replace HB := Lib.hid (HB.out.drew)
       replace HH := Lib.hid (HH.out.below (Below.refl _ _).drew)
       replace HS := Lib.hid (HS.out.below (Below.refl _ _).drew)
       replace HCU := Lib.hid (HCU.out.below (Below.refl _ _).drew)
       replace HX := Lib.hid (HX.out.below (Below.refl _ _).drew)
       clear hHeld
       generalize wr.drew = wd at *
       have hHeld : (fun w' : World => w'.cell? ⟨e, 0, none⟩ = some (.slice (some ⟨L, 0, none⟩) R cap) ∧ w'.cell? ⟨e, 1, none⟩ = some (.int .i64 t) ∧ w'.cell? ⟨L, n, none⟩ = some (.slice (some ⟨G' n, 0, none⟩) (t + r) (c' n))) wd := ⟨HS.out.cell 0, HS.out.cell 1, (HH.out.lns.cell (i := n) (by omega)).1⟩
       refine takeY 0 (h := ?_)
       refine takeY 1 (h := ?_)
       refine takeY 2 (h := ?_)
       (try simp only [Act.put, List.setIfInBounds_toArray, List.set_cons_zero, List.set_cons_succ])
       refine takeY 3 (h := ?_)
       refine takeY 4 (h := ?_)
       refine takeY 5 (h := ?_)
       (try simp only [Act.put, List.setIfInBounds_toArray, List.set_cons_zero, List.set_cons_succ])
       refine takeY 6 (h := ?_)
       refine takeY 7 (h := ?_)
       refine takeY 8 (h := ?_)
       (try simp only [Act.put, List.setIfInBounds_toArray, List.set_cons_zero, List.set_cons_succ])
       refine takeY 9 (h := ?_)
       refine takeY 10 (h := ?_)
       refine takeY 11 (h := ?_)
       (try simp only [Act.put, List.setIfInBounds_toArray, List.set_cons_zero, List.set_cons_succ])
       refine takeY 12 (h := ?_)
       refine takeY 13 (h := ?_)
       (try simp only [Act.put, List.setIfInBounds_toArray, List.set_cons_zero, List.set_cons_succ])
       refine wpAnyH_ready (rs := [14]) (by kernel_rfl) (by simp) ?_
       refine AllReadyH.cons (by (simp only [List.getElem?_toArray, List.getElem?_cons_succ, List.getElem?_cons_zero]) <;> rfl) (fun KX hK => ?_) AllReadyH.nil
       have hv := (HH.out.lns.line n (by omega)).part rfl
       have hv := hv.congr (f' := ansX H told' t (told' n)) (m := bk (gr k t) t) (fun j _ => ansX_at H HC.out hlt2 j) (Kb_le _ _ _ _)
       go_simp
       with_reducible refine (Tryz.cloneL _ r (ansX H told' t (told' n)) (bk (gr k t) t) _ hv hr (by omega)).mono ?_
       rintro e wd21 ⟨⟨g, cg, rfl, hg, -⟩, hb⟩
       clear hv
       replace hg := hg.read
       clear hHeld
       replace HB := Lib.hid (HB.out.trans (hb.mono (Nat.le_trans HBB.out HB.out.size)))
       replace HH := Lib.hid (HH.out.below hb)
       replace HS := Lib.hid (HS.out.below hb)
       replace HCU := Lib.hid (HCU.out.below hb)
       replace HX := Lib.hid (HX.out.below hb)
       clear hb
       have HG := Lib.hid hg
       clear hg
       refine hK.out _ _ ⟨HS.out.cell 0, HS.out.cell 1, (HH.out.lns.cell (i := n) (by omega)).1⟩ (fun hHeld => ?_)
       clear hK KX
       (try simp only [Act.put, List.setIfInBounds_toArray, List.set_cons_zero, List.set_cons_succ])
       refine takeY 15 (h := ?_)
       (try simp only [Act.put, List.setIfInBounds_toArray, List.set_cons_zero, List.set_cons_succ])
       refine wpAnyH_ready (rs := [16]) (by kernel_rfl) (by simp) ?_
       refine AllReadyH.cons (by (simp only [List.getElem?_toArray, List.getElem?_cons_succ, List.getElem?_cons_zero]) <;> rfl) (fun KX hK => ?_) AllReadyH.nil
       obtain ⟨⟨xv, x0⟩, x1, x2⟩ := HX.out.cell htn
       have hox := HX.out.odd hr
       have HXN : Hid (XAt (wd21.setCell ⟨gx, told' n, none⟩ (.slice (some ⟨g, 0, none⟩) r cg)) gx t r (n + 1) told' (ansX H told' t) (bk (gr k t) t)) := HX.out.set hr htn HG.out
       obtain ⟨cx, hcx, -⟩ := HX.out
       have HHN : Hid (Eqs B (wd21.setCell ⟨gx, told' n, none⟩ (.slice (some ⟨g, 0, none⟩) r cg)) e L cap R t (t + r) t H told' (Kb (gr k t) t 0) G' c') := HH.out.apart (grown_setCell _ _ _ _) hcx hox hLx
       have HSN := Lib.hid (cells_far HS.out (grown_setCell wd21 gx (told' n) (.slice (some ⟨g, 0, none⟩) r cg)) (cells_ne HS.out hcx (by decide)))
       have HCN := Lib.hid (cells_far HCU.out (grown_setCell wd21 gx (told' n) (.slice (some ⟨g, 0, none⟩) r cg)) (cells_ne HCU.out hcx (by decide)))
       have HBN : Hid (Below B w (wd21.setCell ⟨gx, told' n, none⟩ (.slice (some ⟨g, 0, none⟩) r cg))) := HB.out.setCell (p := ⟨gx, told' n, none⟩) hBx _
       go_simp
       clear hHeld HB HH HS HCU HX HG x0 x1 x2 hox hcx
       refine hK.out _ _ ⟨HSN.out.cell 0, HSN.out.cell 1, (HHN.out.lns.cell (i := n) (by omega)).1⟩ (fun hHeld => ?_)
       clear hK KX hHeld
       (try simp only [Act.put, List.setIfInBounds_toArray, List.set_cons_zero, List.set_cons_succ])
       refine wpAnyH_done (by kernel_rfl) ?_ _
       go_wp2
       go_roundw
       case rel => exact ⟨n + 1, by go_num, by omega, HXN.out, HHN.out, HSN.out, HCN.out, HBN.out⟩
       case measure => simp [intOf]; omega
      ·have e4 : decide ((n : Int) < (t : Int)) = false := by simp; omega
       have e4' : decide (n < t) = false := by simpa using hlt2
       obtain rfl : n = t := by omega
       have HL : Hid (LinesR wr (.slice (some ⟨gx, 0, none⟩) n n) n r (ansX H told' n) (bk (gr k n) n)) := hx.done (onto n told' HC.out.col (fun a b ha hb e => HC.out.inj ha hb e)) (by unfold maxLen; omega)
       have HY : Hid (AnsY E (ansX H told' n) R n r) := ansY HQ.out HC.out HA.out (fun l h1 h2 j hj => by
        have := HZ.out (l - n) (by have := HM.out; omega) j hj
        rwa [show n + (l - n) = l by omega] at this) HKB.out (fun a c ha => ansX_at H HC.out ha c)
       clear hx hh hs2 hcu hb HX HH HS HCU
       go_wp2
       go_ret2
       exact ⟨.inr ⟨gx, _, rfl, HY.out, HL.out⟩, HB.out⟩
end Go.Proofs.Mt
namespace Go.Proofs.Mt
open Go.RowKit Go.Proofs.Wd Go.Proofs.Fr Go.Proofs.Vt Go.Proofs.Mm
theorem Fac.congr {M M' : F} {m n r : Nat} (h : Fac M m n r) (e : ∀ i k, i < m → k < n → M' i k = M i k) : Fac M' m n r := by
 obtain ⟨A, B, hf⟩ := h
 exact ⟨A, B, fun i k hi hk => (e i k hi hk).trans (hf i k hi hk)⟩
theorem RankIs.congr {M M' : F} {m n r : Nat} (h : RankIs M m n r) (e : ∀ i k, i < m → k < n → M' i k = M i k) : RankIs M' m n r :=
 ⟨Fac.congr h.1 e, fun s hs hf => h.2 s hs (Fac.congr hf fun i k hi hk => (e i k hi hk).symm)⟩
theorem cat_left {f g : Nat → Rat} {C j : Nat} (h : j < C) : catF f g C j = f j := by rw [catF, if_pos h]
theorem cat_right (f g : Nat → Rat) (C j : Nat) : catF f g C (C + j) = g j := by rw [catF, if_neg (by omega), Nat.add_sub_cancel_left]
theorem dot_cat (f g x : Nat → Rat) (C : Nat) : dotF (catF f g C) x C = dotF f x C := Vm.sum_congr fun j hj => by rw [cat_left hj]
theorem LinesO.right {w : World} {g R C k kr : Nat} {M Rt : F} (h : LinesO w g R 0 C M k) : RightR w g R 0 Rt kr := by
 obtain ⟨cur, h1, h2, h3, h4⟩ := h.cells
 exact ⟨cur, h1, fun i hi => ⟨none, 0, h4 i (Nat.zero_le _) hi, .inr ⟨rfl, rfl⟩⟩⟩
theorem Tryz.matRank (v : Value) (R C k : Nat) (M : F) (w : World) (hv : MatR w v R C M k) (hR0 : 0 < R) (hR : R ≤ 1000) (hC0 : 0 < C) (hC : C ≤ 1000) (hk : 1 ≤ k) (hs : gr k C ≤ 30000000000) :
 Calls Tryz.prog 36 #[v] w fun q w' => (∃ t : Nat, q = .returned (.int .i64 t) ∧ RankIs M R C t) ∧ Below w.heap.size w w' := by
 have HM := Lib.hid hv
 clear hv
 go_enter Tryz.func36, Tryz.ntmps36
 go_wp2_with fail
 with_reducible refine (Tryz.matAll v R C M k _ HM.out).mono ?_
 rintro e1 w1 ⟨⟨s, rfl, hl⟩, rfl⟩
 obtain ⟨p, cap, rfl, -, -⟩ := hl.slice
 clear hl
 obtain ⟨w2, hmk, ho, hb⟩ := Tryz.makeLines w1 R R 0 (fun _ _ => 0) 0 rfl (by omega)
 obtain ⟨g, hg⟩ : ∃ g, w1.heap.size = g := ⟨_, rfl⟩
 have HRT : Hid (RightR w2 w1.heap.size R 0 (fun _ _ => 0) k) := ho.right
 have HB := Lib.hid hb
 have HM2 := Lib.hid (HM.out.below hb)
 rw [hg] at hmk HRT
 clear ho hb hg
 go_wp2_with fail
 clear hmk
 with_reducible refine (Tryz.matBeside v g R C 0 k M (fun _ _ => 0) _ HM2.out HRT.out hR0 hR hC0 (by omega) (fun _ => 0)).mono ?_
 rintro e2 w3 ⟨⟨e, L, cap2, G, c, rfl, he⟩, hb⟩
 have HE := Lib.hid he
 have HB3 := Lib.hid (HB.out.trans (hb.mono HB.out.size))
 have HBB : Hid (w2.heap.size ≤ w3.heap.size) := hb.size
 have HB2 := Lib.hid HB.out.size
 clear he hb HB
 go_wp2_with fail
 with_reducible refine (Tryz.matEliminate w2.heap.size e L cap2 R C (C + 0) k _ (fun _ => 0) G c _ HE.out (by omega) hR (by omega) hk hs HBB.out).mono ?_
 rintro e3 w4 ⟨rfl, ⟨t, E', told, G', c', he, heq, hec, hba⟩, hb⟩
 obtain ⟨p2, q2, hst⟩ := he.parts
 have s2 := hst.cell 2
 have s9 := hst.lt
 simp only [List.getElem?_toArray, List.getElem?_cons_zero, List.getElem?_cons_succ] at s2
 have HR : Hid (RankIs M R C t) := RankIs.congr (rank_of heq (by omega) hec hba) fun i j _ hj => (cat_left hj).symm
 have HB4 := Lib.hid (HB3.out.trans (hb.mono HB2.out))
 clear he heq hec hba hb hst HB3 HE
 go_wp2
 go_ret
 exact ⟨⟨t, rfl, HR.out⟩, HB4.out⟩
/-- Lines of the call's own that are made one behind the other. -/
structure Uni (B : Nat) (w : World) (g R i N : Nat) (E : F) (k : Nat) (G c : Nat → Nat) : Prop where
 lns : LnsAt w g R i N E (fun _ => k) G c
 rest : ∀ j, i ≤ j → j < R → w.cell? ⟨g, j, none⟩ = some (.slice none 0 0)
 bg : B ≤ g
theorem Uni.below {B : Nat} {w w' : World} {g R i N k : Nat} {E : F} {G c : Nat → Nat} (h : Uni B w g R i N E k G c) (hb : Below w.heap.size w w') : Uni B w' g R i N E k G c :=
 ⟨h.lns.below hb, fun j h1 h2 => cellOf hb (h.rest j h1 h2), h.bg⟩
theorem LinesO.uni {B : Nat} {w : World} {g R C k N kx : Nat} {M E : F} (h : LinesO w g R 0 C M k) (hB : B ≤ g) : Uni B w g R 0 N E kx (fun _ => 0) (fun _ => 0) := by
 obtain ⟨cur, h1, h2, h3, h4⟩ := h.cells
 exact ⟨LnsAt.none h1 h2 h.max, fun j _ hj => (h1.cell j).trans (h4 j (Nat.zero_le _) hj), hB⟩
theorem Uni.odd {B : Nat} {w : World} {g R i N k : Nat} {E : F} {G c : Nat → Nat} (h : Uni B w g R i N E k G c) (hi : i < R) : Odd w g := by
 by_cases e : i = 0
 ·subst e
  obtain ⟨cur, h1, -⟩ := h.lns.cells
  refine ⟨cur, _, h1, by decide, fun u hu => ?_⟩
  have := (h1.cell 0).symm.trans (h.rest 0 (Nat.le_refl _) hi)
  rw [hu] at this
  rw [Option.some.inj this]
  exact .inr (.inl ⟨0, 0, rfl⟩)
 ·exact h.lns.odd (by omega)
theorem Uni.step {B : Nat} {w : World} {g R i N k b cb : Nat} {E E' : F} {G c : Nat → Nat} (h : Uni B w g R i N E k G c) (hi : i < R) (hl : LineO w b N cb (E' i) k) (hg : ∀ l, l < i → G l ≠ b) (he : ∀ l, l < i → E' l = E l) :
 Uni B (w.setCell ⟨g, i, none⟩ (.slice (some ⟨b, 0, none⟩) N cb)) g R (i + 1) N E' k (fun l => if l = i then b else G l) (fun l => if l = i then cb else c l) := by
 have ho := h.odd hi
 have h' : LnsAt w g R i N E' (fun _ => k) G c := h.lns.congr (fun l hl j _ => by rw [he l hl]) (fun _ _ => Nat.le_refl _)
 obtain ⟨cur, h1, h2, h3⟩ := h.lns.cells
 exact ⟨h'.grow hi ho hl hg (Nat.le_refl _), fun j h4 h5 => ((h1.set i _).cell j).trans ((get_put (by omega)).trans ((h1.cell j).symm.trans (h.rest j (by omega) h5))), h.bg⟩
theorem Uni.right {B : Nat} {w : World} {g R N k kk : Nat} {E : F} {G c : Nat → Nat} (h : Uni B w g R R N E k G c) (hN : 0 < N) (hk : k ≤ kk) : RightR w g R N E kk := by
 obtain ⟨cur, h1, h2, h3⟩ := h.lns.cells
 exact ⟨cur, h1, fun i hi => ⟨_, _, h3 i hi, .inl ⟨hN, (h.lns.line i hi).read.congr (fun _ _ => rfl) hk⟩⟩⟩
end Go.Proofs.Mt
namespace Go.Proofs.Mt
open Go.RowKit Go.Proofs.Wd Go.Proofs.Fr Go.Proofs.Vt Go.Proofs.Mm
theorem Tryz.matSolve (v bv : Value) (R C k : Nat) (M : F) (fb : Nat → Rat) (w : World) (hv : MatR w v R C M k) (hb : LineR w bv R fb k) (hR0 : 0 < R) (hR : R ≤ 400) (hC0 : 0 < C) (hC : C ≤ 400) (hk : 1 ≤ k) (hs : bk (gr k C) C ≤ 30000000000) :
 Calls Tryz.prog 37 #[v, bv] w fun q w' => ((q = .returned (.tuple #[.slice none 0 0, .bool false]) ∧ AnsN (fun i => catF (M i) (fun _ => fb i) C) R C 1) ∨ (∃ g X, q = .returned (.tuple #[.slice (some ⟨g, 0, none⟩) C C, .bool true]) ∧ AnsY (fun i => catF (M i) (fun _ => fb i) C) X R C 1 ∧ LineO w' g C C (fun x => X x 0) (bk (gr k C) C))) ∧ Below w.heap.size w w' := by
 have HM := Lib.hid hv
 have HF := Lib.hid hb
 obtain ⟨pb, cb, rfl, hb1, hb2⟩ := hb.slice
 unfold maxLen at hb2
 have e1 : decide ((R : Int) = (R : Int)) = true := by simp
 clear hv hb
 go_enter Tryz.func37, Tryz.ntmps37
 go_wp2_with fail
 with_reducible refine (Tryz.matSize v R C M k _ HM.out).mono ?_
 rintro e1 w1 ⟨rfl, hb1⟩
 have HM1 := Lib.hid (HM.out.below hb1)
 have HF1 := Lib.hid (HF.out.below hb1)
 have HB1 := Lib.hid hb1
 obtain ⟨w2, hmk, ho, hb⟩ := Tryz.makeLines w1 R R 1 (fun _ _ => 0) 0 rfl (by omega)
 obtain ⟨g, hg⟩ : ∃ g, w1.heap.size = g := ⟨_, rfl⟩
 have HU : Hid (Uni g w2 w1.heap.size R 0 1 (fun l _ => fb l) k (fun _ => 0) (fun _ => 0)) := ho.uni (Nat.le_of_eq hg.symm)
 have HB2 := Lib.hid hb
 have HGE : Hid (w.heap.size ≤ w1.heap.size) := hb1.size
 rw [hg] at hmk HU
 have hB : w1.heap.size ≤ g := Nat.le_of_eq hg
 clear ho hb hb1 HM HF hg
 go_wp2_with fail
 clear hmk
 go_loopw [30] (fun iv wr => ∃ (i : Nat) (G c : Nat → Nat), iv = .int .i64 i ∧ i ≤ R ∧ Uni g wr g R i 1 (fun l _ => fb l) k G c ∧ Below w1.heap.size w1 wr) (fun iv _ => R - (intOf iv).toNat)
 case atStart => exact ⟨0, _, _, rfl, Nat.zero_le _, HU.out, HB2.out⟩
 case round =>
  obtain ⟨i, G, c, rfl, hi, hu, hb⟩ := hrel
  clear HU HB2
  have HU := Lib.hid hu
  have HB := Lib.hid hb
  by_cases hlt : i < R
  ·have i0 : (0 : Int) ≤ (i : Int) := by omega
   have i1 : (i : Int) < (R : Int) := by omega
   obtain ⟨g', o, cap', a, he, -, -, d0, hf, hg'⟩ := (HF1.out.below hb).nth hlt
   simp only [Value.slice.injEq, true_and] at he
   obtain ⟨rfl, rfl⟩ := he
   have HFA := Lib.hid hf
   have HL : Hid (∀ l, l < i → G l < wr.heap.size) := fun l hl => (hu.lns.line l hl).lt
   clear hu hb hf
   go_wp2_with fail
   with_reducible refine (Tryz.matCopied (.pointer a) (fb i) k _ HFA.out hk).mono ?_
   rintro e2 w3 ⟨⟨a2, rfl, hf2⟩, hb⟩
   have hal : Below w3.heap.size w3 (w3.alloc (.cells #[.pointer a2] 30)) := (Below.refl _ _).alloc (Nat.le_refl _) _
   have hu3 := (HU.out.below hb).below hal
   obtain ⟨b, hbw⟩ : ∃ b, w3.heap.size = b := ⟨_, rfl⟩
   have hl : LineO (w3.alloc (.cells #[.pointer a2] 30)) b 1 1 (fun _ => fb i) k := ⟨Nat.le_refl _, by unfold maxLen; omega, #[.pointer a2], by rw [← hbw]; exact CellsAt.new _ _ _ rfl, rfl, fun j hj => ⟨a2, by rw [show j = 0 by omega]; rfl, hf2.below hal⟩⟩
   obtain ⟨w4, hw4⟩ : ∃ W, w3.alloc (.cells #[.pointer a2] 30) = W := ⟨_, rfl⟩
   rw [hw4] at hu3 hl hal
   have x0 := hu3.rest i (Nat.le_refl _) hlt
   obtain ⟨cu, hcu, -⟩ := hu3.lns.cells
   have x1 := hcu.free i
   have x2 := hcu.lt
   have hge : wr.heap.size ≤ b := by rw [← hbw]; exact hb.size
   have HST := Lib.hid (hu3.step (E' := fun l _ => fb l) (b := b) (cb := 1) hlt hl (fun l hl' => by have := HL.out l hl'; omega) (fun l _ => rfl))
   have HB4 : Hid (Below w1.heap.size w1 (w4.setCell ⟨g, i, none⟩ (.slice (some ⟨b, 0, none⟩) 1 1))) := ((HB.out.trans (hb.mono HB.out.size)).trans (hal.mono (Nat.le_trans HB.out.size hb.size))).setCell (p := ⟨g, i, none⟩) hB _
   clear hu3 hl hge hb hal HU HB HL hcu hf2 HFA
   go_wp2
   go_roundw
   case rel => exact ⟨i + 1, _, _, by go_num, by omega, HST.out, HB4.out⟩
   case measure => simp [intOf]; omega
  ·have e3 : decide ((i : Int) < (R : Int)) = false := by simp; omega
   have e3' : decide (i < R) = false := by simpa using hlt
   obtain rfl : i = R := by omega
   have HRT : Hid (RightR wr g i 1 (fun l _ => fb l) k) := hu.right (by omega) (Nat.le_refl _)
   have HM2 := Lib.hid (HM1.out.below hb)
   clear hu hb HU HM1 HF1
   go_wp2_with fail
   with_reducible refine (Tryz.matBeside v g i C 1 k M (fun l _ => fb l) _ HM2.out HRT.out hR0 (by omega) hC0 (by omega) (fun _ => 0)).mono ?_
   rintro e2 w3 ⟨⟨e, L, cap2, G2, c2, rfl, he⟩, hb⟩
   have HE := Lib.hid he
   have HB3 := Lib.hid (HB.out.trans (hb.mono HB.out.size))
   have HBB : Hid (wr.heap.size ≤ w3.heap.size) := hb.size
   have HBW := Lib.hid HB.out.size
   clear he hb HB
   go_wp2_with fail
   with_reducible refine (Tryz.matAnswers wr.heap.size e L cap2 i C 1 k _ (fun _ => 0) G2 c2 _ HE.out hC0 (by omega) (by omega) (by omega) hk hs HBB.out).mono ?_
   rintro e3 w4 ⟨⟨rfl, hno⟩ | ⟨gx, X, rfl, hy, hl⟩, hb⟩
   ·have HNO := Lib.hid hno
    have HB5 := Lib.hid (HB1.out.trans ((HB3.out.trans (hb.mono HBW.out)).mono HGE.out))
    clear hno hb HE HB3 HBB HBW
    go_wp2
    go_ret2
    exact ⟨.inl ⟨rfl, HNO.out⟩, HB5.out⟩
   ·have HY := Lib.hid hy
    have HB5 : Hid (Below w.heap.size w w4) := HB1.out.trans ((HB3.out.trans (hb.mono HBW.out)).mono HGE.out)
    have HL := Lib.hid hl
    clear hy hb hl HE HB3 HBB HBW
    obtain ⟨w5, hmk, ho, hb⟩ := Tryz.makeLine w4 62 Tryz.underlying62 C C (bk (gr k C) C) rfl (by omega)
    obtain ⟨gs, hgs⟩ : ∃ gs, w4.heap.size = gs := ⟨_, rfl⟩
    have HGS := Lib.hid hgs
    rw [hgs] at hmk ho
    have HO : Hid (LineO w5 gs C C (fun x => if x < 0 then X x 0 else 0) (bk (gr k C) C)) := ho.congr (fun j _ => by rw [if_neg (by omega)]) (Nat.le_refl _)
    have HBS := Lib.hid hb
    clear ho hb hgs
    go_wp2_with fail
    clear hmk
    go_loopw [56] (fun iv wr => ∃ x : Nat, iv = .int .i64 x ∧ x ≤ C ∧ LineO wr gs C C (fun j => if j < x then X j 0 else 0) (bk (gr k C) C) ∧ Below w4.heap.size w4 wr) (fun iv _ => C - (intOf iv).toNat)
    case atStart => exact ⟨0, rfl, Nat.zero_le _, HO.out, HBS.out⟩
    case round =>
     obtain ⟨x, rfl, hx, ho, hb⟩ := hrel
     clear HO HBS
     by_cases hlx : x < C
     ·obtain ⟨g5, o5, cap5, p5, c5, he, -, -, y0, hl5, y1⟩ := (HL.out.below hb).nth hlx
      simp only [Value.slice.injEq, Option.some.injEq, Addr.mk.injEq] at he
      obtain ⟨⟨rfl, rfl, -⟩, -, rfl⟩ := he
      obtain ⟨g6, o6, cap6, a6, he, z1, z2, y2, hf6, y3⟩ := hl5.nth (j := 0) (by omega)
      simp only [Value.slice.injEq, true_and] at he
      obtain ⟨rfl, rfl⟩ := he
      unfold maxLen at z2
      rw [Nat.zero_add] at y0
      rw [Nat.add_zero] at y2
      obtain ⟨b0, x0, x1, -⟩ := ho.cell hlx
      have x2 := ho.lt
      have HR : Hid (LineO (wr.setCell ⟨gs, x, none⟩ (.pointer a6)) gs C C (fun j => if j < x + 1 then X j 0 else 0) (bk (gr k C) C)) := (ho.set hf6 hlx).congr (fun j _ => by
       by_cases e : j = x
       ·rw [if_pos e, if_pos (by omega), e]
       ·rw [if_neg e]
        by_cases e2 : j < x
        ·rw [if_pos e2, if_pos (by omega)]
        ·rw [if_neg e2, if_neg (by omega)]) (Nat.le_refl _)
      have HBN : Hid (Below w4.heap.size w4 (wr.setCell ⟨gs, x, none⟩ (.pointer a6))) := hb.setCell (p := ⟨gs, x, none⟩) (show _ ≤ gs by have := HGS.out; omega) _
      have i0 : (0 : Int) ≤ (x : Int) := by omega
      have i1 : (x : Int) < (C : Int) := by omega
      clear ho hb hl5 hf6
      go_wp2
      go_roundw
      case rel => exact ⟨x + 1, by go_num, by omega, HR.out, HBN.out⟩
      case measure => simp [intOf]; omega
     ·have e4 : decide ((x : Int) < (C : Int)) = false := by simp; omega
      have e4' : decide (x < C) = false := by simpa using hlx
      have HR : Hid (LineO wr gs C C (fun j => X j 0) (bk (gr k C) C)) := ho.congr (fun j hj => by rw [if_pos (by omega)]) (Nat.le_refl _)
      have HB6 := Lib.hid (HB5.out.trans (hb.mono HB5.out.size))
      clear ho hb
      go_wp2
      go_ret2
      exact ⟨.inr ⟨gs, X, rfl, HY.out, HR.out⟩, HB6.out⟩
end Go.Proofs.Mt
namespace Go.Proofs.Mt
open Go.RowKit Go.Proofs.Wd Go.Proofs.Fr Go.Proofs.Vt Go.Proofs.Mm
theorem dim4 (a : Int) : ∃ R : Nat, 1 + a.tmod 4 % 4 = (R : Int) ∧ 1 ≤ R ∧ R ≤ 4 ∧ -3 ≤ a.tmod 4 ∧ a.tmod 4 ≤ 3 := by
 have h1 := Int.tmod_lt_of_pos a (show (0 : Int) < 4 by omega)
 have h2 := Int.lt_tmod_of_pos a (show (0 : Int) < 4 by omega)
 exact ⟨(1 + a.tmod 4 % 4).toNat, by omega, by omega, by omega, by omega, by omega⟩
theorem tallSize : ∀ C, C < 5 → bk (gr 965 C) C ≤ 30000000000 := by decide
/-- Where a solution is known the answer tells it, or the rank is less. -/
theorem tallN {M : F} {f fb : Nat → Rat} {R C t : Nat} (h : AnsN (fun i => catF (M i) (fun _ => fb i) C) R C 1) (hf : ∀ i, i < R → fb i = dotF (M i) f C) (ht : RankIs M R C t) : t ≠ C := by
 rcases h with ⟨t', h1, h2⟩ | ⟨h1, c, hc, hy⟩
 ·have : RankIs M R C t' := RankIs.congr h2 fun i j _ hj => (cat_left hj).symm
  have := ht.uniq this
  omega
 ·refine absurd (fun i hi => ?_) (hy f)
  show dotF (catF (M i) (fun _ => fb i) C) f C = catF (M i) (fun _ => fb i) C (C + c)
  rw [dot_cat, cat_right, hf i hi]
theorem tallY {M X : F} {f fb : Nat → Rat} {R C t : Nat} (h : AnsY (fun i => catF (M i) (fun _ => fb i) C) X R C 1) (hf : ∀ i, i < R → fb i = dotF (M i) f C) (ht : RankIs M R C t) : t = C ∧ ∀ x, x < C → X x 0 = f x :=
 ⟨ht.uniq (RankIs.congr h.rank fun i j _ hj => (cat_left hj).symm), fun x hx => (h.one 0 f (by omega) (fun i hi => by
  show dotF (catF (M i) (fun _ => fb i) C) f C = catF (M i) (fun _ => fb i) C (C + 0)
  rw [dot_cat, cat_right, hf i hi]) x hx).symm⟩
theorem matTallWalk (a b : Int) (v1 v2 : Value) (s1 s2 : List ByteArray) (w : World) (wa : -9223372036854775808 ≤ a ∧ a ≤ 9223372036854775807) (wb : -9223372036854775808 ≤ b ∧ b ≤ 9223372036854775807) (hv1 : StrsIn w v1 s1) (hv2 : StrsIn w v2 s2)
 (hB : Calls Tryz.prog 11 #[] w fun e w' => e = .returned (.bool true) ∧ Below w.heap.size w w') :
 Calls Tryz.prog 6 #[.int .i64 a, .int .i64 b, v1, v2] w fun e w' => e = .returned (.bool true) ∧ Below w.heap.size w w' := by
 have HV1 := Lib.hid hv1
 have HB : Hid (Below w.heap.size w w) := Below.refl _ _
 obtain ⟨R, hR, R1, R5, ra, rb⟩ := dim5 a
 obtain ⟨C, hC, C1, C4, ca, cb⟩ := dim4 b
 have HR := Lib.hid hR
 have HC := Lib.hid hC
 obtain ⟨wa0, wa1⟩ := wa
 obtain ⟨wb0, wb1⟩ := wb
 obtain ⟨n, hn0⟩ : ∃ n, s2.length = n := ⟨_, rfl⟩
 obtain ⟨p2, cap2, rfl, l1, l2⟩ := hv2.slice
 have HV2 := Lib.hid hv2
 have HN0 := Lib.hid hn0
 rw [hn0] at HV2 l1 ⊢
 unfold maxLen at l2
 clear hv1 hv2 hR hC hn0
 go_enter Tryz.func6, Tryz.ntmps6
 go_wp2_with fail
 with_reducible refine (hB).mono ?_
 rintro e w1 ⟨rfl, hb⟩
 replace HB := Lib.hid (HB.out.trans (hb.mono HB.out.size))
 clear hb
 clear hB
 go_wp2_with fail
 rw [HR.out, HC.out]
 clear HR HC ra rb ca cb wa0 wa1 wb0 wb1
 with_reducible refine (Tryz.matrix R C v1 s1 _ (HV1.out.below HB.out) (by omega) (by omega) (by omega) (by omega)).mono ?_
 rintro e w2 ⟨⟨lx, rfl, hx⟩, hb⟩
 replace HB := Lib.hid (HB.out.trans (hb.mono HB.out.size))
 clear hb
 have HX := Lib.hid hx
 clear hx
 go_wp2_with fail
 with_reducible refine (Tryz.matNew lx R C _ (matQ s1) _ HX.out (fun i j _ _ => matQ_get s1 i j) (by omega) (by omega) (by omega) (by omega)).mono ?_
 rintro e w3 ⟨⟨um, rfl, hu⟩, hb⟩
 replace HB := Lib.hid (HB.out.trans (hb.mono HB.out.size))
 clear hb HX
 have HU := Lib.hid hu
 clear hu
 go_wp2_with fail
 go_loopw [12, 13] (fun xv iv wr => ∃ (i : Nat) (f : Nat → Rat), iv = .int .i64 i ∧ i ≤ C ∧ OwnF w3.heap.size wr xv i f 120 ∧ Below w3.heap.size w3 wr) (fun _ iv _ => C - (intOf iv).toNat)
 case atStart => exact ⟨0, fun _ => 0, rfl, Nat.zero_le _, ⟨fun _ => rfl, [], World.ownsRow_nil _ _ _ _, fun j hj => by omega⟩, Below.refl _ _⟩
 case round =>
  obtain ⟨i, f, rfl, hi, hfr, hbz⟩ := hrel
  obtain ⟨xp, xc, rfl⟩ := hfr.slice
  have HFR := Lib.hid hfr
  have HBZ := Lib.hid hbz
  clear hfr
  by_cases hlt : i < C
  ·have i0 : (0 : Int) ≤ (i : Int) := by omega
   have i1 : (i : Int) < (C : Int) := by omega
   have i2 : (i : Int) ≤ 5 := by omega
   by_cases hin : i < n
   ·obtain ⟨s, hs⟩ : ∃ s, s2[i]? = some s := ⟨_, List.getElem?_eq_getElem (by have := HN0.out; omega)⟩
    obtain ⟨g, o, cap3, he, hg, d0, hsz⟩ := (HV2.out.below (HB.out.trans (hbz.mono HB.out.size))).nth hs
    simp only [Value.slice.injEq] at he
    obtain ⟨rfl, -, rfl⟩ := he
    unfold maxLen at hsz
    have i3 : (i : Int) < (n : Int) := by omega
    have i3' : decide (i < n) = true := by simpa using hin
    have HCT : Hid (∀ W, Calls Tryz.prog 15 #[.string s, .int .i64 20] W fun e w' => (∃ t : ByteArray, e = .returned (.string t) ∧ t.size ≤ 20) ∧ w' = W) := fun W => Tryz.cutText s 20 W (by omega) (by omega)
    clear hs hg hbz hin
    go_wp2_with fail
    with_reducible refine (HCT.out _).mono ?_
    rintro e w21 ⟨⟨t, rfl, ht⟩, hw⟩
    subst hw
    clear d0 hsz HCT
    go_wp2_with fail
    with_reducible refine (Tryz.lawF t _ (by omega)).mono ?_
    rintro e w22 ⟨⟨fv, q, rfl, hf, -⟩, hb⟩
    obtain ⟨fa, rfl⟩ := frac_pointer hf
    obtain ⟨xp', xc', w23, hrun, hx, -, hg⟩ := Tryz.appendF 62 (HFR.out.below hb) hf (by omega) (HBZ.out.trans (hb.mono HBZ.out.size)).size
    have hal : Below w22.heap.size w22 (w22.alloc (.cells #[.pointer fa] 30)) := (Below.refl _ _).alloc (Nat.le_refl _) _
    have hodd := ((HFR.out.below hb).below hal).odd
    have hbl := (HBZ.out.trans (hb.mono HBZ.out.size)).trans (hal.mono (HBZ.out.trans (hb.mono HBZ.out.size)).size)
    have HBF := Lib.hid (hbl.grown hg hbl.size (fun g hx => (hodd g hx).2.1))
    have HXF := Lib.hid hx
    clear hf hb hx hg hal hodd hbl HFR HBZ
    go_wp2_with (at_builtin; refine wpList_append rfl (.tmp 57) (.tmp 60) 62 rfl rfl rfl hrun ?_)
    go_roundw
    case rel => exact ⟨i + 1, _, by go_num, by omega, HXF.out, HBF.out⟩
    case measure => simp [intOf]; omega
   ·have i3 : decide ((i : Int) < (n : Int)) = false := by simp; omega
    have i3' : decide (i < n) = false := by simpa using hin
    clear hbz hin
    go_wp2_with fail
    with_reducible refine (Tryz.lawF _ _ (by decide)).mono ?_
    rintro e w22 ⟨⟨fv, q, rfl, hf, -⟩, hb⟩
    obtain ⟨fa, rfl⟩ := frac_pointer hf
    obtain ⟨xp', xc', w23, hrun, hx, -, hg⟩ := Tryz.appendF 62 (HFR.out.below hb) hf (by omega) (HBZ.out.trans (hb.mono HBZ.out.size)).size
    have hal : Below w22.heap.size w22 (w22.alloc (.cells #[.pointer fa] 30)) := (Below.refl _ _).alloc (Nat.le_refl _) _
    have hodd := ((HFR.out.below hb).below hal).odd
    have hbl := (HBZ.out.trans (hb.mono HBZ.out.size)).trans (hal.mono (HBZ.out.trans (hb.mono HBZ.out.size)).size)
    have HBF := Lib.hid (hbl.grown hg hbl.size (fun g hx => (hodd g hx).2.1))
    have HXF := Lib.hid hx
    clear hf hb hx hg hal hodd hbl HFR HBZ
    go_wp2_with (at_builtin; refine wpList_append rfl (.tmp 57) (.tmp 60) 62 rfl rfl rfl hrun ?_)
    go_roundw
    case rel => exact ⟨i + 1, _, by go_num, by omega, HXF.out, HBF.out⟩
    case measure => simp [intOf]; omega
  ·have e3 : decide ((i : Int) < (C : Int)) = false := by simp; omega
   have e3' : decide (i < C) = false := by simpa using hlt
   obtain rfl : i = C := by omega
   have HXR := Lib.hid HFR.out.read
   have HUr := Lib.hid (HU.out.below hbz)
   clear hbz HFR HU
   go_wp2_with fail
   with_reducible refine (Tryz.matTimes um _ R i 120 120 (matQ s1) f _ HUr.out HXR.out (by omega) (by omega) (by omega) (by omega) (by omega)).mono ?_
   rintro e w51 ⟨⟨b, rfl, hy, hyb⟩, hb⟩
   replace HXR := Lib.hid (HXR.out.below hb)
   replace HUr := Lib.hid (HUr.out.below hb)
   replace HBZ := Lib.hid (HBZ.out.trans (hb.mono HBZ.out.size))
   clear hb
   have HY := Lib.hid hy
   clear hy
   clear hyb
   have hms : MatR w51 um R i (matQ s1) 965 := HUr.out.congr (fun _ _ _ _ => rfl) (by omega)
   have hlb : LineR w51 (.slice (some ⟨b, 0, none⟩) R R) R (fun r => dotF (matQ s1 r) f i) 965 := HY.out.read.congr (fun _ _ => rfl) (by omega)
   have HMS := Lib.hid hms
   have HLB := Lib.hid hlb
   have HSZ : Hid (bk (gr 965 i) i ≤ 30000000000) := tallSize i (by omega)
   clear hms hlb HUr HY
   go_wp2_with fail
   with_reducible refine (Tryz.matSolve um _ R i 965 (matQ s1) (fun r => dotF (matQ s1 r) f i) _ HMS.out HLB.out (by omega) (by omega) (by omega) (by omega) (by omega) HSZ.out).mono ?_
   rintro e w60 ⟨⟨rfl, hno⟩ | ⟨gs, X, rfl, hy, hl⟩, hb⟩
   ·have HNO := Lib.hid hno
    have HM6 := Lib.hid (HMS.out.below hb)
    have HB6 := Lib.hid (HBZ.out.trans (hb.mono HBZ.out.size))
    clear hno hb HMS HLB HBZ HXR
    go_wp2_with fail
    with_reducible refine (Tryz.matRank um R i 965 (matQ s1) _ HM6.out (by omega) (by omega) (by omega) (by omega) (by omega) (Nat.le_trans (bk_ge _ _) HSZ.out)).mono ?_
    rintro e w61 ⟨⟨t, rfl, ht⟩, hb⟩
    have hne := tallN HNO.out (fun _ _ => rfl) ht
    have e4 : decide ((t : Int) = (i : Int)) = false := by simp; omega
    have e4' : decide (t = i) = false := by simpa using hne
    have e4b : ((t : Int) == (i : Int)) = false := by simp; omega
    have HB7 := Lib.hid (HB6.out.trans (hb.mono HB6.out.size))
    clear ht hne hb HB6 HNO HM6
    go_wp2_with fail
    go_loopw [86] (fun iv wr => iv = .int .i64 0 ∧ Below w3.heap.size w3 wr) (fun _ _ => 0)
    case atStart => exact ⟨rfl, HB7.out⟩
    case round =>
     obtain ⟨rfl, hb⟩ := hrel
     have HBE := Lib.hid (HB.out.trans (hb.mono HB.out.size))
     clear hb HB7
     go_wp2
     go_ret
     exact ⟨rfl, HBE.out⟩
   ·have HYY := Lib.hid hy
    have HL := Lib.hid hl
    have HM6 := Lib.hid (HMS.out.below hb)
    have HX6 := Lib.hid (HXR.out.below hb)
    have HB6 := Lib.hid (HBZ.out.trans (hb.mono HBZ.out.size))
    clear hy hl hb HMS HLB HBZ HXR
    go_wp2_with fail
    with_reducible refine (Tryz.matRank um R i 965 (matQ s1) _ HM6.out (by omega) (by omega) (by omega) (by omega) (by omega) (Nat.le_trans (bk_ge _ _) HSZ.out)).mono ?_
    rintro e w61 ⟨⟨t, rfl, ht⟩, hb⟩
    obtain ⟨rfl, hxf⟩ := tallY HYY.out (fun _ _ => rfl) ht
    have HXE := Lib.hid hxf
    have e4 : decide ((t : Int) = (t : Int)) = true := by simp
    have HB7 := Lib.hid (HB6.out.trans (hb.mono HB6.out.size))
    have HL7 := Lib.hid (HL.out.below hb)
    have HX7 := Lib.hid (HX6.out.below hb)
    have HK0 : Hid (1 ≤ bk (gr 965 t) t) := Nat.le_trans (gr_pos (by omega)) (bk_ge _ _)
    clear ht hxf hb HB6 HYY HM6 HL HX6
    obtain ⟨KK, hKK⟩ : ∃ KK, bk (gr 965 t) t = KK := ⟨_, rfl⟩
    rw [hKK] at HL7 HK0 HSZ
    clear hKK
    go_wp2_with fail
    go_loopw [86] (fun iv wr => ∃ y : Nat, iv = .int .i64 y ∧ y ≤ t ∧ Below w61.heap.size w61 wr) (fun iv _ => t - (intOf iv).toNat)
    case atStart => exact ⟨0, rfl, Nat.zero_le _, Below.refl _ _⟩
    case round =>
     obtain ⟨y, rfl, hy, hb⟩ := hrel
     have HBY := Lib.hid hb
     by_cases hly : y < t
     ·have y0 : (0 : Int) ≤ (y : Int) := by omega
      have y1 : (y : Int) < (t : Int) := by omega
      obtain ⟨a1, d1, -, hf1⟩ := (HL7.out.below hb).cell hly
      have c1 := (HL7.out.below hb).lt
      obtain ⟨g2, o2, cap3, a2, he, k1, k2, d2, hf2, c2⟩ := (HX7.out.below hb).nth hly
      simp only [Value.slice.injEq, true_and] at he
      obtain ⟨rfl, rfl⟩ := he
      unfold maxLen at k2
      have HF1 := Lib.hid hf1
      have HF2 := Lib.hid hf2
      have HE : Hid (ordQ (X y 0) (f y) = 0) := ordQ_zero.2 (HXE.out y hly)
      clear hb hf1 hf2
      go_wp2_with fail
      refine wp_region_held_drew (S := fun w' => w'.cell? ⟨gs, y, none⟩ = some (.pointer a1) ∧ w'.cell? ⟨g2, o2 + y, none⟩ = some (.pointer a2)) (by kernel_rfl) ⟨d1, d2⟩ (fun hHeld => ?_)
      replace HBY := Lib.hid (HBY.out.drew)
      replace HF1 := Lib.hid (HF1.out.below (Below.refl _ _).drew)
      replace HF2 := Lib.hid (HF2.out.below (Below.refl _ _).drew)
      clear hHeld
      replace d1 : wr.drew.cell? ⟨gs, y, none⟩ = some (.pointer a1) := d1
      replace d2 : wr.drew.cell? ⟨g2, o2 + y, none⟩ = some (.pointer a2) := d2
      replace c1 : gs < wr.drew.heap.size := c1
      replace c2 : g2 < wr.drew.heap.size := c2
      generalize wr.drew = wd at *
      have hHeld : (fun w' : World => w'.cell? ⟨gs, y, none⟩ = some (.pointer a1) ∧ w'.cell? ⟨g2, o2 + y, none⟩ = some (.pointer a2)) wd := ⟨d1, d2⟩
      refine takeY 0 (h := ?_)
      refine takeY 1 (h := ?_)
      refine takeY 2 (h := ?_)
      (try simp only [Act.put, List.setIfInBounds_toArray, List.set_cons_zero, List.set_cons_succ])
      refine takeY 3 (h := ?_)
      refine takeY 4 (h := ?_)
      refine takeY 5 (h := ?_)
      (try simp only [Act.put, List.setIfInBounds_toArray, List.set_cons_zero, List.set_cons_succ])
      refine takeY 6 (h := ?_)
      refine takeY 7 (h := ?_)
      (try simp only [Act.put, List.setIfInBounds_toArray, List.set_cons_zero, List.set_cons_succ])
      refine wpAnyH_ready (rs := [8]) (by kernel_rfl) (by simp) ?_
      refine AllReadyH.cons (by (simp only [List.getElem?_toArray, List.getElem?_cons_succ, List.getElem?_cons_zero]) <;> rfl) (fun KX hK => ?_) AllReadyH.nil
      go_simp
      with_reducible refine (Tryz.cmpA _ _ _ _ KK 120 _ HF1.out HF2.out HK0.out (by omega) HSZ.out (by omega)).mono ?_
      rintro e wd21 ⟨rfl, hb⟩
      rw [HE.out]
      clear hHeld
      replace d1 := cellOf hb d1
      replace d2 := cellOf hb d2
      replace HBY := Lib.hid (HBY.out.trans (hb.mono HBY.out.size))
      replace HF1 := Lib.hid (HF1.out.below hb)
      replace HF2 := Lib.hid (HF2.out.below hb)
      clear hb
      refine hK.out _ _ ⟨d1, d2⟩ (fun hHeld => ?_)
      clear hK KX
      (try simp only [Act.put, List.setIfInBounds_toArray, List.set_cons_zero, List.set_cons_succ])
      refine takeY 9 (h := ?_)
      (try simp only [Act.put, List.setIfInBounds_toArray, List.set_cons_zero, List.set_cons_succ])
      refine wpAnyH_done (by kernel_rfl) ?_ _
      clear hHeld HF1 HF2 HE d1 d2 c1 c2
      go_wp2
      go_roundw
      case rel => exact ⟨y + 1, by go_num, by omega, HBY.out⟩
      case measure => simp [intOf]; omega
     ·have e3 : decide ((y : Int) < (t : Int)) = false := by simp; omega
      have e3' : decide (y < t) = false := by simpa using hly
      have HBE := Lib.hid (HB.out.trans ((HB7.out.trans (hb.mono HB7.out.size)).mono HB.out.size))
      clear hb HBY HB7 HL7 HX7
      go_wp2
      go_ret
      exact ⟨rfl, HBE.out⟩
end Go.Proofs.Mt
