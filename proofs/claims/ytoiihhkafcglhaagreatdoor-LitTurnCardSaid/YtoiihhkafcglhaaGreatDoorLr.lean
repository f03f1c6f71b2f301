/- What the reference's Lit reads: it is what Get of the package lit reads. -/
import Derived.Test.YtoiihhkafcglhaaGreatDoorLq
namespace Go.Proofs.Fr
open Go.Proofs
set_option linter.unusedVariables false
/-- A digit or a point. -/
def numC (c : UInt8) : Bool := c == 46 || digB c
/-- What the scan holds: the number, its digits, its points, its digits behind points. -/
def step (a : Nat × Nat × Nat × Nat) (c : UInt8) : Nat × Nat × Nat × Nat := if c = 46 then (a.1, a.2.1, a.2.2.1 + 1, a.2.2.2) else (a.1 * 10 + (c.toNat - 48), a.2.1 + 1, a.2.2.1, a.2.2.2 + a.2.2.1)
def scan (l : List UInt8) : Nat × Nat × Nat × Nat := l.foldl step (0, 0, 0, 0)
def expOf (r : List UInt8) : Option Int := match r with
  | [] => some 0
  | c :: r => if isE c = true then powOf r else none
def refDec (l : List UInt8) : Option Rat :=
  if (scan ((litSign l).2.takeWhile numC)).2.1 = 0 ∨ 1 < (scan ((litSign l).2.takeWhile numC)).2.2.1 then none
  else (expOf ((litSign l).2.dropWhile numC)).map fun e => scaleQ (sgn (litSign l).1 (scan ((litSign l).2.takeWhile numC)).1) (e - (scan ((litSign l).2.takeWhile numC)).2.2.2)
theorem digB_ne {c : UInt8} (h : digB c = true) : c ≠ 46 := by
  rintro rfl; revert h; decide
theorem digB_noE {c : UInt8} (h : digB c = true) : isE c = false := by
  rw [digB_iff] at h
  unfold Tx.isDig at h
  unfold isE
  rw [Bool.or_eq_false_iff, beq_eq_false_iff_ne, beq_eq_false_iff_ne]
  constructor
  · rintro rfl; revert h; decide
  · rintro rfl; revert h; decide
theorem numC_noE {c : UInt8} (h : numC c = true) : isE c = false := by
  unfold numC at h
  rw [Bool.or_eq_true] at h
  rcases h with h | h
  · have : c = 46 := by simpa using h
    subst this; decide
  · exact digB_noE h
theorem step_dig {a : Nat × Nat × Nat × Nat} {c : UInt8} (h : digB c = true) : step a c = (a.1 * 10 + (c.toNat - 48), a.2.1 + 1, a.2.2.1, a.2.2.2 + a.2.2.1) := by
  unfold step; rw [if_neg (digB_ne h)]
theorem scan_digits : ∀ (u : List UInt8) (n d p b : Nat), (∀ c ∈ u, digB c = true) → u.foldl step (n, d, p, b) = (n * 10 ^ u.length + Tx.dv u, d + u.length, p, b + u.length * p)
  | [], n, d, p, b, _ => by simp [Tx.dv]
  | c :: u, n, d, p, b, h => by
    have hc := h c (by simp)
    rw [List.foldl_cons, step_dig hc, scan_digits u _ _ _ _ (fun x hx => h x (by simp [hx])), Tx.dv_cons, List.length_cons, Nat.pow_succ]
    simp only [Prod.mk.injEq]
    refine ⟨by grind, by omega, trivial, by grind⟩
theorem scan_points : ∀ (u : List UInt8) (a : Nat × Nat × Nat × Nat), a.2.2.1 + u.count 46 = (u.foldl step a).2.2.1
  | [], a => by simp
  | c :: u, a => by
    rw [List.foldl_cons, ← scan_points u]
    unfold step
    by_cases h : c = 46
    · subst h; simp; omega
    · rw [if_neg h, List.count_cons_of_ne (fun e => h e)]
theorem idx_at {u v : List UInt8} (h : (46 : UInt8) ∉ u) : (u ++ 46 :: v).idxOf 46 = u.length := by
  rw [List.idxOf_append, if_neg h]; simp
theorem split_at {l : List UInt8} (h : (46 : UInt8) ∈ l) : ∃ u v, l = u ++ 46 :: v ∧ (46 : UInt8) ∉ u := by
  induction l with
  | nil => exact (List.not_mem_nil h).elim
  | cons c l ih =>
    by_cases hc : c = 46
    · subst hc; exact ⟨[], l, rfl, by simp⟩
    · obtain ⟨u, v, rfl, hu⟩ := ih (by
        rcases List.mem_cons.1 h with e | h
        · exact absurd e.symm hc
        · exact h)
      exact ⟨c :: u, v, rfl, by simp [hu]; exact fun e => hc e.symm⟩
theorem digs_of {u : List UInt8} (h : ∀ c ∈ u, numC c = true) (h46 : (46 : UInt8) ∉ u) : ∀ c ∈ u, digB c = true := by
  intro c hc
  have := h c hc
  unfold numC at this
  rw [Bool.or_eq_true] at this
  rcases this with e | e
  · have : c = 46 := by simpa using e
    subst this; exact absurd hc h46
  · exact e
theorem allDig_digs {u : List UInt8} (h : ∀ c ∈ u, digB c = true) : allDig u = !u.isEmpty := by
  unfold allDig
  rw [List.all_eq_true.2 h, Bool.and_true]
theorem allDig_bad {u : List UInt8} {c : UInt8} (h : c ∈ u) (hc : digB c = false) : allDig u = false := by
  unfold allDig
  rw [Bool.and_eq_false_iff]
  right
  rw [List.all_eq_false]
  exact ⟨c, h, by simp [hc]⟩
/-- Both read the same of digits and points. -/
theorem both_read {run : List UInt8} (h : ∀ c ∈ run, numC c = true) (neg : Bool) (e : Int) :
    (if allDig (wholeOf run ++ partOf run) = true then some (scaleQ (sgn neg (Tx.dv (wholeOf run ++ partOf run))) (e - (partOf run).length)) else none) =
    if (scan run).2.1 = 0 ∨ 1 < (scan run).2.2.1 then none else some (scaleQ (sgn neg (scan run).1) (e - (scan run).2.2.2)) := by
  by_cases h46 : (46 : UInt8) ∈ run
  · obtain ⟨u, v, rfl, hu⟩ := split_at h46
    have hw : wholeOf (u ++ 46 :: v) = u := by unfold wholeOf; rw [idx_at hu]; simp
    have hp : partOf (u ++ 46 :: v) = v := by unfold partOf; rw [idx_at hu, List.drop_append]; simp
    have hud := digs_of (u := u) (fun c hc => h c (by simp [hc])) hu
    rw [hw, hp]
    have hs : scan (u ++ 46 :: v) = v.foldl step (Tx.dv u, u.length, 1, 0) := by
      unfold scan
      rw [List.foldl_append, List.foldl_cons, scan_digits u 0 0 0 0 hud]
      unfold step
      simp
    by_cases hv : (46 : UInt8) ∈ v
    · rw [allDig_bad (List.mem_append.2 (.inr hv)) (by decide), if_neg (by decide), if_pos]
      right
      rw [hs, ← scan_points]
      have : 0 < v.count 46 := List.count_pos_iff.2 hv
      show 1 < 1 + v.count 46
      omega
    · have hvd := digs_of (u := v) (fun c hc => h c (by simp [hc])) hv
      have hd : ∀ c ∈ u ++ v, digB c = true := by
        intro c hc
        rcases List.mem_append.1 hc with hc | hc
        · exact hud c hc
        · exact hvd c hc
      rw [hs, scan_digits v _ _ _ _ hvd, allDig_digs hd, Tx.dv_append]
      by_cases h0 : u ++ v = []
      · rw [h0]
        have h1 := congrArg List.length h0
        rw [List.length_append, List.length_nil] at h1
        rw [if_neg (by simp), if_pos (by left; show u.length + v.length = 0; omega)]
      · have h1 : 0 < (u ++ v).length := List.length_pos_iff.2 h0
        rw [List.length_append] at h1
        rw [if_pos (by cases hh : u ++ v <;> simp_all), if_neg (by
          rintro (g | g)
          · have : u.length + v.length = 0 := g
            omega
          · have : 1 < 1 := g
            omega)]
        congr 2
        show e - (v.length : Int) = e - ((0 + v.length * 1 : Nat) : Int)
        omega
  · have hd := digs_of h h46
    have hi : run.idxOf 46 = run.length := List.idxOf_eq_length h46
    have hw : wholeOf run = run := by unfold wholeOf; rw [hi, List.take_length]
    have hp : partOf run = [] := by unfold partOf; rw [hi, List.drop_eq_nil_of_le (by omega)]
    have hs : scan run = (Tx.dv run, run.length, 0, 0) := by
      unfold scan
      rw [scan_digits run 0 0 0 0 hd]; simp
    rw [hw, hp, List.append_nil, hs, allDig_digs hd]
    by_cases h0 : run = []
    · subst h0; simp
    · have h1 : 0 < run.length := List.length_pos_iff.2 h0
      rw [if_pos (by cases run <;> simp_all), if_neg (by
        rintro (g | g)
        · have : run.length = 0 := g
          omega
        · have : 1 < 0 := g
          omega)]
      rfl
theorem find_run {run : List UInt8} (h : ∀ c ∈ run, numC c = true) (rest : List UInt8) : (run ++ rest).findIdx isE = run.length + rest.findIdx isE := by
  rw [List.findIdx_append]
  have : run.findIdx isE = run.length := List.findIdx_eq_length.2 (fun c hc => numC_noE (h c hc))
  rw [this, if_neg (by omega)]; omega
theorem mem_parts {b : List UInt8} {c : UInt8} (h : c ∈ b) (hc : c ≠ 46) : c ∈ wholeOf b ++ partOf b := by
  unfold wholeOf partOf
  rw [List.mem_append]
  have h2 : c ∈ b.take (b.idxOf 46) ++ b.drop (b.idxOf 46) := by rw [List.take_append_drop]; exact h
  rcases List.mem_append.1 h2 with h3 | h3
  · exact .inl h3
  · right
    by_cases hl : b.idxOf 46 < b.length
    · rw [List.drop_eq_getElem_cons hl] at h3
      rcases List.mem_cons.1 h3 with e | h3
      · have := List.getElem_idxOf hl
        rw [this] at e
        exact absurd e hc
      · exact h3
    · rw [List.drop_eq_nil_of_le (by omega)] at h3
      exact (List.not_mem_nil h3).elim
theorem dec_ref (l : List UInt8) : decQ l = refDec l := by
  unfold decQ refDec
  obtain ⟨neg, hneg⟩ : ∃ b, (litSign l).1 = b := ⟨_, rfl⟩
  obtain ⟨t, ht⟩ : ∃ t, (litSign l).2 = t := ⟨_, rfl⟩
  rw [hneg, ht]
  obtain ⟨run, hrun⟩ : ∃ r, t.takeWhile numC = r := ⟨_, rfl⟩
  obtain ⟨rest, hrest⟩ : ∃ r, t.dropWhile numC = r := ⟨_, rfl⟩
  have htr : t = run ++ rest := by rw [← hrun, ← hrest, List.takeWhile_append_dropWhile]
  have hn : ∀ c ∈ run, numC c = true := by
    rw [← hrun]; exact fun c hc => List.all_eq_true.1 List.all_takeWhile c hc
  rw [hrun, hrest]
  have hb := fun e => both_read hn neg e
  have hf := find_run hn rest
  rw [← htr] at hf
  cases rest with
  | nil =>
    have hc : cutPow t = some (run, 0) := by
      unfold cutPow
      rw [hf, htr]; simp
    rw [hc]
    show (if _ then _ else _) = _
    rw [hb]
    show _ = if _ then none else some _
    rfl
  | cons c r =>
    have hcn : numC c = false := by
      have := List.head?_dropWhile_not numC t
      rw [hrest] at this
      simpa using this
    cases hE : isE c with
    | true =>
      have hfi : (c :: r).findIdx isE = 0 := by rw [List.findIdx_cons, hE]; rfl
      rw [hfi, Nat.add_zero] at hf
      have hc : cutPow t = (powOf r).map fun p => (run, p) := by
        unfold cutPow
        have hd : (run ++ c :: r).drop (run.length + 1) = r := by
          rw [show run ++ c :: r = (run ++ [c]) ++ r by simp, show run.length + 1 = (run ++ [c]).length by simp, List.drop_left]
        rw [hf, htr, if_pos (by simp), List.take_left, hd]
      rw [hc]
      have he : expOf (c :: r) = powOf r := by unfold expOf; simp [hE]
      rw [he]
      cases hp : powOf r with
      | none => simp
      | some p =>
        show (if _ then _ else _) = _
        rw [hb]
        rfl
    | false =>
      have he : expOf (c :: r) = none := by unfold expOf; simp [hE]
      rw [he]
      have hr : (if (scan run).2.1 = 0 ∨ 1 < (scan run).2.2.1 then none else Option.map (fun e => scaleQ (sgn neg (scan run).1) (e - (scan run).2.2.2)) (none : Option Int)) = none := by simp
      rw [hr]
      have hcd : digB c = false ∧ c ≠ 46 := by
        unfold numC at hcn
        rw [Bool.or_eq_false_iff] at hcn
        exact ⟨hcn.2, by simpa using hcn.1⟩
      cases hcp : cutPow t with
      | none => rfl
      | some bp =>
        obtain ⟨b, p⟩ := bp
        have hcb : c ∈ b := by
          have hfi : (c :: r).findIdx isE = r.findIdx isE + 1 := by rw [List.findIdx_cons, hE]; rfl
          rw [hfi] at hf
          unfold cutPow at hcp
          rw [hf] at hcp
          split at hcp
          · cases hpw : powOf (t.drop (run.length + (r.findIdx isE + 1) + 1)) with
            | none => rw [hpw] at hcp; simp at hcp
            | some x =>
              rw [hpw] at hcp
              simp only [Option.map_some, Option.some.injEq, Prod.mk.injEq] at hcp
              rw [← hcp.1, htr, List.take_append]
              rw [show run.length + (r.findIdx isE + 1) - run.length = r.findIdx isE + 1 by omega, List.take_succ_cons]
              simp
          · simp only [Option.some.injEq, Prod.mk.injEq] at hcp
            rw [← hcp.1, htr]; simp
        show (if _ then _ else _) = _
        rw [allDig_bad (mem_parts hcb hcd.2) hcd.1, if_neg (by decide)]
end Go.Proofs.Fr
