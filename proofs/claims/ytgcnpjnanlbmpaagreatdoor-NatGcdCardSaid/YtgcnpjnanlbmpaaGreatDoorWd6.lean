/- What slices.Clone at words and Text of nought of the package nat return. -/
import Derived.Test.YtgcnpjnanlbmpaaGreatDoorWd5
import Derived.Laws.AppendOwnNone
namespace Go.Proofs.Wd
open Go.RowKit
set_option linter.unusedVariables false
theorem eqNilIn {P : Program} (w : World) (d : Nat) (t e : TypeId) (a : Option Addr) (l c : Nat) (h : P.underlying t = some (.slice e)) : (Op.equalIn (d + 1) t (.slice a l c) (.slice none 0 0)).run P w = .ok a.isNone w := by
  cases a <;> simp [Op.equalIn, run_underlying h]
theorem eqNilAt {P : Program} (w : World) (t e : TypeId) (a : Option Addr) (l c : Nat) (h : P.underlying t = some (.slice e)) : (Op.equal t (.slice a l c) (.slice none 0 0)).run P w = .ok a.isNone w := eqNilIn w 9999 t e a l c h
theorem eqNil {P : Program} (w : World) (t e : TypeId) (a : Option Addr) (l c : Nat) (h : P.underlying t = some (.slice e)) : (binOp .eql t (.slice a l c) (.slice none 0 0)).run P w = .ok (.bool a.isNone) w := by
  simp [binOp, eqNilAt w t e a l c h]
theorem wpList_append_digs {P : Program} {w : World} {ops : Array Oper} {rest : List Oper} {o : Oper} {a : Act} {Q : Exit → Act → World → Prop} (hgd : o.guard = none) (s x : Operand) (t : TypeId)
    (ho : o.op = .call { callee := .builtin .append, args := #[s, x], argTypes := #[t, t] }) (base : Nat) (i : TypeInfo)
    (ht : P.underlying t = some (.slice 22)) (hi : P.info? 22 = some i) (hz : i.zero = some (.int .u64 0)) (hsize : i.size = 1) (hby : i.bytes = 8)
    (v : Value) (n : Nat) (xs : List Value) (hs : a.eval s = v) (hown : w.ownsRow base 22 1 v n xs)
    (r : Value) (rs : List Int) (hx : a.eval x = r) (hr : Digs w r rs) (hlen : n + rs.length ≤ 1000000) (hbase : base ≤ w.heap.size)
    (h : ∀ v' w', w'.ownsRow base 22 1 v' (n + rs.length) (xs ++ rs.map (Value.int .u64)) → w.grownBy w' v.ownBlock → wpList P ops Q rest (a.put o.dst v') w') : wpList P ops Q (o :: rest) a w := by
  rcases hr.cases with ⟨rfl, rfl⟩ | ⟨g, cap, rfl, hrow⟩
  · refine wpList_append_own_none hgd s x t ho base 22 i 1 ht hi v n xs hs hown hx ?_
    exact h v w (by simpa using hown) ⟨rfl, rfl, rfl, Nat.le_refl _, fun _ _ _ => rfl⟩
  · refine wpList_append_own w hgd s x t ho base 22 i (.int .u64 0) 1 8 ht hi hz hsize hby rfl (by decide) v n xs hs hown ⟨g, 0, none⟩ rs.length cap (rs.map (Value.int .u64)) hx (by simp) ?_ ?_ (by unfold maxLen; omega) (by omega) hbase ?_
    · intro j u hj
      rw [List.getElem?_map] at hj
      have hjl : j < rs.length := by
        by_cases g : j < rs.length
        · exact g
        · rw [List.getElem?_eq_none (by omega)] at hj; simp at hj
      rw [List.getElem?_eq_getElem hjl] at hj
      have hc := hrow.cells j hjl
      simp only [Option.map_some, Option.some.injEq] at hj
      rw [← hj]
      have e : (⟨g, 0, none⟩ : Addr).add j = ⟨g, j, none⟩ := by unfold Addr.add; split <;> simp_all
      rw [e, hc]
      simp [List.getD, hjl]
    · intro u hm
      obtain ⟨z, _, rfl⟩ := List.mem_map.1 hm
      rfl
    · intro v' w' h1 h2 _
      exact h v' w' h1 h2

set_option maxHeartbeats 2000000 in
set_option maxRecDepth 100000 in
theorem Tryz.clone (v : Value) (xs : List Int) (w : World) (h : Digs w v xs) (hlen : xs.length ≤ 1000000) :
    Calls Tryz.prog 55 #[v] w fun e w' => (∃ v', e = .returned v' ∧ w'.ownsRow w.heap.size 22 1 v' xs.length (xs.map (Value.int .u64))) ∧ Below w.heap.size w w' := by
  obtain ⟨i0, hi, hz0, hz1, hz2⟩ := info_parts Tryz.info22
  have heq : ∀ (a : Option Addr) (l c : Nat) (w : World), (binOp .eql 86 (.slice a l c) (.slice none 0 0)).run Tryz.prog w = .ok (.bool a.isNone) w := fun a l c w => eqNil w _ _ a l c Tryz.underlying86
  rcases h.cases with ⟨rfl, rfl⟩ | ⟨g, cap, rfl, hr⟩
  · clear h
    go_enter Tryz.func55, Tryz.ntmps55
    go_wp2
    go_ret
    exact ⟨⟨_, rfl, World.ownsRow_nil _ _ _ _⟩, Below.refl _ _⟩
  · have H : Hid (Digs w (.slice (some ⟨g, 0, none⟩) xs.length cap) xs) := h
    clear h hr
    go_enter Tryz.func55, Tryz.ntmps55
    go_wp2_with (first
      | (at_builtin; refine wpList_append_digs rfl _ _ 86 rfl w.heap.size i0 Tryz.underlying86 hi hz0 hz1 hz2 _ 0 _ rfl (World.ownsRow_lit w #[] 0 (Nat.le_refl _) (by unfold maxLen; omega) rfl) _ xs rfl (H.out.below ((Below.refl w.heap.size w).alloc (Nat.le_refl _) _) (Nat.le_refl _)) (by omega) (by simp) ?_))
    intro v' w1 hown hgrow
    have HO : Hid (w1.ownsRow w.heap.size 22 1 v' xs.length (xs.map (Value.int .u64))) := by simpa [Hid] using hown
    have HB : Hid (Below w.heap.size w w1) := ((Below.refl _ w).alloc (Nat.le_refl _) _).grown hgrow (by simp) (fun j hj => by simp [Value.ownBlock] at hj; omega)
    clear hown hgrow
    go_wp2
    go_ret
    exact ⟨⟨_, rfl, HO.out⟩, HB.out⟩
theorem Num.zero {w : World} {v : Value} {n : Nat} (h : Num w v 0 n) : IsNat w v [] := by
  obtain ⟨xs, h1, h2, h3, h4, _⟩ := h
  rw [(top_zero h2 h3).1 h4] at h1
  exact h1
theorem ownsRow_zero {w : World} {B : Nat} {e : TypeId} {v : Value} {xs : List Value} (h : w.ownsRow B e 1 v 0 xs) : ∃ p cap, v = .slice p 0 cap := by
  obtain ⟨h0, h⟩ := h
  rcases h with ⟨rfl, _⟩ | ⟨g, cap, cur, rfl, _⟩
  · exact ⟨none, 0, rfl⟩
  · exact ⟨_, cap, rfl⟩
set_option maxHeartbeats 2000000 in
set_option maxRecDepth 100000 in
theorem Tryz.textZero (v : Value) (n : Nat) (w : World) (h : Num w v 0 n) :
    Calls Tryz.prog 14 #[v] w fun e w' => e = .returned (.string ⟨#[48]⟩) ∧ Below w.heap.size w w' := by
  have H : Hid (IsNat w v []) := h.zero
  clear h
  go_enter Tryz.func14, Tryz.ntmps14
  go_wp2_with (first
    | (go_at_call 56; refine (Tryz.all v [] _ H.out).mono ?_; rintro e w1 ⟨⟨s, rfl, hs⟩, rfl⟩; have HS : Hid (Digs w1 s []) := hs; clear hs)
    | (go_at_call 55; refine (Tryz.clone _ [] _ HS.out (by simp)).mono ?_; rintro e w2 ⟨⟨s2, rfl, hs2⟩, hb2⟩; obtain ⟨p, cap, rfl⟩ := ownsRow_zero hs2; clear hs2))
  go_ret
  exact ⟨rfl, hb2⟩
end Go.Proofs.Wd
