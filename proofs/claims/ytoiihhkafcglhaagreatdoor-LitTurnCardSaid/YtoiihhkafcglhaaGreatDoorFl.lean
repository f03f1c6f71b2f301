/- Numbers and fractions that stay as they are while others are made; the parts of quotients, sums and products with their signs. -/
import Derived.Test.YtoiihhkafcglhaaGreatDoorFd
import Derived.Test.YtoiihhkafcglhaaGreatDoorNd
namespace Go.Proofs.Fr
open Go.RowKit Go.Proofs.Wd
set_option linter.unusedVariables false
/-- Numbers and fractions that lie in a world, behind another one. -/
structure Lies (w0 w : World) (ns : List (Value × Int × Nat)) (fs : List (Value × Rat × Nat)) : Prop where
  nums : ∀ p ∈ ns, Num w p.1 p.2.1 p.2.2
  fracs : ∀ p ∈ fs, FracIs w p.1 p.2.1 p.2.2
  below : Below w0.heap.size w0 w
theorem Lies.start (w : World) : Lies w w [] [] := ⟨fun p hp => (List.not_mem_nil hp).elim, fun p hp => (List.not_mem_nil hp).elim, Below.refl _ _⟩
theorem Lies.after {w0 w w' : World} {ns fs} (h : Lies w0 w ns fs) (hb : Below w.heap.size w w') : Lies w0 w' ns fs :=
  ⟨fun p hp => (h.nums p hp).below hb (Nat.le_refl _), fun p hp => (h.fracs p hp).below hb, Below.after h.below hb⟩
theorem Lies.addN {w0 w : World} {ns fs} (h : Lies w0 w ns fs) {v : Value} {z : Int} {n : Nat} (hn : Num w v z n) : Lies w0 w ((v, z, n) :: ns) fs :=
  ⟨fun p hp => by
    rcases List.mem_cons.1 hp with rfl | hp
    · exact hn
    · exact h.nums p hp, h.fracs, h.below⟩
theorem Lies.addF {w0 w : World} {ns fs} (h : Lies w0 w ns fs) {v : Value} {q : Rat} {k : Nat} (hn : FracIs w v q k) : Lies w0 w ns ((v, q, k) :: fs) :=
  ⟨h.nums, fun p hp => by
    rcases List.mem_cons.1 hp with rfl | hp
    · exact hn
    · exact h.fracs p hp, h.below⟩
theorem Lies.num {w0 w : World} {ns fs} (h : Lies w0 w ns fs) {v : Value} {z : Int} {n : Nat} (hm : (v, z, n) ∈ ns) : Num w v z n := h.nums _ hm
theorem Lies.frac {w0 w : World} {ns fs} (h : Lies w0 w ns fs) {v : Value} {q : Rat} {k : Nat} (hm : (v, q, k) ∈ fs) : FracIs w v q k := h.fracs _ hm
theorem frac_at {w : World} {v : Value} {q r : Rat} {k m : Nat} (h : FracIs w v q k) (e : q = r) (l : k ≤ m) : FracIs w v r m := by subst e; exact h.more l
theorem sgn_mul (neg : Bool) (n m : Nat) : sgn neg n * (m : Int) = sgn neg (n * m) := by unfold sgn; split <;> simp [Int.natCast_mul, Int.neg_mul]
theorem sgn_div (neg : Bool) {n g : Nat} (h : g ∣ n) : sgn neg n / (g : Int) = sgn neg (n / g) := by
  unfold sgn
  split
  · rw [Int.neg_ediv_of_dvd (Int.natCast_dvd_natCast.2 h), Int.natCast_ediv]
  · rw [Int.natCast_ediv]
theorem sgn_self (z : Int) : sgn (decide (z < 0)) z.natAbs = z := by unfold sgn; by_cases h : z < 0 <;> simp [h] <;> omega
end Go.Proofs.Fr
