/- Numbers that stay as they are while others are made. -/
import Derived.Test.YtgcnpjnanlbmpaaGreatDoorGc
import Derived.Test.YtgcnpjnanlbmpaaGreatDoorTw
import Derived.Test.YtgcnpjnanlbmpaaGreatDoorSm
import Derived.Test.YtgcnpjnanlbmpaaGreatDoorLs
import Derived.Test.YtgcnpjnanlbmpaaGreatDoorNd
import Derived.Test.YtgcnpjnanlbmpaaGreatDoorDt
namespace Go.Proofs.Wd
open Go.RowKit
set_option linter.unusedVariables false
/-- Numbers that lie in a world, behind another one. -/
structure Kept (w0 w : World) (l : List (Value × Int × Nat)) : Prop where
  nums : ∀ p ∈ l, Num w p.1 p.2.1 p.2.2
  below : Below w0.heap.size w0 w
  tab : TabOk w
theorem Kept.start {w0 w : World} (hb : Below w0.heap.size w0 w) (hT : TabOk w) : Kept w0 w [] := ⟨fun p hp => by simp at hp, hb, hT⟩
theorem Kept.after {w0 w w' : World} {l : List (Value × Int × Nat)} (h : Kept w0 w l) (hb : Below w.heap.size w w') : Kept w0 w' l :=
  ⟨fun p hp => (h.nums p hp).below hb (Nat.le_refl _), Below.after h.below hb, h.tab.after hb⟩
theorem Kept.add {w0 w w' : World} {l : List (Value × Int × Nat)} (h : Kept w0 w l) (hb : Below w.heap.size w w') {v : Value} {z : Int} {n : Nat} (hn : Num w' v z n) : Kept w0 w' ((v, z, n) :: l) :=
  ⟨fun p hp => by
    rcases List.mem_cons.1 hp with rfl | hp
    · exact hn
    · exact (h.after hb).nums p hp, Below.after h.below hb, h.tab.after hb⟩
theorem Kept.at {w0 w : World} {l : List (Value × Int × Nat)} (h : Kept w0 w l) {v : Value} {z : Int} {n : Nat} (hm : (v, z, n) ∈ l) : Num w v z n := h.nums _ hm
theorem num_nil (w : World) (n : Nat) : Num w (.pointer none) 0 n := ⟨[], .inl ⟨rfl, rfl⟩, Dig.nil, .inl rfl, rfl, by simp⟩
theorem Num.nonneg {w : World} {v : Value} {z : Int} {n : Nat} (h : Num w v z n) : 0 ≤ z := by
  obtain ⟨xs, h1, h2, h3, rfl, h5⟩ := h
  exact val_nonneg h2
theorem Tryz.divAny (v u : Value) (z y : Int) (n m : Nat) (w : World) (hv : Num w v z n) (hu : Num w u y m) (hn : n ≤ 90000) :
    Calls Tryz.prog 38 #[v, u] w fun e w' => (∃ q r o, e = .returned (.tuple #[q, r, o])) ∧ Below w.heap.size w w' := by
  have y0 := hu.nonneg
  by_cases h : y = 0
  · subst h
    refine (Tryz.natDivNo v u m w hu).mono ?_
    rintro e w' ⟨rfl, rfl⟩
    exact ⟨⟨_, _, _, rfl⟩, Below.refl _ _⟩
  · refine (Tryz.natDiv v u z y n m w hv hu hn (by omega)).mono ?_
    rintro e w' ⟨⟨q, r, rfl, -, -⟩, hb⟩
    exact ⟨⟨_, _, _, rfl⟩, hb⟩
theorem Tryz.lessAny (v u : Value) (z y : Int) (n m : Nat) (w : World) (hv : Num w v z n) (hu : Num w u y m) (hn : n ≤ 90000) :
    Calls Tryz.prog 37 #[v, u] w fun e w' => (∃ q o, e = .returned (.tuple #[q, o])) ∧ Below w.heap.size w w' := by
  refine (Tryz.natLess v u z y n m w hv hu (by omega)).mono ?_
  rintro e w' ⟨⟨-, r, rfl, -⟩ | ⟨-, rfl⟩, hb⟩
  · exact ⟨⟨_, _, rfl⟩, hb⟩
  · exact ⟨⟨_, _, rfl⟩, hb⟩
theorem gcd_times {a b c : Int} (h : 0 ≤ c) : ((Int.gcd (a * c) (b * c) : Nat) : Int) = Int.gcd a b * c := by
  rw [Int.gcd_mul_right]
  obtain ⟨n, rfl⟩ := Int.eq_ofNat_of_zero_le h
  simp
theorem far_at {z k : Int} (h0 : 0 ≤ k) (h1 : k ≤ 100000) : far z k = z * 2 ^ k.toNat := by unfold far; rw [if_neg (by omega), if_neg (by omega)]
theorem gcd_far {a b k : Int} (h0 : 0 ≤ k) (h1 : k ≤ 100000) : ((Int.gcd (far a k) (far b k) : Nat) : Int) = far (Int.gcd a b : Int) k := by
  rw [far_at h0 h1, far_at h0 h1, far_at h0 h1]
  exact gcd_times (Int.le_of_lt (Int.pow_pos (by omega)))
end Go.Proofs.Wd
