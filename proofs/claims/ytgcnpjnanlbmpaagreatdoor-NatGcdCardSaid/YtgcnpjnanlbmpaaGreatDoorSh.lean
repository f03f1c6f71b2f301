/- What holds at the head of shortened's loop, and how each way through it keeps it. -/
import Derived.Test.YtgcnpjnanlbmpaaGreatDoorWr
import Derived.Test.YtgcnpjnanlbmpaaGreatDoorNd
import Derived.Deep.OwnRows
namespace Go.Proofs.Wd
open Go.RowKit
set_option linter.unusedVariables false
theorem Tryz.work (e : Bool) (u v : Int) (gz capz n gx capx gy capy : Nat) (L xs ys : List Int) (w : World) (hz : RowOf w gz L) (hL : Dig L) (hfit : n ≤ L.length) (hlen : L.length ≤ 1000000) (hx : RowAt w gx capx xs) (hy : RowAt w gy capy ys) (hxl : xs.length = n) (hyl : ys.length = n) (hxd : Dig xs) (hyd : Dig ys) (hxz : gx ≠ gz) (hyz : gy ≠ gz)
    (u0 : 0 ≤ u) (u1 : u ≤ 18446744073709551615) (v0 : 0 ≤ v) (v1 : v ≤ 18446744073709551615) (h0 : 0 ≤ made2 (val xs) (val ys) u v e) (h1 : made2 (val xs) (val ys) u v e < 18446744073709551616 ^ n) :
    Calls Tryz.prog 178 #[.agg #[.int .u64 u, .int .u64 v], .slice (some ⟨gz, 0, none⟩) n capz, .slice (some ⟨gx, 0, none⟩) n capx, .slice (some ⟨gy, 0, none⟩) n capy, .bool e] w fun e' w' =>
      (∃ M, e' = .returned (.tuple #[]) ∧ RowOf w' gz M ∧ Dig M ∧ M.length = L.length ∧ val (M.take n) = made2 (val xs) (val ys) u v e) ∧ w.grownBy w' (some gz) := by
  cases e with
  | true => exact Tryz.workAhead u v gz capz n gx capx gy capy L xs ys w hz hL hfit hlen hx hy hxl hyl hxd hyd hxz hyz u0 u1 v0 v1 (by simpa [made2] using h0) (by simpa [made2] using h1)
  | false => exact Tryz.workBehind u v gz capz n gx capx gy capy L xs ys w hz hL hfit hlen hx hy hxl hyl hxd hyd hxz hyz u0 u1 v0 v1 (by simpa [made2] using h0) (by simpa [made2] using h1)
/-- The number that a slice of words holds. -/
def rowVal (w : World) (v : Value) : Nat := match v with
  | .slice (some a) l _ => match w.heap[a.block]? with
    | some (.cells cs _ _) => (val ((cs.toList.map intOf).take l)).toNat
    | _ => 0
  | _ => 0
theorem rowVal_row {w : World} {g l c : Nat} {L : List Int} (h : RowOf w g L) : rowVal w (.slice (some ⟨g, 0, none⟩) l c) = (val (L.take l)).toNat := by
  unfold rowVal RowOf at *
  simp only [h, List.map_map]
  rw [show (intOf ∘ Value.int IntKind.u64) = id from rfl, List.map_id]
/-- A slice from the head of a block of its own that is newer than w0. -/
structure Buf (w0 w : World) (v : Value) (g l c : Nat) (L : List Int) : Prop where
  is : v = .slice (some ⟨g, 0, none⟩) l c
  row : RowOf w g L
  len : L.length = c
  le : l ≤ c
  cap : c ≤ 1000000
  dig : Dig L
  new : w0.heap.size ≤ g
theorem Buf.digs {w0 w : World} {v : Value} {g l c : Nat} {L : List Int} (h : Buf w0 w v g l c L) : Digs w (.slice (some ⟨g, 0, none⟩) l c) (L.take l) := by
  have h1 := (h.row.digs (by rw [h.len]; have := h.cap; unfold maxLen; omega)).take l (by rw [h.len]; exact h.le)
  rw [h.len] at h1
  exact h1
theorem Buf.at {w0 w : World} {v : Value} {g l c : Nat} {L : List Int} (h : Buf w0 w v g l c L) : RowAt w g c (L.take l) := by
  have h1 := RowAt.of_row h.row (by rw [h.len]; exact h.cap) l (by rw [h.len]; exact h.le)
  rw [h.len] at h1
  exact h1
theorem Buf.kept {w0 w w' : World} {v : Value} {g l c : Nat} {L : List Int} {row : Option Nat} (h : Buf w0 w v g l c L) (hg : w.grownBy w' row) (hne : some g ≠ row) : Buf w0 w' v g l c L :=
  ⟨h.is, h.row.kept hg hne, h.len, h.le, h.cap, h.dig, h.new⟩
theorem Buf.below {w0 w w' : World} {v : Value} {g l c : Nat} {L : List Int} (h : Buf w0 w v g l c L) (hb : Below w.heap.size w w') : Buf w0 w' v g l c L :=
  ⟨h.is, h.row.below hb h.row.lt, h.len, h.le, h.cap, h.dig, h.new⟩
theorem Buf.cut {w0 w : World} {v : Value} {g l c : Nat} {L : List Int} (h : Buf w0 w v g l c L) {n : Nat} (hn : n ≤ l) : Buf w0 w (.slice (some ⟨g, 0, none⟩) n c) g n c L :=
  ⟨rfl, h.row, h.len, Nat.le_trans hn h.le, h.cap, h.dig, h.new⟩
theorem Buf.tl {w0 w : World} {v : Value} {g l c : Nat} {L : List Int} (h : Buf w0 w v g l c L) : (L.take l).length = l := by
  rw [List.length_take, h.len]; have := h.le; omega
theorem Buf.trims {w0 w : World} {v : Value} {g l c : Nat} {L : List Int} (h : Buf w0 w v g l c L) :
    Calls Tryz.prog 58 #[.slice (some ⟨g, 0, none⟩) l c] w fun e w' => (∃ k : Nat, e = .returned (.slice (some ⟨g, 0, none⟩) k c) ∧ k ≤ l ∧ Top (L.take k) ∧ val (L.take k) = val (L.take l)) ∧ w' = w := by
  have h1 := Tryz.trim (some ⟨g, 0, none⟩) c (L.take l) w (by rw [h.tl]; exact h.digs)
  rw [h.tl] at h1
  refine h1.mono ?_
  rintro e w' ⟨⟨k, rfl, hk, ht, hv⟩, rfl⟩
  rw [List.take_take, Nat.min_eq_left hk] at ht hv
  exact ⟨⟨k, rfl, hk, ht, hv⟩, rfl⟩
/-- A number that is not greater than one of n words stands in n words. -/
theorem Buf.short {w0 w : World} {v : Value} {g l c : Nat} {L : List Int} (h : Buf w0 w v g l c L) {n : Nat} (hn : n ≤ l) (hv : val (L.take l) < 18446744073709551616 ^ n) : val (L.take n) = val (L.take l) := by
  have h1 := val_take_of_lt (h.dig.take l) hv
  rw [List.take_take, Nat.min_eq_left hn] at h1
  exact h1
theorem two_words {xs ys : List Int} (hx : Dig xs) (hy : Dig ys) (ty : Top ys) (h2 : 2 ≤ ys.length) (hle : val ys ≤ val xs) : 2 ≤ xs.length := by
  have h1 := top_pos hy ty (fun e => by rw [e] at h2; simp at h2)
  have h3 := val_lt hx
  by_cases g : 2 ≤ xs.length
  · exact g
  · have h4 := pow_mono' (i := xs.length) (j := ys.length - 1) (by omega)
    omega
/-- What holds at the head of shortened's loop. -/
structure ShAt (w0 w : World) (xv yv sv tv : Value) (l gx gy gs gt cx cy cs ct : Nat) (Lx Ly Ls Lt : List Int) (G : Nat) : Prop where
  x : Buf w0 w xv gx l cx Lx
  y : Buf w0 w yv gy l cy Ly
  s : Buf w0 w sv gs l cs Ls
  t : Buf w0 w tv gt l ct Lt
  xy : gx ≠ gy
  xs : gx ≠ gs
  xt : gx ≠ gt
  ys : gy ≠ gs
  yt : gy ≠ gt
  st : gs ≠ gt
  le : val (Ly.take l) ≤ val (Lx.take l)
  gcd : Int.gcd (val (Lx.take l)) (val (Ly.take l)) = G
  below : Below w0.heap.size w0 w
theorem RowOf.of_alloc (w : World) (m : Nat) : RowOf (w.alloc (.cells (madeCells #[Value.int .u64 0] m) 22)) w.heap.size (List.replicate m 0) := by
  unfold RowOf
  rw [heap_alloc_last]
  have h := toList_madeCells_one (Value.int .u64 0) m
  congr 2
  apply Array.ext'
  simp only [List.map_replicate]
  exact h
theorem RowOf.alloc {w : World} {g : Nat} {L : List Int} (h : RowOf w g L) (o : Obj) : RowOf (w.alloc o) g L := h.below ((Below.refl _ _).alloc (Nat.le_refl _) _) h.lt
theorem ShAt.cutAll {w0 w : World} {xv yv sv tv : Value} {l gx gy gs gt cx cy cs ct : Nat} {Lx Ly Ls Lt : List Int} {G : Nat} (h : ShAt w0 w xv yv sv tv l gx gy gs gt cx cy cs ct Lx Ly Ls Lt G) {n : Nat} (hn : n ≤ l) (hv : val (Lx.take l) < 18446744073709551616 ^ n) :
    ShAt w0 w (.slice (some ⟨gx, 0, none⟩) n cx) (.slice (some ⟨gy, 0, none⟩) n cy) (.slice (some ⟨gs, 0, none⟩) n cs) (.slice (some ⟨gt, 0, none⟩) n ct) n gx gy gs gt cx cy cs ct Lx Ly Ls Lt G ∧ val (Lx.take n) = val (Lx.take l) ∧ val (Ly.take n) = val (Ly.take l) := by
  have ex := h.x.short hn hv
  have ey := h.y.short hn (Int.lt_of_le_of_lt h.le hv)
  exact ⟨⟨h.x.cut hn, h.y.cut hn, h.s.cut hn, h.t.cut hn, h.xy, h.xs, h.xt, h.ys, h.yt, h.st, by rw [ex, ey]; exact h.le, by rw [ex, ey]; exact h.gcd, h.below⟩, ex, ey⟩
theorem ShAt.drewN {w0 w : World} {xv yv sv tv : Value} {l gx gy gs gt cx cy cs ct : Nat} {Lx Ly Ls Lt : List Int} {G : Nat} (h : ShAt w0 w xv yv sv tv l gx gy gs gt cx cy cs ct Lx Ly Ls Lt G) (n : Nat) : ShAt w0 (w.drewN n) xv yv sv tv l gx gy gs gt cx cy cs ct Lx Ly Ls Lt G := by
  have hb : Below w.heap.size w (w.drewN n) := belowN (Below.refl _ _) n
  exact ⟨h.x.below hb, h.y.below hb, h.s.below hb, h.t.below hb, h.xy, h.xs, h.xt, h.ys, h.yt, h.st, h.le, h.gcd, belowN h.below n⟩
theorem ShAt.later {w0 w w' : World} {xv yv sv tv : Value} {l gx gy gs gt cx cy cs ct : Nat} {Lx Ly Ls Lt : List Int} {G : Nat} (h : ShAt w0 w xv yv sv tv l gx gy gs gt cx cy cs ct Lx Ly Ls Lt G) (hb : Below w.heap.size w w') : ShAt w0 w' xv yv sv tv l gx gy gs gt cx cy cs ct Lx Ly Ls Lt G :=
  ⟨h.x.below hb, h.y.below hb, h.s.below hb, h.t.below hb, h.xy, h.xs, h.xt, h.ys, h.yt, h.st, h.le, h.gcd, Below.after h.below hb⟩
theorem ShAt.divided {w0 w w' : World} {xv yv sv tv : Value} {l gx gy gs gt cx cy cs ct : Nat} {Lx Ly Ls Lt : List Int} {G : Nat} (h : ShAt w0 w xv yv sv tv l gx gy gs gt cx cy cs ct Lx Ly Ls Lt G) {M : List Int} {g : Nat} (hb : Below w.heap.size w w') (hg : w.heap.size ≤ g) (hr : RowOf w' g M) (hM : Dig M) (hl : M.length = l) (hl6 : l ≤ 1000000)
    (e : val M = val (Lx.take l) % val (Ly.take l)) (y0 : 0 < val (Ly.take l)) : ShAt w0 w' yv (.slice (some ⟨g, 0, none⟩) l l) sv tv l gy g gs gt cy l cs ct Ly M Ls Lt G := by
  have hM2 : M.take l = M := List.take_of_length_le (by omega)
  have bx := h.x.row.lt
  have by_ := h.y.row.lt
  have bs := h.s.row.lt
  have bt := h.t.row.lt
  refine ⟨h.y.below hb, ⟨rfl, hr, hl, Nat.le_refl _, hl6, hM, Nat.le_trans h.below.size hg⟩, h.s.below hb, h.t.below hb, by omega, h.ys, h.yt, by omega, by omega, h.st, ?_, ?_, Below.after h.below hb⟩
  · rw [hM2, e]; exact Int.le_of_lt (Int.emod_lt_of_pos _ y0)
  · rw [hM2, e, gcd_mod]; exact h.gcd
theorem ShAt.worked {w0 w w1 w2 : World} {xv yv sv tv : Value} {l gx gy gs gt cx cy cs ct : Nat} {Lx Ly Ls Lt : List Int} {G : Nat} (h : ShAt w0 w xv yv sv tv l gx gy gs gt cx cy cs ct Lx Ly Ls Lt G) {M1 M2 : List Int} {u0 v0 u1 v1 : Int} {q : Bool} (k1 : w.grownBy w1 (some gs)) (r1 : RowOf w1 gs M1) (d1 : Dig M1) (l1 : M1.length = Ls.length)
    (k2 : w1.grownBy w2 (some gt)) (r2 : RowOf w2 gt M2) (d2 : Dig M2) (l2 : M2.length = Lt.length) (good : Good (val (Lx.take l)) (val (Ly.take l)) u0 v0 u1 v1 q) (e1 : val (M1.take l) = made2 (val (Lx.take l)) (val (Ly.take l)) u0 v0 q) (e2 : val (M2.take l) = made2 (val (Lx.take l)) (val (Ly.take l)) u1 v1 (!q)) :
    ShAt w0 w2 sv tv xv yv l gs gt gx gy cs ct cx cy M1 M2 Lx Ly G := by
  have hne : ∀ {a b : Nat}, a ≠ b → some a ≠ some b := fun h e => h (Option.some.inj e)
  refine ⟨⟨h.s.is, r1.kept k2 (hne h.st), by rw [l1]; exact h.s.len, h.s.le, h.s.cap, d1, h.s.new⟩, ⟨h.t.is, r2, by rw [l2]; exact h.t.len, h.t.le, h.t.cap, d2, h.t.new⟩, (h.x.kept k1 (hne h.xs)).kept k2 (hne h.xt), (h.y.kept k1 (hne h.ys)).kept k2 (hne h.yt), h.st, h.xs.symm, h.ys.symm, h.xt.symm, h.yt.symm, h.xy, ?_, ?_, ?_⟩
  · rw [e1, e2]; exact Int.le_of_lt good.lt
  · rw [e1, e2, good.gcd]; exact h.gcd
  · refine (h.below.grown k1 h.below.size (fun k hk => ?_)).grown k2 (Nat.le_trans h.below.size k1.size) (fun k hk => ?_)
    · cases hk; exact h.s.new
    · cases hk; exact h.t.new
theorem made_bounds {X Y u0 v0 u1 v1 : Int} {q : Bool} {n : Nat} (g : Good X Y u0 v0 u1 v1 q) (hY : Y < 18446744073709551616 ^ n) : 0 ≤ made2 X Y u0 v0 q ∧ made2 X Y u0 v0 q < 18446744073709551616 ^ n ∧ 0 ≤ made2 X Y u1 v1 (!q) ∧ made2 X Y u1 v1 (!q) < 18446744073709551616 ^ n ∧ made2 X Y u1 v1 (!q) < Y := by
  have := g.s0
  have := g.lt
  have := g.le
  refine ⟨?_, ?_, ?_, ?_, ?_⟩ <;> omega
end Go.Proofs.Wd
