/- field: Mul. (Laid by gen_mul.py over the operations of the function.) -/
import Derived.Test.YtjgfhihngbhljaaDoorFeJoin
import Derived.Test.YtjgfhihngbhljaaDoorFlow
namespace Go.Proofs.YtjgfhihngbhljaaDoor
open Go.RowKit
/-- what each slot of the great region of Mul has -/
def mulG (A B R : Nat) (x0 x1 x2 x3 x4 y0 y1 y2 y3 y4 z0 z1 z2 z3 S0 S1 S2 S3 S4 : Int) (r : Fe) : List (Value → World → Prop) := [
  fun _ _ => True,
  fun _ _ => True,
  fun _ _ => True,
  fun _ _ => True,
  fun _ _ => True,
  fun _ _ => True,
  fun _ _ => True,
  fun _ _ => True,
  fun _ _ => True,
  fun _ _ => True,
  fun _ _ => True,
  fun _ _ => True,
  fun _ _ => True,
  fun _ _ => True,
  fun _ _ => True,
  fun _ _ => True,
  fun _ _ => True,
  fun _ _ => True,
  fun _ _ => True,
  fun _ _ => True,
  fun _ _ => True,
  fun v _ => v = .pointer (some ⟨A, 0, none⟩),
  fun v _ => v = .int .u64 x0,
  fun v _ => v = .pointer (some ⟨B, 0, none⟩),
  fun v _ => v = .int .u64 y0,
  fun v _ => v = .agg #[.int .u64 x0, .int .u64 y0],
  fun v _ => v = .pointer (some ⟨A, 1, none⟩),
  fun v _ => v = .int .u64 x1,
  fun v _ => v = .int .u64 z3,
  fun v _ => v = .agg #[.int .u64 x1, .int .u64 z3],
  fun v _ => v = .pointer (some ⟨A, 2, none⟩),
  fun v _ => v = .int .u64 x2,
  fun v _ => v = .int .u64 z2,
  fun v _ => v = .agg #[.int .u64 x2, .int .u64 z2],
  fun v _ => v = .pointer (some ⟨A, 3, none⟩),
  fun v _ => v = .int .u64 x3,
  fun v _ => v = .int .u64 z1,
  fun v _ => v = .agg #[.int .u64 x3, .int .u64 z1],
  fun v _ => v = .pointer (some ⟨A, 4, none⟩),
  fun v _ => v = .int .u64 x4,
  fun v _ => v = .int .u64 z0,
  fun v _ => v = .agg #[.int .u64 x4, .int .u64 z0],
  fun v w => ∃ PB, PB ≠ R ∧ v = .slice (some ⟨PB, 0, none⟩) 5 5 ∧ Blk w PB 56 (flat [(x0, y0), (x1, z3), (x2, z2), (x3, z1), (x4, z0)]),
  fun v _ => v = .agg #[.int .u64 (S0 / 18446744073709551616), .int .u64 (S0 % 18446744073709551616)],
  fun v _ => v = .pointer (some ⟨A, 0, none⟩),
  fun v _ => v = .int .u64 x0,
  fun v _ => v = .pointer (some ⟨B, 1, none⟩),
  fun v _ => v = .int .u64 y1,
  fun v _ => v = .agg #[.int .u64 x0, .int .u64 y1],
  fun v _ => v = .pointer (some ⟨A, 1, none⟩),
  fun v _ => v = .int .u64 x1,
  fun v _ => v = .pointer (some ⟨B, 0, none⟩),
  fun v _ => v = .int .u64 y0,
  fun v _ => v = .agg #[.int .u64 x1, .int .u64 y0],
  fun v _ => v = .pointer (some ⟨A, 2, none⟩),
  fun v _ => v = .int .u64 x2,
  fun v _ => v = .int .u64 z3,
  fun v _ => v = .agg #[.int .u64 x2, .int .u64 z3],
  fun v _ => v = .pointer (some ⟨A, 3, none⟩),
  fun v _ => v = .int .u64 x3,
  fun v _ => v = .int .u64 z2,
  fun v _ => v = .agg #[.int .u64 x3, .int .u64 z2],
  fun v _ => v = .pointer (some ⟨A, 4, none⟩),
  fun v _ => v = .int .u64 x4,
  fun v _ => v = .int .u64 z1,
  fun v _ => v = .agg #[.int .u64 x4, .int .u64 z1],
  fun v w => ∃ PB, PB ≠ R ∧ v = .slice (some ⟨PB, 0, none⟩) 5 5 ∧ Blk w PB 56 (flat [(x0, y1), (x1, y0), (x2, z3), (x3, z2), (x4, z1)]),
  fun v _ => v = .agg #[.int .u64 (S1 / 18446744073709551616), .int .u64 (S1 % 18446744073709551616)],
  fun v _ => v = .pointer (some ⟨A, 0, none⟩),
  fun v _ => v = .int .u64 x0,
  fun v _ => v = .pointer (some ⟨B, 2, none⟩),
  fun v _ => v = .int .u64 y2,
  fun v _ => v = .agg #[.int .u64 x0, .int .u64 y2],
  fun v _ => v = .pointer (some ⟨A, 1, none⟩),
  fun v _ => v = .int .u64 x1,
  fun v _ => v = .pointer (some ⟨B, 1, none⟩),
  fun v _ => v = .int .u64 y1,
  fun v _ => v = .agg #[.int .u64 x1, .int .u64 y1],
  fun v _ => v = .pointer (some ⟨A, 2, none⟩),
  fun v _ => v = .int .u64 x2,
  fun v _ => v = .pointer (some ⟨B, 0, none⟩),
  fun v _ => v = .int .u64 y0,
  fun v _ => v = .agg #[.int .u64 x2, .int .u64 y0],
  fun v _ => v = .pointer (some ⟨A, 3, none⟩),
  fun v _ => v = .int .u64 x3,
  fun v _ => v = .int .u64 z3,
  fun v _ => v = .agg #[.int .u64 x3, .int .u64 z3],
  fun v _ => v = .pointer (some ⟨A, 4, none⟩),
  fun v _ => v = .int .u64 x4,
  fun v _ => v = .int .u64 z2,
  fun v _ => v = .agg #[.int .u64 x4, .int .u64 z2],
  fun v w => ∃ PB, PB ≠ R ∧ v = .slice (some ⟨PB, 0, none⟩) 5 5 ∧ Blk w PB 56 (flat [(x0, y2), (x1, y1), (x2, y0), (x3, z3), (x4, z2)]),
  fun v _ => v = .agg #[.int .u64 (S2 / 18446744073709551616), .int .u64 (S2 % 18446744073709551616)],
  fun v _ => v = .pointer (some ⟨A, 0, none⟩),
  fun v _ => v = .int .u64 x0,
  fun v _ => v = .pointer (some ⟨B, 3, none⟩),
  fun v _ => v = .int .u64 y3,
  fun v _ => v = .agg #[.int .u64 x0, .int .u64 y3],
  fun v _ => v = .pointer (some ⟨A, 1, none⟩),
  fun v _ => v = .int .u64 x1,
  fun v _ => v = .pointer (some ⟨B, 2, none⟩),
  fun v _ => v = .int .u64 y2,
  fun v _ => v = .agg #[.int .u64 x1, .int .u64 y2],
  fun v _ => v = .pointer (some ⟨A, 2, none⟩),
  fun v _ => v = .int .u64 x2,
  fun v _ => v = .pointer (some ⟨B, 1, none⟩),
  fun v _ => v = .int .u64 y1,
  fun v _ => v = .agg #[.int .u64 x2, .int .u64 y1],
  fun v _ => v = .pointer (some ⟨A, 3, none⟩),
  fun v _ => v = .int .u64 x3,
  fun v _ => v = .pointer (some ⟨B, 0, none⟩),
  fun v _ => v = .int .u64 y0,
  fun v _ => v = .agg #[.int .u64 x3, .int .u64 y0],
  fun v _ => v = .pointer (some ⟨A, 4, none⟩),
  fun v _ => v = .int .u64 x4,
  fun v _ => v = .int .u64 z3,
  fun v _ => v = .agg #[.int .u64 x4, .int .u64 z3],
  fun v w => ∃ PB, PB ≠ R ∧ v = .slice (some ⟨PB, 0, none⟩) 5 5 ∧ Blk w PB 56 (flat [(x0, y3), (x1, y2), (x2, y1), (x3, y0), (x4, z3)]),
  fun v _ => v = .agg #[.int .u64 (S3 / 18446744073709551616), .int .u64 (S3 % 18446744073709551616)],
  fun v _ => v = .pointer (some ⟨A, 0, none⟩),
  fun v _ => v = .int .u64 x0,
  fun v _ => v = .pointer (some ⟨B, 4, none⟩),
  fun v _ => v = .int .u64 y4,
  fun v _ => v = .agg #[.int .u64 x0, .int .u64 y4],
  fun v _ => v = .pointer (some ⟨A, 1, none⟩),
  fun v _ => v = .int .u64 x1,
  fun v _ => v = .pointer (some ⟨B, 3, none⟩),
  fun v _ => v = .int .u64 y3,
  fun v _ => v = .agg #[.int .u64 x1, .int .u64 y3],
  fun v _ => v = .pointer (some ⟨A, 2, none⟩),
  fun v _ => v = .int .u64 x2,
  fun v _ => v = .pointer (some ⟨B, 2, none⟩),
  fun v _ => v = .int .u64 y2,
  fun v _ => v = .agg #[.int .u64 x2, .int .u64 y2],
  fun v _ => v = .pointer (some ⟨A, 3, none⟩),
  fun v _ => v = .int .u64 x3,
  fun v _ => v = .pointer (some ⟨B, 1, none⟩),
  fun v _ => v = .int .u64 y1,
  fun v _ => v = .agg #[.int .u64 x3, .int .u64 y1],
  fun v _ => v = .pointer (some ⟨A, 4, none⟩),
  fun v _ => v = .int .u64 x4,
  fun v _ => v = .pointer (some ⟨B, 0, none⟩),
  fun v _ => v = .int .u64 y0,
  fun v _ => v = .agg #[.int .u64 x4, .int .u64 y0],
  fun v w => ∃ PB, PB ≠ R ∧ v = .slice (some ⟨PB, 0, none⟩) 5 5 ∧ Blk w PB 56 (flat [(x0, y4), (x1, y3), (x2, y2), (x3, y1), (x4, y0)]),
  fun v _ => v = .agg #[.int .u64 (S4 / 18446744073709551616), .int .u64 (S4 % 18446744073709551616)],
  fun v _ => v = .agg #[.int .u64 (S0 / 18446744073709551616), .int .u64 (S0 % 18446744073709551616), .int .u64 (S1 / 18446744073709551616), .int .u64 (S1 % 18446744073709551616), .int .u64 (S2 / 18446744073709551616), .int .u64 (S2 % 18446744073709551616), .int .u64 (S3 / 18446744073709551616), .int .u64 (S3 % 18446744073709551616), .int .u64 (S4 / 18446744073709551616), .int .u64 (S4 % 18446744073709551616)],
  fun v _ => v = r.v]
def mulAt (A B R : Nat) (x0 x1 x2 x3 x4 y0 y1 y2 y3 y4 z0 z1 z2 z3 S0 S1 S2 S3 S4 : Int) (r : Fe) (d : Nat) (v : Value) (w : World) : Prop := ((mulG A B R x0 x1 x2 x3 x4 y0 y1 y2 y3 y4 z0 z1 z2 z3 S0 S1 S2 S3 S4 r).getD d (fun _ _ => True)) v w
structure mulB (w0 : World) (A B R : Nat) (x0 x1 x2 x3 x4 y0 y1 y2 y3 y4 : Int) (w : World) : Prop where
  a : Blk w A 24 [.int .u64 x0, .int .u64 x1, .int .u64 x2, .int .u64 x3, .int .u64 x4]
  b : Blk w B 24 [.int .u64 y0, .int .u64 y1, .int .u64 y2, .int .u64 y3, .int .u64 y4]
  r : Room5 w R 24
  g : w0.grownBy w none
  ra : A ≠ R
  rb : B ≠ R
  rn : w0.heap.size ≤ R
theorem mulB.grown {w0 : World} {A B R : Nat} {x0 x1 x2 x3 x4 y0 y1 y2 y3 y4 : Int} {w w' : World} (h : mulB w0 A B R x0 x1 x2 x3 x4 y0 y1 y2 y3 y4 w) (hg : w.grownBy w' none) : mulB w0 A B R x0 x1 x2 x3 x4 y0 y1 y2 y3 y4 w' :=
  ⟨h.a.grown hg (by simp), h.b.grown hg (by simp), h.r.grown hg (by simp), gb_trans h.g hg, h.ra, h.rb, h.rn⟩
theorem mulB.alloc {w0 : World} {A B R : Nat} {x0 x1 x2 x3 x4 y0 y1 y2 y3 y4 : Int} {w : World} (h : mulB w0 A B R x0 x1 x2 x3 x4 y0 y1 y2 y3 y4 w) (o : Obj) : mulB w0 A B R x0 x1 x2 x3 x4 y0 y1 y2 y3 y4 (w.alloc o) := h.grown (World.grownBy_alloc _ _ _)
theorem mulB.set5 {w0 : World} {A B R : Nat} {x0 x1 x2 x3 x4 y0 y1 y2 y3 y4 : Int} {w : World} (h : mulB w0 A B R x0 x1 x2 x3 x4 y0 y1 y2 y3 y4 w) (v0 v1 v2 v3 v4 : Value) :
    mulB w0 A B R x0 x1 x2 x3 x4 y0 y1 y2 y3 y4 (((((w.setCell ⟨R, 0, none⟩ v0).setCell ⟨R, 1, none⟩ v1).setCell ⟨R, 2, none⟩ v2).setCell ⟨R, 3, none⟩ v3).setCell ⟨R, 4, none⟩ v4) :=
  ⟨((((h.a.other (Ne.symm h.ra) _).other (Ne.symm h.ra) _).other (Ne.symm h.ra) _).other (Ne.symm h.ra) _).other (Ne.symm h.ra) _,
   ((((h.b.other (Ne.symm h.rb) _).other (Ne.symm h.rb) _).other (Ne.symm h.rb) _).other (Ne.symm h.rb) _).other (Ne.symm h.rb) _,
   ⟨_, _, _, _, _, h.r.set5 v0 v1 v2 v3 v4⟩, gb_set_new (gb_set_new (gb_set_new (gb_set_new (gb_set_new h.g h.rn _) h.rn _) h.rn _) h.rn _) h.rn _, h.ra, h.rb, h.rn⟩

/-- each of the predicates stays, whatever is written to block R alone -/
def Stable (R : Nat) : List (Value → World → Prop) → Prop
  | [] => True
  | p :: r => (∀ v w w', World.grownBy w w' (some R) → p v w → p v w') ∧ Stable R r
theorem stable_get {R : Nat} (L : List (Value → World → Prop)) (h : Stable R L) (d : Nat) (u : Value) (w w' : World) (hR : w.grownBy w' (some R)) (hu : (L.getD d (fun _ _ => True)) u w) : (L.getD d (fun _ _ => True)) u w' := by
  induction L generalizing d with
  | nil => simp at hu ⊢
  | cons p r ih =>
    cases d with
    | zero => exact h.1 u w w' hR hu
    | succ d => exact ih h.2 d hu
theorem mul_stable (A B R : Nat) (x0 x1 x2 x3 x4 y0 y1 y2 y3 y4 z0 z1 z2 z3 S0 S1 S2 S3 S4 : Int) (r : Fe) (d : Nat) (u : Value) (w w' : World) (hR : w.grownBy w' (some R)) (h : mulAt A B R x0 x1 x2 x3 x4 y0 y1 y2 y3 y4 z0 z1 z2 z3 S0 S1 S2 S3 S4 r d u w) : mulAt A B R x0 x1 x2 x3 x4 y0 y1 y2 y3 y4 z0 z1 z2 z3 S0 S1 S2 S3 S4 r d u w' :=
  stable_get (R := R) _ (show Stable R (mulG A B R x0 x1 x2 x3 x4 y0 y1 y2 y3 y4 z0 z1 z2 z3 S0 S1 S2 S3 S4 r) from ⟨fun _ _ _ _ h => h, fun _ _ _ _ h => h, fun _ _ _ _ h => h, fun _ _ _ _ h => h, fun _ _ _ _ h => h, fun _ _ _ _ h => h, fun _ _ _ _ h => h, fun _ _ _ _ h => h, fun _ _ _ _ h => h, fun _ _ _ _ h => h, fun _ _ _ _ h => h, fun _ _ _ _ h => h, fun _ _ _ _ h => h, fun _ _ _ _ h => h, fun _ _ _ _ h => h, fun _ _ _ _ h => h, fun _ _ _ _ h => h, fun _ _ _ _ h => h, fun _ _ _ _ h => h, fun _ _ _ _ h => h, fun _ _ _ _ h => h, fun _ _ _ _ h => h, fun _ _ _ _ h => h, fun _ _ _ _ h => h, fun _ _ _ _ h => h, fun _ _ _ _ h => h, fun _ _ _ _ h => h, fun _ _ _ _ h => h, fun _ _ _ _ h => h, fun _ _ _ _ h => h, fun _ _ _ _ h => h, fun _ _ _ _ h => h, fun _ _ _ _ h => h, fun _ _ _ _ h => h, fun _ _ _ _ h => h, fun _ _ _ _ h => h, fun _ _ _ _ h => h, fun _ _ _ _ h => h, fun _ _ _ _ h => h, fun _ _ _ _ h => h, fun _ _ _ _ h => h, fun _ _ _ _ h => h, fun _ _ _ hR ⟨PB, hne, hv, hb⟩ => ⟨PB, hne, hv, hb.grown hR (some_ne hne)⟩, fun _ _ _ _ h => h, fun _ _ _ _ h => h, fun _ _ _ _ h => h, fun _ _ _ _ h => h, fun _ _ _ _ h => h, fun _ _ _ _ h => h, fun _ _ _ _ h => h, fun _ _ _ _ h => h, fun _ _ _ _ h => h, fun _ _ _ _ h => h, fun _ _ _ _ h => h, fun _ _ _ _ h => h, fun _ _ _ _ h => h, fun _ _ _ _ h => h, fun _ _ _ _ h => h, fun _ _ _ _ h => h, fun _ _ _ _ h => h, fun _ _ _ _ h => h, fun _ _ _ _ h => h, fun _ _ _ _ h => h, fun _ _ _ _ h => h, fun _ _ _ _ h => h, fun _ _ _ _ h => h, fun _ _ _ hR ⟨PB, hne, hv, hb⟩ => ⟨PB, hne, hv, hb.grown hR (some_ne hne)⟩, fun _ _ _ _ h => h, fun _ _ _ _ h => h, fun _ _ _ _ h => h, fun _ _ _ _ h => h, fun _ _ _ _ h => h, fun _ _ _ _ h => h, fun _ _ _ _ h => h, fun _ _ _ _ h => h, fun _ _ _ _ h => h, fun _ _ _ _ h => h, fun _ _ _ _ h => h, fun _ _ _ _ h => h, fun _ _ _ _ h => h, fun _ _ _ _ h => h, fun _ _ _ _ h => h, fun _ _ _ _ h => h, fun _ _ _ _ h => h, fun _ _ _ _ h => h, fun _ _ _ _ h => h, fun _ _ _ _ h => h, fun _ _ _ _ h => h, fun _ _ _ _ h => h, fun _ _ _ _ h => h, fun _ _ _ _ h => h, fun _ _ _ hR ⟨PB, hne, hv, hb⟩ => ⟨PB, hne, hv, hb.grown hR (some_ne hne)⟩, fun _ _ _ _ h => h, fun _ _ _ _ h => h, fun _ _ _ _ h => h, fun _ _ _ _ h => h, fun _ _ _ _ h => h, fun _ _ _ _ h => h, fun _ _ _ _ h => h, fun _ _ _ _ h => h, fun _ _ _ _ h => h, fun _ _ _ _ h => h, fun _ _ _ _ h => h, fun _ _ _ _ h => h, fun _ _ _ _ h => h, fun _ _ _ _ h => h, fun _ _ _ _ h => h, fun _ _ _ _ h => h, fun _ _ _ _ h => h, fun _ _ _ _ h => h, fun _ _ _ _ h => h, fun _ _ _ _ h => h, fun _ _ _ _ h => h, fun _ _ _ _ h => h, fun _ _ _ _ h => h, fun _ _ _ _ h => h, fun _ _ _ _ h => h, fun _ _ _ hR ⟨PB, hne, hv, hb⟩ => ⟨PB, hne, hv, hb.grown hR (some_ne hne)⟩, fun _ _ _ _ h => h, fun _ _ _ _ h => h, fun _ _ _ _ h => h, fun _ _ _ _ h => h, fun _ _ _ _ h => h, fun _ _ _ _ h => h, fun _ _ _ _ h => h, fun _ _ _ _ h => h, fun _ _ _ _ h => h, fun _ _ _ _ h => h, fun _ _ _ _ h => h, fun _ _ _ _ h => h, fun _ _ _ _ h => h, fun _ _ _ _ h => h, fun _ _ _ _ h => h, fun _ _ _ _ h => h, fun _ _ _ _ h => h, fun _ _ _ _ h => h, fun _ _ _ _ h => h, fun _ _ _ _ h => h, fun _ _ _ _ h => h, fun _ _ _ _ h => h, fun _ _ _ _ h => h, fun _ _ _ _ h => h, fun _ _ _ _ h => h, fun _ _ _ _ h => h, fun _ _ _ hR ⟨PB, hne, hv, hb⟩ => ⟨PB, hne, hv, hb.grown hR (some_ne hne)⟩, fun _ _ _ _ h => h, fun _ _ _ _ h => h, fun _ _ _ _ h => h, trivial⟩) d u w w' hR h

theorem join_sums (S0 S1 S2 S3 S4 : Int) (w : World) (h0 : Is128 S0) (h1 : Is128 S1) (h2 : Is128 S2) (h3 : Is128 S3) (h4 : Is128 S4) :
    Calls Tryd.prog 29 #[.agg #[.int .u64 (S0 / 18446744073709551616), .int .u64 (S0 % 18446744073709551616), .int .u64 (S1 / 18446744073709551616), .int .u64 (S1 % 18446744073709551616), .int .u64 (S2 / 18446744073709551616), .int .u64 (S2 % 18446744073709551616), .int .u64 (S3 / 18446744073709551616), .int .u64 (S3 % 18446744073709551616), .int .u64 (S4 / 18446744073709551616), .int .u64 (S4 % 18446744073709551616)]] w fun e w' => e = .returned (Fe.joinF S0 S1 S2 S3 S4).v ∧ w.grownBy w' none := by
  obtain ⟨n0, l0⟩ := h0
  obtain ⟨n1, l1⟩ := h1
  obtain ⟨n2, l2⟩ := h2
  obtain ⟨n3, l3⟩ := h3
  obtain ⟨n4, l4⟩ := h4
  have := fjoin_any (S0 / 18446744073709551616) (S0 % 18446744073709551616) (S1 / 18446744073709551616) (S1 % 18446744073709551616) (S2 / 18446744073709551616) (S2 % 18446744073709551616) (S3 / 18446744073709551616) (S3 % 18446744073709551616) (S4 / 18446744073709551616) (S4 % 18446744073709551616) w
    (by omega) (by omega) (by omega) (by omega) (by omega) (by omega) (by omega) (by omega) (by omega) (by omega) (by omega) (by omega) (by omega) (by omega) (by omega) (by omega) (by omega) (by omega) (by omega) (by omega)
  simpa only [halves] using this

set_option maxRecDepth 100000 in
set_option maxHeartbeats 4000000 in
theorem mul_any (x0 x1 x2 x3 x4 y0 y1 y2 y3 y4 : Int) (w : World) (a0 : 0 ≤ x0) (c0 : x0 < 18446744073709551616) (a1 : 0 ≤ x1) (c1 : x1 < 18446744073709551616) (a2 : 0 ≤ x2) (c2 : x2 < 18446744073709551616) (a3 : 0 ≤ x3) (c3 : x3 < 18446744073709551616) (a4 : 0 ≤ x4) (c4 : x4 < 18446744073709551616) (b0 : 0 ≤ y0) (d0 : y0 < 18446744073709551616) (b1 : 0 ≤ y1) (d1 : y1 < 18446744073709551616) (b2 : 0 ≤ y2) (d2 : y2 < 18446744073709551616) (b3 : 0 ≤ y3) (d3 : y3 < 18446744073709551616) (b4 : 0 ≤ y4) (d4 : y4 < 18446744073709551616) :
    Calls Tryd.prog 7 #[.agg #[.int .u64 x0, .int .u64 x1, .int .u64 x2, .int .u64 x3, .int .u64 x4], .agg #[.int .u64 y0, .int .u64 y1, .int .u64 y2, .int .u64 y3, .int .u64 y4]] w (FeOut (Fe.mulF ⟨x0, x1, x2, x3, x4⟩ ⟨y0, y1, y2, y3, y4⟩) w) := by
  obtain ⟨z0, hz0⟩ : ∃ z, IntKind.u64.wrap (19 * y1) = z := ⟨_, rfl⟩
  have pz0 : 0 ≤ z0 := by rw [← hz0, wrapw]; unfold Fe.w64; omega
  have qz0 : z0 < 18446744073709551616 := by rw [← hz0, wrapw]; unfold Fe.w64; omega
  obtain ⟨z1, hz1⟩ : ∃ z, IntKind.u64.wrap (19 * y2) = z := ⟨_, rfl⟩
  have pz1 : 0 ≤ z1 := by rw [← hz1, wrapw]; unfold Fe.w64; omega
  have qz1 : z1 < 18446744073709551616 := by rw [← hz1, wrapw]; unfold Fe.w64; omega
  obtain ⟨z2, hz2⟩ : ∃ z, IntKind.u64.wrap (19 * y3) = z := ⟨_, rfl⟩
  have pz2 : 0 ≤ z2 := by rw [← hz2, wrapw]; unfold Fe.w64; omega
  have qz2 : z2 < 18446744073709551616 := by rw [← hz2, wrapw]; unfold Fe.w64; omega
  obtain ⟨z3, hz3⟩ : ∃ z, IntKind.u64.wrap (19 * y4) = z := ⟨_, rfl⟩
  have pz3 : 0 ≤ z3 := by rw [← hz3, wrapw]; unfold Fe.w64; omega
  have qz3 : z3 < 18446744073709551616 := by rw [← hz3, wrapw]; unfold Fe.w64; omega
  obtain ⟨S0, hS0⟩ : ∃ S, sumL [(x0, y0), (x1, z3), (x2, z2), (x3, z1), (x4, z0)] = S := ⟨_, rfl⟩
  obtain ⟨S1, hS1⟩ : ∃ S, sumL [(x0, y1), (x1, y0), (x2, z3), (x3, z2), (x4, z1)] = S := ⟨_, rfl⟩
  obtain ⟨S2, hS2⟩ : ∃ S, sumL [(x0, y2), (x1, y1), (x2, y0), (x3, z3), (x4, z2)] = S := ⟨_, rfl⟩
  obtain ⟨S3, hS3⟩ : ∃ S, sumL [(x0, y3), (x1, y2), (x2, y1), (x3, y0), (x4, z3)] = S := ⟨_, rfl⟩
  obtain ⟨S4, hS4⟩ : ∃ S, sumL [(x0, y4), (x1, y3), (x2, y2), (x3, y1), (x4, y0)] = S := ⟨_, rfl⟩
  obtain ⟨r, hr⟩ : ∃ r, r = Fe.joinF S0 S1 S2 S3 S4 := ⟨_, rfl⟩
  have HS0 := Lib.hid hS0; clear hS0
  have HS1 := Lib.hid hS1; clear hS1
  have HS2 := Lib.hid hS2; clear hS2
  have HS3 := Lib.hid hS3; clear hS3
  have HS4 := Lib.hid hS4; clear hS4
  have Hr := Lib.hid hr; clear hr
  have iS0 : Is128 S0 := by rw [← HS0.out]; exact ⟨(sumL_bd _).1, (sumL_bd _).2⟩
  have iS1 : Is128 S1 := by rw [← HS1.out]; exact ⟨(sumL_bd _).1, (sumL_bd _).2⟩
  have iS2 : Is128 S2 := by rw [← HS2.out]; exact ⟨(sumL_bd _).1, (sumL_bd _).2⟩
  have iS3 : Is128 S3 := by rw [← HS3.out]; exact ⟨(sumL_bd _).1, (sumL_bd _).2⟩
  have iS4 : Is128 S4 := by rw [← HS4.out]; exact ⟨(sumL_bd _).1, (sumL_bd _).2⟩
  have Hz0 := Lib.hid hz0; clear hz0
  have Hz1 := Lib.hid hz1; clear hz1
  have Hz2 := Lib.hid hz2; clear hz2
  have Hz3 := Lib.hid hz3; clear hz3
  go_enter Tryd.func7, Tryd.ntmps7
  have hB0 : mulB w w.heap.size (w.heap.size + 1) (w.heap.size + 1 + 1) x0 x1 x2 x3 x4 y0 y1 y2 y3 y4 (((w.alloc (.cells #[.int .u64 x0, .int .u64 x1, .int .u64 x2, .int .u64 x3, .int .u64 x4] 24)).alloc (.cells #[.int .u64 y0, .int .u64 y1, .int .u64 y2, .int .u64 y3, .int .u64 y4] 24)).alloc (.cells #[.int .u64 0, .int .u64 0, .int .u64 0, .int .u64 0, .int .u64 0] 24)) :=
    ⟨((Blk.new w [.int .u64 x0, .int .u64 x1, .int .u64 x2, .int .u64 x3, .int .u64 x4] _).alloc _).alloc _, (Blk.newAt (w.alloc _) [.int .u64 y0, .int .u64 y1, .int .u64 y2, .int .u64 y3, .int .u64 y4] _ (by simp)).alloc _, ⟨_, _, _, _, _, Blk.newAt _ [.int .u64 0, .int .u64 0, .int .u64 0, .int .u64 0, .int .u64 0] _ (by simp)⟩, gb_alloc (gb_alloc (gb_alloc (gb_refl _ _) _) _) _, by omega, by omega, by omega⟩
  go_wp2
  go_quiet (fail)
  go_wp2
  have hB1 := (hB0.grown (gb_drewN (gb_refl _ none) nq)).grown (gb_drew (gb_refl _ none))
  clear hB0
  refine wp_region_flow (mulAt w.heap.size (w.heap.size + 1) (w.heap.size + 1 + 1) x0 x1 x2 x3 x4 y0 y1 y2 y3 y4 z0 z1 z2 z3 S0 S1 S2 S3 S4 r) (fun _ w' => Blk w' (w.heap.size + 1 + 1) 24 [.int .u64 r.x0, .int .u64 r.x1, .int .u64 r.x2, .int .u64 r.x3, .int .u64 r.x4])
    (mulB w w.heap.size (w.heap.size + 1) (w.heap.size + 1 + 1) x0 x1 x2 x3 x4 y0 y1 y2 y3 y4) (fun w' w'' => w'.grownBy w'' none ∨ (w'.grownBy w'' (some (w.heap.size + 1 + 1)) ∧ Blk w'' (w.heap.size + 1 + 1) 24 [.int .u64 r.x0, .int .u64 r.x1, .int .u64 r.x2, .int .u64 r.x3, .int .u64 r.x4])) (by kernel_rfl) (by kernel_rfl) (by kernel_rfl) hB1 ?_ ?_ ?_ ?_
  · exact fun d u w1 w2 hR h => mul_stable _ _ _ _ _ _ _ _ _ _ _ _ _ _ _ _ _ _ _ _ _ _ r d u w1 w2 (hR.elim (fun h => gb_row h _) (fun h => h.1)) h
  · exact fun j w1 w2 hR h => hR.elim (fun hg => h.grown hg (by simp)) (fun h => h.2)
  · clear hB1
    generalize w.heap.size = A
    generalize eB : A + 1 = B
    generalize eR : B + 1 = R
    refine ⟨flow_value rfl rfl fun a w h => ?_, ?_⟩
    · have e2 : a.tmps.getD 2 undef = .pointer (some ⟨A, 0, none⟩) := h.rest 2 (by kernel_rfl)
      refine ⟨.pointer (some ⟨A, 0, none⟩), w, ?_, h.base, Or.inl (gb_refl _ _), rfl⟩
      clear h
      simp only [execOp, Act.eval, e2]
      go_simp
    refine ⟨flow_value rfl rfl fun a w h => ?_, ?_⟩
    · have e21 : a.tmps.getD 21 undef = .pointer (some ⟨A, 0, none⟩) := h.dep 21 (by kernel_rfl)
      have c := h.base.a.cell (i := 0) rfl
      refine ⟨.int .u64 x0, w, ?_, h.base, Or.inl (gb_refl _ _), rfl⟩
      clear h
      simp only [execOp, Act.eval, e21]
      go_simp
    refine ⟨flow_value rfl rfl fun a w h => ?_, ?_⟩
    · have e3 : a.tmps.getD 3 undef = .pointer (some ⟨B, 0, none⟩) := h.rest 3 (by kernel_rfl)
      refine ⟨.pointer (some ⟨B, 0, none⟩), w, ?_, h.base, Or.inl (gb_refl _ _), rfl⟩
      clear h
      simp only [execOp, Act.eval, e3]
      go_simp
    refine ⟨flow_value rfl rfl fun a w h => ?_, ?_⟩
    · have e23 : a.tmps.getD 23 undef = .pointer (some ⟨B, 0, none⟩) := h.dep 23 (by kernel_rfl)
      have c := h.base.b.cell (i := 0) rfl
      refine ⟨.int .u64 y0, w, ?_, h.base, Or.inl (gb_refl _ _), rfl⟩
      clear h
      simp only [execOp, Act.eval, e23]
      go_simp
    refine ⟨flow_value rfl rfl fun a w h => ?_, ?_⟩
    · have e22 : a.tmps.getD 22 undef = .int .u64 x0 := h.dep 22 (by kernel_rfl)
      have e24 : a.tmps.getD 24 undef = .int .u64 y0 := h.dep 24 (by kernel_rfl)
      refine ⟨.agg #[.int .u64 x0, .int .u64 y0], w, ?_, h.base, Or.inl (gb_refl _ _), rfl⟩
      clear h
      simp only [execOp, List.map_toArray, List.map_cons, List.map_nil, Act.eval, e22, e24]
      go_simp
    refine ⟨flow_value rfl rfl fun a w h => ?_, ?_⟩
    · have e2 : a.tmps.getD 2 undef = .pointer (some ⟨A, 0, none⟩) := h.rest 2 (by kernel_rfl)
      refine ⟨.pointer (some ⟨A, 1, none⟩), w, ?_, h.base, Or.inl (gb_refl _ _), rfl⟩
      clear h
      simp only [execOp, Act.eval, e2]
      go_simp
    refine ⟨flow_value rfl rfl fun a w h => ?_, ?_⟩
    · have e26 : a.tmps.getD 26 undef = .pointer (some ⟨A, 1, none⟩) := h.dep 26 (by kernel_rfl)
      have c := h.base.a.cell (i := 1) rfl
      refine ⟨.int .u64 x1, w, ?_, h.base, Or.inl (gb_refl _ _), rfl⟩
      clear h
      simp only [execOp, Act.eval, e26]
      go_simp
    refine ⟨flow_value rfl rfl fun a w h => ?_, ?_⟩
    · have e8 : a.tmps.getD 8 undef = .int .u64 z3 := (h.rest 8 (by kernel_rfl)).trans (congrArg (Value.int .u64) Hz3.out)
      refine ⟨.int .u64 z3, w, ?_, h.base, Or.inl (gb_refl _ _), rfl⟩
      clear h
      simp only [execOp, Act.eval, e8]
      go_simp
    refine ⟨flow_value rfl rfl fun a w h => ?_, ?_⟩
    · have e27 : a.tmps.getD 27 undef = .int .u64 x1 := h.dep 27 (by kernel_rfl)
      have e28 : a.tmps.getD 28 undef = .int .u64 z3 := h.dep 28 (by kernel_rfl)
      refine ⟨.agg #[.int .u64 x1, .int .u64 z3], w, ?_, h.base, Or.inl (gb_refl _ _), rfl⟩
      clear h
      simp only [execOp, List.map_toArray, List.map_cons, List.map_nil, Act.eval, e27, e28]
      go_simp
    refine ⟨flow_value rfl rfl fun a w h => ?_, ?_⟩
    · have e2 : a.tmps.getD 2 undef = .pointer (some ⟨A, 0, none⟩) := h.rest 2 (by kernel_rfl)
      refine ⟨.pointer (some ⟨A, 2, none⟩), w, ?_, h.base, Or.inl (gb_refl _ _), rfl⟩
      clear h
      simp only [execOp, Act.eval, e2]
      go_simp
    refine ⟨flow_value rfl rfl fun a w h => ?_, ?_⟩
    · have e30 : a.tmps.getD 30 undef = .pointer (some ⟨A, 2, none⟩) := h.dep 30 (by kernel_rfl)
      have c := h.base.a.cell (i := 2) rfl
      refine ⟨.int .u64 x2, w, ?_, h.base, Or.inl (gb_refl _ _), rfl⟩
      clear h
      simp only [execOp, Act.eval, e30]
      go_simp
    refine ⟨flow_value rfl rfl fun a w h => ?_, ?_⟩
    · have e7 : a.tmps.getD 7 undef = .int .u64 z2 := (h.rest 7 (by kernel_rfl)).trans (congrArg (Value.int .u64) Hz2.out)
      refine ⟨.int .u64 z2, w, ?_, h.base, Or.inl (gb_refl _ _), rfl⟩
      clear h
      simp only [execOp, Act.eval, e7]
      go_simp
    refine ⟨flow_value rfl rfl fun a w h => ?_, ?_⟩
    · have e31 : a.tmps.getD 31 undef = .int .u64 x2 := h.dep 31 (by kernel_rfl)
      have e32 : a.tmps.getD 32 undef = .int .u64 z2 := h.dep 32 (by kernel_rfl)
      refine ⟨.agg #[.int .u64 x2, .int .u64 z2], w, ?_, h.base, Or.inl (gb_refl _ _), rfl⟩
      clear h
      simp only [execOp, List.map_toArray, List.map_cons, List.map_nil, Act.eval, e31, e32]
      go_simp
    refine ⟨flow_value rfl rfl fun a w h => ?_, ?_⟩
    · have e2 : a.tmps.getD 2 undef = .pointer (some ⟨A, 0, none⟩) := h.rest 2 (by kernel_rfl)
      refine ⟨.pointer (some ⟨A, 3, none⟩), w, ?_, h.base, Or.inl (gb_refl _ _), rfl⟩
      clear h
      simp only [execOp, Act.eval, e2]
      go_simp
    refine ⟨flow_value rfl rfl fun a w h => ?_, ?_⟩
    · have e34 : a.tmps.getD 34 undef = .pointer (some ⟨A, 3, none⟩) := h.dep 34 (by kernel_rfl)
      have c := h.base.a.cell (i := 3) rfl
      refine ⟨.int .u64 x3, w, ?_, h.base, Or.inl (gb_refl _ _), rfl⟩
      clear h
      simp only [execOp, Act.eval, e34]
      go_simp
    refine ⟨flow_value rfl rfl fun a w h => ?_, ?_⟩
    · have e6 : a.tmps.getD 6 undef = .int .u64 z1 := (h.rest 6 (by kernel_rfl)).trans (congrArg (Value.int .u64) Hz1.out)
      refine ⟨.int .u64 z1, w, ?_, h.base, Or.inl (gb_refl _ _), rfl⟩
      clear h
      simp only [execOp, Act.eval, e6]
      go_simp
    refine ⟨flow_value rfl rfl fun a w h => ?_, ?_⟩
    · have e35 : a.tmps.getD 35 undef = .int .u64 x3 := h.dep 35 (by kernel_rfl)
      have e36 : a.tmps.getD 36 undef = .int .u64 z1 := h.dep 36 (by kernel_rfl)
      refine ⟨.agg #[.int .u64 x3, .int .u64 z1], w, ?_, h.base, Or.inl (gb_refl _ _), rfl⟩
      clear h
      simp only [execOp, List.map_toArray, List.map_cons, List.map_nil, Act.eval, e35, e36]
      go_simp
    refine ⟨flow_value rfl rfl fun a w h => ?_, ?_⟩
    · have e2 : a.tmps.getD 2 undef = .pointer (some ⟨A, 0, none⟩) := h.rest 2 (by kernel_rfl)
      refine ⟨.pointer (some ⟨A, 4, none⟩), w, ?_, h.base, Or.inl (gb_refl _ _), rfl⟩
      clear h
      simp only [execOp, Act.eval, e2]
      go_simp
    refine ⟨flow_value rfl rfl fun a w h => ?_, ?_⟩
    · have e38 : a.tmps.getD 38 undef = .pointer (some ⟨A, 4, none⟩) := h.dep 38 (by kernel_rfl)
      have c := h.base.a.cell (i := 4) rfl
      refine ⟨.int .u64 x4, w, ?_, h.base, Or.inl (gb_refl _ _), rfl⟩
      clear h
      simp only [execOp, Act.eval, e38]
      go_simp
    refine ⟨flow_value rfl rfl fun a w h => ?_, ?_⟩
    · have e5 : a.tmps.getD 5 undef = .int .u64 z0 := (h.rest 5 (by kernel_rfl)).trans (congrArg (Value.int .u64) Hz0.out)
      refine ⟨.int .u64 z0, w, ?_, h.base, Or.inl (gb_refl _ _), rfl⟩
      clear h
      simp only [execOp, Act.eval, e5]
      go_simp
    refine ⟨flow_value rfl rfl fun a w h => ?_, ?_⟩
    · have e39 : a.tmps.getD 39 undef = .int .u64 x4 := h.dep 39 (by kernel_rfl)
      have e40 : a.tmps.getD 40 undef = .int .u64 z0 := h.dep 40 (by kernel_rfl)
      refine ⟨.agg #[.int .u64 x4, .int .u64 z0], w, ?_, h.base, Or.inl (gb_refl _ _), rfl⟩
      clear h
      simp only [execOp, List.map_toArray, List.map_cons, List.map_nil, Act.eval, e39, e40]
      go_simp
    refine ⟨flow_value rfl rfl fun a w h => ?_, ?_⟩
    · have e25 : a.tmps.getD 25 undef = .agg #[.int .u64 x0, .int .u64 y0] := h.dep 25 (by kernel_rfl)
      have e29 : a.tmps.getD 29 undef = .agg #[.int .u64 x1, .int .u64 z3] := h.dep 29 (by kernel_rfl)
      have e33 : a.tmps.getD 33 undef = .agg #[.int .u64 x2, .int .u64 z2] := h.dep 33 (by kernel_rfl)
      have e37 : a.tmps.getD 37 undef = .agg #[.int .u64 x3, .int .u64 z1] := h.dep 37 (by kernel_rfl)
      have e41 : a.tmps.getD 41 undef = .agg #[.int .u64 x4, .int .u64 z0] := h.dep 41 (by kernel_rfl)
      obtain ⟨_, _, _, _, _, hr5⟩ := h.base.r
      have hs := hr5.lt
      refine ⟨.slice (some ⟨w.heap.size, 0, none⟩) 5 5, w.alloc (.cells #[.int .u64 x0, .int .u64 y0, .int .u64 x1, .int .u64 z3, .int .u64 x2, .int .u64 z2, .int .u64 x3, .int .u64 z1, .int .u64 x4, .int .u64 z0] 56), ?_, h.base.alloc _, Or.inl (World.grownBy_alloc _ _ _), ⟨w.heap.size, by omega, rfl, Blk.new w _ _⟩⟩
      clear h
      simp only [execOp, List.map_toArray, List.map_cons, List.map_nil, Act.eval, e25, e29, e33, e37, e41]
      go_simp
    refine ⟨flow_call rfl rfl fun a w h => ?_, ?_⟩
    · obtain ⟨PB, hne, e42, hP⟩ : ∃ PB, PB ≠ R ∧ a.tmps.getD 42 undef = .slice (some ⟨PB, 0, none⟩) 5 5 ∧ Blk w PB 56 (flat [(x0, y0), (x1, z3), (x2, z2), (x3, z1), (x4, z0)]) := h.dep 42 (by kernel_rfl)
      have hb := h.base
      refine ⟨30, #[.slice (some ⟨PB, 0, none⟩) 5 5], ?_, ?_⟩
      · clear h hb hP
        have e42x : a.tmps[42]?.getD undef = .slice (some ⟨PB, 0, none⟩) 5 5 := by simpa using e42
        clear e42
        go_simp
      · refine (sumUp_any PB 5 _ w _ rfl (by decide) hP ?_).mono ?_
        · intro p hp; simp only [List.mem_cons, List.not_mem_nil, or_false] at hp; rcases hp with rfl | rfl | rfl | rfl | rfl <;> exact ⟨by assumption, by assumption, by assumption, by assumption⟩
        · rintro e w1 ⟨rfl, hg⟩; exact ⟨_, rfl, hb.grown hg, Or.inl hg, by show sumV _ = _; rw [HS0.out]; rfl⟩
    refine ⟨flow_value rfl rfl fun a w h => ?_, ?_⟩
    · have e2 : a.tmps.getD 2 undef = .pointer (some ⟨A, 0, none⟩) := h.rest 2 (by kernel_rfl)
      refine ⟨.pointer (some ⟨A, 0, none⟩), w, ?_, h.base, Or.inl (gb_refl _ _), rfl⟩
      clear h
      simp only [execOp, Act.eval, e2]
      go_simp
    refine ⟨flow_value rfl rfl fun a w h => ?_, ?_⟩
    · have e44 : a.tmps.getD 44 undef = .pointer (some ⟨A, 0, none⟩) := h.dep 44 (by kernel_rfl)
      have c := h.base.a.cell (i := 0) rfl
      refine ⟨.int .u64 x0, w, ?_, h.base, Or.inl (gb_refl _ _), rfl⟩
      clear h
      simp only [execOp, Act.eval, e44]
      go_simp
    refine ⟨flow_value rfl rfl fun a w h => ?_, ?_⟩
    · have e3 : a.tmps.getD 3 undef = .pointer (some ⟨B, 0, none⟩) := h.rest 3 (by kernel_rfl)
      refine ⟨.pointer (some ⟨B, 1, none⟩), w, ?_, h.base, Or.inl (gb_refl _ _), rfl⟩
      clear h
      simp only [execOp, Act.eval, e3]
      go_simp
    refine ⟨flow_value rfl rfl fun a w h => ?_, ?_⟩
    · have e46 : a.tmps.getD 46 undef = .pointer (some ⟨B, 1, none⟩) := h.dep 46 (by kernel_rfl)
      have c := h.base.b.cell (i := 1) rfl
      refine ⟨.int .u64 y1, w, ?_, h.base, Or.inl (gb_refl _ _), rfl⟩
      clear h
      simp only [execOp, Act.eval, e46]
      go_simp
    refine ⟨flow_value rfl rfl fun a w h => ?_, ?_⟩
    · have e45 : a.tmps.getD 45 undef = .int .u64 x0 := h.dep 45 (by kernel_rfl)
      have e47 : a.tmps.getD 47 undef = .int .u64 y1 := h.dep 47 (by kernel_rfl)
      refine ⟨.agg #[.int .u64 x0, .int .u64 y1], w, ?_, h.base, Or.inl (gb_refl _ _), rfl⟩
      clear h
      simp only [execOp, List.map_toArray, List.map_cons, List.map_nil, Act.eval, e45, e47]
      go_simp
    refine ⟨flow_value rfl rfl fun a w h => ?_, ?_⟩
    · have e2 : a.tmps.getD 2 undef = .pointer (some ⟨A, 0, none⟩) := h.rest 2 (by kernel_rfl)
      refine ⟨.pointer (some ⟨A, 1, none⟩), w, ?_, h.base, Or.inl (gb_refl _ _), rfl⟩
      clear h
      simp only [execOp, Act.eval, e2]
      go_simp
    refine ⟨flow_value rfl rfl fun a w h => ?_, ?_⟩
    · have e49 : a.tmps.getD 49 undef = .pointer (some ⟨A, 1, none⟩) := h.dep 49 (by kernel_rfl)
      have c := h.base.a.cell (i := 1) rfl
      refine ⟨.int .u64 x1, w, ?_, h.base, Or.inl (gb_refl _ _), rfl⟩
      clear h
      simp only [execOp, Act.eval, e49]
      go_simp
    refine ⟨flow_value rfl rfl fun a w h => ?_, ?_⟩
    · have e3 : a.tmps.getD 3 undef = .pointer (some ⟨B, 0, none⟩) := h.rest 3 (by kernel_rfl)
      refine ⟨.pointer (some ⟨B, 0, none⟩), w, ?_, h.base, Or.inl (gb_refl _ _), rfl⟩
      clear h
      simp only [execOp, Act.eval, e3]
      go_simp
    refine ⟨flow_value rfl rfl fun a w h => ?_, ?_⟩
    · have e51 : a.tmps.getD 51 undef = .pointer (some ⟨B, 0, none⟩) := h.dep 51 (by kernel_rfl)
      have c := h.base.b.cell (i := 0) rfl
      refine ⟨.int .u64 y0, w, ?_, h.base, Or.inl (gb_refl _ _), rfl⟩
      clear h
      simp only [execOp, Act.eval, e51]
      go_simp
    refine ⟨flow_value rfl rfl fun a w h => ?_, ?_⟩
    · have e50 : a.tmps.getD 50 undef = .int .u64 x1 := h.dep 50 (by kernel_rfl)
      have e52 : a.tmps.getD 52 undef = .int .u64 y0 := h.dep 52 (by kernel_rfl)
      refine ⟨.agg #[.int .u64 x1, .int .u64 y0], w, ?_, h.base, Or.inl (gb_refl _ _), rfl⟩
      clear h
      simp only [execOp, List.map_toArray, List.map_cons, List.map_nil, Act.eval, e50, e52]
      go_simp
    refine ⟨flow_value rfl rfl fun a w h => ?_, ?_⟩
    · have e2 : a.tmps.getD 2 undef = .pointer (some ⟨A, 0, none⟩) := h.rest 2 (by kernel_rfl)
      refine ⟨.pointer (some ⟨A, 2, none⟩), w, ?_, h.base, Or.inl (gb_refl _ _), rfl⟩
      clear h
      simp only [execOp, Act.eval, e2]
      go_simp
    refine ⟨flow_value rfl rfl fun a w h => ?_, ?_⟩
    · have e54 : a.tmps.getD 54 undef = .pointer (some ⟨A, 2, none⟩) := h.dep 54 (by kernel_rfl)
      have c := h.base.a.cell (i := 2) rfl
      refine ⟨.int .u64 x2, w, ?_, h.base, Or.inl (gb_refl _ _), rfl⟩
      clear h
      simp only [execOp, Act.eval, e54]
      go_simp
    refine ⟨flow_value rfl rfl fun a w h => ?_, ?_⟩
    · have e8 : a.tmps.getD 8 undef = .int .u64 z3 := (h.rest 8 (by kernel_rfl)).trans (congrArg (Value.int .u64) Hz3.out)
      refine ⟨.int .u64 z3, w, ?_, h.base, Or.inl (gb_refl _ _), rfl⟩
      clear h
      simp only [execOp, Act.eval, e8]
      go_simp
    refine ⟨flow_value rfl rfl fun a w h => ?_, ?_⟩
    · have e55 : a.tmps.getD 55 undef = .int .u64 x2 := h.dep 55 (by kernel_rfl)
      have e56 : a.tmps.getD 56 undef = .int .u64 z3 := h.dep 56 (by kernel_rfl)
      refine ⟨.agg #[.int .u64 x2, .int .u64 z3], w, ?_, h.base, Or.inl (gb_refl _ _), rfl⟩
      clear h
      simp only [execOp, List.map_toArray, List.map_cons, List.map_nil, Act.eval, e55, e56]
      go_simp
    refine ⟨flow_value rfl rfl fun a w h => ?_, ?_⟩
    · have e2 : a.tmps.getD 2 undef = .pointer (some ⟨A, 0, none⟩) := h.rest 2 (by kernel_rfl)
      refine ⟨.pointer (some ⟨A, 3, none⟩), w, ?_, h.base, Or.inl (gb_refl _ _), rfl⟩
      clear h
      simp only [execOp, Act.eval, e2]
      go_simp
    refine ⟨flow_value rfl rfl fun a w h => ?_, ?_⟩
    · have e58 : a.tmps.getD 58 undef = .pointer (some ⟨A, 3, none⟩) := h.dep 58 (by kernel_rfl)
      have c := h.base.a.cell (i := 3) rfl
      refine ⟨.int .u64 x3, w, ?_, h.base, Or.inl (gb_refl _ _), rfl⟩
      clear h
      simp only [execOp, Act.eval, e58]
      go_simp
    refine ⟨flow_value rfl rfl fun a w h => ?_, ?_⟩
    · have e7 : a.tmps.getD 7 undef = .int .u64 z2 := (h.rest 7 (by kernel_rfl)).trans (congrArg (Value.int .u64) Hz2.out)
      refine ⟨.int .u64 z2, w, ?_, h.base, Or.inl (gb_refl _ _), rfl⟩
      clear h
      simp only [execOp, Act.eval, e7]
      go_simp
    refine ⟨flow_value rfl rfl fun a w h => ?_, ?_⟩
    · have e59 : a.tmps.getD 59 undef = .int .u64 x3 := h.dep 59 (by kernel_rfl)
      have e60 : a.tmps.getD 60 undef = .int .u64 z2 := h.dep 60 (by kernel_rfl)
      refine ⟨.agg #[.int .u64 x3, .int .u64 z2], w, ?_, h.base, Or.inl (gb_refl _ _), rfl⟩
      clear h
      simp only [execOp, List.map_toArray, List.map_cons, List.map_nil, Act.eval, e59, e60]
      go_simp
    refine ⟨flow_value rfl rfl fun a w h => ?_, ?_⟩
    · have e2 : a.tmps.getD 2 undef = .pointer (some ⟨A, 0, none⟩) := h.rest 2 (by kernel_rfl)
      refine ⟨.pointer (some ⟨A, 4, none⟩), w, ?_, h.base, Or.inl (gb_refl _ _), rfl⟩
      clear h
      simp only [execOp, Act.eval, e2]
      go_simp
    refine ⟨flow_value rfl rfl fun a w h => ?_, ?_⟩
    · have e62 : a.tmps.getD 62 undef = .pointer (some ⟨A, 4, none⟩) := h.dep 62 (by kernel_rfl)
      have c := h.base.a.cell (i := 4) rfl
      refine ⟨.int .u64 x4, w, ?_, h.base, Or.inl (gb_refl _ _), rfl⟩
      clear h
      simp only [execOp, Act.eval, e62]
      go_simp
    refine ⟨flow_value rfl rfl fun a w h => ?_, ?_⟩
    · have e6 : a.tmps.getD 6 undef = .int .u64 z1 := (h.rest 6 (by kernel_rfl)).trans (congrArg (Value.int .u64) Hz1.out)
      refine ⟨.int .u64 z1, w, ?_, h.base, Or.inl (gb_refl _ _), rfl⟩
      clear h
      simp only [execOp, Act.eval, e6]
      go_simp
    refine ⟨flow_value rfl rfl fun a w h => ?_, ?_⟩
    · have e63 : a.tmps.getD 63 undef = .int .u64 x4 := h.dep 63 (by kernel_rfl)
      have e64 : a.tmps.getD 64 undef = .int .u64 z1 := h.dep 64 (by kernel_rfl)
      refine ⟨.agg #[.int .u64 x4, .int .u64 z1], w, ?_, h.base, Or.inl (gb_refl _ _), rfl⟩
      clear h
      simp only [execOp, List.map_toArray, List.map_cons, List.map_nil, Act.eval, e63, e64]
      go_simp
    refine ⟨flow_value rfl rfl fun a w h => ?_, ?_⟩
    · have e48 : a.tmps.getD 48 undef = .agg #[.int .u64 x0, .int .u64 y1] := h.dep 48 (by kernel_rfl)
      have e53 : a.tmps.getD 53 undef = .agg #[.int .u64 x1, .int .u64 y0] := h.dep 53 (by kernel_rfl)
      have e57 : a.tmps.getD 57 undef = .agg #[.int .u64 x2, .int .u64 z3] := h.dep 57 (by kernel_rfl)
      have e61 : a.tmps.getD 61 undef = .agg #[.int .u64 x3, .int .u64 z2] := h.dep 61 (by kernel_rfl)
      have e65 : a.tmps.getD 65 undef = .agg #[.int .u64 x4, .int .u64 z1] := h.dep 65 (by kernel_rfl)
      obtain ⟨_, _, _, _, _, hr5⟩ := h.base.r
      have hs := hr5.lt
      refine ⟨.slice (some ⟨w.heap.size, 0, none⟩) 5 5, w.alloc (.cells #[.int .u64 x0, .int .u64 y1, .int .u64 x1, .int .u64 y0, .int .u64 x2, .int .u64 z3, .int .u64 x3, .int .u64 z2, .int .u64 x4, .int .u64 z1] 56), ?_, h.base.alloc _, Or.inl (World.grownBy_alloc _ _ _), ⟨w.heap.size, by omega, rfl, Blk.new w _ _⟩⟩
      clear h
      simp only [execOp, List.map_toArray, List.map_cons, List.map_nil, Act.eval, e48, e53, e57, e61, e65]
      go_simp
    refine ⟨flow_call rfl rfl fun a w h => ?_, ?_⟩
    · obtain ⟨PB, hne, e66, hP⟩ : ∃ PB, PB ≠ R ∧ a.tmps.getD 66 undef = .slice (some ⟨PB, 0, none⟩) 5 5 ∧ Blk w PB 56 (flat [(x0, y1), (x1, y0), (x2, z3), (x3, z2), (x4, z1)]) := h.dep 66 (by kernel_rfl)
      have hb := h.base
      refine ⟨30, #[.slice (some ⟨PB, 0, none⟩) 5 5], ?_, ?_⟩
      · clear h hb hP
        have e66x : a.tmps[66]?.getD undef = .slice (some ⟨PB, 0, none⟩) 5 5 := by simpa using e66
        clear e66
        go_simp
      · refine (sumUp_any PB 5 _ w _ rfl (by decide) hP ?_).mono ?_
        · intro p hp; simp only [List.mem_cons, List.not_mem_nil, or_false] at hp; rcases hp with rfl | rfl | rfl | rfl | rfl <;> exact ⟨by assumption, by assumption, by assumption, by assumption⟩
        · rintro e w1 ⟨rfl, hg⟩; exact ⟨_, rfl, hb.grown hg, Or.inl hg, by show sumV _ = _; rw [HS1.out]; rfl⟩
    refine ⟨flow_value rfl rfl fun a w h => ?_, ?_⟩
    · have e2 : a.tmps.getD 2 undef = .pointer (some ⟨A, 0, none⟩) := h.rest 2 (by kernel_rfl)
      refine ⟨.pointer (some ⟨A, 0, none⟩), w, ?_, h.base, Or.inl (gb_refl _ _), rfl⟩
      clear h
      simp only [execOp, Act.eval, e2]
      go_simp
    refine ⟨flow_value rfl rfl fun a w h => ?_, ?_⟩
    · have e68 : a.tmps.getD 68 undef = .pointer (some ⟨A, 0, none⟩) := h.dep 68 (by kernel_rfl)
      have c := h.base.a.cell (i := 0) rfl
      refine ⟨.int .u64 x0, w, ?_, h.base, Or.inl (gb_refl _ _), rfl⟩
      clear h
      simp only [execOp, Act.eval, e68]
      go_simp
    refine ⟨flow_value rfl rfl fun a w h => ?_, ?_⟩
    · have e3 : a.tmps.getD 3 undef = .pointer (some ⟨B, 0, none⟩) := h.rest 3 (by kernel_rfl)
      refine ⟨.pointer (some ⟨B, 2, none⟩), w, ?_, h.base, Or.inl (gb_refl _ _), rfl⟩
      clear h
      simp only [execOp, Act.eval, e3]
      go_simp
    refine ⟨flow_value rfl rfl fun a w h => ?_, ?_⟩
    · have e70 : a.tmps.getD 70 undef = .pointer (some ⟨B, 2, none⟩) := h.dep 70 (by kernel_rfl)
      have c := h.base.b.cell (i := 2) rfl
      refine ⟨.int .u64 y2, w, ?_, h.base, Or.inl (gb_refl _ _), rfl⟩
      clear h
      simp only [execOp, Act.eval, e70]
      go_simp
    refine ⟨flow_value rfl rfl fun a w h => ?_, ?_⟩
    · have e69 : a.tmps.getD 69 undef = .int .u64 x0 := h.dep 69 (by kernel_rfl)
      have e71 : a.tmps.getD 71 undef = .int .u64 y2 := h.dep 71 (by kernel_rfl)
      refine ⟨.agg #[.int .u64 x0, .int .u64 y2], w, ?_, h.base, Or.inl (gb_refl _ _), rfl⟩
      clear h
      simp only [execOp, List.map_toArray, List.map_cons, List.map_nil, Act.eval, e69, e71]
      go_simp
    refine ⟨flow_value rfl rfl fun a w h => ?_, ?_⟩
    · have e2 : a.tmps.getD 2 undef = .pointer (some ⟨A, 0, none⟩) := h.rest 2 (by kernel_rfl)
      refine ⟨.pointer (some ⟨A, 1, none⟩), w, ?_, h.base, Or.inl (gb_refl _ _), rfl⟩
      clear h
      simp only [execOp, Act.eval, e2]
      go_simp
    refine ⟨flow_value rfl rfl fun a w h => ?_, ?_⟩
    · have e73 : a.tmps.getD 73 undef = .pointer (some ⟨A, 1, none⟩) := h.dep 73 (by kernel_rfl)
      have c := h.base.a.cell (i := 1) rfl
      refine ⟨.int .u64 x1, w, ?_, h.base, Or.inl (gb_refl _ _), rfl⟩
      clear h
      simp only [execOp, Act.eval, e73]
      go_simp
    refine ⟨flow_value rfl rfl fun a w h => ?_, ?_⟩
    · have e3 : a.tmps.getD 3 undef = .pointer (some ⟨B, 0, none⟩) := h.rest 3 (by kernel_rfl)
      refine ⟨.pointer (some ⟨B, 1, none⟩), w, ?_, h.base, Or.inl (gb_refl _ _), rfl⟩
      clear h
      simp only [execOp, Act.eval, e3]
      go_simp
    refine ⟨flow_value rfl rfl fun a w h => ?_, ?_⟩
    · have e75 : a.tmps.getD 75 undef = .pointer (some ⟨B, 1, none⟩) := h.dep 75 (by kernel_rfl)
      have c := h.base.b.cell (i := 1) rfl
      refine ⟨.int .u64 y1, w, ?_, h.base, Or.inl (gb_refl _ _), rfl⟩
      clear h
      simp only [execOp, Act.eval, e75]
      go_simp
    refine ⟨flow_value rfl rfl fun a w h => ?_, ?_⟩
    · have e74 : a.tmps.getD 74 undef = .int .u64 x1 := h.dep 74 (by kernel_rfl)
      have e76 : a.tmps.getD 76 undef = .int .u64 y1 := h.dep 76 (by kernel_rfl)
      refine ⟨.agg #[.int .u64 x1, .int .u64 y1], w, ?_, h.base, Or.inl (gb_refl _ _), rfl⟩
      clear h
      simp only [execOp, List.map_toArray, List.map_cons, List.map_nil, Act.eval, e74, e76]
      go_simp
    refine ⟨flow_value rfl rfl fun a w h => ?_, ?_⟩
    · have e2 : a.tmps.getD 2 undef = .pointer (some ⟨A, 0, none⟩) := h.rest 2 (by kernel_rfl)
      refine ⟨.pointer (some ⟨A, 2, none⟩), w, ?_, h.base, Or.inl (gb_refl _ _), rfl⟩
      clear h
      simp only [execOp, Act.eval, e2]
      go_simp
    refine ⟨flow_value rfl rfl fun a w h => ?_, ?_⟩
    · have e78 : a.tmps.getD 78 undef = .pointer (some ⟨A, 2, none⟩) := h.dep 78 (by kernel_rfl)
      have c := h.base.a.cell (i := 2) rfl
      refine ⟨.int .u64 x2, w, ?_, h.base, Or.inl (gb_refl _ _), rfl⟩
      clear h
      simp only [execOp, Act.eval, e78]
      go_simp
    refine ⟨flow_value rfl rfl fun a w h => ?_, ?_⟩
    · have e3 : a.tmps.getD 3 undef = .pointer (some ⟨B, 0, none⟩) := h.rest 3 (by kernel_rfl)
      refine ⟨.pointer (some ⟨B, 0, none⟩), w, ?_, h.base, Or.inl (gb_refl _ _), rfl⟩
      clear h
      simp only [execOp, Act.eval, e3]
      go_simp
    refine ⟨flow_value rfl rfl fun a w h => ?_, ?_⟩
    · have e80 : a.tmps.getD 80 undef = .pointer (some ⟨B, 0, none⟩) := h.dep 80 (by kernel_rfl)
      have c := h.base.b.cell (i := 0) rfl
      refine ⟨.int .u64 y0, w, ?_, h.base, Or.inl (gb_refl _ _), rfl⟩
      clear h
      simp only [execOp, Act.eval, e80]
      go_simp
    refine ⟨flow_value rfl rfl fun a w h => ?_, ?_⟩
    · have e79 : a.tmps.getD 79 undef = .int .u64 x2 := h.dep 79 (by kernel_rfl)
      have e81 : a.tmps.getD 81 undef = .int .u64 y0 := h.dep 81 (by kernel_rfl)
      refine ⟨.agg #[.int .u64 x2, .int .u64 y0], w, ?_, h.base, Or.inl (gb_refl _ _), rfl⟩
      clear h
      simp only [execOp, List.map_toArray, List.map_cons, List.map_nil, Act.eval, e79, e81]
      go_simp
    refine ⟨flow_value rfl rfl fun a w h => ?_, ?_⟩
    · have e2 : a.tmps.getD 2 undef = .pointer (some ⟨A, 0, none⟩) := h.rest 2 (by kernel_rfl)
      refine ⟨.pointer (some ⟨A, 3, none⟩), w, ?_, h.base, Or.inl (gb_refl _ _), rfl⟩
      clear h
      simp only [execOp, Act.eval, e2]
      go_simp
    refine ⟨flow_value rfl rfl fun a w h => ?_, ?_⟩
    · have e83 : a.tmps.getD 83 undef = .pointer (some ⟨A, 3, none⟩) := h.dep 83 (by kernel_rfl)
      have c := h.base.a.cell (i := 3) rfl
      refine ⟨.int .u64 x3, w, ?_, h.base, Or.inl (gb_refl _ _), rfl⟩
      clear h
      simp only [execOp, Act.eval, e83]
      go_simp
    refine ⟨flow_value rfl rfl fun a w h => ?_, ?_⟩
    · have e8 : a.tmps.getD 8 undef = .int .u64 z3 := (h.rest 8 (by kernel_rfl)).trans (congrArg (Value.int .u64) Hz3.out)
      refine ⟨.int .u64 z3, w, ?_, h.base, Or.inl (gb_refl _ _), rfl⟩
      clear h
      simp only [execOp, Act.eval, e8]
      go_simp
    refine ⟨flow_value rfl rfl fun a w h => ?_, ?_⟩
    · have e84 : a.tmps.getD 84 undef = .int .u64 x3 := h.dep 84 (by kernel_rfl)
      have e85 : a.tmps.getD 85 undef = .int .u64 z3 := h.dep 85 (by kernel_rfl)
      refine ⟨.agg #[.int .u64 x3, .int .u64 z3], w, ?_, h.base, Or.inl (gb_refl _ _), rfl⟩
      clear h
      simp only [execOp, List.map_toArray, List.map_cons, List.map_nil, Act.eval, e84, e85]
      go_simp
    refine ⟨flow_value rfl rfl fun a w h => ?_, ?_⟩
    · have e2 : a.tmps.getD 2 undef = .pointer (some ⟨A, 0, none⟩) := h.rest 2 (by kernel_rfl)
      refine ⟨.pointer (some ⟨A, 4, none⟩), w, ?_, h.base, Or.inl (gb_refl _ _), rfl⟩
      clear h
      simp only [execOp, Act.eval, e2]
      go_simp
    refine ⟨flow_value rfl rfl fun a w h => ?_, ?_⟩
    · have e87 : a.tmps.getD 87 undef = .pointer (some ⟨A, 4, none⟩) := h.dep 87 (by kernel_rfl)
      have c := h.base.a.cell (i := 4) rfl
      refine ⟨.int .u64 x4, w, ?_, h.base, Or.inl (gb_refl _ _), rfl⟩
      clear h
      simp only [execOp, Act.eval, e87]
      go_simp
    refine ⟨flow_value rfl rfl fun a w h => ?_, ?_⟩
    · have e7 : a.tmps.getD 7 undef = .int .u64 z2 := (h.rest 7 (by kernel_rfl)).trans (congrArg (Value.int .u64) Hz2.out)
      refine ⟨.int .u64 z2, w, ?_, h.base, Or.inl (gb_refl _ _), rfl⟩
      clear h
      simp only [execOp, Act.eval, e7]
      go_simp
    refine ⟨flow_value rfl rfl fun a w h => ?_, ?_⟩
    · have e88 : a.tmps.getD 88 undef = .int .u64 x4 := h.dep 88 (by kernel_rfl)
      have e89 : a.tmps.getD 89 undef = .int .u64 z2 := h.dep 89 (by kernel_rfl)
      refine ⟨.agg #[.int .u64 x4, .int .u64 z2], w, ?_, h.base, Or.inl (gb_refl _ _), rfl⟩
      clear h
      simp only [execOp, List.map_toArray, List.map_cons, List.map_nil, Act.eval, e88, e89]
      go_simp
    refine ⟨flow_value rfl rfl fun a w h => ?_, ?_⟩
    · have e72 : a.tmps.getD 72 undef = .agg #[.int .u64 x0, .int .u64 y2] := h.dep 72 (by kernel_rfl)
      have e77 : a.tmps.getD 77 undef = .agg #[.int .u64 x1, .int .u64 y1] := h.dep 77 (by kernel_rfl)
      have e82 : a.tmps.getD 82 undef = .agg #[.int .u64 x2, .int .u64 y0] := h.dep 82 (by kernel_rfl)
      have e86 : a.tmps.getD 86 undef = .agg #[.int .u64 x3, .int .u64 z3] := h.dep 86 (by kernel_rfl)
      have e90 : a.tmps.getD 90 undef = .agg #[.int .u64 x4, .int .u64 z2] := h.dep 90 (by kernel_rfl)
      obtain ⟨_, _, _, _, _, hr5⟩ := h.base.r
      have hs := hr5.lt
      refine ⟨.slice (some ⟨w.heap.size, 0, none⟩) 5 5, w.alloc (.cells #[.int .u64 x0, .int .u64 y2, .int .u64 x1, .int .u64 y1, .int .u64 x2, .int .u64 y0, .int .u64 x3, .int .u64 z3, .int .u64 x4, .int .u64 z2] 56), ?_, h.base.alloc _, Or.inl (World.grownBy_alloc _ _ _), ⟨w.heap.size, by omega, rfl, Blk.new w _ _⟩⟩
      clear h
      simp only [execOp, List.map_toArray, List.map_cons, List.map_nil, Act.eval, e72, e77, e82, e86, e90]
      go_simp
    refine ⟨flow_call rfl rfl fun a w h => ?_, ?_⟩
    · obtain ⟨PB, hne, e91, hP⟩ : ∃ PB, PB ≠ R ∧ a.tmps.getD 91 undef = .slice (some ⟨PB, 0, none⟩) 5 5 ∧ Blk w PB 56 (flat [(x0, y2), (x1, y1), (x2, y0), (x3, z3), (x4, z2)]) := h.dep 91 (by kernel_rfl)
      have hb := h.base
      refine ⟨30, #[.slice (some ⟨PB, 0, none⟩) 5 5], ?_, ?_⟩
      · clear h hb hP
        have e91x : a.tmps[91]?.getD undef = .slice (some ⟨PB, 0, none⟩) 5 5 := by simpa using e91
        clear e91
        go_simp
      · refine (sumUp_any PB 5 _ w _ rfl (by decide) hP ?_).mono ?_
        · intro p hp; simp only [List.mem_cons, List.not_mem_nil, or_false] at hp; rcases hp with rfl | rfl | rfl | rfl | rfl <;> exact ⟨by assumption, by assumption, by assumption, by assumption⟩
        · rintro e w1 ⟨rfl, hg⟩; exact ⟨_, rfl, hb.grown hg, Or.inl hg, by show sumV _ = _; rw [HS2.out]; rfl⟩
    refine ⟨flow_value rfl rfl fun a w h => ?_, ?_⟩
    · have e2 : a.tmps.getD 2 undef = .pointer (some ⟨A, 0, none⟩) := h.rest 2 (by kernel_rfl)
      refine ⟨.pointer (some ⟨A, 0, none⟩), w, ?_, h.base, Or.inl (gb_refl _ _), rfl⟩
      clear h
      simp only [execOp, Act.eval, e2]
      go_simp
    refine ⟨flow_value rfl rfl fun a w h => ?_, ?_⟩
    · have e93 : a.tmps.getD 93 undef = .pointer (some ⟨A, 0, none⟩) := h.dep 93 (by kernel_rfl)
      have c := h.base.a.cell (i := 0) rfl
      refine ⟨.int .u64 x0, w, ?_, h.base, Or.inl (gb_refl _ _), rfl⟩
      clear h
      simp only [execOp, Act.eval, e93]
      go_simp
    refine ⟨flow_value rfl rfl fun a w h => ?_, ?_⟩
    · have e3 : a.tmps.getD 3 undef = .pointer (some ⟨B, 0, none⟩) := h.rest 3 (by kernel_rfl)
      refine ⟨.pointer (some ⟨B, 3, none⟩), w, ?_, h.base, Or.inl (gb_refl _ _), rfl⟩
      clear h
      simp only [execOp, Act.eval, e3]
      go_simp
    refine ⟨flow_value rfl rfl fun a w h => ?_, ?_⟩
    · have e95 : a.tmps.getD 95 undef = .pointer (some ⟨B, 3, none⟩) := h.dep 95 (by kernel_rfl)
      have c := h.base.b.cell (i := 3) rfl
      refine ⟨.int .u64 y3, w, ?_, h.base, Or.inl (gb_refl _ _), rfl⟩
      clear h
      simp only [execOp, Act.eval, e95]
      go_simp
    refine ⟨flow_value rfl rfl fun a w h => ?_, ?_⟩
    · have e94 : a.tmps.getD 94 undef = .int .u64 x0 := h.dep 94 (by kernel_rfl)
      have e96 : a.tmps.getD 96 undef = .int .u64 y3 := h.dep 96 (by kernel_rfl)
      refine ⟨.agg #[.int .u64 x0, .int .u64 y3], w, ?_, h.base, Or.inl (gb_refl _ _), rfl⟩
      clear h
      simp only [execOp, List.map_toArray, List.map_cons, List.map_nil, Act.eval, e94, e96]
      go_simp
    refine ⟨flow_value rfl rfl fun a w h => ?_, ?_⟩
    · have e2 : a.tmps.getD 2 undef = .pointer (some ⟨A, 0, none⟩) := h.rest 2 (by kernel_rfl)
      refine ⟨.pointer (some ⟨A, 1, none⟩), w, ?_, h.base, Or.inl (gb_refl _ _), rfl⟩
      clear h
      simp only [execOp, Act.eval, e2]
      go_simp
    refine ⟨flow_value rfl rfl fun a w h => ?_, ?_⟩
    · have e98 : a.tmps.getD 98 undef = .pointer (some ⟨A, 1, none⟩) := h.dep 98 (by kernel_rfl)
      have c := h.base.a.cell (i := 1) rfl
      refine ⟨.int .u64 x1, w, ?_, h.base, Or.inl (gb_refl _ _), rfl⟩
      clear h
      simp only [execOp, Act.eval, e98]
      go_simp
    refine ⟨flow_value rfl rfl fun a w h => ?_, ?_⟩
    · have e3 : a.tmps.getD 3 undef = .pointer (some ⟨B, 0, none⟩) := h.rest 3 (by kernel_rfl)
      refine ⟨.pointer (some ⟨B, 2, none⟩), w, ?_, h.base, Or.inl (gb_refl _ _), rfl⟩
      clear h
      simp only [execOp, Act.eval, e3]
      go_simp
    refine ⟨flow_value rfl rfl fun a w h => ?_, ?_⟩
    · have e100 : a.tmps.getD 100 undef = .pointer (some ⟨B, 2, none⟩) := h.dep 100 (by kernel_rfl)
      have c := h.base.b.cell (i := 2) rfl
      refine ⟨.int .u64 y2, w, ?_, h.base, Or.inl (gb_refl _ _), rfl⟩
      clear h
      simp only [execOp, Act.eval, e100]
      go_simp
    refine ⟨flow_value rfl rfl fun a w h => ?_, ?_⟩
    · have e99 : a.tmps.getD 99 undef = .int .u64 x1 := h.dep 99 (by kernel_rfl)
      have e101 : a.tmps.getD 101 undef = .int .u64 y2 := h.dep 101 (by kernel_rfl)
      refine ⟨.agg #[.int .u64 x1, .int .u64 y2], w, ?_, h.base, Or.inl (gb_refl _ _), rfl⟩
      clear h
      simp only [execOp, List.map_toArray, List.map_cons, List.map_nil, Act.eval, e99, e101]
      go_simp
    refine ⟨flow_value rfl rfl fun a w h => ?_, ?_⟩
    · have e2 : a.tmps.getD 2 undef = .pointer (some ⟨A, 0, none⟩) := h.rest 2 (by kernel_rfl)
      refine ⟨.pointer (some ⟨A, 2, none⟩), w, ?_, h.base, Or.inl (gb_refl _ _), rfl⟩
      clear h
      simp only [execOp, Act.eval, e2]
      go_simp
    refine ⟨flow_value rfl rfl fun a w h => ?_, ?_⟩
    · have e103 : a.tmps.getD 103 undef = .pointer (some ⟨A, 2, none⟩) := h.dep 103 (by kernel_rfl)
      have c := h.base.a.cell (i := 2) rfl
      refine ⟨.int .u64 x2, w, ?_, h.base, Or.inl (gb_refl _ _), rfl⟩
      clear h
      simp only [execOp, Act.eval, e103]
      go_simp
    refine ⟨flow_value rfl rfl fun a w h => ?_, ?_⟩
    · have e3 : a.tmps.getD 3 undef = .pointer (some ⟨B, 0, none⟩) := h.rest 3 (by kernel_rfl)
      refine ⟨.pointer (some ⟨B, 1, none⟩), w, ?_, h.base, Or.inl (gb_refl _ _), rfl⟩
      clear h
      simp only [execOp, Act.eval, e3]
      go_simp
    refine ⟨flow_value rfl rfl fun a w h => ?_, ?_⟩
    · have e105 : a.tmps.getD 105 undef = .pointer (some ⟨B, 1, none⟩) := h.dep 105 (by kernel_rfl)
      have c := h.base.b.cell (i := 1) rfl
      refine ⟨.int .u64 y1, w, ?_, h.base, Or.inl (gb_refl _ _), rfl⟩
      clear h
      simp only [execOp, Act.eval, e105]
      go_simp
    refine ⟨flow_value rfl rfl fun a w h => ?_, ?_⟩
    · have e104 : a.tmps.getD 104 undef = .int .u64 x2 := h.dep 104 (by kernel_rfl)
      have e106 : a.tmps.getD 106 undef = .int .u64 y1 := h.dep 106 (by kernel_rfl)
      refine ⟨.agg #[.int .u64 x2, .int .u64 y1], w, ?_, h.base, Or.inl (gb_refl _ _), rfl⟩
      clear h
      simp only [execOp, List.map_toArray, List.map_cons, List.map_nil, Act.eval, e104, e106]
      go_simp
    refine ⟨flow_value rfl rfl fun a w h => ?_, ?_⟩
    · have e2 : a.tmps.getD 2 undef = .pointer (some ⟨A, 0, none⟩) := h.rest 2 (by kernel_rfl)
      refine ⟨.pointer (some ⟨A, 3, none⟩), w, ?_, h.base, Or.inl (gb_refl _ _), rfl⟩
      clear h
      simp only [execOp, Act.eval, e2]
      go_simp
    refine ⟨flow_value rfl rfl fun a w h => ?_, ?_⟩
    · have e108 : a.tmps.getD 108 undef = .pointer (some ⟨A, 3, none⟩) := h.dep 108 (by kernel_rfl)
      have c := h.base.a.cell (i := 3) rfl
      refine ⟨.int .u64 x3, w, ?_, h.base, Or.inl (gb_refl _ _), rfl⟩
      clear h
      simp only [execOp, Act.eval, e108]
      go_simp
    refine ⟨flow_value rfl rfl fun a w h => ?_, ?_⟩
    · have e3 : a.tmps.getD 3 undef = .pointer (some ⟨B, 0, none⟩) := h.rest 3 (by kernel_rfl)
      refine ⟨.pointer (some ⟨B, 0, none⟩), w, ?_, h.base, Or.inl (gb_refl _ _), rfl⟩
      clear h
      simp only [execOp, Act.eval, e3]
      go_simp
    refine ⟨flow_value rfl rfl fun a w h => ?_, ?_⟩
    · have e110 : a.tmps.getD 110 undef = .pointer (some ⟨B, 0, none⟩) := h.dep 110 (by kernel_rfl)
      have c := h.base.b.cell (i := 0) rfl
      refine ⟨.int .u64 y0, w, ?_, h.base, Or.inl (gb_refl _ _), rfl⟩
      clear h
      simp only [execOp, Act.eval, e110]
      go_simp
    refine ⟨flow_value rfl rfl fun a w h => ?_, ?_⟩
    · have e109 : a.tmps.getD 109 undef = .int .u64 x3 := h.dep 109 (by kernel_rfl)
      have e111 : a.tmps.getD 111 undef = .int .u64 y0 := h.dep 111 (by kernel_rfl)
      refine ⟨.agg #[.int .u64 x3, .int .u64 y0], w, ?_, h.base, Or.inl (gb_refl _ _), rfl⟩
      clear h
      simp only [execOp, List.map_toArray, List.map_cons, List.map_nil, Act.eval, e109, e111]
      go_simp
    refine ⟨flow_value rfl rfl fun a w h => ?_, ?_⟩
    · have e2 : a.tmps.getD 2 undef = .pointer (some ⟨A, 0, none⟩) := h.rest 2 (by kernel_rfl)
      refine ⟨.pointer (some ⟨A, 4, none⟩), w, ?_, h.base, Or.inl (gb_refl _ _), rfl⟩
      clear h
      simp only [execOp, Act.eval, e2]
      go_simp
    refine ⟨flow_value rfl rfl fun a w h => ?_, ?_⟩
    · have e113 : a.tmps.getD 113 undef = .pointer (some ⟨A, 4, none⟩) := h.dep 113 (by kernel_rfl)
      have c := h.base.a.cell (i := 4) rfl
      refine ⟨.int .u64 x4, w, ?_, h.base, Or.inl (gb_refl _ _), rfl⟩
      clear h
      simp only [execOp, Act.eval, e113]
      go_simp
    refine ⟨flow_value rfl rfl fun a w h => ?_, ?_⟩
    · have e8 : a.tmps.getD 8 undef = .int .u64 z3 := (h.rest 8 (by kernel_rfl)).trans (congrArg (Value.int .u64) Hz3.out)
      refine ⟨.int .u64 z3, w, ?_, h.base, Or.inl (gb_refl _ _), rfl⟩
      clear h
      simp only [execOp, Act.eval, e8]
      go_simp
    refine ⟨flow_value rfl rfl fun a w h => ?_, ?_⟩
    · have e114 : a.tmps.getD 114 undef = .int .u64 x4 := h.dep 114 (by kernel_rfl)
      have e115 : a.tmps.getD 115 undef = .int .u64 z3 := h.dep 115 (by kernel_rfl)
      refine ⟨.agg #[.int .u64 x4, .int .u64 z3], w, ?_, h.base, Or.inl (gb_refl _ _), rfl⟩
      clear h
      simp only [execOp, List.map_toArray, List.map_cons, List.map_nil, Act.eval, e114, e115]
      go_simp
    refine ⟨flow_value rfl rfl fun a w h => ?_, ?_⟩
    · have e97 : a.tmps.getD 97 undef = .agg #[.int .u64 x0, .int .u64 y3] := h.dep 97 (by kernel_rfl)
      have e102 : a.tmps.getD 102 undef = .agg #[.int .u64 x1, .int .u64 y2] := h.dep 102 (by kernel_rfl)
      have e107 : a.tmps.getD 107 undef = .agg #[.int .u64 x2, .int .u64 y1] := h.dep 107 (by kernel_rfl)
      have e112 : a.tmps.getD 112 undef = .agg #[.int .u64 x3, .int .u64 y0] := h.dep 112 (by kernel_rfl)
      have e116 : a.tmps.getD 116 undef = .agg #[.int .u64 x4, .int .u64 z3] := h.dep 116 (by kernel_rfl)
      obtain ⟨_, _, _, _, _, hr5⟩ := h.base.r
      have hs := hr5.lt
      refine ⟨.slice (some ⟨w.heap.size, 0, none⟩) 5 5, w.alloc (.cells #[.int .u64 x0, .int .u64 y3, .int .u64 x1, .int .u64 y2, .int .u64 x2, .int .u64 y1, .int .u64 x3, .int .u64 y0, .int .u64 x4, .int .u64 z3] 56), ?_, h.base.alloc _, Or.inl (World.grownBy_alloc _ _ _), ⟨w.heap.size, by omega, rfl, Blk.new w _ _⟩⟩
      clear h
      simp only [execOp, List.map_toArray, List.map_cons, List.map_nil, Act.eval, e97, e102, e107, e112, e116]
      go_simp
    refine ⟨flow_call rfl rfl fun a w h => ?_, ?_⟩
    · obtain ⟨PB, hne, e117, hP⟩ : ∃ PB, PB ≠ R ∧ a.tmps.getD 117 undef = .slice (some ⟨PB, 0, none⟩) 5 5 ∧ Blk w PB 56 (flat [(x0, y3), (x1, y2), (x2, y1), (x3, y0), (x4, z3)]) := h.dep 117 (by kernel_rfl)
      have hb := h.base
      refine ⟨30, #[.slice (some ⟨PB, 0, none⟩) 5 5], ?_, ?_⟩
      · clear h hb hP
        have e117x : a.tmps[117]?.getD undef = .slice (some ⟨PB, 0, none⟩) 5 5 := by simpa using e117
        clear e117
        go_simp
      · refine (sumUp_any PB 5 _ w _ rfl (by decide) hP ?_).mono ?_
        · intro p hp; simp only [List.mem_cons, List.not_mem_nil, or_false] at hp; rcases hp with rfl | rfl | rfl | rfl | rfl <;> exact ⟨by assumption, by assumption, by assumption, by assumption⟩
        · rintro e w1 ⟨rfl, hg⟩; exact ⟨_, rfl, hb.grown hg, Or.inl hg, by show sumV _ = _; rw [HS3.out]; rfl⟩
    refine ⟨flow_value rfl rfl fun a w h => ?_, ?_⟩
    · have e2 : a.tmps.getD 2 undef = .pointer (some ⟨A, 0, none⟩) := h.rest 2 (by kernel_rfl)
      refine ⟨.pointer (some ⟨A, 0, none⟩), w, ?_, h.base, Or.inl (gb_refl _ _), rfl⟩
      clear h
      simp only [execOp, Act.eval, e2]
      go_simp
    refine ⟨flow_value rfl rfl fun a w h => ?_, ?_⟩
    · have e119 : a.tmps.getD 119 undef = .pointer (some ⟨A, 0, none⟩) := h.dep 119 (by kernel_rfl)
      have c := h.base.a.cell (i := 0) rfl
      refine ⟨.int .u64 x0, w, ?_, h.base, Or.inl (gb_refl _ _), rfl⟩
      clear h
      simp only [execOp, Act.eval, e119]
      go_simp
    refine ⟨flow_value rfl rfl fun a w h => ?_, ?_⟩
    · have e3 : a.tmps.getD 3 undef = .pointer (some ⟨B, 0, none⟩) := h.rest 3 (by kernel_rfl)
      refine ⟨.pointer (some ⟨B, 4, none⟩), w, ?_, h.base, Or.inl (gb_refl _ _), rfl⟩
      clear h
      simp only [execOp, Act.eval, e3]
      go_simp
    refine ⟨flow_value rfl rfl fun a w h => ?_, ?_⟩
    · have e121 : a.tmps.getD 121 undef = .pointer (some ⟨B, 4, none⟩) := h.dep 121 (by kernel_rfl)
      have c := h.base.b.cell (i := 4) rfl
      refine ⟨.int .u64 y4, w, ?_, h.base, Or.inl (gb_refl _ _), rfl⟩
      clear h
      simp only [execOp, Act.eval, e121]
      go_simp
    refine ⟨flow_value rfl rfl fun a w h => ?_, ?_⟩
    · have e120 : a.tmps.getD 120 undef = .int .u64 x0 := h.dep 120 (by kernel_rfl)
      have e122 : a.tmps.getD 122 undef = .int .u64 y4 := h.dep 122 (by kernel_rfl)
      refine ⟨.agg #[.int .u64 x0, .int .u64 y4], w, ?_, h.base, Or.inl (gb_refl _ _), rfl⟩
      clear h
      simp only [execOp, List.map_toArray, List.map_cons, List.map_nil, Act.eval, e120, e122]
      go_simp
    refine ⟨flow_value rfl rfl fun a w h => ?_, ?_⟩
    · have e2 : a.tmps.getD 2 undef = .pointer (some ⟨A, 0, none⟩) := h.rest 2 (by kernel_rfl)
      refine ⟨.pointer (some ⟨A, 1, none⟩), w, ?_, h.base, Or.inl (gb_refl _ _), rfl⟩
      clear h
      simp only [execOp, Act.eval, e2]
      go_simp
    refine ⟨flow_value rfl rfl fun a w h => ?_, ?_⟩
    · have e124 : a.tmps.getD 124 undef = .pointer (some ⟨A, 1, none⟩) := h.dep 124 (by kernel_rfl)
      have c := h.base.a.cell (i := 1) rfl
      refine ⟨.int .u64 x1, w, ?_, h.base, Or.inl (gb_refl _ _), rfl⟩
      clear h
      simp only [execOp, Act.eval, e124]
      go_simp
    refine ⟨flow_value rfl rfl fun a w h => ?_, ?_⟩
    · have e3 : a.tmps.getD 3 undef = .pointer (some ⟨B, 0, none⟩) := h.rest 3 (by kernel_rfl)
      refine ⟨.pointer (some ⟨B, 3, none⟩), w, ?_, h.base, Or.inl (gb_refl _ _), rfl⟩
      clear h
      simp only [execOp, Act.eval, e3]
      go_simp
    refine ⟨flow_value rfl rfl fun a w h => ?_, ?_⟩
    · have e126 : a.tmps.getD 126 undef = .pointer (some ⟨B, 3, none⟩) := h.dep 126 (by kernel_rfl)
      have c := h.base.b.cell (i := 3) rfl
      refine ⟨.int .u64 y3, w, ?_, h.base, Or.inl (gb_refl _ _), rfl⟩
      clear h
      simp only [execOp, Act.eval, e126]
      go_simp
    refine ⟨flow_value rfl rfl fun a w h => ?_, ?_⟩
    · have e125 : a.tmps.getD 125 undef = .int .u64 x1 := h.dep 125 (by kernel_rfl)
      have e127 : a.tmps.getD 127 undef = .int .u64 y3 := h.dep 127 (by kernel_rfl)
      refine ⟨.agg #[.int .u64 x1, .int .u64 y3], w, ?_, h.base, Or.inl (gb_refl _ _), rfl⟩
      clear h
      simp only [execOp, List.map_toArray, List.map_cons, List.map_nil, Act.eval, e125, e127]
      go_simp
    refine ⟨flow_value rfl rfl fun a w h => ?_, ?_⟩
    · have e2 : a.tmps.getD 2 undef = .pointer (some ⟨A, 0, none⟩) := h.rest 2 (by kernel_rfl)
      refine ⟨.pointer (some ⟨A, 2, none⟩), w, ?_, h.base, Or.inl (gb_refl _ _), rfl⟩
      clear h
      simp only [execOp, Act.eval, e2]
      go_simp
    refine ⟨flow_value rfl rfl fun a w h => ?_, ?_⟩
    · have e129 : a.tmps.getD 129 undef = .pointer (some ⟨A, 2, none⟩) := h.dep 129 (by kernel_rfl)
      have c := h.base.a.cell (i := 2) rfl
      refine ⟨.int .u64 x2, w, ?_, h.base, Or.inl (gb_refl _ _), rfl⟩
      clear h
      simp only [execOp, Act.eval, e129]
      go_simp
    refine ⟨flow_value rfl rfl fun a w h => ?_, ?_⟩
    · have e3 : a.tmps.getD 3 undef = .pointer (some ⟨B, 0, none⟩) := h.rest 3 (by kernel_rfl)
      refine ⟨.pointer (some ⟨B, 2, none⟩), w, ?_, h.base, Or.inl (gb_refl _ _), rfl⟩
      clear h
      simp only [execOp, Act.eval, e3]
      go_simp
    refine ⟨flow_value rfl rfl fun a w h => ?_, ?_⟩
    · have e131 : a.tmps.getD 131 undef = .pointer (some ⟨B, 2, none⟩) := h.dep 131 (by kernel_rfl)
      have c := h.base.b.cell (i := 2) rfl
      refine ⟨.int .u64 y2, w, ?_, h.base, Or.inl (gb_refl _ _), rfl⟩
      clear h
      simp only [execOp, Act.eval, e131]
      go_simp
    refine ⟨flow_value rfl rfl fun a w h => ?_, ?_⟩
    · have e130 : a.tmps.getD 130 undef = .int .u64 x2 := h.dep 130 (by kernel_rfl)
      have e132 : a.tmps.getD 132 undef = .int .u64 y2 := h.dep 132 (by kernel_rfl)
      refine ⟨.agg #[.int .u64 x2, .int .u64 y2], w, ?_, h.base, Or.inl (gb_refl _ _), rfl⟩
      clear h
      simp only [execOp, List.map_toArray, List.map_cons, List.map_nil, Act.eval, e130, e132]
      go_simp
    refine ⟨flow_value rfl rfl fun a w h => ?_, ?_⟩
    · have e2 : a.tmps.getD 2 undef = .pointer (some ⟨A, 0, none⟩) := h.rest 2 (by kernel_rfl)
      refine ⟨.pointer (some ⟨A, 3, none⟩), w, ?_, h.base, Or.inl (gb_refl _ _), rfl⟩
      clear h
      simp only [execOp, Act.eval, e2]
      go_simp
    refine ⟨flow_value rfl rfl fun a w h => ?_, ?_⟩
    · have e134 : a.tmps.getD 134 undef = .pointer (some ⟨A, 3, none⟩) := h.dep 134 (by kernel_rfl)
      have c := h.base.a.cell (i := 3) rfl
      refine ⟨.int .u64 x3, w, ?_, h.base, Or.inl (gb_refl _ _), rfl⟩
      clear h
      simp only [execOp, Act.eval, e134]
      go_simp
    refine ⟨flow_value rfl rfl fun a w h => ?_, ?_⟩
    · have e3 : a.tmps.getD 3 undef = .pointer (some ⟨B, 0, none⟩) := h.rest 3 (by kernel_rfl)
      refine ⟨.pointer (some ⟨B, 1, none⟩), w, ?_, h.base, Or.inl (gb_refl _ _), rfl⟩
      clear h
      simp only [execOp, Act.eval, e3]
      go_simp
    refine ⟨flow_value rfl rfl fun a w h => ?_, ?_⟩
    · have e136 : a.tmps.getD 136 undef = .pointer (some ⟨B, 1, none⟩) := h.dep 136 (by kernel_rfl)
      have c := h.base.b.cell (i := 1) rfl
      refine ⟨.int .u64 y1, w, ?_, h.base, Or.inl (gb_refl _ _), rfl⟩
      clear h
      simp only [execOp, Act.eval, e136]
      go_simp
    refine ⟨flow_value rfl rfl fun a w h => ?_, ?_⟩
    · have e135 : a.tmps.getD 135 undef = .int .u64 x3 := h.dep 135 (by kernel_rfl)
      have e137 : a.tmps.getD 137 undef = .int .u64 y1 := h.dep 137 (by kernel_rfl)
      refine ⟨.agg #[.int .u64 x3, .int .u64 y1], w, ?_, h.base, Or.inl (gb_refl _ _), rfl⟩
      clear h
      simp only [execOp, List.map_toArray, List.map_cons, List.map_nil, Act.eval, e135, e137]
      go_simp
    refine ⟨flow_value rfl rfl fun a w h => ?_, ?_⟩
    · have e2 : a.tmps.getD 2 undef = .pointer (some ⟨A, 0, none⟩) := h.rest 2 (by kernel_rfl)
      refine ⟨.pointer (some ⟨A, 4, none⟩), w, ?_, h.base, Or.inl (gb_refl _ _), rfl⟩
      clear h
      simp only [execOp, Act.eval, e2]
      go_simp
    refine ⟨flow_value rfl rfl fun a w h => ?_, ?_⟩
    · have e139 : a.tmps.getD 139 undef = .pointer (some ⟨A, 4, none⟩) := h.dep 139 (by kernel_rfl)
      have c := h.base.a.cell (i := 4) rfl
      refine ⟨.int .u64 x4, w, ?_, h.base, Or.inl (gb_refl _ _), rfl⟩
      clear h
      simp only [execOp, Act.eval, e139]
      go_simp
    refine ⟨flow_value rfl rfl fun a w h => ?_, ?_⟩
    · have e3 : a.tmps.getD 3 undef = .pointer (some ⟨B, 0, none⟩) := h.rest 3 (by kernel_rfl)
      refine ⟨.pointer (some ⟨B, 0, none⟩), w, ?_, h.base, Or.inl (gb_refl _ _), rfl⟩
      clear h
      simp only [execOp, Act.eval, e3]
      go_simp
    refine ⟨flow_value rfl rfl fun a w h => ?_, ?_⟩
    · have e141 : a.tmps.getD 141 undef = .pointer (some ⟨B, 0, none⟩) := h.dep 141 (by kernel_rfl)
      have c := h.base.b.cell (i := 0) rfl
      refine ⟨.int .u64 y0, w, ?_, h.base, Or.inl (gb_refl _ _), rfl⟩
      clear h
      simp only [execOp, Act.eval, e141]
      go_simp
    refine ⟨flow_value rfl rfl fun a w h => ?_, ?_⟩
    · have e140 : a.tmps.getD 140 undef = .int .u64 x4 := h.dep 140 (by kernel_rfl)
      have e142 : a.tmps.getD 142 undef = .int .u64 y0 := h.dep 142 (by kernel_rfl)
      refine ⟨.agg #[.int .u64 x4, .int .u64 y0], w, ?_, h.base, Or.inl (gb_refl _ _), rfl⟩
      clear h
      simp only [execOp, List.map_toArray, List.map_cons, List.map_nil, Act.eval, e140, e142]
      go_simp
    refine ⟨flow_value rfl rfl fun a w h => ?_, ?_⟩
    · have e123 : a.tmps.getD 123 undef = .agg #[.int .u64 x0, .int .u64 y4] := h.dep 123 (by kernel_rfl)
      have e128 : a.tmps.getD 128 undef = .agg #[.int .u64 x1, .int .u64 y3] := h.dep 128 (by kernel_rfl)
      have e133 : a.tmps.getD 133 undef = .agg #[.int .u64 x2, .int .u64 y2] := h.dep 133 (by kernel_rfl)
      have e138 : a.tmps.getD 138 undef = .agg #[.int .u64 x3, .int .u64 y1] := h.dep 138 (by kernel_rfl)
      have e143 : a.tmps.getD 143 undef = .agg #[.int .u64 x4, .int .u64 y0] := h.dep 143 (by kernel_rfl)
      obtain ⟨_, _, _, _, _, hr5⟩ := h.base.r
      have hs := hr5.lt
      refine ⟨.slice (some ⟨w.heap.size, 0, none⟩) 5 5, w.alloc (.cells #[.int .u64 x0, .int .u64 y4, .int .u64 x1, .int .u64 y3, .int .u64 x2, .int .u64 y2, .int .u64 x3, .int .u64 y1, .int .u64 x4, .int .u64 y0] 56), ?_, h.base.alloc _, Or.inl (World.grownBy_alloc _ _ _), ⟨w.heap.size, by omega, rfl, Blk.new w _ _⟩⟩
      clear h
      simp only [execOp, List.map_toArray, List.map_cons, List.map_nil, Act.eval, e123, e128, e133, e138, e143]
      go_simp
    refine ⟨flow_call rfl rfl fun a w h => ?_, ?_⟩
    · obtain ⟨PB, hne, e144, hP⟩ : ∃ PB, PB ≠ R ∧ a.tmps.getD 144 undef = .slice (some ⟨PB, 0, none⟩) 5 5 ∧ Blk w PB 56 (flat [(x0, y4), (x1, y3), (x2, y2), (x3, y1), (x4, y0)]) := h.dep 144 (by kernel_rfl)
      have hb := h.base
      refine ⟨30, #[.slice (some ⟨PB, 0, none⟩) 5 5], ?_, ?_⟩
      · clear h hb hP
        have e144x : a.tmps[144]?.getD undef = .slice (some ⟨PB, 0, none⟩) 5 5 := by simpa using e144
        clear e144
        go_simp
      · refine (sumUp_any PB 5 _ w _ rfl (by decide) hP ?_).mono ?_
        · intro p hp; simp only [List.mem_cons, List.not_mem_nil, or_false] at hp; rcases hp with rfl | rfl | rfl | rfl | rfl <;> exact ⟨by assumption, by assumption, by assumption, by assumption⟩
        · rintro e w1 ⟨rfl, hg⟩; exact ⟨_, rfl, hb.grown hg, Or.inl hg, by show sumV _ = _; rw [HS4.out]; rfl⟩
    refine ⟨flow_value rfl rfl fun a w h => ?_, ?_⟩
    · have e43 : a.tmps.getD 43 undef = .agg #[.int .u64 (S0 / 18446744073709551616), .int .u64 (S0 % 18446744073709551616)] := h.dep 43 (by kernel_rfl)
      have e67 : a.tmps.getD 67 undef = .agg #[.int .u64 (S1 / 18446744073709551616), .int .u64 (S1 % 18446744073709551616)] := h.dep 67 (by kernel_rfl)
      have e92 : a.tmps.getD 92 undef = .agg #[.int .u64 (S2 / 18446744073709551616), .int .u64 (S2 % 18446744073709551616)] := h.dep 92 (by kernel_rfl)
      have e118 : a.tmps.getD 118 undef = .agg #[.int .u64 (S3 / 18446744073709551616), .int .u64 (S3 % 18446744073709551616)] := h.dep 118 (by kernel_rfl)
      have e145 : a.tmps.getD 145 undef = .agg #[.int .u64 (S4 / 18446744073709551616), .int .u64 (S4 % 18446744073709551616)] := h.dep 145 (by kernel_rfl)
      refine ⟨.agg #[.int .u64 (S0 / 18446744073709551616), .int .u64 (S0 % 18446744073709551616), .int .u64 (S1 / 18446744073709551616), .int .u64 (S1 % 18446744073709551616), .int .u64 (S2 / 18446744073709551616), .int .u64 (S2 % 18446744073709551616), .int .u64 (S3 / 18446744073709551616), .int .u64 (S3 % 18446744073709551616), .int .u64 (S4 / 18446744073709551616), .int .u64 (S4 % 18446744073709551616)], w, ?_, h.base, Or.inl (gb_refl _ _), rfl⟩
      clear h
      simp only [execOp, List.map_toArray, List.map_cons, List.map_nil, Act.eval, e43, e67, e92, e118, e145]
      go_simp
    refine ⟨flow_call rfl rfl fun a w h => ?_, ?_⟩
    · have e146 : a.tmps.getD 146 undef = .agg #[.int .u64 (S0 / 18446744073709551616), .int .u64 (S0 % 18446744073709551616), .int .u64 (S1 / 18446744073709551616), .int .u64 (S1 % 18446744073709551616), .int .u64 (S2 / 18446744073709551616), .int .u64 (S2 % 18446744073709551616), .int .u64 (S3 / 18446744073709551616), .int .u64 (S3 % 18446744073709551616), .int .u64 (S4 / 18446744073709551616), .int .u64 (S4 % 18446744073709551616)] := h.dep 146 (by kernel_rfl)
      have hb := h.base
      refine ⟨29, #[.agg #[.int .u64 (S0 / 18446744073709551616), .int .u64 (S0 % 18446744073709551616), .int .u64 (S1 / 18446744073709551616), .int .u64 (S1 % 18446744073709551616), .int .u64 (S2 / 18446744073709551616), .int .u64 (S2 % 18446744073709551616), .int .u64 (S3 / 18446744073709551616), .int .u64 (S3 % 18446744073709551616), .int .u64 (S4 / 18446744073709551616), .int .u64 (S4 % 18446744073709551616)]], ?_, ?_⟩
      · clear h hb
        have e146x : a.tmps[146]?.getD undef = .agg #[.int .u64 (S0 / 18446744073709551616), .int .u64 (S0 % 18446744073709551616), .int .u64 (S1 / 18446744073709551616), .int .u64 (S1 % 18446744073709551616), .int .u64 (S2 / 18446744073709551616), .int .u64 (S2 % 18446744073709551616), .int .u64 (S3 / 18446744073709551616), .int .u64 (S3 % 18446744073709551616), .int .u64 (S4 / 18446744073709551616), .int .u64 (S4 % 18446744073709551616)] := by simpa using e146
        clear e146
        go_simp
      · refine (join_sums S0 S1 S2 S3 S4 w (by assumption) (by assumption) (by assumption) (by assumption) (by assumption)).mono ?_
        rintro e w1 ⟨rfl, hg⟩
        exact ⟨_, rfl, hb.grown hg, Or.inl hg, by show Fe.v _ = Fe.v _; rw [Hr.out]⟩
    refine ⟨flow_skip rfl rfl fun a w h => ?_, ?_⟩
    · have e147 : a.tmps.getD 147 undef = .agg #[.int .u64 r.x0, .int .u64 r.x1, .int .u64 r.x2, .int .u64 r.x3, .int .u64 r.x4] := h.dep 147 (by kernel_rfl)
      have e4 : a.tmps.getD 4 undef = .pointer (some ⟨R, 0, none⟩) := h.rest 4 (by kernel_rfl)
      obtain ⟨u0, u1, u2, u3, u4, hR⟩ := h.base.r
      have c0r := hR.cell (i := 0) rfl; have f0r := hR.free 0
      have c1r := hR.cell (i := 1) rfl; have f1r := hR.free 1
      have c2r := hR.cell (i := 2) rfl; have f2r := hR.free 2
      have c3r := hR.cell (i := 3) rfl; have f3r := hR.free 3
      have c4r := hR.cell (i := 4) rfl; have f4r := hR.free 4
      refine ⟨_, ?_, h.base.set5 _ _ _ _ _, Or.inr ⟨gb_set (gb_set (gb_set (gb_set (gb_set (gb_refl _ _) _ _) _ _) _ _) _ _) _ _, h.base.r.set5 _ _ _ _ _⟩, h.base.r.set5 _ _ _ _ _⟩
      clear h
      simp only [execOp, Act.eval, e147, e4]
      go_simp
    trivial
  · intro a w1 hB hsz hdf hrest hslots hmems
    have hM := hmems 127 _ rfl rfl
    have eR0 : a.tmps.getD 4 undef = .pointer (some ⟨(w.heap.size + 1 + 1), 0, none⟩) := hrest 4 (by kernel_rfl)
    have hg := hB.g
    clear hmems hslots hrest hB
    have eR1 : a.tmps[4]?.getD undef = .pointer (some ⟨(w.heap.size + 1 + 1), 0, none⟩) := by simpa using eR0
    have z0 := hM.cell (i := 0) rfl
    have z1 := hM.cell (i := 1) rfl
    have z2 := hM.cell (i := 2) rfl
    have z3 := hM.cell (i := 3) rfl
    have z4 := hM.cell (i := 4) rfl
    clear hM
    go_wp2
    refine bodyPost_ret (v := .agg #[.int .u64 r.x0, .int .u64 r.x1, .int .u64 r.x2, .int .u64 r.x3, .int .u64 r.x4]) ?_ (by rw [hdf]) ⟨r, ?_, rfl, hg⟩
    · simp [results, Tryd.results7, go_sem, eR1, z0, z1, z2, z3, z4]
    · rw [Hr.out, ← HS0.out, ← HS1.out, ← HS2.out, ← HS3.out, ← HS4.out, ← Hz0.out, ← Hz1.out, ← Hz2.out, ← Hz3.out]
      simp only [wrapw]
      rfl
end Go.Proofs.YtjgfhihngbhljaaDoor
