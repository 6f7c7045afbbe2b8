/- texts merged, part 2: XFeMul XFeSq XFeAdd XFeLeast XFeBytes XFeBytesOf XFeSame XFePow XFeOnes XFeFlow XFeFits XFeInv XFeGuess -/
import Derived.Test.YtleegbaigedebaaDoorEdB1
import Derived.RegionTactic
import Derived.ChangeAlike
import Derived.BigRegion
import Derived.ChangeKeysEq
/- field: Mul. (Laid by gen_mul.py over the operations of the function.) -/
namespace Go.Proofs.YtleegbaigedebaaDoor
open Go.RowKit
def mulG (A B R : Nat) (x0 x1 x2 x3 x4 y0 y1 y2 y3 y4 z0 z1 z2 z3 S0 S1 S2 S3 S4 : Int) (r : Fe) : List (Value → World → Prop) := [
  fun _ _ => True,
  fun _ _ => True,
  fun _ _ => True,
  fun _ _ => True,
  fun _ _ => True,
  fun _ _ => True,
  fun _ _ => True,
  fun _ _ => True,
  fun _ _ => True,
  fun _ _ => True,
  fun _ _ => True,
  fun _ _ => True,
  fun _ _ => True,
  fun _ _ => True,
  fun _ _ => True,
  fun _ _ => True,
  fun _ _ => True,
  fun _ _ => True,
  fun _ _ => True,
  fun _ _ => True,
  fun _ _ => True,
  fun v _ => v = .pointer (some ⟨A, 0, none⟩),
  fun v _ => v = .int .u64 x0,
  fun v _ => v = .pointer (some ⟨B, 0, none⟩),
  fun v _ => v = .int .u64 y0,
  fun v _ => v = .agg #[.int .u64 x0, .int .u64 y0],
  fun v _ => v = .pointer (some ⟨A, 1, none⟩),
  fun v _ => v = .int .u64 x1,
  fun v _ => v = .int .u64 z3,
  fun v _ => v = .agg #[.int .u64 x1, .int .u64 z3],
  fun v _ => v = .pointer (some ⟨A, 2, none⟩),
  fun v _ => v = .int .u64 x2,
  fun v _ => v = .int .u64 z2,
  fun v _ => v = .agg #[.int .u64 x2, .int .u64 z2],
  fun v _ => v = .pointer (some ⟨A, 3, none⟩),
  fun v _ => v = .int .u64 x3,
  fun v _ => v = .int .u64 z1,
  fun v _ => v = .agg #[.int .u64 x3, .int .u64 z1],
  fun v _ => v = .pointer (some ⟨A, 4, none⟩),
  fun v _ => v = .int .u64 x4,
  fun v _ => v = .int .u64 z0,
  fun v _ => v = .agg #[.int .u64 x4, .int .u64 z0],
  fun v w => ∃ PB, PB ≠ R ∧ v = .slice (some ⟨PB, 0, none⟩) 5 5 ∧ Blk w PB 88 (flat [(x0, y0), (x1, z3), (x2, z2), (x3, z1), (x4, z0)]),
  fun v _ => v = .agg #[.int .u64 (S0 / 18446744073709551616), .int .u64 (S0 % 18446744073709551616)],
  fun v _ => v = .pointer (some ⟨A, 0, none⟩),
  fun v _ => v = .int .u64 x0,
  fun v _ => v = .pointer (some ⟨B, 1, none⟩),
  fun v _ => v = .int .u64 y1,
  fun v _ => v = .agg #[.int .u64 x0, .int .u64 y1],
  fun v _ => v = .pointer (some ⟨A, 1, none⟩),
  fun v _ => v = .int .u64 x1,
  fun v _ => v = .pointer (some ⟨B, 0, none⟩),
  fun v _ => v = .int .u64 y0,
  fun v _ => v = .agg #[.int .u64 x1, .int .u64 y0],
  fun v _ => v = .pointer (some ⟨A, 2, none⟩),
  fun v _ => v = .int .u64 x2,
  fun v _ => v = .int .u64 z3,
  fun v _ => v = .agg #[.int .u64 x2, .int .u64 z3],
  fun v _ => v = .pointer (some ⟨A, 3, none⟩),
  fun v _ => v = .int .u64 x3,
  fun v _ => v = .int .u64 z2,
  fun v _ => v = .agg #[.int .u64 x3, .int .u64 z2],
  fun v _ => v = .pointer (some ⟨A, 4, none⟩),
  fun v _ => v = .int .u64 x4,
  fun v _ => v = .int .u64 z1,
  fun v _ => v = .agg #[.int .u64 x4, .int .u64 z1],
  fun v w => ∃ PB, PB ≠ R ∧ v = .slice (some ⟨PB, 0, none⟩) 5 5 ∧ Blk w PB 88 (flat [(x0, y1), (x1, y0), (x2, z3), (x3, z2), (x4, z1)]),
  fun v _ => v = .agg #[.int .u64 (S1 / 18446744073709551616), .int .u64 (S1 % 18446744073709551616)],
  fun v _ => v = .pointer (some ⟨A, 0, none⟩),
  fun v _ => v = .int .u64 x0,
  fun v _ => v = .pointer (some ⟨B, 2, none⟩),
  fun v _ => v = .int .u64 y2,
  fun v _ => v = .agg #[.int .u64 x0, .int .u64 y2],
  fun v _ => v = .pointer (some ⟨A, 1, none⟩),
  fun v _ => v = .int .u64 x1,
  fun v _ => v = .pointer (some ⟨B, 1, none⟩),
  fun v _ => v = .int .u64 y1,
  fun v _ => v = .agg #[.int .u64 x1, .int .u64 y1],
  fun v _ => v = .pointer (some ⟨A, 2, none⟩),
  fun v _ => v = .int .u64 x2,
  fun v _ => v = .pointer (some ⟨B, 0, none⟩),
  fun v _ => v = .int .u64 y0,
  fun v _ => v = .agg #[.int .u64 x2, .int .u64 y0],
  fun v _ => v = .pointer (some ⟨A, 3, none⟩),
  fun v _ => v = .int .u64 x3,
  fun v _ => v = .int .u64 z3,
  fun v _ => v = .agg #[.int .u64 x3, .int .u64 z3],
  fun v _ => v = .pointer (some ⟨A, 4, none⟩),
  fun v _ => v = .int .u64 x4,
  fun v _ => v = .int .u64 z2,
  fun v _ => v = .agg #[.int .u64 x4, .int .u64 z2],
  fun v w => ∃ PB, PB ≠ R ∧ v = .slice (some ⟨PB, 0, none⟩) 5 5 ∧ Blk w PB 88 (flat [(x0, y2), (x1, y1), (x2, y0), (x3, z3), (x4, z2)]),
  fun v _ => v = .agg #[.int .u64 (S2 / 18446744073709551616), .int .u64 (S2 % 18446744073709551616)],
  fun v _ => v = .pointer (some ⟨A, 0, none⟩),
  fun v _ => v = .int .u64 x0,
  fun v _ => v = .pointer (some ⟨B, 3, none⟩),
  fun v _ => v = .int .u64 y3,
  fun v _ => v = .agg #[.int .u64 x0, .int .u64 y3],
  fun v _ => v = .pointer (some ⟨A, 1, none⟩),
  fun v _ => v = .int .u64 x1,
  fun v _ => v = .pointer (some ⟨B, 2, none⟩),
  fun v _ => v = .int .u64 y2,
  fun v _ => v = .agg #[.int .u64 x1, .int .u64 y2],
  fun v _ => v = .pointer (some ⟨A, 2, none⟩),
  fun v _ => v = .int .u64 x2,
  fun v _ => v = .pointer (some ⟨B, 1, none⟩),
  fun v _ => v = .int .u64 y1,
  fun v _ => v = .agg #[.int .u64 x2, .int .u64 y1],
  fun v _ => v = .pointer (some ⟨A, 3, none⟩),
  fun v _ => v = .int .u64 x3,
  fun v _ => v = .pointer (some ⟨B, 0, none⟩),
  fun v _ => v = .int .u64 y0,
  fun v _ => v = .agg #[.int .u64 x3, .int .u64 y0],
  fun v _ => v = .pointer (some ⟨A, 4, none⟩),
  fun v _ => v = .int .u64 x4,
  fun v _ => v = .int .u64 z3,
  fun v _ => v = .agg #[.int .u64 x4, .int .u64 z3],
  fun v w => ∃ PB, PB ≠ R ∧ v = .slice (some ⟨PB, 0, none⟩) 5 5 ∧ Blk w PB 88 (flat [(x0, y3), (x1, y2), (x2, y1), (x3, y0), (x4, z3)]),
  fun v _ => v = .agg #[.int .u64 (S3 / 18446744073709551616), .int .u64 (S3 % 18446744073709551616)],
  fun v _ => v = .pointer (some ⟨A, 0, none⟩),
  fun v _ => v = .int .u64 x0,
  fun v _ => v = .pointer (some ⟨B, 4, none⟩),
  fun v _ => v = .int .u64 y4,
  fun v _ => v = .agg #[.int .u64 x0, .int .u64 y4],
  fun v _ => v = .pointer (some ⟨A, 1, none⟩),
  fun v _ => v = .int .u64 x1,
  fun v _ => v = .pointer (some ⟨B, 3, none⟩),
  fun v _ => v = .int .u64 y3,
  fun v _ => v = .agg #[.int .u64 x1, .int .u64 y3],
  fun v _ => v = .pointer (some ⟨A, 2, none⟩),
  fun v _ => v = .int .u64 x2,
  fun v _ => v = .pointer (some ⟨B, 2, none⟩),
  fun v _ => v = .int .u64 y2,
  fun v _ => v = .agg #[.int .u64 x2, .int .u64 y2],
  fun v _ => v = .pointer (some ⟨A, 3, none⟩),
  fun v _ => v = .int .u64 x3,
  fun v _ => v = .pointer (some ⟨B, 1, none⟩),
  fun v _ => v = .int .u64 y1,
  fun v _ => v = .agg #[.int .u64 x3, .int .u64 y1],
  fun v _ => v = .pointer (some ⟨A, 4, none⟩),
  fun v _ => v = .int .u64 x4,
  fun v _ => v = .pointer (some ⟨B, 0, none⟩),
  fun v _ => v = .int .u64 y0,
  fun v _ => v = .agg #[.int .u64 x4, .int .u64 y0],
  fun v w => ∃ PB, PB ≠ R ∧ v = .slice (some ⟨PB, 0, none⟩) 5 5 ∧ Blk w PB 88 (flat [(x0, y4), (x1, y3), (x2, y2), (x3, y1), (x4, y0)]),
  fun v _ => v = .agg #[.int .u64 (S4 / 18446744073709551616), .int .u64 (S4 % 18446744073709551616)],
  fun v _ => v = .agg #[.int .u64 (S0 / 18446744073709551616), .int .u64 (S0 % 18446744073709551616), .int .u64 (S1 / 18446744073709551616), .int .u64 (S1 % 18446744073709551616), .int .u64 (S2 / 18446744073709551616), .int .u64 (S2 % 18446744073709551616), .int .u64 (S3 / 18446744073709551616), .int .u64 (S3 % 18446744073709551616), .int .u64 (S4 / 18446744073709551616), .int .u64 (S4 % 18446744073709551616)],
  fun v _ => v = r.v]
def mulAt (A B R : Nat) (x0 x1 x2 x3 x4 y0 y1 y2 y3 y4 z0 z1 z2 z3 S0 S1 S2 S3 S4 : Int) (r : Fe) (d : Nat) (v : Value) (w : World) : Prop := ((mulG A B R x0 x1 x2 x3 x4 y0 y1 y2 y3 y4 z0 z1 z2 z3 S0 S1 S2 S3 S4 r).getD d (fun _ _ => True)) v w
structure mulB (w0 : World) (A B R : Nat) (x0 x1 x2 x3 x4 y0 y1 y2 y3 y4 : Int) (w : World) : Prop where
  a : Blk w A 26 [.int .u64 x0, .int .u64 x1, .int .u64 x2, .int .u64 x3, .int .u64 x4]
  b : Blk w B 26 [.int .u64 y0, .int .u64 y1, .int .u64 y2, .int .u64 y3, .int .u64 y4]
  r : Room5 w R 26
  g : w0.grownBy w none
  ra : A ≠ R
  rb : B ≠ R
  rn : w0.heap.size ≤ R
theorem mulB.grown {w0 : World} {A B R : Nat} {x0 x1 x2 x3 x4 y0 y1 y2 y3 y4 : Int} {w w' : World} (h : mulB w0 A B R x0 x1 x2 x3 x4 y0 y1 y2 y3 y4 w) (hg : w.grownBy w' none) : mulB w0 A B R x0 x1 x2 x3 x4 y0 y1 y2 y3 y4 w' :=
  ⟨h.a.grown hg (by simp), h.b.grown hg (by simp), h.r.grown hg (by simp), gb_trans h.g hg, h.ra, h.rb, h.rn⟩
theorem mulB.alloc {w0 : World} {A B R : Nat} {x0 x1 x2 x3 x4 y0 y1 y2 y3 y4 : Int} {w : World} (h : mulB w0 A B R x0 x1 x2 x3 x4 y0 y1 y2 y3 y4 w) (o : Obj) : mulB w0 A B R x0 x1 x2 x3 x4 y0 y1 y2 y3 y4 (w.alloc o) := h.grown (World.grownBy_alloc _ _ _)
theorem mulB.set5 {w0 : World} {A B R : Nat} {x0 x1 x2 x3 x4 y0 y1 y2 y3 y4 : Int} {w : World} (h : mulB w0 A B R x0 x1 x2 x3 x4 y0 y1 y2 y3 y4 w) (v0 v1 v2 v3 v4 : Value) :
    mulB w0 A B R x0 x1 x2 x3 x4 y0 y1 y2 y3 y4 (((((w.setCell ⟨R, 0, none⟩ v0).setCell ⟨R, 1, none⟩ v1).setCell ⟨R, 2, none⟩ v2).setCell ⟨R, 3, none⟩ v3).setCell ⟨R, 4, none⟩ v4) :=
  ⟨((((h.a.other (Ne.symm h.ra) _).other (Ne.symm h.ra) _).other (Ne.symm h.ra) _).other (Ne.symm h.ra) _).other (Ne.symm h.ra) _,
   ((((h.b.other (Ne.symm h.rb) _).other (Ne.symm h.rb) _).other (Ne.symm h.rb) _).other (Ne.symm h.rb) _).other (Ne.symm h.rb) _,
   ⟨_, _, _, _, _, h.r.set5 v0 v1 v2 v3 v4⟩, gb_set_new (gb_set_new (gb_set_new (gb_set_new (gb_set_new h.g h.rn _) h.rn _) h.rn _) h.rn _) h.rn _, h.ra, h.rb, h.rn⟩

def Stable (R : Nat) : List (Value → World → Prop) → Prop
  | [] => True
  | p :: r => (∀ v w w', World.grownBy w w' (some R) → p v w → p v w') ∧ Stable R r
theorem stable_get {R : Nat} (L : List (Value → World → Prop)) (h : Stable R L) (d : Nat) (u : Value) (w w' : World) (hR : w.grownBy w' (some R)) (hu : (L.getD d (fun _ _ => True)) u w) : (L.getD d (fun _ _ => True)) u w' := by
  induction L generalizing d with
  | nil => simp at hu ⊢
  | cons p r ih =>
    cases d with
    | zero => exact h.1 u w w' hR hu
    | succ d => exact ih h.2 d hu
theorem mul_stable (A B R : Nat) (x0 x1 x2 x3 x4 y0 y1 y2 y3 y4 z0 z1 z2 z3 S0 S1 S2 S3 S4 : Int) (r : Fe) (d : Nat) (u : Value) (w w' : World) (hR : w.grownBy w' (some R)) (h : mulAt A B R x0 x1 x2 x3 x4 y0 y1 y2 y3 y4 z0 z1 z2 z3 S0 S1 S2 S3 S4 r d u w) : mulAt A B R x0 x1 x2 x3 x4 y0 y1 y2 y3 y4 z0 z1 z2 z3 S0 S1 S2 S3 S4 r d u w' :=
  stable_get (R := R) _ (show Stable R (mulG A B R x0 x1 x2 x3 x4 y0 y1 y2 y3 y4 z0 z1 z2 z3 S0 S1 S2 S3 S4 r) from ⟨fun _ _ _ _ h => h, fun _ _ _ _ h => h, fun _ _ _ _ h => h, fun _ _ _ _ h => h, fun _ _ _ _ h => h, fun _ _ _ _ h => h, fun _ _ _ _ h => h, fun _ _ _ _ h => h, fun _ _ _ _ h => h, fun _ _ _ _ h => h, fun _ _ _ _ h => h, fun _ _ _ _ h => h, fun _ _ _ _ h => h, fun _ _ _ _ h => h, fun _ _ _ _ h => h, fun _ _ _ _ h => h, fun _ _ _ _ h => h, fun _ _ _ _ h => h, fun _ _ _ _ h => h, fun _ _ _ _ h => h, fun _ _ _ _ h => h, fun _ _ _ _ h => h, fun _ _ _ _ h => h, fun _ _ _ _ h => h, fun _ _ _ _ h => h, fun _ _ _ _ h => h, fun _ _ _ _ h => h, fun _ _ _ _ h => h, fun _ _ _ _ h => h, fun _ _ _ _ h => h, fun _ _ _ _ h => h, fun _ _ _ _ h => h, fun _ _ _ _ h => h, fun _ _ _ _ h => h, fun _ _ _ _ h => h, fun _ _ _ _ h => h, fun _ _ _ _ h => h, fun _ _ _ _ h => h, fun _ _ _ _ h => h, fun _ _ _ _ h => h, fun _ _ _ _ h => h, fun _ _ _ _ h => h, fun _ _ _ hR ⟨PB, hne, hv, hb⟩ => ⟨PB, hne, hv, hb.grown hR (some_ne hne)⟩, fun _ _ _ _ h => h, fun _ _ _ _ h => h, fun _ _ _ _ h => h, fun _ _ _ _ h => h, fun _ _ _ _ h => h, fun _ _ _ _ h => h, fun _ _ _ _ h => h, fun _ _ _ _ h => h, fun _ _ _ _ h => h, fun _ _ _ _ h => h, fun _ _ _ _ h => h, fun _ _ _ _ h => h, fun _ _ _ _ h => h, fun _ _ _ _ h => h, fun _ _ _ _ h => h, fun _ _ _ _ h => h, fun _ _ _ _ h => h, fun _ _ _ _ h => h, fun _ _ _ _ h => h, fun _ _ _ _ h => h, fun _ _ _ _ h => h, fun _ _ _ _ h => h, fun _ _ _ _ h => h, fun _ _ _ hR ⟨PB, hne, hv, hb⟩ => ⟨PB, hne, hv, hb.grown hR (some_ne hne)⟩, fun _ _ _ _ h => h, fun _ _ _ _ h => h, fun _ _ _ _ h => h, fun _ _ _ _ h => h, fun _ _ _ _ h => h, fun _ _ _ _ h => h, fun _ _ _ _ h => h, fun _ _ _ _ h => h, fun _ _ _ _ h => h, fun _ _ _ _ h => h, fun _ _ _ _ h => h, fun _ _ _ _ h => h, fun _ _ _ _ h => h, fun _ _ _ _ h => h, fun _ _ _ _ h => h, fun _ _ _ _ h => h, fun _ _ _ _ h => h, fun _ _ _ _ h => h, fun _ _ _ _ h => h, fun _ _ _ _ h => h, fun _ _ _ _ h => h, fun _ _ _ _ h => h, fun _ _ _ _ h => h, fun _ _ _ _ h => h, fun _ _ _ hR ⟨PB, hne, hv, hb⟩ => ⟨PB, hne, hv, hb.grown hR (some_ne hne)⟩, fun _ _ _ _ h => h, fun _ _ _ _ h => h, fun _ _ _ _ h => h, fun _ _ _ _ h => h, fun _ _ _ _ h => h, fun _ _ _ _ h => h, fun _ _ _ _ h => h, fun _ _ _ _ h => h, fun _ _ _ _ h => h, fun _ _ _ _ h => h, fun _ _ _ _ h => h, fun _ _ _ _ h => h, fun _ _ _ _ h => h, fun _ _ _ _ h => h, fun _ _ _ _ h => h, fun _ _ _ _ h => h, fun _ _ _ _ h => h, fun _ _ _ _ h => h, fun _ _ _ _ h => h, fun _ _ _ _ h => h, fun _ _ _ _ h => h, fun _ _ _ _ h => h, fun _ _ _ _ h => h, fun _ _ _ _ h => h, fun _ _ _ _ h => h, fun _ _ _ hR ⟨PB, hne, hv, hb⟩ => ⟨PB, hne, hv, hb.grown hR (some_ne hne)⟩, fun _ _ _ _ h => h, fun _ _ _ _ h => h, fun _ _ _ _ h => h, fun _ _ _ _ h => h, fun _ _ _ _ h => h, fun _ _ _ _ h => h, fun _ _ _ _ h => h, fun _ _ _ _ h => h, fun _ _ _ _ h => h, fun _ _ _ _ h => h, fun _ _ _ _ h => h, fun _ _ _ _ h => h, fun _ _ _ _ h => h, fun _ _ _ _ h => h, fun _ _ _ _ h => h, fun _ _ _ _ h => h, fun _ _ _ _ h => h, fun _ _ _ _ h => h, fun _ _ _ _ h => h, fun _ _ _ _ h => h, fun _ _ _ _ h => h, fun _ _ _ _ h => h, fun _ _ _ _ h => h, fun _ _ _ _ h => h, fun _ _ _ _ h => h, fun _ _ _ _ h => h, fun _ _ _ hR ⟨PB, hne, hv, hb⟩ => ⟨PB, hne, hv, hb.grown hR (some_ne hne)⟩, fun _ _ _ _ h => h, fun _ _ _ _ h => h, fun _ _ _ _ h => h, trivial⟩) d u w w' hR h

theorem join_sums (S0 S1 S2 S3 S4 : Int) (w : World) (h0 : Is128 S0) (h1 : Is128 S1) (h2 : Is128 S2) (h3 : Is128 S3) (h4 : Is128 S4) :
    Calls Tryd.prog 52 #[.agg #[.int .u64 (S0 / 18446744073709551616), .int .u64 (S0 % 18446744073709551616), .int .u64 (S1 / 18446744073709551616), .int .u64 (S1 % 18446744073709551616), .int .u64 (S2 / 18446744073709551616), .int .u64 (S2 % 18446744073709551616), .int .u64 (S3 / 18446744073709551616), .int .u64 (S3 % 18446744073709551616), .int .u64 (S4 / 18446744073709551616), .int .u64 (S4 % 18446744073709551616)]] w fun e w' => e = .returned (Fe.joinF S0 S1 S2 S3 S4).v ∧ w.grownBy w' none := by
  obtain ⟨n0, l0⟩ := h0
  obtain ⟨n1, l1⟩ := h1
  obtain ⟨n2, l2⟩ := h2
  obtain ⟨n3, l3⟩ := h3
  obtain ⟨n4, l4⟩ := h4
  have := join_any (S0 / 18446744073709551616) (S0 % 18446744073709551616) (S1 / 18446744073709551616) (S1 % 18446744073709551616) (S2 / 18446744073709551616) (S2 % 18446744073709551616) (S3 / 18446744073709551616) (S3 % 18446744073709551616) (S4 / 18446744073709551616) (S4 % 18446744073709551616) w
    (by omega) (by omega) (by omega) (by omega) (by omega) (by omega) (by omega) (by omega) (by omega) (by omega) (by omega) (by omega) (by omega) (by omega) (by omega) (by omega) (by omega) (by omega) (by omega) (by omega)
  simpa only [halves] using this

set_option maxRecDepth 100000 in
set_option maxHeartbeats 4000000 in
theorem mul_any (x0 x1 x2 x3 x4 y0 y1 y2 y3 y4 : Int) (w : World) (a0 : 0 ≤ x0) (c0 : x0 < 18446744073709551616) (a1 : 0 ≤ x1) (c1 : x1 < 18446744073709551616) (a2 : 0 ≤ x2) (c2 : x2 < 18446744073709551616) (a3 : 0 ≤ x3) (c3 : x3 < 18446744073709551616) (a4 : 0 ≤ x4) (c4 : x4 < 18446744073709551616) (b0 : 0 ≤ y0) (d0 : y0 < 18446744073709551616) (b1 : 0 ≤ y1) (d1 : y1 < 18446744073709551616) (b2 : 0 ≤ y2) (d2 : y2 < 18446744073709551616) (b3 : 0 ≤ y3) (d3 : y3 < 18446744073709551616) (b4 : 0 ≤ y4) (d4 : y4 < 18446744073709551616) :
    Calls Tryd.prog 25 #[.agg #[.int .u64 x0, .int .u64 x1, .int .u64 x2, .int .u64 x3, .int .u64 x4], .agg #[.int .u64 y0, .int .u64 y1, .int .u64 y2, .int .u64 y3, .int .u64 y4]] w (FeOut (Fe.mulF ⟨x0, x1, x2, x3, x4⟩ ⟨y0, y1, y2, y3, y4⟩) w) := by
  obtain ⟨z0, hz0⟩ : ∃ z, IntKind.u64.wrap (19 * y1) = z := ⟨_, rfl⟩
  have pz0 : 0 ≤ z0 := by rw [← hz0, wrapw]; unfold Fe.w64; omega
  have qz0 : z0 < 18446744073709551616 := by rw [← hz0, wrapw]; unfold Fe.w64; omega
  obtain ⟨z1, hz1⟩ : ∃ z, IntKind.u64.wrap (19 * y2) = z := ⟨_, rfl⟩
  have pz1 : 0 ≤ z1 := by rw [← hz1, wrapw]; unfold Fe.w64; omega
  have qz1 : z1 < 18446744073709551616 := by rw [← hz1, wrapw]; unfold Fe.w64; omega
  obtain ⟨z2, hz2⟩ : ∃ z, IntKind.u64.wrap (19 * y3) = z := ⟨_, rfl⟩
  have pz2 : 0 ≤ z2 := by rw [← hz2, wrapw]; unfold Fe.w64; omega
  have qz2 : z2 < 18446744073709551616 := by rw [← hz2, wrapw]; unfold Fe.w64; omega
  obtain ⟨z3, hz3⟩ : ∃ z, IntKind.u64.wrap (19 * y4) = z := ⟨_, rfl⟩
  have pz3 : 0 ≤ z3 := by rw [← hz3, wrapw]; unfold Fe.w64; omega
  have qz3 : z3 < 18446744073709551616 := by rw [← hz3, wrapw]; unfold Fe.w64; omega
  obtain ⟨S0, hS0⟩ : ∃ S, sumL [(x0, y0), (x1, z3), (x2, z2), (x3, z1), (x4, z0)] = S := ⟨_, rfl⟩
  obtain ⟨S1, hS1⟩ : ∃ S, sumL [(x0, y1), (x1, y0), (x2, z3), (x3, z2), (x4, z1)] = S := ⟨_, rfl⟩
  obtain ⟨S2, hS2⟩ : ∃ S, sumL [(x0, y2), (x1, y1), (x2, y0), (x3, z3), (x4, z2)] = S := ⟨_, rfl⟩
  obtain ⟨S3, hS3⟩ : ∃ S, sumL [(x0, y3), (x1, y2), (x2, y1), (x3, y0), (x4, z3)] = S := ⟨_, rfl⟩
  obtain ⟨S4, hS4⟩ : ∃ S, sumL [(x0, y4), (x1, y3), (x2, y2), (x3, y1), (x4, y0)] = S := ⟨_, rfl⟩
  obtain ⟨r, hr⟩ : ∃ r, r = Fe.joinF S0 S1 S2 S3 S4 := ⟨_, rfl⟩
  have HS0 := Lib.hid hS0; clear hS0
  have HS1 := Lib.hid hS1; clear hS1
  have HS2 := Lib.hid hS2; clear hS2
  have HS3 := Lib.hid hS3; clear hS3
  have HS4 := Lib.hid hS4; clear hS4
  have Hr := Lib.hid hr; clear hr
  have iS0 : Is128 S0 := by rw [← HS0.out]; exact ⟨(sumL_bd _).1, (sumL_bd _).2⟩
  have iS1 : Is128 S1 := by rw [← HS1.out]; exact ⟨(sumL_bd _).1, (sumL_bd _).2⟩
  have iS2 : Is128 S2 := by rw [← HS2.out]; exact ⟨(sumL_bd _).1, (sumL_bd _).2⟩
  have iS3 : Is128 S3 := by rw [← HS3.out]; exact ⟨(sumL_bd _).1, (sumL_bd _).2⟩
  have iS4 : Is128 S4 := by rw [← HS4.out]; exact ⟨(sumL_bd _).1, (sumL_bd _).2⟩
  have Hz0 := Lib.hid hz0; clear hz0
  have Hz1 := Lib.hid hz1; clear hz1
  have Hz2 := Lib.hid hz2; clear hz2
  have Hz3 := Lib.hid hz3; clear hz3
  go_enter Tryd.func25, Tryd.ntmps25
  have hB0 : mulB w w.heap.size (w.heap.size + 1) (w.heap.size + 1 + 1) x0 x1 x2 x3 x4 y0 y1 y2 y3 y4 (((w.alloc (.cells #[.int .u64 x0, .int .u64 x1, .int .u64 x2, .int .u64 x3, .int .u64 x4] 26)).alloc (.cells #[.int .u64 y0, .int .u64 y1, .int .u64 y2, .int .u64 y3, .int .u64 y4] 26)).alloc (.cells #[.int .u64 0, .int .u64 0, .int .u64 0, .int .u64 0, .int .u64 0] 26)) :=
    ⟨((Blk.new w [.int .u64 x0, .int .u64 x1, .int .u64 x2, .int .u64 x3, .int .u64 x4] _).alloc _).alloc _, (Blk.newAt (w.alloc _) [.int .u64 y0, .int .u64 y1, .int .u64 y2, .int .u64 y3, .int .u64 y4] _ (by simp)).alloc _, ⟨_, _, _, _, _, Blk.newAt _ [.int .u64 0, .int .u64 0, .int .u64 0, .int .u64 0, .int .u64 0] _ (by simp)⟩, gb_alloc (gb_alloc (gb_alloc (gb_refl _ _) _) _) _, by omega, by omega, by omega⟩
  go_wp2
  go_quiet (fail)
  go_wp2
  have hB1 := (hB0.grown (gb_drewN (gb_refl _ none) nq)).grown (gb_drew (gb_refl _ none))
  clear hB0
  refine wp_region_flow (mulAt w.heap.size (w.heap.size + 1) (w.heap.size + 1 + 1) x0 x1 x2 x3 x4 y0 y1 y2 y3 y4 z0 z1 z2 z3 S0 S1 S2 S3 S4 r) (fun _ w' => Blk w' (w.heap.size + 1 + 1) 26 [.int .u64 r.x0, .int .u64 r.x1, .int .u64 r.x2, .int .u64 r.x3, .int .u64 r.x4])
    (mulB w w.heap.size (w.heap.size + 1) (w.heap.size + 1 + 1) x0 x1 x2 x3 x4 y0 y1 y2 y3 y4) (fun w' w'' => w'.grownBy w'' none ∨ (w'.grownBy w'' (some (w.heap.size + 1 + 1)) ∧ Blk w'' (w.heap.size + 1 + 1) 26 [.int .u64 r.x0, .int .u64 r.x1, .int .u64 r.x2, .int .u64 r.x3, .int .u64 r.x4])) (by kernel_rfl) (by kernel_rfl) (by kernel_rfl) hB1 ?_ ?_ ?_ ?_
  · exact fun d u w1 w2 hR h => mul_stable _ _ _ _ _ _ _ _ _ _ _ _ _ _ _ _ _ _ _ _ _ _ r d u w1 w2 (hR.elim (fun h => gb_row h _) (fun h => h.1)) h
  · exact fun j w1 w2 hR h => hR.elim (fun hg => h.grown hg (by simp)) (fun h => h.2)
  · clear hB1
    generalize w.heap.size = A
    generalize eB : A + 1 = B
    generalize eR : B + 1 = R
    refine ⟨flow_value rfl rfl fun a w h => ?_, ?_⟩
    · have e2 : a.tmps.getD 2 undef = .pointer (some ⟨A, 0, none⟩) := h.rest 2 (by kernel_rfl)
      refine ⟨.pointer (some ⟨A, 0, none⟩), w, ?_, h.base, Or.inl (gb_refl _ _), rfl⟩
      clear h
      simp only [execOp, Act.eval, e2]
      go_simp
    refine ⟨flow_value rfl rfl fun a w h => ?_, ?_⟩
    · have e21 : a.tmps.getD 21 undef = .pointer (some ⟨A, 0, none⟩) := h.dep 21 (by kernel_rfl)
      have c := h.base.a.cell (i := 0) rfl
      refine ⟨.int .u64 x0, w, ?_, h.base, Or.inl (gb_refl _ _), rfl⟩
      clear h
      simp only [execOp, Act.eval, e21]
      go_simp
    refine ⟨flow_value rfl rfl fun a w h => ?_, ?_⟩
    · have e3 : a.tmps.getD 3 undef = .pointer (some ⟨B, 0, none⟩) := h.rest 3 (by kernel_rfl)
      refine ⟨.pointer (some ⟨B, 0, none⟩), w, ?_, h.base, Or.inl (gb_refl _ _), rfl⟩
      clear h
      simp only [execOp, Act.eval, e3]
      go_simp
    refine ⟨flow_value rfl rfl fun a w h => ?_, ?_⟩
    · have e23 : a.tmps.getD 23 undef = .pointer (some ⟨B, 0, none⟩) := h.dep 23 (by kernel_rfl)
      have c := h.base.b.cell (i := 0) rfl
      refine ⟨.int .u64 y0, w, ?_, h.base, Or.inl (gb_refl _ _), rfl⟩
      clear h
      simp only [execOp, Act.eval, e23]
      go_simp
    refine ⟨flow_value rfl rfl fun a w h => ?_, ?_⟩
    · have e22 : a.tmps.getD 22 undef = .int .u64 x0 := h.dep 22 (by kernel_rfl)
      have e24 : a.tmps.getD 24 undef = .int .u64 y0 := h.dep 24 (by kernel_rfl)
      refine ⟨.agg #[.int .u64 x0, .int .u64 y0], w, ?_, h.base, Or.inl (gb_refl _ _), rfl⟩
      clear h
      simp only [execOp, List.map_toArray, List.map_cons, List.map_nil, Act.eval, e22, e24]
      go_simp
    refine ⟨flow_value rfl rfl fun a w h => ?_, ?_⟩
    · have e2 : a.tmps.getD 2 undef = .pointer (some ⟨A, 0, none⟩) := h.rest 2 (by kernel_rfl)
      refine ⟨.pointer (some ⟨A, 1, none⟩), w, ?_, h.base, Or.inl (gb_refl _ _), rfl⟩
      clear h
      simp only [execOp, Act.eval, e2]
      go_simp
    refine ⟨flow_value rfl rfl fun a w h => ?_, ?_⟩
    · have e26 : a.tmps.getD 26 undef = .pointer (some ⟨A, 1, none⟩) := h.dep 26 (by kernel_rfl)
      have c := h.base.a.cell (i := 1) rfl
      refine ⟨.int .u64 x1, w, ?_, h.base, Or.inl (gb_refl _ _), rfl⟩
      clear h
      simp only [execOp, Act.eval, e26]
      go_simp
    refine ⟨flow_value rfl rfl fun a w h => ?_, ?_⟩
    · have e8 : a.tmps.getD 8 undef = .int .u64 z3 := (h.rest 8 (by kernel_rfl)).trans (congrArg (Value.int .u64) Hz3.out)
      refine ⟨.int .u64 z3, w, ?_, h.base, Or.inl (gb_refl _ _), rfl⟩
      clear h
      simp only [execOp, Act.eval, e8]
      go_simp
    refine ⟨flow_value rfl rfl fun a w h => ?_, ?_⟩
    · have e27 : a.tmps.getD 27 undef = .int .u64 x1 := h.dep 27 (by kernel_rfl)
      have e28 : a.tmps.getD 28 undef = .int .u64 z3 := h.dep 28 (by kernel_rfl)
      refine ⟨.agg #[.int .u64 x1, .int .u64 z3], w, ?_, h.base, Or.inl (gb_refl _ _), rfl⟩
      clear h
      simp only [execOp, List.map_toArray, List.map_cons, List.map_nil, Act.eval, e27, e28]
      go_simp
    refine ⟨flow_value rfl rfl fun a w h => ?_, ?_⟩
    · have e2 : a.tmps.getD 2 undef = .pointer (some ⟨A, 0, none⟩) := h.rest 2 (by kernel_rfl)
      refine ⟨.pointer (some ⟨A, 2, none⟩), w, ?_, h.base, Or.inl (gb_refl _ _), rfl⟩
      clear h
      simp only [execOp, Act.eval, e2]
      go_simp
    refine ⟨flow_value rfl rfl fun a w h => ?_, ?_⟩
    · have e30 : a.tmps.getD 30 undef = .pointer (some ⟨A, 2, none⟩) := h.dep 30 (by kernel_rfl)
      have c := h.base.a.cell (i := 2) rfl
      refine ⟨.int .u64 x2, w, ?_, h.base, Or.inl (gb_refl _ _), rfl⟩
      clear h
      simp only [execOp, Act.eval, e30]
      go_simp
    refine ⟨flow_value rfl rfl fun a w h => ?_, ?_⟩
    · have e7 : a.tmps.getD 7 undef = .int .u64 z2 := (h.rest 7 (by kernel_rfl)).trans (congrArg (Value.int .u64) Hz2.out)
      refine ⟨.int .u64 z2, w, ?_, h.base, Or.inl (gb_refl _ _), rfl⟩
      clear h
      simp only [execOp, Act.eval, e7]
      go_simp
    refine ⟨flow_value rfl rfl fun a w h => ?_, ?_⟩
    · have e31 : a.tmps.getD 31 undef = .int .u64 x2 := h.dep 31 (by kernel_rfl)
      have e32 : a.tmps.getD 32 undef = .int .u64 z2 := h.dep 32 (by kernel_rfl)
      refine ⟨.agg #[.int .u64 x2, .int .u64 z2], w, ?_, h.base, Or.inl (gb_refl _ _), rfl⟩
      clear h
      simp only [execOp, List.map_toArray, List.map_cons, List.map_nil, Act.eval, e31, e32]
      go_simp
    refine ⟨flow_value rfl rfl fun a w h => ?_, ?_⟩
    · have e2 : a.tmps.getD 2 undef = .pointer (some ⟨A, 0, none⟩) := h.rest 2 (by kernel_rfl)
      refine ⟨.pointer (some ⟨A, 3, none⟩), w, ?_, h.base, Or.inl (gb_refl _ _), rfl⟩
      clear h
      simp only [execOp, Act.eval, e2]
      go_simp
    refine ⟨flow_value rfl rfl fun a w h => ?_, ?_⟩
    · have e34 : a.tmps.getD 34 undef = .pointer (some ⟨A, 3, none⟩) := h.dep 34 (by kernel_rfl)
      have c := h.base.a.cell (i := 3) rfl
      refine ⟨.int .u64 x3, w, ?_, h.base, Or.inl (gb_refl _ _), rfl⟩
      clear h
      simp only [execOp, Act.eval, e34]
      go_simp
    refine ⟨flow_value rfl rfl fun a w h => ?_, ?_⟩
    · have e6 : a.tmps.getD 6 undef = .int .u64 z1 := (h.rest 6 (by kernel_rfl)).trans (congrArg (Value.int .u64) Hz1.out)
      refine ⟨.int .u64 z1, w, ?_, h.base, Or.inl (gb_refl _ _), rfl⟩
      clear h
      simp only [execOp, Act.eval, e6]
      go_simp
    refine ⟨flow_value rfl rfl fun a w h => ?_, ?_⟩
    · have e35 : a.tmps.getD 35 undef = .int .u64 x3 := h.dep 35 (by kernel_rfl)
      have e36 : a.tmps.getD 36 undef = .int .u64 z1 := h.dep 36 (by kernel_rfl)
      refine ⟨.agg #[.int .u64 x3, .int .u64 z1], w, ?_, h.base, Or.inl (gb_refl _ _), rfl⟩
      clear h
      simp only [execOp, List.map_toArray, List.map_cons, List.map_nil, Act.eval, e35, e36]
      go_simp
    refine ⟨flow_value rfl rfl fun a w h => ?_, ?_⟩
    · have e2 : a.tmps.getD 2 undef = .pointer (some ⟨A, 0, none⟩) := h.rest 2 (by kernel_rfl)
      refine ⟨.pointer (some ⟨A, 4, none⟩), w, ?_, h.base, Or.inl (gb_refl _ _), rfl⟩
      clear h
      simp only [execOp, Act.eval, e2]
      go_simp
    refine ⟨flow_value rfl rfl fun a w h => ?_, ?_⟩
    · have e38 : a.tmps.getD 38 undef = .pointer (some ⟨A, 4, none⟩) := h.dep 38 (by kernel_rfl)
      have c := h.base.a.cell (i := 4) rfl
      refine ⟨.int .u64 x4, w, ?_, h.base, Or.inl (gb_refl _ _), rfl⟩
      clear h
      simp only [execOp, Act.eval, e38]
      go_simp
    refine ⟨flow_value rfl rfl fun a w h => ?_, ?_⟩
    · have e5 : a.tmps.getD 5 undef = .int .u64 z0 := (h.rest 5 (by kernel_rfl)).trans (congrArg (Value.int .u64) Hz0.out)
      refine ⟨.int .u64 z0, w, ?_, h.base, Or.inl (gb_refl _ _), rfl⟩
      clear h
      simp only [execOp, Act.eval, e5]
      go_simp
    refine ⟨flow_value rfl rfl fun a w h => ?_, ?_⟩
    · have e39 : a.tmps.getD 39 undef = .int .u64 x4 := h.dep 39 (by kernel_rfl)
      have e40 : a.tmps.getD 40 undef = .int .u64 z0 := h.dep 40 (by kernel_rfl)
      refine ⟨.agg #[.int .u64 x4, .int .u64 z0], w, ?_, h.base, Or.inl (gb_refl _ _), rfl⟩
      clear h
      simp only [execOp, List.map_toArray, List.map_cons, List.map_nil, Act.eval, e39, e40]
      go_simp
    refine ⟨flow_value rfl rfl fun a w h => ?_, ?_⟩
    · have e25 : a.tmps.getD 25 undef = .agg #[.int .u64 x0, .int .u64 y0] := h.dep 25 (by kernel_rfl)
      have e29 : a.tmps.getD 29 undef = .agg #[.int .u64 x1, .int .u64 z3] := h.dep 29 (by kernel_rfl)
      have e33 : a.tmps.getD 33 undef = .agg #[.int .u64 x2, .int .u64 z2] := h.dep 33 (by kernel_rfl)
      have e37 : a.tmps.getD 37 undef = .agg #[.int .u64 x3, .int .u64 z1] := h.dep 37 (by kernel_rfl)
      have e41 : a.tmps.getD 41 undef = .agg #[.int .u64 x4, .int .u64 z0] := h.dep 41 (by kernel_rfl)
      obtain ⟨_, _, _, _, _, hr5⟩ := h.base.r
      have hs := hr5.lt
      refine ⟨.slice (some ⟨w.heap.size, 0, none⟩) 5 5, w.alloc (.cells #[.int .u64 x0, .int .u64 y0, .int .u64 x1, .int .u64 z3, .int .u64 x2, .int .u64 z2, .int .u64 x3, .int .u64 z1, .int .u64 x4, .int .u64 z0] 88), ?_, h.base.alloc _, Or.inl (World.grownBy_alloc _ _ _), ⟨w.heap.size, by omega, rfl, Blk.new w _ _⟩⟩
      clear h
      simp only [execOp, List.map_toArray, List.map_cons, List.map_nil, Act.eval, e25, e29, e33, e37, e41]
      go_simp
    refine ⟨flow_call rfl rfl fun a w h => ?_, ?_⟩
    · obtain ⟨PB, hne, e42, hP⟩ : ∃ PB, PB ≠ R ∧ a.tmps.getD 42 undef = .slice (some ⟨PB, 0, none⟩) 5 5 ∧ Blk w PB 88 (flat [(x0, y0), (x1, z3), (x2, z2), (x3, z1), (x4, z0)]) := h.dep 42 (by kernel_rfl)
      have hb := h.base
      refine ⟨53, #[.slice (some ⟨PB, 0, none⟩) 5 5], ?_, ?_⟩
      · clear h hb hP
        have e42x : a.tmps[42]?.getD undef = .slice (some ⟨PB, 0, none⟩) 5 5 := by simpa using e42
        clear e42
        go_simp
      · refine (sumUp_any PB 5 _ w _ rfl (by decide) hP ?_).mono ?_
        · intro p hp; simp only [List.mem_cons, List.not_mem_nil, or_false] at hp; rcases hp with rfl | rfl | rfl | rfl | rfl <;> exact ⟨by assumption, by assumption, by assumption, by assumption⟩
        · rintro e w1 ⟨rfl, hg⟩; exact ⟨_, rfl, hb.grown hg, Or.inl hg, by show sumV _ = _; rw [HS0.out]; rfl⟩
    refine ⟨flow_value rfl rfl fun a w h => ?_, ?_⟩
    · have e2 : a.tmps.getD 2 undef = .pointer (some ⟨A, 0, none⟩) := h.rest 2 (by kernel_rfl)
      refine ⟨.pointer (some ⟨A, 0, none⟩), w, ?_, h.base, Or.inl (gb_refl _ _), rfl⟩
      clear h
      simp only [execOp, Act.eval, e2]
      go_simp
    refine ⟨flow_value rfl rfl fun a w h => ?_, ?_⟩
    · have e44 : a.tmps.getD 44 undef = .pointer (some ⟨A, 0, none⟩) := h.dep 44 (by kernel_rfl)
      have c := h.base.a.cell (i := 0) rfl
      refine ⟨.int .u64 x0, w, ?_, h.base, Or.inl (gb_refl _ _), rfl⟩
      clear h
      simp only [execOp, Act.eval, e44]
      go_simp
    refine ⟨flow_value rfl rfl fun a w h => ?_, ?_⟩
    · have e3 : a.tmps.getD 3 undef = .pointer (some ⟨B, 0, none⟩) := h.rest 3 (by kernel_rfl)
      refine ⟨.pointer (some ⟨B, 1, none⟩), w, ?_, h.base, Or.inl (gb_refl _ _), rfl⟩
      clear h
      simp only [execOp, Act.eval, e3]
      go_simp
    refine ⟨flow_value rfl rfl fun a w h => ?_, ?_⟩
    · have e46 : a.tmps.getD 46 undef = .pointer (some ⟨B, 1, none⟩) := h.dep 46 (by kernel_rfl)
      have c := h.base.b.cell (i := 1) rfl
      refine ⟨.int .u64 y1, w, ?_, h.base, Or.inl (gb_refl _ _), rfl⟩
      clear h
      simp only [execOp, Act.eval, e46]
      go_simp
    refine ⟨flow_value rfl rfl fun a w h => ?_, ?_⟩
    · have e45 : a.tmps.getD 45 undef = .int .u64 x0 := h.dep 45 (by kernel_rfl)
      have e47 : a.tmps.getD 47 undef = .int .u64 y1 := h.dep 47 (by kernel_rfl)
      refine ⟨.agg #[.int .u64 x0, .int .u64 y1], w, ?_, h.base, Or.inl (gb_refl _ _), rfl⟩
      clear h
      simp only [execOp, List.map_toArray, List.map_cons, List.map_nil, Act.eval, e45, e47]
      go_simp
    refine ⟨flow_value rfl rfl fun a w h => ?_, ?_⟩
    · have e2 : a.tmps.getD 2 undef = .pointer (some ⟨A, 0, none⟩) := h.rest 2 (by kernel_rfl)
      refine ⟨.pointer (some ⟨A, 1, none⟩), w, ?_, h.base, Or.inl (gb_refl _ _), rfl⟩
      clear h
      simp only [execOp, Act.eval, e2]
      go_simp
    refine ⟨flow_value rfl rfl fun a w h => ?_, ?_⟩
    · have e49 : a.tmps.getD 49 undef = .pointer (some ⟨A, 1, none⟩) := h.dep 49 (by kernel_rfl)
      have c := h.base.a.cell (i := 1) rfl
      refine ⟨.int .u64 x1, w, ?_, h.base, Or.inl (gb_refl _ _), rfl⟩
      clear h
      simp only [execOp, Act.eval, e49]
      go_simp
    refine ⟨flow_value rfl rfl fun a w h => ?_, ?_⟩
    · have e3 : a.tmps.getD 3 undef = .pointer (some ⟨B, 0, none⟩) := h.rest 3 (by kernel_rfl)
      refine ⟨.pointer (some ⟨B, 0, none⟩), w, ?_, h.base, Or.inl (gb_refl _ _), rfl⟩
      clear h
      simp only [execOp, Act.eval, e3]
      go_simp
    refine ⟨flow_value rfl rfl fun a w h => ?_, ?_⟩
    · have e51 : a.tmps.getD 51 undef = .pointer (some ⟨B, 0, none⟩) := h.dep 51 (by kernel_rfl)
      have c := h.base.b.cell (i := 0) rfl
      refine ⟨.int .u64 y0, w, ?_, h.base, Or.inl (gb_refl _ _), rfl⟩
      clear h
      simp only [execOp, Act.eval, e51]
      go_simp
    refine ⟨flow_value rfl rfl fun a w h => ?_, ?_⟩
    · have e50 : a.tmps.getD 50 undef = .int .u64 x1 := h.dep 50 (by kernel_rfl)
      have e52 : a.tmps.getD 52 undef = .int .u64 y0 := h.dep 52 (by kernel_rfl)
      refine ⟨.agg #[.int .u64 x1, .int .u64 y0], w, ?_, h.base, Or.inl (gb_refl _ _), rfl⟩
      clear h
      simp only [execOp, List.map_toArray, List.map_cons, List.map_nil, Act.eval, e50, e52]
      go_simp
    refine ⟨flow_value rfl rfl fun a w h => ?_, ?_⟩
    · have e2 : a.tmps.getD 2 undef = .pointer (some ⟨A, 0, none⟩) := h.rest 2 (by kernel_rfl)
      refine ⟨.pointer (some ⟨A, 2, none⟩), w, ?_, h.base, Or.inl (gb_refl _ _), rfl⟩
      clear h
      simp only [execOp, Act.eval, e2]
      go_simp
    refine ⟨flow_value rfl rfl fun a w h => ?_, ?_⟩
    · have e54 : a.tmps.getD 54 undef = .pointer (some ⟨A, 2, none⟩) := h.dep 54 (by kernel_rfl)
      have c := h.base.a.cell (i := 2) rfl
      refine ⟨.int .u64 x2, w, ?_, h.base, Or.inl (gb_refl _ _), rfl⟩
      clear h
      simp only [execOp, Act.eval, e54]
      go_simp
    refine ⟨flow_value rfl rfl fun a w h => ?_, ?_⟩
    · have e8 : a.tmps.getD 8 undef = .int .u64 z3 := (h.rest 8 (by kernel_rfl)).trans (congrArg (Value.int .u64) Hz3.out)
      refine ⟨.int .u64 z3, w, ?_, h.base, Or.inl (gb_refl _ _), rfl⟩
      clear h
      simp only [execOp, Act.eval, e8]
      go_simp
    refine ⟨flow_value rfl rfl fun a w h => ?_, ?_⟩
    · have e55 : a.tmps.getD 55 undef = .int .u64 x2 := h.dep 55 (by kernel_rfl)
      have e56 : a.tmps.getD 56 undef = .int .u64 z3 := h.dep 56 (by kernel_rfl)
      refine ⟨.agg #[.int .u64 x2, .int .u64 z3], w, ?_, h.base, Or.inl (gb_refl _ _), rfl⟩
      clear h
      simp only [execOp, List.map_toArray, List.map_cons, List.map_nil, Act.eval, e55, e56]
      go_simp
    refine ⟨flow_value rfl rfl fun a w h => ?_, ?_⟩
    · have e2 : a.tmps.getD 2 undef = .pointer (some ⟨A, 0, none⟩) := h.rest 2 (by kernel_rfl)
      refine ⟨.pointer (some ⟨A, 3, none⟩), w, ?_, h.base, Or.inl (gb_refl _ _), rfl⟩
      clear h
      simp only [execOp, Act.eval, e2]
      go_simp
    refine ⟨flow_value rfl rfl fun a w h => ?_, ?_⟩
    · have e58 : a.tmps.getD 58 undef = .pointer (some ⟨A, 3, none⟩) := h.dep 58 (by kernel_rfl)
      have c := h.base.a.cell (i := 3) rfl
      refine ⟨.int .u64 x3, w, ?_, h.base, Or.inl (gb_refl _ _), rfl⟩
      clear h
      simp only [execOp, Act.eval, e58]
      go_simp
    refine ⟨flow_value rfl rfl fun a w h => ?_, ?_⟩
    · have e7 : a.tmps.getD 7 undef = .int .u64 z2 := (h.rest 7 (by kernel_rfl)).trans (congrArg (Value.int .u64) Hz2.out)
      refine ⟨.int .u64 z2, w, ?_, h.base, Or.inl (gb_refl _ _), rfl⟩
      clear h
      simp only [execOp, Act.eval, e7]
      go_simp
    refine ⟨flow_value rfl rfl fun a w h => ?_, ?_⟩
    · have e59 : a.tmps.getD 59 undef = .int .u64 x3 := h.dep 59 (by kernel_rfl)
      have e60 : a.tmps.getD 60 undef = .int .u64 z2 := h.dep 60 (by kernel_rfl)
      refine ⟨.agg #[.int .u64 x3, .int .u64 z2], w, ?_, h.base, Or.inl (gb_refl _ _), rfl⟩
      clear h
      simp only [execOp, List.map_toArray, List.map_cons, List.map_nil, Act.eval, e59, e60]
      go_simp
    refine ⟨flow_value rfl rfl fun a w h => ?_, ?_⟩
    · have e2 : a.tmps.getD 2 undef = .pointer (some ⟨A, 0, none⟩) := h.rest 2 (by kernel_rfl)
      refine ⟨.pointer (some ⟨A, 4, none⟩), w, ?_, h.base, Or.inl (gb_refl _ _), rfl⟩
      clear h
      simp only [execOp, Act.eval, e2]
      go_simp
    refine ⟨flow_value rfl rfl fun a w h => ?_, ?_⟩
    · have e62 : a.tmps.getD 62 undef = .pointer (some ⟨A, 4, none⟩) := h.dep 62 (by kernel_rfl)
      have c := h.base.a.cell (i := 4) rfl
      refine ⟨.int .u64 x4, w, ?_, h.base, Or.inl (gb_refl _ _), rfl⟩
      clear h
      simp only [execOp, Act.eval, e62]
      go_simp
    refine ⟨flow_value rfl rfl fun a w h => ?_, ?_⟩
    · have e6 : a.tmps.getD 6 undef = .int .u64 z1 := (h.rest 6 (by kernel_rfl)).trans (congrArg (Value.int .u64) Hz1.out)
      refine ⟨.int .u64 z1, w, ?_, h.base, Or.inl (gb_refl _ _), rfl⟩
      clear h
      simp only [execOp, Act.eval, e6]
      go_simp
    refine ⟨flow_value rfl rfl fun a w h => ?_, ?_⟩
    · have e63 : a.tmps.getD 63 undef = .int .u64 x4 := h.dep 63 (by kernel_rfl)
      have e64 : a.tmps.getD 64 undef = .int .u64 z1 := h.dep 64 (by kernel_rfl)
      refine ⟨.agg #[.int .u64 x4, .int .u64 z1], w, ?_, h.base, Or.inl (gb_refl _ _), rfl⟩
      clear h
      simp only [execOp, List.map_toArray, List.map_cons, List.map_nil, Act.eval, e63, e64]
      go_simp
    refine ⟨flow_value rfl rfl fun a w h => ?_, ?_⟩
    · have e48 : a.tmps.getD 48 undef = .agg #[.int .u64 x0, .int .u64 y1] := h.dep 48 (by kernel_rfl)
      have e53 : a.tmps.getD 53 undef = .agg #[.int .u64 x1, .int .u64 y0] := h.dep 53 (by kernel_rfl)
      have e57 : a.tmps.getD 57 undef = .agg #[.int .u64 x2, .int .u64 z3] := h.dep 57 (by kernel_rfl)
      have e61 : a.tmps.getD 61 undef = .agg #[.int .u64 x3, .int .u64 z2] := h.dep 61 (by kernel_rfl)
      have e65 : a.tmps.getD 65 undef = .agg #[.int .u64 x4, .int .u64 z1] := h.dep 65 (by kernel_rfl)
      obtain ⟨_, _, _, _, _, hr5⟩ := h.base.r
      have hs := hr5.lt
      refine ⟨.slice (some ⟨w.heap.size, 0, none⟩) 5 5, w.alloc (.cells #[.int .u64 x0, .int .u64 y1, .int .u64 x1, .int .u64 y0, .int .u64 x2, .int .u64 z3, .int .u64 x3, .int .u64 z2, .int .u64 x4, .int .u64 z1] 88), ?_, h.base.alloc _, Or.inl (World.grownBy_alloc _ _ _), ⟨w.heap.size, by omega, rfl, Blk.new w _ _⟩⟩
      clear h
      simp only [execOp, List.map_toArray, List.map_cons, List.map_nil, Act.eval, e48, e53, e57, e61, e65]
      go_simp
    refine ⟨flow_call rfl rfl fun a w h => ?_, ?_⟩
    · obtain ⟨PB, hne, e66, hP⟩ : ∃ PB, PB ≠ R ∧ a.tmps.getD 66 undef = .slice (some ⟨PB, 0, none⟩) 5 5 ∧ Blk w PB 88 (flat [(x0, y1), (x1, y0), (x2, z3), (x3, z2), (x4, z1)]) := h.dep 66 (by kernel_rfl)
      have hb := h.base
      refine ⟨53, #[.slice (some ⟨PB, 0, none⟩) 5 5], ?_, ?_⟩
      · clear h hb hP
        have e66x : a.tmps[66]?.getD undef = .slice (some ⟨PB, 0, none⟩) 5 5 := by simpa using e66
        clear e66
        go_simp
      · refine (sumUp_any PB 5 _ w _ rfl (by decide) hP ?_).mono ?_
        · intro p hp; simp only [List.mem_cons, List.not_mem_nil, or_false] at hp; rcases hp with rfl | rfl | rfl | rfl | rfl <;> exact ⟨by assumption, by assumption, by assumption, by assumption⟩
        · rintro e w1 ⟨rfl, hg⟩; exact ⟨_, rfl, hb.grown hg, Or.inl hg, by show sumV _ = _; rw [HS1.out]; rfl⟩
    refine ⟨flow_value rfl rfl fun a w h => ?_, ?_⟩
    · have e2 : a.tmps.getD 2 undef = .pointer (some ⟨A, 0, none⟩) := h.rest 2 (by kernel_rfl)
      refine ⟨.pointer (some ⟨A, 0, none⟩), w, ?_, h.base, Or.inl (gb_refl _ _), rfl⟩
      clear h
      simp only [execOp, Act.eval, e2]
      go_simp
    refine ⟨flow_value rfl rfl fun a w h => ?_, ?_⟩
    · have e68 : a.tmps.getD 68 undef = .pointer (some ⟨A, 0, none⟩) := h.dep 68 (by kernel_rfl)
      have c := h.base.a.cell (i := 0) rfl
      refine ⟨.int .u64 x0, w, ?_, h.base, Or.inl (gb_refl _ _), rfl⟩
      clear h
      simp only [execOp, Act.eval, e68]
      go_simp
    refine ⟨flow_value rfl rfl fun a w h => ?_, ?_⟩
    · have e3 : a.tmps.getD 3 undef = .pointer (some ⟨B, 0, none⟩) := h.rest 3 (by kernel_rfl)
      refine ⟨.pointer (some ⟨B, 2, none⟩), w, ?_, h.base, Or.inl (gb_refl _ _), rfl⟩
      clear h
      simp only [execOp, Act.eval, e3]
      go_simp
    refine ⟨flow_value rfl rfl fun a w h => ?_, ?_⟩
    · have e70 : a.tmps.getD 70 undef = .pointer (some ⟨B, 2, none⟩) := h.dep 70 (by kernel_rfl)
      have c := h.base.b.cell (i := 2) rfl
      refine ⟨.int .u64 y2, w, ?_, h.base, Or.inl (gb_refl _ _), rfl⟩
      clear h
      simp only [execOp, Act.eval, e70]
      go_simp
    refine ⟨flow_value rfl rfl fun a w h => ?_, ?_⟩
    · have e69 : a.tmps.getD 69 undef = .int .u64 x0 := h.dep 69 (by kernel_rfl)
      have e71 : a.tmps.getD 71 undef = .int .u64 y2 := h.dep 71 (by kernel_rfl)
      refine ⟨.agg #[.int .u64 x0, .int .u64 y2], w, ?_, h.base, Or.inl (gb_refl _ _), rfl⟩
      clear h
      simp only [execOp, List.map_toArray, List.map_cons, List.map_nil, Act.eval, e69, e71]
      go_simp
    refine ⟨flow_value rfl rfl fun a w h => ?_, ?_⟩
    · have e2 : a.tmps.getD 2 undef = .pointer (some ⟨A, 0, none⟩) := h.rest 2 (by kernel_rfl)
      refine ⟨.pointer (some ⟨A, 1, none⟩), w, ?_, h.base, Or.inl (gb_refl _ _), rfl⟩
      clear h
      simp only [execOp, Act.eval, e2]
      go_simp
    refine ⟨flow_value rfl rfl fun a w h => ?_, ?_⟩
    · have e73 : a.tmps.getD 73 undef = .pointer (some ⟨A, 1, none⟩) := h.dep 73 (by kernel_rfl)
      have c := h.base.a.cell (i := 1) rfl
      refine ⟨.int .u64 x1, w, ?_, h.base, Or.inl (gb_refl _ _), rfl⟩
      clear h
      simp only [execOp, Act.eval, e73]
      go_simp
    refine ⟨flow_value rfl rfl fun a w h => ?_, ?_⟩
    · have e3 : a.tmps.getD 3 undef = .pointer (some ⟨B, 0, none⟩) := h.rest 3 (by kernel_rfl)
      refine ⟨.pointer (some ⟨B, 1, none⟩), w, ?_, h.base, Or.inl (gb_refl _ _), rfl⟩
      clear h
      simp only [execOp, Act.eval, e3]
      go_simp
    refine ⟨flow_value rfl rfl fun a w h => ?_, ?_⟩
    · have e75 : a.tmps.getD 75 undef = .pointer (some ⟨B, 1, none⟩) := h.dep 75 (by kernel_rfl)
      have c := h.base.b.cell (i := 1) rfl
      refine ⟨.int .u64 y1, w, ?_, h.base, Or.inl (gb_refl _ _), rfl⟩
      clear h
      simp only [execOp, Act.eval, e75]
      go_simp
    refine ⟨flow_value rfl rfl fun a w h => ?_, ?_⟩
    · have e74 : a.tmps.getD 74 undef = .int .u64 x1 := h.dep 74 (by kernel_rfl)
      have e76 : a.tmps.getD 76 undef = .int .u64 y1 := h.dep 76 (by kernel_rfl)
      refine ⟨.agg #[.int .u64 x1, .int .u64 y1], w, ?_, h.base, Or.inl (gb_refl _ _), rfl⟩
      clear h
      simp only [execOp, List.map_toArray, List.map_cons, List.map_nil, Act.eval, e74, e76]
      go_simp
    refine ⟨flow_value rfl rfl fun a w h => ?_, ?_⟩
    · have e2 : a.tmps.getD 2 undef = .pointer (some ⟨A, 0, none⟩) := h.rest 2 (by kernel_rfl)
      refine ⟨.pointer (some ⟨A, 2, none⟩), w, ?_, h.base, Or.inl (gb_refl _ _), rfl⟩
      clear h
      simp only [execOp, Act.eval, e2]
      go_simp
    refine ⟨flow_value rfl rfl fun a w h => ?_, ?_⟩
    · have e78 : a.tmps.getD 78 undef = .pointer (some ⟨A, 2, none⟩) := h.dep 78 (by kernel_rfl)
      have c := h.base.a.cell (i := 2) rfl
      refine ⟨.int .u64 x2, w, ?_, h.base, Or.inl (gb_refl _ _), rfl⟩
      clear h
      simp only [execOp, Act.eval, e78]
      go_simp
    refine ⟨flow_value rfl rfl fun a w h => ?_, ?_⟩
    · have e3 : a.tmps.getD 3 undef = .pointer (some ⟨B, 0, none⟩) := h.rest 3 (by kernel_rfl)
      refine ⟨.pointer (some ⟨B, 0, none⟩), w, ?_, h.base, Or.inl (gb_refl _ _), rfl⟩
      clear h
      simp only [execOp, Act.eval, e3]
      go_simp
    refine ⟨flow_value rfl rfl fun a w h => ?_, ?_⟩
    · have e80 : a.tmps.getD 80 undef = .pointer (some ⟨B, 0, none⟩) := h.dep 80 (by kernel_rfl)
      have c := h.base.b.cell (i := 0) rfl
      refine ⟨.int .u64 y0, w, ?_, h.base, Or.inl (gb_refl _ _), rfl⟩
      clear h
      simp only [execOp, Act.eval, e80]
      go_simp
    refine ⟨flow_value rfl rfl fun a w h => ?_, ?_⟩
    · have e79 : a.tmps.getD 79 undef = .int .u64 x2 := h.dep 79 (by kernel_rfl)
      have e81 : a.tmps.getD 81 undef = .int .u64 y0 := h.dep 81 (by kernel_rfl)
      refine ⟨.agg #[.int .u64 x2, .int .u64 y0], w, ?_, h.base, Or.inl (gb_refl _ _), rfl⟩
      clear h
      simp only [execOp, List.map_toArray, List.map_cons, List.map_nil, Act.eval, e79, e81]
      go_simp
    refine ⟨flow_value rfl rfl fun a w h => ?_, ?_⟩
    · have e2 : a.tmps.getD 2 undef = .pointer (some ⟨A, 0, none⟩) := h.rest 2 (by kernel_rfl)
      refine ⟨.pointer (some ⟨A, 3, none⟩), w, ?_, h.base, Or.inl (gb_refl _ _), rfl⟩
      clear h
      simp only [execOp, Act.eval, e2]
      go_simp
    refine ⟨flow_value rfl rfl fun a w h => ?_, ?_⟩
    · have e83 : a.tmps.getD 83 undef = .pointer (some ⟨A, 3, none⟩) := h.dep 83 (by kernel_rfl)
      have c := h.base.a.cell (i := 3) rfl
      refine ⟨.int .u64 x3, w, ?_, h.base, Or.inl (gb_refl _ _), rfl⟩
      clear h
      simp only [execOp, Act.eval, e83]
      go_simp
    refine ⟨flow_value rfl rfl fun a w h => ?_, ?_⟩
    · have e8 : a.tmps.getD 8 undef = .int .u64 z3 := (h.rest 8 (by kernel_rfl)).trans (congrArg (Value.int .u64) Hz3.out)
      refine ⟨.int .u64 z3, w, ?_, h.base, Or.inl (gb_refl _ _), rfl⟩
      clear h
      simp only [execOp, Act.eval, e8]
      go_simp
    refine ⟨flow_value rfl rfl fun a w h => ?_, ?_⟩
    · have e84 : a.tmps.getD 84 undef = .int .u64 x3 := h.dep 84 (by kernel_rfl)
      have e85 : a.tmps.getD 85 undef = .int .u64 z3 := h.dep 85 (by kernel_rfl)
      refine ⟨.agg #[.int .u64 x3, .int .u64 z3], w, ?_, h.base, Or.inl (gb_refl _ _), rfl⟩
      clear h
      simp only [execOp, List.map_toArray, List.map_cons, List.map_nil, Act.eval, e84, e85]
      go_simp
    refine ⟨flow_value rfl rfl fun a w h => ?_, ?_⟩
    · have e2 : a.tmps.getD 2 undef = .pointer (some ⟨A, 0, none⟩) := h.rest 2 (by kernel_rfl)
      refine ⟨.pointer (some ⟨A, 4, none⟩), w, ?_, h.base, Or.inl (gb_refl _ _), rfl⟩
      clear h
      simp only [execOp, Act.eval, e2]
      go_simp
    refine ⟨flow_value rfl rfl fun a w h => ?_, ?_⟩
    · have e87 : a.tmps.getD 87 undef = .pointer (some ⟨A, 4, none⟩) := h.dep 87 (by kernel_rfl)
      have c := h.base.a.cell (i := 4) rfl
      refine ⟨.int .u64 x4, w, ?_, h.base, Or.inl (gb_refl _ _), rfl⟩
      clear h
      simp only [execOp, Act.eval, e87]
      go_simp
    refine ⟨flow_value rfl rfl fun a w h => ?_, ?_⟩
    · have e7 : a.tmps.getD 7 undef = .int .u64 z2 := (h.rest 7 (by kernel_rfl)).trans (congrArg (Value.int .u64) Hz2.out)
      refine ⟨.int .u64 z2, w, ?_, h.base, Or.inl (gb_refl _ _), rfl⟩
      clear h
      simp only [execOp, Act.eval, e7]
      go_simp
    refine ⟨flow_value rfl rfl fun a w h => ?_, ?_⟩
    · have e88 : a.tmps.getD 88 undef = .int .u64 x4 := h.dep 88 (by kernel_rfl)
      have e89 : a.tmps.getD 89 undef = .int .u64 z2 := h.dep 89 (by kernel_rfl)
      refine ⟨.agg #[.int .u64 x4, .int .u64 z2], w, ?_, h.base, Or.inl (gb_refl _ _), rfl⟩
      clear h
      simp only [execOp, List.map_toArray, List.map_cons, List.map_nil, Act.eval, e88, e89]
      go_simp
    refine ⟨flow_value rfl rfl fun a w h => ?_, ?_⟩
    · have e72 : a.tmps.getD 72 undef = .agg #[.int .u64 x0, .int .u64 y2] := h.dep 72 (by kernel_rfl)
      have e77 : a.tmps.getD 77 undef = .agg #[.int .u64 x1, .int .u64 y1] := h.dep 77 (by kernel_rfl)
      have e82 : a.tmps.getD 82 undef = .agg #[.int .u64 x2, .int .u64 y0] := h.dep 82 (by kernel_rfl)
      have e86 : a.tmps.getD 86 undef = .agg #[.int .u64 x3, .int .u64 z3] := h.dep 86 (by kernel_rfl)
      have e90 : a.tmps.getD 90 undef = .agg #[.int .u64 x4, .int .u64 z2] := h.dep 90 (by kernel_rfl)
      obtain ⟨_, _, _, _, _, hr5⟩ := h.base.r
      have hs := hr5.lt
      refine ⟨.slice (some ⟨w.heap.size, 0, none⟩) 5 5, w.alloc (.cells #[.int .u64 x0, .int .u64 y2, .int .u64 x1, .int .u64 y1, .int .u64 x2, .int .u64 y0, .int .u64 x3, .int .u64 z3, .int .u64 x4, .int .u64 z2] 88), ?_, h.base.alloc _, Or.inl (World.grownBy_alloc _ _ _), ⟨w.heap.size, by omega, rfl, Blk.new w _ _⟩⟩
      clear h
      simp only [execOp, List.map_toArray, List.map_cons, List.map_nil, Act.eval, e72, e77, e82, e86, e90]
      go_simp
    refine ⟨flow_call rfl rfl fun a w h => ?_, ?_⟩
    · obtain ⟨PB, hne, e91, hP⟩ : ∃ PB, PB ≠ R ∧ a.tmps.getD 91 undef = .slice (some ⟨PB, 0, none⟩) 5 5 ∧ Blk w PB 88 (flat [(x0, y2), (x1, y1), (x2, y0), (x3, z3), (x4, z2)]) := h.dep 91 (by kernel_rfl)
      have hb := h.base
      refine ⟨53, #[.slice (some ⟨PB, 0, none⟩) 5 5], ?_, ?_⟩
      · clear h hb hP
        have e91x : a.tmps[91]?.getD undef = .slice (some ⟨PB, 0, none⟩) 5 5 := by simpa using e91
        clear e91
        go_simp
      · refine (sumUp_any PB 5 _ w _ rfl (by decide) hP ?_).mono ?_
        · intro p hp; simp only [List.mem_cons, List.not_mem_nil, or_false] at hp; rcases hp with rfl | rfl | rfl | rfl | rfl <;> exact ⟨by assumption, by assumption, by assumption, by assumption⟩
        · rintro e w1 ⟨rfl, hg⟩; exact ⟨_, rfl, hb.grown hg, Or.inl hg, by show sumV _ = _; rw [HS2.out]; rfl⟩
    refine ⟨flow_value rfl rfl fun a w h => ?_, ?_⟩
    · have e2 : a.tmps.getD 2 undef = .pointer (some ⟨A, 0, none⟩) := h.rest 2 (by kernel_rfl)
      refine ⟨.pointer (some ⟨A, 0, none⟩), w, ?_, h.base, Or.inl (gb_refl _ _), rfl⟩
      clear h
      simp only [execOp, Act.eval, e2]
      go_simp
    refine ⟨flow_value rfl rfl fun a w h => ?_, ?_⟩
    · have e93 : a.tmps.getD 93 undef = .pointer (some ⟨A, 0, none⟩) := h.dep 93 (by kernel_rfl)
      have c := h.base.a.cell (i := 0) rfl
      refine ⟨.int .u64 x0, w, ?_, h.base, Or.inl (gb_refl _ _), rfl⟩
      clear h
      simp only [execOp, Act.eval, e93]
      go_simp
    refine ⟨flow_value rfl rfl fun a w h => ?_, ?_⟩
    · have e3 : a.tmps.getD 3 undef = .pointer (some ⟨B, 0, none⟩) := h.rest 3 (by kernel_rfl)
      refine ⟨.pointer (some ⟨B, 3, none⟩), w, ?_, h.base, Or.inl (gb_refl _ _), rfl⟩
      clear h
      simp only [execOp, Act.eval, e3]
      go_simp
    refine ⟨flow_value rfl rfl fun a w h => ?_, ?_⟩
    · have e95 : a.tmps.getD 95 undef = .pointer (some ⟨B, 3, none⟩) := h.dep 95 (by kernel_rfl)
      have c := h.base.b.cell (i := 3) rfl
      refine ⟨.int .u64 y3, w, ?_, h.base, Or.inl (gb_refl _ _), rfl⟩
      clear h
      simp only [execOp, Act.eval, e95]
      go_simp
    refine ⟨flow_value rfl rfl fun a w h => ?_, ?_⟩
    · have e94 : a.tmps.getD 94 undef = .int .u64 x0 := h.dep 94 (by kernel_rfl)
      have e96 : a.tmps.getD 96 undef = .int .u64 y3 := h.dep 96 (by kernel_rfl)
      refine ⟨.agg #[.int .u64 x0, .int .u64 y3], w, ?_, h.base, Or.inl (gb_refl _ _), rfl⟩
      clear h
      simp only [execOp, List.map_toArray, List.map_cons, List.map_nil, Act.eval, e94, e96]
      go_simp
    refine ⟨flow_value rfl rfl fun a w h => ?_, ?_⟩
    · have e2 : a.tmps.getD 2 undef = .pointer (some ⟨A, 0, none⟩) := h.rest 2 (by kernel_rfl)
      refine ⟨.pointer (some ⟨A, 1, none⟩), w, ?_, h.base, Or.inl (gb_refl _ _), rfl⟩
      clear h
      simp only [execOp, Act.eval, e2]
      go_simp
    refine ⟨flow_value rfl rfl fun a w h => ?_, ?_⟩
    · have e98 : a.tmps.getD 98 undef = .pointer (some ⟨A, 1, none⟩) := h.dep 98 (by kernel_rfl)
      have c := h.base.a.cell (i := 1) rfl
      refine ⟨.int .u64 x1, w, ?_, h.base, Or.inl (gb_refl _ _), rfl⟩
      clear h
      simp only [execOp, Act.eval, e98]
      go_simp
    refine ⟨flow_value rfl rfl fun a w h => ?_, ?_⟩
    · have e3 : a.tmps.getD 3 undef = .pointer (some ⟨B, 0, none⟩) := h.rest 3 (by kernel_rfl)
      refine ⟨.pointer (some ⟨B, 2, none⟩), w, ?_, h.base, Or.inl (gb_refl _ _), rfl⟩
      clear h
      simp only [execOp, Act.eval, e3]
      go_simp
    refine ⟨flow_value rfl rfl fun a w h => ?_, ?_⟩
    · have e100 : a.tmps.getD 100 undef = .pointer (some ⟨B, 2, none⟩) := h.dep 100 (by kernel_rfl)
      have c := h.base.b.cell (i := 2) rfl
      refine ⟨.int .u64 y2, w, ?_, h.base, Or.inl (gb_refl _ _), rfl⟩
      clear h
      simp only [execOp, Act.eval, e100]
      go_simp
    refine ⟨flow_value rfl rfl fun a w h => ?_, ?_⟩
    · have e99 : a.tmps.getD 99 undef = .int .u64 x1 := h.dep 99 (by kernel_rfl)
      have e101 : a.tmps.getD 101 undef = .int .u64 y2 := h.dep 101 (by kernel_rfl)
      refine ⟨.agg #[.int .u64 x1, .int .u64 y2], w, ?_, h.base, Or.inl (gb_refl _ _), rfl⟩
      clear h
      simp only [execOp, List.map_toArray, List.map_cons, List.map_nil, Act.eval, e99, e101]
      go_simp
    refine ⟨flow_value rfl rfl fun a w h => ?_, ?_⟩
    · have e2 : a.tmps.getD 2 undef = .pointer (some ⟨A, 0, none⟩) := h.rest 2 (by kernel_rfl)
      refine ⟨.pointer (some ⟨A, 2, none⟩), w, ?_, h.base, Or.inl (gb_refl _ _), rfl⟩
      clear h
      simp only [execOp, Act.eval, e2]
      go_simp
    refine ⟨flow_value rfl rfl fun a w h => ?_, ?_⟩
    · have e103 : a.tmps.getD 103 undef = .pointer (some ⟨A, 2, none⟩) := h.dep 103 (by kernel_rfl)
      have c := h.base.a.cell (i := 2) rfl
      refine ⟨.int .u64 x2, w, ?_, h.base, Or.inl (gb_refl _ _), rfl⟩
      clear h
      simp only [execOp, Act.eval, e103]
      go_simp
    refine ⟨flow_value rfl rfl fun a w h => ?_, ?_⟩
    · have e3 : a.tmps.getD 3 undef = .pointer (some ⟨B, 0, none⟩) := h.rest 3 (by kernel_rfl)
      refine ⟨.pointer (some ⟨B, 1, none⟩), w, ?_, h.base, Or.inl (gb_refl _ _), rfl⟩
      clear h
      simp only [execOp, Act.eval, e3]
      go_simp
    refine ⟨flow_value rfl rfl fun a w h => ?_, ?_⟩
    · have e105 : a.tmps.getD 105 undef = .pointer (some ⟨B, 1, none⟩) := h.dep 105 (by kernel_rfl)
      have c := h.base.b.cell (i := 1) rfl
      refine ⟨.int .u64 y1, w, ?_, h.base, Or.inl (gb_refl _ _), rfl⟩
      clear h
      simp only [execOp, Act.eval, e105]
      go_simp
    refine ⟨flow_value rfl rfl fun a w h => ?_, ?_⟩
    · have e104 : a.tmps.getD 104 undef = .int .u64 x2 := h.dep 104 (by kernel_rfl)
      have e106 : a.tmps.getD 106 undef = .int .u64 y1 := h.dep 106 (by kernel_rfl)
      refine ⟨.agg #[.int .u64 x2, .int .u64 y1], w, ?_, h.base, Or.inl (gb_refl _ _), rfl⟩
      clear h
      simp only [execOp, List.map_toArray, List.map_cons, List.map_nil, Act.eval, e104, e106]
      go_simp
    refine ⟨flow_value rfl rfl fun a w h => ?_, ?_⟩
    · have e2 : a.tmps.getD 2 undef = .pointer (some ⟨A, 0, none⟩) := h.rest 2 (by kernel_rfl)
      refine ⟨.pointer (some ⟨A, 3, none⟩), w, ?_, h.base, Or.inl (gb_refl _ _), rfl⟩
      clear h
      simp only [execOp, Act.eval, e2]
      go_simp
    refine ⟨flow_value rfl rfl fun a w h => ?_, ?_⟩
    · have e108 : a.tmps.getD 108 undef = .pointer (some ⟨A, 3, none⟩) := h.dep 108 (by kernel_rfl)
      have c := h.base.a.cell (i := 3) rfl
      refine ⟨.int .u64 x3, w, ?_, h.base, Or.inl (gb_refl _ _), rfl⟩
      clear h
      simp only [execOp, Act.eval, e108]
      go_simp
    refine ⟨flow_value rfl rfl fun a w h => ?_, ?_⟩
    · have e3 : a.tmps.getD 3 undef = .pointer (some ⟨B, 0, none⟩) := h.rest 3 (by kernel_rfl)
      refine ⟨.pointer (some ⟨B, 0, none⟩), w, ?_, h.base, Or.inl (gb_refl _ _), rfl⟩
      clear h
      simp only [execOp, Act.eval, e3]
      go_simp
    refine ⟨flow_value rfl rfl fun a w h => ?_, ?_⟩
    · have e110 : a.tmps.getD 110 undef = .pointer (some ⟨B, 0, none⟩) := h.dep 110 (by kernel_rfl)
      have c := h.base.b.cell (i := 0) rfl
      refine ⟨.int .u64 y0, w, ?_, h.base, Or.inl (gb_refl _ _), rfl⟩
      clear h
      simp only [execOp, Act.eval, e110]
      go_simp
    refine ⟨flow_value rfl rfl fun a w h => ?_, ?_⟩
    · have e109 : a.tmps.getD 109 undef = .int .u64 x3 := h.dep 109 (by kernel_rfl)
      have e111 : a.tmps.getD 111 undef = .int .u64 y0 := h.dep 111 (by kernel_rfl)
      refine ⟨.agg #[.int .u64 x3, .int .u64 y0], w, ?_, h.base, Or.inl (gb_refl _ _), rfl⟩
      clear h
      simp only [execOp, List.map_toArray, List.map_cons, List.map_nil, Act.eval, e109, e111]
      go_simp
    refine ⟨flow_value rfl rfl fun a w h => ?_, ?_⟩
    · have e2 : a.tmps.getD 2 undef = .pointer (some ⟨A, 0, none⟩) := h.rest 2 (by kernel_rfl)
      refine ⟨.pointer (some ⟨A, 4, none⟩), w, ?_, h.base, Or.inl (gb_refl _ _), rfl⟩
      clear h
      simp only [execOp, Act.eval, e2]
      go_simp
    refine ⟨flow_value rfl rfl fun a w h => ?_, ?_⟩
    · have e113 : a.tmps.getD 113 undef = .pointer (some ⟨A, 4, none⟩) := h.dep 113 (by kernel_rfl)
      have c := h.base.a.cell (i := 4) rfl
      refine ⟨.int .u64 x4, w, ?_, h.base, Or.inl (gb_refl _ _), rfl⟩
      clear h
      simp only [execOp, Act.eval, e113]
      go_simp
    refine ⟨flow_value rfl rfl fun a w h => ?_, ?_⟩
    · have e8 : a.tmps.getD 8 undef = .int .u64 z3 := (h.rest 8 (by kernel_rfl)).trans (congrArg (Value.int .u64) Hz3.out)
      refine ⟨.int .u64 z3, w, ?_, h.base, Or.inl (gb_refl _ _), rfl⟩
      clear h
      simp only [execOp, Act.eval, e8]
      go_simp
    refine ⟨flow_value rfl rfl fun a w h => ?_, ?_⟩
    · have e114 : a.tmps.getD 114 undef = .int .u64 x4 := h.dep 114 (by kernel_rfl)
      have e115 : a.tmps.getD 115 undef = .int .u64 z3 := h.dep 115 (by kernel_rfl)
      refine ⟨.agg #[.int .u64 x4, .int .u64 z3], w, ?_, h.base, Or.inl (gb_refl _ _), rfl⟩
      clear h
      simp only [execOp, List.map_toArray, List.map_cons, List.map_nil, Act.eval, e114, e115]
      go_simp
    refine ⟨flow_value rfl rfl fun a w h => ?_, ?_⟩
    · have e97 : a.tmps.getD 97 undef = .agg #[.int .u64 x0, .int .u64 y3] := h.dep 97 (by kernel_rfl)
      have e102 : a.tmps.getD 102 undef = .agg #[.int .u64 x1, .int .u64 y2] := h.dep 102 (by kernel_rfl)
      have e107 : a.tmps.getD 107 undef = .agg #[.int .u64 x2, .int .u64 y1] := h.dep 107 (by kernel_rfl)
      have e112 : a.tmps.getD 112 undef = .agg #[.int .u64 x3, .int .u64 y0] := h.dep 112 (by kernel_rfl)
      have e116 : a.tmps.getD 116 undef = .agg #[.int .u64 x4, .int .u64 z3] := h.dep 116 (by kernel_rfl)
      obtain ⟨_, _, _, _, _, hr5⟩ := h.base.r
      have hs := hr5.lt
      refine ⟨.slice (some ⟨w.heap.size, 0, none⟩) 5 5, w.alloc (.cells #[.int .u64 x0, .int .u64 y3, .int .u64 x1, .int .u64 y2, .int .u64 x2, .int .u64 y1, .int .u64 x3, .int .u64 y0, .int .u64 x4, .int .u64 z3] 88), ?_, h.base.alloc _, Or.inl (World.grownBy_alloc _ _ _), ⟨w.heap.size, by omega, rfl, Blk.new w _ _⟩⟩
      clear h
      simp only [execOp, List.map_toArray, List.map_cons, List.map_nil, Act.eval, e97, e102, e107, e112, e116]
      go_simp
    refine ⟨flow_call rfl rfl fun a w h => ?_, ?_⟩
    · obtain ⟨PB, hne, e117, hP⟩ : ∃ PB, PB ≠ R ∧ a.tmps.getD 117 undef = .slice (some ⟨PB, 0, none⟩) 5 5 ∧ Blk w PB 88 (flat [(x0, y3), (x1, y2), (x2, y1), (x3, y0), (x4, z3)]) := h.dep 117 (by kernel_rfl)
      have hb := h.base
      refine ⟨53, #[.slice (some ⟨PB, 0, none⟩) 5 5], ?_, ?_⟩
      · clear h hb hP
        have e117x : a.tmps[117]?.getD undef = .slice (some ⟨PB, 0, none⟩) 5 5 := by simpa using e117
        clear e117
        go_simp
      · refine (sumUp_any PB 5 _ w _ rfl (by decide) hP ?_).mono ?_
        · intro p hp; simp only [List.mem_cons, List.not_mem_nil, or_false] at hp; rcases hp with rfl | rfl | rfl | rfl | rfl <;> exact ⟨by assumption, by assumption, by assumption, by assumption⟩
        · rintro e w1 ⟨rfl, hg⟩; exact ⟨_, rfl, hb.grown hg, Or.inl hg, by show sumV _ = _; rw [HS3.out]; rfl⟩
    refine ⟨flow_value rfl rfl fun a w h => ?_, ?_⟩
    · have e2 : a.tmps.getD 2 undef = .pointer (some ⟨A, 0, none⟩) := h.rest 2 (by kernel_rfl)
      refine ⟨.pointer (some ⟨A, 0, none⟩), w, ?_, h.base, Or.inl (gb_refl _ _), rfl⟩
      clear h
      simp only [execOp, Act.eval, e2]
      go_simp
    refine ⟨flow_value rfl rfl fun a w h => ?_, ?_⟩
    · have e119 : a.tmps.getD 119 undef = .pointer (some ⟨A, 0, none⟩) := h.dep 119 (by kernel_rfl)
      have c := h.base.a.cell (i := 0) rfl
      refine ⟨.int .u64 x0, w, ?_, h.base, Or.inl (gb_refl _ _), rfl⟩
      clear h
      simp only [execOp, Act.eval, e119]
      go_simp
    refine ⟨flow_value rfl rfl fun a w h => ?_, ?_⟩
    · have e3 : a.tmps.getD 3 undef = .pointer (some ⟨B, 0, none⟩) := h.rest 3 (by kernel_rfl)
      refine ⟨.pointer (some ⟨B, 4, none⟩), w, ?_, h.base, Or.inl (gb_refl _ _), rfl⟩
      clear h
      simp only [execOp, Act.eval, e3]
      go_simp
    refine ⟨flow_value rfl rfl fun a w h => ?_, ?_⟩
    · have e121 : a.tmps.getD 121 undef = .pointer (some ⟨B, 4, none⟩) := h.dep 121 (by kernel_rfl)
      have c := h.base.b.cell (i := 4) rfl
      refine ⟨.int .u64 y4, w, ?_, h.base, Or.inl (gb_refl _ _), rfl⟩
      clear h
      simp only [execOp, Act.eval, e121]
      go_simp
    refine ⟨flow_value rfl rfl fun a w h => ?_, ?_⟩
    · have e120 : a.tmps.getD 120 undef = .int .u64 x0 := h.dep 120 (by kernel_rfl)
      have e122 : a.tmps.getD 122 undef = .int .u64 y4 := h.dep 122 (by kernel_rfl)
      refine ⟨.agg #[.int .u64 x0, .int .u64 y4], w, ?_, h.base, Or.inl (gb_refl _ _), rfl⟩
      clear h
      simp only [execOp, List.map_toArray, List.map_cons, List.map_nil, Act.eval, e120, e122]
      go_simp
    refine ⟨flow_value rfl rfl fun a w h => ?_, ?_⟩
    · have e2 : a.tmps.getD 2 undef = .pointer (some ⟨A, 0, none⟩) := h.rest 2 (by kernel_rfl)
      refine ⟨.pointer (some ⟨A, 1, none⟩), w, ?_, h.base, Or.inl (gb_refl _ _), rfl⟩
      clear h
      simp only [execOp, Act.eval, e2]
      go_simp
    refine ⟨flow_value rfl rfl fun a w h => ?_, ?_⟩
    · have e124 : a.tmps.getD 124 undef = .pointer (some ⟨A, 1, none⟩) := h.dep 124 (by kernel_rfl)
      have c := h.base.a.cell (i := 1) rfl
      refine ⟨.int .u64 x1, w, ?_, h.base, Or.inl (gb_refl _ _), rfl⟩
      clear h
      simp only [execOp, Act.eval, e124]
      go_simp
    refine ⟨flow_value rfl rfl fun a w h => ?_, ?_⟩
    · have e3 : a.tmps.getD 3 undef = .pointer (some ⟨B, 0, none⟩) := h.rest 3 (by kernel_rfl)
      refine ⟨.pointer (some ⟨B, 3, none⟩), w, ?_, h.base, Or.inl (gb_refl _ _), rfl⟩
      clear h
      simp only [execOp, Act.eval, e3]
      go_simp
    refine ⟨flow_value rfl rfl fun a w h => ?_, ?_⟩
    · have e126 : a.tmps.getD 126 undef = .pointer (some ⟨B, 3, none⟩) := h.dep 126 (by kernel_rfl)
      have c := h.base.b.cell (i := 3) rfl
      refine ⟨.int .u64 y3, w, ?_, h.base, Or.inl (gb_refl _ _), rfl⟩
      clear h
      simp only [execOp, Act.eval, e126]
      go_simp
    refine ⟨flow_value rfl rfl fun a w h => ?_, ?_⟩
    · have e125 : a.tmps.getD 125 undef = .int .u64 x1 := h.dep 125 (by kernel_rfl)
      have e127 : a.tmps.getD 127 undef = .int .u64 y3 := h.dep 127 (by kernel_rfl)
      refine ⟨.agg #[.int .u64 x1, .int .u64 y3], w, ?_, h.base, Or.inl (gb_refl _ _), rfl⟩
      clear h
      simp only [execOp, List.map_toArray, List.map_cons, List.map_nil, Act.eval, e125, e127]
      go_simp
    refine ⟨flow_value rfl rfl fun a w h => ?_, ?_⟩
    · have e2 : a.tmps.getD 2 undef = .pointer (some ⟨A, 0, none⟩) := h.rest 2 (by kernel_rfl)
      refine ⟨.pointer (some ⟨A, 2, none⟩), w, ?_, h.base, Or.inl (gb_refl _ _), rfl⟩
      clear h
      simp only [execOp, Act.eval, e2]
      go_simp
    refine ⟨flow_value rfl rfl fun a w h => ?_, ?_⟩
    · have e129 : a.tmps.getD 129 undef = .pointer (some ⟨A, 2, none⟩) := h.dep 129 (by kernel_rfl)
      have c := h.base.a.cell (i := 2) rfl
      refine ⟨.int .u64 x2, w, ?_, h.base, Or.inl (gb_refl _ _), rfl⟩
      clear h
      simp only [execOp, Act.eval, e129]
      go_simp
    refine ⟨flow_value rfl rfl fun a w h => ?_, ?_⟩
    · have e3 : a.tmps.getD 3 undef = .pointer (some ⟨B, 0, none⟩) := h.rest 3 (by kernel_rfl)
      refine ⟨.pointer (some ⟨B, 2, none⟩), w, ?_, h.base, Or.inl (gb_refl _ _), rfl⟩
      clear h
      simp only [execOp, Act.eval, e3]
      go_simp
    refine ⟨flow_value rfl rfl fun a w h => ?_, ?_⟩
    · have e131 : a.tmps.getD 131 undef = .pointer (some ⟨B, 2, none⟩) := h.dep 131 (by kernel_rfl)
      have c := h.base.b.cell (i := 2) rfl
      refine ⟨.int .u64 y2, w, ?_, h.base, Or.inl (gb_refl _ _), rfl⟩
      clear h
      simp only [execOp, Act.eval, e131]
      go_simp
    refine ⟨flow_value rfl rfl fun a w h => ?_, ?_⟩
    · have e130 : a.tmps.getD 130 undef = .int .u64 x2 := h.dep 130 (by kernel_rfl)
      have e132 : a.tmps.getD 132 undef = .int .u64 y2 := h.dep 132 (by kernel_rfl)
      refine ⟨.agg #[.int .u64 x2, .int .u64 y2], w, ?_, h.base, Or.inl (gb_refl _ _), rfl⟩
      clear h
      simp only [execOp, List.map_toArray, List.map_cons, List.map_nil, Act.eval, e130, e132]
      go_simp
    refine ⟨flow_value rfl rfl fun a w h => ?_, ?_⟩
    · have e2 : a.tmps.getD 2 undef = .pointer (some ⟨A, 0, none⟩) := h.rest 2 (by kernel_rfl)
      refine ⟨.pointer (some ⟨A, 3, none⟩), w, ?_, h.base, Or.inl (gb_refl _ _), rfl⟩
      clear h
      simp only [execOp, Act.eval, e2]
      go_simp
    refine ⟨flow_value rfl rfl fun a w h => ?_, ?_⟩
    · have e134 : a.tmps.getD 134 undef = .pointer (some ⟨A, 3, none⟩) := h.dep 134 (by kernel_rfl)
      have c := h.base.a.cell (i := 3) rfl
      refine ⟨.int .u64 x3, w, ?_, h.base, Or.inl (gb_refl _ _), rfl⟩
      clear h
      simp only [execOp, Act.eval, e134]
      go_simp
    refine ⟨flow_value rfl rfl fun a w h => ?_, ?_⟩
    · have e3 : a.tmps.getD 3 undef = .pointer (some ⟨B, 0, none⟩) := h.rest 3 (by kernel_rfl)
      refine ⟨.pointer (some ⟨B, 1, none⟩), w, ?_, h.base, Or.inl (gb_refl _ _), rfl⟩
      clear h
      simp only [execOp, Act.eval, e3]
      go_simp
    refine ⟨flow_value rfl rfl fun a w h => ?_, ?_⟩
    · have e136 : a.tmps.getD 136 undef = .pointer (some ⟨B, 1, none⟩) := h.dep 136 (by kernel_rfl)
      have c := h.base.b.cell (i := 1) rfl
      refine ⟨.int .u64 y1, w, ?_, h.base, Or.inl (gb_refl _ _), rfl⟩
      clear h
      simp only [execOp, Act.eval, e136]
      go_simp
    refine ⟨flow_value rfl rfl fun a w h => ?_, ?_⟩
    · have e135 : a.tmps.getD 135 undef = .int .u64 x3 := h.dep 135 (by kernel_rfl)
      have e137 : a.tmps.getD 137 undef = .int .u64 y1 := h.dep 137 (by kernel_rfl)
      refine ⟨.agg #[.int .u64 x3, .int .u64 y1], w, ?_, h.base, Or.inl (gb_refl _ _), rfl⟩
      clear h
      simp only [execOp, List.map_toArray, List.map_cons, List.map_nil, Act.eval, e135, e137]
      go_simp
    refine ⟨flow_value rfl rfl fun a w h => ?_, ?_⟩
    · have e2 : a.tmps.getD 2 undef = .pointer (some ⟨A, 0, none⟩) := h.rest 2 (by kernel_rfl)
      refine ⟨.pointer (some ⟨A, 4, none⟩), w, ?_, h.base, Or.inl (gb_refl _ _), rfl⟩
      clear h
      simp only [execOp, Act.eval, e2]
      go_simp
    refine ⟨flow_value rfl rfl fun a w h => ?_, ?_⟩
    · have e139 : a.tmps.getD 139 undef = .pointer (some ⟨A, 4, none⟩) := h.dep 139 (by kernel_rfl)
      have c := h.base.a.cell (i := 4) rfl
      refine ⟨.int .u64 x4, w, ?_, h.base, Or.inl (gb_refl _ _), rfl⟩
      clear h
      simp only [execOp, Act.eval, e139]
      go_simp
    refine ⟨flow_value rfl rfl fun a w h => ?_, ?_⟩
    · have e3 : a.tmps.getD 3 undef = .pointer (some ⟨B, 0, none⟩) := h.rest 3 (by kernel_rfl)
      refine ⟨.pointer (some ⟨B, 0, none⟩), w, ?_, h.base, Or.inl (gb_refl _ _), rfl⟩
      clear h
      simp only [execOp, Act.eval, e3]
      go_simp
    refine ⟨flow_value rfl rfl fun a w h => ?_, ?_⟩
    · have e141 : a.tmps.getD 141 undef = .pointer (some ⟨B, 0, none⟩) := h.dep 141 (by kernel_rfl)
      have c := h.base.b.cell (i := 0) rfl
      refine ⟨.int .u64 y0, w, ?_, h.base, Or.inl (gb_refl _ _), rfl⟩
      clear h
      simp only [execOp, Act.eval, e141]
      go_simp
    refine ⟨flow_value rfl rfl fun a w h => ?_, ?_⟩
    · have e140 : a.tmps.getD 140 undef = .int .u64 x4 := h.dep 140 (by kernel_rfl)
      have e142 : a.tmps.getD 142 undef = .int .u64 y0 := h.dep 142 (by kernel_rfl)
      refine ⟨.agg #[.int .u64 x4, .int .u64 y0], w, ?_, h.base, Or.inl (gb_refl _ _), rfl⟩
      clear h
      simp only [execOp, List.map_toArray, List.map_cons, List.map_nil, Act.eval, e140, e142]
      go_simp
    refine ⟨flow_value rfl rfl fun a w h => ?_, ?_⟩
    · have e123 : a.tmps.getD 123 undef = .agg #[.int .u64 x0, .int .u64 y4] := h.dep 123 (by kernel_rfl)
      have e128 : a.tmps.getD 128 undef = .agg #[.int .u64 x1, .int .u64 y3] := h.dep 128 (by kernel_rfl)
      have e133 : a.tmps.getD 133 undef = .agg #[.int .u64 x2, .int .u64 y2] := h.dep 133 (by kernel_rfl)
      have e138 : a.tmps.getD 138 undef = .agg #[.int .u64 x3, .int .u64 y1] := h.dep 138 (by kernel_rfl)
      have e143 : a.tmps.getD 143 undef = .agg #[.int .u64 x4, .int .u64 y0] := h.dep 143 (by kernel_rfl)
      obtain ⟨_, _, _, _, _, hr5⟩ := h.base.r
      have hs := hr5.lt
      refine ⟨.slice (some ⟨w.heap.size, 0, none⟩) 5 5, w.alloc (.cells #[.int .u64 x0, .int .u64 y4, .int .u64 x1, .int .u64 y3, .int .u64 x2, .int .u64 y2, .int .u64 x3, .int .u64 y1, .int .u64 x4, .int .u64 y0] 88), ?_, h.base.alloc _, Or.inl (World.grownBy_alloc _ _ _), ⟨w.heap.size, by omega, rfl, Blk.new w _ _⟩⟩
      clear h
      simp only [execOp, List.map_toArray, List.map_cons, List.map_nil, Act.eval, e123, e128, e133, e138, e143]
      go_simp
    refine ⟨flow_call rfl rfl fun a w h => ?_, ?_⟩
    · obtain ⟨PB, hne, e144, hP⟩ : ∃ PB, PB ≠ R ∧ a.tmps.getD 144 undef = .slice (some ⟨PB, 0, none⟩) 5 5 ∧ Blk w PB 88 (flat [(x0, y4), (x1, y3), (x2, y2), (x3, y1), (x4, y0)]) := h.dep 144 (by kernel_rfl)
      have hb := h.base
      refine ⟨53, #[.slice (some ⟨PB, 0, none⟩) 5 5], ?_, ?_⟩
      · clear h hb hP
        have e144x : a.tmps[144]?.getD undef = .slice (some ⟨PB, 0, none⟩) 5 5 := by simpa using e144
        clear e144
        go_simp
      · refine (sumUp_any PB 5 _ w _ rfl (by decide) hP ?_).mono ?_
        · intro p hp; simp only [List.mem_cons, List.not_mem_nil, or_false] at hp; rcases hp with rfl | rfl | rfl | rfl | rfl <;> exact ⟨by assumption, by assumption, by assumption, by assumption⟩
        · rintro e w1 ⟨rfl, hg⟩; exact ⟨_, rfl, hb.grown hg, Or.inl hg, by show sumV _ = _; rw [HS4.out]; rfl⟩
    refine ⟨flow_value rfl rfl fun a w h => ?_, ?_⟩
    · have e43 : a.tmps.getD 43 undef = .agg #[.int .u64 (S0 / 18446744073709551616), .int .u64 (S0 % 18446744073709551616)] := h.dep 43 (by kernel_rfl)
      have e67 : a.tmps.getD 67 undef = .agg #[.int .u64 (S1 / 18446744073709551616), .int .u64 (S1 % 18446744073709551616)] := h.dep 67 (by kernel_rfl)
      have e92 : a.tmps.getD 92 undef = .agg #[.int .u64 (S2 / 18446744073709551616), .int .u64 (S2 % 18446744073709551616)] := h.dep 92 (by kernel_rfl)
      have e118 : a.tmps.getD 118 undef = .agg #[.int .u64 (S3 / 18446744073709551616), .int .u64 (S3 % 18446744073709551616)] := h.dep 118 (by kernel_rfl)
      have e145 : a.tmps.getD 145 undef = .agg #[.int .u64 (S4 / 18446744073709551616), .int .u64 (S4 % 18446744073709551616)] := h.dep 145 (by kernel_rfl)
      refine ⟨.agg #[.int .u64 (S0 / 18446744073709551616), .int .u64 (S0 % 18446744073709551616), .int .u64 (S1 / 18446744073709551616), .int .u64 (S1 % 18446744073709551616), .int .u64 (S2 / 18446744073709551616), .int .u64 (S2 % 18446744073709551616), .int .u64 (S3 / 18446744073709551616), .int .u64 (S3 % 18446744073709551616), .int .u64 (S4 / 18446744073709551616), .int .u64 (S4 % 18446744073709551616)], w, ?_, h.base, Or.inl (gb_refl _ _), rfl⟩
      clear h
      simp only [execOp, List.map_toArray, List.map_cons, List.map_nil, Act.eval, e43, e67, e92, e118, e145]
      go_simp
    refine ⟨flow_call rfl rfl fun a w h => ?_, ?_⟩
    · have e146 : a.tmps.getD 146 undef = .agg #[.int .u64 (S0 / 18446744073709551616), .int .u64 (S0 % 18446744073709551616), .int .u64 (S1 / 18446744073709551616), .int .u64 (S1 % 18446744073709551616), .int .u64 (S2 / 18446744073709551616), .int .u64 (S2 % 18446744073709551616), .int .u64 (S3 / 18446744073709551616), .int .u64 (S3 % 18446744073709551616), .int .u64 (S4 / 18446744073709551616), .int .u64 (S4 % 18446744073709551616)] := h.dep 146 (by kernel_rfl)
      have hb := h.base
      refine ⟨52, #[.agg #[.int .u64 (S0 / 18446744073709551616), .int .u64 (S0 % 18446744073709551616), .int .u64 (S1 / 18446744073709551616), .int .u64 (S1 % 18446744073709551616), .int .u64 (S2 / 18446744073709551616), .int .u64 (S2 % 18446744073709551616), .int .u64 (S3 / 18446744073709551616), .int .u64 (S3 % 18446744073709551616), .int .u64 (S4 / 18446744073709551616), .int .u64 (S4 % 18446744073709551616)]], ?_, ?_⟩
      · clear h hb
        have e146x : a.tmps[146]?.getD undef = .agg #[.int .u64 (S0 / 18446744073709551616), .int .u64 (S0 % 18446744073709551616), .int .u64 (S1 / 18446744073709551616), .int .u64 (S1 % 18446744073709551616), .int .u64 (S2 / 18446744073709551616), .int .u64 (S2 % 18446744073709551616), .int .u64 (S3 / 18446744073709551616), .int .u64 (S3 % 18446744073709551616), .int .u64 (S4 / 18446744073709551616), .int .u64 (S4 % 18446744073709551616)] := by simpa using e146
        clear e146
        go_simp
      · refine (join_sums S0 S1 S2 S3 S4 w (by assumption) (by assumption) (by assumption) (by assumption) (by assumption)).mono ?_
        rintro e w1 ⟨rfl, hg⟩
        exact ⟨_, rfl, hb.grown hg, Or.inl hg, by show Fe.v _ = Fe.v _; rw [Hr.out]⟩
    refine ⟨flow_skip rfl rfl fun a w h => ?_, ?_⟩
    · have e147 : a.tmps.getD 147 undef = .agg #[.int .u64 r.x0, .int .u64 r.x1, .int .u64 r.x2, .int .u64 r.x3, .int .u64 r.x4] := h.dep 147 (by kernel_rfl)
      have e4 : a.tmps.getD 4 undef = .pointer (some ⟨R, 0, none⟩) := h.rest 4 (by kernel_rfl)
      obtain ⟨u0, u1, u2, u3, u4, hR⟩ := h.base.r
      have c0r := hR.cell (i := 0) rfl; have f0r := hR.free 0
      have c1r := hR.cell (i := 1) rfl; have f1r := hR.free 1
      have c2r := hR.cell (i := 2) rfl; have f2r := hR.free 2
      have c3r := hR.cell (i := 3) rfl; have f3r := hR.free 3
      have c4r := hR.cell (i := 4) rfl; have f4r := hR.free 4
      refine ⟨_, ?_, h.base.set5 _ _ _ _ _, Or.inr ⟨gb_set (gb_set (gb_set (gb_set (gb_set (gb_refl _ _) _ _) _ _) _ _) _ _) _ _, h.base.r.set5 _ _ _ _ _⟩, h.base.r.set5 _ _ _ _ _⟩
      clear h
      simp only [execOp, Act.eval, e147, e4]
      go_simp
    trivial
  · intro a w1 hB hsz hdf hrest hslots hmems
    have hM := hmems 127 _ rfl rfl
    have eR0 : a.tmps.getD 4 undef = .pointer (some ⟨(w.heap.size + 1 + 1), 0, none⟩) := hrest 4 (by kernel_rfl)
    have hg := hB.g
    clear hmems hslots hrest hB
    have eR1 : a.tmps[4]?.getD undef = .pointer (some ⟨(w.heap.size + 1 + 1), 0, none⟩) := by simpa using eR0
    have z0 := hM.cell (i := 0) rfl
    have z1 := hM.cell (i := 1) rfl
    have z2 := hM.cell (i := 2) rfl
    have z3 := hM.cell (i := 3) rfl
    have z4 := hM.cell (i := 4) rfl
    clear hM
    go_wp2
    refine bodyPost_ret (v := .agg #[.int .u64 r.x0, .int .u64 r.x1, .int .u64 r.x2, .int .u64 r.x3, .int .u64 r.x4]) ?_ (by rw [hdf]) ⟨r, ?_, rfl, hg⟩
    · simp [results, Tryd.results25, go_sem, eR1, z0, z1, z2, z3, z4]
    · rw [Hr.out, ← HS0.out, ← HS1.out, ← HS2.out, ← HS3.out, ← HS4.out, ← Hz0.out, ← Hz1.out, ← Hz2.out, ← Hz3.out]
      simp only [wrapw]
      rfl
end Go.Proofs.YtleegbaigedebaaDoor

/- field: Square. (Laid by gen_mul.py over the operations of the function.) -/
namespace Go.Proofs.YtleegbaigedebaaDoor
open Go.RowKit
def sqG (A R : Nat) (x0 x1 x2 x3 x4 z0 z1 z2 z3 z4 z5 S0 S1 S2 S3 S4 : Int) (r : Fe) : List (Value → World → Prop) := [
  fun _ _ => True,
  fun _ _ => True,
  fun _ _ => True,
  fun _ _ => True,
  fun _ _ => True,
  fun _ _ => True,
  fun _ _ => True,
  fun _ _ => True,
  fun _ _ => True,
  fun _ _ => True,
  fun _ _ => True,
  fun _ _ => True,
  fun _ _ => True,
  fun _ _ => True,
  fun _ _ => True,
  fun _ _ => True,
  fun _ _ => True,
  fun _ _ => True,
  fun _ _ => True,
  fun v _ => v = .pointer (some ⟨A, 0, none⟩),
  fun v _ => v = .int .u64 x0,
  fun v _ => v = .pointer (some ⟨A, 0, none⟩),
  fun v _ => v = .int .u64 x0,
  fun v _ => v = .agg #[.int .u64 x0, .int .u64 x0],
  fun v _ => v = .int .u64 z1,
  fun v _ => v = .int .u64 z3,
  fun v _ => v = .agg #[.int .u64 z1, .int .u64 z3],
  fun v _ => v = .pointer (some ⟨A, 2, none⟩),
  fun v _ => v = .int .u64 x2,
  fun v _ => v = .int .u64 z4,
  fun v _ => v = .int .u64 z2,
  fun v _ => v = .agg #[.int .u64 z4, .int .u64 z2],
  fun v w => ∃ PB, PB ≠ R ∧ v = .slice (some ⟨PB, 0, none⟩) 3 3 ∧ Blk w PB 88 (flat [(x0, x0), (z1, z3), (z4, z2)]),
  fun v _ => v = .agg #[.int .u64 (S0 / 18446744073709551616), .int .u64 (S0 % 18446744073709551616)],
  fun v _ => v = .int .u64 z0,
  fun v _ => v = .pointer (some ⟨A, 1, none⟩),
  fun v _ => v = .int .u64 x1,
  fun v _ => v = .agg #[.int .u64 z0, .int .u64 x1],
  fun v _ => v = .pointer (some ⟨A, 2, none⟩),
  fun v _ => v = .int .u64 x2,
  fun v _ => v = .int .u64 z4,
  fun v _ => v = .int .u64 z3,
  fun v _ => v = .agg #[.int .u64 z4, .int .u64 z3],
  fun v _ => v = .pointer (some ⟨A, 3, none⟩),
  fun v _ => v = .int .u64 x3,
  fun v _ => v = .int .u64 z2,
  fun v _ => v = .agg #[.int .u64 x3, .int .u64 z2],
  fun v w => ∃ PB, PB ≠ R ∧ v = .slice (some ⟨PB, 0, none⟩) 3 3 ∧ Blk w PB 88 (flat [(z0, x1), (z4, z3), (x3, z2)]),
  fun v _ => v = .agg #[.int .u64 (S1 / 18446744073709551616), .int .u64 (S1 % 18446744073709551616)],
  fun v _ => v = .int .u64 z0,
  fun v _ => v = .pointer (some ⟨A, 2, none⟩),
  fun v _ => v = .int .u64 x2,
  fun v _ => v = .agg #[.int .u64 z0, .int .u64 x2],
  fun v _ => v = .pointer (some ⟨A, 1, none⟩),
  fun v _ => v = .int .u64 x1,
  fun v _ => v = .pointer (some ⟨A, 1, none⟩),
  fun v _ => v = .int .u64 x1,
  fun v _ => v = .agg #[.int .u64 x1, .int .u64 x1],
  fun v _ => v = .pointer (some ⟨A, 3, none⟩),
  fun v _ => v = .int .u64 x3,
  fun v _ => v = .int .u64 z5,
  fun v _ => v = .int .u64 z3,
  fun v _ => v = .agg #[.int .u64 z5, .int .u64 z3],
  fun v w => ∃ PB, PB ≠ R ∧ v = .slice (some ⟨PB, 0, none⟩) 3 3 ∧ Blk w PB 88 (flat [(z0, x2), (x1, x1), (z5, z3)]),
  fun v _ => v = .agg #[.int .u64 (S2 / 18446744073709551616), .int .u64 (S2 % 18446744073709551616)],
  fun v _ => v = .int .u64 z0,
  fun v _ => v = .pointer (some ⟨A, 3, none⟩),
  fun v _ => v = .int .u64 x3,
  fun v _ => v = .agg #[.int .u64 z0, .int .u64 x3],
  fun v _ => v = .int .u64 z1,
  fun v _ => v = .pointer (some ⟨A, 2, none⟩),
  fun v _ => v = .int .u64 x2,
  fun v _ => v = .agg #[.int .u64 z1, .int .u64 x2],
  fun v _ => v = .pointer (some ⟨A, 4, none⟩),
  fun v _ => v = .int .u64 x4,
  fun v _ => v = .int .u64 z3,
  fun v _ => v = .agg #[.int .u64 x4, .int .u64 z3],
  fun v w => ∃ PB, PB ≠ R ∧ v = .slice (some ⟨PB, 0, none⟩) 3 3 ∧ Blk w PB 88 (flat [(z0, x3), (z1, x2), (x4, z3)]),
  fun v _ => v = .agg #[.int .u64 (S3 / 18446744073709551616), .int .u64 (S3 % 18446744073709551616)],
  fun v _ => v = .int .u64 z0,
  fun v _ => v = .pointer (some ⟨A, 4, none⟩),
  fun v _ => v = .int .u64 x4,
  fun v _ => v = .agg #[.int .u64 z0, .int .u64 x4],
  fun v _ => v = .int .u64 z1,
  fun v _ => v = .pointer (some ⟨A, 3, none⟩),
  fun v _ => v = .int .u64 x3,
  fun v _ => v = .agg #[.int .u64 z1, .int .u64 x3],
  fun v _ => v = .pointer (some ⟨A, 2, none⟩),
  fun v _ => v = .int .u64 x2,
  fun v _ => v = .pointer (some ⟨A, 2, none⟩),
  fun v _ => v = .int .u64 x2,
  fun v _ => v = .agg #[.int .u64 x2, .int .u64 x2],
  fun v w => ∃ PB, PB ≠ R ∧ v = .slice (some ⟨PB, 0, none⟩) 3 3 ∧ Blk w PB 88 (flat [(z0, x4), (z1, x3), (x2, x2)]),
  fun v _ => v = .agg #[.int .u64 (S4 / 18446744073709551616), .int .u64 (S4 % 18446744073709551616)],
  fun v _ => v = .agg #[.int .u64 (S0 / 18446744073709551616), .int .u64 (S0 % 18446744073709551616), .int .u64 (S1 / 18446744073709551616), .int .u64 (S1 % 18446744073709551616), .int .u64 (S2 / 18446744073709551616), .int .u64 (S2 % 18446744073709551616), .int .u64 (S3 / 18446744073709551616), .int .u64 (S3 % 18446744073709551616), .int .u64 (S4 / 18446744073709551616), .int .u64 (S4 % 18446744073709551616)],
  fun v _ => v = r.v]
def sqAt (A R : Nat) (x0 x1 x2 x3 x4 z0 z1 z2 z3 z4 z5 S0 S1 S2 S3 S4 : Int) (r : Fe) (d : Nat) (v : Value) (w : World) : Prop := ((sqG A R x0 x1 x2 x3 x4 z0 z1 z2 z3 z4 z5 S0 S1 S2 S3 S4 r).getD d (fun _ _ => True)) v w
structure sqB (w0 : World) (A R : Nat) (x0 x1 x2 x3 x4 : Int) (w : World) : Prop where
  a : Blk w A 26 [.int .u64 x0, .int .u64 x1, .int .u64 x2, .int .u64 x3, .int .u64 x4]
  r : Room5 w R 26
  g : w0.grownBy w none
  ra : A ≠ R
  rn : w0.heap.size ≤ R
theorem sqB.grown {w0 : World} {A R : Nat} {x0 x1 x2 x3 x4 : Int} {w w' : World} (h : sqB w0 A R x0 x1 x2 x3 x4 w) (hg : w.grownBy w' none) : sqB w0 A R x0 x1 x2 x3 x4 w' :=
  ⟨h.a.grown hg (by simp), h.r.grown hg (by simp), gb_trans h.g hg, h.ra, h.rn⟩
theorem sqB.alloc {w0 : World} {A R : Nat} {x0 x1 x2 x3 x4 : Int} {w : World} (h : sqB w0 A R x0 x1 x2 x3 x4 w) (o : Obj) : sqB w0 A R x0 x1 x2 x3 x4 (w.alloc o) := h.grown (World.grownBy_alloc _ _ _)
theorem sqB.set5 {w0 : World} {A R : Nat} {x0 x1 x2 x3 x4 : Int} {w : World} (h : sqB w0 A R x0 x1 x2 x3 x4 w) (v0 v1 v2 v3 v4 : Value) :
    sqB w0 A R x0 x1 x2 x3 x4 (((((w.setCell ⟨R, 0, none⟩ v0).setCell ⟨R, 1, none⟩ v1).setCell ⟨R, 2, none⟩ v2).setCell ⟨R, 3, none⟩ v3).setCell ⟨R, 4, none⟩ v4) :=
  ⟨((((h.a.other (Ne.symm h.ra) _).other (Ne.symm h.ra) _).other (Ne.symm h.ra) _).other (Ne.symm h.ra) _).other (Ne.symm h.ra) _,
   ⟨_, _, _, _, _, h.r.set5 v0 v1 v2 v3 v4⟩, gb_set_new (gb_set_new (gb_set_new (gb_set_new (gb_set_new h.g h.rn _) h.rn _) h.rn _) h.rn _) h.rn _, h.ra, h.rn⟩

theorem sq_stable (A R : Nat) (x0 x1 x2 x3 x4 z0 z1 z2 z3 z4 z5 S0 S1 S2 S3 S4 : Int) (r : Fe) (d : Nat) (u : Value) (w w' : World) (hR : w.grownBy w' (some R)) (h : sqAt A R x0 x1 x2 x3 x4 z0 z1 z2 z3 z4 z5 S0 S1 S2 S3 S4 r d u w) : sqAt A R x0 x1 x2 x3 x4 z0 z1 z2 z3 z4 z5 S0 S1 S2 S3 S4 r d u w' :=
  stable_get (R := R) _ (show Stable R (sqG A R x0 x1 x2 x3 x4 z0 z1 z2 z3 z4 z5 S0 S1 S2 S3 S4 r) from ⟨fun _ _ _ _ h => h, fun _ _ _ _ h => h, fun _ _ _ _ h => h, fun _ _ _ _ h => h, fun _ _ _ _ h => h, fun _ _ _ _ h => h, fun _ _ _ _ h => h, fun _ _ _ _ h => h, fun _ _ _ _ h => h, fun _ _ _ _ h => h, fun _ _ _ _ h => h, fun _ _ _ _ h => h, fun _ _ _ _ h => h, fun _ _ _ _ h => h, fun _ _ _ _ h => h, fun _ _ _ _ h => h, fun _ _ _ _ h => h, fun _ _ _ _ h => h, fun _ _ _ _ h => h, fun _ _ _ _ h => h, fun _ _ _ _ h => h, fun _ _ _ _ h => h, fun _ _ _ _ h => h, fun _ _ _ _ h => h, fun _ _ _ _ h => h, fun _ _ _ _ h => h, fun _ _ _ _ h => h, fun _ _ _ _ h => h, fun _ _ _ _ h => h, fun _ _ _ _ h => h, fun _ _ _ _ h => h, fun _ _ _ _ h => h, fun _ _ _ hR ⟨PB, hne, hv, hb⟩ => ⟨PB, hne, hv, hb.grown hR (some_ne hne)⟩, fun _ _ _ _ h => h, fun _ _ _ _ h => h, fun _ _ _ _ h => h, fun _ _ _ _ h => h, fun _ _ _ _ h => h, fun _ _ _ _ h => h, fun _ _ _ _ h => h, fun _ _ _ _ h => h, fun _ _ _ _ h => h, fun _ _ _ _ h => h, fun _ _ _ _ h => h, fun _ _ _ _ h => h, fun _ _ _ _ h => h, fun _ _ _ _ h => h, fun _ _ _ hR ⟨PB, hne, hv, hb⟩ => ⟨PB, hne, hv, hb.grown hR (some_ne hne)⟩, fun _ _ _ _ h => h, fun _ _ _ _ h => h, fun _ _ _ _ h => h, fun _ _ _ _ h => h, fun _ _ _ _ h => h, fun _ _ _ _ h => h, fun _ _ _ _ h => h, fun _ _ _ _ h => h, fun _ _ _ _ h => h, fun _ _ _ _ h => h, fun _ _ _ _ h => h, fun _ _ _ _ h => h, fun _ _ _ _ h => h, fun _ _ _ _ h => h, fun _ _ _ _ h => h, fun _ _ _ hR ⟨PB, hne, hv, hb⟩ => ⟨PB, hne, hv, hb.grown hR (some_ne hne)⟩, fun _ _ _ _ h => h, fun _ _ _ _ h => h, fun _ _ _ _ h => h, fun _ _ _ _ h => h, fun _ _ _ _ h => h, fun _ _ _ _ h => h, fun _ _ _ _ h => h, fun _ _ _ _ h => h, fun _ _ _ _ h => h, fun _ _ _ _ h => h, fun _ _ _ _ h => h, fun _ _ _ _ h => h, fun _ _ _ _ h => h, fun _ _ _ hR ⟨PB, hne, hv, hb⟩ => ⟨PB, hne, hv, hb.grown hR (some_ne hne)⟩, fun _ _ _ _ h => h, fun _ _ _ _ h => h, fun _ _ _ _ h => h, fun _ _ _ _ h => h, fun _ _ _ _ h => h, fun _ _ _ _ h => h, fun _ _ _ _ h => h, fun _ _ _ _ h => h, fun _ _ _ _ h => h, fun _ _ _ _ h => h, fun _ _ _ _ h => h, fun _ _ _ _ h => h, fun _ _ _ _ h => h, fun _ _ _ _ h => h, fun _ _ _ hR ⟨PB, hne, hv, hb⟩ => ⟨PB, hne, hv, hb.grown hR (some_ne hne)⟩, fun _ _ _ _ h => h, fun _ _ _ _ h => h, fun _ _ _ _ h => h, trivial⟩) d u w w' hR h


set_option maxRecDepth 100000 in
set_option maxHeartbeats 4000000 in
theorem sq_any (x0 x1 x2 x3 x4 : Int) (w : World) (a0 : 0 ≤ x0) (c0 : x0 < 18446744073709551616) (a1 : 0 ≤ x1) (c1 : x1 < 18446744073709551616) (a2 : 0 ≤ x2) (c2 : x2 < 18446744073709551616) (a3 : 0 ≤ x3) (c3 : x3 < 18446744073709551616) (a4 : 0 ≤ x4) (c4 : x4 < 18446744073709551616) :
    Calls Tryd.prog 28 #[.agg #[.int .u64 x0, .int .u64 x1, .int .u64 x2, .int .u64 x3, .int .u64 x4]] w (FeOut (Fe.sqF ⟨x0, x1, x2, x3, x4⟩) w) := by
  obtain ⟨z0, hz0⟩ : ∃ z, IntKind.u64.wrap (2 * x0) = z := ⟨_, rfl⟩
  have pz0 : 0 ≤ z0 := by rw [← hz0, wrapw]; unfold Fe.w64; omega
  have qz0 : z0 < 18446744073709551616 := by rw [← hz0, wrapw]; unfold Fe.w64; omega
  obtain ⟨z1, hz1⟩ : ∃ z, IntKind.u64.wrap (2 * x1) = z := ⟨_, rfl⟩
  have pz1 : 0 ≤ z1 := by rw [← hz1, wrapw]; unfold Fe.w64; omega
  have qz1 : z1 < 18446744073709551616 := by rw [← hz1, wrapw]; unfold Fe.w64; omega
  obtain ⟨z2, hz2⟩ : ∃ z, IntKind.u64.wrap (19 * x3) = z := ⟨_, rfl⟩
  have pz2 : 0 ≤ z2 := by rw [← hz2, wrapw]; unfold Fe.w64; omega
  have qz2 : z2 < 18446744073709551616 := by rw [← hz2, wrapw]; unfold Fe.w64; omega
  obtain ⟨z3, hz3⟩ : ∃ z, IntKind.u64.wrap (19 * x4) = z := ⟨_, rfl⟩
  have pz3 : 0 ≤ z3 := by rw [← hz3, wrapw]; unfold Fe.w64; omega
  have qz3 : z3 < 18446744073709551616 := by rw [← hz3, wrapw]; unfold Fe.w64; omega
  obtain ⟨z4, hz4⟩ : ∃ z, IntKind.u64.wrap (2 * x2) = z := ⟨_, rfl⟩
  have pz4 : 0 ≤ z4 := by rw [← hz4, wrapw]; unfold Fe.w64; omega
  have qz4 : z4 < 18446744073709551616 := by rw [← hz4, wrapw]; unfold Fe.w64; omega
  obtain ⟨z5, hz5⟩ : ∃ z, IntKind.u64.wrap (2 * x3) = z := ⟨_, rfl⟩
  have pz5 : 0 ≤ z5 := by rw [← hz5, wrapw]; unfold Fe.w64; omega
  have qz5 : z5 < 18446744073709551616 := by rw [← hz5, wrapw]; unfold Fe.w64; omega
  obtain ⟨S0, hS0⟩ : ∃ S, sumL [(x0, x0), (z1, z3), (z4, z2)] = S := ⟨_, rfl⟩
  obtain ⟨S1, hS1⟩ : ∃ S, sumL [(z0, x1), (z4, z3), (x3, z2)] = S := ⟨_, rfl⟩
  obtain ⟨S2, hS2⟩ : ∃ S, sumL [(z0, x2), (x1, x1), (z5, z3)] = S := ⟨_, rfl⟩
  obtain ⟨S3, hS3⟩ : ∃ S, sumL [(z0, x3), (z1, x2), (x4, z3)] = S := ⟨_, rfl⟩
  obtain ⟨S4, hS4⟩ : ∃ S, sumL [(z0, x4), (z1, x3), (x2, x2)] = S := ⟨_, rfl⟩
  obtain ⟨r, hr⟩ : ∃ r, r = Fe.joinF S0 S1 S2 S3 S4 := ⟨_, rfl⟩
  have HS0 := Lib.hid hS0; clear hS0
  have HS1 := Lib.hid hS1; clear hS1
  have HS2 := Lib.hid hS2; clear hS2
  have HS3 := Lib.hid hS3; clear hS3
  have HS4 := Lib.hid hS4; clear hS4
  have Hr := Lib.hid hr; clear hr
  have iS0 : Is128 S0 := by rw [← HS0.out]; exact ⟨(sumL_bd _).1, (sumL_bd _).2⟩
  have iS1 : Is128 S1 := by rw [← HS1.out]; exact ⟨(sumL_bd _).1, (sumL_bd _).2⟩
  have iS2 : Is128 S2 := by rw [← HS2.out]; exact ⟨(sumL_bd _).1, (sumL_bd _).2⟩
  have iS3 : Is128 S3 := by rw [← HS3.out]; exact ⟨(sumL_bd _).1, (sumL_bd _).2⟩
  have iS4 : Is128 S4 := by rw [← HS4.out]; exact ⟨(sumL_bd _).1, (sumL_bd _).2⟩
  have Hz0 := Lib.hid hz0; clear hz0
  have Hz1 := Lib.hid hz1; clear hz1
  have Hz2 := Lib.hid hz2; clear hz2
  have Hz3 := Lib.hid hz3; clear hz3
  have Hz4 := Lib.hid hz4; clear hz4
  have Hz5 := Lib.hid hz5; clear hz5
  go_enter Tryd.func28, Tryd.ntmps28
  have hB0 : sqB w w.heap.size (w.heap.size + 1) x0 x1 x2 x3 x4 ((w.alloc (.cells #[.int .u64 x0, .int .u64 x1, .int .u64 x2, .int .u64 x3, .int .u64 x4] 26)).alloc (.cells #[.int .u64 0, .int .u64 0, .int .u64 0, .int .u64 0, .int .u64 0] 26)) :=
    ⟨(Blk.new w [.int .u64 x0, .int .u64 x1, .int .u64 x2, .int .u64 x3, .int .u64 x4] _).alloc _, ⟨_, _, _, _, _, Blk.newAt _ [.int .u64 0, .int .u64 0, .int .u64 0, .int .u64 0, .int .u64 0] _ (by simp)⟩, gb_alloc (gb_alloc (gb_refl _ _) _) _, by omega, by omega⟩
  go_wp2
  go_quiet (fail)
  go_wp2
  go_quiet (fail)
  go_wp2
  refine wp_region_flow (sqAt w.heap.size (w.heap.size + 1) x0 x1 x2 x3 x4 z0 z1 z2 z3 z4 z5 S0 S1 S2 S3 S4 r) (fun _ w' => Blk w' (w.heap.size + 1) 26 [.int .u64 r.x0, .int .u64 r.x1, .int .u64 r.x2, .int .u64 r.x3, .int .u64 r.x4])
    (sqB w w.heap.size (w.heap.size + 1) x0 x1 x2 x3 x4) (fun w' w'' => w'.grownBy w'' none ∨ (w'.grownBy w'' (some (w.heap.size + 1)) ∧ Blk w'' (w.heap.size + 1) 26 [.int .u64 r.x0, .int .u64 r.x1, .int .u64 r.x2, .int .u64 r.x3, .int .u64 r.x4])) (by kernel_rfl) (by kernel_rfl) (by kernel_rfl) (((hB0.grown (gb_drewN (gb_refl _ none) _)).grown (gb_drewN (gb_refl _ none) _)).grown (gb_drew (gb_refl _ none))) ?_ ?_ ?_ ?_
  · exact fun d u w1 w2 hR h => sq_stable _ _ _ _ _ _ _ _ _ _ _ _ _ _ _ _ _ _ r d u w1 w2 (hR.elim (fun h => gb_row h _) (fun h => h.1)) h
  · exact fun j w1 w2 hR h => hR.elim (fun hg => h.grown hg (by simp)) (fun h => h.2)
  · clear hB0
    generalize w.heap.size = A
    generalize eR : A + 1 = R
    refine ⟨flow_value rfl rfl fun a w h => ?_, ?_⟩
    · have e1 : a.tmps.getD 1 undef = .pointer (some ⟨A, 0, none⟩) := h.rest 1 (by kernel_rfl)
      refine ⟨.pointer (some ⟨A, 0, none⟩), w, ?_, h.base, Or.inl (gb_refl _ _), rfl⟩
      clear h
      simp only [execOp, Act.eval, e1]
      go_simp
    refine ⟨flow_value rfl rfl fun a w h => ?_, ?_⟩
    · have e19 : a.tmps.getD 19 undef = .pointer (some ⟨A, 0, none⟩) := h.dep 19 (by kernel_rfl)
      have c := h.base.a.cell (i := 0) rfl
      refine ⟨.int .u64 x0, w, ?_, h.base, Or.inl (gb_refl _ _), rfl⟩
      clear h
      simp only [execOp, Act.eval, e19]
      go_simp
    refine ⟨flow_value rfl rfl fun a w h => ?_, ?_⟩
    · have e1 : a.tmps.getD 1 undef = .pointer (some ⟨A, 0, none⟩) := h.rest 1 (by kernel_rfl)
      refine ⟨.pointer (some ⟨A, 0, none⟩), w, ?_, h.base, Or.inl (gb_refl _ _), rfl⟩
      clear h
      simp only [execOp, Act.eval, e1]
      go_simp
    refine ⟨flow_value rfl rfl fun a w h => ?_, ?_⟩
    · have e21 : a.tmps.getD 21 undef = .pointer (some ⟨A, 0, none⟩) := h.dep 21 (by kernel_rfl)
      have c := h.base.a.cell (i := 0) rfl
      refine ⟨.int .u64 x0, w, ?_, h.base, Or.inl (gb_refl _ _), rfl⟩
      clear h
      simp only [execOp, Act.eval, e21]
      go_simp
    refine ⟨flow_value rfl rfl fun a w h => ?_, ?_⟩
    · have e20 : a.tmps.getD 20 undef = .int .u64 x0 := h.dep 20 (by kernel_rfl)
      have e22 : a.tmps.getD 22 undef = .int .u64 x0 := h.dep 22 (by kernel_rfl)
      refine ⟨.agg #[.int .u64 x0, .int .u64 x0], w, ?_, h.base, Or.inl (gb_refl _ _), rfl⟩
      clear h
      simp only [execOp, List.map_toArray, List.map_cons, List.map_nil, Act.eval, e20, e22]
      go_simp
    refine ⟨flow_value rfl rfl fun a w h => ?_, ?_⟩
    · have e4 : a.tmps.getD 4 undef = .int .u64 z1 := (h.rest 4 (by kernel_rfl)).trans (congrArg (Value.int .u64) Hz1.out)
      refine ⟨.int .u64 z1, w, ?_, h.base, Or.inl (gb_refl _ _), rfl⟩
      clear h
      simp only [execOp, Act.eval, e4]
      go_simp
    refine ⟨flow_value rfl rfl fun a w h => ?_, ?_⟩
    · have e6 : a.tmps.getD 6 undef = .int .u64 z3 := (h.rest 6 (by kernel_rfl)).trans (congrArg (Value.int .u64) Hz3.out)
      refine ⟨.int .u64 z3, w, ?_, h.base, Or.inl (gb_refl _ _), rfl⟩
      clear h
      simp only [execOp, Act.eval, e6]
      go_simp
    refine ⟨flow_value rfl rfl fun a w h => ?_, ?_⟩
    · have e24 : a.tmps.getD 24 undef = .int .u64 z1 := h.dep 24 (by kernel_rfl)
      have e25 : a.tmps.getD 25 undef = .int .u64 z3 := h.dep 25 (by kernel_rfl)
      refine ⟨.agg #[.int .u64 z1, .int .u64 z3], w, ?_, h.base, Or.inl (gb_refl _ _), rfl⟩
      clear h
      simp only [execOp, List.map_toArray, List.map_cons, List.map_nil, Act.eval, e24, e25]
      go_simp
    refine ⟨flow_value rfl rfl fun a w h => ?_, ?_⟩
    · have e1 : a.tmps.getD 1 undef = .pointer (some ⟨A, 0, none⟩) := h.rest 1 (by kernel_rfl)
      refine ⟨.pointer (some ⟨A, 2, none⟩), w, ?_, h.base, Or.inl (gb_refl _ _), rfl⟩
      clear h
      simp only [execOp, Act.eval, e1]
      go_simp
    refine ⟨flow_value rfl rfl fun a w h => ?_, ?_⟩
    · have e27 : a.tmps.getD 27 undef = .pointer (some ⟨A, 2, none⟩) := h.dep 27 (by kernel_rfl)
      have c := h.base.a.cell (i := 2) rfl
      refine ⟨.int .u64 x2, w, ?_, h.base, Or.inl (gb_refl _ _), rfl⟩
      clear h
      simp only [execOp, Act.eval, e27]
      go_simp
    refine ⟨flow_value rfl rfl fun a w h => ?_, ?_⟩
    · have e28 : a.tmps.getD 28 undef = .int .u64 x2 := h.dep 28 (by kernel_rfl)
      refine ⟨.int .u64 (IntKind.u64.wrap (2 * x2)), w, ?_, h.base, Or.inl (gb_refl _ _), congrArg (Value.int .u64) Hz4.out⟩
      clear h
      simp only [execOp, Act.eval, e28]
      go_simp
    refine ⟨flow_value rfl rfl fun a w h => ?_, ?_⟩
    · have e5 : a.tmps.getD 5 undef = .int .u64 z2 := (h.rest 5 (by kernel_rfl)).trans (congrArg (Value.int .u64) Hz2.out)
      refine ⟨.int .u64 z2, w, ?_, h.base, Or.inl (gb_refl _ _), rfl⟩
      clear h
      simp only [execOp, Act.eval, e5]
      go_simp
    refine ⟨flow_value rfl rfl fun a w h => ?_, ?_⟩
    · have e29 : a.tmps.getD 29 undef = .int .u64 z4 := h.dep 29 (by kernel_rfl)
      have e30 : a.tmps.getD 30 undef = .int .u64 z2 := h.dep 30 (by kernel_rfl)
      refine ⟨.agg #[.int .u64 z4, .int .u64 z2], w, ?_, h.base, Or.inl (gb_refl _ _), rfl⟩
      clear h
      simp only [execOp, List.map_toArray, List.map_cons, List.map_nil, Act.eval, e29, e30]
      go_simp
    refine ⟨flow_value rfl rfl fun a w h => ?_, ?_⟩
    · have e23 : a.tmps.getD 23 undef = .agg #[.int .u64 x0, .int .u64 x0] := h.dep 23 (by kernel_rfl)
      have e26 : a.tmps.getD 26 undef = .agg #[.int .u64 z1, .int .u64 z3] := h.dep 26 (by kernel_rfl)
      have e31 : a.tmps.getD 31 undef = .agg #[.int .u64 z4, .int .u64 z2] := h.dep 31 (by kernel_rfl)
      obtain ⟨_, _, _, _, _, hr5⟩ := h.base.r
      have hs := hr5.lt
      refine ⟨.slice (some ⟨w.heap.size, 0, none⟩) 3 3, w.alloc (.cells #[.int .u64 x0, .int .u64 x0, .int .u64 z1, .int .u64 z3, .int .u64 z4, .int .u64 z2] 88), ?_, h.base.alloc _, Or.inl (World.grownBy_alloc _ _ _), ⟨w.heap.size, by omega, rfl, Blk.new w _ _⟩⟩
      clear h
      simp only [execOp, List.map_toArray, List.map_cons, List.map_nil, Act.eval, e23, e26, e31]
      go_simp
    refine ⟨flow_call rfl rfl fun a w h => ?_, ?_⟩
    · obtain ⟨PB, hne, e32, hP⟩ : ∃ PB, PB ≠ R ∧ a.tmps.getD 32 undef = .slice (some ⟨PB, 0, none⟩) 3 3 ∧ Blk w PB 88 (flat [(x0, x0), (z1, z3), (z4, z2)]) := h.dep 32 (by kernel_rfl)
      have hb := h.base
      refine ⟨53, #[.slice (some ⟨PB, 0, none⟩) 3 3], ?_, ?_⟩
      · clear h hb hP
        have e32x : a.tmps[32]?.getD undef = .slice (some ⟨PB, 0, none⟩) 3 3 := by simpa using e32
        clear e32
        go_simp
      · refine (sumUp_any PB 3 _ w _ rfl (by decide) hP ?_).mono ?_
        · intro p hp; simp only [List.mem_cons, List.not_mem_nil, or_false] at hp; rcases hp with rfl | rfl | rfl <;> exact ⟨by assumption, by assumption, by assumption, by assumption⟩
        · rintro e w1 ⟨rfl, hg⟩; exact ⟨_, rfl, hb.grown hg, Or.inl hg, by show sumV _ = _; rw [HS0.out]; rfl⟩
    refine ⟨flow_value rfl rfl fun a w h => ?_, ?_⟩
    · have e3 : a.tmps.getD 3 undef = .int .u64 z0 := (h.rest 3 (by kernel_rfl)).trans (congrArg (Value.int .u64) Hz0.out)
      refine ⟨.int .u64 z0, w, ?_, h.base, Or.inl (gb_refl _ _), rfl⟩
      clear h
      simp only [execOp, Act.eval, e3]
      go_simp
    refine ⟨flow_value rfl rfl fun a w h => ?_, ?_⟩
    · have e1 : a.tmps.getD 1 undef = .pointer (some ⟨A, 0, none⟩) := h.rest 1 (by kernel_rfl)
      refine ⟨.pointer (some ⟨A, 1, none⟩), w, ?_, h.base, Or.inl (gb_refl _ _), rfl⟩
      clear h
      simp only [execOp, Act.eval, e1]
      go_simp
    refine ⟨flow_value rfl rfl fun a w h => ?_, ?_⟩
    · have e35 : a.tmps.getD 35 undef = .pointer (some ⟨A, 1, none⟩) := h.dep 35 (by kernel_rfl)
      have c := h.base.a.cell (i := 1) rfl
      refine ⟨.int .u64 x1, w, ?_, h.base, Or.inl (gb_refl _ _), rfl⟩
      clear h
      simp only [execOp, Act.eval, e35]
      go_simp
    refine ⟨flow_value rfl rfl fun a w h => ?_, ?_⟩
    · have e34 : a.tmps.getD 34 undef = .int .u64 z0 := h.dep 34 (by kernel_rfl)
      have e36 : a.tmps.getD 36 undef = .int .u64 x1 := h.dep 36 (by kernel_rfl)
      refine ⟨.agg #[.int .u64 z0, .int .u64 x1], w, ?_, h.base, Or.inl (gb_refl _ _), rfl⟩
      clear h
      simp only [execOp, List.map_toArray, List.map_cons, List.map_nil, Act.eval, e34, e36]
      go_simp
    refine ⟨flow_value rfl rfl fun a w h => ?_, ?_⟩
    · have e1 : a.tmps.getD 1 undef = .pointer (some ⟨A, 0, none⟩) := h.rest 1 (by kernel_rfl)
      refine ⟨.pointer (some ⟨A, 2, none⟩), w, ?_, h.base, Or.inl (gb_refl _ _), rfl⟩
      clear h
      simp only [execOp, Act.eval, e1]
      go_simp
    refine ⟨flow_value rfl rfl fun a w h => ?_, ?_⟩
    · have e38 : a.tmps.getD 38 undef = .pointer (some ⟨A, 2, none⟩) := h.dep 38 (by kernel_rfl)
      have c := h.base.a.cell (i := 2) rfl
      refine ⟨.int .u64 x2, w, ?_, h.base, Or.inl (gb_refl _ _), rfl⟩
      clear h
      simp only [execOp, Act.eval, e38]
      go_simp
    refine ⟨flow_value rfl rfl fun a w h => ?_, ?_⟩
    · have e39 : a.tmps.getD 39 undef = .int .u64 x2 := h.dep 39 (by kernel_rfl)
      refine ⟨.int .u64 (IntKind.u64.wrap (2 * x2)), w, ?_, h.base, Or.inl (gb_refl _ _), congrArg (Value.int .u64) Hz4.out⟩
      clear h
      simp only [execOp, Act.eval, e39]
      go_simp
    refine ⟨flow_value rfl rfl fun a w h => ?_, ?_⟩
    · have e6 : a.tmps.getD 6 undef = .int .u64 z3 := (h.rest 6 (by kernel_rfl)).trans (congrArg (Value.int .u64) Hz3.out)
      refine ⟨.int .u64 z3, w, ?_, h.base, Or.inl (gb_refl _ _), rfl⟩
      clear h
      simp only [execOp, Act.eval, e6]
      go_simp
    refine ⟨flow_value rfl rfl fun a w h => ?_, ?_⟩
    · have e40 : a.tmps.getD 40 undef = .int .u64 z4 := h.dep 40 (by kernel_rfl)
      have e41 : a.tmps.getD 41 undef = .int .u64 z3 := h.dep 41 (by kernel_rfl)
      refine ⟨.agg #[.int .u64 z4, .int .u64 z3], w, ?_, h.base, Or.inl (gb_refl _ _), rfl⟩
      clear h
      simp only [execOp, List.map_toArray, List.map_cons, List.map_nil, Act.eval, e40, e41]
      go_simp
    refine ⟨flow_value rfl rfl fun a w h => ?_, ?_⟩
    · have e1 : a.tmps.getD 1 undef = .pointer (some ⟨A, 0, none⟩) := h.rest 1 (by kernel_rfl)
      refine ⟨.pointer (some ⟨A, 3, none⟩), w, ?_, h.base, Or.inl (gb_refl _ _), rfl⟩
      clear h
      simp only [execOp, Act.eval, e1]
      go_simp
    refine ⟨flow_value rfl rfl fun a w h => ?_, ?_⟩
    · have e43 : a.tmps.getD 43 undef = .pointer (some ⟨A, 3, none⟩) := h.dep 43 (by kernel_rfl)
      have c := h.base.a.cell (i := 3) rfl
      refine ⟨.int .u64 x3, w, ?_, h.base, Or.inl (gb_refl _ _), rfl⟩
      clear h
      simp only [execOp, Act.eval, e43]
      go_simp
    refine ⟨flow_value rfl rfl fun a w h => ?_, ?_⟩
    · have e5 : a.tmps.getD 5 undef = .int .u64 z2 := (h.rest 5 (by kernel_rfl)).trans (congrArg (Value.int .u64) Hz2.out)
      refine ⟨.int .u64 z2, w, ?_, h.base, Or.inl (gb_refl _ _), rfl⟩
      clear h
      simp only [execOp, Act.eval, e5]
      go_simp
    refine ⟨flow_value rfl rfl fun a w h => ?_, ?_⟩
    · have e44 : a.tmps.getD 44 undef = .int .u64 x3 := h.dep 44 (by kernel_rfl)
      have e45 : a.tmps.getD 45 undef = .int .u64 z2 := h.dep 45 (by kernel_rfl)
      refine ⟨.agg #[.int .u64 x3, .int .u64 z2], w, ?_, h.base, Or.inl (gb_refl _ _), rfl⟩
      clear h
      simp only [execOp, List.map_toArray, List.map_cons, List.map_nil, Act.eval, e44, e45]
      go_simp
    refine ⟨flow_value rfl rfl fun a w h => ?_, ?_⟩
    · have e37 : a.tmps.getD 37 undef = .agg #[.int .u64 z0, .int .u64 x1] := h.dep 37 (by kernel_rfl)
      have e42 : a.tmps.getD 42 undef = .agg #[.int .u64 z4, .int .u64 z3] := h.dep 42 (by kernel_rfl)
      have e46 : a.tmps.getD 46 undef = .agg #[.int .u64 x3, .int .u64 z2] := h.dep 46 (by kernel_rfl)
      obtain ⟨_, _, _, _, _, hr5⟩ := h.base.r
      have hs := hr5.lt
      refine ⟨.slice (some ⟨w.heap.size, 0, none⟩) 3 3, w.alloc (.cells #[.int .u64 z0, .int .u64 x1, .int .u64 z4, .int .u64 z3, .int .u64 x3, .int .u64 z2] 88), ?_, h.base.alloc _, Or.inl (World.grownBy_alloc _ _ _), ⟨w.heap.size, by omega, rfl, Blk.new w _ _⟩⟩
      clear h
      simp only [execOp, List.map_toArray, List.map_cons, List.map_nil, Act.eval, e37, e42, e46]
      go_simp
    refine ⟨flow_call rfl rfl fun a w h => ?_, ?_⟩
    · obtain ⟨PB, hne, e47, hP⟩ : ∃ PB, PB ≠ R ∧ a.tmps.getD 47 undef = .slice (some ⟨PB, 0, none⟩) 3 3 ∧ Blk w PB 88 (flat [(z0, x1), (z4, z3), (x3, z2)]) := h.dep 47 (by kernel_rfl)
      have hb := h.base
      refine ⟨53, #[.slice (some ⟨PB, 0, none⟩) 3 3], ?_, ?_⟩
      · clear h hb hP
        have e47x : a.tmps[47]?.getD undef = .slice (some ⟨PB, 0, none⟩) 3 3 := by simpa using e47
        clear e47
        go_simp
      · refine (sumUp_any PB 3 _ w _ rfl (by decide) hP ?_).mono ?_
        · intro p hp; simp only [List.mem_cons, List.not_mem_nil, or_false] at hp; rcases hp with rfl | rfl | rfl <;> exact ⟨by assumption, by assumption, by assumption, by assumption⟩
        · rintro e w1 ⟨rfl, hg⟩; exact ⟨_, rfl, hb.grown hg, Or.inl hg, by show sumV _ = _; rw [HS1.out]; rfl⟩
    refine ⟨flow_value rfl rfl fun a w h => ?_, ?_⟩
    · have e3 : a.tmps.getD 3 undef = .int .u64 z0 := (h.rest 3 (by kernel_rfl)).trans (congrArg (Value.int .u64) Hz0.out)
      refine ⟨.int .u64 z0, w, ?_, h.base, Or.inl (gb_refl _ _), rfl⟩
      clear h
      simp only [execOp, Act.eval, e3]
      go_simp
    refine ⟨flow_value rfl rfl fun a w h => ?_, ?_⟩
    · have e1 : a.tmps.getD 1 undef = .pointer (some ⟨A, 0, none⟩) := h.rest 1 (by kernel_rfl)
      refine ⟨.pointer (some ⟨A, 2, none⟩), w, ?_, h.base, Or.inl (gb_refl _ _), rfl⟩
      clear h
      simp only [execOp, Act.eval, e1]
      go_simp
    refine ⟨flow_value rfl rfl fun a w h => ?_, ?_⟩
    · have e50 : a.tmps.getD 50 undef = .pointer (some ⟨A, 2, none⟩) := h.dep 50 (by kernel_rfl)
      have c := h.base.a.cell (i := 2) rfl
      refine ⟨.int .u64 x2, w, ?_, h.base, Or.inl (gb_refl _ _), rfl⟩
      clear h
      simp only [execOp, Act.eval, e50]
      go_simp
    refine ⟨flow_value rfl rfl fun a w h => ?_, ?_⟩
    · have e49 : a.tmps.getD 49 undef = .int .u64 z0 := h.dep 49 (by kernel_rfl)
      have e51 : a.tmps.getD 51 undef = .int .u64 x2 := h.dep 51 (by kernel_rfl)
      refine ⟨.agg #[.int .u64 z0, .int .u64 x2], w, ?_, h.base, Or.inl (gb_refl _ _), rfl⟩
      clear h
      simp only [execOp, List.map_toArray, List.map_cons, List.map_nil, Act.eval, e49, e51]
      go_simp
    refine ⟨flow_value rfl rfl fun a w h => ?_, ?_⟩
    · have e1 : a.tmps.getD 1 undef = .pointer (some ⟨A, 0, none⟩) := h.rest 1 (by kernel_rfl)
      refine ⟨.pointer (some ⟨A, 1, none⟩), w, ?_, h.base, Or.inl (gb_refl _ _), rfl⟩
      clear h
      simp only [execOp, Act.eval, e1]
      go_simp
    refine ⟨flow_value rfl rfl fun a w h => ?_, ?_⟩
    · have e53 : a.tmps.getD 53 undef = .pointer (some ⟨A, 1, none⟩) := h.dep 53 (by kernel_rfl)
      have c := h.base.a.cell (i := 1) rfl
      refine ⟨.int .u64 x1, w, ?_, h.base, Or.inl (gb_refl _ _), rfl⟩
      clear h
      simp only [execOp, Act.eval, e53]
      go_simp
    refine ⟨flow_value rfl rfl fun a w h => ?_, ?_⟩
    · have e1 : a.tmps.getD 1 undef = .pointer (some ⟨A, 0, none⟩) := h.rest 1 (by kernel_rfl)
      refine ⟨.pointer (some ⟨A, 1, none⟩), w, ?_, h.base, Or.inl (gb_refl _ _), rfl⟩
      clear h
      simp only [execOp, Act.eval, e1]
      go_simp
    refine ⟨flow_value rfl rfl fun a w h => ?_, ?_⟩
    · have e55 : a.tmps.getD 55 undef = .pointer (some ⟨A, 1, none⟩) := h.dep 55 (by kernel_rfl)
      have c := h.base.a.cell (i := 1) rfl
      refine ⟨.int .u64 x1, w, ?_, h.base, Or.inl (gb_refl _ _), rfl⟩
      clear h
      simp only [execOp, Act.eval, e55]
      go_simp
    refine ⟨flow_value rfl rfl fun a w h => ?_, ?_⟩
    · have e54 : a.tmps.getD 54 undef = .int .u64 x1 := h.dep 54 (by kernel_rfl)
      have e56 : a.tmps.getD 56 undef = .int .u64 x1 := h.dep 56 (by kernel_rfl)
      refine ⟨.agg #[.int .u64 x1, .int .u64 x1], w, ?_, h.base, Or.inl (gb_refl _ _), rfl⟩
      clear h
      simp only [execOp, List.map_toArray, List.map_cons, List.map_nil, Act.eval, e54, e56]
      go_simp
    refine ⟨flow_value rfl rfl fun a w h => ?_, ?_⟩
    · have e1 : a.tmps.getD 1 undef = .pointer (some ⟨A, 0, none⟩) := h.rest 1 (by kernel_rfl)
      refine ⟨.pointer (some ⟨A, 3, none⟩), w, ?_, h.base, Or.inl (gb_refl _ _), rfl⟩
      clear h
      simp only [execOp, Act.eval, e1]
      go_simp
    refine ⟨flow_value rfl rfl fun a w h => ?_, ?_⟩
    · have e58 : a.tmps.getD 58 undef = .pointer (some ⟨A, 3, none⟩) := h.dep 58 (by kernel_rfl)
      have c := h.base.a.cell (i := 3) rfl
      refine ⟨.int .u64 x3, w, ?_, h.base, Or.inl (gb_refl _ _), rfl⟩
      clear h
      simp only [execOp, Act.eval, e58]
      go_simp
    refine ⟨flow_value rfl rfl fun a w h => ?_, ?_⟩
    · have e59 : a.tmps.getD 59 undef = .int .u64 x3 := h.dep 59 (by kernel_rfl)
      refine ⟨.int .u64 (IntKind.u64.wrap (2 * x3)), w, ?_, h.base, Or.inl (gb_refl _ _), congrArg (Value.int .u64) Hz5.out⟩
      clear h
      simp only [execOp, Act.eval, e59]
      go_simp
    refine ⟨flow_value rfl rfl fun a w h => ?_, ?_⟩
    · have e6 : a.tmps.getD 6 undef = .int .u64 z3 := (h.rest 6 (by kernel_rfl)).trans (congrArg (Value.int .u64) Hz3.out)
      refine ⟨.int .u64 z3, w, ?_, h.base, Or.inl (gb_refl _ _), rfl⟩
      clear h
      simp only [execOp, Act.eval, e6]
      go_simp
    refine ⟨flow_value rfl rfl fun a w h => ?_, ?_⟩
    · have e60 : a.tmps.getD 60 undef = .int .u64 z5 := h.dep 60 (by kernel_rfl)
      have e61 : a.tmps.getD 61 undef = .int .u64 z3 := h.dep 61 (by kernel_rfl)
      refine ⟨.agg #[.int .u64 z5, .int .u64 z3], w, ?_, h.base, Or.inl (gb_refl _ _), rfl⟩
      clear h
      simp only [execOp, List.map_toArray, List.map_cons, List.map_nil, Act.eval, e60, e61]
      go_simp
    refine ⟨flow_value rfl rfl fun a w h => ?_, ?_⟩
    · have e52 : a.tmps.getD 52 undef = .agg #[.int .u64 z0, .int .u64 x2] := h.dep 52 (by kernel_rfl)
      have e57 : a.tmps.getD 57 undef = .agg #[.int .u64 x1, .int .u64 x1] := h.dep 57 (by kernel_rfl)
      have e62 : a.tmps.getD 62 undef = .agg #[.int .u64 z5, .int .u64 z3] := h.dep 62 (by kernel_rfl)
      obtain ⟨_, _, _, _, _, hr5⟩ := h.base.r
      have hs := hr5.lt
      refine ⟨.slice (some ⟨w.heap.size, 0, none⟩) 3 3, w.alloc (.cells #[.int .u64 z0, .int .u64 x2, .int .u64 x1, .int .u64 x1, .int .u64 z5, .int .u64 z3] 88), ?_, h.base.alloc _, Or.inl (World.grownBy_alloc _ _ _), ⟨w.heap.size, by omega, rfl, Blk.new w _ _⟩⟩
      clear h
      simp only [execOp, List.map_toArray, List.map_cons, List.map_nil, Act.eval, e52, e57, e62]
      go_simp
    refine ⟨flow_call rfl rfl fun a w h => ?_, ?_⟩
    · obtain ⟨PB, hne, e63, hP⟩ : ∃ PB, PB ≠ R ∧ a.tmps.getD 63 undef = .slice (some ⟨PB, 0, none⟩) 3 3 ∧ Blk w PB 88 (flat [(z0, x2), (x1, x1), (z5, z3)]) := h.dep 63 (by kernel_rfl)
      have hb := h.base
      refine ⟨53, #[.slice (some ⟨PB, 0, none⟩) 3 3], ?_, ?_⟩
      · clear h hb hP
        have e63x : a.tmps[63]?.getD undef = .slice (some ⟨PB, 0, none⟩) 3 3 := by simpa using e63
        clear e63
        go_simp
      · refine (sumUp_any PB 3 _ w _ rfl (by decide) hP ?_).mono ?_
        · intro p hp; simp only [List.mem_cons, List.not_mem_nil, or_false] at hp; rcases hp with rfl | rfl | rfl <;> exact ⟨by assumption, by assumption, by assumption, by assumption⟩
        · rintro e w1 ⟨rfl, hg⟩; exact ⟨_, rfl, hb.grown hg, Or.inl hg, by show sumV _ = _; rw [HS2.out]; rfl⟩
    refine ⟨flow_value rfl rfl fun a w h => ?_, ?_⟩
    · have e3 : a.tmps.getD 3 undef = .int .u64 z0 := (h.rest 3 (by kernel_rfl)).trans (congrArg (Value.int .u64) Hz0.out)
      refine ⟨.int .u64 z0, w, ?_, h.base, Or.inl (gb_refl _ _), rfl⟩
      clear h
      simp only [execOp, Act.eval, e3]
      go_simp
    refine ⟨flow_value rfl rfl fun a w h => ?_, ?_⟩
    · have e1 : a.tmps.getD 1 undef = .pointer (some ⟨A, 0, none⟩) := h.rest 1 (by kernel_rfl)
      refine ⟨.pointer (some ⟨A, 3, none⟩), w, ?_, h.base, Or.inl (gb_refl _ _), rfl⟩
      clear h
      simp only [execOp, Act.eval, e1]
      go_simp
    refine ⟨flow_value rfl rfl fun a w h => ?_, ?_⟩
    · have e66 : a.tmps.getD 66 undef = .pointer (some ⟨A, 3, none⟩) := h.dep 66 (by kernel_rfl)
      have c := h.base.a.cell (i := 3) rfl
      refine ⟨.int .u64 x3, w, ?_, h.base, Or.inl (gb_refl _ _), rfl⟩
      clear h
      simp only [execOp, Act.eval, e66]
      go_simp
    refine ⟨flow_value rfl rfl fun a w h => ?_, ?_⟩
    · have e65 : a.tmps.getD 65 undef = .int .u64 z0 := h.dep 65 (by kernel_rfl)
      have e67 : a.tmps.getD 67 undef = .int .u64 x3 := h.dep 67 (by kernel_rfl)
      refine ⟨.agg #[.int .u64 z0, .int .u64 x3], w, ?_, h.base, Or.inl (gb_refl _ _), rfl⟩
      clear h
      simp only [execOp, List.map_toArray, List.map_cons, List.map_nil, Act.eval, e65, e67]
      go_simp
    refine ⟨flow_value rfl rfl fun a w h => ?_, ?_⟩
    · have e4 : a.tmps.getD 4 undef = .int .u64 z1 := (h.rest 4 (by kernel_rfl)).trans (congrArg (Value.int .u64) Hz1.out)
      refine ⟨.int .u64 z1, w, ?_, h.base, Or.inl (gb_refl _ _), rfl⟩
      clear h
      simp only [execOp, Act.eval, e4]
      go_simp
    refine ⟨flow_value rfl rfl fun a w h => ?_, ?_⟩
    · have e1 : a.tmps.getD 1 undef = .pointer (some ⟨A, 0, none⟩) := h.rest 1 (by kernel_rfl)
      refine ⟨.pointer (some ⟨A, 2, none⟩), w, ?_, h.base, Or.inl (gb_refl _ _), rfl⟩
      clear h
      simp only [execOp, Act.eval, e1]
      go_simp
    refine ⟨flow_value rfl rfl fun a w h => ?_, ?_⟩
    · have e70 : a.tmps.getD 70 undef = .pointer (some ⟨A, 2, none⟩) := h.dep 70 (by kernel_rfl)
      have c := h.base.a.cell (i := 2) rfl
      refine ⟨.int .u64 x2, w, ?_, h.base, Or.inl (gb_refl _ _), rfl⟩
      clear h
      simp only [execOp, Act.eval, e70]
      go_simp
    refine ⟨flow_value rfl rfl fun a w h => ?_, ?_⟩
    · have e69 : a.tmps.getD 69 undef = .int .u64 z1 := h.dep 69 (by kernel_rfl)
      have e71 : a.tmps.getD 71 undef = .int .u64 x2 := h.dep 71 (by kernel_rfl)
      refine ⟨.agg #[.int .u64 z1, .int .u64 x2], w, ?_, h.base, Or.inl (gb_refl _ _), rfl⟩
      clear h
      simp only [execOp, List.map_toArray, List.map_cons, List.map_nil, Act.eval, e69, e71]
      go_simp
    refine ⟨flow_value rfl rfl fun a w h => ?_, ?_⟩
    · have e1 : a.tmps.getD 1 undef = .pointer (some ⟨A, 0, none⟩) := h.rest 1 (by kernel_rfl)
      refine ⟨.pointer (some ⟨A, 4, none⟩), w, ?_, h.base, Or.inl (gb_refl _ _), rfl⟩
      clear h
      simp only [execOp, Act.eval, e1]
      go_simp
    refine ⟨flow_value rfl rfl fun a w h => ?_, ?_⟩
    · have e73 : a.tmps.getD 73 undef = .pointer (some ⟨A, 4, none⟩) := h.dep 73 (by kernel_rfl)
      have c := h.base.a.cell (i := 4) rfl
      refine ⟨.int .u64 x4, w, ?_, h.base, Or.inl (gb_refl _ _), rfl⟩
      clear h
      simp only [execOp, Act.eval, e73]
      go_simp
    refine ⟨flow_value rfl rfl fun a w h => ?_, ?_⟩
    · have e6 : a.tmps.getD 6 undef = .int .u64 z3 := (h.rest 6 (by kernel_rfl)).trans (congrArg (Value.int .u64) Hz3.out)
      refine ⟨.int .u64 z3, w, ?_, h.base, Or.inl (gb_refl _ _), rfl⟩
      clear h
      simp only [execOp, Act.eval, e6]
      go_simp
    refine ⟨flow_value rfl rfl fun a w h => ?_, ?_⟩
    · have e74 : a.tmps.getD 74 undef = .int .u64 x4 := h.dep 74 (by kernel_rfl)
      have e75 : a.tmps.getD 75 undef = .int .u64 z3 := h.dep 75 (by kernel_rfl)
      refine ⟨.agg #[.int .u64 x4, .int .u64 z3], w, ?_, h.base, Or.inl (gb_refl _ _), rfl⟩
      clear h
      simp only [execOp, List.map_toArray, List.map_cons, List.map_nil, Act.eval, e74, e75]
      go_simp
    refine ⟨flow_value rfl rfl fun a w h => ?_, ?_⟩
    · have e68 : a.tmps.getD 68 undef = .agg #[.int .u64 z0, .int .u64 x3] := h.dep 68 (by kernel_rfl)
      have e72 : a.tmps.getD 72 undef = .agg #[.int .u64 z1, .int .u64 x2] := h.dep 72 (by kernel_rfl)
      have e76 : a.tmps.getD 76 undef = .agg #[.int .u64 x4, .int .u64 z3] := h.dep 76 (by kernel_rfl)
      obtain ⟨_, _, _, _, _, hr5⟩ := h.base.r
      have hs := hr5.lt
      refine ⟨.slice (some ⟨w.heap.size, 0, none⟩) 3 3, w.alloc (.cells #[.int .u64 z0, .int .u64 x3, .int .u64 z1, .int .u64 x2, .int .u64 x4, .int .u64 z3] 88), ?_, h.base.alloc _, Or.inl (World.grownBy_alloc _ _ _), ⟨w.heap.size, by omega, rfl, Blk.new w _ _⟩⟩
      clear h
      simp only [execOp, List.map_toArray, List.map_cons, List.map_nil, Act.eval, e68, e72, e76]
      go_simp
    refine ⟨flow_call rfl rfl fun a w h => ?_, ?_⟩
    · obtain ⟨PB, hne, e77, hP⟩ : ∃ PB, PB ≠ R ∧ a.tmps.getD 77 undef = .slice (some ⟨PB, 0, none⟩) 3 3 ∧ Blk w PB 88 (flat [(z0, x3), (z1, x2), (x4, z3)]) := h.dep 77 (by kernel_rfl)
      have hb := h.base
      refine ⟨53, #[.slice (some ⟨PB, 0, none⟩) 3 3], ?_, ?_⟩
      · clear h hb hP
        have e77x : a.tmps[77]?.getD undef = .slice (some ⟨PB, 0, none⟩) 3 3 := by simpa using e77
        clear e77
        go_simp
      · refine (sumUp_any PB 3 _ w _ rfl (by decide) hP ?_).mono ?_
        · intro p hp; simp only [List.mem_cons, List.not_mem_nil, or_false] at hp; rcases hp with rfl | rfl | rfl <;> exact ⟨by assumption, by assumption, by assumption, by assumption⟩
        · rintro e w1 ⟨rfl, hg⟩; exact ⟨_, rfl, hb.grown hg, Or.inl hg, by show sumV _ = _; rw [HS3.out]; rfl⟩
    refine ⟨flow_value rfl rfl fun a w h => ?_, ?_⟩
    · have e3 : a.tmps.getD 3 undef = .int .u64 z0 := (h.rest 3 (by kernel_rfl)).trans (congrArg (Value.int .u64) Hz0.out)
      refine ⟨.int .u64 z0, w, ?_, h.base, Or.inl (gb_refl _ _), rfl⟩
      clear h
      simp only [execOp, Act.eval, e3]
      go_simp
    refine ⟨flow_value rfl rfl fun a w h => ?_, ?_⟩
    · have e1 : a.tmps.getD 1 undef = .pointer (some ⟨A, 0, none⟩) := h.rest 1 (by kernel_rfl)
      refine ⟨.pointer (some ⟨A, 4, none⟩), w, ?_, h.base, Or.inl (gb_refl _ _), rfl⟩
      clear h
      simp only [execOp, Act.eval, e1]
      go_simp
    refine ⟨flow_value rfl rfl fun a w h => ?_, ?_⟩
    · have e80 : a.tmps.getD 80 undef = .pointer (some ⟨A, 4, none⟩) := h.dep 80 (by kernel_rfl)
      have c := h.base.a.cell (i := 4) rfl
      refine ⟨.int .u64 x4, w, ?_, h.base, Or.inl (gb_refl _ _), rfl⟩
      clear h
      simp only [execOp, Act.eval, e80]
      go_simp
    refine ⟨flow_value rfl rfl fun a w h => ?_, ?_⟩
    · have e79 : a.tmps.getD 79 undef = .int .u64 z0 := h.dep 79 (by kernel_rfl)
      have e81 : a.tmps.getD 81 undef = .int .u64 x4 := h.dep 81 (by kernel_rfl)
      refine ⟨.agg #[.int .u64 z0, .int .u64 x4], w, ?_, h.base, Or.inl (gb_refl _ _), rfl⟩
      clear h
      simp only [execOp, List.map_toArray, List.map_cons, List.map_nil, Act.eval, e79, e81]
      go_simp
    refine ⟨flow_value rfl rfl fun a w h => ?_, ?_⟩
    · have e4 : a.tmps.getD 4 undef = .int .u64 z1 := (h.rest 4 (by kernel_rfl)).trans (congrArg (Value.int .u64) Hz1.out)
      refine ⟨.int .u64 z1, w, ?_, h.base, Or.inl (gb_refl _ _), rfl⟩
      clear h
      simp only [execOp, Act.eval, e4]
      go_simp
    refine ⟨flow_value rfl rfl fun a w h => ?_, ?_⟩
    · have e1 : a.tmps.getD 1 undef = .pointer (some ⟨A, 0, none⟩) := h.rest 1 (by kernel_rfl)
      refine ⟨.pointer (some ⟨A, 3, none⟩), w, ?_, h.base, Or.inl (gb_refl _ _), rfl⟩
      clear h
      simp only [execOp, Act.eval, e1]
      go_simp
    refine ⟨flow_value rfl rfl fun a w h => ?_, ?_⟩
    · have e84 : a.tmps.getD 84 undef = .pointer (some ⟨A, 3, none⟩) := h.dep 84 (by kernel_rfl)
      have c := h.base.a.cell (i := 3) rfl
      refine ⟨.int .u64 x3, w, ?_, h.base, Or.inl (gb_refl _ _), rfl⟩
      clear h
      simp only [execOp, Act.eval, e84]
      go_simp
    refine ⟨flow_value rfl rfl fun a w h => ?_, ?_⟩
    · have e83 : a.tmps.getD 83 undef = .int .u64 z1 := h.dep 83 (by kernel_rfl)
      have e85 : a.tmps.getD 85 undef = .int .u64 x3 := h.dep 85 (by kernel_rfl)
      refine ⟨.agg #[.int .u64 z1, .int .u64 x3], w, ?_, h.base, Or.inl (gb_refl _ _), rfl⟩
      clear h
      simp only [execOp, List.map_toArray, List.map_cons, List.map_nil, Act.eval, e83, e85]
      go_simp
    refine ⟨flow_value rfl rfl fun a w h => ?_, ?_⟩
    · have e1 : a.tmps.getD 1 undef = .pointer (some ⟨A, 0, none⟩) := h.rest 1 (by kernel_rfl)
      refine ⟨.pointer (some ⟨A, 2, none⟩), w, ?_, h.base, Or.inl (gb_refl _ _), rfl⟩
      clear h
      simp only [execOp, Act.eval, e1]
      go_simp
    refine ⟨flow_value rfl rfl fun a w h => ?_, ?_⟩
    · have e87 : a.tmps.getD 87 undef = .pointer (some ⟨A, 2, none⟩) := h.dep 87 (by kernel_rfl)
      have c := h.base.a.cell (i := 2) rfl
      refine ⟨.int .u64 x2, w, ?_, h.base, Or.inl (gb_refl _ _), rfl⟩
      clear h
      simp only [execOp, Act.eval, e87]
      go_simp
    refine ⟨flow_value rfl rfl fun a w h => ?_, ?_⟩
    · have e1 : a.tmps.getD 1 undef = .pointer (some ⟨A, 0, none⟩) := h.rest 1 (by kernel_rfl)
      refine ⟨.pointer (some ⟨A, 2, none⟩), w, ?_, h.base, Or.inl (gb_refl _ _), rfl⟩
      clear h
      simp only [execOp, Act.eval, e1]
      go_simp
    refine ⟨flow_value rfl rfl fun a w h => ?_, ?_⟩
    · have e89 : a.tmps.getD 89 undef = .pointer (some ⟨A, 2, none⟩) := h.dep 89 (by kernel_rfl)
      have c := h.base.a.cell (i := 2) rfl
      refine ⟨.int .u64 x2, w, ?_, h.base, Or.inl (gb_refl _ _), rfl⟩
      clear h
      simp only [execOp, Act.eval, e89]
      go_simp
    refine ⟨flow_value rfl rfl fun a w h => ?_, ?_⟩
    · have e88 : a.tmps.getD 88 undef = .int .u64 x2 := h.dep 88 (by kernel_rfl)
      have e90 : a.tmps.getD 90 undef = .int .u64 x2 := h.dep 90 (by kernel_rfl)
      refine ⟨.agg #[.int .u64 x2, .int .u64 x2], w, ?_, h.base, Or.inl (gb_refl _ _), rfl⟩
      clear h
      simp only [execOp, List.map_toArray, List.map_cons, List.map_nil, Act.eval, e88, e90]
      go_simp
    refine ⟨flow_value rfl rfl fun a w h => ?_, ?_⟩
    · have e82 : a.tmps.getD 82 undef = .agg #[.int .u64 z0, .int .u64 x4] := h.dep 82 (by kernel_rfl)
      have e86 : a.tmps.getD 86 undef = .agg #[.int .u64 z1, .int .u64 x3] := h.dep 86 (by kernel_rfl)
      have e91 : a.tmps.getD 91 undef = .agg #[.int .u64 x2, .int .u64 x2] := h.dep 91 (by kernel_rfl)
      obtain ⟨_, _, _, _, _, hr5⟩ := h.base.r
      have hs := hr5.lt
      refine ⟨.slice (some ⟨w.heap.size, 0, none⟩) 3 3, w.alloc (.cells #[.int .u64 z0, .int .u64 x4, .int .u64 z1, .int .u64 x3, .int .u64 x2, .int .u64 x2] 88), ?_, h.base.alloc _, Or.inl (World.grownBy_alloc _ _ _), ⟨w.heap.size, by omega, rfl, Blk.new w _ _⟩⟩
      clear h
      simp only [execOp, List.map_toArray, List.map_cons, List.map_nil, Act.eval, e82, e86, e91]
      go_simp
    refine ⟨flow_call rfl rfl fun a w h => ?_, ?_⟩
    · obtain ⟨PB, hne, e92, hP⟩ : ∃ PB, PB ≠ R ∧ a.tmps.getD 92 undef = .slice (some ⟨PB, 0, none⟩) 3 3 ∧ Blk w PB 88 (flat [(z0, x4), (z1, x3), (x2, x2)]) := h.dep 92 (by kernel_rfl)
      have hb := h.base
      refine ⟨53, #[.slice (some ⟨PB, 0, none⟩) 3 3], ?_, ?_⟩
      · clear h hb hP
        have e92x : a.tmps[92]?.getD undef = .slice (some ⟨PB, 0, none⟩) 3 3 := by simpa using e92
        clear e92
        go_simp
      · refine (sumUp_any PB 3 _ w _ rfl (by decide) hP ?_).mono ?_
        · intro p hp; simp only [List.mem_cons, List.not_mem_nil, or_false] at hp; rcases hp with rfl | rfl | rfl <;> exact ⟨by assumption, by assumption, by assumption, by assumption⟩
        · rintro e w1 ⟨rfl, hg⟩; exact ⟨_, rfl, hb.grown hg, Or.inl hg, by show sumV _ = _; rw [HS4.out]; rfl⟩
    refine ⟨flow_value rfl rfl fun a w h => ?_, ?_⟩
    · have e33 : a.tmps.getD 33 undef = .agg #[.int .u64 (S0 / 18446744073709551616), .int .u64 (S0 % 18446744073709551616)] := h.dep 33 (by kernel_rfl)
      have e48 : a.tmps.getD 48 undef = .agg #[.int .u64 (S1 / 18446744073709551616), .int .u64 (S1 % 18446744073709551616)] := h.dep 48 (by kernel_rfl)
      have e64 : a.tmps.getD 64 undef = .agg #[.int .u64 (S2 / 18446744073709551616), .int .u64 (S2 % 18446744073709551616)] := h.dep 64 (by kernel_rfl)
      have e78 : a.tmps.getD 78 undef = .agg #[.int .u64 (S3 / 18446744073709551616), .int .u64 (S3 % 18446744073709551616)] := h.dep 78 (by kernel_rfl)
      have e93 : a.tmps.getD 93 undef = .agg #[.int .u64 (S4 / 18446744073709551616), .int .u64 (S4 % 18446744073709551616)] := h.dep 93 (by kernel_rfl)
      refine ⟨.agg #[.int .u64 (S0 / 18446744073709551616), .int .u64 (S0 % 18446744073709551616), .int .u64 (S1 / 18446744073709551616), .int .u64 (S1 % 18446744073709551616), .int .u64 (S2 / 18446744073709551616), .int .u64 (S2 % 18446744073709551616), .int .u64 (S3 / 18446744073709551616), .int .u64 (S3 % 18446744073709551616), .int .u64 (S4 / 18446744073709551616), .int .u64 (S4 % 18446744073709551616)], w, ?_, h.base, Or.inl (gb_refl _ _), rfl⟩
      clear h
      simp only [execOp, List.map_toArray, List.map_cons, List.map_nil, Act.eval, e33, e48, e64, e78, e93]
      go_simp
    refine ⟨flow_call rfl rfl fun a w h => ?_, ?_⟩
    · have e94 : a.tmps.getD 94 undef = .agg #[.int .u64 (S0 / 18446744073709551616), .int .u64 (S0 % 18446744073709551616), .int .u64 (S1 / 18446744073709551616), .int .u64 (S1 % 18446744073709551616), .int .u64 (S2 / 18446744073709551616), .int .u64 (S2 % 18446744073709551616), .int .u64 (S3 / 18446744073709551616), .int .u64 (S3 % 18446744073709551616), .int .u64 (S4 / 18446744073709551616), .int .u64 (S4 % 18446744073709551616)] := h.dep 94 (by kernel_rfl)
      have hb := h.base
      refine ⟨52, #[.agg #[.int .u64 (S0 / 18446744073709551616), .int .u64 (S0 % 18446744073709551616), .int .u64 (S1 / 18446744073709551616), .int .u64 (S1 % 18446744073709551616), .int .u64 (S2 / 18446744073709551616), .int .u64 (S2 % 18446744073709551616), .int .u64 (S3 / 18446744073709551616), .int .u64 (S3 % 18446744073709551616), .int .u64 (S4 / 18446744073709551616), .int .u64 (S4 % 18446744073709551616)]], ?_, ?_⟩
      · clear h hb
        have e94x : a.tmps[94]?.getD undef = .agg #[.int .u64 (S0 / 18446744073709551616), .int .u64 (S0 % 18446744073709551616), .int .u64 (S1 / 18446744073709551616), .int .u64 (S1 % 18446744073709551616), .int .u64 (S2 / 18446744073709551616), .int .u64 (S2 % 18446744073709551616), .int .u64 (S3 / 18446744073709551616), .int .u64 (S3 % 18446744073709551616), .int .u64 (S4 / 18446744073709551616), .int .u64 (S4 % 18446744073709551616)] := by simpa using e94
        clear e94
        go_simp
      · refine (join_sums S0 S1 S2 S3 S4 w (by assumption) (by assumption) (by assumption) (by assumption) (by assumption)).mono ?_
        rintro e w1 ⟨rfl, hg⟩
        exact ⟨_, rfl, hb.grown hg, Or.inl hg, by show Fe.v _ = Fe.v _; rw [Hr.out]⟩
    refine ⟨flow_skip rfl rfl fun a w h => ?_, ?_⟩
    · have e95 : a.tmps.getD 95 undef = .agg #[.int .u64 r.x0, .int .u64 r.x1, .int .u64 r.x2, .int .u64 r.x3, .int .u64 r.x4] := h.dep 95 (by kernel_rfl)
      have e2 : a.tmps.getD 2 undef = .pointer (some ⟨R, 0, none⟩) := h.rest 2 (by kernel_rfl)
      obtain ⟨u0, u1, u2, u3, u4, hR⟩ := h.base.r
      have c0r := hR.cell (i := 0) rfl; have f0r := hR.free 0
      have c1r := hR.cell (i := 1) rfl; have f1r := hR.free 1
      have c2r := hR.cell (i := 2) rfl; have f2r := hR.free 2
      have c3r := hR.cell (i := 3) rfl; have f3r := hR.free 3
      have c4r := hR.cell (i := 4) rfl; have f4r := hR.free 4
      refine ⟨_, ?_, h.base.set5 _ _ _ _ _, Or.inr ⟨gb_set (gb_set (gb_set (gb_set (gb_set (gb_refl _ _) _ _) _ _) _ _) _ _) _ _, h.base.r.set5 _ _ _ _ _⟩, h.base.r.set5 _ _ _ _ _⟩
      clear h
      simp only [execOp, Act.eval, e95, e2]
      go_simp
    trivial
  · intro a w1 hB hsz hdf hrest hslots hmems
    have hM := hmems 77 _ rfl rfl
    have eR0 : a.tmps.getD 2 undef = .pointer (some ⟨(w.heap.size + 1), 0, none⟩) := hrest 2 (by kernel_rfl)
    have hg := hB.g
    clear hmems hslots hrest hB
    have eR1 : a.tmps[2]?.getD undef = .pointer (some ⟨(w.heap.size + 1), 0, none⟩) := by simpa using eR0
    have z0 := hM.cell (i := 0) rfl
    have z1 := hM.cell (i := 1) rfl
    have z2 := hM.cell (i := 2) rfl
    have z3 := hM.cell (i := 3) rfl
    have z4 := hM.cell (i := 4) rfl
    clear hM
    go_wp2
    refine bodyPost_ret (v := .agg #[.int .u64 r.x0, .int .u64 r.x1, .int .u64 r.x2, .int .u64 r.x3, .int .u64 r.x4]) ?_ (by rw [hdf]) ⟨r, ?_, rfl, hg⟩
    · simp [results, Tryd.results28, go_sem, eR1, z0, z1, z2, z3, z4]
    · rw [Hr.out, ← HS0.out, ← HS1.out, ← HS2.out, ← HS3.out, ← HS4.out, ← Hz0.out, ← Hz1.out, ← Hz2.out, ← Hz3.out, ← Hz4.out, ← Hz5.out]
      simp only [wrapw]
      rfl
end Go.Proofs.YtleegbaigedebaaDoor

/- field: Add, Sub, Neg, One. -/
namespace Go.Proofs.YtleegbaigedebaaDoor
open Go.RowKit

def Fe.at (a : Fe) : Nat → Int
  | 0 => a.x0
  | 1 => a.x1
  | 2 => a.x2
  | 3 => a.x3
  | _ => a.x4
theorem Fe.Ok.at {a : Fe} (h : a.Ok) (i : Nat) : 0 ≤ a.at i ∧ a.at i < 18446744073709551616 := by
  obtain ⟨n0, n1, n2, n3, n4, l0, l1, l2, l3, l4⟩ := h
  match i with
  | 0 => exact ⟨n0, l0⟩
  | 1 => exact ⟨n1, l1⟩
  | 2 => exact ⟨n2, l2⟩
  | 3 => exact ⟨n3, l3⟩
  | n + 4 => exact ⟨n4, l4⟩
def mixV (f g : Nat → Int) (k : Nat) : List Value := (List.range 5).map fun i => .int .u64 (if i < k then g i else f i)
theorem mixV_length (f g : Nat → Int) (k : Nat) : (mixV f g k).length = 5 := by simp [mixV]
theorem mixV_get (f g : Nat → Int) (k i : Nat) (h : i < 5) : (mixV f g k)[i]? = some (.int .u64 (if i < k then g i else f i)) := by
  unfold mixV
  rw [List.getElem?_map, List.getElem?_range h]
  rfl
theorem mixV_set (f g : Nat → Int) (k : Nat) (h : k < 5) : (mixV f g k).set k (.int .u64 (g k)) = mixV f g (k + 1) := by
  apply List.ext_getElem?
  intro i
  rw [List.getElem?_set]
  by_cases hi : i < 5
  · rw [mixV_get f g (k + 1) i hi]
    by_cases e : k = i
    · subst e; simp [mixV_length, h]
    · rw [if_neg e, mixV_get f g k i hi]
      congr 2
      by_cases hk : i < k
      · rw [if_pos hk, if_pos (by omega)]
      · rw [if_neg hk, if_neg (by omega)]
  · rw [List.getElem?_eq_none (by rw [mixV_length]; omega), List.getElem?_eq_none (by rw [mixV_length]; omega)]
    split
    · rw [mixV_length]; simp; omega
    · rfl

theorem gb_set5 {w0 w : World} {B : Nat} (h : w0.grownBy w none) (hB : w0.heap.size ≤ B) (v0 v1 v2 v3 v4 : Value) :
    w0.grownBy (((((w.setCell ⟨B, 0, none⟩ v0).setCell ⟨B, 1, none⟩ v1).setCell ⟨B, 2, none⟩ v2).setCell ⟨B, 3, none⟩ v3).setCell ⟨B, 4, none⟩ v4) none :=
  gb_set_new (gb_set_new (gb_set_new (gb_set_new (gb_set_new h hB _) hB _) hB _) hB _) hB _
theorem room5_set {w : World} {B : Nat} {T : TypeId} (h : Room5 w B T) {p : Addr} (hp : p.block ≠ B) (v : Value) : Room5 (w.setCell p v) B T :=
  let ⟨_, _, _, _, _, hb⟩ := h; ⟨_, _, _, _, _, hb.other hp v⟩
set_option maxHeartbeats 800000 in
theorem add_any (a b : Fe) (w : World) (ha : a.Ok) (hb : b.Ok) :
    Calls Tryd.prog 39 #[.agg #[.int .u64 a.x0, .int .u64 a.x1, .int .u64 a.x2, .int .u64 a.x3, .int .u64 a.x4], .agg #[.int .u64 b.x0, .int .u64 b.x1, .int .u64 b.x2, .int .u64 b.x3, .int .u64 b.x4]] w (FeOut (Fe.addF a b) w) := by
  have hA := ha.at
  have hB := hb.at
  clear ha hb
  go_enter Tryd.func39, Tryd.ntmps39
  go_wp2
  go_loopw [6] (fun i wr => ∃ k : Nat, k ≤ 5 ∧ i = .int .i64 k ∧ w.grownBy wr none ∧ Blk wr w.heap.size 26 (mixV a.at (fun i => IntKind.u64.wrap (a.at i + b.at i)) k) ∧ Blk wr (w.heap.size + 1) 26 (mixV b.at b.at 0) ∧ Room5 wr (w.heap.size + 2) 26) (fun i _ => 5 - (intOf i).toNat)
  case atStart =>
    exact ⟨0, by omega, rfl, gb_alloc (gb_alloc (gb_alloc (gb_refl _ _) _) _) _, ((Blk.new w (mixV a.at (fun i => IntKind.u64.wrap (a.at i + b.at i)) 0) _).alloc _).alloc _, (Blk.newAt (w.alloc _) (mixV b.at b.at 0) _ (by simp)).alloc _, ⟨_, _, _, _, _, Blk.newAt _ [.int .u64 0, .int .u64 0, .int .u64 0, .int .u64 0, .int .u64 0] _ (by simp)⟩⟩
  case round =>
    obtain ⟨k, hk, rfl, hg, hBa, hBb, hR⟩ := hrel
    by_cases hlt : k < 5
    · have c0 := hBa.cell (mixV_get a.at (fun i => IntKind.u64.wrap (a.at i + b.at i)) k k hlt)
      have c1 := hBb.cell (mixV_get b.at b.at 0 k hlt)
      rw [if_neg (by omega)] at c0 c1
      have f0 := hBa.free k
      have hset := hBa.set k (.int .u64 (IntKind.u64.wrap (a.at k + b.at k)))
      have Hset := Lib.hid (mixV_set a.at (fun i => IntKind.u64.wrap (a.at i + b.at i)) k hlt)
      have i0 : (0 : Int) ≤ (k : Int) := by omega
      have i1 : (k : Int) < 5 := by omega
      go_wp2
      go_region
      go_wp2
      go_roundw
      case rel => exact ⟨k + 1, by omega, by go_num, gb_set_new (gb_drew hg) (Nat.le_refl _) _, Hset.out ▸ hset, (hBb.drew).other (by simp) _, room5_set (hR.grown (gb_drew (gb_refl _ none)) (by simp)) (by simp) _⟩
      case measure => simp [intOf]; omega
    · obtain rfl : k = 5 := by omega
      have c0 := hBa.cell (mixV_get a.at (fun i => IntKind.u64.wrap (a.at i + b.at i)) 5 0 (by decide))
      have c1 := hBa.cell (mixV_get a.at (fun i => IntKind.u64.wrap (a.at i + b.at i)) 5 1 (by decide))
      have c2 := hBa.cell (mixV_get a.at (fun i => IntKind.u64.wrap (a.at i + b.at i)) 5 2 (by decide))
      have c3 := hBa.cell (mixV_get a.at (fun i => IntKind.u64.wrap (a.at i + b.at i)) 5 3 (by decide))
      have c4 := hBa.cell (mixV_get a.at (fun i => IntKind.u64.wrap (a.at i + b.at i)) 5 4 (by decide))
      rw [if_pos (by decide)] at c0 c1 c2 c3 c4
      clear hBa hBb
      go_wp2_with (go_at_call 55; refine (carry_w _ _ _ _ _ _).mono ?_; rintro e w1 ⟨r, hr, rfl, hg1⟩; obtain ⟨u0, u1, u2, u3, u4, hR1⟩ := hR.grown hg1 (by simp); have z0 := hR1.cell (i := 0) rfl; have z1 := hR1.cell (i := 1) rfl; have z2 := hR1.cell (i := 2) rfl; have z3 := hR1.cell (i := 3) rfl; have z4 := hR1.cell (i := 4) rfl; have y0 := hR1.free 0; have y1 := hR1.free 1; have y2 := hR1.free 2; have y3 := hR1.free 3; have y4 := hR1.free 4)
      refine bodyPost_ret (v := .agg #[.int .u64 r.x0, .int .u64 r.x1, .int .u64 r.x2, .int .u64 r.x3, .int .u64 r.x4]) ?_ rfl ⟨r, ?_, rfl, ?_⟩
      · simp [results, Tryd.results39, go_sem, z0, z1, z2, z3, z4]
      · have e := hr.out
        rw [e]
        unfold Fe.addF
        exact Lib.hid rfl
      · exact gb_set5 (gb_trans hg hg1) (by omega) _ _ _ _ _
def fourP : Nat → Int
  | 0 => 9007199254740916
  | _ => 9007199254740988
def rootI : Fe := ⟨1718705420411056, 234908883556509, 2233514472574048, 2117202627021982, 765476049583133⟩
theorem fourP_bd (i : Nat) : 0 ≤ fourP i ∧ fourP i < 18446744073709551616 := by
  cases i <;> simp [fourP]
structure FTab (w : World) : Prop where
  lt : 2 < w.heap.size ∧ 3 < w.heap.size
  p : ∀ i, i < 5 → w.cell? ⟨2, i, none⟩ = some (.int .u64 (fourP i))
  q : ∀ i, i < 5 → w.cell? ⟨3, i, none⟩ = some (.int .u64 (rootI.at i))
theorem FTab.grown {w w' : World} (h : FTab w) (hg : w.grownBy w' none) : FTab w' :=
  ⟨⟨Nat.lt_of_lt_of_le h.lt.1 hg.size, Nat.lt_of_lt_of_le h.lt.2 hg.size⟩, fun i hi => by rw [gb_cell hg (p := ⟨2, i, none⟩) h.lt.1 (by simp)]; exact h.p i hi,
    fun i hi => by rw [gb_cell hg (p := ⟨3, i, none⟩) h.lt.2 (by simp)]; exact h.q i hi⟩

set_option maxHeartbeats 800000 in
theorem sub_any (a b : Fe) (w : World) (hT : FTab w) (ha : a.Ok) (hb : b.Ok) :
    Calls Tryd.prog 29 #[.agg #[.int .u64 a.x0, .int .u64 a.x1, .int .u64 a.x2, .int .u64 a.x3, .int .u64 a.x4], .agg #[.int .u64 b.x0, .int .u64 b.x1, .int .u64 b.x2, .int .u64 b.x3, .int .u64 b.x4]] w (FeOut (Fe.subF a b) w) := by
  have hA := ha.at
  have hB := hb.at
  clear ha hb
  go_enter Tryd.func29, Tryd.ntmps29
  go_wp2
  go_loopw [6] (fun i wr => ∃ k : Nat, k ≤ 5 ∧ i = .int .i64 k ∧ w.grownBy wr none ∧ Blk wr w.heap.size 26 (mixV a.at (fun i => IntKind.u64.wrap (a.at i + IntKind.u64.wrap (fourP i - b.at i))) k) ∧ Blk wr (w.heap.size + 1) 26 (mixV b.at b.at 0) ∧ Room5 wr (w.heap.size + 2) 26) (fun i _ => 5 - (intOf i).toNat)
  case atStart =>
    exact ⟨0, by omega, rfl, gb_alloc (gb_alloc (gb_alloc (gb_refl _ _) _) _) _, ((Blk.new w (mixV a.at (fun i => IntKind.u64.wrap (a.at i + IntKind.u64.wrap (fourP i - b.at i))) 0) _).alloc _).alloc _, (Blk.newAt (w.alloc _) (mixV b.at b.at 0) _ (by simp)).alloc _, ⟨_, _, _, _, _, Blk.newAt _ [.int .u64 0, .int .u64 0, .int .u64 0, .int .u64 0, .int .u64 0] _ (by simp)⟩⟩
  case round =>
    obtain ⟨k, hk, rfl, hg, hBa, hBb, hR⟩ := hrel
    by_cases hlt : k < 5
    · have c0 := hBa.cell (mixV_get a.at (fun i => IntKind.u64.wrap (a.at i + IntKind.u64.wrap (fourP i - b.at i))) k k hlt)
      have c1 := hBb.cell (mixV_get b.at b.at 0 k hlt)
      rw [if_neg (by omega)] at c0 c1
      have f0 := hBa.free k
      have ct := (hT.grown hg).p k hlt
      have hf := fourP_bd k
      have hset := hBa.set k (.int .u64 (IntKind.u64.wrap (a.at k + IntKind.u64.wrap (fourP k - b.at k))))
      have Hset := Lib.hid (mixV_set a.at (fun i => IntKind.u64.wrap (a.at i + IntKind.u64.wrap (fourP i - b.at i))) k hlt)
      have i0 : (0 : Int) ≤ (k : Int) := by omega
      have i1 : (k : Int) < 5 := by omega
      go_wp2
      go_region
      go_wp2
      go_roundw
      case rel => exact ⟨k + 1, by omega, by go_num, gb_set_new (gb_drew hg) (Nat.le_refl _) _, Hset.out ▸ hset, (hBb.drew).other (by simp) _, room5_set (hR.grown (gb_drew (gb_refl _ none)) (by simp)) (by simp) _⟩
      case measure => simp [intOf]; omega
    · obtain rfl : k = 5 := by omega
      have c0 := hBa.cell (mixV_get a.at (fun i => IntKind.u64.wrap (a.at i + IntKind.u64.wrap (fourP i - b.at i))) 5 0 (by decide))
      have c1 := hBa.cell (mixV_get a.at (fun i => IntKind.u64.wrap (a.at i + IntKind.u64.wrap (fourP i - b.at i))) 5 1 (by decide))
      have c2 := hBa.cell (mixV_get a.at (fun i => IntKind.u64.wrap (a.at i + IntKind.u64.wrap (fourP i - b.at i))) 5 2 (by decide))
      have c3 := hBa.cell (mixV_get a.at (fun i => IntKind.u64.wrap (a.at i + IntKind.u64.wrap (fourP i - b.at i))) 5 3 (by decide))
      have c4 := hBa.cell (mixV_get a.at (fun i => IntKind.u64.wrap (a.at i + IntKind.u64.wrap (fourP i - b.at i))) 5 4 (by decide))
      rw [if_pos (by decide)] at c0 c1 c2 c3 c4
      clear hBa hBb
      clear hT
      go_wp2_with (go_at_call 55; refine (carry_w _ _ _ _ _ _).mono ?_; rintro e w1 ⟨r, hr, rfl, hg1⟩; obtain ⟨u0, u1, u2, u3, u4, hR1⟩ := hR.grown hg1 (by simp); have z0 := hR1.cell (i := 0) rfl; have z1 := hR1.cell (i := 1) rfl; have z2 := hR1.cell (i := 2) rfl; have z3 := hR1.cell (i := 3) rfl; have z4 := hR1.cell (i := 4) rfl; have y0 := hR1.free 0; have y1 := hR1.free 1; have y2 := hR1.free 2; have y3 := hR1.free 3; have y4 := hR1.free 4)
      refine bodyPost_ret (v := .agg #[.int .u64 r.x0, .int .u64 r.x1, .int .u64 r.x2, .int .u64 r.x3, .int .u64 r.x4]) ?_ rfl ⟨r, ?_, rfl, ?_⟩
      · simp [results, Tryd.results29, go_sem, z0, z1, z2, z3, z4]
      · have e := hr.out
        rw [e]
        unfold Fe.subF
        exact Lib.hid rfl
      · exact gb_set5 (gb_trans hg hg1) (by omega) _ _ _ _ _

set_option maxHeartbeats 400000 in
theorem neg_any (a : Fe) (w : World) (hT : FTab w) (ha : a.Ok) :
    Calls Tryd.prog 31 #[.agg #[.int .u64 a.x0, .int .u64 a.x1, .int .u64 a.x2, .int .u64 a.x3, .int .u64 a.x4]] w (FeOut (Fe.negF a) w) := by
  have hg0 : ∀ c0 c1, w.grownBy ((w.alloc c0).alloc c1) none := fun c0 c1 => gb_alloc (gb_alloc (gb_refl _ _) _) _
  have hz : Fe.Ok ⟨0, 0, 0, 0, 0⟩ := by constructor <;> decide
  go_enter Tryd.func31, Tryd.ntmps31
  go_wp2_with (go_at_call 29; refine (sub_any ⟨0, 0, 0, 0, 0⟩ a _ (hT.grown (hg0 _ _)) hz ha).mono ?_; rintro e w1 ⟨r, hr, rfl, hg1⟩; have hg2 := gb_trans (hg0 _ _) hg1; obtain ⟨u0, u1, u2, u3, u4, hR1⟩ : Room5 w1 (w.heap.size + 1) 26 := Room5.grown ⟨_, _, _, _, _, Blk.newAt _ [.int .u64 0, .int .u64 0, .int .u64 0, .int .u64 0, .int .u64 0] _ (by simp)⟩ hg1 (by simp); have z0 := hR1.cell (i := 0) rfl; have z1 := hR1.cell (i := 1) rfl; have z2 := hR1.cell (i := 2) rfl; have z3 := hR1.cell (i := 3) rfl; have z4 := hR1.cell (i := 4) rfl; have y0 := hR1.free 0; have y1 := hR1.free 1; have y2 := hR1.free 2; have y3 := hR1.free 3; have y4 := hR1.free 4)
  refine bodyPost_ret (v := .agg #[.int .u64 r.x0, .int .u64 r.x1, .int .u64 r.x2, .int .u64 r.x3, .int .u64 r.x4]) ?_ rfl ⟨r, hr, rfl, gb_set5 hg2 (by omega) _ _ _ _ _⟩
  simp [results, Tryd.results31, go_sem, z0, z1, z2, z3, z4]
set_option maxHeartbeats 400000 in
theorem one_any (w : World) : Calls Tryd.prog 30 #[] w (FeOut Fe.oneF w) := by
  go_enter Tryd.func30, Tryd.ntmps30
  go_wp2
  refine bodyPost_ret (v := .agg #[.int .u64 1, .int .u64 0, .int .u64 0, .int .u64 0, .int .u64 0]) ?_ rfl ⟨Fe.oneF, Lib.hid rfl, rfl, gb_alloc (gb_refl _ _) _⟩
  simp [results, Tryd.results30, go_sem]
end Go.Proofs.YtleegbaigedebaaDoor

/- field: least: the limbs of the number from 0 to p - 1. -/
namespace Go.Proofs.YtleegbaigedebaaDoor
open Go.RowKit

def ov (c : Fe) : Nat → Int
  | 0 => 19
  | 1 => Fe.over1 c
  | 2 => Fe.over2 c
  | 3 => Fe.over3 c
  | 4 => Fe.over4 c
  | _ => Fe.over5 c
theorem ov_bd {c : Fe} (h : Fe.Low c) (k : Nat) : 0 ≤ ov c k ∧ ov c k ≤ 19 := by
  obtain ⟨n0, n1, n2, n3, n4, l0, l1, l2, l3, l4⟩ := h
  match k with
  | 0 => simp [ov]
  | 1 => simp only [ov, Fe.over1]; omega
  | 2 => simp only [ov, Fe.over2, Fe.over1]; omega
  | 3 => simp only [ov, Fe.over3, Fe.over2, Fe.over1]; omega
  | 4 => simp only [ov, Fe.over4, Fe.over3, Fe.over2, Fe.over1]; omega
  | n + 5 => simp only [ov, Fe.over5, Fe.over4, Fe.over3, Fe.over2, Fe.over1]; omega
def leastL (l0 l1 l2 l3 l4 x1 x2 x3 x4 : Int) : Nat → List Value
  | 0 => [.int .u64 l0, .int .u64 x1, .int .u64 x2, .int .u64 x3, .int .u64 x4]
  | 1 => [.int .u64 (l0 % 2251799813685248), .int .u64 l1, .int .u64 x2, .int .u64 x3, .int .u64 x4]
  | 2 => [.int .u64 (l0 % 2251799813685248), .int .u64 (l1 % 2251799813685248), .int .u64 l2, .int .u64 x3, .int .u64 x4]
  | 3 => [.int .u64 (l0 % 2251799813685248), .int .u64 (l1 % 2251799813685248), .int .u64 (l2 % 2251799813685248), .int .u64 l3, .int .u64 x4]
  | _ => [.int .u64 (l0 % 2251799813685248), .int .u64 (l1 % 2251799813685248), .int .u64 (l2 % 2251799813685248), .int .u64 (l3 % 2251799813685248), .int .u64 l4]

set_option maxHeartbeats 1600000 in
theorem least_any (a : Fe) (w : World) (ha : a.Ok) :
    Calls Tryd.prog 67 #[.agg #[.int .u64 a.x0, .int .u64 a.x1, .int .u64 a.x2, .int .u64 a.x3, .int .u64 a.x4]] w (FeOut (Fe.leastF a) w) := by
  have hg0 : ∀ c0 c1, w.grownBy ((w.alloc c0).alloc c1) none := fun c0 c1 => gb_alloc (gb_alloc (gb_refl _ _) _) _
  go_enter Tryd.func67, Tryd.ntmps67
  go_wp2_with (go_at_call 55; refine ((carry_fe a _ ha).mono fun _ _ => feOut_of).mono ?_; rintro e w1 ⟨c, hc, rfl, hg1⟩; have hg2 := gb_trans (hg0 _ _) hg1; have hR1 : Room5 w1 (w.heap.size + 1) 26 := Room5.grown ⟨_, _, _, _, _, Blk.newAt _ [.int .u64 0, .int .u64 0, .int .u64 0, .int .u64 0, .int .u64 0] _ (by simp)⟩ hg1 (by simp); have hA1 := Blk.grown (Blk.alloc (Blk.new w [.int .u64 a.x0, .int .u64 a.x1, .int .u64 a.x2, .int .u64 a.x3, .int .u64 a.x4] 26) _) hg1 (by simp); have z0 := hA1.cell (i := 0) rfl; have z1 := hA1.cell (i := 1) rfl; have z2 := hA1.cell (i := 2) rfl; have z3 := hA1.cell (i := 3) rfl; have z4 := hA1.cell (i := 4) rfl; have y0 := hA1.free 0; have y1 := hA1.free 1; have y2 := hA1.free 2; have y3 := hA1.free 3; have y4 := hA1.free 4)
  have hA2 : Blk (((((w1.setCell ⟨w.heap.size, 0, none⟩ (.int .u64 c.x0)).setCell ⟨w.heap.size, 1, none⟩ (.int .u64 c.x1)).setCell ⟨w.heap.size, 2, none⟩ (.int .u64 c.x2)).setCell ⟨w.heap.size, 3, none⟩ (.int .u64 c.x3)).setCell ⟨w.heap.size, 4, none⟩ (.int .u64 c.x4)) w.heap.size 26 [.int .u64 c.x0, .int .u64 c.x1, .int .u64 c.x2, .int .u64 c.x3, .int .u64 c.x4] := Room5.set5 ⟨_, _, _, _, _, hA1⟩ _ _ _ _ _
  have hR2 : Room5 (((((w1.setCell ⟨w.heap.size, 0, none⟩ (.int .u64 c.x0)).setCell ⟨w.heap.size, 1, none⟩ (.int .u64 c.x1)).setCell ⟨w.heap.size, 2, none⟩ (.int .u64 c.x2)).setCell ⟨w.heap.size, 3, none⟩ (.int .u64 c.x3)).setCell ⟨w.heap.size, 4, none⟩ (.int .u64 c.x4)) (w.heap.size + 1) 26 := room5_set (room5_set (room5_set (room5_set (room5_set hR1 (by simp) _) (by simp) _) (by simp) _) (by simp) _) (by simp) _
  have hg3 : w.grownBy (((((w1.setCell ⟨w.heap.size, 0, none⟩ (.int .u64 c.x0)).setCell ⟨w.heap.size, 1, none⟩ (.int .u64 c.x1)).setCell ⟨w.heap.size, 2, none⟩ (.int .u64 c.x2)).setCell ⟨w.heap.size, 3, none⟩ (.int .u64 c.x3)).setCell ⟨w.heap.size, 4, none⟩ (.int .u64 c.x4)) none := gb_set5 hg2 (Nat.le_refl _) _ _ _ _ _
  revert hA2 hR2 hg3
  clear hR1 hA1 z0 z1 z2 z3 z4 y0 y1 y2 y3 y4 hg1 hg2
  generalize (((((w1.setCell ⟨w.heap.size, 0, none⟩ (.int .u64 c.x0)).setCell ⟨w.heap.size, 1, none⟩ (.int .u64 c.x1)).setCell ⟨w.heap.size, 2, none⟩ (.int .u64 c.x2)).setCell ⟨w.heap.size, 3, none⟩ (.int .u64 c.x3)).setCell ⟨w.heap.size, 4, none⟩ (.int .u64 c.x4)) = W2
  intro hA2 hR2 hg3
  have hlow : Fe.Low c := by have e := hc.out; rw [e]; exact Fe.carry_low ha
  have hcr : Fe.Low c := hlow
  obtain ⟨n0, n1, n2, n3, n4, m0, m1, m2, m3, m4⟩ := hcr
  go_loop [10, 3] (fun i o => ∃ k : Nat, k ≤ 5 ∧ i = .int .i64 k ∧ o = .int .u64 (ov c k)) (fun i _ => 5 - (intOf i).toNat)
  case atStart => exact ⟨0, by omega, rfl, rfl⟩
  case round =>
    obtain ⟨k, hk, rfl, rfl⟩ := hrel
    rcases (show k = 0 ∨ k = 1 ∨ k = 2 ∨ k = 3 ∨ k = 4 ∨ k = 5 by omega) with rfl | rfl | rfl | rfl | rfl | rfl
    · have b0 := (ov_bd hlow 0).1
      have b1 := (ov_bd hlow 0).2
      have e0 := Lib.hid (show ov c 1 = (c.x0 + ov c 0) / 2251799813685248 from rfl)
      generalize ov c 0 = o at *
      have i0 : ∀ w, (Instr.index 26 (.agg #[.int .u64 c.x0, .int .u64 c.x1, .int .u64 c.x2, .int .u64 c.x3, .int .u64 c.x4]) (.int .i64 0)).run Tryd.prog w = .ok (.int .u64 c.x0) w := fun _ => by kernel_rfl
      go_wp2
      go_round
      case rel => exact ⟨1, by omega, rfl, by rw [e0.out]⟩
      case measure => simp [intOf]
    · have b0 := (ov_bd hlow 1).1
      have b1 := (ov_bd hlow 1).2
      have e0 := Lib.hid (show ov c 2 = (c.x1 + ov c 1) / 2251799813685248 from rfl)
      generalize ov c 1 = o at *
      have i0 : ∀ w, (Instr.index 26 (.agg #[.int .u64 c.x0, .int .u64 c.x1, .int .u64 c.x2, .int .u64 c.x3, .int .u64 c.x4]) (.int .i64 1)).run Tryd.prog w = .ok (.int .u64 c.x1) w := fun _ => by kernel_rfl
      go_wp2
      go_round
      case rel => exact ⟨2, by omega, rfl, by rw [e0.out]⟩
      case measure => simp [intOf]
    · have b0 := (ov_bd hlow 2).1
      have b1 := (ov_bd hlow 2).2
      have e0 := Lib.hid (show ov c 3 = (c.x2 + ov c 2) / 2251799813685248 from rfl)
      generalize ov c 2 = o at *
      have i0 : ∀ w, (Instr.index 26 (.agg #[.int .u64 c.x0, .int .u64 c.x1, .int .u64 c.x2, .int .u64 c.x3, .int .u64 c.x4]) (.int .i64 2)).run Tryd.prog w = .ok (.int .u64 c.x2) w := fun _ => by kernel_rfl
      go_wp2
      go_round
      case rel => exact ⟨3, by omega, rfl, by rw [e0.out]⟩
      case measure => simp [intOf]
    · have b0 := (ov_bd hlow 3).1
      have b1 := (ov_bd hlow 3).2
      have e0 := Lib.hid (show ov c 4 = (c.x3 + ov c 3) / 2251799813685248 from rfl)
      generalize ov c 3 = o at *
      have i0 : ∀ w, (Instr.index 26 (.agg #[.int .u64 c.x0, .int .u64 c.x1, .int .u64 c.x2, .int .u64 c.x3, .int .u64 c.x4]) (.int .i64 3)).run Tryd.prog w = .ok (.int .u64 c.x3) w := fun _ => by kernel_rfl
      go_wp2
      go_round
      case rel => exact ⟨4, by omega, rfl, by rw [e0.out]⟩
      case measure => simp [intOf]
    · have b0 := (ov_bd hlow 4).1
      have b1 := (ov_bd hlow 4).2
      have e0 := Lib.hid (show ov c 5 = (c.x4 + ov c 4) / 2251799813685248 from rfl)
      generalize ov c 4 = o at *
      have i0 : ∀ w, (Instr.index 26 (.agg #[.int .u64 c.x0, .int .u64 c.x1, .int .u64 c.x2, .int .u64 c.x3, .int .u64 c.x4]) (.int .i64 4)).run Tryd.prog w = .ok (.int .u64 c.x4) w := fun _ => by kernel_rfl
      go_wp2
      go_round
      case rel => exact ⟨5, by omega, rfl, by rw [e0.out]⟩
      case measure => simp [intOf]
    · have b0 := (ov_bd hlow 5).1
      have b1 := (ov_bd hlow 5).2
      have HO : Hid (ov c 5 = Fe.over5 c) := Lib.hid rfl
      generalize ov c 5 = o at *
      have z0 := hA2.cell (i := 0) rfl
      have y0 := hA2.free 0
      go_wp2
      have hA3 := hA2.set 0 (.int .u64 (c.x0 + 19 * o))
      have hR3 := room5_set hR2 (p := ⟨w.heap.size, 0, none⟩) (by simp) (.int .u64 (c.x0 + 19 * o))
      have hg4 := gb_set_new hg3 (p := ⟨w.heap.size, 0, none⟩) (Nat.le_refl _) (.int .u64 (c.x0 + 19 * o))
      have q0 : 0 ≤ c.x0 + 19 * o ∧ c.x0 + 19 * o < 4503599627370496 := by omega
      have HL0 : Hid (Fe.low0 c = c.x0 + 19 * o) := Lib.hid (by unfold Fe.low0; rw [← HO.out])
      clear hA2 hR2 hg3 z0 y0
      revert hA3 hR3 hg4
      generalize W2.setCell ⟨w.heap.size, 0, none⟩ (.int .u64 (c.x0 + 19 * o)) = W3
      generalize c.x0 + 19 * o = l0 at *
      obtain ⟨q00, q01⟩ := q0
      intro hA3 hR3 hg4
      obtain ⟨l1, h1⟩ : ∃ l, c.x1 + l0 / 2251799813685248 = l := ⟨_, rfl⟩
      have q10 : 0 ≤ l1 := by omega
      have q11 : l1 < 4503599627370496 := by omega
      have H1 := Lib.hid h1; clear h1
      obtain ⟨l2, h2⟩ : ∃ l, c.x2 + l1 / 2251799813685248 = l := ⟨_, rfl⟩
      have q20 : 0 ≤ l2 := by omega
      have q21 : l2 < 4503599627370496 := by omega
      have H2 := Lib.hid h2; clear h2
      obtain ⟨l3, h3⟩ : ∃ l, c.x3 + l2 / 2251799813685248 = l := ⟨_, rfl⟩
      have q30 : 0 ≤ l3 := by omega
      have q31 : l3 < 4503599627370496 := by omega
      have H3 := Lib.hid h3; clear h3
      obtain ⟨l4, h4⟩ : ∃ l, c.x4 + l3 / 2251799813685248 = l := ⟨_, rfl⟩
      have q40 : 0 ≤ l4 := by omega
      have q41 : l4 < 4503599627370496 := by omega
      have H4 := Lib.hid h4; clear h4
      go_loopw [24] (fun i wr => ∃ k : Nat, k ≤ 4 ∧ i = .int .i64 k ∧ w.grownBy wr none ∧ Blk wr w.heap.size 26 (leastL l0 l1 l2 l3 l4 c.x1 c.x2 c.x3 c.x4 k) ∧ Room5 wr (w.heap.size + 1) 26) (fun i _ => 4 - (intOf i).toNat)
      case atStart => exact ⟨0, by omega, rfl, hg4, hA3, hR3⟩
      case round =>
        obtain ⟨k, hk, rfl, hg, hA, hR⟩ := hrel
        clear hA3 hR3 hg4
        rcases (show k = 0 ∨ k = 1 ∨ k = 2 ∨ k = 3 ∨ k = 4 by omega) with rfl | rfl | rfl | rfl | rfl
        · have hB := hA
          unfold leastL at hB
          have z0 := hB.cell (i := 0) rfl
          have z1 := hB.cell (i := 1) rfl
          have f0 := hB.free 0
          have f1 := hB.free 1
          go_wp2
          go_region
          go_wp2
          rw [mask51 l0 (by omega) (by omega), H1.out]
          go_roundw
          case rel => exact ⟨1, by omega, rfl, gb_set_new (gb_set_new (gb_drew hg) (Nat.le_refl _) _) (Nat.le_refl _) _, ((hB.drew).set 1 (.int .u64 l1)).set 0 (.int .u64 (l0 % 2251799813685248)), room5_set (room5_set (hR.grown (gb_drew (gb_refl _ none)) (by simp)) (by simp) _) (by simp) _⟩
          case measure => simp [intOf]
        · have hB := hA
          unfold leastL at hB
          have z0 := hB.cell (i := 1) rfl
          have z1 := hB.cell (i := 2) rfl
          have f0 := hB.free 1
          have f1 := hB.free 2
          go_wp2
          go_region
          go_wp2
          rw [mask51 l1 (by omega) (by omega), H2.out]
          go_roundw
          case rel => exact ⟨2, by omega, rfl, gb_set_new (gb_set_new (gb_drew hg) (Nat.le_refl _) _) (Nat.le_refl _) _, ((hB.drew).set 2 (.int .u64 l2)).set 1 (.int .u64 (l1 % 2251799813685248)), room5_set (room5_set (hR.grown (gb_drew (gb_refl _ none)) (by simp)) (by simp) _) (by simp) _⟩
          case measure => simp [intOf]
        · have hB := hA
          unfold leastL at hB
          have z0 := hB.cell (i := 2) rfl
          have z1 := hB.cell (i := 3) rfl
          have f0 := hB.free 2
          have f1 := hB.free 3
          go_wp2
          go_region
          go_wp2
          rw [mask51 l2 (by omega) (by omega), H3.out]
          go_roundw
          case rel => exact ⟨3, by omega, rfl, gb_set_new (gb_set_new (gb_drew hg) (Nat.le_refl _) _) (Nat.le_refl _) _, ((hB.drew).set 3 (.int .u64 l3)).set 2 (.int .u64 (l2 % 2251799813685248)), room5_set (room5_set (hR.grown (gb_drew (gb_refl _ none)) (by simp)) (by simp) _) (by simp) _⟩
          case measure => simp [intOf]
        · have hB := hA
          unfold leastL at hB
          have z0 := hB.cell (i := 3) rfl
          have z1 := hB.cell (i := 4) rfl
          have f0 := hB.free 3
          have f1 := hB.free 4
          go_wp2
          go_region
          go_wp2
          rw [mask51 l3 (by omega) (by omega), H4.out]
          go_roundw
          case rel => exact ⟨4, by omega, rfl, gb_set_new (gb_set_new (gb_drew hg) (Nat.le_refl _) _) (Nat.le_refl _) _, ((hB.drew).set 4 (.int .u64 l4)).set 3 (.int .u64 (l3 % 2251799813685248)), room5_set (room5_set (hR.grown (gb_drew (gb_refl _ none)) (by simp)) (by simp) _) (by simp) _⟩
          case measure => simp [intOf]
        · have hB := hA
          unfold leastL at hB
          have z0 := hB.cell (i := 0) rfl
          have z1 := hB.cell (i := 1) rfl
          have z2 := hB.cell (i := 2) rfl
          have z3 := hB.cell (i := 3) rfl
          have z4 := hB.cell (i := 4) rfl
          have y4 := hB.free 4
          obtain ⟨u0, u1, u2, u3, u4, hR1⟩ := hR
          have t0 := hR1.cell (i := 0) rfl
          have t1 := hR1.cell (i := 1) rfl
          have t2 := hR1.cell (i := 2) rfl
          have t3 := hR1.cell (i := 3) rfl
          have t4 := hR1.cell (i := 4) rfl
          have v0 := hR1.free 0
          have v1 := hR1.free 1
          have v2 := hR1.free 2
          have v3 := hR1.free 3
          have v4 := hR1.free 4
          go_wp2
          rw [mask51 l4 (by omega) (by omega)]
          refine bodyPost_ret (v := .agg #[.int .u64 (l0 % 2251799813685248), .int .u64 (l1 % 2251799813685248), .int .u64 (l2 % 2251799813685248), .int .u64 (l3 % 2251799813685248), .int .u64 (l4 % 2251799813685248)]) ?_ rfl ⟨⟨l0 % 2251799813685248, l1 % 2251799813685248, l2 % 2251799813685248, l3 % 2251799813685248, l4 % 2251799813685248⟩, Lib.hid ?_, rfl, gb_set5 (gb_set_new hg (Nat.le_refl _) _) (by omega) _ _ _ _ _⟩
          · simp [results, Tryd.results67, go_sem, t0, t1, t2, t3, t4]
          · have e := hc.out
            have e1 : Fe.low1 c = l1 := by unfold Fe.low1; rw [HL0.out, H1.out]
            have e2 : Fe.low2 c = l2 := by unfold Fe.low2; rw [e1, H2.out]
            have e3 : Fe.low3 c = l3 := by unfold Fe.low3; rw [e2, H3.out]
            have e4 : Fe.low4 c = l4 := by unfold Fe.low4; rw [e3, H4.out]
            rw [← Fe.least_carry, ← e, Fe.least_is hlow, HL0.out, e1, e2, e3, e4]
end Go.Proofs.YtleegbaigedebaaDoor

/- field: words and bytes. -/
namespace Go.Proofs.YtleegbaigedebaaDoor
open Go.RowKit

def bytV (x : Int) (i : Nat) : Value := .int .u8 (x / 2 ^ (8 * i) % 256)
set_option maxHeartbeats 400000 in
theorem putWord_any (B off n c : Nat) (T : TypeId) (L : List Value) (x : Int) (w : World) (hn : 8 ≤ n) (hL : off + 8 ≤ L.length) (hb : Blk w B T L) :
    Calls Tryd.prog 68 #[.slice (some ⟨B, off, none⟩) n c, .int .u64 x] w fun e w' => e = .returned (.tuple #[]) ∧ w.grownBy w' (some B) ∧ Blk w' B T (putN L off (bytV x) 8) := by
  go_enter Tryd.func68, Tryd.ntmps68
  go_wp2
  go_loopw [5] (fun i wr => ∃ k : Nat, k ≤ 8 ∧ i = .int .i64 k ∧ w.grownBy wr (some B) ∧ Blk wr B T (putN L off (bytV x) k)) (fun i _ => 8 - (intOf i).toNat)
  case atStart => exact ⟨0, by omega, rfl, gb_refl _ _, hb⟩
  case round =>
    obtain ⟨k, hk, rfl, hg, hB⟩ := hrel
    by_cases hlt : k < 8
    · have hi : (k : Int) < (n : Int) := by omega
      have hs : 0 ≤ 8 * (k : Int) := by omega
      have hs2 : 8 * (k : Int) < 64 := by omega
      have hfr := hB.free (off + k)
      obtain ⟨v0, hv0⟩ : ∃ v, wr.cell? ⟨B, off + k, none⟩ = some v := ⟨_, hB.cell (List.getElem?_eq_getElem (by rw [putN_length]; omega))⟩
      go_wp2
      go_roundw
      case rel => exact ⟨k + 1, by omega, by go_num, gb_set hg _ _, hB.set _ _⟩
      case measure => simp [intOf]; omega
    · obtain rfl : k = 8 := by omega
      go_wp2
      go_end0
      exact ⟨rfl, hg, hB⟩

def wordOf (f : Nat → Int) : Nat → Int
  | 0 => 0
  | k + 1 => wordOf f k + f k * 2 ^ (8 * k)
theorem two_pow_le {a b : Nat} (h : a ≤ b) : (2 : Int) ^ a ≤ 2 ^ b := by
  have h1 := Int.ofNat_le.2 (Nat.pow_le_pow_right (n := 2) (by decide) h)
  simpa [Int.natCast_pow] using h1
theorem wordOf_bd (f : Nat → Int) (hf : ∀ i, 0 ≤ f i ∧ f i < 256) (k : Nat) : 0 ≤ wordOf f k ∧ wordOf f k < 2 ^ (8 * k) := by
  induction k with
  | zero => simp [wordOf]
  | succ k ih =>
    have h := hf k
    have e : (2 : Int) ^ (8 * (k + 1)) = 256 * 2 ^ (8 * k) := by rw [show 8 * (k + 1) = 8 * k + 8 by omega, Int.pow_add]; omega
    rw [wordOf, e]
    generalize (2 : Int) ^ (8 * k) = p at *
    have h1 : f k * p ≤ 255 * p := Int.mul_le_mul_of_nonneg_right (by omega) (by omega)
    have h2 : 0 ≤ f k * p := Int.mul_nonneg h.1 (by omega)
    omega
theorem or_add (a b : Int) (s : Nat) (h0 : 0 ≤ a) (h1 : a < 2 ^ s) (h2 : a < 18446744073709551616) (k0 : 0 ≤ b) (k1 : b * 2 ^ s < 18446744073709551616) : bits .or .u64 a (b * 2 ^ s) = a + b * 2 ^ s := by
  obtain ⟨a, rfl⟩ := Int.eq_ofNat_of_zero_le h0
  obtain ⟨b, rfl⟩ := Int.eq_ofNat_of_zero_le k0
  have e : (b : Int) * 2 ^ s = ((2 ^ s * b : Nat) : Int) := by rw [Int.natCast_mul, Int.natCast_pow, Int.mul_comm]; rfl
  have ha : a < 2 ^ s := by
    have : ((2 ^ s : Nat) : Int) = (2 : Int) ^ s := by rw [Int.natCast_pow]; rfl
    omega
  rw [e] at k1 ⊢
  rw [u64_or_nat _ _ (by omega) (by omega), Nat.or_comm, ← Nat.two_pow_add_eq_or_of_lt ha]
  omega
set_option maxHeartbeats 400000 in
theorem getWord_any (B off n c : Nat) (f : Nat → Int) (w : World) (hn : 8 ≤ n) (hf : ∀ i, 0 ≤ f i ∧ f i < 256) (hc : ∀ i, i < 8 → w.cell? ⟨B, off + i, none⟩ = some (.int .u8 (f i))) :
    Calls Tryd.prog 73 #[.slice (some ⟨B, off, none⟩) n c] w fun e w' => e = .returned (.int .u64 (wordOf f 8)) ∧ w = w' := by
  go_enter Tryd.func73, Tryd.ntmps73
  go_wp2
  go_loop [3, 5] (fun v i => ∃ k : Nat, k ≤ 8 ∧ i = .int .i64 k ∧ v = .int .u64 (wordOf f k)) (fun _ i => 8 - (intOf i).toNat)
  case atStart => exact ⟨0, by omega, rfl, rfl⟩
  case round =>
    obtain ⟨k, hk, rfl, rfl⟩ := hrel
    by_cases hlt : k < 8
    · have hi : (k : Int) < (n : Int) := by omega
      have hs : 0 ≤ 8 * (k : Int) := by omega
      have hs2 : 8 * (k : Int) < 64 := by omega
      have c0 := hc k hlt
      have b0 := (hf k).1
      have b1 := (hf k).2
      have Hw : Hid (bits .or .u64 (wordOf f k) (IntKind.u64.wrap (f k * 2 ^ (8 * k))) = wordOf f (k + 1)) := by
        apply Lib.hid
        have hb := wordOf_bd f hf k
        have hb1 := wordOf_bd f hf (k + 1)
        have hp : (2 : Int) ^ (8 * (k + 1)) ≤ 2 ^ 64 := two_pow_le (by omega)
        have hp2 : (2 : Int) ^ (8 * k) ≤ 2 ^ 64 := two_pow_le (by omega)
        have h64 : (2 : Int) ^ 64 = 18446744073709551616 := by decide
        have hm : 0 ≤ f k * 2 ^ (8 * k) := Int.mul_nonneg b0 (by omega)
        rw [wordOf] at hb1
        rw [wrapw, Fe.w64_in hm (by omega), wordOf]
        exact or_add _ _ _ hb.1 hb.2 (by omega) b0 (by omega)
      go_wp2
      go_round
      case rel => exact ⟨k + 1, by omega, by go_num, by rw [Hw.out]⟩
      case measure => simp [intOf]; omega
    · obtain rfl : k = 8 := by omega
      go_wp2
      go_ret
      exact ⟨rfl, rfl⟩

theorem or_lem (a b : Int) (s : Nat) (p q : Int) (hp : (2 : Int) ^ s = p) (hq : p * q = 18446744073709551616) (h0 : 0 ≤ a) (h1 : a < p) (hq0 : 0 < q) : bits .or .u64 a (IntKind.u64.wrap (b * p)) = a + (b % q) * p := by
  have hp0 : 0 < p := by omega
  have hpp : p ≤ 18446744073709551616 := by
    have : p * 1 ≤ p * q := Int.mul_le_mul_of_nonneg_left (by omega) (by omega)
    omega
  have e : IntKind.u64.wrap (b * p) = (b % q) * 2 ^ s := by
    rw [wrapw, hp]
    unfold Fe.w64
    rw [← hq, Int.mul_comm b p, Int.mul_comm (b % q) p, Int.mul_emod_mul_of_pos _ _ hp0]
  have hb0 : 0 ≤ b % q := Int.emod_nonneg _ (by omega)
  have hb1 : b % q < q := Int.emod_lt_of_pos _ hq0
  have hb2 : (b % q) * p < 18446744073709551616 := by
    have h : (b % q) * p ≤ (q - 1) * p := Int.mul_le_mul_of_nonneg_right (by omega) (by omega)
    have e2 : (q - 1) * p = 18446744073709551616 - p := by rw [Int.sub_mul, Int.mul_comm q p, hq, Int.one_mul]
    omega
  rw [e, or_add a _ s h0 (by rw [hp]; exact h1) (by omega) hb0 (by rw [hp]; exact hb2), hp]
def bytesV (x : Int) : List Value := (List.range 32).map (bytV x)
theorem bytV_word (x : Int) (k i : Nat) (h : i < 8) : bytV (x / 2 ^ (64 * k) % 18446744073709551616) i = bytV x (8 * k + i) := by
  unfold bytV
  have e : x / 2 ^ (8 * (8 * k + i)) = x / 2 ^ (64 * k) / 2 ^ (8 * i) := by
    rw [show 8 * (8 * k + i) = 64 * k + 8 * i by omega, Int.pow_add, Int.ediv_ediv_of_nonneg (Int.le_of_lt (Int.pow_pos (by decide)))]
  rw [e]
  generalize x / 2 ^ (64 * k) = y
  congr 1
  obtain rfl | rfl | rfl | rfl | rfl | rfl | rfl | rfl : i = 0 ∨ i = 1 ∨ i = 2 ∨ i = 3 ∨ i = 4 ∨ i = 5 ∨ i = 6 ∨ i = 7 := by omega
  all_goals simp only [Nat.mul_zero, Nat.mul_one, Int.reducePow, Nat.reduceMul]; omega
def zeros32 : List Value := List.replicate 32 (.int .u8 0)
theorem bytes_laid (x : Int) : putN (putN (putN (putN zeros32 0 (bytV (x / 2 ^ (64 * 0) % 18446744073709551616)) 8) 8 (bytV (x / 2 ^ (64 * 1) % 18446744073709551616)) 8) 16 (bytV (x / 2 ^ (64 * 2) % 18446744073709551616)) 8) 24 (bytV (x / 2 ^ (64 * 3) % 18446744073709551616)) 8 = bytesV x := by
  apply List.ext_getElem?
  intro i
  have l0 : zeros32.length = 32 := rfl
  rw [putN_get _ _ _ _ _ (by simp only [putN_length, l0]; omega), putN_get _ _ _ _ _ (by simp only [putN_length, l0]; omega), putN_get _ _ _ _ _ (by simp only [putN_length, l0]; omega), putN_get _ _ _ _ _ (by rw [l0]; omega)]
  by_cases h : i < 32
  · have e : (bytesV x)[i]? = some (bytV x i) := by unfold bytesV; rw [List.getElem?_map, List.getElem?_range h]; rfl
    rw [e]
    by_cases h3 : 24 ≤ i
    · rw [if_pos (by omega), bytV_word x 3 (i - 24) (by omega), show 8 * 3 + (i - 24) = i by omega]
    · rw [if_neg (by omega)]
      by_cases h2 : 16 ≤ i
      · rw [if_pos (by omega), bytV_word x 2 (i - 16) (by omega), show 8 * 2 + (i - 16) = i by omega]
      · rw [if_neg (by omega)]
        by_cases h1 : 8 ≤ i
        · rw [if_pos (by omega), bytV_word x 1 (i - 8) (by omega), show 8 * 1 + (i - 8) = i by omega]
        · rw [if_neg (by omega), if_pos (by omega), bytV_word x 0 (i - 0) (by omega), show 8 * 0 + (i - 0) = i by omega]
  · rw [if_neg (by omega), if_neg (by omega), if_neg (by omega), if_neg (by omega), List.getElem?_eq_none (by rw [l0]; omega), List.getElem?_eq_none (by simp [bytesV]; omega)]
theorem m_bd (a : Fe) : 0 ≤ (Fe.m a : Int) ∧ (Fe.m a : Int) < 57896044618658097711785492504343953926634992332820282019728792003956564819949 := by
  have := Fe.m_lt a
  unfold Fe.P at this
  omega
theorem least_words (a : Fe) :
    (Fe.leastF a).x0 + (Fe.leastF a).x1 % 8192 * 2251799813685248 = (Fe.m a : Int) / 2 ^ (64 * 0) % 18446744073709551616 ∧
    (Fe.leastF a).x1 / 8192 + (Fe.leastF a).x2 % 67108864 * 274877906944 = (Fe.m a : Int) / 2 ^ (64 * 1) % 18446744073709551616 ∧
    (Fe.leastF a).x2 / 67108864 + (Fe.leastF a).x3 % 549755813888 * 33554432 = (Fe.m a : Int) / 2 ^ (64 * 2) % 18446744073709551616 ∧
    (Fe.leastF a).x3 / 549755813888 + (Fe.leastF a).x4 % 4503599627370496 * 4096 = (Fe.m a : Int) / 2 ^ (64 * 3) % 18446744073709551616 := by
  have hl := m_bd a
  unfold Fe.leastF
  generalize (Fe.m a : Int) = x at *
  have e2 : x / 5070602400912917605986812821504 = x / 2251799813685248 / 2251799813685248 := by rw [Int.ediv_ediv_of_nonneg (by decide)]; rfl
  have e3 : x / 11417981541647679048466287755595961091061972992 = x / 2251799813685248 / 2251799813685248 / 2251799813685248 := by rw [Int.ediv_ediv_of_nonneg (by decide), Int.ediv_ediv_of_nonneg (by decide)]; rfl
  have e4 : x / 25711008708143844408671393477458601640355247900524685364822016 = x / 2251799813685248 / 2251799813685248 / 2251799813685248 / 2251799813685248 := by rw [Int.ediv_ediv_of_nonneg (by decide), Int.ediv_ediv_of_nonneg (by decide), Int.ediv_ediv_of_nonneg (by decide)]; rfl
  rw [e2, e3, e4]
  have p1 : (2 : Int) ^ (64 * 1) = 18446744073709551616 := by decide
  have p2 : (2 : Int) ^ (64 * 2) = 340282366920938463463374607431768211456 := by decide
  have p3 : (2 : Int) ^ (64 * 3) = 6277101735386680763835789423207666416102355444464034512896 := by decide
  rw [p1, p2, p3]
  obtain ⟨d0, q1, b0, b0', f0⟩ : ∃ d q : Int, 0 ≤ d ∧ d < 2251799813685248 ∧ x = 2251799813685248 * q + d := ⟨x % 2251799813685248, x / 2251799813685248, by omega, by omega, by omega⟩
  obtain ⟨d1, q2, b1, b1', f1⟩ : ∃ d q : Int, 0 ≤ d ∧ d < 2251799813685248 ∧ q1 = 2251799813685248 * q + d := ⟨q1 % 2251799813685248, q1 / 2251799813685248, by omega, by omega, by omega⟩
  obtain ⟨d2, q3, b2, b2', f2⟩ : ∃ d q : Int, 0 ≤ d ∧ d < 2251799813685248 ∧ q2 = 2251799813685248 * q + d := ⟨q2 % 2251799813685248, q2 / 2251799813685248, by omega, by omega, by omega⟩
  obtain ⟨d3, q4, b3, b3', f3⟩ : ∃ d q : Int, 0 ≤ d ∧ d < 2251799813685248 ∧ q3 = 2251799813685248 * q + d := ⟨q3 % 2251799813685248, q3 / 2251799813685248, by omega, by omega, by omega⟩
  have g1 : x / 2251799813685248 = q1 := by omega
  have g2 : q1 / 2251799813685248 = q2 := by omega
  have g3 : q2 / 2251799813685248 = q3 := by omega
  have g4 : q3 / 2251799813685248 = q4 := by omega
  have m0 : x % 2251799813685248 = d0 := by omega
  have m1 : q1 % 2251799813685248 = d1 := by omega
  have m2 : q2 % 2251799813685248 = d2 := by omega
  have m3 : q3 % 2251799813685248 = d3 := by omega
  simp only [g1, g2, g3, g4, m0, m1, m2, m3]
  have b4 : 0 ≤ q4 := by omega
  have b4' : q4 < 2251799813685248 := by omega
  have m4 : q4 % 2251799813685248 = q4 := by omega
  rw [m4]
  have w1 : x / 18446744073709551616 = d1 / 8192 + 274877906944 * q2 := by omega
  have w2 : x / 340282366920938463463374607431768211456 = d2 / 67108864 + 33554432 * q3 := by omega
  have w3 : x / 6277101735386680763835789423207666416102355444464034512896 = d3 / 549755813888 + 4096 * q4 := by omega
  rw [w1, w2, w3]
  refine ⟨?_, ?_, ?_, ?_⟩ <;> omega
end Go.Proofs.YtleegbaigedebaaDoor

/- field: bytesOf: the 32 bytes of the number from 0 to p - 1. -/
namespace Go.Proofs.YtleegbaigedebaaDoor
open Go.RowKit

theorem least_bd (a : Fe) : (0 ≤ (Fe.leastF a).x0 ∧ (Fe.leastF a).x0 < 2251799813685248) ∧ (0 ≤ (Fe.leastF a).x1 ∧ (Fe.leastF a).x1 < 2251799813685248) ∧ (0 ≤ (Fe.leastF a).x2 ∧ (Fe.leastF a).x2 < 2251799813685248) ∧
    (0 ≤ (Fe.leastF a).x3 ∧ (Fe.leastF a).x3 < 2251799813685248) ∧ (0 ≤ (Fe.leastF a).x4 ∧ (Fe.leastF a).x4 < 2251799813685248) := by
  unfold Fe.leastF
  refine ⟨⟨?_, ?_⟩, ⟨?_, ?_⟩, ⟨?_, ?_⟩, ⟨?_, ?_⟩, ?_, ?_⟩ <;> dsimp only <;> omega
theorem info_b32 : (Tryd.prog.info? 79).map (·.size) = some 32 := by kernel_rfl
theorem bytesV_one (x : Int) : (bytesV x).toArray.all (·.oneCell') = true := by
  simp [bytesV, bytV, Value.oneCell']
abbrev BytS (w : World) (r : Fe) (w' : World) : Prop := Blk w' w.heap.size 26 [.int .u64 r.x0, .int .u64 r.x1, .int .u64 r.x2, .int .u64 r.x3, .int .u64 r.x4] ∧ w'.cell? ⟨w.heap.size, 0, none⟩ = some (.int .u64 r.x0) ∧ w'.cell? ⟨w.heap.size, 1, none⟩ = some (.int .u64 r.x1) ∧ w'.cell? ⟨w.heap.size, 2, none⟩ = some (.int .u64 r.x2) ∧ w'.cell? ⟨w.heap.size, 3, none⟩ = some (.int .u64 r.x3) ∧ w'.cell? ⟨w.heap.size, 4, none⟩ = some (.int .u64 r.x4)
theorem bytS_mk {w w' : World} {r : Fe} (h : Blk w' w.heap.size 26 [.int .u64 r.x0, .int .u64 r.x1, .int .u64 r.x2, .int .u64 r.x3, .int .u64 r.x4]) : BytS w r w' := ⟨h, h.cell (i := 0) rfl, h.cell (i := 1) rfl, h.cell (i := 2) rfl, h.cell (i := 3) rfl, h.cell (i := 4) rfl⟩
theorem bytS_keep {w w1 w2 : World} {r : Fe} {B : Nat} (hg : w1.grownBy w2 (some B)) (hne : w.heap.size ≠ B) (h : BytS w r w1) : BytS w r w2 := bytS_mk (h.1.grown hg (some_ne hne))
set_option maxRecDepth 100000 in
set_option maxHeartbeats 1600000 in
theorem bytesOf_any (a : Fe) (w : World) (ha : a.Ok) :
    Calls Tryd.prog 51 #[.agg #[.int .u64 a.x0, .int .u64 a.x1, .int .u64 a.x2, .int .u64 a.x3, .int .u64 a.x4]] w fun e w' => e = .returned (.agg (bytesV (Fe.m a)).toArray) ∧ w.grownBy w' none := by
  have hg0 : ∀ c0 c1, w.grownBy ((w.alloc c0).alloc c1) none := fun c0 c1 => gb_alloc (gb_alloc (gb_refl _ _) _) _
  go_enter Tryd.func51, Tryd.ntmps51
  go_wp2_with (go_at_call 67; refine (least_any a _ ha).mono ?_; rintro e w1 ⟨r, hr, rfl, hg1⟩; have hg2 := gb_trans (hg0 _ _) hg1; have hA1 := Blk.grown (Blk.alloc (Blk.new w [.int .u64 a.x0, .int .u64 a.x1, .int .u64 a.x2, .int .u64 a.x3, .int .u64 a.x4] 26) _) hg1 (by simp); have z0 := hA1.cell (i := 0) rfl; have z1 := hA1.cell (i := 1) rfl; have z2 := hA1.cell (i := 2) rfl; have z3 := hA1.cell (i := 3) rfl; have z4 := hA1.cell (i := 4) rfl; have y0 := hA1.free 0; have y1 := hA1.free 1; have y2 := hA1.free 2; have y3 := hA1.free 3; have y4 := hA1.free 4)
  have hlt1 : w.heap.size + 1 < w1.heap.size := by have := hg1.size; simp at this; omega
  have hA2 : Blk ((((((w1.setCell ⟨w.heap.size, 0, none⟩ (.int .u64 r.x0)).setCell ⟨w.heap.size, 1, none⟩ (.int .u64 r.x1)).setCell ⟨w.heap.size, 2, none⟩ (.int .u64 r.x2)).setCell ⟨w.heap.size, 3, none⟩ (.int .u64 r.x3)).setCell ⟨w.heap.size, 4, none⟩ (.int .u64 r.x4)).alloc (.cells #[.int .u8 0, .int .u8 0, .int .u8 0, .int .u8 0, .int .u8 0, .int .u8 0, .int .u8 0, .int .u8 0, .int .u8 0, .int .u8 0, .int .u8 0, .int .u8 0, .int .u8 0, .int .u8 0, .int .u8 0, .int .u8 0, .int .u8 0, .int .u8 0, .int .u8 0, .int .u8 0, .int .u8 0, .int .u8 0, .int .u8 0, .int .u8 0, .int .u8 0, .int .u8 0, .int .u8 0, .int .u8 0, .int .u8 0, .int .u8 0, .int .u8 0, .int .u8 0] 79)) w.heap.size 26 [.int .u64 r.x0, .int .u64 r.x1, .int .u64 r.x2, .int .u64 r.x3, .int .u64 r.x4] := Blk.alloc (Room5.set5 ⟨_, _, _, _, _, hA1⟩ _ _ _ _ _) _
  have hC2 : Blk ((((((w1.setCell ⟨w.heap.size, 0, none⟩ (.int .u64 r.x0)).setCell ⟨w.heap.size, 1, none⟩ (.int .u64 r.x1)).setCell ⟨w.heap.size, 2, none⟩ (.int .u64 r.x2)).setCell ⟨w.heap.size, 3, none⟩ (.int .u64 r.x3)).setCell ⟨w.heap.size, 4, none⟩ (.int .u64 r.x4)).alloc (.cells #[.int .u8 0, .int .u8 0, .int .u8 0, .int .u8 0, .int .u8 0, .int .u8 0, .int .u8 0, .int .u8 0, .int .u8 0, .int .u8 0, .int .u8 0, .int .u8 0, .int .u8 0, .int .u8 0, .int .u8 0, .int .u8 0, .int .u8 0, .int .u8 0, .int .u8 0, .int .u8 0, .int .u8 0, .int .u8 0, .int .u8 0, .int .u8 0, .int .u8 0, .int .u8 0, .int .u8 0, .int .u8 0, .int .u8 0, .int .u8 0, .int .u8 0, .int .u8 0] 79)) w1.heap.size 79 zeros32 := Blk.newAt _ zeros32 _ (by simp)
  have hR2 : Blk ((((((w1.setCell ⟨w.heap.size, 0, none⟩ (.int .u64 r.x0)).setCell ⟨w.heap.size, 1, none⟩ (.int .u64 r.x1)).setCell ⟨w.heap.size, 2, none⟩ (.int .u64 r.x2)).setCell ⟨w.heap.size, 3, none⟩ (.int .u64 r.x3)).setCell ⟨w.heap.size, 4, none⟩ (.int .u64 r.x4)).alloc (.cells #[.int .u8 0, .int .u8 0, .int .u8 0, .int .u8 0, .int .u8 0, .int .u8 0, .int .u8 0, .int .u8 0, .int .u8 0, .int .u8 0, .int .u8 0, .int .u8 0, .int .u8 0, .int .u8 0, .int .u8 0, .int .u8 0, .int .u8 0, .int .u8 0, .int .u8 0, .int .u8 0, .int .u8 0, .int .u8 0, .int .u8 0, .int .u8 0, .int .u8 0, .int .u8 0, .int .u8 0, .int .u8 0, .int .u8 0, .int .u8 0, .int .u8 0, .int .u8 0] 79)) (w.heap.size + 1) 79 zeros32 := Blk.alloc ((((((Blk.grown (Blk.newAt (w.alloc _) zeros32 _ (by simp)) hg1 (by simp)).other (by simp) _).other (by simp) _).other (by simp) _).other (by simp) _).other (by simp) _) _
  have hg3 : w.grownBy ((((((w1.setCell ⟨w.heap.size, 0, none⟩ (.int .u64 r.x0)).setCell ⟨w.heap.size, 1, none⟩ (.int .u64 r.x1)).setCell ⟨w.heap.size, 2, none⟩ (.int .u64 r.x2)).setCell ⟨w.heap.size, 3, none⟩ (.int .u64 r.x3)).setCell ⟨w.heap.size, 4, none⟩ (.int .u64 r.x4)).alloc (.cells #[.int .u8 0, .int .u8 0, .int .u8 0, .int .u8 0, .int .u8 0, .int .u8 0, .int .u8 0, .int .u8 0, .int .u8 0, .int .u8 0, .int .u8 0, .int .u8 0, .int .u8 0, .int .u8 0, .int .u8 0, .int .u8 0, .int .u8 0, .int .u8 0, .int .u8 0, .int .u8 0, .int .u8 0, .int .u8 0, .int .u8 0, .int .u8 0, .int .u8 0, .int .u8 0, .int .u8 0, .int .u8 0, .int .u8 0, .int .u8 0, .int .u8 0, .int .u8 0] 79)) none := gb_alloc (gb_set5 hg2 (Nat.le_refl _) _ _ _ _ _) _
  revert hA2 hC2 hR2 hg3
  clear hA1 z0 z1 z2 z3 z4 y0 y1 y2 y3 y4
  generalize ((((((w1.setCell ⟨w.heap.size, 0, none⟩ (.int .u64 r.x0)).setCell ⟨w.heap.size, 1, none⟩ (.int .u64 r.x1)).setCell ⟨w.heap.size, 2, none⟩ (.int .u64 r.x2)).setCell ⟨w.heap.size, 3, none⟩ (.int .u64 r.x3)).setCell ⟨w.heap.size, 4, none⟩ (.int .u64 r.x4)).alloc (.cells #[.int .u8 0, .int .u8 0, .int .u8 0, .int .u8 0, .int .u8 0, .int .u8 0, .int .u8 0, .int .u8 0, .int .u8 0, .int .u8 0, .int .u8 0, .int .u8 0, .int .u8 0, .int .u8 0, .int .u8 0, .int .u8 0, .int .u8 0, .int .u8 0, .int .u8 0, .int .u8 0, .int .u8 0, .int .u8 0, .int .u8 0, .int .u8 0, .int .u8 0, .int .u8 0, .int .u8 0, .int .u8 0, .int .u8 0, .int .u8 0, .int .u8 0, .int .u8 0] 79)) = W2
  obtain ⟨C, hC⟩ : ∃ C, C = w1.heap.size := ⟨_, rfl⟩
  rw [← hC] at hlt1
  rw [← hC]
  clear hg1 hg2 hC
  intro hA2 hC2 hR2 hg3
  obtain ⟨⟨p00, p01⟩, ⟨p10, p11⟩, ⟨p20, p21⟩, ⟨p30, p31⟩, p40, p41⟩ := least_bd a
  have hwds := least_words a
  rw [← hr.out] at p00 p01 p10 p11 p20 p21 p30 p31 p40 p41 hwds
  have HW := Lib.hid hwds; clear hwds
  have hneC : w.heap.size ≠ C := by omega
  have hneR : w.heap.size + 1 ≠ C := by omega
  have hS0 : BytS w r W2.drew := bytS_mk hA2.drew
  have K0 := Lib.hid (or_lem r.x0 r.x1 51 2251799813685248 8192 (by decide) (by decide) p00 p01 (by decide))
  have K1 := Lib.hid (or_lem (r.x1 / 8192) r.x2 38 274877906944 67108864 (by decide) (by decide) (by omega) (by omega) (by decide))
  have K2 := Lib.hid (or_lem (r.x2 / 67108864) r.x3 25 33554432 549755813888 (by decide) (by decide) (by omega) (by omega) (by decide))
  have K3 := Lib.hid (or_lem (r.x3 / 549755813888) r.x4 12 4096 4503599627370496 (by decide) (by decide) (by omega) (by omega) (by decide))
  go_region_held3 (fun w' => Blk w' w.heap.size 26 [.int .u64 r.x0, .int .u64 r.x1, .int .u64 r.x2, .int .u64 r.x3, .int .u64 r.x4] ∧ w'.cell? ⟨w.heap.size, 0, none⟩ = some (.int .u64 r.x0) ∧ w'.cell? ⟨w.heap.size, 1, none⟩ = some (.int .u64 r.x1) ∧ w'.cell? ⟨w.heap.size, 2, none⟩ = some (.int .u64 r.x2) ∧ w'.cell? ⟨w.heap.size, 3, none⟩ = some (.int .u64 r.x3) ∧ w'.cell? ⟨w.heap.size, 4, none⟩ = some (.int .u64 r.x4))
    (first | (with_reducible exact hS0) | (with_reducible exact bytS_keep (by assumption) hneC (by assumption)))
    (first | (go_simp; go_at_call 68; refine (putWord_any C 0 32 32 79 _ _ _ (by decide) (by decide) hC2.drew).mono ?_; rintro e v1 ⟨rfl, ge1, hd1⟩))
  rw [K0.out, HW.out.1] at hd1
  have hA3 := (hA2.drew).grown ge1 (some_ne hneC)
  have hR3 := (hR2.drew).grown ge1 (some_ne hneR)
  have hg4 := gb_then (gb_drew hg3) ge1 (by omega)
  have hS1 : BytS w r v1.drew := bytS_mk hA3.drew
  clear ge1 hS0 hA2 hR2 hg3 hC2
  go_wp2
  go_region_held3 (fun w' => Blk w' w.heap.size 26 [.int .u64 r.x0, .int .u64 r.x1, .int .u64 r.x2, .int .u64 r.x3, .int .u64 r.x4] ∧ w'.cell? ⟨w.heap.size, 0, none⟩ = some (.int .u64 r.x0) ∧ w'.cell? ⟨w.heap.size, 1, none⟩ = some (.int .u64 r.x1) ∧ w'.cell? ⟨w.heap.size, 2, none⟩ = some (.int .u64 r.x2) ∧ w'.cell? ⟨w.heap.size, 3, none⟩ = some (.int .u64 r.x3) ∧ w'.cell? ⟨w.heap.size, 4, none⟩ = some (.int .u64 r.x4))
    (first | (with_reducible exact hS1) | (with_reducible exact bytS_keep (by assumption) hneC (by assumption)))
    (first | (go_simp; go_at_call 68; refine (putWord_any C 8 24 24 79 _ _ _ (by decide) (by simp only [putN_length]; decide) hd1.drew).mono ?_; rintro e v2 ⟨rfl, ge2, hd2⟩))
  rw [K1.out, HW.out.2.1] at hd2
  have hA4 := (hA3.drew).grown ge2 (some_ne hneC)
  have hR4 := (hR3.drew).grown ge2 (some_ne hneR)
  have hg5 := gb_then (gb_drew hg4) ge2 (by omega)
  have hS2 : BytS w r v2.drew := bytS_mk hA4.drew
  clear ge2 hS1 hA3 hR3 hg4 hd1
  go_wp2
  go_region_held3 (fun w' => Blk w' w.heap.size 26 [.int .u64 r.x0, .int .u64 r.x1, .int .u64 r.x2, .int .u64 r.x3, .int .u64 r.x4] ∧ w'.cell? ⟨w.heap.size, 0, none⟩ = some (.int .u64 r.x0) ∧ w'.cell? ⟨w.heap.size, 1, none⟩ = some (.int .u64 r.x1) ∧ w'.cell? ⟨w.heap.size, 2, none⟩ = some (.int .u64 r.x2) ∧ w'.cell? ⟨w.heap.size, 3, none⟩ = some (.int .u64 r.x3) ∧ w'.cell? ⟨w.heap.size, 4, none⟩ = some (.int .u64 r.x4))
    (first | (with_reducible exact hS2) | (with_reducible exact bytS_keep (by assumption) hneC (by assumption)))
    (first | (go_simp; go_at_call 68; refine (putWord_any C 16 16 16 79 _ _ _ (by decide) (by simp only [putN_length]; decide) hd2.drew).mono ?_; rintro e v3 ⟨rfl, ge3, hd3⟩))
  rw [K2.out, HW.out.2.2.1] at hd3
  have hA5 := (hA4.drew).grown ge3 (some_ne hneC)
  have hR5 := (hR4.drew).grown ge3 (some_ne hneR)
  have hg6 := gb_then (gb_drew hg5) ge3 (by omega)
  have hS3 : BytS w r v3.drew := bytS_mk hA5.drew
  clear ge3 hS2 hA4 hR4 hg5 hd2
  go_wp2
  go_region_held3 (fun w' => Blk w' w.heap.size 26 [.int .u64 r.x0, .int .u64 r.x1, .int .u64 r.x2, .int .u64 r.x3, .int .u64 r.x4] ∧ w'.cell? ⟨w.heap.size, 0, none⟩ = some (.int .u64 r.x0) ∧ w'.cell? ⟨w.heap.size, 1, none⟩ = some (.int .u64 r.x1) ∧ w'.cell? ⟨w.heap.size, 2, none⟩ = some (.int .u64 r.x2) ∧ w'.cell? ⟨w.heap.size, 3, none⟩ = some (.int .u64 r.x3) ∧ w'.cell? ⟨w.heap.size, 4, none⟩ = some (.int .u64 r.x4))
    (first | (with_reducible exact hS3) | (with_reducible exact bytS_keep (by assumption) hneC (by assumption)))
    (first | (go_simp; go_at_call 68; refine (putWord_any C 24 8 8 79 _ _ _ (by decide) (by simp only [putN_length]; decide) hd3.drew).mono ?_; rintro e v4 ⟨rfl, ge4, hd4⟩))
  rw [K3.out, HW.out.2.2.2, bytes_laid] at hd4
  have hR6 := (hR5.drew).grown ge4 (some_ne hneR)
  have hg7 := gb_then (gb_drew hg6) ge4 (by omega)
  clear ge4 hS3 hA5 hR5 hg6 hd3 K0 K1 K2 K3
  obtain ⟨X, hX⟩ : ∃ X, X = bytesV (Fe.m a) := ⟨_, rfl⟩
  rw [← hX] at hd4
  have hXl : X.length = 32 := by rw [hX]; rfl
  have hX1 : X.toArray.all (·.oneCell') = true := by rw [hX]; exact bytesV_one _
  have HX := Lib.hid (And.intro hX (And.intro hXl hX1)); clear hX hXl hX1
  have HM := Lib.hid (And.intro hd4 hR6); clear hd4 hR6
  go_wp2_with (first
    | (refine wpList_load_row rfl 79 (.tmp 3) rfl C rfl 79 X.toArray (0, 0) _ HM.out.1 Tryd.underlying79 rfl (by rw [List.size_toArray, HX.out.2.1]; exact info_b32) ?_)
    | (refine wpList_store_row rfl 79 (.tmp 2) (.tmp 41) rfl (w.heap.size + 1) X.toArray rfl rfl 79 zeros32.toArray HM.out.2 (by rw [List.size_toArray, HX.out.2.1]; exact info_b32) (by rw [List.size_toArray, List.size_toArray, HX.out.2.1]; rfl) HX.out.2.2 ?_))
  refine bodyPost_ret (v := .agg X.toArray) ?_ rfl ⟨by rw [HX.out.1], gb_setRow hg7 (by omega) _⟩
  exact results_cell_row Tryd.results51 _ _ (w.heap.size + 1) 79 X.toArray (0, 0) _ rfl (HM.out.2.row X) Tryd.underlying79 rfl (by rw [List.size_toArray, HX.out.2.1]; exact info_b32)
end Go.Proofs.YtleegbaigedebaaDoor

/- field: Same, Zero, Odd, Put. -/
namespace Go.Proofs.YtleegbaigedebaaDoor
open Go.RowKit

theorem run_eqItems_ints {P : Program} (w : World) (d : Nat) {e : TypeId} {k : IntKind} (he : P.plainKey e = true) (hu : P.underlying e = some (.int k)) (f g : Nat → Int) (xs ys : Array Value) (is : List Nat)
    (hx : ∀ i ∈ is, xs[i * 1]? = some (.int k (f i))) (hy : ∀ i ∈ is, ys[i * 1]? = some (.int k (g i))) : (Op.eqItems (d + 1) e 1 xs ys is).run P w = .ok (is.all fun i => f i == g i) w := by
  induction is with
  | nil => simp [Op.eqItems]
  | cons i r ih =>
    have h1 := run_part_plain w he (hx i (List.mem_cons_self ..))
    have h2 := run_part_plain w he (hy i (List.mem_cons_self ..))
    simp only [Op.eqItems, Sem.run_bind, h1, h2, Result.andThen_ok, run_equalIn_int w d e k k (f i) (g i) hu, List.all_cons]
    cases hfg : f i == g i
    · simp
    · simpa using ih (fun j hj => hx j (List.mem_cons_of_mem _ hj)) (fun j hj => hy j (List.mem_cons_of_mem _ hj))
theorem digits_same (n : Nat) : ∀ x y : Int, 0 ≤ x → 0 ≤ y → x < 2 ^ (8 * n) → y < 2 ^ (8 * n) → (∀ i, i < n → x / 2 ^ (8 * i) % 256 = y / 2 ^ (8 * i) % 256) → x = y := by
  induction n with
  | zero => intro x y h0 k0 h1 k1 _; simp at h1 k1; omega
  | succ n ih =>
    intro x y h0 k0 h1 k1 h
    have e : (2 : Int) ^ (8 * (n + 1)) = 256 * 2 ^ (8 * n) := by rw [show 8 * (n + 1) = 8 * n + 8 by omega, Int.pow_add]; omega
    rw [e] at h1 k1
    have hd : x / 256 = y / 256 := ih _ _ (by omega) (by omega) (by omega) (by omega) fun i hi => by
      have := h (i + 1) (by omega)
      have e2 : (2 : Int) ^ (8 * (i + 1)) = 256 * 2 ^ (8 * i) := by rw [show 8 * (i + 1) = 8 * i + 8 by omega, Int.pow_add]; omega
      rw [e2, ← Int.ediv_ediv_of_nonneg (by decide), ← Int.ediv_ediv_of_nonneg (by decide)] at this
      exact this
    have hm := h 0 (by omega)
    simp at hm
    omega
theorem bytes_same (x y : Int) (h0 : 0 ≤ x) (k0 : 0 ≤ y) (h1 : x < 2 ^ 256) (k1 : y < 2 ^ 256) :
    ((List.range 32).all fun i => (x / 2 ^ (8 * i) % 256 == y / 2 ^ (8 * i) % 256)) = decide (x = y) := by
  rw [Bool.eq_iff_iff, List.all_eq_true, decide_eq_true_iff]
  constructor
  · intro h
    exact digits_same 32 x y h0 k0 h1 k1 fun i hi => by simpa using h i (List.mem_range.2 hi)
  · rintro rfl i _; simp
theorem bytesV_get (x : Int) (i : Nat) (h : i < 32) : (bytesV x)[i]? = some (bytV x i) := by
  unfold bytesV; rw [List.getElem?_map, List.getElem?_range h]; rfl
theorem info_u8 : ∃ i, Tryd.prog.info? 5 = some i := by
  cases h : Tryd.prog.info? 5 with
  | none => exact absurd h (by have : (Tryd.prog.info? 5).isSome = true := by kernel_rfl
                               intro e; rw [e] at this; cases this)
  | some i => exact ⟨i, rfl⟩
theorem eql_bytes (x y : Int) (h0 : 0 ≤ x) (k0 : 0 ≤ y) (h1 : x < 2 ^ 256) (k1 : y < 2 ^ 256) (w : World) :
    (binOp .eql 79 (.agg (bytesV x).toArray) (.agg (bytesV y).toArray)).run Tryd.prog w = .ok (.bool (decide (x = y))) w := by
  obtain ⟨j, hj⟩ := info_u8
  have hc : Tryd.prog.cellsOf 5 = 1 := by kernel_rfl
  rw [run_eql_struct, run_equalIn_array w 9999 _ _ Tryd.underlying79 hj, hc,
    run_eqItems_ints w 9998 (by kernel_rfl) Tryd.underlying5 (fun i => x / 2 ^ (8 * i) % 256) (fun i => y / 2 ^ (8 * i) % 256) _ _ _
      (fun i hi => by rw [Nat.mul_one, List.getElem?_toArray]; exact bytesV_get x i (List.mem_range.1 hi)) (fun i hi => by rw [Nat.mul_one, List.getElem?_toArray]; exact bytesV_get y i (List.mem_range.1 hi)),
    bytes_same x y h0 k0 h1 k1]
  rfl
theorem m_256 (a : Fe) : (Fe.m a : Int) < 2 ^ 256 := by
  have := (m_bd a).2
  have e : (2 : Int) ^ 256 = 115792089237316195423570985008687907853269984665640564039457584007913129639936 := by decide
  omega

abbrev TwoS (w : World) (a b : Fe) (w' : World) : Prop := Blk w' w.heap.size 26 [.int .u64 a.x0, .int .u64 a.x1, .int .u64 a.x2, .int .u64 a.x3, .int .u64 a.x4] ∧ Blk w' (w.heap.size + 1) 26 [.int .u64 b.x0, .int .u64 b.x1, .int .u64 b.x2, .int .u64 b.x3, .int .u64 b.x4] ∧ w.grownBy w' none ∧ w'.cell? ⟨w.heap.size, 0, none⟩ = some (.int .u64 a.x0) ∧ w'.cell? ⟨w.heap.size, 1, none⟩ = some (.int .u64 a.x1) ∧ w'.cell? ⟨w.heap.size, 2, none⟩ = some (.int .u64 a.x2) ∧ w'.cell? ⟨w.heap.size, 3, none⟩ = some (.int .u64 a.x3) ∧ w'.cell? ⟨w.heap.size, 4, none⟩ = some (.int .u64 a.x4) ∧ w'.cell? ⟨w.heap.size + 1, 0, none⟩ = some (.int .u64 b.x0) ∧ w'.cell? ⟨w.heap.size + 1, 1, none⟩ = some (.int .u64 b.x1) ∧ w'.cell? ⟨w.heap.size + 1, 2, none⟩ = some (.int .u64 b.x2) ∧ w'.cell? ⟨w.heap.size + 1, 3, none⟩ = some (.int .u64 b.x3) ∧ w'.cell? ⟨w.heap.size + 1, 4, none⟩ = some (.int .u64 b.x4)
theorem twoS_mk {w w' : World} {a b : Fe} (hA : Blk w' w.heap.size 26 [.int .u64 a.x0, .int .u64 a.x1, .int .u64 a.x2, .int .u64 a.x3, .int .u64 a.x4]) (hB : Blk w' (w.heap.size + 1) 26 [.int .u64 b.x0, .int .u64 b.x1, .int .u64 b.x2, .int .u64 b.x3, .int .u64 b.x4]) (hg : w.grownBy w' none) : TwoS w a b w' :=
  ⟨hA, hB, hg, hA.cell (i := 0) rfl, hA.cell (i := 1) rfl, hA.cell (i := 2) rfl, hA.cell (i := 3) rfl, hA.cell (i := 4) rfl, hB.cell (i := 0) rfl, hB.cell (i := 1) rfl, hB.cell (i := 2) rfl, hB.cell (i := 3) rfl, hB.cell (i := 4) rfl⟩
theorem twoS_keep {w w1 w2 : World} {a b : Fe} (hg : w1.grownBy w2 none) (h : TwoS w a b w1) : TwoS w a b w2 :=
  twoS_mk (h.1.grown hg (by simp)) (h.2.1.grown hg (by simp)) (gb_trans h.2.2.1 hg)
set_option maxRecDepth 100000 in
set_option maxHeartbeats 1600000 in
theorem same_any (a b : Fe) (w : World) (ha : a.Ok) (hb : b.Ok) :
    Calls Tryd.prog 24 #[.agg #[.int .u64 a.x0, .int .u64 a.x1, .int .u64 a.x2, .int .u64 a.x3, .int .u64 a.x4], .agg #[.int .u64 b.x0, .int .u64 b.x1, .int .u64 b.x2, .int .u64 b.x3, .int .u64 b.x4]] w fun e w' => e = .returned (.bool (decide (Fe.m a = Fe.m b))) ∧ w.grownBy w' none := by
  have hE := eql_bytes (Fe.m a) (Fe.m b) (m_bd a).1 (m_bd b).1 (m_256 a) (m_256 b)
  have hq : decide ((Fe.m a : Int) = (Fe.m b : Int)) = decide (Fe.m a = Fe.m b) := by
    rw [Bool.eq_iff_iff, decide_eq_true_iff, decide_eq_true_iff]; omega
  rw [hq] at hE
  clear hq
  go_enter Tryd.func24, Tryd.ntmps24
  go_wp2
  have hS0 : TwoS w a b ((w.alloc (.cells #[.int .u64 a.x0, .int .u64 a.x1, .int .u64 a.x2, .int .u64 a.x3, .int .u64 a.x4] 26)).alloc (.cells #[.int .u64 b.x0, .int .u64 b.x1, .int .u64 b.x2, .int .u64 b.x3, .int .u64 b.x4] 26)).drew :=
    twoS_mk ((Blk.new w [.int .u64 a.x0, .int .u64 a.x1, .int .u64 a.x2, .int .u64 a.x3, .int .u64 a.x4] _).alloc _).drew (Blk.newAt (w.alloc _) [.int .u64 b.x0, .int .u64 b.x1, .int .u64 b.x2, .int .u64 b.x3, .int .u64 b.x4] _ (by simp)).drew (gb_drew (gb_alloc (gb_alloc (gb_refl _ _) _) _))
  revert hS0
  generalize (w.alloc (.cells #[.int .u64 a.x0, .int .u64 a.x1, .int .u64 a.x2, .int .u64 a.x3, .int .u64 a.x4] 26)).alloc (.cells #[.int .u64 b.x0, .int .u64 b.x1, .int .u64 b.x2, .int .u64 b.x3, .int .u64 b.x4] 26) = W0
  intro hS0
  go_region_held3 (fun w' => Blk w' w.heap.size 26 [.int .u64 a.x0, .int .u64 a.x1, .int .u64 a.x2, .int .u64 a.x3, .int .u64 a.x4] ∧ Blk w' (w.heap.size + 1) 26 [.int .u64 b.x0, .int .u64 b.x1, .int .u64 b.x2, .int .u64 b.x3, .int .u64 b.x4] ∧ w.grownBy w' none ∧ w'.cell? ⟨w.heap.size, 0, none⟩ = some (.int .u64 a.x0) ∧ w'.cell? ⟨w.heap.size, 1, none⟩ = some (.int .u64 a.x1) ∧ w'.cell? ⟨w.heap.size, 2, none⟩ = some (.int .u64 a.x2) ∧ w'.cell? ⟨w.heap.size, 3, none⟩ = some (.int .u64 a.x3) ∧ w'.cell? ⟨w.heap.size, 4, none⟩ = some (.int .u64 a.x4) ∧ w'.cell? ⟨w.heap.size + 1, 0, none⟩ = some (.int .u64 b.x0) ∧ w'.cell? ⟨w.heap.size + 1, 1, none⟩ = some (.int .u64 b.x1) ∧ w'.cell? ⟨w.heap.size + 1, 2, none⟩ = some (.int .u64 b.x2) ∧ w'.cell? ⟨w.heap.size + 1, 3, none⟩ = some (.int .u64 b.x3) ∧ w'.cell? ⟨w.heap.size + 1, 4, none⟩ = some (.int .u64 b.x4))
    (first | (with_reducible exact hS0) | (with_reducible exact twoS_keep (by assumption) (by assumption)))
    (first | (go_simp; go_at_call 51; refine (bytesOf_any _ _ ?_).mono ?_; assumption; rintro e w1 ⟨rfl, hg1⟩))
  go_wp2
  clear hE
  go_ret
  refine ⟨rfl, ?_⟩
  with_reducible exact (show TwoS w a b _ from (by assumption)).2.2.1

theorem m_zero : Fe.m ⟨0, 0, 0, 0, 0⟩ = 0 := by decide +kernel
theorem ok_zero : Fe.Ok ⟨0, 0, 0, 0, 0⟩ := by constructor <;> decide
set_option maxHeartbeats 400000 in
theorem zero_any (a : Fe) (w : World) (ha : a.Ok) :
    Calls Tryd.prog 32 #[.agg #[.int .u64 a.x0, .int .u64 a.x1, .int .u64 a.x2, .int .u64 a.x3, .int .u64 a.x4]] w fun e w' => e = .returned (.bool (decide (Fe.m a = 0))) ∧ w.grownBy w' none := by
  have hg0 : ∀ c0, w.grownBy (w.alloc c0) none := fun c0 => gb_alloc (gb_refl _ _) _
  go_enter Tryd.func32, Tryd.ntmps32
  go_wp2_with (go_at_call 24; refine (same_any a ⟨0, 0, 0, 0, 0⟩ _ ha ok_zero).mono ?_; rintro e w1 ⟨rfl, hg1⟩)
  go_ret
  exact ⟨by rw [m_zero]; rfl, gb_trans (hg0 _) hg1⟩
theorem odd_bits (x : Int) (_ : 0 ≤ x) : (bits .and .u8 (x % 256) 1 == 1) = decide (x % 2 = 1) := by
  have all : ∀ j : Fin 256, (bits .and .u8 (j.val : Int) 1 == 1) = decide ((j.val : Int) % 2 = 1) := by decide +kernel
  obtain ⟨n, hn⟩ := Int.eq_ofNat_of_zero_le (show 0 ≤ x % 256 by omega)
  have h1 : (bits .and .u8 (n : Int) 1 == 1) = decide ((n : Int) % 2 = 1) := all ⟨n, by omega⟩
  have e : (n : Int) % 2 = x % 2 := by omega
  rw [hn, h1, e]
set_option maxHeartbeats 400000 in
theorem odd_any (a : Fe) (w : World) (ha : a.Ok) :
    Calls Tryd.prog 26 #[.agg #[.int .u64 a.x0, .int .u64 a.x1, .int .u64 a.x2, .int .u64 a.x3, .int .u64 a.x4]] w fun e w' => e = .returned (.bool (decide (Fe.m a % 2 = 1))) ∧ w.grownBy w' none := by
  have hg0 : ∀ c0, w.grownBy (w.alloc c0) none := fun c0 => gb_alloc (gb_refl _ _) _
  have hi : ∀ w, (Instr.index 79 (.agg (bytesV (Fe.m a)).toArray) (.int .i64 0)).run Tryd.prog w = .ok (.int .u8 ((Fe.m a : Int) / 1 % 256)) w := fun _ => by kernel_rfl
  simp only [Int.ediv_one] at hi
  have ho := odd_bits (Fe.m a) (m_bd a).1
  go_enter Tryd.func26, Tryd.ntmps26
  go_wp2_with (go_at_call 51; refine (bytesOf_any a _ ha).mono ?_; rintro e w1 ⟨rfl, hg1⟩)
  clear ho hi
  go_ret
  refine ⟨?_, gb_trans (hg0 _) hg1⟩
  have e : decide ((Fe.m a : Int) % 2 = 1) = decide (Fe.m a % 2 = 1) := by
    rw [Bool.eq_iff_iff, decide_eq_true_iff, decide_eq_true_iff]; omega
  rw [← e]; rfl
set_option maxHeartbeats 400000 in
theorem put_any (a : Fe) (w : World) (ha : a.Ok) :
    Calls Tryd.prog 40 #[.agg #[.int .u64 a.x0, .int .u64 a.x1, .int .u64 a.x2, .int .u64 a.x3, .int .u64 a.x4]] w fun e w' => ∃ NB, e = .returned (.slice (some ⟨NB, 0, none⟩) 32 32) ∧ w.grownBy w' none ∧ w.heap.size ≤ NB ∧ Blk w' NB 79 (bytesV (Fe.m a)) := by
  have hg0 : ∀ c0, w.grownBy (w.alloc c0) none := fun c0 => gb_alloc (gb_refl _ _) _
  obtain ⟨X, hX⟩ : ∃ X, X = bytesV (Fe.m a) := ⟨_, rfl⟩
  have hXl : X.length = 32 := by rw [hX]; rfl
  have hX1 : X.toArray.all (·.oneCell') = true := by rw [hX]; exact bytesV_one _
  have HX := Lib.hid (And.intro hX (And.intro hXl hX1)); clear hX hXl hX1
  go_enter Tryd.func40, Tryd.ntmps40
  go_wp2_with fail
  refine (bytesOf_any a _ ha).mono ?_
  rintro e w1 ⟨rfl, hg1⟩
  rw [← HX.out.1]
  go_wp2_with (refine wpList_store_row rfl 79 (.tmp 3) (.tmp 5) rfl w1.heap.size X.toArray rfl rfl 79 zeros32.toArray (Blk.new w1 zeros32 79) (by rw [List.size_toArray, HX.out.2.1]; exact info_b32) (by rw [List.size_toArray, List.size_toArray, HX.out.2.1]; rfl) HX.out.2.2 ?_)
  have hb := (Blk.new w1 zeros32 79).row X
  rw [HX.out.1] at hb
  go_ret
  exact ⟨w1.heap.size, rfl, gb_setRow (gb_alloc (gb_trans (hg0 _) hg1) _) (Nat.le_trans (hg0 (.cells #[] 0)).size (Nat.le_trans (by simp) hg1.size)) _, by have := hg1.size; simp at this; omega, by rw [HX.out.1]; exact hb⟩
end Go.Proofs.YtleegbaigedebaaDoor

/- field: powers: the step that goes on from a power. -/
namespace Go.Proofs.YtleegbaigedebaaDoor
open Go.RowKit

theorem mul_fe (a b : Fe) (w : World) (ha : a.Ok) (hb : b.Ok) : Calls Tryd.prog 25 #[.agg #[.int .u64 a.x0, .int .u64 a.x1, .int .u64 a.x2, .int .u64 a.x3, .int .u64 a.x4], .agg #[.int .u64 b.x0, .int .u64 b.x1, .int .u64 b.x2, .int .u64 b.x3, .int .u64 b.x4]] w (FeOut (Fe.mulF a b) w) :=
  mul_any a.x0 a.x1 a.x2 a.x3 a.x4 b.x0 b.x1 b.x2 b.x3 b.x4 w ha.n0 ha.l0 ha.n1 ha.l1 ha.n2 ha.l2 ha.n3 ha.l3 ha.n4 ha.l4 hb.n0 hb.l0 hb.n1 hb.l1 hb.n2 hb.l2 hb.n3 hb.l3 hb.n4 hb.l4
theorem sq_fe (a : Fe) (w : World) (ha : a.Ok) : Calls Tryd.prog 28 #[.agg #[.int .u64 a.x0, .int .u64 a.x1, .int .u64 a.x2, .int .u64 a.x3, .int .u64 a.x4]] w (FeOut (Fe.sqF a) w) :=
  sq_any a.x0 a.x1 a.x2 a.x3 a.x4 w ha.n0 ha.l0 ha.n1 ha.l1 ha.n2 ha.l2 ha.n3 ha.l3 ha.n4 ha.l4
def sqN : Nat → Fe → Fe
  | 0, p => p
  | n + 1, p => Fe.sqF (sqN n p)
theorem sqN_ok {p : Fe} (h : p.Ok) (n : Nat) : (sqN n p).Ok := by
  cases n with
  | zero => exact h
  | succ n => exact (Fe.sq_right _).ok
def stepF (n : Nat) (p b : Fe) : Fe := Fe.mulF (sqN n p) b
def feL (a : Fe) : List Value := [.int .u64 a.x0, .int .u64 a.x1, .int .u64 a.x2, .int .u64 a.x3, .int .u64 a.x4]

set_option maxHeartbeats 400000 in
theorem powers_any (a : Fe) (w : World) :
    Calls Tryd.prog 72 #[.agg #[.int .u64 a.x0, .int .u64 a.x1, .int .u64 a.x2, .int .u64 a.x3, .int .u64 a.x4]] w fun e w' => e = .returned (.func (.func 84) #[] #[.pointer (some ⟨w.heap.size + 1, 0, none⟩)]) ∧ w.grownBy w' none ∧ Blk w' (w.heap.size + 1) 26 (feL a) := by
  have hmf : ∀ (fn : Fn) (first cap : Array Value) (w : World), (Instr.makeFunc fn first cap).run Tryd.prog w = .ok (.func fn first cap) w := fun _ _ _ _ => rfl
  go_enter Tryd.func72, Tryd.ntmps72
  go_wp2
  go_ret
  exact ⟨rfl, gb_alloc (gb_alloc (gb_refl _ _) _) _, Blk.newAt (w.alloc _) (feL a) _ (by simp)⟩
set_option maxHeartbeats 1600000 in
theorem step_any (C n : Nat) (p b : Fe) (w : World) (hn : n ≤ 1000) (hp : p.Ok) (hb : b.Ok) (hC : Blk w C 26 (feL p)) :
    Calls Tryd.prog 84 #[.int .i64 n, .agg #[.int .u64 b.x0, .int .u64 b.x1, .int .u64 b.x2, .int .u64 b.x3, .int .u64 b.x4], .pointer (some ⟨C, 0, none⟩)] w fun e w' => ∃ r : Fe, Hid (r = stepF n p b) ∧ e = .returned (.agg #[.int .u64 r.x0, .int .u64 r.x1, .int .u64 r.x2, .int .u64 r.x3, .int .u64 r.x4]) ∧ w.grownBy w' (some C) ∧ Blk w' C 26 (feL r) := by
  have hlt := hC.lt
  go_enter Tryd.func84, Tryd.ntmps84
  go_wp2
  go_loopw [7] (fun i wr => ∃ k : Nat, k ≤ n ∧ i = .int .i64 k ∧ w.grownBy wr (some C) ∧ Blk wr C 26 (feL (sqN k p)) ∧ Blk wr w.heap.size 26 (feL b) ∧ Room5 wr (w.heap.size + 1) 26) (fun i _ => n - (intOf i).toNat)
  case atStart => exact ⟨0, by omega, rfl, gb_alloc (gb_alloc (gb_refl _ _) _) _, (hC.alloc _).alloc _, (Blk.new w (feL b) _).alloc _, ⟨_, _, _, _, _, Blk.newAt _ [.int .u64 0, .int .u64 0, .int .u64 0, .int .u64 0, .int .u64 0] _ (by simp)⟩⟩
  case round =>
    obtain ⟨k, hk, rfl, hg, hP, hB, hR⟩ := hrel
    have hok := sqN_ok hp k
    by_cases hlt2 : k < n
    · have hs : Hid (sqN (k + 1) p = Fe.sqF (sqN k p)) := Lib.hid rfl
      obtain ⟨q, hq⟩ : ∃ q, q = sqN k p := ⟨_, rfl⟩
      rw [← hq] at hP hok
      have HQ := Lib.hid hq; clear hq
      have z0 := hP.cell (i := 0) rfl; have z1 := hP.cell (i := 1) rfl; have z2 := hP.cell (i := 2) rfl; have z3 := hP.cell (i := 3) rfl; have z4 := hP.cell (i := 4) rfl
      go_wp2_with (go_at_call 28; refine (sq_fe q _ hok).mono ?_; rintro e w1 ⟨r, hr, rfl, hg1⟩; have hP1 := hP.grown hg1 (by simp); have y0 := hP1.cell (i := 0) rfl; have y1 := hP1.cell (i := 1) rfl; have y2 := hP1.cell (i := 2) rfl; have y3 := hP1.cell (i := 3) rfl; have y4 := hP1.cell (i := 4) rfl; have f0 := hP1.free 0; have f1 := hP1.free 1; have f2 := hP1.free 2; have f3 := hP1.free 3; have f4 := hP1.free 4)
      go_roundw
      case rel =>
        refine ⟨k + 1, by omega, by go_num, gb_set (gb_set (gb_set (gb_set (gb_set (gb_trans hg (gb_row hg1 _)) _ _) _ _) _ _) _ _) _ _, ?_, ?_, ?_⟩
        · have := Room5.set5 ⟨_, _, _, _, _, hP1⟩ (.int .u64 r.x0) (.int .u64 r.x1) (.int .u64 r.x2) (.int .u64 r.x3) (.int .u64 r.x4)
          rw [hs.out, ← HQ.out, ← hr.out]
          exact this
        · exact (((((hB.grown hg1 (by simp)).other (by simp; omega) _).other (by simp; omega) _).other (by simp; omega) _).other (by simp; omega) _).other (by simp; omega) _
        · exact room5_set (room5_set (room5_set (room5_set (room5_set (hR.grown hg1 (by simp)) (by simp; omega) _) (by simp; omega) _) (by simp; omega) _) (by simp; omega) _) (by simp; omega) _
      case measure => simp [intOf]; omega
    · obtain rfl : k = n := by omega
      obtain ⟨q, hq⟩ : ∃ q, q = sqN k p := ⟨_, rfl⟩
      rw [← hq] at hP hok
      have HQ := Lib.hid hq; clear hq
      have z0 := hP.cell (i := 0) rfl; have z1 := hP.cell (i := 1) rfl; have z2 := hP.cell (i := 2) rfl; have z3 := hP.cell (i := 3) rfl; have z4 := hP.cell (i := 4) rfl
      have v0 := hB.cell (i := 0) rfl; have v1 := hB.cell (i := 1) rfl; have v2 := hB.cell (i := 2) rfl; have v3 := hB.cell (i := 3) rfl; have v4 := hB.cell (i := 4) rfl
      go_wp2_with (go_at_call 25; refine (mul_fe q b _ hok hb).mono ?_; rintro e w1 ⟨r, hr, rfl, hg1⟩; have hP1 := hP.grown hg1 (by simp); have y0 := hP1.cell (i := 0) rfl; have y1 := hP1.cell (i := 1) rfl; have y2 := hP1.cell (i := 2) rfl; have y3 := hP1.cell (i := 3) rfl; have y4 := hP1.cell (i := 4) rfl; have f0 := hP1.free 0; have f1 := hP1.free 1; have f2 := hP1.free 2; have f3 := hP1.free 3; have f4 := hP1.free 4; obtain ⟨u0, u1, u2, u3, u4, hR1⟩ := hR.grown hg1 (by simp); have t0 := hR1.cell (i := 0) rfl; have t1 := hR1.cell (i := 1) rfl; have t2 := hR1.cell (i := 2) rfl; have t3 := hR1.cell (i := 3) rfl; have t4 := hR1.cell (i := 4) rfl; have g0 := hR1.free 0; have g1 := hR1.free 1; have g2 := hR1.free 2; have g3 := hR1.free 3; have g4 := hR1.free 4)
      refine bodyPost_ret (v := .agg #[.int .u64 r.x0, .int .u64 r.x1, .int .u64 r.x2, .int .u64 r.x3, .int .u64 r.x4]) ?_ rfl ⟨r, ?_, rfl, ?_, ?_⟩
      · simp [results, Tryd.results84, go_sem, t0, t1, t2, t3, t4]
      · have e := hr.out
        rw [HQ.out] at e
        exact e
      · exact gb_set_new (gb_set_new (gb_set_new (gb_set_new (gb_set_new (gb_set (gb_set (gb_set (gb_set (gb_set (gb_trans hg (gb_row hg1 _)) _ _) _ _) _ _) _ _) _ _) (by simp) _) (by simp) _) (by simp) _) (by simp) _) (by simp) _
      · exact (((((Room5.set5 ⟨_, _, _, _, _, hP1⟩ (.int .u64 r.x0) (.int .u64 r.x1) (.int .u64 r.x2) (.int .u64 r.x3) (.int .u64 r.x4)).other (by simp; omega) _).other (by simp; omega) _).other (by simp; omega) _).other (by simp; omega) _).other (by simp; omega) _
end Go.Proofs.YtleegbaigedebaaDoor

/- field: manyOnes: a step that stands at a to the power 2^250 - 1. -/
namespace Go.Proofs.YtleegbaigedebaaDoor
open Go.RowKit
def ones1 (a : Fe) : Fe := stepF 1 a a
def ones2 (a : Fe) : Fe := stepF 2 (ones1 a) (ones1 a)
def ones3 (a : Fe) : Fe := stepF 1 (ones2 a) a
def ones4 (a : Fe) : Fe := stepF 5 (ones3 a) (ones3 a)
def ones5 (a : Fe) : Fe := stepF 10 (ones4 a) (ones4 a)
def ones6 (a : Fe) : Fe := stepF 20 (ones5 a) (ones5 a)
def ones7 (a : Fe) : Fe := stepF 10 (ones6 a) (ones4 a)
def ones8 (a : Fe) : Fe := stepF 50 (ones7 a) (ones7 a)
def ones9 (a : Fe) : Fe := stepF 100 (ones8 a) (ones8 a)
def ones10 (a : Fe) : Fe := stepF 50 (ones9 a) (ones7 a)
theorem stepF_ok (n : Nat) (p b : Fe) : (stepF n p b).Ok := (Fe.mul_right _ _).ok

set_option maxRecDepth 100000 in
set_option maxHeartbeats 1600000 in
theorem manyOnes_any (a : Fe) (w : World) (ha : a.Ok) :
    Calls Tryd.prog 54 #[.agg #[.int .u64 a.x0, .int .u64 a.x1, .int .u64 a.x2, .int .u64 a.x3, .int .u64 a.x4]] w fun e w' => ∃ (C : Nat) (r : Fe), Hid (r = ones10 a) ∧ e = .returned (.func (.func 84) #[] #[.pointer (some ⟨C, 0, none⟩)]) ∧ w.grownBy w' none ∧ w.heap.size ≤ C ∧ Blk w' C 26 (feL r) := by
  go_enter Tryd.func54, Tryd.ntmps54
  have hA0 : Blk (w.alloc (.cells #[.int .u64 a.x0, .int .u64 a.x1, .int .u64 a.x2, .int .u64 a.x3, .int .u64 a.x4] 26)) w.heap.size 26 (feL a) := Blk.new w (feL a) _
  go_wp2_with fail
  refine (powers_any a _).mono ?_
  rintro e v0 ⟨rfl, hg0, hP0⟩
  have hsz : (w.alloc (.cells #[.int .u64 a.x0, .int .u64 a.x1, .int .u64 a.x2, .int .u64 a.x3, .int .u64 a.x4] 26)).heap.size = w.heap.size + 1 := by simp
  rw [hsz] at hP0
  clear hsz
  have G0 := gb_trans (gb_alloc (gb_refl w none) _) hg0
  have hAv0 := hA0.grown hg0 (by simp)
  have lt0 := hP0.lt
  clear hA0 hg0
  have cA0 := hAv0.cell (i := 0) rfl
  have cA1 := hAv0.cell (i := 1) rfl
  have cA2 := hAv0.cell (i := 2) rfl
  have cA3 := hAv0.cell (i := 3) rfl
  have cA4 := hAv0.cell (i := 4) rfl
  go_wp2_with fail
  refine (step_any (w.heap.size + 1 + 1) 1 a a _ (by decide) ha ha hP0).mono ?_
  rintro e v1 ⟨r1, hr1, rfl, hg1, hP1⟩
  have G1 := gb_then G0 hg1 (by omega)
  have lt1 := hP1.lt
  have ok1 : r1.Ok := by rw [hr1.out]; exact stepF_ok _ _ _
  have h_a_1 := hAv0.grown hg1 (some_ne (by omega))
  clear hg1 G0 hP0 hAv0
  clear cA0 cA1 cA2 cA3 cA4
  have h_two_n : Blk (v1.alloc (.cells #[.int .u64 r1.x0, .int .u64 r1.x1, .int .u64 r1.x2, .int .u64 r1.x3, .int .u64 r1.x4] 26)) v1.heap.size 26 (feL r1) := Blk.new v1 (feL r1) _
  go_wp2_with fail
  refine (step_any (w.heap.size + 1 + 1) 2 r1 r1 _ (by decide) ok1 ok1 (hP1.alloc _)).mono ?_
  rintro e v2 ⟨r2, hr2, rfl, hg2, hP2⟩
  have G2 := gb_then (gb_alloc G1 _) hg2 (by omega)
  have lt2 := hP2.lt
  have ok2 : r2.Ok := by rw [hr2.out]; exact stepF_ok _ _ _
  have h_a_2 := (h_a_1.alloc _).grown hg2 (some_ne (by omega))
  clear hg2 G1 hP1 h_a_1 h_two_n
  skip
  have c2_0 := h_a_2.cell (i := 0) rfl
  have c2_1 := h_a_2.cell (i := 1) rfl
  have c2_2 := h_a_2.cell (i := 2) rfl
  have c2_3 := h_a_2.cell (i := 3) rfl
  have c2_4 := h_a_2.cell (i := 4) rfl
  go_wp2_with fail
  refine (step_any (w.heap.size + 1 + 1) 1 r2 a _ (by decide) ok2 ha hP2).mono ?_
  rintro e v3 ⟨r3, hr3, rfl, hg3, hP3⟩
  have G3 := gb_then G2 hg3 (by omega)
  have lt3 := hP3.lt
  have ok3 : r3.Ok := by rw [hr3.out]; exact stepF_ok _ _ _
  clear hg3 G2 hP2 h_a_2
  clear c2_0 c2_1 c2_2 c2_3 c2_4
  have h_five_n : Blk (v3.alloc (.cells #[.int .u64 r3.x0, .int .u64 r3.x1, .int .u64 r3.x2, .int .u64 r3.x3, .int .u64 r3.x4] 26)) v3.heap.size 26 (feL r3) := Blk.new v3 (feL r3) _
  go_wp2_with fail
  refine (step_any (w.heap.size + 1 + 1) 5 r3 r3 _ (by decide) ok3 ok3 (hP3.alloc _)).mono ?_
  rintro e v4 ⟨r4, hr4, rfl, hg4, hP4⟩
  have G4 := gb_then (gb_alloc G3 _) hg4 (by omega)
  have lt4 := hP4.lt
  have ok4 : r4.Ok := by rw [hr4.out]; exact stepF_ok _ _ _
  clear hg4 G3 hP3 h_five_n
  skip
  have h_ten_n : Blk (v4.alloc (.cells #[.int .u64 r4.x0, .int .u64 r4.x1, .int .u64 r4.x2, .int .u64 r4.x3, .int .u64 r4.x4] 26)) v4.heap.size 26 (feL r4) := Blk.new v4 (feL r4) _
  go_wp2_with fail
  refine (step_any (w.heap.size + 1 + 1) 10 r4 r4 _ (by decide) ok4 ok4 (hP4.alloc _)).mono ?_
  rintro e v5 ⟨r5, hr5, rfl, hg5, hP5⟩
  have G5 := gb_then (gb_alloc G4 _) hg5 (by omega)
  have lt5 := hP5.lt
  have ok5 : r5.Ok := by rw [hr5.out]; exact stepF_ok _ _ _
  have h_ten_5 := h_ten_n.grown hg5 (some_ne (by omega))
  clear hg5 G4 hP4 h_ten_n
  skip
  have h_twenty_n : Blk (v5.alloc (.cells #[.int .u64 r5.x0, .int .u64 r5.x1, .int .u64 r5.x2, .int .u64 r5.x3, .int .u64 r5.x4] 26)) v5.heap.size 26 (feL r5) := Blk.new v5 (feL r5) _
  go_wp2_with fail
  refine (step_any (w.heap.size + 1 + 1) 20 r5 r5 _ (by decide) ok5 ok5 (hP5.alloc _)).mono ?_
  rintro e v6 ⟨r6, hr6, rfl, hg6, hP6⟩
  have G6 := gb_then (gb_alloc G5 _) hg6 (by omega)
  have lt6 := hP6.lt
  have ok6 : r6.Ok := by rw [hr6.out]; exact stepF_ok _ _ _
  have h_ten_6 := (h_ten_5.alloc _).grown hg6 (some_ne (by omega))
  clear hg6 G5 hP5 h_ten_5 h_twenty_n
  skip
  have c6_0 := h_ten_6.cell (i := 0) rfl
  have c6_1 := h_ten_6.cell (i := 1) rfl
  have c6_2 := h_ten_6.cell (i := 2) rfl
  have c6_3 := h_ten_6.cell (i := 3) rfl
  have c6_4 := h_ten_6.cell (i := 4) rfl
  go_wp2_with fail
  refine (step_any (w.heap.size + 1 + 1) 10 r6 r4 _ (by decide) ok6 ok4 hP6).mono ?_
  rintro e v7 ⟨r7, hr7, rfl, hg7, hP7⟩
  have G7 := gb_then G6 hg7 (by omega)
  have lt7 := hP7.lt
  have ok7 : r7.Ok := by rw [hr7.out]; exact stepF_ok _ _ _
  clear hg7 G6 hP6 h_ten_6
  clear c6_0 c6_1 c6_2 c6_3 c6_4
  have h_fifty_n : Blk (v7.alloc (.cells #[.int .u64 r7.x0, .int .u64 r7.x1, .int .u64 r7.x2, .int .u64 r7.x3, .int .u64 r7.x4] 26)) v7.heap.size 26 (feL r7) := Blk.new v7 (feL r7) _
  go_wp2_with fail
  refine (step_any (w.heap.size + 1 + 1) 50 r7 r7 _ (by decide) ok7 ok7 (hP7.alloc _)).mono ?_
  rintro e v8 ⟨r8, hr8, rfl, hg8, hP8⟩
  have G8 := gb_then (gb_alloc G7 _) hg8 (by omega)
  have lt8 := hP8.lt
  have ok8 : r8.Ok := by rw [hr8.out]; exact stepF_ok _ _ _
  have h_fifty_8 := h_fifty_n.grown hg8 (some_ne (by omega))
  clear hg8 G7 hP7 h_fifty_n
  skip
  have h_hundred_n : Blk (v8.alloc (.cells #[.int .u64 r8.x0, .int .u64 r8.x1, .int .u64 r8.x2, .int .u64 r8.x3, .int .u64 r8.x4] 26)) v8.heap.size 26 (feL r8) := Blk.new v8 (feL r8) _
  go_wp2_with fail
  refine (step_any (w.heap.size + 1 + 1) 100 r8 r8 _ (by decide) ok8 ok8 (hP8.alloc _)).mono ?_
  rintro e v9 ⟨r9, hr9, rfl, hg9, hP9⟩
  have G9 := gb_then (gb_alloc G8 _) hg9 (by omega)
  have lt9 := hP9.lt
  have ok9 : r9.Ok := by rw [hr9.out]; exact stepF_ok _ _ _
  have h_fifty_9 := (h_fifty_8.alloc _).grown hg9 (some_ne (by omega))
  clear hg9 G8 hP8 h_fifty_8 h_hundred_n
  skip
  have c9_0 := h_fifty_9.cell (i := 0) rfl
  have c9_1 := h_fifty_9.cell (i := 1) rfl
  have c9_2 := h_fifty_9.cell (i := 2) rfl
  have c9_3 := h_fifty_9.cell (i := 3) rfl
  have c9_4 := h_fifty_9.cell (i := 4) rfl
  go_wp2_with fail
  refine (step_any (w.heap.size + 1 + 1) 50 r9 r7 _ (by decide) ok9 ok7 hP9).mono ?_
  rintro e v10 ⟨r10, hr10, rfl, hg10, hP10⟩
  have G10 := gb_then G9 hg10 (by omega)
  have lt10 := hP10.lt
  have ok10 : r10.Ok := by rw [hr10.out]; exact stepF_ok _ _ _
  clear hg10 G9 hP9 h_fifty_9
  clear c9_0 c9_1 c9_2 c9_3 c9_4
  go_wp2_with fail
  skip
  go_ret
  have e1 : r1 = ones1 a := hr1.out
  have e2 : r2 = ones2 a := by rw [hr2.out, e1]; rfl
  have e3 : r3 = ones3 a := by rw [hr3.out, e2]; rfl
  have e4 : r4 = ones4 a := by rw [hr4.out, e3]; rfl
  have e5 : r5 = ones5 a := by rw [hr5.out, e4]; rfl
  have e6 : r6 = ones6 a := by rw [hr6.out, e5]; rfl
  have e7 : r7 = ones7 a := by rw [hr7.out, e6, e4]; rfl
  have e8 : r8 = ones8 a := by rw [hr8.out, e7]; rfl
  have e9 : r9 = ones9 a := by rw [hr9.out, e8]; rfl
  have e10 : r10 = ones10 a := by rw [hr10.out, e9, e7]; rfl
  exact ⟨_, r10, Lib.hid e10, rfl, G10, by omega, hP10⟩
end Go.Proofs.YtleegbaigedebaaDoor

/- field: regions that draw their order over elements: what slots hold, what stays. -/
namespace Go.Proofs.YtleegbaigedebaaDoor
open Go.RowKit

inductive Item where
  | any
  | val (x : Value)
  | ptr
def Okb (w0 : World) (env : List (Nat × Fe)) (B : Nat) : Prop := w0.heap.size ≤ B ∧ ∀ p ∈ env, p.1 ≠ B
def Item.holds (K : Nat → Prop) : Item → Value → World → Prop
  | .any, _, _ => True
  | .val x, v, _ => v = x
  | .ptr, v, w => ∃ Bn, v = .pointer (some ⟨Bn, 0, none⟩) ∧ Room5 w Bn 26 ∧ K Bn
def itemsG (K : Nat → Prop) (L : List Item) (d : Nat) (v : Value) (w : World) : Prop := (L.getD d .any).holds K v w
def set5W (w : World) (B : Nat) (r : Fe) : World :=
  ((((w.setCell ⟨B, 0, none⟩ (.int .u64 r.x0)).setCell ⟨B, 1, none⟩ (.int .u64 r.x1)).setCell ⟨B, 2, none⟩ (.int .u64 r.x2)).setCell ⟨B, 3, none⟩ (.int .u64 r.x3)).setCell ⟨B, 4, none⟩ (.int .u64 r.x4)
def Rel5 (r : Fe) (w w' : World) : Prop := w.grownBy w' none ∨ ∃ Bn, w' = set5W w Bn r ∧ Room5 w Bn 26
theorem rel5_refl (r : Fe) (w : World) : Rel5 r w w := Or.inl (gb_refl _ _)
theorem set5W_room {w : World} {B : Nat} {r : Fe} {T : TypeId} (h : Room5 w B T) (C : Nat) : Room5 (set5W w C r) B T := by
  by_cases e : C = B
  · subst e; exact ⟨_, _, _, _, _, h.set5 _ _ _ _ _⟩
  · exact room5_set (room5_set (room5_set (room5_set (room5_set h e _) e _) e _) e _) e _
theorem set5W_other {w : World} {B C : Nat} {r : Fe} {T : TypeId} {L : List Value} (h : Blk w B T L) (e : C ≠ B) : Blk (set5W w C r) B T L :=
  ((((h.other e _).other e _).other e _).other e _).other e _
theorem set5W_same {w : World} {B : Nat} {r : Fe} {T : TypeId} (h : Room5 w B T) : Blk (set5W w B r) B T (feL r) := h.set5 _ _ _ _ _
theorem items_stab (K : Nat → Prop) (L : List Item) (r : Fe) (d : Nat) (v : Value) (w w' : World) (hR : Rel5 r w w') (h : itemsG K L d v w) : itemsG K L d v w' := by
  unfold itemsG at *
  cases hx : L.getD d .any with
  | any => trivial
  | val x => rw [hx] at h; exact h
  | ptr =>
    rw [hx] at h
    obtain ⟨Bn, hv, hr, hN⟩ := h
    refine ⟨Bn, hv, ?_, hN⟩
    rcases hR with hg | ⟨C, rfl, _⟩
    · exact hr.grown hg (by simp)
    · exact set5W_room hr C
def Stored (K : Nat → Prop) (r : Fe) (_ : Nat) (u : Value) (w : World) : Prop := ∃ Bn, u = .pointer (some ⟨Bn, 0, none⟩) ∧ K Bn ∧ Blk w Bn 26 (feL r)
theorem stored_stab (K : Nat → Prop) (r : Fe) (j : Nat) (u : Value) (w w' : World) (hR : Rel5 r w w') (h : Stored K r j u w) : Stored K r j u w' := by
  obtain ⟨Bn, hu, hN, hb⟩ := h
  refine ⟨Bn, hu, hN, ?_⟩
  rcases hR with hg | ⟨C, rfl, hr⟩
  · exact hb.grown hg (by simp)
  · by_cases e : C = Bn
    · subst e; exact set5W_same hr
    · exact set5W_other hb e
structure EnvB (w0 : World) (N : Nat) (env : List (Nat × Fe)) (rooms : List Nat) (w : World) : Prop where
  g : w0.grownBy w none
  e : ∀ p ∈ env, Blk w p.1 26 (feL p.2)
  r : ∀ B ∈ rooms, Room5 w B 26
  n : ∀ p ∈ env, p.1 < N
  l : N ≤ w.heap.size
  m : w0.heap.size ≤ N
theorem EnvB.grown {w0 : World} {N : Nat} {env : List (Nat × Fe)} {rooms : List Nat} {w w' : World} (h : EnvB w0 N env rooms w) (hg : w.grownBy w' none) : EnvB w0 N env rooms w' :=
  ⟨gb_trans h.g hg, fun p hp => (h.e p hp).grown hg (by simp), fun B hB => (h.r B hB).grown hg (by simp), h.n, Nat.le_trans h.l hg.size, h.m⟩
theorem EnvB.set {w0 : World} {N : Nat} {env : List (Nat × Fe)} {rooms : List Nat} {w : World} (h : EnvB w0 N env rooms w) {B : Nat} (hB : Okb w0 env B) (r : Fe) : EnvB w0 N env rooms (set5W w B r) :=
  ⟨gb_set5 h.g hB.1 _ _ _ _ _, fun p hp => set5W_other (h.e p hp) (Ne.symm (hB.2 p hp)), fun C hC => set5W_room (h.r C hC) B, h.n, by show N ≤ _; have := h.l; simpa [set5W, World.setCell] using this, h.m⟩
theorem EnvB.fresh {w0 : World} {N : Nat} {env : List (Nat × Fe)} {rooms : List Nat} {w : World} (h : EnvB w0 N env rooms w) : Okb w0 env w.heap.size :=
  ⟨Nat.le_trans h.m h.l, fun p hp => by have := h.n p hp; have := h.l; omega⟩
def AllAt (a : Act) : Nat → List Value → Prop
  | _, [] => True
  | i, v :: r => a.tmps.getD i undef = v ∧ AllAt a (i + 1) r
theorem allAt_get {a : Act} : ∀ (vs : List Value) (i k : Nat) (v : Value), AllAt a i vs → vs[k]? = some v → a.tmps.getD (i + k) undef = v := by
  intro vs
  induction vs with
  | nil => intro i k v _ h; simp at h
  | cons x r ih =>
    intro i k v h hk
    cases k with
    | zero => simp at hk; subst hk; exact h.1
    | succ k => have := ih (i + 1) k v h.2 (by simpa using hk); rwa [show i + (k + 1) = i + 1 + k by omega]
theorem frame_is {a : Act} {vs : List Value} (hs : a.tmps.size = vs.length) (h : AllAt a 0 vs) (hd : a.defers = []) : a = { tmps := vs.toArray, defers := [] } := by
  have ht : a.tmps = vs.toArray := by
    apply Array.ext_getElem?
    intro i
    by_cases hi : i < a.tmps.size
    · have h2 : i < vs.length := by omega
      have := allAt_get vs 0 i vs[i] h (List.getElem?_eq_getElem h2)
      rw [Nat.zero_add] at this
      simp [hi] at this
      rw [Array.getElem?_eq_getElem hi, this]
      simp [h2]
    · rw [Array.getElem?_eq_none (by omega), Array.getElem?_eq_none (by simp; omega)]
  cases a
  simp at ht hd
  rw [ht, hd]
theorem gb_drewn (w : World) : w.grownBy w.drew none := gb_drew (gb_refl _ _)
end Go.Proofs.YtleegbaigedebaaDoor

/- field: fits. -/
namespace Go.Proofs.YtleegbaigedebaaDoor
open Go.RowKit
set_option maxRecDepth 100000 in
set_option maxHeartbeats 1600000 in
theorem fits_any (p q s : Fe) (w0 : World) (okp : p.Ok) (okq : q.Ok) (oks : s.Ok) :
    Calls Tryd.prog 75 #[.agg #[.int .u64 p.x0, .int .u64 p.x1, .int .u64 p.x2, .int .u64 p.x3, .int .u64 p.x4], .agg #[.int .u64 q.x0, .int .u64 q.x1, .int .u64 q.x2, .int .u64 q.x3, .int .u64 q.x4], .agg #[.int .u64 s.x0, .int .u64 s.x1, .int .u64 s.x2, .int .u64 s.x3, .int .u64 s.x4]] w0 fun e w' => e = .returned (.bool (decide (Fe.m (Fe.mulF (Fe.sqF p) s) = Fe.m q))) ∧ w0.grownBy w' none := by
  go_enter Tryd.func75, Tryd.ntmps75
  go_wp2
  have hB0 : EnvB w0 (w0.heap.size + 3) [(w0.heap.size, p), ((w0.heap.size + 1), q), ((w0.heap.size + 1 + 1), s)] [] (((w0.alloc (.cells #[.int .u64 p.x0, .int .u64 p.x1, .int .u64 p.x2, .int .u64 p.x3, .int .u64 p.x4] 26)).alloc (.cells #[.int .u64 q.x0, .int .u64 q.x1, .int .u64 q.x2, .int .u64 q.x3, .int .u64 q.x4] 26)).alloc (.cells #[.int .u64 s.x0, .int .u64 s.x1, .int .u64 s.x2, .int .u64 s.x3, .int .u64 s.x4] 26)) :=
    ⟨gb_alloc (gb_alloc (gb_alloc (gb_refl _ _) _) _) _, by
      intro p hp
      simp only [List.mem_cons, List.not_mem_nil, or_false] at hp
      rcases hp with rfl | rfl | rfl
      · exact ((Blk.new w0 (feL _) _).alloc _).alloc _
      · exact (Blk.newAt (w0.alloc _) (feL _) _ (by simp)).alloc _
      · exact Blk.newAt _ (feL _) _ (by simp), by simp, by intro p hp; simp only [List.mem_cons, List.not_mem_nil, or_false] at hp; rcases hp with rfl | rfl | rfl <;> simp only [] <;> omega, by simp, by omega⟩
  refine wp_region_flow2 (itemsG (Okb w0 [(w0.heap.size, p), ((w0.heap.size + 1), q), ((w0.heap.size + 1 + 1), s)]) [.any, .any, .any, .any, .any, .any, .val (.bool (decide (Fe.m (Fe.mulF (Fe.sqF p) s) = Fe.m q))), .val p.v, .val (Fe.sqF p).v, .val s.v, .val (Fe.mulF (Fe.sqF p) s).v, .val q.v, .val (.bool (decide (Fe.m (Fe.mulF (Fe.sqF p) s) = Fe.m q)))]) (fun j =>  0) (Stored (Okb w0 [(w0.heap.size, p), ((w0.heap.size + 1), q), ((w0.heap.size + 1 + 1), s)]) (Fe.zeroF)) (EnvB w0 (w0.heap.size + 3) [(w0.heap.size, p), ((w0.heap.size + 1), q), ((w0.heap.size + 1 + 1), s)] []) (Rel5 (Fe.zeroF)) (by kernel_rfl) (by kernel_rfl) (by kernel_rfl) (hB0.grown (gb_drewn _)) (fun d u w1 w2 hR h => items_stab _ _ _ d u w1 w2 hR h) (fun j u w1 w2 hR h => stored_stab _ _ j u w1 w2 hR h) (by kernel_rfl) ?_ ?_
  · refine ⟨flow2_value rfl rfl fun a w h => ?_, ?_⟩
    · have e3 : a.tmps.getD 3 undef = .pointer (some ⟨w0.heap.size, 0, none⟩) := h.rest 3 (by kernel_rfl)
      have hb := h.base.e (w0.heap.size, p) (by simp)
      have c0 : w.cell? ⟨w0.heap.size, 0, none⟩ = some (.int .u64 p.x0) := hb.cell (i := 0) rfl
      have c1 : w.cell? ⟨w0.heap.size, 1, none⟩ = some (.int .u64 p.x1) := hb.cell (i := 1) rfl
      have c2 : w.cell? ⟨w0.heap.size, 2, none⟩ = some (.int .u64 p.x2) := hb.cell (i := 2) rfl
      have c3 : w.cell? ⟨w0.heap.size, 3, none⟩ = some (.int .u64 p.x3) := hb.cell (i := 3) rfl
      have c4 : w.cell? ⟨w0.heap.size, 4, none⟩ = some (.int .u64 p.x4) := hb.cell (i := 4) rfl
      refine ⟨.agg #[.int .u64 p.x0, .int .u64 p.x1, .int .u64 p.x2, .int .u64 p.x3, .int .u64 p.x4], w, ?_, h.base, rel5_refl _ _, rfl⟩
      clear h hb
      simp only [execOp, Act.eval, e3]
      go_simp
    refine ⟨flow2_call rfl rfl fun a w h => ?_, ?_⟩
    · have e7 : a.tmps.getD 7 undef = p.v := h.dep 7 (by kernel_rfl)
      have e7x : a.tmps[7]?.getD undef = p.v := by simpa using e7
      have hb := h.base
      refine ⟨28, #[p.v], ?_, ?_⟩
      · clear h hb e7
        go_simp
      · refine (sq_fe p w okp).mono ?_
        intro e w1 hp
        obtain ⟨rfl, hg⟩ := feOut_is hp
        exact ⟨_, rfl, hb.grown hg, Or.inl hg, rfl⟩
    refine ⟨flow2_value rfl rfl fun a w h => ?_, ?_⟩
    · have e5 : a.tmps.getD 5 undef = .pointer (some ⟨(w0.heap.size + 1 + 1), 0, none⟩) := h.rest 5 (by kernel_rfl)
      have hb := h.base.e ((w0.heap.size + 1 + 1), s) (by simp)
      have c0 : w.cell? ⟨(w0.heap.size + 1 + 1), 0, none⟩ = some (.int .u64 s.x0) := hb.cell (i := 0) rfl
      have c1 : w.cell? ⟨(w0.heap.size + 1 + 1), 1, none⟩ = some (.int .u64 s.x1) := hb.cell (i := 1) rfl
      have c2 : w.cell? ⟨(w0.heap.size + 1 + 1), 2, none⟩ = some (.int .u64 s.x2) := hb.cell (i := 2) rfl
      have c3 : w.cell? ⟨(w0.heap.size + 1 + 1), 3, none⟩ = some (.int .u64 s.x3) := hb.cell (i := 3) rfl
      have c4 : w.cell? ⟨(w0.heap.size + 1 + 1), 4, none⟩ = some (.int .u64 s.x4) := hb.cell (i := 4) rfl
      refine ⟨.agg #[.int .u64 s.x0, .int .u64 s.x1, .int .u64 s.x2, .int .u64 s.x3, .int .u64 s.x4], w, ?_, h.base, rel5_refl _ _, rfl⟩
      clear h hb
      simp only [execOp, Act.eval, e5]
      go_simp
    refine ⟨flow2_call rfl rfl fun a w h => ?_, ?_⟩
    · have e8 : a.tmps.getD 8 undef = (Fe.sqF p).v := h.dep 8 (by kernel_rfl)
      have e9 : a.tmps.getD 9 undef = s.v := h.dep 9 (by kernel_rfl)
      have e8x : a.tmps[8]?.getD undef = (Fe.sqF p).v := by simpa using e8
      have e9x : a.tmps[9]?.getD undef = s.v := by simpa using e9
      have hb := h.base
      refine ⟨25, #[(Fe.sqF p).v, s.v], ?_, ?_⟩
      · clear h hb e8 e9
        go_simp
      · refine (mul_fe (Fe.sqF p) s w (Fe.sq_right _).ok oks).mono ?_
        intro e w1 hp
        obtain ⟨rfl, hg⟩ := feOut_is hp
        exact ⟨_, rfl, hb.grown hg, Or.inl hg, rfl⟩
    refine ⟨flow2_value rfl rfl fun a w h => ?_, ?_⟩
    · have e4 : a.tmps.getD 4 undef = .pointer (some ⟨(w0.heap.size + 1), 0, none⟩) := h.rest 4 (by kernel_rfl)
      have hb := h.base.e ((w0.heap.size + 1), q) (by simp)
      have c0 : w.cell? ⟨(w0.heap.size + 1), 0, none⟩ = some (.int .u64 q.x0) := hb.cell (i := 0) rfl
      have c1 : w.cell? ⟨(w0.heap.size + 1), 1, none⟩ = some (.int .u64 q.x1) := hb.cell (i := 1) rfl
      have c2 : w.cell? ⟨(w0.heap.size + 1), 2, none⟩ = some (.int .u64 q.x2) := hb.cell (i := 2) rfl
      have c3 : w.cell? ⟨(w0.heap.size + 1), 3, none⟩ = some (.int .u64 q.x3) := hb.cell (i := 3) rfl
      have c4 : w.cell? ⟨(w0.heap.size + 1), 4, none⟩ = some (.int .u64 q.x4) := hb.cell (i := 4) rfl
      refine ⟨.agg #[.int .u64 q.x0, .int .u64 q.x1, .int .u64 q.x2, .int .u64 q.x3, .int .u64 q.x4], w, ?_, h.base, rel5_refl _ _, rfl⟩
      clear h hb
      simp only [execOp, Act.eval, e4]
      go_simp
    refine ⟨flow2_call rfl rfl fun a w h => ?_, ?_⟩
    · have e10 : a.tmps.getD 10 undef = (Fe.mulF (Fe.sqF p) s).v := h.dep 10 (by kernel_rfl)
      have e11 : a.tmps.getD 11 undef = q.v := h.dep 11 (by kernel_rfl)
      have e10x : a.tmps[10]?.getD undef = (Fe.mulF (Fe.sqF p) s).v := by simpa using e10
      have e11x : a.tmps[11]?.getD undef = q.v := by simpa using e11
      have hb := h.base
      refine ⟨24, #[(Fe.mulF (Fe.sqF p) s).v, q.v], ?_, ?_⟩
      · clear h hb e10 e11
        go_simp
      · refine (same_any (Fe.mulF (Fe.sqF p) s) q w (Fe.mul_right _ _).ok okq).mono ?_
        intro e w1 hp
        obtain ⟨rfl, hg⟩ := hp
        exact ⟨_, rfl, hb.grown hg, Or.inl hg, rfl⟩
    refine ⟨flow2_value rfl rfl fun a w h => ?_, ?_⟩
    · have e12 : a.tmps.getD 12 undef = .bool (decide (Fe.m (Fe.mulF (Fe.sqF p) s) = Fe.m q)) := h.dep 12 (by kernel_rfl)
      refine ⟨.bool (decide (Fe.m (Fe.mulF (Fe.sqF p) s) = Fe.m q)), w, ?_, h.base, rel5_refl _ _, rfl⟩
      clear h
      simp only [execOp, Act.eval, e12]
      go_simp
    trivial
  · intro a w1 hB hsz hdf hrest hslots hmems
    have hg := hB.g
    obtain rfl := frame_is (a := a) (vs := [.agg #[.int .u64 p.x0, .int .u64 p.x1, .int .u64 p.x2, .int .u64 p.x3, .int .u64 p.x4], .agg #[.int .u64 q.x0, .int .u64 q.x1, .int .u64 q.x2, .int .u64 q.x3, .int .u64 q.x4], .agg #[.int .u64 s.x0, .int .u64 s.x1, .int .u64 s.x2, .int .u64 s.x3, .int .u64 s.x4], .pointer (some ⟨w0.heap.size, 0, none⟩), .pointer (some ⟨w0.heap.size + 1, 0, none⟩), .pointer (some ⟨w0.heap.size + 1 + 1, 0, none⟩), .bool (decide (Fe.m (Fe.mulF (Fe.sqF p) s) = Fe.m q)), p.v, (Fe.sqF p).v, s.v, (Fe.mulF (Fe.sqF p) s).v, q.v, .bool (decide (Fe.m (Fe.mulF (Fe.sqF p) s) = Fe.m q))]) hsz ⟨hrest 0 (by kernel_rfl), hrest 1 (by kernel_rfl), hrest 2 (by kernel_rfl), hrest 3 (by kernel_rfl), hrest 4 (by kernel_rfl), hrest 5 (by kernel_rfl), hslots 6 (by kernel_rfl), hslots 7 (by kernel_rfl), hslots 8 (by kernel_rfl), hslots 9 (by kernel_rfl), hslots 10 (by kernel_rfl), hslots 11 (by kernel_rfl), hslots 12 (by kernel_rfl), trivial⟩ hdf
    clear hB hsz hdf hrest hslots hmems
    go_wp2
    go_ret
    exact ⟨rfl, hg⟩
end Go.Proofs.YtleegbaigedebaaDoor

/- field: Invert. -/
namespace Go.Proofs.YtleegbaigedebaaDoor
open Go.RowKit
def invF (a : Fe) : Fe := stepF 5 (ones10 a) (Fe.mulF (Fe.sqF (Fe.sqF (Fe.sqF a))) (Fe.mulF (Fe.sqF a) a))
set_option maxRecDepth 100000 in
set_option maxHeartbeats 1600000 in
theorem invert_any (p : Fe) (w0 : World) (okp : p.Ok) :
    Calls Tryd.prog 27 #[.agg #[.int .u64 p.x0, .int .u64 p.x1, .int .u64 p.x2, .int .u64 p.x3, .int .u64 p.x4]] w0 (FeOut (invF p) w0) := by
  have hA0 : ∀ o, Blk ((w0.alloc (.cells #[.int .u64 p.x0, .int .u64 p.x1, .int .u64 p.x2, .int .u64 p.x3, .int .u64 p.x4] 26)).alloc o) w0.heap.size 26 (feL p) := fun o => (Blk.new w0 (feL p) _).alloc o
  have hR0 : Room5 ((w0.alloc (.cells #[.int .u64 p.x0, .int .u64 p.x1, .int .u64 p.x2, .int .u64 p.x3, .int .u64 p.x4] 26)).alloc (.cells #[.int .u64 0, .int .u64 0, .int .u64 0, .int .u64 0, .int .u64 0] 26)) (w0.heap.size + 1) 26 := ⟨_, _, _, _, _, Blk.newAt _ [.int .u64 0, .int .u64 0, .int .u64 0, .int .u64 0, .int .u64 0] _ (by simp)⟩
  have hg0 : ∀ c0 c1, w0.grownBy ((w0.alloc c0).alloc c1) none := fun c0 c1 => gb_alloc (gb_alloc (gb_refl _ _) _) _
  go_enter Tryd.func27, Tryd.ntmps27
  go_wp2_with fail
  refine (sq_fe p _ okp).mono ?_
  rintro e v1 ⟨q1, hq1, rfl, hg1⟩
  have ok1 : q1.Ok := by rw [hq1.out]; exact (Fe.sq_right _).ok
  have hA1 := (hA0 _).grown hg1 (by simp)
  have hR1 := hR0.grown hg1 (by simp)
  have G1 := gb_trans (hg0 _ _) hg1
  clear hA0 hR0 hg0 hg1
  go_wp2_with fail
  refine (sq_fe q1 _ ok1).mono ?_
  rintro e v2 ⟨q2, hq2, rfl, hg2⟩
  have ok2 : q2.Ok := by rw [hq2.out]; exact (Fe.sq_right _).ok
  have hA2 := hA1.grown hg2 (by simp)
  have hR2 := hR1.grown hg2 (by simp)
  have G2 := gb_trans G1 hg2
  clear hA1 hR1 G1 hg2
  go_wp2_with fail
  refine (sq_fe q2 _ ok2).mono ?_
  rintro e v3 ⟨q3, hq3, rfl, hg3⟩
  have okq3 : q3.Ok := by rw [hq3.out]; exact (Fe.sq_right _).ok
  have hA3 := hA2.grown hg3 (by simp)
  have hR3 := hR2.grown hg3 (by simp)
  have G3 := gb_trans G2 hg3
  have hlt := hR3
  obtain ⟨_, _, _, _, _, hlt⟩ := hlt
  have hlt := hlt.lt
  clear hA2 hR2 G2 hg3
  have hB0 : EnvB w0 (v3.heap.size + 1) [(w0.heap.size, p), (v3.heap.size, q3)] [(w0.heap.size + 1)] (v3.alloc (.cells #[.int .u64 q3.x0, .int .u64 q3.x1, .int .u64 q3.x2, .int .u64 q3.x3, .int .u64 q3.x4] 26)) :=
    ⟨gb_alloc G3 _, by
      intro z hz
      simp only [List.mem_cons, List.not_mem_nil, or_false] at hz
      rcases hz with rfl | rfl
      · exact hA3.alloc _
      · exact Blk.new v3 (feL _) _, by
      intro B hB
      simp only [List.mem_cons, List.not_mem_nil, or_false] at hB
      subst hB
      exact hR3.grown (World.grownBy_alloc _ _ none) (by simp), by intro z hz; simp only [List.mem_cons, List.not_mem_nil, or_false] at hz; rcases hz with rfl | rfl <;> simp only [] <;> omega, by simp, by omega⟩
  clear hA3 hR3 G3
  go_wp2_with fail
  refine wp_region_flow2 (itemsG (Okb w0 [(w0.heap.size, p), (v3.heap.size, q3)]) [.any, .any, .any, .any, .ptr, .any, .any, .any, .any, .any, .val q3.v, .val p.v, .val (Fe.sqF p).v, .val p.v, .val (Fe.mulF (Fe.sqF p) p).v, .val (Fe.mulF q3 (Fe.mulF (Fe.sqF p) p)).v, .any, .any, .any, .any, .any]) (fun j => if j = 7 then 4 else 0) (Stored (Okb w0 [(w0.heap.size, p), (v3.heap.size, q3)]) (Fe.mulF q3 (Fe.mulF (Fe.sqF p) p))) (EnvB w0 (v3.heap.size + 1) [(w0.heap.size, p), (v3.heap.size, q3)] [(w0.heap.size + 1)]) (Rel5 (Fe.mulF q3 (Fe.mulF (Fe.sqF p) p))) (by kernel_rfl) (by kernel_rfl) (by kernel_rfl) (hB0.grown (gb_drewn _)) (fun d u w1 w2 hR h => items_stab _ _ _ d u w1 w2 hR h) (fun j u w1 w2 hR h => stored_stab _ _ j u w1 w2 hR h) (by kernel_rfl) ?_ ?_
  · refine ⟨flow2_value rfl rfl fun a w h => ?_, ?_⟩
    · have e3 : a.tmps.getD 3 undef = .pointer (some ⟨v3.heap.size, 0, none⟩) := h.rest 3 (by kernel_rfl)
      have hb := h.base.e (v3.heap.size, q3) (by simp)
      have c0 : w.cell? ⟨v3.heap.size, 0, none⟩ = some (.int .u64 q3.x0) := hb.cell (i := 0) rfl
      have c1 : w.cell? ⟨v3.heap.size, 1, none⟩ = some (.int .u64 q3.x1) := hb.cell (i := 1) rfl
      have c2 : w.cell? ⟨v3.heap.size, 2, none⟩ = some (.int .u64 q3.x2) := hb.cell (i := 2) rfl
      have c3 : w.cell? ⟨v3.heap.size, 3, none⟩ = some (.int .u64 q3.x3) := hb.cell (i := 3) rfl
      have c4 : w.cell? ⟨v3.heap.size, 4, none⟩ = some (.int .u64 q3.x4) := hb.cell (i := 4) rfl
      refine ⟨.agg #[.int .u64 q3.x0, .int .u64 q3.x1, .int .u64 q3.x2, .int .u64 q3.x3, .int .u64 q3.x4], w, ?_, h.base, rel5_refl _ _, rfl⟩
      clear h hb
      simp only [execOp, Act.eval, e3]
      go_simp
    refine ⟨flow2_value rfl rfl fun a w h => ?_, ?_⟩
    · have e1 : a.tmps.getD 1 undef = .pointer (some ⟨w0.heap.size, 0, none⟩) := h.rest 1 (by kernel_rfl)
      have hb := h.base.e (w0.heap.size, p) (by simp)
      have c0 : w.cell? ⟨w0.heap.size, 0, none⟩ = some (.int .u64 p.x0) := hb.cell (i := 0) rfl
      have c1 : w.cell? ⟨w0.heap.size, 1, none⟩ = some (.int .u64 p.x1) := hb.cell (i := 1) rfl
      have c2 : w.cell? ⟨w0.heap.size, 2, none⟩ = some (.int .u64 p.x2) := hb.cell (i := 2) rfl
      have c3 : w.cell? ⟨w0.heap.size, 3, none⟩ = some (.int .u64 p.x3) := hb.cell (i := 3) rfl
      have c4 : w.cell? ⟨w0.heap.size, 4, none⟩ = some (.int .u64 p.x4) := hb.cell (i := 4) rfl
      refine ⟨.agg #[.int .u64 p.x0, .int .u64 p.x1, .int .u64 p.x2, .int .u64 p.x3, .int .u64 p.x4], w, ?_, h.base, rel5_refl _ _, rfl⟩
      clear h hb
      simp only [execOp, Act.eval, e1]
      go_simp
    refine ⟨flow2_call rfl rfl fun a w h => ?_, ?_⟩
    · have e11 : a.tmps.getD 11 undef = p.v := h.dep 11 (by kernel_rfl)
      have e11x : a.tmps[11]?.getD undef = p.v := by simpa using e11
      have hb := h.base
      refine ⟨28, #[p.v], ?_, ?_⟩
      · clear h hb e11
        go_simp
      · refine (sq_fe p w okp).mono ?_
        intro e w1 hp
        obtain ⟨rfl, hg⟩ := feOut_is hp
        exact ⟨_, rfl, hb.grown hg, Or.inl hg, rfl⟩
    refine ⟨flow2_value rfl rfl fun a w h => ?_, ?_⟩
    · have e1 : a.tmps.getD 1 undef = .pointer (some ⟨w0.heap.size, 0, none⟩) := h.rest 1 (by kernel_rfl)
      have hb := h.base.e (w0.heap.size, p) (by simp)
      have c0 : w.cell? ⟨w0.heap.size, 0, none⟩ = some (.int .u64 p.x0) := hb.cell (i := 0) rfl
      have c1 : w.cell? ⟨w0.heap.size, 1, none⟩ = some (.int .u64 p.x1) := hb.cell (i := 1) rfl
      have c2 : w.cell? ⟨w0.heap.size, 2, none⟩ = some (.int .u64 p.x2) := hb.cell (i := 2) rfl
      have c3 : w.cell? ⟨w0.heap.size, 3, none⟩ = some (.int .u64 p.x3) := hb.cell (i := 3) rfl
      have c4 : w.cell? ⟨w0.heap.size, 4, none⟩ = some (.int .u64 p.x4) := hb.cell (i := 4) rfl
      refine ⟨.agg #[.int .u64 p.x0, .int .u64 p.x1, .int .u64 p.x2, .int .u64 p.x3, .int .u64 p.x4], w, ?_, h.base, rel5_refl _ _, rfl⟩
      clear h hb
      simp only [execOp, Act.eval, e1]
      go_simp
    refine ⟨flow2_call rfl rfl fun a w h => ?_, ?_⟩
    · have e12 : a.tmps.getD 12 undef = (Fe.sqF p).v := h.dep 12 (by kernel_rfl)
      have e13 : a.tmps.getD 13 undef = p.v := h.dep 13 (by kernel_rfl)
      have e12x : a.tmps[12]?.getD undef = (Fe.sqF p).v := by simpa using e12
      have e13x : a.tmps[13]?.getD undef = p.v := by simpa using e13
      have hb := h.base
      refine ⟨25, #[(Fe.sqF p).v, p.v], ?_, ?_⟩
      · clear h hb e12 e13
        go_simp
      · refine (mul_fe (Fe.sqF p) p w (Fe.sq_right _).ok okp).mono ?_
        intro e w1 hp
        obtain ⟨rfl, hg⟩ := feOut_is hp
        exact ⟨_, rfl, hb.grown hg, Or.inl hg, rfl⟩
    refine ⟨flow2_call rfl rfl fun a w h => ?_, ?_⟩
    · have e10 : a.tmps.getD 10 undef = q3.v := h.dep 10 (by kernel_rfl)
      have e14 : a.tmps.getD 14 undef = (Fe.mulF (Fe.sqF p) p).v := h.dep 14 (by kernel_rfl)
      have e10x : a.tmps[10]?.getD undef = q3.v := by simpa using e10
      have e14x : a.tmps[14]?.getD undef = (Fe.mulF (Fe.sqF p) p).v := by simpa using e14
      have hb := h.base
      refine ⟨25, #[q3.v, (Fe.mulF (Fe.sqF p) p).v], ?_, ?_⟩
      · clear h hb e10 e14
        go_simp
      · refine (mul_fe q3 (Fe.mulF (Fe.sqF p) p) w okq3 (Fe.mul_right _ _).ok).mono ?_
        intro e w1 hp
        obtain ⟨rfl, hg⟩ := feOut_is hp
        exact ⟨_, rfl, hb.grown hg, Or.inl hg, rfl⟩
    refine ⟨flow2_value rfl rfl fun a w h => ?_, ?_⟩
    · refine ⟨.pointer (some ⟨w.heap.size, 0, none⟩), w.alloc (.cells #[.int .u64 0, .int .u64 0, .int .u64 0, .int .u64 0, .int .u64 0] 26), ?_, h.base.grown (World.grownBy_alloc _ _ _), Or.inl (World.grownBy_alloc _ _ _), ⟨w.heap.size, rfl, ⟨_, _, _, _, _, Blk.new w [.int .u64 0, .int .u64 0, .int .u64 0, .int .u64 0, .int .u64 0] _⟩, h.base.fresh⟩⟩
      clear h
      go_simp
    refine ⟨flow2_skip rfl rfl fun a w h => ?_, ?_⟩
    · obtain ⟨Bn, ep, hroom, hK⟩ : ∃ Bn, a.tmps.getD 4 undef = .pointer (some ⟨Bn, 0, none⟩) ∧ Room5 w Bn 26 ∧ (Okb w0 [(w0.heap.size, p), (v3.heap.size, q3)]) Bn := h.dep 4 (by kernel_rfl)
      have e15 : a.tmps.getD 15 undef = .agg #[.int .u64 (Fe.mulF q3 (Fe.mulF (Fe.sqF p) p)).x0, .int .u64 (Fe.mulF q3 (Fe.mulF (Fe.sqF p) p)).x1, .int .u64 (Fe.mulF q3 (Fe.mulF (Fe.sqF p) p)).x2, .int .u64 (Fe.mulF q3 (Fe.mulF (Fe.sqF p) p)).x3, .int .u64 (Fe.mulF q3 (Fe.mulF (Fe.sqF p) p)).x4] := h.dep 15 (by kernel_rfl)
      refine ⟨set5W w Bn (Fe.mulF q3 (Fe.mulF (Fe.sqF p) p)), ?_, h.base.set hK _, Or.inr ⟨Bn, rfl, hroom⟩, ⟨Bn, ep, hK, set5W_same hroom⟩⟩
      obtain ⟨u0, u1, u2, u3, u4, hR⟩ := hroom
      have c0r := hR.cell (i := 0) rfl; have f0r := hR.free 0
      have c1r := hR.cell (i := 1) rfl; have f1r := hR.free 1
      have c2r := hR.cell (i := 2) rfl; have f2r := hR.free 2
      have c3r := hR.cell (i := 3) rfl; have f3r := hR.free 3
      have c4r := hR.cell (i := 4) rfl; have f4r := hR.free 4
      clear h hK hR
      unfold set5W
      simp only [execOp, Act.eval, ep, e15]
      go_simp
    trivial
  · intro a' w1 hB hsz hdf hrest hslots hmems
    obtain ⟨Bn, hptr, hK, hb⟩ := hmems 7 _ rfl rfl
    obtain rfl := frame_is (a := a') (vs := [.agg #[.int .u64 p.x0, .int .u64 p.x1, .int .u64 p.x2, .int .u64 p.x3, .int .u64 p.x4], .pointer (some ⟨w0.heap.size, 0, none⟩), .pointer (some ⟨w0.heap.size + 1, 0, none⟩), .pointer (some ⟨v3.heap.size, 0, none⟩), .pointer (some ⟨Bn, 0, none⟩), undef, .agg #[.int .u64 p.x0, .int .u64 p.x1, .int .u64 p.x2, .int .u64 p.x3, .int .u64 p.x4], .agg #[.int .u64 q1.x0, .int .u64 q1.x1, .int .u64 q1.x2, .int .u64 q1.x3, .int .u64 q1.x4], .agg #[.int .u64 q2.x0, .int .u64 q2.x1, .int .u64 q2.x2, .int .u64 q2.x3, .int .u64 q2.x4], .agg #[.int .u64 q3.x0, .int .u64 q3.x1, .int .u64 q3.x2, .int .u64 q3.x3, .int .u64 q3.x4], q3.v, p.v, (Fe.sqF p).v, p.v, (Fe.mulF (Fe.sqF p) p).v, (Fe.mulF q3 (Fe.mulF (Fe.sqF p) p)).v, undef, undef, undef, undef, undef]) hsz ⟨hrest 0 (by kernel_rfl), hrest 1 (by kernel_rfl), hrest 2 (by kernel_rfl), hrest 3 (by kernel_rfl), hptr, hrest 5 (by kernel_rfl), hrest 6 (by kernel_rfl), hrest 7 (by kernel_rfl), hrest 8 (by kernel_rfl), hrest 9 (by kernel_rfl), hslots 10 (by kernel_rfl), hslots 11 (by kernel_rfl), hslots 12 (by kernel_rfl), hslots 13 (by kernel_rfl), hslots 14 (by kernel_rfl), hslots 15 (by kernel_rfl), hrest 16 (by kernel_rfl), hrest 17 (by kernel_rfl), hrest 18 (by kernel_rfl), hrest 19 (by kernel_rfl), hrest 20 (by kernel_rfl), trivial⟩ hdf
    clear hptr hsz hdf hrest hslots hmems hB0
    obtain ⟨f, hf⟩ : ∃ f, f = Fe.mulF q3 (Fe.mulF (Fe.sqF p) p) := ⟨_, rfl⟩
    have okf : f.Ok := by rw [hf]; exact (Fe.mul_right _ _).ok
    rw [← hf] at hb
    have Hf := Lib.hid hf; clear hf
    have hAx := hB.e (w0.heap.size, p) (by simp)
    have hRx := hB.r _ (List.mem_singleton.2 rfl)
    have G4 := hB.g
    have hltb := hb.lt
    have hKn := hK.1
    have hKa := hK.2 (w0.heap.size, p) (by simp)
    clear hK hB
    have c0 := hAx.cell (i := 0) rfl
    have c1 := hAx.cell (i := 1) rfl
    have c2 := hAx.cell (i := 2) rfl
    have c3 := hAx.cell (i := 3) rfl
    have c4 := hAx.cell (i := 4) rfl
    go_wp2_with fail
    refine (manyOnes_any p _ okp).mono ?_
    rintro e w2 ⟨C, q, hq, rfl, hg5, hC, hP⟩
    have okq : q.Ok := by rw [hq.out]; exact stepF_ok _ _ _
    have hb2 := hb.grown hg5 (by simp)
    have hR5 := hRx.grown hg5 (by simp)
    have G5 := gb_trans G4 hg5
    have hs5 := hg5.size
    clear hAx hRx hb G4 hg5 c0 c1 c2 c3 c4
    have c0 := hb2.cell (i := 0) rfl
    have c1 := hb2.cell (i := 1) rfl
    have c2 := hb2.cell (i := 2) rfl
    have c3 := hb2.cell (i := 3) rfl
    have c4 := hb2.cell (i := 4) rfl
    go_wp2_with fail
    refine (step_any C 5 q f _ (by decide) okq okf hP).mono ?_
    rintro e w3 ⟨g, hgg, rfl, hg6, hP6⟩
    have hR6 := hR5.grown hg6 (some_ne (by omega))
    have G6 := gb_then G5 hg6 (by omega)
    obtain ⟨u0, u1, u2, u3, u4, hR7⟩ := hR6
    clear hR5 hb2 G5 hg6 c0 c1 c2 c3 c4
    have t0 := hR7.cell (i := 0) rfl
    have t1 := hR7.cell (i := 1) rfl
    have t2 := hR7.cell (i := 2) rfl
    have t3 := hR7.cell (i := 3) rfl
    have t4 := hR7.cell (i := 4) rfl
    have y0 := hR7.free 0
    have y1 := hR7.free 1
    have y2 := hR7.free 2
    have y3 := hR7.free 3
    have y4 := hR7.free 4
    go_wp2_with fail
    refine bodyPost_ret (v := .agg #[.int .u64 g.x0, .int .u64 g.x1, .int .u64 g.x2, .int .u64 g.x3, .int .u64 g.x4]) ?_ rfl ⟨g, Lib.hid ?_, rfl, gb_set5 G6 (by omega) _ _ _ _ _⟩
    · simp [results, Tryd.results27, go_sem, t0, t1, t2, t3, t4]
    · rw [hgg.out, hq.out, Hf.out, hq3.out, hq2.out, hq1.out]; rfl
end Go.Proofs.YtleegbaigedebaaDoor

/- field: guessRoot. -/
namespace Go.Proofs.YtleegbaigedebaaDoor
open Go.RowKit
def guessF (u v : Fe) : Fe := Fe.mulF (Fe.mulF u (Fe.mulF (Fe.sqF v) v)) (stepF 2 (ones10 (Fe.mulF u (Fe.mulF (Fe.sqF (Fe.mulF (Fe.sqF v) v)) v))) (Fe.mulF u (Fe.mulF (Fe.sqF (Fe.mulF (Fe.sqF v) v)) v)))
set_option maxRecDepth 100000 in
set_option maxHeartbeats 1600000 in
theorem guess_any (p q : Fe) (w0 : World) (okp : p.Ok) (okq : q.Ok) :
    Calls Tryd.prog 74 #[.agg #[.int .u64 p.x0, .int .u64 p.x1, .int .u64 p.x2, .int .u64 p.x3, .int .u64 p.x4], .agg #[.int .u64 q.x0, .int .u64 q.x1, .int .u64 q.x2, .int .u64 q.x3, .int .u64 q.x4]] w0 (FeOut (guessF p q) w0) := by
  go_enter Tryd.func74, Tryd.ntmps74
  go_wp2_with fail
  have hA0 : Blk (((w0.alloc (.cells #[.int .u64 p.x0, .int .u64 p.x1, .int .u64 p.x2, .int .u64 p.x3, .int .u64 p.x4] 26)).alloc (.cells #[.int .u64 q.x0, .int .u64 q.x1, .int .u64 q.x2, .int .u64 q.x3, .int .u64 q.x4] 26)).alloc (.cells #[.int .u64 0, .int .u64 0, .int .u64 0, .int .u64 0, .int .u64 0] 26)) w0.heap.size 26 (feL p) := ((Blk.new w0 (feL p) _).alloc _).alloc _
  have hB0 : EnvB w0 (w0.heap.size + 3) [((w0.heap.size + 1), q)] [(w0.heap.size + 1 + 1)] (((w0.alloc (.cells #[.int .u64 p.x0, .int .u64 p.x1, .int .u64 p.x2, .int .u64 p.x3, .int .u64 p.x4] 26)).alloc (.cells #[.int .u64 q.x0, .int .u64 q.x1, .int .u64 q.x2, .int .u64 q.x3, .int .u64 q.x4] 26)).alloc (.cells #[.int .u64 0, .int .u64 0, .int .u64 0, .int .u64 0, .int .u64 0] 26)) :=
    ⟨gb_alloc (gb_alloc (gb_alloc (gb_refl _ _) _) _) _, by
      intro z hz
      simp only [List.mem_cons, List.not_mem_nil, or_false] at hz
      rcases hz with rfl
      · exact (Blk.newAt (w0.alloc _) (feL _) _ (by simp)).alloc _, by
      intro B hB
      simp only [List.mem_cons, List.not_mem_nil, or_false] at hB
      subst hB
      exact ⟨_, _, _, _, _, Blk.newAt _ [.int .u64 0, .int .u64 0, .int .u64 0, .int .u64 0, .int .u64 0] _ (by simp)⟩, by intro z hz; simp only [List.mem_cons, List.not_mem_nil, or_false] at hz; rcases hz with rfl <;> simp only [] <;> omega, by simp, by omega⟩
  have hA1 : ∀ w1, w0.grownBy w1 none → True := fun _ _ => trivial
  clear hA1
  have hB0 : EnvB w0 (w0.heap.size + 3) [(w0.heap.size, p), (w0.heap.size + 1, q), (w0.heap.size + 1 + 1, Fe.zeroF)] [(w0.heap.size + 1 + 1)] (((w0.alloc (.cells #[.int .u64 p.x0, .int .u64 p.x1, .int .u64 p.x2, .int .u64 p.x3, .int .u64 p.x4] 26)).alloc (.cells #[.int .u64 q.x0, .int .u64 q.x1, .int .u64 q.x2, .int .u64 q.x3, .int .u64 q.x4] 26)).alloc (.cells #[.int .u64 0, .int .u64 0, .int .u64 0, .int .u64 0, .int .u64 0] 26)) :=
    ⟨hB0.g, by
      intro z hz
      simp only [List.mem_cons, List.not_mem_nil, or_false] at hz
      rcases hz with rfl | rfl | rfl
      · exact hA0
      · exact hB0.e _ (by simp)
      · exact Blk.newAt _ (feL Fe.zeroF) _ (by simp), hB0.r, by intro z hz; simp only [List.mem_cons, List.not_mem_nil, or_false] at hz; rcases hz with rfl | rfl | rfl <;> simp only [] <;> omega, hB0.l, hB0.m⟩
  clear hA0
  refine wp_region_flow2 (itemsG (Okb w0 [(w0.heap.size, p), ((w0.heap.size + 1), q), ((w0.heap.size + 1 + 1), Fe.zeroF)]) [.any, .any, .any, .any, .any, .ptr, .any, .any, .any, .any, .val q.v, .val (Fe.sqF q).v, .val q.v, .val (Fe.mulF (Fe.sqF q) q).v, .any, .any, .any, .any, .any, .any, .any, .any, .any, .any, .any, .any, .any, .any, .any, .any, .any]) (fun j => if j = 5 then 5 else 0) (Stored (Okb w0 [(w0.heap.size, p), ((w0.heap.size + 1), q), ((w0.heap.size + 1 + 1), Fe.zeroF)]) (Fe.mulF (Fe.sqF q) q)) (EnvB w0 (w0.heap.size + 3) [(w0.heap.size, p), ((w0.heap.size + 1), q), ((w0.heap.size + 1 + 1), Fe.zeroF)] [(w0.heap.size + 1 + 1)]) (Rel5 (Fe.mulF (Fe.sqF q) q)) (by kernel_rfl) (by kernel_rfl) (by kernel_rfl) (hB0.grown (gb_drewn _)) (fun d u w1 w2 hR h => items_stab _ _ _ d u w1 w2 hR h) (fun j u w1 w2 hR h => stored_stab _ _ j u w1 w2 hR h) (by kernel_rfl) ?_ ?_
  · refine ⟨flow2_value rfl rfl fun a w h => ?_, ?_⟩
    · have e3 : a.tmps.getD 3 undef = .pointer (some ⟨(w0.heap.size + 1), 0, none⟩) := h.rest 3 (by kernel_rfl)
      have hb := h.base.e ((w0.heap.size + 1), q) (by simp)
      have c0 : w.cell? ⟨(w0.heap.size + 1), 0, none⟩ = some (.int .u64 q.x0) := hb.cell (i := 0) rfl
      have c1 : w.cell? ⟨(w0.heap.size + 1), 1, none⟩ = some (.int .u64 q.x1) := hb.cell (i := 1) rfl
      have c2 : w.cell? ⟨(w0.heap.size + 1), 2, none⟩ = some (.int .u64 q.x2) := hb.cell (i := 2) rfl
      have c3 : w.cell? ⟨(w0.heap.size + 1), 3, none⟩ = some (.int .u64 q.x3) := hb.cell (i := 3) rfl
      have c4 : w.cell? ⟨(w0.heap.size + 1), 4, none⟩ = some (.int .u64 q.x4) := hb.cell (i := 4) rfl
      refine ⟨.agg #[.int .u64 q.x0, .int .u64 q.x1, .int .u64 q.x2, .int .u64 q.x3, .int .u64 q.x4], w, ?_, h.base, rel5_refl _ _, rfl⟩
      clear h hb
      simp only [execOp, Act.eval, e3]
      go_simp
    refine ⟨flow2_call rfl rfl fun a w h => ?_, ?_⟩
    · have e10 : a.tmps.getD 10 undef = q.v := h.dep 10 (by kernel_rfl)
      have e10x : a.tmps[10]?.getD undef = q.v := by simpa using e10
      have hb := h.base
      refine ⟨28, #[q.v], ?_, ?_⟩
      · clear h hb e10
        go_simp
      · refine (sq_fe q w okq).mono ?_
        intro e w1 hp
        obtain ⟨rfl, hg⟩ := feOut_is hp
        exact ⟨_, rfl, hb.grown hg, Or.inl hg, rfl⟩
    refine ⟨flow2_value rfl rfl fun a w h => ?_, ?_⟩
    · have e3 : a.tmps.getD 3 undef = .pointer (some ⟨(w0.heap.size + 1), 0, none⟩) := h.rest 3 (by kernel_rfl)
      have hb := h.base.e ((w0.heap.size + 1), q) (by simp)
      have c0 : w.cell? ⟨(w0.heap.size + 1), 0, none⟩ = some (.int .u64 q.x0) := hb.cell (i := 0) rfl
      have c1 : w.cell? ⟨(w0.heap.size + 1), 1, none⟩ = some (.int .u64 q.x1) := hb.cell (i := 1) rfl
      have c2 : w.cell? ⟨(w0.heap.size + 1), 2, none⟩ = some (.int .u64 q.x2) := hb.cell (i := 2) rfl
      have c3 : w.cell? ⟨(w0.heap.size + 1), 3, none⟩ = some (.int .u64 q.x3) := hb.cell (i := 3) rfl
      have c4 : w.cell? ⟨(w0.heap.size + 1), 4, none⟩ = some (.int .u64 q.x4) := hb.cell (i := 4) rfl
      refine ⟨.agg #[.int .u64 q.x0, .int .u64 q.x1, .int .u64 q.x2, .int .u64 q.x3, .int .u64 q.x4], w, ?_, h.base, rel5_refl _ _, rfl⟩
      clear h hb
      simp only [execOp, Act.eval, e3]
      go_simp
    refine ⟨flow2_call rfl rfl fun a w h => ?_, ?_⟩
    · have e11 : a.tmps.getD 11 undef = (Fe.sqF q).v := h.dep 11 (by kernel_rfl)
      have e12 : a.tmps.getD 12 undef = q.v := h.dep 12 (by kernel_rfl)
      have e11x : a.tmps[11]?.getD undef = (Fe.sqF q).v := by simpa using e11
      have e12x : a.tmps[12]?.getD undef = q.v := by simpa using e12
      have hb := h.base
      refine ⟨25, #[(Fe.sqF q).v, q.v], ?_, ?_⟩
      · clear h hb e11 e12
        go_simp
      · refine (mul_fe (Fe.sqF q) q w (Fe.sq_right _).ok okq).mono ?_
        intro e w1 hp
        obtain ⟨rfl, hg⟩ := feOut_is hp
        exact ⟨_, rfl, hb.grown hg, Or.inl hg, rfl⟩
    refine ⟨flow2_value rfl rfl fun a w h => ?_, ?_⟩
    · refine ⟨.pointer (some ⟨w.heap.size, 0, none⟩), w.alloc (.cells #[.int .u64 0, .int .u64 0, .int .u64 0, .int .u64 0, .int .u64 0] 26), ?_, h.base.grown (World.grownBy_alloc _ _ _), Or.inl (World.grownBy_alloc _ _ _), ⟨w.heap.size, rfl, ⟨_, _, _, _, _, Blk.new w [.int .u64 0, .int .u64 0, .int .u64 0, .int .u64 0, .int .u64 0] _⟩, h.base.fresh⟩⟩
      clear h
      go_simp
    refine ⟨flow2_skip rfl rfl fun a w h => ?_, ?_⟩
    · obtain ⟨Bn, ep, hroom, hK⟩ : ∃ Bn, a.tmps.getD 5 undef = .pointer (some ⟨Bn, 0, none⟩) ∧ Room5 w Bn 26 ∧ (Okb w0 [(w0.heap.size, p), ((w0.heap.size + 1), q), ((w0.heap.size + 1 + 1), Fe.zeroF)]) Bn := h.dep 5 (by kernel_rfl)
      have e13 : a.tmps.getD 13 undef = .agg #[.int .u64 (Fe.mulF (Fe.sqF q) q).x0, .int .u64 (Fe.mulF (Fe.sqF q) q).x1, .int .u64 (Fe.mulF (Fe.sqF q) q).x2, .int .u64 (Fe.mulF (Fe.sqF q) q).x3, .int .u64 (Fe.mulF (Fe.sqF q) q).x4] := h.dep 13 (by kernel_rfl)
      refine ⟨set5W w Bn (Fe.mulF (Fe.sqF q) q), ?_, h.base.set hK _, Or.inr ⟨Bn, rfl, hroom⟩, ⟨Bn, ep, hK, set5W_same hroom⟩⟩
      obtain ⟨u0, u1, u2, u3, u4, hR⟩ := hroom
      have c0r := hR.cell (i := 0) rfl; have f0r := hR.free 0
      have c1r := hR.cell (i := 1) rfl; have f1r := hR.free 1
      have c2r := hR.cell (i := 2) rfl; have f2r := hR.free 2
      have c3r := hR.cell (i := 3) rfl; have f3r := hR.free 3
      have c4r := hR.cell (i := 4) rfl; have f4r := hR.free 4
      clear h hK hR
      unfold set5W
      simp only [execOp, Act.eval, ep, e13]
      go_simp
    trivial
  · intro a' w1 hB hsz hdf hrest hslots hmems
    obtain ⟨B1, hptr, hK, hb⟩ := hmems 5 _ rfl rfl
    obtain rfl := frame_is (a := a') (vs := [.agg #[.int .u64 p.x0, .int .u64 p.x1, .int .u64 p.x2, .int .u64 p.x3, .int .u64 p.x4], .agg #[.int .u64 q.x0, .int .u64 q.x1, .int .u64 q.x2, .int .u64 q.x3, .int .u64 q.x4], .pointer (some ⟨w0.heap.size, 0, none⟩), .pointer (some ⟨w0.heap.size + 1, 0, none⟩), .pointer (some ⟨w0.heap.size + 1 + 1, 0, none⟩), .pointer (some ⟨B1, 0, none⟩), undef, undef, undef, undef, q.v, (Fe.sqF q).v, q.v, (Fe.mulF (Fe.sqF q) q).v, undef, undef, undef, undef, undef, undef, undef, undef, undef, undef, undef, undef, undef, undef, undef, undef, undef]) hsz ⟨hrest 0 (by kernel_rfl), hrest 1 (by kernel_rfl), hrest 2 (by kernel_rfl), hrest 3 (by kernel_rfl), hrest 4 (by kernel_rfl), hptr, hrest 6 (by kernel_rfl), hrest 7 (by kernel_rfl), hrest 8 (by kernel_rfl), hrest 9 (by kernel_rfl), hslots 10 (by kernel_rfl), hslots 11 (by kernel_rfl), hslots 12 (by kernel_rfl), hslots 13 (by kernel_rfl), hrest 14 (by kernel_rfl), hrest 15 (by kernel_rfl), hrest 16 (by kernel_rfl), hrest 17 (by kernel_rfl), hrest 18 (by kernel_rfl), hrest 19 (by kernel_rfl), hrest 20 (by kernel_rfl), hrest 21 (by kernel_rfl), hrest 22 (by kernel_rfl), hrest 23 (by kernel_rfl), hrest 24 (by kernel_rfl), hrest 25 (by kernel_rfl), hrest 26 (by kernel_rfl), hrest 27 (by kernel_rfl), hrest 28 (by kernel_rfl), hrest 29 (by kernel_rfl), hrest 30 (by kernel_rfl), trivial⟩ hdf
    clear hptr hsz hdf hrest hslots hmems hB0
    obtain ⟨cube, hf⟩ : ∃ f, f = Fe.mulF (Fe.sqF q) q := ⟨_, rfl⟩
    have okcube : cube.Ok := by rw [hf]; exact (Fe.mul_right _ _).ok
    rw [← hf] at hb
    have Hcube := Lib.hid hf; clear hf
    have hltb := hb.lt
    have hK1 := hK.1
    have hKp := hK.2 (w0.heap.size, p) (by simp)
    have hKq := hK.2 (w0.heap.size + 1, q) (by simp)
    have hKr : w0.heap.size + 1 + 1 ≠ B1 := hK.2 (w0.heap.size + 1 + 1, Fe.zeroF) (by simp)
    have hBl := hB.l
    have hB1 : EnvB w0 w1.heap.size [(w0.heap.size, p), (w0.heap.size + 1, q), (B1, cube)] [(w0.heap.size + 1 + 1)] w1 :=
      ⟨hB.g, by
        intro z hz
        simp only [List.mem_cons, List.not_mem_nil, or_false] at hz
        rcases hz with rfl | rfl | rfl
        · exact hB.e _ (by simp)
        · exact hB.e _ (by simp)
        · exact hb, hB.r, by intro z hz; simp only [List.mem_cons, List.not_mem_nil, or_false] at hz; rcases hz with rfl | rfl | rfl <;> simp only [] <;> omega, Nat.le_refl _, hB.g.size⟩
    clear hB hb hK
    go_wp2_with fail
    refine wp_region_flow2 (itemsG (Okb w0 [(w0.heap.size, p), ((w0.heap.size + 1), q), (B1, cube)]) [.any, .any, .any, .any, .any, .any, .ptr, .any, .any, .any, .any, .any, .any, .any, .val cube.v, .val (Fe.sqF cube).v, .val q.v, .val (Fe.mulF (Fe.sqF cube) q).v, .any, .any, .any, .any, .any, .any, .any, .any, .any, .any, .any, .any, .any]) (fun j => if j = 5 then 6 else 0) (Stored (Okb w0 [(w0.heap.size, p), ((w0.heap.size + 1), q), (B1, cube)]) (Fe.mulF (Fe.sqF cube) q)) (EnvB w0 w1.heap.size [(w0.heap.size, p), ((w0.heap.size + 1), q), (B1, cube)] [(w0.heap.size + 1 + 1)]) (Rel5 (Fe.mulF (Fe.sqF cube) q)) (by kernel_rfl) (by kernel_rfl) (by kernel_rfl) (hB1.grown (gb_drewn _)) (fun d u w1 w2 hR h => items_stab _ _ _ d u w1 w2 hR h) (fun j u w1 w2 hR h => stored_stab _ _ j u w1 w2 hR h) (by kernel_rfl) ?_ ?_
    · refine ⟨flow2_value rfl rfl fun a w h => ?_, ?_⟩
      · have e5 : a.tmps.getD 5 undef = .pointer (some ⟨B1, 0, none⟩) := h.rest 5 (by kernel_rfl)
        have hb := h.base.e (B1, cube) (by simp)
        have c0 : w.cell? ⟨B1, 0, none⟩ = some (.int .u64 cube.x0) := hb.cell (i := 0) rfl
        have c1 : w.cell? ⟨B1, 1, none⟩ = some (.int .u64 cube.x1) := hb.cell (i := 1) rfl
        have c2 : w.cell? ⟨B1, 2, none⟩ = some (.int .u64 cube.x2) := hb.cell (i := 2) rfl
        have c3 : w.cell? ⟨B1, 3, none⟩ = some (.int .u64 cube.x3) := hb.cell (i := 3) rfl
        have c4 : w.cell? ⟨B1, 4, none⟩ = some (.int .u64 cube.x4) := hb.cell (i := 4) rfl
        refine ⟨.agg #[.int .u64 cube.x0, .int .u64 cube.x1, .int .u64 cube.x2, .int .u64 cube.x3, .int .u64 cube.x4], w, ?_, h.base, rel5_refl _ _, rfl⟩
        clear h hb
        simp only [execOp, Act.eval, e5]
        go_simp
      refine ⟨flow2_call rfl rfl fun a w h => ?_, ?_⟩
      · have e14 : a.tmps.getD 14 undef = cube.v := h.dep 14 (by kernel_rfl)
        have e14x : a.tmps[14]?.getD undef = cube.v := by simpa using e14
        have hb := h.base
        refine ⟨28, #[cube.v], ?_, ?_⟩
        · clear h hb e14
          go_simp
        · refine (sq_fe cube w okcube).mono ?_
          intro e w1 hp
          obtain ⟨rfl, hg⟩ := feOut_is hp
          exact ⟨_, rfl, hb.grown hg, Or.inl hg, rfl⟩
      refine ⟨flow2_value rfl rfl fun a w h => ?_, ?_⟩
      · have e3 : a.tmps.getD 3 undef = .pointer (some ⟨(w0.heap.size + 1), 0, none⟩) := h.rest 3 (by kernel_rfl)
        have hb := h.base.e ((w0.heap.size + 1), q) (by simp)
        have c0 : w.cell? ⟨(w0.heap.size + 1), 0, none⟩ = some (.int .u64 q.x0) := hb.cell (i := 0) rfl
        have c1 : w.cell? ⟨(w0.heap.size + 1), 1, none⟩ = some (.int .u64 q.x1) := hb.cell (i := 1) rfl
        have c2 : w.cell? ⟨(w0.heap.size + 1), 2, none⟩ = some (.int .u64 q.x2) := hb.cell (i := 2) rfl
        have c3 : w.cell? ⟨(w0.heap.size + 1), 3, none⟩ = some (.int .u64 q.x3) := hb.cell (i := 3) rfl
        have c4 : w.cell? ⟨(w0.heap.size + 1), 4, none⟩ = some (.int .u64 q.x4) := hb.cell (i := 4) rfl
        refine ⟨.agg #[.int .u64 q.x0, .int .u64 q.x1, .int .u64 q.x2, .int .u64 q.x3, .int .u64 q.x4], w, ?_, h.base, rel5_refl _ _, rfl⟩
        clear h hb
        simp only [execOp, Act.eval, e3]
        go_simp
      refine ⟨flow2_call rfl rfl fun a w h => ?_, ?_⟩
      · have e15 : a.tmps.getD 15 undef = (Fe.sqF cube).v := h.dep 15 (by kernel_rfl)
        have e16 : a.tmps.getD 16 undef = q.v := h.dep 16 (by kernel_rfl)
        have e15x : a.tmps[15]?.getD undef = (Fe.sqF cube).v := by simpa using e15
        have e16x : a.tmps[16]?.getD undef = q.v := by simpa using e16
        have hb := h.base
        refine ⟨25, #[(Fe.sqF cube).v, q.v], ?_, ?_⟩
        · clear h hb e15 e16
          go_simp
        · refine (mul_fe (Fe.sqF cube) q w (Fe.sq_right _).ok okq).mono ?_
          intro e w1 hp
          obtain ⟨rfl, hg⟩ := feOut_is hp
          exact ⟨_, rfl, hb.grown hg, Or.inl hg, rfl⟩
      refine ⟨flow2_value rfl rfl fun a w h => ?_, ?_⟩
      · refine ⟨.pointer (some ⟨w.heap.size, 0, none⟩), w.alloc (.cells #[.int .u64 0, .int .u64 0, .int .u64 0, .int .u64 0, .int .u64 0] 26), ?_, h.base.grown (World.grownBy_alloc _ _ _), Or.inl (World.grownBy_alloc _ _ _), ⟨w.heap.size, rfl, ⟨_, _, _, _, _, Blk.new w [.int .u64 0, .int .u64 0, .int .u64 0, .int .u64 0, .int .u64 0] _⟩, h.base.fresh⟩⟩
        clear h
        go_simp
      refine ⟨flow2_skip rfl rfl fun a w h => ?_, ?_⟩
      · obtain ⟨Bn, ep, hroom, hK⟩ : ∃ Bn, a.tmps.getD 6 undef = .pointer (some ⟨Bn, 0, none⟩) ∧ Room5 w Bn 26 ∧ (Okb w0 [(w0.heap.size, p), ((w0.heap.size + 1), q), (B1, cube)]) Bn := h.dep 6 (by kernel_rfl)
        have e17 : a.tmps.getD 17 undef = .agg #[.int .u64 (Fe.mulF (Fe.sqF cube) q).x0, .int .u64 (Fe.mulF (Fe.sqF cube) q).x1, .int .u64 (Fe.mulF (Fe.sqF cube) q).x2, .int .u64 (Fe.mulF (Fe.sqF cube) q).x3, .int .u64 (Fe.mulF (Fe.sqF cube) q).x4] := h.dep 17 (by kernel_rfl)
        refine ⟨set5W w Bn (Fe.mulF (Fe.sqF cube) q), ?_, h.base.set hK _, Or.inr ⟨Bn, rfl, hroom⟩, ⟨Bn, ep, hK, set5W_same hroom⟩⟩
        obtain ⟨u0, u1, u2, u3, u4, hR⟩ := hroom
        have c0r := hR.cell (i := 0) rfl; have f0r := hR.free 0
        have c1r := hR.cell (i := 1) rfl; have f1r := hR.free 1
        have c2r := hR.cell (i := 2) rfl; have f2r := hR.free 2
        have c3r := hR.cell (i := 3) rfl; have f3r := hR.free 3
        have c4r := hR.cell (i := 4) rfl; have f4r := hR.free 4
        clear h hK hR
        unfold set5W
        simp only [execOp, Act.eval, ep, e17]
        go_simp
      trivial
    · intro a' w2 hB hsz hdf hrest hslots hmems
      obtain ⟨B2, hptr, hK, hb⟩ := hmems 5 _ rfl rfl
      obtain rfl := frame_is (a := a') (vs := [.agg #[.int .u64 p.x0, .int .u64 p.x1, .int .u64 p.x2, .int .u64 p.x3, .int .u64 p.x4], .agg #[.int .u64 q.x0, .int .u64 q.x1, .int .u64 q.x2, .int .u64 q.x3, .int .u64 q.x4], .pointer (some ⟨w0.heap.size, 0, none⟩), .pointer (some ⟨w0.heap.size + 1, 0, none⟩), .pointer (some ⟨w0.heap.size + 1 + 1, 0, none⟩), .pointer (some ⟨B1, 0, none⟩), .pointer (some ⟨B2, 0, none⟩), undef, undef, undef, q.v, (Fe.sqF q).v, q.v, (Fe.mulF (Fe.sqF q) q).v, cube.v, (Fe.sqF cube).v, q.v, (Fe.mulF (Fe.sqF cube) q).v, undef, undef, undef, undef, undef, undef, undef, undef, undef, undef, undef, undef, undef]) hsz ⟨hrest 0 (by kernel_rfl), hrest 1 (by kernel_rfl), hrest 2 (by kernel_rfl), hrest 3 (by kernel_rfl), hrest 4 (by kernel_rfl), hrest 5 (by kernel_rfl), hptr, hrest 7 (by kernel_rfl), hrest 8 (by kernel_rfl), hrest 9 (by kernel_rfl), hrest 10 (by kernel_rfl), hrest 11 (by kernel_rfl), hrest 12 (by kernel_rfl), hrest 13 (by kernel_rfl), hslots 14 (by kernel_rfl), hslots 15 (by kernel_rfl), hslots 16 (by kernel_rfl), hslots 17 (by kernel_rfl), hrest 18 (by kernel_rfl), hrest 19 (by kernel_rfl), hrest 20 (by kernel_rfl), hrest 21 (by kernel_rfl), hrest 22 (by kernel_rfl), hrest 23 (by kernel_rfl), hrest 24 (by kernel_rfl), hrest 25 (by kernel_rfl), hrest 26 (by kernel_rfl), hrest 27 (by kernel_rfl), hrest 28 (by kernel_rfl), hrest 29 (by kernel_rfl), hrest 30 (by kernel_rfl), trivial⟩ hdf
      clear hptr hsz hdf hrest hslots hmems hB1
      obtain ⟨sev, hf⟩ : ∃ f, f = Fe.mulF (Fe.sqF cube) q := ⟨_, rfl⟩
      have oksev : sev.Ok := by rw [hf]; exact (Fe.mul_right _ _).ok
      rw [← hf] at hb
      have Hsev := Lib.hid hf; clear hf
      have hAp := hB.e (w0.heap.size, p) (by simp)
      have c0 := hAp.cell (i := 0) rfl
      have c1 := hAp.cell (i := 1) rfl
      have c2 := hAp.cell (i := 2) rfl
      have c3 := hAp.cell (i := 3) rfl
      have c4 := hAp.cell (i := 4) rfl
      have d0 := hb.cell (i := 0) rfl
      have d1 := hb.cell (i := 1) rfl
      have d2 := hb.cell (i := 2) rfl
      have d3 := hb.cell (i := 3) rfl
      have d4 := hb.cell (i := 4) rfl
      go_wp2_with fail
      refine (mul_fe p sev _ okp oksev).mono ?_
      rintro e v3 ⟨base, hbase, rfl, hg3⟩
      have okbase : base.Ok := by rw [hbase.out]; exact (Fe.mul_right _ _).ok
      have hE3 := (hB.grown hg3).grown (World.grownBy_alloc v3 (.cells #[.int .u64 base.x0, .int .u64 base.x1, .int .u64 base.x2, .int .u64 base.x3, .int .u64 base.x4] 26) none)
      have hb7 : Blk (v3.alloc (.cells #[.int .u64 base.x0, .int .u64 base.x1, .int .u64 base.x2, .int .u64 base.x3, .int .u64 base.x4] 26)) v3.heap.size 26 (feL base) := Blk.new v3 (feL base) _
      clear hAp hB hb hK hg3 c0 c1 c2 c3 c4 d0 d1 d2 d3 d4
      go_wp2_with fail
      refine (manyOnes_any base _ okbase).mono ?_
      rintro e v4 ⟨C, on, hon, rfl, hg4, hC, hP⟩
      have okon : on.Ok := by rw [hon.out]; exact stepF_ok _ _ _
      have hb8 := hb7.grown hg4 (by simp)
      have c0 := hb8.cell (i := 0) rfl
      have c1 := hb8.cell (i := 1) rfl
      have c2 := hb8.cell (i := 2) rfl
      have c3 := hb8.cell (i := 3) rfl
      have c4 := hb8.cell (i := 4) rfl
      go_wp2_with fail
      refine (step_any C 2 on base _ (by decide) okon okbase hP).mono ?_
      rintro e v5 ⟨pw, hpw, rfl, hg5, hP5⟩
      have okpw : pw.Ok := by rw [hpw.out]; exact stepF_ok _ _ _
      have hE5 := (hE3.grown (gb_then hg4 hg5 hC)).grown (World.grownBy_alloc v5 (.cells #[.int .u64 pw.x0, .int .u64 pw.x1, .int .u64 pw.x2, .int .u64 pw.x3, .int .u64 pw.x4] 26) none)
      have hsz5 := (hE3.grown (gb_then hg4 hg5 hC)).l
      have hb9 : Blk (v5.alloc (.cells #[.int .u64 pw.x0, .int .u64 pw.x1, .int .u64 pw.x2, .int .u64 pw.x3, .int .u64 pw.x4] 26)) v5.heap.size 26 (feL pw) := Blk.new v5 (feL pw) _
      have hlt1 := (hE5.e (B1, cube) (by simp)).lt
      have hB6 : EnvB w0 (v5.heap.size + 1) [(w0.heap.size, p), (B1, cube), (v5.heap.size, pw)] [(w0.heap.size + 1 + 1)] (v5.alloc (.cells #[.int .u64 pw.x0, .int .u64 pw.x1, .int .u64 pw.x2, .int .u64 pw.x3, .int .u64 pw.x4] 26)) :=
        ⟨hE5.g, by
          intro z hz
          simp only [List.mem_cons, List.not_mem_nil, or_false] at hz
          rcases hz with rfl | rfl | rfl
          · exact hE5.e _ (by simp)
          · exact hE5.e _ (by simp)
          · exact hb9, hE5.r, by
          intro z hz
          have h1 := hE5.n (w0.heap.size, p) (by simp)
          have h2 := hE5.n (B1, cube) (by simp)
          simp only [List.mem_cons, List.not_mem_nil, or_false] at hz
          rcases hz with rfl | rfl | rfl <;> simp only [] at * <;> omega, by simp, by have := hE5.g.size; simp at this; have := hE5.m; omega⟩
      clear hE3 hE5 hb7 hb8 hb9 hg4 hg5 hP hP5 c0 c1 c2 c3 c4
      go_wp2_with fail
      refine wp_region_flow2 (itemsG (Okb w0 [(w0.heap.size, p), (B1, cube), (v5.heap.size, pw)]) [.any, .any, .any, .any, .any, .any, .any, .any, .any, .any, .any, .any, .any, .any, .any, .any, .any, .any, .any, .any, .any, .any, .any, .any, .any, .any, .val p.v, .val cube.v, .val (Fe.mulF p cube).v, .val pw.v, .val (Fe.mulF (Fe.mulF p cube) pw).v]) (fun j => if j = 5 then 4 else 0) (Stored (Okb w0 [(w0.heap.size, p), (B1, cube), (v5.heap.size, pw)]) (Fe.mulF (Fe.mulF p cube) pw)) (EnvB w0 (v5.heap.size + 1) [(w0.heap.size, p), (B1, cube), (v5.heap.size, pw)] [(w0.heap.size + 1 + 1)]) (Rel5 (Fe.mulF (Fe.mulF p cube) pw)) (by kernel_rfl) (by kernel_rfl) (by kernel_rfl) (hB6.grown (gb_drewn _)) (fun d u w1 w2 hR h => items_stab _ _ _ d u w1 w2 hR h) (fun j u w1 w2 hR h => stored_stab _ _ j u w1 w2 hR h) (by kernel_rfl) ?_ ?_
      · refine ⟨flow2_value rfl rfl fun a w h => ?_, ?_⟩
        · have e2 : a.tmps.getD 2 undef = .pointer (some ⟨w0.heap.size, 0, none⟩) := h.rest 2 (by kernel_rfl)
          have hb := h.base.e (w0.heap.size, p) (by simp)
          have c0 : w.cell? ⟨w0.heap.size, 0, none⟩ = some (.int .u64 p.x0) := hb.cell (i := 0) rfl
          have c1 : w.cell? ⟨w0.heap.size, 1, none⟩ = some (.int .u64 p.x1) := hb.cell (i := 1) rfl
          have c2 : w.cell? ⟨w0.heap.size, 2, none⟩ = some (.int .u64 p.x2) := hb.cell (i := 2) rfl
          have c3 : w.cell? ⟨w0.heap.size, 3, none⟩ = some (.int .u64 p.x3) := hb.cell (i := 3) rfl
          have c4 : w.cell? ⟨w0.heap.size, 4, none⟩ = some (.int .u64 p.x4) := hb.cell (i := 4) rfl
          refine ⟨.agg #[.int .u64 p.x0, .int .u64 p.x1, .int .u64 p.x2, .int .u64 p.x3, .int .u64 p.x4], w, ?_, h.base, rel5_refl _ _, rfl⟩
          clear h hb
          simp only [execOp, Act.eval, e2]
          go_simp
        refine ⟨flow2_value rfl rfl fun a w h => ?_, ?_⟩
        · have e5 : a.tmps.getD 5 undef = .pointer (some ⟨B1, 0, none⟩) := h.rest 5 (by kernel_rfl)
          have hb := h.base.e (B1, cube) (by simp)
          have c0 : w.cell? ⟨B1, 0, none⟩ = some (.int .u64 cube.x0) := hb.cell (i := 0) rfl
          have c1 : w.cell? ⟨B1, 1, none⟩ = some (.int .u64 cube.x1) := hb.cell (i := 1) rfl
          have c2 : w.cell? ⟨B1, 2, none⟩ = some (.int .u64 cube.x2) := hb.cell (i := 2) rfl
          have c3 : w.cell? ⟨B1, 3, none⟩ = some (.int .u64 cube.x3) := hb.cell (i := 3) rfl
          have c4 : w.cell? ⟨B1, 4, none⟩ = some (.int .u64 cube.x4) := hb.cell (i := 4) rfl
          refine ⟨.agg #[.int .u64 cube.x0, .int .u64 cube.x1, .int .u64 cube.x2, .int .u64 cube.x3, .int .u64 cube.x4], w, ?_, h.base, rel5_refl _ _, rfl⟩
          clear h hb
          simp only [execOp, Act.eval, e5]
          go_simp
        refine ⟨flow2_call rfl rfl fun a w h => ?_, ?_⟩
        · have e26 : a.tmps.getD 26 undef = p.v := h.dep 26 (by kernel_rfl)
          have e27 : a.tmps.getD 27 undef = cube.v := h.dep 27 (by kernel_rfl)
          have e26x : a.tmps[26]?.getD undef = p.v := by simpa using e26
          have e27x : a.tmps[27]?.getD undef = cube.v := by simpa using e27
          have hb := h.base
          refine ⟨25, #[p.v, cube.v], ?_, ?_⟩
          · clear h hb e26 e27
            go_simp
          · refine (mul_fe p cube w okp okcube).mono ?_
            intro e w1 hp
            obtain ⟨rfl, hg⟩ := feOut_is hp
            exact ⟨_, rfl, hb.grown hg, Or.inl hg, rfl⟩
        refine ⟨flow2_value rfl rfl fun a w h => ?_, ?_⟩
        · have e9 : a.tmps.getD 9 undef = .pointer (some ⟨v5.heap.size, 0, none⟩) := h.rest 9 (by kernel_rfl)
          have hb := h.base.e (v5.heap.size, pw) (by simp)
          have c0 : w.cell? ⟨v5.heap.size, 0, none⟩ = some (.int .u64 pw.x0) := hb.cell (i := 0) rfl
          have c1 : w.cell? ⟨v5.heap.size, 1, none⟩ = some (.int .u64 pw.x1) := hb.cell (i := 1) rfl
          have c2 : w.cell? ⟨v5.heap.size, 2, none⟩ = some (.int .u64 pw.x2) := hb.cell (i := 2) rfl
          have c3 : w.cell? ⟨v5.heap.size, 3, none⟩ = some (.int .u64 pw.x3) := hb.cell (i := 3) rfl
          have c4 : w.cell? ⟨v5.heap.size, 4, none⟩ = some (.int .u64 pw.x4) := hb.cell (i := 4) rfl
          refine ⟨.agg #[.int .u64 pw.x0, .int .u64 pw.x1, .int .u64 pw.x2, .int .u64 pw.x3, .int .u64 pw.x4], w, ?_, h.base, rel5_refl _ _, rfl⟩
          clear h hb
          simp only [execOp, Act.eval, e9]
          go_simp
        refine ⟨flow2_call rfl rfl fun a w h => ?_, ?_⟩
        · have e28 : a.tmps.getD 28 undef = (Fe.mulF p cube).v := h.dep 28 (by kernel_rfl)
          have e29 : a.tmps.getD 29 undef = pw.v := h.dep 29 (by kernel_rfl)
          have e28x : a.tmps[28]?.getD undef = (Fe.mulF p cube).v := by simpa using e28
          have e29x : a.tmps[29]?.getD undef = pw.v := by simpa using e29
          have hb := h.base
          refine ⟨25, #[(Fe.mulF p cube).v, pw.v], ?_, ?_⟩
          · clear h hb e28 e29
            go_simp
          · refine (mul_fe (Fe.mulF p cube) pw w (Fe.mul_right _ _).ok okpw).mono ?_
            intro e w1 hp
            obtain ⟨rfl, hg⟩ := feOut_is hp
            exact ⟨_, rfl, hb.grown hg, Or.inl hg, rfl⟩
        refine ⟨flow2_skip rfl rfl fun a w h => ?_, ?_⟩
        · obtain ⟨Bn, hBn⟩ : ∃ Bn, Bn = (w0.heap.size + 1 + 1) := ⟨_, rfl⟩
          have ep : a.tmps.getD 4 undef = .pointer (some ⟨Bn, 0, none⟩) := by rw [hBn]; exact h.rest 4 (by kernel_rfl)
          have hroom : Room5 w Bn 26 := by rw [hBn]; exact h.base.r _ (by simp)
          have hK : (Okb w0 [(w0.heap.size, p), (B1, cube), (v5.heap.size, pw)]) Bn := by rw [hBn]; exact ⟨by omega, by intro z hz; simp only [List.mem_cons, List.not_mem_nil, or_false] at hz; rcases hz with rfl | rfl | rfl <;> simp only [] <;> omega⟩
          clear hBn
          have e30 : a.tmps.getD 30 undef = .agg #[.int .u64 (Fe.mulF (Fe.mulF p cube) pw).x0, .int .u64 (Fe.mulF (Fe.mulF p cube) pw).x1, .int .u64 (Fe.mulF (Fe.mulF p cube) pw).x2, .int .u64 (Fe.mulF (Fe.mulF p cube) pw).x3, .int .u64 (Fe.mulF (Fe.mulF p cube) pw).x4] := h.dep 30 (by kernel_rfl)
          refine ⟨set5W w Bn (Fe.mulF (Fe.mulF p cube) pw), ?_, h.base.set hK _, Or.inr ⟨Bn, rfl, hroom⟩, ⟨Bn, ep, hK, set5W_same hroom⟩⟩
          obtain ⟨u0, u1, u2, u3, u4, hR⟩ := hroom
          have c0r := hR.cell (i := 0) rfl; have f0r := hR.free 0
          have c1r := hR.cell (i := 1) rfl; have f1r := hR.free 1
          have c2r := hR.cell (i := 2) rfl; have f2r := hR.free 2
          have c3r := hR.cell (i := 3) rfl; have f3r := hR.free 3
          have c4r := hR.cell (i := 4) rfl; have f4r := hR.free 4
          clear h hK hR
          unfold set5W
          simp only [execOp, Act.eval, ep, e30]
          go_simp
        trivial
      · intro a' w6 hB hsz hdf hrest hslots hmems
        obtain ⟨B6, hptr, hK, hb⟩ := hmems 5 _ rfl rfl
        have hR4 : a'.tmps.getD 4 undef = .pointer (some ⟨w0.heap.size + 1 + 1, 0, none⟩) := hrest 4 (by kernel_rfl)
        have hptr2 : a'.tmps.getD 4 undef = .pointer (some ⟨B6, 0, none⟩) := hptr
        rw [hR4] at hptr2
        obtain rfl : w0.heap.size + 1 + 1 = B6 := by simpa using hptr2
        obtain rfl := frame_is (a := a') (vs := [.agg #[.int .u64 p.x0, .int .u64 p.x1, .int .u64 p.x2, .int .u64 p.x3, .int .u64 p.x4], .agg #[.int .u64 q.x0, .int .u64 q.x1, .int .u64 q.x2, .int .u64 q.x3, .int .u64 q.x4], .pointer (some ⟨w0.heap.size, 0, none⟩), .pointer (some ⟨w0.heap.size + 1, 0, none⟩), .pointer (some ⟨w0.heap.size + 1 + 1, 0, none⟩), .pointer (some ⟨B1, 0, none⟩), .pointer (some ⟨B2, 0, none⟩), .pointer (some ⟨v3.heap.size, 0, none⟩), .func (.func 84) #[] #[.pointer (some ⟨C, 0, none⟩)], .pointer (some ⟨v5.heap.size, 0, none⟩), q.v, (Fe.sqF q).v, q.v, (Fe.mulF (Fe.sqF q) q).v, cube.v, (Fe.sqF cube).v, q.v, (Fe.mulF (Fe.sqF cube) q).v, .agg #[.int .u64 p.x0, .int .u64 p.x1, .int .u64 p.x2, .int .u64 p.x3, .int .u64 p.x4], .agg #[.int .u64 sev.x0, .int .u64 sev.x1, .int .u64 sev.x2, .int .u64 sev.x3, .int .u64 sev.x4], .agg #[.int .u64 base.x0, .int .u64 base.x1, .int .u64 base.x2, .int .u64 base.x3, .int .u64 base.x4], .agg #[.int .u64 base.x0, .int .u64 base.x1, .int .u64 base.x2, .int .u64 base.x3, .int .u64 base.x4], .func (.func 84) #[] #[.pointer (some ⟨C, 0, none⟩)], .func (.func 84) #[] #[.pointer (some ⟨C, 0, none⟩)], .agg #[.int .u64 base.x0, .int .u64 base.x1, .int .u64 base.x2, .int .u64 base.x3, .int .u64 base.x4], .agg #[.int .u64 pw.x0, .int .u64 pw.x1, .int .u64 pw.x2, .int .u64 pw.x3, .int .u64 pw.x4], p.v, cube.v, (Fe.mulF p cube).v, pw.v, (Fe.mulF (Fe.mulF p cube) pw).v]) hsz ⟨hrest 0 (by kernel_rfl), hrest 1 (by kernel_rfl), hrest 2 (by kernel_rfl), hrest 3 (by kernel_rfl), hrest 4 (by kernel_rfl), hrest 5 (by kernel_rfl), hrest 6 (by kernel_rfl), hrest 7 (by kernel_rfl), hrest 8 (by kernel_rfl), hrest 9 (by kernel_rfl), hrest 10 (by kernel_rfl), hrest 11 (by kernel_rfl), hrest 12 (by kernel_rfl), hrest 13 (by kernel_rfl), hrest 14 (by kernel_rfl), hrest 15 (by kernel_rfl), hrest 16 (by kernel_rfl), hrest 17 (by kernel_rfl), hrest 18 (by kernel_rfl), hrest 19 (by kernel_rfl), hrest 20 (by kernel_rfl), hrest 21 (by kernel_rfl), hrest 22 (by kernel_rfl), hrest 23 (by kernel_rfl), hrest 24 (by kernel_rfl), hrest 25 (by kernel_rfl), hslots 26 (by kernel_rfl), hslots 27 (by kernel_rfl), hslots 28 (by kernel_rfl), hslots 29 (by kernel_rfl), hslots 30 (by kernel_rfl), trivial⟩ hdf
        have G6 := hB.g
        clear hptr hptr2 hsz hdf hrest hslots hmems hB6 hR4 hB
        obtain ⟨g, hf⟩ : ∃ f, f = Fe.mulF (Fe.mulF p cube) pw := ⟨_, rfl⟩
        rw [← hf] at hb
        have Hg := Lib.hid hf; clear hf
        have c0 := hb.cell (i := 0) rfl
        have c1 := hb.cell (i := 1) rfl
        have c2 := hb.cell (i := 2) rfl
        have c3 := hb.cell (i := 3) rfl
        have c4 := hb.cell (i := 4) rfl
        go_wp2_with fail
        refine bodyPost_ret (v := .agg #[.int .u64 g.x0, .int .u64 g.x1, .int .u64 g.x2, .int .u64 g.x3, .int .u64 g.x4]) ?_ rfl ⟨g, Lib.hid ?_, rfl, G6⟩
        · simp [results, Tryd.results74, go_sem, c0, c1, c2, c3, c4]
        · rw [Hg.out, hpw.out, hon.out, hbase.out, Hsev.out, Hcube.out]; rfl
end Go.Proofs.YtleegbaigedebaaDoor
