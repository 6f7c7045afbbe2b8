/- field: Square. (Laid by gen_mul.py over the operations of the function.) -/
import Derived.Test.YtjgfhihngbhljaaDoorFeMul
import Derived.Test.YtjgfhihngbhljaaDoorFlow
namespace Go.Proofs.YtjgfhihngbhljaaDoor
open Go.RowKit
/-- what each slot of the great region of Square has -/
def sqG (A R : Nat) (x0 x1 x2 x3 x4 z0 z1 z2 z3 z4 z5 S0 S1 S2 S3 S4 : Int) (r : Fe) : List (Value → World → Prop) := [
  fun _ _ => True,
  fun _ _ => True,
  fun _ _ => True,
  fun _ _ => True,
  fun _ _ => True,
  fun _ _ => True,
  fun _ _ => True,
  fun _ _ => True,
  fun _ _ => True,
  fun _ _ => True,
  fun _ _ => True,
  fun _ _ => True,
  fun _ _ => True,
  fun _ _ => True,
  fun _ _ => True,
  fun _ _ => True,
  fun _ _ => True,
  fun _ _ => True,
  fun _ _ => True,
  fun v _ => v = .pointer (some ⟨A, 0, none⟩),
  fun v _ => v = .int .u64 x0,
  fun v _ => v = .pointer (some ⟨A, 0, none⟩),
  fun v _ => v = .int .u64 x0,
  fun v _ => v = .agg #[.int .u64 x0, .int .u64 x0],
  fun v _ => v = .int .u64 z1,
  fun v _ => v = .int .u64 z3,
  fun v _ => v = .agg #[.int .u64 z1, .int .u64 z3],
  fun v _ => v = .pointer (some ⟨A, 2, none⟩),
  fun v _ => v = .int .u64 x2,
  fun v _ => v = .int .u64 z4,
  fun v _ => v = .int .u64 z2,
  fun v _ => v = .agg #[.int .u64 z4, .int .u64 z2],
  fun v w => ∃ PB, PB ≠ R ∧ v = .slice (some ⟨PB, 0, none⟩) 3 3 ∧ Blk w PB 56 (flat [(x0, x0), (z1, z3), (z4, z2)]),
  fun v _ => v = .agg #[.int .u64 (S0 / 18446744073709551616), .int .u64 (S0 % 18446744073709551616)],
  fun v _ => v = .int .u64 z0,
  fun v _ => v = .pointer (some ⟨A, 1, none⟩),
  fun v _ => v = .int .u64 x1,
  fun v _ => v = .agg #[.int .u64 z0, .int .u64 x1],
  fun v _ => v = .pointer (some ⟨A, 2, none⟩),
  fun v _ => v = .int .u64 x2,
  fun v _ => v = .int .u64 z4,
  fun v _ => v = .int .u64 z3,
  fun v _ => v = .agg #[.int .u64 z4, .int .u64 z3],
  fun v _ => v = .pointer (some ⟨A, 3, none⟩),
  fun v _ => v = .int .u64 x3,
  fun v _ => v = .int .u64 z2,
  fun v _ => v = .agg #[.int .u64 x3, .int .u64 z2],
  fun v w => ∃ PB, PB ≠ R ∧ v = .slice (some ⟨PB, 0, none⟩) 3 3 ∧ Blk w PB 56 (flat [(z0, x1), (z4, z3), (x3, z2)]),
  fun v _ => v = .agg #[.int .u64 (S1 / 18446744073709551616), .int .u64 (S1 % 18446744073709551616)],
  fun v _ => v = .int .u64 z0,
  fun v _ => v = .pointer (some ⟨A, 2, none⟩),
  fun v _ => v = .int .u64 x2,
  fun v _ => v = .agg #[.int .u64 z0, .int .u64 x2],
  fun v _ => v = .pointer (some ⟨A, 1, none⟩),
  fun v _ => v = .int .u64 x1,
  fun v _ => v = .pointer (some ⟨A, 1, none⟩),
  fun v _ => v = .int .u64 x1,
  fun v _ => v = .agg #[.int .u64 x1, .int .u64 x1],
  fun v _ => v = .pointer (some ⟨A, 3, none⟩),
  fun v _ => v = .int .u64 x3,
  fun v _ => v = .int .u64 z5,
  fun v _ => v = .int .u64 z3,
  fun v _ => v = .agg #[.int .u64 z5, .int .u64 z3],
  fun v w => ∃ PB, PB ≠ R ∧ v = .slice (some ⟨PB, 0, none⟩) 3 3 ∧ Blk w PB 56 (flat [(z0, x2), (x1, x1), (z5, z3)]),
  fun v _ => v = .agg #[.int .u64 (S2 / 18446744073709551616), .int .u64 (S2 % 18446744073709551616)],
  fun v _ => v = .int .u64 z0,
  fun v _ => v = .pointer (some ⟨A, 3, none⟩),
  fun v _ => v = .int .u64 x3,
  fun v _ => v = .agg #[.int .u64 z0, .int .u64 x3],
  fun v _ => v = .int .u64 z1,
  fun v _ => v = .pointer (some ⟨A, 2, none⟩),
  fun v _ => v = .int .u64 x2,
  fun v _ => v = .agg #[.int .u64 z1, .int .u64 x2],
  fun v _ => v = .pointer (some ⟨A, 4, none⟩),
  fun v _ => v = .int .u64 x4,
  fun v _ => v = .int .u64 z3,
  fun v _ => v = .agg #[.int .u64 x4, .int .u64 z3],
  fun v w => ∃ PB, PB ≠ R ∧ v = .slice (some ⟨PB, 0, none⟩) 3 3 ∧ Blk w PB 56 (flat [(z0, x3), (z1, x2), (x4, z3)]),
  fun v _ => v = .agg #[.int .u64 (S3 / 18446744073709551616), .int .u64 (S3 % 18446744073709551616)],
  fun v _ => v = .int .u64 z0,
  fun v _ => v = .pointer (some ⟨A, 4, none⟩),
  fun v _ => v = .int .u64 x4,
  fun v _ => v = .agg #[.int .u64 z0, .int .u64 x4],
  fun v _ => v = .int .u64 z1,
  fun v _ => v = .pointer (some ⟨A, 3, none⟩),
  fun v _ => v = .int .u64 x3,
  fun v _ => v = .agg #[.int .u64 z1, .int .u64 x3],
  fun v _ => v = .pointer (some ⟨A, 2, none⟩),
  fun v _ => v = .int .u64 x2,
  fun v _ => v = .pointer (some ⟨A, 2, none⟩),
  fun v _ => v = .int .u64 x2,
  fun v _ => v = .agg #[.int .u64 x2, .int .u64 x2],
  fun v w => ∃ PB, PB ≠ R ∧ v = .slice (some ⟨PB, 0, none⟩) 3 3 ∧ Blk w PB 56 (flat [(z0, x4), (z1, x3), (x2, x2)]),
  fun v _ => v = .agg #[.int .u64 (S4 / 18446744073709551616), .int .u64 (S4 % 18446744073709551616)],
  fun v _ => v = .agg #[.int .u64 (S0 / 18446744073709551616), .int .u64 (S0 % 18446744073709551616), .int .u64 (S1 / 18446744073709551616), .int .u64 (S1 % 18446744073709551616), .int .u64 (S2 / 18446744073709551616), .int .u64 (S2 % 18446744073709551616), .int .u64 (S3 / 18446744073709551616), .int .u64 (S3 % 18446744073709551616), .int .u64 (S4 / 18446744073709551616), .int .u64 (S4 % 18446744073709551616)],
  fun v _ => v = r.v]
def sqAt (A R : Nat) (x0 x1 x2 x3 x4 z0 z1 z2 z3 z4 z5 S0 S1 S2 S3 S4 : Int) (r : Fe) (d : Nat) (v : Value) (w : World) : Prop := ((sqG A R x0 x1 x2 x3 x4 z0 z1 z2 z3 z4 z5 S0 S1 S2 S3 S4 r).getD d (fun _ _ => True)) v w
structure sqB (w0 : World) (A R : Nat) (x0 x1 x2 x3 x4 : Int) (w : World) : Prop where
  a : Blk w A 24 [.int .u64 x0, .int .u64 x1, .int .u64 x2, .int .u64 x3, .int .u64 x4]
  r : Room5 w R 24
  g : w0.grownBy w none
  ra : A ≠ R
  rn : w0.heap.size ≤ R
theorem sqB.grown {w0 : World} {A R : Nat} {x0 x1 x2 x3 x4 : Int} {w w' : World} (h : sqB w0 A R x0 x1 x2 x3 x4 w) (hg : w.grownBy w' none) : sqB w0 A R x0 x1 x2 x3 x4 w' :=
  ⟨h.a.grown hg (by simp), h.r.grown hg (by simp), gb_trans h.g hg, h.ra, h.rn⟩
theorem sqB.alloc {w0 : World} {A R : Nat} {x0 x1 x2 x3 x4 : Int} {w : World} (h : sqB w0 A R x0 x1 x2 x3 x4 w) (o : Obj) : sqB w0 A R x0 x1 x2 x3 x4 (w.alloc o) := h.grown (World.grownBy_alloc _ _ _)
theorem sqB.set5 {w0 : World} {A R : Nat} {x0 x1 x2 x3 x4 : Int} {w : World} (h : sqB w0 A R x0 x1 x2 x3 x4 w) (v0 v1 v2 v3 v4 : Value) :
    sqB w0 A R x0 x1 x2 x3 x4 (((((w.setCell ⟨R, 0, none⟩ v0).setCell ⟨R, 1, none⟩ v1).setCell ⟨R, 2, none⟩ v2).setCell ⟨R, 3, none⟩ v3).setCell ⟨R, 4, none⟩ v4) :=
  ⟨((((h.a.other (Ne.symm h.ra) _).other (Ne.symm h.ra) _).other (Ne.symm h.ra) _).other (Ne.symm h.ra) _).other (Ne.symm h.ra) _,
   ⟨_, _, _, _, _, h.r.set5 v0 v1 v2 v3 v4⟩, gb_set_new (gb_set_new (gb_set_new (gb_set_new (gb_set_new h.g h.rn _) h.rn _) h.rn _) h.rn _) h.rn _, h.ra, h.rn⟩

theorem sq_stable (A R : Nat) (x0 x1 x2 x3 x4 z0 z1 z2 z3 z4 z5 S0 S1 S2 S3 S4 : Int) (r : Fe) (d : Nat) (u : Value) (w w' : World) (hR : w.grownBy w' (some R)) (h : sqAt A R x0 x1 x2 x3 x4 z0 z1 z2 z3 z4 z5 S0 S1 S2 S3 S4 r d u w) : sqAt A R x0 x1 x2 x3 x4 z0 z1 z2 z3 z4 z5 S0 S1 S2 S3 S4 r d u w' :=
  stable_get (R := R) _ (show Stable R (sqG A R x0 x1 x2 x3 x4 z0 z1 z2 z3 z4 z5 S0 S1 S2 S3 S4 r) from ⟨fun _ _ _ _ h => h, fun _ _ _ _ h => h, fun _ _ _ _ h => h, fun _ _ _ _ h => h, fun _ _ _ _ h => h, fun _ _ _ _ h => h, fun _ _ _ _ h => h, fun _ _ _ _ h => h, fun _ _ _ _ h => h, fun _ _ _ _ h => h, fun _ _ _ _ h => h, fun _ _ _ _ h => h, fun _ _ _ _ h => h, fun _ _ _ _ h => h, fun _ _ _ _ h => h, fun _ _ _ _ h => h, fun _ _ _ _ h => h, fun _ _ _ _ h => h, fun _ _ _ _ h => h, fun _ _ _ _ h => h, fun _ _ _ _ h => h, fun _ _ _ _ h => h, fun _ _ _ _ h => h, fun _ _ _ _ h => h, fun _ _ _ _ h => h, fun _ _ _ _ h => h, fun _ _ _ _ h => h, fun _ _ _ _ h => h, fun _ _ _ _ h => h, fun _ _ _ _ h => h, fun _ _ _ _ h => h, fun _ _ _ _ h => h, fun _ _ _ hR ⟨PB, hne, hv, hb⟩ => ⟨PB, hne, hv, hb.grown hR (some_ne hne)⟩, fun _ _ _ _ h => h, fun _ _ _ _ h => h, fun _ _ _ _ h => h, fun _ _ _ _ h => h, fun _ _ _ _ h => h, fun _ _ _ _ h => h, fun _ _ _ _ h => h, fun _ _ _ _ h => h, fun _ _ _ _ h => h, fun _ _ _ _ h => h, fun _ _ _ _ h => h, fun _ _ _ _ h => h, fun _ _ _ _ h => h, fun _ _ _ _ h => h, fun _ _ _ hR ⟨PB, hne, hv, hb⟩ => ⟨PB, hne, hv, hb.grown hR (some_ne hne)⟩, fun _ _ _ _ h => h, fun _ _ _ _ h => h, fun _ _ _ _ h => h, fun _ _ _ _ h => h, fun _ _ _ _ h => h, fun _ _ _ _ h => h, fun _ _ _ _ h => h, fun _ _ _ _ h => h, fun _ _ _ _ h => h, fun _ _ _ _ h => h, fun _ _ _ _ h => h, fun _ _ _ _ h => h, fun _ _ _ _ h => h, fun _ _ _ _ h => h, fun _ _ _ _ h => h, fun _ _ _ hR ⟨PB, hne, hv, hb⟩ => ⟨PB, hne, hv, hb.grown hR (some_ne hne)⟩, fun _ _ _ _ h => h, fun _ _ _ _ h => h, fun _ _ _ _ h => h, fun _ _ _ _ h => h, fun _ _ _ _ h => h, fun _ _ _ _ h => h, fun _ _ _ _ h => h, fun _ _ _ _ h => h, fun _ _ _ _ h => h, fun _ _ _ _ h => h, fun _ _ _ _ h => h, fun _ _ _ _ h => h, fun _ _ _ _ h => h, fun _ _ _ hR ⟨PB, hne, hv, hb⟩ => ⟨PB, hne, hv, hb.grown hR (some_ne hne)⟩, fun _ _ _ _ h => h, fun _ _ _ _ h => h, fun _ _ _ _ h => h, fun _ _ _ _ h => h, fun _ _ _ _ h => h, fun _ _ _ _ h => h, fun _ _ _ _ h => h, fun _ _ _ _ h => h, fun _ _ _ _ h => h, fun _ _ _ _ h => h, fun _ _ _ _ h => h, fun _ _ _ _ h => h, fun _ _ _ _ h => h, fun _ _ _ _ h => h, fun _ _ _ hR ⟨PB, hne, hv, hb⟩ => ⟨PB, hne, hv, hb.grown hR (some_ne hne)⟩, fun _ _ _ _ h => h, fun _ _ _ _ h => h, fun _ _ _ _ h => h, trivial⟩) d u w w' hR h


set_option maxRecDepth 100000 in
set_option maxHeartbeats 4000000 in
theorem sq_any (x0 x1 x2 x3 x4 : Int) (w : World) (a0 : 0 ≤ x0) (c0 : x0 < 18446744073709551616) (a1 : 0 ≤ x1) (c1 : x1 < 18446744073709551616) (a2 : 0 ≤ x2) (c2 : x2 < 18446744073709551616) (a3 : 0 ≤ x3) (c3 : x3 < 18446744073709551616) (a4 : 0 ≤ x4) (c4 : x4 < 18446744073709551616) :
    Calls Tryd.prog 12 #[.agg #[.int .u64 x0, .int .u64 x1, .int .u64 x2, .int .u64 x3, .int .u64 x4]] w (FeOut (Fe.sqF ⟨x0, x1, x2, x3, x4⟩) w) := by
  obtain ⟨z0, hz0⟩ : ∃ z, IntKind.u64.wrap (2 * x0) = z := ⟨_, rfl⟩
  have pz0 : 0 ≤ z0 := by rw [← hz0, wrapw]; unfold Fe.w64; omega
  have qz0 : z0 < 18446744073709551616 := by rw [← hz0, wrapw]; unfold Fe.w64; omega
  obtain ⟨z1, hz1⟩ : ∃ z, IntKind.u64.wrap (2 * x1) = z := ⟨_, rfl⟩
  have pz1 : 0 ≤ z1 := by rw [← hz1, wrapw]; unfold Fe.w64; omega
  have qz1 : z1 < 18446744073709551616 := by rw [← hz1, wrapw]; unfold Fe.w64; omega
  obtain ⟨z2, hz2⟩ : ∃ z, IntKind.u64.wrap (19 * x3) = z := ⟨_, rfl⟩
  have pz2 : 0 ≤ z2 := by rw [← hz2, wrapw]; unfold Fe.w64; omega
  have qz2 : z2 < 18446744073709551616 := by rw [← hz2, wrapw]; unfold Fe.w64; omega
  obtain ⟨z3, hz3⟩ : ∃ z, IntKind.u64.wrap (19 * x4) = z := ⟨_, rfl⟩
  have pz3 : 0 ≤ z3 := by rw [← hz3, wrapw]; unfold Fe.w64; omega
  have qz3 : z3 < 18446744073709551616 := by rw [← hz3, wrapw]; unfold Fe.w64; omega
  obtain ⟨z4, hz4⟩ : ∃ z, IntKind.u64.wrap (2 * x2) = z := ⟨_, rfl⟩
  have pz4 : 0 ≤ z4 := by rw [← hz4, wrapw]; unfold Fe.w64; omega
  have qz4 : z4 < 18446744073709551616 := by rw [← hz4, wrapw]; unfold Fe.w64; omega
  obtain ⟨z5, hz5⟩ : ∃ z, IntKind.u64.wrap (2 * x3) = z := ⟨_, rfl⟩
  have pz5 : 0 ≤ z5 := by rw [← hz5, wrapw]; unfold Fe.w64; omega
  have qz5 : z5 < 18446744073709551616 := by rw [← hz5, wrapw]; unfold Fe.w64; omega
  obtain ⟨S0, hS0⟩ : ∃ S, sumL [(x0, x0), (z1, z3), (z4, z2)] = S := ⟨_, rfl⟩
  obtain ⟨S1, hS1⟩ : ∃ S, sumL [(z0, x1), (z4, z3), (x3, z2)] = S := ⟨_, rfl⟩
  obtain ⟨S2, hS2⟩ : ∃ S, sumL [(z0, x2), (x1, x1), (z5, z3)] = S := ⟨_, rfl⟩
  obtain ⟨S3, hS3⟩ : ∃ S, sumL [(z0, x3), (z1, x2), (x4, z3)] = S := ⟨_, rfl⟩
  obtain ⟨S4, hS4⟩ : ∃ S, sumL [(z0, x4), (z1, x3), (x2, x2)] = S := ⟨_, rfl⟩
  obtain ⟨r, hr⟩ : ∃ r, r = Fe.joinF S0 S1 S2 S3 S4 := ⟨_, rfl⟩
  have HS0 := Lib.hid hS0; clear hS0
  have HS1 := Lib.hid hS1; clear hS1
  have HS2 := Lib.hid hS2; clear hS2
  have HS3 := Lib.hid hS3; clear hS3
  have HS4 := Lib.hid hS4; clear hS4
  have Hr := Lib.hid hr; clear hr
  have iS0 : Is128 S0 := by rw [← HS0.out]; exact ⟨(sumL_bd _).1, (sumL_bd _).2⟩
  have iS1 : Is128 S1 := by rw [← HS1.out]; exact ⟨(sumL_bd _).1, (sumL_bd _).2⟩
  have iS2 : Is128 S2 := by rw [← HS2.out]; exact ⟨(sumL_bd _).1, (sumL_bd _).2⟩
  have iS3 : Is128 S3 := by rw [← HS3.out]; exact ⟨(sumL_bd _).1, (sumL_bd _).2⟩
  have iS4 : Is128 S4 := by rw [← HS4.out]; exact ⟨(sumL_bd _).1, (sumL_bd _).2⟩
  have Hz0 := Lib.hid hz0; clear hz0
  have Hz1 := Lib.hid hz1; clear hz1
  have Hz2 := Lib.hid hz2; clear hz2
  have Hz3 := Lib.hid hz3; clear hz3
  have Hz4 := Lib.hid hz4; clear hz4
  have Hz5 := Lib.hid hz5; clear hz5
  go_enter Tryd.func12, Tryd.ntmps12
  have hB0 : sqB w w.heap.size (w.heap.size + 1) x0 x1 x2 x3 x4 ((w.alloc (.cells #[.int .u64 x0, .int .u64 x1, .int .u64 x2, .int .u64 x3, .int .u64 x4] 24)).alloc (.cells #[.int .u64 0, .int .u64 0, .int .u64 0, .int .u64 0, .int .u64 0] 24)) :=
    ⟨(Blk.new w [.int .u64 x0, .int .u64 x1, .int .u64 x2, .int .u64 x3, .int .u64 x4] _).alloc _, ⟨_, _, _, _, _, Blk.newAt _ [.int .u64 0, .int .u64 0, .int .u64 0, .int .u64 0, .int .u64 0] _ (by simp)⟩, gb_alloc (gb_alloc (gb_refl _ _) _) _, by omega, by omega⟩
  go_wp2
  go_quiet (fail)
  go_wp2
  go_quiet (fail)
  go_wp2
  refine wp_region_flow (sqAt w.heap.size (w.heap.size + 1) x0 x1 x2 x3 x4 z0 z1 z2 z3 z4 z5 S0 S1 S2 S3 S4 r) (fun _ w' => Blk w' (w.heap.size + 1) 24 [.int .u64 r.x0, .int .u64 r.x1, .int .u64 r.x2, .int .u64 r.x3, .int .u64 r.x4])
    (sqB w w.heap.size (w.heap.size + 1) x0 x1 x2 x3 x4) (fun w' w'' => w'.grownBy w'' none ∨ (w'.grownBy w'' (some (w.heap.size + 1)) ∧ Blk w'' (w.heap.size + 1) 24 [.int .u64 r.x0, .int .u64 r.x1, .int .u64 r.x2, .int .u64 r.x3, .int .u64 r.x4])) (by kernel_rfl) (by kernel_rfl) (by kernel_rfl) (((hB0.grown (gb_drewN (gb_refl _ none) _)).grown (gb_drewN (gb_refl _ none) _)).grown (gb_drew (gb_refl _ none))) ?_ ?_ ?_ ?_
  · exact fun d u w1 w2 hR h => sq_stable _ _ _ _ _ _ _ _ _ _ _ _ _ _ _ _ _ _ r d u w1 w2 (hR.elim (fun h => gb_row h _) (fun h => h.1)) h
  · exact fun j w1 w2 hR h => hR.elim (fun hg => h.grown hg (by simp)) (fun h => h.2)
  · clear hB0
    generalize w.heap.size = A
    generalize eR : A + 1 = R
    refine ⟨flow_value rfl rfl fun a w h => ?_, ?_⟩
    · have e1 : a.tmps.getD 1 undef = .pointer (some ⟨A, 0, none⟩) := h.rest 1 (by kernel_rfl)
      refine ⟨.pointer (some ⟨A, 0, none⟩), w, ?_, h.base, Or.inl (gb_refl _ _), rfl⟩
      clear h
      simp only [execOp, Act.eval, e1]
      go_simp
    refine ⟨flow_value rfl rfl fun a w h => ?_, ?_⟩
    · have e19 : a.tmps.getD 19 undef = .pointer (some ⟨A, 0, none⟩) := h.dep 19 (by kernel_rfl)
      have c := h.base.a.cell (i := 0) rfl
      refine ⟨.int .u64 x0, w, ?_, h.base, Or.inl (gb_refl _ _), rfl⟩
      clear h
      simp only [execOp, Act.eval, e19]
      go_simp
    refine ⟨flow_value rfl rfl fun a w h => ?_, ?_⟩
    · have e1 : a.tmps.getD 1 undef = .pointer (some ⟨A, 0, none⟩) := h.rest 1 (by kernel_rfl)
      refine ⟨.pointer (some ⟨A, 0, none⟩), w, ?_, h.base, Or.inl (gb_refl _ _), rfl⟩
      clear h
      simp only [execOp, Act.eval, e1]
      go_simp
    refine ⟨flow_value rfl rfl fun a w h => ?_, ?_⟩
    · have e21 : a.tmps.getD 21 undef = .pointer (some ⟨A, 0, none⟩) := h.dep 21 (by kernel_rfl)
      have c := h.base.a.cell (i := 0) rfl
      refine ⟨.int .u64 x0, w, ?_, h.base, Or.inl (gb_refl _ _), rfl⟩
      clear h
      simp only [execOp, Act.eval, e21]
      go_simp
    refine ⟨flow_value rfl rfl fun a w h => ?_, ?_⟩
    · have e20 : a.tmps.getD 20 undef = .int .u64 x0 := h.dep 20 (by kernel_rfl)
      have e22 : a.tmps.getD 22 undef = .int .u64 x0 := h.dep 22 (by kernel_rfl)
      refine ⟨.agg #[.int .u64 x0, .int .u64 x0], w, ?_, h.base, Or.inl (gb_refl _ _), rfl⟩
      clear h
      simp only [execOp, List.map_toArray, List.map_cons, List.map_nil, Act.eval, e20, e22]
      go_simp
    refine ⟨flow_value rfl rfl fun a w h => ?_, ?_⟩
    · have e4 : a.tmps.getD 4 undef = .int .u64 z1 := (h.rest 4 (by kernel_rfl)).trans (congrArg (Value.int .u64) Hz1.out)
      refine ⟨.int .u64 z1, w, ?_, h.base, Or.inl (gb_refl _ _), rfl⟩
      clear h
      simp only [execOp, Act.eval, e4]
      go_simp
    refine ⟨flow_value rfl rfl fun a w h => ?_, ?_⟩
    · have e6 : a.tmps.getD 6 undef = .int .u64 z3 := (h.rest 6 (by kernel_rfl)).trans (congrArg (Value.int .u64) Hz3.out)
      refine ⟨.int .u64 z3, w, ?_, h.base, Or.inl (gb_refl _ _), rfl⟩
      clear h
      simp only [execOp, Act.eval, e6]
      go_simp
    refine ⟨flow_value rfl rfl fun a w h => ?_, ?_⟩
    · have e24 : a.tmps.getD 24 undef = .int .u64 z1 := h.dep 24 (by kernel_rfl)
      have e25 : a.tmps.getD 25 undef = .int .u64 z3 := h.dep 25 (by kernel_rfl)
      refine ⟨.agg #[.int .u64 z1, .int .u64 z3], w, ?_, h.base, Or.inl (gb_refl _ _), rfl⟩
      clear h
      simp only [execOp, List.map_toArray, List.map_cons, List.map_nil, Act.eval, e24, e25]
      go_simp
    refine ⟨flow_value rfl rfl fun a w h => ?_, ?_⟩
    · have e1 : a.tmps.getD 1 undef = .pointer (some ⟨A, 0, none⟩) := h.rest 1 (by kernel_rfl)
      refine ⟨.pointer (some ⟨A, 2, none⟩), w, ?_, h.base, Or.inl (gb_refl _ _), rfl⟩
      clear h
      simp only [execOp, Act.eval, e1]
      go_simp
    refine ⟨flow_value rfl rfl fun a w h => ?_, ?_⟩
    · have e27 : a.tmps.getD 27 undef = .pointer (some ⟨A, 2, none⟩) := h.dep 27 (by kernel_rfl)
      have c := h.base.a.cell (i := 2) rfl
      refine ⟨.int .u64 x2, w, ?_, h.base, Or.inl (gb_refl _ _), rfl⟩
      clear h
      simp only [execOp, Act.eval, e27]
      go_simp
    refine ⟨flow_value rfl rfl fun a w h => ?_, ?_⟩
    · have e28 : a.tmps.getD 28 undef = .int .u64 x2 := h.dep 28 (by kernel_rfl)
      refine ⟨.int .u64 (IntKind.u64.wrap (2 * x2)), w, ?_, h.base, Or.inl (gb_refl _ _), congrArg (Value.int .u64) Hz4.out⟩
      clear h
      simp only [execOp, Act.eval, e28]
      go_simp
    refine ⟨flow_value rfl rfl fun a w h => ?_, ?_⟩
    · have e5 : a.tmps.getD 5 undef = .int .u64 z2 := (h.rest 5 (by kernel_rfl)).trans (congrArg (Value.int .u64) Hz2.out)
      refine ⟨.int .u64 z2, w, ?_, h.base, Or.inl (gb_refl _ _), rfl⟩
      clear h
      simp only [execOp, Act.eval, e5]
      go_simp
    refine ⟨flow_value rfl rfl fun a w h => ?_, ?_⟩
    · have e29 : a.tmps.getD 29 undef = .int .u64 z4 := h.dep 29 (by kernel_rfl)
      have e30 : a.tmps.getD 30 undef = .int .u64 z2 := h.dep 30 (by kernel_rfl)
      refine ⟨.agg #[.int .u64 z4, .int .u64 z2], w, ?_, h.base, Or.inl (gb_refl _ _), rfl⟩
      clear h
      simp only [execOp, List.map_toArray, List.map_cons, List.map_nil, Act.eval, e29, e30]
      go_simp
    refine ⟨flow_value rfl rfl fun a w h => ?_, ?_⟩
    · have e23 : a.tmps.getD 23 undef = .agg #[.int .u64 x0, .int .u64 x0] := h.dep 23 (by kernel_rfl)
      have e26 : a.tmps.getD 26 undef = .agg #[.int .u64 z1, .int .u64 z3] := h.dep 26 (by kernel_rfl)
      have e31 : a.tmps.getD 31 undef = .agg #[.int .u64 z4, .int .u64 z2] := h.dep 31 (by kernel_rfl)
      obtain ⟨_, _, _, _, _, hr5⟩ := h.base.r
      have hs := hr5.lt
      refine ⟨.slice (some ⟨w.heap.size, 0, none⟩) 3 3, w.alloc (.cells #[.int .u64 x0, .int .u64 x0, .int .u64 z1, .int .u64 z3, .int .u64 z4, .int .u64 z2] 56), ?_, h.base.alloc _, Or.inl (World.grownBy_alloc _ _ _), ⟨w.heap.size, by omega, rfl, Blk.new w _ _⟩⟩
      clear h
      simp only [execOp, List.map_toArray, List.map_cons, List.map_nil, Act.eval, e23, e26, e31]
      go_simp
    refine ⟨flow_call rfl rfl fun a w h => ?_, ?_⟩
    · obtain ⟨PB, hne, e32, hP⟩ : ∃ PB, PB ≠ R ∧ a.tmps.getD 32 undef = .slice (some ⟨PB, 0, none⟩) 3 3 ∧ Blk w PB 56 (flat [(x0, x0), (z1, z3), (z4, z2)]) := h.dep 32 (by kernel_rfl)
      have hb := h.base
      refine ⟨30, #[.slice (some ⟨PB, 0, none⟩) 3 3], ?_, ?_⟩
      · clear h hb hP
        have e32x : a.tmps[32]?.getD undef = .slice (some ⟨PB, 0, none⟩) 3 3 := by simpa using e32
        clear e32
        go_simp
      · refine (sumUp_any PB 3 _ w _ rfl (by decide) hP ?_).mono ?_
        · intro p hp; simp only [List.mem_cons, List.not_mem_nil, or_false] at hp; rcases hp with rfl | rfl | rfl <;> exact ⟨by assumption, by assumption, by assumption, by assumption⟩
        · rintro e w1 ⟨rfl, hg⟩; exact ⟨_, rfl, hb.grown hg, Or.inl hg, by show sumV _ = _; rw [HS0.out]; rfl⟩
    refine ⟨flow_value rfl rfl fun a w h => ?_, ?_⟩
    · have e3 : a.tmps.getD 3 undef = .int .u64 z0 := (h.rest 3 (by kernel_rfl)).trans (congrArg (Value.int .u64) Hz0.out)
      refine ⟨.int .u64 z0, w, ?_, h.base, Or.inl (gb_refl _ _), rfl⟩
      clear h
      simp only [execOp, Act.eval, e3]
      go_simp
    refine ⟨flow_value rfl rfl fun a w h => ?_, ?_⟩
    · have e1 : a.tmps.getD 1 undef = .pointer (some ⟨A, 0, none⟩) := h.rest 1 (by kernel_rfl)
      refine ⟨.pointer (some ⟨A, 1, none⟩), w, ?_, h.base, Or.inl (gb_refl _ _), rfl⟩
      clear h
      simp only [execOp, Act.eval, e1]
      go_simp
    refine ⟨flow_value rfl rfl fun a w h => ?_, ?_⟩
    · have e35 : a.tmps.getD 35 undef = .pointer (some ⟨A, 1, none⟩) := h.dep 35 (by kernel_rfl)
      have c := h.base.a.cell (i := 1) rfl
      refine ⟨.int .u64 x1, w, ?_, h.base, Or.inl (gb_refl _ _), rfl⟩
      clear h
      simp only [execOp, Act.eval, e35]
      go_simp
    refine ⟨flow_value rfl rfl fun a w h => ?_, ?_⟩
    · have e34 : a.tmps.getD 34 undef = .int .u64 z0 := h.dep 34 (by kernel_rfl)
      have e36 : a.tmps.getD 36 undef = .int .u64 x1 := h.dep 36 (by kernel_rfl)
      refine ⟨.agg #[.int .u64 z0, .int .u64 x1], w, ?_, h.base, Or.inl (gb_refl _ _), rfl⟩
      clear h
      simp only [execOp, List.map_toArray, List.map_cons, List.map_nil, Act.eval, e34, e36]
      go_simp
    refine ⟨flow_value rfl rfl fun a w h => ?_, ?_⟩
    · have e1 : a.tmps.getD 1 undef = .pointer (some ⟨A, 0, none⟩) := h.rest 1 (by kernel_rfl)
      refine ⟨.pointer (some ⟨A, 2, none⟩), w, ?_, h.base, Or.inl (gb_refl _ _), rfl⟩
      clear h
      simp only [execOp, Act.eval, e1]
      go_simp
    refine ⟨flow_value rfl rfl fun a w h => ?_, ?_⟩
    · have e38 : a.tmps.getD 38 undef = .pointer (some ⟨A, 2, none⟩) := h.dep 38 (by kernel_rfl)
      have c := h.base.a.cell (i := 2) rfl
      refine ⟨.int .u64 x2, w, ?_, h.base, Or.inl (gb_refl _ _), rfl⟩
      clear h
      simp only [execOp, Act.eval, e38]
      go_simp
    refine ⟨flow_value rfl rfl fun a w h => ?_, ?_⟩
    · have e39 : a.tmps.getD 39 undef = .int .u64 x2 := h.dep 39 (by kernel_rfl)
      refine ⟨.int .u64 (IntKind.u64.wrap (2 * x2)), w, ?_, h.base, Or.inl (gb_refl _ _), congrArg (Value.int .u64) Hz4.out⟩
      clear h
      simp only [execOp, Act.eval, e39]
      go_simp
    refine ⟨flow_value rfl rfl fun a w h => ?_, ?_⟩
    · have e6 : a.tmps.getD 6 undef = .int .u64 z3 := (h.rest 6 (by kernel_rfl)).trans (congrArg (Value.int .u64) Hz3.out)
      refine ⟨.int .u64 z3, w, ?_, h.base, Or.inl (gb_refl _ _), rfl⟩
      clear h
      simp only [execOp, Act.eval, e6]
      go_simp
    refine ⟨flow_value rfl rfl fun a w h => ?_, ?_⟩
    · have e40 : a.tmps.getD 40 undef = .int .u64 z4 := h.dep 40 (by kernel_rfl)
      have e41 : a.tmps.getD 41 undef = .int .u64 z3 := h.dep 41 (by kernel_rfl)
      refine ⟨.agg #[.int .u64 z4, .int .u64 z3], w, ?_, h.base, Or.inl (gb_refl _ _), rfl⟩
      clear h
      simp only [execOp, List.map_toArray, List.map_cons, List.map_nil, Act.eval, e40, e41]
      go_simp
    refine ⟨flow_value rfl rfl fun a w h => ?_, ?_⟩
    · have e1 : a.tmps.getD 1 undef = .pointer (some ⟨A, 0, none⟩) := h.rest 1 (by kernel_rfl)
      refine ⟨.pointer (some ⟨A, 3, none⟩), w, ?_, h.base, Or.inl (gb_refl _ _), rfl⟩
      clear h
      simp only [execOp, Act.eval, e1]
      go_simp
    refine ⟨flow_value rfl rfl fun a w h => ?_, ?_⟩
    · have e43 : a.tmps.getD 43 undef = .pointer (some ⟨A, 3, none⟩) := h.dep 43 (by kernel_rfl)
      have c := h.base.a.cell (i := 3) rfl
      refine ⟨.int .u64 x3, w, ?_, h.base, Or.inl (gb_refl _ _), rfl⟩
      clear h
      simp only [execOp, Act.eval, e43]
      go_simp
    refine ⟨flow_value rfl rfl fun a w h => ?_, ?_⟩
    · have e5 : a.tmps.getD 5 undef = .int .u64 z2 := (h.rest 5 (by kernel_rfl)).trans (congrArg (Value.int .u64) Hz2.out)
      refine ⟨.int .u64 z2, w, ?_, h.base, Or.inl (gb_refl _ _), rfl⟩
      clear h
      simp only [execOp, Act.eval, e5]
      go_simp
    refine ⟨flow_value rfl rfl fun a w h => ?_, ?_⟩
    · have e44 : a.tmps.getD 44 undef = .int .u64 x3 := h.dep 44 (by kernel_rfl)
      have e45 : a.tmps.getD 45 undef = .int .u64 z2 := h.dep 45 (by kernel_rfl)
      refine ⟨.agg #[.int .u64 x3, .int .u64 z2], w, ?_, h.base, Or.inl (gb_refl _ _), rfl⟩
      clear h
      simp only [execOp, List.map_toArray, List.map_cons, List.map_nil, Act.eval, e44, e45]
      go_simp
    refine ⟨flow_value rfl rfl fun a w h => ?_, ?_⟩
    · have e37 : a.tmps.getD 37 undef = .agg #[.int .u64 z0, .int .u64 x1] := h.dep 37 (by kernel_rfl)
      have e42 : a.tmps.getD 42 undef = .agg #[.int .u64 z4, .int .u64 z3] := h.dep 42 (by kernel_rfl)
      have e46 : a.tmps.getD 46 undef = .agg #[.int .u64 x3, .int .u64 z2] := h.dep 46 (by kernel_rfl)
      obtain ⟨_, _, _, _, _, hr5⟩ := h.base.r
      have hs := hr5.lt
      refine ⟨.slice (some ⟨w.heap.size, 0, none⟩) 3 3, w.alloc (.cells #[.int .u64 z0, .int .u64 x1, .int .u64 z4, .int .u64 z3, .int .u64 x3, .int .u64 z2] 56), ?_, h.base.alloc _, Or.inl (World.grownBy_alloc _ _ _), ⟨w.heap.size, by omega, rfl, Blk.new w _ _⟩⟩
      clear h
      simp only [execOp, List.map_toArray, List.map_cons, List.map_nil, Act.eval, e37, e42, e46]
      go_simp
    refine ⟨flow_call rfl rfl fun a w h => ?_, ?_⟩
    · obtain ⟨PB, hne, e47, hP⟩ : ∃ PB, PB ≠ R ∧ a.tmps.getD 47 undef = .slice (some ⟨PB, 0, none⟩) 3 3 ∧ Blk w PB 56 (flat [(z0, x1), (z4, z3), (x3, z2)]) := h.dep 47 (by kernel_rfl)
      have hb := h.base
      refine ⟨30, #[.slice (some ⟨PB, 0, none⟩) 3 3], ?_, ?_⟩
      · clear h hb hP
        have e47x : a.tmps[47]?.getD undef = .slice (some ⟨PB, 0, none⟩) 3 3 := by simpa using e47
        clear e47
        go_simp
      · refine (sumUp_any PB 3 _ w _ rfl (by decide) hP ?_).mono ?_
        · intro p hp; simp only [List.mem_cons, List.not_mem_nil, or_false] at hp; rcases hp with rfl | rfl | rfl <;> exact ⟨by assumption, by assumption, by assumption, by assumption⟩
        · rintro e w1 ⟨rfl, hg⟩; exact ⟨_, rfl, hb.grown hg, Or.inl hg, by show sumV _ = _; rw [HS1.out]; rfl⟩
    refine ⟨flow_value rfl rfl fun a w h => ?_, ?_⟩
    · have e3 : a.tmps.getD 3 undef = .int .u64 z0 := (h.rest 3 (by kernel_rfl)).trans (congrArg (Value.int .u64) Hz0.out)
      refine ⟨.int .u64 z0, w, ?_, h.base, Or.inl (gb_refl _ _), rfl⟩
      clear h
      simp only [execOp, Act.eval, e3]
      go_simp
    refine ⟨flow_value rfl rfl fun a w h => ?_, ?_⟩
    · have e1 : a.tmps.getD 1 undef = .pointer (some ⟨A, 0, none⟩) := h.rest 1 (by kernel_rfl)
      refine ⟨.pointer (some ⟨A, 2, none⟩), w, ?_, h.base, Or.inl (gb_refl _ _), rfl⟩
      clear h
      simp only [execOp, Act.eval, e1]
      go_simp
    refine ⟨flow_value rfl rfl fun a w h => ?_, ?_⟩
    · have e50 : a.tmps.getD 50 undef = .pointer (some ⟨A, 2, none⟩) := h.dep 50 (by kernel_rfl)
      have c := h.base.a.cell (i := 2) rfl
      refine ⟨.int .u64 x2, w, ?_, h.base, Or.inl (gb_refl _ _), rfl⟩
      clear h
      simp only [execOp, Act.eval, e50]
      go_simp
    refine ⟨flow_value rfl rfl fun a w h => ?_, ?_⟩
    · have e49 : a.tmps.getD 49 undef = .int .u64 z0 := h.dep 49 (by kernel_rfl)
      have e51 : a.tmps.getD 51 undef = .int .u64 x2 := h.dep 51 (by kernel_rfl)
      refine ⟨.agg #[.int .u64 z0, .int .u64 x2], w, ?_, h.base, Or.inl (gb_refl _ _), rfl⟩
      clear h
      simp only [execOp, List.map_toArray, List.map_cons, List.map_nil, Act.eval, e49, e51]
      go_simp
    refine ⟨flow_value rfl rfl fun a w h => ?_, ?_⟩
    · have e1 : a.tmps.getD 1 undef = .pointer (some ⟨A, 0, none⟩) := h.rest 1 (by kernel_rfl)
      refine ⟨.pointer (some ⟨A, 1, none⟩), w, ?_, h.base, Or.inl (gb_refl _ _), rfl⟩
      clear h
      simp only [execOp, Act.eval, e1]
      go_simp
    refine ⟨flow_value rfl rfl fun a w h => ?_, ?_⟩
    · have e53 : a.tmps.getD 53 undef = .pointer (some ⟨A, 1, none⟩) := h.dep 53 (by kernel_rfl)
      have c := h.base.a.cell (i := 1) rfl
      refine ⟨.int .u64 x1, w, ?_, h.base, Or.inl (gb_refl _ _), rfl⟩
      clear h
      simp only [execOp, Act.eval, e53]
      go_simp
    refine ⟨flow_value rfl rfl fun a w h => ?_, ?_⟩
    · have e1 : a.tmps.getD 1 undef = .pointer (some ⟨A, 0, none⟩) := h.rest 1 (by kernel_rfl)
      refine ⟨.pointer (some ⟨A, 1, none⟩), w, ?_, h.base, Or.inl (gb_refl _ _), rfl⟩
      clear h
      simp only [execOp, Act.eval, e1]
      go_simp
    refine ⟨flow_value rfl rfl fun a w h => ?_, ?_⟩
    · have e55 : a.tmps.getD 55 undef = .pointer (some ⟨A, 1, none⟩) := h.dep 55 (by kernel_rfl)
      have c := h.base.a.cell (i := 1) rfl
      refine ⟨.int .u64 x1, w, ?_, h.base, Or.inl (gb_refl _ _), rfl⟩
      clear h
      simp only [execOp, Act.eval, e55]
      go_simp
    refine ⟨flow_value rfl rfl fun a w h => ?_, ?_⟩
    · have e54 : a.tmps.getD 54 undef = .int .u64 x1 := h.dep 54 (by kernel_rfl)
      have e56 : a.tmps.getD 56 undef = .int .u64 x1 := h.dep 56 (by kernel_rfl)
      refine ⟨.agg #[.int .u64 x1, .int .u64 x1], w, ?_, h.base, Or.inl (gb_refl _ _), rfl⟩
      clear h
      simp only [execOp, List.map_toArray, List.map_cons, List.map_nil, Act.eval, e54, e56]
      go_simp
    refine ⟨flow_value rfl rfl fun a w h => ?_, ?_⟩
    · have e1 : a.tmps.getD 1 undef = .pointer (some ⟨A, 0, none⟩) := h.rest 1 (by kernel_rfl)
      refine ⟨.pointer (some ⟨A, 3, none⟩), w, ?_, h.base, Or.inl (gb_refl _ _), rfl⟩
      clear h
      simp only [execOp, Act.eval, e1]
      go_simp
    refine ⟨flow_value rfl rfl fun a w h => ?_, ?_⟩
    · have e58 : a.tmps.getD 58 undef = .pointer (some ⟨A, 3, none⟩) := h.dep 58 (by kernel_rfl)
      have c := h.base.a.cell (i := 3) rfl
      refine ⟨.int .u64 x3, w, ?_, h.base, Or.inl (gb_refl _ _), rfl⟩
      clear h
      simp only [execOp, Act.eval, e58]
      go_simp
    refine ⟨flow_value rfl rfl fun a w h => ?_, ?_⟩
    · have e59 : a.tmps.getD 59 undef = .int .u64 x3 := h.dep 59 (by kernel_rfl)
      refine ⟨.int .u64 (IntKind.u64.wrap (2 * x3)), w, ?_, h.base, Or.inl (gb_refl _ _), congrArg (Value.int .u64) Hz5.out⟩
      clear h
      simp only [execOp, Act.eval, e59]
      go_simp
    refine ⟨flow_value rfl rfl fun a w h => ?_, ?_⟩
    · have e6 : a.tmps.getD 6 undef = .int .u64 z3 := (h.rest 6 (by kernel_rfl)).trans (congrArg (Value.int .u64) Hz3.out)
      refine ⟨.int .u64 z3, w, ?_, h.base, Or.inl (gb_refl _ _), rfl⟩
      clear h
      simp only [execOp, Act.eval, e6]
      go_simp
    refine ⟨flow_value rfl rfl fun a w h => ?_, ?_⟩
    · have e60 : a.tmps.getD 60 undef = .int .u64 z5 := h.dep 60 (by kernel_rfl)
      have e61 : a.tmps.getD 61 undef = .int .u64 z3 := h.dep 61 (by kernel_rfl)
      refine ⟨.agg #[.int .u64 z5, .int .u64 z3], w, ?_, h.base, Or.inl (gb_refl _ _), rfl⟩
      clear h
      simp only [execOp, List.map_toArray, List.map_cons, List.map_nil, Act.eval, e60, e61]
      go_simp
    refine ⟨flow_value rfl rfl fun a w h => ?_, ?_⟩
    · have e52 : a.tmps.getD 52 undef = .agg #[.int .u64 z0, .int .u64 x2] := h.dep 52 (by kernel_rfl)
      have e57 : a.tmps.getD 57 undef = .agg #[.int .u64 x1, .int .u64 x1] := h.dep 57 (by kernel_rfl)
      have e62 : a.tmps.getD 62 undef = .agg #[.int .u64 z5, .int .u64 z3] := h.dep 62 (by kernel_rfl)
      obtain ⟨_, _, _, _, _, hr5⟩ := h.base.r
      have hs := hr5.lt
      refine ⟨.slice (some ⟨w.heap.size, 0, none⟩) 3 3, w.alloc (.cells #[.int .u64 z0, .int .u64 x2, .int .u64 x1, .int .u64 x1, .int .u64 z5, .int .u64 z3] 56), ?_, h.base.alloc _, Or.inl (World.grownBy_alloc _ _ _), ⟨w.heap.size, by omega, rfl, Blk.new w _ _⟩⟩
      clear h
      simp only [execOp, List.map_toArray, List.map_cons, List.map_nil, Act.eval, e52, e57, e62]
      go_simp
    refine ⟨flow_call rfl rfl fun a w h => ?_, ?_⟩
    · obtain ⟨PB, hne, e63, hP⟩ : ∃ PB, PB ≠ R ∧ a.tmps.getD 63 undef = .slice (some ⟨PB, 0, none⟩) 3 3 ∧ Blk w PB 56 (flat [(z0, x2), (x1, x1), (z5, z3)]) := h.dep 63 (by kernel_rfl)
      have hb := h.base
      refine ⟨30, #[.slice (some ⟨PB, 0, none⟩) 3 3], ?_, ?_⟩
      · clear h hb hP
        have e63x : a.tmps[63]?.getD undef = .slice (some ⟨PB, 0, none⟩) 3 3 := by simpa using e63
        clear e63
        go_simp
      · refine (sumUp_any PB 3 _ w _ rfl (by decide) hP ?_).mono ?_
        · intro p hp; simp only [List.mem_cons, List.not_mem_nil, or_false] at hp; rcases hp with rfl | rfl | rfl <;> exact ⟨by assumption, by assumption, by assumption, by assumption⟩
        · rintro e w1 ⟨rfl, hg⟩; exact ⟨_, rfl, hb.grown hg, Or.inl hg, by show sumV _ = _; rw [HS2.out]; rfl⟩
    refine ⟨flow_value rfl rfl fun a w h => ?_, ?_⟩
    · have e3 : a.tmps.getD 3 undef = .int .u64 z0 := (h.rest 3 (by kernel_rfl)).trans (congrArg (Value.int .u64) Hz0.out)
      refine ⟨.int .u64 z0, w, ?_, h.base, Or.inl (gb_refl _ _), rfl⟩
      clear h
      simp only [execOp, Act.eval, e3]
      go_simp
    refine ⟨flow_value rfl rfl fun a w h => ?_, ?_⟩
    · have e1 : a.tmps.getD 1 undef = .pointer (some ⟨A, 0, none⟩) := h.rest 1 (by kernel_rfl)
      refine ⟨.pointer (some ⟨A, 3, none⟩), w, ?_, h.base, Or.inl (gb_refl _ _), rfl⟩
      clear h
      simp only [execOp, Act.eval, e1]
      go_simp
    refine ⟨flow_value rfl rfl fun a w h => ?_, ?_⟩
    · have e66 : a.tmps.getD 66 undef = .pointer (some ⟨A, 3, none⟩) := h.dep 66 (by kernel_rfl)
      have c := h.base.a.cell (i := 3) rfl
      refine ⟨.int .u64 x3, w, ?_, h.base, Or.inl (gb_refl _ _), rfl⟩
      clear h
      simp only [execOp, Act.eval, e66]
      go_simp
    refine ⟨flow_value rfl rfl fun a w h => ?_, ?_⟩
    · have e65 : a.tmps.getD 65 undef = .int .u64 z0 := h.dep 65 (by kernel_rfl)
      have e67 : a.tmps.getD 67 undef = .int .u64 x3 := h.dep 67 (by kernel_rfl)
      refine ⟨.agg #[.int .u64 z0, .int .u64 x3], w, ?_, h.base, Or.inl (gb_refl _ _), rfl⟩
      clear h
      simp only [execOp, List.map_toArray, List.map_cons, List.map_nil, Act.eval, e65, e67]
      go_simp
    refine ⟨flow_value rfl rfl fun a w h => ?_, ?_⟩
    · have e4 : a.tmps.getD 4 undef = .int .u64 z1 := (h.rest 4 (by kernel_rfl)).trans (congrArg (Value.int .u64) Hz1.out)
      refine ⟨.int .u64 z1, w, ?_, h.base, Or.inl (gb_refl _ _), rfl⟩
      clear h
      simp only [execOp, Act.eval, e4]
      go_simp
    refine ⟨flow_value rfl rfl fun a w h => ?_, ?_⟩
    · have e1 : a.tmps.getD 1 undef = .pointer (some ⟨A, 0, none⟩) := h.rest 1 (by kernel_rfl)
      refine ⟨.pointer (some ⟨A, 2, none⟩), w, ?_, h.base, Or.inl (gb_refl _ _), rfl⟩
      clear h
      simp only [execOp, Act.eval, e1]
      go_simp
    refine ⟨flow_value rfl rfl fun a w h => ?_, ?_⟩
    · have e70 : a.tmps.getD 70 undef = .pointer (some ⟨A, 2, none⟩) := h.dep 70 (by kernel_rfl)
      have c := h.base.a.cell (i := 2) rfl
      refine ⟨.int .u64 x2, w, ?_, h.base, Or.inl (gb_refl _ _), rfl⟩
      clear h
      simp only [execOp, Act.eval, e70]
      go_simp
    refine ⟨flow_value rfl rfl fun a w h => ?_, ?_⟩
    · have e69 : a.tmps.getD 69 undef = .int .u64 z1 := h.dep 69 (by kernel_rfl)
      have e71 : a.tmps.getD 71 undef = .int .u64 x2 := h.dep 71 (by kernel_rfl)
      refine ⟨.agg #[.int .u64 z1, .int .u64 x2], w, ?_, h.base, Or.inl (gb_refl _ _), rfl⟩
      clear h
      simp only [execOp, List.map_toArray, List.map_cons, List.map_nil, Act.eval, e69, e71]
      go_simp
    refine ⟨flow_value rfl rfl fun a w h => ?_, ?_⟩
    · have e1 : a.tmps.getD 1 undef = .pointer (some ⟨A, 0, none⟩) := h.rest 1 (by kernel_rfl)
      refine ⟨.pointer (some ⟨A, 4, none⟩), w, ?_, h.base, Or.inl (gb_refl _ _), rfl⟩
      clear h
      simp only [execOp, Act.eval, e1]
      go_simp
    refine ⟨flow_value rfl rfl fun a w h => ?_, ?_⟩
    · have e73 : a.tmps.getD 73 undef = .pointer (some ⟨A, 4, none⟩) := h.dep 73 (by kernel_rfl)
      have c := h.base.a.cell (i := 4) rfl
      refine ⟨.int .u64 x4, w, ?_, h.base, Or.inl (gb_refl _ _), rfl⟩
      clear h
      simp only [execOp, Act.eval, e73]
      go_simp
    refine ⟨flow_value rfl rfl fun a w h => ?_, ?_⟩
    · have e6 : a.tmps.getD 6 undef = .int .u64 z3 := (h.rest 6 (by kernel_rfl)).trans (congrArg (Value.int .u64) Hz3.out)
      refine ⟨.int .u64 z3, w, ?_, h.base, Or.inl (gb_refl _ _), rfl⟩
      clear h
      simp only [execOp, Act.eval, e6]
      go_simp
    refine ⟨flow_value rfl rfl fun a w h => ?_, ?_⟩
    · have e74 : a.tmps.getD 74 undef = .int .u64 x4 := h.dep 74 (by kernel_rfl)
      have e75 : a.tmps.getD 75 undef = .int .u64 z3 := h.dep 75 (by kernel_rfl)
      refine ⟨.agg #[.int .u64 x4, .int .u64 z3], w, ?_, h.base, Or.inl (gb_refl _ _), rfl⟩
      clear h
      simp only [execOp, List.map_toArray, List.map_cons, List.map_nil, Act.eval, e74, e75]
      go_simp
    refine ⟨flow_value rfl rfl fun a w h => ?_, ?_⟩
    · have e68 : a.tmps.getD 68 undef = .agg #[.int .u64 z0, .int .u64 x3] := h.dep 68 (by kernel_rfl)
      have e72 : a.tmps.getD 72 undef = .agg #[.int .u64 z1, .int .u64 x2] := h.dep 72 (by kernel_rfl)
      have e76 : a.tmps.getD 76 undef = .agg #[.int .u64 x4, .int .u64 z3] := h.dep 76 (by kernel_rfl)
      obtain ⟨_, _, _, _, _, hr5⟩ := h.base.r
      have hs := hr5.lt
      refine ⟨.slice (some ⟨w.heap.size, 0, none⟩) 3 3, w.alloc (.cells #[.int .u64 z0, .int .u64 x3, .int .u64 z1, .int .u64 x2, .int .u64 x4, .int .u64 z3] 56), ?_, h.base.alloc _, Or.inl (World.grownBy_alloc _ _ _), ⟨w.heap.size, by omega, rfl, Blk.new w _ _⟩⟩
      clear h
      simp only [execOp, List.map_toArray, List.map_cons, List.map_nil, Act.eval, e68, e72, e76]
      go_simp
    refine ⟨flow_call rfl rfl fun a w h => ?_, ?_⟩
    · obtain ⟨PB, hne, e77, hP⟩ : ∃ PB, PB ≠ R ∧ a.tmps.getD 77 undef = .slice (some ⟨PB, 0, none⟩) 3 3 ∧ Blk w PB 56 (flat [(z0, x3), (z1, x2), (x4, z3)]) := h.dep 77 (by kernel_rfl)
      have hb := h.base
      refine ⟨30, #[.slice (some ⟨PB, 0, none⟩) 3 3], ?_, ?_⟩
      · clear h hb hP
        have e77x : a.tmps[77]?.getD undef = .slice (some ⟨PB, 0, none⟩) 3 3 := by simpa using e77
        clear e77
        go_simp
      · refine (sumUp_any PB 3 _ w _ rfl (by decide) hP ?_).mono ?_
        · intro p hp; simp only [List.mem_cons, List.not_mem_nil, or_false] at hp; rcases hp with rfl | rfl | rfl <;> exact ⟨by assumption, by assumption, by assumption, by assumption⟩
        · rintro e w1 ⟨rfl, hg⟩; exact ⟨_, rfl, hb.grown hg, Or.inl hg, by show sumV _ = _; rw [HS3.out]; rfl⟩
    refine ⟨flow_value rfl rfl fun a w h => ?_, ?_⟩
    · have e3 : a.tmps.getD 3 undef = .int .u64 z0 := (h.rest 3 (by kernel_rfl)).trans (congrArg (Value.int .u64) Hz0.out)
      refine ⟨.int .u64 z0, w, ?_, h.base, Or.inl (gb_refl _ _), rfl⟩
      clear h
      simp only [execOp, Act.eval, e3]
      go_simp
    refine ⟨flow_value rfl rfl fun a w h => ?_, ?_⟩
    · have e1 : a.tmps.getD 1 undef = .pointer (some ⟨A, 0, none⟩) := h.rest 1 (by kernel_rfl)
      refine ⟨.pointer (some ⟨A, 4, none⟩), w, ?_, h.base, Or.inl (gb_refl _ _), rfl⟩
      clear h
      simp only [execOp, Act.eval, e1]
      go_simp
    refine ⟨flow_value rfl rfl fun a w h => ?_, ?_⟩
    · have e80 : a.tmps.getD 80 undef = .pointer (some ⟨A, 4, none⟩) := h.dep 80 (by kernel_rfl)
      have c := h.base.a.cell (i := 4) rfl
      refine ⟨.int .u64 x4, w, ?_, h.base, Or.inl (gb_refl _ _), rfl⟩
      clear h
      simp only [execOp, Act.eval, e80]
      go_simp
    refine ⟨flow_value rfl rfl fun a w h => ?_, ?_⟩
    · have e79 : a.tmps.getD 79 undef = .int .u64 z0 := h.dep 79 (by kernel_rfl)
      have e81 : a.tmps.getD 81 undef = .int .u64 x4 := h.dep 81 (by kernel_rfl)
      refine ⟨.agg #[.int .u64 z0, .int .u64 x4], w, ?_, h.base, Or.inl (gb_refl _ _), rfl⟩
      clear h
      simp only [execOp, List.map_toArray, List.map_cons, List.map_nil, Act.eval, e79, e81]
      go_simp
    refine ⟨flow_value rfl rfl fun a w h => ?_, ?_⟩
    · have e4 : a.tmps.getD 4 undef = .int .u64 z1 := (h.rest 4 (by kernel_rfl)).trans (congrArg (Value.int .u64) Hz1.out)
      refine ⟨.int .u64 z1, w, ?_, h.base, Or.inl (gb_refl _ _), rfl⟩
      clear h
      simp only [execOp, Act.eval, e4]
      go_simp
    refine ⟨flow_value rfl rfl fun a w h => ?_, ?_⟩
    · have e1 : a.tmps.getD 1 undef = .pointer (some ⟨A, 0, none⟩) := h.rest 1 (by kernel_rfl)
      refine ⟨.pointer (some ⟨A, 3, none⟩), w, ?_, h.base, Or.inl (gb_refl _ _), rfl⟩
      clear h
      simp only [execOp, Act.eval, e1]
      go_simp
    refine ⟨flow_value rfl rfl fun a w h => ?_, ?_⟩
    · have e84 : a.tmps.getD 84 undef = .pointer (some ⟨A, 3, none⟩) := h.dep 84 (by kernel_rfl)
      have c := h.base.a.cell (i := 3) rfl
      refine ⟨.int .u64 x3, w, ?_, h.base, Or.inl (gb_refl _ _), rfl⟩
      clear h
      simp only [execOp, Act.eval, e84]
      go_simp
    refine ⟨flow_value rfl rfl fun a w h => ?_, ?_⟩
    · have e83 : a.tmps.getD 83 undef = .int .u64 z1 := h.dep 83 (by kernel_rfl)
      have e85 : a.tmps.getD 85 undef = .int .u64 x3 := h.dep 85 (by kernel_rfl)
      refine ⟨.agg #[.int .u64 z1, .int .u64 x3], w, ?_, h.base, Or.inl (gb_refl _ _), rfl⟩
      clear h
      simp only [execOp, List.map_toArray, List.map_cons, List.map_nil, Act.eval, e83, e85]
      go_simp
    refine ⟨flow_value rfl rfl fun a w h => ?_, ?_⟩
    · have e1 : a.tmps.getD 1 undef = .pointer (some ⟨A, 0, none⟩) := h.rest 1 (by kernel_rfl)
      refine ⟨.pointer (some ⟨A, 2, none⟩), w, ?_, h.base, Or.inl (gb_refl _ _), rfl⟩
      clear h
      simp only [execOp, Act.eval, e1]
      go_simp
    refine ⟨flow_value rfl rfl fun a w h => ?_, ?_⟩
    · have e87 : a.tmps.getD 87 undef = .pointer (some ⟨A, 2, none⟩) := h.dep 87 (by kernel_rfl)
      have c := h.base.a.cell (i := 2) rfl
      refine ⟨.int .u64 x2, w, ?_, h.base, Or.inl (gb_refl _ _), rfl⟩
      clear h
      simp only [execOp, Act.eval, e87]
      go_simp
    refine ⟨flow_value rfl rfl fun a w h => ?_, ?_⟩
    · have e1 : a.tmps.getD 1 undef = .pointer (some ⟨A, 0, none⟩) := h.rest 1 (by kernel_rfl)
      refine ⟨.pointer (some ⟨A, 2, none⟩), w, ?_, h.base, Or.inl (gb_refl _ _), rfl⟩
      clear h
      simp only [execOp, Act.eval, e1]
      go_simp
    refine ⟨flow_value rfl rfl fun a w h => ?_, ?_⟩
    · have e89 : a.tmps.getD 89 undef = .pointer (some ⟨A, 2, none⟩) := h.dep 89 (by kernel_rfl)
      have c := h.base.a.cell (i := 2) rfl
      refine ⟨.int .u64 x2, w, ?_, h.base, Or.inl (gb_refl _ _), rfl⟩
      clear h
      simp only [execOp, Act.eval, e89]
      go_simp
    refine ⟨flow_value rfl rfl fun a w h => ?_, ?_⟩
    · have e88 : a.tmps.getD 88 undef = .int .u64 x2 := h.dep 88 (by kernel_rfl)
      have e90 : a.tmps.getD 90 undef = .int .u64 x2 := h.dep 90 (by kernel_rfl)
      refine ⟨.agg #[.int .u64 x2, .int .u64 x2], w, ?_, h.base, Or.inl (gb_refl _ _), rfl⟩
      clear h
      simp only [execOp, List.map_toArray, List.map_cons, List.map_nil, Act.eval, e88, e90]
      go_simp
    refine ⟨flow_value rfl rfl fun a w h => ?_, ?_⟩
    · have e82 : a.tmps.getD 82 undef = .agg #[.int .u64 z0, .int .u64 x4] := h.dep 82 (by kernel_rfl)
      have e86 : a.tmps.getD 86 undef = .agg #[.int .u64 z1, .int .u64 x3] := h.dep 86 (by kernel_rfl)
      have e91 : a.tmps.getD 91 undef = .agg #[.int .u64 x2, .int .u64 x2] := h.dep 91 (by kernel_rfl)
      obtain ⟨_, _, _, _, _, hr5⟩ := h.base.r
      have hs := hr5.lt
      refine ⟨.slice (some ⟨w.heap.size, 0, none⟩) 3 3, w.alloc (.cells #[.int .u64 z0, .int .u64 x4, .int .u64 z1, .int .u64 x3, .int .u64 x2, .int .u64 x2] 56), ?_, h.base.alloc _, Or.inl (World.grownBy_alloc _ _ _), ⟨w.heap.size, by omega, rfl, Blk.new w _ _⟩⟩
      clear h
      simp only [execOp, List.map_toArray, List.map_cons, List.map_nil, Act.eval, e82, e86, e91]
      go_simp
    refine ⟨flow_call rfl rfl fun a w h => ?_, ?_⟩
    · obtain ⟨PB, hne, e92, hP⟩ : ∃ PB, PB ≠ R ∧ a.tmps.getD 92 undef = .slice (some ⟨PB, 0, none⟩) 3 3 ∧ Blk w PB 56 (flat [(z0, x4), (z1, x3), (x2, x2)]) := h.dep 92 (by kernel_rfl)
      have hb := h.base
      refine ⟨30, #[.slice (some ⟨PB, 0, none⟩) 3 3], ?_, ?_⟩
      · clear h hb hP
        have e92x : a.tmps[92]?.getD undef = .slice (some ⟨PB, 0, none⟩) 3 3 := by simpa using e92
        clear e92
        go_simp
      · refine (sumUp_any PB 3 _ w _ rfl (by decide) hP ?_).mono ?_
        · intro p hp; simp only [List.mem_cons, List.not_mem_nil, or_false] at hp; rcases hp with rfl | rfl | rfl <;> exact ⟨by assumption, by assumption, by assumption, by assumption⟩
        · rintro e w1 ⟨rfl, hg⟩; exact ⟨_, rfl, hb.grown hg, Or.inl hg, by show sumV _ = _; rw [HS4.out]; rfl⟩
    refine ⟨flow_value rfl rfl fun a w h => ?_, ?_⟩
    · have e33 : a.tmps.getD 33 undef = .agg #[.int .u64 (S0 / 18446744073709551616), .int .u64 (S0 % 18446744073709551616)] := h.dep 33 (by kernel_rfl)
      have e48 : a.tmps.getD 48 undef = .agg #[.int .u64 (S1 / 18446744073709551616), .int .u64 (S1 % 18446744073709551616)] := h.dep 48 (by kernel_rfl)
      have e64 : a.tmps.getD 64 undef = .agg #[.int .u64 (S2 / 18446744073709551616), .int .u64 (S2 % 18446744073709551616)] := h.dep 64 (by kernel_rfl)
      have e78 : a.tmps.getD 78 undef = .agg #[.int .u64 (S3 / 18446744073709551616), .int .u64 (S3 % 18446744073709551616)] := h.dep 78 (by kernel_rfl)
      have e93 : a.tmps.getD 93 undef = .agg #[.int .u64 (S4 / 18446744073709551616), .int .u64 (S4 % 18446744073709551616)] := h.dep 93 (by kernel_rfl)
      refine ⟨.agg #[.int .u64 (S0 / 18446744073709551616), .int .u64 (S0 % 18446744073709551616), .int .u64 (S1 / 18446744073709551616), .int .u64 (S1 % 18446744073709551616), .int .u64 (S2 / 18446744073709551616), .int .u64 (S2 % 18446744073709551616), .int .u64 (S3 / 18446744073709551616), .int .u64 (S3 % 18446744073709551616), .int .u64 (S4 / 18446744073709551616), .int .u64 (S4 % 18446744073709551616)], w, ?_, h.base, Or.inl (gb_refl _ _), rfl⟩
      clear h
      simp only [execOp, List.map_toArray, List.map_cons, List.map_nil, Act.eval, e33, e48, e64, e78, e93]
      go_simp
    refine ⟨flow_call rfl rfl fun a w h => ?_, ?_⟩
    · have e94 : a.tmps.getD 94 undef = .agg #[.int .u64 (S0 / 18446744073709551616), .int .u64 (S0 % 18446744073709551616), .int .u64 (S1 / 18446744073709551616), .int .u64 (S1 % 18446744073709551616), .int .u64 (S2 / 18446744073709551616), .int .u64 (S2 % 18446744073709551616), .int .u64 (S3 / 18446744073709551616), .int .u64 (S3 % 18446744073709551616), .int .u64 (S4 / 18446744073709551616), .int .u64 (S4 % 18446744073709551616)] := h.dep 94 (by kernel_rfl)
      have hb := h.base
      refine ⟨29, #[.agg #[.int .u64 (S0 / 18446744073709551616), .int .u64 (S0 % 18446744073709551616), .int .u64 (S1 / 18446744073709551616), .int .u64 (S1 % 18446744073709551616), .int .u64 (S2 / 18446744073709551616), .int .u64 (S2 % 18446744073709551616), .int .u64 (S3 / 18446744073709551616), .int .u64 (S3 % 18446744073709551616), .int .u64 (S4 / 18446744073709551616), .int .u64 (S4 % 18446744073709551616)]], ?_, ?_⟩
      · clear h hb
        have e94x : a.tmps[94]?.getD undef = .agg #[.int .u64 (S0 / 18446744073709551616), .int .u64 (S0 % 18446744073709551616), .int .u64 (S1 / 18446744073709551616), .int .u64 (S1 % 18446744073709551616), .int .u64 (S2 / 18446744073709551616), .int .u64 (S2 % 18446744073709551616), .int .u64 (S3 / 18446744073709551616), .int .u64 (S3 % 18446744073709551616), .int .u64 (S4 / 18446744073709551616), .int .u64 (S4 % 18446744073709551616)] := by simpa using e94
        clear e94
        go_simp
      · refine (join_sums S0 S1 S2 S3 S4 w (by assumption) (by assumption) (by assumption) (by assumption) (by assumption)).mono ?_
        rintro e w1 ⟨rfl, hg⟩
        exact ⟨_, rfl, hb.grown hg, Or.inl hg, by show Fe.v _ = Fe.v _; rw [Hr.out]⟩
    refine ⟨flow_skip rfl rfl fun a w h => ?_, ?_⟩
    · have e95 : a.tmps.getD 95 undef = .agg #[.int .u64 r.x0, .int .u64 r.x1, .int .u64 r.x2, .int .u64 r.x3, .int .u64 r.x4] := h.dep 95 (by kernel_rfl)
      have e2 : a.tmps.getD 2 undef = .pointer (some ⟨R, 0, none⟩) := h.rest 2 (by kernel_rfl)
      obtain ⟨u0, u1, u2, u3, u4, hR⟩ := h.base.r
      have c0r := hR.cell (i := 0) rfl; have f0r := hR.free 0
      have c1r := hR.cell (i := 1) rfl; have f1r := hR.free 1
      have c2r := hR.cell (i := 2) rfl; have f2r := hR.free 2
      have c3r := hR.cell (i := 3) rfl; have f3r := hR.free 3
      have c4r := hR.cell (i := 4) rfl; have f4r := hR.free 4
      refine ⟨_, ?_, h.base.set5 _ _ _ _ _, Or.inr ⟨gb_set (gb_set (gb_set (gb_set (gb_set (gb_refl _ _) _ _) _ _) _ _) _ _) _ _, h.base.r.set5 _ _ _ _ _⟩, h.base.r.set5 _ _ _ _ _⟩
      clear h
      simp only [execOp, Act.eval, e95, e2]
      go_simp
    trivial
  · intro a w1 hB hsz hdf hrest hslots hmems
    have hM := hmems 77 _ rfl rfl
    have eR0 : a.tmps.getD 2 undef = .pointer (some ⟨(w.heap.size + 1), 0, none⟩) := hrest 2 (by kernel_rfl)
    have hg := hB.g
    clear hmems hslots hrest hB
    have eR1 : a.tmps[2]?.getD undef = .pointer (some ⟨(w.heap.size + 1), 0, none⟩) := by simpa using eR0
    have z0 := hM.cell (i := 0) rfl
    have z1 := hM.cell (i := 1) rfl
    have z2 := hM.cell (i := 2) rfl
    have z3 := hM.cell (i := 3) rfl
    have z4 := hM.cell (i := 4) rfl
    clear hM
    go_wp2
    refine bodyPost_ret (v := .agg #[.int .u64 r.x0, .int .u64 r.x1, .int .u64 r.x2, .int .u64 r.x3, .int .u64 r.x4]) ?_ (by rw [hdf]) ⟨r, ?_, rfl, hg⟩
    · simp [results, Tryd.results12, go_sem, eR1, z0, z1, z2, z3, z4]
    · rw [Hr.out, ← HS0.out, ← HS1.out, ← HS2.out, ← HS3.out, ← HS4.out, ← Hz0.out, ← Hz1.out, ← Hz2.out, ← Hz3.out, ← Hz4.out, ← Hz5.out]
      simp only [wrapw]
      rfl
end Go.Proofs.YtjgfhihngbhljaaDoor
