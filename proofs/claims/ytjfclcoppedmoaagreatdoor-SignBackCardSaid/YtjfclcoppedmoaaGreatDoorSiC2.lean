/- texts merged -/
import Derived.Test.YtjfclcoppedmoaaGreatDoorSiC1
import Derived.RegionTactic
import Derived.ChangeAlike
import Derived.BigRegion
import Derived.ChangeKeysEq
import Derived.Deep.Cut
import Derived.Laws.ResultCell
namespace Go.Proofs.YtjfclcoppedmoaaGreatDoor
section
open Go.RowKit
def sqG (A R : Nat) (x0 x1 x2 x3 x4 z0 z1 z2 z3 z4 z5 S0 S1 S2 S3 S4 : Int) (r : Fe) : List (Value → World → Prop) := [
 fun _ _ => True,
 fun _ _ => True,
 fun _ _ => True,
 fun _ _ => True,
 fun _ _ => True,
 fun _ _ => True,
 fun _ _ => True,
 fun _ _ => True,
 fun _ _ => True,
 fun _ _ => True,
 fun _ _ => True,
 fun _ _ => True,
 fun _ _ => True,
 fun _ _ => True,
 fun _ _ => True,
 fun _ _ => True,
 fun _ _ => True,
 fun _ _ => True,
 fun _ _ => True,
 fun v _ => v = .pointer (some ⟨A, 0, none⟩),
 fun v _ => v = .int .u64 x0,
 fun v _ => v = .pointer (some ⟨A, 0, none⟩),
 fun v _ => v = .int .u64 x0,
 fun v _ => v = .agg #[.int .u64 x0, .int .u64 x0],
 fun v _ => v = .int .u64 z1,
 fun v _ => v = .int .u64 z3,
 fun v _ => v = .agg #[.int .u64 z1, .int .u64 z3],
 fun v _ => v = .pointer (some ⟨A, 2, none⟩),
 fun v _ => v = .int .u64 x2,
 fun v _ => v = .int .u64 z4,
 fun v _ => v = .int .u64 z2,
 fun v _ => v = .agg #[.int .u64 z4, .int .u64 z2],
 fun v w => ∃ PB, PB ≠ R ∧ v = .slice (some ⟨PB, 0, none⟩) 3 3 ∧ Blk w PB 110 (flat [(x0, x0), (z1, z3), (z4, z2)]),
 fun v _ => v = .agg #[.int .u64 (S0 / 18446744073709551616), .int .u64 (S0 % 18446744073709551616)],
 fun v _ => v = .int .u64 z0,
 fun v _ => v = .pointer (some ⟨A, 1, none⟩),
 fun v _ => v = .int .u64 x1,
 fun v _ => v = .agg #[.int .u64 z0, .int .u64 x1],
 fun v _ => v = .pointer (some ⟨A, 2, none⟩),
 fun v _ => v = .int .u64 x2,
 fun v _ => v = .int .u64 z4,
 fun v _ => v = .int .u64 z3,
 fun v _ => v = .agg #[.int .u64 z4, .int .u64 z3],
 fun v _ => v = .pointer (some ⟨A, 3, none⟩),
 fun v _ => v = .int .u64 x3,
 fun v _ => v = .int .u64 z2,
 fun v _ => v = .agg #[.int .u64 x3, .int .u64 z2],
 fun v w => ∃ PB, PB ≠ R ∧ v = .slice (some ⟨PB, 0, none⟩) 3 3 ∧ Blk w PB 110 (flat [(z0, x1), (z4, z3), (x3, z2)]),
 fun v _ => v = .agg #[.int .u64 (S1 / 18446744073709551616), .int .u64 (S1 % 18446744073709551616)],
 fun v _ => v = .int .u64 z0,
 fun v _ => v = .pointer (some ⟨A, 2, none⟩),
 fun v _ => v = .int .u64 x2,
 fun v _ => v = .agg #[.int .u64 z0, .int .u64 x2],
 fun v _ => v = .pointer (some ⟨A, 1, none⟩),
 fun v _ => v = .int .u64 x1,
 fun v _ => v = .pointer (some ⟨A, 1, none⟩),
 fun v _ => v = .int .u64 x1,
 fun v _ => v = .agg #[.int .u64 x1, .int .u64 x1],
 fun v _ => v = .pointer (some ⟨A, 3, none⟩),
 fun v _ => v = .int .u64 x3,
 fun v _ => v = .int .u64 z5,
 fun v _ => v = .int .u64 z3,
 fun v _ => v = .agg #[.int .u64 z5, .int .u64 z3],
 fun v w => ∃ PB, PB ≠ R ∧ v = .slice (some ⟨PB, 0, none⟩) 3 3 ∧ Blk w PB 110 (flat [(z0, x2), (x1, x1), (z5, z3)]),
 fun v _ => v = .agg #[.int .u64 (S2 / 18446744073709551616), .int .u64 (S2 % 18446744073709551616)],
 fun v _ => v = .int .u64 z0,
 fun v _ => v = .pointer (some ⟨A, 3, none⟩),
 fun v _ => v = .int .u64 x3,
 fun v _ => v = .agg #[.int .u64 z0, .int .u64 x3],
 fun v _ => v = .int .u64 z1,
 fun v _ => v = .pointer (some ⟨A, 2, none⟩),
 fun v _ => v = .int .u64 x2,
 fun v _ => v = .agg #[.int .u64 z1, .int .u64 x2],
 fun v _ => v = .pointer (some ⟨A, 4, none⟩),
 fun v _ => v = .int .u64 x4,
 fun v _ => v = .int .u64 z3,
 fun v _ => v = .agg #[.int .u64 x4, .int .u64 z3],
 fun v w => ∃ PB, PB ≠ R ∧ v = .slice (some ⟨PB, 0, none⟩) 3 3 ∧ Blk w PB 110 (flat [(z0, x3), (z1, x2), (x4, z3)]),
 fun v _ => v = .agg #[.int .u64 (S3 / 18446744073709551616), .int .u64 (S3 % 18446744073709551616)],
 fun v _ => v = .int .u64 z0,
 fun v _ => v = .pointer (some ⟨A, 4, none⟩),
 fun v _ => v = .int .u64 x4,
 fun v _ => v = .agg #[.int .u64 z0, .int .u64 x4],
 fun v _ => v = .int .u64 z1,
 fun v _ => v = .pointer (some ⟨A, 3, none⟩),
 fun v _ => v = .int .u64 x3,
 fun v _ => v = .agg #[.int .u64 z1, .int .u64 x3],
 fun v _ => v = .pointer (some ⟨A, 2, none⟩),
 fun v _ => v = .int .u64 x2,
 fun v _ => v = .pointer (some ⟨A, 2, none⟩),
 fun v _ => v = .int .u64 x2,
 fun v _ => v = .agg #[.int .u64 x2, .int .u64 x2],
 fun v w => ∃ PB, PB ≠ R ∧ v = .slice (some ⟨PB, 0, none⟩) 3 3 ∧ Blk w PB 110 (flat [(z0, x4), (z1, x3), (x2, x2)]),
 fun v _ => v = .agg #[.int .u64 (S4 / 18446744073709551616), .int .u64 (S4 % 18446744073709551616)],
 fun v _ => v = .agg #[.int .u64 (S0 / 18446744073709551616), .int .u64 (S0 % 18446744073709551616), .int .u64 (S1 / 18446744073709551616), .int .u64 (S1 % 18446744073709551616), .int .u64 (S2 / 18446744073709551616), .int .u64 (S2 % 18446744073709551616), .int .u64 (S3 / 18446744073709551616), .int .u64 (S3 % 18446744073709551616), .int .u64 (S4 / 18446744073709551616), .int .u64 (S4 % 18446744073709551616)],
 fun v _ => v = r.v]
def sqAt (A R : Nat) (x0 x1 x2 x3 x4 z0 z1 z2 z3 z4 z5 S0 S1 S2 S3 S4 : Int) (r : Fe) (d : Nat) (v : Value) (w : World) : Prop := ((sqG A R x0 x1 x2 x3 x4 z0 z1 z2 z3 z4 z5 S0 S1 S2 S3 S4 r).getD d (fun _ _ => True)) v w
structure sqB (w0 : World) (A R : Nat) (x0 x1 x2 x3 x4 : Int) (w : World) : Prop where
 a : Blk w A 34 [.int .u64 x0, .int .u64 x1, .int .u64 x2, .int .u64 x3, .int .u64 x4]
 r : Room5 w R 34
 g : w0.grownBy w none
 ra : A ≠ R
 rn : w0.heap.size ≤ R
theorem sqB.grown {w0 : World} {A R : Nat} {x0 x1 x2 x3 x4 : Int} {w w' : World} (h : sqB w0 A R x0 x1 x2 x3 x4 w) (hg : w.grownBy w' none) : sqB w0 A R x0 x1 x2 x3 x4 w' :=
 ⟨h.a.grown hg (by simp), h.r.grown hg (by simp), gb_trans h.g hg, h.ra, h.rn⟩
theorem sqB.alloc {w0 : World} {A R : Nat} {x0 x1 x2 x3 x4 : Int} {w : World} (h : sqB w0 A R x0 x1 x2 x3 x4 w) (o : Obj) : sqB w0 A R x0 x1 x2 x3 x4 (w.alloc o) := h.grown (World.grownBy_alloc _ _ _)
theorem sqB.set5 {w0 : World} {A R : Nat} {x0 x1 x2 x3 x4 : Int} {w : World} (h : sqB w0 A R x0 x1 x2 x3 x4 w) (v0 v1 v2 v3 v4 : Value) :
  sqB w0 A R x0 x1 x2 x3 x4 (((((w.setCell ⟨R, 0, none⟩ v0).setCell ⟨R, 1, none⟩ v1).setCell ⟨R, 2, none⟩ v2).setCell ⟨R, 3, none⟩ v3).setCell ⟨R, 4, none⟩ v4) :=
 ⟨((((h.a.other (Ne.symm h.ra) _).other (Ne.symm h.ra) _).other (Ne.symm h.ra) _).other (Ne.symm h.ra) _).other (Ne.symm h.ra) _,
  ⟨_, _, _, _, _, h.r.set5 v0 v1 v2 v3 v4⟩, gb_set_new (gb_set_new (gb_set_new (gb_set_new (gb_set_new h.g h.rn _) h.rn _) h.rn _) h.rn _) h.rn _, h.ra, h.rn⟩
theorem sq_stable (A R : Nat) (x0 x1 x2 x3 x4 z0 z1 z2 z3 z4 z5 S0 S1 S2 S3 S4 : Int) (r : Fe) (d : Nat) (u : Value) (w w' : World) (hR : w.grownBy w' (some R)) (h : sqAt A R x0 x1 x2 x3 x4 z0 z1 z2 z3 z4 z5 S0 S1 S2 S3 S4 r d u w) : sqAt A R x0 x1 x2 x3 x4 z0 z1 z2 z3 z4 z5 S0 S1 S2 S3 S4 r d u w' :=
 stable_get (R := R) _ (show Stable R (sqG A R x0 x1 x2 x3 x4 z0 z1 z2 z3 z4 z5 S0 S1 S2 S3 S4 r) from ⟨fun _ _ _ _ h => h, fun _ _ _ _ h => h, fun _ _ _ _ h => h, fun _ _ _ _ h => h, fun _ _ _ _ h => h, fun _ _ _ _ h => h, fun _ _ _ _ h => h, fun _ _ _ _ h => h, fun _ _ _ _ h => h, fun _ _ _ _ h => h, fun _ _ _ _ h => h, fun _ _ _ _ h => h, fun _ _ _ _ h => h, fun _ _ _ _ h => h, fun _ _ _ _ h => h, fun _ _ _ _ h => h, fun _ _ _ _ h => h, fun _ _ _ _ h => h, fun _ _ _ _ h => h, fun _ _ _ _ h => h, fun _ _ _ _ h => h, fun _ _ _ _ h => h, fun _ _ _ _ h => h, fun _ _ _ _ h => h, fun _ _ _ _ h => h, fun _ _ _ _ h => h, fun _ _ _ _ h => h, fun _ _ _ _ h => h, fun _ _ _ _ h => h, fun _ _ _ _ h => h, fun _ _ _ _ h => h, fun _ _ _ _ h => h, fun _ _ _ hR ⟨PB, hne, hv, hb⟩ => ⟨PB, hne, hv, hb.grown hR (some_ne hne)⟩, fun _ _ _ _ h => h, fun _ _ _ _ h => h, fun _ _ _ _ h => h, fun _ _ _ _ h => h, fun _ _ _ _ h => h, fun _ _ _ _ h => h, fun _ _ _ _ h => h, fun _ _ _ _ h => h, fun _ _ _ _ h => h, fun _ _ _ _ h => h, fun _ _ _ _ h => h, fun _ _ _ _ h => h, fun _ _ _ _ h => h, fun _ _ _ _ h => h, fun _ _ _ hR ⟨PB, hne, hv, hb⟩ => ⟨PB, hne, hv, hb.grown hR (some_ne hne)⟩, fun _ _ _ _ h => h, fun _ _ _ _ h => h, fun _ _ _ _ h => h, fun _ _ _ _ h => h, fun _ _ _ _ h => h, fun _ _ _ _ h => h, fun _ _ _ _ h => h, fun _ _ _ _ h => h, fun _ _ _ _ h => h, fun _ _ _ _ h => h, fun _ _ _ _ h => h, fun _ _ _ _ h => h, fun _ _ _ _ h => h, fun _ _ _ _ h => h, fun _ _ _ _ h => h, fun _ _ _ hR ⟨PB, hne, hv, hb⟩ => ⟨PB, hne, hv, hb.grown hR (some_ne hne)⟩, fun _ _ _ _ h => h, fun _ _ _ _ h => h, fun _ _ _ _ h => h, fun _ _ _ _ h => h, fun _ _ _ _ h => h, fun _ _ _ _ h => h, fun _ _ _ _ h => h, fun _ _ _ _ h => h, fun _ _ _ _ h => h, fun _ _ _ _ h => h, fun _ _ _ _ h => h, fun _ _ _ _ h => h, fun _ _ _ _ h => h, fun _ _ _ hR ⟨PB, hne, hv, hb⟩ => ⟨PB, hne, hv, hb.grown hR (some_ne hne)⟩, fun _ _ _ _ h => h, fun _ _ _ _ h => h, fun _ _ _ _ h => h, fun _ _ _ _ h => h, fun _ _ _ _ h => h, fun _ _ _ _ h => h, fun _ _ _ _ h => h, fun _ _ _ _ h => h, fun _ _ _ _ h => h, fun _ _ _ _ h => h, fun _ _ _ _ h => h, fun _ _ _ _ h => h, fun _ _ _ _ h => h, fun _ _ _ _ h => h, fun _ _ _ hR ⟨PB, hne, hv, hb⟩ => ⟨PB, hne, hv, hb.grown hR (some_ne hne)⟩, fun _ _ _ _ h => h, fun _ _ _ _ h => h, fun _ _ _ _ h => h, trivial⟩) d u w w' hR h
set_option maxRecDepth 100000 in
set_option maxHeartbeats 4000000 in
theorem sq_any (x0 x1 x2 x3 x4 : Int) (w : World) (a0 : 0 ≤ x0) (c0 : x0 < 18446744073709551616) (a1 : 0 ≤ x1) (c1 : x1 < 18446744073709551616) (a2 : 0 ≤ x2) (c2 : x2 < 18446744073709551616) (a3 : 0 ≤ x3) (c3 : x3 < 18446744073709551616) (a4 : 0 ≤ x4) (c4 : x4 < 18446744073709551616) :
  Calls Tryz.prog 77 #[.agg #[.int .u64 x0, .int .u64 x1, .int .u64 x2, .int .u64 x3, .int .u64 x4]] w (FeOut (Fe.sqF ⟨x0, x1, x2, x3, x4⟩) w) := by
 obtain ⟨z0, hz0⟩ : ∃ z, IntKind.u64.wrap (2 * x0) = z := ⟨_, rfl⟩
 have pz0 : 0 ≤ z0 := by rw [← hz0, wrapw]; unfold Fe.w64; omega
 have qz0 : z0 < 18446744073709551616 := by rw [← hz0, wrapw]; unfold Fe.w64; omega
 obtain ⟨z1, hz1⟩ : ∃ z, IntKind.u64.wrap (2 * x1) = z := ⟨_, rfl⟩
 have pz1 : 0 ≤ z1 := by rw [← hz1, wrapw]; unfold Fe.w64; omega
 have qz1 : z1 < 18446744073709551616 := by rw [← hz1, wrapw]; unfold Fe.w64; omega
 obtain ⟨z2, hz2⟩ : ∃ z, IntKind.u64.wrap (19 * x3) = z := ⟨_, rfl⟩
 have pz2 : 0 ≤ z2 := by rw [← hz2, wrapw]; unfold Fe.w64; omega
 have qz2 : z2 < 18446744073709551616 := by rw [← hz2, wrapw]; unfold Fe.w64; omega
 obtain ⟨z3, hz3⟩ : ∃ z, IntKind.u64.wrap (19 * x4) = z := ⟨_, rfl⟩
 have pz3 : 0 ≤ z3 := by rw [← hz3, wrapw]; unfold Fe.w64; omega
 have qz3 : z3 < 18446744073709551616 := by rw [← hz3, wrapw]; unfold Fe.w64; omega
 obtain ⟨z4, hz4⟩ : ∃ z, IntKind.u64.wrap (2 * x2) = z := ⟨_, rfl⟩
 have pz4 : 0 ≤ z4 := by rw [← hz4, wrapw]; unfold Fe.w64; omega
 have qz4 : z4 < 18446744073709551616 := by rw [← hz4, wrapw]; unfold Fe.w64; omega
 obtain ⟨z5, hz5⟩ : ∃ z, IntKind.u64.wrap (2 * x3) = z := ⟨_, rfl⟩
 have pz5 : 0 ≤ z5 := by rw [← hz5, wrapw]; unfold Fe.w64; omega
 have qz5 : z5 < 18446744073709551616 := by rw [← hz5, wrapw]; unfold Fe.w64; omega
 obtain ⟨S0, hS0⟩ : ∃ S, sumL [(x0, x0), (z1, z3), (z4, z2)] = S := ⟨_, rfl⟩
 obtain ⟨S1, hS1⟩ : ∃ S, sumL [(z0, x1), (z4, z3), (x3, z2)] = S := ⟨_, rfl⟩
 obtain ⟨S2, hS2⟩ : ∃ S, sumL [(z0, x2), (x1, x1), (z5, z3)] = S := ⟨_, rfl⟩
 obtain ⟨S3, hS3⟩ : ∃ S, sumL [(z0, x3), (z1, x2), (x4, z3)] = S := ⟨_, rfl⟩
 obtain ⟨S4, hS4⟩ : ∃ S, sumL [(z0, x4), (z1, x3), (x2, x2)] = S := ⟨_, rfl⟩
 obtain ⟨r, hr⟩ : ∃ r, r = Fe.joinF S0 S1 S2 S3 S4 := ⟨_, rfl⟩
 have HS0 := Lib.hid hS0; clear hS0
 have HS1 := Lib.hid hS1; clear hS1
 have HS2 := Lib.hid hS2; clear hS2
 have HS3 := Lib.hid hS3; clear hS3
 have HS4 := Lib.hid hS4; clear hS4
 have Hr := Lib.hid hr; clear hr
 have iS0 : Is128 S0 := by rw [← HS0.out]; exact ⟨(sumL_bd _).1, (sumL_bd _).2⟩
 have iS1 : Is128 S1 := by rw [← HS1.out]; exact ⟨(sumL_bd _).1, (sumL_bd _).2⟩
 have iS2 : Is128 S2 := by rw [← HS2.out]; exact ⟨(sumL_bd _).1, (sumL_bd _).2⟩
 have iS3 : Is128 S3 := by rw [← HS3.out]; exact ⟨(sumL_bd _).1, (sumL_bd _).2⟩
 have iS4 : Is128 S4 := by rw [← HS4.out]; exact ⟨(sumL_bd _).1, (sumL_bd _).2⟩
 have Hz0 := Lib.hid hz0; clear hz0
 have Hz1 := Lib.hid hz1; clear hz1
 have Hz2 := Lib.hid hz2; clear hz2
 have Hz3 := Lib.hid hz3; clear hz3
 have Hz4 := Lib.hid hz4; clear hz4
 have Hz5 := Lib.hid hz5; clear hz5
 go_enter Tryz.func77, Tryz.ntmps77
 have hB0 : sqB w w.heap.size (w.heap.size + 1) x0 x1 x2 x3 x4 ((w.alloc (.cells #[.int .u64 x0, .int .u64 x1, .int .u64 x2, .int .u64 x3, .int .u64 x4] 34)).alloc (.cells #[.int .u64 0, .int .u64 0, .int .u64 0, .int .u64 0, .int .u64 0] 34)) :=
  ⟨(Blk.new w [.int .u64 x0, .int .u64 x1, .int .u64 x2, .int .u64 x3, .int .u64 x4] _).alloc _, ⟨_, _, _, _, _, Blk.newAt _ [.int .u64 0, .int .u64 0, .int .u64 0, .int .u64 0, .int .u64 0] _ (by simp)⟩, gb_alloc (gb_alloc (gb_refl _ _) _) _, by omega, by omega⟩
 go_wp2
 go_quiet (fail)
 go_wp2
 go_quiet (fail)
 go_wp2
 refine wp_region_flow (sqAt w.heap.size (w.heap.size + 1) x0 x1 x2 x3 x4 z0 z1 z2 z3 z4 z5 S0 S1 S2 S3 S4 r) (fun _ w' => Blk w' (w.heap.size + 1) 34 [.int .u64 r.x0, .int .u64 r.x1, .int .u64 r.x2, .int .u64 r.x3, .int .u64 r.x4])
  (sqB w w.heap.size (w.heap.size + 1) x0 x1 x2 x3 x4) (fun w' w'' => w'.grownBy w'' none ∨ (w'.grownBy w'' (some (w.heap.size + 1)) ∧ Blk w'' (w.heap.size + 1) 34 [.int .u64 r.x0, .int .u64 r.x1, .int .u64 r.x2, .int .u64 r.x3, .int .u64 r.x4])) (by kernel_rfl) (by kernel_rfl) (by kernel_rfl) (((hB0.grown (gb_drewN (gb_refl _ none) _)).grown (gb_drewN (gb_refl _ none) _)).grown (gb_drew (gb_refl _ none))) ?_ ?_ ?_ ?_
 ·exact fun d u w1 w2 hR h => sq_stable _ _ _ _ _ _ _ _ _ _ _ _ _ _ _ _ _ _ r d u w1 w2 (hR.elim (fun h => gb_row h _) (fun h => h.1)) h
 ·exact fun j w1 w2 hR h => hR.elim (fun hg => h.grown hg (by simp)) (fun h => h.2)
 ·clear hB0
  generalize w.heap.size = A
  generalize eR : A + 1 = R
  refine ⟨flow_value rfl rfl fun a w h => ?_, ?_⟩
  ·have e1 : _ = Value.pointer (some ⟨A, 0, none⟩) := h.r 1
   refine ⟨.pointer (some ⟨A, 0, none⟩), w, ?_, h.base, Or.inl (gb_refl _ _), rfl⟩
   clear h
   simp only [execOp, Act.eval, e1]
   go_simp
  refine ⟨flow_value rfl rfl fun a w h => ?_, ?_⟩
  ·have e19 : _ = Value.pointer (some ⟨A, 0, none⟩) := h.d 19
   have c := h.base.a.cell (i := 0) rfl
   refine ⟨.int .u64 x0, w, ?_, h.base, Or.inl (gb_refl _ _), rfl⟩
   clear h
   simp only [execOp, Act.eval, e19]
   go_simp
  refine ⟨flow_value rfl rfl fun a w h => ?_, ?_⟩
  ·have e1 : _ = Value.pointer (some ⟨A, 0, none⟩) := h.r 1
   refine ⟨.pointer (some ⟨A, 0, none⟩), w, ?_, h.base, Or.inl (gb_refl _ _), rfl⟩
   clear h
   simp only [execOp, Act.eval, e1]
   go_simp
  refine ⟨flow_value rfl rfl fun a w h => ?_, ?_⟩
  ·have e21 : _ = Value.pointer (some ⟨A, 0, none⟩) := h.d 21
   have c := h.base.a.cell (i := 0) rfl
   refine ⟨.int .u64 x0, w, ?_, h.base, Or.inl (gb_refl _ _), rfl⟩
   clear h
   simp only [execOp, Act.eval, e21]
   go_simp
  refine ⟨flow_value rfl rfl fun a w h => ?_, ?_⟩
  ·have e20 : _ = Value.int .u64 x0 := h.d 20
   have e22 : _ = Value.int .u64 x0 := h.d 22
   refine ⟨.agg #[.int .u64 x0, .int .u64 x0], w, ?_, h.base, Or.inl (gb_refl _ _), rfl⟩
   clear h
   simp only [execOp, List.map_toArray, List.map_cons, List.map_nil, Act.eval, e20, e22]
   go_simp
  refine ⟨flow_value rfl rfl fun a w h => ?_, ?_⟩
  ·have e4 : a.tmps.getD 4 undef = .int .u64 z1 := (h.rest 4 (by kernel_rfl)).trans (congrArg (Value.int .u64) Hz1.out)
   refine ⟨.int .u64 z1, w, ?_, h.base, Or.inl (gb_refl _ _), rfl⟩
   clear h
   simp only [execOp, Act.eval, e4]
   go_simp
  refine ⟨flow_value rfl rfl fun a w h => ?_, ?_⟩
  ·have e6 : a.tmps.getD 6 undef = .int .u64 z3 := (h.rest 6 (by kernel_rfl)).trans (congrArg (Value.int .u64) Hz3.out)
   refine ⟨.int .u64 z3, w, ?_, h.base, Or.inl (gb_refl _ _), rfl⟩
   clear h
   simp only [execOp, Act.eval, e6]
   go_simp
  refine ⟨flow_value rfl rfl fun a w h => ?_, ?_⟩
  ·have e24 : _ = Value.int .u64 z1 := h.d 24
   have e25 : _ = Value.int .u64 z3 := h.d 25
   refine ⟨.agg #[.int .u64 z1, .int .u64 z3], w, ?_, h.base, Or.inl (gb_refl _ _), rfl⟩
   clear h
   simp only [execOp, List.map_toArray, List.map_cons, List.map_nil, Act.eval, e24, e25]
   go_simp
  refine ⟨flow_value rfl rfl fun a w h => ?_, ?_⟩
  ·have e1 : _ = Value.pointer (some ⟨A, 0, none⟩) := h.r 1
   refine ⟨.pointer (some ⟨A, 2, none⟩), w, ?_, h.base, Or.inl (gb_refl _ _), rfl⟩
   clear h
   simp only [execOp, Act.eval, e1]
   go_simp
  refine ⟨flow_value rfl rfl fun a w h => ?_, ?_⟩
  ·have e27 : _ = Value.pointer (some ⟨A, 2, none⟩) := h.d 27
   have c := h.base.a.cell (i := 2) rfl
   refine ⟨.int .u64 x2, w, ?_, h.base, Or.inl (gb_refl _ _), rfl⟩
   clear h
   simp only [execOp, Act.eval, e27]
   go_simp
  refine ⟨flow_value rfl rfl fun a w h => ?_, ?_⟩
  ·have e28 : _ = Value.int .u64 x2 := h.d 28
   refine ⟨.int .u64 (IntKind.u64.wrap (2 * x2)), w, ?_, h.base, Or.inl (gb_refl _ _), congrArg (Value.int .u64) Hz4.out⟩
   clear h
   simp only [execOp, Act.eval, e28]
   go_simp
  refine ⟨flow_value rfl rfl fun a w h => ?_, ?_⟩
  ·have e5 : a.tmps.getD 5 undef = .int .u64 z2 := (h.rest 5 (by kernel_rfl)).trans (congrArg (Value.int .u64) Hz2.out)
   refine ⟨.int .u64 z2, w, ?_, h.base, Or.inl (gb_refl _ _), rfl⟩
   clear h
   simp only [execOp, Act.eval, e5]
   go_simp
  refine ⟨flow_value rfl rfl fun a w h => ?_, ?_⟩
  ·have e29 : _ = Value.int .u64 z4 := h.d 29
   have e30 : _ = Value.int .u64 z2 := h.d 30
   refine ⟨.agg #[.int .u64 z4, .int .u64 z2], w, ?_, h.base, Or.inl (gb_refl _ _), rfl⟩
   clear h
   simp only [execOp, List.map_toArray, List.map_cons, List.map_nil, Act.eval, e29, e30]
   go_simp
  refine ⟨flow_value rfl rfl fun a w h => ?_, ?_⟩
  ·have e23 : _ = Value.agg #[.int .u64 x0, .int .u64 x0] := h.d 23
   have e26 : _ = Value.agg #[.int .u64 z1, .int .u64 z3] := h.d 26
   have e31 : _ = Value.agg #[.int .u64 z4, .int .u64 z2] := h.d 31
   obtain ⟨_, _, _, _, _, hr5⟩ := h.base.r
   have hs := hr5.lt
   refine ⟨.slice (some ⟨w.heap.size, 0, none⟩) 3 3, w.alloc (.cells #[.int .u64 x0, .int .u64 x0, .int .u64 z1, .int .u64 z3, .int .u64 z4, .int .u64 z2] 110), ?_, h.base.alloc _, Or.inl (World.grownBy_alloc _ _ _), ⟨w.heap.size, by omega, rfl, Blk.new w _ _⟩⟩
   clear h
   simp only [execOp, List.map_toArray, List.map_cons, List.map_nil, Act.eval, e23, e26, e31]
   go_simp
  refine ⟨flow_call rfl rfl fun a w h => ?_, ?_⟩
  ·obtain ⟨PB, hne, e32, hP⟩ : ∃ PB, PB ≠ R ∧ a.tmps.getD 32 undef = .slice (some ⟨PB, 0, none⟩) 3 3 ∧ Blk w PB 110 (flat [(x0, x0), (z1, z3), (z4, z2)]) := h.dep 32 (by kernel_rfl)
   have hb := h.base
   refine ⟨62, #[.slice (some ⟨PB, 0, none⟩) 3 3], ?_, ?_⟩
   ·clear h hb hP
    have e32x : a.tmps[32]?.getD undef = .slice (some ⟨PB, 0, none⟩) 3 3 := by simpa using e32
    clear e32
    go_simp
   ·refine (sumUp_any PB 3 _ w _ rfl (by decide) hP ?_).mono ?_
    ·intro p hp; simp only [List.mem_cons, List.not_mem_nil, or_false] at hp; rcases hp with rfl | rfl | rfl <;> exact ⟨by assumption, by assumption, by assumption, by assumption⟩
    ·rintro e w1 ⟨rfl, hg⟩; exact ⟨_, rfl, hb.grown hg, Or.inl hg, by show sumV _ = _; rw [HS0.out]; rfl⟩
  refine ⟨flow_value rfl rfl fun a w h => ?_, ?_⟩
  ·have e3 : a.tmps.getD 3 undef = .int .u64 z0 := (h.rest 3 (by kernel_rfl)).trans (congrArg (Value.int .u64) Hz0.out)
   refine ⟨.int .u64 z0, w, ?_, h.base, Or.inl (gb_refl _ _), rfl⟩
   clear h
   simp only [execOp, Act.eval, e3]
   go_simp
  refine ⟨flow_value rfl rfl fun a w h => ?_, ?_⟩
  ·have e1 : _ = Value.pointer (some ⟨A, 0, none⟩) := h.r 1
   refine ⟨.pointer (some ⟨A, 1, none⟩), w, ?_, h.base, Or.inl (gb_refl _ _), rfl⟩
   clear h
   simp only [execOp, Act.eval, e1]
   go_simp
  refine ⟨flow_value rfl rfl fun a w h => ?_, ?_⟩
  ·have e35 : _ = Value.pointer (some ⟨A, 1, none⟩) := h.d 35
   have c := h.base.a.cell (i := 1) rfl
   refine ⟨.int .u64 x1, w, ?_, h.base, Or.inl (gb_refl _ _), rfl⟩
   clear h
   simp only [execOp, Act.eval, e35]
   go_simp
  refine ⟨flow_value rfl rfl fun a w h => ?_, ?_⟩
  ·have e34 : _ = Value.int .u64 z0 := h.d 34
   have e36 : _ = Value.int .u64 x1 := h.d 36
   refine ⟨.agg #[.int .u64 z0, .int .u64 x1], w, ?_, h.base, Or.inl (gb_refl _ _), rfl⟩
   clear h
   simp only [execOp, List.map_toArray, List.map_cons, List.map_nil, Act.eval, e34, e36]
   go_simp
  refine ⟨flow_value rfl rfl fun a w h => ?_, ?_⟩
  ·have e1 : _ = Value.pointer (some ⟨A, 0, none⟩) := h.r 1
   refine ⟨.pointer (some ⟨A, 2, none⟩), w, ?_, h.base, Or.inl (gb_refl _ _), rfl⟩
   clear h
   simp only [execOp, Act.eval, e1]
   go_simp
  refine ⟨flow_value rfl rfl fun a w h => ?_, ?_⟩
  ·have e38 : _ = Value.pointer (some ⟨A, 2, none⟩) := h.d 38
   have c := h.base.a.cell (i := 2) rfl
   refine ⟨.int .u64 x2, w, ?_, h.base, Or.inl (gb_refl _ _), rfl⟩
   clear h
   simp only [execOp, Act.eval, e38]
   go_simp
  refine ⟨flow_value rfl rfl fun a w h => ?_, ?_⟩
  ·have e39 : _ = Value.int .u64 x2 := h.d 39
   refine ⟨.int .u64 (IntKind.u64.wrap (2 * x2)), w, ?_, h.base, Or.inl (gb_refl _ _), congrArg (Value.int .u64) Hz4.out⟩
   clear h
   simp only [execOp, Act.eval, e39]
   go_simp
  refine ⟨flow_value rfl rfl fun a w h => ?_, ?_⟩
  ·have e6 : a.tmps.getD 6 undef = .int .u64 z3 := (h.rest 6 (by kernel_rfl)).trans (congrArg (Value.int .u64) Hz3.out)
   refine ⟨.int .u64 z3, w, ?_, h.base, Or.inl (gb_refl _ _), rfl⟩
   clear h
   simp only [execOp, Act.eval, e6]
   go_simp
  refine ⟨flow_value rfl rfl fun a w h => ?_, ?_⟩
  ·have e40 : _ = Value.int .u64 z4 := h.d 40
   have e41 : _ = Value.int .u64 z3 := h.d 41
   refine ⟨.agg #[.int .u64 z4, .int .u64 z3], w, ?_, h.base, Or.inl (gb_refl _ _), rfl⟩
   clear h
   simp only [execOp, List.map_toArray, List.map_cons, List.map_nil, Act.eval, e40, e41]
   go_simp
  refine ⟨flow_value rfl rfl fun a w h => ?_, ?_⟩
  ·have e1 : _ = Value.pointer (some ⟨A, 0, none⟩) := h.r 1
   refine ⟨.pointer (some ⟨A, 3, none⟩), w, ?_, h.base, Or.inl (gb_refl _ _), rfl⟩
   clear h
   simp only [execOp, Act.eval, e1]
   go_simp
  refine ⟨flow_value rfl rfl fun a w h => ?_, ?_⟩
  ·have e43 : _ = Value.pointer (some ⟨A, 3, none⟩) := h.d 43
   have c := h.base.a.cell (i := 3) rfl
   refine ⟨.int .u64 x3, w, ?_, h.base, Or.inl (gb_refl _ _), rfl⟩
   clear h
   simp only [execOp, Act.eval, e43]
   go_simp
  refine ⟨flow_value rfl rfl fun a w h => ?_, ?_⟩
  ·have e5 : a.tmps.getD 5 undef = .int .u64 z2 := (h.rest 5 (by kernel_rfl)).trans (congrArg (Value.int .u64) Hz2.out)
   refine ⟨.int .u64 z2, w, ?_, h.base, Or.inl (gb_refl _ _), rfl⟩
   clear h
   simp only [execOp, Act.eval, e5]
   go_simp
  refine ⟨flow_value rfl rfl fun a w h => ?_, ?_⟩
  ·have e44 : _ = Value.int .u64 x3 := h.d 44
   have e45 : _ = Value.int .u64 z2 := h.d 45
   refine ⟨.agg #[.int .u64 x3, .int .u64 z2], w, ?_, h.base, Or.inl (gb_refl _ _), rfl⟩
   clear h
   simp only [execOp, List.map_toArray, List.map_cons, List.map_nil, Act.eval, e44, e45]
   go_simp
  refine ⟨flow_value rfl rfl fun a w h => ?_, ?_⟩
  ·have e37 : _ = Value.agg #[.int .u64 z0, .int .u64 x1] := h.d 37
   have e42 : _ = Value.agg #[.int .u64 z4, .int .u64 z3] := h.d 42
   have e46 : _ = Value.agg #[.int .u64 x3, .int .u64 z2] := h.d 46
   obtain ⟨_, _, _, _, _, hr5⟩ := h.base.r
   have hs := hr5.lt
   refine ⟨.slice (some ⟨w.heap.size, 0, none⟩) 3 3, w.alloc (.cells #[.int .u64 z0, .int .u64 x1, .int .u64 z4, .int .u64 z3, .int .u64 x3, .int .u64 z2] 110), ?_, h.base.alloc _, Or.inl (World.grownBy_alloc _ _ _), ⟨w.heap.size, by omega, rfl, Blk.new w _ _⟩⟩
   clear h
   simp only [execOp, List.map_toArray, List.map_cons, List.map_nil, Act.eval, e37, e42, e46]
   go_simp
  refine ⟨flow_call rfl rfl fun a w h => ?_, ?_⟩
  ·obtain ⟨PB, hne, e47, hP⟩ : ∃ PB, PB ≠ R ∧ a.tmps.getD 47 undef = .slice (some ⟨PB, 0, none⟩) 3 3 ∧ Blk w PB 110 (flat [(z0, x1), (z4, z3), (x3, z2)]) := h.dep 47 (by kernel_rfl)
   have hb := h.base
   refine ⟨62, #[.slice (some ⟨PB, 0, none⟩) 3 3], ?_, ?_⟩
   ·clear h hb hP
    have e47x : a.tmps[47]?.getD undef = .slice (some ⟨PB, 0, none⟩) 3 3 := by simpa using e47
    clear e47
    go_simp
   ·refine (sumUp_any PB 3 _ w _ rfl (by decide) hP ?_).mono ?_
    ·intro p hp; simp only [List.mem_cons, List.not_mem_nil, or_false] at hp; rcases hp with rfl | rfl | rfl <;> exact ⟨by assumption, by assumption, by assumption, by assumption⟩
    ·rintro e w1 ⟨rfl, hg⟩; exact ⟨_, rfl, hb.grown hg, Or.inl hg, by show sumV _ = _; rw [HS1.out]; rfl⟩
  refine ⟨flow_value rfl rfl fun a w h => ?_, ?_⟩
  ·have e3 : a.tmps.getD 3 undef = .int .u64 z0 := (h.rest 3 (by kernel_rfl)).trans (congrArg (Value.int .u64) Hz0.out)
   refine ⟨.int .u64 z0, w, ?_, h.base, Or.inl (gb_refl _ _), rfl⟩
   clear h
   simp only [execOp, Act.eval, e3]
   go_simp
  refine ⟨flow_value rfl rfl fun a w h => ?_, ?_⟩
  ·have e1 : _ = Value.pointer (some ⟨A, 0, none⟩) := h.r 1
   refine ⟨.pointer (some ⟨A, 2, none⟩), w, ?_, h.base, Or.inl (gb_refl _ _), rfl⟩
   clear h
   simp only [execOp, Act.eval, e1]
   go_simp
  refine ⟨flow_value rfl rfl fun a w h => ?_, ?_⟩
  ·have e50 : _ = Value.pointer (some ⟨A, 2, none⟩) := h.d 50
   have c := h.base.a.cell (i := 2) rfl
   refine ⟨.int .u64 x2, w, ?_, h.base, Or.inl (gb_refl _ _), rfl⟩
   clear h
   simp only [execOp, Act.eval, e50]
   go_simp
  refine ⟨flow_value rfl rfl fun a w h => ?_, ?_⟩
  ·have e49 : _ = Value.int .u64 z0 := h.d 49
   have e51 : _ = Value.int .u64 x2 := h.d 51
   refine ⟨.agg #[.int .u64 z0, .int .u64 x2], w, ?_, h.base, Or.inl (gb_refl _ _), rfl⟩
   clear h
   simp only [execOp, List.map_toArray, List.map_cons, List.map_nil, Act.eval, e49, e51]
   go_simp
  refine ⟨flow_value rfl rfl fun a w h => ?_, ?_⟩
  ·have e1 : _ = Value.pointer (some ⟨A, 0, none⟩) := h.r 1
   refine ⟨.pointer (some ⟨A, 1, none⟩), w, ?_, h.base, Or.inl (gb_refl _ _), rfl⟩
   clear h
   simp only [execOp, Act.eval, e1]
   go_simp
  refine ⟨flow_value rfl rfl fun a w h => ?_, ?_⟩
  ·have e53 : _ = Value.pointer (some ⟨A, 1, none⟩) := h.d 53
   have c := h.base.a.cell (i := 1) rfl
   refine ⟨.int .u64 x1, w, ?_, h.base, Or.inl (gb_refl _ _), rfl⟩
   clear h
   simp only [execOp, Act.eval, e53]
   go_simp
  refine ⟨flow_value rfl rfl fun a w h => ?_, ?_⟩
  ·have e1 : _ = Value.pointer (some ⟨A, 0, none⟩) := h.r 1
   refine ⟨.pointer (some ⟨A, 1, none⟩), w, ?_, h.base, Or.inl (gb_refl _ _), rfl⟩
   clear h
   simp only [execOp, Act.eval, e1]
   go_simp
  refine ⟨flow_value rfl rfl fun a w h => ?_, ?_⟩
  ·have e55 : _ = Value.pointer (some ⟨A, 1, none⟩) := h.d 55
   have c := h.base.a.cell (i := 1) rfl
   refine ⟨.int .u64 x1, w, ?_, h.base, Or.inl (gb_refl _ _), rfl⟩
   clear h
   simp only [execOp, Act.eval, e55]
   go_simp
  refine ⟨flow_value rfl rfl fun a w h => ?_, ?_⟩
  ·have e54 : _ = Value.int .u64 x1 := h.d 54
   have e56 : _ = Value.int .u64 x1 := h.d 56
   refine ⟨.agg #[.int .u64 x1, .int .u64 x1], w, ?_, h.base, Or.inl (gb_refl _ _), rfl⟩
   clear h
   simp only [execOp, List.map_toArray, List.map_cons, List.map_nil, Act.eval, e54, e56]
   go_simp
  refine ⟨flow_value rfl rfl fun a w h => ?_, ?_⟩
  ·have e1 : _ = Value.pointer (some ⟨A, 0, none⟩) := h.r 1
   refine ⟨.pointer (some ⟨A, 3, none⟩), w, ?_, h.base, Or.inl (gb_refl _ _), rfl⟩
   clear h
   simp only [execOp, Act.eval, e1]
   go_simp
  refine ⟨flow_value rfl rfl fun a w h => ?_, ?_⟩
  ·have e58 : _ = Value.pointer (some ⟨A, 3, none⟩) := h.d 58
   have c := h.base.a.cell (i := 3) rfl
   refine ⟨.int .u64 x3, w, ?_, h.base, Or.inl (gb_refl _ _), rfl⟩
   clear h
   simp only [execOp, Act.eval, e58]
   go_simp
  refine ⟨flow_value rfl rfl fun a w h => ?_, ?_⟩
  ·have e59 : _ = Value.int .u64 x3 := h.d 59
   refine ⟨.int .u64 (IntKind.u64.wrap (2 * x3)), w, ?_, h.base, Or.inl (gb_refl _ _), congrArg (Value.int .u64) Hz5.out⟩
   clear h
   simp only [execOp, Act.eval, e59]
   go_simp
  refine ⟨flow_value rfl rfl fun a w h => ?_, ?_⟩
  ·have e6 : a.tmps.getD 6 undef = .int .u64 z3 := (h.rest 6 (by kernel_rfl)).trans (congrArg (Value.int .u64) Hz3.out)
   refine ⟨.int .u64 z3, w, ?_, h.base, Or.inl (gb_refl _ _), rfl⟩
   clear h
   simp only [execOp, Act.eval, e6]
   go_simp
  refine ⟨flow_value rfl rfl fun a w h => ?_, ?_⟩
  ·have e60 : _ = Value.int .u64 z5 := h.d 60
   have e61 : _ = Value.int .u64 z3 := h.d 61
   refine ⟨.agg #[.int .u64 z5, .int .u64 z3], w, ?_, h.base, Or.inl (gb_refl _ _), rfl⟩
   clear h
   simp only [execOp, List.map_toArray, List.map_cons, List.map_nil, Act.eval, e60, e61]
   go_simp
  refine ⟨flow_value rfl rfl fun a w h => ?_, ?_⟩
  ·have e52 : _ = Value.agg #[.int .u64 z0, .int .u64 x2] := h.d 52
   have e57 : _ = Value.agg #[.int .u64 x1, .int .u64 x1] := h.d 57
   have e62 : _ = Value.agg #[.int .u64 z5, .int .u64 z3] := h.d 62
   obtain ⟨_, _, _, _, _, hr5⟩ := h.base.r
   have hs := hr5.lt
   refine ⟨.slice (some ⟨w.heap.size, 0, none⟩) 3 3, w.alloc (.cells #[.int .u64 z0, .int .u64 x2, .int .u64 x1, .int .u64 x1, .int .u64 z5, .int .u64 z3] 110), ?_, h.base.alloc _, Or.inl (World.grownBy_alloc _ _ _), ⟨w.heap.size, by omega, rfl, Blk.new w _ _⟩⟩
   clear h
   simp only [execOp, List.map_toArray, List.map_cons, List.map_nil, Act.eval, e52, e57, e62]
   go_simp
  refine ⟨flow_call rfl rfl fun a w h => ?_, ?_⟩
  ·obtain ⟨PB, hne, e63, hP⟩ : ∃ PB, PB ≠ R ∧ a.tmps.getD 63 undef = .slice (some ⟨PB, 0, none⟩) 3 3 ∧ Blk w PB 110 (flat [(z0, x2), (x1, x1), (z5, z3)]) := h.dep 63 (by kernel_rfl)
   have hb := h.base
   refine ⟨62, #[.slice (some ⟨PB, 0, none⟩) 3 3], ?_, ?_⟩
   ·clear h hb hP
    have e63x : a.tmps[63]?.getD undef = .slice (some ⟨PB, 0, none⟩) 3 3 := by simpa using e63
    clear e63
    go_simp
   ·refine (sumUp_any PB 3 _ w _ rfl (by decide) hP ?_).mono ?_
    ·intro p hp; simp only [List.mem_cons, List.not_mem_nil, or_false] at hp; rcases hp with rfl | rfl | rfl <;> exact ⟨by assumption, by assumption, by assumption, by assumption⟩
    ·rintro e w1 ⟨rfl, hg⟩; exact ⟨_, rfl, hb.grown hg, Or.inl hg, by show sumV _ = _; rw [HS2.out]; rfl⟩
  refine ⟨flow_value rfl rfl fun a w h => ?_, ?_⟩
  ·have e3 : a.tmps.getD 3 undef = .int .u64 z0 := (h.rest 3 (by kernel_rfl)).trans (congrArg (Value.int .u64) Hz0.out)
   refine ⟨.int .u64 z0, w, ?_, h.base, Or.inl (gb_refl _ _), rfl⟩
   clear h
   simp only [execOp, Act.eval, e3]
   go_simp
  refine ⟨flow_value rfl rfl fun a w h => ?_, ?_⟩
  ·have e1 : _ = Value.pointer (some ⟨A, 0, none⟩) := h.r 1
   refine ⟨.pointer (some ⟨A, 3, none⟩), w, ?_, h.base, Or.inl (gb_refl _ _), rfl⟩
   clear h
   simp only [execOp, Act.eval, e1]
   go_simp
  refine ⟨flow_value rfl rfl fun a w h => ?_, ?_⟩
  ·have e66 : _ = Value.pointer (some ⟨A, 3, none⟩) := h.d 66
   have c := h.base.a.cell (i := 3) rfl
   refine ⟨.int .u64 x3, w, ?_, h.base, Or.inl (gb_refl _ _), rfl⟩
   clear h
   simp only [execOp, Act.eval, e66]
   go_simp
  refine ⟨flow_value rfl rfl fun a w h => ?_, ?_⟩
  ·have e65 : _ = Value.int .u64 z0 := h.d 65
   have e67 : _ = Value.int .u64 x3 := h.d 67
   refine ⟨.agg #[.int .u64 z0, .int .u64 x3], w, ?_, h.base, Or.inl (gb_refl _ _), rfl⟩
   clear h
   simp only [execOp, List.map_toArray, List.map_cons, List.map_nil, Act.eval, e65, e67]
   go_simp
  refine ⟨flow_value rfl rfl fun a w h => ?_, ?_⟩
  ·have e4 : a.tmps.getD 4 undef = .int .u64 z1 := (h.rest 4 (by kernel_rfl)).trans (congrArg (Value.int .u64) Hz1.out)
   refine ⟨.int .u64 z1, w, ?_, h.base, Or.inl (gb_refl _ _), rfl⟩
   clear h
   simp only [execOp, Act.eval, e4]
   go_simp
  refine ⟨flow_value rfl rfl fun a w h => ?_, ?_⟩
  ·have e1 : _ = Value.pointer (some ⟨A, 0, none⟩) := h.r 1
   refine ⟨.pointer (some ⟨A, 2, none⟩), w, ?_, h.base, Or.inl (gb_refl _ _), rfl⟩
   clear h
   simp only [execOp, Act.eval, e1]
   go_simp
  refine ⟨flow_value rfl rfl fun a w h => ?_, ?_⟩
  ·have e70 : _ = Value.pointer (some ⟨A, 2, none⟩) := h.d 70
   have c := h.base.a.cell (i := 2) rfl
   refine ⟨.int .u64 x2, w, ?_, h.base, Or.inl (gb_refl _ _), rfl⟩
   clear h
   simp only [execOp, Act.eval, e70]
   go_simp
  refine ⟨flow_value rfl rfl fun a w h => ?_, ?_⟩
  ·have e69 : _ = Value.int .u64 z1 := h.d 69
   have e71 : _ = Value.int .u64 x2 := h.d 71
   refine ⟨.agg #[.int .u64 z1, .int .u64 x2], w, ?_, h.base, Or.inl (gb_refl _ _), rfl⟩
   clear h
   simp only [execOp, List.map_toArray, List.map_cons, List.map_nil, Act.eval, e69, e71]
   go_simp
  refine ⟨flow_value rfl rfl fun a w h => ?_, ?_⟩
  ·have e1 : _ = Value.pointer (some ⟨A, 0, none⟩) := h.r 1
   refine ⟨.pointer (some ⟨A, 4, none⟩), w, ?_, h.base, Or.inl (gb_refl _ _), rfl⟩
   clear h
   simp only [execOp, Act.eval, e1]
   go_simp
  refine ⟨flow_value rfl rfl fun a w h => ?_, ?_⟩
  ·have e73 : _ = Value.pointer (some ⟨A, 4, none⟩) := h.d 73
   have c := h.base.a.cell (i := 4) rfl
   refine ⟨.int .u64 x4, w, ?_, h.base, Or.inl (gb_refl _ _), rfl⟩
   clear h
   simp only [execOp, Act.eval, e73]
   go_simp
  refine ⟨flow_value rfl rfl fun a w h => ?_, ?_⟩
  ·have e6 : a.tmps.getD 6 undef = .int .u64 z3 := (h.rest 6 (by kernel_rfl)).trans (congrArg (Value.int .u64) Hz3.out)
   refine ⟨.int .u64 z3, w, ?_, h.base, Or.inl (gb_refl _ _), rfl⟩
   clear h
   simp only [execOp, Act.eval, e6]
   go_simp
  refine ⟨flow_value rfl rfl fun a w h => ?_, ?_⟩
  ·have e74 : _ = Value.int .u64 x4 := h.d 74
   have e75 : _ = Value.int .u64 z3 := h.d 75
   refine ⟨.agg #[.int .u64 x4, .int .u64 z3], w, ?_, h.base, Or.inl (gb_refl _ _), rfl⟩
   clear h
   simp only [execOp, List.map_toArray, List.map_cons, List.map_nil, Act.eval, e74, e75]
   go_simp
  refine ⟨flow_value rfl rfl fun a w h => ?_, ?_⟩
  ·have e68 : _ = Value.agg #[.int .u64 z0, .int .u64 x3] := h.d 68
   have e72 : _ = Value.agg #[.int .u64 z1, .int .u64 x2] := h.d 72
   have e76 : _ = Value.agg #[.int .u64 x4, .int .u64 z3] := h.d 76
   obtain ⟨_, _, _, _, _, hr5⟩ := h.base.r
   have hs := hr5.lt
   refine ⟨.slice (some ⟨w.heap.size, 0, none⟩) 3 3, w.alloc (.cells #[.int .u64 z0, .int .u64 x3, .int .u64 z1, .int .u64 x2, .int .u64 x4, .int .u64 z3] 110), ?_, h.base.alloc _, Or.inl (World.grownBy_alloc _ _ _), ⟨w.heap.size, by omega, rfl, Blk.new w _ _⟩⟩
   clear h
   simp only [execOp, List.map_toArray, List.map_cons, List.map_nil, Act.eval, e68, e72, e76]
   go_simp
  refine ⟨flow_call rfl rfl fun a w h => ?_, ?_⟩
  ·obtain ⟨PB, hne, e77, hP⟩ : ∃ PB, PB ≠ R ∧ a.tmps.getD 77 undef = .slice (some ⟨PB, 0, none⟩) 3 3 ∧ Blk w PB 110 (flat [(z0, x3), (z1, x2), (x4, z3)]) := h.dep 77 (by kernel_rfl)
   have hb := h.base
   refine ⟨62, #[.slice (some ⟨PB, 0, none⟩) 3 3], ?_, ?_⟩
   ·clear h hb hP
    have e77x : a.tmps[77]?.getD undef = .slice (some ⟨PB, 0, none⟩) 3 3 := by simpa using e77
    clear e77
    go_simp
   ·refine (sumUp_any PB 3 _ w _ rfl (by decide) hP ?_).mono ?_
    ·intro p hp; simp only [List.mem_cons, List.not_mem_nil, or_false] at hp; rcases hp with rfl | rfl | rfl <;> exact ⟨by assumption, by assumption, by assumption, by assumption⟩
    ·rintro e w1 ⟨rfl, hg⟩; exact ⟨_, rfl, hb.grown hg, Or.inl hg, by show sumV _ = _; rw [HS3.out]; rfl⟩
  refine ⟨flow_value rfl rfl fun a w h => ?_, ?_⟩
  ·have e3 : a.tmps.getD 3 undef = .int .u64 z0 := (h.rest 3 (by kernel_rfl)).trans (congrArg (Value.int .u64) Hz0.out)
   refine ⟨.int .u64 z0, w, ?_, h.base, Or.inl (gb_refl _ _), rfl⟩
   clear h
   simp only [execOp, Act.eval, e3]
   go_simp
  refine ⟨flow_value rfl rfl fun a w h => ?_, ?_⟩
  ·have e1 : _ = Value.pointer (some ⟨A, 0, none⟩) := h.r 1
   refine ⟨.pointer (some ⟨A, 4, none⟩), w, ?_, h.base, Or.inl (gb_refl _ _), rfl⟩
   clear h
   simp only [execOp, Act.eval, e1]
   go_simp
  refine ⟨flow_value rfl rfl fun a w h => ?_, ?_⟩
  ·have e80 : _ = Value.pointer (some ⟨A, 4, none⟩) := h.d 80
   have c := h.base.a.cell (i := 4) rfl
   refine ⟨.int .u64 x4, w, ?_, h.base, Or.inl (gb_refl _ _), rfl⟩
   clear h
   simp only [execOp, Act.eval, e80]
   go_simp
  refine ⟨flow_value rfl rfl fun a w h => ?_, ?_⟩
  ·have e79 : _ = Value.int .u64 z0 := h.d 79
   have e81 : _ = Value.int .u64 x4 := h.d 81
   refine ⟨.agg #[.int .u64 z0, .int .u64 x4], w, ?_, h.base, Or.inl (gb_refl _ _), rfl⟩
   clear h
   simp only [execOp, List.map_toArray, List.map_cons, List.map_nil, Act.eval, e79, e81]
   go_simp
  refine ⟨flow_value rfl rfl fun a w h => ?_, ?_⟩
  ·have e4 : a.tmps.getD 4 undef = .int .u64 z1 := (h.rest 4 (by kernel_rfl)).trans (congrArg (Value.int .u64) Hz1.out)
   refine ⟨.int .u64 z1, w, ?_, h.base, Or.inl (gb_refl _ _), rfl⟩
   clear h
   simp only [execOp, Act.eval, e4]
   go_simp
  refine ⟨flow_value rfl rfl fun a w h => ?_, ?_⟩
  ·have e1 : _ = Value.pointer (some ⟨A, 0, none⟩) := h.r 1
   refine ⟨.pointer (some ⟨A, 3, none⟩), w, ?_, h.base, Or.inl (gb_refl _ _), rfl⟩
   clear h
   simp only [execOp, Act.eval, e1]
   go_simp
  refine ⟨flow_value rfl rfl fun a w h => ?_, ?_⟩
  ·have e84 : _ = Value.pointer (some ⟨A, 3, none⟩) := h.d 84
   have c := h.base.a.cell (i := 3) rfl
   refine ⟨.int .u64 x3, w, ?_, h.base, Or.inl (gb_refl _ _), rfl⟩
   clear h
   simp only [execOp, Act.eval, e84]
   go_simp
  refine ⟨flow_value rfl rfl fun a w h => ?_, ?_⟩
  ·have e83 : _ = Value.int .u64 z1 := h.d 83
   have e85 : _ = Value.int .u64 x3 := h.d 85
   refine ⟨.agg #[.int .u64 z1, .int .u64 x3], w, ?_, h.base, Or.inl (gb_refl _ _), rfl⟩
   clear h
   simp only [execOp, List.map_toArray, List.map_cons, List.map_nil, Act.eval, e83, e85]
   go_simp
  refine ⟨flow_value rfl rfl fun a w h => ?_, ?_⟩
  ·have e1 : _ = Value.pointer (some ⟨A, 0, none⟩) := h.r 1
   refine ⟨.pointer (some ⟨A, 2, none⟩), w, ?_, h.base, Or.inl (gb_refl _ _), rfl⟩
   clear h
   simp only [execOp, Act.eval, e1]
   go_simp
  refine ⟨flow_value rfl rfl fun a w h => ?_, ?_⟩
  ·have e87 : _ = Value.pointer (some ⟨A, 2, none⟩) := h.d 87
   have c := h.base.a.cell (i := 2) rfl
   refine ⟨.int .u64 x2, w, ?_, h.base, Or.inl (gb_refl _ _), rfl⟩
   clear h
   simp only [execOp, Act.eval, e87]
   go_simp
  refine ⟨flow_value rfl rfl fun a w h => ?_, ?_⟩
  ·have e1 : _ = Value.pointer (some ⟨A, 0, none⟩) := h.r 1
   refine ⟨.pointer (some ⟨A, 2, none⟩), w, ?_, h.base, Or.inl (gb_refl _ _), rfl⟩
   clear h
   simp only [execOp, Act.eval, e1]
   go_simp
  refine ⟨flow_value rfl rfl fun a w h => ?_, ?_⟩
  ·have e89 : _ = Value.pointer (some ⟨A, 2, none⟩) := h.d 89
   have c := h.base.a.cell (i := 2) rfl
   refine ⟨.int .u64 x2, w, ?_, h.base, Or.inl (gb_refl _ _), rfl⟩
   clear h
   simp only [execOp, Act.eval, e89]
   go_simp
  refine ⟨flow_value rfl rfl fun a w h => ?_, ?_⟩
  ·have e88 : _ = Value.int .u64 x2 := h.d 88
   have e90 : _ = Value.int .u64 x2 := h.d 90
   refine ⟨.agg #[.int .u64 x2, .int .u64 x2], w, ?_, h.base, Or.inl (gb_refl _ _), rfl⟩
   clear h
   simp only [execOp, List.map_toArray, List.map_cons, List.map_nil, Act.eval, e88, e90]
   go_simp
  refine ⟨flow_value rfl rfl fun a w h => ?_, ?_⟩
  ·have e82 : _ = Value.agg #[.int .u64 z0, .int .u64 x4] := h.d 82
   have e86 : _ = Value.agg #[.int .u64 z1, .int .u64 x3] := h.d 86
   have e91 : _ = Value.agg #[.int .u64 x2, .int .u64 x2] := h.d 91
   obtain ⟨_, _, _, _, _, hr5⟩ := h.base.r
   have hs := hr5.lt
   refine ⟨.slice (some ⟨w.heap.size, 0, none⟩) 3 3, w.alloc (.cells #[.int .u64 z0, .int .u64 x4, .int .u64 z1, .int .u64 x3, .int .u64 x2, .int .u64 x2] 110), ?_, h.base.alloc _, Or.inl (World.grownBy_alloc _ _ _), ⟨w.heap.size, by omega, rfl, Blk.new w _ _⟩⟩
   clear h
   simp only [execOp, List.map_toArray, List.map_cons, List.map_nil, Act.eval, e82, e86, e91]
   go_simp
  refine ⟨flow_call rfl rfl fun a w h => ?_, ?_⟩
  ·obtain ⟨PB, hne, e92, hP⟩ : ∃ PB, PB ≠ R ∧ a.tmps.getD 92 undef = .slice (some ⟨PB, 0, none⟩) 3 3 ∧ Blk w PB 110 (flat [(z0, x4), (z1, x3), (x2, x2)]) := h.dep 92 (by kernel_rfl)
   have hb := h.base
   refine ⟨62, #[.slice (some ⟨PB, 0, none⟩) 3 3], ?_, ?_⟩
   ·clear h hb hP
    have e92x : a.tmps[92]?.getD undef = .slice (some ⟨PB, 0, none⟩) 3 3 := by simpa using e92
    clear e92
    go_simp
   ·refine (sumUp_any PB 3 _ w _ rfl (by decide) hP ?_).mono ?_
    ·intro p hp; simp only [List.mem_cons, List.not_mem_nil, or_false] at hp; rcases hp with rfl | rfl | rfl <;> exact ⟨by assumption, by assumption, by assumption, by assumption⟩
    ·rintro e w1 ⟨rfl, hg⟩; exact ⟨_, rfl, hb.grown hg, Or.inl hg, by show sumV _ = _; rw [HS4.out]; rfl⟩
  refine ⟨flow_value rfl rfl fun a w h => ?_, ?_⟩
  ·have e33 : _ = Value.agg #[.int .u64 (S0 / 18446744073709551616), .int .u64 (S0 % 18446744073709551616)] := h.d 33
   have e48 : _ = Value.agg #[.int .u64 (S1 / 18446744073709551616), .int .u64 (S1 % 18446744073709551616)] := h.d 48
   have e64 : _ = Value.agg #[.int .u64 (S2 / 18446744073709551616), .int .u64 (S2 % 18446744073709551616)] := h.d 64
   have e78 : _ = Value.agg #[.int .u64 (S3 / 18446744073709551616), .int .u64 (S3 % 18446744073709551616)] := h.d 78
   have e93 : _ = Value.agg #[.int .u64 (S4 / 18446744073709551616), .int .u64 (S4 % 18446744073709551616)] := h.d 93
   refine ⟨.agg #[.int .u64 (S0 / 18446744073709551616), .int .u64 (S0 % 18446744073709551616), .int .u64 (S1 / 18446744073709551616), .int .u64 (S1 % 18446744073709551616), .int .u64 (S2 / 18446744073709551616), .int .u64 (S2 % 18446744073709551616), .int .u64 (S3 / 18446744073709551616), .int .u64 (S3 % 18446744073709551616), .int .u64 (S4 / 18446744073709551616), .int .u64 (S4 % 18446744073709551616)], w, ?_, h.base, Or.inl (gb_refl _ _), rfl⟩
   clear h
   simp only [execOp, List.map_toArray, List.map_cons, List.map_nil, Act.eval, e33, e48, e64, e78, e93]
   go_simp
  refine ⟨flow_call rfl rfl fun a w h => ?_, ?_⟩
  ·have e94 : _ = Value.agg #[.int .u64 (S0 / 18446744073709551616), .int .u64 (S0 % 18446744073709551616), .int .u64 (S1 / 18446744073709551616), .int .u64 (S1 % 18446744073709551616), .int .u64 (S2 / 18446744073709551616), .int .u64 (S2 % 18446744073709551616), .int .u64 (S3 / 18446744073709551616), .int .u64 (S3 % 18446744073709551616), .int .u64 (S4 / 18446744073709551616), .int .u64 (S4 % 18446744073709551616)] := h.d 94
   have hb := h.base
   refine ⟨61, #[.agg #[.int .u64 (S0 / 18446744073709551616), .int .u64 (S0 % 18446744073709551616), .int .u64 (S1 / 18446744073709551616), .int .u64 (S1 % 18446744073709551616), .int .u64 (S2 / 18446744073709551616), .int .u64 (S2 % 18446744073709551616), .int .u64 (S3 / 18446744073709551616), .int .u64 (S3 % 18446744073709551616), .int .u64 (S4 / 18446744073709551616), .int .u64 (S4 % 18446744073709551616)]], ?_, ?_⟩
   ·clear h hb
    have e94x : a.tmps[94]?.getD undef = .agg #[.int .u64 (S0 / 18446744073709551616), .int .u64 (S0 % 18446744073709551616), .int .u64 (S1 / 18446744073709551616), .int .u64 (S1 % 18446744073709551616), .int .u64 (S2 / 18446744073709551616), .int .u64 (S2 % 18446744073709551616), .int .u64 (S3 / 18446744073709551616), .int .u64 (S3 % 18446744073709551616), .int .u64 (S4 / 18446744073709551616), .int .u64 (S4 % 18446744073709551616)] := by simpa using e94
    clear e94
    go_simp
   ·refine (join_sums S0 S1 S2 S3 S4 w (by assumption) (by assumption) (by assumption) (by assumption) (by assumption)).mono ?_
    rintro e w1 ⟨rfl, hg⟩
    exact ⟨_, rfl, hb.grown hg, Or.inl hg, by show Fe.v _ = Fe.v _; rw [Hr.out]⟩
  refine ⟨flow_skip rfl rfl fun a w h => ?_, ?_⟩
  ·have e95 : _ = Value.agg #[.int .u64 r.x0, .int .u64 r.x1, .int .u64 r.x2, .int .u64 r.x3, .int .u64 r.x4] := h.d 95
   have e2 : _ = Value.pointer (some ⟨R, 0, none⟩) := h.r 2
   obtain ⟨u0, u1, u2, u3, u4, hR⟩ := h.base.r
   have c0r := hR.cell (i := 0) rfl; have f0r := hR.free 0
   have c1r := hR.cell (i := 1) rfl; have f1r := hR.free 1
   have c2r := hR.cell (i := 2) rfl; have f2r := hR.free 2
   have c3r := hR.cell (i := 3) rfl; have f3r := hR.free 3
   have c4r := hR.cell (i := 4) rfl; have f4r := hR.free 4
   refine ⟨_, ?_, h.base.set5 _ _ _ _ _, Or.inr ⟨gb_set (gb_set (gb_set (gb_set (gb_set (gb_refl _ _) _ _) _ _) _ _) _ _) _ _, h.base.r.set5 _ _ _ _ _⟩, h.base.r.set5 _ _ _ _ _⟩
   clear h
   simp only [execOp, Act.eval, e95, e2]
   go_simp
  trivial
 ·intro a w1 hB hsz hdf hrest hslots hmems
  have hM := hmems 77 _ rfl rfl
  have eR0 : a.tmps.getD 2 undef = .pointer (some ⟨(w.heap.size + 1), 0, none⟩) := hrest 2 (by kernel_rfl)
  have hg := hB.g
  clear hmems hslots hrest hB
  have eR1 : a.tmps[2]?.getD undef = .pointer (some ⟨(w.heap.size + 1), 0, none⟩) := by simpa using eR0
  have z0 := hM.cell (i := 0) rfl
  have z1 := hM.cell (i := 1) rfl
  have z2 := hM.cell (i := 2) rfl
  have z3 := hM.cell (i := 3) rfl
  have z4 := hM.cell (i := 4) rfl
  clear hM
  go_wp2
  refine bodyPost_ret (v := .agg #[.int .u64 r.x0, .int .u64 r.x1, .int .u64 r.x2, .int .u64 r.x3, .int .u64 r.x4]) ?_ (by rw [hdf]) ⟨r, ?_, rfl, hg⟩
  ·simp [results, Tryz.results77, go_sem, eR1, z0, z1, z2, z3, z4]
  ·rw [Hr.out, ← HS0.out, ← HS1.out, ← HS2.out, ← HS3.out, ← HS4.out, ← Hz0.out, ← Hz1.out, ← Hz2.out, ← Hz3.out, ← Hz4.out, ← Hz5.out]
   simp only [wrapw]
   rfl
end
section
open Go.RowKit
def Fe.at (a : Fe) : Nat → Int
 | 0 => a.x0
 | 1 => a.x1
 | 2 => a.x2
 | 3 => a.x3
 | _ => a.x4
theorem Fe.Ok.at {a : Fe} (h : a.Ok) (i : Nat) : 0 ≤ a.at i ∧ a.at i < 18446744073709551616 := by
 obtain ⟨n0, n1, n2, n3, n4, l0, l1, l2, l3, l4⟩ := h
 match i with
 | 0 => exact ⟨n0, l0⟩
 | 1 => exact ⟨n1, l1⟩
 | 2 => exact ⟨n2, l2⟩
 | 3 => exact ⟨n3, l3⟩
 | n + 4 => exact ⟨n4, l4⟩
def mixV (f g : Nat → Int) (k : Nat) : List Value := (List.range 5).map fun i => .int .u64 (if i < k then g i else f i)
theorem mixV_length (f g : Nat → Int) (k : Nat) : (mixV f g k).length = 5 := by simp [mixV]
theorem mixV_get (f g : Nat → Int) (k i : Nat) (h : i < 5) : (mixV f g k)[i]? = some (.int .u64 (if i < k then g i else f i)) := by
 unfold mixV
 rw [List.getElem?_map, List.getElem?_range h]
 rfl
theorem mixV_set (f g : Nat → Int) (k : Nat) (h : k < 5) : (mixV f g k).set k (.int .u64 (g k)) = mixV f g (k + 1) := by
 apply List.ext_getElem?
 intro i
 rw [List.getElem?_set]
 by_cases hi : i < 5
 ·rw [mixV_get f g (k + 1) i hi]
  by_cases e : k = i
  ·subst e; simp [mixV_length, h]
  ·rw [if_neg e, mixV_get f g k i hi]
   congr 2
   by_cases hk : i < k
   ·rw [if_pos hk, if_pos (by omega)]
   ·rw [if_neg hk, if_neg (by omega)]
 ·rw [List.getElem?_eq_none (by rw [mixV_length]; omega), List.getElem?_eq_none (by rw [mixV_length]; omega)]
  split
  ·rw [mixV_length]; simp; omega
  ·rfl
theorem gb_set5 {w0 w : World} {B : Nat} (h : w0.grownBy w none) (hB : w0.heap.size ≤ B) (v0 v1 v2 v3 v4 : Value) :
  w0.grownBy (((((w.setCell ⟨B, 0, none⟩ v0).setCell ⟨B, 1, none⟩ v1).setCell ⟨B, 2, none⟩ v2).setCell ⟨B, 3, none⟩ v3).setCell ⟨B, 4, none⟩ v4) none :=
 gb_set_new (gb_set_new (gb_set_new (gb_set_new (gb_set_new h hB _) hB _) hB _) hB _) hB _
theorem room5_set {w : World} {B : Nat} {T : TypeId} (h : Room5 w B T) {p : Addr} (hp : p.block ≠ B) (v : Value) : Room5 (w.setCell p v) B T :=
 let ⟨_, _, _, _, _, hb⟩ := h; ⟨_, _, _, _, _, hb.other hp v⟩
set_option maxHeartbeats 800000 in
theorem add_any (a b : Fe) (w : World) (ha : a.Ok) (hb : b.Ok) :
  Calls Tryz.prog 84 #[.agg #[.int .u64 a.x0, .int .u64 a.x1, .int .u64 a.x2, .int .u64 a.x3, .int .u64 a.x4], .agg #[.int .u64 b.x0, .int .u64 b.x1, .int .u64 b.x2, .int .u64 b.x3, .int .u64 b.x4]] w (FeOut (Fe.addF a b) w) := by
 have hA := ha.at
 have hB := hb.at
 clear ha hb
 go_enter Tryz.func84, Tryz.ntmps84
 go_wp2
 go_loopw [6] (fun i wr => ∃ k : Nat, k ≤ 5 ∧ i = .int .i64 k ∧ w.grownBy wr none ∧ Blk wr w.heap.size 34 (mixV a.at (fun i => IntKind.u64.wrap (a.at i + b.at i)) k) ∧ Blk wr (w.heap.size + 1) 34 (mixV b.at b.at 0) ∧ Room5 wr (w.heap.size + 2) 34) (fun i _ => 5 - (intOf i).toNat)
 case atStart =>
  exact ⟨0, by omega, rfl, gb_alloc (gb_alloc (gb_alloc (gb_refl _ _) _) _) _, ((Blk.new w (mixV a.at (fun i => IntKind.u64.wrap (a.at i + b.at i)) 0) _).alloc _).alloc _, (Blk.newAt (w.alloc _) (mixV b.at b.at 0) _ (by simp)).alloc _, ⟨_, _, _, _, _, Blk.newAt _ [.int .u64 0, .int .u64 0, .int .u64 0, .int .u64 0, .int .u64 0] _ (by simp)⟩⟩
 case round =>
  obtain ⟨k, hk, rfl, hg, hBa, hBb, hR⟩ := hrel
  by_cases hlt : k < 5
  ·have c0 := hBa.cell (mixV_get a.at (fun i => IntKind.u64.wrap (a.at i + b.at i)) k k hlt)
   have c1 := hBb.cell (mixV_get b.at b.at 0 k hlt)
   rw [if_neg (by omega)] at c0 c1
   have f0 := hBa.free k
   have hset := hBa.set k (.int .u64 (IntKind.u64.wrap (a.at k + b.at k)))
   have Hset := Lib.hid (mixV_set a.at (fun i => IntKind.u64.wrap (a.at i + b.at i)) k hlt)
   have i0 : (0 : Int) ≤ (k : Int) := by omega
   have i1 : (k : Int) < 5 := by omega
   go_wp2
   go_region
   go_wp2
   go_roundw
   case rel => exact ⟨k + 1, by omega, by go_num, gb_set_new (gb_drew hg) (Nat.le_refl _) _, Hset.out ▸ hset, (hBb.drew).other (by simp) _, room5_set (hR.grown (gb_drew (gb_refl _ none)) (by simp)) (by simp) _⟩
   case measure => simp [intOf]; omega
  ·obtain rfl : k = 5 := by omega
   have c0 := hBa.cell (mixV_get a.at (fun i => IntKind.u64.wrap (a.at i + b.at i)) 5 0 (by decide))
   have c1 := hBa.cell (mixV_get a.at (fun i => IntKind.u64.wrap (a.at i + b.at i)) 5 1 (by decide))
   have c2 := hBa.cell (mixV_get a.at (fun i => IntKind.u64.wrap (a.at i + b.at i)) 5 2 (by decide))
   have c3 := hBa.cell (mixV_get a.at (fun i => IntKind.u64.wrap (a.at i + b.at i)) 5 3 (by decide))
   have c4 := hBa.cell (mixV_get a.at (fun i => IntKind.u64.wrap (a.at i + b.at i)) 5 4 (by decide))
   rw [if_pos (by decide)] at c0 c1 c2 c3 c4
   clear hBa hBb
   go_wp2_with (go_at_call 88; refine (carry_w _ _ _ _ _ _).mono ?_; rintro e w1 ⟨r, hr, rfl, hg1⟩; obtain ⟨u0, u1, u2, u3, u4, hR1⟩ := hR.grown hg1 (by simp); have z0 := hR1.cell (i := 0) rfl; have z1 := hR1.cell (i := 1) rfl; have z2 := hR1.cell (i := 2) rfl; have z3 := hR1.cell (i := 3) rfl; have z4 := hR1.cell (i := 4) rfl; have y0 := hR1.free 0; have y1 := hR1.free 1; have y2 := hR1.free 2; have y3 := hR1.free 3; have y4 := hR1.free 4)
   refine bodyPost_ret (v := .agg #[.int .u64 r.x0, .int .u64 r.x1, .int .u64 r.x2, .int .u64 r.x3, .int .u64 r.x4]) ?_ rfl ⟨r, ?_, rfl, ?_⟩
   ·simp [results, Tryz.results84, go_sem, z0, z1, z2, z3, z4]
   ·have e := hr.out
    rw [e]
    unfold Fe.addF
    exact Lib.hid rfl
   ·exact gb_set5 (gb_trans hg hg1) (by omega) _ _ _ _ _
def fourP : Nat → Int
 | 0 => 9007199254740916
 | _ => 9007199254740988
def rootI : Fe := ⟨1718705420411056, 234908883556509, 2233514472574048, 2117202627021982, 765476049583133⟩
theorem fourP_bd (i : Nat) : 0 ≤ fourP i ∧ fourP i < 18446744073709551616 := by
 cases i <;> simp [fourP]
structure FTab (w : World) : Prop where
 lt : 3 < w.heap.size ∧ 6 < w.heap.size
 p : ∀ i, i < 5 → w.cell? ⟨3, i, none⟩ = some (.int .u64 (fourP i))
 q : ∀ i, i < 5 → w.cell? ⟨6, i, none⟩ = some (.int .u64 (rootI.at i))
theorem FTab.grown {w w' : World} (h : FTab w) (hg : w.grownBy w' none) : FTab w' :=
 ⟨⟨Nat.lt_of_lt_of_le h.lt.1 hg.size, Nat.lt_of_lt_of_le h.lt.2 hg.size⟩, fun i hi => by rw [gb_cell hg (p := ⟨3, i, none⟩) h.lt.1 (by simp)]; exact h.p i hi,
  fun i hi => by rw [gb_cell hg (p := ⟨6, i, none⟩) h.lt.2 (by simp)]; exact h.q i hi⟩
set_option maxHeartbeats 800000 in
theorem sub_any (a b : Fe) (w : World) (hT : FTab w) (ha : a.Ok) (hb : b.Ok) :
  Calls Tryz.prog 70 #[.agg #[.int .u64 a.x0, .int .u64 a.x1, .int .u64 a.x2, .int .u64 a.x3, .int .u64 a.x4], .agg #[.int .u64 b.x0, .int .u64 b.x1, .int .u64 b.x2, .int .u64 b.x3, .int .u64 b.x4]] w (FeOut (Fe.subF a b) w) := by
 have hA := ha.at
 have hB := hb.at
 clear ha hb
 go_enter Tryz.func70, Tryz.ntmps70
 go_wp2
 go_loopw [6] (fun i wr => ∃ k : Nat, k ≤ 5 ∧ i = .int .i64 k ∧ w.grownBy wr none ∧ Blk wr w.heap.size 34 (mixV a.at (fun i => IntKind.u64.wrap (a.at i + IntKind.u64.wrap (fourP i - b.at i))) k) ∧ Blk wr (w.heap.size + 1) 34 (mixV b.at b.at 0) ∧ Room5 wr (w.heap.size + 2) 34) (fun i _ => 5 - (intOf i).toNat)
 case atStart =>
  exact ⟨0, by omega, rfl, gb_alloc (gb_alloc (gb_alloc (gb_refl _ _) _) _) _, ((Blk.new w (mixV a.at (fun i => IntKind.u64.wrap (a.at i + IntKind.u64.wrap (fourP i - b.at i))) 0) _).alloc _).alloc _, (Blk.newAt (w.alloc _) (mixV b.at b.at 0) _ (by simp)).alloc _, ⟨_, _, _, _, _, Blk.newAt _ [.int .u64 0, .int .u64 0, .int .u64 0, .int .u64 0, .int .u64 0] _ (by simp)⟩⟩
 case round =>
  obtain ⟨k, hk, rfl, hg, hBa, hBb, hR⟩ := hrel
  by_cases hlt : k < 5
  ·have c0 := hBa.cell (mixV_get a.at (fun i => IntKind.u64.wrap (a.at i + IntKind.u64.wrap (fourP i - b.at i))) k k hlt)
   have c1 := hBb.cell (mixV_get b.at b.at 0 k hlt)
   rw [if_neg (by omega)] at c0 c1
   have f0 := hBa.free k
   have ct := (hT.grown hg).p k hlt
   have hf := fourP_bd k
   have hset := hBa.set k (.int .u64 (IntKind.u64.wrap (a.at k + IntKind.u64.wrap (fourP k - b.at k))))
   have Hset := Lib.hid (mixV_set a.at (fun i => IntKind.u64.wrap (a.at i + IntKind.u64.wrap (fourP i - b.at i))) k hlt)
   have i0 : (0 : Int) ≤ (k : Int) := by omega
   have i1 : (k : Int) < 5 := by omega
   go_wp2
   go_region
   go_wp2
   go_roundw
   case rel => exact ⟨k + 1, by omega, by go_num, gb_set_new (gb_drew hg) (Nat.le_refl _) _, Hset.out ▸ hset, (hBb.drew).other (by simp) _, room5_set (hR.grown (gb_drew (gb_refl _ none)) (by simp)) (by simp) _⟩
   case measure => simp [intOf]; omega
  ·obtain rfl : k = 5 := by omega
   have c0 := hBa.cell (mixV_get a.at (fun i => IntKind.u64.wrap (a.at i + IntKind.u64.wrap (fourP i - b.at i))) 5 0 (by decide))
   have c1 := hBa.cell (mixV_get a.at (fun i => IntKind.u64.wrap (a.at i + IntKind.u64.wrap (fourP i - b.at i))) 5 1 (by decide))
   have c2 := hBa.cell (mixV_get a.at (fun i => IntKind.u64.wrap (a.at i + IntKind.u64.wrap (fourP i - b.at i))) 5 2 (by decide))
   have c3 := hBa.cell (mixV_get a.at (fun i => IntKind.u64.wrap (a.at i + IntKind.u64.wrap (fourP i - b.at i))) 5 3 (by decide))
   have c4 := hBa.cell (mixV_get a.at (fun i => IntKind.u64.wrap (a.at i + IntKind.u64.wrap (fourP i - b.at i))) 5 4 (by decide))
   rw [if_pos (by decide)] at c0 c1 c2 c3 c4
   clear hBa hBb
   clear hT
   go_wp2_with (go_at_call 88; refine (carry_w _ _ _ _ _ _).mono ?_; rintro e w1 ⟨r, hr, rfl, hg1⟩; obtain ⟨u0, u1, u2, u3, u4, hR1⟩ := hR.grown hg1 (by simp); have z0 := hR1.cell (i := 0) rfl; have z1 := hR1.cell (i := 1) rfl; have z2 := hR1.cell (i := 2) rfl; have z3 := hR1.cell (i := 3) rfl; have z4 := hR1.cell (i := 4) rfl; have y0 := hR1.free 0; have y1 := hR1.free 1; have y2 := hR1.free 2; have y3 := hR1.free 3; have y4 := hR1.free 4)
   refine bodyPost_ret (v := .agg #[.int .u64 r.x0, .int .u64 r.x1, .int .u64 r.x2, .int .u64 r.x3, .int .u64 r.x4]) ?_ rfl ⟨r, ?_, rfl, ?_⟩
   ·simp [results, Tryz.results70, go_sem, z0, z1, z2, z3, z4]
   ·have e := hr.out
    rw [e]
    unfold Fe.subF
    exact Lib.hid rfl
   ·exact gb_set5 (gb_trans hg hg1) (by omega) _ _ _ _ _
set_option maxHeartbeats 400000 in
theorem neg_any (a : Fe) (w : World) (hT : FTab w) (ha : a.Ok) :
  Calls Tryz.prog 43 #[.agg #[.int .u64 a.x0, .int .u64 a.x1, .int .u64 a.x2, .int .u64 a.x3, .int .u64 a.x4]] w (FeOut (Fe.negF a) w) := by
 have hg0 : ∀ c0 c1, w.grownBy ((w.alloc c0).alloc c1) none := fun c0 c1 => gb_alloc (gb_alloc (gb_refl _ _) _) _
 have hz : Fe.Ok ⟨0, 0, 0, 0, 0⟩ := by constructor <;> decide
 go_enter Tryz.func43, Tryz.ntmps43
 go_wp2_with (go_at_call 70; refine (sub_any ⟨0, 0, 0, 0, 0⟩ a _ (hT.grown (hg0 _ _)) hz ha).mono ?_; rintro e w1 ⟨r, hr, rfl, hg1⟩; have hg2 := gb_trans (hg0 _ _) hg1; obtain ⟨u0, u1, u2, u3, u4, hR1⟩ : Room5 w1 (w.heap.size + 1) 34 := Room5.grown ⟨_, _, _, _, _, Blk.newAt _ [.int .u64 0, .int .u64 0, .int .u64 0, .int .u64 0, .int .u64 0] _ (by simp)⟩ hg1 (by simp); have z0 := hR1.cell (i := 0) rfl; have z1 := hR1.cell (i := 1) rfl; have z2 := hR1.cell (i := 2) rfl; have z3 := hR1.cell (i := 3) rfl; have z4 := hR1.cell (i := 4) rfl; have y0 := hR1.free 0; have y1 := hR1.free 1; have y2 := hR1.free 2; have y3 := hR1.free 3; have y4 := hR1.free 4)
 refine bodyPost_ret (v := .agg #[.int .u64 r.x0, .int .u64 r.x1, .int .u64 r.x2, .int .u64 r.x3, .int .u64 r.x4]) ?_ rfl ⟨r, hr, rfl, gb_set5 hg2 (by omega) _ _ _ _ _⟩
 simp [results, Tryz.results43, go_sem, z0, z1, z2, z3, z4]
set_option maxHeartbeats 400000 in
theorem one_any (w : World) : Calls Tryz.prog 59 #[] w (FeOut Fe.oneF w) := by
 go_enter Tryz.func59, Tryz.ntmps59
 go_wp2
 refine bodyPost_ret (v := .agg #[.int .u64 1, .int .u64 0, .int .u64 0, .int .u64 0, .int .u64 0]) ?_ rfl ⟨Fe.oneF, Lib.hid rfl, rfl, gb_alloc (gb_refl _ _) _⟩
 simp [results, Tryz.results59, go_sem]
end
section
open Go.RowKit
def ov (c : Fe) : Nat → Int
 | 0 => 19
 | 1 => Fe.over1 c
 | 2 => Fe.over2 c
 | 3 => Fe.over3 c
 | 4 => Fe.over4 c
 | _ => Fe.over5 c
theorem ov_bd {c : Fe} (h : Fe.Low c) (k : Nat) : 0 ≤ ov c k ∧ ov c k ≤ 19 := by
 obtain ⟨n0, n1, n2, n3, n4, l0, l1, l2, l3, l4⟩ := h
 match k with
 | 0 => simp [ov]
 | 1 => simp only [ov, Fe.over1]; omega
 | 2 => simp only [ov, Fe.over2, Fe.over1]; omega
 | 3 => simp only [ov, Fe.over3, Fe.over2, Fe.over1]; omega
 | 4 => simp only [ov, Fe.over4, Fe.over3, Fe.over2, Fe.over1]; omega
 | n + 5 => simp only [ov, Fe.over5, Fe.over4, Fe.over3, Fe.over2, Fe.over1]; omega
def leastL (l0 l1 l2 l3 l4 x1 x2 x3 x4 : Int) : Nat → List Value
 | 0 => [.int .u64 l0, .int .u64 x1, .int .u64 x2, .int .u64 x3, .int .u64 x4]
 | 1 => [.int .u64 (l0 % 2251799813685248), .int .u64 l1, .int .u64 x2, .int .u64 x3, .int .u64 x4]
 | 2 => [.int .u64 (l0 % 2251799813685248), .int .u64 (l1 % 2251799813685248), .int .u64 l2, .int .u64 x3, .int .u64 x4]
 | 3 => [.int .u64 (l0 % 2251799813685248), .int .u64 (l1 % 2251799813685248), .int .u64 (l2 % 2251799813685248), .int .u64 l3, .int .u64 x4]
 | _ => [.int .u64 (l0 % 2251799813685248), .int .u64 (l1 % 2251799813685248), .int .u64 (l2 % 2251799813685248), .int .u64 (l3 % 2251799813685248), .int .u64 l4]
set_option maxHeartbeats 1600000 in
theorem least_any (a : Fe) (w : World) (ha : a.Ok) :
  Calls Tryz.prog 86 #[.agg #[.int .u64 a.x0, .int .u64 a.x1, .int .u64 a.x2, .int .u64 a.x3, .int .u64 a.x4]] w (FeOut (Fe.leastF a) w) := by
 have hg0 : ∀ c0 c1, w.grownBy ((w.alloc c0).alloc c1) none := fun c0 c1 => gb_alloc (gb_alloc (gb_refl _ _) _) _
 go_enter Tryz.func86, Tryz.ntmps86
 go_wp2_with (go_at_call 88; refine ((carry_fe a _ ha).mono fun _ _ => feOut_of).mono ?_; rintro e w1 ⟨c, hc, rfl, hg1⟩; have hg2 := gb_trans (hg0 _ _) hg1; have hR1 : Room5 w1 (w.heap.size + 1) 34 := Room5.grown ⟨_, _, _, _, _, Blk.newAt _ [.int .u64 0, .int .u64 0, .int .u64 0, .int .u64 0, .int .u64 0] _ (by simp)⟩ hg1 (by simp); have hA1 := Blk.grown (Blk.alloc (Blk.new w [.int .u64 a.x0, .int .u64 a.x1, .int .u64 a.x2, .int .u64 a.x3, .int .u64 a.x4] 34) _) hg1 (by simp); have z0 := hA1.cell (i := 0) rfl; have z1 := hA1.cell (i := 1) rfl; have z2 := hA1.cell (i := 2) rfl; have z3 := hA1.cell (i := 3) rfl; have z4 := hA1.cell (i := 4) rfl; have y0 := hA1.free 0; have y1 := hA1.free 1; have y2 := hA1.free 2; have y3 := hA1.free 3; have y4 := hA1.free 4)
 have hA2 : Blk (((((w1.setCell ⟨w.heap.size, 0, none⟩ (.int .u64 c.x0)).setCell ⟨w.heap.size, 1, none⟩ (.int .u64 c.x1)).setCell ⟨w.heap.size, 2, none⟩ (.int .u64 c.x2)).setCell ⟨w.heap.size, 3, none⟩ (.int .u64 c.x3)).setCell ⟨w.heap.size, 4, none⟩ (.int .u64 c.x4)) w.heap.size 34 [.int .u64 c.x0, .int .u64 c.x1, .int .u64 c.x2, .int .u64 c.x3, .int .u64 c.x4] := Room5.set5 ⟨_, _, _, _, _, hA1⟩ _ _ _ _ _
 have hR2 : Room5 (((((w1.setCell ⟨w.heap.size, 0, none⟩ (.int .u64 c.x0)).setCell ⟨w.heap.size, 1, none⟩ (.int .u64 c.x1)).setCell ⟨w.heap.size, 2, none⟩ (.int .u64 c.x2)).setCell ⟨w.heap.size, 3, none⟩ (.int .u64 c.x3)).setCell ⟨w.heap.size, 4, none⟩ (.int .u64 c.x4)) (w.heap.size + 1) 34 := room5_set (room5_set (room5_set (room5_set (room5_set hR1 (by simp) _) (by simp) _) (by simp) _) (by simp) _) (by simp) _
 have hg3 : w.grownBy (((((w1.setCell ⟨w.heap.size, 0, none⟩ (.int .u64 c.x0)).setCell ⟨w.heap.size, 1, none⟩ (.int .u64 c.x1)).setCell ⟨w.heap.size, 2, none⟩ (.int .u64 c.x2)).setCell ⟨w.heap.size, 3, none⟩ (.int .u64 c.x3)).setCell ⟨w.heap.size, 4, none⟩ (.int .u64 c.x4)) none := gb_set5 hg2 (Nat.le_refl _) _ _ _ _ _
 revert hA2 hR2 hg3
 clear hR1 hA1 z0 z1 z2 z3 z4 y0 y1 y2 y3 y4 hg1 hg2
 generalize (((((w1.setCell ⟨w.heap.size, 0, none⟩ (.int .u64 c.x0)).setCell ⟨w.heap.size, 1, none⟩ (.int .u64 c.x1)).setCell ⟨w.heap.size, 2, none⟩ (.int .u64 c.x2)).setCell ⟨w.heap.size, 3, none⟩ (.int .u64 c.x3)).setCell ⟨w.heap.size, 4, none⟩ (.int .u64 c.x4)) = W2
 intro hA2 hR2 hg3
 have hlow : Fe.Low c := by have e := hc.out; rw [e]; exact Fe.carry_low ha
 have hcr : Fe.Low c := hlow
 obtain ⟨n0, n1, n2, n3, n4, m0, m1, m2, m3, m4⟩ := hcr
 go_loop [10, 3] (fun i o => ∃ k : Nat, k ≤ 5 ∧ i = .int .i64 k ∧ o = .int .u64 (ov c k)) (fun i _ => 5 - (intOf i).toNat)
 case atStart => exact ⟨0, by omega, rfl, rfl⟩
 case round =>
  obtain ⟨k, hk, rfl, rfl⟩ := hrel
  rcases (show k = 0 ∨ k = 1 ∨ k = 2 ∨ k = 3 ∨ k = 4 ∨ k = 5 by omega) with rfl | rfl | rfl | rfl | rfl | rfl
  ·have b0 := (ov_bd hlow 0).1
   have b1 := (ov_bd hlow 0).2
   have e0 := Lib.hid (show ov c 1 = (c.x0 + ov c 0) / 2251799813685248 from rfl)
   generalize ov c 0 = o at *
   have i0 : ∀ w, (Instr.index 34 (.agg #[.int .u64 c.x0, .int .u64 c.x1, .int .u64 c.x2, .int .u64 c.x3, .int .u64 c.x4]) (.int .i64 0)).run Tryz.prog w = .ok (.int .u64 c.x0) w := fun _ => by kernel_rfl
   go_wp2
   go_round
   case rel => exact ⟨1, by omega, rfl, by rw [e0.out]⟩
   case measure => simp [intOf]
  ·have b0 := (ov_bd hlow 1).1
   have b1 := (ov_bd hlow 1).2
   have e0 := Lib.hid (show ov c 2 = (c.x1 + ov c 1) / 2251799813685248 from rfl)
   generalize ov c 1 = o at *
   have i0 : ∀ w, (Instr.index 34 (.agg #[.int .u64 c.x0, .int .u64 c.x1, .int .u64 c.x2, .int .u64 c.x3, .int .u64 c.x4]) (.int .i64 1)).run Tryz.prog w = .ok (.int .u64 c.x1) w := fun _ => by kernel_rfl
   go_wp2
   go_round
   case rel => exact ⟨2, by omega, rfl, by rw [e0.out]⟩
   case measure => simp [intOf]
  ·have b0 := (ov_bd hlow 2).1
   have b1 := (ov_bd hlow 2).2
   have e0 := Lib.hid (show ov c 3 = (c.x2 + ov c 2) / 2251799813685248 from rfl)
   generalize ov c 2 = o at *
   have i0 : ∀ w, (Instr.index 34 (.agg #[.int .u64 c.x0, .int .u64 c.x1, .int .u64 c.x2, .int .u64 c.x3, .int .u64 c.x4]) (.int .i64 2)).run Tryz.prog w = .ok (.int .u64 c.x2) w := fun _ => by kernel_rfl
   go_wp2
   go_round
   case rel => exact ⟨3, by omega, rfl, by rw [e0.out]⟩
   case measure => simp [intOf]
  ·have b0 := (ov_bd hlow 3).1
   have b1 := (ov_bd hlow 3).2
   have e0 := Lib.hid (show ov c 4 = (c.x3 + ov c 3) / 2251799813685248 from rfl)
   generalize ov c 3 = o at *
   have i0 : ∀ w, (Instr.index 34 (.agg #[.int .u64 c.x0, .int .u64 c.x1, .int .u64 c.x2, .int .u64 c.x3, .int .u64 c.x4]) (.int .i64 3)).run Tryz.prog w = .ok (.int .u64 c.x3) w := fun _ => by kernel_rfl
   go_wp2
   go_round
   case rel => exact ⟨4, by omega, rfl, by rw [e0.out]⟩
   case measure => simp [intOf]
  ·have b0 := (ov_bd hlow 4).1
   have b1 := (ov_bd hlow 4).2
   have e0 := Lib.hid (show ov c 5 = (c.x4 + ov c 4) / 2251799813685248 from rfl)
   generalize ov c 4 = o at *
   have i0 : ∀ w, (Instr.index 34 (.agg #[.int .u64 c.x0, .int .u64 c.x1, .int .u64 c.x2, .int .u64 c.x3, .int .u64 c.x4]) (.int .i64 4)).run Tryz.prog w = .ok (.int .u64 c.x4) w := fun _ => by kernel_rfl
   go_wp2
   go_round
   case rel => exact ⟨5, by omega, rfl, by rw [e0.out]⟩
   case measure => simp [intOf]
  ·have b0 := (ov_bd hlow 5).1
   have b1 := (ov_bd hlow 5).2
   have HO : Hid (ov c 5 = Fe.over5 c) := Lib.hid rfl
   generalize ov c 5 = o at *
   have z0 := hA2.cell (i := 0) rfl
   have y0 := hA2.free 0
   go_wp2
   have hA3 := hA2.set 0 (.int .u64 (c.x0 + 19 * o))
   have hR3 := room5_set hR2 (p := ⟨w.heap.size, 0, none⟩) (by simp) (.int .u64 (c.x0 + 19 * o))
   have hg4 := gb_set_new hg3 (p := ⟨w.heap.size, 0, none⟩) (Nat.le_refl _) (.int .u64 (c.x0 + 19 * o))
   have q0 : 0 ≤ c.x0 + 19 * o ∧ c.x0 + 19 * o < 4503599627370496 := by omega
   have HL0 : Hid (Fe.low0 c = c.x0 + 19 * o) := Lib.hid (by unfold Fe.low0; rw [← HO.out])
   clear hA2 hR2 hg3 z0 y0
   revert hA3 hR3 hg4
   generalize W2.setCell ⟨w.heap.size, 0, none⟩ (.int .u64 (c.x0 + 19 * o)) = W3
   generalize c.x0 + 19 * o = l0 at *
   obtain ⟨q00, q01⟩ := q0
   intro hA3 hR3 hg4
   obtain ⟨l1, h1⟩ : ∃ l, c.x1 + l0 / 2251799813685248 = l := ⟨_, rfl⟩
   have q10 : 0 ≤ l1 := by omega
   have q11 : l1 < 4503599627370496 := by omega
   have H1 := Lib.hid h1; clear h1
   obtain ⟨l2, h2⟩ : ∃ l, c.x2 + l1 / 2251799813685248 = l := ⟨_, rfl⟩
   have q20 : 0 ≤ l2 := by omega
   have q21 : l2 < 4503599627370496 := by omega
   have H2 := Lib.hid h2; clear h2
   obtain ⟨l3, h3⟩ : ∃ l, c.x3 + l2 / 2251799813685248 = l := ⟨_, rfl⟩
   have q30 : 0 ≤ l3 := by omega
   have q31 : l3 < 4503599627370496 := by omega
   have H3 := Lib.hid h3; clear h3
   obtain ⟨l4, h4⟩ : ∃ l, c.x4 + l3 / 2251799813685248 = l := ⟨_, rfl⟩
   have q40 : 0 ≤ l4 := by omega
   have q41 : l4 < 4503599627370496 := by omega
   have H4 := Lib.hid h4; clear h4
   go_loopw [24] (fun i wr => ∃ k : Nat, k ≤ 4 ∧ i = .int .i64 k ∧ w.grownBy wr none ∧ Blk wr w.heap.size 34 (leastL l0 l1 l2 l3 l4 c.x1 c.x2 c.x3 c.x4 k) ∧ Room5 wr (w.heap.size + 1) 34) (fun i _ => 4 - (intOf i).toNat)
   case atStart => exact ⟨0, by omega, rfl, hg4, hA3, hR3⟩
   case round =>
    obtain ⟨k, hk, rfl, hg, hA, hR⟩ := hrel
    clear hA3 hR3 hg4
    rcases (show k = 0 ∨ k = 1 ∨ k = 2 ∨ k = 3 ∨ k = 4 by omega) with rfl | rfl | rfl | rfl | rfl
    ·have hB := hA
     unfold leastL at hB
     have z0 := hB.cell (i := 0) rfl
     have z1 := hB.cell (i := 1) rfl
     have f0 := hB.free 0
     have f1 := hB.free 1
     go_wp2
     go_region
     go_wp2
     rw [mask51 l0 (by omega) (by omega), H1.out]
     go_roundw
     case rel => exact ⟨1, by omega, rfl, gb_set_new (gb_set_new (gb_drew hg) (Nat.le_refl _) _) (Nat.le_refl _) _, ((hB.drew).set 1 (.int .u64 l1)).set 0 (.int .u64 (l0 % 2251799813685248)), room5_set (room5_set (hR.grown (gb_drew (gb_refl _ none)) (by simp)) (by simp) _) (by simp) _⟩
     case measure => simp [intOf]
    ·have hB := hA
     unfold leastL at hB
     have z0 := hB.cell (i := 1) rfl
     have z1 := hB.cell (i := 2) rfl
     have f0 := hB.free 1
     have f1 := hB.free 2
     go_wp2
     go_region
     go_wp2
     rw [mask51 l1 (by omega) (by omega), H2.out]
     go_roundw
     case rel => exact ⟨2, by omega, rfl, gb_set_new (gb_set_new (gb_drew hg) (Nat.le_refl _) _) (Nat.le_refl _) _, ((hB.drew).set 2 (.int .u64 l2)).set 1 (.int .u64 (l1 % 2251799813685248)), room5_set (room5_set (hR.grown (gb_drew (gb_refl _ none)) (by simp)) (by simp) _) (by simp) _⟩
     case measure => simp [intOf]
    ·have hB := hA
     unfold leastL at hB
     have z0 := hB.cell (i := 2) rfl
     have z1 := hB.cell (i := 3) rfl
     have f0 := hB.free 2
     have f1 := hB.free 3
     go_wp2
     go_region
     go_wp2
     rw [mask51 l2 (by omega) (by omega), H3.out]
     go_roundw
     case rel => exact ⟨3, by omega, rfl, gb_set_new (gb_set_new (gb_drew hg) (Nat.le_refl _) _) (Nat.le_refl _) _, ((hB.drew).set 3 (.int .u64 l3)).set 2 (.int .u64 (l2 % 2251799813685248)), room5_set (room5_set (hR.grown (gb_drew (gb_refl _ none)) (by simp)) (by simp) _) (by simp) _⟩
     case measure => simp [intOf]
    ·have hB := hA
     unfold leastL at hB
     have z0 := hB.cell (i := 3) rfl
     have z1 := hB.cell (i := 4) rfl
     have f0 := hB.free 3
     have f1 := hB.free 4
     go_wp2
     go_region
     go_wp2
     rw [mask51 l3 (by omega) (by omega), H4.out]
     go_roundw
     case rel => exact ⟨4, by omega, rfl, gb_set_new (gb_set_new (gb_drew hg) (Nat.le_refl _) _) (Nat.le_refl _) _, ((hB.drew).set 4 (.int .u64 l4)).set 3 (.int .u64 (l3 % 2251799813685248)), room5_set (room5_set (hR.grown (gb_drew (gb_refl _ none)) (by simp)) (by simp) _) (by simp) _⟩
     case measure => simp [intOf]
    ·have hB := hA
     unfold leastL at hB
     have z0 := hB.cell (i := 0) rfl
     have z1 := hB.cell (i := 1) rfl
     have z2 := hB.cell (i := 2) rfl
     have z3 := hB.cell (i := 3) rfl
     have z4 := hB.cell (i := 4) rfl
     have y4 := hB.free 4
     obtain ⟨u0, u1, u2, u3, u4, hR1⟩ := hR
     have t0 := hR1.cell (i := 0) rfl
     have t1 := hR1.cell (i := 1) rfl
     have t2 := hR1.cell (i := 2) rfl
     have t3 := hR1.cell (i := 3) rfl
     have t4 := hR1.cell (i := 4) rfl
     have v0 := hR1.free 0
     have v1 := hR1.free 1
     have v2 := hR1.free 2
     have v3 := hR1.free 3
     have v4 := hR1.free 4
     go_wp2
     rw [mask51 l4 (by omega) (by omega)]
     refine bodyPost_ret (v := .agg #[.int .u64 (l0 % 2251799813685248), .int .u64 (l1 % 2251799813685248), .int .u64 (l2 % 2251799813685248), .int .u64 (l3 % 2251799813685248), .int .u64 (l4 % 2251799813685248)]) ?_ rfl ⟨⟨l0 % 2251799813685248, l1 % 2251799813685248, l2 % 2251799813685248, l3 % 2251799813685248, l4 % 2251799813685248⟩, Lib.hid ?_, rfl, gb_set5 (gb_set_new hg (Nat.le_refl _) _) (by omega) _ _ _ _ _⟩
     ·simp [results, Tryz.results86, go_sem, t0, t1, t2, t3, t4]
     ·have e := hc.out
      have e1 : Fe.low1 c = l1 := by unfold Fe.low1; rw [HL0.out, H1.out]
      have e2 : Fe.low2 c = l2 := by unfold Fe.low2; rw [e1, H2.out]
      have e3 : Fe.low3 c = l3 := by unfold Fe.low3; rw [e2, H3.out]
      have e4 : Fe.low4 c = l4 := by unfold Fe.low4; rw [e3, H4.out]
      rw [← Fe.least_carry, ← e, Fe.least_is hlow, HL0.out, e1, e2, e3, e4]
end
section
open Go.RowKit
def bytV (x : Int) (i : Nat) : Value := .int .u8 (x / 2 ^ (8 * i) % 256)
set_option maxHeartbeats 400000 in
theorem putWord_any (B off n c : Nat) (T : TypeId) (L : List Value) (x : Int) (w : World) (hn : 8 ≤ n) (hL : off + 8 ≤ L.length) (hb : Blk w B T L) :
  Calls Tryz.prog 87 #[.slice (some ⟨B, off, none⟩) n c, .int .u64 x] w fun e w' => e = .returned (.tuple #[]) ∧ w.grownBy w' (some B) ∧ Blk w' B T (putN L off (bytV x) 8) := by
 go_enter Tryz.func87, Tryz.ntmps87
 go_wp2
 go_loopw [5] (fun i wr => ∃ k : Nat, k ≤ 8 ∧ i = .int .i64 k ∧ w.grownBy wr (some B) ∧ Blk wr B T (putN L off (bytV x) k)) (fun i _ => 8 - (intOf i).toNat)
 case atStart => exact ⟨0, by omega, rfl, gb_refl _ _, hb⟩
 case round =>
  obtain ⟨k, hk, rfl, hg, hB⟩ := hrel
  by_cases hlt : k < 8
  ·have hi : (k : Int) < (n : Int) := by omega
   have hs : 0 ≤ 8 * (k : Int) := by omega
   have hs2 : 8 * (k : Int) < 64 := by omega
   have hfr := hB.free (off + k)
   obtain ⟨v0, hv0⟩ : ∃ v, wr.cell? ⟨B, off + k, none⟩ = some v := ⟨_, hB.cell (List.getElem?_eq_getElem (by rw [putN_length]; omega))⟩
   go_wp2
   go_roundw
   case rel => exact ⟨k + 1, by omega, by go_num, gb_set hg _ _, hB.set _ _⟩
   case measure => simp [intOf]; omega
  ·obtain rfl : k = 8 := by omega
   go_wp2
   go_end0
   exact ⟨rfl, hg, hB⟩
def wordOf (f : Nat → Int) : Nat → Int
 | 0 => 0
 | k + 1 => wordOf f k + f k * 2 ^ (8 * k)
theorem two_pow_le {a b : Nat} (h : a ≤ b) : (2 : Int) ^ a ≤ 2 ^ b := by
 have h1 := Int.ofNat_le.2 (Nat.pow_le_pow_right (n := 2) (by decide) h)
 simpa [Int.natCast_pow] using h1
theorem wordOf_bd (f : Nat → Int) (hf : ∀ i, 0 ≤ f i ∧ f i < 256) (k : Nat) : 0 ≤ wordOf f k ∧ wordOf f k < 2 ^ (8 * k) := by
 induction k with
 | zero => simp [wordOf]
 | succ k ih =>
  have h := hf k
  have e : (2 : Int) ^ (8 * (k + 1)) = 256 * 2 ^ (8 * k) := by rw [show 8 * (k + 1) = 8 * k + 8 by omega, Int.pow_add]; omega
  rw [wordOf, e]
  generalize (2 : Int) ^ (8 * k) = p at *
  have h1 : f k * p ≤ 255 * p := Int.mul_le_mul_of_nonneg_right (by omega) (by omega)
  have h2 : 0 ≤ f k * p := Int.mul_nonneg h.1 (by omega)
  omega
theorem or_add (a b : Int) (s : Nat) (h0 : 0 ≤ a) (h1 : a < 2 ^ s) (h2 : a < 18446744073709551616) (k0 : 0 ≤ b) (k1 : b * 2 ^ s < 18446744073709551616) : bits .or .u64 a (b * 2 ^ s) = a + b * 2 ^ s := by
 obtain ⟨a, rfl⟩ := Int.eq_ofNat_of_zero_le h0
 obtain ⟨b, rfl⟩ := Int.eq_ofNat_of_zero_le k0
 have e : (b : Int) * 2 ^ s = ((2 ^ s * b : Nat) : Int) := by rw [Int.natCast_mul, Int.natCast_pow, Int.mul_comm]; rfl
 have ha : a < 2 ^ s := by
  have : ((2 ^ s : Nat) : Int) = (2 : Int) ^ s := by rw [Int.natCast_pow]; rfl
  omega
 rw [e] at k1 ⊢
 rw [u64_or_nat _ _ (by omega) (by omega), Nat.or_comm, ← Nat.two_pow_add_eq_or_of_lt ha]
 omega
set_option maxHeartbeats 400000 in
theorem getWord_any (B off n c : Nat) (f : Nat → Int) (w : World) (hn : 8 ≤ n) (hf : ∀ i, 0 ≤ f i ∧ f i < 256) (hc : ∀ i, i < 8 → w.cell? ⟨B, off + i, none⟩ = some (.int .u8 (f i))) :
  Calls Tryz.prog 104 #[.slice (some ⟨B, off, none⟩) n c] w fun e w' => e = .returned (.int .u64 (wordOf f 8)) ∧ w = w' := by
 go_enter Tryz.func104, Tryz.ntmps104
 go_wp2
 go_loop [3, 5] (fun v i => ∃ k : Nat, k ≤ 8 ∧ i = .int .i64 k ∧ v = .int .u64 (wordOf f k)) (fun _ i => 8 - (intOf i).toNat)
 case atStart => exact ⟨0, by omega, rfl, rfl⟩
 case round =>
  obtain ⟨k, hk, rfl, rfl⟩ := hrel
  by_cases hlt : k < 8
  ·have hi : (k : Int) < (n : Int) := by omega
   have hs : 0 ≤ 8 * (k : Int) := by omega
   have hs2 : 8 * (k : Int) < 64 := by omega
   have c0 := hc k hlt
   have b0 := (hf k).1
   have b1 := (hf k).2
   have Hw : Hid (bits .or .u64 (wordOf f k) (IntKind.u64.wrap (f k * 2 ^ (8 * k))) = wordOf f (k + 1)) := by
    apply Lib.hid
    have hb := wordOf_bd f hf k
    have hb1 := wordOf_bd f hf (k + 1)
    have hp : (2 : Int) ^ (8 * (k + 1)) ≤ 2 ^ 64 := two_pow_le (by omega)
    have hp2 : (2 : Int) ^ (8 * k) ≤ 2 ^ 64 := two_pow_le (by omega)
    have h64 : (2 : Int) ^ 64 = 18446744073709551616 := by decide
    have hm : 0 ≤ f k * 2 ^ (8 * k) := Int.mul_nonneg b0 (by omega)
    rw [wordOf] at hb1
    rw [wrapw, Fe.w64_in hm (by omega), wordOf]
    exact or_add _ _ _ hb.1 hb.2 (by omega) b0 (by omega)
   go_wp2
   go_round
   case rel => exact ⟨k + 1, by omega, by go_num, by rw [Hw.out]⟩
   case measure => simp [intOf]; omega
  ·obtain rfl : k = 8 := by omega
   go_wp2
   go_ret
   exact ⟨rfl, rfl⟩
theorem or_lem (a b : Int) (s : Nat) (p q : Int) (hp : (2 : Int) ^ s = p) (hq : p * q = 18446744073709551616) (h0 : 0 ≤ a) (h1 : a < p) (hq0 : 0 < q) : bits .or .u64 a (IntKind.u64.wrap (b * p)) = a + (b % q) * p := by
 have hp0 : 0 < p := by omega
 have hpp : p ≤ 18446744073709551616 := by
  have : p * 1 ≤ p * q := Int.mul_le_mul_of_nonneg_left (by omega) (by omega)
  omega
 have e : IntKind.u64.wrap (b * p) = (b % q) * 2 ^ s := by
  rw [wrapw, hp]
  unfold Fe.w64
  rw [← hq, Int.mul_comm b p, Int.mul_comm (b % q) p, Int.mul_emod_mul_of_pos _ _ hp0]
 have hb0 : 0 ≤ b % q := Int.emod_nonneg _ (by omega)
 have hb1 : b % q < q := Int.emod_lt_of_pos _ hq0
 have hb2 : (b % q) * p < 18446744073709551616 := by
  have h : (b % q) * p ≤ (q - 1) * p := Int.mul_le_mul_of_nonneg_right (by omega) (by omega)
  have e2 : (q - 1) * p = 18446744073709551616 - p := by rw [Int.sub_mul, Int.mul_comm q p, hq, Int.one_mul]
  omega
 rw [e, or_add a _ s h0 (by rw [hp]; exact h1) (by omega) hb0 (by rw [hp]; exact hb2), hp]
def bytesV (x : Int) : List Value := (List.range 32).map (bytV x)
theorem bytV_word (x : Int) (k i : Nat) (h : i < 8) : bytV (x / 2 ^ (64 * k) % 18446744073709551616) i = bytV x (8 * k + i) := by
 unfold bytV
 have e : x / 2 ^ (8 * (8 * k + i)) = x / 2 ^ (64 * k) / 2 ^ (8 * i) := by
  rw [show 8 * (8 * k + i) = 64 * k + 8 * i by omega, Int.pow_add, Int.ediv_ediv_of_nonneg (Int.le_of_lt (Int.pow_pos (by decide)))]
 rw [e]
 generalize x / 2 ^ (64 * k) = y
 congr 1
 obtain rfl | rfl | rfl | rfl | rfl | rfl | rfl | rfl : i = 0 ∨ i = 1 ∨ i = 2 ∨ i = 3 ∨ i = 4 ∨ i = 5 ∨ i = 6 ∨ i = 7 := by omega
 all_goals simp only [Nat.mul_zero, Nat.mul_one, Int.reducePow, Nat.reduceMul]; omega
def zeros32 : List Value := List.replicate 32 (.int .u8 0)
theorem bytes_laid (x : Int) : putN (putN (putN (putN zeros32 0 (bytV (x / 2 ^ (64 * 0) % 18446744073709551616)) 8) 8 (bytV (x / 2 ^ (64 * 1) % 18446744073709551616)) 8) 16 (bytV (x / 2 ^ (64 * 2) % 18446744073709551616)) 8) 24 (bytV (x / 2 ^ (64 * 3) % 18446744073709551616)) 8 = bytesV x := by
 apply List.ext_getElem?
 intro i
 have l0 : zeros32.length = 32 := rfl
 rw [putN_get _ _ _ _ _ (by simp only [putN_length, l0]; omega), putN_get _ _ _ _ _ (by simp only [putN_length, l0]; omega), putN_get _ _ _ _ _ (by simp only [putN_length, l0]; omega), putN_get _ _ _ _ _ (by rw [l0]; omega)]
 by_cases h : i < 32
 ·have e : (bytesV x)[i]? = some (bytV x i) := by unfold bytesV; rw [List.getElem?_map, List.getElem?_range h]; rfl
  rw [e]
  by_cases h3 : 24 ≤ i
  ·rw [if_pos (by omega), bytV_word x 3 (i - 24) (by omega), show 8 * 3 + (i - 24) = i by omega]
  ·rw [if_neg (by omega)]
   by_cases h2 : 16 ≤ i
   ·rw [if_pos (by omega), bytV_word x 2 (i - 16) (by omega), show 8 * 2 + (i - 16) = i by omega]
   ·rw [if_neg (by omega)]
    by_cases h1 : 8 ≤ i
    ·rw [if_pos (by omega), bytV_word x 1 (i - 8) (by omega), show 8 * 1 + (i - 8) = i by omega]
    ·rw [if_neg (by omega), if_pos (by omega), bytV_word x 0 (i - 0) (by omega), show 8 * 0 + (i - 0) = i by omega]
 ·rw [if_neg (by omega), if_neg (by omega), if_neg (by omega), if_neg (by omega), List.getElem?_eq_none (by rw [l0]; omega), List.getElem?_eq_none (by simp [bytesV]; omega)]
theorem m_bd (a : Fe) : 0 ≤ (Fe.m a : Int) ∧ (Fe.m a : Int) < 57896044618658097711785492504343953926634992332820282019728792003956564819949 := by
 have := Fe.m_lt a
 unfold Fe.P at this
 omega
theorem least_words (a : Fe) :
  (Fe.leastF a).x0 + (Fe.leastF a).x1 % 8192 * 2251799813685248 = (Fe.m a : Int) / 2 ^ (64 * 0) % 18446744073709551616 ∧
  (Fe.leastF a).x1 / 8192 + (Fe.leastF a).x2 % 67108864 * 274877906944 = (Fe.m a : Int) / 2 ^ (64 * 1) % 18446744073709551616 ∧
  (Fe.leastF a).x2 / 67108864 + (Fe.leastF a).x3 % 549755813888 * 33554432 = (Fe.m a : Int) / 2 ^ (64 * 2) % 18446744073709551616 ∧
  (Fe.leastF a).x3 / 549755813888 + (Fe.leastF a).x4 % 4503599627370496 * 4096 = (Fe.m a : Int) / 2 ^ (64 * 3) % 18446744073709551616 := by
 have hl := m_bd a
 unfold Fe.leastF
 generalize (Fe.m a : Int) = x at *
 have e2 : x / 5070602400912917605986812821504 = x / 2251799813685248 / 2251799813685248 := by rw [Int.ediv_ediv_of_nonneg (by decide)]; rfl
 have e3 : x / 11417981541647679048466287755595961091061972992 = x / 2251799813685248 / 2251799813685248 / 2251799813685248 := by rw [Int.ediv_ediv_of_nonneg (by decide), Int.ediv_ediv_of_nonneg (by decide)]; rfl
 have e4 : x / 25711008708143844408671393477458601640355247900524685364822016 = x / 2251799813685248 / 2251799813685248 / 2251799813685248 / 2251799813685248 := by rw [Int.ediv_ediv_of_nonneg (by decide), Int.ediv_ediv_of_nonneg (by decide), Int.ediv_ediv_of_nonneg (by decide)]; rfl
 rw [e2, e3, e4]
 have p1 : (2 : Int) ^ (64 * 1) = 18446744073709551616 := by decide
 have p2 : (2 : Int) ^ (64 * 2) = 340282366920938463463374607431768211456 := by decide
 have p3 : (2 : Int) ^ (64 * 3) = 6277101735386680763835789423207666416102355444464034512896 := by decide
 rw [p1, p2, p3]
 obtain ⟨d0, q1, b0, b0', f0⟩ : ∃ d q : Int, 0 ≤ d ∧ d < 2251799813685248 ∧ x = 2251799813685248 * q + d := ⟨x % 2251799813685248, x / 2251799813685248, by omega, by omega, by omega⟩
 obtain ⟨d1, q2, b1, b1', f1⟩ : ∃ d q : Int, 0 ≤ d ∧ d < 2251799813685248 ∧ q1 = 2251799813685248 * q + d := ⟨q1 % 2251799813685248, q1 / 2251799813685248, by omega, by omega, by omega⟩
 obtain ⟨d2, q3, b2, b2', f2⟩ : ∃ d q : Int, 0 ≤ d ∧ d < 2251799813685248 ∧ q2 = 2251799813685248 * q + d := ⟨q2 % 2251799813685248, q2 / 2251799813685248, by omega, by omega, by omega⟩
 obtain ⟨d3, q4, b3, b3', f3⟩ : ∃ d q : Int, 0 ≤ d ∧ d < 2251799813685248 ∧ q3 = 2251799813685248 * q + d := ⟨q3 % 2251799813685248, q3 / 2251799813685248, by omega, by omega, by omega⟩
 have g1 : x / 2251799813685248 = q1 := by omega
 have g2 : q1 / 2251799813685248 = q2 := by omega
 have g3 : q2 / 2251799813685248 = q3 := by omega
 have g4 : q3 / 2251799813685248 = q4 := by omega
 have m0 : x % 2251799813685248 = d0 := by omega
 have m1 : q1 % 2251799813685248 = d1 := by omega
 have m2 : q2 % 2251799813685248 = d2 := by omega
 have m3 : q3 % 2251799813685248 = d3 := by omega
 simp only [g1, g2, g3, g4, m0, m1, m2, m3]
 have b4 : 0 ≤ q4 := by omega
 have b4' : q4 < 2251799813685248 := by omega
 have m4 : q4 % 2251799813685248 = q4 := by omega
 rw [m4]
 have w1 : x / 18446744073709551616 = d1 / 8192 + 274877906944 * q2 := by omega
 have w2 : x / 340282366920938463463374607431768211456 = d2 / 67108864 + 33554432 * q3 := by omega
 have w3 : x / 6277101735386680763835789423207666416102355444464034512896 = d3 / 549755813888 + 4096 * q4 := by omega
 rw [w1, w2, w3]
 refine ⟨?_, ?_, ?_, ?_⟩ <;> omega
end
section
open Go.RowKit
theorem least_bd (a : Fe) : (0 ≤ (Fe.leastF a).x0 ∧ (Fe.leastF a).x0 < 2251799813685248) ∧ (0 ≤ (Fe.leastF a).x1 ∧ (Fe.leastF a).x1 < 2251799813685248) ∧ (0 ≤ (Fe.leastF a).x2 ∧ (Fe.leastF a).x2 < 2251799813685248) ∧
  (0 ≤ (Fe.leastF a).x3 ∧ (Fe.leastF a).x3 < 2251799813685248) ∧ (0 ≤ (Fe.leastF a).x4 ∧ (Fe.leastF a).x4 < 2251799813685248) := by
 unfold Fe.leastF
 refine ⟨⟨?_, ?_⟩, ⟨?_, ?_⟩, ⟨?_, ?_⟩, ⟨?_, ?_⟩, ?_, ?_⟩ <;> dsimp only <;> omega
theorem info_b32 : (Tryz.prog.info? 101).map (·.size) = some 32 := by kernel_rfl
theorem bytesV_one (x : Int) : (bytesV x).toArray.all (·.oneCell') = true := by
 simp [bytesV, bytV, Value.oneCell']
abbrev BytS (w : World) (r : Fe) (w' : World) : Prop := Blk w' w.heap.size 34 [.int .u64 r.x0, .int .u64 r.x1, .int .u64 r.x2, .int .u64 r.x3, .int .u64 r.x4] ∧ w'.cell? ⟨w.heap.size, 0, none⟩ = some (.int .u64 r.x0) ∧ w'.cell? ⟨w.heap.size, 1, none⟩ = some (.int .u64 r.x1) ∧ w'.cell? ⟨w.heap.size, 2, none⟩ = some (.int .u64 r.x2) ∧ w'.cell? ⟨w.heap.size, 3, none⟩ = some (.int .u64 r.x3) ∧ w'.cell? ⟨w.heap.size, 4, none⟩ = some (.int .u64 r.x4)
theorem bytS_mk {w w' : World} {r : Fe} (h : Blk w' w.heap.size 34 [.int .u64 r.x0, .int .u64 r.x1, .int .u64 r.x2, .int .u64 r.x3, .int .u64 r.x4]) : BytS w r w' := ⟨h, h.cell (i := 0) rfl, h.cell (i := 1) rfl, h.cell (i := 2) rfl, h.cell (i := 3) rfl, h.cell (i := 4) rfl⟩
theorem bytS_keep {w w1 w2 : World} {r : Fe} {B : Nat} (hg : w1.grownBy w2 (some B)) (hne : w.heap.size ≠ B) (h : BytS w r w1) : BytS w r w2 := bytS_mk (h.1.grown hg (some_ne hne))
set_option maxRecDepth 100000 in
set_option maxHeartbeats 1600000 in
theorem bytesOf_any (a : Fe) (w : World) (ha : a.Ok) :
  Calls Tryz.prog 60 #[.agg #[.int .u64 a.x0, .int .u64 a.x1, .int .u64 a.x2, .int .u64 a.x3, .int .u64 a.x4]] w fun e w' => e = .returned (.agg (bytesV (Fe.m a)).toArray) ∧ w.grownBy w' none := by
 have hg0 : ∀ c0 c1, w.grownBy ((w.alloc c0).alloc c1) none := fun c0 c1 => gb_alloc (gb_alloc (gb_refl _ _) _) _
 go_enter Tryz.func60, Tryz.ntmps60
 go_wp2_with (go_at_call 86; refine (least_any a _ ha).mono ?_; rintro e w1 ⟨r, hr, rfl, hg1⟩; have hg2 := gb_trans (hg0 _ _) hg1; have hA1 := Blk.grown (Blk.alloc (Blk.new w [.int .u64 a.x0, .int .u64 a.x1, .int .u64 a.x2, .int .u64 a.x3, .int .u64 a.x4] 34) _) hg1 (by simp); have z0 := hA1.cell (i := 0) rfl; have z1 := hA1.cell (i := 1) rfl; have z2 := hA1.cell (i := 2) rfl; have z3 := hA1.cell (i := 3) rfl; have z4 := hA1.cell (i := 4) rfl; have y0 := hA1.free 0; have y1 := hA1.free 1; have y2 := hA1.free 2; have y3 := hA1.free 3; have y4 := hA1.free 4)
 have hlt1 : w.heap.size + 1 < w1.heap.size := by have := hg1.size; simp at this; omega
 have hA2 : Blk ((((((w1.setCell ⟨w.heap.size, 0, none⟩ (.int .u64 r.x0)).setCell ⟨w.heap.size, 1, none⟩ (.int .u64 r.x1)).setCell ⟨w.heap.size, 2, none⟩ (.int .u64 r.x2)).setCell ⟨w.heap.size, 3, none⟩ (.int .u64 r.x3)).setCell ⟨w.heap.size, 4, none⟩ (.int .u64 r.x4)).alloc (.cells #[.int .u8 0, .int .u8 0, .int .u8 0, .int .u8 0, .int .u8 0, .int .u8 0, .int .u8 0, .int .u8 0, .int .u8 0, .int .u8 0, .int .u8 0, .int .u8 0, .int .u8 0, .int .u8 0, .int .u8 0, .int .u8 0, .int .u8 0, .int .u8 0, .int .u8 0, .int .u8 0, .int .u8 0, .int .u8 0, .int .u8 0, .int .u8 0, .int .u8 0, .int .u8 0, .int .u8 0, .int .u8 0, .int .u8 0, .int .u8 0, .int .u8 0, .int .u8 0] 101)) w.heap.size 34 [.int .u64 r.x0, .int .u64 r.x1, .int .u64 r.x2, .int .u64 r.x3, .int .u64 r.x4] := Blk.alloc (Room5.set5 ⟨_, _, _, _, _, hA1⟩ _ _ _ _ _) _
 have hC2 : Blk ((((((w1.setCell ⟨w.heap.size, 0, none⟩ (.int .u64 r.x0)).setCell ⟨w.heap.size, 1, none⟩ (.int .u64 r.x1)).setCell ⟨w.heap.size, 2, none⟩ (.int .u64 r.x2)).setCell ⟨w.heap.size, 3, none⟩ (.int .u64 r.x3)).setCell ⟨w.heap.size, 4, none⟩ (.int .u64 r.x4)).alloc (.cells #[.int .u8 0, .int .u8 0, .int .u8 0, .int .u8 0, .int .u8 0, .int .u8 0, .int .u8 0, .int .u8 0, .int .u8 0, .int .u8 0, .int .u8 0, .int .u8 0, .int .u8 0, .int .u8 0, .int .u8 0, .int .u8 0, .int .u8 0, .int .u8 0, .int .u8 0, .int .u8 0, .int .u8 0, .int .u8 0, .int .u8 0, .int .u8 0, .int .u8 0, .int .u8 0, .int .u8 0, .int .u8 0, .int .u8 0, .int .u8 0, .int .u8 0, .int .u8 0] 101)) w1.heap.size 101 zeros32 := Blk.newAt _ zeros32 _ (by simp)
 have hR2 : Blk ((((((w1.setCell ⟨w.heap.size, 0, none⟩ (.int .u64 r.x0)).setCell ⟨w.heap.size, 1, none⟩ (.int .u64 r.x1)).setCell ⟨w.heap.size, 2, none⟩ (.int .u64 r.x2)).setCell ⟨w.heap.size, 3, none⟩ (.int .u64 r.x3)).setCell ⟨w.heap.size, 4, none⟩ (.int .u64 r.x4)).alloc (.cells #[.int .u8 0, .int .u8 0, .int .u8 0, .int .u8 0, .int .u8 0, .int .u8 0, .int .u8 0, .int .u8 0, .int .u8 0, .int .u8 0, .int .u8 0, .int .u8 0, .int .u8 0, .int .u8 0, .int .u8 0, .int .u8 0, .int .u8 0, .int .u8 0, .int .u8 0, .int .u8 0, .int .u8 0, .int .u8 0, .int .u8 0, .int .u8 0, .int .u8 0, .int .u8 0, .int .u8 0, .int .u8 0, .int .u8 0, .int .u8 0, .int .u8 0, .int .u8 0] 101)) (w.heap.size + 1) 101 zeros32 := Blk.alloc ((((((Blk.grown (Blk.newAt (w.alloc _) zeros32 _ (by simp)) hg1 (by simp)).other (by simp) _).other (by simp) _).other (by simp) _).other (by simp) _).other (by simp) _) _
 have hg3 : w.grownBy ((((((w1.setCell ⟨w.heap.size, 0, none⟩ (.int .u64 r.x0)).setCell ⟨w.heap.size, 1, none⟩ (.int .u64 r.x1)).setCell ⟨w.heap.size, 2, none⟩ (.int .u64 r.x2)).setCell ⟨w.heap.size, 3, none⟩ (.int .u64 r.x3)).setCell ⟨w.heap.size, 4, none⟩ (.int .u64 r.x4)).alloc (.cells #[.int .u8 0, .int .u8 0, .int .u8 0, .int .u8 0, .int .u8 0, .int .u8 0, .int .u8 0, .int .u8 0, .int .u8 0, .int .u8 0, .int .u8 0, .int .u8 0, .int .u8 0, .int .u8 0, .int .u8 0, .int .u8 0, .int .u8 0, .int .u8 0, .int .u8 0, .int .u8 0, .int .u8 0, .int .u8 0, .int .u8 0, .int .u8 0, .int .u8 0, .int .u8 0, .int .u8 0, .int .u8 0, .int .u8 0, .int .u8 0, .int .u8 0, .int .u8 0] 101)) none := gb_alloc (gb_set5 hg2 (Nat.le_refl _) _ _ _ _ _) _
 revert hA2 hC2 hR2 hg3
 clear hA1 z0 z1 z2 z3 z4 y0 y1 y2 y3 y4
 generalize ((((((w1.setCell ⟨w.heap.size, 0, none⟩ (.int .u64 r.x0)).setCell ⟨w.heap.size, 1, none⟩ (.int .u64 r.x1)).setCell ⟨w.heap.size, 2, none⟩ (.int .u64 r.x2)).setCell ⟨w.heap.size, 3, none⟩ (.int .u64 r.x3)).setCell ⟨w.heap.size, 4, none⟩ (.int .u64 r.x4)).alloc (.cells #[.int .u8 0, .int .u8 0, .int .u8 0, .int .u8 0, .int .u8 0, .int .u8 0, .int .u8 0, .int .u8 0, .int .u8 0, .int .u8 0, .int .u8 0, .int .u8 0, .int .u8 0, .int .u8 0, .int .u8 0, .int .u8 0, .int .u8 0, .int .u8 0, .int .u8 0, .int .u8 0, .int .u8 0, .int .u8 0, .int .u8 0, .int .u8 0, .int .u8 0, .int .u8 0, .int .u8 0, .int .u8 0, .int .u8 0, .int .u8 0, .int .u8 0, .int .u8 0] 101)) = W2
 obtain ⟨C, hC⟩ : ∃ C, C = w1.heap.size := ⟨_, rfl⟩
 rw [← hC] at hlt1
 rw [← hC]
 clear hg1 hg2 hC
 intro hA2 hC2 hR2 hg3
 obtain ⟨⟨p00, p01⟩, ⟨p10, p11⟩, ⟨p20, p21⟩, ⟨p30, p31⟩, p40, p41⟩ := least_bd a
 have hwds := least_words a
 rw [← hr.out] at p00 p01 p10 p11 p20 p21 p30 p31 p40 p41 hwds
 have HW := Lib.hid hwds; clear hwds
 have hneC : w.heap.size ≠ C := by omega
 have hneR : w.heap.size + 1 ≠ C := by omega
 have hS0 : BytS w r W2.drew := bytS_mk hA2.drew
 have K0 := Lib.hid (or_lem r.x0 r.x1 51 2251799813685248 8192 (by decide) (by decide) p00 p01 (by decide))
 have K1 := Lib.hid (or_lem (r.x1 / 8192) r.x2 38 274877906944 67108864 (by decide) (by decide) (by omega) (by omega) (by decide))
 have K2 := Lib.hid (or_lem (r.x2 / 67108864) r.x3 25 33554432 549755813888 (by decide) (by decide) (by omega) (by omega) (by decide))
 have K3 := Lib.hid (or_lem (r.x3 / 549755813888) r.x4 12 4096 4503599627370496 (by decide) (by decide) (by omega) (by omega) (by decide))
 go_region_held3 (fun w' => Blk w' w.heap.size 34 [.int .u64 r.x0, .int .u64 r.x1, .int .u64 r.x2, .int .u64 r.x3, .int .u64 r.x4] ∧ w'.cell? ⟨w.heap.size, 0, none⟩ = some (.int .u64 r.x0) ∧ w'.cell? ⟨w.heap.size, 1, none⟩ = some (.int .u64 r.x1) ∧ w'.cell? ⟨w.heap.size, 2, none⟩ = some (.int .u64 r.x2) ∧ w'.cell? ⟨w.heap.size, 3, none⟩ = some (.int .u64 r.x3) ∧ w'.cell? ⟨w.heap.size, 4, none⟩ = some (.int .u64 r.x4))
  (first | (with_reducible exact hS0) | (with_reducible exact bytS_keep (by assumption) hneC (by assumption)))
  (first | (go_simp; go_at_call 87; refine (putWord_any C 0 32 32 101 _ _ _ (by decide) (by decide) hC2.drew).mono ?_; rintro e v1 ⟨rfl, ge1, hd1⟩))
 rw [K0.out, HW.out.1] at hd1
 have hA3 := (hA2.drew).grown ge1 (some_ne hneC)
 have hR3 := (hR2.drew).grown ge1 (some_ne hneR)
 have hg4 := gb_then (gb_drew hg3) ge1 (by omega)
 have hS1 : BytS w r v1.drew := bytS_mk hA3.drew
 clear ge1 hS0 hA2 hR2 hg3 hC2
 go_wp2
 go_region_held3 (fun w' => Blk w' w.heap.size 34 [.int .u64 r.x0, .int .u64 r.x1, .int .u64 r.x2, .int .u64 r.x3, .int .u64 r.x4] ∧ w'.cell? ⟨w.heap.size, 0, none⟩ = some (.int .u64 r.x0) ∧ w'.cell? ⟨w.heap.size, 1, none⟩ = some (.int .u64 r.x1) ∧ w'.cell? ⟨w.heap.size, 2, none⟩ = some (.int .u64 r.x2) ∧ w'.cell? ⟨w.heap.size, 3, none⟩ = some (.int .u64 r.x3) ∧ w'.cell? ⟨w.heap.size, 4, none⟩ = some (.int .u64 r.x4))
  (first | (with_reducible exact hS1) | (with_reducible exact bytS_keep (by assumption) hneC (by assumption)))
  (first | (go_simp; go_at_call 87; refine (putWord_any C 8 24 24 101 _ _ _ (by decide) (by simp only [putN_length]; decide) hd1.drew).mono ?_; rintro e v2 ⟨rfl, ge2, hd2⟩))
 rw [K1.out, HW.out.2.1] at hd2
 have hA4 := (hA3.drew).grown ge2 (some_ne hneC)
 have hR4 := (hR3.drew).grown ge2 (some_ne hneR)
 have hg5 := gb_then (gb_drew hg4) ge2 (by omega)
 have hS2 : BytS w r v2.drew := bytS_mk hA4.drew
 clear ge2 hS1 hA3 hR3 hg4 hd1
 go_wp2
 go_region_held3 (fun w' => Blk w' w.heap.size 34 [.int .u64 r.x0, .int .u64 r.x1, .int .u64 r.x2, .int .u64 r.x3, .int .u64 r.x4] ∧ w'.cell? ⟨w.heap.size, 0, none⟩ = some (.int .u64 r.x0) ∧ w'.cell? ⟨w.heap.size, 1, none⟩ = some (.int .u64 r.x1) ∧ w'.cell? ⟨w.heap.size, 2, none⟩ = some (.int .u64 r.x2) ∧ w'.cell? ⟨w.heap.size, 3, none⟩ = some (.int .u64 r.x3) ∧ w'.cell? ⟨w.heap.size, 4, none⟩ = some (.int .u64 r.x4))
  (first | (with_reducible exact hS2) | (with_reducible exact bytS_keep (by assumption) hneC (by assumption)))
  (first | (go_simp; go_at_call 87; refine (putWord_any C 16 16 16 101 _ _ _ (by decide) (by simp only [putN_length]; decide) hd2.drew).mono ?_; rintro e v3 ⟨rfl, ge3, hd3⟩))
 rw [K2.out, HW.out.2.2.1] at hd3
 have hA5 := (hA4.drew).grown ge3 (some_ne hneC)
 have hR5 := (hR4.drew).grown ge3 (some_ne hneR)
 have hg6 := gb_then (gb_drew hg5) ge3 (by omega)
 have hS3 : BytS w r v3.drew := bytS_mk hA5.drew
 clear ge3 hS2 hA4 hR4 hg5 hd2
 go_wp2
 go_region_held3 (fun w' => Blk w' w.heap.size 34 [.int .u64 r.x0, .int .u64 r.x1, .int .u64 r.x2, .int .u64 r.x3, .int .u64 r.x4] ∧ w'.cell? ⟨w.heap.size, 0, none⟩ = some (.int .u64 r.x0) ∧ w'.cell? ⟨w.heap.size, 1, none⟩ = some (.int .u64 r.x1) ∧ w'.cell? ⟨w.heap.size, 2, none⟩ = some (.int .u64 r.x2) ∧ w'.cell? ⟨w.heap.size, 3, none⟩ = some (.int .u64 r.x3) ∧ w'.cell? ⟨w.heap.size, 4, none⟩ = some (.int .u64 r.x4))
  (first | (with_reducible exact hS3) | (with_reducible exact bytS_keep (by assumption) hneC (by assumption)))
  (first | (go_simp; go_at_call 87; refine (putWord_any C 24 8 8 101 _ _ _ (by decide) (by simp only [putN_length]; decide) hd3.drew).mono ?_; rintro e v4 ⟨rfl, ge4, hd4⟩))
 rw [K3.out, HW.out.2.2.2, bytes_laid] at hd4
 have hR6 := (hR5.drew).grown ge4 (some_ne hneR)
 have hg7 := gb_then (gb_drew hg6) ge4 (by omega)
 clear ge4 hS3 hA5 hR5 hg6 hd3 K0 K1 K2 K3
 obtain ⟨X, hX⟩ : ∃ X, X = bytesV (Fe.m a) := ⟨_, rfl⟩
 rw [← hX] at hd4
 have hXl : X.length = 32 := by rw [hX]; rfl
 have hX1 : X.toArray.all (·.oneCell') = true := by rw [hX]; exact bytesV_one _
 have HX := Lib.hid (And.intro hX (And.intro hXl hX1)); clear hX hXl hX1
 have HM := Lib.hid (And.intro hd4 hR6); clear hd4 hR6
 go_wp2_with (first
  | (refine wpList_load_row rfl 101 (.tmp 3) rfl C rfl 101 X.toArray (0, 0) _ HM.out.1 Tryz.underlying101 rfl (by rw [List.size_toArray, HX.out.2.1]; exact info_b32) ?_)
  | (refine wpList_store_row rfl 101 (.tmp 2) (.tmp 41) rfl (w.heap.size + 1) X.toArray rfl rfl 101 zeros32.toArray HM.out.2 (by rw [List.size_toArray, HX.out.2.1]; exact info_b32) (by rw [List.size_toArray, List.size_toArray, HX.out.2.1]; rfl) HX.out.2.2 ?_))
 refine bodyPost_ret (v := .agg X.toArray) ?_ rfl ⟨by rw [HX.out.1], gb_setRow hg7 (by omega) _⟩
 exact results_cell_row Tryz.results60 _ _ (w.heap.size + 1) 101 X.toArray (0, 0) _ rfl (HM.out.2.row X) Tryz.underlying101 rfl (by rw [List.size_toArray, HX.out.2.1]; exact info_b32)
end
section
open Go.RowKit
theorem run_eqItems_ints {P : Program} (w : World) (d : Nat) {e : TypeId} {k : IntKind} (he : P.plainKey e = true) (hu : P.underlying e = some (.int k)) (f g : Nat → Int) (xs ys : Array Value) (is : List Nat)
    (hx : ∀ i ∈ is, xs[i * 1]? = some (.int k (f i))) (hy : ∀ i ∈ is, ys[i * 1]? = some (.int k (g i))) : (Op.eqItems (d + 1) e 1 xs ys is).run P w = .ok (is.all fun i => f i == g i) w := by
  induction is with
  | nil => simp [Op.eqItems]
  | cons i r ih =>
    have h1 := run_part_plain w he (hx i (List.mem_cons_self ..))
    have h2 := run_part_plain w he (hy i (List.mem_cons_self ..))
    simp only [Op.eqItems, Sem.run_bind, h1, h2, Result.andThen_ok, run_equalIn_int w d e k k (f i) (g i) hu, List.all_cons]
    cases hfg : f i == g i
    · simp
    · simpa using ih (fun j hj => hx j (List.mem_cons_of_mem _ hj)) (fun j hj => hy j (List.mem_cons_of_mem _ hj))
theorem digits_same (n : Nat) : ∀ x y : Int, 0 ≤ x → 0 ≤ y → x < 2 ^ (8 * n) → y < 2 ^ (8 * n) → (∀ i, i < n → x / 2 ^ (8 * i) % 256 = y / 2 ^ (8 * i) % 256) → x = y := by
  induction n with
  | zero => intro x y h0 k0 h1 k1 _; simp at h1 k1; omega
  | succ n ih =>
    intro x y h0 k0 h1 k1 h
    have e : (2 : Int) ^ (8 * (n + 1)) = 256 * 2 ^ (8 * n) := by rw [show 8 * (n + 1) = 8 * n + 8 by omega, Int.pow_add]; omega
    rw [e] at h1 k1
    have hd : x / 256 = y / 256 := ih _ _ (by omega) (by omega) (by omega) (by omega) fun i hi => by
      have := h (i + 1) (by omega)
      have e2 : (2 : Int) ^ (8 * (i + 1)) = 256 * 2 ^ (8 * i) := by rw [show 8 * (i + 1) = 8 * i + 8 by omega, Int.pow_add]; omega
      rw [e2, ← Int.ediv_ediv_of_nonneg (by decide), ← Int.ediv_ediv_of_nonneg (by decide)] at this
      exact this
    have hm := h 0 (by omega)
    simp at hm
    omega
theorem bytes_same (x y : Int) (h0 : 0 ≤ x) (k0 : 0 ≤ y) (h1 : x < 2 ^ 256) (k1 : y < 2 ^ 256) :
    ((List.range 32).all fun i => (x / 2 ^ (8 * i) % 256 == y / 2 ^ (8 * i) % 256)) = decide (x = y) := by
  rw [Bool.eq_iff_iff, List.all_eq_true, decide_eq_true_iff]
  constructor
  · intro h
    exact digits_same 32 x y h0 k0 h1 k1 fun i hi => by simpa using h i (List.mem_range.2 hi)
  · rintro rfl i _; simp
theorem bytesV_get (x : Int) (i : Nat) (h : i < 32) : (bytesV x)[i]? = some (bytV x i) := by
  unfold bytesV; rw [List.getElem?_map, List.getElem?_range h]; rfl
theorem info_u8 : ∃ i, Tryz.prog.info? 5 = some i := by
  cases h : Tryz.prog.info? 5 with
  | none => exact absurd h (by have : (Tryz.prog.info? 5).isSome = true := by kernel_rfl
                               intro e; rw [e] at this; cases this)
  | some i => exact ⟨i, rfl⟩
theorem eql_bytes (x y : Int) (h0 : 0 ≤ x) (k0 : 0 ≤ y) (h1 : x < 2 ^ 256) (k1 : y < 2 ^ 256) (w : World) :
    (binOp .eql 101 (.agg (bytesV x).toArray) (.agg (bytesV y).toArray)).run Tryz.prog w = .ok (.bool (decide (x = y))) w := by
  obtain ⟨j, hj⟩ := info_u8
  have hc : Tryz.prog.cellsOf 5 = 1 := by kernel_rfl
  rw [run_eql_struct, run_equalIn_array w 9999 _ _ Tryz.underlying101 hj, hc,
    run_eqItems_ints w 9998 (by kernel_rfl) Tryz.underlying5 (fun i => x / 2 ^ (8 * i) % 256) (fun i => y / 2 ^ (8 * i) % 256) _ _ _
      (fun i hi => by rw [Nat.mul_one, List.getElem?_toArray]; exact bytesV_get x i (List.mem_range.1 hi)) (fun i hi => by rw [Nat.mul_one, List.getElem?_toArray]; exact bytesV_get y i (List.mem_range.1 hi)),
    bytes_same x y h0 k0 h1 k1]
  rfl
theorem m_256 (a : Fe) : (Fe.m a : Int) < 2 ^ 256 := by
  have := (m_bd a).2
  have e : (2 : Int) ^ 256 = 115792089237316195423570985008687907853269984665640564039457584007913129639936 := by decide
  omega
abbrev TwoS (w : World) (a b : Fe) (w' : World) : Prop := Blk w' w.heap.size 34 [.int .u64 a.x0, .int .u64 a.x1, .int .u64 a.x2, .int .u64 a.x3, .int .u64 a.x4] ∧ Blk w' (w.heap.size + 1) 34 [.int .u64 b.x0, .int .u64 b.x1, .int .u64 b.x2, .int .u64 b.x3, .int .u64 b.x4] ∧ w.grownBy w' none ∧ w'.cell? ⟨w.heap.size, 0, none⟩ = some (.int .u64 a.x0) ∧ w'.cell? ⟨w.heap.size, 1, none⟩ = some (.int .u64 a.x1) ∧ w'.cell? ⟨w.heap.size, 2, none⟩ = some (.int .u64 a.x2) ∧ w'.cell? ⟨w.heap.size, 3, none⟩ = some (.int .u64 a.x3) ∧ w'.cell? ⟨w.heap.size, 4, none⟩ = some (.int .u64 a.x4) ∧ w'.cell? ⟨w.heap.size + 1, 0, none⟩ = some (.int .u64 b.x0) ∧ w'.cell? ⟨w.heap.size + 1, 1, none⟩ = some (.int .u64 b.x1) ∧ w'.cell? ⟨w.heap.size + 1, 2, none⟩ = some (.int .u64 b.x2) ∧ w'.cell? ⟨w.heap.size + 1, 3, none⟩ = some (.int .u64 b.x3) ∧ w'.cell? ⟨w.heap.size + 1, 4, none⟩ = some (.int .u64 b.x4)
theorem twoS_mk {w w' : World} {a b : Fe} (hA : Blk w' w.heap.size 34 [.int .u64 a.x0, .int .u64 a.x1, .int .u64 a.x2, .int .u64 a.x3, .int .u64 a.x4]) (hB : Blk w' (w.heap.size + 1) 34 [.int .u64 b.x0, .int .u64 b.x1, .int .u64 b.x2, .int .u64 b.x3, .int .u64 b.x4]) (hg : w.grownBy w' none) : TwoS w a b w' :=
  ⟨hA, hB, hg, hA.cell (i := 0) rfl, hA.cell (i := 1) rfl, hA.cell (i := 2) rfl, hA.cell (i := 3) rfl, hA.cell (i := 4) rfl, hB.cell (i := 0) rfl, hB.cell (i := 1) rfl, hB.cell (i := 2) rfl, hB.cell (i := 3) rfl, hB.cell (i := 4) rfl⟩
theorem twoS_keep {w w1 w2 : World} {a b : Fe} (hg : w1.grownBy w2 none) (h : TwoS w a b w1) : TwoS w a b w2 :=
  twoS_mk (h.1.grown hg (by simp)) (h.2.1.grown hg (by simp)) (gb_trans h.2.2.1 hg)
set_option maxRecDepth 100000 in
set_option maxHeartbeats 1600000 in
theorem same_any (a b : Fe) (w : World) (ha : a.Ok) (hb : b.Ok) :
    Calls Tryz.prog 37 #[.agg #[.int .u64 a.x0, .int .u64 a.x1, .int .u64 a.x2, .int .u64 a.x3, .int .u64 a.x4], .agg #[.int .u64 b.x0, .int .u64 b.x1, .int .u64 b.x2, .int .u64 b.x3, .int .u64 b.x4]] w fun e w' => e = .returned (.bool (decide (Fe.m a = Fe.m b))) ∧ w.grownBy w' none := by
  have hE := eql_bytes (Fe.m a) (Fe.m b) (m_bd a).1 (m_bd b).1 (m_256 a) (m_256 b)
  have hq : decide ((Fe.m a : Int) = (Fe.m b : Int)) = decide (Fe.m a = Fe.m b) := by
    rw [Bool.eq_iff_iff, decide_eq_true_iff, decide_eq_true_iff]; omega
  rw [hq] at hE
  clear hq
  go_enter Tryz.func37, Tryz.ntmps37
  go_wp2
  have hS0 : TwoS w a b ((w.alloc (.cells #[.int .u64 a.x0, .int .u64 a.x1, .int .u64 a.x2, .int .u64 a.x3, .int .u64 a.x4] 34)).alloc (.cells #[.int .u64 b.x0, .int .u64 b.x1, .int .u64 b.x2, .int .u64 b.x3, .int .u64 b.x4] 34)).drew :=
    twoS_mk ((Blk.new w [.int .u64 a.x0, .int .u64 a.x1, .int .u64 a.x2, .int .u64 a.x3, .int .u64 a.x4] _).alloc _).drew (Blk.newAt (w.alloc _) [.int .u64 b.x0, .int .u64 b.x1, .int .u64 b.x2, .int .u64 b.x3, .int .u64 b.x4] _ (by simp)).drew (gb_drew (gb_alloc (gb_alloc (gb_refl _ _) _) _))
  revert hS0
  generalize (w.alloc (.cells #[.int .u64 a.x0, .int .u64 a.x1, .int .u64 a.x2, .int .u64 a.x3, .int .u64 a.x4] 34)).alloc (.cells #[.int .u64 b.x0, .int .u64 b.x1, .int .u64 b.x2, .int .u64 b.x3, .int .u64 b.x4] 34) = W0
  intro hS0
  go_region_held3 (fun w' => Blk w' w.heap.size 34 [.int .u64 a.x0, .int .u64 a.x1, .int .u64 a.x2, .int .u64 a.x3, .int .u64 a.x4] ∧ Blk w' (w.heap.size + 1) 34 [.int .u64 b.x0, .int .u64 b.x1, .int .u64 b.x2, .int .u64 b.x3, .int .u64 b.x4] ∧ w.grownBy w' none ∧ w'.cell? ⟨w.heap.size, 0, none⟩ = some (.int .u64 a.x0) ∧ w'.cell? ⟨w.heap.size, 1, none⟩ = some (.int .u64 a.x1) ∧ w'.cell? ⟨w.heap.size, 2, none⟩ = some (.int .u64 a.x2) ∧ w'.cell? ⟨w.heap.size, 3, none⟩ = some (.int .u64 a.x3) ∧ w'.cell? ⟨w.heap.size, 4, none⟩ = some (.int .u64 a.x4) ∧ w'.cell? ⟨w.heap.size + 1, 0, none⟩ = some (.int .u64 b.x0) ∧ w'.cell? ⟨w.heap.size + 1, 1, none⟩ = some (.int .u64 b.x1) ∧ w'.cell? ⟨w.heap.size + 1, 2, none⟩ = some (.int .u64 b.x2) ∧ w'.cell? ⟨w.heap.size + 1, 3, none⟩ = some (.int .u64 b.x3) ∧ w'.cell? ⟨w.heap.size + 1, 4, none⟩ = some (.int .u64 b.x4))
    (first | (with_reducible exact hS0) | (with_reducible exact twoS_keep (by assumption) (by assumption)))
    (first | (go_simp; go_at_call 60; refine (bytesOf_any _ _ ?_).mono ?_; assumption; rintro e w1 ⟨rfl, hg1⟩))
  go_wp2
  clear hE
  go_ret
  refine ⟨rfl, ?_⟩
  with_reducible exact (show TwoS w a b _ from (by assumption)).2.2.1
theorem m_zero : Fe.m ⟨0, 0, 0, 0, 0⟩ = 0 := by decide +kernel
theorem ok_zero : Fe.Ok ⟨0, 0, 0, 0, 0⟩ := by constructor <;> decide
set_option maxHeartbeats 400000 in
theorem zero_any (a : Fe) (w : World) (ha : a.Ok) :
    Calls Tryz.prog 85 #[.agg #[.int .u64 a.x0, .int .u64 a.x1, .int .u64 a.x2, .int .u64 a.x3, .int .u64 a.x4]] w fun e w' => e = .returned (.bool (decide (Fe.m a = 0))) ∧ w.grownBy w' none := by
  have hg0 : ∀ c0, w.grownBy (w.alloc c0) none := fun c0 => gb_alloc (gb_refl _ _) _
  go_enter Tryz.func85, Tryz.ntmps85
  go_wp2_with (go_at_call 37; refine (same_any a ⟨0, 0, 0, 0, 0⟩ _ ha ok_zero).mono ?_; rintro e w1 ⟨rfl, hg1⟩)
  go_ret
  exact ⟨by rw [m_zero]; rfl, gb_trans (hg0 _) hg1⟩
theorem odd_bits (x : Int) (_ : 0 ≤ x) : (bits .and .u8 (x % 256) 1 == 1) = decide (x % 2 = 1) := by
  have all : ∀ j : Fin 256, (bits .and .u8 (j.val : Int) 1 == 1) = decide ((j.val : Int) % 2 = 1) := by decide +kernel
  obtain ⟨n, hn⟩ := Int.eq_ofNat_of_zero_le (show 0 ≤ x % 256 by omega)
  have h1 : (bits .and .u8 (n : Int) 1 == 1) = decide ((n : Int) % 2 = 1) := all ⟨n, by omega⟩
  have e : (n : Int) % 2 = x % 2 := by omega
  rw [hn, h1, e]
set_option maxHeartbeats 400000 in
theorem odd_any (a : Fe) (w : World) (ha : a.Ok) :
    Calls Tryz.prog 54 #[.agg #[.int .u64 a.x0, .int .u64 a.x1, .int .u64 a.x2, .int .u64 a.x3, .int .u64 a.x4]] w fun e w' => e = .returned (.bool (decide (Fe.m a % 2 = 1))) ∧ w.grownBy w' none := by
  have hg0 : ∀ c0, w.grownBy (w.alloc c0) none := fun c0 => gb_alloc (gb_refl _ _) _
  have hi : ∀ w, (Instr.index 101 (.agg (bytesV (Fe.m a)).toArray) (.int .i64 0)).run Tryz.prog w = .ok (.int .u8 ((Fe.m a : Int) / 1 % 256)) w := fun _ => by kernel_rfl
  simp only [Int.ediv_one] at hi
  have ho := odd_bits (Fe.m a) (m_bd a).1
  go_enter Tryz.func54, Tryz.ntmps54
  go_wp2_with (go_at_call 60; refine (bytesOf_any a _ ha).mono ?_; rintro e w1 ⟨rfl, hg1⟩)
  clear ho hi
  go_ret
  refine ⟨?_, gb_trans (hg0 _) hg1⟩
  have e : decide ((Fe.m a : Int) % 2 = 1) = decide (Fe.m a % 2 = 1) := by
    rw [Bool.eq_iff_iff, decide_eq_true_iff, decide_eq_true_iff]; omega
  rw [← e]; rfl
set_option maxHeartbeats 400000 in
theorem put_any (a : Fe) (w : World) (ha : a.Ok) :
    Calls Tryz.prog 53 #[.agg #[.int .u64 a.x0, .int .u64 a.x1, .int .u64 a.x2, .int .u64 a.x3, .int .u64 a.x4]] w fun e w' => ∃ NB, e = .returned (.slice (some ⟨NB, 0, none⟩) 32 32) ∧ w.grownBy w' none ∧ w.heap.size ≤ NB ∧ Blk w' NB 101 (bytesV (Fe.m a)) := by
  have hg0 : ∀ c0, w.grownBy (w.alloc c0) none := fun c0 => gb_alloc (gb_refl _ _) _
  obtain ⟨X, hX⟩ : ∃ X, X = bytesV (Fe.m a) := ⟨_, rfl⟩
  have hXl : X.length = 32 := by rw [hX]; rfl
  have hX1 : X.toArray.all (·.oneCell') = true := by rw [hX]; exact bytesV_one _
  have HX := Lib.hid (And.intro hX (And.intro hXl hX1)); clear hX hXl hX1
  go_enter Tryz.func53, Tryz.ntmps53
  go_wp2_with fail
  refine (bytesOf_any a _ ha).mono ?_
  rintro e w1 ⟨rfl, hg1⟩
  rw [← HX.out.1]
  go_wp2_with (refine wpList_store_row rfl 101 (.tmp 3) (.tmp 5) rfl w1.heap.size X.toArray rfl rfl 101 zeros32.toArray (Blk.new w1 zeros32 101) (by rw [List.size_toArray, HX.out.2.1]; exact info_b32) (by rw [List.size_toArray, List.size_toArray, HX.out.2.1]; rfl) HX.out.2.2 ?_)
  have hb := (Blk.new w1 zeros32 101).row X
  rw [HX.out.1] at hb
  go_ret
  exact ⟨w1.heap.size, rfl, gb_setRow (gb_alloc (gb_trans (hg0 _) hg1) _) (Nat.le_trans (hg0 (.cells #[] 0)).size (Nat.le_trans (by simp) hg1.size)) _, by have := hg1.size; simp at this; omega, by rw [HX.out.1]; exact hb⟩
end
section
open Go.RowKit
theorem mul_fe (a b : Fe) (w : World) (ha : a.Ok) (hb : b.Ok) : Calls Tryz.prog 38 #[.agg #[.int .u64 a.x0, .int .u64 a.x1, .int .u64 a.x2, .int .u64 a.x3, .int .u64 a.x4], .agg #[.int .u64 b.x0, .int .u64 b.x1, .int .u64 b.x2, .int .u64 b.x3, .int .u64 b.x4]] w (FeOut (Fe.mulF a b) w) :=
 mul_any a.x0 a.x1 a.x2 a.x3 a.x4 b.x0 b.x1 b.x2 b.x3 b.x4 w ha.n0 ha.l0 ha.n1 ha.l1 ha.n2 ha.l2 ha.n3 ha.l3 ha.n4 ha.l4 hb.n0 hb.l0 hb.n1 hb.l1 hb.n2 hb.l2 hb.n3 hb.l3 hb.n4 hb.l4
theorem sq_fe (a : Fe) (w : World) (ha : a.Ok) : Calls Tryz.prog 77 #[.agg #[.int .u64 a.x0, .int .u64 a.x1, .int .u64 a.x2, .int .u64 a.x3, .int .u64 a.x4]] w (FeOut (Fe.sqF a) w) :=
 sq_any a.x0 a.x1 a.x2 a.x3 a.x4 w ha.n0 ha.l0 ha.n1 ha.l1 ha.n2 ha.l2 ha.n3 ha.l3 ha.n4 ha.l4
def sqN : Nat → Fe → Fe
 | 0, p => p
 | n + 1, p => Fe.sqF (sqN n p)
theorem sqN_ok {p : Fe} (h : p.Ok) (n : Nat) : (sqN n p).Ok := by
 cases n with
 | zero => exact h
 | succ n => exact (Fe.sq_right _).ok
def stepF (n : Nat) (p b : Fe) : Fe := Fe.mulF (sqN n p) b
def feL (a : Fe) : List Value := [.int .u64 a.x0, .int .u64 a.x1, .int .u64 a.x2, .int .u64 a.x3, .int .u64 a.x4]
set_option maxHeartbeats 400000 in
theorem powers_any (a : Fe) (w : World) :
  Calls Tryz.prog 103 #[.agg #[.int .u64 a.x0, .int .u64 a.x1, .int .u64 a.x2, .int .u64 a.x3, .int .u64 a.x4]] w fun e w' => e = .returned (.func (.func 111) #[] #[.pointer (some ⟨w.heap.size + 1, 0, none⟩)]) ∧ w.grownBy w' none ∧ Blk w' (w.heap.size + 1) 34 (feL a) := by
 have hmf : ∀ (fn : Fn) (first cap : Array Value) (w : World), (Instr.makeFunc fn first cap).run Tryz.prog w = .ok (.func fn first cap) w := fun _ _ _ _ => rfl
 go_enter Tryz.func103, Tryz.ntmps103
 go_wp2
 go_ret
 exact ⟨rfl, gb_alloc (gb_alloc (gb_refl _ _) _) _, Blk.newAt (w.alloc _) (feL a) _ (by simp)⟩
set_option maxHeartbeats 1600000 in
theorem step_any (C n : Nat) (p b : Fe) (w : World) (hn : n ≤ 1000) (hp : p.Ok) (hb : b.Ok) (hC : Blk w C 34 (feL p)) :
  Calls Tryz.prog 111 #[.int .i64 n, .agg #[.int .u64 b.x0, .int .u64 b.x1, .int .u64 b.x2, .int .u64 b.x3, .int .u64 b.x4], .pointer (some ⟨C, 0, none⟩)] w fun e w' => ∃ r : Fe, Hid (r = stepF n p b) ∧ e = .returned (.agg #[.int .u64 r.x0, .int .u64 r.x1, .int .u64 r.x2, .int .u64 r.x3, .int .u64 r.x4]) ∧ w.grownBy w' (some C) ∧ Blk w' C 34 (feL r) := by
 have hlt := hC.lt
 go_enter Tryz.func111, Tryz.ntmps111
 go_wp2
 go_loopw [7] (fun i wr => ∃ k : Nat, k ≤ n ∧ i = .int .i64 k ∧ w.grownBy wr (some C) ∧ Blk wr C 34 (feL (sqN k p)) ∧ Blk wr w.heap.size 34 (feL b) ∧ Room5 wr (w.heap.size + 1) 34) (fun i _ => n - (intOf i).toNat)
 case atStart => exact ⟨0, by omega, rfl, gb_alloc (gb_alloc (gb_refl _ _) _) _, (hC.alloc _).alloc _, (Blk.new w (feL b) _).alloc _, ⟨_, _, _, _, _, Blk.newAt _ [.int .u64 0, .int .u64 0, .int .u64 0, .int .u64 0, .int .u64 0] _ (by simp)⟩⟩
 case round =>
  obtain ⟨k, hk, rfl, hg, hP, hB, hR⟩ := hrel
  have hok := sqN_ok hp k
  by_cases hlt2 : k < n
  ·have hs : Hid (sqN (k + 1) p = Fe.sqF (sqN k p)) := Lib.hid rfl
   obtain ⟨q, hq⟩ : ∃ q, q = sqN k p := ⟨_, rfl⟩
   rw [← hq] at hP hok
   have HQ := Lib.hid hq; clear hq
   have z0 := hP.cell (i := 0) rfl; have z1 := hP.cell (i := 1) rfl; have z2 := hP.cell (i := 2) rfl; have z3 := hP.cell (i := 3) rfl; have z4 := hP.cell (i := 4) rfl
   go_wp2_with (go_at_call 77; refine (sq_fe q _ hok).mono ?_; rintro e w1 ⟨r, hr, rfl, hg1⟩; have hP1 := hP.grown hg1 (by simp); have y0 := hP1.cell (i := 0) rfl; have y1 := hP1.cell (i := 1) rfl; have y2 := hP1.cell (i := 2) rfl; have y3 := hP1.cell (i := 3) rfl; have y4 := hP1.cell (i := 4) rfl; have f0 := hP1.free 0; have f1 := hP1.free 1; have f2 := hP1.free 2; have f3 := hP1.free 3; have f4 := hP1.free 4)
   go_roundw
   case rel =>
    refine ⟨k + 1, by omega, by go_num, gb_set (gb_set (gb_set (gb_set (gb_set (gb_trans hg (gb_row hg1 _)) _ _) _ _) _ _) _ _) _ _, ?_, ?_, ?_⟩
    ·have := Room5.set5 ⟨_, _, _, _, _, hP1⟩ (.int .u64 r.x0) (.int .u64 r.x1) (.int .u64 r.x2) (.int .u64 r.x3) (.int .u64 r.x4)
     rw [hs.out, ← HQ.out, ← hr.out]
     exact this
    ·exact (((((hB.grown hg1 (by simp)).other (by simp; omega) _).other (by simp; omega) _).other (by simp; omega) _).other (by simp; omega) _).other (by simp; omega) _
    ·exact room5_set (room5_set (room5_set (room5_set (room5_set (hR.grown hg1 (by simp)) (by simp; omega) _) (by simp; omega) _) (by simp; omega) _) (by simp; omega) _) (by simp; omega) _
   case measure => simp [intOf]; omega
  ·obtain rfl : k = n := by omega
   obtain ⟨q, hq⟩ : ∃ q, q = sqN k p := ⟨_, rfl⟩
   rw [← hq] at hP hok
   have HQ := Lib.hid hq; clear hq
   have z0 := hP.cell (i := 0) rfl; have z1 := hP.cell (i := 1) rfl; have z2 := hP.cell (i := 2) rfl; have z3 := hP.cell (i := 3) rfl; have z4 := hP.cell (i := 4) rfl
   have v0 := hB.cell (i := 0) rfl; have v1 := hB.cell (i := 1) rfl; have v2 := hB.cell (i := 2) rfl; have v3 := hB.cell (i := 3) rfl; have v4 := hB.cell (i := 4) rfl
   go_wp2_with (go_at_call 38; refine (mul_fe q b _ hok hb).mono ?_; rintro e w1 ⟨r, hr, rfl, hg1⟩; have hP1 := hP.grown hg1 (by simp); have y0 := hP1.cell (i := 0) rfl; have y1 := hP1.cell (i := 1) rfl; have y2 := hP1.cell (i := 2) rfl; have y3 := hP1.cell (i := 3) rfl; have y4 := hP1.cell (i := 4) rfl; have f0 := hP1.free 0; have f1 := hP1.free 1; have f2 := hP1.free 2; have f3 := hP1.free 3; have f4 := hP1.free 4; obtain ⟨u0, u1, u2, u3, u4, hR1⟩ := hR.grown hg1 (by simp); have t0 := hR1.cell (i := 0) rfl; have t1 := hR1.cell (i := 1) rfl; have t2 := hR1.cell (i := 2) rfl; have t3 := hR1.cell (i := 3) rfl; have t4 := hR1.cell (i := 4) rfl; have g0 := hR1.free 0; have g1 := hR1.free 1; have g2 := hR1.free 2; have g3 := hR1.free 3; have g4 := hR1.free 4)
   refine bodyPost_ret (v := .agg #[.int .u64 r.x0, .int .u64 r.x1, .int .u64 r.x2, .int .u64 r.x3, .int .u64 r.x4]) ?_ rfl ⟨r, ?_, rfl, ?_, ?_⟩
   ·simp [results, Tryz.results111, go_sem, t0, t1, t2, t3, t4]
   ·have e := hr.out
    rw [HQ.out] at e
    exact e
   ·exact gb_set_new (gb_set_new (gb_set_new (gb_set_new (gb_set_new (gb_set (gb_set (gb_set (gb_set (gb_set (gb_trans hg (gb_row hg1 _)) _ _) _ _) _ _) _ _) _ _) (by simp) _) (by simp) _) (by simp) _) (by simp) _) (by simp) _
   ·exact (((((Room5.set5 ⟨_, _, _, _, _, hP1⟩ (.int .u64 r.x0) (.int .u64 r.x1) (.int .u64 r.x2) (.int .u64 r.x3) (.int .u64 r.x4)).other (by simp; omega) _).other (by simp; omega) _).other (by simp; omega) _).other (by simp; omega) _).other (by simp; omega) _
end
section
open Go.RowKit
def ones1 (a : Fe) : Fe := stepF 1 a a
def ones2 (a : Fe) : Fe := stepF 2 (ones1 a) (ones1 a)
def ones3 (a : Fe) : Fe := stepF 1 (ones2 a) a
def ones4 (a : Fe) : Fe := stepF 5 (ones3 a) (ones3 a)
def ones5 (a : Fe) : Fe := stepF 10 (ones4 a) (ones4 a)
def ones6 (a : Fe) : Fe := stepF 20 (ones5 a) (ones5 a)
def ones7 (a : Fe) : Fe := stepF 10 (ones6 a) (ones4 a)
def ones8 (a : Fe) : Fe := stepF 50 (ones7 a) (ones7 a)
def ones9 (a : Fe) : Fe := stepF 100 (ones8 a) (ones8 a)
def ones10 (a : Fe) : Fe := stepF 50 (ones9 a) (ones7 a)
theorem stepF_ok (n : Nat) (p b : Fe) : (stepF n p b).Ok := (Fe.mul_right _ _).ok
set_option maxRecDepth 100000 in
set_option maxHeartbeats 1600000 in
theorem manyOnes_any (a : Fe) (w : World) (ha : a.Ok) :
  Calls Tryz.prog 78 #[.agg #[.int .u64 a.x0, .int .u64 a.x1, .int .u64 a.x2, .int .u64 a.x3, .int .u64 a.x4]] w fun e w' => ∃ (C : Nat) (r : Fe), Hid (r = ones10 a) ∧ e = .returned (.func (.func 111) #[] #[.pointer (some ⟨C, 0, none⟩)]) ∧ w.grownBy w' none ∧ w.heap.size ≤ C ∧ Blk w' C 34 (feL r) := by
 go_enter Tryz.func78, Tryz.ntmps78
 have hA0 : Blk (w.alloc (.cells #[.int .u64 a.x0, .int .u64 a.x1, .int .u64 a.x2, .int .u64 a.x3, .int .u64 a.x4] 34)) w.heap.size 34 (feL a) := Blk.new w (feL a) _
 go_wp2_with fail
 refine (powers_any a _).mono ?_
 rintro e v0 ⟨rfl, hg0, hP0⟩
 have hsz : (w.alloc (.cells #[.int .u64 a.x0, .int .u64 a.x1, .int .u64 a.x2, .int .u64 a.x3, .int .u64 a.x4] 34)).heap.size = w.heap.size + 1 := by simp
 rw [hsz] at hP0
 clear hsz
 have G0 := gb_trans (gb_alloc (gb_refl w none) _) hg0
 have hAv0 := hA0.grown hg0 (by simp)
 have lt0 := hP0.lt
 clear hA0 hg0
 have cA0 := hAv0.cell (i := 0) rfl
 have cA1 := hAv0.cell (i := 1) rfl
 have cA2 := hAv0.cell (i := 2) rfl
 have cA3 := hAv0.cell (i := 3) rfl
 have cA4 := hAv0.cell (i := 4) rfl
 go_wp2_with fail
 refine (step_any (w.heap.size + 1 + 1) 1 a a _ (by decide) ha ha hP0).mono ?_
 rintro e v1 ⟨r1, hr1, rfl, hg1, hP1⟩
 have G1 := gb_then G0 hg1 (by omega)
 have lt1 := hP1.lt
 have ok1 : r1.Ok := by rw [hr1.out]; exact stepF_ok _ _ _
 have h_a_1 := hAv0.grown hg1 (some_ne (by omega))
 clear hg1 G0 hP0 hAv0
 clear cA0 cA1 cA2 cA3 cA4
 have h_two_n : Blk (v1.alloc (.cells #[.int .u64 r1.x0, .int .u64 r1.x1, .int .u64 r1.x2, .int .u64 r1.x3, .int .u64 r1.x4] 34)) v1.heap.size 34 (feL r1) := Blk.new v1 (feL r1) _
 go_wp2_with fail
 refine (step_any (w.heap.size + 1 + 1) 2 r1 r1 _ (by decide) ok1 ok1 (hP1.alloc _)).mono ?_
 rintro e v2 ⟨r2, hr2, rfl, hg2, hP2⟩
 have G2 := gb_then (gb_alloc G1 _) hg2 (by omega)
 have lt2 := hP2.lt
 have ok2 : r2.Ok := by rw [hr2.out]; exact stepF_ok _ _ _
 have h_a_2 := (h_a_1.alloc _).grown hg2 (some_ne (by omega))
 clear hg2 G1 hP1 h_a_1 h_two_n
 skip
 have c2_0 := h_a_2.cell (i := 0) rfl
 have c2_1 := h_a_2.cell (i := 1) rfl
 have c2_2 := h_a_2.cell (i := 2) rfl
 have c2_3 := h_a_2.cell (i := 3) rfl
 have c2_4 := h_a_2.cell (i := 4) rfl
 go_wp2_with fail
 refine (step_any (w.heap.size + 1 + 1) 1 r2 a _ (by decide) ok2 ha hP2).mono ?_
 rintro e v3 ⟨r3, hr3, rfl, hg3, hP3⟩
 have G3 := gb_then G2 hg3 (by omega)
 have lt3 := hP3.lt
 have ok3 : r3.Ok := by rw [hr3.out]; exact stepF_ok _ _ _
 clear hg3 G2 hP2 h_a_2
 clear c2_0 c2_1 c2_2 c2_3 c2_4
 have h_five_n : Blk (v3.alloc (.cells #[.int .u64 r3.x0, .int .u64 r3.x1, .int .u64 r3.x2, .int .u64 r3.x3, .int .u64 r3.x4] 34)) v3.heap.size 34 (feL r3) := Blk.new v3 (feL r3) _
 go_wp2_with fail
 refine (step_any (w.heap.size + 1 + 1) 5 r3 r3 _ (by decide) ok3 ok3 (hP3.alloc _)).mono ?_
 rintro e v4 ⟨r4, hr4, rfl, hg4, hP4⟩
 have G4 := gb_then (gb_alloc G3 _) hg4 (by omega)
 have lt4 := hP4.lt
 have ok4 : r4.Ok := by rw [hr4.out]; exact stepF_ok _ _ _
 clear hg4 G3 hP3 h_five_n
 skip
 have h_ten_n : Blk (v4.alloc (.cells #[.int .u64 r4.x0, .int .u64 r4.x1, .int .u64 r4.x2, .int .u64 r4.x3, .int .u64 r4.x4] 34)) v4.heap.size 34 (feL r4) := Blk.new v4 (feL r4) _
 go_wp2_with fail
 refine (step_any (w.heap.size + 1 + 1) 10 r4 r4 _ (by decide) ok4 ok4 (hP4.alloc _)).mono ?_
 rintro e v5 ⟨r5, hr5, rfl, hg5, hP5⟩
 have G5 := gb_then (gb_alloc G4 _) hg5 (by omega)
 have lt5 := hP5.lt
 have ok5 : r5.Ok := by rw [hr5.out]; exact stepF_ok _ _ _
 have h_ten_5 := h_ten_n.grown hg5 (some_ne (by omega))
 clear hg5 G4 hP4 h_ten_n
 skip
 have h_twenty_n : Blk (v5.alloc (.cells #[.int .u64 r5.x0, .int .u64 r5.x1, .int .u64 r5.x2, .int .u64 r5.x3, .int .u64 r5.x4] 34)) v5.heap.size 34 (feL r5) := Blk.new v5 (feL r5) _
 go_wp2_with fail
 refine (step_any (w.heap.size + 1 + 1) 20 r5 r5 _ (by decide) ok5 ok5 (hP5.alloc _)).mono ?_
 rintro e v6 ⟨r6, hr6, rfl, hg6, hP6⟩
 have G6 := gb_then (gb_alloc G5 _) hg6 (by omega)
 have lt6 := hP6.lt
 have ok6 : r6.Ok := by rw [hr6.out]; exact stepF_ok _ _ _
 have h_ten_6 := (h_ten_5.alloc _).grown hg6 (some_ne (by omega))
 clear hg6 G5 hP5 h_ten_5 h_twenty_n
 skip
 have c6_0 := h_ten_6.cell (i := 0) rfl
 have c6_1 := h_ten_6.cell (i := 1) rfl
 have c6_2 := h_ten_6.cell (i := 2) rfl
 have c6_3 := h_ten_6.cell (i := 3) rfl
 have c6_4 := h_ten_6.cell (i := 4) rfl
 go_wp2_with fail
 refine (step_any (w.heap.size + 1 + 1) 10 r6 r4 _ (by decide) ok6 ok4 hP6).mono ?_
 rintro e v7 ⟨r7, hr7, rfl, hg7, hP7⟩
 have G7 := gb_then G6 hg7 (by omega)
 have lt7 := hP7.lt
 have ok7 : r7.Ok := by rw [hr7.out]; exact stepF_ok _ _ _
 clear hg7 G6 hP6 h_ten_6
 clear c6_0 c6_1 c6_2 c6_3 c6_4
 have h_fifty_n : Blk (v7.alloc (.cells #[.int .u64 r7.x0, .int .u64 r7.x1, .int .u64 r7.x2, .int .u64 r7.x3, .int .u64 r7.x4] 34)) v7.heap.size 34 (feL r7) := Blk.new v7 (feL r7) _
 go_wp2_with fail
 refine (step_any (w.heap.size + 1 + 1) 50 r7 r7 _ (by decide) ok7 ok7 (hP7.alloc _)).mono ?_
 rintro e v8 ⟨r8, hr8, rfl, hg8, hP8⟩
 have G8 := gb_then (gb_alloc G7 _) hg8 (by omega)
 have lt8 := hP8.lt
 have ok8 : r8.Ok := by rw [hr8.out]; exact stepF_ok _ _ _
 have h_fifty_8 := h_fifty_n.grown hg8 (some_ne (by omega))
 clear hg8 G7 hP7 h_fifty_n
 skip
 have h_hundred_n : Blk (v8.alloc (.cells #[.int .u64 r8.x0, .int .u64 r8.x1, .int .u64 r8.x2, .int .u64 r8.x3, .int .u64 r8.x4] 34)) v8.heap.size 34 (feL r8) := Blk.new v8 (feL r8) _
 go_wp2_with fail
 refine (step_any (w.heap.size + 1 + 1) 100 r8 r8 _ (by decide) ok8 ok8 (hP8.alloc _)).mono ?_
 rintro e v9 ⟨r9, hr9, rfl, hg9, hP9⟩
 have G9 := gb_then (gb_alloc G8 _) hg9 (by omega)
 have lt9 := hP9.lt
 have ok9 : r9.Ok := by rw [hr9.out]; exact stepF_ok _ _ _
 have h_fifty_9 := (h_fifty_8.alloc _).grown hg9 (some_ne (by omega))
 clear hg9 G8 hP8 h_fifty_8 h_hundred_n
 skip
 have c9_0 := h_fifty_9.cell (i := 0) rfl
 have c9_1 := h_fifty_9.cell (i := 1) rfl
 have c9_2 := h_fifty_9.cell (i := 2) rfl
 have c9_3 := h_fifty_9.cell (i := 3) rfl
 have c9_4 := h_fifty_9.cell (i := 4) rfl
 go_wp2_with fail
 refine (step_any (w.heap.size + 1 + 1) 50 r9 r7 _ (by decide) ok9 ok7 hP9).mono ?_
 rintro e v10 ⟨r10, hr10, rfl, hg10, hP10⟩
 have G10 := gb_then G9 hg10 (by omega)
 have lt10 := hP10.lt
 have ok10 : r10.Ok := by rw [hr10.out]; exact stepF_ok _ _ _
 clear hg10 G9 hP9 h_fifty_9
 clear c9_0 c9_1 c9_2 c9_3 c9_4
 go_wp2_with fail
 skip
 go_ret
 have e1 : r1 = ones1 a := hr1.out
 have e2 : r2 = ones2 a := by rw [hr2.out, e1]; rfl
 have e3 : r3 = ones3 a := by rw [hr3.out, e2]; rfl
 have e4 : r4 = ones4 a := by rw [hr4.out, e3]; rfl
 have e5 : r5 = ones5 a := by rw [hr5.out, e4]; rfl
 have e6 : r6 = ones6 a := by rw [hr6.out, e5]; rfl
 have e7 : r7 = ones7 a := by rw [hr7.out, e6, e4]; rfl
 have e8 : r8 = ones8 a := by rw [hr8.out, e7]; rfl
 have e9 : r9 = ones9 a := by rw [hr9.out, e8]; rfl
 have e10 : r10 = ones10 a := by rw [hr10.out, e9, e7]; rfl
 exact ⟨_, r10, Lib.hid e10, rfl, G10, by omega, hP10⟩
end
section
open Go.RowKit
inductive Item where
 | any
 | val (x : Value)
 | ptr
def Okb (w0 : World) (env : List (Nat × Fe)) (B : Nat) : Prop := w0.heap.size ≤ B ∧ ∀ p ∈ env, p.1 ≠ B
def Item.holds (K : Nat → Prop) : Item → Value → World → Prop
 | .any, _, _ => True
 | .val x, v, _ => v = x
 | .ptr, v, w => ∃ Bn, v = .pointer (some ⟨Bn, 0, none⟩) ∧ Room5 w Bn 34 ∧ K Bn
def itemsG (K : Nat → Prop) (L : List Item) (d : Nat) (v : Value) (w : World) : Prop := (L.getD d .any).holds K v w
def set5W (w : World) (B : Nat) (r : Fe) : World :=
 ((((w.setCell ⟨B, 0, none⟩ (.int .u64 r.x0)).setCell ⟨B, 1, none⟩ (.int .u64 r.x1)).setCell ⟨B, 2, none⟩ (.int .u64 r.x2)).setCell ⟨B, 3, none⟩ (.int .u64 r.x3)).setCell ⟨B, 4, none⟩ (.int .u64 r.x4)
def Rel5 (r : Fe) (w w' : World) : Prop := w.grownBy w' none ∨ ∃ Bn, w' = set5W w Bn r ∧ Room5 w Bn 34
theorem rel5_refl (r : Fe) (w : World) : Rel5 r w w := Or.inl (gb_refl _ _)
theorem set5W_room {w : World} {B : Nat} {r : Fe} {T : TypeId} (h : Room5 w B T) (C : Nat) : Room5 (set5W w C r) B T := by
 by_cases e : C = B
 ·subst e; exact ⟨_, _, _, _, _, h.set5 _ _ _ _ _⟩
 ·exact room5_set (room5_set (room5_set (room5_set (room5_set h e _) e _) e _) e _) e _
theorem set5W_other {w : World} {B C : Nat} {r : Fe} {T : TypeId} {L : List Value} (h : Blk w B T L) (e : C ≠ B) : Blk (set5W w C r) B T L :=
 ((((h.other e _).other e _).other e _).other e _).other e _
theorem set5W_same {w : World} {B : Nat} {r : Fe} {T : TypeId} (h : Room5 w B T) : Blk (set5W w B r) B T (feL r) := h.set5 _ _ _ _ _
theorem items_stab (K : Nat → Prop) (L : List Item) (r : Fe) (d : Nat) (v : Value) (w w' : World) (hR : Rel5 r w w') (h : itemsG K L d v w) : itemsG K L d v w' := by
 unfold itemsG at *
 cases hx : L.getD d .any with
 | any => trivial
 | val x => rw [hx] at h; exact h
 | ptr =>
  rw [hx] at h
  obtain ⟨Bn, hv, hr, hN⟩ := h
  refine ⟨Bn, hv, ?_, hN⟩
  rcases hR with hg | ⟨C, rfl, _⟩
  ·exact hr.grown hg (by simp)
  ·exact set5W_room hr C
def Stored (K : Nat → Prop) (r : Fe) (_ : Nat) (u : Value) (w : World) : Prop := ∃ Bn, u = .pointer (some ⟨Bn, 0, none⟩) ∧ K Bn ∧ Blk w Bn 34 (feL r)
theorem stored_stab (K : Nat → Prop) (r : Fe) (j : Nat) (u : Value) (w w' : World) (hR : Rel5 r w w') (h : Stored K r j u w) : Stored K r j u w' := by
 obtain ⟨Bn, hu, hN, hb⟩ := h
 refine ⟨Bn, hu, hN, ?_⟩
 rcases hR with hg | ⟨C, rfl, hr⟩
 ·exact hb.grown hg (by simp)
 ·by_cases e : C = Bn
  ·subst e; exact set5W_same hr
  ·exact set5W_other hb e
structure EnvB (w0 : World) (N : Nat) (env : List (Nat × Fe)) (rooms : List Nat) (w : World) : Prop where
 g : w0.grownBy w none
 e : ∀ p ∈ env, Blk w p.1 34 (feL p.2)
 r : ∀ B ∈ rooms, Room5 w B 34
 n : ∀ p ∈ env, p.1 < N
 l : N ≤ w.heap.size
 m : w0.heap.size ≤ N
theorem EnvB.grown {w0 : World} {N : Nat} {env : List (Nat × Fe)} {rooms : List Nat} {w w' : World} (h : EnvB w0 N env rooms w) (hg : w.grownBy w' none) : EnvB w0 N env rooms w' :=
 ⟨gb_trans h.g hg, fun p hp => (h.e p hp).grown hg (by simp), fun B hB => (h.r B hB).grown hg (by simp), h.n, Nat.le_trans h.l hg.size, h.m⟩
theorem EnvB.set {w0 : World} {N : Nat} {env : List (Nat × Fe)} {rooms : List Nat} {w : World} (h : EnvB w0 N env rooms w) {B : Nat} (hB : Okb w0 env B) (r : Fe) : EnvB w0 N env rooms (set5W w B r) :=
 ⟨gb_set5 h.g hB.1 _ _ _ _ _, fun p hp => set5W_other (h.e p hp) (Ne.symm (hB.2 p hp)), fun C hC => set5W_room (h.r C hC) B, h.n, by show N ≤ _; have := h.l; simpa [set5W, World.setCell] using this, h.m⟩
theorem EnvB.fresh {w0 : World} {N : Nat} {env : List (Nat × Fe)} {rooms : List Nat} {w : World} (h : EnvB w0 N env rooms w) : Okb w0 env w.heap.size :=
 ⟨Nat.le_trans h.m h.l, fun p hp => by have := h.n p hp; have := h.l; omega⟩
def AllAt (a : Act) : Nat → List Value → Prop
 | _, [] => True
 | i, v :: r => a.tmps.getD i undef = v ∧ AllAt a (i + 1) r
theorem allAt_get {a : Act} : ∀ (vs : List Value) (i k : Nat) (v : Value), AllAt a i vs → vs[k]? = some v → a.tmps.getD (i + k) undef = v := by
 intro vs
 induction vs with
 | nil => intro i k v _ h; simp at h
 | cons x r ih =>
  intro i k v h hk
  cases k with
  | zero => simp at hk; subst hk; exact h.1
  | succ k => have := ih (i + 1) k v h.2 (by simpa using hk); rwa [show i + (k + 1) = i + 1 + k by omega]
theorem frame_is {a : Act} {vs : List Value} (hs : a.tmps.size = vs.length) (h : AllAt a 0 vs) (hd : a.defers = []) : a = { tmps := vs.toArray, defers := [] } := by
 have ht : a.tmps = vs.toArray := by
  apply Array.ext_getElem?
  intro i
  by_cases hi : i < a.tmps.size
  ·have h2 : i < vs.length := by omega
   have := allAt_get vs 0 i vs[i] h (List.getElem?_eq_getElem h2)
   rw [Nat.zero_add] at this
   simp [hi] at this
   rw [Array.getElem?_eq_getElem hi, this]
   simp [h2]
  ·rw [Array.getElem?_eq_none (by omega), Array.getElem?_eq_none (by simp; omega)]
 cases a
 simp at ht hd
 rw [ht, hd]
theorem gb_drewn (w : World) : w.grownBy w.drew none := gb_drew (gb_refl _ _)
end
section
open Go.RowKit
set_option maxRecDepth 100000 in
set_option maxHeartbeats 1600000 in
theorem fits_any (p q s : Fe) (w0 : World) (okp : p.Ok) (okq : q.Ok) (oks : s.Ok) :
  Calls Tryz.prog 106 #[.agg #[.int .u64 p.x0, .int .u64 p.x1, .int .u64 p.x2, .int .u64 p.x3, .int .u64 p.x4], .agg #[.int .u64 q.x0, .int .u64 q.x1, .int .u64 q.x2, .int .u64 q.x3, .int .u64 q.x4], .agg #[.int .u64 s.x0, .int .u64 s.x1, .int .u64 s.x2, .int .u64 s.x3, .int .u64 s.x4]] w0 fun e w' => e = .returned (.bool (decide (Fe.m (Fe.mulF (Fe.sqF p) s) = Fe.m q))) ∧ w0.grownBy w' none := by
 go_enter Tryz.func106, Tryz.ntmps106
 go_wp2
 have hB0 : EnvB w0 (w0.heap.size + 3) [(w0.heap.size, p), ((w0.heap.size + 1), q), ((w0.heap.size + 1 + 1), s)] [] (((w0.alloc (.cells #[.int .u64 p.x0, .int .u64 p.x1, .int .u64 p.x2, .int .u64 p.x3, .int .u64 p.x4] 34)).alloc (.cells #[.int .u64 q.x0, .int .u64 q.x1, .int .u64 q.x2, .int .u64 q.x3, .int .u64 q.x4] 34)).alloc (.cells #[.int .u64 s.x0, .int .u64 s.x1, .int .u64 s.x2, .int .u64 s.x3, .int .u64 s.x4] 34)) :=
  ⟨gb_alloc (gb_alloc (gb_alloc (gb_refl _ _) _) _) _, by
   intro p hp
   simp only [List.mem_cons, List.not_mem_nil, or_false] at hp
   rcases hp with rfl | rfl | rfl
   ·exact ((Blk.new w0 (feL _) _).alloc _).alloc _
   ·exact (Blk.newAt (w0.alloc _) (feL _) _ (by simp)).alloc _
   ·exact Blk.newAt _ (feL _) _ (by simp), by simp, by intro p hp; simp only [List.mem_cons, List.not_mem_nil, or_false] at hp; rcases hp with rfl | rfl | rfl <;> simp only [] <;> omega, by simp, by omega⟩
 refine wp_region_flow2 (itemsG (Okb w0 [(w0.heap.size, p), ((w0.heap.size + 1), q), ((w0.heap.size + 1 + 1), s)]) [.any, .any, .any, .any, .any, .any, .val (.bool (decide (Fe.m (Fe.mulF (Fe.sqF p) s) = Fe.m q))), .val p.v, .val (Fe.sqF p).v, .val s.v, .val (Fe.mulF (Fe.sqF p) s).v, .val q.v, .val (.bool (decide (Fe.m (Fe.mulF (Fe.sqF p) s) = Fe.m q)))]) (fun j =>  0) (Stored (Okb w0 [(w0.heap.size, p), ((w0.heap.size + 1), q), ((w0.heap.size + 1 + 1), s)]) (Fe.zeroF)) (EnvB w0 (w0.heap.size + 3) [(w0.heap.size, p), ((w0.heap.size + 1), q), ((w0.heap.size + 1 + 1), s)] []) (Rel5 (Fe.zeroF)) (by kernel_rfl) (by kernel_rfl) (by kernel_rfl) (hB0.grown (gb_drewn _)) (fun d u w1 w2 hR h => items_stab _ _ _ d u w1 w2 hR h) (fun j u w1 w2 hR h => stored_stab _ _ j u w1 w2 hR h) (by kernel_rfl) ?_ ?_
 ·refine ⟨flow2_value rfl rfl fun a w h => ?_, ?_⟩
  ·have e3 : _ = Value.pointer (some ⟨w0.heap.size, 0, none⟩) := h.r 3
   have hb := h.base.e (w0.heap.size, p) (by simp)
   have c0 : w.cell? ⟨w0.heap.size, 0, none⟩ = some (.int .u64 p.x0) := hb.cell (i := 0) rfl
   have c1 : w.cell? ⟨w0.heap.size, 1, none⟩ = some (.int .u64 p.x1) := hb.cell (i := 1) rfl
   have c2 : w.cell? ⟨w0.heap.size, 2, none⟩ = some (.int .u64 p.x2) := hb.cell (i := 2) rfl
   have c3 : w.cell? ⟨w0.heap.size, 3, none⟩ = some (.int .u64 p.x3) := hb.cell (i := 3) rfl
   have c4 : w.cell? ⟨w0.heap.size, 4, none⟩ = some (.int .u64 p.x4) := hb.cell (i := 4) rfl
   refine ⟨.agg #[.int .u64 p.x0, .int .u64 p.x1, .int .u64 p.x2, .int .u64 p.x3, .int .u64 p.x4], w, ?_, h.base, rel5_refl _ _, rfl⟩
   clear h hb
   simp only [execOp, Act.eval, e3]
   go_simp
  refine ⟨flow2_call rfl rfl fun a w h => ?_, ?_⟩
  ·have e7 : _ = p.v := h.d 7
   have e7x : a.tmps[7]?.getD undef = p.v := by simpa using e7
   have hb := h.base
   refine ⟨77, #[p.v], ?_, ?_⟩
   ·clear h hb e7
    go_simp
   ·refine (sq_fe p w okp).mono ?_
    intro e w1 hp
    obtain ⟨rfl, hg⟩ := feOut_is hp
    exact ⟨_, rfl, hb.grown hg, Or.inl hg, rfl⟩
  refine ⟨flow2_value rfl rfl fun a w h => ?_, ?_⟩
  ·have e5 : _ = Value.pointer (some ⟨(w0.heap.size + 1 + 1), 0, none⟩) := h.r 5
   have hb := h.base.e ((w0.heap.size + 1 + 1), s) (by simp)
   have c0 : w.cell? ⟨(w0.heap.size + 1 + 1), 0, none⟩ = some (.int .u64 s.x0) := hb.cell (i := 0) rfl
   have c1 : w.cell? ⟨(w0.heap.size + 1 + 1), 1, none⟩ = some (.int .u64 s.x1) := hb.cell (i := 1) rfl
   have c2 : w.cell? ⟨(w0.heap.size + 1 + 1), 2, none⟩ = some (.int .u64 s.x2) := hb.cell (i := 2) rfl
   have c3 : w.cell? ⟨(w0.heap.size + 1 + 1), 3, none⟩ = some (.int .u64 s.x3) := hb.cell (i := 3) rfl
   have c4 : w.cell? ⟨(w0.heap.size + 1 + 1), 4, none⟩ = some (.int .u64 s.x4) := hb.cell (i := 4) rfl
   refine ⟨.agg #[.int .u64 s.x0, .int .u64 s.x1, .int .u64 s.x2, .int .u64 s.x3, .int .u64 s.x4], w, ?_, h.base, rel5_refl _ _, rfl⟩
   clear h hb
   simp only [execOp, Act.eval, e5]
   go_simp
  refine ⟨flow2_call rfl rfl fun a w h => ?_, ?_⟩
  ·have e8 : _ = (Fe.sqF p).v := h.d 8
   have e9 : _ = s.v := h.d 9
   have e8x : a.tmps[8]?.getD undef = (Fe.sqF p).v := by simpa using e8
   have e9x : a.tmps[9]?.getD undef = s.v := by simpa using e9
   have hb := h.base
   refine ⟨38, #[(Fe.sqF p).v, s.v], ?_, ?_⟩
   ·clear h hb e8 e9
    go_simp
   ·refine (mul_fe (Fe.sqF p) s w (Fe.sq_right _).ok oks).mono ?_
    intro e w1 hp
    obtain ⟨rfl, hg⟩ := feOut_is hp
    exact ⟨_, rfl, hb.grown hg, Or.inl hg, rfl⟩
  refine ⟨flow2_value rfl rfl fun a w h => ?_, ?_⟩
  ·have e4 : _ = Value.pointer (some ⟨(w0.heap.size + 1), 0, none⟩) := h.r 4
   have hb := h.base.e ((w0.heap.size + 1), q) (by simp)
   have c0 : w.cell? ⟨(w0.heap.size + 1), 0, none⟩ = some (.int .u64 q.x0) := hb.cell (i := 0) rfl
   have c1 : w.cell? ⟨(w0.heap.size + 1), 1, none⟩ = some (.int .u64 q.x1) := hb.cell (i := 1) rfl
   have c2 : w.cell? ⟨(w0.heap.size + 1), 2, none⟩ = some (.int .u64 q.x2) := hb.cell (i := 2) rfl
   have c3 : w.cell? ⟨(w0.heap.size + 1), 3, none⟩ = some (.int .u64 q.x3) := hb.cell (i := 3) rfl
   have c4 : w.cell? ⟨(w0.heap.size + 1), 4, none⟩ = some (.int .u64 q.x4) := hb.cell (i := 4) rfl
   refine ⟨.agg #[.int .u64 q.x0, .int .u64 q.x1, .int .u64 q.x2, .int .u64 q.x3, .int .u64 q.x4], w, ?_, h.base, rel5_refl _ _, rfl⟩
   clear h hb
   simp only [execOp, Act.eval, e4]
   go_simp
  refine ⟨flow2_call rfl rfl fun a w h => ?_, ?_⟩
  ·have e10 : _ = (Fe.mulF (Fe.sqF p) s).v := h.d 10
   have e11 : _ = q.v := h.d 11
   have e10x : a.tmps[10]?.getD undef = (Fe.mulF (Fe.sqF p) s).v := by simpa using e10
   have e11x : a.tmps[11]?.getD undef = q.v := by simpa using e11
   have hb := h.base
   refine ⟨37, #[(Fe.mulF (Fe.sqF p) s).v, q.v], ?_, ?_⟩
   ·clear h hb e10 e11
    go_simp
   ·refine (same_any (Fe.mulF (Fe.sqF p) s) q w (Fe.mul_right _ _).ok okq).mono ?_
    intro e w1 hp
    obtain ⟨rfl, hg⟩ := hp
    exact ⟨_, rfl, hb.grown hg, Or.inl hg, rfl⟩
  refine ⟨flow2_value rfl rfl fun a w h => ?_, ?_⟩
  ·have e12 : _ = Value.bool (decide (Fe.m (Fe.mulF (Fe.sqF p) s) = Fe.m q)) := h.d 12
   refine ⟨.bool (decide (Fe.m (Fe.mulF (Fe.sqF p) s) = Fe.m q)), w, ?_, h.base, rel5_refl _ _, rfl⟩
   clear h
   simp only [execOp, Act.eval, e12]
   go_simp
  trivial
 ·intro a w1 hB hsz hdf hrest hslots hmems
  have hg := hB.g
  obtain rfl := frame_is (a := a) (vs := [.agg #[.int .u64 p.x0, .int .u64 p.x1, .int .u64 p.x2, .int .u64 p.x3, .int .u64 p.x4], .agg #[.int .u64 q.x0, .int .u64 q.x1, .int .u64 q.x2, .int .u64 q.x3, .int .u64 q.x4], .agg #[.int .u64 s.x0, .int .u64 s.x1, .int .u64 s.x2, .int .u64 s.x3, .int .u64 s.x4], .pointer (some ⟨w0.heap.size, 0, none⟩), .pointer (some ⟨w0.heap.size + 1, 0, none⟩), .pointer (some ⟨w0.heap.size + 1 + 1, 0, none⟩), .bool (decide (Fe.m (Fe.mulF (Fe.sqF p) s) = Fe.m q)), p.v, (Fe.sqF p).v, s.v, (Fe.mulF (Fe.sqF p) s).v, q.v, .bool (decide (Fe.m (Fe.mulF (Fe.sqF p) s) = Fe.m q))]) hsz ⟨hrest 0 (by kernel_rfl), hrest 1 (by kernel_rfl), hrest 2 (by kernel_rfl), hrest 3 (by kernel_rfl), hrest 4 (by kernel_rfl), hrest 5 (by kernel_rfl), hslots 6 (by kernel_rfl), hslots 7 (by kernel_rfl), hslots 8 (by kernel_rfl), hslots 9 (by kernel_rfl), hslots 10 (by kernel_rfl), hslots 11 (by kernel_rfl), hslots 12 (by kernel_rfl), trivial⟩ hdf
  clear hB hsz hdf hrest hslots hmems
  go_wp2
  go_ret
  exact ⟨rfl, hg⟩
end
section
open Go.RowKit
def invF (a : Fe) : Fe := stepF 5 (ones10 a) (Fe.mulF (Fe.sqF (Fe.sqF (Fe.sqF a))) (Fe.mulF (Fe.sqF a) a))
set_option maxRecDepth 100000 in
set_option maxHeartbeats 1600000 in
theorem invert_any (p : Fe) (w0 : World) (okp : p.Ok) :
  Calls Tryz.prog 52 #[.agg #[.int .u64 p.x0, .int .u64 p.x1, .int .u64 p.x2, .int .u64 p.x3, .int .u64 p.x4]] w0 (FeOut (invF p) w0) := by
 have hA0 : ∀ o, Blk ((w0.alloc (.cells #[.int .u64 p.x0, .int .u64 p.x1, .int .u64 p.x2, .int .u64 p.x3, .int .u64 p.x4] 34)).alloc o) w0.heap.size 34 (feL p) := fun o => (Blk.new w0 (feL p) _).alloc o
 have hR0 : Room5 ((w0.alloc (.cells #[.int .u64 p.x0, .int .u64 p.x1, .int .u64 p.x2, .int .u64 p.x3, .int .u64 p.x4] 34)).alloc (.cells #[.int .u64 0, .int .u64 0, .int .u64 0, .int .u64 0, .int .u64 0] 34)) (w0.heap.size + 1) 34 := ⟨_, _, _, _, _, Blk.newAt _ [.int .u64 0, .int .u64 0, .int .u64 0, .int .u64 0, .int .u64 0] _ (by simp)⟩
 have hg0 : ∀ c0 c1, w0.grownBy ((w0.alloc c0).alloc c1) none := fun c0 c1 => gb_alloc (gb_alloc (gb_refl _ _) _) _
 go_enter Tryz.func52, Tryz.ntmps52
 go_wp2_with fail
 refine (sq_fe p _ okp).mono ?_
 rintro e v1 ⟨q1, hq1, rfl, hg1⟩
 have ok1 : q1.Ok := by rw [hq1.out]; exact (Fe.sq_right _).ok
 have hA1 := (hA0 _).grown hg1 (by simp)
 have hR1 := hR0.grown hg1 (by simp)
 have G1 := gb_trans (hg0 _ _) hg1
 clear hA0 hR0 hg0 hg1
 go_wp2_with fail
 refine (sq_fe q1 _ ok1).mono ?_
 rintro e v2 ⟨q2, hq2, rfl, hg2⟩
 have ok2 : q2.Ok := by rw [hq2.out]; exact (Fe.sq_right _).ok
 have hA2 := hA1.grown hg2 (by simp)
 have hR2 := hR1.grown hg2 (by simp)
 have G2 := gb_trans G1 hg2
 clear hA1 hR1 G1 hg2
 go_wp2_with fail
 refine (sq_fe q2 _ ok2).mono ?_
 rintro e v3 ⟨q3, hq3, rfl, hg3⟩
 have okq3 : q3.Ok := by rw [hq3.out]; exact (Fe.sq_right _).ok
 have hA3 := hA2.grown hg3 (by simp)
 have hR3 := hR2.grown hg3 (by simp)
 have G3 := gb_trans G2 hg3
 have hlt := hR3
 obtain ⟨_, _, _, _, _, hlt⟩ := hlt
 have hlt := hlt.lt
 clear hA2 hR2 G2 hg3
 have hB0 : EnvB w0 (v3.heap.size + 1) [(w0.heap.size, p), (v3.heap.size, q3)] [(w0.heap.size + 1)] (v3.alloc (.cells #[.int .u64 q3.x0, .int .u64 q3.x1, .int .u64 q3.x2, .int .u64 q3.x3, .int .u64 q3.x4] 34)) :=
  ⟨gb_alloc G3 _, by
   intro z hz
   simp only [List.mem_cons, List.not_mem_nil, or_false] at hz
   rcases hz with rfl | rfl
   ·exact hA3.alloc _
   ·exact Blk.new v3 (feL _) _, by
   intro B hB
   simp only [List.mem_cons, List.not_mem_nil, or_false] at hB
   subst hB
   exact hR3.grown (World.grownBy_alloc _ _ none) (by simp), by intro z hz; simp only [List.mem_cons, List.not_mem_nil, or_false] at hz; rcases hz with rfl | rfl <;> simp only [] <;> omega, by simp, by omega⟩
 clear hA3 hR3 G3
 go_wp2_with fail
 refine wp_region_flow2 (itemsG (Okb w0 [(w0.heap.size, p), (v3.heap.size, q3)]) [.any, .any, .any, .any, .ptr, .any, .any, .any, .any, .any, .val q3.v, .val p.v, .val (Fe.sqF p).v, .val p.v, .val (Fe.mulF (Fe.sqF p) p).v, .val (Fe.mulF q3 (Fe.mulF (Fe.sqF p) p)).v, .any, .any, .any, .any, .any]) (fun j => if j = 7 then 4 else 0) (Stored (Okb w0 [(w0.heap.size, p), (v3.heap.size, q3)]) (Fe.mulF q3 (Fe.mulF (Fe.sqF p) p))) (EnvB w0 (v3.heap.size + 1) [(w0.heap.size, p), (v3.heap.size, q3)] [(w0.heap.size + 1)]) (Rel5 (Fe.mulF q3 (Fe.mulF (Fe.sqF p) p))) (by kernel_rfl) (by kernel_rfl) (by kernel_rfl) (hB0.grown (gb_drewn _)) (fun d u w1 w2 hR h => items_stab _ _ _ d u w1 w2 hR h) (fun j u w1 w2 hR h => stored_stab _ _ j u w1 w2 hR h) (by kernel_rfl) ?_ ?_
 ·refine ⟨flow2_value rfl rfl fun a w h => ?_, ?_⟩
  ·have e3 : _ = Value.pointer (some ⟨v3.heap.size, 0, none⟩) := h.r 3
   have hb := h.base.e (v3.heap.size, q3) (by simp)
   have c0 : w.cell? ⟨v3.heap.size, 0, none⟩ = some (.int .u64 q3.x0) := hb.cell (i := 0) rfl
   have c1 : w.cell? ⟨v3.heap.size, 1, none⟩ = some (.int .u64 q3.x1) := hb.cell (i := 1) rfl
   have c2 : w.cell? ⟨v3.heap.size, 2, none⟩ = some (.int .u64 q3.x2) := hb.cell (i := 2) rfl
   have c3 : w.cell? ⟨v3.heap.size, 3, none⟩ = some (.int .u64 q3.x3) := hb.cell (i := 3) rfl
   have c4 : w.cell? ⟨v3.heap.size, 4, none⟩ = some (.int .u64 q3.x4) := hb.cell (i := 4) rfl
   refine ⟨.agg #[.int .u64 q3.x0, .int .u64 q3.x1, .int .u64 q3.x2, .int .u64 q3.x3, .int .u64 q3.x4], w, ?_, h.base, rel5_refl _ _, rfl⟩
   clear h hb
   simp only [execOp, Act.eval, e3]
   go_simp
  refine ⟨flow2_value rfl rfl fun a w h => ?_, ?_⟩
  ·have e1 : _ = Value.pointer (some ⟨w0.heap.size, 0, none⟩) := h.r 1
   have hb := h.base.e (w0.heap.size, p) (by simp)
   have c0 : w.cell? ⟨w0.heap.size, 0, none⟩ = some (.int .u64 p.x0) := hb.cell (i := 0) rfl
   have c1 : w.cell? ⟨w0.heap.size, 1, none⟩ = some (.int .u64 p.x1) := hb.cell (i := 1) rfl
   have c2 : w.cell? ⟨w0.heap.size, 2, none⟩ = some (.int .u64 p.x2) := hb.cell (i := 2) rfl
   have c3 : w.cell? ⟨w0.heap.size, 3, none⟩ = some (.int .u64 p.x3) := hb.cell (i := 3) rfl
   have c4 : w.cell? ⟨w0.heap.size, 4, none⟩ = some (.int .u64 p.x4) := hb.cell (i := 4) rfl
   refine ⟨.agg #[.int .u64 p.x0, .int .u64 p.x1, .int .u64 p.x2, .int .u64 p.x3, .int .u64 p.x4], w, ?_, h.base, rel5_refl _ _, rfl⟩
   clear h hb
   simp only [execOp, Act.eval, e1]
   go_simp
  refine ⟨flow2_call rfl rfl fun a w h => ?_, ?_⟩
  ·have e11 : _ = p.v := h.d 11
   have e11x : a.tmps[11]?.getD undef = p.v := by simpa using e11
   have hb := h.base
   refine ⟨77, #[p.v], ?_, ?_⟩
   ·clear h hb e11
    go_simp
   ·refine (sq_fe p w okp).mono ?_
    intro e w1 hp
    obtain ⟨rfl, hg⟩ := feOut_is hp
    exact ⟨_, rfl, hb.grown hg, Or.inl hg, rfl⟩
  refine ⟨flow2_value rfl rfl fun a w h => ?_, ?_⟩
  ·have e1 : _ = Value.pointer (some ⟨w0.heap.size, 0, none⟩) := h.r 1
   have hb := h.base.e (w0.heap.size, p) (by simp)
   have c0 : w.cell? ⟨w0.heap.size, 0, none⟩ = some (.int .u64 p.x0) := hb.cell (i := 0) rfl
   have c1 : w.cell? ⟨w0.heap.size, 1, none⟩ = some (.int .u64 p.x1) := hb.cell (i := 1) rfl
   have c2 : w.cell? ⟨w0.heap.size, 2, none⟩ = some (.int .u64 p.x2) := hb.cell (i := 2) rfl
   have c3 : w.cell? ⟨w0.heap.size, 3, none⟩ = some (.int .u64 p.x3) := hb.cell (i := 3) rfl
   have c4 : w.cell? ⟨w0.heap.size, 4, none⟩ = some (.int .u64 p.x4) := hb.cell (i := 4) rfl
   refine ⟨.agg #[.int .u64 p.x0, .int .u64 p.x1, .int .u64 p.x2, .int .u64 p.x3, .int .u64 p.x4], w, ?_, h.base, rel5_refl _ _, rfl⟩
   clear h hb
   simp only [execOp, Act.eval, e1]
   go_simp
  refine ⟨flow2_call rfl rfl fun a w h => ?_, ?_⟩
  ·have e12 : _ = (Fe.sqF p).v := h.d 12
   have e13 : _ = p.v := h.d 13
   have e12x : a.tmps[12]?.getD undef = (Fe.sqF p).v := by simpa using e12
   have e13x : a.tmps[13]?.getD undef = p.v := by simpa using e13
   have hb := h.base
   refine ⟨38, #[(Fe.sqF p).v, p.v], ?_, ?_⟩
   ·clear h hb e12 e13
    go_simp
   ·refine (mul_fe (Fe.sqF p) p w (Fe.sq_right _).ok okp).mono ?_
    intro e w1 hp
    obtain ⟨rfl, hg⟩ := feOut_is hp
    exact ⟨_, rfl, hb.grown hg, Or.inl hg, rfl⟩
  refine ⟨flow2_call rfl rfl fun a w h => ?_, ?_⟩
  ·have e10 : _ = q3.v := h.d 10
   have e14 : _ = (Fe.mulF (Fe.sqF p) p).v := h.d 14
   have e10x : a.tmps[10]?.getD undef = q3.v := by simpa using e10
   have e14x : a.tmps[14]?.getD undef = (Fe.mulF (Fe.sqF p) p).v := by simpa using e14
   have hb := h.base
   refine ⟨38, #[q3.v, (Fe.mulF (Fe.sqF p) p).v], ?_, ?_⟩
   ·clear h hb e10 e14
    go_simp
   ·refine (mul_fe q3 (Fe.mulF (Fe.sqF p) p) w okq3 (Fe.mul_right _ _).ok).mono ?_
    intro e w1 hp
    obtain ⟨rfl, hg⟩ := feOut_is hp
    exact ⟨_, rfl, hb.grown hg, Or.inl hg, rfl⟩
  refine ⟨flow2_value rfl rfl fun a w h => ?_, ?_⟩
  ·refine ⟨.pointer (some ⟨w.heap.size, 0, none⟩), w.alloc (.cells #[.int .u64 0, .int .u64 0, .int .u64 0, .int .u64 0, .int .u64 0] 34), ?_, h.base.grown (World.grownBy_alloc _ _ _), Or.inl (World.grownBy_alloc _ _ _), ⟨w.heap.size, rfl, ⟨_, _, _, _, _, Blk.new w [.int .u64 0, .int .u64 0, .int .u64 0, .int .u64 0, .int .u64 0] _⟩, h.base.fresh⟩⟩
   clear h
   go_simp
  refine ⟨flow2_skip rfl rfl fun a w h => ?_, ?_⟩
  ·obtain ⟨Bn, ep, hroom, hK⟩ : ∃ Bn, a.tmps.getD 4 undef = .pointer (some ⟨Bn, 0, none⟩) ∧ Room5 w Bn 34 ∧ (Okb w0 [(w0.heap.size, p), (v3.heap.size, q3)]) Bn := h.dep 4 (by kernel_rfl)
   have e15 : _ = Value.agg #[.int .u64 (Fe.mulF q3 (Fe.mulF (Fe.sqF p) p)).x0, .int .u64 (Fe.mulF q3 (Fe.mulF (Fe.sqF p) p)).x1, .int .u64 (Fe.mulF q3 (Fe.mulF (Fe.sqF p) p)).x2, .int .u64 (Fe.mulF q3 (Fe.mulF (Fe.sqF p) p)).x3, .int .u64 (Fe.mulF q3 (Fe.mulF (Fe.sqF p) p)).x4] := h.d 15
   refine ⟨set5W w Bn (Fe.mulF q3 (Fe.mulF (Fe.sqF p) p)), ?_, h.base.set hK _, Or.inr ⟨Bn, rfl, hroom⟩, ⟨Bn, ep, hK, set5W_same hroom⟩⟩
   obtain ⟨u0, u1, u2, u3, u4, hR⟩ := hroom
   have c0r := hR.cell (i := 0) rfl; have f0r := hR.free 0
   have c1r := hR.cell (i := 1) rfl; have f1r := hR.free 1
   have c2r := hR.cell (i := 2) rfl; have f2r := hR.free 2
   have c3r := hR.cell (i := 3) rfl; have f3r := hR.free 3
   have c4r := hR.cell (i := 4) rfl; have f4r := hR.free 4
   clear h hK hR
   unfold set5W
   simp only [execOp, Act.eval, ep, e15]
   go_simp
  trivial
 ·intro a' w1 hB hsz hdf hrest hslots hmems
  obtain ⟨Bn, hptr, hK, hb⟩ := hmems 7 _ rfl rfl
  obtain rfl := frame_is (a := a') (vs := [.agg #[.int .u64 p.x0, .int .u64 p.x1, .int .u64 p.x2, .int .u64 p.x3, .int .u64 p.x4], .pointer (some ⟨w0.heap.size, 0, none⟩), .pointer (some ⟨w0.heap.size + 1, 0, none⟩), .pointer (some ⟨v3.heap.size, 0, none⟩), .pointer (some ⟨Bn, 0, none⟩), undef, .agg #[.int .u64 p.x0, .int .u64 p.x1, .int .u64 p.x2, .int .u64 p.x3, .int .u64 p.x4], .agg #[.int .u64 q1.x0, .int .u64 q1.x1, .int .u64 q1.x2, .int .u64 q1.x3, .int .u64 q1.x4], .agg #[.int .u64 q2.x0, .int .u64 q2.x1, .int .u64 q2.x2, .int .u64 q2.x3, .int .u64 q2.x4], .agg #[.int .u64 q3.x0, .int .u64 q3.x1, .int .u64 q3.x2, .int .u64 q3.x3, .int .u64 q3.x4], q3.v, p.v, (Fe.sqF p).v, p.v, (Fe.mulF (Fe.sqF p) p).v, (Fe.mulF q3 (Fe.mulF (Fe.sqF p) p)).v, undef, undef, undef, undef, undef]) hsz ⟨hrest 0 (by kernel_rfl), hrest 1 (by kernel_rfl), hrest 2 (by kernel_rfl), hrest 3 (by kernel_rfl), hptr, hrest 5 (by kernel_rfl), hrest 6 (by kernel_rfl), hrest 7 (by kernel_rfl), hrest 8 (by kernel_rfl), hrest 9 (by kernel_rfl), hslots 10 (by kernel_rfl), hslots 11 (by kernel_rfl), hslots 12 (by kernel_rfl), hslots 13 (by kernel_rfl), hslots 14 (by kernel_rfl), hslots 15 (by kernel_rfl), hrest 16 (by kernel_rfl), hrest 17 (by kernel_rfl), hrest 18 (by kernel_rfl), hrest 19 (by kernel_rfl), hrest 20 (by kernel_rfl), trivial⟩ hdf
  clear hptr hsz hdf hrest hslots hmems hB0
  obtain ⟨f, hf⟩ : ∃ f, f = Fe.mulF q3 (Fe.mulF (Fe.sqF p) p) := ⟨_, rfl⟩
  have okf : f.Ok := by rw [hf]; exact (Fe.mul_right _ _).ok
  rw [← hf] at hb
  have Hf := Lib.hid hf; clear hf
  have hAx := hB.e (w0.heap.size, p) (by simp)
  have hRx := hB.r _ (List.mem_singleton.2 rfl)
  have G4 := hB.g
  have hltb := hb.lt
  have hKn := hK.1
  have hKa := hK.2 (w0.heap.size, p) (by simp)
  clear hK hB
  have c0 := hAx.cell (i := 0) rfl
  have c1 := hAx.cell (i := 1) rfl
  have c2 := hAx.cell (i := 2) rfl
  have c3 := hAx.cell (i := 3) rfl
  have c4 := hAx.cell (i := 4) rfl
  go_wp2_with fail
  refine (manyOnes_any p _ okp).mono ?_
  rintro e w2 ⟨C, q, hq, rfl, hg5, hC, hP⟩
  have okq : q.Ok := by rw [hq.out]; exact stepF_ok _ _ _
  have hb2 := hb.grown hg5 (by simp)
  have hR5 := hRx.grown hg5 (by simp)
  have G5 := gb_trans G4 hg5
  have hs5 := hg5.size
  clear hAx hRx hb G4 hg5 c0 c1 c2 c3 c4
  have c0 := hb2.cell (i := 0) rfl
  have c1 := hb2.cell (i := 1) rfl
  have c2 := hb2.cell (i := 2) rfl
  have c3 := hb2.cell (i := 3) rfl
  have c4 := hb2.cell (i := 4) rfl
  go_wp2_with fail
  refine (step_any C 5 q f _ (by decide) okq okf hP).mono ?_
  rintro e w3 ⟨g, hgg, rfl, hg6, hP6⟩
  have hR6 := hR5.grown hg6 (some_ne (by omega))
  have G6 := gb_then G5 hg6 (by omega)
  obtain ⟨u0, u1, u2, u3, u4, hR7⟩ := hR6
  clear hR5 hb2 G5 hg6 c0 c1 c2 c3 c4
  have t0 := hR7.cell (i := 0) rfl
  have t1 := hR7.cell (i := 1) rfl
  have t2 := hR7.cell (i := 2) rfl
  have t3 := hR7.cell (i := 3) rfl
  have t4 := hR7.cell (i := 4) rfl
  have y0 := hR7.free 0
  have y1 := hR7.free 1
  have y2 := hR7.free 2
  have y3 := hR7.free 3
  have y4 := hR7.free 4
  go_wp2_with fail
  refine bodyPost_ret (v := .agg #[.int .u64 g.x0, .int .u64 g.x1, .int .u64 g.x2, .int .u64 g.x3, .int .u64 g.x4]) ?_ rfl ⟨g, Lib.hid ?_, rfl, gb_set5 G6 (by omega) _ _ _ _ _⟩
  ·simp [results, Tryz.results52, go_sem, t0, t1, t2, t3, t4]
  ·rw [hgg.out, hq.out, Hf.out, hq3.out, hq2.out, hq1.out]; rfl
end
section
open Go.RowKit
def guessF (u v : Fe) : Fe := Fe.mulF (Fe.mulF u (Fe.mulF (Fe.sqF v) v)) (stepF 2 (ones10 (Fe.mulF u (Fe.mulF (Fe.sqF (Fe.mulF (Fe.sqF v) v)) v))) (Fe.mulF u (Fe.mulF (Fe.sqF (Fe.mulF (Fe.sqF v) v)) v)))
set_option maxRecDepth 100000 in
set_option maxHeartbeats 1600000 in
theorem guess_any (p q : Fe) (w0 : World) (okp : p.Ok) (okq : q.Ok) :
  Calls Tryz.prog 105 #[.agg #[.int .u64 p.x0, .int .u64 p.x1, .int .u64 p.x2, .int .u64 p.x3, .int .u64 p.x4], .agg #[.int .u64 q.x0, .int .u64 q.x1, .int .u64 q.x2, .int .u64 q.x3, .int .u64 q.x4]] w0 (FeOut (guessF p q) w0) := by
 go_enter Tryz.func105, Tryz.ntmps105
 go_wp2_with fail
 have hA0 : Blk (((w0.alloc (.cells #[.int .u64 p.x0, .int .u64 p.x1, .int .u64 p.x2, .int .u64 p.x3, .int .u64 p.x4] 34)).alloc (.cells #[.int .u64 q.x0, .int .u64 q.x1, .int .u64 q.x2, .int .u64 q.x3, .int .u64 q.x4] 34)).alloc (.cells #[.int .u64 0, .int .u64 0, .int .u64 0, .int .u64 0, .int .u64 0] 34)) w0.heap.size 34 (feL p) := ((Blk.new w0 (feL p) _).alloc _).alloc _
 have hB0 : EnvB w0 (w0.heap.size + 3) [((w0.heap.size + 1), q)] [(w0.heap.size + 1 + 1)] (((w0.alloc (.cells #[.int .u64 p.x0, .int .u64 p.x1, .int .u64 p.x2, .int .u64 p.x3, .int .u64 p.x4] 34)).alloc (.cells #[.int .u64 q.x0, .int .u64 q.x1, .int .u64 q.x2, .int .u64 q.x3, .int .u64 q.x4] 34)).alloc (.cells #[.int .u64 0, .int .u64 0, .int .u64 0, .int .u64 0, .int .u64 0] 34)) :=
  ⟨gb_alloc (gb_alloc (gb_alloc (gb_refl _ _) _) _) _, by
   intro z hz
   simp only [List.mem_cons, List.not_mem_nil, or_false] at hz
   rcases hz with rfl
   ·exact (Blk.newAt (w0.alloc _) (feL _) _ (by simp)).alloc _, by
   intro B hB
   simp only [List.mem_cons, List.not_mem_nil, or_false] at hB
   subst hB
   exact ⟨_, _, _, _, _, Blk.newAt _ [.int .u64 0, .int .u64 0, .int .u64 0, .int .u64 0, .int .u64 0] _ (by simp)⟩, by intro z hz; simp only [List.mem_cons, List.not_mem_nil, or_false] at hz; rcases hz with rfl <;> simp only [] <;> omega, by simp, by omega⟩
 have hA1 : ∀ w1, w0.grownBy w1 none → True := fun _ _ => trivial
 clear hA1
 have hB0 : EnvB w0 (w0.heap.size + 3) [(w0.heap.size, p), (w0.heap.size + 1, q), (w0.heap.size + 1 + 1, Fe.zeroF)] [(w0.heap.size + 1 + 1)] (((w0.alloc (.cells #[.int .u64 p.x0, .int .u64 p.x1, .int .u64 p.x2, .int .u64 p.x3, .int .u64 p.x4] 34)).alloc (.cells #[.int .u64 q.x0, .int .u64 q.x1, .int .u64 q.x2, .int .u64 q.x3, .int .u64 q.x4] 34)).alloc (.cells #[.int .u64 0, .int .u64 0, .int .u64 0, .int .u64 0, .int .u64 0] 34)) :=
  ⟨hB0.g, by
   intro z hz
   simp only [List.mem_cons, List.not_mem_nil, or_false] at hz
   rcases hz with rfl | rfl | rfl
   ·exact hA0
   ·exact hB0.e _ (by simp)
   ·exact Blk.newAt _ (feL Fe.zeroF) _ (by simp), hB0.r, by intro z hz; simp only [List.mem_cons, List.not_mem_nil, or_false] at hz; rcases hz with rfl | rfl | rfl <;> simp only [] <;> omega, hB0.l, hB0.m⟩
 clear hA0
 refine wp_region_flow2 (itemsG (Okb w0 [(w0.heap.size, p), ((w0.heap.size + 1), q), ((w0.heap.size + 1 + 1), Fe.zeroF)]) [.any, .any, .any, .any, .any, .ptr, .any, .any, .any, .any, .val q.v, .val (Fe.sqF q).v, .val q.v, .val (Fe.mulF (Fe.sqF q) q).v, .any, .any, .any, .any, .any, .any, .any, .any, .any, .any, .any, .any, .any, .any, .any, .any, .any]) (fun j => if j = 5 then 5 else 0) (Stored (Okb w0 [(w0.heap.size, p), ((w0.heap.size + 1), q), ((w0.heap.size + 1 + 1), Fe.zeroF)]) (Fe.mulF (Fe.sqF q) q)) (EnvB w0 (w0.heap.size + 3) [(w0.heap.size, p), ((w0.heap.size + 1), q), ((w0.heap.size + 1 + 1), Fe.zeroF)] [(w0.heap.size + 1 + 1)]) (Rel5 (Fe.mulF (Fe.sqF q) q)) (by kernel_rfl) (by kernel_rfl) (by kernel_rfl) (hB0.grown (gb_drewn _)) (fun d u w1 w2 hR h => items_stab _ _ _ d u w1 w2 hR h) (fun j u w1 w2 hR h => stored_stab _ _ j u w1 w2 hR h) (by kernel_rfl) ?_ ?_
 ·refine ⟨flow2_value rfl rfl fun a w h => ?_, ?_⟩
  ·have e3 : _ = Value.pointer (some ⟨(w0.heap.size + 1), 0, none⟩) := h.r 3
   have hb := h.base.e ((w0.heap.size + 1), q) (by simp)
   have c0 : w.cell? ⟨(w0.heap.size + 1), 0, none⟩ = some (.int .u64 q.x0) := hb.cell (i := 0) rfl
   have c1 : w.cell? ⟨(w0.heap.size + 1), 1, none⟩ = some (.int .u64 q.x1) := hb.cell (i := 1) rfl
   have c2 : w.cell? ⟨(w0.heap.size + 1), 2, none⟩ = some (.int .u64 q.x2) := hb.cell (i := 2) rfl
   have c3 : w.cell? ⟨(w0.heap.size + 1), 3, none⟩ = some (.int .u64 q.x3) := hb.cell (i := 3) rfl
   have c4 : w.cell? ⟨(w0.heap.size + 1), 4, none⟩ = some (.int .u64 q.x4) := hb.cell (i := 4) rfl
   refine ⟨.agg #[.int .u64 q.x0, .int .u64 q.x1, .int .u64 q.x2, .int .u64 q.x3, .int .u64 q.x4], w, ?_, h.base, rel5_refl _ _, rfl⟩
   clear h hb
   simp only [execOp, Act.eval, e3]
   go_simp
  refine ⟨flow2_call rfl rfl fun a w h => ?_, ?_⟩
  ·have e10 : _ = q.v := h.d 10
   have e10x : a.tmps[10]?.getD undef = q.v := by simpa using e10
   have hb := h.base
   refine ⟨77, #[q.v], ?_, ?_⟩
   ·clear h hb e10
    go_simp
   ·refine (sq_fe q w okq).mono ?_
    intro e w1 hp
    obtain ⟨rfl, hg⟩ := feOut_is hp
    exact ⟨_, rfl, hb.grown hg, Or.inl hg, rfl⟩
  refine ⟨flow2_value rfl rfl fun a w h => ?_, ?_⟩
  ·have e3 : _ = Value.pointer (some ⟨(w0.heap.size + 1), 0, none⟩) := h.r 3
   have hb := h.base.e ((w0.heap.size + 1), q) (by simp)
   have c0 : w.cell? ⟨(w0.heap.size + 1), 0, none⟩ = some (.int .u64 q.x0) := hb.cell (i := 0) rfl
   have c1 : w.cell? ⟨(w0.heap.size + 1), 1, none⟩ = some (.int .u64 q.x1) := hb.cell (i := 1) rfl
   have c2 : w.cell? ⟨(w0.heap.size + 1), 2, none⟩ = some (.int .u64 q.x2) := hb.cell (i := 2) rfl
   have c3 : w.cell? ⟨(w0.heap.size + 1), 3, none⟩ = some (.int .u64 q.x3) := hb.cell (i := 3) rfl
   have c4 : w.cell? ⟨(w0.heap.size + 1), 4, none⟩ = some (.int .u64 q.x4) := hb.cell (i := 4) rfl
   refine ⟨.agg #[.int .u64 q.x0, .int .u64 q.x1, .int .u64 q.x2, .int .u64 q.x3, .int .u64 q.x4], w, ?_, h.base, rel5_refl _ _, rfl⟩
   clear h hb
   simp only [execOp, Act.eval, e3]
   go_simp
  refine ⟨flow2_call rfl rfl fun a w h => ?_, ?_⟩
  ·have e11 : _ = (Fe.sqF q).v := h.d 11
   have e12 : _ = q.v := h.d 12
   have e11x : a.tmps[11]?.getD undef = (Fe.sqF q).v := by simpa using e11
   have e12x : a.tmps[12]?.getD undef = q.v := by simpa using e12
   have hb := h.base
   refine ⟨38, #[(Fe.sqF q).v, q.v], ?_, ?_⟩
   ·clear h hb e11 e12
    go_simp
   ·refine (mul_fe (Fe.sqF q) q w (Fe.sq_right _).ok okq).mono ?_
    intro e w1 hp
    obtain ⟨rfl, hg⟩ := feOut_is hp
    exact ⟨_, rfl, hb.grown hg, Or.inl hg, rfl⟩
  refine ⟨flow2_value rfl rfl fun a w h => ?_, ?_⟩
  ·refine ⟨.pointer (some ⟨w.heap.size, 0, none⟩), w.alloc (.cells #[.int .u64 0, .int .u64 0, .int .u64 0, .int .u64 0, .int .u64 0] 34), ?_, h.base.grown (World.grownBy_alloc _ _ _), Or.inl (World.grownBy_alloc _ _ _), ⟨w.heap.size, rfl, ⟨_, _, _, _, _, Blk.new w [.int .u64 0, .int .u64 0, .int .u64 0, .int .u64 0, .int .u64 0] _⟩, h.base.fresh⟩⟩
   clear h
   go_simp
  refine ⟨flow2_skip rfl rfl fun a w h => ?_, ?_⟩
  ·obtain ⟨Bn, ep, hroom, hK⟩ : ∃ Bn, a.tmps.getD 5 undef = .pointer (some ⟨Bn, 0, none⟩) ∧ Room5 w Bn 34 ∧ (Okb w0 [(w0.heap.size, p), ((w0.heap.size + 1), q), ((w0.heap.size + 1 + 1), Fe.zeroF)]) Bn := h.dep 5 (by kernel_rfl)
   have e13 : _ = Value.agg #[.int .u64 (Fe.mulF (Fe.sqF q) q).x0, .int .u64 (Fe.mulF (Fe.sqF q) q).x1, .int .u64 (Fe.mulF (Fe.sqF q) q).x2, .int .u64 (Fe.mulF (Fe.sqF q) q).x3, .int .u64 (Fe.mulF (Fe.sqF q) q).x4] := h.d 13
   refine ⟨set5W w Bn (Fe.mulF (Fe.sqF q) q), ?_, h.base.set hK _, Or.inr ⟨Bn, rfl, hroom⟩, ⟨Bn, ep, hK, set5W_same hroom⟩⟩
   obtain ⟨u0, u1, u2, u3, u4, hR⟩ := hroom
   have c0r := hR.cell (i := 0) rfl; have f0r := hR.free 0
   have c1r := hR.cell (i := 1) rfl; have f1r := hR.free 1
   have c2r := hR.cell (i := 2) rfl; have f2r := hR.free 2
   have c3r := hR.cell (i := 3) rfl; have f3r := hR.free 3
   have c4r := hR.cell (i := 4) rfl; have f4r := hR.free 4
   clear h hK hR
   unfold set5W
   simp only [execOp, Act.eval, ep, e13]
   go_simp
  trivial
 ·intro a' w1 hB hsz hdf hrest hslots hmems
  obtain ⟨B1, hptr, hK, hb⟩ := hmems 5 _ rfl rfl
  obtain rfl := frame_is (a := a') (vs := [.agg #[.int .u64 p.x0, .int .u64 p.x1, .int .u64 p.x2, .int .u64 p.x3, .int .u64 p.x4], .agg #[.int .u64 q.x0, .int .u64 q.x1, .int .u64 q.x2, .int .u64 q.x3, .int .u64 q.x4], .pointer (some ⟨w0.heap.size, 0, none⟩), .pointer (some ⟨w0.heap.size + 1, 0, none⟩), .pointer (some ⟨w0.heap.size + 1 + 1, 0, none⟩), .pointer (some ⟨B1, 0, none⟩), undef, undef, undef, undef, q.v, (Fe.sqF q).v, q.v, (Fe.mulF (Fe.sqF q) q).v, undef, undef, undef, undef, undef, undef, undef, undef, undef, undef, undef, undef, undef, undef, undef, undef, undef]) hsz ⟨hrest 0 (by kernel_rfl), hrest 1 (by kernel_rfl), hrest 2 (by kernel_rfl), hrest 3 (by kernel_rfl), hrest 4 (by kernel_rfl), hptr, hrest 6 (by kernel_rfl), hrest 7 (by kernel_rfl), hrest 8 (by kernel_rfl), hrest 9 (by kernel_rfl), hslots 10 (by kernel_rfl), hslots 11 (by kernel_rfl), hslots 12 (by kernel_rfl), hslots 13 (by kernel_rfl), hrest 14 (by kernel_rfl), hrest 15 (by kernel_rfl), hrest 16 (by kernel_rfl), hrest 17 (by kernel_rfl), hrest 18 (by kernel_rfl), hrest 19 (by kernel_rfl), hrest 20 (by kernel_rfl), hrest 21 (by kernel_rfl), hrest 22 (by kernel_rfl), hrest 23 (by kernel_rfl), hrest 24 (by kernel_rfl), hrest 25 (by kernel_rfl), hrest 26 (by kernel_rfl), hrest 27 (by kernel_rfl), hrest 28 (by kernel_rfl), hrest 29 (by kernel_rfl), hrest 30 (by kernel_rfl), trivial⟩ hdf
  clear hptr hsz hdf hrest hslots hmems hB0
  obtain ⟨cube, hf⟩ : ∃ f, f = Fe.mulF (Fe.sqF q) q := ⟨_, rfl⟩
  have okcube : cube.Ok := by rw [hf]; exact (Fe.mul_right _ _).ok
  rw [← hf] at hb
  have Hcube := Lib.hid hf; clear hf
  have hltb := hb.lt
  have hK1 := hK.1
  have hKp := hK.2 (w0.heap.size, p) (by simp)
  have hKq := hK.2 (w0.heap.size + 1, q) (by simp)
  have hKr : w0.heap.size + 1 + 1 ≠ B1 := hK.2 (w0.heap.size + 1 + 1, Fe.zeroF) (by simp)
  have hBl := hB.l
  have hB1 : EnvB w0 w1.heap.size [(w0.heap.size, p), (w0.heap.size + 1, q), (B1, cube)] [(w0.heap.size + 1 + 1)] w1 :=
   ⟨hB.g, by
    intro z hz
    simp only [List.mem_cons, List.not_mem_nil, or_false] at hz
    rcases hz with rfl | rfl | rfl
    ·exact hB.e _ (by simp)
    ·exact hB.e _ (by simp)
    ·exact hb, hB.r, by intro z hz; simp only [List.mem_cons, List.not_mem_nil, or_false] at hz; rcases hz with rfl | rfl | rfl <;> simp only [] <;> omega, Nat.le_refl _, hB.g.size⟩
  clear hB hb hK
  go_wp2_with fail
  refine wp_region_flow2 (itemsG (Okb w0 [(w0.heap.size, p), ((w0.heap.size + 1), q), (B1, cube)]) [.any, .any, .any, .any, .any, .any, .ptr, .any, .any, .any, .any, .any, .any, .any, .val cube.v, .val (Fe.sqF cube).v, .val q.v, .val (Fe.mulF (Fe.sqF cube) q).v, .any, .any, .any, .any, .any, .any, .any, .any, .any, .any, .any, .any, .any]) (fun j => if j = 5 then 6 else 0) (Stored (Okb w0 [(w0.heap.size, p), ((w0.heap.size + 1), q), (B1, cube)]) (Fe.mulF (Fe.sqF cube) q)) (EnvB w0 w1.heap.size [(w0.heap.size, p), ((w0.heap.size + 1), q), (B1, cube)] [(w0.heap.size + 1 + 1)]) (Rel5 (Fe.mulF (Fe.sqF cube) q)) (by kernel_rfl) (by kernel_rfl) (by kernel_rfl) (hB1.grown (gb_drewn _)) (fun d u w1 w2 hR h => items_stab _ _ _ d u w1 w2 hR h) (fun j u w1 w2 hR h => stored_stab _ _ j u w1 w2 hR h) (by kernel_rfl) ?_ ?_
  ·refine ⟨flow2_value rfl rfl fun a w h => ?_, ?_⟩
   ·have e5 : _ = Value.pointer (some ⟨B1, 0, none⟩) := h.r 5
    have hb := h.base.e (B1, cube) (by simp)
    have c0 : w.cell? ⟨B1, 0, none⟩ = some (.int .u64 cube.x0) := hb.cell (i := 0) rfl
    have c1 : w.cell? ⟨B1, 1, none⟩ = some (.int .u64 cube.x1) := hb.cell (i := 1) rfl
    have c2 : w.cell? ⟨B1, 2, none⟩ = some (.int .u64 cube.x2) := hb.cell (i := 2) rfl
    have c3 : w.cell? ⟨B1, 3, none⟩ = some (.int .u64 cube.x3) := hb.cell (i := 3) rfl
    have c4 : w.cell? ⟨B1, 4, none⟩ = some (.int .u64 cube.x4) := hb.cell (i := 4) rfl
    refine ⟨.agg #[.int .u64 cube.x0, .int .u64 cube.x1, .int .u64 cube.x2, .int .u64 cube.x3, .int .u64 cube.x4], w, ?_, h.base, rel5_refl _ _, rfl⟩
    clear h hb
    simp only [execOp, Act.eval, e5]
    go_simp
   refine ⟨flow2_call rfl rfl fun a w h => ?_, ?_⟩
   ·have e14 : _ = cube.v := h.d 14
    have e14x : a.tmps[14]?.getD undef = cube.v := by simpa using e14
    have hb := h.base
    refine ⟨77, #[cube.v], ?_, ?_⟩
    ·clear h hb e14
     go_simp
    ·refine (sq_fe cube w okcube).mono ?_
     intro e w1 hp
     obtain ⟨rfl, hg⟩ := feOut_is hp
     exact ⟨_, rfl, hb.grown hg, Or.inl hg, rfl⟩
   refine ⟨flow2_value rfl rfl fun a w h => ?_, ?_⟩
   ·have e3 : _ = Value.pointer (some ⟨(w0.heap.size + 1), 0, none⟩) := h.r 3
    have hb := h.base.e ((w0.heap.size + 1), q) (by simp)
    have c0 : w.cell? ⟨(w0.heap.size + 1), 0, none⟩ = some (.int .u64 q.x0) := hb.cell (i := 0) rfl
    have c1 : w.cell? ⟨(w0.heap.size + 1), 1, none⟩ = some (.int .u64 q.x1) := hb.cell (i := 1) rfl
    have c2 : w.cell? ⟨(w0.heap.size + 1), 2, none⟩ = some (.int .u64 q.x2) := hb.cell (i := 2) rfl
    have c3 : w.cell? ⟨(w0.heap.size + 1), 3, none⟩ = some (.int .u64 q.x3) := hb.cell (i := 3) rfl
    have c4 : w.cell? ⟨(w0.heap.size + 1), 4, none⟩ = some (.int .u64 q.x4) := hb.cell (i := 4) rfl
    refine ⟨.agg #[.int .u64 q.x0, .int .u64 q.x1, .int .u64 q.x2, .int .u64 q.x3, .int .u64 q.x4], w, ?_, h.base, rel5_refl _ _, rfl⟩
    clear h hb
    simp only [execOp, Act.eval, e3]
    go_simp
   refine ⟨flow2_call rfl rfl fun a w h => ?_, ?_⟩
   ·have e15 : _ = (Fe.sqF cube).v := h.d 15
    have e16 : _ = q.v := h.d 16
    have e15x : a.tmps[15]?.getD undef = (Fe.sqF cube).v := by simpa using e15
    have e16x : a.tmps[16]?.getD undef = q.v := by simpa using e16
    have hb := h.base
    refine ⟨38, #[(Fe.sqF cube).v, q.v], ?_, ?_⟩
    ·clear h hb e15 e16
     go_simp
    ·refine (mul_fe (Fe.sqF cube) q w (Fe.sq_right _).ok okq).mono ?_
     intro e w1 hp
     obtain ⟨rfl, hg⟩ := feOut_is hp
     exact ⟨_, rfl, hb.grown hg, Or.inl hg, rfl⟩
   refine ⟨flow2_value rfl rfl fun a w h => ?_, ?_⟩
   ·refine ⟨.pointer (some ⟨w.heap.size, 0, none⟩), w.alloc (.cells #[.int .u64 0, .int .u64 0, .int .u64 0, .int .u64 0, .int .u64 0] 34), ?_, h.base.grown (World.grownBy_alloc _ _ _), Or.inl (World.grownBy_alloc _ _ _), ⟨w.heap.size, rfl, ⟨_, _, _, _, _, Blk.new w [.int .u64 0, .int .u64 0, .int .u64 0, .int .u64 0, .int .u64 0] _⟩, h.base.fresh⟩⟩
    clear h
    go_simp
   refine ⟨flow2_skip rfl rfl fun a w h => ?_, ?_⟩
   ·obtain ⟨Bn, ep, hroom, hK⟩ : ∃ Bn, a.tmps.getD 6 undef = .pointer (some ⟨Bn, 0, none⟩) ∧ Room5 w Bn 34 ∧ (Okb w0 [(w0.heap.size, p), ((w0.heap.size + 1), q), (B1, cube)]) Bn := h.dep 6 (by kernel_rfl)
    have e17 : _ = Value.agg #[.int .u64 (Fe.mulF (Fe.sqF cube) q).x0, .int .u64 (Fe.mulF (Fe.sqF cube) q).x1, .int .u64 (Fe.mulF (Fe.sqF cube) q).x2, .int .u64 (Fe.mulF (Fe.sqF cube) q).x3, .int .u64 (Fe.mulF (Fe.sqF cube) q).x4] := h.d 17
    refine ⟨set5W w Bn (Fe.mulF (Fe.sqF cube) q), ?_, h.base.set hK _, Or.inr ⟨Bn, rfl, hroom⟩, ⟨Bn, ep, hK, set5W_same hroom⟩⟩
    obtain ⟨u0, u1, u2, u3, u4, hR⟩ := hroom
    have c0r := hR.cell (i := 0) rfl; have f0r := hR.free 0
    have c1r := hR.cell (i := 1) rfl; have f1r := hR.free 1
    have c2r := hR.cell (i := 2) rfl; have f2r := hR.free 2
    have c3r := hR.cell (i := 3) rfl; have f3r := hR.free 3
    have c4r := hR.cell (i := 4) rfl; have f4r := hR.free 4
    clear h hK hR
    unfold set5W
    simp only [execOp, Act.eval, ep, e17]
    go_simp
   trivial
  ·intro a' w2 hB hsz hdf hrest hslots hmems
   obtain ⟨B2, hptr, hK, hb⟩ := hmems 5 _ rfl rfl
   obtain rfl := frame_is (a := a') (vs := [.agg #[.int .u64 p.x0, .int .u64 p.x1, .int .u64 p.x2, .int .u64 p.x3, .int .u64 p.x4], .agg #[.int .u64 q.x0, .int .u64 q.x1, .int .u64 q.x2, .int .u64 q.x3, .int .u64 q.x4], .pointer (some ⟨w0.heap.size, 0, none⟩), .pointer (some ⟨w0.heap.size + 1, 0, none⟩), .pointer (some ⟨w0.heap.size + 1 + 1, 0, none⟩), .pointer (some ⟨B1, 0, none⟩), .pointer (some ⟨B2, 0, none⟩), undef, undef, undef, q.v, (Fe.sqF q).v, q.v, (Fe.mulF (Fe.sqF q) q).v, cube.v, (Fe.sqF cube).v, q.v, (Fe.mulF (Fe.sqF cube) q).v, undef, undef, undef, undef, undef, undef, undef, undef, undef, undef, undef, undef, undef]) hsz ⟨hrest 0 (by kernel_rfl), hrest 1 (by kernel_rfl), hrest 2 (by kernel_rfl), hrest 3 (by kernel_rfl), hrest 4 (by kernel_rfl), hrest 5 (by kernel_rfl), hptr, hrest 7 (by kernel_rfl), hrest 8 (by kernel_rfl), hrest 9 (by kernel_rfl), hrest 10 (by kernel_rfl), hrest 11 (by kernel_rfl), hrest 12 (by kernel_rfl), hrest 13 (by kernel_rfl), hslots 14 (by kernel_rfl), hslots 15 (by kernel_rfl), hslots 16 (by kernel_rfl), hslots 17 (by kernel_rfl), hrest 18 (by kernel_rfl), hrest 19 (by kernel_rfl), hrest 20 (by kernel_rfl), hrest 21 (by kernel_rfl), hrest 22 (by kernel_rfl), hrest 23 (by kernel_rfl), hrest 24 (by kernel_rfl), hrest 25 (by kernel_rfl), hrest 26 (by kernel_rfl), hrest 27 (by kernel_rfl), hrest 28 (by kernel_rfl), hrest 29 (by kernel_rfl), hrest 30 (by kernel_rfl), trivial⟩ hdf
   clear hptr hsz hdf hrest hslots hmems hB1
   obtain ⟨sev, hf⟩ : ∃ f, f = Fe.mulF (Fe.sqF cube) q := ⟨_, rfl⟩
   have oksev : sev.Ok := by rw [hf]; exact (Fe.mul_right _ _).ok
   rw [← hf] at hb
   have Hsev := Lib.hid hf; clear hf
   have hAp := hB.e (w0.heap.size, p) (by simp)
   have c0 := hAp.cell (i := 0) rfl
   have c1 := hAp.cell (i := 1) rfl
   have c2 := hAp.cell (i := 2) rfl
   have c3 := hAp.cell (i := 3) rfl
   have c4 := hAp.cell (i := 4) rfl
   have d0 := hb.cell (i := 0) rfl
   have d1 := hb.cell (i := 1) rfl
   have d2 := hb.cell (i := 2) rfl
   have d3 := hb.cell (i := 3) rfl
   have d4 := hb.cell (i := 4) rfl
   go_wp2_with fail
   refine (mul_fe p sev _ okp oksev).mono ?_
   rintro e v3 ⟨base, hbase, rfl, hg3⟩
   have okbase : base.Ok := by rw [hbase.out]; exact (Fe.mul_right _ _).ok
   have hE3 := (hB.grown hg3).grown (World.grownBy_alloc v3 (.cells #[.int .u64 base.x0, .int .u64 base.x1, .int .u64 base.x2, .int .u64 base.x3, .int .u64 base.x4] 34) none)
   have hb7 : Blk (v3.alloc (.cells #[.int .u64 base.x0, .int .u64 base.x1, .int .u64 base.x2, .int .u64 base.x3, .int .u64 base.x4] 34)) v3.heap.size 34 (feL base) := Blk.new v3 (feL base) _
   clear hAp hB hb hK hg3 c0 c1 c2 c3 c4 d0 d1 d2 d3 d4
   go_wp2_with fail
   refine (manyOnes_any base _ okbase).mono ?_
   rintro e v4 ⟨C, on, hon, rfl, hg4, hC, hP⟩
   have okon : on.Ok := by rw [hon.out]; exact stepF_ok _ _ _
   have hb8 := hb7.grown hg4 (by simp)
   have c0 := hb8.cell (i := 0) rfl
   have c1 := hb8.cell (i := 1) rfl
   have c2 := hb8.cell (i := 2) rfl
   have c3 := hb8.cell (i := 3) rfl
   have c4 := hb8.cell (i := 4) rfl
   go_wp2_with fail
   refine (step_any C 2 on base _ (by decide) okon okbase hP).mono ?_
   rintro e v5 ⟨pw, hpw, rfl, hg5, hP5⟩
   have okpw : pw.Ok := by rw [hpw.out]; exact stepF_ok _ _ _
   have hE5 := (hE3.grown (gb_then hg4 hg5 hC)).grown (World.grownBy_alloc v5 (.cells #[.int .u64 pw.x0, .int .u64 pw.x1, .int .u64 pw.x2, .int .u64 pw.x3, .int .u64 pw.x4] 34) none)
   have hsz5 := (hE3.grown (gb_then hg4 hg5 hC)).l
   have hb9 : Blk (v5.alloc (.cells #[.int .u64 pw.x0, .int .u64 pw.x1, .int .u64 pw.x2, .int .u64 pw.x3, .int .u64 pw.x4] 34)) v5.heap.size 34 (feL pw) := Blk.new v5 (feL pw) _
   have hlt1 := (hE5.e (B1, cube) (by simp)).lt
   have hB6 : EnvB w0 (v5.heap.size + 1) [(w0.heap.size, p), (B1, cube), (v5.heap.size, pw)] [(w0.heap.size + 1 + 1)] (v5.alloc (.cells #[.int .u64 pw.x0, .int .u64 pw.x1, .int .u64 pw.x2, .int .u64 pw.x3, .int .u64 pw.x4] 34)) :=
    ⟨hE5.g, by
     intro z hz
     simp only [List.mem_cons, List.not_mem_nil, or_false] at hz
     rcases hz with rfl | rfl | rfl
     ·exact hE5.e _ (by simp)
     ·exact hE5.e _ (by simp)
     ·exact hb9, hE5.r, by
     intro z hz
     have h1 := hE5.n (w0.heap.size, p) (by simp)
     have h2 := hE5.n (B1, cube) (by simp)
     simp only [List.mem_cons, List.not_mem_nil, or_false] at hz
     rcases hz with rfl | rfl | rfl <;> simp only [] at * <;> omega, by simp, by have := hE5.g.size; simp at this; have := hE5.m; omega⟩
   clear hE3 hE5 hb7 hb8 hb9 hg4 hg5 hP hP5 c0 c1 c2 c3 c4
   go_wp2_with fail
   refine wp_region_flow2 (itemsG (Okb w0 [(w0.heap.size, p), (B1, cube), (v5.heap.size, pw)]) [.any, .any, .any, .any, .any, .any, .any, .any, .any, .any, .any, .any, .any, .any, .any, .any, .any, .any, .any, .any, .any, .any, .any, .any, .any, .any, .val p.v, .val cube.v, .val (Fe.mulF p cube).v, .val pw.v, .val (Fe.mulF (Fe.mulF p cube) pw).v]) (fun j => if j = 5 then 4 else 0) (Stored (Okb w0 [(w0.heap.size, p), (B1, cube), (v5.heap.size, pw)]) (Fe.mulF (Fe.mulF p cube) pw)) (EnvB w0 (v5.heap.size + 1) [(w0.heap.size, p), (B1, cube), (v5.heap.size, pw)] [(w0.heap.size + 1 + 1)]) (Rel5 (Fe.mulF (Fe.mulF p cube) pw)) (by kernel_rfl) (by kernel_rfl) (by kernel_rfl) (hB6.grown (gb_drewn _)) (fun d u w1 w2 hR h => items_stab _ _ _ d u w1 w2 hR h) (fun j u w1 w2 hR h => stored_stab _ _ j u w1 w2 hR h) (by kernel_rfl) ?_ ?_
   ·refine ⟨flow2_value rfl rfl fun a w h => ?_, ?_⟩
    ·have e2 : _ = Value.pointer (some ⟨w0.heap.size, 0, none⟩) := h.r 2
     have hb := h.base.e (w0.heap.size, p) (by simp)
     have c0 : w.cell? ⟨w0.heap.size, 0, none⟩ = some (.int .u64 p.x0) := hb.cell (i := 0) rfl
     have c1 : w.cell? ⟨w0.heap.size, 1, none⟩ = some (.int .u64 p.x1) := hb.cell (i := 1) rfl
     have c2 : w.cell? ⟨w0.heap.size, 2, none⟩ = some (.int .u64 p.x2) := hb.cell (i := 2) rfl
     have c3 : w.cell? ⟨w0.heap.size, 3, none⟩ = some (.int .u64 p.x3) := hb.cell (i := 3) rfl
     have c4 : w.cell? ⟨w0.heap.size, 4, none⟩ = some (.int .u64 p.x4) := hb.cell (i := 4) rfl
     refine ⟨.agg #[.int .u64 p.x0, .int .u64 p.x1, .int .u64 p.x2, .int .u64 p.x3, .int .u64 p.x4], w, ?_, h.base, rel5_refl _ _, rfl⟩
     clear h hb
     simp only [execOp, Act.eval, e2]
     go_simp
    refine ⟨flow2_value rfl rfl fun a w h => ?_, ?_⟩
    ·have e5 : _ = Value.pointer (some ⟨B1, 0, none⟩) := h.r 5
     have hb := h.base.e (B1, cube) (by simp)
     have c0 : w.cell? ⟨B1, 0, none⟩ = some (.int .u64 cube.x0) := hb.cell (i := 0) rfl
     have c1 : w.cell? ⟨B1, 1, none⟩ = some (.int .u64 cube.x1) := hb.cell (i := 1) rfl
     have c2 : w.cell? ⟨B1, 2, none⟩ = some (.int .u64 cube.x2) := hb.cell (i := 2) rfl
     have c3 : w.cell? ⟨B1, 3, none⟩ = some (.int .u64 cube.x3) := hb.cell (i := 3) rfl
     have c4 : w.cell? ⟨B1, 4, none⟩ = some (.int .u64 cube.x4) := hb.cell (i := 4) rfl
     refine ⟨.agg #[.int .u64 cube.x0, .int .u64 cube.x1, .int .u64 cube.x2, .int .u64 cube.x3, .int .u64 cube.x4], w, ?_, h.base, rel5_refl _ _, rfl⟩
     clear h hb
     simp only [execOp, Act.eval, e5]
     go_simp
    refine ⟨flow2_call rfl rfl fun a w h => ?_, ?_⟩
    ·have e26 : _ = p.v := h.d 26
     have e27 : _ = cube.v := h.d 27
     have e26x : a.tmps[26]?.getD undef = p.v := by simpa using e26
     have e27x : a.tmps[27]?.getD undef = cube.v := by simpa using e27
     have hb := h.base
     refine ⟨38, #[p.v, cube.v], ?_, ?_⟩
     ·clear h hb e26 e27
      go_simp
     ·refine (mul_fe p cube w okp okcube).mono ?_
      intro e w1 hp
      obtain ⟨rfl, hg⟩ := feOut_is hp
      exact ⟨_, rfl, hb.grown hg, Or.inl hg, rfl⟩
    refine ⟨flow2_value rfl rfl fun a w h => ?_, ?_⟩
    ·have e9 : _ = Value.pointer (some ⟨v5.heap.size, 0, none⟩) := h.r 9
     have hb := h.base.e (v5.heap.size, pw) (by simp)
     have c0 : w.cell? ⟨v5.heap.size, 0, none⟩ = some (.int .u64 pw.x0) := hb.cell (i := 0) rfl
     have c1 : w.cell? ⟨v5.heap.size, 1, none⟩ = some (.int .u64 pw.x1) := hb.cell (i := 1) rfl
     have c2 : w.cell? ⟨v5.heap.size, 2, none⟩ = some (.int .u64 pw.x2) := hb.cell (i := 2) rfl
     have c3 : w.cell? ⟨v5.heap.size, 3, none⟩ = some (.int .u64 pw.x3) := hb.cell (i := 3) rfl
     have c4 : w.cell? ⟨v5.heap.size, 4, none⟩ = some (.int .u64 pw.x4) := hb.cell (i := 4) rfl
     refine ⟨.agg #[.int .u64 pw.x0, .int .u64 pw.x1, .int .u64 pw.x2, .int .u64 pw.x3, .int .u64 pw.x4], w, ?_, h.base, rel5_refl _ _, rfl⟩
     clear h hb
     simp only [execOp, Act.eval, e9]
     go_simp
    refine ⟨flow2_call rfl rfl fun a w h => ?_, ?_⟩
    ·have e28 : _ = (Fe.mulF p cube).v := h.d 28
     have e29 : _ = pw.v := h.d 29
     have e28x : a.tmps[28]?.getD undef = (Fe.mulF p cube).v := by simpa using e28
     have e29x : a.tmps[29]?.getD undef = pw.v := by simpa using e29
     have hb := h.base
     refine ⟨38, #[(Fe.mulF p cube).v, pw.v], ?_, ?_⟩
     ·clear h hb e28 e29
      go_simp
     ·refine (mul_fe (Fe.mulF p cube) pw w (Fe.mul_right _ _).ok okpw).mono ?_
      intro e w1 hp
      obtain ⟨rfl, hg⟩ := feOut_is hp
      exact ⟨_, rfl, hb.grown hg, Or.inl hg, rfl⟩
    refine ⟨flow2_skip rfl rfl fun a w h => ?_, ?_⟩
    ·obtain ⟨Bn, hBn⟩ : ∃ Bn, Bn = (w0.heap.size + 1 + 1) := ⟨_, rfl⟩
     have ep : a.tmps.getD 4 undef = .pointer (some ⟨Bn, 0, none⟩) := by rw [hBn]; exact h.rest 4 (by kernel_rfl)
     have hroom : Room5 w Bn 34 := by rw [hBn]; exact h.base.r _ (by simp)
     have hK : (Okb w0 [(w0.heap.size, p), (B1, cube), (v5.heap.size, pw)]) Bn := by rw [hBn]; exact ⟨by omega, by intro z hz; simp only [List.mem_cons, List.not_mem_nil, or_false] at hz; rcases hz with rfl | rfl | rfl <;> simp only [] <;> omega⟩
     clear hBn
     have e30 : _ = Value.agg #[.int .u64 (Fe.mulF (Fe.mulF p cube) pw).x0, .int .u64 (Fe.mulF (Fe.mulF p cube) pw).x1, .int .u64 (Fe.mulF (Fe.mulF p cube) pw).x2, .int .u64 (Fe.mulF (Fe.mulF p cube) pw).x3, .int .u64 (Fe.mulF (Fe.mulF p cube) pw).x4] := h.d 30
     refine ⟨set5W w Bn (Fe.mulF (Fe.mulF p cube) pw), ?_, h.base.set hK _, Or.inr ⟨Bn, rfl, hroom⟩, ⟨Bn, ep, hK, set5W_same hroom⟩⟩
     obtain ⟨u0, u1, u2, u3, u4, hR⟩ := hroom
     have c0r := hR.cell (i := 0) rfl; have f0r := hR.free 0
     have c1r := hR.cell (i := 1) rfl; have f1r := hR.free 1
     have c2r := hR.cell (i := 2) rfl; have f2r := hR.free 2
     have c3r := hR.cell (i := 3) rfl; have f3r := hR.free 3
     have c4r := hR.cell (i := 4) rfl; have f4r := hR.free 4
     clear h hK hR
     unfold set5W
     simp only [execOp, Act.eval, ep, e30]
     go_simp
    trivial
   ·intro a' w6 hB hsz hdf hrest hslots hmems
    obtain ⟨B6, hptr, hK, hb⟩ := hmems 5 _ rfl rfl
    have hR4 : a'.tmps.getD 4 undef = .pointer (some ⟨w0.heap.size + 1 + 1, 0, none⟩) := hrest 4 (by kernel_rfl)
    have hptr2 : a'.tmps.getD 4 undef = .pointer (some ⟨B6, 0, none⟩) := hptr
    rw [hR4] at hptr2
    obtain rfl : w0.heap.size + 1 + 1 = B6 := by simpa using hptr2
    obtain rfl := frame_is (a := a') (vs := [.agg #[.int .u64 p.x0, .int .u64 p.x1, .int .u64 p.x2, .int .u64 p.x3, .int .u64 p.x4], .agg #[.int .u64 q.x0, .int .u64 q.x1, .int .u64 q.x2, .int .u64 q.x3, .int .u64 q.x4], .pointer (some ⟨w0.heap.size, 0, none⟩), .pointer (some ⟨w0.heap.size + 1, 0, none⟩), .pointer (some ⟨w0.heap.size + 1 + 1, 0, none⟩), .pointer (some ⟨B1, 0, none⟩), .pointer (some ⟨B2, 0, none⟩), .pointer (some ⟨v3.heap.size, 0, none⟩), .func (.func 111) #[] #[.pointer (some ⟨C, 0, none⟩)], .pointer (some ⟨v5.heap.size, 0, none⟩), q.v, (Fe.sqF q).v, q.v, (Fe.mulF (Fe.sqF q) q).v, cube.v, (Fe.sqF cube).v, q.v, (Fe.mulF (Fe.sqF cube) q).v, .agg #[.int .u64 p.x0, .int .u64 p.x1, .int .u64 p.x2, .int .u64 p.x3, .int .u64 p.x4], .agg #[.int .u64 sev.x0, .int .u64 sev.x1, .int .u64 sev.x2, .int .u64 sev.x3, .int .u64 sev.x4], .agg #[.int .u64 base.x0, .int .u64 base.x1, .int .u64 base.x2, .int .u64 base.x3, .int .u64 base.x4], .agg #[.int .u64 base.x0, .int .u64 base.x1, .int .u64 base.x2, .int .u64 base.x3, .int .u64 base.x4], .func (.func 111) #[] #[.pointer (some ⟨C, 0, none⟩)], .func (.func 111) #[] #[.pointer (some ⟨C, 0, none⟩)], .agg #[.int .u64 base.x0, .int .u64 base.x1, .int .u64 base.x2, .int .u64 base.x3, .int .u64 base.x4], .agg #[.int .u64 pw.x0, .int .u64 pw.x1, .int .u64 pw.x2, .int .u64 pw.x3, .int .u64 pw.x4], p.v, cube.v, (Fe.mulF p cube).v, pw.v, (Fe.mulF (Fe.mulF p cube) pw).v]) hsz ⟨hrest 0 (by kernel_rfl), hrest 1 (by kernel_rfl), hrest 2 (by kernel_rfl), hrest 3 (by kernel_rfl), hrest 4 (by kernel_rfl), hrest 5 (by kernel_rfl), hrest 6 (by kernel_rfl), hrest 7 (by kernel_rfl), hrest 8 (by kernel_rfl), hrest 9 (by kernel_rfl), hrest 10 (by kernel_rfl), hrest 11 (by kernel_rfl), hrest 12 (by kernel_rfl), hrest 13 (by kernel_rfl), hrest 14 (by kernel_rfl), hrest 15 (by kernel_rfl), hrest 16 (by kernel_rfl), hrest 17 (by kernel_rfl), hrest 18 (by kernel_rfl), hrest 19 (by kernel_rfl), hrest 20 (by kernel_rfl), hrest 21 (by kernel_rfl), hrest 22 (by kernel_rfl), hrest 23 (by kernel_rfl), hrest 24 (by kernel_rfl), hrest 25 (by kernel_rfl), hslots 26 (by kernel_rfl), hslots 27 (by kernel_rfl), hslots 28 (by kernel_rfl), hslots 29 (by kernel_rfl), hslots 30 (by kernel_rfl), trivial⟩ hdf
    have G6 := hB.g
    clear hptr hptr2 hsz hdf hrest hslots hmems hB6 hR4 hB
    obtain ⟨g, hf⟩ : ∃ f, f = Fe.mulF (Fe.mulF p cube) pw := ⟨_, rfl⟩
    rw [← hf] at hb
    have Hg := Lib.hid hf; clear hf
    have c0 := hb.cell (i := 0) rfl
    have c1 := hb.cell (i := 1) rfl
    have c2 := hb.cell (i := 2) rfl
    have c3 := hb.cell (i := 3) rfl
    have c4 := hb.cell (i := 4) rfl
    go_wp2_with fail
    refine bodyPost_ret (v := .agg #[.int .u64 g.x0, .int .u64 g.x1, .int .u64 g.x2, .int .u64 g.x3, .int .u64 g.x4]) ?_ rfl ⟨g, Lib.hid ?_, rfl, G6⟩
    ·simp [results, Tryz.results105, go_sem, c0, c1, c2, c3, c4]
    ·rw [Hg.out, hpw.out, hon.out, hbase.out, Hsev.out, Hcube.out]; rfl
end
section
open Go.RowKit
def RootOut (F : Fe) (b : Bool) (w : World) (e : Ending) (w' : World) : Prop :=
 ∃ r : Fe, Hid (r = F) ∧ e = .returned (.tuple #[.agg #[.int .u64 r.x0, .int .u64 r.x1, .int .u64 r.x2, .int .u64 r.x3, .int .u64 r.x4], .bool b]) ∧ w.grownBy w' none
theorem rootI_ok : rootI.Ok := by constructor <;> decide
theorem fits_val (p q s : Fe) (b : Bool) (w : World) (okp : p.Ok) (okq : q.Ok) (oks : s.Ok) (hb : decide (Fe.m (Fe.mulF (Fe.sqF p) s) = Fe.m q) = b) :
  Calls Tryz.prog 106 #[.agg #[.int .u64 p.x0, .int .u64 p.x1, .int .u64 p.x2, .int .u64 p.x3, .int .u64 p.x4], .agg #[.int .u64 q.x0, .int .u64 q.x1, .int .u64 q.x2, .int .u64 q.x3, .int .u64 q.x4], .agg #[.int .u64 s.x0, .int .u64 s.x1, .int .u64 s.x2, .int .u64 s.x3, .int .u64 s.x4]] w fun e w' => e = .returned (.bool b) ∧ w.grownBy w' none := by
 rw [← hb]; exact fits_any p q s w okp okq oks
theorem odd_val (p : Fe) (b : Bool) (w : World) (okp : p.Ok) (hb : decide (Fe.m p % 2 = 1) = b) : Calls Tryz.prog 54 #[.agg #[.int .u64 p.x0, .int .u64 p.x1, .int .u64 p.x2, .int .u64 p.x3, .int .u64 p.x4]] w fun e w' => e = .returned (.bool b) ∧ w.grownBy w' none := by
 rw [← hb]; exact odd_any p w okp
theorem root_env (p q : Fe) (w0 : World) : EnvB w0 (w0.heap.size + 3) [(w0.heap.size, p), (w0.heap.size + 1, q)] [w0.heap.size + 1 + 1] (((w0.alloc (.cells #[.int .u64 p.x0, .int .u64 p.x1, .int .u64 p.x2, .int .u64 p.x3, .int .u64 p.x4] 34)).alloc (.cells #[.int .u64 q.x0, .int .u64 q.x1, .int .u64 q.x2, .int .u64 q.x3, .int .u64 q.x4] 34)).alloc (.cells #[.int .u64 0, .int .u64 0, .int .u64 0, .int .u64 0, .int .u64 0] 34)) :=
 ⟨gb_alloc (gb_alloc (gb_alloc (gb_refl _ _) _) _) _, by
  intro z hz
  simp only [List.mem_cons, List.not_mem_nil, or_false] at hz
  rcases hz with rfl | rfl
  ·exact ((Blk.new w0 (feL _) _).alloc _).alloc _
  ·exact (Blk.newAt (w0.alloc _) (feL _) _ (by simp)).alloc _, by
  intro B hB
  simp only [List.mem_cons, List.not_mem_nil, or_false] at hB
  subst hB
  exact ⟨_, _, _, _, _, Blk.newAt _ [.int .u64 0, .int .u64 0, .int .u64 0, .int .u64 0, .int .u64 0] _ (by simp)⟩, by intro z hz; simp only [List.mem_cons, List.not_mem_nil, or_false] at hz; rcases hz with rfl | rfl <;> simp only [] <;> omega, by simp, by omega⟩
set_option maxRecDepth 100000 in
set_option maxHeartbeats 1600000 in
theorem root_te (p q : Fe) (w0 : World) (hT : FTab w0) (okp : p.Ok) (okq : q.Ok) (h1 : decide (Fe.m (Fe.mulF (Fe.sqF (guessF p q)) q) = Fe.m p) = true) (h3 : decide (Fe.m (guessF p q) % 2 = 1) = false) :
  Calls Tryz.prog 83 #[.agg #[.int .u64 p.x0, .int .u64 p.x1, .int .u64 p.x2, .int .u64 p.x3, .int .u64 p.x4], .agg #[.int .u64 q.x0, .int .u64 q.x1, .int .u64 q.x2, .int .u64 q.x3, .int .u64 q.x4]] w0 (RootOut (guessF p q) true w0) := by
 have HT := Lib.hid hT; clear hT
 have H1 := Lib.hid h1; clear h1
 have H3 := Lib.hid h3; clear h3
 have hE0 : EnvB w0 (w0.heap.size + 3) [(w0.heap.size, p), (w0.heap.size + 1, q)] [w0.heap.size + 1 + 1] (((w0.alloc (.cells #[.int .u64 p.x0, .int .u64 p.x1, .int .u64 p.x2, .int .u64 p.x3, .int .u64 p.x4] 34)).alloc (.cells #[.int .u64 q.x0, .int .u64 q.x1, .int .u64 q.x2, .int .u64 q.x3, .int .u64 q.x4] 34)).alloc (.cells #[.int .u64 0, .int .u64 0, .int .u64 0, .int .u64 0, .int .u64 0] 34)) := root_env p q w0
 go_enter Tryz.func83, Tryz.ntmps83
 go_wp2_with fail
 refine (guess_any p q _ okp okq).mono ?_
 rintro e v1 ⟨g, hg, rfl, hg1⟩
 have okg : g.Ok := by rw [hg.out]; exact (Fe.mul_right _ _).ok
 have hE1 := (hE0.grown hg1).grown (World.grownBy_alloc v1 (.cells #[.int .u64 g.x0, .int .u64 g.x1, .int .u64 g.x2, .int .u64 g.x3, .int .u64 g.x4] 34) none)
 have hl1 := (hE0.grown hg1).l
 have hG1 : Blk (v1.alloc (.cells #[.int .u64 g.x0, .int .u64 g.x1, .int .u64 g.x2, .int .u64 g.x3, .int .u64 g.x4] 34)) v1.heap.size 34 (feL g) := Blk.new v1 (feL g) _
 clear hE0 hg1
 have hAp := hE1.e (w0.heap.size, p) (by simp)
 have hAq := hE1.e (w0.heap.size + 1, q) (by simp)
 have c0 := hAp.cell (i := 0) rfl
 have c1 := hAp.cell (i := 1) rfl
 have c2 := hAp.cell (i := 2) rfl
 have c3 := hAp.cell (i := 3) rfl
 have c4 := hAp.cell (i := 4) rfl
 have d0 := hAq.cell (i := 0) rfl
 have d1 := hAq.cell (i := 1) rfl
 have d2 := hAq.cell (i := 2) rfl
 have d3 := hAq.cell (i := 3) rfl
 have d4 := hAq.cell (i := 4) rfl
 go_wp2_with fail
 refine (fits_val g p q true _ okg okp okq (by rw [hg.out]; exact H1.out)).mono ?_
 rintro e v2 ⟨rfl, hg2⟩
 have hE2 := hE1.grown hg2
 have hG2 := hG1.grown hg2 (by simp)
 clear hE1 hG1 hg2 hAp hAq c0 c1 c2 c3 c4 d0 d1 d2 d3 d4
 have hAp := hE2.e (w0.heap.size, p) (by simp)
 have hAq := hE2.e (w0.heap.size + 1, q) (by simp)
 have c0 := hAp.cell (i := 0) rfl
 have c1 := hAp.cell (i := 1) rfl
 have c2 := hAp.cell (i := 2) rfl
 have c3 := hAp.cell (i := 3) rfl
 have c4 := hAp.cell (i := 4) rfl
 have d0 := hAq.cell (i := 0) rfl
 have d1 := hAq.cell (i := 1) rfl
 have d2 := hAq.cell (i := 2) rfl
 have d3 := hAq.cell (i := 3) rfl
 have d4 := hAq.cell (i := 4) rfl
 have x0 := hG2.cell (i := 0) rfl
 have x1 := hG2.cell (i := 1) rfl
 have x2 := hG2.cell (i := 2) rfl
 have x3 := hG2.cell (i := 3) rfl
 have x4 := hG2.cell (i := 4) rfl
 have y0 := hG2.free 0
 have y1 := hG2.free 1
 have y2 := hG2.free 2
 have y3 := hG2.free 3
 have y4 := hG2.free 4
 go_wp2_with fail
 refine (fits_val g p q true _ okg okp okq (by rw [hg.out]; exact H1.out)).mono ?_
 rintro e v5 ⟨rfl, hg5⟩
 have hE5 := hE2.grown hg5
 have hG5 := hG2.grown hg5 (by simp)
 clear hE2 hG2 hg5 hAp hAq c0 c1 c2 c3 c4 d0 d1 d2 d3 d4 x0 x1 x2 x3 x4 y0 y1 y2 y3 y4
 have x0 := hG5.cell (i := 0) rfl
 have x1 := hG5.cell (i := 1) rfl
 have x2 := hG5.cell (i := 2) rfl
 have x3 := hG5.cell (i := 3) rfl
 have x4 := hG5.cell (i := 4) rfl
 have y0 := hG5.free 0
 have y1 := hG5.free 1
 have y2 := hG5.free 2
 have y3 := hG5.free 3
 have y4 := hG5.free 4
 go_wp2_with fail
 refine (odd_val g false _ okg (by rw [hg.out]; exact H3.out)).mono ?_
 rintro e v6 ⟨rfl, hg6⟩
 have hE6 := hE5.grown hg6
 have hG6 := hG5.grown hg6 (by simp)
 clear hE5 hG5 hg6 x0 x1 x2 x3 x4 y0 y1 y2 y3 y4
 have x0 := hG6.cell (i := 0) rfl
 have x1 := hG6.cell (i := 1) rfl
 have x2 := hG6.cell (i := 2) rfl
 have x3 := hG6.cell (i := 3) rfl
 have x4 := hG6.cell (i := 4) rfl
 have y0 := hG6.free 0
 have y1 := hG6.free 1
 have y2 := hG6.free 2
 have y3 := hG6.free 3
 have y4 := hG6.free 4
 obtain ⟨u0, u1, u2, u3, u4, hR⟩ := hE6.r _ (List.mem_singleton.2 rfl)
 have s0 := hR.cell (i := 0) rfl
 have s1 := hR.cell (i := 1) rfl
 have s2 := hR.cell (i := 2) rfl
 have s3 := hR.cell (i := 3) rfl
 have s4 := hR.cell (i := 4) rfl
 have z0 := hR.free 0
 have z1 := hR.free 1
 have z2 := hR.free 2
 have z3 := hR.free 3
 have z4 := hR.free 4
 go_wp2_with fail
 refine bodyPost_ret (v := .tuple #[.agg #[.int .u64 g.x0, .int .u64 g.x1, .int .u64 g.x2, .int .u64 g.x3, .int .u64 g.x4], .bool true]) ?_ rfl ⟨g, Lib.hid (by rw [hg.out]), rfl, gb_set5 hE6.g (by omega) _ _ _ _ _⟩
 simp [results, Tryz.results83, go_sem, s0, s1, s2, s3, s4]
set_option maxRecDepth 100000 in
set_option maxHeartbeats 1600000 in
theorem root_to (p q : Fe) (w0 : World) (hT : FTab w0) (okp : p.Ok) (okq : q.Ok) (h1 : decide (Fe.m (Fe.mulF (Fe.sqF (guessF p q)) q) = Fe.m p) = true) (h3 : decide (Fe.m (guessF p q) % 2 = 1) = true) :
  Calls Tryz.prog 83 #[.agg #[.int .u64 p.x0, .int .u64 p.x1, .int .u64 p.x2, .int .u64 p.x3, .int .u64 p.x4], .agg #[.int .u64 q.x0, .int .u64 q.x1, .int .u64 q.x2, .int .u64 q.x3, .int .u64 q.x4]] w0 (RootOut (Fe.negF (guessF p q)) true w0) := by
 have HT := Lib.hid hT; clear hT
 have H1 := Lib.hid h1; clear h1
 have H3 := Lib.hid h3; clear h3
 have hE0 : EnvB w0 (w0.heap.size + 3) [(w0.heap.size, p), (w0.heap.size + 1, q)] [w0.heap.size + 1 + 1] (((w0.alloc (.cells #[.int .u64 p.x0, .int .u64 p.x1, .int .u64 p.x2, .int .u64 p.x3, .int .u64 p.x4] 34)).alloc (.cells #[.int .u64 q.x0, .int .u64 q.x1, .int .u64 q.x2, .int .u64 q.x3, .int .u64 q.x4] 34)).alloc (.cells #[.int .u64 0, .int .u64 0, .int .u64 0, .int .u64 0, .int .u64 0] 34)) := root_env p q w0
 go_enter Tryz.func83, Tryz.ntmps83
 go_wp2_with fail
 refine (guess_any p q _ okp okq).mono ?_
 rintro e v1 ⟨g, hg, rfl, hg1⟩
 have okg : g.Ok := by rw [hg.out]; exact (Fe.mul_right _ _).ok
 have hE1 := (hE0.grown hg1).grown (World.grownBy_alloc v1 (.cells #[.int .u64 g.x0, .int .u64 g.x1, .int .u64 g.x2, .int .u64 g.x3, .int .u64 g.x4] 34) none)
 have hl1 := (hE0.grown hg1).l
 have hG1 : Blk (v1.alloc (.cells #[.int .u64 g.x0, .int .u64 g.x1, .int .u64 g.x2, .int .u64 g.x3, .int .u64 g.x4] 34)) v1.heap.size 34 (feL g) := Blk.new v1 (feL g) _
 clear hE0 hg1
 have hAp := hE1.e (w0.heap.size, p) (by simp)
 have hAq := hE1.e (w0.heap.size + 1, q) (by simp)
 have c0 := hAp.cell (i := 0) rfl
 have c1 := hAp.cell (i := 1) rfl
 have c2 := hAp.cell (i := 2) rfl
 have c3 := hAp.cell (i := 3) rfl
 have c4 := hAp.cell (i := 4) rfl
 have d0 := hAq.cell (i := 0) rfl
 have d1 := hAq.cell (i := 1) rfl
 have d2 := hAq.cell (i := 2) rfl
 have d3 := hAq.cell (i := 3) rfl
 have d4 := hAq.cell (i := 4) rfl
 go_wp2_with fail
 refine (fits_val g p q true _ okg okp okq (by rw [hg.out]; exact H1.out)).mono ?_
 rintro e v2 ⟨rfl, hg2⟩
 have hE2 := hE1.grown hg2
 have hG2 := hG1.grown hg2 (by simp)
 clear hE1 hG1 hg2 hAp hAq c0 c1 c2 c3 c4 d0 d1 d2 d3 d4
 have hAp := hE2.e (w0.heap.size, p) (by simp)
 have hAq := hE2.e (w0.heap.size + 1, q) (by simp)
 have c0 := hAp.cell (i := 0) rfl
 have c1 := hAp.cell (i := 1) rfl
 have c2 := hAp.cell (i := 2) rfl
 have c3 := hAp.cell (i := 3) rfl
 have c4 := hAp.cell (i := 4) rfl
 have d0 := hAq.cell (i := 0) rfl
 have d1 := hAq.cell (i := 1) rfl
 have d2 := hAq.cell (i := 2) rfl
 have d3 := hAq.cell (i := 3) rfl
 have d4 := hAq.cell (i := 4) rfl
 have x0 := hG2.cell (i := 0) rfl
 have x1 := hG2.cell (i := 1) rfl
 have x2 := hG2.cell (i := 2) rfl
 have x3 := hG2.cell (i := 3) rfl
 have x4 := hG2.cell (i := 4) rfl
 have y0 := hG2.free 0
 have y1 := hG2.free 1
 have y2 := hG2.free 2
 have y3 := hG2.free 3
 have y4 := hG2.free 4
 go_wp2_with fail
 refine (fits_val g p q true _ okg okp okq (by rw [hg.out]; exact H1.out)).mono ?_
 rintro e v5 ⟨rfl, hg5⟩
 have hE5 := hE2.grown hg5
 have hG5 := hG2.grown hg5 (by simp)
 clear hE2 hG2 hg5 hAp hAq c0 c1 c2 c3 c4 d0 d1 d2 d3 d4 x0 x1 x2 x3 x4 y0 y1 y2 y3 y4
 have x0 := hG5.cell (i := 0) rfl
 have x1 := hG5.cell (i := 1) rfl
 have x2 := hG5.cell (i := 2) rfl
 have x3 := hG5.cell (i := 3) rfl
 have x4 := hG5.cell (i := 4) rfl
 have y0 := hG5.free 0
 have y1 := hG5.free 1
 have y2 := hG5.free 2
 have y3 := hG5.free 3
 have y4 := hG5.free 4
 go_wp2_with fail
 refine (odd_val g true _ okg (by rw [hg.out]; exact H3.out)).mono ?_
 rintro e v6 ⟨rfl, hg6⟩
 have hE6 := hE5.grown hg6
 have hG6 := hG5.grown hg6 (by simp)
 clear hE5 hG5 hg6 x0 x1 x2 x3 x4 y0 y1 y2 y3 y4
 have x0 := hG6.cell (i := 0) rfl
 have x1 := hG6.cell (i := 1) rfl
 have x2 := hG6.cell (i := 2) rfl
 have x3 := hG6.cell (i := 3) rfl
 have x4 := hG6.cell (i := 4) rfl
 have y0 := hG6.free 0
 have y1 := hG6.free 1
 have y2 := hG6.free 2
 have y3 := hG6.free 3
 have y4 := hG6.free 4
 go_wp2_with fail
 refine (neg_any g _ (HT.out.grown hE6.g) okg).mono ?_
 rintro e v7 ⟨n, hn, rfl, hg7⟩
 have hK2 : Okb w0 [(w0.heap.size, p), (w0.heap.size + 1, q)] v1.heap.size := by
  refine ⟨by omega, ?_⟩
  intro z hz
  simp only [List.mem_cons, List.not_mem_nil, or_false] at hz
  rcases hz with rfl | rfl <;> simp only [] <;> omega
 have hE8 := (hE6.grown hg7).set hK2 n
 have hG7 := hG6.grown hg7 (by simp)
 clear hE6 hG6 hg7 x0 x1 x2 x3 x4 y0 y1 y2 y3 y4
 have x0 := hG7.cell (i := 0) rfl
 have x1 := hG7.cell (i := 1) rfl
 have x2 := hG7.cell (i := 2) rfl
 have x3 := hG7.cell (i := 3) rfl
 have x4 := hG7.cell (i := 4) rfl
 have y0 := hG7.free 0
 have y1 := hG7.free 1
 have y2 := hG7.free 2
 have y3 := hG7.free 3
 have y4 := hG7.free 4
 obtain ⟨u0, u1, u2, u3, u4, hR⟩ := hE8.r _ (List.mem_singleton.2 rfl)
 unfold set5W at hE8 hR
 have s0 := hR.cell (i := 0) rfl
 have s1 := hR.cell (i := 1) rfl
 have s2 := hR.cell (i := 2) rfl
 have s3 := hR.cell (i := 3) rfl
 have s4 := hR.cell (i := 4) rfl
 have z0 := hR.free 0
 have z1 := hR.free 1
 have z2 := hR.free 2
 have z3 := hR.free 3
 have z4 := hR.free 4
 go_wp2_with fail
 refine bodyPost_ret (v := .tuple #[.agg #[.int .u64 n.x0, .int .u64 n.x1, .int .u64 n.x2, .int .u64 n.x3, .int .u64 n.x4], .bool true]) ?_ rfl ⟨n, Lib.hid (by rw [hn.out, hg.out]), rfl, gb_set5 hE8.g (by omega) _ _ _ _ _⟩
 simp [results, Tryz.results83, go_sem, s0, s1, s2, s3, s4]
set_option maxRecDepth 100000 in
set_option maxHeartbeats 1600000 in
theorem root_fe (p q : Fe) (w0 : World) (hT : FTab w0) (okp : p.Ok) (okq : q.Ok) (h1 : decide (Fe.m (Fe.mulF (Fe.sqF (guessF p q)) q) = Fe.m p) = false) (h2 : decide (Fe.m (Fe.mulF (Fe.sqF (Fe.mulF (guessF p q) rootI)) q) = Fe.m p) = true) (h3 : decide (Fe.m (Fe.mulF (guessF p q) rootI) % 2 = 1) = false) :
  Calls Tryz.prog 83 #[.agg #[.int .u64 p.x0, .int .u64 p.x1, .int .u64 p.x2, .int .u64 p.x3, .int .u64 p.x4], .agg #[.int .u64 q.x0, .int .u64 q.x1, .int .u64 q.x2, .int .u64 q.x3, .int .u64 q.x4]] w0 (RootOut (Fe.mulF (guessF p q) rootI) true w0) := by
 have HT := Lib.hid hT; clear hT
 have H1 := Lib.hid h1; clear h1
 have H2 := Lib.hid h2; clear h2
 have H3 := Lib.hid h3; clear h3
 have hE0 : EnvB w0 (w0.heap.size + 3) [(w0.heap.size, p), (w0.heap.size + 1, q)] [w0.heap.size + 1 + 1] (((w0.alloc (.cells #[.int .u64 p.x0, .int .u64 p.x1, .int .u64 p.x2, .int .u64 p.x3, .int .u64 p.x4] 34)).alloc (.cells #[.int .u64 q.x0, .int .u64 q.x1, .int .u64 q.x2, .int .u64 q.x3, .int .u64 q.x4] 34)).alloc (.cells #[.int .u64 0, .int .u64 0, .int .u64 0, .int .u64 0, .int .u64 0] 34)) := root_env p q w0
 go_enter Tryz.func83, Tryz.ntmps83
 go_wp2_with fail
 refine (guess_any p q _ okp okq).mono ?_
 rintro e v1 ⟨g, hg, rfl, hg1⟩
 have okg : g.Ok := by rw [hg.out]; exact (Fe.mul_right _ _).ok
 have hE1 := (hE0.grown hg1).grown (World.grownBy_alloc v1 (.cells #[.int .u64 g.x0, .int .u64 g.x1, .int .u64 g.x2, .int .u64 g.x3, .int .u64 g.x4] 34) none)
 have hl1 := (hE0.grown hg1).l
 have hG1 : Blk (v1.alloc (.cells #[.int .u64 g.x0, .int .u64 g.x1, .int .u64 g.x2, .int .u64 g.x3, .int .u64 g.x4] 34)) v1.heap.size 34 (feL g) := Blk.new v1 (feL g) _
 clear hE0 hg1
 have hAp := hE1.e (w0.heap.size, p) (by simp)
 have hAq := hE1.e (w0.heap.size + 1, q) (by simp)
 have c0 := hAp.cell (i := 0) rfl
 have c1 := hAp.cell (i := 1) rfl
 have c2 := hAp.cell (i := 2) rfl
 have c3 := hAp.cell (i := 3) rfl
 have c4 := hAp.cell (i := 4) rfl
 have d0 := hAq.cell (i := 0) rfl
 have d1 := hAq.cell (i := 1) rfl
 have d2 := hAq.cell (i := 2) rfl
 have d3 := hAq.cell (i := 3) rfl
 have d4 := hAq.cell (i := 4) rfl
 go_wp2_with fail
 refine (fits_val g p q false _ okg okp okq (by rw [hg.out]; exact H1.out)).mono ?_
 rintro e v2 ⟨rfl, hg2⟩
 have hE2 := hE1.grown hg2
 have hG2 := hG1.grown hg2 (by simp)
 clear hE1 hG1 hg2 hAp hAq c0 c1 c2 c3 c4 d0 d1 d2 d3 d4
 have hAp := hE2.e (w0.heap.size, p) (by simp)
 have hAq := hE2.e (w0.heap.size + 1, q) (by simp)
 have c0 := hAp.cell (i := 0) rfl
 have c1 := hAp.cell (i := 1) rfl
 have c2 := hAp.cell (i := 2) rfl
 have c3 := hAp.cell (i := 3) rfl
 have c4 := hAp.cell (i := 4) rfl
 have d0 := hAq.cell (i := 0) rfl
 have d1 := hAq.cell (i := 1) rfl
 have d2 := hAq.cell (i := 2) rfl
 have d3 := hAq.cell (i := 3) rfl
 have d4 := hAq.cell (i := 4) rfl
 have x0 := hG2.cell (i := 0) rfl
 have x1 := hG2.cell (i := 1) rfl
 have x2 := hG2.cell (i := 2) rfl
 have x3 := hG2.cell (i := 3) rfl
 have x4 := hG2.cell (i := 4) rfl
 have y0 := hG2.free 0
 have y1 := hG2.free 1
 have y2 := hG2.free 2
 have y3 := hG2.free 3
 have y4 := hG2.free 4
 have HTv := HT.out.grown hE2.g
 have t0 : v2.cell? ⟨6, 0, none⟩ = some (.int .u64 rootI.x0) := HTv.q 0 (by decide)
 have t1 : v2.cell? ⟨6, 1, none⟩ = some (.int .u64 rootI.x1) := HTv.q 1 (by decide)
 have t2 : v2.cell? ⟨6, 2, none⟩ = some (.int .u64 rootI.x2) := HTv.q 2 (by decide)
 have t3 : v2.cell? ⟨6, 3, none⟩ = some (.int .u64 rootI.x3) := HTv.q 3 (by decide)
 have t4 : v2.cell? ⟨6, 4, none⟩ = some (.int .u64 rootI.x4) := HTv.q 4 (by decide)
 clear HTv
 go_wp2_with fail
 refine (mul_fe g rootI _ okg rootI_ok).mono ?_
 rintro e v3 ⟨gi, hgi, rfl, hg3⟩
 have okgi : gi.Ok := by rw [hgi.out]; exact (Fe.mul_right _ _).ok
 have hK : Okb w0 [(w0.heap.size, p), (w0.heap.size + 1, q)] v1.heap.size := by
  refine ⟨by omega, ?_⟩
  intro z hz
  simp only [List.mem_cons, List.not_mem_nil, or_false] at hz
  rcases hz with rfl | rfl <;> simp only [] <;> omega
 have hE4 := (hE2.grown hg3).set hK gi
 have hG4 : Blk (set5W v3 v1.heap.size gi) v1.heap.size 34 (feL gi) := set5W_same ⟨_, _, _, _, _, hG2.grown hg3 (by simp)⟩
 have hG3 := hG2.grown hg3 (by simp)
 clear hE2 hG2 hg3 hAp hAq c0 c1 c2 c3 c4 d0 d1 d2 d3 d4 x0 x1 x2 x3 x4 y0 y1 y2 y3 y4 t0 t1 t2 t3 t4
 have x0 := hG3.cell (i := 0) rfl
 have x1 := hG3.cell (i := 1) rfl
 have x2 := hG3.cell (i := 2) rfl
 have x3 := hG3.cell (i := 3) rfl
 have x4 := hG3.cell (i := 4) rfl
 have y0 := hG3.free 0
 have y1 := hG3.free 1
 have y2 := hG3.free 2
 have y3 := hG3.free 3
 have y4 := hG3.free 4
 have hAp := hE4.e (w0.heap.size, p) (by simp)
 have hAq := hE4.e (w0.heap.size + 1, q) (by simp)
 unfold set5W at hE4 hG4 hAp hAq
 have c0 := hAp.cell (i := 0) rfl
 have c1 := hAp.cell (i := 1) rfl
 have c2 := hAp.cell (i := 2) rfl
 have c3 := hAp.cell (i := 3) rfl
 have c4 := hAp.cell (i := 4) rfl
 have d0 := hAq.cell (i := 0) rfl
 have d1 := hAq.cell (i := 1) rfl
 have d2 := hAq.cell (i := 2) rfl
 have d3 := hAq.cell (i := 3) rfl
 have d4 := hAq.cell (i := 4) rfl
 go_wp2_with fail
 refine (fits_val gi p q true _ okgi okp okq (by rw [hgi.out, hg.out]; exact H2.out)).mono ?_
 rintro e v5 ⟨rfl, hg5⟩
 have hE5 := hE4.grown hg5
 have hG5 := hG4.grown hg5 (by simp)
 clear hE4 hG4 hG3 hg5 hAp hAq c0 c1 c2 c3 c4 d0 d1 d2 d3 d4 x0 x1 x2 x3 x4 y0 y1 y2 y3 y4
 have x0 := hG5.cell (i := 0) rfl
 have x1 := hG5.cell (i := 1) rfl
 have x2 := hG5.cell (i := 2) rfl
 have x3 := hG5.cell (i := 3) rfl
 have x4 := hG5.cell (i := 4) rfl
 have y0 := hG5.free 0
 have y1 := hG5.free 1
 have y2 := hG5.free 2
 have y3 := hG5.free 3
 have y4 := hG5.free 4
 go_wp2_with fail
 refine (odd_val gi false _ okgi (by rw [hgi.out, hg.out]; exact H3.out)).mono ?_
 rintro e v6 ⟨rfl, hg6⟩
 have hE6 := hE5.grown hg6
 have hG6 := hG5.grown hg6 (by simp)
 clear hE5 hG5 hg6 x0 x1 x2 x3 x4 y0 y1 y2 y3 y4
 have x0 := hG6.cell (i := 0) rfl
 have x1 := hG6.cell (i := 1) rfl
 have x2 := hG6.cell (i := 2) rfl
 have x3 := hG6.cell (i := 3) rfl
 have x4 := hG6.cell (i := 4) rfl
 have y0 := hG6.free 0
 have y1 := hG6.free 1
 have y2 := hG6.free 2
 have y3 := hG6.free 3
 have y4 := hG6.free 4
 obtain ⟨u0, u1, u2, u3, u4, hR⟩ := hE6.r _ (List.mem_singleton.2 rfl)
 have s0 := hR.cell (i := 0) rfl
 have s1 := hR.cell (i := 1) rfl
 have s2 := hR.cell (i := 2) rfl
 have s3 := hR.cell (i := 3) rfl
 have s4 := hR.cell (i := 4) rfl
 have z0 := hR.free 0
 have z1 := hR.free 1
 have z2 := hR.free 2
 have z3 := hR.free 3
 have z4 := hR.free 4
 go_wp2_with fail
 refine bodyPost_ret (v := .tuple #[.agg #[.int .u64 gi.x0, .int .u64 gi.x1, .int .u64 gi.x2, .int .u64 gi.x3, .int .u64 gi.x4], .bool true]) ?_ rfl ⟨gi, Lib.hid (by rw [hgi.out, hg.out]), rfl, gb_set5 hE6.g (by omega) _ _ _ _ _⟩
 simp [results, Tryz.results83, go_sem, s0, s1, s2, s3, s4]
set_option maxRecDepth 100000 in
set_option maxHeartbeats 1600000 in
theorem root_fo (p q : Fe) (w0 : World) (hT : FTab w0) (okp : p.Ok) (okq : q.Ok) (h1 : decide (Fe.m (Fe.mulF (Fe.sqF (guessF p q)) q) = Fe.m p) = false) (h2 : decide (Fe.m (Fe.mulF (Fe.sqF (Fe.mulF (guessF p q) rootI)) q) = Fe.m p) = true) (h3 : decide (Fe.m (Fe.mulF (guessF p q) rootI) % 2 = 1) = true) :
  Calls Tryz.prog 83 #[.agg #[.int .u64 p.x0, .int .u64 p.x1, .int .u64 p.x2, .int .u64 p.x3, .int .u64 p.x4], .agg #[.int .u64 q.x0, .int .u64 q.x1, .int .u64 q.x2, .int .u64 q.x3, .int .u64 q.x4]] w0 (RootOut (Fe.negF (Fe.mulF (guessF p q) rootI)) true w0) := by
 have HT := Lib.hid hT; clear hT
 have H1 := Lib.hid h1; clear h1
 have H2 := Lib.hid h2; clear h2
 have H3 := Lib.hid h3; clear h3
 have hE0 : EnvB w0 (w0.heap.size + 3) [(w0.heap.size, p), (w0.heap.size + 1, q)] [w0.heap.size + 1 + 1] (((w0.alloc (.cells #[.int .u64 p.x0, .int .u64 p.x1, .int .u64 p.x2, .int .u64 p.x3, .int .u64 p.x4] 34)).alloc (.cells #[.int .u64 q.x0, .int .u64 q.x1, .int .u64 q.x2, .int .u64 q.x3, .int .u64 q.x4] 34)).alloc (.cells #[.int .u64 0, .int .u64 0, .int .u64 0, .int .u64 0, .int .u64 0] 34)) := root_env p q w0
 go_enter Tryz.func83, Tryz.ntmps83
 go_wp2_with fail
 refine (guess_any p q _ okp okq).mono ?_
 rintro e v1 ⟨g, hg, rfl, hg1⟩
 have okg : g.Ok := by rw [hg.out]; exact (Fe.mul_right _ _).ok
 have hE1 := (hE0.grown hg1).grown (World.grownBy_alloc v1 (.cells #[.int .u64 g.x0, .int .u64 g.x1, .int .u64 g.x2, .int .u64 g.x3, .int .u64 g.x4] 34) none)
 have hl1 := (hE0.grown hg1).l
 have hG1 : Blk (v1.alloc (.cells #[.int .u64 g.x0, .int .u64 g.x1, .int .u64 g.x2, .int .u64 g.x3, .int .u64 g.x4] 34)) v1.heap.size 34 (feL g) := Blk.new v1 (feL g) _
 clear hE0 hg1
 have hAp := hE1.e (w0.heap.size, p) (by simp)
 have hAq := hE1.e (w0.heap.size + 1, q) (by simp)
 have c0 := hAp.cell (i := 0) rfl
 have c1 := hAp.cell (i := 1) rfl
 have c2 := hAp.cell (i := 2) rfl
 have c3 := hAp.cell (i := 3) rfl
 have c4 := hAp.cell (i := 4) rfl
 have d0 := hAq.cell (i := 0) rfl
 have d1 := hAq.cell (i := 1) rfl
 have d2 := hAq.cell (i := 2) rfl
 have d3 := hAq.cell (i := 3) rfl
 have d4 := hAq.cell (i := 4) rfl
 go_wp2_with fail
 refine (fits_val g p q false _ okg okp okq (by rw [hg.out]; exact H1.out)).mono ?_
 rintro e v2 ⟨rfl, hg2⟩
 have hE2 := hE1.grown hg2
 have hG2 := hG1.grown hg2 (by simp)
 clear hE1 hG1 hg2 hAp hAq c0 c1 c2 c3 c4 d0 d1 d2 d3 d4
 have hAp := hE2.e (w0.heap.size, p) (by simp)
 have hAq := hE2.e (w0.heap.size + 1, q) (by simp)
 have c0 := hAp.cell (i := 0) rfl
 have c1 := hAp.cell (i := 1) rfl
 have c2 := hAp.cell (i := 2) rfl
 have c3 := hAp.cell (i := 3) rfl
 have c4 := hAp.cell (i := 4) rfl
 have d0 := hAq.cell (i := 0) rfl
 have d1 := hAq.cell (i := 1) rfl
 have d2 := hAq.cell (i := 2) rfl
 have d3 := hAq.cell (i := 3) rfl
 have d4 := hAq.cell (i := 4) rfl
 have x0 := hG2.cell (i := 0) rfl
 have x1 := hG2.cell (i := 1) rfl
 have x2 := hG2.cell (i := 2) rfl
 have x3 := hG2.cell (i := 3) rfl
 have x4 := hG2.cell (i := 4) rfl
 have y0 := hG2.free 0
 have y1 := hG2.free 1
 have y2 := hG2.free 2
 have y3 := hG2.free 3
 have y4 := hG2.free 4
 have HTv := HT.out.grown hE2.g
 have t0 : v2.cell? ⟨6, 0, none⟩ = some (.int .u64 rootI.x0) := HTv.q 0 (by decide)
 have t1 : v2.cell? ⟨6, 1, none⟩ = some (.int .u64 rootI.x1) := HTv.q 1 (by decide)
 have t2 : v2.cell? ⟨6, 2, none⟩ = some (.int .u64 rootI.x2) := HTv.q 2 (by decide)
 have t3 : v2.cell? ⟨6, 3, none⟩ = some (.int .u64 rootI.x3) := HTv.q 3 (by decide)
 have t4 : v2.cell? ⟨6, 4, none⟩ = some (.int .u64 rootI.x4) := HTv.q 4 (by decide)
 clear HTv
 go_wp2_with fail
 refine (mul_fe g rootI _ okg rootI_ok).mono ?_
 rintro e v3 ⟨gi, hgi, rfl, hg3⟩
 have okgi : gi.Ok := by rw [hgi.out]; exact (Fe.mul_right _ _).ok
 have hK : Okb w0 [(w0.heap.size, p), (w0.heap.size + 1, q)] v1.heap.size := by
  refine ⟨by omega, ?_⟩
  intro z hz
  simp only [List.mem_cons, List.not_mem_nil, or_false] at hz
  rcases hz with rfl | rfl <;> simp only [] <;> omega
 have hE4 := (hE2.grown hg3).set hK gi
 have hG4 : Blk (set5W v3 v1.heap.size gi) v1.heap.size 34 (feL gi) := set5W_same ⟨_, _, _, _, _, hG2.grown hg3 (by simp)⟩
 have hG3 := hG2.grown hg3 (by simp)
 clear hE2 hG2 hg3 hAp hAq c0 c1 c2 c3 c4 d0 d1 d2 d3 d4 x0 x1 x2 x3 x4 y0 y1 y2 y3 y4 t0 t1 t2 t3 t4
 have x0 := hG3.cell (i := 0) rfl
 have x1 := hG3.cell (i := 1) rfl
 have x2 := hG3.cell (i := 2) rfl
 have x3 := hG3.cell (i := 3) rfl
 have x4 := hG3.cell (i := 4) rfl
 have y0 := hG3.free 0
 have y1 := hG3.free 1
 have y2 := hG3.free 2
 have y3 := hG3.free 3
 have y4 := hG3.free 4
 have hAp := hE4.e (w0.heap.size, p) (by simp)
 have hAq := hE4.e (w0.heap.size + 1, q) (by simp)
 unfold set5W at hE4 hG4 hAp hAq
 have c0 := hAp.cell (i := 0) rfl
 have c1 := hAp.cell (i := 1) rfl
 have c2 := hAp.cell (i := 2) rfl
 have c3 := hAp.cell (i := 3) rfl
 have c4 := hAp.cell (i := 4) rfl
 have d0 := hAq.cell (i := 0) rfl
 have d1 := hAq.cell (i := 1) rfl
 have d2 := hAq.cell (i := 2) rfl
 have d3 := hAq.cell (i := 3) rfl
 have d4 := hAq.cell (i := 4) rfl
 go_wp2_with fail
 refine (fits_val gi p q true _ okgi okp okq (by rw [hgi.out, hg.out]; exact H2.out)).mono ?_
 rintro e v5 ⟨rfl, hg5⟩
 have hE5 := hE4.grown hg5
 have hG5 := hG4.grown hg5 (by simp)
 clear hE4 hG4 hG3 hg5 hAp hAq c0 c1 c2 c3 c4 d0 d1 d2 d3 d4 x0 x1 x2 x3 x4 y0 y1 y2 y3 y4
 have x0 := hG5.cell (i := 0) rfl
 have x1 := hG5.cell (i := 1) rfl
 have x2 := hG5.cell (i := 2) rfl
 have x3 := hG5.cell (i := 3) rfl
 have x4 := hG5.cell (i := 4) rfl
 have y0 := hG5.free 0
 have y1 := hG5.free 1
 have y2 := hG5.free 2
 have y3 := hG5.free 3
 have y4 := hG5.free 4
 go_wp2_with fail
 refine (odd_val gi true _ okgi (by rw [hgi.out, hg.out]; exact H3.out)).mono ?_
 rintro e v6 ⟨rfl, hg6⟩
 have hE6 := hE5.grown hg6
 have hG6 := hG5.grown hg6 (by simp)
 clear hE5 hG5 hg6 x0 x1 x2 x3 x4 y0 y1 y2 y3 y4
 have x0 := hG6.cell (i := 0) rfl
 have x1 := hG6.cell (i := 1) rfl
 have x2 := hG6.cell (i := 2) rfl
 have x3 := hG6.cell (i := 3) rfl
 have x4 := hG6.cell (i := 4) rfl
 have y0 := hG6.free 0
 have y1 := hG6.free 1
 have y2 := hG6.free 2
 have y3 := hG6.free 3
 have y4 := hG6.free 4
 go_wp2_with fail
 refine (neg_any gi _ (HT.out.grown hE6.g) okgi).mono ?_
 rintro e v7 ⟨n, hn, rfl, hg7⟩
 have hK2 : Okb w0 [(w0.heap.size, p), (w0.heap.size + 1, q)] v1.heap.size := by
  refine ⟨by omega, ?_⟩
  intro z hz
  simp only [List.mem_cons, List.not_mem_nil, or_false] at hz
  rcases hz with rfl | rfl <;> simp only [] <;> omega
 have hE8 := (hE6.grown hg7).set hK2 n
 have hG7 := hG6.grown hg7 (by simp)
 clear hE6 hG6 hg7 x0 x1 x2 x3 x4 y0 y1 y2 y3 y4
 have x0 := hG7.cell (i := 0) rfl
 have x1 := hG7.cell (i := 1) rfl
 have x2 := hG7.cell (i := 2) rfl
 have x3 := hG7.cell (i := 3) rfl
 have x4 := hG7.cell (i := 4) rfl
 have y0 := hG7.free 0
 have y1 := hG7.free 1
 have y2 := hG7.free 2
 have y3 := hG7.free 3
 have y4 := hG7.free 4
 obtain ⟨u0, u1, u2, u3, u4, hR⟩ := hE8.r _ (List.mem_singleton.2 rfl)
 unfold set5W at hE8 hR
 have s0 := hR.cell (i := 0) rfl
 have s1 := hR.cell (i := 1) rfl
 have s2 := hR.cell (i := 2) rfl
 have s3 := hR.cell (i := 3) rfl
 have s4 := hR.cell (i := 4) rfl
 have z0 := hR.free 0
 have z1 := hR.free 1
 have z2 := hR.free 2
 have z3 := hR.free 3
 have z4 := hR.free 4
 go_wp2_with fail
 refine bodyPost_ret (v := .tuple #[.agg #[.int .u64 n.x0, .int .u64 n.x1, .int .u64 n.x2, .int .u64 n.x3, .int .u64 n.x4], .bool true]) ?_ rfl ⟨n, Lib.hid (by rw [hn.out, hgi.out, hg.out]), rfl, gb_set5 hE8.g (by omega) _ _ _ _ _⟩
 simp [results, Tryz.results83, go_sem, s0, s1, s2, s3, s4]
set_option maxRecDepth 100000 in
set_option maxHeartbeats 1600000 in
theorem root_no (p q : Fe) (w0 : World) (hT : FTab w0) (okp : p.Ok) (okq : q.Ok) (h1 : decide (Fe.m (Fe.mulF (Fe.sqF (guessF p q)) q) = Fe.m p) = false) (h2 : decide (Fe.m (Fe.mulF (Fe.sqF (Fe.mulF (guessF p q) rootI)) q) = Fe.m p) = false) :
  Calls Tryz.prog 83 #[.agg #[.int .u64 p.x0, .int .u64 p.x1, .int .u64 p.x2, .int .u64 p.x3, .int .u64 p.x4], .agg #[.int .u64 q.x0, .int .u64 q.x1, .int .u64 q.x2, .int .u64 q.x3, .int .u64 q.x4]] w0 (RootOut Fe.zeroF false w0) := by
 have HT := Lib.hid hT; clear hT
 have H1 := Lib.hid h1; clear h1
 have H2 := Lib.hid h2; clear h2
 have hE0 : EnvB w0 (w0.heap.size + 3) [(w0.heap.size, p), (w0.heap.size + 1, q)] [w0.heap.size + 1 + 1] (((w0.alloc (.cells #[.int .u64 p.x0, .int .u64 p.x1, .int .u64 p.x2, .int .u64 p.x3, .int .u64 p.x4] 34)).alloc (.cells #[.int .u64 q.x0, .int .u64 q.x1, .int .u64 q.x2, .int .u64 q.x3, .int .u64 q.x4] 34)).alloc (.cells #[.int .u64 0, .int .u64 0, .int .u64 0, .int .u64 0, .int .u64 0] 34)) := root_env p q w0
 go_enter Tryz.func83, Tryz.ntmps83
 go_wp2_with fail
 refine (guess_any p q _ okp okq).mono ?_
 rintro e v1 ⟨g, hg, rfl, hg1⟩
 have okg : g.Ok := by rw [hg.out]; exact (Fe.mul_right _ _).ok
 have hE1 := (hE0.grown hg1).grown (World.grownBy_alloc v1 (.cells #[.int .u64 g.x0, .int .u64 g.x1, .int .u64 g.x2, .int .u64 g.x3, .int .u64 g.x4] 34) none)
 have hl1 := (hE0.grown hg1).l
 have hG1 : Blk (v1.alloc (.cells #[.int .u64 g.x0, .int .u64 g.x1, .int .u64 g.x2, .int .u64 g.x3, .int .u64 g.x4] 34)) v1.heap.size 34 (feL g) := Blk.new v1 (feL g) _
 clear hE0 hg1
 have hAp := hE1.e (w0.heap.size, p) (by simp)
 have hAq := hE1.e (w0.heap.size + 1, q) (by simp)
 have c0 := hAp.cell (i := 0) rfl
 have c1 := hAp.cell (i := 1) rfl
 have c2 := hAp.cell (i := 2) rfl
 have c3 := hAp.cell (i := 3) rfl
 have c4 := hAp.cell (i := 4) rfl
 have d0 := hAq.cell (i := 0) rfl
 have d1 := hAq.cell (i := 1) rfl
 have d2 := hAq.cell (i := 2) rfl
 have d3 := hAq.cell (i := 3) rfl
 have d4 := hAq.cell (i := 4) rfl
 go_wp2_with fail
 refine (fits_val g p q false _ okg okp okq (by rw [hg.out]; exact H1.out)).mono ?_
 rintro e v2 ⟨rfl, hg2⟩
 have hE2 := hE1.grown hg2
 have hG2 := hG1.grown hg2 (by simp)
 clear hE1 hG1 hg2 hAp hAq c0 c1 c2 c3 c4 d0 d1 d2 d3 d4
 have hAp := hE2.e (w0.heap.size, p) (by simp)
 have hAq := hE2.e (w0.heap.size + 1, q) (by simp)
 have c0 := hAp.cell (i := 0) rfl
 have c1 := hAp.cell (i := 1) rfl
 have c2 := hAp.cell (i := 2) rfl
 have c3 := hAp.cell (i := 3) rfl
 have c4 := hAp.cell (i := 4) rfl
 have d0 := hAq.cell (i := 0) rfl
 have d1 := hAq.cell (i := 1) rfl
 have d2 := hAq.cell (i := 2) rfl
 have d3 := hAq.cell (i := 3) rfl
 have d4 := hAq.cell (i := 4) rfl
 have x0 := hG2.cell (i := 0) rfl
 have x1 := hG2.cell (i := 1) rfl
 have x2 := hG2.cell (i := 2) rfl
 have x3 := hG2.cell (i := 3) rfl
 have x4 := hG2.cell (i := 4) rfl
 have y0 := hG2.free 0
 have y1 := hG2.free 1
 have y2 := hG2.free 2
 have y3 := hG2.free 3
 have y4 := hG2.free 4
 have HTv := HT.out.grown hE2.g
 have t0 : v2.cell? ⟨6, 0, none⟩ = some (.int .u64 rootI.x0) := HTv.q 0 (by decide)
 have t1 : v2.cell? ⟨6, 1, none⟩ = some (.int .u64 rootI.x1) := HTv.q 1 (by decide)
 have t2 : v2.cell? ⟨6, 2, none⟩ = some (.int .u64 rootI.x2) := HTv.q 2 (by decide)
 have t3 : v2.cell? ⟨6, 3, none⟩ = some (.int .u64 rootI.x3) := HTv.q 3 (by decide)
 have t4 : v2.cell? ⟨6, 4, none⟩ = some (.int .u64 rootI.x4) := HTv.q 4 (by decide)
 clear HTv
 go_wp2_with fail
 refine (mul_fe g rootI _ okg rootI_ok).mono ?_
 rintro e v3 ⟨gi, hgi, rfl, hg3⟩
 have okgi : gi.Ok := by rw [hgi.out]; exact (Fe.mul_right _ _).ok
 have hK : Okb w0 [(w0.heap.size, p), (w0.heap.size + 1, q)] v1.heap.size := by
  refine ⟨by omega, ?_⟩
  intro z hz
  simp only [List.mem_cons, List.not_mem_nil, or_false] at hz
  rcases hz with rfl | rfl <;> simp only [] <;> omega
 have hE4 := (hE2.grown hg3).set hK gi
 have hG4 : Blk (set5W v3 v1.heap.size gi) v1.heap.size 34 (feL gi) := set5W_same ⟨_, _, _, _, _, hG2.grown hg3 (by simp)⟩
 have hG3 := hG2.grown hg3 (by simp)
 clear hE2 hG2 hg3 hAp hAq c0 c1 c2 c3 c4 d0 d1 d2 d3 d4 x0 x1 x2 x3 x4 y0 y1 y2 y3 y4 t0 t1 t2 t3 t4
 have x0 := hG3.cell (i := 0) rfl
 have x1 := hG3.cell (i := 1) rfl
 have x2 := hG3.cell (i := 2) rfl
 have x3 := hG3.cell (i := 3) rfl
 have x4 := hG3.cell (i := 4) rfl
 have y0 := hG3.free 0
 have y1 := hG3.free 1
 have y2 := hG3.free 2
 have y3 := hG3.free 3
 have y4 := hG3.free 4
 have hAp := hE4.e (w0.heap.size, p) (by simp)
 have hAq := hE4.e (w0.heap.size + 1, q) (by simp)
 unfold set5W at hE4 hG4 hAp hAq
 have c0 := hAp.cell (i := 0) rfl
 have c1 := hAp.cell (i := 1) rfl
 have c2 := hAp.cell (i := 2) rfl
 have c3 := hAp.cell (i := 3) rfl
 have c4 := hAp.cell (i := 4) rfl
 have d0 := hAq.cell (i := 0) rfl
 have d1 := hAq.cell (i := 1) rfl
 have d2 := hAq.cell (i := 2) rfl
 have d3 := hAq.cell (i := 3) rfl
 have d4 := hAq.cell (i := 4) rfl
 go_wp2_with fail
 refine (fits_val gi p q false _ okgi okp okq (by rw [hgi.out, hg.out]; exact H2.out)).mono ?_
 rintro e v5 ⟨rfl, hg5⟩
 have hE5 := hE4.grown hg5
 have hG5 := hG4.grown hg5 (by simp)
 clear hE4 hG4 hG3 hg5 hAp hAq c0 c1 c2 c3 c4 d0 d1 d2 d3 d4 x0 x1 x2 x3 x4 y0 y1 y2 y3 y4
 obtain ⟨u0, u1, u2, u3, u4, hR⟩ := hE5.r _ (List.mem_singleton.2 rfl)
 have s0 := hR.cell (i := 0) rfl
 have s1 := hR.cell (i := 1) rfl
 have s2 := hR.cell (i := 2) rfl
 have s3 := hR.cell (i := 3) rfl
 have s4 := hR.cell (i := 4) rfl
 have z0 := hR.free 0
 have z1 := hR.free 1
 have z2 := hR.free 2
 have z3 := hR.free 3
 have z4 := hR.free 4
 go_wp2_with fail
 refine bodyPost_ret (v := .tuple #[.agg #[.int .u64 0, .int .u64 0, .int .u64 0, .int .u64 0, .int .u64 0], .bool false]) ?_ rfl ⟨Fe.zeroF, Lib.hid rfl, rfl, gb_set5 hE5.g (by omega) _ _ _ _ _⟩
 simp [results, Tryz.results83, go_sem, s0, s1, s2, s3, s4]
end
section
open Fe Num
structure Pw (a r : Fe) (k : Nat) : Prop where
 ri : Right r
 mi : Fe.m r = Fe.m a ^ k % P
theorem Pw.one {a : Fe} (h : Right a) : Pw a a 1 := ⟨h, by rw [Nat.pow_one, Nat.mod_eq_of_lt (m_lt a)]⟩
theorem Pw.mul {a r s : Fe} {k j : Nat} (h : Pw a r k) (g : Pw a s j) : Pw a (mulF r s) (k + j) :=
 ⟨mul_right _ _, by rw [mul_m h.ri g.ri, h.mi, g.mi, ← Nat.mul_mod, Nat.pow_add]⟩
theorem Pw.sq {a r : Fe} {k : Nat} (h : Pw a r k) : Pw a (sqF r) (2 * k) :=
 ⟨sq_right _, by rw [sq_m h.ri, h.mi, ← Nat.mul_mod, ← Nat.pow_add, show k + k = 2 * k by omega]⟩
theorem Pw.sqN {a r : Fe} {k : Nat} (h : Pw a r k) (n : Nat) : Pw a (sqN n r) (2 ^ n * k) := by
 induction n with
 | zero => rw [Nat.pow_zero, Nat.one_mul]; exact h
 | succ n ih => have := ih.sq; rw [← Nat.mul_assoc, ← Nat.pow_succ'] at this; exact this
theorem Pw.step {a r s : Fe} {k j : Nat} (h : Pw a r k) (g : Pw a s j) (n : Nat) : Pw a (stepF n r s) (2 ^ n * k + j) := (h.sqN n).mul g
theorem Pw.to {a r : Fe} {k j : Nat} (h : Pw a r k) (e : k = j) : Pw a r j := e ▸ h
theorem ones_pw {a : Fe} (h : Right a) : Pw a (ones10 a) (2 ^ 250 - 1) := by
 have p1 : Pw a (ones1 a) 3 := ((Pw.one h).step (Pw.one h) 1).to (by decide)
 have p2 : Pw a (ones2 a) 15 := (p1.step p1 2).to (by decide)
 have p3 : Pw a (ones3 a) 31 := (p2.step (Pw.one h) 1).to (by decide)
 have p4 : Pw a (ones4 a) 1023 := (p3.step p3 5).to (by decide)
 have p5 : Pw a (ones5 a) (2 ^ 20 - 1) := (p4.step p4 10).to (by decide)
 have p6 : Pw a (ones6 a) (2 ^ 40 - 1) := (p5.step p5 20).to (by decide)
 have p7 : Pw a (ones7 a) (2 ^ 50 - 1) := (p6.step p4 10).to (by decide)
 have p8 : Pw a (ones8 a) (2 ^ 100 - 1) := (p7.step p7 50).to (by decide)
 have p9 : Pw a (ones9 a) (2 ^ 200 - 1) := (p8.step p8 100).to (by decide)
 exact (p9.step p7 50).to (by decide)
theorem inv_pw {a : Fe} (h : Right a) : Pw a (invF a) eInv := by
 have p := Pw.one h
 have e8 : Pw a (sqF (sqF (sqF a))) 8 := p.sq.sq.sq
 have e11 : Pw a (mulF (sqF (sqF (sqF a))) (mulF (sqF a) a)) 11 := e8.mul (p.sq.mul p)
 exact ((ones_pw h).step e11 5).to (by decide +kernel)
theorem inv_right (a : Fe) : Right (invF a) := mul_right _ _
theorem step_right (n : Nat) (p b : Fe) : Right (stepF n p b) := mul_right _ _
theorem guess_m {u v : Fe} (hu : Right u) (hv : Right v) : Fe.m (guessF u v) = gN (Fe.m u) (Fe.m v) % P := by
 have hc : Fe.m (mulF (sqF v) v) = Fe.m v ^ 3 % P := ((Pw.one hv).sq.mul (Pw.one hv)).mi
 have h7 : Fe.m (mulF (sqF (mulF (sqF v) v)) v) = Fe.m v ^ 7 % P := ((((Pw.one hv).sq.mul (Pw.one hv)).sq).mul (Pw.one hv)).mi
 have hb : Fe.m (mulF u (mulF (sqF (mulF (sqF v) v)) v)) = Fe.m u * Fe.m v ^ 7 % P := by rw [mul_m hu (mul_right _ _), h7, Nat.mul_mod_mod]
 have hr := mul_right u (mulF (sqF (mulF (sqF v) v)) v)
 have hpw : Fe.m (stepF 2 (ones10 (mulF u (mulF (sqF (mulF (sqF v) v)) v))) (mulF u (mulF (sqF (mulF (sqF v) v)) v))) = (Fe.m u * Fe.m v ^ 7) ^ eEighth % P := by
  rw [(((ones_pw hr).step (Pw.one hr) 2).to (show 2 ^ 2 * (2 ^ 250 - 1) + 1 = eEighth by decide +kernel)).mi, hb, ← Nat.pow_mod]
 unfold guessF
 rw [mul_m (mul_right _ _) (step_right _ _ _), mul_m hu (mul_right _ _), hc, hpw]
 unfold gN
 rw [Nat.mul_mod_mod, Nat.mod_mul_mod]
 exact cong_mul (by rw [Nat.mul_mod_mod]) rfl
theorem guess_right (u v : Fe) : Right (guessF u v) := mul_right _ _
theorem rootI_right : Right rootI := by constructor <;> decide
theorem rootI_m : Fe.m rootI = i0 := by decide +kernel
def fitsF (r u v : Fe) : Bool := decide (Fe.m (mulF (sqF r) v) = Fe.m u)
theorem fitsF_is {r u v : Fe} (hr : Right r) (hv : Right v) : fitsF r u v = true ↔ Fe.m r * Fe.m r * Fe.m v % P = Fe.m u := by
 unfold fitsF
 rw [decide_eq_true_iff, mul_m (sq_right _) hv, sq_m hr, Nat.mod_mul_mod]
def evenF (r : Fe) : Fe := if Fe.m r % 2 = 1 then negF r else r
def rootF (u v : Fe) : Fe × Bool :=
 if fitsF (guessF u v) u v = true then (evenF (guessF u v), true)
 else if fitsF (mulF (guessF u v) rootI) u v = true then (evenF (mulF (guessF u v) rootI), true)
 else (zeroF, false)
theorem neg_m {a : Fe} (h : Right a) : Fe.m (negF a) = (P - Fe.m a) % P := by
 have hz : Right zeroF := by constructor <;> decide
 have e : Fe.m zeroF = 0 := by decide +kernel
 unfold negF
 rw [sub_m hz h, e, Nat.zero_add]
theorem even_m {r : Fe} (h : Right r) : Right (evenF r) ∧ Fe.m (evenF r) % 2 = 0 ∧ ∀ v : Nat, Fe.m (evenF r) * Fe.m (evenF r) * v % P = Fe.m r * Fe.m r * v % P := by
 unfold evenF
 have hl := m_lt r
 by_cases ho : Fe.m r % 2 = 1
 ·rw [if_pos ho]
  have hm := neg_m h
  rw [Nat.mod_eq_of_lt (by omega)] at hm
  refine ⟨neg_right _, ?_, fun v => ?_⟩
  ·rw [hm]; unfold P at *; omega
  ·rw [hm]
   obtain ⟨d, hd⟩ : ∃ d, P = Fe.m r + d := ⟨P - Fe.m r, by omega⟩
   have e : (P - Fe.m r) * (P - Fe.m r) * v + P * (2 * Fe.m r * v) = Fe.m r * Fe.m r * v + P * (P * v) := by
    rw [hd, Nat.add_sub_cancel_left]; grind
   have := congrArg (· % P) e
   simpa [Nat.add_mul_mod_self_left] using this
 ·rw [if_neg ho]
  exact ⟨h, by omega, fun _ => rfl⟩
theorem root_says {u v : Fe} (hv : Right v) (h : (rootF u v).2 = true) : Right (rootF u v).1 ∧ Fe.m (rootF u v).1 % 2 = 0 ∧ Fe.m (rootF u v).1 * Fe.m (rootF u v).1 * Fe.m v % P = Fe.m u := by
 unfold rootF at *
 by_cases h1 : fitsF (guessF u v) u v = true
 ·rw [if_pos h1] at h ⊢
  have := even_m (guess_right u v)
  exact ⟨this.1, this.2.1, (this.2.2 _).trans ((fitsF_is (guess_right u v) hv).1 h1)⟩
 ·rw [if_neg h1] at h ⊢
  by_cases h2 : fitsF (mulF (guessF u v) rootI) u v = true
  ·rw [if_pos h2] at h ⊢
   have := even_m (mul_right _ _ : Right (mulF (guessF u v) rootI))
   exact ⟨this.1, this.2.1, (this.2.2 _).trans ((fitsF_is (mul_right _ _) hv).1 h2)⟩
  ·rw [if_neg h2] at h; cases h
theorem fitsN_mod {r u v : Nat} : FitsN (r % P) u v ↔ FitsN r u v := by
 unfold FitsN
 rw [show r % P * (r % P) * v % P = r * r * v % P from by rw [Nat.mul_mod, ← Nat.mul_mod r r, ← Nat.mul_mod]]
theorem root_true {u v : Fe} (hu : Right u) (hv : Right v) (h : FitsN (gN (Fe.m u) (Fe.m v)) (Fe.m u) (Fe.m v) ∨ FitsN (gN (Fe.m u) (Fe.m v) * i0) (Fe.m u) (Fe.m v)) : (rootF u v).2 = true := by
 have hul := Nat.mod_eq_of_lt (m_lt u)
 unfold rootF
 by_cases h1 : fitsF (guessF u v) u v = true
 ·rw [if_pos h1]
 ·rw [if_neg h1]
  by_cases h2 : fitsF (mulF (guessF u v) rootI) u v = true
  ·rw [if_pos h2]
  ·exfalso
   rcases h with h | h
   ·apply h1
    rw [fitsF_is (guess_right u v) hv, guess_m hu hv]
    have h2 := fitsN_mod.2 h
    unfold FitsN at h2
    rw [hul] at h2
    exact h2
   ·apply h2
    rw [fitsF_is (mul_right _ _) hv, mul_m (guess_right u v) rootI_right, guess_m hu hv, rootI_m, Nat.mod_mul_mod]
    have h3 := fitsN_mod.2 h
    unfold FitsN at h3
    rw [hul] at h3
    exact h3
theorem root_any_true {u v : Fe} {t : Nat} (hu : Right u) (hv : Right v) (h : t * t * Fe.m v % P = Fe.m u) : (rootF u v).2 = true :=
 root_true hu hv (Fe.fits_any (by rw [h, Nat.mod_eq_of_lt (m_lt u)]))
end
section
open Go.RowKit
theorem root_all (p q : Fe) (w0 : World) (hT : FTab w0) (okp : p.Ok) (okq : q.Ok) : Calls Tryz.prog 83 #[.agg #[.int .u64 p.x0, .int .u64 p.x1, .int .u64 p.x2, .int .u64 p.x3, .int .u64 p.x4], .agg #[.int .u64 q.x0, .int .u64 q.x1, .int .u64 q.x2, .int .u64 q.x3, .int .u64 q.x4]] w0 (RootOut (rootF p q).1 (rootF p q).2 w0) := by
 unfold rootF
 by_cases h1 : fitsF (guessF p q) p q = true
 ·rw [if_pos h1]
  unfold evenF
  by_cases h3 : Fe.m (guessF p q) % 2 = 1
  ·rw [if_pos h3]; exact root_to p q w0 hT okp okq h1 (decide_eq_true h3)
  ·rw [if_neg h3]; exact root_te p q w0 hT okp okq h1 (decide_eq_false h3)
 ·rw [if_neg h1]
  have h1' := (Bool.eq_false_iff).2 h1
  by_cases h2 : fitsF (Fe.mulF (guessF p q) rootI) p q = true
  ·rw [if_pos h2]
   unfold evenF
   by_cases h3 : Fe.m (Fe.mulF (guessF p q) rootI) % 2 = 1
   ·rw [if_pos h3]; exact root_fo p q w0 hT okp okq h1' h2 (decide_eq_true h3)
   ·rw [if_neg h3]; exact root_fe p q w0 hT okp okq h1' h2 (decide_eq_false h3)
  ·rw [if_neg h2]; exact root_no p q w0 hT okp okq h1' ((Bool.eq_false_iff).2 h2)
theorem same_val (p q : Fe) (b : Bool) (w : World) (okp : p.Ok) (okq : q.Ok) (hb : decide (Fe.m p = Fe.m q) = b) : Calls Tryz.prog 37 #[.agg #[.int .u64 p.x0, .int .u64 p.x1, .int .u64 p.x2, .int .u64 p.x3, .int .u64 p.x4], .agg #[.int .u64 q.x0, .int .u64 q.x1, .int .u64 q.x2, .int .u64 q.x3, .int .u64 q.x4]] w fun e w' => e = .returned (.bool b) ∧ w.grownBy w' none := by
 rw [← hb]; exact same_any p q w okp okq
theorem zero_val (p : Fe) (b : Bool) (w : World) (okp : p.Ok) (hb : decide (Fe.m p = 0) = b) : Calls Tryz.prog 85 #[.agg #[.int .u64 p.x0, .int .u64 p.x1, .int .u64 p.x2, .int .u64 p.x3, .int .u64 p.x4]] w fun e w' => e = .returned (.bool b) ∧ w.grownBy w' none := by
 rw [← hb]; exact zero_any p w okp
end
namespace Ed
open Num
abbrev F := Fin Fe.P
theorem P_ne : Fe.P ≠ 0 := by have := Fe.P_2; omega
instance nzP : NeZero Fe.P := ⟨P_ne⟩
section
variable {n : Nat} [NeZero n] (d x1 y1 x2 y2 x3 y3 i e : Fin n)
theorem id_assocx
  (e1 : y1*y1 - x1*x1 = 1 + d*(x1*x1*(y1*y1))) (e2 : y2*y2 - x2*x2 = 1 + d*(x2*x2*(y2*y2))) (e3 : y3*y3 - x3*x3 = 1 + d*(x3*x3*(y3*y3))) :
  ((x1*y2+x2*y1)*(1-d*(x1*x2*y1*y2))*y3 + (1+d*(x1*x2*y1*y2))*(y1*y2+x1*x2)*x3) * ((1+d*(x3*x2*y3*y2))*(1-d*(x3*x2*y3*y2)) + d*(x3*y2+x2*y3)*(y3*y2+x3*x2)*(x1*y1)) =
  ((x3*y2+x2*y3)*(1-d*(x3*x2*y3*y2))*y1 + (1+d*(x3*x2*y3*y2))*(y3*y2+x3*x2)*x1) * ((1+d*(x1*x2*y1*y2))*(1-d*(x1*x2*y1*y2)) + d*(x1*y2+x2*y1)*(y1*y2+x1*x2)*(x3*y3)) := by
 grind
theorem id_assocy
  (e1 : y1*y1 - x1*x1 = 1 + d*(x1*x1*(y1*y1))) (e2 : y2*y2 - x2*x2 = 1 + d*(x2*x2*(y2*y2))) (e3 : y3*y3 - x3*x3 = 1 + d*(x3*x3*(y3*y3))) :
  ((1+d*(x1*x2*y1*y2))*(y1*y2+x1*x2)*y3 + (x1*y2+x2*y1)*(1-d*(x1*x2*y1*y2))*x3) * ((1+d*(x3*x2*y3*y2))*(1-d*(x3*x2*y3*y2)) - d*(x3*y2+x2*y3)*(y3*y2+x3*x2)*(x1*y1)) =
  ((1+d*(x3*x2*y3*y2))*(y3*y2+x3*x2)*y1 + (x3*y2+x2*y3)*(1-d*(x3*x2*y3*y2))*x1) * ((1+d*(x1*x2*y1*y2))*(1-d*(x1*x2*y1*y2)) - d*(x1*y2+x2*y1)*(y1*y2+x1*x2)*(x3*y3)) := by
 grind
theorem id_on
  (e1 : y1*y1 - x1*x1 = 1 + d*(x1*x1*(y1*y1))) (e2 : y2*y2 - x2*x2 = 1 + d*(x2*x2*(y2*y2))) :
  (y1*y2+x1*x2)*(y1*y2+x1*x2)*((1+d*(x1*x2*y1*y2))*(1+d*(x1*x2*y1*y2))) - (x1*y2+x2*y1)*(x1*y2+x2*y1)*((1-d*(x1*x2*y1*y2))*(1-d*(x1*x2*y1*y2))) = (1-d*(x1*x2*y1*y2))*(1-d*(x1*x2*y1*y2))*((1+d*(x1*x2*y1*y2))*(1+d*(x1*x2*y1*y2))) + d*((x1*y2+x2*y1)*(x1*y2+x2*y1)*((y1*y2+x1*x2)*(y1*y2+x1*x2))) := by
 grind
theorem id_sq1 (hi : i*i = -1) (he : e = d*(x1*x2*y1*y2)) (h1 : e*e = 1)
  (e1 : y1*y1 - x1*x1 = 1 + d*(x1*x1*(y1*y1))) (e2 : y2*y2 - x2*x2 = 1 + d*(x2*x2*(y2*y2))) :
  (i*x1 + e*y1)*(i*x1+e*y1) = d*((x1*y1*(i*x2+y2))*(x1*y1*(i*x2+y2))) := by
 grind
theorem id_sq2 (hi : i*i = -1) (he : e = d*(x1*x2*y1*y2)) (h1 : e*e = 1)
  (e1 : y1*y1 - x1*x1 = 1 + d*(x1*x1*(y1*y1))) (e2 : y2*y2 - x2*x2 = 1 + d*(x2*x2*(y2*y2))) :
  (i*x1 - e*y1)*(i*x1-e*y1) = d*((x1*y1*(i*x2-y2))*(x1*y1*(i*x2-y2))) := by
 grind
end
theorem id1 : ∀ {n : Nat} [NeZero n] (a c : Fin n), (a * c) * (a * c) = a * a * (c * c) := by intros; grind
theorem id2 : ∀ {n : Nat} [NeZero n] (d b c : Fin n), b * c = 1 → d * (b * b) * (c * c) = d := by intros; grind
theorem id3 : ∀ {n : Nat} [NeZero n] (d i a b c e : Fin n), i * i = -1 → a * b * (i * c) = 0 → d * (a * c * b * e) = 0 := by intros; grind
theorem id4 : ∀ {n : Nat} [NeZero n] (e : Fin n), 1 + e = 0 → e * e = 1 := by intros; grind
theorem id5 : ∀ {n : Nat} [NeZero n] (e : Fin n), 1 - e = 0 → e * e = 1 := by intros; grind
theorem id6 : ∀ {n : Nat} [NeZero n] (f g a b x y t : Fin n), g * a = x → f * b = y → y*y*(g*g) - x*x*(f*f) = f*f*(g*g) + t*(x*x*(y*y)) → (f*f*(g*g)) * (b*b - a*a) = (f*f*(g*g)) * (1 + t*(a*a*(b*b))) := by intros; grind
theorem id7 : ∀ {n : Nat} [NeZero n] (d : Fin n), (1 : Fin n)*1 - 0*0 = 1 + d*(0*0*(1*1)) := by intros; grind
theorem id8 : ∀ {n : Nat} [NeZero n] (d x y : Fin n), y*y - x*x = 1 + d*(x*x*(y*y)) → y*y - -x* -x = 1 + d*(-x * -x*(y*y)) := by intros; grind
theorem id9 : ∀ {n : Nat} [NeZero n] (d a b c e : Fin n), d*(a*b*c*e) = d*(b*a*e*c) := by intros; grind
theorem id10 : ∀ {n : Nat} [NeZero n] (a b c e : Fin n), a*b + c*e = c*e + a*b := by intros; grind
theorem id11 : ∀ {n : Nat} [NeZero n] (a b c e : Fin n), a*b + c*e = b*a + e*c := by intros; grind
theorem id12 : ∀ {n : Nat} [NeZero n] (d b c e : Fin n), d*(0*b*c*e) = 0 := by intros; grind
theorem id13 : ∀ {n : Nat} [NeZero n] (a x y : Fin n), (1 + 0) * a = 0 * y + x * 1 → a = x := by intros; grind
theorem id14 : ∀ {n : Nat} [NeZero n] (a x y : Fin n), (1 - 0) * a = 1 * y + 0 * x → a = y := by intros; grind
theorem id15 : ∀ {n : Nat} [NeZero n] (t x y : Fin n), x*y + -x*y = (1 + t) * 0 := by intros; grind
theorem id16 : ∀ {n : Nat} [NeZero n] (d x y : Fin n), y*y - x*x = 1 + d*(x*x*(y*y)) → y*y + x* -x = (1 - d*(x* -x*y*y)) * 1 := by intros; grind
theorem mul_zero {x y : F} (h : x * y = 0) : x = 0 ∨ y = 0 := by
 have h1 : x.val * y.val % Fe.P = 0 := by have := congrArg Fin.val h; rwa [Fin.val_mul] at this
 rcases Fe.P_prime.dvd_mul (Nat.dvd_of_mod_eq_zero h1) with k | k
 ·exact Or.inl (Fin.ext (by have := Nat.mod_eq_zero_of_dvd k; rwa [Nat.mod_eq_of_lt x.isLt] at this))
 ·exact Or.inr (Fin.ext (by have := Nat.mod_eq_zero_of_dvd k; rwa [Nat.mod_eq_of_lt y.isLt] at this))
theorem mul_ne {x y : F} (hx : x ≠ 0) (hy : y ≠ 0) : x * y ≠ 0 := fun h => (mul_zero h).elim hx hy
theorem cancel_of {n : Nat} [NeZero n] {a x y : Fin n} (h : a * x = a * y) : a * (x - y) = 0 := by grind
theorem sub_zero_of {n : Nat} [NeZero n] {x y : Fin n} (h : x - y = 0) : x = y := by grind
theorem cancel {a x y : F} (ha : a ≠ 0) (h : a * x = a * y) : x = y :=
 sub_zero_of ((mul_zero (cancel_of h)).resolve_left ha)
def inv (x : F) : F := ⟨x.val ^ Fe.eInv % Fe.P, Nat.mod_lt _ (Nat.pos_of_ne_zero P_ne)⟩
theorem inv_mul {x : F} (h : x ≠ 0) : x * inv x = 1 := by
 apply Fin.ext
 rw [Fin.val_mul]
 have h1 := Fe.inv_is x.val
 rw [if_neg (by rw [Nat.mod_eq_of_lt x.isLt]; exact fun e => h (Fin.ext e))] at h1
 exact h1
theorem inv_val (x : F) : (inv x).val = x.val ^ Fe.eInv % Fe.P := rfl
theorem zero_val : (0 : F).val = 0 := by decide +kernel
theorem of_div {x a : F} (hx : x ≠ 0) : x * (a * inv x) = a := by
 have := inv_mul hx
 rw [Fin.mul_comm a, ← Fin.mul_assoc, this, Fin.one_mul]
theorem one_ne : (1 : F) ≠ 0 := fun h => absurd (congrArg Fin.val h) (by decide +kernel)
theorem two_ne : (2 : F) ≠ 0 := fun h => absurd (congrArg Fin.val h) (by decide +kernel)
def dN : Nat := 37095705934669439343138083508754565189542113879843219016388785533085940283555
def d : F := ⟨dN, by decide +kernel⟩
theorem d_half : dN ^ Fe.eHalf % Fe.P = Fe.P - 1 := pow_is 256 (by decide +kernel) (by decide +kernel)
theorem nosq {a b : F} (h : a * a = d * (b * b)) : b = 0 := by
 by_cases hb : b = 0
 ·exact hb
 exfalso
 have hc : (a * inv b) * (a * inv b) = d := by
  have h1 := inv_mul hb
  have e : (a * inv b) * (a * inv b) = a * a * (inv b * inv b) := by
   exact id1 a (inv b)
  rw [e, h]
  have g := @id2
  exact g d b (inv b) h1
 have h1 : (a * inv b).val * (a * inv b).val % Fe.P = dN % Fe.P := by
  have := congrArg Fin.val hc
  rw [Fin.val_mul] at this
  rw [this]
  exact (Nat.mod_eq_of_lt d.isLt).symm
 have h2 := Fe.square_half (x := dN) (s := (a * inv b).val) (by decide +kernel) h1
 rw [d_half] at h2
 exact absurd h2 (by decide +kernel)
def im : F := ⟨Fe.i0, by decide +kernel⟩
theorem im_is : im * im = -1 := by decide +kernel
structure Pr where
 x : F
 y : F
def On (p : Pr) : Prop := p.y*p.y - p.x*p.x = 1 + d*(p.x*p.x*(p.y*p.y))
def tt (p q : Pr) : F := d*(p.x*q.x*p.y*q.y)
def add (p q : Pr) : Pr := ⟨(p.x*q.y+q.x*p.y) * inv (1 + tt p q), (p.y*q.y+p.x*q.x) * inv (1 - tt p q)⟩
def zero : Pr := ⟨0, 1⟩
def neg (p : Pr) : Pr := ⟨-p.x, p.y⟩
theorem ext {p q : Pr} (hx : p.x = q.x) (hy : p.y = q.y) : p = q := by cases p; cases q; simp_all
theorem g_b {n : Nat} [NeZero n] {c u v : Fin n} (h1 : c * (u + v) = 0) (h2 : c * (u - v) = 0) : 2 * (c * u) = 0 := by grind
theorem no_unit {p q : Pr} (hp : On p) (hq : On q) (h : tt p q * tt p q = 1) : False := by
 have s1 := nosq (id_sq1 d p.x p.y q.x q.y im (tt p q) im_is rfl h hp hq)
 have s2 := nosq (id_sq2 d p.x p.y q.x q.y im (tt p q) im_is rfl h hp hq)
 have s3 := (mul_zero (g_b s1 s2)).resolve_left two_ne
 have z : tt p q = 0 := by
  have g := @id3
  exact g d im p.x p.y q.x q.y im_is s3
 rw [z, Fin.zero_mul] at h
 exact one_ne h.symm
theorem plus_ne {p q : Pr} (hp : On p) (hq : On q) : 1 + tt p q ≠ 0 := fun h => by
 have g := @id4
 exact no_unit hp hq (g _ h)
theorem minus_ne {p q : Pr} (hp : On p) (hq : On q) : 1 - tt p q ≠ 0 := fun h => by
 have g := @id5
 exact no_unit hp hq (g _ h)
theorem add_x {p q : Pr} (hp : On p) (hq : On q) : (1 + tt p q) * (add p q).x = p.x*q.y+q.x*p.y := of_div (plus_ne hp hq)
theorem add_y {p q : Pr} (hp : On p) (hq : On q) : (1 - tt p q) * (add p q).y = p.y*q.y+p.x*q.x := of_div (minus_ne hp hq)
theorem add_on {p q : Pr} (hp : On p) (hq : On q) : On (add p q) := by
 have h1 := add_x hp hq
 have h2 := add_y hp hq
 have h3 := id_on d p.x p.y q.x q.y hp hq
 have n1 := plus_ne hp hq
 have n2 := minus_ne hp hq
 unfold On
 generalize (add p q).x = a at *
 generalize (add p q).y = b at *
 have g := @id6
 exact cancel (mul_ne (mul_ne n2 n2) (mul_ne n1 n1)) (g (1 - tt p q) (1 + tt p q) a b _ _ d h1 h2 h3)
theorem zero_on : On zero := by
 have g := @id7
 exact g d
theorem neg_on {p : Pr} (hp : On p) : On (neg p) := by
 have g := @id8
 exact g d p.x p.y hp
theorem tt_comm (p q : Pr) : tt p q = tt q p := by
 have g := @id9
 exact g d p.x q.x p.y q.y
theorem add_comm (p q : Pr) : add p q = add q p := by
 have g := @id10
 have g2 := @id11
 apply ext
 ·unfold add; dsimp only; rw [tt_comm p q, g]
 ·unfold add; dsimp only; rw [tt_comm p q, g2]
theorem tt_zero (p : Pr) : tt zero p = 0 := by
 have g := @id12
 exact g d p.x 1 p.y
theorem zero_add {p : Pr} (hp : On p) : add zero p = p := by
 have h1 := add_x zero_on hp
 have h2 := add_y zero_on hp
 rw [tt_zero] at h1 h2
 have g1 := @id13
 have g2 := @id14
 exact ext (g1 _ _ _ h1) (g2 _ _ _ h2)
theorem add_zero {p : Pr} (hp : On p) : add p zero = p := by rw [add_comm, zero_add hp]
theorem add_neg {p : Pr} (hp : On p) : add p (neg p) = zero := by
 have h1 := add_x hp (neg_on hp)
 have h2 := add_y hp (neg_on hp)
 have n1 := plus_ne hp (neg_on hp)
 have n2 := minus_ne hp (neg_on hp)
 have hp' : p.y*p.y - p.x*p.x = 1 + d*(p.x*p.x*(p.y*p.y)) := hp
 apply ext
 ·apply cancel n1
  rw [h1]
  have g := @id15
  exact g _ _ _
 ·apply cancel n2
  rw [h2]
  have g := @id16
  exact g d p.x p.y hp'
theorem id_x {n : Nat} [NeZero n] (d f g a b A H x3 y3 u : Fin n) (ha : g * a = A) (hb : f * b = H) (hu : (1 + d*(a*x3*b*y3)) * u = a*y3 + x3*b) : (g*f + d*A*H*(x3*y3)) * u = A*f*y3 + g*H*x3 := by grind
theorem id_y {n : Nat} [NeZero n] (d f g a b A H x3 y3 u : Fin n) (ha : g * a = A) (hb : f * b = H) (hu : (1 - d*(a*x3*b*y3)) * u = b*y3 + a*x3) : (g*f - d*A*H*(x3*y3)) * u = g*H*y3 + A*f*x3 := by grind
theorem id_nx {n : Nat} [NeZero n] (d f g a b A H x3 y3 : Fin n) (ha : g * a = A) (hb : f * b = H) : g*f + d*A*H*(x3*y3) = g * f * (1 + d*(a*x3*b*y3)) := by grind
theorem id_ny {n : Nat} [NeZero n] (d f g a b A H x3 y3 : Fin n) (ha : g * a = A) (hb : f * b = H) : g*f - d*A*H*(x3*y3) = g * f * (1 - d*(a*x3*b*y3)) := by grind
theorem id_end {n : Nat} [NeZero n] {G1 G2 A1 A2 u v : Fin n} (h1 : G1 * u = A1) (h2 : G2 * v = A2) (h : A1 * G2 = A2 * G1) : (G1 * G2) * u = (G1 * G2) * v := by grind
theorem add3 {p q r : Pr} (hp : On p) (hq : On q) (hr : On r) :
  ((1 + tt p q) * (1 - tt p q) + d*(p.x*q.y+q.x*p.y)*(p.y*q.y+p.x*q.x)*(r.x*r.y)) * (add (add p q) r).x = (p.x*q.y+q.x*p.y)*(1 - tt p q)*r.y + (1 + tt p q)*(p.y*q.y+p.x*q.x)*r.x ∧
  ((1 + tt p q) * (1 - tt p q) - d*(p.x*q.y+q.x*p.y)*(p.y*q.y+p.x*q.x)*(r.x*r.y)) * (add (add p q) r).y = (1 + tt p q)*(p.y*q.y+p.x*q.x)*r.y + (p.x*q.y+q.x*p.y)*(1 - tt p q)*r.x ∧
  (1 + tt p q) * (1 - tt p q) + d*(p.x*q.y+q.x*p.y)*(p.y*q.y+p.x*q.x)*(r.x*r.y) ≠ 0 ∧ (1 + tt p q) * (1 - tt p q) - d*(p.x*q.y+q.x*p.y)*(p.y*q.y+p.x*q.x)*(r.x*r.y) ≠ 0 := by
 have hs := add_on hp hq
 have h1 := add_x hp hq
 have h2 := add_y hp hq
 have n1 := plus_ne hp hq
 have n2 := minus_ne hp hq
 refine ⟨id_x d _ _ _ _ _ _ r.x r.y _ h1 h2 (add_x hs hr), id_y d _ _ _ _ _ _ r.x r.y _ h1 h2 (add_y hs hr), ?_, ?_⟩
 ·rw [id_nx d _ _ _ _ _ _ r.x r.y h1 h2]
  exact mul_ne (mul_ne n1 n2) (plus_ne hs hr)
 ·rw [id_ny d _ _ _ _ _ _ r.x r.y h1 h2]
  exact mul_ne (mul_ne n1 n2) (minus_ne hs hr)
theorem add_assoc {p q r : Pr} (hp : On p) (hq : On q) (hr : On r) : add (add p q) r = add p (add q r) := by
 rw [add_comm p (add q r), add_comm q r]
 obtain ⟨a1, a2, a3, a4⟩ := add3 hp hq hr
 obtain ⟨b1, b2, b3, b4⟩ := add3 hr hq hp
 apply ext
 ·exact cancel (mul_ne a3 b3) (id_end a1 b1 (id_assocx d p.x p.y q.x q.y r.x r.y hp hq hr))
 ·exact cancel (mul_ne a4 b4) (id_end a2 b2 (id_assocy d p.x p.y q.x q.y r.x r.y hp hq hr))
def nmul : Nat → Pr → Pr
 | 0, _ => zero
 | k + 1, p => add (nmul k p) p
theorem nmul_on {p : Pr} (hp : On p) : ∀ k, On (nmul k p)
 | 0 => zero_on
 | k + 1 => add_on (nmul_on hp k) hp
theorem nmul_one {p : Pr} (hp : On p) : nmul 1 p = p := zero_add hp
theorem nmul_add {p : Pr} (hp : On p) (a : Nat) : ∀ b, nmul (a + b) p = add (nmul a p) (nmul b p)
 | 0 => (add_zero (nmul_on hp a)).symm
 | b + 1 => by
  show add (nmul (a + b) p) p = add (nmul a p) (add (nmul b p) p)
  rw [nmul_add hp a b, add_assoc (nmul_on hp a) (nmul_on hp b) hp]
theorem nmul_two {p : Pr} (hp : On p) : nmul 2 p = add p p := by
 show add (nmul 1 p) p = _
 rw [nmul_one hp]
theorem nmul_mul {p : Pr} (hp : On p) (a : Nat) : ∀ b, nmul (a * b) p = nmul b (nmul a p)
 | 0 => rfl
 | b + 1 => by
  rw [Nat.mul_succ, nmul_add hp, nmul_mul hp a b]
  rfl
theorem nmul_zero : ∀ k, nmul k zero = zero
 | 0 => rfl
 | k + 1 => by
  show add (nmul k zero) zero = _
  rw [nmul_zero k, zero_add zero_on]
theorem add4 {a b c e : Pr} (ha : On a) (hb : On b) (hc : On c) (he : On e) : add (add a b) (add c e) = add (add a c) (add b e) := by
 rw [add_assoc ha hb (add_on hc he), ← add_assoc hb hc he, add_comm b c, add_assoc hc hb he, ← add_assoc ha hc (add_on hb he)]
theorem nmul_sum {p q : Pr} (hp : On p) (hq : On q) : ∀ k, nmul k (add p q) = add (nmul k p) (nmul k q)
 | 0 => (zero_add zero_on).symm
 | k + 1 => by
  show add (nmul k (add p q)) (add p q) = add (add (nmul k p) p) (add (nmul k q) q)
  rw [nmul_sum hp hq k, add4 (nmul_on hp k) (nmul_on hq k) hp hq]
end Ed
namespace Ed
open Num
def phi (a : Fe) : F := ⟨Fe.m a, Fe.m_lt a⟩
section
variable {a b : Fe}
theorem phi_mul (ha : a.Right) (hb : b.Right) : phi (Fe.mulF a b) = phi a * phi b := Fin.ext (by rw [Fin.val_mul]; exact Fe.mul_m ha hb)
theorem phi_sq (ha : a.Right) : phi (Fe.sqF a) = phi a * phi a := Fin.ext (by rw [Fin.val_mul]; exact Fe.sq_m ha)
theorem phi_add (ha : a.Right) (hb : b.Right) : phi (Fe.addF a b) = phi a + phi b := Fin.ext (by rw [Fin.val_add]; exact Fe.add_m ha hb)
theorem zero_right' : Fe.Right Fe.zeroF := by constructor <;> decide
theorem one_right' : Fe.Right Fe.oneF := by constructor <;> decide
theorem phi_zero : phi Fe.zeroF = 0 := by apply Fin.ext; rw [zero_val]; show Fe.m Fe.zeroF = 0; decide +kernel
theorem phi_one : phi Fe.oneF = 1 := by decide +kernel
theorem sub_of {n : Nat} [NeZero n] {x y z : Fin n} (h : x + y = z) : x = z - y := by grind
theorem phi_sub (ha : a.Right) (hb : b.Right) : phi (Fe.subF a b) = phi a - phi b := by
 apply sub_of
 apply Fin.ext
 rw [Fin.val_add]
 show (Fe.m (Fe.subF a b) + Fe.m b) % Fe.P = Fe.m a
 have h1 := Fe.m_lt a
 have h2 := Fe.m_lt b
 rw [Fe.sub_m ha hb, Nat.add_mod, Nat.mod_mod, ← Nat.add_mod, show Fe.m a + (Fe.P - Fe.m b) + Fe.m b = Fe.m a + Fe.P by omega, Nat.add_mod_right, Nat.mod_eq_of_lt h1]
theorem phi_neg (ha : a.Right) : phi (Fe.negF a) = - phi a := by
 unfold Fe.negF
 rw [phi_sub zero_right' ha, phi_zero]
 exact idneg _
where idneg {n : Nat} [NeZero n] (x : Fin n) : 0 - x = - x := by grind
theorem phi_same : Fe.m a = Fe.m b ↔ phi a = phi b := ⟨fun h => Fin.ext h, fun h => congrArg Fin.val h⟩
end
structure Pt where
 X : Fe
 Y : Fe
 Z : Fe
 T : Fe
structure Sm where
 X : Fe
 Y : Fe
 Z : Fe
 T : Fe
 A : Fe
 B : Fe
structure Ad where
 m : Fe
 l : Fe
 z : Fe
 t : Fe
structure PtIs (s : Pt) (p : Pr) : Prop where
 rX : s.X.Right
 rY : s.Y.Right
 rZ : s.Z.Right
 rT : s.T.Right
 on : On p
 z : phi s.Z ≠ 0
 x : phi s.X = phi s.Z * p.x
 y : phi s.Y = phi s.Z * p.y
 t : phi s.T = phi s.Z * (p.x * p.y)
structure SmIs (s : Sm) (p : Pr) : Prop where
 rX : s.X.Right
 rY : s.Y.Right
 rZ : s.Z.Right
 rT : s.T.Right
 rA : s.A.Right
 rB : s.B.Right
 on : On p
 z : phi s.Z ≠ 0
 x : phi s.X = phi s.Z * p.x
 y : phi s.Y = phi s.Z * p.y
 t : phi s.A * phi s.B = phi s.Z * (p.x * p.y)
structure AdIs (s : Ad) (p : Pr) : Prop where
 rm : s.m.Right
 rl : s.l.Right
 rz : s.z.Right
 rt : s.t.Right
 on : On p
 is : ∃ z : F, z ≠ 0 ∧ phi s.m = z * (p.y + p.x) ∧ phi s.l = z * (p.y - p.x) ∧ phi s.z = z + z ∧ phi s.t = d * (z * (p.x * p.y) + z * (p.x * p.y))
def sumF (s : Pt) : Sm := ⟨s.X, s.Y, s.Z, s.T, s.T, Fe.oneF⟩
def pointF (s : Sm) : Pt := ⟨s.X, s.Y, s.Z, Fe.mulF s.A s.B⟩
def dF : Fe := ⟨0x34dca135978a3, 0x1a8283b156ebd, 0x5e7a26001c029, 0x739c663a03cbb, 0x52036cee2b6ff⟩
theorem dF_right : dF.Right := by constructor <;> decide
theorem phi_d : phi dF = d := by decide +kernel
def adF (s : Pt) : Ad := ⟨Fe.addF s.Y s.X, Fe.subF s.Y s.X, Fe.addF s.Z s.Z, Fe.mulF dF (Fe.addF s.T s.T)⟩
def bF (T a u b v : Fe) : Sm := ⟨Fe.mulF a v, Fe.mulF b u, Fe.mulF u v, T, a, b⟩
def plusF (s : Sm) (q : Ad) : Sm :=
 bF (Fe.mulF s.A s.B) (Fe.subF (Fe.mulF (Fe.addF s.Y s.X) q.m) (Fe.mulF (Fe.subF s.Y s.X) q.l)) (Fe.addF (Fe.mulF s.Z q.z) (Fe.mulF (Fe.mulF s.A s.B) q.t))
  (Fe.addF (Fe.mulF (Fe.addF s.Y s.X) q.m) (Fe.mulF (Fe.subF s.Y s.X) q.l)) (Fe.subF (Fe.mulF s.Z q.z) (Fe.mulF (Fe.mulF s.A s.B) q.t))
def twiceF (s : Sm) : Sm :=
 bF s.T (Fe.addF (Fe.mulF s.X s.Y) (Fe.mulF s.X s.Y)) (Fe.subF (Fe.sqF s.Y) (Fe.sqF s.X)) (Fe.addF (Fe.sqF s.Y) (Fe.sqF s.X)) (Fe.subF (Fe.addF (Fe.sqF s.Z) (Fe.sqF s.Z)) (Fe.subF (Fe.sqF s.Y) (Fe.sqF s.X)))
def negP (s : Pt) : Pt := ⟨Fe.negF s.X, s.Y, s.Z, Fe.negF s.T⟩
def zeroP : Pt := ⟨Fe.zeroF, Fe.oneF, Fe.oneF, Fe.zeroF⟩
section
variable {n : Nat} [NeZero n]
theorem e_t (Z A : Fin n) (x y o : Fin n) (h : A = Z * (x * y)) (ho : o = 1) : A * o = Z * (x * y) := by grind
theorem e_b (a b u v x y : Fin n) (ha : u * x = a) (hb : v * y = b) : a * v = u * v * x ∧ b * u = u * v * y ∧ a * b = u * v * (x * y) := by grind
theorem e_1 (X Y Z T x y m l z' t d x' y' k : Fin n) (hX : X = Z * x) (hY : Y = Z * y) (hT : T = Z * (x * y)) (hm : m = k * (y' + x')) (hl : l = k * (y' - x')) (hz : z' = k + k) (ht : t = d * (k * (x' * y') + k * (x' * y'))) (X3 : Fin n) (h : (1 + d*(x*x'*y*y')) * X3 = x*y' + x'*y) :
  (Z * z' + T * t) * X3 = (Y + X) * m - (Y - X) * l := by grind
theorem e_2 (X Y Z T x y m l z' t d x' y' k : Fin n) (hX : X = Z * x) (hY : Y = Z * y) (hT : T = Z * (x * y)) (hm : m = k * (y' + x')) (hl : l = k * (y' - x')) (hz : z' = k + k) (ht : t = d * (k * (x' * y') + k * (x' * y'))) (Y3 : Fin n) (h : (1 - d*(x*x'*y*y')) * Y3 = y*y' + x*x') :
  (Z * z' - T * t) * Y3 = (Y + X) * m + (Y - X) * l := by grind
theorem e_3 (Z T x y z' t d x' y' k : Fin n) (hT : T = Z * (x * y)) (hz : z' = k + k) (ht : t = d * (k * (x' * y') + k * (x' * y'))) :
  Z * z' + T * t = 2 * (Z * (k * (1 + d*(x*x'*y*y')))) ∧ Z * z' - T * t = 2 * (Z * (k * (1 - d*(x*x'*y*y')))) := by grind
theorem e_4a (X Y Z x y d : Fin n) (hX : X = Z * x) (hY : Y = Z * y) (on : y*y - x*x = 1 + d*(x*x*(y*y))) : Y * Y - X * X = Z * (Z * (1 + d*(x*x*y*y))) ∧ Z * Z + Z * Z - (Y * Y - X * X) = Z * (Z * (1 - d*(x*x*y*y))) := by grind
theorem e_4b (X Y Z x y u X3 : Fin n) (hX : X = Z * x) (hY : Y = Z * y) (h : u * X3 = x*y + x*y) : (Z * (Z * u)) * X3 = X * Y + X * Y := by grind
theorem e_4c (X Y Z x y u X3 : Fin n) (hX : X = Z * x) (hY : Y = Z * y) (h : u * X3 = y*y + x*x) : (Z * (Z * u)) * X3 = Y * Y + X * X := by grind
theorem e_4 (X Y Z x y d X3 Y3 : Fin n) (hX : X = Z * x) (hY : Y = Z * y) (on : y*y - x*x = 1 + d*(x*x*(y*y))) (h : (1 + d*(x*x*y*y)) * X3 = x*y + x*y) (h' : (1 - d*(x*x*y*y)) * Y3 = y*y + x*x) :
  (Y * Y - X * X) * X3 = X * Y + X * Y ∧ (Z * Z + Z * Z - (Y * Y - X * X)) * Y3 = Y * Y + X * X ∧ Y * Y - X * X = Z * (Z * (1 + d*(x*x*y*y))) ∧ Z * Z + Z * Z - (Y * Y - X * X) = Z * (Z * (1 - d*(x*x*y*y))) := by
 obtain ⟨a, b⟩ := e_4a X Y Z x y d hX hY on
 refine ⟨?_, ?_, a, b⟩
 ·rw [a]; exact e_4b _ _ _ _ _ _ _ hX hY h
 ·rw [b]; exact e_4c _ _ _ _ _ _ _ hX hY h'
theorem e_5 (X Z x : Fin n) (h : X = Z * x) : - X = Z * - x := by grind
theorem e_6 (X Z x y : Fin n) (h : X = Z * (x * y)) : - X = Z * (- x * y) := by grind
theorem e_7 : (0 : Fin n) = 1 * 0 ∧ (1 : Fin n) = 1 * 1 ∧ (0 : Fin n) = 1 * (0 * 1) := by grind
theorem e_8 (Y X z x y : Fin n) (hY : Y = z * y) (hX : X = z * x) : Y + X = z * (y + x) ∧ Y - X = z * (y - x) := by grind
theorem e_9 {X Z x Z' x' X' : Fin n} (hX : X = Z * x) (hX' : X' = Z' * x') : X * Z' = X' * Z ↔ (Z * Z') * x = (Z * Z') * x' := by constructor <;> intro h <;> grind
end
theorem sumIs {s : Pt} {p : Pr} (h : PtIs s p) : SmIs (sumF s) p :=
 ⟨h.rX, h.rY, h.rZ, h.rT, h.rT, one_right', h.on, h.z, h.x, h.y, e_t (phi s.Z) _ _ _ _ h.t phi_one⟩
theorem pointIs {s : Sm} {p : Pr} (h : SmIs s p) : PtIs (pointF s) p :=
 ⟨h.rX, h.rY, h.rZ, Fe.mul_right _ _, h.on, h.z, h.x, h.y, by show phi (Fe.mulF s.A s.B) = _; rw [phi_mul h.rA h.rB]; exact h.t⟩
theorem adIs {s : Pt} {p : Pr} (h : PtIs s p) : AdIs (adF s) p := by
 refine ⟨Fe.add_right _ _, Fe.sub_right _ _, Fe.add_right _ _, Fe.mul_right _ _, h.on, phi s.Z, h.z, ?_, ?_, ?_, ?_⟩
 ·show phi (Fe.addF s.Y s.X) = _
  rw [phi_add h.rY h.rX]; exact (e_8 _ _ _ _ _ h.y h.x).1
 ·show phi (Fe.subF s.Y s.X) = _
  rw [phi_sub h.rY h.rX]; exact (e_8 _ _ _ _ _ h.y h.x).2
 ·show phi (Fe.addF s.Z s.Z) = _
  rw [phi_add h.rZ h.rZ]
 ·show phi (Fe.mulF dF (Fe.addF s.T s.T)) = _
  rw [phi_mul dF_right (Fe.add_right _ _), phi_add h.rT h.rT, phi_d, h.t]
theorem bIs {T a u b v : Fe} {p : Pr} (rT : T.Right) (ra : a.Right) (ru : u.Right) (rb : b.Right) (rv : v.Right) (on : On p) (nu : phi u ≠ 0) (nv : phi v ≠ 0) (ha : phi u * p.x = phi a) (hb : phi v * p.y = phi b) : SmIs (bF T a u b v) p := by
 obtain ⟨h1, h2, h3⟩ := e_b _ _ _ _ _ _ ha hb
 refine ⟨Fe.mul_right _ _, Fe.mul_right _ _, Fe.mul_right _ _, rT, ra, rb, on, ?_, ?_, ?_, ?_⟩
 ·show phi (Fe.mulF u v) ≠ 0
  rw [phi_mul ru rv]; exact mul_ne nu nv
 ·show phi (Fe.mulF a v) = phi (Fe.mulF u v) * _
  rw [phi_mul ru rv, phi_mul ra rv]; exact h1
 ·show phi (Fe.mulF b u) = phi (Fe.mulF u v) * _
  rw [phi_mul ru rv, phi_mul rb ru]; exact h2
 ·show phi a * phi b = phi (Fe.mulF u v) * _
  rw [phi_mul ru rv]; exact h3
theorem plusIs {s : Sm} {q : Ad} {p r : Pr} (h : SmIs s p) (k : AdIs q r) : SmIs (plusF s q) (add p r) := by
 obtain ⟨z, hz, hm, hl, hzz, ht⟩ := k.is
 have rT := Fe.mul_right s.A s.B
 have hT : phi (Fe.mulF s.A s.B) = phi s.Z * (p.x * p.y) := by rw [phi_mul h.rA h.rB]; exact h.t
 have n3 := e_3 (phi s.Z) _ _ _ _ _ d _ _ _ hT hzz ht
 have pu : phi (Fe.addF (Fe.mulF s.Z q.z) (Fe.mulF (Fe.mulF s.A s.B) q.t)) = phi s.Z * phi q.z + phi (Fe.mulF s.A s.B) * phi q.t := by
  rw [phi_add (Fe.mul_right _ _) (Fe.mul_right _ _), phi_mul h.rZ k.rz, phi_mul rT k.rt]
 have pv : phi (Fe.subF (Fe.mulF s.Z q.z) (Fe.mulF (Fe.mulF s.A s.B) q.t)) = phi s.Z * phi q.z - phi (Fe.mulF s.A s.B) * phi q.t := by
  rw [phi_sub (Fe.mul_right _ _) (Fe.mul_right _ _), phi_mul h.rZ k.rz, phi_mul rT k.rt]
 have pm : phi (Fe.mulF (Fe.addF s.Y s.X) q.m) = (phi s.Y + phi s.X) * phi q.m := by rw [phi_mul (Fe.add_right _ _) k.rm, phi_add h.rY h.rX]
 have pl : phi (Fe.mulF (Fe.subF s.Y s.X) q.l) = (phi s.Y - phi s.X) * phi q.l := by rw [phi_mul (Fe.sub_right _ _) k.rl, phi_sub h.rY h.rX]
 refine bIs rT (Fe.sub_right _ _) (Fe.add_right _ _) (Fe.add_right _ _) (Fe.sub_right _ _) (add_on h.on k.on) ?_ ?_ ?_ ?_
 ·rw [pu, n3.1]; exact mul_ne two_ne (mul_ne h.z (mul_ne hz (plus_ne h.on k.on)))
 ·rw [pv, n3.2]; exact mul_ne two_ne (mul_ne h.z (mul_ne hz (minus_ne h.on k.on)))
 ·rw [pu, phi_sub (Fe.mul_right _ _) (Fe.mul_right _ _), pm, pl]
  exact e_1 _ _ _ _ _ _ _ _ _ _ d _ _ _ h.x h.y hT hm hl hzz ht _ (add_x h.on k.on)
 ·rw [pv, phi_add (Fe.mul_right _ _) (Fe.mul_right _ _), pm, pl]
  exact e_2 _ _ _ _ _ _ _ _ _ _ d _ _ _ h.x h.y hT hm hl hzz ht _ (add_y h.on k.on)
theorem twiceIs {s : Sm} {p : Pr} (h : SmIs s p) : SmIs (twiceF s) (add p p) := by
 have a1 : (1 + d*(p.x*p.x*p.y*p.y)) * (add p p).x = p.x*p.y + p.x*p.y := add_x h.on h.on
 have a2 : (1 - d*(p.x*p.x*p.y*p.y)) * (add p p).y = p.y*p.y + p.x*p.x := add_y h.on h.on
 obtain ⟨h1, h2, h3, h4⟩ := e_4 _ _ _ _ _ d _ _ h.x h.y h.on a1 a2
 have pu : phi (Fe.subF (Fe.sqF s.Y) (Fe.sqF s.X)) = phi s.Y * phi s.Y - phi s.X * phi s.X := by
  rw [phi_sub (Fe.sq_right _) (Fe.sq_right _), phi_sq h.rY, phi_sq h.rX]
 have pz : phi (Fe.addF (Fe.sqF s.Z) (Fe.sqF s.Z)) = phi s.Z * phi s.Z + phi s.Z * phi s.Z := by
  rw [phi_add (Fe.sq_right _) (Fe.sq_right _), phi_sq h.rZ]
 refine bIs h.rT (Fe.add_right _ _) (Fe.sub_right _ _) (Fe.add_right _ _) (Fe.sub_right _ _) (add_on h.on h.on) ?_ ?_ ?_ ?_
 ·rw [pu, h3]; exact mul_ne h.z (mul_ne h.z (plus_ne h.on h.on))
 ·rw [phi_sub (Fe.add_right _ _) (Fe.sub_right _ _), pu, pz, h4]; exact mul_ne h.z (mul_ne h.z (minus_ne h.on h.on))
 ·rw [pu, phi_add (Fe.mul_right _ _) (Fe.mul_right _ _), phi_mul h.rX h.rY]; exact h1
 ·rw [phi_sub (Fe.add_right _ _) (Fe.sub_right _ _), pu, pz, phi_add (Fe.sq_right _) (Fe.sq_right _), phi_sq h.rY, phi_sq h.rX]; exact h2
theorem negIs {s : Pt} {p : Pr} (h : PtIs s p) : PtIs (negP s) (neg p) :=
 ⟨Fe.neg_right _, h.rY, h.rZ, Fe.neg_right _, neg_on h.on, h.z, by show phi (Fe.negF s.X) = _; rw [phi_neg h.rX]; exact e_5 _ _ _ h.x, h.y, by show phi (Fe.negF s.T) = _; rw [phi_neg h.rT]; exact e_6 _ _ _ _ h.t⟩
theorem zeroIs : PtIs zeroP zero := by
 refine ⟨zero_right', one_right', one_right', zero_right', zero_on, ?_, ?_, ?_, ?_⟩
 ·show phi Fe.oneF ≠ 0
  rw [phi_one]; exact one_ne
 ·show phi Fe.zeroF = phi Fe.oneF * 0
  rw [phi_one, phi_zero]; exact e_7.1
 ·show phi Fe.oneF = phi Fe.oneF * 1
  rw [phi_one]; exact e_7.2.1
 ·show phi Fe.zeroF = phi Fe.oneF * (0 * 1)
  rw [phi_one, phi_zero]; exact e_7.2.2
theorem sameIs {s t : Pt} {p q : Pr} (h : PtIs s p) (k : PtIs t q) : (Fe.m (Fe.mulF s.X t.Z) = Fe.m (Fe.mulF t.X s.Z) ∧ Fe.m (Fe.mulF s.Y t.Z) = Fe.m (Fe.mulF t.Y s.Z)) ↔ p = q := by
 rw [phi_same, phi_same, phi_mul h.rX k.rZ, phi_mul k.rX h.rZ, phi_mul h.rY k.rZ, phi_mul k.rY h.rZ, e_9 h.x k.x, e_9 h.y k.y]
 have hz := mul_ne h.z k.z
 exact ⟨fun ⟨h1, h2⟩ => ext (cancel hz h1) (cancel hz h2), fun e => by rw [e]; exact ⟨rfl, rfl⟩⟩
def baseT : Pt := ⟨⟨0x62d608f25d51a, 0x412a4b4f6592a, 0x75b7171a4b31d, 0x1ff60527118fe, 0x216936d3cd6e5⟩, ⟨0x6666666666658, 0x4cccccccccccc, 0x1999999999999, 0x3333333333333, 0x6666666666666⟩, Fe.oneF, ⟨0x68ab3a5b7dda3, 0xeea2a5eadbb, 0x2af8df483c27e, 0x332b375274732, 0x67875f0fd78b7⟩⟩
def baseR : Pr := ⟨phi baseT.X, phi baseT.Y⟩
theorem base_on : On baseR := by
 show baseR.y*baseR.y - baseR.x*baseR.x = 1 + d*(baseR.x*baseR.x*(baseR.y*baseR.y))
 decide +kernel
theorem e_10 {n : Nat} [NeZero n] (o x : Fin n) (h : o = 1) : x = o * x := by grind
theorem baseIs : PtIs baseT baseR := by
 refine ⟨by constructor <;> decide, by constructor <;> decide, one_right', by constructor <;> decide, base_on, ?_, e_10 _ _ phi_one, e_10 _ _ phi_one, ?_⟩
 ·show phi Fe.oneF ≠ 0
  rw [phi_one]; exact one_ne
 ·show phi baseT.T = phi baseT.Z * (baseR.x * baseR.y)
  decide +kernel
end Ed
section
open Go Go.RowKit
namespace Ed
def ptL (p : Pt) : List Value := feL p.X ++ feL p.Y ++ feL p.Z ++ feL p.T
def smL (s : Sm) : List Value := feL s.X ++ feL s.Y ++ feL s.Z ++ feL s.T ++ feL s.A ++ feL s.B
def adL (a : Ad) : List Value := feL a.m ++ feL a.l ++ feL a.z ++ feL a.t
def Pt.v (p : Pt) : Value := .agg (ptL p).toArray
def Sm.v (s : Sm) : Value := .agg (smL s).toArray
def Ad.v (a : Ad) : Value := .agg (adL a).toArray
theorem feL_one (a : Fe) : (feL a).all (·.oneCell') = true := rfl
theorem ptL_one (p : Pt) : (ptL p).all (·.oneCell') = true := rfl
theorem smL_one (s : Sm) : (smL s).all (·.oneCell') = true := rfl
theorem adL_one (a : Ad) : (adL a).all (·.oneCell') = true := rfl
def ptsL (L : List Pt) : List Value := L.flatMap ptL
def adsL (L : List Ad) : List Value := L.flatMap adL
structure Pt.Ok (p : Pt) : Prop where
 X : p.X.Ok
 Y : p.Y.Ok
 Z : p.Z.Ok
 T : p.T.Ok
structure Sm.Ok (p : Sm) : Prop where
 X : p.X.Ok
 Y : p.Y.Ok
 Z : p.Z.Ok
 T : p.T.Ok
 A : p.A.Ok
 B : p.B.Ok
structure Ad.Ok (p : Ad) : Prop where
 m : p.m.Ok
 l : p.l.Ok
 z : p.z.Ok
 t : p.t.Ok
theorem one_ok : Fe.oneF.Ok := one_right'.ok
theorem zero_ok : Fe.zeroF.Ok := zero_right'.ok
theorem PtIs.ok {s : Pt} {p : Pr} (h : PtIs s p) : s.Ok := ⟨h.rX.ok, h.rY.ok, h.rZ.ok, h.rT.ok⟩
theorem SmIs.ok {s : Sm} {p : Pr} (h : SmIs s p) : s.Ok := ⟨h.rX.ok, h.rY.ok, h.rZ.ok, h.rT.ok, h.rA.ok, h.rB.ok⟩
end Ed
open Ed
theorem info_elem : (Tryz.prog.info? 34).map (·.size) = some 5 := by kernel_rfl
theorem info_point : (Tryz.prog.info? 36).map (·.size) = some 20 := by kernel_rfl
theorem info_sum : (Tryz.prog.info? 119).map (·.size) = some 30 := by kernel_rfl
theorem info_addend : (Tryz.prog.info? 127).map (·.size) = some 20 := by kernel_rfl
theorem rangeAt_grown {w w' : World} {b o : Nat} {cs : List Value} {row : Option Nat} (h : w.rangeAt b o cs) (hg : w.grownBy w' row) (hb : b < w.heap.size) (hr : some b ≠ row) : w'.rangeAt b o cs := fun j v hv => by
 rw [gb_cell hg (p := ⟨b, o + j, none⟩) hb hr]
 exact h j v hv
structure ETab (w : World) : Prop where
 f : FTab w
 ld : 2 < w.heap.size
 lb : 1 < w.heap.size
 d : w.rangeAt 2 0 (feL dF)
 b : w.rangeAt 1 0 (ptL baseT)
theorem ETab.grown {w w' : World} (h : ETab w) (hg : w.grownBy w' none) : ETab w' :=
 ⟨h.f.grown hg, Nat.lt_of_lt_of_le h.ld hg.size, Nat.lt_of_lt_of_le h.lb hg.size, rangeAt_grown h.d hg h.ld (by simp), rangeAt_grown h.b hg h.lb (by simp)⟩
theorem FTab.keep {w w' : World} {S : Nat} (h : FTab w) (hg : w.grownBy w' (some S)) (h1 : 3 ≠ S) (h2 : 6 ≠ S) : FTab w' :=
 ⟨⟨Nat.lt_of_lt_of_le h.lt.1 hg.size, Nat.lt_of_lt_of_le h.lt.2 hg.size⟩, fun i hi => by rw [gb_cell hg (p := ⟨3, i, none⟩) h.lt.1 (some_ne h1)]; exact h.p i hi,
  fun i hi => by rw [gb_cell hg (p := ⟨6, i, none⟩) h.lt.2 (some_ne h2)]; exact h.q i hi⟩
def NoG (S : Nat) : Prop := 3 ≠ S ∧ 6 ≠ S ∧ 2 ≠ S ∧ 1 ≠ S
theorem ETab.keep {w w' : World} {S : Nat} (h : ETab w) (hg : w.grownBy w' (some S)) (hS : NoG S) : ETab w' :=
 ⟨h.f.keep hg hS.1 hS.2.1, Nat.lt_of_lt_of_le h.ld hg.size, Nat.lt_of_lt_of_le h.lb hg.size, rangeAt_grown h.d hg h.ld (some_ne hS.2.2.1), rangeAt_grown h.b hg h.lb (some_ne hS.2.2.2)⟩
theorem ETab.noG {w : World} (h : ETab w) {S : Nat} (hS : w.heap.size ≤ S) : NoG S :=
 ⟨by have := h.f.lt.1; omega, by have := h.f.lt.2; omega, by have := h.ld; omega, by have := h.lb; omega⟩
theorem fa_point0 (b o : Nat) (w : World) : (Instr.fieldAt 36 (.pointer (some ⟨b, o, none⟩)) 0).run Tryz.prog w = .ok (.pointer (some ⟨b, o, none⟩)) w := by go_simp
theorem fa_point1 (b o : Nat) (w : World) : (Instr.fieldAt 36 (.pointer (some ⟨b, o, none⟩)) 1).run Tryz.prog w = .ok (.pointer (some ⟨b, o + 5, none⟩)) w := by go_simp
theorem fa_point2 (b o : Nat) (w : World) : (Instr.fieldAt 36 (.pointer (some ⟨b, o, none⟩)) 2).run Tryz.prog w = .ok (.pointer (some ⟨b, o + 10, none⟩)) w := by go_simp
theorem fa_point3 (b o : Nat) (w : World) : (Instr.fieldAt 36 (.pointer (some ⟨b, o, none⟩)) 3).run Tryz.prog w = .ok (.pointer (some ⟨b, o + 15, none⟩)) w := by go_simp
theorem fa_addend0 (b o : Nat) (w : World) : (Instr.fieldAt 127 (.pointer (some ⟨b, o, none⟩)) 0).run Tryz.prog w = .ok (.pointer (some ⟨b, o, none⟩)) w := by go_simp
theorem fa_addend1 (b o : Nat) (w : World) : (Instr.fieldAt 127 (.pointer (some ⟨b, o, none⟩)) 1).run Tryz.prog w = .ok (.pointer (some ⟨b, o + 5, none⟩)) w := by go_simp
theorem fa_addend2 (b o : Nat) (w : World) : (Instr.fieldAt 127 (.pointer (some ⟨b, o, none⟩)) 2).run Tryz.prog w = .ok (.pointer (some ⟨b, o + 10, none⟩)) w := by go_simp
theorem fa_addend3 (b o : Nat) (w : World) : (Instr.fieldAt 127 (.pointer (some ⟨b, o, none⟩)) 3).run Tryz.prog w = .ok (.pointer (some ⟨b, o + 15, none⟩)) w := by go_simp
theorem fa_sum0 (b o : Nat) (w : World) : (Instr.fieldAt 119 (.pointer (some ⟨b, o, none⟩)) 0).run Tryz.prog w = .ok (.pointer (some ⟨b, o, none⟩)) w := by go_simp
theorem fa_sum1 (b o : Nat) (w : World) : (Instr.fieldAt 119 (.pointer (some ⟨b, o, none⟩)) 1).run Tryz.prog w = .ok (.pointer (some ⟨b, o + 20, none⟩)) w := by go_simp
theorem fa_sum2 (b o : Nat) (w : World) : (Instr.fieldAt 119 (.pointer (some ⟨b, o, none⟩)) 2).run Tryz.prog w = .ok (.pointer (some ⟨b, o + 25, none⟩)) w := by go_simp
section
variable {a b : Fe} {w : World}
abbrev Tells (f : Nat) (args : Array Value) (w : World) (v : Value) : Prop := Calls Tryz.prog f args w fun e w' => e = .returned v ∧ w.grownBy w' none
theorem t_mul (ha : a.Ok) (hb : b.Ok) : Tells 38 #[a.v, b.v] w (Fe.mulF a b).v := (mul_fe a b w ha hb).mono fun _ _ h => feOut_is h
theorem t_sq (ha : a.Ok) : Tells 77 #[a.v] w (Fe.sqF a).v := (sq_fe a w ha).mono fun _ _ h => feOut_is h
theorem t_add (ha : a.Ok) (hb : b.Ok) : Tells 84 #[a.v, b.v] w (Fe.addF a b).v := (add_any a b w ha hb).mono fun _ _ h => feOut_is h
theorem t_sub (hT : FTab w) (ha : a.Ok) (hb : b.Ok) : Tells 70 #[a.v, b.v] w (Fe.subF a b).v := (sub_any a b w hT ha hb).mono fun _ _ h => feOut_is h
theorem t_neg (hT : FTab w) (ha : a.Ok) : Tells 43 #[a.v] w (Fe.negF a).v := (neg_any a w hT ha).mono fun _ _ h => feOut_is h
theorem t_one : Tells 59 #[] w Fe.oneF.v := (one_any w).mono fun _ _ h => feOut_is h
theorem t_inv (ha : a.Ok) : Tells 52 #[a.v] w (invF a).v := (invert_any a w ha).mono fun _ _ h => feOut_is h
theorem t_same (ha : a.Ok) (hb : b.Ok) {x : Bool} (h : decide (Fe.m a = Fe.m b) = x) : Tells 37 #[a.v, b.v] w (.bool x) := same_val a b x w ha hb h
theorem t_zero (ha : a.Ok) {x : Bool} (h : decide (Fe.m a = 0) = x) : Tells 85 #[a.v] w (.bool x) := zero_val a x w ha h
theorem t_odd (ha : a.Ok) {x : Bool} (h : decide (Fe.m a % 2 = 1) = x) : Tells 54 #[a.v] w (.bool x) := odd_val a x w ha h
end
theorem t_root {u v r : Fe} {b : Bool} {w : World} (hT : FTab w) (hu : u.Ok) (hv : v.Ok) (h : rootF u v = (r, b)) : Tells 83 #[u.v, v.v] w (.tuple #[r.v, .bool b]) := (root_all u v w hT hu hv).mono fun e w' h' => by
 obtain ⟨r', hr, he, hg⟩ := h'
 have e1 := hr.out
 subst e1
 rw [h] at he
 exact ⟨he, hg⟩
theorem results_row_tmp {P : Program} {fn : Func} {p u : Tmp} {ty : TypeId} (h : fn.results = #[.cell p ty, .tmp u]) (tmps : Array Value) (w : World) (g : Nat) (t : TypeId) (cs : Array Value) (fr : Nat × Nat) (d : TypeDesc)
  (hp : tmps.getD p undef = .pointer (some ⟨g, 0, none⟩)) (hg : w.heap[g]? = some (.cells cs t fr))
  (hu : P.underlying ty = some d) (hd : (match d with | .struct _ | .array _ _ => true | _ => false) = true) (hi : (P.info? ty).map (·.size) = some cs.size) {v : Value} (hv : tmps.getD u undef = v) :
  (results fn tmps).run P w = .ok (.tuple #[.agg cs, v]) w := by
 rw [results_cell_tmp h, hp, hv]
 simp [asAddr, run_loadVar_row w g t ty cs fr d hg hu hd hi, Result.andThen]
def PtOut (p : Pr) (w : World) (e : Ending) (w' : World) : Prop := ∃ t : Pt, PtIs t p ∧ e = .returned t.v ∧ w.grownBy w' none
end
end Go.Proofs.YtjfclcoppedmoaaGreatDoor
