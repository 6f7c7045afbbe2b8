/- field: join: what it answers of five sums. -/
import Derived.Test.YtjgfhihngbhljaaDoorFeCarry
namespace Go.Proofs.YtjgfhihngbhljaaDoor
open Go.RowKit

theorem limb_gb (h l : Int) (w : World) (l0 : 0 ≤ l) (l1 : l < 18446744073709551616) :
    Calls Tryd.prog 47 #[.agg #[.int .u64 h, .int .u64 l]] w fun e w' => e = .returned (.int .u64 (Fe.limbS (h * 18446744073709551616 + l))) ∧ w.grownBy w' none :=
  (limb_any h l w l0 l1).mono fun _ _ ⟨he, hw⟩ => ⟨he, hw ▸ gb_alloc (gb_refl _ _) _⟩
theorem rest_gb (h l : Int) (w : World) (h0 : 0 ≤ h) (h1 : h < 18446744073709551616) (l0 : 0 ≤ l) (l1 : l < 18446744073709551616) :
    Calls Tryd.prog 48 #[.agg #[.int .u64 h, .int .u64 l]] w fun e w' => e = .returned (.int .u64 (Fe.restS (h * 18446744073709551616 + l))) ∧ w.grownBy w' none :=
  (rest_any h l w h0 h1 l0 l1).mono fun _ _ ⟨he, hw⟩ => ⟨he, hw ▸ gb_alloc (gb_refl _ _) _⟩

theorem Blk.newAt (w : World) {B : Nat} (L : List Value) (T : TypeId) (h : w.heap.size = B) : Blk (w.alloc (.cells L.toArray T)) B T L := h ▸ Blk.new w L T
/-- a block of five cells -/
def Room5 (w : World) (B : Nat) (T : TypeId) : Prop := ∃ u0 u1 u2 u3 u4 : Value, Blk w B T [u0, u1, u2, u3, u4]
theorem Room5.grown {w w' : World} {B : Nat} {T : TypeId} {row : Option Nat} (h : Room5 w B T) (hg : w.grownBy w' row) (hr : some B ≠ row) : Room5 w' B T :=
  let ⟨_, _, _, _, _, hb⟩ := h; ⟨_, _, _, _, _, hb.grown hg hr⟩
theorem Room5.set5 {w : World} {B : Nat} {T : TypeId} (h : Room5 w B T) (v0 v1 v2 v3 v4 : Value) :
    Blk (((((w.setCell ⟨B, 0, none⟩ v0).setCell ⟨B, 1, none⟩ v1).setCell ⟨B, 2, none⟩ v2).setCell ⟨B, 3, none⟩ v3).setCell ⟨B, 4, none⟩ v4) B T [v0, v1, v2, v3, v4] :=
  let ⟨_, _, _, _, _, hb⟩ := h; ((((hb.set 0 v0).set 1 v1).set 2 v2).set 3 v3).set 4 v4
/-- an element comes back, which is F; the world has grown -/
def FeOut (F : Fe) (w : World) (e : Ending) (w' : World) : Prop :=
  ∃ r : Fe, Hid (r = F) ∧ e = .returned (.agg #[.int .u64 r.x0, .int .u64 r.x1, .int .u64 r.x2, .int .u64 r.x3, .int .u64 r.x4]) ∧ w.grownBy w' none
theorem feOut_of {F : Fe} {w : World} {e : Ending} {w' : World} (h : e = .returned F.v ∧ w.grownBy w' none) : FeOut F w e w' := ⟨F, Lib.hid rfl, h.1, h.2⟩
theorem feOut_is {F : Fe} {w : World} {e : Ending} {w' : World} (h : FeOut F w e w') : e = .returned F.v ∧ w.grownBy w' none := by
  obtain ⟨r, hr, he, hg⟩ := h
  have := hr.out
  subst this
  exact ⟨he, hg⟩
theorem carry_w (y0 y1 y2 y3 y4 : Int) (w : World) :
    Calls Tryd.prog 31 #[.agg #[.int .u64 (IntKind.u64.wrap y0), .int .u64 (IntKind.u64.wrap y1), .int .u64 (IntKind.u64.wrap y2), .int .u64 (IntKind.u64.wrap y3), .int .u64 (IntKind.u64.wrap y4)]] w (FeOut (Fe.carryF ⟨Fe.w64 y0, Fe.w64 y1, Fe.w64 y2, Fe.w64 y3, Fe.w64 y4⟩) w) := by
  simp only [wrapw]
  exact (carry_fe ⟨Fe.w64 y0, Fe.w64 y1, Fe.w64 y2, Fe.w64 y3, Fe.w64 y4⟩ w (Fe.w64_ok ..)).mono fun _ _ => feOut_of
abbrev JoinS (h0 l0 h1 l1 h2 l2 h3 l3 h4 l4 : Int) (w w' : World) : Prop := Blk w' w.heap.size 57 [.int .u64 h0, .int .u64 l0, .int .u64 h1, .int .u64 l1, .int .u64 h2, .int .u64 l2, .int .u64 h3, .int .u64 l3, .int .u64 h4, .int .u64 l4] ∧ Room5 w' (w.heap.size + 1) 24 ∧ w.grownBy w' none ∧ w'.cell? ⟨w.heap.size, 0, none⟩ = some (.int .u64 h0) ∧ w'.cell? ⟨w.heap.size, 1, none⟩ = some (.int .u64 l0) ∧ w'.cell? ⟨w.heap.size, 2, none⟩ = some (.int .u64 h1) ∧ w'.cell? ⟨w.heap.size, 3, none⟩ = some (.int .u64 l1) ∧ w'.cell? ⟨w.heap.size, 4, none⟩ = some (.int .u64 h2) ∧ w'.cell? ⟨w.heap.size, 5, none⟩ = some (.int .u64 l2) ∧ w'.cell? ⟨w.heap.size, 6, none⟩ = some (.int .u64 h3) ∧ w'.cell? ⟨w.heap.size, 7, none⟩ = some (.int .u64 l3) ∧ w'.cell? ⟨w.heap.size, 8, none⟩ = some (.int .u64 h4) ∧ w'.cell? ⟨w.heap.size, 9, none⟩ = some (.int .u64 l4)
theorem joinS_mk {h0 l0 h1 l1 h2 l2 h3 l3 h4 l4 : Int} {w w' : World} (hA : Blk w' w.heap.size 57 [.int .u64 h0, .int .u64 l0, .int .u64 h1, .int .u64 l1, .int .u64 h2, .int .u64 l2, .int .u64 h3, .int .u64 l3, .int .u64 h4, .int .u64 l4]) (hB : Room5 w' (w.heap.size + 1) 24) (hG : w.grownBy w' none) : JoinS h0 l0 h1 l1 h2 l2 h3 l3 h4 l4 w w' :=
  ⟨hA, hB, hG, hA.cell (i := 0) rfl, hA.cell (i := 1) rfl, hA.cell (i := 2) rfl, hA.cell (i := 3) rfl, hA.cell (i := 4) rfl, hA.cell (i := 5) rfl, hA.cell (i := 6) rfl, hA.cell (i := 7) rfl, hA.cell (i := 8) rfl, hA.cell (i := 9) rfl⟩
theorem joinS_keep {h0 l0 h1 l1 h2 l2 h3 l3 h4 l4 : Int} {w w1 w2 : World} (hg : w1.grownBy w2 none) (hS : JoinS h0 l0 h1 l1 h2 l2 h3 l3 h4 l4 w w1) : JoinS h0 l0 h1 l1 h2 l2 h3 l3 h4 l4 w w2 :=
  joinS_mk (hS.1.grown hg (by simp)) (hS.2.1.grown hg (by simp)) (gb_trans hS.2.2.1 hg)

theorem joinS_set {h0 l0 h1 l1 h2 l2 h3 l3 h4 l4 : Int} {w w1 : World} (hS : JoinS h0 l0 h1 l1 h2 l2 h3 l3 h4 l4 w w1) (v0 v1 v2 v3 v4 : Value) :
    JoinS h0 l0 h1 l1 h2 l2 h3 l3 h4 l4 w (((((w1.setCell ⟨w.heap.size + 1, 0, none⟩ v0).setCell ⟨w.heap.size + 1, 1, none⟩ v1).setCell ⟨w.heap.size + 1, 2, none⟩ v2).setCell ⟨w.heap.size + 1, 3, none⟩ v3).setCell ⟨w.heap.size + 1, 4, none⟩ v4) :=
  joinS_mk (((((hS.1.other (by simp) v0).other (by simp) v1).other (by simp) v2).other (by simp) v3).other (by simp) v4) ⟨_, _, _, _, _, hS.2.1.set5 v0 v1 v2 v3 v4⟩
    (gb_set_new (gb_set_new (gb_set_new (gb_set_new (gb_set_new hS.2.2.1 (by simp) _) (by simp) _) (by simp) _) (by simp) _) (by simp) _)

set_option maxRecDepth 100000 in
set_option maxHeartbeats 1600000 in
theorem fjoin_any (h0 l0 h1 l1 h2 l2 h3 l3 h4 l4 : Int) (w : World)
    (a0 : 0 ≤ h0) (a1 : 0 ≤ h1) (a2 : 0 ≤ h2) (a3 : 0 ≤ h3) (a4 : 0 ≤ h4) (b0 : 0 ≤ l0) (b1 : 0 ≤ l1) (b2 : 0 ≤ l2) (b3 : 0 ≤ l3) (b4 : 0 ≤ l4)
    (c0 : h0 < 18446744073709551616) (c1 : h1 < 18446744073709551616) (c2 : h2 < 18446744073709551616) (c3 : h3 < 18446744073709551616) (c4 : h4 < 18446744073709551616)
    (d0 : l0 < 18446744073709551616) (d1 : l1 < 18446744073709551616) (d2 : l2 < 18446744073709551616) (d3 : l3 < 18446744073709551616) (d4 : l4 < 18446744073709551616) :
    Calls Tryd.prog 29 #[.agg #[.int .u64 h0, .int .u64 l0, .int .u64 h1, .int .u64 l1, .int .u64 h2, .int .u64 l2, .int .u64 h3, .int .u64 l3, .int .u64 h4, .int .u64 l4]] w fun e w' =>
      e = .returned (Fe.joinF (h0 * 18446744073709551616 + l0) (h1 * 18446744073709551616 + l1) (h2 * 18446744073709551616 + l2) (h3 * 18446744073709551616 + l3) (h4 * 18446744073709551616 + l4)).v ∧ w.grownBy w' none := by
  go_enter Tryd.func29, Tryd.ntmps29
  go_wp2
  have hS0 : JoinS h0 l0 h1 l1 h2 l2 h3 l3 h4 l4 w ((w.alloc (.cells #[.int .u64 h0, .int .u64 l0, .int .u64 h1, .int .u64 l1, .int .u64 h2, .int .u64 l2, .int .u64 h3, .int .u64 l3, .int .u64 h4, .int .u64 l4] 57)).alloc (.cells #[.int .u64 0, .int .u64 0, .int .u64 0, .int .u64 0, .int .u64 0] 24)).drew :=
    joinS_mk ((Blk.new w _ _).alloc _).drew ⟨_, _, _, _, _, (Blk.newAt (w.alloc _) [.int .u64 0, .int .u64 0, .int .u64 0, .int .u64 0, .int .u64 0] _ (by simp)).drew⟩ (gb_drew (gb_alloc (gb_alloc (gb_refl _ _) _) _))
  revert hS0
  generalize (w.alloc (.cells #[.int .u64 h0, .int .u64 l0, .int .u64 h1, .int .u64 l1, .int .u64 h2, .int .u64 l2, .int .u64 h3, .int .u64 l3, .int .u64 h4, .int .u64 l4] 57)).alloc (.cells #[.int .u64 0, .int .u64 0, .int .u64 0, .int .u64 0, .int .u64 0] 24) = W0
  intro hS0
  go_region_held3 (fun w' => Blk w' w.heap.size 57 [.int .u64 h0, .int .u64 l0, .int .u64 h1, .int .u64 l1, .int .u64 h2, .int .u64 l2, .int .u64 h3, .int .u64 l3, .int .u64 h4, .int .u64 l4] ∧ Room5 w' (w.heap.size + 1) 24 ∧ w.grownBy w' none ∧ w'.cell? ⟨w.heap.size, 0, none⟩ = some (.int .u64 h0) ∧ w'.cell? ⟨w.heap.size, 1, none⟩ = some (.int .u64 l0) ∧ w'.cell? ⟨w.heap.size, 2, none⟩ = some (.int .u64 h1) ∧ w'.cell? ⟨w.heap.size, 3, none⟩ = some (.int .u64 l1) ∧ w'.cell? ⟨w.heap.size, 4, none⟩ = some (.int .u64 h2) ∧ w'.cell? ⟨w.heap.size, 5, none⟩ = some (.int .u64 l2) ∧ w'.cell? ⟨w.heap.size, 6, none⟩ = some (.int .u64 h3) ∧ w'.cell? ⟨w.heap.size, 7, none⟩ = some (.int .u64 l3) ∧ w'.cell? ⟨w.heap.size, 8, none⟩ = some (.int .u64 h4) ∧ w'.cell? ⟨w.heap.size, 9, none⟩ = some (.int .u64 l4))
    (first | (with_reducible exact hS0) | (with_reducible exact joinS_keep (by assumption) (by assumption)) | (with_reducible exact joinS_set (by assumption) _ _ _ _ _))
    (first | (go_simp; go_at_call 47; refine (limb_gb _ _ _ ?_ ?_).mono ?_; assumption; assumption; rintro e w1 ⟨rfl, hg1⟩) | (go_simp; go_at_call 48; refine (rest_gb _ _ _ ?_ ?_ ?_ ?_).mono ?_; assumption; assumption; assumption; assumption; rintro e w1 ⟨rfl, hg1⟩) | (go_simp; go_at_call 31; refine (carry_w _ _ _ _ _ _).mono ?_; rintro e w1 ⟨r, hr, rfl, hg1⟩; obtain ⟨u0, u1, u2, u3, u4, hR⟩ : Room5 w1 (w.heap.size + 1) 24 := Room5.grown (And.left (And.right (by assumption : JoinS h0 l0 h1 l1 h2 l2 h3 l3 h4 l4 w _))) hg1 (by simp); have z0 := hR.cell (i := 0) rfl; have z1 := hR.cell (i := 1) rfl; have z2 := hR.cell (i := 2) rfl; have z3 := hR.cell (i := 3) rfl; have z4 := hR.cell (i := 4) rfl; have y0 := hR.free 0; have y1 := hR.free 1; have y2 := hR.free 2; have y3 := hR.free 3; have y4 := hR.free 4))
  go_wp2
  refine bodyPost_ret (v := .agg #[.int .u64 r.x0, .int .u64 r.x1, .int .u64 r.x2, .int .u64 r.x3, .int .u64 r.x4]) ?_ rfl ⟨?_, ?_⟩
  · simp [results, Tryd.results29, go_sem, z0, z1, z2, z3, z4]
  · unfold Fe.joinF
    have e := hr.out
    rw [wrapw] at e
    rw [← e]; rfl
  · with_reducible exact (show JoinS h0 l0 h1 l1 h2 l2 h3 l3 h4 l4 w _ from (by assumption)).2.2.1
end Go.Proofs.YtjgfhihngbhljaaDoor
