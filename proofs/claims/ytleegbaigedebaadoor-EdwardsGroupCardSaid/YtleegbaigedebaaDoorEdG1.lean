/- texts merged, part 1: XEdLawGroup -/
import Derived.Test.YtleegbaigedebaaDoorEdB5
import Derived.Test.YtleegbaigedebaaDoorEdB6
/- edwards: EdwardsGroup. -/
namespace Go.Proofs.YtleegbaigedebaaDoor
open Go.RowKit Ow Go.Shelf Ed
set_option maxRecDepth 100000 in
set_option maxHeartbeats 12800000 in
theorem group_any (B n0 c0 n1 c1 n2 c2 : Nat) (a0 a1 a2 : Option Addr) (l0 l1 l2 : List Nat) (w0 : World) (HT0 : ETab w0) (hl0 : l0.length = n0) (hl1 : l1.length = n1) (hl2 : l2.length = n2) (HP0 : Hid (BytesAt w0 B a0 c0 l0)) (HP1 : Hid (BytesAt w0 B a1 c1 l1)) (HP2 : Hid (BytesAt w0 B a2 c2 l2)) :
  Calls Tryd.prog 3 #[.slice a0 n0 c0, .slice a1 n1 c1, .slice a2 n2 c2] w0 fun e w' => e = .returned (.bool true) ∧ w0.grownBy w' none := by
 go_enter Tryd.func3, Tryd.ntmps3
 have G : w0.grownBy w0 none := gb_refl _ _
 have HT := HT0
 go_upto_region 1 with (fail)
 have Gs0 := G.size
 refine Fg.rP [] [.any, .any, .any, .any, .any, .any, .any, .any, .any, .any, .any, .any, .any, .any, .any, .val (Value.bool true), .val (Value.bool false)] 2 ?_ ?_
 ·refine Fg.cS rfl (by decide) (fun ac w h => ?_) ?_
  ·refine ⟨wants_none rfl, 6, #[], Fg.run_call rfl rfl (by simp) (Fg.run_enter Tryd.func6 (by kernel_rfl) (by kernel_rfl)), ?_⟩
   exact (awake4_any _ (HT.grown h.base)).mono fun _ _ ⟨he, hg⟩ => ⟨_, he, hg, rfl⟩
  refine Fg.vS rfl (by decide) (fun ac w h => ?_) ?_
  ·have e15 : _ = Value.bool true := h.d 15
   refine ⟨wants_none rfl, Value.bool false, w, ?_, gb_refl _ _, rfl⟩
   clear h
   simp only [execOp, Act.eval, e15]
   go_simp
  trivial
 ·intro qa V1 g1 hsz hdf hrest hslots hpt
  obtain ⟨u15, hs15⟩ := Fg.slotv qa 15
  obtain rfl := Fg.frame_by [15, 16] (vs := [Value.slice a0 n0 c0, Value.slice a1 n1 c1, Value.slice a2 n2 c2, undef, undef, undef, Value.bool false, undef, undef, undef, undef, undef, undef, undef, undef, u15, Value.bool false, undef, undef, undef, undef, undef, undef, undef, undef, undef, undef, undef, undef, undef, undef, undef, undef, undef, undef, undef, undef, undef, undef, undef, undef, undef, undef, undef, undef, undef, undef, undef, undef, undef, undef, undef, undef, undef, undef, undef, undef, undef, undef, undef, undef, undef, undef, undef, undef, undef, undef, undef, undef, undef, undef, undef, undef, undef, undef, undef, undef, undef, undef, undef, undef, undef, undef, undef, undef, undef, undef, undef, undef, undef, undef, undef, undef, undef, undef, undef, undef, undef, undef, undef, undef, undef, undef, undef, undef, undef, undef, undef, undef, undef, undef, undef, undef, undef, undef, undef, undef, undef, undef, undef, undef, undef, undef, undef, undef, undef, undef, undef, undef, undef, undef, undef]) hsz hrest (by kernel_rfl) rfl rfl ⟨hs15, (show qa.tmps.getD 16 undef = Value.bool false from hslots 16 (by kernel_rfl)), trivial⟩ hdf
  clear hsz hdf hrest hslots hpt hs15
  replace G := gb_trans G g1
  replace HT := HT.grown g1
  clear g1
  by_cases hn0 : n0 ≤ 100
  case neg =>
   have i0 : (100 : Int) < n0 := by omega
   go_wp2
   go_ret
   exact ⟨rfl, G⟩
  have i0 : ¬ (100 : Int) < n0 := by omega
  by_cases hn1 : n1 ≤ 100
  case neg =>
   have i1 : (100 : Int) < n1 := by omega
   go_wp2
   go_ret
   exact ⟨rfl, G⟩
  have i1 : ¬ (100 : Int) < n1 := by omega
  by_cases hn2 : n2 ≤ 100
  case neg =>
   have i2 : (100 : Int) < n2 := by omega
   go_wp2
   go_ret
   exact ⟨rfl, G⟩
  have i2 : ¬ (100 : Int) < n2 := by omega
  go_upto_region 5 with (fail)
  refine wp_region_lit ?_
  refine Fg.wpl_value (v := .slice a0 n0 c0) (w' := V1) rfl (Fg.run_move rfl rfl) ?_
  simp only [Act.put, List.setIfInBounds_toArray, List.set_cons_succ, List.set_cons_zero]
  refine Fg.wpl_call rfl (Fg.run_call (vs := #[.slice a0 n0 c0]) rfl rfl (by simp only [List.map_toArray, List.map_cons, List.map_nil, Act.eval]; rfl) (Fg.run_enter Tryd.func7 (by kernel_rfl) (by kernel_rfl))) ?_
  refine (point4_any B n0 c0 a0 l0 V1 HT hl0 hn0 (Lib.hid (HP0.out.stay G))).mono ?_
  rintro e A0 ⟨r1, t1, ht1, rfl, ga⟩
  refine ⟨_, rfl, ?_⟩
  replace G := gb_trans G ga
  replace HT := HT.grown ga
  clear ga
  simp only [Act.put, List.setIfInBounds_toArray, List.set_cons_succ, List.set_cons_zero]
  refine Fg.wpl_value (v := .slice a1 n1 c1) (w' := A0) rfl (Fg.run_move rfl rfl) ?_
  simp only [Act.put, List.setIfInBounds_toArray, List.set_cons_succ, List.set_cons_zero]
  refine Fg.wpl_call rfl (Fg.run_call (vs := #[.slice a1 n1 c1]) rfl rfl (by simp only [List.map_toArray, List.map_cons, List.map_nil, Act.eval]; rfl) (Fg.run_enter Tryd.func7 (by kernel_rfl) (by kernel_rfl))) ?_
  refine (point4_any B n1 c1 a1 l1 A0 HT hl1 hn1 (Lib.hid (HP1.out.stay G))).mono ?_
  rintro e A1 ⟨r2, t2, ht2, rfl, ga⟩
  refine ⟨_, rfl, ?_⟩
  replace G := gb_trans G ga
  replace HT := HT.grown ga
  clear ga
  simp only [Act.put, List.setIfInBounds_toArray, List.set_cons_succ, List.set_cons_zero]
  refine Fg.wpl_value (v := .slice a2 n2 c2) (w' := A1) rfl (Fg.run_move rfl rfl) ?_
  simp only [Act.put, List.setIfInBounds_toArray, List.set_cons_succ, List.set_cons_zero]
  refine Fg.wpl_call rfl (Fg.run_call (vs := #[.slice a2 n2 c2]) rfl rfl (by simp only [List.map_toArray, List.map_cons, List.map_nil, Act.eval]; rfl) (Fg.run_enter Tryd.func7 (by kernel_rfl) (by kernel_rfl))) ?_
  refine (point4_any B n2 c2 a2 l2 A1 HT hl2 hn2 (Lib.hid (HP2.out.stay G))).mono ?_
  rintro e A2 ⟨r3, t3, ht3, rfl, ga⟩
  refine ⟨_, rfl, ?_⟩
  replace G := gb_trans G ga
  replace HT := HT.grown ga
  clear ga
  simp only [Act.put, List.setIfInBounds_toArray, List.set_cons_succ, List.set_cons_zero]
  refine Fg.wpl_value (v := .pointer (some ⟨A2.heap.size, 0, none⟩)) (w' := A2.alloc (.cells zr20.toArray 28)) rfl (by go_simp) ?_
  simp only [Act.put, List.setIfInBounds_toArray, List.set_cons_succ, List.set_cons_zero]
  have hw7 : w0.heap.size ≤ A2.heap.size := G.size
  have hb7 := Blk.new A2 zr20 28
  have ga7 := gb_alloc (gb_refl A2 none) (.cells zr20.toArray 28)
  replace G := gb_trans G ga7
  replace HT := HT.grown ga7
  clear ga7
  obtain ⟨N7, hN7⟩ : ∃ x, x = A2.heap.size := ⟨_, rfl⟩
  rw [← hN7] at hb7 hw7 ⊢
  revert G HT hb7
  generalize (A2.alloc (.cells zr20.toArray 28)) = E0
  intro G HT hb7
  clear hN7
  refine Fg.wpl_value (v := .pointer (some ⟨E0.heap.size, 0, none⟩)) (w' := E0.alloc (.cells zr20.toArray 28)) rfl (by go_simp) ?_
  simp only [Act.put, List.setIfInBounds_toArray, List.set_cons_succ, List.set_cons_zero]
  have hw8 : w0.heap.size ≤ E0.heap.size := G.size
  have hb8 := Blk.new E0 zr20 28
  have l3hb7 := hb7.lt
  have ga8 := gb_alloc (gb_refl E0 none) (.cells zr20.toArray 28)
  replace hb7 := hb7.gn ga8
  replace G := gb_trans G ga8
  replace HT := HT.grown ga8
  clear ga8
  obtain ⟨N8, hN8⟩ : ∃ x, x = E0.heap.size := ⟨_, rfl⟩
  rw [← hN8] at hb8 hw8 ⊢
  rw [← hN8] at l3hb7
  revert hb7 G HT hb8
  generalize (E0.alloc (.cells zr20.toArray 28)) = E1
  intro hb7 G HT hb8
  clear hN8
  refine Fg.wpl_value (v := .pointer (some ⟨E1.heap.size, 0, none⟩)) (w' := E1.alloc (.cells zr20.toArray 28)) rfl (by go_simp) ?_
  simp only [Act.put, List.setIfInBounds_toArray, List.set_cons_succ, List.set_cons_zero]
  have hw9 : w0.heap.size ≤ E1.heap.size := G.size
  have hb9 := Blk.new E1 zr20 28
  have l4hb7 := hb7.lt
  have l4hb8 := hb8.lt
  have ga9 := gb_alloc (gb_refl E1 none) (.cells zr20.toArray 28)
  replace hb7 := hb7.gn ga9
  replace hb8 := hb8.gn ga9
  replace G := gb_trans G ga9
  replace HT := HT.grown ga9
  clear ga9
  obtain ⟨N9, hN9⟩ : ∃ x, x = E1.heap.size := ⟨_, rfl⟩
  rw [← hN9] at hb9 hw9 ⊢
  rw [← hN9] at l4hb7 l4hb8
  revert hb7 hb8 G HT hb9
  generalize (E1.alloc (.cells zr20.toArray 28)) = E2
  intro hb7 hb8 G HT hb9
  clear hN9
  refine Fg.wpl_skip rfl rfl (Fg.run_store (cs := ptL t1) rfl rfl rfl (hb7.there 0 20 (by show 0 + 20 ≤ 20; decide)) info_point (ptL_one _)) ?_
  replace hb7 : Blk (E2.setCells N7 0 (ptL t1)) N7 28 (ptL t1) := hb7.setAll rfl
  replace hb8 := hb8.setCells_other (C := N7) (cs := ptL t1) 0 (by omega)
  replace hb9 := hb9.setCells_other (C := N7) (cs := ptL t1) 0 (by omega)
  replace G := gb_setCells_new (cs := ptL t1) G (B := N7) (hw7) 0
  replace HT := HT.keep (gb_setCells (cs := ptL t1) (gb_refl _ (some N7)) 0) (HT0.noG (hw7))
  revert hb7 hb8 hb9 G HT
  generalize E2.setCells N7 0 (ptL t1) = W2
  intro hb7 hb8 hb9 G HT
  refine Fg.wpl_skip rfl rfl (Fg.run_store (cs := ptL t2) rfl rfl rfl (hb8.there 0 20 (by show 0 + 20 ≤ 20; decide)) info_point (ptL_one _)) ?_
  replace hb7 := hb7.setCells_other (C := N8) (cs := ptL t2) 0 (by omega)
  replace hb8 : Blk (W2.setCells N8 0 (ptL t2)) N8 28 (ptL t2) := hb8.setAll rfl
  replace hb9 := hb9.setCells_other (C := N8) (cs := ptL t2) 0 (by omega)
  replace G := gb_setCells_new (cs := ptL t2) G (B := N8) (hw8) 0
  replace HT := HT.keep (gb_setCells (cs := ptL t2) (gb_refl _ (some N8)) 0) (HT0.noG (hw8))
  revert hb7 hb8 hb9 G HT
  generalize W2.setCells N8 0 (ptL t2) = W3
  intro hb7 hb8 hb9 G HT
  refine Fg.wpl_skip rfl rfl (Fg.run_store (cs := ptL t3) rfl rfl rfl (hb9.there 0 20 (by show 0 + 20 ≤ 20; decide)) info_point (ptL_one _)) ?_
  replace hb7 := hb7.setCells_other (C := N9) (cs := ptL t3) 0 (by omega)
  replace hb8 := hb8.setCells_other (C := N9) (cs := ptL t3) 0 (by omega)
  replace hb9 : Blk (W3.setCells N9 0 (ptL t3)) N9 28 (ptL t3) := hb9.setAll rfl
  replace G := gb_setCells_new (cs := ptL t3) G (B := N9) (hw9) 0
  replace HT := HT.keep (gb_setCells (cs := ptL t3) (gb_refl _ (some N9)) 0) (HT0.noG (hw9))
  revert hb7 hb8 hb9 G HT
  generalize W3.setCells N9 0 (ptL t3) = W4
  intro hb7 hb8 hb9 G HT
  refine wpList_nil ?_
  go_upto_region 6 with (fail)
  have Gs4 := G.size
  have l5hb7 := hb7.lt
  have l5hb8 := hb8.lt
  have l5hb9 := hb9.lt
  refine Fg.rT [10, 11] [.any, .any, .any, .any, .any, .any, .any, .any, .any, .any, .fresh 28 zr20 W4.heap.size, .fresh 28 zr20 W4.heap.size, .any, .any, .any, .any, .any, .any, .any, .any, .any, .any, .any, .any, .any, .any, .any, .any, .any, .any, .any, .any, .any, .any, .any, .any, .val (t1.v), .val (t2.v), .pts [r1, r2] 2 W4.heap.size, .stands (sumPr [r1, r2]), .val (t3.v), .pts [sumPr [r1, r2], r3] 2 W4.heap.size, .stands (sumPr [sumPr [r1, r2], r3]), .val (t1.v), .val (t2.v), .val (t3.v), .pts [r2, r3] 2 W4.heap.size, .stands (sumPr [r2, r3]), .pts [r1, sumPr [r2, r3]] 2 W4.heap.size, .stands (sumPr [r1, sumPr [r2, r3]])] 16 ?_ ?_
  ·refine Fg.vS rfl (by decide) (fun ac w h => ?_) ?_
   ·have e7 : _ = Value.pointer (some ⟨N7, 0, none⟩) := h.r 7
    exact Fg.vn t1.v (Fg.run_load rfl e7 ((hb7.gn h.base).range 0 (ptL t1) rfl) Tryd.underlying28 rfl info_point)
   refine Fg.vS rfl (by decide) (fun ac w h => ?_) ?_
   ·have e8 : _ = Value.pointer (some ⟨N8, 0, none⟩) := h.r 8
    exact Fg.vn t2.v (Fg.run_load rfl e8 ((hb8.gn h.base).range 0 (ptL t2) rfl) Tryd.underlying28 rfl info_point)
   refine Fg.vS rfl (by decide) (fun ac w h => ?_) ?_
   ·have e36 : _ = t1.v := h.d 36
    have e37 : _ = t2.v := h.d 37
    exact ⟨wants_none rfl, .slice (some ⟨w.heap.size, 0, none⟩) 2 2, w.alloc (.cells (ptsL [t1, t2]).toArray 28), Fg.run_buildSlice (vs := #[(0, t1.v), (1, t2.v)]) rfl (by simp only [List.map_toArray, List.map_cons, List.map_nil, Act.eval, e36, e37]) (by kernel_rfl), World.grownBy_alloc _ _ _, ⟨w.heap.size, _, rfl, h.base.size, (ptsAre_c ht1 (ptsAre_c ht2 ptsAre_0)), Blk.new w (ptsL [t1, t2]) _⟩⟩
   refine Fg.cS rfl (by decide) (fun ac w h => ?_) ?_
   ·obtain ⟨B38, LB38, e38, hn38, ar_B38, b_B38⟩ : ∃ (N : Nat) (L : List Pt), ac.tmps.getD 38 undef = .slice (some ⟨N, 0, none⟩) 2 2 ∧ W4.heap.size ≤ N ∧ PtsAre L [r1, r2] ∧ Blk w N 28 (ptsL L) := h.dep 38 (by kernel_rfl)
    refine ⟨wants_none rfl, 8, #[Value.slice (some ⟨B38, 0, none⟩) 2 2], Fg.run_call rfl rfl (by simp only [List.map_toArray, List.map_cons, List.map_nil, Act.eval, e38]) (Fg.run_enter Tryd.func8 (by kernel_rfl) (by kernel_rfl)), ?_⟩
    exact (edAddIs B38 2 LB38 [r1, r2] _ (HT.grown h.base) rfl (by decide) (by decide) ar_B38 b_B38).mono fun _ _ ⟨t, ht, he, hg⟩ => ⟨_, he, hg, ⟨t, rfl, ht⟩⟩
   refine Fg.vS rfl (by decide) (fun ac w h => ?_) ?_
   ·have e9 : _ = Value.pointer (some ⟨N9, 0, none⟩) := h.r 9
    exact Fg.vn t3.v (Fg.run_load rfl e9 ((hb9.gn h.base).range 0 (ptL t3) rfl) Tryd.underlying28 rfl info_point)
   refine Fg.vS rfl (by decide) (fun ac w h => ?_) ?_
   ·obtain ⟨t39, e39, is_t39⟩ : ∃ t : Pt, ac.tmps.getD 39 undef = t.v ∧ PtIs t (sumPr [r1, r2]) := h.dep 39 (by kernel_rfl)
    have e40 : _ = t3.v := h.d 40
    exact ⟨wants_none rfl, .slice (some ⟨w.heap.size, 0, none⟩) 2 2, w.alloc (.cells (ptsL [t39, t3]).toArray 28), Fg.run_buildSlice (vs := #[(0, t39.v), (1, t3.v)]) rfl (by simp only [List.map_toArray, List.map_cons, List.map_nil, Act.eval, e39, e40]) (by kernel_rfl), World.grownBy_alloc _ _ _, ⟨w.heap.size, _, rfl, h.base.size, (ptsAre_c is_t39 (ptsAre_c ht3 ptsAre_0)), Blk.new w (ptsL [t39, t3]) _⟩⟩
   refine Fg.cS rfl (by decide) (fun ac w h => ?_) ?_
   ·obtain ⟨B41, LB41, e41, hn41, ar_B41, b_B41⟩ : ∃ (N : Nat) (L : List Pt), ac.tmps.getD 41 undef = .slice (some ⟨N, 0, none⟩) 2 2 ∧ W4.heap.size ≤ N ∧ PtsAre L [sumPr [r1, r2], r3] ∧ Blk w N 28 (ptsL L) := h.dep 41 (by kernel_rfl)
    refine ⟨wants_none rfl, 8, #[Value.slice (some ⟨B41, 0, none⟩) 2 2], Fg.run_call rfl rfl (by simp only [List.map_toArray, List.map_cons, List.map_nil, Act.eval, e41]) (Fg.run_enter Tryd.func8 (by kernel_rfl) (by kernel_rfl)), ?_⟩
    exact (edAddIs B41 2 LB41 [sumPr [r1, r2], r3] _ (HT.grown h.base) rfl (by decide) (by decide) ar_B41 b_B41).mono fun _ _ ⟨t, ht, he, hg⟩ => ⟨_, he, hg, ⟨t, rfl, ht⟩⟩
   refine Fg.vS rfl (by decide) (fun ac w h => ?_) ?_
   ·have e7 : _ = Value.pointer (some ⟨N7, 0, none⟩) := h.r 7
    exact Fg.vn t1.v (Fg.run_load rfl e7 ((hb7.gn h.base).range 0 (ptL t1) rfl) Tryd.underlying28 rfl info_point)
   refine Fg.vS rfl (by decide) (fun ac w h => ?_) ?_
   ·have e8 : _ = Value.pointer (some ⟨N8, 0, none⟩) := h.r 8
    exact Fg.vn t2.v (Fg.run_load rfl e8 ((hb8.gn h.base).range 0 (ptL t2) rfl) Tryd.underlying28 rfl info_point)
   refine Fg.vS rfl (by decide) (fun ac w h => ?_) ?_
   ·have e9 : _ = Value.pointer (some ⟨N9, 0, none⟩) := h.r 9
    exact Fg.vn t3.v (Fg.run_load rfl e9 ((hb9.gn h.base).range 0 (ptL t3) rfl) Tryd.underlying28 rfl info_point)
   refine Fg.vS rfl (by decide) (fun ac w h => ?_) ?_
   ·have e44 : _ = t2.v := h.d 44
    have e45 : _ = t3.v := h.d 45
    exact ⟨wants_none rfl, .slice (some ⟨w.heap.size, 0, none⟩) 2 2, w.alloc (.cells (ptsL [t2, t3]).toArray 28), Fg.run_buildSlice (vs := #[(0, t2.v), (1, t3.v)]) rfl (by simp only [List.map_toArray, List.map_cons, List.map_nil, Act.eval, e44, e45]) (by kernel_rfl), World.grownBy_alloc _ _ _, ⟨w.heap.size, _, rfl, h.base.size, (ptsAre_c ht2 (ptsAre_c ht3 ptsAre_0)), Blk.new w (ptsL [t2, t3]) _⟩⟩
   refine Fg.cS rfl (by decide) (fun ac w h => ?_) ?_
   ·obtain ⟨B46, LB46, e46, hn46, ar_B46, b_B46⟩ : ∃ (N : Nat) (L : List Pt), ac.tmps.getD 46 undef = .slice (some ⟨N, 0, none⟩) 2 2 ∧ W4.heap.size ≤ N ∧ PtsAre L [r2, r3] ∧ Blk w N 28 (ptsL L) := h.dep 46 (by kernel_rfl)
    refine ⟨wants_none rfl, 8, #[Value.slice (some ⟨B46, 0, none⟩) 2 2], Fg.run_call rfl rfl (by simp only [List.map_toArray, List.map_cons, List.map_nil, Act.eval, e46]) (Fg.run_enter Tryd.func8 (by kernel_rfl) (by kernel_rfl)), ?_⟩
    exact (edAddIs B46 2 LB46 [r2, r3] _ (HT.grown h.base) rfl (by decide) (by decide) ar_B46 b_B46).mono fun _ _ ⟨t, ht, he, hg⟩ => ⟨_, he, hg, ⟨t, rfl, ht⟩⟩
   refine Fg.vS rfl (by decide) (fun ac w h => ?_) ?_
   ·have e43 : _ = t1.v := h.d 43
    obtain ⟨t47, e47, is_t47⟩ : ∃ t : Pt, ac.tmps.getD 47 undef = t.v ∧ PtIs t (sumPr [r2, r3]) := h.dep 47 (by kernel_rfl)
    exact ⟨wants_none rfl, .slice (some ⟨w.heap.size, 0, none⟩) 2 2, w.alloc (.cells (ptsL [t1, t47]).toArray 28), Fg.run_buildSlice (vs := #[(0, t1.v), (1, t47.v)]) rfl (by simp only [List.map_toArray, List.map_cons, List.map_nil, Act.eval, e43, e47]) (by kernel_rfl), World.grownBy_alloc _ _ _, ⟨w.heap.size, _, rfl, h.base.size, (ptsAre_c ht1 (ptsAre_c is_t47 ptsAre_0)), Blk.new w (ptsL [t1, t47]) _⟩⟩
   refine Fg.cS rfl (by decide) (fun ac w h => ?_) ?_
   ·obtain ⟨B48, LB48, e48, hn48, ar_B48, b_B48⟩ : ∃ (N : Nat) (L : List Pt), ac.tmps.getD 48 undef = .slice (some ⟨N, 0, none⟩) 2 2 ∧ W4.heap.size ≤ N ∧ PtsAre L [r1, sumPr [r2, r3]] ∧ Blk w N 28 (ptsL L) := h.dep 48 (by kernel_rfl)
    refine ⟨wants_none rfl, 8, #[Value.slice (some ⟨B48, 0, none⟩) 2 2], Fg.run_call rfl rfl (by simp only [List.map_toArray, List.map_cons, List.map_nil, Act.eval, e48]) (Fg.run_enter Tryd.func8 (by kernel_rfl) (by kernel_rfl)), ?_⟩
    exact (edAddIs B48 2 LB48 [r1, sumPr [r2, r3]] _ (HT.grown h.base) rfl (by decide) (by decide) ar_B48 b_B48).mono fun _ _ ⟨t, ht, he, hg⟩ => ⟨_, he, hg, ⟨t, rfl, ht⟩⟩
   refine ⟨⟨⟨_, rfl⟩, Fg.allocP (fun _ _ h k => gb_trans h k) rfl (by show 10 < 132; decide) fun ac w h => ?_⟩, ?_⟩
   ·refine ⟨wants_none rfl, w.alloc (.cells zr20.toArray 28), ?_, World.grownBy_alloc _ _ _, by simp, ⟨w.heap.size, rfl, h.base.size, Blk.new w zr20 _⟩⟩
    clear h
    go_simp
   refine ⟨⟨⟨_, rfl⟩, Fg.allocP (fun _ _ h k => gb_trans h k) rfl (by show 11 < 132; decide) fun ac w h => ?_⟩, ?_⟩
   ·refine ⟨wants_none rfl, w.alloc (.cells zr20.toArray 28), ?_, World.grownBy_alloc _ _ _, by simp, ⟨w.heap.size, rfl, h.base.size, Blk.new w zr20 _⟩⟩
    clear h
    go_simp
   trivial
  ·intro qa V5 g5 hsz hdf hrest hslots hpt
   obtain ⟨N10, hs10, hn10, hb10⟩ : ∃ N, qa.tmps.getD 10 undef = .pointer (some ⟨N, 0, none⟩) ∧ W4.heap.size ≤ N ∧ Blk V5 N 28 zr20 := hslots 10 (by kernel_rfl)
   obtain ⟨N11, hs11, hn11, hb11⟩ : ∃ N, qa.tmps.getD 11 undef = .pointer (some ⟨N, 0, none⟩) ∧ W4.heap.size ≤ N ∧ Blk V5 N 28 zr20 := hslots 11 (by kernel_rfl)
   obtain ⟨u15, hs15⟩ := Fg.slotv qa 15
   obtain ⟨u16, hs16⟩ := Fg.slotv qa 16
   obtain ⟨u17, hs17⟩ := Fg.slotv qa 17
   obtain ⟨u18, hs18⟩ := Fg.slotv qa 18
   obtain ⟨u19, hs19⟩ := Fg.slotv qa 19
   obtain ⟨u20, hs20⟩ := Fg.slotv qa 20
   obtain ⟨u21, hs21⟩ := Fg.slotv qa 21
   obtain ⟨u22, hs22⟩ := Fg.slotv qa 22
   obtain ⟨u23, hs23⟩ := Fg.slotv qa 23
   obtain ⟨u24, hs24⟩ := Fg.slotv qa 24
   obtain ⟨u25, hs25⟩ := Fg.slotv qa 25
   obtain ⟨u26, hs26⟩ := Fg.slotv qa 26
   obtain ⟨u27, hs27⟩ := Fg.slotv qa 27
   obtain ⟨u28, hs28⟩ := Fg.slotv qa 28
   obtain ⟨u29, hs29⟩ := Fg.slotv qa 29
   obtain ⟨u30, hs30⟩ := Fg.slotv qa 30
   obtain ⟨u31, hs31⟩ := Fg.slotv qa 31
   obtain ⟨u32, hs32⟩ := Fg.slotv qa 32
   obtain ⟨u33, hs33⟩ := Fg.slotv qa 33
   obtain ⟨u34, hs34⟩ := Fg.slotv qa 34
   obtain ⟨u35, hs35⟩ := Fg.slotv qa 35
   obtain ⟨u36, hs36⟩ := Fg.slotv qa 36
   obtain ⟨u37, hs37⟩ := Fg.slotv qa 37
   obtain ⟨u38, hs38⟩ := Fg.slotv qa 38
   obtain ⟨u39, hs39⟩ := Fg.slotv qa 39
   obtain ⟨u40, hs40⟩ := Fg.slotv qa 40
   obtain ⟨u41, hs41⟩ := Fg.slotv qa 41
   obtain ⟨t42, hs42, is_t42⟩ : ∃ t : Pt, qa.tmps.getD 42 undef = t.v ∧ PtIs t (sumPr [sumPr [r1, r2], r3]) := hslots 42 (by kernel_rfl)
   obtain ⟨u43, hs43⟩ := Fg.slotv qa 43
   obtain ⟨u44, hs44⟩ := Fg.slotv qa 44
   obtain ⟨u45, hs45⟩ := Fg.slotv qa 45
   obtain ⟨u46, hs46⟩ := Fg.slotv qa 46
   obtain ⟨u47, hs47⟩ := Fg.slotv qa 47
   obtain ⟨u48, hs48⟩ := Fg.slotv qa 48
   obtain ⟨t49, hs49, is_t49⟩ : ∃ t : Pt, qa.tmps.getD 49 undef = t.v ∧ PtIs t (sumPr [r1, sumPr [r2, r3]]) := hslots 49 (by kernel_rfl)
   have n10_11 : N10 ≠ N11 := fun e => (hpt 10 (by simp) N10 hs10).2 11 (by simp) (by decide) (by rw [hs11, e])
   obtain rfl := Fg.frame_by [10, 11, 15, 16, 17, 18, 19, 20, 21, 22, 23, 24, 25, 26, 27, 28, 29, 30, 31, 32, 33, 34, 35, 36, 37, 38, 39, 40, 41, 42, 43, 44, 45, 46, 47, 48, 49] (vs := [Value.slice a0 n0 c0, Value.slice a1 n1 c1, Value.slice a2 n2 c2, undef, undef, undef, Value.bool false, Value.pointer (some ⟨N7, 0, none⟩), Value.pointer (some ⟨N8, 0, none⟩), Value.pointer (some ⟨N9, 0, none⟩), Value.pointer (some ⟨N10, 0, none⟩), Value.pointer (some ⟨N11, 0, none⟩), undef, undef, undef, u15, u16, u17, u18, u19, u20, u21, u22, u23, u24, u25, u26, u27, u28, u29, u30, u31, u32, u33, u34, u35, u36, u37, u38, u39, u40, u41, t42.v, u43, u44, u45, u46, u47, u48, t49.v, undef, undef, undef, undef, undef, undef, undef, undef, undef, undef, undef, undef, undef, undef, undef, undef, undef, undef, undef, undef, undef, undef, undef, undef, undef, undef, undef, undef, undef, undef, undef, undef, undef, undef, undef, undef, undef, undef, undef, undef, undef, undef, undef, undef, undef, undef, undef, undef, undef, undef, undef, undef, undef, undef, undef, undef, undef, undef, undef, undef, undef, undef, undef, undef, undef, undef, undef, undef, undef, undef, undef, undef, undef, undef, undef, undef, undef, undef, undef, undef, undef, undef]) hsz hrest (by kernel_rfl) rfl rfl ⟨hs10, hs11, hs15, hs16, hs17, hs18, hs19, hs20, hs21, hs22, hs23, hs24, hs25, hs26, hs27, hs28, hs29, hs30, hs31, hs32, hs33, hs34, hs35, hs36, hs37, hs38, hs39, hs40, hs41, hs42, hs43, hs44, hs45, hs46, hs47, hs48, hs49, trivial⟩ hdf
   clear hsz hdf hrest hslots hpt hs10 hs11 hs15 hs16 hs17 hs18 hs19 hs20 hs21 hs22 hs23 hs24 hs25 hs26 hs27 hs28 hs29 hs30 hs31 hs32 hs33 hs34 hs35 hs36 hs37 hs38 hs39 hs40 hs41 hs43 hs44 hs45 hs46 hs47 hs48
   replace hb7 := hb7.gn g5
   replace hb8 := hb8.gn g5
   replace hb9 := hb9.gn g5
   replace G := gb_trans G g5
   replace HT := HT.grown g5
   have hw10 : w0.heap.size ≤ N10 := Nat.le_trans Gs4 hn10
   have hw11 : w0.heap.size ≤ N11 := Nat.le_trans Gs4 hn11
   clear g5
   refine Fg.wpl_skip rfl rfl (Fg.run_store (cs := ptL t42) rfl rfl rfl (hb10.there 0 20 (by show 0 + 20 ≤ 20; decide)) info_point (ptL_one _)) ?_
   replace hb7 := hb7.setCells_other (C := N10) (cs := ptL t42) 0 (by omega)
   replace hb8 := hb8.setCells_other (C := N10) (cs := ptL t42) 0 (by omega)
   replace hb9 := hb9.setCells_other (C := N10) (cs := ptL t42) 0 (by omega)
   replace hb10 : Blk (V5.setCells N10 0 (ptL t42)) N10 28 (ptL t42) := hb10.setAll rfl
   replace hb11 := hb11.setCells_other (C := N10) (cs := ptL t42) 0 (by omega)
   replace G := gb_setCells_new (cs := ptL t42) G (B := N10) (hw10) 0
   replace HT := HT.keep (gb_setCells (cs := ptL t42) (gb_refl _ (some N10)) 0) (HT0.noG (hw10))
   revert hb7 hb8 hb9 hb10 hb11 G HT
   generalize V5.setCells N10 0 (ptL t42) = W6
   intro hb7 hb8 hb9 hb10 hb11 G HT
   refine Fg.wpl_skip rfl rfl (Fg.run_store (cs := ptL t49) rfl rfl rfl (hb11.there 0 20 (by show 0 + 20 ≤ 20; decide)) info_point (ptL_one _)) ?_
   replace hb7 := hb7.setCells_other (C := N11) (cs := ptL t49) 0 (by omega)
   replace hb8 := hb8.setCells_other (C := N11) (cs := ptL t49) 0 (by omega)
   replace hb9 := hb9.setCells_other (C := N11) (cs := ptL t49) 0 (by omega)
   replace hb10 := hb10.setCells_other (C := N11) (cs := ptL t49) 0 (by omega)
   replace hb11 : Blk (W6.setCells N11 0 (ptL t49)) N11 28 (ptL t49) := hb11.setAll rfl
   replace G := gb_setCells_new (cs := ptL t49) G (B := N11) (hw11) 0
   replace HT := HT.keep (gb_setCells (cs := ptL t49) (gb_refl _ (some N11)) 0) (HT0.noG (hw11))
   revert hb7 hb8 hb9 hb10 hb11 G HT
   generalize W6.setCells N11 0 (ptL t49) = W7
   intro hb7 hb8 hb9 hb10 hb11 G HT
   go_upto_region 7 with (fail)
   have Gs7 := G.size
   have l6hb7 := hb7.lt
   have l6hb8 := hb8.lt
   have l6hb9 := hb9.lt
   have l6hb10 := hb10.lt
   have l6hb11 := hb11.lt
   refine Fg.rP [12] [.any, .any, .any, .any, .any, .any, .any, .any, .any, .any, .any, .any, .fresh 28 zr20 W7.heap.size, .any, .any, .any, .any, .any, .any, .any, .any, .any, .any, .any, .any, .any, .any, .any, .any, .any, .any, .any, .any, .any, .any, .any, .any, .any, .any, .any, .any, .any, .any, .any, .any, .any, .any, .any, .any, .any, .val (t3.v), .val (t2.v), .val (t1.v), .pts [r3, r2, r1] 3 W7.heap.size, .stands (sumPr [r3, r2, r1])] 6 ?_ ?_
   ·refine Fg.vS rfl (by decide) (fun ac w h => ?_) ?_
    ·have e9 : _ = Value.pointer (some ⟨N9, 0, none⟩) := h.r 9
     exact Fg.vn t3.v (Fg.run_load rfl e9 ((hb9.gn h.base).range 0 (ptL t3) rfl) Tryd.underlying28 rfl info_point)
    refine Fg.vS rfl (by decide) (fun ac w h => ?_) ?_
    ·have e8 : _ = Value.pointer (some ⟨N8, 0, none⟩) := h.r 8
     exact Fg.vn t2.v (Fg.run_load rfl e8 ((hb8.gn h.base).range 0 (ptL t2) rfl) Tryd.underlying28 rfl info_point)
    refine Fg.vS rfl (by decide) (fun ac w h => ?_) ?_
    ·have e7 : _ = Value.pointer (some ⟨N7, 0, none⟩) := h.r 7
     exact Fg.vn t1.v (Fg.run_load rfl e7 ((hb7.gn h.base).range 0 (ptL t1) rfl) Tryd.underlying28 rfl info_point)
    refine Fg.vS rfl (by decide) (fun ac w h => ?_) ?_
    ·have e50 : _ = t3.v := h.d 50
     have e51 : _ = t2.v := h.d 51
     have e52 : _ = t1.v := h.d 52
     exact ⟨wants_none rfl, .slice (some ⟨w.heap.size, 0, none⟩) 3 3, w.alloc (.cells (ptsL [t3, t2, t1]).toArray 28), Fg.run_buildSlice (vs := #[(0, t3.v), (1, t2.v), (2, t1.v)]) rfl (by simp only [List.map_toArray, List.map_cons, List.map_nil, Act.eval, e50, e51, e52]) (by kernel_rfl), World.grownBy_alloc _ _ _, ⟨w.heap.size, _, rfl, h.base.size, (ptsAre_c ht3 (ptsAre_c ht2 (ptsAre_c ht1 ptsAre_0))), Blk.new w (ptsL [t3, t2, t1]) _⟩⟩
    refine Fg.cS rfl (by decide) (fun ac w h => ?_) ?_
    ·obtain ⟨B53, LB53, e53, hn53, ar_B53, b_B53⟩ : ∃ (N : Nat) (L : List Pt), ac.tmps.getD 53 undef = .slice (some ⟨N, 0, none⟩) 3 3 ∧ W7.heap.size ≤ N ∧ PtsAre L [r3, r2, r1] ∧ Blk w N 28 (ptsL L) := h.dep 53 (by kernel_rfl)
     refine ⟨wants_none rfl, 8, #[Value.slice (some ⟨B53, 0, none⟩) 3 3], Fg.run_call rfl rfl (by simp only [List.map_toArray, List.map_cons, List.map_nil, Act.eval, e53]) (Fg.run_enter Tryd.func8 (by kernel_rfl) (by kernel_rfl)), ?_⟩
     exact (edAddIs B53 3 LB53 [r3, r2, r1] _ (HT.grown h.base) rfl (by decide) (by decide) ar_B53 b_B53).mono fun _ _ ⟨t, ht, he, hg⟩ => ⟨_, he, hg, ⟨t, rfl, ht⟩⟩
    refine ⟨⟨⟨_, rfl⟩, Fg.allocP (fun _ _ h k => gb_trans h k) rfl (by show 12 < 132; decide) fun ac w h => ?_⟩, ?_⟩
    ·refine ⟨wants_none rfl, w.alloc (.cells zr20.toArray 28), ?_, World.grownBy_alloc _ _ _, by simp, ⟨w.heap.size, rfl, h.base.size, Blk.new w zr20 _⟩⟩
     clear h
     go_simp
    trivial
   ·intro qa V8 g8 hsz hdf hrest hslots hpt
    obtain ⟨N12, hs12, hn12, hb12⟩ : ∃ N, qa.tmps.getD 12 undef = .pointer (some ⟨N, 0, none⟩) ∧ W7.heap.size ≤ N ∧ Blk V8 N 28 zr20 := hslots 12 (by kernel_rfl)
    obtain ⟨u50, hs50⟩ := Fg.slotv qa 50
    obtain ⟨u51, hs51⟩ := Fg.slotv qa 51
    obtain ⟨u52, hs52⟩ := Fg.slotv qa 52
    obtain ⟨u53, hs53⟩ := Fg.slotv qa 53
    obtain ⟨t54, hs54, is_t54⟩ : ∃ t : Pt, qa.tmps.getD 54 undef = t.v ∧ PtIs t (sumPr [r3, r2, r1]) := hslots 54 (by kernel_rfl)
    obtain rfl := Fg.frame_by [12, 50, 51, 52, 53, 54] (vs := [Value.slice a0 n0 c0, Value.slice a1 n1 c1, Value.slice a2 n2 c2, undef, undef, undef, Value.bool false, Value.pointer (some ⟨N7, 0, none⟩), Value.pointer (some ⟨N8, 0, none⟩), Value.pointer (some ⟨N9, 0, none⟩), Value.pointer (some ⟨N10, 0, none⟩), Value.pointer (some ⟨N11, 0, none⟩), Value.pointer (some ⟨N12, 0, none⟩), undef, undef, u15, u16, u17, u18, u19, u20, u21, u22, u23, u24, u25, u26, u27, u28, u29, u30, u31, u32, u33, u34, u35, u36, u37, u38, u39, u40, u41, t42.v, u43, u44, u45, u46, u47, u48, t49.v, u50, u51, u52, u53, t54.v, undef, undef, undef, undef, undef, undef, undef, undef, undef, undef, undef, undef, undef, undef, undef, undef, undef, undef, undef, undef, undef, undef, undef, undef, undef, undef, undef, undef, undef, undef, undef, undef, undef, undef, undef, undef, undef, undef, undef, undef, undef, undef, undef, undef, undef, undef, undef, undef, undef, undef, undef, undef, undef, undef, undef, undef, undef, undef, undef, undef, undef, undef, undef, undef, undef, undef, undef, undef, undef, undef, undef, undef, undef, undef, undef, undef, undef]) hsz hrest (by kernel_rfl) rfl rfl ⟨hs12, hs50, hs51, hs52, hs53, hs54, trivial⟩ hdf
    clear hsz hdf hrest hslots hpt hs12 hs50 hs51 hs52 hs53
    replace hb7 := hb7.gn g8
    replace hb8 := hb8.gn g8
    replace hb9 := hb9.gn g8
    replace hb10 := hb10.gn g8
    replace hb11 := hb11.gn g8
    replace G := gb_trans G g8
    replace HT := HT.grown g8
    have hw12 : w0.heap.size ≤ N12 := Nat.le_trans Gs7 hn12
    clear g8
    refine Fg.wpl_skip rfl rfl (Fg.run_store (cs := ptL t54) rfl rfl rfl (hb12.there 0 20 (by show 0 + 20 ≤ 20; decide)) info_point (ptL_one _)) ?_
    replace hb7 := hb7.setCells_other (C := N12) (cs := ptL t54) 0 (by omega)
    replace hb8 := hb8.setCells_other (C := N12) (cs := ptL t54) 0 (by omega)
    replace hb9 := hb9.setCells_other (C := N12) (cs := ptL t54) 0 (by omega)
    replace hb10 := hb10.setCells_other (C := N12) (cs := ptL t54) 0 (by omega)
    replace hb11 := hb11.setCells_other (C := N12) (cs := ptL t54) 0 (by omega)
    replace hb12 : Blk (V8.setCells N12 0 (ptL t54)) N12 28 (ptL t54) := hb12.setAll rfl
    replace G := gb_setCells_new (cs := ptL t54) G (B := N12) (hw12) 0
    replace HT := HT.keep (gb_setCells (cs := ptL t54) (gb_refl _ (some N12)) 0) (HT0.noG (hw12))
    revert hb7 hb8 hb9 hb10 hb11 hb12 G HT
    generalize V8.setCells N12 0 (ptL t54) = W9
    intro hb7 hb8 hb9 hb10 hb11 hb12 G HT
    go_upto_region 8 with (fail)
    have Gs9 := G.size
    have l7hb7 := hb7.lt
    have l7hb8 := hb8.lt
    have l7hb9 := hb9.lt
    have l7hb10 := hb10.lt
    have l7hb11 := hb11.lt
    have l7hb12 := hb12.lt
    refine Fg.rT [] [.any, .any, .any, .any, .any, .any, .any, .any, .any, .any, .any, .any, .any, .any, .any, .any, .any, .any, .any, .any, .any, .any, .any, .any, .any, .any, .any, .any, .any, .any, .any, .any, .any, .any, .any, .any, .any, .any, .any, .any, .any, .any, .any, .any, .any, .any, .any, .any, .any, .any, .any, .any, .any, .any, .any, .val (t42.v), .val (t49.v), .val (Value.bool true), .val (Value.bool false), .val (Value.bool false), .val (t42.v), .val (t54.v), .val (Value.bool true), .val (Value.bool false), .val (Value.bool false), .val (Value.bool false), .val (t1.v), .val (t1.v), .stands (Ed.neg r1), .pts [r1, Ed.neg r1] 2 W9.heap.size, .stands (sumPr [r1, Ed.neg r1]), .val (zeroP.v), .val (Value.bool true), .val (Value.bool false), .val (Value.bool false), .val (Value.bool false), .val (t1.v), .stands (Ed.add r1 r1), .val (t1.v), .val (t1.v), .pts [r1, r1] 2 W9.heap.size, .stands (sumPr [r1, r1]), .val (Value.bool true), .val (Value.bool false), .val (Value.bool false), .val (Value.bool false), .val (t1.v), .val (zeroP.v), .pts [r1, zero] 2 W9.heap.size, .stands (sumPr [r1, zero]), .val (t1.v), .val (Value.bool true), .val (Value.bool false), .val (Value.bool false)] 39 ?_ ?_
    ·refine Fg.vS rfl (by decide) (fun ac w h => ?_) ?_
     ·have e10 : _ = Value.pointer (some ⟨N10, 0, none⟩) := h.r 10
      exact Fg.vn t42.v (Fg.run_load rfl e10 ((hb10.gn h.base).range 0 (ptL t42) rfl) Tryd.underlying28 rfl info_point)
     refine Fg.vS rfl (by decide) (fun ac w h => ?_) ?_
     ·have e11 : _ = Value.pointer (some ⟨N11, 0, none⟩) := h.r 11
      exact Fg.vn t49.v (Fg.run_load rfl e11 ((hb11.gn h.base).range 0 (ptL t49) rfl) Tryd.underlying28 rfl info_point)
     refine Fg.cS rfl (by decide) (fun ac w h => ?_) ?_
     ·have e55 : _ = t42.v := h.d 55
      have e56 : _ = t49.v := h.d 56
      refine ⟨wants_none rfl, 9, #[t42.v, t49.v], Fg.run_call rfl rfl (by simp only [List.map_toArray, List.map_cons, List.map_nil, Act.eval, e55, e56]) (Fg.run_enter Tryd.func9 (by kernel_rfl) (by kernel_rfl)), ?_⟩
      exact (edSameIs (b := true) _ is_t42 is_t49 (yes_of (grp1 ht1.on ht2.on ht3.on))).mono fun _ _ ⟨he, hg⟩ => ⟨_, he, hg, rfl⟩
     refine Fg.vS rfl (by decide) (fun ac w h => ?_) ?_
     ·have e57 : _ = Value.bool true := h.d 57
      refine ⟨wants_none rfl, Value.bool false, w, ?_, gb_refl _ _, rfl⟩
      clear h
      simp only [execOp, Act.eval, e57]
      go_simp
     refine Fg.vS rfl (by decide) (fun ac w h => ?_) ?_
     ·have e58 : _ = Value.bool false := h.d 58
      exact Fg.vn (Value.bool false) (Fg.run_move rfl e58)
     refine Fg.vS rfl (by decide) (fun ac w h => ?_) ?_
     ·have e59 : _ = Value.bool false := h.d 59
      have e10 : _ = Value.pointer (some ⟨N10, 0, none⟩) := h.r 10
      exact Fg.vx t42.v (wants_some (d := 59) rfl rfl (by rw [h.size]; show 59 < 132; decide) e59) (Fg.run_load rfl e10 ((hb10.gn h.base).range 0 (ptL t42) rfl) Tryd.underlying28 rfl info_point)
     refine Fg.vS rfl (by decide) (fun ac w h => ?_) ?_
     ·have e59 : _ = Value.bool false := h.d 59
      have e12 : _ = Value.pointer (some ⟨N12, 0, none⟩) := h.r 12
      exact Fg.vx t54.v (wants_some (d := 59) rfl rfl (by rw [h.size]; show 59 < 132; decide) e59) (Fg.run_load rfl e12 ((hb12.gn h.base).range 0 (ptL t54) rfl) Tryd.underlying28 rfl info_point)
     refine Fg.cS rfl (by decide) (fun ac w h => ?_) ?_
     ·have e59 : _ = Value.bool false := h.d 59
      have e60 : _ = t42.v := h.d 60
      have e61 : _ = t54.v := h.d 61
      refine ⟨wants_some (d := 59) rfl rfl (by rw [h.size]; show 59 < 132; decide) e59, 9, #[t42.v, t54.v], Fg.run_call rfl rfl (by simp only [List.map_toArray, List.map_cons, List.map_nil, Act.eval, e60, e61]) (Fg.run_enter Tryd.func9 (by kernel_rfl) (by kernel_rfl)), ?_⟩
      exact (edSameIs (b := true) _ is_t42 is_t54 (yes_of (grp2 ht1.on ht2.on ht3.on))).mono fun _ _ ⟨he, hg⟩ => ⟨_, he, hg, rfl⟩
     refine Fg.vS rfl (by decide) (fun ac w h => ?_) ?_
     ·have e59 : _ = Value.bool false := h.d 59
      have e62 : _ = Value.bool true := h.d 62
      refine ⟨wants_some (d := 59) rfl rfl (by rw [h.size]; show 59 < 132; decide) e59, Value.bool false, w, ?_, gb_refl _ _, rfl⟩
      clear h
      simp only [execOp, Act.eval, e62]
      go_simp
     refine Fg.vS rfl (by decide) (fun ac w h => ?_) ?_
     ·have e59 : _ = Value.bool false := h.d 59
      have e63 : _ = Value.bool false := h.d 63
      refine ⟨wants_none rfl, Value.bool false, w, ?_, gb_refl _ _, rfl⟩
      clear h
      simp only [execOp, Act.eval, e59, e63]
      go_simp
     refine Fg.vS rfl (by decide) (fun ac w h => ?_) ?_
     ·have e64 : _ = Value.bool false := h.d 64
      exact Fg.vn (Value.bool false) (Fg.run_move rfl e64)
     refine Fg.vS rfl (by decide) (fun ac w h => ?_) ?_
     ·have e65 : _ = Value.bool false := h.d 65
      have e7 : _ = Value.pointer (some ⟨N7, 0, none⟩) := h.r 7
      exact Fg.vx t1.v (wants_some (d := 65) rfl rfl (by rw [h.size]; show 65 < 132; decide) e65) (Fg.run_load rfl e7 ((hb7.gn h.base).range 0 (ptL t1) rfl) Tryd.underlying28 rfl info_point)
     refine Fg.vS rfl (by decide) (fun ac w h => ?_) ?_
     ·have e65 : _ = Value.bool false := h.d 65
      have e7 : _ = Value.pointer (some ⟨N7, 0, none⟩) := h.r 7
      exact Fg.vx t1.v (wants_some (d := 65) rfl rfl (by rw [h.size]; show 65 < 132; decide) e65) (Fg.run_load rfl e7 ((hb7.gn h.base).range 0 (ptL t1) rfl) Tryd.underlying28 rfl info_point)
     refine Fg.cS rfl (by decide) (fun ac w h => ?_) ?_
     ·have e65 : _ = Value.bool false := h.d 65
      have e67 : _ = t1.v := h.d 67
      refine ⟨wants_some (d := 65) rfl rfl (by rw [h.size]; show 65 < 132; decide) e65, 10, #[t1.v], Fg.run_call rfl rfl (by simp only [List.map_toArray, List.map_cons, List.map_nil, Act.eval, e67]) (Fg.run_enter Tryd.func10 (by kernel_rfl) (by kernel_rfl)), ?_⟩
      exact (edNeg t1 r1 _ (HT.grown h.base) ht1).mono fun _ _ ⟨t, ht, he, hg⟩ => ⟨_, he, hg, ⟨t, rfl, ht⟩⟩
     refine Fg.vS rfl (by decide) (fun ac w h => ?_) ?_
     ·have e65 : _ = Value.bool false := h.d 65
      have e66 : _ = t1.v := h.d 66
      obtain ⟨t68, e68, is_t68⟩ : ∃ t : Pt, ac.tmps.getD 68 undef = t.v ∧ PtIs t (Ed.neg r1) := h.dep 68 (by kernel_rfl)
      exact ⟨wants_some (d := 65) rfl rfl (by rw [h.size]; show 65 < 132; decide) e65, .slice (some ⟨w.heap.size, 0, none⟩) 2 2, w.alloc (.cells (ptsL [t1, t68]).toArray 28), Fg.run_buildSlice (vs := #[(0, t1.v), (1, t68.v)]) rfl (by simp only [List.map_toArray, List.map_cons, List.map_nil, Act.eval, e66, e68]) (by kernel_rfl), World.grownBy_alloc _ _ _, ⟨w.heap.size, _, rfl, h.base.size, (ptsAre_c ht1 (ptsAre_c is_t68 ptsAre_0)), Blk.new w (ptsL [t1, t68]) _⟩⟩
     refine Fg.cS rfl (by decide) (fun ac w h => ?_) ?_
     ·have e65 : _ = Value.bool false := h.d 65
      obtain ⟨B69, LB69, e69, hn69, ar_B69, b_B69⟩ : ∃ (N : Nat) (L : List Pt), ac.tmps.getD 69 undef = .slice (some ⟨N, 0, none⟩) 2 2 ∧ W9.heap.size ≤ N ∧ PtsAre L [r1, Ed.neg r1] ∧ Blk w N 28 (ptsL L) := h.dep 69 (by kernel_rfl)
      refine ⟨wants_some (d := 65) rfl rfl (by rw [h.size]; show 65 < 132; decide) e65, 8, #[Value.slice (some ⟨B69, 0, none⟩) 2 2], Fg.run_call rfl rfl (by simp only [List.map_toArray, List.map_cons, List.map_nil, Act.eval, e69]) (Fg.run_enter Tryd.func8 (by kernel_rfl) (by kernel_rfl)), ?_⟩
      exact (edAddIs B69 2 LB69 [r1, Ed.neg r1] _ (HT.grown h.base) rfl (by decide) (by decide) ar_B69 b_B69).mono fun _ _ ⟨t, ht, he, hg⟩ => ⟨_, he, hg, ⟨t, rfl, ht⟩⟩
     refine Fg.cS rfl (by decide) (fun ac w h => ?_) ?_
     ·have e65 : _ = Value.bool false := h.d 65
      refine ⟨wants_some (d := 65) rfl rfl (by rw [h.size]; show 65 < 132; decide) e65, 11, #[], Fg.run_call rfl rfl (by simp) (Fg.run_enter Tryd.func11 (by kernel_rfl) (by kernel_rfl)), ?_⟩
      exact (edZero _).mono fun _ _ ⟨he, hg⟩ => ⟨_, he, hg, rfl⟩
     refine Fg.cS rfl (by decide) (fun ac w h => ?_) ?_
     ·have e65 : _ = Value.bool false := h.d 65
      obtain ⟨t70, e70, is_t70⟩ : ∃ t : Pt, ac.tmps.getD 70 undef = t.v ∧ PtIs t (sumPr [r1, Ed.neg r1]) := h.dep 70 (by kernel_rfl)
      have e71 : _ = zeroP.v := h.d 71
      refine ⟨wants_some (d := 65) rfl rfl (by rw [h.size]; show 65 < 132; decide) e65, 9, #[t70.v, zeroP.v], Fg.run_call rfl rfl (by simp only [List.map_toArray, List.map_cons, List.map_nil, Act.eval, e70, e71]) (Fg.run_enter Tryd.func9 (by kernel_rfl) (by kernel_rfl)), ?_⟩
      exact (edSameIs (b := true) _ is_t70 zeroIs (yes_of (grp3 ht1.on))).mono fun _ _ ⟨he, hg⟩ => ⟨_, he, hg, rfl⟩
     refine Fg.vS rfl (by decide) (fun ac w h => ?_) ?_
     ·have e65 : _ = Value.bool false := h.d 65
      have e72 : _ = Value.bool true := h.d 72
      refine ⟨wants_some (d := 65) rfl rfl (by rw [h.size]; show 65 < 132; decide) e65, Value.bool false, w, ?_, gb_refl _ _, rfl⟩
      clear h
      simp only [execOp, Act.eval, e72]
      go_simp
     refine Fg.vS rfl (by decide) (fun ac w h => ?_) ?_
     ·have e65 : _ = Value.bool false := h.d 65
      have e73 : _ = Value.bool false := h.d 73
      refine ⟨wants_none rfl, Value.bool false, w, ?_, gb_refl _ _, rfl⟩
      clear h
      simp only [execOp, Act.eval, e65, e73]
      go_simp
     refine Fg.vS rfl (by decide) (fun ac w h => ?_) ?_
     ·have e74 : _ = Value.bool false := h.d 74
      exact Fg.vn (Value.bool false) (Fg.run_move rfl e74)
     refine Fg.vS rfl (by decide) (fun ac w h => ?_) ?_
     ·have e75 : _ = Value.bool false := h.d 75
      have e7 : _ = Value.pointer (some ⟨N7, 0, none⟩) := h.r 7
      exact Fg.vx t1.v (wants_some (d := 75) rfl rfl (by rw [h.size]; show 75 < 132; decide) e75) (Fg.run_load rfl e7 ((hb7.gn h.base).range 0 (ptL t1) rfl) Tryd.underlying28 rfl info_point)
     refine Fg.cS rfl (by decide) (fun ac w h => ?_) ?_
     ·have e75 : _ = Value.bool false := h.d 75
      have e76 : _ = t1.v := h.d 76
      refine ⟨wants_some (d := 75) rfl rfl (by rw [h.size]; show 75 < 132; decide) e75, 12, #[t1.v], Fg.run_call rfl rfl (by simp only [List.map_toArray, List.map_cons, List.map_nil, Act.eval, e76]) (Fg.run_enter Tryd.func12 (by kernel_rfl) (by kernel_rfl)), ?_⟩
      exact (edDouble t1 r1 _ (HT.grown h.base) ht1).mono fun _ _ ⟨t, ht, he, hg⟩ => ⟨_, he, hg, ⟨t, rfl, ht⟩⟩
     refine Fg.vS rfl (by decide) (fun ac w h => ?_) ?_
     ·have e75 : _ = Value.bool false := h.d 75
      have e7 : _ = Value.pointer (some ⟨N7, 0, none⟩) := h.r 7
      exact Fg.vx t1.v (wants_some (d := 75) rfl rfl (by rw [h.size]; show 75 < 132; decide) e75) (Fg.run_load rfl e7 ((hb7.gn h.base).range 0 (ptL t1) rfl) Tryd.underlying28 rfl info_point)
     refine Fg.vS rfl (by decide) (fun ac w h => ?_) ?_
     ·have e75 : _ = Value.bool false := h.d 75
      have e7 : _ = Value.pointer (some ⟨N7, 0, none⟩) := h.r 7
      exact Fg.vx t1.v (wants_some (d := 75) rfl rfl (by rw [h.size]; show 75 < 132; decide) e75) (Fg.run_load rfl e7 ((hb7.gn h.base).range 0 (ptL t1) rfl) Tryd.underlying28 rfl info_point)
     refine Fg.vS rfl (by decide) (fun ac w h => ?_) ?_
     ·have e75 : _ = Value.bool false := h.d 75
      have e78 : _ = t1.v := h.d 78
      have e79 : _ = t1.v := h.d 79
      exact ⟨wants_some (d := 75) rfl rfl (by rw [h.size]; show 75 < 132; decide) e75, .slice (some ⟨w.heap.size, 0, none⟩) 2 2, w.alloc (.cells (ptsL [t1, t1]).toArray 28), Fg.run_buildSlice (vs := #[(0, t1.v), (1, t1.v)]) rfl (by simp only [List.map_toArray, List.map_cons, List.map_nil, Act.eval, e78, e79]) (by kernel_rfl), World.grownBy_alloc _ _ _, ⟨w.heap.size, _, rfl, h.base.size, (ptsAre_c ht1 (ptsAre_c ht1 ptsAre_0)), Blk.new w (ptsL [t1, t1]) _⟩⟩
     refine Fg.cS rfl (by decide) (fun ac w h => ?_) ?_
     ·have e75 : _ = Value.bool false := h.d 75
      obtain ⟨B80, LB80, e80, hn80, ar_B80, b_B80⟩ : ∃ (N : Nat) (L : List Pt), ac.tmps.getD 80 undef = .slice (some ⟨N, 0, none⟩) 2 2 ∧ W9.heap.size ≤ N ∧ PtsAre L [r1, r1] ∧ Blk w N 28 (ptsL L) := h.dep 80 (by kernel_rfl)
      refine ⟨wants_some (d := 75) rfl rfl (by rw [h.size]; show 75 < 132; decide) e75, 8, #[Value.slice (some ⟨B80, 0, none⟩) 2 2], Fg.run_call rfl rfl (by simp only [List.map_toArray, List.map_cons, List.map_nil, Act.eval, e80]) (Fg.run_enter Tryd.func8 (by kernel_rfl) (by kernel_rfl)), ?_⟩
      exact (edAddIs B80 2 LB80 [r1, r1] _ (HT.grown h.base) rfl (by decide) (by decide) ar_B80 b_B80).mono fun _ _ ⟨t, ht, he, hg⟩ => ⟨_, he, hg, ⟨t, rfl, ht⟩⟩
     refine Fg.cS rfl (by decide) (fun ac w h => ?_) ?_
     ·have e75 : _ = Value.bool false := h.d 75
      obtain ⟨t77, e77, is_t77⟩ : ∃ t : Pt, ac.tmps.getD 77 undef = t.v ∧ PtIs t (Ed.add r1 r1) := h.dep 77 (by kernel_rfl)
      obtain ⟨t81, e81, is_t81⟩ : ∃ t : Pt, ac.tmps.getD 81 undef = t.v ∧ PtIs t (sumPr [r1, r1]) := h.dep 81 (by kernel_rfl)
      refine ⟨wants_some (d := 75) rfl rfl (by rw [h.size]; show 75 < 132; decide) e75, 9, #[t77.v, t81.v], Fg.run_call rfl rfl (by simp only [List.map_toArray, List.map_cons, List.map_nil, Act.eval, e77, e81]) (Fg.run_enter Tryd.func9 (by kernel_rfl) (by kernel_rfl)), ?_⟩
      exact (edSameIs (b := true) _ is_t77 is_t81 (yes_of grp4)).mono fun _ _ ⟨he, hg⟩ => ⟨_, he, hg, rfl⟩
     refine Fg.vS rfl (by decide) (fun ac w h => ?_) ?_
     ·have e75 : _ = Value.bool false := h.d 75
      have e82 : _ = Value.bool true := h.d 82
      refine ⟨wants_some (d := 75) rfl rfl (by rw [h.size]; show 75 < 132; decide) e75, Value.bool false, w, ?_, gb_refl _ _, rfl⟩
      clear h
      simp only [execOp, Act.eval, e82]
      go_simp
     refine Fg.vS rfl (by decide) (fun ac w h => ?_) ?_
     ·have e75 : _ = Value.bool false := h.d 75
      have e83 : _ = Value.bool false := h.d 83
      refine ⟨wants_none rfl, Value.bool false, w, ?_, gb_refl _ _, rfl⟩
      clear h
      simp only [execOp, Act.eval, e75, e83]
      go_simp
     refine Fg.vS rfl (by decide) (fun ac w h => ?_) ?_
     ·have e84 : _ = Value.bool false := h.d 84
      exact Fg.vn (Value.bool false) (Fg.run_move rfl e84)
     refine Fg.vS rfl (by decide) (fun ac w h => ?_) ?_
     ·have e85 : _ = Value.bool false := h.d 85
      have e7 : _ = Value.pointer (some ⟨N7, 0, none⟩) := h.r 7
      exact Fg.vx t1.v (wants_some (d := 85) rfl rfl (by rw [h.size]; show 85 < 132; decide) e85) (Fg.run_load rfl e7 ((hb7.gn h.base).range 0 (ptL t1) rfl) Tryd.underlying28 rfl info_point)
     refine Fg.cS rfl (by decide) (fun ac w h => ?_) ?_
     ·have e85 : _ = Value.bool false := h.d 85
      refine ⟨wants_some (d := 85) rfl rfl (by rw [h.size]; show 85 < 132; decide) e85, 11, #[], Fg.run_call rfl rfl (by simp) (Fg.run_enter Tryd.func11 (by kernel_rfl) (by kernel_rfl)), ?_⟩
      exact (edZero _).mono fun _ _ ⟨he, hg⟩ => ⟨_, he, hg, rfl⟩
     refine Fg.vS rfl (by decide) (fun ac w h => ?_) ?_
     ·have e85 : _ = Value.bool false := h.d 85
      have e86 : _ = t1.v := h.d 86
      have e87 : _ = zeroP.v := h.d 87
      exact ⟨wants_some (d := 85) rfl rfl (by rw [h.size]; show 85 < 132; decide) e85, .slice (some ⟨w.heap.size, 0, none⟩) 2 2, w.alloc (.cells (ptsL [t1, zeroP]).toArray 28), Fg.run_buildSlice (vs := #[(0, t1.v), (1, zeroP.v)]) rfl (by simp only [List.map_toArray, List.map_cons, List.map_nil, Act.eval, e86, e87]) (by kernel_rfl), World.grownBy_alloc _ _ _, ⟨w.heap.size, _, rfl, h.base.size, (ptsAre_c ht1 (ptsAre_c zeroIs ptsAre_0)), Blk.new w (ptsL [t1, zeroP]) _⟩⟩
     refine Fg.cS rfl (by decide) (fun ac w h => ?_) ?_
     ·have e85 : _ = Value.bool false := h.d 85
      obtain ⟨B88, LB88, e88, hn88, ar_B88, b_B88⟩ : ∃ (N : Nat) (L : List Pt), ac.tmps.getD 88 undef = .slice (some ⟨N, 0, none⟩) 2 2 ∧ W9.heap.size ≤ N ∧ PtsAre L [r1, zero] ∧ Blk w N 28 (ptsL L) := h.dep 88 (by kernel_rfl)
      refine ⟨wants_some (d := 85) rfl rfl (by rw [h.size]; show 85 < 132; decide) e85, 8, #[Value.slice (some ⟨B88, 0, none⟩) 2 2], Fg.run_call rfl rfl (by simp only [List.map_toArray, List.map_cons, List.map_nil, Act.eval, e88]) (Fg.run_enter Tryd.func8 (by kernel_rfl) (by kernel_rfl)), ?_⟩
      exact (edAddIs B88 2 LB88 [r1, zero] _ (HT.grown h.base) rfl (by decide) (by decide) ar_B88 b_B88).mono fun _ _ ⟨t, ht, he, hg⟩ => ⟨_, he, hg, ⟨t, rfl, ht⟩⟩
     refine Fg.vS rfl (by decide) (fun ac w h => ?_) ?_
     ·have e85 : _ = Value.bool false := h.d 85
      have e7 : _ = Value.pointer (some ⟨N7, 0, none⟩) := h.r 7
      exact Fg.vx t1.v (wants_some (d := 85) rfl rfl (by rw [h.size]; show 85 < 132; decide) e85) (Fg.run_load rfl e7 ((hb7.gn h.base).range 0 (ptL t1) rfl) Tryd.underlying28 rfl info_point)
     refine Fg.cS rfl (by decide) (fun ac w h => ?_) ?_
     ·have e85 : _ = Value.bool false := h.d 85
      obtain ⟨t89, e89, is_t89⟩ : ∃ t : Pt, ac.tmps.getD 89 undef = t.v ∧ PtIs t (sumPr [r1, zero]) := h.dep 89 (by kernel_rfl)
      have e90 : _ = t1.v := h.d 90
      refine ⟨wants_some (d := 85) rfl rfl (by rw [h.size]; show 85 < 132; decide) e85, 9, #[t89.v, t1.v], Fg.run_call rfl rfl (by simp only [List.map_toArray, List.map_cons, List.map_nil, Act.eval, e89, e90]) (Fg.run_enter Tryd.func9 (by kernel_rfl) (by kernel_rfl)), ?_⟩
      exact (edSameIs (b := true) _ is_t89 ht1 (yes_of (grp5 ht1.on))).mono fun _ _ ⟨he, hg⟩ => ⟨_, he, hg, rfl⟩
     refine Fg.vS rfl (by decide) (fun ac w h => ?_) ?_
     ·have e85 : _ = Value.bool false := h.d 85
      have e91 : _ = Value.bool true := h.d 91
      refine ⟨wants_some (d := 85) rfl rfl (by rw [h.size]; show 85 < 132; decide) e85, Value.bool false, w, ?_, gb_refl _ _, rfl⟩
      clear h
      simp only [execOp, Act.eval, e91]
      go_simp
     refine Fg.vS rfl (by decide) (fun ac w h => ?_) ?_
     ·have e85 : _ = Value.bool false := h.d 85
      have e92 : _ = Value.bool false := h.d 92
      refine ⟨wants_none rfl, Value.bool false, w, ?_, gb_refl _ _, rfl⟩
      clear h
      simp only [execOp, Act.eval, e85, e92]
      go_simp
     trivial
    ·intro qa V10 g10 hsz hdf hrest hslots hpt
     obtain ⟨u55, hs55⟩ := Fg.slotv qa 55
     obtain ⟨u56, hs56⟩ := Fg.slotv qa 56
     obtain ⟨u57, hs57⟩ := Fg.slotv qa 57
     obtain ⟨u58, hs58⟩ := Fg.slotv qa 58
     obtain ⟨u59, hs59⟩ := Fg.slotv qa 59
     obtain ⟨u60, hs60⟩ := Fg.slotv qa 60
     obtain ⟨u61, hs61⟩ := Fg.slotv qa 61
     obtain ⟨u62, hs62⟩ := Fg.slotv qa 62
     obtain ⟨u63, hs63⟩ := Fg.slotv qa 63
     obtain ⟨u64, hs64⟩ := Fg.slotv qa 64
     obtain ⟨u65, hs65⟩ := Fg.slotv qa 65
     obtain ⟨u66, hs66⟩ := Fg.slotv qa 66
     obtain ⟨u67, hs67⟩ := Fg.slotv qa 67
     obtain ⟨u68, hs68⟩ := Fg.slotv qa 68
     obtain ⟨u69, hs69⟩ := Fg.slotv qa 69
     obtain ⟨u70, hs70⟩ := Fg.slotv qa 70
     obtain ⟨u71, hs71⟩ := Fg.slotv qa 71
     obtain ⟨u72, hs72⟩ := Fg.slotv qa 72
     obtain ⟨u73, hs73⟩ := Fg.slotv qa 73
     obtain ⟨u74, hs74⟩ := Fg.slotv qa 74
     obtain ⟨u75, hs75⟩ := Fg.slotv qa 75
     obtain ⟨u76, hs76⟩ := Fg.slotv qa 76
     obtain ⟨u77, hs77⟩ := Fg.slotv qa 77
     obtain ⟨u78, hs78⟩ := Fg.slotv qa 78
     obtain ⟨u79, hs79⟩ := Fg.slotv qa 79
     obtain ⟨u80, hs80⟩ := Fg.slotv qa 80
     obtain ⟨u81, hs81⟩ := Fg.slotv qa 81
     obtain ⟨u82, hs82⟩ := Fg.slotv qa 82
     obtain ⟨u83, hs83⟩ := Fg.slotv qa 83
     obtain ⟨u84, hs84⟩ := Fg.slotv qa 84
     obtain ⟨u85, hs85⟩ := Fg.slotv qa 85
     obtain ⟨u86, hs86⟩ := Fg.slotv qa 86
     obtain ⟨u87, hs87⟩ := Fg.slotv qa 87
     obtain ⟨u88, hs88⟩ := Fg.slotv qa 88
     obtain ⟨u89, hs89⟩ := Fg.slotv qa 89
     obtain ⟨u90, hs90⟩ := Fg.slotv qa 90
     obtain ⟨u91, hs91⟩ := Fg.slotv qa 91
     obtain ⟨u92, hs92⟩ := Fg.slotv qa 92
     obtain rfl := Fg.frame_by [55, 56, 57, 58, 59, 60, 61, 62, 63, 64, 65, 66, 67, 68, 69, 70, 71, 72, 73, 74, 75, 76, 77, 78, 79, 80, 81, 82, 83, 84, 85, 86, 87, 88, 89, 90, 91, 92, 93] (vs := [Value.slice a0 n0 c0, Value.slice a1 n1 c1, Value.slice a2 n2 c2, undef, undef, undef, Value.bool false, Value.pointer (some ⟨N7, 0, none⟩), Value.pointer (some ⟨N8, 0, none⟩), Value.pointer (some ⟨N9, 0, none⟩), Value.pointer (some ⟨N10, 0, none⟩), Value.pointer (some ⟨N11, 0, none⟩), Value.pointer (some ⟨N12, 0, none⟩), undef, undef, u15, u16, u17, u18, u19, u20, u21, u22, u23, u24, u25, u26, u27, u28, u29, u30, u31, u32, u33, u34, u35, u36, u37, u38, u39, u40, u41, t42.v, u43, u44, u45, u46, u47, u48, t49.v, u50, u51, u52, u53, t54.v, u55, u56, u57, u58, u59, u60, u61, u62, u63, u64, u65, u66, u67, u68, u69, u70, u71, u72, u73, u74, u75, u76, u77, u78, u79, u80, u81, u82, u83, u84, u85, u86, u87, u88, u89, u90, u91, u92, Value.bool false, undef, undef, undef, undef, undef, undef, undef, undef, undef, undef, undef, undef, undef, undef, undef, undef, undef, undef, undef, undef, undef, undef, undef, undef, undef, undef, undef, undef, undef, undef, undef, undef, undef, undef, undef, undef, undef, undef]) hsz hrest (by kernel_rfl) rfl rfl ⟨hs55, hs56, hs57, hs58, hs59, hs60, hs61, hs62, hs63, hs64, hs65, hs66, hs67, hs68, hs69, hs70, hs71, hs72, hs73, hs74, hs75, hs76, hs77, hs78, hs79, hs80, hs81, hs82, hs83, hs84, hs85, hs86, hs87, hs88, hs89, hs90, hs91, hs92, (show qa.tmps.getD 93 undef = Value.bool false from hslots 93 (by kernel_rfl)), trivial⟩ hdf
     clear hsz hdf hrest hslots hpt hs55 hs56 hs57 hs58 hs59 hs60 hs61 hs62 hs63 hs64 hs65 hs66 hs67 hs68 hs69 hs70 hs71 hs72 hs73 hs74 hs75 hs76 hs77 hs78 hs79 hs80 hs81 hs82 hs83 hs84 hs85 hs86 hs87 hs88 hs89 hs90 hs91 hs92
     replace hb7 := hb7.gn g10
     replace hb8 := hb8.gn g10
     replace hb9 := hb9.gn g10
     replace hb10 := hb10.gn g10
     replace hb11 := hb11.gn g10
     replace hb12 := hb12.gn g10
     replace G := gb_trans G g10
     replace HT := HT.grown g10
     clear g10
     obtain ⟨bb, hbb⟩ := bool_of (r1 = r2)
     go_upto_region 10 with (fail)
     have Gs10 := G.size
     have l8hb7 := hb7.lt
     have l8hb8 := hb8.lt
     have l8hb9 := hb9.lt
     have l8hb10 := hb10.lt
     have l8hb11 := hb11.lt
     have l8hb12 := hb12.lt
     refine Fg.rT [] [.any, .any, .any, .any, .any, .any, .any, .any, .any, .any, .any, .any, .any, .any, .any, .any, .any, .any, .any, .any, .any, .any, .any, .any, .any, .any, .any, .any, .any, .any, .any, .any, .any, .any, .any, .any, .any, .any, .any, .any, .any, .any, .any, .any, .any, .any, .any, .any, .any, .any, .any, .any, .any, .any, .any, .any, .any, .any, .any, .any, .any, .any, .any, .any, .any, .any, .any, .any, .any, .any, .any, .any, .any, .any, .any, .any, .any, .any, .any, .any, .any, .any, .any, .any, .any, .any, .any, .any, .any, .any, .any, .any, .any, .any, .val (t42.v), .val (Value.bool true), .val (Value.bool false), .val (Value.bool false), .val (t1.v), .stands (Ed.add r1 r1), .val (Value.bool true), .val (Value.bool false), .val (Value.bool false), .val (Value.bool false), .val (t2.v), .stands (Ed.neg r2), .val (Value.bool true), .val (Value.bool false), .val (Value.bool false), .val (Value.bool false), .val (t1.v), .val (t2.v), .val (Value.bool bb), .val (t1.v), .row 79 ((digL (enc r1)).map u8N) 32 V10.heap.size, .val (t2.v), .row 79 ((digL (enc r2)).map u8N) 32 V10.heap.size, .val (Value.bool bb), .val (Value.bool false), .val (Value.bool false)] 26 ?_ ?_
     ·refine Fg.vS rfl (by decide) (fun ac w h => ?_) ?_
      ·have e10 : _ = Value.pointer (some ⟨N10, 0, none⟩) := h.r 10
       exact Fg.vn t42.v (Fg.run_load rfl e10 ((hb10.gn h.base).range 0 (ptL t42) rfl) Tryd.underlying28 rfl info_point)
      refine Fg.cS rfl (by decide) (fun ac w h => ?_) ?_
      ·have e94 : _ = t42.v := h.d 94
       refine ⟨wants_none rfl, 13, #[t42.v], Fg.run_call rfl rfl (by simp only [List.map_toArray, List.map_cons, List.map_nil, Act.eval, e94]) (Fg.run_enter Tryd.func13 (by kernel_rfl) (by kernel_rfl)), ?_⟩
       exact (edOnIs _ (HT.grown h.base) is_t42).mono fun _ _ ⟨he, hg⟩ => ⟨_, he, hg, rfl⟩
      refine Fg.vS rfl (by decide) (fun ac w h => ?_) ?_
      ·have e95 : _ = Value.bool true := h.d 95
       refine ⟨wants_none rfl, Value.bool false, w, ?_, gb_refl _ _, rfl⟩
       clear h
       simp only [execOp, Act.eval, e95]
       go_simp
      refine Fg.vS rfl (by decide) (fun ac w h => ?_) ?_
      ·have e96 : _ = Value.bool false := h.d 96
       exact Fg.vn (Value.bool false) (Fg.run_move rfl e96)
      refine Fg.vS rfl (by decide) (fun ac w h => ?_) ?_
      ·have e97 : _ = Value.bool false := h.d 97
       have e7 : _ = Value.pointer (some ⟨N7, 0, none⟩) := h.r 7
       exact Fg.vx t1.v (wants_some (d := 97) rfl rfl (by rw [h.size]; show 97 < 132; decide) e97) (Fg.run_load rfl e7 ((hb7.gn h.base).range 0 (ptL t1) rfl) Tryd.underlying28 rfl info_point)
      refine Fg.cS rfl (by decide) (fun ac w h => ?_) ?_
      ·have e97 : _ = Value.bool false := h.d 97
       have e98 : _ = t1.v := h.d 98
       refine ⟨wants_some (d := 97) rfl rfl (by rw [h.size]; show 97 < 132; decide) e97, 12, #[t1.v], Fg.run_call rfl rfl (by simp only [List.map_toArray, List.map_cons, List.map_nil, Act.eval, e98]) (Fg.run_enter Tryd.func12 (by kernel_rfl) (by kernel_rfl)), ?_⟩
       exact (edDouble t1 r1 _ (HT.grown h.base) ht1).mono fun _ _ ⟨t, ht, he, hg⟩ => ⟨_, he, hg, ⟨t, rfl, ht⟩⟩
      refine Fg.cS rfl (by decide) (fun ac w h => ?_) ?_
      ·have e97 : _ = Value.bool false := h.d 97
       obtain ⟨t99, e99, is_t99⟩ : ∃ t : Pt, ac.tmps.getD 99 undef = t.v ∧ PtIs t (Ed.add r1 r1) := h.dep 99 (by kernel_rfl)
       refine ⟨wants_some (d := 97) rfl rfl (by rw [h.size]; show 97 < 132; decide) e97, 13, #[t99.v], Fg.run_call rfl rfl (by simp only [List.map_toArray, List.map_cons, List.map_nil, Act.eval, e99]) (Fg.run_enter Tryd.func13 (by kernel_rfl) (by kernel_rfl)), ?_⟩
       exact (edOnIs _ (HT.grown h.base) is_t99).mono fun _ _ ⟨he, hg⟩ => ⟨_, he, hg, rfl⟩
      refine Fg.vS rfl (by decide) (fun ac w h => ?_) ?_
      ·have e97 : _ = Value.bool false := h.d 97
       have e100 : _ = Value.bool true := h.d 100
       refine ⟨wants_some (d := 97) rfl rfl (by rw [h.size]; show 97 < 132; decide) e97, Value.bool false, w, ?_, gb_refl _ _, rfl⟩
       clear h
       simp only [execOp, Act.eval, e100]
       go_simp
      refine Fg.vS rfl (by decide) (fun ac w h => ?_) ?_
      ·have e97 : _ = Value.bool false := h.d 97
       have e101 : _ = Value.bool false := h.d 101
       refine ⟨wants_none rfl, Value.bool false, w, ?_, gb_refl _ _, rfl⟩
       clear h
       simp only [execOp, Act.eval, e97, e101]
       go_simp
      refine Fg.vS rfl (by decide) (fun ac w h => ?_) ?_
      ·have e102 : _ = Value.bool false := h.d 102
       exact Fg.vn (Value.bool false) (Fg.run_move rfl e102)
      refine Fg.vS rfl (by decide) (fun ac w h => ?_) ?_
      ·have e103 : _ = Value.bool false := h.d 103
       have e8 : _ = Value.pointer (some ⟨N8, 0, none⟩) := h.r 8
       exact Fg.vx t2.v (wants_some (d := 103) rfl rfl (by rw [h.size]; show 103 < 132; decide) e103) (Fg.run_load rfl e8 ((hb8.gn h.base).range 0 (ptL t2) rfl) Tryd.underlying28 rfl info_point)
      refine Fg.cS rfl (by decide) (fun ac w h => ?_) ?_
      ·have e103 : _ = Value.bool false := h.d 103
       have e104 : _ = t2.v := h.d 104
       refine ⟨wants_some (d := 103) rfl rfl (by rw [h.size]; show 103 < 132; decide) e103, 10, #[t2.v], Fg.run_call rfl rfl (by simp only [List.map_toArray, List.map_cons, List.map_nil, Act.eval, e104]) (Fg.run_enter Tryd.func10 (by kernel_rfl) (by kernel_rfl)), ?_⟩
       exact (edNeg t2 r2 _ (HT.grown h.base) ht2).mono fun _ _ ⟨t, ht, he, hg⟩ => ⟨_, he, hg, ⟨t, rfl, ht⟩⟩
      refine Fg.cS rfl (by decide) (fun ac w h => ?_) ?_
      ·have e103 : _ = Value.bool false := h.d 103
       obtain ⟨t105, e105, is_t105⟩ : ∃ t : Pt, ac.tmps.getD 105 undef = t.v ∧ PtIs t (Ed.neg r2) := h.dep 105 (by kernel_rfl)
       refine ⟨wants_some (d := 103) rfl rfl (by rw [h.size]; show 103 < 132; decide) e103, 13, #[t105.v], Fg.run_call rfl rfl (by simp only [List.map_toArray, List.map_cons, List.map_nil, Act.eval, e105]) (Fg.run_enter Tryd.func13 (by kernel_rfl) (by kernel_rfl)), ?_⟩
       exact (edOnIs _ (HT.grown h.base) is_t105).mono fun _ _ ⟨he, hg⟩ => ⟨_, he, hg, rfl⟩
      refine Fg.vS rfl (by decide) (fun ac w h => ?_) ?_
      ·have e103 : _ = Value.bool false := h.d 103
       have e106 : _ = Value.bool true := h.d 106
       refine ⟨wants_some (d := 103) rfl rfl (by rw [h.size]; show 103 < 132; decide) e103, Value.bool false, w, ?_, gb_refl _ _, rfl⟩
       clear h
       simp only [execOp, Act.eval, e106]
       go_simp
      refine Fg.vS rfl (by decide) (fun ac w h => ?_) ?_
      ·have e103 : _ = Value.bool false := h.d 103
       have e107 : _ = Value.bool false := h.d 107
       refine ⟨wants_none rfl, Value.bool false, w, ?_, gb_refl _ _, rfl⟩
       clear h
       simp only [execOp, Act.eval, e103, e107]
       go_simp
      refine Fg.vS rfl (by decide) (fun ac w h => ?_) ?_
      ·have e108 : _ = Value.bool false := h.d 108
       exact Fg.vn (Value.bool false) (Fg.run_move rfl e108)
      refine Fg.vS rfl (by decide) (fun ac w h => ?_) ?_
      ·have e109 : _ = Value.bool false := h.d 109
       have e7 : _ = Value.pointer (some ⟨N7, 0, none⟩) := h.r 7
       exact Fg.vx t1.v (wants_some (d := 109) rfl rfl (by rw [h.size]; show 109 < 132; decide) e109) (Fg.run_load rfl e7 ((hb7.gn h.base).range 0 (ptL t1) rfl) Tryd.underlying28 rfl info_point)
      refine Fg.vS rfl (by decide) (fun ac w h => ?_) ?_
      ·have e109 : _ = Value.bool false := h.d 109
       have e8 : _ = Value.pointer (some ⟨N8, 0, none⟩) := h.r 8
       exact Fg.vx t2.v (wants_some (d := 109) rfl rfl (by rw [h.size]; show 109 < 132; decide) e109) (Fg.run_load rfl e8 ((hb8.gn h.base).range 0 (ptL t2) rfl) Tryd.underlying28 rfl info_point)
      refine Fg.cS rfl (by decide) (fun ac w h => ?_) ?_
      ·have e109 : _ = Value.bool false := h.d 109
       have e110 : _ = t1.v := h.d 110
       have e111 : _ = t2.v := h.d 111
       refine ⟨wants_some (d := 109) rfl rfl (by rw [h.size]; show 109 < 132; decide) e109, 9, #[t1.v, t2.v], Fg.run_call rfl rfl (by simp only [List.map_toArray, List.map_cons, List.map_nil, Act.eval, e110, e111]) (Fg.run_enter Tryd.func9 (by kernel_rfl) (by kernel_rfl)), ?_⟩
       exact (edSameIs (b := bb) _ ht1 ht2 hbb).mono fun _ _ ⟨he, hg⟩ => ⟨_, he, hg, rfl⟩
      refine Fg.vS rfl (by decide) (fun ac w h => ?_) ?_
      ·have e109 : _ = Value.bool false := h.d 109
       have e7 : _ = Value.pointer (some ⟨N7, 0, none⟩) := h.r 7
       exact Fg.vx t1.v (wants_some (d := 109) rfl rfl (by rw [h.size]; show 109 < 132; decide) e109) (Fg.run_load rfl e7 ((hb7.gn h.base).range 0 (ptL t1) rfl) Tryd.underlying28 rfl info_point)
      refine Fg.cS rfl (by decide) (fun ac w h => ?_) ?_
      ·have e109 : _ = Value.bool false := h.d 109
       have e113 : _ = t1.v := h.d 113
       refine ⟨wants_some (d := 109) rfl rfl (by rw [h.size]; show 109 < 132; decide) e109, 15, #[t1.v], Fg.run_call rfl rfl (by simp only [List.map_toArray, List.map_cons, List.map_nil, Act.eval, e113]) (Fg.run_enter Tryd.func15 (by kernel_rfl) (by kernel_rfl)), ?_⟩
       exact (edPutL _ ht1).mono fun _ _ ⟨NB, he, hg, hn, hb⟩ => ⟨_, he, hg, ⟨NB, rfl, Nat.le_trans h.base.size hn, hb⟩⟩
      refine Fg.vS rfl (by decide) (fun ac w h => ?_) ?_
      ·have e109 : _ = Value.bool false := h.d 109
       have e8 : _ = Value.pointer (some ⟨N8, 0, none⟩) := h.r 8
       exact Fg.vx t2.v (wants_some (d := 109) rfl rfl (by rw [h.size]; show 109 < 132; decide) e109) (Fg.run_load rfl e8 ((hb8.gn h.base).range 0 (ptL t2) rfl) Tryd.underlying28 rfl info_point)
      refine Fg.cS rfl (by decide) (fun ac w h => ?_) ?_
      ·have e109 : _ = Value.bool false := h.d 109
       have e115 : _ = t2.v := h.d 115
       refine ⟨wants_some (d := 109) rfl rfl (by rw [h.size]; show 109 < 132; decide) e109, 15, #[t2.v], Fg.run_call rfl rfl (by simp only [List.map_toArray, List.map_cons, List.map_nil, Act.eval, e115]) (Fg.run_enter Tryd.func15 (by kernel_rfl) (by kernel_rfl)), ?_⟩
       exact (edPutL _ ht2).mono fun _ _ ⟨NB, he, hg, hn, hb⟩ => ⟨_, he, hg, ⟨NB, rfl, Nat.le_trans h.base.size hn, hb⟩⟩
      refine Fg.cS rfl (by decide) (fun ac w h => ?_) ?_
      ·have e109 : _ = Value.bool false := h.d 109
       obtain ⟨B114, e114, hn114, b114⟩ : ∃ N, ac.tmps.getD 114 undef = .slice (some ⟨N, 0, none⟩) 32 32 ∧ V10.heap.size ≤ N ∧ Blk w N 79 ((digL (enc r1)).map u8N) := h.dep 114 (by kernel_rfl)
       obtain ⟨B116, e116, hn116, b116⟩ : ∃ N, ac.tmps.getD 116 undef = .slice (some ⟨N, 0, none⟩) 32 32 ∧ V10.heap.size ≤ N ∧ Blk w N 79 ((digL (enc r2)).map u8N) := h.dep 116 (by kernel_rfl)
       refine ⟨wants_some (d := 109) rfl rfl (by rw [h.size]; show 109 < 132; decide) e109, 14, #[Value.slice (some ⟨B114, 0, none⟩) 32 32, Value.slice (some ⟨B116, 0, none⟩) 32 32], Fg.run_call rfl rfl (by simp only [List.map_toArray, List.map_cons, List.map_nil, Act.eval, e114, e116]) (Fg.run_enter Tryd.func14 (by kernel_rfl) (by kernel_rfl)), ?_⟩
       exact (sameL B114 B116 r1 r2 bb _ ht1.on ht2.on hbb b114 b116).mono fun _ _ ⟨he, hg⟩ => ⟨_, he, hg, rfl⟩
      refine Fg.vS rfl (by decide) (fun ac w h => ?_) ?_
      ·have e109 : _ = Value.bool false := h.d 109
       have e112 : _ = Value.bool bb := h.d 112
       have e117 : _ = Value.bool bb := h.d 117
       exact Fg.vx (Value.bool false) (wants_some (d := 109) rfl rfl (by rw [h.size]; show 109 < 132; decide) e109) (run_neq_same rfl e112 e117)
      refine Fg.vS rfl (by decide) (fun ac w h => ?_) ?_
      ·have e109 : _ = Value.bool false := h.d 109
       have e118 : _ = Value.bool false := h.d 118
       refine ⟨wants_none rfl, Value.bool false, w, ?_, gb_refl _ _, rfl⟩
       clear h
       simp only [execOp, Act.eval, e109, e118]
       go_simp
      trivial
     ·intro qa V11 g11 hsz hdf hrest hslots hpt
      obtain ⟨u94, hs94⟩ := Fg.slotv qa 94
      obtain ⟨u95, hs95⟩ := Fg.slotv qa 95
      obtain ⟨u96, hs96⟩ := Fg.slotv qa 96
      obtain ⟨u97, hs97⟩ := Fg.slotv qa 97
      obtain ⟨u98, hs98⟩ := Fg.slotv qa 98
      obtain ⟨u99, hs99⟩ := Fg.slotv qa 99
      obtain ⟨u100, hs100⟩ := Fg.slotv qa 100
      obtain ⟨u101, hs101⟩ := Fg.slotv qa 101
      obtain ⟨u102, hs102⟩ := Fg.slotv qa 102
      obtain ⟨u103, hs103⟩ := Fg.slotv qa 103
      obtain ⟨u104, hs104⟩ := Fg.slotv qa 104
      obtain ⟨u105, hs105⟩ := Fg.slotv qa 105
      obtain ⟨u106, hs106⟩ := Fg.slotv qa 106
      obtain ⟨u107, hs107⟩ := Fg.slotv qa 107
      obtain ⟨u108, hs108⟩ := Fg.slotv qa 108
      obtain ⟨u109, hs109⟩ := Fg.slotv qa 109
      obtain ⟨u110, hs110⟩ := Fg.slotv qa 110
      obtain ⟨u111, hs111⟩ := Fg.slotv qa 111
      obtain ⟨u112, hs112⟩ := Fg.slotv qa 112
      obtain ⟨u113, hs113⟩ := Fg.slotv qa 113
      obtain ⟨u114, hs114⟩ := Fg.slotv qa 114
      obtain ⟨u115, hs115⟩ := Fg.slotv qa 115
      obtain ⟨u116, hs116⟩ := Fg.slotv qa 116
      obtain ⟨u117, hs117⟩ := Fg.slotv qa 117
      obtain ⟨u118, hs118⟩ := Fg.slotv qa 118
      obtain rfl := Fg.frame_by [94, 95, 96, 97, 98, 99, 100, 101, 102, 103, 104, 105, 106, 107, 108, 109, 110, 111, 112, 113, 114, 115, 116, 117, 118, 119] (vs := [Value.slice a0 n0 c0, Value.slice a1 n1 c1, Value.slice a2 n2 c2, undef, undef, undef, Value.bool false, Value.pointer (some ⟨N7, 0, none⟩), Value.pointer (some ⟨N8, 0, none⟩), Value.pointer (some ⟨N9, 0, none⟩), Value.pointer (some ⟨N10, 0, none⟩), Value.pointer (some ⟨N11, 0, none⟩), Value.pointer (some ⟨N12, 0, none⟩), undef, undef, u15, u16, u17, u18, u19, u20, u21, u22, u23, u24, u25, u26, u27, u28, u29, u30, u31, u32, u33, u34, u35, u36, u37, u38, u39, u40, u41, t42.v, u43, u44, u45, u46, u47, u48, t49.v, u50, u51, u52, u53, t54.v, u55, u56, u57, u58, u59, u60, u61, u62, u63, u64, u65, u66, u67, u68, u69, u70, u71, u72, u73, u74, u75, u76, u77, u78, u79, u80, u81, u82, u83, u84, u85, u86, u87, u88, u89, u90, u91, u92, Value.bool false, u94, u95, u96, u97, u98, u99, u100, u101, u102, u103, u104, u105, u106, u107, u108, u109, u110, u111, u112, u113, u114, u115, u116, u117, u118, Value.bool false, undef, undef, undef, undef, undef, undef, undef, undef, undef, undef, undef, undef]) hsz hrest (by kernel_rfl) rfl rfl ⟨hs94, hs95, hs96, hs97, hs98, hs99, hs100, hs101, hs102, hs103, hs104, hs105, hs106, hs107, hs108, hs109, hs110, hs111, hs112, hs113, hs114, hs115, hs116, hs117, hs118, (show qa.tmps.getD 119 undef = Value.bool false from hslots 119 (by kernel_rfl)), trivial⟩ hdf
      clear hsz hdf hrest hslots hpt hs94 hs95 hs96 hs97 hs98 hs99 hs100 hs101 hs102 hs103 hs104 hs105 hs106 hs107 hs108 hs109 hs110 hs111 hs112 hs113 hs114 hs115 hs116 hs117 hs118
      replace hb7 := hb7.gn g11
      replace hb8 := hb8.gn g11
      replace hb9 := hb9.gn g11
      replace hb10 := hb10.gn g11
      replace hb11 := hb11.gn g11
      replace hb12 := hb12.gn g11
      replace G := gb_trans G g11
      replace HT := HT.grown g11
      clear g11
      go_upto_region 12 with (fail)
      have Gs11 := G.size
      have l9hb7 := hb7.lt
      have l9hb8 := hb8.lt
      have l9hb9 := hb9.lt
      have l9hb10 := hb10.lt
      have l9hb11 := hb11.lt
      have l9hb12 := hb12.lt
      refine Fg.rP [] [.any, .any, .any, .any, .any, .any, .any, .any, .any, .any, .any, .any, .any, .any, .any, .any, .any, .any, .any, .any, .any, .any, .any, .any, .any, .any, .any, .any, .any, .any, .any, .any, .any, .any, .any, .any, .any, .any, .any, .any, .any, .any, .any, .any, .any, .any, .any, .any, .any, .any, .any, .any, .any, .any, .any, .any, .any, .any, .any, .any, .any, .any, .any, .any, .any, .any, .any, .any, .any, .any, .any, .any, .any, .any, .any, .any, .any, .any, .any, .any, .any, .any, .any, .any, .any, .any, .any, .any, .any, .any, .any, .any, .any, .any, .any, .any, .any, .any, .any, .any, .any, .any, .any, .any, .any, .any, .any, .any, .any, .any, .any, .any, .any, .any, .any, .any, .any, .any, .any, .any, .any, .val (t42.v), .row 79 ((digL (enc (sumPr [sumPr [r1, r2], r3]))).map u8N) 32 V11.heap.size] 2 ?_ ?_
      ·refine Fg.vS rfl (by decide) (fun ac w h => ?_) ?_
       ·have e10 : _ = Value.pointer (some ⟨N10, 0, none⟩) := h.r 10
        exact Fg.vn t42.v (Fg.run_load rfl e10 ((hb10.gn h.base).range 0 (ptL t42) rfl) Tryd.underlying28 rfl info_point)
       refine Fg.cS rfl (by decide) (fun ac w h => ?_) ?_
       ·have e121 : _ = t42.v := h.d 121
        refine ⟨wants_none rfl, 15, #[t42.v], Fg.run_call rfl rfl (by simp only [List.map_toArray, List.map_cons, List.map_nil, Act.eval, e121]) (Fg.run_enter Tryd.func15 (by kernel_rfl) (by kernel_rfl)), ?_⟩
        exact (edPutL _ is_t42).mono fun _ _ ⟨NB, he, hg, hn, hb⟩ => ⟨_, he, hg, ⟨NB, rfl, Nat.le_trans h.base.size hn, hb⟩⟩
       trivial
      ·intro qa V12 g12 hsz hdf hrest hslots hpt
       obtain ⟨u121, hs121⟩ := Fg.slotv qa 121
       obtain ⟨N122, hs122, hn122, hb122⟩ : ∃ N, qa.tmps.getD 122 undef = .slice (some ⟨N, 0, none⟩) 32 32 ∧ V11.heap.size ≤ N ∧ Blk V12 N 79 ((digL (enc (sumPr [sumPr [r1, r2], r3]))).map u8N) := hslots 122 (by kernel_rfl)
       obtain rfl := Fg.frame_by [121, 122] (vs := [Value.slice a0 n0 c0, Value.slice a1 n1 c1, Value.slice a2 n2 c2, undef, undef, undef, Value.bool false, Value.pointer (some ⟨N7, 0, none⟩), Value.pointer (some ⟨N8, 0, none⟩), Value.pointer (some ⟨N9, 0, none⟩), Value.pointer (some ⟨N10, 0, none⟩), Value.pointer (some ⟨N11, 0, none⟩), Value.pointer (some ⟨N12, 0, none⟩), undef, undef, u15, u16, u17, u18, u19, u20, u21, u22, u23, u24, u25, u26, u27, u28, u29, u30, u31, u32, u33, u34, u35, u36, u37, u38, u39, u40, u41, t42.v, u43, u44, u45, u46, u47, u48, t49.v, u50, u51, u52, u53, t54.v, u55, u56, u57, u58, u59, u60, u61, u62, u63, u64, u65, u66, u67, u68, u69, u70, u71, u72, u73, u74, u75, u76, u77, u78, u79, u80, u81, u82, u83, u84, u85, u86, u87, u88, u89, u90, u91, u92, Value.bool false, u94, u95, u96, u97, u98, u99, u100, u101, u102, u103, u104, u105, u106, u107, u108, u109, u110, u111, u112, u113, u114, u115, u116, u117, u118, Value.bool false, undef, u121, Value.slice (some ⟨N122, 0, none⟩) 32 32, undef, undef, undef, undef, undef, undef, undef, undef, undef]) hsz hrest (by kernel_rfl) rfl rfl ⟨hs121, hs122, trivial⟩ hdf
       clear hsz hdf hrest hslots hpt hs121 hs122
       replace hb7 := hb7.gn g12
       replace hb8 := hb8.gn g12
       replace hb9 := hb9.gn g12
       replace hb10 := hb10.gn g12
       replace hb11 := hb11.gn g12
       replace hb12 := hb12.gn g12
       replace G := gb_trans G g12
       replace HT := HT.grown g12
       have hw122 : w0.heap.size ≤ N122 := Nat.le_trans Gs11 hn122
       clear g12
       have hBA : BytesAt V12 V12.heap.size (some ⟨N122, 0, none⟩) 32 (digL (enc (sumPr [sumPr [r1, r2], r3]))) := blk_bytes (tl := []) (by rw [List.append_nil]; exact hb122) (digL_len _) (Nat.le_refl _) (by decide) (digL_lt _) hb122.lt (Nat.le_refl _)
       refine Fg.wpl_call rfl (Fg.run_call (vs := #[.slice (some ⟨N122, 0, none⟩) 32 32]) rfl rfl (by simp only [List.map_toArray, List.map_cons, List.map_nil, Act.eval]; rfl) (Fg.run_enter Tryd.func16 (by kernel_rfl) (by kernel_rfl))) ?_
       refine (edGet _ 32 32 (some ⟨N122, 0, none⟩) (digL (enc (sumPr [sumPr [r1, r2], r3]))) V12 HT (digL_len _) (by decide) hBA).mono ?_
       rintro e A9 hgo
       obtain ⟨t9, ht9, rfl, ga⟩ := get_enc is_t42.on hgo
       refine ⟨_, rfl, ?_⟩
       clear hgo hBA
       replace hb7 := hb7.gn ga
       replace hb8 := hb8.gn ga
       replace hb9 := hb9.gn ga
       replace hb10 := hb10.gn ga
       replace hb11 := hb11.gn ga
       replace hb12 := hb12.gn ga
       replace hb122 := hb122.gn ga
       replace G := gb_trans G ga
       replace HT := HT.grown ga
       clear ga
       simp only [Act.put, List.setIfInBounds_toArray, List.set_cons_succ, List.set_cons_zero]
       refine Fg.wpl_value (v := .tuple #[t9.v, .bool true]) (w' := A9) rfl (Fg.run_move rfl rfl) ?_
       simp only [Act.put, List.setIfInBounds_toArray, List.set_cons_succ, List.set_cons_zero]
       refine Fg.wpl_value (v := t9.v) (w' := A9) rfl (Fg.run_extract rfl rfl rfl) ?_
       simp only [Act.put, List.setIfInBounds_toArray, List.set_cons_succ, List.set_cons_zero]
       refine Fg.wpl_value (v := .bool true) (w' := A9) rfl (Fg.run_extract rfl rfl rfl) ?_
       simp only [Act.put, List.setIfInBounds_toArray, List.set_cons_succ, List.set_cons_zero]
       refine Fg.wpl_value (v := .pointer (some ⟨A9.heap.size, 0, none⟩)) (w' := A9.alloc (.cells zr20.toArray 28)) rfl (by go_simp) ?_
       simp only [Act.put, List.setIfInBounds_toArray, List.set_cons_succ, List.set_cons_zero]
       have hw13 : w0.heap.size ≤ A9.heap.size := G.size
       have hb13 := Blk.new A9 zr20 28
       have l10hb7 := hb7.lt
       have l10hb8 := hb8.lt
       have l10hb9 := hb9.lt
       have l10hb10 := hb10.lt
       have l10hb11 := hb11.lt
       have l10hb12 := hb12.lt
       have l10hb122 := hb122.lt
       have ga13 := gb_alloc (gb_refl A9 none) (.cells zr20.toArray 28)
       replace hb7 := hb7.gn ga13
       replace hb8 := hb8.gn ga13
       replace hb9 := hb9.gn ga13
       replace hb10 := hb10.gn ga13
       replace hb11 := hb11.gn ga13
       replace hb12 := hb12.gn ga13
       replace hb122 := hb122.gn ga13
       replace G := gb_trans G ga13
       replace HT := HT.grown ga13
       clear ga13
       obtain ⟨N13, hN13⟩ : ∃ x, x = A9.heap.size := ⟨_, rfl⟩
       rw [← hN13] at hb13 hw13 ⊢
       rw [← hN13] at l10hb7 l10hb8 l10hb9 l10hb10 l10hb11 l10hb12 l10hb122
       revert hb7 hb8 hb9 hb10 hb11 hb12 hb122 G HT hb13
       generalize (A9.alloc (.cells zr20.toArray 28)) = E9
       intro hb7 hb8 hb9 hb10 hb11 hb12 hb122 G HT hb13
       clear hN13
       refine Fg.wpl_skip rfl rfl (Fg.run_store (cs := ptL t9) rfl rfl rfl (hb13.there 0 20 (by show 0 + 20 ≤ 20; decide)) info_point (ptL_one _)) ?_
       replace hb7 := hb7.setCells_other (C := N13) (cs := ptL t9) 0 (by omega)
       replace hb8 := hb8.setCells_other (C := N13) (cs := ptL t9) 0 (by omega)
       replace hb9 := hb9.setCells_other (C := N13) (cs := ptL t9) 0 (by omega)
       replace hb10 := hb10.setCells_other (C := N13) (cs := ptL t9) 0 (by omega)
       replace hb11 := hb11.setCells_other (C := N13) (cs := ptL t9) 0 (by omega)
       replace hb12 := hb12.setCells_other (C := N13) (cs := ptL t9) 0 (by omega)
       replace hb122 := hb122.setCells_other (C := N13) (cs := ptL t9) 0 (by omega)
       replace hb13 : Blk (E9.setCells N13 0 (ptL t9)) N13 28 (ptL t9) := hb13.setAll rfl
       replace G := gb_setCells_new (cs := ptL t9) G (B := N13) (hw13) 0
       replace HT := HT.keep (gb_setCells (cs := ptL t9) (gb_refl _ (some N13)) 0) (HT0.noG (hw13))
       revert hb7 hb8 hb9 hb10 hb11 hb12 hb122 hb13 G HT
       generalize E9.setCells N13 0 (ptL t9) = W13
       intro hb7 hb8 hb9 hb10 hb11 hb12 hb122 hb13 G HT
       refine Fg.wpl_value (v := .bool true) (w' := W13) rfl (Fg.run_assign rfl rfl) ?_
       refine wpList_nil ?_
       simp only [Act.put, List.setIfInBounds_toArray, List.set_cons_succ, List.set_cons_zero]
       go_upto_region 13 with (fail)
       have Gs13 := G.size
       have l11hb7 := hb7.lt
       have l11hb8 := hb8.lt
       have l11hb9 := hb9.lt
       have l11hb10 := hb10.lt
       have l11hb11 := hb11.lt
       have l11hb12 := hb12.lt
       have l11hb122 := hb122.lt
       have l11hb13 := hb13.lt
       refine Fg.rP [] [.any, .any, .any, .any, .any, .any, .val (Value.bool true), .any, .any, .any, .any, .any, .any, .any, .any, .any, .any, .any, .any, .any, .any, .any, .any, .any, .any, .any, .any, .any, .any, .any, .any, .any, .any, .any, .any, .any, .any, .any, .any, .any, .any, .any, .any, .any, .any, .any, .any, .any, .any, .any, .any, .any, .any, .any, .any, .any, .any, .any, .any, .any, .any, .any, .any, .any, .any, .any, .any, .any, .any, .any, .any, .any, .any, .any, .any, .any, .any, .any, .any, .any, .any, .any, .any, .any, .any, .any, .any, .any, .any, .any, .any, .any, .any, .any, .any, .any, .any, .any, .any, .any, .any, .any, .any, .any, .any, .any, .any, .any, .any, .any, .any, .any, .any, .any, .any, .any, .any, .any, .any, .any, .any, .any, .any, .any, .any, .any, .val (Value.bool true), .val (Value.bool true), .val (t9.v), .val (t42.v), .val (Value.bool true), .val (Value.bool true)] 7 ?_ ?_
       ·refine Fg.vS rfl (by decide) (fun ac w h => ?_) ?_
        ·have e14 : _ = Value.bool true := h.r 14
         exact Fg.vn (Value.bool true) (Fg.run_move rfl e14)
        refine Fg.vS rfl (by decide) (fun ac w h => ?_) ?_
        ·have e126 : _ = Value.bool true := h.d 126
         exact Fg.vn (Value.bool true) (Fg.run_move rfl e126)
        refine Fg.vS rfl (by decide) (fun ac w h => ?_) ?_
        ·have e127 : _ = Value.bool true := h.d 127
         have e13 : _ = Value.pointer (some ⟨N13, 0, none⟩) := h.r 13
         exact Fg.vx t9.v (wants_some (d := 127) rfl rfl (by rw [h.size]; show 127 < 132; decide) e127) (Fg.run_load rfl e13 ((hb13.gn h.base).range 0 (ptL t9) rfl) Tryd.underlying28 rfl info_point)
        refine Fg.vS rfl (by decide) (fun ac w h => ?_) ?_
        ·have e127 : _ = Value.bool true := h.d 127
         have e10 : _ = Value.pointer (some ⟨N10, 0, none⟩) := h.r 10
         exact Fg.vx t42.v (wants_some (d := 127) rfl rfl (by rw [h.size]; show 127 < 132; decide) e127) (Fg.run_load rfl e10 ((hb10.gn h.base).range 0 (ptL t42) rfl) Tryd.underlying28 rfl info_point)
        refine Fg.cS rfl (by decide) (fun ac w h => ?_) ?_
        ·have e127 : _ = Value.bool true := h.d 127
         have e128 : _ = t9.v := h.d 128
         have e129 : _ = t42.v := h.d 129
         refine ⟨wants_some (d := 127) rfl rfl (by rw [h.size]; show 127 < 132; decide) e127, 9, #[t9.v, t42.v], Fg.run_call rfl rfl (by simp only [List.map_toArray, List.map_cons, List.map_nil, Act.eval, e128, e129]) (Fg.run_enter Tryd.func9 (by kernel_rfl) (by kernel_rfl)), ?_⟩
         exact (edSameIs (b := true) _ ht9 is_t42 (yes_of rfl)).mono fun _ _ ⟨he, hg⟩ => ⟨_, he, hg, rfl⟩
        refine Fg.vS rfl (by decide) (fun ac w h => ?_) ?_
        ·have e127 : _ = Value.bool true := h.d 127
         have e130 : _ = Value.bool true := h.d 130
         refine ⟨wants_none rfl, Value.bool true, w, ?_, gb_refl _ _, rfl⟩
         clear h
         simp only [execOp, Act.eval, e127, e130]
         go_simp
        refine Fg.vS rfl (by decide) (fun ac w h => ?_) ?_
        ·have e131 : _ = Value.bool true := h.d 131
         exact Fg.vn (Value.bool true) (Fg.run_assign rfl e131)
        trivial
       ·intro qa V14 g14 hsz hdf hrest hslots hpt
        obtain ⟨u120, hs120⟩ := Fg.slotv qa 120
        obtain ⟨u121, hs121⟩ := Fg.slotv qa 121
        obtain ⟨u122, hs122⟩ := Fg.slotv qa 122
        obtain ⟨u123, hs123⟩ := Fg.slotv qa 123
        obtain ⟨u124, hs124⟩ := Fg.slotv qa 124
        obtain ⟨u125, hs125⟩ := Fg.slotv qa 125
        obtain ⟨u126, hs126⟩ := Fg.slotv qa 126
        obtain ⟨u127, hs127⟩ := Fg.slotv qa 127
        obtain ⟨u128, hs128⟩ := Fg.slotv qa 128
        obtain ⟨u129, hs129⟩ := Fg.slotv qa 129
        obtain ⟨u130, hs130⟩ := Fg.slotv qa 130
        obtain ⟨u131, hs131⟩ := Fg.slotv qa 131
        obtain rfl := Fg.frame_by [6, 120, 121, 122, 123, 124, 125, 126, 127, 128, 129, 130, 131] (vs := [Value.slice a0 n0 c0, Value.slice a1 n1 c1, Value.slice a2 n2 c2, undef, undef, undef, Value.bool true, Value.pointer (some ⟨N7, 0, none⟩), Value.pointer (some ⟨N8, 0, none⟩), Value.pointer (some ⟨N9, 0, none⟩), Value.pointer (some ⟨N10, 0, none⟩), Value.pointer (some ⟨N11, 0, none⟩), Value.pointer (some ⟨N12, 0, none⟩), Value.pointer (some ⟨N13, 0, none⟩), Value.bool true, u15, u16, u17, u18, u19, u20, u21, u22, u23, u24, u25, u26, u27, u28, u29, u30, u31, u32, u33, u34, u35, u36, u37, u38, u39, u40, u41, t42.v, u43, u44, u45, u46, u47, u48, t49.v, u50, u51, u52, u53, t54.v, u55, u56, u57, u58, u59, u60, u61, u62, u63, u64, u65, u66, u67, u68, u69, u70, u71, u72, u73, u74, u75, u76, u77, u78, u79, u80, u81, u82, u83, u84, u85, u86, u87, u88, u89, u90, u91, u92, Value.bool false, u94, u95, u96, u97, u98, u99, u100, u101, u102, u103, u104, u105, u106, u107, u108, u109, u110, u111, u112, u113, u114, u115, u116, u117, u118, Value.bool false, u120, u121, u122, u123, u124, u125, u126, u127, u128, u129, u130, u131]) hsz hrest (by kernel_rfl) rfl rfl ⟨(show qa.tmps.getD 6 undef = Value.bool true from hslots 6 (by kernel_rfl)), hs120, hs121, hs122, hs123, hs124, hs125, hs126, hs127, hs128, hs129, hs130, hs131, trivial⟩ hdf
        clear hsz hdf hrest hslots hpt hs120 hs121 hs122 hs123 hs124 hs125 hs126 hs127 hs128 hs129 hs130 hs131
        replace hb7 := hb7.gn g14
        replace hb8 := hb8.gn g14
        replace hb9 := hb9.gn g14
        replace hb10 := hb10.gn g14
        replace hb11 := hb11.gn g14
        replace hb12 := hb12.gn g14
        replace hb122 := hb122.gn g14
        replace hb13 := hb13.gn g14
        replace G := gb_trans G g14
        replace HT := HT.grown g14
        clear g14
        go_wp2_with fail
        go_ret
        exact ⟨rfl, G⟩

end Go.Proofs.YtleegbaigedebaaDoor
