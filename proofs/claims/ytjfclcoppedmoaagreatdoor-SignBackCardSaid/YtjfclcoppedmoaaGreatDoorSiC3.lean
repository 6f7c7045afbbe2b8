/- texts merged -/
import Derived.Test.YtjfclcoppedmoaaGreatDoorSiC2
import Derived.Test.YtjfclcoppedmoaaGreatDoorSiC1
import Derived.Shelf.Bytes.SlEqualAll
import Derived.WalkKit
import Derived.WalkSpells
import Derived.WalkLawsBesides
import Derived.Lib.Hide
import Derived.Lib.SliceRun
import Derived.Outline
import Derived.BigQuiet
import Derived.Deep.QuietTactic
import Derived.BigRegion
import Derived.RegionTactic
import Derived.Deep.RegionWith
import Derived.RangeFuncNested
import Derived.RangeFuncBound
import Derived.RangeFuncCalls
import Derived.RangeFuncLeaves
import Derived.RangeFuncBox
import Derived.Shelf.Abstract
import Derived.Shelf.RegionOpen
import Derived.OwnWalkIn
import Derived.TacticsInMore
import Derived.LoopNIn
import Derived.LoopIn
namespace Go.Proofs.YtjfclcoppedmoaaGreatDoor
section
open Go.RowKit Ed
def acrossF (y : Fe) (odd : Bool) : Fe × Bool :=
 if (rootF (Fe.subF (Fe.sqF y) Fe.oneF) (Fe.addF (Fe.mulF dF (Fe.sqF y)) Fe.oneF)).2 = false then ((rootF (Fe.subF (Fe.sqF y) Fe.oneF) (Fe.addF (Fe.mulF dF (Fe.sqF y)) Fe.oneF)).1, false)
 else if odd = false then ((rootF (Fe.subF (Fe.sqF y) Fe.oneF) (Fe.addF (Fe.mulF dF (Fe.sqF y)) Fe.oneF)).1, true)
 else if Fe.m (rootF (Fe.subF (Fe.sqF y) Fe.oneF) (Fe.addF (Fe.mulF dF (Fe.sqF y)) Fe.oneF)).1 = 0 then (Fe.zeroF, false)
 else (Fe.negF (rootF (Fe.subF (Fe.sqF y) Fe.oneF) (Fe.addF (Fe.mulF dF (Fe.sqF y)) Fe.oneF)).1, true)
def acR (r : Fe) (b odd : Bool) : Fe × Bool := if b = false then (r, false) else if odd = false then (r, true) else if Fe.m r = 0 then (Fe.zeroF, false) else (Fe.negF r, true)
theorem acR_z {r : Fe} (h : Fe.m r = 0) : acR r true true = (Fe.zeroF, false) := by simp [acR, h]
theorem acR_n {r : Fe} (h : ¬ Fe.m r = 0) : acR r true true = (Fe.negF r, true) := by simp [acR, h]
set_option maxRecDepth 100000 in
set_option maxHeartbeats 3200000 in
theorem across_all (y : Fe) (odd : Bool) (w0 : World) (HT0 : ETab w0) (oky : y.Ok) (r : Fe) (b : Bool) (okr : r.Ok) (hr : rootF (Fe.subF (Fe.sqF y) Fe.oneF) (Fe.addF (Fe.mulF dF (Fe.sqF y)) Fe.oneF) = (r, b)) :
  Calls Tryz.prog 58 #[y.v, .bool odd] w0 fun e w' => e = .returned (.tuple #[(acR r b odd).1.v, .bool (acR r b odd).2]) ∧ w0.grownBy w' none := by
 show Calls Tryz.prog 58 #[.agg (feL y).toArray, .bool odd] w0 _
 go_enter Tryz.func58, Tryz.ntmps58
 go_upto_region 1 with (fail)
 have G : w0.grownBy ((w0.alloc (.cells (feL y).toArray 34)).alloc (.cells zr5.toArray 34)) none := gb_alloc (gb_alloc (gb_refl _ _) _) _
 have HT : ETab ((w0.alloc (.cells (feL y).toArray 34)).alloc (.cells zr5.toArray 34)) := HT0.grown (gb_alloc (gb_alloc (gb_refl _ _) _) _)
 have hY : Blk ((w0.alloc (.cells (feL y).toArray 34)).alloc (.cells zr5.toArray 34)) (w0.heap.size) 34 (feL y) := (Blk.new w0 (feL y) _).alloc _
 have hR : Blk ((w0.alloc (.cells (feL y).toArray 34)).alloc (.cells zr5.toArray 34)) (w0.heap.size + 1) 34 zr5 := Blk.newAt (w0.alloc _) zr5 _ (by simp)
 revert G HT hY hR
 generalize (w0.alloc (.cells (feL y).toArray 34)).alloc (.cells zr5.toArray 34) = W0
 intro G HT hY hR
 have Gs := G.size
 have Gs0 := G.size
 have l1hY := hY.lt
 have l1hR := hR.lt
 refine Fg.rP [6] [.any, .any, .any, .any, .any, .any, .fresh 34 zr5 W0.heap.size, .any, .any, .val (y.v), .val ((Fe.sqF y).v)] 3 ?_ ?_
 ·refine Fg.vS rfl (by decide) (fun ac w h => ?_) ?_
  ·have e2 : _ = Value.pointer (some ⟨w0.heap.size, 0, none⟩) := h.r 2
   exact Fg.vn y.v (Fg.run_load rfl e2 ((hY.gn h.base).range 0 (feL y) rfl) Tryz.underlying34 rfl info_elem)
  refine Fg.cS rfl (by decide) (fun ac w h => ?_) ?_
  ·have e9 : _ = y.v := h.d 9
   refine ⟨wants_none rfl, 77, #[y.v], Fg.run_call rfl rfl (by simp only [List.map_toArray, List.map_cons, List.map_nil, Act.eval, e9]) (Fg.run_enter Tryz.func77 (by kernel_rfl) (by kernel_rfl)), ?_⟩
   exact (t_sq oky).mono fun _ _ ⟨he, hg⟩ => ⟨_, he, hg, rfl⟩
  refine ⟨⟨⟨_, rfl⟩, Fg.allocP (fun _ _ h k => gb_trans h k) rfl (by show 6 < 36; decide) fun ac w h => ?_⟩, ?_⟩
  ·refine ⟨wants_none rfl, w.alloc (.cells zr5.toArray 34), ?_, World.grownBy_alloc _ _ _, by simp, ⟨w.heap.size, rfl, h.base.size, Blk.new w zr5 _⟩⟩
   clear h
   go_simp
  trivial
 ·intro qa V1 g1 hsz hdf hrest hslots hpt
  obtain ⟨N6, hs6, hn6, hb6⟩ : ∃ N, qa.tmps.getD 6 undef = .pointer (some ⟨N, 0, none⟩) ∧ W0.heap.size ≤ N ∧ Blk V1 N 34 zr5 := hslots 6 (by kernel_rfl)
  obtain ⟨u9, hs9⟩ := Fg.slotv qa 9
  obtain ⟨x1, hx1⟩ : ∃ x : Fe, x = Fe.sqF y := ⟨_, rfl⟩
  obtain rfl := Fg.frame_by [6, 9, 10] (vs := [y.v, Value.bool odd, Value.pointer (some ⟨w0.heap.size, 0, none⟩), undef, Value.pointer (some ⟨w0.heap.size + 1, 0, none⟩), Value.bool false, Value.pointer (some ⟨N6, 0, none⟩), undef, undef, u9, x1.v, undef, undef, undef, undef, undef, undef, undef, undef, undef, undef, undef, undef, undef, undef, undef, undef, undef, undef, undef, undef, undef, undef, undef, undef, undef]) hsz hrest (by kernel_rfl) rfl rfl ⟨hs6, hs9, (show qa.tmps.getD 10 undef = x1.v by rw [hx1]; exact hslots 10 (by kernel_rfl)), trivial⟩ hdf
  clear hsz hdf hrest hslots hpt hs6 hs9
  have Hx1 := Lib.hid hx1; clear hx1
  replace hY := hY.gn g1
  replace hR := hR.gn g1
  replace G := gb_trans G g1
  replace HT := HT.grown g1
  have okx1 : x1.Ok := by rw [Hx1.out]; exact (Fe.sq_right _).ok
  have hw6 : w0.heap.size ≤ N6 := Nat.le_trans Gs0 hn6
  clear g1
  refine Fg.wpl_skip rfl rfl (Fg.run_store (cs := feL x1) rfl rfl rfl (hb6.there 0 5 (by show 0 + 5 ≤ 5; decide)) info_elem (feL_one _)) ?_
  replace hY := hY.setCells_other (C := N6) (cs := feL x1) 0 (by omega)
  replace hR := hR.setCells_other (C := N6) (cs := feL x1) 0 (by omega)
  replace hb6 : Blk (V1.setCells N6 0 (feL x1)) N6 34 (feL x1) := hb6.setAll rfl
  replace G := gb_setCells_new (cs := feL x1) G (B := N6) (hw6) 0
  replace HT := HT.keep (gb_setCells (cs := feL x1) (gb_refl _ (some N6)) 0) (HT0.noG (hw6))
  revert hY hR hb6 G HT
  generalize V1.setCells N6 0 (feL x1) = W2
  intro hY hR hb6 G HT
  go_upto_region 2 with (fail)
  have Gs2 := G.size
  have l2hY := hY.lt
  have l2hR := hR.lt
  have l2hb6 := hb6.lt
  have HOV : ∀ it ∈ ([.any, .any, .any, .any, .any, .any, .any, .room 34 5 W2.heap.size, .val (Value.bool b), .any, .any, .val (Value.tuple #[r.v, .bool b]), .val (x1.v), .val (Fe.oneF.v), .val ((Fe.subF x1 Fe.oneF).v), .val (dF.v), .val (x1.v), .val ((Fe.mulF dF x1).v), .val (Fe.oneF.v), .val ((Fe.addF (Fe.mulF dF x1) Fe.oneF).v), .val (Value.tuple #[r.v, .bool b]), .val (r.v), .val (Value.bool b)] : List Fg.It), it.Over := by
   intro it hit
   simp only [List.mem_cons, List.not_mem_nil, or_false] at hit
   rcases hit with rfl | rfl | rfl | rfl | rfl | rfl | rfl | rfl | rfl | rfl | rfl | rfl | rfl | rfl | rfl | rfl | rfl | rfl | rfl | rfl | rfl | rfl | rfl
   all_goals first | exact Fg.any_over | exact Fg.val_over _ | exact Fg.room_over _ _ _
  refine wp_region_flow3 (Fg.its [.any, .any, .any, .any, .any, .any, .any, .room 34 5 W2.heap.size, .val (Value.bool b), .any, .any, .val (Value.tuple #[r.v, .bool b]), .val (x1.v), .val (Fe.oneF.v), .val ((Fe.subF x1 Fe.oneF).v), .val (dF.v), .val (x1.v), .val ((Fe.mulF dF x1).v), .val (Fe.oneF.v), .val ((Fe.addF (Fe.mulF dF x1) Fe.oneF).v), .val (Value.tuple #[r.v, .bool b]), .val (r.v), .val (Value.bool b)]) (fun _ => 7) (Fg.Stored1 34 (feL r)) (fun w => World.grownBy W2 w none) [7] (by kernel_rfl) (by kernel_rfl) (by kernel_rfl) (gb_drew (gb_refl _ _)) (Fg.ptrs_undef (by kernel_rfl)) (by kernel_rfl) ?_ ?_
  ·refine ⟨Fg.valueM rfl (by decide) fun ac w h => ?_, ?_⟩
   ·have e6 : _ = Value.pointer (some ⟨N6, 0, none⟩) := h.r 6
    exact Fg.vn x1.v (Fg.run_load rfl e6 ((hb6.gn h.base).range 0 (feL x1) rfl) Tryz.underlying34 rfl info_elem)
   refine ⟨Fg.callM rfl (by decide) fun ac w h => ?_, ?_⟩
   ·refine ⟨wants_none rfl, 59, #[], Fg.run_call rfl rfl (by simp) (Fg.run_enter Tryz.func59 (by kernel_rfl) (by kernel_rfl)), ?_⟩
    exact (t_one).mono fun _ _ ⟨he, hg⟩ => ⟨_, he, hg, rfl⟩
   refine ⟨Fg.callM rfl (by decide) fun ac w h => ?_, ?_⟩
   ·have e12 : _ = x1.v := h.d 12
    have e13 : _ = Fe.oneF.v := h.d 13
    refine ⟨wants_none rfl, 70, #[x1.v, Fe.oneF.v], Fg.run_call rfl rfl (by simp only [List.map_toArray, List.map_cons, List.map_nil, Act.eval, e12, e13]) (Fg.run_enter Tryz.func70 (by kernel_rfl) (by kernel_rfl)), ?_⟩
    exact (t_sub (HT.f.grown h.base) okx1 one_ok).mono fun _ _ ⟨he, hg⟩ => ⟨_, he, hg, rfl⟩
   refine ⟨Fg.valueM rfl (by decide) fun ac w h => ?_, ?_⟩
   ·exact Fg.vn dF.v (Fg.run_load rfl rfl (HT.grown h.base).d Tryz.underlying34 rfl info_elem)
   refine ⟨Fg.valueM rfl (by decide) fun ac w h => ?_, ?_⟩
   ·have e6 : _ = Value.pointer (some ⟨N6, 0, none⟩) := h.r 6
    exact Fg.vn x1.v (Fg.run_load rfl e6 ((hb6.gn h.base).range 0 (feL x1) rfl) Tryz.underlying34 rfl info_elem)
   refine ⟨Fg.callM rfl (by decide) fun ac w h => ?_, ?_⟩
   ·have e15 : _ = dF.v := h.d 15
    have e16 : _ = x1.v := h.d 16
    refine ⟨wants_none rfl, 38, #[dF.v, x1.v], Fg.run_call rfl rfl (by simp only [List.map_toArray, List.map_cons, List.map_nil, Act.eval, e15, e16]) (Fg.run_enter Tryz.func38 (by kernel_rfl) (by kernel_rfl)), ?_⟩
    exact (t_mul dF_right.ok okx1).mono fun _ _ ⟨he, hg⟩ => ⟨_, he, hg, rfl⟩
   refine ⟨Fg.callM rfl (by decide) fun ac w h => ?_, ?_⟩
   ·refine ⟨wants_none rfl, 59, #[], Fg.run_call rfl rfl (by simp) (Fg.run_enter Tryz.func59 (by kernel_rfl) (by kernel_rfl)), ?_⟩
    exact (t_one).mono fun _ _ ⟨he, hg⟩ => ⟨_, he, hg, rfl⟩
   refine ⟨Fg.callM rfl (by decide) fun ac w h => ?_, ?_⟩
   ·have e17 : _ = (Fe.mulF dF x1).v := h.d 17
    have e18 : _ = Fe.oneF.v := h.d 18
    refine ⟨wants_none rfl, 84, #[(Fe.mulF dF x1).v, Fe.oneF.v], Fg.run_call rfl rfl (by simp only [List.map_toArray, List.map_cons, List.map_nil, Act.eval, e17, e18]) (Fg.run_enter Tryz.func84 (by kernel_rfl) (by kernel_rfl)), ?_⟩
    exact (t_add (Fe.mul_right _ _).ok one_ok).mono fun _ _ ⟨he, hg⟩ => ⟨_, he, hg, rfl⟩
   refine ⟨Fg.callM rfl (by decide) fun ac w h => ?_, ?_⟩
   ·have e14 : _ = (Fe.subF x1 Fe.oneF).v := h.d 14
    have e19 : _ = (Fe.addF (Fe.mulF dF x1) Fe.oneF).v := h.d 19
    refine ⟨wants_none rfl, 83, #[(Fe.subF x1 Fe.oneF).v, (Fe.addF (Fe.mulF dF x1) Fe.oneF).v], Fg.run_call rfl rfl (by simp only [List.map_toArray, List.map_cons, List.map_nil, Act.eval, e14, e19]) (Fg.run_enter Tryz.func83 (by kernel_rfl) (by kernel_rfl)), ?_⟩
    exact (t_root (HT.f.grown h.base) (Fe.sub_right _ _).ok (Fe.add_right _ _).ok (by rw [Hx1.out]; exact hr)).mono fun _ _ ⟨he, hg⟩ => ⟨_, he, hg, rfl⟩
   refine ⟨Fg.valueM rfl (by decide) fun ac w h => ?_, ?_⟩
   ·have e20 : _ = Value.tuple #[r.v, .bool b] := h.d 20
    exact Fg.vn (Value.tuple #[r.v, .bool b]) (Fg.run_move rfl e20)
   refine ⟨Fg.valueM rfl (by decide) fun ac w h => ?_, ?_⟩
   ·have e11 : _ = Value.tuple #[r.v, .bool b] := h.d 11
    exact Fg.vn r.v (Fg.run_extract rfl e11 rfl)
   refine ⟨Fg.valueM rfl (by decide) fun ac w h => ?_, ?_⟩
   ·have e11 : _ = Value.tuple #[r.v, .bool b] := h.d 11
    exact Fg.vn (Value.bool b) (Fg.run_extract rfl e11 rfl)
   refine ⟨Fg.allocM rfl (by show 7 < 36; decide) fun ac w h => ?_, ?_⟩
   ·refine ⟨wants_none rfl, w.alloc (.cells zr5.toArray 34), ?_, World.grownBy_alloc _ _ _, by simp, ⟨w.heap.size, rfl, h.base.size, _, rfl, Blk.new w zr5 _⟩⟩
    clear h
    go_simp
   refine ⟨Fg.storeM rfl rfl HOV info_elem (feL_one r) fun ac w h => ?_, ?_⟩
   ·obtain ⟨N, ep, hn, V, hl, hb⟩ : ∃ N, ac.tmps.getD 7 undef = .pointer (some ⟨N, 0, none⟩) ∧ W2.heap.size ≤ N ∧ ∃ V : List Value, V.length = 5 ∧ Blk w N 34 V := h.dep 7 (by kernel_rfl)
    have e21 : _ = r.v := h.d 21
    exact ⟨wants_none rfl, N, ep, ep, e21, hn, V, hl, hb⟩
   refine ⟨Fg.valueM rfl (by decide) fun ac w h => ?_, ?_⟩
   ·have e22 : _ = Value.bool b := h.d 22
    exact Fg.vn (Value.bool b) (Fg.run_assign rfl e22)
   trivial
  ·intro qa V3 g3 hsz hdf hrest hslots hmems
   obtain ⟨N7, hs7, hb7⟩ : ∃ N, qa.tmps.getD 7 undef = .pointer (some ⟨N, 0, none⟩) ∧ Blk V3 N 34 (feL r) := hmems 13 _ rfl rfl
   have hn7 : W2.heap.size ≤ N7 := by
    obtain ⟨N, e, hn, _⟩ : ∃ N, qa.tmps.getD 7 undef = .pointer (some ⟨N, 0, none⟩) ∧ W2.heap.size ≤ N ∧ ∃ V : List Value, V.length = 5 ∧ Blk V3 N 34 V := hslots 7 (by kernel_rfl)
    rw [hs7] at e; cases e; exact hn
   obtain ⟨⟨u11, hs11⟩, ⟨u12, hs12⟩, ⟨u13, hs13⟩, ⟨u14, hs14⟩, ⟨u15, hs15⟩, ⟨u16, hs16⟩, ⟨u17, hs17⟩, ⟨u18, hs18⟩, ⟨u19, hs19⟩, ⟨u20, hs20⟩, _⟩ := Fg.slotvs qa [11, 12, 13, 14, 15, 16, 17, 18, 19, 20]
   obtain rfl := Fg.frame_is (a := qa) (vs := [y.v, Value.bool odd, Value.pointer (some ⟨w0.heap.size, 0, none⟩), undef, Value.pointer (some ⟨w0.heap.size + 1, 0, none⟩), Value.bool false, Value.pointer (some ⟨N6, 0, none⟩), Value.pointer (some ⟨N7, 0, none⟩), Value.bool b, u9, x1.v, u11, u12, u13, u14, u15, u16, u17, u18, u19, u20, r.v, Value.bool b, undef, undef, undef, undef, undef, undef, undef, undef, undef, undef, undef, undef, undef]) hsz ⟨hrest 0 (by kernel_rfl), hrest 1 (by kernel_rfl), hrest 2 (by kernel_rfl), hrest 3 (by kernel_rfl), hrest 4 (by kernel_rfl), hrest 5 (by kernel_rfl), hrest 6 (by kernel_rfl), hs7, (show qa.tmps.getD 8 undef = Value.bool b from hslots 8 (by kernel_rfl)), hrest 9 (by kernel_rfl), hrest 10 (by kernel_rfl), hs11, hs12, hs13, hs14, hs15, hs16, hs17, hs18, hs19, hs20, (show qa.tmps.getD 21 undef = r.v from hslots 21 (by kernel_rfl)), (show qa.tmps.getD 22 undef = Value.bool b from hslots 22 (by kernel_rfl)), hrest 23 (by kernel_rfl), hrest 24 (by kernel_rfl), hrest 25 (by kernel_rfl), hrest 26 (by kernel_rfl), hrest 27 (by kernel_rfl), hrest 28 (by kernel_rfl), hrest 29 (by kernel_rfl), hrest 30 (by kernel_rfl), hrest 31 (by kernel_rfl), hrest 32 (by kernel_rfl), hrest 33 (by kernel_rfl), hrest 34 (by kernel_rfl), hrest 35 (by kernel_rfl), trivial⟩ hdf
   clear hsz hdf hrest hslots hmems hs7 hs11 hs12 hs13 hs14 hs15 hs16 hs17 hs18 hs19 hs20
   replace hY := hY.gn g3
   replace hR := hR.gn g3
   replace hb6 := hb6.gn g3
   replace G := gb_trans G g3
   replace HT := HT.grown g3
   have hw7 : w0.heap.size ≤ N7 := Nat.le_trans Gs2 hn7
   clear g3
   cases b with
   | false =>
    go_upto_region 3 with (fail)
    have Gs3 := G.size
    have l3hY := hY.lt
    have l3hR := hR.lt
    have l3hb6 := hb6.lt
    have l3hb7 := hb7.lt
    refine Fg.rP [] [.any, .any, .any, .any, .any, .any, .any, .any, .any, .any, .any, .any, .any, .any, .any, .any, .any, .any, .any, .any, .any, .any, .any, .val (Value.bool false), .val (Value.bool true), .val (Value.bool true), .val undef, .val undef, .val (Value.bool true)] 6 ?_ ?_
    ·refine Fg.vS rfl (by decide) (fun ac w h => ?_) ?_
     ·have e8 : _ = Value.bool false := h.r 8
      exact Fg.vn (Value.bool false) (Fg.run_move rfl e8)
     refine Fg.vS rfl (by decide) (fun ac w h => ?_) ?_
     ·have e23 : _ = Value.bool false := h.d 23
      refine ⟨wants_none rfl, Value.bool true, w, ?_, gb_refl _ _, rfl⟩
      clear h
      simp only [execOp, Act.eval, e23]
      go_simp
     refine Fg.vS rfl (by decide) (fun ac w h => ?_) ?_
     ·have e24 : _ = Value.bool true := h.d 24
      exact Fg.vn (Value.bool true) (Fg.run_move rfl e24)
     refine ⟨⟨⟨_, rfl⟩, Fg.skippedP rfl (by decide) (fun _ => rfl) fun ac w h => ?_⟩, ?_⟩
     ·have e25 : _ = Value.bool true := h.d 25
      exact not_wants (d := 25) rfl rfl (by rw [h.size]; show 25 < 36; decide) e25 (by decide)
     refine ⟨⟨⟨_, rfl⟩, Fg.skippedP rfl (by decide) (fun _ => rfl) fun ac w h => ?_⟩, ?_⟩
     ·have e25 : _ = Value.bool true := h.d 25
      exact not_wants (d := 25) rfl rfl (by rw [h.size]; show 25 < 36; decide) e25 (by decide)
     refine Fg.vS rfl (by decide) (fun ac w h => ?_) ?_
     ·have e25 : _ = Value.bool true := h.d 25
      refine ⟨wants_none rfl, Value.bool true, w, ?_, gb_refl _ _, rfl⟩
      clear h
      simp only [execOp, Act.eval, e25]
      go_simp
     trivial
    ·intro qa V4 g4 hsz hdf hrest hslots hpt
     obtain ⟨⟨u23, hs23⟩, ⟨u24, hs24⟩, ⟨u25, hs25⟩, ⟨u26, hs26⟩, ⟨u27, hs27⟩, _⟩ := Fg.slotvs qa [23, 24, 25, 26, 27]
     obtain rfl := Fg.frame_by [23, 24, 25, 26, 27, 28] (vs := [y.v, Value.bool odd, Value.pointer (some ⟨w0.heap.size, 0, none⟩), undef, Value.pointer (some ⟨w0.heap.size + 1, 0, none⟩), Value.bool false, Value.pointer (some ⟨N6, 0, none⟩), Value.pointer (some ⟨N7, 0, none⟩), Value.bool false, u9, x1.v, u11, u12, u13, u14, u15, u16, u17, u18, u19, u20, r.v, Value.bool false, u23, u24, u25, u26, u27, Value.bool true, undef, undef, undef, undef, undef, undef, undef]) hsz hrest (by kernel_rfl) rfl rfl ⟨hs23, hs24, hs25, hs26, hs27, (show qa.tmps.getD 28 undef = Value.bool true from hslots 28 (by kernel_rfl)), trivial⟩ hdf
     clear hsz hdf hrest hslots hpt hs23 hs24 hs25 hs26 hs27
     replace hY := hY.gn g4
     replace hR := hR.gn g4
     replace hb6 := hb6.gn g4
     replace hb7 := hb7.gn g4
     replace G := gb_trans G g4
     replace HT := HT.grown g4
     clear g4
     go_upto_region 4 with (fail)
     have Gs4 := G.size
     have l4hY := hY.lt
     have l4hR := hR.lt
     have l4hb6 := hb6.lt
     have l4hb7 := hb7.lt
     refine Fg.rP [] [.any, .any, .any, .any, .any, .any, .any, .any, .any, .any, .any, .any, .any, .any, .any, .any, .any, .any, .any, .any, .any, .any, .any, .any, .any, .any, .any, .any, .any, .val (r.v), .val (Value.bool false)] 2 ?_ ?_
     ·refine Fg.vS rfl (by decide) (fun ac w h => ?_) ?_
      ·have e7 : _ = Value.pointer (some ⟨N7, 0, none⟩) := h.r 7
       exact Fg.vn r.v (Fg.run_load rfl e7 ((hb7.gn h.base).range 0 (feL r) rfl) Tryz.underlying34 rfl info_elem)
      refine Fg.vS rfl (by decide) (fun ac w h => ?_) ?_
      ·have e8 : _ = Value.bool false := h.r 8
       exact Fg.vn (Value.bool false) (Fg.run_move rfl e8)
      trivial
     ·intro qa V5 g5 hsz hdf hrest hslots hpt
      obtain rfl := Fg.frame_by [29, 30] (vs := [y.v, Value.bool odd, Value.pointer (some ⟨w0.heap.size, 0, none⟩), undef, Value.pointer (some ⟨w0.heap.size + 1, 0, none⟩), Value.bool false, Value.pointer (some ⟨N6, 0, none⟩), Value.pointer (some ⟨N7, 0, none⟩), Value.bool false, u9, x1.v, u11, u12, u13, u14, u15, u16, u17, u18, u19, u20, r.v, Value.bool false, u23, u24, u25, u26, u27, Value.bool true, r.v, Value.bool false, undef, undef, undef, undef, undef]) hsz hrest (by kernel_rfl) rfl rfl ⟨(show qa.tmps.getD 29 undef = r.v from hslots 29 (by kernel_rfl)), (show qa.tmps.getD 30 undef = Value.bool false from hslots 30 (by kernel_rfl)), trivial⟩ hdf
      clear hsz hdf hrest hslots hpt
      replace hY := hY.gn g5
      replace hR := hR.gn g5
      replace hb6 := hb6.gn g5
      replace hb7 := hb7.gn g5
      replace G := gb_trans G g5
      replace HT := HT.grown g5
      clear g5
      refine Fg.wpl_skip rfl rfl (Fg.run_store (cs := feL r) rfl rfl rfl (hR.there 0 5 (by show 0 + 5 ≤ 5; decide)) info_elem (feL_one _)) ?_
      replace hY := hY.setCells_other (C := (w0.heap.size + 1)) (cs := feL r) 0 (by omega)
      replace hR : Blk (V5.setCells (w0.heap.size + 1) 0 (feL r)) (w0.heap.size + 1) 34 (feL r) := hR.setAll rfl
      replace hb6 := hb6.setCells_other (C := (w0.heap.size + 1)) (cs := feL r) 0 (by omega)
      replace hb7 := hb7.setCells_other (C := (w0.heap.size + 1)) (cs := feL r) 0 (by omega)
      replace G := gb_setCells_new (cs := feL r) G (B := (w0.heap.size + 1)) (by omega) 0
      replace HT := HT.keep (gb_setCells (cs := feL r) (gb_refl _ (some (w0.heap.size + 1))) 0) (HT0.noG (by omega))
      revert hY hR hb6 hb7 G HT
      generalize V5.setCells (w0.heap.size + 1) 0 (feL r) = W6
      intro hY hR hb6 hb7 G HT
      go_wp2_with fail
      exact bodyPost_ret (v := .tuple #[r.v, .bool false]) (results_row_tmp Tryz.results58 _ _ (w0.heap.size + 1) 34 (feL r).toArray (0, 0) _ rfl hR Tryz.underlying34 rfl info_elem rfl) rfl ⟨rfl, G⟩
   | true =>
    cases odd with
    | false =>
     go_upto_region 3 with (fail)
     have Gs3 := G.size
     have l3hY := hY.lt
     have l3hR := hR.lt
     have l3hb6 := hb6.lt
     have l3hb7 := hb7.lt
     refine Fg.rP [] [.any, .any, .any, .any, .any, .any, .any, .any, .any, .any, .any, .any, .any, .any, .any, .any, .any, .any, .any, .any, .any, .any, .any, .val (Value.bool true), .val (Value.bool false), .val (Value.bool false), .val (Value.bool false), .val (Value.bool true), .val (Value.bool true)] 6 ?_ ?_
     ·refine Fg.vS rfl (by decide) (fun ac w h => ?_) ?_
      ·have e8 : _ = Value.bool true := h.r 8
       exact Fg.vn (Value.bool true) (Fg.run_move rfl e8)
      refine Fg.vS rfl (by decide) (fun ac w h => ?_) ?_
      ·have e23 : _ = Value.bool true := h.d 23
       refine ⟨wants_none rfl, Value.bool false, w, ?_, gb_refl _ _, rfl⟩
       clear h
       simp only [execOp, Act.eval, e23]
       go_simp
      refine Fg.vS rfl (by decide) (fun ac w h => ?_) ?_
      ·have e24 : _ = Value.bool false := h.d 24
       exact Fg.vn (Value.bool false) (Fg.run_move rfl e24)
      refine Fg.vS rfl (by decide) (fun ac w h => ?_) ?_
      ·have e25 : _ = Value.bool false := h.d 25
       have e1 : _ = Value.bool false := h.r 1
       exact Fg.vx (Value.bool false) (wants_some (d := 25) rfl rfl (by rw [h.size]; show 25 < 36; decide) e25) (Fg.run_move rfl e1)
      refine Fg.vS rfl (by decide) (fun ac w h => ?_) ?_
      ·have e25 : _ = Value.bool false := h.d 25
       have e26 : _ = Value.bool false := h.d 26
       refine ⟨wants_some (d := 25) rfl rfl (by rw [h.size]; show 25 < 36; decide) e25, Value.bool true, w, ?_, gb_refl _ _, rfl⟩
       clear h
       simp only [execOp, Act.eval, e26]
       go_simp
      refine Fg.vS rfl (by decide) (fun ac w h => ?_) ?_
      ·have e25 : _ = Value.bool false := h.d 25
       have e27 : _ = Value.bool true := h.d 27
       refine ⟨wants_none rfl, Value.bool true, w, ?_, gb_refl _ _, rfl⟩
       clear h
       simp only [execOp, Act.eval, e25, e27]
       go_simp
      trivial
     ·intro qa V4 g4 hsz hdf hrest hslots hpt
      obtain ⟨⟨u23, hs23⟩, ⟨u24, hs24⟩, ⟨u25, hs25⟩, ⟨u26, hs26⟩, ⟨u27, hs27⟩, _⟩ := Fg.slotvs qa [23, 24, 25, 26, 27]
      obtain rfl := Fg.frame_by [23, 24, 25, 26, 27, 28] (vs := [y.v, Value.bool false, Value.pointer (some ⟨w0.heap.size, 0, none⟩), undef, Value.pointer (some ⟨w0.heap.size + 1, 0, none⟩), Value.bool false, Value.pointer (some ⟨N6, 0, none⟩), Value.pointer (some ⟨N7, 0, none⟩), Value.bool true, u9, x1.v, u11, u12, u13, u14, u15, u16, u17, u18, u19, u20, r.v, Value.bool true, u23, u24, u25, u26, u27, Value.bool true, undef, undef, undef, undef, undef, undef, undef]) hsz hrest (by kernel_rfl) rfl rfl ⟨hs23, hs24, hs25, hs26, hs27, (show qa.tmps.getD 28 undef = Value.bool true from hslots 28 (by kernel_rfl)), trivial⟩ hdf
      clear hsz hdf hrest hslots hpt hs23 hs24 hs25 hs26 hs27
      replace hY := hY.gn g4
      replace hR := hR.gn g4
      replace hb6 := hb6.gn g4
      replace hb7 := hb7.gn g4
      replace G := gb_trans G g4
      replace HT := HT.grown g4
      clear g4
      go_upto_region 4 with (fail)
      have Gs4 := G.size
      have l4hY := hY.lt
      have l4hR := hR.lt
      have l4hb6 := hb6.lt
      have l4hb7 := hb7.lt
      refine Fg.rP [] [.any, .any, .any, .any, .any, .any, .any, .any, .any, .any, .any, .any, .any, .any, .any, .any, .any, .any, .any, .any, .any, .any, .any, .any, .any, .any, .any, .any, .any, .val (r.v), .val (Value.bool true)] 2 ?_ ?_
      ·refine Fg.vS rfl (by decide) (fun ac w h => ?_) ?_
       ·have e7 : _ = Value.pointer (some ⟨N7, 0, none⟩) := h.r 7
        exact Fg.vn r.v (Fg.run_load rfl e7 ((hb7.gn h.base).range 0 (feL r) rfl) Tryz.underlying34 rfl info_elem)
       refine Fg.vS rfl (by decide) (fun ac w h => ?_) ?_
       ·have e8 : _ = Value.bool true := h.r 8
        exact Fg.vn (Value.bool true) (Fg.run_move rfl e8)
       trivial
      ·intro qa V5 g5 hsz hdf hrest hslots hpt
       obtain rfl := Fg.frame_by [29, 30] (vs := [y.v, Value.bool false, Value.pointer (some ⟨w0.heap.size, 0, none⟩), undef, Value.pointer (some ⟨w0.heap.size + 1, 0, none⟩), Value.bool false, Value.pointer (some ⟨N6, 0, none⟩), Value.pointer (some ⟨N7, 0, none⟩), Value.bool true, u9, x1.v, u11, u12, u13, u14, u15, u16, u17, u18, u19, u20, r.v, Value.bool true, u23, u24, u25, u26, u27, Value.bool true, r.v, Value.bool true, undef, undef, undef, undef, undef]) hsz hrest (by kernel_rfl) rfl rfl ⟨(show qa.tmps.getD 29 undef = r.v from hslots 29 (by kernel_rfl)), (show qa.tmps.getD 30 undef = Value.bool true from hslots 30 (by kernel_rfl)), trivial⟩ hdf
       clear hsz hdf hrest hslots hpt
       replace hY := hY.gn g5
       replace hR := hR.gn g5
       replace hb6 := hb6.gn g5
       replace hb7 := hb7.gn g5
       replace G := gb_trans G g5
       replace HT := HT.grown g5
       clear g5
       refine Fg.wpl_skip rfl rfl (Fg.run_store (cs := feL r) rfl rfl rfl (hR.there 0 5 (by show 0 + 5 ≤ 5; decide)) info_elem (feL_one _)) ?_
       replace hY := hY.setCells_other (C := (w0.heap.size + 1)) (cs := feL r) 0 (by omega)
       replace hR : Blk (V5.setCells (w0.heap.size + 1) 0 (feL r)) (w0.heap.size + 1) 34 (feL r) := hR.setAll rfl
       replace hb6 := hb6.setCells_other (C := (w0.heap.size + 1)) (cs := feL r) 0 (by omega)
       replace hb7 := hb7.setCells_other (C := (w0.heap.size + 1)) (cs := feL r) 0 (by omega)
       replace G := gb_setCells_new (cs := feL r) G (B := (w0.heap.size + 1)) (by omega) 0
       replace HT := HT.keep (gb_setCells (cs := feL r) (gb_refl _ (some (w0.heap.size + 1))) 0) (HT0.noG (by omega))
       revert hY hR hb6 hb7 G HT
       generalize V5.setCells (w0.heap.size + 1) 0 (feL r) = W6
       intro hY hR hb6 hb7 G HT
       go_wp2_with fail
       exact bodyPost_ret (v := .tuple #[r.v, .bool true]) (results_row_tmp Tryz.results58 _ _ (w0.heap.size + 1) 34 (feL r).toArray (0, 0) _ rfl hR Tryz.underlying34 rfl info_elem rfl) rfl ⟨rfl, G⟩
    | true =>
     cases hz : decide (Fe.m r = 0) with
     | true =>
      go_upto_region 3 with (fail)
      have Gs3 := G.size
      have l3hY := hY.lt
      have l3hR := hR.lt
      have l3hb6 := hb6.lt
      have l3hb7 := hb7.lt
      refine Fg.rP [] [.any, .any, .any, .any, .any, .any, .any, .any, .any, .any, .any, .any, .any, .any, .any, .any, .any, .any, .any, .any, .any, .any, .any, .val (Value.bool true), .val (Value.bool false), .val (Value.bool false), .val (Value.bool true), .val (Value.bool false), .val (Value.bool false)] 6 ?_ ?_
      ·refine Fg.vS rfl (by decide) (fun ac w h => ?_) ?_
       ·have e8 : _ = Value.bool true := h.r 8
        exact Fg.vn (Value.bool true) (Fg.run_move rfl e8)
       refine Fg.vS rfl (by decide) (fun ac w h => ?_) ?_
       ·have e23 : _ = Value.bool true := h.d 23
        refine ⟨wants_none rfl, Value.bool false, w, ?_, gb_refl _ _, rfl⟩
        clear h
        simp only [execOp, Act.eval, e23]
        go_simp
       refine Fg.vS rfl (by decide) (fun ac w h => ?_) ?_
       ·have e24 : _ = Value.bool false := h.d 24
        exact Fg.vn (Value.bool false) (Fg.run_move rfl e24)
       refine Fg.vS rfl (by decide) (fun ac w h => ?_) ?_
       ·have e25 : _ = Value.bool false := h.d 25
        have e1 : _ = Value.bool true := h.r 1
        exact Fg.vx (Value.bool true) (wants_some (d := 25) rfl rfl (by rw [h.size]; show 25 < 36; decide) e25) (Fg.run_move rfl e1)
       refine Fg.vS rfl (by decide) (fun ac w h => ?_) ?_
       ·have e25 : _ = Value.bool false := h.d 25
        have e26 : _ = Value.bool true := h.d 26
        refine ⟨wants_some (d := 25) rfl rfl (by rw [h.size]; show 25 < 36; decide) e25, Value.bool false, w, ?_, gb_refl _ _, rfl⟩
        clear h
        simp only [execOp, Act.eval, e26]
        go_simp
       refine Fg.vS rfl (by decide) (fun ac w h => ?_) ?_
       ·have e25 : _ = Value.bool false := h.d 25
        have e27 : _ = Value.bool false := h.d 27
        refine ⟨wants_none rfl, Value.bool false, w, ?_, gb_refl _ _, rfl⟩
        clear h
        simp only [execOp, Act.eval, e25, e27]
        go_simp
       trivial
      ·intro qa V4 g4 hsz hdf hrest hslots hpt
       obtain ⟨⟨u23, hs23⟩, ⟨u24, hs24⟩, ⟨u25, hs25⟩, ⟨u26, hs26⟩, ⟨u27, hs27⟩, _⟩ := Fg.slotvs qa [23, 24, 25, 26, 27]
       obtain rfl := Fg.frame_by [23, 24, 25, 26, 27, 28] (vs := [y.v, Value.bool true, Value.pointer (some ⟨w0.heap.size, 0, none⟩), undef, Value.pointer (some ⟨w0.heap.size + 1, 0, none⟩), Value.bool false, Value.pointer (some ⟨N6, 0, none⟩), Value.pointer (some ⟨N7, 0, none⟩), Value.bool true, u9, x1.v, u11, u12, u13, u14, u15, u16, u17, u18, u19, u20, r.v, Value.bool true, u23, u24, u25, u26, u27, Value.bool false, undef, undef, undef, undef, undef, undef, undef]) hsz hrest (by kernel_rfl) rfl rfl ⟨hs23, hs24, hs25, hs26, hs27, (show qa.tmps.getD 28 undef = Value.bool false from hslots 28 (by kernel_rfl)), trivial⟩ hdf
       clear hsz hdf hrest hslots hpt hs23 hs24 hs25 hs26 hs27
       replace hY := hY.gn g4
       replace hR := hR.gn g4
       replace hb6 := hb6.gn g4
       replace hb7 := hb7.gn g4
       replace G := gb_trans G g4
       replace HT := HT.grown g4
       clear g4
       go_upto_region 5 with (fail)
       have Gs4 := G.size
       have l4hY := hY.lt
       have l4hR := hR.lt
       have l4hb6 := hb6.lt
       have l4hb7 := hb7.lt
       refine Fg.rP [] [.any, .any, .any, .any, .any, .any, .any, .any, .any, .any, .any, .any, .any, .any, .any, .any, .any, .any, .any, .any, .any, .any, .any, .any, .any, .any, .any, .any, .any, .any, .any, .val (r.v), .val (Value.bool true)] 2 ?_ ?_
       ·refine Fg.vS rfl (by decide) (fun ac w h => ?_) ?_
        ·have e7 : _ = Value.pointer (some ⟨N7, 0, none⟩) := h.r 7
         exact Fg.vn r.v (Fg.run_load rfl e7 ((hb7.gn h.base).range 0 (feL r) rfl) Tryz.underlying34 rfl info_elem)
        refine Fg.cS rfl (by decide) (fun ac w h => ?_) ?_
        ·have e31 : _ = r.v := h.d 31
         refine ⟨wants_none rfl, 85, #[r.v], Fg.run_call rfl rfl (by simp only [List.map_toArray, List.map_cons, List.map_nil, Act.eval, e31]) (Fg.run_enter Tryz.func85 (by kernel_rfl) (by kernel_rfl)), ?_⟩
         exact (t_zero okr hz).mono fun _ _ ⟨he, hg⟩ => ⟨_, he, hg, rfl⟩
        trivial
       ·intro qa V5 g5 hsz hdf hrest hslots hpt
        obtain ⟨u31, hs31⟩ := Fg.slotv qa 31
        obtain rfl := Fg.frame_by [31, 32] (vs := [y.v, Value.bool true, Value.pointer (some ⟨w0.heap.size, 0, none⟩), undef, Value.pointer (some ⟨w0.heap.size + 1, 0, none⟩), Value.bool false, Value.pointer (some ⟨N6, 0, none⟩), Value.pointer (some ⟨N7, 0, none⟩), Value.bool true, u9, x1.v, u11, u12, u13, u14, u15, u16, u17, u18, u19, u20, r.v, Value.bool true, u23, u24, u25, u26, u27, Value.bool false, undef, undef, u31, Value.bool true, undef, undef, undef]) hsz hrest (by kernel_rfl) rfl rfl ⟨hs31, (show qa.tmps.getD 32 undef = Value.bool true from hslots 32 (by kernel_rfl)), trivial⟩ hdf
        clear hsz hdf hrest hslots hpt hs31
        replace hY := hY.gn g5
        replace hR := hR.gn g5
        replace hb6 := hb6.gn g5
        replace hb7 := hb7.gn g5
        replace G := gb_trans G g5
        replace HT := HT.grown g5
        clear g5
        go_upto_region 6 with (fail)
        have Gs5 := G.size
        have l5hY := hY.lt
        have l5hR := hR.lt
        have l5hb6 := hb6.lt
        have l5hb7 := hb7.lt
        refine Fg.rP [] [.any, .any, .any, .any, .any, .any, .any, .any, .any, .any, .any, .any, .any, .any, .any, .any, .any, .any, .any, .any, .any, .any, .any, .any, .any, .any, .any, .any, .any, .any, .any, .any, .any, .val (Fe.zeroF.v)] 1 ?_ ?_
        ·refine Fg.vS rfl (by decide) (fun ac w h => ?_) ?_
         ·exact Fg.vn Fe.zeroF.v (Fg.run_build (vs := #[]) rfl (by simp) (by kernel_rfl))
         trivial
        ·intro qa V6 g6 hsz hdf hrest hslots hpt
         obtain rfl := Fg.frame_by [33] (vs := [y.v, Value.bool true, Value.pointer (some ⟨w0.heap.size, 0, none⟩), undef, Value.pointer (some ⟨w0.heap.size + 1, 0, none⟩), Value.bool false, Value.pointer (some ⟨N6, 0, none⟩), Value.pointer (some ⟨N7, 0, none⟩), Value.bool true, u9, x1.v, u11, u12, u13, u14, u15, u16, u17, u18, u19, u20, r.v, Value.bool true, u23, u24, u25, u26, u27, Value.bool false, undef, undef, u31, Value.bool true, Fe.zeroF.v, undef, undef]) hsz hrest (by kernel_rfl) rfl rfl ⟨(show qa.tmps.getD 33 undef = Fe.zeroF.v from hslots 33 (by kernel_rfl)), trivial⟩ hdf
         clear hsz hdf hrest hslots hpt
         replace hY := hY.gn g6
         replace hR := hR.gn g6
         replace hb6 := hb6.gn g6
         replace hb7 := hb7.gn g6
         replace G := gb_trans G g6
         replace HT := HT.grown g6
         clear g6
         refine Fg.wpl_skip rfl rfl (Fg.run_store (cs := feL Fe.zeroF) rfl rfl rfl (hR.there 0 5 (by show 0 + 5 ≤ 5; decide)) info_elem (feL_one _)) ?_
         replace hY := hY.setCells_other (C := (w0.heap.size + 1)) (cs := feL Fe.zeroF) 0 (by omega)
         replace hR : Blk (V6.setCells (w0.heap.size + 1) 0 (feL Fe.zeroF)) (w0.heap.size + 1) 34 (feL Fe.zeroF) := hR.setAll rfl
         replace hb6 := hb6.setCells_other (C := (w0.heap.size + 1)) (cs := feL Fe.zeroF) 0 (by omega)
         replace hb7 := hb7.setCells_other (C := (w0.heap.size + 1)) (cs := feL Fe.zeroF) 0 (by omega)
         replace G := gb_setCells_new (cs := feL Fe.zeroF) G (B := (w0.heap.size + 1)) (by omega) 0
         replace HT := HT.keep (gb_setCells (cs := feL Fe.zeroF) (gb_refl _ (some (w0.heap.size + 1))) 0) (HT0.noG (by omega))
         revert hY hR hb6 hb7 G HT
         generalize V6.setCells (w0.heap.size + 1) 0 (feL Fe.zeroF) = W7
         intro hY hR hb6 hb7 G HT
         go_wp2_with fail
         rw [acR_z (of_decide_eq_true hz)]
         exact bodyPost_ret (v := .tuple #[Fe.zeroF.v, .bool false]) (results_row_tmp Tryz.results58 _ _ (w0.heap.size + 1) 34 (feL Fe.zeroF).toArray (0, 0) _ rfl hR Tryz.underlying34 rfl info_elem rfl) rfl ⟨rfl, G⟩
     | false =>
      go_upto_region 3 with (fail)
      have Gs3 := G.size
      have l3hY := hY.lt
      have l3hR := hR.lt
      have l3hb6 := hb6.lt
      have l3hb7 := hb7.lt
      refine Fg.rP [] [.any, .any, .any, .any, .any, .any, .any, .any, .any, .any, .any, .any, .any, .any, .any, .any, .any, .any, .any, .any, .any, .any, .any, .val (Value.bool true), .val (Value.bool false), .val (Value.bool false), .val (Value.bool true), .val (Value.bool false), .val (Value.bool false)] 6 ?_ ?_
      ·refine Fg.vS rfl (by decide) (fun ac w h => ?_) ?_
       ·have e8 : _ = Value.bool true := h.r 8
        exact Fg.vn (Value.bool true) (Fg.run_move rfl e8)
       refine Fg.vS rfl (by decide) (fun ac w h => ?_) ?_
       ·have e23 : _ = Value.bool true := h.d 23
        refine ⟨wants_none rfl, Value.bool false, w, ?_, gb_refl _ _, rfl⟩
        clear h
        simp only [execOp, Act.eval, e23]
        go_simp
       refine Fg.vS rfl (by decide) (fun ac w h => ?_) ?_
       ·have e24 : _ = Value.bool false := h.d 24
        exact Fg.vn (Value.bool false) (Fg.run_move rfl e24)
       refine Fg.vS rfl (by decide) (fun ac w h => ?_) ?_
       ·have e25 : _ = Value.bool false := h.d 25
        have e1 : _ = Value.bool true := h.r 1
        exact Fg.vx (Value.bool true) (wants_some (d := 25) rfl rfl (by rw [h.size]; show 25 < 36; decide) e25) (Fg.run_move rfl e1)
       refine Fg.vS rfl (by decide) (fun ac w h => ?_) ?_
       ·have e25 : _ = Value.bool false := h.d 25
        have e26 : _ = Value.bool true := h.d 26
        refine ⟨wants_some (d := 25) rfl rfl (by rw [h.size]; show 25 < 36; decide) e25, Value.bool false, w, ?_, gb_refl _ _, rfl⟩
        clear h
        simp only [execOp, Act.eval, e26]
        go_simp
       refine Fg.vS rfl (by decide) (fun ac w h => ?_) ?_
       ·have e25 : _ = Value.bool false := h.d 25
        have e27 : _ = Value.bool false := h.d 27
        refine ⟨wants_none rfl, Value.bool false, w, ?_, gb_refl _ _, rfl⟩
        clear h
        simp only [execOp, Act.eval, e25, e27]
        go_simp
       trivial
      ·intro qa V4 g4 hsz hdf hrest hslots hpt
       obtain ⟨⟨u23, hs23⟩, ⟨u24, hs24⟩, ⟨u25, hs25⟩, ⟨u26, hs26⟩, ⟨u27, hs27⟩, _⟩ := Fg.slotvs qa [23, 24, 25, 26, 27]
       obtain rfl := Fg.frame_by [23, 24, 25, 26, 27, 28] (vs := [y.v, Value.bool true, Value.pointer (some ⟨w0.heap.size, 0, none⟩), undef, Value.pointer (some ⟨w0.heap.size + 1, 0, none⟩), Value.bool false, Value.pointer (some ⟨N6, 0, none⟩), Value.pointer (some ⟨N7, 0, none⟩), Value.bool true, u9, x1.v, u11, u12, u13, u14, u15, u16, u17, u18, u19, u20, r.v, Value.bool true, u23, u24, u25, u26, u27, Value.bool false, undef, undef, undef, undef, undef, undef, undef]) hsz hrest (by kernel_rfl) rfl rfl ⟨hs23, hs24, hs25, hs26, hs27, (show qa.tmps.getD 28 undef = Value.bool false from hslots 28 (by kernel_rfl)), trivial⟩ hdf
       clear hsz hdf hrest hslots hpt hs23 hs24 hs25 hs26 hs27
       replace hY := hY.gn g4
       replace hR := hR.gn g4
       replace hb6 := hb6.gn g4
       replace hb7 := hb7.gn g4
       replace G := gb_trans G g4
       replace HT := HT.grown g4
       clear g4
       go_upto_region 5 with (fail)
       have Gs4 := G.size
       have l4hY := hY.lt
       have l4hR := hR.lt
       have l4hb6 := hb6.lt
       have l4hb7 := hb7.lt
       refine Fg.rP [] [.any, .any, .any, .any, .any, .any, .any, .any, .any, .any, .any, .any, .any, .any, .any, .any, .any, .any, .any, .any, .any, .any, .any, .any, .any, .any, .any, .any, .any, .any, .any, .val (r.v), .val (Value.bool false)] 2 ?_ ?_
       ·refine Fg.vS rfl (by decide) (fun ac w h => ?_) ?_
        ·have e7 : _ = Value.pointer (some ⟨N7, 0, none⟩) := h.r 7
         exact Fg.vn r.v (Fg.run_load rfl e7 ((hb7.gn h.base).range 0 (feL r) rfl) Tryz.underlying34 rfl info_elem)
        refine Fg.cS rfl (by decide) (fun ac w h => ?_) ?_
        ·have e31 : _ = r.v := h.d 31
         refine ⟨wants_none rfl, 85, #[r.v], Fg.run_call rfl rfl (by simp only [List.map_toArray, List.map_cons, List.map_nil, Act.eval, e31]) (Fg.run_enter Tryz.func85 (by kernel_rfl) (by kernel_rfl)), ?_⟩
         exact (t_zero okr hz).mono fun _ _ ⟨he, hg⟩ => ⟨_, he, hg, rfl⟩
        trivial
       ·intro qa V5 g5 hsz hdf hrest hslots hpt
        obtain ⟨u31, hs31⟩ := Fg.slotv qa 31
        obtain rfl := Fg.frame_by [31, 32] (vs := [y.v, Value.bool true, Value.pointer (some ⟨w0.heap.size, 0, none⟩), undef, Value.pointer (some ⟨w0.heap.size + 1, 0, none⟩), Value.bool false, Value.pointer (some ⟨N6, 0, none⟩), Value.pointer (some ⟨N7, 0, none⟩), Value.bool true, u9, x1.v, u11, u12, u13, u14, u15, u16, u17, u18, u19, u20, r.v, Value.bool true, u23, u24, u25, u26, u27, Value.bool false, undef, undef, u31, Value.bool false, undef, undef, undef]) hsz hrest (by kernel_rfl) rfl rfl ⟨hs31, (show qa.tmps.getD 32 undef = Value.bool false from hslots 32 (by kernel_rfl)), trivial⟩ hdf
        clear hsz hdf hrest hslots hpt hs31
        replace hY := hY.gn g5
        replace hR := hR.gn g5
        replace hb6 := hb6.gn g5
        replace hb7 := hb7.gn g5
        replace G := gb_trans G g5
        replace HT := HT.grown g5
        clear g5
        go_upto_region 7 with (fail)
        have Gs5 := G.size
        have l5hY := hY.lt
        have l5hR := hR.lt
        have l5hb6 := hb6.lt
        have l5hb7 := hb7.lt
        refine Fg.rP [] [.any, .any, .any, .any, .any, .any, .any, .any, .any, .any, .any, .any, .any, .any, .any, .any, .any, .any, .any, .any, .any, .any, .any, .any, .any, .any, .any, .any, .any, .any, .any, .any, .any, .any, .val (r.v), .val ((Fe.negF r).v)] 2 ?_ ?_
        ·refine Fg.vS rfl (by decide) (fun ac w h => ?_) ?_
         ·have e7 : _ = Value.pointer (some ⟨N7, 0, none⟩) := h.r 7
          exact Fg.vn r.v (Fg.run_load rfl e7 ((hb7.gn h.base).range 0 (feL r) rfl) Tryz.underlying34 rfl info_elem)
         refine Fg.cS rfl (by decide) (fun ac w h => ?_) ?_
         ·have e34 : _ = r.v := h.d 34
          refine ⟨wants_none rfl, 43, #[r.v], Fg.run_call rfl rfl (by simp only [List.map_toArray, List.map_cons, List.map_nil, Act.eval, e34]) (Fg.run_enter Tryz.func43 (by kernel_rfl) (by kernel_rfl)), ?_⟩
          exact (t_neg (HT.f.grown h.base) okr).mono fun _ _ ⟨he, hg⟩ => ⟨_, he, hg, rfl⟩
         trivial
        ·intro qa V6 g6 hsz hdf hrest hslots hpt
         obtain ⟨u34, hs34⟩ := Fg.slotv qa 34
         obtain ⟨x6, hx6⟩ : ∃ x : Fe, x = Fe.negF r := ⟨_, rfl⟩
         obtain rfl := Fg.frame_by [34, 35] (vs := [y.v, Value.bool true, Value.pointer (some ⟨w0.heap.size, 0, none⟩), undef, Value.pointer (some ⟨w0.heap.size + 1, 0, none⟩), Value.bool false, Value.pointer (some ⟨N6, 0, none⟩), Value.pointer (some ⟨N7, 0, none⟩), Value.bool true, u9, x1.v, u11, u12, u13, u14, u15, u16, u17, u18, u19, u20, r.v, Value.bool true, u23, u24, u25, u26, u27, Value.bool false, undef, undef, u31, Value.bool false, undef, u34, x6.v]) hsz hrest (by kernel_rfl) rfl rfl ⟨hs34, (show qa.tmps.getD 35 undef = x6.v by rw [hx6]; exact hslots 35 (by kernel_rfl)), trivial⟩ hdf
         clear hsz hdf hrest hslots hpt hs34
         have Hx6 := Lib.hid hx6; clear hx6
         replace hY := hY.gn g6
         replace hR := hR.gn g6
         replace hb6 := hb6.gn g6
         replace hb7 := hb7.gn g6
         replace G := gb_trans G g6
         replace HT := HT.grown g6
         have okx6 : x6.Ok := by rw [Hx6.out]; exact (Fe.neg_right _).ok
         clear g6
         refine Fg.wpl_skip rfl rfl (Fg.run_store (cs := feL x6) rfl rfl rfl (hR.there 0 5 (by show 0 + 5 ≤ 5; decide)) info_elem (feL_one _)) ?_
         replace hY := hY.setCells_other (C := (w0.heap.size + 1)) (cs := feL x6) 0 (by omega)
         replace hR : Blk (V6.setCells (w0.heap.size + 1) 0 (feL x6)) (w0.heap.size + 1) 34 (feL x6) := hR.setAll rfl
         replace hb6 := hb6.setCells_other (C := (w0.heap.size + 1)) (cs := feL x6) 0 (by omega)
         replace hb7 := hb7.setCells_other (C := (w0.heap.size + 1)) (cs := feL x6) 0 (by omega)
         replace G := gb_setCells_new (cs := feL x6) G (B := (w0.heap.size + 1)) (by omega) 0
         replace HT := HT.keep (gb_setCells (cs := feL x6) (gb_refl _ (some (w0.heap.size + 1))) 0) (HT0.noG (by omega))
         revert hY hR hb6 hb7 G HT
         generalize V6.setCells (w0.heap.size + 1) 0 (feL x6) = W7
         intro hY hR hb6 hb7 G HT
         go_wp2_with fail
         have hx6 := Hx6.out; subst hx6
         rw [acR_n (of_decide_eq_false hz)]
         exact bodyPost_ret (v := .tuple #[(Fe.negF r).v, .bool true]) (results_row_tmp Tryz.results58 _ _ (w0.heap.size + 1) 34 (feL (Fe.negF r)).toArray (0, 0) _ rfl hR Tryz.underlying34 rfl info_elem rfl) rfl ⟨rfl, G⟩
theorem root_ok (u v : Fe) : (rootF u v).1.Ok := by
 unfold rootF
 have ev : ∀ r : Fe, r.Right → (evenF r).Ok := fun r hr => (even_m hr).1.ok
 split
 ·exact ev _ (Fe.mul_right _ _)
 ·split
  ·exact ev _ (Fe.mul_right _ _)
  ·exact zero_ok
theorem edAcross (y : Fe) (odd : Bool) (w0 : World) (HT0 : ETab w0) (oky : y.Ok) : Tells 58 #[y.v, .bool odd] w0 (.tuple #[(acrossF y odd).1.v, .bool (acrossF y odd).2]) := by
 unfold acrossF
 have okr := root_ok (Fe.subF (Fe.sqF y) Fe.oneF) (Fe.addF (Fe.mulF dF (Fe.sqF y)) Fe.oneF)
 cases h : rootF (Fe.subF (Fe.sqF y) Fe.oneF) (Fe.addF (Fe.mulF dF (Fe.sqF y)) Fe.oneF) with
 | mk r b =>
  rw [h] at okr
  exact across_all y odd w0 HT0 oky r b okr h
end
section
open Go.RowKit
def fromN (x : Int) : Fe := ⟨x % 2251799813685248, x / 2251799813685248 % 2251799813685248, x / 5070602400912917605986812821504 % 2251799813685248, x / 11417981541647679048466287755595961091061972992 % 2251799813685248, x / 25711008708143844408671393477458601640355247900524685364822016⟩
theorem fromN_V (x : Int) : Fe.V (fromN x) = x := by
 unfold fromN
 simp only [Fe.V]
 have e2 : x / 5070602400912917605986812821504 = x / 2251799813685248 / 2251799813685248 := by rw [Int.ediv_ediv_of_nonneg (by decide)]; rfl
 have e3 : x / 11417981541647679048466287755595961091061972992 = x / 2251799813685248 / 2251799813685248 / 2251799813685248 := by rw [Int.ediv_ediv_of_nonneg (by decide), Int.ediv_ediv_of_nonneg (by decide)]; rfl
 have e4 : x / 25711008708143844408671393477458601640355247900524685364822016 = x / 2251799813685248 / 2251799813685248 / 2251799813685248 / 2251799813685248 := by rw [Int.ediv_ediv_of_nonneg (by decide), Int.ediv_ediv_of_nonneg (by decide), Int.ediv_ediv_of_nonneg (by decide)]; rfl
 rw [e2, e3, e4]
 omega
theorem fromN_right {x : Int} (h0 : 0 ≤ x) (h1 : x < 2 ^ 256) : (fromN x).Right := by
 have e : (2 : Int) ^ 256 = 115792089237316195423570985008687907853269984665640564039457584007913129639936 := by decide
 rw [e] at h1
 unfold fromN
 constructor <;> dsimp only <;> omega
theorem fromN_m {x : Int} : (Fe.m (fromN x) : Int) = x % 57896044618658097711785492504343953926634992332820282019728792003956564819949 := by
 rw [Fe.m_cast, fromN_V]; rfl
theorem wordOf_shift (F : Nat → Int) (s : Nat) : ∀ k, wordOf F (s + k) = wordOf F s + wordOf (fun i => F (s + i)) k * 2 ^ (8 * s) := by
 intro k
 induction k with
 | zero => simp [wordOf]
 | succ k ih =>
  rw [show s + (k + 1) = s + k + 1 by omega, wordOf, ih, wordOf, Int.add_mul, show 8 * (s + k) = 8 * k + 8 * s by omega, Int.pow_add]
  rw [Int.mul_assoc (F (s + k)), ← Int.add_assoc]
theorem word4 (F : Nat → Int) : wordOf F 32 = wordOf F 8 + 18446744073709551616 * wordOf (fun i => F (8 + i)) 8 + 340282366920938463463374607431768211456 * wordOf (fun i => F (16 + i)) 8 + 6277101735386680763835789423207666416102355444464034512896 * wordOf (fun i => F (24 + i)) 8 := by
 have h1 := wordOf_shift F 24 8
 have h2 := wordOf_shift F 16 8
 have h3 := wordOf_shift F 8 8
 have p1 : (2 : Int) ^ (8 * 24) = 6277101735386680763835789423207666416102355444464034512896 := by decide
 have p2 : (2 : Int) ^ (8 * 16) = 340282366920938463463374607431768211456 := by decide
 have p3 : (2 : Int) ^ (8 * 8) = 18446744073709551616 := by decide
 rw [p1] at h1
 rw [p2] at h2
 rw [p3] at h3
 have e1 : wordOf F (24 + 8) = wordOf F 32 := rfl
 have e2 : wordOf F (16 + 8) = wordOf F 24 := rfl
 have e3 : wordOf F (8 + 8) = wordOf F 16 := rfl
 omega
theorem limbs_of (w0 w1 w2 w3 : Int) (a0 : 0 ≤ w0) (a1 : 0 ≤ w1) (a2 : 0 ≤ w2) (b0 : w0 < 18446744073709551616) (b1 : w1 < 18446744073709551616) (b2 : w2 < 18446744073709551616) :
  (⟨bits .and .u64 w0 2251799813685247, bits .and .u64 (bits .or .u64 (w0 / 2251799813685248) (IntKind.u64.wrap (w1 * 8192))) 2251799813685247, bits .and .u64 (bits .or .u64 (w1 / 274877906944) (IntKind.u64.wrap (w2 * 67108864))) 2251799813685247,
   bits .and .u64 (bits .or .u64 (w2 / 33554432) (IntKind.u64.wrap (w3 * 549755813888))) 2251799813685247, w3 / 4096⟩ : Fe) = fromN (w0 + 18446744073709551616 * w1 + 340282366920938463463374607431768211456 * w2 + 6277101735386680763835789423207666416102355444464034512896 * w3) := by
 rw [or_lem (w0 / 2251799813685248) w1 13 8192 2251799813685248 (by decide) (by decide) (by omega) (by omega) (by decide),
  or_lem (w1 / 274877906944) w2 26 67108864 274877906944 (by decide) (by decide) (by omega) (by omega) (by decide),
  or_lem (w2 / 33554432) w3 39 549755813888 33554432 (by decide) (by decide) (by omega) (by omega) (by decide),
  mask51 w0 a0 b0, mask51 _ (by omega) (by omega), mask51 _ (by omega) (by omega), mask51 _ (by omega) (by omega)]
 have hV := fromN_V (w0 + 18446744073709551616 * w1 + 340282366920938463463374607431768211456 * w2 + 6277101735386680763835789423207666416102355444464034512896 * w3)
 generalize hX : w0 + 18446744073709551616 * w1 + 340282366920938463463374607431768211456 * w2 + 6277101735386680763835789423207666416102355444464034512896 * w3 = X at *
 unfold fromN
 have e1 : X / 2251799813685248 = w0 / 2251799813685248 + 8192 * w1 + 151115727451828646838272 * w2 + 2787593149816327892691964784081045188247552 * w3 := by omega
 have e2 : X / 5070602400912917605986812821504 = w1 / 274877906944 + 67108864 * w2 + 1237940039285380274899124224 * w3 := by omega
 have e3 : X / 11417981541647679048466287755595961091061972992 = w2 / 33554432 + 549755813888 * w3 := by omega
 have e4 : X / 25711008708143844408671393477458601640355247900524685364822016 = w3 / 4096 := by omega
 rw [e1, e2, e3, e4]
 congr 1 <;> omega
end
section
open Go.RowKit Ow Ed
theorem sl_at (B o c k : Nat) (hk : k ≤ 32) (hc : k < c) (w : World) : (Instr.slice 22 (.slice (some ⟨B, o, none⟩) 32 c) (some (.int .i64 (k : Int))) none none).run Tryz.prog w = .ok (.slice (some ⟨B, o + k, none⟩) (32 - k) (c - k)) w := by
 obtain ⟨a', h1, h2⟩ := slice_from (some ⟨B, o, none⟩) 32 c k hk
 rw [h1 w, h2 hc B o rfl]
set_option maxRecDepth 100000 in
set_option maxHeartbeats 1600000 in
theorem ofBytes_at (B o c : Nat) (F : Nat → Int) (w0 : World) (h32 : 32 ≤ c) (hf : ∀ i, 0 ≤ F i ∧ F i < 256) (hc : ∀ i, i < 32 → w0.cell? ⟨B, o + i, none⟩ = some (.int .u8 (F i))) (hB : B < w0.heap.size) :
  Calls Tryz.prog 81 #[.slice (some ⟨B, o, none⟩) 32 c] w0 (FeOut (fromN (wordOf F 32)) w0) := by
 have HC := Lib.hid hc; clear hc
 have HF := Lib.hid hf; clear hf
 have hXb : ∀ s, 0 ≤ wordOf (fun i => F (s + i)) 8 ∧ wordOf (fun i => F (s + i)) 8 < 18446744073709551616 := fun s => by
  have h := wordOf_bd (fun i => F (s + i)) (fun i => HF.out _) 8
  have h64 : (2 : Int) ^ (8 * 8) = 18446744073709551616 := by decide
  rw [h64] at h
  exact h
 have hN := word4 F
 have h0 : wordOf F 8 = wordOf (fun i => F (0 + i)) 8 := by simp
 rw [h0] at hN
 clear h0
 have g0 : ∀ s n c' W, 8 ≤ n → s + 8 ≤ 32 → (∀ i, i < 32 → W.cell? ⟨B, o + i, none⟩ = some (.int .u8 (F i))) → Tells 104 #[.slice (some ⟨B, o + s, none⟩) n c'] W (.int .u64 (wordOf (fun i => F (s + i)) 8)) :=
  fun s n c' W hn hs h => (getWord_any B (o + s) n c' (fun i => F (s + i)) W hn (fun i => HF.out _) (fun i hi => by rw [Nat.add_assoc]; exact h (s + i) (by omega))).mono fun e w' ⟨h1, h2⟩ => ⟨h1, by subst h2; exact gb_refl _ _⟩
 obtain ⟨X, hX⟩ : ∃ X : Nat → Int, ∀ s, X s = wordOf (fun i => F (s + i)) 8 := ⟨_, fun _ => rfl⟩
 simp only [← hX] at hXb hN g0
 clear hX
 have G := Lib.hid g0; clear g0
 have HN := Lib.hid hN; clear hN
 obtain ⟨p0, q0⟩ := hXb 0
 obtain ⟨p1, q1⟩ := hXb 8
 obtain ⟨p2, q2⟩ := hXb 16
 obtain ⟨p3, q3⟩ := hXb 24
 clear hXb
 have HL := Lib.hid (limbs_of (X 0) (X 8) (X 16) (X 24) p0 p1 p2 q0 q1 q2)
 have S0 : Hid (∀ w, (Instr.slice 22 (.slice (some ⟨B, o, none⟩) 32 c) (some (.int .i64 0)) none none).run Tryz.prog w = .ok (.slice (some ⟨B, o + 0, none⟩) 32 (c - 0)) w) := Lib.hid (sl_at B o c 0 (by decide) (by omega))
 have S8 : Hid (∀ w, (Instr.slice 22 (.slice (some ⟨B, o, none⟩) 32 c) (some (.int .i64 8)) none none).run Tryz.prog w = .ok (.slice (some ⟨B, o + 8, none⟩) 24 (c - 8)) w) := Lib.hid (sl_at B o c 8 (by decide) (by omega))
 have S16 : Hid (∀ w, (Instr.slice 22 (.slice (some ⟨B, o, none⟩) 32 c) (some (.int .i64 16)) none none).run Tryz.prog w = .ok (.slice (some ⟨B, o + 16, none⟩) 16 (c - 16)) w) := Lib.hid (sl_at B o c 16 (by decide) (by omega))
 have S24 : Hid (∀ w, (Instr.slice 22 (.slice (some ⟨B, o, none⟩) 32 c) (some (.int .i64 24)) none none).run Tryz.prog w = .ok (.slice (some ⟨B, o + 24, none⟩) 8 (c - 24)) w) := Lib.hid (sl_at B o c 24 (by decide) (by omega))
 have HH := Lib.hid h32; clear h32
 go_enter Tryz.func81, Tryz.ntmps81
 go_upto_region 1 with (fail)
 have GG : w0.grownBy (w0.alloc (.cells zr5.toArray 34)) none := gb_alloc (gb_refl _ _) _
 have hR : Blk (w0.alloc (.cells zr5.toArray 34)) (w0.heap.size) 34 zr5 := Blk.new w0 zr5 _
 revert GG hR
 generalize w0.alloc (.cells zr5.toArray 34) = W0
 intro GG hR
 have Gs := GG.size
 have HG := Lib.hid GG
 have Gs0 := GG.size
 have l1hR := hR.lt
 refine Fg.rT [] [.any, .any, .any, .val (Value.int .u64 (X 0)), .val (Value.int .u64 (X 8)), .val (Value.int .u64 (X 16)), .val (Value.int .u64 (X 24)), .val (Value.slice (some ⟨B, o, none⟩) 32 c), .val (Value.slice (some ⟨B, o + 0, none⟩) 32 (c - 0)), .val (Value.int .u64 (X 0)), .val (Value.slice (some ⟨B, o, none⟩) 32 c), .val (Value.slice (some ⟨B, o + 8, none⟩) 24 (c - 8)), .val (Value.int .u64 (X 8)), .val (Value.slice (some ⟨B, o, none⟩) 32 c), .val (Value.slice (some ⟨B, o + 16, none⟩) 16 (c - 16)), .val (Value.int .u64 (X 16)), .val (Value.slice (some ⟨B, o, none⟩) 32 c), .val (Value.slice (some ⟨B, o + 24, none⟩) 8 (c - 24)), .val (Value.int .u64 (X 24))] 16 ?_ ?_
 ·refine Fg.vS rfl (by decide) (fun ac w h => ?_) ?_
  ·have e0 : _ = Value.slice (some ⟨B, o, none⟩) 32 c := h.r 0
   exact Fg.vn (Value.slice (some ⟨B, o, none⟩) 32 c) (Fg.run_move rfl e0)
  refine Fg.vS rfl (by decide) (fun ac w h => ?_) ?_
  ·have e7 : _ = Value.slice (some ⟨B, o, none⟩) 32 c := h.d 7
   refine ⟨wants_none rfl, Value.slice (some ⟨B, o + 0, none⟩) 32 (c - 0), w, ?_, gb_refl _ _, rfl⟩
   clear h
   have hrun := S0.out w
   simp only [execOp, Act.eval, e7, Option.map_some, Option.map_none]
   go_simp
  refine Fg.cS rfl (by decide) (fun ac w h => ?_) ?_
  ·have e8 : _ = Value.slice (some ⟨B, o + 0, none⟩) 32 (c - 0) := h.d 8
   refine ⟨wants_none rfl, 104, #[Value.slice (some ⟨B, o + 0, none⟩) 32 (c - 0)], Fg.run_call rfl rfl (by simp only [List.map_toArray, List.map_cons, List.map_nil, Act.eval, e8]) (Fg.run_enter Tryz.func104 (by kernel_rfl) (by kernel_rfl)), ?_⟩
   exact (G.out 0 32 (c - 0) _ (by decide) (by decide) (fun i hi => by rw [gb_cell (gb_trans HG.out h.base) (p := ⟨B, o + i, none⟩) hB (by simp)]; exact HC.out i hi)).mono fun _ _ ⟨he, hg⟩ => ⟨_, he, hg, rfl⟩
  refine Fg.vS rfl (by decide) (fun ac w h => ?_) ?_
  ·have e0 : _ = Value.slice (some ⟨B, o, none⟩) 32 c := h.r 0
   exact Fg.vn (Value.slice (some ⟨B, o, none⟩) 32 c) (Fg.run_move rfl e0)
  refine Fg.vS rfl (by decide) (fun ac w h => ?_) ?_
  ·have e10 : _ = Value.slice (some ⟨B, o, none⟩) 32 c := h.d 10
   refine ⟨wants_none rfl, Value.slice (some ⟨B, o + 8, none⟩) 24 (c - 8), w, ?_, gb_refl _ _, rfl⟩
   clear h
   have hrun := S8.out w
   simp only [execOp, Act.eval, e10, Option.map_some, Option.map_none]
   go_simp
  refine Fg.cS rfl (by decide) (fun ac w h => ?_) ?_
  ·have e11 : _ = Value.slice (some ⟨B, o + 8, none⟩) 24 (c - 8) := h.d 11
   refine ⟨wants_none rfl, 104, #[Value.slice (some ⟨B, o + 8, none⟩) 24 (c - 8)], Fg.run_call rfl rfl (by simp only [List.map_toArray, List.map_cons, List.map_nil, Act.eval, e11]) (Fg.run_enter Tryz.func104 (by kernel_rfl) (by kernel_rfl)), ?_⟩
   exact (G.out 8 24 (c - 8) _ (by decide) (by decide) (fun i hi => by rw [gb_cell (gb_trans HG.out h.base) (p := ⟨B, o + i, none⟩) hB (by simp)]; exact HC.out i hi)).mono fun _ _ ⟨he, hg⟩ => ⟨_, he, hg, rfl⟩
  refine Fg.vS rfl (by decide) (fun ac w h => ?_) ?_
  ·have e0 : _ = Value.slice (some ⟨B, o, none⟩) 32 c := h.r 0
   exact Fg.vn (Value.slice (some ⟨B, o, none⟩) 32 c) (Fg.run_move rfl e0)
  refine Fg.vS rfl (by decide) (fun ac w h => ?_) ?_
  ·have e13 : _ = Value.slice (some ⟨B, o, none⟩) 32 c := h.d 13
   refine ⟨wants_none rfl, Value.slice (some ⟨B, o + 16, none⟩) 16 (c - 16), w, ?_, gb_refl _ _, rfl⟩
   clear h
   have hrun := S16.out w
   simp only [execOp, Act.eval, e13, Option.map_some, Option.map_none]
   go_simp
  refine Fg.cS rfl (by decide) (fun ac w h => ?_) ?_
  ·have e14 : _ = Value.slice (some ⟨B, o + 16, none⟩) 16 (c - 16) := h.d 14
   refine ⟨wants_none rfl, 104, #[Value.slice (some ⟨B, o + 16, none⟩) 16 (c - 16)], Fg.run_call rfl rfl (by simp only [List.map_toArray, List.map_cons, List.map_nil, Act.eval, e14]) (Fg.run_enter Tryz.func104 (by kernel_rfl) (by kernel_rfl)), ?_⟩
   exact (G.out 16 16 (c - 16) _ (by decide) (by decide) (fun i hi => by rw [gb_cell (gb_trans HG.out h.base) (p := ⟨B, o + i, none⟩) hB (by simp)]; exact HC.out i hi)).mono fun _ _ ⟨he, hg⟩ => ⟨_, he, hg, rfl⟩
  refine Fg.vS rfl (by decide) (fun ac w h => ?_) ?_
  ·have e0 : _ = Value.slice (some ⟨B, o, none⟩) 32 c := h.r 0
   exact Fg.vn (Value.slice (some ⟨B, o, none⟩) 32 c) (Fg.run_move rfl e0)
  refine Fg.vS rfl (by decide) (fun ac w h => ?_) ?_
  ·have e16 : _ = Value.slice (some ⟨B, o, none⟩) 32 c := h.d 16
   refine ⟨wants_none rfl, Value.slice (some ⟨B, o + 24, none⟩) 8 (c - 24), w, ?_, gb_refl _ _, rfl⟩
   clear h
   have hrun := S24.out w
   simp only [execOp, Act.eval, e16, Option.map_some, Option.map_none]
   go_simp
  refine Fg.cS rfl (by decide) (fun ac w h => ?_) ?_
  ·have e17 : _ = Value.slice (some ⟨B, o + 24, none⟩) 8 (c - 24) := h.d 17
   refine ⟨wants_none rfl, 104, #[Value.slice (some ⟨B, o + 24, none⟩) 8 (c - 24)], Fg.run_call rfl rfl (by simp only [List.map_toArray, List.map_cons, List.map_nil, Act.eval, e17]) (Fg.run_enter Tryz.func104 (by kernel_rfl) (by kernel_rfl)), ?_⟩
   exact (G.out 24 8 (c - 24) _ (by decide) (by decide) (fun i hi => by rw [gb_cell (gb_trans HG.out h.base) (p := ⟨B, o + i, none⟩) hB (by simp)]; exact HC.out i hi)).mono fun _ _ ⟨he, hg⟩ => ⟨_, he, hg, rfl⟩
  refine Fg.vS rfl (by decide) (fun ac w h => ?_) ?_
  ·have e9 : _ = Value.int .u64 (X 0) := h.d 9
   exact Fg.vn (Value.int .u64 (X 0)) (Fg.run_assign rfl e9)
  refine Fg.vS rfl (by decide) (fun ac w h => ?_) ?_
  ·have e12 : _ = Value.int .u64 (X 8) := h.d 12
   exact Fg.vn (Value.int .u64 (X 8)) (Fg.run_assign rfl e12)
  refine Fg.vS rfl (by decide) (fun ac w h => ?_) ?_
  ·have e15 : _ = Value.int .u64 (X 16) := h.d 15
   exact Fg.vn (Value.int .u64 (X 16)) (Fg.run_assign rfl e15)
  refine Fg.vS rfl (by decide) (fun ac w h => ?_) ?_
  ·have e18 : _ = Value.int .u64 (X 24) := h.d 18
   exact Fg.vn (Value.int .u64 (X 24)) (Fg.run_assign rfl e18)
  trivial
 ·intro qa V1 g1 hsz hdf hrest hslots hpt
  obtain ⟨⟨u7, hs7⟩, ⟨u8, hs8⟩, ⟨u9, hs9⟩, ⟨u10, hs10⟩, ⟨u11, hs11⟩, ⟨u12, hs12⟩, ⟨u13, hs13⟩, ⟨u14, hs14⟩, ⟨u15, hs15⟩, ⟨u16, hs16⟩, ⟨u17, hs17⟩, ⟨u18, hs18⟩, _⟩ := Fg.slotvs qa [7, 8, 9, 10, 11, 12, 13, 14, 15, 16, 17, 18]
  obtain rfl := Fg.frame_by [3, 4, 5, 6, 7, 8, 9, 10, 11, 12, 13, 14, 15, 16, 17, 18] (vs := [Value.slice (some ⟨B, o, none⟩) 32 c, undef, Value.pointer (some ⟨w0.heap.size, 0, none⟩), Value.int .u64 (X 0), Value.int .u64 (X 8), Value.int .u64 (X 16), Value.int .u64 (X 24), u7, u8, u9, u10, u11, u12, u13, u14, u15, u16, u17, u18, undef, undef, undef, undef, undef, undef, undef, undef, undef, undef, undef, undef, undef, undef, undef, undef, undef, undef, undef, undef, undef, undef, undef]) hsz hrest (by kernel_rfl) rfl rfl ⟨(show qa.tmps.getD 3 undef = Value.int .u64 (X 0) from hslots 3 (by kernel_rfl)), (show qa.tmps.getD 4 undef = Value.int .u64 (X 8) from hslots 4 (by kernel_rfl)), (show qa.tmps.getD 5 undef = Value.int .u64 (X 16) from hslots 5 (by kernel_rfl)), (show qa.tmps.getD 6 undef = Value.int .u64 (X 24) from hslots 6 (by kernel_rfl)), hs7, hs8, hs9, hs10, hs11, hs12, hs13, hs14, hs15, hs16, hs17, hs18, trivial⟩ hdf
  clear hsz hdf hrest hslots hpt hs7 hs8 hs9 hs10 hs11 hs12 hs13 hs14 hs15 hs16 hs17 hs18
  replace hR := hR.gn g1
  replace GG := gb_trans GG g1
  clear g1
  have z0 := hR.cell (i := 0) rfl
  have z1 := hR.cell (i := 1) rfl
  have z2 := hR.cell (i := 2) rfl
  have z3 := hR.cell (i := 3) rfl
  have z4 := hR.cell (i := 4) rfl
  have y0 := hR.free 0
  have y1 := hR.free 1
  have y2 := hR.free 2
  have y3 := hR.free 3
  have y4 := hR.free 4
  clear hR
  go_wp2
  refine bodyPost_ret (v := (fromN (wordOf F 32)).v) ?_ rfl (feOut_of ⟨rfl, gb_set5 GG (Nat.le_refl _) _ _ _ _ _⟩)
  rw [HN.out, ← HL.out]
  simp [results, Tryz.results81, go_sem, z0, z1, z2, z3, z4, Fe.v]
end
section
open Go.RowKit Go.Shelf
def laysnb115_ren : Go.Shelf.Ren := ⟨fun | 115 => 82 | n => n, fun | 37 => 22 | 4 => 4 | 9 => 9 | 5 => 5 | n => n, fun | n => n⟩
theorem laysnb115 : Go.Proofs.Lays.nb115 Tryz.prog laysnb115_ren := {
 mixed := by kernel_rfl
 f115 := Tryz.func82.trans (congrArg some (by kernel_rfl))
 t4 := Tryz.underlying4
 a4 := Tryz.isAgg4
 z4 := Tryz.sizeOf4
 v4 := Tryz.zeroValue4
 t9 := Tryz.underlying9
 a9 := Tryz.isAgg9
 z9 := Tryz.sizeOf9
 v9 := Tryz.zeroValue9
 t37 := Tryz.underlying22
 a37 := Tryz.isAgg22
 z37 := Tryz.sizeOf22
 v37 := Tryz.zeroValue22
 t5 := Tryz.underlying5
 a5 := Tryz.isAgg5
 z5 := Tryz.sizeOf5
 v5 := Tryz.zeroValue5 }
def intsOf (x : Int) : List Int := (List.range 32).map fun i => x / 2 ^ (8 * i) % 256
theorem intsOf_get (x : Int) (i : Nat) (h : i < 32) : (intsOf x)[i]? = some (x / 2 ^ (8 * i) % 256) := by
 unfold intsOf; rw [List.getElem?_map, List.getElem?_range h]; rfl
theorem bytes_in {w : World} {B : Nat} {T : TypeId} {x : Int} (h : Blk w B T (bytesV x)) : Lib.BytesIn w (some ⟨B, 0, none⟩) 32 (intsOf x) :=
 Lib.BytesIn.of_cells fun i hi => by
  have hadd : (⟨B, 0, none⟩ : Addr).add i = ⟨B, i, none⟩ := by unfold Addr.add; split <;> simp_all
  have hi2 : i < 32 := by simpa [intsOf] using hi
  rw [hadd, h.cell (bytesV_get x i hi2)]
  have := intsOf_get x i hi2
  simp [List.getD, this, bytV]
theorem byte_bd (x : Int) (i : Nat) : 0 ≤ x / 2 ^ (8 * i) % 256 ∧ x / 2 ^ (8 * i) % 256 < 256 := ⟨Int.emod_nonneg _ (by decide), Int.emod_lt_of_pos _ (by decide)⟩
theorem bytesOf_same (x y : Int) (h0 : 0 ≤ x) (k0 : 0 ≤ y) (h1 : x < 2 ^ 256) (k1 : y < 2 ^ 256) : (Lib.bytesOf (intsOf x) == Lib.bytesOf (intsOf y)) = decide (x = y) := by
 rw [Bool.eq_iff_iff, beq_iff_eq, decide_eq_true_iff]
 constructor
 ·intro h
  refine digits_same 32 x y h0 k0 h1 k1 fun i hi => ?_
  have e : (Lib.bytesOf (intsOf x))[i]? = (Lib.bytesOf (intsOf y))[i]? := by rw [h]
  unfold Lib.bytesOf at e
  rw [List.getElem?_map, List.getElem?_map, intsOf_get x i hi, intsOf_get y i hi] at e
  simp only [Option.map_some, Option.some.injEq] at e
  have e2 := congrArg UInt8.toNat e
  have bx := byte_bd x i
  have b_y := byte_bd y i
  generalize x / 2 ^ (8 * i) % 256 = p at *
  generalize y / 2 ^ (8 * i) % 256 = q at *
  rw [UInt8.toNat_ofNat', UInt8.toNat_ofNat'] at e2
  omega
 ·rintro rfl; rfl
theorem wordOf_bytes (x : Int) : ∀ k, wordOf (fun i => x / 2 ^ (8 * i) % 256) k = x % 2 ^ (8 * k) := by
 intro k
 induction k with
 | zero => simp [wordOf]
 | succ k ih =>
  rw [wordOf, ih]
  have e : (2 : Int) ^ (8 * (k + 1)) = 2 ^ (8 * k) * 256 := by rw [show 8 * (k + 1) = 8 * k + 8 by omega, Int.pow_add]; rfl
  have hp : (0 : Int) < 2 ^ (8 * k) := Int.pow_pos (by decide)
  rw [e]
  generalize (2 : Int) ^ (8 * k) = p at *
  have h1 := Int.mul_ediv_add_emod x p
  have h2 := Int.mul_ediv_add_emod x (p * 256)
  have h3 : x / (p * 256) = x / p / 256 := by rw [Int.ediv_ediv_of_nonneg (by omega)]
  have h4 := Int.mul_ediv_add_emod (x / p) 256
  rw [h3] at h2
  have h5 : p * (x / p) = p * (256 * (x / p / 256) + x / p % 256) := by rw [h4]
  rw [Int.mul_add, ← Int.mul_assoc] at h5
  have h6 : x / p % 256 * p = p * (x / p % 256) := Int.mul_comm ..
  omega
end
section
open Go.RowKit Go.Shelf Ow Ed
theorem wordOf_digit (F : Nat → Int) (hf : ∀ i, 0 ≤ F i ∧ F i < 256) (n i : Nat) (hi : i < n) : wordOf F n / 2 ^ (8 * i) % 256 = F i := by
 obtain ⟨k, rfl⟩ : ∃ k, n = i + (1 + k) := ⟨n - i - 1, by omega⟩
 rw [wordOf_shift F i (1 + k), wordOf_shift (fun j => F (i + j)) 1 k]
 obtain ⟨b0, b1⟩ := wordOf_bd F hf i
 have hp : (2 : Int) ^ (8 * i) ≠ 0 := Int.ne_of_gt (Int.pow_pos (by decide))
 rw [Int.add_mul_ediv_right _ _ hp, Int.ediv_eq_zero_of_lt b0 b1, Int.zero_add]
 have e1 : wordOf (fun j => F (i + j)) 1 = F i := by simp [wordOf]
 have e2 : (2 : Int) ^ (8 * 1) = 256 := by decide
 rw [e1, e2, Int.add_mul_emod_self_right]
 have := hf i
 omega
theorem ints_word (F : Nat → Int) (hf : ∀ i, 0 ≤ F i ∧ F i < 256) (i : Nat) (hi : i < 32) : (intsOf (wordOf F 32)).getD i 0 = F i := by
 rw [List.getD_eq_getElem?_getD, intsOf_get _ i hi, Option.getD_some, wordOf_digit F hf 32 i hi]
theorem bytes_at (w : World) (pb po : Nat) (F : Nat → Int) (hf : ∀ i, 0 ≤ F i ∧ F i < 256) (hc : ∀ i, i < 32 → w.cell? ⟨pb, po + i, none⟩ = some (.int .u8 (F i))) : Lib.BytesIn w (some ⟨pb, po, none⟩) 32 (intsOf (wordOf F 32)) :=
 Lib.BytesIn.of_cells fun i hi => by
  have hadd : (⟨pb, po, none⟩ : Addr).add i = ⟨pb, po + i, none⟩ := by unfold Addr.add; split <;> simp_all
  have hi2 : i < 32 := by simpa [intsOf] using hi
  rw [hadd, hc i hi2, ints_word F hf i hi2]
theorem t_equal (A pb po c : Nat) (T : TypeId) (x : Int) (F : Nat → Int) (w : World) (hf : ∀ i, 0 ≤ F i ∧ F i < 256) (h0 : 0 ≤ x) (h1 : x < 2 ^ 256) (hA : Blk w A T (bytesV x)) (hc : ∀ i, i < 32 → w.cell? ⟨pb, po + i, none⟩ = some (.int .u8 (F i))) {b : Bool} (hb : decide (x = wordOf F 32) = b) :
  Tells 82 #[.slice (some ⟨A, 0, none⟩) 32 32, .slice (some ⟨pb, po, none⟩) 32 c] w (.bool b) := by
 have hw := wordOf_bd F hf 32
 have h2 : (2 : Int) ^ (8 * 32) = 2 ^ 256 := by decide
 rw [h2] at hw
 refine (Any.bytes_Equal_all laysnb115 _ _ 32 32 32 c (intsOf x) (intsOf (wordOf F 32)) w (by simp [intsOf]) (by simp [intsOf]) (bytes_in hA) (bytes_at w pb po F hf hc)).mono ?_
 rintro e w' ⟨rfl, rfl⟩
 exact ⟨by rw [bytesOf_same x _ h0 hw.1 h1 hw.2, hb], gb_refl _ _⟩
set_option maxRecDepth 100000 in
set_option maxHeartbeats 3200000 in
theorem fget_yes (pb po c : Nat) (F : Nat → Int) (w0 : World) (h32 : 32 ≤ c) (hf : ∀ i, 0 ≤ F i ∧ F i < 256) (hc : ∀ i, i < 32 → w0.cell? ⟨pb, po + i, none⟩ = some (.int .u8 (F i))) (hB : pb < w0.heap.size) (hlt : wordOf F 32 < 57896044618658097711785492504343953926634992332820282019728792003956564819949) :
  Calls Tryz.prog 57 #[.slice (some ⟨pb, po, none⟩) 32 c] w0 fun e w' => e = .returned (.tuple #[(fromN (wordOf F 32)).v, .bool true]) ∧ w0.grownBy w' none := by
 have HC := Lib.hid hc; clear hc
 have HF := Lib.hid hf; clear hf
 have hw := wordOf_bd F HF.out 32
 have h2 : (2 : Int) ^ (8 * 32) = 2 ^ 256 := by decide
 rw [h2] at hw
 have okN : (fromN (wordOf F 32)).Ok := (fromN_right hw.1 hw.2).ok
 have hD : decide ((Fe.m (fromN (wordOf F 32)) : Int) = wordOf F 32) = true := by
  rw [fromN_m, decide_eq_true_iff]
  have := hw.1
  omega
 have HD := Lib.hid hD; clear hD hw h2 hlt
 go_enter Tryz.func57, Tryz.ntmps57
 go_upto_region 1 with (fail)
 have G : w0.grownBy (w0.alloc (.cells zr5.toArray 34)) none := gb_alloc (gb_refl _ _) _
 have hR : Blk (w0.alloc (.cells zr5.toArray 34)) (w0.heap.size) 34 zr5 := Blk.new w0 zr5 _
 revert G hR
 generalize w0.alloc (.cells zr5.toArray 34) = W0
 intro G hR
 have Gs := G.size
 have HCW : Hid (∀ i, i < 32 → W0.cell? ⟨pb, po + i, none⟩ = some (.int .u8 (F i))) := Lib.hid (fun i hi => by rw [gb_cell G (p := ⟨pb, po + i, none⟩) hB (by simp)]; exact HC.out i hi)
 have G0x := G
 go_upto_region 3 with (fail)
 have Gs0 := G.size
 have l1hR := hR.lt
 refine Fg.rP [4] [.any, .any, .any, .any, .fresh 34 zr5 W0.heap.size, .any, .any, .any, .any, .val (Value.slice (some ⟨pb, po, none⟩) 32 c), .val ((fromN (wordOf F 32)).v)] 3 ?_ ?_
 ·refine Fg.vS rfl (by decide) (fun ac w h => ?_) ?_
  ·have e0 : _ = Value.slice (some ⟨pb, po, none⟩) 32 c := h.r 0
   exact Fg.vn (Value.slice (some ⟨pb, po, none⟩) 32 c) (Fg.run_move rfl e0)
  refine Fg.cS rfl (by decide) (fun ac w h => ?_) ?_
  ·have e9 : _ = Value.slice (some ⟨pb, po, none⟩) 32 c := h.d 9
   refine ⟨wants_none rfl, 81, #[Value.slice (some ⟨pb, po, none⟩) 32 c], Fg.run_call rfl rfl (by simp only [List.map_toArray, List.map_cons, List.map_nil, Act.eval, e9]) (Fg.run_enter Tryz.func81 (by kernel_rfl) (by kernel_rfl)), ?_⟩
   exact ((ofBytes_at pb po c F _ h32 HF.out (fun i hi => by rw [gb_cell (gb_trans G0x h.base) (p := ⟨pb, po + i, none⟩) hB (by simp)]; exact HC.out i hi) (Nat.lt_of_lt_of_le hB (gb_trans G0x h.base).size)).mono fun _ _ h => feOut_is h).mono fun _ _ ⟨he, hg⟩ => ⟨_, he, hg, rfl⟩
  refine ⟨⟨⟨_, rfl⟩, Fg.allocP (fun _ _ h k => gb_trans h k) rfl (by show 4 < 18; decide) fun ac w h => ?_⟩, ?_⟩
  ·refine ⟨wants_none rfl, w.alloc (.cells zr5.toArray 34), ?_, World.grownBy_alloc _ _ _, by simp, ⟨w.heap.size, rfl, h.base.size, Blk.new w zr5 _⟩⟩
   clear h
   go_simp
  trivial
 ·intro qa V1 g1 hsz hdf hrest hslots hpt
  obtain ⟨N4, hs4, hn4, hb4⟩ : ∃ N, qa.tmps.getD 4 undef = .pointer (some ⟨N, 0, none⟩) ∧ W0.heap.size ≤ N ∧ Blk V1 N 34 zr5 := hslots 4 (by kernel_rfl)
  obtain ⟨u9, hs9⟩ := Fg.slotv qa 9
  obtain ⟨x1, hx1⟩ : ∃ x : Fe, x = fromN (wordOf F 32) := ⟨_, rfl⟩
  obtain rfl := Fg.frame_by [4, 9, 10] (vs := [Value.slice (some ⟨pb, po, none⟩) 32 c, undef, Value.pointer (some ⟨w0.heap.size, 0, none⟩), Value.bool false, Value.pointer (some ⟨N4, 0, none⟩), Value.slice (some ⟨pb, po, none⟩) 32 c, Value.int .i64 32, Value.bool false, undef, u9, x1.v, undef, undef, undef, undef, undef, undef, undef]) hsz hrest (by kernel_rfl) rfl rfl ⟨hs4, hs9, (show qa.tmps.getD 10 undef = x1.v by rw [hx1]; exact hslots 10 (by kernel_rfl)), trivial⟩ hdf
  clear hsz hdf hrest hslots hpt hs4 hs9
  have Hx1 := Lib.hid hx1; clear hx1
  replace hR := hR.gn g1
  replace G := gb_trans G g1
  have okx1 : x1.Ok := by rw [Hx1.out]; exact okN
  have hw4 : w0.heap.size ≤ N4 := Nat.le_trans Gs0 hn4
  clear g1
  refine Fg.wpl_skip rfl rfl (Fg.run_store (cs := feL x1) rfl rfl rfl (hb4.there 0 5 (by show 0 + 5 ≤ 5; decide)) info_elem (feL_one _)) ?_
  replace hR := hR.setCells_other (C := N4) (cs := feL x1) 0 (by omega)
  replace hb4 : Blk (V1.setCells N4 0 (feL x1)) N4 34 (feL x1) := hb4.setAll rfl
  replace G := gb_setCells_new (cs := feL x1) G (B := N4) (hw4) 0
  revert hR hb4 G
  generalize V1.setCells N4 0 (feL x1) = W2
  intro hR hb4 G
  have G1x := G
  go_upto_region 4 with (fail)
  have Gs2 := G.size
  have l2hR := hR.lt
  have l2hb4 := hb4.lt
  refine Fg.rP [] [.any, .any, .any, .any, .any, .any, .any, .any, .any, .any, .any, .val (x1.v), .row 101 (bytesV (Fe.m (x1))) 32 W2.heap.size, .val (Value.slice (some ⟨pb, po, none⟩) 32 c), .val (Value.bool true), .val (Value.bool false)] 5 ?_ ?_
  ·refine Fg.vS rfl (by decide) (fun ac w h => ?_) ?_
   ·have e4 : _ = Value.pointer (some ⟨N4, 0, none⟩) := h.r 4
    exact Fg.vn x1.v (Fg.run_load rfl e4 ((hb4.gn h.base).range 0 (feL x1) rfl) Tryz.underlying34 rfl info_elem)
   refine Fg.cS rfl (by decide) (fun ac w h => ?_) ?_
   ·have e11 : _ = x1.v := h.d 11
    refine ⟨wants_none rfl, 53, #[x1.v], Fg.run_call rfl rfl (by simp only [List.map_toArray, List.map_cons, List.map_nil, Act.eval, e11]) (Fg.run_enter Tryz.func53 (by kernel_rfl) (by kernel_rfl)), ?_⟩
    exact (put_any _ _ okx1).mono fun _ _ ⟨NB, he, hg, hn, hb⟩ => ⟨_, he, hg, ⟨NB, rfl, Nat.le_trans h.base.size hn, hb⟩⟩
   refine Fg.vS rfl (by decide) (fun ac w h => ?_) ?_
   ·have e0 : _ = Value.slice (some ⟨pb, po, none⟩) 32 c := h.r 0
    exact Fg.vn (Value.slice (some ⟨pb, po, none⟩) 32 c) (Fg.run_move rfl e0)
   refine Fg.cS rfl (by decide) (fun ac w h => ?_) ?_
   ·obtain ⟨B12, e12, hn12, b12⟩ : ∃ N, ac.tmps.getD 12 undef = .slice (some ⟨N, 0, none⟩) 32 32 ∧ W2.heap.size ≤ N ∧ Blk w N 101 (bytesV (Fe.m (x1))) := h.dep 12 (by kernel_rfl)
    have e13 : _ = Value.slice (some ⟨pb, po, none⟩) 32 c := h.d 13
    refine ⟨wants_none rfl, 82, #[Value.slice (some ⟨B12, 0, none⟩) 32 32, Value.slice (some ⟨pb, po, none⟩) 32 c], Fg.run_call rfl rfl (by simp only [List.map_toArray, List.map_cons, List.map_nil, Act.eval, e12, e13]) (Fg.run_enter Tryz.func82 (by kernel_rfl) (by kernel_rfl)), ?_⟩
    exact (t_equal _ pb po c _ _ F _ HF.out (Int.natCast_nonneg _) (m_256 _) b12 (fun i hi => by rw [gb_cell (gb_trans G1x h.base) (p := ⟨pb, po + i, none⟩) hB (by simp)]; exact HC.out i hi) (by rw [Hx1.out]; exact HD.out)).mono fun _ _ ⟨he, hg⟩ => ⟨_, he, hg, rfl⟩
   refine Fg.vS rfl (by decide) (fun ac w h => ?_) ?_
   ·have e14 : _ = Value.bool true := h.d 14
    refine ⟨wants_none rfl, Value.bool false, w, ?_, gb_refl _ _, rfl⟩
    clear h
    simp only [execOp, Act.eval, e14]
    go_simp
   trivial
  ·intro qa V3 g3 hsz hdf hrest hslots hpt
   obtain ⟨⟨u11, hs11⟩, ⟨u12, hs12⟩, ⟨u13, hs13⟩, ⟨u14, hs14⟩, _⟩ := Fg.slotvs qa [11, 12, 13, 14]
   obtain rfl := Fg.frame_by [11, 12, 13, 14, 15] (vs := [Value.slice (some ⟨pb, po, none⟩) 32 c, undef, Value.pointer (some ⟨w0.heap.size, 0, none⟩), Value.bool false, Value.pointer (some ⟨N4, 0, none⟩), Value.slice (some ⟨pb, po, none⟩) 32 c, Value.int .i64 32, Value.bool false, undef, u9, x1.v, u11, u12, u13, u14, Value.bool false, undef, undef]) hsz hrest (by kernel_rfl) rfl rfl ⟨hs11, hs12, hs13, hs14, (show qa.tmps.getD 15 undef = Value.bool false from hslots 15 (by kernel_rfl)), trivial⟩ hdf
   clear hsz hdf hrest hslots hpt hs11 hs12 hs13 hs14
   replace hR := hR.gn g3
   replace hb4 := hb4.gn g3
   replace G := gb_trans G g3
   clear g3
   go_upto_region 6 with (fail)
   have Gs3 := G.size
   have l3hR := hR.lt
   have l3hb4 := hb4.lt
   refine Fg.rP [] [.any, .any, .any, .any, .any, .any, .any, .any, .any, .any, .any, .any, .any, .any, .any, .any, .any, .val (x1.v)] 1 ?_ ?_
   ·refine Fg.vS rfl (by decide) (fun ac w h => ?_) ?_
    ·have e4 : _ = Value.pointer (some ⟨N4, 0, none⟩) := h.r 4
     exact Fg.vn x1.v (Fg.run_load rfl e4 ((hb4.gn h.base).range 0 (feL x1) rfl) Tryz.underlying34 rfl info_elem)
    trivial
   ·intro qa V4 g4 hsz hdf hrest hslots hpt
    obtain rfl := Fg.frame_by [17] (vs := [Value.slice (some ⟨pb, po, none⟩) 32 c, undef, Value.pointer (some ⟨w0.heap.size, 0, none⟩), Value.bool false, Value.pointer (some ⟨N4, 0, none⟩), Value.slice (some ⟨pb, po, none⟩) 32 c, Value.int .i64 32, Value.bool false, undef, u9, x1.v, u11, u12, u13, u14, Value.bool false, undef, x1.v]) hsz hrest (by kernel_rfl) rfl rfl ⟨(show qa.tmps.getD 17 undef = x1.v from hslots 17 (by kernel_rfl)), trivial⟩ hdf
    clear hsz hdf hrest hslots hpt
    replace hR := hR.gn g4
    replace hb4 := hb4.gn g4
    replace G := gb_trans G g4
    clear g4
    refine Fg.wpl_skip rfl rfl (Fg.run_store (cs := feL x1) rfl rfl rfl (hR.there 0 5 (by show 0 + 5 ≤ 5; decide)) info_elem (feL_one _)) ?_
    replace hR : Blk (V4.setCells w0.heap.size 0 (feL x1)) w0.heap.size 34 (feL x1) := hR.setAll rfl
    replace hb4 := hb4.setCells_other (C := w0.heap.size) (cs := feL x1) 0 (by omega)
    replace G := gb_setCells_new (cs := feL x1) G (B := w0.heap.size) (by omega) 0
    revert hR hb4 G
    generalize V4.setCells w0.heap.size 0 (feL x1) = W5
    intro hR hb4 G
    go_wp2_with fail
    have hx1 := Hx1.out; subst hx1
    exact bodyPost_ret (v := .tuple #[(fromN (wordOf F 32)).v, .bool true]) (results_row_tmp Tryz.results57 _ _ w0.heap.size 34 (feL (fromN (wordOf F 32))).toArray (0, 0) _ rfl hR Tryz.underlying34 rfl info_elem rfl) rfl ⟨rfl, G⟩
set_option maxRecDepth 100000 in
set_option maxHeartbeats 3200000 in
theorem fget_no (pb po c : Nat) (F : Nat → Int) (w0 : World) (h32 : 32 ≤ c) (hf : ∀ i, 0 ≤ F i ∧ F i < 256) (hc : ∀ i, i < 32 → w0.cell? ⟨pb, po + i, none⟩ = some (.int .u8 (F i))) (hB : pb < w0.heap.size) (hlt : 57896044618658097711785492504343953926634992332820282019728792003956564819949 ≤ wordOf F 32) :
  Calls Tryz.prog 57 #[.slice (some ⟨pb, po, none⟩) 32 c] w0 fun e w' => e = .returned (.tuple #[(Fe.zeroF).v, .bool false]) ∧ w0.grownBy w' none := by
 have HC := Lib.hid hc; clear hc
 have HF := Lib.hid hf; clear hf
 have hw := wordOf_bd F HF.out 32
 have h2 : (2 : Int) ^ (8 * 32) = 2 ^ 256 := by decide
 rw [h2] at hw
 have okN : (fromN (wordOf F 32)).Ok := (fromN_right hw.1 hw.2).ok
 have hD : decide ((Fe.m (fromN (wordOf F 32)) : Int) = wordOf F 32) = false := by
  rw [fromN_m, decide_eq_false_iff_not]
  have := hw.1
  omega
 have HD := Lib.hid hD; clear hD hw h2 hlt
 go_enter Tryz.func57, Tryz.ntmps57
 go_upto_region 1 with (fail)
 have G : w0.grownBy (w0.alloc (.cells zr5.toArray 34)) none := gb_alloc (gb_refl _ _) _
 have hR : Blk (w0.alloc (.cells zr5.toArray 34)) (w0.heap.size) 34 zr5 := Blk.new w0 zr5 _
 revert G hR
 generalize w0.alloc (.cells zr5.toArray 34) = W0
 intro G hR
 have Gs := G.size
 have HCW : Hid (∀ i, i < 32 → W0.cell? ⟨pb, po + i, none⟩ = some (.int .u8 (F i))) := Lib.hid (fun i hi => by rw [gb_cell G (p := ⟨pb, po + i, none⟩) hB (by simp)]; exact HC.out i hi)
 have G0x := G
 go_upto_region 3 with (fail)
 have Gs0 := G.size
 have l1hR := hR.lt
 refine Fg.rP [4] [.any, .any, .any, .any, .fresh 34 zr5 W0.heap.size, .any, .any, .any, .any, .val (Value.slice (some ⟨pb, po, none⟩) 32 c), .val ((fromN (wordOf F 32)).v)] 3 ?_ ?_
 ·refine Fg.vS rfl (by decide) (fun ac w h => ?_) ?_
  ·have e0 : _ = Value.slice (some ⟨pb, po, none⟩) 32 c := h.r 0
   exact Fg.vn (Value.slice (some ⟨pb, po, none⟩) 32 c) (Fg.run_move rfl e0)
  refine Fg.cS rfl (by decide) (fun ac w h => ?_) ?_
  ·have e9 : _ = Value.slice (some ⟨pb, po, none⟩) 32 c := h.d 9
   refine ⟨wants_none rfl, 81, #[Value.slice (some ⟨pb, po, none⟩) 32 c], Fg.run_call rfl rfl (by simp only [List.map_toArray, List.map_cons, List.map_nil, Act.eval, e9]) (Fg.run_enter Tryz.func81 (by kernel_rfl) (by kernel_rfl)), ?_⟩
   exact ((ofBytes_at pb po c F _ h32 HF.out (fun i hi => by rw [gb_cell (gb_trans G0x h.base) (p := ⟨pb, po + i, none⟩) hB (by simp)]; exact HC.out i hi) (Nat.lt_of_lt_of_le hB (gb_trans G0x h.base).size)).mono fun _ _ h => feOut_is h).mono fun _ _ ⟨he, hg⟩ => ⟨_, he, hg, rfl⟩
  refine ⟨⟨⟨_, rfl⟩, Fg.allocP (fun _ _ h k => gb_trans h k) rfl (by show 4 < 18; decide) fun ac w h => ?_⟩, ?_⟩
  ·refine ⟨wants_none rfl, w.alloc (.cells zr5.toArray 34), ?_, World.grownBy_alloc _ _ _, by simp, ⟨w.heap.size, rfl, h.base.size, Blk.new w zr5 _⟩⟩
   clear h
   go_simp
  trivial
 ·intro qa V1 g1 hsz hdf hrest hslots hpt
  obtain ⟨N4, hs4, hn4, hb4⟩ : ∃ N, qa.tmps.getD 4 undef = .pointer (some ⟨N, 0, none⟩) ∧ W0.heap.size ≤ N ∧ Blk V1 N 34 zr5 := hslots 4 (by kernel_rfl)
  obtain ⟨u9, hs9⟩ := Fg.slotv qa 9
  obtain ⟨x1, hx1⟩ : ∃ x : Fe, x = fromN (wordOf F 32) := ⟨_, rfl⟩
  obtain rfl := Fg.frame_by [4, 9, 10] (vs := [Value.slice (some ⟨pb, po, none⟩) 32 c, undef, Value.pointer (some ⟨w0.heap.size, 0, none⟩), Value.bool false, Value.pointer (some ⟨N4, 0, none⟩), Value.slice (some ⟨pb, po, none⟩) 32 c, Value.int .i64 32, Value.bool false, undef, u9, x1.v, undef, undef, undef, undef, undef, undef, undef]) hsz hrest (by kernel_rfl) rfl rfl ⟨hs4, hs9, (show qa.tmps.getD 10 undef = x1.v by rw [hx1]; exact hslots 10 (by kernel_rfl)), trivial⟩ hdf
  clear hsz hdf hrest hslots hpt hs4 hs9
  have Hx1 := Lib.hid hx1; clear hx1
  replace hR := hR.gn g1
  replace G := gb_trans G g1
  have okx1 : x1.Ok := by rw [Hx1.out]; exact okN
  have hw4 : w0.heap.size ≤ N4 := Nat.le_trans Gs0 hn4
  clear g1
  refine Fg.wpl_skip rfl rfl (Fg.run_store (cs := feL x1) rfl rfl rfl (hb4.there 0 5 (by show 0 + 5 ≤ 5; decide)) info_elem (feL_one _)) ?_
  replace hR := hR.setCells_other (C := N4) (cs := feL x1) 0 (by omega)
  replace hb4 : Blk (V1.setCells N4 0 (feL x1)) N4 34 (feL x1) := hb4.setAll rfl
  replace G := gb_setCells_new (cs := feL x1) G (B := N4) (hw4) 0
  revert hR hb4 G
  generalize V1.setCells N4 0 (feL x1) = W2
  intro hR hb4 G
  have G1x := G
  go_upto_region 4 with (fail)
  have Gs2 := G.size
  have l2hR := hR.lt
  have l2hb4 := hb4.lt
  refine Fg.rP [] [.any, .any, .any, .any, .any, .any, .any, .any, .any, .any, .any, .val (x1.v), .row 101 (bytesV (Fe.m (x1))) 32 W2.heap.size, .val (Value.slice (some ⟨pb, po, none⟩) 32 c), .val (Value.bool false), .val (Value.bool true)] 5 ?_ ?_
  ·refine Fg.vS rfl (by decide) (fun ac w h => ?_) ?_
   ·have e4 : _ = Value.pointer (some ⟨N4, 0, none⟩) := h.r 4
    exact Fg.vn x1.v (Fg.run_load rfl e4 ((hb4.gn h.base).range 0 (feL x1) rfl) Tryz.underlying34 rfl info_elem)
   refine Fg.cS rfl (by decide) (fun ac w h => ?_) ?_
   ·have e11 : _ = x1.v := h.d 11
    refine ⟨wants_none rfl, 53, #[x1.v], Fg.run_call rfl rfl (by simp only [List.map_toArray, List.map_cons, List.map_nil, Act.eval, e11]) (Fg.run_enter Tryz.func53 (by kernel_rfl) (by kernel_rfl)), ?_⟩
    exact (put_any _ _ okx1).mono fun _ _ ⟨NB, he, hg, hn, hb⟩ => ⟨_, he, hg, ⟨NB, rfl, Nat.le_trans h.base.size hn, hb⟩⟩
   refine Fg.vS rfl (by decide) (fun ac w h => ?_) ?_
   ·have e0 : _ = Value.slice (some ⟨pb, po, none⟩) 32 c := h.r 0
    exact Fg.vn (Value.slice (some ⟨pb, po, none⟩) 32 c) (Fg.run_move rfl e0)
   refine Fg.cS rfl (by decide) (fun ac w h => ?_) ?_
   ·obtain ⟨B12, e12, hn12, b12⟩ : ∃ N, ac.tmps.getD 12 undef = .slice (some ⟨N, 0, none⟩) 32 32 ∧ W2.heap.size ≤ N ∧ Blk w N 101 (bytesV (Fe.m (x1))) := h.dep 12 (by kernel_rfl)
    have e13 : _ = Value.slice (some ⟨pb, po, none⟩) 32 c := h.d 13
    refine ⟨wants_none rfl, 82, #[Value.slice (some ⟨B12, 0, none⟩) 32 32, Value.slice (some ⟨pb, po, none⟩) 32 c], Fg.run_call rfl rfl (by simp only [List.map_toArray, List.map_cons, List.map_nil, Act.eval, e12, e13]) (Fg.run_enter Tryz.func82 (by kernel_rfl) (by kernel_rfl)), ?_⟩
    exact (t_equal _ pb po c _ _ F _ HF.out (Int.natCast_nonneg _) (m_256 _) b12 (fun i hi => by rw [gb_cell (gb_trans G1x h.base) (p := ⟨pb, po + i, none⟩) hB (by simp)]; exact HC.out i hi) (by rw [Hx1.out]; exact HD.out)).mono fun _ _ ⟨he, hg⟩ => ⟨_, he, hg, rfl⟩
   refine Fg.vS rfl (by decide) (fun ac w h => ?_) ?_
   ·have e14 : _ = Value.bool false := h.d 14
    refine ⟨wants_none rfl, Value.bool true, w, ?_, gb_refl _ _, rfl⟩
    clear h
    simp only [execOp, Act.eval, e14]
    go_simp
   trivial
  ·intro qa V3 g3 hsz hdf hrest hslots hpt
   obtain ⟨⟨u11, hs11⟩, ⟨u12, hs12⟩, ⟨u13, hs13⟩, ⟨u14, hs14⟩, _⟩ := Fg.slotvs qa [11, 12, 13, 14]
   obtain rfl := Fg.frame_by [11, 12, 13, 14, 15] (vs := [Value.slice (some ⟨pb, po, none⟩) 32 c, undef, Value.pointer (some ⟨w0.heap.size, 0, none⟩), Value.bool false, Value.pointer (some ⟨N4, 0, none⟩), Value.slice (some ⟨pb, po, none⟩) 32 c, Value.int .i64 32, Value.bool false, undef, u9, x1.v, u11, u12, u13, u14, Value.bool true, undef, undef]) hsz hrest (by kernel_rfl) rfl rfl ⟨hs11, hs12, hs13, hs14, (show qa.tmps.getD 15 undef = Value.bool true from hslots 15 (by kernel_rfl)), trivial⟩ hdf
   clear hsz hdf hrest hslots hpt hs11 hs12 hs13 hs14
   replace hR := hR.gn g3
   replace hb4 := hb4.gn g3
   replace G := gb_trans G g3
   clear g3
   go_upto_region 5 with (fail)
   have Gs3 := G.size
   have l3hR := hR.lt
   have l3hb4 := hb4.lt
   refine Fg.rP [] [.any, .any, .any, .any, .any, .any, .any, .any, .any, .any, .any, .any, .any, .any, .any, .any, .val (Fe.zeroF.v)] 1 ?_ ?_
   ·refine Fg.vS rfl (by decide) (fun ac w h => ?_) ?_
    ·exact Fg.vn Fe.zeroF.v (Fg.run_build (vs := #[]) rfl (by simp) (by kernel_rfl))
    trivial
   ·intro qa V4 g4 hsz hdf hrest hslots hpt
    obtain rfl := Fg.frame_by [16] (vs := [Value.slice (some ⟨pb, po, none⟩) 32 c, undef, Value.pointer (some ⟨w0.heap.size, 0, none⟩), Value.bool false, Value.pointer (some ⟨N4, 0, none⟩), Value.slice (some ⟨pb, po, none⟩) 32 c, Value.int .i64 32, Value.bool false, undef, u9, x1.v, u11, u12, u13, u14, Value.bool true, Fe.zeroF.v, undef]) hsz hrest (by kernel_rfl) rfl rfl ⟨(show qa.tmps.getD 16 undef = Fe.zeroF.v from hslots 16 (by kernel_rfl)), trivial⟩ hdf
    clear hsz hdf hrest hslots hpt
    replace hR := hR.gn g4
    replace hb4 := hb4.gn g4
    replace G := gb_trans G g4
    clear g4
    refine Fg.wpl_skip rfl rfl (Fg.run_store (cs := feL Fe.zeroF) rfl rfl rfl (hR.there 0 5 (by show 0 + 5 ≤ 5; decide)) info_elem (feL_one _)) ?_
    replace hR : Blk (V4.setCells w0.heap.size 0 (feL Fe.zeroF)) w0.heap.size 34 (feL Fe.zeroF) := hR.setAll rfl
    replace hb4 := hb4.setCells_other (C := w0.heap.size) (cs := feL Fe.zeroF) 0 (by omega)
    replace G := gb_setCells_new (cs := feL Fe.zeroF) G (B := w0.heap.size) (by omega) 0
    revert hR hb4 G
    generalize V4.setCells w0.heap.size 0 (feL Fe.zeroF) = W5
    intro hR hb4 G
    go_wp2_with fail
    exact bodyPost_ret (v := .tuple #[Fe.zeroF.v, .bool false]) (results_row_tmp Tryz.results57 _ _ w0.heap.size 34 (feL Fe.zeroF).toArray (0, 0) _ rfl hR Tryz.underlying34 rfl info_elem rfl) rfl ⟨rfl, G⟩
end
section
open Go.RowKit Ow
theorem info_u8z : ∃ i, Tryz.prog.info? 5 = some i ∧ i.zero = some (.int .u8 0) ∧ i.size = 1 ∧ i.bytes = 1 := by
 have h : (Tryz.prog.info? 5).map (fun i => (i.zero, i.size, i.bytes)) = some (some (.int .u8 0), 1, 1) := by kernel_rfl
 cases hi : Tryz.prog.info? 5 with
 | none => rw [hi] at h; cases h
 | some i =>
  rw [hi] at h
  simp only [Option.map_some, Option.some.injEq, Prod.mk.injEq] at h
  exact ⟨i, rfl, h.1, h.2.1, h.2.2⟩
theorem made_bytes (n : Nat) : madeCells (Value.int .u8 0).cells n = (List.replicate n (u8N 0)).toArray := by
 unfold madeCells u8N
 apply Array.ext
 ·simp
 ·intro i h1 h2
  simp [Value.cells, Nat.mod_one]
theorem make_bytes (n c : Nat) (w : World) (h : n ≤ c) (hc : c ≤ 140737488355328) : ∃ w', (Instr.makeSlice 22 (.int .i64 n) (.int .i64 c)).run Tryz.prog w = .ok (.slice (some ⟨w.heap.size, 0, none⟩) n c) w' ∧
  w.grownBy w' none ∧ w'.heap.size = w.heap.size + 1 ∧ Blk w' w.heap.size 5 (List.replicate c (u8N 0)) := by
 obtain ⟨i, hi, hz, hs, hb⟩ := info_u8z
 have h2 := run_make (P := Tryz.prog) w 22 5 i (.int .u8 0) Tryz.underlying22 hi hz .i64 .i64 n c (by omega) (by omega) (by rw [hb]; omega) (by omega)
 rw [hs, Nat.mul_one, Int.toNat_natCast, Int.toNat_natCast, made_bytes] at h2
 exact ⟨_, h2, gb_alloc (gb_refl _ _) _, by simp, Blk.new w _ _⟩
end
section
open Go.RowKit Ow
theorem getD_drop (l : List Nat) (k i : Nat) : (l.drop k).getD i 0 = l.getD (k + i) 0 := by
 rw [List.getD_eq_getElem?_getD, List.getElem?_drop, List.getD_eq_getElem?_getD]
theorem getD_take_lt (l : List Nat) (k : Nat) (h : ∀ i, l.getD i 0 < 256) (i : Nat) : (l.take k).getD i 0 < 256 := by
 rw [List.getD_eq_getElem?_getD, List.getElem?_take]
 split
 ·rw [← List.getD_eq_getElem?_getD]; exact h i
 ·decide
theorem getD_take (l : List Nat) (k i : Nat) (h : i < k) : (l.take k).getD i 0 = l.getD i 0 := by
 rw [List.getD_eq_getElem?_getD, List.getElem?_take, if_pos h, List.getD_eq_getElem?_getD]
theorem bytes_drop {w : World} {B cap k : Nat} {a a' : Option Addr} {l : List Nat} (h : BytesAt w B a cap l) (ha : k < cap → ∀ pb po, a = some ⟨pb, po, none⟩ → a' = some ⟨pb, po + k, none⟩) : BytesAt w B a' (cap - k) (l.drop k) := by
 have hf := h.fits
 have ht := h.top
 refine ⟨h.lim, by rw [List.length_drop]; omega, by omega, fun i => by rw [getD_drop]; exact h.byte _, ?_⟩
 by_cases h0 : l.length ≤ k
 ·exact Or.inl (by rw [List.length_drop]; omega)
 ·obtain ⟨pb, po, e, hlt, hc⟩ := h.cells.resolve_left (by omega)
  refine Or.inr ⟨pb, po + k, ha (by omega) pb po e, hlt, fun i hi => ?_⟩
  rw [List.length_drop] at hi
  rw [getD_drop, Nat.add_assoc]
  exact hc _ (by omega)
theorem bytes_take {w : World} {B cap k : Nat} {a a' : Option Addr} {l : List Nat} (h : BytesAt w B a cap l) (ha : ∀ pb po, a = some ⟨pb, po, none⟩ → a' = some ⟨pb, po, none⟩) : BytesAt w B a' cap (l.take k) := by
 have hl : (l.take k).length ≤ l.length := by rw [List.length_take]; omega
 refine ⟨h.lim, Nat.le_trans hl h.fits, h.top, getD_take_lt _ _ h.byte, ?_⟩
 rcases h.cells with h0 | ⟨pb, po, e, hlt, hc⟩
 ·exact Or.inl (by omega)
 ·refine Or.inr ⟨pb, po, ha pb po e, hlt, fun i hi => ?_⟩
  rw [List.length_take] at hi
  rw [getD_take _ _ _ (by omega)]
  exact hc _ (by omega)
set_option maxRecDepth 100000 in
theorem slice_to (a : Option Addr) (n cap k : Nat) (h : k ≤ cap) :
  ∃ a', (∀ w, (Instr.slice 22 (.slice a n cap) none (some (.int .i64 (k : Int))) none).run Tryz.prog w = .ok (.slice a' k cap) w) ∧ (∀ pb po, a = some ⟨pb, po, none⟩ → a' = some ⟨pb, po, none⟩) := by
 obtain ⟨j, hj, hs⟩ : ∃ j, Tryz.prog.info? (Tryz.prog.elem 22) = some j ∧ j.size = 1 := by
  have h1 : (Tryz.prog.info? (Tryz.prog.elem 22)).map (·.size) = some 1 := by kernel_rfl
  cases hq : Tryz.prog.info? (Tryz.prog.elem 22) with
  | none => rw [hq] at h1; cases h1
  | some j => rw [hq] at h1; exact ⟨j, rfl, by simpa using h1⟩
 refine ⟨if cap = 0 then a else a.map (·.add 0), fun w => ?_, fun pb po e => ?_⟩
 ·rw [run_slice_h w 22 a n cap Tryz.underlying22 .i64 _ (by omega) (by omega), Int.toNat_natCast]
  simp [sizeOf, typeInfo, hj, hs, sliced]
 ·rw [e]
  split
  ·rfl
  ·simp [Addr.add]
theorem own_of_blk {w : World} {g n base e : Nat} {xs : List Value} (h : Blk w g e xs) (hn : xs.length = n) (hb : base ≤ g) (hm : n ≤ 140737488355328) : w.ownsRow base e 1 (.slice (some ⟨g, 0, none⟩) n n) n xs :=
 ⟨by omega, Or.inr ⟨g, n, xs.toArray, rfl, hb, h, Nat.le_refl _, by unfold maxLen; omega, by simp [hn], by simp [← hn]⟩⟩
end
section
open Go.RowKit Ow Ed
set_option maxRecDepth 100000 in
set_option maxHeartbeats 1600000 in
theorem clone_bytes (B pb po n c : Nat) (l : List Nat) (w : World) (hn : l.length = n) (hn0 : 0 < n) (hn1 : n ≤ 1000000) (hP : BytesAt w B (some ⟨pb, po, none⟩) c l) :
  Calls Tryz.prog 56 #[.slice (some ⟨pb, po, none⟩) n c] w fun e w' => ∃ g c', e = .returned (.slice (some ⟨g, 0, none⟩) n c') ∧ w'.ownsRow w.heap.size 5 1 (.slice (some ⟨g, 0, none⟩) n c') n (l.map u8N) ∧ w.grownBy w' none := by
 have hb0 := Blk.new w [] 5
 have ho0 := own_of_blk (base := w.heap.size) hb0 rfl (Nat.le_refl _) (by decide)
 have hP1 := hP.kept (World.grownBy_alloc w (.cells #[] 5) none) (by simp)
 obtain ⟨v', w', hap, ho, hg⟩ := append_bytes (w.alloc (.cells #[] 5)) w.heap.size 0 B c n (.slice (some ⟨w.heap.size, 0, none⟩) 0 0) [] (some ⟨pb, po, none⟩) l ho0 hn hP1 (by omega) (by simp)
 have hg1 := gb_then (gb_alloc (gb_refl w none) (.cells #[] 5)) hg (Nat.le_refl _)
 rw [Nat.zero_add, List.nil_append] at ho
 obtain ⟨g, c', rfl, _⟩ := own_some ho hn0
 have H := Lib.hid (And.intro hap (And.intro ho hg1)); clear hap ho hg hg1 hb0 ho0 hP1 hP hn
 have hq := fun wx => Lib.run_eql_slice_nil (P := Tryz.prog) wx 22 5 (some ⟨pb, po, none⟩) n c 0 0 Tryz.underlying22
 go_enter Tryz.func56, Tryz.ntmps56
 go_wp2_with (at_builtin; refine wpList_append_run rfl (.tmp 5) (.tmp 6) 22 rfl rfl _ _ rfl rfl _ _ H.out.1 ?_)
 go_ret
 exact ⟨g, c', rfl, H.out.2.1, H.out.2.2⟩
end
section
open Go.RowKit Ow
theorem own_lt {w : World} {base e n g c : Nat} {xs : List Value} (h : w.ownsRow base e 1 (.slice (some ⟨g, 0, none⟩) n c) n xs) : g < w.heap.size ∧ base ≤ g ∧ n ≤ c := by
 rcases h.2 with ⟨h0, _⟩ | ⟨g', c', cur, e1, hb, hg, hnc, _⟩
 ·cases h0
 ·cases e1
  exact ⟨(Array.getElem?_eq_some_iff.1 hg).1, hb, hnc⟩
theorem own_set {w : World} {base e n g c i : Nat} {xs : List Value} (h : w.ownsRow base e 1 (.slice (some ⟨g, 0, none⟩) n c) n xs) (v : Value) : (w.setCell ⟨g, i, none⟩ v).ownsRow base e 1 (.slice (some ⟨g, 0, none⟩) n c) n (xs.set i v) := by
 refine ⟨by rw [List.length_set]; exact h.1, ?_⟩
 rcases h.2 with ⟨h0, _⟩ | ⟨g', c', cur, e1, hb, hg, hnc, hcm, hs, ht⟩
 ·cases h0
 ·cases e1
  have hblk : Blk w g e cur.toList := by unfold Blk; rw [hg]
  have h2 := hblk.set i v
  refine Or.inr ⟨g, c, (cur.toList.set i v).toArray, rfl, hb, h2, hnc, hcm, by simpa using hs, ?_⟩
  rw [← ht, List.take_set]
theorem own_free {w : World} {base e n g c : Nat} {xs : List Value} (h : w.ownsRow base e 1 (.slice (some ⟨g, 0, none⟩) n c) n xs) (i : Nat) : w.frozen? ⟨g, i, none⟩ = false := by
 rcases h.2 with ⟨h0, _⟩ | ⟨g', c', cur, e1, hb, hg, hnc, hcm, hs, ht⟩
 ·cases h0
 ·cases e1
  have hblk : Blk w g e cur.toList := by unfold Blk; rw [hg]
  exact hblk.free i
structure Elt (e st : TypeId) (bt : Nat) (z : Value) : Prop where
 sl : Tryz.prog.underlying st = some (.slice e)
 info : ∃ i, Tryz.prog.info? e = some i ∧ i.zero = some z ∧ i.size = 1 ∧ i.bytes = bt ∧ z.cells.size = 1
theorem append_cases {e st : TypeId} {bt : Nat} {z : Value} (hE : Elt e st bt z) (w : World) (base g n c : Nat) (xs : List Value) (hown : w.ownsRow base e 1 (.slice (some ⟨g, 0, none⟩) n c) n xs)
  (ad : Addr) (m cc : Nat) (news : List Value) (hl : news.length = m) (hnews : ∀ j u, news[j]? = some u → w.cell? (ad.add j) = some u) (h1 : ∀ u ∈ news, u.oneCell' = true) (hb : (n + m) * bt ≤ 140737488355328) (hb2 : n + m ≤ 140737488355328) :
  (n + m ≤ c ∧ ∃ w', (Builtin.append_ #[st, st] st #[.slice (some ⟨g, 0, none⟩) n c, .slice (some ad) m cc]).run Tryz.prog w = .ok (.slice (some ⟨g, 0, none⟩) (n + m) c) w' ∧ w'.ownsRow base e 1 (.slice (some ⟨g, 0, none⟩) (n + m) c) (n + m) (xs ++ news) ∧ w.grownBy w' (some g)) ∨
  (c < n + m ∧ ∃ c' w', (Builtin.append_ #[st, st] st #[.slice (some ⟨g, 0, none⟩) n c, .slice (some ad) m cc]).run Tryz.prog w = .ok (.slice (some ⟨w.heap.size, 0, none⟩) (n + m) c') w' ∧ w'.ownsRow w.heap.size e 1 (.slice (some ⟨w.heap.size, 0, none⟩) (n + m) c') (n + m) (xs ++ news) ∧ w.grownBy w' none) := by
 obtain ⟨i, hi, hz, hs, hby, hzc⟩ := hE.info
 by_cases h : n + m ≤ c
 ·obtain ⟨w', hr, ho, hg⟩ := run_append_fits w base st st e i 1 (P := Tryz.prog) hE.sl hi hs g n c xs hown ad m cc news (by omega) hnews h1 h
  exact Or.inl ⟨h, w', hr, ho, hg⟩
 ·refine Or.inr ⟨by omega, ?_⟩
  have hxl : xs.length = n := by have := hown.1; omega
  have hold : ∀ j v, xs[j]? = some v → w.cell? ((⟨g, 0, none⟩ : Addr).add j) = some v := fun j v hv => by
   have hadd : (⟨g, 0, none⟩ : Addr).add j = ⟨g, j, none⟩ := by unfold Addr.add; split <;> simp_all
   rw [hadd]; exact own_cell hown hv
  have hnc : Builtin.nextslicecap (n + m) c * i.bytes ≤ 281474976710656 := growslice_fits (by omega) (by rw [hby]; exact hb)
  have hr := run_append_grow (P := Tryz.prog) w st st e i z hE.sl hi hz ⟨g, 0, none⟩ n c xs (by rw [hs]; omega) hold ad m cc news (by rw [hs]; omega) hnews (by omega) (by omega) hnc
  have hge := grownCap_ge w (n + m) c e
  have hcm : grownCap w (n + m) c e ≤ maxLen := grownCap_le_maxLen w (n + m) c e (by unfold maxLen; omega)
  refine ⟨_, _, hr, ⟨by rw [List.length_append]; omega, Or.inr ⟨w.heap.size, _, _, rfl, Nat.le_refl _, heap_alloc_new w.drew _, hge, hcm, ?_, ?_⟩⟩, ⟨rfl, rfl, rfl, by simp, fun k hk _ => heap_alloc_old w.drew _ hk⟩⟩
  ·simp only [Array.size_append, List.size_toArray, size_zeroCells, hzc]
   omega
  ·simp only [Array.toList_append, List.append_assoc]
   rw [← List.append_assoc, List.take_left' (by rw [List.length_append]; omega)]
end
section
open Go.RowKit Ow Ed
def lowL (l : List Nat) : List Nat := l.set 31 (l.getD 31 0 % 128)
def lowF (l : List Nat) (i : Nat) : Int := ((lowL l).getD i 0 : Nat)
def topB (l : List Nat) : Bool := decide (128 ≤ l.getD 31 0)
theorem lowF_bd (l : List Nat) (h : ∀ i, l.getD i 0 < 256) (i : Nat) : 0 ≤ lowF l i ∧ lowF l i < 256 := by
 unfold lowF lowL
 refine ⟨Int.natCast_nonneg _, ?_⟩
 have h1 := h i
 have h2 := h 31
 rw [List.getD_eq_getElem?_getD, List.getElem?_set]
 rw [List.getD_eq_getElem?_getD] at h1 h2
 split
 ·split
  ·rw [Option.getD_some]; omega
  ·simp
 ·omega
theorem and_top (x : Nat) (h : x < 256) : (bits .and .u8 (x : Int) 128 != 0) = decide (128 ≤ x) := by
 have all : ∀ j : Fin 256, (bits .and .u8 (j.val : Int) 128 != 0) = decide (128 ≤ j.val) := by decide +kernel
 exact all ⟨x, h⟩
theorem not_top (x : Nat) (h : x < 256) : bits .andNot .u8 (x : Int) 128 = (x : Int) % 128 := by
 have all : ∀ j : Fin 256, bits .andNot .u8 (j.val : Int) 128 = (j.val : Int) % 128 := by decide +kernel
 exact all ⟨x, h⟩
theorem low_map (l : List Nat) : (l.map u8N).set 31 (.int .u8 (((l.getD 31 0 : Nat) : Int) % 128)) = (lowL l).map u8N := by
 unfold lowL
 rw [List.map_set]
 have e : (((l.getD 31 0 % 128 : Nat) : Int)) = ((l.getD 31 0 : Nat) : Int) % 128 := by omega
 unfold u8N
 rw [e]
theorem low_cell {w : World} {base g c : Nat} {l : List Nat} (hl : l.length = 32) (h : w.ownsRow base 5 1 (.slice (some ⟨g, 0, none⟩) 32 c) 32 ((lowL l).map u8N)) (i : Nat) (hi : i < 32) : w.cell? ⟨g, 0 + i, none⟩ = some (.int .u8 (lowF l i)) := by
 rw [Nat.zero_add]
 have hlen : (lowL l).length = 32 := by unfold lowL; rw [List.length_set, hl]
 refine own_cell h (j := i) ?_
 rw [List.getElem?_map, List.getElem?_eq_getElem (by omega)]
 unfold lowF
 rw [List.getD_eq_getElem?_getD, List.getElem?_eq_getElem (by omega)]
 rfl
def zeroP0 : Pt := ⟨Fe.zeroF, Fe.zeroF, Fe.zeroF, Fe.zeroF⟩
theorem across_ok (y : Fe) (odd : Bool) : (acrossF y odd).1.Ok := by
 unfold acrossF
 split
 ·exact root_ok _ _
 ·split
  ·exact root_ok _ _
  ·split
   ·exact zero_ok
   ·exact (Fe.neg_right _).ok
set_option maxRecDepth 100000 in
set_option maxHeartbeats 3200000 in
theorem get_B (B : Nat) (a : Option Addr) (c : Nat) (l : List Nat) (w0 : World) (HT0 : ETab w0) (hl : l.length = 32) (hP : BytesAt w0 B a c l) (hyp : 57896044618658097711785492504343953926634992332820282019728792003956564819949 ≤ wordOf (lowF l) 32) :
  Calls Tryz.prog 36 #[.slice a 32 c] w0 fun e w' => e = .returned (.tuple #[(zeroP0).v, .bool false]) ∧ w0.grownBy w' none := by
 have hc32 := hP.fits
 have hP0 := hP
 obtain ⟨pb, po, rfl, hpb, hcells⟩ := hP.cells.resolve_left (by omega)
 have hx := hP.byte 31
 have c31 : w0.cell? ⟨pb, po + 31, none⟩ = some (.int .u8 ((l.getD 31 0 : Nat) : Int)) := hcells 31 (by omega)
 have hBl := hP.lim
 have hand := and_top _ hx
 have hnot := not_top _ hx
 have HD := Lib.hid (And.intro hP (And.intro hl hc32)); clear hP hP0 hcells hl hc32
 obtain ⟨x, hxe⟩ : ∃ x, x = l.getD 31 0 := ⟨_, rfl⟩
 rw [← hxe] at hx c31 hand hnot
 have hodd : topB l = decide (128 ≤ x) := by unfold topB; rw [hxe]
 obtain ⟨odd, hoe⟩ : ∃ b, b = decide (128 ≤ x) := ⟨_, rfl⟩
 rw [← hoe] at hand hodd
 have HX := Lib.hid hxe; clear hxe
 have HO := Lib.hid hodd; clear hodd hoe
 go_enter Tryz.func36, Tryz.ntmps36
 have c31r := c31
 replace c31 : (w0.alloc (.cells zr20.toArray 36)).cell? ⟨pb, po + 31, none⟩ = some (.int .u8 (x : Int)) := by rw [gb_cell (gb_alloc (gb_refl w0 none) _) (p := ⟨pb, po + 31, none⟩) (by show pb < _; omega) (by simp)]; exact c31r
 go_upto_region 4 with (fail)
 clear c31 c31r
 have G : w0.grownBy (w0.alloc (.cells zr20.toArray 36)) none := gb_alloc (gb_refl _ _) _
 have HT : ETab (w0.alloc (.cells zr20.toArray 36)) := HT0.grown (gb_alloc (gb_refl _ _) _)
 have hR : Blk (w0.alloc (.cells zr20.toArray 36)) (w0.heap.size) 36 zr20 := Blk.new w0 zr20 _
 have hPW := HD.out.1.kept G (by simp)
 revert G HT hR hPW
 generalize w0.alloc (.cells zr20.toArray 36) = W0
 intro G HT hR hPW
 have lR := hR.lt
 go_wp2_with fail
 refine (clone_bytes B pb po 32 c l _ HD.out.2.1 (by decide) (by decide) hPW).mono ?_
 rintro e W1 ⟨g, c', rfl, ho, hg⟩
 obtain ⟨gl, gb_, hc'⟩ := own_lt ho
 have hlen : (l.map u8N).length = 32 := by rw [List.length_map]; exact HD.out.2.1
 have k31 : W1.cell? ⟨g, 31, none⟩ = some (.int .u8 (x : Int)) := own_cell ho (j := 31) (by rw [List.getElem?_map, List.getElem?_eq_getElem (by have := HD.out.2.1; omega), HX.out, List.getD_eq_getElem?_getD, List.getElem?_eq_getElem (by have := HD.out.2.1; omega)]; rfl)
 have f31 := own_free ho 31
 have ho5 := own_set (i := 31) ho (.int .u8 ((x : Int) % 128))
 rw [HX.out, low_map, ← HX.out] at ho5
 replace G := gb_set_new (gb_trans G hg) (p := ⟨g, 31, none⟩) (by show _ ≤ g; have := G.size; omega) (.int .u8 ((x : Int) % 128))
 replace hR := (hR.gn hg).other (a := ⟨g, 31, none⟩) (by show g ≠ _; omega) (.int .u8 ((x : Int) % 128))
 replace HT := (HT.grown hg).keep (gb_set (gb_refl _ (some g)) 31 (.int .u8 ((x : Int) % 128))) (HT0.noG (by omega))
 have HS := Lib.hid (And.intro ho5 (And.intro G (And.intro hR HT))); clear ho ho5 G hR HT hg hPW hlen
 go_upto_region 6 with (fail)
 obtain ⟨ho5, G, hR, HT⟩ := HS.out
 clear HS k31 f31 hand hnot
 revert ho5 G hR HT
 generalize W1.setCell ⟨g, 31, none⟩ (.int .u8 ((x : Int) % 128)) = W5
 intro ho5 G hR HT
 have hcg : ∀ i, i < 32 → W5.cell? ⟨g, 0 + i, none⟩ = some (.int .u8 (lowF l i)) := fun i hi => low_cell HD.out.2.1 ho5 i hi
 have hgl : g < W5.heap.size := (own_lt ho5).1
 have HCG := Lib.hid (And.intro hcg hgl); clear hcg ho5 hgl
 have GX := G
 have Gs0 := G.size
 have l1hR := hR.lt
 refine Fg.rP [6] [.any, .any, .any, .any, .any, .any, .fresh 34 zr5 W5.heap.size, .any, .any, .any, .any, .any, .any, .any, .any, .any, .any, .any, .any, .any, .any, .any, .any, .any, .any, .val (Value.tuple #[Fe.zeroF.v, .bool false]), .val (Value.slice (some ⟨g, 0, none⟩) 32 c'), .val (Value.tuple #[Fe.zeroF.v, .bool false]), .val (Fe.zeroF.v), .val (Value.bool false)] 6 ?_ ?_
 ·refine Fg.vS rfl (by decide) (fun ac w h => ?_) ?_
  ·have e5 : _ = Value.slice (some ⟨g, 0, none⟩) 32 c' := h.r 5
   exact Fg.vn (Value.slice (some ⟨g, 0, none⟩) 32 c') (Fg.run_move rfl e5)
  refine Fg.cS rfl (by decide) (fun ac w h => ?_) ?_
  ·have e26 : _ = Value.slice (some ⟨g, 0, none⟩) 32 c' := h.d 26
   refine ⟨wants_none rfl, 57, #[Value.slice (some ⟨g, 0, none⟩) 32 c'], Fg.run_call rfl rfl (by simp only [List.map_toArray, List.map_cons, List.map_nil, Act.eval, e26]) (Fg.run_enter Tryz.func57 (by kernel_rfl) (by kernel_rfl)), ?_⟩
   exact (fget_no g 0 c' (lowF l) _ hc' (lowF_bd l HD.out.1.byte) (fun i hi => by rw [gb_cell h.base (p := ⟨g, 0 + i, none⟩) HCG.out.2 (by simp)]; exact HCG.out.1 i hi) (Nat.lt_of_lt_of_le HCG.out.2 h.base.size) hyp).mono fun _ _ ⟨he, hg⟩ => ⟨_, he, hg, rfl⟩
  refine Fg.vS rfl (by decide) (fun ac w h => ?_) ?_
  ·have e27 : _ = Value.tuple #[Fe.zeroF.v, .bool false] := h.d 27
   exact Fg.vn (Value.tuple #[Fe.zeroF.v, .bool false]) (Fg.run_move rfl e27)
  refine Fg.vS rfl (by decide) (fun ac w h => ?_) ?_
  ·have e25 : _ = Value.tuple #[Fe.zeroF.v, .bool false] := h.d 25
   exact Fg.vn Fe.zeroF.v (Fg.run_extract rfl e25 rfl)
  refine Fg.vS rfl (by decide) (fun ac w h => ?_) ?_
  ·have e25 : _ = Value.tuple #[Fe.zeroF.v, .bool false] := h.d 25
   exact Fg.vn (Value.bool false) (Fg.run_extract rfl e25 rfl)
  refine ⟨⟨⟨_, rfl⟩, Fg.allocP (fun _ _ h k => gb_trans h k) rfl (by show 6 < 49; decide) fun ac w h => ?_⟩, ?_⟩
  ·refine ⟨wants_none rfl, w.alloc (.cells zr5.toArray 34), ?_, World.grownBy_alloc _ _ _, by simp, ⟨w.heap.size, rfl, h.base.size, Blk.new w zr5 _⟩⟩
   clear h
   go_simp
  trivial
 ·intro qa V1 g1 hsz hdf hrest hslots hpt
  obtain ⟨u0, hs0⟩ := Fg.slotv qa 0
  obtain ⟨u1, hs1⟩ := Fg.slotv qa 1
  obtain ⟨N6, hs6, hn6, hb6⟩ : ∃ N, qa.tmps.getD 6 undef = .pointer (some ⟨N, 0, none⟩) ∧ W5.heap.size ≤ N ∧ Blk V1 N 34 zr5 := hslots 6 (by kernel_rfl)
  obtain ⟨⟨u7, hs7⟩, ⟨u9, hs9⟩, ⟨u10, hs10⟩, ⟨u11, hs11⟩, ⟨u12, hs12⟩, ⟨u13, hs13⟩, ⟨u14, hs14⟩, ⟨u15, hs15⟩, ⟨u16, hs16⟩, ⟨u17, hs17⟩, ⟨u18, hs18⟩, ⟨u19, hs19⟩, ⟨u20, hs20⟩, ⟨u21, hs21⟩, ⟨u22, hs22⟩, ⟨u23, hs23⟩, ⟨u24, hs24⟩, ⟨u25, hs25⟩, ⟨u26, hs26⟩, ⟨u27, hs27⟩, ⟨u30, hs30⟩, ⟨u31, hs31⟩, ⟨u32, hs32⟩, ⟨u33, hs33⟩, ⟨u34, hs34⟩, ⟨u35, hs35⟩, ⟨u36, hs36⟩, ⟨u37, hs37⟩, ⟨u38, hs38⟩, ⟨u39, hs39⟩, ⟨u40, hs40⟩, ⟨u41, hs41⟩, ⟨u42, hs42⟩, ⟨u43, hs43⟩, ⟨u44, hs44⟩, ⟨u45, hs45⟩, ⟨u46, hs46⟩, ⟨u47, hs47⟩, ⟨u48, hs48⟩, _⟩ := Fg.slotvs qa [7, 9, 10, 11, 12, 13, 14, 15, 16, 17, 18, 19, 20, 21, 22, 23, 24, 25, 26, 27, 30, 31, 32, 33, 34, 35, 36, 37, 38, 39, 40, 41, 42, 43, 44, 45, 46, 47, 48]
  obtain rfl := Fg.frame_by [0, 1, 6, 7, 9, 10, 11, 12, 13, 14, 15, 16, 17, 18, 19, 20, 21, 22, 23, 24, 25, 26, 27, 28, 29, 30, 31, 32, 33, 34, 35, 36, 37, 38, 39, 40, 41, 42, 43, 44, 45, 46, 47, 48] (vs := [u0, u1, Value.pointer (some ⟨w0.heap.size, 0, none⟩), Value.bool false, Value.bool odd, Value.slice (some ⟨g, 0, none⟩) 32 c', Value.pointer (some ⟨N6, 0, none⟩), u7, undef, u9, u10, u11, u12, u13, u14, u15, u16, u17, u18, u19, u20, u21, u22, u23, u24, u25, u26, u27, Fe.zeroF.v, Value.bool false, u30, u31, u32, u33, u34, u35, u36, u37, u38, u39, u40, u41, u42, u43, u44, u45, u46, u47, u48]) hsz hrest (by kernel_rfl) rfl rfl ⟨hs0, hs1, hs6, hs7, hs9, hs10, hs11, hs12, hs13, hs14, hs15, hs16, hs17, hs18, hs19, hs20, hs21, hs22, hs23, hs24, hs25, hs26, hs27, (show qa.tmps.getD 28 undef = Fe.zeroF.v from hslots 28 (by kernel_rfl)), (show qa.tmps.getD 29 undef = Value.bool false from hslots 29 (by kernel_rfl)), hs30, hs31, hs32, hs33, hs34, hs35, hs36, hs37, hs38, hs39, hs40, hs41, hs42, hs43, hs44, hs45, hs46, hs47, hs48, trivial⟩ hdf
  clear hsz hdf hrest hslots hpt hs0 hs1 hs6 hs7 hs9 hs10 hs11 hs12 hs13 hs14 hs15 hs16 hs17 hs18 hs19 hs20 hs21 hs22 hs23 hs24 hs25 hs26 hs27 hs30 hs31 hs32 hs33 hs34 hs35 hs36 hs37 hs38 hs39 hs40 hs41 hs42 hs43 hs44 hs45 hs46 hs47 hs48
  replace hR := hR.gn g1
  replace G := gb_trans G g1
  replace HT := HT.grown g1
  have hw6 : w0.heap.size ≤ N6 := Nat.le_trans Gs0 hn6
  clear g1
  refine Fg.wpl_skip rfl rfl (Fg.run_store (cs := feL Fe.zeroF) rfl rfl rfl (hb6.there 0 5 (by show 0 + 5 ≤ 5; decide)) info_elem (feL_one _)) ?_
  replace hR := hR.setCells_other (C := N6) (cs := feL Fe.zeroF) 0 (by omega)
  replace hb6 : Blk (V1.setCells N6 0 (feL Fe.zeroF)) N6 34 (feL Fe.zeroF) := hb6.setAll rfl
  replace G := gb_setCells_new (cs := feL Fe.zeroF) G (B := N6) (hw6) 0
  replace HT := HT.keep (gb_setCells (cs := feL Fe.zeroF) (gb_refl _ (some N6)) 0) (HT0.noG (hw6))
  revert hR hb6 G HT
  generalize V1.setCells N6 0 (feL Fe.zeroF) = W2
  intro hR hb6 G HT
  go_upto_region 8 with (fail)
  have Gs2 := G.size
  have l2hR := hR.lt
  have l2hb6 := hb6.lt
  refine Fg.rP [] [.any, .any, .any, .any, .any, .any, .any, .any, .any, .any, .any, .any, .any, .any, .any, .any, .any, .any, .any, .any, .any, .any, .any, .any, .any, .any, .any, .any, .any, .any, .any, .any, .val (zeroP0.v)] 1 ?_ ?_
  ·refine Fg.vS rfl (by decide) (fun ac w h => ?_) ?_
   ·exact Fg.vn zeroP0.v (Fg.run_build (vs := #[]) rfl (by simp) (by kernel_rfl))
   trivial
  ·intro qa V3 g3 hsz hdf hrest hslots hpt
   obtain ⟨u30, hs30⟩ := Fg.slotv qa 30
   obtain ⟨u31, hs31⟩ := Fg.slotv qa 31
   obtain rfl := Fg.frame_by [30, 31, 32] (vs := [u0, u1, Value.pointer (some ⟨w0.heap.size, 0, none⟩), Value.bool false, Value.bool odd, Value.slice (some ⟨g, 0, none⟩) 32 c', Value.pointer (some ⟨N6, 0, none⟩), Value.bool false, undef, u9, u10, u11, u12, u13, u14, u15, u16, u17, u18, u19, u20, u21, u22, u23, u24, u25, u26, u27, Fe.zeroF.v, Value.bool false, u30, u31, zeroP0.v, u33, u34, u35, u36, u37, u38, u39, u40, u41, u42, u43, u44, u45, u46, u47, u48]) hsz hrest (by kernel_rfl) rfl rfl ⟨hs30, hs31, (show qa.tmps.getD 32 undef = zeroP0.v from hslots 32 (by kernel_rfl)), trivial⟩ hdf
   clear hsz hdf hrest hslots hpt hs30 hs31
   replace hR := hR.gn g3
   replace hb6 := hb6.gn g3
   replace G := gb_trans G g3
   replace HT := HT.grown g3
   clear g3
   refine Fg.wpl_skip rfl rfl (Fg.run_store (cs := ptL zeroP0) rfl rfl rfl (hR.there 0 20 (by show 0 + 20 ≤ 20; decide)) info_point (ptL_one _)) ?_
   replace hR : Blk (V3.setCells w0.heap.size 0 (ptL zeroP0)) w0.heap.size 36 (ptL zeroP0) := hR.setAll rfl
   replace hb6 := hb6.setCells_other (C := w0.heap.size) (cs := ptL zeroP0) 0 (by omega)
   replace G := gb_setCells_new (cs := ptL zeroP0) G (B := w0.heap.size) (by omega) 0
   replace HT := HT.keep (gb_setCells (cs := ptL zeroP0) (gb_refl _ (some w0.heap.size)) 0) (HT0.noG (by omega))
   revert hR hb6 G HT
   generalize V3.setCells w0.heap.size 0 (ptL zeroP0) = W4
   intro hR hb6 G HT
   go_wp2_with fail
   exact bodyPost_ret (v := .tuple #[zeroP0.v, .bool false]) (results_row_tmp Tryz.results36 _ _ w0.heap.size 36 (ptL zeroP0).toArray (0, 0) _ rfl hR Tryz.underlying36 rfl info_point rfl) rfl ⟨rfl, G⟩
set_option maxRecDepth 100000 in
set_option maxHeartbeats 3200000 in
theorem get_C (B : Nat) (a : Option Addr) (c : Nat) (l : List Nat) (w0 : World) (HT0 : ETab w0) (hl : l.length = 32) (hP : BytesAt w0 B a c l) (hyp : wordOf (lowF l) 32 < 57896044618658097711785492504343953926634992332820282019728792003956564819949) (xa : Fe) (hacr : acrossF (fromN (wordOf (lowF l) 32)) (topB l) = (xa, false)) :
  Calls Tryz.prog 36 #[.slice a 32 c] w0 fun e w' => e = .returned (.tuple #[(zeroP0).v, .bool false]) ∧ w0.grownBy w' none := by
 have hc32 := hP.fits
 have hP0 := hP
 obtain ⟨pb, po, rfl, hpb, hcells⟩ := hP.cells.resolve_left (by omega)
 have hx := hP.byte 31
 have c31 : w0.cell? ⟨pb, po + 31, none⟩ = some (.int .u8 ((l.getD 31 0 : Nat) : Int)) := hcells 31 (by omega)
 have hBl := hP.lim
 have hand := and_top _ hx
 have hnot := not_top _ hx
 have HD := Lib.hid (And.intro hP (And.intro hl hc32)); clear hP hP0 hcells hl hc32
 obtain ⟨x, hxe⟩ : ∃ x, x = l.getD 31 0 := ⟨_, rfl⟩
 rw [← hxe] at hx c31 hand hnot
 have hodd : topB l = decide (128 ≤ x) := by unfold topB; rw [hxe]
 obtain ⟨odd, hoe⟩ : ∃ b, b = decide (128 ≤ x) := ⟨_, rfl⟩
 rw [← hoe] at hand hodd
 have HX := Lib.hid hxe; clear hxe
 have HO := Lib.hid hodd; clear hodd hoe
 go_enter Tryz.func36, Tryz.ntmps36
 have c31r := c31
 replace c31 : (w0.alloc (.cells zr20.toArray 36)).cell? ⟨pb, po + 31, none⟩ = some (.int .u8 (x : Int)) := by rw [gb_cell (gb_alloc (gb_refl w0 none) _) (p := ⟨pb, po + 31, none⟩) (by show pb < _; omega) (by simp)]; exact c31r
 go_upto_region 4 with (fail)
 clear c31 c31r
 have G : w0.grownBy (w0.alloc (.cells zr20.toArray 36)) none := gb_alloc (gb_refl _ _) _
 have HT : ETab (w0.alloc (.cells zr20.toArray 36)) := HT0.grown (gb_alloc (gb_refl _ _) _)
 have hR : Blk (w0.alloc (.cells zr20.toArray 36)) (w0.heap.size) 36 zr20 := Blk.new w0 zr20 _
 have hPW := HD.out.1.kept G (by simp)
 revert G HT hR hPW
 generalize w0.alloc (.cells zr20.toArray 36) = W0
 intro G HT hR hPW
 have lR := hR.lt
 go_wp2_with fail
 refine (clone_bytes B pb po 32 c l _ HD.out.2.1 (by decide) (by decide) hPW).mono ?_
 rintro e W1 ⟨g, c', rfl, ho, hg⟩
 obtain ⟨gl, gb_, hc'⟩ := own_lt ho
 have hlen : (l.map u8N).length = 32 := by rw [List.length_map]; exact HD.out.2.1
 have k31 : W1.cell? ⟨g, 31, none⟩ = some (.int .u8 (x : Int)) := own_cell ho (j := 31) (by rw [List.getElem?_map, List.getElem?_eq_getElem (by have := HD.out.2.1; omega), HX.out, List.getD_eq_getElem?_getD, List.getElem?_eq_getElem (by have := HD.out.2.1; omega)]; rfl)
 have f31 := own_free ho 31
 have ho5 := own_set (i := 31) ho (.int .u8 ((x : Int) % 128))
 rw [HX.out, low_map, ← HX.out] at ho5
 replace G := gb_set_new (gb_trans G hg) (p := ⟨g, 31, none⟩) (by show _ ≤ g; have := G.size; omega) (.int .u8 ((x : Int) % 128))
 replace hR := (hR.gn hg).other (a := ⟨g, 31, none⟩) (by show g ≠ _; omega) (.int .u8 ((x : Int) % 128))
 replace HT := (HT.grown hg).keep (gb_set (gb_refl _ (some g)) 31 (.int .u8 ((x : Int) % 128))) (HT0.noG (by omega))
 have HS := Lib.hid (And.intro ho5 (And.intro G (And.intro hR HT))); clear ho ho5 G hR HT hg hPW hlen
 go_upto_region 6 with (fail)
 obtain ⟨ho5, G, hR, HT⟩ := HS.out
 clear HS k31 f31 hand hnot
 revert ho5 G hR HT
 generalize W1.setCell ⟨g, 31, none⟩ (.int .u8 ((x : Int) % 128)) = W5
 intro ho5 G hR HT
 have hcg : ∀ i, i < 32 → W5.cell? ⟨g, 0 + i, none⟩ = some (.int .u8 (lowF l i)) := fun i hi => low_cell HD.out.2.1 ho5 i hi
 have hgl : g < W5.heap.size := (own_lt ho5).1
 have HCG := Lib.hid (And.intro hcg hgl); clear hcg ho5 hgl
 have GX := G
 have Gs0 := G.size
 have l1hR := hR.lt
 refine Fg.rP [6] [.any, .any, .any, .any, .any, .any, .fresh 34 zr5 W5.heap.size, .any, .any, .any, .any, .any, .any, .any, .any, .any, .any, .any, .any, .any, .any, .any, .any, .any, .any, .val (Value.tuple #[(fromN (wordOf (lowF l) 32)).v, .bool true]), .val (Value.slice (some ⟨g, 0, none⟩) 32 c'), .val (Value.tuple #[(fromN (wordOf (lowF l) 32)).v, .bool true]), .val ((fromN (wordOf (lowF l) 32)).v), .val (Value.bool true)] 6 ?_ ?_
 ·refine Fg.vS rfl (by decide) (fun ac w h => ?_) ?_
  ·have e5 : _ = Value.slice (some ⟨g, 0, none⟩) 32 c' := h.r 5
   exact Fg.vn (Value.slice (some ⟨g, 0, none⟩) 32 c') (Fg.run_move rfl e5)
  refine Fg.cS rfl (by decide) (fun ac w h => ?_) ?_
  ·have e26 : _ = Value.slice (some ⟨g, 0, none⟩) 32 c' := h.d 26
   refine ⟨wants_none rfl, 57, #[Value.slice (some ⟨g, 0, none⟩) 32 c'], Fg.run_call rfl rfl (by simp only [List.map_toArray, List.map_cons, List.map_nil, Act.eval, e26]) (Fg.run_enter Tryz.func57 (by kernel_rfl) (by kernel_rfl)), ?_⟩
   exact (fget_yes g 0 c' (lowF l) _ hc' (lowF_bd l HD.out.1.byte) (fun i hi => by rw [gb_cell h.base (p := ⟨g, 0 + i, none⟩) HCG.out.2 (by simp)]; exact HCG.out.1 i hi) (Nat.lt_of_lt_of_le HCG.out.2 h.base.size) hyp).mono fun _ _ ⟨he, hg⟩ => ⟨_, he, hg, rfl⟩
  refine Fg.vS rfl (by decide) (fun ac w h => ?_) ?_
  ·have e27 : _ = Value.tuple #[(fromN (wordOf (lowF l) 32)).v, .bool true] := h.d 27
   exact Fg.vn (Value.tuple #[(fromN (wordOf (lowF l) 32)).v, .bool true]) (Fg.run_move rfl e27)
  refine Fg.vS rfl (by decide) (fun ac w h => ?_) ?_
  ·have e25 : _ = Value.tuple #[(fromN (wordOf (lowF l) 32)).v, .bool true] := h.d 25
   exact Fg.vn ((fromN (wordOf (lowF l) 32)).v) (Fg.run_extract rfl e25 rfl)
  refine Fg.vS rfl (by decide) (fun ac w h => ?_) ?_
  ·have e25 : _ = Value.tuple #[(fromN (wordOf (lowF l) 32)).v, .bool true] := h.d 25
   exact Fg.vn (Value.bool true) (Fg.run_extract rfl e25 rfl)
  refine ⟨⟨⟨_, rfl⟩, Fg.allocP (fun _ _ h k => gb_trans h k) rfl (by show 6 < 49; decide) fun ac w h => ?_⟩, ?_⟩
  ·refine ⟨wants_none rfl, w.alloc (.cells zr5.toArray 34), ?_, World.grownBy_alloc _ _ _, by simp, ⟨w.heap.size, rfl, h.base.size, Blk.new w zr5 _⟩⟩
   clear h
   go_simp
  trivial
 ·intro qa V1 g1 hsz hdf hrest hslots hpt
  obtain ⟨u0, hs0⟩ := Fg.slotv qa 0
  obtain ⟨u1, hs1⟩ := Fg.slotv qa 1
  obtain ⟨N6, hs6, hn6, hb6⟩ : ∃ N, qa.tmps.getD 6 undef = .pointer (some ⟨N, 0, none⟩) ∧ W5.heap.size ≤ N ∧ Blk V1 N 34 zr5 := hslots 6 (by kernel_rfl)
  obtain ⟨⟨u7, hs7⟩, ⟨u9, hs9⟩, ⟨u10, hs10⟩, ⟨u11, hs11⟩, ⟨u12, hs12⟩, ⟨u13, hs13⟩, ⟨u14, hs14⟩, ⟨u15, hs15⟩, ⟨u16, hs16⟩, ⟨u17, hs17⟩, ⟨u18, hs18⟩, ⟨u19, hs19⟩, ⟨u20, hs20⟩, ⟨u21, hs21⟩, ⟨u22, hs22⟩, ⟨u23, hs23⟩, ⟨u24, hs24⟩, ⟨u25, hs25⟩, ⟨u26, hs26⟩, ⟨u27, hs27⟩, _⟩ := Fg.slotvs qa [7, 9, 10, 11, 12, 13, 14, 15, 16, 17, 18, 19, 20, 21, 22, 23, 24, 25, 26, 27]
  obtain ⟨x1, hx1⟩ : ∃ x : Fe, x = fromN (wordOf (lowF l) 32) := ⟨_, rfl⟩
  obtain ⟨⟨u30, hs30⟩, ⟨u31, hs31⟩, ⟨u32, hs32⟩, ⟨u33, hs33⟩, ⟨u34, hs34⟩, ⟨u35, hs35⟩, ⟨u36, hs36⟩, ⟨u37, hs37⟩, ⟨u38, hs38⟩, ⟨u39, hs39⟩, ⟨u40, hs40⟩, ⟨u41, hs41⟩, ⟨u42, hs42⟩, ⟨u43, hs43⟩, ⟨u44, hs44⟩, ⟨u45, hs45⟩, ⟨u46, hs46⟩, ⟨u47, hs47⟩, ⟨u48, hs48⟩, _⟩ := Fg.slotvs qa [30, 31, 32, 33, 34, 35, 36, 37, 38, 39, 40, 41, 42, 43, 44, 45, 46, 47, 48]
  obtain rfl := Fg.frame_by [0, 1, 6, 7, 9, 10, 11, 12, 13, 14, 15, 16, 17, 18, 19, 20, 21, 22, 23, 24, 25, 26, 27, 28, 29, 30, 31, 32, 33, 34, 35, 36, 37, 38, 39, 40, 41, 42, 43, 44, 45, 46, 47, 48] (vs := [u0, u1, Value.pointer (some ⟨w0.heap.size, 0, none⟩), Value.bool false, Value.bool odd, Value.slice (some ⟨g, 0, none⟩) 32 c', Value.pointer (some ⟨N6, 0, none⟩), u7, undef, u9, u10, u11, u12, u13, u14, u15, u16, u17, u18, u19, u20, u21, u22, u23, u24, u25, u26, u27, x1.v, Value.bool true, u30, u31, u32, u33, u34, u35, u36, u37, u38, u39, u40, u41, u42, u43, u44, u45, u46, u47, u48]) hsz hrest (by kernel_rfl) rfl rfl ⟨hs0, hs1, hs6, hs7, hs9, hs10, hs11, hs12, hs13, hs14, hs15, hs16, hs17, hs18, hs19, hs20, hs21, hs22, hs23, hs24, hs25, hs26, hs27, (show qa.tmps.getD 28 undef = x1.v by rw [hx1]; exact hslots 28 (by kernel_rfl)), (show qa.tmps.getD 29 undef = Value.bool true from hslots 29 (by kernel_rfl)), hs30, hs31, hs32, hs33, hs34, hs35, hs36, hs37, hs38, hs39, hs40, hs41, hs42, hs43, hs44, hs45, hs46, hs47, hs48, trivial⟩ hdf
  clear hsz hdf hrest hslots hpt hs0 hs1 hs6 hs7 hs9 hs10 hs11 hs12 hs13 hs14 hs15 hs16 hs17 hs18 hs19 hs20 hs21 hs22 hs23 hs24 hs25 hs26 hs27 hs30 hs31 hs32 hs33 hs34 hs35 hs36 hs37 hs38 hs39 hs40 hs41 hs42 hs43 hs44 hs45 hs46 hs47 hs48
  have Hx1 := Lib.hid hx1; clear hx1
  replace hR := hR.gn g1
  replace G := gb_trans G g1
  replace HT := HT.grown g1
  have okx1 : x1.Ok := by rw [Hx1.out]; exact (fromN_right (wordOf_bd (lowF l) (lowF_bd l HD.out.1.byte) 32).1 (wordOf_bd (lowF l) (lowF_bd l HD.out.1.byte) 32).2).ok
  have hw6 : w0.heap.size ≤ N6 := Nat.le_trans Gs0 hn6
  clear g1
  refine Fg.wpl_skip rfl rfl (Fg.run_store (cs := feL x1) rfl rfl rfl (hb6.there 0 5 (by show 0 + 5 ≤ 5; decide)) info_elem (feL_one _)) ?_
  replace hR := hR.setCells_other (C := N6) (cs := feL x1) 0 (by omega)
  replace hb6 : Blk (V1.setCells N6 0 (feL x1)) N6 34 (feL x1) := hb6.setAll rfl
  replace G := gb_setCells_new (cs := feL x1) G (B := N6) (hw6) 0
  replace HT := HT.keep (gb_setCells (cs := feL x1) (gb_refl _ (some N6)) 0) (HT0.noG (hw6))
  revert hR hb6 G HT
  generalize V1.setCells N6 0 (feL x1) = W2
  intro hR hb6 G HT
  have hac : acrossF x1 odd = (xa, false) := by rw [Hx1.out, ← HO.out]; exact hacr
  have hxa : xa.Ok := by have := across_ok x1 odd; rw [hac] at this; exact this
  have HAC := Lib.hid hac; clear hac
  go_upto_region 9 with (fail)
  have Gs2 := G.size
  have l2hR := hR.lt
  have l2hb6 := hb6.lt
  refine Fg.rP [8] [.any, .any, .any, .any, .any, .any, .any, .any, .fresh 34 zr5 W2.heap.size, .any, .any, .any, .any, .any, .any, .any, .any, .any, .any, .any, .any, .any, .any, .any, .any, .any, .any, .any, .any, .any, .any, .any, .any, .val (Value.tuple #[xa.v, .bool false]), .val (x1.v), .val (Value.bool odd), .val (Value.tuple #[xa.v, .bool false]), .val (xa.v), .val (Value.bool false)] 7 ?_ ?_
  ·refine Fg.vS rfl (by decide) (fun ac w h => ?_) ?_
   ·have e6 : _ = Value.pointer (some ⟨N6, 0, none⟩) := h.r 6
    exact Fg.vn x1.v (Fg.run_load rfl e6 ((hb6.gn h.base).range 0 (feL x1) rfl) Tryz.underlying34 rfl info_elem)
   refine Fg.vS rfl (by decide) (fun ac w h => ?_) ?_
   ·have e4 : _ = Value.bool odd := h.r 4
    exact Fg.vn (Value.bool odd) (Fg.run_move rfl e4)
   refine Fg.cS rfl (by decide) (fun ac w h => ?_) ?_
   ·have e34 : _ = x1.v := h.d 34
    have e35 : _ = Value.bool odd := h.d 35
    refine ⟨wants_none rfl, 58, #[x1.v, Value.bool odd], Fg.run_call rfl rfl (by simp only [List.map_toArray, List.map_cons, List.map_nil, Act.eval, e34, e35]) (Fg.run_enter Tryz.func58 (by kernel_rfl) (by kernel_rfl)), ?_⟩
    exact ((show Tells 58 #[x1.v, .bool odd] w (.tuple #[xa.v, .bool false]) from by have hh := edAcross x1 odd w (HT.grown h.base) okx1; rw [HAC.out] at hh; exact hh)).mono fun _ _ ⟨he, hg⟩ => ⟨_, he, hg, rfl⟩
   refine Fg.vS rfl (by decide) (fun ac w h => ?_) ?_
   ·have e36 : _ = Value.tuple #[xa.v, .bool false] := h.d 36
    exact Fg.vn (Value.tuple #[xa.v, .bool false]) (Fg.run_move rfl e36)
   refine Fg.vS rfl (by decide) (fun ac w h => ?_) ?_
   ·have e33 : _ = Value.tuple #[xa.v, .bool false] := h.d 33
    exact Fg.vn xa.v (Fg.run_extract rfl e33 rfl)
   refine Fg.vS rfl (by decide) (fun ac w h => ?_) ?_
   ·have e33 : _ = Value.tuple #[xa.v, .bool false] := h.d 33
    exact Fg.vn (Value.bool false) (Fg.run_extract rfl e33 rfl)
   refine ⟨⟨⟨_, rfl⟩, Fg.allocP (fun _ _ h k => gb_trans h k) rfl (by show 8 < 49; decide) fun ac w h => ?_⟩, ?_⟩
   ·refine ⟨wants_none rfl, w.alloc (.cells zr5.toArray 34), ?_, World.grownBy_alloc _ _ _, by simp, ⟨w.heap.size, rfl, h.base.size, Blk.new w zr5 _⟩⟩
    clear h
    go_simp
   trivial
  ·intro qa V3 g3 hsz hdf hrest hslots hpt
   obtain ⟨N8, hs8, hn8, hb8⟩ : ∃ N, qa.tmps.getD 8 undef = .pointer (some ⟨N, 0, none⟩) ∧ W2.heap.size ≤ N ∧ Blk V3 N 34 zr5 := hslots 8 (by kernel_rfl)
   obtain ⟨⟨u30, hs30⟩, ⟨u31, hs31⟩, ⟨u33, hs33⟩, ⟨u34, hs34⟩, ⟨u35, hs35⟩, ⟨u36, hs36⟩, _⟩ := Fg.slotvs qa [30, 31, 33, 34, 35, 36]
   obtain rfl := Fg.frame_by [8, 30, 31, 33, 34, 35, 36, 37, 38] (vs := [u0, u1, Value.pointer (some ⟨w0.heap.size, 0, none⟩), Value.bool false, Value.bool odd, Value.slice (some ⟨g, 0, none⟩) 32 c', Value.pointer (some ⟨N6, 0, none⟩), Value.bool true, Value.pointer (some ⟨N8, 0, none⟩), u9, u10, u11, u12, u13, u14, u15, u16, u17, u18, u19, u20, u21, u22, u23, u24, u25, u26, u27, x1.v, Value.bool true, u30, u31, u32, u33, u34, u35, u36, xa.v, Value.bool false, u39, u40, u41, u42, u43, u44, u45, u46, u47, u48]) hsz hrest (by kernel_rfl) rfl rfl ⟨hs8, hs30, hs31, hs33, hs34, hs35, hs36, (show qa.tmps.getD 37 undef = xa.v from hslots 37 (by kernel_rfl)), (show qa.tmps.getD 38 undef = Value.bool false from hslots 38 (by kernel_rfl)), trivial⟩ hdf
   clear hsz hdf hrest hslots hpt hs8 hs30 hs31 hs33 hs34 hs35 hs36
   replace hR := hR.gn g3
   replace hb6 := hb6.gn g3
   replace G := gb_trans G g3
   replace HT := HT.grown g3
   have hw8 : w0.heap.size ≤ N8 := Nat.le_trans Gs2 hn8
   clear g3
   refine Fg.wpl_skip rfl rfl (Fg.run_store (cs := feL xa) rfl rfl rfl (hb8.there 0 5 (by show 0 + 5 ≤ 5; decide)) info_elem (feL_one _)) ?_
   replace hR := hR.setCells_other (C := N8) (cs := feL xa) 0 (by omega)
   replace hb6 := hb6.setCells_other (C := N8) (cs := feL xa) 0 (by omega)
   replace hb8 : Blk (V3.setCells N8 0 (feL xa)) N8 34 (feL xa) := hb8.setAll rfl
   replace G := gb_setCells_new (cs := feL xa) G (B := N8) (hw8) 0
   replace HT := HT.keep (gb_setCells (cs := feL xa) (gb_refl _ (some N8)) 0) (HT0.noG (hw8))
   revert hR hb6 hb8 G HT
   generalize V3.setCells N8 0 (feL xa) = W4
   intro hR hb6 hb8 G HT
   go_upto_region 11 with (fail)
   have Gs4 := G.size
   have l3hR := hR.lt
   have l3hb6 := hb6.lt
   have l3hb8 := hb8.lt
   refine Fg.rP [] [.any, .any, .any, .any, .any, .any, .any, .any, .any, .any, .any, .any, .any, .any, .any, .any, .any, .any, .any, .any, .any, .any, .any, .any, .any, .any, .any, .any, .any, .any, .any, .any, .any, .any, .any, .any, .any, .any, .any, .any, .any, .val (zeroP0.v)] 1 ?_ ?_
   ·refine Fg.vS rfl (by decide) (fun ac w h => ?_) ?_
    ·exact Fg.vn zeroP0.v (Fg.run_build (vs := #[]) rfl (by simp) (by kernel_rfl))
    trivial
   ·intro qa V5 g5 hsz hdf hrest hslots hpt
    obtain ⟨u39, hs39⟩ := Fg.slotv qa 39
    obtain ⟨u40, hs40⟩ := Fg.slotv qa 40
    obtain rfl := Fg.frame_by [39, 40, 41] (vs := [u0, u1, Value.pointer (some ⟨w0.heap.size, 0, none⟩), Value.bool false, Value.bool odd, Value.slice (some ⟨g, 0, none⟩) 32 c', Value.pointer (some ⟨N6, 0, none⟩), Value.bool false, Value.pointer (some ⟨N8, 0, none⟩), u9, u10, u11, u12, u13, u14, u15, u16, u17, u18, u19, u20, u21, u22, u23, u24, u25, u26, u27, x1.v, Value.bool true, u30, u31, u32, u33, u34, u35, u36, xa.v, Value.bool false, u39, u40, zeroP0.v, u42, u43, u44, u45, u46, u47, u48]) hsz hrest (by kernel_rfl) rfl rfl ⟨hs39, hs40, (show qa.tmps.getD 41 undef = zeroP0.v from hslots 41 (by kernel_rfl)), trivial⟩ hdf
    clear hsz hdf hrest hslots hpt hs39 hs40
    replace hR := hR.gn g5
    replace hb6 := hb6.gn g5
    replace hb8 := hb8.gn g5
    replace G := gb_trans G g5
    replace HT := HT.grown g5
    clear g5
    refine Fg.wpl_skip rfl rfl (Fg.run_store (cs := ptL zeroP0) rfl rfl rfl (hR.there 0 20 (by show 0 + 20 ≤ 20; decide)) info_point (ptL_one _)) ?_
    replace hR : Blk (V5.setCells w0.heap.size 0 (ptL zeroP0)) w0.heap.size 36 (ptL zeroP0) := hR.setAll rfl
    replace hb6 := hb6.setCells_other (C := w0.heap.size) (cs := ptL zeroP0) 0 (by omega)
    replace hb8 := hb8.setCells_other (C := w0.heap.size) (cs := ptL zeroP0) 0 (by omega)
    replace G := gb_setCells_new (cs := ptL zeroP0) G (B := w0.heap.size) (by omega) 0
    replace HT := HT.keep (gb_setCells (cs := ptL zeroP0) (gb_refl _ (some w0.heap.size)) 0) (HT0.noG (by omega))
    revert hR hb6 hb8 G HT
    generalize V5.setCells w0.heap.size 0 (ptL zeroP0) = W6
    intro hR hb6 hb8 G HT
    go_wp2_with fail
    exact bodyPost_ret (v := .tuple #[zeroP0.v, .bool false]) (results_row_tmp Tryz.results36 _ _ w0.heap.size 36 (ptL zeroP0).toArray (0, 0) _ rfl hR Tryz.underlying36 rfl info_point rfl) rfl ⟨rfl, G⟩
set_option maxRecDepth 100000 in
set_option maxHeartbeats 3200000 in
theorem get_D (B : Nat) (a : Option Addr) (c : Nat) (l : List Nat) (w0 : World) (HT0 : ETab w0) (hl : l.length = 32) (hP : BytesAt w0 B a c l) (hyp : wordOf (lowF l) 32 < 57896044618658097711785492504343953926634992332820282019728792003956564819949) (xa : Fe) (hacr : acrossF (fromN (wordOf (lowF l) 32)) (topB l) = (xa, true)) :
  Calls Tryz.prog 36 #[.slice a 32 c] w0 fun e w' => e = .returned (.tuple #[((Pt.mk xa (fromN (wordOf (lowF l) 32)) Fe.oneF (Fe.mulF xa (fromN (wordOf (lowF l) 32))))).v, .bool true]) ∧ w0.grownBy w' none := by
 have hc32 := hP.fits
 have hP0 := hP
 obtain ⟨pb, po, rfl, hpb, hcells⟩ := hP.cells.resolve_left (by omega)
 have hx := hP.byte 31
 have c31 : w0.cell? ⟨pb, po + 31, none⟩ = some (.int .u8 ((l.getD 31 0 : Nat) : Int)) := hcells 31 (by omega)
 have hBl := hP.lim
 have hand := and_top _ hx
 have hnot := not_top _ hx
 have HD := Lib.hid (And.intro hP (And.intro hl hc32)); clear hP hP0 hcells hl hc32
 obtain ⟨x, hxe⟩ : ∃ x, x = l.getD 31 0 := ⟨_, rfl⟩
 rw [← hxe] at hx c31 hand hnot
 have hodd : topB l = decide (128 ≤ x) := by unfold topB; rw [hxe]
 obtain ⟨odd, hoe⟩ : ∃ b, b = decide (128 ≤ x) := ⟨_, rfl⟩
 rw [← hoe] at hand hodd
 have HX := Lib.hid hxe; clear hxe
 have HO := Lib.hid hodd; clear hodd hoe
 go_enter Tryz.func36, Tryz.ntmps36
 have c31r := c31
 replace c31 : (w0.alloc (.cells zr20.toArray 36)).cell? ⟨pb, po + 31, none⟩ = some (.int .u8 (x : Int)) := by rw [gb_cell (gb_alloc (gb_refl w0 none) _) (p := ⟨pb, po + 31, none⟩) (by show pb < _; omega) (by simp)]; exact c31r
 go_upto_region 4 with (fail)
 clear c31 c31r
 have G : w0.grownBy (w0.alloc (.cells zr20.toArray 36)) none := gb_alloc (gb_refl _ _) _
 have HT : ETab (w0.alloc (.cells zr20.toArray 36)) := HT0.grown (gb_alloc (gb_refl _ _) _)
 have hR : Blk (w0.alloc (.cells zr20.toArray 36)) (w0.heap.size) 36 zr20 := Blk.new w0 zr20 _
 have hPW := HD.out.1.kept G (by simp)
 revert G HT hR hPW
 generalize w0.alloc (.cells zr20.toArray 36) = W0
 intro G HT hR hPW
 have lR := hR.lt
 go_wp2_with fail
 refine (clone_bytes B pb po 32 c l _ HD.out.2.1 (by decide) (by decide) hPW).mono ?_
 rintro e W1 ⟨g, c', rfl, ho, hg⟩
 obtain ⟨gl, gb_, hc'⟩ := own_lt ho
 have hlen : (l.map u8N).length = 32 := by rw [List.length_map]; exact HD.out.2.1
 have k31 : W1.cell? ⟨g, 31, none⟩ = some (.int .u8 (x : Int)) := own_cell ho (j := 31) (by rw [List.getElem?_map, List.getElem?_eq_getElem (by have := HD.out.2.1; omega), HX.out, List.getD_eq_getElem?_getD, List.getElem?_eq_getElem (by have := HD.out.2.1; omega)]; rfl)
 have f31 := own_free ho 31
 have ho5 := own_set (i := 31) ho (.int .u8 ((x : Int) % 128))
 rw [HX.out, low_map, ← HX.out] at ho5
 replace G := gb_set_new (gb_trans G hg) (p := ⟨g, 31, none⟩) (by show _ ≤ g; have := G.size; omega) (.int .u8 ((x : Int) % 128))
 replace hR := (hR.gn hg).other (a := ⟨g, 31, none⟩) (by show g ≠ _; omega) (.int .u8 ((x : Int) % 128))
 replace HT := (HT.grown hg).keep (gb_set (gb_refl _ (some g)) 31 (.int .u8 ((x : Int) % 128))) (HT0.noG (by omega))
 have HS := Lib.hid (And.intro ho5 (And.intro G (And.intro hR HT))); clear ho ho5 G hR HT hg hPW hlen
 go_upto_region 6 with (fail)
 obtain ⟨ho5, G, hR, HT⟩ := HS.out
 clear HS k31 f31 hand hnot
 revert ho5 G hR HT
 generalize W1.setCell ⟨g, 31, none⟩ (.int .u8 ((x : Int) % 128)) = W5
 intro ho5 G hR HT
 have hcg : ∀ i, i < 32 → W5.cell? ⟨g, 0 + i, none⟩ = some (.int .u8 (lowF l i)) := fun i hi => low_cell HD.out.2.1 ho5 i hi
 have hgl : g < W5.heap.size := (own_lt ho5).1
 have HCG := Lib.hid (And.intro hcg hgl); clear hcg ho5 hgl
 have GX := G
 have Gs0 := G.size
 have l1hR := hR.lt
 refine Fg.rP [6] [.any, .any, .any, .any, .any, .any, .fresh 34 zr5 W5.heap.size, .any, .any, .any, .any, .any, .any, .any, .any, .any, .any, .any, .any, .any, .any, .any, .any, .any, .any, .val (Value.tuple #[(fromN (wordOf (lowF l) 32)).v, .bool true]), .val (Value.slice (some ⟨g, 0, none⟩) 32 c'), .val (Value.tuple #[(fromN (wordOf (lowF l) 32)).v, .bool true]), .val ((fromN (wordOf (lowF l) 32)).v), .val (Value.bool true)] 6 ?_ ?_
 ·refine Fg.vS rfl (by decide) (fun ac w h => ?_) ?_
  ·have e5 : _ = Value.slice (some ⟨g, 0, none⟩) 32 c' := h.r 5
   exact Fg.vn (Value.slice (some ⟨g, 0, none⟩) 32 c') (Fg.run_move rfl e5)
  refine Fg.cS rfl (by decide) (fun ac w h => ?_) ?_
  ·have e26 : _ = Value.slice (some ⟨g, 0, none⟩) 32 c' := h.d 26
   refine ⟨wants_none rfl, 57, #[Value.slice (some ⟨g, 0, none⟩) 32 c'], Fg.run_call rfl rfl (by simp only [List.map_toArray, List.map_cons, List.map_nil, Act.eval, e26]) (Fg.run_enter Tryz.func57 (by kernel_rfl) (by kernel_rfl)), ?_⟩
   exact (fget_yes g 0 c' (lowF l) _ hc' (lowF_bd l HD.out.1.byte) (fun i hi => by rw [gb_cell h.base (p := ⟨g, 0 + i, none⟩) HCG.out.2 (by simp)]; exact HCG.out.1 i hi) (Nat.lt_of_lt_of_le HCG.out.2 h.base.size) hyp).mono fun _ _ ⟨he, hg⟩ => ⟨_, he, hg, rfl⟩
  refine Fg.vS rfl (by decide) (fun ac w h => ?_) ?_
  ·have e27 : _ = Value.tuple #[(fromN (wordOf (lowF l) 32)).v, .bool true] := h.d 27
   exact Fg.vn (Value.tuple #[(fromN (wordOf (lowF l) 32)).v, .bool true]) (Fg.run_move rfl e27)
  refine Fg.vS rfl (by decide) (fun ac w h => ?_) ?_
  ·have e25 : _ = Value.tuple #[(fromN (wordOf (lowF l) 32)).v, .bool true] := h.d 25
   exact Fg.vn ((fromN (wordOf (lowF l) 32)).v) (Fg.run_extract rfl e25 rfl)
  refine Fg.vS rfl (by decide) (fun ac w h => ?_) ?_
  ·have e25 : _ = Value.tuple #[(fromN (wordOf (lowF l) 32)).v, .bool true] := h.d 25
   exact Fg.vn (Value.bool true) (Fg.run_extract rfl e25 rfl)
  refine ⟨⟨⟨_, rfl⟩, Fg.allocP (fun _ _ h k => gb_trans h k) rfl (by show 6 < 49; decide) fun ac w h => ?_⟩, ?_⟩
  ·refine ⟨wants_none rfl, w.alloc (.cells zr5.toArray 34), ?_, World.grownBy_alloc _ _ _, by simp, ⟨w.heap.size, rfl, h.base.size, Blk.new w zr5 _⟩⟩
   clear h
   go_simp
  trivial
 ·intro qa V1 g1 hsz hdf hrest hslots hpt
  obtain ⟨u0, hs0⟩ := Fg.slotv qa 0
  obtain ⟨u1, hs1⟩ := Fg.slotv qa 1
  obtain ⟨N6, hs6, hn6, hb6⟩ : ∃ N, qa.tmps.getD 6 undef = .pointer (some ⟨N, 0, none⟩) ∧ W5.heap.size ≤ N ∧ Blk V1 N 34 zr5 := hslots 6 (by kernel_rfl)
  obtain ⟨⟨u7, hs7⟩, ⟨u9, hs9⟩, ⟨u10, hs10⟩, ⟨u11, hs11⟩, ⟨u12, hs12⟩, ⟨u13, hs13⟩, ⟨u14, hs14⟩, ⟨u15, hs15⟩, ⟨u16, hs16⟩, ⟨u17, hs17⟩, ⟨u18, hs18⟩, ⟨u19, hs19⟩, ⟨u20, hs20⟩, ⟨u21, hs21⟩, ⟨u22, hs22⟩, ⟨u23, hs23⟩, ⟨u24, hs24⟩, ⟨u25, hs25⟩, ⟨u26, hs26⟩, ⟨u27, hs27⟩, _⟩ := Fg.slotvs qa [7, 9, 10, 11, 12, 13, 14, 15, 16, 17, 18, 19, 20, 21, 22, 23, 24, 25, 26, 27]
  obtain ⟨x1, hx1⟩ : ∃ x : Fe, x = fromN (wordOf (lowF l) 32) := ⟨_, rfl⟩
  obtain ⟨⟨u30, hs30⟩, ⟨u31, hs31⟩, ⟨u32, hs32⟩, ⟨u33, hs33⟩, ⟨u34, hs34⟩, ⟨u35, hs35⟩, ⟨u36, hs36⟩, ⟨u37, hs37⟩, ⟨u38, hs38⟩, ⟨u39, hs39⟩, ⟨u40, hs40⟩, ⟨u41, hs41⟩, ⟨u42, hs42⟩, ⟨u43, hs43⟩, ⟨u44, hs44⟩, ⟨u45, hs45⟩, ⟨u46, hs46⟩, ⟨u47, hs47⟩, ⟨u48, hs48⟩, _⟩ := Fg.slotvs qa [30, 31, 32, 33, 34, 35, 36, 37, 38, 39, 40, 41, 42, 43, 44, 45, 46, 47, 48]
  obtain rfl := Fg.frame_by [0, 1, 6, 7, 9, 10, 11, 12, 13, 14, 15, 16, 17, 18, 19, 20, 21, 22, 23, 24, 25, 26, 27, 28, 29, 30, 31, 32, 33, 34, 35, 36, 37, 38, 39, 40, 41, 42, 43, 44, 45, 46, 47, 48] (vs := [u0, u1, Value.pointer (some ⟨w0.heap.size, 0, none⟩), Value.bool false, Value.bool odd, Value.slice (some ⟨g, 0, none⟩) 32 c', Value.pointer (some ⟨N6, 0, none⟩), u7, undef, u9, u10, u11, u12, u13, u14, u15, u16, u17, u18, u19, u20, u21, u22, u23, u24, u25, u26, u27, x1.v, Value.bool true, u30, u31, u32, u33, u34, u35, u36, u37, u38, u39, u40, u41, u42, u43, u44, u45, u46, u47, u48]) hsz hrest (by kernel_rfl) rfl rfl ⟨hs0, hs1, hs6, hs7, hs9, hs10, hs11, hs12, hs13, hs14, hs15, hs16, hs17, hs18, hs19, hs20, hs21, hs22, hs23, hs24, hs25, hs26, hs27, (show qa.tmps.getD 28 undef = x1.v by rw [hx1]; exact hslots 28 (by kernel_rfl)), (show qa.tmps.getD 29 undef = Value.bool true from hslots 29 (by kernel_rfl)), hs30, hs31, hs32, hs33, hs34, hs35, hs36, hs37, hs38, hs39, hs40, hs41, hs42, hs43, hs44, hs45, hs46, hs47, hs48, trivial⟩ hdf
  clear hsz hdf hrest hslots hpt hs0 hs1 hs6 hs7 hs9 hs10 hs11 hs12 hs13 hs14 hs15 hs16 hs17 hs18 hs19 hs20 hs21 hs22 hs23 hs24 hs25 hs26 hs27 hs30 hs31 hs32 hs33 hs34 hs35 hs36 hs37 hs38 hs39 hs40 hs41 hs42 hs43 hs44 hs45 hs46 hs47 hs48
  have Hx1 := Lib.hid hx1; clear hx1
  replace hR := hR.gn g1
  replace G := gb_trans G g1
  replace HT := HT.grown g1
  have okx1 : x1.Ok := by rw [Hx1.out]; exact (fromN_right (wordOf_bd (lowF l) (lowF_bd l HD.out.1.byte) 32).1 (wordOf_bd (lowF l) (lowF_bd l HD.out.1.byte) 32).2).ok
  have hw6 : w0.heap.size ≤ N6 := Nat.le_trans Gs0 hn6
  clear g1
  refine Fg.wpl_skip rfl rfl (Fg.run_store (cs := feL x1) rfl rfl rfl (hb6.there 0 5 (by show 0 + 5 ≤ 5; decide)) info_elem (feL_one _)) ?_
  replace hR := hR.setCells_other (C := N6) (cs := feL x1) 0 (by omega)
  replace hb6 : Blk (V1.setCells N6 0 (feL x1)) N6 34 (feL x1) := hb6.setAll rfl
  replace G := gb_setCells_new (cs := feL x1) G (B := N6) (hw6) 0
  replace HT := HT.keep (gb_setCells (cs := feL x1) (gb_refl _ (some N6)) 0) (HT0.noG (hw6))
  revert hR hb6 G HT
  generalize V1.setCells N6 0 (feL x1) = W2
  intro hR hb6 G HT
  have hac : acrossF x1 odd = (xa, true) := by rw [Hx1.out, ← HO.out]; exact hacr
  have hxa : xa.Ok := by have := across_ok x1 odd; rw [hac] at this; exact this
  have HAC := Lib.hid hac; clear hac
  go_upto_region 9 with (fail)
  have Gs2 := G.size
  have l2hR := hR.lt
  have l2hb6 := hb6.lt
  refine Fg.rP [8] [.any, .any, .any, .any, .any, .any, .any, .any, .fresh 34 zr5 W2.heap.size, .any, .any, .any, .any, .any, .any, .any, .any, .any, .any, .any, .any, .any, .any, .any, .any, .any, .any, .any, .any, .any, .any, .any, .any, .val (Value.tuple #[xa.v, .bool true]), .val (x1.v), .val (Value.bool odd), .val (Value.tuple #[xa.v, .bool true]), .val (xa.v), .val (Value.bool true)] 7 ?_ ?_
  ·refine Fg.vS rfl (by decide) (fun ac w h => ?_) ?_
   ·have e6 : _ = Value.pointer (some ⟨N6, 0, none⟩) := h.r 6
    exact Fg.vn x1.v (Fg.run_load rfl e6 ((hb6.gn h.base).range 0 (feL x1) rfl) Tryz.underlying34 rfl info_elem)
   refine Fg.vS rfl (by decide) (fun ac w h => ?_) ?_
   ·have e4 : _ = Value.bool odd := h.r 4
    exact Fg.vn (Value.bool odd) (Fg.run_move rfl e4)
   refine Fg.cS rfl (by decide) (fun ac w h => ?_) ?_
   ·have e34 : _ = x1.v := h.d 34
    have e35 : _ = Value.bool odd := h.d 35
    refine ⟨wants_none rfl, 58, #[x1.v, Value.bool odd], Fg.run_call rfl rfl (by simp only [List.map_toArray, List.map_cons, List.map_nil, Act.eval, e34, e35]) (Fg.run_enter Tryz.func58 (by kernel_rfl) (by kernel_rfl)), ?_⟩
    exact ((show Tells 58 #[x1.v, .bool odd] w (.tuple #[xa.v, .bool true]) from by have hh := edAcross x1 odd w (HT.grown h.base) okx1; rw [HAC.out] at hh; exact hh)).mono fun _ _ ⟨he, hg⟩ => ⟨_, he, hg, rfl⟩
   refine Fg.vS rfl (by decide) (fun ac w h => ?_) ?_
   ·have e36 : _ = Value.tuple #[xa.v, .bool true] := h.d 36
    exact Fg.vn (Value.tuple #[xa.v, .bool true]) (Fg.run_move rfl e36)
   refine Fg.vS rfl (by decide) (fun ac w h => ?_) ?_
   ·have e33 : _ = Value.tuple #[xa.v, .bool true] := h.d 33
    exact Fg.vn xa.v (Fg.run_extract rfl e33 rfl)
   refine Fg.vS rfl (by decide) (fun ac w h => ?_) ?_
   ·have e33 : _ = Value.tuple #[xa.v, .bool true] := h.d 33
    exact Fg.vn (Value.bool true) (Fg.run_extract rfl e33 rfl)
   refine ⟨⟨⟨_, rfl⟩, Fg.allocP (fun _ _ h k => gb_trans h k) rfl (by show 8 < 49; decide) fun ac w h => ?_⟩, ?_⟩
   ·refine ⟨wants_none rfl, w.alloc (.cells zr5.toArray 34), ?_, World.grownBy_alloc _ _ _, by simp, ⟨w.heap.size, rfl, h.base.size, Blk.new w zr5 _⟩⟩
    clear h
    go_simp
   trivial
  ·intro qa V3 g3 hsz hdf hrest hslots hpt
   obtain ⟨N8, hs8, hn8, hb8⟩ : ∃ N, qa.tmps.getD 8 undef = .pointer (some ⟨N, 0, none⟩) ∧ W2.heap.size ≤ N ∧ Blk V3 N 34 zr5 := hslots 8 (by kernel_rfl)
   obtain ⟨⟨u30, hs30⟩, ⟨u31, hs31⟩, ⟨u33, hs33⟩, ⟨u34, hs34⟩, ⟨u35, hs35⟩, ⟨u36, hs36⟩, _⟩ := Fg.slotvs qa [30, 31, 33, 34, 35, 36]
   obtain rfl := Fg.frame_by [8, 30, 31, 33, 34, 35, 36, 37, 38] (vs := [u0, u1, Value.pointer (some ⟨w0.heap.size, 0, none⟩), Value.bool false, Value.bool odd, Value.slice (some ⟨g, 0, none⟩) 32 c', Value.pointer (some ⟨N6, 0, none⟩), Value.bool true, Value.pointer (some ⟨N8, 0, none⟩), u9, u10, u11, u12, u13, u14, u15, u16, u17, u18, u19, u20, u21, u22, u23, u24, u25, u26, u27, x1.v, Value.bool true, u30, u31, u32, u33, u34, u35, u36, xa.v, Value.bool true, u39, u40, u41, u42, u43, u44, u45, u46, u47, u48]) hsz hrest (by kernel_rfl) rfl rfl ⟨hs8, hs30, hs31, hs33, hs34, hs35, hs36, (show qa.tmps.getD 37 undef = xa.v from hslots 37 (by kernel_rfl)), (show qa.tmps.getD 38 undef = Value.bool true from hslots 38 (by kernel_rfl)), trivial⟩ hdf
   clear hsz hdf hrest hslots hpt hs8 hs30 hs31 hs33 hs34 hs35 hs36
   replace hR := hR.gn g3
   replace hb6 := hb6.gn g3
   replace G := gb_trans G g3
   replace HT := HT.grown g3
   have hw8 : w0.heap.size ≤ N8 := Nat.le_trans Gs2 hn8
   clear g3
   refine Fg.wpl_skip rfl rfl (Fg.run_store (cs := feL xa) rfl rfl rfl (hb8.there 0 5 (by show 0 + 5 ≤ 5; decide)) info_elem (feL_one _)) ?_
   replace hR := hR.setCells_other (C := N8) (cs := feL xa) 0 (by omega)
   replace hb6 := hb6.setCells_other (C := N8) (cs := feL xa) 0 (by omega)
   replace hb8 : Blk (V3.setCells N8 0 (feL xa)) N8 34 (feL xa) := hb8.setAll rfl
   replace G := gb_setCells_new (cs := feL xa) G (B := N8) (hw8) 0
   replace HT := HT.keep (gb_setCells (cs := feL xa) (gb_refl _ (some N8)) 0) (HT0.noG (hw8))
   revert hR hb6 hb8 G HT
   generalize V3.setCells N8 0 (feL xa) = W4
   intro hR hb6 hb8 G HT
   go_upto_region 12 with (fail)
   have Gs4 := G.size
   have l3hR := hR.lt
   have l3hb6 := hb6.lt
   have l3hb8 := hb8.lt
   refine Fg.rT [] [.any, .any, .any, .any, .any, .any, .any, .any, .any, .any, .any, .any, .any, .any, .any, .any, .any, .any, .any, .any, .any, .any, .any, .any, .any, .any, .any, .any, .any, .any, .any, .any, .any, .any, .any, .any, .any, .any, .any, .any, .any, .any, .val (xa.v), .val (x1.v), .val (Fe.oneF.v), .val (xa.v), .val (x1.v), .val ((Fe.mulF xa x1).v), .val (((Pt.mk xa x1 Fe.oneF (Fe.mulF xa x1))).v)] 7 ?_ ?_
   ·refine Fg.vS rfl (by decide) (fun ac w h => ?_) ?_
    ·have e8 : _ = Value.pointer (some ⟨N8, 0, none⟩) := h.r 8
     exact Fg.vn xa.v (Fg.run_load rfl e8 ((hb8.gn h.base).range 0 (feL xa) rfl) Tryz.underlying34 rfl info_elem)
    refine Fg.vS rfl (by decide) (fun ac w h => ?_) ?_
    ·have e6 : _ = Value.pointer (some ⟨N6, 0, none⟩) := h.r 6
     exact Fg.vn x1.v (Fg.run_load rfl e6 ((hb6.gn h.base).range 0 (feL x1) rfl) Tryz.underlying34 rfl info_elem)
    refine Fg.cS rfl (by decide) (fun ac w h => ?_) ?_
    ·refine ⟨wants_none rfl, 59, #[], Fg.run_call rfl rfl (by simp) (Fg.run_enter Tryz.func59 (by kernel_rfl) (by kernel_rfl)), ?_⟩
     exact (t_one).mono fun _ _ ⟨he, hg⟩ => ⟨_, he, hg, rfl⟩
    refine Fg.vS rfl (by decide) (fun ac w h => ?_) ?_
    ·have e8 : _ = Value.pointer (some ⟨N8, 0, none⟩) := h.r 8
     exact Fg.vn xa.v (Fg.run_load rfl e8 ((hb8.gn h.base).range 0 (feL xa) rfl) Tryz.underlying34 rfl info_elem)
    refine Fg.vS rfl (by decide) (fun ac w h => ?_) ?_
    ·have e6 : _ = Value.pointer (some ⟨N6, 0, none⟩) := h.r 6
     exact Fg.vn x1.v (Fg.run_load rfl e6 ((hb6.gn h.base).range 0 (feL x1) rfl) Tryz.underlying34 rfl info_elem)
    refine Fg.cS rfl (by decide) (fun ac w h => ?_) ?_
    ·have e45 : _ = xa.v := h.d 45
     have e46 : _ = x1.v := h.d 46
     refine ⟨wants_none rfl, 38, #[xa.v, x1.v], Fg.run_call rfl rfl (by simp only [List.map_toArray, List.map_cons, List.map_nil, Act.eval, e45, e46]) (Fg.run_enter Tryz.func38 (by kernel_rfl) (by kernel_rfl)), ?_⟩
     exact (t_mul hxa okx1).mono fun _ _ ⟨he, hg⟩ => ⟨_, he, hg, rfl⟩
    refine Fg.vS rfl (by decide) (fun ac w h => ?_) ?_
    ·have e42 : _ = xa.v := h.d 42
     have e43 : _ = x1.v := h.d 43
     have e44 : _ = Fe.oneF.v := h.d 44
     have e47 : _ = (Fe.mulF xa x1).v := h.d 47
     exact Fg.vn (((Pt.mk xa x1 Fe.oneF (Fe.mulF xa x1))).v) (Fg.run_build (vs := #[(0, xa.v), (1, x1.v), (2, Fe.oneF.v), (3, (Fe.mulF xa x1).v)]) rfl (by simp only [List.map_toArray, List.map_cons, List.map_nil, Act.eval, e42, e43, e44, e47]) (by kernel_rfl))
    trivial
   ·intro qa V5 g5 hsz hdf hrest hslots hpt
    obtain ⟨⟨u39, hs39⟩, ⟨u40, hs40⟩, ⟨u42, hs42⟩, ⟨u43, hs43⟩, ⟨u44, hs44⟩, ⟨u45, hs45⟩, ⟨u46, hs46⟩, ⟨u47, hs47⟩, _⟩ := Fg.slotvs qa [39, 40, 42, 43, 44, 45, 46, 47]
    obtain ⟨x2, hx2⟩ : ∃ x : Pt, x = (Pt.mk xa x1 Fe.oneF (Fe.mulF xa x1)) := ⟨_, rfl⟩
    obtain rfl := Fg.frame_by [39, 40, 42, 43, 44, 45, 46, 47, 48] (vs := [u0, u1, Value.pointer (some ⟨w0.heap.size, 0, none⟩), Value.bool false, Value.bool odd, Value.slice (some ⟨g, 0, none⟩) 32 c', Value.pointer (some ⟨N6, 0, none⟩), Value.bool true, Value.pointer (some ⟨N8, 0, none⟩), u9, u10, u11, u12, u13, u14, u15, u16, u17, u18, u19, u20, u21, u22, u23, u24, u25, u26, u27, x1.v, Value.bool true, u30, u31, u32, u33, u34, u35, u36, xa.v, Value.bool true, u39, u40, u41, u42, u43, u44, u45, u46, u47, x2.v]) hsz hrest (by kernel_rfl) rfl rfl ⟨hs39, hs40, hs42, hs43, hs44, hs45, hs46, hs47, (show qa.tmps.getD 48 undef = x2.v by rw [hx2]; exact hslots 48 (by kernel_rfl)), trivial⟩ hdf
    clear hsz hdf hrest hslots hpt hs39 hs40 hs42 hs43 hs44 hs45 hs46 hs47
    have Hx2 := Lib.hid hx2; clear hx2
    replace hR := hR.gn g5
    replace hb6 := hb6.gn g5
    replace hb8 := hb8.gn g5
    replace G := gb_trans G g5
    replace HT := HT.grown g5
    clear g5
    refine Fg.wpl_skip rfl rfl (Fg.run_store (cs := ptL x2) rfl rfl rfl (hR.there 0 20 (by show 0 + 20 ≤ 20; decide)) info_point (ptL_one _)) ?_
    replace hR : Blk (V5.setCells w0.heap.size 0 (ptL x2)) w0.heap.size 36 (ptL x2) := hR.setAll rfl
    replace hb6 := hb6.setCells_other (C := w0.heap.size) (cs := ptL x2) 0 (by omega)
    replace hb8 := hb8.setCells_other (C := w0.heap.size) (cs := ptL x2) 0 (by omega)
    replace G := gb_setCells_new (cs := ptL x2) G (B := w0.heap.size) (by omega) 0
    replace HT := HT.keep (gb_setCells (cs := ptL x2) (gb_refl _ (some w0.heap.size)) 0) (HT0.noG (by omega))
    revert hR hb6 hb8 G HT
    generalize V5.setCells w0.heap.size 0 (ptL x2) = W6
    intro hR hb6 hb8 G HT
    go_wp2_with fail
    have hx2 := Hx2.out; subst hx2
    have hx1 := Hx1.out; subst hx1
    exact bodyPost_ret (v := .tuple #[((Pt.mk xa (fromN (wordOf (lowF l) 32)) Fe.oneF (Fe.mulF xa (fromN (wordOf (lowF l) 32))))).v, .bool true]) (results_row_tmp Tryz.results36 _ _ w0.heap.size 36 (ptL ((Pt.mk xa (fromN (wordOf (lowF l) 32)) Fe.oneF (Fe.mulF xa (fromN (wordOf (lowF l) 32)))))).toArray (0, 0) _ rfl hR Tryz.underlying36 rfl info_point rfl) rfl ⟨rfl, G⟩
set_option maxRecDepth 100000 in
set_option maxHeartbeats 3200000 in
theorem get_len (a : Option Addr) (n c : Nat) (w0 : World) (h2 : ((n : Int) != 32) = true) :
  Calls Tryz.prog 36 #[.slice a n c] w0 fun e w' => e = .returned (.tuple #[zeroP0.v, .bool false]) ∧ w0.grownBy w' none := by
 go_enter Tryz.func36, Tryz.ntmps36
 go_upto_region 1 with (fail)
 have G : w0.grownBy (w0.alloc (.cells zr20.toArray 36)) none := gb_alloc (gb_refl _ _) _
 have hR : Blk (w0.alloc (.cells zr20.toArray 36)) (w0.heap.size) 36 zr20 := Blk.new w0 zr20 _
 revert G hR
 generalize w0.alloc (.cells zr20.toArray 36) = W0
 intro G hR
 have Gs := G.size
 go_upto_region 2 with (fail)
 have Gs0 := G.size
 have l1hR := hR.lt
 refine Fg.rP [] [.any, .any, .any, .any, .any, .any, .any, .any, .any, .any, .any, .any, .val (zeroP0.v)] 1 ?_ ?_
 ·refine Fg.vS rfl (by decide) (fun ac w h => ?_) ?_
  ·exact Fg.vn zeroP0.v (Fg.run_build (vs := #[]) rfl (by simp) (by kernel_rfl))
  trivial
 ·intro qa V1 g1 hsz hdf hrest hslots hpt
  obtain rfl := Fg.frame_by [12] (vs := [Value.slice a n c, undef, Value.pointer (some ⟨w0.heap.size, 0, none⟩), Value.bool false, undef, undef, undef, undef, undef, Value.slice a n c, Value.int .i64 (n : Int), Value.bool true, zeroP0.v, undef, undef, undef, undef, undef, undef, undef, undef, undef, undef, undef, undef, undef, undef, undef, undef, undef, undef, undef, undef, undef, undef, undef, undef, undef, undef, undef, undef, undef, undef, undef, undef, undef, undef, undef, undef]) hsz hrest (by kernel_rfl) rfl rfl ⟨(show qa.tmps.getD 12 undef = zeroP0.v from hslots 12 (by kernel_rfl)), trivial⟩ hdf
  clear hsz hdf hrest hslots hpt
  replace hR := hR.gn g1
  replace G := gb_trans G g1
  clear g1
  refine Fg.wpl_skip rfl rfl (Fg.run_store (cs := ptL zeroP0) rfl rfl rfl (hR.there 0 20 (by show 0 + 20 ≤ 20; decide)) info_point (ptL_one _)) ?_
  replace hR : Blk (V1.setCells w0.heap.size 0 (ptL zeroP0)) w0.heap.size 36 (ptL zeroP0) := hR.setAll rfl
  replace G := gb_setCells_new (cs := ptL zeroP0) G (B := w0.heap.size) (by omega) 0
  revert hR G
  generalize V1.setCells w0.heap.size 0 (ptL zeroP0) = W2
  intro hR G
  go_wp2_with fail
  exact bodyPost_ret (v := .tuple #[zeroP0.v, .bool false]) (results_row_tmp Tryz.results36 _ _ w0.heap.size 36 (ptL zeroP0).toArray (0, 0) _ rfl hR Tryz.underlying36 rfl info_point rfl) rfl ⟨rfl, G⟩
end
section
open Go.RowKit Ed
def putY (p : Pt) : Fe := Fe.mulF p.Y (invF p.Z)
def putX (p : Pt) : Fe := Fe.mulF p.X (invF p.Z)
def putNum (p : Pt) : Int := (Fe.m (putY p) : Int) + 57896044618658097711785492504343953926634992332820282019728792003956564819968 * ((Fe.m (putX p) % 2 : Nat) : Int)
theorem put_low (x : Int) (h0 : 0 ≤ x) (h1 : x < 57896044618658097711785492504343953926634992332820282019728792003956564819968) : 0 ≤ x / 2 ^ (8 * 31) % 256 ∧ x / 2 ^ (8 * 31) % 256 < 128 := by
 have e : (2 : Int) ^ (8 * 31) = 452312848583266388373324160190187140051835877600158453279131187530910662656 := by decide
 rw [e]; omega
theorem put_or (v : Int) (h0 : 0 ≤ v) (h1 : v < 128) : bits .or .u8 v 128 = v + 128 := by
 have all : ∀ j : Fin 128, bits .or .u8 (j.val : Int) 128 = (j.val : Int) + 128 := by decide +kernel
 have := all ⟨v.toNat, by omega⟩
 simp only [] at this
 rwa [show ((v.toNat : Nat) : Int) = v by omega] at this
theorem put_set (x : Int) (h0 : 0 ≤ x) (h1 : x < 57896044618658097711785492504343953926634992332820282019728792003956564819968) : (bytesV x).set 31 (.int .u8 (x / 2 ^ (8 * 31) % 256 + 128)) = bytesV (x + 57896044618658097711785492504343953926634992332820282019728792003956564819968) := by
 have hl : ∀ y : Int, (bytesV y).length = 32 := fun y => by simp [bytesV]
 apply List.ext_getElem?
 intro i
 by_cases hi : i < 32
 ·rw [bytesV_get _ i hi, List.getElem?_set, hl]
  by_cases he : 31 = i
  ·subst he
   rw [if_pos rfl, if_pos (by decide)]
   unfold bytV
   have e : (2 : Int) ^ (8 * 31) = 452312848583266388373324160190187140051835877600158453279131187530910662656 := by decide
   rw [e]
   congr 2
   omega
  ·rw [if_neg he, bytesV_get _ i hi]
   unfold bytV
   congr 2
   have e : (57896044618658097711785492504343953926634992332820282019728792003956564819968 : Int) = 2 ^ (8 * i) * (2 ^ (8 * (30 - i)) * 32768) := by
    rw [← Int.mul_assoc, ← Int.pow_add, show 8 * i + 8 * (30 - i) = 240 by omega]
    decide
   have hp : (2 : Int) ^ (8 * i) ≠ 0 := Int.ne_of_gt (Int.pow_pos (by decide))
   rw [e, Int.add_mul_ediv_left _ _ hp, show (2 : Int) ^ (8 * (30 - i)) * 32768 = 256 * (2 ^ (8 * (30 - i)) * 128) by omega, Int.add_mul_emod_self_left]
 ·rw [List.getElem?_eq_none (by rw [List.length_set, hl]; omega), List.getElem?_eq_none (by rw [hl]; omega)]
set_option maxRecDepth 100000 in
set_option maxHeartbeats 3200000 in
theorem put_odd (p : Pt) (w0 : World) (okp : p.Ok) (hx : decide (Fe.m (putX p) % 2 = 1) = true) :
  Calls Tryz.prog 33 #[p.v] w0 fun e w' => ∃ NB, e = .returned (.slice (some ⟨NB, 0, none⟩) 32 32) ∧ w0.grownBy w' none ∧ w0.heap.size ≤ NB ∧ Blk w' NB 101 (bytesV (putNum p)) := by
 show Calls Tryz.prog 33 #[.agg (ptL p).toArray] w0 _
 go_enter Tryz.func33, Tryz.ntmps33
 go_upto_region 1 with (fail)
 have G : w0.grownBy (w0.alloc (.cells (ptL p).toArray 36)) none := gb_alloc (gb_refl _ _) _
 have hP : Blk (w0.alloc (.cells (ptL p).toArray 36)) (w0.heap.size) 36 (ptL p) := Blk.new w0 (ptL p) _
 revert G hP
 generalize w0.alloc (.cells (ptL p).toArray 36) = W0
 intro G hP
 have Gs := G.size
 have Gs0 := G.size
 have l1hP := hP.lt
 refine Fg.rP [3] [.any, .any, .any, .fresh 34 zr5 W0.heap.size, .any, .val (Value.pointer (some ⟨w0.heap.size, 10, none⟩)), .val (p.Z.v), .val ((invF p.Z).v)] 4 ?_ ?_
 ·refine Fg.vS rfl (by decide) (fun ac w h => ?_) ?_
  ·have e1 : _ = Value.pointer (some ⟨w0.heap.size, 0, none⟩) := h.r 1
   exact Fg.vn (Value.pointer (some ⟨w0.heap.size, 10, none⟩)) (Fg.run_fieldAddr rfl e1 (fa_point2 _ _ _))
  refine Fg.vS rfl (by decide) (fun ac w h => ?_) ?_
  ·have e5 : _ = Value.pointer (some ⟨w0.heap.size, 10, none⟩) := h.d 5
   exact Fg.vn p.Z.v (Fg.run_load rfl e5 ((hP.gn h.base).range 10 (feL p.Z) rfl) Tryz.underlying34 rfl info_elem)
  refine Fg.cS rfl (by decide) (fun ac w h => ?_) ?_
  ·have e6 : _ = p.Z.v := h.d 6
   refine ⟨wants_none rfl, 52, #[p.Z.v], Fg.run_call rfl rfl (by simp only [List.map_toArray, List.map_cons, List.map_nil, Act.eval, e6]) (Fg.run_enter Tryz.func52 (by kernel_rfl) (by kernel_rfl)), ?_⟩
   exact (t_inv okp.Z).mono fun _ _ ⟨he, hg⟩ => ⟨_, he, hg, rfl⟩
  refine ⟨⟨⟨_, rfl⟩, Fg.allocP (fun _ _ h k => gb_trans h k) rfl (by show 3 < 24; decide) fun ac w h => ?_⟩, ?_⟩
  ·refine ⟨wants_none rfl, w.alloc (.cells zr5.toArray 34), ?_, World.grownBy_alloc _ _ _, by simp, ⟨w.heap.size, rfl, h.base.size, Blk.new w zr5 _⟩⟩
   clear h
   go_simp
  trivial
 ·intro qa V1 g1 hsz hdf hrest hslots hpt
  obtain ⟨N3, hs3, hn3, hb3⟩ : ∃ N, qa.tmps.getD 3 undef = .pointer (some ⟨N, 0, none⟩) ∧ W0.heap.size ≤ N ∧ Blk V1 N 34 zr5 := hslots 3 (by kernel_rfl)
  obtain ⟨u5, hs5⟩ := Fg.slotv qa 5
  obtain ⟨u6, hs6⟩ := Fg.slotv qa 6
  obtain ⟨x1, hx1⟩ : ∃ x : Fe, x = invF p.Z := ⟨_, rfl⟩
  obtain rfl := Fg.frame_by [3, 5, 6, 7] (vs := [p.v, Value.pointer (some ⟨w0.heap.size, 0, none⟩), Value.slice none 0 0, Value.pointer (some ⟨N3, 0, none⟩), undef, u5, u6, x1.v, undef, undef, undef, undef, undef, undef, undef, undef, undef, undef, undef, undef, undef, undef, undef, undef]) hsz hrest (by kernel_rfl) rfl rfl ⟨hs3, hs5, hs6, (show qa.tmps.getD 7 undef = x1.v by rw [hx1]; exact hslots 7 (by kernel_rfl)), trivial⟩ hdf
  clear hsz hdf hrest hslots hpt hs3 hs5 hs6
  have Hx1 := Lib.hid hx1; clear hx1
  replace hP := hP.gn g1
  replace G := gb_trans G g1
  have okx1 : x1.Ok := by rw [Hx1.out]; exact (inv_right _).ok
  have hw3 : w0.heap.size ≤ N3 := Nat.le_trans Gs0 hn3
  clear g1
  refine Fg.wpl_skip rfl rfl (Fg.run_store (cs := feL x1) rfl rfl rfl (hb3.there 0 5 (by show 0 + 5 ≤ 5; decide)) info_elem (feL_one _)) ?_
  replace hP := hP.setCells_other (C := N3) (cs := feL x1) 0 (by omega)
  replace hb3 : Blk (V1.setCells N3 0 (feL x1)) N3 34 (feL x1) := hb3.setAll rfl
  replace G := gb_setCells_new (cs := feL x1) G (B := N3) (hw3) 0
  revert hP hb3 G
  generalize V1.setCells N3 0 (feL x1) = W2
  intro hP hb3 G
  go_upto_region 2 with (fail)
  have Gs2 := G.size
  have l2hP := hP.lt
  have l2hb3 := hb3.lt
  refine Fg.rP [] [.any, .any, .any, .any, .row 101 (bytesV (Fe.m (Fe.mulF p.Y x1))) 32 W2.heap.size, .any, .any, .any, .val (Value.pointer (some ⟨w0.heap.size, 5, none⟩)), .val (p.Y.v), .val (x1.v), .val ((Fe.mulF p.Y x1).v), .row 101 (bytesV (Fe.m (Fe.mulF p.Y x1))) 32 W2.heap.size] 6 ?_ ?_
  ·refine Fg.vS rfl (by decide) (fun ac w h => ?_) ?_
   ·have e1 : _ = Value.pointer (some ⟨w0.heap.size, 0, none⟩) := h.r 1
    exact Fg.vn (Value.pointer (some ⟨w0.heap.size, 5, none⟩)) (Fg.run_fieldAddr rfl e1 (fa_point1 _ _ _))
   refine Fg.vS rfl (by decide) (fun ac w h => ?_) ?_
   ·have e8 : _ = Value.pointer (some ⟨w0.heap.size, 5, none⟩) := h.d 8
    exact Fg.vn p.Y.v (Fg.run_load rfl e8 ((hP.gn h.base).range 5 (feL p.Y) rfl) Tryz.underlying34 rfl info_elem)
   refine Fg.vS rfl (by decide) (fun ac w h => ?_) ?_
   ·have e3 : _ = Value.pointer (some ⟨N3, 0, none⟩) := h.r 3
    exact Fg.vn x1.v (Fg.run_load rfl e3 ((hb3.gn h.base).range 0 (feL x1) rfl) Tryz.underlying34 rfl info_elem)
   refine Fg.cS rfl (by decide) (fun ac w h => ?_) ?_
   ·have e9 : _ = p.Y.v := h.d 9
    have e10 : _ = x1.v := h.d 10
    refine ⟨wants_none rfl, 38, #[p.Y.v, x1.v], Fg.run_call rfl rfl (by simp only [List.map_toArray, List.map_cons, List.map_nil, Act.eval, e9, e10]) (Fg.run_enter Tryz.func38 (by kernel_rfl) (by kernel_rfl)), ?_⟩
    exact (t_mul okp.Y okx1).mono fun _ _ ⟨he, hg⟩ => ⟨_, he, hg, rfl⟩
   refine Fg.cS rfl (by decide) (fun ac w h => ?_) ?_
   ·have e11 : _ = (Fe.mulF p.Y x1).v := h.d 11
    refine ⟨wants_none rfl, 53, #[(Fe.mulF p.Y x1).v], Fg.run_call rfl rfl (by simp only [List.map_toArray, List.map_cons, List.map_nil, Act.eval, e11]) (Fg.run_enter Tryz.func53 (by kernel_rfl) (by kernel_rfl)), ?_⟩
    exact (put_any _ _ (Fe.mul_right _ _).ok).mono fun _ _ ⟨NB, he, hg, hn, hb⟩ => ⟨_, he, hg, ⟨NB, rfl, Nat.le_trans h.base.size hn, hb⟩⟩
   refine Fg.vS rfl (by decide) (fun ac w h => ?_) ?_
   ·obtain ⟨B12, e12, hn12, b12⟩ : ∃ N, ac.tmps.getD 12 undef = .slice (some ⟨N, 0, none⟩) 32 32 ∧ W2.heap.size ≤ N ∧ Blk w N 101 (bytesV (Fe.m (Fe.mulF p.Y x1))) := h.dep 12 (by kernel_rfl)
    exact ⟨wants_none rfl, Value.slice (some ⟨B12, 0, none⟩) 32 32, w, Fg.run_assign rfl e12, gb_refl _ _, ⟨_, rfl, hn12, b12⟩⟩
   trivial
  ·intro qa V3 g3 hsz hdf hrest hslots hpt
   obtain ⟨N4, hs4, hn4, hb4⟩ : ∃ N, qa.tmps.getD 4 undef = .slice (some ⟨N, 0, none⟩) 32 32 ∧ W2.heap.size ≤ N ∧ Blk V3 N 101 (bytesV (Fe.m (Fe.mulF p.Y x1))) := hslots 4 (by kernel_rfl)
   obtain ⟨⟨u8, hs8⟩, ⟨u9, hs9⟩, ⟨u10, hs10⟩, ⟨u11, hs11⟩, ⟨u12, hs12⟩, _⟩ := Fg.slotvs qa [8, 9, 10, 11, 12]
   obtain rfl := Fg.frame_by [4, 8, 9, 10, 11, 12] (vs := [p.v, Value.pointer (some ⟨w0.heap.size, 0, none⟩), Value.slice none 0 0, Value.pointer (some ⟨N3, 0, none⟩), Value.slice (some ⟨N4, 0, none⟩) 32 32, u5, u6, x1.v, u8, u9, u10, u11, u12, undef, undef, undef, undef, undef, undef, undef, undef, undef, undef, undef]) hsz hrest (by kernel_rfl) rfl rfl ⟨hs4, hs8, hs9, hs10, hs11, hs12, trivial⟩ hdf
   clear hsz hdf hrest hslots hpt hs4 hs8 hs9 hs10 hs11 hs12
   replace hP := hP.gn g3
   replace hb3 := hb3.gn g3
   replace G := gb_trans G g3
   have hw4 : w0.heap.size ≤ N4 := Nat.le_trans Gs2 hn4
   clear g3
   go_upto_region 3 with (fail)
   have Gs3 := G.size
   have l3hP := hP.lt
   have l3hb3 := hb3.lt
   have l3hb4 := hb4.lt
   refine Fg.rP [] [.any, .any, .any, .any, .any, .any, .any, .any, .any, .any, .any, .any, .any, .val (Value.pointer (some ⟨w0.heap.size, 0, none⟩)), .val (p.X.v), .val (x1.v), .val ((Fe.mulF p.X x1).v), .val (Value.bool true)] 5 ?_ ?_
   ·refine Fg.vS rfl (by decide) (fun ac w h => ?_) ?_
    ·have e1 : _ = Value.pointer (some ⟨w0.heap.size, 0, none⟩) := h.r 1
     exact Fg.vn (Value.pointer (some ⟨w0.heap.size, 0, none⟩)) (Fg.run_fieldAddr rfl e1 (fa_point0 _ _ _))
    refine Fg.vS rfl (by decide) (fun ac w h => ?_) ?_
    ·have e13 : _ = Value.pointer (some ⟨w0.heap.size, 0, none⟩) := h.d 13
     exact Fg.vn p.X.v (Fg.run_load rfl e13 ((hP.gn h.base).range 0 (feL p.X) rfl) Tryz.underlying34 rfl info_elem)
    refine Fg.vS rfl (by decide) (fun ac w h => ?_) ?_
    ·have e3 : _ = Value.pointer (some ⟨N3, 0, none⟩) := h.r 3
     exact Fg.vn x1.v (Fg.run_load rfl e3 ((hb3.gn h.base).range 0 (feL x1) rfl) Tryz.underlying34 rfl info_elem)
    refine Fg.cS rfl (by decide) (fun ac w h => ?_) ?_
    ·have e14 : _ = p.X.v := h.d 14
     have e15 : _ = x1.v := h.d 15
     refine ⟨wants_none rfl, 38, #[p.X.v, x1.v], Fg.run_call rfl rfl (by simp only [List.map_toArray, List.map_cons, List.map_nil, Act.eval, e14, e15]) (Fg.run_enter Tryz.func38 (by kernel_rfl) (by kernel_rfl)), ?_⟩
     exact (t_mul okp.X okx1).mono fun _ _ ⟨he, hg⟩ => ⟨_, he, hg, rfl⟩
    refine Fg.cS rfl (by decide) (fun ac w h => ?_) ?_
    ·have e16 : _ = (Fe.mulF p.X x1).v := h.d 16
     refine ⟨wants_none rfl, 54, #[(Fe.mulF p.X x1).v], Fg.run_call rfl rfl (by simp only [List.map_toArray, List.map_cons, List.map_nil, Act.eval, e16]) (Fg.run_enter Tryz.func54 (by kernel_rfl) (by kernel_rfl)), ?_⟩
     exact (t_odd (Fe.mul_right _ _).ok (by rw [Hx1.out]; exact hx)).mono fun _ _ ⟨he, hg⟩ => ⟨_, he, hg, rfl⟩
    trivial
   ·intro qa V4 g4 hsz hdf hrest hslots hpt
    obtain ⟨⟨u13, hs13⟩, ⟨u14, hs14⟩, ⟨u15, hs15⟩, ⟨u16, hs16⟩, _⟩ := Fg.slotvs qa [13, 14, 15, 16]
    obtain rfl := Fg.frame_by [13, 14, 15, 16, 17] (vs := [p.v, Value.pointer (some ⟨w0.heap.size, 0, none⟩), Value.slice none 0 0, Value.pointer (some ⟨N3, 0, none⟩), Value.slice (some ⟨N4, 0, none⟩) 32 32, u5, u6, x1.v, u8, u9, u10, u11, u12, u13, u14, u15, u16, Value.bool true, undef, undef, undef, undef, undef, undef]) hsz hrest (by kernel_rfl) rfl rfl ⟨hs13, hs14, hs15, hs16, (show qa.tmps.getD 17 undef = Value.bool true from hslots 17 (by kernel_rfl)), trivial⟩ hdf
    clear hsz hdf hrest hslots hpt hs13 hs14 hs15 hs16
    replace hP := hP.gn g4
    replace hb3 := hb3.gn g4
    replace hb4 := hb4.gn g4
    replace G := gb_trans G g4
    clear g4
    have hY : Fe.m (Fe.mulF p.Y x1) = Fe.m (putY p) := by rw [Hx1.out]; rfl
    rw [hY] at hb4
    clear hY
    have hm0 : 0 ≤ (Fe.m (putY p) : Int) := Int.natCast_nonneg _
    have hm1 : (Fe.m (putY p) : Int) < 57896044618658097711785492504343953926634992332820282019728792003956564819968 := by have := (m_bd (putY p)).2; omega
    have hN : putNum p = (Fe.m (putY p) : Int) + 57896044618658097711785492504343953926634992332820282019728792003956564819968 := by unfold putNum; rw [decide_eq_true_iff.1 hx]; rfl
    have HN2 := Lib.hid hN; clear hN
    generalize (Fe.m (putY p) : Int) = y at *
    have c31 := hb4.cell (bytesV_get y 31 (by decide))
    have f31 := hb4.free 31
    have hl := put_low y hm0 hm1
    have ho := put_or _ hl.1 hl.2
    have hset := hb4.set 31 (.int .u8 (y / 2 ^ (8 * 31) % 256 + 128))
    rw [put_set y hm0 hm1, ← HN2.out] at hset
    have G2 := gb_set_new G (p := ⟨N4, 31, none⟩) hw4 (.int .u8 (y / 2 ^ (8 * 31) % 256 + 128))
    unfold bytV at c31
    clear hl
    generalize y / 2 ^ (8 * 31) % 256 = v at *
    have HR := Lib.hid (And.intro hset G2)
    clear hset G2 hb4 hb3 hP G
    go_wp2
    go_ret
    exact ⟨N4, rfl, HR.out.2, hw4, HR.out.1⟩
set_option maxRecDepth 100000 in
set_option maxHeartbeats 3200000 in
theorem put_even (p : Pt) (w0 : World) (okp : p.Ok) (hx : decide (Fe.m (putX p) % 2 = 1) = false) :
  Calls Tryz.prog 33 #[p.v] w0 fun e w' => ∃ NB, e = .returned (.slice (some ⟨NB, 0, none⟩) 32 32) ∧ w0.grownBy w' none ∧ w0.heap.size ≤ NB ∧ Blk w' NB 101 (bytesV (putNum p)) := by
 show Calls Tryz.prog 33 #[.agg (ptL p).toArray] w0 _
 go_enter Tryz.func33, Tryz.ntmps33
 go_upto_region 1 with (fail)
 have G : w0.grownBy (w0.alloc (.cells (ptL p).toArray 36)) none := gb_alloc (gb_refl _ _) _
 have hP : Blk (w0.alloc (.cells (ptL p).toArray 36)) (w0.heap.size) 36 (ptL p) := Blk.new w0 (ptL p) _
 revert G hP
 generalize w0.alloc (.cells (ptL p).toArray 36) = W0
 intro G hP
 have Gs := G.size
 have Gs0 := G.size
 have l1hP := hP.lt
 refine Fg.rP [3] [.any, .any, .any, .fresh 34 zr5 W0.heap.size, .any, .val (Value.pointer (some ⟨w0.heap.size, 10, none⟩)), .val (p.Z.v), .val ((invF p.Z).v)] 4 ?_ ?_
 ·refine Fg.vS rfl (by decide) (fun ac w h => ?_) ?_
  ·have e1 : _ = Value.pointer (some ⟨w0.heap.size, 0, none⟩) := h.r 1
   exact Fg.vn (Value.pointer (some ⟨w0.heap.size, 10, none⟩)) (Fg.run_fieldAddr rfl e1 (fa_point2 _ _ _))
  refine Fg.vS rfl (by decide) (fun ac w h => ?_) ?_
  ·have e5 : _ = Value.pointer (some ⟨w0.heap.size, 10, none⟩) := h.d 5
   exact Fg.vn p.Z.v (Fg.run_load rfl e5 ((hP.gn h.base).range 10 (feL p.Z) rfl) Tryz.underlying34 rfl info_elem)
  refine Fg.cS rfl (by decide) (fun ac w h => ?_) ?_
  ·have e6 : _ = p.Z.v := h.d 6
   refine ⟨wants_none rfl, 52, #[p.Z.v], Fg.run_call rfl rfl (by simp only [List.map_toArray, List.map_cons, List.map_nil, Act.eval, e6]) (Fg.run_enter Tryz.func52 (by kernel_rfl) (by kernel_rfl)), ?_⟩
   exact (t_inv okp.Z).mono fun _ _ ⟨he, hg⟩ => ⟨_, he, hg, rfl⟩
  refine ⟨⟨⟨_, rfl⟩, Fg.allocP (fun _ _ h k => gb_trans h k) rfl (by show 3 < 24; decide) fun ac w h => ?_⟩, ?_⟩
  ·refine ⟨wants_none rfl, w.alloc (.cells zr5.toArray 34), ?_, World.grownBy_alloc _ _ _, by simp, ⟨w.heap.size, rfl, h.base.size, Blk.new w zr5 _⟩⟩
   clear h
   go_simp
  trivial
 ·intro qa V1 g1 hsz hdf hrest hslots hpt
  obtain ⟨N3, hs3, hn3, hb3⟩ : ∃ N, qa.tmps.getD 3 undef = .pointer (some ⟨N, 0, none⟩) ∧ W0.heap.size ≤ N ∧ Blk V1 N 34 zr5 := hslots 3 (by kernel_rfl)
  obtain ⟨u5, hs5⟩ := Fg.slotv qa 5
  obtain ⟨u6, hs6⟩ := Fg.slotv qa 6
  obtain ⟨x1, hx1⟩ : ∃ x : Fe, x = invF p.Z := ⟨_, rfl⟩
  obtain rfl := Fg.frame_by [3, 5, 6, 7] (vs := [p.v, Value.pointer (some ⟨w0.heap.size, 0, none⟩), Value.slice none 0 0, Value.pointer (some ⟨N3, 0, none⟩), undef, u5, u6, x1.v, undef, undef, undef, undef, undef, undef, undef, undef, undef, undef, undef, undef, undef, undef, undef, undef]) hsz hrest (by kernel_rfl) rfl rfl ⟨hs3, hs5, hs6, (show qa.tmps.getD 7 undef = x1.v by rw [hx1]; exact hslots 7 (by kernel_rfl)), trivial⟩ hdf
  clear hsz hdf hrest hslots hpt hs3 hs5 hs6
  have Hx1 := Lib.hid hx1; clear hx1
  replace hP := hP.gn g1
  replace G := gb_trans G g1
  have okx1 : x1.Ok := by rw [Hx1.out]; exact (inv_right _).ok
  have hw3 : w0.heap.size ≤ N3 := Nat.le_trans Gs0 hn3
  clear g1
  refine Fg.wpl_skip rfl rfl (Fg.run_store (cs := feL x1) rfl rfl rfl (hb3.there 0 5 (by show 0 + 5 ≤ 5; decide)) info_elem (feL_one _)) ?_
  replace hP := hP.setCells_other (C := N3) (cs := feL x1) 0 (by omega)
  replace hb3 : Blk (V1.setCells N3 0 (feL x1)) N3 34 (feL x1) := hb3.setAll rfl
  replace G := gb_setCells_new (cs := feL x1) G (B := N3) (hw3) 0
  revert hP hb3 G
  generalize V1.setCells N3 0 (feL x1) = W2
  intro hP hb3 G
  go_upto_region 2 with (fail)
  have Gs2 := G.size
  have l2hP := hP.lt
  have l2hb3 := hb3.lt
  refine Fg.rP [] [.any, .any, .any, .any, .row 101 (bytesV (Fe.m (Fe.mulF p.Y x1))) 32 W2.heap.size, .any, .any, .any, .val (Value.pointer (some ⟨w0.heap.size, 5, none⟩)), .val (p.Y.v), .val (x1.v), .val ((Fe.mulF p.Y x1).v), .row 101 (bytesV (Fe.m (Fe.mulF p.Y x1))) 32 W2.heap.size] 6 ?_ ?_
  ·refine Fg.vS rfl (by decide) (fun ac w h => ?_) ?_
   ·have e1 : _ = Value.pointer (some ⟨w0.heap.size, 0, none⟩) := h.r 1
    exact Fg.vn (Value.pointer (some ⟨w0.heap.size, 5, none⟩)) (Fg.run_fieldAddr rfl e1 (fa_point1 _ _ _))
   refine Fg.vS rfl (by decide) (fun ac w h => ?_) ?_
   ·have e8 : _ = Value.pointer (some ⟨w0.heap.size, 5, none⟩) := h.d 8
    exact Fg.vn p.Y.v (Fg.run_load rfl e8 ((hP.gn h.base).range 5 (feL p.Y) rfl) Tryz.underlying34 rfl info_elem)
   refine Fg.vS rfl (by decide) (fun ac w h => ?_) ?_
   ·have e3 : _ = Value.pointer (some ⟨N3, 0, none⟩) := h.r 3
    exact Fg.vn x1.v (Fg.run_load rfl e3 ((hb3.gn h.base).range 0 (feL x1) rfl) Tryz.underlying34 rfl info_elem)
   refine Fg.cS rfl (by decide) (fun ac w h => ?_) ?_
   ·have e9 : _ = p.Y.v := h.d 9
    have e10 : _ = x1.v := h.d 10
    refine ⟨wants_none rfl, 38, #[p.Y.v, x1.v], Fg.run_call rfl rfl (by simp only [List.map_toArray, List.map_cons, List.map_nil, Act.eval, e9, e10]) (Fg.run_enter Tryz.func38 (by kernel_rfl) (by kernel_rfl)), ?_⟩
    exact (t_mul okp.Y okx1).mono fun _ _ ⟨he, hg⟩ => ⟨_, he, hg, rfl⟩
   refine Fg.cS rfl (by decide) (fun ac w h => ?_) ?_
   ·have e11 : _ = (Fe.mulF p.Y x1).v := h.d 11
    refine ⟨wants_none rfl, 53, #[(Fe.mulF p.Y x1).v], Fg.run_call rfl rfl (by simp only [List.map_toArray, List.map_cons, List.map_nil, Act.eval, e11]) (Fg.run_enter Tryz.func53 (by kernel_rfl) (by kernel_rfl)), ?_⟩
    exact (put_any _ _ (Fe.mul_right _ _).ok).mono fun _ _ ⟨NB, he, hg, hn, hb⟩ => ⟨_, he, hg, ⟨NB, rfl, Nat.le_trans h.base.size hn, hb⟩⟩
   refine Fg.vS rfl (by decide) (fun ac w h => ?_) ?_
   ·obtain ⟨B12, e12, hn12, b12⟩ : ∃ N, ac.tmps.getD 12 undef = .slice (some ⟨N, 0, none⟩) 32 32 ∧ W2.heap.size ≤ N ∧ Blk w N 101 (bytesV (Fe.m (Fe.mulF p.Y x1))) := h.dep 12 (by kernel_rfl)
    exact ⟨wants_none rfl, Value.slice (some ⟨B12, 0, none⟩) 32 32, w, Fg.run_assign rfl e12, gb_refl _ _, ⟨_, rfl, hn12, b12⟩⟩
   trivial
  ·intro qa V3 g3 hsz hdf hrest hslots hpt
   obtain ⟨N4, hs4, hn4, hb4⟩ : ∃ N, qa.tmps.getD 4 undef = .slice (some ⟨N, 0, none⟩) 32 32 ∧ W2.heap.size ≤ N ∧ Blk V3 N 101 (bytesV (Fe.m (Fe.mulF p.Y x1))) := hslots 4 (by kernel_rfl)
   obtain ⟨⟨u8, hs8⟩, ⟨u9, hs9⟩, ⟨u10, hs10⟩, ⟨u11, hs11⟩, ⟨u12, hs12⟩, _⟩ := Fg.slotvs qa [8, 9, 10, 11, 12]
   obtain rfl := Fg.frame_by [4, 8, 9, 10, 11, 12] (vs := [p.v, Value.pointer (some ⟨w0.heap.size, 0, none⟩), Value.slice none 0 0, Value.pointer (some ⟨N3, 0, none⟩), Value.slice (some ⟨N4, 0, none⟩) 32 32, u5, u6, x1.v, u8, u9, u10, u11, u12, undef, undef, undef, undef, undef, undef, undef, undef, undef, undef, undef]) hsz hrest (by kernel_rfl) rfl rfl ⟨hs4, hs8, hs9, hs10, hs11, hs12, trivial⟩ hdf
   clear hsz hdf hrest hslots hpt hs4 hs8 hs9 hs10 hs11 hs12
   replace hP := hP.gn g3
   replace hb3 := hb3.gn g3
   replace G := gb_trans G g3
   have hw4 : w0.heap.size ≤ N4 := Nat.le_trans Gs2 hn4
   clear g3
   go_upto_region 3 with (fail)
   have Gs3 := G.size
   have l3hP := hP.lt
   have l3hb3 := hb3.lt
   have l3hb4 := hb4.lt
   refine Fg.rP [] [.any, .any, .any, .any, .any, .any, .any, .any, .any, .any, .any, .any, .any, .val (Value.pointer (some ⟨w0.heap.size, 0, none⟩)), .val (p.X.v), .val (x1.v), .val ((Fe.mulF p.X x1).v), .val (Value.bool false)] 5 ?_ ?_
   ·refine Fg.vS rfl (by decide) (fun ac w h => ?_) ?_
    ·have e1 : _ = Value.pointer (some ⟨w0.heap.size, 0, none⟩) := h.r 1
     exact Fg.vn (Value.pointer (some ⟨w0.heap.size, 0, none⟩)) (Fg.run_fieldAddr rfl e1 (fa_point0 _ _ _))
    refine Fg.vS rfl (by decide) (fun ac w h => ?_) ?_
    ·have e13 : _ = Value.pointer (some ⟨w0.heap.size, 0, none⟩) := h.d 13
     exact Fg.vn p.X.v (Fg.run_load rfl e13 ((hP.gn h.base).range 0 (feL p.X) rfl) Tryz.underlying34 rfl info_elem)
    refine Fg.vS rfl (by decide) (fun ac w h => ?_) ?_
    ·have e3 : _ = Value.pointer (some ⟨N3, 0, none⟩) := h.r 3
     exact Fg.vn x1.v (Fg.run_load rfl e3 ((hb3.gn h.base).range 0 (feL x1) rfl) Tryz.underlying34 rfl info_elem)
    refine Fg.cS rfl (by decide) (fun ac w h => ?_) ?_
    ·have e14 : _ = p.X.v := h.d 14
     have e15 : _ = x1.v := h.d 15
     refine ⟨wants_none rfl, 38, #[p.X.v, x1.v], Fg.run_call rfl rfl (by simp only [List.map_toArray, List.map_cons, List.map_nil, Act.eval, e14, e15]) (Fg.run_enter Tryz.func38 (by kernel_rfl) (by kernel_rfl)), ?_⟩
     exact (t_mul okp.X okx1).mono fun _ _ ⟨he, hg⟩ => ⟨_, he, hg, rfl⟩
    refine Fg.cS rfl (by decide) (fun ac w h => ?_) ?_
    ·have e16 : _ = (Fe.mulF p.X x1).v := h.d 16
     refine ⟨wants_none rfl, 54, #[(Fe.mulF p.X x1).v], Fg.run_call rfl rfl (by simp only [List.map_toArray, List.map_cons, List.map_nil, Act.eval, e16]) (Fg.run_enter Tryz.func54 (by kernel_rfl) (by kernel_rfl)), ?_⟩
     exact (t_odd (Fe.mul_right _ _).ok (by rw [Hx1.out]; exact hx)).mono fun _ _ ⟨he, hg⟩ => ⟨_, he, hg, rfl⟩
    trivial
   ·intro qa V4 g4 hsz hdf hrest hslots hpt
    obtain ⟨⟨u13, hs13⟩, ⟨u14, hs14⟩, ⟨u15, hs15⟩, ⟨u16, hs16⟩, _⟩ := Fg.slotvs qa [13, 14, 15, 16]
    obtain rfl := Fg.frame_by [13, 14, 15, 16, 17] (vs := [p.v, Value.pointer (some ⟨w0.heap.size, 0, none⟩), Value.slice none 0 0, Value.pointer (some ⟨N3, 0, none⟩), Value.slice (some ⟨N4, 0, none⟩) 32 32, u5, u6, x1.v, u8, u9, u10, u11, u12, u13, u14, u15, u16, Value.bool false, undef, undef, undef, undef, undef, undef]) hsz hrest (by kernel_rfl) rfl rfl ⟨hs13, hs14, hs15, hs16, (show qa.tmps.getD 17 undef = Value.bool false from hslots 17 (by kernel_rfl)), trivial⟩ hdf
    clear hsz hdf hrest hslots hpt hs13 hs14 hs15 hs16
    replace hP := hP.gn g4
    replace hb3 := hb3.gn g4
    replace hb4 := hb4.gn g4
    replace G := gb_trans G g4
    clear g4
    have hY : Fe.m (Fe.mulF p.Y x1) = Fe.m (putY p) := by rw [Hx1.out]; rfl
    rw [hY] at hb4
    clear hY
    have hN : (Fe.m (putY p) : Int) = putNum p := by
     unfold putNum
     have : Fe.m (putX p) % 2 = 0 := by have := of_decide_eq_false hx; omega
     rw [this]; simp
    rw [hN] at hb4
    have HR := Lib.hid (And.intro hb4 G)
    clear hN hb4 hb3 hP G
    go_wp2
    go_ret
    exact ⟨N4, rfl, HR.out.2, hw4, HR.out.1⟩
theorem edPut (p : Pt) (w0 : World) (okp : p.Ok) : Calls Tryz.prog 33 #[p.v] w0 fun e w' => ∃ NB, e = .returned (.slice (some ⟨NB, 0, none⟩) 32 32) ∧ w0.grownBy w' none ∧ w0.heap.size ≤ NB ∧ Blk w' NB 101 (bytesV (putNum p)) := by
 by_cases hx : Fe.m (putX p) % 2 = 1
 ·exact put_odd p w0 okp (decide_eq_true hx)
 ·exact put_even p w0 okp (decide_eq_false hx)
end
section
open Go.RowKit Ow Ed
def enc (p : Pr) : Int := (p.y.val : Int) + 57896044618658097711785492504343953926634992332820282019728792003956564819968 * ((p.x.val % 2 : Nat) : Int)
theorem phi_val (a : Fe) : (phi a).val = Fe.m a := rfl
theorem val_lt (x : F) : x.val < 57896044618658097711785492504343953926634992332820282019728792003956564819949 := x.isLt
theorem P_is : Fe.P = 57896044618658097711785492504343953926634992332820282019728792003956564819949 := rfl
theorem enc_y (p : Pr) : enc p % 57896044618658097711785492504343953926634992332820282019728792003956564819968 = (p.y.val : Int) := by
 unfold enc
 have h := val_lt p.y
 omega
theorem enc_x (p : Pr) : decide (57896044618658097711785492504343953926634992332820282019728792003956564819968 ≤ enc p) = decide (p.x.val % 2 = 1) := by
 unfold enc
 have h := val_lt p.y
 rw [decide_eq_decide]
 omega
theorem id_v {n : Nat} [NeZero n] (d y i : Fin n) (hi : i * i = -1) (h : d * (y * y) + 1 = 0) : i * i = d * (y * y) := by grind
theorem id_v2 {n : Nat} [NeZero n] (d : Fin n) (h : d * (0 * 0) + 1 = 0) : (1 : Fin n) = 0 := by grind
theorem v_ne (y : F) : d * (y * y) + 1 ≠ 0 := fun h => by
 have h0 := nosq (id_v d y im im_is h)
 subst h0
 exact one_ne (id_v2 d h)
theorem id_on1 {n : Nat} [NeZero n] {d x y : Fin n} (h : y*y - x*x = 1 + d*(x*x*(y*y))) : x * x * (d * (y * y) + 1) = y * y - 1 := by grind
theorem id_on2 {n : Nat} [NeZero n] {d x y : Fin n} (h : x * x * (d * (y * y) + 1) = y * y - 1) : y*y - x*x = 1 + d*(x*x*(y*y)) := by grind
theorem id_sq {n : Nat} [NeZero n] {x z v : Fin n} (h : x * x * v = z * z * v) : v * ((x - z) * (x + z)) = 0 := by grind
theorem id_neg {n : Nat} [NeZero n] {x z : Fin n} (h : x + z = 0) : x = - z := by grind
theorem id_nn {n : Nat} [NeZero n] (x : Fin n) : - x * - x = x * x := by grind
theorem same_sq {x z v : F} (hv : v ≠ 0) (h : x * x * v = z * z * v) : x = z ∨ x = - z := by
 rcases mul_zero ((mul_zero (id_sq h)).resolve_left hv) with h1 | h1
 ·exact Or.inl (sub_zero_of h1)
 ·exact Or.inr (id_neg h1)
def uF (y : Fe) : Fe := Fe.subF (Fe.sqF y) Fe.oneF
def vF (y : Fe) : Fe := Fe.addF (Fe.mulF dF (Fe.sqF y)) Fe.oneF
theorem phi_u {y : Fe} (h : y.Right) : phi (uF y) = phi y * phi y - 1 := by
 unfold uF
 rw [phi_sub (Fe.sq_right _) one_right', phi_sq h, phi_one]
theorem phi_v {y : Fe} (h : y.Right) : phi (vF y) = d * (phi y * phi y) + 1 := by
 unfold vF
 rw [phi_add (Fe.mul_right _ _) one_right', phi_mul dF_right (Fe.sq_right _), phi_sq h, phi_one, phi_d]
theorem phi_root {r u v : Fe} : Fe.m r * Fe.m r * Fe.m v % Fe.P = Fe.m u ↔ phi r * phi r * phi v = phi u := by
 constructor
 ·intro h
  apply Fin.ext
  rw [Fin.val_mul, Fin.val_mul, Nat.mod_mul_mod]
  exact h
 ·intro h
  have := congrArg Fin.val h
  rw [Fin.val_mul, Fin.val_mul, Nat.mod_mul_mod] at this
  exact this
theorem par_neg {x : F} (h : x ≠ 0) : (- x).val % 2 = 1 - x.val % 2 := by
 have h1 : (- x).val = Fe.P - x.val := by
  have h2 : x.val ≠ 0 := fun e => h (Fin.ext (e.trans Ed.zero_val.symm))
  have hl := x.isLt
  rw [Fin.val_neg]
  split
  ·exact absurd (by assumption) h
  ·rfl
 have hl := x.isLt
 have h2 : x.val ≠ 0 := fun e => h (Fin.ext (e.trans Ed.zero_val.symm))
 have h3 := val_lt x
 have hP := P_is
 rw [h1]
 omega
theorem neg_zero' : - (0 : F) = 0 := by decide +kernel
theorem across_yes {y xa : Fe} {odd : Bool} (hy : y.Right) (h : acrossF y odd = (xa, true)) : xa.Right ∧ On ⟨phi xa, phi y⟩ ∧ decide ((phi xa).val % 2 = 1) = odd := by
 unfold acrossF at h
 change (if (rootF (uF y) (vF y)).2 = false then ((rootF (uF y) (vF y)).1, false) else if odd = false then ((rootF (uF y) (vF y)).1, true) else if Fe.m (rootF (uF y) (vF y)).1 = 0 then (Fe.zeroF, false) else (Fe.negF (rootF (uF y) (vF y)).1, true)) = (xa, true) at h
 have hvr : (vF y).Right := Fe.add_right _ _
 by_cases hb : (rootF (uF y) (vF y)).2 = true
 ·obtain ⟨hr, he, hm⟩ := root_says hvr hb
  have hm' := phi_root.1 hm
  rw [phi_u hy, phi_v hy] at hm'
  rw [if_neg (by rw [hb]; decide)] at h
  cases odd with
  | false =>
   rw [if_pos rfl] at h
   obtain rfl := (Prod.mk.inj h).1
   refine ⟨hr, id_on2 hm', ?_⟩
   rw [decide_eq_false_iff_not]
   rw [phi_val]
   omega
  | true =>
   rw [if_neg (by decide)] at h
   by_cases hz : Fe.m (rootF (uF y) (vF y)).1 = 0
   ·rw [if_pos hz] at h; exact absurd (Prod.mk.inj h).2 (by decide)
   ·rw [if_neg hz] at h
    obtain rfl := (Prod.mk.inj h).1
    have hne : phi (rootF (uF y) (vF y)).1 ≠ 0 := fun e => hz (by have := congrArg Fin.val e; rw [Ed.zero_val, phi_val] at this; exact this)
    refine ⟨Fe.neg_right _, ?_, ?_⟩
    ·apply id_on2
     show phi (Fe.negF _) * phi (Fe.negF _) * _ = _
     rw [phi_neg hr, id_nn]; exact hm'
    ·rw [decide_eq_true_iff, phi_neg hr, par_neg hne]
     rw [phi_val]
     omega
 ·rw [if_pos (by simpa using hb)] at h
  exact absurd (Prod.mk.inj h).2 (by decide)
theorem across_no {y xa : Fe} {odd : Bool} (hy : y.Right) (h : acrossF y odd = (xa, false)) (p : Pr) (hp : On p) (hpy : p.y = phi y) : decide (p.x.val % 2 = 1) ≠ odd := by
 intro hodd
 unfold acrossF at h
 change (if (rootF (uF y) (vF y)).2 = false then ((rootF (uF y) (vF y)).1, false) else if odd = false then ((rootF (uF y) (vF y)).1, true) else if Fe.m (rootF (uF y) (vF y)).1 = 0 then (Fe.zeroF, false) else (Fe.negF (rootF (uF y) (vF y)).1, true)) = (xa, false) at h
 have hvr : (vF y).Right := Fe.add_right _ _
 have hur : (uF y).Right := Fe.sub_right _ _
 have hx := id_on1 hp
 rw [hpy, ← phi_v hy, ← phi_u hy] at hx
 have hb : (rootF (uF y) (vF y)).2 = true := by
  refine root_any_true (t := p.x.val) hur hvr ?_
  have := congrArg Fin.val hx
  rw [Fin.val_mul, Fin.val_mul, Nat.mod_mul_mod] at this
  exact this
 obtain ⟨hr, he, hm⟩ := root_says hvr hb
 have hm' := phi_root.1 hm
 rw [if_neg (by rw [hb]; decide)] at h
 cases odd with
 | false => rw [if_pos rfl] at h; exact absurd (Prod.mk.inj h).2 (by decide)
 | true =>
  rw [if_neg (by decide)] at h
  by_cases hz : Fe.m (rootF (uF y) (vF y)).1 = 0
  ·have hv : phi (vF y) ≠ 0 := by rw [phi_v hy]; exact v_ne _
   have hz' : phi (rootF (uF y) (vF y)).1 = 0 := Fin.ext ((phi_val _).trans (hz.trans Ed.zero_val.symm))
   rcases same_sq hv (hx.trans hm'.symm) with e | e
   ·rw [e, hz', Ed.zero_val] at hodd; cases hodd
   ·rw [e, hz', neg_zero', Ed.zero_val] at hodd; cases hodd
  ·rw [if_neg hz] at h; exact absurd (Prod.mk.inj h).2 (by decide)
theorem enc_inj {p q : Pr} (hp : On p) (hq : On q) (h : enc p = enc q) : p = q := by
 have hy : p.y = q.y := Fin.ext (by have h1 := enc_y p; have h2 := enc_y q; rw [h] at h1; omega)
 have hxp := id_on1 hp
 have hxq := id_on1 hq
 rw [hy] at hxp
 have hpar : p.x.val % 2 = q.x.val % 2 := by
  have h1 := enc_x p
  have h2 := enc_x q
  rw [h, h2] at h1
  have := decide_eq_decide.1 h1
  omega
 apply Ed.ext _ hy
 rcases same_sq (v_ne q.y) (hxp.trans hxq.symm) with e | e
 ·exact e
 ·by_cases hz : q.x = 0
  ·rw [e, hz, neg_zero']
  ·have := par_neg hz
   rw [← e] at this
   omega
theorem phi_inv {a : Fe} (h : a.Right) : phi (invF a) = Ed.inv (phi a) := Fin.ext (by rw [phi_val, Ed.inv_val, phi_val]; exact (inv_pw h).mi)
theorem id_q {n : Nat} [NeZero n] {z x i : Fin n} (h : z * i = 1) : z * x * i = x := by grind
theorem put_pr {s : Pt} {p : Pr} (h : PtIs s p) : putNum s = enc p := by
 have hi := Ed.inv_mul h.z
 have ey : phi (putY s) = p.y := by
  unfold putY
  rw [phi_mul h.rY (inv_right _), phi_inv h.rZ, h.y]; exact id_q hi
 have ex : phi (putX s) = p.x := by
  unfold putX
  rw [phi_mul h.rX (inv_right _), phi_inv h.rZ, h.x]; exact id_q hi
 have ey' : Fe.m (putY s) = p.y.val := (phi_val _).symm.trans (congrArg Fin.val ey)
 have ex' : Fe.m (putX s) = p.x.val := (phi_val _).symm.trans (congrArg Fin.val ex)
 unfold putNum enc
 rw [ey', ex']
def numI (l : List Nat) : Int := wordOf (fun i => ((l.getD i 0 : Nat) : Int)) 32
theorem word_congr {F G : Nat → Int} : ∀ n, (∀ i, i < n → F i = G i) → wordOf F n = wordOf G n
 | 0, _ => rfl
 | n + 1, h => by rw [wordOf, wordOf, word_congr n (fun i hi => h i (by omega)), h n (by omega)]
theorem num_low (l : List Nat) (hl : l.length = 32) (hb : ∀ i, l.getD i 0 < 256) : wordOf (lowF l) 32 = numI l % 57896044618658097711785492504343953926634992332820282019728792003956564819968 ∧ topB l = decide (57896044618658097711785492504343953926634992332820282019728792003956564819968 ≤ numI l) := by
 have e31 : (2 : Int) ^ (8 * 31) = 452312848583266388373324160190187140051835877600158453279131187530910662656 := by decide
 have hlo : ∀ i, i < 31 → lowF l i = ((l.getD i 0 : Nat) : Int) := fun i hi => by
  unfold lowF lowL
  rw [List.getD_eq_getElem?_getD, List.getElem?_set_ne (by omega), ← List.getD_eq_getElem?_getD]
 have h31 : lowF l 31 = ((l.getD 31 0 % 128 : Nat) : Int) := by
  unfold lowF lowL
  rw [List.getD_eq_getElem?_getD, List.getElem?_set_self (by omega), Option.getD_some]
 have hbd := wordOf_bd (fun i => ((l.getD i 0 : Nat) : Int)) (fun i => ⟨Int.natCast_nonneg _, by have := hb i; omega⟩) 31
 rw [e31] at hbd
 have hx := hb 31
 unfold numI topB
 have ew : wordOf (lowF l) 32 = wordOf (fun i => ((l.getD i 0 : Nat) : Int)) 31 + lowF l 31 * 2 ^ (8 * 31) := by
  rw [wordOf, word_congr 31 hlo]
 have ew2 : wordOf (fun i => ((l.getD i 0 : Nat) : Int)) 32 = wordOf (fun i => ((l.getD i 0 : Nat) : Int)) 31 + ((l.getD 31 0 : Nat) : Int) * 2 ^ (8 * 31) := rfl
 rw [ew, ew2, h31, e31]
 generalize wordOf (fun i => ((l.getD i 0 : Nat) : Int)) 31 = a at *
 generalize l.getD 31 0 = x at *
 refine ⟨by omega, ?_⟩
 rw [decide_eq_decide]
 omega
def GetOut (l : List Nat) (w : World) (e : Ending) (w' : World) : Prop :=
 ∃ (t : Pt) (b : Bool), e = .returned (.tuple #[t.v, .bool b]) ∧ w.grownBy w' none ∧ (b = true → ∃ p, PtIs t p ∧ l.length = 32 ∧ enc p = numI l) ∧ (b = false → t = zeroP0 ∧ ¬ (l.length = 32 ∧ ∃ p, On p ∧ enc p = numI l))
theorem phi_fromN {x : Int} (h0 : 0 ≤ x) (h1 : x < 57896044618658097711785492504343953926634992332820282019728792003956564819949) : ((phi (fromN x)).val : Int) = x := by
 rw [phi_val, fromN_m]
 omega
theorem edGet (B n c : Nat) (a : Option Addr) (l : List Nat) (w0 : World) (HT0 : ETab w0) (hl : l.length = n) (hn : n < 9223372036854775808) (hP : BytesAt w0 B a c l) :
  Calls Tryz.prog 36 #[.slice a n c] w0 (GetOut l w0) := by
 by_cases h32 : n = 32
 ·subst h32
  obtain ⟨hlow, htop⟩ := num_low l hl hP.byte
  have hbd := wordOf_bd (lowF l) (lowF_bd l hP.byte) 32
  have hbd2 : wordOf (lowF l) 32 < 2 ^ 256 := hbd.2
  by_cases hlt : wordOf (lowF l) 32 < 57896044618658097711785492504343953926634992332820282019728792003956564819949
  ·have hyr := fromN_right hbd.1 hbd2
   have hyv := phi_fromN hbd.1 hlt
   cases hac : acrossF (fromN (wordOf (lowF l) 32)) (topB l) with
   | mk xa b =>
    cases b
    ·refine (get_C B a c l w0 HT0 hl hP hlt xa hac).mono ?_
     rintro e w' ⟨rfl, hg⟩
     refine ⟨_, _, rfl, hg, (by intro h; cases h), fun _ => ⟨rfl, ?_⟩⟩
     rintro ⟨_, p, hp, hN⟩
     refine across_no hyr hac p hp (Fin.ext ?_) ?_
     ·have h1 := enc_y p
      rw [hN, ← hlow] at h1
      omega
     ·rw [← enc_x, hN, htop]
    ·refine (get_D B a c l w0 HT0 hl hP hlt xa hac).mono ?_
     rintro e w' ⟨rfl, hg⟩
     refine ⟨_, _, rfl, hg, fun _ => ?_, (by intro h; cases h)⟩
     obtain ⟨hxr, hon, hpar⟩ := across_yes hyr hac
     refine ⟨⟨phi xa, phi (fromN (wordOf (lowF l) 32))⟩, ⟨hxr, hyr, one_right', Fe.mul_right _ _, hon, by show phi Fe.oneF ≠ 0; rw [phi_one]; exact one_ne, e_10 _ _ phi_one, e_10 _ _ phi_one, ?_⟩, hl, ?_⟩
     ·show phi (Fe.mulF xa _) = phi Fe.oneF * _
      rw [phi_mul hxr hyr]; exact e_10 _ _ phi_one
     ·rw [htop] at hpar
      have h2 := decide_eq_decide.1 hpar
      unfold enc
      show ((phi (fromN (wordOf (lowF l) 32))).val : Int) + _ = _
      rw [hyv, hlow]
      have hb2 := wordOf_bd (fun i => ((l.getD i 0 : Nat) : Int)) (fun i => ⟨Int.natCast_nonneg _, by have := hP.byte i; omega⟩) 32
      have e256 : (2 : Int) ^ (8 * 32) = 115792089237316195423570985008687907853269984665640564039457584007913129639936 := by decide
      rw [e256] at hb2
      change 0 ≤ numI l ∧ numI l < _ at hb2
      show _ + _ * (((phi xa).val % 2 : Nat) : Int) = _
      generalize numI l = N at *
      generalize (phi xa).val = X at *
      omega
  ·refine (get_B B a c l w0 HT0 hl hP (by omega)).mono ?_
   rintro e w' ⟨rfl, hg⟩
   refine ⟨_, _, rfl, hg, (by intro h; cases h), fun _ => ⟨rfl, ?_⟩⟩
   rintro ⟨_, p, hp, hN⟩
   have h1 := enc_y p
   rw [hN, ← hlow] at h1
   have h2 := val_lt p.y
   omega
 ·refine (get_len a n c w0 (by simpa using (show ¬ (n : Int) = 32 by omega))).mono ?_
  rintro e w' ⟨rfl, hg⟩
  exact ⟨_, _, rfl, hg, (by intro h; cases h), fun _ => ⟨rfl, fun h => h32 (hl ▸ h.1)⟩⟩
end
section
open Go.RowKit Ow Ed
def digL (x : Int) : List Nat := (List.range 32).map fun i => (x / 2 ^ (8 * i) % 256).toNat
theorem digL_len (x : Int) : (digL x).length = 32 := by simp [digL]
theorem digL_get (x : Int) (i : Nat) (h : i < 32) : (digL x).getD i 0 = (x / 2 ^ (8 * i) % 256).toNat := by
 simp [digL, List.getD_eq_getElem?_getD, List.getElem?_map, List.getElem?_range h]
theorem digL_v (x : Int) : (digL x).map u8N = bytesV x := by
 unfold digL bytesV
 rw [List.map_map]
 apply List.map_congr_left
 intro i _
 show Value.int .u8 (((x / 2 ^ (8 * i) % 256).toNat : Nat) : Int) = bytV x i
 rw [Int.toNat_of_nonneg (Int.emod_nonneg _ (by decide))]
 rfl
theorem digL_lt (x : Int) (i : Nat) : (digL x).getD i 0 < 256 := by
 by_cases h : i < 32
 ·rw [digL_get x i h]
  have h1 := Int.emod_nonneg (x / 2 ^ (8 * i)) (show (256 : Int) ≠ 0 by decide)
  have h2 := Int.emod_lt_of_pos (x / 2 ^ (8 * i)) (show (0 : Int) < 256 by decide)
  omega
 ·rw [List.getD_eq_getElem?_getD, List.getElem?_eq_none (by rw [digL_len]; omega)]
  decide
theorem num_digL {x : Int} (h0 : 0 ≤ x) (h1 : x < 115792089237316195423570985008687907853269984665640564039457584007913129639936) : numI (digL x) = x := by
 unfold numI
 rw [word_congr (G := fun i => x / 2 ^ (8 * i) % 256) 32 (fun i hi => by
  rw [digL_get x i hi, Int.toNat_of_nonneg (Int.emod_nonneg _ (by decide))]), wordOf_bytes]
 have e256 : (2 : Int) ^ (8 * 32) = 115792089237316195423570985008687907853269984665640564039457584007913129639936 := by decide
 rw [e256]
 exact Int.emod_eq_of_lt h0 h1
theorem enc_bd (p : Pr) : 0 ≤ enc p ∧ enc p < 115792089237316195423570985008687907853269984665640564039457584007913129639936 := by
 unfold enc
 have h := val_lt p.y
 have h2 := Nat.mod_lt p.x.val (show 0 < 2 by decide)
 omega
theorem edPutL {s : Pt} {p : Pr} (w : World) (hs : PtIs s p) : Calls Tryz.prog 33 #[s.v] w fun e w' => ∃ NB, e = .returned (.slice (some ⟨NB, 0, none⟩) 32 32) ∧ w.grownBy w' none ∧ w.heap.size ≤ NB ∧ Blk w' NB 101 ((digL (enc p)).map u8N) := by
 refine (edPut s w hs.ok).mono ?_
 rintro e w' ⟨NB, rfl, hg, hn, hb⟩
 rw [put_pr hs, ← digL_v] at hb
 exact ⟨NB, rfl, hg, hn, hb⟩
end
section
namespace Sc
def L : Nat := 7237005577332262213973186563042994240857116359379907606001950938285454250989
def wrd (n j : Nat) : Nat := n / 2 ^ (64 * j) % 18446744073709551616
def byt (n i : Nat) : Nat := n / 2 ^ (8 * i) % 256
theorem wrd_lt (n j : Nat) : wrd n j < 18446744073709551616 := Nat.mod_lt _ (by decide)
theorem byt_lt (n i : Nat) : byt n i < 256 := Nat.mod_lt _ (by decide)
theorem wrd0 (n : Nat) : wrd n 0 = n % 18446744073709551616 := by unfold wrd; simp
theorem wrd1 (n : Nat) : wrd n 1 = n / 18446744073709551616 % 18446744073709551616 := by unfold wrd; rfl
theorem wrd2 (n : Nat) : wrd n 2 = n / 340282366920938463463374607431768211456 % 18446744073709551616 := by unfold wrd; rfl
theorem wrd3 (n : Nat) : wrd n 3 = n / 6277101735386680763835789423207666416102355444464034512896 % 18446744073709551616 := by unfold wrd; rfl
theorem of4 (n : Nat) (h : n < 2 ^ 256) : n = wrd n 0 + wrd n 1 * 18446744073709551616 + wrd n 2 * 340282366920938463463374607431768211456 + wrd n 3 * 6277101735386680763835789423207666416102355444464034512896 := by
 have e : (2 : Nat) ^ 256 = 115792089237316195423570985008687907853269984665640564039457584007913129639936 := by decide
 rw [e] at h
 rw [wrd0, wrd1, wrd2, wrd3]
 have h1 : n / 340282366920938463463374607431768211456 = n / 18446744073709551616 / 18446744073709551616 := by rw [Nat.div_div_eq_div_mul]
 have h2 : n / 6277101735386680763835789423207666416102355444464034512896 = n / 18446744073709551616 / 18446744073709551616 / 18446744073709551616 := by rw [Nat.div_div_eq_div_mul, Nat.div_div_eq_div_mul]
 rw [h1, h2]
 omega
theorem mk4 (a b c d : Nat) (ha : a < 18446744073709551616) (hb : b < 18446744073709551616) (hc : c < 18446744073709551616) (hd : d < 18446744073709551616) (n : Nat)
  (hn : n = a + b * 18446744073709551616 + c * 340282366920938463463374607431768211456 + d * 6277101735386680763835789423207666416102355444464034512896) :
  wrd n 0 = a ∧ wrd n 1 = b ∧ wrd n 2 = c ∧ wrd n 3 = d ∧ n < 2 ^ 256 := by
 have e : (2 : Nat) ^ 256 = 115792089237316195423570985008687907853269984665640564039457584007913129639936 := by decide
 rw [e, wrd0, wrd1, wrd2, wrd3]
 have h1 : n / 18446744073709551616 = b + c * 18446744073709551616 + d * 340282366920938463463374607431768211456 := by omega
 have h2 : n / 340282366920938463463374607431768211456 = c + d * 18446744073709551616 := by
  have : n / 340282366920938463463374607431768211456 = n / 18446744073709551616 / 18446744073709551616 := by rw [Nat.div_div_eq_div_mul]
  rw [this, h1]; omega
 have h3 : n / 6277101735386680763835789423207666416102355444464034512896 = d := by
  have : n / 6277101735386680763835789423207666416102355444464034512896 = n / 340282366920938463463374607431768211456 / 18446744073709551616 := by rw [Nat.div_div_eq_div_mul]
  rw [this, h2]; omega
 rw [h1, h2, h3]
 omega
def lw : Nat → Nat
 | 0 => 6346243789798364141
 | 1 => 1503914060200516822
 | 2 => 0
 | 3 => 1152921504606846976
 | _ => 0
theorem L_is : L = 6346243789798364141 + 1503914060200516822 * 18446744073709551616 + 0 * 340282366920938463463374607431768211456 + 1152921504606846976 * 6277101735386680763835789423207666416102355444464034512896 := by decide
def ov (q : Nat) : Nat → Nat
 | 0 => 0
 | k + 1 => (q * lw k + ov q k) / 18446744073709551616
def lo (q k : Nat) : Nat := (q * lw k + ov q k) % 18446744073709551616
def bl (n q : Nat) : Nat → Nat
 | 0 => 0
 | k + 1 => if wrd n k < lo q k + bl n q k then 1 else 0
def rs (n q k : Nat) : Nat := (wrd n k + 36893488147419103232 - lo q k - bl n q k) % 18446744073709551616
theorem lo_lt (q k : Nat) : lo q k < 18446744073709551616 := Nat.mod_lt _ (by decide)
theorem rs_lt (n q k : Nat) : rs n q k < 18446744073709551616 := Nat.mod_lt _ (by decide)
theorem bl_le (n q k : Nat) : bl n q k ≤ 1 := by
 cases k with
 | zero => exact Nat.zero_le _
 | succ k => unfold bl; split <;> omega
theorem lw_lt (k : Nat) : lw k < 18446744073709551616 := by unfold lw; split <;> decide
theorem ov_lt (q k : Nat) (hq : q < 18446744073709551616) : ov q k < 18446744073709551616 := by
 induction k with
 | zero => exact Nat.zero_lt_succ _
 | succ k ih =>
  unfold ov
  have h := Nat.mul_le_mul (Nat.le_pred_of_lt hq) (Nat.le_pred_of_lt (lw_lt k))
  simp only [Nat.pred_eq_sub_one] at h
  omega
def offN (n q : Nat) : Nat := rs n q 0 + rs n q 1 * 18446744073709551616 + rs n q 2 * 340282366920938463463374607431768211456 + rs n q 3 * 6277101735386680763835789423207666416102355444464034512896
def offO (n q : Nat) : Nat := ov q 4 + bl n q 4
theorem off_step (n q k : Nat) : wrd n k + bl n q (k + 1) * 18446744073709551616 = rs n q k + lo q k + bl n q k := by
 have h1 := wrd_lt n k
 have h2 := lo_lt q k
 have h3 := bl_le n q k
 have e : bl n q (k + 1) = if wrd n k < lo q k + bl n q k then 1 else 0 := rfl
 rw [e]
 unfold rs
 generalize bl n q k = b at *
 generalize lo q k = l at *
 generalize wrd n k = x at *
 split <;> omega
theorem ov_step (q k : Nat) : q * lw k + ov q k = ov q (k + 1) * 18446744073709551616 + lo q k := by
 have e : ov q (k + 1) = (q * lw k + ov q k) / 18446744073709551616 := rfl
 rw [e]; unfold lo; omega
theorem off_eq (n q : Nat) (h : n < 2 ^ 256) : n + offO n q * 115792089237316195423570985008687907853269984665640564039457584007913129639936 = q * L + offN n q := by
 have e := of4 n h
 have s0 := off_step n q 0
 have s1 := off_step n q 1
 have s2 := off_step n q 2
 have s3 := off_step n q 3
 have o0 := ov_step q 0
 have o1 := ov_step q 1
 have o2 := ov_step q 2
 have o3 := ov_step q 3
 have z0 : ov q 0 = 0 := rfl
 have z1 : bl n q 0 = 0 := rfl
 simp only [lw] at o0 o1 o2 o3
 unfold offO offN
 rw [L_is]
 simp only [Nat.reduceAdd] at *
 omega
theorem off_words (n q : Nat) : wrd (offN n q) 0 = rs n q 0 ∧ wrd (offN n q) 1 = rs n q 1 ∧ wrd (offN n q) 2 = rs n q 2 ∧ wrd (offN n q) 3 = rs n q 3 ∧ offN n q < 2 ^ 256 :=
 mk4 _ _ _ _ (rs_lt ..) (rs_lt ..) (rs_lt ..) (rs_lt ..) _ rfl
def ca (n : Nat) : Nat → Nat
 | 0 => 0
 | k + 1 => (wrd n k + lw k + ca n k) / 18446744073709551616
def ps (n k : Nat) : Nat := (wrd n k + lw k + ca n k) % 18446744073709551616
theorem ps_lt (n k : Nat) : ps n k < 18446744073709551616 := Nat.mod_lt _ (by decide)
theorem ca_le (n k : Nat) : ca n k ≤ 1 := by
 induction k with
 | zero => exact Nat.zero_le _
 | succ k ih => have h1 := wrd_lt n k; have h2 := lw_lt k; unfold ca; omega
def backN (n : Nat) : Nat := ps n 0 + ps n 1 * 18446744073709551616 + ps n 2 * 340282366920938463463374607431768211456 + ps n 3 * 6277101735386680763835789423207666416102355444464034512896
theorem ca_step (n k : Nat) : wrd n k + lw k + ca n k = ca n (k + 1) * 18446744073709551616 + ps n k := by
 have e : ca n (k + 1) = (wrd n k + lw k + ca n k) / 18446744073709551616 := rfl
 rw [e]; unfold ps; omega
theorem back_eq (n : Nat) (h : n < 2 ^ 256) : n + L = ca n 4 * 115792089237316195423570985008687907853269984665640564039457584007913129639936 + backN n := by
 have e := of4 n h
 have s0 := ca_step n 0
 have s1 := ca_step n 1
 have s2 := ca_step n 2
 have s3 := ca_step n 3
 have z0 : ca n 0 = 0 := rfl
 simp only [lw] at s0 s1 s2 s3
 unfold backN
 rw [L_is]
 simp only [Nat.reduceAdd] at *
 omega
theorem back_words (n : Nat) : wrd (backN n) 0 = ps n 0 ∧ wrd (backN n) 1 = ps n 1 ∧ wrd (backN n) 2 = ps n 2 ∧ wrd (backN n) 3 = ps n 3 ∧ backN n < 2 ^ 256 :=
 mk4 _ _ _ _ (ps_lt ..) (ps_lt ..) (ps_lt ..) (ps_lt ..) _ rfl
def guessN (top next : Nat) : Nat := if top / 1152921504606846976 > 0 then 18446744073709551615 else top * 16 + next / 1152921504606846976
theorem guess_lt (top next : Nat) (h : next < 18446744073709551616) : guessN top next < 18446744073709551616 := by unfold guessN; split <;> omega
def down (n x : Nat) : Nat := x + n % 6277101735386680763835789423207666416102355444464034512896 * 18446744073709551616
theorem down_words (n x : Nat) (hx : x < 18446744073709551616) : wrd (down n x) 0 = x ∧ wrd (down n x) 1 = wrd n 0 ∧ wrd (down n x) 2 = wrd n 1 ∧ wrd (down n x) 3 = wrd n 2 ∧ down n x < 2 ^ 256 := by
 apply mk4 _ _ _ _ hx (wrd_lt ..) (wrd_lt ..) (wrd_lt ..)
 unfold down
 have h1 : n / 340282366920938463463374607431768211456 = n / 18446744073709551616 / 18446744073709551616 := by rw [Nat.div_div_eq_div_mul]
 rw [wrd0, wrd1, wrd2, h1]
 omega
def restN (n x : Nat) : Nat :=
 let d := down n x
 let q := guessN (wrd n 3) (wrd n 2)
 if wrd n 3 < offO d q then backN (offN d q) else offN d q
theorem top_near (n q : Nat) (n0 n1 n2 n3 x : Nat) (hn : n < L) (hx : x < 18446744073709551616) (w0 : n0 < 18446744073709551616) (w1 : n1 < 18446744073709551616) (w2 : n2 < 18446744073709551616)
  (e4 : n = n0 + n1 * 18446744073709551616 + n2 * 340282366920938463463374607431768211456 + n3 * 6277101735386680763835789423207666416102355444464034512896) (hq : guessN n3 n2 = q) :
  q * L < n * 18446744073709551616 + x + L ∧ n * 18446744073709551616 + x < q * L + L := by
 unfold guessN at hq
 unfold L at *
 split at hq
 ·subst hq; omega
 ·have hk : n2 = n2 / 1152921504606846976 * 1152921504606846976 + n2 % 1152921504606846976 := by omega
  have hl : n2 % 1152921504606846976 < 1152921504606846976 := by omega
  have hm : n2 / 1152921504606846976 < 16 := by omega
  generalize n2 / 1152921504606846976 = a at *
  generalize n2 % 1152921504606846976 = b at *
  have hn3 : n3 < 1152921504606846976 := by omega
  subst hk
  subst hq
  subst e4
  clear hn
  omega
theorem rest_is (n x : Nat) (hn : n < L) (hx : x < 18446744073709551616) : restN n x = (n * 18446744073709551616 + x) % L := by
 have h256 : n < 2 ^ 256 := Nat.lt_trans hn (by decide)
 have e4 := of4 n h256
 obtain ⟨d0, d1, d2, d3, dl⟩ := down_words n x hx
 have eq := off_eq (down n x) (guessN (wrd n 3) (wrd n 2)) dl
 obtain ⟨_, _, _, _, ol⟩ := off_words (down n x) (guessN (wrd n 3) (wrd n 2))
 have eb := back_eq (offN (down n x) (guessN (wrd n 3) (wrd n 2))) ol
 obtain ⟨_, _, _, _, bl'⟩ := back_words (offN (down n x) (guessN (wrd n 3) (wrd n 2)))
 have ed := of4 _ dl
 rw [d0, d1, d2, d3] at ed
 have tn := top_near n _ _ _ _ _ x hn hx (wrd_lt n 0) (wrd_lt n 1) (wrd_lt n 2) e4 rfl
 have p256 : (2 : Nat) ^ 256 = 115792089237316195423570985008687907853269984665640564039457584007913129639936 := by decide
 have hN : n * 18446744073709551616 + x = wrd n 3 * 115792089237316195423570985008687907853269984665640564039457584007913129639936 + down n x := by omega
 rw [p256] at ol bl'
 obtain ⟨N, hNe⟩ : ∃ N, N = n * 18446744073709551616 + x := ⟨_, rfl⟩
 rw [← hNe] at hN tn ⊢
 clear hNe
 unfold restN
 simp only []
 generalize hq : guessN (wrd n 3) (wrd n 2) = q at *
 generalize offN (down n x) q = r at *
 generalize offO (down n x) q = o at *
 generalize backN r = b at *
 generalize ca r 4 = cc at *
 generalize down n x = d at *
 generalize wrd n 3 = n3 at *
 clear p256 d0 d1 d2 d3 dl h256 ed e4 hn hx hq
 have hL : L = 7237005577332262213973186563042994240857116359379907606001950938285454250989 := rfl
 obtain ⟨t1, t2⟩ := tn
 generalize hP : q * L = P at *
 split
 ·rename_i hlt
  have h1 : o = n3 + 1 := by omega
  have h2 : cc = 1 := by omega
  have h3 : N + L = P + b := by omega
  have h4 : b < L := by omega
  have h5 : 1 ≤ q := by
   rcases Nat.eq_zero_or_pos q with h0 | h0
   ·rw [h0, Nat.zero_mul] at hP; omega
   ·exact h0
  obtain ⟨k, rfl⟩ : ∃ k, q = k + 1 := ⟨q - 1, by omega⟩
  rw [Nat.add_mul, Nat.one_mul] at hP
  have h6 : N = L * k + b := by rw [Nat.mul_comm]; omega
  rw [h6, Nat.mul_add_mod, Nat.mod_eq_of_lt h4]
 ·rename_i hlt
  have h1 : o = n3 := by omega
  have h3 : N = P + r := by omega
  have h4 : r < L := by omega
  rw [h3, ← hP, Nat.mul_comm, Nat.mul_add_mod, Nat.mod_eq_of_lt h4]
theorem mod_lt (n : Nat) : n % L < L := Nat.mod_lt _ (by decide)
theorem lt256 (n : Nat) (h : n < L) : n < 2 ^ 256 := Nat.lt_trans h (by decide)
theorem wrd_split (n j : Nat) : n / 2 ^ (64 * j) = n / 2 ^ (64 * (j + 1)) * 18446744073709551616 + wrd n j := by
 have e : (2 : Nat) ^ (64 * (j + 1)) = 2 ^ (64 * j) * 18446744073709551616 := by rw [show 64 * (j + 1) = 64 * j + 64 by omega, Nat.pow_add]
 rw [e, ← Nat.div_div_eq_div_mul]
 unfold wrd
 omega
theorem rest_step (n j : Nat) : restN (n / 2 ^ (64 * (j + 1)) % L) (wrd n j) = n / 2 ^ (64 * j) % L := by
 rw [rest_is _ _ (mod_lt _) (wrd_lt _ _), wrd_split n j]
 generalize n / 2 ^ (64 * (j + 1)) = a
 rw [Nat.add_mod, Nat.mul_mod, Nat.mod_mod, ← Nat.mul_mod, ← Nat.add_mod]
def leN (f : Nat → Nat) : Nat → Nat
 | 0 => 0
 | k + 1 => leN f k + f k * 2 ^ (8 * k)
theorem leN_lt (f : Nat → Nat) (hf : ∀ i, f i < 256) (k : Nat) : leN f k < 2 ^ (8 * k) := by
 induction k with
 | zero => exact Nat.zero_lt_one
 | succ k ih =>
  have e : (2 : Nat) ^ (8 * (k + 1)) = 2 ^ (8 * k) * 256 := by rw [show 8 * (k + 1) = 8 * k + 8 by omega, Nat.pow_add]
  have h := hf k
  have := Nat.mul_le_mul_right (2 ^ (8 * k)) (show f k + 1 ≤ 256 by omega)
  rw [Nat.add_mul, Nat.one_mul] at this
  rw [leN, e]; omega
theorem leN_byt (n k : Nat) : leN (byt n) k = n % 2 ^ (8 * k) := by
 induction k with
 | zero => rw [leN, show 8 * 0 = 0 by rfl, Nat.pow_zero, Nat.mod_one]
 | succ k ih =>
  have e : (2 : Nat) ^ (8 * (k + 1)) = 2 ^ (8 * k) * 256 := by rw [show 8 * (k + 1) = 8 * k + 8 by omega, Nat.pow_add]
  rw [leN, ih, e, Nat.mod_mul]
  unfold byt
  rw [Nat.mul_comm (2 ^ (8 * k))]
theorem leN_congr (f g : Nat → Nat) (k : Nat) (h : ∀ i, i < k → f i = g i) : leN f k = leN g k := by
 induction k with
 | zero => rfl
 | succ k ih => rw [leN, leN, ih (fun i hi => h i (by omega)), h k (by omega)]
theorem byt_leN (f : Nat → Nat) (hf : ∀ i, f i < 256) (k i : Nat) (h : i < k) : byt (leN f k) i = f i := by
 induction k with
 | zero => omega
 | succ k ih =>
  rw [leN]
  unfold byt at *
  by_cases hik : i = k
  ·subst hik
   rw [Nat.add_mul_div_right _ _ (Nat.pow_pos (by decide)), Nat.div_eq_of_lt (leN_lt f hf i), Nat.zero_add, Nat.mod_eq_of_lt (hf i)]
  ·have hlt : i < k := by omega
   have e : (2 : Nat) ^ (8 * k) = 2 ^ (8 * i) * (2 ^ (8 * (k - i - 1)) * 256) := by
    rw [Nat.mul_comm (2 ^ (8 * (k - i - 1))), show (256 : Nat) = 2 ^ 8 by rfl, ← Nat.pow_add, ← Nat.pow_add]; congr 1; omega
   rw [e, ← Nat.mul_assoc, Nat.mul_comm (f k), Nat.mul_assoc, Nat.add_mul_div_left _ _ (Nat.pow_pos (by decide)), ← Nat.mul_assoc, Nat.add_mul_mod_self_right]
   exact ih hlt
theorem fill_same (f : Nat → Nat) (hf : ∀ i, f i < 256) (k : Nat) : wrd (leN f (k + 1)) (k / 8) = wrd (leN f k) (k / 8) + f k * 2 ^ (8 * (k % 8)) ∧ wrd (leN f k) (k / 8) < 2 ^ (8 * (k % 8)) := by
 have hl := leN_lt f hf k
 have hk := hf k
 have e : (2 : Nat) ^ (8 * k) = 2 ^ (64 * (k / 8)) * 2 ^ (8 * (k % 8)) := by rw [← Nat.pow_add]; congr 1; omega
 have hd : leN f k / 2 ^ (64 * (k / 8)) < 2 ^ (8 * (k % 8)) := by rw [Nat.div_lt_iff_lt_mul (Nat.pow_pos (by decide)), Nat.mul_comm, ← e]; exact hl
 have hb : (2 : Nat) ^ (8 * (k % 8)) * 256 ≤ 18446744073709551616 := by
  have : (2 : Nat) ^ (8 * (k % 8)) * 256 = 2 ^ (8 * (k % 8) + 8) := by rw [Nat.pow_add]
  rw [this, show (18446744073709551616 : Nat) = 2 ^ 64 by rfl]
  exact Nat.pow_le_pow_right (by decide) (by omega)
 have hw : wrd (leN f k) (k / 8) = leN f k / 2 ^ (64 * (k / 8)) := by unfold wrd; exact Nat.mod_eq_of_lt (by omega)
 refine ⟨?_, by rw [hw]; exact hd⟩
 have h2 : leN f (k + 1) / 2 ^ (64 * (k / 8)) = leN f k / 2 ^ (64 * (k / 8)) + f k * 2 ^ (8 * (k % 8)) := by
  rw [leN, e, ← Nat.mul_assoc, Nat.mul_comm (f k), Nat.mul_assoc, Nat.add_mul_div_left _ _ (Nat.pow_pos (by decide))]
 rw [hw]
 unfold wrd
 rw [h2]
 apply Nat.mod_eq_of_lt
 have := Nat.mul_le_mul_right (2 ^ (8 * (k % 8))) (show f k + 1 ≤ 256 by omega)
 rw [Nat.add_mul, Nat.one_mul, Nat.mul_comm 256] at this
 omega
theorem fill_other (f : Nat → Nat) (hf : ∀ i, f i < 256) (k j : Nat) (h : j ≠ k / 8) : wrd (leN f (k + 1)) j = wrd (leN f k) j := by
 have hl := leN_lt f hf k
 have hl1 := leN_lt f hf (k + 1)
 unfold wrd
 by_cases hj : j < k / 8
 ·have e : (2 : Nat) ^ (8 * k) = 2 ^ (64 * j) * (2 ^ (8 * k - 64 * j - 64) * 18446744073709551616) := by
   rw [show (18446744073709551616 : Nat) = 2 ^ 64 by rfl, ← Nat.pow_add, ← Nat.pow_add]; congr 1; omega
  rw [leN, e, ← Nat.mul_assoc, Nat.mul_comm (f k), Nat.mul_assoc, Nat.add_mul_div_left _ _ (Nat.pow_pos (by decide)), ← Nat.mul_assoc, Nat.add_mul_mod_self_right]
 ·have h1 : (2 : Nat) ^ (8 * k) ≤ 2 ^ (64 * j) := Nat.pow_le_pow_right (by decide) (by omega)
  have h2 : (2 : Nat) ^ (8 * (k + 1)) ≤ 2 ^ (64 * j) := Nat.pow_le_pow_right (by decide) (by omega)
  rw [Nat.div_eq_of_lt (by omega), Nat.div_eq_of_lt (by omega)]
end Sc
end
section
open Go.RowKit
theorem add64c (x y c : Int) (hx0 : 0 ≤ x) (hy0 : 0 ≤ y) (hc0 : 0 ≤ c) (hc : c ≤ 1) (w : World) : (callFunc 80 #[.int .u64 x, .int .u64 y, .int .u64 c]).run Tryz.prog w =
  .ok (.value (.tuple #[.int .u64 ((x + y + c) % 18446744073709551616), .int .u64 ((x + y + c) / 18446744073709551616)])) w := by
 have h := run_add64 (P := Tryz.prog) x y c (by omega) (by omega) (by omega) (by omega) (w := w)
 rw [run_callFunc_extern Tryz.func80 (by kernel_rfl) (by kernel_rfl) (by kernel_rfl) (e := add64Entry) (by kernel_rfl), h]
 simp only [Result.andThen]
theorem sub64c (x y b : Nat) (hb : b ≤ 1) (w : World) : (callFunc 97 #[.int .u64 x, .int .u64 y, .int .u64 b]).run Tryz.prog w =
  .ok (.value (.tuple #[.int .u64 (((x + 18446744073709551616 - y - b) % 18446744073709551616 : Nat) : Int), .int .u64 ((if x < y + b then 1 else 0 : Nat) : Int)])) w := by
 rw [run_callFunc_extern Tryz.func97 (by kernel_rfl) (by kernel_rfl) (by kernel_rfl) (e := sub64Entry) (by kernel_rfl), run_sub64 x y b hb]
 rfl
theorem mw_eq (p a b : Int) (p0 : 0 ≤ p) (p1 : p ≤ 340282366920938463426481119284349108225) (a0 : 0 ≤ a) (a1 : a < 18446744073709551616) (b0 : 0 ≤ b) (b1 : b < 18446744073709551616) :
  IntKind.u64.wrap (IntKind.u64.wrap (p / 18446744073709551616 + (p % 18446744073709551616 + a) / 18446744073709551616) + ((p % 18446744073709551616 + a) % 18446744073709551616 + b) / 18446744073709551616) = (p + a + b) / 18446744073709551616 ∧
  (p % 18446744073709551616 + a + b) % 18446744073709551616 = (p + a + b) % 18446744073709551616 := by
 rw [IntKind.wrap_u64, IntKind.wrap_u64]
 omega
theorem mul_bd (x y : Int) (hx0 : 0 ≤ x) (hy0 : 0 ≤ y) (hx : x < 18446744073709551616) (hy : y < 18446744073709551616) : 0 ≤ x * y ∧ x * y ≤ 340282366920938463426481119284349108225 := by
 refine ⟨Int.mul_nonneg hx0 hy0, ?_⟩
 have h1 : x * y ≤ 18446744073709551615 * y := Int.mul_le_mul_of_nonneg_right (by omega) hy0
 omega
set_option maxHeartbeats 400000 in
theorem maw_int (x y a b : Int) (w : World) (x0 : 0 ≤ x) (y0 : 0 ≤ y) (x1 : x < 18446744073709551616) (y1 : y < 18446744073709551616) (a0 : 0 ≤ a) (a1 : a < 18446744073709551616) (b0 : 0 ≤ b) (b1 : b < 18446744073709551616) :
  Calls Tryz.prog 55 #[.int .u64 x, .int .u64 y, .int .u64 a, .int .u64 b] w fun e w' => e = .returned (.tuple #[.int .u64 ((x * y + a + b) / 18446744073709551616), .int .u64 ((x * y + a + b) % 18446744073709551616)]) ∧ w = w' := by
 obtain ⟨p0, p1⟩ := mul_bd x y x0 y0 x1 y1
 have H := Lib.hid (mw_eq (x * y) a b p0 p1 a0 a1 b0 b1)
 have M := Lib.hid (mul64 x y x0 y0 x1 y1)
 have c0 : 0 ≤ x * y % 18446744073709551616 := by omega
 have c1 : 0 ≤ (x * y % 18446744073709551616 + a) % 18446744073709551616 := by omega
 have q0 : 0 ≤ x * y / 18446744073709551616 := by omega
 generalize x * y = p at *
 obtain ⟨hi, hhi⟩ : ∃ hi, hi = p / 18446744073709551616 := ⟨_, rfl⟩
 obtain ⟨lo, hlo⟩ : ∃ lo, lo = p % 18446744073709551616 := ⟨_, rfl⟩
 rw [← hhi, ← hlo] at H M
 rw [← hlo] at c0 c1
 rw [← hhi] at q0
 clear hhi hlo p1 p0 x0 x1 y0 y1
 go_enter Tryz.func55, Tryz.ntmps55
 go_wp2_with (first | (go_at_call 79; refine (M.out _).mono ?_; rintro e w' ⟨rfl, rfl⟩) | simp only [add64 _ _ c0 a0, add64 _ _ c1 b0])
 go_ret2
 rw [← H.out.1, ← H.out.2]
 exact ⟨rfl, rfl⟩
theorem maw_any (x y a b : Nat) (w : World) (x1 : x < 18446744073709551616) (y1 : y < 18446744073709551616) (a1 : a < 18446744073709551616) (b1 : b < 18446744073709551616) :
  Calls Tryz.prog 55 #[.int .u64 x, .int .u64 y, .int .u64 a, .int .u64 b] w fun e w' => e = .returned (.tuple #[.int .u64 (((x * y + a + b) / 18446744073709551616 : Nat) : Int), .int .u64 (((x * y + a + b) % 18446744073709551616 : Nat) : Int)]) ∧ w = w' := by
 refine (maw_int x y a b w (by omega) (by omega) (by omega) (by omega) (by omega) (by omega) (by omega) (by omega)).mono ?_
 rintro e w' ⟨rfl, rfl⟩
 refine ⟨?_, rfl⟩
 have e1 : ((x : Int) * y + a + b) = ((x * y + a + b : Nat) : Int) := by push_cast; rfl
 rw [e1]
 rfl
theorem guess_bits (t n : Nat) (ht : t < 1152921504606846976) (hn : n < 18446744073709551616) : bits .or .u64 ((t : Int) * 16) ((n : Int) / 1152921504606846976) = ((t * 16 + n / 1152921504606846976 : Nat) : Int) := by
 have e1 : (t : Int) * 16 = ((2 ^ 4 * t : Nat) : Int) := by omega
 have e2 : (n : Int) / 1152921504606846976 = ((n / 1152921504606846976 : Nat) : Int) := by omega
 rw [e1, e2, u64_or_nat _ _ (by omega) (by omega), ← Nat.two_pow_add_eq_or_of_lt (by omega)]
 omega
set_option maxHeartbeats 400000 in
theorem sguess_any (t n : Nat) (w : World) (ht : t < 18446744073709551616) (hn : n < 18446744073709551616) :
  Calls Tryz.prog 73 #[.int .u64 t, .int .u64 n] w fun e w' => e = .returned (.int .u64 (Sc.guessN t n : Int)) ∧ w = w' := by
 by_cases h : 0 < (t : Int) / 1152921504606846976
 ·have e : Sc.guessN t n = 18446744073709551615 := by unfold Sc.guessN; rw [if_pos (by omega)]
  have E := Lib.hid e; clear e
  go_enter Tryz.func73, Tryz.ntmps73
  go_wp2
  go_ret
  exact ⟨by rw [E.out]; rfl, rfl⟩
 ·have e : Sc.guessN t n = t * 16 + n / 1152921504606846976 := by unfold Sc.guessN; rw [if_neg (by omega)]
  have H := Lib.hid (guess_bits t n (by omega) hn)
  have E := Lib.hid e; clear e
  go_enter Tryz.func73, Tryz.ntmps73
  go_wp2
  go_ret
  exact ⟨by rw [E.out, ← H.out]; rfl, rfl⟩
end
section
open Go.RowKit
def u64N (n : Nat) : Value := .int .u64 (n : Int)
def wV (n j : Nat) : Value := u64N (Sc.wrd n j)
structure OTab (w : World) : Prop where
 lt : 4 < w.heap.size
 cel : ∀ i, i < 4 → w.cell? ⟨4, i, none⟩ = some (u64N (Sc.lw i))
theorem OTab.kept {w w' : World} (h : OTab w) {row : Option Nat} (hg : w.grownBy w' row) (hr : ∀ r, row = some r → 4 < r) : OTab w' :=
 ⟨Nat.lt_of_lt_of_le h.lt hg.size, fun i hi => by rw [gb_cell hg (p := ⟨4, i, none⟩) h.lt (fun e => by have := hr _ e.symm; simp at this)]; exact h.cel i hi⟩
def recL (X : List Value) (n : Nat) : List Value := X ++ [wV n 0, wV n 1, wV n 2, wV n 3]
def mixL (X : List Value) (f g : Nat → Nat) (k : Nat) : List Value := X ++ (List.range 4).map fun j => u64N (if j < k then f j else g j)
theorem mixL_set (X : List Value) (hX : X.length = 8) (f g : Nat → Nat) (k : Nat) (hk : k < 4) : (mixL X f g k).set (8 + k) (u64N (f k)) = mixL X f g (k + 1) := by
 unfold mixL
 rw [List.set_append_right _ _ (by omega), show 8 + k - X.length = k by omega]
 congr 1
 apply List.ext_getElem?
 intro i
 rw [List.getElem?_set, List.length_map, List.length_range]
 by_cases hi : i < 4
 ·rw [List.getElem?_map, List.getElem?_map, List.getElem?_range hi]
  by_cases h : k = i
  ·subst h; simp [hk]
  ·simp [h, show i < k + 1 ↔ i < k by omega]
 ·rw [if_neg (by omega), List.getElem?_eq_none (by simp; omega), List.getElem?_eq_none (by simp; omega)]
theorem mixL_get (X : List Value) (hX : X.length = 8) (f g : Nat → Nat) (k : Nat) (hk : k < 4) : (mixL X f g k)[8 + k]? = some (u64N (g k)) := by
 unfold mixL
 rw [List.getElem?_append_right (by omega), show 8 + k - X.length = k by omega, List.getElem?_map, List.getElem?_range hk]
 simp
theorem mixL_start (X : List Value) (f : Nat → Nat) (n : Nat) : mixL X f (Sc.wrd n) 0 = recL X n := by
 simp [mixL, recL, List.range, List.range.loop, wV]
theorem mixL_end (X : List Value) (f g : Nat → Nat) (n : Nat) (h0 : Sc.wrd n 0 = f 0) (h1 : Sc.wrd n 1 = f 1) (h2 : Sc.wrd n 2 = f 2) (h3 : Sc.wrd n 3 = f 3) : mixL X f g 4 = recL X n := by
 simp [mixL, recL, List.range, List.range.loop, wV, h0, h1, h2, h3]
theorem off_end (X : List Value) (n q : Nat) : mixL X (Sc.rs n q) (Sc.wrd n) 4 = recL X (Sc.offN n q) := by
 obtain ⟨h0, h1, h2, h3, _⟩ := Sc.off_words n q
 exact mixL_end X _ _ _ h0 h1 h2 h3
theorem back_end (X : List Value) (n : Nat) : mixL X (Sc.ps n) (Sc.wrd n) 4 = recL X (Sc.backN n) := by
 obtain ⟨h0, h1, h2, h3, _⟩ := Sc.back_words n
 exact mixL_end X _ _ _ h0 h1 h2 h3
theorem sub_step (n q k : Nat) : (Sc.wrd n k + 18446744073709551616 - Sc.lo q k - Sc.bl n q k) % 18446744073709551616 = Sc.rs n q k ∧ (if Sc.wrd n k < Sc.lo q k + Sc.bl n q k then 1 else 0) = Sc.bl n q (k + 1) := by
 have h1 := Sc.wrd_lt n k
 have h2 := Sc.lo_lt q k
 have h3 := Sc.bl_le n q k
 refine ⟨?_, rfl⟩
 unfold Sc.rs
 omega
theorem order_index (k : Nat) (hk : k < 4) : ∀ w, (Instr.index 54 (.agg #[.int .u64 6346243789798364141, .int .u64 1503914060200516822, .int .u64 0, .int .u64 1152921504606846976]) (.int .i64 k)).run Tryz.prog w = .ok (.int .u64 (Sc.lw k : Int)) w := by
 intro w
 obtain rfl | rfl | rfl | rfl : k = 0 ∨ k = 1 ∨ k = 2 ∨ k = 3 := by omega
 all_goals kernel_rfl
theorem offO_bd (n q : Nat) (hn : n < 2 ^ 256) (hq : q < 18446744073709551616) : (Sc.ov q 4 : Int) + (Sc.bl n q 4 : Int) ≤ 18446744073709551615 := by
 have h := Sc.off_eq n q hn
 have h2 := (Sc.off_words n q).2.2.2.2
 have e : (2 : Nat) ^ 256 = 115792089237316195423570985008687907853269984665640564039457584007913129639936 := by decide
 rw [e] at h2
 have hE : Sc.offO n q = Sc.ov q 4 + Sc.bl n q 4 := rfl
 rw [hE] at h
 unfold Sc.L at h
 generalize Sc.ov q 4 = o4 at *
 generalize Sc.bl n q 4 = b4 at *
 generalize Sc.offN n q = r at *
 clear e hn hE
 omega
set_option maxHeartbeats 1600000 in
theorem takeOff_any (R n q : Nat) (T : TypeId) (X : List Value) (w : World) (hX : X.length = 8) (hn : n < 2 ^ 256) (hq : q < 18446744073709551616) (hT : OTab w) (hb : Blk w R T (recL X n)) :
  Calls Tryz.prog 72 #[.pointer (some ⟨R, 0, none⟩), .int .u64 q] w fun e w' => e = .returned (.int .u64 (Sc.offO n q : Int)) ∧ w.grownBy w' (some R) ∧ Blk w' R T (recL X (Sc.offN n q)) := by
 have t0 := hT.cel 0 (by decide)
 have t1 := hT.cel 1 (by decide)
 have t2 := hT.cel 2 (by decide)
 have t3 := hT.cel 3 (by decide)
 have HT := Lib.hid hT; clear hT
 have HX := Lib.hid hX; clear hX
 rw [← mixL_start X (Sc.rs n q) n] at hb
 have HB := Lib.hid hb; clear hb
 unfold u64N at t0 t1 t2 t3
 simp only [Sc.lw] at t0 t1 t2 t3
 go_enter Tryz.func72, Tryz.ntmps72
 go_wp2
 go_loopw [5, 6, 11] (fun o b i wr => ∃ k : Nat, k ≤ 4 ∧ i = .int .i64 k ∧ o = .int .u64 (Sc.ov q k : Int) ∧ b = .int .u64 (Sc.bl n q k : Int) ∧ w.grownBy wr (some R) ∧ Blk wr R T (mixL X (Sc.rs n q) (Sc.wrd n) k)) (fun _ _ i _ => 4 - (intOf i).toNat)
 case atStart => exact ⟨0, by omega, rfl, rfl, rfl, gb_refl _ _, HB.out⟩
 case round =>
  obtain ⟨k, hk, rfl, rfl, rfl, hg, hb⟩ := hrel
  by_cases hlt : k < 4
  ·have hs := sub_step n q k
   have hset := mixL_set X HX.out (Sc.rs n q) (Sc.wrd n) k hlt
   have c0 := hb.cell (mixL_get X HX.out (Sc.rs n q) (Sc.wrd n) k hlt)
   have f0 := hb.free (8 + k)
   have hi := order_index k hlt
   have b1 := Sc.bl_le n q k
   have l1 := Sc.lw_lt k
   have o1 := Sc.ov_lt q k hq
   have hm := maw_any q (Sc.lw k) (Sc.ov q k) 0
   have he : (q * Sc.lw k + Sc.ov q k + 0) / 18446744073709551616 = Sc.ov q (k + 1) := rfl
   have hl : (q * Sc.lw k + Sc.ov q k + 0) % 18446744073709551616 = Sc.lo q k := rfl
   rw [he, hl] at hm
   clear he hl
   have HM := Lib.hid (fun W => hm W hq l1 o1 (by decide)); clear hm
   have hsub := sub64c (Sc.wrd n k) (Sc.lo q k) (Sc.bl n q k) b1
   rw [hs.1, hs.2] at hsub
   have HS := Lib.hid hset; clear hset hs l1 o1 b1
   have HB1 := Lib.hid hb; clear hb
   have HG := Lib.hid hg; clear hg
   unfold u64N at c0
   generalize Sc.lw k = lk at *
   go_wp2_with (go_at_call 55; refine (HM.out _).mono ?_; rintro e w' ⟨rfl, rfl⟩)
   go_region_with (simp only [hsub])
   all_goals go_wp2
   go_roundw
   case rel =>
    exact ⟨k + 1, by omega, by go_num, rfl, rfl, gb_drew (gb_set HG.out _ _), by
     have h := HB1.out.set (8 + k) (u64N (Sc.rs n q k))
     rw [HS.out] at h
     exact h.drew⟩
   case measure => simp [intOf]; omega
  ·obtain rfl : k = 4 := by omega
   have hO := offO_bd n q hn hq
   rw [off_end] at hb
   have HB1 := Lib.hid hb; clear hb
   have HG := Lib.hid hg; clear hg
   have hE : Hid (Sc.offO n q = Sc.ov q 4 + Sc.bl n q 4) := rfl
   generalize Sc.ov q 4 = o4 at *
   generalize Sc.bl n q 4 = b4 at *
   go_wp2
   go_ret
   exact ⟨by rw [hE.out]; simp, HG.out, HB1.out⟩
theorem back_step (n k : Nat) : ((Sc.wrd n k : Int) + (Sc.lw k : Int) + (Sc.ca n k : Int)) % 18446744073709551616 = (Sc.ps n k : Int) ∧ ((Sc.wrd n k : Int) + (Sc.lw k : Int) + (Sc.ca n k : Int)) / 18446744073709551616 = (Sc.ca n (k + 1) : Int) := by
 have e : Sc.ca n (k + 1) = (Sc.wrd n k + Sc.lw k + Sc.ca n k) / 18446744073709551616 := rfl
 rw [e]
 unfold Sc.ps
 omega
set_option maxHeartbeats 1600000 in
theorem putBack_any (R n : Nat) (T : TypeId) (X : List Value) (w : World) (hX : X.length = 8) (hT : OTab w) (hb : Blk w R T (recL X n)) :
  Calls Tryz.prog 74 #[.pointer (some ⟨R, 0, none⟩)] w fun e w' => e = .returned (.tuple #[]) ∧ w.grownBy w' (some R) ∧ Blk w' R T (recL X (Sc.backN n)) := by
 have t0 := hT.cel 0 (by decide)
 have t1 := hT.cel 1 (by decide)
 have t2 := hT.cel 2 (by decide)
 have t3 := hT.cel 3 (by decide)
 have HT := Lib.hid hT; clear hT
 have HX := Lib.hid hX; clear hX
 rw [← mixL_start X (Sc.ps n) n] at hb
 have HB := Lib.hid hb; clear hb
 unfold u64N at t0 t1 t2 t3
 simp only [Sc.lw] at t0 t1 t2 t3
 go_enter Tryz.func74, Tryz.ntmps74
 go_wp2
 go_loopw [2, 6] (fun o i wr => ∃ k : Nat, k ≤ 4 ∧ i = .int .i64 k ∧ o = .int .u64 (Sc.ca n k : Int) ∧ w.grownBy wr (some R) ∧ Blk wr R T (mixL X (Sc.ps n) (Sc.wrd n) k)) (fun _ i _ => 4 - (intOf i).toNat)
 case atStart => exact ⟨0, by omega, rfl, rfl, gb_refl _ _, HB.out⟩
 case round =>
  obtain ⟨k, hk, rfl, rfl, hg, hb⟩ := hrel
  by_cases hlt : k < 4
  ·have hs := back_step n k
   have hset := mixL_set X HX.out (Sc.ps n) (Sc.wrd n) k hlt
   have c0 := hb.cell (mixL_get X HX.out (Sc.ps n) (Sc.wrd n) k hlt)
   have f0 := hb.free (8 + k)
   have hi := order_index k hlt
   have b1 := Sc.ca_le n k
   have hsub := add64c (Sc.wrd n k) (Sc.lw k) (Sc.ca n k) (by omega) (by omega) (by omega) (by omega)
   rw [hs.1, hs.2] at hsub
   have HS := Lib.hid hset; clear hset hs b1
   have HB1 := Lib.hid hb; clear hb
   have HG := Lib.hid hg; clear hg
   unfold u64N at c0
   generalize Sc.lw k = lk at *
   go_wp2
   go_region_with (simp only [hsub])
   all_goals go_wp2
   go_roundw
   case rel =>
    exact ⟨k + 1, by omega, by go_num, rfl, gb_drew (gb_set HG.out _ _), by
     have h := HB1.out.set (8 + k) (u64N (Sc.ps n k))
     rw [HS.out] at h
     exact h.drew⟩
   case measure => simp [intOf]; omega
  ·obtain rfl : k = 4 := by omega
   rw [back_end] at hb
   have HB1 := Lib.hid hb; clear hb
   have HG := Lib.hid hg; clear hg
   go_wp2
   go_end0
   exact ⟨rfl, HG.out, HB1.out⟩
end
section
open Go.RowKit
theorem recL_get (X : List Value) (hX : X.length = 8) (n : Nat) : (recL X n)[8]? = some (wV n 0) ∧ (recL X n)[9]? = some (wV n 1) ∧ (recL X n)[10]? = some (wV n 2) ∧ (recL X n)[11]? = some (wV n 3) := by
 unfold recL
 refine ⟨?_, ?_, ?_, ?_⟩ <;> (rw [List.getElem?_append_right (by omega), hX]; rfl)
theorem down_set (X : List Value) (hX : X.length = 8) (n x : Nat) (hx : x < 18446744073709551616) :
  ((((recL X n).set 8 (u64N x)).set 9 (wV n 0)).set 10 (wV n 1)).set 11 (wV n 2) = recL X (Sc.down n x) := by
 obtain ⟨h0, h1, h2, h3, _⟩ := Sc.down_words n x hx
 unfold recL wV
 rw [h0, h1, h2, h3]
 rw [List.set_append_right _ _ (by omega), List.set_append_right _ _ (by omega), List.set_append_right _ _ (by omega), List.set_append_right _ _ (by omega), hX]
 rfl
set_option maxHeartbeats 1600000 in
theorem bringDown_any (R n x : Nat) (T : TypeId) (X : List Value) (w : World) (hX : X.length = 8) (hx : x < 18446744073709551616) (hT : OTab w) (hR : 4 < R) (hb : Blk w R T (recL X n)) :
  Calls Tryz.prog 46 #[.pointer (some ⟨R, 0, none⟩), .int .u64 x] w fun e w' => e = .returned (.tuple #[]) ∧ w.grownBy w' (some R) ∧ Blk w' R T (recL X (Sc.restN n x)) := by
 obtain ⟨g0, g1, g2, g3⟩ := recL_get X hX n
 have c0 := hb.cell g0
 have c1 := hb.cell g1
 have c2 := hb.cell g2
 have c3 := hb.cell g3
 have f0 := hb.free 8
 have f1 := hb.free 9
 have f2 := hb.free 10
 have f3 := hb.free 11
 clear g0 g1 g2 g3
 have HS := Lib.hid (down_set X hX n x hx)
 have HX := Lib.hid hX; clear hX
 have HT := Lib.hid hT; clear hT
 have HB := Lib.hid hb; clear hb
 unfold wV u64N at c0 c1 c2 c3
 go_enter Tryz.func46, Tryz.ntmps46
 go_wp2
 go_region
 all_goals go_wp2_with fail
 have hb1 := (((((HB.out.set 8 (u64N x)).set 9 (wV n 0)).set 10 (wV n 1)).set 11 (wV n 2))).drew
 have hg1 := gb_drew (gb_set (gb_set (gb_set (gb_set (gb_refl w (some R)) 8 (u64N x)) 9 (wV n 0)) 10 (wV n 1)) 11 (wV n 2))
 rw [HS.out] at hb1
 unfold wV u64N at hb1 hg1
 revert hb1 hg1
 generalize ((((w.setCell ⟨R, 8, none⟩ (Value.int IntKind.u64 (x : Int))).setCell ⟨R, 9, none⟩ (Value.int IntKind.u64 (Sc.wrd n 0 : Int))).setCell ⟨R, 10, none⟩ (Value.int IntKind.u64 (Sc.wrd n 1 : Int))).setCell ⟨R, 11, none⟩ (Value.int IntKind.u64 (Sc.wrd n 2 : Int))).drew = w1
 intro hb1 hg1
 have HB1 := Lib.hid hb1; clear hb1 HB
 have HG1 := Lib.hid hg1; clear hg1
 clear c0 c1 c2 c3 f0 f1 f2 f3
 refine (sguess_any (Sc.wrd n 3) (Sc.wrd n 2) w1 (Sc.wrd_lt n 3) (Sc.wrd_lt n 2)).mono ?_
 rintro e w' ⟨rfl, rfl⟩
 have hgl := Sc.guess_lt (Sc.wrd n 3) (Sc.wrd n 2) (Sc.wrd_lt n 2)
 have hT1 := HT.out.kept HG1.out (fun r e => by cases e; exact hR)
 have ht := takeOff_any R (Sc.down n x) (Sc.guessN (Sc.wrd n 3) (Sc.wrd n 2)) T X w1 HX.out (Sc.down_words n x hx).2.2.2.2 hgl hT1 HB1.out
 have hr : Hid (Sc.restN n x = if Sc.wrd n 3 < Sc.offO (Sc.down n x) (Sc.guessN (Sc.wrd n 3) (Sc.wrd n 2)) then Sc.backN (Sc.offN (Sc.down n x) (Sc.guessN (Sc.wrd n 3) (Sc.wrd n 2))) else Sc.offN (Sc.down n x) (Sc.guessN (Sc.wrd n 3) (Sc.wrd n 2))) := rfl
 clear hgl hT1
 generalize Sc.guessN (Sc.wrd n 3) (Sc.wrd n 2) = q at *
 generalize Sc.offO (Sc.down n x) q = o at *
 generalize Sc.offN (Sc.down n x) q = m at *
 generalize Sc.wrd n 3 = top at *
 have HTO := Lib.hid ht; clear ht
 by_cases hlt : top < o
 ·have hlt' : decide ((top : Int) < (o : Int)) = true := by simpa using hlt
  go_wp2_with fail
  refine HTO.out.mono ?_
  rintro e w2 ⟨rfl, hg2, hb2⟩
  have HG2 := Lib.hid (gb_trans HG1.out hg2); clear hg2
  have HB2 := Lib.hid hb2; clear hb2
  go_wp2_with fail
  refine (putBack_any R m T X w2 HX.out (HT.out.kept HG2.out (fun r e => by cases e; exact hR)) HB2.out).mono ?_
  rintro e w3 ⟨rfl, hg3, hb3⟩
  have HG3 := Lib.hid (gb_trans HG2.out hg3); clear hg3
  have HB3 := Lib.hid hb3; clear hb3
  go_wp2
  go_end0
  exact ⟨rfl, HG3.out, by rw [hr.out, if_pos hlt]; exact HB3.out⟩
 ·have hlt' : decide ((top : Int) < (o : Int)) = false := by simpa using hlt
  go_wp2_with fail
  refine HTO.out.mono ?_
  rintro e w2 ⟨rfl, hg2, hb2⟩
  have HG2 := Lib.hid (gb_trans HG1.out hg2); clear hg2
  have HB2 := Lib.hid hb2; clear hb2
  go_wp2
  go_end0
  exact ⟨rfl, HG2.out, by rw [hr.out, if_neg hlt]; exact HB2.out⟩
end
section
open Go.RowKit Ow
theorem some_ne' {a b : Nat} (h : a ≠ b) : some a ≠ some b := fun e => h (Option.some.inj e)
def wds (n m : Nat) : List Value := (List.range m).map (wV n)
theorem wds_get (n m j : Nat) (h : j < m) (tl : List Value) : (wds n m ++ tl)[j]? = some (wV n j) := by
 unfold wds
 rw [List.getElem?_append_left (by simpa using h), List.getElem?_map, List.getElem?_range h]; rfl
theorem wds_set (n n' m j : Nat) (h : j < m) (tl : List Value) (v : Nat) (hj : Sc.wrd n' j = v) (ho : ∀ i, i ≠ j → Sc.wrd n' i = Sc.wrd n i) : (wds n m ++ tl).set j (u64N v) = wds n' m ++ tl := by
 unfold wds
 rw [List.set_append_left _ _ (by simpa using h)]
 congr 1
 apply List.ext_getElem?
 intro i
 rw [List.getElem?_set, List.length_map, List.length_range]
 by_cases hi : i < m
 ·rw [List.getElem?_map, List.getElem?_map, List.getElem?_range hi]
  by_cases e : j = i
  ·subst e; simp [hi, wV, hj]
  ·simp [e, wV, ho i (fun h => e h.symm)]
 ·rw [if_neg (by omega), List.getElem?_eq_none (by simp; omega), List.getElem?_eq_none (by simp; omega)]
theorem fill_bits (o x r : Nat) (hx : x < 256) (hr : r < 8) (ho : o < 2 ^ (8 * r)) : bits .or .u64 (o : Int) (IntKind.u64.wrap ((x : Int) * 2 ^ (8 * r))) = ((o + x * 2 ^ (8 * r) : Nat) : Int) := by
 have hb : (2 : Nat) ^ (8 * r) * 256 ≤ 18446744073709551616 := by
  have : (2 : Nat) ^ (8 * r) * 256 = 2 ^ (8 * r + 8) := by rw [Nat.pow_add]
  rw [this, show (18446744073709551616 : Nat) = 2 ^ 64 by rfl]
  exact Nat.pow_le_pow_right (by decide) (by omega)
 have h1 : x * 2 ^ (8 * r) + 2 ^ (8 * r) ≤ 2 ^ (8 * r) * 256 := by
  have := Nat.mul_le_mul_right (2 ^ (8 * r)) (show x + 1 ≤ 256 by omega)
  rw [Nat.add_mul, Nat.one_mul, Nat.mul_comm 256] at this; exact this
 have e1 : (x : Int) * 2 ^ (8 * r) = ((2 ^ (8 * r) * x : Nat) : Int) := by rw [Int.natCast_mul, Int.natCast_pow, Int.mul_comm]; rfl
 rw [Nat.mul_comm] at h1
 have e2 : IntKind.u64.wrap ((x : Int) * 2 ^ (8 * r)) = ((2 ^ (8 * r) * x : Nat) : Int) := by
  rw [e1, IntKind.wrap_u64]
  generalize 2 ^ (8 * r) * x = y at *
  generalize 2 ^ (8 * r) = z at *
  omega
 rw [e2, u64_or_nat _ _ (by omega) (by omega), Nat.or_comm, ← Nat.two_pow_add_eq_or_of_lt ho, Nat.mul_comm x, Nat.add_comm]
set_option maxHeartbeats 1600000 in
theorem fill_some (WB m len cap pb po : Nat) (T : TypeId) (tl : List Value) (f : Nat → Nat) (w : World) (hf : ∀ i, f i < 256) (hm : len ≤ 8 * m) (hm2 : m ≤ 8) (hne : pb ≠ WB) (hlt : pb < w.heap.size) (hlc : len ≤ cap)
  (hc : ∀ i, i < len → w.cell? ⟨pb, po + i, none⟩ = some (.int .u8 (f i))) (hb : Blk w WB T (wds 0 m ++ tl)) :
  Calls Tryz.prog 44 #[.slice (some ⟨WB, 0, none⟩) m m, .slice (some ⟨pb, po, none⟩) len cap] w fun e w' => e = .returned (.tuple #[]) ∧ w.grownBy w' (some WB) ∧ Blk w' WB T (wds (Sc.leN f len) m ++ tl) := by
 have HC := Lib.hid hc; clear hc
 have HF := Lib.hid hf; clear hf
 have HB := Lib.hid hb; clear hb
 go_enter Tryz.func44, Tryz.ntmps44
 go_wp2
 go_loopw [8] (fun i wr => ∃ k : Nat, k ≤ len ∧ i = .int .i64 k ∧ w.grownBy wr (some WB) ∧ Blk wr WB T (wds (Sc.leN f k) m ++ tl)) (fun i _ => len - (intOf i).toNat)
 case atStart => exact ⟨0, by omega, rfl, gb_refl _ _, HB.out⟩
 case round =>
  obtain ⟨k, hk, rfl, hg, hb⟩ := hrel
  by_cases hkl : k < len
  ·obtain ⟨d, hd⟩ : ∃ d, d = k / 8 := ⟨_, rfl⟩
   obtain ⟨r, hr⟩ : ∃ r, r = k % 8 := ⟨_, rfl⟩
   have hd2 : (k : Int) / 8 = (d : Int) := by omega
   have hr2 : (k : Int) % 8 = (r : Int) := by omega
   have dm : d < m := by omega
   have r8 : r < 8 := by omega
   have hs := Sc.fill_same f HF.out k
   rw [← hd, ← hr] at hs
   have hso := Sc.fill_other f HF.out k
   rw [← hd] at hso
   have hv := fill_bits (Sc.wrd (Sc.leN f k) d) (f k) r (HF.out k) r8 hs.2
   have hset := wds_set (Sc.leN f k) (Sc.leN f (k + 1)) m d dm tl _ hs.1 hso
   have HS := Lib.hid (And.intro hv hset); clear hv hset hs hso hd hr
   have c0 := hb.cell (wds_get (Sc.leN f k) m d dm tl)
   have f0 := hb.free d
   have c1 : wr.cell? ⟨pb, po + k, none⟩ = some (.int .u8 (f k)) := by rw [gb_cell hg (p := ⟨pb, po + k, none⟩) hlt (some_ne' hne)]; exact HC.out k hkl
   have fk := HF.out k
   have HB1 := Lib.hid hb; clear hb
   have HG := Lib.hid hg; clear hg
   unfold wV u64N at c0
   go_wp2
   go_region
   all_goals go_wp2
   go_roundw
   case rel =>
    refine ⟨k + 1, by omega, by go_num, gb_drew (gb_set HG.out _ _), ?_⟩
    have h := HB1.out.set d (u64N (Sc.wrd (Sc.leN f k) d + f k * 2 ^ (8 * r)))
    rw [HS.out.2] at h
    unfold u64N at h
    rw [← HS.out.1] at h
    exact h.drew
   case measure => simp [intOf]; omega
  ·obtain rfl : k = len := by omega
   have HB1 := Lib.hid hb; clear hb
   have HG := Lib.hid hg; clear hg
   go_wp2
   go_end0
   exact ⟨rfl, HG.out, HB1.out⟩
theorem fill_none (WB m cap : Nat) (a : Option Addr) (w : World) :
  Calls Tryz.prog 44 #[.slice (some ⟨WB, 0, none⟩) m m, .slice a 0 cap] w fun e w' => e = .returned (.tuple #[]) ∧ w' = w := by
 go_enter Tryz.func44, Tryz.ntmps44
 go_wp2
 go_loopw [8] (fun i wr => i = .int .i64 0 ∧ wr = w) (fun _ _ => 0)
 case atStart => exact ⟨rfl, rfl⟩
 case round =>
  obtain ⟨rfl, rfl⟩ := hrel
  go_wp2
  go_end0
  exact ⟨rfl, rfl⟩
def num (l : List Nat) : Nat := Sc.leN (fun i => l.getD i 0) l.length
theorem fill_any (WB m len cap B : Nat) (T : TypeId) (tl : List Value) (a : Option Addr) (l : List Nat) (w : World) (hl : l.length = len) (hm : len ≤ 8 * m) (hm2 : m ≤ 8) (hP : BytesAt w B a cap l) (hB : B ≤ WB) (hb : Blk w WB T (wds 0 m ++ tl)) :
  Calls Tryz.prog 44 #[.slice (some ⟨WB, 0, none⟩) m m, .slice a len cap] w fun e w' => e = .returned (.tuple #[]) ∧ w.grownBy w' (some WB) ∧ Blk w' WB T (wds (num l) m ++ tl) := by
 subst hl
 rcases hP.cells with h0 | ⟨pb, po, rfl, hlt, hc⟩
 ·have hz : num l = 0 := by unfold num; rw [h0]; rfl
  rw [h0, hz]
  refine (fill_none WB m cap a w).mono ?_
  rintro e w' ⟨rfl, rfl⟩
  exact ⟨rfl, gb_refl _ _, hb⟩
 ·exact fill_some WB m l.length cap pb po T tl _ w hP.byte hm hm2 (by omega) (Nat.lt_of_lt_of_le hlt hP.lim) hP.fits hc hb
theorem wds4 (n : Nat) : wds n 4 = [wV n 0, wV n 1, wV n 2, wV n 3] := rfl
theorem wds8 (n : Nat) : wds n 8 = [wV n 0, wV n 1, wV n 2, wV n 3, wV n 4, wV n 5, wV n 6, wV n 7] := rfl
theorem wV0 (j : Nat) : wV 0 j = .int .u64 0 := by unfold wV Sc.wrd u64N; simp
def narrowV (n : Nat) : Value := .agg #[wV n 0, wV n 1, wV n 2, wV n 3]
set_option maxHeartbeats 1600000 in
theorem narrowOf_any (len cap B : Nat) (a : Option Addr) (l : List Nat) (w : World) (hl : l.length = len) (hm : len ≤ 32) (hP : BytesAt w B a cap l) :
  Calls Tryz.prog 35 #[.slice a len cap] w fun e w' => e = .returned (narrowV (num l)) ∧ w.grownBy w' none := by
 have HP := Lib.hid hP; clear hP
 have hlen := Lib.hid hl; clear hl
 go_enter Tryz.func35, Tryz.ntmps35
 go_wp2_with fail
 have hb : Blk ((w.alloc (.cells #[.int .u64 0, .int .u64 0, .int .u64 0, .int .u64 0] 54)).alloc (.cells #[.int .u64 0, .int .u64 0, .int .u64 0, .int .u64 0] 54)) (w.heap.size + 1) 54 (wds 0 4 ++ []) := by
  rw [wds4, wV0, wV0, wV0, wV0]
  exact blk_at (w.alloc _) [.int .u64 0, .int .u64 0, .int .u64 0, .int .u64 0] _ (by simp)
 have hr : Blk ((w.alloc (.cells #[.int .u64 0, .int .u64 0, .int .u64 0, .int .u64 0] 54)).alloc (.cells #[.int .u64 0, .int .u64 0, .int .u64 0, .int .u64 0] 54)) w.heap.size 54 [.int .u64 0, .int .u64 0, .int .u64 0, .int .u64 0] := (Blk.new w [.int .u64 0, .int .u64 0, .int .u64 0, .int .u64 0] _).alloc _
 have hg := gb_alloc (gb_alloc (gb_refl w none) (.cells #[.int .u64 0, .int .u64 0, .int .u64 0, .int .u64 0] 54)) (.cells #[.int .u64 0, .int .u64 0, .int .u64 0, .int .u64 0] 54)
 revert hb hr hg
 generalize (w.alloc (.cells #[.int .u64 0, .int .u64 0, .int .u64 0, .int .u64 0] 54)).alloc (.cells #[.int .u64 0, .int .u64 0, .int .u64 0, .int .u64 0] 54) = w1
 intro hb hr hg
 refine (fill_any (w.heap.size + 1) 4 len cap B _ [] a l w1 hlen.out hm (by omega) (HP.out.stay hg) (by have := HP.out.lim; omega) hb).mono ?_
 rintro e w2 ⟨rfl, hg2, hb2⟩
 have hg3 := gb_then hg hg2 (by omega)
 have hr2 := hr.grown hg2 (some_ne' (by omega))
 have HG := Lib.hid hg3; clear hg3 hg2 hg hr hb
 rw [wds4] at hb2
 have c0 := hb2.cell (i := 0) rfl
 have c1 := hb2.cell (i := 1) rfl
 have c2 := hb2.cell (i := 2) rfl
 have c3 := hb2.cell (i := 3) rfl
 have r0 := hr2.cell (i := 0) rfl
 have r1 := hr2.cell (i := 1) rfl
 have r2 := hr2.cell (i := 2) rfl
 have r3 := hr2.cell (i := 3) rfl
 have f0 := hr2.free 0
 have f1 := hr2.free 1
 have f2 := hr2.free 2
 have f3 := hr2.free 3
 clear hr2 hb2
 unfold wV u64N at c0 c1 c2 c3
 go_wp2
 refine bodyPost_ret (v := narrowV (num l)) ?_ rfl ⟨rfl, ?_⟩
 ·simp [results, Tryz.results35, go_sem, r0, r1, r2, r3, narrowV, wV, u64N]
 ·exact gb_set_new (gb_set_new (gb_set_new (gb_set_new HG.out (Nat.le_refl _) _) (Nat.le_refl _) _) (Nat.le_refl _) _) (Nat.le_refl _) _
end
section
open Go.RowKit Ow Go.Shelf
attribute [local go_sem] Oper.semAt_some
abbrev PW := { x : Nat × Nat // x.2 < 18446744073709551616 }
def pwE (x : PW) : Array Value := #[.int .i64 (x.1.1 : Int), .int .u64 (x.1.2 : Int)]
def downTo (N k : Nat) : List PW := (List.range k).map fun p => ⟨(7 - p, Sc.wrd N (7 - p)), Sc.wrd_lt _ _⟩
theorem downTo_succ (N k : Nat) : downTo N (k + 1) = downTo N k ++ [⟨(7 - k, Sc.wrd N (7 - k)), Sc.wrd_lt _ _⟩] := by simp [downTo, List.range_succ]
theorem downTo_length (N k : Nat) : (downTo N k).length = k := by simp [downTo]
def KeepsR (R Bs : Nat) (W W' : World) : Prop := (∀ j, j < 8 → W'.cell? ⟨R, j, none⟩ = W.cell? ⟨R, j, none⟩) ∧ W'.cell? ⟨Bs, 0, none⟩ = W.cell? ⟨Bs, 0, none⟩
theorem keepsR_t {R Bs : Nat} {A B C : World} (h : KeepsR R Bs A B) (k : KeepsR R Bs B C) : KeepsR R Bs A C := ⟨fun j hj => (k.1 j hj).trans (h.1 j hj), k.2.trans h.2⟩
theorem keepsR_b {R Bs n : Nat} (hR : R < n) (hB : Bs < n) (W : World) (l : Nat) (o o' : Obj) (hl : n ≤ l) (h : W.heap[l]? = some o) : KeepsR R Bs W (W.putObj l o') := by
 have hlt : l < W.heap.size := (Array.getElem?_eq_some_iff.1 h).1
 exact ⟨fun j _ => gb_cell (grownBy_putObj' W l o') (p := ⟨R, j, none⟩) (show R < _ by omega) (some_ne' (by show R ≠ l; omega)), gb_cell (grownBy_putObj' W l o') (p := ⟨Bs, 0, none⟩) (show Bs < _ by omega) (some_ne' (by show Bs ≠ l; omega))⟩
set_option maxHeartbeats 1000000 in
theorem backward_in (F : Fence) (n : Nat) (hf : F.fn 45) (hro : F.round = none) (a : Option Addr) (len cap : Nat) (w : World) :
  CallsIn F n Tryz.prog 45 #[.slice a len cap] w fun e w' => e = .returned (.func (.func 71) #[] #[.pointer (some ⟨w.heap.size, 0, none⟩)]) ∧ w' = w.alloc (.cells #[.slice a len cap] 81) := by
 refine callsIn_of_wp Tryz.func45 rfl hf ?_ hro
 simp only [Tryz.ntmps45, List.size_toArray, List.length_cons, List.length_nil, Nat.reduceAdd, Nat.reduceSub, Array.replicate_succ, Array.replicate_zero, List.push_toArray, List.append_toArray, List.nil_append, List.cons_append]
 gi_wp2
 go_ret
 exact ⟨rfl, rfl⟩
set_option maxRecDepth 100000 in
set_option maxHeartbeats 2000000 in
theorem backward1_in (F : Fence) (n : Nat) (hf : F.fn 71) (hro : F.round = none) (hn : 1 ≤ n) (l Bs R N : Nat) (J Jx : List PW → World → Prop)
  (hY : ∀ pre x W, J pre W → pre.length < 8 → YieldAt F (n - 1) Tryz.prog l (pwE x) W fun e W' =>
   (e = .returned (.bool true) ∧ J (pre ++ [x]) W' ∧ KeepsR R Bs W W') ∨ (e = .returned (.bool false) ∧ Jx (pre ++ [x]) W'))
  (W : World) (hBs : W.cell? ⟨Bs, 0, none⟩ = some (.slice (some ⟨R, 0, none⟩) 8 8)) (hc : ∀ j, j < 8 → W.cell? ⟨R, j, none⟩ = some (.int .u64 (Sc.wrd N j : Int))) (h0 : J [] W) :
  CallsIn F n Tryz.prog 71 #[.func (.yield l) #[] #[], .pointer (some ⟨Bs, 0, none⟩)] W fun e W' => (∃ v, e = .returned v) ∧
   ((∃ ys, ys = downTo N 8 ∧ J ys W') ∨ (∃ pre, True ∧ Jx pre W')) := by
 refine callsIn_of_wp Tryz.func71 rfl hf ?_ hro
 simp only [Tryz.ntmps71, List.size_toArray, List.length_cons, List.length_nil, Nat.reduceAdd, Nat.reduceSub, Array.replicate_succ, Array.replicate_zero, List.push_toArray, List.append_toArray, List.nil_append, List.cons_append]
 gi_wp2
 gi_loopw [3] (fun i wr => ((∃ m : Nat, m < 8 ∧ i = .int .i64 m ∧ J (downTo N (7 - m)) wr) ∨ (i = .int .i64 (-1) ∧ J (downTo N 8) wr)) ∧ KeepsR R Bs W wr)
  (fun i _ => (intOf i + 1).toNat)
 case atStart => exact ⟨Or.inl ⟨7, by omega, rfl, h0⟩, ⟨fun _ _ => rfl, rfl⟩⟩
 case round =>
  obtain ⟨⟨m, hm, rfl, hJs⟩ | ⟨rfl, hJs⟩, hnx⟩ := hrel
  ·have hb1 : wr.cell? ⟨Bs, 0, none⟩ = some (.slice (some ⟨R, 0, none⟩) 8 8) := hnx.2.trans hBs
   have hcx : wr.cell? ⟨R, m, none⟩ = some (.int .u64 (Sc.wrd N m : Int)) := (hnx.1 m hm).trans (hc m hm)
   obtain ⟨fn, tmps, assign, body, hy, hR⟩ := hY _ ⟨(m, Sc.wrd N m), Sc.wrd_lt _ _⟩ wr hJs (by rw [downTo_length]; omega)
   unfold pwE at hy
   dsimp only at hy
   gi_wp2
   refine hR.mono ?_
   rintro e W3 (⟨rfl, hJ3, hk3⟩ | ⟨rfl, hJx3⟩)
   ·have hJ4 : J (downTo N (7 - m + 1)) W3 := by
     rw [downTo_succ]
     have e7 : 7 - (7 - m) = m := by omega
     simp only [e7]
     exact hJ3
    gi_wp2
    go_roundw
    case rel =>
     refine ⟨?_, keepsR_t hnx hk3⟩
     rcases Nat.eq_zero_or_pos m with h | h
     ·subst h; exact Or.inr ⟨rfl, hJ4⟩
     ·obtain ⟨d, rfl⟩ : ∃ d, m = d + 1 := ⟨m - 1, by omega⟩
      have e : 7 - (d + 1) + 1 = 7 - d := by omega
      rw [e] at hJ4
      exact Or.inl ⟨d, by omega, by go_num, hJ4⟩
    case measure => simp [intOf]
   ·gi_wp2
    refine bodyPost_ret (results_none rfl _ _ _) rfl ?_
    exact ⟨⟨_, rfl⟩, .inr ⟨_, trivial, hJx3⟩⟩
  ·gi_wp2
   go_end0
   exact ⟨⟨_, rfl⟩, .inl ⟨_, rfl, hJs⟩⟩
theorem backward_stops (F : Fence) (n : Nat) (hf : F.fn 71) (hro : F.round = none) (hn : 1 ≤ n) (Bs R N : Nat) (w : World) (hBs : Bs < w.heap.size) (hR : R < w.heap.size)
  (hb : w.cell? ⟨Bs, 0, none⟩ = some (.slice (some ⟨R, 0, none⟩) 8 8)) (hc : ∀ j, j < 8 → w.cell? ⟨R, j, none⟩ = some (.int .u64 (Sc.wrd N j : Int))) :
  SeqStopsK F n Tryz.prog 71 #[.pointer (some ⟨Bs, 0, none⟩)] pwE (KeepsR R Bs) (fun ys => ys = downTo N 8) (fun _ => True) 8 w := fun l J Jx W hW _ _ hY h0 =>
 backward1_in F n hf hro hn l Bs R N J Jx hY W ((hW.cell (p := ⟨Bs, 0, none⟩) hBs).trans hb) (fun j hj => (hW.cell (p := ⟨R, j, none⟩) hR).trans (hc j hj)) h0
def foldG (g : Nat → Nat → Nat) (pre : List PW) : Nat := pre.foldl (fun r x => g r x.1.2) 0
theorem foldG_snoc (g : Nat → Nat → Nat) (pre : List PW) (x : PW) : foldG g (pre ++ [x]) = g (foldG g pre) x.1.2 := by
 unfold foldG
 rw [List.foldl_append]
 rfl
abbrev fold (pre : List PW) : Nat := foldG Sc.restN pre
theorem fold_snoc (pre : List PW) (x : PW) : fold (pre ++ [x]) = Sc.restN (fold pre) x.1.2 := foldG_snoc Sc.restN pre x
theorem fold_down (N k : Nat) (hN : N / 2 ^ (64 * 8) = 0) (hk : k ≤ 8) : fold (downTo N k) = N / 2 ^ (64 * (8 - k)) % Sc.L := by
 induction k with
 | zero => rw [show 8 - 0 = 8 from rfl, hN, Nat.zero_mod]; rfl
 | succ k ih =>
  rw [downTo_succ, fold_snoc, ih (by omega)]
  have h := Sc.rest_step N (7 - k)
  rw [show 7 - k + 1 = 8 - k by omega] at h
  rw [show 8 - (k + 1) = 7 - k by omega]
  exact h
theorem blk_from {w w' : World} {B : Nat} {T : TypeId} {L : List Value} {row : Option Nat} {n : Nat} (h : Blk w B T L) (hg : w.grownBy w' row) (hr : ∀ r, row = some r → n ≤ r ∧ ∃ o : Obj, w.heap[r]? = some o ∧ o.isCells = false) : Blk w' B T L := by
 refine h.grown hg ?_
 intro e
 obtain ⟨_, o, ho, hc⟩ := hr B e.symm
 unfold Blk at h
 rw [h] at ho
 cases ho
 simp [Obj.isCells] at hc
theorem gb_from {a b c : World} {row row' : Option Nat} (h : a.grownBy b row) (k : b.grownBy c row') (hr : ∀ r, row' = some r → a.heap.size ≤ r) : a.grownBy c row := by
 cases row' with
 | none => exact gb_trans h (gb_row k _)
 | some r => exact gb_then h k (hr r rfl)
structure ModI (w : World) (R N : Nat) (T : TypeId) (pre : List PW) (W : World) : Prop where
 rest : Blk W R T (recL (wds N 8) (fold pre))
 tab : OTab W
 box : Blk W w.heap.size 82 [.pointer (some ⟨R, 0, none⟩)]
 res : Blk W (w.heap.size + 1) 54 [.int .u64 0, .int .u64 0, .int .u64 0, .int .u64 0]
 grown : w.grownBy W (some R)
 size : w.heap.size + 3 ≤ W.heap.size
theorem modI_own (w : World) (R N : Nat) (T : TypeId) (n : Nat) (hn : w.heap.size ≤ n) (ht : 4 < w.heap.size) : OwnFrom n (ModI w R N T) := fun s A B row h hg hr =>
 ⟨blk_from h.rest hg hr, h.tab.kept hg (fun r e => by have := (hr r e).1; omega), blk_from h.box hg hr, blk_from h.res hg hr, gb_from h.grown hg (fun r e => by have := (hr r e).1; omega), Nat.le_trans h.size hg.size⟩
theorem recL_put (X : List Value) (hX : X.length = 8) (a b c d : Value) : ((((X ++ [a, b, c, d]).set 8 (.int .u64 0)).set 9 (.int .u64 0)).set 10 (.int .u64 0)).set 11 (.int .u64 0) = recL X 0 := by
 unfold recL
 rw [wV0, wV0, wV0, wV0, List.set_append_right _ _ (by omega), List.set_append_right _ _ (by omega), List.set_append_right _ _ (by omega), List.set_append_right _ _ (by omega), hX]
 rfl
set_option maxRecDepth 100000 in
set_option maxHeartbeats 2000000 in
theorem modulo_any (R N : Nat) (T : TypeId) (a b c d : Value) (w : World) (hN : N / 2 ^ (64 * 8) = 0) (hT : OTab w) (hR : 4 < R) (hb : Blk w R T (wds N 8 ++ [a, b, c, d])) :
  Calls Tryz.prog 25 #[.pointer (some ⟨R, 0, none⟩)] w fun e w' => e = .returned (narrowV (N % Sc.L)) ∧ w.grownBy w' (some R) ∧ Blk w' R T (recL (wds N 8) (N % Sc.L)) := by
 have hRl := hb.lt
 have k0 := hb.cell (i := 8) rfl
 have k1 := hb.cell (i := 9) rfl
 have k2 := hb.cell (i := 10) rfl
 have k3 := hb.cell (i := 11) rfl
 have f0 := hb.free 8
 have f1 := hb.free 9
 have f2 := hb.free 10
 have f3 := hb.free 11
 have HB := Lib.hid hb; clear hb
 have HT := Lib.hid hT; clear hT
 have HN := Lib.hid hN; clear hN
 refine (callsIn_wide (n := 9)).1 ?_
 refine callsIn_of_wp_marks Tryz.func25 rfl trivial ?_ rfl
 simp only [Tryz.ntmps25, List.size_toArray, List.length_cons, List.length_nil, Nat.reduceAdd, Nat.reduceSub, Array.replicate_succ, Array.replicate_zero, List.push_toArray, List.append_toArray, List.nil_append, List.cons_append]
 gi_wp2_with fail
 refine ⟨trivial, ?_⟩
 have hb1 := ((((HB.out.set 8 (.int .u64 0)).set 9 (.int .u64 0)).set 10 (.int .u64 0)).set 11 (.int .u64 0))
 have hg1 := gb_set (gb_set (gb_set (gb_set (gb_refl w (some R)) 8 (.int .u64 0)) 9 (.int .u64 0)) 10 (.int .u64 0)) 11 (.int .u64 0)
 rw [recL_put (wds N 8) rfl a b c d] at hb1
 have hs1 : ((((w.setCell ⟨R, 8, none⟩ (.int .u64 0)).setCell ⟨R, 9, none⟩ (.int .u64 0)).setCell ⟨R, 10, none⟩ (.int .u64 0)).setCell ⟨R, 11, none⟩ (.int .u64 0)).heap.size = w.heap.size := by simp [World.setCell]
 clear k0 k1 k2 k3 f0 f1 f2 f3 HB
 revert hb1 hg1 hs1
 generalize (((w.setCell ⟨R, 8, none⟩ (.int .u64 0)).setCell ⟨R, 9, none⟩ (.int .u64 0)).setCell ⟨R, 10, none⟩ (.int .u64 0)).setCell ⟨R, 11, none⟩ (.int .u64 0) = w1
 intro hb1 hg1 hs1
 have hX := blk_at w1 (B := w.heap.size) [.pointer (some ⟨R, 0, none⟩)] 82 hs1
 have hY := blk_at (w1.alloc (.cells #[.pointer (some ⟨R, 0, none⟩)] 82)) (B := w.heap.size + 1) [.int .u64 0, .int .u64 0, .int .u64 0, .int .u64 0] 54 (by simp [hs1])
 have hX2 := hX.alloc (.cells #[.int .u64 0, .int .u64 0, .int .u64 0, .int .u64 0] 54)
 have hb2 := (hb1.alloc (.cells #[.pointer (some ⟨R, 0, none⟩)] 82)).alloc (.cells #[.int .u64 0, .int .u64 0, .int .u64 0, .int .u64 0] 54)
 have hg2 := gb_alloc (gb_alloc hg1 (.cells #[.pointer (some ⟨R, 0, none⟩)] 82)) (.cells #[.int .u64 0, .int .u64 0, .int .u64 0, .int .u64 0] 54)
 have hs2 : ((w1.alloc (.cells #[.pointer (some ⟨R, 0, none⟩)] 82)).alloc (.cells #[.int .u64 0, .int .u64 0, .int .u64 0, .int .u64 0] 54)).heap.size = w.heap.size + 2 := by simp [hs1]
 clear hX hb1 hg1 hs1
 revert hX2 hY hb2 hg2 hs2
 generalize (w1.alloc (.cells #[.pointer (some ⟨R, 0, none⟩)] 82)).alloc (.cells #[.int .u64 0, .int .u64 0, .int .u64 0, .int .u64 0] 54) = w2
 intro hY hX2 hb2 hg2 hs2
 refine (backward_in Fence.wide 8 trivial rfl _ _ _ _).mono ?_
 rintro e w3 ⟨rfl, hw3⟩
 have hI : ModI w R N T [] w3 := by
  subst hw3
  exact ⟨hb2.alloc _, HT.out.kept (gb_alloc hg2 _) (fun r e => by cases e; exact hR), hX2.alloc _, hY.alloc _, gb_alloc hg2 _, by simp [hs2]⟩
 have hBs : Blk w3 (w.heap.size + 2) 81 [.slice (some ⟨R, 0, none⟩) 8 8] := by
  subst hw3
  exact blk_at w2 [.slice (some ⟨R, 0, none⟩) 8 8] _ hs2
 have hs3 : w3.heap.size = w.heap.size + 3 := by subst hw3; simp [hs2]
 rw [hs2]
 clear hw3 hX2 hY hb2 hg2 hs2
 have HI := Lib.hid hI; clear hI
 gi_wp2_with fail
 have hRN : ∀ j, j < 8 → w3.cell? ⟨R, j, none⟩ = some (.int .u64 (Sc.wrd N j : Int)) := fun j hj => HI.out.rest.cell (wds_get N 8 j hj _)
 have hO : 4 < w.heap.size := by omega
 refine wpIn_rangeFunc_ownG (F := Fence.wide) (n := 9) rfl (by decide) (gf := 71) (lb := #[.pointer (some ⟨w.heap.size + 2, 0, none⟩)]) rfl trivial (enters_of Tryz.func71 (by kernel_rfl) rfl)
  (w0 := w3) (backward_stops Fence.wide 8 trivial rfl (by decide) (w.heap.size + 2) R N w3 (by omega) (by omega) (hBs.cell (i := 0) rfl) hRN)
  (fun h k => keepsR_t h k) (fun W l o o' hl h _ _ => keepsR_b (n := w3.heap.size) (by omega) (by omega) W l o o' hl h) (Below.refl _ _) (fun _ => rfl)
  (ModI w R N T) (fun _ _ _ => False) (modI_own w R N T _ (by omega) hO) (fun _ _ _ _ _ h _ _ => h) HI.out
  (fun x => { tmps := #[.pointer (some ⟨R, 0, none⟩), .pointer (some ⟨w.heap.size, 0, none⟩), .pointer (some ⟨w.heap.size + 1, 0, none⟩), undef, .int .u64 (x.1.2 : Int), .pointer (some ⟨R, 0, none⟩), .agg #[.int .u64 0, .int .u64 0, .int .u64 0, .int .u64 0], .pointer (some ⟨R, 0, none⟩), .pointer (some ⟨R, 8, none⟩), .pointer (some ⟨R, 0, none⟩), .pointer (some ⟨R, 0, none⟩), .pointer (some ⟨R, 0, none⟩), .slice (some ⟨R, 0, none⟩) 8 8, .func (.func 71) #[] #[.pointer (some ⟨w.heap.size + 2, 0, none⟩)], .int .i64 (x.1.1 : Int), .int .u64 (x.1.2 : Int), undef, undef, undef, undef, undef, undef, undef], defers := [] }) ?assign ?body ?done ?stop
 case assign =>
  intro l x W K hK
  unfold pwE
  gi_wp2
  exact hK
 case body =>
  rintro l pre x W hI _
  have hbox := hI.box.cell (i := 0) rfl
  have hgW := hI.grown
  have HJ := Lib.hid hI; clear hI
  gi_wp2_with (refine ⟨trivial, ?_⟩; gi_at_call 46; refine (CallsIn.inRound l (callsIn_wide.2 (bringDown_any R (fold pre) x.1.2 T (wds N 8) W rfl x.2 HJ.out.tab hR HJ.out.rest))).mono ?_; rintro e W' ⟨rfl, hg', hb'⟩)
  rw [← fold_snoc] at hb'
  refine ⟨KeepsFrom.of_grownBy hg' (fun j e => by cases e; omega), ⟨fun j hj => ?_, ?_⟩, ?_⟩
  ·rw [hb'.cell (wds_get N 8 j hj _), HJ.out.rest.cell (wds_get N 8 j hj _)]
  ·exact gb_cell hg' (p := ⟨w.heap.size + 2, 0, none⟩) (show w.heap.size + 2 < W.heap.size by have := HJ.out.size; omega) (some_ne' (by show w.heap.size + 2 ≠ R; omega))
  ·exact ⟨hb', HJ.out.tab.kept hg' (fun r e => by cases e; exact hR), HJ.out.box.grown hg' (some_ne' (by omega)), HJ.out.res.grown hg' (some_ne' (by omega)), gb_trans HJ.out.grown hg', Nat.le_trans HJ.out.size hg'.size⟩
 case done =>
  rintro D ys W hD rfl hI hK
  have hf := fold_down N 8 HN.out (Nat.le_refl _)
  rw [show 64 * (8 - 8) = 0 from rfl, Nat.pow_zero, Nat.div_one] at hf
  have hrest := hI.rest
  rw [hf] at hrest
  have hres := hI.res
  have hbox := hI.box.cell (i := 0) rfl
  obtain ⟨q0, q1, q2, q3⟩ := recL_get (wds N 8) rfl (N % Sc.L)
  have k0 := hrest.cell q0
  have k1 := hrest.cell q1
  have k2 := hrest.cell q2
  have k3 := hrest.cell q3
  have r0 := hres.cell (i := 0) rfl
  have r1 := hres.cell (i := 1) rfl
  have r2 := hres.cell (i := 2) rfl
  have r3 := hres.cell (i := 3) rfl
  have f0 := hres.free 0
  have f1 := hres.free 1
  have f2 := hres.free 2
  have f3 := hres.free 3
  unfold wV u64N at k0 k1 k2 k3
  have HRe := Lib.hid hrest; clear hrest hres q0 q1 q2 q3 hf
  have HJ := Lib.hid hI; clear hI
  gi_wp2
  have hR4 := (((((HJ.out.res.set 0 (.int .u64 (Sc.wrd (N % Sc.L) 0 : Int))).set 1 (.int .u64 (Sc.wrd (N % Sc.L) 1 : Int))).set 2 (.int .u64 (Sc.wrd (N % Sc.L) 2 : Int))).set 3 (.int .u64 (Sc.wrd (N % Sc.L) 3 : Int))))
  have hB4 := (((HRe.out.other (a := ⟨w.heap.size + 1, 0, none⟩) (by show w.heap.size + 1 ≠ R; omega) (.int .u64 (Sc.wrd (N % Sc.L) 0 : Int))).other (a := ⟨w.heap.size + 1, 1, none⟩) (by show w.heap.size + 1 ≠ R; omega) (.int .u64 (Sc.wrd (N % Sc.L) 1 : Int))).other (a := ⟨w.heap.size + 1, 2, none⟩) (by show w.heap.size + 1 ≠ R; omega) (.int .u64 (Sc.wrd (N % Sc.L) 2 : Int))).other (a := ⟨w.heap.size + 1, 3, none⟩) (by show w.heap.size + 1 ≠ R; omega) (.int .u64 (Sc.wrd (N % Sc.L) 3 : Int))
  have hg4 := gb_set_new (gb_set_new (gb_set_new (gb_set_new HJ.out.grown (p := ⟨w.heap.size + 1, 0, none⟩) (Nat.le_succ _) (.int .u64 (Sc.wrd (N % Sc.L) 0 : Int))) (p := ⟨w.heap.size + 1, 1, none⟩) (Nat.le_succ _) (.int .u64 (Sc.wrd (N % Sc.L) 1 : Int))) (p := ⟨w.heap.size + 1, 2, none⟩) (Nat.le_succ _) (.int .u64 (Sc.wrd (N % Sc.L) 2 : Int))) (p := ⟨w.heap.size + 1, 3, none⟩) (Nat.le_succ _) (.int .u64 (Sc.wrd (N % Sc.L) 3 : Int))
  have hK4 := (((KeepsOthers.setCell W ⟨w.heap.size + 1, 0, none⟩ (.int .u64 (Sc.wrd (N % Sc.L) 0 : Int))).trans (KeepsOthers.setCell _ ⟨w.heap.size + 1, 1, none⟩ (.int .u64 (Sc.wrd (N % Sc.L) 1 : Int)))).trans (KeepsOthers.setCell _ ⟨w.heap.size + 1, 2, none⟩ (.int .u64 (Sc.wrd (N % Sc.L) 2 : Int)))).trans (KeepsOthers.setCell _ ⟨w.heap.size + 1, 3, none⟩ (.int .u64 (Sc.wrd (N % Sc.L) 3 : Int)))
  have hK5 := hK4.same D _ hK rfl
  clear hK4 r0 r1 r2 r3 f0 f1 f2 f3 k0 k1 k2 k3 hbox hK HRe HI
  have hs4 : w3.heap.size ≤ D := hD
  revert hR4 hB4 hg4 hK5
  generalize (((W.setCell ⟨w.heap.size + 1, 0, none⟩ (.int .u64 (Sc.wrd (N % Sc.L) 0 : Int))).setCell ⟨w.heap.size + 1, 1, none⟩ (.int .u64 (Sc.wrd (N % Sc.L) 1 : Int))).setCell ⟨w.heap.size + 1, 2, none⟩ (.int .u64 (Sc.wrd (N % Sc.L) 2 : Int))).setCell ⟨w.heap.size + 1, 3, none⟩ (.int .u64 (Sc.wrd (N % Sc.L) 3 : Int)) = W4
  intro hR4 hB4 hg4 hK5
  have hp := grownBy_putObj' W4 D (.deferred none)
  have hR5 := hR4.grown hp (some_ne' (by omega))
  have hB5 := hB4.grown hp (some_ne' (by omega))
  have hg5 := gb_then hg4 hp (by omega)
  have r0 := hR5.cell (i := 0) rfl
  have r1 := hR5.cell (i := 1) rfl
  have r2 := hR5.cell (i := 2) rfl
  have r3 := hR5.cell (i := 3) rfl
  refine ⟨by simp, .inl ⟨_, _, rfl, run_takeDeferred hK5, ?_⟩⟩
  refine ⟨narrowV (N % Sc.L), ?_, rfl, hg5, hB5⟩
  simp [results, Tryz.results25, go_sem, r0, r1, r2, r3, narrowV, wV, u64N]
 case stop =>
  rintro D c pre W _ _ h _
  exact h.elim
end
end Go.Proofs.YtjfclcoppedmoaaGreatDoor
