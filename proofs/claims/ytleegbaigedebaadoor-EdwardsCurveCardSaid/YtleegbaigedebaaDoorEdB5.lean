/- texts merged, part 5: XEdOn XEdItOn XEdAwake4 XScSpec XScWord XScOff XScDown XScFill XScModulo XEdPile XEdChoices XEdGroups XEdGather XScBytes XScMulM XScMul XScOut XScBits XScBitNum XEdMulM XScBitsAll XEdMul -/
import Derived.Test.YtleegbaigedebaaDoorEdB4
import Derived.Test.YtleegbaigedebaaDoorEdB1
import Derived.Test.YtleegbaigedebaaDoorEdB3
import Derived.Lib.Hide
import Derived.WalkKit
import Derived.WalkSpells
import Derived.WalkLawsBesides
import Derived.Outline
import Derived.BigQuiet
import Derived.Deep.QuietTactic
import Derived.BigRegion
import Derived.RegionTactic
import Derived.Deep.RegionWith
import Derived.RangeFuncNested
import Derived.RangeFuncBound
import Derived.RangeFuncCalls
import Derived.RangeFuncLeaves
import Derived.RangeFuncBox
import Derived.Shelf.Abstract
import Derived.Shelf.RegionOpen
import Derived.OwnWalkIn
import Derived.TacticsInMore
import Derived.LoopNIn
import Derived.LoopIn
import Derived.Laws.AppendOwn
import Derived.Laws.MakeOwn
import Derived.Sort.CutIn
import Derived.Laws.CopyOwn
import Derived.IntWalk
/- edwards: On. -/
namespace Go.Proofs.YtleegbaigedebaaDoor
open Go.RowKit Ed
def o0 (p : Pt) : Bool := decide (Fe.m p.Z = 0)
def o1 (p : Pt) : Bool := decide (Fe.m (Fe.subF (Fe.sqF p.Y) (Fe.sqF p.X)) = Fe.m (Fe.addF (Fe.sqF p.Z) (Fe.mulF dF (Fe.sqF p.T))))
def o2 (p : Pt) : Bool := decide (Fe.m (Fe.mulF p.T p.Z) = Fe.m (Fe.mulF p.X p.Y))
structure Ed.Pt.Right (p : Pt) : Prop where
 X : p.X.Right
 Y : p.Y.Right
 Z : p.Z.Right
 T : p.T.Right
theorem Ed.Pt.Right.ok {p : Pt} (h : p.Right) : p.Ok := ⟨h.X.ok, h.Y.ok, h.Z.ok, h.T.ok⟩
theorem limbs4 (p : Pt) (w : World) (h : p.Right) (N : Nat) (hb : Blk w N 26 (elsL [p.X, p.Y, p.Z, p.T])) : Tells 38 #[.slice (some ⟨N, 0, none⟩) 4 4] w (.bool true) :=
 rightLimbs_any N 4 [p.X, p.Y, p.Z, p.T] w rfl (by decide) (by
  intro a ha
  simp only [List.mem_cons, List.not_mem_nil, or_false] at ha
  rcases ha with rfl | rfl | rfl | rfl
  ·exact h.X
  ·exact h.Y
  ·exact h.Z
  ·exact h.T) hb
set_option maxRecDepth 100000 in
set_option maxHeartbeats 3200000 in
theorem on_tt (p : Pt) (w0 : World) (HT0 : ETab w0) (rp : p.Right) (h0 : o0 p = false) (h1 : o1 p = true) (h2 : o2 p = true) :
  Calls Tryd.prog 13 #[p.v] w0 fun e w' => e = .returned (.bool true) ∧ w0.grownBy w' none := by
 have okp := rp.ok
 show Calls Tryd.prog 13 #[.agg (ptL p).toArray] w0 _
 go_enter Tryd.func13, Tryd.ntmps13
 go_upto_region 1 with (fail)
 have G : w0.grownBy (w0.alloc (.cells (ptL p).toArray 28)) none := gb_alloc (gb_refl _ _) _
 have HT : ETab (w0.alloc (.cells (ptL p).toArray 28)) := HT0.grown (gb_alloc (gb_refl _ _) _)
 have hP : Blk (w0.alloc (.cells (ptL p).toArray 28)) (w0.heap.size) 28 (ptL p) := Blk.new w0 (ptL p) _
 revert G HT hP
 generalize w0.alloc (.cells (ptL p).toArray 28) = W0
 intro G HT hP
 have Gs := G.size
 have Gs0 := G.size
 have l1hP := hP.lt
 refine Fg.rP [] [.any, .any, .any, .any, .any, .val (Value.pointer (some ⟨w0.heap.size, 0, none⟩)), .val (p.X.v), .val (Value.pointer (some ⟨w0.heap.size, 5, none⟩)), .val (p.Y.v), .val (Value.pointer (some ⟨w0.heap.size, 10, none⟩)), .val (p.Z.v), .val (Value.pointer (some ⟨w0.heap.size, 15, none⟩)), .val (p.T.v), .row 26 (elsL [p.X, p.Y, p.Z, p.T]) 4 W0.heap.size, .val (Value.bool true), .val (Value.bool false), .val (Value.bool false), .val (Value.pointer (some ⟨w0.heap.size, 10, none⟩)), .val (p.Z.v), .val (Value.bool false), .val (Value.bool false)] 16 ?_ ?_
 ·refine Fg.vS rfl (by decide) (fun ac w h => ?_) ?_
  ·have e1 : _ = Value.pointer (some ⟨w0.heap.size, 0, none⟩) := h.r 1
   exact Fg.vn (Value.pointer (some ⟨w0.heap.size, 0, none⟩)) (Fg.run_fieldAddr rfl e1 (fa_point0 _ _ _))
  refine Fg.vS rfl (by decide) (fun ac w h => ?_) ?_
  ·have e5 : _ = Value.pointer (some ⟨w0.heap.size, 0, none⟩) := h.d 5
   exact Fg.vn p.X.v (Fg.run_load rfl e5 ((hP.gn h.base).range 0 (feL p.X) rfl) Tryd.underlying26 rfl info_elem)
  refine Fg.vS rfl (by decide) (fun ac w h => ?_) ?_
  ·have e1 : _ = Value.pointer (some ⟨w0.heap.size, 0, none⟩) := h.r 1
   exact Fg.vn (Value.pointer (some ⟨w0.heap.size, 5, none⟩)) (Fg.run_fieldAddr rfl e1 (fa_point1 _ _ _))
  refine Fg.vS rfl (by decide) (fun ac w h => ?_) ?_
  ·have e7 : _ = Value.pointer (some ⟨w0.heap.size, 5, none⟩) := h.d 7
   exact Fg.vn p.Y.v (Fg.run_load rfl e7 ((hP.gn h.base).range 5 (feL p.Y) rfl) Tryd.underlying26 rfl info_elem)
  refine Fg.vS rfl (by decide) (fun ac w h => ?_) ?_
  ·have e1 : _ = Value.pointer (some ⟨w0.heap.size, 0, none⟩) := h.r 1
   exact Fg.vn (Value.pointer (some ⟨w0.heap.size, 10, none⟩)) (Fg.run_fieldAddr rfl e1 (fa_point2 _ _ _))
  refine Fg.vS rfl (by decide) (fun ac w h => ?_) ?_
  ·have e9 : _ = Value.pointer (some ⟨w0.heap.size, 10, none⟩) := h.d 9
   exact Fg.vn p.Z.v (Fg.run_load rfl e9 ((hP.gn h.base).range 10 (feL p.Z) rfl) Tryd.underlying26 rfl info_elem)
  refine Fg.vS rfl (by decide) (fun ac w h => ?_) ?_
  ·have e1 : _ = Value.pointer (some ⟨w0.heap.size, 0, none⟩) := h.r 1
   exact Fg.vn (Value.pointer (some ⟨w0.heap.size, 15, none⟩)) (Fg.run_fieldAddr rfl e1 (fa_point3 _ _ _))
  refine Fg.vS rfl (by decide) (fun ac w h => ?_) ?_
  ·have e11 : _ = Value.pointer (some ⟨w0.heap.size, 15, none⟩) := h.d 11
   exact Fg.vn p.T.v (Fg.run_load rfl e11 ((hP.gn h.base).range 15 (feL p.T) rfl) Tryd.underlying26 rfl info_elem)
  refine Fg.vS rfl (by decide) (fun ac w h => ?_) ?_
  ·have e6 : _ = p.X.v := h.d 6
   have e8 : _ = p.Y.v := h.d 8
   have e10 : _ = p.Z.v := h.d 10
   have e12 : _ = p.T.v := h.d 12
   exact ⟨wants_none rfl, .slice (some ⟨w.heap.size, 0, none⟩) 4 4, w.alloc (.cells (elsL [p.X, p.Y, p.Z, p.T]).toArray 26), Fg.run_buildSlice (vs := #[(0, p.X.v), (1, p.Y.v), (2, p.Z.v), (3, p.T.v)]) rfl (by simp only [List.map_toArray, List.map_cons, List.map_nil, Act.eval, e6, e8, e10, e12]) (by kernel_rfl), World.grownBy_alloc _ _ _, ⟨w.heap.size, rfl, h.base.size, Blk.new w (elsL [p.X, p.Y, p.Z, p.T]) _⟩⟩
  refine Fg.cS rfl (by decide) (fun ac w h => ?_) ?_
  ·obtain ⟨B13, e13, hn13, b13⟩ : ∃ N, ac.tmps.getD 13 undef = .slice (some ⟨N, 0, none⟩) 4 4 ∧ W0.heap.size ≤ N ∧ Blk w N 26 (elsL [p.X, p.Y, p.Z, p.T]) := h.dep 13 (by kernel_rfl)
   refine ⟨wants_none rfl, 38, #[Value.slice (some ⟨B13, 0, none⟩) 4 4], Fg.run_call rfl rfl (by simp only [List.map_toArray, List.map_cons, List.map_nil, Act.eval, e13]) (Fg.run_enter Tryd.func38 (by kernel_rfl) (by kernel_rfl)), ?_⟩
   exact (limbs4 p _ rp _ b13).mono fun _ _ ⟨he, hg⟩ => ⟨_, he, hg, rfl⟩
  refine Fg.vS rfl (by decide) (fun ac w h => ?_) ?_
  ·have e14 : _ = Value.bool true := h.d 14
   refine ⟨wants_none rfl, Value.bool false, w, ?_, gb_refl _ _, rfl⟩
   clear h
   simp only [execOp, Act.eval, e14]
   go_simp
  refine Fg.vS rfl (by decide) (fun ac w h => ?_) ?_
  ·have e15 : _ = Value.bool false := h.d 15
   exact Fg.vn (Value.bool false) (Fg.run_move rfl e15)
  refine Fg.vS rfl (by decide) (fun ac w h => ?_) ?_
  ·have e16 : _ = Value.bool false := h.d 16
   have e1 : _ = Value.pointer (some ⟨w0.heap.size, 0, none⟩) := h.r 1
   exact Fg.vx (Value.pointer (some ⟨w0.heap.size, 10, none⟩)) (wants_some (d := 16) rfl rfl (by rw [h.size]; show 16 < 53; decide) e16) (Fg.run_fieldAddr rfl e1 (fa_point2 _ _ _))
  refine Fg.vS rfl (by decide) (fun ac w h => ?_) ?_
  ·have e16 : _ = Value.bool false := h.d 16
   have e17 : _ = Value.pointer (some ⟨w0.heap.size, 10, none⟩) := h.d 17
   exact Fg.vx p.Z.v (wants_some (d := 16) rfl rfl (by rw [h.size]; show 16 < 53; decide) e16) (Fg.run_load rfl e17 ((hP.gn h.base).range 10 (feL p.Z) rfl) Tryd.underlying26 rfl info_elem)
  refine Fg.cS rfl (by decide) (fun ac w h => ?_) ?_
  ·have e16 : _ = Value.bool false := h.d 16
   have e18 : _ = p.Z.v := h.d 18
   refine ⟨wants_some (d := 16) rfl rfl (by rw [h.size]; show 16 < 53; decide) e16, 32, #[p.Z.v], Fg.run_call rfl rfl (by simp only [List.map_toArray, List.map_cons, List.map_nil, Act.eval, e18]) (Fg.run_enter Tryd.func32 (by kernel_rfl) (by kernel_rfl)), ?_⟩
   exact (t_zero okp.Z h0).mono fun _ _ ⟨he, hg⟩ => ⟨_, he, hg, rfl⟩
  refine Fg.vS rfl (by decide) (fun ac w h => ?_) ?_
  ·have e16 : _ = Value.bool false := h.d 16
   have e19 : _ = Value.bool false := h.d 19
   refine ⟨wants_none rfl, Value.bool false, w, ?_, gb_refl _ _, rfl⟩
   clear h
   simp only [execOp, Act.eval, e16, e19]
   go_simp
  trivial
 ·intro qa V1 g1 hsz hdf hrest hslots hpt
  obtain ⟨u5, hs5⟩ := Fg.slotv qa 5
  obtain ⟨u6, hs6⟩ := Fg.slotv qa 6
  obtain ⟨u7, hs7⟩ := Fg.slotv qa 7
  obtain ⟨u8, hs8⟩ := Fg.slotv qa 8
  obtain ⟨u9, hs9⟩ := Fg.slotv qa 9
  obtain ⟨u10, hs10⟩ := Fg.slotv qa 10
  obtain ⟨u11, hs11⟩ := Fg.slotv qa 11
  obtain ⟨u12, hs12⟩ := Fg.slotv qa 12
  obtain ⟨u13, hs13⟩ := Fg.slotv qa 13
  obtain ⟨u14, hs14⟩ := Fg.slotv qa 14
  obtain ⟨u15, hs15⟩ := Fg.slotv qa 15
  obtain ⟨u16, hs16⟩ := Fg.slotv qa 16
  obtain ⟨u17, hs17⟩ := Fg.slotv qa 17
  obtain ⟨u18, hs18⟩ := Fg.slotv qa 18
  obtain ⟨u19, hs19⟩ := Fg.slotv qa 19
  obtain rfl := Fg.frame_by [5, 6, 7, 8, 9, 10, 11, 12, 13, 14, 15, 16, 17, 18, 19, 20] (vs := [p.v, Value.pointer (some ⟨w0.heap.size, 0, none⟩), Value.bool false, undef, undef, u5, u6, u7, u8, u9, u10, u11, u12, u13, u14, u15, u16, u17, u18, u19, Value.bool false, undef, undef, undef, undef, undef, undef, undef, undef, undef, undef, undef, undef, undef, undef, undef, undef, undef, undef, undef, undef, undef, undef, undef, undef, undef, undef, undef, undef, undef, undef, undef, undef]) hsz hrest (by kernel_rfl) rfl rfl ⟨hs5, hs6, hs7, hs8, hs9, hs10, hs11, hs12, hs13, hs14, hs15, hs16, hs17, hs18, hs19, (show qa.tmps.getD 20 undef = Value.bool false from hslots 20 (by kernel_rfl)), trivial⟩ hdf
  clear hsz hdf hrest hslots hpt hs5 hs6 hs7 hs8 hs9 hs10 hs11 hs12 hs13 hs14 hs15 hs16 hs17 hs18 hs19
  replace hP := hP.gn g1
  replace G := gb_trans G g1
  replace HT := HT.grown g1
  clear g1
  go_upto_region 3 with (fail)
  have Gs1 := G.size
  have l2hP := hP.lt
  refine Fg.rT [3] [.any, .any, .any, .fresh 26 zr5 V1.heap.size, .any, .any, .any, .any, .any, .any, .any, .any, .any, .any, .any, .any, .any, .any, .any, .any, .any, .val (Value.pointer (some ⟨w0.heap.size, 5, none⟩)), .val (p.Y.v), .val ((Fe.sqF p.Y).v), .val (Value.pointer (some ⟨w0.heap.size, 0, none⟩)), .val (p.X.v), .val ((Fe.sqF p.X).v), .val ((Fe.subF (Fe.sqF p.Y) (Fe.sqF p.X)).v)] 8 ?_ ?_
  ·refine Fg.vS rfl (by decide) (fun ac w h => ?_) ?_
   ·have e1 : _ = Value.pointer (some ⟨w0.heap.size, 0, none⟩) := h.r 1
    exact Fg.vn (Value.pointer (some ⟨w0.heap.size, 5, none⟩)) (Fg.run_fieldAddr rfl e1 (fa_point1 _ _ _))
   refine Fg.vS rfl (by decide) (fun ac w h => ?_) ?_
   ·have e21 : _ = Value.pointer (some ⟨w0.heap.size, 5, none⟩) := h.d 21
    exact Fg.vn p.Y.v (Fg.run_load rfl e21 ((hP.gn h.base).range 5 (feL p.Y) rfl) Tryd.underlying26 rfl info_elem)
   refine Fg.cS rfl (by decide) (fun ac w h => ?_) ?_
   ·have e22 : _ = p.Y.v := h.d 22
    refine ⟨wants_none rfl, 28, #[p.Y.v], Fg.run_call rfl rfl (by simp only [List.map_toArray, List.map_cons, List.map_nil, Act.eval, e22]) (Fg.run_enter Tryd.func28 (by kernel_rfl) (by kernel_rfl)), ?_⟩
    exact (t_sq okp.Y).mono fun _ _ ⟨he, hg⟩ => ⟨_, he, hg, rfl⟩
   refine Fg.vS rfl (by decide) (fun ac w h => ?_) ?_
   ·have e1 : _ = Value.pointer (some ⟨w0.heap.size, 0, none⟩) := h.r 1
    exact Fg.vn (Value.pointer (some ⟨w0.heap.size, 0, none⟩)) (Fg.run_fieldAddr rfl e1 (fa_point0 _ _ _))
   refine Fg.vS rfl (by decide) (fun ac w h => ?_) ?_
   ·have e24 : _ = Value.pointer (some ⟨w0.heap.size, 0, none⟩) := h.d 24
    exact Fg.vn p.X.v (Fg.run_load rfl e24 ((hP.gn h.base).range 0 (feL p.X) rfl) Tryd.underlying26 rfl info_elem)
   refine Fg.cS rfl (by decide) (fun ac w h => ?_) ?_
   ·have e25 : _ = p.X.v := h.d 25
    refine ⟨wants_none rfl, 28, #[p.X.v], Fg.run_call rfl rfl (by simp only [List.map_toArray, List.map_cons, List.map_nil, Act.eval, e25]) (Fg.run_enter Tryd.func28 (by kernel_rfl) (by kernel_rfl)), ?_⟩
    exact (t_sq okp.X).mono fun _ _ ⟨he, hg⟩ => ⟨_, he, hg, rfl⟩
   refine Fg.cS rfl (by decide) (fun ac w h => ?_) ?_
   ·have e23 : _ = (Fe.sqF p.Y).v := h.d 23
    have e26 : _ = (Fe.sqF p.X).v := h.d 26
    refine ⟨wants_none rfl, 29, #[(Fe.sqF p.Y).v, (Fe.sqF p.X).v], Fg.run_call rfl rfl (by simp only [List.map_toArray, List.map_cons, List.map_nil, Act.eval, e23, e26]) (Fg.run_enter Tryd.func29 (by kernel_rfl) (by kernel_rfl)), ?_⟩
    exact (t_sub (HT.f.grown h.base) (Fe.sq_right _).ok (Fe.sq_right _).ok).mono fun _ _ ⟨he, hg⟩ => ⟨_, he, hg, rfl⟩
   refine ⟨⟨⟨_, rfl⟩, Fg.allocP (fun _ _ h k => gb_trans h k) rfl (by show 3 < 53; decide) fun ac w h => ?_⟩, ?_⟩
   ·refine ⟨wants_none rfl, w.alloc (.cells zr5.toArray 26), ?_, World.grownBy_alloc _ _ _, by simp, ⟨w.heap.size, rfl, h.base.size, Blk.new w zr5 _⟩⟩
    clear h
    go_simp
   trivial
  ·intro qa V2 g2 hsz hdf hrest hslots hpt
   obtain ⟨N3, hs3, hn3, hb3⟩ : ∃ N, qa.tmps.getD 3 undef = .pointer (some ⟨N, 0, none⟩) ∧ V1.heap.size ≤ N ∧ Blk V2 N 26 zr5 := hslots 3 (by kernel_rfl)
   obtain ⟨u21, hs21⟩ := Fg.slotv qa 21
   obtain ⟨u22, hs22⟩ := Fg.slotv qa 22
   obtain ⟨u23, hs23⟩ := Fg.slotv qa 23
   obtain ⟨u24, hs24⟩ := Fg.slotv qa 24
   obtain ⟨u25, hs25⟩ := Fg.slotv qa 25
   obtain ⟨u26, hs26⟩ := Fg.slotv qa 26
   obtain ⟨x1, hx1⟩ : ∃ x : Fe, x = Fe.subF (Fe.sqF p.Y) (Fe.sqF p.X) := ⟨_, rfl⟩
   obtain rfl := Fg.frame_by [3, 21, 22, 23, 24, 25, 26, 27] (vs := [p.v, Value.pointer (some ⟨w0.heap.size, 0, none⟩), Value.bool false, Value.pointer (some ⟨N3, 0, none⟩), undef, u5, u6, u7, u8, u9, u10, u11, u12, u13, u14, u15, u16, u17, u18, u19, Value.bool false, u21, u22, u23, u24, u25, u26, x1.v, undef, undef, undef, undef, undef, undef, undef, undef, undef, undef, undef, undef, undef, undef, undef, undef, undef, undef, undef, undef, undef, undef, undef, undef, undef]) hsz hrest (by kernel_rfl) rfl rfl ⟨hs3, hs21, hs22, hs23, hs24, hs25, hs26, (show qa.tmps.getD 27 undef = x1.v by rw [hx1]; exact hslots 27 (by kernel_rfl)), trivial⟩ hdf
   clear hsz hdf hrest hslots hpt hs3 hs21 hs22 hs23 hs24 hs25 hs26
   have Hx1 := Lib.hid hx1; clear hx1
   replace hP := hP.gn g2
   replace G := gb_trans G g2
   replace HT := HT.grown g2
   have okx1 : x1.Ok := by rw [Hx1.out]; exact (Fe.sub_right _ _).ok
   have hw3 : w0.heap.size ≤ N3 := Nat.le_trans Gs1 hn3
   clear g2
   refine Fg.wpl_skip rfl rfl (Fg.run_store (cs := feL x1) rfl rfl rfl (hb3.there 0 5 (by show 0 + 5 ≤ 5; decide)) info_elem (feL_one _)) ?_
   replace hP := hP.setCells_other (C := N3) (cs := feL x1) 0 (by omega)
   replace hb3 : Blk (V2.setCells N3 0 (feL x1)) N3 26 (feL x1) := hb3.setAll rfl
   replace G := gb_setCells_new (cs := feL x1) G (B := N3) (hw3) 0
   replace HT := HT.keep (gb_setCells (cs := feL x1) (gb_refl _ (some N3)) 0) (HT0.noG (hw3))
   revert hP hb3 G HT
   generalize V2.setCells N3 0 (feL x1) = W3
   intro hP hb3 G HT
   go_upto_region 4 with (fail)
   have Gs3 := G.size
   have l3hP := hP.lt
   have l3hb3 := hb3.lt
   refine Fg.rT [4] [.any, .any, .any, .any, .fresh 26 zr5 W3.heap.size, .any, .any, .any, .any, .any, .any, .any, .any, .any, .any, .any, .any, .any, .any, .any, .any, .any, .any, .any, .any, .any, .any, .any, .val (Value.pointer (some ⟨w0.heap.size, 10, none⟩)), .val (p.Z.v), .val ((Fe.sqF p.Z).v), .val (dF.v), .val (Value.pointer (some ⟨w0.heap.size, 15, none⟩)), .val (p.T.v), .val ((Fe.sqF p.T).v), .val ((Fe.mulF dF (Fe.sqF p.T)).v), .val ((Fe.addF (Fe.sqF p.Z) (Fe.mulF dF (Fe.sqF p.T))).v)] 10 ?_ ?_
   ·refine Fg.vS rfl (by decide) (fun ac w h => ?_) ?_
    ·have e1 : _ = Value.pointer (some ⟨w0.heap.size, 0, none⟩) := h.r 1
     exact Fg.vn (Value.pointer (some ⟨w0.heap.size, 10, none⟩)) (Fg.run_fieldAddr rfl e1 (fa_point2 _ _ _))
    refine Fg.vS rfl (by decide) (fun ac w h => ?_) ?_
    ·have e28 : _ = Value.pointer (some ⟨w0.heap.size, 10, none⟩) := h.d 28
     exact Fg.vn p.Z.v (Fg.run_load rfl e28 ((hP.gn h.base).range 10 (feL p.Z) rfl) Tryd.underlying26 rfl info_elem)
    refine Fg.cS rfl (by decide) (fun ac w h => ?_) ?_
    ·have e29 : _ = p.Z.v := h.d 29
     refine ⟨wants_none rfl, 28, #[p.Z.v], Fg.run_call rfl rfl (by simp only [List.map_toArray, List.map_cons, List.map_nil, Act.eval, e29]) (Fg.run_enter Tryd.func28 (by kernel_rfl) (by kernel_rfl)), ?_⟩
     exact (t_sq okp.Z).mono fun _ _ ⟨he, hg⟩ => ⟨_, he, hg, rfl⟩
    refine Fg.vS rfl (by decide) (fun ac w h => ?_) ?_
    ·exact Fg.vn dF.v (Fg.run_load rfl rfl (HT.grown h.base).d Tryd.underlying26 rfl info_elem)
    refine Fg.vS rfl (by decide) (fun ac w h => ?_) ?_
    ·have e1 : _ = Value.pointer (some ⟨w0.heap.size, 0, none⟩) := h.r 1
     exact Fg.vn (Value.pointer (some ⟨w0.heap.size, 15, none⟩)) (Fg.run_fieldAddr rfl e1 (fa_point3 _ _ _))
    refine Fg.vS rfl (by decide) (fun ac w h => ?_) ?_
    ·have e32 : _ = Value.pointer (some ⟨w0.heap.size, 15, none⟩) := h.d 32
     exact Fg.vn p.T.v (Fg.run_load rfl e32 ((hP.gn h.base).range 15 (feL p.T) rfl) Tryd.underlying26 rfl info_elem)
    refine Fg.cS rfl (by decide) (fun ac w h => ?_) ?_
    ·have e33 : _ = p.T.v := h.d 33
     refine ⟨wants_none rfl, 28, #[p.T.v], Fg.run_call rfl rfl (by simp only [List.map_toArray, List.map_cons, List.map_nil, Act.eval, e33]) (Fg.run_enter Tryd.func28 (by kernel_rfl) (by kernel_rfl)), ?_⟩
     exact (t_sq okp.T).mono fun _ _ ⟨he, hg⟩ => ⟨_, he, hg, rfl⟩
    refine Fg.cS rfl (by decide) (fun ac w h => ?_) ?_
    ·have e31 : _ = dF.v := h.d 31
     have e34 : _ = (Fe.sqF p.T).v := h.d 34
     refine ⟨wants_none rfl, 25, #[dF.v, (Fe.sqF p.T).v], Fg.run_call rfl rfl (by simp only [List.map_toArray, List.map_cons, List.map_nil, Act.eval, e31, e34]) (Fg.run_enter Tryd.func25 (by kernel_rfl) (by kernel_rfl)), ?_⟩
     exact (t_mul dF_right.ok (Fe.sq_right _).ok).mono fun _ _ ⟨he, hg⟩ => ⟨_, he, hg, rfl⟩
    refine Fg.cS rfl (by decide) (fun ac w h => ?_) ?_
    ·have e30 : _ = (Fe.sqF p.Z).v := h.d 30
     have e35 : _ = (Fe.mulF dF (Fe.sqF p.T)).v := h.d 35
     refine ⟨wants_none rfl, 39, #[(Fe.sqF p.Z).v, (Fe.mulF dF (Fe.sqF p.T)).v], Fg.run_call rfl rfl (by simp only [List.map_toArray, List.map_cons, List.map_nil, Act.eval, e30, e35]) (Fg.run_enter Tryd.func39 (by kernel_rfl) (by kernel_rfl)), ?_⟩
     exact (t_add (Fe.sq_right _).ok (Fe.mul_right _ _).ok).mono fun _ _ ⟨he, hg⟩ => ⟨_, he, hg, rfl⟩
    refine ⟨⟨⟨_, rfl⟩, Fg.allocP (fun _ _ h k => gb_trans h k) rfl (by show 4 < 53; decide) fun ac w h => ?_⟩, ?_⟩
    ·refine ⟨wants_none rfl, w.alloc (.cells zr5.toArray 26), ?_, World.grownBy_alloc _ _ _, by simp, ⟨w.heap.size, rfl, h.base.size, Blk.new w zr5 _⟩⟩
     clear h
     go_simp
    trivial
   ·intro qa V4 g4 hsz hdf hrest hslots hpt
    obtain ⟨N4, hs4, hn4, hb4⟩ : ∃ N, qa.tmps.getD 4 undef = .pointer (some ⟨N, 0, none⟩) ∧ W3.heap.size ≤ N ∧ Blk V4 N 26 zr5 := hslots 4 (by kernel_rfl)
    obtain ⟨u28, hs28⟩ := Fg.slotv qa 28
    obtain ⟨u29, hs29⟩ := Fg.slotv qa 29
    obtain ⟨u30, hs30⟩ := Fg.slotv qa 30
    obtain ⟨u31, hs31⟩ := Fg.slotv qa 31
    obtain ⟨u32, hs32⟩ := Fg.slotv qa 32
    obtain ⟨u33, hs33⟩ := Fg.slotv qa 33
    obtain ⟨u34, hs34⟩ := Fg.slotv qa 34
    obtain ⟨u35, hs35⟩ := Fg.slotv qa 35
    obtain ⟨x2, hx2⟩ : ∃ x : Fe, x = Fe.addF (Fe.sqF p.Z) (Fe.mulF dF (Fe.sqF p.T)) := ⟨_, rfl⟩
    obtain rfl := Fg.frame_by [4, 28, 29, 30, 31, 32, 33, 34, 35, 36] (vs := [p.v, Value.pointer (some ⟨w0.heap.size, 0, none⟩), Value.bool false, Value.pointer (some ⟨N3, 0, none⟩), Value.pointer (some ⟨N4, 0, none⟩), u5, u6, u7, u8, u9, u10, u11, u12, u13, u14, u15, u16, u17, u18, u19, Value.bool false, u21, u22, u23, u24, u25, u26, x1.v, u28, u29, u30, u31, u32, u33, u34, u35, x2.v, undef, undef, undef, undef, undef, undef, undef, undef, undef, undef, undef, undef, undef, undef, undef, undef]) hsz hrest (by kernel_rfl) rfl rfl ⟨hs4, hs28, hs29, hs30, hs31, hs32, hs33, hs34, hs35, (show qa.tmps.getD 36 undef = x2.v by rw [hx2]; exact hslots 36 (by kernel_rfl)), trivial⟩ hdf
    clear hsz hdf hrest hslots hpt hs4 hs28 hs29 hs30 hs31 hs32 hs33 hs34 hs35
    have Hx2 := Lib.hid hx2; clear hx2
    replace hP := hP.gn g4
    replace hb3 := hb3.gn g4
    replace G := gb_trans G g4
    replace HT := HT.grown g4
    have okx2 : x2.Ok := by rw [Hx2.out]; exact (Fe.add_right _ _).ok
    have hw4 : w0.heap.size ≤ N4 := Nat.le_trans Gs3 hn4
    clear g4
    refine Fg.wpl_skip rfl rfl (Fg.run_store (cs := feL x2) rfl rfl rfl (hb4.there 0 5 (by show 0 + 5 ≤ 5; decide)) info_elem (feL_one _)) ?_
    replace hP := hP.setCells_other (C := N4) (cs := feL x2) 0 (by omega)
    replace hb3 := hb3.setCells_other (C := N4) (cs := feL x2) 0 (by omega)
    replace hb4 : Blk (V4.setCells N4 0 (feL x2)) N4 26 (feL x2) := hb4.setAll rfl
    replace G := gb_setCells_new (cs := feL x2) G (B := N4) (hw4) 0
    replace HT := HT.keep (gb_setCells (cs := feL x2) (gb_refl _ (some N4)) 0) (HT0.noG (hw4))
    revert hP hb3 hb4 G HT
    generalize V4.setCells N4 0 (feL x2) = W5
    intro hP hb3 hb4 G HT
    go_upto_region 5 with (fail)
    have Gs5 := G.size
    have l4hP := hP.lt
    have l4hb3 := hb3.lt
    have l4hb4 := hb4.lt
    refine Fg.rT [] [.any, .any, .val (Value.bool true), .any, .any, .any, .any, .any, .any, .any, .any, .any, .any, .any, .any, .any, .any, .any, .any, .any, .any, .any, .any, .any, .any, .any, .any, .any, .any, .any, .any, .any, .any, .any, .any, .any, .any, .val (x1.v), .val (x2.v), .val (Value.bool true), .val (Value.bool true), .val (Value.pointer (some ⟨w0.heap.size, 15, none⟩)), .val (p.T.v), .val (Value.pointer (some ⟨w0.heap.size, 10, none⟩)), .val (p.Z.v), .val ((Fe.mulF p.T p.Z).v), .val (Value.pointer (some ⟨w0.heap.size, 0, none⟩)), .val (p.X.v), .val (Value.pointer (some ⟨w0.heap.size, 5, none⟩)), .val (p.Y.v), .val ((Fe.mulF p.X p.Y).v), .val (Value.bool true), .val (Value.bool true)] 17 ?_ ?_
    ·refine Fg.vS rfl (by decide) (fun ac w h => ?_) ?_
     ·have e3 : _ = Value.pointer (some ⟨N3, 0, none⟩) := h.r 3
      exact Fg.vn x1.v (Fg.run_load rfl e3 ((hb3.gn h.base).range 0 (feL x1) rfl) Tryd.underlying26 rfl info_elem)
     refine Fg.vS rfl (by decide) (fun ac w h => ?_) ?_
     ·have e4 : _ = Value.pointer (some ⟨N4, 0, none⟩) := h.r 4
      exact Fg.vn x2.v (Fg.run_load rfl e4 ((hb4.gn h.base).range 0 (feL x2) rfl) Tryd.underlying26 rfl info_elem)
     refine Fg.cS rfl (by decide) (fun ac w h => ?_) ?_
     ·have e37 : _ = x1.v := h.d 37
      have e38 : _ = x2.v := h.d 38
      refine ⟨wants_none rfl, 24, #[x1.v, x2.v], Fg.run_call rfl rfl (by simp only [List.map_toArray, List.map_cons, List.map_nil, Act.eval, e37, e38]) (Fg.run_enter Tryd.func24 (by kernel_rfl) (by kernel_rfl)), ?_⟩
      exact (t_same okx1 okx2 (by rw [Hx1.out, Hx2.out]; exact h1)).mono fun _ _ ⟨he, hg⟩ => ⟨_, he, hg, rfl⟩
     refine Fg.vS rfl (by decide) (fun ac w h => ?_) ?_
     ·have e39 : _ = Value.bool true := h.d 39
      exact Fg.vn (Value.bool true) (Fg.run_move rfl e39)
     refine Fg.vS rfl (by decide) (fun ac w h => ?_) ?_
     ·have e40 : _ = Value.bool true := h.d 40
      have e1 : _ = Value.pointer (some ⟨w0.heap.size, 0, none⟩) := h.r 1
      exact Fg.vx (Value.pointer (some ⟨w0.heap.size, 15, none⟩)) (wants_some (d := 40) rfl rfl (by rw [h.size]; show 40 < 53; decide) e40) (Fg.run_fieldAddr rfl e1 (fa_point3 _ _ _))
     refine Fg.vS rfl (by decide) (fun ac w h => ?_) ?_
     ·have e40 : _ = Value.bool true := h.d 40
      have e41 : _ = Value.pointer (some ⟨w0.heap.size, 15, none⟩) := h.d 41
      exact Fg.vx p.T.v (wants_some (d := 40) rfl rfl (by rw [h.size]; show 40 < 53; decide) e40) (Fg.run_load rfl e41 ((hP.gn h.base).range 15 (feL p.T) rfl) Tryd.underlying26 rfl info_elem)
     refine Fg.vS rfl (by decide) (fun ac w h => ?_) ?_
     ·have e40 : _ = Value.bool true := h.d 40
      have e1 : _ = Value.pointer (some ⟨w0.heap.size, 0, none⟩) := h.r 1
      exact Fg.vx (Value.pointer (some ⟨w0.heap.size, 10, none⟩)) (wants_some (d := 40) rfl rfl (by rw [h.size]; show 40 < 53; decide) e40) (Fg.run_fieldAddr rfl e1 (fa_point2 _ _ _))
     refine Fg.vS rfl (by decide) (fun ac w h => ?_) ?_
     ·have e40 : _ = Value.bool true := h.d 40
      have e43 : _ = Value.pointer (some ⟨w0.heap.size, 10, none⟩) := h.d 43
      exact Fg.vx p.Z.v (wants_some (d := 40) rfl rfl (by rw [h.size]; show 40 < 53; decide) e40) (Fg.run_load rfl e43 ((hP.gn h.base).range 10 (feL p.Z) rfl) Tryd.underlying26 rfl info_elem)
     refine Fg.cS rfl (by decide) (fun ac w h => ?_) ?_
     ·have e40 : _ = Value.bool true := h.d 40
      have e42 : _ = p.T.v := h.d 42
      have e44 : _ = p.Z.v := h.d 44
      refine ⟨wants_some (d := 40) rfl rfl (by rw [h.size]; show 40 < 53; decide) e40, 25, #[p.T.v, p.Z.v], Fg.run_call rfl rfl (by simp only [List.map_toArray, List.map_cons, List.map_nil, Act.eval, e42, e44]) (Fg.run_enter Tryd.func25 (by kernel_rfl) (by kernel_rfl)), ?_⟩
      exact (t_mul okp.T okp.Z).mono fun _ _ ⟨he, hg⟩ => ⟨_, he, hg, rfl⟩
     refine Fg.vS rfl (by decide) (fun ac w h => ?_) ?_
     ·have e40 : _ = Value.bool true := h.d 40
      have e1 : _ = Value.pointer (some ⟨w0.heap.size, 0, none⟩) := h.r 1
      exact Fg.vx (Value.pointer (some ⟨w0.heap.size, 0, none⟩)) (wants_some (d := 40) rfl rfl (by rw [h.size]; show 40 < 53; decide) e40) (Fg.run_fieldAddr rfl e1 (fa_point0 _ _ _))
     refine Fg.vS rfl (by decide) (fun ac w h => ?_) ?_
     ·have e40 : _ = Value.bool true := h.d 40
      have e46 : _ = Value.pointer (some ⟨w0.heap.size, 0, none⟩) := h.d 46
      exact Fg.vx p.X.v (wants_some (d := 40) rfl rfl (by rw [h.size]; show 40 < 53; decide) e40) (Fg.run_load rfl e46 ((hP.gn h.base).range 0 (feL p.X) rfl) Tryd.underlying26 rfl info_elem)
     refine Fg.vS rfl (by decide) (fun ac w h => ?_) ?_
     ·have e40 : _ = Value.bool true := h.d 40
      have e1 : _ = Value.pointer (some ⟨w0.heap.size, 0, none⟩) := h.r 1
      exact Fg.vx (Value.pointer (some ⟨w0.heap.size, 5, none⟩)) (wants_some (d := 40) rfl rfl (by rw [h.size]; show 40 < 53; decide) e40) (Fg.run_fieldAddr rfl e1 (fa_point1 _ _ _))
     refine Fg.vS rfl (by decide) (fun ac w h => ?_) ?_
     ·have e40 : _ = Value.bool true := h.d 40
      have e48 : _ = Value.pointer (some ⟨w0.heap.size, 5, none⟩) := h.d 48
      exact Fg.vx p.Y.v (wants_some (d := 40) rfl rfl (by rw [h.size]; show 40 < 53; decide) e40) (Fg.run_load rfl e48 ((hP.gn h.base).range 5 (feL p.Y) rfl) Tryd.underlying26 rfl info_elem)
     refine Fg.cS rfl (by decide) (fun ac w h => ?_) ?_
     ·have e40 : _ = Value.bool true := h.d 40
      have e47 : _ = p.X.v := h.d 47
      have e49 : _ = p.Y.v := h.d 49
      refine ⟨wants_some (d := 40) rfl rfl (by rw [h.size]; show 40 < 53; decide) e40, 25, #[p.X.v, p.Y.v], Fg.run_call rfl rfl (by simp only [List.map_toArray, List.map_cons, List.map_nil, Act.eval, e47, e49]) (Fg.run_enter Tryd.func25 (by kernel_rfl) (by kernel_rfl)), ?_⟩
      exact (t_mul okp.X okp.Y).mono fun _ _ ⟨he, hg⟩ => ⟨_, he, hg, rfl⟩
     refine Fg.cS rfl (by decide) (fun ac w h => ?_) ?_
     ·have e40 : _ = Value.bool true := h.d 40
      have e45 : _ = (Fe.mulF p.T p.Z).v := h.d 45
      have e50 : _ = (Fe.mulF p.X p.Y).v := h.d 50
      refine ⟨wants_some (d := 40) rfl rfl (by rw [h.size]; show 40 < 53; decide) e40, 24, #[(Fe.mulF p.T p.Z).v, (Fe.mulF p.X p.Y).v], Fg.run_call rfl rfl (by simp only [List.map_toArray, List.map_cons, List.map_nil, Act.eval, e45, e50]) (Fg.run_enter Tryd.func24 (by kernel_rfl) (by kernel_rfl)), ?_⟩
      exact (t_same (Fe.mul_right _ _).ok (Fe.mul_right _ _).ok h2).mono fun _ _ ⟨he, hg⟩ => ⟨_, he, hg, rfl⟩
     refine Fg.vS rfl (by decide) (fun ac w h => ?_) ?_
     ·have e40 : _ = Value.bool true := h.d 40
      have e51 : _ = Value.bool true := h.d 51
      refine ⟨wants_none rfl, Value.bool true, w, ?_, gb_refl _ _, rfl⟩
      clear h
      simp only [execOp, Act.eval, e40, e51]
      go_simp
     refine Fg.vS rfl (by decide) (fun ac w h => ?_) ?_
     ·have e52 : _ = Value.bool true := h.d 52
      exact Fg.vn (Value.bool true) (Fg.run_assign rfl e52)
     trivial
    ·intro qa V6 g6 hsz hdf hrest hslots hpt
     obtain ⟨u37, hs37⟩ := Fg.slotv qa 37
     obtain ⟨u38, hs38⟩ := Fg.slotv qa 38
     obtain ⟨u39, hs39⟩ := Fg.slotv qa 39
     obtain ⟨u40, hs40⟩ := Fg.slotv qa 40
     obtain ⟨u41, hs41⟩ := Fg.slotv qa 41
     obtain ⟨u42, hs42⟩ := Fg.slotv qa 42
     obtain ⟨u43, hs43⟩ := Fg.slotv qa 43
     obtain ⟨u44, hs44⟩ := Fg.slotv qa 44
     obtain ⟨u45, hs45⟩ := Fg.slotv qa 45
     obtain ⟨u46, hs46⟩ := Fg.slotv qa 46
     obtain ⟨u47, hs47⟩ := Fg.slotv qa 47
     obtain ⟨u48, hs48⟩ := Fg.slotv qa 48
     obtain ⟨u49, hs49⟩ := Fg.slotv qa 49
     obtain ⟨u50, hs50⟩ := Fg.slotv qa 50
     obtain ⟨u51, hs51⟩ := Fg.slotv qa 51
     obtain ⟨u52, hs52⟩ := Fg.slotv qa 52
     obtain rfl := Fg.frame_by [2, 37, 38, 39, 40, 41, 42, 43, 44, 45, 46, 47, 48, 49, 50, 51, 52] (vs := [p.v, Value.pointer (some ⟨w0.heap.size, 0, none⟩), Value.bool true, Value.pointer (some ⟨N3, 0, none⟩), Value.pointer (some ⟨N4, 0, none⟩), u5, u6, u7, u8, u9, u10, u11, u12, u13, u14, u15, u16, u17, u18, u19, Value.bool false, u21, u22, u23, u24, u25, u26, x1.v, u28, u29, u30, u31, u32, u33, u34, u35, x2.v, u37, u38, u39, u40, u41, u42, u43, u44, u45, u46, u47, u48, u49, u50, u51, u52]) hsz hrest (by kernel_rfl) rfl rfl ⟨(show qa.tmps.getD 2 undef = Value.bool true from hslots 2 (by kernel_rfl)), hs37, hs38, hs39, hs40, hs41, hs42, hs43, hs44, hs45, hs46, hs47, hs48, hs49, hs50, hs51, hs52, trivial⟩ hdf
     clear hsz hdf hrest hslots hpt hs37 hs38 hs39 hs40 hs41 hs42 hs43 hs44 hs45 hs46 hs47 hs48 hs49 hs50 hs51 hs52
     replace hP := hP.gn g6
     replace hb3 := hb3.gn g6
     replace hb4 := hb4.gn g6
     replace G := gb_trans G g6
     replace HT := HT.grown g6
     clear g6
     go_wp2_with fail
     go_ret
     exact ⟨rfl, G⟩
theorem on_id {n : Nat} [NeZero n] (d X Y Z T x y : Fin n) (hX : X = Z * x) (hY : Y = Z * y) (hT : T = Z * (x * y)) (on : y*y - x*x = 1 + d*(x*x*(y*y))) : Y*Y - X*X = Z*Z + d*(T*T) ∧ T * Z = X * Y := by grind
theorem on_parts {s : Pt} {p : Pr} (h : PtIs s p) : o0 s = false ∧ o1 s = true ∧ o2 s = true := by
 obtain ⟨h1, h2⟩ := on_id d _ _ _ _ _ _ h.x h.y h.t h.on
 have e0 : o0 s = false := by
  unfold o0
  rw [decide_eq_false_iff_not]
  intro e
  exact h.z (Fin.ext (e.trans Ed.zero_val.symm))
 have e1 : o1 s = true := by
  unfold o1
  rw [decide_eq_true_iff, phi_same, phi_sub (Fe.sq_right _) (Fe.sq_right _), phi_sq h.rY, phi_sq h.rX, phi_add (Fe.sq_right _) (Fe.mul_right _ _), phi_sq h.rZ, phi_mul dF_right (Fe.sq_right _), phi_sq h.rT, phi_d]
  exact h1
 have e2 : o2 s = true := by
  unfold o2
  rw [decide_eq_true_iff, phi_same, phi_mul h.rT h.rZ, phi_mul h.rX h.rY]
  exact h2
 exact ⟨e0, e1, e2⟩

end Go.Proofs.YtleegbaigedebaaDoor

/- edwards: On, of what stands for a pair. -/
namespace Go.Proofs.YtleegbaigedebaaDoor
open Go.RowKit Ow Ed
theorem edOnIs {s : Pt} {p : Pr} (w : World) (HT : ETab w) (h : PtIs s p) : Tells 13 #[s.v] w (.bool true) := by
  obtain ⟨h0, h1, h2⟩ := on_parts h
  exact on_tt s w HT ⟨h.rX, h.rY, h.rZ, h.rT⟩ h0 h1 h2
end Go.Proofs.YtleegbaigedebaaDoor

/- edwards: the law's awake. -/
namespace Go.Proofs.YtleegbaigedebaaDoor
open Go.RowKit Ow Go.Shelf Ed
theorem base_neg_zero : true = true ↔ sumPr [baseR, Ed.neg baseR] = zero := ⟨fun _ => add_neg base_on, fun _ => rfl⟩
set_option maxRecDepth 100000 in
set_option maxHeartbeats 12800000 in
theorem awake4_any (w0 : World) (HT0 : ETab w0) :
  Calls Tryd.prog 6 #[] w0 fun e w' => e = .returned (.bool true) ∧ w0.grownBy w' none := by
 go_enter Tryd.func6, Tryd.ntmps6
 have G : w0.grownBy w0 none := gb_refl _ _
 have HT := HT0
 go_upto_region 1 with (fail)
 have Gs0 := G.size
 refine Fg.rP [] [.any, .row 79 (bytesV (putNum baseT)) 32 w0.heap.size, .any, .any, .any, .any, .any, .any, .val (baseT.v), .row 79 (bytesV (putNum baseT)) 32 w0.heap.size] 3 ?_ ?_
 ·refine Fg.cS rfl (by decide) (fun ac w h => ?_) ?_
  ·refine ⟨wants_none rfl, 19, #[], Fg.run_call rfl rfl (by simp) (Fg.run_enter Tryd.func19 (by kernel_rfl) (by kernel_rfl)), ?_⟩
   exact (edBase _ (HT.grown h.base)).mono fun _ _ ⟨he, hg⟩ => ⟨_, he, hg, rfl⟩
  refine Fg.cS rfl (by decide) (fun ac w h => ?_) ?_
  ·have e8 : _ = baseT.v := h.d 8
   refine ⟨wants_none rfl, 15, #[baseT.v], Fg.run_call rfl rfl (by simp only [List.map_toArray, List.map_cons, List.map_nil, Act.eval, e8]) (Fg.run_enter Tryd.func15 (by kernel_rfl) (by kernel_rfl)), ?_⟩
   exact (edPut baseT _ baseIs.ok).mono fun _ _ ⟨NB, he, hg, hn, hb⟩ => ⟨_, he, hg, ⟨NB, rfl, Nat.le_trans h.base.size hn, hb⟩⟩
  refine Fg.vS rfl (by decide) (fun ac w h => ?_) ?_
  ·obtain ⟨B9, e9, hn9, b9⟩ : ∃ N, ac.tmps.getD 9 undef = .slice (some ⟨N, 0, none⟩) 32 32 ∧ w0.heap.size ≤ N ∧ Blk w N 79 (bytesV (putNum baseT)) := h.dep 9 (by kernel_rfl)
   exact ⟨wants_none rfl, Value.slice (some ⟨B9, 0, none⟩) 32 32, w, Fg.run_assign rfl e9, gb_refl _ _, ⟨_, rfl, hn9, b9⟩⟩
  trivial
 ·intro qa V1 g1 hsz hdf hrest hslots hpt
  obtain ⟨N1, hs1, hn1, hb1⟩ : ∃ N, qa.tmps.getD 1 undef = .slice (some ⟨N, 0, none⟩) 32 32 ∧ w0.heap.size ≤ N ∧ Blk V1 N 79 (bytesV (putNum baseT)) := hslots 1 (by kernel_rfl)
  obtain ⟨u8, hs8⟩ := Fg.slotv qa 8
  obtain ⟨u9, hs9⟩ := Fg.slotv qa 9
  obtain rfl := Fg.frame_by [1, 8, 9] (vs := [Value.bool false, Value.slice (some ⟨N1, 0, none⟩) 32 32, undef, undef, undef, undef, undef, undef, u8, u9, undef, undef, undef, undef, undef, undef, undef, undef, undef, undef, undef, undef, undef, undef, undef, undef, undef, undef, undef, undef, undef, undef, undef, undef, undef, undef, undef, undef, undef, undef, undef, undef, undef, undef, undef, undef, undef, undef, undef, undef, undef, undef, undef, undef, undef, undef, undef, undef, undef, undef, undef, undef, undef, undef, undef, undef]) hsz hrest (by kernel_rfl) rfl rfl ⟨hs1, hs8, hs9, trivial⟩ hdf
  clear hsz hdf hrest hslots hpt hs1 hs8 hs9
  replace G := gb_trans G g1
  replace HT := HT.grown g1
  have hw1 : w0.heap.size ≤ N1 := Nat.le_trans Gs0 hn1
  clear g1
  go_upto_region 2 with (fail)
  refine wp_region_lit ?_
  refine Fg.wpl_value (v := .slice (some ⟨V1.heap.size, 0, none⟩) 1 1) (w' := V1.alloc (.cells #[u8N 1] 5)) rfl (by go_simp; rfl) ?_
  simp only [Act.put, List.setIfInBounds_toArray, List.set_cons_succ, List.set_cons_zero]
  have gz := gb_alloc (gb_refl V1 none) (.cells #[u8N 1] 5)
  have hz : BytesAt (V1.alloc (.cells #[u8N 1] 5)) (V1.alloc (.cells #[u8N 1] 5)).heap.size (some ⟨V1.heap.size, 0, none⟩) 1 [1] := blk_bytes (tl := []) (Blk.new V1 [u8N 1] _) rfl (Nat.le_refl _) (by omega) (fun i => by cases i with
   | zero => decide
   | succ i => simp) (by simp) (Nat.le_refl _)
  replace hb1 := hb1.gn gz
  replace G := gb_trans G gz
  replace HT := HT.grown gz
  clear gz
  obtain ⟨Z12, hZ⟩ : ∃ x, x = V1.heap.size := ⟨_, rfl⟩
  rw [← hZ] at hz ⊢
  clear hZ
  revert hb1 G HT hz
  generalize (V1.alloc (.cells #[u8N 1] 5)) = A1
  intro hb1 G HT hz
  have l2hb1 := hb1.lt
  refine Fg.wpl_call rfl (Fg.run_call (vs := #[.slice (some ⟨Z12, 0, none⟩) 1 1]) rfl rfl (by simp only [List.map_toArray, List.map_cons, List.map_nil, Act.eval]; rfl) (Fg.run_enter Tryd.func18 (by kernel_rfl) (by kernel_rfl))) ?_
  refine (bytes32_any A1.heap.size 1 1 (some ⟨Z12, 0, none⟩) [1] A1 rfl (by decide) hz).mono ?_
  rintro e A1b ⟨M12, c12, rfl, gz, hz2⟩
  refine ⟨_, rfl, ?_⟩
  have hz12 : A1b.ownsRow A1.heap.size 5 1 (.slice (some ⟨M12, 0, none⟩) 32 c12) 32 (oneL.map u8N) := hz2
  clear hz hz2
  have zW12 := G.size
  replace hb1 := hb1.gn gz
  replace G := gb_trans G gz
  replace HT := HT.grown gz
  clear gz
  obtain ⟨g12, c12', hv12, hbg12, hnc12, hBA⟩ := own_bytesAt hz12 rfl (by decide) oneL_lt
  cases hv12
  refine Fg.wpl_call rfl (Fg.run_call (vs := #[.slice (some ⟨M12, 0, none⟩) 32 c12]) rfl rfl (by simp only [List.map_toArray, List.map_cons, List.map_nil, Act.eval]; rfl) (Fg.run_enter Tryd.func16 (by kernel_rfl) (by kernel_rfl))) ?_
  refine (edGet _ 32 c12 (some ⟨M12, 0, none⟩) oneL A1b HT rfl (by decide) hBA).mono ?_
  rintro e V2 hgo
  obtain ⟨t2, ht2, rfl, g2⟩ := get_one hgo
  refine ⟨_, rfl, ?_⟩
  clear hgo hBA hz12
  replace hb1 := hb1.gn g2
  replace G := gb_trans G g2
  replace HT := HT.grown g2
  clear g2
  simp only [Act.put, List.setIfInBounds_toArray, List.set_cons_succ, List.set_cons_zero]
  refine Fg.wpl_value (v := .tuple #[t2.v, .bool true]) (w' := V2) rfl (Fg.run_move rfl rfl) ?_
  simp only [Act.put, List.setIfInBounds_toArray, List.set_cons_succ, List.set_cons_zero]
  refine Fg.wpl_value (v := t2.v) (w' := V2) rfl (Fg.run_extract rfl rfl rfl) ?_
  simp only [Act.put, List.setIfInBounds_toArray, List.set_cons_succ, List.set_cons_zero]
  refine Fg.wpl_value (v := .bool true) (w' := V2) rfl (Fg.run_extract rfl rfl rfl) ?_
  simp only [Act.put, List.setIfInBounds_toArray, List.set_cons_succ, List.set_cons_zero]
  refine Fg.wpl_value (v := .pointer (some ⟨V2.heap.size, 0, none⟩)) (w' := V2.alloc (.cells zr20.toArray 28)) rfl (by go_simp) ?_
  simp only [Act.put, List.setIfInBounds_toArray, List.set_cons_succ, List.set_cons_zero]
  have hw2 : w0.heap.size ≤ V2.heap.size := G.size
  have hb2 := Blk.new V2 zr20 28
  have l3hb1 := hb1.lt
  have ga2 := gb_alloc (gb_refl V2 none) (.cells zr20.toArray 28)
  replace hb1 := hb1.gn ga2
  replace G := gb_trans G ga2
  replace HT := HT.grown ga2
  clear ga2
  obtain ⟨N2, hN2⟩ : ∃ x, x = V2.heap.size := ⟨_, rfl⟩
  rw [← hN2] at hb2 hw2 ⊢
  rw [← hN2] at l3hb1
  revert hb1 G HT hb2
  generalize (V2.alloc (.cells zr20.toArray 28)) = V3
  intro hb1 G HT hb2
  clear hN2
  refine Fg.wpl_skip rfl rfl (Fg.run_store (cs := ptL t2) rfl rfl rfl (hb2.there 0 20 (by show 0 + 20 ≤ 20; decide)) info_point (ptL_one _)) ?_
  replace hb1 := hb1.setCells_other (C := N2) (cs := ptL t2) 0 (by omega)
  replace hb2 : Blk (V3.setCells N2 0 (ptL t2)) N2 28 (ptL t2) := hb2.setAll rfl
  replace G := gb_setCells_new (cs := ptL t2) G (B := N2) (hw2) 0
  replace HT := HT.keep (gb_setCells (cs := ptL t2) (gb_refl _ (some N2)) 0) (HT0.noG (hw2))
  revert hb1 hb2 G HT
  generalize V3.setCells N2 0 (ptL t2) = W2
  intro hb1 hb2 G HT
  refine Fg.wpl_value (v := .bool true) (w' := W2) rfl (Fg.run_assign rfl rfl) ?_
  refine wpList_nil ?_
  go_upto_region 3 with (fail)
  refine wp_region_lit ?_
  refine Fg.wpl_value (v := .slice (some ⟨W2.heap.size, 0, none⟩) 1 1) (w' := W2.alloc (.cells #[u8N 1] 5)) rfl (by go_simp; rfl) ?_
  simp only [Act.put, List.setIfInBounds_toArray, List.set_cons_succ, List.set_cons_zero]
  have gz := gb_alloc (gb_refl W2 none) (.cells #[u8N 1] 5)
  have hz : BytesAt (W2.alloc (.cells #[u8N 1] 5)) (W2.alloc (.cells #[u8N 1] 5)).heap.size (some ⟨W2.heap.size, 0, none⟩) 1 [1] := blk_bytes (tl := []) (Blk.new W2 [u8N 1] _) rfl (Nat.le_refl _) (by omega) (fun i => by cases i with
   | zero => decide
   | succ i => simp) (by simp) (Nat.le_refl _)
  replace hb1 := hb1.gn gz
  replace hb2 := hb2.gn gz
  replace G := gb_trans G gz
  replace HT := HT.grown gz
  clear gz
  obtain ⟨Z17, hZ⟩ : ∃ x, x = W2.heap.size := ⟨_, rfl⟩
  rw [← hZ] at hz ⊢
  clear hZ
  revert hb1 hb2 G HT hz
  generalize (W2.alloc (.cells #[u8N 1] 5)) = A3
  intro hb1 hb2 G HT hz
  have l4hb1 := hb1.lt
  have l4hb2 := hb2.lt
  refine Fg.wpl_call rfl (Fg.run_call (vs := #[.slice (some ⟨Z17, 0, none⟩) 1 1]) rfl rfl (by simp only [List.map_toArray, List.map_cons, List.map_nil, Act.eval]; rfl) (Fg.run_enter Tryd.func18 (by kernel_rfl) (by kernel_rfl))) ?_
  refine (bytes32_any A3.heap.size 1 1 (some ⟨Z17, 0, none⟩) [1] A3 rfl (by decide) hz).mono ?_
  rintro e A3b ⟨M17, c17, rfl, gz, hz2⟩
  refine ⟨_, rfl, ?_⟩
  have hz17 : A3b.ownsRow A3.heap.size 5 1 (.slice (some ⟨M17, 0, none⟩) 32 c17) 32 (oneL.map u8N) := hz2
  clear hz hz2
  have zW17 := G.size
  replace hb1 := hb1.gn gz
  replace hb2 := hb2.gn gz
  replace G := gb_trans G gz
  replace HT := HT.grown gz
  clear gz
  obtain ⟨g17, c17', hv17, hbg17, hnc17, hBA⟩ := own_bytesAt hz17 rfl (by decide) oneL_lt
  cases hv17
  clear hBA
  refine Fg.wpl_value (v := .slice (some ⟨M17, 0, none⟩) 32 c17) (w' := A3b) rfl (Fg.run_assign rfl rfl) ?_
  refine wpList_nil ?_
  simp only [Act.put, List.setIfInBounds_toArray, List.set_cons_succ, List.set_cons_zero]
  have hc17 : A3b.cell? ⟨M17, 31, none⟩ = some (.int .u8 0) := own_cell hz17 (j := 31) rfl
  have hf17 : A3b.frozen? ⟨M17, 31, none⟩ = false := own_free hz17 31
  have hMw : w0.heap.size ≤ M17 := Nat.le_trans zW17 hbg17
  have hM1 : M17 ≠ N1 := by omega
  have hM2 : M17 ≠ N2 := by omega
  replace hz17 := own_set hz17 (i := 31) (.int .u8 128)
  change World.ownsRow _ _ _ _ _ _ (badL.map u8N) at hz17
  replace hb1 := hb1.other (a := ⟨M17, 31, none⟩) hM1 (.int .u8 128)
  replace hb2 := hb2.other (a := ⟨M17, 31, none⟩) hM2 (.int .u8 128)
  replace HT := HT.keep (gb_set (gb_refl _ (some M17)) 31 (.int .u8 128)) (HT0.noG hMw)
  replace G := gb_set_new G (p := ⟨M17, 31, none⟩) hMw (.int .u8 128)
  have HA := Lib.hid (And.intro hz17 (And.intro hb1 (And.intro hb2 (And.intro HT G)))); clear hz17 hb1 hb2 HT G
  have HA2 := Lib.hid (And.intro HT0 ht2); clear HT0 ht2
  go_upto_region 5 with (fail)
  obtain ⟨hz17, hb1, hb2, HT, G⟩ := HA.out; clear HA hc17 hf17
  obtain ⟨HT0, ht2⟩ := HA2.out; clear HA2
  revert hz17 hb1 hb2 HT G
  generalize A3b.setCell ⟨M17, 31, none⟩ (.int .u8 128) = A4
  intro hz17 hb1 hb2 HT G
  refine wp_region_lit ?_
  obtain ⟨g18, c18', hv18, hbg18, hnc18, hBA⟩ := own_bytesAt hz17 rfl (by decide) badL_lt
  cases hv18
  refine Fg.wpl_value (v := .slice (some ⟨M17, 0, none⟩) 32 c17) (w' := A4) rfl (Fg.run_move rfl rfl) ?_
  simp only [Act.put, List.setIfInBounds_toArray, List.set_cons_succ, List.set_cons_zero]
  refine Fg.wpl_call rfl (Fg.run_call (vs := #[.slice (some ⟨M17, 0, none⟩) 32 c17]) rfl rfl (by simp only [List.map_toArray, List.map_cons, List.map_nil, Act.eval]; rfl) (Fg.run_enter Tryd.func16 (by kernel_rfl) (by kernel_rfl))) ?_
  refine (edGet _ 32 c17 (some ⟨M17, 0, none⟩) badL A4 HT rfl (by decide) hBA).mono ?_
  rintro e V5 hgo
  obtain ⟨t5, rfl, g5⟩ := get_bad hgo
  refine ⟨_, rfl, ?_⟩
  clear hgo hBA hz17
  replace hb1 := hb1.gn g5
  replace hb2 := hb2.gn g5
  replace G := gb_trans G g5
  replace HT := HT.grown g5
  clear g5
  simp only [Act.put, List.setIfInBounds_toArray, List.set_cons_succ, List.set_cons_zero]
  refine Fg.wpl_value (v := .tuple #[t5.v, .bool false]) (w' := V5) rfl (Fg.run_move rfl rfl) ?_
  simp only [Act.put, List.setIfInBounds_toArray, List.set_cons_succ, List.set_cons_zero]
  refine Fg.wpl_value (v := t5.v) (w' := V5) rfl (Fg.run_extract rfl rfl rfl) ?_
  simp only [Act.put, List.setIfInBounds_toArray, List.set_cons_succ, List.set_cons_zero]
  refine Fg.wpl_value (v := .bool false) (w' := V5) rfl (Fg.run_extract rfl rfl rfl) ?_
  simp only [Act.put, List.setIfInBounds_toArray, List.set_cons_succ, List.set_cons_zero]
  refine Fg.wpl_value (v := .pointer (some ⟨V5.heap.size, 0, none⟩)) (w' := V5.alloc (.cells zr20.toArray 28)) rfl (by go_simp) ?_
  simp only [Act.put, List.setIfInBounds_toArray, List.set_cons_succ, List.set_cons_zero]
  have hw5 : w0.heap.size ≤ V5.heap.size := G.size
  have hb5 := Blk.new V5 zr20 28
  have l5hb1 := hb1.lt
  have l5hb2 := hb2.lt
  have ga5 := gb_alloc (gb_refl V5 none) (.cells zr20.toArray 28)
  replace hb1 := hb1.gn ga5
  replace hb2 := hb2.gn ga5
  replace G := gb_trans G ga5
  replace HT := HT.grown ga5
  clear ga5
  obtain ⟨N5, hN5⟩ : ∃ x, x = V5.heap.size := ⟨_, rfl⟩
  rw [← hN5] at hb5 hw5 ⊢
  rw [← hN5] at l5hb1 l5hb2
  revert hb1 hb2 G HT hb5
  generalize (V5.alloc (.cells zr20.toArray 28)) = V6
  intro hb1 hb2 G HT hb5
  clear hN5
  refine Fg.wpl_skip rfl rfl (Fg.run_store (cs := ptL t5) rfl rfl rfl (hb5.there 0 20 (by show 0 + 20 ≤ 20; decide)) info_point (ptL_one _)) ?_
  replace hb1 := hb1.setCells_other (C := N5) (cs := ptL t5) 0 (by omega)
  replace hb2 := hb2.setCells_other (C := N5) (cs := ptL t5) 0 (by omega)
  replace hb5 : Blk (V6.setCells N5 0 (ptL t5)) N5 28 (ptL t5) := hb5.setAll rfl
  replace G := gb_setCells_new (cs := ptL t5) G (B := N5) (hw5) 0
  replace HT := HT.keep (gb_setCells (cs := ptL t5) (gb_refl _ (some N5)) 0) (HT0.noG (hw5))
  revert hb1 hb2 hb5 G HT
  generalize V6.setCells N5 0 (ptL t5) = W3
  intro hb1 hb2 hb5 G HT
  refine Fg.wpl_value (v := .bool false) (w' := W3) rfl (Fg.run_assign rfl rfl) ?_
  refine wpList_nil ?_
  simp only [Act.put, List.setIfInBounds_toArray, List.set_cons_succ, List.set_cons_zero]
  have hall : ∀ i, i < 32 → W3.cell? ⟨N1, i, none⟩ = some (.int .u8 (if i = 0 then 88 else 102)) := fun i hi => by
   have h := hb1.cell (bytesV_get (putNum baseT) i hi)
   rwa [base_bytes i hi] at h
  have hfirst : W3.cell? ⟨N1, 0, none⟩ = some (.int .u8 88) := hall 0 (by decide)
  have HALL := Lib.hid hall; clear hall
  have HA := Lib.hid (And.intro hb2 (And.intro HT G)); clear hb1 hb2 hb5 HT G
  have HA2 := Lib.hid (And.intro HT0 ht2); clear HT0 ht2
  go_wp2
  clear hfirst
  go_loopw [7] (fun v wr => ∃ i : Nat, 1 ≤ i ∧ i ≤ 32 ∧ v = .int .i64 i ∧ W3 = wr) (fun v _ => 32 - (intOf v).toNat)
  case atStart => exact ⟨1, by decide, by decide, rfl, rfl⟩
  case round =>
   obtain ⟨i, h1, h2, rfl, rfl⟩ := hrel
   by_cases h32 : i < 32
   ·have i0 : (i : Int) < 32 := by omega
    have hc := HALL.out i h32
    rw [if_neg (by omega)] at hc
    go_wp2
    go_roundw
    all_goals first
     | exact ⟨i + 1, by omega, by omega, by go_num, trivial⟩
     | (simp [intOf]; omega)
   ·have i0 : ¬ (i : Int) < 32 := by omega
    clear HALL
    go_upto_region 13 with (fail)
    obtain ⟨hb2, HT, G⟩ := HA.out; clear HA
    obtain ⟨HT0, ht2⟩ := HA2.out; clear HA2
    have Gs3 := G.size
    have l6hb2 := hb2.lt
    refine Fg.rT [] [.any, .any, .any, .any, .any, .any, .any, .any, .any, .any, .any, .any, .any, .any, .any, .any, .any, .any, .any, .any, .any, .any, .any, .any, .any, .any, .any, .any, .any, .any, .any, .any, .any, .any, .any, .any, .any, .any, .any, .any, .any, .any, .any, .any, .any, .any, .any, .any, .any, .any, .val (t2.v), .val (zeroP.v), .val (Value.bool true), .val (Value.bool true), .val (baseT.v), .val (baseT.v), .stands (Ed.neg baseR), .pts [baseR, Ed.neg baseR] 2 W3.heap.size, .stands (sumPr [baseR, Ed.neg baseR]), .val (zeroP.v), .val (Value.bool true), .val (Value.bool true), .val (Value.bool true), .val (baseT.v), .val (Value.bool true), .val (Value.bool true)] 16 ?_ ?_
    ·refine Fg.vS rfl (by decide) (fun ac w h => ?_) ?_
     ·have e2 : _ = Value.pointer (some ⟨N2, 0, none⟩) := h.r 2
      exact Fg.vn t2.v (Fg.run_load rfl e2 ((hb2.gn h.base).range 0 (ptL t2) rfl) Tryd.underlying28 rfl info_point)
     refine Fg.cS rfl (by decide) (fun ac w h => ?_) ?_
     ·refine ⟨wants_none rfl, 11, #[], Fg.run_call rfl rfl (by simp) (Fg.run_enter Tryd.func11 (by kernel_rfl) (by kernel_rfl)), ?_⟩
      exact (edZero _).mono fun _ _ ⟨he, hg⟩ => ⟨_, he, hg, rfl⟩
     refine Fg.cS rfl (by decide) (fun ac w h => ?_) ?_
     ·have e50 : _ = t2.v := h.d 50
      have e51 : _ = zeroP.v := h.d 51
      refine ⟨wants_none rfl, 9, #[t2.v, zeroP.v], Fg.run_call rfl rfl (by simp only [List.map_toArray, List.map_cons, List.map_nil, Act.eval, e50, e51]) (Fg.run_enter Tryd.func9 (by kernel_rfl) (by kernel_rfl)), ?_⟩
      exact (edSameIs _ ht2 zeroIs (b := true) (by simp)).mono fun _ _ ⟨he, hg⟩ => ⟨_, he, hg, rfl⟩
     refine Fg.vS rfl (by decide) (fun ac w h => ?_) ?_
     ·have e52 : _ = Value.bool true := h.d 52
      exact Fg.vn (Value.bool true) (Fg.run_move rfl e52)
     refine Fg.cS rfl (by decide) (fun ac w h => ?_) ?_
     ·have e53 : _ = Value.bool true := h.d 53
      refine ⟨wants_some (d := 53) rfl rfl (by rw [h.size]; show 53 < 66; decide) e53, 19, #[], Fg.run_call rfl rfl (by simp) (Fg.run_enter Tryd.func19 (by kernel_rfl) (by kernel_rfl)), ?_⟩
      exact (edBase _ (HT.grown h.base)).mono fun _ _ ⟨he, hg⟩ => ⟨_, he, hg, rfl⟩
     refine Fg.cS rfl (by decide) (fun ac w h => ?_) ?_
     ·have e53 : _ = Value.bool true := h.d 53
      refine ⟨wants_some (d := 53) rfl rfl (by rw [h.size]; show 53 < 66; decide) e53, 19, #[], Fg.run_call rfl rfl (by simp) (Fg.run_enter Tryd.func19 (by kernel_rfl) (by kernel_rfl)), ?_⟩
      exact (edBase _ (HT.grown h.base)).mono fun _ _ ⟨he, hg⟩ => ⟨_, he, hg, rfl⟩
     refine Fg.cS rfl (by decide) (fun ac w h => ?_) ?_
     ·have e53 : _ = Value.bool true := h.d 53
      have e55 : _ = baseT.v := h.d 55
      refine ⟨wants_some (d := 53) rfl rfl (by rw [h.size]; show 53 < 66; decide) e53, 10, #[baseT.v], Fg.run_call rfl rfl (by simp only [List.map_toArray, List.map_cons, List.map_nil, Act.eval, e55]) (Fg.run_enter Tryd.func10 (by kernel_rfl) (by kernel_rfl)), ?_⟩
      exact (edNeg baseT baseR _ (HT.grown h.base) baseIs).mono fun _ _ ⟨t, ht, he, hg⟩ => ⟨_, he, hg, ⟨t, rfl, ht⟩⟩
     refine Fg.vS rfl (by decide) (fun ac w h => ?_) ?_
     ·have e53 : _ = Value.bool true := h.d 53
      have e54 : _ = baseT.v := h.d 54
      obtain ⟨t56, e56, is_t56⟩ : ∃ t : Pt, ac.tmps.getD 56 undef = t.v ∧ PtIs t (Ed.neg baseR) := h.dep 56 (by kernel_rfl)
      exact ⟨wants_some (d := 53) rfl rfl (by rw [h.size]; show 53 < 66; decide) e53, .slice (some ⟨w.heap.size, 0, none⟩) 2 2, w.alloc (.cells (ptsL [baseT, t56]).toArray 28), Fg.run_buildSlice (vs := #[(0, baseT.v), (1, t56.v)]) rfl (by simp only [List.map_toArray, List.map_cons, List.map_nil, Act.eval, e54, e56]) (by kernel_rfl), World.grownBy_alloc _ _ _, ⟨w.heap.size, _, rfl, h.base.size, (ptsAre_c baseIs (ptsAre_c is_t56 ptsAre_0)), Blk.new w (ptsL [baseT, t56]) _⟩⟩
     refine Fg.cS rfl (by decide) (fun ac w h => ?_) ?_
     ·have e53 : _ = Value.bool true := h.d 53
      obtain ⟨B57, LB57, e57, hn57, ar_B57, b_B57⟩ : ∃ (N : Nat) (L : List Pt), ac.tmps.getD 57 undef = .slice (some ⟨N, 0, none⟩) 2 2 ∧ W3.heap.size ≤ N ∧ PtsAre L [baseR, Ed.neg baseR] ∧ Blk w N 28 (ptsL L) := h.dep 57 (by kernel_rfl)
      refine ⟨wants_some (d := 53) rfl rfl (by rw [h.size]; show 53 < 66; decide) e53, 8, #[Value.slice (some ⟨B57, 0, none⟩) 2 2], Fg.run_call rfl rfl (by simp only [List.map_toArray, List.map_cons, List.map_nil, Act.eval, e57]) (Fg.run_enter Tryd.func8 (by kernel_rfl) (by kernel_rfl)), ?_⟩
      exact (edAddIs B57 2 LB57 [baseR, Ed.neg baseR] _ (HT.grown h.base) rfl (by decide) (by decide) ar_B57 b_B57).mono fun _ _ ⟨t, ht, he, hg⟩ => ⟨_, he, hg, ⟨t, rfl, ht⟩⟩
     refine Fg.cS rfl (by decide) (fun ac w h => ?_) ?_
     ·have e53 : _ = Value.bool true := h.d 53
      refine ⟨wants_some (d := 53) rfl rfl (by rw [h.size]; show 53 < 66; decide) e53, 11, #[], Fg.run_call rfl rfl (by simp) (Fg.run_enter Tryd.func11 (by kernel_rfl) (by kernel_rfl)), ?_⟩
      exact (edZero _).mono fun _ _ ⟨he, hg⟩ => ⟨_, he, hg, rfl⟩
     refine Fg.cS rfl (by decide) (fun ac w h => ?_) ?_
     ·have e53 : _ = Value.bool true := h.d 53
      obtain ⟨t58, e58, is_t58⟩ : ∃ t : Pt, ac.tmps.getD 58 undef = t.v ∧ PtIs t (sumPr [baseR, Ed.neg baseR]) := h.dep 58 (by kernel_rfl)
      have e59 : _ = zeroP.v := h.d 59
      refine ⟨wants_some (d := 53) rfl rfl (by rw [h.size]; show 53 < 66; decide) e53, 9, #[t58.v, zeroP.v], Fg.run_call rfl rfl (by simp only [List.map_toArray, List.map_cons, List.map_nil, Act.eval, e58, e59]) (Fg.run_enter Tryd.func9 (by kernel_rfl) (by kernel_rfl)), ?_⟩
      exact (edSameIs _ is_t58 zeroIs (b := true) base_neg_zero).mono fun _ _ ⟨he, hg⟩ => ⟨_, he, hg, rfl⟩
     refine Fg.vS rfl (by decide) (fun ac w h => ?_) ?_
     ·have e53 : _ = Value.bool true := h.d 53
      have e60 : _ = Value.bool true := h.d 60
      refine ⟨wants_none rfl, Value.bool true, w, ?_, gb_refl _ _, rfl⟩
      clear h
      simp only [execOp, Act.eval, e53, e60]
      go_simp
     refine Fg.vS rfl (by decide) (fun ac w h => ?_) ?_
     ·have e61 : _ = Value.bool true := h.d 61
      exact Fg.vn (Value.bool true) (Fg.run_move rfl e61)
     refine Fg.cS rfl (by decide) (fun ac w h => ?_) ?_
     ·have e62 : _ = Value.bool true := h.d 62
      refine ⟨wants_some (d := 62) rfl rfl (by rw [h.size]; show 62 < 66; decide) e62, 19, #[], Fg.run_call rfl rfl (by simp) (Fg.run_enter Tryd.func19 (by kernel_rfl) (by kernel_rfl)), ?_⟩
      exact (edBase _ (HT.grown h.base)).mono fun _ _ ⟨he, hg⟩ => ⟨_, he, hg, rfl⟩
     refine Fg.cS rfl (by decide) (fun ac w h => ?_) ?_
     ·have e62 : _ = Value.bool true := h.d 62
      have e63 : _ = baseT.v := h.d 63
      refine ⟨wants_some (d := 62) rfl rfl (by rw [h.size]; show 62 < 66; decide) e62, 13, #[baseT.v], Fg.run_call rfl rfl (by simp only [List.map_toArray, List.map_cons, List.map_nil, Act.eval, e63]) (Fg.run_enter Tryd.func13 (by kernel_rfl) (by kernel_rfl)), ?_⟩
      exact (edOnIs _ (HT.grown h.base) baseIs).mono fun _ _ ⟨he, hg⟩ => ⟨_, he, hg, rfl⟩
     refine Fg.vS rfl (by decide) (fun ac w h => ?_) ?_
     ·have e62 : _ = Value.bool true := h.d 62
      have e64 : _ = Value.bool true := h.d 64
      refine ⟨wants_none rfl, Value.bool true, w, ?_, gb_refl _ _, rfl⟩
      clear h
      simp only [execOp, Act.eval, e62, e64]
      go_simp
     trivial
    ·intro qa V4 g4 hsz hdf hrest hslots hpt
     obtain ⟨u0, hs0⟩ := Fg.slotv qa 0
     obtain ⟨u1, hs1⟩ := Fg.slotv qa 1
     obtain ⟨u3, hs3⟩ := Fg.slotv qa 3
     obtain ⟨u4, hs4⟩ := Fg.slotv qa 4
     obtain ⟨u5, hs5⟩ := Fg.slotv qa 5
     obtain ⟨u6, hs6⟩ := Fg.slotv qa 6
     obtain ⟨u7, hs7⟩ := Fg.slotv qa 7
     obtain ⟨u8, hs8⟩ := Fg.slotv qa 8
     obtain ⟨u9, hs9⟩ := Fg.slotv qa 9
     obtain ⟨u10, hs10⟩ := Fg.slotv qa 10
     obtain ⟨u11, hs11⟩ := Fg.slotv qa 11
     obtain ⟨u12, hs12⟩ := Fg.slotv qa 12
     obtain ⟨u13, hs13⟩ := Fg.slotv qa 13
     obtain ⟨u14, hs14⟩ := Fg.slotv qa 14
     obtain ⟨u15, hs15⟩ := Fg.slotv qa 15
     obtain ⟨u16, hs16⟩ := Fg.slotv qa 16
     obtain ⟨u17, hs17⟩ := Fg.slotv qa 17
     obtain ⟨u18, hs18⟩ := Fg.slotv qa 18
     obtain ⟨u19, hs19⟩ := Fg.slotv qa 19
     obtain ⟨u20, hs20⟩ := Fg.slotv qa 20
     obtain ⟨u21, hs21⟩ := Fg.slotv qa 21
     obtain ⟨u22, hs22⟩ := Fg.slotv qa 22
     obtain ⟨u23, hs23⟩ := Fg.slotv qa 23
     obtain ⟨u24, hs24⟩ := Fg.slotv qa 24
     obtain ⟨u25, hs25⟩ := Fg.slotv qa 25
     obtain ⟨u26, hs26⟩ := Fg.slotv qa 26
     obtain ⟨u27, hs27⟩ := Fg.slotv qa 27
     obtain ⟨u28, hs28⟩ := Fg.slotv qa 28
     obtain ⟨u29, hs29⟩ := Fg.slotv qa 29
     obtain ⟨u30, hs30⟩ := Fg.slotv qa 30
     obtain ⟨u31, hs31⟩ := Fg.slotv qa 31
     obtain ⟨u32, hs32⟩ := Fg.slotv qa 32
     obtain ⟨u33, hs33⟩ := Fg.slotv qa 33
     obtain ⟨u34, hs34⟩ := Fg.slotv qa 34
     obtain ⟨u35, hs35⟩ := Fg.slotv qa 35
     obtain ⟨u36, hs36⟩ := Fg.slotv qa 36
     obtain ⟨u37, hs37⟩ := Fg.slotv qa 37
     obtain ⟨u38, hs38⟩ := Fg.slotv qa 38
     obtain ⟨u39, hs39⟩ := Fg.slotv qa 39
     obtain ⟨u40, hs40⟩ := Fg.slotv qa 40
     obtain ⟨u41, hs41⟩ := Fg.slotv qa 41
     obtain ⟨u42, hs42⟩ := Fg.slotv qa 42
     obtain ⟨u43, hs43⟩ := Fg.slotv qa 43
     obtain ⟨u44, hs44⟩ := Fg.slotv qa 44
     obtain ⟨u45, hs45⟩ := Fg.slotv qa 45
     obtain ⟨u46, hs46⟩ := Fg.slotv qa 46
     obtain ⟨u47, hs47⟩ := Fg.slotv qa 47
     obtain ⟨u48, hs48⟩ := Fg.slotv qa 48
     obtain ⟨u49, hs49⟩ := Fg.slotv qa 49
     obtain ⟨u50, hs50⟩ := Fg.slotv qa 50
     obtain ⟨u51, hs51⟩ := Fg.slotv qa 51
     obtain ⟨u52, hs52⟩ := Fg.slotv qa 52
     obtain ⟨u53, hs53⟩ := Fg.slotv qa 53
     obtain ⟨u54, hs54⟩ := Fg.slotv qa 54
     obtain ⟨u55, hs55⟩ := Fg.slotv qa 55
     obtain ⟨u56, hs56⟩ := Fg.slotv qa 56
     obtain ⟨u57, hs57⟩ := Fg.slotv qa 57
     obtain ⟨u58, hs58⟩ := Fg.slotv qa 58
     obtain ⟨u59, hs59⟩ := Fg.slotv qa 59
     obtain ⟨u60, hs60⟩ := Fg.slotv qa 60
     obtain ⟨u61, hs61⟩ := Fg.slotv qa 61
     obtain ⟨u62, hs62⟩ := Fg.slotv qa 62
     obtain ⟨u63, hs63⟩ := Fg.slotv qa 63
     obtain ⟨u64, hs64⟩ := Fg.slotv qa 64
     obtain rfl := Fg.frame_is (a := qa) (vs := [u0, u1, Value.pointer (some ⟨N2, 0, none⟩), u3, u4, u5, u6, u7, u8, u9, u10, u11, u12, u13, u14, u15, u16, u17, u18, u19, u20, u21, u22, u23, u24, u25, u26, u27, u28, u29, u30, u31, u32, u33, u34, u35, u36, u37, u38, u39, u40, u41, u42, u43, u44, u45, u46, u47, u48, u49, u50, u51, u52, u53, u54, u55, u56, u57, u58, u59, u60, u61, u62, u63, u64, Value.bool true]) hsz ⟨hs0, hs1, hrest 2 (by kernel_rfl), hs3, hs4, hs5, hs6, hs7, hs8, hs9, hs10, hs11, hs12, hs13, hs14, hs15, hs16, hs17, hs18, hs19, hs20, hs21, hs22, hs23, hs24, hs25, hs26, hs27, hs28, hs29, hs30, hs31, hs32, hs33, hs34, hs35, hs36, hs37, hs38, hs39, hs40, hs41, hs42, hs43, hs44, hs45, hs46, hs47, hs48, hs49, hs50, hs51, hs52, hs53, hs54, hs55, hs56, hs57, hs58, hs59, hs60, hs61, hs62, hs63, hs64, (show qa.tmps.getD 65 undef = Value.bool true from hslots 65 (by kernel_rfl)), trivial⟩ hdf
     clear hsz hdf hrest hslots hpt hs0 hs1 hs3 hs4 hs5 hs6 hs7 hs8 hs9 hs10 hs11 hs12 hs13 hs14 hs15 hs16 hs17 hs18 hs19 hs20 hs21 hs22 hs23 hs24 hs25 hs26 hs27 hs28 hs29 hs30 hs31 hs32 hs33 hs34 hs35 hs36 hs37 hs38 hs39 hs40 hs41 hs42 hs43 hs44 hs45 hs46 hs47 hs48 hs49 hs50 hs51 hs52 hs53 hs54 hs55 hs56 hs57 hs58 hs59 hs60 hs61 hs62 hs63 hs64
     replace hb2 := hb2.gn g4
     replace G := gb_trans G g4
     replace HT := HT.grown g4
     clear g4
     refine Fg.wpl_value (v := .bool true) (w' := V4) rfl (Fg.run_assign rfl rfl) ?_
     go_wp2_with fail
     go_ret
     exact ⟨rfl, G⟩
     

end Go.Proofs.YtleegbaigedebaaDoor

/- scalar: the mathematics: words of a number, what is left of a division by the order. -/
namespace Go.Proofs.YtleegbaigedebaaDoor
namespace Sc

def L : Nat := 7237005577332262213973186563042994240857116359379907606001950938285454250989
def wrd (n j : Nat) : Nat := n / 2 ^ (64 * j) % 18446744073709551616
def byt (n i : Nat) : Nat := n / 2 ^ (8 * i) % 256
theorem wrd_lt (n j : Nat) : wrd n j < 18446744073709551616 := Nat.mod_lt _ (by decide)
theorem byt_lt (n i : Nat) : byt n i < 256 := Nat.mod_lt _ (by decide)
theorem wrd0 (n : Nat) : wrd n 0 = n % 18446744073709551616 := by unfold wrd; simp
theorem wrd1 (n : Nat) : wrd n 1 = n / 18446744073709551616 % 18446744073709551616 := by unfold wrd; rfl
theorem wrd2 (n : Nat) : wrd n 2 = n / 340282366920938463463374607431768211456 % 18446744073709551616 := by unfold wrd; rfl
theorem wrd3 (n : Nat) : wrd n 3 = n / 6277101735386680763835789423207666416102355444464034512896 % 18446744073709551616 := by unfold wrd; rfl
theorem of4 (n : Nat) (h : n < 2 ^ 256) : n = wrd n 0 + wrd n 1 * 18446744073709551616 + wrd n 2 * 340282366920938463463374607431768211456 + wrd n 3 * 6277101735386680763835789423207666416102355444464034512896 := by
  have e : (2 : Nat) ^ 256 = 115792089237316195423570985008687907853269984665640564039457584007913129639936 := by decide
  rw [e] at h
  rw [wrd0, wrd1, wrd2, wrd3]
  have h1 : n / 340282366920938463463374607431768211456 = n / 18446744073709551616 / 18446744073709551616 := by rw [Nat.div_div_eq_div_mul]
  have h2 : n / 6277101735386680763835789423207666416102355444464034512896 = n / 18446744073709551616 / 18446744073709551616 / 18446744073709551616 := by rw [Nat.div_div_eq_div_mul, Nat.div_div_eq_div_mul]
  rw [h1, h2]
  omega
theorem mk4 (a b c d : Nat) (ha : a < 18446744073709551616) (hb : b < 18446744073709551616) (hc : c < 18446744073709551616) (hd : d < 18446744073709551616) (n : Nat)
    (hn : n = a + b * 18446744073709551616 + c * 340282366920938463463374607431768211456 + d * 6277101735386680763835789423207666416102355444464034512896) :
    wrd n 0 = a ∧ wrd n 1 = b ∧ wrd n 2 = c ∧ wrd n 3 = d ∧ n < 2 ^ 256 := by
  have e : (2 : Nat) ^ 256 = 115792089237316195423570985008687907853269984665640564039457584007913129639936 := by decide
  rw [e, wrd0, wrd1, wrd2, wrd3]
  have h1 : n / 18446744073709551616 = b + c * 18446744073709551616 + d * 340282366920938463463374607431768211456 := by omega
  have h2 : n / 340282366920938463463374607431768211456 = c + d * 18446744073709551616 := by
    have : n / 340282366920938463463374607431768211456 = n / 18446744073709551616 / 18446744073709551616 := by rw [Nat.div_div_eq_div_mul]
    rw [this, h1]; omega
  have h3 : n / 6277101735386680763835789423207666416102355444464034512896 = d := by
    have : n / 6277101735386680763835789423207666416102355444464034512896 = n / 340282366920938463463374607431768211456 / 18446744073709551616 := by rw [Nat.div_div_eq_div_mul]
    rw [this, h2]; omega
  rw [h1, h2, h3]
  omega
def lw : Nat → Nat
  | 0 => 6346243789798364141
  | 1 => 1503914060200516822
  | 2 => 0
  | 3 => 1152921504606846976
  | _ => 0
theorem L_is : L = 6346243789798364141 + 1503914060200516822 * 18446744073709551616 + 0 * 340282366920938463463374607431768211456 + 1152921504606846976 * 6277101735386680763835789423207666416102355444464034512896 := by decide

def ov (q : Nat) : Nat → Nat
  | 0 => 0
  | k + 1 => (q * lw k + ov q k) / 18446744073709551616
def lo (q k : Nat) : Nat := (q * lw k + ov q k) % 18446744073709551616
def bl (n q : Nat) : Nat → Nat
  | 0 => 0
  | k + 1 => if wrd n k < lo q k + bl n q k then 1 else 0
def rs (n q k : Nat) : Nat := (wrd n k + 36893488147419103232 - lo q k - bl n q k) % 18446744073709551616
theorem lo_lt (q k : Nat) : lo q k < 18446744073709551616 := Nat.mod_lt _ (by decide)
theorem rs_lt (n q k : Nat) : rs n q k < 18446744073709551616 := Nat.mod_lt _ (by decide)
theorem bl_le (n q k : Nat) : bl n q k ≤ 1 := by
  cases k with
  | zero => exact Nat.zero_le _
  | succ k => unfold bl; split <;> omega
theorem lw_lt (k : Nat) : lw k < 18446744073709551616 := by unfold lw; split <;> decide
theorem ov_lt (q k : Nat) (hq : q < 18446744073709551616) : ov q k < 18446744073709551616 := by
  induction k with
  | zero => exact Nat.zero_lt_succ _
  | succ k ih =>
    unfold ov
    have h := Nat.mul_le_mul (Nat.le_pred_of_lt hq) (Nat.le_pred_of_lt (lw_lt k))
    simp only [Nat.pred_eq_sub_one] at h
    omega
def offN (n q : Nat) : Nat := rs n q 0 + rs n q 1 * 18446744073709551616 + rs n q 2 * 340282366920938463463374607431768211456 + rs n q 3 * 6277101735386680763835789423207666416102355444464034512896
def offO (n q : Nat) : Nat := ov q 4 + bl n q 4
theorem off_step (n q k : Nat) : wrd n k + bl n q (k + 1) * 18446744073709551616 = rs n q k + lo q k + bl n q k := by
  have h1 := wrd_lt n k
  have h2 := lo_lt q k
  have h3 := bl_le n q k
  have e : bl n q (k + 1) = if wrd n k < lo q k + bl n q k then 1 else 0 := rfl
  rw [e]
  unfold rs
  generalize bl n q k = b at *
  generalize lo q k = l at *
  generalize wrd n k = x at *
  split <;> omega
theorem ov_step (q k : Nat) : q * lw k + ov q k = ov q (k + 1) * 18446744073709551616 + lo q k := by
  have e : ov q (k + 1) = (q * lw k + ov q k) / 18446744073709551616 := rfl
  rw [e]; unfold lo; omega
theorem off_eq (n q : Nat) (h : n < 2 ^ 256) : n + offO n q * 115792089237316195423570985008687907853269984665640564039457584007913129639936 = q * L + offN n q := by
  have e := of4 n h
  have s0 := off_step n q 0
  have s1 := off_step n q 1
  have s2 := off_step n q 2
  have s3 := off_step n q 3
  have o0 := ov_step q 0
  have o1 := ov_step q 1
  have o2 := ov_step q 2
  have o3 := ov_step q 3
  have z0 : ov q 0 = 0 := rfl
  have z1 : bl n q 0 = 0 := rfl
  simp only [lw] at o0 o1 o2 o3
  unfold offO offN
  rw [L_is]
  simp only [Nat.reduceAdd] at *
  omega
theorem off_words (n q : Nat) : wrd (offN n q) 0 = rs n q 0 ∧ wrd (offN n q) 1 = rs n q 1 ∧ wrd (offN n q) 2 = rs n q 2 ∧ wrd (offN n q) 3 = rs n q 3 ∧ offN n q < 2 ^ 256 :=
  mk4 _ _ _ _ (rs_lt ..) (rs_lt ..) (rs_lt ..) (rs_lt ..) _ rfl

def ca (n : Nat) : Nat → Nat
  | 0 => 0
  | k + 1 => (wrd n k + lw k + ca n k) / 18446744073709551616
def ps (n k : Nat) : Nat := (wrd n k + lw k + ca n k) % 18446744073709551616
theorem ps_lt (n k : Nat) : ps n k < 18446744073709551616 := Nat.mod_lt _ (by decide)
theorem ca_le (n k : Nat) : ca n k ≤ 1 := by
  induction k with
  | zero => exact Nat.zero_le _
  | succ k ih => have h1 := wrd_lt n k; have h2 := lw_lt k; unfold ca; omega
def backN (n : Nat) : Nat := ps n 0 + ps n 1 * 18446744073709551616 + ps n 2 * 340282366920938463463374607431768211456 + ps n 3 * 6277101735386680763835789423207666416102355444464034512896
theorem ca_step (n k : Nat) : wrd n k + lw k + ca n k = ca n (k + 1) * 18446744073709551616 + ps n k := by
  have e : ca n (k + 1) = (wrd n k + lw k + ca n k) / 18446744073709551616 := rfl
  rw [e]; unfold ps; omega
theorem back_eq (n : Nat) (h : n < 2 ^ 256) : n + L = ca n 4 * 115792089237316195423570985008687907853269984665640564039457584007913129639936 + backN n := by
  have e := of4 n h
  have s0 := ca_step n 0
  have s1 := ca_step n 1
  have s2 := ca_step n 2
  have s3 := ca_step n 3
  have z0 : ca n 0 = 0 := rfl
  simp only [lw] at s0 s1 s2 s3
  unfold backN
  rw [L_is]
  simp only [Nat.reduceAdd] at *
  omega
theorem back_words (n : Nat) : wrd (backN n) 0 = ps n 0 ∧ wrd (backN n) 1 = ps n 1 ∧ wrd (backN n) 2 = ps n 2 ∧ wrd (backN n) 3 = ps n 3 ∧ backN n < 2 ^ 256 :=
  mk4 _ _ _ _ (ps_lt ..) (ps_lt ..) (ps_lt ..) (ps_lt ..) _ rfl

def guessN (top next : Nat) : Nat := if top / 1152921504606846976 > 0 then 18446744073709551615 else top * 16 + next / 1152921504606846976
theorem guess_lt (top next : Nat) (h : next < 18446744073709551616) : guessN top next < 18446744073709551616 := by unfold guessN; split <;> omega
def down (n x : Nat) : Nat := x + n % 6277101735386680763835789423207666416102355444464034512896 * 18446744073709551616
theorem down_words (n x : Nat) (hx : x < 18446744073709551616) : wrd (down n x) 0 = x ∧ wrd (down n x) 1 = wrd n 0 ∧ wrd (down n x) 2 = wrd n 1 ∧ wrd (down n x) 3 = wrd n 2 ∧ down n x < 2 ^ 256 := by
  apply mk4 _ _ _ _ hx (wrd_lt ..) (wrd_lt ..) (wrd_lt ..)
  unfold down
  have h1 : n / 340282366920938463463374607431768211456 = n / 18446744073709551616 / 18446744073709551616 := by rw [Nat.div_div_eq_div_mul]
  rw [wrd0, wrd1, wrd2, h1]
  omega
def restN (n x : Nat) : Nat :=
  let d := down n x
  let q := guessN (wrd n 3) (wrd n 2)
  if wrd n 3 < offO d q then backN (offN d q) else offN d q
theorem top_near (n q : Nat) (n0 n1 n2 n3 x : Nat) (hn : n < L) (hx : x < 18446744073709551616) (w0 : n0 < 18446744073709551616) (w1 : n1 < 18446744073709551616) (w2 : n2 < 18446744073709551616)
    (e4 : n = n0 + n1 * 18446744073709551616 + n2 * 340282366920938463463374607431768211456 + n3 * 6277101735386680763835789423207666416102355444464034512896) (hq : guessN n3 n2 = q) :
    q * L < n * 18446744073709551616 + x + L ∧ n * 18446744073709551616 + x < q * L + L := by
  unfold guessN at hq
  unfold L at *
  split at hq
  · subst hq; omega
  · have hk : n2 = n2 / 1152921504606846976 * 1152921504606846976 + n2 % 1152921504606846976 := by omega
    have hl : n2 % 1152921504606846976 < 1152921504606846976 := by omega
    have hm : n2 / 1152921504606846976 < 16 := by omega
    generalize n2 / 1152921504606846976 = a at *
    generalize n2 % 1152921504606846976 = b at *
    have hn3 : n3 < 1152921504606846976 := by omega
    subst hk
    subst hq
    subst e4
    clear hn
    omega
theorem rest_is (n x : Nat) (hn : n < L) (hx : x < 18446744073709551616) : restN n x = (n * 18446744073709551616 + x) % L := by
  have h256 : n < 2 ^ 256 := Nat.lt_trans hn (by decide)
  have e4 := of4 n h256
  obtain ⟨d0, d1, d2, d3, dl⟩ := down_words n x hx
  have eq := off_eq (down n x) (guessN (wrd n 3) (wrd n 2)) dl
  obtain ⟨_, _, _, _, ol⟩ := off_words (down n x) (guessN (wrd n 3) (wrd n 2))
  have eb := back_eq (offN (down n x) (guessN (wrd n 3) (wrd n 2))) ol
  obtain ⟨_, _, _, _, bl'⟩ := back_words (offN (down n x) (guessN (wrd n 3) (wrd n 2)))
  have ed := of4 _ dl
  rw [d0, d1, d2, d3] at ed
  have tn := top_near n _ _ _ _ _ x hn hx (wrd_lt n 0) (wrd_lt n 1) (wrd_lt n 2) e4 rfl
  have p256 : (2 : Nat) ^ 256 = 115792089237316195423570985008687907853269984665640564039457584007913129639936 := by decide
  have hN : n * 18446744073709551616 + x = wrd n 3 * 115792089237316195423570985008687907853269984665640564039457584007913129639936 + down n x := by omega
  rw [p256] at ol bl'
  obtain ⟨N, hNe⟩ : ∃ N, N = n * 18446744073709551616 + x := ⟨_, rfl⟩
  rw [← hNe] at hN tn ⊢
  clear hNe
  unfold restN
  simp only []
  generalize hq : guessN (wrd n 3) (wrd n 2) = q at *
  generalize offN (down n x) q = r at *
  generalize offO (down n x) q = o at *
  generalize backN r = b at *
  generalize ca r 4 = cc at *
  generalize down n x = d at *
  generalize wrd n 3 = n3 at *
  clear p256 d0 d1 d2 d3 dl h256 ed e4 hn hx hq
  have hL : L = 7237005577332262213973186563042994240857116359379907606001950938285454250989 := rfl
  obtain ⟨t1, t2⟩ := tn
  generalize hP : q * L = P at *
  split
  · rename_i hlt
    have h1 : o = n3 + 1 := by omega
    have h2 : cc = 1 := by omega
    have h3 : N + L = P + b := by omega
    have h4 : b < L := by omega
    have h5 : 1 ≤ q := by
      rcases Nat.eq_zero_or_pos q with h0 | h0
      · rw [h0, Nat.zero_mul] at hP; omega
      · exact h0
    obtain ⟨k, rfl⟩ : ∃ k, q = k + 1 := ⟨q - 1, by omega⟩
    rw [Nat.add_mul, Nat.one_mul] at hP
    have h6 : N = L * k + b := by rw [Nat.mul_comm]; omega
    rw [h6, Nat.mul_add_mod, Nat.mod_eq_of_lt h4]
  · rename_i hlt
    have h1 : o = n3 := by omega
    have h3 : N = P + r := by omega
    have h4 : r < L := by omega
    rw [h3, ← hP, Nat.mul_comm, Nat.mul_add_mod, Nat.mod_eq_of_lt h4]
theorem mod_lt (n : Nat) : n % L < L := Nat.mod_lt _ (by decide)
theorem lt256 (n : Nat) (h : n < L) : n < 2 ^ 256 := Nat.lt_trans h (by decide)

theorem wrd_split (n j : Nat) : n / 2 ^ (64 * j) = n / 2 ^ (64 * (j + 1)) * 18446744073709551616 + wrd n j := by
  have e : (2 : Nat) ^ (64 * (j + 1)) = 2 ^ (64 * j) * 18446744073709551616 := by rw [show 64 * (j + 1) = 64 * j + 64 by omega, Nat.pow_add]
  rw [e, ← Nat.div_div_eq_div_mul]
  unfold wrd
  omega
theorem rest_step (n j : Nat) : restN (n / 2 ^ (64 * (j + 1)) % L) (wrd n j) = n / 2 ^ (64 * j) % L := by
  rw [rest_is _ _ (mod_lt _) (wrd_lt _ _), wrd_split n j]
  generalize n / 2 ^ (64 * (j + 1)) = a
  rw [Nat.add_mod, Nat.mul_mod, Nat.mod_mod, ← Nat.mul_mod, ← Nat.add_mod]

def leN (f : Nat → Nat) : Nat → Nat
  | 0 => 0
  | k + 1 => leN f k + f k * 2 ^ (8 * k)
theorem leN_lt (f : Nat → Nat) (hf : ∀ i, f i < 256) (k : Nat) : leN f k < 2 ^ (8 * k) := by
  induction k with
  | zero => exact Nat.zero_lt_one
  | succ k ih =>
    have e : (2 : Nat) ^ (8 * (k + 1)) = 2 ^ (8 * k) * 256 := by rw [show 8 * (k + 1) = 8 * k + 8 by omega, Nat.pow_add]
    have h := hf k
    have := Nat.mul_le_mul_right (2 ^ (8 * k)) (show f k + 1 ≤ 256 by omega)
    rw [Nat.add_mul, Nat.one_mul] at this
    rw [leN, e]; omega
theorem leN_byt (n k : Nat) : leN (byt n) k = n % 2 ^ (8 * k) := by
  induction k with
  | zero => rw [leN, show 8 * 0 = 0 by rfl, Nat.pow_zero, Nat.mod_one]
  | succ k ih =>
    have e : (2 : Nat) ^ (8 * (k + 1)) = 2 ^ (8 * k) * 256 := by rw [show 8 * (k + 1) = 8 * k + 8 by omega, Nat.pow_add]
    rw [leN, ih, e, Nat.mod_mul]
    unfold byt
    rw [Nat.mul_comm (2 ^ (8 * k))]
theorem leN_congr (f g : Nat → Nat) (k : Nat) (h : ∀ i, i < k → f i = g i) : leN f k = leN g k := by
  induction k with
  | zero => rfl
  | succ k ih => rw [leN, leN, ih (fun i hi => h i (by omega)), h k (by omega)]
theorem byt_leN (f : Nat → Nat) (hf : ∀ i, f i < 256) (k i : Nat) (h : i < k) : byt (leN f k) i = f i := by
  induction k with
  | zero => omega
  | succ k ih =>
    rw [leN]
    unfold byt at *
    by_cases hik : i = k
    · subst hik
      rw [Nat.add_mul_div_right _ _ (Nat.pow_pos (by decide)), Nat.div_eq_of_lt (leN_lt f hf i), Nat.zero_add, Nat.mod_eq_of_lt (hf i)]
    · have hlt : i < k := by omega
      have e : (2 : Nat) ^ (8 * k) = 2 ^ (8 * i) * (2 ^ (8 * (k - i - 1)) * 256) := by
        rw [Nat.mul_comm (2 ^ (8 * (k - i - 1))), show (256 : Nat) = 2 ^ 8 by rfl, ← Nat.pow_add, ← Nat.pow_add]; congr 1; omega
      rw [e, ← Nat.mul_assoc, Nat.mul_comm (f k), Nat.mul_assoc, Nat.add_mul_div_left _ _ (Nat.pow_pos (by decide)), ← Nat.mul_assoc, Nat.add_mul_mod_self_right]
      exact ih hlt
theorem fill_same (f : Nat → Nat) (hf : ∀ i, f i < 256) (k : Nat) : wrd (leN f (k + 1)) (k / 8) = wrd (leN f k) (k / 8) + f k * 2 ^ (8 * (k % 8)) ∧ wrd (leN f k) (k / 8) < 2 ^ (8 * (k % 8)) := by
  have hl := leN_lt f hf k
  have hk := hf k
  have e : (2 : Nat) ^ (8 * k) = 2 ^ (64 * (k / 8)) * 2 ^ (8 * (k % 8)) := by rw [← Nat.pow_add]; congr 1; omega
  have hd : leN f k / 2 ^ (64 * (k / 8)) < 2 ^ (8 * (k % 8)) := by rw [Nat.div_lt_iff_lt_mul (Nat.pow_pos (by decide)), Nat.mul_comm, ← e]; exact hl
  have hb : (2 : Nat) ^ (8 * (k % 8)) * 256 ≤ 18446744073709551616 := by
    have : (2 : Nat) ^ (8 * (k % 8)) * 256 = 2 ^ (8 * (k % 8) + 8) := by rw [Nat.pow_add]
    rw [this, show (18446744073709551616 : Nat) = 2 ^ 64 by rfl]
    exact Nat.pow_le_pow_right (by decide) (by omega)
  have hw : wrd (leN f k) (k / 8) = leN f k / 2 ^ (64 * (k / 8)) := by unfold wrd; exact Nat.mod_eq_of_lt (by omega)
  refine ⟨?_, by rw [hw]; exact hd⟩
  have h2 : leN f (k + 1) / 2 ^ (64 * (k / 8)) = leN f k / 2 ^ (64 * (k / 8)) + f k * 2 ^ (8 * (k % 8)) := by
    rw [leN, e, ← Nat.mul_assoc, Nat.mul_comm (f k), Nat.mul_assoc, Nat.add_mul_div_left _ _ (Nat.pow_pos (by decide))]
  rw [hw]
  unfold wrd
  rw [h2]
  apply Nat.mod_eq_of_lt
  have := Nat.mul_le_mul_right (2 ^ (8 * (k % 8))) (show f k + 1 ≤ 256 by omega)
  rw [Nat.add_mul, Nat.one_mul, Nat.mul_comm 256] at this
  omega
theorem fill_other (f : Nat → Nat) (hf : ∀ i, f i < 256) (k j : Nat) (h : j ≠ k / 8) : wrd (leN f (k + 1)) j = wrd (leN f k) j := by
  have hl := leN_lt f hf k
  have hl1 := leN_lt f hf (k + 1)
  unfold wrd
  by_cases hj : j < k / 8
  · have e : (2 : Nat) ^ (8 * k) = 2 ^ (64 * j) * (2 ^ (8 * k - 64 * j - 64) * 18446744073709551616) := by
      rw [show (18446744073709551616 : Nat) = 2 ^ 64 by rfl, ← Nat.pow_add, ← Nat.pow_add]; congr 1; omega
    rw [leN, e, ← Nat.mul_assoc, Nat.mul_comm (f k), Nat.mul_assoc, Nat.add_mul_div_left _ _ (Nat.pow_pos (by decide)), ← Nat.mul_assoc, Nat.add_mul_mod_self_right]
  · have h1 : (2 : Nat) ^ (8 * k) ≤ 2 ^ (64 * j) := Nat.pow_le_pow_right (by decide) (by omega)
    have h2 : (2 : Nat) ^ (8 * (k + 1)) ≤ 2 ^ (64 * j) := Nat.pow_le_pow_right (by decide) (by omega)
    rw [Nat.div_eq_of_lt (by omega), Nat.div_eq_of_lt (by omega)]
end Sc
end Go.Proofs.YtleegbaigedebaaDoor

/- scalar: mulAddWords, guess; Sub64. -/
namespace Go.Proofs.YtleegbaigedebaaDoor
open Go.RowKit

theorem add64c (x y c : Int) (hx0 : 0 ≤ x) (hy0 : 0 ≤ y) (hc0 : 0 ≤ c) (hc : c ≤ 1) (w : World) : (callFunc 77 #[.int .u64 x, .int .u64 y, .int .u64 c]).run Tryd.prog w =
    .ok (.value (.tuple #[.int .u64 ((x + y + c) % 18446744073709551616), .int .u64 ((x + y + c) / 18446744073709551616)])) w := by
  have h := run_add64 (P := Tryd.prog) x y c (by omega) (by omega) (by omega) (by omega) (w := w)
  rw [run_callFunc_extern Tryd.func77 (by kernel_rfl) (by kernel_rfl) (by kernel_rfl) (e := add64Entry) (by kernel_rfl), h]
  simp only [Result.andThen]
theorem sub64c (x y b : Nat) (hb : b ≤ 1) (w : World) : (callFunc 85 #[.int .u64 x, .int .u64 y, .int .u64 b]).run Tryd.prog w =
    .ok (.value (.tuple #[.int .u64 (((x + 18446744073709551616 - y - b) % 18446744073709551616 : Nat) : Int), .int .u64 ((if x < y + b then 1 else 0 : Nat) : Int)])) w := by
  rw [run_callFunc_extern Tryd.func85 (by kernel_rfl) (by kernel_rfl) (by kernel_rfl) (e := sub64Entry) (by kernel_rfl), run_sub64 x y b hb]
  rfl
theorem mw_eq (p a b : Int) (p0 : 0 ≤ p) (p1 : p ≤ 340282366920938463426481119284349108225) (a0 : 0 ≤ a) (a1 : a < 18446744073709551616) (b0 : 0 ≤ b) (b1 : b < 18446744073709551616) :
    IntKind.u64.wrap (IntKind.u64.wrap (p / 18446744073709551616 + (p % 18446744073709551616 + a) / 18446744073709551616) + ((p % 18446744073709551616 + a) % 18446744073709551616 + b) / 18446744073709551616) = (p + a + b) / 18446744073709551616 ∧
    (p % 18446744073709551616 + a + b) % 18446744073709551616 = (p + a + b) % 18446744073709551616 := by
  rw [IntKind.wrap_u64, IntKind.wrap_u64]
  omega
theorem mul_bd (x y : Int) (hx0 : 0 ≤ x) (hy0 : 0 ≤ y) (hx : x < 18446744073709551616) (hy : y < 18446744073709551616) : 0 ≤ x * y ∧ x * y ≤ 340282366920938463426481119284349108225 := by
  refine ⟨Int.mul_nonneg hx0 hy0, ?_⟩
  have h1 : x * y ≤ 18446744073709551615 * y := Int.mul_le_mul_of_nonneg_right (by omega) hy0
  omega
set_option maxHeartbeats 400000 in
theorem maw_int (x y a b : Int) (w : World) (x0 : 0 ≤ x) (y0 : 0 ≤ y) (x1 : x < 18446744073709551616) (y1 : y < 18446744073709551616) (a0 : 0 ≤ a) (a1 : a < 18446744073709551616) (b0 : 0 ≤ b) (b1 : b < 18446744073709551616) :
    Calls Tryd.prog 60 #[.int .u64 x, .int .u64 y, .int .u64 a, .int .u64 b] w fun e w' => e = .returned (.tuple #[.int .u64 ((x * y + a + b) / 18446744073709551616), .int .u64 ((x * y + a + b) % 18446744073709551616)]) ∧ w = w' := by
  obtain ⟨p0, p1⟩ := mul_bd x y x0 y0 x1 y1
  have H := Lib.hid (mw_eq (x * y) a b p0 p1 a0 a1 b0 b1)
  have M := Lib.hid (mul64 x y x0 y0 x1 y1)
  have c0 : 0 ≤ x * y % 18446744073709551616 := by omega
  have c1 : 0 ≤ (x * y % 18446744073709551616 + a) % 18446744073709551616 := by omega
  have q0 : 0 ≤ x * y / 18446744073709551616 := by omega
  generalize x * y = p at *
  obtain ⟨hi, hhi⟩ : ∃ hi, hi = p / 18446744073709551616 := ⟨_, rfl⟩
  obtain ⟨lo, hlo⟩ : ∃ lo, lo = p % 18446744073709551616 := ⟨_, rfl⟩
  rw [← hhi, ← hlo] at H M
  rw [← hlo] at c0 c1
  rw [← hhi] at q0
  clear hhi hlo p1 p0 x0 x1 y0 y1
  go_enter Tryd.func60, Tryd.ntmps60
  go_wp2_with (first | (go_at_call 76; refine (M.out _).mono ?_; rintro e w' ⟨rfl, rfl⟩) | simp only [add64 _ _ c0 a0, add64 _ _ c1 b0])
  go_ret2
  rw [← H.out.1, ← H.out.2]
  exact ⟨rfl, rfl⟩
theorem maw_any (x y a b : Nat) (w : World) (x1 : x < 18446744073709551616) (y1 : y < 18446744073709551616) (a1 : a < 18446744073709551616) (b1 : b < 18446744073709551616) :
    Calls Tryd.prog 60 #[.int .u64 x, .int .u64 y, .int .u64 a, .int .u64 b] w fun e w' => e = .returned (.tuple #[.int .u64 (((x * y + a + b) / 18446744073709551616 : Nat) : Int), .int .u64 (((x * y + a + b) % 18446744073709551616 : Nat) : Int)]) ∧ w = w' := by
  refine (maw_int x y a b w (by omega) (by omega) (by omega) (by omega) (by omega) (by omega) (by omega) (by omega)).mono ?_
  rintro e w' ⟨rfl, rfl⟩
  refine ⟨?_, rfl⟩
  have e1 : ((x : Int) * y + a + b) = ((x * y + a + b : Nat) : Int) := by push_cast; rfl
  rw [e1]
  rfl
theorem guess_bits (t n : Nat) (ht : t < 1152921504606846976) (hn : n < 18446744073709551616) : bits .or .u64 ((t : Int) * 16) ((n : Int) / 1152921504606846976) = ((t * 16 + n / 1152921504606846976 : Nat) : Int) := by
  have e1 : (t : Int) * 16 = ((2 ^ 4 * t : Nat) : Int) := by omega
  have e2 : (n : Int) / 1152921504606846976 = ((n / 1152921504606846976 : Nat) : Int) := by omega
  rw [e1, e2, u64_or_nat _ _ (by omega) (by omega), ← Nat.two_pow_add_eq_or_of_lt (by omega)]
  omega
set_option maxHeartbeats 400000 in
theorem sguess_any (t n : Nat) (w : World) (ht : t < 18446744073709551616) (hn : n < 18446744073709551616) :
    Calls Tryd.prog 80 #[.int .u64 t, .int .u64 n] w fun e w' => e = .returned (.int .u64 (Sc.guessN t n : Int)) ∧ w = w' := by
  by_cases h : 0 < (t : Int) / 1152921504606846976
  · have e : Sc.guessN t n = 18446744073709551615 := by unfold Sc.guessN; rw [if_pos (by omega)]
    have E := Lib.hid e; clear e
    go_enter Tryd.func80, Tryd.ntmps80
    go_wp2
    go_ret
    exact ⟨by rw [E.out]; rfl, rfl⟩
  · have e : Sc.guessN t n = t * 16 + n / 1152921504606846976 := by unfold Sc.guessN; rw [if_neg (by omega)]
    have H := Lib.hid (guess_bits t n (by omega) hn)
    have E := Lib.hid e; clear e
    go_enter Tryd.func80, Tryd.ntmps80
    go_wp2
    go_ret
    exact ⟨by rw [E.out, ← H.out]; rfl, rfl⟩
end Go.Proofs.YtleegbaigedebaaDoor

/- scalar: takeOff, putBack: orders are taken from the rest, one is put back. -/
namespace Go.Proofs.YtleegbaigedebaaDoor
open Go.RowKit

def u64N (n : Nat) : Value := .int .u64 (n : Int)
def wV (n j : Nat) : Value := u64N (Sc.wrd n j)
structure OTab (w : World) : Prop where
  lt : 4 < w.heap.size
  cel : ∀ i, i < 4 → w.cell? ⟨4, i, none⟩ = some (u64N (Sc.lw i))
theorem OTab.kept {w w' : World} (h : OTab w) {row : Option Nat} (hg : w.grownBy w' row) (hr : ∀ r, row = some r → 4 < r) : OTab w' :=
  ⟨Nat.lt_of_lt_of_le h.lt hg.size, fun i hi => by rw [gb_cell hg (p := ⟨4, i, none⟩) h.lt (fun e => by have := hr _ e.symm; simp at this)]; exact h.cel i hi⟩
def recL (X : List Value) (n : Nat) : List Value := X ++ [wV n 0, wV n 1, wV n 2, wV n 3]
def mixL (X : List Value) (f g : Nat → Nat) (k : Nat) : List Value := X ++ (List.range 4).map fun j => u64N (if j < k then f j else g j)
theorem mixL_set (X : List Value) (hX : X.length = 8) (f g : Nat → Nat) (k : Nat) (hk : k < 4) : (mixL X f g k).set (8 + k) (u64N (f k)) = mixL X f g (k + 1) := by
  unfold mixL
  rw [List.set_append_right _ _ (by omega), show 8 + k - X.length = k by omega]
  congr 1
  apply List.ext_getElem?
  intro i
  rw [List.getElem?_set, List.length_map, List.length_range]
  by_cases hi : i < 4
  · rw [List.getElem?_map, List.getElem?_map, List.getElem?_range hi]
    by_cases h : k = i
    · subst h; simp [hk]
    · simp [h, show i < k + 1 ↔ i < k by omega]
  · rw [if_neg (by omega), List.getElem?_eq_none (by simp; omega), List.getElem?_eq_none (by simp; omega)]
theorem mixL_get (X : List Value) (hX : X.length = 8) (f g : Nat → Nat) (k : Nat) (hk : k < 4) : (mixL X f g k)[8 + k]? = some (u64N (g k)) := by
  unfold mixL
  rw [List.getElem?_append_right (by omega), show 8 + k - X.length = k by omega, List.getElem?_map, List.getElem?_range hk]
  simp
theorem mixL_start (X : List Value) (f : Nat → Nat) (n : Nat) : mixL X f (Sc.wrd n) 0 = recL X n := by
  simp [mixL, recL, List.range, List.range.loop, wV]
theorem mixL_end (X : List Value) (f g : Nat → Nat) (n : Nat) (h0 : Sc.wrd n 0 = f 0) (h1 : Sc.wrd n 1 = f 1) (h2 : Sc.wrd n 2 = f 2) (h3 : Sc.wrd n 3 = f 3) : mixL X f g 4 = recL X n := by
  simp [mixL, recL, List.range, List.range.loop, wV, h0, h1, h2, h3]
theorem off_end (X : List Value) (n q : Nat) : mixL X (Sc.rs n q) (Sc.wrd n) 4 = recL X (Sc.offN n q) := by
  obtain ⟨h0, h1, h2, h3, _⟩ := Sc.off_words n q
  exact mixL_end X _ _ _ h0 h1 h2 h3
theorem back_end (X : List Value) (n : Nat) : mixL X (Sc.ps n) (Sc.wrd n) 4 = recL X (Sc.backN n) := by
  obtain ⟨h0, h1, h2, h3, _⟩ := Sc.back_words n
  exact mixL_end X _ _ _ h0 h1 h2 h3
theorem sub_step (n q k : Nat) : (Sc.wrd n k + 18446744073709551616 - Sc.lo q k - Sc.bl n q k) % 18446744073709551616 = Sc.rs n q k ∧ (if Sc.wrd n k < Sc.lo q k + Sc.bl n q k then 1 else 0) = Sc.bl n q (k + 1) := by
  have h1 := Sc.wrd_lt n k
  have h2 := Sc.lo_lt q k
  have h3 := Sc.bl_le n q k
  refine ⟨?_, rfl⟩
  unfold Sc.rs
  omega

theorem order_index (k : Nat) (hk : k < 4) : ∀ w, (Instr.index 68 (.agg #[.int .u64 6346243789798364141, .int .u64 1503914060200516822, .int .u64 0, .int .u64 1152921504606846976]) (.int .i64 k)).run Tryd.prog w = .ok (.int .u64 (Sc.lw k : Int)) w := by
  intro w
  obtain rfl | rfl | rfl | rfl : k = 0 ∨ k = 1 ∨ k = 2 ∨ k = 3 := by omega
  all_goals kernel_rfl
theorem offO_bd (n q : Nat) (hn : n < 2 ^ 256) (hq : q < 18446744073709551616) : (Sc.ov q 4 : Int) + (Sc.bl n q 4 : Int) ≤ 18446744073709551615 := by
  have h := Sc.off_eq n q hn
  have h2 := (Sc.off_words n q).2.2.2.2
  have e : (2 : Nat) ^ 256 = 115792089237316195423570985008687907853269984665640564039457584007913129639936 := by decide
  rw [e] at h2
  have hE : Sc.offO n q = Sc.ov q 4 + Sc.bl n q 4 := rfl
  rw [hE] at h
  unfold Sc.L at h
  generalize Sc.ov q 4 = o4 at *
  generalize Sc.bl n q 4 = b4 at *
  generalize Sc.offN n q = r at *
  clear e hn hE
  omega
set_option maxHeartbeats 1600000 in
theorem takeOff_any (R n q : Nat) (T : TypeId) (X : List Value) (w : World) (hX : X.length = 8) (hn : n < 2 ^ 256) (hq : q < 18446744073709551616) (hT : OTab w) (hb : Blk w R T (recL X n)) :
    Calls Tryd.prog 79 #[.pointer (some ⟨R, 0, none⟩), .int .u64 q] w fun e w' => e = .returned (.int .u64 (Sc.offO n q : Int)) ∧ w.grownBy w' (some R) ∧ Blk w' R T (recL X (Sc.offN n q)) := by
  have t0 := hT.cel 0 (by decide)
  have t1 := hT.cel 1 (by decide)
  have t2 := hT.cel 2 (by decide)
  have t3 := hT.cel 3 (by decide)
  have HT := Lib.hid hT; clear hT
  have HX := Lib.hid hX; clear hX
  rw [← mixL_start X (Sc.rs n q) n] at hb
  have HB := Lib.hid hb; clear hb
  unfold u64N at t0 t1 t2 t3
  simp only [Sc.lw] at t0 t1 t2 t3
  go_enter Tryd.func79, Tryd.ntmps79
  go_wp2
  go_loopw [5, 6, 11] (fun o b i wr => ∃ k : Nat, k ≤ 4 ∧ i = .int .i64 k ∧ o = .int .u64 (Sc.ov q k : Int) ∧ b = .int .u64 (Sc.bl n q k : Int) ∧ w.grownBy wr (some R) ∧ Blk wr R T (mixL X (Sc.rs n q) (Sc.wrd n) k)) (fun _ _ i _ => 4 - (intOf i).toNat)
  case atStart => exact ⟨0, by omega, rfl, rfl, rfl, gb_refl _ _, HB.out⟩
  case round =>
    obtain ⟨k, hk, rfl, rfl, rfl, hg, hb⟩ := hrel
    by_cases hlt : k < 4
    · have hs := sub_step n q k
      have hset := mixL_set X HX.out (Sc.rs n q) (Sc.wrd n) k hlt
      have c0 := hb.cell (mixL_get X HX.out (Sc.rs n q) (Sc.wrd n) k hlt)
      have f0 := hb.free (8 + k)
      have hi := order_index k hlt
      have b1 := Sc.bl_le n q k
      have l1 := Sc.lw_lt k
      have o1 := Sc.ov_lt q k hq
      have hm := maw_any q (Sc.lw k) (Sc.ov q k) 0
      have he : (q * Sc.lw k + Sc.ov q k + 0) / 18446744073709551616 = Sc.ov q (k + 1) := rfl
      have hl : (q * Sc.lw k + Sc.ov q k + 0) % 18446744073709551616 = Sc.lo q k := rfl
      rw [he, hl] at hm
      clear he hl
      have HM := Lib.hid (fun W => hm W hq l1 o1 (by decide)); clear hm
      have hsub := sub64c (Sc.wrd n k) (Sc.lo q k) (Sc.bl n q k) b1
      rw [hs.1, hs.2] at hsub
      have HS := Lib.hid hset; clear hset hs l1 o1 b1
      have HB1 := Lib.hid hb; clear hb
      have HG := Lib.hid hg; clear hg
      unfold u64N at c0
      generalize Sc.lw k = lk at *
      go_wp2_with (go_at_call 60; refine (HM.out _).mono ?_; rintro e w' ⟨rfl, rfl⟩)
      go_region_with (simp only [hsub])
      all_goals go_wp2
      go_roundw
      case rel =>
        exact ⟨k + 1, by omega, by go_num, rfl, rfl, gb_drew (gb_set HG.out _ _), by
          have h := HB1.out.set (8 + k) (u64N (Sc.rs n q k))
          rw [HS.out] at h
          exact h.drew⟩
      case measure => simp [intOf]; omega
    · obtain rfl : k = 4 := by omega
      have hO := offO_bd n q hn hq
      rw [off_end] at hb
      have HB1 := Lib.hid hb; clear hb
      have HG := Lib.hid hg; clear hg
      have hE : Hid (Sc.offO n q = Sc.ov q 4 + Sc.bl n q 4) := rfl
      generalize Sc.ov q 4 = o4 at *
      generalize Sc.bl n q 4 = b4 at *
      go_wp2
      go_ret
      exact ⟨by rw [hE.out]; simp, HG.out, HB1.out⟩
theorem back_step (n k : Nat) : ((Sc.wrd n k : Int) + (Sc.lw k : Int) + (Sc.ca n k : Int)) % 18446744073709551616 = (Sc.ps n k : Int) ∧ ((Sc.wrd n k : Int) + (Sc.lw k : Int) + (Sc.ca n k : Int)) / 18446744073709551616 = (Sc.ca n (k + 1) : Int) := by
  have e : Sc.ca n (k + 1) = (Sc.wrd n k + Sc.lw k + Sc.ca n k) / 18446744073709551616 := rfl
  rw [e]
  unfold Sc.ps
  omega
set_option maxHeartbeats 1600000 in
theorem putBack_any (R n : Nat) (T : TypeId) (X : List Value) (w : World) (hX : X.length = 8) (hT : OTab w) (hb : Blk w R T (recL X n)) :
    Calls Tryd.prog 81 #[.pointer (some ⟨R, 0, none⟩)] w fun e w' => e = .returned (.tuple #[]) ∧ w.grownBy w' (some R) ∧ Blk w' R T (recL X (Sc.backN n)) := by
  have t0 := hT.cel 0 (by decide)
  have t1 := hT.cel 1 (by decide)
  have t2 := hT.cel 2 (by decide)
  have t3 := hT.cel 3 (by decide)
  have HT := Lib.hid hT; clear hT
  have HX := Lib.hid hX; clear hX
  rw [← mixL_start X (Sc.ps n) n] at hb
  have HB := Lib.hid hb; clear hb
  unfold u64N at t0 t1 t2 t3
  simp only [Sc.lw] at t0 t1 t2 t3
  go_enter Tryd.func81, Tryd.ntmps81
  go_wp2
  go_loopw [2, 6] (fun o i wr => ∃ k : Nat, k ≤ 4 ∧ i = .int .i64 k ∧ o = .int .u64 (Sc.ca n k : Int) ∧ w.grownBy wr (some R) ∧ Blk wr R T (mixL X (Sc.ps n) (Sc.wrd n) k)) (fun _ i _ => 4 - (intOf i).toNat)
  case atStart => exact ⟨0, by omega, rfl, rfl, gb_refl _ _, HB.out⟩
  case round =>
    obtain ⟨k, hk, rfl, rfl, hg, hb⟩ := hrel
    by_cases hlt : k < 4
    · have hs := back_step n k
      have hset := mixL_set X HX.out (Sc.ps n) (Sc.wrd n) k hlt
      have c0 := hb.cell (mixL_get X HX.out (Sc.ps n) (Sc.wrd n) k hlt)
      have f0 := hb.free (8 + k)
      have hi := order_index k hlt
      have b1 := Sc.ca_le n k
      have hsub := add64c (Sc.wrd n k) (Sc.lw k) (Sc.ca n k) (by omega) (by omega) (by omega) (by omega)
      rw [hs.1, hs.2] at hsub
      have HS := Lib.hid hset; clear hset hs b1
      have HB1 := Lib.hid hb; clear hb
      have HG := Lib.hid hg; clear hg
      unfold u64N at c0
      generalize Sc.lw k = lk at *
      go_wp2
      go_region_with (simp only [hsub])
      all_goals go_wp2
      go_roundw
      case rel =>
        exact ⟨k + 1, by omega, by go_num, rfl, gb_drew (gb_set HG.out _ _), by
          have h := HB1.out.set (8 + k) (u64N (Sc.ps n k))
          rw [HS.out] at h
          exact h.drew⟩
      case measure => simp [intOf]; omega
    · obtain rfl : k = 4 := by omega
      rw [back_end] at hb
      have HB1 := Lib.hid hb; clear hb
      have HG := Lib.hid hg; clear hg
      go_wp2
      go_end0
      exact ⟨rfl, HG.out, HB1.out⟩
end Go.Proofs.YtleegbaigedebaaDoor

/- scalar: bringDown: a word is put below the rest, and orders are taken off. -/
namespace Go.Proofs.YtleegbaigedebaaDoor
open Go.RowKit

theorem recL_get (X : List Value) (hX : X.length = 8) (n : Nat) : (recL X n)[8]? = some (wV n 0) ∧ (recL X n)[9]? = some (wV n 1) ∧ (recL X n)[10]? = some (wV n 2) ∧ (recL X n)[11]? = some (wV n 3) := by
  unfold recL
  refine ⟨?_, ?_, ?_, ?_⟩ <;> (rw [List.getElem?_append_right (by omega), hX]; rfl)
theorem down_set (X : List Value) (hX : X.length = 8) (n x : Nat) (hx : x < 18446744073709551616) :
    ((((recL X n).set 8 (u64N x)).set 9 (wV n 0)).set 10 (wV n 1)).set 11 (wV n 2) = recL X (Sc.down n x) := by
  obtain ⟨h0, h1, h2, h3, _⟩ := Sc.down_words n x hx
  unfold recL wV
  rw [h0, h1, h2, h3]
  rw [List.set_append_right _ _ (by omega), List.set_append_right _ _ (by omega), List.set_append_right _ _ (by omega), List.set_append_right _ _ (by omega), hX]
  rfl
set_option maxHeartbeats 1600000 in
theorem bringDown_any (R n x : Nat) (T : TypeId) (X : List Value) (w : World) (hX : X.length = 8) (hx : x < 18446744073709551616) (hT : OTab w) (hR : 4 < R) (hb : Blk w R T (recL X n)) :
    Calls Tryd.prog 63 #[.pointer (some ⟨R, 0, none⟩), .int .u64 x] w fun e w' => e = .returned (.tuple #[]) ∧ w.grownBy w' (some R) ∧ Blk w' R T (recL X (Sc.restN n x)) := by
  obtain ⟨g0, g1, g2, g3⟩ := recL_get X hX n
  have c0 := hb.cell g0
  have c1 := hb.cell g1
  have c2 := hb.cell g2
  have c3 := hb.cell g3
  have f0 := hb.free 8
  have f1 := hb.free 9
  have f2 := hb.free 10
  have f3 := hb.free 11
  clear g0 g1 g2 g3
  have HS := Lib.hid (down_set X hX n x hx)
  have HX := Lib.hid hX; clear hX
  have HT := Lib.hid hT; clear hT
  have HB := Lib.hid hb; clear hb
  unfold wV u64N at c0 c1 c2 c3
  go_enter Tryd.func63, Tryd.ntmps63
  go_wp2
  go_region
  all_goals go_wp2_with fail
  have hb1 := (((((HB.out.set 8 (u64N x)).set 9 (wV n 0)).set 10 (wV n 1)).set 11 (wV n 2))).drew
  have hg1 := gb_drew (gb_set (gb_set (gb_set (gb_set (gb_refl w (some R)) 8 (u64N x)) 9 (wV n 0)) 10 (wV n 1)) 11 (wV n 2))
  rw [HS.out] at hb1
  unfold wV u64N at hb1 hg1
  revert hb1 hg1
  generalize ((((w.setCell ⟨R, 8, none⟩ (Value.int IntKind.u64 (x : Int))).setCell ⟨R, 9, none⟩ (Value.int IntKind.u64 (Sc.wrd n 0 : Int))).setCell ⟨R, 10, none⟩ (Value.int IntKind.u64 (Sc.wrd n 1 : Int))).setCell ⟨R, 11, none⟩ (Value.int IntKind.u64 (Sc.wrd n 2 : Int))).drew = w1
  intro hb1 hg1
  have HB1 := Lib.hid hb1; clear hb1 HB
  have HG1 := Lib.hid hg1; clear hg1
  clear c0 c1 c2 c3 f0 f1 f2 f3
  refine (sguess_any (Sc.wrd n 3) (Sc.wrd n 2) w1 (Sc.wrd_lt n 3) (Sc.wrd_lt n 2)).mono ?_
  rintro e w' ⟨rfl, rfl⟩
  have hgl := Sc.guess_lt (Sc.wrd n 3) (Sc.wrd n 2) (Sc.wrd_lt n 2)
  have hT1 := HT.out.kept HG1.out (fun r e => by cases e; exact hR)
  have ht := takeOff_any R (Sc.down n x) (Sc.guessN (Sc.wrd n 3) (Sc.wrd n 2)) T X w1 HX.out (Sc.down_words n x hx).2.2.2.2 hgl hT1 HB1.out
  have hr : Hid (Sc.restN n x = if Sc.wrd n 3 < Sc.offO (Sc.down n x) (Sc.guessN (Sc.wrd n 3) (Sc.wrd n 2)) then Sc.backN (Sc.offN (Sc.down n x) (Sc.guessN (Sc.wrd n 3) (Sc.wrd n 2))) else Sc.offN (Sc.down n x) (Sc.guessN (Sc.wrd n 3) (Sc.wrd n 2))) := rfl
  clear hgl hT1
  generalize Sc.guessN (Sc.wrd n 3) (Sc.wrd n 2) = q at *
  generalize Sc.offO (Sc.down n x) q = o at *
  generalize Sc.offN (Sc.down n x) q = m at *
  generalize Sc.wrd n 3 = top at *
  have HTO := Lib.hid ht; clear ht
  by_cases hlt : top < o
  · have hlt' : decide ((top : Int) < (o : Int)) = true := by simpa using hlt
    go_wp2_with fail
    refine HTO.out.mono ?_
    rintro e w2 ⟨rfl, hg2, hb2⟩
    have HG2 := Lib.hid (gb_trans HG1.out hg2); clear hg2
    have HB2 := Lib.hid hb2; clear hb2
    go_wp2_with fail
    refine (putBack_any R m T X w2 HX.out (HT.out.kept HG2.out (fun r e => by cases e; exact hR)) HB2.out).mono ?_
    rintro e w3 ⟨rfl, hg3, hb3⟩
    have HG3 := Lib.hid (gb_trans HG2.out hg3); clear hg3
    have HB3 := Lib.hid hb3; clear hb3
    go_wp2
    go_end0
    exact ⟨rfl, HG3.out, by rw [hr.out, if_pos hlt]; exact HB3.out⟩
  · have hlt' : decide ((top : Int) < (o : Int)) = false := by simpa using hlt
    go_wp2_with fail
    refine HTO.out.mono ?_
    rintro e w2 ⟨rfl, hg2, hb2⟩
    have HG2 := Lib.hid (gb_trans HG1.out hg2); clear hg2
    have HB2 := Lib.hid hb2; clear hb2
    go_wp2
    go_end0
    exact ⟨rfl, HG2.out, by rw [hr.out, if_neg hlt]; exact HB2.out⟩
end Go.Proofs.YtleegbaigedebaaDoor

/- scalar: fill, narrowOf, load, bytes. -/
namespace Go.Proofs.YtleegbaigedebaaDoor
open Go.RowKit Ow

theorem some_ne' {a b : Nat} (h : a ≠ b) : some a ≠ some b := fun e => h (Option.some.inj e)
def wds (n m : Nat) : List Value := (List.range m).map (wV n)
theorem wds_get (n m j : Nat) (h : j < m) (tl : List Value) : (wds n m ++ tl)[j]? = some (wV n j) := by
  unfold wds
  rw [List.getElem?_append_left (by simpa using h), List.getElem?_map, List.getElem?_range h]; rfl
theorem wds_set (n n' m j : Nat) (h : j < m) (tl : List Value) (v : Nat) (hj : Sc.wrd n' j = v) (ho : ∀ i, i ≠ j → Sc.wrd n' i = Sc.wrd n i) : (wds n m ++ tl).set j (u64N v) = wds n' m ++ tl := by
  unfold wds
  rw [List.set_append_left _ _ (by simpa using h)]
  congr 1
  apply List.ext_getElem?
  intro i
  rw [List.getElem?_set, List.length_map, List.length_range]
  by_cases hi : i < m
  · rw [List.getElem?_map, List.getElem?_map, List.getElem?_range hi]
    by_cases e : j = i
    · subst e; simp [hi, wV, hj]
    · simp [e, wV, ho i (fun h => e h.symm)]
  · rw [if_neg (by omega), List.getElem?_eq_none (by simp; omega), List.getElem?_eq_none (by simp; omega)]
theorem fill_bits (o x r : Nat) (hx : x < 256) (hr : r < 8) (ho : o < 2 ^ (8 * r)) : bits .or .u64 (o : Int) (IntKind.u64.wrap ((x : Int) * 2 ^ (8 * r))) = ((o + x * 2 ^ (8 * r) : Nat) : Int) := by
  have hb : (2 : Nat) ^ (8 * r) * 256 ≤ 18446744073709551616 := by
    have : (2 : Nat) ^ (8 * r) * 256 = 2 ^ (8 * r + 8) := by rw [Nat.pow_add]
    rw [this, show (18446744073709551616 : Nat) = 2 ^ 64 by rfl]
    exact Nat.pow_le_pow_right (by decide) (by omega)
  have h1 : x * 2 ^ (8 * r) + 2 ^ (8 * r) ≤ 2 ^ (8 * r) * 256 := by
    have := Nat.mul_le_mul_right (2 ^ (8 * r)) (show x + 1 ≤ 256 by omega)
    rw [Nat.add_mul, Nat.one_mul, Nat.mul_comm 256] at this; exact this
  have e1 : (x : Int) * 2 ^ (8 * r) = ((2 ^ (8 * r) * x : Nat) : Int) := by rw [Int.natCast_mul, Int.natCast_pow, Int.mul_comm]; rfl
  rw [Nat.mul_comm] at h1
  have e2 : IntKind.u64.wrap ((x : Int) * 2 ^ (8 * r)) = ((2 ^ (8 * r) * x : Nat) : Int) := by
    rw [e1, IntKind.wrap_u64]
    generalize 2 ^ (8 * r) * x = y at *
    generalize 2 ^ (8 * r) = z at *
    omega
  rw [e2, u64_or_nat _ _ (by omega) (by omega), Nat.or_comm, ← Nat.two_pow_add_eq_or_of_lt ho, Nat.mul_comm x, Nat.add_comm]
set_option maxHeartbeats 1600000 in
theorem fill_some (WB m len cap pb po : Nat) (T : TypeId) (tl : List Value) (f : Nat → Nat) (w : World) (hf : ∀ i, f i < 256) (hm : len ≤ 8 * m) (hm2 : m ≤ 8) (hne : pb ≠ WB) (hlt : pb < w.heap.size) (hlc : len ≤ cap)
    (hc : ∀ i, i < len → w.cell? ⟨pb, po + i, none⟩ = some (.int .u8 (f i))) (hb : Blk w WB T (wds 0 m ++ tl)) :
    Calls Tryd.prog 61 #[.slice (some ⟨WB, 0, none⟩) m m, .slice (some ⟨pb, po, none⟩) len cap] w fun e w' => e = .returned (.tuple #[]) ∧ w.grownBy w' (some WB) ∧ Blk w' WB T (wds (Sc.leN f len) m ++ tl) := by
  have HC := Lib.hid hc; clear hc
  have HF := Lib.hid hf; clear hf
  have HB := Lib.hid hb; clear hb
  go_enter Tryd.func61, Tryd.ntmps61
  go_wp2
  go_loopw [8] (fun i wr => ∃ k : Nat, k ≤ len ∧ i = .int .i64 k ∧ w.grownBy wr (some WB) ∧ Blk wr WB T (wds (Sc.leN f k) m ++ tl)) (fun i _ => len - (intOf i).toNat)
  case atStart => exact ⟨0, by omega, rfl, gb_refl _ _, HB.out⟩
  case round =>
    obtain ⟨k, hk, rfl, hg, hb⟩ := hrel
    by_cases hkl : k < len
    · obtain ⟨d, hd⟩ : ∃ d, d = k / 8 := ⟨_, rfl⟩
      obtain ⟨r, hr⟩ : ∃ r, r = k % 8 := ⟨_, rfl⟩
      have hd2 : (k : Int) / 8 = (d : Int) := by omega
      have hr2 : (k : Int) % 8 = (r : Int) := by omega
      have dm : d < m := by omega
      have r8 : r < 8 := by omega
      have hs := Sc.fill_same f HF.out k
      rw [← hd, ← hr] at hs
      have hso := Sc.fill_other f HF.out k
      rw [← hd] at hso
      have hv := fill_bits (Sc.wrd (Sc.leN f k) d) (f k) r (HF.out k) r8 hs.2
      have hset := wds_set (Sc.leN f k) (Sc.leN f (k + 1)) m d dm tl _ hs.1 hso
      have HS := Lib.hid (And.intro hv hset); clear hv hset hs hso hd hr
      have c0 := hb.cell (wds_get (Sc.leN f k) m d dm tl)
      have f0 := hb.free d
      have c1 : wr.cell? ⟨pb, po + k, none⟩ = some (.int .u8 (f k)) := by rw [gb_cell hg (p := ⟨pb, po + k, none⟩) hlt (some_ne' hne)]; exact HC.out k hkl
      have fk := HF.out k
      have HB1 := Lib.hid hb; clear hb
      have HG := Lib.hid hg; clear hg
      unfold wV u64N at c0
      go_wp2
      go_region
      all_goals go_wp2
      go_roundw
      case rel =>
        refine ⟨k + 1, by omega, by go_num, gb_drew (gb_set HG.out _ _), ?_⟩
        have h := HB1.out.set d (u64N (Sc.wrd (Sc.leN f k) d + f k * 2 ^ (8 * r)))
        rw [HS.out.2] at h
        unfold u64N at h
        rw [← HS.out.1] at h
        exact h.drew
      case measure => simp [intOf]; omega
    · obtain rfl : k = len := by omega
      have HB1 := Lib.hid hb; clear hb
      have HG := Lib.hid hg; clear hg
      go_wp2
      go_end0
      exact ⟨rfl, HG.out, HB1.out⟩
theorem fill_none (WB m cap : Nat) (a : Option Addr) (w : World) :
    Calls Tryd.prog 61 #[.slice (some ⟨WB, 0, none⟩) m m, .slice a 0 cap] w fun e w' => e = .returned (.tuple #[]) ∧ w' = w := by
  go_enter Tryd.func61, Tryd.ntmps61
  go_wp2
  go_loopw [8] (fun i wr => i = .int .i64 0 ∧ wr = w) (fun _ _ => 0)
  case atStart => exact ⟨rfl, rfl⟩
  case round =>
    obtain ⟨rfl, rfl⟩ := hrel
    go_wp2
    go_end0
    exact ⟨rfl, rfl⟩
def num (l : List Nat) : Nat := Sc.leN (fun i => l.getD i 0) l.length
theorem fill_any (WB m len cap B : Nat) (T : TypeId) (tl : List Value) (a : Option Addr) (l : List Nat) (w : World) (hl : l.length = len) (hm : len ≤ 8 * m) (hm2 : m ≤ 8) (hP : BytesAt w B a cap l) (hB : B ≤ WB) (hb : Blk w WB T (wds 0 m ++ tl)) :
    Calls Tryd.prog 61 #[.slice (some ⟨WB, 0, none⟩) m m, .slice a len cap] w fun e w' => e = .returned (.tuple #[]) ∧ w.grownBy w' (some WB) ∧ Blk w' WB T (wds (num l) m ++ tl) := by
  subst hl
  rcases hP.cells with h0 | ⟨pb, po, rfl, hlt, hc⟩
  · have hz : num l = 0 := by unfold num; rw [h0]; rfl
    rw [h0, hz]
    refine (fill_none WB m cap a w).mono ?_
    rintro e w' ⟨rfl, rfl⟩
    exact ⟨rfl, gb_refl _ _, hb⟩
  · exact fill_some WB m l.length cap pb po T tl _ w hP.byte hm hm2 (by omega) (Nat.lt_of_lt_of_le hlt hP.lim) hP.fits hc hb
theorem wds4 (n : Nat) : wds n 4 = [wV n 0, wV n 1, wV n 2, wV n 3] := rfl
theorem wds8 (n : Nat) : wds n 8 = [wV n 0, wV n 1, wV n 2, wV n 3, wV n 4, wV n 5, wV n 6, wV n 7] := rfl
theorem wV0 (j : Nat) : wV 0 j = .int .u64 0 := by unfold wV Sc.wrd u64N; simp
def narrowV (n : Nat) : Value := .agg #[wV n 0, wV n 1, wV n 2, wV n 3]
set_option maxHeartbeats 1600000 in
theorem narrowOf_any (len cap B : Nat) (a : Option Addr) (l : List Nat) (w : World) (hl : l.length = len) (hm : len ≤ 32) (hP : BytesAt w B a cap l) :
    Calls Tryd.prog 45 #[.slice a len cap] w fun e w' => e = .returned (narrowV (num l)) ∧ w.grownBy w' none := by
  have HP := Lib.hid hP; clear hP
  have hlen := Lib.hid hl; clear hl
  go_enter Tryd.func45, Tryd.ntmps45
  go_wp2_with fail
  have hb : Blk ((w.alloc (.cells #[.int .u64 0, .int .u64 0, .int .u64 0, .int .u64 0] 68)).alloc (.cells #[.int .u64 0, .int .u64 0, .int .u64 0, .int .u64 0] 68)) (w.heap.size + 1) 68 (wds 0 4 ++ []) := by
    rw [wds4, wV0, wV0, wV0, wV0]
    exact blk_at (w.alloc _) [.int .u64 0, .int .u64 0, .int .u64 0, .int .u64 0] _ (by simp)
  have hr : Blk ((w.alloc (.cells #[.int .u64 0, .int .u64 0, .int .u64 0, .int .u64 0] 68)).alloc (.cells #[.int .u64 0, .int .u64 0, .int .u64 0, .int .u64 0] 68)) w.heap.size 68 [.int .u64 0, .int .u64 0, .int .u64 0, .int .u64 0] := (Blk.new w [.int .u64 0, .int .u64 0, .int .u64 0, .int .u64 0] _).alloc _
  have hg := gb_alloc (gb_alloc (gb_refl w none) (.cells #[.int .u64 0, .int .u64 0, .int .u64 0, .int .u64 0] 68)) (.cells #[.int .u64 0, .int .u64 0, .int .u64 0, .int .u64 0] 68)
  revert hb hr hg
  generalize (w.alloc (.cells #[.int .u64 0, .int .u64 0, .int .u64 0, .int .u64 0] 68)).alloc (.cells #[.int .u64 0, .int .u64 0, .int .u64 0, .int .u64 0] 68) = w1
  intro hb hr hg
  refine (fill_any (w.heap.size + 1) 4 len cap B _ [] a l w1 hlen.out hm (by omega) (HP.out.stay hg) (by have := HP.out.lim; omega) hb).mono ?_
  rintro e w2 ⟨rfl, hg2, hb2⟩
  have hg3 := gb_then hg hg2 (by omega)
  have hr2 := hr.grown hg2 (some_ne' (by omega))
  have HG := Lib.hid hg3; clear hg3 hg2 hg hr hb
  rw [wds4] at hb2
  have c0 := hb2.cell (i := 0) rfl
  have c1 := hb2.cell (i := 1) rfl
  have c2 := hb2.cell (i := 2) rfl
  have c3 := hb2.cell (i := 3) rfl
  have r0 := hr2.cell (i := 0) rfl
  have r1 := hr2.cell (i := 1) rfl
  have r2 := hr2.cell (i := 2) rfl
  have r3 := hr2.cell (i := 3) rfl
  have f0 := hr2.free 0
  have f1 := hr2.free 1
  have f2 := hr2.free 2
  have f3 := hr2.free 3
  clear hr2 hb2
  unfold wV u64N at c0 c1 c2 c3
  go_wp2
  refine bodyPost_ret (v := narrowV (num l)) ?_ rfl ⟨rfl, ?_⟩
  · simp [results, Tryd.results45, go_sem, r0, r1, r2, r3, narrowV, wV, u64N]
  · exact gb_set_new (gb_set_new (gb_set_new (gb_set_new HG.out (Nat.le_refl _) _) (Nat.le_refl _) _) (Nat.le_refl _) _) (Nat.le_refl _) _
end Go.Proofs.YtleegbaigedebaaDoor

/- scalar: modulo: a number's words are brought down one by one, from the highest on (slices.Backward). -/
namespace Go.Proofs.YtleegbaigedebaaDoor
open Go.RowKit Ow Go.Shelf
attribute [local go_sem] Oper.semAt_some

abbrev PW := { x : Nat × Nat // x.2 < 18446744073709551616 }
def pwE (x : PW) : Array Value := #[.int .i64 (x.1.1 : Int), .int .u64 (x.1.2 : Int)]
def downTo (N k : Nat) : List PW := (List.range k).map fun p => ⟨(7 - p, Sc.wrd N (7 - p)), Sc.wrd_lt _ _⟩
theorem downTo_succ (N k : Nat) : downTo N (k + 1) = downTo N k ++ [⟨(7 - k, Sc.wrd N (7 - k)), Sc.wrd_lt _ _⟩] := by simp [downTo, List.range_succ]
theorem downTo_length (N k : Nat) : (downTo N k).length = k := by simp [downTo]
def KeepsR (R Bs : Nat) (W W' : World) : Prop := (∀ j, j < 8 → W'.cell? ⟨R, j, none⟩ = W.cell? ⟨R, j, none⟩) ∧ W'.cell? ⟨Bs, 0, none⟩ = W.cell? ⟨Bs, 0, none⟩
theorem keepsR_t {R Bs : Nat} {A B C : World} (h : KeepsR R Bs A B) (k : KeepsR R Bs B C) : KeepsR R Bs A C := ⟨fun j hj => (k.1 j hj).trans (h.1 j hj), k.2.trans h.2⟩
theorem keepsR_b {R Bs n : Nat} (hR : R < n) (hB : Bs < n) (W : World) (l : Nat) (o o' : Obj) (hl : n ≤ l) (h : W.heap[l]? = some o) : KeepsR R Bs W (W.putObj l o') := by
  have hlt : l < W.heap.size := (Array.getElem?_eq_some_iff.1 h).1
  exact ⟨fun j _ => gb_cell (grownBy_putObj' W l o') (p := ⟨R, j, none⟩) (show R < _ by omega) (some_ne' (by show R ≠ l; omega)), gb_cell (grownBy_putObj' W l o') (p := ⟨Bs, 0, none⟩) (show Bs < _ by omega) (some_ne' (by show Bs ≠ l; omega))⟩
set_option maxHeartbeats 1000000 in
theorem backward_in (F : Fence) (n : Nat) (hf : F.fn 62) (hro : F.round = none) (a : Option Addr) (len cap : Nat) (w : World) :
    CallsIn F n Tryd.prog 62 #[.slice a len cap] w fun e w' => e = .returned (.func (.func 78) #[] #[.pointer (some ⟨w.heap.size, 0, none⟩)]) ∧ w' = w.alloc (.cells #[.slice a len cap] 98) := by
  refine callsIn_of_wp Tryd.func62 rfl hf ?_ hro
  simp only [Tryd.ntmps62, List.size_toArray, List.length_cons, List.length_nil, Nat.reduceAdd, Nat.reduceSub, Array.replicate_succ, Array.replicate_zero, List.push_toArray, List.append_toArray, List.nil_append, List.cons_append]
  gi_wp2
  go_ret
  exact ⟨rfl, rfl⟩
set_option maxRecDepth 100000 in
set_option maxHeartbeats 2000000 in
theorem backward1_in (F : Fence) (n : Nat) (hf : F.fn 78) (hro : F.round = none) (hn : 1 ≤ n) (l Bs R N : Nat) (J Jx : List PW → World → Prop)
    (hY : ∀ pre x W, J pre W → pre.length < 8 → YieldAt F (n - 1) Tryd.prog l (pwE x) W fun e W' =>
      (e = .returned (.bool true) ∧ J (pre ++ [x]) W' ∧ KeepsR R Bs W W') ∨ (e = .returned (.bool false) ∧ Jx (pre ++ [x]) W'))
    (W : World) (hBs : W.cell? ⟨Bs, 0, none⟩ = some (.slice (some ⟨R, 0, none⟩) 8 8)) (hc : ∀ j, j < 8 → W.cell? ⟨R, j, none⟩ = some (.int .u64 (Sc.wrd N j : Int))) (h0 : J [] W) :
    CallsIn F n Tryd.prog 78 #[.func (.yield l) #[] #[], .pointer (some ⟨Bs, 0, none⟩)] W fun e W' => (∃ v, e = .returned v) ∧
      ((∃ ys, ys = downTo N 8 ∧ J ys W') ∨ (∃ pre, True ∧ Jx pre W')) := by
  refine callsIn_of_wp Tryd.func78 rfl hf ?_ hro
  simp only [Tryd.ntmps78, List.size_toArray, List.length_cons, List.length_nil, Nat.reduceAdd, Nat.reduceSub, Array.replicate_succ, Array.replicate_zero, List.push_toArray, List.append_toArray, List.nil_append, List.cons_append]
  gi_wp2
  gi_loopw [3] (fun i wr => ((∃ m : Nat, m < 8 ∧ i = .int .i64 m ∧ J (downTo N (7 - m)) wr) ∨ (i = .int .i64 (-1) ∧ J (downTo N 8) wr)) ∧ KeepsR R Bs W wr)
    (fun i _ => (intOf i + 1).toNat)
  case atStart => exact ⟨Or.inl ⟨7, by omega, rfl, h0⟩, ⟨fun _ _ => rfl, rfl⟩⟩
  case round =>
    obtain ⟨⟨m, hm, rfl, hJs⟩ | ⟨rfl, hJs⟩, hnx⟩ := hrel
    · have hb1 : wr.cell? ⟨Bs, 0, none⟩ = some (.slice (some ⟨R, 0, none⟩) 8 8) := hnx.2.trans hBs
      have hcx : wr.cell? ⟨R, m, none⟩ = some (.int .u64 (Sc.wrd N m : Int)) := (hnx.1 m hm).trans (hc m hm)
      obtain ⟨fn, tmps, assign, body, hy, hR⟩ := hY _ ⟨(m, Sc.wrd N m), Sc.wrd_lt _ _⟩ wr hJs (by rw [downTo_length]; omega)
      unfold pwE at hy
      dsimp only at hy
      gi_wp2
      refine hR.mono ?_
      rintro e W3 (⟨rfl, hJ3, hk3⟩ | ⟨rfl, hJx3⟩)
      · have hJ4 : J (downTo N (7 - m + 1)) W3 := by
          rw [downTo_succ]
          have e7 : 7 - (7 - m) = m := by omega
          simp only [e7]
          exact hJ3
        gi_wp2
        go_roundw
        case rel =>
          refine ⟨?_, keepsR_t hnx hk3⟩
          rcases Nat.eq_zero_or_pos m with h | h
          · subst h; exact Or.inr ⟨rfl, hJ4⟩
          · obtain ⟨d, rfl⟩ : ∃ d, m = d + 1 := ⟨m - 1, by omega⟩
            have e : 7 - (d + 1) + 1 = 7 - d := by omega
            rw [e] at hJ4
            exact Or.inl ⟨d, by omega, by go_num, hJ4⟩
        case measure => simp [intOf]
      · gi_wp2
        refine bodyPost_ret (results_none rfl _ _ _) rfl ?_
        exact ⟨⟨_, rfl⟩, .inr ⟨_, trivial, hJx3⟩⟩
    · gi_wp2
      go_end0
      exact ⟨⟨_, rfl⟩, .inl ⟨_, rfl, hJs⟩⟩
theorem backward_stops (F : Fence) (n : Nat) (hf : F.fn 78) (hro : F.round = none) (hn : 1 ≤ n) (Bs R N : Nat) (w : World) (hBs : Bs < w.heap.size) (hR : R < w.heap.size)
    (hb : w.cell? ⟨Bs, 0, none⟩ = some (.slice (some ⟨R, 0, none⟩) 8 8)) (hc : ∀ j, j < 8 → w.cell? ⟨R, j, none⟩ = some (.int .u64 (Sc.wrd N j : Int))) :
    SeqStopsK F n Tryd.prog 78 #[.pointer (some ⟨Bs, 0, none⟩)] pwE (KeepsR R Bs) (fun ys => ys = downTo N 8) (fun _ => True) 8 w := fun l J Jx W hW _ _ hY h0 =>
  backward1_in F n hf hro hn l Bs R N J Jx hY W ((hW.cell (p := ⟨Bs, 0, none⟩) hBs).trans hb) (fun j hj => (hW.cell (p := ⟨R, j, none⟩) hR).trans (hc j hj)) h0
def foldG (g : Nat → Nat → Nat) (pre : List PW) : Nat := pre.foldl (fun r x => g r x.1.2) 0
theorem foldG_snoc (g : Nat → Nat → Nat) (pre : List PW) (x : PW) : foldG g (pre ++ [x]) = g (foldG g pre) x.1.2 := by
  unfold foldG
  rw [List.foldl_append]
  rfl
abbrev fold (pre : List PW) : Nat := foldG Sc.restN pre
theorem fold_snoc (pre : List PW) (x : PW) : fold (pre ++ [x]) = Sc.restN (fold pre) x.1.2 := foldG_snoc Sc.restN pre x
theorem fold_down (N k : Nat) (hN : N / 2 ^ (64 * 8) = 0) (hk : k ≤ 8) : fold (downTo N k) = N / 2 ^ (64 * (8 - k)) % Sc.L := by
  induction k with
  | zero => rw [show 8 - 0 = 8 from rfl, hN, Nat.zero_mod]; rfl
  | succ k ih =>
    rw [downTo_succ, fold_snoc, ih (by omega)]
    have h := Sc.rest_step N (7 - k)
    rw [show 7 - k + 1 = 8 - k by omega] at h
    rw [show 8 - (k + 1) = 7 - k by omega]
    exact h
theorem blk_from {w w' : World} {B : Nat} {T : TypeId} {L : List Value} {row : Option Nat} {n : Nat} (h : Blk w B T L) (hg : w.grownBy w' row) (hr : ∀ r, row = some r → n ≤ r ∧ ∃ o : Obj, w.heap[r]? = some o ∧ o.isCells = false) : Blk w' B T L := by
  refine h.grown hg ?_
  intro e
  obtain ⟨_, o, ho, hc⟩ := hr B e.symm
  unfold Blk at h
  rw [h] at ho
  cases ho
  simp [Obj.isCells] at hc
theorem gb_from {a b c : World} {row row' : Option Nat} (h : a.grownBy b row) (k : b.grownBy c row') (hr : ∀ r, row' = some r → a.heap.size ≤ r) : a.grownBy c row := by
  cases row' with
  | none => exact gb_trans h (gb_row k _)
  | some r => exact gb_then h k (hr r rfl)
structure ModI (w : World) (R N : Nat) (T : TypeId) (pre : List PW) (W : World) : Prop where
  rest : Blk W R T (recL (wds N 8) (fold pre))
  tab : OTab W
  box : Blk W w.heap.size 102 [.pointer (some ⟨R, 0, none⟩)]
  res : Blk W (w.heap.size + 1) 68 [.int .u64 0, .int .u64 0, .int .u64 0, .int .u64 0]
  grown : w.grownBy W (some R)
  size : w.heap.size + 3 ≤ W.heap.size
theorem modI_own (w : World) (R N : Nat) (T : TypeId) (n : Nat) (hn : w.heap.size ≤ n) (ht : 4 < w.heap.size) : OwnFrom n (ModI w R N T) := fun s A B row h hg hr =>
  ⟨blk_from h.rest hg hr, h.tab.kept hg (fun r e => by have := (hr r e).1; omega), blk_from h.box hg hr, blk_from h.res hg hr, gb_from h.grown hg (fun r e => by have := (hr r e).1; omega), Nat.le_trans h.size hg.size⟩
theorem recL_put (X : List Value) (hX : X.length = 8) (a b c d : Value) : ((((X ++ [a, b, c, d]).set 8 (.int .u64 0)).set 9 (.int .u64 0)).set 10 (.int .u64 0)).set 11 (.int .u64 0) = recL X 0 := by
  unfold recL
  rw [wV0, wV0, wV0, wV0, List.set_append_right _ _ (by omega), List.set_append_right _ _ (by omega), List.set_append_right _ _ (by omega), List.set_append_right _ _ (by omega), hX]
  rfl
set_option maxRecDepth 100000 in
set_option maxHeartbeats 2000000 in
theorem modulo_any (R N : Nat) (T : TypeId) (a b c d : Value) (w : World) (hN : N / 2 ^ (64 * 8) = 0) (hT : OTab w) (hR : 4 < R) (hb : Blk w R T (wds N 8 ++ [a, b, c, d])) :
    Calls Tryd.prog 46 #[.pointer (some ⟨R, 0, none⟩)] w fun e w' => e = .returned (narrowV (N % Sc.L)) ∧ w.grownBy w' (some R) ∧ Blk w' R T (recL (wds N 8) (N % Sc.L)) := by
  have hRl := hb.lt
  have k0 := hb.cell (i := 8) rfl
  have k1 := hb.cell (i := 9) rfl
  have k2 := hb.cell (i := 10) rfl
  have k3 := hb.cell (i := 11) rfl
  have f0 := hb.free 8
  have f1 := hb.free 9
  have f2 := hb.free 10
  have f3 := hb.free 11
  have HB := Lib.hid hb; clear hb
  have HT := Lib.hid hT; clear hT
  have HN := Lib.hid hN; clear hN
  refine (callsIn_wide (n := 9)).1 ?_
  refine callsIn_of_wp_marks Tryd.func46 rfl trivial ?_ rfl
  simp only [Tryd.ntmps46, List.size_toArray, List.length_cons, List.length_nil, Nat.reduceAdd, Nat.reduceSub, Array.replicate_succ, Array.replicate_zero, List.push_toArray, List.append_toArray, List.nil_append, List.cons_append]
  gi_wp2_with fail
  refine ⟨trivial, ?_⟩
  have hb1 := ((((HB.out.set 8 (.int .u64 0)).set 9 (.int .u64 0)).set 10 (.int .u64 0)).set 11 (.int .u64 0))
  have hg1 := gb_set (gb_set (gb_set (gb_set (gb_refl w (some R)) 8 (.int .u64 0)) 9 (.int .u64 0)) 10 (.int .u64 0)) 11 (.int .u64 0)
  rw [recL_put (wds N 8) rfl a b c d] at hb1
  have hs1 : ((((w.setCell ⟨R, 8, none⟩ (.int .u64 0)).setCell ⟨R, 9, none⟩ (.int .u64 0)).setCell ⟨R, 10, none⟩ (.int .u64 0)).setCell ⟨R, 11, none⟩ (.int .u64 0)).heap.size = w.heap.size := by simp [World.setCell]
  clear k0 k1 k2 k3 f0 f1 f2 f3 HB
  revert hb1 hg1 hs1
  generalize (((w.setCell ⟨R, 8, none⟩ (.int .u64 0)).setCell ⟨R, 9, none⟩ (.int .u64 0)).setCell ⟨R, 10, none⟩ (.int .u64 0)).setCell ⟨R, 11, none⟩ (.int .u64 0) = w1
  intro hb1 hg1 hs1
  have hX := blk_at w1 (B := w.heap.size) [.pointer (some ⟨R, 0, none⟩)] 102 hs1
  have hY := blk_at (w1.alloc (.cells #[.pointer (some ⟨R, 0, none⟩)] 102)) (B := w.heap.size + 1) [.int .u64 0, .int .u64 0, .int .u64 0, .int .u64 0] 68 (by simp [hs1])
  have hX2 := hX.alloc (.cells #[.int .u64 0, .int .u64 0, .int .u64 0, .int .u64 0] 68)
  have hb2 := (hb1.alloc (.cells #[.pointer (some ⟨R, 0, none⟩)] 102)).alloc (.cells #[.int .u64 0, .int .u64 0, .int .u64 0, .int .u64 0] 68)
  have hg2 := gb_alloc (gb_alloc hg1 (.cells #[.pointer (some ⟨R, 0, none⟩)] 102)) (.cells #[.int .u64 0, .int .u64 0, .int .u64 0, .int .u64 0] 68)
  have hs2 : ((w1.alloc (.cells #[.pointer (some ⟨R, 0, none⟩)] 102)).alloc (.cells #[.int .u64 0, .int .u64 0, .int .u64 0, .int .u64 0] 68)).heap.size = w.heap.size + 2 := by simp [hs1]
  clear hX hb1 hg1 hs1
  revert hX2 hY hb2 hg2 hs2
  generalize (w1.alloc (.cells #[.pointer (some ⟨R, 0, none⟩)] 102)).alloc (.cells #[.int .u64 0, .int .u64 0, .int .u64 0, .int .u64 0] 68) = w2
  intro hY hX2 hb2 hg2 hs2
  refine (backward_in Fence.wide 8 trivial rfl _ _ _ _).mono ?_
  rintro e w3 ⟨rfl, hw3⟩
  have hI : ModI w R N T [] w3 := by
    subst hw3
    exact ⟨hb2.alloc _, HT.out.kept (gb_alloc hg2 _) (fun r e => by cases e; exact hR), hX2.alloc _, hY.alloc _, gb_alloc hg2 _, by simp [hs2]⟩
  have hBs : Blk w3 (w.heap.size + 2) 98 [.slice (some ⟨R, 0, none⟩) 8 8] := by
    subst hw3
    exact blk_at w2 [.slice (some ⟨R, 0, none⟩) 8 8] _ hs2
  have hs3 : w3.heap.size = w.heap.size + 3 := by subst hw3; simp [hs2]
  rw [hs2]
  clear hw3 hX2 hY hb2 hg2 hs2
  have HI := Lib.hid hI; clear hI
  gi_wp2_with fail
  have hRN : ∀ j, j < 8 → w3.cell? ⟨R, j, none⟩ = some (.int .u64 (Sc.wrd N j : Int)) := fun j hj => HI.out.rest.cell (wds_get N 8 j hj _)
  have hO : 4 < w.heap.size := by omega
  refine wpIn_rangeFunc_ownG (F := Fence.wide) (n := 9) rfl (by decide) (gf := 78) (lb := #[.pointer (some ⟨w.heap.size + 2, 0, none⟩)]) rfl trivial (enters_of Tryd.func78 (by kernel_rfl) rfl)
    (w0 := w3) (backward_stops Fence.wide 8 trivial rfl (by decide) (w.heap.size + 2) R N w3 (by omega) (by omega) (hBs.cell (i := 0) rfl) hRN)
    (fun h k => keepsR_t h k) (fun W l o o' hl h _ _ => keepsR_b (n := w3.heap.size) (by omega) (by omega) W l o o' hl h) (Below.refl _ _) (fun _ => rfl)
    (ModI w R N T) (fun _ _ _ => False) (modI_own w R N T _ (by omega) hO) (fun _ _ _ _ _ h _ _ => h) HI.out
    (fun x => { tmps := #[.pointer (some ⟨R, 0, none⟩), .pointer (some ⟨w.heap.size, 0, none⟩), .pointer (some ⟨w.heap.size + 1, 0, none⟩), undef, .int .u64 (x.1.2 : Int), .pointer (some ⟨R, 0, none⟩), .agg #[.int .u64 0, .int .u64 0, .int .u64 0, .int .u64 0], .pointer (some ⟨R, 0, none⟩), .pointer (some ⟨R, 8, none⟩), .pointer (some ⟨R, 0, none⟩), .pointer (some ⟨R, 0, none⟩), .pointer (some ⟨R, 0, none⟩), .slice (some ⟨R, 0, none⟩) 8 8, .func (.func 78) #[] #[.pointer (some ⟨w.heap.size + 2, 0, none⟩)], .int .i64 (x.1.1 : Int), .int .u64 (x.1.2 : Int), undef, undef, undef, undef, undef, undef, undef], defers := [] }) ?assign ?body ?done ?stop
  case assign =>
    intro l x W K hK
    unfold pwE
    gi_wp2
    exact hK
  case body =>
    rintro l pre x W hI _
    have hbox := hI.box.cell (i := 0) rfl
    have hgW := hI.grown
    have HJ := Lib.hid hI; clear hI
    gi_wp2_with (refine ⟨trivial, ?_⟩; gi_at_call 63; refine (CallsIn.inRound l (callsIn_wide.2 (bringDown_any R (fold pre) x.1.2 T (wds N 8) W rfl x.2 HJ.out.tab hR HJ.out.rest))).mono ?_; rintro e W' ⟨rfl, hg', hb'⟩)
    rw [← fold_snoc] at hb'
    refine ⟨KeepsFrom.of_grownBy hg' (fun j e => by cases e; omega), ⟨fun j hj => ?_, ?_⟩, ?_⟩
    · rw [hb'.cell (wds_get N 8 j hj _), HJ.out.rest.cell (wds_get N 8 j hj _)]
    · exact gb_cell hg' (p := ⟨w.heap.size + 2, 0, none⟩) (show w.heap.size + 2 < W.heap.size by have := HJ.out.size; omega) (some_ne' (by show w.heap.size + 2 ≠ R; omega))
    · exact ⟨hb', HJ.out.tab.kept hg' (fun r e => by cases e; exact hR), HJ.out.box.grown hg' (some_ne' (by omega)), HJ.out.res.grown hg' (some_ne' (by omega)), gb_trans HJ.out.grown hg', Nat.le_trans HJ.out.size hg'.size⟩
  case done =>
    rintro D ys W hD rfl hI hK
    have hf := fold_down N 8 HN.out (Nat.le_refl _)
    rw [show 64 * (8 - 8) = 0 from rfl, Nat.pow_zero, Nat.div_one] at hf
    have hrest := hI.rest
    rw [hf] at hrest
    have hres := hI.res
    have hbox := hI.box.cell (i := 0) rfl
    obtain ⟨q0, q1, q2, q3⟩ := recL_get (wds N 8) rfl (N % Sc.L)
    have k0 := hrest.cell q0
    have k1 := hrest.cell q1
    have k2 := hrest.cell q2
    have k3 := hrest.cell q3
    have r0 := hres.cell (i := 0) rfl
    have r1 := hres.cell (i := 1) rfl
    have r2 := hres.cell (i := 2) rfl
    have r3 := hres.cell (i := 3) rfl
    have f0 := hres.free 0
    have f1 := hres.free 1
    have f2 := hres.free 2
    have f3 := hres.free 3
    unfold wV u64N at k0 k1 k2 k3
    have HRe := Lib.hid hrest; clear hrest hres q0 q1 q2 q3 hf
    have HJ := Lib.hid hI; clear hI
    gi_wp2
    have hR4 := (((((HJ.out.res.set 0 (.int .u64 (Sc.wrd (N % Sc.L) 0 : Int))).set 1 (.int .u64 (Sc.wrd (N % Sc.L) 1 : Int))).set 2 (.int .u64 (Sc.wrd (N % Sc.L) 2 : Int))).set 3 (.int .u64 (Sc.wrd (N % Sc.L) 3 : Int))))
    have hB4 := (((HRe.out.other (a := ⟨w.heap.size + 1, 0, none⟩) (by show w.heap.size + 1 ≠ R; omega) (.int .u64 (Sc.wrd (N % Sc.L) 0 : Int))).other (a := ⟨w.heap.size + 1, 1, none⟩) (by show w.heap.size + 1 ≠ R; omega) (.int .u64 (Sc.wrd (N % Sc.L) 1 : Int))).other (a := ⟨w.heap.size + 1, 2, none⟩) (by show w.heap.size + 1 ≠ R; omega) (.int .u64 (Sc.wrd (N % Sc.L) 2 : Int))).other (a := ⟨w.heap.size + 1, 3, none⟩) (by show w.heap.size + 1 ≠ R; omega) (.int .u64 (Sc.wrd (N % Sc.L) 3 : Int))
    have hg4 := gb_set_new (gb_set_new (gb_set_new (gb_set_new HJ.out.grown (p := ⟨w.heap.size + 1, 0, none⟩) (Nat.le_succ _) (.int .u64 (Sc.wrd (N % Sc.L) 0 : Int))) (p := ⟨w.heap.size + 1, 1, none⟩) (Nat.le_succ _) (.int .u64 (Sc.wrd (N % Sc.L) 1 : Int))) (p := ⟨w.heap.size + 1, 2, none⟩) (Nat.le_succ _) (.int .u64 (Sc.wrd (N % Sc.L) 2 : Int))) (p := ⟨w.heap.size + 1, 3, none⟩) (Nat.le_succ _) (.int .u64 (Sc.wrd (N % Sc.L) 3 : Int))
    have hK4 := (((KeepsOthers.setCell W ⟨w.heap.size + 1, 0, none⟩ (.int .u64 (Sc.wrd (N % Sc.L) 0 : Int))).trans (KeepsOthers.setCell _ ⟨w.heap.size + 1, 1, none⟩ (.int .u64 (Sc.wrd (N % Sc.L) 1 : Int)))).trans (KeepsOthers.setCell _ ⟨w.heap.size + 1, 2, none⟩ (.int .u64 (Sc.wrd (N % Sc.L) 2 : Int)))).trans (KeepsOthers.setCell _ ⟨w.heap.size + 1, 3, none⟩ (.int .u64 (Sc.wrd (N % Sc.L) 3 : Int)))
    have hK5 := hK4.same D _ hK rfl
    clear hK4 r0 r1 r2 r3 f0 f1 f2 f3 k0 k1 k2 k3 hbox hK HRe HI
    have hs4 : w3.heap.size ≤ D := hD
    revert hR4 hB4 hg4 hK5
    generalize (((W.setCell ⟨w.heap.size + 1, 0, none⟩ (.int .u64 (Sc.wrd (N % Sc.L) 0 : Int))).setCell ⟨w.heap.size + 1, 1, none⟩ (.int .u64 (Sc.wrd (N % Sc.L) 1 : Int))).setCell ⟨w.heap.size + 1, 2, none⟩ (.int .u64 (Sc.wrd (N % Sc.L) 2 : Int))).setCell ⟨w.heap.size + 1, 3, none⟩ (.int .u64 (Sc.wrd (N % Sc.L) 3 : Int)) = W4
    intro hR4 hB4 hg4 hK5
    have hp := grownBy_putObj' W4 D (.deferred none)
    have hR5 := hR4.grown hp (some_ne' (by omega))
    have hB5 := hB4.grown hp (some_ne' (by omega))
    have hg5 := gb_then hg4 hp (by omega)
    have r0 := hR5.cell (i := 0) rfl
    have r1 := hR5.cell (i := 1) rfl
    have r2 := hR5.cell (i := 2) rfl
    have r3 := hR5.cell (i := 3) rfl
    refine ⟨by simp, .inl ⟨_, _, rfl, run_takeDeferred hK5, ?_⟩⟩
    refine ⟨narrowV (N % Sc.L), ?_, rfl, hg5, hB5⟩
    simp [results, Tryd.results46, go_sem, r0, r1, r2, r3, narrowV, wV, u64N]
  case stop =>
    rintro D c pre W _ _ h _
    exact h.elim
end Go.Proofs.YtleegbaigedebaaDoor

/- edwards: rows of points, and of addends, with room for sixteen. -/
namespace Go.Proofs.YtleegbaigedebaaDoor
open Go.RowKit Ow Ed
def Pile (w : World) (B : Nat) (T : TypeId) (L : List Value) : Prop := ∃ rest : List Value, L.length + rest.length = 320 ∧ Blk w B T (L ++ rest)
theorem Pile.grown {w w' : World} {B : Nat} {T : TypeId} {L : List Value} {row : Option Nat} (h : Pile w B T L) (hg : w.grownBy w' row) (hr : some B ≠ row) : Pile w' B T L := by
  obtain ⟨r, hl, hb⟩ := h
  exact ⟨r, hl, hb.grown hg hr⟩
theorem Pile.lt {w : World} {B : Nat} {T : TypeId} {L : List Value} (h : Pile w B T L) : B < w.heap.size := by
  obtain ⟨r, hl, hb⟩ := h
  exact hb.lt
theorem Pile.setCells_other {w : World} {B C : Nat} {T : TypeId} {L cs : List Value} (h : Pile w B T L) (o : Nat) (hne : C ≠ B) : Pile (w.setCells C o cs) B T L := by
  obtain ⟨r, hl, hb⟩ := h
  exact ⟨r, hl, hb.setCells_other o hne⟩
theorem Pile.pts {w : World} {B : Nat} {T : TypeId} {L : List Pt} (h : Pile w B T (ptsL L)) (k : Nat) (hk : k < L.length) : w.rangeAt B (20 * k) (ptL (L.getD k zeroP)) := by
  obtain ⟨r, _, hb⟩ := h
  exact pts_at hb k hk
set_option maxRecDepth 100000 in
theorem size_point : ∃ i z, Tryd.prog.info? 28 = some i ∧ i.zero = some z ∧ i.size = 20 ∧ i.bytes = 160 ∧ z.cells.size = 20 := by
  have h : (Tryd.prog.info? 28).map (fun i => (i.zero.map (·.cells.size), i.size, i.bytes)) = some (some 20, 20, 160) := by kernel_rfl
  cases hi : Tryd.prog.info? 28 with
  | none => rw [hi] at h; cases h
  | some i =>
    rw [hi] at h
    simp only [Option.map_some, Option.some.injEq, Prod.mk.injEq] at h
    obtain ⟨h1, h2, h3⟩ := h
    cases hz : i.zero with
    | none => rw [hz] at h1; cases h1
    | some z => rw [hz] at h1; exact ⟨i, z, rfl, hz, h2, h3, by simpa using h1⟩
set_option maxRecDepth 100000 in
theorem size_addend : ∃ i z, Tryd.prog.info? 57 = some i ∧ i.zero = some z ∧ i.size = 20 ∧ i.bytes = 160 ∧ z.cells.size = 20 := by
  have h : (Tryd.prog.info? 57).map (fun i => (i.zero.map (·.cells.size), i.size, i.bytes)) = some (some 20, 20, 160) := by kernel_rfl
  cases hi : Tryd.prog.info? 57 with
  | none => rw [hi] at h; cases h
  | some i =>
    rw [hi] at h
    simp only [Option.map_some, Option.some.injEq, Prod.mk.injEq] at h
    obtain ⟨h1, h2, h3⟩ := h
    cases hz : i.zero with
    | none => rw [hz] at h1; cases h1
    | some z => rw [hz] at h1; exact ⟨i, z, rfl, hz, h2, h3, by simpa using h1⟩
theorem made_size (z : Array Value) (n : Nat) : (madeCells z n).size = n := by simp [madeCells]
theorem make_pile (t e : TypeId) (ht : Tryd.prog.underlying t = some (.slice e)) (hi : ∃ i z, Tryd.prog.info? e = some i ∧ i.zero = some z ∧ i.size = 20 ∧ i.bytes = 160 ∧ z.cells.size = 20) (w : World) :
    ∃ w', (Instr.makeSlice t (.int .i64 0) (.int .i64 16)).run Tryd.prog w = .ok (.slice (some ⟨w.heap.size, 0, none⟩) 0 16) w' ∧ w.grownBy w' none ∧ w.heap.size < w'.heap.size ∧ Pile w' w.heap.size e [] := by
  obtain ⟨i, z, hi, hz, hs, hb, _⟩ := hi
  have h2 := run_make (P := Tryd.prog) w t e i z ht hi hz .i64 .i64 0 16 (by omega) (by omega) (by rw [hb]; omega) (by omega)
  refine ⟨_, h2, gb_alloc (gb_refl _ _) _, by simp, (madeCells z.cells ((16 : Int).toNat * i.size)).toList, ?_, ?_⟩
  · rw [List.length_nil, Array.length_toList, made_size, hs]; rfl
  · have := Blk.new w (madeCells z.cells ((16 : Int).toNat * i.size)).toList e
    simpa using this
theorem append_pile (t e : TypeId) (ht : Tryd.prog.underlying t = some (.slice e)) (hi : ∃ i z, Tryd.prog.info? e = some i ∧ i.zero = some z ∧ i.size = 20 ∧ i.bytes = 160 ∧ z.cells.size = 20) (w : World) (B N m : Nat) (L x : List Value) (T : TypeId)
    (hP : Pile w B e L) (hL : L.length = 20 * m) (hm : m < 16) (hN : Blk w N T x) (hx : x.length = 20) (h1 : x.all (·.oneCell') = true) :
    ∃ w', (Builtin.append_ #[t, t] t #[.slice (some ⟨B, 0, none⟩) m 16, .slice (some ⟨N, 0, none⟩) 1 1]).run Tryd.prog w = .ok (.slice (some ⟨B, 0, none⟩) (m + 1) 16) w' ∧ w.grownBy w' (some B) ∧ Pile w' B e (L ++ x) := by
  obtain ⟨i, z, hi, hz, hs, _, _⟩ := hi
  obtain ⟨r, hl, hb⟩ := hP
  have hr := run_append_room w (P := Tryd.prog) t t e i ht hi B m 16 (L ++ r).toArray hb ⟨N, 0, none⟩ 1 1 x (by rw [hx, hs]) (fun j u hu => by rw [Addr.add_mid, Nat.zero_add]; exact hN.cell hu) (fun u hu => (List.all_eq_true.1 h1) u hu) (by omega) (by simp; rw [hs, hx]; omega)
  refine ⟨_, hr, gb_setRow' (gb_refl _ _) _, r.drop 20, ?_, ?_⟩
  · rw [List.length_append, List.length_drop, hx]; omega
  · have e1 : ((L ++ r).toArray.toList.take (m * i.size) ++ x ++ (L ++ r).toArray.toList.drop (m * i.size + x.length)) = (L ++ x) ++ r.drop 20 := by
      have em : m * i.size = L.length := by rw [hs, hL]; omega
      rw [em, hx]
      show (L ++ r).take L.length ++ x ++ (L ++ r).drop (L.length + 20) = _
      rw [List.take_left, List.drop_append]
      simp
    rw [e1]
    exact hb.row _
theorem pow_16 (k : Nat) (h : k < 4) : 2 ^ k + 2 ^ k ≤ 16 := by
  obtain rfl | rfl | rfl | rfl : k = 0 ∨ k = 1 ∨ k = 2 ∨ k = 3 := by omega
  all_goals decide
theorem getD_app {α : Type} (a b : List α) (d : α) (i : Nat) (h : i < a.length) : (a ++ b).getD i d = a.getD i d := by
  rw [List.getD_eq_getElem?_getD, List.getElem?_append_left h, ← List.getD_eq_getElem?_getD]
def chs (ps : List Pr) : List Pr := ps.foldl (fun L p => L ++ L.map fun s => Ed.add s p) [zero]
theorem chs_snoc (ps : List Pr) (p : Pr) : chs (ps ++ [p]) = chs ps ++ (chs ps).map fun s => Ed.add s p := by simp [chs]
theorem chs_length (ps : List Pr) : (chs ps).length = 2 ^ ps.length := by
  have gen : ∀ (ps L : List Pr), (ps.foldl (fun L p => L ++ L.map fun s => Ed.add s p) L).length = L.length * 2 ^ ps.length := by
    intro ps
    induction ps with
    | nil => intro L; simp
    | cons p r ih =>
      intro L
      rw [List.foldl_cons, ih, List.length_append, List.length_map, List.length_cons, Nat.pow_succ]
      rw [← Nat.mul_two, Nat.mul_assoc, Nat.mul_comm 2]
  have := gen ps [zero]
  simpa [chs] using this
theorem ptsAre_snoc {L : List Pt} {ps : List Pr} {t : Pt} {p : Pr} (h : PtsAre L ps) (ht : PtIs t p) : PtsAre (L ++ [t]) (ps ++ [p]) := by
  refine ⟨by simp [h.1], fun i hi => ?_⟩
  by_cases hlt : i < L.length
  · rw [List.getD_eq_getElem?_getD, List.getD_eq_getElem?_getD, List.getElem?_append_left hlt, List.getElem?_append_left (h.1 ▸ hlt), ← List.getD_eq_getElem?_getD, ← List.getD_eq_getElem?_getD]
    exact h.2 i hlt
  · have hi2 : i = L.length := by simp at hi; omega
    subst hi2
    rw [List.getD_eq_getElem?_getD, List.getD_eq_getElem?_getD, List.getElem?_append_right (Nat.le_refl _), List.getElem?_append_right (by rw [h.1]; omega)]
    simpa [h.1] using ht
theorem ptsL_snoc (L : List Pt) (t : Pt) : ptsL (L ++ [t]) = ptsL L ++ ptL t := by simp [ptsL]
def AdsAre (L : List Ad) (ps : List Pr) : Prop := L.length = ps.length ∧ ∀ i, i < L.length → AdIs (L.getD i (adF zeroP)) (ps.getD i zero)
theorem adsAre_snoc {L : List Ad} {ps : List Pr} {t : Ad} {p : Pr} (h : AdsAre L ps) (ht : AdIs t p) : AdsAre (L ++ [t]) (ps ++ [p]) := by
  refine ⟨by simp [h.1], fun i hi => ?_⟩
  by_cases hlt : i < L.length
  · rw [List.getD_eq_getElem?_getD, List.getD_eq_getElem?_getD, List.getElem?_append_left hlt, List.getElem?_append_left (h.1 ▸ hlt), ← List.getD_eq_getElem?_getD, ← List.getD_eq_getElem?_getD]
    exact h.2 i hlt
  · have hi2 : i = L.length := by simp at hi; omega
    subst hi2
    rw [List.getD_eq_getElem?_getD, List.getD_eq_getElem?_getD, List.getElem?_append_right (Nat.le_refl _), List.getElem?_append_right (by rw [h.1]; omega)]
    simpa [h.1] using ht
theorem adsL_snoc (L : List Ad) (t : Ad) : adsL (L ++ [t]) = adsL L ++ adL t := by simp [adsL]
theorem adsL_length (L : List Ad) : (adsL L).length = 20 * L.length := by
  induction L with
  | nil => rfl
  | cons x r ih => simp only [adsL, List.flatMap_cons, List.length_append, List.length_cons] at *; rw [ih]; show 20 + _ = _; omega
theorem adsL_range (L : List Ad) (k : Nat) (hk : k < L.length) (V : List Value) : ((adsL L ++ V).drop (20 * k)).take 20 = adL (L.getD k (adF zeroP)) := by
  induction L generalizing k with
  | nil => simp at hk
  | cons x r ih =>
    cases k with
    | zero =>
      show ((adL x ++ adsL r ++ V).drop 0).take 20 = adL x
      rw [List.drop_zero, List.append_assoc, List.take_append_of_le_length (by show 20 ≤ 20; omega)]
      exact List.take_of_length_le (by show 20 ≤ 20; omega)
    | succ k =>
      have hx : (adL x).length = 20 := rfl
      show ((adL x ++ adsL r ++ V).drop (20 * (k + 1))).take 20 = adL (r.getD k (adF zeroP))
      rw [List.append_assoc, List.drop_append, List.drop_eq_nil_of_le (by rw [hx]; omega), List.nil_append, hx, show 20 * (k + 1) - 20 = 20 * k by omega]
      exact ih k (by simpa using hk)
theorem ads_at {w : World} {B : Nat} {T : TypeId} {L : List Ad} {V : List Value} (h : Blk w B T (adsL L ++ V)) (k : Nat) (hk : k < L.length) : w.rangeAt B (20 * k) (adL (L.getD k (adF zeroP))) := by
  refine h.range (20 * k) _ ?_
  show List.take 20 _ = _
  exact adsL_range L k hk V
end Go.Proofs.YtleegbaigedebaaDoor

/- edwards: choicesOf. -/
namespace Go.Proofs.YtleegbaigedebaaDoor
open Go.RowKit Ow Ed
set_option maxRecDepth 100000 in
set_option maxHeartbeats 12800000 in
theorem choices_any (PB n : Nat) (P4 : List Pt) (ps : List Pr) (V : List Value) (w0 : World) (HT0 : ETab w0) (hn : P4.length = n) (hn4 : n ≤ 4) (hI : PtsAre P4 ps) (hPP : Blk w0 PB 28 (ptsL P4 ++ V)) :
  Calls Tryd.prog 64 #[.slice (some ⟨PB, 0, none⟩) n n] w0 fun e w' => ∃ (RB m : Nat) (R : List Ad), e = .returned (.slice (some ⟨RB, 0, none⟩) m 16) ∧ m = 2 ^ n ∧ AdsAre R (chs ps) ∧ Pile w' RB 57 (adsL R) ∧ w0.grownBy w' none ∧ w0.heap.size ≤ RB := by
 have hPB := hPP.lt
 have HP : Hid (∀ k, k < P4.length → w0.rangeAt PB (20 * k) (ptL (P4.getD k zeroP))) := Lib.hid (fun k hk => pts_at hPP k hk)
 have hps : ps.length = n := hI.1.symm.trans hn
 have HI := Lib.hid hI; clear hI hPP
 obtain ⟨W1, hmk, G, s1, hP⟩ := make_pile 51 28 Tryd.underlying51 size_point w0
 have HT := HT0.grown G
 have HS1 := Lib.hid (And.intro G (And.intro HT hP)); clear G HT hP
 go_enter Tryd.func64, Tryd.ntmps64
 go_upto_region 2 with (fail)
 obtain ⟨G, HT, hP⟩ := HS1.out
 clear hmk HS1
 
 have Gs0 := G.size
 have l1hP := hP.lt
 refine Fg.rP [] [.any, .any, .any, .any, .any, .any, .any, .any, .any, .any, .any, .any, .val (Value.slice (some ⟨w0.heap.size, 0, none⟩) 0 16), .val (zeroP.v), .row 28 (ptsL [zeroP]) 1 W1.heap.size] 3 ?_ ?_
 ·refine Fg.vS rfl (by decide) (fun ac w h => ?_) ?_
  ·have e3 : _ = Value.slice (some ⟨w0.heap.size, 0, none⟩) 0 16 := h.r 3
   exact Fg.vn (Value.slice (some ⟨w0.heap.size, 0, none⟩) 0 16) (Fg.run_move rfl e3)
  refine Fg.cS rfl (by decide) (fun ac w h => ?_) ?_
  ·refine ⟨wants_none rfl, 11, #[], Fg.run_call rfl rfl (by simp) (Fg.run_enter Tryd.func11 (by kernel_rfl) (by kernel_rfl)), ?_⟩
   exact (edZero _).mono fun _ _ ⟨he, hg⟩ => ⟨_, he, hg, rfl⟩
  refine Fg.vS rfl (by decide) (fun ac w h => ?_) ?_
  ·have e13 : _ = zeroP.v := h.d 13
   exact ⟨wants_none rfl, .slice (some ⟨w.heap.size, 0, none⟩) 1 1, w.alloc (.cells (ptsL [zeroP]).toArray 28), Fg.run_buildSlice (vs := #[(0, zeroP.v)]) rfl (by simp only [List.map_toArray, List.map_cons, List.map_nil, Act.eval, e13]) (by kernel_rfl), World.grownBy_alloc _ _ _, ⟨w.heap.size, rfl, h.base.size, Blk.new w (ptsL [zeroP]) _⟩⟩
  trivial
 ·intro qa V1 g1 hsz hdf hrest hslots hpt
  obtain ⟨u1, hs1⟩ := Fg.slotv qa 1
  obtain ⟨u2, hs2⟩ := Fg.slotv qa 2
  obtain ⟨u4, hs4⟩ := Fg.slotv qa 4
  obtain ⟨u6, hs6⟩ := Fg.slotv qa 6
  obtain ⟨u8, hs8⟩ := Fg.slotv qa 8
  obtain ⟨u9, hs9⟩ := Fg.slotv qa 9
  obtain ⟨u11, hs11⟩ := Fg.slotv qa 11
  obtain ⟨u13, hs13⟩ := Fg.slotv qa 13
  obtain ⟨N14, hs14, hn14, hb14⟩ : ∃ N, qa.tmps.getD 14 undef = .slice (some ⟨N, 0, none⟩) 1 1 ∧ W1.heap.size ≤ N ∧ Blk V1 N 28 (ptsL [zeroP]) := hslots 14 (by kernel_rfl)
  obtain ⟨u15, hs15⟩ := Fg.slotv qa 15
  obtain ⟨u16, hs16⟩ := Fg.slotv qa 16
  obtain ⟨u17, hs17⟩ := Fg.slotv qa 17
  obtain ⟨u18, hs18⟩ := Fg.slotv qa 18
  obtain ⟨u19, hs19⟩ := Fg.slotv qa 19
  obtain ⟨u20, hs20⟩ := Fg.slotv qa 20
  obtain ⟨u21, hs21⟩ := Fg.slotv qa 21
  obtain ⟨u22, hs22⟩ := Fg.slotv qa 22
  obtain ⟨u23, hs23⟩ := Fg.slotv qa 23
  obtain ⟨u24, hs24⟩ := Fg.slotv qa 24
  obtain ⟨u25, hs25⟩ := Fg.slotv qa 25
  obtain ⟨u26, hs26⟩ := Fg.slotv qa 26
  obtain ⟨u27, hs27⟩ := Fg.slotv qa 27
  obtain ⟨u28, hs28⟩ := Fg.slotv qa 28
  obtain ⟨u29, hs29⟩ := Fg.slotv qa 29
  obtain ⟨u30, hs30⟩ := Fg.slotv qa 30
  obtain ⟨u31, hs31⟩ := Fg.slotv qa 31
  obtain ⟨u32, hs32⟩ := Fg.slotv qa 32
  obtain ⟨u33, hs33⟩ := Fg.slotv qa 33
  obtain ⟨u34, hs34⟩ := Fg.slotv qa 34
  obtain ⟨u35, hs35⟩ := Fg.slotv qa 35
  obtain ⟨u36, hs36⟩ := Fg.slotv qa 36
  obtain ⟨u37, hs37⟩ := Fg.slotv qa 37
  obtain ⟨u38, hs38⟩ := Fg.slotv qa 38
  obtain ⟨u39, hs39⟩ := Fg.slotv qa 39
  obtain ⟨u40, hs40⟩ := Fg.slotv qa 40
  obtain ⟨u41, hs41⟩ := Fg.slotv qa 41
  obtain ⟨u42, hs42⟩ := Fg.slotv qa 42
  obtain ⟨u43, hs43⟩ := Fg.slotv qa 43
  obtain ⟨u44, hs44⟩ := Fg.slotv qa 44
  obtain ⟨u45, hs45⟩ := Fg.slotv qa 45
  obtain ⟨u46, hs46⟩ := Fg.slotv qa 46
  obtain ⟨u47, hs47⟩ := Fg.slotv qa 47
  obtain ⟨u48, hs48⟩ := Fg.slotv qa 48
  obtain ⟨u49, hs49⟩ := Fg.slotv qa 49
  obtain ⟨u50, hs50⟩ := Fg.slotv qa 50
  obtain rfl := Fg.frame_by [1, 2, 4, 6, 8, 9, 11, 12, 13, 14, 15, 16, 17, 18, 19, 20, 21, 22, 23, 24, 25, 26, 27, 28, 29, 30, 31, 32, 33, 34, 35, 36, 37, 38, 39, 40, 41, 42, 43, 44, 45, 46, 47, 48, 49, 50] (vs := [Value.slice (some ⟨PB, 0, none⟩) n n, u1, u2, Value.slice (some ⟨w0.heap.size, 0, none⟩) 0 16, u4, undef, u6, undef, u8, u9, undef, u11, Value.slice (some ⟨w0.heap.size, 0, none⟩) 0 16, u13, Value.slice (some ⟨N14, 0, none⟩) 1 1, u15, u16, u17, u18, u19, u20, u21, u22, u23, u24, u25, u26, u27, u28, u29, u30, u31, u32, u33, u34, u35, u36, u37, u38, u39, u40, u41, u42, u43, u44, u45, u46, u47, u48, u49, u50]) hsz hrest (by kernel_rfl) rfl rfl ⟨hs1, hs2, hs4, hs6, hs8, hs9, hs11, (show qa.tmps.getD 12 undef = Value.slice (some ⟨w0.heap.size, 0, none⟩) 0 16 from hslots 12 (by kernel_rfl)), hs13, hs14, hs15, hs16, hs17, hs18, hs19, hs20, hs21, hs22, hs23, hs24, hs25, hs26, hs27, hs28, hs29, hs30, hs31, hs32, hs33, hs34, hs35, hs36, hs37, hs38, hs39, hs40, hs41, hs42, hs43, hs44, hs45, hs46, hs47, hs48, hs49, hs50, trivial⟩ hdf
  clear hsz hdf hrest hslots hpt hs1 hs2 hs4 hs6 hs8 hs9 hs11 hs13 hs14 hs15 hs16 hs17 hs18 hs19 hs20 hs21 hs22 hs23 hs24 hs25 hs26 hs27 hs28 hs29 hs30 hs31 hs32 hs33 hs34 hs35 hs36 hs37 hs38 hs39 hs40 hs41 hs42 hs43 hs44 hs45 hs46 hs47 hs48 hs49 hs50
  replace hP := hP.grown g1 (by simp)
  replace G := gb_trans G g1
  replace HT := HT.grown g1
  have hw14 : w0.heap.size ≤ N14 := Nat.le_trans Gs0 hn14
  clear g1
  have lp := hP.lt
  obtain ⟨w2, hap, g2, P2⟩ := append_pile 51 28 Tryd.underlying51 size_point V1 w0.heap.size N14 0 [] (ptsL [zeroP]) 28 hP rfl (by decide) hb14 rfl rfl
  rw [List.nil_append] at P2
  replace G := gb_then G g2 (Nat.le_refl _)
  replace HT := HT.keep g2 (HT0.noG (Nat.le_refl _))
  refine wpList_append_run rfl (.tmp 12) (.tmp 14) 51 rfl rfl _ _ rfl rfl _ _ hap ?_
  have h0A : PtsAre [zeroP] (chs (ps.take 0)) := ⟨rfl, fun i hi => by
   have : i = 0 := by simp at hi; omega
   subst this
   exact zeroIs⟩
  have HS := Lib.hid (And.intro h0A (And.intro P2 (And.intro G HT))); clear h0A P2 G HT hap g2 hP hb14 lp
  go_wp2
  go_loopw [3, 5, 7, 18] (fun v3 v5 v7 i wr => ∃ (k m : Nat) (L : List Pt), k ≤ n ∧ i = .int .i64 k ∧ v3 = .slice (some ⟨w0.heap.size, 0, none⟩) m 16 ∧ PtsAre L (chs (ps.take k)) ∧ Pile wr w0.heap.size 28 (ptsL L) ∧ w0.grownBy wr none ∧ ETab wr ∧ Hid (Fg.ApartV [v5] wr ∧ Fg.ApartV [v7] wr) ∧ Hid (m = 2 ^ k) ∧ m ≤ 16) (fun _ _ _ i _ => n - (intOf i).toNat)
  case atStart => exact ⟨0, 1, [zeroP], by omega, rfl, rfl, HS.out.1, HS.out.2.1, HS.out.2.2.1, HS.out.2.2.2, Lib.hid ⟨Fg.apart_undef _ _ rfl, Fg.apart_undef _ _ rfl⟩, Lib.hid rfl, by decide⟩
  case round =>
   clear HS
   obtain ⟨k, m, L, hk, rfl, rfl, hL, hP, G, HT, HA, HM, hm16⟩ := hrel
   have HL := Lib.hid hL; clear hL
   by_cases hkn : k < n
   ·have i0 : (k : Int) < n := by omega
    have hz : wr.heap.size ≤ wr.heap.size := Nat.le_refl _
    have hwr := G.size
    have HPR : Hid (wr.rangeAt PB (20 * k) (ptL (P4.getD k zeroP))) := Lib.hid (rangeAt_grown (HP.out k (by omega)) G hPB (by simp))
    have hPBr : PB < wr.heap.size := Nat.lt_of_lt_of_le hPB hwr
    go_upto_region 5 with (fail)
    have Gs0 := G.size
    have l1hP := hP.lt
    refine Fg.wp_region_plain (ps := [5]) [.any, .any, .any, .any, .any, .fresh 28 zr20 wr.heap.size, .any, .any, .any, .any, .any, .any, .any, .any, .any, .any, .any, .any, .any, .any, .val (Value.pointer (some ⟨PB, k * 20, none⟩)), .val (((P4.getD k zeroP)).v)] (fun w => World.grownBy wr w none) 3 (gb_refl _ _) (by kernel_rfl) (by kernel_rfl) (by decide) (Fg.ptrs_of (l := [u5]) rfl HA.out.1) ?_ ?_
    ·refine Fg.vS rfl (by decide) (fun ac w h => ?_) ?_
     ·have e16 : _ = Value.slice (some ⟨PB, 0, none⟩) n n := h.r 16
      have e18 : _ = Value.int .i64 (k : Int) := h.r 18
      refine ⟨wants_none rfl, Value.pointer (some ⟨PB, k * 20, none⟩), w, ?_, gb_refl _ _, rfl⟩
      clear h
      simp only [execOp, Act.eval, e16, e18]
      go_simp
     refine Fg.vS rfl (by decide) (fun ac w h => ?_) ?_
     ·have e20 : _ = Value.pointer (some ⟨PB, k * 20, none⟩) := h.d 20
      exact Fg.vn (((P4.getD k zeroP)).v) (Fg.run_load rfl e20 ((by rw [show k * 20 = 20 * k by omega]; exact rangeAt_grown HPR.out h.base hPBr (by simp))) Tryd.underlying28 rfl info_point)
     refine ⟨⟨⟨_, rfl⟩, Fg.allocP (fun _ _ h k => gb_trans h k) rfl (by show 5 < 51; decide) fun ac w h => ?_⟩, ?_⟩
     ·refine ⟨wants_none rfl, w.alloc (.cells zr20.toArray 28), ?_, World.grownBy_alloc _ _ _, by simp, ⟨w.heap.size, rfl, h.base.size, Blk.new w zr20 _⟩⟩
      clear h
      go_simp
     trivial
    ·intro qa V1 g1 hsz hdf hrest hslots hpt
     obtain ⟨N5, hs5, hn5, hb5⟩ : ∃ N, qa.tmps.getD 5 undef = .pointer (some ⟨N, 0, none⟩) ∧ wr.heap.size ≤ N ∧ Blk V1 N 28 zr20 := hslots 5 (by kernel_rfl)
     obtain ⟨u20, hs20⟩ := Fg.slotv qa 20
     obtain ⟨x11, hx11⟩ : ∃ x : Pt, x = (P4.getD k zeroP) := ⟨_, rfl⟩
     obtain rfl := Fg.frame_by [5, 20, 21] (vs := [Value.slice (some ⟨PB, 0, none⟩) n n, u1, u2, Value.slice (some ⟨w0.heap.size, 0, none⟩) m 16, u4, Value.pointer (some ⟨N5, 0, none⟩), u6, u7, u8, u9, undef, u11, Value.slice (some ⟨w0.heap.size, 0, none⟩) 0 16, u13, Value.slice (some ⟨N14, 0, none⟩) 1 1, Value.slice (some ⟨w0.heap.size, 0, none⟩) 1 16, Value.slice (some ⟨PB, 0, none⟩) n n, Value.int .i64 (n : Int), Value.int .i64 (k : Int), Value.bool true, u20, x11.v, u22, u23, u24, u25, u26, u27, u28, u29, u30, u31, u32, u33, u34, u35, u36, u37, u38, u39, u40, u41, u42, u43, u44, u45, u46, u47, u48, u49, u50]) hsz hrest (by kernel_rfl) rfl rfl ⟨hs5, hs20, (show qa.tmps.getD 21 undef = x11.v by rw [hx11]; exact hslots 21 (by kernel_rfl)), trivial⟩ hdf
     clear hsz hdf hrest hslots hpt hs5 hs20
     have Hx11 := Lib.hid hx11; clear hx11
     replace hP := hP.grown g1 (by simp)
     replace G := gb_trans G g1
     replace HT := HT.grown g1
     replace hz := Nat.le_trans hz g1.size
     have hw5 : w0.heap.size ≤ N5 := Nat.le_trans Gs0 hn5
     clear g1
     refine Fg.wpl_skip rfl rfl (Fg.run_store (cs := ptL x11) rfl rfl rfl (hb5.there 0 20 (by show 0 + 20 ≤ 20; decide)) info_point (ptL_one _)) ?_
     replace hP := hP.setCells_other (C := N5) (cs := ptL x11) 0 (by omega)
     replace hb5 : Blk (V1.setCells N5 0 (ptL x11)) N5 28 (ptL x11) := hb5.setAll rfl
     replace hz := Nat.le_trans hz (gb_setCells (cs := ptL x11) (gb_refl V1 (some N5)) 0).size
     replace G := gb_setCells_new (cs := ptL x11) G (B := N5) (hw5) 0
     replace HT := HT.keep (gb_setCells (cs := ptL x11) (gb_refl _ (some N5)) 0) (HT0.noG (hw5))
     revert hP hb5 hz G HT
     generalize V1.setCells N5 0 (ptL x11) = W2
     intro hP hb5 hz G HT
     have l2hP := hP.lt
     have l2hb5 := hb5.lt
     have hptx : PtIs x11 (ps.getD k zero) := by rw [Hx11.out]; exact HI.out.2 k (by omega)
     have HX := Lib.hid hptx; clear hptx
     have m2 : m + m ≤ 16 := by have := pow_16 k (by omega); have := HM.out; omega
     have HA7 := Lib.hid (HA.out.2.mono hz); clear HA
     have w5 := W2.heap.size
     have HS5 := Lib.hid (And.intro hP (And.intro hb5 (And.intro G HT))); clear hP G HT hb5
     go_wp2
     go_loopw [3, 7, 24] (fun v3 v7 i wr => ∃ (j : Nat) (L' : List Pt), j ≤ m ∧ i = .int .i64 j ∧ v3 = .slice (some ⟨w0.heap.size, 0, none⟩) (m + j) 16 ∧ PtsAre L' (chs (ps.take k) ++ ((chs (ps.take k)).take j).map fun s => Ed.add s (ps.getD k zero)) ∧ Pile wr w0.heap.size 28 (ptsL L') ∧ Blk wr N5 28 (ptL x11) ∧ w0.grownBy wr none ∧ ETab wr ∧ Hid (Fg.ApartV [v7] wr) ∧ N5 < wr.heap.size) (fun _ _ i _ => m - (intOf i).toNat)
     case atStart => exact ⟨0, L, by omega, rfl, rfl, by simpa using HL.out, HS5.out.1, HS5.out.2.1, HS5.out.2.2.1, HS5.out.2.2.2, HA7, HS5.out.2.1.lt⟩
     case round =>
      clear HS5 HA7
      obtain ⟨j, L', hj, rfl, rfl, hL', hP, hb5, G, HT, HA, l5⟩ := hrel
      have HL' := Lib.hid hL'; clear hL'
      have hCl : (chs (ps.take k)).length = m := by rw [chs_length, List.length_take, Nat.min_eq_left (by have := HI.out.1; omega)]; exact HM.out.symm
      have hLl : L'.length = m + j := by rw [HL'.out.1, List.length_append, List.length_map, List.length_take, hCl, Nat.min_eq_left hj]
      have HC := Lib.hid (And.intro hCl hLl); clear hCl hLl
      by_cases hjm : j < m
      ·have i1 : (j : Int) < m := by omega
       have i2 : m + j < 16 := by omega
       have hz : wr.heap.size ≤ wr.heap.size := Nat.le_refl _
       have hwq := G.size
       go_upto_region 8 with (fail)
       have Gs0 := G.size
       have l1hP := hP.lt
       have l1hb5 := hb5.lt
       refine Fg.wp_region_plain (ps := [7]) [.any, .any, .any, .any, .any, .any, .any, .fresh 28 zr20 wr.heap.size, .any, .any, .any, .any, .any, .any, .any, .any, .any, .any, .any, .any, .any, .any, .any, .any, .any, .any, .val (Value.pointer (some ⟨w0.heap.size, j * 20, none⟩)), .val (((L'.getD j zeroP)).v)] (fun w => World.grownBy wr w none) 3 (gb_refl _ _) (by kernel_rfl) (by kernel_rfl) (by decide) (Fg.ptrs_of (l := [u7]) rfl HA.out) ?_ ?_
       ·refine Fg.vS rfl (by decide) (fun ac w h => ?_) ?_
        ·have e22 : _ = Value.slice (some ⟨w0.heap.size, 0, none⟩) m 16 := h.r 22
         have e24 : _ = Value.int .i64 (j : Int) := h.r 24
         refine ⟨wants_none rfl, Value.pointer (some ⟨w0.heap.size, j * 20, none⟩), w, ?_, gb_refl _ _, rfl⟩
         clear h
         simp only [execOp, Act.eval, e22, e24]
         go_simp
        refine Fg.vS rfl (by decide) (fun ac w h => ?_) ?_
        ·have e26 : _ = Value.pointer (some ⟨w0.heap.size, j * 20, none⟩) := h.d 26
         exact Fg.vn (((L'.getD j zeroP)).v) (Fg.run_load rfl e26 ((by rw [show j * 20 = 20 * j by omega]; exact (hP.grown h.base (by simp)).pts j (by have := HC.out.2; omega))) Tryd.underlying28 rfl info_point)
        refine ⟨⟨⟨_, rfl⟩, Fg.allocP (fun _ _ h k => gb_trans h k) rfl (by show 7 < 51; decide) fun ac w h => ?_⟩, ?_⟩
        ·refine ⟨wants_none rfl, w.alloc (.cells zr20.toArray 28), ?_, World.grownBy_alloc _ _ _, by simp, ⟨w.heap.size, rfl, h.base.size, Blk.new w zr20 _⟩⟩
         clear h
         go_simp
        trivial
       ·intro qa V1 g1 hsz hdf hrest hslots hpt
        obtain ⟨N7, hs7, hn7, hb7⟩ : ∃ N, qa.tmps.getD 7 undef = .pointer (some ⟨N, 0, none⟩) ∧ wr.heap.size ≤ N ∧ Blk V1 N 28 zr20 := hslots 7 (by kernel_rfl)
        obtain ⟨u26, hs26⟩ := Fg.slotv qa 26
        obtain ⟨x21, hx21⟩ : ∃ x : Pt, x = (L'.getD j zeroP) := ⟨_, rfl⟩
        obtain rfl := Fg.frame_by [7, 26, 27] (vs := [Value.slice (some ⟨PB, 0, none⟩) n n, u1, u2, Value.slice (some ⟨w0.heap.size, 0, none⟩) (m + j) 16, u4, Value.pointer (some ⟨N5, 0, none⟩), u6, Value.pointer (some ⟨N7, 0, none⟩), u8, u9, undef, u11, Value.slice (some ⟨w0.heap.size, 0, none⟩) 0 16, u13, Value.slice (some ⟨N14, 0, none⟩) 1 1, Value.slice (some ⟨w0.heap.size, 0, none⟩) 1 16, Value.slice (some ⟨PB, 0, none⟩) n n, Value.int .i64 (n : Int), Value.int .i64 (k : Int), Value.bool true, u20, x11.v, Value.slice (some ⟨w0.heap.size, 0, none⟩) m 16, Value.int .i64 (m : Int), Value.int .i64 (j : Int), Value.bool true, u26, x21.v, u28, u29, u30, u31, u32, u33, u34, u35, u36, u37, u38, u39, u40, u41, u42, u43, u44, u45, u46, u47, u48, u49, u50]) hsz hrest (by kernel_rfl) rfl rfl ⟨hs7, hs26, (show qa.tmps.getD 27 undef = x21.v by rw [hx21]; exact hslots 27 (by kernel_rfl)), trivial⟩ hdf
        clear hsz hdf hrest hslots hpt hs7 hs26
        have Hx21 := Lib.hid hx21; clear hx21
        replace hP := hP.grown g1 (by simp)
        replace hb5 := hb5.grown g1 (by simp)
        replace G := gb_trans G g1
        replace HT := HT.grown g1
        replace hz := Nat.le_trans hz g1.size
        have hw7 : w0.heap.size ≤ N7 := Nat.le_trans Gs0 hn7
        clear g1
        refine Fg.wpl_skip rfl rfl (Fg.run_store (cs := ptL x21) rfl rfl rfl (hb7.there 0 20 (by show 0 + 20 ≤ 20; decide)) info_point (ptL_one _)) ?_
        replace hP := hP.setCells_other (C := N7) (cs := ptL x21) 0 (by omega)
        replace hb5 := hb5.setCells_other (C := N7) (cs := ptL x21) 0 (by omega)
        replace hb7 : Blk (V1.setCells N7 0 (ptL x21)) N7 28 (ptL x21) := hb7.setAll rfl
        replace hz := Nat.le_trans hz (gb_setCells (cs := ptL x21) (gb_refl V1 (some N7)) 0).size
        replace G := gb_setCells_new (cs := ptL x21) G (B := N7) (hw7) 0
        replace HT := HT.keep (gb_setCells (cs := ptL x21) (gb_refl _ (some N7)) 0) (HT0.noG (hw7))
        revert hP hb5 hb7 hz G HT
        generalize V1.setCells N7 0 (ptL x21) = W2
        intro hP hb5 hb7 hz G HT
        go_upto_region 9 with (fail)
        have Gs2 := G.size
        have l2hP := hP.lt
        have l2hb5 := hb5.lt
        have l2hb7 := hb7.lt
        refine Fg.rP [] [.any, .any, .any, .any, .any, .any, .any, .any, .any, .any, .any, .any, .any, .any, .any, .any, .any, .any, .any, .any, .any, .any, .any, .any, .any, .any, .any, .any, .val (Value.slice (some ⟨w0.heap.size, 0, none⟩) (m + j) 16), .val (x21.v), .val (x11.v), .row 28 (ptsL [x21, x11]) 2 W2.heap.size] 4 ?_ ?_
        ·refine Fg.vS rfl (by decide) (fun ac w h => ?_) ?_
         ·have e3 : _ = Value.slice (some ⟨w0.heap.size, 0, none⟩) (m + j) 16 := h.r 3
          exact Fg.vn (Value.slice (some ⟨w0.heap.size, 0, none⟩) (m + j) 16) (Fg.run_move rfl e3)
         refine Fg.vS rfl (by decide) (fun ac w h => ?_) ?_
         ·have e7 : _ = Value.pointer (some ⟨N7, 0, none⟩) := h.r 7
          exact Fg.vn x21.v (Fg.run_load rfl e7 ((hb7.grown h.base (by simp)).range 0 (ptL x21) rfl) Tryd.underlying28 rfl info_point)
         refine Fg.vS rfl (by decide) (fun ac w h => ?_) ?_
         ·have e5 : _ = Value.pointer (some ⟨N5, 0, none⟩) := h.r 5
          exact Fg.vn x11.v (Fg.run_load rfl e5 ((hb5.grown h.base (by simp)).range 0 (ptL x11) rfl) Tryd.underlying28 rfl info_point)
         refine Fg.vS rfl (by decide) (fun ac w h => ?_) ?_
         ·have e29 : _ = x21.v := h.d 29
          have e30 : _ = x11.v := h.d 30
          exact ⟨wants_none rfl, .slice (some ⟨w.heap.size, 0, none⟩) 2 2, w.alloc (.cells (ptsL [x21, x11]).toArray 28), Fg.run_buildSlice (vs := #[(0, x21.v), (1, x11.v)]) rfl (by simp only [List.map_toArray, List.map_cons, List.map_nil, Act.eval, e29, e30]) (by kernel_rfl), World.grownBy_alloc _ _ _, ⟨w.heap.size, rfl, h.base.size, Blk.new w (ptsL [x21, x11]) _⟩⟩
         trivial
        ·intro qa V3 g3 hsz hdf hrest hslots hpt
         obtain ⟨u29, hs29⟩ := Fg.slotv qa 29
         obtain ⟨u30, hs30⟩ := Fg.slotv qa 30
         obtain ⟨N31, hs31, hn31, hb31⟩ : ∃ N, qa.tmps.getD 31 undef = .slice (some ⟨N, 0, none⟩) 2 2 ∧ W2.heap.size ≤ N ∧ Blk V3 N 28 (ptsL [x21, x11]) := hslots 31 (by kernel_rfl)
         obtain rfl := Fg.frame_by [28, 29, 30, 31] (vs := [Value.slice (some ⟨PB, 0, none⟩) n n, u1, u2, Value.slice (some ⟨w0.heap.size, 0, none⟩) (m + j) 16, u4, Value.pointer (some ⟨N5, 0, none⟩), u6, Value.pointer (some ⟨N7, 0, none⟩), u8, u9, undef, u11, Value.slice (some ⟨w0.heap.size, 0, none⟩) 0 16, u13, Value.slice (some ⟨N14, 0, none⟩) 1 1, Value.slice (some ⟨w0.heap.size, 0, none⟩) 1 16, Value.slice (some ⟨PB, 0, none⟩) n n, Value.int .i64 (n : Int), Value.int .i64 (k : Int), Value.bool true, u20, x11.v, Value.slice (some ⟨w0.heap.size, 0, none⟩) m 16, Value.int .i64 (m : Int), Value.int .i64 (j : Int), Value.bool true, u26, x21.v, Value.slice (some ⟨w0.heap.size, 0, none⟩) (m + j) 16, u29, u30, Value.slice (some ⟨N31, 0, none⟩) 2 2, u32, u33, u34, u35, u36, u37, u38, u39, u40, u41, u42, u43, u44, u45, u46, u47, u48, u49, u50]) hsz hrest (by kernel_rfl) rfl rfl ⟨(show qa.tmps.getD 28 undef = Value.slice (some ⟨w0.heap.size, 0, none⟩) (m + j) 16 from hslots 28 (by kernel_rfl)), hs29, hs30, hs31, trivial⟩ hdf
         clear hsz hdf hrest hslots hpt hs29 hs30 hs31
         replace hP := hP.grown g3 (by simp)
         replace hb5 := hb5.grown g3 (by simp)
         replace hb7 := hb7.grown g3 (by simp)
         replace G := gb_trans G g3
         replace HT := HT.grown g3
         replace hz := Nat.le_trans hz g3.size
         have hw31 : w0.heap.size ≤ N31 := Nat.le_trans Gs2 hn31
         clear g3
         have l3hP := hP.lt
         have l3hb5 := hb5.lt
         have l3hb7 := hb7.lt
         have l3hb31 := hb31.lt
         have hpty : PtIs x21 ((chs (ps.take k)).getD j zero) := by
          rw [Hx21.out]
          have := HL'.out.2 j (by have := HC.out.2; omega)
          rwa [getD_app _ _ _ _ (by rw [HC.out.1]; exact hjm)] at this
         have hAre : PtsAre [x21, x11] [(chs (ps.take k)).getD j zero, ps.getD k zero] := ⟨rfl, fun i hi => by
          have : i = 0 ∨ i = 1 := by simp at hi; omega
          rcases this with rfl | rfl
          ·exact hpty
          ·exact HX.out⟩
         refine Fg.wpl_call rfl (Fg.run_call (vs := #[Value.slice (some ⟨N31, 0, none⟩) 2 2]) rfl rfl (by simp only [List.map_toArray, List.map_cons, List.map_nil, Act.eval]; rfl) (Fg.run_enter Tryd.func8 (by kernel_rfl) (by kernel_rfl))) ?_
         refine (edAdd N31 2 [x21, x11] _ [] V3 HT rfl (by decide) (by decide) hAre (by rw [List.append_nil]; exact hb31)).mono ?_
         rintro e C9 ⟨t9, ht9, rfl, g9⟩
         refine ⟨_, rfl, ?_⟩
         refine Fg.wpl_value (v := Value.slice (some ⟨C9.heap.size, 0, none⟩) 1 1) (w' := C9.alloc (.cells (ptsL [t9]).toArray 28)) rfl (Fg.run_buildSlice (vs := #[(0, t9.v)]) rfl (by simp only [List.map_toArray, List.map_cons, List.map_nil, Act.eval]; rfl) (by kernel_rfl)) ?_
         have z9 := g9.size
         have g10 := gb_alloc g9 (.cells (ptsL [t9]).toArray 28)
         obtain ⟨w11, hap, g11, P11⟩ := append_pile 51 28 Tryd.underlying51 size_point (C9.alloc (.cells (ptsL [t9]).toArray 28)) w0.heap.size C9.heap.size (m + j) (ptsL L') (ptsL [t9]) 28 (hP.grown g10 (by simp)) (by rw [ptsL_length, HC.out.2]) i2 (Blk.new C9 (ptsL [t9]) _) rfl rfl
         refine wpList_append_run rfl (.tmp 28) (.tmp 33) 51 rfl rfl _ _ rfl rfl _ _ hap ?_
         have hL2 : PtsAre (L' ++ [t9]) (chs (ps.take k) ++ ((chs (ps.take k)).take (j + 1)).map fun s => Ed.add s (ps.getD k zero)) := by
          have := ptsAre_snoc HL'.out ht9
          rw [take_pr _ j (by rw [HC.out.1]; exact hjm), List.map_append, ← List.append_assoc]
          exact this
         have P12 : Pile w11 w0.heap.size 28 (ptsL (L' ++ [t9])) := by rw [ptsL_snoc]; simpa [ptsL] using P11
         have z11 := g11.size
         rw [World.size_alloc] at z11
         have hb5n := (hb5.grown g10 (by simp)).grown g11 (some_ne (by omega))
         have Gn := gb_then (gb_trans G g10) g11 (Nat.le_refl _)
         have HTn := (HT.grown g10).keep g11 (HT0.noG (Nat.le_refl _))
         have HA9 := Lib.hid (Fg.apart_one (N := N7) (w := w11) (by omega))
         have H9 := Lib.hid (And.intro hL2 (And.intro P12 (And.intro hb5n (And.intro Gn HTn))))
         clear hL2 P12 P11 hb5n Gn HTn g11 g10 g9 hap hP hb5 hb7 hb31 G HT hpty hAre ht9 HA
         clear l1hP l1hb5 l2hP l2hb5 l2hb7 l3hP l3hb5 l3hb7 l3hb31
         go_wp2
         go_roundw
         case rel => exact ⟨j + 1, L' ++ [t9], by omega, by go_num, rfl, H9.out.1, H9.out.2.1, H9.out.2.2.1, H9.out.2.2.2.1, H9.out.2.2.2.2, HA9, by omega⟩
         case measure => simp [intOf]; omega
      ·obtain rfl : j = m := by omega
       have hL2 : PtsAre L' (chs (ps.take (k + 1))) := by
        rw [take_pr ps k (by have := HI.out.1; omega), chs_snoc]
        have := HL'.out
        rwa [List.take_of_length_le (l := chs (ps.take k)) (i := j) (by rw [HC.out.1]; omega)] at this
       have hm2 : j + j = 2 ^ (k + 1) := by rw [Nat.pow_succ, ← HM.out]; omega
       have HA9 := Lib.hid (And.intro (Fg.apart_one (N := N5) (w := wr) l5) HA.out)
       have H9 := Lib.hid (And.intro hL2 (And.intro hP (And.intro G (And.intro HT hm2))))
       clear hL2 hP G HT hm2 hb5 HA
       go_wp2
       go_roundw
       case rel => exact ⟨k + 1, j + j, L', by omega, by go_num, rfl, H9.out.1, H9.out.2.1, H9.out.2.2.1, H9.out.2.2.2.1, HA9, Lib.hid H9.out.2.2.2.2, m2⟩
       case measure => simp [intOf]; omega
   ·obtain rfl : n = k := by omega
    have hLf : PtsAre L (chs ps) := by rw [← List.take_of_length_le (show ps.length ≤ n by omega)]; exact HL.out
    have hCl : (chs ps).length = m := by rw [chs_length, hps]; exact HM.out.symm
    have hLl : L.length = m := hLf.1.trans hCl
    have HC := Lib.hid (And.intro hCl hLl); clear hCl hLl HL
    have HL := Lib.hid hLf; clear hLf
    obtain ⟨W2, hmk, g2, s2, hR⟩ := make_pile 108 57 Tryd.underlying108 size_addend wr
    have hwr := G.size
    have lSB := hP.lt
    have HS2 := Lib.hid (And.intro (gb_trans G g2) (And.intro (HT.grown g2) (And.intro (hP.grown g2 (by simp)) hR))); clear G HT hP hR HA g2
    obtain ⟨RB, hRB⟩ : ∃ x, x = wr.heap.size := ⟨_, rfl⟩
    rw [← hRB] at hmk hwr lSB s2 HS2
    clear hRB
    go_wp2
    clear hmk
    go_loopw [8, 10, 40] (fun v8 v10 i wr => ∃ (j : Nat) (R : List Ad), j ≤ m ∧ i = .int .i64 j ∧ v8 = .slice (some ⟨RB, 0, none⟩) j 16 ∧ AdsAre R ((chs ps).take j) ∧ Pile wr RB 57 (adsL R) ∧ Pile wr w0.heap.size 28 (ptsL L) ∧ w0.grownBy wr none ∧ ETab wr ∧ Hid (Fg.ApartV [v10] wr) ∧ RB < wr.heap.size) (fun _ _ i _ => m - (intOf i).toNat)
    case atStart => exact ⟨0, [], by omega, rfl, rfl, ⟨rfl, fun i hi => by simp at hi⟩, HS2.out.2.2.2, HS2.out.2.2.1, HS2.out.1, HS2.out.2.1, Lib.hid (Fg.apart_undef _ _ rfl), s2⟩
    case round =>
     clear HS2
     obtain ⟨j, R, hj, rfl, rfl, hAD, hR, hP, G, HT, HA, lR⟩ := hrel
     have HAD := Lib.hid hAD; clear hAD
     by_cases hjm : j < m
     ·have i1 : (j : Int) < m := by omega
      have hz : wr.heap.size ≤ wr.heap.size := Nat.le_refl _
      have hwt := G.size
      go_upto_region 15 with (fail)
      have Gs0 := G.size
      have l1hP := hP.lt
      have l1hR := hR.lt
      refine Fg.wp_region_plain (ps := [10]) [.any, .any, .any, .any, .any, .any, .any, .any, .any, .any, .fresh 28 zr20 wr.heap.size, .any, .any, .any, .any, .any, .any, .any, .any, .any, .any, .any, .any, .any, .any, .any, .any, .any, .any, .any, .any, .any, .any, .any, .any, .any, .any, .any, .any, .any, .any, .any, .val (Value.pointer (some ⟨w0.heap.size, j * 20, none⟩)), .val (((L.getD j zeroP)).v)] (fun w => World.grownBy wr w none) 3 (gb_refl _ _) (by kernel_rfl) (by kernel_rfl) (by decide) (Fg.ptrs_of (l := [u10]) rfl HA.out) ?_ ?_
      ·refine Fg.vS rfl (by decide) (fun ac w h => ?_) ?_
       ·have e38 : _ = Value.slice (some ⟨w0.heap.size, 0, none⟩) m 16 := h.r 38
        have e40 : _ = Value.int .i64 (j : Int) := h.r 40
        refine ⟨wants_none rfl, Value.pointer (some ⟨w0.heap.size, j * 20, none⟩), w, ?_, gb_refl _ _, rfl⟩
        clear h
        simp only [execOp, Act.eval, e38, e40]
        go_simp
       refine Fg.vS rfl (by decide) (fun ac w h => ?_) ?_
       ·have e42 : _ = Value.pointer (some ⟨w0.heap.size, j * 20, none⟩) := h.d 42
        exact Fg.vn (((L.getD j zeroP)).v) (Fg.run_load rfl e42 ((by rw [show j * 20 = 20 * j by omega]; exact (hP.grown h.base (by simp)).pts j (by have := HC.out.2; omega))) Tryd.underlying28 rfl info_point)
       refine ⟨⟨⟨_, rfl⟩, Fg.allocP (fun _ _ h k => gb_trans h k) rfl (by show 10 < 51; decide) fun ac w h => ?_⟩, ?_⟩
       ·refine ⟨wants_none rfl, w.alloc (.cells zr20.toArray 28), ?_, World.grownBy_alloc _ _ _, by simp, ⟨w.heap.size, rfl, h.base.size, Blk.new w zr20 _⟩⟩
        clear h
        go_simp
       trivial
      ·intro qa V1 g1 hsz hdf hrest hslots hpt
       obtain ⟨N10, hs10, hn10, hb10⟩ : ∃ N, qa.tmps.getD 10 undef = .pointer (some ⟨N, 0, none⟩) ∧ wr.heap.size ≤ N ∧ Blk V1 N 28 zr20 := hslots 10 (by kernel_rfl)
       obtain ⟨u42, hs42⟩ := Fg.slotv qa 42
       obtain ⟨x41, hx41⟩ : ∃ x : Pt, x = (L.getD j zeroP) := ⟨_, rfl⟩
       obtain rfl := Fg.frame_by [10, 42, 43] (vs := [Value.slice (some ⟨PB, 0, none⟩) n n, u1, u2, Value.slice (some ⟨w0.heap.size, 0, none⟩) m 16, u4, u5, u6, u7, Value.slice (some ⟨RB, 0, none⟩) j 16, u9, Value.pointer (some ⟨N10, 0, none⟩), u11, Value.slice (some ⟨w0.heap.size, 0, none⟩) 0 16, u13, Value.slice (some ⟨N14, 0, none⟩) 1 1, Value.slice (some ⟨w0.heap.size, 0, none⟩) 1 16, Value.slice (some ⟨PB, 0, none⟩) n n, Value.int .i64 (n : Int), Value.int .i64 (n : Int), Value.bool false, u20, u21, u22, u23, u24, u25, u26, u27, u28, u29, u30, u31, u32, u33, u34, u35, u36, Value.slice (some ⟨RB, 0, none⟩) 0 16, Value.slice (some ⟨w0.heap.size, 0, none⟩) m 16, Value.int .i64 (m : Int), Value.int .i64 (j : Int), Value.bool true, u42, x41.v, u44, u45, u46, u47, u48, u49, u50]) hsz hrest (by kernel_rfl) rfl rfl ⟨hs10, hs42, (show qa.tmps.getD 43 undef = x41.v by rw [hx41]; exact hslots 43 (by kernel_rfl)), trivial⟩ hdf
       clear hsz hdf hrest hslots hpt hs10 hs42
       have Hx41 := Lib.hid hx41; clear hx41
       replace hP := hP.grown g1 (by simp)
       replace hR := hR.grown g1 (by simp)
       replace G := gb_trans G g1
       replace HT := HT.grown g1
       replace hz := Nat.le_trans hz g1.size
       have hw10 : w0.heap.size ≤ N10 := Nat.le_trans Gs0 hn10
       clear g1
       refine Fg.wpl_skip rfl rfl (Fg.run_store (cs := ptL x41) rfl rfl rfl (hb10.there 0 20 (by show 0 + 20 ≤ 20; decide)) info_point (ptL_one _)) ?_
       replace hP := hP.setCells_other (C := N10) (cs := ptL x41) 0 (by omega)
       replace hR := hR.setCells_other (C := N10) (cs := ptL x41) 0 (by omega)
       replace hb10 : Blk (V1.setCells N10 0 (ptL x41)) N10 28 (ptL x41) := hb10.setAll rfl
       replace hz := Nat.le_trans hz (gb_setCells (cs := ptL x41) (gb_refl V1 (some N10)) 0).size
       replace G := gb_setCells_new (cs := ptL x41) G (B := N10) (hw10) 0
       replace HT := HT.keep (gb_setCells (cs := ptL x41) (gb_refl _ (some N10)) 0) (HT0.noG (hw10))
       revert hP hR hb10 hz G HT
       generalize V1.setCells N10 0 (ptL x41) = W2
       intro hP hR hb10 hz G HT
       have hpty : PtIs x41 ((chs ps).getD j zero) := by rw [Hx41.out]; exact HL.out.2 j (by have := HC.out.2; omega)
       have oky := hpty.ok
       go_upto_region 16 with (fail)
       have Gs2 := G.size
       have l2hP := hP.lt
       have l2hR := hR.lt
       have l2hb10 := hb10.lt
       refine Fg.rP [] [.any, .any, .any, .any, .any, .any, .any, .any, .any, .any, .any, .any, .any, .any, .any, .any, .any, .any, .any, .any, .any, .any, .any, .any, .any, .any, .any, .any, .any, .any, .any, .any, .any, .any, .any, .any, .any, .any, .any, .any, .any, .any, .any, .any, .val (Value.slice (some ⟨RB, 0, none⟩) j 16), .val (x41.v), .val ((adF x41).v), .row 57 (adsL [adF x41]) 1 W2.heap.size] 4 ?_ ?_
       ·refine Fg.vS rfl (by decide) (fun ac w h => ?_) ?_
        ·have e8 : _ = Value.slice (some ⟨RB, 0, none⟩) j 16 := h.r 8
         exact Fg.vn (Value.slice (some ⟨RB, 0, none⟩) j 16) (Fg.run_move rfl e8)
        refine Fg.vS rfl (by decide) (fun ac w h => ?_) ?_
        ·have e10 : _ = Value.pointer (some ⟨N10, 0, none⟩) := h.r 10
         exact Fg.vn x41.v (Fg.run_load rfl e10 ((hb10.grown h.base (by simp)).range 0 (ptL x41) rfl) Tryd.underlying28 rfl info_point)
        refine Fg.cS rfl (by decide) (fun ac w h => ?_) ?_
        ·have e45 : _ = x41.v := h.d 45
         refine ⟨wants_none rfl, 35, #[x41.v], Fg.run_call rfl rfl (by simp only [List.map_toArray, List.map_cons, List.map_nil, Act.eval, e45]) (Fg.run_enter Tryd.func35 (by kernel_rfl) (by kernel_rfl)), ?_⟩
         exact (addendOf_any x41 _ (HT.grown h.base) oky).mono fun _ _ ⟨he, hg⟩ => ⟨_, he, hg, rfl⟩
        refine Fg.vS rfl (by decide) (fun ac w h => ?_) ?_
        ·have e46 : _ = (adF x41).v := h.d 46
         exact ⟨wants_none rfl, .slice (some ⟨w.heap.size, 0, none⟩) 1 1, w.alloc (.cells (adsL [adF x41]).toArray 57), Fg.run_buildSlice (vs := #[(0, (adF x41).v)]) rfl (by simp only [List.map_toArray, List.map_cons, List.map_nil, Act.eval, e46]) (by kernel_rfl), World.grownBy_alloc _ _ _, ⟨w.heap.size, rfl, h.base.size, Blk.new w (adsL [adF x41]) _⟩⟩
        trivial
       ·intro qa V3 g3 hsz hdf hrest hslots hpt
        obtain ⟨u45, hs45⟩ := Fg.slotv qa 45
        obtain ⟨u46, hs46⟩ := Fg.slotv qa 46
        obtain ⟨N47, hs47, hn47, hb47⟩ : ∃ N, qa.tmps.getD 47 undef = .slice (some ⟨N, 0, none⟩) 1 1 ∧ W2.heap.size ≤ N ∧ Blk V3 N 57 (adsL [adF x41]) := hslots 47 (by kernel_rfl)
        obtain rfl := Fg.frame_by [44, 45, 46, 47] (vs := [Value.slice (some ⟨PB, 0, none⟩) n n, u1, u2, Value.slice (some ⟨w0.heap.size, 0, none⟩) m 16, u4, u5, u6, u7, Value.slice (some ⟨RB, 0, none⟩) j 16, u9, Value.pointer (some ⟨N10, 0, none⟩), u11, Value.slice (some ⟨w0.heap.size, 0, none⟩) 0 16, u13, Value.slice (some ⟨N14, 0, none⟩) 1 1, Value.slice (some ⟨w0.heap.size, 0, none⟩) 1 16, Value.slice (some ⟨PB, 0, none⟩) n n, Value.int .i64 (n : Int), Value.int .i64 (n : Int), Value.bool false, u20, u21, u22, u23, u24, u25, u26, u27, u28, u29, u30, u31, u32, u33, u34, u35, u36, Value.slice (some ⟨RB, 0, none⟩) 0 16, Value.slice (some ⟨w0.heap.size, 0, none⟩) m 16, Value.int .i64 (m : Int), Value.int .i64 (j : Int), Value.bool true, u42, x41.v, Value.slice (some ⟨RB, 0, none⟩) j 16, u45, u46, Value.slice (some ⟨N47, 0, none⟩) 1 1, u48, u49, u50]) hsz hrest (by kernel_rfl) rfl rfl ⟨(show qa.tmps.getD 44 undef = Value.slice (some ⟨RB, 0, none⟩) j 16 from hslots 44 (by kernel_rfl)), hs45, hs46, hs47, trivial⟩ hdf
        clear hsz hdf hrest hslots hpt hs45 hs46 hs47
        replace hP := hP.grown g3 (by simp)
        replace hR := hR.grown g3 (by simp)
        replace hb10 := hb10.grown g3 (by simp)
        replace G := gb_trans G g3
        replace HT := HT.grown g3
        replace hz := Nat.le_trans hz g3.size
        have hw47 : w0.heap.size ≤ N47 := Nat.le_trans Gs2 hn47
        clear g3
        have l3hP := hP.lt
        have l3hR := hR.lt
        have l3hb10 := hb10.lt
        have l3hb47 := hb47.lt
        obtain ⟨w11, hap, g11, P11⟩ := append_pile 108 57 Tryd.underlying108 size_addend V3 RB N47 j (adsL R) (adsL [adF x41]) 57 hR (by rw [adsL_length, HAD.out.1, List.length_take, HC.out.1]; omega) (by omega) hb47 rfl rfl
        refine wpList_append_run rfl (.tmp 44) (.tmp 47) 108 rfl rfl _ _ rfl rfl _ _ hap ?_
        have hR2 : AdsAre (R ++ [adF x41]) ((chs ps).take (j + 1)) := by
         rw [take_pr _ j (by rw [HC.out.1]; exact hjm)]
         exact adsAre_snoc HAD.out (adIs hpty)
        have P12 : Pile w11 RB 57 (adsL (R ++ [adF x41])) := by rw [adsL_snoc]; simpa [adsL] using P11
        have z11 := g11.size
        have hPn := hP.grown g11 (some_ne (by omega))
        have Gn := gb_then G g11 hwr
        have HTn := HT.keep g11 (HT0.noG hwr)
        have HA9 := Lib.hid (Fg.apart_one (N := N10) (w := w11) (by omega))
        have H9 := Lib.hid (And.intro hR2 (And.intro P12 (And.intro hPn (And.intro Gn HTn))))
        clear hR2 P12 P11 hPn Gn HTn g11 hap hP hR hb10 hb47 G HT hpty oky HA
        clear l1hP l1hR l2hP l2hR l2hb10 l3hP l3hR l3hb10 l3hb47
        go_wp2
        go_roundw
        case rel => exact ⟨j + 1, R ++ [adF x41], by omega, by go_num, rfl, H9.out.1, H9.out.2.1, H9.out.2.2.1, H9.out.2.2.2.1, H9.out.2.2.2.2, HA9, by omega⟩
        case measure => simp [intOf]; omega
     ·obtain rfl : j = m := by omega
      have hADf : AdsAre R (chs ps) := by rw [← List.take_of_length_le (show (chs ps).length ≤ j by rw [HC.out.1]; omega)]; exact HAD.out
      have H9 := Lib.hid (And.intro hADf (And.intro hR G)); clear hADf hR G HT hP HA
      go_wp2
      go_ret
      exact ⟨_, j, R, rfl, HM.out, H9.out.1, H9.out.2.1, H9.out.2.2, hwr⟩

end Go.Proofs.YtleegbaigedebaaDoor

/- edwards: groups: bits are gone through backward, four by four. -/
namespace Go.Proofs.YtleegbaigedebaaDoor
open Go.RowKit Ow Go.Shelf Ed
attribute [local go_sem] Oper.semAt_some

abbrev Grp := { x : Nat // x < 16 }
def grp (b : Nat → Bool) (g : Nat) : Nat := 8 * (b (4 * g + 3)).toNat + 4 * (b (4 * g + 2)).toNat + 2 * (b (4 * g + 1)).toNat + (b (4 * g)).toNat
theorem toNat_le (b : Bool) : b.toNat ≤ 1 := by cases b <;> decide
theorem grp_lt (b : Nat → Bool) (g : Nat) : grp b g < 16 := by
  unfold grp
  have h0 := toNat_le (b (4 * g))
  have h1 := toNat_le (b (4 * g + 1))
  have h2 := toNat_le (b (4 * g + 2))
  have h3 := toNat_le (b (4 * g + 3))
  omega
def part (b : Nat → Bool) (g : Nat) : Nat → Nat
  | 0 => 4 * (b (4 * g + 3)).toNat + 2 * (b (4 * g + 2)).toNat + (b (4 * g + 1)).toNat
  | 1 => 2 * (b (4 * g + 3)).toNat + (b (4 * g + 2)).toNat
  | 2 => (b (4 * g + 3)).toNat
  | _ => 0
theorem part0 (b : Nat → Bool) (g : Nat) : part b g 0 = 4 * (b (4 * g + 3)).toNat + 2 * (b (4 * g + 2)).toNat + (b (4 * g + 1)).toNat := rfl
theorem part1 (b : Nat → Bool) (g : Nat) : part b g 1 = 2 * (b (4 * g + 3)).toNat + (b (4 * g + 2)).toNat := rfl
theorem part2 (b : Nat → Bool) (g : Nat) : part b g 2 = (b (4 * g + 3)).toNat := rfl
theorem part3 (b : Nat → Bool) (g : Nat) : part b g 3 = 0 := rfl
theorem part_zero (b : Nat → Bool) (g : Nat) : 2 * part b g 0 + (b (4 * g)).toNat = grp b g := by rw [part0]; unfold grp; omega
theorem part_step (b : Nat → Bool) (g t : Nat) (ht : t < 3) : 2 * part b g (t + 1) + (b (4 * g + (t + 1))).toNat = part b g t := by
  match t, ht with
  | 0, _ => rw [part0, part1]; show _ + (b (4 * g + 1)).toNat = _; omega
  | 1, _ => rw [part1, part2]
  | 2, _ => rw [part2, part3]; show _ + (b (4 * g + 3)).toNat = _; omega
theorem part_le (b : Nat → Bool) (g t : Nat) (ht : t < 4) : part b g t ≤ 7 := by
  have h1 := toNat_le (b (4 * g + 1))
  have h2 := toNat_le (b (4 * g + 2))
  have h3 := toNat_le (b (4 * g + 3))
  match t, ht with
  | 0, _ => rw [part0]; omega
  | 1, _ => rw [part1]; omega
  | 2, _ => rw [part2]; omega
  | 3, _ => rw [part3]; omega
theorem rem4 (i t : Nat) (h : i % 4 = t) : Int.tmod (i : Int) 4 = (t : Int) := by
  rw [Int.tmod_eq_emod_of_nonneg (by omega)]
  omega
def grpsTo (b : Nat → Bool) (G k : Nat) : List Grp := (List.range k).map fun t => ⟨grp b (G - 1 - t), grp_lt _ _⟩
theorem grpsTo_succ (b : Nat → Bool) (G k : Nat) : grpsTo b G (k + 1) = grpsTo b G k ++ [⟨grp b (G - 1 - k), grp_lt _ _⟩] := by simp [grpsTo, List.range_succ]
theorem grps_next (b : Nat → Bool) (G g : Nat) (h : g < G) (hl : grp b g < 16) : grpsTo b G (G - 1 - g) ++ [⟨grp b g, hl⟩] = grpsTo b G (G - g) := by
  rw [show G - g = (G - 1 - g) + 1 by omega, grpsTo_succ]
  congr 2
  exact Subtype.ext (by show grp b g = grp b (G - 1 - (G - 1 - g)); rw [show G - 1 - (G - 1 - g) = g by omega])
theorem grpsTo_length (b : Nat → Bool) (G k : Nat) : (grpsTo b G k).length = k := by simp [grpsTo]
def grpE (x : Grp) : Array Value := #[.int .i64 (x.1 : Int)]
def KeepsG (bb N Bs : Nat) (W W' : World) : Prop := (∀ j, j < N → W'.cell? ⟨bb, j, none⟩ = W.cell? ⟨bb, j, none⟩) ∧ W'.cell? ⟨Bs, 0, none⟩ = W.cell? ⟨Bs, 0, none⟩
theorem keepsG_t {bb N Bs : Nat} {A B C : World} (h : KeepsG bb N Bs A B) (k : KeepsG bb N Bs B C) : KeepsG bb N Bs A C := ⟨fun j hj => (k.1 j hj).trans (h.1 j hj), k.2.trans h.2⟩
theorem keepsG_b {bb N Bs n : Nat} (hR : bb < n) (hB : Bs < n) (W : World) (l : Nat) (o o' : Obj) (hl : n ≤ l) (h : W.heap[l]? = some o) : KeepsG bb N Bs W (W.putObj l o') := by
  have hlt : l < W.heap.size := (Array.getElem?_eq_some_iff.1 h).1
  exact ⟨fun j _ => gb_cell (grownBy_putObj' W l o') (p := ⟨bb, j, none⟩) (show bb < _ by omega) (some_ne' (by show bb ≠ l; omega)), gb_cell (grownBy_putObj' W l o') (p := ⟨Bs, 0, none⟩) (show Bs < _ by omega) (some_ne' (by show Bs ≠ l; omega))⟩
set_option maxHeartbeats 1000000 in
theorem groups_in (F : Fence) (n : Nat) (hf : F.fn 65) (hro : F.round = none) (a : Option Addr) (len cap : Nat) (w : World) :
    CallsIn F n Tryd.prog 65 #[.slice a len cap] w fun e w' => e = .returned (.func (.func 82) #[] #[.pointer (some ⟨w.heap.size, 0, none⟩)]) ∧ w' = w.alloc (.cells #[.slice a len cap] 76) := by
  refine callsIn_of_wp Tryd.func65 rfl hf ?_ hro
  simp only [Tryd.ntmps65, List.size_toArray, List.length_cons, List.length_nil, Nat.reduceAdd, Nat.reduceSub, Array.replicate_succ, Array.replicate_zero, List.push_toArray, List.append_toArray, List.nil_append, List.cons_append]
  gi_wp2
  go_ret
  exact ⟨rfl, rfl⟩
set_option maxRecDepth 100000 in
set_option maxHeartbeats 4000000 in
theorem groups1_in (F : Fence) (n : Nat) (hf : F.fn 82) (hro : F.round = none) (hn : 1 ≤ n) (l Bs bb G N : Nat) (hN : N = 4 * G) (hG : G ≤ 1000) (hG1 : 1 ≤ G) (b : Nat → Bool) (J Jx : List Grp → World → Prop)
    (hY : ∀ pre x W, J pre W → pre.length < G → YieldAt F (n - 1) Tryd.prog l (grpE x) W fun e W' =>
      (e = .returned (.bool true) ∧ J (pre ++ [x]) W' ∧ KeepsG bb N Bs W W') ∨ (e = .returned (.bool false) ∧ Jx (pre ++ [x]) W'))
    (W : World) (hBs : W.cell? ⟨Bs, 0, none⟩ = some (.slice (some ⟨bb, 0, none⟩) N N)) (hc : ∀ j, j < N → W.cell? ⟨bb, j, none⟩ = some (.bool (b j))) (h0 : J [] W) :
    CallsIn F n Tryd.prog 82 #[.func (.yield l) #[] #[], .pointer (some ⟨Bs, 0, none⟩)] W fun e W' => (∃ v, e = .returned v) ∧
      ((∃ ys, ys = grpsTo b G G ∧ J ys W') ∨ (∃ pre, True ∧ Jx pre W')) := by
  have HC := Lib.hid hc; clear hc
  have HN := Lib.hid hN; clear hN
  have hN1 : 4 ≤ N := by have := HN.out; omega
  have hN2 : N ≤ 4000 := by have := HN.out; omega
  refine callsIn_of_wp Tryd.func82 rfl hf ?_ hro
  simp only [Tryd.ntmps82, List.size_toArray, List.length_cons, List.length_nil, Nat.reduceAdd, Nat.reduceSub, Array.replicate_succ, Array.replicate_zero, List.push_toArray, List.append_toArray, List.nil_append, List.cons_append]
  have HBs := Lib.hid hBs
  gi_wp2
  clear hBs
  gi_loopw [3, 4] (fun v3 v4 wr => ((∃ g t i p : Nat, g < G ∧ t < 4 ∧ Hid (i = 4 * g + t) ∧ i < N ∧ Hid (p = part b g t) ∧ p ≤ 7 ∧ v4 = .int .i64 i ∧ v3 = .int .i64 p ∧ J (grpsTo b G (G - 1 - g)) wr) ∨ (v4 = .int .i64 (-1) ∧ v3 = .int .i64 0 ∧ J (grpsTo b G G) wr)) ∧ KeepsG bb N Bs W wr)
    (fun _ i _ => (intOf i + 1).toNat)
  case atStart =>
    refine ⟨Or.inl ⟨G - 1, 3, N - 1, 0, by omega, by omega, Lib.hid (by have := HN.out; omega), by omega, Lib.hid rfl, by omega, ?_, rfl, by rw [show G - 1 - (G - 1) = 0 by omega]; exact h0⟩, ⟨fun _ _ => rfl, rfl⟩⟩
    have : (N : Int) - 1 = ((N - 1 : Nat) : Int) := by omega
    rw [this]
  case round =>
    obtain ⟨⟨g, t, i, p, hg, ht, HI, hi, HP, hp, rfl, rfl, hJs⟩ | ⟨rfl, rfl, hJs⟩, hnx⟩ := hrel
    · have hb1 : wr.cell? ⟨Bs, 0, none⟩ = some (.slice (some ⟨bb, 0, none⟩) N N) := hnx.2.trans HBs.out
      have hcx : wr.cell? ⟨bb, i, none⟩ = some (.bool (b i)) := (hnx.1 i hi).trans (HC.out i hi)
      have hr := rem4 i t (by have := HI.out; omega)
      have HNX := Lib.hid hnx; clear hnx
      have hbl := toNat_le (b i)
      obtain ⟨q, hq⟩ : ∃ q, q = 2 * p + (b i).toNat := ⟨_, rfl⟩
      have HQ := Lib.hid hq; clear hq
      by_cases ht0 : t = 0
      · subst ht0
        have hqg : q = grp b g := by rw [HQ.out, HP.out, ← part_zero, HI.out, Nat.add_zero]
        obtain ⟨fn, tmps, assign, body, hy, hR⟩ := hY _ ⟨grp b g, grp_lt b g⟩ wr hJs (by rw [grpsTo_length]; omega)
        unfold grpE at hy
        simp only [← hqg] at hy
        have hnext : ∀ W3, J (grpsTo b G (G - g)) W3 → KeepsG bb N Bs wr W3 → ((∃ g t i' p : Nat, g < G ∧ t < 4 ∧ Hid (i' = 4 * g + t) ∧ i' < N ∧ Hid (p = part b g t) ∧ p ≤ 7 ∧ Value.int .i64 ((i : Int) - 1) = .int .i64 i' ∧ Value.int .i64 0 = .int .i64 p ∧ J (grpsTo b G (G - 1 - g)) W3) ∨ (Value.int .i64 ((i : Int) - 1) = .int .i64 (-1) ∧ Value.int .i64 0 = .int .i64 0 ∧ J (grpsTo b G G) W3)) ∧ KeepsG bb N Bs W W3 := by
          intro W3 hJ3 hk3
          refine ⟨?_, keepsG_t HNX.out hk3⟩
          have hi0 := HI.out
          rcases Nat.eq_zero_or_pos g with h0 | h0
          · subst h0
            exact .inr ⟨by rw [hi0]; rfl, rfl, hJ3⟩
          · refine .inl ⟨g - 1, 3, i - 1, 0, by omega, by omega, Lib.hid (by omega), by omega, Lib.hid rfl, by omega, ?_, rfl, ?_⟩
            · rw [show ((i - 1 : Nat) : Int) = (i : Int) - 1 by omega]
            · rw [show G - 1 - (g - 1) = G - g by omega]; exact hJ3
        have HNEXT := Lib.hid hnext; clear hnext
        cases hbi : b i with
        | true =>
          have hq2 : (q : Int) = (p : Int) * 2 + 1 := by rw [HQ.out, hbi]; simp; omega
          rw [hq2] at hy
          rw [hbi] at hcx
          gi_wp2
          refine hR.mono ?_
          rintro e W3 (⟨rfl, hJ3, hk3⟩ | ⟨rfl, hJx3⟩)
          · rw [grps_next b G g hg] at hJ3
            gi_wp2
            go_roundw
            case rel => obtain ⟨h | ⟨h1, _, h3⟩, h4⟩ := HNEXT.out W3 hJ3 hk3
                        · exact ⟨.inl h, h4⟩
                        · exact ⟨.inr ⟨h1, rfl, h3⟩, h4⟩
            case measure => simp [intOf]
          · gi_wp2
            refine bodyPost_ret (results_none rfl _ _ _) rfl ?_
            exact ⟨⟨_, rfl⟩, .inr ⟨_, trivial, hJx3⟩⟩
        | false =>
          have hq2 : (q : Int) = (p : Int) * 2 := by rw [HQ.out, hbi]; simp; omega
          rw [hq2] at hy
          rw [hbi] at hcx
          gi_wp2
          refine hR.mono ?_
          rintro e W3 (⟨rfl, hJ3, hk3⟩ | ⟨rfl, hJx3⟩)
          · rw [grps_next b G g hg] at hJ3
            gi_wp2
            go_roundw
            case rel => obtain ⟨h | ⟨h1, _, h3⟩, h4⟩ := HNEXT.out W3 hJ3 hk3
                        · exact ⟨.inl h, h4⟩
                        · exact ⟨.inr ⟨h1, rfl, h3⟩, h4⟩
            case measure => simp [intOf]
          · gi_wp2
            refine bodyPost_ret (results_none rfl _ _ _) rfl ?_
            exact ⟨⟨_, rfl⟩, .inr ⟨_, trivial, hJx3⟩⟩
      · obtain ⟨t, rfl⟩ : ∃ t', t = t' + 1 := ⟨t - 1, by omega⟩
        have hqp : q = part b g t := by rw [HQ.out, HP.out, HI.out, part_step b g t (by omega)]
        have hnext : ((∃ g t i' p : Nat, g < G ∧ t < 4 ∧ Hid (i' = 4 * g + t) ∧ i' < N ∧ Hid (p = part b g t) ∧ p ≤ 7 ∧ Value.int .i64 ((i : Int) - 1) = .int .i64 i' ∧ Value.int .i64 (q : Int) = .int .i64 p ∧ J (grpsTo b G (G - 1 - g)) wr) ∨ (Value.int .i64 ((i : Int) - 1) = .int .i64 (-1) ∧ Value.int .i64 (q : Int) = .int .i64 0 ∧ J (grpsTo b G G) wr)) ∧ KeepsG bb N Bs W wr := by
          have hi0 := HI.out
          refine ⟨.inl ⟨g, t, i - 1, q, hg, by omega, Lib.hid (by omega), by omega, Lib.hid hqp, by rw [hqp]; exact part_le b g t (by omega), ?_, rfl, hJs⟩, HNX.out⟩
          rw [show ((i - 1 : Nat) : Int) = (i : Int) - 1 by omega]
        have HNEXT := Lib.hid hnext; clear hnext
        have hi1 : 1 ≤ i := by have := HI.out; omega
        have hr0 : ¬ ((i : Int).tmod 4 = 0) := by rw [hr]; omega
        cases hbi : b i with
        | true =>
          have hq2 : (q : Int) = (p : Int) * 2 + 1 := by rw [HQ.out, hbi]; simp; omega
          rw [hbi] at hcx
          gi_wp2
          go_roundw
          case rel => rw [← hq2]; exact HNEXT.out
          case measure => simp [intOf]
        | false =>
          have hq2 : (q : Int) = (p : Int) * 2 := by rw [HQ.out, hbi]; simp; omega
          rw [hbi] at hcx
          gi_wp2
          go_roundw
          case rel => rw [← hq2]; exact HNEXT.out
          case measure => simp [intOf]
    · gi_wp2
      go_end0
      exact ⟨⟨_, rfl⟩, .inl ⟨_, rfl, hJs⟩⟩
theorem groups_stops (F : Fence) (n : Nat) (hf : F.fn 82) (hro : F.round = none) (hn : 1 ≤ n) (Bs bb G N : Nat) (hN : N = 4 * G) (hG : G ≤ 1000) (hG1 : 1 ≤ G) (b : Nat → Bool) (w : World) (hBs : Bs < w.heap.size) (hR : bb < w.heap.size)
    (hb : w.cell? ⟨Bs, 0, none⟩ = some (.slice (some ⟨bb, 0, none⟩) N N)) (hc : ∀ j, j < N → w.cell? ⟨bb, j, none⟩ = some (.bool (b j))) :
    SeqStopsK F n Tryd.prog 82 #[.pointer (some ⟨Bs, 0, none⟩)] grpE (KeepsG bb N Bs) (fun ys => ys = grpsTo b G G) (fun _ => True) G w := fun l J Jx W hW _ _ hY h0 =>
  groups1_in F n hf hro hn l Bs bb G N hN hG hG1 b J Jx hY W ((hW.cell (p := ⟨Bs, 0, none⟩) hBs).trans hb) (fun j hj => (hW.cell (p := ⟨bb, j, none⟩) hR).trans (hc j hj)) h0
end Go.Proofs.YtleegbaigedebaaDoor

/- edwards: gather. -/
namespace Go.Proofs.YtleegbaigedebaaDoor
open Go.RowKit Ow Go.Shelf Ed
attribute [local go_sem] Oper.semAt_some
def gthStep (T : Nat) (C : List Pr) (acc : Pr) (x : Grp) : Pr := if x.1 = 0 then nmul (2 ^ T) acc else Ed.add (nmul (2 ^ T) acc) (C.getD x.1 zero)
def gthTo (T : Nat) (C : List Pr) (xs : List Grp) : Pr := xs.foldl (gthStep T C) zero
theorem gthTo_snoc (T : Nat) (C : List Pr) (xs : List Grp) (x : Grp) : gthTo T C (xs ++ [x]) = gthStep T C (gthTo T C xs) x := by simp [gthTo]
structure GthI (w0 : World) (n T RB B3 B6 B7 B8 m : Nat) (C : List Pr) (R : List Ad) (pre : List Grp) (W : World) : Prop where
 t : Blk W B3 3 [.int .i64 (T : Int)]
 r : Blk W B6 28 zr20
 box : Blk W B7 108 [.slice (some ⟨RB, 0, none⟩) m 16]
 pile : Pile W RB 57 (adsL R)
 tab : ETab W
 sum : ∃ s, SmIs s (gthTo T C pre) ∧ Blk W B8 53 (smL s)
 grown : w0.grownBy W none
 size : n ≤ W.heap.size
theorem gthI_own (w0 : World) (n T RB B3 B6 B7 B8 m : Nat) (C : List Pr) (R : List Ad) (k : Nat) (hk : w0.heap.size ≤ k) (HT0 : ETab w0) : OwnFrom k (GthI w0 n T RB B3 B6 B7 B8 m C R) := fun s A B row h hg hr => by
 obtain ⟨q, hq, hs⟩ := h.sum
 refine ⟨blk_from h.t hg hr, blk_from h.r hg hr, blk_from h.box hg hr, ?_, ?_, ⟨q, hq, blk_from hs hg hr⟩, gb_from h.grown hg (fun r e => by have := (hr r e).1; omega), Nat.le_trans h.size hg.size⟩
 ·obtain ⟨rest, hl, hb⟩ := h.pile
  exact ⟨rest, hl, blk_from hb hg hr⟩
 ·cases row with
  | none => exact h.tab.grown hg
  | some r => exact h.tab.keep hg (HT0.noG (by have := (hr r rfl).1; omega))
theorem wplIn_value {F : Fence} {n : Nat} {P : Program} {ops : Array Oper} {Q : Exit → Act → World → Prop} {o : Oper} {r : List Oper} {a : Act} {w w' : World} {v : Value} (hg : o.guard = none) (ha : o.about P w a.eval = none) (hc : ∀ c, o.op ≠ .defer c) (hr : (execOp a.eval o).run P w = .ok (.value v) w') (h : wpListIn F n P ops Q r (a.put o.dst v) w') : wpListIn F n P ops Q (o :: r) a w := by
 refine wpListIn_plain hg fun K hK => ?_
 unfold Oper.wpIn
 refine ⟨?_, ?_⟩
 ·rw [ha]; intro f hf; cases hf
 ·rw [Oper.semAt_plain F _ _ hc, hr]
  exact hK _ _ h
theorem gthI_next {w0 W W' : World} {n T RB B7 B8 m : Nat} {C : List Pr} {R : List Ad} {pre pre' : List Grp} (h : GthI w0 n T RB w0.heap.size (w0.heap.size + 1) B7 B8 m C R pre W) (hg : W.grownBy W' (some B8)) (h0 : w0.heap.size + 1 < B8) (h7 : B7 < B8) (hR : RB < B8) (HT0 : ETab w0)
  (hs : ∃ s, SmIs s (gthTo T C pre') ∧ Blk W' B8 53 (smL s)) : GthI w0 n T RB w0.heap.size (w0.heap.size + 1) B7 B8 m C R pre' W' :=
 ⟨h.t.grown hg (some_ne' (by omega)), h.r.grown hg (some_ne' (by omega)), h.box.grown hg (some_ne' (by omega)), h.pile.grown hg (some_ne' (by omega)), h.tab.keep hg (HT0.noG (by omega)), hs, gb_then h.grown hg (by omega), Nat.le_trans h.size hg.size⟩
theorem keepsG_g {bb N Bs S : Nat} {W W' : World} (hg : W.grownBy W' (some S)) (h1 : bb < W.heap.size) (h2 : Bs < W.heap.size) (n1 : bb ≠ S) (n2 : Bs ≠ S) : KeepsG bb N Bs W W' :=
 ⟨fun j _ => gb_cell hg (p := ⟨bb, j, none⟩) h1 (some_ne' n1), gb_cell hg (p := ⟨Bs, 0, none⟩) h2 (some_ne' n2)⟩
set_option maxRecDepth 100000 in
set_option maxHeartbeats 12800000 in
theorem gather_any (T PB bb N G : Nat) (P4 : List Pt) (ps : List Pr) (V : List Value) (b : Nat → Bool) (w0 : World) (HT0 : ETab w0) (hT : T ≤ 100) (hN : N = 4 * G) (hG : G ≤ 1000) (hG1 : 1 ≤ G) (hn : P4.length = 4) (hI : PtsAre P4 ps) (hPP : Blk w0 PB 28 (ptsL P4 ++ V)) (hbb : bb < w0.heap.size) (hc : ∀ j, j < N → w0.cell? ⟨bb, j, none⟩ = some (.bool (b j))) :
  Calls Tryd.prog 48 #[.int .i64 (T : Int), .slice (some ⟨bb, 0, none⟩) N N, .slice (some ⟨PB, 0, none⟩) 4 4] w0 fun e w' => ∃ t, PtIs t (gthTo T (chs ps) (grpsTo b G G)) ∧ e = .returned t.v ∧ w0.grownBy w' none := by
 have HC := Lib.hid hc; clear hc
 have HN := Lib.hid hN; clear hN
 have hps : ps.length = 4 := hI.1.symm.trans hn
 refine (callsIn_wide (n := 9)).1 ?_
 refine callsIn_of_wp_marks Tryd.func48 rfl trivial ?_ rfl
 simp only [Tryd.ntmps48, List.size_toArray, List.length_cons, List.length_nil, Nat.reduceAdd, Nat.reduceSub, Array.replicate_succ, Array.replicate_zero, List.push_toArray, List.append_toArray, List.nil_append, List.cons_append]
 refine wpIn_wide.2 ?_
 go_upto_region 1 with (fail)
 have hb3 := (blk_at w0 (B := w0.heap.size) [Value.int .i64 (T : Int)] 3 rfl).alloc (.cells zr20.toArray 28)
 have hb6 := blk_at (w0.alloc (.cells #[Value.int .i64 (T : Int)] 3)) (B := w0.heap.size + 1) zr20 28 (by simp)
 have G1 := gb_alloc (gb_alloc (gb_refl w0 none) (.cells #[Value.int .i64 (T : Int)] 3)) (.cells zr20.toArray 28)
 have s1 : ((w0.alloc (.cells #[Value.int .i64 (T : Int)] 3)).alloc (.cells zr20.toArray 28)).heap.size = w0.heap.size + 2 := by simp
 have hP1 := (hPP.alloc (.cells #[Value.int .i64 (T : Int)] 3)).alloc (.cells zr20.toArray 28)
 have hPl := hPP.lt
 clear hPP
 revert hb3 hb6 G1 s1 hP1
 generalize (w0.alloc (.cells #[Value.int .i64 (T : Int)] 3)).alloc (.cells zr20.toArray 28) = W1
 intro hb3 hb6 G1 s1 hP1
 have HT1 := HT0.grown G1
 have HS := Lib.hid (And.intro hb3 (And.intro hb6 G1)); clear hb3 hb6 G1
 go_upto_region 2 with (go_at_call 64; refine (choices_any PB 4 P4 ps V W1 HT1 hn (by decide) hI hP1).mono ?_; rintro e W2 ⟨RB, m, R, rfl, hm, hR, hpile, g2, hRB⟩; obtain rfl : m = 16 := hm)
 have hb3 := (HS.out.1.grown g2 (by simp)).alloc (.cells #[Value.slice (some ⟨RB, 0, none⟩) 16 16] 108)
 have hb6 := (HS.out.2.1.grown g2 (by simp)).alloc (.cells #[Value.slice (some ⟨RB, 0, none⟩) 16 16] 108)
 have hb7 := blk_at W2 (B := W2.heap.size) [Value.slice (some ⟨RB, 0, none⟩) 16 16] 108 rfl
 have hpl := hpile.grown (gb_alloc (gb_refl W2 none) (.cells #[Value.slice (some ⟨RB, 0, none⟩) 16 16] 108)) (by simp)
 have G3 := gb_alloc (gb_trans HS.out.2.2 g2) (.cells #[Value.slice (some ⟨RB, 0, none⟩) 16 16] 108)
 have s3 : (W2.alloc (.cells #[Value.slice (some ⟨RB, 0, none⟩) 16 16] 108)).heap.size = W2.heap.size + 1 := by simp
 have hRBl := hpile.lt
 have z2 := g2.size
 obtain ⟨B7, hB7⟩ : ∃ x, x = W2.heap.size := ⟨_, rfl⟩
 rw [← hB7] at hb7 s3 hRBl z2 ⊢
 clear hpile g2 HS hP1 HT1
 revert hb3 hb6 hb7 hpl G3 s3
 generalize W2.alloc (.cells #[Value.slice (some ⟨RB, 0, none⟩) 16 16] 108) = W3
 intro hb3 hb6 hpl G3 s3 hb7
 clear hB7
 refine wp_region_lit ?_
 refine Fg.wpl_call rfl (Fg.run_call (vs := #[]) rfl rfl (by simp) (Fg.run_enter Tryd.func11 (by kernel_rfl) (by kernel_rfl))) ?_
 refine (edZero _).mono ?_
 rintro e W4 ⟨rfl, g4⟩
 refine ⟨_, rfl, ?_⟩
 refine Fg.wpl_call rfl (Fg.run_call (vs := #[zeroP.v]) rfl rfl (by simp only [List.map_toArray, List.map_cons, List.map_nil, Act.eval]; rfl) (Fg.run_enter Tryd.func33 (by kernel_rfl) (by kernel_rfl))) ?_
 refine (sumOf_any zeroP _).mono ?_
 rintro e W5 ⟨rfl, g5⟩
 refine ⟨_, rfl, ?_⟩
 have g6 := gb_trans g4 g5
 clear g4 g5
 refine Fg.wpl_value (v := .pointer (some ⟨W5.heap.size, 0, none⟩)) (w' := W5.alloc (.cells zr30.toArray 53)) rfl (by go_simp) ?_
 have hb3 := (hb3.grown g6 (by simp)).alloc (.cells zr30.toArray 53)
 have hb6 := (hb6.grown g6 (by simp)).alloc (.cells zr30.toArray 53)
 have hb7 := (hb7.grown g6 (by simp)).alloc (.cells zr30.toArray 53)
 have hb8 := blk_at W5 (B := W5.heap.size) zr30 53 rfl
 have hpl := (hpl.grown g6 (by simp)).grown (gb_alloc (gb_refl W5 none) (.cells zr30.toArray 53)) (by simp)
 have G6 := gb_alloc (gb_trans G3 g6) (.cells zr30.toArray 53)
 have s6 : (W5.alloc (.cells zr30.toArray 53)).heap.size = W5.heap.size + 1 := by simp
 have z6 := g6.size
 obtain ⟨B8, hB8⟩ : ∃ x, x = W5.heap.size := ⟨_, rfl⟩
 rw [← hB8] at hb8 s6 z6 ⊢
 revert hb3 hb6 hb7 hb8 hpl G6 s6
 generalize W5.alloc (.cells zr30.toArray 53) = W6
 intro hb3 hb6 hb7 hpl G6 s6 hb8
 clear hB8
 refine Fg.wpl_skip rfl rfl (Fg.run_store (b := B8) (off := 0) (cs := smL (sumF zeroP)) rfl rfl rfl (hb8.there 0 30 (by show 0 + 30 ≤ 30; decide)) info_sum (smL_one _)) ?_
 refine wpList_nil ?_
 have hb3 := hb3.setCells_other (C := B8) (cs := smL (sumF zeroP)) 0 (by omega)
 have hb6 := hb6.setCells_other (C := B8) (cs := smL (sumF zeroP)) 0 (by omega)
 have hb7 := hb7.setCells_other (C := B8) (cs := smL (sumF zeroP)) 0 (by omega)
 have hpl := hpl.setCells_other (C := B8) (cs := smL (sumF zeroP)) 0 (by omega)
 have hb8 : Blk (W6.setCells B8 0 (smL (sumF zeroP))) B8 53 (smL (sumF zeroP)) := hb8.setAll rfl
 have G7 := gb_setCells_new (cs := smL (sumF zeroP)) G6 (B := B8) (by omega) 0
 have s7 := (gb_setCells (cs := smL (sumF zeroP)) (gb_refl W6 (some B8)) 0).size
 clear G6
 revert hb3 hb6 hb7 hpl hb8 G7 s7
 generalize W6.setCells B8 0 (smL (sumF zeroP)) = W7
 intro hb3 hb6 hb7 hpl hb8 G7 s7
 have HT7 := HT0.grown G7
 have lB3 := hb3.lt
 have lB6 := hb6.lt
 have lB7 := hb7.lt
 have lB8 := hb8.lt
 have lRB := hpl.lt
 have HS := Lib.hid (And.intro hb3 (And.intro hb6 (And.intro hb7 (And.intro hpl (And.intro hb8 (And.intro G7 HT7))))))
 clear hb3 hb6 hb7 hpl hb8 G7 HT7
 generalize zeroP.v = vz
 generalize (sumF zeroP).v = vs
 go_wp2_with (go_at_call 65; refine ((callsIn_wide (n := 8)).1 (groups_in Fence.wide 8 trivial rfl (some ⟨bb, 0, none⟩) N N W7)).mono ?_; rintro e W8 ⟨rfl, hW8⟩; have HW8 := Lib.hid hW8; clear hW8)
 have hW8 := HW8.out; clear HW8
 have hI0 : GthI w0 (W7.heap.size + 1) T RB w0.heap.size (w0.heap.size + 1) B7 B8 16 (chs ps) R [] W8 := by
  obtain ⟨hb3, hb6, hb7, hpl, hb8, G7, HT7⟩ := HS.out
  subst hW8
  exact ⟨hb3.alloc _, hb6.alloc _, hb7.alloc _, hpl.grown (gb_alloc (gb_refl W7 none) _) (by simp), HT7.grown (gb_alloc (gb_refl W7 none) _), ⟨_, sumIs zeroIs, hb8.alloc _⟩, gb_alloc G7 _, by simp⟩
 have hBs : Blk W8 W7.heap.size 76 [.slice (some ⟨bb, 0, none⟩) N N] := by
  subst hW8
  exact blk_at W7 [.slice (some ⟨bb, 0, none⟩) N N] _ rfl
 have hs8 : W8.heap.size = W7.heap.size + 1 := by subst hW8; simp
 clear hW8 HS
 have g70 := hI0.grown.size
 have hcb : ∀ j, j < N → W8.cell? ⟨bb, j, none⟩ = some (.bool (b j)) := fun j hj => by rw [gb_cell hI0.grown (p := ⟨bb, j, none⟩) hbb (by simp)]; exact HC.out j hj
 obtain ⟨NB, hNB⟩ : ∃ x, x = W7.heap.size := ⟨_, rfl⟩
 rw [← hNB] at hI0 hBs hs8 lB3 lB6 lB7 lB8 lRB ⊢
 clear hNB
 refine (wpIn_wide (n := 9)).1 ?_
 refine wpIn_rangeFunc_ownG (F := Fence.wide) (n := 9) rfl (by decide) (gf := 82) (lb := #[.pointer (some ⟨NB, 0, none⟩)]) rfl trivial (enters_of Tryd.func82 (by kernel_rfl) rfl)
  (w0 := W8) (groups_stops Fence.wide 8 trivial rfl (by decide) NB bb G N HN.out hG hG1 b W8 (by omega) (by omega) (hBs.cell (i := 0) rfl) hcb)
  (fun h k => keepsG_t h k) (fun W l o o' hl h _ _ => keepsG_b (n := W8.heap.size) (by omega) (by omega) W l o o' hl h) (Below.refl _ _) (fun _ => rfl)
  (GthI w0 (NB + 1) T RB w0.heap.size (w0.heap.size + 1) B7 B8 16 (chs ps) R) (fun _ _ _ => False) (gthI_own _ _ _ _ _ _ _ _ _ _ _ _ (by omega) HT0) (fun _ _ _ _ _ h _ _ => h) hI0
  (fun x => { tmps := #[.int .i64 (T : Int), .slice (some ⟨bb, 0, none⟩) N N, .slice (some ⟨PB, 0, none⟩) 4 4, .pointer (some ⟨w0.heap.size, 0, none⟩), undef, undef, .pointer (some ⟨w0.heap.size + 1, 0, none⟩), .pointer (some ⟨B7, 0, none⟩), .pointer (some ⟨B8, 0, none⟩), .int .i64 (x.1 : Int), .slice (some ⟨PB, 0, none⟩) 4 4, .slice (some ⟨RB, 0, none⟩) 16 16, vz, vs, .slice (some ⟨bb, 0, none⟩) N N, .func (.func 82) #[] #[.pointer (some ⟨NB, 0, none⟩)], .int .i64 (x.1 : Int), undef, undef, undef, undef, undef, undef, undef, undef, undef, undef], defers := [] }) ?assign ?body ?done ?stop
 case assign =>
  intro l x W K hK
  unfold grpE
  gi_wp2
  exact hK
 case body =>
  rintro l pre x W hI hlen
  obtain ⟨s, hs, hb8⟩ := hI.sum
  have c3 := hI.t.cell (i := 0) rfl
  have HJ := Lib.hid hI; clear hI
  obtain ⟨x, hx16⟩ := x
  show Code.wpIn _ _ _ _ _ { tmps := _, defers := _ } _
  have zW := HJ.out.size
  by_cases hx0 : x = 0
  ·subst hx0
   gi_wp2_with (refine ⟨trivial, ?_⟩; gi_at_call 37; refine (CallsIn.inRound l (callsIn_wide.2 (sdouble_any B8 T s _ W hT HJ.out.tab (HT0.noG (by omega)) hb8 hs))).mono ?_; rintro e W' ⟨rfl, hg', hsb'⟩)
   exact ⟨KeepsFrom.of_grownBy hg' (fun j e => by cases e; omega), keepsG_g hg' (by omega) (by omega) (by omega) (by omega), gthI_next HJ.out hg' (by omega) (by omega) (by omega) HT0 (by rw [gthTo_snoc]; exact hsb')⟩
  ·gi_upto_region 7 with (refine ⟨trivial, ?_⟩; gi_at_call 37; refine (CallsIn.inRound l (callsIn_wide.2 (sdouble_any B8 T s _ W hT HJ.out.tab (HT0.noG (by omega)) hb8 hs))).mono ?_; rintro e W' ⟨rfl, hg', hsb'⟩)
   obtain ⟨s', hs', hb8'⟩ := hsb'
   have hT1 := HJ.out.tab.keep hg' (HT0.noG (S := B8) (by omega))
   have c7 := (HJ.out.box.grown hg' (some_ne' (by omega))).cell (i := 0) rfl
   obtain ⟨rest, _, hrb⟩ := HJ.out.pile.grown hg' (some_ne' (by omega))
   have hRl : R.length = 16 := by rw [hR.1, chs_length, hps]
   have hrg := ads_at hrb x (by omega)
   have hq := hR.2 x (by omega)
   clear hrb
   generalize R.getD x (adF zeroP) = q at hrg hq
   have zW' := hg'.size
   refine wpIn_region_lit ?_
   refine wplIn_value (v := .slice (some ⟨RB, 0, none⟩) 16 16) (w' := W') rfl (by simp [Oper.about]) (fun c h => by cases h) (by go_simp) ?_
   refine wplIn_value (v := .int .i64 (x : Int)) (w' := W') rfl (by simp [Oper.about]) (fun c h => by cases h) (Fg.run_move rfl rfl) ?_
   refine wplIn_value (v := .pointer (some ⟨RB, 20 * x, none⟩)) (w' := W') rfl (by simp [Oper.about]) (fun c h => by cases h) (by go_simp; rw [if_pos (show (x : Int) < 16 by omega), Nat.mul_comm]) ?_
   refine wplIn_value (v := q.v) (w' := W') rfl (by simp [Oper.about]) (fun c h => by cases h) (Fg.run_load rfl rfl hrg Tryd.underlying57 rfl info_addend) ?_
   gi_wp2_with (refine ⟨trivial, ?_⟩; gi_at_call 34; refine (CallsIn.inRound l (callsIn_wide.2 (sadd_any B8 s' q _ _ W' hT1 (HT0.noG (by omega)) hb8' hs' hq))).mono ?_; rintro e W2 ⟨rfl, hg2, hsb2⟩)
   have hx : gthTo T (chs ps) (pre ++ [⟨x, hx16⟩]) = Ed.add (nmul (2 ^ T) (gthTo T (chs ps) pre)) ((chs ps).getD x zero) := by rw [gthTo_snoc]; unfold gthStep; rw [if_neg hx0]
   have hI1 := gthI_next (pre' := pre ++ [⟨x, hx16⟩]) HJ.out (gb_trans hg' hg2) (by omega) (by omega) (by omega) HT0 (by rw [hx]; exact hsb2)
   exact ⟨KeepsFrom.of_grownBy (gb_trans hg' hg2) (fun j e => by cases e; omega), keepsG_g (gb_trans hg' hg2) (by omega) (by omega) (by omega) (by omega), hI1⟩
 case done =>
  rintro D ys W hD rfl hI hK
  obtain ⟨s, hs, hb8⟩ := hI.sum
  have hDl : D < W.heap.size := (Array.getElem?_eq_some_iff.1 hK).1
  have HK := Lib.hid hK; clear hK
  go_upto_region 8 with (fail)
  refine wp_region_lit ?_
  refine Fg.wpl_call rfl (Fg.run_call (vs := #[.pointer (some ⟨B8, 0, none⟩)]) rfl rfl (by simp only [List.map_toArray, List.map_cons, List.map_nil, Act.eval]; rfl) (Fg.run_enter Tryd.func36 (by kernel_rfl) (by kernel_rfl))) ?_
  refine (point_any B8 s W hb8 hs.ok).mono ?_
  rintro e W1 ⟨rfl, g1, _⟩
  refine ⟨_, rfl, ?_⟩
  have hb6 := hI.r.grown g1 (some_ne' (by omega))
  have k1 := (g1.block D hDl (some_ne' (by omega))).trans HK.out
  have z1 := g1.size
  refine Fg.wpl_skip rfl rfl (Fg.run_store (b := w0.heap.size + 1) (off := 0) (cs := ptL (pointF s)) rfl rfl rfl (hb6.there 0 20 (by show 0 + 20 ≤ 20; decide)) info_point (ptL_one _)) ?_
  refine wpList_nil ?_
  have g2 := gb_setCells (cs := ptL (pointF s)) (gb_refl W1 (some (w0.heap.size + 1))) 0
  have hb6 : Blk (W1.setCells (w0.heap.size + 1) 0 (ptL (pointF s))) (w0.heap.size + 1) 28 (ptL (pointF s)) := hb6.setAll rfl
  have G2 := gb_then (gb_then hI.grown g1 (by omega)) g2 (by omega)
  have k2 := (g2.block D (by omega) (some_ne' (by omega))).trans k1
  have z2 := g2.size
  clear g2 k1
  revert hb6 G2 k2 z2
  generalize W1.setCells (w0.heap.size + 1) 0 (ptL (pointF s)) = W2
  intro hb6 G2 k2 z2
  have hp := pointIs hs
  generalize pointF s = tt at hb6 hp ⊢
  obtain ⟨tv, htv⟩ : ∃ v, v = tt.v := ⟨_, rfl⟩
  rw [← htv]
  go_upto_region 9 with (fail)
  have hpo := grownBy_putObj' W2 D (.deferred none)
  have hb6 := hb6.grown hpo (some_ne' (by omega))
  have G3 := gb_then G2 hpo (by omega)
  refine ⟨by simp, .inl ⟨_, _, rfl, run_takeDeferred k2, ?_⟩⟩
  refine ⟨tv, ?_, tt, hp, by rw [htv], G3⟩
  rw [htv]
  exact results_cell_row Tryd.results48 _ _ (w0.heap.size + 1) 28 (ptL tt).toArray (0, 0) _ rfl hb6 Tryd.underlying28 rfl info_point
 case stop =>
  rintro D c pre W _ _ h _
  exact h.elim

end Go.Proofs.YtleegbaigedebaaDoor

/- scalar: a number's 32 bytes. -/
namespace Go.Proofs.YtleegbaigedebaaDoor
open Go.RowKit Ow

def bytesN (n k : Nat) : List Nat := (List.range k).map (Sc.byt n)
theorem bytesN_length (n k : Nat) : (bytesN n k).length = k := by simp [bytesN]
theorem bytesN_succ (n k : Nat) : bytesN n (k + 1) = bytesN n k ++ [Sc.byt n k] := by simp [bytesN, List.range_succ]
theorem bytesN_get (n k i : Nat) (h : i < k) : (bytesN n k).getD i 0 = Sc.byt n i := by
  unfold bytesN; rw [List.getD_eq_getElem?_getD, List.getElem?_map, List.getElem?_range h]; rfl
theorem bytesN_lt (n k i : Nat) : (bytesN n k).getD i 0 < 256 := by
  by_cases h : i < k
  · rw [bytesN_get n k i h]; exact Sc.byt_lt _ _
  · rw [List.getD_eq_getElem?_getD, List.getElem?_eq_none (by rw [bytesN_length]; omega)]; decide
theorem num_bytesN (n k : Nat) : num (bytesN n k) = n % 2 ^ (8 * k) := by
  unfold num
  rw [bytesN_length, ← Sc.leN_byt n k]
  exact Sc.leN_congr _ _ _ fun i hi => bytesN_get n k i hi
theorem word_byte (n j i : Nat) (hi : i < 8) : Sc.wrd n j / 2 ^ (8 * i) % 256 = Sc.byt n (8 * j + i) := by
  have e : (18446744073709551616 : Nat) = 2 ^ (8 * i) * (256 * 2 ^ (56 - 8 * i)) := by
    rw [show (256 : Nat) = 2 ^ 8 by rfl, ← Nat.pow_add, ← Nat.pow_add, show (18446744073709551616 : Nat) = 2 ^ 64 by rfl]; congr 1; omega
  unfold Sc.wrd Sc.byt
  rw [e, Nat.mod_mul_right_div_self, Nat.mod_mul_right_mod, Nat.div_div_eq_div_mul, ← Nat.pow_add]
  congr 3; omega
set_option maxRecDepth 100000 in
set_option maxHeartbeats 1600000 in
theorem nbytes_any (n : Nat) (w : World) :
    Calls Tryd.prog 47 #[narrowV n] w fun e w' => ∃ g, e = .returned (.slice (some ⟨g, 0, none⟩) 32 32) ∧ w.grownBy w' none ∧ w'.ownsRow w.heap.size 5 1 (.slice (some ⟨g, 0, none⟩) 32 32) 32 ((bytesN n 32).map u8N) := by
  obtain ⟨i, z, hi, hz, hs, hb, hc⟩ := Ow.info_u8
  obtain ⟨w1, hmk, ho1, hg1⟩ := run_make_own (w.alloc (.cells #[wV n 0, wV n 1, wV n 2, wV n 3] 68)) w.heap.size 22 5 i z 1 (P := Tryd.prog) Tryd.underlying22 hi hz hs .i64 .i64 32 (by rw [hb]; omega) (by unfold maxLen; omega) (by simp)
  have hsz : (w.alloc (.cells #[wV n 0, wV n 1, wV n 2, wV n 3] 68)).heap.size = w.heap.size + 1 := by simp
  rw [hsz] at hmk ho1
  have hmk' : (Instr.makeSlice 22 (.int .i64 0) (.int .i64 32)).run Tryd.prog (w.alloc (.cells #[wV n 0, wV n 1, wV n 2, wV n 3] 68)) = .ok (.slice (some ⟨w.heap.size + 1, 0, none⟩) 0 32) w1 := hmk
  clear hmk
  have hg01 := gb_trans (gb_alloc (gb_refl w none) _) hg1
  have hbx := (Blk.new w [wV n 0, wV n 1, wV n 2, wV n 3] 68).grown hg1 (by simp)
  have HO := Lib.hid (And.intro ho1 hg01); clear ho1 hg01 hg1 hi hz hs hb hc hsz
  have hidx : ∀ j : Nat, j < 4 → ∀ w, (Instr.index 68 (.agg #[wV n 0, wV n 1, wV n 2, wV n 3]) (.int .i64 j)).run Tryd.prog w = .ok (.int .u64 (Sc.wrd n j : Int)) w := by
    intro j hj w
    obtain rfl | rfl | rfl | rfl : j = 0 ∨ j = 1 ∨ j = 2 ∨ j = 3 := by omega
    all_goals kernel_rfl
  unfold wV u64N at hmk' hidx hbx
  have c0 := hbx.cell (i := 0) rfl
  have c1 := hbx.cell (i := 1) rfl
  have c2 := hbx.cell (i := 2) rfl
  have c3 := hbx.cell (i := 3) rfl
  have HIX := Lib.hid hidx; clear hidx hbx
  unfold narrowV wV u64N
  go_enter Tryd.func47, Tryd.ntmps47
  go_wp2
  go_loopw [3, 8] (fun v i wr => ∃ j m : Nat, j ≤ 4 ∧ m = 8 * j ∧ i = .int .i64 j ∧ v = .slice (some ⟨w.heap.size + 1, 0, none⟩) m 32 ∧ wr.ownsRow w.heap.size 5 1 (.slice (some ⟨w.heap.size + 1, 0, none⟩) m 32) m ((bytesN n m).map u8N) ∧ w.grownBy wr none) (fun _ i _ => 4 - (intOf i).toNat)
  case atStart => exact ⟨0, 0, by omega, rfl, rfl, rfl, HO.out.1, HO.out.2⟩
  case round =>
    obtain ⟨j, m, hj, hm, rfl, rfl, hown, hg⟩ := hrel
    by_cases hlt : j < 4
    · have hix := HIX.out j hlt
      have HI := Lib.hid (And.intro hown (And.intro hg hm)); clear hown hg hm
      obtain ⟨y, hy⟩ : ∃ y, y = Sc.wrd n j := ⟨_, rfl⟩
      have hyl : y < 18446744073709551616 := by rw [hy]; exact Sc.wrd_lt n j
      rw [← hy] at hix
      have HY := Lib.hid hy; clear hy
      have i0 : (j : Int) < 4 := by omega
      go_wp2
      go_loopw [3, 5, 11] (fun v y i wr => ∃ k m' x : Nat, k ≤ 8 ∧ m' = 8 * j + k ∧ x = Sc.wrd n j / 2 ^ (8 * k) ∧ i = .int .i64 k ∧ y = .int .u64 x ∧ v = .slice (some ⟨w.heap.size + 1, 0, none⟩) m' 32 ∧ wr.ownsRow w.heap.size 5 1 (.slice (some ⟨w.heap.size + 1, 0, none⟩) m' 32) m' ((bytesN n m').map u8N) ∧ w.grownBy wr none) (fun _ _ i _ => 8 - (intOf i).toNat)
      case atStart => exact ⟨0, m, y, by omega, by rw [HI.out.2.2]; rfl, by rw [HY.out]; simp, rfl, rfl, rfl, HI.out.1, HI.out.2.1⟩
      case round =>
        clear HI hix HY hyl
        obtain ⟨k, m', x, hk, hm', hx, rfl, rfl, rfl, hown, hg⟩ := hrel
        by_cases hkl : k < 8
        · obtain ⟨b, hb⟩ : ∃ b, b = Sc.byt n m' := ⟨_, rfl⟩
          have hbl : b < 256 := by rw [hb]; exact Sc.byt_lt _ _
          have he : (x : Int) % 256 = (b : Int) := by
            have := word_byte n j k hkl
            rw [← hm', ← hx, ← hb] at this
            omega
          have hxl : x < 18446744073709551616 := by rw [hx]; exact Nat.lt_of_le_of_lt (Nat.div_le_self _ _) (Sc.wrd_lt n j)
          obtain ⟨w3, hap, ho3, hg3⟩ := append_byte_fits wr w.heap.size (w.heap.size + 1) m' 32 b _ hbl hown (by omega)
          have hg4 := gb_then hg hg3 (by omega)
          have hq : ((bytesN n m').map u8N) ++ [u8N b] = (bytesN n (m' + 1)).map u8N := by rw [bytesN_succ, hb, List.map_append]; rfl
          rw [hq] at ho3
          have hx2 : ((x / 256 : Nat) : Int) = (x : Int) / 256 := by omega
          have hx3 : x / 256 = Sc.wrd n j / 2 ^ (8 * (k + 1)) := by
            rw [hx, Nat.div_div_eq_div_mul, show 8 * (k + 1) = 8 * k + 8 by omega, Nat.pow_add]
          unfold u8N at hap
          have HI := Lib.hid (And.intro hap (And.intro ho3 (And.intro hg4 (And.intro hm' (And.intro hx2 hx3))))); clear hap ho3 hg4 hg3 hm' hx2 hx3 hx hb hown hg hq
          have i0 : (k : Int) < 8 := by omega
          go_wp2_with (at_builtin; refine wpList_append_run rfl (.tmp 13) (.tmp 16) 22 rfl rfl _ _ rfl rfl _ _ HI.out.1 ?_)
          go_roundw
          case rel => exact ⟨k + 1, m' + 1, x / 256, by omega, by have := HI.out.2.2.2.1; omega, HI.out.2.2.2.2.2, by go_num, by rw [HI.out.2.2.2.2.1], rfl, HI.out.2.1, HI.out.2.2.1⟩
          case measure => simp [intOf]; omega
        · obtain rfl : k = 8 := by omega
          have HI := Lib.hid (And.intro hown (And.intro hg hm')); clear hown hg hm' hx
          go_wp2
          go_roundw
          case rel => exact ⟨j + 1, m', by omega, by have := HI.out.2.2; omega, by go_num, rfl, HI.out.1, HI.out.2.1⟩
          case measure => simp [intOf]; omega
    · obtain rfl : j = 4 := by omega
      obtain rfl : m = 32 := by omega
      have HI := Lib.hid (And.intro hown hg); clear hown hg hm
      go_wp2
      go_ret
      exact ⟨_, rfl, HI.out.2, HI.out.1⟩
end Go.Proofs.YtleegbaigedebaaDoor

/- scalar: the mathematics of products word by word. -/
namespace Go.Proofs.YtleegbaigedebaaDoor
namespace Sc

theorem pow64 (j : Nat) : (2 : Nat) ^ (64 * (j + 1)) = 2 ^ (64 * j) * 18446744073709551616 := by rw [show 64 * (j + 1) = 64 * j + 64 by omega, Nat.pow_add]
theorem wrd_low (n i j : Nat) (h : i < j) : wrd (n % 2 ^ (64 * j)) i = wrd n i := by
  have e : (2 : Nat) ^ (64 * j) = 2 ^ (64 * i) * (18446744073709551616 * 2 ^ (64 * (j - i - 1))) := by
    rw [show (18446744073709551616 : Nat) = 2 ^ 64 by rfl, ← Nat.pow_add, ← Nat.pow_add]; congr 1; omega
  unfold wrd
  rw [e, Nat.mod_mul_right_div_self, Nat.mod_mul_right_mod]
theorem wrd_high (n i j : Nat) : wrd n (j + i) = wrd (n / 2 ^ (64 * j)) i := by
  unfold wrd
  rw [Nat.div_div_eq_div_mul, ← Nat.pow_add]
  congr 3; omega
theorem setw (M j v : Nat) (hv : v < 18446744073709551616) : ∃ M', wrd M' j = v ∧ (∀ i, i ≠ j → wrd M' i = wrd M i) ∧ M' + wrd M j * 2 ^ (64 * j) = M + v * 2 ^ (64 * j) := by
  have hp : 0 < 2 ^ (64 * j) := Nat.pow_pos (by decide)
  have e1 := Nat.div_add_mod M (2 ^ (64 * j))
  have hl := Nat.mod_lt M hp
  refine ⟨(M / 2 ^ (64 * j) / 18446744073709551616 * 18446744073709551616 + v) * 2 ^ (64 * j) + M % 2 ^ (64 * j), ?_, ?_, ?_⟩
  · unfold wrd
    rw [Nat.mul_comm _ (2 ^ (64 * j)), Nat.mul_add_div hp, Nat.div_eq_of_lt hl]
    omega
  · intro i hi
    rcases Nat.lt_or_ge i j with h | h
    · rw [← wrd_low _ i j h, ← wrd_low M i j h, Nat.mul_comm _ (2 ^ (64 * j)), Nat.mul_add_mod, Nat.mod_mod]
    · obtain ⟨d, rfl⟩ : ∃ d, i = (j + 1) + d := ⟨i - (j + 1), by omega⟩
      rw [wrd_high, wrd_high M, pow64, ← Nat.div_div_eq_div_mul, ← Nat.div_div_eq_div_mul, Nat.mul_comm _ (2 ^ (64 * j)), Nat.mul_add_div hp, Nat.div_eq_of_lt hl]
      congr 1; omega
  · have e2 : wrd M j = M / 2 ^ (64 * j) % 18446744073709551616 := rfl
    have e3 := Nat.div_add_mod (M / 2 ^ (64 * j)) 18446744073709551616
    rw [e2]
    generalize M / 2 ^ (64 * j) = q at *
    generalize M % 2 ^ (64 * j) = r at *
    generalize 2 ^ (64 * j) = p at *
    have e4 : (q / 18446744073709551616 * 18446744073709551616 + v) * p + q % 18446744073709551616 * p = (q + v) * p := by rw [← Nat.add_mul]; congr 1; omega
    rw [Nat.add_mul q] at e4
    rw [Nat.mul_comm] at e1
    omega
theorem mod_next (n k : Nat) : n % 2 ^ (64 * (k + 1)) = n % 2 ^ (64 * k) + wrd n k * 2 ^ (64 * k) := by
  rw [pow64, Nat.mod_mul, Nat.mul_comm (2 ^ (64 * k))]; rfl
theorem mul_in (M N x b i k o : Nat) (h : M + o * 2 ^ (64 * (i + k)) = N + x * (b % 2 ^ (64 * k)) * 2 ^ (64 * i)) :
    ∃ M', wrd M' (i + k) = (x * wrd b k + wrd M (i + k) + o) % 18446744073709551616 ∧ (∀ j, j ≠ i + k → wrd M' j = wrd M j) ∧
      M' + (x * wrd b k + wrd M (i + k) + o) / 18446744073709551616 * 2 ^ (64 * (i + k + 1)) = N + x * (b % 2 ^ (64 * (k + 1))) * 2 ^ (64 * i) := by
  obtain ⟨M', h1, h2, h3⟩ := setw M (i + k) ((x * wrd b k + wrd M (i + k) + o) % 18446744073709551616) (Nat.mod_lt _ (by decide))
  refine ⟨M', h1, h2, ?_⟩
  rw [pow64, mod_next, Nat.mul_add x, Nat.add_mul]
  have e1 : x * (wrd b k * 2 ^ (64 * k)) * 2 ^ (64 * i) = x * wrd b k * 2 ^ (64 * (i + k)) := by
    rw [show 64 * (i + k) = 64 * k + 64 * i by omega, Nat.pow_add]; simp [Nat.mul_assoc]
  rw [e1, ← Nat.add_assoc, ← h]
  generalize x * wrd b k = y at *
  generalize 2 ^ (64 * (i + k)) = p at *
  generalize wrd M (i + k) = m at *
  have e2 := Nat.div_add_mod (y + m + o) 18446744073709551616
  have e3 : (18446744073709551616 * ((y + m + o) / 18446744073709551616) + (y + m + o) % 18446744073709551616) * p = (y + m + o) * p := by rw [e2]
  rw [Nat.add_mul, Nat.add_mul, Nat.add_mul] at e3
  have e4 : (y + m + o) / 18446744073709551616 * (p * 18446744073709551616) = 18446744073709551616 * ((y + m + o) / 18446744073709551616) * p := by
    rw [Nat.mul_comm p, ← Nat.mul_assoc, Nat.mul_comm 18446744073709551616]
  rw [e4]
  omega
def part (a b c i : Nat) : Nat := c + a % 2 ^ (64 * i) * b
theorem part_lt (a b c i : Nat) (hb : b < 2 ^ 256) (hc : c < 2 ^ 256) : part a b c i < 2 ^ (64 * (i + 4)) := by
  have e : (2 : Nat) ^ (64 * (i + 4)) = 2 ^ (64 * i) * 2 ^ 256 := by rw [← Nat.pow_add]; congr 1
  have hp : 0 < 2 ^ (64 * i) := Nat.pow_pos (by decide)
  have h1 := Nat.mod_lt a hp
  unfold part
  rw [e]
  have h2 := Nat.mul_le_mul (show a % 2 ^ (64 * i) ≤ 2 ^ (64 * i) - 1 by omega) (show b ≤ 2 ^ 256 - 1 by omega)
  have h3 : (2 ^ (64 * i) - 1) * (2 ^ 256 - 1) + (2 ^ 256 - 1) = 2 ^ (64 * i) * (2 ^ 256 - 1) := by
    obtain ⟨p, hp2⟩ : ∃ p, 2 ^ (64 * i) = p + 1 := ⟨2 ^ (64 * i) - 1, by omega⟩
    rw [hp2, Nat.add_sub_cancel, Nat.add_mul, Nat.one_mul]
  have h4 : 2 ^ (64 * i) * (2 ^ 256 - 1) < 2 ^ (64 * i) * 2 ^ 256 := Nat.mul_lt_mul_of_pos_left (by decide) hp
  omega
theorem part_top (a b c i j : Nat) (hb : b < 2 ^ 256) (hc : c < 2 ^ 256) (hj : i + 4 ≤ j) : wrd (part a b c i) j = 0 := by
  have h := part_lt a b c i hb hc
  have h2 : (2 : Nat) ^ (64 * (i + 4)) ≤ 2 ^ (64 * j) := Nat.pow_le_pow_right (by decide) (by omega)
  unfold wrd
  rw [Nat.div_eq_of_lt (by omega)]
theorem part_next (a b c i : Nat) : part a b c (i + 1) = part a b c i + wrd a i * b * 2 ^ (64 * i) := by
  unfold part
  rw [mod_next, Nat.add_mul, Nat.mul_assoc (wrd a i), Nat.mul_assoc (wrd a i), Nat.mul_comm b, Nat.add_assoc]
theorem part_end (a b c : Nat) (ha : a < 2 ^ 256) : part a b c 4 = a * b + c := by
  unfold part
  rw [Nat.mod_eq_of_lt ha, Nat.add_comm]
theorem mul_out (M N x b i o : Nat) (hb : b < 2 ^ 256) (h : M + o * 2 ^ (64 * (i + 4)) = N + x * (b % 2 ^ (64 * 4)) * 2 ^ (64 * i)) (hz : wrd M (i + 4) = 0) (ho : o < 18446744073709551616) :
    ∃ M', wrd M' (i + 4) = o ∧ (∀ j, j ≠ i + 4 → wrd M' j = wrd M j) ∧ M' = N + x * b * 2 ^ (64 * i) := by
  obtain ⟨M', h1, h2, h3⟩ := setw M (i + 4) o ho
  refine ⟨M', h1, h2, ?_⟩
  rw [hz, Nat.zero_mul, Nat.add_zero, h, Nat.mod_eq_of_lt hb] at h3
  exact h3
theorem over_lt (x y m o : Nat) (hx : x < 18446744073709551616) (hy : y < 18446744073709551616) (hm : m < 18446744073709551616) (ho : o < 18446744073709551616) : (x * y + m + o) / 18446744073709551616 < 18446744073709551616 := by
  have h := Nat.mul_le_mul (show x ≤ 18446744073709551615 by omega) (show y ≤ 18446744073709551615 by omega)
  omega
end Sc
end Go.Proofs.YtleegbaigedebaaDoor

/- scalar: mulAdd: the words of a product and a sum. -/
namespace Go.Proofs.YtleegbaigedebaaDoor
open Go.RowKit Ow

theorem size_u64 : (Tryd.prog.info? 24).map (·.size) = some 1 := by kernel_rfl
theorem copy_words (R C c : Nat) (T S : TypeId) (tl : List Value) (w : World) (hR : Blk w R T (wds 0 8 ++ tl)) (hC : Blk w C S [wV c 0, wV c 1, wV c 2, wV c 3]) (hc : c < 2 ^ 256) :
    ∃ w', (Builtin.copy_ #[98, 98] 3 #[.slice (some ⟨R, 0, none⟩) 8 8, .slice (some ⟨C, 0, none⟩) 4 4]).run Tryd.prog w = .ok (.int .i64 4) w' ∧ w.grownBy w' (some R) ∧ Blk w' R T (wds c 8 ++ tl) := by
  have h := run_copy_row (P := Tryd.prog) w 98 98 3 24 R 0 8 8 ⟨C, 0, none⟩ 4 4 (wds 0 8 ++ tl).toArray T [wV c 0, wV c 1, wV c 2, wV c 3] Tryd.underlying98 size_u64 hR rfl
    (fun j v hv => by
      have hj : j < 4 := by
        rcases Nat.lt_or_ge j 4 with h | h
        · exact h
        · rw [List.getElem?_eq_none (by simpa using h)] at hv; cases hv
      have hadd : (⟨C, 0, none⟩ : Addr).add j = ⟨C, j, none⟩ := by unfold Addr.add; split <;> simp_all
      rw [hadd]; exact hC.cell hv) (by simp [wds]; omega) (by intro v hv; simp at hv; rcases hv with rfl | rfl | rfl | rfl <;> rfl)
  refine ⟨_, h, gb_setRow' (gb_refl _ _) _, ?_⟩
  have e : ((wds 0 8 ++ tl).toArray.toList.take 0 ++ ([wV c 0, wV c 1, wV c 2, wV c 3] ++ (wds 0 8 ++ tl).toArray.toList.drop (0 + 4))) = wds c 8 ++ tl := by
    have z : ∀ j, 4 ≤ j → wV c j = wV 0 j := fun j hj => by
      have hp : (2 : Nat) ^ 256 ≤ 2 ^ (64 * j) := Nat.pow_le_pow_right (by decide) (by omega)
      unfold wV Sc.wrd
      rw [Nat.div_eq_of_lt (by omega), Nat.zero_div]
    rw [wds8, wds8, z 4 (by decide), z 5 (by decide), z 6 (by decide), z 7 (by decide)]
    rfl
  rw [← e]
  exact hR.row _
theorem narrow_index (n j : Nat) (hj : j < 4) : ∀ w, (Instr.index 68 (.agg #[.int .u64 (Sc.wrd n 0 : Int), .int .u64 (Sc.wrd n 1 : Int), .int .u64 (Sc.wrd n 2 : Int), .int .u64 (Sc.wrd n 3 : Int)]) (.int .i64 j)).run Tryd.prog w = .ok (.int .u64 (Sc.wrd n j : Int)) w := by
  intro w
  obtain rfl | rfl | rfl | rfl : j = 0 ∨ j = 1 ∨ j = 2 ∨ j = 3 := by omega
  all_goals kernel_rfl
set_option maxRecDepth 100000 in
set_option maxHeartbeats 1600000 in
theorem mulAdd_any (R a b c : Nat) (T : TypeId) (Y tl : List Value) (w : World) (hY : Y.length = 8) (ha : a < 2 ^ 256) (hbb : b < 2 ^ 256) (hc : c < 2 ^ 256) (hb : Blk w R T (Y ++ tl)) :
    Calls Tryd.prog 44 #[.pointer (some ⟨R, 0, none⟩), narrowV a, narrowV b, narrowV c] w fun e w' => e = .returned (.tuple #[]) ∧ w.grownBy w' (some R) ∧ Blk w' R T (wds (a * b + c) 8 ++ tl) := by
  have HB := Lib.hid hb; clear hb
  match Y, hY with
  | [y0, y1, y2, y3, y4, y5, y6, y7], _ =>
    have hR := HB.out.lt
    have hb3 := ((HB.out.alloc (.cells #[wV a 0, wV a 1, wV a 2, wV a 3] 68)).alloc (.cells #[wV b 0, wV b 1, wV b 2, wV b 3] 68)).alloc (.cells #[wV c 0, wV c 1, wV c 2, wV c 3] 68)
    unfold wV u64N at hb3
    have c0 := hb3.cell (i := 0) rfl
    have c1 := hb3.cell (i := 1) rfl
    have c2 := hb3.cell (i := 2) rfl
    have c3 := hb3.cell (i := 3) rfl
    have c4 := hb3.cell (i := 4) rfl
    have c5 := hb3.cell (i := 5) rfl
    have c6 := hb3.cell (i := 6) rfl
    have c7 := hb3.cell (i := 7) rfl
    have f0 := hb3.free 0
    have f1 := hb3.free 1
    have f2 := hb3.free 2
    have f3 := hb3.free 3
    have f4 := hb3.free 4
    have f5 := hb3.free 5
    have f6 := hb3.free 6
    have f7 := hb3.free 7
    have HB3 := Lib.hid hb3; clear hb3
    unfold narrowV wV u64N
    go_enter Tryd.func44, Tryd.ntmps44
    go_wp2
    have hA := (((Blk.new w [wV a 0, wV a 1, wV a 2, wV a 3] 68).alloc (.cells #[wV b 0, wV b 1, wV b 2, wV b 3] 68)).alloc (.cells #[wV c 0, wV c 1, wV c 2, wV c 3] 68))
    have hBB := ((blk_at (w.alloc (.cells #[wV a 0, wV a 1, wV a 2, wV a 3] 68)) (B := w.heap.size + 1) [wV b 0, wV b 1, wV b 2, wV b 3] 68 (by simp)).alloc (.cells #[wV c 0, wV c 1, wV c 2, wV c 3] 68))
    have hC := (blk_at ((w.alloc (.cells #[wV a 0, wV a 1, wV a 2, wV a 3] 68)).alloc (.cells #[wV b 0, wV b 1, wV b 2, wV b 3] 68)) (B := w.heap.size + 1 + 1) [wV c 0, wV c 1, wV c 2, wV c 3] 68 (by simp))
    have hg3 := gb_alloc (gb_alloc (gb_alloc (gb_refl w (some R)) (.cells #[wV a 0, wV a 1, wV a 2, wV a 3] 68)) (.cells #[wV b 0, wV b 1, wV b 2, wV b 3] 68)) (.cells #[wV c 0, wV c 1, wV c 2, wV c 3] 68)
    unfold wV u64N at hA hBB hC hg3
    have HB3' := HB3.out
    clear c0 c1 c2 c3 c4 c5 c6 c7 f0 f1 f2 f3 f4 f5 f6 f7 HB3 HB
    revert hA hBB hC hg3 HB3'
    have hs0 : w.heap.size + 3 ≤ (((w.alloc (.cells #[.int .u64 (Sc.wrd a 0 : Int), .int .u64 (Sc.wrd a 1 : Int), .int .u64 (Sc.wrd a 2 : Int), .int .u64 (Sc.wrd a 3 : Int)] 68)).alloc (.cells #[.int .u64 (Sc.wrd b 0 : Int), .int .u64 (Sc.wrd b 1 : Int), .int .u64 (Sc.wrd b 2 : Int), .int .u64 (Sc.wrd b 3 : Int)] 68)).alloc (.cells #[.int .u64 (Sc.wrd c 0 : Int), .int .u64 (Sc.wrd c 1 : Int), .int .u64 (Sc.wrd c 2 : Int), .int .u64 (Sc.wrd c 3 : Int)] 68)).heap.size := by simp
    revert hs0
    generalize ((w.alloc (.cells #[.int .u64 (Sc.wrd a 0 : Int), .int .u64 (Sc.wrd a 1 : Int), .int .u64 (Sc.wrd a 2 : Int), .int .u64 (Sc.wrd a 3 : Int)] 68)).alloc (.cells #[.int .u64 (Sc.wrd b 0 : Int), .int .u64 (Sc.wrd b 1 : Int), .int .u64 (Sc.wrd b 2 : Int), .int .u64 (Sc.wrd b 3 : Int)] 68)).alloc (.cells #[.int .u64 (Sc.wrd c 0 : Int), .int .u64 (Sc.wrd c 1 : Int), .int .u64 (Sc.wrd c 2 : Int), .int .u64 (Sc.wrd c 3 : Int)] 68) = W3
    intro hs0 hA hBB hC hg3 hR3
    have hR4 := (((((((hR3.set 0 (wV 0 0)).set 1 (wV 0 1)).set 2 (wV 0 2)).set 3 (wV 0 3)).set 4 (wV 0 4)).set 5 (wV 0 5)).set 6 (wV 0 6)).set 7 (wV 0 7)
    have hG4 := gb_set (gb_set (gb_set (gb_set (gb_set (gb_set (gb_set (gb_set hg3 0 (wV 0 0)) 1 (wV 0 1)) 2 (wV 0 2)) 3 (wV 0 3)) 4 (wV 0 4)) 5 (wV 0 5)) 6 (wV 0 6)) 7 (wV 0 7)
    have hgA := gb_set (gb_set (gb_set (gb_set (gb_set (gb_set (gb_set (gb_set (gb_refl W3 (some R)) 0 (wV 0 0)) 1 (wV 0 1)) 2 (wV 0 2)) 3 (wV 0 3)) 4 (wV 0 4)) 5 (wV 0 5)) 6 (wV 0 6)) 7 (wV 0 7)
    have hR5 : Blk _ R T (wds 0 8 ++ tl) := hR4
    have hA4 := hA.grown hgA (some_ne' (by omega))
    have hB4 := hBB.grown hgA (some_ne' (by omega))
    have hC4 := hC.grown hgA (some_ne' (by omega))
    simp only [wV0] at hR5 hG4 hA4 hB4 hC4
    clear hR4 hgA hA hBB hC hg3 hR3 hs0
    revert hR5 hG4 hA4 hB4 hC4
    generalize (((((((W3.setCell ⟨R, 0, none⟩ (.int .u64 0)).setCell ⟨R, 1, none⟩ (.int .u64 0)).setCell ⟨R, 2, none⟩ (.int .u64 0)).setCell ⟨R, 3, none⟩ (.int .u64 0)).setCell ⟨R, 4, none⟩ (.int .u64 0)).setCell ⟨R, 5, none⟩ (.int .u64 0)).setCell ⟨R, 6, none⟩ (.int .u64 0)).setCell ⟨R, 7, none⟩ (.int .u64 0) = W4
    intro hR5 hG4 hA4 hB4 hC4
    obtain ⟨w5, hcp, hg5, hb5⟩ := copy_words R (w.heap.size + 1 + 1) c T _ tl W4.drew hR5.drew hC4.drew hc
    have hGG := Lib.hid (gb_trans (gb_drew hG4) hg5)
    have HA := Lib.hid (hA4.drew.grown hg5 (some_ne' (by omega)))
    have HBB := Lib.hid (hB4.drew.grown hg5 (some_ne' (by omega)))
    have HR := Lib.hid hb5
    clear hb5 hg5 hR5 hG4 hA4 hB4 hC4
    have hcA := HA.out
    have a0 := hcA.cell (i := 0) rfl
    have a1 := hcA.cell (i := 1) rfl
    have a2 := hcA.cell (i := 2) rfl
    have a3 := hcA.cell (i := 3) rfl
    clear hcA
    go_region
    all_goals go_wp2
    have hz : Sc.part a b c 0 = c := by unfold Sc.part; rw [Nat.mul_zero, Nat.pow_zero, Nat.mod_one, Nat.zero_mul, Nat.add_zero]
    have HR0 : Hid (Blk w5 R T (wds (Sc.part a b c 0) 8 ++ tl)) := by rw [hz]; exact HR
    clear hz a0 a1 a2 a3
    go_loopw [22] (fun t wr => ∃ i : Nat, i ≤ 4 ∧ t = .int .i64 i ∧ w.grownBy wr (some R) ∧ Blk wr R T (wds (Sc.part a b c i) 8 ++ tl) ∧ Blk wr (w.heap.size + 1) 68 [.int .u64 (Sc.wrd b 0 : Int), .int .u64 (Sc.wrd b 1 : Int), .int .u64 (Sc.wrd b 2 : Int), .int .u64 (Sc.wrd b 3 : Int)]) (fun t _ => 4 - (intOf t).toNat)
    case atStart => exact ⟨0, by omega, rfl, hGG.out, HR0.out, HBB.out⟩
    case round =>
      clear hGG HR0 HBB HR HA hcp
      obtain ⟨i, hi, rfl, hg, hbR, hbB⟩ := hrel
      by_cases hlt : i < 4
      · have hix := narrow_index a i hlt
        have b0 := hbB.cell (i := 0) rfl
        have b1 := hbB.cell (i := 1) rfl
        have b2 := hbB.cell (i := 2) rfl
        have b3 := hbB.cell (i := 3) rfl
        have HG := Lib.hid hg; clear hg
        have HR := Lib.hid hbR; clear hbR
        have HBB := Lib.hid hbB; clear hbB
        obtain ⟨x, hx⟩ : ∃ x, x = Sc.wrd a i := ⟨_, rfl⟩
        have hxl : x < 18446744073709551616 := by rw [hx]; exact Sc.wrd_lt a i
        rw [← hx] at hix
        have HX := Lib.hid hx; clear hx
        have i0 : (i : Int) < 4 := by omega
        go_wp2
        clear b0 b1 b2 b3
        go_loopw [10, 27] (fun ot kt wr => ∃ k o M : Nat, k ≤ 4 ∧ o < 18446744073709551616 ∧ ot = .int .u64 o ∧ kt = .int .i64 k ∧ M + o * 2 ^ (64 * (i + k)) = Sc.part a b c i + x * (b % 2 ^ (64 * k)) * 2 ^ (64 * i) ∧ (∀ j, i + 4 ≤ j → Sc.wrd M j = Sc.wrd (Sc.part a b c i) j) ∧ w.grownBy wr (some R) ∧ Blk wr R T (wds M 8 ++ tl) ∧ Blk wr (w.heap.size + 1) 68 [.int .u64 (Sc.wrd b 0 : Int), .int .u64 (Sc.wrd b 1 : Int), .int .u64 (Sc.wrd b 2 : Int), .int .u64 (Sc.wrd b 3 : Int)]) (fun _ kt _ => 4 - (intOf kt).toNat)
        case atStart => exact ⟨0, 0, Sc.part a b c i, by omega, by decide, rfl, rfl, by simp [Nat.mod_one], fun _ _ => rfl, HG.out, HR.out, HBB.out⟩
        case round =>
          clear HG HR HBB hix
          obtain ⟨k, o, M, hk, hol, rfl, rfl, hM, hT, hg, hbR, hbB⟩ := hrel
          by_cases hkl : k < 4
          · have hix := narrow_index b k hkl
            obtain ⟨j, hj⟩ : ∃ j, j = i + k := ⟨_, rfl⟩
            have hji : (i : Int) + (k : Int) = (j : Int) := by omega
            have j7 : j < 8 := by omega
            obtain ⟨M', m1, m2, m3⟩ := Sc.mul_in M _ x b i k o hM
            rw [← hj] at m1 m2 m3
            have hol2 := Sc.over_lt x (Sc.wrd b k) (Sc.wrd M j) o hxl (Sc.wrd_lt _ _) (Sc.wrd_lt _ _) hol
            have hset := wds_set M M' 8 j j7 tl _ m1 m2
            have r0 := hbR.cell (wds_get M 8 j j7 tl)
            have f0 := hbR.free j
            have hmw := fun W => maw_any x (Sc.wrd b k) (Sc.wrd M j) o W hxl (Sc.wrd_lt _ _) (Sc.wrd_lt _ _) hol
            have hT2 : ∀ j', i + 4 ≤ j' → Sc.wrd M' j' = Sc.wrd (Sc.part a b c i) j' := fun j' hj' => by rw [m2 j' (by omega)]; exact hT j' hj'
            have m4 : M' + (x * Sc.wrd b k + Sc.wrd M j + o) / 18446744073709551616 * 2 ^ (64 * (i + (k + 1))) = Sc.part a b c i + x * (b % 2 ^ (64 * (k + 1))) * 2 ^ (64 * i) := by
              have e : i + (k + 1) = j + 1 := by omega
              rw [e]; exact m3
            have HS := Lib.hid (And.intro hset (And.intro m4 (And.intro hT2 hol2))); clear hset m1 m2 m3 m4 hT hT2 hM hol2
            have HMW := Lib.hid hmw; clear hmw
            have HG := Lib.hid hg; clear hg
            have HR := Lib.hid hbR; clear hbR
            have HBB := Lib.hid hbB; clear hbB
            have HJ := Lib.hid hj; clear hj
            unfold wV u64N at r0
            generalize (x * Sc.wrd b k + Sc.wrd M j + o) / 18446744073709551616 = o' at *
            generalize (x * Sc.wrd b k + Sc.wrd M j + o) % 18446744073709551616 = v' at *
            have k0 : (k : Int) < 4 := by omega
            go_wp2
            have hwr : IntKind.i64.wrap ((i : Int) + (k : Int)) = (j : Int) := by rw [hji]; exact IntWalk.i64_in _ (by omega)
            clear hji
            go_region_with (go_at_call 60; refine (HMW.out _).mono ?_; rintro e w' ⟨rfl, rfl⟩)
            clear hwr
            all_goals go_wp2
            go_roundw
            case rel =>
              refine ⟨k + 1, o', M', by omega, HS.out.2.2.2, rfl, by go_num, HS.out.2.1, HS.out.2.2.1, gb_drew (gb_set HG.out _ _), ?_, (HBB.out.other (by show ¬ R = w.heap.size + 1; omega) _).drew⟩
              have h := HR.out.set j (u64N v')
              rw [HS.out.1] at h
              exact h.drew
            case measure => simp [intOf]; omega
          · obtain rfl : k = 4 := by omega
            have hz4 : Sc.wrd M (i + 4) = 0 := by rw [hT (i + 4) (by omega)]; exact Sc.part_top a b c i (i + 4) hbb hc (by omega)
            obtain ⟨M', m1, m2, m3⟩ := Sc.mul_out M _ x b i o hbb hM hz4 hol
            have m4 : M' = Sc.part a b c (i + 1) := by rw [m3, Sc.part_next, HX.out]
            subst m4
            obtain ⟨j, hj⟩ : ∃ j, j = i + 4 := ⟨_, rfl⟩
            have hji : (i : Int) + 4 = (j : Int) := by omega
            have j7 : j < 8 := by omega
            rw [← hj] at m1 m2
            have hset := wds_set M (Sc.part a b c (i + 1)) 8 j j7 tl _ m1 m2
            have r0 := hbR.cell (wds_get M 8 j j7 tl)
            have f0 := hbR.free j
            have HS := Lib.hid hset; clear hset m1 m2 m3 hT hM hz4
            have HG := Lib.hid hg; clear hg
            have HR := Lib.hid hbR; clear hbR
            have HBB := Lib.hid hbB; clear hbB
            have HJ := Lib.hid hj; clear hj
            unfold wV u64N at r0
            go_wp2
            go_roundw
            case rel =>
              refine ⟨i + 1, by omega, by go_num, gb_set HG.out _ _, ?_, HBB.out.other (by show ¬ R = w.heap.size + 1; omega) _⟩
              have h := HR.out.set j (u64N o)
              rw [HS.out] at h
              exact h
            case measure => simp [intOf]; omega
      · obtain rfl : i = 4 := by omega
        rw [Sc.part_end a b c ha] at hbR
        have HG := Lib.hid hg; clear hg
        have HR := Lib.hid hbR; clear hbR hbB
        go_wp2
        go_end0
        exact ⟨rfl, HG.out, HR.out⟩
end Go.Proofs.YtleegbaigedebaaDoor

/- scalar: bytes that are told, as slices; numbers of bytes. -/
namespace Go.Proofs.YtleegbaigedebaaDoor
open Go.RowKit Ow
theorem own_blk {w : World} {base e n g : Nat} {xs : List Value} (h : w.ownsRow base e 1 (.slice (some ⟨g, 0, none⟩) n n) n xs) : Blk w g e xs ∧ base ≤ g := by
  rcases h.2 with ⟨h0, _⟩ | ⟨g', cap, cur, e1, hb, hg, _, _, hs, ht⟩
  · cases h0
  · cases e1
    refine ⟨?_, hb⟩
    have : cur.toList = xs := by rw [← ht, List.take_of_length_le]; rw [Array.length_toList]; omega
    unfold Blk
    rw [hg, ← this, Array.toArray_toList]
def OutB (l : List Nat) (w : World) (e : Ending) (w' : World) : Prop := ∃ g, e = .returned (.slice (some ⟨g, 0, none⟩) l.length l.length) ∧ w.grownBy w' none ∧ w.heap.size ≤ g ∧ Blk w' g 5 (l.map u8N)
def scB (n : Nat) : List Nat := bytesN (n % Sc.L) 32
theorem scB_length (n : Nat) : (scB n).length = 32 := bytesN_length _ _
theorem scB_lt (n i : Nat) : (scB n).getD i 0 < 256 := bytesN_lt _ _ _
theorem scB_num (n : Nat) : num (scB n) = n % Sc.L := by
  unfold scB
  rw [num_bytesN]
  exact Nat.mod_eq_of_lt (Sc.lt256 _ (Sc.mod_lt n))
theorem num_lt (l : List Nat) (hl : ∀ i, l.getD i 0 < 256) : num l < 2 ^ (8 * l.length) := Sc.leN_lt _ hl _
theorem div_top (n j k : Nat) (h : n < 2 ^ j) (hk : j ≤ k) : n / 2 ^ k = 0 := Nat.div_eq_of_lt (Nat.lt_of_lt_of_le h (Nat.pow_le_pow_right (by decide) hk))
theorem num_256 (l : List Nat) (hl : ∀ i, l.getD i 0 < 256) (h : l.length ≤ 32) : num l < 2 ^ 256 :=
  Nat.lt_of_lt_of_le (num_lt l hl) (Nat.pow_le_pow_right (by decide) (by omega))
def zeros12 : List Value := [.int .u64 0, .int .u64 0, .int .u64 0, .int .u64 0, .int .u64 0, .int .u64 0, .int .u64 0, .int .u64 0, .int .u64 0, .int .u64 0, .int .u64 0, .int .u64 0]
theorem out_of {n : Nat} {w w1 w2 : World} {g : Nat} (hg : w.grownBy w1 none) (hg2 : w1.grownBy w2 none) (ho : w2.ownsRow w1.heap.size 5 1 (.slice (some ⟨g, 0, none⟩) 32 32) 32 ((bytesN n 32).map u8N)) :
    ∀ m, n = m % Sc.L → OutB (scB m) w (.returned (.slice (some ⟨g, 0, none⟩) 32 32)) w2 := by
  rintro m rfl
  obtain ⟨hb, hge⟩ := own_blk ho
  exact ⟨g, by rw [scB_length], gb_trans hg hg2, Nat.le_trans hg.size hge, hb⟩
end Go.Proofs.YtleegbaigedebaaDoor

/- scalar: Bits: the bits of 32 bytes, one by one (eachBit). -/
namespace Go.Proofs.YtleegbaigedebaaDoor
open Go.RowKit Ow Go.Shelf
attribute [local go_sem] Oper.semAt_some

def bitAt (f : Nat → Nat) (j : Nat) : Bool := decide (f (j / 8) / 2 ^ (j % 8) % 2 = 1)
def bitsTo (f : Nat → Nat) (k : Nat) : List Bool := (List.range k).map (bitAt f)
theorem bitsTo_succ (f : Nat → Nat) (k : Nat) : bitsTo f (k + 1) = bitsTo f k ++ [bitAt f k] := by simp [bitsTo, List.range_succ]
theorem bitsTo_length (f : Nat → Nat) (k : Nat) : (bitsTo f k).length = k := by simp [bitsTo]
theorem bit_is (x j : Nat) (hx : x < 256) : (bits .and .u8 ((x : Int) / 2 ^ j) 1 == 1) = decide (x / 2 ^ j % 2 = 1) := by
  have all : ∀ j : Fin 256, (bits .and .u8 (j.val : Int) 1 == 1) = decide (j.val % 2 = 1) := by decide +kernel
  have hl : x / 2 ^ j < 256 := Nat.lt_of_le_of_lt (Nat.div_le_self _ _) hx
  have e : (x : Int) / 2 ^ j = ((x / 2 ^ j : Nat) : Int) := by rw [Int.natCast_ediv, Int.natCast_pow]; rfl
  rw [e]
  exact all ⟨x / 2 ^ j, hl⟩
def KeepsB (pb po Bs : Nat) (W W' : World) : Prop := (∀ j, j < 32 → W'.cell? ⟨pb, po + j, none⟩ = W.cell? ⟨pb, po + j, none⟩) ∧ W'.cell? ⟨Bs, 0, none⟩ = W.cell? ⟨Bs, 0, none⟩
theorem keepsB_t {pb po Bs : Nat} {A B C : World} (h : KeepsB pb po Bs A B) (k : KeepsB pb po Bs B C) : KeepsB pb po Bs A C := ⟨fun j hj => (k.1 j hj).trans (h.1 j hj), k.2.trans h.2⟩
theorem keepsB_b {pb po Bs n : Nat} (hR : pb < n) (hB : Bs < n) (W : World) (l : Nat) (o o' : Obj) (hl : n ≤ l) (h : W.heap[l]? = some o) : KeepsB pb po Bs W (W.putObj l o') := by
  have hlt : l < W.heap.size := (Array.getElem?_eq_some_iff.1 h).1
  exact ⟨fun j _ => gb_cell (grownBy_putObj' W l o') (p := ⟨pb, po + j, none⟩) (show pb < _ by omega) (some_ne' (by show pb ≠ l; omega)), gb_cell (grownBy_putObj' W l o') (p := ⟨Bs, 0, none⟩) (show Bs < _ by omega) (some_ne' (by show Bs ≠ l; omega))⟩
set_option maxHeartbeats 1000000 in
theorem eachBit_in (F : Fence) (n : Nat) (hf : F.fn 66) (hro : F.round = none) (a : Option Addr) (len cap : Nat) (w : World) :
    CallsIn F n Tryd.prog 66 #[.slice a len cap] w fun e w' => e = .returned (.func (.func 83) #[] #[.pointer (some ⟨w.heap.size, 0, none⟩)]) ∧ w' = w.alloc (.cells #[.slice a len cap] 22) := by
  refine callsIn_of_wp Tryd.func66 rfl hf ?_ hro
  simp only [Tryd.ntmps66, List.size_toArray, List.length_cons, List.length_nil, Nat.reduceAdd, Nat.reduceSub, Array.replicate_succ, Array.replicate_zero, List.push_toArray, List.append_toArray, List.nil_append, List.cons_append]
  gi_wp2
  go_ret
  exact ⟨rfl, rfl⟩
set_option maxRecDepth 100000 in
set_option maxHeartbeats 2000000 in
theorem eachBit1_in (F : Fence) (n : Nat) (hf : F.fn 83) (hro : F.round = none) (hn : 1 ≤ n) (l Bs pb po cap : Nat) (f : Nat → Nat) (hfb : ∀ i, f i < 256) (J Jx : List Bool → World → Prop)
    (hY : ∀ pre x W, J pre W → pre.length < 256 → YieldAt F (n - 1) Tryd.prog l #[.bool x] W fun e W' =>
      (e = .returned (.bool true) ∧ J (pre ++ [x]) W' ∧ KeepsB pb po Bs W W') ∨ (e = .returned (.bool false) ∧ Jx (pre ++ [x]) W'))
    (W : World) (hBs : W.cell? ⟨Bs, 0, none⟩ = some (.slice (some ⟨pb, po, none⟩) 32 cap)) (hc : ∀ j, j < 32 → W.cell? ⟨pb, po + j, none⟩ = some (.int .u8 (f j : Int))) (h0 : J [] W) :
    CallsIn F n Tryd.prog 83 #[.func (.yield l) #[] #[], .pointer (some ⟨Bs, 0, none⟩)] W fun e W' => (∃ v, e = .returned v) ∧
      ((∃ ys, ys = bitsTo f 256 ∧ J ys W') ∨ (∃ pre, True ∧ Jx pre W')) := by
  have HC := Lib.hid hc; clear hc
  have HF := Lib.hid hfb; clear hfb
  refine callsIn_of_wp Tryd.func83 rfl hf ?_ hro
  simp only [Tryd.ntmps83, List.size_toArray, List.length_cons, List.length_nil, Nat.reduceAdd, Nat.reduceSub, Array.replicate_succ, Array.replicate_zero, List.push_toArray, List.append_toArray, List.nil_append, List.cons_append]
  gi_wp2
  clear hBs
  gi_loopw [8] (fun i wr => ∃ k : Nat, k ≤ 32 ∧ i = .int .i64 k ∧ J (bitsTo f (8 * k)) wr ∧ KeepsB pb po Bs W wr) (fun i _ => 32 - (intOf i).toNat)
  case atStart => exact ⟨0, by omega, rfl, h0, ⟨fun _ _ => rfl, rfl⟩⟩
  case round =>
    obtain ⟨k, hk, rfl, hJs, hnx⟩ := hrel
    by_cases hkl : k < 32
    · have hcx : wr.cell? ⟨pb, po + k, none⟩ = some (.int .u8 (f k : Int)) := (hnx.1 k hkl).trans (HC.out k hkl)
      obtain ⟨x, hx⟩ : ∃ x, x = f k := ⟨_, rfl⟩
      have hxl : x < 256 := by rw [hx]; exact HF.out k
      rw [← hx] at hcx
      have HX := Lib.hid hx; clear hx
      have i0 : (k : Int) < 32 := by omega
      gi_wp2
      clear hcx
      gi_loopw [12] (fun t wr' => ∃ j : Nat, j ≤ 8 ∧ t = .int .i64 j ∧ J (bitsTo f (8 * k + j)) wr' ∧ KeepsB pb po Bs W wr') (fun t _ => 8 - (intOf t).toNat)
      case atStart => exact ⟨0, by omega, rfl, hJs, hnx⟩
      case round =>
        clear hJs hnx
        obtain ⟨j, hj, rfl, hJs, hnx⟩ := hrel
        by_cases hjl : j < 8
        · obtain ⟨fn, tmps, assign, body, hy, hR⟩ := hY _ (bitAt f (8 * k + j)) wr hJs (by rw [bitsTo_length]; omega)
          have hb : bitAt f (8 * k + j) = (bits .and .u8 ((x : Int) / 2 ^ j) 1 == 1) := by
            rw [bit_is x j hxl, HX.out]
            unfold bitAt
            rw [show (8 * k + j) / 8 = k by omega, show (8 * k + j) % 8 = j by omega]
          rw [hb] at hy
          have HBI := Lib.hid hb; clear hb
          gi_wp2
          refine hR.mono ?_
          rintro e W3 (⟨rfl, hJ3, hk3⟩ | ⟨rfl, hJx3⟩)
          · rw [← bitsTo_succ] at hJ3
            gi_wp2
            go_roundw
            case rel => exact ⟨j + 1, by omega, by go_num, hJ3, keepsB_t hnx hk3⟩
            case measure => simp [intOf]; omega
          · gi_wp2
            refine bodyPost_ret (results_none rfl _ _ _) rfl ?_
            exact ⟨⟨_, rfl⟩, .inr ⟨_, trivial, hJx3⟩⟩
        · obtain rfl : j = 8 := by omega
          gi_wp2
          go_roundw
          case rel => exact ⟨k + 1, by omega, by go_num, by rw [show 8 * (k + 1) = 8 * k + 8 by omega]; exact hJs, hnx⟩
          case measure => simp [intOf]; omega
    · obtain rfl : k = 32 := by omega
      gi_wp2
      go_end0
      exact ⟨⟨_, rfl⟩, .inl ⟨_, rfl, hJs⟩⟩
theorem eachBit_stops (F : Fence) (n : Nat) (hf : F.fn 83) (hro : F.round = none) (hn : 1 ≤ n) (Bs pb po cap : Nat) (f : Nat → Nat) (hfb : ∀ i, f i < 256) (w : World) (hBs : Bs < w.heap.size) (hR : pb < w.heap.size)
    (hb : w.cell? ⟨Bs, 0, none⟩ = some (.slice (some ⟨pb, po, none⟩) 32 cap)) (hc : ∀ j, j < 32 → w.cell? ⟨pb, po + j, none⟩ = some (.int .u8 (f j : Int))) :
    SeqStopsK F n Tryd.prog 83 #[.pointer (some ⟨Bs, 0, none⟩)] (fun x => #[.bool x]) (KeepsB pb po Bs) (fun ys => ys = bitsTo f 256) (fun _ => True) 256 w := fun l J Jx W hW _ _ hY h0 =>
  eachBit1_in F n hf hro hn l Bs pb po cap f hfb J Jx hY W ((hW.cell (p := ⟨Bs, 0, none⟩) hBs).trans hb) (fun j hj => (hW.cell (p := ⟨pb, po + j, none⟩) hR).trans (hc j hj)) h0
end Go.Proofs.YtleegbaigedebaaDoor

/- scalar: the bits of bytes are the bits of their number. -/
namespace Go.Proofs.YtleegbaigedebaaDoor
open Go.RowKit Ow
theorem bit_num (l : List Nat) (hl : l.length = 32) (hb : ∀ i, l.getD i 0 < 256) (m : Nat) (hm : m < 256) : bitAt (fun i => l.getD i 0) m = decide (num l / 2 ^ m % 2 = 1) := by
  have h := Sc.byt_leN (fun i => l.getD i 0) hb 32 (m / 8) (by omega)
  have hn : num l = Sc.leN (fun i => l.getD i 0) 32 := by unfold num; rw [hl]
  unfold bitAt
  have e : (fun i => l.getD i 0) (m / 8) / 2 ^ (m % 8) % 2 = num l / 2 ^ m % 2 := by
    show l.getD (m / 8) 0 / 2 ^ (m % 8) % 2 = _
    rw [← h, ← hn]
    unfold Sc.byt
    have e1 : (2 : Nat) ^ m = 2 ^ (8 * (m / 8)) * 2 ^ (m % 8) := by rw [← Nat.pow_add]; congr 1; omega
    rw [e1, ← Nat.div_div_eq_div_mul]
    generalize num l / 2 ^ (8 * (m / 8)) = x
    have e2 : (256 : Nat) = 2 ^ (m % 8) * (2 * 2 ^ (7 - m % 8)) := by
      rw [show (2 : Nat) * 2 ^ (7 - m % 8) = 2 ^ (7 - m % 8 + 1) by rw [Nat.pow_succ, Nat.mul_comm], ← Nat.pow_add, show m % 8 + (7 - m % 8 + 1) = 8 by omega]
    rw [e2, Nat.mod_mul_right_div_self, Nat.mod_mul_right_mod]
  rw [e]
end Go.Proofs.YtleegbaigedebaaDoor

/- edwards: what gather comes to (mathematics). -/
namespace Go.Proofs.YtleegbaigedebaaDoor
open Go.RowKit Ow Ed

def sel (b : Bool) (p acc : Pr) : Pr := if b then Ed.add acc p else acc
theorem chs4 (p0 p1 p2 p3 : Pr) (a b c d : Bool) : (chs [p0, p1, p2, p3]).getD (8 * d.toNat + 4 * c.toNat + 2 * b.toNat + a.toNat) zero = sel d p3 (sel c p2 (sel b p1 (sel a p0 zero))) := by
  cases a <;> cases b <;> cases c <;> cases d <;> rfl
theorem gthStep_is (T : Nat) (p0 p1 p2 p3 acc : Pr) (b : Nat → Bool) (g : Nat) (h : grp b g < 16) (ha : On acc) :
    gthStep T (chs [p0, p1, p2, p3]) acc ⟨grp b g, h⟩ = Ed.add (nmul (2 ^ T) acc) (sel (b (4 * g + 3)) p3 (sel (b (4 * g + 2)) p2 (sel (b (4 * g + 1)) p1 (sel (b (4 * g)) p0 zero)))) := by
  unfold gthStep
  rw [← chs4]
  show (if grp b g = 0 then _ else Ed.add _ ((chs [p0, p1, p2, p3]).getD (grp b g) zero)) = Ed.add _ ((chs [p0, p1, p2, p3]).getD (grp b g) zero)
  by_cases h0 : grp b g = 0
  · rw [if_pos h0, h0]
    exact (add_zero (nmul_on ha _)).symm
  · rw [if_neg h0]
theorem sel_nmul {p : Pr} (hp : On p) (b : Bool) (k m : Nat) : sel b (nmul k p) (nmul m p) = nmul (m + k * b.toNat) p := by
  cases b with
  | false => rw [show m + k * false.toNat = m by simp]; rfl
  | true => rw [show m + k * true.toNat = m + k by simp, nmul_add hp]; rfl
theorem sel_zero {p : Pr} (hp : On p) (b : Bool) : sel b p zero = nmul b.toNat p := by
  cases b with
  | false => rfl
  | true => show Ed.add zero p = nmul 1 p; rw [nmul_one hp, zero_add hp]
theorem sel4 {p : Pr} (hp : On p) (a b c d : Bool) : sel d (nmul 8 p) (sel c (nmul 4 p) (sel b (nmul 2 p) (sel a p zero))) = nmul (8 * d.toNat + 4 * c.toNat + 2 * b.toNat + a.toNat) p := by
  rw [sel_zero hp, sel_nmul hp, sel_nmul hp, sel_nmul hp]
  congr 1
  omega
theorem grp_num (n g : Nat) : grp (fun j => decide (n / 2 ^ j % 2 = 1)) g = n / 2 ^ (4 * g) % 16 := by
  have hd : ∀ x : Nat, (decide (x % 2 = 1)).toNat = x % 2 := fun x => by
    rcases Nat.mod_two_eq_zero_or_one x with h | h <;> rw [h] <;> rfl
  unfold grp
  simp only [hd, Nat.pow_add, ← Nat.div_div_eq_div_mul]
  generalize n / 2 ^ (4 * g) = x
  omega
theorem hi_step (n G k : Nat) (hk : k < G) : n / 2 ^ (4 * (G - (k + 1))) = 16 * (n / 2 ^ (4 * (G - k))) + n / 2 ^ (4 * (G - 1 - k)) % 16 := by
  rw [show G - (k + 1) = G - 1 - k by omega, show 4 * (G - k) = 4 * (G - 1 - k) + 4 by omega, Nat.pow_add, ← Nat.div_div_eq_div_mul]
  generalize n / 2 ^ (4 * (G - 1 - k)) = x
  omega
theorem gth_mul {p : Pr} (hp : On p) (n G : Nat) (hn : n < 2 ^ (4 * G)) : ∀ k, k ≤ G →
    gthTo 4 (chs [p, nmul 2 p, nmul 4 p, nmul 8 p]) (grpsTo (fun j => decide (n / 2 ^ j % 2 = 1)) G k) = nmul (n / 2 ^ (4 * (G - k))) p
  | 0, _ => by
    rw [Nat.sub_zero, Nat.div_eq_of_lt hn]
    rfl
  | k + 1, hk => by
    have ih := gth_mul hp n G hn k (by omega)
    rw [grpsTo_succ, gthTo_snoc, ih, gthStep_is 4 _ _ _ _ _ _ _ _ (nmul_on hp _), sel4 hp, hi_step n G k (by omega), nmul_add hp (16 * _), Nat.mul_comm 16, nmul_mul hp]
    have e := grp_num n (G - 1 - k)
    unfold grp at e
    rw [e]
end Go.Proofs.YtleegbaigedebaaDoor

/- scalar: Bits, whole. -/
namespace Go.Proofs.YtleegbaigedebaaDoor
open Go.RowKit Ow Go.Shelf
attribute [local go_sem] Oper.semAt_some

theorem info_bool : ∃ i z, Tryd.prog.info? 4 = some i ∧ i.zero = some z ∧ i.size = 1 ∧ i.bytes = 1 ∧ z.cells.size = 1 := by
  have h : (Tryd.prog.info? 4).map (fun i => (i.zero.map (·.cells.size), i.size, i.bytes)) = some (some 1, 1, 1) := by kernel_rfl
  cases hi : Tryd.prog.info? 4 with
  | none => rw [hi] at h; cases h
  | some i =>
    rw [hi] at h
    simp only [Option.map_some, Option.some.injEq, Prod.mk.injEq] at h
    cases hz : i.zero with
    | none => rw [hz] at h; cases h.1
    | some z => rw [hz] at h; exact ⟨i, z, rfl, hz, h.2.1, h.2.2, by simpa using h.1⟩
theorem append_bool_fits (w : World) (base g n0 c : Nat) (x : Bool) (xs : List Value) (hown : w.ownsRow base 4 1 (.slice (some ⟨g, 0, none⟩) n0 c) n0 xs) (hroom : n0 + 1 ≤ c) :
    ∃ w', (Builtin.append_ #[76, 76] 76 #[.slice (some ⟨g, 0, none⟩) n0 c, .slice (some ⟨w.heap.size, 0, none⟩) 1 1]).run Tryd.prog (w.alloc (.cells #[.bool x] 4)) = .ok (.slice (some ⟨g, 0, none⟩) (n0 + 1) c) w' ∧ w'.ownsRow base 4 1 (.slice (some ⟨g, 0, none⟩) (n0 + 1) c) (n0 + 1) (xs ++ [.bool x]) ∧ w.grownBy w' (some g) := by
  obtain ⟨i, z, hi, hz, hs, hb, hc⟩ := info_bool
  obtain ⟨w', hr, ho, hg⟩ := run_append_fits (w.alloc (.cells #[.bool x] 4)) base 76 76 4 i 1 (P := Tryd.prog) Tryd.underlying76 hi hs g n0 c xs (hown.alloc _) ⟨w.heap.size, 0, none⟩ 1 1 [.bool x] rfl (fun j u hu => by
      have hj : j = 0 := by
        rcases Nat.eq_zero_or_pos j with h | h
        · exact h
        · rw [List.getElem?_eq_none (by simp; omega)] at hu; cases hu
      subst hj
      rw [show Value.bool x = u by simpa using hu]
      exact (Blk.new w [u] 4).cell (i := 0) rfl) (fun u hu => by rw [List.mem_singleton.1 hu]; rfl) hroom
  exact ⟨w', hr, ho, gb_trans (gb_alloc (gb_refl _ _) _) hg⟩
theorem wpListIn_append_run {F : Fence} {n : Nat} {P : Program} (w : World) {ops : Array Oper} {rest : List Oper} {o : Oper} {a : Act} {Q : Exit → Act → World → Prop}
    (hg : o.guard = none) (s x : Operand) (t : TypeId) (hop : o.op = Op.call { callee := Callee.builtin Builtin.append, args := #[s, x], argTypes := #[t, t] }) (ht : o.type = t) (v y : Value) (hs : a.eval s = v) (hx : a.eval x = y) (v' : Value) (w' : World)
    (hrun : (Builtin.append_ #[t, t] t #[v, y]).run P w = .ok v' w') (hK : wpListIn F n P ops Q rest (a.put o.dst v') w') : wpListIn F n P ops Q (o :: rest) a w := by
  refine wpListIn_plain hg fun K hK' => ?_
  rw [← ht] at hrun
  unfold Oper.wpIn
  refine ⟨?_, ?_⟩
  · simp [Oper.about, hop, resolve, Target.leads, Sem.run_pure]
  · rw [Oper.semAt_plain F _ _ (by rw [hop]; intro c hc'; cases hc')]
    simp [execOp, hop, resolve, invoke, builtin, hs, hx, ← ht, hrun, Result.andThen]
    exact hK' _ _ hK
structure BitI (w : World) (pb po cap : Nat) (f : Nat → Nat) (pre : List Bool) (W : World) : Prop where
  row : W.ownsRow w.heap.size 4 1 (.slice (some ⟨w.heap.size, 0, none⟩) pre.length 256) pre.length (pre.map .bool)
  box : Blk W (w.heap.size + 1) 76 [.slice (some ⟨w.heap.size, 0, none⟩) pre.length 256]
  grown : w.grownBy W none
  size : w.heap.size + 3 ≤ W.heap.size
theorem bitI_own (w : World) (pb po cap : Nat) (f : Nat → Nat) (n : Nat) (hn : w.heap.size < n) : OwnFrom n (BitI w pb po cap f) := fun s A B row h hg hr =>
  ⟨h.row.kept hg (Or.inr (fun e => by have := (hr _ e.symm).1; simp at this; omega)), blk_from h.box hg hr, gb_from h.grown hg (fun r e => by have := (hr r e).1; omega), Nat.le_trans h.size hg.size⟩
def OutT (l : List Bool) (w : World) (e : Ending) (w' : World) : Prop := ∃ g, e = .returned (.slice (some ⟨g, 0, none⟩) l.length l.length) ∧ w.grownBy w' none ∧ w.heap.size ≤ g ∧ Blk w' g 4 (l.map .bool)
set_option maxRecDepth 100000 in
set_option maxHeartbeats 2000000 in
theorem bits_fn (cap pb po : Nat) (f : Nat → Nat) (w : World) (hf : ∀ i, f i < 256) (hpb : pb < w.heap.size) (hc : ∀ j, j < 32 → w.cell? ⟨pb, po + j, none⟩ = some (.int .u8 (f j : Int))) :
    Calls Tryd.prog 49 #[.slice (some ⟨pb, po, none⟩) 32 cap] w (OutT (bitsTo f 256) w) := by
  have HF := Lib.hid hf; clear hf
  have HC := Lib.hid hc; clear hc
  obtain ⟨i, z, hi, hz, hs, hb, hcc⟩ := info_bool
  obtain ⟨w1, hmk, ho1, hg1⟩ := run_make_own w w.heap.size 76 4 i z 1 (P := Tryd.prog) Tryd.underlying76 hi hz hs .i64 .i64 256 (by rw [hb]; omega) (by unfold maxLen; omega) (Nat.le_refl _)
  have hmk' : (Instr.makeSlice 76 (.int .i64 0) (.int .i64 256)).run Tryd.prog w = .ok (.slice (some ⟨w.heap.size, 0, none⟩) 0 256) w1 := hmk
  have hs1 : w1.heap.size = w.heap.size + 1 := by
    have h2 := run_make (P := Tryd.prog) w 76 4 i z Tryd.underlying76 hi hz .i64 .i64 0 256 (by omega) (by omega) (by rw [hb]; omega) (by omega)
    rw [hmk'] at h2
    injection h2 with _ h3
    rw [h3]; simp
  clear hmk hi hz hs hb hcc
  refine (callsIn_wide (n := 9)).1 ?_
  refine callsIn_of_wp_marks Tryd.func49 rfl trivial ?_ rfl
  simp only [Tryd.ntmps49, List.size_toArray, List.length_cons, List.length_nil, Nat.reduceAdd, Nat.reduceSub, Array.replicate_succ, Array.replicate_zero, List.push_toArray, List.append_toArray, List.nil_append, List.cons_append]
  gi_wp2_with fail
  refine ⟨trivial, ?_⟩
  have hX := blk_at w1 (B := w.heap.size + 1) [.slice (some ⟨w.heap.size, 0, none⟩) 0 256] 76 hs1
  have ho2 := ho1.alloc (.cells #[.slice (some ⟨w.heap.size, 0, none⟩) 0 256] 76)
  have hg2 := gb_alloc hg1 (.cells #[.slice (some ⟨w.heap.size, 0, none⟩) 0 256] 76)
  have hs2 : (w1.alloc (.cells #[.slice (some ⟨w.heap.size, 0, none⟩) 0 256] 76)).heap.size = w.heap.size + 2 := by simp [hs1]
  clear ho1 hg1 hs1 hmk'
  revert hX ho2 hg2 hs2
  generalize w1.alloc (.cells #[.slice (some ⟨w.heap.size, 0, none⟩) 0 256] 76) = w2
  intro hX ho2 hg2 hs2
  refine (eachBit_in Fence.wide 8 trivial rfl _ _ _ _).mono ?_
  rintro e w3 ⟨rfl, hw3⟩
  have hI : BitI w pb po cap f [] w3 := by
    subst hw3
    exact ⟨ho2.alloc _, hX.alloc _, gb_alloc hg2 _, by simp [hs2]⟩
  have hBs : Blk w3 (w.heap.size + 2) 22 [.slice (some ⟨pb, po, none⟩) 32 cap] := by
    subst hw3
    exact blk_at w2 [.slice (some ⟨pb, po, none⟩) 32 cap] _ hs2
  have hs3 : w3.heap.size = w.heap.size + 3 := by subst hw3; simp [hs2]
  rw [hs2]
  clear hw3 hX ho2 hg2 hs2
  have HI := Lib.hid hI; clear hI
  gi_wp2_with fail
  have hRN : ∀ j, j < 32 → w3.cell? ⟨pb, po + j, none⟩ = some (.int .u8 (f j : Int)) := fun j hj => by rw [gb_cell HI.out.grown (p := ⟨pb, po + j, none⟩) hpb (by simp)]; exact HC.out j hj
  refine wpIn_rangeFunc_ownG (F := Fence.wide) (n := 9) rfl (by decide) (gf := 83) (lb := #[.pointer (some ⟨w.heap.size + 2, 0, none⟩)]) rfl trivial (enters_of Tryd.func83 (by kernel_rfl) rfl)
    (w0 := w3) (eachBit_stops Fence.wide 8 trivial rfl (by decide) (w.heap.size + 2) pb po cap f HF.out w3 (by omega) (by omega) (hBs.cell (i := 0) rfl) hRN)
    (fun h k => keepsB_t h k) (fun W l o o' hl h _ _ => keepsB_b (n := w3.heap.size) (by omega) (by omega) W l o o' hl h) (Below.refl _ _) (fun _ => rfl)
    (BitI w pb po cap f) (fun _ _ _ => False) (bitI_own w pb po cap f _ (by omega)) (fun _ _ _ _ _ h _ _ => h) HI.out
    (fun x => { tmps := #[.slice (some ⟨pb, po, none⟩) 32 cap, undef, .slice none 0 0, .pointer (some ⟨w.heap.size + 1, 0, none⟩), .bool x, .slice (some ⟨pb, po, none⟩) 32 cap, .int .i64 32, .bool false, .slice (some ⟨w.heap.size, 0, none⟩) 0 256, .slice (some ⟨pb, po, none⟩) 32 cap, .func (.func 83) #[] #[.pointer (some ⟨w.heap.size + 2, 0, none⟩)], .bool x, undef, undef, undef, undef, undef], defers := [] }) ?assign ?body ?done ?stop
  case assign =>
    intro l x W K hK
    gi_wp2
    exact hK
  case body =>
    rintro l pre x W hI hlen
    obtain ⟨w4, hap, ho4, hg4⟩ := append_bool_fits W w.heap.size w.heap.size pre.length 256 x _ hI.row (by omega)
    have hb4 := hI.box.grown hg4 (some_ne' (by omega))
    have c0 := hI.box.cell (i := 0) rfl
    have c4 := hb4.cell (i := 0) rfl
    have f4 := hb4.free 0
    have HAP := Lib.hid hap; clear hap
    have HJ := Lib.hid (And.intro hI (And.intro ho4 (And.intro hg4 hb4))); clear hI ho4 hg4 hb4
    gi_wp2_with (gi_at_builtin; refine wpListIn_append_run _ rfl (.tmp 12) (.tmp 14) 76 rfl rfl _ _ rfl rfl _ _ HAP.out ?_)
    obtain ⟨hI, ho4, hg4, hb4⟩ := HJ.out
    have hg5 := gb_set (gb_refl w4 (some (w.heap.size + 1))) 0 (Value.slice (some ⟨w.heap.size, 0, none⟩) (pre.length + 1) 256)
    have hb5 := hb4.set 0 (Value.slice (some ⟨w.heap.size, 0, none⟩) (pre.length + 1) 256)
    have hk5 := (KeepsFrom.of_grownBy (B := w3.heap.size) hg4 (fun j e => by cases e; omega)).trans (KeepsFrom.of_grownBy (B := w3.heap.size) hg5 (fun j e => by cases e; omega))
    have hpW : pb < W.heap.size := by have := hI.size; omega
    have hp4 : pb < w4.heap.size := Nat.lt_of_lt_of_le hpW hg4.size
    have hqW : w.heap.size + 2 < W.heap.size := by have := hI.size; omega
    have hq4 : w.heap.size + 2 < w4.heap.size := Nat.lt_of_lt_of_le hqW hg4.size
    have e1 : (pre ++ [x]).length = pre.length + 1 := by simp
    have e2 : (pre ++ [x]).map Value.bool = pre.map Value.bool ++ [Value.bool x] := by simp
    refine ⟨hk5, ⟨fun j hj => ?_, ?_⟩, ?_⟩
    · rw [gb_cell hg5 (p := ⟨pb, po + j, none⟩) hp4 (some_ne' (by show pb ≠ w.heap.size + 1; omega)), gb_cell hg4 (p := ⟨pb, po + j, none⟩) hpW (some_ne' (by show pb ≠ w.heap.size; omega))]
    · rw [gb_cell hg5 (p := ⟨w.heap.size + 2, 0, none⟩) hq4 (some_ne' (by show w.heap.size + 2 ≠ w.heap.size + 1; omega)), gb_cell hg4 (p := ⟨w.heap.size + 2, 0, none⟩) hqW (some_ne' (by show w.heap.size + 2 ≠ w.heap.size; omega))]
    · refine ⟨?_, ?_, gb_then (gb_then hI.grown hg4 (Nat.le_refl _)) hg5 (by omega), Nat.le_trans hI.size (Nat.le_trans hg4.size hg5.size)⟩
      · rw [e1, e2]
        exact ho4.kept hg5 (Or.inr (some_ne' (by show w.heap.size ≠ w.heap.size + 1; omega)))
      · rw [e1]; exact hb5
  case done =>
    rintro D ys W hD rfl hI hK
    have hl := bitsTo_length f 256
    have hrow := hI.row
    have hbox := hI.box.cell (i := 0) rfl
    rw [hl] at hrow hbox
    obtain ⟨hbk, hge⟩ := own_blk hrow
    have HJ := Lib.hid (And.intro hI.grown hbk); clear hI hrow hbk hl
    gi_wp2
    have hp := grownBy_putObj' W D (.deferred none)
    have hb5 := HJ.out.2.grown hp (some_ne' (by omega))
    have hg5 := gb_then HJ.out.1 hp (by omega)
    refine ⟨by simp, .inl ⟨_, _, rfl, run_takeDeferred hK, ?_⟩⟩
    refine ⟨.slice (some ⟨w.heap.size, 0, none⟩) 256 256, ?_, w.heap.size, by rw [bitsTo_length], hg5, hge, hb5⟩
    simp [results, Tryd.results49, go_sem]
  case stop =>
    rintro D c pre W _ _ h _
    exact h.elim
theorem bits_any (cap B : Nat) (a : Option Addr) (l : List Nat) (w : World) (hl : l.length = 32) (hP : BytesAt w B a cap l) :
    Calls Tryd.prog 49 #[.slice a 32 cap] w (OutT (bitsTo (fun i => l.getD i 0) 256) w) := by
  obtain ⟨pb, po, rfl, hpb, hpc⟩ := hP.cells.resolve_left (by omega)
  exact bits_fn cap pb po _ w hP.byte (Nat.lt_of_lt_of_le hpb hP.lim) fun j hj => hpc j (by omega)
end Go.Proofs.YtleegbaigedebaaDoor

/- edwards: Mul. -/
namespace Go.Proofs.YtleegbaigedebaaDoor
open Go.RowKit Ow Go.Shelf Ed
theorem bits_row (cap B : Nat) (a : Option Addr) (l : List Nat) (w : World) (hl : l.length = 32) (hP : BytesAt w B a cap l) :
  Calls Tryd.prog 49 #[.slice a 32 cap] w fun e w' => ∃ g, e = .returned (.slice (some ⟨g, 0, none⟩) 256 256) ∧ w.grownBy w' none ∧ w.heap.size ≤ g ∧ Blk w' g 4 ((bitsTo (fun i => l.getD i 0) 256).map Value.bool) :=
 (bits_any cap B a l w hl hP).mono fun _ _ ⟨g, he, hg, hn, hb⟩ => ⟨g, by rw [he, bitsTo_length], hg, hn, hb⟩
theorem bits_cell {w : World} {g : Nat} {f : Nat → Nat} (h : Blk w g 4 ((bitsTo f 256).map Value.bool)) (j : Nat) (hj : j < 256) : w.cell? ⟨g, j, none⟩ = some (.bool (bitAt f j)) :=
 h.cell (i := j) (by simp [bitsTo, hj])
theorem ptsAre4 {a b c d : Pt} {p q r s : Pr} (ha : PtIs a p) (hb : PtIs b q) (hc : PtIs c r) (hd : PtIs d s) : PtsAre [a, b, c, d] [p, q, r, s] := ⟨rfl, fun i hi => by
 have : i = 0 ∨ i = 1 ∨ i = 2 ∨ i = 3 := by simp at hi; omega
 rcases this with rfl | rfl | rfl | rfl
 ·exact ha
 ·exact hb
 ·exact hc
 ·exact hd⟩
theorem grps_num (l : List Nat) (hl : l.length = 32) (hb : ∀ i, l.getD i 0 < 256) : grpsTo (bitAt fun i => l.getD i 0) 64 64 = grpsTo (fun j => decide (num l / 2 ^ j % 2 = 1)) 64 64 := by
 unfold grpsTo
 apply List.map_congr_left
 intro t ht
 have ht2 : t < 64 := List.mem_range.1 ht
 apply Subtype.ext
 show grp (bitAt fun i => l.getD i 0) (64 - 1 - t) = grp (fun j => decide (num l / 2 ^ j % 2 = 1)) (64 - 1 - t)
 unfold grp
 simp only [bit_num l hl hb (4 * (64 - 1 - t) + 3) (by omega), bit_num l hl hb (4 * (64 - 1 - t) + 2) (by omega), bit_num l hl hb (4 * (64 - 1 - t) + 1) (by omega), bit_num l hl hb (4 * (64 - 1 - t)) (by omega)]
theorem mul_is {r : Pr} (hr : On r) (l : List Nat) (hl : l.length = 32) (hb : ∀ i, l.getD i 0 < 256) :
  gthTo 4 (chs [r, Ed.add r r, Ed.add (Ed.add r r) (Ed.add r r), Ed.add (Ed.add (Ed.add r r) (Ed.add r r)) (Ed.add (Ed.add r r) (Ed.add r r))]) (grpsTo (bitAt fun i => l.getD i 0) 64 64) = nmul (num l) r := by
 have h2 : Ed.add r r = nmul 2 r := (nmul_two hr).symm
 have h4 : Ed.add (nmul 2 r) (nmul 2 r) = nmul 4 r := (nmul_add hr 2 2).symm
 have h8 : Ed.add (nmul 4 r) (nmul 4 r) = nmul 8 r := (nmul_add hr 4 4).symm
 have hn : num l < 2 ^ (4 * 64) := by have := num_lt l hb; rwa [hl] at this
 rw [h2, h4, h8, grps_num l hl hb, gth_mul hr (num l) 64 hn 64 (Nat.le_refl _), Nat.sub_self, Nat.mul_zero, Nat.pow_zero, Nat.div_one]
set_option maxRecDepth 100000 in
set_option maxHeartbeats 12800000 in
theorem edMul (p : Pt) (r : Pr) (l : List Nat) (cap B : Nat) (a : Option Addr) (w0 : World) (HT0 : ETab w0) (hp : PtIs p r) (hl : l.length = 32) (HPB : Hid (BytesAt w0 B a cap l)) :
  Calls Tryd.prog 21 #[.slice a 32 cap, p.v] w0 fun e w' => PtOut (nmul (num l) r) w0 e w' := by
 show Calls Tryd.prog 21 #[.slice a 32 cap, .agg (ptL p).toArray] w0 _
 go_enter Tryd.func21, Tryd.ntmps21
 go_upto_region 1 with (fail)
 have G : w0.grownBy ((w0.alloc (.cells (ptL p).toArray 28)).alloc (.cells zr20.toArray 28)) none := gb_alloc (gb_alloc (gb_refl _ _) _) _
 have HT : ETab ((w0.alloc (.cells (ptL p).toArray 28)).alloc (.cells zr20.toArray 28)) := HT0.grown (gb_alloc (gb_alloc (gb_refl _ _) _) _)
 have hP : Blk ((w0.alloc (.cells (ptL p).toArray 28)).alloc (.cells zr20.toArray 28)) (w0.heap.size) 28 (ptL p) := (Blk.new w0 (ptL p) _).alloc _
 have hR : Blk ((w0.alloc (.cells (ptL p).toArray 28)).alloc (.cells zr20.toArray 28)) (w0.heap.size + 1) 28 zr20 := Blk.newAt (w0.alloc _) zr20 _ (by simp)
 revert G HT hP hR
 generalize (w0.alloc (.cells (ptL p).toArray 28)).alloc (.cells zr20.toArray 28) = W0
 intro G HT hP hR
 have Gs := G.size
 go_upto_region 3 with (fail)
 have Gs0 := G.size
 have l1hP := hP.lt
 have l1hR := hR.lt
 refine Fg.rP [5] [.any, .any, .any, .any, .any, .fresh 28 zr20 W0.heap.size, .any, .any, .any, .any, .any, .val (p.v), .val ((dblF p).v)] 3 ?_ ?_
 ·refine Fg.vS rfl (by decide) (fun ac w h => ?_) ?_
  ·have e3 : _ = Value.pointer (some ⟨w0.heap.size, 0, none⟩) := h.r 3
   exact Fg.vn p.v (Fg.run_load rfl e3 ((hP.gn h.base).range 0 (ptL p) rfl) Tryd.underlying28 rfl info_point)
  refine Fg.cS rfl (by decide) (fun ac w h => ?_) ?_
  ·have e11 : _ = p.v := h.d 11
   refine ⟨wants_none rfl, 12, #[p.v], Fg.run_call rfl rfl (by simp only [List.map_toArray, List.map_cons, List.map_nil, Act.eval, e11]) (Fg.run_enter Tryd.func12 (by kernel_rfl) (by kernel_rfl)), ?_⟩
   exact (edDbl p _ _ (HT.grown h.base) hp).mono fun _ _ ⟨he, hg⟩ => ⟨_, he, hg, rfl⟩
  refine ⟨⟨⟨_, rfl⟩, Fg.allocP (fun _ _ h k => gb_trans h k) rfl (by show 5 < 24; decide) fun ac w h => ?_⟩, ?_⟩
  ·refine ⟨wants_none rfl, w.alloc (.cells zr20.toArray 28), ?_, World.grownBy_alloc _ _ _, by simp, ⟨w.heap.size, rfl, h.base.size, Blk.new w zr20 _⟩⟩
   clear h
   go_simp
  trivial
 ·intro qa V1 g1 hsz hdf hrest hslots hpt
  obtain ⟨N5, hs5, hn5, hb5⟩ : ∃ N, qa.tmps.getD 5 undef = .pointer (some ⟨N, 0, none⟩) ∧ W0.heap.size ≤ N ∧ Blk V1 N 28 zr20 := hslots 5 (by kernel_rfl)
  obtain ⟨u7, hs7⟩ := Fg.slotv qa 7
  obtain ⟨u8, hs8⟩ := Fg.slotv qa 8
  obtain ⟨u9, hs9⟩ := Fg.slotv qa 9
  obtain ⟨u11, hs11⟩ := Fg.slotv qa 11
  obtain ⟨x1, hx1⟩ : ∃ x : Pt, x = dblF p := ⟨_, rfl⟩
  obtain rfl := Fg.frame_by [5, 7, 8, 9, 11, 12] (vs := [Value.slice a 32 cap, p.v, undef, Value.pointer (some ⟨w0.heap.size, 0, none⟩), Value.pointer (some ⟨w0.heap.size + 1, 0, none⟩), Value.pointer (some ⟨N5, 0, none⟩), undef, u7, u8, u9, undef, u11, x1.v, undef, undef, undef, undef, undef, undef, undef, undef, undef, undef, undef]) hsz hrest (by kernel_rfl) rfl rfl ⟨hs5, hs7, hs8, hs9, hs11, (show qa.tmps.getD 12 undef = x1.v by rw [hx1]; exact hslots 12 (by kernel_rfl)), trivial⟩ hdf
  clear hsz hdf hrest hslots hpt hs5 hs7 hs8 hs9 hs11
  have Hx1 := Lib.hid hx1; clear hx1
  replace hP := hP.gn g1
  replace hR := hR.gn g1
  replace G := gb_trans G g1
  replace HT := HT.grown g1
  have hw5 : w0.heap.size ≤ N5 := Nat.le_trans Gs0 hn5
  clear g1
  refine Fg.wpl_skip rfl rfl (Fg.run_store (cs := ptL x1) rfl rfl rfl (hb5.there 0 20 (by show 0 + 20 ≤ 20; decide)) info_point (ptL_one _)) ?_
  replace hP := hP.setCells_other (C := N5) (cs := ptL x1) 0 (by omega)
  replace hR := hR.setCells_other (C := N5) (cs := ptL x1) 0 (by omega)
  replace hb5 : Blk (V1.setCells N5 0 (ptL x1)) N5 28 (ptL x1) := hb5.setAll rfl
  replace G := gb_setCells_new (cs := ptL x1) G (B := N5) (hw5) 0
  replace HT := HT.keep (gb_setCells (cs := ptL x1) (gb_refl _ (some N5)) 0) (HT0.noG (hw5))
  revert hP hR hb5 G HT
  generalize V1.setCells N5 0 (ptL x1) = W2
  intro hP hR hb5 G HT
  have is1 : PtIs x1 (Ed.add r r) := by rw [Hx1.out]; exact dblIs hp
  go_upto_region 4 with (fail)
  have Gs2 := G.size
  have l2hP := hP.lt
  have l2hR := hR.lt
  have l2hb5 := hb5.lt
  refine Fg.rP [6] [.any, .any, .any, .any, .any, .any, .fresh 28 zr20 W2.heap.size, .any, .any, .any, .any, .any, .any, .val (x1.v), .val ((dblF x1).v)] 3 ?_ ?_
  ·refine Fg.vS rfl (by decide) (fun ac w h => ?_) ?_
   ·have e5 : _ = Value.pointer (some ⟨N5, 0, none⟩) := h.r 5
    exact Fg.vn x1.v (Fg.run_load rfl e5 ((hb5.gn h.base).range 0 (ptL x1) rfl) Tryd.underlying28 rfl info_point)
   refine Fg.cS rfl (by decide) (fun ac w h => ?_) ?_
   ·have e13 : _ = x1.v := h.d 13
    refine ⟨wants_none rfl, 12, #[x1.v], Fg.run_call rfl rfl (by simp only [List.map_toArray, List.map_cons, List.map_nil, Act.eval, e13]) (Fg.run_enter Tryd.func12 (by kernel_rfl) (by kernel_rfl)), ?_⟩
    exact (edDbl x1 _ _ (HT.grown h.base) is1).mono fun _ _ ⟨he, hg⟩ => ⟨_, he, hg, rfl⟩
   refine ⟨⟨⟨_, rfl⟩, Fg.allocP (fun _ _ h k => gb_trans h k) rfl (by show 6 < 24; decide) fun ac w h => ?_⟩, ?_⟩
   ·refine ⟨wants_none rfl, w.alloc (.cells zr20.toArray 28), ?_, World.grownBy_alloc _ _ _, by simp, ⟨w.heap.size, rfl, h.base.size, Blk.new w zr20 _⟩⟩
    clear h
    go_simp
   trivial
  ·intro qa V3 g3 hsz hdf hrest hslots hpt
   obtain ⟨N6, hs6, hn6, hb6⟩ : ∃ N, qa.tmps.getD 6 undef = .pointer (some ⟨N, 0, none⟩) ∧ W2.heap.size ≤ N ∧ Blk V3 N 28 zr20 := hslots 6 (by kernel_rfl)
   obtain ⟨u13, hs13⟩ := Fg.slotv qa 13
   obtain ⟨x2, hx2⟩ : ∃ x : Pt, x = dblF x1 := ⟨_, rfl⟩
   obtain rfl := Fg.frame_by [6, 13, 14] (vs := [Value.slice a 32 cap, p.v, undef, Value.pointer (some ⟨w0.heap.size, 0, none⟩), Value.pointer (some ⟨w0.heap.size + 1, 0, none⟩), Value.pointer (some ⟨N5, 0, none⟩), Value.pointer (some ⟨N6, 0, none⟩), u7, u8, u9, undef, u11, x1.v, u13, x2.v, undef, undef, undef, undef, undef, undef, undef, undef, undef]) hsz hrest (by kernel_rfl) rfl rfl ⟨hs6, hs13, (show qa.tmps.getD 14 undef = x2.v by rw [hx2]; exact hslots 14 (by kernel_rfl)), trivial⟩ hdf
   clear hsz hdf hrest hslots hpt hs6 hs13
   have Hx2 := Lib.hid hx2; clear hx2
   replace hP := hP.gn g3
   replace hR := hR.gn g3
   replace hb5 := hb5.gn g3
   replace G := gb_trans G g3
   replace HT := HT.grown g3
   have hw6 : w0.heap.size ≤ N6 := Nat.le_trans Gs2 hn6
   clear g3
   refine Fg.wpl_skip rfl rfl (Fg.run_store (cs := ptL x2) rfl rfl rfl (hb6.there 0 20 (by show 0 + 20 ≤ 20; decide)) info_point (ptL_one _)) ?_
   replace hP := hP.setCells_other (C := N6) (cs := ptL x2) 0 (by omega)
   replace hR := hR.setCells_other (C := N6) (cs := ptL x2) 0 (by omega)
   replace hb5 := hb5.setCells_other (C := N6) (cs := ptL x2) 0 (by omega)
   replace hb6 : Blk (V3.setCells N6 0 (ptL x2)) N6 28 (ptL x2) := hb6.setAll rfl
   replace G := gb_setCells_new (cs := ptL x2) G (B := N6) (hw6) 0
   replace HT := HT.keep (gb_setCells (cs := ptL x2) (gb_refl _ (some N6)) 0) (HT0.noG (hw6))
   revert hP hR hb5 hb6 G HT
   generalize V3.setCells N6 0 (ptL x2) = W4
   intro hP hR hb5 hb6 G HT
   have is2 : PtIs x2 (Ed.add (Ed.add r r) (Ed.add r r)) := by rw [Hx2.out]; exact dblIs is1
   go_upto_region 5 with (fail)
   have Gs4 := G.size
   have l3hP := hP.lt
   have l3hR := hR.lt
   have l3hb5 := hb5.lt
   have l3hb6 := hb6.lt
   refine Fg.rT [] [.any, .any, .any, .any, .any, .any, .any, .any, .any, .any, .any, .any, .any, .any, .any, .val (Value.slice a 32 cap), .row 4 ((bitsTo (fun i => l.getD i 0) 256).map Value.bool) 256 W4.heap.size, .val (p.v), .val (x1.v), .val (x2.v), .val (x2.v), .val ((dblF x2).v), .row 28 (ptsL [p, x1, x2, dblF x2]) 4 W4.heap.size] 8 ?_ ?_
   ·refine Fg.vS rfl (by decide) (fun ac w h => ?_) ?_
    ·have e0 : _ = Value.slice a 32 cap := h.r 0
     exact Fg.vn (Value.slice a 32 cap) (Fg.run_move rfl e0)
    refine Fg.cS rfl (by decide) (fun ac w h => ?_) ?_
    ·have e15 : _ = Value.slice a 32 cap := h.d 15
     refine ⟨wants_none rfl, 49, #[Value.slice a 32 cap], Fg.run_call rfl rfl (by simp only [List.map_toArray, List.map_cons, List.map_nil, Act.eval, e15]) (Fg.run_enter Tryd.func49 (by kernel_rfl) (by kernel_rfl)), ?_⟩
     exact (bits_row cap B a l _ hl (HPB.out.stay (gb_trans G h.base))).mono fun _ _ ⟨NB, he, hg, hn, hb⟩ => ⟨_, he, hg, ⟨NB, rfl, Nat.le_trans h.base.size hn, hb⟩⟩
    refine Fg.vS rfl (by decide) (fun ac w h => ?_) ?_
    ·have e3 : _ = Value.pointer (some ⟨w0.heap.size, 0, none⟩) := h.r 3
     exact Fg.vn p.v (Fg.run_load rfl e3 ((hP.gn h.base).range 0 (ptL p) rfl) Tryd.underlying28 rfl info_point)
    refine Fg.vS rfl (by decide) (fun ac w h => ?_) ?_
    ·have e5 : _ = Value.pointer (some ⟨N5, 0, none⟩) := h.r 5
     exact Fg.vn x1.v (Fg.run_load rfl e5 ((hb5.gn h.base).range 0 (ptL x1) rfl) Tryd.underlying28 rfl info_point)
    refine Fg.vS rfl (by decide) (fun ac w h => ?_) ?_
    ·have e6 : _ = Value.pointer (some ⟨N6, 0, none⟩) := h.r 6
     exact Fg.vn x2.v (Fg.run_load rfl e6 ((hb6.gn h.base).range 0 (ptL x2) rfl) Tryd.underlying28 rfl info_point)
    refine Fg.vS rfl (by decide) (fun ac w h => ?_) ?_
    ·have e6 : _ = Value.pointer (some ⟨N6, 0, none⟩) := h.r 6
     exact Fg.vn x2.v (Fg.run_load rfl e6 ((hb6.gn h.base).range 0 (ptL x2) rfl) Tryd.underlying28 rfl info_point)
    refine Fg.cS rfl (by decide) (fun ac w h => ?_) ?_
    ·have e20 : _ = x2.v := h.d 20
     refine ⟨wants_none rfl, 12, #[x2.v], Fg.run_call rfl rfl (by simp only [List.map_toArray, List.map_cons, List.map_nil, Act.eval, e20]) (Fg.run_enter Tryd.func12 (by kernel_rfl) (by kernel_rfl)), ?_⟩
     exact (edDbl x2 _ _ (HT.grown h.base) is2).mono fun _ _ ⟨he, hg⟩ => ⟨_, he, hg, rfl⟩
    refine Fg.vS rfl (by decide) (fun ac w h => ?_) ?_
    ·have e17 : _ = p.v := h.d 17
     have e18 : _ = x1.v := h.d 18
     have e19 : _ = x2.v := h.d 19
     have e21 : _ = (dblF x2).v := h.d 21
     exact ⟨wants_none rfl, .slice (some ⟨w.heap.size, 0, none⟩) 4 4, w.alloc (.cells (ptsL [p, x1, x2, dblF x2]).toArray 28), Fg.run_buildSlice (vs := #[(0, p.v), (1, x1.v), (2, x2.v), (3, (dblF x2).v)]) rfl (by simp only [List.map_toArray, List.map_cons, List.map_nil, Act.eval, e17, e18, e19, e21]) (by kernel_rfl), World.grownBy_alloc _ _ _, ⟨w.heap.size, rfl, h.base.size, Blk.new w (ptsL [p, x1, x2, dblF x2]) _⟩⟩
    trivial
   ·intro qa V5 g5 hsz hdf hrest hslots hpt
    obtain ⟨u15, hs15⟩ := Fg.slotv qa 15
    obtain ⟨N16, hs16, hn16, hb16⟩ : ∃ N, qa.tmps.getD 16 undef = .slice (some ⟨N, 0, none⟩) 256 256 ∧ W4.heap.size ≤ N ∧ Blk V5 N 4 ((bitsTo (fun i => l.getD i 0) 256).map Value.bool) := hslots 16 (by kernel_rfl)
    obtain ⟨u17, hs17⟩ := Fg.slotv qa 17
    obtain ⟨u18, hs18⟩ := Fg.slotv qa 18
    obtain ⟨u19, hs19⟩ := Fg.slotv qa 19
    obtain ⟨u20, hs20⟩ := Fg.slotv qa 20
    obtain ⟨u21, hs21⟩ := Fg.slotv qa 21
    obtain ⟨N22, hs22, hn22, hb22⟩ : ∃ N, qa.tmps.getD 22 undef = .slice (some ⟨N, 0, none⟩) 4 4 ∧ W4.heap.size ≤ N ∧ Blk V5 N 28 (ptsL [p, x1, x2, dblF x2]) := hslots 22 (by kernel_rfl)
    obtain rfl := Fg.frame_by [15, 16, 17, 18, 19, 20, 21, 22] (vs := [Value.slice a 32 cap, p.v, undef, Value.pointer (some ⟨w0.heap.size, 0, none⟩), Value.pointer (some ⟨w0.heap.size + 1, 0, none⟩), Value.pointer (some ⟨N5, 0, none⟩), Value.pointer (some ⟨N6, 0, none⟩), u7, u8, u9, undef, u11, x1.v, u13, x2.v, u15, Value.slice (some ⟨N16, 0, none⟩) 256 256, u17, u18, u19, u20, u21, Value.slice (some ⟨N22, 0, none⟩) 4 4, undef]) hsz hrest (by kernel_rfl) rfl rfl ⟨hs15, hs16, hs17, hs18, hs19, hs20, hs21, hs22, trivial⟩ hdf
    clear hsz hdf hrest hslots hpt hs15 hs16 hs17 hs18 hs19 hs20 hs21 hs22
    replace hP := hP.gn g5
    replace hR := hR.gn g5
    replace hb5 := hb5.gn g5
    replace hb6 := hb6.gn g5
    replace G := gb_trans G g5
    replace HT := HT.grown g5
    have hw16 : w0.heap.size ≤ N16 := Nat.le_trans Gs4 hn16
    have hw22 : w0.heap.size ≤ N22 := Nat.le_trans Gs4 hn22
    clear g5
    have l4hP := hP.lt
    have l4hR := hR.lt
    have l4hb5 := hb5.lt
    have l4hb6 := hb6.lt
    have l4hb16 := hb16.lt
    have l4hb22 := hb22.lt
    have zB : B ≤ w0.heap.size := HPB.out.lim
    refine Fg.wpl_call rfl (Fg.run_call (vs := #[.int .i64 4, .slice (some ⟨N16, 0, none⟩) 256 256, .slice (some ⟨N22, 0, none⟩) 4 4]) rfl rfl (by simp only [List.map_toArray, List.map_cons, List.map_nil, Act.eval]; rfl) (Fg.run_enter Tryd.func48 (by kernel_rfl) (by kernel_rfl))) ?_
    refine (gather_any 4 N22 N16 256 64 [p, x1, x2, dblF x2] [r, Ed.add r r, Ed.add (Ed.add r r) (Ed.add r r), Ed.add (Ed.add (Ed.add r r) (Ed.add r r)) (Ed.add (Ed.add r r) (Ed.add r r))] [] (bitAt fun i => l.getD i 0) _ HT (by decide) rfl (by decide) (by decide) rfl (ptsAre4 hp is1 is2 (dblIs is2)) (by rw [List.append_nil]; exact hb22) hb16.lt (fun j hj => bits_cell hb16 j hj)).mono ?_
    rintro e C5 ⟨t9, ht9, rfl, gc⟩
    refine ⟨_, rfl, ?_⟩
    rw [mul_is hp.on l hl HPB.out.byte] at ht9
    have Ht9 := Lib.hid ht9; clear ht9
    replace hP := hP.gn gc
    replace hR := hR.gn gc
    replace hb5 := hb5.gn gc
    replace hb6 := hb6.gn gc
    replace hb16 := hb16.gn gc
    replace hb22 := hb22.gn gc
    replace G := gb_trans G gc
    replace HT := HT.grown gc
    clear gc
    refine Fg.wpl_skip rfl rfl (Fg.run_store (cs := ptL t9) rfl rfl rfl (hR.there 0 20 (by show 0 + 20 ≤ 20; decide)) info_point (ptL_one _)) ?_
    replace hP := hP.setCells_other (C := (w0.heap.size + 1)) (cs := ptL t9) 0 (by omega)
    replace hR : Blk (C5.setCells (w0.heap.size + 1) 0 (ptL t9)) (w0.heap.size + 1) 28 (ptL t9) := hR.setAll rfl
    replace hb5 := hb5.setCells_other (C := (w0.heap.size + 1)) (cs := ptL t9) 0 (by omega)
    replace hb6 := hb6.setCells_other (C := (w0.heap.size + 1)) (cs := ptL t9) 0 (by omega)
    replace hb16 := hb16.setCells_other (C := (w0.heap.size + 1)) (cs := ptL t9) 0 (by omega)
    replace hb22 := hb22.setCells_other (C := (w0.heap.size + 1)) (cs := ptL t9) 0 (by omega)
    replace G := gb_setCells_new (cs := ptL t9) G (B := (w0.heap.size + 1)) (by omega) 0
    replace HT := HT.keep (gb_setCells (cs := ptL t9) (gb_refl _ (some (w0.heap.size + 1))) 0) (HT0.noG (by omega))
    revert hP hR hb5 hb6 hb16 hb22 G HT
    generalize C5.setCells (w0.heap.size + 1) 0 (ptL t9) = W6
    intro hP hR hb5 hb6 hb16 hb22 G HT
    go_wp2_with fail
    exact bodyPost_ret (v := t9.v) (results_cell_row Tryd.results21 _ _ (w0.heap.size + 1) 28 (ptL t9).toArray (0, 0) _ rfl hR Tryd.underlying28 rfl info_point) rfl ⟨t9, Ht9.out, rfl, G⟩

end Go.Proofs.YtleegbaigedebaaDoor
