/- texts merged -/
import Derived.Test.YtjfclcoppedmoaaGreatDoorSiC2
import Derived.Test.YtjfclcoppedmoaaGreatDoorSiC1
import Derived.Laws.AppendOwn
import Derived.Laws.MakeOwn
import Derived.Test.YtjfclcoppedmoaaGreatDoorSiC3
import Derived.Sort.CutIn
import Derived.Laws.CopyOwn
import Derived.IntWalk
namespace Go.Proofs.YtjfclcoppedmoaaGreatDoor
section
open Go.RowKit Ed
set_option maxRecDepth 100000 in
set_option maxHeartbeats 3200000 in
theorem become_any (S : Nat) (s : Sm) (a u b v : Fe) (w0 : World) (hS : Blk w0 S 119 (smL s)) (oka : a.Ok) (oku : u.Ok) (okb : b.Ok) (okv : v.Ok) :
  Calls Tryz.prog 96 #[.pointer (some ⟨S, 0, none⟩), a.v, u.v, b.v, v.v] w0 fun e w' => e = .returned (.tuple #[]) ∧ w0.grownBy w' (some S) ∧ Blk w' S 119 (smL (bF s.T a u b v)) := by
 show Calls Tryz.prog 96 #[.pointer (some ⟨S, 0, none⟩), .agg (feL a).toArray, .agg (feL u).toArray, .agg (feL b).toArray, .agg (feL v).toArray] w0 _
 go_enter Tryz.func96, Tryz.ntmps96
 go_upto_region 1 with (fail)
 have hlt := hS.lt
 have G : w0.grownBy ((((w0.alloc (.cells (feL a).toArray 34)).alloc (.cells (feL u).toArray 34)).alloc (.cells (feL b).toArray 34)).alloc (.cells (feL v).toArray 34)) (some S) := gb_alloc (gb_alloc (gb_alloc (gb_alloc (gb_refl _ _) _) _) _) _
 have ha : Blk ((((w0.alloc (.cells (feL a).toArray 34)).alloc (.cells (feL u).toArray 34)).alloc (.cells (feL b).toArray 34)).alloc (.cells (feL v).toArray 34)) (w0.heap.size) 34 (feL a) := (((Blk.new w0 (feL a) _).alloc _).alloc _).alloc _
 have hu : Blk ((((w0.alloc (.cells (feL a).toArray 34)).alloc (.cells (feL u).toArray 34)).alloc (.cells (feL b).toArray 34)).alloc (.cells (feL v).toArray 34)) (w0.heap.size + 1) 34 (feL u) := ((Blk.newAt (w0.alloc _) (feL u) _ (by simp)).alloc _).alloc _
 have hb : Blk ((((w0.alloc (.cells (feL a).toArray 34)).alloc (.cells (feL u).toArray 34)).alloc (.cells (feL b).toArray 34)).alloc (.cells (feL v).toArray 34)) (w0.heap.size + 1 + 1) 34 (feL b) := (Blk.newAt ((w0.alloc _).alloc _) (feL b) _ (by simp)).alloc _
 have hv : Blk ((((w0.alloc (.cells (feL a).toArray 34)).alloc (.cells (feL u).toArray 34)).alloc (.cells (feL b).toArray 34)).alloc (.cells (feL v).toArray 34)) (w0.heap.size + 1 + 1 + 1) 34 (feL v) := Blk.newAt (((w0.alloc _).alloc _).alloc _) (feL v) _ (by simp)
 replace hS : Blk ((((w0.alloc (.cells (feL a).toArray 34)).alloc (.cells (feL u).toArray 34)).alloc (.cells (feL b).toArray 34)).alloc (.cells (feL v).toArray 34)) S 119 (smL s) := (((hS.alloc _).alloc _).alloc _).alloc _
 revert G ha hu hb hv hS
 generalize (((w0.alloc (.cells (feL a).toArray 34)).alloc (.cells (feL u).toArray 34)).alloc (.cells (feL b).toArray 34)).alloc (.cells (feL v).toArray 34) = W0
 intro G ha hu hb hv hS
 have Gs0 := G.size
 have l1ha := ha.lt
 have l1hu := hu.lt
 have l1hb := hb.lt
 have l1hv := hv.lt
 have l1hS := hS.lt
 refine Fg.rP [] [.any, .any, .any, .any, .any, .any, .any, .any, .any, .any, .val (Value.pointer (some ⟨S, 0, none⟩)), .val (a.v), .val (v.v), .val ((Fe.mulF a v).v), .val (Value.pointer (some ⟨S, 0, none⟩)), .val (Value.pointer (some ⟨S, 0, none⟩)), .val (Value.pointer (some ⟨S, 0, none⟩))] 7 ?_ ?_
 ·refine Fg.vS rfl (by decide) (fun ac w h => ?_) ?_
  ·have e0 : _ = Value.pointer (some ⟨S, 0, none⟩) := h.r 0
   exact Fg.vn (Value.pointer (some ⟨S, 0, none⟩)) (Fg.run_move rfl e0)
  refine Fg.vS rfl (by decide) (fun ac w h => ?_) ?_
  ·have e6 : _ = Value.pointer (some ⟨w0.heap.size, 0, none⟩) := h.r 6
   exact Fg.vn a.v (Fg.run_load rfl e6 ((ha.gn h.base).range 0 (feL a) rfl) Tryz.underlying34 rfl info_elem)
  refine Fg.vS rfl (by decide) (fun ac w h => ?_) ?_
  ·have e9 : _ = Value.pointer (some ⟨w0.heap.size + 1 + 1 + 1, 0, none⟩) := h.r 9
   exact Fg.vn v.v (Fg.run_load rfl e9 ((hv.gn h.base).range 0 (feL v) rfl) Tryz.underlying34 rfl info_elem)
  refine Fg.cS rfl (by decide) (fun ac w h => ?_) ?_
  ·have e11 : _ = a.v := h.d 11
   have e12 : _ = v.v := h.d 12
   refine ⟨wants_none rfl, 38, #[a.v, v.v], Fg.run_call rfl rfl (by simp only [List.map_toArray, List.map_cons, List.map_nil, Act.eval, e11, e12]) (Fg.run_enter Tryz.func38 (by kernel_rfl) (by kernel_rfl)), ?_⟩
   exact (t_mul oka okv).mono fun _ _ ⟨he, hg⟩ => ⟨_, he, hg, rfl⟩
  refine Fg.vS rfl (by decide) (fun ac w h => ?_) ?_
  ·have e10 : _ = Value.pointer (some ⟨S, 0, none⟩) := h.d 10
   exact Fg.vn (Value.pointer (some ⟨S, 0, none⟩)) (Fg.run_nilCheck rfl e10)
  refine Fg.vS rfl (by decide) (fun ac w h => ?_) ?_
  ·have e14 : _ = Value.pointer (some ⟨S, 0, none⟩) := h.d 14
   exact Fg.vn (Value.pointer (some ⟨S, 0, none⟩)) (Fg.run_fieldAddr rfl e14 (fa_sum0 _ _ _))
  refine Fg.vS rfl (by decide) (fun ac w h => ?_) ?_
  ·have e15 : _ = Value.pointer (some ⟨S, 0, none⟩) := h.d 15
   exact Fg.vn (Value.pointer (some ⟨S, 0, none⟩)) (Fg.run_fieldAddr rfl e15 (fa_point0 _ _ _))
  trivial
 ·intro qa V1 g1 hsz hdf hrest hslots hpt
  obtain ⟨⟨u10, hs10⟩, ⟨u11, hs11⟩, ⟨u12, hs12⟩, _⟩ := Fg.slotvs qa [10, 11, 12]
  obtain ⟨x1, hx1⟩ : ∃ x : Fe, x = Fe.mulF a v := ⟨_, rfl⟩
  obtain ⟨u14, hs14⟩ := Fg.slotv qa 14
  obtain ⟨u15, hs15⟩ := Fg.slotv qa 15
  obtain rfl := Fg.frame_by [10, 11, 12, 13, 14, 15, 16] (vs := [Value.pointer (some ⟨S, 0, none⟩), a.v, u.v, b.v, v.v, undef, Value.pointer (some ⟨w0.heap.size, 0, none⟩), Value.pointer (some ⟨w0.heap.size + 1, 0, none⟩), Value.pointer (some ⟨w0.heap.size + 1 + 1, 0, none⟩), Value.pointer (some ⟨w0.heap.size + 1 + 1 + 1, 0, none⟩), u10, u11, u12, x1.v, u14, u15, Value.pointer (some ⟨S, 0, none⟩), undef, undef, undef, undef, undef, undef, undef, undef, undef, undef, undef, undef, undef, undef, undef, undef, undef, undef, undef, undef, undef, undef]) hsz hrest (by kernel_rfl) rfl rfl ⟨hs10, hs11, hs12, (show qa.tmps.getD 13 undef = x1.v by rw [hx1]; exact hslots 13 (by kernel_rfl)), hs14, hs15, (show qa.tmps.getD 16 undef = Value.pointer (some ⟨S, 0, none⟩) from hslots 16 (by kernel_rfl)), trivial⟩ hdf
  clear hsz hdf hrest hslots hpt hs10 hs11 hs12 hs14 hs15
  have Hx1 := Lib.hid hx1; clear hx1
  replace ha := ha.gn g1
  replace hu := hu.gn g1
  replace hb := hb.gn g1
  replace hv := hv.gn g1
  replace hS := hS.gn g1
  replace G := gb_trans G (gb_row g1 _)
  have okx1 : x1.Ok := by rw [Hx1.out]; exact (Fe.mul_right _ _).ok
  clear g1
  refine Fg.wpl_skip rfl rfl (Fg.run_store (cs := feL x1) rfl rfl rfl (hS.there 0 5 (by show 0 + 5 ≤ 30; decide)) info_elem (feL_one _)) ?_
  replace ha := ha.setCells_other (C := S) (cs := feL x1) 0 (by omega)
  replace hu := hu.setCells_other (C := S) (cs := feL x1) 0 (by omega)
  replace hb := hb.setCells_other (C := S) (cs := feL x1) 0 (by omega)
  replace hv := hv.setCells_other (C := S) (cs := feL x1) 0 (by omega)
  replace hS : Blk (V1.setCells S 0 (feL x1)) S 119 (smL ((Sm.mk x1 s.Y s.Z s.T s.A s.B))) := hS.setCells 0
  replace G := gb_setCells (cs := feL x1) G 0
  revert ha hu hb hv hS G
  generalize V1.setCells S 0 (feL x1) = W2
  intro ha hu hb hv hS G
  go_upto_region 2 with (fail)
  have Gs2 := G.size
  have l2ha := ha.lt
  have l2hu := hu.lt
  have l2hb := hb.lt
  have l2hv := hv.lt
  have l2hS := hS.lt
  refine Fg.rP [] [.any, .any, .any, .any, .any, .any, .any, .any, .any, .any, .any, .any, .any, .any, .any, .any, .any, .val (Value.pointer (some ⟨S, 0, none⟩)), .val (b.v), .val (u.v), .val ((Fe.mulF b u).v), .val (Value.pointer (some ⟨S, 0, none⟩)), .val (Value.pointer (some ⟨S, 0, none⟩)), .val (Value.pointer (some ⟨S, 5, none⟩))] 7 ?_ ?_
  ·refine Fg.vS rfl (by decide) (fun ac w h => ?_) ?_
   ·have e0 : _ = Value.pointer (some ⟨S, 0, none⟩) := h.r 0
    exact Fg.vn (Value.pointer (some ⟨S, 0, none⟩)) (Fg.run_move rfl e0)
   refine Fg.vS rfl (by decide) (fun ac w h => ?_) ?_
   ·have e8 : _ = Value.pointer (some ⟨w0.heap.size + 1 + 1, 0, none⟩) := h.r 8
    exact Fg.vn b.v (Fg.run_load rfl e8 ((hb.gn h.base).range 0 (feL b) rfl) Tryz.underlying34 rfl info_elem)
   refine Fg.vS rfl (by decide) (fun ac w h => ?_) ?_
   ·have e7 : _ = Value.pointer (some ⟨w0.heap.size + 1, 0, none⟩) := h.r 7
    exact Fg.vn u.v (Fg.run_load rfl e7 ((hu.gn h.base).range 0 (feL u) rfl) Tryz.underlying34 rfl info_elem)
   refine Fg.cS rfl (by decide) (fun ac w h => ?_) ?_
   ·have e18 : _ = b.v := h.d 18
    have e19 : _ = u.v := h.d 19
    refine ⟨wants_none rfl, 38, #[b.v, u.v], Fg.run_call rfl rfl (by simp only [List.map_toArray, List.map_cons, List.map_nil, Act.eval, e18, e19]) (Fg.run_enter Tryz.func38 (by kernel_rfl) (by kernel_rfl)), ?_⟩
    exact (t_mul okb oku).mono fun _ _ ⟨he, hg⟩ => ⟨_, he, hg, rfl⟩
   refine Fg.vS rfl (by decide) (fun ac w h => ?_) ?_
   ·have e17 : _ = Value.pointer (some ⟨S, 0, none⟩) := h.d 17
    exact Fg.vn (Value.pointer (some ⟨S, 0, none⟩)) (Fg.run_nilCheck rfl e17)
   refine Fg.vS rfl (by decide) (fun ac w h => ?_) ?_
   ·have e21 : _ = Value.pointer (some ⟨S, 0, none⟩) := h.d 21
    exact Fg.vn (Value.pointer (some ⟨S, 0, none⟩)) (Fg.run_fieldAddr rfl e21 (fa_sum0 _ _ _))
   refine Fg.vS rfl (by decide) (fun ac w h => ?_) ?_
   ·have e22 : _ = Value.pointer (some ⟨S, 0, none⟩) := h.d 22
    exact Fg.vn (Value.pointer (some ⟨S, 5, none⟩)) (Fg.run_fieldAddr rfl e22 (fa_point1 _ _ _))
   trivial
  ·intro qa V3 g3 hsz hdf hrest hslots hpt
   obtain ⟨⟨u17, hs17⟩, ⟨u18, hs18⟩, ⟨u19, hs19⟩, _⟩ := Fg.slotvs qa [17, 18, 19]
   obtain ⟨x2, hx2⟩ : ∃ x : Fe, x = Fe.mulF b u := ⟨_, rfl⟩
   obtain ⟨u21, hs21⟩ := Fg.slotv qa 21
   obtain ⟨u22, hs22⟩ := Fg.slotv qa 22
   obtain rfl := Fg.frame_by [17, 18, 19, 20, 21, 22, 23] (vs := [Value.pointer (some ⟨S, 0, none⟩), a.v, u.v, b.v, v.v, undef, Value.pointer (some ⟨w0.heap.size, 0, none⟩), Value.pointer (some ⟨w0.heap.size + 1, 0, none⟩), Value.pointer (some ⟨w0.heap.size + 1 + 1, 0, none⟩), Value.pointer (some ⟨w0.heap.size + 1 + 1 + 1, 0, none⟩), u10, u11, u12, x1.v, u14, u15, Value.pointer (some ⟨S, 0, none⟩), u17, u18, u19, x2.v, u21, u22, Value.pointer (some ⟨S, 5, none⟩), undef, undef, undef, undef, undef, undef, undef, undef, undef, undef, undef, undef, undef, undef, undef]) hsz hrest (by kernel_rfl) rfl rfl ⟨hs17, hs18, hs19, (show qa.tmps.getD 20 undef = x2.v by rw [hx2]; exact hslots 20 (by kernel_rfl)), hs21, hs22, (show qa.tmps.getD 23 undef = Value.pointer (some ⟨S, 5, none⟩) from hslots 23 (by kernel_rfl)), trivial⟩ hdf
   clear hsz hdf hrest hslots hpt hs17 hs18 hs19 hs21 hs22
   have Hx2 := Lib.hid hx2; clear hx2
   replace ha := ha.gn g3
   replace hu := hu.gn g3
   replace hb := hb.gn g3
   replace hv := hv.gn g3
   replace hS := hS.gn g3
   replace G := gb_trans G (gb_row g3 _)
   have okx2 : x2.Ok := by rw [Hx2.out]; exact (Fe.mul_right _ _).ok
   clear g3
   refine Fg.wpl_skip rfl rfl (Fg.run_store (cs := feL x2) rfl rfl rfl (hS.there 5 5 (by show 5 + 5 ≤ 30; decide)) info_elem (feL_one _)) ?_
   replace ha := ha.setCells_other (C := S) (cs := feL x2) 5 (by omega)
   replace hu := hu.setCells_other (C := S) (cs := feL x2) 5 (by omega)
   replace hb := hb.setCells_other (C := S) (cs := feL x2) 5 (by omega)
   replace hv := hv.setCells_other (C := S) (cs := feL x2) 5 (by omega)
   replace hS : Blk (V3.setCells S 5 (feL x2)) S 119 (smL ((Sm.mk x1 x2 s.Z s.T s.A s.B))) := hS.setCells 5
   replace G := gb_setCells (cs := feL x2) G 5
   revert ha hu hb hv hS G
   generalize V3.setCells S 5 (feL x2) = W4
   intro ha hu hb hv hS G
   go_upto_region 3 with (fail)
   have Gs4 := G.size
   have l3ha := ha.lt
   have l3hu := hu.lt
   have l3hb := hb.lt
   have l3hv := hv.lt
   have l3hS := hS.lt
   refine Fg.rP [] [.any, .any, .any, .any, .any, .any, .any, .any, .any, .any, .any, .any, .any, .any, .any, .any, .any, .any, .any, .any, .any, .any, .any, .any, .val (Value.pointer (some ⟨S, 0, none⟩)), .val (u.v), .val (v.v), .val ((Fe.mulF u v).v), .val (Value.pointer (some ⟨S, 0, none⟩)), .val (Value.pointer (some ⟨S, 0, none⟩)), .val (Value.pointer (some ⟨S, 10, none⟩))] 7 ?_ ?_
   ·refine Fg.vS rfl (by decide) (fun ac w h => ?_) ?_
    ·have e0 : _ = Value.pointer (some ⟨S, 0, none⟩) := h.r 0
     exact Fg.vn (Value.pointer (some ⟨S, 0, none⟩)) (Fg.run_move rfl e0)
    refine Fg.vS rfl (by decide) (fun ac w h => ?_) ?_
    ·have e7 : _ = Value.pointer (some ⟨w0.heap.size + 1, 0, none⟩) := h.r 7
     exact Fg.vn u.v (Fg.run_load rfl e7 ((hu.gn h.base).range 0 (feL u) rfl) Tryz.underlying34 rfl info_elem)
    refine Fg.vS rfl (by decide) (fun ac w h => ?_) ?_
    ·have e9 : _ = Value.pointer (some ⟨w0.heap.size + 1 + 1 + 1, 0, none⟩) := h.r 9
     exact Fg.vn v.v (Fg.run_load rfl e9 ((hv.gn h.base).range 0 (feL v) rfl) Tryz.underlying34 rfl info_elem)
    refine Fg.cS rfl (by decide) (fun ac w h => ?_) ?_
    ·have e25 : _ = u.v := h.d 25
     have e26 : _ = v.v := h.d 26
     refine ⟨wants_none rfl, 38, #[u.v, v.v], Fg.run_call rfl rfl (by simp only [List.map_toArray, List.map_cons, List.map_nil, Act.eval, e25, e26]) (Fg.run_enter Tryz.func38 (by kernel_rfl) (by kernel_rfl)), ?_⟩
     exact (t_mul oku okv).mono fun _ _ ⟨he, hg⟩ => ⟨_, he, hg, rfl⟩
    refine Fg.vS rfl (by decide) (fun ac w h => ?_) ?_
    ·have e24 : _ = Value.pointer (some ⟨S, 0, none⟩) := h.d 24
     exact Fg.vn (Value.pointer (some ⟨S, 0, none⟩)) (Fg.run_nilCheck rfl e24)
    refine Fg.vS rfl (by decide) (fun ac w h => ?_) ?_
    ·have e28 : _ = Value.pointer (some ⟨S, 0, none⟩) := h.d 28
     exact Fg.vn (Value.pointer (some ⟨S, 0, none⟩)) (Fg.run_fieldAddr rfl e28 (fa_sum0 _ _ _))
    refine Fg.vS rfl (by decide) (fun ac w h => ?_) ?_
    ·have e29 : _ = Value.pointer (some ⟨S, 0, none⟩) := h.d 29
     exact Fg.vn (Value.pointer (some ⟨S, 10, none⟩)) (Fg.run_fieldAddr rfl e29 (fa_point2 _ _ _))
    trivial
   ·intro qa V5 g5 hsz hdf hrest hslots hpt
    obtain ⟨⟨u24, hs24⟩, ⟨u25, hs25⟩, ⟨u26, hs26⟩, _⟩ := Fg.slotvs qa [24, 25, 26]
    obtain ⟨x3, hx3⟩ : ∃ x : Fe, x = Fe.mulF u v := ⟨_, rfl⟩
    obtain ⟨u28, hs28⟩ := Fg.slotv qa 28
    obtain ⟨u29, hs29⟩ := Fg.slotv qa 29
    obtain rfl := Fg.frame_by [24, 25, 26, 27, 28, 29, 30] (vs := [Value.pointer (some ⟨S, 0, none⟩), a.v, u.v, b.v, v.v, undef, Value.pointer (some ⟨w0.heap.size, 0, none⟩), Value.pointer (some ⟨w0.heap.size + 1, 0, none⟩), Value.pointer (some ⟨w0.heap.size + 1 + 1, 0, none⟩), Value.pointer (some ⟨w0.heap.size + 1 + 1 + 1, 0, none⟩), u10, u11, u12, x1.v, u14, u15, Value.pointer (some ⟨S, 0, none⟩), u17, u18, u19, x2.v, u21, u22, Value.pointer (some ⟨S, 5, none⟩), u24, u25, u26, x3.v, u28, u29, Value.pointer (some ⟨S, 10, none⟩), undef, undef, undef, undef, undef, undef, undef, undef]) hsz hrest (by kernel_rfl) rfl rfl ⟨hs24, hs25, hs26, (show qa.tmps.getD 27 undef = x3.v by rw [hx3]; exact hslots 27 (by kernel_rfl)), hs28, hs29, (show qa.tmps.getD 30 undef = Value.pointer (some ⟨S, 10, none⟩) from hslots 30 (by kernel_rfl)), trivial⟩ hdf
    clear hsz hdf hrest hslots hpt hs24 hs25 hs26 hs28 hs29
    have Hx3 := Lib.hid hx3; clear hx3
    replace ha := ha.gn g5
    replace hu := hu.gn g5
    replace hb := hb.gn g5
    replace hv := hv.gn g5
    replace hS := hS.gn g5
    replace G := gb_trans G (gb_row g5 _)
    have okx3 : x3.Ok := by rw [Hx3.out]; exact (Fe.mul_right _ _).ok
    clear g5
    refine Fg.wpl_skip rfl rfl (Fg.run_store (cs := feL x3) rfl rfl rfl (hS.there 10 5 (by show 10 + 5 ≤ 30; decide)) info_elem (feL_one _)) ?_
    replace ha := ha.setCells_other (C := S) (cs := feL x3) 10 (by omega)
    replace hu := hu.setCells_other (C := S) (cs := feL x3) 10 (by omega)
    replace hb := hb.setCells_other (C := S) (cs := feL x3) 10 (by omega)
    replace hv := hv.setCells_other (C := S) (cs := feL x3) 10 (by omega)
    replace hS : Blk (V5.setCells S 10 (feL x3)) S 119 (smL ((Sm.mk x1 x2 x3 s.T s.A s.B))) := hS.setCells 10
    replace G := gb_setCells (cs := feL x3) G 10
    revert ha hu hb hv hS G
    generalize V5.setCells S 10 (feL x3) = W6
    intro ha hu hb hv hS G
    go_upto_region 4 with (fail)
    have c0 := ha.cell (i := 0) rfl; have c1 := ha.cell (i := 1) rfl; have c2 := ha.cell (i := 2) rfl; have c3 := ha.cell (i := 3) rfl; have c4 := ha.cell (i := 4) rfl
    have d0 := hb.cell (i := 0) rfl; have d1 := hb.cell (i := 1) rfl; have d2 := hb.cell (i := 2) rfl; have d3 := hb.cell (i := 3) rfl; have d4 := hb.cell (i := 4) rfl
    have s20 := hS.cell (i := 20) rfl; have f20 := hS.free 20
    have s21 := hS.cell (i := 21) rfl; have f21 := hS.free 21
    have s22 := hS.cell (i := 22) rfl; have f22 := hS.free 22
    have s23 := hS.cell (i := 23) rfl; have f23 := hS.free 23
    have s24 := hS.cell (i := 24) rfl; have f24 := hS.free 24
    have s25 := hS.cell (i := 25) rfl; have f25 := hS.free 25
    have s26 := hS.cell (i := 26) rfl; have f26 := hS.free 26
    have s27 := hS.cell (i := 27) rfl; have f27 := hS.free 27
    have s28 := hS.cell (i := 28) rfl; have f28 := hS.free 28
    have s29 := hS.cell (i := 29) rfl; have f29 := hS.free 29
    have HS1 : Blk (((((W6.setCells S 20 (feL a)).setCells S 25 (feL b))))) S 119 (smL (bF s.T a u b v)) := by
        have hx3 := Hx3.out; subst hx3
        have hx2 := Hx2.out; subst hx2
        have hx1 := Hx1.out; subst hx1
        exact (hS.setCells 20).setCells 25
    have G1 := gb_setCells (cs := feL b) (gb_setCells (cs := feL a) G 20) 25
    have HS2 := HS1.drew
    have G2 := gb_drew G1
    clear HS1 G1
    have HR := Lib.hid (And.intro HS2 G2)
    clear ha hu hb hv hS G HS2 G2
    go_region
    all_goals
     go_wp2
     go_end0
     exact ⟨rfl, HR.out.2, HR.out.1⟩
end
section
open Go.RowKit Ed
set_option maxRecDepth 100000 in
set_option maxHeartbeats 3200000 in
theorem point_any (S : Nat) (s : Sm) (w0 : World) (hS : Blk w0 S 119 (smL s)) (oks : s.Ok) :
  Calls Tryz.prog 69 #[.pointer (some ⟨S, 0, none⟩)] w0 fun e w' => e = .returned (pointF s).v ∧ w0.grownBy w' (some S) ∧ Blk w' S 119 (smL (Sm.mk s.X s.Y s.Z (Fe.mulF s.A s.B) s.A s.B)) := by
 go_enter Tryz.func69, Tryz.ntmps69
 go_upto_region 1 with (fail)
 have hSlt := hS.lt
 have G : w0.grownBy (w0.alloc (.cells zr20.toArray 36)) (some S) := gb_alloc (gb_refl _ _) _
 have hR : Blk (w0.alloc (.cells zr20.toArray 36)) (w0.heap.size) 36 zr20 := Blk.new w0 zr20 _
 replace hS : Blk (w0.alloc (.cells zr20.toArray 36)) S 119 (smL s) := hS.alloc _
 revert G hR hS
 generalize w0.alloc (.cells zr20.toArray 36) = W0
 intro G hR hS
 have Gs := G.size
 have Gs0 := G.size
 have l1hS := hS.lt
 have l1hR := hR.lt
 refine Fg.rT [] [.any, .any, .any, .val (Value.pointer (some ⟨S, 0, none⟩)), .val (Value.pointer (some ⟨S, 0, none⟩)), .val (Value.pointer (some ⟨S, 0, none⟩)), .val (Value.pointer (some ⟨S, 20, none⟩)), .val (s.A.v), .val (Value.pointer (some ⟨S, 0, none⟩)), .val (Value.pointer (some ⟨S, 0, none⟩)), .val (Value.pointer (some ⟨S, 25, none⟩)), .val (s.B.v), .val ((Fe.mulF s.A s.B).v), .val (Value.pointer (some ⟨S, 0, none⟩)), .val (Value.pointer (some ⟨S, 0, none⟩)), .val (Value.pointer (some ⟨S, 15, none⟩))] 13 ?_ ?_
 ·refine Fg.vS rfl (by decide) (fun ac w h => ?_) ?_
  ·have e0 : _ = Value.pointer (some ⟨S, 0, none⟩) := h.r 0
   exact Fg.vn (Value.pointer (some ⟨S, 0, none⟩)) (Fg.run_move rfl e0)
  refine Fg.vS rfl (by decide) (fun ac w h => ?_) ?_
  ·have e0 : _ = Value.pointer (some ⟨S, 0, none⟩) := h.r 0
   exact Fg.vn (Value.pointer (some ⟨S, 0, none⟩)) (Fg.run_move rfl e0)
  refine Fg.vS rfl (by decide) (fun ac w h => ?_) ?_
  ·have e4 : _ = Value.pointer (some ⟨S, 0, none⟩) := h.d 4
   exact Fg.vn (Value.pointer (some ⟨S, 0, none⟩)) (Fg.run_nilCheck rfl e4)
  refine Fg.vS rfl (by decide) (fun ac w h => ?_) ?_
  ·have e5 : _ = Value.pointer (some ⟨S, 0, none⟩) := h.d 5
   exact Fg.vn (Value.pointer (some ⟨S, 20, none⟩)) (Fg.run_fieldAddr rfl e5 (fa_sum1 _ _ _))
  refine Fg.vS rfl (by decide) (fun ac w h => ?_) ?_
  ·have e6 : _ = Value.pointer (some ⟨S, 20, none⟩) := h.d 6
   exact Fg.vn s.A.v (Fg.run_load rfl e6 ((hS.gn h.base).range 20 (feL s.A) rfl) Tryz.underlying34 rfl info_elem)
  refine Fg.vS rfl (by decide) (fun ac w h => ?_) ?_
  ·have e0 : _ = Value.pointer (some ⟨S, 0, none⟩) := h.r 0
   exact Fg.vn (Value.pointer (some ⟨S, 0, none⟩)) (Fg.run_move rfl e0)
  refine Fg.vS rfl (by decide) (fun ac w h => ?_) ?_
  ·have e8 : _ = Value.pointer (some ⟨S, 0, none⟩) := h.d 8
   exact Fg.vn (Value.pointer (some ⟨S, 0, none⟩)) (Fg.run_nilCheck rfl e8)
  refine Fg.vS rfl (by decide) (fun ac w h => ?_) ?_
  ·have e9 : _ = Value.pointer (some ⟨S, 0, none⟩) := h.d 9
   exact Fg.vn (Value.pointer (some ⟨S, 25, none⟩)) (Fg.run_fieldAddr rfl e9 (fa_sum2 _ _ _))
  refine Fg.vS rfl (by decide) (fun ac w h => ?_) ?_
  ·have e10 : _ = Value.pointer (some ⟨S, 25, none⟩) := h.d 10
   exact Fg.vn s.B.v (Fg.run_load rfl e10 ((hS.gn h.base).range 25 (feL s.B) rfl) Tryz.underlying34 rfl info_elem)
  refine Fg.cS rfl (by decide) (fun ac w h => ?_) ?_
  ·have e7 : _ = s.A.v := h.d 7
   have e11 : _ = s.B.v := h.d 11
   refine ⟨wants_none rfl, 38, #[s.A.v, s.B.v], Fg.run_call rfl rfl (by simp only [List.map_toArray, List.map_cons, List.map_nil, Act.eval, e7, e11]) (Fg.run_enter Tryz.func38 (by kernel_rfl) (by kernel_rfl)), ?_⟩
   exact (t_mul oks.A oks.B).mono fun _ _ ⟨he, hg⟩ => ⟨_, he, hg, rfl⟩
  refine Fg.vS rfl (by decide) (fun ac w h => ?_) ?_
  ·have e3 : _ = Value.pointer (some ⟨S, 0, none⟩) := h.d 3
   exact Fg.vn (Value.pointer (some ⟨S, 0, none⟩)) (Fg.run_nilCheck rfl e3)
  refine Fg.vS rfl (by decide) (fun ac w h => ?_) ?_
  ·have e13 : _ = Value.pointer (some ⟨S, 0, none⟩) := h.d 13
   exact Fg.vn (Value.pointer (some ⟨S, 0, none⟩)) (Fg.run_fieldAddr rfl e13 (fa_sum0 _ _ _))
  refine Fg.vS rfl (by decide) (fun ac w h => ?_) ?_
  ·have e14 : _ = Value.pointer (some ⟨S, 0, none⟩) := h.d 14
   exact Fg.vn (Value.pointer (some ⟨S, 15, none⟩)) (Fg.run_fieldAddr rfl e14 (fa_point3 _ _ _))
  trivial
 ·intro qa V1 g1 hsz hdf hrest hslots hpt
  obtain ⟨⟨u3, hs3⟩, ⟨u4, hs4⟩, ⟨u5, hs5⟩, ⟨u6, hs6⟩, ⟨u7, hs7⟩, ⟨u8, hs8⟩, ⟨u9, hs9⟩, ⟨u10, hs10⟩, ⟨u11, hs11⟩, _⟩ := Fg.slotvs qa [3, 4, 5, 6, 7, 8, 9, 10, 11]
  obtain ⟨x1, hx1⟩ : ∃ x : Fe, x = Fe.mulF s.A s.B := ⟨_, rfl⟩
  obtain ⟨u13, hs13⟩ := Fg.slotv qa 13
  obtain ⟨u14, hs14⟩ := Fg.slotv qa 14
  obtain rfl := Fg.frame_by [3, 4, 5, 6, 7, 8, 9, 10, 11, 12, 13, 14, 15] (vs := [Value.pointer (some ⟨S, 0, none⟩), undef, Value.pointer (some ⟨w0.heap.size, 0, none⟩), u3, u4, u5, u6, u7, u8, u9, u10, u11, x1.v, u13, u14, Value.pointer (some ⟨S, 15, none⟩), undef, undef, undef, undef]) hsz hrest (by kernel_rfl) rfl rfl ⟨hs3, hs4, hs5, hs6, hs7, hs8, hs9, hs10, hs11, (show qa.tmps.getD 12 undef = x1.v by rw [hx1]; exact hslots 12 (by kernel_rfl)), hs13, hs14, (show qa.tmps.getD 15 undef = Value.pointer (some ⟨S, 15, none⟩) from hslots 15 (by kernel_rfl)), trivial⟩ hdf
  clear hsz hdf hrest hslots hpt hs3 hs4 hs5 hs6 hs7 hs8 hs9 hs10 hs11 hs13 hs14
  have Hx1 := Lib.hid hx1; clear hx1
  replace hS := hS.gn g1
  replace hR := hR.gn g1
  replace G := gb_trans G (gb_row g1 _)
  have okx1 : x1.Ok := by rw [Hx1.out]; exact (Fe.mul_right _ _).ok
  clear g1
  refine Fg.wpl_skip rfl rfl (Fg.run_store (cs := feL x1) rfl rfl rfl (hS.there 15 5 (by show 15 + 5 ≤ 30; decide)) info_elem (feL_one _)) ?_
  replace hS : Blk (V1.setCells S 15 (feL x1)) S 119 (smL ((Sm.mk s.X s.Y s.Z x1 s.A s.B))) := hS.setCells 15
  replace hR := hR.setCells_other (C := S) (cs := feL x1) 15 (by omega)
  replace G := gb_setCells (cs := feL x1) G 15
  revert hS hR G
  generalize V1.setCells S 15 (feL x1) = W2
  intro hS hR G
  go_upto_region 2 with (fail)
  have Gs2 := G.size
  have l2hS := hS.lt
  have l2hR := hR.lt
  refine Fg.rP [] [.any, .any, .any, .any, .any, .any, .any, .any, .any, .any, .any, .any, .any, .any, .any, .any, .val (Value.pointer (some ⟨S, 0, none⟩)), .val (Value.pointer (some ⟨S, 0, none⟩)), .val (Value.pointer (some ⟨S, 0, none⟩)), .val (((Pt.mk s.X s.Y s.Z x1)).v)] 4 ?_ ?_
  ·refine Fg.vS rfl (by decide) (fun ac w h => ?_) ?_
   ·have e0 : _ = Value.pointer (some ⟨S, 0, none⟩) := h.r 0
    exact Fg.vn (Value.pointer (some ⟨S, 0, none⟩)) (Fg.run_move rfl e0)
   refine Fg.vS rfl (by decide) (fun ac w h => ?_) ?_
   ·have e16 : _ = Value.pointer (some ⟨S, 0, none⟩) := h.d 16
    exact Fg.vn (Value.pointer (some ⟨S, 0, none⟩)) (Fg.run_nilCheck rfl e16)
   refine Fg.vS rfl (by decide) (fun ac w h => ?_) ?_
   ·have e17 : _ = Value.pointer (some ⟨S, 0, none⟩) := h.d 17
    exact Fg.vn (Value.pointer (some ⟨S, 0, none⟩)) (Fg.run_fieldAddr rfl e17 (fa_sum0 _ _ _))
   refine Fg.vS rfl (by decide) (fun ac w h => ?_) ?_
   ·have e18 : _ = Value.pointer (some ⟨S, 0, none⟩) := h.d 18
    exact Fg.vn (((Pt.mk s.X s.Y s.Z x1)).v) (Fg.run_load rfl e18 ((hS.gn h.base).range 0 (ptL ((Pt.mk s.X s.Y s.Z x1))) rfl) Tryz.underlying36 rfl info_point)
   trivial
  ·intro qa V3 g3 hsz hdf hrest hslots hpt
   obtain ⟨⟨u16, hs16⟩, ⟨u17, hs17⟩, ⟨u18, hs18⟩, _⟩ := Fg.slotvs qa [16, 17, 18]
   obtain ⟨x2, hx2⟩ : ∃ x : Pt, x = (Pt.mk s.X s.Y s.Z x1) := ⟨_, rfl⟩
   obtain rfl := Fg.frame_by [16, 17, 18, 19] (vs := [Value.pointer (some ⟨S, 0, none⟩), undef, Value.pointer (some ⟨w0.heap.size, 0, none⟩), u3, u4, u5, u6, u7, u8, u9, u10, u11, x1.v, u13, u14, Value.pointer (some ⟨S, 15, none⟩), u16, u17, u18, x2.v]) hsz hrest (by kernel_rfl) rfl rfl ⟨hs16, hs17, hs18, (show qa.tmps.getD 19 undef = x2.v by rw [hx2]; exact hslots 19 (by kernel_rfl)), trivial⟩ hdf
   clear hsz hdf hrest hslots hpt hs16 hs17 hs18
   have Hx2 := Lib.hid hx2; clear hx2
   replace hS := hS.gn g3
   replace hR := hR.gn g3
   replace G := gb_trans G (gb_row g3 _)
   clear g3
   refine Fg.wpl_skip rfl rfl (Fg.run_store (cs := ptL x2) rfl rfl rfl (hR.there 0 20 (by show 0 + 20 ≤ 20; decide)) info_point (ptL_one _)) ?_
   replace hS := hS.setCells_other (C := w0.heap.size) (cs := ptL x2) 0 (by omega)
   replace hR : Blk (V3.setCells w0.heap.size 0 (ptL x2)) w0.heap.size 36 (ptL x2) := hR.setAll rfl
   replace G := gb_setCells_new (cs := ptL x2) G (B := w0.heap.size) (by omega) 0
   revert hS hR G
   generalize V3.setCells w0.heap.size 0 (ptL x2) = W4
   intro hS hR G
   go_wp2_with fail
   have hx2 := Hx2.out; subst hx2
   have hx1 := Hx1.out; subst hx1
   exact bodyPost_ret (v := (pointF s).v) (results_cell_row Tryz.results69 _ _ w0.heap.size 36 (ptL (pointF s)).toArray (0, 0) _ rfl hR Tryz.underlying36 rfl info_point) rfl ⟨rfl, G, hS⟩
end
section
open Go.RowKit Ed
theorem Ed.AdIs.ok {s : Ad} {p : Pr} (h : AdIs s p) : s.Ok := ⟨h.rm.ok, h.rl.ok, h.rz.ok, h.rt.ok⟩
theorem Ed.SmIs.setT {s : Sm} {p : Pr} {t : Fe} (h : SmIs s p) (rt : t.Right) : SmIs (Sm.mk s.X s.Y s.Z t s.A s.B) p := ⟨h.rX, h.rY, h.rZ, rt, h.rA, h.rB, h.on, h.z, h.x, h.y, h.t⟩
set_option maxRecDepth 100000 in
set_option maxHeartbeats 3200000 in
theorem sadd_any (S : Nat) (s : Sm) (q : Ad) (p r : Pr) (w0 : World) (HT0 : ETab w0) (HN : NoG S) (hS : Blk w0 S 119 (smL s)) (hs : SmIs s p) (hq : AdIs q r) :
  Calls Tryz.prog 68 #[.pointer (some ⟨S, 0, none⟩), q.v] w0 fun e w' => e = .returned (.tuple #[]) ∧ w0.grownBy w' (some S) ∧ ∃ s', SmIs s' (Ed.add p r) ∧ Blk w' S 119 (smL s') := by
 have oks := hs.ok
 have rsT := hs.rT
 have okq := hq.ok
 show Calls Tryz.prog 68 #[.pointer (some ⟨S, 0, none⟩), .agg (adL q).toArray] w0 _
 go_enter Tryz.func68, Tryz.ntmps68
 go_upto_region 1 with (fail)
 have hSlt := hS.lt
 have G : w0.grownBy (w0.alloc (.cells (adL q).toArray 127)) (some S) := gb_alloc (gb_refl _ _) _
 have HT : ETab (w0.alloc (.cells (adL q).toArray 127)) := HT0.grown (gb_alloc (gb_refl _ _) _)
 have hQ : Blk (w0.alloc (.cells (adL q).toArray 127)) (w0.heap.size) 127 (adL q) := Blk.new w0 (adL q) _
 replace hS : Blk (w0.alloc (.cells (adL q).toArray 127)) S 119 (smL s) := hS.alloc _
 revert G HT hQ hS
 generalize w0.alloc (.cells (adL q).toArray 127) = W0
 intro G HT hQ hS
 have Gs := G.size
 have HS : NoG S := HN
 have Gs0 := G.size
 have l1hS := hS.lt
 have l1hQ := hQ.lt
 refine Fg.rT [4] [.any, .any, .any, .any, .fresh 34 zr5 W0.heap.size, .any, .any, .any, .val (Value.pointer (some ⟨S, 0, none⟩)), .val (Value.pointer (some ⟨S, 0, none⟩)), .val (Value.pointer (some ⟨S, 0, none⟩)), .val (Value.pointer (some ⟨S, 5, none⟩)), .val (s.Y.v), .val (Value.pointer (some ⟨S, 0, none⟩)), .val (Value.pointer (some ⟨S, 0, none⟩)), .val (Value.pointer (some ⟨S, 0, none⟩)), .val (Value.pointer (some ⟨S, 0, none⟩)), .val (s.X.v), .val ((Fe.addF s.Y s.X).v), .val (Value.pointer (some ⟨w0.heap.size, 0, none⟩)), .val (q.m.v), .val ((Fe.mulF (Fe.addF s.Y s.X) q.m).v)] 15 ?_ ?_
 ·refine Fg.vS rfl (by decide) (fun ac w h => ?_) ?_
  ·have e0 : _ = Value.pointer (some ⟨S, 0, none⟩) := h.r 0
   exact Fg.vn (Value.pointer (some ⟨S, 0, none⟩)) (Fg.run_move rfl e0)
  refine Fg.vS rfl (by decide) (fun ac w h => ?_) ?_
  ·have e8 : _ = Value.pointer (some ⟨S, 0, none⟩) := h.d 8
   exact Fg.vn (Value.pointer (some ⟨S, 0, none⟩)) (Fg.run_nilCheck rfl e8)
  refine Fg.vS rfl (by decide) (fun ac w h => ?_) ?_
  ·have e9 : _ = Value.pointer (some ⟨S, 0, none⟩) := h.d 9
   exact Fg.vn (Value.pointer (some ⟨S, 0, none⟩)) (Fg.run_fieldAddr rfl e9 (fa_sum0 _ _ _))
  refine Fg.vS rfl (by decide) (fun ac w h => ?_) ?_
  ·have e10 : _ = Value.pointer (some ⟨S, 0, none⟩) := h.d 10
   exact Fg.vn (Value.pointer (some ⟨S, 5, none⟩)) (Fg.run_fieldAddr rfl e10 (fa_point1 _ _ _))
  refine Fg.vS rfl (by decide) (fun ac w h => ?_) ?_
  ·have e11 : _ = Value.pointer (some ⟨S, 5, none⟩) := h.d 11
   exact Fg.vn s.Y.v (Fg.run_load rfl e11 ((hS.gn h.base).range 5 (feL s.Y) rfl) Tryz.underlying34 rfl info_elem)
  refine Fg.vS rfl (by decide) (fun ac w h => ?_) ?_
  ·have e0 : _ = Value.pointer (some ⟨S, 0, none⟩) := h.r 0
   exact Fg.vn (Value.pointer (some ⟨S, 0, none⟩)) (Fg.run_move rfl e0)
  refine Fg.vS rfl (by decide) (fun ac w h => ?_) ?_
  ·have e13 : _ = Value.pointer (some ⟨S, 0, none⟩) := h.d 13
   exact Fg.vn (Value.pointer (some ⟨S, 0, none⟩)) (Fg.run_nilCheck rfl e13)
  refine Fg.vS rfl (by decide) (fun ac w h => ?_) ?_
  ·have e14 : _ = Value.pointer (some ⟨S, 0, none⟩) := h.d 14
   exact Fg.vn (Value.pointer (some ⟨S, 0, none⟩)) (Fg.run_fieldAddr rfl e14 (fa_sum0 _ _ _))
  refine Fg.vS rfl (by decide) (fun ac w h => ?_) ?_
  ·have e15 : _ = Value.pointer (some ⟨S, 0, none⟩) := h.d 15
   exact Fg.vn (Value.pointer (some ⟨S, 0, none⟩)) (Fg.run_fieldAddr rfl e15 (fa_point0 _ _ _))
  refine Fg.vS rfl (by decide) (fun ac w h => ?_) ?_
  ·have e16 : _ = Value.pointer (some ⟨S, 0, none⟩) := h.d 16
   exact Fg.vn s.X.v (Fg.run_load rfl e16 ((hS.gn h.base).range 0 (feL s.X) rfl) Tryz.underlying34 rfl info_elem)
  refine Fg.cS rfl (by decide) (fun ac w h => ?_) ?_
  ·have e12 : _ = s.Y.v := h.d 12
   have e17 : _ = s.X.v := h.d 17
   refine ⟨wants_none rfl, 84, #[s.Y.v, s.X.v], Fg.run_call rfl rfl (by simp only [List.map_toArray, List.map_cons, List.map_nil, Act.eval, e12, e17]) (Fg.run_enter Tryz.func84 (by kernel_rfl) (by kernel_rfl)), ?_⟩
   exact (t_add oks.Y oks.X).mono fun _ _ ⟨he, hg⟩ => ⟨_, he, hg, rfl⟩
  refine Fg.vS rfl (by decide) (fun ac w h => ?_) ?_
  ·have e3 : _ = Value.pointer (some ⟨w0.heap.size, 0, none⟩) := h.r 3
   exact Fg.vn (Value.pointer (some ⟨w0.heap.size, 0, none⟩)) (Fg.run_fieldAddr rfl e3 (fa_addend0 _ _ _))
  refine Fg.vS rfl (by decide) (fun ac w h => ?_) ?_
  ·have e19 : _ = Value.pointer (some ⟨w0.heap.size, 0, none⟩) := h.d 19
   exact Fg.vn q.m.v (Fg.run_load rfl e19 ((hQ.gn h.base).range 0 (feL q.m) rfl) Tryz.underlying34 rfl info_elem)
  refine Fg.cS rfl (by decide) (fun ac w h => ?_) ?_
  ·have e18 : _ = (Fe.addF s.Y s.X).v := h.d 18
   have e20 : _ = q.m.v := h.d 20
   refine ⟨wants_none rfl, 38, #[(Fe.addF s.Y s.X).v, q.m.v], Fg.run_call rfl rfl (by simp only [List.map_toArray, List.map_cons, List.map_nil, Act.eval, e18, e20]) (Fg.run_enter Tryz.func38 (by kernel_rfl) (by kernel_rfl)), ?_⟩
   exact (t_mul (Fe.add_right _ _).ok okq.m).mono fun _ _ ⟨he, hg⟩ => ⟨_, he, hg, rfl⟩
  refine ⟨⟨⟨_, rfl⟩, Fg.allocP (fun _ _ h k => gb_trans h k) rfl (by show 4 < 64; decide) fun ac w h => ?_⟩, ?_⟩
  ·refine ⟨wants_none rfl, w.alloc (.cells zr5.toArray 34), ?_, World.grownBy_alloc _ _ _, by simp, ⟨w.heap.size, rfl, h.base.size, Blk.new w zr5 _⟩⟩
   clear h
   go_simp
  trivial
 ·intro qa V1 g1 hsz hdf hrest hslots hpt
  obtain ⟨N4, hs4, hn4, hb4⟩ : ∃ N, qa.tmps.getD 4 undef = .pointer (some ⟨N, 0, none⟩) ∧ W0.heap.size ≤ N ∧ Blk V1 N 34 zr5 := hslots 4 (by kernel_rfl)
  obtain ⟨⟨u8, hs8⟩, ⟨u9, hs9⟩, ⟨u10, hs10⟩, ⟨u11, hs11⟩, ⟨u12, hs12⟩, ⟨u13, hs13⟩, ⟨u14, hs14⟩, ⟨u15, hs15⟩, ⟨u16, hs16⟩, ⟨u17, hs17⟩, ⟨u18, hs18⟩, ⟨u19, hs19⟩, ⟨u20, hs20⟩, _⟩ := Fg.slotvs qa [8, 9, 10, 11, 12, 13, 14, 15, 16, 17, 18, 19, 20]
  obtain ⟨x1, hx1⟩ : ∃ x : Fe, x = Fe.mulF (Fe.addF s.Y s.X) q.m := ⟨_, rfl⟩
  obtain rfl := Fg.frame_by [4, 8, 9, 10, 11, 12, 13, 14, 15, 16, 17, 18, 19, 20, 21] (vs := [Value.pointer (some ⟨S, 0, none⟩), q.v, undef, Value.pointer (some ⟨w0.heap.size, 0, none⟩), Value.pointer (some ⟨N4, 0, none⟩), undef, undef, undef, u8, u9, u10, u11, u12, u13, u14, u15, u16, u17, u18, u19, u20, x1.v, undef, undef, undef, undef, undef, undef, undef, undef, undef, undef, undef, undef, undef, undef, undef, undef, undef, undef, undef, undef, undef, undef, undef, undef, undef, undef, undef, undef, undef, undef, undef, undef, undef, undef, undef, undef, undef, undef, undef, undef, undef, undef]) hsz hrest (by kernel_rfl) rfl rfl ⟨hs4, hs8, hs9, hs10, hs11, hs12, hs13, hs14, hs15, hs16, hs17, hs18, hs19, hs20, (show qa.tmps.getD 21 undef = x1.v by rw [hx1]; exact hslots 21 (by kernel_rfl)), trivial⟩ hdf
  clear hsz hdf hrest hslots hpt hs4 hs8 hs9 hs10 hs11 hs12 hs13 hs14 hs15 hs16 hs17 hs18 hs19 hs20
  have Hx1 := Lib.hid hx1; clear hx1
  replace hS := hS.gn g1
  replace hQ := hQ.gn g1
  replace G := gb_trans G (gb_row g1 _)
  replace HT := HT.grown g1
  have okx1 : x1.Ok := by rw [Hx1.out]; exact (Fe.mul_right _ _).ok
  have hw4 : w0.heap.size ≤ N4 := Nat.le_trans Gs0 hn4
  clear g1
  refine Fg.wpl_skip rfl rfl (Fg.run_store (cs := feL x1) rfl rfl rfl (hb4.there 0 5 (by show 0 + 5 ≤ 5; decide)) info_elem (feL_one _)) ?_
  replace hS := hS.setCells_other (C := N4) (cs := feL x1) 0 (by omega)
  replace hQ := hQ.setCells_other (C := N4) (cs := feL x1) 0 (by omega)
  replace hb4 : Blk (V1.setCells N4 0 (feL x1)) N4 34 (feL x1) := hb4.setAll rfl
  replace G := gb_setCells_new (cs := feL x1) G (B := N4) (hw4) 0
  replace HT := HT.keep (gb_setCells (cs := feL x1) (gb_refl _ (some N4)) 0) (HT0.noG (hw4))
  revert hS hQ hb4 G HT
  generalize V1.setCells N4 0 (feL x1) = W2
  intro hS hQ hb4 G HT
  go_upto_region 2 with (fail)
  have Gs2 := G.size
  have l2hS := hS.lt
  have l2hQ := hQ.lt
  have l2hb4 := hb4.lt
  refine Fg.rT [5] [.any, .any, .any, .any, .any, .fresh 34 zr5 W2.heap.size, .any, .any, .any, .any, .any, .any, .any, .any, .any, .any, .any, .any, .any, .any, .any, .any, .val (Value.pointer (some ⟨S, 0, none⟩)), .val (Value.pointer (some ⟨S, 0, none⟩)), .val (Value.pointer (some ⟨S, 0, none⟩)), .val (Value.pointer (some ⟨S, 5, none⟩)), .val (s.Y.v), .val (Value.pointer (some ⟨S, 0, none⟩)), .val (Value.pointer (some ⟨S, 0, none⟩)), .val (Value.pointer (some ⟨S, 0, none⟩)), .val (Value.pointer (some ⟨S, 0, none⟩)), .val (s.X.v), .val ((Fe.subF s.Y s.X).v), .val (Value.pointer (some ⟨w0.heap.size, 5, none⟩)), .val (q.l.v), .val ((Fe.mulF (Fe.subF s.Y s.X) q.l).v)] 15 ?_ ?_
  ·refine Fg.vS rfl (by decide) (fun ac w h => ?_) ?_
   ·have e0 : _ = Value.pointer (some ⟨S, 0, none⟩) := h.r 0
    exact Fg.vn (Value.pointer (some ⟨S, 0, none⟩)) (Fg.run_move rfl e0)
   refine Fg.vS rfl (by decide) (fun ac w h => ?_) ?_
   ·have e22 : _ = Value.pointer (some ⟨S, 0, none⟩) := h.d 22
    exact Fg.vn (Value.pointer (some ⟨S, 0, none⟩)) (Fg.run_nilCheck rfl e22)
   refine Fg.vS rfl (by decide) (fun ac w h => ?_) ?_
   ·have e23 : _ = Value.pointer (some ⟨S, 0, none⟩) := h.d 23
    exact Fg.vn (Value.pointer (some ⟨S, 0, none⟩)) (Fg.run_fieldAddr rfl e23 (fa_sum0 _ _ _))
   refine Fg.vS rfl (by decide) (fun ac w h => ?_) ?_
   ·have e24 : _ = Value.pointer (some ⟨S, 0, none⟩) := h.d 24
    exact Fg.vn (Value.pointer (some ⟨S, 5, none⟩)) (Fg.run_fieldAddr rfl e24 (fa_point1 _ _ _))
   refine Fg.vS rfl (by decide) (fun ac w h => ?_) ?_
   ·have e25 : _ = Value.pointer (some ⟨S, 5, none⟩) := h.d 25
    exact Fg.vn s.Y.v (Fg.run_load rfl e25 ((hS.gn h.base).range 5 (feL s.Y) rfl) Tryz.underlying34 rfl info_elem)
   refine Fg.vS rfl (by decide) (fun ac w h => ?_) ?_
   ·have e0 : _ = Value.pointer (some ⟨S, 0, none⟩) := h.r 0
    exact Fg.vn (Value.pointer (some ⟨S, 0, none⟩)) (Fg.run_move rfl e0)
   refine Fg.vS rfl (by decide) (fun ac w h => ?_) ?_
   ·have e27 : _ = Value.pointer (some ⟨S, 0, none⟩) := h.d 27
    exact Fg.vn (Value.pointer (some ⟨S, 0, none⟩)) (Fg.run_nilCheck rfl e27)
   refine Fg.vS rfl (by decide) (fun ac w h => ?_) ?_
   ·have e28 : _ = Value.pointer (some ⟨S, 0, none⟩) := h.d 28
    exact Fg.vn (Value.pointer (some ⟨S, 0, none⟩)) (Fg.run_fieldAddr rfl e28 (fa_sum0 _ _ _))
   refine Fg.vS rfl (by decide) (fun ac w h => ?_) ?_
   ·have e29 : _ = Value.pointer (some ⟨S, 0, none⟩) := h.d 29
    exact Fg.vn (Value.pointer (some ⟨S, 0, none⟩)) (Fg.run_fieldAddr rfl e29 (fa_point0 _ _ _))
   refine Fg.vS rfl (by decide) (fun ac w h => ?_) ?_
   ·have e30 : _ = Value.pointer (some ⟨S, 0, none⟩) := h.d 30
    exact Fg.vn s.X.v (Fg.run_load rfl e30 ((hS.gn h.base).range 0 (feL s.X) rfl) Tryz.underlying34 rfl info_elem)
   refine Fg.cS rfl (by decide) (fun ac w h => ?_) ?_
   ·have e26 : _ = s.Y.v := h.d 26
    have e31 : _ = s.X.v := h.d 31
    refine ⟨wants_none rfl, 70, #[s.Y.v, s.X.v], Fg.run_call rfl rfl (by simp only [List.map_toArray, List.map_cons, List.map_nil, Act.eval, e26, e31]) (Fg.run_enter Tryz.func70 (by kernel_rfl) (by kernel_rfl)), ?_⟩
    exact (t_sub (HT.f.grown h.base) oks.Y oks.X).mono fun _ _ ⟨he, hg⟩ => ⟨_, he, hg, rfl⟩
   refine Fg.vS rfl (by decide) (fun ac w h => ?_) ?_
   ·have e3 : _ = Value.pointer (some ⟨w0.heap.size, 0, none⟩) := h.r 3
    exact Fg.vn (Value.pointer (some ⟨w0.heap.size, 5, none⟩)) (Fg.run_fieldAddr rfl e3 (fa_addend1 _ _ _))
   refine Fg.vS rfl (by decide) (fun ac w h => ?_) ?_
   ·have e33 : _ = Value.pointer (some ⟨w0.heap.size, 5, none⟩) := h.d 33
    exact Fg.vn q.l.v (Fg.run_load rfl e33 ((hQ.gn h.base).range 5 (feL q.l) rfl) Tryz.underlying34 rfl info_elem)
   refine Fg.cS rfl (by decide) (fun ac w h => ?_) ?_
   ·have e32 : _ = (Fe.subF s.Y s.X).v := h.d 32
    have e34 : _ = q.l.v := h.d 34
    refine ⟨wants_none rfl, 38, #[(Fe.subF s.Y s.X).v, q.l.v], Fg.run_call rfl rfl (by simp only [List.map_toArray, List.map_cons, List.map_nil, Act.eval, e32, e34]) (Fg.run_enter Tryz.func38 (by kernel_rfl) (by kernel_rfl)), ?_⟩
    exact (t_mul (Fe.sub_right _ _).ok okq.l).mono fun _ _ ⟨he, hg⟩ => ⟨_, he, hg, rfl⟩
   refine ⟨⟨⟨_, rfl⟩, Fg.allocP (fun _ _ h k => gb_trans h k) rfl (by show 5 < 64; decide) fun ac w h => ?_⟩, ?_⟩
   ·refine ⟨wants_none rfl, w.alloc (.cells zr5.toArray 34), ?_, World.grownBy_alloc _ _ _, by simp, ⟨w.heap.size, rfl, h.base.size, Blk.new w zr5 _⟩⟩
    clear h
    go_simp
   trivial
  ·intro qa V3 g3 hsz hdf hrest hslots hpt
   obtain ⟨N5, hs5, hn5, hb5⟩ : ∃ N, qa.tmps.getD 5 undef = .pointer (some ⟨N, 0, none⟩) ∧ W2.heap.size ≤ N ∧ Blk V3 N 34 zr5 := hslots 5 (by kernel_rfl)
   obtain ⟨⟨u22, hs22⟩, ⟨u23, hs23⟩, ⟨u24, hs24⟩, ⟨u25, hs25⟩, ⟨u26, hs26⟩, ⟨u27, hs27⟩, ⟨u28, hs28⟩, ⟨u29, hs29⟩, ⟨u30, hs30⟩, ⟨u31, hs31⟩, ⟨u32, hs32⟩, ⟨u33, hs33⟩, ⟨u34, hs34⟩, _⟩ := Fg.slotvs qa [22, 23, 24, 25, 26, 27, 28, 29, 30, 31, 32, 33, 34]
   obtain ⟨x2, hx2⟩ : ∃ x : Fe, x = Fe.mulF (Fe.subF s.Y s.X) q.l := ⟨_, rfl⟩
   obtain rfl := Fg.frame_by [5, 22, 23, 24, 25, 26, 27, 28, 29, 30, 31, 32, 33, 34, 35] (vs := [Value.pointer (some ⟨S, 0, none⟩), q.v, undef, Value.pointer (some ⟨w0.heap.size, 0, none⟩), Value.pointer (some ⟨N4, 0, none⟩), Value.pointer (some ⟨N5, 0, none⟩), undef, undef, u8, u9, u10, u11, u12, u13, u14, u15, u16, u17, u18, u19, u20, x1.v, u22, u23, u24, u25, u26, u27, u28, u29, u30, u31, u32, u33, u34, x2.v, undef, undef, undef, undef, undef, undef, undef, undef, undef, undef, undef, undef, undef, undef, undef, undef, undef, undef, undef, undef, undef, undef, undef, undef, undef, undef, undef, undef]) hsz hrest (by kernel_rfl) rfl rfl ⟨hs5, hs22, hs23, hs24, hs25, hs26, hs27, hs28, hs29, hs30, hs31, hs32, hs33, hs34, (show qa.tmps.getD 35 undef = x2.v by rw [hx2]; exact hslots 35 (by kernel_rfl)), trivial⟩ hdf
   clear hsz hdf hrest hslots hpt hs5 hs22 hs23 hs24 hs25 hs26 hs27 hs28 hs29 hs30 hs31 hs32 hs33 hs34
   have Hx2 := Lib.hid hx2; clear hx2
   replace hS := hS.gn g3
   replace hQ := hQ.gn g3
   replace hb4 := hb4.gn g3
   replace G := gb_trans G (gb_row g3 _)
   replace HT := HT.grown g3
   have okx2 : x2.Ok := by rw [Hx2.out]; exact (Fe.mul_right _ _).ok
   have hw5 : w0.heap.size ≤ N5 := Nat.le_trans Gs2 hn5
   clear g3
   refine Fg.wpl_skip rfl rfl (Fg.run_store (cs := feL x2) rfl rfl rfl (hb5.there 0 5 (by show 0 + 5 ≤ 5; decide)) info_elem (feL_one _)) ?_
   replace hS := hS.setCells_other (C := N5) (cs := feL x2) 0 (by omega)
   replace hQ := hQ.setCells_other (C := N5) (cs := feL x2) 0 (by omega)
   replace hb4 := hb4.setCells_other (C := N5) (cs := feL x2) 0 (by omega)
   replace hb5 : Blk (V3.setCells N5 0 (feL x2)) N5 34 (feL x2) := hb5.setAll rfl
   replace G := gb_setCells_new (cs := feL x2) G (B := N5) (hw5) 0
   replace HT := HT.keep (gb_setCells (cs := feL x2) (gb_refl _ (some N5)) 0) (HT0.noG (hw5))
   revert hS hQ hb4 hb5 G HT
   generalize V3.setCells N5 0 (feL x2) = W4
   intro hS hQ hb4 hb5 G HT
   go_upto_region 3 with (fail)
   have Gs4 := G.size
   have l3hS := hS.lt
   have l3hQ := hQ.lt
   have l3hb4 := hb4.lt
   have l3hb5 := hb5.lt
   refine Fg.rT [6] [.any, .any, .any, .any, .any, .any, .fresh 34 zr5 W4.heap.size, .any, .any, .any, .any, .any, .any, .any, .any, .any, .any, .any, .any, .any, .any, .any, .any, .any, .any, .any, .any, .any, .any, .any, .any, .any, .any, .any, .any, .any, .val (Value.pointer (some ⟨S, 0, none⟩)), .val (Value.pointer (some ⟨S, 0, none⟩)), .val (Value.pointer (some ⟨S, 0, none⟩)), .val (Value.pointer (some ⟨S, 10, none⟩)), .val (s.Z.v), .val (Value.pointer (some ⟨w0.heap.size, 10, none⟩)), .val (q.z.v), .val ((Fe.mulF s.Z q.z).v)] 9 ?_ ?_
   ·refine Fg.vS rfl (by decide) (fun ac w h => ?_) ?_
    ·have e0 : _ = Value.pointer (some ⟨S, 0, none⟩) := h.r 0
     exact Fg.vn (Value.pointer (some ⟨S, 0, none⟩)) (Fg.run_move rfl e0)
    refine Fg.vS rfl (by decide) (fun ac w h => ?_) ?_
    ·have e36 : _ = Value.pointer (some ⟨S, 0, none⟩) := h.d 36
     exact Fg.vn (Value.pointer (some ⟨S, 0, none⟩)) (Fg.run_nilCheck rfl e36)
    refine Fg.vS rfl (by decide) (fun ac w h => ?_) ?_
    ·have e37 : _ = Value.pointer (some ⟨S, 0, none⟩) := h.d 37
     exact Fg.vn (Value.pointer (some ⟨S, 0, none⟩)) (Fg.run_fieldAddr rfl e37 (fa_sum0 _ _ _))
    refine Fg.vS rfl (by decide) (fun ac w h => ?_) ?_
    ·have e38 : _ = Value.pointer (some ⟨S, 0, none⟩) := h.d 38
     exact Fg.vn (Value.pointer (some ⟨S, 10, none⟩)) (Fg.run_fieldAddr rfl e38 (fa_point2 _ _ _))
    refine Fg.vS rfl (by decide) (fun ac w h => ?_) ?_
    ·have e39 : _ = Value.pointer (some ⟨S, 10, none⟩) := h.d 39
     exact Fg.vn s.Z.v (Fg.run_load rfl e39 ((hS.gn h.base).range 10 (feL s.Z) rfl) Tryz.underlying34 rfl info_elem)
    refine Fg.vS rfl (by decide) (fun ac w h => ?_) ?_
    ·have e3 : _ = Value.pointer (some ⟨w0.heap.size, 0, none⟩) := h.r 3
     exact Fg.vn (Value.pointer (some ⟨w0.heap.size, 10, none⟩)) (Fg.run_fieldAddr rfl e3 (fa_addend2 _ _ _))
    refine Fg.vS rfl (by decide) (fun ac w h => ?_) ?_
    ·have e41 : _ = Value.pointer (some ⟨w0.heap.size, 10, none⟩) := h.d 41
     exact Fg.vn q.z.v (Fg.run_load rfl e41 ((hQ.gn h.base).range 10 (feL q.z) rfl) Tryz.underlying34 rfl info_elem)
    refine Fg.cS rfl (by decide) (fun ac w h => ?_) ?_
    ·have e40 : _ = s.Z.v := h.d 40
     have e42 : _ = q.z.v := h.d 42
     refine ⟨wants_none rfl, 38, #[s.Z.v, q.z.v], Fg.run_call rfl rfl (by simp only [List.map_toArray, List.map_cons, List.map_nil, Act.eval, e40, e42]) (Fg.run_enter Tryz.func38 (by kernel_rfl) (by kernel_rfl)), ?_⟩
     exact (t_mul oks.Z okq.z).mono fun _ _ ⟨he, hg⟩ => ⟨_, he, hg, rfl⟩
    refine ⟨⟨⟨_, rfl⟩, Fg.allocP (fun _ _ h k => gb_trans h k) rfl (by show 6 < 64; decide) fun ac w h => ?_⟩, ?_⟩
    ·refine ⟨wants_none rfl, w.alloc (.cells zr5.toArray 34), ?_, World.grownBy_alloc _ _ _, by simp, ⟨w.heap.size, rfl, h.base.size, Blk.new w zr5 _⟩⟩
     clear h
     go_simp
    trivial
   ·intro qa V5 g5 hsz hdf hrest hslots hpt
    obtain ⟨N6, hs6, hn6, hb6⟩ : ∃ N, qa.tmps.getD 6 undef = .pointer (some ⟨N, 0, none⟩) ∧ W4.heap.size ≤ N ∧ Blk V5 N 34 zr5 := hslots 6 (by kernel_rfl)
    obtain ⟨⟨u36, hs36⟩, ⟨u37, hs37⟩, ⟨u38, hs38⟩, ⟨u39, hs39⟩, ⟨u40, hs40⟩, ⟨u41, hs41⟩, ⟨u42, hs42⟩, _⟩ := Fg.slotvs qa [36, 37, 38, 39, 40, 41, 42]
    obtain ⟨x3, hx3⟩ : ∃ x : Fe, x = Fe.mulF s.Z q.z := ⟨_, rfl⟩
    obtain rfl := Fg.frame_by [6, 36, 37, 38, 39, 40, 41, 42, 43] (vs := [Value.pointer (some ⟨S, 0, none⟩), q.v, undef, Value.pointer (some ⟨w0.heap.size, 0, none⟩), Value.pointer (some ⟨N4, 0, none⟩), Value.pointer (some ⟨N5, 0, none⟩), Value.pointer (some ⟨N6, 0, none⟩), undef, u8, u9, u10, u11, u12, u13, u14, u15, u16, u17, u18, u19, u20, x1.v, u22, u23, u24, u25, u26, u27, u28, u29, u30, u31, u32, u33, u34, x2.v, u36, u37, u38, u39, u40, u41, u42, x3.v, undef, undef, undef, undef, undef, undef, undef, undef, undef, undef, undef, undef, undef, undef, undef, undef, undef, undef, undef, undef]) hsz hrest (by kernel_rfl) rfl rfl ⟨hs6, hs36, hs37, hs38, hs39, hs40, hs41, hs42, (show qa.tmps.getD 43 undef = x3.v by rw [hx3]; exact hslots 43 (by kernel_rfl)), trivial⟩ hdf
    clear hsz hdf hrest hslots hpt hs6 hs36 hs37 hs38 hs39 hs40 hs41 hs42
    have Hx3 := Lib.hid hx3; clear hx3
    replace hS := hS.gn g5
    replace hQ := hQ.gn g5
    replace hb4 := hb4.gn g5
    replace hb5 := hb5.gn g5
    replace G := gb_trans G (gb_row g5 _)
    replace HT := HT.grown g5
    have okx3 : x3.Ok := by rw [Hx3.out]; exact (Fe.mul_right _ _).ok
    have hw6 : w0.heap.size ≤ N6 := Nat.le_trans Gs4 hn6
    clear g5
    refine Fg.wpl_skip rfl rfl (Fg.run_store (cs := feL x3) rfl rfl rfl (hb6.there 0 5 (by show 0 + 5 ≤ 5; decide)) info_elem (feL_one _)) ?_
    replace hS := hS.setCells_other (C := N6) (cs := feL x3) 0 (by omega)
    replace hQ := hQ.setCells_other (C := N6) (cs := feL x3) 0 (by omega)
    replace hb4 := hb4.setCells_other (C := N6) (cs := feL x3) 0 (by omega)
    replace hb5 := hb5.setCells_other (C := N6) (cs := feL x3) 0 (by omega)
    replace hb6 : Blk (V5.setCells N6 0 (feL x3)) N6 34 (feL x3) := hb6.setAll rfl
    replace G := gb_setCells_new (cs := feL x3) G (B := N6) (hw6) 0
    replace HT := HT.keep (gb_setCells (cs := feL x3) (gb_refl _ (some N6)) 0) (HT0.noG (hw6))
    revert hS hQ hb4 hb5 hb6 G HT
    generalize V5.setCells N6 0 (feL x3) = W6
    intro hS hQ hb4 hb5 hb6 G HT
    go_upto_region 4 with (fail)
    have Gs4r := G.size
    have l4hS := hS.lt
    have l4hQ := hQ.lt
    have l4hb4 := hb4.lt
    have l4hb5 := hb5.lt
    have l4hb6 := hb6.lt
    have HST : ∀ it ∈ ([.any, .any, .any, .any, .any, .any, .any, .fresh 34 zr5 W6.heap.size, .any, .any, .any, .any, .any, .any, .any, .any, .any, .any, .any, .any, .any, .any, .any, .any, .any, .any, .any, .any, .any, .any, .any, .any, .any, .any, .any, .any, .any, .any, .any, .any, .any, .any, .any, .any, .val (Value.pointer (some ⟨S, 0, none⟩)), .val (((Pt.mk s.X s.Y s.Z (Fe.mulF s.A s.B))).v), .val ((Fe.mulF s.A s.B).v), .val (Value.pointer (some ⟨w0.heap.size, 15, none⟩)), .val (q.t.v), .val ((Fe.mulF (Fe.mulF s.A s.B) q.t).v)] : List Fg.It), it.Steady S := by
     intro it hit
     simp only [List.mem_cons, List.not_mem_nil, or_false] at hit
     have hlW : S < W6.heap.size := hS.lt
     rcases hit with rfl | rfl | rfl | rfl | rfl | rfl | rfl | rfl | rfl | rfl | rfl | rfl | rfl | rfl | rfl | rfl | rfl | rfl | rfl | rfl | rfl | rfl | rfl | rfl | rfl | rfl | rfl | rfl | rfl | rfl | rfl | rfl | rfl | rfl | rfl | rfl | rfl | rfl | rfl | rfl | rfl | rfl | rfl | rfl | rfl | rfl | rfl | rfl | rfl | rfl
     all_goals first | exact Fg.any_steady S | exact Fg.val_steady S _ | exact Fg.fresh_steady _ _ hlW
    refine Fg.wp_region_tail (ps := [7]) [.any, .any, .any, .any, .any, .any, .any, .fresh 34 zr5 W6.heap.size, .any, .any, .any, .any, .any, .any, .any, .any, .any, .any, .any, .any, .any, .any, .any, .any, .any, .any, .any, .any, .any, .any, .any, .any, .any, .any, .any, .any, .any, .any, .any, .any, .any, .any, .any, .any, .val (Value.pointer (some ⟨S, 0, none⟩)), .val (((Pt.mk s.X s.Y s.Z (Fe.mulF s.A s.B))).v), .val ((Fe.mulF s.A s.B).v), .val (Value.pointer (some ⟨w0.heap.size, 15, none⟩)), .val (q.t.v), .val ((Fe.mulF (Fe.mulF s.A s.B) q.t).v)] (fun w => World.grownBy W6 w (some S) ∧ ∃ t : Fe, t.Right ∧ Blk w S 119 (smL (Sm.mk s.X s.Y s.Z t s.A s.B))) 7 ⟨gb_drew (gb_refl _ _), s.T, rsT, hS.drew⟩ (by kernel_rfl) (by kernel_rfl) (by kernel_rfl) (by kernel_rfl) (by decide) (Fg.ptrs_undef (by kernel_rfl)) ?_ ?_
    ·refine ⟨⟨⟨_, rfl⟩, Fg.valueP (fun _ _ h k => ⟨gb_trans h.1 (gb_row k _), let ⟨t, r, b⟩ := h.2; ⟨t, r, b.gn k⟩⟩) rfl (by decide) fun ac w h => ?_⟩, ?_⟩
     ·have e0 : _ = Value.pointer (some ⟨S, 0, none⟩) := h.r 0
      exact Fg.vn (Value.pointer (some ⟨S, 0, none⟩)) (Fg.run_move rfl e0)
     refine ⟨⟨⟨_, rfl⟩, Fg.stepCall rfl fun ac w h => ?_⟩, ?_⟩
     ·have e44 : _ = Value.pointer (some ⟨S, 0, none⟩) := h.d 44
      obtain ⟨hb1, t, rt, hb2⟩ := h.base
      have hptr := h.ptrs
      refine ⟨wants_none rfl, 69, #[Value.pointer (some ⟨S, 0, none⟩)], Fg.run_call rfl rfl (by simp only [List.map_toArray, List.map_cons, List.map_nil, Act.eval, e44]) (Fg.run_enter Tryz.func69 (by kernel_rfl) (by kernel_rfl)), ?_⟩
      exact (point_any S (Sm.mk s.X s.Y s.Z t s.A s.B) w hb2 ⟨oks.X, oks.Y, oks.Z, rt.ok, oks.A, oks.B⟩).mono fun _ w' ⟨he, hg, hb3⟩ => ⟨_, he, ⟨gb_trans hb1 hg, _, Fe.mul_right _ _, hb3⟩, Fg.its_steady HST hg, ptrs_put hptr hg.size (Fg.not_in (by decide)), rfl⟩
     refine ⟨⟨⟨_, rfl⟩, Fg.valueP (fun _ _ h k => ⟨gb_trans h.1 (gb_row k _), let ⟨t, r, b⟩ := h.2; ⟨t, r, b.gn k⟩⟩) rfl (by decide) fun ac w h => ?_⟩, ?_⟩
     ·have e45 : _ = ((Pt.mk s.X s.Y s.Z (Fe.mulF s.A s.B))).v := h.d 45
      exact Fg.vn ((Fe.mulF s.A s.B).v) (Fg.run_field rfl e45 (by kernel_rfl))
     refine ⟨⟨⟨_, rfl⟩, Fg.valueP (fun _ _ h k => ⟨gb_trans h.1 (gb_row k _), let ⟨t, r, b⟩ := h.2; ⟨t, r, b.gn k⟩⟩) rfl (by decide) fun ac w h => ?_⟩, ?_⟩
     ·have e3 : _ = Value.pointer (some ⟨w0.heap.size, 0, none⟩) := h.r 3
      exact Fg.vn (Value.pointer (some ⟨w0.heap.size, 15, none⟩)) (Fg.run_fieldAddr rfl e3 (fa_addend3 _ _ _))
     refine ⟨⟨⟨_, rfl⟩, Fg.valueP (fun _ _ h k => ⟨gb_trans h.1 (gb_row k _), let ⟨t, r, b⟩ := h.2; ⟨t, r, b.gn k⟩⟩) rfl (by decide) fun ac w h => ?_⟩, ?_⟩
     ·have e47 : _ = Value.pointer (some ⟨w0.heap.size, 15, none⟩) := h.d 47
      exact Fg.vn q.t.v (Fg.run_load rfl e47 ((hQ.grown h.base.1 (some_ne (by omega))).range 15 (feL q.t) rfl) Tryz.underlying34 rfl info_elem)
     refine ⟨⟨⟨_, rfl⟩, Fg.callP (fun _ _ h k => ⟨gb_trans h.1 (gb_row k _), let ⟨t, r, b⟩ := h.2; ⟨t, r, b.gn k⟩⟩) rfl (by decide) fun ac w h => ?_⟩, ?_⟩
     ·have e46 : _ = (Fe.mulF s.A s.B).v := h.d 46
      have e48 : _ = q.t.v := h.d 48
      refine ⟨wants_none rfl, 38, #[(Fe.mulF s.A s.B).v, q.t.v], Fg.run_call rfl rfl (by simp only [List.map_toArray, List.map_cons, List.map_nil, Act.eval, e46, e48]) (Fg.run_enter Tryz.func38 (by kernel_rfl) (by kernel_rfl)), ?_⟩
      exact (t_mul (Fe.mul_right _ _).ok okq.t).mono fun _ _ ⟨he, hg⟩ => ⟨_, he, hg, rfl⟩
     refine ⟨⟨⟨_, rfl⟩, Fg.allocP (fun _ _ h k => ⟨gb_trans h.1 (gb_row k _), let ⟨t, r, b⟩ := h.2; ⟨t, r, b.gn k⟩⟩) rfl (by show 7 < 64; decide) fun ac w h => ?_⟩, ?_⟩
     ·refine ⟨wants_none rfl, w.alloc (.cells zr5.toArray 34), ?_, World.grownBy_alloc _ _ _, by simp, ⟨w.heap.size, rfl, h.base.1.size, Blk.new w zr5 _⟩⟩
      clear h
      go_simp
     trivial
    ·intro qa V7 g7 hsz hdf hrest hslots hpt
     obtain ⟨N7, hs7, hn7, hb7⟩ : ∃ N, qa.tmps.getD 7 undef = .pointer (some ⟨N, 0, none⟩) ∧ W6.heap.size ≤ N ∧ Blk V7 N 34 zr5 := hslots 7 (by kernel_rfl)
     obtain ⟨⟨u44, hs44⟩, ⟨u45, hs45⟩, ⟨u46, hs46⟩, ⟨u47, hs47⟩, ⟨u48, hs48⟩, _⟩ := Fg.slotvs qa [44, 45, 46, 47, 48]
     obtain ⟨x4, hx4⟩ : ∃ x : Fe, x = Fe.mulF (Fe.mulF s.A s.B) q.t := ⟨_, rfl⟩
     obtain rfl := Fg.frame_by [7, 44, 45, 46, 47, 48, 49] (vs := [Value.pointer (some ⟨S, 0, none⟩), q.v, undef, Value.pointer (some ⟨w0.heap.size, 0, none⟩), Value.pointer (some ⟨N4, 0, none⟩), Value.pointer (some ⟨N5, 0, none⟩), Value.pointer (some ⟨N6, 0, none⟩), Value.pointer (some ⟨N7, 0, none⟩), u8, u9, u10, u11, u12, u13, u14, u15, u16, u17, u18, u19, u20, x1.v, u22, u23, u24, u25, u26, u27, u28, u29, u30, u31, u32, u33, u34, x2.v, u36, u37, u38, u39, u40, u41, u42, x3.v, u44, u45, u46, u47, u48, x4.v, undef, undef, undef, undef, undef, undef, undef, undef, undef, undef, undef, undef, undef, undef]) hsz hrest (by kernel_rfl) rfl rfl ⟨hs7, hs44, hs45, hs46, hs47, hs48, (show qa.tmps.getD 49 undef = x4.v by rw [hx4]; exact hslots 49 (by kernel_rfl)), trivial⟩ hdf
     clear hsz hdf hrest hslots hpt hs7 hs44 hs45 hs46 hs47 hs48
     have Hx4 := Lib.hid hx4; clear hx4
     clear hS
     obtain ⟨g7, t, rt, hS⟩ := g7
     replace hQ := hQ.grown g7 (some_ne (by omega))
     replace hb4 := hb4.grown g7 (some_ne (by omega))
     replace hb5 := hb5.grown g7 (some_ne (by omega))
     replace hb6 := hb6.grown g7 (some_ne (by omega))
     replace G := gb_trans G g7
     replace HT := HT.keep g7 HS
     have okx4 : x4.Ok := by rw [Hx4.out]; exact (Fe.mul_right _ _).ok
     have hw7 : w0.heap.size ≤ N7 := Nat.le_trans Gs4r hn7
     clear g7 HST
     refine Fg.wpl_skip rfl rfl (Fg.run_store (cs := feL x4) rfl rfl rfl (hb7.there 0 5 (by show 0 + 5 ≤ 5; decide)) info_elem (feL_one _)) ?_
     replace hS := hS.setCells_other (C := N7) (cs := feL x4) 0 (by omega)
     replace hQ := hQ.setCells_other (C := N7) (cs := feL x4) 0 (by omega)
     replace hb4 := hb4.setCells_other (C := N7) (cs := feL x4) 0 (by omega)
     replace hb5 := hb5.setCells_other (C := N7) (cs := feL x4) 0 (by omega)
     replace hb6 := hb6.setCells_other (C := N7) (cs := feL x4) 0 (by omega)
     replace hb7 : Blk (V7.setCells N7 0 (feL x4)) N7 34 (feL x4) := hb7.setAll rfl
     replace G := gb_setCells_new (cs := feL x4) G (B := N7) (hw7) 0
     replace HT := HT.keep (gb_setCells (cs := feL x4) (gb_refl _ (some N7)) 0) (HT0.noG (hw7))
     revert hS hQ hb4 hb5 hb6 hb7 G HT
     generalize V7.setCells N7 0 (feL x4) = W8
     intro hS hQ hb4 hb5 hb6 hb7 G HT
     go_upto_region 5 with (fail)
     have Gs8 := G.size
     have l5hS := hS.lt
     have l5hQ := hQ.lt
     have l5hb4 := hb4.lt
     have l5hb5 := hb5.lt
     have l5hb6 := hb6.lt
     have l5hb7 := hb7.lt
     refine Fg.rT [] [.any, .any, .any, .any, .any, .any, .any, .any, .any, .any, .any, .any, .any, .any, .any, .any, .any, .any, .any, .any, .any, .any, .any, .any, .any, .any, .any, .any, .any, .any, .any, .any, .any, .any, .any, .any, .any, .any, .any, .any, .any, .any, .any, .any, .any, .any, .any, .any, .any, .any, .val (Value.pointer (some ⟨S, 0, none⟩)), .val (x1.v), .val (x2.v), .val ((Fe.subF x1 x2).v), .val (x3.v), .val (x4.v), .val ((Fe.addF x3 x4).v), .val (x1.v), .val (x2.v), .val ((Fe.addF x1 x2).v), .val (x3.v), .val (x4.v), .val ((Fe.subF x3 x4).v)] 13 ?_ ?_
     ·refine Fg.vS rfl (by decide) (fun ac w h => ?_) ?_
      ·have e0 : _ = Value.pointer (some ⟨S, 0, none⟩) := h.r 0
       exact Fg.vn (Value.pointer (some ⟨S, 0, none⟩)) (Fg.run_move rfl e0)
      refine Fg.vS rfl (by decide) (fun ac w h => ?_) ?_
      ·have e4 : _ = Value.pointer (some ⟨N4, 0, none⟩) := h.r 4
       exact Fg.vn x1.v (Fg.run_load rfl e4 ((hb4.gn h.base).range 0 (feL x1) rfl) Tryz.underlying34 rfl info_elem)
      refine Fg.vS rfl (by decide) (fun ac w h => ?_) ?_
      ·have e5 : _ = Value.pointer (some ⟨N5, 0, none⟩) := h.r 5
       exact Fg.vn x2.v (Fg.run_load rfl e5 ((hb5.gn h.base).range 0 (feL x2) rfl) Tryz.underlying34 rfl info_elem)
      refine Fg.cS rfl (by decide) (fun ac w h => ?_) ?_
      ·have e51 : _ = x1.v := h.d 51
       have e52 : _ = x2.v := h.d 52
       refine ⟨wants_none rfl, 70, #[x1.v, x2.v], Fg.run_call rfl rfl (by simp only [List.map_toArray, List.map_cons, List.map_nil, Act.eval, e51, e52]) (Fg.run_enter Tryz.func70 (by kernel_rfl) (by kernel_rfl)), ?_⟩
       exact (t_sub (HT.f.grown h.base) okx1 okx2).mono fun _ _ ⟨he, hg⟩ => ⟨_, he, hg, rfl⟩
      refine Fg.vS rfl (by decide) (fun ac w h => ?_) ?_
      ·have e6 : _ = Value.pointer (some ⟨N6, 0, none⟩) := h.r 6
       exact Fg.vn x3.v (Fg.run_load rfl e6 ((hb6.gn h.base).range 0 (feL x3) rfl) Tryz.underlying34 rfl info_elem)
      refine Fg.vS rfl (by decide) (fun ac w h => ?_) ?_
      ·have e7 : _ = Value.pointer (some ⟨N7, 0, none⟩) := h.r 7
       exact Fg.vn x4.v (Fg.run_load rfl e7 ((hb7.gn h.base).range 0 (feL x4) rfl) Tryz.underlying34 rfl info_elem)
      refine Fg.cS rfl (by decide) (fun ac w h => ?_) ?_
      ·have e54 : _ = x3.v := h.d 54
       have e55 : _ = x4.v := h.d 55
       refine ⟨wants_none rfl, 84, #[x3.v, x4.v], Fg.run_call rfl rfl (by simp only [List.map_toArray, List.map_cons, List.map_nil, Act.eval, e54, e55]) (Fg.run_enter Tryz.func84 (by kernel_rfl) (by kernel_rfl)), ?_⟩
       exact (t_add okx3 okx4).mono fun _ _ ⟨he, hg⟩ => ⟨_, he, hg, rfl⟩
      refine Fg.vS rfl (by decide) (fun ac w h => ?_) ?_
      ·have e4 : _ = Value.pointer (some ⟨N4, 0, none⟩) := h.r 4
       exact Fg.vn x1.v (Fg.run_load rfl e4 ((hb4.gn h.base).range 0 (feL x1) rfl) Tryz.underlying34 rfl info_elem)
      refine Fg.vS rfl (by decide) (fun ac w h => ?_) ?_
      ·have e5 : _ = Value.pointer (some ⟨N5, 0, none⟩) := h.r 5
       exact Fg.vn x2.v (Fg.run_load rfl e5 ((hb5.gn h.base).range 0 (feL x2) rfl) Tryz.underlying34 rfl info_elem)
      refine Fg.cS rfl (by decide) (fun ac w h => ?_) ?_
      ·have e57 : _ = x1.v := h.d 57
       have e58 : _ = x2.v := h.d 58
       refine ⟨wants_none rfl, 84, #[x1.v, x2.v], Fg.run_call rfl rfl (by simp only [List.map_toArray, List.map_cons, List.map_nil, Act.eval, e57, e58]) (Fg.run_enter Tryz.func84 (by kernel_rfl) (by kernel_rfl)), ?_⟩
       exact (t_add okx1 okx2).mono fun _ _ ⟨he, hg⟩ => ⟨_, he, hg, rfl⟩
      refine Fg.vS rfl (by decide) (fun ac w h => ?_) ?_
      ·have e6 : _ = Value.pointer (some ⟨N6, 0, none⟩) := h.r 6
       exact Fg.vn x3.v (Fg.run_load rfl e6 ((hb6.gn h.base).range 0 (feL x3) rfl) Tryz.underlying34 rfl info_elem)
      refine Fg.vS rfl (by decide) (fun ac w h => ?_) ?_
      ·have e7 : _ = Value.pointer (some ⟨N7, 0, none⟩) := h.r 7
       exact Fg.vn x4.v (Fg.run_load rfl e7 ((hb7.gn h.base).range 0 (feL x4) rfl) Tryz.underlying34 rfl info_elem)
      refine Fg.cS rfl (by decide) (fun ac w h => ?_) ?_
      ·have e60 : _ = x3.v := h.d 60
       have e61 : _ = x4.v := h.d 61
       refine ⟨wants_none rfl, 70, #[x3.v, x4.v], Fg.run_call rfl rfl (by simp only [List.map_toArray, List.map_cons, List.map_nil, Act.eval, e60, e61]) (Fg.run_enter Tryz.func70 (by kernel_rfl) (by kernel_rfl)), ?_⟩
       exact (t_sub (HT.f.grown h.base) okx3 okx4).mono fun _ _ ⟨he, hg⟩ => ⟨_, he, hg, rfl⟩
      trivial
     ·intro qa V9 g9 hsz hdf hrest hslots hpt
      obtain ⟨u51, hs51⟩ := Fg.slotv qa 51
      obtain ⟨u52, hs52⟩ := Fg.slotv qa 52
      obtain ⟨x5, hx5⟩ : ∃ x : Fe, x = Fe.subF x1 x2 := ⟨_, rfl⟩
      obtain ⟨u54, hs54⟩ := Fg.slotv qa 54
      obtain ⟨u55, hs55⟩ := Fg.slotv qa 55
      obtain ⟨x6, hx6⟩ : ∃ x : Fe, x = Fe.addF x3 x4 := ⟨_, rfl⟩
      obtain ⟨u57, hs57⟩ := Fg.slotv qa 57
      obtain ⟨u58, hs58⟩ := Fg.slotv qa 58
      obtain ⟨x7, hx7⟩ : ∃ x : Fe, x = Fe.addF x1 x2 := ⟨_, rfl⟩
      obtain ⟨u60, hs60⟩ := Fg.slotv qa 60
      obtain ⟨u61, hs61⟩ := Fg.slotv qa 61
      obtain ⟨x8, hx8⟩ : ∃ x : Fe, x = Fe.subF x3 x4 := ⟨_, rfl⟩
      obtain rfl := Fg.frame_by [50, 51, 52, 53, 54, 55, 56, 57, 58, 59, 60, 61, 62] (vs := [Value.pointer (some ⟨S, 0, none⟩), q.v, undef, Value.pointer (some ⟨w0.heap.size, 0, none⟩), Value.pointer (some ⟨N4, 0, none⟩), Value.pointer (some ⟨N5, 0, none⟩), Value.pointer (some ⟨N6, 0, none⟩), Value.pointer (some ⟨N7, 0, none⟩), u8, u9, u10, u11, u12, u13, u14, u15, u16, u17, u18, u19, u20, x1.v, u22, u23, u24, u25, u26, u27, u28, u29, u30, u31, u32, u33, u34, x2.v, u36, u37, u38, u39, u40, u41, u42, x3.v, u44, u45, u46, u47, u48, x4.v, Value.pointer (some ⟨S, 0, none⟩), u51, u52, x5.v, u54, u55, x6.v, u57, u58, x7.v, u60, u61, x8.v, undef]) hsz hrest (by kernel_rfl) rfl rfl ⟨(show qa.tmps.getD 50 undef = Value.pointer (some ⟨S, 0, none⟩) from hslots 50 (by kernel_rfl)), hs51, hs52, (show qa.tmps.getD 53 undef = x5.v by rw [hx5]; exact hslots 53 (by kernel_rfl)), hs54, hs55, (show qa.tmps.getD 56 undef = x6.v by rw [hx6]; exact hslots 56 (by kernel_rfl)), hs57, hs58, (show qa.tmps.getD 59 undef = x7.v by rw [hx7]; exact hslots 59 (by kernel_rfl)), hs60, hs61, (show qa.tmps.getD 62 undef = x8.v by rw [hx8]; exact hslots 62 (by kernel_rfl)), trivial⟩ hdf
      clear hsz hdf hrest hslots hpt hs51 hs52 hs54 hs55 hs57 hs58 hs60 hs61
      have Hx5 := Lib.hid hx5; clear hx5
      have Hx6 := Lib.hid hx6; clear hx6
      have Hx7 := Lib.hid hx7; clear hx7
      have Hx8 := Lib.hid hx8; clear hx8
      replace hS := hS.gn g9
      replace hQ := hQ.gn g9
      replace hb4 := hb4.gn g9
      replace hb5 := hb5.gn g9
      replace hb6 := hb6.gn g9
      replace hb7 := hb7.gn g9
      replace G := gb_trans G (gb_row g9 _)
      replace HT := HT.grown g9
      have okx5 : x5.Ok := by rw [Hx5.out]; exact (Fe.sub_right _ _).ok
      have okx6 : x6.Ok := by rw [Hx6.out]; exact (Fe.add_right _ _).ok
      have okx7 : x7.Ok := by rw [Hx7.out]; exact (Fe.add_right _ _).ok
      have okx8 : x8.Ok := by rw [Hx8.out]; exact (Fe.sub_right _ _).ok
      clear g9
      refine Fg.wpl_call rfl (Fg.run_call (vs := #[Value.pointer (some ⟨S, 0, none⟩), x5.v, x6.v, x7.v, x8.v]) rfl rfl (by simp only [List.map_toArray, List.map_cons, List.map_nil, Act.eval]; rfl) (Fg.run_enter Tryz.func96 (by kernel_rfl) (by kernel_rfl))) ?_
      refine (become_any S _ x5 x6 x7 x8 _ hS okx5 okx6 okx7 okx8).mono ?_
      rintro e w9 ⟨rfl, g9, h9⟩
      replace G := gb_trans G g9
      refine ⟨_, rfl, ?_⟩
      clear hQ hS hb4 hb5 hb6 hb7
      go_wp2
      go_end0
      refine ⟨rfl, G, _, ?_, h9⟩
      have hx8 := Hx8.out; subst hx8
      have hx7 := Hx7.out; subst hx7
      have hx6 := Hx6.out; subst hx6
      have hx5 := Hx5.out; subst hx5
      have hx4 := Hx4.out; subst hx4
      have hx3 := Hx3.out; subst hx3
      have hx2 := Hx2.out; subst hx2
      have hx1 := Hx1.out; subst hx1
      exact (plusIs hs hq).setT rt
end
section
open Go.RowKit Ed
set_option maxRecDepth 100000 in
set_option maxHeartbeats 3200000 in
theorem addendOf_any (p : Pt) (w0 : World) (HT0 : ETab w0) (okp : p.Ok) :
  Calls Tryz.prog 94 #[p.v] w0 fun e w' => e = .returned (adF p).v ∧ w0.grownBy w' none := by
 show Calls Tryz.prog 94 #[.agg (ptL p).toArray] w0 _
 go_enter Tryz.func94, Tryz.ntmps94
 go_upto_region 1 with (fail)
 have G : w0.grownBy ((w0.alloc (.cells (ptL p).toArray 36)).alloc (.cells zr20.toArray 127)) none := gb_alloc (gb_alloc (gb_refl _ _) _) _
 have HT : ETab ((w0.alloc (.cells (ptL p).toArray 36)).alloc (.cells zr20.toArray 127)) := HT0.grown (gb_alloc (gb_alloc (gb_refl _ _) _) _)
 have hP : Blk ((w0.alloc (.cells (ptL p).toArray 36)).alloc (.cells zr20.toArray 127)) (w0.heap.size) 36 (ptL p) := (Blk.new w0 (ptL p) _).alloc _
 have hR : Blk ((w0.alloc (.cells (ptL p).toArray 36)).alloc (.cells zr20.toArray 127)) (w0.heap.size + 1) 127 zr20 := Blk.newAt (w0.alloc _) zr20 _ (by simp)
 revert G HT hP hR
 generalize (w0.alloc (.cells (ptL p).toArray 36)).alloc (.cells zr20.toArray 127) = W0
 intro G HT hP hR
 have Gs := G.size
 have Gs0 := G.size
 have l1hP := hP.lt
 have l1hR := hR.lt
 refine Fg.rT [] [.any, .any, .any, .val (Value.pointer (some ⟨w0.heap.size, 5, none⟩)), .val (p.Y.v), .val (Value.pointer (some ⟨w0.heap.size, 0, none⟩)), .val (p.X.v), .val ((Fe.addF p.Y p.X).v), .val (Value.pointer (some ⟨w0.heap.size, 5, none⟩)), .val (p.Y.v), .val (Value.pointer (some ⟨w0.heap.size, 0, none⟩)), .val (p.X.v), .val ((Fe.subF p.Y p.X).v), .val (Value.pointer (some ⟨w0.heap.size, 10, none⟩)), .val (p.Z.v), .val (Value.pointer (some ⟨w0.heap.size, 10, none⟩)), .val (p.Z.v), .val ((Fe.addF p.Z p.Z).v), .val (dF.v), .val (Value.pointer (some ⟨w0.heap.size, 15, none⟩)), .val (p.T.v), .val (Value.pointer (some ⟨w0.heap.size, 15, none⟩)), .val (p.T.v), .val ((Fe.addF p.T p.T).v), .val ((Fe.mulF dF (Fe.addF p.T p.T)).v), .val ((adF p).v)] 23 ?_ ?_
 ·refine Fg.vS rfl (by decide) (fun ac w h => ?_) ?_
  ·have e1 : _ = Value.pointer (some ⟨w0.heap.size, 0, none⟩) := h.r 1
   exact Fg.vn (Value.pointer (some ⟨w0.heap.size, 5, none⟩)) (Fg.run_fieldAddr rfl e1 (fa_point1 _ _ _))
  refine Fg.vS rfl (by decide) (fun ac w h => ?_) ?_
  ·have e3 : _ = Value.pointer (some ⟨w0.heap.size, 5, none⟩) := h.d 3
   exact Fg.vn p.Y.v (Fg.run_load rfl e3 ((hP.gn h.base).range 5 (feL p.Y) rfl) Tryz.underlying34 rfl info_elem)
  refine Fg.vS rfl (by decide) (fun ac w h => ?_) ?_
  ·have e1 : _ = Value.pointer (some ⟨w0.heap.size, 0, none⟩) := h.r 1
   exact Fg.vn (Value.pointer (some ⟨w0.heap.size, 0, none⟩)) (Fg.run_fieldAddr rfl e1 (fa_point0 _ _ _))
  refine Fg.vS rfl (by decide) (fun ac w h => ?_) ?_
  ·have e5 : _ = Value.pointer (some ⟨w0.heap.size, 0, none⟩) := h.d 5
   exact Fg.vn p.X.v (Fg.run_load rfl e5 ((hP.gn h.base).range 0 (feL p.X) rfl) Tryz.underlying34 rfl info_elem)
  refine Fg.cS rfl (by decide) (fun ac w h => ?_) ?_
  ·have e4 : _ = p.Y.v := h.d 4
   have e6 : _ = p.X.v := h.d 6
   refine ⟨wants_none rfl, 84, #[p.Y.v, p.X.v], Fg.run_call rfl rfl (by simp only [List.map_toArray, List.map_cons, List.map_nil, Act.eval, e4, e6]) (Fg.run_enter Tryz.func84 (by kernel_rfl) (by kernel_rfl)), ?_⟩
   exact (t_add okp.Y okp.X).mono fun _ _ ⟨he, hg⟩ => ⟨_, he, hg, rfl⟩
  refine Fg.vS rfl (by decide) (fun ac w h => ?_) ?_
  ·have e1 : _ = Value.pointer (some ⟨w0.heap.size, 0, none⟩) := h.r 1
   exact Fg.vn (Value.pointer (some ⟨w0.heap.size, 5, none⟩)) (Fg.run_fieldAddr rfl e1 (fa_point1 _ _ _))
  refine Fg.vS rfl (by decide) (fun ac w h => ?_) ?_
  ·have e8 : _ = Value.pointer (some ⟨w0.heap.size, 5, none⟩) := h.d 8
   exact Fg.vn p.Y.v (Fg.run_load rfl e8 ((hP.gn h.base).range 5 (feL p.Y) rfl) Tryz.underlying34 rfl info_elem)
  refine Fg.vS rfl (by decide) (fun ac w h => ?_) ?_
  ·have e1 : _ = Value.pointer (some ⟨w0.heap.size, 0, none⟩) := h.r 1
   exact Fg.vn (Value.pointer (some ⟨w0.heap.size, 0, none⟩)) (Fg.run_fieldAddr rfl e1 (fa_point0 _ _ _))
  refine Fg.vS rfl (by decide) (fun ac w h => ?_) ?_
  ·have e10 : _ = Value.pointer (some ⟨w0.heap.size, 0, none⟩) := h.d 10
   exact Fg.vn p.X.v (Fg.run_load rfl e10 ((hP.gn h.base).range 0 (feL p.X) rfl) Tryz.underlying34 rfl info_elem)
  refine Fg.cS rfl (by decide) (fun ac w h => ?_) ?_
  ·have e9 : _ = p.Y.v := h.d 9
   have e11 : _ = p.X.v := h.d 11
   refine ⟨wants_none rfl, 70, #[p.Y.v, p.X.v], Fg.run_call rfl rfl (by simp only [List.map_toArray, List.map_cons, List.map_nil, Act.eval, e9, e11]) (Fg.run_enter Tryz.func70 (by kernel_rfl) (by kernel_rfl)), ?_⟩
   exact (t_sub (HT.f.grown h.base) okp.Y okp.X).mono fun _ _ ⟨he, hg⟩ => ⟨_, he, hg, rfl⟩
  refine Fg.vS rfl (by decide) (fun ac w h => ?_) ?_
  ·have e1 : _ = Value.pointer (some ⟨w0.heap.size, 0, none⟩) := h.r 1
   exact Fg.vn (Value.pointer (some ⟨w0.heap.size, 10, none⟩)) (Fg.run_fieldAddr rfl e1 (fa_point2 _ _ _))
  refine Fg.vS rfl (by decide) (fun ac w h => ?_) ?_
  ·have e13 : _ = Value.pointer (some ⟨w0.heap.size, 10, none⟩) := h.d 13
   exact Fg.vn p.Z.v (Fg.run_load rfl e13 ((hP.gn h.base).range 10 (feL p.Z) rfl) Tryz.underlying34 rfl info_elem)
  refine Fg.vS rfl (by decide) (fun ac w h => ?_) ?_
  ·have e1 : _ = Value.pointer (some ⟨w0.heap.size, 0, none⟩) := h.r 1
   exact Fg.vn (Value.pointer (some ⟨w0.heap.size, 10, none⟩)) (Fg.run_fieldAddr rfl e1 (fa_point2 _ _ _))
  refine Fg.vS rfl (by decide) (fun ac w h => ?_) ?_
  ·have e15 : _ = Value.pointer (some ⟨w0.heap.size, 10, none⟩) := h.d 15
   exact Fg.vn p.Z.v (Fg.run_load rfl e15 ((hP.gn h.base).range 10 (feL p.Z) rfl) Tryz.underlying34 rfl info_elem)
  refine Fg.cS rfl (by decide) (fun ac w h => ?_) ?_
  ·have e14 : _ = p.Z.v := h.d 14
   have e16 : _ = p.Z.v := h.d 16
   refine ⟨wants_none rfl, 84, #[p.Z.v, p.Z.v], Fg.run_call rfl rfl (by simp only [List.map_toArray, List.map_cons, List.map_nil, Act.eval, e14, e16]) (Fg.run_enter Tryz.func84 (by kernel_rfl) (by kernel_rfl)), ?_⟩
   exact (t_add okp.Z okp.Z).mono fun _ _ ⟨he, hg⟩ => ⟨_, he, hg, rfl⟩
  refine Fg.vS rfl (by decide) (fun ac w h => ?_) ?_
  ·exact Fg.vn dF.v (Fg.run_load rfl rfl (HT.grown h.base).d Tryz.underlying34 rfl info_elem)
  refine Fg.vS rfl (by decide) (fun ac w h => ?_) ?_
  ·have e1 : _ = Value.pointer (some ⟨w0.heap.size, 0, none⟩) := h.r 1
   exact Fg.vn (Value.pointer (some ⟨w0.heap.size, 15, none⟩)) (Fg.run_fieldAddr rfl e1 (fa_point3 _ _ _))
  refine Fg.vS rfl (by decide) (fun ac w h => ?_) ?_
  ·have e19 : _ = Value.pointer (some ⟨w0.heap.size, 15, none⟩) := h.d 19
   exact Fg.vn p.T.v (Fg.run_load rfl e19 ((hP.gn h.base).range 15 (feL p.T) rfl) Tryz.underlying34 rfl info_elem)
  refine Fg.vS rfl (by decide) (fun ac w h => ?_) ?_
  ·have e1 : _ = Value.pointer (some ⟨w0.heap.size, 0, none⟩) := h.r 1
   exact Fg.vn (Value.pointer (some ⟨w0.heap.size, 15, none⟩)) (Fg.run_fieldAddr rfl e1 (fa_point3 _ _ _))
  refine Fg.vS rfl (by decide) (fun ac w h => ?_) ?_
  ·have e21 : _ = Value.pointer (some ⟨w0.heap.size, 15, none⟩) := h.d 21
   exact Fg.vn p.T.v (Fg.run_load rfl e21 ((hP.gn h.base).range 15 (feL p.T) rfl) Tryz.underlying34 rfl info_elem)
  refine Fg.cS rfl (by decide) (fun ac w h => ?_) ?_
  ·have e20 : _ = p.T.v := h.d 20
   have e22 : _ = p.T.v := h.d 22
   refine ⟨wants_none rfl, 84, #[p.T.v, p.T.v], Fg.run_call rfl rfl (by simp only [List.map_toArray, List.map_cons, List.map_nil, Act.eval, e20, e22]) (Fg.run_enter Tryz.func84 (by kernel_rfl) (by kernel_rfl)), ?_⟩
   exact (t_add okp.T okp.T).mono fun _ _ ⟨he, hg⟩ => ⟨_, he, hg, rfl⟩
  refine Fg.cS rfl (by decide) (fun ac w h => ?_) ?_
  ·have e18 : _ = dF.v := h.d 18
   have e23 : _ = (Fe.addF p.T p.T).v := h.d 23
   refine ⟨wants_none rfl, 38, #[dF.v, (Fe.addF p.T p.T).v], Fg.run_call rfl rfl (by simp only [List.map_toArray, List.map_cons, List.map_nil, Act.eval, e18, e23]) (Fg.run_enter Tryz.func38 (by kernel_rfl) (by kernel_rfl)), ?_⟩
   exact (t_mul dF_right.ok (Fe.add_right _ _).ok).mono fun _ _ ⟨he, hg⟩ => ⟨_, he, hg, rfl⟩
  refine Fg.vS rfl (by decide) (fun ac w h => ?_) ?_
  ·have e7 : _ = (Fe.addF p.Y p.X).v := h.d 7
   have e12 : _ = (Fe.subF p.Y p.X).v := h.d 12
   have e17 : _ = (Fe.addF p.Z p.Z).v := h.d 17
   have e24 : _ = (Fe.mulF dF (Fe.addF p.T p.T)).v := h.d 24
   exact Fg.vn ((adF p).v) (Fg.run_build (vs := #[(0, (Fe.addF p.Y p.X).v), (1, (Fe.subF p.Y p.X).v), (2, (Fe.addF p.Z p.Z).v), (3, (Fe.mulF dF (Fe.addF p.T p.T)).v)]) rfl (by simp only [List.map_toArray, List.map_cons, List.map_nil, Act.eval, e7, e12, e17, e24]) (by kernel_rfl))
  trivial
 ·intro qa V1 g1 hsz hdf hrest hslots hpt
  obtain ⟨⟨u3, hs3⟩, ⟨u4, hs4⟩, ⟨u5, hs5⟩, ⟨u6, hs6⟩, ⟨u7, hs7⟩, ⟨u8, hs8⟩, ⟨u9, hs9⟩, ⟨u10, hs10⟩, ⟨u11, hs11⟩, ⟨u12, hs12⟩, ⟨u13, hs13⟩, ⟨u14, hs14⟩, ⟨u15, hs15⟩, ⟨u16, hs16⟩, ⟨u17, hs17⟩, ⟨u18, hs18⟩, ⟨u19, hs19⟩, ⟨u20, hs20⟩, ⟨u21, hs21⟩, ⟨u22, hs22⟩, ⟨u23, hs23⟩, ⟨u24, hs24⟩, _⟩ := Fg.slotvs qa [3, 4, 5, 6, 7, 8, 9, 10, 11, 12, 13, 14, 15, 16, 17, 18, 19, 20, 21, 22, 23, 24]
  obtain ⟨x1, hx1⟩ : ∃ x : Ad, x = adF p := ⟨_, rfl⟩
  obtain rfl := Fg.frame_is (a := qa) (vs := [p.v, Value.pointer (some ⟨w0.heap.size, 0, none⟩), Value.pointer (some ⟨w0.heap.size + 1, 0, none⟩), u3, u4, u5, u6, u7, u8, u9, u10, u11, u12, u13, u14, u15, u16, u17, u18, u19, u20, u21, u22, u23, u24, x1.v]) hsz ⟨hrest 0 (by kernel_rfl), hrest 1 (by kernel_rfl), hrest 2 (by kernel_rfl), hs3, hs4, hs5, hs6, hs7, hs8, hs9, hs10, hs11, hs12, hs13, hs14, hs15, hs16, hs17, hs18, hs19, hs20, hs21, hs22, hs23, hs24, (show qa.tmps.getD 25 undef = x1.v by rw [hx1]; exact hslots 25 (by kernel_rfl)), trivial⟩ hdf
  clear hsz hdf hrest hslots hpt hs3 hs4 hs5 hs6 hs7 hs8 hs9 hs10 hs11 hs12 hs13 hs14 hs15 hs16 hs17 hs18 hs19 hs20 hs21 hs22 hs23 hs24
  have Hx1 := Lib.hid hx1; clear hx1
  replace hP := hP.gn g1
  replace hR := hR.gn g1
  replace G := gb_trans G g1
  replace HT := HT.grown g1
  clear g1
  refine Fg.wpl_skip rfl rfl (Fg.run_store (cs := adL x1) rfl rfl rfl (hR.there 0 20 (by show 0 + 20 ≤ 20; decide)) info_addend (adL_one _)) ?_
  replace hP := hP.setCells_other (C := (w0.heap.size + 1)) (cs := adL x1) 0 (by omega)
  replace hR : Blk (V1.setCells (w0.heap.size + 1) 0 (adL x1)) (w0.heap.size + 1) 127 (adL x1) := hR.setAll rfl
  replace G := gb_setCells_new (cs := adL x1) G (B := (w0.heap.size + 1)) (by omega) 0
  replace HT := HT.keep (gb_setCells (cs := adL x1) (gb_refl _ (some (w0.heap.size + 1))) 0) (HT0.noG (by omega))
  revert hP hR G HT
  generalize V1.setCells (w0.heap.size + 1) 0 (adL x1) = W2
  intro hP hR G HT
  go_wp2_with fail
  have hx1 := Hx1.out; subst hx1
  exact bodyPost_ret (v := (adF p).v) (results_cell_row Tryz.results94 _ _ (w0.heap.size + 1) 127 (adL (adF p)).toArray (0, 0) _ rfl hR Tryz.underlying127 rfl info_addend) rfl ⟨rfl, G⟩
end
section
open Go.RowKit Ed
set_option maxRecDepth 100000 in
set_option maxHeartbeats 3200000 in
theorem sumOf_any (p : Pt) (w0 : World) :
  Calls Tryz.prog 65 #[p.v] w0 fun e w' => e = .returned (sumF p).v ∧ w0.grownBy w' none := by
 show Calls Tryz.prog 65 #[.agg (ptL p).toArray] w0 _
 go_enter Tryz.func65, Tryz.ntmps65
 go_upto_region 1 with (fail)
 have G : w0.grownBy ((w0.alloc (.cells (ptL p).toArray 36)).alloc (.cells zr30.toArray 119)) none := gb_alloc (gb_alloc (gb_refl _ _) _) _
 have hP : Blk ((w0.alloc (.cells (ptL p).toArray 36)).alloc (.cells zr30.toArray 119)) (w0.heap.size) 36 (ptL p) := (Blk.new w0 (ptL p) _).alloc _
 have hR : Blk ((w0.alloc (.cells (ptL p).toArray 36)).alloc (.cells zr30.toArray 119)) (w0.heap.size + 1) 119 zr30 := Blk.newAt (w0.alloc _) zr30 _ (by simp)
 revert G hP hR
 generalize (w0.alloc (.cells (ptL p).toArray 36)).alloc (.cells zr30.toArray 119) = W0
 intro G hP hR
 have Gs := G.size
 have Gs0 := G.size
 have l1hP := hP.lt
 have l1hR := hR.lt
 refine Fg.rT [] [.any, .any, .any, .val (p.v), .val (Value.pointer (some ⟨w0.heap.size, 15, none⟩)), .val (p.T.v), .val (Fe.oneF.v), .val ((sumF p).v)] 5 ?_ ?_
 ·refine Fg.vS rfl (by decide) (fun ac w h => ?_) ?_
  ·have e1 : _ = Value.pointer (some ⟨w0.heap.size, 0, none⟩) := h.r 1
   exact Fg.vn p.v (Fg.run_load rfl e1 ((hP.gn h.base).range 0 (ptL p) rfl) Tryz.underlying36 rfl info_point)
  refine Fg.vS rfl (by decide) (fun ac w h => ?_) ?_
  ·have e1 : _ = Value.pointer (some ⟨w0.heap.size, 0, none⟩) := h.r 1
   exact Fg.vn (Value.pointer (some ⟨w0.heap.size, 15, none⟩)) (Fg.run_fieldAddr rfl e1 (fa_point3 _ _ _))
  refine Fg.vS rfl (by decide) (fun ac w h => ?_) ?_
  ·have e4 : _ = Value.pointer (some ⟨w0.heap.size, 15, none⟩) := h.d 4
   exact Fg.vn p.T.v (Fg.run_load rfl e4 ((hP.gn h.base).range 15 (feL p.T) rfl) Tryz.underlying34 rfl info_elem)
  refine Fg.cS rfl (by decide) (fun ac w h => ?_) ?_
  ·refine ⟨wants_none rfl, 59, #[], Fg.run_call rfl rfl (by simp) (Fg.run_enter Tryz.func59 (by kernel_rfl) (by kernel_rfl)), ?_⟩
   exact (t_one).mono fun _ _ ⟨he, hg⟩ => ⟨_, he, hg, rfl⟩
  refine Fg.vS rfl (by decide) (fun ac w h => ?_) ?_
  ·have e3 : _ = p.v := h.d 3
   have e5 : _ = p.T.v := h.d 5
   have e6 : _ = Fe.oneF.v := h.d 6
   exact Fg.vn ((sumF p).v) (Fg.run_build (vs := #[(0, p.v), (1, p.T.v), (2, Fe.oneF.v)]) rfl (by simp only [List.map_toArray, List.map_cons, List.map_nil, Act.eval, e3, e5, e6]) (by kernel_rfl))
  trivial
 ·intro qa V1 g1 hsz hdf hrest hslots hpt
  obtain ⟨⟨u3, hs3⟩, ⟨u4, hs4⟩, ⟨u5, hs5⟩, ⟨u6, hs6⟩, _⟩ := Fg.slotvs qa [3, 4, 5, 6]
  obtain ⟨x1, hx1⟩ : ∃ x : Sm, x = sumF p := ⟨_, rfl⟩
  obtain rfl := Fg.frame_is (a := qa) (vs := [p.v, Value.pointer (some ⟨w0.heap.size, 0, none⟩), Value.pointer (some ⟨w0.heap.size + 1, 0, none⟩), u3, u4, u5, u6, x1.v]) hsz ⟨hrest 0 (by kernel_rfl), hrest 1 (by kernel_rfl), hrest 2 (by kernel_rfl), hs3, hs4, hs5, hs6, (show qa.tmps.getD 7 undef = x1.v by rw [hx1]; exact hslots 7 (by kernel_rfl)), trivial⟩ hdf
  clear hsz hdf hrest hslots hpt hs3 hs4 hs5 hs6
  have Hx1 := Lib.hid hx1; clear hx1
  replace hP := hP.gn g1
  replace hR := hR.gn g1
  replace G := gb_trans G g1
  clear g1
  refine Fg.wpl_skip rfl rfl (Fg.run_store (cs := smL x1) rfl rfl rfl (hR.there 0 30 (by show 0 + 30 ≤ 30; decide)) info_sum (smL_one _)) ?_
  replace hP := hP.setCells_other (C := (w0.heap.size + 1)) (cs := smL x1) 0 (by omega)
  replace hR : Blk (V1.setCells (w0.heap.size + 1) 0 (smL x1)) (w0.heap.size + 1) 119 (smL x1) := hR.setAll rfl
  replace G := gb_setCells_new (cs := smL x1) G (B := (w0.heap.size + 1)) (by omega) 0
  revert hP hR G
  generalize V1.setCells (w0.heap.size + 1) 0 (smL x1) = W2
  intro hP hR G
  go_wp2_with fail
  have hx1 := Hx1.out; subst hx1
  exact bodyPost_ret (v := (sumF p).v) (results_cell_row Tryz.results65 _ _ (w0.heap.size + 1) 119 (smL (sumF p)).toArray (0, 0) _ rfl hR Tryz.underlying119 rfl info_sum) rfl ⟨rfl, G⟩
end
section
open Go.RowKit Ed
theorem Ed.nmul_dbl' {p : Pr} (hp : On p) (k : Nat) : Ed.add (nmul k p) (nmul k p) = nmul (2 * k) p := by rw [Nat.two_mul, nmul_add hp]
def itF : Nat → Sm → Sm
 | 0, s => s
 | k + 1, s => twiceF (itF k s)
set_option maxRecDepth 100000 in
set_option maxHeartbeats 6400000 in
theorem sdouble_det (S n : Nat) (s : Sm) (p : Pr) (w0 : World) (hn : n ≤ 100) (HT0 : ETab w0) (HN : NoG S) (hS : Blk w0 S 119 (smL s)) (hs : SmIs s p) :
  Calls Tryz.prog 67 #[.pointer (some ⟨S, 0, none⟩), .int .i64 n] w0 fun e w' => e = .returned (.tuple #[]) ∧ w0.grownBy w' (some S) ∧ ∃ s', SmIs s' (nmul (2 ^ n) p) ∧ Blk w' S 119 (smL s') ∧ s' = itF n s := by
 have hlt := hS.lt
 go_enter Tryz.func67, Tryz.ntmps67
 go_wp2
 go_loopw [4, 5, 6, 7, 8, 10] (fun v4 v5 v6 v7 v8 i wr => ∃ k : Nat, k ≤ n ∧ i = .int .i64 k ∧ w0.grownBy wr (some S) ∧ ETab wr ∧ Hid (Fg.ApartV [v4, v5, v6] wr ∧ Fg.ApartV [v7] wr ∧ Fg.ApartV [v8] wr) ∧ ∃ s', SmIs s' (nmul (2 ^ k) p) ∧ Blk wr S 119 (smL s') ∧ s' = itF k s) (fun _ _ _ _ _ i _ => n - (intOf i).toNat)
 case atStart => exact ⟨0, by omega, rfl, gb_refl _ _, HT0, Lib.hid ⟨Fg.apart_undef _ _ rfl, Fg.apart_undef _ _ rfl, Fg.apart_undef _ _ rfl⟩, s, by rw [Nat.pow_zero, nmul_one hs.on]; exact hs, hS, rfl⟩
 case round =>
  clear hS
  obtain ⟨k, hk, rfl, G, HT, HA, s', hs', hS, hd⟩ := hrel
  have HD := Lib.hid hd; clear hd
  by_cases hkn : k < n
  ·have i0 : (k : Int) < n := by omega
   have oks := hs'.ok
   have HS : NoG S := HN
   have hz : wr.heap.size ≤ wr.heap.size := Nat.le_refl _
   have hwr := G.size
   go_upto_region 2 with (fail)
   have Gs0 := G.size
   have l1hS := hS.lt
   refine Fg.wp_region_tail (ps := [4, 5, 6]) [.any, .any, .any, .any, .fresh 34 zr5 wr.heap.size, .fresh 34 zr5 wr.heap.size, .fresh 34 zr5 wr.heap.size, .any, .any, .any, .any, .any, .val (Value.pointer (some ⟨S, 0, none⟩)), .val (Value.pointer (some ⟨S, 0, none⟩)), .val (Value.pointer (some ⟨S, 0, none⟩)), .val (Value.pointer (some ⟨S, 0, none⟩)), .val (s'.X.v), .val ((Fe.sqF s'.X).v), .val (Value.pointer (some ⟨S, 0, none⟩)), .val (Value.pointer (some ⟨S, 0, none⟩)), .val (Value.pointer (some ⟨S, 0, none⟩)), .val (Value.pointer (some ⟨S, 5, none⟩)), .val (s'.Y.v), .val ((Fe.sqF s'.Y).v), .val (Value.pointer (some ⟨S, 0, none⟩)), .val (Value.pointer (some ⟨S, 0, none⟩)), .val (Value.pointer (some ⟨S, 0, none⟩)), .val (Value.pointer (some ⟨S, 10, none⟩)), .val (s'.Z.v), .val ((Fe.sqF s'.Z).v)] (fun w => World.grownBy wr w none) 21 (gb_drew (gb_refl _ _)) (by kernel_rfl) (by kernel_rfl) (by kernel_rfl) (by kernel_rfl) (by decide) (Fg.ptrs_of (l := [u4, u5, u6]) rfl (Fg.apart_drew HA.out.1)) ?_ ?_
   ·refine Fg.vS rfl (by decide) (fun ac w h => ?_) ?_
    ·have e0 : _ = Value.pointer (some ⟨S, 0, none⟩) := h.r 0
     exact Fg.vn (Value.pointer (some ⟨S, 0, none⟩)) (Fg.run_move rfl e0)
    refine Fg.vS rfl (by decide) (fun ac w h => ?_) ?_
    ·have e12 : _ = Value.pointer (some ⟨S, 0, none⟩) := h.d 12
     exact Fg.vn (Value.pointer (some ⟨S, 0, none⟩)) (Fg.run_nilCheck rfl e12)
    refine Fg.vS rfl (by decide) (fun ac w h => ?_) ?_
    ·have e13 : _ = Value.pointer (some ⟨S, 0, none⟩) := h.d 13
     exact Fg.vn (Value.pointer (some ⟨S, 0, none⟩)) (Fg.run_fieldAddr rfl e13 (fa_sum0 _ _ _))
    refine Fg.vS rfl (by decide) (fun ac w h => ?_) ?_
    ·have e14 : _ = Value.pointer (some ⟨S, 0, none⟩) := h.d 14
     exact Fg.vn (Value.pointer (some ⟨S, 0, none⟩)) (Fg.run_fieldAddr rfl e14 (fa_point0 _ _ _))
    refine Fg.vS rfl (by decide) (fun ac w h => ?_) ?_
    ·have e15 : _ = Value.pointer (some ⟨S, 0, none⟩) := h.d 15
     exact Fg.vn (s'.X.v) (Fg.run_load rfl e15 ((hS.gn h.base).range 0 (feL s'.X) rfl) Tryz.underlying34 rfl info_elem)
    refine Fg.cS rfl (by decide) (fun ac w h => ?_) ?_
    ·have e16 : _ = s'.X.v := h.d 16
     refine ⟨wants_none rfl, 77, #[s'.X.v], Fg.run_call rfl rfl (by simp only [List.map_toArray, List.map_cons, List.map_nil, Act.eval, e16]) (Fg.run_enter Tryz.func77 (by kernel_rfl) (by kernel_rfl)), ?_⟩
     exact (t_sq oks.X).mono fun _ _ ⟨he, hg⟩ => ⟨_, he, hg, rfl⟩
    refine Fg.vS rfl (by decide) (fun ac w h => ?_) ?_
    ·have e0 : _ = Value.pointer (some ⟨S, 0, none⟩) := h.r 0
     exact Fg.vn (Value.pointer (some ⟨S, 0, none⟩)) (Fg.run_move rfl e0)
    refine Fg.vS rfl (by decide) (fun ac w h => ?_) ?_
    ·have e18 : _ = Value.pointer (some ⟨S, 0, none⟩) := h.d 18
     exact Fg.vn (Value.pointer (some ⟨S, 0, none⟩)) (Fg.run_nilCheck rfl e18)
    refine Fg.vS rfl (by decide) (fun ac w h => ?_) ?_
    ·have e19 : _ = Value.pointer (some ⟨S, 0, none⟩) := h.d 19
     exact Fg.vn (Value.pointer (some ⟨S, 0, none⟩)) (Fg.run_fieldAddr rfl e19 (fa_sum0 _ _ _))
    refine Fg.vS rfl (by decide) (fun ac w h => ?_) ?_
    ·have e20 : _ = Value.pointer (some ⟨S, 0, none⟩) := h.d 20
     exact Fg.vn (Value.pointer (some ⟨S, 5, none⟩)) (Fg.run_fieldAddr rfl e20 (fa_point1 _ _ _))
    refine Fg.vS rfl (by decide) (fun ac w h => ?_) ?_
    ·have e21 : _ = Value.pointer (some ⟨S, 5, none⟩) := h.d 21
     exact Fg.vn (s'.Y.v) (Fg.run_load rfl e21 ((hS.gn h.base).range 5 (feL s'.Y) rfl) Tryz.underlying34 rfl info_elem)
    refine Fg.cS rfl (by decide) (fun ac w h => ?_) ?_
    ·have e22 : _ = s'.Y.v := h.d 22
     refine ⟨wants_none rfl, 77, #[s'.Y.v], Fg.run_call rfl rfl (by simp only [List.map_toArray, List.map_cons, List.map_nil, Act.eval, e22]) (Fg.run_enter Tryz.func77 (by kernel_rfl) (by kernel_rfl)), ?_⟩
     exact (t_sq oks.Y).mono fun _ _ ⟨he, hg⟩ => ⟨_, he, hg, rfl⟩
    refine Fg.vS rfl (by decide) (fun ac w h => ?_) ?_
    ·have e0 : _ = Value.pointer (some ⟨S, 0, none⟩) := h.r 0
     exact Fg.vn (Value.pointer (some ⟨S, 0, none⟩)) (Fg.run_move rfl e0)
    refine Fg.vS rfl (by decide) (fun ac w h => ?_) ?_
    ·have e24 : _ = Value.pointer (some ⟨S, 0, none⟩) := h.d 24
     exact Fg.vn (Value.pointer (some ⟨S, 0, none⟩)) (Fg.run_nilCheck rfl e24)
    refine Fg.vS rfl (by decide) (fun ac w h => ?_) ?_
    ·have e25 : _ = Value.pointer (some ⟨S, 0, none⟩) := h.d 25
     exact Fg.vn (Value.pointer (some ⟨S, 0, none⟩)) (Fg.run_fieldAddr rfl e25 (fa_sum0 _ _ _))
    refine Fg.vS rfl (by decide) (fun ac w h => ?_) ?_
    ·have e26 : _ = Value.pointer (some ⟨S, 0, none⟩) := h.d 26
     exact Fg.vn (Value.pointer (some ⟨S, 10, none⟩)) (Fg.run_fieldAddr rfl e26 (fa_point2 _ _ _))
    refine Fg.vS rfl (by decide) (fun ac w h => ?_) ?_
    ·have e27 : _ = Value.pointer (some ⟨S, 10, none⟩) := h.d 27
     exact Fg.vn (s'.Z.v) (Fg.run_load rfl e27 ((hS.gn h.base).range 10 (feL s'.Z) rfl) Tryz.underlying34 rfl info_elem)
    refine Fg.cS rfl (by decide) (fun ac w h => ?_) ?_
    ·have e28 : _ = s'.Z.v := h.d 28
     refine ⟨wants_none rfl, 77, #[s'.Z.v], Fg.run_call rfl rfl (by simp only [List.map_toArray, List.map_cons, List.map_nil, Act.eval, e28]) (Fg.run_enter Tryz.func77 (by kernel_rfl) (by kernel_rfl)), ?_⟩
     exact (t_sq oks.Z).mono fun _ _ ⟨he, hg⟩ => ⟨_, he, hg, rfl⟩
    refine ⟨⟨⟨_, rfl⟩, Fg.allocP (fun _ _ h k => gb_trans h k) rfl (by show 4 < 59; decide) fun ac w h => ?_⟩, ?_⟩
    ·refine ⟨wants_none rfl, w.alloc (.cells zr5.toArray 34), ?_, World.grownBy_alloc _ _ _, by simp, ⟨w.heap.size, rfl, h.base.size, Blk.new w zr5 _⟩⟩
     clear h
     go_simp
    refine ⟨⟨⟨_, rfl⟩, Fg.allocP (fun _ _ h k => gb_trans h k) rfl (by show 5 < 59; decide) fun ac w h => ?_⟩, ?_⟩
    ·refine ⟨wants_none rfl, w.alloc (.cells zr5.toArray 34), ?_, World.grownBy_alloc _ _ _, by simp, ⟨w.heap.size, rfl, h.base.size, Blk.new w zr5 _⟩⟩
     clear h
     go_simp
    refine ⟨⟨⟨_, rfl⟩, Fg.allocP (fun _ _ h k => gb_trans h k) rfl (by show 6 < 59; decide) fun ac w h => ?_⟩, ?_⟩
    ·refine ⟨wants_none rfl, w.alloc (.cells zr5.toArray 34), ?_, World.grownBy_alloc _ _ _, by simp, ⟨w.heap.size, rfl, h.base.size, Blk.new w zr5 _⟩⟩
     clear h
     go_simp
    trivial
   ·intro qa V1 g1 hsz hdf hrest hslots hpt
    obtain ⟨N4, hs4, hn4, hb4⟩ : ∃ N, qa.tmps.getD 4 undef = .pointer (some ⟨N, 0, none⟩) ∧ wr.heap.size ≤ N ∧ Blk V1 N 34 zr5 := hslots 4 (by kernel_rfl)
    obtain ⟨N5, hs5, hn5, hb5⟩ : ∃ N, qa.tmps.getD 5 undef = .pointer (some ⟨N, 0, none⟩) ∧ wr.heap.size ≤ N ∧ Blk V1 N 34 zr5 := hslots 5 (by kernel_rfl)
    obtain ⟨N6, hs6, hn6, hb6⟩ : ∃ N, qa.tmps.getD 6 undef = .pointer (some ⟨N, 0, none⟩) ∧ wr.heap.size ≤ N ∧ Blk V1 N 34 zr5 := hslots 6 (by kernel_rfl)
    obtain ⟨⟨u12, hs12⟩, ⟨u13, hs13⟩, ⟨u14, hs14⟩, ⟨u15, hs15⟩, ⟨u16, hs16⟩, _⟩ := Fg.slotvs qa [12, 13, 14, 15, 16]
    obtain ⟨x1, hx1⟩ : ∃ x : Fe, x = Fe.sqF s'.X := ⟨_, rfl⟩
    obtain ⟨⟨u18, hs18⟩, ⟨u19, hs19⟩, ⟨u20, hs20⟩, ⟨u21, hs21⟩, ⟨u22, hs22⟩, _⟩ := Fg.slotvs qa [18, 19, 20, 21, 22]
    obtain ⟨x2, hx2⟩ : ∃ x : Fe, x = Fe.sqF s'.Y := ⟨_, rfl⟩
    obtain ⟨⟨u24, hs24⟩, ⟨u25, hs25⟩, ⟨u26, hs26⟩, ⟨u27, hs27⟩, ⟨u28, hs28⟩, _⟩ := Fg.slotvs qa [24, 25, 26, 27, 28]
    obtain ⟨x3, hx3⟩ : ∃ x : Fe, x = Fe.sqF s'.Z := ⟨_, rfl⟩
    have n4_5 : N4 ≠ N5 := fun e => (hpt 4 (by simp) N4 hs4).2 5 (by simp) (by decide) (by rw [hs5, e])
    have n4_6 : N4 ≠ N6 := fun e => (hpt 4 (by simp) N4 hs4).2 6 (by simp) (by decide) (by rw [hs6, e])
    have n5_6 : N5 ≠ N6 := fun e => (hpt 5 (by simp) N5 hs5).2 6 (by simp) (by decide) (by rw [hs6, e])
    obtain rfl := Fg.frame_by [4, 5, 6, 12, 13, 14, 15, 16, 17, 18, 19, 20, 21, 22, 23, 24, 25, 26, 27, 28, 29] (vs := [Value.pointer (some ⟨S, 0, none⟩), Value.int .i64 (n : Int), undef, undef, Value.pointer (some ⟨N4, 0, none⟩), Value.pointer (some ⟨N5, 0, none⟩), Value.pointer (some ⟨N6, 0, none⟩), u7, u8, Value.int .i64 (n : Int), Value.int .i64 (k : Int), Value.bool true, u12, u13, u14, u15, u16, x1.v, u18, u19, u20, u21, u22, x2.v, u24, u25, u26, u27, u28, x3.v, u30, u31, u32, u33, u34, u35, u36, u37, u38, u39, u40, u41, u42, u43, u44, u45, u46, u47, u48, u49, u50, u51, u52, u53, u54, u55, u56, u57, u58]) hsz hrest (by kernel_rfl) rfl rfl ⟨hs4, hs5, hs6, hs12, hs13, hs14, hs15, hs16, (show qa.tmps.getD 17 undef = x1.v by rw [hx1]; exact hslots 17 (by kernel_rfl)), hs18, hs19, hs20, hs21, hs22, (show qa.tmps.getD 23 undef = x2.v by rw [hx2]; exact hslots 23 (by kernel_rfl)), hs24, hs25, hs26, hs27, hs28, (show qa.tmps.getD 29 undef = x3.v by rw [hx3]; exact hslots 29 (by kernel_rfl)), trivial⟩ hdf
    clear hsz hdf hrest hslots hpt hs4 hs5 hs6 hs12 hs13 hs14 hs15 hs16 hs18 hs19 hs20 hs21 hs22 hs24 hs25 hs26 hs27 hs28
    have Hx1 := Lib.hid hx1; clear hx1
    have Hx2 := Lib.hid hx2; clear hx2
    have Hx3 := Lib.hid hx3; clear hx3
    replace hS := hS.gn g1
    replace G := gb_trans G (gb_row g1 _)
    replace HT := HT.grown g1
    replace hz := Nat.le_trans hz g1.size
    have okx1 : x1.Ok := by rw [Hx1.out]; exact (Fe.sq_right _).ok
    have okx2 : x2.Ok := by rw [Hx2.out]; exact (Fe.sq_right _).ok
    have okx3 : x3.Ok := by rw [Hx3.out]; exact (Fe.sq_right _).ok
    have hw4 : w0.heap.size ≤ N4 := Nat.le_trans Gs0 hn4
    have hw5 : w0.heap.size ≤ N5 := Nat.le_trans Gs0 hn5
    have hw6 : w0.heap.size ≤ N6 := Nat.le_trans Gs0 hn6
    clear g1
    refine Fg.wpl_skip rfl rfl (Fg.run_store (cs := feL x1) rfl rfl rfl (hb4.there 0 5 (by show 0 + 5 ≤ 5; decide)) info_elem (feL_one _)) ?_
    replace hS := hS.setCells_other (C := N4) (cs := feL x1) 0 (by omega)
    replace hb4 : Blk (V1.setCells N4 0 (feL x1)) N4 34 (feL x1) := hb4.setAll rfl
    replace hb5 := hb5.setCells_other (C := N4) (cs := feL x1) 0 (by omega)
    replace hb6 := hb6.setCells_other (C := N4) (cs := feL x1) 0 (by omega)
    replace hz := Nat.le_trans hz (gb_setCells (cs := feL x1) (gb_refl V1 (some N4)) 0).size
    replace G := gb_setCells_new (cs := feL x1) G (B := N4) (hw4) 0
    replace HT := HT.keep (gb_setCells (cs := feL x1) (gb_refl _ (some N4)) 0) (HT0.noG (hw4))
    revert hS hb4 hb5 hb6 hz G HT
    generalize V1.setCells N4 0 (feL x1) = W2
    intro hS hb4 hb5 hb6 hz G HT
    refine Fg.wpl_skip rfl rfl (Fg.run_store (cs := feL x2) rfl rfl rfl (hb5.there 0 5 (by show 0 + 5 ≤ 5; decide)) info_elem (feL_one _)) ?_
    replace hS := hS.setCells_other (C := N5) (cs := feL x2) 0 (by omega)
    replace hb4 := hb4.setCells_other (C := N5) (cs := feL x2) 0 (by omega)
    replace hb5 : Blk (W2.setCells N5 0 (feL x2)) N5 34 (feL x2) := hb5.setAll rfl
    replace hb6 := hb6.setCells_other (C := N5) (cs := feL x2) 0 (by omega)
    replace hz := Nat.le_trans hz (gb_setCells (cs := feL x2) (gb_refl W2 (some N5)) 0).size
    replace G := gb_setCells_new (cs := feL x2) G (B := N5) (hw5) 0
    replace HT := HT.keep (gb_setCells (cs := feL x2) (gb_refl _ (some N5)) 0) (HT0.noG (hw5))
    revert hS hb4 hb5 hb6 hz G HT
    generalize W2.setCells N5 0 (feL x2) = W3
    intro hS hb4 hb5 hb6 hz G HT
    refine Fg.wpl_skip rfl rfl (Fg.run_store (cs := feL x3) rfl rfl rfl (hb6.there 0 5 (by show 0 + 5 ≤ 5; decide)) info_elem (feL_one _)) ?_
    replace hS := hS.setCells_other (C := N6) (cs := feL x3) 0 (by omega)
    replace hb4 := hb4.setCells_other (C := N6) (cs := feL x3) 0 (by omega)
    replace hb5 := hb5.setCells_other (C := N6) (cs := feL x3) 0 (by omega)
    replace hb6 : Blk (W3.setCells N6 0 (feL x3)) N6 34 (feL x3) := hb6.setAll rfl
    replace hz := Nat.le_trans hz (gb_setCells (cs := feL x3) (gb_refl W3 (some N6)) 0).size
    replace G := gb_setCells_new (cs := feL x3) G (B := N6) (hw6) 0
    replace HT := HT.keep (gb_setCells (cs := feL x3) (gb_refl _ (some N6)) 0) (HT0.noG (hw6))
    revert hS hb4 hb5 hb6 hz G HT
    generalize W3.setCells N6 0 (feL x3) = W4
    intro hS hb4 hb5 hb6 hz G HT
    go_upto_region 3 with (fail)
    have Gs4 := G.size
    have l2hS := hS.lt
    have l2hb4 := hb4.lt
    have l2hb5 := hb5.lt
    have l2hb6 := hb6.lt
    refine Fg.wp_region_tail (ps := [7]) [.any, .any, .any, .any, .any, .any, .any, .fresh 34 zr5 W4.heap.size, .any, .any, .any, .any, .any, .any, .any, .any, .any, .any, .any, .any, .any, .any, .any, .any, .any, .any, .any, .any, .any, .any, .val (Value.pointer (some ⟨S, 0, none⟩)), .val (Value.pointer (some ⟨S, 0, none⟩)), .val (Value.pointer (some ⟨S, 0, none⟩)), .val (Value.pointer (some ⟨S, 0, none⟩)), .val (s'.X.v), .val (Value.pointer (some ⟨S, 0, none⟩)), .val (Value.pointer (some ⟨S, 0, none⟩)), .val (Value.pointer (some ⟨S, 0, none⟩)), .val (Value.pointer (some ⟨S, 5, none⟩)), .val (s'.Y.v), .val ((Fe.mulF s'.X s'.Y).v)] (fun w => World.grownBy W4 w none) 12 (gb_drew (gb_refl _ _)) (by kernel_rfl) (by kernel_rfl) (by kernel_rfl) (by kernel_rfl) (by decide) (Fg.ptrs_of (l := [u7]) rfl (Fg.apart_drew (HA.out.2.1.mono hz))) ?_ ?_
    ·refine Fg.vS rfl (by decide) (fun ac w h => ?_) ?_
     ·have e0 : _ = Value.pointer (some ⟨S, 0, none⟩) := h.r 0
      exact Fg.vn (Value.pointer (some ⟨S, 0, none⟩)) (Fg.run_move rfl e0)
     refine Fg.vS rfl (by decide) (fun ac w h => ?_) ?_
     ·have e30 : _ = Value.pointer (some ⟨S, 0, none⟩) := h.d 30
      exact Fg.vn (Value.pointer (some ⟨S, 0, none⟩)) (Fg.run_nilCheck rfl e30)
     refine Fg.vS rfl (by decide) (fun ac w h => ?_) ?_
     ·have e31 : _ = Value.pointer (some ⟨S, 0, none⟩) := h.d 31
      exact Fg.vn (Value.pointer (some ⟨S, 0, none⟩)) (Fg.run_fieldAddr rfl e31 (fa_sum0 _ _ _))
     refine Fg.vS rfl (by decide) (fun ac w h => ?_) ?_
     ·have e32 : _ = Value.pointer (some ⟨S, 0, none⟩) := h.d 32
      exact Fg.vn (Value.pointer (some ⟨S, 0, none⟩)) (Fg.run_fieldAddr rfl e32 (fa_point0 _ _ _))
     refine Fg.vS rfl (by decide) (fun ac w h => ?_) ?_
     ·have e33 : _ = Value.pointer (some ⟨S, 0, none⟩) := h.d 33
      exact Fg.vn (s'.X.v) (Fg.run_load rfl e33 ((hS.gn h.base).range 0 (feL s'.X) rfl) Tryz.underlying34 rfl info_elem)
     refine Fg.vS rfl (by decide) (fun ac w h => ?_) ?_
     ·have e0 : _ = Value.pointer (some ⟨S, 0, none⟩) := h.r 0
      exact Fg.vn (Value.pointer (some ⟨S, 0, none⟩)) (Fg.run_move rfl e0)
     refine Fg.vS rfl (by decide) (fun ac w h => ?_) ?_
     ·have e35 : _ = Value.pointer (some ⟨S, 0, none⟩) := h.d 35
      exact Fg.vn (Value.pointer (some ⟨S, 0, none⟩)) (Fg.run_nilCheck rfl e35)
     refine Fg.vS rfl (by decide) (fun ac w h => ?_) ?_
     ·have e36 : _ = Value.pointer (some ⟨S, 0, none⟩) := h.d 36
      exact Fg.vn (Value.pointer (some ⟨S, 0, none⟩)) (Fg.run_fieldAddr rfl e36 (fa_sum0 _ _ _))
     refine Fg.vS rfl (by decide) (fun ac w h => ?_) ?_
     ·have e37 : _ = Value.pointer (some ⟨S, 0, none⟩) := h.d 37
      exact Fg.vn (Value.pointer (some ⟨S, 5, none⟩)) (Fg.run_fieldAddr rfl e37 (fa_point1 _ _ _))
     refine Fg.vS rfl (by decide) (fun ac w h => ?_) ?_
     ·have e38 : _ = Value.pointer (some ⟨S, 5, none⟩) := h.d 38
      exact Fg.vn (s'.Y.v) (Fg.run_load rfl e38 ((hS.gn h.base).range 5 (feL s'.Y) rfl) Tryz.underlying34 rfl info_elem)
     refine Fg.cS rfl (by decide) (fun ac w h => ?_) ?_
     ·have e34 : _ = s'.X.v := h.d 34
      have e39 : _ = s'.Y.v := h.d 39
      refine ⟨wants_none rfl, 38, #[s'.X.v, s'.Y.v], Fg.run_call rfl rfl (by simp only [List.map_toArray, List.map_cons, List.map_nil, Act.eval, e34, e39]) (Fg.run_enter Tryz.func38 (by kernel_rfl) (by kernel_rfl)), ?_⟩
      exact (t_mul oks.X oks.Y).mono fun _ _ ⟨he, hg⟩ => ⟨_, he, hg, rfl⟩
     refine ⟨⟨⟨_, rfl⟩, Fg.allocP (fun _ _ h k => gb_trans h k) rfl (by show 7 < 59; decide) fun ac w h => ?_⟩, ?_⟩
     ·refine ⟨wants_none rfl, w.alloc (.cells zr5.toArray 34), ?_, World.grownBy_alloc _ _ _, by simp, ⟨w.heap.size, rfl, h.base.size, Blk.new w zr5 _⟩⟩
      clear h
      go_simp
     trivial
    ·intro qa V5 g5 hsz hdf hrest hslots hpt
     obtain ⟨N7, hs7, hn7, hb7⟩ : ∃ N, qa.tmps.getD 7 undef = .pointer (some ⟨N, 0, none⟩) ∧ W4.heap.size ≤ N ∧ Blk V5 N 34 zr5 := hslots 7 (by kernel_rfl)
     obtain ⟨⟨u30, hs30⟩, ⟨u31, hs31⟩, ⟨u32, hs32⟩, ⟨u33, hs33⟩, ⟨u34, hs34⟩, ⟨u35, hs35⟩, ⟨u36, hs36⟩, ⟨u37, hs37⟩, ⟨u38, hs38⟩, ⟨u39, hs39⟩, _⟩ := Fg.slotvs qa [30, 31, 32, 33, 34, 35, 36, 37, 38, 39]
     obtain ⟨x4, hx4⟩ : ∃ x : Fe, x = Fe.mulF s'.X s'.Y := ⟨_, rfl⟩
     obtain rfl := Fg.frame_by [7, 30, 31, 32, 33, 34, 35, 36, 37, 38, 39, 40] (vs := [Value.pointer (some ⟨S, 0, none⟩), Value.int .i64 (n : Int), undef, undef, Value.pointer (some ⟨N4, 0, none⟩), Value.pointer (some ⟨N5, 0, none⟩), Value.pointer (some ⟨N6, 0, none⟩), Value.pointer (some ⟨N7, 0, none⟩), u8, Value.int .i64 (n : Int), Value.int .i64 (k : Int), Value.bool true, u12, u13, u14, u15, u16, x1.v, u18, u19, u20, u21, u22, x2.v, u24, u25, u26, u27, u28, x3.v, u30, u31, u32, u33, u34, u35, u36, u37, u38, u39, x4.v, u41, u42, u43, u44, u45, u46, u47, u48, u49, u50, u51, u52, u53, u54, u55, u56, u57, u58]) hsz hrest (by kernel_rfl) rfl rfl ⟨hs7, hs30, hs31, hs32, hs33, hs34, hs35, hs36, hs37, hs38, hs39, (show qa.tmps.getD 40 undef = x4.v by rw [hx4]; exact hslots 40 (by kernel_rfl)), trivial⟩ hdf
     clear hsz hdf hrest hslots hpt hs7 hs30 hs31 hs32 hs33 hs34 hs35 hs36 hs37 hs38 hs39
     have Hx4 := Lib.hid hx4; clear hx4
     replace hS := hS.gn g5
     replace hb4 := hb4.gn g5
     replace hb5 := hb5.gn g5
     replace hb6 := hb6.gn g5
     replace G := gb_trans G (gb_row g5 _)
     replace HT := HT.grown g5
     replace hz := Nat.le_trans hz g5.size
     have okx4 : x4.Ok := by rw [Hx4.out]; exact (Fe.mul_right _ _).ok
     have hw7 : w0.heap.size ≤ N7 := Nat.le_trans Gs4 hn7
     clear g5
     refine Fg.wpl_skip rfl rfl (Fg.run_store (cs := feL x4) rfl rfl rfl (hb7.there 0 5 (by show 0 + 5 ≤ 5; decide)) info_elem (feL_one _)) ?_
     replace hS := hS.setCells_other (C := N7) (cs := feL x4) 0 (by omega)
     replace hb4 := hb4.setCells_other (C := N7) (cs := feL x4) 0 (by omega)
     replace hb5 := hb5.setCells_other (C := N7) (cs := feL x4) 0 (by omega)
     replace hb6 := hb6.setCells_other (C := N7) (cs := feL x4) 0 (by omega)
     replace hb7 : Blk (V5.setCells N7 0 (feL x4)) N7 34 (feL x4) := hb7.setAll rfl
     replace hz := Nat.le_trans hz (gb_setCells (cs := feL x4) (gb_refl V5 (some N7)) 0).size
     replace G := gb_setCells_new (cs := feL x4) G (B := N7) (hw7) 0
     replace HT := HT.keep (gb_setCells (cs := feL x4) (gb_refl _ (some N7)) 0) (HT0.noG (hw7))
     revert hS hb4 hb5 hb6 hb7 hz G HT
     generalize V5.setCells N7 0 (feL x4) = W6
     intro hS hb4 hb5 hb6 hb7 hz G HT
     go_upto_region 4 with (fail)
     have Gs6 := G.size
     have l3hS := hS.lt
     have l3hb4 := hb4.lt
     have l3hb5 := hb5.lt
     have l3hb6 := hb6.lt
     have l3hb7 := hb7.lt
     refine Fg.wp_region_plain (ps := [8]) [.any, .any, .any, .any, .any, .any, .any, .any, .fresh 34 zr5 W6.heap.size, .any, .any, .any, .any, .any, .any, .any, .any, .any, .any, .any, .any, .any, .any, .any, .any, .any, .any, .any, .any, .any, .any, .any, .any, .any, .any, .any, .any, .any, .any, .any, .any, .val (x2.v), .val (x1.v), .val ((Fe.subF x2 x1).v)] (fun w => World.grownBy W6 w none) 4 (gb_refl _ _) (by kernel_rfl) (by kernel_rfl) (by decide) (Fg.ptrs_of (l := [u8]) rfl (HA.out.2.2.mono hz)) ?_ ?_
     ·refine Fg.vS rfl (by decide) (fun ac w h => ?_) ?_
      ·have e5 : _ = Value.pointer (some ⟨N5, 0, none⟩) := h.r 5
       exact Fg.vn x2.v (Fg.run_load rfl e5 ((hb5.gn h.base).range 0 (feL x2) rfl) Tryz.underlying34 rfl info_elem)
      refine Fg.vS rfl (by decide) (fun ac w h => ?_) ?_
      ·have e4 : _ = Value.pointer (some ⟨N4, 0, none⟩) := h.r 4
       exact Fg.vn x1.v (Fg.run_load rfl e4 ((hb4.gn h.base).range 0 (feL x1) rfl) Tryz.underlying34 rfl info_elem)
      refine Fg.cS rfl (by decide) (fun ac w h => ?_) ?_
      ·have e41 : _ = x2.v := h.d 41
       have e42 : _ = x1.v := h.d 42
       refine ⟨wants_none rfl, 70, #[x2.v, x1.v], Fg.run_call rfl rfl (by simp only [List.map_toArray, List.map_cons, List.map_nil, Act.eval, e41, e42]) (Fg.run_enter Tryz.func70 (by kernel_rfl) (by kernel_rfl)), ?_⟩
       exact (t_sub (HT.f.grown h.base) okx2 okx1).mono fun _ _ ⟨he, hg⟩ => ⟨_, he, hg, rfl⟩
      refine ⟨⟨⟨_, rfl⟩, Fg.allocP (fun _ _ h k => gb_trans h k) rfl (by show 8 < 59; decide) fun ac w h => ?_⟩, ?_⟩
      ·refine ⟨wants_none rfl, w.alloc (.cells zr5.toArray 34), ?_, World.grownBy_alloc _ _ _, by simp, ⟨w.heap.size, rfl, h.base.size, Blk.new w zr5 _⟩⟩
       clear h
       go_simp
      trivial
     ·intro qa V7 g7 hsz hdf hrest hslots hpt
      obtain ⟨N8, hs8, hn8, hb8⟩ : ∃ N, qa.tmps.getD 8 undef = .pointer (some ⟨N, 0, none⟩) ∧ W6.heap.size ≤ N ∧ Blk V7 N 34 zr5 := hslots 8 (by kernel_rfl)
      obtain ⟨u41, hs41⟩ := Fg.slotv qa 41
      obtain ⟨u42, hs42⟩ := Fg.slotv qa 42
      obtain ⟨x5, hx5⟩ : ∃ x : Fe, x = Fe.subF x2 x1 := ⟨_, rfl⟩
      obtain rfl := Fg.frame_by [8, 41, 42, 43] (vs := [Value.pointer (some ⟨S, 0, none⟩), Value.int .i64 (n : Int), undef, undef, Value.pointer (some ⟨N4, 0, none⟩), Value.pointer (some ⟨N5, 0, none⟩), Value.pointer (some ⟨N6, 0, none⟩), Value.pointer (some ⟨N7, 0, none⟩), Value.pointer (some ⟨N8, 0, none⟩), Value.int .i64 (n : Int), Value.int .i64 (k : Int), Value.bool true, u12, u13, u14, u15, u16, x1.v, u18, u19, u20, u21, u22, x2.v, u24, u25, u26, u27, u28, x3.v, u30, u31, u32, u33, u34, u35, u36, u37, u38, u39, x4.v, u41, u42, x5.v, u44, u45, u46, u47, u48, u49, u50, u51, u52, u53, u54, u55, u56, u57, u58]) hsz hrest (by kernel_rfl) rfl rfl ⟨hs8, hs41, hs42, (show qa.tmps.getD 43 undef = x5.v by rw [hx5]; exact hslots 43 (by kernel_rfl)), trivial⟩ hdf
      clear hsz hdf hrest hslots hpt hs8 hs41 hs42
      have Hx5 := Lib.hid hx5; clear hx5
      replace hS := hS.gn g7
      replace hb4 := hb4.gn g7
      replace hb5 := hb5.gn g7
      replace hb6 := hb6.gn g7
      replace hb7 := hb7.gn g7
      replace G := gb_trans G (gb_row g7 _)
      replace HT := HT.grown g7
      replace hz := Nat.le_trans hz g7.size
      have okx5 : x5.Ok := by rw [Hx5.out]; exact (Fe.sub_right _ _).ok
      have hw8 : w0.heap.size ≤ N8 := Nat.le_trans Gs6 hn8
      clear g7
      refine Fg.wpl_skip rfl rfl (Fg.run_store (cs := feL x5) rfl rfl rfl (hb8.there 0 5 (by show 0 + 5 ≤ 5; decide)) info_elem (feL_one _)) ?_
      replace hS := hS.setCells_other (C := N8) (cs := feL x5) 0 (by omega)
      replace hb4 := hb4.setCells_other (C := N8) (cs := feL x5) 0 (by omega)
      replace hb5 := hb5.setCells_other (C := N8) (cs := feL x5) 0 (by omega)
      replace hb6 := hb6.setCells_other (C := N8) (cs := feL x5) 0 (by omega)
      replace hb7 := hb7.setCells_other (C := N8) (cs := feL x5) 0 (by omega)
      replace hb8 : Blk (V7.setCells N8 0 (feL x5)) N8 34 (feL x5) := hb8.setAll rfl
      replace hz := Nat.le_trans hz (gb_setCells (cs := feL x5) (gb_refl V7 (some N8)) 0).size
      replace G := gb_setCells_new (cs := feL x5) G (B := N8) (hw8) 0
      replace HT := HT.keep (gb_setCells (cs := feL x5) (gb_refl _ (some N8)) 0) (HT0.noG (hw8))
      revert hS hb4 hb5 hb6 hb7 hb8 hz G HT
      generalize V7.setCells N8 0 (feL x5) = W8
      intro hS hb4 hb5 hb6 hb7 hb8 hz G HT
      go_upto_region 5 with (fail)
      have Gs8 := G.size
      have l4hS := hS.lt
      have l4hb4 := hb4.lt
      have l4hb5 := hb5.lt
      have l4hb6 := hb6.lt
      have l4hb7 := hb7.lt
      have l4hb8 := hb8.lt
      refine Fg.rT [] [.any, .any, .any, .any, .any, .any, .any, .any, .any, .any, .any, .any, .any, .any, .any, .any, .any, .any, .any, .any, .any, .any, .any, .any, .any, .any, .any, .any, .any, .any, .any, .any, .any, .any, .any, .any, .any, .any, .any, .any, .any, .any, .any, .any, .val (Value.pointer (some ⟨S, 0, none⟩)), .val (x4.v), .val (x4.v), .val ((Fe.addF x4 x4).v), .val (x5.v), .val (x2.v), .val (x1.v), .val ((Fe.addF x2 x1).v), .val (x3.v), .val (x3.v), .val ((Fe.addF x3 x3).v), .val (x5.v), .val ((Fe.subF (Fe.addF x3 x3) x5).v)] 13 ?_ ?_
      ·refine Fg.vS rfl (by decide) (fun ac w h => ?_) ?_
       ·have e0 : _ = Value.pointer (some ⟨S, 0, none⟩) := h.r 0
        exact Fg.vn (Value.pointer (some ⟨S, 0, none⟩)) (Fg.run_move rfl e0)
       refine Fg.vS rfl (by decide) (fun ac w h => ?_) ?_
       ·have e7 : _ = Value.pointer (some ⟨N7, 0, none⟩) := h.r 7
        exact Fg.vn x4.v (Fg.run_load rfl e7 ((hb7.gn h.base).range 0 (feL x4) rfl) Tryz.underlying34 rfl info_elem)
       refine Fg.vS rfl (by decide) (fun ac w h => ?_) ?_
       ·have e7 : _ = Value.pointer (some ⟨N7, 0, none⟩) := h.r 7
        exact Fg.vn x4.v (Fg.run_load rfl e7 ((hb7.gn h.base).range 0 (feL x4) rfl) Tryz.underlying34 rfl info_elem)
       refine Fg.cS rfl (by decide) (fun ac w h => ?_) ?_
       ·have e45 : _ = x4.v := h.d 45
        have e46 : _ = x4.v := h.d 46
        refine ⟨wants_none rfl, 84, #[x4.v, x4.v], Fg.run_call rfl rfl (by simp only [List.map_toArray, List.map_cons, List.map_nil, Act.eval, e45, e46]) (Fg.run_enter Tryz.func84 (by kernel_rfl) (by kernel_rfl)), ?_⟩
        exact (t_add okx4 okx4).mono fun _ _ ⟨he, hg⟩ => ⟨_, he, hg, rfl⟩
       refine Fg.vS rfl (by decide) (fun ac w h => ?_) ?_
       ·have e8 : _ = Value.pointer (some ⟨N8, 0, none⟩) := h.r 8
        exact Fg.vn x5.v (Fg.run_load rfl e8 ((hb8.gn h.base).range 0 (feL x5) rfl) Tryz.underlying34 rfl info_elem)
       refine Fg.vS rfl (by decide) (fun ac w h => ?_) ?_
       ·have e5 : _ = Value.pointer (some ⟨N5, 0, none⟩) := h.r 5
        exact Fg.vn x2.v (Fg.run_load rfl e5 ((hb5.gn h.base).range 0 (feL x2) rfl) Tryz.underlying34 rfl info_elem)
       refine Fg.vS rfl (by decide) (fun ac w h => ?_) ?_
       ·have e4 : _ = Value.pointer (some ⟨N4, 0, none⟩) := h.r 4
        exact Fg.vn x1.v (Fg.run_load rfl e4 ((hb4.gn h.base).range 0 (feL x1) rfl) Tryz.underlying34 rfl info_elem)
       refine Fg.cS rfl (by decide) (fun ac w h => ?_) ?_
       ·have e49 : _ = x2.v := h.d 49
        have e50 : _ = x1.v := h.d 50
        refine ⟨wants_none rfl, 84, #[x2.v, x1.v], Fg.run_call rfl rfl (by simp only [List.map_toArray, List.map_cons, List.map_nil, Act.eval, e49, e50]) (Fg.run_enter Tryz.func84 (by kernel_rfl) (by kernel_rfl)), ?_⟩
        exact (t_add okx2 okx1).mono fun _ _ ⟨he, hg⟩ => ⟨_, he, hg, rfl⟩
       refine Fg.vS rfl (by decide) (fun ac w h => ?_) ?_
       ·have e6 : _ = Value.pointer (some ⟨N6, 0, none⟩) := h.r 6
        exact Fg.vn x3.v (Fg.run_load rfl e6 ((hb6.gn h.base).range 0 (feL x3) rfl) Tryz.underlying34 rfl info_elem)
       refine Fg.vS rfl (by decide) (fun ac w h => ?_) ?_
       ·have e6 : _ = Value.pointer (some ⟨N6, 0, none⟩) := h.r 6
        exact Fg.vn x3.v (Fg.run_load rfl e6 ((hb6.gn h.base).range 0 (feL x3) rfl) Tryz.underlying34 rfl info_elem)
       refine Fg.cS rfl (by decide) (fun ac w h => ?_) ?_
       ·have e52 : _ = x3.v := h.d 52
        have e53 : _ = x3.v := h.d 53
        refine ⟨wants_none rfl, 84, #[x3.v, x3.v], Fg.run_call rfl rfl (by simp only [List.map_toArray, List.map_cons, List.map_nil, Act.eval, e52, e53]) (Fg.run_enter Tryz.func84 (by kernel_rfl) (by kernel_rfl)), ?_⟩
        exact (t_add okx3 okx3).mono fun _ _ ⟨he, hg⟩ => ⟨_, he, hg, rfl⟩
       refine Fg.vS rfl (by decide) (fun ac w h => ?_) ?_
       ·have e8 : _ = Value.pointer (some ⟨N8, 0, none⟩) := h.r 8
        exact Fg.vn x5.v (Fg.run_load rfl e8 ((hb8.gn h.base).range 0 (feL x5) rfl) Tryz.underlying34 rfl info_elem)
       refine Fg.cS rfl (by decide) (fun ac w h => ?_) ?_
       ·have e54 : _ = (Fe.addF x3 x3).v := h.d 54
        have e55 : _ = x5.v := h.d 55
        refine ⟨wants_none rfl, 70, #[(Fe.addF x3 x3).v, x5.v], Fg.run_call rfl rfl (by simp only [List.map_toArray, List.map_cons, List.map_nil, Act.eval, e54, e55]) (Fg.run_enter Tryz.func70 (by kernel_rfl) (by kernel_rfl)), ?_⟩
        exact (t_sub (HT.f.grown h.base) (Fe.add_right _ _).ok okx5).mono fun _ _ ⟨he, hg⟩ => ⟨_, he, hg, rfl⟩
       trivial
      ·intro qa V9 g9 hsz hdf hrest hslots hpt
       obtain ⟨u45, hs45⟩ := Fg.slotv qa 45
       obtain ⟨u46, hs46⟩ := Fg.slotv qa 46
       obtain ⟨x6, hx6⟩ : ∃ x : Fe, x = Fe.addF x4 x4 := ⟨_, rfl⟩
       obtain ⟨u49, hs49⟩ := Fg.slotv qa 49
       obtain ⟨u50, hs50⟩ := Fg.slotv qa 50
       obtain ⟨x7, hx7⟩ : ∃ x : Fe, x = Fe.addF x2 x1 := ⟨_, rfl⟩
       obtain ⟨⟨u52, hs52⟩, ⟨u53, hs53⟩, ⟨u54, hs54⟩, ⟨u55, hs55⟩, _⟩ := Fg.slotvs qa [52, 53, 54, 55]
       obtain ⟨x8, hx8⟩ : ∃ x : Fe, x = Fe.subF (Fe.addF x3 x3) x5 := ⟨_, rfl⟩
       obtain rfl := Fg.frame_by [44, 45, 46, 47, 48, 49, 50, 51, 52, 53, 54, 55, 56] (vs := [Value.pointer (some ⟨S, 0, none⟩), Value.int .i64 (n : Int), undef, undef, Value.pointer (some ⟨N4, 0, none⟩), Value.pointer (some ⟨N5, 0, none⟩), Value.pointer (some ⟨N6, 0, none⟩), Value.pointer (some ⟨N7, 0, none⟩), Value.pointer (some ⟨N8, 0, none⟩), Value.int .i64 (n : Int), Value.int .i64 (k : Int), Value.bool true, u12, u13, u14, u15, u16, x1.v, u18, u19, u20, u21, u22, x2.v, u24, u25, u26, u27, u28, x3.v, u30, u31, u32, u33, u34, u35, u36, u37, u38, u39, x4.v, u41, u42, x5.v, Value.pointer (some ⟨S, 0, none⟩), u45, u46, x6.v, x5.v, u49, u50, x7.v, u52, u53, u54, u55, x8.v, u57, u58]) hsz hrest (by kernel_rfl) rfl rfl ⟨(show qa.tmps.getD 44 undef = Value.pointer (some ⟨S, 0, none⟩) from hslots 44 (by kernel_rfl)), hs45, hs46, (show qa.tmps.getD 47 undef = x6.v by rw [hx6]; exact hslots 47 (by kernel_rfl)), (show qa.tmps.getD 48 undef = x5.v from hslots 48 (by kernel_rfl)), hs49, hs50, (show qa.tmps.getD 51 undef = x7.v by rw [hx7]; exact hslots 51 (by kernel_rfl)), hs52, hs53, hs54, hs55, (show qa.tmps.getD 56 undef = x8.v by rw [hx8]; exact hslots 56 (by kernel_rfl)), trivial⟩ hdf
       clear hsz hdf hrest hslots hpt hs45 hs46 hs49 hs50 hs52 hs53 hs54 hs55
       have Hx6 := Lib.hid hx6; clear hx6
       have Hx7 := Lib.hid hx7; clear hx7
       have Hx8 := Lib.hid hx8; clear hx8
       replace hS := hS.gn g9
       replace hb4 := hb4.gn g9
       replace hb5 := hb5.gn g9
       replace hb6 := hb6.gn g9
       replace hb7 := hb7.gn g9
       replace hb8 := hb8.gn g9
       replace G := gb_trans G (gb_row g9 _)
       replace HT := HT.grown g9
       replace hz := Nat.le_trans hz g9.size
       have okx6 : x6.Ok := by rw [Hx6.out]; exact (Fe.add_right _ _).ok
       have okx7 : x7.Ok := by rw [Hx7.out]; exact (Fe.add_right _ _).ok
       have okx8 : x8.Ok := by rw [Hx8.out]; exact (Fe.sub_right _ _).ok
       clear g9
       have l5hS := hS.lt
       have l5hb4 := hb4.lt
       have l5hb5 := hb5.lt
       have l5hb6 := hb6.lt
       have l5hb7 := hb7.lt
       have l5hb8 := hb8.lt
       refine Fg.wpl_call rfl (Fg.run_call (vs := #[Value.pointer (some ⟨S, 0, none⟩), x6.v, x5.v, x7.v, x8.v]) rfl rfl (by simp only [List.map_toArray, List.map_cons, List.map_nil, Act.eval]; rfl) (Fg.run_enter Tryz.func96 (by kernel_rfl) (by kernel_rfl))) ?_
       refine (become_any S _ x6 x5 x7 x8 _ hS okx6 okx5 okx7 okx8).mono ?_
       rintro e w9 ⟨rfl, g9, h9⟩
       replace G := gb_trans G g9
       replace HT := HT.keep g9 HS
       have z9 := g9.size
       refine ⟨_, rfl, ?_⟩
       have HA9 := Lib.hid (And.intro (Fg.apart_three (A := N4) (B := N5) (C := N6) (w := w9) (by omega) (by omega) (by omega) (by omega) (by omega) (by omega)) (And.intro (Fg.apart_one (N := N7) (w := w9) (by omega)) (Fg.apart_one (N := N8) (w := w9) (by omega))))
       have hs9 : SmIs (bF s'.T x6 x5 x7 x8) (nmul (2 ^ (k + 1)) p) := by
        have hx8 := Hx8.out; subst hx8
        have hx7 := Hx7.out; subst hx7
        have hx6 := Hx6.out; subst hx6
        have hx5 := Hx5.out; subst hx5
        have hx4 := Hx4.out; subst hx4
        have hx3 := Hx3.out; subst hx3
        have hx2 := Hx2.out; subst hx2
        have hx1 := Hx1.out; subst hx1
        rw [Nat.pow_succ, Nat.mul_comm, ← nmul_dbl' hs.on]
        exact twiceIs hs'
       have hd9 : bF s'.T x6 x5 x7 x8 = itF (k + 1) s := by
        have hx8 := Hx8.out; subst hx8
        have hx7 := Hx7.out; subst hx7
        have hx6 := Hx6.out; subst hx6
        have hx5 := Hx5.out; subst hx5
        have hx4 := Hx4.out; subst hx4
        have hx3 := Hx3.out; subst hx3
        have hx2 := Hx2.out; subst hx2
        have hx1 := Hx1.out; subst hx1
        rw [HD.out]
        rfl
       have H9 := Lib.hid (And.intro hs9 (And.intro h9 hd9))
       clear hS hb4 hb5 hb6 hb7 hb8 hs9 h9 hd9
       clear l1hS l2hS l2hb4 l2hb5 l2hb6 l3hS l3hb4 l3hb5 l3hb6 l3hb7 l4hS l4hb4 l4hb5 l4hb6 l4hb7 l4hb8 l5hS l5hb4 l5hb5 l5hb6 l5hb7 l5hb8
       go_wp2
       go_roundw
       case rel => exact ⟨k + 1, by omega, by go_num, G, HT, HA9, _, H9.out.1, H9.out.2.1, H9.out.2.2⟩
       case measure => simp [intOf]; omega
  ·obtain rfl : k = n := by omega
   have H9 := Lib.hid (And.intro hs' (And.intro hS HD.out)); clear hs' hS HD
   go_wp2
   go_end0
   exact ⟨rfl, G, _, H9.out.1, H9.out.2.1, H9.out.2.2⟩
theorem sdouble_any (S n : Nat) (s : Sm) (p : Pr) (w0 : World) (hn : n ≤ 100) (HT0 : ETab w0) (HN : NoG S) (hS : Blk w0 S 119 (smL s)) (hs : SmIs s p) :
  Calls Tryz.prog 67 #[.pointer (some ⟨S, 0, none⟩), .int .i64 n] w0 fun e w' => e = .returned (.tuple #[]) ∧ w0.grownBy w' (some S) ∧ ∃ s', SmIs s' (nmul (2 ^ n) p) ∧ Blk w' S 119 (smL s') :=
 (sdouble_det S n s p w0 hn HT0 HN hS hs).mono fun _ _ ⟨he, hg, s', h1, h2, _⟩ => ⟨he, hg, s', h1, h2⟩
end
section
open Go.RowKit Ed
set_option maxRecDepth 100000 in
set_option maxHeartbeats 3200000 in
theorem edZero (w0 : World) :
  Calls Tryz.prog 51 #[] w0 fun e w' => e = .returned zeroP.v ∧ w0.grownBy w' none := by
 go_enter Tryz.func51, Tryz.ntmps51
 go_upto_region 1 with (fail)
 have G : w0.grownBy (w0.alloc (.cells zr20.toArray 36)) none := gb_alloc (gb_refl _ _) _
 have hR : Blk (w0.alloc (.cells zr20.toArray 36)) (w0.heap.size) 36 zr20 := Blk.new w0 zr20 _
 revert G hR
 generalize w0.alloc (.cells zr20.toArray 36) = W0
 intro G hR
 have Gs := G.size
 have Gs0 := G.size
 have l1hR := hR.lt
 refine Fg.rP [] [.any, .val (Fe.oneF.v), .val (Fe.oneF.v), .val (zeroP.v)] 3 ?_ ?_
 ·refine Fg.cS rfl (by decide) (fun ac w h => ?_) ?_
  ·refine ⟨wants_none rfl, 59, #[], Fg.run_call rfl rfl (by simp) (Fg.run_enter Tryz.func59 (by kernel_rfl) (by kernel_rfl)), ?_⟩
   exact (t_one).mono fun _ _ ⟨he, hg⟩ => ⟨_, he, hg, rfl⟩
  refine Fg.cS rfl (by decide) (fun ac w h => ?_) ?_
  ·refine ⟨wants_none rfl, 59, #[], Fg.run_call rfl rfl (by simp) (Fg.run_enter Tryz.func59 (by kernel_rfl) (by kernel_rfl)), ?_⟩
   exact (t_one).mono fun _ _ ⟨he, hg⟩ => ⟨_, he, hg, rfl⟩
  refine Fg.vS rfl (by decide) (fun ac w h => ?_) ?_
  ·have e1 : _ = Fe.oneF.v := h.d 1
   have e2 : _ = Fe.oneF.v := h.d 2
   exact Fg.vn zeroP.v (Fg.run_build (vs := #[(1, Fe.oneF.v), (2, Fe.oneF.v)]) rfl (by simp only [List.map_toArray, List.map_cons, List.map_nil, Act.eval, e1, e2]) (by kernel_rfl))
  trivial
 ·intro qa V1 g1 hsz hdf hrest hslots hpt
  obtain ⟨u1, hs1⟩ := Fg.slotv qa 1
  obtain ⟨u2, hs2⟩ := Fg.slotv qa 2
  obtain rfl := Fg.frame_is (a := qa) (vs := [Value.pointer (some ⟨w0.heap.size, 0, none⟩), u1, u2, zeroP.v]) hsz ⟨hrest 0 (by kernel_rfl), hs1, hs2, (show qa.tmps.getD 3 undef = zeroP.v from hslots 3 (by kernel_rfl)), trivial⟩ hdf
  clear hsz hdf hrest hslots hpt hs1 hs2
  replace hR := hR.gn g1
  replace G := gb_trans G g1
  clear g1
  refine Fg.wpl_skip rfl rfl (Fg.run_store (cs := ptL zeroP) rfl rfl rfl (hR.there 0 20 (by show 0 + 20 ≤ 20; decide)) info_point (ptL_one _)) ?_
  replace hR : Blk (V1.setCells w0.heap.size 0 (ptL zeroP)) w0.heap.size 36 (ptL zeroP) := hR.setAll rfl
  replace G := gb_setCells_new (cs := ptL zeroP) G (B := w0.heap.size) (by omega) 0
  revert hR G
  generalize V1.setCells w0.heap.size 0 (ptL zeroP) = W2
  intro hR G
  go_wp2_with fail
  exact bodyPost_ret (v := zeroP.v) (results_cell_row Tryz.results51 _ _ w0.heap.size 36 (ptL zeroP).toArray (0, 0) _ rfl hR Tryz.underlying36 rfl info_point) rfl ⟨rfl, G⟩
set_option maxRecDepth 100000 in
set_option maxHeartbeats 3200000 in
theorem edBase (w0 : World) (HT0 : ETab w0) :
  Calls Tryz.prog 32 #[] w0 fun e w' => e = .returned baseT.v ∧ w0.grownBy w' none := by
 go_enter Tryz.func32, Tryz.ntmps32
 go_upto_region 1 with (fail)
 have G : w0.grownBy (w0.alloc (.cells zr20.toArray 36)) none := gb_alloc (gb_refl _ _) _
 have HT : ETab (w0.alloc (.cells zr20.toArray 36)) := HT0.grown (gb_alloc (gb_refl _ _) _)
 have hR : Blk (w0.alloc (.cells zr20.toArray 36)) (w0.heap.size) 36 zr20 := Blk.new w0 zr20 _
 revert G HT hR
 generalize w0.alloc (.cells zr20.toArray 36) = W0
 intro G HT hR
 have Gs := G.size
 have Gs0 := G.size
 have l1hR := hR.lt
 refine Fg.rP [] [.any, .val (baseT.v)] 1 ?_ ?_
 ·refine Fg.vS rfl (by decide) (fun ac w h => ?_) ?_
  ·exact Fg.vn baseT.v (Fg.run_load rfl rfl (HT.grown h.base).b Tryz.underlying36 rfl info_point)
  trivial
 ·intro qa V1 g1 hsz hdf hrest hslots hpt
  obtain rfl := Fg.frame_is (a := qa) (vs := [Value.pointer (some ⟨w0.heap.size, 0, none⟩), baseT.v]) hsz ⟨hrest 0 (by kernel_rfl), (show qa.tmps.getD 1 undef = baseT.v from hslots 1 (by kernel_rfl)), trivial⟩ hdf
  clear hsz hdf hrest hslots hpt
  replace hR := hR.gn g1
  replace G := gb_trans G g1
  replace HT := HT.grown g1
  clear g1
  refine Fg.wpl_skip rfl rfl (Fg.run_store (cs := ptL baseT) rfl rfl rfl (hR.there 0 20 (by show 0 + 20 ≤ 20; decide)) info_point (ptL_one _)) ?_
  replace hR : Blk (V1.setCells w0.heap.size 0 (ptL baseT)) w0.heap.size 36 (ptL baseT) := hR.setAll rfl
  replace G := gb_setCells_new (cs := ptL baseT) G (B := w0.heap.size) (by omega) 0
  replace HT := HT.keep (gb_setCells (cs := ptL baseT) (gb_refl _ (some w0.heap.size)) 0) (HT0.noG (by omega))
  revert hR G HT
  generalize V1.setCells w0.heap.size 0 (ptL baseT) = W2
  intro hR G HT
  go_wp2_with fail
  exact bodyPost_ret (v := baseT.v) (results_cell_row Tryz.results32 _ _ w0.heap.size 36 (ptL baseT).toArray (0, 0) _ rfl hR Tryz.underlying36 rfl info_point) rfl ⟨rfl, G⟩
def dblF (p : Pt) : Pt := pointF (twiceF (sumF p))
theorem dblIs {p : Pt} {r : Pr} (h : PtIs p r) : PtIs (dblF p) (Ed.add r r) := pointIs (twiceIs (sumIs h))
set_option maxRecDepth 100000 in
set_option maxHeartbeats 3200000 in
theorem edDbl (p : Pt) (r : Pr) (w0 : World) (HT0 : ETab w0) (hp : PtIs p r) :
  Calls Tryz.prog 42 #[p.v] w0 fun e w' => e = .returned (dblF p).v ∧ w0.grownBy w' none := by
 show Calls Tryz.prog 42 #[.agg (ptL p).toArray] w0 _
 go_enter Tryz.func42, Tryz.ntmps42
 go_upto_region 1 with (fail)
 have G : w0.grownBy ((w0.alloc (.cells (ptL p).toArray 36)).alloc (.cells zr20.toArray 36)) none := gb_alloc (gb_alloc (gb_refl _ _) _) _
 have HT : ETab ((w0.alloc (.cells (ptL p).toArray 36)).alloc (.cells zr20.toArray 36)) := HT0.grown (gb_alloc (gb_alloc (gb_refl _ _) _) _)
 have hP : Blk ((w0.alloc (.cells (ptL p).toArray 36)).alloc (.cells zr20.toArray 36)) (w0.heap.size) 36 (ptL p) := (Blk.new w0 (ptL p) _).alloc _
 have hR : Blk ((w0.alloc (.cells (ptL p).toArray 36)).alloc (.cells zr20.toArray 36)) (w0.heap.size + 1) 36 zr20 := Blk.newAt (w0.alloc _) zr20 _ (by simp)
 revert G HT hP hR
 generalize (w0.alloc (.cells (ptL p).toArray 36)).alloc (.cells zr20.toArray 36) = W0
 intro G HT hP hR
 have Gs := G.size
 have Gs0 := G.size
 have l1hP := hP.lt
 have l1hR := hR.lt
 refine Fg.rP [3] [.any, .any, .any, .fresh 119 zr30 W0.heap.size, .val (p.v), .val ((sumF p).v)] 3 ?_ ?_
 ·refine Fg.vS rfl (by decide) (fun ac w h => ?_) ?_
  ·have e1 : _ = Value.pointer (some ⟨w0.heap.size, 0, none⟩) := h.r 1
   exact Fg.vn p.v (Fg.run_load rfl e1 ((hP.gn h.base).range 0 (ptL p) rfl) Tryz.underlying36 rfl info_point)
  refine Fg.cS rfl (by decide) (fun ac w h => ?_) ?_
  ·have e4 : _ = p.v := h.d 4
   refine ⟨wants_none rfl, 65, #[p.v], Fg.run_call rfl rfl (by simp only [List.map_toArray, List.map_cons, List.map_nil, Act.eval, e4]) (Fg.run_enter Tryz.func65 (by kernel_rfl) (by kernel_rfl)), ?_⟩
   exact (sumOf_any _ _).mono fun _ _ ⟨he, hg⟩ => ⟨_, he, hg, rfl⟩
  refine ⟨⟨⟨_, rfl⟩, Fg.allocP (fun _ _ h k => gb_trans h k) rfl (by show 3 < 8; decide) fun ac w h => ?_⟩, ?_⟩
  ·refine ⟨wants_none rfl, w.alloc (.cells zr30.toArray 119), ?_, World.grownBy_alloc _ _ _, by simp, ⟨w.heap.size, rfl, h.base.size, Blk.new w zr30 _⟩⟩
   clear h
   go_simp
  trivial
 ·intro qa V1 g1 hsz hdf hrest hslots hpt
  obtain ⟨N3, hs3, hn3, hb3⟩ : ∃ N, qa.tmps.getD 3 undef = .pointer (some ⟨N, 0, none⟩) ∧ W0.heap.size ≤ N ∧ Blk V1 N 119 zr30 := hslots 3 (by kernel_rfl)
  obtain ⟨u4, hs4⟩ := Fg.slotv qa 4
  obtain ⟨x1, hx1⟩ : ∃ x : Sm, x = sumF p := ⟨_, rfl⟩
  obtain rfl := Fg.frame_by [3, 4, 5] (vs := [p.v, Value.pointer (some ⟨w0.heap.size, 0, none⟩), Value.pointer (some ⟨w0.heap.size + 1, 0, none⟩), Value.pointer (some ⟨N3, 0, none⟩), u4, x1.v, undef, undef]) hsz hrest (by kernel_rfl) rfl rfl ⟨hs3, hs4, (show qa.tmps.getD 5 undef = x1.v by rw [hx1]; exact hslots 5 (by kernel_rfl)), trivial⟩ hdf
  clear hsz hdf hrest hslots hpt hs3 hs4
  have Hx1 := Lib.hid hx1; clear hx1
  replace hP := hP.gn g1
  replace hR := hR.gn g1
  replace G := gb_trans G g1
  replace HT := HT.grown g1
  have hw3 : w0.heap.size ≤ N3 := Nat.le_trans Gs0 hn3
  clear g1
  refine Fg.wpl_skip rfl rfl (Fg.run_store (cs := smL x1) rfl rfl rfl (hb3.there 0 30 (by show 0 + 30 ≤ 30; decide)) info_sum (smL_one _)) ?_
  replace hP := hP.setCells_other (C := N3) (cs := smL x1) 0 (by omega)
  replace hR := hR.setCells_other (C := N3) (cs := smL x1) 0 (by omega)
  replace hb3 : Blk (V1.setCells N3 0 (smL x1)) N3 119 (smL x1) := hb3.setAll rfl
  replace G := gb_setCells_new (cs := smL x1) G (B := N3) (hw3) 0
  replace HT := HT.keep (gb_setCells (cs := smL x1) (gb_refl _ (some N3)) 0) (HT0.noG (hw3))
  revert hP hR hb3 G HT
  generalize V1.setCells N3 0 (smL x1) = W2
  intro hP hR hb3 G HT
  go_upto_region 2 with (fail)
  have Gs2 := G.size
  have l2hP := hP.lt
  have l2hR := hR.lt
  have l2hb3 := hb3.lt
  refine Fg.rP [] [] 0 ?_ ?_
  ·trivial
  ·intro qa V3 g3 hsz hdf hrest hslots hpt
   obtain rfl := Fg.frame_by [] (vs := [p.v, Value.pointer (some ⟨w0.heap.size, 0, none⟩), Value.pointer (some ⟨w0.heap.size + 1, 0, none⟩), Value.pointer (some ⟨N3, 0, none⟩), u4, x1.v, undef, undef]) hsz hrest (by kernel_rfl) rfl rfl trivial hdf
   clear hsz hdf hrest hslots hpt
   replace hP := hP.gn g3
   replace hR := hR.gn g3
   replace hb3 := hb3.gn g3
   replace G := gb_trans G g3
   replace HT := HT.grown g3
   clear g3
   have l3hP := hP.lt
   have l3hR := hR.lt
   have l3hb3 := hb3.lt
   refine Fg.wpl_call rfl (Fg.run_call (vs := #[Value.pointer (some ⟨N3, 0, none⟩), Value.int IntKind.i64 1]) rfl rfl (by simp only [List.map_toArray, List.map_cons, List.map_nil, Act.eval]; rfl) (Fg.run_enter Tryz.func67 (by kernel_rfl) (by kernel_rfl))) ?_
   refine (sdouble_det N3 1 x1 r _ (by decide) HT (HT0.noG hw3) hb3 (by rw [Hx1.out]; exact sumIs hp)).mono ?_
   rintro e C2 ⟨rfl, gc, s9, hs9, hc, hd9⟩
   refine ⟨_, rfl, ?_⟩
   replace hP := hP.grown gc (some_ne (by omega))
   replace hR := hR.grown gc (some_ne (by omega))
   replace hb3 := hc
   replace G := gb_then G gc (hw3)
   replace HT := HT.keep gc (HT0.noG (hw3))
   clear gc
   have Hd9 := Lib.hid hd9; clear hd9
   go_upto_region 3 with (fail)
   have Gs3 := G.size
   have l4hP := hP.lt
   have l4hR := hR.lt
   have l4hb3 := hb3.lt
   refine Fg.rP [] [] 0 ?_ ?_
   ·trivial
   ·intro qa V4 g4 hsz hdf hrest hslots hpt
    obtain rfl := Fg.frame_by [] (vs := [p.v, Value.pointer (some ⟨w0.heap.size, 0, none⟩), Value.pointer (some ⟨w0.heap.size + 1, 0, none⟩), Value.pointer (some ⟨N3, 0, none⟩), u4, x1.v, undef, undef]) hsz hrest (by kernel_rfl) rfl rfl trivial hdf
    clear hsz hdf hrest hslots hpt
    replace hP := hP.gn g4
    replace hR := hR.gn g4
    replace hb3 := hb3.gn g4
    replace G := gb_trans G g4
    replace HT := HT.grown g4
    clear g4
    have l5hP := hP.lt
    have l5hR := hR.lt
    have l5hb3 := hb3.lt
    refine Fg.wpl_call rfl (Fg.run_call (vs := #[Value.pointer (some ⟨N3, 0, none⟩)]) rfl rfl (by simp only [List.map_toArray, List.map_cons, List.map_nil, Act.eval]; rfl) (Fg.run_enter Tryz.func69 (by kernel_rfl) (by kernel_rfl))) ?_
    refine (point_any N3 s9 _ hb3 hs9.ok).mono ?_
    rintro e C3 ⟨rfl, gc, hc⟩
    refine ⟨_, rfl, ?_⟩
    replace hP := hP.grown gc (some_ne (by omega))
    replace hR := hR.grown gc (some_ne (by omega))
    replace hb3 := hc
    replace G := gb_then G gc (hw3)
    replace HT := HT.keep gc (HT0.noG (hw3))
    clear gc
    obtain ⟨t9, ht9⟩ : ∃ t, t = pointF s9 := ⟨_, rfl⟩
    rw [← ht9]
    have Ht9 := Lib.hid ht9; clear ht9
    refine Fg.wpl_skip rfl rfl (Fg.run_store (cs := ptL t9) rfl rfl rfl (hR.there 0 20 (by show 0 + 20 ≤ 20; decide)) info_point (ptL_one _)) ?_
    replace hP := hP.setCells_other (C := (w0.heap.size + 1)) (cs := ptL t9) 0 (by omega)
    replace hR : Blk (C3.setCells (w0.heap.size + 1) 0 (ptL t9)) (w0.heap.size + 1) 36 (ptL t9) := hR.setAll rfl
    replace hb3 := hb3.setCells_other (C := (w0.heap.size + 1)) (cs := ptL t9) 0 (by omega)
    replace G := gb_setCells_new (cs := ptL t9) G (B := (w0.heap.size + 1)) (by omega) 0
    replace HT := HT.keep (gb_setCells (cs := ptL t9) (gb_refl _ (some (w0.heap.size + 1))) 0) (HT0.noG (by omega))
    revert hP hR hb3 G HT
    generalize C3.setCells (w0.heap.size + 1) 0 (ptL t9) = W5
    intro hP hR hb3 G HT
    go_wp2_with fail
    exact bodyPost_ret (v := t9.v) (results_cell_row Tryz.results42 _ _ (w0.heap.size + 1) 36 (ptL t9).toArray (0, 0) _ rfl hR Tryz.underlying36 rfl info_point) rfl ⟨by rw [Ht9.out, Hd9.out, Hx1.out]; rfl, G⟩
set_option maxRecDepth 100000 in
set_option maxHeartbeats 3200000 in
theorem edNeg (p : Pt) (r : Pr) (w0 : World) (HT0 : ETab w0) (hp : PtIs p r) :
  Calls Tryz.prog 22 #[p.v] w0 fun e w' => PtOut (Ed.neg r) w0 e w' := by
 have okp := hp.ok
 show Calls Tryz.prog 22 #[.agg (ptL p).toArray] w0 _
 go_enter Tryz.func22, Tryz.ntmps22
 go_upto_region 1 with (fail)
 have G : w0.grownBy ((w0.alloc (.cells (ptL p).toArray 36)).alloc (.cells zr20.toArray 36)) none := gb_alloc (gb_alloc (gb_refl _ _) _) _
 have HT : ETab ((w0.alloc (.cells (ptL p).toArray 36)).alloc (.cells zr20.toArray 36)) := HT0.grown (gb_alloc (gb_alloc (gb_refl _ _) _) _)
 have hP : Blk ((w0.alloc (.cells (ptL p).toArray 36)).alloc (.cells zr20.toArray 36)) (w0.heap.size) 36 (ptL p) := (Blk.new w0 (ptL p) _).alloc _
 have hR : Blk ((w0.alloc (.cells (ptL p).toArray 36)).alloc (.cells zr20.toArray 36)) (w0.heap.size + 1) 36 zr20 := Blk.newAt (w0.alloc _) zr20 _ (by simp)
 revert G HT hP hR
 generalize (w0.alloc (.cells (ptL p).toArray 36)).alloc (.cells zr20.toArray 36) = W0
 intro G HT hP hR
 have Gs := G.size
 have Gs0 := G.size
 have l1hP := hP.lt
 have l1hR := hR.lt
 refine Fg.rT [] [.any, .any, .any, .val (Value.pointer (some ⟨w0.heap.size, 0, none⟩)), .val (p.X.v), .val ((Fe.negF p.X).v), .val (Value.pointer (some ⟨w0.heap.size, 15, none⟩)), .val (p.T.v), .val ((Fe.negF p.T).v), .val (Value.pointer (some ⟨w0.heap.size, 0, none⟩))] 7 ?_ ?_
 ·refine Fg.vS rfl (by decide) (fun ac w h => ?_) ?_
  ·have e1 : _ = Value.pointer (some ⟨w0.heap.size, 0, none⟩) := h.r 1
   exact Fg.vn (Value.pointer (some ⟨w0.heap.size, 0, none⟩)) (Fg.run_fieldAddr rfl e1 (fa_point0 _ _ _))
  refine Fg.vS rfl (by decide) (fun ac w h => ?_) ?_
  ·have e3 : _ = Value.pointer (some ⟨w0.heap.size, 0, none⟩) := h.d 3
   exact Fg.vn p.X.v (Fg.run_load rfl e3 ((hP.gn h.base).range 0 (feL p.X) rfl) Tryz.underlying34 rfl info_elem)
  refine Fg.cS rfl (by decide) (fun ac w h => ?_) ?_
  ·have e4 : _ = p.X.v := h.d 4
   refine ⟨wants_none rfl, 43, #[p.X.v], Fg.run_call rfl rfl (by simp only [List.map_toArray, List.map_cons, List.map_nil, Act.eval, e4]) (Fg.run_enter Tryz.func43 (by kernel_rfl) (by kernel_rfl)), ?_⟩
   exact (t_neg (HT.f.grown h.base) okp.X).mono fun _ _ ⟨he, hg⟩ => ⟨_, he, hg, rfl⟩
  refine Fg.vS rfl (by decide) (fun ac w h => ?_) ?_
  ·have e1 : _ = Value.pointer (some ⟨w0.heap.size, 0, none⟩) := h.r 1
   exact Fg.vn (Value.pointer (some ⟨w0.heap.size, 15, none⟩)) (Fg.run_fieldAddr rfl e1 (fa_point3 _ _ _))
  refine Fg.vS rfl (by decide) (fun ac w h => ?_) ?_
  ·have e6 : _ = Value.pointer (some ⟨w0.heap.size, 15, none⟩) := h.d 6
   exact Fg.vn p.T.v (Fg.run_load rfl e6 ((hP.gn h.base).range 15 (feL p.T) rfl) Tryz.underlying34 rfl info_elem)
  refine Fg.cS rfl (by decide) (fun ac w h => ?_) ?_
  ·have e7 : _ = p.T.v := h.d 7
   refine ⟨wants_none rfl, 43, #[p.T.v], Fg.run_call rfl rfl (by simp only [List.map_toArray, List.map_cons, List.map_nil, Act.eval, e7]) (Fg.run_enter Tryz.func43 (by kernel_rfl) (by kernel_rfl)), ?_⟩
   exact (t_neg (HT.f.grown h.base) okp.T).mono fun _ _ ⟨he, hg⟩ => ⟨_, he, hg, rfl⟩
  refine Fg.vS rfl (by decide) (fun ac w h => ?_) ?_
  ·have e1 : _ = Value.pointer (some ⟨w0.heap.size, 0, none⟩) := h.r 1
   exact Fg.vn (Value.pointer (some ⟨w0.heap.size, 0, none⟩)) (Fg.run_fieldAddr rfl e1 (fa_point0 _ _ _))
  trivial
 ·intro qa V1 g1 hsz hdf hrest hslots hpt
  obtain ⟨u3, hs3⟩ := Fg.slotv qa 3
  obtain ⟨u4, hs4⟩ := Fg.slotv qa 4
  obtain ⟨x1, hx1⟩ : ∃ x : Fe, x = Fe.negF p.X := ⟨_, rfl⟩
  obtain ⟨u6, hs6⟩ := Fg.slotv qa 6
  obtain ⟨u7, hs7⟩ := Fg.slotv qa 7
  obtain ⟨x2, hx2⟩ : ∃ x : Fe, x = Fe.negF p.T := ⟨_, rfl⟩
  obtain rfl := Fg.frame_by [3, 4, 5, 6, 7, 8, 9] (vs := [p.v, Value.pointer (some ⟨w0.heap.size, 0, none⟩), Value.pointer (some ⟨w0.heap.size + 1, 0, none⟩), u3, u4, x1.v, u6, u7, x2.v, Value.pointer (some ⟨w0.heap.size, 0, none⟩), undef, undef]) hsz hrest (by kernel_rfl) rfl rfl ⟨hs3, hs4, (show qa.tmps.getD 5 undef = x1.v by rw [hx1]; exact hslots 5 (by kernel_rfl)), hs6, hs7, (show qa.tmps.getD 8 undef = x2.v by rw [hx2]; exact hslots 8 (by kernel_rfl)), (show qa.tmps.getD 9 undef = Value.pointer (some ⟨w0.heap.size, 0, none⟩) from hslots 9 (by kernel_rfl)), trivial⟩ hdf
  clear hsz hdf hrest hslots hpt hs3 hs4 hs6 hs7
  have Hx1 := Lib.hid hx1; clear hx1
  have Hx2 := Lib.hid hx2; clear hx2
  replace hP := hP.gn g1
  replace hR := hR.gn g1
  replace G := gb_trans G g1
  replace HT := HT.grown g1
  have okx1 : x1.Ok := by rw [Hx1.out]; exact (Fe.neg_right _).ok
  have okx2 : x2.Ok := by rw [Hx2.out]; exact (Fe.neg_right _).ok
  clear g1
  refine Fg.wpl_skip rfl rfl (Fg.run_store (cs := feL x1) rfl rfl rfl (hP.there 0 5 (by show 0 + 5 ≤ 20; decide)) info_elem (feL_one _)) ?_
  replace hP : Blk (V1.setCells w0.heap.size 0 (feL x1)) w0.heap.size 36 (ptL ((Pt.mk x1 p.Y p.Z p.T))) := hP.setCells 0
  replace hR := hR.setCells_other (C := w0.heap.size) (cs := feL x1) 0 (by omega)
  replace G := gb_setCells_new (cs := feL x1) G (B := w0.heap.size) (by omega) 0
  replace HT := HT.keep (gb_setCells (cs := feL x1) (gb_refl _ (some w0.heap.size)) 0) (HT0.noG (by omega))
  revert hP hR G HT
  generalize V1.setCells w0.heap.size 0 (feL x1) = W2
  intro hP hR G HT
  refine Fg.wpl_value rfl (Fg.run_fieldAddr rfl rfl (fa_point3 w0.heap.size 0 _)) ?_
  refine Fg.wpl_skip rfl rfl (Fg.run_store (cs := feL x2) rfl rfl rfl (hP.there 15 5 (by show 15 + 5 ≤ 20; decide)) info_elem (feL_one _)) ?_
  replace hP : Blk (W2.setCells w0.heap.size 15 (feL x2)) w0.heap.size 36 (ptL ((Pt.mk x1 p.Y p.Z x2))) := hP.setCells 15
  replace hR := hR.setCells_other (C := w0.heap.size) (cs := feL x2) 15 (by omega)
  replace G := gb_setCells_new (cs := feL x2) G (B := w0.heap.size) (by omega) 15
  replace HT := HT.keep (gb_setCells (cs := feL x2) (gb_refl _ (some w0.heap.size)) 15) (HT0.noG (by omega))
  revert hP hR G HT
  generalize W2.setCells w0.heap.size 15 (feL x2) = W3
  intro hP hR G HT
  go_upto_region 2 with (fail)
  have Gs3 := G.size
  have l2hP := hP.lt
  have l2hR := hR.lt
  refine Fg.rP [] [.any, .any, .any, .any, .any, .any, .any, .any, .any, .any, .any, .val (((Pt.mk x1 p.Y p.Z x2)).v)] 1 ?_ ?_
  ·refine Fg.vS rfl (by decide) (fun ac w h => ?_) ?_
   ·have e1 : _ = Value.pointer (some ⟨w0.heap.size, 0, none⟩) := h.r 1
    exact Fg.vn (((Pt.mk x1 p.Y p.Z x2)).v) (Fg.run_load rfl e1 ((hP.gn h.base).range 0 (ptL ((Pt.mk x1 p.Y p.Z x2))) rfl) Tryz.underlying36 rfl info_point)
   trivial
  ·intro qa V4 g4 hsz hdf hrest hslots hpt
   obtain ⟨x3, hx3⟩ : ∃ x : Pt, x = (Pt.mk x1 p.Y p.Z x2) := ⟨_, rfl⟩
   obtain rfl := Fg.frame_by [11] (vs := [p.v, Value.pointer (some ⟨w0.heap.size, 0, none⟩), Value.pointer (some ⟨w0.heap.size + 1, 0, none⟩), u3, u4, x1.v, u6, u7, x2.v, Value.pointer (some ⟨w0.heap.size, 0, none⟩), Value.pointer (some ⟨w0.heap.size, 15, none⟩), x3.v]) hsz hrest (by kernel_rfl) rfl rfl ⟨(show qa.tmps.getD 11 undef = x3.v by rw [hx3]; exact hslots 11 (by kernel_rfl)), trivial⟩ hdf
   clear hsz hdf hrest hslots hpt
   have Hx3 := Lib.hid hx3; clear hx3
   replace hP := hP.gn g4
   replace hR := hR.gn g4
   replace G := gb_trans G g4
   replace HT := HT.grown g4
   clear g4
   refine Fg.wpl_skip rfl rfl (Fg.run_store (cs := ptL x3) rfl rfl rfl (hR.there 0 20 (by show 0 + 20 ≤ 20; decide)) info_point (ptL_one _)) ?_
   replace hP := hP.setCells_other (C := (w0.heap.size + 1)) (cs := ptL x3) 0 (by omega)
   replace hR : Blk (V4.setCells (w0.heap.size + 1) 0 (ptL x3)) (w0.heap.size + 1) 36 (ptL x3) := hR.setAll rfl
   replace G := gb_setCells_new (cs := ptL x3) G (B := (w0.heap.size + 1)) (by omega) 0
   replace HT := HT.keep (gb_setCells (cs := ptL x3) (gb_refl _ (some (w0.heap.size + 1))) 0) (HT0.noG (by omega))
   revert hP hR G HT
   generalize V4.setCells (w0.heap.size + 1) 0 (ptL x3) = W5
   intro hP hR G HT
   go_wp2_with fail
   exact bodyPost_ret (v := x3.v) (results_cell_row Tryz.results22 _ _ (w0.heap.size + 1) 36 (ptL x3).toArray (0, 0) _ rfl hR Tryz.underlying36 rfl info_point) rfl ⟨_, by rw [Hx3.out]; rw [Hx1.out, Hx2.out]; exact negIs hp, rfl, G⟩
end
section
open Go.RowKit Ed
set_option maxRecDepth 100000 in
theorem slice_ptsG (PB n lo : Nat) (h : lo ≤ n) : ∃ a', (∀ w, (Instr.slice 115 (.slice (some ⟨PB, 0, none⟩) n n) (some (.int .i64 (lo : Int))) none none).run Tryz.prog w = .ok (.slice a' (n - lo) (n - lo)) w) ∧ (lo < n → a' = some ⟨PB, lo * 20, none⟩) := by
 obtain ⟨j, hj, hs⟩ : ∃ j, Tryz.prog.info? (Tryz.prog.elem 115) = some j ∧ j.size = 20 := by
  have h1 : (Tryz.prog.info? (Tryz.prog.elem 115)).map (·.size) = some 20 := by kernel_rfl
  cases hq : Tryz.prog.info? (Tryz.prog.elem 115) with
  | none => rw [hq] at h1; cases h1
  | some j => rw [hq] at h1; exact ⟨j, rfl, by simpa using h1⟩
 refine ⟨if n = lo then some ⟨PB, 0, none⟩ else (some (⟨PB, 0, none⟩ : Addr)).map (·.add (lo * 20)), fun w => ?_, ?_⟩
 ·rw [run_slice_l w 115 (some ⟨PB, 0, none⟩) n n Tryz.underlying115 .i64 _ (by omega) (by omega), Int.toNat_natCast]
  simp [sizeOf, typeInfo, hj, hs, sliced]
 ·intro hlt
  rw [if_neg (by omega)]
  simp [Addr.add]
  omega
theorem slice_pts (PB n : Nat) (h : 1 ≤ n) : ∃ a', (∀ w, (Instr.slice 115 (.slice (some ⟨PB, 0, none⟩) n n) (some (.int .i64 1)) none none).run Tryz.prog w = .ok (.slice a' (n - 1) (n - 1)) w) ∧ (1 < n → a' = some ⟨PB, 20, none⟩) := slice_ptsG PB n 1 h
def sumPr : List Pr → Pr
 | [] => zero
 | p :: r => r.foldl Ed.add p
theorem sumPr_snoc (p : Pr) (r : List Pr) (x : Pr) : sumPr ((p :: r) ++ [x]) = Ed.add (sumPr (p :: r)) x := by simp [sumPr]
def PtsAre (L : List Pt) (ps : List Pr) : Prop := L.length = ps.length ∧ ∀ i, i < L.length → PtIs (L.getD i zeroP) (ps.getD i zero)
theorem ptsL_length (L : List Pt) : (ptsL L).length = 20 * L.length := by
 induction L with
 | nil => rfl
 | cons x r ih => simp only [ptsL, List.flatMap_cons, List.length_append, List.length_cons] at *; rw [ih]; show 20 + _ = _; omega
theorem ptsL_range (L : List Pt) (k : Nat) (hk : k < L.length) (V : List Value) : ((ptsL L ++ V).drop (20 * k)).take 20 = ptL (L.getD k zeroP) := by
 induction L generalizing k with
 | nil => simp at hk
 | cons x r ih =>
  cases k with
  | zero =>
   show ((ptL x ++ ptsL r ++ V).drop 0).take 20 = ptL x
   rw [List.drop_zero, List.append_assoc, List.take_append_of_le_length (by show 20 ≤ 20; omega)]
   exact List.take_of_length_le (by show 20 ≤ 20; omega)
  | succ k =>
   have hx : (ptL x).length = 20 := rfl
   show ((ptL x ++ ptsL r ++ V).drop (20 * (k + 1))).take 20 = ptL (r.getD k zeroP)
   rw [List.append_assoc, List.drop_append, List.drop_eq_nil_of_le (by rw [hx]; omega), List.nil_append, hx, show 20 * (k + 1) - 20 = 20 * k by omega]
   exact ih k (by simpa using hk)
theorem pts_at {w : World} {PB : Nat} {T : TypeId} {L : List Pt} {V : List Value} (h : Blk w PB T (ptsL L ++ V)) (k : Nat) (hk : k < L.length) : w.rangeAt PB (20 * k) (ptL (L.getD k zeroP)) := by
 refine h.range (20 * k) _ ?_
 show List.take 20 _ = _
 exact ptsL_range L k hk V
theorem take_pr (ps : List Pr) (k : Nat) (h : k < ps.length) : ps.take (k + 1) = ps.take k ++ [ps.getD k zero] := by
 rw [List.take_succ_eq_append_getElem h, List.getD_eq_getElem?_getD, List.getElem?_eq_getElem h]; rfl
theorem sumPr_take (ps : List Pr) (k : Nat) (h : k + 1 < ps.length) : sumPr (ps.take (k + 1) ++ [ps.getD (k + 1) zero]) = Ed.add (sumPr (ps.take (k + 1))) (ps.getD (k + 1) zero) := by
 cases ps with
 | nil => simp at h
 | cons p r => rw [List.take_succ_cons]; exact sumPr_snoc p _ _
set_option maxRecDepth 100000 in
set_option maxHeartbeats 6400000 in
theorem edAdd (PB n : Nat) (L : List Pt) (ps : List Pr) (V : List Value) (w0 : World) (HT0 : ETab w0) (hn : L.length = n) (h1 : 1 ≤ n) (hn2 : n ≤ 1000) (hI : PtsAre L ps) (hP : Blk w0 PB 36 (ptsL L ++ V)) :
  Calls Tryz.prog 93 #[.slice (some ⟨PB, 0, none⟩) n n] w0 (PtOut (sumPr ps) w0) := by
 have hPB := hP.lt
 have HP : Hid (∀ k, k < L.length → w0.rangeAt PB (20 * k) (ptL (L.getD k zeroP))) := Lib.hid (fun k hk => pts_at hP k hk)
 have hps : ps.length = n := hI.1.symm.trans hn
 have HI := Lib.hid hI; clear hI hP
 obtain ⟨a', ha1, ha2⟩ := slice_pts PB n h1
 have HA1 := Lib.hid (And.intro ha1 ha2); clear ha1 ha2
 have h1' : 0 < n := by omega
 have h2 : ((n : Int) == 0) = false := by simpa using (show ¬ (n : Int) = 0 by omega)
 go_enter Tryz.func93, Tryz.ntmps93
 go_upto_region 3 with (fail)
 have G : w0.grownBy (w0.alloc (.cells zr20.toArray 36)) none := gb_alloc (gb_refl _ _) _
 have HT : ETab (w0.alloc (.cells zr20.toArray 36)) := HT0.grown (gb_alloc (gb_refl _ _) _)
 have hR : Blk (w0.alloc (.cells zr20.toArray 36)) (w0.heap.size) 36 zr20 := Blk.new w0 zr20 _
 revert G HT hR
 generalize w0.alloc (.cells zr20.toArray 36) = W0
 intro G HT hR
 have Gs := G.size
 have HPW : Hid (∀ k, k < L.length → W0.rangeAt PB (20 * k) (ptL (L.getD k zeroP))) := Lib.hid (fun k hk => rangeAt_grown (HP.out k hk) G hPB (by simp))
 have hPB0 : PB < W0.heap.size := Nat.lt_of_lt_of_le hPB Gs
 
 have Gs0 := G.size
 have l1hR := hR.lt
 refine Fg.rP [3] [.any, .any, .any, .fresh 119 zr30 W0.heap.size, .any, .any, .any, .any, .any, .any, .val (Value.slice (some ⟨PB, 0, none⟩) n n), .val (Value.pointer (some ⟨PB, 0, none⟩)), .val (((L.getD 0 zeroP)).v), .val ((sumF ((L.getD 0 zeroP))).v)] 5 ?_ ?_
 ·refine Fg.vS rfl (by decide) (fun ac w h => ?_) ?_
  ·have e0 : _ = Value.slice (some ⟨PB, 0, none⟩) n n := h.r 0
   exact Fg.vn (Value.slice (some ⟨PB, 0, none⟩) n n) (Fg.run_move rfl e0)
  refine Fg.vS rfl (by decide) (fun ac w h => ?_) ?_
  ·have e10 : _ = Value.slice (some ⟨PB, 0, none⟩) n n := h.d 10
   refine ⟨wants_none rfl, Value.pointer (some ⟨PB, 0, none⟩), w, ?_, gb_refl _ _, rfl⟩
   clear h
   simp only [execOp, Act.eval, e10]
   go_simp
  refine Fg.vS rfl (by decide) (fun ac w h => ?_) ?_
  ·have e11 : _ = Value.pointer (some ⟨PB, 0, none⟩) := h.d 11
   exact Fg.vn (((L.getD 0 zeroP)).v) (Fg.run_load rfl e11 (rangeAt_grown (HPW.out 0 (by omega)) h.base hPB0 (by simp)) Tryz.underlying36 rfl info_point)
  refine Fg.cS rfl (by decide) (fun ac w h => ?_) ?_
  ·have e12 : _ = ((L.getD 0 zeroP)).v := h.d 12
   refine ⟨wants_none rfl, 65, #[((L.getD 0 zeroP)).v], Fg.run_call rfl rfl (by simp only [List.map_toArray, List.map_cons, List.map_nil, Act.eval, e12]) (Fg.run_enter Tryz.func65 (by kernel_rfl) (by kernel_rfl)), ?_⟩
   exact (sumOf_any _ _).mono fun _ _ ⟨he, hg⟩ => ⟨_, he, hg, rfl⟩
  refine ⟨⟨⟨_, rfl⟩, Fg.allocP (fun _ _ h k => gb_trans h k) rfl (by show 3 < 26; decide) fun ac w h => ?_⟩, ?_⟩
  ·refine ⟨wants_none rfl, w.alloc (.cells zr30.toArray 119), ?_, World.grownBy_alloc _ _ _, by simp, ⟨w.heap.size, rfl, h.base.size, Blk.new w zr30 _⟩⟩
   clear h
   go_simp
  trivial
 ·intro qa V1 g1 hsz hdf hrest hslots hpt
  obtain ⟨u1, hs1⟩ := Fg.slotv qa 1
  obtain ⟨N3, hs3, hn3, hb3⟩ : ∃ N, qa.tmps.getD 3 undef = .pointer (some ⟨N, 0, none⟩) ∧ W0.heap.size ≤ N ∧ Blk V1 N 119 zr30 := hslots 3 (by kernel_rfl)
  obtain ⟨⟨u4, hs4⟩, ⟨u6, hs6⟩, ⟨u7, hs7⟩, ⟨u8, hs8⟩, ⟨u9, hs9⟩, ⟨u10, hs10⟩, ⟨u11, hs11⟩, ⟨u12, hs12⟩, _⟩ := Fg.slotvs qa [4, 6, 7, 8, 9, 10, 11, 12]
  obtain ⟨x1, hx1⟩ : ∃ x : Sm, x = sumF ((L.getD 0 zeroP)) := ⟨_, rfl⟩
  obtain ⟨⟨u14, hs14⟩, ⟨u15, hs15⟩, ⟨u16, hs16⟩, ⟨u17, hs17⟩, ⟨u18, hs18⟩, ⟨u19, hs19⟩, ⟨u20, hs20⟩, ⟨u21, hs21⟩, ⟨u22, hs22⟩, ⟨u23, hs23⟩, ⟨u24, hs24⟩, ⟨u25, hs25⟩, _⟩ := Fg.slotvs qa [14, 15, 16, 17, 18, 19, 20, 21, 22, 23, 24, 25]
  obtain rfl := Fg.frame_is (a := qa) (vs := [Value.slice (some ⟨PB, 0, none⟩) n n, u1, Value.pointer (some ⟨w0.heap.size, 0, none⟩), Value.pointer (some ⟨N3, 0, none⟩), u4, undef, u6, u7, u8, u9, u10, u11, u12, x1.v, u14, u15, u16, u17, u18, u19, u20, u21, u22, u23, u24, u25]) hsz ⟨hrest 0 (by kernel_rfl), hs1, hrest 2 (by kernel_rfl), hs3, hs4, hrest 5 (by kernel_rfl), hs6, hs7, hs8, hs9, hs10, hs11, hs12, (show qa.tmps.getD 13 undef = x1.v by rw [hx1]; exact hslots 13 (by kernel_rfl)), hs14, hs15, hs16, hs17, hs18, hs19, hs20, hs21, hs22, hs23, hs24, hs25, trivial⟩ hdf
  clear hsz hdf hrest hslots hpt hs1 hs3 hs4 hs6 hs7 hs8 hs9 hs10 hs11 hs12 hs14 hs15 hs16 hs17 hs18 hs19 hs20 hs21 hs22 hs23 hs24 hs25
  have Hx1 := Lib.hid hx1; clear hx1
  replace hR := hR.gn g1
  replace G := gb_trans G g1
  replace HT := HT.grown g1
  have hw3 : w0.heap.size ≤ N3 := Nat.le_trans Gs0 hn3
  clear g1
  refine Fg.wpl_skip rfl rfl (Fg.run_store (cs := smL x1) rfl rfl rfl (hb3.there 0 30 (by show 0 + 30 ≤ 30; decide)) info_sum (smL_one _)) ?_
  replace hR := hR.setCells_other (C := N3) (cs := smL x1) 0 (by omega)
  replace hb3 : Blk (V1.setCells N3 0 (smL x1)) N3 119 (smL x1) := hb3.setAll rfl
  replace G := gb_setCells_new (cs := smL x1) G (B := N3) (hw3) 0
  replace HT := HT.keep (gb_setCells (cs := smL x1) (gb_refl _ (some N3)) 0) (HT0.noG (hw3))
  revert hR hb3 G HT
  generalize V1.setCells N3 0 (smL x1) = W2
  intro hR hb3 G HT
  have l2hR := hR.lt
  have l2hb3 := hb3.lt
  clear h2
  have hs0 : SmIs x1 (sumPr (ps.take 1)) := by
   rw [Hx1.out]
   have h0 := HI.out.2 0 (by omega)
   have e : sumPr (ps.take 1) = ps.getD 0 zero := by
    cases ps with
    | nil => simp at hps; omega
    | cons p r => rfl
   rw [e]
   exact sumIs h0
  have hrun := HA1.out.1
  have HS := Lib.hid (And.intro hs0 (And.intro hb3 (And.intro hR (And.intro G HT)))); clear hs0 hb3 hR G HT
  obtain ⟨m, hm⟩ : ∃ m, m = n - 1 := ⟨_, rfl⟩
  rw [← hm] at hrun
  have hm1 : m + 1 = n := by omega
  have HM := Lib.hid hm; clear hm
  go_wp2
  clear hrun
  go_loopw [5, 17] (fun v5 i wr => ∃ k : Nat, k + 1 ≤ n ∧ i = .int .i64 k ∧ w0.grownBy wr none ∧ ETab wr ∧ Hid (Fg.ApartV [v5] wr) ∧ Blk wr w0.heap.size 36 zr20 ∧ ∃ s', SmIs s' (sumPr (ps.take (k + 1))) ∧ Blk wr N3 119 (smL s')) (fun _ i _ => n - (intOf i).toNat)
  case atStart => exact ⟨0, by omega, rfl, HS.out.2.2.2.1, HS.out.2.2.2.2, Lib.hid (Fg.apart_undef _ _ rfl), HS.out.2.2.1, _, HS.out.1, HS.out.2.1⟩
  case round =>
   clear HS
   obtain ⟨k, hk, rfl, G, HT, HA, hR, s', hs', hb3⟩ := hrel
   by_cases hkn : k < m
   ·have i0 : (k : Int) < m := by omega
    obtain rfl := HA1.out.2 (by omega)
    have hz : wr.heap.size ≤ wr.heap.size := Nat.le_refl _
    have hwr := G.size
    have HPR : Hid (wr.rangeAt PB (20 * (k + 1)) (ptL (L.getD (k + 1) zeroP))) := Lib.hid (rangeAt_grown (HP.out (k + 1) (by omega)) G hPB (by simp))
    have hPBr : PB < wr.heap.size := Nat.lt_of_lt_of_le hPB hwr
    go_upto_region 6 with (fail)
    have Gs0 := G.size
    have l1hb3 := hb3.lt
    have l1hR := hR.lt
    refine Fg.wp_region_plain (ps := [5]) [.any, .any, .any, .any, .any, .fresh 36 zr20 wr.heap.size, .any, .any, .any, .any, .any, .any, .any, .any, .any, .any, .any, .any, .any, .val (Value.pointer (some ⟨PB, 20 + k * 20, none⟩)), .val (((L.getD (k + 1) zeroP)).v)] (fun w => World.grownBy wr w none) 3 (gb_refl _ _) (by kernel_rfl) (by kernel_rfl) (by decide) (Fg.ptrs_of (l := [u5]) rfl HA.out) ?_ ?_
    ·refine Fg.vS rfl (by decide) (fun ac w h => ?_) ?_
     ·have e15 : _ = Value.slice (some ⟨PB, 20, none⟩) m m := h.r 15
      have e17 : _ = Value.int .i64 (k : Int) := h.r 17
      refine ⟨wants_none rfl, Value.pointer (some ⟨PB, 20 + k * 20, none⟩), w, ?_, gb_refl _ _, rfl⟩
      clear h
      simp only [execOp, Act.eval, e15, e17]
      go_simp
     refine Fg.vS rfl (by decide) (fun ac w h => ?_) ?_
     ·have e19 : _ = Value.pointer (some ⟨PB, 20 + k * 20, none⟩) := h.d 19
      exact Fg.vn (((L.getD (k + 1) zeroP)).v) (Fg.run_load rfl e19 ((by rw [show 20 + k * 20 = 20 * (k + 1) by omega]; exact rangeAt_grown HPR.out h.base hPBr (by simp))) Tryz.underlying36 rfl info_point)
     refine ⟨⟨⟨_, rfl⟩, Fg.allocP (fun _ _ h k => gb_trans h k) rfl (by show 5 < 26; decide) fun ac w h => ?_⟩, ?_⟩
     ·refine ⟨wants_none rfl, w.alloc (.cells zr20.toArray 36), ?_, World.grownBy_alloc _ _ _, by simp, ⟨w.heap.size, rfl, h.base.size, Blk.new w zr20 _⟩⟩
      clear h
      go_simp
     trivial
    ·intro qa V1 g1 hsz hdf hrest hslots hpt
     obtain ⟨N5, hs5, hn5, hb5⟩ : ∃ N, qa.tmps.getD 5 undef = .pointer (some ⟨N, 0, none⟩) ∧ wr.heap.size ≤ N ∧ Blk V1 N 36 zr20 := hslots 5 (by kernel_rfl)
     obtain ⟨u19, hs19⟩ := Fg.slotv qa 19
     obtain ⟨x11, hx11⟩ : ∃ x : Pt, x = (L.getD (k + 1) zeroP) := ⟨_, rfl⟩
     obtain rfl := Fg.frame_by [5, 19, 20] (vs := [Value.slice (some ⟨PB, 0, none⟩) n n, u1, Value.pointer (some ⟨w0.heap.size, 0, none⟩), Value.pointer (some ⟨N3, 0, none⟩), u4, Value.pointer (some ⟨N5, 0, none⟩), u6, u7, u8, u9, u10, u11, u12, x1.v, Value.slice (some ⟨PB, 0, none⟩) n n, Value.slice (some ⟨PB, 20, none⟩) m m, Value.int .i64 (m : Int), Value.int .i64 (k : Int), Value.bool true, u19, x11.v, u21, u22, u23, u24, u25]) hsz hrest (by kernel_rfl) rfl rfl ⟨hs5, hs19, (show qa.tmps.getD 20 undef = x11.v by rw [hx11]; exact hslots 20 (by kernel_rfl)), trivial⟩ hdf
     clear hsz hdf hrest hslots hpt hs5 hs19
     have Hx11 := Lib.hid hx11; clear hx11
     replace hb3 := hb3.gn g1
     replace hR := hR.gn g1
     replace G := gb_trans G g1
     replace HT := HT.grown g1
     replace hz := Nat.le_trans hz g1.size
     have hw5 : w0.heap.size ≤ N5 := Nat.le_trans Gs0 hn5
     clear g1
     refine Fg.wpl_skip rfl rfl (Fg.run_store (cs := ptL x11) rfl rfl rfl (hb5.there 0 20 (by show 0 + 20 ≤ 20; decide)) info_point (ptL_one _)) ?_
     replace hb3 := hb3.setCells_other (C := N5) (cs := ptL x11) 0 (by omega)
     replace hR := hR.setCells_other (C := N5) (cs := ptL x11) 0 (by omega)
     replace hb5 : Blk (V1.setCells N5 0 (ptL x11)) N5 36 (ptL x11) := hb5.setAll rfl
     replace hz := Nat.le_trans hz (gb_setCells (cs := ptL x11) (gb_refl V1 (some N5)) 0).size
     replace G := gb_setCells_new (cs := ptL x11) G (B := N5) (hw5) 0
     replace HT := HT.keep (gb_setCells (cs := ptL x11) (gb_refl _ (some N5)) 0) (HT0.noG (hw5))
     revert hb3 hR hb5 hz G HT
     generalize V1.setCells N5 0 (ptL x11) = W2
     intro hb3 hR hb5 hz G HT
     have hpt5 : PtIs x11 (ps.getD (k + 1) zero) := by rw [Hx11.out]; exact HI.out.2 (k + 1) (by omega)
     have ok5 := hpt5.ok
     go_upto_region 7 with (fail)
     have Gs2 := G.size
     have l2hb3 := hb3.lt
     have l2hR := hR.lt
     have l2hb5 := hb5.lt
     refine Fg.rP [] [.any, .any, .any, .any, .any, .any, .any, .any, .any, .any, .any, .any, .any, .any, .any, .any, .any, .any, .any, .any, .any, .val (x11.v), .val ((adF x11).v)] 2 ?_ ?_
     ·refine Fg.vS rfl (by decide) (fun ac w h => ?_) ?_
      ·have e5 : _ = Value.pointer (some ⟨N5, 0, none⟩) := h.r 5
       exact Fg.vn x11.v (Fg.run_load rfl e5 ((hb5.gn h.base).range 0 (ptL x11) rfl) Tryz.underlying36 rfl info_point)
      refine Fg.cS rfl (by decide) (fun ac w h => ?_) ?_
      ·have e21 : _ = x11.v := h.d 21
       refine ⟨wants_none rfl, 94, #[x11.v], Fg.run_call rfl rfl (by simp only [List.map_toArray, List.map_cons, List.map_nil, Act.eval, e21]) (Fg.run_enter Tryz.func94 (by kernel_rfl) (by kernel_rfl)), ?_⟩
       exact (addendOf_any x11 _ (HT.grown h.base) ok5).mono fun _ _ ⟨he, hg⟩ => ⟨_, he, hg, rfl⟩
      trivial
     ·intro qa V3 g3 hsz hdf hrest hslots hpt
      obtain ⟨u21, hs21⟩ := Fg.slotv qa 21
      obtain ⟨x12, hx12⟩ : ∃ x : Ad, x = adF x11 := ⟨_, rfl⟩
      obtain rfl := Fg.frame_by [21, 22] (vs := [Value.slice (some ⟨PB, 0, none⟩) n n, u1, Value.pointer (some ⟨w0.heap.size, 0, none⟩), Value.pointer (some ⟨N3, 0, none⟩), u4, Value.pointer (some ⟨N5, 0, none⟩), u6, u7, u8, u9, u10, u11, u12, x1.v, Value.slice (some ⟨PB, 0, none⟩) n n, Value.slice (some ⟨PB, 20, none⟩) m m, Value.int .i64 (m : Int), Value.int .i64 (k : Int), Value.bool true, u19, x11.v, u21, x12.v, u23, u24, u25]) hsz hrest (by kernel_rfl) rfl rfl ⟨hs21, (show qa.tmps.getD 22 undef = x12.v by rw [hx12]; exact hslots 22 (by kernel_rfl)), trivial⟩ hdf
      clear hsz hdf hrest hslots hpt hs21
      have Hx12 := Lib.hid hx12; clear hx12
      replace hb3 := hb3.gn g3
      replace hR := hR.gn g3
      replace hb5 := hb5.gn g3
      replace G := gb_trans G g3
      replace HT := HT.grown g3
      replace hz := Nat.le_trans hz g3.size
      clear g3
      have l3hb3 := hb3.lt
      have l3hR := hR.lt
      have l3hb5 := hb5.lt
      refine Fg.wpl_call rfl (Fg.run_call (vs := #[Value.pointer (some ⟨N3, 0, none⟩), x12.v]) rfl rfl (by simp only [List.map_toArray, List.map_cons, List.map_nil, Act.eval]; rfl) (Fg.run_enter Tryz.func68 (by kernel_rfl) (by kernel_rfl))) ?_
      refine (sadd_any N3 s' x12 _ _ _ HT (HT0.noG hw3) hb3 hs' (by rw [Hx12.out]; exact adIs hpt5)).mono ?_
      rintro e C7 ⟨rfl, gc, s9, hs9, hc⟩
      refine ⟨_, rfl, ?_⟩
      replace G := gb_then G gc hw3
      replace HT := HT.keep gc (HT0.noG hw3)
      replace hR := hR.grown gc (some_ne (by omega))
      have z9 := gc.size
      have HA9 := Lib.hid (Fg.apart_one (N := N5) (w := C7) (by omega))
      have hs10 : SmIs s9 (sumPr (ps.take (k + 1 + 1))) := by rw [take_pr ps (k + 1) (by omega), sumPr_take ps k (by omega)]; exact hs9
      have H9 := Lib.hid (And.intro hs10 (And.intro hc (And.intro hR (And.intro G HT))))
      clear hs9 hs10 hc hR G HT gc hb5
      clear l1hb3 l1hR l2hb3 l2hR l2hb5 l3hb3 l3hR l3hb5
      go_wp2
      go_roundw
      case rel => exact ⟨k + 1, by omega, by go_num, H9.out.2.2.2.1, H9.out.2.2.2.2, HA9, H9.out.2.2.1, _, H9.out.1, H9.out.2.1⟩
      case measure => simp [intOf]; omega
   ·have hkm : k = m := by omega
    subst hkm
    have hsx : SmIs s' (sumPr ps) := by rw [← List.take_of_length_le (show ps.length ≤ k + 1 by omega)]; exact hs'
    clear hs'
    have hs' := hsx; clear hsx
    have hwr := G.size
    go_upto_region 9 with (fail)
    have Gs0 := G.size
    have l1hb3 := hb3.lt
    have l1hR := hR.lt
    refine Fg.rP [] [] 0 ?_ ?_
    ·trivial
    ·intro qa V1 g1 hsz hdf hrest hslots hpt
     obtain ⟨⟨u0, hs0⟩, ⟨u1, hs1⟩, ⟨u4, hs4⟩, ⟨u5, hs5⟩, ⟨u6, hs6⟩, ⟨u7, hs7⟩, ⟨u8, hs8⟩, ⟨u9, hs9⟩, ⟨u10, hs10⟩, ⟨u11, hs11⟩, ⟨u12, hs12⟩, ⟨u13, hs13⟩, ⟨u14, hs14⟩, ⟨u15, hs15⟩, ⟨u16, hs16⟩, ⟨u17, hs17⟩, ⟨u18, hs18⟩, ⟨u19, hs19⟩, ⟨u20, hs20⟩, ⟨u21, hs21⟩, ⟨u22, hs22⟩, ⟨u23, hs23⟩, ⟨u24, hs24⟩, ⟨u25, hs25⟩, _⟩ := Fg.slotvs qa [0, 1, 4, 5, 6, 7, 8, 9, 10, 11, 12, 13, 14, 15, 16, 17, 18, 19, 20, 21, 22, 23, 24, 25]
     obtain rfl := Fg.frame_is (a := qa) (vs := [u0, u1, Value.pointer (some ⟨w0.heap.size, 0, none⟩), Value.pointer (some ⟨N3, 0, none⟩), u4, u5, u6, u7, u8, u9, u10, u11, u12, u13, u14, u15, u16, u17, u18, u19, u20, u21, u22, u23, u24, u25]) hsz ⟨hs0, hs1, hrest 2 (by kernel_rfl), hrest 3 (by kernel_rfl), hs4, hs5, hs6, hs7, hs8, hs9, hs10, hs11, hs12, hs13, hs14, hs15, hs16, hs17, hs18, hs19, hs20, hs21, hs22, hs23, hs24, hs25, trivial⟩ hdf
     clear hsz hdf hrest hslots hpt hs0 hs1 hs4 hs5 hs6 hs7 hs8 hs9 hs10 hs11 hs12 hs13 hs14 hs15 hs16 hs17 hs18 hs19 hs20 hs21 hs22 hs23 hs24 hs25
     replace hb3 := hb3.gn g1
     replace hR := hR.gn g1
     replace G := gb_trans G g1
     replace HT := HT.grown g1
     clear g1
     have l2hb3 := hb3.lt
     have l2hR := hR.lt
     refine Fg.wpl_call rfl (Fg.run_call (vs := #[Value.pointer (some ⟨N3, 0, none⟩)]) rfl rfl (by simp only [List.map_toArray, List.map_cons, List.map_nil, Act.eval]; rfl) (Fg.run_enter Tryz.func69 (by kernel_rfl) (by kernel_rfl))) ?_
     refine (point_any N3 s' _ hb3 hs'.ok).mono ?_
     rintro e C9 ⟨rfl, gc, hc⟩
     refine ⟨_, rfl, ?_⟩
     replace hR := hR.grown gc (some_ne (by omega))
     replace hb3 := hc
     replace G := gb_then G gc (hw3)
     replace HT := HT.keep gc (HT0.noG (hw3))
     clear gc
     obtain ⟨t9, ht9⟩ : ∃ t, t = pointF s' := ⟨_, rfl⟩
     rw [← ht9]
     have Ht9 := Lib.hid ht9; clear ht9
     refine Fg.wpl_skip rfl rfl (Fg.run_store (cs := ptL t9) rfl rfl rfl (hR.there 0 20 (by show 0 + 20 ≤ 20; decide)) info_point (ptL_one _)) ?_
     replace hb3 := hb3.setCells_other (C := w0.heap.size) (cs := ptL t9) 0 (by omega)
     replace hR : Blk (C9.setCells w0.heap.size 0 (ptL t9)) w0.heap.size 36 (ptL t9) := hR.setAll rfl
     replace G := gb_setCells_new (cs := ptL t9) G (B := w0.heap.size) (by omega) 0
     replace HT := HT.keep (gb_setCells (cs := ptL t9) (gb_refl _ (some w0.heap.size)) 0) (HT0.noG (by omega))
     revert hb3 hR G HT
     generalize C9.setCells w0.heap.size 0 (ptL t9) = W2
     intro hb3 hR G HT
     go_wp2_with fail
     exact bodyPost_ret (v := t9.v) (results_cell_row Tryz.results93 _ _ w0.heap.size 36 (ptL t9).toArray (0, 0) _ rfl hR Tryz.underlying36 rfl info_point) rfl ⟨t9, by rw [Ht9.out]; exact pointIs hs', rfl, G⟩
end
section
open Go.RowKit Ow Ed
def Pile (w : World) (B : Nat) (T : TypeId) (L : List Value) : Prop := ∃ rest : List Value, L.length + rest.length = 320 ∧ Blk w B T (L ++ rest)
theorem Pile.grown {w w' : World} {B : Nat} {T : TypeId} {L : List Value} {row : Option Nat} (h : Pile w B T L) (hg : w.grownBy w' row) (hr : some B ≠ row) : Pile w' B T L := by
 obtain ⟨r, hl, hb⟩ := h
 exact ⟨r, hl, hb.grown hg hr⟩
theorem Pile.lt {w : World} {B : Nat} {T : TypeId} {L : List Value} (h : Pile w B T L) : B < w.heap.size := by
 obtain ⟨r, hl, hb⟩ := h
 exact hb.lt
theorem Pile.setCells_other {w : World} {B C : Nat} {T : TypeId} {L cs : List Value} (h : Pile w B T L) (o : Nat) (hne : C ≠ B) : Pile (w.setCells C o cs) B T L := by
 obtain ⟨r, hl, hb⟩ := h
 exact ⟨r, hl, hb.setCells_other o hne⟩
theorem Pile.pts {w : World} {B : Nat} {T : TypeId} {L : List Pt} (h : Pile w B T (ptsL L)) (k : Nat) (hk : k < L.length) : w.rangeAt B (20 * k) (ptL (L.getD k zeroP)) := by
 obtain ⟨r, _, hb⟩ := h
 exact pts_at hb k hk
set_option maxRecDepth 100000 in
theorem size_point : ∃ i z, Tryz.prog.info? 36 = some i ∧ i.zero = some z ∧ i.size = 20 ∧ i.bytes = 160 ∧ z.cells.size = 20 := by
 have h : (Tryz.prog.info? 36).map (fun i => (i.zero.map (·.cells.size), i.size, i.bytes)) = some (some 20, 20, 160) := by kernel_rfl
 cases hi : Tryz.prog.info? 36 with
 | none => rw [hi] at h; cases h
 | some i =>
  rw [hi] at h
  simp only [Option.map_some, Option.some.injEq, Prod.mk.injEq] at h
  obtain ⟨h1, h2, h3⟩ := h
  cases hz : i.zero with
  | none => rw [hz] at h1; cases h1
  | some z => rw [hz] at h1; exact ⟨i, z, rfl, hz, h2, h3, by simpa using h1⟩
set_option maxRecDepth 100000 in
theorem size_addend : ∃ i z, Tryz.prog.info? 127 = some i ∧ i.zero = some z ∧ i.size = 20 ∧ i.bytes = 160 ∧ z.cells.size = 20 := by
 have h : (Tryz.prog.info? 127).map (fun i => (i.zero.map (·.cells.size), i.size, i.bytes)) = some (some 20, 20, 160) := by kernel_rfl
 cases hi : Tryz.prog.info? 127 with
 | none => rw [hi] at h; cases h
 | some i =>
  rw [hi] at h
  simp only [Option.map_some, Option.some.injEq, Prod.mk.injEq] at h
  obtain ⟨h1, h2, h3⟩ := h
  cases hz : i.zero with
  | none => rw [hz] at h1; cases h1
  | some z => rw [hz] at h1; exact ⟨i, z, rfl, hz, h2, h3, by simpa using h1⟩
theorem made_size (z : Array Value) (n : Nat) : (madeCells z n).size = n := by simp [madeCells]
theorem make_pile (t e : TypeId) (ht : Tryz.prog.underlying t = some (.slice e)) (hi : ∃ i z, Tryz.prog.info? e = some i ∧ i.zero = some z ∧ i.size = 20 ∧ i.bytes = 160 ∧ z.cells.size = 20) (w : World) :
  ∃ w', (Instr.makeSlice t (.int .i64 0) (.int .i64 16)).run Tryz.prog w = .ok (.slice (some ⟨w.heap.size, 0, none⟩) 0 16) w' ∧ w.grownBy w' none ∧ w.heap.size < w'.heap.size ∧ Pile w' w.heap.size e [] := by
 obtain ⟨i, z, hi, hz, hs, hb, _⟩ := hi
 have h2 := run_make (P := Tryz.prog) w t e i z ht hi hz .i64 .i64 0 16 (by omega) (by omega) (by rw [hb]; omega) (by omega)
 refine ⟨_, h2, gb_alloc (gb_refl _ _) _, by simp, (madeCells z.cells ((16 : Int).toNat * i.size)).toList, ?_, ?_⟩
 ·rw [List.length_nil, Array.length_toList, made_size, hs]; rfl
 ·have := Blk.new w (madeCells z.cells ((16 : Int).toNat * i.size)).toList e
  simpa using this
theorem append_pile (t e : TypeId) (ht : Tryz.prog.underlying t = some (.slice e)) (hi : ∃ i z, Tryz.prog.info? e = some i ∧ i.zero = some z ∧ i.size = 20 ∧ i.bytes = 160 ∧ z.cells.size = 20) (w : World) (B N m : Nat) (L x : List Value) (T : TypeId)
  (hP : Pile w B e L) (hL : L.length = 20 * m) (hm : m < 16) (hN : Blk w N T x) (hx : x.length = 20) (h1 : x.all (·.oneCell') = true) :
  ∃ w', (Builtin.append_ #[t, t] t #[.slice (some ⟨B, 0, none⟩) m 16, .slice (some ⟨N, 0, none⟩) 1 1]).run Tryz.prog w = .ok (.slice (some ⟨B, 0, none⟩) (m + 1) 16) w' ∧ w.grownBy w' (some B) ∧ Pile w' B e (L ++ x) := by
 obtain ⟨i, z, hi, hz, hs, _, _⟩ := hi
 obtain ⟨r, hl, hb⟩ := hP
 have hr := run_append_room w (P := Tryz.prog) t t e i ht hi B m 16 (L ++ r).toArray hb ⟨N, 0, none⟩ 1 1 x (by rw [hx, hs]) (fun j u hu => by rw [Addr.add_mid, Nat.zero_add]; exact hN.cell hu) (fun u hu => (List.all_eq_true.1 h1) u hu) (by omega) (by simp; rw [hs, hx]; omega)
 refine ⟨_, hr, gb_setRow' (gb_refl _ _) _, r.drop 20, ?_, ?_⟩
 ·rw [List.length_append, List.length_drop, hx]; omega
 ·have e1 : ((L ++ r).toArray.toList.take (m * i.size) ++ x ++ (L ++ r).toArray.toList.drop (m * i.size + x.length)) = (L ++ x) ++ r.drop 20 := by
   have em : m * i.size = L.length := by rw [hs, hL]; omega
   rw [em, hx]
   show (L ++ r).take L.length ++ x ++ (L ++ r).drop (L.length + 20) = _
   rw [List.take_left, List.drop_append]
   simp
  rw [e1]
  exact hb.row _
theorem pow_16 (k : Nat) (h : k < 4) : 2 ^ k + 2 ^ k ≤ 16 := by
 obtain rfl | rfl | rfl | rfl : k = 0 ∨ k = 1 ∨ k = 2 ∨ k = 3 := by omega
 all_goals decide
theorem getD_app {α : Type} (a b : List α) (d : α) (i : Nat) (h : i < a.length) : (a ++ b).getD i d = a.getD i d := by
 rw [List.getD_eq_getElem?_getD, List.getElem?_append_left h, ← List.getD_eq_getElem?_getD]
def chs (ps : List Pr) : List Pr := ps.foldl (fun L p => L ++ L.map fun s => Ed.add s p) [zero]
theorem chs_snoc (ps : List Pr) (p : Pr) : chs (ps ++ [p]) = chs ps ++ (chs ps).map fun s => Ed.add s p := by simp [chs]
theorem chs_length (ps : List Pr) : (chs ps).length = 2 ^ ps.length := by
 have gen : ∀ (ps L : List Pr), (ps.foldl (fun L p => L ++ L.map fun s => Ed.add s p) L).length = L.length * 2 ^ ps.length := by
  intro ps
  induction ps with
  | nil => intro L; simp
  | cons p r ih =>
   intro L
   rw [List.foldl_cons, ih, List.length_append, List.length_map, List.length_cons, Nat.pow_succ]
   rw [← Nat.mul_two, Nat.mul_assoc, Nat.mul_comm 2]
 have := gen ps [zero]
 simpa [chs] using this
theorem ptsAre_snoc {L : List Pt} {ps : List Pr} {t : Pt} {p : Pr} (h : PtsAre L ps) (ht : PtIs t p) : PtsAre (L ++ [t]) (ps ++ [p]) := by
 refine ⟨by simp [h.1], fun i hi => ?_⟩
 by_cases hlt : i < L.length
 ·rw [List.getD_eq_getElem?_getD, List.getD_eq_getElem?_getD, List.getElem?_append_left hlt, List.getElem?_append_left (h.1 ▸ hlt), ← List.getD_eq_getElem?_getD, ← List.getD_eq_getElem?_getD]
  exact h.2 i hlt
 ·have hi2 : i = L.length := by simp at hi; omega
  subst hi2
  rw [List.getD_eq_getElem?_getD, List.getD_eq_getElem?_getD, List.getElem?_append_right (Nat.le_refl _), List.getElem?_append_right (by rw [h.1]; omega)]
  simpa [h.1] using ht
theorem ptsL_snoc (L : List Pt) (t : Pt) : ptsL (L ++ [t]) = ptsL L ++ ptL t := by simp [ptsL]
def AdsAre (L : List Ad) (ps : List Pr) : Prop := L.length = ps.length ∧ ∀ i, i < L.length → AdIs (L.getD i (adF zeroP)) (ps.getD i zero)
theorem adsAre_snoc {L : List Ad} {ps : List Pr} {t : Ad} {p : Pr} (h : AdsAre L ps) (ht : AdIs t p) : AdsAre (L ++ [t]) (ps ++ [p]) := by
 refine ⟨by simp [h.1], fun i hi => ?_⟩
 by_cases hlt : i < L.length
 ·rw [List.getD_eq_getElem?_getD, List.getD_eq_getElem?_getD, List.getElem?_append_left hlt, List.getElem?_append_left (h.1 ▸ hlt), ← List.getD_eq_getElem?_getD, ← List.getD_eq_getElem?_getD]
  exact h.2 i hlt
 ·have hi2 : i = L.length := by simp at hi; omega
  subst hi2
  rw [List.getD_eq_getElem?_getD, List.getD_eq_getElem?_getD, List.getElem?_append_right (Nat.le_refl _), List.getElem?_append_right (by rw [h.1]; omega)]
  simpa [h.1] using ht
theorem adsL_snoc (L : List Ad) (t : Ad) : adsL (L ++ [t]) = adsL L ++ adL t := by simp [adsL]
theorem adsL_length (L : List Ad) : (adsL L).length = 20 * L.length := by
 induction L with
 | nil => rfl
 | cons x r ih => simp only [adsL, List.flatMap_cons, List.length_append, List.length_cons] at *; rw [ih]; show 20 + _ = _; omega
theorem adsL_range (L : List Ad) (k : Nat) (hk : k < L.length) (V : List Value) : ((adsL L ++ V).drop (20 * k)).take 20 = adL (L.getD k (adF zeroP)) := by
 induction L generalizing k with
 | nil => simp at hk
 | cons x r ih =>
  cases k with
  | zero =>
   show ((adL x ++ adsL r ++ V).drop 0).take 20 = adL x
   rw [List.drop_zero, List.append_assoc, List.take_append_of_le_length (by show 20 ≤ 20; omega)]
   exact List.take_of_length_le (by show 20 ≤ 20; omega)
  | succ k =>
   have hx : (adL x).length = 20 := rfl
   show ((adL x ++ adsL r ++ V).drop (20 * (k + 1))).take 20 = adL (r.getD k (adF zeroP))
   rw [List.append_assoc, List.drop_append, List.drop_eq_nil_of_le (by rw [hx]; omega), List.nil_append, hx, show 20 * (k + 1) - 20 = 20 * k by omega]
   exact ih k (by simpa using hk)
theorem ads_at {w : World} {B : Nat} {T : TypeId} {L : List Ad} {V : List Value} (h : Blk w B T (adsL L ++ V)) (k : Nat) (hk : k < L.length) : w.rangeAt B (20 * k) (adL (L.getD k (adF zeroP))) := by
 refine h.range (20 * k) _ ?_
 show List.take 20 _ = _
 exact adsL_range L k hk V
end
section
open Go.RowKit Ow Ed
set_option maxRecDepth 100000 in
set_option maxHeartbeats 12800000 in
theorem choices_any (PB n : Nat) (P4 : List Pt) (ps : List Pr) (V : List Value) (w0 : World) (HT0 : ETab w0) (hn : P4.length = n) (hn4 : n ≤ 4) (hI : PtsAre P4 ps) (hPP : Blk w0 PB 36 (ptsL P4 ++ V)) :
  Calls Tryz.prog 64 #[.slice (some ⟨PB, 0, none⟩) n n] w0 fun e w' => ∃ (RB m : Nat) (R : List Ad), e = .returned (.slice (some ⟨RB, 0, none⟩) m 16) ∧ m = 2 ^ n ∧ AdsAre R (chs ps) ∧ Pile w' RB 127 (adsL R) ∧ w0.grownBy w' none ∧ w0.heap.size ≤ RB := by
 have hPB := hPP.lt
 have HP : Hid (∀ k, k < P4.length → w0.rangeAt PB (20 * k) (ptL (P4.getD k zeroP))) := Lib.hid (fun k hk => pts_at hPP k hk)
 have hps : ps.length = n := hI.1.symm.trans hn
 have HI := Lib.hid hI; clear hI hPP
 obtain ⟨W1, hmk, G, s1, hP⟩ := make_pile 115 36 Tryz.underlying115 size_point w0
 have HT := HT0.grown G
 have HS1 := Lib.hid (And.intro G (And.intro HT hP)); clear G HT hP
 go_enter Tryz.func64, Tryz.ntmps64
 go_upto_region 2 with (fail)
 obtain ⟨G, HT, hP⟩ := HS1.out
 clear hmk HS1
 
 have Gs0 := G.size
 have l1hP := hP.lt
 refine Fg.rP [] [.any, .any, .any, .any, .any, .any, .any, .any, .any, .any, .any, .any, .val (Value.slice (some ⟨w0.heap.size, 0, none⟩) 0 16), .val (zeroP.v), .row 36 (ptsL [zeroP]) 1 W1.heap.size] 3 ?_ ?_
 ·refine Fg.vS rfl (by decide) (fun ac w h => ?_) ?_
  ·have e3 : _ = Value.slice (some ⟨w0.heap.size, 0, none⟩) 0 16 := h.r 3
   exact Fg.vn (Value.slice (some ⟨w0.heap.size, 0, none⟩) 0 16) (Fg.run_move rfl e3)
  refine Fg.cS rfl (by decide) (fun ac w h => ?_) ?_
  ·refine ⟨wants_none rfl, 51, #[], Fg.run_call rfl rfl (by simp) (Fg.run_enter Tryz.func51 (by kernel_rfl) (by kernel_rfl)), ?_⟩
   exact (edZero _).mono fun _ _ ⟨he, hg⟩ => ⟨_, he, hg, rfl⟩
  refine Fg.vS rfl (by decide) (fun ac w h => ?_) ?_
  ·have e13 : _ = zeroP.v := h.d 13
   exact ⟨wants_none rfl, .slice (some ⟨w.heap.size, 0, none⟩) 1 1, w.alloc (.cells (ptsL [zeroP]).toArray 36), Fg.run_buildSlice (vs := #[(0, zeroP.v)]) rfl (by simp only [List.map_toArray, List.map_cons, List.map_nil, Act.eval, e13]) (by kernel_rfl), World.grownBy_alloc _ _ _, ⟨w.heap.size, rfl, h.base.size, Blk.new w (ptsL [zeroP]) _⟩⟩
  trivial
 ·intro qa V1 g1 hsz hdf hrest hslots hpt
  obtain ⟨⟨u1, hs1⟩, ⟨u2, hs2⟩, ⟨u4, hs4⟩, ⟨u6, hs6⟩, ⟨u8, hs8⟩, ⟨u9, hs9⟩, ⟨u11, hs11⟩, ⟨u13, hs13⟩, _⟩ := Fg.slotvs qa [1, 2, 4, 6, 8, 9, 11, 13]
  obtain ⟨N14, hs14, hn14, hb14⟩ : ∃ N, qa.tmps.getD 14 undef = .slice (some ⟨N, 0, none⟩) 1 1 ∧ W1.heap.size ≤ N ∧ Blk V1 N 36 (ptsL [zeroP]) := hslots 14 (by kernel_rfl)
  obtain ⟨⟨u15, hs15⟩, ⟨u16, hs16⟩, ⟨u17, hs17⟩, ⟨u18, hs18⟩, ⟨u19, hs19⟩, ⟨u20, hs20⟩, ⟨u21, hs21⟩, ⟨u22, hs22⟩, ⟨u23, hs23⟩, ⟨u24, hs24⟩, ⟨u25, hs25⟩, ⟨u26, hs26⟩, ⟨u27, hs27⟩, ⟨u28, hs28⟩, ⟨u29, hs29⟩, ⟨u30, hs30⟩, ⟨u31, hs31⟩, ⟨u32, hs32⟩, ⟨u33, hs33⟩, ⟨u34, hs34⟩, ⟨u35, hs35⟩, ⟨u36, hs36⟩, ⟨u37, hs37⟩, ⟨u38, hs38⟩, ⟨u39, hs39⟩, ⟨u40, hs40⟩, ⟨u41, hs41⟩, ⟨u42, hs42⟩, ⟨u43, hs43⟩, ⟨u44, hs44⟩, ⟨u45, hs45⟩, ⟨u46, hs46⟩, ⟨u47, hs47⟩, ⟨u48, hs48⟩, ⟨u49, hs49⟩, ⟨u50, hs50⟩, _⟩ := Fg.slotvs qa [15, 16, 17, 18, 19, 20, 21, 22, 23, 24, 25, 26, 27, 28, 29, 30, 31, 32, 33, 34, 35, 36, 37, 38, 39, 40, 41, 42, 43, 44, 45, 46, 47, 48, 49, 50]
  obtain rfl := Fg.frame_by [1, 2, 4, 6, 8, 9, 11, 12, 13, 14, 15, 16, 17, 18, 19, 20, 21, 22, 23, 24, 25, 26, 27, 28, 29, 30, 31, 32, 33, 34, 35, 36, 37, 38, 39, 40, 41, 42, 43, 44, 45, 46, 47, 48, 49, 50] (vs := [Value.slice (some ⟨PB, 0, none⟩) n n, u1, u2, Value.slice (some ⟨w0.heap.size, 0, none⟩) 0 16, u4, undef, u6, undef, u8, u9, undef, u11, Value.slice (some ⟨w0.heap.size, 0, none⟩) 0 16, u13, Value.slice (some ⟨N14, 0, none⟩) 1 1, u15, u16, u17, u18, u19, u20, u21, u22, u23, u24, u25, u26, u27, u28, u29, u30, u31, u32, u33, u34, u35, u36, u37, u38, u39, u40, u41, u42, u43, u44, u45, u46, u47, u48, u49, u50]) hsz hrest (by kernel_rfl) rfl rfl ⟨hs1, hs2, hs4, hs6, hs8, hs9, hs11, (show qa.tmps.getD 12 undef = Value.slice (some ⟨w0.heap.size, 0, none⟩) 0 16 from hslots 12 (by kernel_rfl)), hs13, hs14, hs15, hs16, hs17, hs18, hs19, hs20, hs21, hs22, hs23, hs24, hs25, hs26, hs27, hs28, hs29, hs30, hs31, hs32, hs33, hs34, hs35, hs36, hs37, hs38, hs39, hs40, hs41, hs42, hs43, hs44, hs45, hs46, hs47, hs48, hs49, hs50, trivial⟩ hdf
  clear hsz hdf hrest hslots hpt hs1 hs2 hs4 hs6 hs8 hs9 hs11 hs13 hs14 hs15 hs16 hs17 hs18 hs19 hs20 hs21 hs22 hs23 hs24 hs25 hs26 hs27 hs28 hs29 hs30 hs31 hs32 hs33 hs34 hs35 hs36 hs37 hs38 hs39 hs40 hs41 hs42 hs43 hs44 hs45 hs46 hs47 hs48 hs49 hs50
  replace hP := hP.grown g1 (by simp)
  replace G := gb_trans G g1
  replace HT := HT.grown g1
  have hw14 : w0.heap.size ≤ N14 := Nat.le_trans Gs0 hn14
  clear g1
  have lp := hP.lt
  obtain ⟨w2, hap, g2, P2⟩ := append_pile 115 36 Tryz.underlying115 size_point V1 w0.heap.size N14 0 [] (ptsL [zeroP]) 36 hP rfl (by decide) hb14 rfl rfl
  rw [List.nil_append] at P2
  replace G := gb_then G g2 (Nat.le_refl _)
  replace HT := HT.keep g2 (HT0.noG (Nat.le_refl _))
  refine wpList_append_run rfl (.tmp 12) (.tmp 14) 115 rfl rfl _ _ rfl rfl _ _ hap ?_
  have h0A : PtsAre [zeroP] (chs (ps.take 0)) := ⟨rfl, fun i hi => by
   have : i = 0 := by simp at hi; omega
   subst this
   exact zeroIs⟩
  have HS := Lib.hid (And.intro h0A (And.intro P2 (And.intro G HT))); clear h0A P2 G HT hap g2 hP hb14 lp
  go_wp2
  go_loopw [3, 5, 7, 18] (fun v3 v5 v7 i wr => ∃ (k m : Nat) (L : List Pt), k ≤ n ∧ i = .int .i64 k ∧ v3 = .slice (some ⟨w0.heap.size, 0, none⟩) m 16 ∧ PtsAre L (chs (ps.take k)) ∧ Pile wr w0.heap.size 36 (ptsL L) ∧ w0.grownBy wr none ∧ ETab wr ∧ Hid (Fg.ApartV [v5] wr ∧ Fg.ApartV [v7] wr) ∧ Hid (m = 2 ^ k) ∧ m ≤ 16) (fun _ _ _ i _ => n - (intOf i).toNat)
  case atStart => exact ⟨0, 1, [zeroP], by omega, rfl, rfl, HS.out.1, HS.out.2.1, HS.out.2.2.1, HS.out.2.2.2, Lib.hid ⟨Fg.apart_undef _ _ rfl, Fg.apart_undef _ _ rfl⟩, Lib.hid rfl, by decide⟩
  case round =>
   clear HS
   obtain ⟨k, m, L, hk, rfl, rfl, hL, hP, G, HT, HA, HM, hm16⟩ := hrel
   have HL := Lib.hid hL; clear hL
   by_cases hkn : k < n
   ·have i0 : (k : Int) < n := by omega
    have hz : wr.heap.size ≤ wr.heap.size := Nat.le_refl _
    have hwr := G.size
    have HPR : Hid (wr.rangeAt PB (20 * k) (ptL (P4.getD k zeroP))) := Lib.hid (rangeAt_grown (HP.out k (by omega)) G hPB (by simp))
    have hPBr : PB < wr.heap.size := Nat.lt_of_lt_of_le hPB hwr
    go_upto_region 5 with (fail)
    have Gs0 := G.size
    have l1hP := hP.lt
    refine Fg.wp_region_plain (ps := [5]) [.any, .any, .any, .any, .any, .fresh 36 zr20 wr.heap.size, .any, .any, .any, .any, .any, .any, .any, .any, .any, .any, .any, .any, .any, .any, .val (Value.pointer (some ⟨PB, k * 20, none⟩)), .val (((P4.getD k zeroP)).v)] (fun w => World.grownBy wr w none) 3 (gb_refl _ _) (by kernel_rfl) (by kernel_rfl) (by decide) (Fg.ptrs_of (l := [u5]) rfl HA.out.1) ?_ ?_
    ·refine Fg.vS rfl (by decide) (fun ac w h => ?_) ?_
     ·have e16 : _ = Value.slice (some ⟨PB, 0, none⟩) n n := h.r 16
      have e18 : _ = Value.int .i64 (k : Int) := h.r 18
      refine ⟨wants_none rfl, Value.pointer (some ⟨PB, k * 20, none⟩), w, ?_, gb_refl _ _, rfl⟩
      clear h
      simp only [execOp, Act.eval, e16, e18]
      go_simp
     refine Fg.vS rfl (by decide) (fun ac w h => ?_) ?_
     ·have e20 : _ = Value.pointer (some ⟨PB, k * 20, none⟩) := h.d 20
      exact Fg.vn (((P4.getD k zeroP)).v) (Fg.run_load rfl e20 ((by rw [show k * 20 = 20 * k by omega]; exact rangeAt_grown HPR.out h.base hPBr (by simp))) Tryz.underlying36 rfl info_point)
     refine ⟨⟨⟨_, rfl⟩, Fg.allocP (fun _ _ h k => gb_trans h k) rfl (by show 5 < 51; decide) fun ac w h => ?_⟩, ?_⟩
     ·refine ⟨wants_none rfl, w.alloc (.cells zr20.toArray 36), ?_, World.grownBy_alloc _ _ _, by simp, ⟨w.heap.size, rfl, h.base.size, Blk.new w zr20 _⟩⟩
      clear h
      go_simp
     trivial
    ·intro qa V1 g1 hsz hdf hrest hslots hpt
     obtain ⟨N5, hs5, hn5, hb5⟩ : ∃ N, qa.tmps.getD 5 undef = .pointer (some ⟨N, 0, none⟩) ∧ wr.heap.size ≤ N ∧ Blk V1 N 36 zr20 := hslots 5 (by kernel_rfl)
     obtain ⟨u20, hs20⟩ := Fg.slotv qa 20
     obtain ⟨x11, hx11⟩ : ∃ x : Pt, x = (P4.getD k zeroP) := ⟨_, rfl⟩
     obtain rfl := Fg.frame_by [5, 20, 21] (vs := [Value.slice (some ⟨PB, 0, none⟩) n n, u1, u2, Value.slice (some ⟨w0.heap.size, 0, none⟩) m 16, u4, Value.pointer (some ⟨N5, 0, none⟩), u6, u7, u8, u9, undef, u11, Value.slice (some ⟨w0.heap.size, 0, none⟩) 0 16, u13, Value.slice (some ⟨N14, 0, none⟩) 1 1, Value.slice (some ⟨w0.heap.size, 0, none⟩) 1 16, Value.slice (some ⟨PB, 0, none⟩) n n, Value.int .i64 (n : Int), Value.int .i64 (k : Int), Value.bool true, u20, x11.v, u22, u23, u24, u25, u26, u27, u28, u29, u30, u31, u32, u33, u34, u35, u36, u37, u38, u39, u40, u41, u42, u43, u44, u45, u46, u47, u48, u49, u50]) hsz hrest (by kernel_rfl) rfl rfl ⟨hs5, hs20, (show qa.tmps.getD 21 undef = x11.v by rw [hx11]; exact hslots 21 (by kernel_rfl)), trivial⟩ hdf
     clear hsz hdf hrest hslots hpt hs5 hs20
     have Hx11 := Lib.hid hx11; clear hx11
     replace hP := hP.grown g1 (by simp)
     replace G := gb_trans G g1
     replace HT := HT.grown g1
     replace hz := Nat.le_trans hz g1.size
     have hw5 : w0.heap.size ≤ N5 := Nat.le_trans Gs0 hn5
     clear g1
     refine Fg.wpl_skip rfl rfl (Fg.run_store (cs := ptL x11) rfl rfl rfl (hb5.there 0 20 (by show 0 + 20 ≤ 20; decide)) info_point (ptL_one _)) ?_
     replace hP := hP.setCells_other (C := N5) (cs := ptL x11) 0 (by omega)
     replace hb5 : Blk (V1.setCells N5 0 (ptL x11)) N5 36 (ptL x11) := hb5.setAll rfl
     replace hz := Nat.le_trans hz (gb_setCells (cs := ptL x11) (gb_refl V1 (some N5)) 0).size
     replace G := gb_setCells_new (cs := ptL x11) G (B := N5) (hw5) 0
     replace HT := HT.keep (gb_setCells (cs := ptL x11) (gb_refl _ (some N5)) 0) (HT0.noG (hw5))
     revert hP hb5 hz G HT
     generalize V1.setCells N5 0 (ptL x11) = W2
     intro hP hb5 hz G HT
     have l2hP := hP.lt
     have l2hb5 := hb5.lt
     have hptx : PtIs x11 (ps.getD k zero) := by rw [Hx11.out]; exact HI.out.2 k (by omega)
     have HX := Lib.hid hptx; clear hptx
     have m2 : m + m ≤ 16 := by have := pow_16 k (by omega); have := HM.out; omega
     have HA7 := Lib.hid (HA.out.2.mono hz); clear HA
     have w5 := W2.heap.size
     have HS5 := Lib.hid (And.intro hP (And.intro hb5 (And.intro G HT))); clear hP G HT hb5
     go_wp2
     go_loopw [3, 7, 24] (fun v3 v7 i wr => ∃ (j : Nat) (L' : List Pt), j ≤ m ∧ i = .int .i64 j ∧ v3 = .slice (some ⟨w0.heap.size, 0, none⟩) (m + j) 16 ∧ PtsAre L' (chs (ps.take k) ++ ((chs (ps.take k)).take j).map fun s => Ed.add s (ps.getD k zero)) ∧ Pile wr w0.heap.size 36 (ptsL L') ∧ Blk wr N5 36 (ptL x11) ∧ w0.grownBy wr none ∧ ETab wr ∧ Hid (Fg.ApartV [v7] wr) ∧ N5 < wr.heap.size) (fun _ _ i _ => m - (intOf i).toNat)
     case atStart => exact ⟨0, L, by omega, rfl, rfl, by simpa using HL.out, HS5.out.1, HS5.out.2.1, HS5.out.2.2.1, HS5.out.2.2.2, HA7, HS5.out.2.1.lt⟩
     case round =>
      clear HS5 HA7
      obtain ⟨j, L', hj, rfl, rfl, hL', hP, hb5, G, HT, HA, l5⟩ := hrel
      have HL' := Lib.hid hL'; clear hL'
      have hCl : (chs (ps.take k)).length = m := by rw [chs_length, List.length_take, Nat.min_eq_left (by have := HI.out.1; omega)]; exact HM.out.symm
      have hLl : L'.length = m + j := by rw [HL'.out.1, List.length_append, List.length_map, List.length_take, hCl, Nat.min_eq_left hj]
      have HC := Lib.hid (And.intro hCl hLl); clear hCl hLl
      by_cases hjm : j < m
      ·have i1 : (j : Int) < m := by omega
       have i2 : m + j < 16 := by omega
       have hz : wr.heap.size ≤ wr.heap.size := Nat.le_refl _
       have hwq := G.size
       go_upto_region 8 with (fail)
       have Gs0 := G.size
       have l1hP := hP.lt
       have l1hb5 := hb5.lt
       refine Fg.wp_region_plain (ps := [7]) [.any, .any, .any, .any, .any, .any, .any, .fresh 36 zr20 wr.heap.size, .any, .any, .any, .any, .any, .any, .any, .any, .any, .any, .any, .any, .any, .any, .any, .any, .any, .any, .val (Value.pointer (some ⟨w0.heap.size, j * 20, none⟩)), .val (((L'.getD j zeroP)).v)] (fun w => World.grownBy wr w none) 3 (gb_refl _ _) (by kernel_rfl) (by kernel_rfl) (by decide) (Fg.ptrs_of (l := [u7]) rfl HA.out) ?_ ?_
       ·refine Fg.vS rfl (by decide) (fun ac w h => ?_) ?_
        ·have e22 : _ = Value.slice (some ⟨w0.heap.size, 0, none⟩) m 16 := h.r 22
         have e24 : _ = Value.int .i64 (j : Int) := h.r 24
         refine ⟨wants_none rfl, Value.pointer (some ⟨w0.heap.size, j * 20, none⟩), w, ?_, gb_refl _ _, rfl⟩
         clear h
         simp only [execOp, Act.eval, e22, e24]
         go_simp
        refine Fg.vS rfl (by decide) (fun ac w h => ?_) ?_
        ·have e26 : _ = Value.pointer (some ⟨w0.heap.size, j * 20, none⟩) := h.d 26
         exact Fg.vn (((L'.getD j zeroP)).v) (Fg.run_load rfl e26 ((by rw [show j * 20 = 20 * j by omega]; exact (hP.grown h.base (by simp)).pts j (by have := HC.out.2; omega))) Tryz.underlying36 rfl info_point)
        refine ⟨⟨⟨_, rfl⟩, Fg.allocP (fun _ _ h k => gb_trans h k) rfl (by show 7 < 51; decide) fun ac w h => ?_⟩, ?_⟩
        ·refine ⟨wants_none rfl, w.alloc (.cells zr20.toArray 36), ?_, World.grownBy_alloc _ _ _, by simp, ⟨w.heap.size, rfl, h.base.size, Blk.new w zr20 _⟩⟩
         clear h
         go_simp
        trivial
       ·intro qa V1 g1 hsz hdf hrest hslots hpt
        obtain ⟨N7, hs7, hn7, hb7⟩ : ∃ N, qa.tmps.getD 7 undef = .pointer (some ⟨N, 0, none⟩) ∧ wr.heap.size ≤ N ∧ Blk V1 N 36 zr20 := hslots 7 (by kernel_rfl)
        obtain ⟨u26, hs26⟩ := Fg.slotv qa 26
        obtain ⟨x21, hx21⟩ : ∃ x : Pt, x = (L'.getD j zeroP) := ⟨_, rfl⟩
        obtain rfl := Fg.frame_by [7, 26, 27] (vs := [Value.slice (some ⟨PB, 0, none⟩) n n, u1, u2, Value.slice (some ⟨w0.heap.size, 0, none⟩) (m + j) 16, u4, Value.pointer (some ⟨N5, 0, none⟩), u6, Value.pointer (some ⟨N7, 0, none⟩), u8, u9, undef, u11, Value.slice (some ⟨w0.heap.size, 0, none⟩) 0 16, u13, Value.slice (some ⟨N14, 0, none⟩) 1 1, Value.slice (some ⟨w0.heap.size, 0, none⟩) 1 16, Value.slice (some ⟨PB, 0, none⟩) n n, Value.int .i64 (n : Int), Value.int .i64 (k : Int), Value.bool true, u20, x11.v, Value.slice (some ⟨w0.heap.size, 0, none⟩) m 16, Value.int .i64 (m : Int), Value.int .i64 (j : Int), Value.bool true, u26, x21.v, u28, u29, u30, u31, u32, u33, u34, u35, u36, u37, u38, u39, u40, u41, u42, u43, u44, u45, u46, u47, u48, u49, u50]) hsz hrest (by kernel_rfl) rfl rfl ⟨hs7, hs26, (show qa.tmps.getD 27 undef = x21.v by rw [hx21]; exact hslots 27 (by kernel_rfl)), trivial⟩ hdf
        clear hsz hdf hrest hslots hpt hs7 hs26
        have Hx21 := Lib.hid hx21; clear hx21
        replace hP := hP.grown g1 (by simp)
        replace hb5 := hb5.grown g1 (by simp)
        replace G := gb_trans G g1
        replace HT := HT.grown g1
        replace hz := Nat.le_trans hz g1.size
        have hw7 : w0.heap.size ≤ N7 := Nat.le_trans Gs0 hn7
        clear g1
        refine Fg.wpl_skip rfl rfl (Fg.run_store (cs := ptL x21) rfl rfl rfl (hb7.there 0 20 (by show 0 + 20 ≤ 20; decide)) info_point (ptL_one _)) ?_
        replace hP := hP.setCells_other (C := N7) (cs := ptL x21) 0 (by omega)
        replace hb5 := hb5.setCells_other (C := N7) (cs := ptL x21) 0 (by omega)
        replace hb7 : Blk (V1.setCells N7 0 (ptL x21)) N7 36 (ptL x21) := hb7.setAll rfl
        replace hz := Nat.le_trans hz (gb_setCells (cs := ptL x21) (gb_refl V1 (some N7)) 0).size
        replace G := gb_setCells_new (cs := ptL x21) G (B := N7) (hw7) 0
        replace HT := HT.keep (gb_setCells (cs := ptL x21) (gb_refl _ (some N7)) 0) (HT0.noG (hw7))
        revert hP hb5 hb7 hz G HT
        generalize V1.setCells N7 0 (ptL x21) = W2
        intro hP hb5 hb7 hz G HT
        go_upto_region 9 with (fail)
        have Gs2 := G.size
        have l2hP := hP.lt
        have l2hb5 := hb5.lt
        have l2hb7 := hb7.lt
        refine Fg.rP [] [.any, .any, .any, .any, .any, .any, .any, .any, .any, .any, .any, .any, .any, .any, .any, .any, .any, .any, .any, .any, .any, .any, .any, .any, .any, .any, .any, .any, .val (Value.slice (some ⟨w0.heap.size, 0, none⟩) (m + j) 16), .val (x21.v), .val (x11.v), .row 36 (ptsL [x21, x11]) 2 W2.heap.size] 4 ?_ ?_
        ·refine Fg.vS rfl (by decide) (fun ac w h => ?_) ?_
         ·have e3 : _ = Value.slice (some ⟨w0.heap.size, 0, none⟩) (m + j) 16 := h.r 3
          exact Fg.vn (Value.slice (some ⟨w0.heap.size, 0, none⟩) (m + j) 16) (Fg.run_move rfl e3)
         refine Fg.vS rfl (by decide) (fun ac w h => ?_) ?_
         ·have e7 : _ = Value.pointer (some ⟨N7, 0, none⟩) := h.r 7
          exact Fg.vn x21.v (Fg.run_load rfl e7 ((hb7.grown h.base (by simp)).range 0 (ptL x21) rfl) Tryz.underlying36 rfl info_point)
         refine Fg.vS rfl (by decide) (fun ac w h => ?_) ?_
         ·have e5 : _ = Value.pointer (some ⟨N5, 0, none⟩) := h.r 5
          exact Fg.vn x11.v (Fg.run_load rfl e5 ((hb5.grown h.base (by simp)).range 0 (ptL x11) rfl) Tryz.underlying36 rfl info_point)
         refine Fg.vS rfl (by decide) (fun ac w h => ?_) ?_
         ·have e29 : _ = x21.v := h.d 29
          have e30 : _ = x11.v := h.d 30
          exact ⟨wants_none rfl, .slice (some ⟨w.heap.size, 0, none⟩) 2 2, w.alloc (.cells (ptsL [x21, x11]).toArray 36), Fg.run_buildSlice (vs := #[(0, x21.v), (1, x11.v)]) rfl (by simp only [List.map_toArray, List.map_cons, List.map_nil, Act.eval, e29, e30]) (by kernel_rfl), World.grownBy_alloc _ _ _, ⟨w.heap.size, rfl, h.base.size, Blk.new w (ptsL [x21, x11]) _⟩⟩
         trivial
        ·intro qa V3 g3 hsz hdf hrest hslots hpt
         obtain ⟨u29, hs29⟩ := Fg.slotv qa 29
         obtain ⟨u30, hs30⟩ := Fg.slotv qa 30
         obtain ⟨N31, hs31, hn31, hb31⟩ : ∃ N, qa.tmps.getD 31 undef = .slice (some ⟨N, 0, none⟩) 2 2 ∧ W2.heap.size ≤ N ∧ Blk V3 N 36 (ptsL [x21, x11]) := hslots 31 (by kernel_rfl)
         obtain rfl := Fg.frame_by [28, 29, 30, 31] (vs := [Value.slice (some ⟨PB, 0, none⟩) n n, u1, u2, Value.slice (some ⟨w0.heap.size, 0, none⟩) (m + j) 16, u4, Value.pointer (some ⟨N5, 0, none⟩), u6, Value.pointer (some ⟨N7, 0, none⟩), u8, u9, undef, u11, Value.slice (some ⟨w0.heap.size, 0, none⟩) 0 16, u13, Value.slice (some ⟨N14, 0, none⟩) 1 1, Value.slice (some ⟨w0.heap.size, 0, none⟩) 1 16, Value.slice (some ⟨PB, 0, none⟩) n n, Value.int .i64 (n : Int), Value.int .i64 (k : Int), Value.bool true, u20, x11.v, Value.slice (some ⟨w0.heap.size, 0, none⟩) m 16, Value.int .i64 (m : Int), Value.int .i64 (j : Int), Value.bool true, u26, x21.v, Value.slice (some ⟨w0.heap.size, 0, none⟩) (m + j) 16, u29, u30, Value.slice (some ⟨N31, 0, none⟩) 2 2, u32, u33, u34, u35, u36, u37, u38, u39, u40, u41, u42, u43, u44, u45, u46, u47, u48, u49, u50]) hsz hrest (by kernel_rfl) rfl rfl ⟨(show qa.tmps.getD 28 undef = Value.slice (some ⟨w0.heap.size, 0, none⟩) (m + j) 16 from hslots 28 (by kernel_rfl)), hs29, hs30, hs31, trivial⟩ hdf
         clear hsz hdf hrest hslots hpt hs29 hs30 hs31
         replace hP := hP.grown g3 (by simp)
         replace hb5 := hb5.grown g3 (by simp)
         replace hb7 := hb7.grown g3 (by simp)
         replace G := gb_trans G g3
         replace HT := HT.grown g3
         replace hz := Nat.le_trans hz g3.size
         have hw31 : w0.heap.size ≤ N31 := Nat.le_trans Gs2 hn31
         clear g3
         have l3hP := hP.lt
         have l3hb5 := hb5.lt
         have l3hb7 := hb7.lt
         have l3hb31 := hb31.lt
         have hpty : PtIs x21 ((chs (ps.take k)).getD j zero) := by
          rw [Hx21.out]
          have := HL'.out.2 j (by have := HC.out.2; omega)
          rwa [getD_app _ _ _ _ (by rw [HC.out.1]; exact hjm)] at this
         have hAre : PtsAre [x21, x11] [(chs (ps.take k)).getD j zero, ps.getD k zero] := ⟨rfl, fun i hi => by
          have : i = 0 ∨ i = 1 := by simp at hi; omega
          rcases this with rfl | rfl
          ·exact hpty
          ·exact HX.out⟩
         refine Fg.wpl_call rfl (Fg.run_call (vs := #[Value.slice (some ⟨N31, 0, none⟩) 2 2]) rfl rfl (by simp only [List.map_toArray, List.map_cons, List.map_nil, Act.eval]; rfl) (Fg.run_enter Tryz.func93 (by kernel_rfl) (by kernel_rfl))) ?_
         refine (edAdd N31 2 [x21, x11] _ [] V3 HT rfl (by decide) (by decide) hAre (by rw [List.append_nil]; exact hb31)).mono ?_
         rintro e C9 ⟨t9, ht9, rfl, g9⟩
         refine ⟨_, rfl, ?_⟩
         refine Fg.wpl_value (v := Value.slice (some ⟨C9.heap.size, 0, none⟩) 1 1) (w' := C9.alloc (.cells (ptsL [t9]).toArray 36)) rfl (Fg.run_buildSlice (vs := #[(0, t9.v)]) rfl (by simp only [List.map_toArray, List.map_cons, List.map_nil, Act.eval]; rfl) (by kernel_rfl)) ?_
         have z9 := g9.size
         have g10 := gb_alloc g9 (.cells (ptsL [t9]).toArray 36)
         obtain ⟨w11, hap, g11, P11⟩ := append_pile 115 36 Tryz.underlying115 size_point (C9.alloc (.cells (ptsL [t9]).toArray 36)) w0.heap.size C9.heap.size (m + j) (ptsL L') (ptsL [t9]) 36 (hP.grown g10 (by simp)) (by rw [ptsL_length, HC.out.2]) i2 (Blk.new C9 (ptsL [t9]) _) rfl rfl
         refine wpList_append_run rfl (.tmp 28) (.tmp 33) 115 rfl rfl _ _ rfl rfl _ _ hap ?_
         have hL2 : PtsAre (L' ++ [t9]) (chs (ps.take k) ++ ((chs (ps.take k)).take (j + 1)).map fun s => Ed.add s (ps.getD k zero)) := by
          have := ptsAre_snoc HL'.out ht9
          rw [take_pr _ j (by rw [HC.out.1]; exact hjm), List.map_append, ← List.append_assoc]
          exact this
         have P12 : Pile w11 w0.heap.size 36 (ptsL (L' ++ [t9])) := by rw [ptsL_snoc]; simpa [ptsL] using P11
         have z11 := g11.size
         rw [World.size_alloc] at z11
         have hb5n := (hb5.grown g10 (by simp)).grown g11 (some_ne (by omega))
         have Gn := gb_then (gb_trans G g10) g11 (Nat.le_refl _)
         have HTn := (HT.grown g10).keep g11 (HT0.noG (Nat.le_refl _))
         have HA9 := Lib.hid (Fg.apart_one (N := N7) (w := w11) (by omega))
         have H9 := Lib.hid (And.intro hL2 (And.intro P12 (And.intro hb5n (And.intro Gn HTn))))
         clear hL2 P12 P11 hb5n Gn HTn g11 g10 g9 hap hP hb5 hb7 hb31 G HT hpty hAre ht9 HA
         clear l1hP l1hb5 l2hP l2hb5 l2hb7 l3hP l3hb5 l3hb7 l3hb31
         go_wp2
         go_roundw
         case rel => exact ⟨j + 1, L' ++ [t9], by omega, by go_num, rfl, H9.out.1, H9.out.2.1, H9.out.2.2.1, H9.out.2.2.2.1, H9.out.2.2.2.2, HA9, by omega⟩
         case measure => simp [intOf]; omega
      ·obtain rfl : j = m := by omega
       have hL2 : PtsAre L' (chs (ps.take (k + 1))) := by
        rw [take_pr ps k (by have := HI.out.1; omega), chs_snoc]
        have := HL'.out
        rwa [List.take_of_length_le (l := chs (ps.take k)) (i := j) (by rw [HC.out.1]; omega)] at this
       have hm2 : j + j = 2 ^ (k + 1) := by rw [Nat.pow_succ, ← HM.out]; omega
       have HA9 := Lib.hid (And.intro (Fg.apart_one (N := N5) (w := wr) l5) HA.out)
       have H9 := Lib.hid (And.intro hL2 (And.intro hP (And.intro G (And.intro HT hm2))))
       clear hL2 hP G HT hm2 hb5 HA
       go_wp2
       go_roundw
       case rel => exact ⟨k + 1, j + j, L', by omega, by go_num, rfl, H9.out.1, H9.out.2.1, H9.out.2.2.1, H9.out.2.2.2.1, HA9, Lib.hid H9.out.2.2.2.2, m2⟩
       case measure => simp [intOf]; omega
   ·obtain rfl : n = k := by omega
    have hLf : PtsAre L (chs ps) := by rw [← List.take_of_length_le (show ps.length ≤ n by omega)]; exact HL.out
    have hCl : (chs ps).length = m := by rw [chs_length, hps]; exact HM.out.symm
    have hLl : L.length = m := hLf.1.trans hCl
    have HC := Lib.hid (And.intro hCl hLl); clear hCl hLl HL
    have HL := Lib.hid hLf; clear hLf
    obtain ⟨W2, hmk, g2, s2, hR⟩ := make_pile 116 127 Tryz.underlying116 size_addend wr
    have hwr := G.size
    have lSB := hP.lt
    have HS2 := Lib.hid (And.intro (gb_trans G g2) (And.intro (HT.grown g2) (And.intro (hP.grown g2 (by simp)) hR))); clear G HT hP hR HA g2
    obtain ⟨RB, hRB⟩ : ∃ x, x = wr.heap.size := ⟨_, rfl⟩
    rw [← hRB] at hmk hwr lSB s2 HS2
    clear hRB
    go_wp2
    clear hmk
    go_loopw [8, 10, 40] (fun v8 v10 i wr => ∃ (j : Nat) (R : List Ad), j ≤ m ∧ i = .int .i64 j ∧ v8 = .slice (some ⟨RB, 0, none⟩) j 16 ∧ AdsAre R ((chs ps).take j) ∧ Pile wr RB 127 (adsL R) ∧ Pile wr w0.heap.size 36 (ptsL L) ∧ w0.grownBy wr none ∧ ETab wr ∧ Hid (Fg.ApartV [v10] wr) ∧ RB < wr.heap.size) (fun _ _ i _ => m - (intOf i).toNat)
    case atStart => exact ⟨0, [], by omega, rfl, rfl, ⟨rfl, fun i hi => by simp at hi⟩, HS2.out.2.2.2, HS2.out.2.2.1, HS2.out.1, HS2.out.2.1, Lib.hid (Fg.apart_undef _ _ rfl), s2⟩
    case round =>
     clear HS2
     obtain ⟨j, R, hj, rfl, rfl, hAD, hR, hP, G, HT, HA, lR⟩ := hrel
     have HAD := Lib.hid hAD; clear hAD
     by_cases hjm : j < m
     ·have i1 : (j : Int) < m := by omega
      have hz : wr.heap.size ≤ wr.heap.size := Nat.le_refl _
      have hwt := G.size
      go_upto_region 15 with (fail)
      have Gs0 := G.size
      have l1hP := hP.lt
      have l1hR := hR.lt
      refine Fg.wp_region_plain (ps := [10]) [.any, .any, .any, .any, .any, .any, .any, .any, .any, .any, .fresh 36 zr20 wr.heap.size, .any, .any, .any, .any, .any, .any, .any, .any, .any, .any, .any, .any, .any, .any, .any, .any, .any, .any, .any, .any, .any, .any, .any, .any, .any, .any, .any, .any, .any, .any, .any, .val (Value.pointer (some ⟨w0.heap.size, j * 20, none⟩)), .val (((L.getD j zeroP)).v)] (fun w => World.grownBy wr w none) 3 (gb_refl _ _) (by kernel_rfl) (by kernel_rfl) (by decide) (Fg.ptrs_of (l := [u10]) rfl HA.out) ?_ ?_
      ·refine Fg.vS rfl (by decide) (fun ac w h => ?_) ?_
       ·have e38 : _ = Value.slice (some ⟨w0.heap.size, 0, none⟩) m 16 := h.r 38
        have e40 : _ = Value.int .i64 (j : Int) := h.r 40
        refine ⟨wants_none rfl, Value.pointer (some ⟨w0.heap.size, j * 20, none⟩), w, ?_, gb_refl _ _, rfl⟩
        clear h
        simp only [execOp, Act.eval, e38, e40]
        go_simp
       refine Fg.vS rfl (by decide) (fun ac w h => ?_) ?_
       ·have e42 : _ = Value.pointer (some ⟨w0.heap.size, j * 20, none⟩) := h.d 42
        exact Fg.vn (((L.getD j zeroP)).v) (Fg.run_load rfl e42 ((by rw [show j * 20 = 20 * j by omega]; exact (hP.grown h.base (by simp)).pts j (by have := HC.out.2; omega))) Tryz.underlying36 rfl info_point)
       refine ⟨⟨⟨_, rfl⟩, Fg.allocP (fun _ _ h k => gb_trans h k) rfl (by show 10 < 51; decide) fun ac w h => ?_⟩, ?_⟩
       ·refine ⟨wants_none rfl, w.alloc (.cells zr20.toArray 36), ?_, World.grownBy_alloc _ _ _, by simp, ⟨w.heap.size, rfl, h.base.size, Blk.new w zr20 _⟩⟩
        clear h
        go_simp
       trivial
      ·intro qa V1 g1 hsz hdf hrest hslots hpt
       obtain ⟨N10, hs10, hn10, hb10⟩ : ∃ N, qa.tmps.getD 10 undef = .pointer (some ⟨N, 0, none⟩) ∧ wr.heap.size ≤ N ∧ Blk V1 N 36 zr20 := hslots 10 (by kernel_rfl)
       obtain ⟨u42, hs42⟩ := Fg.slotv qa 42
       obtain ⟨x41, hx41⟩ : ∃ x : Pt, x = (L.getD j zeroP) := ⟨_, rfl⟩
       obtain rfl := Fg.frame_by [10, 42, 43] (vs := [Value.slice (some ⟨PB, 0, none⟩) n n, u1, u2, Value.slice (some ⟨w0.heap.size, 0, none⟩) m 16, u4, u5, u6, u7, Value.slice (some ⟨RB, 0, none⟩) j 16, u9, Value.pointer (some ⟨N10, 0, none⟩), u11, Value.slice (some ⟨w0.heap.size, 0, none⟩) 0 16, u13, Value.slice (some ⟨N14, 0, none⟩) 1 1, Value.slice (some ⟨w0.heap.size, 0, none⟩) 1 16, Value.slice (some ⟨PB, 0, none⟩) n n, Value.int .i64 (n : Int), Value.int .i64 (n : Int), Value.bool false, u20, u21, u22, u23, u24, u25, u26, u27, u28, u29, u30, u31, u32, u33, u34, u35, u36, Value.slice (some ⟨RB, 0, none⟩) 0 16, Value.slice (some ⟨w0.heap.size, 0, none⟩) m 16, Value.int .i64 (m : Int), Value.int .i64 (j : Int), Value.bool true, u42, x41.v, u44, u45, u46, u47, u48, u49, u50]) hsz hrest (by kernel_rfl) rfl rfl ⟨hs10, hs42, (show qa.tmps.getD 43 undef = x41.v by rw [hx41]; exact hslots 43 (by kernel_rfl)), trivial⟩ hdf
       clear hsz hdf hrest hslots hpt hs10 hs42
       have Hx41 := Lib.hid hx41; clear hx41
       replace hP := hP.grown g1 (by simp)
       replace hR := hR.grown g1 (by simp)
       replace G := gb_trans G g1
       replace HT := HT.grown g1
       replace hz := Nat.le_trans hz g1.size
       have hw10 : w0.heap.size ≤ N10 := Nat.le_trans Gs0 hn10
       clear g1
       refine Fg.wpl_skip rfl rfl (Fg.run_store (cs := ptL x41) rfl rfl rfl (hb10.there 0 20 (by show 0 + 20 ≤ 20; decide)) info_point (ptL_one _)) ?_
       replace hP := hP.setCells_other (C := N10) (cs := ptL x41) 0 (by omega)
       replace hR := hR.setCells_other (C := N10) (cs := ptL x41) 0 (by omega)
       replace hb10 : Blk (V1.setCells N10 0 (ptL x41)) N10 36 (ptL x41) := hb10.setAll rfl
       replace hz := Nat.le_trans hz (gb_setCells (cs := ptL x41) (gb_refl V1 (some N10)) 0).size
       replace G := gb_setCells_new (cs := ptL x41) G (B := N10) (hw10) 0
       replace HT := HT.keep (gb_setCells (cs := ptL x41) (gb_refl _ (some N10)) 0) (HT0.noG (hw10))
       revert hP hR hb10 hz G HT
       generalize V1.setCells N10 0 (ptL x41) = W2
       intro hP hR hb10 hz G HT
       have hpty : PtIs x41 ((chs ps).getD j zero) := by rw [Hx41.out]; exact HL.out.2 j (by have := HC.out.2; omega)
       have oky := hpty.ok
       go_upto_region 16 with (fail)
       have Gs2 := G.size
       have l2hP := hP.lt
       have l2hR := hR.lt
       have l2hb10 := hb10.lt
       refine Fg.rP [] [.any, .any, .any, .any, .any, .any, .any, .any, .any, .any, .any, .any, .any, .any, .any, .any, .any, .any, .any, .any, .any, .any, .any, .any, .any, .any, .any, .any, .any, .any, .any, .any, .any, .any, .any, .any, .any, .any, .any, .any, .any, .any, .any, .any, .val (Value.slice (some ⟨RB, 0, none⟩) j 16), .val (x41.v), .val ((adF x41).v), .row 127 (adsL [adF x41]) 1 W2.heap.size] 4 ?_ ?_
       ·refine Fg.vS rfl (by decide) (fun ac w h => ?_) ?_
        ·have e8 : _ = Value.slice (some ⟨RB, 0, none⟩) j 16 := h.r 8
         exact Fg.vn (Value.slice (some ⟨RB, 0, none⟩) j 16) (Fg.run_move rfl e8)
        refine Fg.vS rfl (by decide) (fun ac w h => ?_) ?_
        ·have e10 : _ = Value.pointer (some ⟨N10, 0, none⟩) := h.r 10
         exact Fg.vn x41.v (Fg.run_load rfl e10 ((hb10.grown h.base (by simp)).range 0 (ptL x41) rfl) Tryz.underlying36 rfl info_point)
        refine Fg.cS rfl (by decide) (fun ac w h => ?_) ?_
        ·have e45 : _ = x41.v := h.d 45
         refine ⟨wants_none rfl, 94, #[x41.v], Fg.run_call rfl rfl (by simp only [List.map_toArray, List.map_cons, List.map_nil, Act.eval, e45]) (Fg.run_enter Tryz.func94 (by kernel_rfl) (by kernel_rfl)), ?_⟩
         exact (addendOf_any x41 _ (HT.grown h.base) oky).mono fun _ _ ⟨he, hg⟩ => ⟨_, he, hg, rfl⟩
        refine Fg.vS rfl (by decide) (fun ac w h => ?_) ?_
        ·have e46 : _ = (adF x41).v := h.d 46
         exact ⟨wants_none rfl, .slice (some ⟨w.heap.size, 0, none⟩) 1 1, w.alloc (.cells (adsL [adF x41]).toArray 127), Fg.run_buildSlice (vs := #[(0, (adF x41).v)]) rfl (by simp only [List.map_toArray, List.map_cons, List.map_nil, Act.eval, e46]) (by kernel_rfl), World.grownBy_alloc _ _ _, ⟨w.heap.size, rfl, h.base.size, Blk.new w (adsL [adF x41]) _⟩⟩
        trivial
       ·intro qa V3 g3 hsz hdf hrest hslots hpt
        obtain ⟨u45, hs45⟩ := Fg.slotv qa 45
        obtain ⟨u46, hs46⟩ := Fg.slotv qa 46
        obtain ⟨N47, hs47, hn47, hb47⟩ : ∃ N, qa.tmps.getD 47 undef = .slice (some ⟨N, 0, none⟩) 1 1 ∧ W2.heap.size ≤ N ∧ Blk V3 N 127 (adsL [adF x41]) := hslots 47 (by kernel_rfl)
        obtain rfl := Fg.frame_by [44, 45, 46, 47] (vs := [Value.slice (some ⟨PB, 0, none⟩) n n, u1, u2, Value.slice (some ⟨w0.heap.size, 0, none⟩) m 16, u4, u5, u6, u7, Value.slice (some ⟨RB, 0, none⟩) j 16, u9, Value.pointer (some ⟨N10, 0, none⟩), u11, Value.slice (some ⟨w0.heap.size, 0, none⟩) 0 16, u13, Value.slice (some ⟨N14, 0, none⟩) 1 1, Value.slice (some ⟨w0.heap.size, 0, none⟩) 1 16, Value.slice (some ⟨PB, 0, none⟩) n n, Value.int .i64 (n : Int), Value.int .i64 (n : Int), Value.bool false, u20, u21, u22, u23, u24, u25, u26, u27, u28, u29, u30, u31, u32, u33, u34, u35, u36, Value.slice (some ⟨RB, 0, none⟩) 0 16, Value.slice (some ⟨w0.heap.size, 0, none⟩) m 16, Value.int .i64 (m : Int), Value.int .i64 (j : Int), Value.bool true, u42, x41.v, Value.slice (some ⟨RB, 0, none⟩) j 16, u45, u46, Value.slice (some ⟨N47, 0, none⟩) 1 1, u48, u49, u50]) hsz hrest (by kernel_rfl) rfl rfl ⟨(show qa.tmps.getD 44 undef = Value.slice (some ⟨RB, 0, none⟩) j 16 from hslots 44 (by kernel_rfl)), hs45, hs46, hs47, trivial⟩ hdf
        clear hsz hdf hrest hslots hpt hs45 hs46 hs47
        replace hP := hP.grown g3 (by simp)
        replace hR := hR.grown g3 (by simp)
        replace hb10 := hb10.grown g3 (by simp)
        replace G := gb_trans G g3
        replace HT := HT.grown g3
        replace hz := Nat.le_trans hz g3.size
        have hw47 : w0.heap.size ≤ N47 := Nat.le_trans Gs2 hn47
        clear g3
        have l3hP := hP.lt
        have l3hR := hR.lt
        have l3hb10 := hb10.lt
        have l3hb47 := hb47.lt
        obtain ⟨w11, hap, g11, P11⟩ := append_pile 116 127 Tryz.underlying116 size_addend V3 RB N47 j (adsL R) (adsL [adF x41]) 127 hR (by rw [adsL_length, HAD.out.1, List.length_take, HC.out.1]; omega) (by omega) hb47 rfl rfl
        refine wpList_append_run rfl (.tmp 44) (.tmp 47) 116 rfl rfl _ _ rfl rfl _ _ hap ?_
        have hR2 : AdsAre (R ++ [adF x41]) ((chs ps).take (j + 1)) := by
         rw [take_pr _ j (by rw [HC.out.1]; exact hjm)]
         exact adsAre_snoc HAD.out (adIs hpty)
        have P12 : Pile w11 RB 127 (adsL (R ++ [adF x41])) := by rw [adsL_snoc]; simpa [adsL] using P11
        have z11 := g11.size
        have hPn := hP.grown g11 (some_ne (by omega))
        have Gn := gb_then G g11 hwr
        have HTn := HT.keep g11 (HT0.noG hwr)
        have HA9 := Lib.hid (Fg.apart_one (N := N10) (w := w11) (by omega))
        have H9 := Lib.hid (And.intro hR2 (And.intro P12 (And.intro hPn (And.intro Gn HTn))))
        clear hR2 P12 P11 hPn Gn HTn g11 hap hP hR hb10 hb47 G HT hpty oky HA
        clear l1hP l1hR l2hP l2hR l2hb10 l3hP l3hR l3hb10 l3hb47
        go_wp2
        go_roundw
        case rel => exact ⟨j + 1, R ++ [adF x41], by omega, by go_num, rfl, H9.out.1, H9.out.2.1, H9.out.2.2.1, H9.out.2.2.2.1, H9.out.2.2.2.2, HA9, by omega⟩
        case measure => simp [intOf]; omega
     ·obtain rfl : j = m := by omega
      have hADf : AdsAre R (chs ps) := by rw [← List.take_of_length_le (show (chs ps).length ≤ j by rw [HC.out.1]; omega)]; exact HAD.out
      have H9 := Lib.hid (And.intro hADf (And.intro hR G)); clear hADf hR G HT hP HA
      go_wp2
      go_ret
      exact ⟨_, j, R, rfl, HM.out, H9.out.1, H9.out.2.1, H9.out.2.2, hwr⟩
end
section
open Go.RowKit Ow Go.Shelf Ed
attribute [local go_sem] Oper.semAt_some
abbrev Grp := { x : Nat // x < 16 }
def grp (b : Nat → Bool) (g : Nat) : Nat := 8 * (b (4 * g + 3)).toNat + 4 * (b (4 * g + 2)).toNat + 2 * (b (4 * g + 1)).toNat + (b (4 * g)).toNat
theorem toNat_le (b : Bool) : b.toNat ≤ 1 := by cases b <;> decide
theorem grp_lt (b : Nat → Bool) (g : Nat) : grp b g < 16 := by
  unfold grp
  have h0 := toNat_le (b (4 * g))
  have h1 := toNat_le (b (4 * g + 1))
  have h2 := toNat_le (b (4 * g + 2))
  have h3 := toNat_le (b (4 * g + 3))
  omega
def part (b : Nat → Bool) (g : Nat) : Nat → Nat
  | 0 => 4 * (b (4 * g + 3)).toNat + 2 * (b (4 * g + 2)).toNat + (b (4 * g + 1)).toNat
  | 1 => 2 * (b (4 * g + 3)).toNat + (b (4 * g + 2)).toNat
  | 2 => (b (4 * g + 3)).toNat
  | _ => 0
theorem part0 (b : Nat → Bool) (g : Nat) : part b g 0 = 4 * (b (4 * g + 3)).toNat + 2 * (b (4 * g + 2)).toNat + (b (4 * g + 1)).toNat := rfl
theorem part1 (b : Nat → Bool) (g : Nat) : part b g 1 = 2 * (b (4 * g + 3)).toNat + (b (4 * g + 2)).toNat := rfl
theorem part2 (b : Nat → Bool) (g : Nat) : part b g 2 = (b (4 * g + 3)).toNat := rfl
theorem part3 (b : Nat → Bool) (g : Nat) : part b g 3 = 0 := rfl
theorem part_zero (b : Nat → Bool) (g : Nat) : 2 * part b g 0 + (b (4 * g)).toNat = grp b g := by rw [part0]; unfold grp; omega
theorem part_step (b : Nat → Bool) (g t : Nat) (ht : t < 3) : 2 * part b g (t + 1) + (b (4 * g + (t + 1))).toNat = part b g t := by
  match t, ht with
  | 0, _ => rw [part0, part1]; show _ + (b (4 * g + 1)).toNat = _; omega
  | 1, _ => rw [part1, part2]
  | 2, _ => rw [part2, part3]; show _ + (b (4 * g + 3)).toNat = _; omega
theorem part_le (b : Nat → Bool) (g t : Nat) (ht : t < 4) : part b g t ≤ 7 := by
  have h1 := toNat_le (b (4 * g + 1))
  have h2 := toNat_le (b (4 * g + 2))
  have h3 := toNat_le (b (4 * g + 3))
  match t, ht with
  | 0, _ => rw [part0]; omega
  | 1, _ => rw [part1]; omega
  | 2, _ => rw [part2]; omega
  | 3, _ => rw [part3]; omega
theorem rem4 (i t : Nat) (h : i % 4 = t) : Int.tmod (i : Int) 4 = (t : Int) := by
  rw [Int.tmod_eq_emod_of_nonneg (by omega)]
  omega
def grpsTo (b : Nat → Bool) (G k : Nat) : List Grp := (List.range k).map fun t => ⟨grp b (G - 1 - t), grp_lt _ _⟩
theorem grpsTo_succ (b : Nat → Bool) (G k : Nat) : grpsTo b G (k + 1) = grpsTo b G k ++ [⟨grp b (G - 1 - k), grp_lt _ _⟩] := by simp [grpsTo, List.range_succ]
theorem grps_next (b : Nat → Bool) (G g : Nat) (h : g < G) (hl : grp b g < 16) : grpsTo b G (G - 1 - g) ++ [⟨grp b g, hl⟩] = grpsTo b G (G - g) := by
  rw [show G - g = (G - 1 - g) + 1 by omega, grpsTo_succ]
  congr 2
  exact Subtype.ext (by show grp b g = grp b (G - 1 - (G - 1 - g)); rw [show G - 1 - (G - 1 - g) = g by omega])
theorem grpsTo_length (b : Nat → Bool) (G k : Nat) : (grpsTo b G k).length = k := by simp [grpsTo]
def grpE (x : Grp) : Array Value := #[.int .i64 (x.1 : Int)]
def KeepsG (bb N Bs : Nat) (W W' : World) : Prop := (∀ j, j < N → W'.cell? ⟨bb, j, none⟩ = W.cell? ⟨bb, j, none⟩) ∧ W'.cell? ⟨Bs, 0, none⟩ = W.cell? ⟨Bs, 0, none⟩
theorem keepsG_t {bb N Bs : Nat} {A B C : World} (h : KeepsG bb N Bs A B) (k : KeepsG bb N Bs B C) : KeepsG bb N Bs A C := ⟨fun j hj => (k.1 j hj).trans (h.1 j hj), k.2.trans h.2⟩
theorem keepsG_b {bb N Bs n : Nat} (hR : bb < n) (hB : Bs < n) (W : World) (l : Nat) (o o' : Obj) (hl : n ≤ l) (h : W.heap[l]? = some o) : KeepsG bb N Bs W (W.putObj l o') := by
  have hlt : l < W.heap.size := (Array.getElem?_eq_some_iff.1 h).1
  exact ⟨fun j _ => gb_cell (grownBy_putObj' W l o') (p := ⟨bb, j, none⟩) (show bb < _ by omega) (some_ne' (by show bb ≠ l; omega)), gb_cell (grownBy_putObj' W l o') (p := ⟨Bs, 0, none⟩) (show Bs < _ by omega) (some_ne' (by show Bs ≠ l; omega))⟩
set_option maxHeartbeats 1000000 in
theorem groups_in (F : Fence) (n : Nat) (hf : F.fn 66) (hro : F.round = none) (a : Option Addr) (len cap : Nat) (w : World) :
    CallsIn F n Tryz.prog 66 #[.slice a len cap] w fun e w' => e = .returned (.func (.func 95) #[] #[.pointer (some ⟨w.heap.size, 0, none⟩)]) ∧ w' = w.alloc (.cells #[.slice a len cap] 74) := by
  refine callsIn_of_wp Tryz.func66 rfl hf ?_ hro
  simp only [Tryz.ntmps66, List.size_toArray, List.length_cons, List.length_nil, Nat.reduceAdd, Nat.reduceSub, Array.replicate_succ, Array.replicate_zero, List.push_toArray, List.append_toArray, List.nil_append, List.cons_append]
  gi_wp2
  go_ret
  exact ⟨rfl, rfl⟩
set_option maxRecDepth 100000 in
set_option maxHeartbeats 4000000 in
theorem groups1_in (F : Fence) (n : Nat) (hf : F.fn 95) (hro : F.round = none) (hn : 1 ≤ n) (l Bs bb G N : Nat) (hN : N = 4 * G) (hG : G ≤ 1000) (hG1 : 1 ≤ G) (b : Nat → Bool) (J Jx : List Grp → World → Prop)
    (hY : ∀ pre x W, J pre W → pre.length < G → YieldAt F (n - 1) Tryz.prog l (grpE x) W fun e W' =>
      (e = .returned (.bool true) ∧ J (pre ++ [x]) W' ∧ KeepsG bb N Bs W W') ∨ (e = .returned (.bool false) ∧ Jx (pre ++ [x]) W'))
    (W : World) (hBs : W.cell? ⟨Bs, 0, none⟩ = some (.slice (some ⟨bb, 0, none⟩) N N)) (hc : ∀ j, j < N → W.cell? ⟨bb, j, none⟩ = some (.bool (b j))) (h0 : J [] W) :
    CallsIn F n Tryz.prog 95 #[.func (.yield l) #[] #[], .pointer (some ⟨Bs, 0, none⟩)] W fun e W' => (∃ v, e = .returned v) ∧
      ((∃ ys, ys = grpsTo b G G ∧ J ys W') ∨ (∃ pre, True ∧ Jx pre W')) := by
  have HC := Lib.hid hc; clear hc
  have HN := Lib.hid hN; clear hN
  have hN1 : 4 ≤ N := by have := HN.out; omega
  have hN2 : N ≤ 4000 := by have := HN.out; omega
  refine callsIn_of_wp Tryz.func95 rfl hf ?_ hro
  simp only [Tryz.ntmps95, List.size_toArray, List.length_cons, List.length_nil, Nat.reduceAdd, Nat.reduceSub, Array.replicate_succ, Array.replicate_zero, List.push_toArray, List.append_toArray, List.nil_append, List.cons_append]
  have HBs := Lib.hid hBs
  gi_wp2
  clear hBs
  gi_loopw [3, 4] (fun v3 v4 wr => ((∃ g t i p : Nat, g < G ∧ t < 4 ∧ Hid (i = 4 * g + t) ∧ i < N ∧ Hid (p = part b g t) ∧ p ≤ 7 ∧ v4 = .int .i64 i ∧ v3 = .int .i64 p ∧ J (grpsTo b G (G - 1 - g)) wr) ∨ (v4 = .int .i64 (-1) ∧ v3 = .int .i64 0 ∧ J (grpsTo b G G) wr)) ∧ KeepsG bb N Bs W wr)
    (fun _ i _ => (intOf i + 1).toNat)
  case atStart =>
    refine ⟨Or.inl ⟨G - 1, 3, N - 1, 0, by omega, by omega, Lib.hid (by have := HN.out; omega), by omega, Lib.hid rfl, by omega, ?_, rfl, by rw [show G - 1 - (G - 1) = 0 by omega]; exact h0⟩, ⟨fun _ _ => rfl, rfl⟩⟩
    have : (N : Int) - 1 = ((N - 1 : Nat) : Int) := by omega
    rw [this]
  case round =>
    obtain ⟨⟨g, t, i, p, hg, ht, HI, hi, HP, hp, rfl, rfl, hJs⟩ | ⟨rfl, rfl, hJs⟩, hnx⟩ := hrel
    · have hb1 : wr.cell? ⟨Bs, 0, none⟩ = some (.slice (some ⟨bb, 0, none⟩) N N) := hnx.2.trans HBs.out
      have hcx : wr.cell? ⟨bb, i, none⟩ = some (.bool (b i)) := (hnx.1 i hi).trans (HC.out i hi)
      have hr := rem4 i t (by have := HI.out; omega)
      have HNX := Lib.hid hnx; clear hnx
      have hbl := toNat_le (b i)
      obtain ⟨q, hq⟩ : ∃ q, q = 2 * p + (b i).toNat := ⟨_, rfl⟩
      have HQ := Lib.hid hq; clear hq
      by_cases ht0 : t = 0
      · subst ht0
        have hqg : q = grp b g := by rw [HQ.out, HP.out, ← part_zero, HI.out, Nat.add_zero]
        obtain ⟨fn, tmps, assign, body, hy, hR⟩ := hY _ ⟨grp b g, grp_lt b g⟩ wr hJs (by rw [grpsTo_length]; omega)
        unfold grpE at hy
        simp only [← hqg] at hy
        have hnext : ∀ W3, J (grpsTo b G (G - g)) W3 → KeepsG bb N Bs wr W3 → ((∃ g t i' p : Nat, g < G ∧ t < 4 ∧ Hid (i' = 4 * g + t) ∧ i' < N ∧ Hid (p = part b g t) ∧ p ≤ 7 ∧ Value.int .i64 ((i : Int) - 1) = .int .i64 i' ∧ Value.int .i64 0 = .int .i64 p ∧ J (grpsTo b G (G - 1 - g)) W3) ∨ (Value.int .i64 ((i : Int) - 1) = .int .i64 (-1) ∧ Value.int .i64 0 = .int .i64 0 ∧ J (grpsTo b G G) W3)) ∧ KeepsG bb N Bs W W3 := by
          intro W3 hJ3 hk3
          refine ⟨?_, keepsG_t HNX.out hk3⟩
          have hi0 := HI.out
          rcases Nat.eq_zero_or_pos g with h0 | h0
          · subst h0
            exact .inr ⟨by rw [hi0]; rfl, rfl, hJ3⟩
          · refine .inl ⟨g - 1, 3, i - 1, 0, by omega, by omega, Lib.hid (by omega), by omega, Lib.hid rfl, by omega, ?_, rfl, ?_⟩
            · rw [show ((i - 1 : Nat) : Int) = (i : Int) - 1 by omega]
            · rw [show G - 1 - (g - 1) = G - g by omega]; exact hJ3
        have HNEXT := Lib.hid hnext; clear hnext
        cases hbi : b i with
        | true =>
          have hq2 : (q : Int) = (p : Int) * 2 + 1 := by rw [HQ.out, hbi]; simp; omega
          rw [hq2] at hy
          rw [hbi] at hcx
          gi_wp2
          refine hR.mono ?_
          rintro e W3 (⟨rfl, hJ3, hk3⟩ | ⟨rfl, hJx3⟩)
          · rw [grps_next b G g hg] at hJ3
            gi_wp2
            go_roundw
            case rel => obtain ⟨h | ⟨h1, _, h3⟩, h4⟩ := HNEXT.out W3 hJ3 hk3
                        · exact ⟨.inl h, h4⟩
                        · exact ⟨.inr ⟨h1, rfl, h3⟩, h4⟩
            case measure => simp [intOf]
          · gi_wp2
            refine bodyPost_ret (results_none rfl _ _ _) rfl ?_
            exact ⟨⟨_, rfl⟩, .inr ⟨_, trivial, hJx3⟩⟩
        | false =>
          have hq2 : (q : Int) = (p : Int) * 2 := by rw [HQ.out, hbi]; simp; omega
          rw [hq2] at hy
          rw [hbi] at hcx
          gi_wp2
          refine hR.mono ?_
          rintro e W3 (⟨rfl, hJ3, hk3⟩ | ⟨rfl, hJx3⟩)
          · rw [grps_next b G g hg] at hJ3
            gi_wp2
            go_roundw
            case rel => obtain ⟨h | ⟨h1, _, h3⟩, h4⟩ := HNEXT.out W3 hJ3 hk3
                        · exact ⟨.inl h, h4⟩
                        · exact ⟨.inr ⟨h1, rfl, h3⟩, h4⟩
            case measure => simp [intOf]
          · gi_wp2
            refine bodyPost_ret (results_none rfl _ _ _) rfl ?_
            exact ⟨⟨_, rfl⟩, .inr ⟨_, trivial, hJx3⟩⟩
      · obtain ⟨t, rfl⟩ : ∃ t', t = t' + 1 := ⟨t - 1, by omega⟩
        have hqp : q = part b g t := by rw [HQ.out, HP.out, HI.out, part_step b g t (by omega)]
        have hnext : ((∃ g t i' p : Nat, g < G ∧ t < 4 ∧ Hid (i' = 4 * g + t) ∧ i' < N ∧ Hid (p = part b g t) ∧ p ≤ 7 ∧ Value.int .i64 ((i : Int) - 1) = .int .i64 i' ∧ Value.int .i64 (q : Int) = .int .i64 p ∧ J (grpsTo b G (G - 1 - g)) wr) ∨ (Value.int .i64 ((i : Int) - 1) = .int .i64 (-1) ∧ Value.int .i64 (q : Int) = .int .i64 0 ∧ J (grpsTo b G G) wr)) ∧ KeepsG bb N Bs W wr := by
          have hi0 := HI.out
          refine ⟨.inl ⟨g, t, i - 1, q, hg, by omega, Lib.hid (by omega), by omega, Lib.hid hqp, by rw [hqp]; exact part_le b g t (by omega), ?_, rfl, hJs⟩, HNX.out⟩
          rw [show ((i - 1 : Nat) : Int) = (i : Int) - 1 by omega]
        have HNEXT := Lib.hid hnext; clear hnext
        have hi1 : 1 ≤ i := by have := HI.out; omega
        have hr0 : ¬ ((i : Int).tmod 4 = 0) := by rw [hr]; omega
        cases hbi : b i with
        | true =>
          have hq2 : (q : Int) = (p : Int) * 2 + 1 := by rw [HQ.out, hbi]; simp; omega
          rw [hbi] at hcx
          gi_wp2
          go_roundw
          case rel => rw [← hq2]; exact HNEXT.out
          case measure => simp [intOf]
        | false =>
          have hq2 : (q : Int) = (p : Int) * 2 := by rw [HQ.out, hbi]; simp; omega
          rw [hbi] at hcx
          gi_wp2
          go_roundw
          case rel => rw [← hq2]; exact HNEXT.out
          case measure => simp [intOf]
    · gi_wp2
      go_end0
      exact ⟨⟨_, rfl⟩, .inl ⟨_, rfl, hJs⟩⟩
theorem groups_stops (F : Fence) (n : Nat) (hf : F.fn 95) (hro : F.round = none) (hn : 1 ≤ n) (Bs bb G N : Nat) (hN : N = 4 * G) (hG : G ≤ 1000) (hG1 : 1 ≤ G) (b : Nat → Bool) (w : World) (hBs : Bs < w.heap.size) (hR : bb < w.heap.size)
    (hb : w.cell? ⟨Bs, 0, none⟩ = some (.slice (some ⟨bb, 0, none⟩) N N)) (hc : ∀ j, j < N → w.cell? ⟨bb, j, none⟩ = some (.bool (b j))) :
    SeqStopsK F n Tryz.prog 95 #[.pointer (some ⟨Bs, 0, none⟩)] grpE (KeepsG bb N Bs) (fun ys => ys = grpsTo b G G) (fun _ => True) G w := fun l J Jx W hW _ _ hY h0 =>
  groups1_in F n hf hro hn l Bs bb G N hN hG hG1 b J Jx hY W ((hW.cell (p := ⟨Bs, 0, none⟩) hBs).trans hb) (fun j hj => (hW.cell (p := ⟨bb, j, none⟩) hR).trans (hc j hj)) h0
end
section
open Go.RowKit Ow Go.Shelf Ed
attribute [local go_sem] Oper.semAt_some
def gthStep (T : Nat) (C : List Pr) (acc : Pr) (x : Grp) : Pr := if x.1 = 0 then nmul (2 ^ T) acc else Ed.add (nmul (2 ^ T) acc) (C.getD x.1 zero)
def gthTo (T : Nat) (C : List Pr) (xs : List Grp) : Pr := xs.foldl (gthStep T C) zero
theorem gthTo_snoc (T : Nat) (C : List Pr) (xs : List Grp) (x : Grp) : gthTo T C (xs ++ [x]) = gthStep T C (gthTo T C xs) x := by simp [gthTo]
structure GthI (w0 : World) (n T RB B3 B6 B7 B8 m : Nat) (C : List Pr) (R : List Ad) (pre : List Grp) (W : World) : Prop where
 t : Blk W B3 3 [.int .i64 (T : Int)]
 r : Blk W B6 36 zr20
 box : Blk W B7 116 [.slice (some ⟨RB, 0, none⟩) m 16]
 pile : Pile W RB 127 (adsL R)
 tab : ETab W
 sum : ∃ s, SmIs s (gthTo T C pre) ∧ Blk W B8 119 (smL s)
 grown : w0.grownBy W none
 size : n ≤ W.heap.size
theorem gthI_own (w0 : World) (n T RB B3 B6 B7 B8 m : Nat) (C : List Pr) (R : List Ad) (k : Nat) (hk : w0.heap.size ≤ k) (HT0 : ETab w0) : OwnFrom k (GthI w0 n T RB B3 B6 B7 B8 m C R) := fun s A B row h hg hr => by
 obtain ⟨q, hq, hs⟩ := h.sum
 refine ⟨blk_from h.t hg hr, blk_from h.r hg hr, blk_from h.box hg hr, ?_, ?_, ⟨q, hq, blk_from hs hg hr⟩, gb_from h.grown hg (fun r e => by have := (hr r e).1; omega), Nat.le_trans h.size hg.size⟩
 ·obtain ⟨rest, hl, hb⟩ := h.pile
  exact ⟨rest, hl, blk_from hb hg hr⟩
 ·cases row with
  | none => exact h.tab.grown hg
  | some r => exact h.tab.keep hg (HT0.noG (by have := (hr r rfl).1; omega))
theorem wplIn_value {F : Fence} {n : Nat} {P : Program} {ops : Array Oper} {Q : Exit → Act → World → Prop} {o : Oper} {r : List Oper} {a : Act} {w w' : World} {v : Value} (hg : o.guard = none) (ha : o.about P w a.eval = none) (hc : ∀ c, o.op ≠ .defer c) (hr : (execOp a.eval o).run P w = .ok (.value v) w') (h : wpListIn F n P ops Q r (a.put o.dst v) w') : wpListIn F n P ops Q (o :: r) a w := by
 refine wpListIn_plain hg fun K hK => ?_
 unfold Oper.wpIn
 refine ⟨?_, ?_⟩
 ·rw [ha]; intro f hf; cases hf
 ·rw [Oper.semAt_plain F _ _ hc, hr]
  exact hK _ _ h
theorem gthI_next {w0 W W' : World} {n T RB B7 B8 m : Nat} {C : List Pr} {R : List Ad} {pre pre' : List Grp} (h : GthI w0 n T RB w0.heap.size (w0.heap.size + 1) B7 B8 m C R pre W) (hg : W.grownBy W' (some B8)) (h0 : w0.heap.size + 1 < B8) (h7 : B7 < B8) (hR : RB < B8) (HT0 : ETab w0)
  (hs : ∃ s, SmIs s (gthTo T C pre') ∧ Blk W' B8 119 (smL s)) : GthI w0 n T RB w0.heap.size (w0.heap.size + 1) B7 B8 m C R pre' W' :=
 ⟨h.t.grown hg (some_ne' (by omega)), h.r.grown hg (some_ne' (by omega)), h.box.grown hg (some_ne' (by omega)), h.pile.grown hg (some_ne' (by omega)), h.tab.keep hg (HT0.noG (by omega)), hs, gb_then h.grown hg (by omega), Nat.le_trans h.size hg.size⟩
theorem keepsG_g {bb N Bs S : Nat} {W W' : World} (hg : W.grownBy W' (some S)) (h1 : bb < W.heap.size) (h2 : Bs < W.heap.size) (n1 : bb ≠ S) (n2 : Bs ≠ S) : KeepsG bb N Bs W W' :=
 ⟨fun j _ => gb_cell hg (p := ⟨bb, j, none⟩) h1 (some_ne' n1), gb_cell hg (p := ⟨Bs, 0, none⟩) h2 (some_ne' n2)⟩
set_option maxRecDepth 100000 in
set_option maxHeartbeats 12800000 in
theorem gather_any (T PB bb N G : Nat) (P4 : List Pt) (ps : List Pr) (V : List Value) (b : Nat → Bool) (w0 : World) (HT0 : ETab w0) (hT : T ≤ 100) (hN : N = 4 * G) (hG : G ≤ 1000) (hG1 : 1 ≤ G) (hn : P4.length = 4) (hI : PtsAre P4 ps) (hPP : Blk w0 PB 36 (ptsL P4 ++ V)) (hbb : bb < w0.heap.size) (hc : ∀ j, j < N → w0.cell? ⟨bb, j, none⟩ = some (.bool (b j))) :
  Calls Tryz.prog 41 #[.int .i64 (T : Int), .slice (some ⟨bb, 0, none⟩) N N, .slice (some ⟨PB, 0, none⟩) 4 4] w0 fun e w' => ∃ t, PtIs t (gthTo T (chs ps) (grpsTo b G G)) ∧ e = .returned t.v ∧ w0.grownBy w' none := by
 have HC := Lib.hid hc; clear hc
 have HN := Lib.hid hN; clear hN
 have hps : ps.length = 4 := hI.1.symm.trans hn
 refine (callsIn_wide (n := 9)).1 ?_
 refine callsIn_of_wp_marks Tryz.func41 rfl trivial ?_ rfl
 simp only [Tryz.ntmps41, List.size_toArray, List.length_cons, List.length_nil, Nat.reduceAdd, Nat.reduceSub, Array.replicate_succ, Array.replicate_zero, List.push_toArray, List.append_toArray, List.nil_append, List.cons_append]
 refine wpIn_wide.2 ?_
 go_upto_region 1 with (fail)
 have hb3 := (blk_at w0 (B := w0.heap.size) [Value.int .i64 (T : Int)] 3 rfl).alloc (.cells zr20.toArray 36)
 have hb6 := blk_at (w0.alloc (.cells #[Value.int .i64 (T : Int)] 3)) (B := w0.heap.size + 1) zr20 36 (by simp)
 have G1 := gb_alloc (gb_alloc (gb_refl w0 none) (.cells #[Value.int .i64 (T : Int)] 3)) (.cells zr20.toArray 36)
 have s1 : ((w0.alloc (.cells #[Value.int .i64 (T : Int)] 3)).alloc (.cells zr20.toArray 36)).heap.size = w0.heap.size + 2 := by simp
 have hP1 := (hPP.alloc (.cells #[Value.int .i64 (T : Int)] 3)).alloc (.cells zr20.toArray 36)
 have hPl := hPP.lt
 clear hPP
 revert hb3 hb6 G1 s1 hP1
 generalize (w0.alloc (.cells #[Value.int .i64 (T : Int)] 3)).alloc (.cells zr20.toArray 36) = W1
 intro hb3 hb6 G1 s1 hP1
 have HT1 := HT0.grown G1
 have HS := Lib.hid (And.intro hb3 (And.intro hb6 G1)); clear hb3 hb6 G1
 go_upto_region 2 with (go_at_call 64; refine (choices_any PB 4 P4 ps V W1 HT1 hn (by decide) hI hP1).mono ?_; rintro e W2 ⟨RB, m, R, rfl, hm, hR, hpile, g2, hRB⟩; obtain rfl : m = 16 := hm)
 have hb3 := (HS.out.1.grown g2 (by simp)).alloc (.cells #[Value.slice (some ⟨RB, 0, none⟩) 16 16] 116)
 have hb6 := (HS.out.2.1.grown g2 (by simp)).alloc (.cells #[Value.slice (some ⟨RB, 0, none⟩) 16 16] 116)
 have hb7 := blk_at W2 (B := W2.heap.size) [Value.slice (some ⟨RB, 0, none⟩) 16 16] 116 rfl
 have hpl := hpile.grown (gb_alloc (gb_refl W2 none) (.cells #[Value.slice (some ⟨RB, 0, none⟩) 16 16] 116)) (by simp)
 have G3 := gb_alloc (gb_trans HS.out.2.2 g2) (.cells #[Value.slice (some ⟨RB, 0, none⟩) 16 16] 116)
 have s3 : (W2.alloc (.cells #[Value.slice (some ⟨RB, 0, none⟩) 16 16] 116)).heap.size = W2.heap.size + 1 := by simp
 have hRBl := hpile.lt
 have z2 := g2.size
 obtain ⟨B7, hB7⟩ : ∃ x, x = W2.heap.size := ⟨_, rfl⟩
 rw [← hB7] at hb7 s3 hRBl z2 ⊢
 clear hpile g2 HS hP1 HT1
 revert hb3 hb6 hb7 hpl G3 s3
 generalize W2.alloc (.cells #[Value.slice (some ⟨RB, 0, none⟩) 16 16] 116) = W3
 intro hb3 hb6 hpl G3 s3 hb7
 clear hB7
 refine wp_region_lit ?_
 refine Fg.wpl_call rfl (Fg.run_call (vs := #[]) rfl rfl (by simp) (Fg.run_enter Tryz.func51 (by kernel_rfl) (by kernel_rfl))) ?_
 refine (edZero _).mono ?_
 rintro e W4 ⟨rfl, g4⟩
 refine ⟨_, rfl, ?_⟩
 refine Fg.wpl_call rfl (Fg.run_call (vs := #[zeroP.v]) rfl rfl (by simp only [List.map_toArray, List.map_cons, List.map_nil, Act.eval]; rfl) (Fg.run_enter Tryz.func65 (by kernel_rfl) (by kernel_rfl))) ?_
 refine (sumOf_any zeroP _).mono ?_
 rintro e W5 ⟨rfl, g5⟩
 refine ⟨_, rfl, ?_⟩
 have g6 := gb_trans g4 g5
 clear g4 g5
 refine Fg.wpl_value (v := .pointer (some ⟨W5.heap.size, 0, none⟩)) (w' := W5.alloc (.cells zr30.toArray 119)) rfl (by go_simp) ?_
 have hb3 := (hb3.grown g6 (by simp)).alloc (.cells zr30.toArray 119)
 have hb6 := (hb6.grown g6 (by simp)).alloc (.cells zr30.toArray 119)
 have hb7 := (hb7.grown g6 (by simp)).alloc (.cells zr30.toArray 119)
 have hb8 := blk_at W5 (B := W5.heap.size) zr30 119 rfl
 have hpl := (hpl.grown g6 (by simp)).grown (gb_alloc (gb_refl W5 none) (.cells zr30.toArray 119)) (by simp)
 have G6 := gb_alloc (gb_trans G3 g6) (.cells zr30.toArray 119)
 have s6 : (W5.alloc (.cells zr30.toArray 119)).heap.size = W5.heap.size + 1 := by simp
 have z6 := g6.size
 obtain ⟨B8, hB8⟩ : ∃ x, x = W5.heap.size := ⟨_, rfl⟩
 rw [← hB8] at hb8 s6 z6 ⊢
 revert hb3 hb6 hb7 hb8 hpl G6 s6
 generalize W5.alloc (.cells zr30.toArray 119) = W6
 intro hb3 hb6 hb7 hpl G6 s6 hb8
 clear hB8
 refine Fg.wpl_skip rfl rfl (Fg.run_store (b := B8) (off := 0) (cs := smL (sumF zeroP)) rfl rfl rfl (hb8.there 0 30 (by show 0 + 30 ≤ 30; decide)) info_sum (smL_one _)) ?_
 refine wpList_nil ?_
 have hb3 := hb3.setCells_other (C := B8) (cs := smL (sumF zeroP)) 0 (by omega)
 have hb6 := hb6.setCells_other (C := B8) (cs := smL (sumF zeroP)) 0 (by omega)
 have hb7 := hb7.setCells_other (C := B8) (cs := smL (sumF zeroP)) 0 (by omega)
 have hpl := hpl.setCells_other (C := B8) (cs := smL (sumF zeroP)) 0 (by omega)
 have hb8 : Blk (W6.setCells B8 0 (smL (sumF zeroP))) B8 119 (smL (sumF zeroP)) := hb8.setAll rfl
 have G7 := gb_setCells_new (cs := smL (sumF zeroP)) G6 (B := B8) (by omega) 0
 have s7 := (gb_setCells (cs := smL (sumF zeroP)) (gb_refl W6 (some B8)) 0).size
 clear G6
 revert hb3 hb6 hb7 hpl hb8 G7 s7
 generalize W6.setCells B8 0 (smL (sumF zeroP)) = W7
 intro hb3 hb6 hb7 hpl hb8 G7 s7
 have HT7 := HT0.grown G7
 have lB3 := hb3.lt
 have lB6 := hb6.lt
 have lB7 := hb7.lt
 have lB8 := hb8.lt
 have lRB := hpl.lt
 have HS := Lib.hid (And.intro hb3 (And.intro hb6 (And.intro hb7 (And.intro hpl (And.intro hb8 (And.intro G7 HT7))))))
 clear hb3 hb6 hb7 hpl hb8 G7 HT7
 generalize zeroP.v = vz
 generalize (sumF zeroP).v = vs
 go_wp2_with (go_at_call 66; refine ((callsIn_wide (n := 8)).1 (groups_in Fence.wide 8 trivial rfl (some ⟨bb, 0, none⟩) N N W7)).mono ?_; rintro e W8 ⟨rfl, hW8⟩; have HW8 := Lib.hid hW8; clear hW8)
 have hW8 := HW8.out; clear HW8
 have hI0 : GthI w0 (W7.heap.size + 1) T RB w0.heap.size (w0.heap.size + 1) B7 B8 16 (chs ps) R [] W8 := by
  obtain ⟨hb3, hb6, hb7, hpl, hb8, G7, HT7⟩ := HS.out
  subst hW8
  exact ⟨hb3.alloc _, hb6.alloc _, hb7.alloc _, hpl.grown (gb_alloc (gb_refl W7 none) _) (by simp), HT7.grown (gb_alloc (gb_refl W7 none) _), ⟨_, sumIs zeroIs, hb8.alloc _⟩, gb_alloc G7 _, by simp⟩
 have hBs : Blk W8 W7.heap.size 74 [.slice (some ⟨bb, 0, none⟩) N N] := by
  subst hW8
  exact blk_at W7 [.slice (some ⟨bb, 0, none⟩) N N] _ rfl
 have hs8 : W8.heap.size = W7.heap.size + 1 := by subst hW8; simp
 clear hW8 HS
 have g70 := hI0.grown.size
 have hcb : ∀ j, j < N → W8.cell? ⟨bb, j, none⟩ = some (.bool (b j)) := fun j hj => by rw [gb_cell hI0.grown (p := ⟨bb, j, none⟩) hbb (by simp)]; exact HC.out j hj
 obtain ⟨NB, hNB⟩ : ∃ x, x = W7.heap.size := ⟨_, rfl⟩
 rw [← hNB] at hI0 hBs hs8 lB3 lB6 lB7 lB8 lRB ⊢
 clear hNB
 refine (wpIn_wide (n := 9)).1 ?_
 refine wpIn_rangeFunc_ownG (F := Fence.wide) (n := 9) rfl (by decide) (gf := 95) (lb := #[.pointer (some ⟨NB, 0, none⟩)]) rfl trivial (enters_of Tryz.func95 (by kernel_rfl) rfl)
  (w0 := W8) (groups_stops Fence.wide 8 trivial rfl (by decide) NB bb G N HN.out hG hG1 b W8 (by omega) (by omega) (hBs.cell (i := 0) rfl) hcb)
  (fun h k => keepsG_t h k) (fun W l o o' hl h _ _ => keepsG_b (n := W8.heap.size) (by omega) (by omega) W l o o' hl h) (Below.refl _ _) (fun _ => rfl)
  (GthI w0 (NB + 1) T RB w0.heap.size (w0.heap.size + 1) B7 B8 16 (chs ps) R) (fun _ _ _ => False) (gthI_own _ _ _ _ _ _ _ _ _ _ _ _ (by omega) HT0) (fun _ _ _ _ _ h _ _ => h) hI0
  (fun x => { tmps := #[.int .i64 (T : Int), .slice (some ⟨bb, 0, none⟩) N N, .slice (some ⟨PB, 0, none⟩) 4 4, .pointer (some ⟨w0.heap.size, 0, none⟩), undef, undef, .pointer (some ⟨w0.heap.size + 1, 0, none⟩), .pointer (some ⟨B7, 0, none⟩), .pointer (some ⟨B8, 0, none⟩), .int .i64 (x.1 : Int), .slice (some ⟨PB, 0, none⟩) 4 4, .slice (some ⟨RB, 0, none⟩) 16 16, vz, vs, .slice (some ⟨bb, 0, none⟩) N N, .func (.func 95) #[] #[.pointer (some ⟨NB, 0, none⟩)], .int .i64 (x.1 : Int), undef, undef, undef, undef, undef, undef, undef, undef, undef, undef], defers := [] }) ?assign ?body ?done ?stop
 case assign =>
  intro l x W K hK
  unfold grpE
  gi_wp2
  exact hK
 case body =>
  rintro l pre x W hI hlen
  obtain ⟨s, hs, hb8⟩ := hI.sum
  have c3 := hI.t.cell (i := 0) rfl
  have HJ := Lib.hid hI; clear hI
  obtain ⟨x, hx16⟩ := x
  show Code.wpIn _ _ _ _ _ { tmps := _, defers := _ } _
  have zW := HJ.out.size
  by_cases hx0 : x = 0
  ·subst hx0
   gi_wp2_with (refine ⟨trivial, ?_⟩; gi_at_call 67; refine (CallsIn.inRound l (callsIn_wide.2 (sdouble_any B8 T s _ W hT HJ.out.tab (HT0.noG (by omega)) hb8 hs))).mono ?_; rintro e W' ⟨rfl, hg', hsb'⟩)
   exact ⟨KeepsFrom.of_grownBy hg' (fun j e => by cases e; omega), keepsG_g hg' (by omega) (by omega) (by omega) (by omega), gthI_next HJ.out hg' (by omega) (by omega) (by omega) HT0 (by rw [gthTo_snoc]; exact hsb')⟩
  ·gi_upto_region 7 with (refine ⟨trivial, ?_⟩; gi_at_call 67; refine (CallsIn.inRound l (callsIn_wide.2 (sdouble_any B8 T s _ W hT HJ.out.tab (HT0.noG (by omega)) hb8 hs))).mono ?_; rintro e W' ⟨rfl, hg', hsb'⟩)
   obtain ⟨s', hs', hb8'⟩ := hsb'
   have hT1 := HJ.out.tab.keep hg' (HT0.noG (S := B8) (by omega))
   have c7 := (HJ.out.box.grown hg' (some_ne' (by omega))).cell (i := 0) rfl
   obtain ⟨rest, _, hrb⟩ := HJ.out.pile.grown hg' (some_ne' (by omega))
   have hRl : R.length = 16 := by rw [hR.1, chs_length, hps]
   have hrg := ads_at hrb x (by omega)
   have hq := hR.2 x (by omega)
   clear hrb
   generalize R.getD x (adF zeroP) = q at hrg hq
   have zW' := hg'.size
   refine wpIn_region_lit ?_
   refine wplIn_value (v := .slice (some ⟨RB, 0, none⟩) 16 16) (w' := W') rfl (by simp [Oper.about]) (fun c h => by cases h) (by go_simp) ?_
   refine wplIn_value (v := .int .i64 (x : Int)) (w' := W') rfl (by simp [Oper.about]) (fun c h => by cases h) (Fg.run_move rfl rfl) ?_
   refine wplIn_value (v := .pointer (some ⟨RB, 20 * x, none⟩)) (w' := W') rfl (by simp [Oper.about]) (fun c h => by cases h) (by go_simp; rw [if_pos (show (x : Int) < 16 by omega), Nat.mul_comm]) ?_
   refine wplIn_value (v := q.v) (w' := W') rfl (by simp [Oper.about]) (fun c h => by cases h) (Fg.run_load rfl rfl hrg Tryz.underlying127 rfl info_addend) ?_
   gi_wp2_with (refine ⟨trivial, ?_⟩; gi_at_call 68; refine (CallsIn.inRound l (callsIn_wide.2 (sadd_any B8 s' q _ _ W' hT1 (HT0.noG (by omega)) hb8' hs' hq))).mono ?_; rintro e W2 ⟨rfl, hg2, hsb2⟩)
   have hx : gthTo T (chs ps) (pre ++ [⟨x, hx16⟩]) = Ed.add (nmul (2 ^ T) (gthTo T (chs ps) pre)) ((chs ps).getD x zero) := by rw [gthTo_snoc]; unfold gthStep; rw [if_neg hx0]
   have hI1 := gthI_next (pre' := pre ++ [⟨x, hx16⟩]) HJ.out (gb_trans hg' hg2) (by omega) (by omega) (by omega) HT0 (by rw [hx]; exact hsb2)
   exact ⟨KeepsFrom.of_grownBy (gb_trans hg' hg2) (fun j e => by cases e; omega), keepsG_g (gb_trans hg' hg2) (by omega) (by omega) (by omega) (by omega), hI1⟩
 case done =>
  rintro D ys W hD rfl hI hK
  obtain ⟨s, hs, hb8⟩ := hI.sum
  have hDl : D < W.heap.size := (Array.getElem?_eq_some_iff.1 hK).1
  have HK := Lib.hid hK; clear hK
  go_upto_region 8 with (fail)
  refine wp_region_lit ?_
  refine Fg.wpl_call rfl (Fg.run_call (vs := #[.pointer (some ⟨B8, 0, none⟩)]) rfl rfl (by simp only [List.map_toArray, List.map_cons, List.map_nil, Act.eval]; rfl) (Fg.run_enter Tryz.func69 (by kernel_rfl) (by kernel_rfl))) ?_
  refine (point_any B8 s W hb8 hs.ok).mono ?_
  rintro e W1 ⟨rfl, g1, _⟩
  refine ⟨_, rfl, ?_⟩
  have hb6 := hI.r.grown g1 (some_ne' (by omega))
  have k1 := (g1.block D hDl (some_ne' (by omega))).trans HK.out
  have z1 := g1.size
  refine Fg.wpl_skip rfl rfl (Fg.run_store (b := w0.heap.size + 1) (off := 0) (cs := ptL (pointF s)) rfl rfl rfl (hb6.there 0 20 (by show 0 + 20 ≤ 20; decide)) info_point (ptL_one _)) ?_
  refine wpList_nil ?_
  have g2 := gb_setCells (cs := ptL (pointF s)) (gb_refl W1 (some (w0.heap.size + 1))) 0
  have hb6 : Blk (W1.setCells (w0.heap.size + 1) 0 (ptL (pointF s))) (w0.heap.size + 1) 36 (ptL (pointF s)) := hb6.setAll rfl
  have G2 := gb_then (gb_then hI.grown g1 (by omega)) g2 (by omega)
  have k2 := (g2.block D (by omega) (some_ne' (by omega))).trans k1
  have z2 := g2.size
  clear g2 k1
  revert hb6 G2 k2 z2
  generalize W1.setCells (w0.heap.size + 1) 0 (ptL (pointF s)) = W2
  intro hb6 G2 k2 z2
  have hp := pointIs hs
  generalize pointF s = tt at hb6 hp ⊢
  obtain ⟨tv, htv⟩ : ∃ v, v = tt.v := ⟨_, rfl⟩
  rw [← htv]
  go_upto_region 9 with (fail)
  have hpo := grownBy_putObj' W2 D (.deferred none)
  have hb6 := hb6.grown hpo (some_ne' (by omega))
  have G3 := gb_then G2 hpo (by omega)
  refine ⟨by simp, .inl ⟨_, _, rfl, run_takeDeferred k2, ?_⟩⟩
  refine ⟨tv, ?_, tt, hp, by rw [htv], G3⟩
  rw [htv]
  exact results_cell_row Tryz.results41 _ _ (w0.heap.size + 1) 36 (ptL tt).toArray (0, 0) _ rfl hb6 Tryz.underlying36 rfl info_point
 case stop =>
  rintro D c pre W _ _ h _
  exact h.elim
end
section
open Go.RowKit Ow
def bytesN (n k : Nat) : List Nat := (List.range k).map (Sc.byt n)
theorem bytesN_length (n k : Nat) : (bytesN n k).length = k := by simp [bytesN]
theorem bytesN_succ (n k : Nat) : bytesN n (k + 1) = bytesN n k ++ [Sc.byt n k] := by simp [bytesN, List.range_succ]
theorem bytesN_get (n k i : Nat) (h : i < k) : (bytesN n k).getD i 0 = Sc.byt n i := by
 unfold bytesN; rw [List.getD_eq_getElem?_getD, List.getElem?_map, List.getElem?_range h]; rfl
theorem bytesN_lt (n k i : Nat) : (bytesN n k).getD i 0 < 256 := by
 by_cases h : i < k
 ·rw [bytesN_get n k i h]; exact Sc.byt_lt _ _
 ·rw [List.getD_eq_getElem?_getD, List.getElem?_eq_none (by rw [bytesN_length]; omega)]; decide
theorem num_bytesN (n k : Nat) : num (bytesN n k) = n % 2 ^ (8 * k) := by
 unfold num
 rw [bytesN_length, ← Sc.leN_byt n k]
 exact Sc.leN_congr _ _ _ fun i hi => bytesN_get n k i hi
theorem word_byte (n j i : Nat) (hi : i < 8) : Sc.wrd n j / 2 ^ (8 * i) % 256 = Sc.byt n (8 * j + i) := by
 have e : (18446744073709551616 : Nat) = 2 ^ (8 * i) * (256 * 2 ^ (56 - 8 * i)) := by
  rw [show (256 : Nat) = 2 ^ 8 by rfl, ← Nat.pow_add, ← Nat.pow_add, show (18446744073709551616 : Nat) = 2 ^ 64 by rfl]; congr 1; omega
 unfold Sc.wrd Sc.byt
 rw [e, Nat.mod_mul_right_div_self, Nat.mod_mul_right_mod, Nat.div_div_eq_div_mul, ← Nat.pow_add]
 congr 3; omega
set_option maxRecDepth 100000 in
set_option maxHeartbeats 1600000 in
theorem nbytes_any (n : Nat) (w : World) :
  Calls Tryz.prog 26 #[narrowV n] w fun e w' => ∃ g, e = .returned (.slice (some ⟨g, 0, none⟩) 32 32) ∧ w.grownBy w' none ∧ w'.ownsRow w.heap.size 5 1 (.slice (some ⟨g, 0, none⟩) 32 32) 32 ((bytesN n 32).map u8N) := by
 obtain ⟨i, z, hi, hz, hs, hb, hc⟩ := Ow.info_u8
 obtain ⟨w1, hmk, ho1, hg1⟩ := run_make_own (w.alloc (.cells #[wV n 0, wV n 1, wV n 2, wV n 3] 54)) w.heap.size 22 5 i z 1 (P := Tryz.prog) Tryz.underlying22 hi hz hs .i64 .i64 32 (by rw [hb]; omega) (by unfold maxLen; omega) (by simp)
 have hsz : (w.alloc (.cells #[wV n 0, wV n 1, wV n 2, wV n 3] 54)).heap.size = w.heap.size + 1 := by simp
 rw [hsz] at hmk ho1
 have hmk' : (Instr.makeSlice 22 (.int .i64 0) (.int .i64 32)).run Tryz.prog (w.alloc (.cells #[wV n 0, wV n 1, wV n 2, wV n 3] 54)) = .ok (.slice (some ⟨w.heap.size + 1, 0, none⟩) 0 32) w1 := hmk
 clear hmk
 have hg01 := gb_trans (gb_alloc (gb_refl w none) _) hg1
 have hbx := (Blk.new w [wV n 0, wV n 1, wV n 2, wV n 3] 54).grown hg1 (by simp)
 have HO := Lib.hid (And.intro ho1 hg01); clear ho1 hg01 hg1 hi hz hs hb hc hsz
 have hidx : ∀ j : Nat, j < 4 → ∀ w, (Instr.index 54 (.agg #[wV n 0, wV n 1, wV n 2, wV n 3]) (.int .i64 j)).run Tryz.prog w = .ok (.int .u64 (Sc.wrd n j : Int)) w := by
  intro j hj w
  obtain rfl | rfl | rfl | rfl : j = 0 ∨ j = 1 ∨ j = 2 ∨ j = 3 := by omega
  all_goals kernel_rfl
 unfold wV u64N at hmk' hidx hbx
 have c0 := hbx.cell (i := 0) rfl
 have c1 := hbx.cell (i := 1) rfl
 have c2 := hbx.cell (i := 2) rfl
 have c3 := hbx.cell (i := 3) rfl
 have HIX := Lib.hid hidx; clear hidx hbx
 unfold narrowV wV u64N
 go_enter Tryz.func26, Tryz.ntmps26
 go_wp2
 go_loopw [3, 8] (fun v i wr => ∃ j m : Nat, j ≤ 4 ∧ m = 8 * j ∧ i = .int .i64 j ∧ v = .slice (some ⟨w.heap.size + 1, 0, none⟩) m 32 ∧ wr.ownsRow w.heap.size 5 1 (.slice (some ⟨w.heap.size + 1, 0, none⟩) m 32) m ((bytesN n m).map u8N) ∧ w.grownBy wr none) (fun _ i _ => 4 - (intOf i).toNat)
 case atStart => exact ⟨0, 0, by omega, rfl, rfl, rfl, HO.out.1, HO.out.2⟩
 case round =>
  obtain ⟨j, m, hj, hm, rfl, rfl, hown, hg⟩ := hrel
  by_cases hlt : j < 4
  ·have hix := HIX.out j hlt
   have HI := Lib.hid (And.intro hown (And.intro hg hm)); clear hown hg hm
   obtain ⟨y, hy⟩ : ∃ y, y = Sc.wrd n j := ⟨_, rfl⟩
   have hyl : y < 18446744073709551616 := by rw [hy]; exact Sc.wrd_lt n j
   rw [← hy] at hix
   have HY := Lib.hid hy; clear hy
   have i0 : (j : Int) < 4 := by omega
   go_wp2
   go_loopw [3, 5, 11] (fun v y i wr => ∃ k m' x : Nat, k ≤ 8 ∧ m' = 8 * j + k ∧ x = Sc.wrd n j / 2 ^ (8 * k) ∧ i = .int .i64 k ∧ y = .int .u64 x ∧ v = .slice (some ⟨w.heap.size + 1, 0, none⟩) m' 32 ∧ wr.ownsRow w.heap.size 5 1 (.slice (some ⟨w.heap.size + 1, 0, none⟩) m' 32) m' ((bytesN n m').map u8N) ∧ w.grownBy wr none) (fun _ _ i _ => 8 - (intOf i).toNat)
   case atStart => exact ⟨0, m, y, by omega, by rw [HI.out.2.2]; rfl, by rw [HY.out]; simp, rfl, rfl, rfl, HI.out.1, HI.out.2.1⟩
   case round =>
    clear HI hix HY hyl
    obtain ⟨k, m', x, hk, hm', hx, rfl, rfl, rfl, hown, hg⟩ := hrel
    by_cases hkl : k < 8
    ·obtain ⟨b, hb⟩ : ∃ b, b = Sc.byt n m' := ⟨_, rfl⟩
     have hbl : b < 256 := by rw [hb]; exact Sc.byt_lt _ _
     have he : (x : Int) % 256 = (b : Int) := by
      have := word_byte n j k hkl
      rw [← hm', ← hx, ← hb] at this
      omega
     have hxl : x < 18446744073709551616 := by rw [hx]; exact Nat.lt_of_le_of_lt (Nat.div_le_self _ _) (Sc.wrd_lt n j)
     obtain ⟨w3, hap, ho3, hg3⟩ := append_byte_fits wr w.heap.size (w.heap.size + 1) m' 32 b _ hbl hown (by omega)
     have hg4 := gb_then hg hg3 (by omega)
     have hq : ((bytesN n m').map u8N) ++ [u8N b] = (bytesN n (m' + 1)).map u8N := by rw [bytesN_succ, hb, List.map_append]; rfl
     rw [hq] at ho3
     have hx2 : ((x / 256 : Nat) : Int) = (x : Int) / 256 := by omega
     have hx3 : x / 256 = Sc.wrd n j / 2 ^ (8 * (k + 1)) := by
      rw [hx, Nat.div_div_eq_div_mul, show 8 * (k + 1) = 8 * k + 8 by omega, Nat.pow_add]
     unfold u8N at hap
     have HI := Lib.hid (And.intro hap (And.intro ho3 (And.intro hg4 (And.intro hm' (And.intro hx2 hx3))))); clear hap ho3 hg4 hg3 hm' hx2 hx3 hx hb hown hg hq
     have i0 : (k : Int) < 8 := by omega
     go_wp2_with (at_builtin; refine wpList_append_run rfl (.tmp 13) (.tmp 16) 22 rfl rfl _ _ rfl rfl _ _ HI.out.1 ?_)
     go_roundw
     case rel => exact ⟨k + 1, m' + 1, x / 256, by omega, by have := HI.out.2.2.2.1; omega, HI.out.2.2.2.2.2, by go_num, by rw [HI.out.2.2.2.2.1], rfl, HI.out.2.1, HI.out.2.2.1⟩
     case measure => simp [intOf]; omega
    ·obtain rfl : k = 8 := by omega
     have HI := Lib.hid (And.intro hown (And.intro hg hm')); clear hown hg hm' hx
     go_wp2
     go_roundw
     case rel => exact ⟨j + 1, m', by omega, by have := HI.out.2.2; omega, by go_num, rfl, HI.out.1, HI.out.2.1⟩
     case measure => simp [intOf]; omega
  ·obtain rfl : j = 4 := by omega
   obtain rfl : m = 32 := by omega
   have HI := Lib.hid (And.intro hown hg); clear hown hg hm
   go_wp2
   go_ret
   exact ⟨_, rfl, HI.out.2, HI.out.1⟩
end
section
namespace Sc
theorem pow64 (j : Nat) : (2 : Nat) ^ (64 * (j + 1)) = 2 ^ (64 * j) * 18446744073709551616 := by rw [show 64 * (j + 1) = 64 * j + 64 by omega, Nat.pow_add]
theorem wrd_low (n i j : Nat) (h : i < j) : wrd (n % 2 ^ (64 * j)) i = wrd n i := by
 have e : (2 : Nat) ^ (64 * j) = 2 ^ (64 * i) * (18446744073709551616 * 2 ^ (64 * (j - i - 1))) := by
  rw [show (18446744073709551616 : Nat) = 2 ^ 64 by rfl, ← Nat.pow_add, ← Nat.pow_add]; congr 1; omega
 unfold wrd
 rw [e, Nat.mod_mul_right_div_self, Nat.mod_mul_right_mod]
theorem wrd_high (n i j : Nat) : wrd n (j + i) = wrd (n / 2 ^ (64 * j)) i := by
 unfold wrd
 rw [Nat.div_div_eq_div_mul, ← Nat.pow_add]
 congr 3; omega
theorem setw (M j v : Nat) (hv : v < 18446744073709551616) : ∃ M', wrd M' j = v ∧ (∀ i, i ≠ j → wrd M' i = wrd M i) ∧ M' + wrd M j * 2 ^ (64 * j) = M + v * 2 ^ (64 * j) := by
 have hp : 0 < 2 ^ (64 * j) := Nat.pow_pos (by decide)
 have e1 := Nat.div_add_mod M (2 ^ (64 * j))
 have hl := Nat.mod_lt M hp
 refine ⟨(M / 2 ^ (64 * j) / 18446744073709551616 * 18446744073709551616 + v) * 2 ^ (64 * j) + M % 2 ^ (64 * j), ?_, ?_, ?_⟩
 ·unfold wrd
  rw [Nat.mul_comm _ (2 ^ (64 * j)), Nat.mul_add_div hp, Nat.div_eq_of_lt hl]
  omega
 ·intro i hi
  rcases Nat.lt_or_ge i j with h | h
  ·rw [← wrd_low _ i j h, ← wrd_low M i j h, Nat.mul_comm _ (2 ^ (64 * j)), Nat.mul_add_mod, Nat.mod_mod]
  ·obtain ⟨d, rfl⟩ : ∃ d, i = (j + 1) + d := ⟨i - (j + 1), by omega⟩
   rw [wrd_high, wrd_high M, pow64, ← Nat.div_div_eq_div_mul, ← Nat.div_div_eq_div_mul, Nat.mul_comm _ (2 ^ (64 * j)), Nat.mul_add_div hp, Nat.div_eq_of_lt hl]
   congr 1; omega
 ·have e2 : wrd M j = M / 2 ^ (64 * j) % 18446744073709551616 := rfl
  have e3 := Nat.div_add_mod (M / 2 ^ (64 * j)) 18446744073709551616
  rw [e2]
  generalize M / 2 ^ (64 * j) = q at *
  generalize M % 2 ^ (64 * j) = r at *
  generalize 2 ^ (64 * j) = p at *
  have e4 : (q / 18446744073709551616 * 18446744073709551616 + v) * p + q % 18446744073709551616 * p = (q + v) * p := by rw [← Nat.add_mul]; congr 1; omega
  rw [Nat.add_mul q] at e4
  rw [Nat.mul_comm] at e1
  omega
theorem mod_next (n k : Nat) : n % 2 ^ (64 * (k + 1)) = n % 2 ^ (64 * k) + wrd n k * 2 ^ (64 * k) := by
 rw [pow64, Nat.mod_mul, Nat.mul_comm (2 ^ (64 * k))]; rfl
theorem mul_in (M N x b i k o : Nat) (h : M + o * 2 ^ (64 * (i + k)) = N + x * (b % 2 ^ (64 * k)) * 2 ^ (64 * i)) :
  ∃ M', wrd M' (i + k) = (x * wrd b k + wrd M (i + k) + o) % 18446744073709551616 ∧ (∀ j, j ≠ i + k → wrd M' j = wrd M j) ∧
   M' + (x * wrd b k + wrd M (i + k) + o) / 18446744073709551616 * 2 ^ (64 * (i + k + 1)) = N + x * (b % 2 ^ (64 * (k + 1))) * 2 ^ (64 * i) := by
 obtain ⟨M', h1, h2, h3⟩ := setw M (i + k) ((x * wrd b k + wrd M (i + k) + o) % 18446744073709551616) (Nat.mod_lt _ (by decide))
 refine ⟨M', h1, h2, ?_⟩
 rw [pow64, mod_next, Nat.mul_add x, Nat.add_mul]
 have e1 : x * (wrd b k * 2 ^ (64 * k)) * 2 ^ (64 * i) = x * wrd b k * 2 ^ (64 * (i + k)) := by
  rw [show 64 * (i + k) = 64 * k + 64 * i by omega, Nat.pow_add]; simp [Nat.mul_assoc]
 rw [e1, ← Nat.add_assoc, ← h]
 generalize x * wrd b k = y at *
 generalize 2 ^ (64 * (i + k)) = p at *
 generalize wrd M (i + k) = m at *
 have e2 := Nat.div_add_mod (y + m + o) 18446744073709551616
 have e3 : (18446744073709551616 * ((y + m + o) / 18446744073709551616) + (y + m + o) % 18446744073709551616) * p = (y + m + o) * p := by rw [e2]
 rw [Nat.add_mul, Nat.add_mul, Nat.add_mul] at e3
 have e4 : (y + m + o) / 18446744073709551616 * (p * 18446744073709551616) = 18446744073709551616 * ((y + m + o) / 18446744073709551616) * p := by
  rw [Nat.mul_comm p, ← Nat.mul_assoc, Nat.mul_comm 18446744073709551616]
 rw [e4]
 omega
def part (a b c i : Nat) : Nat := c + a % 2 ^ (64 * i) * b
theorem part_lt (a b c i : Nat) (hb : b < 2 ^ 256) (hc : c < 2 ^ 256) : part a b c i < 2 ^ (64 * (i + 4)) := by
 have e : (2 : Nat) ^ (64 * (i + 4)) = 2 ^ (64 * i) * 2 ^ 256 := by rw [← Nat.pow_add]; congr 1
 have hp : 0 < 2 ^ (64 * i) := Nat.pow_pos (by decide)
 have h1 := Nat.mod_lt a hp
 unfold part
 rw [e]
 have h2 := Nat.mul_le_mul (show a % 2 ^ (64 * i) ≤ 2 ^ (64 * i) - 1 by omega) (show b ≤ 2 ^ 256 - 1 by omega)
 have h3 : (2 ^ (64 * i) - 1) * (2 ^ 256 - 1) + (2 ^ 256 - 1) = 2 ^ (64 * i) * (2 ^ 256 - 1) := by
  obtain ⟨p, hp2⟩ : ∃ p, 2 ^ (64 * i) = p + 1 := ⟨2 ^ (64 * i) - 1, by omega⟩
  rw [hp2, Nat.add_sub_cancel, Nat.add_mul, Nat.one_mul]
 have h4 : 2 ^ (64 * i) * (2 ^ 256 - 1) < 2 ^ (64 * i) * 2 ^ 256 := Nat.mul_lt_mul_of_pos_left (by decide) hp
 omega
theorem part_top (a b c i j : Nat) (hb : b < 2 ^ 256) (hc : c < 2 ^ 256) (hj : i + 4 ≤ j) : wrd (part a b c i) j = 0 := by
 have h := part_lt a b c i hb hc
 have h2 : (2 : Nat) ^ (64 * (i + 4)) ≤ 2 ^ (64 * j) := Nat.pow_le_pow_right (by decide) (by omega)
 unfold wrd
 rw [Nat.div_eq_of_lt (by omega)]
theorem part_next (a b c i : Nat) : part a b c (i + 1) = part a b c i + wrd a i * b * 2 ^ (64 * i) := by
 unfold part
 rw [mod_next, Nat.add_mul, Nat.mul_assoc (wrd a i), Nat.mul_assoc (wrd a i), Nat.mul_comm b, Nat.add_assoc]
theorem part_end (a b c : Nat) (ha : a < 2 ^ 256) : part a b c 4 = a * b + c := by
 unfold part
 rw [Nat.mod_eq_of_lt ha, Nat.add_comm]
theorem mul_out (M N x b i o : Nat) (hb : b < 2 ^ 256) (h : M + o * 2 ^ (64 * (i + 4)) = N + x * (b % 2 ^ (64 * 4)) * 2 ^ (64 * i)) (hz : wrd M (i + 4) = 0) (ho : o < 18446744073709551616) :
  ∃ M', wrd M' (i + 4) = o ∧ (∀ j, j ≠ i + 4 → wrd M' j = wrd M j) ∧ M' = N + x * b * 2 ^ (64 * i) := by
 obtain ⟨M', h1, h2, h3⟩ := setw M (i + 4) o ho
 refine ⟨M', h1, h2, ?_⟩
 rw [hz, Nat.zero_mul, Nat.add_zero, h, Nat.mod_eq_of_lt hb] at h3
 exact h3
theorem over_lt (x y m o : Nat) (hx : x < 18446744073709551616) (hy : y < 18446744073709551616) (hm : m < 18446744073709551616) (ho : o < 18446744073709551616) : (x * y + m + o) / 18446744073709551616 < 18446744073709551616 := by
 have h := Nat.mul_le_mul (show x ≤ 18446744073709551615 by omega) (show y ≤ 18446744073709551615 by omega)
 omega
end Sc
end
section
open Go.RowKit Ow
theorem size_u64 : (Tryz.prog.info? 32).map (·.size) = some 1 := by kernel_rfl
theorem copy_words (R C c : Nat) (T S : TypeId) (tl : List Value) (w : World) (hR : Blk w R T (wds 0 8 ++ tl)) (hC : Blk w C S [wV c 0, wV c 1, wV c 2, wV c 3]) (hc : c < 2 ^ 256) :
  ∃ w', (Builtin.copy_ #[81, 81] 3 #[.slice (some ⟨R, 0, none⟩) 8 8, .slice (some ⟨C, 0, none⟩) 4 4]).run Tryz.prog w = .ok (.int .i64 4) w' ∧ w.grownBy w' (some R) ∧ Blk w' R T (wds c 8 ++ tl) := by
 have h := run_copy_row (P := Tryz.prog) w 81 81 3 32 R 0 8 8 ⟨C, 0, none⟩ 4 4 (wds 0 8 ++ tl).toArray T [wV c 0, wV c 1, wV c 2, wV c 3] Tryz.underlying81 size_u64 hR rfl
  (fun j v hv => by
   have hj : j < 4 := by
    rcases Nat.lt_or_ge j 4 with h | h
    ·exact h
    ·rw [List.getElem?_eq_none (by simpa using h)] at hv; cases hv
   have hadd : (⟨C, 0, none⟩ : Addr).add j = ⟨C, j, none⟩ := by unfold Addr.add; split <;> simp_all
   rw [hadd]; exact hC.cell hv) (by simp [wds]; omega) (by intro v hv; simp at hv; rcases hv with rfl | rfl | rfl | rfl <;> rfl)
 refine ⟨_, h, gb_setRow' (gb_refl _ _) _, ?_⟩
 have e : ((wds 0 8 ++ tl).toArray.toList.take 0 ++ ([wV c 0, wV c 1, wV c 2, wV c 3] ++ (wds 0 8 ++ tl).toArray.toList.drop (0 + 4))) = wds c 8 ++ tl := by
  have z : ∀ j, 4 ≤ j → wV c j = wV 0 j := fun j hj => by
   have hp : (2 : Nat) ^ 256 ≤ 2 ^ (64 * j) := Nat.pow_le_pow_right (by decide) (by omega)
   unfold wV Sc.wrd
   rw [Nat.div_eq_of_lt (by omega), Nat.zero_div]
  rw [wds8, wds8, z 4 (by decide), z 5 (by decide), z 6 (by decide), z 7 (by decide)]
  rfl
 rw [← e]
 exact hR.row _
theorem narrow_index (n j : Nat) (hj : j < 4) : ∀ w, (Instr.index 54 (.agg #[.int .u64 (Sc.wrd n 0 : Int), .int .u64 (Sc.wrd n 1 : Int), .int .u64 (Sc.wrd n 2 : Int), .int .u64 (Sc.wrd n 3 : Int)]) (.int .i64 j)).run Tryz.prog w = .ok (.int .u64 (Sc.wrd n j : Int)) w := by
 intro w
 obtain rfl | rfl | rfl | rfl : j = 0 ∨ j = 1 ∨ j = 2 ∨ j = 3 := by omega
 all_goals kernel_rfl
set_option maxRecDepth 100000 in
set_option maxHeartbeats 1600000 in
theorem mulAdd_any (R a b c : Nat) (T : TypeId) (Y tl : List Value) (w : World) (hY : Y.length = 8) (ha : a < 2 ^ 256) (hbb : b < 2 ^ 256) (hc : c < 2 ^ 256) (hb : Blk w R T (Y ++ tl)) :
  Calls Tryz.prog 34 #[.pointer (some ⟨R, 0, none⟩), narrowV a, narrowV b, narrowV c] w fun e w' => e = .returned (.tuple #[]) ∧ w.grownBy w' (some R) ∧ Blk w' R T (wds (a * b + c) 8 ++ tl) := by
 have HB := Lib.hid hb; clear hb
 match Y, hY with
 | [y0, y1, y2, y3, y4, y5, y6, y7], _ =>
  have hR := HB.out.lt
  have hb3 := ((HB.out.alloc (.cells #[wV a 0, wV a 1, wV a 2, wV a 3] 54)).alloc (.cells #[wV b 0, wV b 1, wV b 2, wV b 3] 54)).alloc (.cells #[wV c 0, wV c 1, wV c 2, wV c 3] 54)
  unfold wV u64N at hb3
  have c0 := hb3.cell (i := 0) rfl
  have c1 := hb3.cell (i := 1) rfl
  have c2 := hb3.cell (i := 2) rfl
  have c3 := hb3.cell (i := 3) rfl
  have c4 := hb3.cell (i := 4) rfl
  have c5 := hb3.cell (i := 5) rfl
  have c6 := hb3.cell (i := 6) rfl
  have c7 := hb3.cell (i := 7) rfl
  have f0 := hb3.free 0
  have f1 := hb3.free 1
  have f2 := hb3.free 2
  have f3 := hb3.free 3
  have f4 := hb3.free 4
  have f5 := hb3.free 5
  have f6 := hb3.free 6
  have f7 := hb3.free 7
  have HB3 := Lib.hid hb3; clear hb3
  unfold narrowV wV u64N
  go_enter Tryz.func34, Tryz.ntmps34
  go_wp2
  have hA := (((Blk.new w [wV a 0, wV a 1, wV a 2, wV a 3] 54).alloc (.cells #[wV b 0, wV b 1, wV b 2, wV b 3] 54)).alloc (.cells #[wV c 0, wV c 1, wV c 2, wV c 3] 54))
  have hBB := ((blk_at (w.alloc (.cells #[wV a 0, wV a 1, wV a 2, wV a 3] 54)) (B := w.heap.size + 1) [wV b 0, wV b 1, wV b 2, wV b 3] 54 (by simp)).alloc (.cells #[wV c 0, wV c 1, wV c 2, wV c 3] 54))
  have hC := (blk_at ((w.alloc (.cells #[wV a 0, wV a 1, wV a 2, wV a 3] 54)).alloc (.cells #[wV b 0, wV b 1, wV b 2, wV b 3] 54)) (B := w.heap.size + 1 + 1) [wV c 0, wV c 1, wV c 2, wV c 3] 54 (by simp))
  have hg3 := gb_alloc (gb_alloc (gb_alloc (gb_refl w (some R)) (.cells #[wV a 0, wV a 1, wV a 2, wV a 3] 54)) (.cells #[wV b 0, wV b 1, wV b 2, wV b 3] 54)) (.cells #[wV c 0, wV c 1, wV c 2, wV c 3] 54)
  unfold wV u64N at hA hBB hC hg3
  have HB3' := HB3.out
  clear c0 c1 c2 c3 c4 c5 c6 c7 f0 f1 f2 f3 f4 f5 f6 f7 HB3 HB
  revert hA hBB hC hg3 HB3'
  have hs0 : w.heap.size + 3 ≤ (((w.alloc (.cells #[.int .u64 (Sc.wrd a 0 : Int), .int .u64 (Sc.wrd a 1 : Int), .int .u64 (Sc.wrd a 2 : Int), .int .u64 (Sc.wrd a 3 : Int)] 54)).alloc (.cells #[.int .u64 (Sc.wrd b 0 : Int), .int .u64 (Sc.wrd b 1 : Int), .int .u64 (Sc.wrd b 2 : Int), .int .u64 (Sc.wrd b 3 : Int)] 54)).alloc (.cells #[.int .u64 (Sc.wrd c 0 : Int), .int .u64 (Sc.wrd c 1 : Int), .int .u64 (Sc.wrd c 2 : Int), .int .u64 (Sc.wrd c 3 : Int)] 54)).heap.size := by simp
  revert hs0
  generalize ((w.alloc (.cells #[.int .u64 (Sc.wrd a 0 : Int), .int .u64 (Sc.wrd a 1 : Int), .int .u64 (Sc.wrd a 2 : Int), .int .u64 (Sc.wrd a 3 : Int)] 54)).alloc (.cells #[.int .u64 (Sc.wrd b 0 : Int), .int .u64 (Sc.wrd b 1 : Int), .int .u64 (Sc.wrd b 2 : Int), .int .u64 (Sc.wrd b 3 : Int)] 54)).alloc (.cells #[.int .u64 (Sc.wrd c 0 : Int), .int .u64 (Sc.wrd c 1 : Int), .int .u64 (Sc.wrd c 2 : Int), .int .u64 (Sc.wrd c 3 : Int)] 54) = W3
  intro hs0 hA hBB hC hg3 hR3
  have hR4 := (((((((hR3.set 0 (wV 0 0)).set 1 (wV 0 1)).set 2 (wV 0 2)).set 3 (wV 0 3)).set 4 (wV 0 4)).set 5 (wV 0 5)).set 6 (wV 0 6)).set 7 (wV 0 7)
  have hG4 := gb_set (gb_set (gb_set (gb_set (gb_set (gb_set (gb_set (gb_set hg3 0 (wV 0 0)) 1 (wV 0 1)) 2 (wV 0 2)) 3 (wV 0 3)) 4 (wV 0 4)) 5 (wV 0 5)) 6 (wV 0 6)) 7 (wV 0 7)
  have hgA := gb_set (gb_set (gb_set (gb_set (gb_set (gb_set (gb_set (gb_set (gb_refl W3 (some R)) 0 (wV 0 0)) 1 (wV 0 1)) 2 (wV 0 2)) 3 (wV 0 3)) 4 (wV 0 4)) 5 (wV 0 5)) 6 (wV 0 6)) 7 (wV 0 7)
  have hR5 : Blk _ R T (wds 0 8 ++ tl) := hR4
  have hA4 := hA.grown hgA (some_ne' (by omega))
  have hB4 := hBB.grown hgA (some_ne' (by omega))
  have hC4 := hC.grown hgA (some_ne' (by omega))
  simp only [wV0] at hR5 hG4 hA4 hB4 hC4
  clear hR4 hgA hA hBB hC hg3 hR3 hs0
  revert hR5 hG4 hA4 hB4 hC4
  generalize (((((((W3.setCell ⟨R, 0, none⟩ (.int .u64 0)).setCell ⟨R, 1, none⟩ (.int .u64 0)).setCell ⟨R, 2, none⟩ (.int .u64 0)).setCell ⟨R, 3, none⟩ (.int .u64 0)).setCell ⟨R, 4, none⟩ (.int .u64 0)).setCell ⟨R, 5, none⟩ (.int .u64 0)).setCell ⟨R, 6, none⟩ (.int .u64 0)).setCell ⟨R, 7, none⟩ (.int .u64 0) = W4
  intro hR5 hG4 hA4 hB4 hC4
  obtain ⟨w5, hcp, hg5, hb5⟩ := copy_words R (w.heap.size + 1 + 1) c T _ tl W4.drew hR5.drew hC4.drew hc
  have hGG := Lib.hid (gb_trans (gb_drew hG4) hg5)
  have HA := Lib.hid (hA4.drew.grown hg5 (some_ne' (by omega)))
  have HBB := Lib.hid (hB4.drew.grown hg5 (some_ne' (by omega)))
  have HR := Lib.hid hb5
  clear hb5 hg5 hR5 hG4 hA4 hB4 hC4
  have hcA := HA.out
  have a0 := hcA.cell (i := 0) rfl
  have a1 := hcA.cell (i := 1) rfl
  have a2 := hcA.cell (i := 2) rfl
  have a3 := hcA.cell (i := 3) rfl
  clear hcA
  go_region
  all_goals go_wp2
  have hz : Sc.part a b c 0 = c := by unfold Sc.part; rw [Nat.mul_zero, Nat.pow_zero, Nat.mod_one, Nat.zero_mul, Nat.add_zero]
  have HR0 : Hid (Blk w5 R T (wds (Sc.part a b c 0) 8 ++ tl)) := by rw [hz]; exact HR
  clear hz a0 a1 a2 a3
  go_loopw [22] (fun t wr => ∃ i : Nat, i ≤ 4 ∧ t = .int .i64 i ∧ w.grownBy wr (some R) ∧ Blk wr R T (wds (Sc.part a b c i) 8 ++ tl) ∧ Blk wr (w.heap.size + 1) 54 [.int .u64 (Sc.wrd b 0 : Int), .int .u64 (Sc.wrd b 1 : Int), .int .u64 (Sc.wrd b 2 : Int), .int .u64 (Sc.wrd b 3 : Int)]) (fun t _ => 4 - (intOf t).toNat)
  case atStart => exact ⟨0, by omega, rfl, hGG.out, HR0.out, HBB.out⟩
  case round =>
   clear hGG HR0 HBB HR HA hcp
   obtain ⟨i, hi, rfl, hg, hbR, hbB⟩ := hrel
   by_cases hlt : i < 4
   ·have hix := narrow_index a i hlt
    have b0 := hbB.cell (i := 0) rfl
    have b1 := hbB.cell (i := 1) rfl
    have b2 := hbB.cell (i := 2) rfl
    have b3 := hbB.cell (i := 3) rfl
    have HG := Lib.hid hg; clear hg
    have HR := Lib.hid hbR; clear hbR
    have HBB := Lib.hid hbB; clear hbB
    obtain ⟨x, hx⟩ : ∃ x, x = Sc.wrd a i := ⟨_, rfl⟩
    have hxl : x < 18446744073709551616 := by rw [hx]; exact Sc.wrd_lt a i
    rw [← hx] at hix
    have HX := Lib.hid hx; clear hx
    have i0 : (i : Int) < 4 := by omega
    go_wp2
    clear b0 b1 b2 b3
    go_loopw [10, 27] (fun ot kt wr => ∃ k o M : Nat, k ≤ 4 ∧ o < 18446744073709551616 ∧ ot = .int .u64 o ∧ kt = .int .i64 k ∧ M + o * 2 ^ (64 * (i + k)) = Sc.part a b c i + x * (b % 2 ^ (64 * k)) * 2 ^ (64 * i) ∧ (∀ j, i + 4 ≤ j → Sc.wrd M j = Sc.wrd (Sc.part a b c i) j) ∧ w.grownBy wr (some R) ∧ Blk wr R T (wds M 8 ++ tl) ∧ Blk wr (w.heap.size + 1) 54 [.int .u64 (Sc.wrd b 0 : Int), .int .u64 (Sc.wrd b 1 : Int), .int .u64 (Sc.wrd b 2 : Int), .int .u64 (Sc.wrd b 3 : Int)]) (fun _ kt _ => 4 - (intOf kt).toNat)
    case atStart => exact ⟨0, 0, Sc.part a b c i, by omega, by decide, rfl, rfl, by simp [Nat.mod_one], fun _ _ => rfl, HG.out, HR.out, HBB.out⟩
    case round =>
     clear HG HR HBB hix
     obtain ⟨k, o, M, hk, hol, rfl, rfl, hM, hT, hg, hbR, hbB⟩ := hrel
     by_cases hkl : k < 4
     ·have hix := narrow_index b k hkl
      obtain ⟨j, hj⟩ : ∃ j, j = i + k := ⟨_, rfl⟩
      have hji : (i : Int) + (k : Int) = (j : Int) := by omega
      have j7 : j < 8 := by omega
      obtain ⟨M', m1, m2, m3⟩ := Sc.mul_in M _ x b i k o hM
      rw [← hj] at m1 m2 m3
      have hol2 := Sc.over_lt x (Sc.wrd b k) (Sc.wrd M j) o hxl (Sc.wrd_lt _ _) (Sc.wrd_lt _ _) hol
      have hset := wds_set M M' 8 j j7 tl _ m1 m2
      have r0 := hbR.cell (wds_get M 8 j j7 tl)
      have f0 := hbR.free j
      have hmw := fun W => maw_any x (Sc.wrd b k) (Sc.wrd M j) o W hxl (Sc.wrd_lt _ _) (Sc.wrd_lt _ _) hol
      have hT2 : ∀ j', i + 4 ≤ j' → Sc.wrd M' j' = Sc.wrd (Sc.part a b c i) j' := fun j' hj' => by rw [m2 j' (by omega)]; exact hT j' hj'
      have m4 : M' + (x * Sc.wrd b k + Sc.wrd M j + o) / 18446744073709551616 * 2 ^ (64 * (i + (k + 1))) = Sc.part a b c i + x * (b % 2 ^ (64 * (k + 1))) * 2 ^ (64 * i) := by
       have e : i + (k + 1) = j + 1 := by omega
       rw [e]; exact m3
      have HS := Lib.hid (And.intro hset (And.intro m4 (And.intro hT2 hol2))); clear hset m1 m2 m3 m4 hT hT2 hM hol2
      have HMW := Lib.hid hmw; clear hmw
      have HG := Lib.hid hg; clear hg
      have HR := Lib.hid hbR; clear hbR
      have HBB := Lib.hid hbB; clear hbB
      have HJ := Lib.hid hj; clear hj
      unfold wV u64N at r0
      generalize (x * Sc.wrd b k + Sc.wrd M j + o) / 18446744073709551616 = o' at *
      generalize (x * Sc.wrd b k + Sc.wrd M j + o) % 18446744073709551616 = v' at *
      have k0 : (k : Int) < 4 := by omega
      go_wp2
      have hwr : IntKind.i64.wrap ((i : Int) + (k : Int)) = (j : Int) := by rw [hji]; exact IntWalk.i64_in _ (by omega)
      clear hji
      go_region_with (go_at_call 55; refine (HMW.out _).mono ?_; rintro e w' ⟨rfl, rfl⟩)
      clear hwr
      all_goals go_wp2
      go_roundw
      case rel =>
       refine ⟨k + 1, o', M', by omega, HS.out.2.2.2, rfl, by go_num, HS.out.2.1, HS.out.2.2.1, gb_drew (gb_set HG.out _ _), ?_, (HBB.out.other (by show ¬ R = w.heap.size + 1; omega) _).drew⟩
       have h := HR.out.set j (u64N v')
       rw [HS.out.1] at h
       exact h.drew
      case measure => simp [intOf]; omega
     ·obtain rfl : k = 4 := by omega
      have hz4 : Sc.wrd M (i + 4) = 0 := by rw [hT (i + 4) (by omega)]; exact Sc.part_top a b c i (i + 4) hbb hc (by omega)
      obtain ⟨M', m1, m2, m3⟩ := Sc.mul_out M _ x b i o hbb hM hz4 hol
      have m4 : M' = Sc.part a b c (i + 1) := by rw [m3, Sc.part_next, HX.out]
      subst m4
      obtain ⟨j, hj⟩ : ∃ j, j = i + 4 := ⟨_, rfl⟩
      have hji : (i : Int) + 4 = (j : Int) := by omega
      have j7 : j < 8 := by omega
      rw [← hj] at m1 m2
      have hset := wds_set M (Sc.part a b c (i + 1)) 8 j j7 tl _ m1 m2
      have r0 := hbR.cell (wds_get M 8 j j7 tl)
      have f0 := hbR.free j
      have HS := Lib.hid hset; clear hset m1 m2 m3 hT hM hz4
      have HG := Lib.hid hg; clear hg
      have HR := Lib.hid hbR; clear hbR
      have HBB := Lib.hid hbB; clear hbB
      have HJ := Lib.hid hj; clear hj
      unfold wV u64N at r0
      go_wp2
      go_roundw
      case rel =>
       refine ⟨i + 1, by omega, by go_num, gb_set HG.out _ _, ?_, HBB.out.other (by show ¬ R = w.heap.size + 1; omega) _⟩
       have h := HR.out.set j (u64N o)
       rw [HS.out] at h
       exact h
      case measure => simp [intOf]; omega
   ·obtain rfl : i = 4 := by omega
    rw [Sc.part_end a b c ha] at hbR
    have HG := Lib.hid hg; clear hg
    have HR := Lib.hid hbR; clear hbR hbB
    go_wp2
    go_end0
    exact ⟨rfl, HG.out, HR.out⟩
end
section
open Go.RowKit Ow
theorem own_blk {w : World} {base e n g : Nat} {xs : List Value} (h : w.ownsRow base e 1 (.slice (some ⟨g, 0, none⟩) n n) n xs) : Blk w g e xs ∧ base ≤ g := by
 rcases h.2 with ⟨h0, _⟩ | ⟨g', cap, cur, e1, hb, hg, _, _, hs, ht⟩
 ·cases h0
 ·cases e1
  refine ⟨?_, hb⟩
  have : cur.toList = xs := by rw [← ht, List.take_of_length_le]; rw [Array.length_toList]; omega
  unfold Blk
  rw [hg, ← this, Array.toArray_toList]
def OutB (l : List Nat) (w : World) (e : Ending) (w' : World) : Prop := ∃ g, e = .returned (.slice (some ⟨g, 0, none⟩) l.length l.length) ∧ w.grownBy w' none ∧ w.heap.size ≤ g ∧ Blk w' g 5 (l.map u8N)
def scB (n : Nat) : List Nat := bytesN (n % Sc.L) 32
theorem scB_length (n : Nat) : (scB n).length = 32 := bytesN_length _ _
theorem scB_lt (n i : Nat) : (scB n).getD i 0 < 256 := bytesN_lt _ _ _
theorem scB_num (n : Nat) : num (scB n) = n % Sc.L := by
 unfold scB
 rw [num_bytesN]
 exact Nat.mod_eq_of_lt (Sc.lt256 _ (Sc.mod_lt n))
theorem num_lt (l : List Nat) (hl : ∀ i, l.getD i 0 < 256) : num l < 2 ^ (8 * l.length) := Sc.leN_lt _ hl _
theorem div_top (n j k : Nat) (h : n < 2 ^ j) (hk : j ≤ k) : n / 2 ^ k = 0 := Nat.div_eq_of_lt (Nat.lt_of_lt_of_le h (Nat.pow_le_pow_right (by decide) hk))
theorem num_top (l : List Nat) (hl : ∀ i, l.getD i 0 < 256) (h : l.length ≤ 64) : num l / 2 ^ (64 * 8) = 0 := by
 have h2 := div_top (num l) (8 * l.length) (64 * 8) (num_lt l hl) (by omega)
 exact h2
theorem num_256 (l : List Nat) (hl : ∀ i, l.getD i 0 < 256) (h : l.length ≤ 32) : num l < 2 ^ 256 :=
 Nat.lt_of_lt_of_le (num_lt l hl) (Nat.pow_le_pow_right (by decide) (by omega))
def zeros12 : List Value := [.int .u64 0, .int .u64 0, .int .u64 0, .int .u64 0, .int .u64 0, .int .u64 0, .int .u64 0, .int .u64 0, .int .u64 0, .int .u64 0, .int .u64 0, .int .u64 0]
theorem out_of {n : Nat} {w w1 w2 : World} {g : Nat} (hg : w.grownBy w1 none) (hg2 : w1.grownBy w2 none) (ho : w2.ownsRow w1.heap.size 5 1 (.slice (some ⟨g, 0, none⟩) 32 32) 32 ((bytesN n 32).map u8N)) :
  ∀ m, n = m % Sc.L → OutB (scB m) w (.returned (.slice (some ⟨g, 0, none⟩) 32 32)) w2 := by
 rintro m rfl
 obtain ⟨hb, hge⟩ := own_blk ho
 exact ⟨g, by rw [scB_length], gb_trans hg hg2, Nat.le_trans hg.size hge, hb⟩
end
section
open Go.RowKit Ow Go.Shelf
attribute [local go_sem] Oper.semAt_some
def bitAt (f : Nat → Nat) (j : Nat) : Bool := decide (f (j / 8) / 2 ^ (j % 8) % 2 = 1)
def bitsTo (f : Nat → Nat) (k : Nat) : List Bool := (List.range k).map (bitAt f)
theorem bitsTo_succ (f : Nat → Nat) (k : Nat) : bitsTo f (k + 1) = bitsTo f k ++ [bitAt f k] := by simp [bitsTo, List.range_succ]
theorem bitsTo_length (f : Nat → Nat) (k : Nat) : (bitsTo f k).length = k := by simp [bitsTo]
theorem bit_is (x j : Nat) (hx : x < 256) : (bits .and .u8 ((x : Int) / 2 ^ j) 1 == 1) = decide (x / 2 ^ j % 2 = 1) := by
 have all : ∀ j : Fin 256, (bits .and .u8 (j.val : Int) 1 == 1) = decide (j.val % 2 = 1) := by decide +kernel
 have hl : x / 2 ^ j < 256 := Nat.lt_of_le_of_lt (Nat.div_le_self _ _) hx
 have e : (x : Int) / 2 ^ j = ((x / 2 ^ j : Nat) : Int) := by rw [Int.natCast_ediv, Int.natCast_pow]; rfl
 rw [e]
 exact all ⟨x / 2 ^ j, hl⟩
def KeepsB (pb po Bs : Nat) (W W' : World) : Prop := (∀ j, j < 32 → W'.cell? ⟨pb, po + j, none⟩ = W.cell? ⟨pb, po + j, none⟩) ∧ W'.cell? ⟨Bs, 0, none⟩ = W.cell? ⟨Bs, 0, none⟩
theorem keepsB_t {pb po Bs : Nat} {A B C : World} (h : KeepsB pb po Bs A B) (k : KeepsB pb po Bs B C) : KeepsB pb po Bs A C := ⟨fun j hj => (k.1 j hj).trans (h.1 j hj), k.2.trans h.2⟩
theorem keepsB_b {pb po Bs n : Nat} (hR : pb < n) (hB : Bs < n) (W : World) (l : Nat) (o o' : Obj) (hl : n ≤ l) (h : W.heap[l]? = some o) : KeepsB pb po Bs W (W.putObj l o') := by
 have hlt : l < W.heap.size := (Array.getElem?_eq_some_iff.1 h).1
 exact ⟨fun j _ => gb_cell (grownBy_putObj' W l o') (p := ⟨pb, po + j, none⟩) (show pb < _ by omega) (some_ne' (by show pb ≠ l; omega)), gb_cell (grownBy_putObj' W l o') (p := ⟨Bs, 0, none⟩) (show Bs < _ by omega) (some_ne' (by show Bs ≠ l; omega))⟩
set_option maxHeartbeats 1000000 in
theorem eachBit_in (F : Fence) (n : Nat) (hf : F.fn 63) (hro : F.round = none) (a : Option Addr) (len cap : Nat) (w : World) :
  CallsIn F n Tryz.prog 63 #[.slice a len cap] w fun e w' => e = .returned (.func (.func 92) #[] #[.pointer (some ⟨w.heap.size, 0, none⟩)]) ∧ w' = w.alloc (.cells #[.slice a len cap] 22) := by
 refine callsIn_of_wp Tryz.func63 rfl hf ?_ hro
 simp only [Tryz.ntmps63, List.size_toArray, List.length_cons, List.length_nil, Nat.reduceAdd, Nat.reduceSub, Array.replicate_succ, Array.replicate_zero, List.push_toArray, List.append_toArray, List.nil_append, List.cons_append]
 gi_wp2
 go_ret
 exact ⟨rfl, rfl⟩
set_option maxRecDepth 100000 in
set_option maxHeartbeats 2000000 in
theorem eachBit1_in (F : Fence) (n : Nat) (hf : F.fn 92) (hro : F.round = none) (hn : 1 ≤ n) (l Bs pb po cap : Nat) (f : Nat → Nat) (hfb : ∀ i, f i < 256) (J Jx : List Bool → World → Prop)
  (hY : ∀ pre x W, J pre W → pre.length < 256 → YieldAt F (n - 1) Tryz.prog l #[.bool x] W fun e W' =>
   (e = .returned (.bool true) ∧ J (pre ++ [x]) W' ∧ KeepsB pb po Bs W W') ∨ (e = .returned (.bool false) ∧ Jx (pre ++ [x]) W'))
  (W : World) (hBs : W.cell? ⟨Bs, 0, none⟩ = some (.slice (some ⟨pb, po, none⟩) 32 cap)) (hc : ∀ j, j < 32 → W.cell? ⟨pb, po + j, none⟩ = some (.int .u8 (f j : Int))) (h0 : J [] W) :
  CallsIn F n Tryz.prog 92 #[.func (.yield l) #[] #[], .pointer (some ⟨Bs, 0, none⟩)] W fun e W' => (∃ v, e = .returned v) ∧
   ((∃ ys, ys = bitsTo f 256 ∧ J ys W') ∨ (∃ pre, True ∧ Jx pre W')) := by
 have HC := Lib.hid hc; clear hc
 have HF := Lib.hid hfb; clear hfb
 refine callsIn_of_wp Tryz.func92 rfl hf ?_ hro
 simp only [Tryz.ntmps92, List.size_toArray, List.length_cons, List.length_nil, Nat.reduceAdd, Nat.reduceSub, Array.replicate_succ, Array.replicate_zero, List.push_toArray, List.append_toArray, List.nil_append, List.cons_append]
 gi_wp2
 clear hBs
 gi_loopw [8] (fun i wr => ∃ k : Nat, k ≤ 32 ∧ i = .int .i64 k ∧ J (bitsTo f (8 * k)) wr ∧ KeepsB pb po Bs W wr) (fun i _ => 32 - (intOf i).toNat)
 case atStart => exact ⟨0, by omega, rfl, h0, ⟨fun _ _ => rfl, rfl⟩⟩
 case round =>
  obtain ⟨k, hk, rfl, hJs, hnx⟩ := hrel
  by_cases hkl : k < 32
  ·have hcx : wr.cell? ⟨pb, po + k, none⟩ = some (.int .u8 (f k : Int)) := (hnx.1 k hkl).trans (HC.out k hkl)
   obtain ⟨x, hx⟩ : ∃ x, x = f k := ⟨_, rfl⟩
   have hxl : x < 256 := by rw [hx]; exact HF.out k
   rw [← hx] at hcx
   have HX := Lib.hid hx; clear hx
   have i0 : (k : Int) < 32 := by omega
   gi_wp2
   clear hcx
   gi_loopw [12] (fun t wr' => ∃ j : Nat, j ≤ 8 ∧ t = .int .i64 j ∧ J (bitsTo f (8 * k + j)) wr' ∧ KeepsB pb po Bs W wr') (fun t _ => 8 - (intOf t).toNat)
   case atStart => exact ⟨0, by omega, rfl, hJs, hnx⟩
   case round =>
    clear hJs hnx
    obtain ⟨j, hj, rfl, hJs, hnx⟩ := hrel
    by_cases hjl : j < 8
    ·obtain ⟨fn, tmps, assign, body, hy, hR⟩ := hY _ (bitAt f (8 * k + j)) wr hJs (by rw [bitsTo_length]; omega)
     have hb : bitAt f (8 * k + j) = (bits .and .u8 ((x : Int) / 2 ^ j) 1 == 1) := by
      rw [bit_is x j hxl, HX.out]
      unfold bitAt
      rw [show (8 * k + j) / 8 = k by omega, show (8 * k + j) % 8 = j by omega]
     rw [hb] at hy
     have HBI := Lib.hid hb; clear hb
     gi_wp2
     refine hR.mono ?_
     rintro e W3 (⟨rfl, hJ3, hk3⟩ | ⟨rfl, hJx3⟩)
     ·rw [← bitsTo_succ] at hJ3
      gi_wp2
      go_roundw
      case rel => exact ⟨j + 1, by omega, by go_num, hJ3, keepsB_t hnx hk3⟩
      case measure => simp [intOf]; omega
     ·gi_wp2
      refine bodyPost_ret (results_none rfl _ _ _) rfl ?_
      exact ⟨⟨_, rfl⟩, .inr ⟨_, trivial, hJx3⟩⟩
    ·obtain rfl : j = 8 := by omega
     gi_wp2
     go_roundw
     case rel => exact ⟨k + 1, by omega, by go_num, by rw [show 8 * (k + 1) = 8 * k + 8 by omega]; exact hJs, hnx⟩
     case measure => simp [intOf]; omega
  ·obtain rfl : k = 32 := by omega
   gi_wp2
   go_end0
   exact ⟨⟨_, rfl⟩, .inl ⟨_, rfl, hJs⟩⟩
theorem eachBit_stops (F : Fence) (n : Nat) (hf : F.fn 92) (hro : F.round = none) (hn : 1 ≤ n) (Bs pb po cap : Nat) (f : Nat → Nat) (hfb : ∀ i, f i < 256) (w : World) (hBs : Bs < w.heap.size) (hR : pb < w.heap.size)
  (hb : w.cell? ⟨Bs, 0, none⟩ = some (.slice (some ⟨pb, po, none⟩) 32 cap)) (hc : ∀ j, j < 32 → w.cell? ⟨pb, po + j, none⟩ = some (.int .u8 (f j : Int))) :
  SeqStopsK F n Tryz.prog 92 #[.pointer (some ⟨Bs, 0, none⟩)] (fun x => #[.bool x]) (KeepsB pb po Bs) (fun ys => ys = bitsTo f 256) (fun _ => True) 256 w := fun l J Jx W hW _ _ hY h0 =>
 eachBit1_in F n hf hro hn l Bs pb po cap f hfb J Jx hY W ((hW.cell (p := ⟨Bs, 0, none⟩) hBs).trans hb) (fun j hj => (hW.cell (p := ⟨pb, po + j, none⟩) hR).trans (hc j hj)) h0
end
section
open Go.RowKit Ow
theorem bit_num (l : List Nat) (hl : l.length = 32) (hb : ∀ i, l.getD i 0 < 256) (m : Nat) (hm : m < 256) : bitAt (fun i => l.getD i 0) m = decide (num l / 2 ^ m % 2 = 1) := by
 have h := Sc.byt_leN (fun i => l.getD i 0) hb 32 (m / 8) (by omega)
 have hn : num l = Sc.leN (fun i => l.getD i 0) 32 := by unfold num; rw [hl]
 unfold bitAt
 have e : (fun i => l.getD i 0) (m / 8) / 2 ^ (m % 8) % 2 = num l / 2 ^ m % 2 := by
  show l.getD (m / 8) 0 / 2 ^ (m % 8) % 2 = _
  rw [← h, ← hn]
  unfold Sc.byt
  have e1 : (2 : Nat) ^ m = 2 ^ (8 * (m / 8)) * 2 ^ (m % 8) := by rw [← Nat.pow_add]; congr 1; omega
  rw [e1, ← Nat.div_div_eq_div_mul]
  generalize num l / 2 ^ (8 * (m / 8)) = x
  have e2 : (256 : Nat) = 2 ^ (m % 8) * (2 * 2 ^ (7 - m % 8)) := by
   rw [show (2 : Nat) * 2 ^ (7 - m % 8) = 2 ^ (7 - m % 8 + 1) by rw [Nat.pow_succ, Nat.mul_comm], ← Nat.pow_add, show m % 8 + (7 - m % 8 + 1) = 8 by omega]
  rw [e2, Nat.mod_mul_right_div_self, Nat.mod_mul_right_mod]
 rw [e]
end
end Go.Proofs.YtjfclcoppedmoaaGreatDoor
