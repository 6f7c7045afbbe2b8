/- texts merged, part 4: XEdPut XEdEnc XEdAwakeM XEdBecome XEdPoint XEdAdd XEdAddend XEdSumOf XEdDouble XEdOps XEdEAdd XEdSame XEdIt XEdLimbs -/
import Derived.Test.YtleegbaigedebaaDoorEdB3
/- edwards: Put. -/
namespace Go.Proofs.YtleegbaigedebaaDoor
open Go.RowKit Ed
def putY (p : Pt) : Fe := Fe.mulF p.Y (invF p.Z)
def putX (p : Pt) : Fe := Fe.mulF p.X (invF p.Z)
def putNum (p : Pt) : Int := (Fe.m (putY p) : Int) + 57896044618658097711785492504343953926634992332820282019728792003956564819968 * ((Fe.m (putX p) % 2 : Nat) : Int)
theorem put_low (x : Int) (h0 : 0 ≤ x) (h1 : x < 57896044618658097711785492504343953926634992332820282019728792003956564819968) : 0 ≤ x / 2 ^ (8 * 31) % 256 ∧ x / 2 ^ (8 * 31) % 256 < 128 := by
 have e : (2 : Int) ^ (8 * 31) = 452312848583266388373324160190187140051835877600158453279131187530910662656 := by decide
 rw [e]; omega
theorem put_or (v : Int) (h0 : 0 ≤ v) (h1 : v < 128) : bits .or .u8 v 128 = v + 128 := by
 have all : ∀ j : Fin 128, bits .or .u8 (j.val : Int) 128 = (j.val : Int) + 128 := by decide +kernel
 have := all ⟨v.toNat, by omega⟩
 simp only [] at this
 rwa [show ((v.toNat : Nat) : Int) = v by omega] at this
theorem put_set (x : Int) (h0 : 0 ≤ x) (h1 : x < 57896044618658097711785492504343953926634992332820282019728792003956564819968) : (bytesV x).set 31 (.int .u8 (x / 2 ^ (8 * 31) % 256 + 128)) = bytesV (x + 57896044618658097711785492504343953926634992332820282019728792003956564819968) := by
 have hl : ∀ y : Int, (bytesV y).length = 32 := fun y => by simp [bytesV]
 apply List.ext_getElem?
 intro i
 by_cases hi : i < 32
 ·rw [bytesV_get _ i hi, List.getElem?_set, hl]
  by_cases he : 31 = i
  ·subst he
   rw [if_pos rfl, if_pos (by decide)]
   unfold bytV
   have e : (2 : Int) ^ (8 * 31) = 452312848583266388373324160190187140051835877600158453279131187530910662656 := by decide
   rw [e]
   congr 2
   omega
  ·rw [if_neg he, bytesV_get _ i hi]
   unfold bytV
   congr 2
   have e : (57896044618658097711785492504343953926634992332820282019728792003956564819968 : Int) = 2 ^ (8 * i) * (2 ^ (8 * (30 - i)) * 32768) := by
    rw [← Int.mul_assoc, ← Int.pow_add, show 8 * i + 8 * (30 - i) = 240 by omega]
    decide
   have hp : (2 : Int) ^ (8 * i) ≠ 0 := Int.ne_of_gt (Int.pow_pos (by decide))
   rw [e, Int.add_mul_ediv_left _ _ hp, show (2 : Int) ^ (8 * (30 - i)) * 32768 = 256 * (2 ^ (8 * (30 - i)) * 128) by omega, Int.add_mul_emod_self_left]
 ·rw [List.getElem?_eq_none (by rw [List.length_set, hl]; omega), List.getElem?_eq_none (by rw [hl]; omega)]
set_option maxRecDepth 100000 in
set_option maxHeartbeats 3200000 in
theorem put_odd (p : Pt) (w0 : World) (okp : p.Ok) (hx : decide (Fe.m (putX p) % 2 = 1) = true) :
  Calls Tryd.prog 15 #[p.v] w0 fun e w' => ∃ NB, e = .returned (.slice (some ⟨NB, 0, none⟩) 32 32) ∧ w0.grownBy w' none ∧ w0.heap.size ≤ NB ∧ Blk w' NB 79 (bytesV (putNum p)) := by
 show Calls Tryd.prog 15 #[.agg (ptL p).toArray] w0 _
 go_enter Tryd.func15, Tryd.ntmps15
 go_upto_region 1 with (fail)
 have G : w0.grownBy (w0.alloc (.cells (ptL p).toArray 28)) none := gb_alloc (gb_refl _ _) _
 have hP : Blk (w0.alloc (.cells (ptL p).toArray 28)) (w0.heap.size) 28 (ptL p) := Blk.new w0 (ptL p) _
 revert G hP
 generalize w0.alloc (.cells (ptL p).toArray 28) = W0
 intro G hP
 have Gs := G.size
 have Gs0 := G.size
 have l1hP := hP.lt
 refine Fg.rP [3] [.any, .any, .any, .fresh 26 zr5 W0.heap.size, .any, .val (Value.pointer (some ⟨w0.heap.size, 10, none⟩)), .val (p.Z.v), .val ((invF p.Z).v)] 4 ?_ ?_
 ·refine Fg.vS rfl (by decide) (fun ac w h => ?_) ?_
  ·have e1 : _ = Value.pointer (some ⟨w0.heap.size, 0, none⟩) := h.r 1
   exact Fg.vn (Value.pointer (some ⟨w0.heap.size, 10, none⟩)) (Fg.run_fieldAddr rfl e1 (fa_point2 _ _ _))
  refine Fg.vS rfl (by decide) (fun ac w h => ?_) ?_
  ·have e5 : _ = Value.pointer (some ⟨w0.heap.size, 10, none⟩) := h.d 5
   exact Fg.vn p.Z.v (Fg.run_load rfl e5 ((hP.gn h.base).range 10 (feL p.Z) rfl) Tryd.underlying26 rfl info_elem)
  refine Fg.cS rfl (by decide) (fun ac w h => ?_) ?_
  ·have e6 : _ = p.Z.v := h.d 6
   refine ⟨wants_none rfl, 27, #[p.Z.v], Fg.run_call rfl rfl (by simp only [List.map_toArray, List.map_cons, List.map_nil, Act.eval, e6]) (Fg.run_enter Tryd.func27 (by kernel_rfl) (by kernel_rfl)), ?_⟩
   exact (t_inv okp.Z).mono fun _ _ ⟨he, hg⟩ => ⟨_, he, hg, rfl⟩
  refine ⟨⟨⟨_, rfl⟩, Fg.allocP (fun _ _ h k => gb_trans h k) rfl (by show 3 < 24; decide) fun ac w h => ?_⟩, ?_⟩
  ·refine ⟨wants_none rfl, w.alloc (.cells zr5.toArray 26), ?_, World.grownBy_alloc _ _ _, by simp, ⟨w.heap.size, rfl, h.base.size, Blk.new w zr5 _⟩⟩
   clear h
   go_simp
  trivial
 ·intro qa V1 g1 hsz hdf hrest hslots hpt
  obtain ⟨N3, hs3, hn3, hb3⟩ : ∃ N, qa.tmps.getD 3 undef = .pointer (some ⟨N, 0, none⟩) ∧ W0.heap.size ≤ N ∧ Blk V1 N 26 zr5 := hslots 3 (by kernel_rfl)
  obtain ⟨u5, hs5⟩ := Fg.slotv qa 5
  obtain ⟨u6, hs6⟩ := Fg.slotv qa 6
  obtain ⟨x1, hx1⟩ : ∃ x : Fe, x = invF p.Z := ⟨_, rfl⟩
  obtain rfl := Fg.frame_by [3, 5, 6, 7] (vs := [p.v, Value.pointer (some ⟨w0.heap.size, 0, none⟩), Value.slice none 0 0, Value.pointer (some ⟨N3, 0, none⟩), undef, u5, u6, x1.v, undef, undef, undef, undef, undef, undef, undef, undef, undef, undef, undef, undef, undef, undef, undef, undef]) hsz hrest (by kernel_rfl) rfl rfl ⟨hs3, hs5, hs6, (show qa.tmps.getD 7 undef = x1.v by rw [hx1]; exact hslots 7 (by kernel_rfl)), trivial⟩ hdf
  clear hsz hdf hrest hslots hpt hs3 hs5 hs6
  have Hx1 := Lib.hid hx1; clear hx1
  replace hP := hP.gn g1
  replace G := gb_trans G g1
  have okx1 : x1.Ok := by rw [Hx1.out]; exact (inv_right _).ok
  have hw3 : w0.heap.size ≤ N3 := Nat.le_trans Gs0 hn3
  clear g1
  refine Fg.wpl_skip rfl rfl (Fg.run_store (cs := feL x1) rfl rfl rfl (hb3.there 0 5 (by show 0 + 5 ≤ 5; decide)) info_elem (feL_one _)) ?_
  replace hP := hP.setCells_other (C := N3) (cs := feL x1) 0 (by omega)
  replace hb3 : Blk (V1.setCells N3 0 (feL x1)) N3 26 (feL x1) := hb3.setAll rfl
  replace G := gb_setCells_new (cs := feL x1) G (B := N3) (hw3) 0
  revert hP hb3 G
  generalize V1.setCells N3 0 (feL x1) = W2
  intro hP hb3 G
  go_upto_region 2 with (fail)
  have Gs2 := G.size
  have l2hP := hP.lt
  have l2hb3 := hb3.lt
  refine Fg.rP [] [.any, .any, .any, .any, .row 79 (bytesV (Fe.m (Fe.mulF p.Y x1))) 32 W2.heap.size, .any, .any, .any, .val (Value.pointer (some ⟨w0.heap.size, 5, none⟩)), .val (p.Y.v), .val (x1.v), .val ((Fe.mulF p.Y x1).v), .row 79 (bytesV (Fe.m (Fe.mulF p.Y x1))) 32 W2.heap.size] 6 ?_ ?_
  ·refine Fg.vS rfl (by decide) (fun ac w h => ?_) ?_
   ·have e1 : _ = Value.pointer (some ⟨w0.heap.size, 0, none⟩) := h.r 1
    exact Fg.vn (Value.pointer (some ⟨w0.heap.size, 5, none⟩)) (Fg.run_fieldAddr rfl e1 (fa_point1 _ _ _))
   refine Fg.vS rfl (by decide) (fun ac w h => ?_) ?_
   ·have e8 : _ = Value.pointer (some ⟨w0.heap.size, 5, none⟩) := h.d 8
    exact Fg.vn p.Y.v (Fg.run_load rfl e8 ((hP.gn h.base).range 5 (feL p.Y) rfl) Tryd.underlying26 rfl info_elem)
   refine Fg.vS rfl (by decide) (fun ac w h => ?_) ?_
   ·have e3 : _ = Value.pointer (some ⟨N3, 0, none⟩) := h.r 3
    exact Fg.vn x1.v (Fg.run_load rfl e3 ((hb3.gn h.base).range 0 (feL x1) rfl) Tryd.underlying26 rfl info_elem)
   refine Fg.cS rfl (by decide) (fun ac w h => ?_) ?_
   ·have e9 : _ = p.Y.v := h.d 9
    have e10 : _ = x1.v := h.d 10
    refine ⟨wants_none rfl, 25, #[p.Y.v, x1.v], Fg.run_call rfl rfl (by simp only [List.map_toArray, List.map_cons, List.map_nil, Act.eval, e9, e10]) (Fg.run_enter Tryd.func25 (by kernel_rfl) (by kernel_rfl)), ?_⟩
    exact (t_mul okp.Y okx1).mono fun _ _ ⟨he, hg⟩ => ⟨_, he, hg, rfl⟩
   refine Fg.cS rfl (by decide) (fun ac w h => ?_) ?_
   ·have e11 : _ = (Fe.mulF p.Y x1).v := h.d 11
    refine ⟨wants_none rfl, 40, #[(Fe.mulF p.Y x1).v], Fg.run_call rfl rfl (by simp only [List.map_toArray, List.map_cons, List.map_nil, Act.eval, e11]) (Fg.run_enter Tryd.func40 (by kernel_rfl) (by kernel_rfl)), ?_⟩
    exact (put_any _ _ (Fe.mul_right _ _).ok).mono fun _ _ ⟨NB, he, hg, hn, hb⟩ => ⟨_, he, hg, ⟨NB, rfl, Nat.le_trans h.base.size hn, hb⟩⟩
   refine Fg.vS rfl (by decide) (fun ac w h => ?_) ?_
   ·obtain ⟨B12, e12, hn12, b12⟩ : ∃ N, ac.tmps.getD 12 undef = .slice (some ⟨N, 0, none⟩) 32 32 ∧ W2.heap.size ≤ N ∧ Blk w N 79 (bytesV (Fe.m (Fe.mulF p.Y x1))) := h.dep 12 (by kernel_rfl)
    exact ⟨wants_none rfl, Value.slice (some ⟨B12, 0, none⟩) 32 32, w, Fg.run_assign rfl e12, gb_refl _ _, ⟨_, rfl, hn12, b12⟩⟩
   trivial
  ·intro qa V3 g3 hsz hdf hrest hslots hpt
   obtain ⟨N4, hs4, hn4, hb4⟩ : ∃ N, qa.tmps.getD 4 undef = .slice (some ⟨N, 0, none⟩) 32 32 ∧ W2.heap.size ≤ N ∧ Blk V3 N 79 (bytesV (Fe.m (Fe.mulF p.Y x1))) := hslots 4 (by kernel_rfl)
   obtain ⟨u8, hs8⟩ := Fg.slotv qa 8
   obtain ⟨u9, hs9⟩ := Fg.slotv qa 9
   obtain ⟨u10, hs10⟩ := Fg.slotv qa 10
   obtain ⟨u11, hs11⟩ := Fg.slotv qa 11
   obtain ⟨u12, hs12⟩ := Fg.slotv qa 12
   obtain rfl := Fg.frame_by [4, 8, 9, 10, 11, 12] (vs := [p.v, Value.pointer (some ⟨w0.heap.size, 0, none⟩), Value.slice none 0 0, Value.pointer (some ⟨N3, 0, none⟩), Value.slice (some ⟨N4, 0, none⟩) 32 32, u5, u6, x1.v, u8, u9, u10, u11, u12, undef, undef, undef, undef, undef, undef, undef, undef, undef, undef, undef]) hsz hrest (by kernel_rfl) rfl rfl ⟨hs4, hs8, hs9, hs10, hs11, hs12, trivial⟩ hdf
   clear hsz hdf hrest hslots hpt hs4 hs8 hs9 hs10 hs11 hs12
   replace hP := hP.gn g3
   replace hb3 := hb3.gn g3
   replace G := gb_trans G g3
   have hw4 : w0.heap.size ≤ N4 := Nat.le_trans Gs2 hn4
   clear g3
   go_upto_region 3 with (fail)
   have Gs3 := G.size
   have l3hP := hP.lt
   have l3hb3 := hb3.lt
   have l3hb4 := hb4.lt
   refine Fg.rP [] [.any, .any, .any, .any, .any, .any, .any, .any, .any, .any, .any, .any, .any, .val (Value.pointer (some ⟨w0.heap.size, 0, none⟩)), .val (p.X.v), .val (x1.v), .val ((Fe.mulF p.X x1).v), .val (Value.bool true)] 5 ?_ ?_
   ·refine Fg.vS rfl (by decide) (fun ac w h => ?_) ?_
    ·have e1 : _ = Value.pointer (some ⟨w0.heap.size, 0, none⟩) := h.r 1
     exact Fg.vn (Value.pointer (some ⟨w0.heap.size, 0, none⟩)) (Fg.run_fieldAddr rfl e1 (fa_point0 _ _ _))
    refine Fg.vS rfl (by decide) (fun ac w h => ?_) ?_
    ·have e13 : _ = Value.pointer (some ⟨w0.heap.size, 0, none⟩) := h.d 13
     exact Fg.vn p.X.v (Fg.run_load rfl e13 ((hP.gn h.base).range 0 (feL p.X) rfl) Tryd.underlying26 rfl info_elem)
    refine Fg.vS rfl (by decide) (fun ac w h => ?_) ?_
    ·have e3 : _ = Value.pointer (some ⟨N3, 0, none⟩) := h.r 3
     exact Fg.vn x1.v (Fg.run_load rfl e3 ((hb3.gn h.base).range 0 (feL x1) rfl) Tryd.underlying26 rfl info_elem)
    refine Fg.cS rfl (by decide) (fun ac w h => ?_) ?_
    ·have e14 : _ = p.X.v := h.d 14
     have e15 : _ = x1.v := h.d 15
     refine ⟨wants_none rfl, 25, #[p.X.v, x1.v], Fg.run_call rfl rfl (by simp only [List.map_toArray, List.map_cons, List.map_nil, Act.eval, e14, e15]) (Fg.run_enter Tryd.func25 (by kernel_rfl) (by kernel_rfl)), ?_⟩
     exact (t_mul okp.X okx1).mono fun _ _ ⟨he, hg⟩ => ⟨_, he, hg, rfl⟩
    refine Fg.cS rfl (by decide) (fun ac w h => ?_) ?_
    ·have e16 : _ = (Fe.mulF p.X x1).v := h.d 16
     refine ⟨wants_none rfl, 26, #[(Fe.mulF p.X x1).v], Fg.run_call rfl rfl (by simp only [List.map_toArray, List.map_cons, List.map_nil, Act.eval, e16]) (Fg.run_enter Tryd.func26 (by kernel_rfl) (by kernel_rfl)), ?_⟩
     exact (t_odd (Fe.mul_right _ _).ok (by rw [Hx1.out]; exact hx)).mono fun _ _ ⟨he, hg⟩ => ⟨_, he, hg, rfl⟩
    trivial
   ·intro qa V4 g4 hsz hdf hrest hslots hpt
    obtain ⟨u13, hs13⟩ := Fg.slotv qa 13
    obtain ⟨u14, hs14⟩ := Fg.slotv qa 14
    obtain ⟨u15, hs15⟩ := Fg.slotv qa 15
    obtain ⟨u16, hs16⟩ := Fg.slotv qa 16
    obtain rfl := Fg.frame_by [13, 14, 15, 16, 17] (vs := [p.v, Value.pointer (some ⟨w0.heap.size, 0, none⟩), Value.slice none 0 0, Value.pointer (some ⟨N3, 0, none⟩), Value.slice (some ⟨N4, 0, none⟩) 32 32, u5, u6, x1.v, u8, u9, u10, u11, u12, u13, u14, u15, u16, Value.bool true, undef, undef, undef, undef, undef, undef]) hsz hrest (by kernel_rfl) rfl rfl ⟨hs13, hs14, hs15, hs16, (show qa.tmps.getD 17 undef = Value.bool true from hslots 17 (by kernel_rfl)), trivial⟩ hdf
    clear hsz hdf hrest hslots hpt hs13 hs14 hs15 hs16
    replace hP := hP.gn g4
    replace hb3 := hb3.gn g4
    replace hb4 := hb4.gn g4
    replace G := gb_trans G g4
    clear g4
    have hY : Fe.m (Fe.mulF p.Y x1) = Fe.m (putY p) := by rw [Hx1.out]; rfl
    rw [hY] at hb4
    clear hY
    have hm0 : 0 ≤ (Fe.m (putY p) : Int) := Int.natCast_nonneg _
    have hm1 : (Fe.m (putY p) : Int) < 57896044618658097711785492504343953926634992332820282019728792003956564819968 := by have := (m_bd (putY p)).2; omega
    have hN : putNum p = (Fe.m (putY p) : Int) + 57896044618658097711785492504343953926634992332820282019728792003956564819968 := by unfold putNum; rw [decide_eq_true_iff.1 hx]; rfl
    have HN2 := Lib.hid hN; clear hN
    generalize (Fe.m (putY p) : Int) = y at *
    have c31 := hb4.cell (bytesV_get y 31 (by decide))
    have f31 := hb4.free 31
    have hl := put_low y hm0 hm1
    have ho := put_or _ hl.1 hl.2
    have hset := hb4.set 31 (.int .u8 (y / 2 ^ (8 * 31) % 256 + 128))
    rw [put_set y hm0 hm1, ← HN2.out] at hset
    have G2 := gb_set_new G (p := ⟨N4, 31, none⟩) hw4 (.int .u8 (y / 2 ^ (8 * 31) % 256 + 128))
    unfold bytV at c31
    clear hl
    generalize y / 2 ^ (8 * 31) % 256 = v at *
    have HR := Lib.hid (And.intro hset G2)
    clear hset G2 hb4 hb3 hP G
    go_wp2
    go_ret
    exact ⟨N4, rfl, HR.out.2, hw4, HR.out.1⟩
set_option maxRecDepth 100000 in
set_option maxHeartbeats 3200000 in
theorem put_even (p : Pt) (w0 : World) (okp : p.Ok) (hx : decide (Fe.m (putX p) % 2 = 1) = false) :
  Calls Tryd.prog 15 #[p.v] w0 fun e w' => ∃ NB, e = .returned (.slice (some ⟨NB, 0, none⟩) 32 32) ∧ w0.grownBy w' none ∧ w0.heap.size ≤ NB ∧ Blk w' NB 79 (bytesV (putNum p)) := by
 show Calls Tryd.prog 15 #[.agg (ptL p).toArray] w0 _
 go_enter Tryd.func15, Tryd.ntmps15
 go_upto_region 1 with (fail)
 have G : w0.grownBy (w0.alloc (.cells (ptL p).toArray 28)) none := gb_alloc (gb_refl _ _) _
 have hP : Blk (w0.alloc (.cells (ptL p).toArray 28)) (w0.heap.size) 28 (ptL p) := Blk.new w0 (ptL p) _
 revert G hP
 generalize w0.alloc (.cells (ptL p).toArray 28) = W0
 intro G hP
 have Gs := G.size
 have Gs0 := G.size
 have l1hP := hP.lt
 refine Fg.rP [3] [.any, .any, .any, .fresh 26 zr5 W0.heap.size, .any, .val (Value.pointer (some ⟨w0.heap.size, 10, none⟩)), .val (p.Z.v), .val ((invF p.Z).v)] 4 ?_ ?_
 ·refine Fg.vS rfl (by decide) (fun ac w h => ?_) ?_
  ·have e1 : _ = Value.pointer (some ⟨w0.heap.size, 0, none⟩) := h.r 1
   exact Fg.vn (Value.pointer (some ⟨w0.heap.size, 10, none⟩)) (Fg.run_fieldAddr rfl e1 (fa_point2 _ _ _))
  refine Fg.vS rfl (by decide) (fun ac w h => ?_) ?_
  ·have e5 : _ = Value.pointer (some ⟨w0.heap.size, 10, none⟩) := h.d 5
   exact Fg.vn p.Z.v (Fg.run_load rfl e5 ((hP.gn h.base).range 10 (feL p.Z) rfl) Tryd.underlying26 rfl info_elem)
  refine Fg.cS rfl (by decide) (fun ac w h => ?_) ?_
  ·have e6 : _ = p.Z.v := h.d 6
   refine ⟨wants_none rfl, 27, #[p.Z.v], Fg.run_call rfl rfl (by simp only [List.map_toArray, List.map_cons, List.map_nil, Act.eval, e6]) (Fg.run_enter Tryd.func27 (by kernel_rfl) (by kernel_rfl)), ?_⟩
   exact (t_inv okp.Z).mono fun _ _ ⟨he, hg⟩ => ⟨_, he, hg, rfl⟩
  refine ⟨⟨⟨_, rfl⟩, Fg.allocP (fun _ _ h k => gb_trans h k) rfl (by show 3 < 24; decide) fun ac w h => ?_⟩, ?_⟩
  ·refine ⟨wants_none rfl, w.alloc (.cells zr5.toArray 26), ?_, World.grownBy_alloc _ _ _, by simp, ⟨w.heap.size, rfl, h.base.size, Blk.new w zr5 _⟩⟩
   clear h
   go_simp
  trivial
 ·intro qa V1 g1 hsz hdf hrest hslots hpt
  obtain ⟨N3, hs3, hn3, hb3⟩ : ∃ N, qa.tmps.getD 3 undef = .pointer (some ⟨N, 0, none⟩) ∧ W0.heap.size ≤ N ∧ Blk V1 N 26 zr5 := hslots 3 (by kernel_rfl)
  obtain ⟨u5, hs5⟩ := Fg.slotv qa 5
  obtain ⟨u6, hs6⟩ := Fg.slotv qa 6
  obtain ⟨x1, hx1⟩ : ∃ x : Fe, x = invF p.Z := ⟨_, rfl⟩
  obtain rfl := Fg.frame_by [3, 5, 6, 7] (vs := [p.v, Value.pointer (some ⟨w0.heap.size, 0, none⟩), Value.slice none 0 0, Value.pointer (some ⟨N3, 0, none⟩), undef, u5, u6, x1.v, undef, undef, undef, undef, undef, undef, undef, undef, undef, undef, undef, undef, undef, undef, undef, undef]) hsz hrest (by kernel_rfl) rfl rfl ⟨hs3, hs5, hs6, (show qa.tmps.getD 7 undef = x1.v by rw [hx1]; exact hslots 7 (by kernel_rfl)), trivial⟩ hdf
  clear hsz hdf hrest hslots hpt hs3 hs5 hs6
  have Hx1 := Lib.hid hx1; clear hx1
  replace hP := hP.gn g1
  replace G := gb_trans G g1
  have okx1 : x1.Ok := by rw [Hx1.out]; exact (inv_right _).ok
  have hw3 : w0.heap.size ≤ N3 := Nat.le_trans Gs0 hn3
  clear g1
  refine Fg.wpl_skip rfl rfl (Fg.run_store (cs := feL x1) rfl rfl rfl (hb3.there 0 5 (by show 0 + 5 ≤ 5; decide)) info_elem (feL_one _)) ?_
  replace hP := hP.setCells_other (C := N3) (cs := feL x1) 0 (by omega)
  replace hb3 : Blk (V1.setCells N3 0 (feL x1)) N3 26 (feL x1) := hb3.setAll rfl
  replace G := gb_setCells_new (cs := feL x1) G (B := N3) (hw3) 0
  revert hP hb3 G
  generalize V1.setCells N3 0 (feL x1) = W2
  intro hP hb3 G
  go_upto_region 2 with (fail)
  have Gs2 := G.size
  have l2hP := hP.lt
  have l2hb3 := hb3.lt
  refine Fg.rP [] [.any, .any, .any, .any, .row 79 (bytesV (Fe.m (Fe.mulF p.Y x1))) 32 W2.heap.size, .any, .any, .any, .val (Value.pointer (some ⟨w0.heap.size, 5, none⟩)), .val (p.Y.v), .val (x1.v), .val ((Fe.mulF p.Y x1).v), .row 79 (bytesV (Fe.m (Fe.mulF p.Y x1))) 32 W2.heap.size] 6 ?_ ?_
  ·refine Fg.vS rfl (by decide) (fun ac w h => ?_) ?_
   ·have e1 : _ = Value.pointer (some ⟨w0.heap.size, 0, none⟩) := h.r 1
    exact Fg.vn (Value.pointer (some ⟨w0.heap.size, 5, none⟩)) (Fg.run_fieldAddr rfl e1 (fa_point1 _ _ _))
   refine Fg.vS rfl (by decide) (fun ac w h => ?_) ?_
   ·have e8 : _ = Value.pointer (some ⟨w0.heap.size, 5, none⟩) := h.d 8
    exact Fg.vn p.Y.v (Fg.run_load rfl e8 ((hP.gn h.base).range 5 (feL p.Y) rfl) Tryd.underlying26 rfl info_elem)
   refine Fg.vS rfl (by decide) (fun ac w h => ?_) ?_
   ·have e3 : _ = Value.pointer (some ⟨N3, 0, none⟩) := h.r 3
    exact Fg.vn x1.v (Fg.run_load rfl e3 ((hb3.gn h.base).range 0 (feL x1) rfl) Tryd.underlying26 rfl info_elem)
   refine Fg.cS rfl (by decide) (fun ac w h => ?_) ?_
   ·have e9 : _ = p.Y.v := h.d 9
    have e10 : _ = x1.v := h.d 10
    refine ⟨wants_none rfl, 25, #[p.Y.v, x1.v], Fg.run_call rfl rfl (by simp only [List.map_toArray, List.map_cons, List.map_nil, Act.eval, e9, e10]) (Fg.run_enter Tryd.func25 (by kernel_rfl) (by kernel_rfl)), ?_⟩
    exact (t_mul okp.Y okx1).mono fun _ _ ⟨he, hg⟩ => ⟨_, he, hg, rfl⟩
   refine Fg.cS rfl (by decide) (fun ac w h => ?_) ?_
   ·have e11 : _ = (Fe.mulF p.Y x1).v := h.d 11
    refine ⟨wants_none rfl, 40, #[(Fe.mulF p.Y x1).v], Fg.run_call rfl rfl (by simp only [List.map_toArray, List.map_cons, List.map_nil, Act.eval, e11]) (Fg.run_enter Tryd.func40 (by kernel_rfl) (by kernel_rfl)), ?_⟩
    exact (put_any _ _ (Fe.mul_right _ _).ok).mono fun _ _ ⟨NB, he, hg, hn, hb⟩ => ⟨_, he, hg, ⟨NB, rfl, Nat.le_trans h.base.size hn, hb⟩⟩
   refine Fg.vS rfl (by decide) (fun ac w h => ?_) ?_
   ·obtain ⟨B12, e12, hn12, b12⟩ : ∃ N, ac.tmps.getD 12 undef = .slice (some ⟨N, 0, none⟩) 32 32 ∧ W2.heap.size ≤ N ∧ Blk w N 79 (bytesV (Fe.m (Fe.mulF p.Y x1))) := h.dep 12 (by kernel_rfl)
    exact ⟨wants_none rfl, Value.slice (some ⟨B12, 0, none⟩) 32 32, w, Fg.run_assign rfl e12, gb_refl _ _, ⟨_, rfl, hn12, b12⟩⟩
   trivial
  ·intro qa V3 g3 hsz hdf hrest hslots hpt
   obtain ⟨N4, hs4, hn4, hb4⟩ : ∃ N, qa.tmps.getD 4 undef = .slice (some ⟨N, 0, none⟩) 32 32 ∧ W2.heap.size ≤ N ∧ Blk V3 N 79 (bytesV (Fe.m (Fe.mulF p.Y x1))) := hslots 4 (by kernel_rfl)
   obtain ⟨u8, hs8⟩ := Fg.slotv qa 8
   obtain ⟨u9, hs9⟩ := Fg.slotv qa 9
   obtain ⟨u10, hs10⟩ := Fg.slotv qa 10
   obtain ⟨u11, hs11⟩ := Fg.slotv qa 11
   obtain ⟨u12, hs12⟩ := Fg.slotv qa 12
   obtain rfl := Fg.frame_by [4, 8, 9, 10, 11, 12] (vs := [p.v, Value.pointer (some ⟨w0.heap.size, 0, none⟩), Value.slice none 0 0, Value.pointer (some ⟨N3, 0, none⟩), Value.slice (some ⟨N4, 0, none⟩) 32 32, u5, u6, x1.v, u8, u9, u10, u11, u12, undef, undef, undef, undef, undef, undef, undef, undef, undef, undef, undef]) hsz hrest (by kernel_rfl) rfl rfl ⟨hs4, hs8, hs9, hs10, hs11, hs12, trivial⟩ hdf
   clear hsz hdf hrest hslots hpt hs4 hs8 hs9 hs10 hs11 hs12
   replace hP := hP.gn g3
   replace hb3 := hb3.gn g3
   replace G := gb_trans G g3
   have hw4 : w0.heap.size ≤ N4 := Nat.le_trans Gs2 hn4
   clear g3
   go_upto_region 3 with (fail)
   have Gs3 := G.size
   have l3hP := hP.lt
   have l3hb3 := hb3.lt
   have l3hb4 := hb4.lt
   refine Fg.rP [] [.any, .any, .any, .any, .any, .any, .any, .any, .any, .any, .any, .any, .any, .val (Value.pointer (some ⟨w0.heap.size, 0, none⟩)), .val (p.X.v), .val (x1.v), .val ((Fe.mulF p.X x1).v), .val (Value.bool false)] 5 ?_ ?_
   ·refine Fg.vS rfl (by decide) (fun ac w h => ?_) ?_
    ·have e1 : _ = Value.pointer (some ⟨w0.heap.size, 0, none⟩) := h.r 1
     exact Fg.vn (Value.pointer (some ⟨w0.heap.size, 0, none⟩)) (Fg.run_fieldAddr rfl e1 (fa_point0 _ _ _))
    refine Fg.vS rfl (by decide) (fun ac w h => ?_) ?_
    ·have e13 : _ = Value.pointer (some ⟨w0.heap.size, 0, none⟩) := h.d 13
     exact Fg.vn p.X.v (Fg.run_load rfl e13 ((hP.gn h.base).range 0 (feL p.X) rfl) Tryd.underlying26 rfl info_elem)
    refine Fg.vS rfl (by decide) (fun ac w h => ?_) ?_
    ·have e3 : _ = Value.pointer (some ⟨N3, 0, none⟩) := h.r 3
     exact Fg.vn x1.v (Fg.run_load rfl e3 ((hb3.gn h.base).range 0 (feL x1) rfl) Tryd.underlying26 rfl info_elem)
    refine Fg.cS rfl (by decide) (fun ac w h => ?_) ?_
    ·have e14 : _ = p.X.v := h.d 14
     have e15 : _ = x1.v := h.d 15
     refine ⟨wants_none rfl, 25, #[p.X.v, x1.v], Fg.run_call rfl rfl (by simp only [List.map_toArray, List.map_cons, List.map_nil, Act.eval, e14, e15]) (Fg.run_enter Tryd.func25 (by kernel_rfl) (by kernel_rfl)), ?_⟩
     exact (t_mul okp.X okx1).mono fun _ _ ⟨he, hg⟩ => ⟨_, he, hg, rfl⟩
    refine Fg.cS rfl (by decide) (fun ac w h => ?_) ?_
    ·have e16 : _ = (Fe.mulF p.X x1).v := h.d 16
     refine ⟨wants_none rfl, 26, #[(Fe.mulF p.X x1).v], Fg.run_call rfl rfl (by simp only [List.map_toArray, List.map_cons, List.map_nil, Act.eval, e16]) (Fg.run_enter Tryd.func26 (by kernel_rfl) (by kernel_rfl)), ?_⟩
     exact (t_odd (Fe.mul_right _ _).ok (by rw [Hx1.out]; exact hx)).mono fun _ _ ⟨he, hg⟩ => ⟨_, he, hg, rfl⟩
    trivial
   ·intro qa V4 g4 hsz hdf hrest hslots hpt
    obtain ⟨u13, hs13⟩ := Fg.slotv qa 13
    obtain ⟨u14, hs14⟩ := Fg.slotv qa 14
    obtain ⟨u15, hs15⟩ := Fg.slotv qa 15
    obtain ⟨u16, hs16⟩ := Fg.slotv qa 16
    obtain rfl := Fg.frame_by [13, 14, 15, 16, 17] (vs := [p.v, Value.pointer (some ⟨w0.heap.size, 0, none⟩), Value.slice none 0 0, Value.pointer (some ⟨N3, 0, none⟩), Value.slice (some ⟨N4, 0, none⟩) 32 32, u5, u6, x1.v, u8, u9, u10, u11, u12, u13, u14, u15, u16, Value.bool false, undef, undef, undef, undef, undef, undef]) hsz hrest (by kernel_rfl) rfl rfl ⟨hs13, hs14, hs15, hs16, (show qa.tmps.getD 17 undef = Value.bool false from hslots 17 (by kernel_rfl)), trivial⟩ hdf
    clear hsz hdf hrest hslots hpt hs13 hs14 hs15 hs16
    replace hP := hP.gn g4
    replace hb3 := hb3.gn g4
    replace hb4 := hb4.gn g4
    replace G := gb_trans G g4
    clear g4
    have hY : Fe.m (Fe.mulF p.Y x1) = Fe.m (putY p) := by rw [Hx1.out]; rfl
    rw [hY] at hb4
    clear hY
    have hN : (Fe.m (putY p) : Int) = putNum p := by
     unfold putNum
     have : Fe.m (putX p) % 2 = 0 := by have := of_decide_eq_false hx; omega
     rw [this]; simp
    rw [hN] at hb4
    have HR := Lib.hid (And.intro hb4 G)
    clear hN hb4 hb3 hP G
    go_wp2
    go_ret
    exact ⟨N4, rfl, HR.out.2, hw4, HR.out.1⟩
theorem edPut (p : Pt) (w0 : World) (okp : p.Ok) : Calls Tryd.prog 15 #[p.v] w0 fun e w' => ∃ NB, e = .returned (.slice (some ⟨NB, 0, none⟩) 32 32) ∧ w0.grownBy w' none ∧ w0.heap.size ≤ NB ∧ Blk w' NB 79 (bytesV (putNum p)) := by
 by_cases hx : Fe.m (putX p) % 2 = 1
 ·exact put_odd p w0 okp (decide_eq_true hx)
 ·exact put_even p w0 okp (decide_eq_false hx)

end Go.Proofs.YtleegbaigedebaaDoor

/- edwards: a pair as a number; what Get and Put tell, said by pairs. -/
namespace Go.Proofs.YtleegbaigedebaaDoor
open Go.RowKit Ow Ed
def enc (p : Pr) : Int := (p.y.val : Int) + 57896044618658097711785492504343953926634992332820282019728792003956564819968 * ((p.x.val % 2 : Nat) : Int)
theorem phi_val (a : Fe) : (phi a).val = Fe.m a := rfl
theorem val_lt (x : F) : x.val < 57896044618658097711785492504343953926634992332820282019728792003956564819949 := x.isLt
theorem P_is : Fe.P = 57896044618658097711785492504343953926634992332820282019728792003956564819949 := rfl
theorem enc_y (p : Pr) : enc p % 57896044618658097711785492504343953926634992332820282019728792003956564819968 = (p.y.val : Int) := by
  unfold enc
  have h := val_lt p.y
  omega
theorem enc_x (p : Pr) : decide (57896044618658097711785492504343953926634992332820282019728792003956564819968 ≤ enc p) = decide (p.x.val % 2 = 1) := by
  unfold enc
  have h := val_lt p.y
  rw [decide_eq_decide]
  omega
theorem id_v {n : Nat} [NeZero n] (d y i : Fin n) (hi : i * i = -1) (h : d * (y * y) + 1 = 0) : i * i = d * (y * y) := by grind
theorem id_v2 {n : Nat} [NeZero n] (d : Fin n) (h : d * (0 * 0) + 1 = 0) : (1 : Fin n) = 0 := by grind
theorem v_ne (y : F) : d * (y * y) + 1 ≠ 0 := fun h => by
  have h0 := nosq (id_v d y im im_is h)
  subst h0
  exact one_ne (id_v2 d h)
theorem id_on1 {n : Nat} [NeZero n] {d x y : Fin n} (h : y*y - x*x = 1 + d*(x*x*(y*y))) : x * x * (d * (y * y) + 1) = y * y - 1 := by grind
theorem id_on2 {n : Nat} [NeZero n] {d x y : Fin n} (h : x * x * (d * (y * y) + 1) = y * y - 1) : y*y - x*x = 1 + d*(x*x*(y*y)) := by grind
theorem id_sq {n : Nat} [NeZero n] {x z v : Fin n} (h : x * x * v = z * z * v) : v * ((x - z) * (x + z)) = 0 := by grind
theorem id_neg {n : Nat} [NeZero n] {x z : Fin n} (h : x + z = 0) : x = - z := by grind
theorem id_nn {n : Nat} [NeZero n] (x : Fin n) : - x * - x = x * x := by grind
theorem same_sq {x z v : F} (hv : v ≠ 0) (h : x * x * v = z * z * v) : x = z ∨ x = - z := by
  rcases mul_zero ((mul_zero (id_sq h)).resolve_left hv) with h1 | h1
  · exact Or.inl (sub_zero_of h1)
  · exact Or.inr (id_neg h1)
def uF (y : Fe) : Fe := Fe.subF (Fe.sqF y) Fe.oneF
def vF (y : Fe) : Fe := Fe.addF (Fe.mulF dF (Fe.sqF y)) Fe.oneF
theorem phi_u {y : Fe} (h : y.Right) : phi (uF y) = phi y * phi y - 1 := by
  unfold uF
  rw [phi_sub (Fe.sq_right _) one_right', phi_sq h, phi_one]
theorem phi_v {y : Fe} (h : y.Right) : phi (vF y) = d * (phi y * phi y) + 1 := by
  unfold vF
  rw [phi_add (Fe.mul_right _ _) one_right', phi_mul dF_right (Fe.sq_right _), phi_sq h, phi_one, phi_d]
theorem phi_root {r u v : Fe} : Fe.m r * Fe.m r * Fe.m v % Fe.P = Fe.m u ↔ phi r * phi r * phi v = phi u := by
  constructor
  · intro h
    apply Fin.ext
    rw [Fin.val_mul, Fin.val_mul, Nat.mod_mul_mod]
    exact h
  · intro h
    have := congrArg Fin.val h
    rw [Fin.val_mul, Fin.val_mul, Nat.mod_mul_mod] at this
    exact this
theorem par_neg {x : F} (h : x ≠ 0) : (- x).val % 2 = 1 - x.val % 2 := by
  have h1 : (- x).val = Fe.P - x.val := by
    have h2 : x.val ≠ 0 := fun e => h (Fin.ext (e.trans Ed.zero_val.symm))
    have hl := x.isLt
    rw [Fin.val_neg]
    split
    · exact absurd (by assumption) h
    · rfl
  have hl := x.isLt
  have h2 : x.val ≠ 0 := fun e => h (Fin.ext (e.trans Ed.zero_val.symm))
  have h3 := val_lt x
  have hP := P_is
  rw [h1]
  omega
theorem neg_zero' : - (0 : F) = 0 := by decide +kernel
theorem across_yes {y xa : Fe} {odd : Bool} (hy : y.Right) (h : acrossF y odd = (xa, true)) : xa.Right ∧ On ⟨phi xa, phi y⟩ ∧ decide ((phi xa).val % 2 = 1) = odd := by
  unfold acrossF at h
  change (if (rootF (uF y) (vF y)).2 = false then ((rootF (uF y) (vF y)).1, false) else if odd = false then ((rootF (uF y) (vF y)).1, true) else if Fe.m (rootF (uF y) (vF y)).1 = 0 then (Fe.zeroF, false) else (Fe.negF (rootF (uF y) (vF y)).1, true)) = (xa, true) at h
  have hvr : (vF y).Right := Fe.add_right _ _
  by_cases hb : (rootF (uF y) (vF y)).2 = true
  · obtain ⟨hr, he, hm⟩ := root_says hvr hb
    have hm' := phi_root.1 hm
    rw [phi_u hy, phi_v hy] at hm'
    rw [if_neg (by rw [hb]; decide)] at h
    cases odd with
    | false =>
      rw [if_pos rfl] at h
      obtain rfl := (Prod.mk.inj h).1
      refine ⟨hr, id_on2 hm', ?_⟩
      rw [decide_eq_false_iff_not]
      rw [phi_val]
      omega
    | true =>
      rw [if_neg (by decide)] at h
      by_cases hz : Fe.m (rootF (uF y) (vF y)).1 = 0
      · rw [if_pos hz] at h; exact absurd (Prod.mk.inj h).2 (by decide)
      · rw [if_neg hz] at h
        obtain rfl := (Prod.mk.inj h).1
        have hne : phi (rootF (uF y) (vF y)).1 ≠ 0 := fun e => hz (by have := congrArg Fin.val e; rw [Ed.zero_val, phi_val] at this; exact this)
        refine ⟨Fe.neg_right _, ?_, ?_⟩
        · apply id_on2
          show phi (Fe.negF _) * phi (Fe.negF _) * _ = _
          rw [phi_neg hr, id_nn]; exact hm'
        · rw [decide_eq_true_iff, phi_neg hr, par_neg hne]
          rw [phi_val]
          omega
  · rw [if_pos (by simpa using hb)] at h
    exact absurd (Prod.mk.inj h).2 (by decide)
theorem across_no {y xa : Fe} {odd : Bool} (hy : y.Right) (h : acrossF y odd = (xa, false)) (p : Pr) (hp : On p) (hpy : p.y = phi y) : decide (p.x.val % 2 = 1) ≠ odd := by
  intro hodd
  unfold acrossF at h
  change (if (rootF (uF y) (vF y)).2 = false then ((rootF (uF y) (vF y)).1, false) else if odd = false then ((rootF (uF y) (vF y)).1, true) else if Fe.m (rootF (uF y) (vF y)).1 = 0 then (Fe.zeroF, false) else (Fe.negF (rootF (uF y) (vF y)).1, true)) = (xa, false) at h
  have hvr : (vF y).Right := Fe.add_right _ _
  have hur : (uF y).Right := Fe.sub_right _ _
  have hx := id_on1 hp
  rw [hpy, ← phi_v hy, ← phi_u hy] at hx
  have hb : (rootF (uF y) (vF y)).2 = true := by
    refine root_any_true (t := p.x.val) hur hvr ?_
    have := congrArg Fin.val hx
    rw [Fin.val_mul, Fin.val_mul, Nat.mod_mul_mod] at this
    exact this
  obtain ⟨hr, he, hm⟩ := root_says hvr hb
  have hm' := phi_root.1 hm
  rw [if_neg (by rw [hb]; decide)] at h
  cases odd with
  | false => rw [if_pos rfl] at h; exact absurd (Prod.mk.inj h).2 (by decide)
  | true =>
    rw [if_neg (by decide)] at h
    by_cases hz : Fe.m (rootF (uF y) (vF y)).1 = 0
    · have hv : phi (vF y) ≠ 0 := by rw [phi_v hy]; exact v_ne _
      have hz' : phi (rootF (uF y) (vF y)).1 = 0 := Fin.ext ((phi_val _).trans (hz.trans Ed.zero_val.symm))
      rcases same_sq hv (hx.trans hm'.symm) with e | e
      · rw [e, hz', Ed.zero_val] at hodd; cases hodd
      · rw [e, hz', neg_zero', Ed.zero_val] at hodd; cases hodd
    · rw [if_neg hz] at h; exact absurd (Prod.mk.inj h).2 (by decide)
theorem enc_inj {p q : Pr} (hp : On p) (hq : On q) (h : enc p = enc q) : p = q := by
  have hy : p.y = q.y := Fin.ext (by have h1 := enc_y p; have h2 := enc_y q; rw [h] at h1; omega)
  have hxp := id_on1 hp
  have hxq := id_on1 hq
  rw [hy] at hxp
  have hpar : p.x.val % 2 = q.x.val % 2 := by
    have h1 := enc_x p
    have h2 := enc_x q
    rw [h, h2] at h1
    have := decide_eq_decide.1 h1
    omega
  apply Ed.ext _ hy
  rcases same_sq (v_ne q.y) (hxp.trans hxq.symm) with e | e
  · exact e
  · by_cases hz : q.x = 0
    · rw [e, hz, neg_zero']
    · have := par_neg hz
      rw [← e] at this
      omega
theorem phi_inv {a : Fe} (h : a.Right) : phi (invF a) = Ed.inv (phi a) := Fin.ext (by rw [phi_val, Ed.inv_val, phi_val]; exact (inv_pw h).mi)
theorem id_q {n : Nat} [NeZero n] {z x i : Fin n} (h : z * i = 1) : z * x * i = x := by grind
theorem put_pr {s : Pt} {p : Pr} (h : PtIs s p) : putNum s = enc p := by
  have hi := Ed.inv_mul h.z
  have ey : phi (putY s) = p.y := by
    unfold putY
    rw [phi_mul h.rY (inv_right _), phi_inv h.rZ, h.y]; exact id_q hi
  have ex : phi (putX s) = p.x := by
    unfold putX
    rw [phi_mul h.rX (inv_right _), phi_inv h.rZ, h.x]; exact id_q hi
  have ey' : Fe.m (putY s) = p.y.val := (phi_val _).symm.trans (congrArg Fin.val ey)
  have ex' : Fe.m (putX s) = p.x.val := (phi_val _).symm.trans (congrArg Fin.val ex)
  unfold putNum enc
  rw [ey', ex']
def numI (l : List Nat) : Int := wordOf (fun i => ((l.getD i 0 : Nat) : Int)) 32
theorem word_congr {F G : Nat → Int} : ∀ n, (∀ i, i < n → F i = G i) → wordOf F n = wordOf G n
  | 0, _ => rfl
  | n + 1, h => by rw [wordOf, wordOf, word_congr n (fun i hi => h i (by omega)), h n (by omega)]
theorem num_low (l : List Nat) (hl : l.length = 32) (hb : ∀ i, l.getD i 0 < 256) : wordOf (lowF l) 32 = numI l % 57896044618658097711785492504343953926634992332820282019728792003956564819968 ∧ topB l = decide (57896044618658097711785492504343953926634992332820282019728792003956564819968 ≤ numI l) := by
  have e31 : (2 : Int) ^ (8 * 31) = 452312848583266388373324160190187140051835877600158453279131187530910662656 := by decide
  have hlo : ∀ i, i < 31 → lowF l i = ((l.getD i 0 : Nat) : Int) := fun i hi => by
    unfold lowF lowL
    rw [List.getD_eq_getElem?_getD, List.getElem?_set_ne (by omega), ← List.getD_eq_getElem?_getD]
  have h31 : lowF l 31 = ((l.getD 31 0 % 128 : Nat) : Int) := by
    unfold lowF lowL
    rw [List.getD_eq_getElem?_getD, List.getElem?_set_self (by omega), Option.getD_some]
  have hbd := wordOf_bd (fun i => ((l.getD i 0 : Nat) : Int)) (fun i => ⟨Int.natCast_nonneg _, by have := hb i; omega⟩) 31
  rw [e31] at hbd
  have hx := hb 31
  unfold numI topB
  have ew : wordOf (lowF l) 32 = wordOf (fun i => ((l.getD i 0 : Nat) : Int)) 31 + lowF l 31 * 2 ^ (8 * 31) := by
    rw [wordOf, word_congr 31 hlo]
  have ew2 : wordOf (fun i => ((l.getD i 0 : Nat) : Int)) 32 = wordOf (fun i => ((l.getD i 0 : Nat) : Int)) 31 + ((l.getD 31 0 : Nat) : Int) * 2 ^ (8 * 31) := rfl
  rw [ew, ew2, h31, e31]
  generalize wordOf (fun i => ((l.getD i 0 : Nat) : Int)) 31 = a at *
  generalize l.getD 31 0 = x at *
  refine ⟨by omega, ?_⟩
  rw [decide_eq_decide]
  omega
def GetOut (l : List Nat) (w : World) (e : Ending) (w' : World) : Prop :=
  ∃ (t : Pt) (b : Bool), e = .returned (.tuple #[t.v, .bool b]) ∧ w.grownBy w' none ∧ (b = true → ∃ p, PtIs t p ∧ l.length = 32 ∧ enc p = numI l) ∧ (b = false → t = zeroP0 ∧ ¬ (l.length = 32 ∧ ∃ p, On p ∧ enc p = numI l))
theorem phi_fromN {x : Int} (h0 : 0 ≤ x) (h1 : x < 57896044618658097711785492504343953926634992332820282019728792003956564819949) : ((phi (fromN x)).val : Int) = x := by
  rw [phi_val, fromN_m]
  omega
theorem edGet (B n c : Nat) (a : Option Addr) (l : List Nat) (w0 : World) (HT0 : ETab w0) (hl : l.length = n) (hn : n < 9223372036854775808) (hP : BytesAt w0 B a c l) :
    Calls Tryd.prog 16 #[.slice a n c] w0 (GetOut l w0) := by
  by_cases h32 : n = 32
  · subst h32
    obtain ⟨hlow, htop⟩ := num_low l hl hP.byte
    have hbd := wordOf_bd (lowF l) (lowF_bd l hP.byte) 32
    have hbd2 : wordOf (lowF l) 32 < 2 ^ 256 := hbd.2
    by_cases hlt : wordOf (lowF l) 32 < 57896044618658097711785492504343953926634992332820282019728792003956564819949
    · have hyr := fromN_right hbd.1 hbd2
      have hyv := phi_fromN hbd.1 hlt
      cases hac : acrossF (fromN (wordOf (lowF l) 32)) (topB l) with
      | mk xa b =>
        cases b
        · refine (get_C B a c l w0 HT0 hl hP hlt xa hac).mono ?_
          rintro e w' ⟨rfl, hg⟩
          refine ⟨_, _, rfl, hg, (by intro h; cases h), fun _ => ⟨rfl, ?_⟩⟩
          rintro ⟨_, p, hp, hN⟩
          refine across_no hyr hac p hp (Fin.ext ?_) ?_
          · have h1 := enc_y p
            rw [hN, ← hlow] at h1
            omega
          · rw [← enc_x, hN, htop]
        · refine (get_D B a c l w0 HT0 hl hP hlt xa hac).mono ?_
          rintro e w' ⟨rfl, hg⟩
          refine ⟨_, _, rfl, hg, fun _ => ?_, (by intro h; cases h)⟩
          obtain ⟨hxr, hon, hpar⟩ := across_yes hyr hac
          refine ⟨⟨phi xa, phi (fromN (wordOf (lowF l) 32))⟩, ⟨hxr, hyr, one_right', Fe.mul_right _ _, hon, by show phi Fe.oneF ≠ 0; rw [phi_one]; exact one_ne, e_10 _ _ phi_one, e_10 _ _ phi_one, ?_⟩, hl, ?_⟩
          · show phi (Fe.mulF xa _) = phi Fe.oneF * _
            rw [phi_mul hxr hyr]; exact e_10 _ _ phi_one
          · rw [htop] at hpar
            have h2 := decide_eq_decide.1 hpar
            unfold enc
            show ((phi (fromN (wordOf (lowF l) 32))).val : Int) + _ = _
            rw [hyv, hlow]
            have hb2 := wordOf_bd (fun i => ((l.getD i 0 : Nat) : Int)) (fun i => ⟨Int.natCast_nonneg _, by have := hP.byte i; omega⟩) 32
            have e256 : (2 : Int) ^ (8 * 32) = 115792089237316195423570985008687907853269984665640564039457584007913129639936 := by decide
            rw [e256] at hb2
            change 0 ≤ numI l ∧ numI l < _ at hb2
            show _ + _ * (((phi xa).val % 2 : Nat) : Int) = _
            generalize numI l = N at *
            generalize (phi xa).val = X at *
            omega
    · refine (get_B B a c l w0 HT0 hl hP (by omega)).mono ?_
      rintro e w' ⟨rfl, hg⟩
      refine ⟨_, _, rfl, hg, (by intro h; cases h), fun _ => ⟨rfl, ?_⟩⟩
      rintro ⟨_, p, hp, hN⟩
      have h1 := enc_y p
      rw [hN, ← hlow] at h1
      have h2 := val_lt p.y
      omega
  · refine (get_len a n c w0 (by simpa using (show ¬ (n : Int) = 32 by omega))).mono ?_
    rintro e w' ⟨rfl, hg⟩
    exact ⟨_, _, rfl, hg, (by intro h; cases h), fun _ => ⟨rfl, fun h => h32 (hl ▸ h.1)⟩⟩
end Go.Proofs.YtleegbaigedebaaDoor

/- edwards' law: what its examples come to (mathematics). -/
namespace Go.Proofs.YtleegbaigedebaaDoor
open Go.RowKit Ow Ed
theorem put_base : putNum baseT = 46316835694926478169428394003475163141307993866256225615783033603165251855960 := by decide +kernel
theorem enc_zero : enc zero = 1 := by decide +kernel
def oneL : List Nat := [1] ++ List.replicate 31 0
def badL : List Nat := oneL.set 31 128
theorem lt_of (l : List Nat) (h : l.all (· < 256) = true) (i : Nat) : l.getD i 0 < 256 := by
  rw [List.getD_eq_getElem?_getD]
  cases e : l[i]? with
  | none => decide
  | some x => exact of_decide_eq_true (List.all_eq_true.1 h x (List.mem_of_getElem? e))
theorem oneL_lt : ∀ i, oneL.getD i 0 < 256 := lt_of _ (by decide +kernel)
theorem badL_lt : ∀ i, badL.getD i 0 < 256 := lt_of _ (by decide +kernel)
theorem num_oneL : numI oneL = 1 := by decide +kernel
theorem num_badL : numI badL = 57896044618658097711785492504343953926634992332820282019728792003956564819969 := by decide +kernel
theorem get_one {w : World} {e : Ending} {w' : World} (h : GetOut oneL w e w') : ∃ t, PtIs t zero ∧ e = .returned (.tuple #[t.v, .bool true]) ∧ w.grownBy w' none := by
  obtain ⟨t, b, rfl, hg, hy, hn⟩ := h
  cases b with
  | false => exact absurd ⟨rfl, zero, zero_on, by rw [enc_zero, num_oneL]⟩ (hn rfl).2
  | true =>
    obtain ⟨p, hp, _, he⟩ := hy rfl
    obtain rfl : p = zero := enc_inj hp.on zero_on (by rw [he, num_oneL, enc_zero])
    exact ⟨t, hp, rfl, hg⟩
theorem bad_none (p : Pr) (hp : On p) (h : enc p = 57896044618658097711785492504343953926634992332820282019728792003956564819969) : False := by
  have hy : p.y = zero.y := Fin.ext (by
    have h1 := enc_y p
    rw [h] at h1
    have h2 : (zero.y.val : Int) = 1 := by decide +kernel
    omega)
  have hxp := id_on1 hp
  have hxq := id_on1 zero_on
  rw [hy] at hxp
  have hx0 : p.x = 0 := by
    have hz : zero.x = 0 := rfl
    rcases same_sq (v_ne zero.y) (hxp.trans hxq.symm) with e | e
    · rw [e, hz]
    · rw [e, hz, neg_zero']
  have h3 := enc_x p
  rw [h, hx0] at h3
  revert h3
  decide +kernel
theorem get_bad {w : World} {e : Ending} {w' : World} (h : GetOut badL w e w') : ∃ t : Pt, e = .returned (.tuple #[t.v, .bool false]) ∧ w.grownBy w' none := by
  obtain ⟨t, b, rfl, hg, hy, _⟩ := h
  cases b with
  | false => exact ⟨_, rfl, hg⟩
  | true =>
    obtain ⟨p, hp, _, he⟩ := hy rfl
    exact (bad_none p hp.on (by rw [he, num_badL])).elim
theorem base_digit : ∀ i, i < 32 → (46316835694926478169428394003475163141307993866256225615783033603165251855960 : Int) / 2 ^ (8 * i) % 256 = if i = 0 then 88 else 102 := by decide +kernel
theorem base_bytes (i : Nat) (h : i < 32) : bytV (putNum baseT) i = .int .u8 (if i = 0 then 88 else 102) := by
  rw [put_base]
  unfold bytV
  rw [base_digit i h]
end Go.Proofs.YtleegbaigedebaaDoor

/- edwards: become. -/
namespace Go.Proofs.YtleegbaigedebaaDoor
open Go.RowKit Ed
set_option maxRecDepth 100000 in
set_option maxHeartbeats 3200000 in
theorem become_any (S : Nat) (s : Sm) (a u b v : Fe) (w0 : World) (hS : Blk w0 S 53 (smL s)) (oka : a.Ok) (oku : u.Ok) (okb : b.Ok) (okv : v.Ok) :
  Calls Tryd.prog 56 #[.pointer (some ⟨S, 0, none⟩), a.v, u.v, b.v, v.v] w0 fun e w' => e = .returned (.tuple #[]) ∧ w0.grownBy w' (some S) ∧ Blk w' S 53 (smL (bF s.T a u b v)) := by
 show Calls Tryd.prog 56 #[.pointer (some ⟨S, 0, none⟩), .agg (feL a).toArray, .agg (feL u).toArray, .agg (feL b).toArray, .agg (feL v).toArray] w0 _
 go_enter Tryd.func56, Tryd.ntmps56
 go_upto_region 1 with (fail)
 have hlt := hS.lt
 have G : w0.grownBy ((((w0.alloc (.cells (feL a).toArray 26)).alloc (.cells (feL u).toArray 26)).alloc (.cells (feL b).toArray 26)).alloc (.cells (feL v).toArray 26)) (some S) := gb_alloc (gb_alloc (gb_alloc (gb_alloc (gb_refl _ _) _) _) _) _
 have ha : Blk ((((w0.alloc (.cells (feL a).toArray 26)).alloc (.cells (feL u).toArray 26)).alloc (.cells (feL b).toArray 26)).alloc (.cells (feL v).toArray 26)) (w0.heap.size) 26 (feL a) := (((Blk.new w0 (feL a) _).alloc _).alloc _).alloc _
 have hu : Blk ((((w0.alloc (.cells (feL a).toArray 26)).alloc (.cells (feL u).toArray 26)).alloc (.cells (feL b).toArray 26)).alloc (.cells (feL v).toArray 26)) (w0.heap.size + 1) 26 (feL u) := ((Blk.newAt (w0.alloc _) (feL u) _ (by simp)).alloc _).alloc _
 have hb : Blk ((((w0.alloc (.cells (feL a).toArray 26)).alloc (.cells (feL u).toArray 26)).alloc (.cells (feL b).toArray 26)).alloc (.cells (feL v).toArray 26)) (w0.heap.size + 1 + 1) 26 (feL b) := (Blk.newAt ((w0.alloc _).alloc _) (feL b) _ (by simp)).alloc _
 have hv : Blk ((((w0.alloc (.cells (feL a).toArray 26)).alloc (.cells (feL u).toArray 26)).alloc (.cells (feL b).toArray 26)).alloc (.cells (feL v).toArray 26)) (w0.heap.size + 1 + 1 + 1) 26 (feL v) := Blk.newAt (((w0.alloc _).alloc _).alloc _) (feL v) _ (by simp)
 replace hS : Blk ((((w0.alloc (.cells (feL a).toArray 26)).alloc (.cells (feL u).toArray 26)).alloc (.cells (feL b).toArray 26)).alloc (.cells (feL v).toArray 26)) S 53 (smL s) := (((hS.alloc _).alloc _).alloc _).alloc _
 revert G ha hu hb hv hS
 generalize (((w0.alloc (.cells (feL a).toArray 26)).alloc (.cells (feL u).toArray 26)).alloc (.cells (feL b).toArray 26)).alloc (.cells (feL v).toArray 26) = W0
 intro G ha hu hb hv hS
 have Gs0 := G.size
 have l1ha := ha.lt
 have l1hu := hu.lt
 have l1hb := hb.lt
 have l1hv := hv.lt
 have l1hS := hS.lt
 refine Fg.rP [] [.any, .any, .any, .any, .any, .any, .any, .any, .any, .any, .val (Value.pointer (some ⟨S, 0, none⟩)), .val (a.v), .val (v.v), .val ((Fe.mulF a v).v), .val (Value.pointer (some ⟨S, 0, none⟩)), .val (Value.pointer (some ⟨S, 0, none⟩)), .val (Value.pointer (some ⟨S, 0, none⟩))] 7 ?_ ?_
 ·refine Fg.vS rfl (by decide) (fun ac w h => ?_) ?_
  ·have e0 : _ = Value.pointer (some ⟨S, 0, none⟩) := h.r 0
   exact Fg.vn (Value.pointer (some ⟨S, 0, none⟩)) (Fg.run_move rfl e0)
  refine Fg.vS rfl (by decide) (fun ac w h => ?_) ?_
  ·have e6 : _ = Value.pointer (some ⟨w0.heap.size, 0, none⟩) := h.r 6
   exact Fg.vn a.v (Fg.run_load rfl e6 ((ha.gn h.base).range 0 (feL a) rfl) Tryd.underlying26 rfl info_elem)
  refine Fg.vS rfl (by decide) (fun ac w h => ?_) ?_
  ·have e9 : _ = Value.pointer (some ⟨w0.heap.size + 1 + 1 + 1, 0, none⟩) := h.r 9
   exact Fg.vn v.v (Fg.run_load rfl e9 ((hv.gn h.base).range 0 (feL v) rfl) Tryd.underlying26 rfl info_elem)
  refine Fg.cS rfl (by decide) (fun ac w h => ?_) ?_
  ·have e11 : _ = a.v := h.d 11
   have e12 : _ = v.v := h.d 12
   refine ⟨wants_none rfl, 25, #[a.v, v.v], Fg.run_call rfl rfl (by simp only [List.map_toArray, List.map_cons, List.map_nil, Act.eval, e11, e12]) (Fg.run_enter Tryd.func25 (by kernel_rfl) (by kernel_rfl)), ?_⟩
   exact (t_mul oka okv).mono fun _ _ ⟨he, hg⟩ => ⟨_, he, hg, rfl⟩
  refine Fg.vS rfl (by decide) (fun ac w h => ?_) ?_
  ·have e10 : _ = Value.pointer (some ⟨S, 0, none⟩) := h.d 10
   exact Fg.vn (Value.pointer (some ⟨S, 0, none⟩)) (Fg.run_nilCheck rfl e10)
  refine Fg.vS rfl (by decide) (fun ac w h => ?_) ?_
  ·have e14 : _ = Value.pointer (some ⟨S, 0, none⟩) := h.d 14
   exact Fg.vn (Value.pointer (some ⟨S, 0, none⟩)) (Fg.run_fieldAddr rfl e14 (fa_sum0 _ _ _))
  refine Fg.vS rfl (by decide) (fun ac w h => ?_) ?_
  ·have e15 : _ = Value.pointer (some ⟨S, 0, none⟩) := h.d 15
   exact Fg.vn (Value.pointer (some ⟨S, 0, none⟩)) (Fg.run_fieldAddr rfl e15 (fa_point0 _ _ _))
  trivial
 ·intro qa V1 g1 hsz hdf hrest hslots hpt
  obtain ⟨u10, hs10⟩ := Fg.slotv qa 10
  obtain ⟨u11, hs11⟩ := Fg.slotv qa 11
  obtain ⟨u12, hs12⟩ := Fg.slotv qa 12
  obtain ⟨x1, hx1⟩ : ∃ x : Fe, x = Fe.mulF a v := ⟨_, rfl⟩
  obtain ⟨u14, hs14⟩ := Fg.slotv qa 14
  obtain ⟨u15, hs15⟩ := Fg.slotv qa 15
  obtain rfl := Fg.frame_by [10, 11, 12, 13, 14, 15, 16] (vs := [Value.pointer (some ⟨S, 0, none⟩), a.v, u.v, b.v, v.v, undef, Value.pointer (some ⟨w0.heap.size, 0, none⟩), Value.pointer (some ⟨w0.heap.size + 1, 0, none⟩), Value.pointer (some ⟨w0.heap.size + 1 + 1, 0, none⟩), Value.pointer (some ⟨w0.heap.size + 1 + 1 + 1, 0, none⟩), u10, u11, u12, x1.v, u14, u15, Value.pointer (some ⟨S, 0, none⟩), undef, undef, undef, undef, undef, undef, undef, undef, undef, undef, undef, undef, undef, undef, undef, undef, undef, undef, undef, undef, undef, undef]) hsz hrest (by kernel_rfl) rfl rfl ⟨hs10, hs11, hs12, (show qa.tmps.getD 13 undef = x1.v by rw [hx1]; exact hslots 13 (by kernel_rfl)), hs14, hs15, (show qa.tmps.getD 16 undef = Value.pointer (some ⟨S, 0, none⟩) from hslots 16 (by kernel_rfl)), trivial⟩ hdf
  clear hsz hdf hrest hslots hpt hs10 hs11 hs12 hs14 hs15
  have Hx1 := Lib.hid hx1; clear hx1
  replace ha := ha.gn g1
  replace hu := hu.gn g1
  replace hb := hb.gn g1
  replace hv := hv.gn g1
  replace hS := hS.gn g1
  replace G := gb_trans G (gb_row g1 _)
  have okx1 : x1.Ok := by rw [Hx1.out]; exact (Fe.mul_right _ _).ok
  clear g1
  refine Fg.wpl_skip rfl rfl (Fg.run_store (cs := feL x1) rfl rfl rfl (hS.there 0 5 (by show 0 + 5 ≤ 30; decide)) info_elem (feL_one _)) ?_
  replace ha := ha.setCells_other (C := S) (cs := feL x1) 0 (by omega)
  replace hu := hu.setCells_other (C := S) (cs := feL x1) 0 (by omega)
  replace hb := hb.setCells_other (C := S) (cs := feL x1) 0 (by omega)
  replace hv := hv.setCells_other (C := S) (cs := feL x1) 0 (by omega)
  replace hS : Blk (V1.setCells S 0 (feL x1)) S 53 (smL ((Sm.mk x1 s.Y s.Z s.T s.A s.B))) := hS.setCells 0
  replace G := gb_setCells (cs := feL x1) G 0
  revert ha hu hb hv hS G
  generalize V1.setCells S 0 (feL x1) = W2
  intro ha hu hb hv hS G
  go_upto_region 2 with (fail)
  have Gs2 := G.size
  have l2ha := ha.lt
  have l2hu := hu.lt
  have l2hb := hb.lt
  have l2hv := hv.lt
  have l2hS := hS.lt
  refine Fg.rP [] [.any, .any, .any, .any, .any, .any, .any, .any, .any, .any, .any, .any, .any, .any, .any, .any, .any, .val (Value.pointer (some ⟨S, 0, none⟩)), .val (b.v), .val (u.v), .val ((Fe.mulF b u).v), .val (Value.pointer (some ⟨S, 0, none⟩)), .val (Value.pointer (some ⟨S, 0, none⟩)), .val (Value.pointer (some ⟨S, 5, none⟩))] 7 ?_ ?_
  ·refine Fg.vS rfl (by decide) (fun ac w h => ?_) ?_
   ·have e0 : _ = Value.pointer (some ⟨S, 0, none⟩) := h.r 0
    exact Fg.vn (Value.pointer (some ⟨S, 0, none⟩)) (Fg.run_move rfl e0)
   refine Fg.vS rfl (by decide) (fun ac w h => ?_) ?_
   ·have e8 : _ = Value.pointer (some ⟨w0.heap.size + 1 + 1, 0, none⟩) := h.r 8
    exact Fg.vn b.v (Fg.run_load rfl e8 ((hb.gn h.base).range 0 (feL b) rfl) Tryd.underlying26 rfl info_elem)
   refine Fg.vS rfl (by decide) (fun ac w h => ?_) ?_
   ·have e7 : _ = Value.pointer (some ⟨w0.heap.size + 1, 0, none⟩) := h.r 7
    exact Fg.vn u.v (Fg.run_load rfl e7 ((hu.gn h.base).range 0 (feL u) rfl) Tryd.underlying26 rfl info_elem)
   refine Fg.cS rfl (by decide) (fun ac w h => ?_) ?_
   ·have e18 : _ = b.v := h.d 18
    have e19 : _ = u.v := h.d 19
    refine ⟨wants_none rfl, 25, #[b.v, u.v], Fg.run_call rfl rfl (by simp only [List.map_toArray, List.map_cons, List.map_nil, Act.eval, e18, e19]) (Fg.run_enter Tryd.func25 (by kernel_rfl) (by kernel_rfl)), ?_⟩
    exact (t_mul okb oku).mono fun _ _ ⟨he, hg⟩ => ⟨_, he, hg, rfl⟩
   refine Fg.vS rfl (by decide) (fun ac w h => ?_) ?_
   ·have e17 : _ = Value.pointer (some ⟨S, 0, none⟩) := h.d 17
    exact Fg.vn (Value.pointer (some ⟨S, 0, none⟩)) (Fg.run_nilCheck rfl e17)
   refine Fg.vS rfl (by decide) (fun ac w h => ?_) ?_
   ·have e21 : _ = Value.pointer (some ⟨S, 0, none⟩) := h.d 21
    exact Fg.vn (Value.pointer (some ⟨S, 0, none⟩)) (Fg.run_fieldAddr rfl e21 (fa_sum0 _ _ _))
   refine Fg.vS rfl (by decide) (fun ac w h => ?_) ?_
   ·have e22 : _ = Value.pointer (some ⟨S, 0, none⟩) := h.d 22
    exact Fg.vn (Value.pointer (some ⟨S, 5, none⟩)) (Fg.run_fieldAddr rfl e22 (fa_point1 _ _ _))
   trivial
  ·intro qa V3 g3 hsz hdf hrest hslots hpt
   obtain ⟨u17, hs17⟩ := Fg.slotv qa 17
   obtain ⟨u18, hs18⟩ := Fg.slotv qa 18
   obtain ⟨u19, hs19⟩ := Fg.slotv qa 19
   obtain ⟨x2, hx2⟩ : ∃ x : Fe, x = Fe.mulF b u := ⟨_, rfl⟩
   obtain ⟨u21, hs21⟩ := Fg.slotv qa 21
   obtain ⟨u22, hs22⟩ := Fg.slotv qa 22
   obtain rfl := Fg.frame_by [17, 18, 19, 20, 21, 22, 23] (vs := [Value.pointer (some ⟨S, 0, none⟩), a.v, u.v, b.v, v.v, undef, Value.pointer (some ⟨w0.heap.size, 0, none⟩), Value.pointer (some ⟨w0.heap.size + 1, 0, none⟩), Value.pointer (some ⟨w0.heap.size + 1 + 1, 0, none⟩), Value.pointer (some ⟨w0.heap.size + 1 + 1 + 1, 0, none⟩), u10, u11, u12, x1.v, u14, u15, Value.pointer (some ⟨S, 0, none⟩), u17, u18, u19, x2.v, u21, u22, Value.pointer (some ⟨S, 5, none⟩), undef, undef, undef, undef, undef, undef, undef, undef, undef, undef, undef, undef, undef, undef, undef]) hsz hrest (by kernel_rfl) rfl rfl ⟨hs17, hs18, hs19, (show qa.tmps.getD 20 undef = x2.v by rw [hx2]; exact hslots 20 (by kernel_rfl)), hs21, hs22, (show qa.tmps.getD 23 undef = Value.pointer (some ⟨S, 5, none⟩) from hslots 23 (by kernel_rfl)), trivial⟩ hdf
   clear hsz hdf hrest hslots hpt hs17 hs18 hs19 hs21 hs22
   have Hx2 := Lib.hid hx2; clear hx2
   replace ha := ha.gn g3
   replace hu := hu.gn g3
   replace hb := hb.gn g3
   replace hv := hv.gn g3
   replace hS := hS.gn g3
   replace G := gb_trans G (gb_row g3 _)
   have okx2 : x2.Ok := by rw [Hx2.out]; exact (Fe.mul_right _ _).ok
   clear g3
   refine Fg.wpl_skip rfl rfl (Fg.run_store (cs := feL x2) rfl rfl rfl (hS.there 5 5 (by show 5 + 5 ≤ 30; decide)) info_elem (feL_one _)) ?_
   replace ha := ha.setCells_other (C := S) (cs := feL x2) 5 (by omega)
   replace hu := hu.setCells_other (C := S) (cs := feL x2) 5 (by omega)
   replace hb := hb.setCells_other (C := S) (cs := feL x2) 5 (by omega)
   replace hv := hv.setCells_other (C := S) (cs := feL x2) 5 (by omega)
   replace hS : Blk (V3.setCells S 5 (feL x2)) S 53 (smL ((Sm.mk x1 x2 s.Z s.T s.A s.B))) := hS.setCells 5
   replace G := gb_setCells (cs := feL x2) G 5
   revert ha hu hb hv hS G
   generalize V3.setCells S 5 (feL x2) = W4
   intro ha hu hb hv hS G
   go_upto_region 3 with (fail)
   have Gs4 := G.size
   have l3ha := ha.lt
   have l3hu := hu.lt
   have l3hb := hb.lt
   have l3hv := hv.lt
   have l3hS := hS.lt
   refine Fg.rP [] [.any, .any, .any, .any, .any, .any, .any, .any, .any, .any, .any, .any, .any, .any, .any, .any, .any, .any, .any, .any, .any, .any, .any, .any, .val (Value.pointer (some ⟨S, 0, none⟩)), .val (u.v), .val (v.v), .val ((Fe.mulF u v).v), .val (Value.pointer (some ⟨S, 0, none⟩)), .val (Value.pointer (some ⟨S, 0, none⟩)), .val (Value.pointer (some ⟨S, 10, none⟩))] 7 ?_ ?_
   ·refine Fg.vS rfl (by decide) (fun ac w h => ?_) ?_
    ·have e0 : _ = Value.pointer (some ⟨S, 0, none⟩) := h.r 0
     exact Fg.vn (Value.pointer (some ⟨S, 0, none⟩)) (Fg.run_move rfl e0)
    refine Fg.vS rfl (by decide) (fun ac w h => ?_) ?_
    ·have e7 : _ = Value.pointer (some ⟨w0.heap.size + 1, 0, none⟩) := h.r 7
     exact Fg.vn u.v (Fg.run_load rfl e7 ((hu.gn h.base).range 0 (feL u) rfl) Tryd.underlying26 rfl info_elem)
    refine Fg.vS rfl (by decide) (fun ac w h => ?_) ?_
    ·have e9 : _ = Value.pointer (some ⟨w0.heap.size + 1 + 1 + 1, 0, none⟩) := h.r 9
     exact Fg.vn v.v (Fg.run_load rfl e9 ((hv.gn h.base).range 0 (feL v) rfl) Tryd.underlying26 rfl info_elem)
    refine Fg.cS rfl (by decide) (fun ac w h => ?_) ?_
    ·have e25 : _ = u.v := h.d 25
     have e26 : _ = v.v := h.d 26
     refine ⟨wants_none rfl, 25, #[u.v, v.v], Fg.run_call rfl rfl (by simp only [List.map_toArray, List.map_cons, List.map_nil, Act.eval, e25, e26]) (Fg.run_enter Tryd.func25 (by kernel_rfl) (by kernel_rfl)), ?_⟩
     exact (t_mul oku okv).mono fun _ _ ⟨he, hg⟩ => ⟨_, he, hg, rfl⟩
    refine Fg.vS rfl (by decide) (fun ac w h => ?_) ?_
    ·have e24 : _ = Value.pointer (some ⟨S, 0, none⟩) := h.d 24
     exact Fg.vn (Value.pointer (some ⟨S, 0, none⟩)) (Fg.run_nilCheck rfl e24)
    refine Fg.vS rfl (by decide) (fun ac w h => ?_) ?_
    ·have e28 : _ = Value.pointer (some ⟨S, 0, none⟩) := h.d 28
     exact Fg.vn (Value.pointer (some ⟨S, 0, none⟩)) (Fg.run_fieldAddr rfl e28 (fa_sum0 _ _ _))
    refine Fg.vS rfl (by decide) (fun ac w h => ?_) ?_
    ·have e29 : _ = Value.pointer (some ⟨S, 0, none⟩) := h.d 29
     exact Fg.vn (Value.pointer (some ⟨S, 10, none⟩)) (Fg.run_fieldAddr rfl e29 (fa_point2 _ _ _))
    trivial
   ·intro qa V5 g5 hsz hdf hrest hslots hpt
    obtain ⟨u24, hs24⟩ := Fg.slotv qa 24
    obtain ⟨u25, hs25⟩ := Fg.slotv qa 25
    obtain ⟨u26, hs26⟩ := Fg.slotv qa 26
    obtain ⟨x3, hx3⟩ : ∃ x : Fe, x = Fe.mulF u v := ⟨_, rfl⟩
    obtain ⟨u28, hs28⟩ := Fg.slotv qa 28
    obtain ⟨u29, hs29⟩ := Fg.slotv qa 29
    obtain rfl := Fg.frame_by [24, 25, 26, 27, 28, 29, 30] (vs := [Value.pointer (some ⟨S, 0, none⟩), a.v, u.v, b.v, v.v, undef, Value.pointer (some ⟨w0.heap.size, 0, none⟩), Value.pointer (some ⟨w0.heap.size + 1, 0, none⟩), Value.pointer (some ⟨w0.heap.size + 1 + 1, 0, none⟩), Value.pointer (some ⟨w0.heap.size + 1 + 1 + 1, 0, none⟩), u10, u11, u12, x1.v, u14, u15, Value.pointer (some ⟨S, 0, none⟩), u17, u18, u19, x2.v, u21, u22, Value.pointer (some ⟨S, 5, none⟩), u24, u25, u26, x3.v, u28, u29, Value.pointer (some ⟨S, 10, none⟩), undef, undef, undef, undef, undef, undef, undef, undef]) hsz hrest (by kernel_rfl) rfl rfl ⟨hs24, hs25, hs26, (show qa.tmps.getD 27 undef = x3.v by rw [hx3]; exact hslots 27 (by kernel_rfl)), hs28, hs29, (show qa.tmps.getD 30 undef = Value.pointer (some ⟨S, 10, none⟩) from hslots 30 (by kernel_rfl)), trivial⟩ hdf
    clear hsz hdf hrest hslots hpt hs24 hs25 hs26 hs28 hs29
    have Hx3 := Lib.hid hx3; clear hx3
    replace ha := ha.gn g5
    replace hu := hu.gn g5
    replace hb := hb.gn g5
    replace hv := hv.gn g5
    replace hS := hS.gn g5
    replace G := gb_trans G (gb_row g5 _)
    have okx3 : x3.Ok := by rw [Hx3.out]; exact (Fe.mul_right _ _).ok
    clear g5
    refine Fg.wpl_skip rfl rfl (Fg.run_store (cs := feL x3) rfl rfl rfl (hS.there 10 5 (by show 10 + 5 ≤ 30; decide)) info_elem (feL_one _)) ?_
    replace ha := ha.setCells_other (C := S) (cs := feL x3) 10 (by omega)
    replace hu := hu.setCells_other (C := S) (cs := feL x3) 10 (by omega)
    replace hb := hb.setCells_other (C := S) (cs := feL x3) 10 (by omega)
    replace hv := hv.setCells_other (C := S) (cs := feL x3) 10 (by omega)
    replace hS : Blk (V5.setCells S 10 (feL x3)) S 53 (smL ((Sm.mk x1 x2 x3 s.T s.A s.B))) := hS.setCells 10
    replace G := gb_setCells (cs := feL x3) G 10
    revert ha hu hb hv hS G
    generalize V5.setCells S 10 (feL x3) = W6
    intro ha hu hb hv hS G
    go_upto_region 4 with (fail)
    have c0 := ha.cell (i := 0) rfl; have c1 := ha.cell (i := 1) rfl; have c2 := ha.cell (i := 2) rfl; have c3 := ha.cell (i := 3) rfl; have c4 := ha.cell (i := 4) rfl
    have d0 := hb.cell (i := 0) rfl; have d1 := hb.cell (i := 1) rfl; have d2 := hb.cell (i := 2) rfl; have d3 := hb.cell (i := 3) rfl; have d4 := hb.cell (i := 4) rfl
    have s20 := hS.cell (i := 20) rfl; have f20 := hS.free 20
    have s21 := hS.cell (i := 21) rfl; have f21 := hS.free 21
    have s22 := hS.cell (i := 22) rfl; have f22 := hS.free 22
    have s23 := hS.cell (i := 23) rfl; have f23 := hS.free 23
    have s24 := hS.cell (i := 24) rfl; have f24 := hS.free 24
    have s25 := hS.cell (i := 25) rfl; have f25 := hS.free 25
    have s26 := hS.cell (i := 26) rfl; have f26 := hS.free 26
    have s27 := hS.cell (i := 27) rfl; have f27 := hS.free 27
    have s28 := hS.cell (i := 28) rfl; have f28 := hS.free 28
    have s29 := hS.cell (i := 29) rfl; have f29 := hS.free 29
    have HS1 : Blk (((((W6.setCells S 20 (feL a)).setCells S 25 (feL b))))) S 53 (smL (bF s.T a u b v)) := by
        have hx3 := Hx3.out; subst hx3
        have hx2 := Hx2.out; subst hx2
        have hx1 := Hx1.out; subst hx1
        exact (hS.setCells 20).setCells 25
    have G1 := gb_setCells (cs := feL b) (gb_setCells (cs := feL a) G 20) 25
    have HS2 := HS1.drew
    have G2 := gb_drew G1
    clear HS1 G1
    have HR := Lib.hid (And.intro HS2 G2)
    clear ha hu hb hv hS G HS2 G2
    go_region
    all_goals
     go_wp2
     go_end0
     exact ⟨rfl, HR.out.2, HR.out.1⟩
end Go.Proofs.YtleegbaigedebaaDoor

/- edwards: point. -/
namespace Go.Proofs.YtleegbaigedebaaDoor
open Go.RowKit Ed
set_option maxRecDepth 100000 in
set_option maxHeartbeats 3200000 in
theorem point_any (S : Nat) (s : Sm) (w0 : World) (hS : Blk w0 S 53 (smL s)) (oks : s.Ok) :
  Calls Tryd.prog 36 #[.pointer (some ⟨S, 0, none⟩)] w0 fun e w' => e = .returned (pointF s).v ∧ w0.grownBy w' (some S) ∧ Blk w' S 53 (smL (Sm.mk s.X s.Y s.Z (Fe.mulF s.A s.B) s.A s.B)) := by
 go_enter Tryd.func36, Tryd.ntmps36
 go_upto_region 1 with (fail)
 have hSlt := hS.lt
 have G : w0.grownBy (w0.alloc (.cells zr20.toArray 28)) (some S) := gb_alloc (gb_refl _ _) _
 have hR : Blk (w0.alloc (.cells zr20.toArray 28)) (w0.heap.size) 28 zr20 := Blk.new w0 zr20 _
 replace hS : Blk (w0.alloc (.cells zr20.toArray 28)) S 53 (smL s) := hS.alloc _
 revert G hR hS
 generalize w0.alloc (.cells zr20.toArray 28) = W0
 intro G hR hS
 have Gs := G.size
 have Gs0 := G.size
 have l1hS := hS.lt
 have l1hR := hR.lt
 refine Fg.rT [] [.any, .any, .any, .val (Value.pointer (some ⟨S, 0, none⟩)), .val (Value.pointer (some ⟨S, 0, none⟩)), .val (Value.pointer (some ⟨S, 0, none⟩)), .val (Value.pointer (some ⟨S, 20, none⟩)), .val (s.A.v), .val (Value.pointer (some ⟨S, 0, none⟩)), .val (Value.pointer (some ⟨S, 0, none⟩)), .val (Value.pointer (some ⟨S, 25, none⟩)), .val (s.B.v), .val ((Fe.mulF s.A s.B).v), .val (Value.pointer (some ⟨S, 0, none⟩)), .val (Value.pointer (some ⟨S, 0, none⟩)), .val (Value.pointer (some ⟨S, 15, none⟩))] 13 ?_ ?_
 ·refine Fg.vS rfl (by decide) (fun ac w h => ?_) ?_
  ·have e0 : _ = Value.pointer (some ⟨S, 0, none⟩) := h.r 0
   exact Fg.vn (Value.pointer (some ⟨S, 0, none⟩)) (Fg.run_move rfl e0)
  refine Fg.vS rfl (by decide) (fun ac w h => ?_) ?_
  ·have e0 : _ = Value.pointer (some ⟨S, 0, none⟩) := h.r 0
   exact Fg.vn (Value.pointer (some ⟨S, 0, none⟩)) (Fg.run_move rfl e0)
  refine Fg.vS rfl (by decide) (fun ac w h => ?_) ?_
  ·have e4 : _ = Value.pointer (some ⟨S, 0, none⟩) := h.d 4
   exact Fg.vn (Value.pointer (some ⟨S, 0, none⟩)) (Fg.run_nilCheck rfl e4)
  refine Fg.vS rfl (by decide) (fun ac w h => ?_) ?_
  ·have e5 : _ = Value.pointer (some ⟨S, 0, none⟩) := h.d 5
   exact Fg.vn (Value.pointer (some ⟨S, 20, none⟩)) (Fg.run_fieldAddr rfl e5 (fa_sum1 _ _ _))
  refine Fg.vS rfl (by decide) (fun ac w h => ?_) ?_
  ·have e6 : _ = Value.pointer (some ⟨S, 20, none⟩) := h.d 6
   exact Fg.vn s.A.v (Fg.run_load rfl e6 ((hS.gn h.base).range 20 (feL s.A) rfl) Tryd.underlying26 rfl info_elem)
  refine Fg.vS rfl (by decide) (fun ac w h => ?_) ?_
  ·have e0 : _ = Value.pointer (some ⟨S, 0, none⟩) := h.r 0
   exact Fg.vn (Value.pointer (some ⟨S, 0, none⟩)) (Fg.run_move rfl e0)
  refine Fg.vS rfl (by decide) (fun ac w h => ?_) ?_
  ·have e8 : _ = Value.pointer (some ⟨S, 0, none⟩) := h.d 8
   exact Fg.vn (Value.pointer (some ⟨S, 0, none⟩)) (Fg.run_nilCheck rfl e8)
  refine Fg.vS rfl (by decide) (fun ac w h => ?_) ?_
  ·have e9 : _ = Value.pointer (some ⟨S, 0, none⟩) := h.d 9
   exact Fg.vn (Value.pointer (some ⟨S, 25, none⟩)) (Fg.run_fieldAddr rfl e9 (fa_sum2 _ _ _))
  refine Fg.vS rfl (by decide) (fun ac w h => ?_) ?_
  ·have e10 : _ = Value.pointer (some ⟨S, 25, none⟩) := h.d 10
   exact Fg.vn s.B.v (Fg.run_load rfl e10 ((hS.gn h.base).range 25 (feL s.B) rfl) Tryd.underlying26 rfl info_elem)
  refine Fg.cS rfl (by decide) (fun ac w h => ?_) ?_
  ·have e7 : _ = s.A.v := h.d 7
   have e11 : _ = s.B.v := h.d 11
   refine ⟨wants_none rfl, 25, #[s.A.v, s.B.v], Fg.run_call rfl rfl (by simp only [List.map_toArray, List.map_cons, List.map_nil, Act.eval, e7, e11]) (Fg.run_enter Tryd.func25 (by kernel_rfl) (by kernel_rfl)), ?_⟩
   exact (t_mul oks.A oks.B).mono fun _ _ ⟨he, hg⟩ => ⟨_, he, hg, rfl⟩
  refine Fg.vS rfl (by decide) (fun ac w h => ?_) ?_
  ·have e3 : _ = Value.pointer (some ⟨S, 0, none⟩) := h.d 3
   exact Fg.vn (Value.pointer (some ⟨S, 0, none⟩)) (Fg.run_nilCheck rfl e3)
  refine Fg.vS rfl (by decide) (fun ac w h => ?_) ?_
  ·have e13 : _ = Value.pointer (some ⟨S, 0, none⟩) := h.d 13
   exact Fg.vn (Value.pointer (some ⟨S, 0, none⟩)) (Fg.run_fieldAddr rfl e13 (fa_sum0 _ _ _))
  refine Fg.vS rfl (by decide) (fun ac w h => ?_) ?_
  ·have e14 : _ = Value.pointer (some ⟨S, 0, none⟩) := h.d 14
   exact Fg.vn (Value.pointer (some ⟨S, 15, none⟩)) (Fg.run_fieldAddr rfl e14 (fa_point3 _ _ _))
  trivial
 ·intro qa V1 g1 hsz hdf hrest hslots hpt
  obtain ⟨u3, hs3⟩ := Fg.slotv qa 3
  obtain ⟨u4, hs4⟩ := Fg.slotv qa 4
  obtain ⟨u5, hs5⟩ := Fg.slotv qa 5
  obtain ⟨u6, hs6⟩ := Fg.slotv qa 6
  obtain ⟨u7, hs7⟩ := Fg.slotv qa 7
  obtain ⟨u8, hs8⟩ := Fg.slotv qa 8
  obtain ⟨u9, hs9⟩ := Fg.slotv qa 9
  obtain ⟨u10, hs10⟩ := Fg.slotv qa 10
  obtain ⟨u11, hs11⟩ := Fg.slotv qa 11
  obtain ⟨x1, hx1⟩ : ∃ x : Fe, x = Fe.mulF s.A s.B := ⟨_, rfl⟩
  obtain ⟨u13, hs13⟩ := Fg.slotv qa 13
  obtain ⟨u14, hs14⟩ := Fg.slotv qa 14
  obtain rfl := Fg.frame_by [3, 4, 5, 6, 7, 8, 9, 10, 11, 12, 13, 14, 15] (vs := [Value.pointer (some ⟨S, 0, none⟩), undef, Value.pointer (some ⟨w0.heap.size, 0, none⟩), u3, u4, u5, u6, u7, u8, u9, u10, u11, x1.v, u13, u14, Value.pointer (some ⟨S, 15, none⟩), undef, undef, undef, undef]) hsz hrest (by kernel_rfl) rfl rfl ⟨hs3, hs4, hs5, hs6, hs7, hs8, hs9, hs10, hs11, (show qa.tmps.getD 12 undef = x1.v by rw [hx1]; exact hslots 12 (by kernel_rfl)), hs13, hs14, (show qa.tmps.getD 15 undef = Value.pointer (some ⟨S, 15, none⟩) from hslots 15 (by kernel_rfl)), trivial⟩ hdf
  clear hsz hdf hrest hslots hpt hs3 hs4 hs5 hs6 hs7 hs8 hs9 hs10 hs11 hs13 hs14
  have Hx1 := Lib.hid hx1; clear hx1
  replace hS := hS.gn g1
  replace hR := hR.gn g1
  replace G := gb_trans G (gb_row g1 _)
  have okx1 : x1.Ok := by rw [Hx1.out]; exact (Fe.mul_right _ _).ok
  clear g1
  refine Fg.wpl_skip rfl rfl (Fg.run_store (cs := feL x1) rfl rfl rfl (hS.there 15 5 (by show 15 + 5 ≤ 30; decide)) info_elem (feL_one _)) ?_
  replace hS : Blk (V1.setCells S 15 (feL x1)) S 53 (smL ((Sm.mk s.X s.Y s.Z x1 s.A s.B))) := hS.setCells 15
  replace hR := hR.setCells_other (C := S) (cs := feL x1) 15 (by omega)
  replace G := gb_setCells (cs := feL x1) G 15
  revert hS hR G
  generalize V1.setCells S 15 (feL x1) = W2
  intro hS hR G
  go_upto_region 2 with (fail)
  have Gs2 := G.size
  have l2hS := hS.lt
  have l2hR := hR.lt
  refine Fg.rP [] [.any, .any, .any, .any, .any, .any, .any, .any, .any, .any, .any, .any, .any, .any, .any, .any, .val (Value.pointer (some ⟨S, 0, none⟩)), .val (Value.pointer (some ⟨S, 0, none⟩)), .val (Value.pointer (some ⟨S, 0, none⟩)), .val (((Pt.mk s.X s.Y s.Z x1)).v)] 4 ?_ ?_
  ·refine Fg.vS rfl (by decide) (fun ac w h => ?_) ?_
   ·have e0 : _ = Value.pointer (some ⟨S, 0, none⟩) := h.r 0
    exact Fg.vn (Value.pointer (some ⟨S, 0, none⟩)) (Fg.run_move rfl e0)
   refine Fg.vS rfl (by decide) (fun ac w h => ?_) ?_
   ·have e16 : _ = Value.pointer (some ⟨S, 0, none⟩) := h.d 16
    exact Fg.vn (Value.pointer (some ⟨S, 0, none⟩)) (Fg.run_nilCheck rfl e16)
   refine Fg.vS rfl (by decide) (fun ac w h => ?_) ?_
   ·have e17 : _ = Value.pointer (some ⟨S, 0, none⟩) := h.d 17
    exact Fg.vn (Value.pointer (some ⟨S, 0, none⟩)) (Fg.run_fieldAddr rfl e17 (fa_sum0 _ _ _))
   refine Fg.vS rfl (by decide) (fun ac w h => ?_) ?_
   ·have e18 : _ = Value.pointer (some ⟨S, 0, none⟩) := h.d 18
    exact Fg.vn (((Pt.mk s.X s.Y s.Z x1)).v) (Fg.run_load rfl e18 ((hS.gn h.base).range 0 (ptL ((Pt.mk s.X s.Y s.Z x1))) rfl) Tryd.underlying28 rfl info_point)
   trivial
  ·intro qa V3 g3 hsz hdf hrest hslots hpt
   obtain ⟨u16, hs16⟩ := Fg.slotv qa 16
   obtain ⟨u17, hs17⟩ := Fg.slotv qa 17
   obtain ⟨u18, hs18⟩ := Fg.slotv qa 18
   obtain ⟨x2, hx2⟩ : ∃ x : Pt, x = (Pt.mk s.X s.Y s.Z x1) := ⟨_, rfl⟩
   obtain rfl := Fg.frame_by [16, 17, 18, 19] (vs := [Value.pointer (some ⟨S, 0, none⟩), undef, Value.pointer (some ⟨w0.heap.size, 0, none⟩), u3, u4, u5, u6, u7, u8, u9, u10, u11, x1.v, u13, u14, Value.pointer (some ⟨S, 15, none⟩), u16, u17, u18, x2.v]) hsz hrest (by kernel_rfl) rfl rfl ⟨hs16, hs17, hs18, (show qa.tmps.getD 19 undef = x2.v by rw [hx2]; exact hslots 19 (by kernel_rfl)), trivial⟩ hdf
   clear hsz hdf hrest hslots hpt hs16 hs17 hs18
   have Hx2 := Lib.hid hx2; clear hx2
   replace hS := hS.gn g3
   replace hR := hR.gn g3
   replace G := gb_trans G (gb_row g3 _)
   clear g3
   refine Fg.wpl_skip rfl rfl (Fg.run_store (cs := ptL x2) rfl rfl rfl (hR.there 0 20 (by show 0 + 20 ≤ 20; decide)) info_point (ptL_one _)) ?_
   replace hS := hS.setCells_other (C := w0.heap.size) (cs := ptL x2) 0 (by omega)
   replace hR : Blk (V3.setCells w0.heap.size 0 (ptL x2)) w0.heap.size 28 (ptL x2) := hR.setAll rfl
   replace G := gb_setCells_new (cs := ptL x2) G (B := w0.heap.size) (by omega) 0
   revert hS hR G
   generalize V3.setCells w0.heap.size 0 (ptL x2) = W4
   intro hS hR G
   go_wp2_with fail
   have hx2 := Hx2.out; subst hx2
   have hx1 := Hx1.out; subst hx1
   exact bodyPost_ret (v := (pointF s).v) (results_cell_row Tryd.results36 _ _ w0.heap.size 28 (ptL (pointF s)).toArray (0, 0) _ rfl hR Tryd.underlying28 rfl info_point) rfl ⟨rfl, G, hS⟩

end Go.Proofs.YtleegbaigedebaaDoor

/- edwards: add. -/
namespace Go.Proofs.YtleegbaigedebaaDoor
open Go.RowKit Ed
theorem Ed.AdIs.ok {s : Ad} {p : Pr} (h : AdIs s p) : s.Ok := ⟨h.rm.ok, h.rl.ok, h.rz.ok, h.rt.ok⟩
theorem Ed.SmIs.setT {s : Sm} {p : Pr} {t : Fe} (h : SmIs s p) (rt : t.Right) : SmIs (Sm.mk s.X s.Y s.Z t s.A s.B) p := ⟨h.rX, h.rY, h.rZ, rt, h.rA, h.rB, h.on, h.z, h.x, h.y, h.t⟩
set_option maxRecDepth 100000 in
set_option maxHeartbeats 3200000 in
theorem sadd_any (S : Nat) (s : Sm) (q : Ad) (p r : Pr) (w0 : World) (HT0 : ETab w0) (HN : NoG S) (hS : Blk w0 S 53 (smL s)) (hs : SmIs s p) (hq : AdIs q r) :
  Calls Tryd.prog 34 #[.pointer (some ⟨S, 0, none⟩), q.v] w0 fun e w' => e = .returned (.tuple #[]) ∧ w0.grownBy w' (some S) ∧ ∃ s', SmIs s' (Ed.add p r) ∧ Blk w' S 53 (smL s') := by
 have oks := hs.ok
 have rsT := hs.rT
 have okq := hq.ok
 show Calls Tryd.prog 34 #[.pointer (some ⟨S, 0, none⟩), .agg (adL q).toArray] w0 _
 go_enter Tryd.func34, Tryd.ntmps34
 go_upto_region 1 with (fail)
 have hSlt := hS.lt
 have G : w0.grownBy (w0.alloc (.cells (adL q).toArray 57)) (some S) := gb_alloc (gb_refl _ _) _
 have HT : ETab (w0.alloc (.cells (adL q).toArray 57)) := HT0.grown (gb_alloc (gb_refl _ _) _)
 have hQ : Blk (w0.alloc (.cells (adL q).toArray 57)) (w0.heap.size) 57 (adL q) := Blk.new w0 (adL q) _
 replace hS : Blk (w0.alloc (.cells (adL q).toArray 57)) S 53 (smL s) := hS.alloc _
 revert G HT hQ hS
 generalize w0.alloc (.cells (adL q).toArray 57) = W0
 intro G HT hQ hS
 have Gs := G.size
 have HS : NoG S := HN
 have Gs0 := G.size
 have l1hS := hS.lt
 have l1hQ := hQ.lt
 refine Fg.rT [4] [.any, .any, .any, .any, .fresh 26 zr5 W0.heap.size, .any, .any, .any, .val (Value.pointer (some ⟨S, 0, none⟩)), .val (Value.pointer (some ⟨S, 0, none⟩)), .val (Value.pointer (some ⟨S, 0, none⟩)), .val (Value.pointer (some ⟨S, 5, none⟩)), .val (s.Y.v), .val (Value.pointer (some ⟨S, 0, none⟩)), .val (Value.pointer (some ⟨S, 0, none⟩)), .val (Value.pointer (some ⟨S, 0, none⟩)), .val (Value.pointer (some ⟨S, 0, none⟩)), .val (s.X.v), .val ((Fe.addF s.Y s.X).v), .val (Value.pointer (some ⟨w0.heap.size, 0, none⟩)), .val (q.m.v), .val ((Fe.mulF (Fe.addF s.Y s.X) q.m).v)] 15 ?_ ?_
 ·refine Fg.vS rfl (by decide) (fun ac w h => ?_) ?_
  ·have e0 : _ = Value.pointer (some ⟨S, 0, none⟩) := h.r 0
   exact Fg.vn (Value.pointer (some ⟨S, 0, none⟩)) (Fg.run_move rfl e0)
  refine Fg.vS rfl (by decide) (fun ac w h => ?_) ?_
  ·have e8 : _ = Value.pointer (some ⟨S, 0, none⟩) := h.d 8
   exact Fg.vn (Value.pointer (some ⟨S, 0, none⟩)) (Fg.run_nilCheck rfl e8)
  refine Fg.vS rfl (by decide) (fun ac w h => ?_) ?_
  ·have e9 : _ = Value.pointer (some ⟨S, 0, none⟩) := h.d 9
   exact Fg.vn (Value.pointer (some ⟨S, 0, none⟩)) (Fg.run_fieldAddr rfl e9 (fa_sum0 _ _ _))
  refine Fg.vS rfl (by decide) (fun ac w h => ?_) ?_
  ·have e10 : _ = Value.pointer (some ⟨S, 0, none⟩) := h.d 10
   exact Fg.vn (Value.pointer (some ⟨S, 5, none⟩)) (Fg.run_fieldAddr rfl e10 (fa_point1 _ _ _))
  refine Fg.vS rfl (by decide) (fun ac w h => ?_) ?_
  ·have e11 : _ = Value.pointer (some ⟨S, 5, none⟩) := h.d 11
   exact Fg.vn s.Y.v (Fg.run_load rfl e11 ((hS.gn h.base).range 5 (feL s.Y) rfl) Tryd.underlying26 rfl info_elem)
  refine Fg.vS rfl (by decide) (fun ac w h => ?_) ?_
  ·have e0 : _ = Value.pointer (some ⟨S, 0, none⟩) := h.r 0
   exact Fg.vn (Value.pointer (some ⟨S, 0, none⟩)) (Fg.run_move rfl e0)
  refine Fg.vS rfl (by decide) (fun ac w h => ?_) ?_
  ·have e13 : _ = Value.pointer (some ⟨S, 0, none⟩) := h.d 13
   exact Fg.vn (Value.pointer (some ⟨S, 0, none⟩)) (Fg.run_nilCheck rfl e13)
  refine Fg.vS rfl (by decide) (fun ac w h => ?_) ?_
  ·have e14 : _ = Value.pointer (some ⟨S, 0, none⟩) := h.d 14
   exact Fg.vn (Value.pointer (some ⟨S, 0, none⟩)) (Fg.run_fieldAddr rfl e14 (fa_sum0 _ _ _))
  refine Fg.vS rfl (by decide) (fun ac w h => ?_) ?_
  ·have e15 : _ = Value.pointer (some ⟨S, 0, none⟩) := h.d 15
   exact Fg.vn (Value.pointer (some ⟨S, 0, none⟩)) (Fg.run_fieldAddr rfl e15 (fa_point0 _ _ _))
  refine Fg.vS rfl (by decide) (fun ac w h => ?_) ?_
  ·have e16 : _ = Value.pointer (some ⟨S, 0, none⟩) := h.d 16
   exact Fg.vn s.X.v (Fg.run_load rfl e16 ((hS.gn h.base).range 0 (feL s.X) rfl) Tryd.underlying26 rfl info_elem)
  refine Fg.cS rfl (by decide) (fun ac w h => ?_) ?_
  ·have e12 : _ = s.Y.v := h.d 12
   have e17 : _ = s.X.v := h.d 17
   refine ⟨wants_none rfl, 39, #[s.Y.v, s.X.v], Fg.run_call rfl rfl (by simp only [List.map_toArray, List.map_cons, List.map_nil, Act.eval, e12, e17]) (Fg.run_enter Tryd.func39 (by kernel_rfl) (by kernel_rfl)), ?_⟩
   exact (t_add oks.Y oks.X).mono fun _ _ ⟨he, hg⟩ => ⟨_, he, hg, rfl⟩
  refine Fg.vS rfl (by decide) (fun ac w h => ?_) ?_
  ·have e3 : _ = Value.pointer (some ⟨w0.heap.size, 0, none⟩) := h.r 3
   exact Fg.vn (Value.pointer (some ⟨w0.heap.size, 0, none⟩)) (Fg.run_fieldAddr rfl e3 (fa_addend0 _ _ _))
  refine Fg.vS rfl (by decide) (fun ac w h => ?_) ?_
  ·have e19 : _ = Value.pointer (some ⟨w0.heap.size, 0, none⟩) := h.d 19
   exact Fg.vn q.m.v (Fg.run_load rfl e19 ((hQ.gn h.base).range 0 (feL q.m) rfl) Tryd.underlying26 rfl info_elem)
  refine Fg.cS rfl (by decide) (fun ac w h => ?_) ?_
  ·have e18 : _ = (Fe.addF s.Y s.X).v := h.d 18
   have e20 : _ = q.m.v := h.d 20
   refine ⟨wants_none rfl, 25, #[(Fe.addF s.Y s.X).v, q.m.v], Fg.run_call rfl rfl (by simp only [List.map_toArray, List.map_cons, List.map_nil, Act.eval, e18, e20]) (Fg.run_enter Tryd.func25 (by kernel_rfl) (by kernel_rfl)), ?_⟩
   exact (t_mul (Fe.add_right _ _).ok okq.m).mono fun _ _ ⟨he, hg⟩ => ⟨_, he, hg, rfl⟩
  refine ⟨⟨⟨_, rfl⟩, Fg.allocP (fun _ _ h k => gb_trans h k) rfl (by show 4 < 64; decide) fun ac w h => ?_⟩, ?_⟩
  ·refine ⟨wants_none rfl, w.alloc (.cells zr5.toArray 26), ?_, World.grownBy_alloc _ _ _, by simp, ⟨w.heap.size, rfl, h.base.size, Blk.new w zr5 _⟩⟩
   clear h
   go_simp
  trivial
 ·intro qa V1 g1 hsz hdf hrest hslots hpt
  obtain ⟨N4, hs4, hn4, hb4⟩ : ∃ N, qa.tmps.getD 4 undef = .pointer (some ⟨N, 0, none⟩) ∧ W0.heap.size ≤ N ∧ Blk V1 N 26 zr5 := hslots 4 (by kernel_rfl)
  obtain ⟨u8, hs8⟩ := Fg.slotv qa 8
  obtain ⟨u9, hs9⟩ := Fg.slotv qa 9
  obtain ⟨u10, hs10⟩ := Fg.slotv qa 10
  obtain ⟨u11, hs11⟩ := Fg.slotv qa 11
  obtain ⟨u12, hs12⟩ := Fg.slotv qa 12
  obtain ⟨u13, hs13⟩ := Fg.slotv qa 13
  obtain ⟨u14, hs14⟩ := Fg.slotv qa 14
  obtain ⟨u15, hs15⟩ := Fg.slotv qa 15
  obtain ⟨u16, hs16⟩ := Fg.slotv qa 16
  obtain ⟨u17, hs17⟩ := Fg.slotv qa 17
  obtain ⟨u18, hs18⟩ := Fg.slotv qa 18
  obtain ⟨u19, hs19⟩ := Fg.slotv qa 19
  obtain ⟨u20, hs20⟩ := Fg.slotv qa 20
  obtain ⟨x1, hx1⟩ : ∃ x : Fe, x = Fe.mulF (Fe.addF s.Y s.X) q.m := ⟨_, rfl⟩
  obtain rfl := Fg.frame_by [4, 8, 9, 10, 11, 12, 13, 14, 15, 16, 17, 18, 19, 20, 21] (vs := [Value.pointer (some ⟨S, 0, none⟩), q.v, undef, Value.pointer (some ⟨w0.heap.size, 0, none⟩), Value.pointer (some ⟨N4, 0, none⟩), undef, undef, undef, u8, u9, u10, u11, u12, u13, u14, u15, u16, u17, u18, u19, u20, x1.v, undef, undef, undef, undef, undef, undef, undef, undef, undef, undef, undef, undef, undef, undef, undef, undef, undef, undef, undef, undef, undef, undef, undef, undef, undef, undef, undef, undef, undef, undef, undef, undef, undef, undef, undef, undef, undef, undef, undef, undef, undef, undef]) hsz hrest (by kernel_rfl) rfl rfl ⟨hs4, hs8, hs9, hs10, hs11, hs12, hs13, hs14, hs15, hs16, hs17, hs18, hs19, hs20, (show qa.tmps.getD 21 undef = x1.v by rw [hx1]; exact hslots 21 (by kernel_rfl)), trivial⟩ hdf
  clear hsz hdf hrest hslots hpt hs4 hs8 hs9 hs10 hs11 hs12 hs13 hs14 hs15 hs16 hs17 hs18 hs19 hs20
  have Hx1 := Lib.hid hx1; clear hx1
  replace hS := hS.gn g1
  replace hQ := hQ.gn g1
  replace G := gb_trans G (gb_row g1 _)
  replace HT := HT.grown g1
  have okx1 : x1.Ok := by rw [Hx1.out]; exact (Fe.mul_right _ _).ok
  have hw4 : w0.heap.size ≤ N4 := Nat.le_trans Gs0 hn4
  clear g1
  refine Fg.wpl_skip rfl rfl (Fg.run_store (cs := feL x1) rfl rfl rfl (hb4.there 0 5 (by show 0 + 5 ≤ 5; decide)) info_elem (feL_one _)) ?_
  replace hS := hS.setCells_other (C := N4) (cs := feL x1) 0 (by omega)
  replace hQ := hQ.setCells_other (C := N4) (cs := feL x1) 0 (by omega)
  replace hb4 : Blk (V1.setCells N4 0 (feL x1)) N4 26 (feL x1) := hb4.setAll rfl
  replace G := gb_setCells_new (cs := feL x1) G (B := N4) (hw4) 0
  replace HT := HT.keep (gb_setCells (cs := feL x1) (gb_refl _ (some N4)) 0) (HT0.noG (hw4))
  revert hS hQ hb4 G HT
  generalize V1.setCells N4 0 (feL x1) = W2
  intro hS hQ hb4 G HT
  go_upto_region 2 with (fail)
  have Gs2 := G.size
  have l2hS := hS.lt
  have l2hQ := hQ.lt
  have l2hb4 := hb4.lt
  refine Fg.rT [5] [.any, .any, .any, .any, .any, .fresh 26 zr5 W2.heap.size, .any, .any, .any, .any, .any, .any, .any, .any, .any, .any, .any, .any, .any, .any, .any, .any, .val (Value.pointer (some ⟨S, 0, none⟩)), .val (Value.pointer (some ⟨S, 0, none⟩)), .val (Value.pointer (some ⟨S, 0, none⟩)), .val (Value.pointer (some ⟨S, 5, none⟩)), .val (s.Y.v), .val (Value.pointer (some ⟨S, 0, none⟩)), .val (Value.pointer (some ⟨S, 0, none⟩)), .val (Value.pointer (some ⟨S, 0, none⟩)), .val (Value.pointer (some ⟨S, 0, none⟩)), .val (s.X.v), .val ((Fe.subF s.Y s.X).v), .val (Value.pointer (some ⟨w0.heap.size, 5, none⟩)), .val (q.l.v), .val ((Fe.mulF (Fe.subF s.Y s.X) q.l).v)] 15 ?_ ?_
  ·refine Fg.vS rfl (by decide) (fun ac w h => ?_) ?_
   ·have e0 : _ = Value.pointer (some ⟨S, 0, none⟩) := h.r 0
    exact Fg.vn (Value.pointer (some ⟨S, 0, none⟩)) (Fg.run_move rfl e0)
   refine Fg.vS rfl (by decide) (fun ac w h => ?_) ?_
   ·have e22 : _ = Value.pointer (some ⟨S, 0, none⟩) := h.d 22
    exact Fg.vn (Value.pointer (some ⟨S, 0, none⟩)) (Fg.run_nilCheck rfl e22)
   refine Fg.vS rfl (by decide) (fun ac w h => ?_) ?_
   ·have e23 : _ = Value.pointer (some ⟨S, 0, none⟩) := h.d 23
    exact Fg.vn (Value.pointer (some ⟨S, 0, none⟩)) (Fg.run_fieldAddr rfl e23 (fa_sum0 _ _ _))
   refine Fg.vS rfl (by decide) (fun ac w h => ?_) ?_
   ·have e24 : _ = Value.pointer (some ⟨S, 0, none⟩) := h.d 24
    exact Fg.vn (Value.pointer (some ⟨S, 5, none⟩)) (Fg.run_fieldAddr rfl e24 (fa_point1 _ _ _))
   refine Fg.vS rfl (by decide) (fun ac w h => ?_) ?_
   ·have e25 : _ = Value.pointer (some ⟨S, 5, none⟩) := h.d 25
    exact Fg.vn s.Y.v (Fg.run_load rfl e25 ((hS.gn h.base).range 5 (feL s.Y) rfl) Tryd.underlying26 rfl info_elem)
   refine Fg.vS rfl (by decide) (fun ac w h => ?_) ?_
   ·have e0 : _ = Value.pointer (some ⟨S, 0, none⟩) := h.r 0
    exact Fg.vn (Value.pointer (some ⟨S, 0, none⟩)) (Fg.run_move rfl e0)
   refine Fg.vS rfl (by decide) (fun ac w h => ?_) ?_
   ·have e27 : _ = Value.pointer (some ⟨S, 0, none⟩) := h.d 27
    exact Fg.vn (Value.pointer (some ⟨S, 0, none⟩)) (Fg.run_nilCheck rfl e27)
   refine Fg.vS rfl (by decide) (fun ac w h => ?_) ?_
   ·have e28 : _ = Value.pointer (some ⟨S, 0, none⟩) := h.d 28
    exact Fg.vn (Value.pointer (some ⟨S, 0, none⟩)) (Fg.run_fieldAddr rfl e28 (fa_sum0 _ _ _))
   refine Fg.vS rfl (by decide) (fun ac w h => ?_) ?_
   ·have e29 : _ = Value.pointer (some ⟨S, 0, none⟩) := h.d 29
    exact Fg.vn (Value.pointer (some ⟨S, 0, none⟩)) (Fg.run_fieldAddr rfl e29 (fa_point0 _ _ _))
   refine Fg.vS rfl (by decide) (fun ac w h => ?_) ?_
   ·have e30 : _ = Value.pointer (some ⟨S, 0, none⟩) := h.d 30
    exact Fg.vn s.X.v (Fg.run_load rfl e30 ((hS.gn h.base).range 0 (feL s.X) rfl) Tryd.underlying26 rfl info_elem)
   refine Fg.cS rfl (by decide) (fun ac w h => ?_) ?_
   ·have e26 : _ = s.Y.v := h.d 26
    have e31 : _ = s.X.v := h.d 31
    refine ⟨wants_none rfl, 29, #[s.Y.v, s.X.v], Fg.run_call rfl rfl (by simp only [List.map_toArray, List.map_cons, List.map_nil, Act.eval, e26, e31]) (Fg.run_enter Tryd.func29 (by kernel_rfl) (by kernel_rfl)), ?_⟩
    exact (t_sub (HT.f.grown h.base) oks.Y oks.X).mono fun _ _ ⟨he, hg⟩ => ⟨_, he, hg, rfl⟩
   refine Fg.vS rfl (by decide) (fun ac w h => ?_) ?_
   ·have e3 : _ = Value.pointer (some ⟨w0.heap.size, 0, none⟩) := h.r 3
    exact Fg.vn (Value.pointer (some ⟨w0.heap.size, 5, none⟩)) (Fg.run_fieldAddr rfl e3 (fa_addend1 _ _ _))
   refine Fg.vS rfl (by decide) (fun ac w h => ?_) ?_
   ·have e33 : _ = Value.pointer (some ⟨w0.heap.size, 5, none⟩) := h.d 33
    exact Fg.vn q.l.v (Fg.run_load rfl e33 ((hQ.gn h.base).range 5 (feL q.l) rfl) Tryd.underlying26 rfl info_elem)
   refine Fg.cS rfl (by decide) (fun ac w h => ?_) ?_
   ·have e32 : _ = (Fe.subF s.Y s.X).v := h.d 32
    have e34 : _ = q.l.v := h.d 34
    refine ⟨wants_none rfl, 25, #[(Fe.subF s.Y s.X).v, q.l.v], Fg.run_call rfl rfl (by simp only [List.map_toArray, List.map_cons, List.map_nil, Act.eval, e32, e34]) (Fg.run_enter Tryd.func25 (by kernel_rfl) (by kernel_rfl)), ?_⟩
    exact (t_mul (Fe.sub_right _ _).ok okq.l).mono fun _ _ ⟨he, hg⟩ => ⟨_, he, hg, rfl⟩
   refine ⟨⟨⟨_, rfl⟩, Fg.allocP (fun _ _ h k => gb_trans h k) rfl (by show 5 < 64; decide) fun ac w h => ?_⟩, ?_⟩
   ·refine ⟨wants_none rfl, w.alloc (.cells zr5.toArray 26), ?_, World.grownBy_alloc _ _ _, by simp, ⟨w.heap.size, rfl, h.base.size, Blk.new w zr5 _⟩⟩
    clear h
    go_simp
   trivial
  ·intro qa V3 g3 hsz hdf hrest hslots hpt
   obtain ⟨N5, hs5, hn5, hb5⟩ : ∃ N, qa.tmps.getD 5 undef = .pointer (some ⟨N, 0, none⟩) ∧ W2.heap.size ≤ N ∧ Blk V3 N 26 zr5 := hslots 5 (by kernel_rfl)
   obtain ⟨u22, hs22⟩ := Fg.slotv qa 22
   obtain ⟨u23, hs23⟩ := Fg.slotv qa 23
   obtain ⟨u24, hs24⟩ := Fg.slotv qa 24
   obtain ⟨u25, hs25⟩ := Fg.slotv qa 25
   obtain ⟨u26, hs26⟩ := Fg.slotv qa 26
   obtain ⟨u27, hs27⟩ := Fg.slotv qa 27
   obtain ⟨u28, hs28⟩ := Fg.slotv qa 28
   obtain ⟨u29, hs29⟩ := Fg.slotv qa 29
   obtain ⟨u30, hs30⟩ := Fg.slotv qa 30
   obtain ⟨u31, hs31⟩ := Fg.slotv qa 31
   obtain ⟨u32, hs32⟩ := Fg.slotv qa 32
   obtain ⟨u33, hs33⟩ := Fg.slotv qa 33
   obtain ⟨u34, hs34⟩ := Fg.slotv qa 34
   obtain ⟨x2, hx2⟩ : ∃ x : Fe, x = Fe.mulF (Fe.subF s.Y s.X) q.l := ⟨_, rfl⟩
   obtain rfl := Fg.frame_by [5, 22, 23, 24, 25, 26, 27, 28, 29, 30, 31, 32, 33, 34, 35] (vs := [Value.pointer (some ⟨S, 0, none⟩), q.v, undef, Value.pointer (some ⟨w0.heap.size, 0, none⟩), Value.pointer (some ⟨N4, 0, none⟩), Value.pointer (some ⟨N5, 0, none⟩), undef, undef, u8, u9, u10, u11, u12, u13, u14, u15, u16, u17, u18, u19, u20, x1.v, u22, u23, u24, u25, u26, u27, u28, u29, u30, u31, u32, u33, u34, x2.v, undef, undef, undef, undef, undef, undef, undef, undef, undef, undef, undef, undef, undef, undef, undef, undef, undef, undef, undef, undef, undef, undef, undef, undef, undef, undef, undef, undef]) hsz hrest (by kernel_rfl) rfl rfl ⟨hs5, hs22, hs23, hs24, hs25, hs26, hs27, hs28, hs29, hs30, hs31, hs32, hs33, hs34, (show qa.tmps.getD 35 undef = x2.v by rw [hx2]; exact hslots 35 (by kernel_rfl)), trivial⟩ hdf
   clear hsz hdf hrest hslots hpt hs5 hs22 hs23 hs24 hs25 hs26 hs27 hs28 hs29 hs30 hs31 hs32 hs33 hs34
   have Hx2 := Lib.hid hx2; clear hx2
   replace hS := hS.gn g3
   replace hQ := hQ.gn g3
   replace hb4 := hb4.gn g3
   replace G := gb_trans G (gb_row g3 _)
   replace HT := HT.grown g3
   have okx2 : x2.Ok := by rw [Hx2.out]; exact (Fe.mul_right _ _).ok
   have hw5 : w0.heap.size ≤ N5 := Nat.le_trans Gs2 hn5
   clear g3
   refine Fg.wpl_skip rfl rfl (Fg.run_store (cs := feL x2) rfl rfl rfl (hb5.there 0 5 (by show 0 + 5 ≤ 5; decide)) info_elem (feL_one _)) ?_
   replace hS := hS.setCells_other (C := N5) (cs := feL x2) 0 (by omega)
   replace hQ := hQ.setCells_other (C := N5) (cs := feL x2) 0 (by omega)
   replace hb4 := hb4.setCells_other (C := N5) (cs := feL x2) 0 (by omega)
   replace hb5 : Blk (V3.setCells N5 0 (feL x2)) N5 26 (feL x2) := hb5.setAll rfl
   replace G := gb_setCells_new (cs := feL x2) G (B := N5) (hw5) 0
   replace HT := HT.keep (gb_setCells (cs := feL x2) (gb_refl _ (some N5)) 0) (HT0.noG (hw5))
   revert hS hQ hb4 hb5 G HT
   generalize V3.setCells N5 0 (feL x2) = W4
   intro hS hQ hb4 hb5 G HT
   go_upto_region 3 with (fail)
   have Gs4 := G.size
   have l3hS := hS.lt
   have l3hQ := hQ.lt
   have l3hb4 := hb4.lt
   have l3hb5 := hb5.lt
   refine Fg.rT [6] [.any, .any, .any, .any, .any, .any, .fresh 26 zr5 W4.heap.size, .any, .any, .any, .any, .any, .any, .any, .any, .any, .any, .any, .any, .any, .any, .any, .any, .any, .any, .any, .any, .any, .any, .any, .any, .any, .any, .any, .any, .any, .val (Value.pointer (some ⟨S, 0, none⟩)), .val (Value.pointer (some ⟨S, 0, none⟩)), .val (Value.pointer (some ⟨S, 0, none⟩)), .val (Value.pointer (some ⟨S, 10, none⟩)), .val (s.Z.v), .val (Value.pointer (some ⟨w0.heap.size, 10, none⟩)), .val (q.z.v), .val ((Fe.mulF s.Z q.z).v)] 9 ?_ ?_
   ·refine Fg.vS rfl (by decide) (fun ac w h => ?_) ?_
    ·have e0 : _ = Value.pointer (some ⟨S, 0, none⟩) := h.r 0
     exact Fg.vn (Value.pointer (some ⟨S, 0, none⟩)) (Fg.run_move rfl e0)
    refine Fg.vS rfl (by decide) (fun ac w h => ?_) ?_
    ·have e36 : _ = Value.pointer (some ⟨S, 0, none⟩) := h.d 36
     exact Fg.vn (Value.pointer (some ⟨S, 0, none⟩)) (Fg.run_nilCheck rfl e36)
    refine Fg.vS rfl (by decide) (fun ac w h => ?_) ?_
    ·have e37 : _ = Value.pointer (some ⟨S, 0, none⟩) := h.d 37
     exact Fg.vn (Value.pointer (some ⟨S, 0, none⟩)) (Fg.run_fieldAddr rfl e37 (fa_sum0 _ _ _))
    refine Fg.vS rfl (by decide) (fun ac w h => ?_) ?_
    ·have e38 : _ = Value.pointer (some ⟨S, 0, none⟩) := h.d 38
     exact Fg.vn (Value.pointer (some ⟨S, 10, none⟩)) (Fg.run_fieldAddr rfl e38 (fa_point2 _ _ _))
    refine Fg.vS rfl (by decide) (fun ac w h => ?_) ?_
    ·have e39 : _ = Value.pointer (some ⟨S, 10, none⟩) := h.d 39
     exact Fg.vn s.Z.v (Fg.run_load rfl e39 ((hS.gn h.base).range 10 (feL s.Z) rfl) Tryd.underlying26 rfl info_elem)
    refine Fg.vS rfl (by decide) (fun ac w h => ?_) ?_
    ·have e3 : _ = Value.pointer (some ⟨w0.heap.size, 0, none⟩) := h.r 3
     exact Fg.vn (Value.pointer (some ⟨w0.heap.size, 10, none⟩)) (Fg.run_fieldAddr rfl e3 (fa_addend2 _ _ _))
    refine Fg.vS rfl (by decide) (fun ac w h => ?_) ?_
    ·have e41 : _ = Value.pointer (some ⟨w0.heap.size, 10, none⟩) := h.d 41
     exact Fg.vn q.z.v (Fg.run_load rfl e41 ((hQ.gn h.base).range 10 (feL q.z) rfl) Tryd.underlying26 rfl info_elem)
    refine Fg.cS rfl (by decide) (fun ac w h => ?_) ?_
    ·have e40 : _ = s.Z.v := h.d 40
     have e42 : _ = q.z.v := h.d 42
     refine ⟨wants_none rfl, 25, #[s.Z.v, q.z.v], Fg.run_call rfl rfl (by simp only [List.map_toArray, List.map_cons, List.map_nil, Act.eval, e40, e42]) (Fg.run_enter Tryd.func25 (by kernel_rfl) (by kernel_rfl)), ?_⟩
     exact (t_mul oks.Z okq.z).mono fun _ _ ⟨he, hg⟩ => ⟨_, he, hg, rfl⟩
    refine ⟨⟨⟨_, rfl⟩, Fg.allocP (fun _ _ h k => gb_trans h k) rfl (by show 6 < 64; decide) fun ac w h => ?_⟩, ?_⟩
    ·refine ⟨wants_none rfl, w.alloc (.cells zr5.toArray 26), ?_, World.grownBy_alloc _ _ _, by simp, ⟨w.heap.size, rfl, h.base.size, Blk.new w zr5 _⟩⟩
     clear h
     go_simp
    trivial
   ·intro qa V5 g5 hsz hdf hrest hslots hpt
    obtain ⟨N6, hs6, hn6, hb6⟩ : ∃ N, qa.tmps.getD 6 undef = .pointer (some ⟨N, 0, none⟩) ∧ W4.heap.size ≤ N ∧ Blk V5 N 26 zr5 := hslots 6 (by kernel_rfl)
    obtain ⟨u36, hs36⟩ := Fg.slotv qa 36
    obtain ⟨u37, hs37⟩ := Fg.slotv qa 37
    obtain ⟨u38, hs38⟩ := Fg.slotv qa 38
    obtain ⟨u39, hs39⟩ := Fg.slotv qa 39
    obtain ⟨u40, hs40⟩ := Fg.slotv qa 40
    obtain ⟨u41, hs41⟩ := Fg.slotv qa 41
    obtain ⟨u42, hs42⟩ := Fg.slotv qa 42
    obtain ⟨x3, hx3⟩ : ∃ x : Fe, x = Fe.mulF s.Z q.z := ⟨_, rfl⟩
    obtain rfl := Fg.frame_by [6, 36, 37, 38, 39, 40, 41, 42, 43] (vs := [Value.pointer (some ⟨S, 0, none⟩), q.v, undef, Value.pointer (some ⟨w0.heap.size, 0, none⟩), Value.pointer (some ⟨N4, 0, none⟩), Value.pointer (some ⟨N5, 0, none⟩), Value.pointer (some ⟨N6, 0, none⟩), undef, u8, u9, u10, u11, u12, u13, u14, u15, u16, u17, u18, u19, u20, x1.v, u22, u23, u24, u25, u26, u27, u28, u29, u30, u31, u32, u33, u34, x2.v, u36, u37, u38, u39, u40, u41, u42, x3.v, undef, undef, undef, undef, undef, undef, undef, undef, undef, undef, undef, undef, undef, undef, undef, undef, undef, undef, undef, undef]) hsz hrest (by kernel_rfl) rfl rfl ⟨hs6, hs36, hs37, hs38, hs39, hs40, hs41, hs42, (show qa.tmps.getD 43 undef = x3.v by rw [hx3]; exact hslots 43 (by kernel_rfl)), trivial⟩ hdf
    clear hsz hdf hrest hslots hpt hs6 hs36 hs37 hs38 hs39 hs40 hs41 hs42
    have Hx3 := Lib.hid hx3; clear hx3
    replace hS := hS.gn g5
    replace hQ := hQ.gn g5
    replace hb4 := hb4.gn g5
    replace hb5 := hb5.gn g5
    replace G := gb_trans G (gb_row g5 _)
    replace HT := HT.grown g5
    have okx3 : x3.Ok := by rw [Hx3.out]; exact (Fe.mul_right _ _).ok
    have hw6 : w0.heap.size ≤ N6 := Nat.le_trans Gs4 hn6
    clear g5
    refine Fg.wpl_skip rfl rfl (Fg.run_store (cs := feL x3) rfl rfl rfl (hb6.there 0 5 (by show 0 + 5 ≤ 5; decide)) info_elem (feL_one _)) ?_
    replace hS := hS.setCells_other (C := N6) (cs := feL x3) 0 (by omega)
    replace hQ := hQ.setCells_other (C := N6) (cs := feL x3) 0 (by omega)
    replace hb4 := hb4.setCells_other (C := N6) (cs := feL x3) 0 (by omega)
    replace hb5 := hb5.setCells_other (C := N6) (cs := feL x3) 0 (by omega)
    replace hb6 : Blk (V5.setCells N6 0 (feL x3)) N6 26 (feL x3) := hb6.setAll rfl
    replace G := gb_setCells_new (cs := feL x3) G (B := N6) (hw6) 0
    replace HT := HT.keep (gb_setCells (cs := feL x3) (gb_refl _ (some N6)) 0) (HT0.noG (hw6))
    revert hS hQ hb4 hb5 hb6 G HT
    generalize V5.setCells N6 0 (feL x3) = W6
    intro hS hQ hb4 hb5 hb6 G HT
    go_upto_region 4 with (fail)
    have Gs4r := G.size
    have l4hS := hS.lt
    have l4hQ := hQ.lt
    have l4hb4 := hb4.lt
    have l4hb5 := hb5.lt
    have l4hb6 := hb6.lt
    have HST : ∀ it ∈ ([.any, .any, .any, .any, .any, .any, .any, .fresh 26 zr5 W6.heap.size, .any, .any, .any, .any, .any, .any, .any, .any, .any, .any, .any, .any, .any, .any, .any, .any, .any, .any, .any, .any, .any, .any, .any, .any, .any, .any, .any, .any, .any, .any, .any, .any, .any, .any, .any, .any, .val (Value.pointer (some ⟨S, 0, none⟩)), .val (((Pt.mk s.X s.Y s.Z (Fe.mulF s.A s.B))).v), .val ((Fe.mulF s.A s.B).v), .val (Value.pointer (some ⟨w0.heap.size, 15, none⟩)), .val (q.t.v), .val ((Fe.mulF (Fe.mulF s.A s.B) q.t).v)] : List Fg.It), it.Steady S := by
     intro it hit
     simp only [List.mem_cons, List.not_mem_nil, or_false] at hit
     have hlW : S < W6.heap.size := hS.lt
     rcases hit with rfl | rfl | rfl | rfl | rfl | rfl | rfl | rfl | rfl | rfl | rfl | rfl | rfl | rfl | rfl | rfl | rfl | rfl | rfl | rfl | rfl | rfl | rfl | rfl | rfl | rfl | rfl | rfl | rfl | rfl | rfl | rfl | rfl | rfl | rfl | rfl | rfl | rfl | rfl | rfl | rfl | rfl | rfl | rfl | rfl | rfl | rfl | rfl | rfl | rfl
     all_goals first | exact Fg.any_steady S | exact Fg.val_steady S _ | exact Fg.fresh_steady _ _ hlW
    refine Fg.wp_region_tail (ps := [7]) [.any, .any, .any, .any, .any, .any, .any, .fresh 26 zr5 W6.heap.size, .any, .any, .any, .any, .any, .any, .any, .any, .any, .any, .any, .any, .any, .any, .any, .any, .any, .any, .any, .any, .any, .any, .any, .any, .any, .any, .any, .any, .any, .any, .any, .any, .any, .any, .any, .any, .val (Value.pointer (some ⟨S, 0, none⟩)), .val (((Pt.mk s.X s.Y s.Z (Fe.mulF s.A s.B))).v), .val ((Fe.mulF s.A s.B).v), .val (Value.pointer (some ⟨w0.heap.size, 15, none⟩)), .val (q.t.v), .val ((Fe.mulF (Fe.mulF s.A s.B) q.t).v)] (fun w => World.grownBy W6 w (some S) ∧ ∃ t : Fe, t.Right ∧ Blk w S 53 (smL (Sm.mk s.X s.Y s.Z t s.A s.B))) 7 ⟨gb_drew (gb_refl _ _), s.T, rsT, hS.drew⟩ (by kernel_rfl) (by kernel_rfl) (by kernel_rfl) (by kernel_rfl) (by decide) (Fg.ptrs_undef (by kernel_rfl)) ?_ ?_
    ·refine ⟨⟨⟨_, rfl⟩, Fg.valueP (fun _ _ h k => ⟨gb_trans h.1 (gb_row k _), let ⟨t, r, b⟩ := h.2; ⟨t, r, b.gn k⟩⟩) rfl (by decide) fun ac w h => ?_⟩, ?_⟩
     ·have e0 : _ = Value.pointer (some ⟨S, 0, none⟩) := h.r 0
      exact Fg.vn (Value.pointer (some ⟨S, 0, none⟩)) (Fg.run_move rfl e0)
     refine ⟨⟨⟨_, rfl⟩, Fg.stepCall rfl fun ac w h => ?_⟩, ?_⟩
     ·have e44 : _ = Value.pointer (some ⟨S, 0, none⟩) := h.d 44
      obtain ⟨hb1, t, rt, hb2⟩ := h.base
      have hptr := h.ptrs
      refine ⟨wants_none rfl, 36, #[Value.pointer (some ⟨S, 0, none⟩)], Fg.run_call rfl rfl (by simp only [List.map_toArray, List.map_cons, List.map_nil, Act.eval, e44]) (Fg.run_enter Tryd.func36 (by kernel_rfl) (by kernel_rfl)), ?_⟩
      exact (point_any S (Sm.mk s.X s.Y s.Z t s.A s.B) w hb2 ⟨oks.X, oks.Y, oks.Z, rt.ok, oks.A, oks.B⟩).mono fun _ w' ⟨he, hg, hb3⟩ => ⟨_, he, ⟨gb_trans hb1 hg, _, Fe.mul_right _ _, hb3⟩, Fg.its_steady HST hg, ptrs_put hptr hg.size (Fg.not_in (by decide)), rfl⟩
     refine ⟨⟨⟨_, rfl⟩, Fg.valueP (fun _ _ h k => ⟨gb_trans h.1 (gb_row k _), let ⟨t, r, b⟩ := h.2; ⟨t, r, b.gn k⟩⟩) rfl (by decide) fun ac w h => ?_⟩, ?_⟩
     ·have e45 : _ = ((Pt.mk s.X s.Y s.Z (Fe.mulF s.A s.B))).v := h.d 45
      exact Fg.vn ((Fe.mulF s.A s.B).v) (Fg.run_field rfl e45 (by kernel_rfl))
     refine ⟨⟨⟨_, rfl⟩, Fg.valueP (fun _ _ h k => ⟨gb_trans h.1 (gb_row k _), let ⟨t, r, b⟩ := h.2; ⟨t, r, b.gn k⟩⟩) rfl (by decide) fun ac w h => ?_⟩, ?_⟩
     ·have e3 : _ = Value.pointer (some ⟨w0.heap.size, 0, none⟩) := h.r 3
      exact Fg.vn (Value.pointer (some ⟨w0.heap.size, 15, none⟩)) (Fg.run_fieldAddr rfl e3 (fa_addend3 _ _ _))
     refine ⟨⟨⟨_, rfl⟩, Fg.valueP (fun _ _ h k => ⟨gb_trans h.1 (gb_row k _), let ⟨t, r, b⟩ := h.2; ⟨t, r, b.gn k⟩⟩) rfl (by decide) fun ac w h => ?_⟩, ?_⟩
     ·have e47 : _ = Value.pointer (some ⟨w0.heap.size, 15, none⟩) := h.d 47
      exact Fg.vn q.t.v (Fg.run_load rfl e47 ((hQ.grown h.base.1 (some_ne (by omega))).range 15 (feL q.t) rfl) Tryd.underlying26 rfl info_elem)
     refine ⟨⟨⟨_, rfl⟩, Fg.callP (fun _ _ h k => ⟨gb_trans h.1 (gb_row k _), let ⟨t, r, b⟩ := h.2; ⟨t, r, b.gn k⟩⟩) rfl (by decide) fun ac w h => ?_⟩, ?_⟩
     ·have e46 : _ = (Fe.mulF s.A s.B).v := h.d 46
      have e48 : _ = q.t.v := h.d 48
      refine ⟨wants_none rfl, 25, #[(Fe.mulF s.A s.B).v, q.t.v], Fg.run_call rfl rfl (by simp only [List.map_toArray, List.map_cons, List.map_nil, Act.eval, e46, e48]) (Fg.run_enter Tryd.func25 (by kernel_rfl) (by kernel_rfl)), ?_⟩
      exact (t_mul (Fe.mul_right _ _).ok okq.t).mono fun _ _ ⟨he, hg⟩ => ⟨_, he, hg, rfl⟩
     refine ⟨⟨⟨_, rfl⟩, Fg.allocP (fun _ _ h k => ⟨gb_trans h.1 (gb_row k _), let ⟨t, r, b⟩ := h.2; ⟨t, r, b.gn k⟩⟩) rfl (by show 7 < 64; decide) fun ac w h => ?_⟩, ?_⟩
     ·refine ⟨wants_none rfl, w.alloc (.cells zr5.toArray 26), ?_, World.grownBy_alloc _ _ _, by simp, ⟨w.heap.size, rfl, h.base.1.size, Blk.new w zr5 _⟩⟩
      clear h
      go_simp
     trivial
    ·intro qa V7 g7 hsz hdf hrest hslots hpt
     obtain ⟨N7, hs7, hn7, hb7⟩ : ∃ N, qa.tmps.getD 7 undef = .pointer (some ⟨N, 0, none⟩) ∧ W6.heap.size ≤ N ∧ Blk V7 N 26 zr5 := hslots 7 (by kernel_rfl)
     obtain ⟨u44, hs44⟩ := Fg.slotv qa 44
     obtain ⟨u45, hs45⟩ := Fg.slotv qa 45
     obtain ⟨u46, hs46⟩ := Fg.slotv qa 46
     obtain ⟨u47, hs47⟩ := Fg.slotv qa 47
     obtain ⟨u48, hs48⟩ := Fg.slotv qa 48
     obtain ⟨x4, hx4⟩ : ∃ x : Fe, x = Fe.mulF (Fe.mulF s.A s.B) q.t := ⟨_, rfl⟩
     obtain rfl := Fg.frame_by [7, 44, 45, 46, 47, 48, 49] (vs := [Value.pointer (some ⟨S, 0, none⟩), q.v, undef, Value.pointer (some ⟨w0.heap.size, 0, none⟩), Value.pointer (some ⟨N4, 0, none⟩), Value.pointer (some ⟨N5, 0, none⟩), Value.pointer (some ⟨N6, 0, none⟩), Value.pointer (some ⟨N7, 0, none⟩), u8, u9, u10, u11, u12, u13, u14, u15, u16, u17, u18, u19, u20, x1.v, u22, u23, u24, u25, u26, u27, u28, u29, u30, u31, u32, u33, u34, x2.v, u36, u37, u38, u39, u40, u41, u42, x3.v, u44, u45, u46, u47, u48, x4.v, undef, undef, undef, undef, undef, undef, undef, undef, undef, undef, undef, undef, undef, undef]) hsz hrest (by kernel_rfl) rfl rfl ⟨hs7, hs44, hs45, hs46, hs47, hs48, (show qa.tmps.getD 49 undef = x4.v by rw [hx4]; exact hslots 49 (by kernel_rfl)), trivial⟩ hdf
     clear hsz hdf hrest hslots hpt hs7 hs44 hs45 hs46 hs47 hs48
     have Hx4 := Lib.hid hx4; clear hx4
     clear hS
     obtain ⟨g7, t, rt, hS⟩ := g7
     replace hQ := hQ.grown g7 (some_ne (by omega))
     replace hb4 := hb4.grown g7 (some_ne (by omega))
     replace hb5 := hb5.grown g7 (some_ne (by omega))
     replace hb6 := hb6.grown g7 (some_ne (by omega))
     replace G := gb_trans G g7
     replace HT := HT.keep g7 HS
     have okx4 : x4.Ok := by rw [Hx4.out]; exact (Fe.mul_right _ _).ok
     have hw7 : w0.heap.size ≤ N7 := Nat.le_trans Gs4r hn7
     clear g7 HST
     refine Fg.wpl_skip rfl rfl (Fg.run_store (cs := feL x4) rfl rfl rfl (hb7.there 0 5 (by show 0 + 5 ≤ 5; decide)) info_elem (feL_one _)) ?_
     replace hS := hS.setCells_other (C := N7) (cs := feL x4) 0 (by omega)
     replace hQ := hQ.setCells_other (C := N7) (cs := feL x4) 0 (by omega)
     replace hb4 := hb4.setCells_other (C := N7) (cs := feL x4) 0 (by omega)
     replace hb5 := hb5.setCells_other (C := N7) (cs := feL x4) 0 (by omega)
     replace hb6 := hb6.setCells_other (C := N7) (cs := feL x4) 0 (by omega)
     replace hb7 : Blk (V7.setCells N7 0 (feL x4)) N7 26 (feL x4) := hb7.setAll rfl
     replace G := gb_setCells_new (cs := feL x4) G (B := N7) (hw7) 0
     replace HT := HT.keep (gb_setCells (cs := feL x4) (gb_refl _ (some N7)) 0) (HT0.noG (hw7))
     revert hS hQ hb4 hb5 hb6 hb7 G HT
     generalize V7.setCells N7 0 (feL x4) = W8
     intro hS hQ hb4 hb5 hb6 hb7 G HT
     go_upto_region 5 with (fail)
     have Gs8 := G.size
     have l5hS := hS.lt
     have l5hQ := hQ.lt
     have l5hb4 := hb4.lt
     have l5hb5 := hb5.lt
     have l5hb6 := hb6.lt
     have l5hb7 := hb7.lt
     refine Fg.rT [] [.any, .any, .any, .any, .any, .any, .any, .any, .any, .any, .any, .any, .any, .any, .any, .any, .any, .any, .any, .any, .any, .any, .any, .any, .any, .any, .any, .any, .any, .any, .any, .any, .any, .any, .any, .any, .any, .any, .any, .any, .any, .any, .any, .any, .any, .any, .any, .any, .any, .any, .val (Value.pointer (some ⟨S, 0, none⟩)), .val (x1.v), .val (x2.v), .val ((Fe.subF x1 x2).v), .val (x3.v), .val (x4.v), .val ((Fe.addF x3 x4).v), .val (x1.v), .val (x2.v), .val ((Fe.addF x1 x2).v), .val (x3.v), .val (x4.v), .val ((Fe.subF x3 x4).v)] 13 ?_ ?_
     ·refine Fg.vS rfl (by decide) (fun ac w h => ?_) ?_
      ·have e0 : _ = Value.pointer (some ⟨S, 0, none⟩) := h.r 0
       exact Fg.vn (Value.pointer (some ⟨S, 0, none⟩)) (Fg.run_move rfl e0)
      refine Fg.vS rfl (by decide) (fun ac w h => ?_) ?_
      ·have e4 : _ = Value.pointer (some ⟨N4, 0, none⟩) := h.r 4
       exact Fg.vn x1.v (Fg.run_load rfl e4 ((hb4.gn h.base).range 0 (feL x1) rfl) Tryd.underlying26 rfl info_elem)
      refine Fg.vS rfl (by decide) (fun ac w h => ?_) ?_
      ·have e5 : _ = Value.pointer (some ⟨N5, 0, none⟩) := h.r 5
       exact Fg.vn x2.v (Fg.run_load rfl e5 ((hb5.gn h.base).range 0 (feL x2) rfl) Tryd.underlying26 rfl info_elem)
      refine Fg.cS rfl (by decide) (fun ac w h => ?_) ?_
      ·have e51 : _ = x1.v := h.d 51
       have e52 : _ = x2.v := h.d 52
       refine ⟨wants_none rfl, 29, #[x1.v, x2.v], Fg.run_call rfl rfl (by simp only [List.map_toArray, List.map_cons, List.map_nil, Act.eval, e51, e52]) (Fg.run_enter Tryd.func29 (by kernel_rfl) (by kernel_rfl)), ?_⟩
       exact (t_sub (HT.f.grown h.base) okx1 okx2).mono fun _ _ ⟨he, hg⟩ => ⟨_, he, hg, rfl⟩
      refine Fg.vS rfl (by decide) (fun ac w h => ?_) ?_
      ·have e6 : _ = Value.pointer (some ⟨N6, 0, none⟩) := h.r 6
       exact Fg.vn x3.v (Fg.run_load rfl e6 ((hb6.gn h.base).range 0 (feL x3) rfl) Tryd.underlying26 rfl info_elem)
      refine Fg.vS rfl (by decide) (fun ac w h => ?_) ?_
      ·have e7 : _ = Value.pointer (some ⟨N7, 0, none⟩) := h.r 7
       exact Fg.vn x4.v (Fg.run_load rfl e7 ((hb7.gn h.base).range 0 (feL x4) rfl) Tryd.underlying26 rfl info_elem)
      refine Fg.cS rfl (by decide) (fun ac w h => ?_) ?_
      ·have e54 : _ = x3.v := h.d 54
       have e55 : _ = x4.v := h.d 55
       refine ⟨wants_none rfl, 39, #[x3.v, x4.v], Fg.run_call rfl rfl (by simp only [List.map_toArray, List.map_cons, List.map_nil, Act.eval, e54, e55]) (Fg.run_enter Tryd.func39 (by kernel_rfl) (by kernel_rfl)), ?_⟩
       exact (t_add okx3 okx4).mono fun _ _ ⟨he, hg⟩ => ⟨_, he, hg, rfl⟩
      refine Fg.vS rfl (by decide) (fun ac w h => ?_) ?_
      ·have e4 : _ = Value.pointer (some ⟨N4, 0, none⟩) := h.r 4
       exact Fg.vn x1.v (Fg.run_load rfl e4 ((hb4.gn h.base).range 0 (feL x1) rfl) Tryd.underlying26 rfl info_elem)
      refine Fg.vS rfl (by decide) (fun ac w h => ?_) ?_
      ·have e5 : _ = Value.pointer (some ⟨N5, 0, none⟩) := h.r 5
       exact Fg.vn x2.v (Fg.run_load rfl e5 ((hb5.gn h.base).range 0 (feL x2) rfl) Tryd.underlying26 rfl info_elem)
      refine Fg.cS rfl (by decide) (fun ac w h => ?_) ?_
      ·have e57 : _ = x1.v := h.d 57
       have e58 : _ = x2.v := h.d 58
       refine ⟨wants_none rfl, 39, #[x1.v, x2.v], Fg.run_call rfl rfl (by simp only [List.map_toArray, List.map_cons, List.map_nil, Act.eval, e57, e58]) (Fg.run_enter Tryd.func39 (by kernel_rfl) (by kernel_rfl)), ?_⟩
       exact (t_add okx1 okx2).mono fun _ _ ⟨he, hg⟩ => ⟨_, he, hg, rfl⟩
      refine Fg.vS rfl (by decide) (fun ac w h => ?_) ?_
      ·have e6 : _ = Value.pointer (some ⟨N6, 0, none⟩) := h.r 6
       exact Fg.vn x3.v (Fg.run_load rfl e6 ((hb6.gn h.base).range 0 (feL x3) rfl) Tryd.underlying26 rfl info_elem)
      refine Fg.vS rfl (by decide) (fun ac w h => ?_) ?_
      ·have e7 : _ = Value.pointer (some ⟨N7, 0, none⟩) := h.r 7
       exact Fg.vn x4.v (Fg.run_load rfl e7 ((hb7.gn h.base).range 0 (feL x4) rfl) Tryd.underlying26 rfl info_elem)
      refine Fg.cS rfl (by decide) (fun ac w h => ?_) ?_
      ·have e60 : _ = x3.v := h.d 60
       have e61 : _ = x4.v := h.d 61
       refine ⟨wants_none rfl, 29, #[x3.v, x4.v], Fg.run_call rfl rfl (by simp only [List.map_toArray, List.map_cons, List.map_nil, Act.eval, e60, e61]) (Fg.run_enter Tryd.func29 (by kernel_rfl) (by kernel_rfl)), ?_⟩
       exact (t_sub (HT.f.grown h.base) okx3 okx4).mono fun _ _ ⟨he, hg⟩ => ⟨_, he, hg, rfl⟩
      trivial
     ·intro qa V9 g9 hsz hdf hrest hslots hpt
      obtain ⟨u51, hs51⟩ := Fg.slotv qa 51
      obtain ⟨u52, hs52⟩ := Fg.slotv qa 52
      obtain ⟨x5, hx5⟩ : ∃ x : Fe, x = Fe.subF x1 x2 := ⟨_, rfl⟩
      obtain ⟨u54, hs54⟩ := Fg.slotv qa 54
      obtain ⟨u55, hs55⟩ := Fg.slotv qa 55
      obtain ⟨x6, hx6⟩ : ∃ x : Fe, x = Fe.addF x3 x4 := ⟨_, rfl⟩
      obtain ⟨u57, hs57⟩ := Fg.slotv qa 57
      obtain ⟨u58, hs58⟩ := Fg.slotv qa 58
      obtain ⟨x7, hx7⟩ : ∃ x : Fe, x = Fe.addF x1 x2 := ⟨_, rfl⟩
      obtain ⟨u60, hs60⟩ := Fg.slotv qa 60
      obtain ⟨u61, hs61⟩ := Fg.slotv qa 61
      obtain ⟨x8, hx8⟩ : ∃ x : Fe, x = Fe.subF x3 x4 := ⟨_, rfl⟩
      obtain rfl := Fg.frame_by [50, 51, 52, 53, 54, 55, 56, 57, 58, 59, 60, 61, 62] (vs := [Value.pointer (some ⟨S, 0, none⟩), q.v, undef, Value.pointer (some ⟨w0.heap.size, 0, none⟩), Value.pointer (some ⟨N4, 0, none⟩), Value.pointer (some ⟨N5, 0, none⟩), Value.pointer (some ⟨N6, 0, none⟩), Value.pointer (some ⟨N7, 0, none⟩), u8, u9, u10, u11, u12, u13, u14, u15, u16, u17, u18, u19, u20, x1.v, u22, u23, u24, u25, u26, u27, u28, u29, u30, u31, u32, u33, u34, x2.v, u36, u37, u38, u39, u40, u41, u42, x3.v, u44, u45, u46, u47, u48, x4.v, Value.pointer (some ⟨S, 0, none⟩), u51, u52, x5.v, u54, u55, x6.v, u57, u58, x7.v, u60, u61, x8.v, undef]) hsz hrest (by kernel_rfl) rfl rfl ⟨(show qa.tmps.getD 50 undef = Value.pointer (some ⟨S, 0, none⟩) from hslots 50 (by kernel_rfl)), hs51, hs52, (show qa.tmps.getD 53 undef = x5.v by rw [hx5]; exact hslots 53 (by kernel_rfl)), hs54, hs55, (show qa.tmps.getD 56 undef = x6.v by rw [hx6]; exact hslots 56 (by kernel_rfl)), hs57, hs58, (show qa.tmps.getD 59 undef = x7.v by rw [hx7]; exact hslots 59 (by kernel_rfl)), hs60, hs61, (show qa.tmps.getD 62 undef = x8.v by rw [hx8]; exact hslots 62 (by kernel_rfl)), trivial⟩ hdf
      clear hsz hdf hrest hslots hpt hs51 hs52 hs54 hs55 hs57 hs58 hs60 hs61
      have Hx5 := Lib.hid hx5; clear hx5
      have Hx6 := Lib.hid hx6; clear hx6
      have Hx7 := Lib.hid hx7; clear hx7
      have Hx8 := Lib.hid hx8; clear hx8
      replace hS := hS.gn g9
      replace hQ := hQ.gn g9
      replace hb4 := hb4.gn g9
      replace hb5 := hb5.gn g9
      replace hb6 := hb6.gn g9
      replace hb7 := hb7.gn g9
      replace G := gb_trans G (gb_row g9 _)
      replace HT := HT.grown g9
      have okx5 : x5.Ok := by rw [Hx5.out]; exact (Fe.sub_right _ _).ok
      have okx6 : x6.Ok := by rw [Hx6.out]; exact (Fe.add_right _ _).ok
      have okx7 : x7.Ok := by rw [Hx7.out]; exact (Fe.add_right _ _).ok
      have okx8 : x8.Ok := by rw [Hx8.out]; exact (Fe.sub_right _ _).ok
      clear g9
      refine Fg.wpl_call rfl (Fg.run_call (vs := #[Value.pointer (some ⟨S, 0, none⟩), x5.v, x6.v, x7.v, x8.v]) rfl rfl (by simp only [List.map_toArray, List.map_cons, List.map_nil, Act.eval]; rfl) (Fg.run_enter Tryd.func56 (by kernel_rfl) (by kernel_rfl))) ?_
      refine (become_any S _ x5 x6 x7 x8 _ hS okx5 okx6 okx7 okx8).mono ?_
      rintro e w9 ⟨rfl, g9, h9⟩
      replace G := gb_trans G g9
      refine ⟨_, rfl, ?_⟩
      clear hQ hS hb4 hb5 hb6 hb7
      go_wp2
      go_end0
      refine ⟨rfl, G, _, ?_, h9⟩
      have hx8 := Hx8.out; subst hx8
      have hx7 := Hx7.out; subst hx7
      have hx6 := Hx6.out; subst hx6
      have hx5 := Hx5.out; subst hx5
      have hx4 := Hx4.out; subst hx4
      have hx3 := Hx3.out; subst hx3
      have hx2 := Hx2.out; subst hx2
      have hx1 := Hx1.out; subst hx1
      exact (plusIs hs hq).setT rt

end Go.Proofs.YtleegbaigedebaaDoor

/- edwards: addendOf. -/
namespace Go.Proofs.YtleegbaigedebaaDoor
open Go.RowKit Ed
set_option maxRecDepth 100000 in
set_option maxHeartbeats 3200000 in
theorem addendOf_any (p : Pt) (w0 : World) (HT0 : ETab w0) (okp : p.Ok) :
  Calls Tryd.prog 35 #[p.v] w0 fun e w' => e = .returned (adF p).v ∧ w0.grownBy w' none := by
 show Calls Tryd.prog 35 #[.agg (ptL p).toArray] w0 _
 go_enter Tryd.func35, Tryd.ntmps35
 go_upto_region 1 with (fail)
 have G : w0.grownBy ((w0.alloc (.cells (ptL p).toArray 28)).alloc (.cells zr20.toArray 57)) none := gb_alloc (gb_alloc (gb_refl _ _) _) _
 have HT : ETab ((w0.alloc (.cells (ptL p).toArray 28)).alloc (.cells zr20.toArray 57)) := HT0.grown (gb_alloc (gb_alloc (gb_refl _ _) _) _)
 have hP : Blk ((w0.alloc (.cells (ptL p).toArray 28)).alloc (.cells zr20.toArray 57)) (w0.heap.size) 28 (ptL p) := (Blk.new w0 (ptL p) _).alloc _
 have hR : Blk ((w0.alloc (.cells (ptL p).toArray 28)).alloc (.cells zr20.toArray 57)) (w0.heap.size + 1) 57 zr20 := Blk.newAt (w0.alloc _) zr20 _ (by simp)
 revert G HT hP hR
 generalize (w0.alloc (.cells (ptL p).toArray 28)).alloc (.cells zr20.toArray 57) = W0
 intro G HT hP hR
 have Gs := G.size
 have Gs0 := G.size
 have l1hP := hP.lt
 have l1hR := hR.lt
 refine Fg.rT [] [.any, .any, .any, .val (Value.pointer (some ⟨w0.heap.size, 5, none⟩)), .val (p.Y.v), .val (Value.pointer (some ⟨w0.heap.size, 0, none⟩)), .val (p.X.v), .val ((Fe.addF p.Y p.X).v), .val (Value.pointer (some ⟨w0.heap.size, 5, none⟩)), .val (p.Y.v), .val (Value.pointer (some ⟨w0.heap.size, 0, none⟩)), .val (p.X.v), .val ((Fe.subF p.Y p.X).v), .val (Value.pointer (some ⟨w0.heap.size, 10, none⟩)), .val (p.Z.v), .val (Value.pointer (some ⟨w0.heap.size, 10, none⟩)), .val (p.Z.v), .val ((Fe.addF p.Z p.Z).v), .val (dF.v), .val (Value.pointer (some ⟨w0.heap.size, 15, none⟩)), .val (p.T.v), .val (Value.pointer (some ⟨w0.heap.size, 15, none⟩)), .val (p.T.v), .val ((Fe.addF p.T p.T).v), .val ((Fe.mulF dF (Fe.addF p.T p.T)).v), .val ((adF p).v)] 23 ?_ ?_
 ·refine Fg.vS rfl (by decide) (fun ac w h => ?_) ?_
  ·have e1 : _ = Value.pointer (some ⟨w0.heap.size, 0, none⟩) := h.r 1
   exact Fg.vn (Value.pointer (some ⟨w0.heap.size, 5, none⟩)) (Fg.run_fieldAddr rfl e1 (fa_point1 _ _ _))
  refine Fg.vS rfl (by decide) (fun ac w h => ?_) ?_
  ·have e3 : _ = Value.pointer (some ⟨w0.heap.size, 5, none⟩) := h.d 3
   exact Fg.vn p.Y.v (Fg.run_load rfl e3 ((hP.gn h.base).range 5 (feL p.Y) rfl) Tryd.underlying26 rfl info_elem)
  refine Fg.vS rfl (by decide) (fun ac w h => ?_) ?_
  ·have e1 : _ = Value.pointer (some ⟨w0.heap.size, 0, none⟩) := h.r 1
   exact Fg.vn (Value.pointer (some ⟨w0.heap.size, 0, none⟩)) (Fg.run_fieldAddr rfl e1 (fa_point0 _ _ _))
  refine Fg.vS rfl (by decide) (fun ac w h => ?_) ?_
  ·have e5 : _ = Value.pointer (some ⟨w0.heap.size, 0, none⟩) := h.d 5
   exact Fg.vn p.X.v (Fg.run_load rfl e5 ((hP.gn h.base).range 0 (feL p.X) rfl) Tryd.underlying26 rfl info_elem)
  refine Fg.cS rfl (by decide) (fun ac w h => ?_) ?_
  ·have e4 : _ = p.Y.v := h.d 4
   have e6 : _ = p.X.v := h.d 6
   refine ⟨wants_none rfl, 39, #[p.Y.v, p.X.v], Fg.run_call rfl rfl (by simp only [List.map_toArray, List.map_cons, List.map_nil, Act.eval, e4, e6]) (Fg.run_enter Tryd.func39 (by kernel_rfl) (by kernel_rfl)), ?_⟩
   exact (t_add okp.Y okp.X).mono fun _ _ ⟨he, hg⟩ => ⟨_, he, hg, rfl⟩
  refine Fg.vS rfl (by decide) (fun ac w h => ?_) ?_
  ·have e1 : _ = Value.pointer (some ⟨w0.heap.size, 0, none⟩) := h.r 1
   exact Fg.vn (Value.pointer (some ⟨w0.heap.size, 5, none⟩)) (Fg.run_fieldAddr rfl e1 (fa_point1 _ _ _))
  refine Fg.vS rfl (by decide) (fun ac w h => ?_) ?_
  ·have e8 : _ = Value.pointer (some ⟨w0.heap.size, 5, none⟩) := h.d 8
   exact Fg.vn p.Y.v (Fg.run_load rfl e8 ((hP.gn h.base).range 5 (feL p.Y) rfl) Tryd.underlying26 rfl info_elem)
  refine Fg.vS rfl (by decide) (fun ac w h => ?_) ?_
  ·have e1 : _ = Value.pointer (some ⟨w0.heap.size, 0, none⟩) := h.r 1
   exact Fg.vn (Value.pointer (some ⟨w0.heap.size, 0, none⟩)) (Fg.run_fieldAddr rfl e1 (fa_point0 _ _ _))
  refine Fg.vS rfl (by decide) (fun ac w h => ?_) ?_
  ·have e10 : _ = Value.pointer (some ⟨w0.heap.size, 0, none⟩) := h.d 10
   exact Fg.vn p.X.v (Fg.run_load rfl e10 ((hP.gn h.base).range 0 (feL p.X) rfl) Tryd.underlying26 rfl info_elem)
  refine Fg.cS rfl (by decide) (fun ac w h => ?_) ?_
  ·have e9 : _ = p.Y.v := h.d 9
   have e11 : _ = p.X.v := h.d 11
   refine ⟨wants_none rfl, 29, #[p.Y.v, p.X.v], Fg.run_call rfl rfl (by simp only [List.map_toArray, List.map_cons, List.map_nil, Act.eval, e9, e11]) (Fg.run_enter Tryd.func29 (by kernel_rfl) (by kernel_rfl)), ?_⟩
   exact (t_sub (HT.f.grown h.base) okp.Y okp.X).mono fun _ _ ⟨he, hg⟩ => ⟨_, he, hg, rfl⟩
  refine Fg.vS rfl (by decide) (fun ac w h => ?_) ?_
  ·have e1 : _ = Value.pointer (some ⟨w0.heap.size, 0, none⟩) := h.r 1
   exact Fg.vn (Value.pointer (some ⟨w0.heap.size, 10, none⟩)) (Fg.run_fieldAddr rfl e1 (fa_point2 _ _ _))
  refine Fg.vS rfl (by decide) (fun ac w h => ?_) ?_
  ·have e13 : _ = Value.pointer (some ⟨w0.heap.size, 10, none⟩) := h.d 13
   exact Fg.vn p.Z.v (Fg.run_load rfl e13 ((hP.gn h.base).range 10 (feL p.Z) rfl) Tryd.underlying26 rfl info_elem)
  refine Fg.vS rfl (by decide) (fun ac w h => ?_) ?_
  ·have e1 : _ = Value.pointer (some ⟨w0.heap.size, 0, none⟩) := h.r 1
   exact Fg.vn (Value.pointer (some ⟨w0.heap.size, 10, none⟩)) (Fg.run_fieldAddr rfl e1 (fa_point2 _ _ _))
  refine Fg.vS rfl (by decide) (fun ac w h => ?_) ?_
  ·have e15 : _ = Value.pointer (some ⟨w0.heap.size, 10, none⟩) := h.d 15
   exact Fg.vn p.Z.v (Fg.run_load rfl e15 ((hP.gn h.base).range 10 (feL p.Z) rfl) Tryd.underlying26 rfl info_elem)
  refine Fg.cS rfl (by decide) (fun ac w h => ?_) ?_
  ·have e14 : _ = p.Z.v := h.d 14
   have e16 : _ = p.Z.v := h.d 16
   refine ⟨wants_none rfl, 39, #[p.Z.v, p.Z.v], Fg.run_call rfl rfl (by simp only [List.map_toArray, List.map_cons, List.map_nil, Act.eval, e14, e16]) (Fg.run_enter Tryd.func39 (by kernel_rfl) (by kernel_rfl)), ?_⟩
   exact (t_add okp.Z okp.Z).mono fun _ _ ⟨he, hg⟩ => ⟨_, he, hg, rfl⟩
  refine Fg.vS rfl (by decide) (fun ac w h => ?_) ?_
  ·exact Fg.vn dF.v (Fg.run_load rfl rfl (HT.grown h.base).d Tryd.underlying26 rfl info_elem)
  refine Fg.vS rfl (by decide) (fun ac w h => ?_) ?_
  ·have e1 : _ = Value.pointer (some ⟨w0.heap.size, 0, none⟩) := h.r 1
   exact Fg.vn (Value.pointer (some ⟨w0.heap.size, 15, none⟩)) (Fg.run_fieldAddr rfl e1 (fa_point3 _ _ _))
  refine Fg.vS rfl (by decide) (fun ac w h => ?_) ?_
  ·have e19 : _ = Value.pointer (some ⟨w0.heap.size, 15, none⟩) := h.d 19
   exact Fg.vn p.T.v (Fg.run_load rfl e19 ((hP.gn h.base).range 15 (feL p.T) rfl) Tryd.underlying26 rfl info_elem)
  refine Fg.vS rfl (by decide) (fun ac w h => ?_) ?_
  ·have e1 : _ = Value.pointer (some ⟨w0.heap.size, 0, none⟩) := h.r 1
   exact Fg.vn (Value.pointer (some ⟨w0.heap.size, 15, none⟩)) (Fg.run_fieldAddr rfl e1 (fa_point3 _ _ _))
  refine Fg.vS rfl (by decide) (fun ac w h => ?_) ?_
  ·have e21 : _ = Value.pointer (some ⟨w0.heap.size, 15, none⟩) := h.d 21
   exact Fg.vn p.T.v (Fg.run_load rfl e21 ((hP.gn h.base).range 15 (feL p.T) rfl) Tryd.underlying26 rfl info_elem)
  refine Fg.cS rfl (by decide) (fun ac w h => ?_) ?_
  ·have e20 : _ = p.T.v := h.d 20
   have e22 : _ = p.T.v := h.d 22
   refine ⟨wants_none rfl, 39, #[p.T.v, p.T.v], Fg.run_call rfl rfl (by simp only [List.map_toArray, List.map_cons, List.map_nil, Act.eval, e20, e22]) (Fg.run_enter Tryd.func39 (by kernel_rfl) (by kernel_rfl)), ?_⟩
   exact (t_add okp.T okp.T).mono fun _ _ ⟨he, hg⟩ => ⟨_, he, hg, rfl⟩
  refine Fg.cS rfl (by decide) (fun ac w h => ?_) ?_
  ·have e18 : _ = dF.v := h.d 18
   have e23 : _ = (Fe.addF p.T p.T).v := h.d 23
   refine ⟨wants_none rfl, 25, #[dF.v, (Fe.addF p.T p.T).v], Fg.run_call rfl rfl (by simp only [List.map_toArray, List.map_cons, List.map_nil, Act.eval, e18, e23]) (Fg.run_enter Tryd.func25 (by kernel_rfl) (by kernel_rfl)), ?_⟩
   exact (t_mul dF_right.ok (Fe.add_right _ _).ok).mono fun _ _ ⟨he, hg⟩ => ⟨_, he, hg, rfl⟩
  refine Fg.vS rfl (by decide) (fun ac w h => ?_) ?_
  ·have e7 : _ = (Fe.addF p.Y p.X).v := h.d 7
   have e12 : _ = (Fe.subF p.Y p.X).v := h.d 12
   have e17 : _ = (Fe.addF p.Z p.Z).v := h.d 17
   have e24 : _ = (Fe.mulF dF (Fe.addF p.T p.T)).v := h.d 24
   exact Fg.vn ((adF p).v) (Fg.run_build (vs := #[(0, (Fe.addF p.Y p.X).v), (1, (Fe.subF p.Y p.X).v), (2, (Fe.addF p.Z p.Z).v), (3, (Fe.mulF dF (Fe.addF p.T p.T)).v)]) rfl (by simp only [List.map_toArray, List.map_cons, List.map_nil, Act.eval, e7, e12, e17, e24]) (by kernel_rfl))
  trivial
 ·intro qa V1 g1 hsz hdf hrest hslots hpt
  obtain ⟨u3, hs3⟩ := Fg.slotv qa 3
  obtain ⟨u4, hs4⟩ := Fg.slotv qa 4
  obtain ⟨u5, hs5⟩ := Fg.slotv qa 5
  obtain ⟨u6, hs6⟩ := Fg.slotv qa 6
  obtain ⟨u7, hs7⟩ := Fg.slotv qa 7
  obtain ⟨u8, hs8⟩ := Fg.slotv qa 8
  obtain ⟨u9, hs9⟩ := Fg.slotv qa 9
  obtain ⟨u10, hs10⟩ := Fg.slotv qa 10
  obtain ⟨u11, hs11⟩ := Fg.slotv qa 11
  obtain ⟨u12, hs12⟩ := Fg.slotv qa 12
  obtain ⟨u13, hs13⟩ := Fg.slotv qa 13
  obtain ⟨u14, hs14⟩ := Fg.slotv qa 14
  obtain ⟨u15, hs15⟩ := Fg.slotv qa 15
  obtain ⟨u16, hs16⟩ := Fg.slotv qa 16
  obtain ⟨u17, hs17⟩ := Fg.slotv qa 17
  obtain ⟨u18, hs18⟩ := Fg.slotv qa 18
  obtain ⟨u19, hs19⟩ := Fg.slotv qa 19
  obtain ⟨u20, hs20⟩ := Fg.slotv qa 20
  obtain ⟨u21, hs21⟩ := Fg.slotv qa 21
  obtain ⟨u22, hs22⟩ := Fg.slotv qa 22
  obtain ⟨u23, hs23⟩ := Fg.slotv qa 23
  obtain ⟨u24, hs24⟩ := Fg.slotv qa 24
  obtain ⟨x1, hx1⟩ : ∃ x : Ad, x = adF p := ⟨_, rfl⟩
  obtain rfl := Fg.frame_is (a := qa) (vs := [p.v, Value.pointer (some ⟨w0.heap.size, 0, none⟩), Value.pointer (some ⟨w0.heap.size + 1, 0, none⟩), u3, u4, u5, u6, u7, u8, u9, u10, u11, u12, u13, u14, u15, u16, u17, u18, u19, u20, u21, u22, u23, u24, x1.v]) hsz ⟨hrest 0 (by kernel_rfl), hrest 1 (by kernel_rfl), hrest 2 (by kernel_rfl), hs3, hs4, hs5, hs6, hs7, hs8, hs9, hs10, hs11, hs12, hs13, hs14, hs15, hs16, hs17, hs18, hs19, hs20, hs21, hs22, hs23, hs24, (show qa.tmps.getD 25 undef = x1.v by rw [hx1]; exact hslots 25 (by kernel_rfl)), trivial⟩ hdf
  clear hsz hdf hrest hslots hpt hs3 hs4 hs5 hs6 hs7 hs8 hs9 hs10 hs11 hs12 hs13 hs14 hs15 hs16 hs17 hs18 hs19 hs20 hs21 hs22 hs23 hs24
  have Hx1 := Lib.hid hx1; clear hx1
  replace hP := hP.gn g1
  replace hR := hR.gn g1
  replace G := gb_trans G g1
  replace HT := HT.grown g1
  clear g1
  refine Fg.wpl_skip rfl rfl (Fg.run_store (cs := adL x1) rfl rfl rfl (hR.there 0 20 (by show 0 + 20 ≤ 20; decide)) info_addend (adL_one _)) ?_
  replace hP := hP.setCells_other (C := (w0.heap.size + 1)) (cs := adL x1) 0 (by omega)
  replace hR : Blk (V1.setCells (w0.heap.size + 1) 0 (adL x1)) (w0.heap.size + 1) 57 (adL x1) := hR.setAll rfl
  replace G := gb_setCells_new (cs := adL x1) G (B := (w0.heap.size + 1)) (by omega) 0
  replace HT := HT.keep (gb_setCells (cs := adL x1) (gb_refl _ (some (w0.heap.size + 1))) 0) (HT0.noG (by omega))
  revert hP hR G HT
  generalize V1.setCells (w0.heap.size + 1) 0 (adL x1) = W2
  intro hP hR G HT
  go_wp2_with fail
  have hx1 := Hx1.out; subst hx1
  exact bodyPost_ret (v := (adF p).v) (results_cell_row Tryd.results35 _ _ (w0.heap.size + 1) 57 (adL (adF p)).toArray (0, 0) _ rfl hR Tryd.underlying57 rfl info_addend) rfl ⟨rfl, G⟩

end Go.Proofs.YtleegbaigedebaaDoor

/- edwards: sumOf. -/
namespace Go.Proofs.YtleegbaigedebaaDoor
open Go.RowKit Ed
set_option maxRecDepth 100000 in
set_option maxHeartbeats 3200000 in
theorem sumOf_any (p : Pt) (w0 : World) :
  Calls Tryd.prog 33 #[p.v] w0 fun e w' => e = .returned (sumF p).v ∧ w0.grownBy w' none := by
 show Calls Tryd.prog 33 #[.agg (ptL p).toArray] w0 _
 go_enter Tryd.func33, Tryd.ntmps33
 go_upto_region 1 with (fail)
 have G : w0.grownBy ((w0.alloc (.cells (ptL p).toArray 28)).alloc (.cells zr30.toArray 53)) none := gb_alloc (gb_alloc (gb_refl _ _) _) _
 have hP : Blk ((w0.alloc (.cells (ptL p).toArray 28)).alloc (.cells zr30.toArray 53)) (w0.heap.size) 28 (ptL p) := (Blk.new w0 (ptL p) _).alloc _
 have hR : Blk ((w0.alloc (.cells (ptL p).toArray 28)).alloc (.cells zr30.toArray 53)) (w0.heap.size + 1) 53 zr30 := Blk.newAt (w0.alloc _) zr30 _ (by simp)
 revert G hP hR
 generalize (w0.alloc (.cells (ptL p).toArray 28)).alloc (.cells zr30.toArray 53) = W0
 intro G hP hR
 have Gs := G.size
 have Gs0 := G.size
 have l1hP := hP.lt
 have l1hR := hR.lt
 refine Fg.rT [] [.any, .any, .any, .val (p.v), .val (Value.pointer (some ⟨w0.heap.size, 15, none⟩)), .val (p.T.v), .val (Fe.oneF.v), .val ((sumF p).v)] 5 ?_ ?_
 ·refine Fg.vS rfl (by decide) (fun ac w h => ?_) ?_
  ·have e1 : _ = Value.pointer (some ⟨w0.heap.size, 0, none⟩) := h.r 1
   exact Fg.vn p.v (Fg.run_load rfl e1 ((hP.gn h.base).range 0 (ptL p) rfl) Tryd.underlying28 rfl info_point)
  refine Fg.vS rfl (by decide) (fun ac w h => ?_) ?_
  ·have e1 : _ = Value.pointer (some ⟨w0.heap.size, 0, none⟩) := h.r 1
   exact Fg.vn (Value.pointer (some ⟨w0.heap.size, 15, none⟩)) (Fg.run_fieldAddr rfl e1 (fa_point3 _ _ _))
  refine Fg.vS rfl (by decide) (fun ac w h => ?_) ?_
  ·have e4 : _ = Value.pointer (some ⟨w0.heap.size, 15, none⟩) := h.d 4
   exact Fg.vn p.T.v (Fg.run_load rfl e4 ((hP.gn h.base).range 15 (feL p.T) rfl) Tryd.underlying26 rfl info_elem)
  refine Fg.cS rfl (by decide) (fun ac w h => ?_) ?_
  ·refine ⟨wants_none rfl, 30, #[], Fg.run_call rfl rfl (by simp) (Fg.run_enter Tryd.func30 (by kernel_rfl) (by kernel_rfl)), ?_⟩
   exact (t_one).mono fun _ _ ⟨he, hg⟩ => ⟨_, he, hg, rfl⟩
  refine Fg.vS rfl (by decide) (fun ac w h => ?_) ?_
  ·have e3 : _ = p.v := h.d 3
   have e5 : _ = p.T.v := h.d 5
   have e6 : _ = Fe.oneF.v := h.d 6
   exact Fg.vn ((sumF p).v) (Fg.run_build (vs := #[(0, p.v), (1, p.T.v), (2, Fe.oneF.v)]) rfl (by simp only [List.map_toArray, List.map_cons, List.map_nil, Act.eval, e3, e5, e6]) (by kernel_rfl))
  trivial
 ·intro qa V1 g1 hsz hdf hrest hslots hpt
  obtain ⟨u3, hs3⟩ := Fg.slotv qa 3
  obtain ⟨u4, hs4⟩ := Fg.slotv qa 4
  obtain ⟨u5, hs5⟩ := Fg.slotv qa 5
  obtain ⟨u6, hs6⟩ := Fg.slotv qa 6
  obtain ⟨x1, hx1⟩ : ∃ x : Sm, x = sumF p := ⟨_, rfl⟩
  obtain rfl := Fg.frame_is (a := qa) (vs := [p.v, Value.pointer (some ⟨w0.heap.size, 0, none⟩), Value.pointer (some ⟨w0.heap.size + 1, 0, none⟩), u3, u4, u5, u6, x1.v]) hsz ⟨hrest 0 (by kernel_rfl), hrest 1 (by kernel_rfl), hrest 2 (by kernel_rfl), hs3, hs4, hs5, hs6, (show qa.tmps.getD 7 undef = x1.v by rw [hx1]; exact hslots 7 (by kernel_rfl)), trivial⟩ hdf
  clear hsz hdf hrest hslots hpt hs3 hs4 hs5 hs6
  have Hx1 := Lib.hid hx1; clear hx1
  replace hP := hP.gn g1
  replace hR := hR.gn g1
  replace G := gb_trans G g1
  clear g1
  refine Fg.wpl_skip rfl rfl (Fg.run_store (cs := smL x1) rfl rfl rfl (hR.there 0 30 (by show 0 + 30 ≤ 30; decide)) info_sum (smL_one _)) ?_
  replace hP := hP.setCells_other (C := (w0.heap.size + 1)) (cs := smL x1) 0 (by omega)
  replace hR : Blk (V1.setCells (w0.heap.size + 1) 0 (smL x1)) (w0.heap.size + 1) 53 (smL x1) := hR.setAll rfl
  replace G := gb_setCells_new (cs := smL x1) G (B := (w0.heap.size + 1)) (by omega) 0
  revert hP hR G
  generalize V1.setCells (w0.heap.size + 1) 0 (smL x1) = W2
  intro hP hR G
  go_wp2_with fail
  have hx1 := Hx1.out; subst hx1
  exact bodyPost_ret (v := (sumF p).v) (results_cell_row Tryd.results33 _ _ (w0.heap.size + 1) 53 (smL (sumF p)).toArray (0, 0) _ rfl hR Tryd.underlying53 rfl info_sum) rfl ⟨rfl, G⟩

end Go.Proofs.YtleegbaigedebaaDoor

/- edwards: double. -/
namespace Go.Proofs.YtleegbaigedebaaDoor
open Go.RowKit Ed
theorem Ed.nmul_dbl' {p : Pr} (hp : On p) (k : Nat) : Ed.add (nmul k p) (nmul k p) = nmul (2 * k) p := by rw [Nat.two_mul, nmul_add hp]
def itF : Nat → Sm → Sm
 | 0, s => s
 | k + 1, s => twiceF (itF k s)
set_option maxRecDepth 100000 in
set_option maxHeartbeats 6400000 in
theorem sdouble_det (S n : Nat) (s : Sm) (p : Pr) (w0 : World) (hn : n ≤ 100) (HT0 : ETab w0) (HN : NoG S) (hS : Blk w0 S 53 (smL s)) (hs : SmIs s p) :
  Calls Tryd.prog 37 #[.pointer (some ⟨S, 0, none⟩), .int .i64 n] w0 fun e w' => e = .returned (.tuple #[]) ∧ w0.grownBy w' (some S) ∧ ∃ s', SmIs s' (nmul (2 ^ n) p) ∧ Blk w' S 53 (smL s') ∧ s' = itF n s := by
 have hlt := hS.lt
 go_enter Tryd.func37, Tryd.ntmps37
 go_wp2
 go_loopw [4, 5, 6, 7, 8, 10] (fun v4 v5 v6 v7 v8 i wr => ∃ k : Nat, k ≤ n ∧ i = .int .i64 k ∧ w0.grownBy wr (some S) ∧ ETab wr ∧ Hid (Fg.ApartV [v4, v5, v6] wr ∧ Fg.ApartV [v7] wr ∧ Fg.ApartV [v8] wr) ∧ ∃ s', SmIs s' (nmul (2 ^ k) p) ∧ Blk wr S 53 (smL s') ∧ s' = itF k s) (fun _ _ _ _ _ i _ => n - (intOf i).toNat)
 case atStart => exact ⟨0, by omega, rfl, gb_refl _ _, HT0, Lib.hid ⟨Fg.apart_undef _ _ rfl, Fg.apart_undef _ _ rfl, Fg.apart_undef _ _ rfl⟩, s, by rw [Nat.pow_zero, nmul_one hs.on]; exact hs, hS, rfl⟩
 case round =>
  clear hS
  obtain ⟨k, hk, rfl, G, HT, HA, s', hs', hS, hd⟩ := hrel
  have HD := Lib.hid hd; clear hd
  by_cases hkn : k < n
  ·have i0 : (k : Int) < n := by omega
   have oks := hs'.ok
   have HS : NoG S := HN
   have hz : wr.heap.size ≤ wr.heap.size := Nat.le_refl _
   have hwr := G.size
   go_upto_region 2 with (fail)
   have Gs0 := G.size
   have l1hS := hS.lt
   refine Fg.wp_region_tail (ps := [4, 5, 6]) [.any, .any, .any, .any, .fresh 26 zr5 wr.heap.size, .fresh 26 zr5 wr.heap.size, .fresh 26 zr5 wr.heap.size, .any, .any, .any, .any, .any, .val (Value.pointer (some ⟨S, 0, none⟩)), .val (Value.pointer (some ⟨S, 0, none⟩)), .val (Value.pointer (some ⟨S, 0, none⟩)), .val (Value.pointer (some ⟨S, 0, none⟩)), .val (s'.X.v), .val ((Fe.sqF s'.X).v), .val (Value.pointer (some ⟨S, 0, none⟩)), .val (Value.pointer (some ⟨S, 0, none⟩)), .val (Value.pointer (some ⟨S, 0, none⟩)), .val (Value.pointer (some ⟨S, 5, none⟩)), .val (s'.Y.v), .val ((Fe.sqF s'.Y).v), .val (Value.pointer (some ⟨S, 0, none⟩)), .val (Value.pointer (some ⟨S, 0, none⟩)), .val (Value.pointer (some ⟨S, 0, none⟩)), .val (Value.pointer (some ⟨S, 10, none⟩)), .val (s'.Z.v), .val ((Fe.sqF s'.Z).v)] (fun w => World.grownBy wr w none) 21 (gb_drew (gb_refl _ _)) (by kernel_rfl) (by kernel_rfl) (by kernel_rfl) (by kernel_rfl) (by decide) (Fg.ptrs_of (l := [u4, u5, u6]) rfl (Fg.apart_drew HA.out.1)) ?_ ?_
   ·refine Fg.vS rfl (by decide) (fun ac w h => ?_) ?_
    ·have e0 : _ = Value.pointer (some ⟨S, 0, none⟩) := h.r 0
     exact Fg.vn (Value.pointer (some ⟨S, 0, none⟩)) (Fg.run_move rfl e0)
    refine Fg.vS rfl (by decide) (fun ac w h => ?_) ?_
    ·have e12 : _ = Value.pointer (some ⟨S, 0, none⟩) := h.d 12
     exact Fg.vn (Value.pointer (some ⟨S, 0, none⟩)) (Fg.run_nilCheck rfl e12)
    refine Fg.vS rfl (by decide) (fun ac w h => ?_) ?_
    ·have e13 : _ = Value.pointer (some ⟨S, 0, none⟩) := h.d 13
     exact Fg.vn (Value.pointer (some ⟨S, 0, none⟩)) (Fg.run_fieldAddr rfl e13 (fa_sum0 _ _ _))
    refine Fg.vS rfl (by decide) (fun ac w h => ?_) ?_
    ·have e14 : _ = Value.pointer (some ⟨S, 0, none⟩) := h.d 14
     exact Fg.vn (Value.pointer (some ⟨S, 0, none⟩)) (Fg.run_fieldAddr rfl e14 (fa_point0 _ _ _))
    refine Fg.vS rfl (by decide) (fun ac w h => ?_) ?_
    ·have e15 : _ = Value.pointer (some ⟨S, 0, none⟩) := h.d 15
     exact Fg.vn (s'.X.v) (Fg.run_load rfl e15 ((hS.gn h.base).range 0 (feL s'.X) rfl) Tryd.underlying26 rfl info_elem)
    refine Fg.cS rfl (by decide) (fun ac w h => ?_) ?_
    ·have e16 : _ = s'.X.v := h.d 16
     refine ⟨wants_none rfl, 28, #[s'.X.v], Fg.run_call rfl rfl (by simp only [List.map_toArray, List.map_cons, List.map_nil, Act.eval, e16]) (Fg.run_enter Tryd.func28 (by kernel_rfl) (by kernel_rfl)), ?_⟩
     exact (t_sq oks.X).mono fun _ _ ⟨he, hg⟩ => ⟨_, he, hg, rfl⟩
    refine Fg.vS rfl (by decide) (fun ac w h => ?_) ?_
    ·have e0 : _ = Value.pointer (some ⟨S, 0, none⟩) := h.r 0
     exact Fg.vn (Value.pointer (some ⟨S, 0, none⟩)) (Fg.run_move rfl e0)
    refine Fg.vS rfl (by decide) (fun ac w h => ?_) ?_
    ·have e18 : _ = Value.pointer (some ⟨S, 0, none⟩) := h.d 18
     exact Fg.vn (Value.pointer (some ⟨S, 0, none⟩)) (Fg.run_nilCheck rfl e18)
    refine Fg.vS rfl (by decide) (fun ac w h => ?_) ?_
    ·have e19 : _ = Value.pointer (some ⟨S, 0, none⟩) := h.d 19
     exact Fg.vn (Value.pointer (some ⟨S, 0, none⟩)) (Fg.run_fieldAddr rfl e19 (fa_sum0 _ _ _))
    refine Fg.vS rfl (by decide) (fun ac w h => ?_) ?_
    ·have e20 : _ = Value.pointer (some ⟨S, 0, none⟩) := h.d 20
     exact Fg.vn (Value.pointer (some ⟨S, 5, none⟩)) (Fg.run_fieldAddr rfl e20 (fa_point1 _ _ _))
    refine Fg.vS rfl (by decide) (fun ac w h => ?_) ?_
    ·have e21 : _ = Value.pointer (some ⟨S, 5, none⟩) := h.d 21
     exact Fg.vn (s'.Y.v) (Fg.run_load rfl e21 ((hS.gn h.base).range 5 (feL s'.Y) rfl) Tryd.underlying26 rfl info_elem)
    refine Fg.cS rfl (by decide) (fun ac w h => ?_) ?_
    ·have e22 : _ = s'.Y.v := h.d 22
     refine ⟨wants_none rfl, 28, #[s'.Y.v], Fg.run_call rfl rfl (by simp only [List.map_toArray, List.map_cons, List.map_nil, Act.eval, e22]) (Fg.run_enter Tryd.func28 (by kernel_rfl) (by kernel_rfl)), ?_⟩
     exact (t_sq oks.Y).mono fun _ _ ⟨he, hg⟩ => ⟨_, he, hg, rfl⟩
    refine Fg.vS rfl (by decide) (fun ac w h => ?_) ?_
    ·have e0 : _ = Value.pointer (some ⟨S, 0, none⟩) := h.r 0
     exact Fg.vn (Value.pointer (some ⟨S, 0, none⟩)) (Fg.run_move rfl e0)
    refine Fg.vS rfl (by decide) (fun ac w h => ?_) ?_
    ·have e24 : _ = Value.pointer (some ⟨S, 0, none⟩) := h.d 24
     exact Fg.vn (Value.pointer (some ⟨S, 0, none⟩)) (Fg.run_nilCheck rfl e24)
    refine Fg.vS rfl (by decide) (fun ac w h => ?_) ?_
    ·have e25 : _ = Value.pointer (some ⟨S, 0, none⟩) := h.d 25
     exact Fg.vn (Value.pointer (some ⟨S, 0, none⟩)) (Fg.run_fieldAddr rfl e25 (fa_sum0 _ _ _))
    refine Fg.vS rfl (by decide) (fun ac w h => ?_) ?_
    ·have e26 : _ = Value.pointer (some ⟨S, 0, none⟩) := h.d 26
     exact Fg.vn (Value.pointer (some ⟨S, 10, none⟩)) (Fg.run_fieldAddr rfl e26 (fa_point2 _ _ _))
    refine Fg.vS rfl (by decide) (fun ac w h => ?_) ?_
    ·have e27 : _ = Value.pointer (some ⟨S, 10, none⟩) := h.d 27
     exact Fg.vn (s'.Z.v) (Fg.run_load rfl e27 ((hS.gn h.base).range 10 (feL s'.Z) rfl) Tryd.underlying26 rfl info_elem)
    refine Fg.cS rfl (by decide) (fun ac w h => ?_) ?_
    ·have e28 : _ = s'.Z.v := h.d 28
     refine ⟨wants_none rfl, 28, #[s'.Z.v], Fg.run_call rfl rfl (by simp only [List.map_toArray, List.map_cons, List.map_nil, Act.eval, e28]) (Fg.run_enter Tryd.func28 (by kernel_rfl) (by kernel_rfl)), ?_⟩
     exact (t_sq oks.Z).mono fun _ _ ⟨he, hg⟩ => ⟨_, he, hg, rfl⟩
    refine ⟨⟨⟨_, rfl⟩, Fg.allocP (fun _ _ h k => gb_trans h k) rfl (by show 4 < 59; decide) fun ac w h => ?_⟩, ?_⟩
    ·refine ⟨wants_none rfl, w.alloc (.cells zr5.toArray 26), ?_, World.grownBy_alloc _ _ _, by simp, ⟨w.heap.size, rfl, h.base.size, Blk.new w zr5 _⟩⟩
     clear h
     go_simp
    refine ⟨⟨⟨_, rfl⟩, Fg.allocP (fun _ _ h k => gb_trans h k) rfl (by show 5 < 59; decide) fun ac w h => ?_⟩, ?_⟩
    ·refine ⟨wants_none rfl, w.alloc (.cells zr5.toArray 26), ?_, World.grownBy_alloc _ _ _, by simp, ⟨w.heap.size, rfl, h.base.size, Blk.new w zr5 _⟩⟩
     clear h
     go_simp
    refine ⟨⟨⟨_, rfl⟩, Fg.allocP (fun _ _ h k => gb_trans h k) rfl (by show 6 < 59; decide) fun ac w h => ?_⟩, ?_⟩
    ·refine ⟨wants_none rfl, w.alloc (.cells zr5.toArray 26), ?_, World.grownBy_alloc _ _ _, by simp, ⟨w.heap.size, rfl, h.base.size, Blk.new w zr5 _⟩⟩
     clear h
     go_simp
    trivial
   ·intro qa V1 g1 hsz hdf hrest hslots hpt
    obtain ⟨N4, hs4, hn4, hb4⟩ : ∃ N, qa.tmps.getD 4 undef = .pointer (some ⟨N, 0, none⟩) ∧ wr.heap.size ≤ N ∧ Blk V1 N 26 zr5 := hslots 4 (by kernel_rfl)
    obtain ⟨N5, hs5, hn5, hb5⟩ : ∃ N, qa.tmps.getD 5 undef = .pointer (some ⟨N, 0, none⟩) ∧ wr.heap.size ≤ N ∧ Blk V1 N 26 zr5 := hslots 5 (by kernel_rfl)
    obtain ⟨N6, hs6, hn6, hb6⟩ : ∃ N, qa.tmps.getD 6 undef = .pointer (some ⟨N, 0, none⟩) ∧ wr.heap.size ≤ N ∧ Blk V1 N 26 zr5 := hslots 6 (by kernel_rfl)
    obtain ⟨u12, hs12⟩ := Fg.slotv qa 12
    obtain ⟨u13, hs13⟩ := Fg.slotv qa 13
    obtain ⟨u14, hs14⟩ := Fg.slotv qa 14
    obtain ⟨u15, hs15⟩ := Fg.slotv qa 15
    obtain ⟨u16, hs16⟩ := Fg.slotv qa 16
    obtain ⟨x1, hx1⟩ : ∃ x : Fe, x = Fe.sqF s'.X := ⟨_, rfl⟩
    obtain ⟨u18, hs18⟩ := Fg.slotv qa 18
    obtain ⟨u19, hs19⟩ := Fg.slotv qa 19
    obtain ⟨u20, hs20⟩ := Fg.slotv qa 20
    obtain ⟨u21, hs21⟩ := Fg.slotv qa 21
    obtain ⟨u22, hs22⟩ := Fg.slotv qa 22
    obtain ⟨x2, hx2⟩ : ∃ x : Fe, x = Fe.sqF s'.Y := ⟨_, rfl⟩
    obtain ⟨u24, hs24⟩ := Fg.slotv qa 24
    obtain ⟨u25, hs25⟩ := Fg.slotv qa 25
    obtain ⟨u26, hs26⟩ := Fg.slotv qa 26
    obtain ⟨u27, hs27⟩ := Fg.slotv qa 27
    obtain ⟨u28, hs28⟩ := Fg.slotv qa 28
    obtain ⟨x3, hx3⟩ : ∃ x : Fe, x = Fe.sqF s'.Z := ⟨_, rfl⟩
    have n4_5 : N4 ≠ N5 := fun e => (hpt 4 (by simp) N4 hs4).2 5 (by simp) (by decide) (by rw [hs5, e])
    have n4_6 : N4 ≠ N6 := fun e => (hpt 4 (by simp) N4 hs4).2 6 (by simp) (by decide) (by rw [hs6, e])
    have n5_6 : N5 ≠ N6 := fun e => (hpt 5 (by simp) N5 hs5).2 6 (by simp) (by decide) (by rw [hs6, e])
    obtain rfl := Fg.frame_by [4, 5, 6, 12, 13, 14, 15, 16, 17, 18, 19, 20, 21, 22, 23, 24, 25, 26, 27, 28, 29] (vs := [Value.pointer (some ⟨S, 0, none⟩), Value.int .i64 (n : Int), undef, undef, Value.pointer (some ⟨N4, 0, none⟩), Value.pointer (some ⟨N5, 0, none⟩), Value.pointer (some ⟨N6, 0, none⟩), u7, u8, Value.int .i64 (n : Int), Value.int .i64 (k : Int), Value.bool true, u12, u13, u14, u15, u16, x1.v, u18, u19, u20, u21, u22, x2.v, u24, u25, u26, u27, u28, x3.v, u30, u31, u32, u33, u34, u35, u36, u37, u38, u39, u40, u41, u42, u43, u44, u45, u46, u47, u48, u49, u50, u51, u52, u53, u54, u55, u56, u57, u58]) hsz hrest (by kernel_rfl) rfl rfl ⟨hs4, hs5, hs6, hs12, hs13, hs14, hs15, hs16, (show qa.tmps.getD 17 undef = x1.v by rw [hx1]; exact hslots 17 (by kernel_rfl)), hs18, hs19, hs20, hs21, hs22, (show qa.tmps.getD 23 undef = x2.v by rw [hx2]; exact hslots 23 (by kernel_rfl)), hs24, hs25, hs26, hs27, hs28, (show qa.tmps.getD 29 undef = x3.v by rw [hx3]; exact hslots 29 (by kernel_rfl)), trivial⟩ hdf
    clear hsz hdf hrest hslots hpt hs4 hs5 hs6 hs12 hs13 hs14 hs15 hs16 hs18 hs19 hs20 hs21 hs22 hs24 hs25 hs26 hs27 hs28
    have Hx1 := Lib.hid hx1; clear hx1
    have Hx2 := Lib.hid hx2; clear hx2
    have Hx3 := Lib.hid hx3; clear hx3
    replace hS := hS.gn g1
    replace G := gb_trans G (gb_row g1 _)
    replace HT := HT.grown g1
    replace hz := Nat.le_trans hz g1.size
    have okx1 : x1.Ok := by rw [Hx1.out]; exact (Fe.sq_right _).ok
    have okx2 : x2.Ok := by rw [Hx2.out]; exact (Fe.sq_right _).ok
    have okx3 : x3.Ok := by rw [Hx3.out]; exact (Fe.sq_right _).ok
    have hw4 : w0.heap.size ≤ N4 := Nat.le_trans Gs0 hn4
    have hw5 : w0.heap.size ≤ N5 := Nat.le_trans Gs0 hn5
    have hw6 : w0.heap.size ≤ N6 := Nat.le_trans Gs0 hn6
    clear g1
    refine Fg.wpl_skip rfl rfl (Fg.run_store (cs := feL x1) rfl rfl rfl (hb4.there 0 5 (by show 0 + 5 ≤ 5; decide)) info_elem (feL_one _)) ?_
    replace hS := hS.setCells_other (C := N4) (cs := feL x1) 0 (by omega)
    replace hb4 : Blk (V1.setCells N4 0 (feL x1)) N4 26 (feL x1) := hb4.setAll rfl
    replace hb5 := hb5.setCells_other (C := N4) (cs := feL x1) 0 (by omega)
    replace hb6 := hb6.setCells_other (C := N4) (cs := feL x1) 0 (by omega)
    replace hz := Nat.le_trans hz (gb_setCells (cs := feL x1) (gb_refl V1 (some N4)) 0).size
    replace G := gb_setCells_new (cs := feL x1) G (B := N4) (hw4) 0
    replace HT := HT.keep (gb_setCells (cs := feL x1) (gb_refl _ (some N4)) 0) (HT0.noG (hw4))
    revert hS hb4 hb5 hb6 hz G HT
    generalize V1.setCells N4 0 (feL x1) = W2
    intro hS hb4 hb5 hb6 hz G HT
    refine Fg.wpl_skip rfl rfl (Fg.run_store (cs := feL x2) rfl rfl rfl (hb5.there 0 5 (by show 0 + 5 ≤ 5; decide)) info_elem (feL_one _)) ?_
    replace hS := hS.setCells_other (C := N5) (cs := feL x2) 0 (by omega)
    replace hb4 := hb4.setCells_other (C := N5) (cs := feL x2) 0 (by omega)
    replace hb5 : Blk (W2.setCells N5 0 (feL x2)) N5 26 (feL x2) := hb5.setAll rfl
    replace hb6 := hb6.setCells_other (C := N5) (cs := feL x2) 0 (by omega)
    replace hz := Nat.le_trans hz (gb_setCells (cs := feL x2) (gb_refl W2 (some N5)) 0).size
    replace G := gb_setCells_new (cs := feL x2) G (B := N5) (hw5) 0
    replace HT := HT.keep (gb_setCells (cs := feL x2) (gb_refl _ (some N5)) 0) (HT0.noG (hw5))
    revert hS hb4 hb5 hb6 hz G HT
    generalize W2.setCells N5 0 (feL x2) = W3
    intro hS hb4 hb5 hb6 hz G HT
    refine Fg.wpl_skip rfl rfl (Fg.run_store (cs := feL x3) rfl rfl rfl (hb6.there 0 5 (by show 0 + 5 ≤ 5; decide)) info_elem (feL_one _)) ?_
    replace hS := hS.setCells_other (C := N6) (cs := feL x3) 0 (by omega)
    replace hb4 := hb4.setCells_other (C := N6) (cs := feL x3) 0 (by omega)
    replace hb5 := hb5.setCells_other (C := N6) (cs := feL x3) 0 (by omega)
    replace hb6 : Blk (W3.setCells N6 0 (feL x3)) N6 26 (feL x3) := hb6.setAll rfl
    replace hz := Nat.le_trans hz (gb_setCells (cs := feL x3) (gb_refl W3 (some N6)) 0).size
    replace G := gb_setCells_new (cs := feL x3) G (B := N6) (hw6) 0
    replace HT := HT.keep (gb_setCells (cs := feL x3) (gb_refl _ (some N6)) 0) (HT0.noG (hw6))
    revert hS hb4 hb5 hb6 hz G HT
    generalize W3.setCells N6 0 (feL x3) = W4
    intro hS hb4 hb5 hb6 hz G HT
    go_upto_region 3 with (fail)
    have Gs4 := G.size
    have l2hS := hS.lt
    have l2hb4 := hb4.lt
    have l2hb5 := hb5.lt
    have l2hb6 := hb6.lt
    refine Fg.wp_region_tail (ps := [7]) [.any, .any, .any, .any, .any, .any, .any, .fresh 26 zr5 W4.heap.size, .any, .any, .any, .any, .any, .any, .any, .any, .any, .any, .any, .any, .any, .any, .any, .any, .any, .any, .any, .any, .any, .any, .val (Value.pointer (some ⟨S, 0, none⟩)), .val (Value.pointer (some ⟨S, 0, none⟩)), .val (Value.pointer (some ⟨S, 0, none⟩)), .val (Value.pointer (some ⟨S, 0, none⟩)), .val (s'.X.v), .val (Value.pointer (some ⟨S, 0, none⟩)), .val (Value.pointer (some ⟨S, 0, none⟩)), .val (Value.pointer (some ⟨S, 0, none⟩)), .val (Value.pointer (some ⟨S, 5, none⟩)), .val (s'.Y.v), .val ((Fe.mulF s'.X s'.Y).v)] (fun w => World.grownBy W4 w none) 12 (gb_drew (gb_refl _ _)) (by kernel_rfl) (by kernel_rfl) (by kernel_rfl) (by kernel_rfl) (by decide) (Fg.ptrs_of (l := [u7]) rfl (Fg.apart_drew (HA.out.2.1.mono hz))) ?_ ?_
    ·refine Fg.vS rfl (by decide) (fun ac w h => ?_) ?_
     ·have e0 : _ = Value.pointer (some ⟨S, 0, none⟩) := h.r 0
      exact Fg.vn (Value.pointer (some ⟨S, 0, none⟩)) (Fg.run_move rfl e0)
     refine Fg.vS rfl (by decide) (fun ac w h => ?_) ?_
     ·have e30 : _ = Value.pointer (some ⟨S, 0, none⟩) := h.d 30
      exact Fg.vn (Value.pointer (some ⟨S, 0, none⟩)) (Fg.run_nilCheck rfl e30)
     refine Fg.vS rfl (by decide) (fun ac w h => ?_) ?_
     ·have e31 : _ = Value.pointer (some ⟨S, 0, none⟩) := h.d 31
      exact Fg.vn (Value.pointer (some ⟨S, 0, none⟩)) (Fg.run_fieldAddr rfl e31 (fa_sum0 _ _ _))
     refine Fg.vS rfl (by decide) (fun ac w h => ?_) ?_
     ·have e32 : _ = Value.pointer (some ⟨S, 0, none⟩) := h.d 32
      exact Fg.vn (Value.pointer (some ⟨S, 0, none⟩)) (Fg.run_fieldAddr rfl e32 (fa_point0 _ _ _))
     refine Fg.vS rfl (by decide) (fun ac w h => ?_) ?_
     ·have e33 : _ = Value.pointer (some ⟨S, 0, none⟩) := h.d 33
      exact Fg.vn (s'.X.v) (Fg.run_load rfl e33 ((hS.gn h.base).range 0 (feL s'.X) rfl) Tryd.underlying26 rfl info_elem)
     refine Fg.vS rfl (by decide) (fun ac w h => ?_) ?_
     ·have e0 : _ = Value.pointer (some ⟨S, 0, none⟩) := h.r 0
      exact Fg.vn (Value.pointer (some ⟨S, 0, none⟩)) (Fg.run_move rfl e0)
     refine Fg.vS rfl (by decide) (fun ac w h => ?_) ?_
     ·have e35 : _ = Value.pointer (some ⟨S, 0, none⟩) := h.d 35
      exact Fg.vn (Value.pointer (some ⟨S, 0, none⟩)) (Fg.run_nilCheck rfl e35)
     refine Fg.vS rfl (by decide) (fun ac w h => ?_) ?_
     ·have e36 : _ = Value.pointer (some ⟨S, 0, none⟩) := h.d 36
      exact Fg.vn (Value.pointer (some ⟨S, 0, none⟩)) (Fg.run_fieldAddr rfl e36 (fa_sum0 _ _ _))
     refine Fg.vS rfl (by decide) (fun ac w h => ?_) ?_
     ·have e37 : _ = Value.pointer (some ⟨S, 0, none⟩) := h.d 37
      exact Fg.vn (Value.pointer (some ⟨S, 5, none⟩)) (Fg.run_fieldAddr rfl e37 (fa_point1 _ _ _))
     refine Fg.vS rfl (by decide) (fun ac w h => ?_) ?_
     ·have e38 : _ = Value.pointer (some ⟨S, 5, none⟩) := h.d 38
      exact Fg.vn (s'.Y.v) (Fg.run_load rfl e38 ((hS.gn h.base).range 5 (feL s'.Y) rfl) Tryd.underlying26 rfl info_elem)
     refine Fg.cS rfl (by decide) (fun ac w h => ?_) ?_
     ·have e34 : _ = s'.X.v := h.d 34
      have e39 : _ = s'.Y.v := h.d 39
      refine ⟨wants_none rfl, 25, #[s'.X.v, s'.Y.v], Fg.run_call rfl rfl (by simp only [List.map_toArray, List.map_cons, List.map_nil, Act.eval, e34, e39]) (Fg.run_enter Tryd.func25 (by kernel_rfl) (by kernel_rfl)), ?_⟩
      exact (t_mul oks.X oks.Y).mono fun _ _ ⟨he, hg⟩ => ⟨_, he, hg, rfl⟩
     refine ⟨⟨⟨_, rfl⟩, Fg.allocP (fun _ _ h k => gb_trans h k) rfl (by show 7 < 59; decide) fun ac w h => ?_⟩, ?_⟩
     ·refine ⟨wants_none rfl, w.alloc (.cells zr5.toArray 26), ?_, World.grownBy_alloc _ _ _, by simp, ⟨w.heap.size, rfl, h.base.size, Blk.new w zr5 _⟩⟩
      clear h
      go_simp
     trivial
    ·intro qa V5 g5 hsz hdf hrest hslots hpt
     obtain ⟨N7, hs7, hn7, hb7⟩ : ∃ N, qa.tmps.getD 7 undef = .pointer (some ⟨N, 0, none⟩) ∧ W4.heap.size ≤ N ∧ Blk V5 N 26 zr5 := hslots 7 (by kernel_rfl)
     obtain ⟨u30, hs30⟩ := Fg.slotv qa 30
     obtain ⟨u31, hs31⟩ := Fg.slotv qa 31
     obtain ⟨u32, hs32⟩ := Fg.slotv qa 32
     obtain ⟨u33, hs33⟩ := Fg.slotv qa 33
     obtain ⟨u34, hs34⟩ := Fg.slotv qa 34
     obtain ⟨u35, hs35⟩ := Fg.slotv qa 35
     obtain ⟨u36, hs36⟩ := Fg.slotv qa 36
     obtain ⟨u37, hs37⟩ := Fg.slotv qa 37
     obtain ⟨u38, hs38⟩ := Fg.slotv qa 38
     obtain ⟨u39, hs39⟩ := Fg.slotv qa 39
     obtain ⟨x4, hx4⟩ : ∃ x : Fe, x = Fe.mulF s'.X s'.Y := ⟨_, rfl⟩
     obtain rfl := Fg.frame_by [7, 30, 31, 32, 33, 34, 35, 36, 37, 38, 39, 40] (vs := [Value.pointer (some ⟨S, 0, none⟩), Value.int .i64 (n : Int), undef, undef, Value.pointer (some ⟨N4, 0, none⟩), Value.pointer (some ⟨N5, 0, none⟩), Value.pointer (some ⟨N6, 0, none⟩), Value.pointer (some ⟨N7, 0, none⟩), u8, Value.int .i64 (n : Int), Value.int .i64 (k : Int), Value.bool true, u12, u13, u14, u15, u16, x1.v, u18, u19, u20, u21, u22, x2.v, u24, u25, u26, u27, u28, x3.v, u30, u31, u32, u33, u34, u35, u36, u37, u38, u39, x4.v, u41, u42, u43, u44, u45, u46, u47, u48, u49, u50, u51, u52, u53, u54, u55, u56, u57, u58]) hsz hrest (by kernel_rfl) rfl rfl ⟨hs7, hs30, hs31, hs32, hs33, hs34, hs35, hs36, hs37, hs38, hs39, (show qa.tmps.getD 40 undef = x4.v by rw [hx4]; exact hslots 40 (by kernel_rfl)), trivial⟩ hdf
     clear hsz hdf hrest hslots hpt hs7 hs30 hs31 hs32 hs33 hs34 hs35 hs36 hs37 hs38 hs39
     have Hx4 := Lib.hid hx4; clear hx4
     replace hS := hS.gn g5
     replace hb4 := hb4.gn g5
     replace hb5 := hb5.gn g5
     replace hb6 := hb6.gn g5
     replace G := gb_trans G (gb_row g5 _)
     replace HT := HT.grown g5
     replace hz := Nat.le_trans hz g5.size
     have okx4 : x4.Ok := by rw [Hx4.out]; exact (Fe.mul_right _ _).ok
     have hw7 : w0.heap.size ≤ N7 := Nat.le_trans Gs4 hn7
     clear g5
     refine Fg.wpl_skip rfl rfl (Fg.run_store (cs := feL x4) rfl rfl rfl (hb7.there 0 5 (by show 0 + 5 ≤ 5; decide)) info_elem (feL_one _)) ?_
     replace hS := hS.setCells_other (C := N7) (cs := feL x4) 0 (by omega)
     replace hb4 := hb4.setCells_other (C := N7) (cs := feL x4) 0 (by omega)
     replace hb5 := hb5.setCells_other (C := N7) (cs := feL x4) 0 (by omega)
     replace hb6 := hb6.setCells_other (C := N7) (cs := feL x4) 0 (by omega)
     replace hb7 : Blk (V5.setCells N7 0 (feL x4)) N7 26 (feL x4) := hb7.setAll rfl
     replace hz := Nat.le_trans hz (gb_setCells (cs := feL x4) (gb_refl V5 (some N7)) 0).size
     replace G := gb_setCells_new (cs := feL x4) G (B := N7) (hw7) 0
     replace HT := HT.keep (gb_setCells (cs := feL x4) (gb_refl _ (some N7)) 0) (HT0.noG (hw7))
     revert hS hb4 hb5 hb6 hb7 hz G HT
     generalize V5.setCells N7 0 (feL x4) = W6
     intro hS hb4 hb5 hb6 hb7 hz G HT
     go_upto_region 4 with (fail)
     have Gs6 := G.size
     have l3hS := hS.lt
     have l3hb4 := hb4.lt
     have l3hb5 := hb5.lt
     have l3hb6 := hb6.lt
     have l3hb7 := hb7.lt
     refine Fg.wp_region_plain (ps := [8]) [.any, .any, .any, .any, .any, .any, .any, .any, .fresh 26 zr5 W6.heap.size, .any, .any, .any, .any, .any, .any, .any, .any, .any, .any, .any, .any, .any, .any, .any, .any, .any, .any, .any, .any, .any, .any, .any, .any, .any, .any, .any, .any, .any, .any, .any, .any, .val (x2.v), .val (x1.v), .val ((Fe.subF x2 x1).v)] (fun w => World.grownBy W6 w none) 4 (gb_refl _ _) (by kernel_rfl) (by kernel_rfl) (by decide) (Fg.ptrs_of (l := [u8]) rfl (HA.out.2.2.mono hz)) ?_ ?_
     ·refine Fg.vS rfl (by decide) (fun ac w h => ?_) ?_
      ·have e5 : _ = Value.pointer (some ⟨N5, 0, none⟩) := h.r 5
       exact Fg.vn x2.v (Fg.run_load rfl e5 ((hb5.gn h.base).range 0 (feL x2) rfl) Tryd.underlying26 rfl info_elem)
      refine Fg.vS rfl (by decide) (fun ac w h => ?_) ?_
      ·have e4 : _ = Value.pointer (some ⟨N4, 0, none⟩) := h.r 4
       exact Fg.vn x1.v (Fg.run_load rfl e4 ((hb4.gn h.base).range 0 (feL x1) rfl) Tryd.underlying26 rfl info_elem)
      refine Fg.cS rfl (by decide) (fun ac w h => ?_) ?_
      ·have e41 : _ = x2.v := h.d 41
       have e42 : _ = x1.v := h.d 42
       refine ⟨wants_none rfl, 29, #[x2.v, x1.v], Fg.run_call rfl rfl (by simp only [List.map_toArray, List.map_cons, List.map_nil, Act.eval, e41, e42]) (Fg.run_enter Tryd.func29 (by kernel_rfl) (by kernel_rfl)), ?_⟩
       exact (t_sub (HT.f.grown h.base) okx2 okx1).mono fun _ _ ⟨he, hg⟩ => ⟨_, he, hg, rfl⟩
      refine ⟨⟨⟨_, rfl⟩, Fg.allocP (fun _ _ h k => gb_trans h k) rfl (by show 8 < 59; decide) fun ac w h => ?_⟩, ?_⟩
      ·refine ⟨wants_none rfl, w.alloc (.cells zr5.toArray 26), ?_, World.grownBy_alloc _ _ _, by simp, ⟨w.heap.size, rfl, h.base.size, Blk.new w zr5 _⟩⟩
       clear h
       go_simp
      trivial
     ·intro qa V7 g7 hsz hdf hrest hslots hpt
      obtain ⟨N8, hs8, hn8, hb8⟩ : ∃ N, qa.tmps.getD 8 undef = .pointer (some ⟨N, 0, none⟩) ∧ W6.heap.size ≤ N ∧ Blk V7 N 26 zr5 := hslots 8 (by kernel_rfl)
      obtain ⟨u41, hs41⟩ := Fg.slotv qa 41
      obtain ⟨u42, hs42⟩ := Fg.slotv qa 42
      obtain ⟨x5, hx5⟩ : ∃ x : Fe, x = Fe.subF x2 x1 := ⟨_, rfl⟩
      obtain rfl := Fg.frame_by [8, 41, 42, 43] (vs := [Value.pointer (some ⟨S, 0, none⟩), Value.int .i64 (n : Int), undef, undef, Value.pointer (some ⟨N4, 0, none⟩), Value.pointer (some ⟨N5, 0, none⟩), Value.pointer (some ⟨N6, 0, none⟩), Value.pointer (some ⟨N7, 0, none⟩), Value.pointer (some ⟨N8, 0, none⟩), Value.int .i64 (n : Int), Value.int .i64 (k : Int), Value.bool true, u12, u13, u14, u15, u16, x1.v, u18, u19, u20, u21, u22, x2.v, u24, u25, u26, u27, u28, x3.v, u30, u31, u32, u33, u34, u35, u36, u37, u38, u39, x4.v, u41, u42, x5.v, u44, u45, u46, u47, u48, u49, u50, u51, u52, u53, u54, u55, u56, u57, u58]) hsz hrest (by kernel_rfl) rfl rfl ⟨hs8, hs41, hs42, (show qa.tmps.getD 43 undef = x5.v by rw [hx5]; exact hslots 43 (by kernel_rfl)), trivial⟩ hdf
      clear hsz hdf hrest hslots hpt hs8 hs41 hs42
      have Hx5 := Lib.hid hx5; clear hx5
      replace hS := hS.gn g7
      replace hb4 := hb4.gn g7
      replace hb5 := hb5.gn g7
      replace hb6 := hb6.gn g7
      replace hb7 := hb7.gn g7
      replace G := gb_trans G (gb_row g7 _)
      replace HT := HT.grown g7
      replace hz := Nat.le_trans hz g7.size
      have okx5 : x5.Ok := by rw [Hx5.out]; exact (Fe.sub_right _ _).ok
      have hw8 : w0.heap.size ≤ N8 := Nat.le_trans Gs6 hn8
      clear g7
      refine Fg.wpl_skip rfl rfl (Fg.run_store (cs := feL x5) rfl rfl rfl (hb8.there 0 5 (by show 0 + 5 ≤ 5; decide)) info_elem (feL_one _)) ?_
      replace hS := hS.setCells_other (C := N8) (cs := feL x5) 0 (by omega)
      replace hb4 := hb4.setCells_other (C := N8) (cs := feL x5) 0 (by omega)
      replace hb5 := hb5.setCells_other (C := N8) (cs := feL x5) 0 (by omega)
      replace hb6 := hb6.setCells_other (C := N8) (cs := feL x5) 0 (by omega)
      replace hb7 := hb7.setCells_other (C := N8) (cs := feL x5) 0 (by omega)
      replace hb8 : Blk (V7.setCells N8 0 (feL x5)) N8 26 (feL x5) := hb8.setAll rfl
      replace hz := Nat.le_trans hz (gb_setCells (cs := feL x5) (gb_refl V7 (some N8)) 0).size
      replace G := gb_setCells_new (cs := feL x5) G (B := N8) (hw8) 0
      replace HT := HT.keep (gb_setCells (cs := feL x5) (gb_refl _ (some N8)) 0) (HT0.noG (hw8))
      revert hS hb4 hb5 hb6 hb7 hb8 hz G HT
      generalize V7.setCells N8 0 (feL x5) = W8
      intro hS hb4 hb5 hb6 hb7 hb8 hz G HT
      go_upto_region 5 with (fail)
      have Gs8 := G.size
      have l4hS := hS.lt
      have l4hb4 := hb4.lt
      have l4hb5 := hb5.lt
      have l4hb6 := hb6.lt
      have l4hb7 := hb7.lt
      have l4hb8 := hb8.lt
      refine Fg.rT [] [.any, .any, .any, .any, .any, .any, .any, .any, .any, .any, .any, .any, .any, .any, .any, .any, .any, .any, .any, .any, .any, .any, .any, .any, .any, .any, .any, .any, .any, .any, .any, .any, .any, .any, .any, .any, .any, .any, .any, .any, .any, .any, .any, .any, .val (Value.pointer (some ⟨S, 0, none⟩)), .val (x4.v), .val (x4.v), .val ((Fe.addF x4 x4).v), .val (x5.v), .val (x2.v), .val (x1.v), .val ((Fe.addF x2 x1).v), .val (x3.v), .val (x3.v), .val ((Fe.addF x3 x3).v), .val (x5.v), .val ((Fe.subF (Fe.addF x3 x3) x5).v)] 13 ?_ ?_
      ·refine Fg.vS rfl (by decide) (fun ac w h => ?_) ?_
       ·have e0 : _ = Value.pointer (some ⟨S, 0, none⟩) := h.r 0
        exact Fg.vn (Value.pointer (some ⟨S, 0, none⟩)) (Fg.run_move rfl e0)
       refine Fg.vS rfl (by decide) (fun ac w h => ?_) ?_
       ·have e7 : _ = Value.pointer (some ⟨N7, 0, none⟩) := h.r 7
        exact Fg.vn x4.v (Fg.run_load rfl e7 ((hb7.gn h.base).range 0 (feL x4) rfl) Tryd.underlying26 rfl info_elem)
       refine Fg.vS rfl (by decide) (fun ac w h => ?_) ?_
       ·have e7 : _ = Value.pointer (some ⟨N7, 0, none⟩) := h.r 7
        exact Fg.vn x4.v (Fg.run_load rfl e7 ((hb7.gn h.base).range 0 (feL x4) rfl) Tryd.underlying26 rfl info_elem)
       refine Fg.cS rfl (by decide) (fun ac w h => ?_) ?_
       ·have e45 : _ = x4.v := h.d 45
        have e46 : _ = x4.v := h.d 46
        refine ⟨wants_none rfl, 39, #[x4.v, x4.v], Fg.run_call rfl rfl (by simp only [List.map_toArray, List.map_cons, List.map_nil, Act.eval, e45, e46]) (Fg.run_enter Tryd.func39 (by kernel_rfl) (by kernel_rfl)), ?_⟩
        exact (t_add okx4 okx4).mono fun _ _ ⟨he, hg⟩ => ⟨_, he, hg, rfl⟩
       refine Fg.vS rfl (by decide) (fun ac w h => ?_) ?_
       ·have e8 : _ = Value.pointer (some ⟨N8, 0, none⟩) := h.r 8
        exact Fg.vn x5.v (Fg.run_load rfl e8 ((hb8.gn h.base).range 0 (feL x5) rfl) Tryd.underlying26 rfl info_elem)
       refine Fg.vS rfl (by decide) (fun ac w h => ?_) ?_
       ·have e5 : _ = Value.pointer (some ⟨N5, 0, none⟩) := h.r 5
        exact Fg.vn x2.v (Fg.run_load rfl e5 ((hb5.gn h.base).range 0 (feL x2) rfl) Tryd.underlying26 rfl info_elem)
       refine Fg.vS rfl (by decide) (fun ac w h => ?_) ?_
       ·have e4 : _ = Value.pointer (some ⟨N4, 0, none⟩) := h.r 4
        exact Fg.vn x1.v (Fg.run_load rfl e4 ((hb4.gn h.base).range 0 (feL x1) rfl) Tryd.underlying26 rfl info_elem)
       refine Fg.cS rfl (by decide) (fun ac w h => ?_) ?_
       ·have e49 : _ = x2.v := h.d 49
        have e50 : _ = x1.v := h.d 50
        refine ⟨wants_none rfl, 39, #[x2.v, x1.v], Fg.run_call rfl rfl (by simp only [List.map_toArray, List.map_cons, List.map_nil, Act.eval, e49, e50]) (Fg.run_enter Tryd.func39 (by kernel_rfl) (by kernel_rfl)), ?_⟩
        exact (t_add okx2 okx1).mono fun _ _ ⟨he, hg⟩ => ⟨_, he, hg, rfl⟩
       refine Fg.vS rfl (by decide) (fun ac w h => ?_) ?_
       ·have e6 : _ = Value.pointer (some ⟨N6, 0, none⟩) := h.r 6
        exact Fg.vn x3.v (Fg.run_load rfl e6 ((hb6.gn h.base).range 0 (feL x3) rfl) Tryd.underlying26 rfl info_elem)
       refine Fg.vS rfl (by decide) (fun ac w h => ?_) ?_
       ·have e6 : _ = Value.pointer (some ⟨N6, 0, none⟩) := h.r 6
        exact Fg.vn x3.v (Fg.run_load rfl e6 ((hb6.gn h.base).range 0 (feL x3) rfl) Tryd.underlying26 rfl info_elem)
       refine Fg.cS rfl (by decide) (fun ac w h => ?_) ?_
       ·have e52 : _ = x3.v := h.d 52
        have e53 : _ = x3.v := h.d 53
        refine ⟨wants_none rfl, 39, #[x3.v, x3.v], Fg.run_call rfl rfl (by simp only [List.map_toArray, List.map_cons, List.map_nil, Act.eval, e52, e53]) (Fg.run_enter Tryd.func39 (by kernel_rfl) (by kernel_rfl)), ?_⟩
        exact (t_add okx3 okx3).mono fun _ _ ⟨he, hg⟩ => ⟨_, he, hg, rfl⟩
       refine Fg.vS rfl (by decide) (fun ac w h => ?_) ?_
       ·have e8 : _ = Value.pointer (some ⟨N8, 0, none⟩) := h.r 8
        exact Fg.vn x5.v (Fg.run_load rfl e8 ((hb8.gn h.base).range 0 (feL x5) rfl) Tryd.underlying26 rfl info_elem)
       refine Fg.cS rfl (by decide) (fun ac w h => ?_) ?_
       ·have e54 : _ = (Fe.addF x3 x3).v := h.d 54
        have e55 : _ = x5.v := h.d 55
        refine ⟨wants_none rfl, 29, #[(Fe.addF x3 x3).v, x5.v], Fg.run_call rfl rfl (by simp only [List.map_toArray, List.map_cons, List.map_nil, Act.eval, e54, e55]) (Fg.run_enter Tryd.func29 (by kernel_rfl) (by kernel_rfl)), ?_⟩
        exact (t_sub (HT.f.grown h.base) (Fe.add_right _ _).ok okx5).mono fun _ _ ⟨he, hg⟩ => ⟨_, he, hg, rfl⟩
       trivial
      ·intro qa V9 g9 hsz hdf hrest hslots hpt
       obtain ⟨u45, hs45⟩ := Fg.slotv qa 45
       obtain ⟨u46, hs46⟩ := Fg.slotv qa 46
       obtain ⟨x6, hx6⟩ : ∃ x : Fe, x = Fe.addF x4 x4 := ⟨_, rfl⟩
       obtain ⟨u49, hs49⟩ := Fg.slotv qa 49
       obtain ⟨u50, hs50⟩ := Fg.slotv qa 50
       obtain ⟨x7, hx7⟩ : ∃ x : Fe, x = Fe.addF x2 x1 := ⟨_, rfl⟩
       obtain ⟨u52, hs52⟩ := Fg.slotv qa 52
       obtain ⟨u53, hs53⟩ := Fg.slotv qa 53
       obtain ⟨u54, hs54⟩ := Fg.slotv qa 54
       obtain ⟨u55, hs55⟩ := Fg.slotv qa 55
       obtain ⟨x8, hx8⟩ : ∃ x : Fe, x = Fe.subF (Fe.addF x3 x3) x5 := ⟨_, rfl⟩
       obtain rfl := Fg.frame_by [44, 45, 46, 47, 48, 49, 50, 51, 52, 53, 54, 55, 56] (vs := [Value.pointer (some ⟨S, 0, none⟩), Value.int .i64 (n : Int), undef, undef, Value.pointer (some ⟨N4, 0, none⟩), Value.pointer (some ⟨N5, 0, none⟩), Value.pointer (some ⟨N6, 0, none⟩), Value.pointer (some ⟨N7, 0, none⟩), Value.pointer (some ⟨N8, 0, none⟩), Value.int .i64 (n : Int), Value.int .i64 (k : Int), Value.bool true, u12, u13, u14, u15, u16, x1.v, u18, u19, u20, u21, u22, x2.v, u24, u25, u26, u27, u28, x3.v, u30, u31, u32, u33, u34, u35, u36, u37, u38, u39, x4.v, u41, u42, x5.v, Value.pointer (some ⟨S, 0, none⟩), u45, u46, x6.v, x5.v, u49, u50, x7.v, u52, u53, u54, u55, x8.v, u57, u58]) hsz hrest (by kernel_rfl) rfl rfl ⟨(show qa.tmps.getD 44 undef = Value.pointer (some ⟨S, 0, none⟩) from hslots 44 (by kernel_rfl)), hs45, hs46, (show qa.tmps.getD 47 undef = x6.v by rw [hx6]; exact hslots 47 (by kernel_rfl)), (show qa.tmps.getD 48 undef = x5.v from hslots 48 (by kernel_rfl)), hs49, hs50, (show qa.tmps.getD 51 undef = x7.v by rw [hx7]; exact hslots 51 (by kernel_rfl)), hs52, hs53, hs54, hs55, (show qa.tmps.getD 56 undef = x8.v by rw [hx8]; exact hslots 56 (by kernel_rfl)), trivial⟩ hdf
       clear hsz hdf hrest hslots hpt hs45 hs46 hs49 hs50 hs52 hs53 hs54 hs55
       have Hx6 := Lib.hid hx6; clear hx6
       have Hx7 := Lib.hid hx7; clear hx7
       have Hx8 := Lib.hid hx8; clear hx8
       replace hS := hS.gn g9
       replace hb4 := hb4.gn g9
       replace hb5 := hb5.gn g9
       replace hb6 := hb6.gn g9
       replace hb7 := hb7.gn g9
       replace hb8 := hb8.gn g9
       replace G := gb_trans G (gb_row g9 _)
       replace HT := HT.grown g9
       replace hz := Nat.le_trans hz g9.size
       have okx6 : x6.Ok := by rw [Hx6.out]; exact (Fe.add_right _ _).ok
       have okx7 : x7.Ok := by rw [Hx7.out]; exact (Fe.add_right _ _).ok
       have okx8 : x8.Ok := by rw [Hx8.out]; exact (Fe.sub_right _ _).ok
       clear g9
       have l5hS := hS.lt
       have l5hb4 := hb4.lt
       have l5hb5 := hb5.lt
       have l5hb6 := hb6.lt
       have l5hb7 := hb7.lt
       have l5hb8 := hb8.lt
       refine Fg.wpl_call rfl (Fg.run_call (vs := #[Value.pointer (some ⟨S, 0, none⟩), x6.v, x5.v, x7.v, x8.v]) rfl rfl (by simp only [List.map_toArray, List.map_cons, List.map_nil, Act.eval]; rfl) (Fg.run_enter Tryd.func56 (by kernel_rfl) (by kernel_rfl))) ?_
       refine (become_any S _ x6 x5 x7 x8 _ hS okx6 okx5 okx7 okx8).mono ?_
       rintro e w9 ⟨rfl, g9, h9⟩
       replace G := gb_trans G g9
       replace HT := HT.keep g9 HS
       have z9 := g9.size
       refine ⟨_, rfl, ?_⟩
       have HA9 := Lib.hid (And.intro (Fg.apart_three (A := N4) (B := N5) (C := N6) (w := w9) (by omega) (by omega) (by omega) (by omega) (by omega) (by omega)) (And.intro (Fg.apart_one (N := N7) (w := w9) (by omega)) (Fg.apart_one (N := N8) (w := w9) (by omega))))
       have hs9 : SmIs (bF s'.T x6 x5 x7 x8) (nmul (2 ^ (k + 1)) p) := by
        have hx8 := Hx8.out; subst hx8
        have hx7 := Hx7.out; subst hx7
        have hx6 := Hx6.out; subst hx6
        have hx5 := Hx5.out; subst hx5
        have hx4 := Hx4.out; subst hx4
        have hx3 := Hx3.out; subst hx3
        have hx2 := Hx2.out; subst hx2
        have hx1 := Hx1.out; subst hx1
        rw [Nat.pow_succ, Nat.mul_comm, ← nmul_dbl' hs.on]
        exact twiceIs hs'
       have hd9 : bF s'.T x6 x5 x7 x8 = itF (k + 1) s := by
        have hx8 := Hx8.out; subst hx8
        have hx7 := Hx7.out; subst hx7
        have hx6 := Hx6.out; subst hx6
        have hx5 := Hx5.out; subst hx5
        have hx4 := Hx4.out; subst hx4
        have hx3 := Hx3.out; subst hx3
        have hx2 := Hx2.out; subst hx2
        have hx1 := Hx1.out; subst hx1
        rw [HD.out]
        rfl
       have H9 := Lib.hid (And.intro hs9 (And.intro h9 hd9))
       clear hS hb4 hb5 hb6 hb7 hb8 hs9 h9 hd9
       clear l1hS l2hS l2hb4 l2hb5 l2hb6 l3hS l3hb4 l3hb5 l3hb6 l3hb7 l4hS l4hb4 l4hb5 l4hb6 l4hb7 l4hb8 l5hS l5hb4 l5hb5 l5hb6 l5hb7 l5hb8
       go_wp2
       go_roundw
       case rel => exact ⟨k + 1, by omega, by go_num, G, HT, HA9, _, H9.out.1, H9.out.2.1, H9.out.2.2⟩
       case measure => simp [intOf]; omega
  ·obtain rfl : k = n := by omega
   have H9 := Lib.hid (And.intro hs' (And.intro hS HD.out)); clear hs' hS HD
   go_wp2
   go_end0
   exact ⟨rfl, G, _, H9.out.1, H9.out.2.1, H9.out.2.2⟩
theorem sdouble_any (S n : Nat) (s : Sm) (p : Pr) (w0 : World) (hn : n ≤ 100) (HT0 : ETab w0) (HN : NoG S) (hS : Blk w0 S 53 (smL s)) (hs : SmIs s p) :
  Calls Tryd.prog 37 #[.pointer (some ⟨S, 0, none⟩), .int .i64 n] w0 fun e w' => e = .returned (.tuple #[]) ∧ w0.grownBy w' (some S) ∧ ∃ s', SmIs s' (nmul (2 ^ n) p) ∧ Blk w' S 53 (smL s') :=
 (sdouble_det S n s p w0 hn HT0 HN hS hs).mono fun _ _ ⟨he, hg, s', h1, h2, _⟩ => ⟨he, hg, s', h1, h2⟩

end Go.Proofs.YtleegbaigedebaaDoor

/- edwards: Zero, Base, Double, Neg. -/
namespace Go.Proofs.YtleegbaigedebaaDoor
open Go.RowKit Ed
set_option maxRecDepth 100000 in
set_option maxHeartbeats 3200000 in
theorem edZero (w0 : World) :
  Calls Tryd.prog 11 #[] w0 fun e w' => e = .returned zeroP.v ∧ w0.grownBy w' none := by
 go_enter Tryd.func11, Tryd.ntmps11
 go_upto_region 1 with (fail)
 have G : w0.grownBy (w0.alloc (.cells zr20.toArray 28)) none := gb_alloc (gb_refl _ _) _
 have hR : Blk (w0.alloc (.cells zr20.toArray 28)) (w0.heap.size) 28 zr20 := Blk.new w0 zr20 _
 revert G hR
 generalize w0.alloc (.cells zr20.toArray 28) = W0
 intro G hR
 have Gs := G.size
 have Gs0 := G.size
 have l1hR := hR.lt
 refine Fg.rP [] [.any, .val (Fe.oneF.v), .val (Fe.oneF.v), .val (zeroP.v)] 3 ?_ ?_
 ·refine Fg.cS rfl (by decide) (fun ac w h => ?_) ?_
  ·refine ⟨wants_none rfl, 30, #[], Fg.run_call rfl rfl (by simp) (Fg.run_enter Tryd.func30 (by kernel_rfl) (by kernel_rfl)), ?_⟩
   exact (t_one).mono fun _ _ ⟨he, hg⟩ => ⟨_, he, hg, rfl⟩
  refine Fg.cS rfl (by decide) (fun ac w h => ?_) ?_
  ·refine ⟨wants_none rfl, 30, #[], Fg.run_call rfl rfl (by simp) (Fg.run_enter Tryd.func30 (by kernel_rfl) (by kernel_rfl)), ?_⟩
   exact (t_one).mono fun _ _ ⟨he, hg⟩ => ⟨_, he, hg, rfl⟩
  refine Fg.vS rfl (by decide) (fun ac w h => ?_) ?_
  ·have e1 : _ = Fe.oneF.v := h.d 1
   have e2 : _ = Fe.oneF.v := h.d 2
   exact Fg.vn zeroP.v (Fg.run_build (vs := #[(1, Fe.oneF.v), (2, Fe.oneF.v)]) rfl (by simp only [List.map_toArray, List.map_cons, List.map_nil, Act.eval, e1, e2]) (by kernel_rfl))
  trivial
 ·intro qa V1 g1 hsz hdf hrest hslots hpt
  obtain ⟨u1, hs1⟩ := Fg.slotv qa 1
  obtain ⟨u2, hs2⟩ := Fg.slotv qa 2
  obtain rfl := Fg.frame_is (a := qa) (vs := [Value.pointer (some ⟨w0.heap.size, 0, none⟩), u1, u2, zeroP.v]) hsz ⟨hrest 0 (by kernel_rfl), hs1, hs2, (show qa.tmps.getD 3 undef = zeroP.v from hslots 3 (by kernel_rfl)), trivial⟩ hdf
  clear hsz hdf hrest hslots hpt hs1 hs2
  replace hR := hR.gn g1
  replace G := gb_trans G g1
  clear g1
  refine Fg.wpl_skip rfl rfl (Fg.run_store (cs := ptL zeroP) rfl rfl rfl (hR.there 0 20 (by show 0 + 20 ≤ 20; decide)) info_point (ptL_one _)) ?_
  replace hR : Blk (V1.setCells w0.heap.size 0 (ptL zeroP)) w0.heap.size 28 (ptL zeroP) := hR.setAll rfl
  replace G := gb_setCells_new (cs := ptL zeroP) G (B := w0.heap.size) (by omega) 0
  revert hR G
  generalize V1.setCells w0.heap.size 0 (ptL zeroP) = W2
  intro hR G
  go_wp2_with fail
  exact bodyPost_ret (v := zeroP.v) (results_cell_row Tryd.results11 _ _ w0.heap.size 28 (ptL zeroP).toArray (0, 0) _ rfl hR Tryd.underlying28 rfl info_point) rfl ⟨rfl, G⟩
set_option maxRecDepth 100000 in
set_option maxHeartbeats 3200000 in
theorem edBase (w0 : World) (HT0 : ETab w0) :
  Calls Tryd.prog 19 #[] w0 fun e w' => e = .returned baseT.v ∧ w0.grownBy w' none := by
 go_enter Tryd.func19, Tryd.ntmps19
 go_upto_region 1 with (fail)
 have G : w0.grownBy (w0.alloc (.cells zr20.toArray 28)) none := gb_alloc (gb_refl _ _) _
 have HT : ETab (w0.alloc (.cells zr20.toArray 28)) := HT0.grown (gb_alloc (gb_refl _ _) _)
 have hR : Blk (w0.alloc (.cells zr20.toArray 28)) (w0.heap.size) 28 zr20 := Blk.new w0 zr20 _
 revert G HT hR
 generalize w0.alloc (.cells zr20.toArray 28) = W0
 intro G HT hR
 have Gs := G.size
 have Gs0 := G.size
 have l1hR := hR.lt
 refine Fg.rP [] [.any, .val (baseT.v)] 1 ?_ ?_
 ·refine Fg.vS rfl (by decide) (fun ac w h => ?_) ?_
  ·exact Fg.vn baseT.v (Fg.run_load rfl rfl (HT.grown h.base).b Tryd.underlying28 rfl info_point)
  trivial
 ·intro qa V1 g1 hsz hdf hrest hslots hpt
  obtain rfl := Fg.frame_is (a := qa) (vs := [Value.pointer (some ⟨w0.heap.size, 0, none⟩), baseT.v]) hsz ⟨hrest 0 (by kernel_rfl), (show qa.tmps.getD 1 undef = baseT.v from hslots 1 (by kernel_rfl)), trivial⟩ hdf
  clear hsz hdf hrest hslots hpt
  replace hR := hR.gn g1
  replace G := gb_trans G g1
  replace HT := HT.grown g1
  clear g1
  refine Fg.wpl_skip rfl rfl (Fg.run_store (cs := ptL baseT) rfl rfl rfl (hR.there 0 20 (by show 0 + 20 ≤ 20; decide)) info_point (ptL_one _)) ?_
  replace hR : Blk (V1.setCells w0.heap.size 0 (ptL baseT)) w0.heap.size 28 (ptL baseT) := hR.setAll rfl
  replace G := gb_setCells_new (cs := ptL baseT) G (B := w0.heap.size) (by omega) 0
  replace HT := HT.keep (gb_setCells (cs := ptL baseT) (gb_refl _ (some w0.heap.size)) 0) (HT0.noG (by omega))
  revert hR G HT
  generalize V1.setCells w0.heap.size 0 (ptL baseT) = W2
  intro hR G HT
  go_wp2_with fail
  exact bodyPost_ret (v := baseT.v) (results_cell_row Tryd.results19 _ _ w0.heap.size 28 (ptL baseT).toArray (0, 0) _ rfl hR Tryd.underlying28 rfl info_point) rfl ⟨rfl, G⟩
def dblF (p : Pt) : Pt := pointF (twiceF (sumF p))
theorem dblIs {p : Pt} {r : Pr} (h : PtIs p r) : PtIs (dblF p) (Ed.add r r) := pointIs (twiceIs (sumIs h))
set_option maxRecDepth 100000 in
set_option maxHeartbeats 3200000 in
theorem edDbl (p : Pt) (r : Pr) (w0 : World) (HT0 : ETab w0) (hp : PtIs p r) :
  Calls Tryd.prog 12 #[p.v] w0 fun e w' => e = .returned (dblF p).v ∧ w0.grownBy w' none := by
 show Calls Tryd.prog 12 #[.agg (ptL p).toArray] w0 _
 go_enter Tryd.func12, Tryd.ntmps12
 go_upto_region 1 with (fail)
 have G : w0.grownBy ((w0.alloc (.cells (ptL p).toArray 28)).alloc (.cells zr20.toArray 28)) none := gb_alloc (gb_alloc (gb_refl _ _) _) _
 have HT : ETab ((w0.alloc (.cells (ptL p).toArray 28)).alloc (.cells zr20.toArray 28)) := HT0.grown (gb_alloc (gb_alloc (gb_refl _ _) _) _)
 have hP : Blk ((w0.alloc (.cells (ptL p).toArray 28)).alloc (.cells zr20.toArray 28)) (w0.heap.size) 28 (ptL p) := (Blk.new w0 (ptL p) _).alloc _
 have hR : Blk ((w0.alloc (.cells (ptL p).toArray 28)).alloc (.cells zr20.toArray 28)) (w0.heap.size + 1) 28 zr20 := Blk.newAt (w0.alloc _) zr20 _ (by simp)
 revert G HT hP hR
 generalize (w0.alloc (.cells (ptL p).toArray 28)).alloc (.cells zr20.toArray 28) = W0
 intro G HT hP hR
 have Gs := G.size
 have Gs0 := G.size
 have l1hP := hP.lt
 have l1hR := hR.lt
 refine Fg.rP [3] [.any, .any, .any, .fresh 53 zr30 W0.heap.size, .val (p.v), .val ((sumF p).v)] 3 ?_ ?_
 ·refine Fg.vS rfl (by decide) (fun ac w h => ?_) ?_
  ·have e1 : _ = Value.pointer (some ⟨w0.heap.size, 0, none⟩) := h.r 1
   exact Fg.vn p.v (Fg.run_load rfl e1 ((hP.gn h.base).range 0 (ptL p) rfl) Tryd.underlying28 rfl info_point)
  refine Fg.cS rfl (by decide) (fun ac w h => ?_) ?_
  ·have e4 : _ = p.v := h.d 4
   refine ⟨wants_none rfl, 33, #[p.v], Fg.run_call rfl rfl (by simp only [List.map_toArray, List.map_cons, List.map_nil, Act.eval, e4]) (Fg.run_enter Tryd.func33 (by kernel_rfl) (by kernel_rfl)), ?_⟩
   exact (sumOf_any _ _).mono fun _ _ ⟨he, hg⟩ => ⟨_, he, hg, rfl⟩
  refine ⟨⟨⟨_, rfl⟩, Fg.allocP (fun _ _ h k => gb_trans h k) rfl (by show 3 < 8; decide) fun ac w h => ?_⟩, ?_⟩
  ·refine ⟨wants_none rfl, w.alloc (.cells zr30.toArray 53), ?_, World.grownBy_alloc _ _ _, by simp, ⟨w.heap.size, rfl, h.base.size, Blk.new w zr30 _⟩⟩
   clear h
   go_simp
  trivial
 ·intro qa V1 g1 hsz hdf hrest hslots hpt
  obtain ⟨N3, hs3, hn3, hb3⟩ : ∃ N, qa.tmps.getD 3 undef = .pointer (some ⟨N, 0, none⟩) ∧ W0.heap.size ≤ N ∧ Blk V1 N 53 zr30 := hslots 3 (by kernel_rfl)
  obtain ⟨u4, hs4⟩ := Fg.slotv qa 4
  obtain ⟨x1, hx1⟩ : ∃ x : Sm, x = sumF p := ⟨_, rfl⟩
  obtain rfl := Fg.frame_by [3, 4, 5] (vs := [p.v, Value.pointer (some ⟨w0.heap.size, 0, none⟩), Value.pointer (some ⟨w0.heap.size + 1, 0, none⟩), Value.pointer (some ⟨N3, 0, none⟩), u4, x1.v, undef, undef]) hsz hrest (by kernel_rfl) rfl rfl ⟨hs3, hs4, (show qa.tmps.getD 5 undef = x1.v by rw [hx1]; exact hslots 5 (by kernel_rfl)), trivial⟩ hdf
  clear hsz hdf hrest hslots hpt hs3 hs4
  have Hx1 := Lib.hid hx1; clear hx1
  replace hP := hP.gn g1
  replace hR := hR.gn g1
  replace G := gb_trans G g1
  replace HT := HT.grown g1
  have hw3 : w0.heap.size ≤ N3 := Nat.le_trans Gs0 hn3
  clear g1
  refine Fg.wpl_skip rfl rfl (Fg.run_store (cs := smL x1) rfl rfl rfl (hb3.there 0 30 (by show 0 + 30 ≤ 30; decide)) info_sum (smL_one _)) ?_
  replace hP := hP.setCells_other (C := N3) (cs := smL x1) 0 (by omega)
  replace hR := hR.setCells_other (C := N3) (cs := smL x1) 0 (by omega)
  replace hb3 : Blk (V1.setCells N3 0 (smL x1)) N3 53 (smL x1) := hb3.setAll rfl
  replace G := gb_setCells_new (cs := smL x1) G (B := N3) (hw3) 0
  replace HT := HT.keep (gb_setCells (cs := smL x1) (gb_refl _ (some N3)) 0) (HT0.noG (hw3))
  revert hP hR hb3 G HT
  generalize V1.setCells N3 0 (smL x1) = W2
  intro hP hR hb3 G HT
  go_upto_region 2 with (fail)
  have Gs2 := G.size
  have l2hP := hP.lt
  have l2hR := hR.lt
  have l2hb3 := hb3.lt
  refine Fg.rP [] [] 0 ?_ ?_
  ·trivial
  ·intro qa V3 g3 hsz hdf hrest hslots hpt
   obtain rfl := Fg.frame_by [] (vs := [p.v, Value.pointer (some ⟨w0.heap.size, 0, none⟩), Value.pointer (some ⟨w0.heap.size + 1, 0, none⟩), Value.pointer (some ⟨N3, 0, none⟩), u4, x1.v, undef, undef]) hsz hrest (by kernel_rfl) rfl rfl trivial hdf
   clear hsz hdf hrest hslots hpt
   replace hP := hP.gn g3
   replace hR := hR.gn g3
   replace hb3 := hb3.gn g3
   replace G := gb_trans G g3
   replace HT := HT.grown g3
   clear g3
   have l3hP := hP.lt
   have l3hR := hR.lt
   have l3hb3 := hb3.lt
   refine Fg.wpl_call rfl (Fg.run_call (vs := #[Value.pointer (some ⟨N3, 0, none⟩), Value.int IntKind.i64 1]) rfl rfl (by simp only [List.map_toArray, List.map_cons, List.map_nil, Act.eval]; rfl) (Fg.run_enter Tryd.func37 (by kernel_rfl) (by kernel_rfl))) ?_
   refine (sdouble_det N3 1 x1 r _ (by decide) HT (HT0.noG hw3) hb3 (by rw [Hx1.out]; exact sumIs hp)).mono ?_
   rintro e C2 ⟨rfl, gc, s9, hs9, hc, hd9⟩
   refine ⟨_, rfl, ?_⟩
   replace hP := hP.grown gc (some_ne (by omega))
   replace hR := hR.grown gc (some_ne (by omega))
   replace hb3 := hc
   replace G := gb_then G gc (hw3)
   replace HT := HT.keep gc (HT0.noG (hw3))
   clear gc
   have Hd9 := Lib.hid hd9; clear hd9
   go_upto_region 3 with (fail)
   have Gs3 := G.size
   have l4hP := hP.lt
   have l4hR := hR.lt
   have l4hb3 := hb3.lt
   refine Fg.rP [] [] 0 ?_ ?_
   ·trivial
   ·intro qa V4 g4 hsz hdf hrest hslots hpt
    obtain rfl := Fg.frame_by [] (vs := [p.v, Value.pointer (some ⟨w0.heap.size, 0, none⟩), Value.pointer (some ⟨w0.heap.size + 1, 0, none⟩), Value.pointer (some ⟨N3, 0, none⟩), u4, x1.v, undef, undef]) hsz hrest (by kernel_rfl) rfl rfl trivial hdf
    clear hsz hdf hrest hslots hpt
    replace hP := hP.gn g4
    replace hR := hR.gn g4
    replace hb3 := hb3.gn g4
    replace G := gb_trans G g4
    replace HT := HT.grown g4
    clear g4
    have l5hP := hP.lt
    have l5hR := hR.lt
    have l5hb3 := hb3.lt
    refine Fg.wpl_call rfl (Fg.run_call (vs := #[Value.pointer (some ⟨N3, 0, none⟩)]) rfl rfl (by simp only [List.map_toArray, List.map_cons, List.map_nil, Act.eval]; rfl) (Fg.run_enter Tryd.func36 (by kernel_rfl) (by kernel_rfl))) ?_
    refine (point_any N3 s9 _ hb3 hs9.ok).mono ?_
    rintro e C3 ⟨rfl, gc, hc⟩
    refine ⟨_, rfl, ?_⟩
    replace hP := hP.grown gc (some_ne (by omega))
    replace hR := hR.grown gc (some_ne (by omega))
    replace hb3 := hc
    replace G := gb_then G gc (hw3)
    replace HT := HT.keep gc (HT0.noG (hw3))
    clear gc
    obtain ⟨t9, ht9⟩ : ∃ t, t = pointF s9 := ⟨_, rfl⟩
    rw [← ht9]
    have Ht9 := Lib.hid ht9; clear ht9
    refine Fg.wpl_skip rfl rfl (Fg.run_store (cs := ptL t9) rfl rfl rfl (hR.there 0 20 (by show 0 + 20 ≤ 20; decide)) info_point (ptL_one _)) ?_
    replace hP := hP.setCells_other (C := (w0.heap.size + 1)) (cs := ptL t9) 0 (by omega)
    replace hR : Blk (C3.setCells (w0.heap.size + 1) 0 (ptL t9)) (w0.heap.size + 1) 28 (ptL t9) := hR.setAll rfl
    replace hb3 := hb3.setCells_other (C := (w0.heap.size + 1)) (cs := ptL t9) 0 (by omega)
    replace G := gb_setCells_new (cs := ptL t9) G (B := (w0.heap.size + 1)) (by omega) 0
    replace HT := HT.keep (gb_setCells (cs := ptL t9) (gb_refl _ (some (w0.heap.size + 1))) 0) (HT0.noG (by omega))
    revert hP hR hb3 G HT
    generalize C3.setCells (w0.heap.size + 1) 0 (ptL t9) = W5
    intro hP hR hb3 G HT
    go_wp2_with fail
    exact bodyPost_ret (v := t9.v) (results_cell_row Tryd.results12 _ _ (w0.heap.size + 1) 28 (ptL t9).toArray (0, 0) _ rfl hR Tryd.underlying28 rfl info_point) rfl ⟨by rw [Ht9.out, Hd9.out, Hx1.out]; rfl, G⟩
theorem edDouble (p : Pt) (r : Pr) (w0 : World) (HT0 : ETab w0) (hp : PtIs p r) :
  Calls Tryd.prog 12 #[p.v] w0 fun e w' => PtOut (Ed.add r r) w0 e w' :=
 (edDbl p r w0 HT0 hp).mono fun _ _ ⟨he, hg⟩ => ⟨dblF p, dblIs hp, he, hg⟩
set_option maxRecDepth 100000 in
set_option maxHeartbeats 3200000 in
theorem edNeg (p : Pt) (r : Pr) (w0 : World) (HT0 : ETab w0) (hp : PtIs p r) :
  Calls Tryd.prog 10 #[p.v] w0 fun e w' => PtOut (Ed.neg r) w0 e w' := by
 have okp := hp.ok
 show Calls Tryd.prog 10 #[.agg (ptL p).toArray] w0 _
 go_enter Tryd.func10, Tryd.ntmps10
 go_upto_region 1 with (fail)
 have G : w0.grownBy ((w0.alloc (.cells (ptL p).toArray 28)).alloc (.cells zr20.toArray 28)) none := gb_alloc (gb_alloc (gb_refl _ _) _) _
 have HT : ETab ((w0.alloc (.cells (ptL p).toArray 28)).alloc (.cells zr20.toArray 28)) := HT0.grown (gb_alloc (gb_alloc (gb_refl _ _) _) _)
 have hP : Blk ((w0.alloc (.cells (ptL p).toArray 28)).alloc (.cells zr20.toArray 28)) (w0.heap.size) 28 (ptL p) := (Blk.new w0 (ptL p) _).alloc _
 have hR : Blk ((w0.alloc (.cells (ptL p).toArray 28)).alloc (.cells zr20.toArray 28)) (w0.heap.size + 1) 28 zr20 := Blk.newAt (w0.alloc _) zr20 _ (by simp)
 revert G HT hP hR
 generalize (w0.alloc (.cells (ptL p).toArray 28)).alloc (.cells zr20.toArray 28) = W0
 intro G HT hP hR
 have Gs := G.size
 have Gs0 := G.size
 have l1hP := hP.lt
 have l1hR := hR.lt
 refine Fg.rT [] [.any, .any, .any, .val (Value.pointer (some ⟨w0.heap.size, 0, none⟩)), .val (p.X.v), .val ((Fe.negF p.X).v), .val (Value.pointer (some ⟨w0.heap.size, 15, none⟩)), .val (p.T.v), .val ((Fe.negF p.T).v), .val (Value.pointer (some ⟨w0.heap.size, 0, none⟩))] 7 ?_ ?_
 ·refine Fg.vS rfl (by decide) (fun ac w h => ?_) ?_
  ·have e1 : _ = Value.pointer (some ⟨w0.heap.size, 0, none⟩) := h.r 1
   exact Fg.vn (Value.pointer (some ⟨w0.heap.size, 0, none⟩)) (Fg.run_fieldAddr rfl e1 (fa_point0 _ _ _))
  refine Fg.vS rfl (by decide) (fun ac w h => ?_) ?_
  ·have e3 : _ = Value.pointer (some ⟨w0.heap.size, 0, none⟩) := h.d 3
   exact Fg.vn p.X.v (Fg.run_load rfl e3 ((hP.gn h.base).range 0 (feL p.X) rfl) Tryd.underlying26 rfl info_elem)
  refine Fg.cS rfl (by decide) (fun ac w h => ?_) ?_
  ·have e4 : _ = p.X.v := h.d 4
   refine ⟨wants_none rfl, 31, #[p.X.v], Fg.run_call rfl rfl (by simp only [List.map_toArray, List.map_cons, List.map_nil, Act.eval, e4]) (Fg.run_enter Tryd.func31 (by kernel_rfl) (by kernel_rfl)), ?_⟩
   exact (t_neg (HT.f.grown h.base) okp.X).mono fun _ _ ⟨he, hg⟩ => ⟨_, he, hg, rfl⟩
  refine Fg.vS rfl (by decide) (fun ac w h => ?_) ?_
  ·have e1 : _ = Value.pointer (some ⟨w0.heap.size, 0, none⟩) := h.r 1
   exact Fg.vn (Value.pointer (some ⟨w0.heap.size, 15, none⟩)) (Fg.run_fieldAddr rfl e1 (fa_point3 _ _ _))
  refine Fg.vS rfl (by decide) (fun ac w h => ?_) ?_
  ·have e6 : _ = Value.pointer (some ⟨w0.heap.size, 15, none⟩) := h.d 6
   exact Fg.vn p.T.v (Fg.run_load rfl e6 ((hP.gn h.base).range 15 (feL p.T) rfl) Tryd.underlying26 rfl info_elem)
  refine Fg.cS rfl (by decide) (fun ac w h => ?_) ?_
  ·have e7 : _ = p.T.v := h.d 7
   refine ⟨wants_none rfl, 31, #[p.T.v], Fg.run_call rfl rfl (by simp only [List.map_toArray, List.map_cons, List.map_nil, Act.eval, e7]) (Fg.run_enter Tryd.func31 (by kernel_rfl) (by kernel_rfl)), ?_⟩
   exact (t_neg (HT.f.grown h.base) okp.T).mono fun _ _ ⟨he, hg⟩ => ⟨_, he, hg, rfl⟩
  refine Fg.vS rfl (by decide) (fun ac w h => ?_) ?_
  ·have e1 : _ = Value.pointer (some ⟨w0.heap.size, 0, none⟩) := h.r 1
   exact Fg.vn (Value.pointer (some ⟨w0.heap.size, 0, none⟩)) (Fg.run_fieldAddr rfl e1 (fa_point0 _ _ _))
  trivial
 ·intro qa V1 g1 hsz hdf hrest hslots hpt
  obtain ⟨u3, hs3⟩ := Fg.slotv qa 3
  obtain ⟨u4, hs4⟩ := Fg.slotv qa 4
  obtain ⟨x1, hx1⟩ : ∃ x : Fe, x = Fe.negF p.X := ⟨_, rfl⟩
  obtain ⟨u6, hs6⟩ := Fg.slotv qa 6
  obtain ⟨u7, hs7⟩ := Fg.slotv qa 7
  obtain ⟨x2, hx2⟩ : ∃ x : Fe, x = Fe.negF p.T := ⟨_, rfl⟩
  obtain rfl := Fg.frame_by [3, 4, 5, 6, 7, 8, 9] (vs := [p.v, Value.pointer (some ⟨w0.heap.size, 0, none⟩), Value.pointer (some ⟨w0.heap.size + 1, 0, none⟩), u3, u4, x1.v, u6, u7, x2.v, Value.pointer (some ⟨w0.heap.size, 0, none⟩), undef, undef]) hsz hrest (by kernel_rfl) rfl rfl ⟨hs3, hs4, (show qa.tmps.getD 5 undef = x1.v by rw [hx1]; exact hslots 5 (by kernel_rfl)), hs6, hs7, (show qa.tmps.getD 8 undef = x2.v by rw [hx2]; exact hslots 8 (by kernel_rfl)), (show qa.tmps.getD 9 undef = Value.pointer (some ⟨w0.heap.size, 0, none⟩) from hslots 9 (by kernel_rfl)), trivial⟩ hdf
  clear hsz hdf hrest hslots hpt hs3 hs4 hs6 hs7
  have Hx1 := Lib.hid hx1; clear hx1
  have Hx2 := Lib.hid hx2; clear hx2
  replace hP := hP.gn g1
  replace hR := hR.gn g1
  replace G := gb_trans G g1
  replace HT := HT.grown g1
  have okx1 : x1.Ok := by rw [Hx1.out]; exact (Fe.neg_right _).ok
  have okx2 : x2.Ok := by rw [Hx2.out]; exact (Fe.neg_right _).ok
  clear g1
  refine Fg.wpl_skip rfl rfl (Fg.run_store (cs := feL x1) rfl rfl rfl (hP.there 0 5 (by show 0 + 5 ≤ 20; decide)) info_elem (feL_one _)) ?_
  replace hP : Blk (V1.setCells w0.heap.size 0 (feL x1)) w0.heap.size 28 (ptL ((Pt.mk x1 p.Y p.Z p.T))) := hP.setCells 0
  replace hR := hR.setCells_other (C := w0.heap.size) (cs := feL x1) 0 (by omega)
  replace G := gb_setCells_new (cs := feL x1) G (B := w0.heap.size) (by omega) 0
  replace HT := HT.keep (gb_setCells (cs := feL x1) (gb_refl _ (some w0.heap.size)) 0) (HT0.noG (by omega))
  revert hP hR G HT
  generalize V1.setCells w0.heap.size 0 (feL x1) = W2
  intro hP hR G HT
  refine Fg.wpl_value rfl (Fg.run_fieldAddr rfl rfl (fa_point3 w0.heap.size 0 _)) ?_
  refine Fg.wpl_skip rfl rfl (Fg.run_store (cs := feL x2) rfl rfl rfl (hP.there 15 5 (by show 15 + 5 ≤ 20; decide)) info_elem (feL_one _)) ?_
  replace hP : Blk (W2.setCells w0.heap.size 15 (feL x2)) w0.heap.size 28 (ptL ((Pt.mk x1 p.Y p.Z x2))) := hP.setCells 15
  replace hR := hR.setCells_other (C := w0.heap.size) (cs := feL x2) 15 (by omega)
  replace G := gb_setCells_new (cs := feL x2) G (B := w0.heap.size) (by omega) 15
  replace HT := HT.keep (gb_setCells (cs := feL x2) (gb_refl _ (some w0.heap.size)) 15) (HT0.noG (by omega))
  revert hP hR G HT
  generalize W2.setCells w0.heap.size 15 (feL x2) = W3
  intro hP hR G HT
  go_upto_region 2 with (fail)
  have Gs3 := G.size
  have l2hP := hP.lt
  have l2hR := hR.lt
  refine Fg.rP [] [.any, .any, .any, .any, .any, .any, .any, .any, .any, .any, .any, .val (((Pt.mk x1 p.Y p.Z x2)).v)] 1 ?_ ?_
  ·refine Fg.vS rfl (by decide) (fun ac w h => ?_) ?_
   ·have e1 : _ = Value.pointer (some ⟨w0.heap.size, 0, none⟩) := h.r 1
    exact Fg.vn (((Pt.mk x1 p.Y p.Z x2)).v) (Fg.run_load rfl e1 ((hP.gn h.base).range 0 (ptL ((Pt.mk x1 p.Y p.Z x2))) rfl) Tryd.underlying28 rfl info_point)
   trivial
  ·intro qa V4 g4 hsz hdf hrest hslots hpt
   obtain ⟨x3, hx3⟩ : ∃ x : Pt, x = (Pt.mk x1 p.Y p.Z x2) := ⟨_, rfl⟩
   obtain rfl := Fg.frame_by [11] (vs := [p.v, Value.pointer (some ⟨w0.heap.size, 0, none⟩), Value.pointer (some ⟨w0.heap.size + 1, 0, none⟩), u3, u4, x1.v, u6, u7, x2.v, Value.pointer (some ⟨w0.heap.size, 0, none⟩), Value.pointer (some ⟨w0.heap.size, 15, none⟩), x3.v]) hsz hrest (by kernel_rfl) rfl rfl ⟨(show qa.tmps.getD 11 undef = x3.v by rw [hx3]; exact hslots 11 (by kernel_rfl)), trivial⟩ hdf
   clear hsz hdf hrest hslots hpt
   have Hx3 := Lib.hid hx3; clear hx3
   replace hP := hP.gn g4
   replace hR := hR.gn g4
   replace G := gb_trans G g4
   replace HT := HT.grown g4
   clear g4
   refine Fg.wpl_skip rfl rfl (Fg.run_store (cs := ptL x3) rfl rfl rfl (hR.there 0 20 (by show 0 + 20 ≤ 20; decide)) info_point (ptL_one _)) ?_
   replace hP := hP.setCells_other (C := (w0.heap.size + 1)) (cs := ptL x3) 0 (by omega)
   replace hR : Blk (V4.setCells (w0.heap.size + 1) 0 (ptL x3)) (w0.heap.size + 1) 28 (ptL x3) := hR.setAll rfl
   replace G := gb_setCells_new (cs := ptL x3) G (B := (w0.heap.size + 1)) (by omega) 0
   replace HT := HT.keep (gb_setCells (cs := ptL x3) (gb_refl _ (some (w0.heap.size + 1))) 0) (HT0.noG (by omega))
   revert hP hR G HT
   generalize V4.setCells (w0.heap.size + 1) 0 (ptL x3) = W5
   intro hP hR G HT
   go_wp2_with fail
   exact bodyPost_ret (v := x3.v) (results_cell_row Tryd.results10 _ _ (w0.heap.size + 1) 28 (ptL x3).toArray (0, 0) _ rfl hR Tryd.underlying28 rfl info_point) rfl ⟨_, by rw [Hx3.out]; rw [Hx1.out, Hx2.out]; exact negIs hp, rfl, G⟩

end Go.Proofs.YtleegbaigedebaaDoor

/- edwards: Add. -/
namespace Go.Proofs.YtleegbaigedebaaDoor
open Go.RowKit Ed
set_option maxRecDepth 100000 in
theorem slice_ptsG (PB n lo : Nat) (h : lo ≤ n) : ∃ a', (∀ w, (Instr.slice 51 (.slice (some ⟨PB, 0, none⟩) n n) (some (.int .i64 (lo : Int))) none none).run Tryd.prog w = .ok (.slice a' (n - lo) (n - lo)) w) ∧ (lo < n → a' = some ⟨PB, lo * 20, none⟩) := by
 obtain ⟨j, hj, hs⟩ : ∃ j, Tryd.prog.info? (Tryd.prog.elem 51) = some j ∧ j.size = 20 := by
  have h1 : (Tryd.prog.info? (Tryd.prog.elem 51)).map (·.size) = some 20 := by kernel_rfl
  cases hq : Tryd.prog.info? (Tryd.prog.elem 51) with
  | none => rw [hq] at h1; cases h1
  | some j => rw [hq] at h1; exact ⟨j, rfl, by simpa using h1⟩
 refine ⟨if n = lo then some ⟨PB, 0, none⟩ else (some (⟨PB, 0, none⟩ : Addr)).map (·.add (lo * 20)), fun w => ?_, ?_⟩
 ·rw [run_slice_l w 51 (some ⟨PB, 0, none⟩) n n Tryd.underlying51 .i64 _ (by omega) (by omega), Int.toNat_natCast]
  simp [sizeOf, typeInfo, hj, hs, sliced]
 ·intro hlt
  rw [if_neg (by omega)]
  simp [Addr.add]
  omega
theorem slice_pts (PB n : Nat) (h : 1 ≤ n) : ∃ a', (∀ w, (Instr.slice 51 (.slice (some ⟨PB, 0, none⟩) n n) (some (.int .i64 1)) none none).run Tryd.prog w = .ok (.slice a' (n - 1) (n - 1)) w) ∧ (1 < n → a' = some ⟨PB, 20, none⟩) := slice_ptsG PB n 1 h
def sumPr : List Pr → Pr
 | [] => zero
 | p :: r => r.foldl Ed.add p
theorem sumPr_snoc (p : Pr) (r : List Pr) (x : Pr) : sumPr ((p :: r) ++ [x]) = Ed.add (sumPr (p :: r)) x := by simp [sumPr]
def PtsAre (L : List Pt) (ps : List Pr) : Prop := L.length = ps.length ∧ ∀ i, i < L.length → PtIs (L.getD i zeroP) (ps.getD i zero)
theorem ptsL_length (L : List Pt) : (ptsL L).length = 20 * L.length := by
 induction L with
 | nil => rfl
 | cons x r ih => simp only [ptsL, List.flatMap_cons, List.length_append, List.length_cons] at *; rw [ih]; show 20 + _ = _; omega
theorem ptsL_range (L : List Pt) (k : Nat) (hk : k < L.length) (V : List Value) : ((ptsL L ++ V).drop (20 * k)).take 20 = ptL (L.getD k zeroP) := by
 induction L generalizing k with
 | nil => simp at hk
 | cons x r ih =>
  cases k with
  | zero =>
   show ((ptL x ++ ptsL r ++ V).drop 0).take 20 = ptL x
   rw [List.drop_zero, List.append_assoc, List.take_append_of_le_length (by show 20 ≤ 20; omega)]
   exact List.take_of_length_le (by show 20 ≤ 20; omega)
  | succ k =>
   have hx : (ptL x).length = 20 := rfl
   show ((ptL x ++ ptsL r ++ V).drop (20 * (k + 1))).take 20 = ptL (r.getD k zeroP)
   rw [List.append_assoc, List.drop_append, List.drop_eq_nil_of_le (by rw [hx]; omega), List.nil_append, hx, show 20 * (k + 1) - 20 = 20 * k by omega]
   exact ih k (by simpa using hk)
theorem pts_at {w : World} {PB : Nat} {T : TypeId} {L : List Pt} {V : List Value} (h : Blk w PB T (ptsL L ++ V)) (k : Nat) (hk : k < L.length) : w.rangeAt PB (20 * k) (ptL (L.getD k zeroP)) := by
 refine h.range (20 * k) _ ?_
 show List.take 20 _ = _
 exact ptsL_range L k hk V
theorem take_pr (ps : List Pr) (k : Nat) (h : k < ps.length) : ps.take (k + 1) = ps.take k ++ [ps.getD k zero] := by
 rw [List.take_succ_eq_append_getElem h, List.getD_eq_getElem?_getD, List.getElem?_eq_getElem h]; rfl
theorem sumPr_take (ps : List Pr) (k : Nat) (h : k + 1 < ps.length) : sumPr (ps.take (k + 1) ++ [ps.getD (k + 1) zero]) = Ed.add (sumPr (ps.take (k + 1))) (ps.getD (k + 1) zero) := by
 cases ps with
 | nil => simp at h
 | cons p r => rw [List.take_succ_cons]; exact sumPr_snoc p _ _
set_option maxRecDepth 100000 in
set_option maxHeartbeats 6400000 in
theorem edAdd (PB n : Nat) (L : List Pt) (ps : List Pr) (V : List Value) (w0 : World) (HT0 : ETab w0) (hn : L.length = n) (h1 : 1 ≤ n) (hn2 : n ≤ 1000) (hI : PtsAre L ps) (hP : Blk w0 PB 28 (ptsL L ++ V)) :
  Calls Tryd.prog 8 #[.slice (some ⟨PB, 0, none⟩) n n] w0 (PtOut (sumPr ps) w0) := by
 have hPB := hP.lt
 have HP : Hid (∀ k, k < L.length → w0.rangeAt PB (20 * k) (ptL (L.getD k zeroP))) := Lib.hid (fun k hk => pts_at hP k hk)
 have hps : ps.length = n := hI.1.symm.trans hn
 have HI := Lib.hid hI; clear hI hP
 obtain ⟨a', ha1, ha2⟩ := slice_pts PB n h1
 have HA1 := Lib.hid (And.intro ha1 ha2); clear ha1 ha2
 have h1' : 0 < n := by omega
 have h2 : ((n : Int) == 0) = false := by simpa using (show ¬ (n : Int) = 0 by omega)
 go_enter Tryd.func8, Tryd.ntmps8
 go_upto_region 3 with (fail)
 have G : w0.grownBy (w0.alloc (.cells zr20.toArray 28)) none := gb_alloc (gb_refl _ _) _
 have HT : ETab (w0.alloc (.cells zr20.toArray 28)) := HT0.grown (gb_alloc (gb_refl _ _) _)
 have hR : Blk (w0.alloc (.cells zr20.toArray 28)) (w0.heap.size) 28 zr20 := Blk.new w0 zr20 _
 revert G HT hR
 generalize w0.alloc (.cells zr20.toArray 28) = W0
 intro G HT hR
 have Gs := G.size
 have HPW : Hid (∀ k, k < L.length → W0.rangeAt PB (20 * k) (ptL (L.getD k zeroP))) := Lib.hid (fun k hk => rangeAt_grown (HP.out k hk) G hPB (by simp))
 have hPB0 : PB < W0.heap.size := Nat.lt_of_lt_of_le hPB Gs
 
 have Gs0 := G.size
 have l1hR := hR.lt
 refine Fg.rP [3] [.any, .any, .any, .fresh 53 zr30 W0.heap.size, .any, .any, .any, .any, .any, .any, .val (Value.slice (some ⟨PB, 0, none⟩) n n), .val (Value.pointer (some ⟨PB, 0, none⟩)), .val (((L.getD 0 zeroP)).v), .val ((sumF ((L.getD 0 zeroP))).v)] 5 ?_ ?_
 ·refine Fg.vS rfl (by decide) (fun ac w h => ?_) ?_
  ·have e0 : _ = Value.slice (some ⟨PB, 0, none⟩) n n := h.r 0
   exact Fg.vn (Value.slice (some ⟨PB, 0, none⟩) n n) (Fg.run_move rfl e0)
  refine Fg.vS rfl (by decide) (fun ac w h => ?_) ?_
  ·have e10 : _ = Value.slice (some ⟨PB, 0, none⟩) n n := h.d 10
   refine ⟨wants_none rfl, Value.pointer (some ⟨PB, 0, none⟩), w, ?_, gb_refl _ _, rfl⟩
   clear h
   simp only [execOp, Act.eval, e10]
   go_simp
  refine Fg.vS rfl (by decide) (fun ac w h => ?_) ?_
  ·have e11 : _ = Value.pointer (some ⟨PB, 0, none⟩) := h.d 11
   exact Fg.vn (((L.getD 0 zeroP)).v) (Fg.run_load rfl e11 (rangeAt_grown (HPW.out 0 (by omega)) h.base hPB0 (by simp)) Tryd.underlying28 rfl info_point)
  refine Fg.cS rfl (by decide) (fun ac w h => ?_) ?_
  ·have e12 : _ = ((L.getD 0 zeroP)).v := h.d 12
   refine ⟨wants_none rfl, 33, #[((L.getD 0 zeroP)).v], Fg.run_call rfl rfl (by simp only [List.map_toArray, List.map_cons, List.map_nil, Act.eval, e12]) (Fg.run_enter Tryd.func33 (by kernel_rfl) (by kernel_rfl)), ?_⟩
   exact (sumOf_any _ _).mono fun _ _ ⟨he, hg⟩ => ⟨_, he, hg, rfl⟩
  refine ⟨⟨⟨_, rfl⟩, Fg.allocP (fun _ _ h k => gb_trans h k) rfl (by show 3 < 26; decide) fun ac w h => ?_⟩, ?_⟩
  ·refine ⟨wants_none rfl, w.alloc (.cells zr30.toArray 53), ?_, World.grownBy_alloc _ _ _, by simp, ⟨w.heap.size, rfl, h.base.size, Blk.new w zr30 _⟩⟩
   clear h
   go_simp
  trivial
 ·intro qa V1 g1 hsz hdf hrest hslots hpt
  obtain ⟨u1, hs1⟩ := Fg.slotv qa 1
  obtain ⟨N3, hs3, hn3, hb3⟩ : ∃ N, qa.tmps.getD 3 undef = .pointer (some ⟨N, 0, none⟩) ∧ W0.heap.size ≤ N ∧ Blk V1 N 53 zr30 := hslots 3 (by kernel_rfl)
  obtain ⟨u4, hs4⟩ := Fg.slotv qa 4
  obtain ⟨u6, hs6⟩ := Fg.slotv qa 6
  obtain ⟨u7, hs7⟩ := Fg.slotv qa 7
  obtain ⟨u8, hs8⟩ := Fg.slotv qa 8
  obtain ⟨u9, hs9⟩ := Fg.slotv qa 9
  obtain ⟨u10, hs10⟩ := Fg.slotv qa 10
  obtain ⟨u11, hs11⟩ := Fg.slotv qa 11
  obtain ⟨u12, hs12⟩ := Fg.slotv qa 12
  obtain ⟨x1, hx1⟩ : ∃ x : Sm, x = sumF ((L.getD 0 zeroP)) := ⟨_, rfl⟩
  obtain ⟨u14, hs14⟩ := Fg.slotv qa 14
  obtain ⟨u15, hs15⟩ := Fg.slotv qa 15
  obtain ⟨u16, hs16⟩ := Fg.slotv qa 16
  obtain ⟨u17, hs17⟩ := Fg.slotv qa 17
  obtain ⟨u18, hs18⟩ := Fg.slotv qa 18
  obtain ⟨u19, hs19⟩ := Fg.slotv qa 19
  obtain ⟨u20, hs20⟩ := Fg.slotv qa 20
  obtain ⟨u21, hs21⟩ := Fg.slotv qa 21
  obtain ⟨u22, hs22⟩ := Fg.slotv qa 22
  obtain ⟨u23, hs23⟩ := Fg.slotv qa 23
  obtain ⟨u24, hs24⟩ := Fg.slotv qa 24
  obtain ⟨u25, hs25⟩ := Fg.slotv qa 25
  obtain rfl := Fg.frame_is (a := qa) (vs := [Value.slice (some ⟨PB, 0, none⟩) n n, u1, Value.pointer (some ⟨w0.heap.size, 0, none⟩), Value.pointer (some ⟨N3, 0, none⟩), u4, undef, u6, u7, u8, u9, u10, u11, u12, x1.v, u14, u15, u16, u17, u18, u19, u20, u21, u22, u23, u24, u25]) hsz ⟨hrest 0 (by kernel_rfl), hs1, hrest 2 (by kernel_rfl), hs3, hs4, hrest 5 (by kernel_rfl), hs6, hs7, hs8, hs9, hs10, hs11, hs12, (show qa.tmps.getD 13 undef = x1.v by rw [hx1]; exact hslots 13 (by kernel_rfl)), hs14, hs15, hs16, hs17, hs18, hs19, hs20, hs21, hs22, hs23, hs24, hs25, trivial⟩ hdf
  clear hsz hdf hrest hslots hpt hs1 hs3 hs4 hs6 hs7 hs8 hs9 hs10 hs11 hs12 hs14 hs15 hs16 hs17 hs18 hs19 hs20 hs21 hs22 hs23 hs24 hs25
  have Hx1 := Lib.hid hx1; clear hx1
  replace hR := hR.gn g1
  replace G := gb_trans G g1
  replace HT := HT.grown g1
  have hw3 : w0.heap.size ≤ N3 := Nat.le_trans Gs0 hn3
  clear g1
  refine Fg.wpl_skip rfl rfl (Fg.run_store (cs := smL x1) rfl rfl rfl (hb3.there 0 30 (by show 0 + 30 ≤ 30; decide)) info_sum (smL_one _)) ?_
  replace hR := hR.setCells_other (C := N3) (cs := smL x1) 0 (by omega)
  replace hb3 : Blk (V1.setCells N3 0 (smL x1)) N3 53 (smL x1) := hb3.setAll rfl
  replace G := gb_setCells_new (cs := smL x1) G (B := N3) (hw3) 0
  replace HT := HT.keep (gb_setCells (cs := smL x1) (gb_refl _ (some N3)) 0) (HT0.noG (hw3))
  revert hR hb3 G HT
  generalize V1.setCells N3 0 (smL x1) = W2
  intro hR hb3 G HT
  have l2hR := hR.lt
  have l2hb3 := hb3.lt
  clear h2
  have hs0 : SmIs x1 (sumPr (ps.take 1)) := by
   rw [Hx1.out]
   have h0 := HI.out.2 0 (by omega)
   have e : sumPr (ps.take 1) = ps.getD 0 zero := by
    cases ps with
    | nil => simp at hps; omega
    | cons p r => rfl
   rw [e]
   exact sumIs h0
  have hrun := HA1.out.1
  have HS := Lib.hid (And.intro hs0 (And.intro hb3 (And.intro hR (And.intro G HT)))); clear hs0 hb3 hR G HT
  obtain ⟨m, hm⟩ : ∃ m, m = n - 1 := ⟨_, rfl⟩
  rw [← hm] at hrun
  have hm1 : m + 1 = n := by omega
  have HM := Lib.hid hm; clear hm
  go_wp2
  clear hrun
  go_loopw [5, 17] (fun v5 i wr => ∃ k : Nat, k + 1 ≤ n ∧ i = .int .i64 k ∧ w0.grownBy wr none ∧ ETab wr ∧ Hid (Fg.ApartV [v5] wr) ∧ Blk wr w0.heap.size 28 zr20 ∧ ∃ s', SmIs s' (sumPr (ps.take (k + 1))) ∧ Blk wr N3 53 (smL s')) (fun _ i _ => n - (intOf i).toNat)
  case atStart => exact ⟨0, by omega, rfl, HS.out.2.2.2.1, HS.out.2.2.2.2, Lib.hid (Fg.apart_undef _ _ rfl), HS.out.2.2.1, _, HS.out.1, HS.out.2.1⟩
  case round =>
   clear HS
   obtain ⟨k, hk, rfl, G, HT, HA, hR, s', hs', hb3⟩ := hrel
   by_cases hkn : k < m
   ·have i0 : (k : Int) < m := by omega
    obtain rfl := HA1.out.2 (by omega)
    have hz : wr.heap.size ≤ wr.heap.size := Nat.le_refl _
    have hwr := G.size
    have HPR : Hid (wr.rangeAt PB (20 * (k + 1)) (ptL (L.getD (k + 1) zeroP))) := Lib.hid (rangeAt_grown (HP.out (k + 1) (by omega)) G hPB (by simp))
    have hPBr : PB < wr.heap.size := Nat.lt_of_lt_of_le hPB hwr
    go_upto_region 6 with (fail)
    have Gs0 := G.size
    have l1hb3 := hb3.lt
    have l1hR := hR.lt
    refine Fg.wp_region_plain (ps := [5]) [.any, .any, .any, .any, .any, .fresh 28 zr20 wr.heap.size, .any, .any, .any, .any, .any, .any, .any, .any, .any, .any, .any, .any, .any, .val (Value.pointer (some ⟨PB, 20 + k * 20, none⟩)), .val (((L.getD (k + 1) zeroP)).v)] (fun w => World.grownBy wr w none) 3 (gb_refl _ _) (by kernel_rfl) (by kernel_rfl) (by decide) (Fg.ptrs_of (l := [u5]) rfl HA.out) ?_ ?_
    ·refine Fg.vS rfl (by decide) (fun ac w h => ?_) ?_
     ·have e15 : _ = Value.slice (some ⟨PB, 20, none⟩) m m := h.r 15
      have e17 : _ = Value.int .i64 (k : Int) := h.r 17
      refine ⟨wants_none rfl, Value.pointer (some ⟨PB, 20 + k * 20, none⟩), w, ?_, gb_refl _ _, rfl⟩
      clear h
      simp only [execOp, Act.eval, e15, e17]
      go_simp
     refine Fg.vS rfl (by decide) (fun ac w h => ?_) ?_
     ·have e19 : _ = Value.pointer (some ⟨PB, 20 + k * 20, none⟩) := h.d 19
      exact Fg.vn (((L.getD (k + 1) zeroP)).v) (Fg.run_load rfl e19 ((by rw [show 20 + k * 20 = 20 * (k + 1) by omega]; exact rangeAt_grown HPR.out h.base hPBr (by simp))) Tryd.underlying28 rfl info_point)
     refine ⟨⟨⟨_, rfl⟩, Fg.allocP (fun _ _ h k => gb_trans h k) rfl (by show 5 < 26; decide) fun ac w h => ?_⟩, ?_⟩
     ·refine ⟨wants_none rfl, w.alloc (.cells zr20.toArray 28), ?_, World.grownBy_alloc _ _ _, by simp, ⟨w.heap.size, rfl, h.base.size, Blk.new w zr20 _⟩⟩
      clear h
      go_simp
     trivial
    ·intro qa V1 g1 hsz hdf hrest hslots hpt
     obtain ⟨N5, hs5, hn5, hb5⟩ : ∃ N, qa.tmps.getD 5 undef = .pointer (some ⟨N, 0, none⟩) ∧ wr.heap.size ≤ N ∧ Blk V1 N 28 zr20 := hslots 5 (by kernel_rfl)
     obtain ⟨u19, hs19⟩ := Fg.slotv qa 19
     obtain ⟨x11, hx11⟩ : ∃ x : Pt, x = (L.getD (k + 1) zeroP) := ⟨_, rfl⟩
     obtain rfl := Fg.frame_by [5, 19, 20] (vs := [Value.slice (some ⟨PB, 0, none⟩) n n, u1, Value.pointer (some ⟨w0.heap.size, 0, none⟩), Value.pointer (some ⟨N3, 0, none⟩), u4, Value.pointer (some ⟨N5, 0, none⟩), u6, u7, u8, u9, u10, u11, u12, x1.v, Value.slice (some ⟨PB, 0, none⟩) n n, Value.slice (some ⟨PB, 20, none⟩) m m, Value.int .i64 (m : Int), Value.int .i64 (k : Int), Value.bool true, u19, x11.v, u21, u22, u23, u24, u25]) hsz hrest (by kernel_rfl) rfl rfl ⟨hs5, hs19, (show qa.tmps.getD 20 undef = x11.v by rw [hx11]; exact hslots 20 (by kernel_rfl)), trivial⟩ hdf
     clear hsz hdf hrest hslots hpt hs5 hs19
     have Hx11 := Lib.hid hx11; clear hx11
     replace hb3 := hb3.gn g1
     replace hR := hR.gn g1
     replace G := gb_trans G g1
     replace HT := HT.grown g1
     replace hz := Nat.le_trans hz g1.size
     have hw5 : w0.heap.size ≤ N5 := Nat.le_trans Gs0 hn5
     clear g1
     refine Fg.wpl_skip rfl rfl (Fg.run_store (cs := ptL x11) rfl rfl rfl (hb5.there 0 20 (by show 0 + 20 ≤ 20; decide)) info_point (ptL_one _)) ?_
     replace hb3 := hb3.setCells_other (C := N5) (cs := ptL x11) 0 (by omega)
     replace hR := hR.setCells_other (C := N5) (cs := ptL x11) 0 (by omega)
     replace hb5 : Blk (V1.setCells N5 0 (ptL x11)) N5 28 (ptL x11) := hb5.setAll rfl
     replace hz := Nat.le_trans hz (gb_setCells (cs := ptL x11) (gb_refl V1 (some N5)) 0).size
     replace G := gb_setCells_new (cs := ptL x11) G (B := N5) (hw5) 0
     replace HT := HT.keep (gb_setCells (cs := ptL x11) (gb_refl _ (some N5)) 0) (HT0.noG (hw5))
     revert hb3 hR hb5 hz G HT
     generalize V1.setCells N5 0 (ptL x11) = W2
     intro hb3 hR hb5 hz G HT
     have hpt5 : PtIs x11 (ps.getD (k + 1) zero) := by rw [Hx11.out]; exact HI.out.2 (k + 1) (by omega)
     have ok5 := hpt5.ok
     go_upto_region 7 with (fail)
     have Gs2 := G.size
     have l2hb3 := hb3.lt
     have l2hR := hR.lt
     have l2hb5 := hb5.lt
     refine Fg.rP [] [.any, .any, .any, .any, .any, .any, .any, .any, .any, .any, .any, .any, .any, .any, .any, .any, .any, .any, .any, .any, .any, .val (x11.v), .val ((adF x11).v)] 2 ?_ ?_
     ·refine Fg.vS rfl (by decide) (fun ac w h => ?_) ?_
      ·have e5 : _ = Value.pointer (some ⟨N5, 0, none⟩) := h.r 5
       exact Fg.vn x11.v (Fg.run_load rfl e5 ((hb5.gn h.base).range 0 (ptL x11) rfl) Tryd.underlying28 rfl info_point)
      refine Fg.cS rfl (by decide) (fun ac w h => ?_) ?_
      ·have e21 : _ = x11.v := h.d 21
       refine ⟨wants_none rfl, 35, #[x11.v], Fg.run_call rfl rfl (by simp only [List.map_toArray, List.map_cons, List.map_nil, Act.eval, e21]) (Fg.run_enter Tryd.func35 (by kernel_rfl) (by kernel_rfl)), ?_⟩
       exact (addendOf_any x11 _ (HT.grown h.base) ok5).mono fun _ _ ⟨he, hg⟩ => ⟨_, he, hg, rfl⟩
      trivial
     ·intro qa V3 g3 hsz hdf hrest hslots hpt
      obtain ⟨u21, hs21⟩ := Fg.slotv qa 21
      obtain ⟨x12, hx12⟩ : ∃ x : Ad, x = adF x11 := ⟨_, rfl⟩
      obtain rfl := Fg.frame_by [21, 22] (vs := [Value.slice (some ⟨PB, 0, none⟩) n n, u1, Value.pointer (some ⟨w0.heap.size, 0, none⟩), Value.pointer (some ⟨N3, 0, none⟩), u4, Value.pointer (some ⟨N5, 0, none⟩), u6, u7, u8, u9, u10, u11, u12, x1.v, Value.slice (some ⟨PB, 0, none⟩) n n, Value.slice (some ⟨PB, 20, none⟩) m m, Value.int .i64 (m : Int), Value.int .i64 (k : Int), Value.bool true, u19, x11.v, u21, x12.v, u23, u24, u25]) hsz hrest (by kernel_rfl) rfl rfl ⟨hs21, (show qa.tmps.getD 22 undef = x12.v by rw [hx12]; exact hslots 22 (by kernel_rfl)), trivial⟩ hdf
      clear hsz hdf hrest hslots hpt hs21
      have Hx12 := Lib.hid hx12; clear hx12
      replace hb3 := hb3.gn g3
      replace hR := hR.gn g3
      replace hb5 := hb5.gn g3
      replace G := gb_trans G g3
      replace HT := HT.grown g3
      replace hz := Nat.le_trans hz g3.size
      clear g3
      have l3hb3 := hb3.lt
      have l3hR := hR.lt
      have l3hb5 := hb5.lt
      refine Fg.wpl_call rfl (Fg.run_call (vs := #[Value.pointer (some ⟨N3, 0, none⟩), x12.v]) rfl rfl (by simp only [List.map_toArray, List.map_cons, List.map_nil, Act.eval]; rfl) (Fg.run_enter Tryd.func34 (by kernel_rfl) (by kernel_rfl))) ?_
      refine (sadd_any N3 s' x12 _ _ _ HT (HT0.noG hw3) hb3 hs' (by rw [Hx12.out]; exact adIs hpt5)).mono ?_
      rintro e C7 ⟨rfl, gc, s9, hs9, hc⟩
      refine ⟨_, rfl, ?_⟩
      replace G := gb_then G gc hw3
      replace HT := HT.keep gc (HT0.noG hw3)
      replace hR := hR.grown gc (some_ne (by omega))
      have z9 := gc.size
      have HA9 := Lib.hid (Fg.apart_one (N := N5) (w := C7) (by omega))
      have hs10 : SmIs s9 (sumPr (ps.take (k + 1 + 1))) := by rw [take_pr ps (k + 1) (by omega), sumPr_take ps k (by omega)]; exact hs9
      have H9 := Lib.hid (And.intro hs10 (And.intro hc (And.intro hR (And.intro G HT))))
      clear hs9 hs10 hc hR G HT gc hb5
      clear l1hb3 l1hR l2hb3 l2hR l2hb5 l3hb3 l3hR l3hb5
      go_wp2
      go_roundw
      case rel => exact ⟨k + 1, by omega, by go_num, H9.out.2.2.2.1, H9.out.2.2.2.2, HA9, H9.out.2.2.1, _, H9.out.1, H9.out.2.1⟩
      case measure => simp [intOf]; omega
   ·have hkm : k = m := by omega
    subst hkm
    have hsx : SmIs s' (sumPr ps) := by rw [← List.take_of_length_le (show ps.length ≤ k + 1 by omega)]; exact hs'
    clear hs'
    have hs' := hsx; clear hsx
    have hwr := G.size
    go_upto_region 9 with (fail)
    have Gs0 := G.size
    have l1hb3 := hb3.lt
    have l1hR := hR.lt
    refine Fg.rP [] [] 0 ?_ ?_
    ·trivial
    ·intro qa V1 g1 hsz hdf hrest hslots hpt
     obtain ⟨u0, hs0⟩ := Fg.slotv qa 0
     obtain ⟨u1, hs1⟩ := Fg.slotv qa 1
     obtain ⟨u4, hs4⟩ := Fg.slotv qa 4
     obtain ⟨u5, hs5⟩ := Fg.slotv qa 5
     obtain ⟨u6, hs6⟩ := Fg.slotv qa 6
     obtain ⟨u7, hs7⟩ := Fg.slotv qa 7
     obtain ⟨u8, hs8⟩ := Fg.slotv qa 8
     obtain ⟨u9, hs9⟩ := Fg.slotv qa 9
     obtain ⟨u10, hs10⟩ := Fg.slotv qa 10
     obtain ⟨u11, hs11⟩ := Fg.slotv qa 11
     obtain ⟨u12, hs12⟩ := Fg.slotv qa 12
     obtain ⟨u13, hs13⟩ := Fg.slotv qa 13
     obtain ⟨u14, hs14⟩ := Fg.slotv qa 14
     obtain ⟨u15, hs15⟩ := Fg.slotv qa 15
     obtain ⟨u16, hs16⟩ := Fg.slotv qa 16
     obtain ⟨u17, hs17⟩ := Fg.slotv qa 17
     obtain ⟨u18, hs18⟩ := Fg.slotv qa 18
     obtain ⟨u19, hs19⟩ := Fg.slotv qa 19
     obtain ⟨u20, hs20⟩ := Fg.slotv qa 20
     obtain ⟨u21, hs21⟩ := Fg.slotv qa 21
     obtain ⟨u22, hs22⟩ := Fg.slotv qa 22
     obtain ⟨u23, hs23⟩ := Fg.slotv qa 23
     obtain ⟨u24, hs24⟩ := Fg.slotv qa 24
     obtain ⟨u25, hs25⟩ := Fg.slotv qa 25
     obtain rfl := Fg.frame_is (a := qa) (vs := [u0, u1, Value.pointer (some ⟨w0.heap.size, 0, none⟩), Value.pointer (some ⟨N3, 0, none⟩), u4, u5, u6, u7, u8, u9, u10, u11, u12, u13, u14, u15, u16, u17, u18, u19, u20, u21, u22, u23, u24, u25]) hsz ⟨hs0, hs1, hrest 2 (by kernel_rfl), hrest 3 (by kernel_rfl), hs4, hs5, hs6, hs7, hs8, hs9, hs10, hs11, hs12, hs13, hs14, hs15, hs16, hs17, hs18, hs19, hs20, hs21, hs22, hs23, hs24, hs25, trivial⟩ hdf
     clear hsz hdf hrest hslots hpt hs0 hs1 hs4 hs5 hs6 hs7 hs8 hs9 hs10 hs11 hs12 hs13 hs14 hs15 hs16 hs17 hs18 hs19 hs20 hs21 hs22 hs23 hs24 hs25
     replace hb3 := hb3.gn g1
     replace hR := hR.gn g1
     replace G := gb_trans G g1
     replace HT := HT.grown g1
     clear g1
     have l2hb3 := hb3.lt
     have l2hR := hR.lt
     refine Fg.wpl_call rfl (Fg.run_call (vs := #[Value.pointer (some ⟨N3, 0, none⟩)]) rfl rfl (by simp only [List.map_toArray, List.map_cons, List.map_nil, Act.eval]; rfl) (Fg.run_enter Tryd.func36 (by kernel_rfl) (by kernel_rfl))) ?_
     refine (point_any N3 s' _ hb3 hs'.ok).mono ?_
     rintro e C9 ⟨rfl, gc, hc⟩
     refine ⟨_, rfl, ?_⟩
     replace hR := hR.grown gc (some_ne (by omega))
     replace hb3 := hc
     replace G := gb_then G gc (hw3)
     replace HT := HT.keep gc (HT0.noG (hw3))
     clear gc
     obtain ⟨t9, ht9⟩ : ∃ t, t = pointF s' := ⟨_, rfl⟩
     rw [← ht9]
     have Ht9 := Lib.hid ht9; clear ht9
     refine Fg.wpl_skip rfl rfl (Fg.run_store (cs := ptL t9) rfl rfl rfl (hR.there 0 20 (by show 0 + 20 ≤ 20; decide)) info_point (ptL_one _)) ?_
     replace hb3 := hb3.setCells_other (C := w0.heap.size) (cs := ptL t9) 0 (by omega)
     replace hR : Blk (C9.setCells w0.heap.size 0 (ptL t9)) w0.heap.size 28 (ptL t9) := hR.setAll rfl
     replace G := gb_setCells_new (cs := ptL t9) G (B := w0.heap.size) (by omega) 0
     replace HT := HT.keep (gb_setCells (cs := ptL t9) (gb_refl _ (some w0.heap.size)) 0) (HT0.noG (by omega))
     revert hb3 hR G HT
     generalize C9.setCells w0.heap.size 0 (ptL t9) = W2
     intro hb3 hR G HT
     go_wp2_with fail
     exact bodyPost_ret (v := t9.v) (results_cell_row Tryd.results8 _ _ w0.heap.size 28 (ptL t9).toArray (0, 0) _ rfl hR Tryd.underlying28 rfl info_point) rfl ⟨t9, by rw [Ht9.out]; exact pointIs hs', rfl, G⟩

end Go.Proofs.YtleegbaigedebaaDoor

/- edwards: Same. -/
namespace Go.Proofs.YtleegbaigedebaaDoor
open Go.RowKit Ed
def sx (p q : Pt) : Bool := decide (Fe.m (Fe.mulF p.X q.Z) = Fe.m (Fe.mulF q.X p.Z))
def sy (p q : Pt) : Bool := decide (Fe.m (Fe.mulF p.Y q.Z) = Fe.m (Fe.mulF q.Y p.Z))
set_option maxRecDepth 100000 in
set_option maxHeartbeats 3200000 in
theorem same_tt (p q : Pt) (w0 : World) (okp : p.Ok) (okq : q.Ok) (h1 : sx p q = true) (h2 : sy p q = true) :
  Calls Tryd.prog 9 #[p.v, q.v] w0 fun e w' => e = .returned (.bool true) ∧ w0.grownBy w' none := by
 show Calls Tryd.prog 9 #[.agg (ptL p).toArray, .agg (ptL q).toArray] w0 _
 go_enter Tryd.func9, Tryd.ntmps9
 go_upto_region 1 with (fail)
 have G : w0.grownBy ((w0.alloc (.cells (ptL p).toArray 28)).alloc (.cells (ptL q).toArray 28)) none := gb_alloc (gb_alloc (gb_refl _ _) _) _
 have hP : Blk ((w0.alloc (.cells (ptL p).toArray 28)).alloc (.cells (ptL q).toArray 28)) (w0.heap.size) 28 (ptL p) := (Blk.new w0 (ptL p) _).alloc _
 have hQ : Blk ((w0.alloc (.cells (ptL p).toArray 28)).alloc (.cells (ptL q).toArray 28)) (w0.heap.size + 1) 28 (ptL q) := Blk.newAt (w0.alloc _) (ptL q) _ (by simp)
 revert G hP hQ
 generalize (w0.alloc (.cells (ptL p).toArray 28)).alloc (.cells (ptL q).toArray 28) = W0
 intro G hP hQ
 have Gs := G.size
 have Gs0 := G.size
 have l1hP := hP.lt
 have l1hQ := hQ.lt
 refine Fg.rT [] [.any, .any, .any, .any, .val (Value.bool true), .val (Value.pointer (some ⟨w0.heap.size, 0, none⟩)), .val (p.X.v), .val (Value.pointer (some ⟨w0.heap.size + 1, 10, none⟩)), .val (q.Z.v), .val ((Fe.mulF p.X q.Z).v), .val (Value.pointer (some ⟨w0.heap.size + 1, 0, none⟩)), .val (q.X.v), .val (Value.pointer (some ⟨w0.heap.size, 10, none⟩)), .val (p.Z.v), .val ((Fe.mulF q.X p.Z).v), .val (Value.bool true), .val (Value.bool true), .val (Value.pointer (some ⟨w0.heap.size, 5, none⟩)), .val (p.Y.v), .val (Value.pointer (some ⟨w0.heap.size + 1, 10, none⟩)), .val (q.Z.v), .val ((Fe.mulF p.Y q.Z).v), .val (Value.pointer (some ⟨w0.heap.size + 1, 5, none⟩)), .val (q.Y.v), .val (Value.pointer (some ⟨w0.heap.size, 10, none⟩)), .val (p.Z.v), .val ((Fe.mulF q.Y p.Z).v), .val (Value.bool true), .val (Value.bool true)] 25 ?_ ?_
 ·refine Fg.vS rfl (by decide) (fun ac w h => ?_) ?_
  ·have e2 : _ = Value.pointer (some ⟨w0.heap.size, 0, none⟩) := h.r 2
   exact Fg.vn (Value.pointer (some ⟨w0.heap.size, 0, none⟩)) (Fg.run_fieldAddr rfl e2 (fa_point0 _ _ _))
  refine Fg.vS rfl (by decide) (fun ac w h => ?_) ?_
  ·have e5 : _ = Value.pointer (some ⟨w0.heap.size, 0, none⟩) := h.d 5
   exact Fg.vn p.X.v (Fg.run_load rfl e5 ((hP.gn h.base).range 0 (feL p.X) rfl) Tryd.underlying26 rfl info_elem)
  refine Fg.vS rfl (by decide) (fun ac w h => ?_) ?_
  ·have e3 : _ = Value.pointer (some ⟨w0.heap.size + 1, 0, none⟩) := h.r 3
   exact Fg.vn (Value.pointer (some ⟨w0.heap.size + 1, 10, none⟩)) (Fg.run_fieldAddr rfl e3 (fa_point2 _ _ _))
  refine Fg.vS rfl (by decide) (fun ac w h => ?_) ?_
  ·have e7 : _ = Value.pointer (some ⟨w0.heap.size + 1, 10, none⟩) := h.d 7
   exact Fg.vn q.Z.v (Fg.run_load rfl e7 ((hQ.gn h.base).range 10 (feL q.Z) rfl) Tryd.underlying26 rfl info_elem)
  refine Fg.cS rfl (by decide) (fun ac w h => ?_) ?_
  ·have e6 : _ = p.X.v := h.d 6
   have e8 : _ = q.Z.v := h.d 8
   refine ⟨wants_none rfl, 25, #[p.X.v, q.Z.v], Fg.run_call rfl rfl (by simp only [List.map_toArray, List.map_cons, List.map_nil, Act.eval, e6, e8]) (Fg.run_enter Tryd.func25 (by kernel_rfl) (by kernel_rfl)), ?_⟩
   exact (t_mul okp.X okq.Z).mono fun _ _ ⟨he, hg⟩ => ⟨_, he, hg, rfl⟩
  refine Fg.vS rfl (by decide) (fun ac w h => ?_) ?_
  ·have e3 : _ = Value.pointer (some ⟨w0.heap.size + 1, 0, none⟩) := h.r 3
   exact Fg.vn (Value.pointer (some ⟨w0.heap.size + 1, 0, none⟩)) (Fg.run_fieldAddr rfl e3 (fa_point0 _ _ _))
  refine Fg.vS rfl (by decide) (fun ac w h => ?_) ?_
  ·have e10 : _ = Value.pointer (some ⟨w0.heap.size + 1, 0, none⟩) := h.d 10
   exact Fg.vn q.X.v (Fg.run_load rfl e10 ((hQ.gn h.base).range 0 (feL q.X) rfl) Tryd.underlying26 rfl info_elem)
  refine Fg.vS rfl (by decide) (fun ac w h => ?_) ?_
  ·have e2 : _ = Value.pointer (some ⟨w0.heap.size, 0, none⟩) := h.r 2
   exact Fg.vn (Value.pointer (some ⟨w0.heap.size, 10, none⟩)) (Fg.run_fieldAddr rfl e2 (fa_point2 _ _ _))
  refine Fg.vS rfl (by decide) (fun ac w h => ?_) ?_
  ·have e12 : _ = Value.pointer (some ⟨w0.heap.size, 10, none⟩) := h.d 12
   exact Fg.vn p.Z.v (Fg.run_load rfl e12 ((hP.gn h.base).range 10 (feL p.Z) rfl) Tryd.underlying26 rfl info_elem)
  refine Fg.cS rfl (by decide) (fun ac w h => ?_) ?_
  ·have e11 : _ = q.X.v := h.d 11
   have e13 : _ = p.Z.v := h.d 13
   refine ⟨wants_none rfl, 25, #[q.X.v, p.Z.v], Fg.run_call rfl rfl (by simp only [List.map_toArray, List.map_cons, List.map_nil, Act.eval, e11, e13]) (Fg.run_enter Tryd.func25 (by kernel_rfl) (by kernel_rfl)), ?_⟩
   exact (t_mul okq.X okp.Z).mono fun _ _ ⟨he, hg⟩ => ⟨_, he, hg, rfl⟩
  refine Fg.cS rfl (by decide) (fun ac w h => ?_) ?_
  ·have e9 : _ = (Fe.mulF p.X q.Z).v := h.d 9
   have e14 : _ = (Fe.mulF q.X p.Z).v := h.d 14
   refine ⟨wants_none rfl, 24, #[(Fe.mulF p.X q.Z).v, (Fe.mulF q.X p.Z).v], Fg.run_call rfl rfl (by simp only [List.map_toArray, List.map_cons, List.map_nil, Act.eval, e9, e14]) (Fg.run_enter Tryd.func24 (by kernel_rfl) (by kernel_rfl)), ?_⟩
   exact (t_same (Fe.mul_right _ _).ok (Fe.mul_right _ _).ok h1).mono fun _ _ ⟨he, hg⟩ => ⟨_, he, hg, rfl⟩
  refine Fg.vS rfl (by decide) (fun ac w h => ?_) ?_
  ·have e15 : _ = Value.bool true := h.d 15
   exact Fg.vn (Value.bool true) (Fg.run_move rfl e15)
  refine Fg.vS rfl (by decide) (fun ac w h => ?_) ?_
  ·have e16 : _ = Value.bool true := h.d 16
   have e2 : _ = Value.pointer (some ⟨w0.heap.size, 0, none⟩) := h.r 2
   exact Fg.vx (Value.pointer (some ⟨w0.heap.size, 5, none⟩)) (wants_some (d := 16) rfl rfl (by rw [h.size]; show 16 < 29; decide) e16) (Fg.run_fieldAddr rfl e2 (fa_point1 _ _ _))
  refine Fg.vS rfl (by decide) (fun ac w h => ?_) ?_
  ·have e16 : _ = Value.bool true := h.d 16
   have e17 : _ = Value.pointer (some ⟨w0.heap.size, 5, none⟩) := h.d 17
   exact Fg.vx p.Y.v (wants_some (d := 16) rfl rfl (by rw [h.size]; show 16 < 29; decide) e16) (Fg.run_load rfl e17 ((hP.gn h.base).range 5 (feL p.Y) rfl) Tryd.underlying26 rfl info_elem)
  refine Fg.vS rfl (by decide) (fun ac w h => ?_) ?_
  ·have e16 : _ = Value.bool true := h.d 16
   have e3 : _ = Value.pointer (some ⟨w0.heap.size + 1, 0, none⟩) := h.r 3
   exact Fg.vx (Value.pointer (some ⟨w0.heap.size + 1, 10, none⟩)) (wants_some (d := 16) rfl rfl (by rw [h.size]; show 16 < 29; decide) e16) (Fg.run_fieldAddr rfl e3 (fa_point2 _ _ _))
  refine Fg.vS rfl (by decide) (fun ac w h => ?_) ?_
  ·have e16 : _ = Value.bool true := h.d 16
   have e19 : _ = Value.pointer (some ⟨w0.heap.size + 1, 10, none⟩) := h.d 19
   exact Fg.vx q.Z.v (wants_some (d := 16) rfl rfl (by rw [h.size]; show 16 < 29; decide) e16) (Fg.run_load rfl e19 ((hQ.gn h.base).range 10 (feL q.Z) rfl) Tryd.underlying26 rfl info_elem)
  refine Fg.cS rfl (by decide) (fun ac w h => ?_) ?_
  ·have e16 : _ = Value.bool true := h.d 16
   have e18 : _ = p.Y.v := h.d 18
   have e20 : _ = q.Z.v := h.d 20
   refine ⟨wants_some (d := 16) rfl rfl (by rw [h.size]; show 16 < 29; decide) e16, 25, #[p.Y.v, q.Z.v], Fg.run_call rfl rfl (by simp only [List.map_toArray, List.map_cons, List.map_nil, Act.eval, e18, e20]) (Fg.run_enter Tryd.func25 (by kernel_rfl) (by kernel_rfl)), ?_⟩
   exact (t_mul okp.Y okq.Z).mono fun _ _ ⟨he, hg⟩ => ⟨_, he, hg, rfl⟩
  refine Fg.vS rfl (by decide) (fun ac w h => ?_) ?_
  ·have e16 : _ = Value.bool true := h.d 16
   have e3 : _ = Value.pointer (some ⟨w0.heap.size + 1, 0, none⟩) := h.r 3
   exact Fg.vx (Value.pointer (some ⟨w0.heap.size + 1, 5, none⟩)) (wants_some (d := 16) rfl rfl (by rw [h.size]; show 16 < 29; decide) e16) (Fg.run_fieldAddr rfl e3 (fa_point1 _ _ _))
  refine Fg.vS rfl (by decide) (fun ac w h => ?_) ?_
  ·have e16 : _ = Value.bool true := h.d 16
   have e22 : _ = Value.pointer (some ⟨w0.heap.size + 1, 5, none⟩) := h.d 22
   exact Fg.vx q.Y.v (wants_some (d := 16) rfl rfl (by rw [h.size]; show 16 < 29; decide) e16) (Fg.run_load rfl e22 ((hQ.gn h.base).range 5 (feL q.Y) rfl) Tryd.underlying26 rfl info_elem)
  refine Fg.vS rfl (by decide) (fun ac w h => ?_) ?_
  ·have e16 : _ = Value.bool true := h.d 16
   have e2 : _ = Value.pointer (some ⟨w0.heap.size, 0, none⟩) := h.r 2
   exact Fg.vx (Value.pointer (some ⟨w0.heap.size, 10, none⟩)) (wants_some (d := 16) rfl rfl (by rw [h.size]; show 16 < 29; decide) e16) (Fg.run_fieldAddr rfl e2 (fa_point2 _ _ _))
  refine Fg.vS rfl (by decide) (fun ac w h => ?_) ?_
  ·have e16 : _ = Value.bool true := h.d 16
   have e24 : _ = Value.pointer (some ⟨w0.heap.size, 10, none⟩) := h.d 24
   exact Fg.vx p.Z.v (wants_some (d := 16) rfl rfl (by rw [h.size]; show 16 < 29; decide) e16) (Fg.run_load rfl e24 ((hP.gn h.base).range 10 (feL p.Z) rfl) Tryd.underlying26 rfl info_elem)
  refine Fg.cS rfl (by decide) (fun ac w h => ?_) ?_
  ·have e16 : _ = Value.bool true := h.d 16
   have e23 : _ = q.Y.v := h.d 23
   have e25 : _ = p.Z.v := h.d 25
   refine ⟨wants_some (d := 16) rfl rfl (by rw [h.size]; show 16 < 29; decide) e16, 25, #[q.Y.v, p.Z.v], Fg.run_call rfl rfl (by simp only [List.map_toArray, List.map_cons, List.map_nil, Act.eval, e23, e25]) (Fg.run_enter Tryd.func25 (by kernel_rfl) (by kernel_rfl)), ?_⟩
   exact (t_mul okq.Y okp.Z).mono fun _ _ ⟨he, hg⟩ => ⟨_, he, hg, rfl⟩
  refine Fg.cS rfl (by decide) (fun ac w h => ?_) ?_
  ·have e16 : _ = Value.bool true := h.d 16
   have e21 : _ = (Fe.mulF p.Y q.Z).v := h.d 21
   have e26 : _ = (Fe.mulF q.Y p.Z).v := h.d 26
   refine ⟨wants_some (d := 16) rfl rfl (by rw [h.size]; show 16 < 29; decide) e16, 24, #[(Fe.mulF p.Y q.Z).v, (Fe.mulF q.Y p.Z).v], Fg.run_call rfl rfl (by simp only [List.map_toArray, List.map_cons, List.map_nil, Act.eval, e21, e26]) (Fg.run_enter Tryd.func24 (by kernel_rfl) (by kernel_rfl)), ?_⟩
   exact (t_same (Fe.mul_right _ _).ok (Fe.mul_right _ _).ok h2).mono fun _ _ ⟨he, hg⟩ => ⟨_, he, hg, rfl⟩
  refine Fg.vS rfl (by decide) (fun ac w h => ?_) ?_
  ·have e16 : _ = Value.bool true := h.d 16
   have e27 : _ = Value.bool true := h.d 27
   refine ⟨wants_none rfl, Value.bool true, w, ?_, gb_refl _ _, rfl⟩
   clear h
   simp only [execOp, Act.eval, e16, e27]
   go_simp
  refine Fg.vS rfl (by decide) (fun ac w h => ?_) ?_
  ·have e28 : _ = Value.bool true := h.d 28
   exact Fg.vn (Value.bool true) (Fg.run_assign rfl e28)
  trivial
 ·intro qa V1 g1 hsz hdf hrest hslots hpt
  obtain ⟨u5, hs5⟩ := Fg.slotv qa 5
  obtain ⟨u6, hs6⟩ := Fg.slotv qa 6
  obtain ⟨u7, hs7⟩ := Fg.slotv qa 7
  obtain ⟨u8, hs8⟩ := Fg.slotv qa 8
  obtain ⟨u9, hs9⟩ := Fg.slotv qa 9
  obtain ⟨u10, hs10⟩ := Fg.slotv qa 10
  obtain ⟨u11, hs11⟩ := Fg.slotv qa 11
  obtain ⟨u12, hs12⟩ := Fg.slotv qa 12
  obtain ⟨u13, hs13⟩ := Fg.slotv qa 13
  obtain ⟨u14, hs14⟩ := Fg.slotv qa 14
  obtain ⟨u15, hs15⟩ := Fg.slotv qa 15
  obtain ⟨u16, hs16⟩ := Fg.slotv qa 16
  obtain ⟨u17, hs17⟩ := Fg.slotv qa 17
  obtain ⟨u18, hs18⟩ := Fg.slotv qa 18
  obtain ⟨u19, hs19⟩ := Fg.slotv qa 19
  obtain ⟨u20, hs20⟩ := Fg.slotv qa 20
  obtain ⟨u21, hs21⟩ := Fg.slotv qa 21
  obtain ⟨u22, hs22⟩ := Fg.slotv qa 22
  obtain ⟨u23, hs23⟩ := Fg.slotv qa 23
  obtain ⟨u24, hs24⟩ := Fg.slotv qa 24
  obtain ⟨u25, hs25⟩ := Fg.slotv qa 25
  obtain ⟨u26, hs26⟩ := Fg.slotv qa 26
  obtain ⟨u27, hs27⟩ := Fg.slotv qa 27
  obtain ⟨u28, hs28⟩ := Fg.slotv qa 28
  obtain rfl := Fg.frame_by [4, 5, 6, 7, 8, 9, 10, 11, 12, 13, 14, 15, 16, 17, 18, 19, 20, 21, 22, 23, 24, 25, 26, 27, 28] (vs := [p.v, q.v, Value.pointer (some ⟨w0.heap.size, 0, none⟩), Value.pointer (some ⟨w0.heap.size + 1, 0, none⟩), Value.bool true, u5, u6, u7, u8, u9, u10, u11, u12, u13, u14, u15, u16, u17, u18, u19, u20, u21, u22, u23, u24, u25, u26, u27, u28]) hsz hrest (by kernel_rfl) rfl rfl ⟨(show qa.tmps.getD 4 undef = Value.bool true from hslots 4 (by kernel_rfl)), hs5, hs6, hs7, hs8, hs9, hs10, hs11, hs12, hs13, hs14, hs15, hs16, hs17, hs18, hs19, hs20, hs21, hs22, hs23, hs24, hs25, hs26, hs27, hs28, trivial⟩ hdf
  clear hsz hdf hrest hslots hpt hs5 hs6 hs7 hs8 hs9 hs10 hs11 hs12 hs13 hs14 hs15 hs16 hs17 hs18 hs19 hs20 hs21 hs22 hs23 hs24 hs25 hs26 hs27 hs28
  replace hP := hP.gn g1
  replace hQ := hQ.gn g1
  replace G := gb_trans G g1
  clear g1
  go_wp2_with fail
  go_ret
  exact ⟨rfl, G⟩
set_option maxRecDepth 100000 in
set_option maxHeartbeats 3200000 in
theorem same_tf (p q : Pt) (w0 : World) (okp : p.Ok) (okq : q.Ok) (h1 : sx p q = true) (h2 : sy p q = false) :
  Calls Tryd.prog 9 #[p.v, q.v] w0 fun e w' => e = .returned (.bool false) ∧ w0.grownBy w' none := by
 show Calls Tryd.prog 9 #[.agg (ptL p).toArray, .agg (ptL q).toArray] w0 _
 go_enter Tryd.func9, Tryd.ntmps9
 go_upto_region 1 with (fail)
 have G : w0.grownBy ((w0.alloc (.cells (ptL p).toArray 28)).alloc (.cells (ptL q).toArray 28)) none := gb_alloc (gb_alloc (gb_refl _ _) _) _
 have hP : Blk ((w0.alloc (.cells (ptL p).toArray 28)).alloc (.cells (ptL q).toArray 28)) (w0.heap.size) 28 (ptL p) := (Blk.new w0 (ptL p) _).alloc _
 have hQ : Blk ((w0.alloc (.cells (ptL p).toArray 28)).alloc (.cells (ptL q).toArray 28)) (w0.heap.size + 1) 28 (ptL q) := Blk.newAt (w0.alloc _) (ptL q) _ (by simp)
 revert G hP hQ
 generalize (w0.alloc (.cells (ptL p).toArray 28)).alloc (.cells (ptL q).toArray 28) = W0
 intro G hP hQ
 have Gs := G.size
 have Gs0 := G.size
 have l1hP := hP.lt
 have l1hQ := hQ.lt
 refine Fg.rT [] [.any, .any, .any, .any, .val (Value.bool false), .val (Value.pointer (some ⟨w0.heap.size, 0, none⟩)), .val (p.X.v), .val (Value.pointer (some ⟨w0.heap.size + 1, 10, none⟩)), .val (q.Z.v), .val ((Fe.mulF p.X q.Z).v), .val (Value.pointer (some ⟨w0.heap.size + 1, 0, none⟩)), .val (q.X.v), .val (Value.pointer (some ⟨w0.heap.size, 10, none⟩)), .val (p.Z.v), .val ((Fe.mulF q.X p.Z).v), .val (Value.bool true), .val (Value.bool true), .val (Value.pointer (some ⟨w0.heap.size, 5, none⟩)), .val (p.Y.v), .val (Value.pointer (some ⟨w0.heap.size + 1, 10, none⟩)), .val (q.Z.v), .val ((Fe.mulF p.Y q.Z).v), .val (Value.pointer (some ⟨w0.heap.size + 1, 5, none⟩)), .val (q.Y.v), .val (Value.pointer (some ⟨w0.heap.size, 10, none⟩)), .val (p.Z.v), .val ((Fe.mulF q.Y p.Z).v), .val (Value.bool false), .val (Value.bool false)] 25 ?_ ?_
 ·refine Fg.vS rfl (by decide) (fun ac w h => ?_) ?_
  ·have e2 : _ = Value.pointer (some ⟨w0.heap.size, 0, none⟩) := h.r 2
   exact Fg.vn (Value.pointer (some ⟨w0.heap.size, 0, none⟩)) (Fg.run_fieldAddr rfl e2 (fa_point0 _ _ _))
  refine Fg.vS rfl (by decide) (fun ac w h => ?_) ?_
  ·have e5 : _ = Value.pointer (some ⟨w0.heap.size, 0, none⟩) := h.d 5
   exact Fg.vn p.X.v (Fg.run_load rfl e5 ((hP.gn h.base).range 0 (feL p.X) rfl) Tryd.underlying26 rfl info_elem)
  refine Fg.vS rfl (by decide) (fun ac w h => ?_) ?_
  ·have e3 : _ = Value.pointer (some ⟨w0.heap.size + 1, 0, none⟩) := h.r 3
   exact Fg.vn (Value.pointer (some ⟨w0.heap.size + 1, 10, none⟩)) (Fg.run_fieldAddr rfl e3 (fa_point2 _ _ _))
  refine Fg.vS rfl (by decide) (fun ac w h => ?_) ?_
  ·have e7 : _ = Value.pointer (some ⟨w0.heap.size + 1, 10, none⟩) := h.d 7
   exact Fg.vn q.Z.v (Fg.run_load rfl e7 ((hQ.gn h.base).range 10 (feL q.Z) rfl) Tryd.underlying26 rfl info_elem)
  refine Fg.cS rfl (by decide) (fun ac w h => ?_) ?_
  ·have e6 : _ = p.X.v := h.d 6
   have e8 : _ = q.Z.v := h.d 8
   refine ⟨wants_none rfl, 25, #[p.X.v, q.Z.v], Fg.run_call rfl rfl (by simp only [List.map_toArray, List.map_cons, List.map_nil, Act.eval, e6, e8]) (Fg.run_enter Tryd.func25 (by kernel_rfl) (by kernel_rfl)), ?_⟩
   exact (t_mul okp.X okq.Z).mono fun _ _ ⟨he, hg⟩ => ⟨_, he, hg, rfl⟩
  refine Fg.vS rfl (by decide) (fun ac w h => ?_) ?_
  ·have e3 : _ = Value.pointer (some ⟨w0.heap.size + 1, 0, none⟩) := h.r 3
   exact Fg.vn (Value.pointer (some ⟨w0.heap.size + 1, 0, none⟩)) (Fg.run_fieldAddr rfl e3 (fa_point0 _ _ _))
  refine Fg.vS rfl (by decide) (fun ac w h => ?_) ?_
  ·have e10 : _ = Value.pointer (some ⟨w0.heap.size + 1, 0, none⟩) := h.d 10
   exact Fg.vn q.X.v (Fg.run_load rfl e10 ((hQ.gn h.base).range 0 (feL q.X) rfl) Tryd.underlying26 rfl info_elem)
  refine Fg.vS rfl (by decide) (fun ac w h => ?_) ?_
  ·have e2 : _ = Value.pointer (some ⟨w0.heap.size, 0, none⟩) := h.r 2
   exact Fg.vn (Value.pointer (some ⟨w0.heap.size, 10, none⟩)) (Fg.run_fieldAddr rfl e2 (fa_point2 _ _ _))
  refine Fg.vS rfl (by decide) (fun ac w h => ?_) ?_
  ·have e12 : _ = Value.pointer (some ⟨w0.heap.size, 10, none⟩) := h.d 12
   exact Fg.vn p.Z.v (Fg.run_load rfl e12 ((hP.gn h.base).range 10 (feL p.Z) rfl) Tryd.underlying26 rfl info_elem)
  refine Fg.cS rfl (by decide) (fun ac w h => ?_) ?_
  ·have e11 : _ = q.X.v := h.d 11
   have e13 : _ = p.Z.v := h.d 13
   refine ⟨wants_none rfl, 25, #[q.X.v, p.Z.v], Fg.run_call rfl rfl (by simp only [List.map_toArray, List.map_cons, List.map_nil, Act.eval, e11, e13]) (Fg.run_enter Tryd.func25 (by kernel_rfl) (by kernel_rfl)), ?_⟩
   exact (t_mul okq.X okp.Z).mono fun _ _ ⟨he, hg⟩ => ⟨_, he, hg, rfl⟩
  refine Fg.cS rfl (by decide) (fun ac w h => ?_) ?_
  ·have e9 : _ = (Fe.mulF p.X q.Z).v := h.d 9
   have e14 : _ = (Fe.mulF q.X p.Z).v := h.d 14
   refine ⟨wants_none rfl, 24, #[(Fe.mulF p.X q.Z).v, (Fe.mulF q.X p.Z).v], Fg.run_call rfl rfl (by simp only [List.map_toArray, List.map_cons, List.map_nil, Act.eval, e9, e14]) (Fg.run_enter Tryd.func24 (by kernel_rfl) (by kernel_rfl)), ?_⟩
   exact (t_same (Fe.mul_right _ _).ok (Fe.mul_right _ _).ok h1).mono fun _ _ ⟨he, hg⟩ => ⟨_, he, hg, rfl⟩
  refine Fg.vS rfl (by decide) (fun ac w h => ?_) ?_
  ·have e15 : _ = Value.bool true := h.d 15
   exact Fg.vn (Value.bool true) (Fg.run_move rfl e15)
  refine Fg.vS rfl (by decide) (fun ac w h => ?_) ?_
  ·have e16 : _ = Value.bool true := h.d 16
   have e2 : _ = Value.pointer (some ⟨w0.heap.size, 0, none⟩) := h.r 2
   exact Fg.vx (Value.pointer (some ⟨w0.heap.size, 5, none⟩)) (wants_some (d := 16) rfl rfl (by rw [h.size]; show 16 < 29; decide) e16) (Fg.run_fieldAddr rfl e2 (fa_point1 _ _ _))
  refine Fg.vS rfl (by decide) (fun ac w h => ?_) ?_
  ·have e16 : _ = Value.bool true := h.d 16
   have e17 : _ = Value.pointer (some ⟨w0.heap.size, 5, none⟩) := h.d 17
   exact Fg.vx p.Y.v (wants_some (d := 16) rfl rfl (by rw [h.size]; show 16 < 29; decide) e16) (Fg.run_load rfl e17 ((hP.gn h.base).range 5 (feL p.Y) rfl) Tryd.underlying26 rfl info_elem)
  refine Fg.vS rfl (by decide) (fun ac w h => ?_) ?_
  ·have e16 : _ = Value.bool true := h.d 16
   have e3 : _ = Value.pointer (some ⟨w0.heap.size + 1, 0, none⟩) := h.r 3
   exact Fg.vx (Value.pointer (some ⟨w0.heap.size + 1, 10, none⟩)) (wants_some (d := 16) rfl rfl (by rw [h.size]; show 16 < 29; decide) e16) (Fg.run_fieldAddr rfl e3 (fa_point2 _ _ _))
  refine Fg.vS rfl (by decide) (fun ac w h => ?_) ?_
  ·have e16 : _ = Value.bool true := h.d 16
   have e19 : _ = Value.pointer (some ⟨w0.heap.size + 1, 10, none⟩) := h.d 19
   exact Fg.vx q.Z.v (wants_some (d := 16) rfl rfl (by rw [h.size]; show 16 < 29; decide) e16) (Fg.run_load rfl e19 ((hQ.gn h.base).range 10 (feL q.Z) rfl) Tryd.underlying26 rfl info_elem)
  refine Fg.cS rfl (by decide) (fun ac w h => ?_) ?_
  ·have e16 : _ = Value.bool true := h.d 16
   have e18 : _ = p.Y.v := h.d 18
   have e20 : _ = q.Z.v := h.d 20
   refine ⟨wants_some (d := 16) rfl rfl (by rw [h.size]; show 16 < 29; decide) e16, 25, #[p.Y.v, q.Z.v], Fg.run_call rfl rfl (by simp only [List.map_toArray, List.map_cons, List.map_nil, Act.eval, e18, e20]) (Fg.run_enter Tryd.func25 (by kernel_rfl) (by kernel_rfl)), ?_⟩
   exact (t_mul okp.Y okq.Z).mono fun _ _ ⟨he, hg⟩ => ⟨_, he, hg, rfl⟩
  refine Fg.vS rfl (by decide) (fun ac w h => ?_) ?_
  ·have e16 : _ = Value.bool true := h.d 16
   have e3 : _ = Value.pointer (some ⟨w0.heap.size + 1, 0, none⟩) := h.r 3
   exact Fg.vx (Value.pointer (some ⟨w0.heap.size + 1, 5, none⟩)) (wants_some (d := 16) rfl rfl (by rw [h.size]; show 16 < 29; decide) e16) (Fg.run_fieldAddr rfl e3 (fa_point1 _ _ _))
  refine Fg.vS rfl (by decide) (fun ac w h => ?_) ?_
  ·have e16 : _ = Value.bool true := h.d 16
   have e22 : _ = Value.pointer (some ⟨w0.heap.size + 1, 5, none⟩) := h.d 22
   exact Fg.vx q.Y.v (wants_some (d := 16) rfl rfl (by rw [h.size]; show 16 < 29; decide) e16) (Fg.run_load rfl e22 ((hQ.gn h.base).range 5 (feL q.Y) rfl) Tryd.underlying26 rfl info_elem)
  refine Fg.vS rfl (by decide) (fun ac w h => ?_) ?_
  ·have e16 : _ = Value.bool true := h.d 16
   have e2 : _ = Value.pointer (some ⟨w0.heap.size, 0, none⟩) := h.r 2
   exact Fg.vx (Value.pointer (some ⟨w0.heap.size, 10, none⟩)) (wants_some (d := 16) rfl rfl (by rw [h.size]; show 16 < 29; decide) e16) (Fg.run_fieldAddr rfl e2 (fa_point2 _ _ _))
  refine Fg.vS rfl (by decide) (fun ac w h => ?_) ?_
  ·have e16 : _ = Value.bool true := h.d 16
   have e24 : _ = Value.pointer (some ⟨w0.heap.size, 10, none⟩) := h.d 24
   exact Fg.vx p.Z.v (wants_some (d := 16) rfl rfl (by rw [h.size]; show 16 < 29; decide) e16) (Fg.run_load rfl e24 ((hP.gn h.base).range 10 (feL p.Z) rfl) Tryd.underlying26 rfl info_elem)
  refine Fg.cS rfl (by decide) (fun ac w h => ?_) ?_
  ·have e16 : _ = Value.bool true := h.d 16
   have e23 : _ = q.Y.v := h.d 23
   have e25 : _ = p.Z.v := h.d 25
   refine ⟨wants_some (d := 16) rfl rfl (by rw [h.size]; show 16 < 29; decide) e16, 25, #[q.Y.v, p.Z.v], Fg.run_call rfl rfl (by simp only [List.map_toArray, List.map_cons, List.map_nil, Act.eval, e23, e25]) (Fg.run_enter Tryd.func25 (by kernel_rfl) (by kernel_rfl)), ?_⟩
   exact (t_mul okq.Y okp.Z).mono fun _ _ ⟨he, hg⟩ => ⟨_, he, hg, rfl⟩
  refine Fg.cS rfl (by decide) (fun ac w h => ?_) ?_
  ·have e16 : _ = Value.bool true := h.d 16
   have e21 : _ = (Fe.mulF p.Y q.Z).v := h.d 21
   have e26 : _ = (Fe.mulF q.Y p.Z).v := h.d 26
   refine ⟨wants_some (d := 16) rfl rfl (by rw [h.size]; show 16 < 29; decide) e16, 24, #[(Fe.mulF p.Y q.Z).v, (Fe.mulF q.Y p.Z).v], Fg.run_call rfl rfl (by simp only [List.map_toArray, List.map_cons, List.map_nil, Act.eval, e21, e26]) (Fg.run_enter Tryd.func24 (by kernel_rfl) (by kernel_rfl)), ?_⟩
   exact (t_same (Fe.mul_right _ _).ok (Fe.mul_right _ _).ok h2).mono fun _ _ ⟨he, hg⟩ => ⟨_, he, hg, rfl⟩
  refine Fg.vS rfl (by decide) (fun ac w h => ?_) ?_
  ·have e16 : _ = Value.bool true := h.d 16
   have e27 : _ = Value.bool false := h.d 27
   refine ⟨wants_none rfl, Value.bool false, w, ?_, gb_refl _ _, rfl⟩
   clear h
   simp only [execOp, Act.eval, e16, e27]
   go_simp
  refine Fg.vS rfl (by decide) (fun ac w h => ?_) ?_
  ·have e28 : _ = Value.bool false := h.d 28
   exact Fg.vn (Value.bool false) (Fg.run_assign rfl e28)
  trivial
 ·intro qa V1 g1 hsz hdf hrest hslots hpt
  obtain ⟨u5, hs5⟩ := Fg.slotv qa 5
  obtain ⟨u6, hs6⟩ := Fg.slotv qa 6
  obtain ⟨u7, hs7⟩ := Fg.slotv qa 7
  obtain ⟨u8, hs8⟩ := Fg.slotv qa 8
  obtain ⟨u9, hs9⟩ := Fg.slotv qa 9
  obtain ⟨u10, hs10⟩ := Fg.slotv qa 10
  obtain ⟨u11, hs11⟩ := Fg.slotv qa 11
  obtain ⟨u12, hs12⟩ := Fg.slotv qa 12
  obtain ⟨u13, hs13⟩ := Fg.slotv qa 13
  obtain ⟨u14, hs14⟩ := Fg.slotv qa 14
  obtain ⟨u15, hs15⟩ := Fg.slotv qa 15
  obtain ⟨u16, hs16⟩ := Fg.slotv qa 16
  obtain ⟨u17, hs17⟩ := Fg.slotv qa 17
  obtain ⟨u18, hs18⟩ := Fg.slotv qa 18
  obtain ⟨u19, hs19⟩ := Fg.slotv qa 19
  obtain ⟨u20, hs20⟩ := Fg.slotv qa 20
  obtain ⟨u21, hs21⟩ := Fg.slotv qa 21
  obtain ⟨u22, hs22⟩ := Fg.slotv qa 22
  obtain ⟨u23, hs23⟩ := Fg.slotv qa 23
  obtain ⟨u24, hs24⟩ := Fg.slotv qa 24
  obtain ⟨u25, hs25⟩ := Fg.slotv qa 25
  obtain ⟨u26, hs26⟩ := Fg.slotv qa 26
  obtain ⟨u27, hs27⟩ := Fg.slotv qa 27
  obtain ⟨u28, hs28⟩ := Fg.slotv qa 28
  obtain rfl := Fg.frame_by [4, 5, 6, 7, 8, 9, 10, 11, 12, 13, 14, 15, 16, 17, 18, 19, 20, 21, 22, 23, 24, 25, 26, 27, 28] (vs := [p.v, q.v, Value.pointer (some ⟨w0.heap.size, 0, none⟩), Value.pointer (some ⟨w0.heap.size + 1, 0, none⟩), Value.bool false, u5, u6, u7, u8, u9, u10, u11, u12, u13, u14, u15, u16, u17, u18, u19, u20, u21, u22, u23, u24, u25, u26, u27, u28]) hsz hrest (by kernel_rfl) rfl rfl ⟨(show qa.tmps.getD 4 undef = Value.bool false from hslots 4 (by kernel_rfl)), hs5, hs6, hs7, hs8, hs9, hs10, hs11, hs12, hs13, hs14, hs15, hs16, hs17, hs18, hs19, hs20, hs21, hs22, hs23, hs24, hs25, hs26, hs27, hs28, trivial⟩ hdf
  clear hsz hdf hrest hslots hpt hs5 hs6 hs7 hs8 hs9 hs10 hs11 hs12 hs13 hs14 hs15 hs16 hs17 hs18 hs19 hs20 hs21 hs22 hs23 hs24 hs25 hs26 hs27 hs28
  replace hP := hP.gn g1
  replace hQ := hQ.gn g1
  replace G := gb_trans G g1
  clear g1
  go_wp2_with fail
  go_ret
  exact ⟨rfl, G⟩
set_option maxRecDepth 100000 in
set_option maxHeartbeats 3200000 in
theorem same_f (p q : Pt) (w0 : World) (okp : p.Ok) (okq : q.Ok) (h1 : sx p q = false) :
  Calls Tryd.prog 9 #[p.v, q.v] w0 fun e w' => e = .returned (.bool false) ∧ w0.grownBy w' none := by
 show Calls Tryd.prog 9 #[.agg (ptL p).toArray, .agg (ptL q).toArray] w0 _
 go_enter Tryd.func9, Tryd.ntmps9
 go_upto_region 1 with (fail)
 have G : w0.grownBy ((w0.alloc (.cells (ptL p).toArray 28)).alloc (.cells (ptL q).toArray 28)) none := gb_alloc (gb_alloc (gb_refl _ _) _) _
 have hP : Blk ((w0.alloc (.cells (ptL p).toArray 28)).alloc (.cells (ptL q).toArray 28)) (w0.heap.size) 28 (ptL p) := (Blk.new w0 (ptL p) _).alloc _
 have hQ : Blk ((w0.alloc (.cells (ptL p).toArray 28)).alloc (.cells (ptL q).toArray 28)) (w0.heap.size + 1) 28 (ptL q) := Blk.newAt (w0.alloc _) (ptL q) _ (by simp)
 revert G hP hQ
 generalize (w0.alloc (.cells (ptL p).toArray 28)).alloc (.cells (ptL q).toArray 28) = W0
 intro G hP hQ
 have Gs := G.size
 have Gs0 := G.size
 have l1hP := hP.lt
 have l1hQ := hQ.lt
 refine Fg.rT [] [.any, .any, .any, .any, .val (Value.bool false), .val (Value.pointer (some ⟨w0.heap.size, 0, none⟩)), .val (p.X.v), .val (Value.pointer (some ⟨w0.heap.size + 1, 10, none⟩)), .val (q.Z.v), .val ((Fe.mulF p.X q.Z).v), .val (Value.pointer (some ⟨w0.heap.size + 1, 0, none⟩)), .val (q.X.v), .val (Value.pointer (some ⟨w0.heap.size, 10, none⟩)), .val (p.Z.v), .val ((Fe.mulF q.X p.Z).v), .val (Value.bool false), .val (Value.bool false), .val undef, .val undef, .val undef, .val undef, .val undef, .val undef, .val undef, .val undef, .val undef, .val undef, .val undef, .val (Value.bool false)] 25 ?_ ?_
 ·refine Fg.vS rfl (by decide) (fun ac w h => ?_) ?_
  ·have e2 : _ = Value.pointer (some ⟨w0.heap.size, 0, none⟩) := h.r 2
   exact Fg.vn (Value.pointer (some ⟨w0.heap.size, 0, none⟩)) (Fg.run_fieldAddr rfl e2 (fa_point0 _ _ _))
  refine Fg.vS rfl (by decide) (fun ac w h => ?_) ?_
  ·have e5 : _ = Value.pointer (some ⟨w0.heap.size, 0, none⟩) := h.d 5
   exact Fg.vn p.X.v (Fg.run_load rfl e5 ((hP.gn h.base).range 0 (feL p.X) rfl) Tryd.underlying26 rfl info_elem)
  refine Fg.vS rfl (by decide) (fun ac w h => ?_) ?_
  ·have e3 : _ = Value.pointer (some ⟨w0.heap.size + 1, 0, none⟩) := h.r 3
   exact Fg.vn (Value.pointer (some ⟨w0.heap.size + 1, 10, none⟩)) (Fg.run_fieldAddr rfl e3 (fa_point2 _ _ _))
  refine Fg.vS rfl (by decide) (fun ac w h => ?_) ?_
  ·have e7 : _ = Value.pointer (some ⟨w0.heap.size + 1, 10, none⟩) := h.d 7
   exact Fg.vn q.Z.v (Fg.run_load rfl e7 ((hQ.gn h.base).range 10 (feL q.Z) rfl) Tryd.underlying26 rfl info_elem)
  refine Fg.cS rfl (by decide) (fun ac w h => ?_) ?_
  ·have e6 : _ = p.X.v := h.d 6
   have e8 : _ = q.Z.v := h.d 8
   refine ⟨wants_none rfl, 25, #[p.X.v, q.Z.v], Fg.run_call rfl rfl (by simp only [List.map_toArray, List.map_cons, List.map_nil, Act.eval, e6, e8]) (Fg.run_enter Tryd.func25 (by kernel_rfl) (by kernel_rfl)), ?_⟩
   exact (t_mul okp.X okq.Z).mono fun _ _ ⟨he, hg⟩ => ⟨_, he, hg, rfl⟩
  refine Fg.vS rfl (by decide) (fun ac w h => ?_) ?_
  ·have e3 : _ = Value.pointer (some ⟨w0.heap.size + 1, 0, none⟩) := h.r 3
   exact Fg.vn (Value.pointer (some ⟨w0.heap.size + 1, 0, none⟩)) (Fg.run_fieldAddr rfl e3 (fa_point0 _ _ _))
  refine Fg.vS rfl (by decide) (fun ac w h => ?_) ?_
  ·have e10 : _ = Value.pointer (some ⟨w0.heap.size + 1, 0, none⟩) := h.d 10
   exact Fg.vn q.X.v (Fg.run_load rfl e10 ((hQ.gn h.base).range 0 (feL q.X) rfl) Tryd.underlying26 rfl info_elem)
  refine Fg.vS rfl (by decide) (fun ac w h => ?_) ?_
  ·have e2 : _ = Value.pointer (some ⟨w0.heap.size, 0, none⟩) := h.r 2
   exact Fg.vn (Value.pointer (some ⟨w0.heap.size, 10, none⟩)) (Fg.run_fieldAddr rfl e2 (fa_point2 _ _ _))
  refine Fg.vS rfl (by decide) (fun ac w h => ?_) ?_
  ·have e12 : _ = Value.pointer (some ⟨w0.heap.size, 10, none⟩) := h.d 12
   exact Fg.vn p.Z.v (Fg.run_load rfl e12 ((hP.gn h.base).range 10 (feL p.Z) rfl) Tryd.underlying26 rfl info_elem)
  refine Fg.cS rfl (by decide) (fun ac w h => ?_) ?_
  ·have e11 : _ = q.X.v := h.d 11
   have e13 : _ = p.Z.v := h.d 13
   refine ⟨wants_none rfl, 25, #[q.X.v, p.Z.v], Fg.run_call rfl rfl (by simp only [List.map_toArray, List.map_cons, List.map_nil, Act.eval, e11, e13]) (Fg.run_enter Tryd.func25 (by kernel_rfl) (by kernel_rfl)), ?_⟩
   exact (t_mul okq.X okp.Z).mono fun _ _ ⟨he, hg⟩ => ⟨_, he, hg, rfl⟩
  refine Fg.cS rfl (by decide) (fun ac w h => ?_) ?_
  ·have e9 : _ = (Fe.mulF p.X q.Z).v := h.d 9
   have e14 : _ = (Fe.mulF q.X p.Z).v := h.d 14
   refine ⟨wants_none rfl, 24, #[(Fe.mulF p.X q.Z).v, (Fe.mulF q.X p.Z).v], Fg.run_call rfl rfl (by simp only [List.map_toArray, List.map_cons, List.map_nil, Act.eval, e9, e14]) (Fg.run_enter Tryd.func24 (by kernel_rfl) (by kernel_rfl)), ?_⟩
   exact (t_same (Fe.mul_right _ _).ok (Fe.mul_right _ _).ok h1).mono fun _ _ ⟨he, hg⟩ => ⟨_, he, hg, rfl⟩
  refine Fg.vS rfl (by decide) (fun ac w h => ?_) ?_
  ·have e15 : _ = Value.bool false := h.d 15
   exact Fg.vn (Value.bool false) (Fg.run_move rfl e15)
  refine ⟨⟨⟨_, rfl⟩, Fg.skippedP rfl (by decide) (fun _ => rfl) fun ac w h => ?_⟩, ?_⟩
  ·have e16 : _ = Value.bool false := h.d 16
   exact not_wants (d := 16) rfl rfl (by rw [h.size]; show 16 < 29; decide) e16 (by decide)
  refine ⟨⟨⟨_, rfl⟩, Fg.skippedP rfl (by decide) (fun _ => rfl) fun ac w h => ?_⟩, ?_⟩
  ·have e16 : _ = Value.bool false := h.d 16
   exact not_wants (d := 16) rfl rfl (by rw [h.size]; show 16 < 29; decide) e16 (by decide)
  refine ⟨⟨⟨_, rfl⟩, Fg.skippedP rfl (by decide) (fun _ => rfl) fun ac w h => ?_⟩, ?_⟩
  ·have e16 : _ = Value.bool false := h.d 16
   exact not_wants (d := 16) rfl rfl (by rw [h.size]; show 16 < 29; decide) e16 (by decide)
  refine ⟨⟨⟨_, rfl⟩, Fg.skippedP rfl (by decide) (fun _ => rfl) fun ac w h => ?_⟩, ?_⟩
  ·have e16 : _ = Value.bool false := h.d 16
   exact not_wants (d := 16) rfl rfl (by rw [h.size]; show 16 < 29; decide) e16 (by decide)
  refine ⟨⟨⟨_, rfl⟩, Fg.skippedP rfl (by decide) (fun _ => rfl) fun ac w h => ?_⟩, ?_⟩
  ·have e16 : _ = Value.bool false := h.d 16
   exact not_wants (d := 16) rfl rfl (by rw [h.size]; show 16 < 29; decide) e16 (by decide)
  refine ⟨⟨⟨_, rfl⟩, Fg.skippedP rfl (by decide) (fun _ => rfl) fun ac w h => ?_⟩, ?_⟩
  ·have e16 : _ = Value.bool false := h.d 16
   exact not_wants (d := 16) rfl rfl (by rw [h.size]; show 16 < 29; decide) e16 (by decide)
  refine ⟨⟨⟨_, rfl⟩, Fg.skippedP rfl (by decide) (fun _ => rfl) fun ac w h => ?_⟩, ?_⟩
  ·have e16 : _ = Value.bool false := h.d 16
   exact not_wants (d := 16) rfl rfl (by rw [h.size]; show 16 < 29; decide) e16 (by decide)
  refine ⟨⟨⟨_, rfl⟩, Fg.skippedP rfl (by decide) (fun _ => rfl) fun ac w h => ?_⟩, ?_⟩
  ·have e16 : _ = Value.bool false := h.d 16
   exact not_wants (d := 16) rfl rfl (by rw [h.size]; show 16 < 29; decide) e16 (by decide)
  refine ⟨⟨⟨_, rfl⟩, Fg.skippedP rfl (by decide) (fun _ => rfl) fun ac w h => ?_⟩, ?_⟩
  ·have e16 : _ = Value.bool false := h.d 16
   exact not_wants (d := 16) rfl rfl (by rw [h.size]; show 16 < 29; decide) e16 (by decide)
  refine ⟨⟨⟨_, rfl⟩, Fg.skippedP rfl (by decide) (fun _ => rfl) fun ac w h => ?_⟩, ?_⟩
  ·have e16 : _ = Value.bool false := h.d 16
   exact not_wants (d := 16) rfl rfl (by rw [h.size]; show 16 < 29; decide) e16 (by decide)
  refine ⟨⟨⟨_, rfl⟩, Fg.skippedP rfl (by decide) (fun _ => rfl) fun ac w h => ?_⟩, ?_⟩
  ·have e16 : _ = Value.bool false := h.d 16
   exact not_wants (d := 16) rfl rfl (by rw [h.size]; show 16 < 29; decide) e16 (by decide)
  refine Fg.vS rfl (by decide) (fun ac w h => ?_) ?_
  ·have e16 : _ = Value.bool false := h.d 16
   refine ⟨wants_none rfl, Value.bool false, w, ?_, gb_refl _ _, rfl⟩
   clear h
   simp only [execOp, Act.eval, e16]
   go_simp
  refine Fg.vS rfl (by decide) (fun ac w h => ?_) ?_
  ·have e28 : _ = Value.bool false := h.d 28
   exact Fg.vn (Value.bool false) (Fg.run_assign rfl e28)
  trivial
 ·intro qa V1 g1 hsz hdf hrest hslots hpt
  obtain ⟨u5, hs5⟩ := Fg.slotv qa 5
  obtain ⟨u6, hs6⟩ := Fg.slotv qa 6
  obtain ⟨u7, hs7⟩ := Fg.slotv qa 7
  obtain ⟨u8, hs8⟩ := Fg.slotv qa 8
  obtain ⟨u9, hs9⟩ := Fg.slotv qa 9
  obtain ⟨u10, hs10⟩ := Fg.slotv qa 10
  obtain ⟨u11, hs11⟩ := Fg.slotv qa 11
  obtain ⟨u12, hs12⟩ := Fg.slotv qa 12
  obtain ⟨u13, hs13⟩ := Fg.slotv qa 13
  obtain ⟨u14, hs14⟩ := Fg.slotv qa 14
  obtain ⟨u15, hs15⟩ := Fg.slotv qa 15
  obtain ⟨u16, hs16⟩ := Fg.slotv qa 16
  obtain ⟨u17, hs17⟩ := Fg.slotv qa 17
  obtain ⟨u18, hs18⟩ := Fg.slotv qa 18
  obtain ⟨u19, hs19⟩ := Fg.slotv qa 19
  obtain ⟨u20, hs20⟩ := Fg.slotv qa 20
  obtain ⟨u21, hs21⟩ := Fg.slotv qa 21
  obtain ⟨u22, hs22⟩ := Fg.slotv qa 22
  obtain ⟨u23, hs23⟩ := Fg.slotv qa 23
  obtain ⟨u24, hs24⟩ := Fg.slotv qa 24
  obtain ⟨u25, hs25⟩ := Fg.slotv qa 25
  obtain ⟨u26, hs26⟩ := Fg.slotv qa 26
  obtain ⟨u27, hs27⟩ := Fg.slotv qa 27
  obtain ⟨u28, hs28⟩ := Fg.slotv qa 28
  obtain rfl := Fg.frame_by [4, 5, 6, 7, 8, 9, 10, 11, 12, 13, 14, 15, 16, 17, 18, 19, 20, 21, 22, 23, 24, 25, 26, 27, 28] (vs := [p.v, q.v, Value.pointer (some ⟨w0.heap.size, 0, none⟩), Value.pointer (some ⟨w0.heap.size + 1, 0, none⟩), Value.bool false, u5, u6, u7, u8, u9, u10, u11, u12, u13, u14, u15, u16, u17, u18, u19, u20, u21, u22, u23, u24, u25, u26, u27, u28]) hsz hrest (by kernel_rfl) rfl rfl ⟨(show qa.tmps.getD 4 undef = Value.bool false from hslots 4 (by kernel_rfl)), hs5, hs6, hs7, hs8, hs9, hs10, hs11, hs12, hs13, hs14, hs15, hs16, hs17, hs18, hs19, hs20, hs21, hs22, hs23, hs24, hs25, hs26, hs27, hs28, trivial⟩ hdf
  clear hsz hdf hrest hslots hpt hs5 hs6 hs7 hs8 hs9 hs10 hs11 hs12 hs13 hs14 hs15 hs16 hs17 hs18 hs19 hs20 hs21 hs22 hs23 hs24 hs25 hs26 hs27 hs28
  replace hP := hP.gn g1
  replace hQ := hQ.gn g1
  replace G := gb_trans G g1
  clear g1
  go_wp2_with fail
  go_ret
  exact ⟨rfl, G⟩
theorem edSame (p q : Pt) (w0 : World) (okp : p.Ok) (okq : q.Ok) : Tells 9 #[p.v, q.v] w0 (.bool (sx p q && sy p q)) := by
 cases h1 : sx p q
 ·exact same_f p q w0 okp okq h1
 ·cases h2 : sy p q
  ·exact same_tf p q w0 okp okq h1 h2
  ·exact same_tt p q w0 okp okq h1 h2
theorem same_pr {s t : Pt} {p q : Pr} (h : PtIs s p) (k : PtIs t q) : (sx s t && sy s t) = true ↔ p = q := by
 rw [Bool.and_eq_true]
 unfold sx sy
 rw [decide_eq_true_iff, decide_eq_true_iff]
 exact sameIs h k

end Go.Proofs.YtleegbaigedebaaDoor

/- edwards: slots that hold a point that stands for a pair; rows of such. -/
namespace Go.Proofs.YtleegbaigedebaaDoor
open Go.RowKit Ow Ed
def Fg.It.stands (r : Pr) : It := ⟨fun v _ => ∃ t : Pt, v = t.v ∧ PtIs t r, fun _ _ _ h _ => h⟩
def Fg.It.pts (ps : List Pr) (n n0 : Nat) : It := ⟨fun v w => ∃ (N : Nat) (L : List Pt), v = .slice (some ⟨N, 0, none⟩) n n ∧ n0 ≤ N ∧ PtsAre L ps ∧ Blk w N 28 (ptsL L), fun _ _ _ ⟨N, L, e, hn, ha, h⟩ hg => ⟨N, L, e, hn, ha, h.grown hg (by simp)⟩⟩
theorem ptsAre_0 : PtsAre [] [] := ⟨rfl, fun i hi => by simp at hi⟩
theorem ptsAre_c {t : Pt} {p : Pr} {L : List Pt} {ps : List Pr} (h : PtIs t p) (k : PtsAre L ps) : PtsAre (t :: L) (p :: ps) := ⟨by simp [k.1], fun i hi => by
  cases i with
  | zero => exact h
  | succ i => exact k.2 i (by simpa using hi)⟩
theorem edSameIs {s t : Pt} {p q : Pr} {b : Bool} (w : World) (h : PtIs s p) (k : PtIs t q) (hb : b = true ↔ p = q) : Tells 9 #[s.v, t.v] w (.bool b) := by
  have e : (sx s t && sy s t) = b := Bool.eq_iff_iff.2 ((same_pr h k).trans hb.symm)
  rw [← e]
  exact edSame s t w h.ok k.ok
theorem edAddIs (N n : Nat) (L : List Pt) (ps : List Pr) (w : World) (HT : ETab w) (hn : ps.length = n) (h1 : 1 ≤ n) (h2 : n ≤ 1000) (hI : PtsAre L ps) (hb : Blk w N 28 (ptsL L)) :
    Calls Tryd.prog 8 #[.slice (some ⟨N, 0, none⟩) n n] w (PtOut (sumPr ps) w) :=
  edAdd N n L ps [] w HT (hI.1.trans hn) h1 h2 hI (by rw [List.append_nil]; exact hb)
end Go.Proofs.YtleegbaigedebaaDoor

/- edwards: rightLimbs, of elements that are right. -/
namespace Go.Proofs.YtleegbaigedebaaDoor
open Go.RowKit Ed
theorem elsL_get (L : List Fe) (k i : Nat) (hk : k < L.length) (hi : i < 5) : (elsL L)[5 * k + i]? = some (.int .u64 ((L.getD k Fe.zeroF).at i)) := by
  induction L generalizing k with
  | nil => simp at hk
  | cons x r ih =>
    cases k with
    | zero =>
      show (feL x ++ elsL r)[5 * 0 + i]? = _
      rw [List.getElem?_append_left (by show 5 * 0 + i < 5; omega)]
      obtain rfl | rfl | rfl | rfl | rfl : i = 0 ∨ i = 1 ∨ i = 2 ∨ i = 3 ∨ i = 4 := by omega
      all_goals rfl
    | succ k =>
      show (feL x ++ elsL r)[5 * (k + 1) + i]? = _
      rw [List.getElem?_append_right (by show 5 ≤ _; omega), show 5 * (k + 1) + i - (feL x).length = 5 * k + i by show 5 * (k + 1) + i - 5 = _; omega]
      exact ih k (by simpa using hk)
theorem limb_at (x : Fe) (j : Nat) (hj : j < 5) (w : World) : (Instr.index 26 (.agg #[.int .u64 x.x0, .int .u64 x.x1, .int .u64 x.x2, .int .u64 x.x3, .int .u64 x.x4]) (.int .i64 (j : Int))).run Tryd.prog w = .ok (.int .u64 (x.at j)) w := by
  obtain rfl | rfl | rfl | rfl | rfl : j = 0 ∨ j = 1 ∨ j = 2 ∨ j = 3 ∨ j = 4 := by omega
  all_goals kernel_rfl
set_option maxRecDepth 100000 in
set_option maxHeartbeats 1600000 in
theorem rightLimbs_any (PB n : Nat) (L : List Fe) (w : World) (hn : L.length = n) (hn2 : n ≤ 1000) (hr : ∀ a ∈ L, a.Right) (hb : Blk w PB 26 (elsL L)) :
    Calls Tryd.prog 38 #[.slice (some ⟨PB, 0, none⟩) n n] w fun e w' => e = .returned (.bool true) ∧ w.grownBy w' none := by
  have Hn := Lib.hid hn; clear hn
  have Hr := Lib.hid hr; clear hr
  go_enter Tryd.func38, Tryd.ntmps38
  go_wp2
  go_loopw [9] (fun i wr => ∃ k : Nat, k ≤ n ∧ i = .int .i64 k ∧ w.grownBy wr none) (fun i _ => n - (intOf i).toNat)
  case atStart => exact ⟨0, by omega, rfl, gb_refl _ _⟩
  case round =>
    obtain ⟨k, hk, rfl, hg⟩ := hrel
    by_cases hkn : k < n
    · have hkl : k < L.length := by rw [Hn.out]; exact hkn
      obtain ⟨x, hx⟩ : ∃ x, x = L.getD k Fe.zeroF := ⟨_, rfl⟩
      have hmem : x ∈ L := by rw [hx, List.getD_eq_getElem?_getD, List.getElem?_eq_getElem hkl]; exact List.getElem_mem hkl
      have hxr := Hr.out x hmem
      have hbr := hb.grown hg (by simp)
      have hget : ∀ j, j < 5 → wr.cell? ⟨PB, k * 5 + j, none⟩ = some (.int .u64 (x.at j)) := fun j hj => by rw [hx, Nat.mul_comm k 5]; exact hbr.cell (elsL_get L k j hkl hj)
      have c0 : wr.cell? ⟨PB, k * 5, none⟩ = some (.int .u64 x.x0) := hget 0 (by decide)
      have c1 : wr.cell? ⟨PB, k * 5 + 1, none⟩ = some (.int .u64 x.x1) := hget 1 (by decide)
      have c2 : wr.cell? ⟨PB, k * 5 + 2, none⟩ = some (.int .u64 x.x2) := hget 2 (by decide)
      have c3 : wr.cell? ⟨PB, k * 5 + 3, none⟩ = some (.int .u64 x.x3) := hget 3 (by decide)
      have c4 : wr.cell? ⟨PB, k * 5 + 4, none⟩ = some (.int .u64 x.x4) := hget 4 (by decide)
      have i0 : (k : Int) < n := by omega
      clear hget hx hmem hkl hbr
      have HX := Lib.hid hxr; clear hxr
      go_wp2
      go_loop [14] (fun t => ∃ j : Nat, j ≤ 5 ∧ t = .int .i64 j) (fun t => 5 - (intOf t).toNat)
      case atStart => exact ⟨0, by omega, rfl⟩
      case round =>
        obtain ⟨j, hj, rfl⟩ := hrel
        by_cases hj5 : j < 5
        · have hix := limb_at x j hj5
          have hb5 : (0 ≤ x.at j ∧ x.at j < 4503599627370496) := by
            obtain rfl | rfl | rfl | rfl | rfl : j = 0 ∨ j = 1 ∨ j = 2 ∨ j = 3 ∨ j = 4 := by omega
            · exact ⟨HX.out.n0, HX.out.l0⟩
            · exact ⟨HX.out.n1, HX.out.l1⟩
            · exact ⟨HX.out.n2, HX.out.l2⟩
            · exact ⟨HX.out.n3, HX.out.l3⟩
            · exact ⟨HX.out.n4, HX.out.l4⟩
          obtain ⟨b0, b1⟩ := hb5
          have j0 : (j : Int) < 5 := by omega
          generalize x.at j = y at *
          go_wp2
          go_round
          case rel => exact ⟨j + 1, by omega, by go_num⟩
          case measure => simp [intOf]; omega
        · obtain rfl : j = 5 := by omega
          clear c0 c1 c2 c3 c4
          go_wp2
          go_roundw
          case rel => exact ⟨k + 1, by omega, by go_num, gb_alloc hg _⟩
          case measure => simp [intOf]; omega
    · obtain rfl : k = n := by omega
      go_wp2
      go_ret
      exact ⟨rfl, hg⟩
end Go.Proofs.YtleegbaigedebaaDoor
