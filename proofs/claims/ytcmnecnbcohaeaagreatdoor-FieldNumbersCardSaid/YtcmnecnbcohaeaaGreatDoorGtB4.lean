/- texts merged, part 4: XNrReck XMake XPart XLent XOwnRows XFlat XFlatGrow XPut XFlatB XFlatNil XBag XApart XOwnDown XApart2 XApartT XKept -/
import Derived.Test.YtcmnecnbcohaeaaGreatDoorGtB3
import Derived.Test.YtcmnecnbcohaeaaGreatDoorGtB1
import Derived.WalkKit
import Derived.WalkSpells
import Derived.WalkLawsBesides
import Derived.Lib.Hide
import Derived.BigQuiet
import Derived.Deep.QuietTactic
import Derived.BigGuardPart
import Derived.BigRegion
import Derived.RegionTactic
import Derived.Deep.RegionWith
import Derived.IntWalk
/- The law FieldReckons' walk. -/
namespace Go.Proofs.YtcmnecnbcohaeaaGreatDoor
open Go.RowKit Ns Ow
theorem feOut_and {F : Fe} {w : World} {f : FuncId} {vs : Array Value} (h : Calls Tryz.prog f vs w (FeOut F w)) : Calls Tryz.prog f vs w fun e w' => e = .returned F.v ∧ w.grownBy w' none := h.mono fun _ _ h => feOut_is h
theorem ldE {ρ : Operand → Value} {o : Oper} {w : World} {x : Operand} {B : Nat} {a : Fe} (ho : o.op = .load 27 x) (hx : ρ x = .pointer (some ⟨B, 0, none⟩)) (h : Blk w B 27 (feL a)) : (execOp ρ o).run Tryz.prog w = .ok (.value a.v) w :=
  Fg.run_load ho hx (h.range 0 (feL a) rfl) Tryz.underlying27 rfl Nr.info_elem5
theorem c_put (r : Fe) (w : World) (h : r.Ok) : Calls Tryz.prog 12 #[r.v] w (YOut w (Nr.byL (num r.m))) := by
  rw [Nr.feN_v h]
  exact Nr.put_out r w h
theorem c_one (w : World) : Calls Tryz.prog 16 #[] w fun e w' => e = .returned Fe.oneF.v ∧ w.grownBy w' none := feOut_and (one_any w)
theorem one_rt : Fe.oneF.Right := by constructor <;> decide
theorem run_eqB {ρ : Operand → Value} {o : Oper} {w : World} {x y : Operand} {t : TypeId} {b : Bool} (ho : o.op = .binOp .eql 4 x y t) (hx : ρ x = .bool b) (hy : ρ y = .bool b) : (execOp ρ o).run Tryz.prog w = .ok (.value (.bool true)) w := by
  unfold execOp
  simp only [ho, hx, hy]
  cases b <;> go_simp
theorem eql_same (u v : Nat) (hu : u < Fe.P) (hv : v < Fe.P) : decide (num u = num v) = decide (u = v) := by
  rw [Bool.eq_iff_iff, decide_eq_true_iff, decide_eq_true_iff]
  exact Nr.num_inj hu hv
set_option maxRecDepth 100000 in
set_option maxHeartbeats 8000000 in
theorem reck_any (a b : Fe) (w0 : World) (hT : FTab w0) (ha : a.Ok) (hb : b.Ok) : Calls Tryz.prog 14 #[a.v, b.v] w0 fun e w' => e = .returned (.bool true) ∧ w0.grownBy w' none := by
  have HT := Lib.hid hT; clear hT
  have HO := Lib.hid (And.intro ha hb); clear ha hb
  have hra := Nr.rB_right HO.out.1
  have hrb := Nr.rB_right HO.out.2
  have cra := fun w => Nr.c_right a w HO.out.1
  have crb := fun w => Nr.c_right b w HO.out.2
  obtain ⟨ra, hrae⟩ : ∃ r, r = Nr.rB a := ⟨_, rfl⟩
  obtain ⟨rb, hrbe⟩ : ∃ r, r = Nr.rB b := ⟨_, rfl⟩
  rw [← hrae] at hra cra
  rw [← hrbe] at hrb crb
  clear hrae hrbe
  have HR := Lib.hid (And.intro hra (And.intro hrb (And.intro cra crb))); clear hra hrb cra crb
  unfold Fe.v
  go_enter Tryz.func14, Tryz.ntmps14
  go_upto_region 1 with (fail)
  show Code.wp _ _ _ _ ((w0.alloc (.cells (feL a).toArray 27)).alloc (.cells (feL b).toArray 27))
  have b1 := (Blk.new w0 (feL a) 27).alloc (.cells (feL b).toArray 27)
  have b2 := blk_at (w0.alloc (.cells (feL a).toArray 27)) (B := w0.heap.size + 1) (feL b) 27 (by simp)
  have g2 := gb_alloc (gb_alloc (gb_refl w0 none) (.cells (feL a).toArray 27)) (.cells (feL b).toArray 27)
  revert g2; revert b2; revert b1
  generalize (w0.alloc (.cells (feL a).toArray 27)).alloc (.cells (feL b).toArray 27) = w2
  intro b1 b2 g2
  have H2 := Lib.hid (And.intro g2 (And.intro b1 b2)); clear g2 b1 b2
  have qa : ∀ w, w2.grownBy w none → Blk w w0.heap.size 27 (feL a) := fun w h => H2.out.2.1.grown h (by simp)
  have qb : ∀ w, w2.grownBy w none → Blk w (w0.heap.size + 1) 27 (feL b) := fun w h => H2.out.2.2.grown h (by simp)
  have HB := Lib.hid (And.intro qa qb); clear qa qb
  have p0 := H2.out.2.1.cell (i := 0) rfl
  have p1 := H2.out.2.1.cell (i := 1) rfl
  have p2 := H2.out.2.1.cell (i := 2) rfl
  have p3 := H2.out.2.1.cell (i := 3) rfl
  have p4 := H2.out.2.1.cell (i := 4) rfl
  go_wp2_with fail
  refine (HR.out.2.2.1 w2).mono ?_
  rintro e w3 ⟨rfl, hg3⟩
  have H3 := Lib.hid hg3; clear hg3 p0 p1 p2 p3 p4
  have r0 := (HB.out.2 w3 H3.out).cell (i := 0) rfl
  have r1 := (HB.out.2 w3 H3.out).cell (i := 1) rfl
  have r2 := (HB.out.2 w3 H3.out).cell (i := 2) rfl
  have r3 := (HB.out.2 w3 H3.out).cell (i := 3) rfl
  have r4 := (HB.out.2 w3 H3.out).cell (i := 4) rfl
  cases ra with
  | false =>
    clear r0 r1 r2 r3 r4
    go_upto_region 2 with (fail)
    refine Fg.region_t [] [.any, .any, .any, .any, .any, .any, .any, .any, .any, .any, .any, .any, .any, .any, .any, .any, .val (a.v), .val (b.v), .val ((Fe.addF a b).v), .val (a.v), .val (b.v), .val ((Fe.subF a b).v), .val ((Fe.mulF (Fe.addF a b) (Fe.subF a b)).v), Fg.It.by (Nr.byL (num (Fe.mulF (Fe.addF a b) (Fe.subF a b)).m))] w3 8 (gb_refl _ _) (by kernel_rfl) (by kernel_rfl) (by kernel_rfl) (by kernel_rfl) (by decide) (by kernel_rfl) ?_ ?_
    · refine ⟨Fg.vT rfl (by decide) fun ac w h => ?_, ?_⟩
      · have e2 : ac.tmps.getD 2 undef = Value.pointer (some ⟨w0.heap.size, 0, none⟩) := h.rest 2 (by kernel_rfl)
        refine ⟨a.v, w, wants_none rfl, ?_, gb_refl _ _, rfl⟩
        exact ldE rfl e2 (HB.out.1 w (gb_trans H3.out h.base))
      refine ⟨Fg.vT rfl (by decide) fun ac w h => ?_, ?_⟩
      · have e3 : ac.tmps.getD 3 undef = Value.pointer (some ⟨w0.heap.size + 1, 0, none⟩) := h.rest 3 (by kernel_rfl)
        refine ⟨b.v, w, wants_none rfl, ?_, gb_refl _ _, rfl⟩
        exact ldE rfl e3 (HB.out.2 w (gb_trans H3.out h.base))
      refine ⟨Fg.cT rfl (by decide) fun ac w h => ?_, ?_⟩
      · have e16 : ac.tmps.getD 16 undef = a.v := h.dep 16 (by kernel_rfl)
        have e17 : ac.tmps.getD 17 undef = b.v := h.dep 17 (by kernel_rfl)
        refine ⟨36, #[a.v, b.v], wants_none rfl, Fg.run_call rfl rfl (by simp only [List.map_toArray, List.map_cons, List.map_nil, Act.eval, e16, e17]) (Fg.run_enter Tryz.func36 (by kernel_rfl) (by kernel_rfl)), ?_⟩
        exact (feOut_and (add_any a b w HO.out.1 HO.out.2)).mono fun _ _ ⟨he, hg⟩ => ⟨_, he, hg, rfl⟩
      refine ⟨Fg.vT rfl (by decide) fun ac w h => ?_, ?_⟩
      · have e2 : ac.tmps.getD 2 undef = Value.pointer (some ⟨w0.heap.size, 0, none⟩) := h.rest 2 (by kernel_rfl)
        refine ⟨a.v, w, wants_none rfl, ?_, gb_refl _ _, rfl⟩
        exact ldE rfl e2 (HB.out.1 w (gb_trans H3.out h.base))
      refine ⟨Fg.vT rfl (by decide) fun ac w h => ?_, ?_⟩
      · have e3 : ac.tmps.getD 3 undef = Value.pointer (some ⟨w0.heap.size + 1, 0, none⟩) := h.rest 3 (by kernel_rfl)
        refine ⟨b.v, w, wants_none rfl, ?_, gb_refl _ _, rfl⟩
        exact ldE rfl e3 (HB.out.2 w (gb_trans H3.out h.base))
      refine ⟨Fg.cT rfl (by decide) fun ac w h => ?_, ?_⟩
      · have e19 : ac.tmps.getD 19 undef = a.v := h.dep 19 (by kernel_rfl)
        have e20 : ac.tmps.getD 20 undef = b.v := h.dep 20 (by kernel_rfl)
        refine ⟨37, #[a.v, b.v], wants_none rfl, Fg.run_call rfl rfl (by simp only [List.map_toArray, List.map_cons, List.map_nil, Act.eval, e19, e20]) (Fg.run_enter Tryz.func37 (by kernel_rfl) (by kernel_rfl)), ?_⟩
        exact (feOut_and (sub_any a b w (HT.out.grown (gb_trans H2.out.1 (gb_trans H3.out h.base))) HO.out.1 HO.out.2)).mono fun _ _ ⟨he, hg⟩ => ⟨_, he, hg, rfl⟩
      refine ⟨Fg.cT rfl (by decide) fun ac w h => ?_, ?_⟩
      · have e18 : ac.tmps.getD 18 undef = (Fe.addF a b).v := h.dep 18 (by kernel_rfl)
        have e21 : ac.tmps.getD 21 undef = (Fe.subF a b).v := h.dep 21 (by kernel_rfl)
        refine ⟨35, #[(Fe.addF a b).v, (Fe.subF a b).v], wants_none rfl, Fg.run_call rfl rfl (by simp only [List.map_toArray, List.map_cons, List.map_nil, Act.eval, e18, e21]) (Fg.run_enter Tryz.func35 (by kernel_rfl) (by kernel_rfl)), ?_⟩
        exact (feOut_and (mul_fe (Fe.addF a b) (Fe.subF a b) w (Fe.add_right a b).ok (Fe.sub_right a b).ok)).mono fun _ _ ⟨he, hg⟩ => ⟨_, he, hg, rfl⟩
      refine ⟨Fg.cT rfl (by decide) fun ac w h => ?_, ?_⟩
      · have e22 : ac.tmps.getD 22 undef = (Fe.mulF (Fe.addF a b) (Fe.subF a b)).v := h.dep 22 (by kernel_rfl)
        refine ⟨12, #[(Fe.mulF (Fe.addF a b) (Fe.subF a b)).v], wants_none rfl, Fg.run_call rfl rfl (by simp only [List.map_toArray, List.map_cons, List.map_nil, Act.eval, e22]) (Fg.run_enter Tryz.func12 (by kernel_rfl) (by kernel_rfl)), ?_⟩
        exact (c_put (Fe.mulF (Fe.addF a b) (Fe.subF a b)) w (Fe.mul_right _ _).ok).mono fun _ _ ⟨_, _, he, hg, hb⟩ => ⟨_, he, hg, _, _, _, rfl, hb⟩
      trivial
    · intro aq wq hB hsz hdf hrest hslots hpt
      obtain ⟨u16, e16⟩ : ∃ u, aq.tmps.getD 16 undef = u := ⟨_, rfl⟩
      obtain ⟨u17, e17⟩ : ∃ u, aq.tmps.getD 17 undef = u := ⟨_, rfl⟩
      obtain ⟨u18, e18⟩ : ∃ u, aq.tmps.getD 18 undef = u := ⟨_, rfl⟩
      obtain ⟨u19, e19⟩ : ∃ u, aq.tmps.getD 19 undef = u := ⟨_, rfl⟩
      obtain ⟨u20, e20⟩ : ∃ u, aq.tmps.getD 20 undef = u := ⟨_, rfl⟩
      obtain ⟨u21, e21⟩ : ∃ u, aq.tmps.getD 21 undef = u := ⟨_, rfl⟩
      obtain ⟨u22, e22⟩ : ∃ u, aq.tmps.getD 22 undef = u := ⟨_, rfl⟩
      obtain ⟨u23, e23⟩ : ∃ u, aq.tmps.getD 23 undef = u := ⟨_, rfl⟩
      obtain rfl := Fg.frame_is (a := aq) (vs := [Value.agg #[Value.int IntKind.u64 a.x0, Value.int IntKind.u64 a.x1, Value.int IntKind.u64 a.x2, Value.int IntKind.u64 a.x3, Value.int IntKind.u64 a.x4], Value.agg #[Value.int IntKind.u64 b.x0, Value.int IntKind.u64 b.x1, Value.int IntKind.u64 b.x2, Value.int IntKind.u64 b.x3, Value.int IntKind.u64 b.x4], Value.pointer (some ⟨w0.heap.size, 0, none⟩), Value.pointer (some ⟨w0.heap.size + 1, 0, none⟩), Value.bool false, undef, undef, undef, Value.agg #[Value.int IntKind.u64 a.x0, Value.int IntKind.u64 a.x1, Value.int IntKind.u64 a.x2, Value.int IntKind.u64 a.x3, Value.int IntKind.u64 a.x4], Value.bool false, Value.bool true, Value.bool true, undef, undef, undef, Value.bool true, u16, u17, u18, u19, u20, u21, u22, u23, undef, undef, undef, undef, undef, undef, undef, undef, undef, undef, undef, undef, undef, undef, undef, undef, undef, undef, undef, undef, undef, undef, undef, undef, undef, undef, undef, undef, undef, undef, undef, undef, undef, undef, undef, undef, undef, undef, undef, undef, undef, undef, undef, undef, undef, undef, undef, undef, undef, undef, undef, undef, undef, undef, undef, undef, undef, undef, undef, undef, undef, undef, undef, undef, undef, undef, undef, undef, undef, undef, undef, undef, undef, undef, undef, undef, undef, undef, undef, undef, undef, undef, undef, undef, undef, undef]) hsz ⟨hrest 0 (by kernel_rfl), hrest 1 (by kernel_rfl), hrest 2 (by kernel_rfl), hrest 3 (by kernel_rfl), hrest 4 (by kernel_rfl), hrest 5 (by kernel_rfl), hrest 6 (by kernel_rfl), hrest 7 (by kernel_rfl), hrest 8 (by kernel_rfl), hrest 9 (by kernel_rfl), hrest 10 (by kernel_rfl), hrest 11 (by kernel_rfl), hrest 12 (by kernel_rfl), hrest 13 (by kernel_rfl), hrest 14 (by kernel_rfl), hrest 15 (by kernel_rfl), e16, e17, e18, e19, e20, e21, e22, e23, hrest 24 (by kernel_rfl), hrest 25 (by kernel_rfl), hrest 26 (by kernel_rfl), hrest 27 (by kernel_rfl), hrest 28 (by kernel_rfl), hrest 29 (by kernel_rfl), hrest 30 (by kernel_rfl), hrest 31 (by kernel_rfl), hrest 32 (by kernel_rfl), hrest 33 (by kernel_rfl), hrest 34 (by kernel_rfl), hrest 35 (by kernel_rfl), hrest 36 (by kernel_rfl), hrest 37 (by kernel_rfl), hrest 38 (by kernel_rfl), hrest 39 (by kernel_rfl), hrest 40 (by kernel_rfl), hrest 41 (by kernel_rfl), hrest 42 (by kernel_rfl), hrest 43 (by kernel_rfl), hrest 44 (by kernel_rfl), hrest 45 (by kernel_rfl), hrest 46 (by kernel_rfl), hrest 47 (by kernel_rfl), hrest 48 (by kernel_rfl), hrest 49 (by kernel_rfl), hrest 50 (by kernel_rfl), hrest 51 (by kernel_rfl), hrest 52 (by kernel_rfl), hrest 53 (by kernel_rfl), hrest 54 (by kernel_rfl), hrest 55 (by kernel_rfl), hrest 56 (by kernel_rfl), hrest 57 (by kernel_rfl), hrest 58 (by kernel_rfl), hrest 59 (by kernel_rfl), hrest 60 (by kernel_rfl), hrest 61 (by kernel_rfl), hrest 62 (by kernel_rfl), hrest 63 (by kernel_rfl), hrest 64 (by kernel_rfl), hrest 65 (by kernel_rfl), hrest 66 (by kernel_rfl), hrest 67 (by kernel_rfl), hrest 68 (by kernel_rfl), hrest 69 (by kernel_rfl), hrest 70 (by kernel_rfl), hrest 71 (by kernel_rfl), hrest 72 (by kernel_rfl), hrest 73 (by kernel_rfl), hrest 74 (by kernel_rfl), hrest 75 (by kernel_rfl), hrest 76 (by kernel_rfl), hrest 77 (by kernel_rfl), hrest 78 (by kernel_rfl), hrest 79 (by kernel_rfl), hrest 80 (by kernel_rfl), hrest 81 (by kernel_rfl), hrest 82 (by kernel_rfl), hrest 83 (by kernel_rfl), hrest 84 (by kernel_rfl), hrest 85 (by kernel_rfl), hrest 86 (by kernel_rfl), hrest 87 (by kernel_rfl), hrest 88 (by kernel_rfl), hrest 89 (by kernel_rfl), hrest 90 (by kernel_rfl), hrest 91 (by kernel_rfl), hrest 92 (by kernel_rfl), hrest 93 (by kernel_rfl), hrest 94 (by kernel_rfl), hrest 95 (by kernel_rfl), hrest 96 (by kernel_rfl), hrest 97 (by kernel_rfl), hrest 98 (by kernel_rfl), hrest 99 (by kernel_rfl), hrest 100 (by kernel_rfl), hrest 101 (by kernel_rfl), hrest 102 (by kernel_rfl), hrest 103 (by kernel_rfl), hrest 104 (by kernel_rfl), hrest 105 (by kernel_rfl), hrest 106 (by kernel_rfl), hrest 107 (by kernel_rfl), hrest 108 (by kernel_rfl), hrest 109 (by kernel_rfl), trivial⟩ hdf
      clear hsz hdf hrest hslots hpt e16 e17 e18 e19 e20 e21 e22 e23
      refine wpList_nil ?_
      have H9 := Lib.hid (gb_trans H3.out hB); clear hB
      go_upto_region 3 with (fail)
      refine Fg.region_t [] [.any, .any, .any, .any, .any, .any, .any, .any, .any, .any, .any, .any, .any, .any, .any, .any, .any, .any, .any, .any, .any, .any, .any, .any, .val (a.v), .val ((Fe.negF a).v), .val (b.v), .val ((Fe.sqF b).v), .val (Value.bool (decide ((Fe.negF a).m = (Fe.sqF b).m)))] wq 5 (gb_refl _ _) (by kernel_rfl) (by kernel_rfl) (by kernel_rfl) (by kernel_rfl) (by decide) (by kernel_rfl) ?_ ?_
      · refine ⟨Fg.vT rfl (by decide) fun ac w h => ?_, ?_⟩
        · have e2 : ac.tmps.getD 2 undef = Value.pointer (some ⟨w0.heap.size, 0, none⟩) := h.rest 2 (by kernel_rfl)
          refine ⟨a.v, w, wants_none rfl, ?_, gb_refl _ _, rfl⟩
          exact ldE rfl e2 (HB.out.1 w (gb_trans H9.out h.base))
        refine ⟨Fg.cT rfl (by decide) fun ac w h => ?_, ?_⟩
        · have e24 : ac.tmps.getD 24 undef = a.v := h.dep 24 (by kernel_rfl)
          refine ⟨19, #[a.v], wants_none rfl, Fg.run_call rfl rfl (by simp only [List.map_toArray, List.map_cons, List.map_nil, Act.eval, e24]) (Fg.run_enter Tryz.func19 (by kernel_rfl) (by kernel_rfl)), ?_⟩
          exact (feOut_and (neg_any a w (HT.out.grown (gb_trans H2.out.1 (gb_trans H9.out h.base))) HO.out.1)).mono fun _ _ ⟨he, hg⟩ => ⟨_, he, hg, rfl⟩
        refine ⟨Fg.vT rfl (by decide) fun ac w h => ?_, ?_⟩
        · have e3 : ac.tmps.getD 3 undef = Value.pointer (some ⟨w0.heap.size + 1, 0, none⟩) := h.rest 3 (by kernel_rfl)
          refine ⟨b.v, w, wants_none rfl, ?_, gb_refl _ _, rfl⟩
          exact ldE rfl e3 (HB.out.2 w (gb_trans H9.out h.base))
        refine ⟨Fg.cT rfl (by decide) fun ac w h => ?_, ?_⟩
        · have e26 : ac.tmps.getD 26 undef = b.v := h.dep 26 (by kernel_rfl)
          refine ⟨38, #[b.v], wants_none rfl, Fg.run_call rfl rfl (by simp only [List.map_toArray, List.map_cons, List.map_nil, Act.eval, e26]) (Fg.run_enter Tryz.func38 (by kernel_rfl) (by kernel_rfl)), ?_⟩
          exact (feOut_and (sq_fe b w HO.out.2)).mono fun _ _ ⟨he, hg⟩ => ⟨_, he, hg, rfl⟩
        refine ⟨Fg.cT rfl (by decide) fun ac w h => ?_, ?_⟩
        · have e25 : ac.tmps.getD 25 undef = (Fe.negF a).v := h.dep 25 (by kernel_rfl)
          have e27 : ac.tmps.getD 27 undef = (Fe.sqF b).v := h.dep 27 (by kernel_rfl)
          refine ⟨21, #[(Fe.negF a).v, (Fe.sqF b).v], wants_none rfl, Fg.run_call rfl rfl (by simp only [List.map_toArray, List.map_cons, List.map_nil, Act.eval, e25, e27]) (Fg.run_enter Tryz.func21 (by kernel_rfl) (by kernel_rfl)), ?_⟩
          exact (same_any (Fe.negF a) (Fe.sqF b) w (Fe.neg_right a).ok (Fe.sq_right b).ok).mono fun _ _ ⟨he, hg⟩ => ⟨_, he, hg, rfl⟩
        trivial
      · intro ar wr hB hsz hdf hrest hslots hpt
        obtain ⟨u24, e24⟩ : ∃ u, ar.tmps.getD 24 undef = u := ⟨_, rfl⟩
        obtain ⟨u25, e25⟩ : ∃ u, ar.tmps.getD 25 undef = u := ⟨_, rfl⟩
        obtain ⟨u26, e26⟩ : ∃ u, ar.tmps.getD 26 undef = u := ⟨_, rfl⟩
        obtain ⟨u27, e27⟩ : ∃ u, ar.tmps.getD 27 undef = u := ⟨_, rfl⟩
        obtain ⟨u28, e28⟩ : ∃ u, ar.tmps.getD 28 undef = u := ⟨_, rfl⟩
        obtain rfl := Fg.frame_is (a := ar) (vs := [Value.agg #[Value.int IntKind.u64 a.x0, Value.int IntKind.u64 a.x1, Value.int IntKind.u64 a.x2, Value.int IntKind.u64 a.x3, Value.int IntKind.u64 a.x4], Value.agg #[Value.int IntKind.u64 b.x0, Value.int IntKind.u64 b.x1, Value.int IntKind.u64 b.x2, Value.int IntKind.u64 b.x3, Value.int IntKind.u64 b.x4], Value.pointer (some ⟨w0.heap.size, 0, none⟩), Value.pointer (some ⟨w0.heap.size + 1, 0, none⟩), Value.bool false, undef, undef, undef, Value.agg #[Value.int IntKind.u64 a.x0, Value.int IntKind.u64 a.x1, Value.int IntKind.u64 a.x2, Value.int IntKind.u64 a.x3, Value.int IntKind.u64 a.x4], Value.bool false, Value.bool true, Value.bool true, undef, undef, undef, Value.bool true, u16, u17, u18, u19, u20, u21, u22, u23, u24, u25, u26, u27, u28, undef, undef, undef, undef, undef, undef, undef, undef, undef, undef, undef, undef, undef, undef, undef, undef, undef, undef, undef, undef, undef, undef, undef, undef, undef, undef, undef, undef, undef, undef, undef, undef, undef, undef, undef, undef, undef, undef, undef, undef, undef, undef, undef, undef, undef, undef, undef, undef, undef, undef, undef, undef, undef, undef, undef, undef, undef, undef, undef, undef, undef, undef, undef, undef, undef, undef, undef, undef, undef, undef, undef, undef, undef, undef, undef, undef, undef, undef, undef, undef, undef]) hsz ⟨hrest 0 (by kernel_rfl), hrest 1 (by kernel_rfl), hrest 2 (by kernel_rfl), hrest 3 (by kernel_rfl), hrest 4 (by kernel_rfl), hrest 5 (by kernel_rfl), hrest 6 (by kernel_rfl), hrest 7 (by kernel_rfl), hrest 8 (by kernel_rfl), hrest 9 (by kernel_rfl), hrest 10 (by kernel_rfl), hrest 11 (by kernel_rfl), hrest 12 (by kernel_rfl), hrest 13 (by kernel_rfl), hrest 14 (by kernel_rfl), hrest 15 (by kernel_rfl), hrest 16 (by kernel_rfl), hrest 17 (by kernel_rfl), hrest 18 (by kernel_rfl), hrest 19 (by kernel_rfl), hrest 20 (by kernel_rfl), hrest 21 (by kernel_rfl), hrest 22 (by kernel_rfl), hrest 23 (by kernel_rfl), e24, e25, e26, e27, e28, hrest 29 (by kernel_rfl), hrest 30 (by kernel_rfl), hrest 31 (by kernel_rfl), hrest 32 (by kernel_rfl), hrest 33 (by kernel_rfl), hrest 34 (by kernel_rfl), hrest 35 (by kernel_rfl), hrest 36 (by kernel_rfl), hrest 37 (by kernel_rfl), hrest 38 (by kernel_rfl), hrest 39 (by kernel_rfl), hrest 40 (by kernel_rfl), hrest 41 (by kernel_rfl), hrest 42 (by kernel_rfl), hrest 43 (by kernel_rfl), hrest 44 (by kernel_rfl), hrest 45 (by kernel_rfl), hrest 46 (by kernel_rfl), hrest 47 (by kernel_rfl), hrest 48 (by kernel_rfl), hrest 49 (by kernel_rfl), hrest 50 (by kernel_rfl), hrest 51 (by kernel_rfl), hrest 52 (by kernel_rfl), hrest 53 (by kernel_rfl), hrest 54 (by kernel_rfl), hrest 55 (by kernel_rfl), hrest 56 (by kernel_rfl), hrest 57 (by kernel_rfl), hrest 58 (by kernel_rfl), hrest 59 (by kernel_rfl), hrest 60 (by kernel_rfl), hrest 61 (by kernel_rfl), hrest 62 (by kernel_rfl), hrest 63 (by kernel_rfl), hrest 64 (by kernel_rfl), hrest 65 (by kernel_rfl), hrest 66 (by kernel_rfl), hrest 67 (by kernel_rfl), hrest 68 (by kernel_rfl), hrest 69 (by kernel_rfl), hrest 70 (by kernel_rfl), hrest 71 (by kernel_rfl), hrest 72 (by kernel_rfl), hrest 73 (by kernel_rfl), hrest 74 (by kernel_rfl), hrest 75 (by kernel_rfl), hrest 76 (by kernel_rfl), hrest 77 (by kernel_rfl), hrest 78 (by kernel_rfl), hrest 79 (by kernel_rfl), hrest 80 (by kernel_rfl), hrest 81 (by kernel_rfl), hrest 82 (by kernel_rfl), hrest 83 (by kernel_rfl), hrest 84 (by kernel_rfl), hrest 85 (by kernel_rfl), hrest 86 (by kernel_rfl), hrest 87 (by kernel_rfl), hrest 88 (by kernel_rfl), hrest 89 (by kernel_rfl), hrest 90 (by kernel_rfl), hrest 91 (by kernel_rfl), hrest 92 (by kernel_rfl), hrest 93 (by kernel_rfl), hrest 94 (by kernel_rfl), hrest 95 (by kernel_rfl), hrest 96 (by kernel_rfl), hrest 97 (by kernel_rfl), hrest 98 (by kernel_rfl), hrest 99 (by kernel_rfl), hrest 100 (by kernel_rfl), hrest 101 (by kernel_rfl), hrest 102 (by kernel_rfl), hrest 103 (by kernel_rfl), hrest 104 (by kernel_rfl), hrest 105 (by kernel_rfl), hrest 106 (by kernel_rfl), hrest 107 (by kernel_rfl), hrest 108 (by kernel_rfl), hrest 109 (by kernel_rfl), trivial⟩ hdf
        clear hsz hdf hrest hslots hpt e24 e25 e26 e27 e28
        refine wpList_nil ?_
        have H10 := Lib.hid (gb_trans H9.out hB); clear hB
        go_wp2_with fail
        refine (awake_any wr (HT.out.grown (gb_trans H2.out.1 H10.out))).mono ?_
        rintro e w9 ⟨rfl, hg9⟩
        have H11 := Lib.hid (gb_trans (gb_trans H2.out.1 H10.out) hg9); clear hg9
        go_wp2
        go_ret
        exact ⟨rfl, H11.out⟩
  | true =>
    go_wp2_with fail
    refine (HR.out.2.2.2 w3).mono ?_
    rintro e w4 ⟨rfl, hg4⟩
    have H4 := Lib.hid (gb_trans H3.out hg4); clear hg4 r0 r1 r2 r3 r4
    cases rb with
    | false =>
      go_upto_region 2 with (fail)
      refine Fg.region_t [] [.any, .any, .any, .any, .any, .any, .any, .any, .any, .any, .any, .any, .any, .any, .any, .any, .val (a.v), .val (b.v), .val ((Fe.addF a b).v), .val (a.v), .val (b.v), .val ((Fe.subF a b).v), .val ((Fe.mulF (Fe.addF a b) (Fe.subF a b)).v), Fg.It.by (Nr.byL (num (Fe.mulF (Fe.addF a b) (Fe.subF a b)).m))] w4 8 (gb_refl _ _) (by kernel_rfl) (by kernel_rfl) (by kernel_rfl) (by kernel_rfl) (by decide) (by kernel_rfl) ?_ ?_
      · refine ⟨Fg.vT rfl (by decide) fun ac w h => ?_, ?_⟩
        · have e2 : ac.tmps.getD 2 undef = Value.pointer (some ⟨w0.heap.size, 0, none⟩) := h.rest 2 (by kernel_rfl)
          refine ⟨a.v, w, wants_none rfl, ?_, gb_refl _ _, rfl⟩
          exact ldE rfl e2 (HB.out.1 w (gb_trans H4.out h.base))
        refine ⟨Fg.vT rfl (by decide) fun ac w h => ?_, ?_⟩
        · have e3 : ac.tmps.getD 3 undef = Value.pointer (some ⟨w0.heap.size + 1, 0, none⟩) := h.rest 3 (by kernel_rfl)
          refine ⟨b.v, w, wants_none rfl, ?_, gb_refl _ _, rfl⟩
          exact ldE rfl e3 (HB.out.2 w (gb_trans H4.out h.base))
        refine ⟨Fg.cT rfl (by decide) fun ac w h => ?_, ?_⟩
        · have e16 : ac.tmps.getD 16 undef = a.v := h.dep 16 (by kernel_rfl)
          have e17 : ac.tmps.getD 17 undef = b.v := h.dep 17 (by kernel_rfl)
          refine ⟨36, #[a.v, b.v], wants_none rfl, Fg.run_call rfl rfl (by simp only [List.map_toArray, List.map_cons, List.map_nil, Act.eval, e16, e17]) (Fg.run_enter Tryz.func36 (by kernel_rfl) (by kernel_rfl)), ?_⟩
          exact (feOut_and (add_any a b w HO.out.1 HO.out.2)).mono fun _ _ ⟨he, hg⟩ => ⟨_, he, hg, rfl⟩
        refine ⟨Fg.vT rfl (by decide) fun ac w h => ?_, ?_⟩
        · have e2 : ac.tmps.getD 2 undef = Value.pointer (some ⟨w0.heap.size, 0, none⟩) := h.rest 2 (by kernel_rfl)
          refine ⟨a.v, w, wants_none rfl, ?_, gb_refl _ _, rfl⟩
          exact ldE rfl e2 (HB.out.1 w (gb_trans H4.out h.base))
        refine ⟨Fg.vT rfl (by decide) fun ac w h => ?_, ?_⟩
        · have e3 : ac.tmps.getD 3 undef = Value.pointer (some ⟨w0.heap.size + 1, 0, none⟩) := h.rest 3 (by kernel_rfl)
          refine ⟨b.v, w, wants_none rfl, ?_, gb_refl _ _, rfl⟩
          exact ldE rfl e3 (HB.out.2 w (gb_trans H4.out h.base))
        refine ⟨Fg.cT rfl (by decide) fun ac w h => ?_, ?_⟩
        · have e19 : ac.tmps.getD 19 undef = a.v := h.dep 19 (by kernel_rfl)
          have e20 : ac.tmps.getD 20 undef = b.v := h.dep 20 (by kernel_rfl)
          refine ⟨37, #[a.v, b.v], wants_none rfl, Fg.run_call rfl rfl (by simp only [List.map_toArray, List.map_cons, List.map_nil, Act.eval, e19, e20]) (Fg.run_enter Tryz.func37 (by kernel_rfl) (by kernel_rfl)), ?_⟩
          exact (feOut_and (sub_any a b w (HT.out.grown (gb_trans H2.out.1 (gb_trans H4.out h.base))) HO.out.1 HO.out.2)).mono fun _ _ ⟨he, hg⟩ => ⟨_, he, hg, rfl⟩
        refine ⟨Fg.cT rfl (by decide) fun ac w h => ?_, ?_⟩
        · have e18 : ac.tmps.getD 18 undef = (Fe.addF a b).v := h.dep 18 (by kernel_rfl)
          have e21 : ac.tmps.getD 21 undef = (Fe.subF a b).v := h.dep 21 (by kernel_rfl)
          refine ⟨35, #[(Fe.addF a b).v, (Fe.subF a b).v], wants_none rfl, Fg.run_call rfl rfl (by simp only [List.map_toArray, List.map_cons, List.map_nil, Act.eval, e18, e21]) (Fg.run_enter Tryz.func35 (by kernel_rfl) (by kernel_rfl)), ?_⟩
          exact (feOut_and (mul_fe (Fe.addF a b) (Fe.subF a b) w (Fe.add_right a b).ok (Fe.sub_right a b).ok)).mono fun _ _ ⟨he, hg⟩ => ⟨_, he, hg, rfl⟩
        refine ⟨Fg.cT rfl (by decide) fun ac w h => ?_, ?_⟩
        · have e22 : ac.tmps.getD 22 undef = (Fe.mulF (Fe.addF a b) (Fe.subF a b)).v := h.dep 22 (by kernel_rfl)
          refine ⟨12, #[(Fe.mulF (Fe.addF a b) (Fe.subF a b)).v], wants_none rfl, Fg.run_call rfl rfl (by simp only [List.map_toArray, List.map_cons, List.map_nil, Act.eval, e22]) (Fg.run_enter Tryz.func12 (by kernel_rfl) (by kernel_rfl)), ?_⟩
          exact (c_put (Fe.mulF (Fe.addF a b) (Fe.subF a b)) w (Fe.mul_right _ _).ok).mono fun _ _ ⟨_, _, he, hg, hb⟩ => ⟨_, he, hg, _, _, _, rfl, hb⟩
        trivial
      · intro aq wq hB hsz hdf hrest hslots hpt
        obtain ⟨u16, e16⟩ : ∃ u, aq.tmps.getD 16 undef = u := ⟨_, rfl⟩
        obtain ⟨u17, e17⟩ : ∃ u, aq.tmps.getD 17 undef = u := ⟨_, rfl⟩
        obtain ⟨u18, e18⟩ : ∃ u, aq.tmps.getD 18 undef = u := ⟨_, rfl⟩
        obtain ⟨u19, e19⟩ : ∃ u, aq.tmps.getD 19 undef = u := ⟨_, rfl⟩
        obtain ⟨u20, e20⟩ : ∃ u, aq.tmps.getD 20 undef = u := ⟨_, rfl⟩
        obtain ⟨u21, e21⟩ : ∃ u, aq.tmps.getD 21 undef = u := ⟨_, rfl⟩
        obtain ⟨u22, e22⟩ : ∃ u, aq.tmps.getD 22 undef = u := ⟨_, rfl⟩
        obtain ⟨u23, e23⟩ : ∃ u, aq.tmps.getD 23 undef = u := ⟨_, rfl⟩
        obtain rfl := Fg.frame_is (a := aq) (vs := [Value.agg #[Value.int IntKind.u64 a.x0, Value.int IntKind.u64 a.x1, Value.int IntKind.u64 a.x2, Value.int IntKind.u64 a.x3, Value.int IntKind.u64 a.x4], Value.agg #[Value.int IntKind.u64 b.x0, Value.int IntKind.u64 b.x1, Value.int IntKind.u64 b.x2, Value.int IntKind.u64 b.x3, Value.int IntKind.u64 b.x4], Value.pointer (some ⟨w0.heap.size, 0, none⟩), Value.pointer (some ⟨w0.heap.size + 1, 0, none⟩), Value.bool false, undef, undef, undef, Value.agg #[Value.int IntKind.u64 a.x0, Value.int IntKind.u64 a.x1, Value.int IntKind.u64 a.x2, Value.int IntKind.u64 a.x3, Value.int IntKind.u64 a.x4], Value.bool true, Value.bool false, Value.bool false, Value.agg #[Value.int IntKind.u64 b.x0, Value.int IntKind.u64 b.x1, Value.int IntKind.u64 b.x2, Value.int IntKind.u64 b.x3, Value.int IntKind.u64 b.x4], Value.bool false, Value.bool true, Value.bool true, u16, u17, u18, u19, u20, u21, u22, u23, undef, undef, undef, undef, undef, undef, undef, undef, undef, undef, undef, undef, undef, undef, undef, undef, undef, undef, undef, undef, undef, undef, undef, undef, undef, undef, undef, undef, undef, undef, undef, undef, undef, undef, undef, undef, undef, undef, undef, undef, undef, undef, undef, undef, undef, undef, undef, undef, undef, undef, undef, undef, undef, undef, undef, undef, undef, undef, undef, undef, undef, undef, undef, undef, undef, undef, undef, undef, undef, undef, undef, undef, undef, undef, undef, undef, undef, undef, undef, undef, undef, undef, undef, undef, undef, undef]) hsz ⟨hrest 0 (by kernel_rfl), hrest 1 (by kernel_rfl), hrest 2 (by kernel_rfl), hrest 3 (by kernel_rfl), hrest 4 (by kernel_rfl), hrest 5 (by kernel_rfl), hrest 6 (by kernel_rfl), hrest 7 (by kernel_rfl), hrest 8 (by kernel_rfl), hrest 9 (by kernel_rfl), hrest 10 (by kernel_rfl), hrest 11 (by kernel_rfl), hrest 12 (by kernel_rfl), hrest 13 (by kernel_rfl), hrest 14 (by kernel_rfl), hrest 15 (by kernel_rfl), e16, e17, e18, e19, e20, e21, e22, e23, hrest 24 (by kernel_rfl), hrest 25 (by kernel_rfl), hrest 26 (by kernel_rfl), hrest 27 (by kernel_rfl), hrest 28 (by kernel_rfl), hrest 29 (by kernel_rfl), hrest 30 (by kernel_rfl), hrest 31 (by kernel_rfl), hrest 32 (by kernel_rfl), hrest 33 (by kernel_rfl), hrest 34 (by kernel_rfl), hrest 35 (by kernel_rfl), hrest 36 (by kernel_rfl), hrest 37 (by kernel_rfl), hrest 38 (by kernel_rfl), hrest 39 (by kernel_rfl), hrest 40 (by kernel_rfl), hrest 41 (by kernel_rfl), hrest 42 (by kernel_rfl), hrest 43 (by kernel_rfl), hrest 44 (by kernel_rfl), hrest 45 (by kernel_rfl), hrest 46 (by kernel_rfl), hrest 47 (by kernel_rfl), hrest 48 (by kernel_rfl), hrest 49 (by kernel_rfl), hrest 50 (by kernel_rfl), hrest 51 (by kernel_rfl), hrest 52 (by kernel_rfl), hrest 53 (by kernel_rfl), hrest 54 (by kernel_rfl), hrest 55 (by kernel_rfl), hrest 56 (by kernel_rfl), hrest 57 (by kernel_rfl), hrest 58 (by kernel_rfl), hrest 59 (by kernel_rfl), hrest 60 (by kernel_rfl), hrest 61 (by kernel_rfl), hrest 62 (by kernel_rfl), hrest 63 (by kernel_rfl), hrest 64 (by kernel_rfl), hrest 65 (by kernel_rfl), hrest 66 (by kernel_rfl), hrest 67 (by kernel_rfl), hrest 68 (by kernel_rfl), hrest 69 (by kernel_rfl), hrest 70 (by kernel_rfl), hrest 71 (by kernel_rfl), hrest 72 (by kernel_rfl), hrest 73 (by kernel_rfl), hrest 74 (by kernel_rfl), hrest 75 (by kernel_rfl), hrest 76 (by kernel_rfl), hrest 77 (by kernel_rfl), hrest 78 (by kernel_rfl), hrest 79 (by kernel_rfl), hrest 80 (by kernel_rfl), hrest 81 (by kernel_rfl), hrest 82 (by kernel_rfl), hrest 83 (by kernel_rfl), hrest 84 (by kernel_rfl), hrest 85 (by kernel_rfl), hrest 86 (by kernel_rfl), hrest 87 (by kernel_rfl), hrest 88 (by kernel_rfl), hrest 89 (by kernel_rfl), hrest 90 (by kernel_rfl), hrest 91 (by kernel_rfl), hrest 92 (by kernel_rfl), hrest 93 (by kernel_rfl), hrest 94 (by kernel_rfl), hrest 95 (by kernel_rfl), hrest 96 (by kernel_rfl), hrest 97 (by kernel_rfl), hrest 98 (by kernel_rfl), hrest 99 (by kernel_rfl), hrest 100 (by kernel_rfl), hrest 101 (by kernel_rfl), hrest 102 (by kernel_rfl), hrest 103 (by kernel_rfl), hrest 104 (by kernel_rfl), hrest 105 (by kernel_rfl), hrest 106 (by kernel_rfl), hrest 107 (by kernel_rfl), hrest 108 (by kernel_rfl), hrest 109 (by kernel_rfl), trivial⟩ hdf
        clear hsz hdf hrest hslots hpt e16 e17 e18 e19 e20 e21 e22 e23
        refine wpList_nil ?_
        have H9 := Lib.hid (gb_trans H4.out hB); clear hB
        go_upto_region 3 with (fail)
        refine Fg.region_t [] [.any, .any, .any, .any, .any, .any, .any, .any, .any, .any, .any, .any, .any, .any, .any, .any, .any, .any, .any, .any, .any, .any, .any, .any, .val (a.v), .val ((Fe.negF a).v), .val (b.v), .val ((Fe.sqF b).v), .val (Value.bool (decide ((Fe.negF a).m = (Fe.sqF b).m)))] wq 5 (gb_refl _ _) (by kernel_rfl) (by kernel_rfl) (by kernel_rfl) (by kernel_rfl) (by decide) (by kernel_rfl) ?_ ?_
        · refine ⟨Fg.vT rfl (by decide) fun ac w h => ?_, ?_⟩
          · have e2 : ac.tmps.getD 2 undef = Value.pointer (some ⟨w0.heap.size, 0, none⟩) := h.rest 2 (by kernel_rfl)
            refine ⟨a.v, w, wants_none rfl, ?_, gb_refl _ _, rfl⟩
            exact ldE rfl e2 (HB.out.1 w (gb_trans H9.out h.base))
          refine ⟨Fg.cT rfl (by decide) fun ac w h => ?_, ?_⟩
          · have e24 : ac.tmps.getD 24 undef = a.v := h.dep 24 (by kernel_rfl)
            refine ⟨19, #[a.v], wants_none rfl, Fg.run_call rfl rfl (by simp only [List.map_toArray, List.map_cons, List.map_nil, Act.eval, e24]) (Fg.run_enter Tryz.func19 (by kernel_rfl) (by kernel_rfl)), ?_⟩
            exact (feOut_and (neg_any a w (HT.out.grown (gb_trans H2.out.1 (gb_trans H9.out h.base))) HO.out.1)).mono fun _ _ ⟨he, hg⟩ => ⟨_, he, hg, rfl⟩
          refine ⟨Fg.vT rfl (by decide) fun ac w h => ?_, ?_⟩
          · have e3 : ac.tmps.getD 3 undef = Value.pointer (some ⟨w0.heap.size + 1, 0, none⟩) := h.rest 3 (by kernel_rfl)
            refine ⟨b.v, w, wants_none rfl, ?_, gb_refl _ _, rfl⟩
            exact ldE rfl e3 (HB.out.2 w (gb_trans H9.out h.base))
          refine ⟨Fg.cT rfl (by decide) fun ac w h => ?_, ?_⟩
          · have e26 : ac.tmps.getD 26 undef = b.v := h.dep 26 (by kernel_rfl)
            refine ⟨38, #[b.v], wants_none rfl, Fg.run_call rfl rfl (by simp only [List.map_toArray, List.map_cons, List.map_nil, Act.eval, e26]) (Fg.run_enter Tryz.func38 (by kernel_rfl) (by kernel_rfl)), ?_⟩
            exact (feOut_and (sq_fe b w HO.out.2)).mono fun _ _ ⟨he, hg⟩ => ⟨_, he, hg, rfl⟩
          refine ⟨Fg.cT rfl (by decide) fun ac w h => ?_, ?_⟩
          · have e25 : ac.tmps.getD 25 undef = (Fe.negF a).v := h.dep 25 (by kernel_rfl)
            have e27 : ac.tmps.getD 27 undef = (Fe.sqF b).v := h.dep 27 (by kernel_rfl)
            refine ⟨21, #[(Fe.negF a).v, (Fe.sqF b).v], wants_none rfl, Fg.run_call rfl rfl (by simp only [List.map_toArray, List.map_cons, List.map_nil, Act.eval, e25, e27]) (Fg.run_enter Tryz.func21 (by kernel_rfl) (by kernel_rfl)), ?_⟩
            exact (same_any (Fe.negF a) (Fe.sqF b) w (Fe.neg_right a).ok (Fe.sq_right b).ok).mono fun _ _ ⟨he, hg⟩ => ⟨_, he, hg, rfl⟩
          trivial
        · intro ar wr hB hsz hdf hrest hslots hpt
          obtain ⟨u24, e24⟩ : ∃ u, ar.tmps.getD 24 undef = u := ⟨_, rfl⟩
          obtain ⟨u25, e25⟩ : ∃ u, ar.tmps.getD 25 undef = u := ⟨_, rfl⟩
          obtain ⟨u26, e26⟩ : ∃ u, ar.tmps.getD 26 undef = u := ⟨_, rfl⟩
          obtain ⟨u27, e27⟩ : ∃ u, ar.tmps.getD 27 undef = u := ⟨_, rfl⟩
          obtain ⟨u28, e28⟩ : ∃ u, ar.tmps.getD 28 undef = u := ⟨_, rfl⟩
          obtain rfl := Fg.frame_is (a := ar) (vs := [Value.agg #[Value.int IntKind.u64 a.x0, Value.int IntKind.u64 a.x1, Value.int IntKind.u64 a.x2, Value.int IntKind.u64 a.x3, Value.int IntKind.u64 a.x4], Value.agg #[Value.int IntKind.u64 b.x0, Value.int IntKind.u64 b.x1, Value.int IntKind.u64 b.x2, Value.int IntKind.u64 b.x3, Value.int IntKind.u64 b.x4], Value.pointer (some ⟨w0.heap.size, 0, none⟩), Value.pointer (some ⟨w0.heap.size + 1, 0, none⟩), Value.bool false, undef, undef, undef, Value.agg #[Value.int IntKind.u64 a.x0, Value.int IntKind.u64 a.x1, Value.int IntKind.u64 a.x2, Value.int IntKind.u64 a.x3, Value.int IntKind.u64 a.x4], Value.bool true, Value.bool false, Value.bool false, Value.agg #[Value.int IntKind.u64 b.x0, Value.int IntKind.u64 b.x1, Value.int IntKind.u64 b.x2, Value.int IntKind.u64 b.x3, Value.int IntKind.u64 b.x4], Value.bool false, Value.bool true, Value.bool true, u16, u17, u18, u19, u20, u21, u22, u23, u24, u25, u26, u27, u28, undef, undef, undef, undef, undef, undef, undef, undef, undef, undef, undef, undef, undef, undef, undef, undef, undef, undef, undef, undef, undef, undef, undef, undef, undef, undef, undef, undef, undef, undef, undef, undef, undef, undef, undef, undef, undef, undef, undef, undef, undef, undef, undef, undef, undef, undef, undef, undef, undef, undef, undef, undef, undef, undef, undef, undef, undef, undef, undef, undef, undef, undef, undef, undef, undef, undef, undef, undef, undef, undef, undef, undef, undef, undef, undef, undef, undef, undef, undef, undef, undef]) hsz ⟨hrest 0 (by kernel_rfl), hrest 1 (by kernel_rfl), hrest 2 (by kernel_rfl), hrest 3 (by kernel_rfl), hrest 4 (by kernel_rfl), hrest 5 (by kernel_rfl), hrest 6 (by kernel_rfl), hrest 7 (by kernel_rfl), hrest 8 (by kernel_rfl), hrest 9 (by kernel_rfl), hrest 10 (by kernel_rfl), hrest 11 (by kernel_rfl), hrest 12 (by kernel_rfl), hrest 13 (by kernel_rfl), hrest 14 (by kernel_rfl), hrest 15 (by kernel_rfl), hrest 16 (by kernel_rfl), hrest 17 (by kernel_rfl), hrest 18 (by kernel_rfl), hrest 19 (by kernel_rfl), hrest 20 (by kernel_rfl), hrest 21 (by kernel_rfl), hrest 22 (by kernel_rfl), hrest 23 (by kernel_rfl), e24, e25, e26, e27, e28, hrest 29 (by kernel_rfl), hrest 30 (by kernel_rfl), hrest 31 (by kernel_rfl), hrest 32 (by kernel_rfl), hrest 33 (by kernel_rfl), hrest 34 (by kernel_rfl), hrest 35 (by kernel_rfl), hrest 36 (by kernel_rfl), hrest 37 (by kernel_rfl), hrest 38 (by kernel_rfl), hrest 39 (by kernel_rfl), hrest 40 (by kernel_rfl), hrest 41 (by kernel_rfl), hrest 42 (by kernel_rfl), hrest 43 (by kernel_rfl), hrest 44 (by kernel_rfl), hrest 45 (by kernel_rfl), hrest 46 (by kernel_rfl), hrest 47 (by kernel_rfl), hrest 48 (by kernel_rfl), hrest 49 (by kernel_rfl), hrest 50 (by kernel_rfl), hrest 51 (by kernel_rfl), hrest 52 (by kernel_rfl), hrest 53 (by kernel_rfl), hrest 54 (by kernel_rfl), hrest 55 (by kernel_rfl), hrest 56 (by kernel_rfl), hrest 57 (by kernel_rfl), hrest 58 (by kernel_rfl), hrest 59 (by kernel_rfl), hrest 60 (by kernel_rfl), hrest 61 (by kernel_rfl), hrest 62 (by kernel_rfl), hrest 63 (by kernel_rfl), hrest 64 (by kernel_rfl), hrest 65 (by kernel_rfl), hrest 66 (by kernel_rfl), hrest 67 (by kernel_rfl), hrest 68 (by kernel_rfl), hrest 69 (by kernel_rfl), hrest 70 (by kernel_rfl), hrest 71 (by kernel_rfl), hrest 72 (by kernel_rfl), hrest 73 (by kernel_rfl), hrest 74 (by kernel_rfl), hrest 75 (by kernel_rfl), hrest 76 (by kernel_rfl), hrest 77 (by kernel_rfl), hrest 78 (by kernel_rfl), hrest 79 (by kernel_rfl), hrest 80 (by kernel_rfl), hrest 81 (by kernel_rfl), hrest 82 (by kernel_rfl), hrest 83 (by kernel_rfl), hrest 84 (by kernel_rfl), hrest 85 (by kernel_rfl), hrest 86 (by kernel_rfl), hrest 87 (by kernel_rfl), hrest 88 (by kernel_rfl), hrest 89 (by kernel_rfl), hrest 90 (by kernel_rfl), hrest 91 (by kernel_rfl), hrest 92 (by kernel_rfl), hrest 93 (by kernel_rfl), hrest 94 (by kernel_rfl), hrest 95 (by kernel_rfl), hrest 96 (by kernel_rfl), hrest 97 (by kernel_rfl), hrest 98 (by kernel_rfl), hrest 99 (by kernel_rfl), hrest 100 (by kernel_rfl), hrest 101 (by kernel_rfl), hrest 102 (by kernel_rfl), hrest 103 (by kernel_rfl), hrest 104 (by kernel_rfl), hrest 105 (by kernel_rfl), hrest 106 (by kernel_rfl), hrest 107 (by kernel_rfl), hrest 108 (by kernel_rfl), hrest 109 (by kernel_rfl), trivial⟩ hdf
          clear hsz hdf hrest hslots hpt e24 e25 e26 e27 e28
          refine wpList_nil ?_
          have H10 := Lib.hid (gb_trans H9.out hB); clear hB
          go_wp2_with fail
          refine (awake_any wr (HT.out.grown (gb_trans H2.out.1 H10.out))).mono ?_
          rintro e w9 ⟨rfl, hg9⟩
          have H11 := Lib.hid (gb_trans (gb_trans H2.out.1 H10.out) hg9); clear hg9
          go_wp2
          go_ret
          exact ⟨rfl, H11.out⟩
    | true =>
      have hRa := HR.out.1 trivial
      have hRb := HR.out.2.1 rfl
      go_upto_region 5 with (fail)
      refine Fg.region_t [5, 6] [.any, .any, .any, .any, .any, .fresh 31 (Nr.pL Nr.zeros) w4.heap.size, .fresh 31 (Nr.pL Nr.zeros) w4.heap.size, .any, .any, .any, .any, .any, .any, .any, .any, .any, .any, .any, .any, .any, .any, .any, .any, .any, .any, .any, .any, .any, .any, .any, .val (a.v), .val (Nr.nV (num a.m)), .val (b.v), .val (Nr.nV (num b.m))] w4 6 (gb_refl _ _) (by kernel_rfl) (by kernel_rfl) (by kernel_rfl) (by kernel_rfl) (by decide) (by kernel_rfl) ?_ ?_
      · refine ⟨Fg.vT rfl (by decide) fun ac w h => ?_, ?_⟩
        · have e2 : ac.tmps.getD 2 undef = Value.pointer (some ⟨w0.heap.size, 0, none⟩) := h.rest 2 (by kernel_rfl)
          refine ⟨a.v, w, wants_none rfl, ?_, gb_refl _ _, rfl⟩
          exact ldE rfl e2 (HB.out.1 w (gb_trans H4.out h.base))
        refine ⟨Fg.cT rfl (by decide) fun ac w h => ?_, ?_⟩
        · have e30 : ac.tmps.getD 30 undef = a.v := h.dep 30 (by kernel_rfl)
          refine ⟨30, #[a.v], wants_none rfl, Fg.run_call rfl rfl (by simp only [List.map_toArray, List.map_cons, List.map_nil, Act.eval, e30]) (Fg.run_enter Tryz.func30 (by kernel_rfl) (by kernel_rfl)), ?_⟩
          exact (Nr.c_from a w hRa).mono fun _ _ ⟨he, hg⟩ => ⟨_, he, hg, rfl⟩
        refine ⟨Fg.vT rfl (by decide) fun ac w h => ?_, ?_⟩
        · have e3 : ac.tmps.getD 3 undef = Value.pointer (some ⟨w0.heap.size + 1, 0, none⟩) := h.rest 3 (by kernel_rfl)
          refine ⟨b.v, w, wants_none rfl, ?_, gb_refl _ _, rfl⟩
          exact ldE rfl e3 (HB.out.2 w (gb_trans H4.out h.base))
        refine ⟨Fg.cT rfl (by decide) fun ac w h => ?_, ?_⟩
        · have e32 : ac.tmps.getD 32 undef = b.v := h.dep 32 (by kernel_rfl)
          refine ⟨30, #[b.v], wants_none rfl, Fg.run_call rfl rfl (by simp only [List.map_toArray, List.map_cons, List.map_nil, Act.eval, e32]) (Fg.run_enter Tryz.func30 (by kernel_rfl) (by kernel_rfl)), ?_⟩
          exact (Nr.c_from b w hRb).mono fun _ _ ⟨he, hg⟩ => ⟨_, he, hg, rfl⟩
        refine ⟨Fg.aT 31 (Nr.pL Nr.zeros) rfl (by show 5 < 110; decide) rfl fun ac w h => ?_, ?_⟩
        · refine ⟨wants_none rfl, ?_⟩
          clear h
          go_simp
          rfl
        refine ⟨Fg.aT 31 (Nr.pL Nr.zeros) rfl (by show 6 < 110; decide) rfl fun ac w h => ?_, ?_⟩
        · refine ⟨wants_none rfl, ?_⟩
          clear h
          go_simp
          rfl
        trivial
      · intro aq wq hB hsz hdf hrest hslots hpt
        obtain ⟨N5, e5, n5, b5⟩ : ∃ N, aq.tmps.getD 5 undef = .pointer (some ⟨N, 0, none⟩) ∧ w4.heap.size ≤ N ∧ Blk wq N 31 (Nr.pL Nr.zeros) := hslots 5 (by kernel_rfl)
        obtain ⟨N6, e6, n6, b6⟩ : ∃ N, aq.tmps.getD 6 undef = .pointer (some ⟨N, 0, none⟩) ∧ w4.heap.size ≤ N ∧ Blk wq N 31 (Nr.pL Nr.zeros) := hslots 6 (by kernel_rfl)
        obtain ⟨u30, e30⟩ : ∃ u, aq.tmps.getD 30 undef = u := ⟨_, rfl⟩
        have e31 : aq.tmps.getD 31 undef = Nr.nV (num a.m) := hslots 31 (by kernel_rfl)
        obtain ⟨u32, e32⟩ : ∃ u, aq.tmps.getD 32 undef = u := ⟨_, rfl⟩
        have e33 : aq.tmps.getD 33 undef = Nr.nV (num b.m) := hslots 33 (by kernel_rfl)
        have h56 : N5 ≠ N6 := fun e => (hpt 5 (by decide) N5 e5).2 6 (by decide) (by decide) (by rw [e6, e])
        obtain rfl := Fg.frame_is (a := aq) (vs := [Value.agg #[Value.int IntKind.u64 a.x0, Value.int IntKind.u64 a.x1, Value.int IntKind.u64 a.x2, Value.int IntKind.u64 a.x3, Value.int IntKind.u64 a.x4], Value.agg #[Value.int IntKind.u64 b.x0, Value.int IntKind.u64 b.x1, Value.int IntKind.u64 b.x2, Value.int IntKind.u64 b.x3, Value.int IntKind.u64 b.x4], Value.pointer (some ⟨w0.heap.size, 0, none⟩), Value.pointer (some ⟨w0.heap.size + 1, 0, none⟩), Value.bool false, Value.pointer (some ⟨N5, 0, none⟩), Value.pointer (some ⟨N6, 0, none⟩), undef, Value.agg #[Value.int IntKind.u64 a.x0, Value.int IntKind.u64 a.x1, Value.int IntKind.u64 a.x2, Value.int IntKind.u64 a.x3, Value.int IntKind.u64 a.x4], Value.bool true, Value.bool false, Value.bool false, Value.agg #[Value.int IntKind.u64 b.x0, Value.int IntKind.u64 b.x1, Value.int IntKind.u64 b.x2, Value.int IntKind.u64 b.x3, Value.int IntKind.u64 b.x4], Value.bool true, Value.bool false, Value.bool false, undef, undef, undef, undef, undef, undef, undef, undef, undef, undef, undef, undef, undef, undef, u30, Nr.nV (num a.m), u32, Nr.nV (num b.m), undef, undef, undef, undef, undef, undef, undef, undef, undef, undef, undef, undef, undef, undef, undef, undef, undef, undef, undef, undef, undef, undef, undef, undef, undef, undef, undef, undef, undef, undef, undef, undef, undef, undef, undef, undef, undef, undef, undef, undef, undef, undef, undef, undef, undef, undef, undef, undef, undef, undef, undef, undef, undef, undef, undef, undef, undef, undef, undef, undef, undef, undef, undef, undef, undef, undef, undef, undef, undef, undef, undef, undef, undef, undef, undef, undef]) hsz ⟨hrest 0 (by kernel_rfl), hrest 1 (by kernel_rfl), hrest 2 (by kernel_rfl), hrest 3 (by kernel_rfl), hrest 4 (by kernel_rfl), e5, e6, hrest 7 (by kernel_rfl), hrest 8 (by kernel_rfl), hrest 9 (by kernel_rfl), hrest 10 (by kernel_rfl), hrest 11 (by kernel_rfl), hrest 12 (by kernel_rfl), hrest 13 (by kernel_rfl), hrest 14 (by kernel_rfl), hrest 15 (by kernel_rfl), hrest 16 (by kernel_rfl), hrest 17 (by kernel_rfl), hrest 18 (by kernel_rfl), hrest 19 (by kernel_rfl), hrest 20 (by kernel_rfl), hrest 21 (by kernel_rfl), hrest 22 (by kernel_rfl), hrest 23 (by kernel_rfl), hrest 24 (by kernel_rfl), hrest 25 (by kernel_rfl), hrest 26 (by kernel_rfl), hrest 27 (by kernel_rfl), hrest 28 (by kernel_rfl), hrest 29 (by kernel_rfl), e30, e31, e32, e33, hrest 34 (by kernel_rfl), hrest 35 (by kernel_rfl), hrest 36 (by kernel_rfl), hrest 37 (by kernel_rfl), hrest 38 (by kernel_rfl), hrest 39 (by kernel_rfl), hrest 40 (by kernel_rfl), hrest 41 (by kernel_rfl), hrest 42 (by kernel_rfl), hrest 43 (by kernel_rfl), hrest 44 (by kernel_rfl), hrest 45 (by kernel_rfl), hrest 46 (by kernel_rfl), hrest 47 (by kernel_rfl), hrest 48 (by kernel_rfl), hrest 49 (by kernel_rfl), hrest 50 (by kernel_rfl), hrest 51 (by kernel_rfl), hrest 52 (by kernel_rfl), hrest 53 (by kernel_rfl), hrest 54 (by kernel_rfl), hrest 55 (by kernel_rfl), hrest 56 (by kernel_rfl), hrest 57 (by kernel_rfl), hrest 58 (by kernel_rfl), hrest 59 (by kernel_rfl), hrest 60 (by kernel_rfl), hrest 61 (by kernel_rfl), hrest 62 (by kernel_rfl), hrest 63 (by kernel_rfl), hrest 64 (by kernel_rfl), hrest 65 (by kernel_rfl), hrest 66 (by kernel_rfl), hrest 67 (by kernel_rfl), hrest 68 (by kernel_rfl), hrest 69 (by kernel_rfl), hrest 70 (by kernel_rfl), hrest 71 (by kernel_rfl), hrest 72 (by kernel_rfl), hrest 73 (by kernel_rfl), hrest 74 (by kernel_rfl), hrest 75 (by kernel_rfl), hrest 76 (by kernel_rfl), hrest 77 (by kernel_rfl), hrest 78 (by kernel_rfl), hrest 79 (by kernel_rfl), hrest 80 (by kernel_rfl), hrest 81 (by kernel_rfl), hrest 82 (by kernel_rfl), hrest 83 (by kernel_rfl), hrest 84 (by kernel_rfl), hrest 85 (by kernel_rfl), hrest 86 (by kernel_rfl), hrest 87 (by kernel_rfl), hrest 88 (by kernel_rfl), hrest 89 (by kernel_rfl), hrest 90 (by kernel_rfl), hrest 91 (by kernel_rfl), hrest 92 (by kernel_rfl), hrest 93 (by kernel_rfl), hrest 94 (by kernel_rfl), hrest 95 (by kernel_rfl), hrest 96 (by kernel_rfl), hrest 97 (by kernel_rfl), hrest 98 (by kernel_rfl), hrest 99 (by kernel_rfl), hrest 100 (by kernel_rfl), hrest 101 (by kernel_rfl), hrest 102 (by kernel_rfl), hrest 103 (by kernel_rfl), hrest 104 (by kernel_rfl), hrest 105 (by kernel_rfl), hrest 106 (by kernel_rfl), hrest 107 (by kernel_rfl), hrest 108 (by kernel_rfl), hrest 109 (by kernel_rfl), trivial⟩ hdf
        clear hsz hdf hrest hslots hpt e5 e6 e30 e31 e32 e33
        refine Fg.wpl_skip rfl rfl (Nr.st (l := num a.m) rfl rfl rfl b5 rfl (Nr.num_len _) rfl) ?_
        have d5 := Nr.stored (l := num a.m) b5 rfl (Nr.num_len _)
        have d6 := b6.setCells_other (cs := Nr.pL (num a.m)) (C := N5) 0 h56
        have dg := gb_setCells_new (cs := Nr.pL (num a.m)) hB (B := N5) n5 0
        refine Fg.wpl_skip rfl rfl (Nr.st (l := num b.m) rfl rfl rfl d6 rfl (Nr.num_len _) rfl) ?_
        refine wpList_nil ?_
        have f5 := d5.setCells_other (cs := Nr.pL (num b.m)) (C := N6) 0 (Ne.symm h56)
        have f6 := Nr.stored (l := num b.m) d6 rfl (Nr.num_len _)
        have fg := gb_setCells_new (cs := Nr.pL (num b.m)) dg (B := N6) n6 0
        have z6 := f6.lt
        clear d5 d6 dg b5 b6 hB n5 n6 h56
        revert z6; revert fg; revert f6; revert f5
        generalize World.setCells (World.setCells _ _ _ _) _ _ _ = w6
        intro f5 f6 fg z6
        go_upto_region 6 with (fail)
        refine wp_region_lit ?_
        refine Fg.wpl_value (v := Nr.nV Nr.zeros) (w' := w6) rfl (by go_simp; rfl) ?_
        simp only [Act.put, List.setIfInBounds_toArray, List.set_cons_succ, List.set_cons_zero]
        refine Fg.wpl_value (v := .pointer (some ⟨w6.heap.size, 0, none⟩)) (w' := w6.alloc (.cells (Nr.pL Nr.zeros).toArray 31)) rfl (by go_simp; rfl) ?_
        simp only [Act.put, List.setIfInBounds_toArray, List.set_cons_succ, List.set_cons_zero]
        refine Fg.wpl_skip rfl rfl (Nr.st (l := Nr.zeros) rfl rfl rfl (Nr.new (w := w6) rfl Nr.zeros) rfl rfl rfl) ?_
        refine wpList_nil ?_
        obtain ⟨h7, g7, s7⟩ := Nr.var w6 Nr.zeros rfl
        revert h7 g7 s7
        generalize World.setCells _ _ _ _ = w7
        intro h7 g7 s7
        have h7 : Blk w7 w6.heap.size 31 (Nr.pL (num 0)) := by rw [Nr.num_zero]; exact h7
        have H7 := Lib.hid (And.intro (gb_trans (gb_trans H4.out fg) g7) (And.intro (f5.grown g7 (by simp)) (And.intro (f6.grown g7 (by simp)) h7))); clear fg f5 f6 h7 g7
        obtain ⟨N7, hN7⟩ : ∃ N7, N7 = w6.heap.size := ⟨_, rfl⟩
        rw [← hN7] at H7 ⊢
        clear hN7 s7 z6
        go_upto_region 7 with (fail)
        refine Fg.region_t [] [.any, .any, .any, .any, .any, .any, .any, .any, .any, .any, .any, .any, .any, .any, .any, .any, .any, .any, .any, .any, .any, .any, .any, .any, .any, .any, .any, .any, .any, .any, .any, .any, .any, .any, .any, .val (a.v), .val (b.v), .val ((Fe.addF a b).v), .val (Nr.nV (num a.m)), .val (Nr.nV (num b.m)), .val (Nr.nV (num (a.m + b.m))), .val (Value.bool true), .val (Value.bool false), .val (Value.bool false), .val (a.v), .val (b.v), .val ((Fe.subF a b).v), .val (Nr.nV (num a.m)), .val (Nr.nV (num b.m)), .val (Nr.nV (num (a.m + (Fe.P - b.m)))), .val (Value.bool true), .val (Value.bool false), .val (Value.bool false), .val (Value.bool false), .val (a.v), .val (b.v), .val ((Fe.mulF a b).v), .val (Nr.nV (num a.m)), .val (Nr.nV (num b.m)), .val (Nr.nV (num (a.m * b.m))), .val (Value.bool true), .val (Value.bool false), .val (Value.bool false)] w7 28 (gb_refl _ _) (by kernel_rfl) (by kernel_rfl) (by kernel_rfl) (by kernel_rfl) (by decide) (by kernel_rfl) ?_ ?_
        · refine ⟨Fg.vT rfl (by decide) fun ac w h => ?_, ?_⟩
          · have e2 : ac.tmps.getD 2 undef = Value.pointer (some ⟨w0.heap.size, 0, none⟩) := h.rest 2 (by kernel_rfl)
            refine ⟨a.v, w, wants_none rfl, ?_, gb_refl _ _, rfl⟩
            exact ldE rfl e2 (HB.out.1 w (gb_trans H7.out.1 h.base))
          refine ⟨Fg.vT rfl (by decide) fun ac w h => ?_, ?_⟩
          · have e3 : ac.tmps.getD 3 undef = Value.pointer (some ⟨w0.heap.size + 1, 0, none⟩) := h.rest 3 (by kernel_rfl)
            refine ⟨b.v, w, wants_none rfl, ?_, gb_refl _ _, rfl⟩
            exact ldE rfl e3 (HB.out.2 w (gb_trans H7.out.1 h.base))
          refine ⟨Fg.cT rfl (by decide) fun ac w h => ?_, ?_⟩
          · have e35 : ac.tmps.getD 35 undef = a.v := h.dep 35 (by kernel_rfl)
            have e36 : ac.tmps.getD 36 undef = b.v := h.dep 36 (by kernel_rfl)
            refine ⟨36, #[a.v, b.v], wants_none rfl, Fg.run_call rfl rfl (by simp only [List.map_toArray, List.map_cons, List.map_nil, Act.eval, e35, e36]) (Fg.run_enter Tryz.func36 (by kernel_rfl) (by kernel_rfl)), ?_⟩
            exact (feOut_and (add_any a b w HO.out.1 HO.out.2)).mono fun _ _ ⟨he, hg⟩ => ⟨_, he, hg, rfl⟩
          refine ⟨Fg.vT rfl (by decide) fun ac w h => ?_, ?_⟩
          · have e5 : ac.tmps.getD 5 undef = Value.pointer (some ⟨N5, 0, none⟩) := h.rest 5 (by kernel_rfl)
            refine ⟨Nr.nV (num a.m), w, wants_none rfl, ?_, gb_refl _ _, rfl⟩
            exact Nr.ld rfl e5 (H7.out.2.1.grown h.base (by simp)) (Nr.num_len _) rfl rfl
          refine ⟨Fg.vT rfl (by decide) fun ac w h => ?_, ?_⟩
          · have e6 : ac.tmps.getD 6 undef = Value.pointer (some ⟨N6, 0, none⟩) := h.rest 6 (by kernel_rfl)
            refine ⟨Nr.nV (num b.m), w, wants_none rfl, ?_, gb_refl _ _, rfl⟩
            exact Nr.ld rfl e6 (H7.out.2.2.1.grown h.base (by simp)) (Nr.num_len _) rfl rfl
          refine ⟨Fg.cT rfl (by decide) fun ac w h => ?_, ?_⟩
          · have e38 : ac.tmps.getD 38 undef = Nr.nV (num a.m) := h.dep 38 (by kernel_rfl)
            have e39 : ac.tmps.getD 39 undef = Nr.nV (num b.m) := h.dep 39 (by kernel_rfl)
            refine ⟨39, #[Nr.nV (num a.m), Nr.nV (num b.m)], wants_none rfl, Fg.run_call rfl rfl (by simp only [List.map_toArray, List.map_cons, List.map_nil, Act.eval, e38, e39]) (Fg.run_enter Tryz.func39 (by kernel_rfl) (by kernel_rfl)), ?_⟩
            exact (Nr.c_add a.m b.m w (Fe.m_lt a) (Fe.m_lt b)).mono fun _ _ ⟨he, hg⟩ => ⟨_, he, hg, rfl⟩
          refine ⟨Fg.cT rfl (by decide) fun ac w h => ?_, ?_⟩
          · have e37 : ac.tmps.getD 37 undef = (Fe.addF a b).v := h.dep 37 (by kernel_rfl)
            have e40 : ac.tmps.getD 40 undef = Nr.nV (num (a.m + b.m)) := h.dep 40 (by kernel_rfl)
            refine ⟨10, #[(Fe.addF a b).v, Nr.nV (num (a.m + b.m))], wants_none rfl, Fg.run_call rfl rfl (by simp only [List.map_toArray, List.map_cons, List.map_nil, Act.eval, e37, e40]) (Fg.run_enter Tryz.func10 (by kernel_rfl) (by kernel_rfl)), ?_⟩
            exact (Nr.is_add w hRa hRb).mono fun _ _ ⟨he, hg⟩ => ⟨_, he, hg, rfl⟩
          refine ⟨Fg.vT rfl (by decide) fun ac w h => ?_, ?_⟩
          · have e41 : ac.tmps.getD 41 undef = Value.bool true := h.dep 41 (by kernel_rfl)
            refine ⟨Value.bool false, w, wants_none rfl, ?_, gb_refl _ _, rfl⟩
            clear h
            simp only [execOp, Act.eval, e41]
            go_simp
          refine ⟨Fg.vT rfl (by decide) fun ac w h => ?_, ?_⟩
          · have e42 : ac.tmps.getD 42 undef = Value.bool false := h.dep 42 (by kernel_rfl)
            exact ⟨_, w, wants_none rfl, Fg.run_move rfl e42, gb_refl _ _, rfl⟩
          refine ⟨Fg.vT rfl (by decide) fun ac w h => ?_, ?_⟩
          · have e43 : ac.tmps.getD 43 undef = Value.bool false := h.dep 43 (by kernel_rfl)
            have e2 : ac.tmps.getD 2 undef = Value.pointer (some ⟨w0.heap.size, 0, none⟩) := h.rest 2 (by kernel_rfl)
            refine ⟨a.v, w, wants_some (d := 43) rfl rfl (by rw [h.size]; show 43 < 110; decide) e43, ?_, gb_refl _ _, rfl⟩
            exact ldE rfl e2 (HB.out.1 w (gb_trans H7.out.1 h.base))
          refine ⟨Fg.vT rfl (by decide) fun ac w h => ?_, ?_⟩
          · have e43 : ac.tmps.getD 43 undef = Value.bool false := h.dep 43 (by kernel_rfl)
            have e3 : ac.tmps.getD 3 undef = Value.pointer (some ⟨w0.heap.size + 1, 0, none⟩) := h.rest 3 (by kernel_rfl)
            refine ⟨b.v, w, wants_some (d := 43) rfl rfl (by rw [h.size]; show 43 < 110; decide) e43, ?_, gb_refl _ _, rfl⟩
            exact ldE rfl e3 (HB.out.2 w (gb_trans H7.out.1 h.base))
          refine ⟨Fg.cT rfl (by decide) fun ac w h => ?_, ?_⟩
          · have e43 : ac.tmps.getD 43 undef = Value.bool false := h.dep 43 (by kernel_rfl)
            have e44 : ac.tmps.getD 44 undef = a.v := h.dep 44 (by kernel_rfl)
            have e45 : ac.tmps.getD 45 undef = b.v := h.dep 45 (by kernel_rfl)
            refine ⟨37, #[a.v, b.v], wants_some (d := 43) rfl rfl (by rw [h.size]; show 43 < 110; decide) e43, Fg.run_call rfl rfl (by simp only [List.map_toArray, List.map_cons, List.map_nil, Act.eval, e44, e45]) (Fg.run_enter Tryz.func37 (by kernel_rfl) (by kernel_rfl)), ?_⟩
            exact (feOut_and (sub_any a b w (HT.out.grown (gb_trans H2.out.1 (gb_trans H7.out.1 h.base))) HO.out.1 HO.out.2)).mono fun _ _ ⟨he, hg⟩ => ⟨_, he, hg, rfl⟩
          refine ⟨Fg.vT rfl (by decide) fun ac w h => ?_, ?_⟩
          · have e43 : ac.tmps.getD 43 undef = Value.bool false := h.dep 43 (by kernel_rfl)
            have e5 : ac.tmps.getD 5 undef = Value.pointer (some ⟨N5, 0, none⟩) := h.rest 5 (by kernel_rfl)
            refine ⟨Nr.nV (num a.m), w, wants_some (d := 43) rfl rfl (by rw [h.size]; show 43 < 110; decide) e43, ?_, gb_refl _ _, rfl⟩
            exact Nr.ld rfl e5 (H7.out.2.1.grown h.base (by simp)) (Nr.num_len _) rfl rfl
          refine ⟨Fg.vT rfl (by decide) fun ac w h => ?_, ?_⟩
          · have e43 : ac.tmps.getD 43 undef = Value.bool false := h.dep 43 (by kernel_rfl)
            have e6 : ac.tmps.getD 6 undef = Value.pointer (some ⟨N6, 0, none⟩) := h.rest 6 (by kernel_rfl)
            refine ⟨Nr.nV (num b.m), w, wants_some (d := 43) rfl rfl (by rw [h.size]; show 43 < 110; decide) e43, ?_, gb_refl _ _, rfl⟩
            exact Nr.ld rfl e6 (H7.out.2.2.1.grown h.base (by simp)) (Nr.num_len _) rfl rfl
          refine ⟨Fg.cT rfl (by decide) fun ac w h => ?_, ?_⟩
          · have e43 : ac.tmps.getD 43 undef = Value.bool false := h.dep 43 (by kernel_rfl)
            have e47 : ac.tmps.getD 47 undef = Nr.nV (num a.m) := h.dep 47 (by kernel_rfl)
            have e48 : ac.tmps.getD 48 undef = Nr.nV (num b.m) := h.dep 48 (by kernel_rfl)
            refine ⟨40, #[Nr.nV (num a.m), Nr.nV (num b.m)], wants_some (d := 43) rfl rfl (by rw [h.size]; show 43 < 110; decide) e43, Fg.run_call rfl rfl (by simp only [List.map_toArray, List.map_cons, List.map_nil, Act.eval, e47, e48]) (Fg.run_enter Tryz.func40 (by kernel_rfl) (by kernel_rfl)), ?_⟩
            exact (Nr.c_sub a.m b.m w (Fe.m_lt a) (Fe.m_lt b)).mono fun _ _ ⟨he, hg⟩ => ⟨_, he, hg, rfl⟩
          refine ⟨Fg.cT rfl (by decide) fun ac w h => ?_, ?_⟩
          · have e43 : ac.tmps.getD 43 undef = Value.bool false := h.dep 43 (by kernel_rfl)
            have e46 : ac.tmps.getD 46 undef = (Fe.subF a b).v := h.dep 46 (by kernel_rfl)
            have e49 : ac.tmps.getD 49 undef = Nr.nV (num (a.m + (Fe.P - b.m))) := h.dep 49 (by kernel_rfl)
            refine ⟨10, #[(Fe.subF a b).v, Nr.nV (num (a.m + (Fe.P - b.m)))], wants_some (d := 43) rfl rfl (by rw [h.size]; show 43 < 110; decide) e43, Fg.run_call rfl rfl (by simp only [List.map_toArray, List.map_cons, List.map_nil, Act.eval, e46, e49]) (Fg.run_enter Tryz.func10 (by kernel_rfl) (by kernel_rfl)), ?_⟩
            exact (Nr.is_sub w hRa hRb).mono fun _ _ ⟨he, hg⟩ => ⟨_, he, hg, rfl⟩
          refine ⟨Fg.vT rfl (by decide) fun ac w h => ?_, ?_⟩
          · have e43 : ac.tmps.getD 43 undef = Value.bool false := h.dep 43 (by kernel_rfl)
            have e50 : ac.tmps.getD 50 undef = Value.bool true := h.dep 50 (by kernel_rfl)
            refine ⟨Value.bool false, w, wants_some (d := 43) rfl rfl (by rw [h.size]; show 43 < 110; decide) e43, ?_, gb_refl _ _, rfl⟩
            clear h
            simp only [execOp, Act.eval, e50]
            go_simp
          refine ⟨Fg.vT rfl (by decide) fun ac w h => ?_, ?_⟩
          · have e43 : ac.tmps.getD 43 undef = Value.bool false := h.dep 43 (by kernel_rfl)
            have e51 : ac.tmps.getD 51 undef = Value.bool false := h.dep 51 (by kernel_rfl)
            refine ⟨Value.bool false, w, wants_none rfl, ?_, gb_refl _ _, rfl⟩
            clear h
            simp only [execOp, Act.eval, e43, e51]
            go_simp
          refine ⟨Fg.vT rfl (by decide) fun ac w h => ?_, ?_⟩
          · have e52 : ac.tmps.getD 52 undef = Value.bool false := h.dep 52 (by kernel_rfl)
            exact ⟨_, w, wants_none rfl, Fg.run_move rfl e52, gb_refl _ _, rfl⟩
          refine ⟨Fg.vT rfl (by decide) fun ac w h => ?_, ?_⟩
          · have e53 : ac.tmps.getD 53 undef = Value.bool false := h.dep 53 (by kernel_rfl)
            have e2 : ac.tmps.getD 2 undef = Value.pointer (some ⟨w0.heap.size, 0, none⟩) := h.rest 2 (by kernel_rfl)
            refine ⟨a.v, w, wants_some (d := 53) rfl rfl (by rw [h.size]; show 53 < 110; decide) e53, ?_, gb_refl _ _, rfl⟩
            exact ldE rfl e2 (HB.out.1 w (gb_trans H7.out.1 h.base))
          refine ⟨Fg.vT rfl (by decide) fun ac w h => ?_, ?_⟩
          · have e53 : ac.tmps.getD 53 undef = Value.bool false := h.dep 53 (by kernel_rfl)
            have e3 : ac.tmps.getD 3 undef = Value.pointer (some ⟨w0.heap.size + 1, 0, none⟩) := h.rest 3 (by kernel_rfl)
            refine ⟨b.v, w, wants_some (d := 53) rfl rfl (by rw [h.size]; show 53 < 110; decide) e53, ?_, gb_refl _ _, rfl⟩
            exact ldE rfl e3 (HB.out.2 w (gb_trans H7.out.1 h.base))
          refine ⟨Fg.cT rfl (by decide) fun ac w h => ?_, ?_⟩
          · have e53 : ac.tmps.getD 53 undef = Value.bool false := h.dep 53 (by kernel_rfl)
            have e54 : ac.tmps.getD 54 undef = a.v := h.dep 54 (by kernel_rfl)
            have e55 : ac.tmps.getD 55 undef = b.v := h.dep 55 (by kernel_rfl)
            refine ⟨35, #[a.v, b.v], wants_some (d := 53) rfl rfl (by rw [h.size]; show 53 < 110; decide) e53, Fg.run_call rfl rfl (by simp only [List.map_toArray, List.map_cons, List.map_nil, Act.eval, e54, e55]) (Fg.run_enter Tryz.func35 (by kernel_rfl) (by kernel_rfl)), ?_⟩
            exact (feOut_and (mul_fe a b w HO.out.1 HO.out.2)).mono fun _ _ ⟨he, hg⟩ => ⟨_, he, hg, rfl⟩
          refine ⟨Fg.vT rfl (by decide) fun ac w h => ?_, ?_⟩
          · have e53 : ac.tmps.getD 53 undef = Value.bool false := h.dep 53 (by kernel_rfl)
            have e5 : ac.tmps.getD 5 undef = Value.pointer (some ⟨N5, 0, none⟩) := h.rest 5 (by kernel_rfl)
            refine ⟨Nr.nV (num a.m), w, wants_some (d := 53) rfl rfl (by rw [h.size]; show 53 < 110; decide) e53, ?_, gb_refl _ _, rfl⟩
            exact Nr.ld rfl e5 (H7.out.2.1.grown h.base (by simp)) (Nr.num_len _) rfl rfl
          refine ⟨Fg.vT rfl (by decide) fun ac w h => ?_, ?_⟩
          · have e53 : ac.tmps.getD 53 undef = Value.bool false := h.dep 53 (by kernel_rfl)
            have e6 : ac.tmps.getD 6 undef = Value.pointer (some ⟨N6, 0, none⟩) := h.rest 6 (by kernel_rfl)
            refine ⟨Nr.nV (num b.m), w, wants_some (d := 53) rfl rfl (by rw [h.size]; show 53 < 110; decide) e53, ?_, gb_refl _ _, rfl⟩
            exact Nr.ld rfl e6 (H7.out.2.2.1.grown h.base (by simp)) (Nr.num_len _) rfl rfl
          refine ⟨Fg.cT rfl (by decide) fun ac w h => ?_, ?_⟩
          · have e53 : ac.tmps.getD 53 undef = Value.bool false := h.dep 53 (by kernel_rfl)
            have e57 : ac.tmps.getD 57 undef = Nr.nV (num a.m) := h.dep 57 (by kernel_rfl)
            have e58 : ac.tmps.getD 58 undef = Nr.nV (num b.m) := h.dep 58 (by kernel_rfl)
            refine ⟨41, #[Nr.nV (num a.m), Nr.nV (num b.m)], wants_some (d := 53) rfl rfl (by rw [h.size]; show 53 < 110; decide) e53, Fg.run_call rfl rfl (by simp only [List.map_toArray, List.map_cons, List.map_nil, Act.eval, e57, e58]) (Fg.run_enter Tryz.func41 (by kernel_rfl) (by kernel_rfl)), ?_⟩
            exact (Nr.c_mul a.m b.m w (Fe.m_lt a) (Fe.m_lt b)).mono fun _ _ ⟨he, hg⟩ => ⟨_, he, hg, rfl⟩
          refine ⟨Fg.cT rfl (by decide) fun ac w h => ?_, ?_⟩
          · have e53 : ac.tmps.getD 53 undef = Value.bool false := h.dep 53 (by kernel_rfl)
            have e56 : ac.tmps.getD 56 undef = (Fe.mulF a b).v := h.dep 56 (by kernel_rfl)
            have e59 : ac.tmps.getD 59 undef = Nr.nV (num (a.m * b.m)) := h.dep 59 (by kernel_rfl)
            refine ⟨10, #[(Fe.mulF a b).v, Nr.nV (num (a.m * b.m))], wants_some (d := 53) rfl rfl (by rw [h.size]; show 53 < 110; decide) e53, Fg.run_call rfl rfl (by simp only [List.map_toArray, List.map_cons, List.map_nil, Act.eval, e56, e59]) (Fg.run_enter Tryz.func10 (by kernel_rfl) (by kernel_rfl)), ?_⟩
            exact (Nr.is_mul w hRa hRb).mono fun _ _ ⟨he, hg⟩ => ⟨_, he, hg, rfl⟩
          refine ⟨Fg.vT rfl (by decide) fun ac w h => ?_, ?_⟩
          · have e53 : ac.tmps.getD 53 undef = Value.bool false := h.dep 53 (by kernel_rfl)
            have e60 : ac.tmps.getD 60 undef = Value.bool true := h.dep 60 (by kernel_rfl)
            refine ⟨Value.bool false, w, wants_some (d := 53) rfl rfl (by rw [h.size]; show 53 < 110; decide) e53, ?_, gb_refl _ _, rfl⟩
            clear h
            simp only [execOp, Act.eval, e60]
            go_simp
          refine ⟨Fg.vT rfl (by decide) fun ac w h => ?_, ?_⟩
          · have e53 : ac.tmps.getD 53 undef = Value.bool false := h.dep 53 (by kernel_rfl)
            have e61 : ac.tmps.getD 61 undef = Value.bool false := h.dep 61 (by kernel_rfl)
            refine ⟨Value.bool false, w, wants_none rfl, ?_, gb_refl _ _, rfl⟩
            clear h
            simp only [execOp, Act.eval, e53, e61]
            go_simp
          trivial
        · intro ar w8 hB hsz hdf hrest hslots hpt
          obtain ⟨u35, e35⟩ : ∃ u, ar.tmps.getD 35 undef = u := ⟨_, rfl⟩
          obtain ⟨u36, e36⟩ : ∃ u, ar.tmps.getD 36 undef = u := ⟨_, rfl⟩
          obtain ⟨u37, e37⟩ : ∃ u, ar.tmps.getD 37 undef = u := ⟨_, rfl⟩
          obtain ⟨u38, e38⟩ : ∃ u, ar.tmps.getD 38 undef = u := ⟨_, rfl⟩
          obtain ⟨u39, e39⟩ : ∃ u, ar.tmps.getD 39 undef = u := ⟨_, rfl⟩
          obtain ⟨u40, e40⟩ : ∃ u, ar.tmps.getD 40 undef = u := ⟨_, rfl⟩
          obtain ⟨u41, e41⟩ : ∃ u, ar.tmps.getD 41 undef = u := ⟨_, rfl⟩
          obtain ⟨u42, e42⟩ : ∃ u, ar.tmps.getD 42 undef = u := ⟨_, rfl⟩
          obtain ⟨u43, e43⟩ : ∃ u, ar.tmps.getD 43 undef = u := ⟨_, rfl⟩
          obtain ⟨u44, e44⟩ : ∃ u, ar.tmps.getD 44 undef = u := ⟨_, rfl⟩
          obtain ⟨u45, e45⟩ : ∃ u, ar.tmps.getD 45 undef = u := ⟨_, rfl⟩
          obtain ⟨u46, e46⟩ : ∃ u, ar.tmps.getD 46 undef = u := ⟨_, rfl⟩
          obtain ⟨u47, e47⟩ : ∃ u, ar.tmps.getD 47 undef = u := ⟨_, rfl⟩
          obtain ⟨u48, e48⟩ : ∃ u, ar.tmps.getD 48 undef = u := ⟨_, rfl⟩
          obtain ⟨u49, e49⟩ : ∃ u, ar.tmps.getD 49 undef = u := ⟨_, rfl⟩
          obtain ⟨u50, e50⟩ : ∃ u, ar.tmps.getD 50 undef = u := ⟨_, rfl⟩
          obtain ⟨u51, e51⟩ : ∃ u, ar.tmps.getD 51 undef = u := ⟨_, rfl⟩
          obtain ⟨u52, e52⟩ : ∃ u, ar.tmps.getD 52 undef = u := ⟨_, rfl⟩
          obtain ⟨u53, e53⟩ : ∃ u, ar.tmps.getD 53 undef = u := ⟨_, rfl⟩
          obtain ⟨u54, e54⟩ : ∃ u, ar.tmps.getD 54 undef = u := ⟨_, rfl⟩
          obtain ⟨u55, e55⟩ : ∃ u, ar.tmps.getD 55 undef = u := ⟨_, rfl⟩
          obtain ⟨u56, e56⟩ : ∃ u, ar.tmps.getD 56 undef = u := ⟨_, rfl⟩
          obtain ⟨u57, e57⟩ : ∃ u, ar.tmps.getD 57 undef = u := ⟨_, rfl⟩
          obtain ⟨u58, e58⟩ : ∃ u, ar.tmps.getD 58 undef = u := ⟨_, rfl⟩
          obtain ⟨u59, e59⟩ : ∃ u, ar.tmps.getD 59 undef = u := ⟨_, rfl⟩
          obtain ⟨u60, e60⟩ : ∃ u, ar.tmps.getD 60 undef = u := ⟨_, rfl⟩
          obtain ⟨u61, e61⟩ : ∃ u, ar.tmps.getD 61 undef = u := ⟨_, rfl⟩
          have e62 : ar.tmps.getD 62 undef = Value.bool false := hslots 62 (by kernel_rfl)
          obtain rfl := Fg.frame_is (a := ar) (vs := [Value.agg #[Value.int IntKind.u64 a.x0, Value.int IntKind.u64 a.x1, Value.int IntKind.u64 a.x2, Value.int IntKind.u64 a.x3, Value.int IntKind.u64 a.x4], Value.agg #[Value.int IntKind.u64 b.x0, Value.int IntKind.u64 b.x1, Value.int IntKind.u64 b.x2, Value.int IntKind.u64 b.x3, Value.int IntKind.u64 b.x4], Value.pointer (some ⟨w0.heap.size, 0, none⟩), Value.pointer (some ⟨w0.heap.size + 1, 0, none⟩), Value.bool false, Value.pointer (some ⟨N5, 0, none⟩), Value.pointer (some ⟨N6, 0, none⟩), Value.pointer (some ⟨N7, 0, none⟩), Value.agg #[Value.int IntKind.u64 a.x0, Value.int IntKind.u64 a.x1, Value.int IntKind.u64 a.x2, Value.int IntKind.u64 a.x3, Value.int IntKind.u64 a.x4], Value.bool true, Value.bool false, Value.bool false, Value.agg #[Value.int IntKind.u64 b.x0, Value.int IntKind.u64 b.x1, Value.int IntKind.u64 b.x2, Value.int IntKind.u64 b.x3, Value.int IntKind.u64 b.x4], Value.bool true, Value.bool false, Value.bool false, undef, undef, undef, undef, undef, undef, undef, undef, undef, undef, undef, undef, undef, undef, u30, Nr.nV (num a.m), u32, Nr.nV (num b.m), Nr.nV Nr.zeros, u35, u36, u37, u38, u39, u40, u41, u42, u43, u44, u45, u46, u47, u48, u49, u50, u51, u52, u53, u54, u55, u56, u57, u58, u59, u60, u61, Value.bool false, undef, undef, undef, undef, undef, undef, undef, undef, undef, undef, undef, undef, undef, undef, undef, undef, undef, undef, undef, undef, undef, undef, undef, undef, undef, undef, undef, undef, undef, undef, undef, undef, undef, undef, undef, undef, undef, undef, undef, undef, undef, undef, undef, undef, undef, undef, undef]) hsz ⟨hrest 0 (by kernel_rfl), hrest 1 (by kernel_rfl), hrest 2 (by kernel_rfl), hrest 3 (by kernel_rfl), hrest 4 (by kernel_rfl), hrest 5 (by kernel_rfl), hrest 6 (by kernel_rfl), hrest 7 (by kernel_rfl), hrest 8 (by kernel_rfl), hrest 9 (by kernel_rfl), hrest 10 (by kernel_rfl), hrest 11 (by kernel_rfl), hrest 12 (by kernel_rfl), hrest 13 (by kernel_rfl), hrest 14 (by kernel_rfl), hrest 15 (by kernel_rfl), hrest 16 (by kernel_rfl), hrest 17 (by kernel_rfl), hrest 18 (by kernel_rfl), hrest 19 (by kernel_rfl), hrest 20 (by kernel_rfl), hrest 21 (by kernel_rfl), hrest 22 (by kernel_rfl), hrest 23 (by kernel_rfl), hrest 24 (by kernel_rfl), hrest 25 (by kernel_rfl), hrest 26 (by kernel_rfl), hrest 27 (by kernel_rfl), hrest 28 (by kernel_rfl), hrest 29 (by kernel_rfl), hrest 30 (by kernel_rfl), hrest 31 (by kernel_rfl), hrest 32 (by kernel_rfl), hrest 33 (by kernel_rfl), hrest 34 (by kernel_rfl), e35, e36, e37, e38, e39, e40, e41, e42, e43, e44, e45, e46, e47, e48, e49, e50, e51, e52, e53, e54, e55, e56, e57, e58, e59, e60, e61, e62, hrest 63 (by kernel_rfl), hrest 64 (by kernel_rfl), hrest 65 (by kernel_rfl), hrest 66 (by kernel_rfl), hrest 67 (by kernel_rfl), hrest 68 (by kernel_rfl), hrest 69 (by kernel_rfl), hrest 70 (by kernel_rfl), hrest 71 (by kernel_rfl), hrest 72 (by kernel_rfl), hrest 73 (by kernel_rfl), hrest 74 (by kernel_rfl), hrest 75 (by kernel_rfl), hrest 76 (by kernel_rfl), hrest 77 (by kernel_rfl), hrest 78 (by kernel_rfl), hrest 79 (by kernel_rfl), hrest 80 (by kernel_rfl), hrest 81 (by kernel_rfl), hrest 82 (by kernel_rfl), hrest 83 (by kernel_rfl), hrest 84 (by kernel_rfl), hrest 85 (by kernel_rfl), hrest 86 (by kernel_rfl), hrest 87 (by kernel_rfl), hrest 88 (by kernel_rfl), hrest 89 (by kernel_rfl), hrest 90 (by kernel_rfl), hrest 91 (by kernel_rfl), hrest 92 (by kernel_rfl), hrest 93 (by kernel_rfl), hrest 94 (by kernel_rfl), hrest 95 (by kernel_rfl), hrest 96 (by kernel_rfl), hrest 97 (by kernel_rfl), hrest 98 (by kernel_rfl), hrest 99 (by kernel_rfl), hrest 100 (by kernel_rfl), hrest 101 (by kernel_rfl), hrest 102 (by kernel_rfl), hrest 103 (by kernel_rfl), hrest 104 (by kernel_rfl), hrest 105 (by kernel_rfl), hrest 106 (by kernel_rfl), hrest 107 (by kernel_rfl), hrest 108 (by kernel_rfl), hrest 109 (by kernel_rfl), trivial⟩ hdf
          clear hsz hdf hrest hslots hpt e35 e36 e37 e38 e39 e40 e41 e42 e43 e44 e45 e46 e47 e48 e49 e50 e51 e52 e53 e54 e55 e56 e57 e58 e59 e60 e61 e62
          refine wpList_nil ?_
          have H8 := Lib.hid (And.intro (gb_trans H7.out.1 hB) (And.intro (H7.out.2.1.grown hB (by simp)) (And.intro (H7.out.2.2.1.grown hB (by simp)) (H7.out.2.2.2.grown hB (by simp))))); clear hB
          go_upto_region 9 with (fail)
          refine Fg.region_t [] [.any, .any, .any, .any, .any, .any, .any, .any, .any, .any, .any, .any, .any, .any, .any, .any, .any, .any, .any, .any, .any, .any, .any, .any, .any, .any, .any, .any, .any, .any, .any, .any, .any, .any, .any, .any, .any, .any, .any, .any, .any, .any, .any, .any, .any, .any, .any, .any, .any, .any, .any, .any, .any, .any, .any, .any, .any, .any, .any, .any, .any, .any, .any, .val (a.v), .val ((Fe.negF a).v), .val (Nr.nV (num 0)), .val (Nr.nV (num a.m)), .val (Nr.nV (num (0 + (Fe.P - a.m)))), .val (Value.bool true), .val (Value.bool false), .val (Value.bool false), .val (a.v), .val ((Fe.sqF a).v), .val (Nr.nV (num a.m)), .val (Nr.nV (num a.m)), .val (Nr.nV (num (a.m * a.m))), .val (Value.bool true), .val (Value.bool false), .val (Value.bool false), .val (Value.bool false), .val (Fe.oneF.v), .val (Nr.nV (num 1)), .val (Value.bool true), .val (Value.bool false), .val (Value.bool false)] w8 22 (gb_refl _ _) (by kernel_rfl) (by kernel_rfl) (by kernel_rfl) (by kernel_rfl) (by decide) (by kernel_rfl) ?_ ?_
          · refine ⟨Fg.vT rfl (by decide) fun ac w h => ?_, ?_⟩
            · have e2 : ac.tmps.getD 2 undef = Value.pointer (some ⟨w0.heap.size, 0, none⟩) := h.rest 2 (by kernel_rfl)
              refine ⟨a.v, w, wants_none rfl, ?_, gb_refl _ _, rfl⟩
              exact ldE rfl e2 (HB.out.1 w (gb_trans H8.out.1 h.base))
            refine ⟨Fg.cT rfl (by decide) fun ac w h => ?_, ?_⟩
            · have e63 : ac.tmps.getD 63 undef = a.v := h.dep 63 (by kernel_rfl)
              refine ⟨19, #[a.v], wants_none rfl, Fg.run_call rfl rfl (by simp only [List.map_toArray, List.map_cons, List.map_nil, Act.eval, e63]) (Fg.run_enter Tryz.func19 (by kernel_rfl) (by kernel_rfl)), ?_⟩
              exact (feOut_and (neg_any a w (HT.out.grown (gb_trans H2.out.1 (gb_trans H8.out.1 h.base))) HO.out.1)).mono fun _ _ ⟨he, hg⟩ => ⟨_, he, hg, rfl⟩
            refine ⟨Fg.vT rfl (by decide) fun ac w h => ?_, ?_⟩
            · have e7 : ac.tmps.getD 7 undef = Value.pointer (some ⟨N7, 0, none⟩) := h.rest 7 (by kernel_rfl)
              refine ⟨Nr.nV (num 0), w, wants_none rfl, ?_, gb_refl _ _, rfl⟩
              exact Nr.ld rfl e7 (H8.out.2.2.2.grown h.base (by simp)) (Nr.num_len _) rfl rfl
            refine ⟨Fg.vT rfl (by decide) fun ac w h => ?_, ?_⟩
            · have e5 : ac.tmps.getD 5 undef = Value.pointer (some ⟨N5, 0, none⟩) := h.rest 5 (by kernel_rfl)
              refine ⟨Nr.nV (num a.m), w, wants_none rfl, ?_, gb_refl _ _, rfl⟩
              exact Nr.ld rfl e5 (H8.out.2.1.grown h.base (by simp)) (Nr.num_len _) rfl rfl
            refine ⟨Fg.cT rfl (by decide) fun ac w h => ?_, ?_⟩
            · have e65 : ac.tmps.getD 65 undef = Nr.nV (num 0) := h.dep 65 (by kernel_rfl)
              have e66 : ac.tmps.getD 66 undef = Nr.nV (num a.m) := h.dep 66 (by kernel_rfl)
              refine ⟨40, #[Nr.nV (num 0), Nr.nV (num a.m)], wants_none rfl, Fg.run_call rfl rfl (by simp only [List.map_toArray, List.map_cons, List.map_nil, Act.eval, e65, e66]) (Fg.run_enter Tryz.func40 (by kernel_rfl) (by kernel_rfl)), ?_⟩
              exact (Nr.c_sub 0 a.m w (by decide) (Fe.m_lt a)).mono fun _ _ ⟨he, hg⟩ => ⟨_, he, hg, rfl⟩
            refine ⟨Fg.cT rfl (by decide) fun ac w h => ?_, ?_⟩
            · have e64 : ac.tmps.getD 64 undef = (Fe.negF a).v := h.dep 64 (by kernel_rfl)
              have e67 : ac.tmps.getD 67 undef = Nr.nV (num (0 + (Fe.P - a.m))) := h.dep 67 (by kernel_rfl)
              refine ⟨10, #[(Fe.negF a).v, Nr.nV (num (0 + (Fe.P - a.m)))], wants_none rfl, Fg.run_call rfl rfl (by simp only [List.map_toArray, List.map_cons, List.map_nil, Act.eval, e64, e67]) (Fg.run_enter Tryz.func10 (by kernel_rfl) (by kernel_rfl)), ?_⟩
              exact (Nr.c_is (Fe.negF a) (0 + (Fe.P - a.m)) w (Fe.neg_right a) (by rw [Nat.zero_add]; exact neg_m hRa)).mono fun _ _ ⟨he, hg⟩ => ⟨_, he, hg, rfl⟩
            refine ⟨Fg.vT rfl (by decide) fun ac w h => ?_, ?_⟩
            · have e68 : ac.tmps.getD 68 undef = Value.bool true := h.dep 68 (by kernel_rfl)
              refine ⟨Value.bool false, w, wants_none rfl, ?_, gb_refl _ _, rfl⟩
              clear h
              simp only [execOp, Act.eval, e68]
              go_simp
            refine ⟨Fg.vT rfl (by decide) fun ac w h => ?_, ?_⟩
            · have e69 : ac.tmps.getD 69 undef = Value.bool false := h.dep 69 (by kernel_rfl)
              exact ⟨_, w, wants_none rfl, Fg.run_move rfl e69, gb_refl _ _, rfl⟩
            refine ⟨Fg.vT rfl (by decide) fun ac w h => ?_, ?_⟩
            · have e70 : ac.tmps.getD 70 undef = Value.bool false := h.dep 70 (by kernel_rfl)
              have e2 : ac.tmps.getD 2 undef = Value.pointer (some ⟨w0.heap.size, 0, none⟩) := h.rest 2 (by kernel_rfl)
              refine ⟨a.v, w, wants_some (d := 70) rfl rfl (by rw [h.size]; show 70 < 110; decide) e70, ?_, gb_refl _ _, rfl⟩
              exact ldE rfl e2 (HB.out.1 w (gb_trans H8.out.1 h.base))
            refine ⟨Fg.cT rfl (by decide) fun ac w h => ?_, ?_⟩
            · have e70 : ac.tmps.getD 70 undef = Value.bool false := h.dep 70 (by kernel_rfl)
              have e71 : ac.tmps.getD 71 undef = a.v := h.dep 71 (by kernel_rfl)
              refine ⟨38, #[a.v], wants_some (d := 70) rfl rfl (by rw [h.size]; show 70 < 110; decide) e70, Fg.run_call rfl rfl (by simp only [List.map_toArray, List.map_cons, List.map_nil, Act.eval, e71]) (Fg.run_enter Tryz.func38 (by kernel_rfl) (by kernel_rfl)), ?_⟩
              exact (feOut_and (sq_fe a w HO.out.1)).mono fun _ _ ⟨he, hg⟩ => ⟨_, he, hg, rfl⟩
            refine ⟨Fg.vT rfl (by decide) fun ac w h => ?_, ?_⟩
            · have e70 : ac.tmps.getD 70 undef = Value.bool false := h.dep 70 (by kernel_rfl)
              have e5 : ac.tmps.getD 5 undef = Value.pointer (some ⟨N5, 0, none⟩) := h.rest 5 (by kernel_rfl)
              refine ⟨Nr.nV (num a.m), w, wants_some (d := 70) rfl rfl (by rw [h.size]; show 70 < 110; decide) e70, ?_, gb_refl _ _, rfl⟩
              exact Nr.ld rfl e5 (H8.out.2.1.grown h.base (by simp)) (Nr.num_len _) rfl rfl
            refine ⟨Fg.vT rfl (by decide) fun ac w h => ?_, ?_⟩
            · have e70 : ac.tmps.getD 70 undef = Value.bool false := h.dep 70 (by kernel_rfl)
              have e5 : ac.tmps.getD 5 undef = Value.pointer (some ⟨N5, 0, none⟩) := h.rest 5 (by kernel_rfl)
              refine ⟨Nr.nV (num a.m), w, wants_some (d := 70) rfl rfl (by rw [h.size]; show 70 < 110; decide) e70, ?_, gb_refl _ _, rfl⟩
              exact Nr.ld rfl e5 (H8.out.2.1.grown h.base (by simp)) (Nr.num_len _) rfl rfl
            refine ⟨Fg.cT rfl (by decide) fun ac w h => ?_, ?_⟩
            · have e70 : ac.tmps.getD 70 undef = Value.bool false := h.dep 70 (by kernel_rfl)
              have e73 : ac.tmps.getD 73 undef = Nr.nV (num a.m) := h.dep 73 (by kernel_rfl)
              have e74 : ac.tmps.getD 74 undef = Nr.nV (num a.m) := h.dep 74 (by kernel_rfl)
              refine ⟨41, #[Nr.nV (num a.m), Nr.nV (num a.m)], wants_some (d := 70) rfl rfl (by rw [h.size]; show 70 < 110; decide) e70, Fg.run_call rfl rfl (by simp only [List.map_toArray, List.map_cons, List.map_nil, Act.eval, e73, e74]) (Fg.run_enter Tryz.func41 (by kernel_rfl) (by kernel_rfl)), ?_⟩
              exact (Nr.c_mul a.m a.m w (Fe.m_lt a) (Fe.m_lt a)).mono fun _ _ ⟨he, hg⟩ => ⟨_, he, hg, rfl⟩
            refine ⟨Fg.cT rfl (by decide) fun ac w h => ?_, ?_⟩
            · have e70 : ac.tmps.getD 70 undef = Value.bool false := h.dep 70 (by kernel_rfl)
              have e72 : ac.tmps.getD 72 undef = (Fe.sqF a).v := h.dep 72 (by kernel_rfl)
              have e75 : ac.tmps.getD 75 undef = Nr.nV (num (a.m * a.m)) := h.dep 75 (by kernel_rfl)
              refine ⟨10, #[(Fe.sqF a).v, Nr.nV (num (a.m * a.m))], wants_some (d := 70) rfl rfl (by rw [h.size]; show 70 < 110; decide) e70, Fg.run_call rfl rfl (by simp only [List.map_toArray, List.map_cons, List.map_nil, Act.eval, e72, e75]) (Fg.run_enter Tryz.func10 (by kernel_rfl) (by kernel_rfl)), ?_⟩
              exact (Nr.is_sq w hRa).mono fun _ _ ⟨he, hg⟩ => ⟨_, he, hg, rfl⟩
            refine ⟨Fg.vT rfl (by decide) fun ac w h => ?_, ?_⟩
            · have e70 : ac.tmps.getD 70 undef = Value.bool false := h.dep 70 (by kernel_rfl)
              have e76 : ac.tmps.getD 76 undef = Value.bool true := h.dep 76 (by kernel_rfl)
              refine ⟨Value.bool false, w, wants_some (d := 70) rfl rfl (by rw [h.size]; show 70 < 110; decide) e70, ?_, gb_refl _ _, rfl⟩
              clear h
              simp only [execOp, Act.eval, e76]
              go_simp
            refine ⟨Fg.vT rfl (by decide) fun ac w h => ?_, ?_⟩
            · have e70 : ac.tmps.getD 70 undef = Value.bool false := h.dep 70 (by kernel_rfl)
              have e77 : ac.tmps.getD 77 undef = Value.bool false := h.dep 77 (by kernel_rfl)
              refine ⟨Value.bool false, w, wants_none rfl, ?_, gb_refl _ _, rfl⟩
              clear h
              simp only [execOp, Act.eval, e70, e77]
              go_simp
            refine ⟨Fg.vT rfl (by decide) fun ac w h => ?_, ?_⟩
            · have e78 : ac.tmps.getD 78 undef = Value.bool false := h.dep 78 (by kernel_rfl)
              exact ⟨_, w, wants_none rfl, Fg.run_move rfl e78, gb_refl _ _, rfl⟩
            refine ⟨Fg.cT rfl (by decide) fun ac w h => ?_, ?_⟩
            · have e79 : ac.tmps.getD 79 undef = Value.bool false := h.dep 79 (by kernel_rfl)
              refine ⟨16, #[], wants_some (d := 79) rfl rfl (by rw [h.size]; show 79 < 110; decide) e79, Fg.run_call rfl rfl (by simp only [List.map_toArray, List.map_nil]) (Fg.run_enter Tryz.func16 (by kernel_rfl) (by kernel_rfl)), ?_⟩
              exact (c_one w).mono fun _ _ ⟨he, hg⟩ => ⟨_, he, hg, rfl⟩
            refine ⟨Fg.cT rfl (by decide) fun ac w h => ?_, ?_⟩
            · have e79 : ac.tmps.getD 79 undef = Value.bool false := h.dep 79 (by kernel_rfl)
              refine ⟨42, #[Value.int .u64 1], wants_some (d := 79) rfl rfl (by rw [h.size]; show 79 < 110; decide) e79, Fg.run_call rfl rfl (by simp only [List.map_toArray, List.map_cons, List.map_nil, Act.eval]) (Fg.run_enter Tryz.func42 (by kernel_rfl) (by kernel_rfl)), ?_⟩
              exact (Nr.small_any 1 w (by decide)).mono fun _ _ ⟨he, hg⟩ => ⟨_, he, hg, rfl⟩
            refine ⟨Fg.cT rfl (by decide) fun ac w h => ?_, ?_⟩
            · have e79 : ac.tmps.getD 79 undef = Value.bool false := h.dep 79 (by kernel_rfl)
              have e80 : ac.tmps.getD 80 undef = Fe.oneF.v := h.dep 80 (by kernel_rfl)
              have e81 : ac.tmps.getD 81 undef = Nr.nV (num 1) := h.dep 81 (by kernel_rfl)
              refine ⟨10, #[Fe.oneF.v, Nr.nV (num 1)], wants_some (d := 79) rfl rfl (by rw [h.size]; show 79 < 110; decide) e79, Fg.run_call rfl rfl (by simp only [List.map_toArray, List.map_cons, List.map_nil, Act.eval, e80, e81]) (Fg.run_enter Tryz.func10 (by kernel_rfl) (by kernel_rfl)), ?_⟩
              exact (Nr.c_is Fe.oneF 1 w one_rt (by rw [one_m]; decide)).mono fun _ _ ⟨he, hg⟩ => ⟨_, he, hg, rfl⟩
            refine ⟨Fg.vT rfl (by decide) fun ac w h => ?_, ?_⟩
            · have e79 : ac.tmps.getD 79 undef = Value.bool false := h.dep 79 (by kernel_rfl)
              have e82 : ac.tmps.getD 82 undef = Value.bool true := h.dep 82 (by kernel_rfl)
              refine ⟨Value.bool false, w, wants_some (d := 79) rfl rfl (by rw [h.size]; show 79 < 110; decide) e79, ?_, gb_refl _ _, rfl⟩
              clear h
              simp only [execOp, Act.eval, e82]
              go_simp
            refine ⟨Fg.vT rfl (by decide) fun ac w h => ?_, ?_⟩
            · have e79 : ac.tmps.getD 79 undef = Value.bool false := h.dep 79 (by kernel_rfl)
              have e83 : ac.tmps.getD 83 undef = Value.bool false := h.dep 83 (by kernel_rfl)
              refine ⟨Value.bool false, w, wants_none rfl, ?_, gb_refl _ _, rfl⟩
              clear h
              simp only [execOp, Act.eval, e79, e83]
              go_simp
            trivial
          · intro ay w9 hB hsz hdf hrest hslots hpt
            obtain ⟨u63, e63⟩ : ∃ u, ay.tmps.getD 63 undef = u := ⟨_, rfl⟩
            obtain ⟨u64, e64⟩ : ∃ u, ay.tmps.getD 64 undef = u := ⟨_, rfl⟩
            obtain ⟨u65, e65⟩ : ∃ u, ay.tmps.getD 65 undef = u := ⟨_, rfl⟩
            obtain ⟨u66, e66⟩ : ∃ u, ay.tmps.getD 66 undef = u := ⟨_, rfl⟩
            obtain ⟨u67, e67⟩ : ∃ u, ay.tmps.getD 67 undef = u := ⟨_, rfl⟩
            obtain ⟨u68, e68⟩ : ∃ u, ay.tmps.getD 68 undef = u := ⟨_, rfl⟩
            obtain ⟨u69, e69⟩ : ∃ u, ay.tmps.getD 69 undef = u := ⟨_, rfl⟩
            obtain ⟨u70, e70⟩ : ∃ u, ay.tmps.getD 70 undef = u := ⟨_, rfl⟩
            obtain ⟨u71, e71⟩ : ∃ u, ay.tmps.getD 71 undef = u := ⟨_, rfl⟩
            obtain ⟨u72, e72⟩ : ∃ u, ay.tmps.getD 72 undef = u := ⟨_, rfl⟩
            obtain ⟨u73, e73⟩ : ∃ u, ay.tmps.getD 73 undef = u := ⟨_, rfl⟩
            obtain ⟨u74, e74⟩ : ∃ u, ay.tmps.getD 74 undef = u := ⟨_, rfl⟩
            obtain ⟨u75, e75⟩ : ∃ u, ay.tmps.getD 75 undef = u := ⟨_, rfl⟩
            obtain ⟨u76, e76⟩ : ∃ u, ay.tmps.getD 76 undef = u := ⟨_, rfl⟩
            obtain ⟨u77, e77⟩ : ∃ u, ay.tmps.getD 77 undef = u := ⟨_, rfl⟩
            obtain ⟨u78, e78⟩ : ∃ u, ay.tmps.getD 78 undef = u := ⟨_, rfl⟩
            obtain ⟨u79, e79⟩ : ∃ u, ay.tmps.getD 79 undef = u := ⟨_, rfl⟩
            obtain ⟨u80, e80⟩ : ∃ u, ay.tmps.getD 80 undef = u := ⟨_, rfl⟩
            obtain ⟨u81, e81⟩ : ∃ u, ay.tmps.getD 81 undef = u := ⟨_, rfl⟩
            obtain ⟨u82, e82⟩ : ∃ u, ay.tmps.getD 82 undef = u := ⟨_, rfl⟩
            obtain ⟨u83, e83⟩ : ∃ u, ay.tmps.getD 83 undef = u := ⟨_, rfl⟩
            have e84 : ay.tmps.getD 84 undef = Value.bool false := hslots 84 (by kernel_rfl)
            obtain rfl := Fg.frame_is (a := ay) (vs := [Value.agg #[Value.int IntKind.u64 a.x0, Value.int IntKind.u64 a.x1, Value.int IntKind.u64 a.x2, Value.int IntKind.u64 a.x3, Value.int IntKind.u64 a.x4], Value.agg #[Value.int IntKind.u64 b.x0, Value.int IntKind.u64 b.x1, Value.int IntKind.u64 b.x2, Value.int IntKind.u64 b.x3, Value.int IntKind.u64 b.x4], Value.pointer (some ⟨w0.heap.size, 0, none⟩), Value.pointer (some ⟨w0.heap.size + 1, 0, none⟩), Value.bool false, Value.pointer (some ⟨N5, 0, none⟩), Value.pointer (some ⟨N6, 0, none⟩), Value.pointer (some ⟨N7, 0, none⟩), Value.agg #[Value.int IntKind.u64 a.x0, Value.int IntKind.u64 a.x1, Value.int IntKind.u64 a.x2, Value.int IntKind.u64 a.x3, Value.int IntKind.u64 a.x4], Value.bool true, Value.bool false, Value.bool false, Value.agg #[Value.int IntKind.u64 b.x0, Value.int IntKind.u64 b.x1, Value.int IntKind.u64 b.x2, Value.int IntKind.u64 b.x3, Value.int IntKind.u64 b.x4], Value.bool true, Value.bool false, Value.bool false, undef, undef, undef, undef, undef, undef, undef, undef, undef, undef, undef, undef, undef, undef, u30, Nr.nV (num a.m), u32, Nr.nV (num b.m), Nr.nV Nr.zeros, u35, u36, u37, u38, u39, u40, u41, u42, u43, u44, u45, u46, u47, u48, u49, u50, u51, u52, u53, u54, u55, u56, u57, u58, u59, u60, u61, Value.bool false, u63, u64, u65, u66, u67, u68, u69, u70, u71, u72, u73, u74, u75, u76, u77, u78, u79, u80, u81, u82, u83, Value.bool false, undef, undef, undef, undef, undef, undef, undef, undef, undef, undef, undef, undef, undef, undef, undef, undef, undef, undef, undef, undef, undef, undef, undef, undef, undef]) hsz ⟨hrest 0 (by kernel_rfl), hrest 1 (by kernel_rfl), hrest 2 (by kernel_rfl), hrest 3 (by kernel_rfl), hrest 4 (by kernel_rfl), hrest 5 (by kernel_rfl), hrest 6 (by kernel_rfl), hrest 7 (by kernel_rfl), hrest 8 (by kernel_rfl), hrest 9 (by kernel_rfl), hrest 10 (by kernel_rfl), hrest 11 (by kernel_rfl), hrest 12 (by kernel_rfl), hrest 13 (by kernel_rfl), hrest 14 (by kernel_rfl), hrest 15 (by kernel_rfl), hrest 16 (by kernel_rfl), hrest 17 (by kernel_rfl), hrest 18 (by kernel_rfl), hrest 19 (by kernel_rfl), hrest 20 (by kernel_rfl), hrest 21 (by kernel_rfl), hrest 22 (by kernel_rfl), hrest 23 (by kernel_rfl), hrest 24 (by kernel_rfl), hrest 25 (by kernel_rfl), hrest 26 (by kernel_rfl), hrest 27 (by kernel_rfl), hrest 28 (by kernel_rfl), hrest 29 (by kernel_rfl), hrest 30 (by kernel_rfl), hrest 31 (by kernel_rfl), hrest 32 (by kernel_rfl), hrest 33 (by kernel_rfl), hrest 34 (by kernel_rfl), hrest 35 (by kernel_rfl), hrest 36 (by kernel_rfl), hrest 37 (by kernel_rfl), hrest 38 (by kernel_rfl), hrest 39 (by kernel_rfl), hrest 40 (by kernel_rfl), hrest 41 (by kernel_rfl), hrest 42 (by kernel_rfl), hrest 43 (by kernel_rfl), hrest 44 (by kernel_rfl), hrest 45 (by kernel_rfl), hrest 46 (by kernel_rfl), hrest 47 (by kernel_rfl), hrest 48 (by kernel_rfl), hrest 49 (by kernel_rfl), hrest 50 (by kernel_rfl), hrest 51 (by kernel_rfl), hrest 52 (by kernel_rfl), hrest 53 (by kernel_rfl), hrest 54 (by kernel_rfl), hrest 55 (by kernel_rfl), hrest 56 (by kernel_rfl), hrest 57 (by kernel_rfl), hrest 58 (by kernel_rfl), hrest 59 (by kernel_rfl), hrest 60 (by kernel_rfl), hrest 61 (by kernel_rfl), hrest 62 (by kernel_rfl), e63, e64, e65, e66, e67, e68, e69, e70, e71, e72, e73, e74, e75, e76, e77, e78, e79, e80, e81, e82, e83, e84, hrest 85 (by kernel_rfl), hrest 86 (by kernel_rfl), hrest 87 (by kernel_rfl), hrest 88 (by kernel_rfl), hrest 89 (by kernel_rfl), hrest 90 (by kernel_rfl), hrest 91 (by kernel_rfl), hrest 92 (by kernel_rfl), hrest 93 (by kernel_rfl), hrest 94 (by kernel_rfl), hrest 95 (by kernel_rfl), hrest 96 (by kernel_rfl), hrest 97 (by kernel_rfl), hrest 98 (by kernel_rfl), hrest 99 (by kernel_rfl), hrest 100 (by kernel_rfl), hrest 101 (by kernel_rfl), hrest 102 (by kernel_rfl), hrest 103 (by kernel_rfl), hrest 104 (by kernel_rfl), hrest 105 (by kernel_rfl), hrest 106 (by kernel_rfl), hrest 107 (by kernel_rfl), hrest 108 (by kernel_rfl), hrest 109 (by kernel_rfl), trivial⟩ hdf
            clear hsz hdf hrest hslots hpt e63 e64 e65 e66 e67 e68 e69 e70 e71 e72 e73 e74 e75 e76 e77 e78 e79 e80 e81 e82 e83 e84
            refine wpList_nil ?_
            have H9 := Lib.hid (And.intro (gb_trans H8.out.1 hB) (And.intro (H8.out.2.1.grown hB (by simp)) (And.intro (H8.out.2.2.1.grown hB (by simp)) (H8.out.2.2.2.grown hB (by simp))))); clear hB
            go_upto_region 11 with (fail)
            refine Fg.region_t [] [.any, .any, .any, .any, .any, .any, .any, .any, .any, .any, .any, .any, .any, .any, .any, .any, .any, .any, .any, .any, .any, .any, .any, .any, .any, .any, .any, .any, .any, .any, .any, .any, .any, .any, .any, .any, .any, .any, .any, .any, .any, .any, .any, .any, .any, .any, .any, .any, .any, .any, .any, .any, .any, .any, .any, .any, .any, .any, .any, .any, .any, .any, .any, .any, .any, .any, .any, .any, .any, .any, .any, .any, .any, .any, .any, .any, .any, .any, .any, .any, .any, .any, .any, .any, .any, .val (a.v), .val (b.v), .val (Value.bool (decide (a.m = b.m))), .val (Nr.nV (num a.m)), .val (Nr.nV (num b.m)), .val (Value.bool (decide (a.m = b.m))), .val (Value.bool true), .val (Value.bool true), .val (a.v), .val (Value.bool (decide (a.m = 0))), .val (Nr.nV (num a.m)), .val (Nr.nV (num 0)), .val (Value.bool (decide (a.m = 0))), .val (Value.bool true), .val (Value.bool true), .val (Value.bool true), .val (a.v), .val (Value.bool (decide (a.m % 2 = 1))), .val (Nr.nV (num a.m)), .val (Value.bool (decide (a.m % 2 = 1))), .val (Value.bool true), .val (Value.bool true), .val (Value.bool true), .val (Value.bool true), .val (Value.bool true)] w9 25 (gb_refl _ _) (by kernel_rfl) (by kernel_rfl) (by kernel_rfl) (by kernel_rfl) (by decide) (by kernel_rfl) ?_ ?_
            · refine ⟨Fg.vT rfl (by decide) fun ac w h => ?_, ?_⟩
              · have e2 : ac.tmps.getD 2 undef = Value.pointer (some ⟨w0.heap.size, 0, none⟩) := h.rest 2 (by kernel_rfl)
                refine ⟨a.v, w, wants_none rfl, ?_, gb_refl _ _, rfl⟩
                exact ldE rfl e2 (HB.out.1 w (gb_trans H9.out.1 h.base))
              refine ⟨Fg.vT rfl (by decide) fun ac w h => ?_, ?_⟩
              · have e3 : ac.tmps.getD 3 undef = Value.pointer (some ⟨w0.heap.size + 1, 0, none⟩) := h.rest 3 (by kernel_rfl)
                refine ⟨b.v, w, wants_none rfl, ?_, gb_refl _ _, rfl⟩
                exact ldE rfl e3 (HB.out.2 w (gb_trans H9.out.1 h.base))
              refine ⟨Fg.cT rfl (by decide) fun ac w h => ?_, ?_⟩
              · have e85 : ac.tmps.getD 85 undef = a.v := h.dep 85 (by kernel_rfl)
                have e86 : ac.tmps.getD 86 undef = b.v := h.dep 86 (by kernel_rfl)
                refine ⟨21, #[a.v, b.v], wants_none rfl, Fg.run_call rfl rfl (by simp only [List.map_toArray, List.map_cons, List.map_nil, Act.eval, e85, e86]) (Fg.run_enter Tryz.func21 (by kernel_rfl) (by kernel_rfl)), ?_⟩
                exact (same_any a b w HO.out.1 HO.out.2).mono fun _ _ ⟨he, hg⟩ => ⟨_, he, hg, rfl⟩
              refine ⟨Fg.vT rfl (by decide) fun ac w h => ?_, ?_⟩
              · have e5 : ac.tmps.getD 5 undef = Value.pointer (some ⟨N5, 0, none⟩) := h.rest 5 (by kernel_rfl)
                refine ⟨Nr.nV (num a.m), w, wants_none rfl, ?_, gb_refl _ _, rfl⟩
                exact Nr.ld rfl e5 (H9.out.2.1.grown h.base (by simp)) (Nr.num_len _) rfl rfl
              refine ⟨Fg.vT rfl (by decide) fun ac w h => ?_, ?_⟩
              · have e6 : ac.tmps.getD 6 undef = Value.pointer (some ⟨N6, 0, none⟩) := h.rest 6 (by kernel_rfl)
                refine ⟨Nr.nV (num b.m), w, wants_none rfl, ?_, gb_refl _ _, rfl⟩
                exact Nr.ld rfl e6 (H9.out.2.2.1.grown h.base (by simp)) (Nr.num_len _) rfl rfl
              refine ⟨Fg.vT rfl (by decide) fun ac w h => ?_, ?_⟩
              · have e88 : ac.tmps.getD 88 undef = Nr.nV (num a.m) := h.dep 88 (by kernel_rfl)
                have e89 : ac.tmps.getD 89 undef = Nr.nV (num b.m) := h.dep 89 (by kernel_rfl)
                refine ⟨.bool (decide (a.m = b.m)), w, wants_none rfl, ?_, gb_refl _ _, rfl⟩
                rw [Nr.run_eqN rfl e88 e89 (Nr.num_len _) (Nr.num_len _), eql_same _ _ (Fe.m_lt a) (Fe.m_lt b)]
              refine ⟨Fg.vT rfl (by decide) fun ac w h => ?_, ?_⟩
              · have e87 : ac.tmps.getD 87 undef = Value.bool (decide (a.m = b.m)) := h.dep 87 (by kernel_rfl)
                have e90 : ac.tmps.getD 90 undef = Value.bool (decide (a.m = b.m)) := h.dep 90 (by kernel_rfl)
                refine ⟨.bool true, w, wants_none rfl, ?_, gb_refl _ _, rfl⟩
                exact run_eqB rfl e87 e90
              refine ⟨Fg.vT rfl (by decide) fun ac w h => ?_, ?_⟩
              · have e91 : ac.tmps.getD 91 undef = Value.bool true := h.dep 91 (by kernel_rfl)
                exact ⟨_, w, wants_none rfl, Fg.run_move rfl e91, gb_refl _ _, rfl⟩
              refine ⟨Fg.vT rfl (by decide) fun ac w h => ?_, ?_⟩
              · have e92 : ac.tmps.getD 92 undef = Value.bool true := h.dep 92 (by kernel_rfl)
                have e2 : ac.tmps.getD 2 undef = Value.pointer (some ⟨w0.heap.size, 0, none⟩) := h.rest 2 (by kernel_rfl)
                refine ⟨a.v, w, wants_some (d := 92) rfl rfl (by rw [h.size]; show 92 < 110; decide) e92, ?_, gb_refl _ _, rfl⟩
                exact ldE rfl e2 (HB.out.1 w (gb_trans H9.out.1 h.base))
              refine ⟨Fg.cT rfl (by decide) fun ac w h => ?_, ?_⟩
              · have e92 : ac.tmps.getD 92 undef = Value.bool true := h.dep 92 (by kernel_rfl)
                have e93 : ac.tmps.getD 93 undef = a.v := h.dep 93 (by kernel_rfl)
                refine ⟨22, #[a.v], wants_some (d := 92) rfl rfl (by rw [h.size]; show 92 < 110; decide) e92, Fg.run_call rfl rfl (by simp only [List.map_toArray, List.map_cons, List.map_nil, Act.eval, e93]) (Fg.run_enter Tryz.func22 (by kernel_rfl) (by kernel_rfl)), ?_⟩
                exact (zero_any a w HO.out.1).mono fun _ _ ⟨he, hg⟩ => ⟨_, he, hg, rfl⟩
              refine ⟨Fg.vT rfl (by decide) fun ac w h => ?_, ?_⟩
              · have e92 : ac.tmps.getD 92 undef = Value.bool true := h.dep 92 (by kernel_rfl)
                have e5 : ac.tmps.getD 5 undef = Value.pointer (some ⟨N5, 0, none⟩) := h.rest 5 (by kernel_rfl)
                refine ⟨Nr.nV (num a.m), w, wants_some (d := 92) rfl rfl (by rw [h.size]; show 92 < 110; decide) e92, ?_, gb_refl _ _, rfl⟩
                exact Nr.ld rfl e5 (H9.out.2.1.grown h.base (by simp)) (Nr.num_len _) rfl rfl
              refine ⟨Fg.vT rfl (by decide) fun ac w h => ?_, ?_⟩
              · have e92 : ac.tmps.getD 92 undef = Value.bool true := h.dep 92 (by kernel_rfl)
                have e7 : ac.tmps.getD 7 undef = Value.pointer (some ⟨N7, 0, none⟩) := h.rest 7 (by kernel_rfl)
                refine ⟨Nr.nV (num 0), w, wants_some (d := 92) rfl rfl (by rw [h.size]; show 92 < 110; decide) e92, ?_, gb_refl _ _, rfl⟩
                exact Nr.ld rfl e7 (H9.out.2.2.2.grown h.base (by simp)) (Nr.num_len _) rfl rfl
              refine ⟨Fg.vT rfl (by decide) fun ac w h => ?_, ?_⟩
              · have e92 : ac.tmps.getD 92 undef = Value.bool true := h.dep 92 (by kernel_rfl)
                have e95 : ac.tmps.getD 95 undef = Nr.nV (num a.m) := h.dep 95 (by kernel_rfl)
                have e96 : ac.tmps.getD 96 undef = Nr.nV (num 0) := h.dep 96 (by kernel_rfl)
                refine ⟨.bool (decide (a.m = 0)), w, wants_some (d := 92) rfl rfl (by rw [h.size]; show 92 < 110; decide) e92, ?_, gb_refl _ _, rfl⟩
                rw [Nr.run_eqN rfl e95 e96 (Nr.num_len _) (Nr.num_len _), eql_same _ _ (Fe.m_lt a) (by decide)]
              refine ⟨Fg.vT rfl (by decide) fun ac w h => ?_, ?_⟩
              · have e92 : ac.tmps.getD 92 undef = Value.bool true := h.dep 92 (by kernel_rfl)
                have e94 : ac.tmps.getD 94 undef = Value.bool (decide (a.m = 0)) := h.dep 94 (by kernel_rfl)
                have e97 : ac.tmps.getD 97 undef = Value.bool (decide (a.m = 0)) := h.dep 97 (by kernel_rfl)
                refine ⟨.bool true, w, wants_some (d := 92) rfl rfl (by rw [h.size]; show 92 < 110; decide) e92, ?_, gb_refl _ _, rfl⟩
                exact run_eqB rfl e94 e97
              refine ⟨Fg.vT rfl (by decide) fun ac w h => ?_, ?_⟩
              · have e92 : ac.tmps.getD 92 undef = Value.bool true := h.dep 92 (by kernel_rfl)
                have e98 : ac.tmps.getD 98 undef = Value.bool true := h.dep 98 (by kernel_rfl)
                refine ⟨Value.bool true, w, wants_none rfl, ?_, gb_refl _ _, rfl⟩
                clear h
                simp only [execOp, Act.eval, e92, e98]
                go_simp
              refine ⟨Fg.vT rfl (by decide) fun ac w h => ?_, ?_⟩
              · have e99 : ac.tmps.getD 99 undef = Value.bool true := h.dep 99 (by kernel_rfl)
                exact ⟨_, w, wants_none rfl, Fg.run_move rfl e99, gb_refl _ _, rfl⟩
              refine ⟨Fg.vT rfl (by decide) fun ac w h => ?_, ?_⟩
              · have e100 : ac.tmps.getD 100 undef = Value.bool true := h.dep 100 (by kernel_rfl)
                have e2 : ac.tmps.getD 2 undef = Value.pointer (some ⟨w0.heap.size, 0, none⟩) := h.rest 2 (by kernel_rfl)
                refine ⟨a.v, w, wants_some (d := 100) rfl rfl (by rw [h.size]; show 100 < 110; decide) e100, ?_, gb_refl _ _, rfl⟩
                exact ldE rfl e2 (HB.out.1 w (gb_trans H9.out.1 h.base))
              refine ⟨Fg.cT rfl (by decide) fun ac w h => ?_, ?_⟩
              · have e100 : ac.tmps.getD 100 undef = Value.bool true := h.dep 100 (by kernel_rfl)
                have e101 : ac.tmps.getD 101 undef = a.v := h.dep 101 (by kernel_rfl)
                refine ⟨43, #[a.v], wants_some (d := 100) rfl rfl (by rw [h.size]; show 100 < 110; decide) e100, Fg.run_call rfl rfl (by simp only [List.map_toArray, List.map_cons, List.map_nil, Act.eval, e101]) (Fg.run_enter Tryz.func43 (by kernel_rfl) (by kernel_rfl)), ?_⟩
                exact (odd_any a w HO.out.1).mono fun _ _ ⟨he, hg⟩ => ⟨_, he, hg, rfl⟩
              refine ⟨Fg.vT rfl (by decide) fun ac w h => ?_, ?_⟩
              · have e100 : ac.tmps.getD 100 undef = Value.bool true := h.dep 100 (by kernel_rfl)
                have e5 : ac.tmps.getD 5 undef = Value.pointer (some ⟨N5, 0, none⟩) := h.rest 5 (by kernel_rfl)
                refine ⟨Nr.nV (num a.m), w, wants_some (d := 100) rfl rfl (by rw [h.size]; show 100 < 110; decide) e100, ?_, gb_refl _ _, rfl⟩
                exact Nr.ld rfl e5 (H9.out.2.1.grown h.base (by simp)) (Nr.num_len _) rfl rfl
              refine ⟨Fg.cT rfl (by decide) fun ac w h => ?_, ?_⟩
              · have e100 : ac.tmps.getD 100 undef = Value.bool true := h.dep 100 (by kernel_rfl)
                have e103 : ac.tmps.getD 103 undef = Nr.nV (num a.m) := h.dep 103 (by kernel_rfl)
                refine ⟨44, #[Nr.nV (num a.m)], wants_some (d := 100) rfl rfl (by rw [h.size]; show 100 < 110; decide) e100, Fg.run_call rfl rfl (by simp only [List.map_toArray, List.map_cons, List.map_nil, Act.eval, e103]) (Fg.run_enter Tryz.func44 (by kernel_rfl) (by kernel_rfl)), ?_⟩
                exact (Nr.c_odd a.m w (Fe.m_lt a)).mono fun _ _ ⟨he, hg⟩ => ⟨_, he, hg, rfl⟩
              refine ⟨Fg.vT rfl (by decide) fun ac w h => ?_, ?_⟩
              · have e100 : ac.tmps.getD 100 undef = Value.bool true := h.dep 100 (by kernel_rfl)
                have e102 : ac.tmps.getD 102 undef = Value.bool (decide (a.m % 2 = 1)) := h.dep 102 (by kernel_rfl)
                have e104 : ac.tmps.getD 104 undef = Value.bool (decide (a.m % 2 = 1)) := h.dep 104 (by kernel_rfl)
                refine ⟨.bool true, w, wants_some (d := 100) rfl rfl (by rw [h.size]; show 100 < 110; decide) e100, ?_, gb_refl _ _, rfl⟩
                exact run_eqB rfl e102 e104
              refine ⟨Fg.vT rfl (by decide) fun ac w h => ?_, ?_⟩
              · have e100 : ac.tmps.getD 100 undef = Value.bool true := h.dep 100 (by kernel_rfl)
                have e105 : ac.tmps.getD 105 undef = Value.bool true := h.dep 105 (by kernel_rfl)
                refine ⟨Value.bool true, w, wants_none rfl, ?_, gb_refl _ _, rfl⟩
                clear h
                simp only [execOp, Act.eval, e100, e105]
                go_simp
              refine ⟨Fg.vT rfl (by decide) fun ac w h => ?_, ?_⟩
              · have e106 : ac.tmps.getD 106 undef = Value.bool true := h.dep 106 (by kernel_rfl)
                exact ⟨_, w, wants_none rfl, Fg.run_move rfl e106, gb_refl _ _, rfl⟩
              refine ⟨Fg.cT rfl (by decide) fun ac w h => ?_, ?_⟩
              · have e107 : ac.tmps.getD 107 undef = Value.bool true := h.dep 107 (by kernel_rfl)
                refine ⟨5, #[], wants_some (d := 107) rfl rfl (by rw [h.size]; show 107 < 110; decide) e107, Fg.run_call rfl rfl (by simp only [List.map_toArray, List.map_nil]) (Fg.run_enter Tryz.func5 (by kernel_rfl) (by kernel_rfl)), ?_⟩
                exact (awake_any w (HT.out.grown (gb_trans H2.out.1 (gb_trans H9.out.1 h.base)))).mono fun _ _ ⟨he, hg⟩ => ⟨_, he, hg, rfl⟩
              refine ⟨Fg.vT rfl (by decide) fun ac w h => ?_, ?_⟩
              · have e107 : ac.tmps.getD 107 undef = Value.bool true := h.dep 107 (by kernel_rfl)
                have e108 : ac.tmps.getD 108 undef = Value.bool true := h.dep 108 (by kernel_rfl)
                refine ⟨Value.bool true, w, wants_none rfl, ?_, gb_refl _ _, rfl⟩
                clear h
                simp only [execOp, Act.eval, e107, e108]
                go_simp
              trivial
            · intro at2 wz hB hsz hdf hrest hslots hpt
              obtain ⟨u85, e85⟩ : ∃ u, at2.tmps.getD 85 undef = u := ⟨_, rfl⟩
              obtain ⟨u86, e86⟩ : ∃ u, at2.tmps.getD 86 undef = u := ⟨_, rfl⟩
              obtain ⟨u87, e87⟩ : ∃ u, at2.tmps.getD 87 undef = u := ⟨_, rfl⟩
              obtain ⟨u88, e88⟩ : ∃ u, at2.tmps.getD 88 undef = u := ⟨_, rfl⟩
              obtain ⟨u89, e89⟩ : ∃ u, at2.tmps.getD 89 undef = u := ⟨_, rfl⟩
              obtain ⟨u90, e90⟩ : ∃ u, at2.tmps.getD 90 undef = u := ⟨_, rfl⟩
              obtain ⟨u91, e91⟩ : ∃ u, at2.tmps.getD 91 undef = u := ⟨_, rfl⟩
              obtain ⟨u92, e92⟩ : ∃ u, at2.tmps.getD 92 undef = u := ⟨_, rfl⟩
              obtain ⟨u93, e93⟩ : ∃ u, at2.tmps.getD 93 undef = u := ⟨_, rfl⟩
              obtain ⟨u94, e94⟩ : ∃ u, at2.tmps.getD 94 undef = u := ⟨_, rfl⟩
              obtain ⟨u95, e95⟩ : ∃ u, at2.tmps.getD 95 undef = u := ⟨_, rfl⟩
              obtain ⟨u96, e96⟩ : ∃ u, at2.tmps.getD 96 undef = u := ⟨_, rfl⟩
              obtain ⟨u97, e97⟩ : ∃ u, at2.tmps.getD 97 undef = u := ⟨_, rfl⟩
              obtain ⟨u98, e98⟩ : ∃ u, at2.tmps.getD 98 undef = u := ⟨_, rfl⟩
              obtain ⟨u99, e99⟩ : ∃ u, at2.tmps.getD 99 undef = u := ⟨_, rfl⟩
              obtain ⟨u100, e100⟩ : ∃ u, at2.tmps.getD 100 undef = u := ⟨_, rfl⟩
              obtain ⟨u101, e101⟩ : ∃ u, at2.tmps.getD 101 undef = u := ⟨_, rfl⟩
              obtain ⟨u102, e102⟩ : ∃ u, at2.tmps.getD 102 undef = u := ⟨_, rfl⟩
              obtain ⟨u103, e103⟩ : ∃ u, at2.tmps.getD 103 undef = u := ⟨_, rfl⟩
              obtain ⟨u104, e104⟩ : ∃ u, at2.tmps.getD 104 undef = u := ⟨_, rfl⟩
              obtain ⟨u105, e105⟩ : ∃ u, at2.tmps.getD 105 undef = u := ⟨_, rfl⟩
              obtain ⟨u106, e106⟩ : ∃ u, at2.tmps.getD 106 undef = u := ⟨_, rfl⟩
              obtain ⟨u107, e107⟩ : ∃ u, at2.tmps.getD 107 undef = u := ⟨_, rfl⟩
              obtain ⟨u108, e108⟩ : ∃ u, at2.tmps.getD 108 undef = u := ⟨_, rfl⟩
              have e109 : at2.tmps.getD 109 undef = Value.bool true := hslots 109 (by kernel_rfl)
              obtain rfl := Fg.frame_is (a := at2) (vs := [Value.agg #[Value.int IntKind.u64 a.x0, Value.int IntKind.u64 a.x1, Value.int IntKind.u64 a.x2, Value.int IntKind.u64 a.x3, Value.int IntKind.u64 a.x4], Value.agg #[Value.int IntKind.u64 b.x0, Value.int IntKind.u64 b.x1, Value.int IntKind.u64 b.x2, Value.int IntKind.u64 b.x3, Value.int IntKind.u64 b.x4], Value.pointer (some ⟨w0.heap.size, 0, none⟩), Value.pointer (some ⟨w0.heap.size + 1, 0, none⟩), Value.bool false, Value.pointer (some ⟨N5, 0, none⟩), Value.pointer (some ⟨N6, 0, none⟩), Value.pointer (some ⟨N7, 0, none⟩), Value.agg #[Value.int IntKind.u64 a.x0, Value.int IntKind.u64 a.x1, Value.int IntKind.u64 a.x2, Value.int IntKind.u64 a.x3, Value.int IntKind.u64 a.x4], Value.bool true, Value.bool false, Value.bool false, Value.agg #[Value.int IntKind.u64 b.x0, Value.int IntKind.u64 b.x1, Value.int IntKind.u64 b.x2, Value.int IntKind.u64 b.x3, Value.int IntKind.u64 b.x4], Value.bool true, Value.bool false, Value.bool false, undef, undef, undef, undef, undef, undef, undef, undef, undef, undef, undef, undef, undef, undef, u30, Nr.nV (num a.m), u32, Nr.nV (num b.m), Nr.nV Nr.zeros, u35, u36, u37, u38, u39, u40, u41, u42, u43, u44, u45, u46, u47, u48, u49, u50, u51, u52, u53, u54, u55, u56, u57, u58, u59, u60, u61, Value.bool false, u63, u64, u65, u66, u67, u68, u69, u70, u71, u72, u73, u74, u75, u76, u77, u78, u79, u80, u81, u82, u83, Value.bool false, u85, u86, u87, u88, u89, u90, u91, u92, u93, u94, u95, u96, u97, u98, u99, u100, u101, u102, u103, u104, u105, u106, u107, u108, Value.bool true]) hsz ⟨hrest 0 (by kernel_rfl), hrest 1 (by kernel_rfl), hrest 2 (by kernel_rfl), hrest 3 (by kernel_rfl), hrest 4 (by kernel_rfl), hrest 5 (by kernel_rfl), hrest 6 (by kernel_rfl), hrest 7 (by kernel_rfl), hrest 8 (by kernel_rfl), hrest 9 (by kernel_rfl), hrest 10 (by kernel_rfl), hrest 11 (by kernel_rfl), hrest 12 (by kernel_rfl), hrest 13 (by kernel_rfl), hrest 14 (by kernel_rfl), hrest 15 (by kernel_rfl), hrest 16 (by kernel_rfl), hrest 17 (by kernel_rfl), hrest 18 (by kernel_rfl), hrest 19 (by kernel_rfl), hrest 20 (by kernel_rfl), hrest 21 (by kernel_rfl), hrest 22 (by kernel_rfl), hrest 23 (by kernel_rfl), hrest 24 (by kernel_rfl), hrest 25 (by kernel_rfl), hrest 26 (by kernel_rfl), hrest 27 (by kernel_rfl), hrest 28 (by kernel_rfl), hrest 29 (by kernel_rfl), hrest 30 (by kernel_rfl), hrest 31 (by kernel_rfl), hrest 32 (by kernel_rfl), hrest 33 (by kernel_rfl), hrest 34 (by kernel_rfl), hrest 35 (by kernel_rfl), hrest 36 (by kernel_rfl), hrest 37 (by kernel_rfl), hrest 38 (by kernel_rfl), hrest 39 (by kernel_rfl), hrest 40 (by kernel_rfl), hrest 41 (by kernel_rfl), hrest 42 (by kernel_rfl), hrest 43 (by kernel_rfl), hrest 44 (by kernel_rfl), hrest 45 (by kernel_rfl), hrest 46 (by kernel_rfl), hrest 47 (by kernel_rfl), hrest 48 (by kernel_rfl), hrest 49 (by kernel_rfl), hrest 50 (by kernel_rfl), hrest 51 (by kernel_rfl), hrest 52 (by kernel_rfl), hrest 53 (by kernel_rfl), hrest 54 (by kernel_rfl), hrest 55 (by kernel_rfl), hrest 56 (by kernel_rfl), hrest 57 (by kernel_rfl), hrest 58 (by kernel_rfl), hrest 59 (by kernel_rfl), hrest 60 (by kernel_rfl), hrest 61 (by kernel_rfl), hrest 62 (by kernel_rfl), hrest 63 (by kernel_rfl), hrest 64 (by kernel_rfl), hrest 65 (by kernel_rfl), hrest 66 (by kernel_rfl), hrest 67 (by kernel_rfl), hrest 68 (by kernel_rfl), hrest 69 (by kernel_rfl), hrest 70 (by kernel_rfl), hrest 71 (by kernel_rfl), hrest 72 (by kernel_rfl), hrest 73 (by kernel_rfl), hrest 74 (by kernel_rfl), hrest 75 (by kernel_rfl), hrest 76 (by kernel_rfl), hrest 77 (by kernel_rfl), hrest 78 (by kernel_rfl), hrest 79 (by kernel_rfl), hrest 80 (by kernel_rfl), hrest 81 (by kernel_rfl), hrest 82 (by kernel_rfl), hrest 83 (by kernel_rfl), hrest 84 (by kernel_rfl), e85, e86, e87, e88, e89, e90, e91, e92, e93, e94, e95, e96, e97, e98, e99, e100, e101, e102, e103, e104, e105, e106, e107, e108, e109, trivial⟩ hdf
              clear hsz hdf hrest hslots hpt e85 e86 e87 e88 e89 e90 e91 e92 e93 e94 e95 e96 e97 e98 e99 e100 e101 e102 e103 e104 e105 e106 e107 e108 e109
              refine Fg.wpl_value (v := .bool true) (w' := wz) rfl (Fg.run_assign rfl rfl) ?_
              refine wpList_nil ?_
              simp only [Act.put, List.setIfInBounds_toArray, List.set_cons_succ, List.set_cons_zero]
              have HF := Lib.hid (gb_trans H2.out.1 (gb_trans H9.out.1 hB)); clear hB
              go_wp2
              go_ret
              exact ⟨rfl, HF.out⟩
end Go.Proofs.YtcmnecnbcohaeaaGreatDoor

/- make of bytes: a new block of zeros. -/
namespace Go.Proofs.YtcmnecnbcohaeaaGreatDoor
open Go.RowKit Ow

theorem info_u8z : ∃ i, Tryz.prog.info? 5 = some i ∧ i.zero = some (.int .u8 0) ∧ i.size = 1 ∧ i.bytes = 1 := by
  have h : (Tryz.prog.info? 5).map (fun i => (i.zero, i.size, i.bytes)) = some (some (.int .u8 0), 1, 1) := by kernel_rfl
  cases hi : Tryz.prog.info? 5 with
  | none => rw [hi] at h; cases h
  | some i =>
    rw [hi] at h
    simp only [Option.map_some, Option.some.injEq, Prod.mk.injEq] at h
    exact ⟨i, rfl, h.1, h.2.1, h.2.2⟩
theorem made_bytes (n : Nat) : madeCells (Value.int .u8 0).cells n = (List.replicate n (u8N 0)).toArray := by
  unfold madeCells u8N
  apply Array.ext
  · simp
  · intro i h1 h2
    simp [Value.cells, Nat.mod_one]
theorem make_bytes (n c : Nat) (w : World) (h : n ≤ c) (hc : c ≤ 140737488355328) : ∃ w', (Instr.makeSlice 22 (.int .i64 n) (.int .i64 c)).run Tryz.prog w = .ok (.slice (some ⟨w.heap.size, 0, none⟩) n c) w' ∧
    w.grownBy w' none ∧ w'.heap.size = w.heap.size + 1 ∧ Blk w' w.heap.size 5 (List.replicate c (u8N 0)) := by
  obtain ⟨i, hi, hz, hs, hb⟩ := info_u8z
  have h2 := run_make (P := Tryz.prog) w 22 5 i (.int .u8 0) Tryz.underlying22 hi hz .i64 .i64 n c (by omega) (by omega) (by rw [hb]; omega) (by omega)
  rw [hs, Nat.mul_one, Int.toNat_natCast, Int.toNat_natCast, made_bytes] at h2
  exact ⟨_, h2, gb_alloc (gb_refl _ _) _, by simp, Blk.new w _ _⟩
end Go.Proofs.YtcmnecnbcohaeaaGreatDoor

/- Parts of slices of bytes; rows of one's own as bytes. -/
namespace Go.Proofs.YtcmnecnbcohaeaaGreatDoor
open Go.RowKit Ow

theorem getD_drop (l : List Nat) (k i : Nat) : (l.drop k).getD i 0 = l.getD (k + i) 0 := by
  rw [List.getD_eq_getElem?_getD, List.getElem?_drop, List.getD_eq_getElem?_getD]
theorem getD_take_lt (l : List Nat) (k : Nat) (h : ∀ i, l.getD i 0 < 256) (i : Nat) : (l.take k).getD i 0 < 256 := by
  rw [List.getD_eq_getElem?_getD, List.getElem?_take]
  split
  · rw [← List.getD_eq_getElem?_getD]; exact h i
  · decide
theorem getD_take (l : List Nat) (k i : Nat) (h : i < k) : (l.take k).getD i 0 = l.getD i 0 := by
  rw [List.getD_eq_getElem?_getD, List.getElem?_take, if_pos h, List.getD_eq_getElem?_getD]
theorem bytes_drop {w : World} {B cap k : Nat} {a a' : Option Addr} {l : List Nat} (h : BytesAt w B a cap l) (ha : k < cap → ∀ pb po, a = some ⟨pb, po, none⟩ → a' = some ⟨pb, po + k, none⟩) : BytesAt w B a' (cap - k) (l.drop k) := by
  have hf := h.fits
  have ht := h.top
  refine ⟨h.lim, by rw [List.length_drop]; omega, by omega, fun i => by rw [getD_drop]; exact h.byte _, ?_⟩
  by_cases h0 : l.length ≤ k
  · exact Or.inl (by rw [List.length_drop]; omega)
  · obtain ⟨pb, po, e, hlt, hc⟩ := h.cells.resolve_left (by omega)
    refine Or.inr ⟨pb, po + k, ha (by omega) pb po e, hlt, fun i hi => ?_⟩
    rw [List.length_drop] at hi
    rw [getD_drop, Nat.add_assoc]
    exact hc _ (by omega)
theorem bytes_take {w : World} {B cap k : Nat} {a a' : Option Addr} {l : List Nat} (h : BytesAt w B a cap l) (ha : ∀ pb po, a = some ⟨pb, po, none⟩ → a' = some ⟨pb, po, none⟩) : BytesAt w B a' cap (l.take k) := by
  have hl : (l.take k).length ≤ l.length := by rw [List.length_take]; omega
  refine ⟨h.lim, Nat.le_trans hl h.fits, h.top, getD_take_lt _ _ h.byte, ?_⟩
  rcases h.cells with h0 | ⟨pb, po, e, hlt, hc⟩
  · exact Or.inl (by omega)
  · refine Or.inr ⟨pb, po, ha pb po e, hlt, fun i hi => ?_⟩
    rw [List.length_take] at hi
    rw [getD_take _ _ _ (by omega)]
    exact hc _ (by omega)
set_option maxRecDepth 100000 in
/-- x[:k] of a slice of bytes -/
theorem slice_to (a : Option Addr) (n cap k : Nat) (h : k ≤ cap) :
    ∃ a', (∀ w, (Instr.slice 22 (.slice a n cap) none (some (.int .i64 (k : Int))) none).run Tryz.prog w = .ok (.slice a' k cap) w) ∧ (∀ pb po, a = some ⟨pb, po, none⟩ → a' = some ⟨pb, po, none⟩) := by
  obtain ⟨j, hj, hs⟩ : ∃ j, Tryz.prog.info? (Tryz.prog.elem 22) = some j ∧ j.size = 1 := by
    have h1 : (Tryz.prog.info? (Tryz.prog.elem 22)).map (·.size) = some 1 := by kernel_rfl
    cases hq : Tryz.prog.info? (Tryz.prog.elem 22) with
    | none => rw [hq] at h1; cases h1
    | some j => rw [hq] at h1; exact ⟨j, rfl, by simpa using h1⟩
  refine ⟨if cap = 0 then a else a.map (·.add 0), fun w => ?_, fun pb po e => ?_⟩
  · rw [run_slice_h w 22 a n cap Tryz.underlying22 .i64 _ (by omega) (by omega), Int.toNat_natCast]
    simp [sizeOf, typeInfo, hj, hs, sliced]
  · rw [e]
    split
    · rfl
    · simp [Addr.add]
/-- a row of one's own, whole -/
theorem own_of_blk {w : World} {g n base e : Nat} {xs : List Value} (h : Blk w g e xs) (hn : xs.length = n) (hb : base ≤ g) (hm : n ≤ 140737488355328) : w.ownsRow base e 1 (.slice (some ⟨g, 0, none⟩) n n) n xs :=
  ⟨by omega, Or.inr ⟨g, n, xs.toArray, rfl, hb, h, Nat.le_refl _, by unfold maxLen; omega, by simp [hn], by simp [← hn]⟩⟩
theorem own_bytesAt {w : World} {base n : Nat} {v : Value} {l : List Nat} (h : w.ownsRow base 5 1 v n (l.map u8N)) (hl : l.length = n) (hn : 0 < n) (hb : ∀ i, l.getD i 0 < 256) :
    ∃ g c, v = .slice (some ⟨g, 0, none⟩) n c ∧ base ≤ g ∧ n ≤ c ∧ BytesAt w w.heap.size (some ⟨g, 0, none⟩) c l := by
  subst hl
  obtain ⟨g, c, rfl, hbg, hnc, hcm, hlt⟩ := own_some h hn
  refine ⟨g, c, rfl, hbg, hnc, Nat.le_refl _, hnc, by unfold maxLen at hcm; omega, hb, Or.inr ⟨g, 0, rfl, hlt, fun i hi => ?_⟩⟩
  rw [Nat.zero_add]
  exact own_cell h (u8_getD hi)
theorem _root_.Go.Proofs.YtcmnecnbcohaeaaGreatDoor.Ow.BytesAt.full {w : World} {B cap : Nat} {a : Option Addr} {l : List Nat} (h : BytesAt w B a cap l) : BytesAt w w.heap.size a cap l := h.up h.lim (Nat.le_refl _)
theorem _root_.Go.Proofs.YtcmnecnbcohaeaaGreatDoor.Ow.BytesAt.apart {w w' : World} {B cap rb : Nat} {a : Option Addr} {l : List Nat} (h : BytesAt w B a cap l) (hg : w.grownBy w' (some rb)) (hne : l.length = 0 ∨ ∀ pb po, a = some ⟨pb, po, none⟩ → pb ≠ rb) : BytesAt w' B a cap l := by
  refine ⟨Nat.le_trans h.lim hg.size, h.fits, h.top, h.byte, ?_⟩
  rcases hne with h0 | hne
  · exact Or.inl h0
  rcases h.cells with h0 | ⟨pb, po, ha, hlt, hc⟩
  · exact Or.inl h0
  · exact Or.inr ⟨pb, po, ha, hlt, fun i hi => by rw [gb_cell hg (p := ⟨pb, po + i, none⟩) (Nat.lt_of_lt_of_le hlt h.lim) (fun e => hne pb po ha (by simpa using e))]; exact hc i hi⟩
end Go.Proofs.YtcmnecnbcohaeaaGreatDoor

/- The kit's lent bytes: a copy with marks behind it; whether they were kept. -/
namespace Go.Proofs.YtcmnecnbcohaeaaGreatDoor
open Go.RowKit Ow

/-- the mark of a place in a list of bytes -/
def mkB (k i : Nat) : Nat := (1000003 * (k + 7) + i) * 11400714819323198485 % 18446744073709551616 / 72057594037927936
theorem mkB_lt (k i : Nat) : mkB k i < 256 := by unfold mkB; omega
theorem mkB_is (k i : Nat) : IntKind.u64.wrap ((1000003 * ((k : Int) + 7) + (i : Int)) * 11400714819323198485) / 72057594037927936 % 256 = ((mkB k i : Nat) : Int) := by
  have e : (1000003 * ((k : Int) + 7) + (i : Int)) * 11400714819323198485 = (((1000003 * (k + 7) + i) * 11400714819323198485 : Nat) : Int) := by omega
  rw [e, IntKind.wrap_u64]
  unfold mkB
  generalize (1000003 * (k + 7) + i) * 11400714819323198485 = x
  omega
set_option maxHeartbeats 400000 in
theorem mkByte_any (k i : Nat) (w : World) (hk : k ≤ 1000000) (hi : i ≤ 1000000) :
    Calls Tryz.prog 24 #[.int .i64 k, .int .i64 i] w fun e w' => e = .returned (.int .u8 (mkB k i)) ∧ w' = w := by
  go_enter Tryz.func24, Tryz.ntmps24
  go_wp2
  go_ret
  refine ⟨?_, rfl⟩
  rw [← mkB_is]; rfl
/-- marks, by whatever function; Marks f: the kit's -/
structure Marks (f : Nat → Nat → Nat) : Prop where
  lt : ∀ k i, f k i < 256
  run : ∀ (k i : Nat) (x y : Int) (w : World), x = k → y = i → k ≤ 1000000 → i ≤ 1000000 → Calls Tryz.prog 24 #[.int .i64 x, .int .i64 y] w fun e w' => e = .returned (.int .u8 (f k i)) ∧ w' = w
theorem marks_kit : Marks mkB := ⟨mkB_lt, fun k i x y w hx hy hk hi => by subst hx; subst hy; exact mkByte_any k i w hk hi⟩
theorem marks_are : ∃ f, Marks f := ⟨mkB, marks_kit⟩
def marksOf (f : Nat → Nat → Nat) (k j : Nat) : List Nat := (List.range j).map (f k)
theorem marksOf_length (f : Nat → Nat → Nat) (k j : Nat) : (marksOf f k j).length = j := by simp [marksOf]
theorem marksOf_next (f : Nat → Nat → Nat) (k j : Nat) : (marksOf f k (j + 1)).map u8N = (marksOf f k j).map u8N ++ [u8N (f k j)] := by simp [marksOf, List.range_succ]
theorem marksOf_get (f : Nat → Nat → Nat) (k j i : Nat) (h : i < j) : (marksOf f k j).getD i 0 = f k i := by
  unfold marksOf; rw [List.getD_eq_getElem?_getD, List.getElem?_map, List.getElem?_range h]; rfl
theorem marksOf_lt {f : Nat → Nat → Nat} (hf : Marks f) (k j i : Nat) : (marksOf f k j).getD i 0 < 256 := by
  by_cases h : i < j
  · rw [marksOf_get f k j i h]; exact hf.lt _ _
  · rw [List.getD_eq_getElem?_getD, List.getElem?_eq_none (by rw [marksOf_length]; omega)]; decide
set_option maxHeartbeats 1000000 in
theorem lentB_any {f : Nat → Nat → Nat} (hf : Marks f) (n cap B : Nat) (p : List Nat) (a : Option Addr) (w : World) (hn : p.length = n) (hP : BytesAt w B a cap p) (hlen : n ≤ 30000) :
    Calls Tryz.prog 6 #[.slice a n cap] w fun e w' => ∃ g, e = .returned (.slice (some ⟨g, 0, none⟩) n (n + 12)) ∧ w.grownBy w' none ∧ w.heap.size ≤ g ∧ Blk w' g 5 ((p ++ marksOf f 1 12).map u8N) := by
  have HF := Lib.hid hf; clear hf
  obtain ⟨w1, hmk, hg1, hs1, hb1⟩ := make_bytes 0 (n + 12) w (by omega) (by omega)
  have ho1 : w1.ownsRow w.heap.size 5 1 (.slice (some ⟨w.heap.size, 0, none⟩) 0 (n + 12)) 0 [] :=
    ⟨rfl, Or.inr ⟨w.heap.size, n + 12, _, rfl, Nat.le_refl _, hb1, by omega, by unfold maxLen; omega, by simp, by simp⟩⟩
  obtain ⟨w2, hap, ho2, hg2⟩ := append_bytes_fits w1 w.heap.size w.heap.size 0 (n + 12) B cap n [] a p ho1 hn (hP.stay hg1) (by omega)
  have hg02 := gb_then hg1 hg2 (Nat.le_refl _)
  rw [Nat.zero_add, List.nil_append] at ho2
  have hmk' : (Instr.makeSlice 22 (.int .i64 0) (.int .i64 ((n : Int) + 12))).run Tryz.prog w = .ok (.slice (some ⟨w.heap.size, 0, none⟩) 0 (n + 12)) w1 := hmk
  rw [Nat.zero_add] at hap
  have H2 := Lib.hid (And.intro hap (And.intro ho2 hg02)); clear hap ho2 hg02 hg1 hg2 ho1 hmk hs1 hb1 hP
  go_enter Tryz.func6, Tryz.ntmps6
  go_wp2_with (at_builtin; refine wpList_append_run rfl (.tmp 9) (.tmp 10) 22 rfl rfl _ _ rfl rfl _ _ H2.out.1 ?_)
  go_loopw [3, 4] (fun v i wr => ∃ j m : Nat, j ≤ 12 ∧ m = n + j ∧ i = .int .i64 j ∧ v = .slice (some ⟨w.heap.size, 0, none⟩) m (n + 12) ∧ wr.ownsRow w.heap.size 5 1 (.slice (some ⟨w.heap.size, 0, none⟩) m (n + 12)) m (p.map u8N ++ (marksOf f 1 j).map u8N) ∧ w.grownBy wr none) (fun _ i _ => 12 - (intOf i).toNat)
  case atStart => exact ⟨0, n, by omega, rfl, rfl, rfl, by simpa [marksOf] using H2.out.2.1, H2.out.2.2⟩
  case round =>
    obtain ⟨j, m, hj, hm, rfl, rfl, hown, hg⟩ := hrel
    by_cases hlt : j < 12
    · obtain ⟨y, hy⟩ : ∃ y, y = f 1 j := ⟨_, rfl⟩
      obtain ⟨w3, hap, ho3, hg3⟩ := append_byte_fits wr w.heap.size w.heap.size m (n + 12) y _ (by rw [hy]; exact HF.out.lt _ _) hown (by omega)
      have hg4 := gb_then hg hg3 (Nat.le_refl _)
      rw [List.append_assoc, hy, ← marksOf_next] at ho3
      unfold u8N at hap
      have hmb := fun W => HF.out.run 1 j 1 j W rfl rfl (by decide) (by omega)
      rw [← hy] at hmb
      have HI := Lib.hid (And.intro hap (And.intro ho3 (And.intro hg4 (And.intro hm hmb)))); clear hap ho3 hg4 hg3 hm hown hg hy hmb
      have i0 : (j : Int) < 12 := by omega
      go_wp2_with fail
      refine (HI.out.2.2.2.2 wr).mono ?_
      rintro e w4 ⟨rfl, rfl⟩
      go_wp2_with (at_builtin; refine wpList_append_run rfl (.tmp 16) (.tmp 19) 22 rfl rfl _ _ rfl rfl _ _ HI.out.1 ?_)
      go_roundw
      case rel => exact ⟨j + 1, m + 1, by omega, by have := HI.out.2.2.2.1; omega, by go_num, rfl, HI.out.2.1, HI.out.2.2.1⟩
      case measure => simp [intOf]; omega
    · obtain rfl : j = 12 := by omega
      have e : m = n + 12 := hm
      subst e
      rw [← List.map_append] at hown
      rcases hown.2 with ⟨h0, _⟩ | ⟨g', c', cur, e1, hbg, hgh, _, _, hs, ht⟩
      · cases h0
      · cases e1
        have hcur : cur.toList = (p ++ marksOf f 1 12).map u8N := by rw [← ht, List.take_of_length_le]; rw [Array.length_toList]; omega
        have hblk : Blk wr w.heap.size 5 ((p ++ marksOf f 1 12).map u8N) := by unfold Blk; rw [hgh, ← hcur, Array.toArray_toList]
        have HI := Lib.hid (And.intro hblk hg); clear hown hg hm hgh hcur hblk ht hs
        go_wp2
        go_ret
        exact ⟨w.heap.size, rfl, HI.out.2, Nat.le_refl _, HI.out.1⟩
end Go.Proofs.YtcmnecnbcohaeaaGreatDoor

/- Rows of one's own, several beside each other: what a call may change (Kb S), appends by cases, cells set. -/
namespace Go.Proofs.YtcmnecnbcohaeaaGreatDoor
open Go.RowKit Ow

/-- all but the blocks of S is as it was -/
structure Kb (S : Nat → Prop) (w w' : World) : Prop where
  os : w'.os = w.os
  tape : w'.tape = w.tape
  output : w'.output = w.output
  size : w.heap.size ≤ w'.heap.size
  block : ∀ i, i < w.heap.size → ¬ S i → w'.heap[i]? = w.heap[i]?
theorem kb_refl (S : Nat → Prop) (w : World) : Kb S w w := ⟨rfl, rfl, rfl, Nat.le_refl _, fun _ _ _ => rfl⟩
theorem kb_trans {S : Nat → Prop} {a b c : World} (h : Kb S a b) (k : Kb S b c) : Kb S a c :=
  ⟨k.os.trans h.os, k.tape.trans h.tape, k.output.trans h.output, Nat.le_trans h.size k.size, fun i hi hs => (k.block i (Nat.lt_of_lt_of_le hi h.size) hs).trans (h.block i hi hs)⟩
/-- .. and something that grows, or writes a row of S, or a new one -/
theorem kb_then {S : Nat → Prop} {a b c : World} {row : Option Nat} (h : Kb S a b) (k : b.grownBy c row) (hr : ∀ r, row = some r → S r ∨ a.heap.size ≤ r) : Kb S a c :=
  ⟨k.os.trans h.os, k.tape.trans h.tape, k.output.trans h.output, Nat.le_trans h.size k.size, fun i hi hs => (k.block i (Nat.lt_of_lt_of_le hi h.size) (fun e => by
    rcases hr i e.symm with h1 | h1
    · exact hs h1
    · omega)).trans (h.block i hi hs)⟩
theorem kb_stay {S : Nat → Prop} {a b c : World} (h : Kb S a b) (k : b.grownBy c none) : Kb S a c := kb_then h k (fun r e => by cases e)
theorem kb_drewN {S : Nat → Prop} {a b : World} (h : Kb S a b) (n : Nat) : Kb S a (b.drewN n) := ⟨h.os, h.tape, h.output, h.size, h.block⟩
/-- new blocks alone are turned, seen from an elder world -/
theorem gb_kb {S : Nat → Prop} {w0 a b : World} (h : w0.grownBy a none) (k : Kb S a b) (hS : ∀ i, S i → w0.heap.size ≤ i) : w0.grownBy b none :=
  ⟨k.os.trans h.os, k.tape.trans h.tape, k.output.trans h.output, Nat.le_trans h.size k.size, fun i hi _ => (k.block i (Nat.lt_of_lt_of_le hi h.size) (fun hs => by have := hS i hs; omega)).trans (h.block i hi (by simp))⟩
theorem Kb.blk {S : Nat → Prop} {w w' : World} (k : Kb S w w') {B : Nat} {T : TypeId} {L : List Value} (h : Blk w B T L) (hs : ¬ S B) : Blk w' B T L := by
  have hlt := h.lt
  unfold Blk at h ⊢; rw [k.block B hlt hs]; exact h
theorem Kb.cell {S : Nat → Prop} {w w' : World} (k : Kb S w w') {p : Addr} (hp : p.block < w.heap.size) (hs : ¬ S p.block) : w'.cell? p = w.cell? p := World.cell?_of_block (w := w) (k.block p.block hp hs)
theorem own_lt {w : World} {base e n g c : Nat} {xs : List Value} (h : w.ownsRow base e 1 (.slice (some ⟨g, 0, none⟩) n c) n xs) : g < w.heap.size ∧ base ≤ g ∧ n ≤ c := by
  rcases h.2 with ⟨h0, _⟩ | ⟨g', c', cur, e1, hb, hg, hnc, _⟩
  · cases h0
  · cases e1
    exact ⟨(Array.getElem?_eq_some_iff.1 hg).1, hb, hnc⟩
/-- what is a row of one's own -/
theorem own_shape {w : World} {base e n : Nat} {v : Value} {xs : List Value} (h : w.ownsRow base e 1 v n xs) : (v = .slice none 0 0 ∧ n = 0) ∨ ∃ g c, v = .slice (some ⟨g, 0, none⟩) n c := by
  rcases h.2 with h0 | ⟨g', c', cur, e1, _⟩
  · exact Or.inl h0
  · exact Or.inr ⟨g', c', e1⟩
/-- a cell set -/
theorem own_set {w : World} {base e n g c i : Nat} {xs : List Value} (h : w.ownsRow base e 1 (.slice (some ⟨g, 0, none⟩) n c) n xs) (v : Value) : (w.setCell ⟨g, i, none⟩ v).ownsRow base e 1 (.slice (some ⟨g, 0, none⟩) n c) n (xs.set i v) := by
  refine ⟨by rw [List.length_set]; exact h.1, ?_⟩
  rcases h.2 with ⟨h0, _⟩ | ⟨g', c', cur, e1, hb, hg, hnc, hcm, hs, ht⟩
  · cases h0
  · cases e1
    have hblk : Blk w g e cur.toList := by unfold Blk; rw [hg]
    have h2 := hblk.set i v
    refine Or.inr ⟨g, c, (cur.toList.set i v).toArray, rfl, hb, h2, hnc, hcm, by simpa using hs, ?_⟩
    rw [← ht, List.take_set]
theorem own_free {w : World} {base e n g c : Nat} {xs : List Value} (h : w.ownsRow base e 1 (.slice (some ⟨g, 0, none⟩) n c) n xs) (i : Nat) : w.frozen? ⟨g, i, none⟩ = false := by
  rcases h.2 with ⟨h0, _⟩ | ⟨g', c', cur, e1, hb, hg, hnc, hcm, hs, ht⟩
  · cases h0
  · cases e1
    have hblk : Blk w g e cur.toList := by unfold Blk; rw [hg]
    exact hblk.free i
/-- its beginning -/
theorem own_take {w : World} {base e n n' g c : Nat} {xs : List Value} (h : w.ownsRow base e 1 (.slice (some ⟨g, 0, none⟩) n' c) n' xs) (hn : n ≤ n') : w.ownsRow base e 1 (.slice (some ⟨g, 0, none⟩) n c) n (xs.take n) := by
  have hl : xs.length = n' := by have := h.1; omega
  refine ⟨by rw [List.length_take]; omega, ?_⟩
  rcases h.2 with ⟨h0, _⟩ | ⟨g', c', cur, e1, hb, hg, hnc, hcm, hs, ht⟩
  · cases h0
  · cases e1
    refine Or.inr ⟨g, c, cur, rfl, hb, hg, by omega, hcm, hs, ?_⟩
    rw [← ht, List.take_take]; congr 1; omega
theorem own_rebase {w : World} {base b' e n g c : Nat} {xs : List Value} (h : w.ownsRow base e 1 (.slice (some ⟨g, 0, none⟩) n c) n xs) (hb : b' ≤ g) : w.ownsRow b' e 1 (.slice (some ⟨g, 0, none⟩) n c) n xs := by
  refine ⟨h.1, ?_⟩
  rcases h.2 with ⟨h0, _⟩ | ⟨g', c', cur, e1, _, hg, hnc, hcm, hs, ht⟩
  · cases h0
  · cases e1; exact Or.inr ⟨g, c, cur, rfl, hb, hg, hnc, hcm, hs, ht⟩
/-- elements of one cell -/
structure Elt (e st : TypeId) (bt : Nat) (z : Value) : Prop where
  sl : Tryz.prog.underlying st = some (.slice e)
  info : ∃ i, Tryz.prog.info? e = some i ∧ i.zero = some z ∧ i.size = 1 ∧ i.bytes = bt ∧ z.cells.size = 1
/-- an append that has no room, to a block of whatever type -/
theorem append_grown {e st T : TypeId} {bt : Nat} {z : Value} (hE : Elt e st bt z) (w : World) (base g n c : Nat) (xs : List Value) (hown : w.ownsRow base T 1 (.slice (some ⟨g, 0, none⟩) n c) n xs)
    (ad : Addr) (m cc : Nat) (news : List Value) (hl : news.length = m) (hnews : ∀ j u, news[j]? = some u → w.cell? (ad.add j) = some u) (hb : (n + m) * bt ≤ 140737488355328) (hb2 : n + m ≤ 140737488355328) (h : ¬ n + m ≤ c) :
    ∃ c' w', (Builtin.append_ #[st, st] st #[.slice (some ⟨g, 0, none⟩) n c, .slice (some ad) m cc]).run Tryz.prog w = .ok (.slice (some ⟨w.heap.size, 0, none⟩) (n + m) c') w' ∧ w'.ownsRow w.heap.size e 1 (.slice (some ⟨w.heap.size, 0, none⟩) (n + m) c') (n + m) (xs ++ news) ∧ w.grownBy w' none := by
  obtain ⟨i, hi, hz, hs, hby, hzc⟩ := hE.info
  have hxl : xs.length = n := by have := hown.1; omega
  have hold : ∀ j v, xs[j]? = some v → w.cell? ((⟨g, 0, none⟩ : Addr).add j) = some v := fun j v hv => by
    have hadd : (⟨g, 0, none⟩ : Addr).add j = ⟨g, j, none⟩ := by unfold Addr.add; split <;> simp_all
    rw [hadd]; exact own_cell hown hv
  have hnc : Builtin.nextslicecap (n + m) c * i.bytes ≤ 281474976710656 := growslice_fits (by omega) (by rw [hby]; exact hb)
  have hr := run_append_grow (P := Tryz.prog) w st st e i z hE.sl hi hz ⟨g, 0, none⟩ n c xs (by rw [hs]; omega) hold ad m cc news (by rw [hs]; omega) hnews (by omega) (by omega) hnc
  have hge := grownCap_ge w (n + m) c e
  have hcm : grownCap w (n + m) c e ≤ maxLen := grownCap_le_maxLen w (n + m) c e (by unfold maxLen; omega)
  refine ⟨_, _, hr, ⟨by rw [List.length_append]; omega, Or.inr ⟨w.heap.size, _, _, rfl, Nat.le_refl _, heap_alloc_new w.drew _, hge, hcm, ?_, ?_⟩⟩, ⟨rfl, rfl, rfl, by simp, fun k hk _ => heap_alloc_old w.drew _ hk⟩⟩
  · simp only [Array.size_append, List.size_toArray, size_zeroCells, hzc]
    omega
  · simp only [Array.toList_append, List.append_assoc]
    rw [← List.append_assoc, List.take_left' (by rw [List.length_append]; omega)]
/-- an append by cases: there is room, or a new block -/
theorem append_cases {e st : TypeId} {bt : Nat} {z : Value} (hE : Elt e st bt z) (w : World) (base g n c : Nat) (xs : List Value) (hown : w.ownsRow base e 1 (.slice (some ⟨g, 0, none⟩) n c) n xs)
    (ad : Addr) (m cc : Nat) (news : List Value) (hl : news.length = m) (hnews : ∀ j u, news[j]? = some u → w.cell? (ad.add j) = some u) (h1 : ∀ u ∈ news, u.oneCell' = true) (hb : (n + m) * bt ≤ 140737488355328) (hb2 : n + m ≤ 140737488355328) :
    (n + m ≤ c ∧ ∃ w', (Builtin.append_ #[st, st] st #[.slice (some ⟨g, 0, none⟩) n c, .slice (some ad) m cc]).run Tryz.prog w = .ok (.slice (some ⟨g, 0, none⟩) (n + m) c) w' ∧ w'.ownsRow base e 1 (.slice (some ⟨g, 0, none⟩) (n + m) c) (n + m) (xs ++ news) ∧ w.grownBy w' (some g)) ∨
    (c < n + m ∧ ∃ c' w', (Builtin.append_ #[st, st] st #[.slice (some ⟨g, 0, none⟩) n c, .slice (some ad) m cc]).run Tryz.prog w = .ok (.slice (some ⟨w.heap.size, 0, none⟩) (n + m) c') w' ∧ w'.ownsRow w.heap.size e 1 (.slice (some ⟨w.heap.size, 0, none⟩) (n + m) c') (n + m) (xs ++ news) ∧ w.grownBy w' none) := by
  obtain ⟨i, hi, hz, hs, hby, hzc⟩ := hE.info
  by_cases h : n + m ≤ c
  · obtain ⟨w', hr, ho, hg⟩ := run_append_fits w base st st e i 1 (P := Tryz.prog) hE.sl hi hs g n c xs hown ad m cc news (by omega) hnews h1 h
    exact Or.inl ⟨h, w', hr, ho, hg⟩
  · refine Or.inr ⟨by omega, ?_⟩
    have hxl : xs.length = n := by have := hown.1; omega
    have hold : ∀ j v, xs[j]? = some v → w.cell? ((⟨g, 0, none⟩ : Addr).add j) = some v := fun j v hv => by
      have hadd : (⟨g, 0, none⟩ : Addr).add j = ⟨g, j, none⟩ := by unfold Addr.add; split <;> simp_all
      rw [hadd]; exact own_cell hown hv
    have hnc : Builtin.nextslicecap (n + m) c * i.bytes ≤ 281474976710656 := growslice_fits (by omega) (by rw [hby]; exact hb)
    have hr := run_append_grow (P := Tryz.prog) w st st e i z hE.sl hi hz ⟨g, 0, none⟩ n c xs (by rw [hs]; omega) hold ad m cc news (by rw [hs]; omega) hnews (by omega) (by omega) hnc
    have hge := grownCap_ge w (n + m) c e
    have hcm : grownCap w (n + m) c e ≤ maxLen := grownCap_le_maxLen w (n + m) c e (by unfold maxLen; omega)
    refine ⟨_, _, hr, ⟨by rw [List.length_append]; omega, Or.inr ⟨w.heap.size, _, _, rfl, Nat.le_refl _, heap_alloc_new w.drew _, hge, hcm, ?_, ?_⟩⟩, ⟨rfl, rfl, rfl, by simp, fun k hk _ => heap_alloc_old w.drew _ hk⟩⟩
    · simp only [Array.size_append, List.size_toArray, size_zeroCells, hzc]
      omega
    · simp only [Array.toList_append, List.append_assoc]
      rw [← List.append_assoc, List.take_left' (by rw [List.length_append]; omega)]
/-- an append to nothing -/
theorem append_to_none {e st : TypeId} {bt : Nat} {z : Value} (hE : Elt e st bt z) (w : World) (ad : Addr) (m cc : Nat) (news : List Value) (hm : 0 < m) (hl : news.length = m) (hnews : ∀ j u, news[j]? = some u → w.cell? (ad.add j) = some u) (h1 : ∀ u ∈ news, u.oneCell' = true) (hb : m * bt ≤ 140737488355328) (hb2 : m ≤ 140737488355328) :
    ∃ g c' w', (Builtin.append_ #[st, st] st #[.slice none 0 0, .slice (some ad) m cc]).run Tryz.prog w = .ok (.slice (some ⟨g, 0, none⟩) m c') w' ∧ w'.ownsRow w.heap.size e 1 (.slice (some ⟨g, 0, none⟩) m c') m news ∧ w.grownBy w' none := by
  obtain ⟨i, hi, hz, hs, hby, hzc⟩ := hE.info
  obtain ⟨v', w', hr, ho, hg, _⟩ := run_append_own w w.heap.size st st e i z 1 bt (P := Tryz.prog) hE.sl hi hz hs hby hzc (by decide) (.slice none 0 0) 0 [] (World.ownsRow_nil w _ e 1) ad m cc news (by omega) hnews h1 (by unfold maxLen; omega) (by rw [Nat.zero_add]; exact hb) (Nat.le_refl _)
  rw [Nat.zero_add, List.nil_append] at ho
  obtain ⟨g, c, rfl, _⟩ := own_some ho hm
  exact ⟨g, c, w', hr, ho, hg⟩
end Go.Proofs.YtcmnecnbcohaeaaGreatDoor

/- The kit's flatBytes: lists of bytes that lie apart stay what they are marked. -/
namespace Go.Proofs.YtcmnecnbcohaeaaGreatDoor
open Go.RowKit Ow

theorem elt_u8 : Elt 5 22 1 (.int .u8 0) := ⟨Tryz.underlying22, by
  obtain ⟨i, hi, hz, hs, hb⟩ := info_u8z
  exact ⟨i, hi, hz, hs, hb, rfl⟩⟩
/-- lists: where they lie, how long, how much room -/
structure Lists where
  A : Nat → Option Addr
  n : Nat → Nat
  C : Nat → Nat
def Lists.v (V : Lists) (j : Nat) : Value := .slice (V.A j) (V.n j) (V.C j)
def Lists.g (V : Lists) (j : Nat) : Option Nat := (V.A j).map (·.block)
/-- the blocks of the first m -/
def Lists.S (V : Lists) (m : Nat) (i : Nat) : Prop := ∃ j, j < m ∧ V.g j = some i
structure Lists.Apart (V : Lists) (m : Nat) (LB top : Nat) : Prop where
  apart : ∀ j k, j < m → k < m → j ≠ k → V.g j = none ∨ V.g j ≠ V.g k
  ls : ∀ j, j < m → V.g j ≠ some LB
  old : ∀ j, j < m → ∀ i, V.g j = some i → i < top
  small : ∀ j, j < m → V.n j ≤ 100000
theorem Lists.own_block (V : Lists) (j : Nat) : (V.v j).ownBlock = V.g j := by
  unfold Lists.v Lists.g Value.ownBlock
  cases V.A j <;> rfl
def mkV (f : Nat → Nat → Nat) (k c : Nat) : List Value := (marksOf f k c).map u8N
theorem mkV_length (f : Nat → Nat → Nat) (k c : Nat) : (mkV f k c).length = c := by simp [mkV, marksOf_length]
theorem mkV_next (f : Nat → Nat → Nat) (k c : Nat) : mkV f k (c + 1) = mkV f k c ++ [u8N (f k c)] := marksOf_next f k c
theorem mkV_get (f : Nat → Nat → Nat) (k c i : Nat) (h : i < c) : (mkV f k c)[i]? = some (u8N (f k i)) := by
  unfold mkV
  rw [u8_getD (by rw [marksOf_length]; exact h), marksOf_get f k c i h]
theorem mkV_take (f : Nat → Nat → Nat) (k c d : Nat) (h : d ≤ c) : (mkV f k c).take d = mkV f k d := by
  apply List.ext_getElem?
  intro i
  rw [List.getElem?_take]
  by_cases hi : i < d
  · rw [if_pos hi, mkV_get f k c i (by omega), mkV_get f k d i hi]
  · rw [if_neg hi, List.getElem?_eq_none (by rw [mkV_length]; omega)]
theorem mkV_one (f : Nat → Nat → Nat) (k c : Nat) : ∀ u ∈ mkV f k c, u.oneCell' = true := by
  intro u hu
  obtain ⟨x, _, rfl⟩ := List.mem_map.1 hu
  rfl
/-- amid marking -/
def amid (f : Nat → Nat → Nat) (k i : Nat) (xs : List Value) : List Value := mkV f k i ++ xs.drop i
theorem amid_start (f : Nat → Nat → Nat) (k : Nat) (xs : List Value) : amid f k 0 xs = xs := by simp [amid, mkV, marksOf]
theorem amid_end (f : Nat → Nat → Nat) (k n : Nat) (xs : List Value) (h : xs.length = n) : amid f k n xs = mkV f k n := by
  unfold amid; rw [List.drop_eq_nil_of_le (by omega), List.append_nil]
theorem amid_set (f : Nat → Nat → Nat) (k i : Nat) (xs : List Value) (h : i < xs.length) : (amid f k i xs).set i (u8N (f k i)) = amid f k (i + 1) xs := by
  unfold amid
  rw [List.set_append_right _ _ (by rw [mkV_length]; omega), mkV_length, Nat.sub_self, mkV_next, List.append_assoc]
  congr 1
  rw [List.drop_eq_getElem_cons h]
  rfl
/-- each list, the first k marked, of the next one i -/
def rowAt (f : Nat → Nat → Nat) (V : Lists) (xs : Nat → List Value) (k i j : Nat) : List Value := if j < k then mkV f j (V.n j) else if j = k then amid f k i (xs j) else xs j
/-- a row of one's own of bytes; or one without room in a block of another type -/
def OwnT (w : World) (v : Value) (n : Nat) (xs : List Value) : Prop := ∃ T, w.ownsRow 0 T 1 v n xs ∧ (T = 5 ∨ ∃ g, v = .slice (some ⟨g, 0, none⟩) n n)
theorem OwnT.of {w : World} {v : Value} {n : Nat} {xs : List Value} (h : w.ownsRow 0 5 1 v n xs) : OwnT w v n xs := ⟨_, h, Or.inl rfl⟩
theorem OwnT.kept {w w' : World} {v : Value} {n : Nat} {xs : List Value} (h : OwnT w v n xs) {row : Option Nat} (hg : w.grownBy w' row) (hr : v.ownBlock = none ∨ v.ownBlock ≠ row) : OwnT w' v n xs := h.elim fun T h => ⟨T, h.1.kept hg hr, h.2⟩
theorem OwnT.alloc {w : World} {v : Value} {n : Nat} {xs : List Value} (h : OwnT w v n xs) (o : Obj) : OwnT (w.alloc o) v n xs := h.elim fun T h => ⟨T, h.1.alloc o, h.2⟩
theorem ot_some {w : World} {v : Value} {n : Nat} {xs : List Value} (h : OwnT w v n xs) (hn : 0 < n) : ∃ g c, v = .slice (some ⟨g, 0, none⟩) n c ∧ 0 ≤ g ∧ n ≤ c ∧ c ≤ maxLen ∧ g < w.heap.size := h.elim fun _ h => own_some h.1 hn
theorem ot_cell {w : World} {n g c : Nat} {xs : List Value} (h : OwnT w (.slice (some ⟨g, 0, none⟩) n c) n xs) {j : Nat} {u : Value} (hu : xs[j]? = some u) : w.cell? ⟨g, j, none⟩ = some u := h.elim fun _ h => own_cell h.1 hu
theorem ot_free {w : World} {n g c : Nat} {xs : List Value} (h : OwnT w (.slice (some ⟨g, 0, none⟩) n c) n xs) (i : Nat) : w.frozen? ⟨g, i, none⟩ = false := h.elim fun _ h => own_free h.1 i
theorem ot_set {w : World} {n g c i : Nat} {xs : List Value} (h : OwnT w (.slice (some ⟨g, 0, none⟩) n c) n xs) (v : Value) : OwnT (w.setCell ⟨g, i, none⟩ v) (.slice (some ⟨g, 0, none⟩) n c) n (xs.set i v) := h.elim fun T h => ⟨T, own_set h.1 v, h.2⟩
def Owns (w : World) (V : Lists) (m : Nat) (r : Nat → List Value) : Prop := ∀ j, j < m → OwnT w (V.v j) (V.n j) (r j)
theorem Owns.kept {w w' : World} {V : Lists} {m : Nat} {r : Nat → List Value} (h : Owns w V m r) {row : Option Nat} (hg : w.grownBy w' row) (hr : ∀ j, j < m → V.g j = none ∨ V.g j ≠ row) : Owns w' V m r := fun j hj =>
  (h j hj).kept hg (by rw [V.own_block]; exact hr j hj)
theorem Owns.stay {w w' : World} {V : Lists} {m : Nat} {r : Nat → List Value} (h : Owns w V m r) (hg : w.grownBy w' none) : Owns w' V m r := h.kept hg (fun j _ => by cases V.g j <;> simp)
theorem Owns.congr {w : World} {V : Lists} {m : Nat} {r r' : Nat → List Value} (h : Owns w V m r) (hr : ∀ j, j < m → r j = r' j) : Owns w V m r' := fun j hj => hr j hj ▸ h j hj
/-- list k has a block, if it is not empty -/
theorem Owns.some {w : World} {V : Lists} {m : Nat} {r : Nat → List Value} (h : Owns w V m r) {k : Nat} (hk : k < m) (hn : 0 < V.n k) : ∃ g, V.A k = some ⟨g, 0, none⟩ ∧ V.g k = some g := by
  obtain ⟨g, c, e, _⟩ := ot_some (h k hk) hn
  unfold Lists.v at e
  cases e' : V.A k with
  | none => rw [e'] at e; cases e
  | some a =>
    rw [e'] at e
    cases e
    exact ⟨g, rfl, by unfold Lists.g; rw [e']; rfl⟩
/-- one cell of list k set -/
theorem Owns.set {w : World} {V : Lists} {m LB top : Nat} {r r' : Nat → List Value} (h : Owns w V m r) (hV : V.Apart m LB top) {k i g : Nat} (hk : k < m) (hA : V.A k = Option.some ⟨g, 0, none⟩) (v : Value) (hr : ∀ j, j < m → r' j = if j = k then (r k).set i v else r j) : Owns (w.setCell ⟨g, i, none⟩ v) V m r' := by
  intro j hj
  rw [hr j hj]
  by_cases e : j = k
  · subst e
    rw [if_pos rfl]
    have := h j hj
    unfold Lists.v at this ⊢
    rw [hA] at this ⊢
    exact ot_set this v
  · rw [if_neg e]
    refine (h j hj).kept (gb_set (gb_refl w (Option.some g)) i v) ?_
    rw [V.own_block]
    have hgk : V.g k = Option.some g := by unfold Lists.g; rw [hA]; rfl
    rw [← hgk]
    exact hV.apart j k hj hk e
/-- the list of the lists, in its block (with room behind it) -/
def ListAt (w : World) (LB : Nat) (V : Lists) (m : Nat) : Prop := ∃ tl, Blk w LB 22 ((List.range m).map V.v ++ tl)
theorem ListAt.lt {w : World} {LB : Nat} {V : Lists} {m : Nat} (h : ListAt w LB V m) : LB < w.heap.size := h.elim fun _ h => h.lt
theorem ListAt.grown {w w' : World} {LB : Nat} {V : Lists} {m : Nat} {row : Option Nat} (h : ListAt w LB V m) (hg : w.grownBy w' row) (hr : some LB ≠ row) : ListAt w' LB V m := h.elim fun tl h => ⟨tl, h.grown hg hr⟩
theorem ListAt.other {w : World} {LB : Nat} {V : Lists} {m : Nat} (h : ListAt w LB V m) {a : Addr} (ha : a.block ≠ LB) (v : Value) : ListAt (w.setCell a v) LB V m := h.elim fun tl h => ⟨tl, h.other ha v⟩
theorem ListAt.cell {w : World} {LB : Nat} {V : Lists} {m k : Nat} (h : ListAt w LB V m) (hk : k < m) : w.cell? ⟨LB, k, none⟩ = some (V.v k) := h.elim fun tl h => h.cell (by rw [List.getElem?_append_left (by simpa using hk)]; simp [hk])
/-- what the loops keep: the lists' own list, what the lists hold, and all else -/
structure FlatAt (V : Lists) (m LB : Nat) (w wr : World) (r : Nat → List Value) : Prop where
  own : Owns wr V m r
  list : ListAt wr LB V m
  kept : Kb (V.S m) w wr
theorem FlatAt.at {V : Lists} {m LB k : Nat} {w wr : World} {r : Nat → List Value} (h : FlatAt V m LB w wr r) (hk : k < m) : wr.cell? ⟨LB, k, none⟩ = some (.slice (V.A k) (V.n k) (V.C k)) :=
  h.list.cell hk
theorem FlatAt.congr {V : Lists} {m LB : Nat} {w wr : World} {r r' : Nat → List Value} (h : FlatAt V m LB w wr r) (e : ∀ j, j < m → r j = r' j) : FlatAt V m LB w wr r' := ⟨h.own.congr e, h.list, h.kept⟩
theorem FlatAt.drew {V : Lists} {m LB : Nat} {w wr : World} {r : Nat → List Value} (h : FlatAt V m LB w wr r) (n : Nat) : FlatAt V m LB w (wr.drewN n) r :=
  ⟨h.own.stay (gb_drewN (gb_refl _ _) n), h.list, kb_drewN h.kept n⟩
theorem FlatAt.stay {V : Lists} {m LB : Nat} {w wr w' : World} {r : Nat → List Value} (h : FlatAt V m LB w wr r) (hg : wr.grownBy w' none) : FlatAt V m LB w w' r :=
  ⟨h.own.stay hg, h.list.grown hg (by simp), kb_stay h.kept hg⟩
theorem rowAt_next (f : Nat → Nat → Nat) (V : Lists) (xs : Nat → List Value) (k j : Nat) (hl : (xs k).length = V.n k) : rowAt f V xs k (V.n k) j = rowAt f V xs (k + 1) 0 j := by
  unfold rowAt
  by_cases h1 : j < k
  · rw [if_pos h1, if_pos (by omega)]
  · rw [if_neg h1]
    by_cases h2 : j = k
    · subst h2; rw [if_pos rfl, if_pos (by omega), amid_end _ _ _ _ hl]
    · rw [if_neg h2, if_neg (by omega)]
      by_cases h3 : j = k + 1
      · rw [if_pos h3, h3, amid_start]
      · rw [if_neg h3]
theorem rowAt_set (f : Nat → Nat → Nat) (V : Lists) (xs : Nat → List Value) (k i j : Nat) (hi : i < (xs k).length) : rowAt f V xs k (i + 1) j = if j = k then (rowAt f V xs k i k).set i (u8N (f k i)) else rowAt f V xs k i j := by
  unfold rowAt
  by_cases h2 : j = k
  · subst h2; simp only [Nat.lt_irrefl, if_false, if_pos]; rw [amid_set _ _ _ _ hi]
  · simp only [if_neg h2]
theorem rowAt_end (f : Nat → Nat → Nat) (V : Lists) (xs : Nat → List Value) (m j : Nat) (h : j < m) : rowAt f V xs m 0 j = mkV f j (V.n j) := by unfold rowAt; rw [if_pos h]
theorem rowAt_start (f : Nat → Nat → Nat) (V : Lists) (xs : Nat → List Value) (j : Nat) : rowAt f V xs 0 0 j = xs j := by
  unfold rowAt
  rw [if_neg (by omega)]
  by_cases h : j = 0
  · rw [if_pos h, amid_start, h]
  · rw [if_neg h]
theorem FlatAt.set {f : Nat → Nat → Nat} {V : Lists} {m LB k i g : Nat} {w wr : World} {xs : Nat → List Value} (hV : V.Apart m LB w.heap.size) (h : FlatAt V m LB w wr (rowAt f V xs k i)) (hk : k < m) (hi : i < (xs k).length) (hA : V.A k = some ⟨g, 0, none⟩) : FlatAt V m LB w (wr.setCell ⟨g, i, none⟩ (u8N (f k i))) (rowAt f V xs k (i + 1)) := by
  have hg : V.g k = some g := by unfold Lists.g; rw [hA]; rfl
  refine ⟨h.own.set hV hk hA _ (fun j _ => rowAt_set f V xs k i j hi), h.list.other (fun e => hV.ls k hk (by rw [hg]; exact congrArg some e)) _, kb_then h.kept (gb_set (gb_refl _ (some g)) i _) (fun r e => Or.inl ?_)⟩
  cases e
  exact ⟨k, hk, hg⟩
theorem FlatAt.old {f : Nat → Nat → Nat} {V : Lists} {m LB k i g : Nat} {w wr : World} {xs : Nat → List Value} (h : FlatAt V m LB w wr (rowAt f V xs k i)) (hk : k < m) (hi : i < (xs k).length) (hA : V.A k = some ⟨g, 0, none⟩) : ∃ u, wr.cell? ⟨g, i, none⟩ = some u := by
  have := h.own k hk
  unfold Lists.v at this
  rw [hA] at this
  refine ⟨(xs k)[i], ot_cell this ?_⟩
  unfold rowAt
  rw [if_neg (by omega), if_pos rfl]
  unfold amid
  rw [List.getElem?_append_right (by rw [mkV_length]; omega), mkV_length, Nat.sub_self, List.getElem?_drop, Nat.add_zero, List.getElem?_eq_getElem hi]
theorem FlatAt.free {V : Lists} {m LB k i g : Nat} {w wr : World} {r : Nat → List Value} (h : FlatAt V m LB w wr r) (hk : k < m) (hA : V.A k = some ⟨g, 0, none⟩) : wr.frozen? ⟨g, i, none⟩ = false := by
  have := h.own k hk
  unfold Lists.v at this
  rw [hA] at this
  exact ot_free this i
end Go.Proofs.YtcmnecnbcohaeaaGreatDoor

/- The kit's flatBytes: lists that are appended to. -/
namespace Go.Proofs.YtcmnecnbcohaeaaGreatDoor
open Go.RowKit Ow

theorem info_slz : ∃ i, Tryz.prog.info? 22 = some i ∧ i.zero = some (.slice none 0 0) ∧ i.size = 1 ∧ i.bytes = 24 := by
  have h : (Tryz.prog.info? 22).map (fun i => (i.zero, i.size, i.bytes)) = some (some (.slice none 0 0), 1, 24) := by kernel_rfl
  cases hi : Tryz.prog.info? 22 with
  | none => rw [hi] at h; cases h
  | some i =>
    rw [hi] at h
    simp only [Option.map_some, Option.some.injEq, Prod.mk.injEq] at h
    exact ⟨i, rfl, h.1, h.2.1, h.2.2⟩
theorem made_nils (n : Nat) : madeCells (Value.slice none 0 0).cells n = (List.replicate n (Value.slice none 0 0)).toArray := by
  unfold madeCells
  apply Array.ext
  · simp
  · intro i h1 h2
    simp [Value.cells, Nat.mod_one]
/-- make([][]byte, n): a new block of nils -/
theorem make_nils (n : Nat) (w : World) (hn : n ≤ 100000) : ∃ w', (Instr.makeSlice 38 (.int .i64 n) (.int .i64 n)).run Tryz.prog w = .ok (.slice (some ⟨w.heap.size, 0, none⟩) n n) w' ∧
    w.grownBy w' none ∧ w'.heap.size = w.heap.size + 1 ∧ Blk w' w.heap.size 22 (List.replicate n (.slice none 0 0)) := by
  obtain ⟨i, hi, hz, hs, hb⟩ := info_slz
  have h2 := run_make (P := Tryz.prog) w 38 22 i (.slice none 0 0) Tryz.underlying38 hi hz .i64 .i64 n n (by omega) (by omega) (by rw [hb]; omega) (by omega)
  rw [hs, Nat.mul_one, Int.toNat_natCast, made_nils] at h2
  exact ⟨_, h2, gb_alloc (gb_refl _ _) _, by simp, Blk.new w _ _⟩
/-- a list that began as list k: in its place, or in a block made since -/
def Grew (V : Lists) (k sz n : Nat) (v : Value) : Prop := v = .slice (V.A k) n (V.C k) ∨ ∃ g c, v = .slice (some ⟨g, 0, none⟩) n c ∧ sz ≤ g
/-- an append to such a list: all lists stay -/
theorem flat_append {V : Lists} {m LB k : Nat} {w wk wr : World} {r : Nat → List Value} (hV : V.Apart m LB w.heap.size) (hLB : LB < w.heap.size) (hw : w.heap.size ≤ wk.heap.size) (hF : FlatAt V m LB w wr r) (hK : Kb (fun i => V.g k = some i) wk wr) (hk : k < m) (v : Value) (n : Nat) (xs : List Value) (hn : V.n k ≤ n)
    (hown : OwnT wr v n xs) (hx : xs.take (V.n k) = r k) (hsh : Grew V k wk.heap.size n v) (ad : Addr) (q cc : Nat) (news : List Value) (hq : 0 < q) (hl : news.length = q) (hnews : ∀ j u, news[j]? = some u → wr.cell? (ad.add j) = some u) (h1 : ∀ u ∈ news, u.oneCell' = true) (hb : n + q ≤ 200000) :
    ∃ v' w', (Builtin.append_ #[22, 22] 22 #[v, .slice (some ad) q cc]).run Tryz.prog wr = .ok v' w' ∧ FlatAt V m LB w w' r ∧ Kb (fun i => V.g k = some i) wk w' ∧ OwnT w' v' (n + q) (xs ++ news) ∧ Grew V k wk.heap.size (n + q) v' := by
  obtain ⟨T, hown, hT⟩ := hown
  have hxl : xs.length = n := by have := hown.1; omega
  rcases own_shape hown with ⟨rfl, rfl⟩ | ⟨g, c, rfl⟩
  · obtain ⟨g, c', w', hr, ho, hg⟩ := append_to_none elt_u8 wr ad q cc news hq hl hnews h1 (by omega) (by omega)
    have := own_lt ho
    have hs := hK.size
    obtain rfl : xs = [] := List.eq_nil_of_length_eq_zero hxl
    rw [Nat.zero_add, List.nil_append]
    exact ⟨_, w', hr, hF.stay hg, kb_stay hK hg, OwnT.of (own_rebase ho (by omega)), Or.inr ⟨g, c', rfl, by omega⟩⟩
  · by_cases hfull : ¬ n + q ≤ c
    · obtain ⟨c', w', hr, ho, hg⟩ := append_grown elt_u8 wr 0 g n c xs hown ad q cc news hl hnews (by omega) (by omega) hfull
      have := hK.size
      exact ⟨_, w', hr, hF.stay hg, kb_stay hK hg, OwnT.of (own_rebase ho (by omega)), Or.inr ⟨_, c', rfl, by omega⟩⟩
    obtain rfl : T = 5 := by
      rcases hT with h | ⟨g', e⟩
      · exact h
      · have := (Value.slice.inj e).2.2
        omega
    rcases append_cases elt_u8 wr 0 g n c xs hown ad q cc news hl hnews h1 (by omega) (by omega) with ⟨_, w', hr, ho, hg⟩ | ⟨_, c', w', hr, ho, hg⟩
    · rcases hsh with e | ⟨g', c', e, hgw⟩
      · obtain ⟨hA, hC⟩ : V.A k = some ⟨g, 0, none⟩ ∧ V.C k = c := ⟨(Value.slice.inj e).1.symm, (Value.slice.inj e).2.2.symm⟩
        have hgk : V.g k = some g := by unfold Lists.g; rw [hA]; rfl
        refine ⟨_, w', hr, ⟨fun j hj => ?_, hF.list.grown hg (fun e => hV.ls k hk (by rw [hgk, ← e])), kb_then hF.kept hg (fun r e => by cases e; exact Or.inl ⟨k, hk, hgk⟩)⟩, kb_then hK hg (fun r e => by cases e; exact Or.inl hgk), OwnT.of ho, Or.inl (by rw [hA, hC])⟩
        by_cases ej : j = k
        · subst ej
          have h := own_take ho (n := V.n j) (by omega)
          rw [List.take_append_of_le_length (by omega), hx] at h
          unfold Lists.v
          rw [hA, hC]
          exact OwnT.of h
        · exact (hF.own j hj).kept hg (by rw [V.own_block, ← hgk]; exact hV.apart j k hj hk ej)
      · cases e
        refine ⟨_, w', hr, ⟨fun j hj => (hF.own j hj).kept hg ?_, hF.list.grown hg (fun e => by cases e; omega), kb_then hF.kept hg (fun r e => by cases e; exact Or.inr (by omega))⟩, kb_then hK hg (fun r e => by cases e; exact Or.inr (by omega)), OwnT.of ho, Or.inr ⟨g, c, rfl, hgw⟩⟩
        rw [V.own_block]
        cases e : V.g j with
        | none => exact Or.inl rfl
        | some i => exact Or.inr (fun e' => by cases e'; have := hV.old j hj _ e; omega)
    · have := hK.size
      exact ⟨_, w', hr, hF.stay hg, kb_stay hK hg, OwnT.of (own_rebase ho (by omega)), Or.inr ⟨_, c', rfl, by omega⟩⟩
/-- a grown list, filed away: where it lies, what it holds -/
def GOne (f : Nat → Nat → Nat) (V : Lists) (GB : Nat) (wr : World) (j : Nat) (v : Value) : Prop :=
  ∃ g c, v = .slice (some ⟨g, 0, none⟩) (V.n j + 64) c ∧ (V.g j = some g ∨ GB < g) ∧ g < wr.heap.size ∧ V.n j + 64 ≤ c ∧ ∀ i, i < V.n j + 64 → wr.cell? ⟨g, i, none⟩ = some (u8N (f j i))
theorem GOne.kb {f : Nat → Nat → Nat} {V : Lists} {m LB GB top j : Nat} {wk wr : World} {v : Value} {S : Nat → Prop} (h : GOne f V GB wk j v) (hV : V.Apart m LB top) (hj : j < m) (ht : top ≤ GB) (hK : Kb S wk wr) (hS : ∀ i, S i → i = GB ∨ ∃ k, k < m ∧ k ≠ j ∧ V.g k = some i) : GOne f V GB wr j v := by
  obtain ⟨g, c, rfl, hg, hlt, hc, hcell⟩ := h
  refine ⟨g, c, rfl, hg, Nat.lt_of_lt_of_le hlt hK.size, hc, fun i hi => ?_⟩
  rw [hK.cell (p := ⟨g, i, none⟩) hlt (fun hs => ?_)]
  · exact hcell i hi
  · rcases hS g hs with e | ⟨k, hk, hkj, e⟩
    · rcases hg with h1 | h1
      · have := hV.old j hj g h1; omega
      · omega
    · rcases hg with h1 | h1
      · rcases hV.apart k j hk hj hkj with h2 | h2
        · rw [h2] at e; cases e
        · exact h2 (by rw [e, h1])
      · have := hV.old k hk g e; omega
/-- a list grown by 64 marks is such a one -/
theorem GOne.of {f : Nat → Nat → Nat} {V : Lists} {GB sz k : Nat} {wr : World} {v : Value} (ho : OwnT wr v (V.n k + 64) (mkV f k (V.n k + 64))) (hg : Grew V k sz (V.n k + 64) v) (hs : GB < sz) : GOne f V GB wr k v := by
  obtain ⟨g, c, rfl, _, hnc, _, hlt⟩ := ot_some ho (by omega)
  refine ⟨g, c, rfl, ?_, hlt, hnc, fun i hi => ot_cell ho (mkV_get f k _ i hi)⟩
  rcases hg with e | ⟨g', c', e, h⟩
  · refine Or.inl ?_
    unfold Lists.g
    cases hA : V.A k with
    | none => rw [hA] at e; cases e
    | some a => rw [hA] at e; cases e; rfl
  · cases e
    exact Or.inr (by omega)
/-- the first k filed, of m -/
def filed (vs : Nat → Value) (k m : Nat) : List Value := (List.range k).map vs ++ List.replicate (m - k) (.slice none 0 0)
theorem filed_start (vs : Nat → Value) (m : Nat) : filed vs 0 m = List.replicate m (.slice none 0 0) := by simp [filed]
theorem filed_end (vs : Nat → Value) (m : Nat) : filed vs m m = (List.range m).map vs := by simp [filed]
theorem filed_nil (vs : Nat → Value) (k m : Nat) (h : k < m) : (filed vs k m)[k]? = some (.slice none 0 0) := by
  unfold filed
  rw [List.getElem?_append_right (by simp), List.length_map, List.length_range, Nat.sub_self, List.getElem?_replicate, if_pos (by omega)]
theorem filed_set (vs : Nat → Value) (k m : Nat) (v : Value) (h : k < m) : (filed vs k m).set k v = filed (fun j => if j = k then v else vs j) (k + 1) m := by
  unfold filed
  rw [List.set_append_right _ _ (by simp), List.length_map, List.length_range, Nat.sub_self, show m - k = (m - (k + 1)) + 1 by omega, List.replicate_succ, List.set_cons_zero, List.range_succ, List.map_append, List.append_assoc]
  congr 1
  · apply List.map_congr_left
    intro j hj
    have := List.mem_range.1 hj
    rw [if_neg (by omega)]
  · simp
/-- all lists as they were marked; the first k grown ones filed in block GB -/
structure Filed (f : Nat → Nat → Nat) (V : Lists) (m LB GB : Nat) (w wr : World) (r : Nat → List Value) (vs : Nat → Value) (k : Nat) : Prop where
  flat : FlatAt V m LB w wr r
  block : Blk wr GB 22 (filed vs k m)
  ones : ∀ j, j < k → GOne f V GB wr j (vs j)
theorem Filed.stay {f : Nat → Nat → Nat} {V : Lists} {m LB GB : Nat} {w wr w' : World} {r : Nat → List Value} {vs : Nat → Value} {k : Nat} (h : Filed f V m LB GB w wr r vs k) (hg : wr.grownBy w' none) : Filed f V m LB GB w w' r vs k := by
  refine ⟨h.flat.stay hg, h.block.grown hg (by simp), fun j hj => ?_⟩
  obtain ⟨g, c, e, h1, h2, h3, h4⟩ := h.ones j hj
  exact ⟨g, c, e, h1, Nat.lt_of_lt_of_le h2 hg.size, h3, fun i hi => by rw [gb_cell hg (p := ⟨g, i, none⟩) h2 (by simp)]; exact h4 i hi⟩
theorem Filed.drew {f : Nat → Nat → Nat} {V : Lists} {m LB GB : Nat} {w wr : World} {r : Nat → List Value} {vs : Nat → Value} {k : Nat} (h : Filed f V m LB GB w wr r vs k) (n : Nat) : Filed f V m LB GB w (wr.drewN n) r vs k := h.stay (gb_drewN (gb_refl _ _) n)
/-- list k grown, and filed -/
theorem Filed.next {f : Nat → Nat → Nat} {V : Lists} {m LB GB : Nat} {w wk wr : World} {r : Nat → List Value} {vs : Nat → Value} {k : Nat} {v : Value} (hV : V.Apart m LB w.heap.size) (hLB : LB < w.heap.size) (hk : k < m) (hGB : w.heap.size ≤ GB) (h : Filed f V m LB GB w wk r vs k) (hF : FlatAt V m LB w wr r) (hK : Kb (fun i => V.g k = some i) wk wr)
    (ho : OwnT wr v (V.n k + 64) (mkV f k (V.n k + 64))) (hg : Grew V k wk.heap.size (V.n k + 64) v) :
    wr.cell? ⟨GB, k, none⟩ = some (.slice none 0 0) ∧ wr.frozen? ⟨GB, k, none⟩ = false ∧ Filed f V m LB GB w (wr.setCell ⟨GB, k, none⟩ v) r (fun j => if j = k then v else vs j) (k + 1) := by
  have hb : Blk wr GB 22 (filed vs k m) := hK.blk h.block (fun e => by have := hV.old k hk _ e; omega)
  have hlt := h.block.lt
  have hs : Kb (fun i => i = GB) wr (wr.setCell ⟨GB, k, none⟩ v) := kb_then (kb_refl _ _) (gb_set (gb_refl wr (some GB)) k v) (fun r e => by cases e; exact Or.inl rfl)
  have hgs : wr.grownBy (wr.setCell ⟨GB, k, none⟩ v) (some GB) := gb_set (gb_refl wr (some GB)) k v
  refine ⟨hb.cell (filed_nil vs k m hk), hb.free k, ⟨hF.own.kept hgs (fun j hj => ?_), hF.list.grown hgs (fun e => by cases e; omega), kb_then hF.kept hgs (fun r e => by cases e; exact Or.inr hGB)⟩, by rw [← filed_set vs k m v hk]; exact hb.set k v, fun j hj => ?_⟩
  · cases e : V.g j with
    | none => exact Or.inl rfl
    | some i => exact Or.inr (fun e' => by cases e'; have := hV.old j hj _ e; omega)
  · by_cases e : j = k
    · subst e
      simp only [if_true]
      exact (GOne.of ho hg hlt).kb hV hk hGB hs (fun i hi => Or.inl hi)
    · simp only [if_neg e]
      exact ((h.ones j (by omega)).kb hV (by omega) hGB hK (fun i hi => Or.inr ⟨k, hk, fun e' => e e'.symm, hi⟩)).kb hV (by omega) hGB hs (fun i hi => Or.inl hi)
/-- the filed list j, once all are -/
theorem Filed.at {f : Nat → Nat → Nat} {V : Lists} {m LB GB : Nat} {w wr : World} {r : Nat → List Value} {vs : Nat → Value} (h : Filed f V m LB GB w wr r vs m) {j : Nat} (hj : j < m) :
    ∃ g c, vs j = .slice (some ⟨g, 0, none⟩) (V.n j + 64) c ∧ wr.cell? ⟨GB, j, none⟩ = some (.slice (some ⟨g, 0, none⟩) (V.n j + 64) c) ∧ (∀ i, i < V.n j + 64 → wr.cell? ⟨g, i, none⟩ = some (u8N (f j i))) ∧ V.n j + 64 ≤ c := by
  obtain ⟨g, c, e, _, _, h3, h4⟩ := h.ones j hj
  refine ⟨g, c, e, h.block.cell ?_, h4, h3⟩
  rw [filed_end, ← e]
  simp [hj]
/-- a mark of a list -/
theorem FlatAt.mark {f : Nat → Nat → Nat} {V : Lists} {m LB k i : Nat} {w wr : World} (h : FlatAt V m LB w wr (fun j => mkV f j (V.n j))) (hk : k < m) (hi : i < V.n k) : ∃ g, V.A k = some ⟨g, 0, none⟩ ∧ wr.cell? ⟨g, i, none⟩ = some (u8N (f k i)) := by
  obtain ⟨g, hA, _⟩ := h.own.some hk (by omega)
  have := h.own k hk
  unfold Lists.v at this
  rw [hA] at this
  exact ⟨g, hA, ot_cell this (mkV_get f k _ i hi)⟩
theorem Blk.get {w : World} {B : Nat} {T : TypeId} {L : List Value} (h : Blk w B T L) {i : Nat} (hi : i < L.length) : ∃ u, w.cell? ⟨B, i, none⟩ = some u := ⟨L[i], h.cell (List.getElem?_eq_getElem hi)⟩
theorem amid_get (f : Nat → Nat → Nat) (k i : Nat) (xs : List Value) (h : i < xs.length) : i < (amid f k i xs).length := by
  unfold amid; rw [List.length_append, mkV_length, List.length_drop]; omega
/-- a list whose marks are still there -/
def GTwo (f : Nat → Nat → Nat) (V : Lists) (GB : Nat) (wr : World) (j : Nat) (v : Value) : Prop :=
  ∃ g c, v = .slice (some ⟨g, 0, none⟩) (V.n j + 64) c ∧ (V.g j = some g ∨ GB < g) ∧ g < wr.heap.size ∧ V.n j + 64 ≤ c ∧ ∀ i, i < V.n j → wr.cell? ⟨g, i, none⟩ = some (u8N (f j i))
theorem GTwo.kb {f : Nat → Nat → Nat} {V : Lists} {m LB GB top j : Nat} {wk wr : World} {v : Value} {S : Nat → Prop} (h : GTwo f V GB wk j v) (hV : V.Apart m LB top) (hj : j < m) (ht : top ≤ GB) (hK : Kb S wk wr) (hS : ∀ i, S i → i = GB ∨ ∃ k, k < m ∧ k ≠ j ∧ V.g k = some i) : GTwo f V GB wr j v := by
  obtain ⟨g, c, rfl, hg, hlt, hc, hcell⟩ := h
  refine ⟨g, c, rfl, hg, Nat.lt_of_lt_of_le hlt hK.size, hc, fun i hi => ?_⟩
  rw [hK.cell (p := ⟨g, i, none⟩) hlt (fun hs => ?_)]
  · exact hcell i hi
  · rcases hS g hs with e | ⟨k, hk, hkj, e⟩
    · rcases hg with h1 | h1
      · have := hV.old j hj g h1; omega
      · omega
    · rcases hg with h1 | h1
      · rcases hV.apart k j hk hj hkj with h2 | h2
        · rw [h2] at e; cases e
        · exact h2 (by rw [e, h1])
      · have := hV.old k hk g e; omega
theorem GTwo.of {f : Nat → Nat → Nat} {V : Lists} {GB sz k : Nat} {wr : World} {v : Value} {ys : List Value} (ho : OwnT wr v (V.n k + 64) (mkV f k (V.n k) ++ ys)) (hg : Grew V k sz (V.n k + 64) v) (hs : GB < sz) : GTwo f V GB wr k v := by
  obtain ⟨g, c, rfl, _, hnc, _, hlt⟩ := ot_some ho (by omega)
  refine ⟨g, c, rfl, ?_, hlt, hnc, fun i hi => ot_cell ho (by rw [List.getElem?_append_left (by rw [mkV_length]; exact hi)]; exact mkV_get f k _ i hi)⟩
  rcases hg with e | ⟨g', c', e, h⟩
  · refine Or.inl ?_
    unfold Lists.g
    cases hA : V.A k with
    | none => rw [hA] at e; cases e
    | some a => rw [hA] at e; cases e; rfl
  · cases e
    exact Or.inr (by omega)
/-- filed again, the first k -/
structure Again (f : Nat → Nat → Nat) (V : Lists) (m LB GB : Nat) (w wr : World) (r : Nat → List Value) (L : List Value) (k : Nat) : Prop where
  flat : FlatAt V m LB w wr r
  block : Blk wr GB 22 L
  len : L.length = m
  ones : ∀ j, j < k → ∃ v, L[j]? = some v ∧ GTwo f V GB wr j v
theorem Filed.again {f : Nat → Nat → Nat} {V : Lists} {m LB GB : Nat} {w wr : World} {r : Nat → List Value} {vs : Nat → Value} {k : Nat} (h : Filed f V m LB GB w wr r vs k) (hk : k ≤ m) : Again f V m LB GB w wr r (filed vs k m) 0 :=
  ⟨h.flat, h.block, by simp [filed]; omega, fun j hj => by omega⟩
theorem Again.stay {f : Nat → Nat → Nat} {V : Lists} {m LB GB : Nat} {w wr w' : World} {r : Nat → List Value} {L : List Value} {k : Nat} (h : Again f V m LB GB w wr r L k) (hg : wr.grownBy w' none) : Again f V m LB GB w w' r L k := by
  refine ⟨h.flat.stay hg, h.block.grown hg (by simp), h.len, fun j hj => ?_⟩
  obtain ⟨v, hv, g, c, e, h1, h2, h3, h4⟩ := h.ones j hj
  exact ⟨v, hv, g, c, e, h1, Nat.lt_of_lt_of_le h2 hg.size, h3, fun i hi => by rw [gb_cell hg (p := ⟨g, i, none⟩) h2 (by simp)]; exact h4 i hi⟩
theorem Again.drew {f : Nat → Nat → Nat} {V : Lists} {m LB GB : Nat} {w wr : World} {r : Nat → List Value} {L : List Value} {k : Nat} (h : Again f V m LB GB w wr r L k) (n : Nat) : Again f V m LB GB w (wr.drewN n) r L k := h.stay (gb_drewN (gb_refl _ _) n)
theorem Again.next {f : Nat → Nat → Nat} {V : Lists} {m LB GB : Nat} {w wk wr : World} {r : Nat → List Value} {L ys : List Value} {k : Nat} {v : Value} (hV : V.Apart m LB w.heap.size) (hLB : LB < w.heap.size) (hk : k < m) (hGB : w.heap.size ≤ GB) (h : Again f V m LB GB w wk r L k) (hF : FlatAt V m LB w wr r) (hK : Kb (fun i => V.g k = some i) wk wr)
    (ho : OwnT wr v (V.n k + 64) (mkV f k (V.n k) ++ ys)) (hg : Grew V k wk.heap.size (V.n k + 64) v) :
    (∃ u, wr.cell? ⟨GB, k, none⟩ = some u) ∧ wr.frozen? ⟨GB, k, none⟩ = false ∧ Again f V m LB GB w (wr.setCell ⟨GB, k, none⟩ v) r (L.set k v) (k + 1) := by
  have hb : Blk wr GB 22 L := hK.blk h.block (fun e => by have := hV.old k hk _ e; omega)
  have hlt := h.block.lt
  have hll := h.len
  have hs : Kb (fun i => i = GB) wr (wr.setCell ⟨GB, k, none⟩ v) := kb_then (kb_refl _ _) (gb_set (gb_refl wr (some GB)) k v) (fun r e => by cases e; exact Or.inl rfl)
  have hgs : wr.grownBy (wr.setCell ⟨GB, k, none⟩ v) (some GB) := gb_set (gb_refl wr (some GB)) k v
  refine ⟨hb.get (by omega), hb.free k, ⟨hF.own.kept hgs (fun j hj => ?_), hF.list.grown hgs (fun e => by cases e; omega), kb_then hF.kept hgs (fun r e => by cases e; exact Or.inr hGB)⟩, hb.set k v, by rw [List.length_set]; exact hll, fun j hj => ?_⟩
  · cases e : V.g j with
    | none => exact Or.inl rfl
    | some i => exact Or.inr (fun e' => by cases e'; have := hV.old j hj _ e; omega)
  · by_cases e : j = k
    · subst e
      exact ⟨v, by rw [List.getElem?_set_self (by omega)], (GTwo.of ho hg hlt).kb hV hk hGB hs (fun i hi => Or.inl hi)⟩
    · obtain ⟨u, hu, h2⟩ := h.ones j (by omega)
      exact ⟨u, by rw [List.getElem?_set_ne (fun e' => e e'.symm)]; exact hu, (h2.kb hV (by omega) hGB hK (fun i hi => Or.inr ⟨k, hk, fun e' => e e'.symm, hi⟩)).kb hV (by omega) hGB hs (fun i hi => Or.inl hi)⟩
theorem Again.at {f : Nat → Nat → Nat} {V : Lists} {m LB GB : Nat} {w wr : World} {r : Nat → List Value} {L : List Value} (h : Again f V m LB GB w wr r L m) {j : Nat} (hj : j < m) :
    ∃ g c, wr.cell? ⟨GB, j, none⟩ = some (.slice (some ⟨g, 0, none⟩) (V.n j + 64) c) ∧ (∀ i, i < V.n j → wr.cell? ⟨g, i, none⟩ = some (u8N (f j i))) ∧ V.n j + 64 ≤ c := by
  obtain ⟨v, hv, g, c, rfl, _, _, h3, h4⟩ := h.ones j hj
  exact ⟨g, c, h.block.cell hv, h4, h3⟩
end Go.Proofs.YtcmnecnbcohaeaaGreatDoor

/- The kit's bag: lists of bytes put into it. -/
namespace Go.Proofs.YtcmnecnbcohaeaaGreatDoor
open Go.RowKit Ow

theorem elt_slz : Elt 22 38 24 (.slice none 0 0) := ⟨Tryz.underlying38, by
  obtain ⟨i, hi, hz, hs, hb⟩ := info_slz
  exact ⟨i, hi, hz, hs, hb, rfl⟩⟩
/-- a bag's cells, lists of bytes alone in it -/
def bagL (v : Value) : List Value := List.replicate 5 (.slice none 0 0) ++ v :: List.replicate 18 (.slice none 0 0)
theorem bagL_five (v : Value) : (bagL v)[5]? = some v := rfl
theorem bagL_set (u v : Value) : (bagL u).set 5 v = bagL v := rfl
theorem bagL_nil (v : Value) (i : Nat) (h : i < 24) (h5 : i ≠ 5) : (bagL v)[i]? = some (.slice none 0 0) := by
  unfold bagL
  rcases Nat.lt_or_ge i 5 with h' | h'
  · rw [List.getElem?_append_left (by simpa using h'), List.getElem?_replicate, if_pos h']
  · rw [List.getElem?_append_right (by simpa using h'), List.length_replicate, show i - 5 = (i - 6) + 1 by omega, List.getElem?_cons_succ, List.getElem?_replicate, if_pos (by omega)]
/-- an append to a list of lists of one's own -/
theorem append_list (w : World) (base k : Nat) (v0 l : Value) (rows : List Value) (b : Nat) (hown : w.ownsRow base 22 1 v0 k rows) (hl : w.cell? ⟨b, 0, none⟩ = some l) (h1 : l.oneCell' = true) (hk : k ≤ 100000) (hb : base ≤ w.heap.size) :
    ∃ v' w', (Builtin.append_ #[38, 38] 38 #[v0, .slice (some ⟨b, 0, none⟩) 1 1]).run Tryz.prog w = .ok v' w' ∧ w'.ownsRow base 22 1 v' (k + 1) (rows ++ [l]) ∧ w.grownBy w' v0.ownBlock := by
  obtain ⟨i, hi, hz, hs, hby, hzc⟩ := elt_slz.info
  obtain ⟨v', w', hr, ho, hg, _⟩ := run_append_own w base 38 38 22 i (.slice none 0 0) 1 24 (P := Tryz.prog) elt_slz.sl hi hz hs hby hzc (by decide) v0 k rows hown ⟨b, 0, none⟩ 1 1 [l] rfl (fun j u hu => by
    cases j with
    | zero =>
      have e : (⟨b, 0, none⟩ : Addr).add 0 = ⟨b, 0, none⟩ := by unfold Addr.add; split <;> simp_all
      rw [e, hl]; exact hu
    | succ j => simp at hu) (fun u hu => by simp at hu; subst hu; exact h1) (by unfold maxLen; omega) (by omega) hb
  exact ⟨v', w', hr, ho, hg⟩
set_option maxHeartbeats 1000000 in
theorem put_bytes (w : World) (base B k n c : Nat) (T : TypeId) (hT : T ≠ 22) (v0 : Value) (a : Option Addr) (rows : List Value) (hown : w.ownsRow base 22 1 v0 k rows) (hB : Blk w B T (bagL v0)) (hk : k ≤ 100000) (hb : base ≤ w.heap.size) :
    Calls Tryz.prog 33 #[.pointer (some ⟨B, 0, none⟩), .slice a n c] w fun e w' => (∃ r, e = .returned r) ∧ ∃ v', w'.ownsRow base 22 1 v' (k + 1) (rows ++ [.slice a n c]) ∧ Blk w' B T (bagL v') ∧ Kb (fun i => i = B ∨ v0.ownBlock = some i) w w' := by
  have apart : ∀ (W : World) (v : Value) (j : Nat) (rs : List Value) (u : Value), W.ownsRow base 22 1 v j rs → Blk W B T (bagL u) → some B ≠ v.ownBlock := by
    intro W v j rs u ho hb e
    rcases ho.2 with ⟨h0, _⟩ | ⟨g, c, cur, e1, _, hg, _⟩
    · rw [h0] at e; cases e
    · rw [e1] at e
      have e2 : B = g := by simpa [Value.ownBlock] using e
      subst e2
      unfold Blk at hb
      rw [hb] at hg
      cases hg
      exact hT rfl
  have hgb := World.grownBy_alloc w (.cells #[.slice a n c] 22) none
  obtain ⟨v', w4, hap, ho4, hg4⟩ := append_list (w.alloc (.cells #[.slice a n c] 22)) base k v0 (.slice a n c) rows w.heap.size (hown.alloc _) ((Blk.new w [.slice a n c] 22).cell rfl) rfl hk (Nat.le_trans hb hgb.size)
  have hbv := apart w v0 k rows v0 hown hB
  have hB4 : Blk w4 B T (bagL v0) := (hB.alloc _).grown hg4 hbv
  have hbv4 := apart w4 v' (k + 1) _ v0 ho4 hB4
  obtain ⟨g, c', rfl, _⟩ := own_some ho4 (by omega)
  have c5 := hB.cell (bagL_five v0)
  have c54 := hB4.cell (bagL_five v0)
  have f5 := hB4.free 5
  have hgs : w4.grownBy (w4.setCell ⟨B, 5, none⟩ (.slice (some ⟨g, 0, none⟩) (k + 1) c')) (some B) := gb_set (gb_refl _ (some B)) 5 _
  have hB5 := hB4.set 5 (.slice (some ⟨g, 0, none⟩) (k + 1) c')
  rw [bagL_set] at hB5
  have ho5 := ho4.kept hgs (Or.inr (fun e => hbv4 e.symm))
  have hK : Kb (fun i => i = B ∨ v0.ownBlock = some i) w (w4.setCell ⟨B, 5, none⟩ (.slice (some ⟨g, 0, none⟩) (k + 1) c')) :=
    kb_then (kb_then (kb_stay (kb_refl _ _) hgb) hg4 (fun r e => Or.inl (Or.inr e))) hgs (fun r e => Or.inl (Or.inl (by cases e; rfl)))
  have HI := Lib.hid (And.intro ho5 (And.intro hB5 hK)); clear ho5 hB5 hK hgs hbv4 hB4 hbv ho4 hg4 hgb hB apart
  obtain ⟨a0, c0, rfl⟩ : ∃ a0 c0, v0 = .slice a0 k c0 := by
    rcases own_shape hown with ⟨rfl, rfl⟩ | ⟨g, c, rfl⟩
    · exact ⟨_, _, rfl⟩
    · exact ⟨_, _, rfl⟩
  clear hown
  go_enter Tryz.func33, Tryz.ntmps33
  go_wp2_with (at_builtin; refine wpList_append_run rfl (.tmp 8) (.tmp 10) 38 rfl rfl _ _ rfl rfl _ _ hap ?_)
  go_end0
  exact ⟨⟨_, rfl⟩, _, HI.out⟩
end Go.Proofs.YtcmnecnbcohaeaaGreatDoor

/- The kit's flatBytes, walked: marks laid. -/
namespace Go.Proofs.YtcmnecnbcohaeaaGreatDoor
open Go.RowKit Ow

set_option maxRecDepth 100000 in
set_option maxHeartbeats 4000000 in
theorem flatB_any {f : Nat → Nat → Nat} (hf : Marks f) (V : Lists) (m LB C : Nat) (xs : Nat → List Value) (w : World) (hm : m ≤ 70000) (hC : m ≤ C) (hC2 : C < 9223372036854775808) (hV : V.Apart m LB w.heap.size) (hO : Owns w V m xs) (hL : ListAt w LB V m) :
    Calls Tryz.prog 60 #[.slice (some ⟨LB, 0, none⟩) m C] w fun e w' => e = .returned (.bool true) ∧ FlatAt V m LB w w' (fun j => mkV f j (V.n j)) := by
  have HL := Lib.hid (fun j hj => (by obtain ⟨_, h, _⟩ := hO j hj; have := h.1; omega) : ∀ j, j < m → (xs j).length = V.n j)
  have hF : FlatAt V m LB w w (rowAt f V xs 0 0) := ⟨hO.congr (fun j _ => (rowAt_start f V xs j).symm), hL, kb_refl _ _⟩
  have HF := Lib.hid hf; clear hf
  have HV := Lib.hid hV; clear hV
  have H0 := Lib.hid hF; clear hF hO hL
  go_enter Tryz.func60, Tryz.ntmps60
  go_wp2_with fail
  go_loopw [3] (fun i wr => ∃ k : Nat, k ≤ m ∧ i = .int .i64 k ∧ FlatAt V m LB w wr (rowAt f V xs k 0)) (fun i _ => m - (intOf i).toNat)
  case atStart => exact ⟨0, by omega, rfl, H0.out⟩
  case round =>
    obtain ⟨k, hk, rfl, hR⟩ := hrel
    by_cases hlt : k < m
    · have i1 : (k : Int) < (m : Int) := by omega
      have HR := Lib.hid hR; clear hR
      go_wp2_with fail
      go_loopw [4] (fun i wr => ∃ j : Nat, j ≤ V.n k ∧ i = .int .i64 j ∧ FlatAt V m LB w wr (rowAt f V xs k j)) (fun i _ => V.n k - (intOf i).toNat)
      case atStart => exact ⟨0, by omega, rfl, HR.out⟩
      case round =>
        obtain ⟨j, hj, rfl, hR2⟩ := hrel
        have kc := hR2.at hlt
        by_cases hjn : j < V.n k
        · obtain ⟨g, hA, hg⟩ := hR2.own.some hlt (by omega)
          have hset := hR2.set HV.out hlt (by rw [HL.out k hlt]; exact hjn) hA
          have hfr := hR2.free (i := j) hlt hA
          obtain ⟨u, hu⟩ := hR2.old hlt (by rw [HL.out k hlt]; exact hjn) hA
          have hsm := HV.out.small k hlt
          rw [hA] at kc
          have HI := Lib.hid (And.intro hset hg); clear hset hg hA hR2
          have hmb := fun W => HF.out.run k j k j W rfl rfl (by omega) (by omega)
          generalize hnk : V.n k = nk at *
          generalize V.C k = ck at *
          have HN := Lib.hid hnk; clear hnk
          generalize hy : f k j = y at *
          have HY := Lib.hid hy; clear hy
          have HMB := Lib.hid hmb; clear hmb
          have i2 : (j : Int) < (nk : Int) := by omega
          unfold u8N at HI
          go_wp2_with fail
          go_region_with (go_at_call 24; refine (HMB.out _).mono ?_; rintro e w' ⟨rfl, rfl⟩)
          all_goals go_wp2
          all_goals go_roundw
          case rel => exact ⟨j + 1, hjn, by go_num, HI.out.1.drew 1⟩
          case measure => simp [intOf]; omega
          case rel => exact ⟨j + 1, hjn, by go_num, HI.out.1.drew 1⟩
          case measure => simp [intOf]; omega
        · obtain rfl : j = V.n k := by omega
          have hR3 := hR2.congr (fun j _ => rowAt_next f V xs k j (HL.out k hlt))
          have HI := Lib.hid hR3; clear hR3 hR2
          generalize hnk : V.n k = nk at *
          generalize V.C k = ck at *
          have HN := Lib.hid hnk; clear hnk
          go_wp2_with fail
          go_roundw
          case rel => exact ⟨k + 1, hlt, by go_num, HI.out⟩
          case measure => simp [intOf]; omega
    · obtain rfl : k = m := by omega
      have hR1 := hR.congr (r' := fun j => mkV f j (V.n j)) (fun j hj => rowAt_end f V xs k j hj)
      have hLB := H0.out.list.lt
      obtain ⟨w3, hmk, hg3, hs3, hb3⟩ := make_nils k wr (by omega)
      have hF3 : Filed f V k LB wr.heap.size w w3 (fun j => mkV f j (V.n j)) (fun _ => .slice none 0 0) 0 := ⟨hR1.stay hg3, by rw [filed_start]; exact hb3, fun j hj => by omega⟩
      have hGB : w.heap.size ≤ wr.heap.size := hR1.kept.size
      generalize hB : wr.heap.size = GB at *
      have HG := Lib.hid (And.intro hGB hLB); clear hGB hLB hg3 hs3 hb3 hB hR hR1
      have H3 := Lib.hid hF3; clear hF3
      go_wp2_with fail
      clear hmk
      go_loopw [6] (fun i wr => ∃ (k' : Nat) (vs : Nat → Value), k' ≤ k ∧ i = .int .i64 k' ∧ Filed f V k LB GB w wr (fun j => mkV f j (V.n j)) vs k') (fun i _ => k - (intOf i).toNat)
      case atStart => exact ⟨0, _, by omega, rfl, H3.out⟩
      case round =>
        clear H3
        obtain ⟨q, vs, hq, rfl, hR⟩ := hrel
        by_cases hlt : q < k
        · have i1 : (q : Int) < (k : Int) := by omega
          have kc := hR.flat.at hlt
          have hsm := HV.out.small q hlt
          have HR := Lib.hid hR; clear hR
          go_wp2_with fail
          go_loopw [7, 8] (fun v i wr2 => ∃ t : Nat, t ≤ 64 ∧ i = .int .i64 t ∧ FlatAt V k LB w wr2 (fun j => mkV f j (V.n j)) ∧ Kb (fun i => V.g q = some i) wr wr2 ∧ OwnT wr2 v (V.n q + t) (mkV f q (V.n q + t)) ∧ Grew V q wr.heap.size (V.n q + t) v) (fun _ i _ => 64 - (intOf i).toNat)
          case atStart => exact ⟨0, by omega, rfl, HR.out.flat, kb_refl _ _, HR.out.flat.own q hlt, Or.inl rfl⟩
          case round =>
            obtain ⟨t, ht, rfl, hF2, hK2, ho2, hg2⟩ := hrel
            have kc := hF2.at hlt
            by_cases ht6 : t < 64
            · obtain ⟨y, hy⟩ : ∃ y, y = f q (V.n q + t) := ⟨_, rfl⟩
              have hgb := World.grownBy_alloc wr (.cells #[u8N y] 5) none
              obtain ⟨v', w4, hap, hF4, hK4, ho4, hg4⟩ := flat_append (r := fun j => mkV f j (V.n j)) HV.out HG.out.2 (HR.out.flat.kept.size) (hF2.stay hgb) (kb_stay hK2 hgb) hlt u7 (V.n q + t) _ (by omega) (ho2.alloc _) (mkV_take f q _ _ (by omega)) hg2 ⟨wr.heap.size, 0, none⟩ 1 1 [u8N y] (by omega) rfl (fun j u hu => by
                have hb := Blk.new wr [u8N y] 5
                have hadd : (⟨wr.heap.size, 0, none⟩ : Addr).add j = ⟨wr.heap.size, j, none⟩ := by unfold Addr.add; split <;> simp_all
                rw [hadd]; exact hb.cell hu) (by simp [u8N, Value.oneCell']) (by omega)
              rw [hy, ← mkV_next] at ho4
              have hmb := fun W => HF.out.run q (V.n q + t) q ((V.n q : Int) + (t : Int)) W rfl (by omega) (by omega) (by omega)
              rw [← hy] at hmb
              have HI := Lib.hid (And.intro hF4 (And.intro hK4 (And.intro ho4 (And.intro hg4 hmb)))); clear hF4 hK4 ho4 hg4 hmb hF2 hK2 ho2 hg2 hgb
              have HY := Lib.hid hy; clear hy
              generalize hnk : V.n q = nk at *
              have HN := Lib.hid hnk; clear hnk
              unfold u8N at hap
              have i2 : (t : Int) < 64 := by omega
              go_wp2_with fail
              refine (HI.out.2.2.2.2 wr).mono ?_
              rintro e w5 ⟨rfl, rfl⟩
              go_wp2_with (at_builtin; refine wpList_append_run rfl (.tmp 57) (.tmp 67) 22 rfl rfl _ _ rfl rfl _ _ hap ?_)
              go_roundw
              case rel => exact ⟨t + 1, ht6, by go_num, HI.out.1, HI.out.2.1, HI.out.2.2.1, HI.out.2.2.2.1⟩
              case measure => simp [intOf]; omega
            · obtain rfl : t = 64 := by omega
              obtain ⟨c0, f0, hF4⟩ := HR.out.next HV.out HG.out.2 hlt HG.out.1 hF2 hK2 ho2 hg2
              obtain ⟨g, c, rfl, _⟩ := ot_some ho2 (by omega)
              have HI := Lib.hid hF4; clear hF4 hF2 hK2 ho2 hg2
              go_wp2_with fail
              go_roundw
              case rel => exact ⟨q + 1, _, hlt, by go_num, HI.out⟩
              case measure => simp [intOf]; omega
        · obtain rfl : q = k := by omega
          have HR := Lib.hid hR; clear hR
          go_wp2_with fail
          go_loopw [9] (fun i wr => ∃ p : Nat, p ≤ q ∧ i = .int .i64 p ∧ Filed f V q LB GB w wr (fun j => mkV f j (V.n j)) vs q) (fun i _ => q - (intOf i).toNat)
          case atStart => exact ⟨0, by omega, rfl, HR.out⟩
          case round =>
            clear HR
            obtain ⟨p, hp, rfl, hR⟩ := hrel
            by_cases hpq : p < q
            · have i1 : (p : Int) < (q : Int) := by omega
              have HR := Lib.hid hR; clear hR
              go_wp2_with fail
              go_loopw [10] (fun i wr => ∃ j : Nat, j ≤ V.n p + 64 ∧ i = .int .i64 j ∧ Filed f V q LB GB w wr (fun j => mkV f j (V.n j)) vs q) (fun i _ => V.n p + 64 - (intOf i).toNat)
              case atStart => exact ⟨0, by omega, rfl, HR.out⟩
              case round =>
                clear HR
                obtain ⟨j, hj, rfl, hR⟩ := hrel
                have kc := hR.flat.at hpq
                have hsm := HV.out.small p hpq
                have HR := Lib.hid hR; clear hR
                obtain ⟨g, c, hvs, kg, kj, hnc⟩ := HR.out.at hpq
                have kj1 := kj j
                clear kj
                by_cases hj1 : j < V.n p + 64
                · have kj2 := kj1 hj1
                  clear kj1
                  have hmb := fun W => HF.out.run p j p j W rfl rfl (by omega) (by omega)
                  by_cases hjn : j < V.n p
                  · obtain ⟨g2, hA, kk⟩ := HR.out.flat.mark hpq hjn
                    rw [hA] at kc
                    clear hA
                    generalize f p j = y at *
                    generalize V.n p = np at *
                    generalize V.C p = cp at *
                    have i2 : (j : Int) < (np : Int) := by omega
                    have i3 : (j : Int) < (np : Int) + 64 := by omega
                    unfold u8N at kk kj2
                    have HMB := Lib.hid hmb; clear hmb
                    go_wp2_with fail
                    go_quiet ((go_at_call 24; exact Calls.quiet_of_same (HMB.out _)))
                    go_wp2_with fail
                    go_roundw
                    case rel => exact ⟨j + 1, hj1, by go_num, HR.out.drew nq⟩
                    case measure => simp [intOf]; omega
                  · generalize f p j = y at *
                    generalize V.n p = np at *
                    generalize V.C p = cp at *
                    have i2 : ¬ (j : Int) < (np : Int) := by omega
                    have i3 : (j : Int) < (np : Int) + 64 := by omega
                    unfold u8N at kj2
                    have HMB := Lib.hid hmb; clear hmb
                    go_wp2_with fail
                    go_quiet ((go_at_call 24; exact Calls.quiet_of_same (HMB.out _)))
                    go_wp2_with fail
                    go_roundw
                    case rel => exact ⟨j + 1, hj1, by go_num, HR.out.drew nq⟩
                    case measure => simp [intOf]; omega
                · clear kj1
                  obtain rfl : j = V.n p + 64 := by omega
                  generalize V.n p = np at *
                  generalize V.C p = cp at *
                  go_wp2_with fail
                  go_roundw
                  case rel => exact ⟨p + 1, hpq, by go_num, HR.out⟩
                  case measure => simp [intOf]; omega
            · obtain rfl : p = q := by omega
              have HR := Lib.hid (hR.again (Nat.le_refl _)); clear hR
              go_wp2_with fail
              go_loopw [11] (fun i wr => ∃ (q : Nat) (L : List Value), q ≤ p ∧ i = .int .i64 q ∧ Again f V p LB GB w wr (fun j => mkV f j (V.n j)) L q) (fun i _ => p - (intOf i).toNat)
              case atStart => exact ⟨0, _, by omega, rfl, HR.out⟩
              case round =>
                clear HR
                obtain ⟨q, L, hq, rfl, hR⟩ := hrel
                by_cases hqp : q < p
                · have i1 : (q : Int) < (p : Int) := by omega
                  obtain ⟨w3, hmk0, hg3, hs3, hb3⟩ := make_bytes 64 64 wr (by omega) (by omega)
                  have hmk : (Instr.makeSlice 22 (.int .i64 64) (.int .i64 64)).run Tryz.prog wr = .ok (.slice (some ⟨wr.heap.size, 0, none⟩) 64 64) w3 := hmk0
                  clear hmk0
                  generalize hB : wr.heap.size = MB at *
                  have HR := Lib.hid (And.intro hR hB); clear hR hB
                  have H3 := Lib.hid (And.intro hg3 hb3); clear hg3 hb3 hs3
                  go_wp2_with fail
                  clear hmk
                  go_loopw [13] (fun i wr2 => ∃ j : Nat, j ≤ 64 ∧ i = .int .i64 j ∧ wr.grownBy wr2 none ∧ Blk wr2 MB 5 (amid f (q + p) j (List.replicate 64 (u8N 0)))) (fun i _ => 64 - (intOf i).toNat)
                  case atStart => exact ⟨0, by omega, rfl, H3.out.1, by rw [amid_start]; exact H3.out.2⟩
                  case round =>
                    clear H3
                    obtain ⟨j, hj, rfl, hg, hb⟩ := hrel
                    by_cases hj6 : j < 64
                    · have hmb := fun W => HF.out.run (q + p) j ((q : Int) + (p : Int)) j W (by omega) rfl (by omega) (by omega)
                      have hset := hb.set j (u8N (f (q + p) j))
                      rw [amid_set _ _ _ _ (by simpa using hj6)] at hset
                      obtain ⟨u, hu⟩ := hb.get (amid_get f (q + p) j (List.replicate 64 (u8N 0)) (by simpa using hj6))
                      have hfr := hb.free j
                      have hgs := gb_set_new hg (p := ⟨MB, j, none⟩) (by rw [HR.out.2]; exact Nat.le_refl _) (u8N (f (q + p) j))
                      generalize f (q + p) j = y at *
                      have HI := Lib.hid (And.intro hset (And.intro hgs hmb)); clear hset hgs hmb hg hb
                      unfold u8N at HI
                      have i2 : (j : Int) < 64 := by omega
                      go_wp2_with fail
                      refine (HI.out.2.2 wr).mono ?_
                      rintro e w5 ⟨rfl, rfl⟩
                      go_wp2_with fail
                      go_roundw
                      case rel => exact ⟨j + 1, hj6, by go_num, HI.out.2.1, HI.out.1⟩
                      case measure => simp [intOf]; omega
                    · obtain rfl : j = 64 := by omega
                      rw [amid_end _ _ _ _ (by simp)] at hb
                      have hA := HR.out.1.stay hg
                      have kc := hA.flat.at hqp
                      have hsm := HV.out.small q hqp
                      obtain ⟨v', w4, hap, hF4, hK4, ho4, hg4⟩ := flat_append (r := fun j => mkV f j (V.n j)) HV.out HG.out.2 (HR.out.1.flat.kept.size) hA.flat (kb_stay (kb_refl _ _) hg) hqp (V.v q) (V.n q) _ (Nat.le_refl _) (hA.flat.own q hqp) (by rw [List.take_of_length_le (by rw [mkV_length]; exact Nat.le_refl _)]) (Or.inl rfl) ⟨MB, 0, none⟩ 64 64 (mkV f (q + p) 64) (by omega) (mkV_length _ _ _) (fun j u hu => by
                        have hadd : (⟨MB, 0, none⟩ : Addr).add j = ⟨MB, j, none⟩ := by unfold Addr.add; split <;> simp_all
                        rw [hadd]; exact hb.cell hu) (mkV_one _ _ _) (by omega)
                      obtain ⟨c0, f0, hA4⟩ := HR.out.1.next HV.out HG.out.2 hqp HG.out.1 hF4 hK4 ho4 hg4
                      obtain ⟨u, hu⟩ := c0
                      obtain ⟨g, c, rfl, _⟩ := ot_some ho4 (by omega)
                      have HI := Lib.hid hA4; clear hA4 hF4 hK4 ho4 hg4 hA hb hg
                      unfold Lists.v at hap
                      go_wp2_with (at_builtin; refine wpList_append_run rfl (.tmp 148) (.tmp 149) 22 rfl rfl _ _ rfl rfl _ _ hap ?_)
                      go_roundw
                      case rel => exact ⟨q + 1, _, hqp, by go_num, HI.out⟩
                      case measure => simp [intOf]; omega
                · obtain rfl : q = p := by omega
                  have HR := Lib.hid hR; clear hR
                  go_wp2_with fail
                  go_loopw [14] (fun i wr => ∃ p : Nat, p ≤ q ∧ i = .int .i64 p ∧ Again f V q LB GB w wr (fun j => mkV f j (V.n j)) L q) (fun i _ => q - (intOf i).toNat)
                  case atStart => exact ⟨0, by omega, rfl, HR.out⟩
                  case round =>
                    clear HR
                    obtain ⟨p, hp, rfl, hR⟩ := hrel
                    by_cases hpq : p < q
                    · have i1 : (p : Int) < (q : Int) := by omega
                      have HR := Lib.hid hR; clear hR
                      go_wp2_with fail
                      go_loopw [15] (fun i wr => ∃ j : Nat, j ≤ V.n p ∧ i = .int .i64 j ∧ Again f V q LB GB w wr (fun j => mkV f j (V.n j)) L q) (fun i _ => V.n p - (intOf i).toNat)
                      case atStart => exact ⟨0, by omega, rfl, HR.out⟩
                      case round =>
                        clear HR
                        obtain ⟨j, hj, rfl, hR⟩ := hrel
                        have kc := hR.flat.at hpq
                        have hsm := HV.out.small p hpq
                        have HR := Lib.hid hR; clear hR
                        obtain ⟨g, c, kg, kj, hnc⟩ := HR.out.at hpq
                        have kj1 := kj j
                        clear kj
                        by_cases hjn : j < V.n p
                        · have kj2 := kj1 hjn
                          clear kj1
                          have hmb := fun W => HF.out.run p j p j W rfl rfl (by omega) (by omega)
                          obtain ⟨g2, hA, kk⟩ := HR.out.flat.mark hpq hjn
                          rw [hA] at kc
                          clear hA
                          generalize f p j = y at *
                          generalize V.n p = np at *
                          generalize V.C p = cp at *
                          have i2 : (j : Int) < (np : Int) := by omega
                          have i3 : (j : Int) < (np : Int) + 64 := by omega
                          unfold u8N at kk kj2
                          have HMB := Lib.hid hmb; clear hmb
                          go_wp2_with fail
                          go_quiet ((go_at_call 24; exact Calls.quiet_of_same (HMB.out _)))
                          go_wp2_with fail
                          go_roundw
                          case rel => exact ⟨j + 1, hjn, by go_num, HR.out.drew nq⟩
                          case measure => simp [intOf]; omega
                        · clear kj1
                          obtain rfl : j = V.n p := by omega
                          generalize V.n p = np at *
                          generalize V.C p = cp at *
                          go_wp2_with fail
                          go_roundw
                          case rel => exact ⟨p + 1, hpq, by go_num, HR.out⟩
                          case measure => simp [intOf]; omega
                    · obtain rfl : p = q := by omega
                      have HR := Lib.hid hR.flat; clear hR
                      go_wp2
                      go_ret
                      exact ⟨rfl, HR.out⟩
end Go.Proofs.YtcmnecnbcohaeaaGreatDoor

/- The kit's flat..: of no list, true. (gen_nils.py) -/
namespace Go.Proofs.YtcmnecnbcohaeaaGreatDoor
open Go.RowKit Ow

theorem make_none (st e : TypeId) (hu : Tryz.prog.underlying st = some (.slice e)) (hi : (Tryz.prog.info? e).map (fun i => i.zero.isSome) = some true) (w : World) : ∃ w', (Instr.makeSlice st (.int .i64 0) (.int .i64 0)).run Tryz.prog w = .ok (.slice (some ⟨w.heap.size, 0, none⟩) 0 0) w' ∧ w.grownBy w' none := by
  obtain ⟨i, hi1, hi2⟩ : ∃ i, Tryz.prog.info? e = some i ∧ i.zero.isSome = true := by
    cases h : Tryz.prog.info? e with
    | none => rw [h] at hi; cases hi
    | some i => rw [h] at hi; exact ⟨i, rfl, by simpa using hi⟩
  obtain ⟨z, hz⟩ := Option.isSome_iff_exists.1 hi2
  have h2 := run_make (P := Tryz.prog) w st e i z hu hi1 hz .i64 .i64 0 0 (by omega) (by omega) (by omega) (by omega)
  exact ⟨_, h2, gb_alloc (gb_refl _ _) _⟩

set_option maxRecDepth 100000 in
set_option maxHeartbeats 4000000 in
theorem flatLimbs_nil (w : World) : Calls Tryz.prog 55 #[.slice none 0 0] w fun e w' => e = .returned (.bool true) ∧ w.grownBy w' none := by
  go_enter Tryz.func55, Tryz.ntmps55
  go_wp2
  go_loopw [3] (fun i wr => i = .int .i64 0 ∧ w.grownBy wr none) (fun _ _ => 0)
  case atStart => exact ⟨rfl, gb_refl _ _⟩
  obtain ⟨rfl, hg⟩ := hrel
  obtain ⟨w2, hmk, hg2⟩ := make_none 60 130 Tryz.underlying60 (by kernel_rfl) wr
  have hg3 := gb_trans hg hg2
  go_wp2
  go_loopw [6] (fun i wr => i = .int .i64 0 ∧ w.grownBy wr none) (fun _ _ => 0)
  case atStart => exact ⟨rfl, hg3⟩
  obtain ⟨rfl, hg⟩ := hrel
  go_wp2
  go_loopw [9] (fun i wr => i = .int .i64 0 ∧ w.grownBy wr none) (fun _ _ => 0)
  case atStart => exact ⟨rfl, hg⟩
  obtain ⟨rfl, hg⟩ := hrel
  go_wp2
  go_loopw [11] (fun i wr => i = .int .i64 0 ∧ w.grownBy wr none) (fun _ _ => 0)
  case atStart => exact ⟨rfl, hg⟩
  obtain ⟨rfl, hg⟩ := hrel
  go_wp2
  go_loopw [14] (fun i wr => i = .int .i64 0 ∧ w.grownBy wr none) (fun _ _ => 0)
  case atStart => exact ⟨rfl, hg⟩
  obtain ⟨rfl, hg⟩ := hrel
  go_wp2
  go_ret
  exact ⟨rfl, hg⟩
set_option maxRecDepth 100000 in
set_option maxHeartbeats 4000000 in
theorem flatWords_nil (w : World) : Calls Tryz.prog 56 #[.slice none 0 0] w fun e w' => e = .returned (.bool true) ∧ w.grownBy w' none := by
  go_enter Tryz.func56, Tryz.ntmps56
  go_wp2
  go_loopw [3] (fun i wr => i = .int .i64 0 ∧ w.grownBy wr none) (fun _ _ => 0)
  case atStart => exact ⟨rfl, gb_refl _ _⟩
  obtain ⟨rfl, hg⟩ := hrel
  obtain ⟨w2, hmk, hg2⟩ := make_none 61 40 Tryz.underlying61 (by kernel_rfl) wr
  have hg3 := gb_trans hg hg2
  go_wp2
  go_loopw [6] (fun i wr => i = .int .i64 0 ∧ w.grownBy wr none) (fun _ _ => 0)
  case atStart => exact ⟨rfl, hg3⟩
  obtain ⟨rfl, hg⟩ := hrel
  go_wp2
  go_loopw [9] (fun i wr => i = .int .i64 0 ∧ w.grownBy wr none) (fun _ _ => 0)
  case atStart => exact ⟨rfl, hg⟩
  obtain ⟨rfl, hg⟩ := hrel
  go_wp2
  go_loopw [11] (fun i wr => i = .int .i64 0 ∧ w.grownBy wr none) (fun _ _ => 0)
  case atStart => exact ⟨rfl, hg⟩
  obtain ⟨rfl, hg⟩ := hrel
  go_wp2
  go_loopw [14] (fun i wr => i = .int .i64 0 ∧ w.grownBy wr none) (fun _ _ => 0)
  case atStart => exact ⟨rfl, hg⟩
  obtain ⟨rfl, hg⟩ := hrel
  go_wp2
  go_ret
  exact ⟨rfl, hg⟩
set_option maxRecDepth 100000 in
set_option maxHeartbeats 4000000 in
theorem flatInts_nil (w : World) : Calls Tryz.prog 57 #[.slice none 0 0] w fun e w' => e = .returned (.bool true) ∧ w.grownBy w' none := by
  go_enter Tryz.func57, Tryz.ntmps57
  go_wp2
  go_loopw [3] (fun i wr => i = .int .i64 0 ∧ w.grownBy wr none) (fun _ _ => 0)
  case atStart => exact ⟨rfl, gb_refl _ _⟩
  obtain ⟨rfl, hg⟩ := hrel
  obtain ⟨w2, hmk, hg2⟩ := make_none 62 132 Tryz.underlying62 (by kernel_rfl) wr
  have hg3 := gb_trans hg hg2
  go_wp2
  go_loopw [6] (fun i wr => i = .int .i64 0 ∧ w.grownBy wr none) (fun _ _ => 0)
  case atStart => exact ⟨rfl, hg3⟩
  obtain ⟨rfl, hg⟩ := hrel
  go_wp2
  go_loopw [9] (fun i wr => i = .int .i64 0 ∧ w.grownBy wr none) (fun _ _ => 0)
  case atStart => exact ⟨rfl, hg⟩
  obtain ⟨rfl, hg⟩ := hrel
  go_wp2
  go_loopw [11] (fun i wr => i = .int .i64 0 ∧ w.grownBy wr none) (fun _ _ => 0)
  case atStart => exact ⟨rfl, hg⟩
  obtain ⟨rfl, hg⟩ := hrel
  go_wp2
  go_loopw [14] (fun i wr => i = .int .i64 0 ∧ w.grownBy wr none) (fun _ _ => 0)
  case atStart => exact ⟨rfl, hg⟩
  obtain ⟨rfl, hg⟩ := hrel
  go_wp2
  go_ret
  exact ⟨rfl, hg⟩
set_option maxRecDepth 100000 in
set_option maxHeartbeats 4000000 in
theorem flatLongs_nil (w : World) : Calls Tryz.prog 58 #[.slice none 0 0] w fun e w' => e = .returned (.bool true) ∧ w.grownBy w' none := by
  go_enter Tryz.func58, Tryz.ntmps58
  go_wp2
  go_loopw [3] (fun i wr => i = .int .i64 0 ∧ w.grownBy wr none) (fun _ _ => 0)
  case atStart => exact ⟨rfl, gb_refl _ _⟩
  obtain ⟨rfl, hg⟩ := hrel
  obtain ⟨w2, hmk, hg2⟩ := make_none 63 133 Tryz.underlying63 (by kernel_rfl) wr
  have hg3 := gb_trans hg hg2
  go_wp2
  go_loopw [6] (fun i wr => i = .int .i64 0 ∧ w.grownBy wr none) (fun _ _ => 0)
  case atStart => exact ⟨rfl, hg3⟩
  obtain ⟨rfl, hg⟩ := hrel
  go_wp2
  go_loopw [9] (fun i wr => i = .int .i64 0 ∧ w.grownBy wr none) (fun _ _ => 0)
  case atStart => exact ⟨rfl, hg⟩
  obtain ⟨rfl, hg⟩ := hrel
  go_wp2
  go_loopw [11] (fun i wr => i = .int .i64 0 ∧ w.grownBy wr none) (fun _ _ => 0)
  case atStart => exact ⟨rfl, hg⟩
  obtain ⟨rfl, hg⟩ := hrel
  go_wp2
  go_loopw [14] (fun i wr => i = .int .i64 0 ∧ w.grownBy wr none) (fun _ _ => 0)
  case atStart => exact ⟨rfl, hg⟩
  obtain ⟨rfl, hg⟩ := hrel
  go_wp2
  go_ret
  exact ⟨rfl, hg⟩
set_option maxRecDepth 100000 in
set_option maxHeartbeats 4000000 in
theorem flatTexts_nil (w : World) : Calls Tryz.prog 59 #[.slice none 0 0] w fun e w' => e = .returned (.bool true) ∧ w.grownBy w' none := by
  go_enter Tryz.func59, Tryz.ntmps59
  go_wp2
  go_loopw [3] (fun i wr => i = .int .i64 0 ∧ w.grownBy wr none) (fun _ _ => 0)
  case atStart => exact ⟨rfl, gb_refl _ _⟩
  obtain ⟨rfl, hg⟩ := hrel
  obtain ⟨w2, hmk, hg2⟩ := make_none 64 134 Tryz.underlying64 (by kernel_rfl) wr
  have hg3 := gb_trans hg hg2
  go_wp2
  go_loopw [6] (fun i wr => i = .int .i64 0 ∧ w.grownBy wr none) (fun _ _ => 0)
  case atStart => exact ⟨rfl, hg3⟩
  obtain ⟨rfl, hg⟩ := hrel
  go_wp2
  go_loopw [9] (fun i wr => i = .int .i64 0 ∧ w.grownBy wr none) (fun _ _ => 0)
  case atStart => exact ⟨rfl, hg⟩
  obtain ⟨rfl, hg⟩ := hrel
  go_wp2
  go_loopw [11] (fun i wr => i = .int .i64 0 ∧ w.grownBy wr none) (fun _ _ => 0)
  case atStart => exact ⟨rfl, hg⟩
  obtain ⟨rfl, hg⟩ := hrel
  go_wp2
  go_loopw [14] (fun i wr => i = .int .i64 0 ∧ w.grownBy wr none) (fun _ _ => 0)
  case atStart => exact ⟨rfl, hg⟩
  obtain ⟨rfl, hg⟩ := hrel
  go_wp2
  go_ret
  exact ⟨rfl, hg⟩
set_option maxRecDepth 100000 in
set_option maxHeartbeats 4000000 in
theorem flatBytes_nil (w : World) : Calls Tryz.prog 60 #[.slice none 0 0] w fun e w' => e = .returned (.bool true) ∧ w.grownBy w' none := by
  go_enter Tryz.func60, Tryz.ntmps60
  go_wp2
  go_loopw [3] (fun i wr => i = .int .i64 0 ∧ w.grownBy wr none) (fun _ _ => 0)
  case atStart => exact ⟨rfl, gb_refl _ _⟩
  obtain ⟨rfl, hg⟩ := hrel
  obtain ⟨w2, hmk, hg2⟩ := make_none 38 22 Tryz.underlying38 (by kernel_rfl) wr
  have hg3 := gb_trans hg hg2
  go_wp2
  go_loopw [6] (fun i wr => i = .int .i64 0 ∧ w.grownBy wr none) (fun _ _ => 0)
  case atStart => exact ⟨rfl, hg3⟩
  obtain ⟨rfl, hg⟩ := hrel
  go_wp2
  go_loopw [9] (fun i wr => i = .int .i64 0 ∧ w.grownBy wr none) (fun _ _ => 0)
  case atStart => exact ⟨rfl, hg⟩
  obtain ⟨rfl, hg⟩ := hrel
  go_wp2
  go_loopw [11] (fun i wr => i = .int .i64 0 ∧ w.grownBy wr none) (fun _ _ => 0)
  case atStart => exact ⟨rfl, hg⟩
  obtain ⟨rfl, hg⟩ := hrel
  go_wp2
  go_loopw [14] (fun i wr => i = .int .i64 0 ∧ w.grownBy wr none) (fun _ _ => 0)
  case atStart => exact ⟨rfl, hg⟩
  obtain ⟨rfl, hg⟩ := hrel
  go_wp2
  go_ret
  exact ⟨rfl, hg⟩
set_option maxRecDepth 100000 in
set_option maxHeartbeats 4000000 in
theorem flatTruths_nil (w : World) : Calls Tryz.prog 61 #[.slice none 0 0] w fun e w' => e = .returned (.bool true) ∧ w.grownBy w' none := by
  go_enter Tryz.func61, Tryz.ntmps61
  go_wp2
  go_loopw [3] (fun i wr => i = .int .i64 0 ∧ w.grownBy wr none) (fun _ _ => 0)
  case atStart => exact ⟨rfl, gb_refl _ _⟩
  obtain ⟨rfl, hg⟩ := hrel
  obtain ⟨w2, hmk, hg2⟩ := make_none 65 136 Tryz.underlying65 (by kernel_rfl) wr
  have hg3 := gb_trans hg hg2
  go_wp2
  go_loopw [6] (fun i wr => i = .int .i64 0 ∧ w.grownBy wr none) (fun _ _ => 0)
  case atStart => exact ⟨rfl, hg3⟩
  obtain ⟨rfl, hg⟩ := hrel
  go_wp2
  go_loopw [9] (fun i wr => i = .int .i64 0 ∧ w.grownBy wr none) (fun _ _ => 0)
  case atStart => exact ⟨rfl, hg⟩
  obtain ⟨rfl, hg⟩ := hrel
  go_wp2
  go_loopw [11] (fun i wr => i = .int .i64 0 ∧ w.grownBy wr none) (fun _ _ => 0)
  case atStart => exact ⟨rfl, hg⟩
  obtain ⟨rfl, hg⟩ := hrel
  go_wp2
  go_loopw [14] (fun i wr => i = .int .i64 0 ∧ w.grownBy wr none) (fun _ _ => 0)
  case atStart => exact ⟨rfl, hg⟩
  obtain ⟨rfl, hg⟩ := hrel
  go_wp2
  go_ret
  exact ⟨rfl, hg⟩
set_option maxRecDepth 100000 in
set_option maxHeartbeats 4000000 in
theorem flatRows_nil (w : World) : Calls Tryz.prog 62 #[.slice none 0 0] w fun e w' => e = .returned (.bool true) ∧ w.grownBy w' none := by
  go_enter Tryz.func62, Tryz.ntmps62
  go_wp2
  go_loopw [3] (fun i wr => i = .int .i64 0 ∧ w.grownBy wr none) (fun _ _ => 0)
  case atStart => exact ⟨rfl, gb_refl _ _⟩
  obtain ⟨rfl, hg⟩ := hrel
  obtain ⟨w2, hmk, hg2⟩ := make_none 66 38 Tryz.underlying66 (by kernel_rfl) wr
  have hg3 := gb_trans hg hg2
  go_wp2
  go_loopw [6] (fun i wr => i = .int .i64 0 ∧ w.grownBy wr none) (fun _ _ => 0)
  case atStart => exact ⟨rfl, hg3⟩
  obtain ⟨rfl, hg⟩ := hrel
  go_wp2
  go_loopw [9] (fun i wr => i = .int .i64 0 ∧ w.grownBy wr none) (fun _ _ => 0)
  case atStart => exact ⟨rfl, hg⟩
  obtain ⟨rfl, hg⟩ := hrel
  go_wp2
  go_loopw [11] (fun i wr => i = .int .i64 0 ∧ w.grownBy wr none) (fun _ _ => 0)
  case atStart => exact ⟨rfl, hg⟩
  obtain ⟨rfl, hg⟩ := hrel
  go_wp2
  go_loopw [14] (fun i wr => i = .int .i64 0 ∧ w.grownBy wr none) (fun _ _ => 0)
  case atStart => exact ⟨rfl, hg⟩
  obtain ⟨rfl, hg⟩ := hrel
  go_wp2
  go_ret
  exact ⟨rfl, hg⟩
set_option maxRecDepth 100000 in
set_option maxHeartbeats 4000000 in
theorem flatDots_nil (w : World) : Calls Tryz.prog 63 #[.slice none 0 0] w fun e w' => e = .returned (.bool true) ∧ w.grownBy w' none := by
  go_enter Tryz.func63, Tryz.ntmps63
  go_wp2
  go_loopw [3] (fun i wr => i = .int .i64 0 ∧ w.grownBy wr none) (fun _ _ => 0)
  case atStart => exact ⟨rfl, gb_refl _ _⟩
  obtain ⟨rfl, hg⟩ := hrel
  obtain ⟨w2, hmk, hg2⟩ := make_none 67 138 Tryz.underlying67 (by kernel_rfl) wr
  have hg3 := gb_trans hg hg2
  go_wp2
  go_loopw [6] (fun i wr => i = .int .i64 0 ∧ w.grownBy wr none) (fun _ _ => 0)
  case atStart => exact ⟨rfl, hg3⟩
  obtain ⟨rfl, hg⟩ := hrel
  go_wp2
  go_loopw [9] (fun i wr => i = .int .i64 0 ∧ w.grownBy wr none) (fun _ _ => 0)
  case atStart => exact ⟨rfl, hg⟩
  obtain ⟨rfl, hg⟩ := hrel
  go_wp2
  go_loopw [11] (fun i wr => i = .int .i64 0 ∧ w.grownBy wr none) (fun _ _ => 0)
  case atStart => exact ⟨rfl, hg⟩
  obtain ⟨rfl, hg⟩ := hrel
  go_wp2
  go_loopw [14] (fun i wr => i = .int .i64 0 ∧ w.grownBy wr none) (fun _ _ => 0)
  case atStart => exact ⟨rfl, hg⟩
  obtain ⟨rfl, hg⟩ := hrel
  go_wp2
  go_ret
  exact ⟨rfl, hg⟩
set_option maxRecDepth 100000 in
set_option maxHeartbeats 4000000 in
theorem flatRecords_nil (w : World) : Calls Tryz.prog 64 #[.slice none 0 0] w fun e w' => e = .returned (.bool true) ∧ w.grownBy w' none := by
  go_enter Tryz.func64, Tryz.ntmps64
  go_wp2
  go_loopw [3] (fun i wr => i = .int .i64 0 ∧ w.grownBy wr none) (fun _ _ => 0)
  case atStart => exact ⟨rfl, gb_refl _ _⟩
  obtain ⟨rfl, hg⟩ := hrel
  obtain ⟨w2, hmk, hg2⟩ := make_none 68 142 Tryz.underlying68 (by kernel_rfl) wr
  have hg3 := gb_trans hg hg2
  go_wp2
  go_loopw [6] (fun i wr => i = .int .i64 0 ∧ w.grownBy wr none) (fun _ _ => 0)
  case atStart => exact ⟨rfl, hg3⟩
  obtain ⟨rfl, hg⟩ := hrel
  go_wp2
  go_loopw [9] (fun i wr => i = .int .i64 0 ∧ w.grownBy wr none) (fun _ _ => 0)
  case atStart => exact ⟨rfl, hg⟩
  obtain ⟨rfl, hg⟩ := hrel
  go_wp2
  go_loopw [11] (fun i wr => i = .int .i64 0 ∧ w.grownBy wr none) (fun _ _ => 0)
  case atStart => exact ⟨rfl, hg⟩
  obtain ⟨rfl, hg⟩ := hrel
  go_wp2
  go_loopw [14] (fun i wr => i = .int .i64 0 ∧ w.grownBy wr none) (fun _ _ => 0)
  case atStart => exact ⟨rfl, hg⟩
  obtain ⟨rfl, hg⟩ := hrel
  go_wp2
  go_ret
  exact ⟨rfl, hg⟩
set_option maxRecDepth 100000 in
set_option maxHeartbeats 4000000 in
theorem flatLeaves_nil (w : World) : Calls Tryz.prog 65 #[.slice none 0 0] w fun e w' => e = .returned (.bool true) ∧ w.grownBy w' none := by
  go_enter Tryz.func65, Tryz.ntmps65
  go_wp2
  go_loopw [3] (fun i wr => i = .int .i64 0 ∧ w.grownBy wr none) (fun _ _ => 0)
  case atStart => exact ⟨rfl, gb_refl _ _⟩
  obtain ⟨rfl, hg⟩ := hrel
  obtain ⟨w2, hmk, hg2⟩ := make_none 69 147 Tryz.underlying69 (by kernel_rfl) wr
  have hg3 := gb_trans hg hg2
  go_wp2
  go_loopw [6] (fun i wr => i = .int .i64 0 ∧ w.grownBy wr none) (fun _ _ => 0)
  case atStart => exact ⟨rfl, hg3⟩
  obtain ⟨rfl, hg⟩ := hrel
  go_wp2
  go_loopw [9] (fun i wr => i = .int .i64 0 ∧ w.grownBy wr none) (fun _ _ => 0)
  case atStart => exact ⟨rfl, hg⟩
  obtain ⟨rfl, hg⟩ := hrel
  go_wp2
  go_loopw [11] (fun i wr => i = .int .i64 0 ∧ w.grownBy wr none) (fun _ _ => 0)
  case atStart => exact ⟨rfl, hg⟩
  obtain ⟨rfl, hg⟩ := hrel
  go_wp2
  go_loopw [14] (fun i wr => i = .int .i64 0 ∧ w.grownBy wr none) (fun _ _ => 0)
  case atStart => exact ⟨rfl, hg⟩
  obtain ⟨rfl, hg⟩ := hrel
  go_wp2
  go_ret
  exact ⟨rfl, hg⟩
set_option maxRecDepth 100000 in
set_option maxHeartbeats 4000000 in
theorem flatGrants_nil (w : World) : Calls Tryz.prog 66 #[.slice none 0 0] w fun e w' => e = .returned (.bool true) ∧ w.grownBy w' none := by
  go_enter Tryz.func66, Tryz.ntmps66
  go_wp2
  go_loopw [3] (fun i wr => i = .int .i64 0 ∧ w.grownBy wr none) (fun _ _ => 0)
  case atStart => exact ⟨rfl, gb_refl _ _⟩
  obtain ⟨rfl, hg⟩ := hrel
  obtain ⟨w2, hmk, hg2⟩ := make_none 70 152 Tryz.underlying70 (by kernel_rfl) wr
  have hg3 := gb_trans hg hg2
  go_wp2
  go_loopw [6] (fun i wr => i = .int .i64 0 ∧ w.grownBy wr none) (fun _ _ => 0)
  case atStart => exact ⟨rfl, hg3⟩
  obtain ⟨rfl, hg⟩ := hrel
  go_wp2
  go_loopw [9] (fun i wr => i = .int .i64 0 ∧ w.grownBy wr none) (fun _ _ => 0)
  case atStart => exact ⟨rfl, hg⟩
  obtain ⟨rfl, hg⟩ := hrel
  go_wp2
  go_loopw [11] (fun i wr => i = .int .i64 0 ∧ w.grownBy wr none) (fun _ _ => 0)
  case atStart => exact ⟨rfl, hg⟩
  obtain ⟨rfl, hg⟩ := hrel
  go_wp2
  go_loopw [14] (fun i wr => i = .int .i64 0 ∧ w.grownBy wr none) (fun _ _ => 0)
  case atStart => exact ⟨rfl, hg⟩
  obtain ⟨rfl, hg⟩ := hrel
  go_wp2
  go_ret
  exact ⟨rfl, hg⟩
set_option maxRecDepth 100000 in
set_option maxHeartbeats 4000000 in
theorem flatNodes_nil (w : World) : Calls Tryz.prog 67 #[.slice none 0 0] w fun e w' => e = .returned (.bool true) ∧ w.grownBy w' none := by
  go_enter Tryz.func67, Tryz.ntmps67
  go_wp2
  go_loopw [3] (fun i wr => i = .int .i64 0 ∧ w.grownBy wr none) (fun _ _ => 0)
  case atStart => exact ⟨rfl, gb_refl _ _⟩
  obtain ⟨rfl, hg⟩ := hrel
  obtain ⟨w2, hmk, hg2⟩ := make_none 71 157 Tryz.underlying71 (by kernel_rfl) wr
  have hg3 := gb_trans hg hg2
  go_wp2
  go_loopw [6] (fun i wr => i = .int .i64 0 ∧ w.grownBy wr none) (fun _ _ => 0)
  case atStart => exact ⟨rfl, hg3⟩
  obtain ⟨rfl, hg⟩ := hrel
  go_wp2
  go_loopw [9] (fun i wr => i = .int .i64 0 ∧ w.grownBy wr none) (fun _ _ => 0)
  case atStart => exact ⟨rfl, hg⟩
  obtain ⟨rfl, hg⟩ := hrel
  go_wp2
  go_loopw [11] (fun i wr => i = .int .i64 0 ∧ w.grownBy wr none) (fun _ _ => 0)
  case atStart => exact ⟨rfl, hg⟩
  obtain ⟨rfl, hg⟩ := hrel
  go_wp2
  go_loopw [14] (fun i wr => i = .int .i64 0 ∧ w.grownBy wr none) (fun _ _ => 0)
  case atStart => exact ⟨rfl, hg⟩
  obtain ⟨rfl, hg⟩ := hrel
  go_wp2
  go_ret
  exact ⟨rfl, hg⟩
set_option maxRecDepth 100000 in
set_option maxHeartbeats 4000000 in
theorem flatStubs_nil (w : World) : Calls Tryz.prog 68 #[.slice none 0 0] w fun e w' => e = .returned (.bool true) ∧ w.grownBy w' none := by
  go_enter Tryz.func68, Tryz.ntmps68
  go_wp2
  go_loopw [3] (fun i wr => i = .int .i64 0 ∧ w.grownBy wr none) (fun _ _ => 0)
  case atStart => exact ⟨rfl, gb_refl _ _⟩
  obtain ⟨rfl, hg⟩ := hrel
  obtain ⟨w2, hmk, hg2⟩ := make_none 72 163 Tryz.underlying72 (by kernel_rfl) wr
  have hg3 := gb_trans hg hg2
  go_wp2
  go_loopw [6] (fun i wr => i = .int .i64 0 ∧ w.grownBy wr none) (fun _ _ => 0)
  case atStart => exact ⟨rfl, hg3⟩
  obtain ⟨rfl, hg⟩ := hrel
  go_wp2
  go_loopw [9] (fun i wr => i = .int .i64 0 ∧ w.grownBy wr none) (fun _ _ => 0)
  case atStart => exact ⟨rfl, hg⟩
  obtain ⟨rfl, hg⟩ := hrel
  go_wp2
  go_loopw [11] (fun i wr => i = .int .i64 0 ∧ w.grownBy wr none) (fun _ _ => 0)
  case atStart => exact ⟨rfl, hg⟩
  obtain ⟨rfl, hg⟩ := hrel
  go_wp2
  go_loopw [14] (fun i wr => i = .int .i64 0 ∧ w.grownBy wr none) (fun _ _ => 0)
  case atStart => exact ⟨rfl, hg⟩
  obtain ⟨rfl, hg⟩ := hrel
  go_wp2
  go_ret
  exact ⟨rfl, hg⟩
set_option maxRecDepth 100000 in
set_option maxHeartbeats 4000000 in
theorem flatProofs_nil (w : World) : Calls Tryz.prog 69 #[.slice none 0 0] w fun e w' => e = .returned (.bool true) ∧ w.grownBy w' none := by
  go_enter Tryz.func69, Tryz.ntmps69
  go_wp2
  go_loopw [3] (fun i wr => i = .int .i64 0 ∧ w.grownBy wr none) (fun _ _ => 0)
  case atStart => exact ⟨rfl, gb_refl _ _⟩
  obtain ⟨rfl, hg⟩ := hrel
  obtain ⟨w2, hmk, hg2⟩ := make_none 73 168 Tryz.underlying73 (by kernel_rfl) wr
  have hg3 := gb_trans hg hg2
  go_wp2
  go_loopw [6] (fun i wr => i = .int .i64 0 ∧ w.grownBy wr none) (fun _ _ => 0)
  case atStart => exact ⟨rfl, hg3⟩
  obtain ⟨rfl, hg⟩ := hrel
  go_wp2
  go_loopw [9] (fun i wr => i = .int .i64 0 ∧ w.grownBy wr none) (fun _ _ => 0)
  case atStart => exact ⟨rfl, hg⟩
  obtain ⟨rfl, hg⟩ := hrel
  go_wp2
  go_loopw [11] (fun i wr => i = .int .i64 0 ∧ w.grownBy wr none) (fun _ _ => 0)
  case atStart => exact ⟨rfl, hg⟩
  obtain ⟨rfl, hg⟩ := hrel
  go_wp2
  go_loopw [14] (fun i wr => i = .int .i64 0 ∧ w.grownBy wr none) (fun _ _ => 0)
  case atStart => exact ⟨rfl, hg⟩
  obtain ⟨rfl, hg⟩ := hrel
  go_wp2
  go_ret
  exact ⟨rfl, hg⟩
set_option maxRecDepth 100000 in
set_option maxHeartbeats 4000000 in
theorem flatRoots_nil (w : World) : Calls Tryz.prog 70 #[.slice none 0 0] w fun e w' => e = .returned (.bool true) ∧ w.grownBy w' none := by
  go_enter Tryz.func70, Tryz.ntmps70
  go_wp2
  go_loopw [3] (fun i wr => i = .int .i64 0 ∧ w.grownBy wr none) (fun _ _ => 0)
  case atStart => exact ⟨rfl, gb_refl _ _⟩
  obtain ⟨rfl, hg⟩ := hrel
  obtain ⟨w2, hmk, hg2⟩ := make_none 74 173 Tryz.underlying74 (by kernel_rfl) wr
  have hg3 := gb_trans hg hg2
  go_wp2
  go_loopw [6] (fun i wr => i = .int .i64 0 ∧ w.grownBy wr none) (fun _ _ => 0)
  case atStart => exact ⟨rfl, hg3⟩
  obtain ⟨rfl, hg⟩ := hrel
  go_wp2
  go_loopw [9] (fun i wr => i = .int .i64 0 ∧ w.grownBy wr none) (fun _ _ => 0)
  case atStart => exact ⟨rfl, hg⟩
  obtain ⟨rfl, hg⟩ := hrel
  go_wp2
  go_loopw [11] (fun i wr => i = .int .i64 0 ∧ w.grownBy wr none) (fun _ _ => 0)
  case atStart => exact ⟨rfl, hg⟩
  obtain ⟨rfl, hg⟩ := hrel
  go_wp2
  go_loopw [14] (fun i wr => i = .int .i64 0 ∧ w.grownBy wr none) (fun _ _ => 0)
  case atStart => exact ⟨rfl, hg⟩
  obtain ⟨rfl, hg⟩ := hrel
  go_wp2
  go_ret
  exact ⟨rfl, hg⟩
set_option maxRecDepth 100000 in
set_option maxHeartbeats 4000000 in
theorem flatEvidenceRow_nil (w : World) : Calls Tryz.prog 71 #[.slice none 0 0] w fun e w' => e = .returned (.bool true) ∧ w.grownBy w' none := by
  go_enter Tryz.func71, Tryz.ntmps71
  go_wp2
  go_loopw [3] (fun i wr => i = .int .i64 0 ∧ w.grownBy wr none) (fun _ _ => 0)
  case atStart => exact ⟨rfl, gb_refl _ _⟩
  obtain ⟨rfl, hg⟩ := hrel
  obtain ⟨w2, hmk, hg2⟩ := make_none 75 178 Tryz.underlying75 (by kernel_rfl) wr
  have hg3 := gb_trans hg hg2
  go_wp2
  go_loopw [6] (fun i wr => i = .int .i64 0 ∧ w.grownBy wr none) (fun _ _ => 0)
  case atStart => exact ⟨rfl, hg3⟩
  obtain ⟨rfl, hg⟩ := hrel
  go_wp2
  go_loopw [9] (fun i wr => i = .int .i64 0 ∧ w.grownBy wr none) (fun _ _ => 0)
  case atStart => exact ⟨rfl, hg⟩
  obtain ⟨rfl, hg⟩ := hrel
  go_wp2
  go_loopw [11] (fun i wr => i = .int .i64 0 ∧ w.grownBy wr none) (fun _ _ => 0)
  case atStart => exact ⟨rfl, hg⟩
  obtain ⟨rfl, hg⟩ := hrel
  go_wp2
  go_loopw [14] (fun i wr => i = .int .i64 0 ∧ w.grownBy wr none) (fun _ _ => 0)
  case atStart => exact ⟨rfl, hg⟩
  obtain ⟨rfl, hg⟩ := hrel
  go_wp2
  go_ret
  exact ⟨rfl, hg⟩
set_option maxRecDepth 100000 in
set_option maxHeartbeats 4000000 in
theorem flatFrames_nil (w : World) : Calls Tryz.prog 72 #[.slice none 0 0] w fun e w' => e = .returned (.bool true) ∧ w.grownBy w' none := by
  go_enter Tryz.func72, Tryz.ntmps72
  go_wp2
  go_loopw [3] (fun i wr => i = .int .i64 0 ∧ w.grownBy wr none) (fun _ _ => 0)
  case atStart => exact ⟨rfl, gb_refl _ _⟩
  obtain ⟨rfl, hg⟩ := hrel
  obtain ⟨w2, hmk, hg2⟩ := make_none 76 183 Tryz.underlying76 (by kernel_rfl) wr
  have hg3 := gb_trans hg hg2
  go_wp2
  go_loopw [6] (fun i wr => i = .int .i64 0 ∧ w.grownBy wr none) (fun _ _ => 0)
  case atStart => exact ⟨rfl, hg3⟩
  obtain ⟨rfl, hg⟩ := hrel
  go_wp2
  go_loopw [9] (fun i wr => i = .int .i64 0 ∧ w.grownBy wr none) (fun _ _ => 0)
  case atStart => exact ⟨rfl, hg⟩
  obtain ⟨rfl, hg⟩ := hrel
  go_wp2
  go_loopw [11] (fun i wr => i = .int .i64 0 ∧ w.grownBy wr none) (fun _ _ => 0)
  case atStart => exact ⟨rfl, hg⟩
  obtain ⟨rfl, hg⟩ := hrel
  go_wp2
  go_loopw [14] (fun i wr => i = .int .i64 0 ∧ w.grownBy wr none) (fun _ _ => 0)
  case atStart => exact ⟨rfl, hg⟩
  obtain ⟨rfl, hg⟩ := hrel
  go_wp2
  go_ret
  exact ⟨rfl, hg⟩
set_option maxRecDepth 100000 in
set_option maxHeartbeats 4000000 in
theorem flatPackets_nil (w : World) : Calls Tryz.prog 73 #[.slice none 0 0] w fun e w' => e = .returned (.bool true) ∧ w.grownBy w' none := by
  go_enter Tryz.func73, Tryz.ntmps73
  go_wp2
  go_loopw [3] (fun i wr => i = .int .i64 0 ∧ w.grownBy wr none) (fun _ _ => 0)
  case atStart => exact ⟨rfl, gb_refl _ _⟩
  obtain ⟨rfl, hg⟩ := hrel
  obtain ⟨w2, hmk, hg2⟩ := make_none 77 190 Tryz.underlying77 (by kernel_rfl) wr
  have hg3 := gb_trans hg hg2
  go_wp2
  go_loopw [6] (fun i wr => i = .int .i64 0 ∧ w.grownBy wr none) (fun _ _ => 0)
  case atStart => exact ⟨rfl, hg3⟩
  obtain ⟨rfl, hg⟩ := hrel
  go_wp2
  go_loopw [9] (fun i wr => i = .int .i64 0 ∧ w.grownBy wr none) (fun _ _ => 0)
  case atStart => exact ⟨rfl, hg⟩
  obtain ⟨rfl, hg⟩ := hrel
  go_wp2
  go_loopw [11] (fun i wr => i = .int .i64 0 ∧ w.grownBy wr none) (fun _ _ => 0)
  case atStart => exact ⟨rfl, hg⟩
  obtain ⟨rfl, hg⟩ := hrel
  go_wp2
  go_loopw [14] (fun i wr => i = .int .i64 0 ∧ w.grownBy wr none) (fun _ _ => 0)
  case atStart => exact ⟨rfl, hg⟩
  obtain ⟨rfl, hg⟩ := hrel
  go_wp2
  go_ret
  exact ⟨rfl, hg⟩
set_option maxRecDepth 100000 in
set_option maxHeartbeats 4000000 in
theorem flatEntries_nil (w : World) : Calls Tryz.prog 74 #[.slice none 0 0] w fun e w' => e = .returned (.bool true) ∧ w.grownBy w' none := by
  go_enter Tryz.func74, Tryz.ntmps74
  go_wp2
  go_loopw [3] (fun i wr => i = .int .i64 0 ∧ w.grownBy wr none) (fun _ _ => 0)
  case atStart => exact ⟨rfl, gb_refl _ _⟩
  obtain ⟨rfl, hg⟩ := hrel
  obtain ⟨w2, hmk, hg2⟩ := make_none 78 195 Tryz.underlying78 (by kernel_rfl) wr
  have hg3 := gb_trans hg hg2
  go_wp2
  go_loopw [6] (fun i wr => i = .int .i64 0 ∧ w.grownBy wr none) (fun _ _ => 0)
  case atStart => exact ⟨rfl, hg3⟩
  obtain ⟨rfl, hg⟩ := hrel
  go_wp2
  go_loopw [9] (fun i wr => i = .int .i64 0 ∧ w.grownBy wr none) (fun _ _ => 0)
  case atStart => exact ⟨rfl, hg⟩
  obtain ⟨rfl, hg⟩ := hrel
  go_wp2
  go_loopw [11] (fun i wr => i = .int .i64 0 ∧ w.grownBy wr none) (fun _ _ => 0)
  case atStart => exact ⟨rfl, hg⟩
  obtain ⟨rfl, hg⟩ := hrel
  go_wp2
  go_loopw [14] (fun i wr => i = .int .i64 0 ∧ w.grownBy wr none) (fun _ _ => 0)
  case atStart => exact ⟨rfl, hg⟩
  obtain ⟨rfl, hg⟩ := hrel
  go_wp2
  go_ret
  exact ⟨rfl, hg⟩
set_option maxRecDepth 100000 in
set_option maxHeartbeats 4000000 in
theorem flatHeldRow_nil (w : World) : Calls Tryz.prog 75 #[.slice none 0 0] w fun e w' => e = .returned (.bool true) ∧ w.grownBy w' none := by
  go_enter Tryz.func75, Tryz.ntmps75
  go_wp2
  go_loopw [3] (fun i wr => i = .int .i64 0 ∧ w.grownBy wr none) (fun _ _ => 0)
  case atStart => exact ⟨rfl, gb_refl _ _⟩
  obtain ⟨rfl, hg⟩ := hrel
  obtain ⟨w2, hmk, hg2⟩ := make_none 79 201 Tryz.underlying79 (by kernel_rfl) wr
  have hg3 := gb_trans hg hg2
  go_wp2
  go_loopw [6] (fun i wr => i = .int .i64 0 ∧ w.grownBy wr none) (fun _ _ => 0)
  case atStart => exact ⟨rfl, hg3⟩
  obtain ⟨rfl, hg⟩ := hrel
  go_wp2
  go_loopw [9] (fun i wr => i = .int .i64 0 ∧ w.grownBy wr none) (fun _ _ => 0)
  case atStart => exact ⟨rfl, hg⟩
  obtain ⟨rfl, hg⟩ := hrel
  go_wp2
  go_loopw [11] (fun i wr => i = .int .i64 0 ∧ w.grownBy wr none) (fun _ _ => 0)
  case atStart => exact ⟨rfl, hg⟩
  obtain ⟨rfl, hg⟩ := hrel
  go_wp2
  go_loopw [14] (fun i wr => i = .int .i64 0 ∧ w.grownBy wr none) (fun _ _ => 0)
  case atStart => exact ⟨rfl, hg⟩
  obtain ⟨rfl, hg⟩ := hrel
  go_wp2
  go_ret
  exact ⟨rfl, hg⟩
set_option maxRecDepth 100000 in
set_option maxHeartbeats 4000000 in
theorem flatConfigs_nil (w : World) : Calls Tryz.prog 76 #[.slice none 0 0] w fun e w' => e = .returned (.bool true) ∧ w.grownBy w' none := by
  go_enter Tryz.func76, Tryz.ntmps76
  go_wp2
  go_loopw [3] (fun i wr => i = .int .i64 0 ∧ w.grownBy wr none) (fun _ _ => 0)
  case atStart => exact ⟨rfl, gb_refl _ _⟩
  obtain ⟨rfl, hg⟩ := hrel
  obtain ⟨w2, hmk, hg2⟩ := make_none 80 206 Tryz.underlying80 (by kernel_rfl) wr
  have hg3 := gb_trans hg hg2
  go_wp2
  go_loopw [6] (fun i wr => i = .int .i64 0 ∧ w.grownBy wr none) (fun _ _ => 0)
  case atStart => exact ⟨rfl, hg3⟩
  obtain ⟨rfl, hg⟩ := hrel
  go_wp2
  go_loopw [9] (fun i wr => i = .int .i64 0 ∧ w.grownBy wr none) (fun _ _ => 0)
  case atStart => exact ⟨rfl, hg⟩
  obtain ⟨rfl, hg⟩ := hrel
  go_wp2
  go_loopw [11] (fun i wr => i = .int .i64 0 ∧ w.grownBy wr none) (fun _ _ => 0)
  case atStart => exact ⟨rfl, hg⟩
  obtain ⟨rfl, hg⟩ := hrel
  go_wp2
  go_loopw [14] (fun i wr => i = .int .i64 0 ∧ w.grownBy wr none) (fun _ _ => 0)
  case atStart => exact ⟨rfl, hg⟩
  obtain ⟨rfl, hg⟩ := hrel
  go_wp2
  go_ret
  exact ⟨rfl, hg⟩
set_option maxRecDepth 100000 in
set_option maxHeartbeats 4000000 in
theorem flatSteps_nil (w : World) : Calls Tryz.prog 77 #[.slice none 0 0] w fun e w' => e = .returned (.bool true) ∧ w.grownBy w' none := by
  go_enter Tryz.func77, Tryz.ntmps77
  go_wp2
  go_loopw [3] (fun i wr => i = .int .i64 0 ∧ w.grownBy wr none) (fun _ _ => 0)
  case atStart => exact ⟨rfl, gb_refl _ _⟩
  obtain ⟨rfl, hg⟩ := hrel
  obtain ⟨w2, hmk, hg2⟩ := make_none 81 211 Tryz.underlying81 (by kernel_rfl) wr
  have hg3 := gb_trans hg hg2
  go_wp2
  go_loopw [6] (fun i wr => i = .int .i64 0 ∧ w.grownBy wr none) (fun _ _ => 0)
  case atStart => exact ⟨rfl, hg3⟩
  obtain ⟨rfl, hg⟩ := hrel
  go_wp2
  go_loopw [9] (fun i wr => i = .int .i64 0 ∧ w.grownBy wr none) (fun _ _ => 0)
  case atStart => exact ⟨rfl, hg⟩
  obtain ⟨rfl, hg⟩ := hrel
  go_wp2
  go_loopw [11] (fun i wr => i = .int .i64 0 ∧ w.grownBy wr none) (fun _ _ => 0)
  case atStart => exact ⟨rfl, hg⟩
  obtain ⟨rfl, hg⟩ := hrel
  go_wp2
  go_loopw [14] (fun i wr => i = .int .i64 0 ∧ w.grownBy wr none) (fun _ _ => 0)
  case atStart => exact ⟨rfl, hg⟩
  obtain ⟨rfl, hg⟩ := hrel
  go_wp2
  go_ret
  exact ⟨rfl, hg⟩
set_option maxRecDepth 100000 in
set_option maxHeartbeats 4000000 in
theorem flatTales_nil (w : World) : Calls Tryz.prog 78 #[.slice none 0 0] w fun e w' => e = .returned (.bool true) ∧ w.grownBy w' none := by
  go_enter Tryz.func78, Tryz.ntmps78
  go_wp2
  go_loopw [3] (fun i wr => i = .int .i64 0 ∧ w.grownBy wr none) (fun _ _ => 0)
  case atStart => exact ⟨rfl, gb_refl _ _⟩
  obtain ⟨rfl, hg⟩ := hrel
  obtain ⟨w2, hmk, hg2⟩ := make_none 82 217 Tryz.underlying82 (by kernel_rfl) wr
  have hg3 := gb_trans hg hg2
  go_wp2
  go_loopw [6] (fun i wr => i = .int .i64 0 ∧ w.grownBy wr none) (fun _ _ => 0)
  case atStart => exact ⟨rfl, hg3⟩
  obtain ⟨rfl, hg⟩ := hrel
  go_wp2
  go_loopw [9] (fun i wr => i = .int .i64 0 ∧ w.grownBy wr none) (fun _ _ => 0)
  case atStart => exact ⟨rfl, hg⟩
  obtain ⟨rfl, hg⟩ := hrel
  go_wp2
  go_loopw [11] (fun i wr => i = .int .i64 0 ∧ w.grownBy wr none) (fun _ _ => 0)
  case atStart => exact ⟨rfl, hg⟩
  obtain ⟨rfl, hg⟩ := hrel
  go_wp2
  go_loopw [14] (fun i wr => i = .int .i64 0 ∧ w.grownBy wr none) (fun _ _ => 0)
  case atStart => exact ⟨rfl, hg⟩
  obtain ⟨rfl, hg⟩ := hrel
  go_wp2
  go_ret
  exact ⟨rfl, hg⟩
end Go.Proofs.YtcmnecnbcohaeaaGreatDoor

/- The kit's bag, lists of bytes in it alone: apart. (gen_bag.py) -/
namespace Go.Proofs.YtcmnecnbcohaeaaGreatDoor
open Go.RowKit Ow

theorem Lists.Apart.mono {V : Lists} {m LB a b : Nat} (h : V.Apart m LB a) (hab : a ≤ b) : V.Apart m LB b := ⟨h.apart, h.ls, fun j hj i e => Nat.lt_of_lt_of_le (h.old j hj i e) hab, h.small⟩
/-- what lies in a bag -/
structure BagB (w : World) (B LB m C : Nat) : Prop where
  lt : B < w.heap.size
  nil : ∀ i, i < 24 → i ≠ 5 → w.cell? ⟨B, i, none⟩ = some (.slice none 0 0)
  five : w.cell? ⟨B, 5, none⟩ = some (.slice (some ⟨LB, 0, none⟩) m C)
theorem BagB.stay {w w' : World} {B LB m C : Nat} (h : BagB w B LB m C) (hg : w.grownBy w' none) : BagB w' B LB m C :=
  ⟨Nat.lt_of_lt_of_le h.lt hg.size, fun i hi h5 => by rw [gb_cell hg h.lt (by simp)]; exact h.nil i hi h5, by rw [gb_cell hg h.lt (by simp)]; exact h.five⟩
theorem BagB.kb {S : Nat → Prop} {w w' : World} {B LB m C : Nat} (h : BagB w B LB m C) (hk : Kb S w w') (hs : ¬ S B) : BagB w' B LB m C :=
  ⟨Nat.lt_of_lt_of_le h.lt hk.size, fun i hi h5 => by rw [hk.cell (p := ⟨B, i, none⟩) h.lt hs]; exact h.nil i hi h5, by rw [hk.cell (p := ⟨B, 5, none⟩) h.lt hs]; exact h.five⟩
theorem FlatAt.from {V : Lists} {m LB : Nat} {w w1 w2 : World} {r : Nat → List Value} (h : FlatAt V m LB w1 w2 r) (hg : w.grownBy w1 none) : FlatAt V m LB w w2 r :=
  ⟨h.own, h.list, kb_trans (kb_stay (kb_refl _ _) hg) h.kept⟩
set_option maxRecDepth 100000 in
set_option maxHeartbeats 4000000 in
theorem apart_bytes {f : Nat → Nat → Nat} (hf : Marks f) (V : Lists) (m LB C B : Nat) (xs : Nat → List Value) (w : World) (hm : m ≤ 70000) (hC : m ≤ C) (hC2 : C < 9223372036854775808) (hV : V.Apart m LB w.heap.size) (hO : Owns w V m xs) (hL : ListAt w LB V m) (hB : BagB w B LB m C) (hBV : ∀ j, j < m → V.g j ≠ some B) :
    Calls Tryz.prog 34 #[.pointer (some ⟨B, 0, none⟩)] w fun e w' => e = .returned (.bool true) ∧ FlatAt V m LB w w' (fun j => mkV f j (V.n j)) := by
  have H := Lib.hid (And.intro hV (And.intro hO (And.intro hL hBV))); clear hV hO hL hBV
  have HF := Lib.hid hf; clear hf
  have HB0 := Lib.hid (And.intro hB (gb_refl w none)); clear hB
  have HM := Lib.hid (And.intro hm (And.intro hC hC2))
  go_enter Tryz.func34, Tryz.ntmps34
  have c := HB0.out.1.nil 0 (by decide) (by decide)
  go_wp2_with fail
  clear c
  refine (flatLimbs_nil _).mono ?_
  rintro e w1 ⟨rfl, h⟩
  have HB1 := Lib.hid (And.intro (HB0.out.1.stay h) (gb_trans HB0.out.2 h)); clear h HB0
  have c := HB1.out.1.nil 1 (by decide) (by decide)
  go_wp2_with fail
  clear c
  refine (flatWords_nil _).mono ?_
  rintro e w2 ⟨rfl, h⟩
  have HB2 := Lib.hid (And.intro (HB1.out.1.stay h) (gb_trans HB1.out.2 h)); clear h HB1
  have c := HB2.out.1.nil 2 (by decide) (by decide)
  go_wp2_with fail
  clear c
  refine (flatInts_nil _).mono ?_
  rintro e w3 ⟨rfl, h⟩
  have HB3 := Lib.hid (And.intro (HB2.out.1.stay h) (gb_trans HB2.out.2 h)); clear h HB2
  have c := HB3.out.1.nil 3 (by decide) (by decide)
  go_wp2_with fail
  clear c
  refine (flatLongs_nil _).mono ?_
  rintro e w4 ⟨rfl, h⟩
  have HB4 := Lib.hid (And.intro (HB3.out.1.stay h) (gb_trans HB3.out.2 h)); clear h HB3
  have c := HB4.out.1.nil 4 (by decide) (by decide)
  go_wp2_with fail
  clear c
  refine (flatTexts_nil _).mono ?_
  rintro e w5 ⟨rfl, h⟩
  have HB5 := Lib.hid (And.intro (HB4.out.1.stay h) (gb_trans HB4.out.2 h)); clear h HB4
  have c := HB5.out.1.five
  go_wp2_with fail
  clear c
  refine (flatB_any HF.out V m LB C xs _ HM.out.1 HM.out.2.1 HM.out.2.2 (H.out.1.mono HB5.out.2.size) (H.out.2.1.stay HB5.out.2) (H.out.2.2.1.grown HB5.out.2 (by simp))).mono ?_
  rintro e w6 ⟨rfl, h⟩
  have HB6 := Lib.hid (And.intro (HB5.out.1.kb h.kept (fun ⟨j, hj, e⟩ => H.out.2.2.2 j hj e)) (h.from HB5.out.2)); clear h HB5
  have c := HB6.out.1.nil 6 (by decide) (by decide)
  go_wp2_with fail
  clear c
  refine (flatTruths_nil _).mono ?_
  rintro e w7 ⟨rfl, h⟩
  have HB7 := Lib.hid (And.intro (HB6.out.1.stay h) (HB6.out.2.stay h)); clear h HB6
  have c := HB7.out.1.nil 7 (by decide) (by decide)
  go_wp2_with fail
  clear c
  refine (flatRows_nil _).mono ?_
  rintro e w8 ⟨rfl, h⟩
  have HB8 := Lib.hid (And.intro (HB7.out.1.stay h) (HB7.out.2.stay h)); clear h HB7
  have c := HB8.out.1.nil 8 (by decide) (by decide)
  go_wp2_with fail
  clear c
  refine (flatDots_nil _).mono ?_
  rintro e w9 ⟨rfl, h⟩
  have HB9 := Lib.hid (And.intro (HB8.out.1.stay h) (HB8.out.2.stay h)); clear h HB8
  have c := HB9.out.1.nil 9 (by decide) (by decide)
  go_wp2_with fail
  clear c
  refine (flatRecords_nil _).mono ?_
  rintro e w10 ⟨rfl, h⟩
  have HB10 := Lib.hid (And.intro (HB9.out.1.stay h) (HB9.out.2.stay h)); clear h HB9
  have c := HB10.out.1.nil 10 (by decide) (by decide)
  go_wp2_with fail
  clear c
  refine (flatLeaves_nil _).mono ?_
  rintro e w11 ⟨rfl, h⟩
  have HB11 := Lib.hid (And.intro (HB10.out.1.stay h) (HB10.out.2.stay h)); clear h HB10
  have c := HB11.out.1.nil 11 (by decide) (by decide)
  go_wp2_with fail
  clear c
  refine (flatGrants_nil _).mono ?_
  rintro e w12 ⟨rfl, h⟩
  have HB12 := Lib.hid (And.intro (HB11.out.1.stay h) (HB11.out.2.stay h)); clear h HB11
  have c := HB12.out.1.nil 12 (by decide) (by decide)
  go_wp2_with fail
  clear c
  refine (flatNodes_nil _).mono ?_
  rintro e w13 ⟨rfl, h⟩
  have HB13 := Lib.hid (And.intro (HB12.out.1.stay h) (HB12.out.2.stay h)); clear h HB12
  have c := HB13.out.1.nil 13 (by decide) (by decide)
  go_wp2_with fail
  clear c
  refine (flatStubs_nil _).mono ?_
  rintro e w14 ⟨rfl, h⟩
  have HB14 := Lib.hid (And.intro (HB13.out.1.stay h) (HB13.out.2.stay h)); clear h HB13
  have c := HB14.out.1.nil 14 (by decide) (by decide)
  go_wp2_with fail
  clear c
  refine (flatProofs_nil _).mono ?_
  rintro e w15 ⟨rfl, h⟩
  have HB15 := Lib.hid (And.intro (HB14.out.1.stay h) (HB14.out.2.stay h)); clear h HB14
  have c := HB15.out.1.nil 15 (by decide) (by decide)
  go_wp2_with fail
  clear c
  refine (flatRoots_nil _).mono ?_
  rintro e w16 ⟨rfl, h⟩
  have HB16 := Lib.hid (And.intro (HB15.out.1.stay h) (HB15.out.2.stay h)); clear h HB15
  have c := HB16.out.1.nil 16 (by decide) (by decide)
  go_wp2_with fail
  clear c
  refine (flatEvidenceRow_nil _).mono ?_
  rintro e w17 ⟨rfl, h⟩
  have HB17 := Lib.hid (And.intro (HB16.out.1.stay h) (HB16.out.2.stay h)); clear h HB16
  have c := HB17.out.1.nil 17 (by decide) (by decide)
  go_wp2_with fail
  clear c
  refine (flatFrames_nil _).mono ?_
  rintro e w18 ⟨rfl, h⟩
  have HB18 := Lib.hid (And.intro (HB17.out.1.stay h) (HB17.out.2.stay h)); clear h HB17
  have c := HB18.out.1.nil 18 (by decide) (by decide)
  go_wp2_with fail
  clear c
  refine (flatPackets_nil _).mono ?_
  rintro e w19 ⟨rfl, h⟩
  have HB19 := Lib.hid (And.intro (HB18.out.1.stay h) (HB18.out.2.stay h)); clear h HB18
  have c := HB19.out.1.nil 19 (by decide) (by decide)
  go_wp2_with fail
  clear c
  refine (flatEntries_nil _).mono ?_
  rintro e w20 ⟨rfl, h⟩
  have HB20 := Lib.hid (And.intro (HB19.out.1.stay h) (HB19.out.2.stay h)); clear h HB19
  have c := HB20.out.1.nil 20 (by decide) (by decide)
  go_wp2_with fail
  clear c
  refine (flatHeldRow_nil _).mono ?_
  rintro e w21 ⟨rfl, h⟩
  have HB21 := Lib.hid (And.intro (HB20.out.1.stay h) (HB20.out.2.stay h)); clear h HB20
  have c := HB21.out.1.nil 21 (by decide) (by decide)
  go_wp2_with fail
  clear c
  refine (flatConfigs_nil _).mono ?_
  rintro e w22 ⟨rfl, h⟩
  have HB22 := Lib.hid (And.intro (HB21.out.1.stay h) (HB21.out.2.stay h)); clear h HB21
  have c := HB22.out.1.nil 22 (by decide) (by decide)
  go_wp2_with fail
  clear c
  refine (flatSteps_nil _).mono ?_
  rintro e w23 ⟨rfl, h⟩
  have HB23 := Lib.hid (And.intro (HB22.out.1.stay h) (HB22.out.2.stay h)); clear h HB22
  have c := HB23.out.1.nil 23 (by decide) (by decide)
  go_wp2_with fail
  clear c
  refine (flatTales_nil _).mono ?_
  rintro e w24 ⟨rfl, h⟩
  have HB24 := Lib.hid (And.intro (HB23.out.1.stay h) (HB23.out.2.stay h)); clear h HB23
  go_wp2
  go_ret
  exact ⟨rfl, HB24.out.2⟩
end Go.Proofs.YtcmnecnbcohaeaaGreatDoor

/- The kit's ApartBytes: lists of bytes that lie apart. -/
namespace Go.Proofs.YtcmnecnbcohaeaaGreatDoor
open Go.RowKit Ow

set_option maxRecDepth 100000 in
set_option maxHeartbeats 1000000 in
theorem apartB_any {f : Nat → Nat → Nat} (hf : Marks f) (V : Lists) (m L0 C : Nat) (xs : Nat → List Value) (w : World) (hm : m ≤ 70000) (hm0 : 0 < m) (hC : m ≤ C) (hC2 : C < 9223372036854775808) (hV : V.Apart m L0 w.heap.size) (hO : Owns w V m xs) (hL : ListAt w L0 V m) :
    Calls Tryz.prog 13 #[.slice (some ⟨L0, 0, none⟩) m C] w fun e w' => e = .returned (.bool true) ∧ Owns w' V m (fun j => mkV f j (V.n j)) ∧ Kb (V.S m) w w' := by
  have H := Lib.hid (And.intro hV (And.intro hO hL)); clear hV hO hL
  have HF := Lib.hid hf; clear hf
  go_enter Tryz.func13, Tryz.ntmps13
  have hb0 : Blk (w.alloc (.cells (bagL (.slice none 0 0)).toArray 84)) w.heap.size 84 (bagL (.slice none 0 0)) := Blk.new w _ _
  have hg0 := World.grownBy_alloc w (.cells (bagL (.slice none 0 0)).toArray 84) none
  have H1 := Lib.hid (And.intro hb0 hg0); clear hb0 hg0
  generalize hB : w.heap.size = B at H1
  have HB := Lib.hid hB
  go_wp2_with fail
  go_loopw [4] (fun i wr => ∃ (k : Nat) (v : Value), k ≤ m ∧ i = .int .i64 k ∧ wr.ownsRow B 22 1 v k ((List.range k).map V.v) ∧ Blk wr B 84 (bagL v) ∧ w.grownBy wr none) (fun i _ => m - (intOf i).toNat)
  case atStart => exact ⟨0, .slice none 0 0, by omega, rfl, World.ownsRow_nil _ _ _ 1, H1.out.1, H1.out.2⟩
  case round =>
    clear H1 hB
    obtain ⟨k, v, hk, rfl, ho, hb, hg⟩ := hrel
    by_cases hlt : k < m
    · have i1 : (k : Int) < (m : Int) := by omega
      have kc : wr.cell? ⟨L0, k, none⟩ = some (.slice (V.A k) (V.n k) (V.C k)) := (H.out.2.2.grown hg (by simp)).cell hlt
      have hput := put_bytes wr B B k (V.n k) (V.C k) 84 (by decide) v (V.A k) _ ho hb (by omega) (by have := hg.size; have := HB.out; omega)
      have HI := Lib.hid (And.intro hput (And.intro hg ho)); clear hput hg ho hb
      go_wp2_with fail
      refine HI.out.1.mono ?_
      rintro e w5 ⟨⟨r, rfl⟩, v', ho', hb', hK⟩
      have hg' : w.grownBy w5 none := gb_kb HI.out.2.1 hK (fun i hi => by
        have e0 := HB.out
        rcases hi with rfl | hi
        · omega
        · rcases HI.out.2.2.2 with ⟨h0, _⟩ | ⟨g, c, cur, e1, hbg, _⟩
          · rw [h0] at hi; cases hi
          · rw [e1] at hi; have e2 : g = i := by simpa [Value.ownBlock] using hi
            omega)
      rw [show (List.range k).map V.v ++ [Value.slice (V.A k) (V.n k) (V.C k)] = (List.range (k + 1)).map V.v by rw [List.range_succ, List.map_append]; rfl] at ho'
      have HJ := Lib.hid (And.intro ho' (And.intro hb' hg')); clear ho' hb' hg' hK HI
      go_wp2_with fail
      go_roundw
      case rel => exact ⟨k + 1, v', hlt, by go_num, HJ.out⟩
      case measure => simp [intOf]; omega
    · obtain rfl : k = m := by omega
      obtain ⟨g, c, rfl, hbg, hnc, hcm, hlt2⟩ := own_some ho hm0
      have hc63 : c < 9223372036854775808 := by unfold maxLen at hcm; omega
      have hL : ListAt wr g V k := by
        rcases ho.2 with ⟨h0, _⟩ | ⟨g', c', cur, e1, _, hgb, _, _, _, ht⟩
        · cases h0
        · cases e1
          refine ⟨cur.toList.drop (k * 1), ?_⟩
          unfold Blk
          rw [hgb, ← ht, List.take_append_drop, Array.toArray_toList]
      have hV := H.out.1
      have hVg : V.Apart k g wr.heap.size := ⟨hV.apart, fun j hj e => by have := hV.old j hj _ e; have := HB.out; omega, fun j hj i e => Nat.lt_of_lt_of_le (hV.old j hj i e) hg.size, hV.small⟩
      have hap := apart_bytes HF.out V k g c B xs wr hm hnc hc63 hVg (H.out.2.1.stay hg) hL ⟨hb.lt, fun i hi h5 => hb.cell (bagL_nil _ i hi h5), hb.cell (bagL_five _)⟩ (fun j hj e => by have := hV.old j hj _ e; have := HB.out; omega)
      have HI := Lib.hid (And.intro hap hg); clear hap hg hb ho hL hVg hV
      go_wp2_with fail
      refine HI.out.1.mono ?_
      rintro e w5 ⟨rfl, hF⟩
      have HJ := Lib.hid (hF.from HI.out.2); clear hF
      go_wp2
      go_ret
      exact ⟨rfl, HJ.out.own, HJ.out.kept⟩
end Go.Proofs.YtcmnecnbcohaeaaGreatDoor

/- A row of one's own, from an elder bound on. -/
namespace Go.Proofs.YtcmnecnbcohaeaaGreatDoor
open Go.RowKit Ow
theorem own_down {w : World} {base b' e n : Nat} {v : Value} {xs : List Value} (h : w.ownsRow base e 1 v n xs) (hb : b' ≤ base) : w.ownsRow b' e 1 v n xs := by
  refine ⟨h.1, ?_⟩
  rcases h.2 with h0 | ⟨g', c', cur, e1, hg, rest⟩
  · exact Or.inl h0
  · exact Or.inr ⟨g', c', cur, e1, Nat.le_trans hb hg, rest⟩
/-- what is written to a row of one's own is new, seen from an elder world -/
theorem own_gb {w a b : World} {e n : Nat} {v : Value} {xs : List Value} (hg : w.grownBy a none) (ho : a.ownsRow w.heap.size e 1 v n xs) (h : a.grownBy b v.ownBlock) : w.grownBy b none := by
  rcases ho.2 with ⟨rfl, _⟩ | ⟨g', c', cur, rfl, hb, _⟩
  · exact gb_trans hg h
  · exact gb_then hg h hb
end Go.Proofs.YtcmnecnbcohaeaaGreatDoor

/- ApartBytes of two rows of one's own. -/
namespace Go.Proofs.YtcmnecnbcohaeaaGreatDoor
open Go.RowKit Ow
namespace Ow
def V2 (a1 a2 : Option Addr) (n1 n2 c1 c2 : Nat) : Lists := ⟨fun j => if j = 0 then a1 else a2, fun j => if j = 0 then n1 else n2, fun j => if j = 0 then c1 else c2⟩
theorem row_shape2 {w : World} {base e n : Nat} {v : Value} {xs : List Value} (h : w.ownsRow base e 1 v n xs) : ∃ a c, v = .slice a n c := by
  rcases own_shape h with ⟨rfl, h0⟩ | ⟨g, c, rfl⟩
  · exact ⟨none, 0, by rw [h0]⟩
  · exact ⟨_, _, rfl⟩
theorem two {P : Nat → Prop} (h0 : P 0) (h1 : P 1) : ∀ j, j < 2 → P j := fun j hj => by
  rcases (by omega : j = 0 ∨ j = 1) with rfl | rfl <;> assumption
theorem apart2 {f : Nat → Nat → Nat} (hf : Marks f) (w0 w : World) (v1 v2 : Value) (b n1 n2 : Nat) (x1 x2 : List Value) (hb : w0.heap.size ≤ b) (hg : w0.grownBy w none)
    (h1 : w.ownsRow b 5 1 v1 n1 x1) (h2 : w.ownsRow b 5 1 v2 n2 x2) (d12 : v1.ownBlock = none ∨ v1.ownBlock ≠ v2.ownBlock) (hs : n1 ≤ 100000 ∧ n2 ≤ 100000) :
    Calls Tryz.prog 13 #[.slice (some ⟨w.heap.size, 0, none⟩) 2 2] (w.alloc (.cells #[v1, v2] 22)) fun e w' => e = .returned (.bool true) ∧ w0.grownBy w' none := by
  obtain ⟨a1, c1, rfl⟩ := row_shape2 h1
  obtain ⟨a2, c2, rfl⟩ := row_shape2 h2
  have l1 := h1.lt
  have l2 := h2.lt
  have hgA : w.grownBy (w.alloc (.cells #[.slice a1 n1 c1, .slice a2 n2 c2] 22)) none := gb_alloc (gb_refl _ _) _
  have hB : Blk (w.alloc (.cells #[.slice a1 n1 c1, .slice a2 n2 c2] 22)) w.heap.size 22 [.slice a1 n1 c1, .slice a2 n2 c2] := Blk.new _ _ _
  have k1 := own_kept h1 hgA
  have k2 := own_kept h2 hgA
  generalize w.alloc (.cells #[.slice a1 n1 c1, .slice a2 n2 c2] 22) = W at *
  have e1 : ∀ (a : Option Addr) (n c : Nat), (Value.slice a n c).ownBlock = a.map (·.block) := fun a n c => by unfold Value.ownBlock; cases a <;> rfl
  rw [e1] at l1 l2
  simp only [e1] at d12
  have hsz := hgA.size
  have hV : (V2 a1 a2 n1 n2 c1 c2).Apart 2 w.heap.size W.heap.size := by
    refine ⟨?_, two ?_ ?_, two ?_ ?_, two hs.1 hs.2⟩
    · intro j k hj hk hne
      rcases (by omega : j = 0 ∨ j = 1) with rfl | rfl
      all_goals rcases (by omega : k = 0 ∨ k = 1) with rfl | rfl
      · exact absurd rfl hne
      · exact d12
      · exact (Classical.em ((V2 a1 a2 n1 n2 c1 c2).g 1 = none)).elim Or.inl fun hn => Or.inr fun e => d12.elim (fun h => hn (e.trans h)) (fun h => h e.symm)
      · exact absurd rfl hne
    · exact fun e => by have := (l1 _ e).2; omega
    · exact fun e => by have := (l2 _ e).2; omega
    · exact fun i e => by have := (l1 _ e).2; omega
    · exact fun i e => by have := (l2 _ e).2; omega
  have hO : Owns W (V2 a1 a2 n1 n2 c1 c2) 2 (fun j => if j = 0 then x1 else x2) := two (OwnT.of (own_down k1 (Nat.zero_le _))) (OwnT.of (own_down k2 (Nat.zero_le _)))
  have hL : ListAt W w.heap.size (V2 a1 a2 n1 n2 c1 c2) 2 := ⟨[], hB⟩
  refine (apartB_any hf _ 2 w.heap.size 2 _ W (by omega) (by omega) (by omega) (by omega) hV hO hL).mono ?_
  rintro e w' ⟨rfl, _, hk⟩
  have hgW := gb_trans hg hgA
  refine ⟨rfl, hk.os.trans hgW.os, hk.tape.trans hgW.tape, hk.output.trans hgW.output, Nat.le_trans hgW.size hk.size, fun i hi hr => (hk.block i (Nat.lt_of_lt_of_le hi hgW.size) ?_).trans (hgW.block i hi hr)⟩
  rintro ⟨j, hj, e⟩
  revert e
  exact two (P := fun j => (V2 a1 a2 n1 n2 c1 c2).g j = some i → False) (fun e => by have := (l1 _ e).1; omega) (fun e => by have := (l2 _ e).1; omega) j hj
end Ow
end Go.Proofs.YtcmnecnbcohaeaaGreatDoor

/- ApartBytes of two rows, each whole in a block of its own, of whatever type. -/
namespace Go.Proofs.YtcmnecnbcohaeaaGreatDoor
open Go.RowKit Ow
namespace Ow
theorem blk_ownT {w : World} {g n : Nat} {T : TypeId} {L : List Value} (h : Blk w g T L) (hn : L.length = n) (hm : n ≤ 100000) : OwnT w (.slice (some ⟨g, 0, none⟩) n n) n L :=
  ⟨T, ⟨by omega, Or.inr ⟨g, n, L.toArray, rfl, Nat.zero_le _, h, Nat.le_refl _, by unfold maxLen; omega, by simp [hn], by simp [← hn]⟩⟩, Or.inr ⟨g, rfl⟩⟩
theorem apart2T {f : Nat → Nat → Nat} (hf : Marks f) (w0 w : World) (g1 g2 L0 n1 n2 : Nat) (T1 T2 : TypeId) (x1 x2 : List Value) (hg : w0.grownBy w none) (hL : Blk w L0 22 [.slice (some ⟨g1, 0, none⟩) n1 n1, .slice (some ⟨g2, 0, none⟩) n2 n2])
    (h1 : Blk w g1 T1 x1) (h2 : Blk w g2 T2 x2) (l1 : x1.length = n1) (l2 : x2.length = n2) (d12 : g1 ≠ g2) (dL1 : g1 ≠ L0) (dL2 : g2 ≠ L0) (hs : n1 ≤ 100000 ∧ n2 ≤ 100000) (b1 : w0.heap.size ≤ g1) (b2 : w0.heap.size ≤ g2) :
    Calls Tryz.prog 13 #[.slice (some ⟨L0, 0, none⟩) 2 2] w fun e w' => e = .returned (.bool true) ∧ w0.grownBy w' none := by
  have z1 := h1.lt
  have z2 := h2.lt
  have hV : (V2 (some ⟨g1, 0, none⟩) (some ⟨g2, 0, none⟩) n1 n2 n1 n2).Apart 2 L0 w.heap.size := by
    refine ⟨?_, two ?_ ?_, two ?_ ?_, two hs.1 hs.2⟩
    · intro j k hj hk hne
      rcases (by omega : j = 0 ∨ j = 1) with rfl | rfl
      all_goals rcases (by omega : k = 0 ∨ k = 1) with rfl | rfl
      · exact absurd rfl hne
      · exact Or.inr fun e => d12 (Option.some.inj e)
      · exact Or.inr fun e => d12 (Option.some.inj e).symm
      · exact absurd rfl hne
    · exact fun e => dL1 (Option.some.inj e)
    · exact fun e => dL2 (Option.some.inj e)
    · exact fun i e => by have h : g1 = i := Option.some.inj e; omega
    · exact fun i e => by have h : g2 = i := Option.some.inj e; omega
  have hO : Owns w (V2 (some ⟨g1, 0, none⟩) (some ⟨g2, 0, none⟩) n1 n2 n1 n2) 2 (fun j => if j = 0 then x1 else x2) := two (blk_ownT h1 l1 hs.1) (blk_ownT h2 l2 hs.2)
  have hLs : ListAt w L0 (V2 (some ⟨g1, 0, none⟩) (some ⟨g2, 0, none⟩) n1 n2 n1 n2) 2 := ⟨[], hL⟩
  refine (apartB_any hf _ 2 L0 2 _ w (by omega) (by omega) (by omega) (by omega) hV hO hLs).mono ?_
  rintro e w' ⟨rfl, _, hk⟩
  refine ⟨rfl, hk.os.trans hg.os, hk.tape.trans hg.tape, hk.output.trans hg.output, Nat.le_trans hg.size hk.size, fun i hi hr => (hk.block i (Nat.lt_of_lt_of_le hi hg.size) ?_).trans (hg.block i hi hr)⟩
  rintro ⟨j, hj, e⟩
  revert e
  exact two (P := fun j => (V2 (some ⟨g1, 0, none⟩) (some ⟨g2, 0, none⟩) n1 n2 n1 n2).g j = some i → False) (fun e => by have := Option.some.inj e; have : g1 = i := this; omega) (fun e => by have := Option.some.inj e; have : g2 = i := this; omega) j hj
end Ow
end Go.Proofs.YtcmnecnbcohaeaaGreatDoor

/- The kit's KeptBytes: lent bytes, and the marks behind them, are as they were. -/
namespace Go.Proofs.YtcmnecnbcohaeaaGreatDoor
open Go.RowKit Ow

set_option maxRecDepth 100000 in
set_option maxHeartbeats 4000000 in
theorem keptB_any {f : Nat → Nat → Nat} (hf : Marks f) (n cap B g : Nat) (p : List Nat) (a : Option Addr) (w : World) (hn : p.length = n) (hP : BytesAt w B a cap p) (hlen : n ≤ 30000) (hG : Blk w g 5 ((p ++ marksOf f 1 12).map u8N)) :
    Calls Tryz.prog 9 #[.slice (some ⟨g, 0, none⟩) n (n + 12), .slice a n cap] w fun e w' => e = .returned (.bool true) ∧ w.grownBy w' none := by
  have hnc := hP.fits
  rw [hn] at hnc
  have hcap := hP.top
  have HF := Lib.hid hf; clear hf
  have hgb : BytesAt w w.heap.size (some ⟨g, 0, none⟩) (n + 12) (p ++ marksOf f 1 12) := by
    refine blk_bytes (n := n + 12) (tl := []) (by rw [List.append_nil]; exact hG) (by rw [List.length_append, marksOf_length, hn]) (Nat.le_refl _) (by omega) (fun i => ?_) hG.lt (Nat.le_refl _)
    rw [List.getD_eq_getElem?_getD]
    rcases Nat.lt_or_ge i p.length with h | h
    · rw [List.getElem?_append_left h, ← List.getD_eq_getElem?_getD]; exact hP.byte i
    · rw [List.getElem?_append_right h, ← List.getD_eq_getElem?_getD]; exact marksOf_lt HF.out _ _ _
  have HP := Lib.hid (And.intro hn (And.intro hP (And.intro hG hgb))); clear hn hP hG hgb
  go_enter Tryz.func9, Tryz.ntmps9
  go_wp2
  go_loopw [6] (fun i wr => ∃ k : Nat, k ≤ n + 12 ∧ i = .int .i64 k ∧ w.grownBy wr none) (fun i _ => n + 12 - (intOf i).toNat)
  case atStart => exact ⟨0, by omega, rfl, gb_refl _ _⟩
  case round =>
    obtain ⟨k, hk, rfl, hg⟩ := hrel
    by_cases hlt : k < n + 12
    · by_cases hkn : k < n
      · obtain ⟨pb, po, rfl, hpb, hc⟩ := HP.out.2.1.cells.resolve_left (by have := HP.out.1; omega)
        have kc : wr.cell? ⟨pb, po + k, none⟩ = some (u8N (p.getD k 0)) := by rw [gb_cell hg (p := ⟨pb, po + k, none⟩) (Nat.lt_of_lt_of_le hpb HP.out.2.1.lim) (by simp)]; exact hc k (by have := HP.out.1; omega)
        have kg : wr.cell? ⟨g, k, none⟩ = some (u8N (p.getD k 0)) := by
          apply (HP.out.2.2.1.grown hg (by simp)).cell
          rw [List.map_append, List.getElem?_append_left (by rw [List.length_map]; have := HP.out.1; omega)]
          exact u8_getD (by have := HP.out.1; omega)
        unfold u8N at kg kc
        clear hc
        generalize p.getD k 0 = x at *
        have HG := Lib.hid hg; clear hg
        have i0 : (k : Int) < (n : Int) := by omega
        have i1 : (k : Int) < (n : Int) + 12 := by omega
        have i2 : decide (n ≤ k) = false := by simp; omega
        go_wp2_with fail
        go_quiet (fail)
        go_wp2
        go_roundw
        case rel => exact ⟨k + 1, by omega, by go_num, gb_drewN HG.out _⟩
        case measure => simp [intOf]; omega
      · obtain ⟨t, ht⟩ : ∃ t, k = n + t := ⟨k - n, by omega⟩
        have t12 : t < 12 := by omega
        obtain ⟨y, hy⟩ : ∃ y, y = f 1 t := ⟨_, rfl⟩
        have hck : ((p ++ marksOf f 1 12).map u8N)[k]? = some (.int .u8 (y : Int)) := by
          rw [List.map_append, List.getElem?_append_right (by rw [List.length_map]; have := HP.out.1; omega), List.length_map, HP.out.1, show k - n = t by omega]
          have h := u8_getD (l := marksOf f 1 12) (i := t) (by rw [marksOf_length]; exact t12)
          rw [marksOf_get f 1 12 t t12, ← hy] at h
          exact h
        have hmb := fun W => (HF.out.run 1 t 1 t W rfl rfl (by decide) (by omega)).mono (fun e w' h => (And.intro h.1 (by rw [h.2]; exact gb_refl _ _) : _ ∧ W.grownBy w' none))
        rw [← hy] at hmb
        have HMB := Lib.hid hmb; clear hmb
        have HCK := Lib.hid hck; clear hck
        have HPB := Lib.hid (HP.out.2.1.stay hg)
        have HGB := Lib.hid (HP.out.2.2.2.stay hg)
        have HGW := Lib.hid (HP.out.2.2.1.grown hg (by simp))
        have HG := Lib.hid hg; clear hg
        have e1 : IntKind.i64.wrap ((k : Int) - (n : Int)) = (t : Int) := by rw [IntKind.wrap_i64]; omega
        have e2 : (k : Int) - (n : Int) = (t : Int) := by omega
        have e3 : IntKind.i64.wrap (t : Int) = (t : Int) := by rw [IntKind.wrap_i64]; omega
        have HTY := Lib.hid (And.intro ht hy); clear ht hy
        have i0 : ¬ (k : Int) < (n : Int) := by omega
        have i3 : (n : Int) ≤ (k : Int) := by omega
        have i1 : (k : Int) < (n : Int) + 12 := by omega
        go_wp2_with fail
        refine wp_region_flow3 (Fg.its [.any, .any, .any, .any, .any, .any, .any, .any, .any, .any, .any, .any, .any, .any, .any, .any, .any, .any, .any, .any, .any, .any, .any, .val (.int .i64 (k : Int)), .val (.slice a n cap), .val (.int .i64 n), .val (.bool false), .val (.bool false), .val undef, .val undef, .val undef, .val undef, .val undef, .val undef, .val undef, .val undef, .val undef, .val undef, .val (.bool false), .val (.bool false), .val (.int .i64 (k : Int)), .val (.slice a n cap), .val (.int .i64 n), .val (.bool true), .val (.bool true), .val (.slice (some ⟨g, 0, none⟩) (n + 12) (n + 12)), .val (.int .i64 (k : Int)), .val (.pointer (some ⟨g, k, none⟩)), .val (.int .u8 (y : Int)), .val (.int .i64 (k : Int)), .val (.slice a n cap), .val (.int .i64 n), .val (.int .i64 (t : Int)), .val (.int .u8 (y : Int)), .val (.bool true), .val (.bool false), .val (.bool false), .val (.bool false)]) (fun _ => 0) (fun _ _ _ => True) (fun w => World.grownBy wr w none) [] (by kernel_rfl) (by kernel_rfl) (by kernel_rfl) (gb_drew (gb_refl _ _)) (Fg.ptrs_nil _ _) (Fg.no_store (by kernel_rfl)) ?_ ?_
        · refine ⟨Fg.value rfl fun ac w h => ?_, ?_⟩
          · have e6 : ac.tmps.getD 6 undef = .int .i64 (k : Int) := h.rest 6 (by kernel_rfl)
            refine ⟨wants_none rfl, .int .i64 (k : Int), w, ?_, gb_refl _ _, rfl⟩
            clear h
            simp only [execOp, Act.eval, e6]
            go_simp
          refine ⟨Fg.value rfl fun ac w h => ?_, ?_⟩
          · have e1 : ac.tmps.getD 1 undef = .slice a n cap := h.rest 1 (by kernel_rfl)
            have b1 := (HPB.out).stay h.base
            exact ⟨wants_none rfl, _, w, by simp only [execOp, Act.eval, e1]; rfl, gb_refl _ _, rfl⟩
          refine ⟨Fg.value rfl fun ac w h => ?_, ?_⟩
          · have e24 : ac.tmps.getD 24 undef = .slice a n cap := h.dep 24 (by kernel_rfl)
            have b24 := (HPB.out).stay h.base
            have x24 : ac.tmps[24]?.getD undef = .slice a n cap := by simpa using e24
            refine ⟨wants_none rfl, .int .i64 n, w, ?_, gb_refl _ _, rfl⟩
            clear h e24
            go_simp
          refine ⟨Fg.value rfl fun ac w h => ?_, ?_⟩
          · have e23 : ac.tmps.getD 23 undef = .int .i64 (k : Int) := h.dep 23 (by kernel_rfl)
            have e25 : ac.tmps.getD 25 undef = .int .i64 n := h.dep 25 (by kernel_rfl)
            refine ⟨wants_none rfl, .bool false, w, ?_, gb_refl _ _, rfl⟩
            clear h
            simp only [execOp, Act.eval, e23, e25]
            go_simp
          refine ⟨Fg.value rfl fun ac w h => ?_, ?_⟩
          · have e26 : ac.tmps.getD 26 undef = .bool false := h.dep 26 (by kernel_rfl)
            refine ⟨wants_none rfl, .bool false, w, ?_, gb_refl _ _, rfl⟩
            clear h
            simp only [execOp, Act.eval, e26]
            go_simp
          refine ⟨Fg.skipped rfl (fun _ => rfl) fun ac w h => ?_, ?_⟩
          · have e27 : ac.tmps.getD 27 undef = .bool false := h.dep 27 (by kernel_rfl)
            exact not_wants (d := 27) rfl rfl (by rw [h.size]; show 27 < 58; decide) e27 (by decide)
          refine ⟨Fg.skipped rfl (fun _ => rfl) fun ac w h => ?_, ?_⟩
          · have e27 : ac.tmps.getD 27 undef = .bool false := h.dep 27 (by kernel_rfl)
            exact not_wants (d := 27) rfl rfl (by rw [h.size]; show 27 < 58; decide) e27 (by decide)
          refine ⟨Fg.skipped rfl (fun _ => rfl) fun ac w h => ?_, ?_⟩
          · have e27 : ac.tmps.getD 27 undef = .bool false := h.dep 27 (by kernel_rfl)
            exact not_wants (d := 27) rfl rfl (by rw [h.size]; show 27 < 58; decide) e27 (by decide)
          refine ⟨Fg.skipped rfl (fun _ => rfl) fun ac w h => ?_, ?_⟩
          · have e27 : ac.tmps.getD 27 undef = .bool false := h.dep 27 (by kernel_rfl)
            exact not_wants (d := 27) rfl rfl (by rw [h.size]; show 27 < 58; decide) e27 (by decide)
          refine ⟨Fg.skipped rfl (fun _ => rfl) fun ac w h => ?_, ?_⟩
          · have e27 : ac.tmps.getD 27 undef = .bool false := h.dep 27 (by kernel_rfl)
            exact not_wants (d := 27) rfl rfl (by rw [h.size]; show 27 < 58; decide) e27 (by decide)
          refine ⟨Fg.skipped rfl (fun _ => rfl) fun ac w h => ?_, ?_⟩
          · have e27 : ac.tmps.getD 27 undef = .bool false := h.dep 27 (by kernel_rfl)
            exact not_wants (d := 27) rfl rfl (by rw [h.size]; show 27 < 58; decide) e27 (by decide)
          refine ⟨Fg.skipped rfl (fun _ => rfl) fun ac w h => ?_, ?_⟩
          · have e27 : ac.tmps.getD 27 undef = .bool false := h.dep 27 (by kernel_rfl)
            exact not_wants (d := 27) rfl rfl (by rw [h.size]; show 27 < 58; decide) e27 (by decide)
          refine ⟨Fg.skipped rfl (fun _ => rfl) fun ac w h => ?_, ?_⟩
          · have e27 : ac.tmps.getD 27 undef = .bool false := h.dep 27 (by kernel_rfl)
            exact not_wants (d := 27) rfl rfl (by rw [h.size]; show 27 < 58; decide) e27 (by decide)
          refine ⟨Fg.skipped rfl (fun _ => rfl) fun ac w h => ?_, ?_⟩
          · have e27 : ac.tmps.getD 27 undef = .bool false := h.dep 27 (by kernel_rfl)
            exact not_wants (d := 27) rfl rfl (by rw [h.size]; show 27 < 58; decide) e27 (by decide)
          refine ⟨Fg.skipped rfl (fun _ => rfl) fun ac w h => ?_, ?_⟩
          · have e27 : ac.tmps.getD 27 undef = .bool false := h.dep 27 (by kernel_rfl)
            exact not_wants (d := 27) rfl rfl (by rw [h.size]; show 27 < 58; decide) e27 (by decide)
          refine ⟨Fg.value rfl fun ac w h => ?_, ?_⟩
          · have e27 : ac.tmps.getD 27 undef = .bool false := h.dep 27 (by kernel_rfl)
            refine ⟨wants_none rfl, .bool false, w, ?_, gb_refl _ _, rfl⟩
            clear h
            simp only [execOp, Act.eval, e27]
            go_simp
          refine ⟨Fg.value rfl fun ac w h => ?_, ?_⟩
          · have e38 : ac.tmps.getD 38 undef = .bool false := h.dep 38 (by kernel_rfl)
            refine ⟨wants_none rfl, .bool false, w, ?_, gb_refl _ _, rfl⟩
            clear h
            simp only [execOp, Act.eval, e38]
            go_simp
          refine ⟨Fg.value rfl fun ac w h => ?_, ?_⟩
          · have e39 : ac.tmps.getD 39 undef = .bool false := h.dep 39 (by kernel_rfl)
            have e6 : ac.tmps.getD 6 undef = .int .i64 (k : Int) := h.rest 6 (by kernel_rfl)
            refine ⟨wants_some (d := 39) rfl rfl (by rw [h.size]; show 39 < 58; decide) e39, .int .i64 (k : Int), w, ?_, gb_refl _ _, rfl⟩
            clear h
            simp only [execOp, Act.eval, e6]
            go_simp
          refine ⟨Fg.value rfl fun ac w h => ?_, ?_⟩
          · have e39 : ac.tmps.getD 39 undef = .bool false := h.dep 39 (by kernel_rfl)
            have e1 : ac.tmps.getD 1 undef = .slice a n cap := h.rest 1 (by kernel_rfl)
            have b1 := (HPB.out).stay h.base
            exact ⟨wants_some (d := 39) rfl rfl (by rw [h.size]; show 39 < 58; decide) e39, _, w, by simp only [execOp, Act.eval, e1]; rfl, gb_refl _ _, rfl⟩
          refine ⟨Fg.value rfl fun ac w h => ?_, ?_⟩
          · have e39 : ac.tmps.getD 39 undef = .bool false := h.dep 39 (by kernel_rfl)
            have e41 : ac.tmps.getD 41 undef = .slice a n cap := h.dep 41 (by kernel_rfl)
            have b41 := (HPB.out).stay h.base
            have x41 : ac.tmps[41]?.getD undef = .slice a n cap := by simpa using e41
            refine ⟨wants_some (d := 39) rfl rfl (by rw [h.size]; show 39 < 58; decide) e39, .int .i64 n, w, ?_, gb_refl _ _, rfl⟩
            clear h e41
            go_simp
          refine ⟨Fg.value rfl fun ac w h => ?_, ?_⟩
          · have e39 : ac.tmps.getD 39 undef = .bool false := h.dep 39 (by kernel_rfl)
            have e40 : ac.tmps.getD 40 undef = .int .i64 (k : Int) := h.dep 40 (by kernel_rfl)
            have e42 : ac.tmps.getD 42 undef = .int .i64 n := h.dep 42 (by kernel_rfl)
            refine ⟨wants_some (d := 39) rfl rfl (by rw [h.size]; show 39 < 58; decide) e39, .bool true, w, ?_, gb_refl _ _, rfl⟩
            clear h
            simp only [execOp, Act.eval, e40, e42]
            go_simp
          refine ⟨Fg.value rfl fun ac w h => ?_, ?_⟩
          · have e39 : ac.tmps.getD 39 undef = .bool false := h.dep 39 (by kernel_rfl)
            have e43 : ac.tmps.getD 43 undef = .bool true := h.dep 43 (by kernel_rfl)
            refine ⟨wants_some (d := 39) rfl rfl (by rw [h.size]; show 39 < 58; decide) e39, .bool true, w, ?_, gb_refl _ _, rfl⟩
            clear h
            simp only [execOp, Act.eval, e43]
            go_simp
          refine ⟨Fg.value rfl fun ac w h => ?_, ?_⟩
          · have e44 : ac.tmps.getD 44 undef = .bool true := h.dep 44 (by kernel_rfl)
            have e5 : ac.tmps.getD 5 undef = .slice (some ⟨g, 0, none⟩) (n + 12) (n + 12) := h.rest 5 (by kernel_rfl)
            have b5 := (HGB.out).stay h.base
            exact ⟨wants_some (d := 44) rfl rfl (by rw [h.size]; show 44 < 58; decide) e44, _, w, by simp only [execOp, Act.eval, e5]; rfl, gb_refl _ _, rfl⟩
          refine ⟨Fg.value rfl fun ac w h => ?_, ?_⟩
          · have e44 : ac.tmps.getD 44 undef = .bool true := h.dep 44 (by kernel_rfl)
            have e6 : ac.tmps.getD 6 undef = .int .i64 (k : Int) := h.rest 6 (by kernel_rfl)
            refine ⟨wants_some (d := 44) rfl rfl (by rw [h.size]; show 44 < 58; decide) e44, .int .i64 (k : Int), w, ?_, gb_refl _ _, rfl⟩
            clear h
            simp only [execOp, Act.eval, e6]
            go_simp
          refine ⟨Fg.value rfl fun ac w h => ?_, ?_⟩
          · have e44 : ac.tmps.getD 44 undef = .bool true := h.dep 44 (by kernel_rfl)
            have e45 : ac.tmps.getD 45 undef = .slice (some ⟨g, 0, none⟩) (n + 12) (n + 12) := h.dep 45 (by kernel_rfl)
            have b45 := (HGB.out).stay h.base
            have e46 : ac.tmps.getD 46 undef = .int .i64 (k : Int) := h.dep 46 (by kernel_rfl)
            refine ⟨wants_some (d := 44) rfl rfl (by rw [h.size]; show 44 < 58; decide) e44, .pointer (some ⟨g, k, none⟩), w, ?_, gb_refl _ _, rfl⟩
            clear h
            simp only [execOp, Act.eval, e45, e46]
            go_simp
          refine ⟨Fg.value rfl fun ac w h => ?_, ?_⟩
          · have e44 : ac.tmps.getD 44 undef = .bool true := h.dep 44 (by kernel_rfl)
            have e47 : ac.tmps.getD 47 undef = .pointer (some ⟨g, k, none⟩) := h.dep 47 (by kernel_rfl)
            have c := (HGW.out.grown h.base (by simp)).cell HCK.out
            refine ⟨wants_some (d := 44) rfl rfl (by rw [h.size]; show 44 < 58; decide) e44, .int .u8 (y : Int), w, ?_, gb_refl _ _, rfl⟩
            clear h
            simp only [execOp, Act.eval, e47]
            go_simp
          refine ⟨Fg.value rfl fun ac w h => ?_, ?_⟩
          · have e44 : ac.tmps.getD 44 undef = .bool true := h.dep 44 (by kernel_rfl)
            have e6 : ac.tmps.getD 6 undef = .int .i64 (k : Int) := h.rest 6 (by kernel_rfl)
            refine ⟨wants_some (d := 44) rfl rfl (by rw [h.size]; show 44 < 58; decide) e44, .int .i64 (k : Int), w, ?_, gb_refl _ _, rfl⟩
            clear h
            simp only [execOp, Act.eval, e6]
            go_simp
          refine ⟨Fg.value rfl fun ac w h => ?_, ?_⟩
          · have e44 : ac.tmps.getD 44 undef = .bool true := h.dep 44 (by kernel_rfl)
            have e1 : ac.tmps.getD 1 undef = .slice a n cap := h.rest 1 (by kernel_rfl)
            have b1 := (HPB.out).stay h.base
            exact ⟨wants_some (d := 44) rfl rfl (by rw [h.size]; show 44 < 58; decide) e44, _, w, by simp only [execOp, Act.eval, e1]; rfl, gb_refl _ _, rfl⟩
          refine ⟨Fg.value rfl fun ac w h => ?_, ?_⟩
          · have e44 : ac.tmps.getD 44 undef = .bool true := h.dep 44 (by kernel_rfl)
            have e50 : ac.tmps.getD 50 undef = .slice a n cap := h.dep 50 (by kernel_rfl)
            have b50 := (HPB.out).stay h.base
            have x50 : ac.tmps[50]?.getD undef = .slice a n cap := by simpa using e50
            refine ⟨wants_some (d := 44) rfl rfl (by rw [h.size]; show 44 < 58; decide) e44, .int .i64 n, w, ?_, gb_refl _ _, rfl⟩
            clear h e50
            go_simp
          refine ⟨Fg.value rfl fun ac w h => ?_, ?_⟩
          · have e44 : ac.tmps.getD 44 undef = .bool true := h.dep 44 (by kernel_rfl)
            have e49 : ac.tmps.getD 49 undef = .int .i64 (k : Int) := h.dep 49 (by kernel_rfl)
            have e51 : ac.tmps.getD 51 undef = .int .i64 n := h.dep 51 (by kernel_rfl)
            refine ⟨wants_some (d := 44) rfl rfl (by rw [h.size]; show 44 < 58; decide) e44, .int .i64 (t : Int), w, ?_, gb_refl _ _, rfl⟩
            clear h
            simp only [execOp, Act.eval, e49, e51]
            go_simp
          refine ⟨Fg.call rfl fun ac w h => ?_, ?_⟩
          · have e44 : ac.tmps.getD 44 undef = .bool true := h.dep 44 (by kernel_rfl)
            have e52 : ac.tmps.getD 52 undef = .int .i64 (t : Int) := h.dep 52 (by kernel_rfl)
            have x52 : ac.tmps[52]?.getD undef = .int .i64 (t : Int) := by simpa using e52
            have hb := h.base
            refine ⟨wants_some (d := 44) rfl rfl (by rw [h.size]; show 44 < 58; decide) e44, 24, #[.int .i64 1, .int .i64 (t : Int)], ?_, ?_⟩
            · clear h hb e52
              go_simp
            · refine (HMB.out w).mono ?_
              intro e w1 hp
              obtain ⟨rfl, hg⟩ := hp
              exact ⟨_, rfl, hg, rfl⟩
          refine ⟨Fg.value rfl fun ac w h => ?_, ?_⟩
          · have e44 : ac.tmps.getD 44 undef = .bool true := h.dep 44 (by kernel_rfl)
            have e48 : ac.tmps.getD 48 undef = .int .u8 (y : Int) := h.dep 48 (by kernel_rfl)
            have e53 : ac.tmps.getD 53 undef = .int .u8 (y : Int) := h.dep 53 (by kernel_rfl)
            refine ⟨wants_some (d := 44) rfl rfl (by rw [h.size]; show 44 < 58; decide) e44, .bool true, w, ?_, gb_refl _ _, rfl⟩
            clear h
            simp only [execOp, Act.eval, e48, e53]
            go_simp
          refine ⟨Fg.value rfl fun ac w h => ?_, ?_⟩
          · have e44 : ac.tmps.getD 44 undef = .bool true := h.dep 44 (by kernel_rfl)
            have e54 : ac.tmps.getD 54 undef = .bool true := h.dep 54 (by kernel_rfl)
            refine ⟨wants_some (d := 44) rfl rfl (by rw [h.size]; show 44 < 58; decide) e44, .bool false, w, ?_, gb_refl _ _, rfl⟩
            clear h
            simp only [execOp, Act.eval, e54]
            go_simp
          refine ⟨Fg.value rfl fun ac w h => ?_, ?_⟩
          · have e39 : ac.tmps.getD 39 undef = .bool false := h.dep 39 (by kernel_rfl)
            have e44 : ac.tmps.getD 44 undef = .bool true := h.dep 44 (by kernel_rfl)
            have e55 : ac.tmps.getD 55 undef = .bool false := h.dep 55 (by kernel_rfl)
            refine ⟨wants_some (d := 39) rfl rfl (by rw [h.size]; show 39 < 58; decide) e39, .bool false, w, ?_, gb_refl _ _, rfl⟩
            clear h
            simp only [execOp, Act.eval, e44, e55]
            go_simp
          refine ⟨Fg.value rfl fun ac w h => ?_, ?_⟩
          · have e39 : ac.tmps.getD 39 undef = .bool false := h.dep 39 (by kernel_rfl)
            have e56 : ac.tmps.getD 56 undef = .bool false := h.dep 56 (by kernel_rfl)
            refine ⟨wants_none rfl, .bool false, w, ?_, gb_refl _ _, rfl⟩
            clear h
            simp only [execOp, Act.eval, e39, e56]
            go_simp
          trivial
        · intro q wq hB hsz hdf hrest hslots _
          obtain ⟨u23, hs23⟩ : ∃ u, q.tmps.getD 23 undef = u := ⟨_, rfl⟩
          obtain ⟨u24, hs24⟩ : ∃ u, q.tmps.getD 24 undef = u := ⟨_, rfl⟩
          obtain ⟨u25, hs25⟩ : ∃ u, q.tmps.getD 25 undef = u := ⟨_, rfl⟩
          obtain ⟨u26, hs26⟩ : ∃ u, q.tmps.getD 26 undef = u := ⟨_, rfl⟩
          obtain ⟨u27, hs27⟩ : ∃ u, q.tmps.getD 27 undef = u := ⟨_, rfl⟩
          obtain ⟨u28, hs28⟩ : ∃ u, q.tmps.getD 28 undef = u := ⟨_, rfl⟩
          obtain ⟨u29, hs29⟩ : ∃ u, q.tmps.getD 29 undef = u := ⟨_, rfl⟩
          obtain ⟨u30, hs30⟩ : ∃ u, q.tmps.getD 30 undef = u := ⟨_, rfl⟩
          obtain ⟨u31, hs31⟩ : ∃ u, q.tmps.getD 31 undef = u := ⟨_, rfl⟩
          obtain ⟨u32, hs32⟩ : ∃ u, q.tmps.getD 32 undef = u := ⟨_, rfl⟩
          obtain ⟨u33, hs33⟩ : ∃ u, q.tmps.getD 33 undef = u := ⟨_, rfl⟩
          obtain ⟨u34, hs34⟩ : ∃ u, q.tmps.getD 34 undef = u := ⟨_, rfl⟩
          obtain ⟨u35, hs35⟩ : ∃ u, q.tmps.getD 35 undef = u := ⟨_, rfl⟩
          obtain ⟨u36, hs36⟩ : ∃ u, q.tmps.getD 36 undef = u := ⟨_, rfl⟩
          obtain ⟨u37, hs37⟩ : ∃ u, q.tmps.getD 37 undef = u := ⟨_, rfl⟩
          obtain ⟨u38, hs38⟩ : ∃ u, q.tmps.getD 38 undef = u := ⟨_, rfl⟩
          obtain ⟨u39, hs39⟩ : ∃ u, q.tmps.getD 39 undef = u := ⟨_, rfl⟩
          obtain ⟨u40, hs40⟩ : ∃ u, q.tmps.getD 40 undef = u := ⟨_, rfl⟩
          obtain ⟨u41, hs41⟩ : ∃ u, q.tmps.getD 41 undef = u := ⟨_, rfl⟩
          obtain ⟨u42, hs42⟩ : ∃ u, q.tmps.getD 42 undef = u := ⟨_, rfl⟩
          obtain ⟨u43, hs43⟩ : ∃ u, q.tmps.getD 43 undef = u := ⟨_, rfl⟩
          obtain ⟨u44, hs44⟩ : ∃ u, q.tmps.getD 44 undef = u := ⟨_, rfl⟩
          obtain ⟨u45, hs45⟩ : ∃ u, q.tmps.getD 45 undef = u := ⟨_, rfl⟩
          obtain ⟨u46, hs46⟩ : ∃ u, q.tmps.getD 46 undef = u := ⟨_, rfl⟩
          obtain ⟨u47, hs47⟩ : ∃ u, q.tmps.getD 47 undef = u := ⟨_, rfl⟩
          obtain ⟨u48, hs48⟩ : ∃ u, q.tmps.getD 48 undef = u := ⟨_, rfl⟩
          obtain ⟨u49, hs49⟩ : ∃ u, q.tmps.getD 49 undef = u := ⟨_, rfl⟩
          obtain ⟨u50, hs50⟩ : ∃ u, q.tmps.getD 50 undef = u := ⟨_, rfl⟩
          obtain ⟨u51, hs51⟩ : ∃ u, q.tmps.getD 51 undef = u := ⟨_, rfl⟩
          obtain ⟨u52, hs52⟩ : ∃ u, q.tmps.getD 52 undef = u := ⟨_, rfl⟩
          obtain ⟨u53, hs53⟩ : ∃ u, q.tmps.getD 53 undef = u := ⟨_, rfl⟩
          obtain ⟨u54, hs54⟩ : ∃ u, q.tmps.getD 54 undef = u := ⟨_, rfl⟩
          obtain ⟨u55, hs55⟩ : ∃ u, q.tmps.getD 55 undef = u := ⟨_, rfl⟩
          obtain ⟨u56, hs56⟩ : ∃ u, q.tmps.getD 56 undef = u := ⟨_, rfl⟩
          obtain rfl := Fg.frame_is (a := q) (vs := [Value.slice (some ⟨g, 0, none⟩) n (n + 12), Value.slice a n cap, undef, undef, u4, Value.slice (some ⟨g, 0, none⟩) (n + 12) (n + 12), Value.int .i64 (k : Int), Value.slice (some ⟨g, 0, none⟩) n (n + 12), Value.int .i64 (n : Int), Value.slice a n cap, Value.int .i64 (n : Int), Value.bool false, Value.slice (some ⟨g, 0, none⟩) n (n + 12), Value.slice a n cap, Value.int .i64 (n : Int), Value.int .i64 ((n : Int) + 12), Value.slice (some ⟨g, 0, none⟩) (n + 12) (n + 12), Value.int .i64 (k : Int), Value.slice (some ⟨g, 0, none⟩) (n + 12) (n + 12), Value.int .i64 ((n : Int) + 12), Value.bool true, u21, u22, u23, u24, u25, u26, u27, u28, u29, u30, u31, u32, u33, u34, u35, u36, u37, u38, u39, u40, u41, u42, u43, u44, u45, u46, u47, u48, u49, u50, u51, u52, u53, u54, u55, u56, Value.bool false]) hsz ⟨hrest 0 (by kernel_rfl), hrest 1 (by kernel_rfl), hrest 2 (by kernel_rfl), hrest 3 (by kernel_rfl), hrest 4 (by kernel_rfl), hrest 5 (by kernel_rfl), hrest 6 (by kernel_rfl), hrest 7 (by kernel_rfl), hrest 8 (by kernel_rfl), hrest 9 (by kernel_rfl), hrest 10 (by kernel_rfl), hrest 11 (by kernel_rfl), hrest 12 (by kernel_rfl), hrest 13 (by kernel_rfl), hrest 14 (by kernel_rfl), hrest 15 (by kernel_rfl), hrest 16 (by kernel_rfl), hrest 17 (by kernel_rfl), hrest 18 (by kernel_rfl), hrest 19 (by kernel_rfl), hrest 20 (by kernel_rfl), hrest 21 (by kernel_rfl), hrest 22 (by kernel_rfl), hs23, hs24, hs25, hs26, hs27, hs28, hs29, hs30, hs31, hs32, hs33, hs34, hs35, hs36, hs37, hs38, hs39, hs40, hs41, hs42, hs43, hs44, hs45, hs46, hs47, hs48, hs49, hs50, hs51, hs52, hs53, hs54, hs55, hs56, (show q.tmps.getD 57 undef = Value.bool false from hslots 57 (by kernel_rfl)), trivial⟩ hdf
          have HG2 := Lib.hid (gb_trans HG.out hB)
          clear hB hsz hdf hrest hslots hs23 hs24 hs25 hs26 hs27 hs28 hs29 hs30 hs31 hs32 hs33 hs34 hs35 hs36 hs37 hs38 hs39 hs40 hs41 hs42 hs43 hs44 hs45 hs46 hs47 hs48 hs49 hs50 hs51 hs52 hs53 hs54 hs55 hs56
          go_wp2
          go_roundw
          case rel => exact ⟨k + 1, by omega, by go_num, HG2.out⟩
          case measure => simp [intOf]; omega
    · obtain rfl : k = n + 12 := by omega
      have HG := Lib.hid hg; clear hg
      clear hlt
      go_wp2
      go_ret
      exact ⟨rfl, HG.out⟩
end Go.Proofs.YtcmnecnbcohaeaaGreatDoor
