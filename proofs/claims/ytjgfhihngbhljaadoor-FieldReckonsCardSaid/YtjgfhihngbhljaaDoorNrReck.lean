/- The law FieldReckons' walk. -/
import Derived.Test.YtjgfhihngbhljaaDoorNrLem
namespace Go.Proofs.YtjgfhihngbhljaaDoor
open Go.RowKit Ns Ow
theorem feOut_and {F : Fe} {w : World} {f : FuncId} {vs : Array Value} (h : Calls Tryd.prog f vs w (FeOut F w)) : Calls Tryd.prog f vs w fun e w' => e = .returned F.v ∧ w.grownBy w' none := h.mono fun _ _ h => feOut_is h
theorem ldE {ρ : Operand → Value} {o : Oper} {w : World} {x : Operand} {B : Nat} {a : Fe} (ho : o.op = .load 24 x) (hx : ρ x = .pointer (some ⟨B, 0, none⟩)) (h : Blk w B 24 (feL a)) : (execOp ρ o).run Tryd.prog w = .ok (.value a.v) w :=
  Fg.run_load ho hx (h.range 0 (feL a) rfl) Tryd.underlying24 rfl Nr.info_elem5
theorem c_put (r : Fe) (w : World) (h : r.Ok) : Calls Tryd.prog 6 #[r.v] w (YOut w (Nr.byL (num r.m))) := by
  rw [Nr.feN_v h]
  exact Nr.put_out r w h
theorem c_one (w : World) : Calls Tryd.prog 19 #[] w fun e w' => e = .returned Fe.oneF.v ∧ w.grownBy w' none := feOut_and (one_any w)
theorem one_rt : Fe.oneF.Right := by constructor <;> decide
theorem run_eqB {ρ : Operand → Value} {o : Oper} {w : World} {x y : Operand} {t : TypeId} {b : Bool} (ho : o.op = .binOp .eql 4 x y t) (hx : ρ x = .bool b) (hy : ρ y = .bool b) : (execOp ρ o).run Tryd.prog w = .ok (.value (.bool true)) w := by
  unfold execOp
  simp only [ho, hx, hy]
  cases b <;> go_simp
theorem eql_same (u v : Nat) (hu : u < Fe.P) (hv : v < Fe.P) : decide (num u = num v) = decide (u = v) := by
  rw [Bool.eq_iff_iff, decide_eq_true_iff, decide_eq_true_iff]
  exact Nr.num_inj hu hv
set_option maxRecDepth 100000 in
set_option maxHeartbeats 8000000 in
theorem reck_any (a b : Fe) (w0 : World) (hT : FTab w0) (ha : a.Ok) (hb : b.Ok) : Calls Tryd.prog 3 #[a.v, b.v] w0 fun e w' => e = .returned (.bool true) ∧ w0.grownBy w' none := by
  have HT := Lib.hid hT; clear hT
  have HO := Lib.hid (And.intro ha hb); clear ha hb
  have hra := Nr.rB_right HO.out.1
  have hrb := Nr.rB_right HO.out.2
  have cra := fun w => Nr.c_right a w HO.out.1
  have crb := fun w => Nr.c_right b w HO.out.2
  obtain ⟨ra, hrae⟩ : ∃ r, r = Nr.rB a := ⟨_, rfl⟩
  obtain ⟨rb, hrbe⟩ : ∃ r, r = Nr.rB b := ⟨_, rfl⟩
  rw [← hrae] at hra cra
  rw [← hrbe] at hrb crb
  clear hrae hrbe
  have HR := Lib.hid (And.intro hra (And.intro hrb (And.intro cra crb))); clear hra hrb cra crb
  unfold Fe.v
  go_enter Tryd.func3, Tryd.ntmps3
  go_upto_region 1 with (fail)
  show Code.wp _ _ _ _ ((w0.alloc (.cells (feL a).toArray 24)).alloc (.cells (feL b).toArray 24))
  have b1 := (Blk.new w0 (feL a) 24).alloc (.cells (feL b).toArray 24)
  have b2 := blk_at (w0.alloc (.cells (feL a).toArray 24)) (B := w0.heap.size + 1) (feL b) 24 (by simp)
  have g2 := gb_alloc (gb_alloc (gb_refl w0 none) (.cells (feL a).toArray 24)) (.cells (feL b).toArray 24)
  revert g2; revert b2; revert b1
  generalize (w0.alloc (.cells (feL a).toArray 24)).alloc (.cells (feL b).toArray 24) = w2
  intro b1 b2 g2
  have H2 := Lib.hid (And.intro g2 (And.intro b1 b2)); clear g2 b1 b2
  have qa : ∀ w, w2.grownBy w none → Blk w w0.heap.size 24 (feL a) := fun w h => H2.out.2.1.grown h (by simp)
  have qb : ∀ w, w2.grownBy w none → Blk w (w0.heap.size + 1) 24 (feL b) := fun w h => H2.out.2.2.grown h (by simp)
  have HB := Lib.hid (And.intro qa qb); clear qa qb
  have p0 := H2.out.2.1.cell (i := 0) rfl
  have p1 := H2.out.2.1.cell (i := 1) rfl
  have p2 := H2.out.2.1.cell (i := 2) rfl
  have p3 := H2.out.2.1.cell (i := 3) rfl
  have p4 := H2.out.2.1.cell (i := 4) rfl
  go_wp2_with fail
  refine (HR.out.2.2.1 w2).mono ?_
  rintro e w3 ⟨rfl, hg3⟩
  have H3 := Lib.hid hg3; clear hg3 p0 p1 p2 p3 p4
  have r0 := (HB.out.2 w3 H3.out).cell (i := 0) rfl
  have r1 := (HB.out.2 w3 H3.out).cell (i := 1) rfl
  have r2 := (HB.out.2 w3 H3.out).cell (i := 2) rfl
  have r3 := (HB.out.2 w3 H3.out).cell (i := 3) rfl
  have r4 := (HB.out.2 w3 H3.out).cell (i := 4) rfl
  cases ra with
  | false =>
    clear r0 r1 r2 r3 r4
    go_upto_region 2 with (fail)
    refine Fg.region_t [] [.any, .any, .any, .any, .any, .any, .any, .any, .any, .any, .any, .any, .any, .any, .any, .any, .val (a.v), .val (b.v), .val ((Fe.addF a b).v), .val (a.v), .val (b.v), .val ((Fe.subF a b).v), .val ((Fe.mulF (Fe.addF a b) (Fe.subF a b)).v), Fg.It.by (Nr.byL (num (Fe.mulF (Fe.addF a b) (Fe.subF a b)).m))] w3 8 (gb_refl _ _) (by kernel_rfl) (by kernel_rfl) (by kernel_rfl) (by kernel_rfl) (by decide) (by kernel_rfl) ?_ ?_
    · refine ⟨Fg.vT rfl (by decide) fun ac w h => ?_, ?_⟩
      · have e2 : ac.tmps.getD 2 undef = Value.pointer (some ⟨w0.heap.size, 0, none⟩) := h.rest 2 (by kernel_rfl)
        refine ⟨a.v, w, wants_none rfl, ?_, gb_refl _ _, rfl⟩
        exact ldE rfl e2 (HB.out.1 w (gb_trans H3.out h.base))
      refine ⟨Fg.vT rfl (by decide) fun ac w h => ?_, ?_⟩
      · have e3 : ac.tmps.getD 3 undef = Value.pointer (some ⟨w0.heap.size + 1, 0, none⟩) := h.rest 3 (by kernel_rfl)
        refine ⟨b.v, w, wants_none rfl, ?_, gb_refl _ _, rfl⟩
        exact ldE rfl e3 (HB.out.2 w (gb_trans H3.out h.base))
      refine ⟨Fg.cT rfl (by decide) fun ac w h => ?_, ?_⟩
      · have e16 : ac.tmps.getD 16 undef = a.v := h.dep 16 (by kernel_rfl)
        have e17 : ac.tmps.getD 17 undef = b.v := h.dep 17 (by kernel_rfl)
        refine ⟨8, #[a.v, b.v], wants_none rfl, Fg.run_call rfl rfl (by simp only [List.map_toArray, List.map_cons, List.map_nil, Act.eval, e16, e17]) (Fg.run_enter Tryd.func8 (by kernel_rfl) (by kernel_rfl)), ?_⟩
        exact (feOut_and (add_any a b w HO.out.1 HO.out.2)).mono fun _ _ ⟨he, hg⟩ => ⟨_, he, hg, rfl⟩
      refine ⟨Fg.vT rfl (by decide) fun ac w h => ?_, ?_⟩
      · have e2 : ac.tmps.getD 2 undef = Value.pointer (some ⟨w0.heap.size, 0, none⟩) := h.rest 2 (by kernel_rfl)
        refine ⟨a.v, w, wants_none rfl, ?_, gb_refl _ _, rfl⟩
        exact ldE rfl e2 (HB.out.1 w (gb_trans H3.out h.base))
      refine ⟨Fg.vT rfl (by decide) fun ac w h => ?_, ?_⟩
      · have e3 : ac.tmps.getD 3 undef = Value.pointer (some ⟨w0.heap.size + 1, 0, none⟩) := h.rest 3 (by kernel_rfl)
        refine ⟨b.v, w, wants_none rfl, ?_, gb_refl _ _, rfl⟩
        exact ldE rfl e3 (HB.out.2 w (gb_trans H3.out h.base))
      refine ⟨Fg.cT rfl (by decide) fun ac w h => ?_, ?_⟩
      · have e19 : ac.tmps.getD 19 undef = a.v := h.dep 19 (by kernel_rfl)
        have e20 : ac.tmps.getD 20 undef = b.v := h.dep 20 (by kernel_rfl)
        refine ⟨9, #[a.v, b.v], wants_none rfl, Fg.run_call rfl rfl (by simp only [List.map_toArray, List.map_cons, List.map_nil, Act.eval, e19, e20]) (Fg.run_enter Tryd.func9 (by kernel_rfl) (by kernel_rfl)), ?_⟩
        exact (feOut_and (sub_any a b w (HT.out.grown (gb_trans H2.out.1 (gb_trans H3.out h.base))) HO.out.1 HO.out.2)).mono fun _ _ ⟨he, hg⟩ => ⟨_, he, hg, rfl⟩
      refine ⟨Fg.cT rfl (by decide) fun ac w h => ?_, ?_⟩
      · have e18 : ac.tmps.getD 18 undef = (Fe.addF a b).v := h.dep 18 (by kernel_rfl)
        have e21 : ac.tmps.getD 21 undef = (Fe.subF a b).v := h.dep 21 (by kernel_rfl)
        refine ⟨7, #[(Fe.addF a b).v, (Fe.subF a b).v], wants_none rfl, Fg.run_call rfl rfl (by simp only [List.map_toArray, List.map_cons, List.map_nil, Act.eval, e18, e21]) (Fg.run_enter Tryd.func7 (by kernel_rfl) (by kernel_rfl)), ?_⟩
        exact (feOut_and (mul_fe (Fe.addF a b) (Fe.subF a b) w (Fe.add_right a b).ok (Fe.sub_right a b).ok)).mono fun _ _ ⟨he, hg⟩ => ⟨_, he, hg, rfl⟩
      refine ⟨Fg.cT rfl (by decide) fun ac w h => ?_, ?_⟩
      · have e22 : ac.tmps.getD 22 undef = (Fe.mulF (Fe.addF a b) (Fe.subF a b)).v := h.dep 22 (by kernel_rfl)
        refine ⟨6, #[(Fe.mulF (Fe.addF a b) (Fe.subF a b)).v], wants_none rfl, Fg.run_call rfl rfl (by simp only [List.map_toArray, List.map_cons, List.map_nil, Act.eval, e22]) (Fg.run_enter Tryd.func6 (by kernel_rfl) (by kernel_rfl)), ?_⟩
        exact (c_put (Fe.mulF (Fe.addF a b) (Fe.subF a b)) w (Fe.mul_right _ _).ok).mono fun _ _ ⟨_, _, he, hg, hb⟩ => ⟨_, he, hg, _, _, _, rfl, hb⟩
      trivial
    · intro aq wq hB hsz hdf hrest hslots hpt
      obtain ⟨u16, e16⟩ : ∃ u, aq.tmps.getD 16 undef = u := ⟨_, rfl⟩
      obtain ⟨u17, e17⟩ : ∃ u, aq.tmps.getD 17 undef = u := ⟨_, rfl⟩
      obtain ⟨u18, e18⟩ : ∃ u, aq.tmps.getD 18 undef = u := ⟨_, rfl⟩
      obtain ⟨u19, e19⟩ : ∃ u, aq.tmps.getD 19 undef = u := ⟨_, rfl⟩
      obtain ⟨u20, e20⟩ : ∃ u, aq.tmps.getD 20 undef = u := ⟨_, rfl⟩
      obtain ⟨u21, e21⟩ : ∃ u, aq.tmps.getD 21 undef = u := ⟨_, rfl⟩
      obtain ⟨u22, e22⟩ : ∃ u, aq.tmps.getD 22 undef = u := ⟨_, rfl⟩
      obtain ⟨u23, e23⟩ : ∃ u, aq.tmps.getD 23 undef = u := ⟨_, rfl⟩
      obtain rfl := Fg.frame_is (a := aq) (vs := [Value.agg #[Value.int IntKind.u64 a.x0, Value.int IntKind.u64 a.x1, Value.int IntKind.u64 a.x2, Value.int IntKind.u64 a.x3, Value.int IntKind.u64 a.x4], Value.agg #[Value.int IntKind.u64 b.x0, Value.int IntKind.u64 b.x1, Value.int IntKind.u64 b.x2, Value.int IntKind.u64 b.x3, Value.int IntKind.u64 b.x4], Value.pointer (some ⟨w0.heap.size, 0, none⟩), Value.pointer (some ⟨w0.heap.size + 1, 0, none⟩), Value.bool false, undef, undef, undef, Value.agg #[Value.int IntKind.u64 a.x0, Value.int IntKind.u64 a.x1, Value.int IntKind.u64 a.x2, Value.int IntKind.u64 a.x3, Value.int IntKind.u64 a.x4], Value.bool false, Value.bool true, Value.bool true, undef, undef, undef, Value.bool true, u16, u17, u18, u19, u20, u21, u22, u23, undef, undef, undef, undef, undef, undef, undef, undef, undef, undef, undef, undef, undef, undef, undef, undef, undef, undef, undef, undef, undef, undef, undef, undef, undef, undef, undef, undef, undef, undef, undef, undef, undef, undef, undef, undef, undef, undef, undef, undef, undef, undef, undef, undef, undef, undef, undef, undef, undef, undef, undef, undef, undef, undef, undef, undef, undef, undef, undef, undef, undef, undef, undef, undef, undef, undef, undef, undef, undef, undef, undef, undef, undef, undef, undef, undef, undef, undef, undef, undef, undef, undef, undef, undef, undef, undef]) hsz ⟨hrest 0 (by kernel_rfl), hrest 1 (by kernel_rfl), hrest 2 (by kernel_rfl), hrest 3 (by kernel_rfl), hrest 4 (by kernel_rfl), hrest 5 (by kernel_rfl), hrest 6 (by kernel_rfl), hrest 7 (by kernel_rfl), hrest 8 (by kernel_rfl), hrest 9 (by kernel_rfl), hrest 10 (by kernel_rfl), hrest 11 (by kernel_rfl), hrest 12 (by kernel_rfl), hrest 13 (by kernel_rfl), hrest 14 (by kernel_rfl), hrest 15 (by kernel_rfl), e16, e17, e18, e19, e20, e21, e22, e23, hrest 24 (by kernel_rfl), hrest 25 (by kernel_rfl), hrest 26 (by kernel_rfl), hrest 27 (by kernel_rfl), hrest 28 (by kernel_rfl), hrest 29 (by kernel_rfl), hrest 30 (by kernel_rfl), hrest 31 (by kernel_rfl), hrest 32 (by kernel_rfl), hrest 33 (by kernel_rfl), hrest 34 (by kernel_rfl), hrest 35 (by kernel_rfl), hrest 36 (by kernel_rfl), hrest 37 (by kernel_rfl), hrest 38 (by kernel_rfl), hrest 39 (by kernel_rfl), hrest 40 (by kernel_rfl), hrest 41 (by kernel_rfl), hrest 42 (by kernel_rfl), hrest 43 (by kernel_rfl), hrest 44 (by kernel_rfl), hrest 45 (by kernel_rfl), hrest 46 (by kernel_rfl), hrest 47 (by kernel_rfl), hrest 48 (by kernel_rfl), hrest 49 (by kernel_rfl), hrest 50 (by kernel_rfl), hrest 51 (by kernel_rfl), hrest 52 (by kernel_rfl), hrest 53 (by kernel_rfl), hrest 54 (by kernel_rfl), hrest 55 (by kernel_rfl), hrest 56 (by kernel_rfl), hrest 57 (by kernel_rfl), hrest 58 (by kernel_rfl), hrest 59 (by kernel_rfl), hrest 60 (by kernel_rfl), hrest 61 (by kernel_rfl), hrest 62 (by kernel_rfl), hrest 63 (by kernel_rfl), hrest 64 (by kernel_rfl), hrest 65 (by kernel_rfl), hrest 66 (by kernel_rfl), hrest 67 (by kernel_rfl), hrest 68 (by kernel_rfl), hrest 69 (by kernel_rfl), hrest 70 (by kernel_rfl), hrest 71 (by kernel_rfl), hrest 72 (by kernel_rfl), hrest 73 (by kernel_rfl), hrest 74 (by kernel_rfl), hrest 75 (by kernel_rfl), hrest 76 (by kernel_rfl), hrest 77 (by kernel_rfl), hrest 78 (by kernel_rfl), hrest 79 (by kernel_rfl), hrest 80 (by kernel_rfl), hrest 81 (by kernel_rfl), hrest 82 (by kernel_rfl), hrest 83 (by kernel_rfl), hrest 84 (by kernel_rfl), hrest 85 (by kernel_rfl), hrest 86 (by kernel_rfl), hrest 87 (by kernel_rfl), hrest 88 (by kernel_rfl), hrest 89 (by kernel_rfl), hrest 90 (by kernel_rfl), hrest 91 (by kernel_rfl), hrest 92 (by kernel_rfl), hrest 93 (by kernel_rfl), hrest 94 (by kernel_rfl), hrest 95 (by kernel_rfl), hrest 96 (by kernel_rfl), hrest 97 (by kernel_rfl), hrest 98 (by kernel_rfl), hrest 99 (by kernel_rfl), hrest 100 (by kernel_rfl), hrest 101 (by kernel_rfl), hrest 102 (by kernel_rfl), hrest 103 (by kernel_rfl), hrest 104 (by kernel_rfl), hrest 105 (by kernel_rfl), hrest 106 (by kernel_rfl), hrest 107 (by kernel_rfl), hrest 108 (by kernel_rfl), hrest 109 (by kernel_rfl), trivial⟩ hdf
      clear hsz hdf hrest hslots hpt e16 e17 e18 e19 e20 e21 e22 e23
      refine wpList_nil ?_
      have H9 := Lib.hid (gb_trans H3.out hB); clear hB
      go_upto_region 3 with (fail)
      refine Fg.region_t [] [.any, .any, .any, .any, .any, .any, .any, .any, .any, .any, .any, .any, .any, .any, .any, .any, .any, .any, .any, .any, .any, .any, .any, .any, .val (a.v), .val ((Fe.negF a).v), .val (b.v), .val ((Fe.sqF b).v), .val (Value.bool (decide ((Fe.negF a).m = (Fe.sqF b).m)))] wq 5 (gb_refl _ _) (by kernel_rfl) (by kernel_rfl) (by kernel_rfl) (by kernel_rfl) (by decide) (by kernel_rfl) ?_ ?_
      · refine ⟨Fg.vT rfl (by decide) fun ac w h => ?_, ?_⟩
        · have e2 : ac.tmps.getD 2 undef = Value.pointer (some ⟨w0.heap.size, 0, none⟩) := h.rest 2 (by kernel_rfl)
          refine ⟨a.v, w, wants_none rfl, ?_, gb_refl _ _, rfl⟩
          exact ldE rfl e2 (HB.out.1 w (gb_trans H9.out h.base))
        refine ⟨Fg.cT rfl (by decide) fun ac w h => ?_, ?_⟩
        · have e24 : ac.tmps.getD 24 undef = a.v := h.dep 24 (by kernel_rfl)
          refine ⟨11, #[a.v], wants_none rfl, Fg.run_call rfl rfl (by simp only [List.map_toArray, List.map_cons, List.map_nil, Act.eval, e24]) (Fg.run_enter Tryd.func11 (by kernel_rfl) (by kernel_rfl)), ?_⟩
          exact (feOut_and (neg_any a w (HT.out.grown (gb_trans H2.out.1 (gb_trans H9.out h.base))) HO.out.1)).mono fun _ _ ⟨he, hg⟩ => ⟨_, he, hg, rfl⟩
        refine ⟨Fg.vT rfl (by decide) fun ac w h => ?_, ?_⟩
        · have e3 : ac.tmps.getD 3 undef = Value.pointer (some ⟨w0.heap.size + 1, 0, none⟩) := h.rest 3 (by kernel_rfl)
          refine ⟨b.v, w, wants_none rfl, ?_, gb_refl _ _, rfl⟩
          exact ldE rfl e3 (HB.out.2 w (gb_trans H9.out h.base))
        refine ⟨Fg.cT rfl (by decide) fun ac w h => ?_, ?_⟩
        · have e26 : ac.tmps.getD 26 undef = b.v := h.dep 26 (by kernel_rfl)
          refine ⟨12, #[b.v], wants_none rfl, Fg.run_call rfl rfl (by simp only [List.map_toArray, List.map_cons, List.map_nil, Act.eval, e26]) (Fg.run_enter Tryd.func12 (by kernel_rfl) (by kernel_rfl)), ?_⟩
          exact (feOut_and (sq_fe b w HO.out.2)).mono fun _ _ ⟨he, hg⟩ => ⟨_, he, hg, rfl⟩
        refine ⟨Fg.cT rfl (by decide) fun ac w h => ?_, ?_⟩
        · have e25 : ac.tmps.getD 25 undef = (Fe.negF a).v := h.dep 25 (by kernel_rfl)
          have e27 : ac.tmps.getD 27 undef = (Fe.sqF b).v := h.dep 27 (by kernel_rfl)
          refine ⟨10, #[(Fe.negF a).v, (Fe.sqF b).v], wants_none rfl, Fg.run_call rfl rfl (by simp only [List.map_toArray, List.map_cons, List.map_nil, Act.eval, e25, e27]) (Fg.run_enter Tryd.func10 (by kernel_rfl) (by kernel_rfl)), ?_⟩
          exact (same_any (Fe.negF a) (Fe.sqF b) w (Fe.neg_right a).ok (Fe.sq_right b).ok).mono fun _ _ ⟨he, hg⟩ => ⟨_, he, hg, rfl⟩
        trivial
      · intro ar wr hB hsz hdf hrest hslots hpt
        obtain ⟨u24, e24⟩ : ∃ u, ar.tmps.getD 24 undef = u := ⟨_, rfl⟩
        obtain ⟨u25, e25⟩ : ∃ u, ar.tmps.getD 25 undef = u := ⟨_, rfl⟩
        obtain ⟨u26, e26⟩ : ∃ u, ar.tmps.getD 26 undef = u := ⟨_, rfl⟩
        obtain ⟨u27, e27⟩ : ∃ u, ar.tmps.getD 27 undef = u := ⟨_, rfl⟩
        obtain ⟨u28, e28⟩ : ∃ u, ar.tmps.getD 28 undef = u := ⟨_, rfl⟩
        obtain rfl := Fg.frame_is (a := ar) (vs := [Value.agg #[Value.int IntKind.u64 a.x0, Value.int IntKind.u64 a.x1, Value.int IntKind.u64 a.x2, Value.int IntKind.u64 a.x3, Value.int IntKind.u64 a.x4], Value.agg #[Value.int IntKind.u64 b.x0, Value.int IntKind.u64 b.x1, Value.int IntKind.u64 b.x2, Value.int IntKind.u64 b.x3, Value.int IntKind.u64 b.x4], Value.pointer (some ⟨w0.heap.size, 0, none⟩), Value.pointer (some ⟨w0.heap.size + 1, 0, none⟩), Value.bool false, undef, undef, undef, Value.agg #[Value.int IntKind.u64 a.x0, Value.int IntKind.u64 a.x1, Value.int IntKind.u64 a.x2, Value.int IntKind.u64 a.x3, Value.int IntKind.u64 a.x4], Value.bool false, Value.bool true, Value.bool true, undef, undef, undef, Value.bool true, u16, u17, u18, u19, u20, u21, u22, u23, u24, u25, u26, u27, u28, undef, undef, undef, undef, undef, undef, undef, undef, undef, undef, undef, undef, undef, undef, undef, undef, undef, undef, undef, undef, undef, undef, undef, undef, undef, undef, undef, undef, undef, undef, undef, undef, undef, undef, undef, undef, undef, undef, undef, undef, undef, undef, undef, undef, undef, undef, undef, undef, undef, undef, undef, undef, undef, undef, undef, undef, undef, undef, undef, undef, undef, undef, undef, undef, undef, undef, undef, undef, undef, undef, undef, undef, undef, undef, undef, undef, undef, undef, undef, undef, undef]) hsz ⟨hrest 0 (by kernel_rfl), hrest 1 (by kernel_rfl), hrest 2 (by kernel_rfl), hrest 3 (by kernel_rfl), hrest 4 (by kernel_rfl), hrest 5 (by kernel_rfl), hrest 6 (by kernel_rfl), hrest 7 (by kernel_rfl), hrest 8 (by kernel_rfl), hrest 9 (by kernel_rfl), hrest 10 (by kernel_rfl), hrest 11 (by kernel_rfl), hrest 12 (by kernel_rfl), hrest 13 (by kernel_rfl), hrest 14 (by kernel_rfl), hrest 15 (by kernel_rfl), hrest 16 (by kernel_rfl), hrest 17 (by kernel_rfl), hrest 18 (by kernel_rfl), hrest 19 (by kernel_rfl), hrest 20 (by kernel_rfl), hrest 21 (by kernel_rfl), hrest 22 (by kernel_rfl), hrest 23 (by kernel_rfl), e24, e25, e26, e27, e28, hrest 29 (by kernel_rfl), hrest 30 (by kernel_rfl), hrest 31 (by kernel_rfl), hrest 32 (by kernel_rfl), hrest 33 (by kernel_rfl), hrest 34 (by kernel_rfl), hrest 35 (by kernel_rfl), hrest 36 (by kernel_rfl), hrest 37 (by kernel_rfl), hrest 38 (by kernel_rfl), hrest 39 (by kernel_rfl), hrest 40 (by kernel_rfl), hrest 41 (by kernel_rfl), hrest 42 (by kernel_rfl), hrest 43 (by kernel_rfl), hrest 44 (by kernel_rfl), hrest 45 (by kernel_rfl), hrest 46 (by kernel_rfl), hrest 47 (by kernel_rfl), hrest 48 (by kernel_rfl), hrest 49 (by kernel_rfl), hrest 50 (by kernel_rfl), hrest 51 (by kernel_rfl), hrest 52 (by kernel_rfl), hrest 53 (by kernel_rfl), hrest 54 (by kernel_rfl), hrest 55 (by kernel_rfl), hrest 56 (by kernel_rfl), hrest 57 (by kernel_rfl), hrest 58 (by kernel_rfl), hrest 59 (by kernel_rfl), hrest 60 (by kernel_rfl), hrest 61 (by kernel_rfl), hrest 62 (by kernel_rfl), hrest 63 (by kernel_rfl), hrest 64 (by kernel_rfl), hrest 65 (by kernel_rfl), hrest 66 (by kernel_rfl), hrest 67 (by kernel_rfl), hrest 68 (by kernel_rfl), hrest 69 (by kernel_rfl), hrest 70 (by kernel_rfl), hrest 71 (by kernel_rfl), hrest 72 (by kernel_rfl), hrest 73 (by kernel_rfl), hrest 74 (by kernel_rfl), hrest 75 (by kernel_rfl), hrest 76 (by kernel_rfl), hrest 77 (by kernel_rfl), hrest 78 (by kernel_rfl), hrest 79 (by kernel_rfl), hrest 80 (by kernel_rfl), hrest 81 (by kernel_rfl), hrest 82 (by kernel_rfl), hrest 83 (by kernel_rfl), hrest 84 (by kernel_rfl), hrest 85 (by kernel_rfl), hrest 86 (by kernel_rfl), hrest 87 (by kernel_rfl), hrest 88 (by kernel_rfl), hrest 89 (by kernel_rfl), hrest 90 (by kernel_rfl), hrest 91 (by kernel_rfl), hrest 92 (by kernel_rfl), hrest 93 (by kernel_rfl), hrest 94 (by kernel_rfl), hrest 95 (by kernel_rfl), hrest 96 (by kernel_rfl), hrest 97 (by kernel_rfl), hrest 98 (by kernel_rfl), hrest 99 (by kernel_rfl), hrest 100 (by kernel_rfl), hrest 101 (by kernel_rfl), hrest 102 (by kernel_rfl), hrest 103 (by kernel_rfl), hrest 104 (by kernel_rfl), hrest 105 (by kernel_rfl), hrest 106 (by kernel_rfl), hrest 107 (by kernel_rfl), hrest 108 (by kernel_rfl), hrest 109 (by kernel_rfl), trivial⟩ hdf
        clear hsz hdf hrest hslots hpt e24 e25 e26 e27 e28
        refine wpList_nil ?_
        have H10 := Lib.hid (gb_trans H9.out hB); clear hB
        go_wp2_with fail
        refine (awake_any wr (HT.out.grown (gb_trans H2.out.1 H10.out))).mono ?_
        rintro e w9 ⟨rfl, hg9⟩
        have H11 := Lib.hid (gb_trans (gb_trans H2.out.1 H10.out) hg9); clear hg9
        go_wp2
        go_ret
        exact ⟨rfl, H11.out⟩
  | true =>
    go_wp2_with fail
    refine (HR.out.2.2.2 w3).mono ?_
    rintro e w4 ⟨rfl, hg4⟩
    have H4 := Lib.hid (gb_trans H3.out hg4); clear hg4 r0 r1 r2 r3 r4
    cases rb with
    | false =>
      go_upto_region 2 with (fail)
      refine Fg.region_t [] [.any, .any, .any, .any, .any, .any, .any, .any, .any, .any, .any, .any, .any, .any, .any, .any, .val (a.v), .val (b.v), .val ((Fe.addF a b).v), .val (a.v), .val (b.v), .val ((Fe.subF a b).v), .val ((Fe.mulF (Fe.addF a b) (Fe.subF a b)).v), Fg.It.by (Nr.byL (num (Fe.mulF (Fe.addF a b) (Fe.subF a b)).m))] w4 8 (gb_refl _ _) (by kernel_rfl) (by kernel_rfl) (by kernel_rfl) (by kernel_rfl) (by decide) (by kernel_rfl) ?_ ?_
      · refine ⟨Fg.vT rfl (by decide) fun ac w h => ?_, ?_⟩
        · have e2 : ac.tmps.getD 2 undef = Value.pointer (some ⟨w0.heap.size, 0, none⟩) := h.rest 2 (by kernel_rfl)
          refine ⟨a.v, w, wants_none rfl, ?_, gb_refl _ _, rfl⟩
          exact ldE rfl e2 (HB.out.1 w (gb_trans H4.out h.base))
        refine ⟨Fg.vT rfl (by decide) fun ac w h => ?_, ?_⟩
        · have e3 : ac.tmps.getD 3 undef = Value.pointer (some ⟨w0.heap.size + 1, 0, none⟩) := h.rest 3 (by kernel_rfl)
          refine ⟨b.v, w, wants_none rfl, ?_, gb_refl _ _, rfl⟩
          exact ldE rfl e3 (HB.out.2 w (gb_trans H4.out h.base))
        refine ⟨Fg.cT rfl (by decide) fun ac w h => ?_, ?_⟩
        · have e16 : ac.tmps.getD 16 undef = a.v := h.dep 16 (by kernel_rfl)
          have e17 : ac.tmps.getD 17 undef = b.v := h.dep 17 (by kernel_rfl)
          refine ⟨8, #[a.v, b.v], wants_none rfl, Fg.run_call rfl rfl (by simp only [List.map_toArray, List.map_cons, List.map_nil, Act.eval, e16, e17]) (Fg.run_enter Tryd.func8 (by kernel_rfl) (by kernel_rfl)), ?_⟩
          exact (feOut_and (add_any a b w HO.out.1 HO.out.2)).mono fun _ _ ⟨he, hg⟩ => ⟨_, he, hg, rfl⟩
        refine ⟨Fg.vT rfl (by decide) fun ac w h => ?_, ?_⟩
        · have e2 : ac.tmps.getD 2 undef = Value.pointer (some ⟨w0.heap.size, 0, none⟩) := h.rest 2 (by kernel_rfl)
          refine ⟨a.v, w, wants_none rfl, ?_, gb_refl _ _, rfl⟩
          exact ldE rfl e2 (HB.out.1 w (gb_trans H4.out h.base))
        refine ⟨Fg.vT rfl (by decide) fun ac w h => ?_, ?_⟩
        · have e3 : ac.tmps.getD 3 undef = Value.pointer (some ⟨w0.heap.size + 1, 0, none⟩) := h.rest 3 (by kernel_rfl)
          refine ⟨b.v, w, wants_none rfl, ?_, gb_refl _ _, rfl⟩
          exact ldE rfl e3 (HB.out.2 w (gb_trans H4.out h.base))
        refine ⟨Fg.cT rfl (by decide) fun ac w h => ?_, ?_⟩
        · have e19 : ac.tmps.getD 19 undef = a.v := h.dep 19 (by kernel_rfl)
          have e20 : ac.tmps.getD 20 undef = b.v := h.dep 20 (by kernel_rfl)
          refine ⟨9, #[a.v, b.v], wants_none rfl, Fg.run_call rfl rfl (by simp only [List.map_toArray, List.map_cons, List.map_nil, Act.eval, e19, e20]) (Fg.run_enter Tryd.func9 (by kernel_rfl) (by kernel_rfl)), ?_⟩
          exact (feOut_and (sub_any a b w (HT.out.grown (gb_trans H2.out.1 (gb_trans H4.out h.base))) HO.out.1 HO.out.2)).mono fun _ _ ⟨he, hg⟩ => ⟨_, he, hg, rfl⟩
        refine ⟨Fg.cT rfl (by decide) fun ac w h => ?_, ?_⟩
        · have e18 : ac.tmps.getD 18 undef = (Fe.addF a b).v := h.dep 18 (by kernel_rfl)
          have e21 : ac.tmps.getD 21 undef = (Fe.subF a b).v := h.dep 21 (by kernel_rfl)
          refine ⟨7, #[(Fe.addF a b).v, (Fe.subF a b).v], wants_none rfl, Fg.run_call rfl rfl (by simp only [List.map_toArray, List.map_cons, List.map_nil, Act.eval, e18, e21]) (Fg.run_enter Tryd.func7 (by kernel_rfl) (by kernel_rfl)), ?_⟩
          exact (feOut_and (mul_fe (Fe.addF a b) (Fe.subF a b) w (Fe.add_right a b).ok (Fe.sub_right a b).ok)).mono fun _ _ ⟨he, hg⟩ => ⟨_, he, hg, rfl⟩
        refine ⟨Fg.cT rfl (by decide) fun ac w h => ?_, ?_⟩
        · have e22 : ac.tmps.getD 22 undef = (Fe.mulF (Fe.addF a b) (Fe.subF a b)).v := h.dep 22 (by kernel_rfl)
          refine ⟨6, #[(Fe.mulF (Fe.addF a b) (Fe.subF a b)).v], wants_none rfl, Fg.run_call rfl rfl (by simp only [List.map_toArray, List.map_cons, List.map_nil, Act.eval, e22]) (Fg.run_enter Tryd.func6 (by kernel_rfl) (by kernel_rfl)), ?_⟩
          exact (c_put (Fe.mulF (Fe.addF a b) (Fe.subF a b)) w (Fe.mul_right _ _).ok).mono fun _ _ ⟨_, _, he, hg, hb⟩ => ⟨_, he, hg, _, _, _, rfl, hb⟩
        trivial
      · intro aq wq hB hsz hdf hrest hslots hpt
        obtain ⟨u16, e16⟩ : ∃ u, aq.tmps.getD 16 undef = u := ⟨_, rfl⟩
        obtain ⟨u17, e17⟩ : ∃ u, aq.tmps.getD 17 undef = u := ⟨_, rfl⟩
        obtain ⟨u18, e18⟩ : ∃ u, aq.tmps.getD 18 undef = u := ⟨_, rfl⟩
        obtain ⟨u19, e19⟩ : ∃ u, aq.tmps.getD 19 undef = u := ⟨_, rfl⟩
        obtain ⟨u20, e20⟩ : ∃ u, aq.tmps.getD 20 undef = u := ⟨_, rfl⟩
        obtain ⟨u21, e21⟩ : ∃ u, aq.tmps.getD 21 undef = u := ⟨_, rfl⟩
        obtain ⟨u22, e22⟩ : ∃ u, aq.tmps.getD 22 undef = u := ⟨_, rfl⟩
        obtain ⟨u23, e23⟩ : ∃ u, aq.tmps.getD 23 undef = u := ⟨_, rfl⟩
        obtain rfl := Fg.frame_is (a := aq) (vs := [Value.agg #[Value.int IntKind.u64 a.x0, Value.int IntKind.u64 a.x1, Value.int IntKind.u64 a.x2, Value.int IntKind.u64 a.x3, Value.int IntKind.u64 a.x4], Value.agg #[Value.int IntKind.u64 b.x0, Value.int IntKind.u64 b.x1, Value.int IntKind.u64 b.x2, Value.int IntKind.u64 b.x3, Value.int IntKind.u64 b.x4], Value.pointer (some ⟨w0.heap.size, 0, none⟩), Value.pointer (some ⟨w0.heap.size + 1, 0, none⟩), Value.bool false, undef, undef, undef, Value.agg #[Value.int IntKind.u64 a.x0, Value.int IntKind.u64 a.x1, Value.int IntKind.u64 a.x2, Value.int IntKind.u64 a.x3, Value.int IntKind.u64 a.x4], Value.bool true, Value.bool false, Value.bool false, Value.agg #[Value.int IntKind.u64 b.x0, Value.int IntKind.u64 b.x1, Value.int IntKind.u64 b.x2, Value.int IntKind.u64 b.x3, Value.int IntKind.u64 b.x4], Value.bool false, Value.bool true, Value.bool true, u16, u17, u18, u19, u20, u21, u22, u23, undef, undef, undef, undef, undef, undef, undef, undef, undef, undef, undef, undef, undef, undef, undef, undef, undef, undef, undef, undef, undef, undef, undef, undef, undef, undef, undef, undef, undef, undef, undef, undef, undef, undef, undef, undef, undef, undef, undef, undef, undef, undef, undef, undef, undef, undef, undef, undef, undef, undef, undef, undef, undef, undef, undef, undef, undef, undef, undef, undef, undef, undef, undef, undef, undef, undef, undef, undef, undef, undef, undef, undef, undef, undef, undef, undef, undef, undef, undef, undef, undef, undef, undef, undef, undef, undef]) hsz ⟨hrest 0 (by kernel_rfl), hrest 1 (by kernel_rfl), hrest 2 (by kernel_rfl), hrest 3 (by kernel_rfl), hrest 4 (by kernel_rfl), hrest 5 (by kernel_rfl), hrest 6 (by kernel_rfl), hrest 7 (by kernel_rfl), hrest 8 (by kernel_rfl), hrest 9 (by kernel_rfl), hrest 10 (by kernel_rfl), hrest 11 (by kernel_rfl), hrest 12 (by kernel_rfl), hrest 13 (by kernel_rfl), hrest 14 (by kernel_rfl), hrest 15 (by kernel_rfl), e16, e17, e18, e19, e20, e21, e22, e23, hrest 24 (by kernel_rfl), hrest 25 (by kernel_rfl), hrest 26 (by kernel_rfl), hrest 27 (by kernel_rfl), hrest 28 (by kernel_rfl), hrest 29 (by kernel_rfl), hrest 30 (by kernel_rfl), hrest 31 (by kernel_rfl), hrest 32 (by kernel_rfl), hrest 33 (by kernel_rfl), hrest 34 (by kernel_rfl), hrest 35 (by kernel_rfl), hrest 36 (by kernel_rfl), hrest 37 (by kernel_rfl), hrest 38 (by kernel_rfl), hrest 39 (by kernel_rfl), hrest 40 (by kernel_rfl), hrest 41 (by kernel_rfl), hrest 42 (by kernel_rfl), hrest 43 (by kernel_rfl), hrest 44 (by kernel_rfl), hrest 45 (by kernel_rfl), hrest 46 (by kernel_rfl), hrest 47 (by kernel_rfl), hrest 48 (by kernel_rfl), hrest 49 (by kernel_rfl), hrest 50 (by kernel_rfl), hrest 51 (by kernel_rfl), hrest 52 (by kernel_rfl), hrest 53 (by kernel_rfl), hrest 54 (by kernel_rfl), hrest 55 (by kernel_rfl), hrest 56 (by kernel_rfl), hrest 57 (by kernel_rfl), hrest 58 (by kernel_rfl), hrest 59 (by kernel_rfl), hrest 60 (by kernel_rfl), hrest 61 (by kernel_rfl), hrest 62 (by kernel_rfl), hrest 63 (by kernel_rfl), hrest 64 (by kernel_rfl), hrest 65 (by kernel_rfl), hrest 66 (by kernel_rfl), hrest 67 (by kernel_rfl), hrest 68 (by kernel_rfl), hrest 69 (by kernel_rfl), hrest 70 (by kernel_rfl), hrest 71 (by kernel_rfl), hrest 72 (by kernel_rfl), hrest 73 (by kernel_rfl), hrest 74 (by kernel_rfl), hrest 75 (by kernel_rfl), hrest 76 (by kernel_rfl), hrest 77 (by kernel_rfl), hrest 78 (by kernel_rfl), hrest 79 (by kernel_rfl), hrest 80 (by kernel_rfl), hrest 81 (by kernel_rfl), hrest 82 (by kernel_rfl), hrest 83 (by kernel_rfl), hrest 84 (by kernel_rfl), hrest 85 (by kernel_rfl), hrest 86 (by kernel_rfl), hrest 87 (by kernel_rfl), hrest 88 (by kernel_rfl), hrest 89 (by kernel_rfl), hrest 90 (by kernel_rfl), hrest 91 (by kernel_rfl), hrest 92 (by kernel_rfl), hrest 93 (by kernel_rfl), hrest 94 (by kernel_rfl), hrest 95 (by kernel_rfl), hrest 96 (by kernel_rfl), hrest 97 (by kernel_rfl), hrest 98 (by kernel_rfl), hrest 99 (by kernel_rfl), hrest 100 (by kernel_rfl), hrest 101 (by kernel_rfl), hrest 102 (by kernel_rfl), hrest 103 (by kernel_rfl), hrest 104 (by kernel_rfl), hrest 105 (by kernel_rfl), hrest 106 (by kernel_rfl), hrest 107 (by kernel_rfl), hrest 108 (by kernel_rfl), hrest 109 (by kernel_rfl), trivial⟩ hdf
        clear hsz hdf hrest hslots hpt e16 e17 e18 e19 e20 e21 e22 e23
        refine wpList_nil ?_
        have H9 := Lib.hid (gb_trans H4.out hB); clear hB
        go_upto_region 3 with (fail)
        refine Fg.region_t [] [.any, .any, .any, .any, .any, .any, .any, .any, .any, .any, .any, .any, .any, .any, .any, .any, .any, .any, .any, .any, .any, .any, .any, .any, .val (a.v), .val ((Fe.negF a).v), .val (b.v), .val ((Fe.sqF b).v), .val (Value.bool (decide ((Fe.negF a).m = (Fe.sqF b).m)))] wq 5 (gb_refl _ _) (by kernel_rfl) (by kernel_rfl) (by kernel_rfl) (by kernel_rfl) (by decide) (by kernel_rfl) ?_ ?_
        · refine ⟨Fg.vT rfl (by decide) fun ac w h => ?_, ?_⟩
          · have e2 : ac.tmps.getD 2 undef = Value.pointer (some ⟨w0.heap.size, 0, none⟩) := h.rest 2 (by kernel_rfl)
            refine ⟨a.v, w, wants_none rfl, ?_, gb_refl _ _, rfl⟩
            exact ldE rfl e2 (HB.out.1 w (gb_trans H9.out h.base))
          refine ⟨Fg.cT rfl (by decide) fun ac w h => ?_, ?_⟩
          · have e24 : ac.tmps.getD 24 undef = a.v := h.dep 24 (by kernel_rfl)
            refine ⟨11, #[a.v], wants_none rfl, Fg.run_call rfl rfl (by simp only [List.map_toArray, List.map_cons, List.map_nil, Act.eval, e24]) (Fg.run_enter Tryd.func11 (by kernel_rfl) (by kernel_rfl)), ?_⟩
            exact (feOut_and (neg_any a w (HT.out.grown (gb_trans H2.out.1 (gb_trans H9.out h.base))) HO.out.1)).mono fun _ _ ⟨he, hg⟩ => ⟨_, he, hg, rfl⟩
          refine ⟨Fg.vT rfl (by decide) fun ac w h => ?_, ?_⟩
          · have e3 : ac.tmps.getD 3 undef = Value.pointer (some ⟨w0.heap.size + 1, 0, none⟩) := h.rest 3 (by kernel_rfl)
            refine ⟨b.v, w, wants_none rfl, ?_, gb_refl _ _, rfl⟩
            exact ldE rfl e3 (HB.out.2 w (gb_trans H9.out h.base))
          refine ⟨Fg.cT rfl (by decide) fun ac w h => ?_, ?_⟩
          · have e26 : ac.tmps.getD 26 undef = b.v := h.dep 26 (by kernel_rfl)
            refine ⟨12, #[b.v], wants_none rfl, Fg.run_call rfl rfl (by simp only [List.map_toArray, List.map_cons, List.map_nil, Act.eval, e26]) (Fg.run_enter Tryd.func12 (by kernel_rfl) (by kernel_rfl)), ?_⟩
            exact (feOut_and (sq_fe b w HO.out.2)).mono fun _ _ ⟨he, hg⟩ => ⟨_, he, hg, rfl⟩
          refine ⟨Fg.cT rfl (by decide) fun ac w h => ?_, ?_⟩
          · have e25 : ac.tmps.getD 25 undef = (Fe.negF a).v := h.dep 25 (by kernel_rfl)
            have e27 : ac.tmps.getD 27 undef = (Fe.sqF b).v := h.dep 27 (by kernel_rfl)
            refine ⟨10, #[(Fe.negF a).v, (Fe.sqF b).v], wants_none rfl, Fg.run_call rfl rfl (by simp only [List.map_toArray, List.map_cons, List.map_nil, Act.eval, e25, e27]) (Fg.run_enter Tryd.func10 (by kernel_rfl) (by kernel_rfl)), ?_⟩
            exact (same_any (Fe.negF a) (Fe.sqF b) w (Fe.neg_right a).ok (Fe.sq_right b).ok).mono fun _ _ ⟨he, hg⟩ => ⟨_, he, hg, rfl⟩
          trivial
        · intro ar wr hB hsz hdf hrest hslots hpt
          obtain ⟨u24, e24⟩ : ∃ u, ar.tmps.getD 24 undef = u := ⟨_, rfl⟩
          obtain ⟨u25, e25⟩ : ∃ u, ar.tmps.getD 25 undef = u := ⟨_, rfl⟩
          obtain ⟨u26, e26⟩ : ∃ u, ar.tmps.getD 26 undef = u := ⟨_, rfl⟩
          obtain ⟨u27, e27⟩ : ∃ u, ar.tmps.getD 27 undef = u := ⟨_, rfl⟩
          obtain ⟨u28, e28⟩ : ∃ u, ar.tmps.getD 28 undef = u := ⟨_, rfl⟩
          obtain rfl := Fg.frame_is (a := ar) (vs := [Value.agg #[Value.int IntKind.u64 a.x0, Value.int IntKind.u64 a.x1, Value.int IntKind.u64 a.x2, Value.int IntKind.u64 a.x3, Value.int IntKind.u64 a.x4], Value.agg #[Value.int IntKind.u64 b.x0, Value.int IntKind.u64 b.x1, Value.int IntKind.u64 b.x2, Value.int IntKind.u64 b.x3, Value.int IntKind.u64 b.x4], Value.pointer (some ⟨w0.heap.size, 0, none⟩), Value.pointer (some ⟨w0.heap.size + 1, 0, none⟩), Value.bool false, undef, undef, undef, Value.agg #[Value.int IntKind.u64 a.x0, Value.int IntKind.u64 a.x1, Value.int IntKind.u64 a.x2, Value.int IntKind.u64 a.x3, Value.int IntKind.u64 a.x4], Value.bool true, Value.bool false, Value.bool false, Value.agg #[Value.int IntKind.u64 b.x0, Value.int IntKind.u64 b.x1, Value.int IntKind.u64 b.x2, Value.int IntKind.u64 b.x3, Value.int IntKind.u64 b.x4], Value.bool false, Value.bool true, Value.bool true, u16, u17, u18, u19, u20, u21, u22, u23, u24, u25, u26, u27, u28, undef, undef, undef, undef, undef, undef, undef, undef, undef, undef, undef, undef, undef, undef, undef, undef, undef, undef, undef, undef, undef, undef, undef, undef, undef, undef, undef, undef, undef, undef, undef, undef, undef, undef, undef, undef, undef, undef, undef, undef, undef, undef, undef, undef, undef, undef, undef, undef, undef, undef, undef, undef, undef, undef, undef, undef, undef, undef, undef, undef, undef, undef, undef, undef, undef, undef, undef, undef, undef, undef, undef, undef, undef, undef, undef, undef, undef, undef, undef, undef, undef]) hsz ⟨hrest 0 (by kernel_rfl), hrest 1 (by kernel_rfl), hrest 2 (by kernel_rfl), hrest 3 (by kernel_rfl), hrest 4 (by kernel_rfl), hrest 5 (by kernel_rfl), hrest 6 (by kernel_rfl), hrest 7 (by kernel_rfl), hrest 8 (by kernel_rfl), hrest 9 (by kernel_rfl), hrest 10 (by kernel_rfl), hrest 11 (by kernel_rfl), hrest 12 (by kernel_rfl), hrest 13 (by kernel_rfl), hrest 14 (by kernel_rfl), hrest 15 (by kernel_rfl), hrest 16 (by kernel_rfl), hrest 17 (by kernel_rfl), hrest 18 (by kernel_rfl), hrest 19 (by kernel_rfl), hrest 20 (by kernel_rfl), hrest 21 (by kernel_rfl), hrest 22 (by kernel_rfl), hrest 23 (by kernel_rfl), e24, e25, e26, e27, e28, hrest 29 (by kernel_rfl), hrest 30 (by kernel_rfl), hrest 31 (by kernel_rfl), hrest 32 (by kernel_rfl), hrest 33 (by kernel_rfl), hrest 34 (by kernel_rfl), hrest 35 (by kernel_rfl), hrest 36 (by kernel_rfl), hrest 37 (by kernel_rfl), hrest 38 (by kernel_rfl), hrest 39 (by kernel_rfl), hrest 40 (by kernel_rfl), hrest 41 (by kernel_rfl), hrest 42 (by kernel_rfl), hrest 43 (by kernel_rfl), hrest 44 (by kernel_rfl), hrest 45 (by kernel_rfl), hrest 46 (by kernel_rfl), hrest 47 (by kernel_rfl), hrest 48 (by kernel_rfl), hrest 49 (by kernel_rfl), hrest 50 (by kernel_rfl), hrest 51 (by kernel_rfl), hrest 52 (by kernel_rfl), hrest 53 (by kernel_rfl), hrest 54 (by kernel_rfl), hrest 55 (by kernel_rfl), hrest 56 (by kernel_rfl), hrest 57 (by kernel_rfl), hrest 58 (by kernel_rfl), hrest 59 (by kernel_rfl), hrest 60 (by kernel_rfl), hrest 61 (by kernel_rfl), hrest 62 (by kernel_rfl), hrest 63 (by kernel_rfl), hrest 64 (by kernel_rfl), hrest 65 (by kernel_rfl), hrest 66 (by kernel_rfl), hrest 67 (by kernel_rfl), hrest 68 (by kernel_rfl), hrest 69 (by kernel_rfl), hrest 70 (by kernel_rfl), hrest 71 (by kernel_rfl), hrest 72 (by kernel_rfl), hrest 73 (by kernel_rfl), hrest 74 (by kernel_rfl), hrest 75 (by kernel_rfl), hrest 76 (by kernel_rfl), hrest 77 (by kernel_rfl), hrest 78 (by kernel_rfl), hrest 79 (by kernel_rfl), hrest 80 (by kernel_rfl), hrest 81 (by kernel_rfl), hrest 82 (by kernel_rfl), hrest 83 (by kernel_rfl), hrest 84 (by kernel_rfl), hrest 85 (by kernel_rfl), hrest 86 (by kernel_rfl), hrest 87 (by kernel_rfl), hrest 88 (by kernel_rfl), hrest 89 (by kernel_rfl), hrest 90 (by kernel_rfl), hrest 91 (by kernel_rfl), hrest 92 (by kernel_rfl), hrest 93 (by kernel_rfl), hrest 94 (by kernel_rfl), hrest 95 (by kernel_rfl), hrest 96 (by kernel_rfl), hrest 97 (by kernel_rfl), hrest 98 (by kernel_rfl), hrest 99 (by kernel_rfl), hrest 100 (by kernel_rfl), hrest 101 (by kernel_rfl), hrest 102 (by kernel_rfl), hrest 103 (by kernel_rfl), hrest 104 (by kernel_rfl), hrest 105 (by kernel_rfl), hrest 106 (by kernel_rfl), hrest 107 (by kernel_rfl), hrest 108 (by kernel_rfl), hrest 109 (by kernel_rfl), trivial⟩ hdf
          clear hsz hdf hrest hslots hpt e24 e25 e26 e27 e28
          refine wpList_nil ?_
          have H10 := Lib.hid (gb_trans H9.out hB); clear hB
          go_wp2_with fail
          refine (awake_any wr (HT.out.grown (gb_trans H2.out.1 H10.out))).mono ?_
          rintro e w9 ⟨rfl, hg9⟩
          have H11 := Lib.hid (gb_trans (gb_trans H2.out.1 H10.out) hg9); clear hg9
          go_wp2
          go_ret
          exact ⟨rfl, H11.out⟩
    | true =>
      have hRa := HR.out.1 trivial
      have hRb := HR.out.2.1 rfl
      go_upto_region 5 with (fail)
      refine Fg.region_t [5, 6] [.any, .any, .any, .any, .any, .fresh 33 (Nr.pL Nr.zeros) w4.heap.size, .fresh 33 (Nr.pL Nr.zeros) w4.heap.size, .any, .any, .any, .any, .any, .any, .any, .any, .any, .any, .any, .any, .any, .any, .any, .any, .any, .any, .any, .any, .any, .any, .any, .val (a.v), .val (Nr.nV (num a.m)), .val (b.v), .val (Nr.nV (num b.m))] w4 6 (gb_refl _ _) (by kernel_rfl) (by kernel_rfl) (by kernel_rfl) (by kernel_rfl) (by decide) (by kernel_rfl) ?_ ?_
      · refine ⟨Fg.vT rfl (by decide) fun ac w h => ?_, ?_⟩
        · have e2 : ac.tmps.getD 2 undef = Value.pointer (some ⟨w0.heap.size, 0, none⟩) := h.rest 2 (by kernel_rfl)
          refine ⟨a.v, w, wants_none rfl, ?_, gb_refl _ _, rfl⟩
          exact ldE rfl e2 (HB.out.1 w (gb_trans H4.out h.base))
        refine ⟨Fg.cT rfl (by decide) fun ac w h => ?_, ?_⟩
        · have e30 : ac.tmps.getD 30 undef = a.v := h.dep 30 (by kernel_rfl)
          refine ⟨14, #[a.v], wants_none rfl, Fg.run_call rfl rfl (by simp only [List.map_toArray, List.map_cons, List.map_nil, Act.eval, e30]) (Fg.run_enter Tryd.func14 (by kernel_rfl) (by kernel_rfl)), ?_⟩
          exact (Nr.c_from a w hRa).mono fun _ _ ⟨he, hg⟩ => ⟨_, he, hg, rfl⟩
        refine ⟨Fg.vT rfl (by decide) fun ac w h => ?_, ?_⟩
        · have e3 : ac.tmps.getD 3 undef = Value.pointer (some ⟨w0.heap.size + 1, 0, none⟩) := h.rest 3 (by kernel_rfl)
          refine ⟨b.v, w, wants_none rfl, ?_, gb_refl _ _, rfl⟩
          exact ldE rfl e3 (HB.out.2 w (gb_trans H4.out h.base))
        refine ⟨Fg.cT rfl (by decide) fun ac w h => ?_, ?_⟩
        · have e32 : ac.tmps.getD 32 undef = b.v := h.dep 32 (by kernel_rfl)
          refine ⟨14, #[b.v], wants_none rfl, Fg.run_call rfl rfl (by simp only [List.map_toArray, List.map_cons, List.map_nil, Act.eval, e32]) (Fg.run_enter Tryd.func14 (by kernel_rfl) (by kernel_rfl)), ?_⟩
          exact (Nr.c_from b w hRb).mono fun _ _ ⟨he, hg⟩ => ⟨_, he, hg, rfl⟩
        refine ⟨Fg.aT 33 (Nr.pL Nr.zeros) rfl (by show 5 < 110; decide) rfl fun ac w h => ?_, ?_⟩
        · refine ⟨wants_none rfl, ?_⟩
          clear h
          go_simp
          rfl
        refine ⟨Fg.aT 33 (Nr.pL Nr.zeros) rfl (by show 6 < 110; decide) rfl fun ac w h => ?_, ?_⟩
        · refine ⟨wants_none rfl, ?_⟩
          clear h
          go_simp
          rfl
        trivial
      · intro aq wq hB hsz hdf hrest hslots hpt
        obtain ⟨N5, e5, n5, b5⟩ : ∃ N, aq.tmps.getD 5 undef = .pointer (some ⟨N, 0, none⟩) ∧ w4.heap.size ≤ N ∧ Blk wq N 33 (Nr.pL Nr.zeros) := hslots 5 (by kernel_rfl)
        obtain ⟨N6, e6, n6, b6⟩ : ∃ N, aq.tmps.getD 6 undef = .pointer (some ⟨N, 0, none⟩) ∧ w4.heap.size ≤ N ∧ Blk wq N 33 (Nr.pL Nr.zeros) := hslots 6 (by kernel_rfl)
        obtain ⟨u30, e30⟩ : ∃ u, aq.tmps.getD 30 undef = u := ⟨_, rfl⟩
        have e31 : aq.tmps.getD 31 undef = Nr.nV (num a.m) := hslots 31 (by kernel_rfl)
        obtain ⟨u32, e32⟩ : ∃ u, aq.tmps.getD 32 undef = u := ⟨_, rfl⟩
        have e33 : aq.tmps.getD 33 undef = Nr.nV (num b.m) := hslots 33 (by kernel_rfl)
        have h56 : N5 ≠ N6 := fun e => (hpt 5 (by decide) N5 e5).2 6 (by decide) (by decide) (by rw [e6, e])
        obtain rfl := Fg.frame_is (a := aq) (vs := [Value.agg #[Value.int IntKind.u64 a.x0, Value.int IntKind.u64 a.x1, Value.int IntKind.u64 a.x2, Value.int IntKind.u64 a.x3, Value.int IntKind.u64 a.x4], Value.agg #[Value.int IntKind.u64 b.x0, Value.int IntKind.u64 b.x1, Value.int IntKind.u64 b.x2, Value.int IntKind.u64 b.x3, Value.int IntKind.u64 b.x4], Value.pointer (some ⟨w0.heap.size, 0, none⟩), Value.pointer (some ⟨w0.heap.size + 1, 0, none⟩), Value.bool false, Value.pointer (some ⟨N5, 0, none⟩), Value.pointer (some ⟨N6, 0, none⟩), undef, Value.agg #[Value.int IntKind.u64 a.x0, Value.int IntKind.u64 a.x1, Value.int IntKind.u64 a.x2, Value.int IntKind.u64 a.x3, Value.int IntKind.u64 a.x4], Value.bool true, Value.bool false, Value.bool false, Value.agg #[Value.int IntKind.u64 b.x0, Value.int IntKind.u64 b.x1, Value.int IntKind.u64 b.x2, Value.int IntKind.u64 b.x3, Value.int IntKind.u64 b.x4], Value.bool true, Value.bool false, Value.bool false, undef, undef, undef, undef, undef, undef, undef, undef, undef, undef, undef, undef, undef, undef, u30, Nr.nV (num a.m), u32, Nr.nV (num b.m), undef, undef, undef, undef, undef, undef, undef, undef, undef, undef, undef, undef, undef, undef, undef, undef, undef, undef, undef, undef, undef, undef, undef, undef, undef, undef, undef, undef, undef, undef, undef, undef, undef, undef, undef, undef, undef, undef, undef, undef, undef, undef, undef, undef, undef, undef, undef, undef, undef, undef, undef, undef, undef, undef, undef, undef, undef, undef, undef, undef, undef, undef, undef, undef, undef, undef, undef, undef, undef, undef, undef, undef, undef, undef, undef, undef]) hsz ⟨hrest 0 (by kernel_rfl), hrest 1 (by kernel_rfl), hrest 2 (by kernel_rfl), hrest 3 (by kernel_rfl), hrest 4 (by kernel_rfl), e5, e6, hrest 7 (by kernel_rfl), hrest 8 (by kernel_rfl), hrest 9 (by kernel_rfl), hrest 10 (by kernel_rfl), hrest 11 (by kernel_rfl), hrest 12 (by kernel_rfl), hrest 13 (by kernel_rfl), hrest 14 (by kernel_rfl), hrest 15 (by kernel_rfl), hrest 16 (by kernel_rfl), hrest 17 (by kernel_rfl), hrest 18 (by kernel_rfl), hrest 19 (by kernel_rfl), hrest 20 (by kernel_rfl), hrest 21 (by kernel_rfl), hrest 22 (by kernel_rfl), hrest 23 (by kernel_rfl), hrest 24 (by kernel_rfl), hrest 25 (by kernel_rfl), hrest 26 (by kernel_rfl), hrest 27 (by kernel_rfl), hrest 28 (by kernel_rfl), hrest 29 (by kernel_rfl), e30, e31, e32, e33, hrest 34 (by kernel_rfl), hrest 35 (by kernel_rfl), hrest 36 (by kernel_rfl), hrest 37 (by kernel_rfl), hrest 38 (by kernel_rfl), hrest 39 (by kernel_rfl), hrest 40 (by kernel_rfl), hrest 41 (by kernel_rfl), hrest 42 (by kernel_rfl), hrest 43 (by kernel_rfl), hrest 44 (by kernel_rfl), hrest 45 (by kernel_rfl), hrest 46 (by kernel_rfl), hrest 47 (by kernel_rfl), hrest 48 (by kernel_rfl), hrest 49 (by kernel_rfl), hrest 50 (by kernel_rfl), hrest 51 (by kernel_rfl), hrest 52 (by kernel_rfl), hrest 53 (by kernel_rfl), hrest 54 (by kernel_rfl), hrest 55 (by kernel_rfl), hrest 56 (by kernel_rfl), hrest 57 (by kernel_rfl), hrest 58 (by kernel_rfl), hrest 59 (by kernel_rfl), hrest 60 (by kernel_rfl), hrest 61 (by kernel_rfl), hrest 62 (by kernel_rfl), hrest 63 (by kernel_rfl), hrest 64 (by kernel_rfl), hrest 65 (by kernel_rfl), hrest 66 (by kernel_rfl), hrest 67 (by kernel_rfl), hrest 68 (by kernel_rfl), hrest 69 (by kernel_rfl), hrest 70 (by kernel_rfl), hrest 71 (by kernel_rfl), hrest 72 (by kernel_rfl), hrest 73 (by kernel_rfl), hrest 74 (by kernel_rfl), hrest 75 (by kernel_rfl), hrest 76 (by kernel_rfl), hrest 77 (by kernel_rfl), hrest 78 (by kernel_rfl), hrest 79 (by kernel_rfl), hrest 80 (by kernel_rfl), hrest 81 (by kernel_rfl), hrest 82 (by kernel_rfl), hrest 83 (by kernel_rfl), hrest 84 (by kernel_rfl), hrest 85 (by kernel_rfl), hrest 86 (by kernel_rfl), hrest 87 (by kernel_rfl), hrest 88 (by kernel_rfl), hrest 89 (by kernel_rfl), hrest 90 (by kernel_rfl), hrest 91 (by kernel_rfl), hrest 92 (by kernel_rfl), hrest 93 (by kernel_rfl), hrest 94 (by kernel_rfl), hrest 95 (by kernel_rfl), hrest 96 (by kernel_rfl), hrest 97 (by kernel_rfl), hrest 98 (by kernel_rfl), hrest 99 (by kernel_rfl), hrest 100 (by kernel_rfl), hrest 101 (by kernel_rfl), hrest 102 (by kernel_rfl), hrest 103 (by kernel_rfl), hrest 104 (by kernel_rfl), hrest 105 (by kernel_rfl), hrest 106 (by kernel_rfl), hrest 107 (by kernel_rfl), hrest 108 (by kernel_rfl), hrest 109 (by kernel_rfl), trivial⟩ hdf
        clear hsz hdf hrest hslots hpt e5 e6 e30 e31 e32 e33
        refine Fg.wpl_skip rfl rfl (Nr.st (l := num a.m) rfl rfl rfl b5 rfl (Nr.num_len _) rfl) ?_
        have d5 := Nr.stored (l := num a.m) b5 rfl (Nr.num_len _)
        have d6 := b6.setCells_other (cs := Nr.pL (num a.m)) (C := N5) 0 h56
        have dg := gb_setCells_new (cs := Nr.pL (num a.m)) hB (B := N5) n5 0
        refine Fg.wpl_skip rfl rfl (Nr.st (l := num b.m) rfl rfl rfl d6 rfl (Nr.num_len _) rfl) ?_
        refine wpList_nil ?_
        have f5 := d5.setCells_other (cs := Nr.pL (num b.m)) (C := N6) 0 (Ne.symm h56)
        have f6 := Nr.stored (l := num b.m) d6 rfl (Nr.num_len _)
        have fg := gb_setCells_new (cs := Nr.pL (num b.m)) dg (B := N6) n6 0
        have z6 := f6.lt
        clear d5 d6 dg b5 b6 hB n5 n6 h56
        revert z6; revert fg; revert f6; revert f5
        generalize World.setCells (World.setCells _ _ _ _) _ _ _ = w6
        intro f5 f6 fg z6
        go_upto_region 6 with (fail)
        refine wp_region_lit ?_
        refine Fg.wpl_value (v := Nr.nV Nr.zeros) (w' := w6) rfl (by go_simp; rfl) ?_
        simp only [Act.put, List.setIfInBounds_toArray, List.set_cons_succ, List.set_cons_zero]
        refine Fg.wpl_value (v := .pointer (some ⟨w6.heap.size, 0, none⟩)) (w' := w6.alloc (.cells (Nr.pL Nr.zeros).toArray 33)) rfl (by go_simp; rfl) ?_
        simp only [Act.put, List.setIfInBounds_toArray, List.set_cons_succ, List.set_cons_zero]
        refine Fg.wpl_skip rfl rfl (Nr.st (l := Nr.zeros) rfl rfl rfl (Nr.new (w := w6) rfl Nr.zeros) rfl rfl rfl) ?_
        refine wpList_nil ?_
        obtain ⟨h7, g7, s7⟩ := Nr.var w6 Nr.zeros rfl
        revert h7 g7 s7
        generalize World.setCells _ _ _ _ = w7
        intro h7 g7 s7
        have h7 : Blk w7 w6.heap.size 33 (Nr.pL (num 0)) := by rw [Nr.num_zero]; exact h7
        have H7 := Lib.hid (And.intro (gb_trans (gb_trans H4.out fg) g7) (And.intro (f5.grown g7 (by simp)) (And.intro (f6.grown g7 (by simp)) h7))); clear fg f5 f6 h7 g7
        obtain ⟨N7, hN7⟩ : ∃ N7, N7 = w6.heap.size := ⟨_, rfl⟩
        rw [← hN7] at H7 ⊢
        clear hN7 s7 z6
        go_upto_region 7 with (fail)
        refine Fg.region_t [] [.any, .any, .any, .any, .any, .any, .any, .any, .any, .any, .any, .any, .any, .any, .any, .any, .any, .any, .any, .any, .any, .any, .any, .any, .any, .any, .any, .any, .any, .any, .any, .any, .any, .any, .any, .val (a.v), .val (b.v), .val ((Fe.addF a b).v), .val (Nr.nV (num a.m)), .val (Nr.nV (num b.m)), .val (Nr.nV (num (a.m + b.m))), .val (Value.bool true), .val (Value.bool false), .val (Value.bool false), .val (a.v), .val (b.v), .val ((Fe.subF a b).v), .val (Nr.nV (num a.m)), .val (Nr.nV (num b.m)), .val (Nr.nV (num (a.m + (Fe.P - b.m)))), .val (Value.bool true), .val (Value.bool false), .val (Value.bool false), .val (Value.bool false), .val (a.v), .val (b.v), .val ((Fe.mulF a b).v), .val (Nr.nV (num a.m)), .val (Nr.nV (num b.m)), .val (Nr.nV (num (a.m * b.m))), .val (Value.bool true), .val (Value.bool false), .val (Value.bool false)] w7 28 (gb_refl _ _) (by kernel_rfl) (by kernel_rfl) (by kernel_rfl) (by kernel_rfl) (by decide) (by kernel_rfl) ?_ ?_
        · refine ⟨Fg.vT rfl (by decide) fun ac w h => ?_, ?_⟩
          · have e2 : ac.tmps.getD 2 undef = Value.pointer (some ⟨w0.heap.size, 0, none⟩) := h.rest 2 (by kernel_rfl)
            refine ⟨a.v, w, wants_none rfl, ?_, gb_refl _ _, rfl⟩
            exact ldE rfl e2 (HB.out.1 w (gb_trans H7.out.1 h.base))
          refine ⟨Fg.vT rfl (by decide) fun ac w h => ?_, ?_⟩
          · have e3 : ac.tmps.getD 3 undef = Value.pointer (some ⟨w0.heap.size + 1, 0, none⟩) := h.rest 3 (by kernel_rfl)
            refine ⟨b.v, w, wants_none rfl, ?_, gb_refl _ _, rfl⟩
            exact ldE rfl e3 (HB.out.2 w (gb_trans H7.out.1 h.base))
          refine ⟨Fg.cT rfl (by decide) fun ac w h => ?_, ?_⟩
          · have e35 : ac.tmps.getD 35 undef = a.v := h.dep 35 (by kernel_rfl)
            have e36 : ac.tmps.getD 36 undef = b.v := h.dep 36 (by kernel_rfl)
            refine ⟨8, #[a.v, b.v], wants_none rfl, Fg.run_call rfl rfl (by simp only [List.map_toArray, List.map_cons, List.map_nil, Act.eval, e35, e36]) (Fg.run_enter Tryd.func8 (by kernel_rfl) (by kernel_rfl)), ?_⟩
            exact (feOut_and (add_any a b w HO.out.1 HO.out.2)).mono fun _ _ ⟨he, hg⟩ => ⟨_, he, hg, rfl⟩
          refine ⟨Fg.vT rfl (by decide) fun ac w h => ?_, ?_⟩
          · have e5 : ac.tmps.getD 5 undef = Value.pointer (some ⟨N5, 0, none⟩) := h.rest 5 (by kernel_rfl)
            refine ⟨Nr.nV (num a.m), w, wants_none rfl, ?_, gb_refl _ _, rfl⟩
            exact Nr.ld rfl e5 (H7.out.2.1.grown h.base (by simp)) (Nr.num_len _) rfl rfl
          refine ⟨Fg.vT rfl (by decide) fun ac w h => ?_, ?_⟩
          · have e6 : ac.tmps.getD 6 undef = Value.pointer (some ⟨N6, 0, none⟩) := h.rest 6 (by kernel_rfl)
            refine ⟨Nr.nV (num b.m), w, wants_none rfl, ?_, gb_refl _ _, rfl⟩
            exact Nr.ld rfl e6 (H7.out.2.2.1.grown h.base (by simp)) (Nr.num_len _) rfl rfl
          refine ⟨Fg.cT rfl (by decide) fun ac w h => ?_, ?_⟩
          · have e38 : ac.tmps.getD 38 undef = Nr.nV (num a.m) := h.dep 38 (by kernel_rfl)
            have e39 : ac.tmps.getD 39 undef = Nr.nV (num b.m) := h.dep 39 (by kernel_rfl)
            refine ⟨16, #[Nr.nV (num a.m), Nr.nV (num b.m)], wants_none rfl, Fg.run_call rfl rfl (by simp only [List.map_toArray, List.map_cons, List.map_nil, Act.eval, e38, e39]) (Fg.run_enter Tryd.func16 (by kernel_rfl) (by kernel_rfl)), ?_⟩
            exact (Nr.c_add a.m b.m w (Fe.m_lt a) (Fe.m_lt b)).mono fun _ _ ⟨he, hg⟩ => ⟨_, he, hg, rfl⟩
          refine ⟨Fg.cT rfl (by decide) fun ac w h => ?_, ?_⟩
          · have e37 : ac.tmps.getD 37 undef = (Fe.addF a b).v := h.dep 37 (by kernel_rfl)
            have e40 : ac.tmps.getD 40 undef = Nr.nV (num (a.m + b.m)) := h.dep 40 (by kernel_rfl)
            refine ⟨15, #[(Fe.addF a b).v, Nr.nV (num (a.m + b.m))], wants_none rfl, Fg.run_call rfl rfl (by simp only [List.map_toArray, List.map_cons, List.map_nil, Act.eval, e37, e40]) (Fg.run_enter Tryd.func15 (by kernel_rfl) (by kernel_rfl)), ?_⟩
            exact (Nr.is_add w hRa hRb).mono fun _ _ ⟨he, hg⟩ => ⟨_, he, hg, rfl⟩
          refine ⟨Fg.vT rfl (by decide) fun ac w h => ?_, ?_⟩
          · have e41 : ac.tmps.getD 41 undef = Value.bool true := h.dep 41 (by kernel_rfl)
            refine ⟨Value.bool false, w, wants_none rfl, ?_, gb_refl _ _, rfl⟩
            clear h
            simp only [execOp, Act.eval, e41]
            go_simp
          refine ⟨Fg.vT rfl (by decide) fun ac w h => ?_, ?_⟩
          · have e42 : ac.tmps.getD 42 undef = Value.bool false := h.dep 42 (by kernel_rfl)
            exact ⟨_, w, wants_none rfl, Fg.run_move rfl e42, gb_refl _ _, rfl⟩
          refine ⟨Fg.vT rfl (by decide) fun ac w h => ?_, ?_⟩
          · have e43 : ac.tmps.getD 43 undef = Value.bool false := h.dep 43 (by kernel_rfl)
            have e2 : ac.tmps.getD 2 undef = Value.pointer (some ⟨w0.heap.size, 0, none⟩) := h.rest 2 (by kernel_rfl)
            refine ⟨a.v, w, wants_some (d := 43) rfl rfl (by rw [h.size]; show 43 < 110; decide) e43, ?_, gb_refl _ _, rfl⟩
            exact ldE rfl e2 (HB.out.1 w (gb_trans H7.out.1 h.base))
          refine ⟨Fg.vT rfl (by decide) fun ac w h => ?_, ?_⟩
          · have e43 : ac.tmps.getD 43 undef = Value.bool false := h.dep 43 (by kernel_rfl)
            have e3 : ac.tmps.getD 3 undef = Value.pointer (some ⟨w0.heap.size + 1, 0, none⟩) := h.rest 3 (by kernel_rfl)
            refine ⟨b.v, w, wants_some (d := 43) rfl rfl (by rw [h.size]; show 43 < 110; decide) e43, ?_, gb_refl _ _, rfl⟩
            exact ldE rfl e3 (HB.out.2 w (gb_trans H7.out.1 h.base))
          refine ⟨Fg.cT rfl (by decide) fun ac w h => ?_, ?_⟩
          · have e43 : ac.tmps.getD 43 undef = Value.bool false := h.dep 43 (by kernel_rfl)
            have e44 : ac.tmps.getD 44 undef = a.v := h.dep 44 (by kernel_rfl)
            have e45 : ac.tmps.getD 45 undef = b.v := h.dep 45 (by kernel_rfl)
            refine ⟨9, #[a.v, b.v], wants_some (d := 43) rfl rfl (by rw [h.size]; show 43 < 110; decide) e43, Fg.run_call rfl rfl (by simp only [List.map_toArray, List.map_cons, List.map_nil, Act.eval, e44, e45]) (Fg.run_enter Tryd.func9 (by kernel_rfl) (by kernel_rfl)), ?_⟩
            exact (feOut_and (sub_any a b w (HT.out.grown (gb_trans H2.out.1 (gb_trans H7.out.1 h.base))) HO.out.1 HO.out.2)).mono fun _ _ ⟨he, hg⟩ => ⟨_, he, hg, rfl⟩
          refine ⟨Fg.vT rfl (by decide) fun ac w h => ?_, ?_⟩
          · have e43 : ac.tmps.getD 43 undef = Value.bool false := h.dep 43 (by kernel_rfl)
            have e5 : ac.tmps.getD 5 undef = Value.pointer (some ⟨N5, 0, none⟩) := h.rest 5 (by kernel_rfl)
            refine ⟨Nr.nV (num a.m), w, wants_some (d := 43) rfl rfl (by rw [h.size]; show 43 < 110; decide) e43, ?_, gb_refl _ _, rfl⟩
            exact Nr.ld rfl e5 (H7.out.2.1.grown h.base (by simp)) (Nr.num_len _) rfl rfl
          refine ⟨Fg.vT rfl (by decide) fun ac w h => ?_, ?_⟩
          · have e43 : ac.tmps.getD 43 undef = Value.bool false := h.dep 43 (by kernel_rfl)
            have e6 : ac.tmps.getD 6 undef = Value.pointer (some ⟨N6, 0, none⟩) := h.rest 6 (by kernel_rfl)
            refine ⟨Nr.nV (num b.m), w, wants_some (d := 43) rfl rfl (by rw [h.size]; show 43 < 110; decide) e43, ?_, gb_refl _ _, rfl⟩
            exact Nr.ld rfl e6 (H7.out.2.2.1.grown h.base (by simp)) (Nr.num_len _) rfl rfl
          refine ⟨Fg.cT rfl (by decide) fun ac w h => ?_, ?_⟩
          · have e43 : ac.tmps.getD 43 undef = Value.bool false := h.dep 43 (by kernel_rfl)
            have e47 : ac.tmps.getD 47 undef = Nr.nV (num a.m) := h.dep 47 (by kernel_rfl)
            have e48 : ac.tmps.getD 48 undef = Nr.nV (num b.m) := h.dep 48 (by kernel_rfl)
            refine ⟨17, #[Nr.nV (num a.m), Nr.nV (num b.m)], wants_some (d := 43) rfl rfl (by rw [h.size]; show 43 < 110; decide) e43, Fg.run_call rfl rfl (by simp only [List.map_toArray, List.map_cons, List.map_nil, Act.eval, e47, e48]) (Fg.run_enter Tryd.func17 (by kernel_rfl) (by kernel_rfl)), ?_⟩
            exact (Nr.c_sub a.m b.m w (Fe.m_lt a) (Fe.m_lt b)).mono fun _ _ ⟨he, hg⟩ => ⟨_, he, hg, rfl⟩
          refine ⟨Fg.cT rfl (by decide) fun ac w h => ?_, ?_⟩
          · have e43 : ac.tmps.getD 43 undef = Value.bool false := h.dep 43 (by kernel_rfl)
            have e46 : ac.tmps.getD 46 undef = (Fe.subF a b).v := h.dep 46 (by kernel_rfl)
            have e49 : ac.tmps.getD 49 undef = Nr.nV (num (a.m + (Fe.P - b.m))) := h.dep 49 (by kernel_rfl)
            refine ⟨15, #[(Fe.subF a b).v, Nr.nV (num (a.m + (Fe.P - b.m)))], wants_some (d := 43) rfl rfl (by rw [h.size]; show 43 < 110; decide) e43, Fg.run_call rfl rfl (by simp only [List.map_toArray, List.map_cons, List.map_nil, Act.eval, e46, e49]) (Fg.run_enter Tryd.func15 (by kernel_rfl) (by kernel_rfl)), ?_⟩
            exact (Nr.is_sub w hRa hRb).mono fun _ _ ⟨he, hg⟩ => ⟨_, he, hg, rfl⟩
          refine ⟨Fg.vT rfl (by decide) fun ac w h => ?_, ?_⟩
          · have e43 : ac.tmps.getD 43 undef = Value.bool false := h.dep 43 (by kernel_rfl)
            have e50 : ac.tmps.getD 50 undef = Value.bool true := h.dep 50 (by kernel_rfl)
            refine ⟨Value.bool false, w, wants_some (d := 43) rfl rfl (by rw [h.size]; show 43 < 110; decide) e43, ?_, gb_refl _ _, rfl⟩
            clear h
            simp only [execOp, Act.eval, e50]
            go_simp
          refine ⟨Fg.vT rfl (by decide) fun ac w h => ?_, ?_⟩
          · have e43 : ac.tmps.getD 43 undef = Value.bool false := h.dep 43 (by kernel_rfl)
            have e51 : ac.tmps.getD 51 undef = Value.bool false := h.dep 51 (by kernel_rfl)
            refine ⟨Value.bool false, w, wants_none rfl, ?_, gb_refl _ _, rfl⟩
            clear h
            simp only [execOp, Act.eval, e43, e51]
            go_simp
          refine ⟨Fg.vT rfl (by decide) fun ac w h => ?_, ?_⟩
          · have e52 : ac.tmps.getD 52 undef = Value.bool false := h.dep 52 (by kernel_rfl)
            exact ⟨_, w, wants_none rfl, Fg.run_move rfl e52, gb_refl _ _, rfl⟩
          refine ⟨Fg.vT rfl (by decide) fun ac w h => ?_, ?_⟩
          · have e53 : ac.tmps.getD 53 undef = Value.bool false := h.dep 53 (by kernel_rfl)
            have e2 : ac.tmps.getD 2 undef = Value.pointer (some ⟨w0.heap.size, 0, none⟩) := h.rest 2 (by kernel_rfl)
            refine ⟨a.v, w, wants_some (d := 53) rfl rfl (by rw [h.size]; show 53 < 110; decide) e53, ?_, gb_refl _ _, rfl⟩
            exact ldE rfl e2 (HB.out.1 w (gb_trans H7.out.1 h.base))
          refine ⟨Fg.vT rfl (by decide) fun ac w h => ?_, ?_⟩
          · have e53 : ac.tmps.getD 53 undef = Value.bool false := h.dep 53 (by kernel_rfl)
            have e3 : ac.tmps.getD 3 undef = Value.pointer (some ⟨w0.heap.size + 1, 0, none⟩) := h.rest 3 (by kernel_rfl)
            refine ⟨b.v, w, wants_some (d := 53) rfl rfl (by rw [h.size]; show 53 < 110; decide) e53, ?_, gb_refl _ _, rfl⟩
            exact ldE rfl e3 (HB.out.2 w (gb_trans H7.out.1 h.base))
          refine ⟨Fg.cT rfl (by decide) fun ac w h => ?_, ?_⟩
          · have e53 : ac.tmps.getD 53 undef = Value.bool false := h.dep 53 (by kernel_rfl)
            have e54 : ac.tmps.getD 54 undef = a.v := h.dep 54 (by kernel_rfl)
            have e55 : ac.tmps.getD 55 undef = b.v := h.dep 55 (by kernel_rfl)
            refine ⟨7, #[a.v, b.v], wants_some (d := 53) rfl rfl (by rw [h.size]; show 53 < 110; decide) e53, Fg.run_call rfl rfl (by simp only [List.map_toArray, List.map_cons, List.map_nil, Act.eval, e54, e55]) (Fg.run_enter Tryd.func7 (by kernel_rfl) (by kernel_rfl)), ?_⟩
            exact (feOut_and (mul_fe a b w HO.out.1 HO.out.2)).mono fun _ _ ⟨he, hg⟩ => ⟨_, he, hg, rfl⟩
          refine ⟨Fg.vT rfl (by decide) fun ac w h => ?_, ?_⟩
          · have e53 : ac.tmps.getD 53 undef = Value.bool false := h.dep 53 (by kernel_rfl)
            have e5 : ac.tmps.getD 5 undef = Value.pointer (some ⟨N5, 0, none⟩) := h.rest 5 (by kernel_rfl)
            refine ⟨Nr.nV (num a.m), w, wants_some (d := 53) rfl rfl (by rw [h.size]; show 53 < 110; decide) e53, ?_, gb_refl _ _, rfl⟩
            exact Nr.ld rfl e5 (H7.out.2.1.grown h.base (by simp)) (Nr.num_len _) rfl rfl
          refine ⟨Fg.vT rfl (by decide) fun ac w h => ?_, ?_⟩
          · have e53 : ac.tmps.getD 53 undef = Value.bool false := h.dep 53 (by kernel_rfl)
            have e6 : ac.tmps.getD 6 undef = Value.pointer (some ⟨N6, 0, none⟩) := h.rest 6 (by kernel_rfl)
            refine ⟨Nr.nV (num b.m), w, wants_some (d := 53) rfl rfl (by rw [h.size]; show 53 < 110; decide) e53, ?_, gb_refl _ _, rfl⟩
            exact Nr.ld rfl e6 (H7.out.2.2.1.grown h.base (by simp)) (Nr.num_len _) rfl rfl
          refine ⟨Fg.cT rfl (by decide) fun ac w h => ?_, ?_⟩
          · have e53 : ac.tmps.getD 53 undef = Value.bool false := h.dep 53 (by kernel_rfl)
            have e57 : ac.tmps.getD 57 undef = Nr.nV (num a.m) := h.dep 57 (by kernel_rfl)
            have e58 : ac.tmps.getD 58 undef = Nr.nV (num b.m) := h.dep 58 (by kernel_rfl)
            refine ⟨18, #[Nr.nV (num a.m), Nr.nV (num b.m)], wants_some (d := 53) rfl rfl (by rw [h.size]; show 53 < 110; decide) e53, Fg.run_call rfl rfl (by simp only [List.map_toArray, List.map_cons, List.map_nil, Act.eval, e57, e58]) (Fg.run_enter Tryd.func18 (by kernel_rfl) (by kernel_rfl)), ?_⟩
            exact (Nr.c_mul a.m b.m w (Fe.m_lt a) (Fe.m_lt b)).mono fun _ _ ⟨he, hg⟩ => ⟨_, he, hg, rfl⟩
          refine ⟨Fg.cT rfl (by decide) fun ac w h => ?_, ?_⟩
          · have e53 : ac.tmps.getD 53 undef = Value.bool false := h.dep 53 (by kernel_rfl)
            have e56 : ac.tmps.getD 56 undef = (Fe.mulF a b).v := h.dep 56 (by kernel_rfl)
            have e59 : ac.tmps.getD 59 undef = Nr.nV (num (a.m * b.m)) := h.dep 59 (by kernel_rfl)
            refine ⟨15, #[(Fe.mulF a b).v, Nr.nV (num (a.m * b.m))], wants_some (d := 53) rfl rfl (by rw [h.size]; show 53 < 110; decide) e53, Fg.run_call rfl rfl (by simp only [List.map_toArray, List.map_cons, List.map_nil, Act.eval, e56, e59]) (Fg.run_enter Tryd.func15 (by kernel_rfl) (by kernel_rfl)), ?_⟩
            exact (Nr.is_mul w hRa hRb).mono fun _ _ ⟨he, hg⟩ => ⟨_, he, hg, rfl⟩
          refine ⟨Fg.vT rfl (by decide) fun ac w h => ?_, ?_⟩
          · have e53 : ac.tmps.getD 53 undef = Value.bool false := h.dep 53 (by kernel_rfl)
            have e60 : ac.tmps.getD 60 undef = Value.bool true := h.dep 60 (by kernel_rfl)
            refine ⟨Value.bool false, w, wants_some (d := 53) rfl rfl (by rw [h.size]; show 53 < 110; decide) e53, ?_, gb_refl _ _, rfl⟩
            clear h
            simp only [execOp, Act.eval, e60]
            go_simp
          refine ⟨Fg.vT rfl (by decide) fun ac w h => ?_, ?_⟩
          · have e53 : ac.tmps.getD 53 undef = Value.bool false := h.dep 53 (by kernel_rfl)
            have e61 : ac.tmps.getD 61 undef = Value.bool false := h.dep 61 (by kernel_rfl)
            refine ⟨Value.bool false, w, wants_none rfl, ?_, gb_refl _ _, rfl⟩
            clear h
            simp only [execOp, Act.eval, e53, e61]
            go_simp
          trivial
        · intro ar w8 hB hsz hdf hrest hslots hpt
          obtain ⟨u35, e35⟩ : ∃ u, ar.tmps.getD 35 undef = u := ⟨_, rfl⟩
          obtain ⟨u36, e36⟩ : ∃ u, ar.tmps.getD 36 undef = u := ⟨_, rfl⟩
          obtain ⟨u37, e37⟩ : ∃ u, ar.tmps.getD 37 undef = u := ⟨_, rfl⟩
          obtain ⟨u38, e38⟩ : ∃ u, ar.tmps.getD 38 undef = u := ⟨_, rfl⟩
          obtain ⟨u39, e39⟩ : ∃ u, ar.tmps.getD 39 undef = u := ⟨_, rfl⟩
          obtain ⟨u40, e40⟩ : ∃ u, ar.tmps.getD 40 undef = u := ⟨_, rfl⟩
          obtain ⟨u41, e41⟩ : ∃ u, ar.tmps.getD 41 undef = u := ⟨_, rfl⟩
          obtain ⟨u42, e42⟩ : ∃ u, ar.tmps.getD 42 undef = u := ⟨_, rfl⟩
          obtain ⟨u43, e43⟩ : ∃ u, ar.tmps.getD 43 undef = u := ⟨_, rfl⟩
          obtain ⟨u44, e44⟩ : ∃ u, ar.tmps.getD 44 undef = u := ⟨_, rfl⟩
          obtain ⟨u45, e45⟩ : ∃ u, ar.tmps.getD 45 undef = u := ⟨_, rfl⟩
          obtain ⟨u46, e46⟩ : ∃ u, ar.tmps.getD 46 undef = u := ⟨_, rfl⟩
          obtain ⟨u47, e47⟩ : ∃ u, ar.tmps.getD 47 undef = u := ⟨_, rfl⟩
          obtain ⟨u48, e48⟩ : ∃ u, ar.tmps.getD 48 undef = u := ⟨_, rfl⟩
          obtain ⟨u49, e49⟩ : ∃ u, ar.tmps.getD 49 undef = u := ⟨_, rfl⟩
          obtain ⟨u50, e50⟩ : ∃ u, ar.tmps.getD 50 undef = u := ⟨_, rfl⟩
          obtain ⟨u51, e51⟩ : ∃ u, ar.tmps.getD 51 undef = u := ⟨_, rfl⟩
          obtain ⟨u52, e52⟩ : ∃ u, ar.tmps.getD 52 undef = u := ⟨_, rfl⟩
          obtain ⟨u53, e53⟩ : ∃ u, ar.tmps.getD 53 undef = u := ⟨_, rfl⟩
          obtain ⟨u54, e54⟩ : ∃ u, ar.tmps.getD 54 undef = u := ⟨_, rfl⟩
          obtain ⟨u55, e55⟩ : ∃ u, ar.tmps.getD 55 undef = u := ⟨_, rfl⟩
          obtain ⟨u56, e56⟩ : ∃ u, ar.tmps.getD 56 undef = u := ⟨_, rfl⟩
          obtain ⟨u57, e57⟩ : ∃ u, ar.tmps.getD 57 undef = u := ⟨_, rfl⟩
          obtain ⟨u58, e58⟩ : ∃ u, ar.tmps.getD 58 undef = u := ⟨_, rfl⟩
          obtain ⟨u59, e59⟩ : ∃ u, ar.tmps.getD 59 undef = u := ⟨_, rfl⟩
          obtain ⟨u60, e60⟩ : ∃ u, ar.tmps.getD 60 undef = u := ⟨_, rfl⟩
          obtain ⟨u61, e61⟩ : ∃ u, ar.tmps.getD 61 undef = u := ⟨_, rfl⟩
          have e62 : ar.tmps.getD 62 undef = Value.bool false := hslots 62 (by kernel_rfl)
          obtain rfl := Fg.frame_is (a := ar) (vs := [Value.agg #[Value.int IntKind.u64 a.x0, Value.int IntKind.u64 a.x1, Value.int IntKind.u64 a.x2, Value.int IntKind.u64 a.x3, Value.int IntKind.u64 a.x4], Value.agg #[Value.int IntKind.u64 b.x0, Value.int IntKind.u64 b.x1, Value.int IntKind.u64 b.x2, Value.int IntKind.u64 b.x3, Value.int IntKind.u64 b.x4], Value.pointer (some ⟨w0.heap.size, 0, none⟩), Value.pointer (some ⟨w0.heap.size + 1, 0, none⟩), Value.bool false, Value.pointer (some ⟨N5, 0, none⟩), Value.pointer (some ⟨N6, 0, none⟩), Value.pointer (some ⟨N7, 0, none⟩), Value.agg #[Value.int IntKind.u64 a.x0, Value.int IntKind.u64 a.x1, Value.int IntKind.u64 a.x2, Value.int IntKind.u64 a.x3, Value.int IntKind.u64 a.x4], Value.bool true, Value.bool false, Value.bool false, Value.agg #[Value.int IntKind.u64 b.x0, Value.int IntKind.u64 b.x1, Value.int IntKind.u64 b.x2, Value.int IntKind.u64 b.x3, Value.int IntKind.u64 b.x4], Value.bool true, Value.bool false, Value.bool false, undef, undef, undef, undef, undef, undef, undef, undef, undef, undef, undef, undef, undef, undef, u30, Nr.nV (num a.m), u32, Nr.nV (num b.m), Nr.nV Nr.zeros, u35, u36, u37, u38, u39, u40, u41, u42, u43, u44, u45, u46, u47, u48, u49, u50, u51, u52, u53, u54, u55, u56, u57, u58, u59, u60, u61, Value.bool false, undef, undef, undef, undef, undef, undef, undef, undef, undef, undef, undef, undef, undef, undef, undef, undef, undef, undef, undef, undef, undef, undef, undef, undef, undef, undef, undef, undef, undef, undef, undef, undef, undef, undef, undef, undef, undef, undef, undef, undef, undef, undef, undef, undef, undef, undef, undef]) hsz ⟨hrest 0 (by kernel_rfl), hrest 1 (by kernel_rfl), hrest 2 (by kernel_rfl), hrest 3 (by kernel_rfl), hrest 4 (by kernel_rfl), hrest 5 (by kernel_rfl), hrest 6 (by kernel_rfl), hrest 7 (by kernel_rfl), hrest 8 (by kernel_rfl), hrest 9 (by kernel_rfl), hrest 10 (by kernel_rfl), hrest 11 (by kernel_rfl), hrest 12 (by kernel_rfl), hrest 13 (by kernel_rfl), hrest 14 (by kernel_rfl), hrest 15 (by kernel_rfl), hrest 16 (by kernel_rfl), hrest 17 (by kernel_rfl), hrest 18 (by kernel_rfl), hrest 19 (by kernel_rfl), hrest 20 (by kernel_rfl), hrest 21 (by kernel_rfl), hrest 22 (by kernel_rfl), hrest 23 (by kernel_rfl), hrest 24 (by kernel_rfl), hrest 25 (by kernel_rfl), hrest 26 (by kernel_rfl), hrest 27 (by kernel_rfl), hrest 28 (by kernel_rfl), hrest 29 (by kernel_rfl), hrest 30 (by kernel_rfl), hrest 31 (by kernel_rfl), hrest 32 (by kernel_rfl), hrest 33 (by kernel_rfl), hrest 34 (by kernel_rfl), e35, e36, e37, e38, e39, e40, e41, e42, e43, e44, e45, e46, e47, e48, e49, e50, e51, e52, e53, e54, e55, e56, e57, e58, e59, e60, e61, e62, hrest 63 (by kernel_rfl), hrest 64 (by kernel_rfl), hrest 65 (by kernel_rfl), hrest 66 (by kernel_rfl), hrest 67 (by kernel_rfl), hrest 68 (by kernel_rfl), hrest 69 (by kernel_rfl), hrest 70 (by kernel_rfl), hrest 71 (by kernel_rfl), hrest 72 (by kernel_rfl), hrest 73 (by kernel_rfl), hrest 74 (by kernel_rfl), hrest 75 (by kernel_rfl), hrest 76 (by kernel_rfl), hrest 77 (by kernel_rfl), hrest 78 (by kernel_rfl), hrest 79 (by kernel_rfl), hrest 80 (by kernel_rfl), hrest 81 (by kernel_rfl), hrest 82 (by kernel_rfl), hrest 83 (by kernel_rfl), hrest 84 (by kernel_rfl), hrest 85 (by kernel_rfl), hrest 86 (by kernel_rfl), hrest 87 (by kernel_rfl), hrest 88 (by kernel_rfl), hrest 89 (by kernel_rfl), hrest 90 (by kernel_rfl), hrest 91 (by kernel_rfl), hrest 92 (by kernel_rfl), hrest 93 (by kernel_rfl), hrest 94 (by kernel_rfl), hrest 95 (by kernel_rfl), hrest 96 (by kernel_rfl), hrest 97 (by kernel_rfl), hrest 98 (by kernel_rfl), hrest 99 (by kernel_rfl), hrest 100 (by kernel_rfl), hrest 101 (by kernel_rfl), hrest 102 (by kernel_rfl), hrest 103 (by kernel_rfl), hrest 104 (by kernel_rfl), hrest 105 (by kernel_rfl), hrest 106 (by kernel_rfl), hrest 107 (by kernel_rfl), hrest 108 (by kernel_rfl), hrest 109 (by kernel_rfl), trivial⟩ hdf
          clear hsz hdf hrest hslots hpt e35 e36 e37 e38 e39 e40 e41 e42 e43 e44 e45 e46 e47 e48 e49 e50 e51 e52 e53 e54 e55 e56 e57 e58 e59 e60 e61 e62
          refine wpList_nil ?_
          have H8 := Lib.hid (And.intro (gb_trans H7.out.1 hB) (And.intro (H7.out.2.1.grown hB (by simp)) (And.intro (H7.out.2.2.1.grown hB (by simp)) (H7.out.2.2.2.grown hB (by simp))))); clear hB
          go_upto_region 9 with (fail)
          refine Fg.region_t [] [.any, .any, .any, .any, .any, .any, .any, .any, .any, .any, .any, .any, .any, .any, .any, .any, .any, .any, .any, .any, .any, .any, .any, .any, .any, .any, .any, .any, .any, .any, .any, .any, .any, .any, .any, .any, .any, .any, .any, .any, .any, .any, .any, .any, .any, .any, .any, .any, .any, .any, .any, .any, .any, .any, .any, .any, .any, .any, .any, .any, .any, .any, .any, .val (a.v), .val ((Fe.negF a).v), .val (Nr.nV (num 0)), .val (Nr.nV (num a.m)), .val (Nr.nV (num (0 + (Fe.P - a.m)))), .val (Value.bool true), .val (Value.bool false), .val (Value.bool false), .val (a.v), .val ((Fe.sqF a).v), .val (Nr.nV (num a.m)), .val (Nr.nV (num a.m)), .val (Nr.nV (num (a.m * a.m))), .val (Value.bool true), .val (Value.bool false), .val (Value.bool false), .val (Value.bool false), .val (Fe.oneF.v), .val (Nr.nV (num 1)), .val (Value.bool true), .val (Value.bool false), .val (Value.bool false)] w8 22 (gb_refl _ _) (by kernel_rfl) (by kernel_rfl) (by kernel_rfl) (by kernel_rfl) (by decide) (by kernel_rfl) ?_ ?_
          · refine ⟨Fg.vT rfl (by decide) fun ac w h => ?_, ?_⟩
            · have e2 : ac.tmps.getD 2 undef = Value.pointer (some ⟨w0.heap.size, 0, none⟩) := h.rest 2 (by kernel_rfl)
              refine ⟨a.v, w, wants_none rfl, ?_, gb_refl _ _, rfl⟩
              exact ldE rfl e2 (HB.out.1 w (gb_trans H8.out.1 h.base))
            refine ⟨Fg.cT rfl (by decide) fun ac w h => ?_, ?_⟩
            · have e63 : ac.tmps.getD 63 undef = a.v := h.dep 63 (by kernel_rfl)
              refine ⟨11, #[a.v], wants_none rfl, Fg.run_call rfl rfl (by simp only [List.map_toArray, List.map_cons, List.map_nil, Act.eval, e63]) (Fg.run_enter Tryd.func11 (by kernel_rfl) (by kernel_rfl)), ?_⟩
              exact (feOut_and (neg_any a w (HT.out.grown (gb_trans H2.out.1 (gb_trans H8.out.1 h.base))) HO.out.1)).mono fun _ _ ⟨he, hg⟩ => ⟨_, he, hg, rfl⟩
            refine ⟨Fg.vT rfl (by decide) fun ac w h => ?_, ?_⟩
            · have e7 : ac.tmps.getD 7 undef = Value.pointer (some ⟨N7, 0, none⟩) := h.rest 7 (by kernel_rfl)
              refine ⟨Nr.nV (num 0), w, wants_none rfl, ?_, gb_refl _ _, rfl⟩
              exact Nr.ld rfl e7 (H8.out.2.2.2.grown h.base (by simp)) (Nr.num_len _) rfl rfl
            refine ⟨Fg.vT rfl (by decide) fun ac w h => ?_, ?_⟩
            · have e5 : ac.tmps.getD 5 undef = Value.pointer (some ⟨N5, 0, none⟩) := h.rest 5 (by kernel_rfl)
              refine ⟨Nr.nV (num a.m), w, wants_none rfl, ?_, gb_refl _ _, rfl⟩
              exact Nr.ld rfl e5 (H8.out.2.1.grown h.base (by simp)) (Nr.num_len _) rfl rfl
            refine ⟨Fg.cT rfl (by decide) fun ac w h => ?_, ?_⟩
            · have e65 : ac.tmps.getD 65 undef = Nr.nV (num 0) := h.dep 65 (by kernel_rfl)
              have e66 : ac.tmps.getD 66 undef = Nr.nV (num a.m) := h.dep 66 (by kernel_rfl)
              refine ⟨17, #[Nr.nV (num 0), Nr.nV (num a.m)], wants_none rfl, Fg.run_call rfl rfl (by simp only [List.map_toArray, List.map_cons, List.map_nil, Act.eval, e65, e66]) (Fg.run_enter Tryd.func17 (by kernel_rfl) (by kernel_rfl)), ?_⟩
              exact (Nr.c_sub 0 a.m w (by decide) (Fe.m_lt a)).mono fun _ _ ⟨he, hg⟩ => ⟨_, he, hg, rfl⟩
            refine ⟨Fg.cT rfl (by decide) fun ac w h => ?_, ?_⟩
            · have e64 : ac.tmps.getD 64 undef = (Fe.negF a).v := h.dep 64 (by kernel_rfl)
              have e67 : ac.tmps.getD 67 undef = Nr.nV (num (0 + (Fe.P - a.m))) := h.dep 67 (by kernel_rfl)
              refine ⟨15, #[(Fe.negF a).v, Nr.nV (num (0 + (Fe.P - a.m)))], wants_none rfl, Fg.run_call rfl rfl (by simp only [List.map_toArray, List.map_cons, List.map_nil, Act.eval, e64, e67]) (Fg.run_enter Tryd.func15 (by kernel_rfl) (by kernel_rfl)), ?_⟩
              exact (Nr.c_is (Fe.negF a) (0 + (Fe.P - a.m)) w (Fe.neg_right a) (by rw [Nat.zero_add]; exact neg_m hRa)).mono fun _ _ ⟨he, hg⟩ => ⟨_, he, hg, rfl⟩
            refine ⟨Fg.vT rfl (by decide) fun ac w h => ?_, ?_⟩
            · have e68 : ac.tmps.getD 68 undef = Value.bool true := h.dep 68 (by kernel_rfl)
              refine ⟨Value.bool false, w, wants_none rfl, ?_, gb_refl _ _, rfl⟩
              clear h
              simp only [execOp, Act.eval, e68]
              go_simp
            refine ⟨Fg.vT rfl (by decide) fun ac w h => ?_, ?_⟩
            · have e69 : ac.tmps.getD 69 undef = Value.bool false := h.dep 69 (by kernel_rfl)
              exact ⟨_, w, wants_none rfl, Fg.run_move rfl e69, gb_refl _ _, rfl⟩
            refine ⟨Fg.vT rfl (by decide) fun ac w h => ?_, ?_⟩
            · have e70 : ac.tmps.getD 70 undef = Value.bool false := h.dep 70 (by kernel_rfl)
              have e2 : ac.tmps.getD 2 undef = Value.pointer (some ⟨w0.heap.size, 0, none⟩) := h.rest 2 (by kernel_rfl)
              refine ⟨a.v, w, wants_some (d := 70) rfl rfl (by rw [h.size]; show 70 < 110; decide) e70, ?_, gb_refl _ _, rfl⟩
              exact ldE rfl e2 (HB.out.1 w (gb_trans H8.out.1 h.base))
            refine ⟨Fg.cT rfl (by decide) fun ac w h => ?_, ?_⟩
            · have e70 : ac.tmps.getD 70 undef = Value.bool false := h.dep 70 (by kernel_rfl)
              have e71 : ac.tmps.getD 71 undef = a.v := h.dep 71 (by kernel_rfl)
              refine ⟨12, #[a.v], wants_some (d := 70) rfl rfl (by rw [h.size]; show 70 < 110; decide) e70, Fg.run_call rfl rfl (by simp only [List.map_toArray, List.map_cons, List.map_nil, Act.eval, e71]) (Fg.run_enter Tryd.func12 (by kernel_rfl) (by kernel_rfl)), ?_⟩
              exact (feOut_and (sq_fe a w HO.out.1)).mono fun _ _ ⟨he, hg⟩ => ⟨_, he, hg, rfl⟩
            refine ⟨Fg.vT rfl (by decide) fun ac w h => ?_, ?_⟩
            · have e70 : ac.tmps.getD 70 undef = Value.bool false := h.dep 70 (by kernel_rfl)
              have e5 : ac.tmps.getD 5 undef = Value.pointer (some ⟨N5, 0, none⟩) := h.rest 5 (by kernel_rfl)
              refine ⟨Nr.nV (num a.m), w, wants_some (d := 70) rfl rfl (by rw [h.size]; show 70 < 110; decide) e70, ?_, gb_refl _ _, rfl⟩
              exact Nr.ld rfl e5 (H8.out.2.1.grown h.base (by simp)) (Nr.num_len _) rfl rfl
            refine ⟨Fg.vT rfl (by decide) fun ac w h => ?_, ?_⟩
            · have e70 : ac.tmps.getD 70 undef = Value.bool false := h.dep 70 (by kernel_rfl)
              have e5 : ac.tmps.getD 5 undef = Value.pointer (some ⟨N5, 0, none⟩) := h.rest 5 (by kernel_rfl)
              refine ⟨Nr.nV (num a.m), w, wants_some (d := 70) rfl rfl (by rw [h.size]; show 70 < 110; decide) e70, ?_, gb_refl _ _, rfl⟩
              exact Nr.ld rfl e5 (H8.out.2.1.grown h.base (by simp)) (Nr.num_len _) rfl rfl
            refine ⟨Fg.cT rfl (by decide) fun ac w h => ?_, ?_⟩
            · have e70 : ac.tmps.getD 70 undef = Value.bool false := h.dep 70 (by kernel_rfl)
              have e73 : ac.tmps.getD 73 undef = Nr.nV (num a.m) := h.dep 73 (by kernel_rfl)
              have e74 : ac.tmps.getD 74 undef = Nr.nV (num a.m) := h.dep 74 (by kernel_rfl)
              refine ⟨18, #[Nr.nV (num a.m), Nr.nV (num a.m)], wants_some (d := 70) rfl rfl (by rw [h.size]; show 70 < 110; decide) e70, Fg.run_call rfl rfl (by simp only [List.map_toArray, List.map_cons, List.map_nil, Act.eval, e73, e74]) (Fg.run_enter Tryd.func18 (by kernel_rfl) (by kernel_rfl)), ?_⟩
              exact (Nr.c_mul a.m a.m w (Fe.m_lt a) (Fe.m_lt a)).mono fun _ _ ⟨he, hg⟩ => ⟨_, he, hg, rfl⟩
            refine ⟨Fg.cT rfl (by decide) fun ac w h => ?_, ?_⟩
            · have e70 : ac.tmps.getD 70 undef = Value.bool false := h.dep 70 (by kernel_rfl)
              have e72 : ac.tmps.getD 72 undef = (Fe.sqF a).v := h.dep 72 (by kernel_rfl)
              have e75 : ac.tmps.getD 75 undef = Nr.nV (num (a.m * a.m)) := h.dep 75 (by kernel_rfl)
              refine ⟨15, #[(Fe.sqF a).v, Nr.nV (num (a.m * a.m))], wants_some (d := 70) rfl rfl (by rw [h.size]; show 70 < 110; decide) e70, Fg.run_call rfl rfl (by simp only [List.map_toArray, List.map_cons, List.map_nil, Act.eval, e72, e75]) (Fg.run_enter Tryd.func15 (by kernel_rfl) (by kernel_rfl)), ?_⟩
              exact (Nr.is_sq w hRa).mono fun _ _ ⟨he, hg⟩ => ⟨_, he, hg, rfl⟩
            refine ⟨Fg.vT rfl (by decide) fun ac w h => ?_, ?_⟩
            · have e70 : ac.tmps.getD 70 undef = Value.bool false := h.dep 70 (by kernel_rfl)
              have e76 : ac.tmps.getD 76 undef = Value.bool true := h.dep 76 (by kernel_rfl)
              refine ⟨Value.bool false, w, wants_some (d := 70) rfl rfl (by rw [h.size]; show 70 < 110; decide) e70, ?_, gb_refl _ _, rfl⟩
              clear h
              simp only [execOp, Act.eval, e76]
              go_simp
            refine ⟨Fg.vT rfl (by decide) fun ac w h => ?_, ?_⟩
            · have e70 : ac.tmps.getD 70 undef = Value.bool false := h.dep 70 (by kernel_rfl)
              have e77 : ac.tmps.getD 77 undef = Value.bool false := h.dep 77 (by kernel_rfl)
              refine ⟨Value.bool false, w, wants_none rfl, ?_, gb_refl _ _, rfl⟩
              clear h
              simp only [execOp, Act.eval, e70, e77]
              go_simp
            refine ⟨Fg.vT rfl (by decide) fun ac w h => ?_, ?_⟩
            · have e78 : ac.tmps.getD 78 undef = Value.bool false := h.dep 78 (by kernel_rfl)
              exact ⟨_, w, wants_none rfl, Fg.run_move rfl e78, gb_refl _ _, rfl⟩
            refine ⟨Fg.cT rfl (by decide) fun ac w h => ?_, ?_⟩
            · have e79 : ac.tmps.getD 79 undef = Value.bool false := h.dep 79 (by kernel_rfl)
              refine ⟨19, #[], wants_some (d := 79) rfl rfl (by rw [h.size]; show 79 < 110; decide) e79, Fg.run_call rfl rfl (by simp only [List.map_toArray, List.map_nil]) (Fg.run_enter Tryd.func19 (by kernel_rfl) (by kernel_rfl)), ?_⟩
              exact (c_one w).mono fun _ _ ⟨he, hg⟩ => ⟨_, he, hg, rfl⟩
            refine ⟨Fg.cT rfl (by decide) fun ac w h => ?_, ?_⟩
            · have e79 : ac.tmps.getD 79 undef = Value.bool false := h.dep 79 (by kernel_rfl)
              refine ⟨20, #[Value.int .u64 1], wants_some (d := 79) rfl rfl (by rw [h.size]; show 79 < 110; decide) e79, Fg.run_call rfl rfl (by simp only [List.map_toArray, List.map_cons, List.map_nil, Act.eval]) (Fg.run_enter Tryd.func20 (by kernel_rfl) (by kernel_rfl)), ?_⟩
              exact (Nr.small_any 1 w (by decide)).mono fun _ _ ⟨he, hg⟩ => ⟨_, he, hg, rfl⟩
            refine ⟨Fg.cT rfl (by decide) fun ac w h => ?_, ?_⟩
            · have e79 : ac.tmps.getD 79 undef = Value.bool false := h.dep 79 (by kernel_rfl)
              have e80 : ac.tmps.getD 80 undef = Fe.oneF.v := h.dep 80 (by kernel_rfl)
              have e81 : ac.tmps.getD 81 undef = Nr.nV (num 1) := h.dep 81 (by kernel_rfl)
              refine ⟨15, #[Fe.oneF.v, Nr.nV (num 1)], wants_some (d := 79) rfl rfl (by rw [h.size]; show 79 < 110; decide) e79, Fg.run_call rfl rfl (by simp only [List.map_toArray, List.map_cons, List.map_nil, Act.eval, e80, e81]) (Fg.run_enter Tryd.func15 (by kernel_rfl) (by kernel_rfl)), ?_⟩
              exact (Nr.c_is Fe.oneF 1 w one_rt (by rw [one_m]; decide)).mono fun _ _ ⟨he, hg⟩ => ⟨_, he, hg, rfl⟩
            refine ⟨Fg.vT rfl (by decide) fun ac w h => ?_, ?_⟩
            · have e79 : ac.tmps.getD 79 undef = Value.bool false := h.dep 79 (by kernel_rfl)
              have e82 : ac.tmps.getD 82 undef = Value.bool true := h.dep 82 (by kernel_rfl)
              refine ⟨Value.bool false, w, wants_some (d := 79) rfl rfl (by rw [h.size]; show 79 < 110; decide) e79, ?_, gb_refl _ _, rfl⟩
              clear h
              simp only [execOp, Act.eval, e82]
              go_simp
            refine ⟨Fg.vT rfl (by decide) fun ac w h => ?_, ?_⟩
            · have e79 : ac.tmps.getD 79 undef = Value.bool false := h.dep 79 (by kernel_rfl)
              have e83 : ac.tmps.getD 83 undef = Value.bool false := h.dep 83 (by kernel_rfl)
              refine ⟨Value.bool false, w, wants_none rfl, ?_, gb_refl _ _, rfl⟩
              clear h
              simp only [execOp, Act.eval, e79, e83]
              go_simp
            trivial
          · intro ay w9 hB hsz hdf hrest hslots hpt
            obtain ⟨u63, e63⟩ : ∃ u, ay.tmps.getD 63 undef = u := ⟨_, rfl⟩
            obtain ⟨u64, e64⟩ : ∃ u, ay.tmps.getD 64 undef = u := ⟨_, rfl⟩
            obtain ⟨u65, e65⟩ : ∃ u, ay.tmps.getD 65 undef = u := ⟨_, rfl⟩
            obtain ⟨u66, e66⟩ : ∃ u, ay.tmps.getD 66 undef = u := ⟨_, rfl⟩
            obtain ⟨u67, e67⟩ : ∃ u, ay.tmps.getD 67 undef = u := ⟨_, rfl⟩
            obtain ⟨u68, e68⟩ : ∃ u, ay.tmps.getD 68 undef = u := ⟨_, rfl⟩
            obtain ⟨u69, e69⟩ : ∃ u, ay.tmps.getD 69 undef = u := ⟨_, rfl⟩
            obtain ⟨u70, e70⟩ : ∃ u, ay.tmps.getD 70 undef = u := ⟨_, rfl⟩
            obtain ⟨u71, e71⟩ : ∃ u, ay.tmps.getD 71 undef = u := ⟨_, rfl⟩
            obtain ⟨u72, e72⟩ : ∃ u, ay.tmps.getD 72 undef = u := ⟨_, rfl⟩
            obtain ⟨u73, e73⟩ : ∃ u, ay.tmps.getD 73 undef = u := ⟨_, rfl⟩
            obtain ⟨u74, e74⟩ : ∃ u, ay.tmps.getD 74 undef = u := ⟨_, rfl⟩
            obtain ⟨u75, e75⟩ : ∃ u, ay.tmps.getD 75 undef = u := ⟨_, rfl⟩
            obtain ⟨u76, e76⟩ : ∃ u, ay.tmps.getD 76 undef = u := ⟨_, rfl⟩
            obtain ⟨u77, e77⟩ : ∃ u, ay.tmps.getD 77 undef = u := ⟨_, rfl⟩
            obtain ⟨u78, e78⟩ : ∃ u, ay.tmps.getD 78 undef = u := ⟨_, rfl⟩
            obtain ⟨u79, e79⟩ : ∃ u, ay.tmps.getD 79 undef = u := ⟨_, rfl⟩
            obtain ⟨u80, e80⟩ : ∃ u, ay.tmps.getD 80 undef = u := ⟨_, rfl⟩
            obtain ⟨u81, e81⟩ : ∃ u, ay.tmps.getD 81 undef = u := ⟨_, rfl⟩
            obtain ⟨u82, e82⟩ : ∃ u, ay.tmps.getD 82 undef = u := ⟨_, rfl⟩
            obtain ⟨u83, e83⟩ : ∃ u, ay.tmps.getD 83 undef = u := ⟨_, rfl⟩
            have e84 : ay.tmps.getD 84 undef = Value.bool false := hslots 84 (by kernel_rfl)
            obtain rfl := Fg.frame_is (a := ay) (vs := [Value.agg #[Value.int IntKind.u64 a.x0, Value.int IntKind.u64 a.x1, Value.int IntKind.u64 a.x2, Value.int IntKind.u64 a.x3, Value.int IntKind.u64 a.x4], Value.agg #[Value.int IntKind.u64 b.x0, Value.int IntKind.u64 b.x1, Value.int IntKind.u64 b.x2, Value.int IntKind.u64 b.x3, Value.int IntKind.u64 b.x4], Value.pointer (some ⟨w0.heap.size, 0, none⟩), Value.pointer (some ⟨w0.heap.size + 1, 0, none⟩), Value.bool false, Value.pointer (some ⟨N5, 0, none⟩), Value.pointer (some ⟨N6, 0, none⟩), Value.pointer (some ⟨N7, 0, none⟩), Value.agg #[Value.int IntKind.u64 a.x0, Value.int IntKind.u64 a.x1, Value.int IntKind.u64 a.x2, Value.int IntKind.u64 a.x3, Value.int IntKind.u64 a.x4], Value.bool true, Value.bool false, Value.bool false, Value.agg #[Value.int IntKind.u64 b.x0, Value.int IntKind.u64 b.x1, Value.int IntKind.u64 b.x2, Value.int IntKind.u64 b.x3, Value.int IntKind.u64 b.x4], Value.bool true, Value.bool false, Value.bool false, undef, undef, undef, undef, undef, undef, undef, undef, undef, undef, undef, undef, undef, undef, u30, Nr.nV (num a.m), u32, Nr.nV (num b.m), Nr.nV Nr.zeros, u35, u36, u37, u38, u39, u40, u41, u42, u43, u44, u45, u46, u47, u48, u49, u50, u51, u52, u53, u54, u55, u56, u57, u58, u59, u60, u61, Value.bool false, u63, u64, u65, u66, u67, u68, u69, u70, u71, u72, u73, u74, u75, u76, u77, u78, u79, u80, u81, u82, u83, Value.bool false, undef, undef, undef, undef, undef, undef, undef, undef, undef, undef, undef, undef, undef, undef, undef, undef, undef, undef, undef, undef, undef, undef, undef, undef, undef]) hsz ⟨hrest 0 (by kernel_rfl), hrest 1 (by kernel_rfl), hrest 2 (by kernel_rfl), hrest 3 (by kernel_rfl), hrest 4 (by kernel_rfl), hrest 5 (by kernel_rfl), hrest 6 (by kernel_rfl), hrest 7 (by kernel_rfl), hrest 8 (by kernel_rfl), hrest 9 (by kernel_rfl), hrest 10 (by kernel_rfl), hrest 11 (by kernel_rfl), hrest 12 (by kernel_rfl), hrest 13 (by kernel_rfl), hrest 14 (by kernel_rfl), hrest 15 (by kernel_rfl), hrest 16 (by kernel_rfl), hrest 17 (by kernel_rfl), hrest 18 (by kernel_rfl), hrest 19 (by kernel_rfl), hrest 20 (by kernel_rfl), hrest 21 (by kernel_rfl), hrest 22 (by kernel_rfl), hrest 23 (by kernel_rfl), hrest 24 (by kernel_rfl), hrest 25 (by kernel_rfl), hrest 26 (by kernel_rfl), hrest 27 (by kernel_rfl), hrest 28 (by kernel_rfl), hrest 29 (by kernel_rfl), hrest 30 (by kernel_rfl), hrest 31 (by kernel_rfl), hrest 32 (by kernel_rfl), hrest 33 (by kernel_rfl), hrest 34 (by kernel_rfl), hrest 35 (by kernel_rfl), hrest 36 (by kernel_rfl), hrest 37 (by kernel_rfl), hrest 38 (by kernel_rfl), hrest 39 (by kernel_rfl), hrest 40 (by kernel_rfl), hrest 41 (by kernel_rfl), hrest 42 (by kernel_rfl), hrest 43 (by kernel_rfl), hrest 44 (by kernel_rfl), hrest 45 (by kernel_rfl), hrest 46 (by kernel_rfl), hrest 47 (by kernel_rfl), hrest 48 (by kernel_rfl), hrest 49 (by kernel_rfl), hrest 50 (by kernel_rfl), hrest 51 (by kernel_rfl), hrest 52 (by kernel_rfl), hrest 53 (by kernel_rfl), hrest 54 (by kernel_rfl), hrest 55 (by kernel_rfl), hrest 56 (by kernel_rfl), hrest 57 (by kernel_rfl), hrest 58 (by kernel_rfl), hrest 59 (by kernel_rfl), hrest 60 (by kernel_rfl), hrest 61 (by kernel_rfl), hrest 62 (by kernel_rfl), e63, e64, e65, e66, e67, e68, e69, e70, e71, e72, e73, e74, e75, e76, e77, e78, e79, e80, e81, e82, e83, e84, hrest 85 (by kernel_rfl), hrest 86 (by kernel_rfl), hrest 87 (by kernel_rfl), hrest 88 (by kernel_rfl), hrest 89 (by kernel_rfl), hrest 90 (by kernel_rfl), hrest 91 (by kernel_rfl), hrest 92 (by kernel_rfl), hrest 93 (by kernel_rfl), hrest 94 (by kernel_rfl), hrest 95 (by kernel_rfl), hrest 96 (by kernel_rfl), hrest 97 (by kernel_rfl), hrest 98 (by kernel_rfl), hrest 99 (by kernel_rfl), hrest 100 (by kernel_rfl), hrest 101 (by kernel_rfl), hrest 102 (by kernel_rfl), hrest 103 (by kernel_rfl), hrest 104 (by kernel_rfl), hrest 105 (by kernel_rfl), hrest 106 (by kernel_rfl), hrest 107 (by kernel_rfl), hrest 108 (by kernel_rfl), hrest 109 (by kernel_rfl), trivial⟩ hdf
            clear hsz hdf hrest hslots hpt e63 e64 e65 e66 e67 e68 e69 e70 e71 e72 e73 e74 e75 e76 e77 e78 e79 e80 e81 e82 e83 e84
            refine wpList_nil ?_
            have H9 := Lib.hid (And.intro (gb_trans H8.out.1 hB) (And.intro (H8.out.2.1.grown hB (by simp)) (And.intro (H8.out.2.2.1.grown hB (by simp)) (H8.out.2.2.2.grown hB (by simp))))); clear hB
            go_upto_region 11 with (fail)
            refine Fg.region_t [] [.any, .any, .any, .any, .any, .any, .any, .any, .any, .any, .any, .any, .any, .any, .any, .any, .any, .any, .any, .any, .any, .any, .any, .any, .any, .any, .any, .any, .any, .any, .any, .any, .any, .any, .any, .any, .any, .any, .any, .any, .any, .any, .any, .any, .any, .any, .any, .any, .any, .any, .any, .any, .any, .any, .any, .any, .any, .any, .any, .any, .any, .any, .any, .any, .any, .any, .any, .any, .any, .any, .any, .any, .any, .any, .any, .any, .any, .any, .any, .any, .any, .any, .any, .any, .any, .val (a.v), .val (b.v), .val (Value.bool (decide (a.m = b.m))), .val (Nr.nV (num a.m)), .val (Nr.nV (num b.m)), .val (Value.bool (decide (a.m = b.m))), .val (Value.bool true), .val (Value.bool true), .val (a.v), .val (Value.bool (decide (a.m = 0))), .val (Nr.nV (num a.m)), .val (Nr.nV (num 0)), .val (Value.bool (decide (a.m = 0))), .val (Value.bool true), .val (Value.bool true), .val (Value.bool true), .val (a.v), .val (Value.bool (decide (a.m % 2 = 1))), .val (Nr.nV (num a.m)), .val (Value.bool (decide (a.m % 2 = 1))), .val (Value.bool true), .val (Value.bool true), .val (Value.bool true), .val (Value.bool true), .val (Value.bool true)] w9 25 (gb_refl _ _) (by kernel_rfl) (by kernel_rfl) (by kernel_rfl) (by kernel_rfl) (by decide) (by kernel_rfl) ?_ ?_
            · refine ⟨Fg.vT rfl (by decide) fun ac w h => ?_, ?_⟩
              · have e2 : ac.tmps.getD 2 undef = Value.pointer (some ⟨w0.heap.size, 0, none⟩) := h.rest 2 (by kernel_rfl)
                refine ⟨a.v, w, wants_none rfl, ?_, gb_refl _ _, rfl⟩
                exact ldE rfl e2 (HB.out.1 w (gb_trans H9.out.1 h.base))
              refine ⟨Fg.vT rfl (by decide) fun ac w h => ?_, ?_⟩
              · have e3 : ac.tmps.getD 3 undef = Value.pointer (some ⟨w0.heap.size + 1, 0, none⟩) := h.rest 3 (by kernel_rfl)
                refine ⟨b.v, w, wants_none rfl, ?_, gb_refl _ _, rfl⟩
                exact ldE rfl e3 (HB.out.2 w (gb_trans H9.out.1 h.base))
              refine ⟨Fg.cT rfl (by decide) fun ac w h => ?_, ?_⟩
              · have e85 : ac.tmps.getD 85 undef = a.v := h.dep 85 (by kernel_rfl)
                have e86 : ac.tmps.getD 86 undef = b.v := h.dep 86 (by kernel_rfl)
                refine ⟨10, #[a.v, b.v], wants_none rfl, Fg.run_call rfl rfl (by simp only [List.map_toArray, List.map_cons, List.map_nil, Act.eval, e85, e86]) (Fg.run_enter Tryd.func10 (by kernel_rfl) (by kernel_rfl)), ?_⟩
                exact (same_any a b w HO.out.1 HO.out.2).mono fun _ _ ⟨he, hg⟩ => ⟨_, he, hg, rfl⟩
              refine ⟨Fg.vT rfl (by decide) fun ac w h => ?_, ?_⟩
              · have e5 : ac.tmps.getD 5 undef = Value.pointer (some ⟨N5, 0, none⟩) := h.rest 5 (by kernel_rfl)
                refine ⟨Nr.nV (num a.m), w, wants_none rfl, ?_, gb_refl _ _, rfl⟩
                exact Nr.ld rfl e5 (H9.out.2.1.grown h.base (by simp)) (Nr.num_len _) rfl rfl
              refine ⟨Fg.vT rfl (by decide) fun ac w h => ?_, ?_⟩
              · have e6 : ac.tmps.getD 6 undef = Value.pointer (some ⟨N6, 0, none⟩) := h.rest 6 (by kernel_rfl)
                refine ⟨Nr.nV (num b.m), w, wants_none rfl, ?_, gb_refl _ _, rfl⟩
                exact Nr.ld rfl e6 (H9.out.2.2.1.grown h.base (by simp)) (Nr.num_len _) rfl rfl
              refine ⟨Fg.vT rfl (by decide) fun ac w h => ?_, ?_⟩
              · have e88 : ac.tmps.getD 88 undef = Nr.nV (num a.m) := h.dep 88 (by kernel_rfl)
                have e89 : ac.tmps.getD 89 undef = Nr.nV (num b.m) := h.dep 89 (by kernel_rfl)
                refine ⟨.bool (decide (a.m = b.m)), w, wants_none rfl, ?_, gb_refl _ _, rfl⟩
                rw [Nr.run_eqN rfl e88 e89 (Nr.num_len _) (Nr.num_len _), eql_same _ _ (Fe.m_lt a) (Fe.m_lt b)]
              refine ⟨Fg.vT rfl (by decide) fun ac w h => ?_, ?_⟩
              · have e87 : ac.tmps.getD 87 undef = Value.bool (decide (a.m = b.m)) := h.dep 87 (by kernel_rfl)
                have e90 : ac.tmps.getD 90 undef = Value.bool (decide (a.m = b.m)) := h.dep 90 (by kernel_rfl)
                refine ⟨.bool true, w, wants_none rfl, ?_, gb_refl _ _, rfl⟩
                exact run_eqB rfl e87 e90
              refine ⟨Fg.vT rfl (by decide) fun ac w h => ?_, ?_⟩
              · have e91 : ac.tmps.getD 91 undef = Value.bool true := h.dep 91 (by kernel_rfl)
                exact ⟨_, w, wants_none rfl, Fg.run_move rfl e91, gb_refl _ _, rfl⟩
              refine ⟨Fg.vT rfl (by decide) fun ac w h => ?_, ?_⟩
              · have e92 : ac.tmps.getD 92 undef = Value.bool true := h.dep 92 (by kernel_rfl)
                have e2 : ac.tmps.getD 2 undef = Value.pointer (some ⟨w0.heap.size, 0, none⟩) := h.rest 2 (by kernel_rfl)
                refine ⟨a.v, w, wants_some (d := 92) rfl rfl (by rw [h.size]; show 92 < 110; decide) e92, ?_, gb_refl _ _, rfl⟩
                exact ldE rfl e2 (HB.out.1 w (gb_trans H9.out.1 h.base))
              refine ⟨Fg.cT rfl (by decide) fun ac w h => ?_, ?_⟩
              · have e92 : ac.tmps.getD 92 undef = Value.bool true := h.dep 92 (by kernel_rfl)
                have e93 : ac.tmps.getD 93 undef = a.v := h.dep 93 (by kernel_rfl)
                refine ⟨21, #[a.v], wants_some (d := 92) rfl rfl (by rw [h.size]; show 92 < 110; decide) e92, Fg.run_call rfl rfl (by simp only [List.map_toArray, List.map_cons, List.map_nil, Act.eval, e93]) (Fg.run_enter Tryd.func21 (by kernel_rfl) (by kernel_rfl)), ?_⟩
                exact (zero_any a w HO.out.1).mono fun _ _ ⟨he, hg⟩ => ⟨_, he, hg, rfl⟩
              refine ⟨Fg.vT rfl (by decide) fun ac w h => ?_, ?_⟩
              · have e92 : ac.tmps.getD 92 undef = Value.bool true := h.dep 92 (by kernel_rfl)
                have e5 : ac.tmps.getD 5 undef = Value.pointer (some ⟨N5, 0, none⟩) := h.rest 5 (by kernel_rfl)
                refine ⟨Nr.nV (num a.m), w, wants_some (d := 92) rfl rfl (by rw [h.size]; show 92 < 110; decide) e92, ?_, gb_refl _ _, rfl⟩
                exact Nr.ld rfl e5 (H9.out.2.1.grown h.base (by simp)) (Nr.num_len _) rfl rfl
              refine ⟨Fg.vT rfl (by decide) fun ac w h => ?_, ?_⟩
              · have e92 : ac.tmps.getD 92 undef = Value.bool true := h.dep 92 (by kernel_rfl)
                have e7 : ac.tmps.getD 7 undef = Value.pointer (some ⟨N7, 0, none⟩) := h.rest 7 (by kernel_rfl)
                refine ⟨Nr.nV (num 0), w, wants_some (d := 92) rfl rfl (by rw [h.size]; show 92 < 110; decide) e92, ?_, gb_refl _ _, rfl⟩
                exact Nr.ld rfl e7 (H9.out.2.2.2.grown h.base (by simp)) (Nr.num_len _) rfl rfl
              refine ⟨Fg.vT rfl (by decide) fun ac w h => ?_, ?_⟩
              · have e92 : ac.tmps.getD 92 undef = Value.bool true := h.dep 92 (by kernel_rfl)
                have e95 : ac.tmps.getD 95 undef = Nr.nV (num a.m) := h.dep 95 (by kernel_rfl)
                have e96 : ac.tmps.getD 96 undef = Nr.nV (num 0) := h.dep 96 (by kernel_rfl)
                refine ⟨.bool (decide (a.m = 0)), w, wants_some (d := 92) rfl rfl (by rw [h.size]; show 92 < 110; decide) e92, ?_, gb_refl _ _, rfl⟩
                rw [Nr.run_eqN rfl e95 e96 (Nr.num_len _) (Nr.num_len _), eql_same _ _ (Fe.m_lt a) (by decide)]
              refine ⟨Fg.vT rfl (by decide) fun ac w h => ?_, ?_⟩
              · have e92 : ac.tmps.getD 92 undef = Value.bool true := h.dep 92 (by kernel_rfl)
                have e94 : ac.tmps.getD 94 undef = Value.bool (decide (a.m = 0)) := h.dep 94 (by kernel_rfl)
                have e97 : ac.tmps.getD 97 undef = Value.bool (decide (a.m = 0)) := h.dep 97 (by kernel_rfl)
                refine ⟨.bool true, w, wants_some (d := 92) rfl rfl (by rw [h.size]; show 92 < 110; decide) e92, ?_, gb_refl _ _, rfl⟩
                exact run_eqB rfl e94 e97
              refine ⟨Fg.vT rfl (by decide) fun ac w h => ?_, ?_⟩
              · have e92 : ac.tmps.getD 92 undef = Value.bool true := h.dep 92 (by kernel_rfl)
                have e98 : ac.tmps.getD 98 undef = Value.bool true := h.dep 98 (by kernel_rfl)
                refine ⟨Value.bool true, w, wants_none rfl, ?_, gb_refl _ _, rfl⟩
                clear h
                simp only [execOp, Act.eval, e92, e98]
                go_simp
              refine ⟨Fg.vT rfl (by decide) fun ac w h => ?_, ?_⟩
              · have e99 : ac.tmps.getD 99 undef = Value.bool true := h.dep 99 (by kernel_rfl)
                exact ⟨_, w, wants_none rfl, Fg.run_move rfl e99, gb_refl _ _, rfl⟩
              refine ⟨Fg.vT rfl (by decide) fun ac w h => ?_, ?_⟩
              · have e100 : ac.tmps.getD 100 undef = Value.bool true := h.dep 100 (by kernel_rfl)
                have e2 : ac.tmps.getD 2 undef = Value.pointer (some ⟨w0.heap.size, 0, none⟩) := h.rest 2 (by kernel_rfl)
                refine ⟨a.v, w, wants_some (d := 100) rfl rfl (by rw [h.size]; show 100 < 110; decide) e100, ?_, gb_refl _ _, rfl⟩
                exact ldE rfl e2 (HB.out.1 w (gb_trans H9.out.1 h.base))
              refine ⟨Fg.cT rfl (by decide) fun ac w h => ?_, ?_⟩
              · have e100 : ac.tmps.getD 100 undef = Value.bool true := h.dep 100 (by kernel_rfl)
                have e101 : ac.tmps.getD 101 undef = a.v := h.dep 101 (by kernel_rfl)
                refine ⟨22, #[a.v], wants_some (d := 100) rfl rfl (by rw [h.size]; show 100 < 110; decide) e100, Fg.run_call rfl rfl (by simp only [List.map_toArray, List.map_cons, List.map_nil, Act.eval, e101]) (Fg.run_enter Tryd.func22 (by kernel_rfl) (by kernel_rfl)), ?_⟩
                exact (odd_any a w HO.out.1).mono fun _ _ ⟨he, hg⟩ => ⟨_, he, hg, rfl⟩
              refine ⟨Fg.vT rfl (by decide) fun ac w h => ?_, ?_⟩
              · have e100 : ac.tmps.getD 100 undef = Value.bool true := h.dep 100 (by kernel_rfl)
                have e5 : ac.tmps.getD 5 undef = Value.pointer (some ⟨N5, 0, none⟩) := h.rest 5 (by kernel_rfl)
                refine ⟨Nr.nV (num a.m), w, wants_some (d := 100) rfl rfl (by rw [h.size]; show 100 < 110; decide) e100, ?_, gb_refl _ _, rfl⟩
                exact Nr.ld rfl e5 (H9.out.2.1.grown h.base (by simp)) (Nr.num_len _) rfl rfl
              refine ⟨Fg.cT rfl (by decide) fun ac w h => ?_, ?_⟩
              · have e100 : ac.tmps.getD 100 undef = Value.bool true := h.dep 100 (by kernel_rfl)
                have e103 : ac.tmps.getD 103 undef = Nr.nV (num a.m) := h.dep 103 (by kernel_rfl)
                refine ⟨23, #[Nr.nV (num a.m)], wants_some (d := 100) rfl rfl (by rw [h.size]; show 100 < 110; decide) e100, Fg.run_call rfl rfl (by simp only [List.map_toArray, List.map_cons, List.map_nil, Act.eval, e103]) (Fg.run_enter Tryd.func23 (by kernel_rfl) (by kernel_rfl)), ?_⟩
                exact (Nr.c_odd a.m w (Fe.m_lt a)).mono fun _ _ ⟨he, hg⟩ => ⟨_, he, hg, rfl⟩
              refine ⟨Fg.vT rfl (by decide) fun ac w h => ?_, ?_⟩
              · have e100 : ac.tmps.getD 100 undef = Value.bool true := h.dep 100 (by kernel_rfl)
                have e102 : ac.tmps.getD 102 undef = Value.bool (decide (a.m % 2 = 1)) := h.dep 102 (by kernel_rfl)
                have e104 : ac.tmps.getD 104 undef = Value.bool (decide (a.m % 2 = 1)) := h.dep 104 (by kernel_rfl)
                refine ⟨.bool true, w, wants_some (d := 100) rfl rfl (by rw [h.size]; show 100 < 110; decide) e100, ?_, gb_refl _ _, rfl⟩
                exact run_eqB rfl e102 e104
              refine ⟨Fg.vT rfl (by decide) fun ac w h => ?_, ?_⟩
              · have e100 : ac.tmps.getD 100 undef = Value.bool true := h.dep 100 (by kernel_rfl)
                have e105 : ac.tmps.getD 105 undef = Value.bool true := h.dep 105 (by kernel_rfl)
                refine ⟨Value.bool true, w, wants_none rfl, ?_, gb_refl _ _, rfl⟩
                clear h
                simp only [execOp, Act.eval, e100, e105]
                go_simp
              refine ⟨Fg.vT rfl (by decide) fun ac w h => ?_, ?_⟩
              · have e106 : ac.tmps.getD 106 undef = Value.bool true := h.dep 106 (by kernel_rfl)
                exact ⟨_, w, wants_none rfl, Fg.run_move rfl e106, gb_refl _ _, rfl⟩
              refine ⟨Fg.cT rfl (by decide) fun ac w h => ?_, ?_⟩
              · have e107 : ac.tmps.getD 107 undef = Value.bool true := h.dep 107 (by kernel_rfl)
                refine ⟨13, #[], wants_some (d := 107) rfl rfl (by rw [h.size]; show 107 < 110; decide) e107, Fg.run_call rfl rfl (by simp only [List.map_toArray, List.map_nil]) (Fg.run_enter Tryd.func13 (by kernel_rfl) (by kernel_rfl)), ?_⟩
                exact (awake_any w (HT.out.grown (gb_trans H2.out.1 (gb_trans H9.out.1 h.base)))).mono fun _ _ ⟨he, hg⟩ => ⟨_, he, hg, rfl⟩
              refine ⟨Fg.vT rfl (by decide) fun ac w h => ?_, ?_⟩
              · have e107 : ac.tmps.getD 107 undef = Value.bool true := h.dep 107 (by kernel_rfl)
                have e108 : ac.tmps.getD 108 undef = Value.bool true := h.dep 108 (by kernel_rfl)
                refine ⟨Value.bool true, w, wants_none rfl, ?_, gb_refl _ _, rfl⟩
                clear h
                simp only [execOp, Act.eval, e107, e108]
                go_simp
              trivial
            · intro at2 wz hB hsz hdf hrest hslots hpt
              obtain ⟨u85, e85⟩ : ∃ u, at2.tmps.getD 85 undef = u := ⟨_, rfl⟩
              obtain ⟨u86, e86⟩ : ∃ u, at2.tmps.getD 86 undef = u := ⟨_, rfl⟩
              obtain ⟨u87, e87⟩ : ∃ u, at2.tmps.getD 87 undef = u := ⟨_, rfl⟩
              obtain ⟨u88, e88⟩ : ∃ u, at2.tmps.getD 88 undef = u := ⟨_, rfl⟩
              obtain ⟨u89, e89⟩ : ∃ u, at2.tmps.getD 89 undef = u := ⟨_, rfl⟩
              obtain ⟨u90, e90⟩ : ∃ u, at2.tmps.getD 90 undef = u := ⟨_, rfl⟩
              obtain ⟨u91, e91⟩ : ∃ u, at2.tmps.getD 91 undef = u := ⟨_, rfl⟩
              obtain ⟨u92, e92⟩ : ∃ u, at2.tmps.getD 92 undef = u := ⟨_, rfl⟩
              obtain ⟨u93, e93⟩ : ∃ u, at2.tmps.getD 93 undef = u := ⟨_, rfl⟩
              obtain ⟨u94, e94⟩ : ∃ u, at2.tmps.getD 94 undef = u := ⟨_, rfl⟩
              obtain ⟨u95, e95⟩ : ∃ u, at2.tmps.getD 95 undef = u := ⟨_, rfl⟩
              obtain ⟨u96, e96⟩ : ∃ u, at2.tmps.getD 96 undef = u := ⟨_, rfl⟩
              obtain ⟨u97, e97⟩ : ∃ u, at2.tmps.getD 97 undef = u := ⟨_, rfl⟩
              obtain ⟨u98, e98⟩ : ∃ u, at2.tmps.getD 98 undef = u := ⟨_, rfl⟩
              obtain ⟨u99, e99⟩ : ∃ u, at2.tmps.getD 99 undef = u := ⟨_, rfl⟩
              obtain ⟨u100, e100⟩ : ∃ u, at2.tmps.getD 100 undef = u := ⟨_, rfl⟩
              obtain ⟨u101, e101⟩ : ∃ u, at2.tmps.getD 101 undef = u := ⟨_, rfl⟩
              obtain ⟨u102, e102⟩ : ∃ u, at2.tmps.getD 102 undef = u := ⟨_, rfl⟩
              obtain ⟨u103, e103⟩ : ∃ u, at2.tmps.getD 103 undef = u := ⟨_, rfl⟩
              obtain ⟨u104, e104⟩ : ∃ u, at2.tmps.getD 104 undef = u := ⟨_, rfl⟩
              obtain ⟨u105, e105⟩ : ∃ u, at2.tmps.getD 105 undef = u := ⟨_, rfl⟩
              obtain ⟨u106, e106⟩ : ∃ u, at2.tmps.getD 106 undef = u := ⟨_, rfl⟩
              obtain ⟨u107, e107⟩ : ∃ u, at2.tmps.getD 107 undef = u := ⟨_, rfl⟩
              obtain ⟨u108, e108⟩ : ∃ u, at2.tmps.getD 108 undef = u := ⟨_, rfl⟩
              have e109 : at2.tmps.getD 109 undef = Value.bool true := hslots 109 (by kernel_rfl)
              obtain rfl := Fg.frame_is (a := at2) (vs := [Value.agg #[Value.int IntKind.u64 a.x0, Value.int IntKind.u64 a.x1, Value.int IntKind.u64 a.x2, Value.int IntKind.u64 a.x3, Value.int IntKind.u64 a.x4], Value.agg #[Value.int IntKind.u64 b.x0, Value.int IntKind.u64 b.x1, Value.int IntKind.u64 b.x2, Value.int IntKind.u64 b.x3, Value.int IntKind.u64 b.x4], Value.pointer (some ⟨w0.heap.size, 0, none⟩), Value.pointer (some ⟨w0.heap.size + 1, 0, none⟩), Value.bool false, Value.pointer (some ⟨N5, 0, none⟩), Value.pointer (some ⟨N6, 0, none⟩), Value.pointer (some ⟨N7, 0, none⟩), Value.agg #[Value.int IntKind.u64 a.x0, Value.int IntKind.u64 a.x1, Value.int IntKind.u64 a.x2, Value.int IntKind.u64 a.x3, Value.int IntKind.u64 a.x4], Value.bool true, Value.bool false, Value.bool false, Value.agg #[Value.int IntKind.u64 b.x0, Value.int IntKind.u64 b.x1, Value.int IntKind.u64 b.x2, Value.int IntKind.u64 b.x3, Value.int IntKind.u64 b.x4], Value.bool true, Value.bool false, Value.bool false, undef, undef, undef, undef, undef, undef, undef, undef, undef, undef, undef, undef, undef, undef, u30, Nr.nV (num a.m), u32, Nr.nV (num b.m), Nr.nV Nr.zeros, u35, u36, u37, u38, u39, u40, u41, u42, u43, u44, u45, u46, u47, u48, u49, u50, u51, u52, u53, u54, u55, u56, u57, u58, u59, u60, u61, Value.bool false, u63, u64, u65, u66, u67, u68, u69, u70, u71, u72, u73, u74, u75, u76, u77, u78, u79, u80, u81, u82, u83, Value.bool false, u85, u86, u87, u88, u89, u90, u91, u92, u93, u94, u95, u96, u97, u98, u99, u100, u101, u102, u103, u104, u105, u106, u107, u108, Value.bool true]) hsz ⟨hrest 0 (by kernel_rfl), hrest 1 (by kernel_rfl), hrest 2 (by kernel_rfl), hrest 3 (by kernel_rfl), hrest 4 (by kernel_rfl), hrest 5 (by kernel_rfl), hrest 6 (by kernel_rfl), hrest 7 (by kernel_rfl), hrest 8 (by kernel_rfl), hrest 9 (by kernel_rfl), hrest 10 (by kernel_rfl), hrest 11 (by kernel_rfl), hrest 12 (by kernel_rfl), hrest 13 (by kernel_rfl), hrest 14 (by kernel_rfl), hrest 15 (by kernel_rfl), hrest 16 (by kernel_rfl), hrest 17 (by kernel_rfl), hrest 18 (by kernel_rfl), hrest 19 (by kernel_rfl), hrest 20 (by kernel_rfl), hrest 21 (by kernel_rfl), hrest 22 (by kernel_rfl), hrest 23 (by kernel_rfl), hrest 24 (by kernel_rfl), hrest 25 (by kernel_rfl), hrest 26 (by kernel_rfl), hrest 27 (by kernel_rfl), hrest 28 (by kernel_rfl), hrest 29 (by kernel_rfl), hrest 30 (by kernel_rfl), hrest 31 (by kernel_rfl), hrest 32 (by kernel_rfl), hrest 33 (by kernel_rfl), hrest 34 (by kernel_rfl), hrest 35 (by kernel_rfl), hrest 36 (by kernel_rfl), hrest 37 (by kernel_rfl), hrest 38 (by kernel_rfl), hrest 39 (by kernel_rfl), hrest 40 (by kernel_rfl), hrest 41 (by kernel_rfl), hrest 42 (by kernel_rfl), hrest 43 (by kernel_rfl), hrest 44 (by kernel_rfl), hrest 45 (by kernel_rfl), hrest 46 (by kernel_rfl), hrest 47 (by kernel_rfl), hrest 48 (by kernel_rfl), hrest 49 (by kernel_rfl), hrest 50 (by kernel_rfl), hrest 51 (by kernel_rfl), hrest 52 (by kernel_rfl), hrest 53 (by kernel_rfl), hrest 54 (by kernel_rfl), hrest 55 (by kernel_rfl), hrest 56 (by kernel_rfl), hrest 57 (by kernel_rfl), hrest 58 (by kernel_rfl), hrest 59 (by kernel_rfl), hrest 60 (by kernel_rfl), hrest 61 (by kernel_rfl), hrest 62 (by kernel_rfl), hrest 63 (by kernel_rfl), hrest 64 (by kernel_rfl), hrest 65 (by kernel_rfl), hrest 66 (by kernel_rfl), hrest 67 (by kernel_rfl), hrest 68 (by kernel_rfl), hrest 69 (by kernel_rfl), hrest 70 (by kernel_rfl), hrest 71 (by kernel_rfl), hrest 72 (by kernel_rfl), hrest 73 (by kernel_rfl), hrest 74 (by kernel_rfl), hrest 75 (by kernel_rfl), hrest 76 (by kernel_rfl), hrest 77 (by kernel_rfl), hrest 78 (by kernel_rfl), hrest 79 (by kernel_rfl), hrest 80 (by kernel_rfl), hrest 81 (by kernel_rfl), hrest 82 (by kernel_rfl), hrest 83 (by kernel_rfl), hrest 84 (by kernel_rfl), e85, e86, e87, e88, e89, e90, e91, e92, e93, e94, e95, e96, e97, e98, e99, e100, e101, e102, e103, e104, e105, e106, e107, e108, e109, trivial⟩ hdf
              clear hsz hdf hrest hslots hpt e85 e86 e87 e88 e89 e90 e91 e92 e93 e94 e95 e96 e97 e98 e99 e100 e101 e102 e103 e104 e105 e106 e107 e108 e109
              refine Fg.wpl_value (v := .bool true) (w' := wz) rfl (Fg.run_assign rfl rfl) ?_
              refine wpList_nil ?_
              simp only [Act.put, List.setIfInBounds_toArray, List.set_cons_succ, List.set_cons_zero]
              have HF := Lib.hid (gb_trans H2.out.1 (gb_trans H9.out.1 hB)); clear hB
              go_wp2
              go_ret
              exact ⟨rfl, HF.out⟩
end Go.Proofs.YtjgfhihngbhljaaDoor
