/- field: FieldRing, walked. -/
import Derived.Test.YthjakoifbahkcaaDoorFeAwake
import Derived.Test.YthjakoifbahkcaaDoorFeRing
namespace Go.Proofs.YthjakoifbahkcaaDoor
open Go.RowKit
theorem right_three {a b c : Fe} (oka : a.Ok) (okb : b.Ok) (okc : c.Ok) (h : [a, b, c].all rightB = true) : a.Right ∧ b.Right ∧ c.Right := by
  simp only [List.all_cons, List.all_nil, Bool.and_true, Bool.and_eq_true] at h
  exact ⟨(rightB_is oka).1 h.1, (rightB_is okb).1 h.2.1, (rightB_is okc).1 h.2.2⟩
theorem dt {p : Prop} [Decidable p] (h : p) : decide p = true := decide_eq_true h
theorem df {p : Prop} [Decidable p] (h : ¬ p) : decide p = false := decide_eq_false h
set_option maxRecDepth 100000 in
set_option maxHeartbeats 12800000 in
theorem ring_walk (fa fb fc : Fe) (w0 : World) (hT : FTab w0) (okfa : fa.Ok) (okfb : fb.Ok) (okfc : fc.Ok) : Calls Tryd.prog 5 #[.agg #[.int .u64 fa.x0, .int .u64 fa.x1, .int .u64 fa.x2, .int .u64 fa.x3, .int .u64 fa.x4], .agg #[.int .u64 fb.x0, .int .u64 fb.x1, .int .u64 fb.x2, .int .u64 fb.x3, .int .u64 fb.x4], .agg #[.int .u64 fc.x0, .int .u64 fc.x1, .int .u64 fc.x2, .int .u64 fc.x3, .int .u64 fc.x4]] w0 fun e w' => e = .returned (.bool true) ∧ w0.grownBy w' none := by
  have HT := Lib.hid hT; clear hT
  go_enter Tryd.func5, Tryd.ntmps5
  go_wp2_with fail
  have G1 : w0.grownBy (((w0.alloc (.cells #[.int .u64 fa.x0, .int .u64 fa.x1, .int .u64 fa.x2, .int .u64 fa.x3, .int .u64 fa.x4] 24)).alloc (.cells #[.int .u64 fb.x0, .int .u64 fb.x1, .int .u64 fb.x2, .int .u64 fb.x3, .int .u64 fb.x4] 24)).alloc (.cells #[.int .u64 fc.x0, .int .u64 fc.x1, .int .u64 fc.x2, .int .u64 fc.x3, .int .u64 fc.x4] 24)) none := gb_alloc (gb_alloc (gb_alloc (gb_refl _ _) _) _) _
  have hfa : Blk (((w0.alloc (.cells #[.int .u64 fa.x0, .int .u64 fa.x1, .int .u64 fa.x2, .int .u64 fa.x3, .int .u64 fa.x4] 24)).alloc (.cells #[.int .u64 fb.x0, .int .u64 fb.x1, .int .u64 fb.x2, .int .u64 fb.x3, .int .u64 fb.x4] 24)).alloc (.cells #[.int .u64 fc.x0, .int .u64 fc.x1, .int .u64 fc.x2, .int .u64 fc.x3, .int .u64 fc.x4] 24)) (w0.heap.size) 24 (feL fa) := ((Blk.new w0 (feL fa) _).alloc _).alloc _
  have hfb : Blk (((w0.alloc (.cells #[.int .u64 fa.x0, .int .u64 fa.x1, .int .u64 fa.x2, .int .u64 fa.x3, .int .u64 fa.x4] 24)).alloc (.cells #[.int .u64 fb.x0, .int .u64 fb.x1, .int .u64 fb.x2, .int .u64 fb.x3, .int .u64 fb.x4] 24)).alloc (.cells #[.int .u64 fc.x0, .int .u64 fc.x1, .int .u64 fc.x2, .int .u64 fc.x3, .int .u64 fc.x4] 24)) (w0.heap.size + 1) 24 (feL fb) := (Blk.newAt (w0.alloc _) (feL fb) _ (by simp)).alloc _
  have hfc : Blk (((w0.alloc (.cells #[.int .u64 fa.x0, .int .u64 fa.x1, .int .u64 fa.x2, .int .u64 fa.x3, .int .u64 fa.x4] 24)).alloc (.cells #[.int .u64 fb.x0, .int .u64 fb.x1, .int .u64 fb.x2, .int .u64 fb.x3, .int .u64 fb.x4] 24)).alloc (.cells #[.int .u64 fc.x0, .int .u64 fc.x1, .int .u64 fc.x2, .int .u64 fc.x3, .int .u64 fc.x4] 24)) (w0.heap.size + 1 + 1) 24 (feL fc) := Blk.newAt _ (feL fc) _ (by simp)
  refine (awake_any _ (HT.out.grown G1)).mono ?_
  rintro e v1 ⟨rfl, hg1⟩
  replace hfa := hfa.grown hg1 (by simp); replace hfb := hfb.grown hg1 (by simp); replace hfc := hfc.grown hg1 (by simp)
  replace G1 := gb_trans G1 hg1
  clear hg1
  have fac0 := hfa.cell (i := 0) rfl; have fac1 := hfa.cell (i := 1) rfl; have fac2 := hfa.cell (i := 2) rfl; have fac3 := hfa.cell (i := 3) rfl; have fac4 := hfa.cell (i := 4) rfl
  have fbc0 := hfb.cell (i := 0) rfl; have fbc1 := hfb.cell (i := 1) rfl; have fbc2 := hfb.cell (i := 2) rfl; have fbc3 := hfb.cell (i := 3) rfl; have fbc4 := hfb.cell (i := 4) rfl
  have fcc0 := hfc.cell (i := 0) rfl; have fcc1 := hfc.cell (i := 1) rfl; have fcc2 := hfc.cell (i := 2) rfl; have fcc3 := hfc.cell (i := 3) rfl; have fcc4 := hfc.cell (i := 4) rfl
  go_wp2_with fail
  clear fac0 fac1 fac2 fac3 fac4 fbc0 fbc1 fbc2 fbc3 fbc4 fcc0 fcc1 fcc2 fcc3 fcc4
  refine (right_any v1.heap.size 3 [fa, fb, fc] _ rfl (by decide) (by simp [okfa, okfb, okfc]) (Blk.new v1 (fesL [fa, fb, fc]) _)).mono ?_
  rintro e w' ⟨rfl, rfl⟩
  by_cases hR : [fa, fb, fc].all rightB = true
  case neg =>
    rw [Bool.eq_false_iff.2 hR]
    have G2 := gb_alloc G1 (.cells (fesL [fa, fb, fc]).toArray 24)
    go_wp2
    go_ret
    exact ⟨rfl, G2⟩
  rw [hR]
  obtain ⟨ra, rb, rc⟩ := right_three okfa okfb okfc hR
  have HRA := Lib.hid ra; have HRB := Lib.hid rb; have HRC := Lib.hid rc; clear ra rb rc
  clear hR
  replace G1 := gb_alloc G1 (.cells (fesL [fa, fb, fc]).toArray 24)
  replace hfa := hfa.alloc (.cells (fesL [fa, fb, fc]).toArray 24)
  replace hfb := hfb.alloc (.cells (fesL [fa, fb, fc]).toArray 24)
  replace hfc := hfc.alloc (.cells (fesL [fa, fb, fc]).toArray 24)
  go_wp2_with fail
  obtain ⟨W5, hW5⟩ : ∃ W, W = v1.alloc (.cells (fesL [fa, fb, fc]).toArray 24) := ⟨_, rfl⟩
  rw [← hW5] at G1 hfa hfb hfc ⊢
  clear hW5
  have hB5 : EnvB W5 W5.heap.size [(w0.heap.size, fa), (w0.heap.size + 1, fb), (w0.heap.size + 1 + 1, fc)] [] W5 := ⟨gb_refl _ _, by
      intro p hp
      simp only [List.mem_cons, List.not_mem_nil, or_false] at hp
      rcases hp with rfl | rfl | rfl
      · exact hfa
      · exact hfb
      · exact hfc, by simp, by
      intro p hp
      simp only [List.mem_cons, List.not_mem_nil, or_false] at hp
      rcases hp with rfl | rfl | rfl
      · exact hfa.lt
      · exact hfb.lt
      · exact hfc.lt, Nat.le_refl _, Nat.le_refl _⟩
  refine wp_region_flow3 (items3 (Okb W5 [(w0.heap.size, fa), (w0.heap.size + 1, fb), (w0.heap.size + 1 + 1, fc)]) [.any, .any, .any, .any, .any, .any, .any, .ptr, .ptr, .any, .any, .any, .any, .any, .any, .any, .any, .any, .any, .any, .any, .val (fa.v), .val (fb.v), .val ((Fe.addF fa fb).v), .val (fa.v), .val (fb.v), .val ((Fe.mulF fa fb).v), .any, .any, .any, .any, .any, .any, .any, .any, .any, .any, .any, .any, .any, .any, .any, .any, .any, .any, .any, .any, .any, .any, .any, .any, .any, .any, .any, .any, .any, .any, .any, .any, .any, .any, .any, .any, .any, .any, .any, .any, .any, .any, .any, .any, .any, .any, .any, .any, .any, .any, .any, .any, .any, .any, .any, .any, .any, .any, .any, .any, .any, .any, .any, .any, .any, .any, .any, .any, .any, .any, .any, .any, .any, .any, .any, .any, .any, .any, .any, .any, .any, .any, .any, .any, .any, .any, .any, .any, .any, .any, .any, .any, .any, .any, .any, .any, .any, .any, .any, .any, .any, .any, .any, .any, .any, .any, .any, .any, .any, .any, .any, .any, .any, .any, .any, .any, .any, .any, .any, .any, .any, .any, .any, .any, .any, .any, .any, .any, .any, .any, .any]) (fun j => if j = 8 then 7 else if j = 9 then 8 else 0) (Stored3 (Okb W5 [(w0.heap.size, fa), (w0.heap.size + 1, fb), (w0.heap.size + 1 + 1, fc)]) (fun j => if j = 8 then Fe.addF fa fb else if j = 9 then Fe.mulF fa fb else Fe.zeroF)) (EnvB W5 W5.heap.size [(w0.heap.size, fa), (w0.heap.size + 1, fb), (w0.heap.size + 1 + 1, fc)] []) [7, 8] (by kernel_rfl) (by kernel_rfl) (by kernel_rfl) (hB5.grown (gb_drewn _)) (fun s hs C hC => by simp at hs; rcases hs with rfl | rfl <;> exact absurd hC (by simp [undef])) (by kernel_rfl) ?_ ?_
  · refine ⟨fe3_value rfl (by decide) fun a w h => ?_, ?_⟩
    · have e3 : a.tmps.getD 3 undef = .pointer (some ⟨w0.heap.size, 0, none⟩) := h.rest 3 (by kernel_rfl)
      have hb := h.base.e (w0.heap.size, fa) (by simp)
      have c0 : w.cell? ⟨w0.heap.size, 0, none⟩ = some (.int .u64 fa.x0) := hb.cell (i := 0) rfl
      have c1 : w.cell? ⟨w0.heap.size, 1, none⟩ = some (.int .u64 fa.x1) := hb.cell (i := 1) rfl
      have c2 : w.cell? ⟨w0.heap.size, 2, none⟩ = some (.int .u64 fa.x2) := hb.cell (i := 2) rfl
      have c3 : w.cell? ⟨w0.heap.size, 3, none⟩ = some (.int .u64 fa.x3) := hb.cell (i := 3) rfl
      have c4 : w.cell? ⟨w0.heap.size, 4, none⟩ = some (.int .u64 fa.x4) := hb.cell (i := 4) rfl
      refine ⟨wants_none rfl, .agg #[.int .u64 fa.x0, .int .u64 fa.x1, .int .u64 fa.x2, .int .u64 fa.x3, .int .u64 fa.x4], w, ?_, gb_refl _ _, rfl⟩
      clear h hb
      simp only [execOp, Act.eval, e3]
      go_simp
    refine ⟨fe3_value rfl (by decide) fun a w h => ?_, ?_⟩
    · have e4 : a.tmps.getD 4 undef = .pointer (some ⟨w0.heap.size + 1, 0, none⟩) := h.rest 4 (by kernel_rfl)
      have hb := h.base.e (w0.heap.size + 1, fb) (by simp)
      have c0 : w.cell? ⟨w0.heap.size + 1, 0, none⟩ = some (.int .u64 fb.x0) := hb.cell (i := 0) rfl
      have c1 : w.cell? ⟨w0.heap.size + 1, 1, none⟩ = some (.int .u64 fb.x1) := hb.cell (i := 1) rfl
      have c2 : w.cell? ⟨w0.heap.size + 1, 2, none⟩ = some (.int .u64 fb.x2) := hb.cell (i := 2) rfl
      have c3 : w.cell? ⟨w0.heap.size + 1, 3, none⟩ = some (.int .u64 fb.x3) := hb.cell (i := 3) rfl
      have c4 : w.cell? ⟨w0.heap.size + 1, 4, none⟩ = some (.int .u64 fb.x4) := hb.cell (i := 4) rfl
      refine ⟨wants_none rfl, .agg #[.int .u64 fb.x0, .int .u64 fb.x1, .int .u64 fb.x2, .int .u64 fb.x3, .int .u64 fb.x4], w, ?_, gb_refl _ _, rfl⟩
      clear h hb
      simp only [execOp, Act.eval, e4]
      go_simp
    refine ⟨fe3_call rfl (by decide) fun a w h => ?_, ?_⟩
    · have e21 : a.tmps.getD 21 undef = fa.v := h.dep 21 (by kernel_rfl)
      have e21x : a.tmps[21]?.getD undef = fa.v := by simpa using e21
      have e22 : a.tmps.getD 22 undef = fb.v := h.dep 22 (by kernel_rfl)
      have e22x : a.tmps[22]?.getD undef = fb.v := by simpa using e22
      have hb := h.base
      refine ⟨wants_none rfl, 11, #[fa.v, fb.v], ?_, ?_⟩
      · clear h hb e21 e22
        go_simp
      · refine (add_any fa fb w okfa okfb).mono ?_
        intro e w1 hp
        obtain ⟨rfl, hg⟩ := feOut_is hp
        exact ⟨_, rfl, hg, rfl⟩
    refine ⟨fe3_value rfl (by decide) fun a w h => ?_, ?_⟩
    · have e3 : a.tmps.getD 3 undef = .pointer (some ⟨w0.heap.size, 0, none⟩) := h.rest 3 (by kernel_rfl)
      have hb := h.base.e (w0.heap.size, fa) (by simp)
      have c0 : w.cell? ⟨w0.heap.size, 0, none⟩ = some (.int .u64 fa.x0) := hb.cell (i := 0) rfl
      have c1 : w.cell? ⟨w0.heap.size, 1, none⟩ = some (.int .u64 fa.x1) := hb.cell (i := 1) rfl
      have c2 : w.cell? ⟨w0.heap.size, 2, none⟩ = some (.int .u64 fa.x2) := hb.cell (i := 2) rfl
      have c3 : w.cell? ⟨w0.heap.size, 3, none⟩ = some (.int .u64 fa.x3) := hb.cell (i := 3) rfl
      have c4 : w.cell? ⟨w0.heap.size, 4, none⟩ = some (.int .u64 fa.x4) := hb.cell (i := 4) rfl
      refine ⟨wants_none rfl, .agg #[.int .u64 fa.x0, .int .u64 fa.x1, .int .u64 fa.x2, .int .u64 fa.x3, .int .u64 fa.x4], w, ?_, gb_refl _ _, rfl⟩
      clear h hb
      simp only [execOp, Act.eval, e3]
      go_simp
    refine ⟨fe3_value rfl (by decide) fun a w h => ?_, ?_⟩
    · have e4 : a.tmps.getD 4 undef = .pointer (some ⟨w0.heap.size + 1, 0, none⟩) := h.rest 4 (by kernel_rfl)
      have hb := h.base.e (w0.heap.size + 1, fb) (by simp)
      have c0 : w.cell? ⟨w0.heap.size + 1, 0, none⟩ = some (.int .u64 fb.x0) := hb.cell (i := 0) rfl
      have c1 : w.cell? ⟨w0.heap.size + 1, 1, none⟩ = some (.int .u64 fb.x1) := hb.cell (i := 1) rfl
      have c2 : w.cell? ⟨w0.heap.size + 1, 2, none⟩ = some (.int .u64 fb.x2) := hb.cell (i := 2) rfl
      have c3 : w.cell? ⟨w0.heap.size + 1, 3, none⟩ = some (.int .u64 fb.x3) := hb.cell (i := 3) rfl
      have c4 : w.cell? ⟨w0.heap.size + 1, 4, none⟩ = some (.int .u64 fb.x4) := hb.cell (i := 4) rfl
      refine ⟨wants_none rfl, .agg #[.int .u64 fb.x0, .int .u64 fb.x1, .int .u64 fb.x2, .int .u64 fb.x3, .int .u64 fb.x4], w, ?_, gb_refl _ _, rfl⟩
      clear h hb
      simp only [execOp, Act.eval, e4]
      go_simp
    refine ⟨fe3_call rfl (by decide) fun a w h => ?_, ?_⟩
    · have e24 : a.tmps.getD 24 undef = fa.v := h.dep 24 (by kernel_rfl)
      have e24x : a.tmps[24]?.getD undef = fa.v := by simpa using e24
      have e25 : a.tmps.getD 25 undef = fb.v := h.dep 25 (by kernel_rfl)
      have e25x : a.tmps[25]?.getD undef = fb.v := by simpa using e25
      have hb := h.base
      refine ⟨wants_none rfl, 10, #[fa.v, fb.v], ?_, ?_⟩
      · clear h hb e24 e25
        go_simp
      · refine (mul_fe fa fb w okfa okfb).mono ?_
        intro e w1 hp
        obtain ⟨rfl, hg⟩ := feOut_is hp
        exact ⟨_, rfl, hg, rfl⟩
    refine ⟨fe3_alloc rfl (by show 7 < 158; decide) fun a w h => ?_, ?_⟩
    · refine ⟨wants_none rfl, w.alloc (.cells #[.int .u64 0, .int .u64 0, .int .u64 0, .int .u64 0, .int .u64 0] 24), ?_, World.grownBy_alloc _ _ _, by simp, ⟨w.heap.size, rfl, ⟨_, _, _, _, _, Blk.new w [.int .u64 0, .int .u64 0, .int .u64 0, .int .u64 0, .int .u64 0] _⟩, h.base.fresh⟩⟩
      clear h
      go_simp
    refine ⟨fe3_alloc rfl (by show 8 < 158; decide) fun a w h => ?_, ?_⟩
    · refine ⟨wants_none rfl, w.alloc (.cells #[.int .u64 0, .int .u64 0, .int .u64 0, .int .u64 0, .int .u64 0] 24), ?_, World.grownBy_alloc _ _ _, by simp, ⟨w.heap.size, rfl, ⟨_, _, _, _, _, Blk.new w [.int .u64 0, .int .u64 0, .int .u64 0, .int .u64 0, .int .u64 0] _⟩, h.base.fresh⟩⟩
      clear h
      go_simp
    refine ⟨fe3_store (p := 7) rfl rfl (by rfl) rfl (fun j oj hj hoj hn => two_stores (i := 8) (p := 7) (st := (fun j => if j = 8 then 7 else if j = 9 then 8 else 0)) (ps := [7, 8]) (by kernel_rfl) hj hoj hn) (Or.inl (by simp)) fun a w h => ?_, ?_⟩
    · obtain ⟨Bn, ep, hroom, hK⟩ : ∃ Bn, a.tmps.getD 7 undef = .pointer (some ⟨Bn, 0, none⟩) ∧ Room5 w Bn 24 ∧ (Okb W5 [(w0.heap.size, fa), (w0.heap.size + 1, fb), (w0.heap.size + 1 + 1, fc)]) Bn := h.dep 7 (by kernel_rfl)
      have e23 : a.tmps.getD 23 undef = .agg #[.int .u64 (Fe.addF fa fb).x0, .int .u64 (Fe.addF fa fb).x1, .int .u64 (Fe.addF fa fb).x2, .int .u64 (Fe.addF fa fb).x3, .int .u64 (Fe.addF fa fb).x4] := h.dep 23 (by kernel_rfl)
      refine ⟨wants_none rfl, Bn, ep, hK, hroom, ?_⟩
      obtain ⟨u0, u1, u2, u3, u4, hR⟩ := hroom
      have c0r := hR.cell (i := 0) rfl; have f0r := hR.free 0
      have c1r := hR.cell (i := 1) rfl; have f1r := hR.free 1
      have c2r := hR.cell (i := 2) rfl; have f2r := hR.free 2
      have c3r := hR.cell (i := 3) rfl; have f3r := hR.free 3
      have c4r := hR.cell (i := 4) rfl; have f4r := hR.free 4
      clear h hK hR
      unfold set5W
      simp only [execOp, Act.eval, ep, e23]
      go_simp
    refine ⟨fe3_store (p := 8) rfl rfl (by rfl) rfl (fun j oj hj hoj hn => two_stores (i := 9) (p := 8) (st := (fun j => if j = 8 then 7 else if j = 9 then 8 else 0)) (ps := [7, 8]) (by kernel_rfl) hj hoj hn) (Or.inl (by simp)) fun a w h => ?_, ?_⟩
    · obtain ⟨Bn, ep, hroom, hK⟩ : ∃ Bn, a.tmps.getD 8 undef = .pointer (some ⟨Bn, 0, none⟩) ∧ Room5 w Bn 24 ∧ (Okb W5 [(w0.heap.size, fa), (w0.heap.size + 1, fb), (w0.heap.size + 1 + 1, fc)]) Bn := h.dep 8 (by kernel_rfl)
      have e26 : a.tmps.getD 26 undef = .agg #[.int .u64 (Fe.mulF fa fb).x0, .int .u64 (Fe.mulF fa fb).x1, .int .u64 (Fe.mulF fa fb).x2, .int .u64 (Fe.mulF fa fb).x3, .int .u64 (Fe.mulF fa fb).x4] := h.dep 26 (by kernel_rfl)
      refine ⟨wants_none rfl, Bn, ep, hK, hroom, ?_⟩
      obtain ⟨u0, u1, u2, u3, u4, hR⟩ := hroom
      have c0r := hR.cell (i := 0) rfl; have f0r := hR.free 0
      have c1r := hR.cell (i := 1) rfl; have f1r := hR.free 1
      have c2r := hR.cell (i := 2) rfl; have f2r := hR.free 2
      have c3r := hR.cell (i := 3) rfl; have f3r := hR.free 3
      have c4r := hR.cell (i := 4) rfl; have f4r := hR.free 4
      clear h hK hR
      unfold set5W
      simp only [execOp, Act.eval, ep, e26]
      go_simp
    trivial
  · intro q W6 hB hsz hdf hrest hslots hmems
    obtain ⟨Bs, hs7, _, hfs⟩ := hmems 8 _ rfl rfl
    obtain ⟨Bp, hs8, _, hfp⟩ := hmems 9 _ rfl rfl
    replace hs7 : q.tmps.getD 7 undef = .pointer (some ⟨Bs, 0, none⟩) := hs7
    replace hs8 : q.tmps.getD 8 undef = .pointer (some ⟨Bp, 0, none⟩) := hs8
    replace hfs : Blk W6 Bs 24 (feL (Fe.addF fa fb)) := hfs
    replace hfp : Blk W6 Bp 24 (feL (Fe.mulF fa fb)) := hfp
    obtain rfl := frame_is (a := q) (vs := [Value.agg #[.int .u64 fa.x0, .int .u64 fa.x1, .int .u64 fa.x2, .int .u64 fa.x3, .int .u64 fa.x4], Value.agg #[.int .u64 fb.x0, .int .u64 fb.x1, .int .u64 fb.x2, .int .u64 fb.x3, .int .u64 fb.x4], Value.agg #[.int .u64 fc.x0, .int .u64 fc.x1, .int .u64 fc.x2, .int .u64 fc.x3, .int .u64 fc.x4], Value.pointer (some ⟨w0.heap.size, 0, none⟩), Value.pointer (some ⟨w0.heap.size + 1, 0, none⟩), Value.pointer (some ⟨w0.heap.size + 1 + 1, 0, none⟩), Value.bool false, Value.pointer (some ⟨Bs, 0, none⟩), Value.pointer (some ⟨Bp, 0, none⟩), undef, undef, undef, undef, Value.bool true, Value.bool false, Value.agg #[.int .u64 fa.x0, .int .u64 fa.x1, .int .u64 fa.x2, .int .u64 fa.x3, .int .u64 fa.x4], Value.agg #[.int .u64 fb.x0, .int .u64 fb.x1, .int .u64 fb.x2, .int .u64 fb.x3, .int .u64 fb.x4], Value.agg #[.int .u64 fc.x0, .int .u64 fc.x1, .int .u64 fc.x2, .int .u64 fc.x3, .int .u64 fc.x4], Value.slice (some ⟨v1.heap.size, 0, none⟩) 3 3, Value.bool true, Value.bool false, fa.v, fb.v, (Fe.addF fa fb).v, fa.v, fb.v, (Fe.mulF fa fb).v, undef, undef, undef, undef, undef, undef, undef, undef, undef, undef, undef, undef, undef, undef, undef, undef, undef, undef, undef, undef, undef, undef, undef, undef, undef, undef, undef, undef, undef, undef, undef, undef, undef, undef, undef, undef, undef, undef, undef, undef, undef, undef, undef, undef, undef, undef, undef, undef, undef, undef, undef, undef, undef, undef, undef, undef, undef, undef, undef, undef, undef, undef, undef, undef, undef, undef, undef, undef, undef, undef, undef, undef, undef, undef, undef, undef, undef, undef, undef, undef, undef, undef, undef, undef, undef, undef, undef, undef, undef, undef, undef, undef, undef, undef, undef, undef, undef, undef, undef, undef, undef, undef, undef, undef, undef, undef, undef, undef, undef, undef, undef, undef, undef, undef, undef, undef, undef, undef, undef, undef, undef, undef, undef, undef, undef, undef, undef, undef, undef, undef, undef]) hsz ⟨hrest 0 (by kernel_rfl), hrest 1 (by kernel_rfl), hrest 2 (by kernel_rfl), hrest 3 (by kernel_rfl), hrest 4 (by kernel_rfl), hrest 5 (by kernel_rfl), hrest 6 (by kernel_rfl), hs7, hs8, hrest 9 (by kernel_rfl), hrest 10 (by kernel_rfl), hrest 11 (by kernel_rfl), hrest 12 (by kernel_rfl), hrest 13 (by kernel_rfl), hrest 14 (by kernel_rfl), hrest 15 (by kernel_rfl), hrest 16 (by kernel_rfl), hrest 17 (by kernel_rfl), hrest 18 (by kernel_rfl), hrest 19 (by kernel_rfl), hrest 20 (by kernel_rfl), (show q.tmps.getD 21 undef = fa.v from hslots 21 (by kernel_rfl)), (show q.tmps.getD 22 undef = fb.v from hslots 22 (by kernel_rfl)), (show q.tmps.getD 23 undef = (Fe.addF fa fb).v from hslots 23 (by kernel_rfl)), (show q.tmps.getD 24 undef = fa.v from hslots 24 (by kernel_rfl)), (show q.tmps.getD 25 undef = fb.v from hslots 25 (by kernel_rfl)), (show q.tmps.getD 26 undef = (Fe.mulF fa fb).v from hslots 26 (by kernel_rfl)), hrest 27 (by kernel_rfl), hrest 28 (by kernel_rfl), hrest 29 (by kernel_rfl), hrest 30 (by kernel_rfl), hrest 31 (by kernel_rfl), hrest 32 (by kernel_rfl), hrest 33 (by kernel_rfl), hrest 34 (by kernel_rfl), hrest 35 (by kernel_rfl), hrest 36 (by kernel_rfl), hrest 37 (by kernel_rfl), hrest 38 (by kernel_rfl), hrest 39 (by kernel_rfl), hrest 40 (by kernel_rfl), hrest 41 (by kernel_rfl), hrest 42 (by kernel_rfl), hrest 43 (by kernel_rfl), hrest 44 (by kernel_rfl), hrest 45 (by kernel_rfl), hrest 46 (by kernel_rfl), hrest 47 (by kernel_rfl), hrest 48 (by kernel_rfl), hrest 49 (by kernel_rfl), hrest 50 (by kernel_rfl), hrest 51 (by kernel_rfl), hrest 52 (by kernel_rfl), hrest 53 (by kernel_rfl), hrest 54 (by kernel_rfl), hrest 55 (by kernel_rfl), hrest 56 (by kernel_rfl), hrest 57 (by kernel_rfl), hrest 58 (by kernel_rfl), hrest 59 (by kernel_rfl), hrest 60 (by kernel_rfl), hrest 61 (by kernel_rfl), hrest 62 (by kernel_rfl), hrest 63 (by kernel_rfl), hrest 64 (by kernel_rfl), hrest 65 (by kernel_rfl), hrest 66 (by kernel_rfl), hrest 67 (by kernel_rfl), hrest 68 (by kernel_rfl), hrest 69 (by kernel_rfl), hrest 70 (by kernel_rfl), hrest 71 (by kernel_rfl), hrest 72 (by kernel_rfl), hrest 73 (by kernel_rfl), hrest 74 (by kernel_rfl), hrest 75 (by kernel_rfl), hrest 76 (by kernel_rfl), hrest 77 (by kernel_rfl), hrest 78 (by kernel_rfl), hrest 79 (by kernel_rfl), hrest 80 (by kernel_rfl), hrest 81 (by kernel_rfl), hrest 82 (by kernel_rfl), hrest 83 (by kernel_rfl), hrest 84 (by kernel_rfl), hrest 85 (by kernel_rfl), hrest 86 (by kernel_rfl), hrest 87 (by kernel_rfl), hrest 88 (by kernel_rfl), hrest 89 (by kernel_rfl), hrest 90 (by kernel_rfl), hrest 91 (by kernel_rfl), hrest 92 (by kernel_rfl), hrest 93 (by kernel_rfl), hrest 94 (by kernel_rfl), hrest 95 (by kernel_rfl), hrest 96 (by kernel_rfl), hrest 97 (by kernel_rfl), hrest 98 (by kernel_rfl), hrest 99 (by kernel_rfl), hrest 100 (by kernel_rfl), hrest 101 (by kernel_rfl), hrest 102 (by kernel_rfl), hrest 103 (by kernel_rfl), hrest 104 (by kernel_rfl), hrest 105 (by kernel_rfl), hrest 106 (by kernel_rfl), hrest 107 (by kernel_rfl), hrest 108 (by kernel_rfl), hrest 109 (by kernel_rfl), hrest 110 (by kernel_rfl), hrest 111 (by kernel_rfl), hrest 112 (by kernel_rfl), hrest 113 (by kernel_rfl), hrest 114 (by kernel_rfl), hrest 115 (by kernel_rfl), hrest 116 (by kernel_rfl), hrest 117 (by kernel_rfl), hrest 118 (by kernel_rfl), hrest 119 (by kernel_rfl), hrest 120 (by kernel_rfl), hrest 121 (by kernel_rfl), hrest 122 (by kernel_rfl), hrest 123 (by kernel_rfl), hrest 124 (by kernel_rfl), hrest 125 (by kernel_rfl), hrest 126 (by kernel_rfl), hrest 127 (by kernel_rfl), hrest 128 (by kernel_rfl), hrest 129 (by kernel_rfl), hrest 130 (by kernel_rfl), hrest 131 (by kernel_rfl), hrest 132 (by kernel_rfl), hrest 133 (by kernel_rfl), hrest 134 (by kernel_rfl), hrest 135 (by kernel_rfl), hrest 136 (by kernel_rfl), hrest 137 (by kernel_rfl), hrest 138 (by kernel_rfl), hrest 139 (by kernel_rfl), hrest 140 (by kernel_rfl), hrest 141 (by kernel_rfl), hrest 142 (by kernel_rfl), hrest 143 (by kernel_rfl), hrest 144 (by kernel_rfl), hrest 145 (by kernel_rfl), hrest 146 (by kernel_rfl), hrest 147 (by kernel_rfl), hrest 148 (by kernel_rfl), hrest 149 (by kernel_rfl), hrest 150 (by kernel_rfl), hrest 151 (by kernel_rfl), hrest 152 (by kernel_rfl), hrest 153 (by kernel_rfl), hrest 154 (by kernel_rfl), hrest 155 (by kernel_rfl), hrest 156 (by kernel_rfl), hrest 157 (by kernel_rfl), trivial⟩ hdf
    have hg := hB.g
    clear hs7 hs8 hsz hdf hrest hslots hmems hB hB5
    replace hfa := hfa.grown hg (by simp)
    replace hfb := hfb.grown hg (by simp)
    replace hfc := hfc.grown hg (by simp)
    replace G1 := gb_trans G1 hg
    clear hg
    obtain ⟨fs, hfse⟩ : ∃ x, x = Fe.addF fa fb := ⟨_, rfl⟩
    obtain ⟨fp, hfpe⟩ : ∃ x, x = Fe.mulF fa fb := ⟨_, rfl⟩
    rw [← hfse] at hfs; rw [← hfpe] at hfp
    have okfs : fs.Ok := by rw [hfse]; exact (Fe.add_right _ _).ok
    have okfp : fp.Ok := by rw [hfpe]; exact (Fe.mul_right _ _).ok
    have ES := Lib.hid hfse; have EP := Lib.hid hfpe; clear hfse hfpe
    have H6 : Hid (decide (Fe.m fs = Fe.m (Fe.addF fb fa)) = true ∧ decide (Fe.m fp = Fe.m (Fe.mulF fb fa)) = true ∧ decide (Fe.m (Fe.addF fs fc) = Fe.m (Fe.addF fa (Fe.addF fb fc))) = true ∧ decide (Fe.m (Fe.mulF fp fc) = Fe.m (Fe.mulF fa (Fe.mulF fb fc))) = true) := Lib.hid (by
      rw [ES.out, EP.out]
      exact ⟨dt (Fe.ring_comm HRA.out HRB.out), dt (Fe.ring_mcomm HRA.out HRB.out), dt (Fe.ring_assoc HRA.out HRB.out HRC.out), dt (Fe.ring_massoc HRA.out HRB.out HRC.out)⟩)
    go_wp2_with fail
    have HT6 := Lib.hid (HT.out.grown G1)
    have hB6 : EnvB W6 W6.heap.size [(w0.heap.size, fa), (w0.heap.size + 1, fb), (w0.heap.size + 1 + 1, fc), (Bs, fs), (Bp, fp)] [] W6 := ⟨gb_refl _ _, by
      intro p hp
      simp only [List.mem_cons, List.not_mem_nil, or_false] at hp
      rcases hp with rfl | rfl | rfl | rfl | rfl
      · exact hfa
      · exact hfb
      · exact hfc
      · exact hfs
      · exact hfp, by simp, by
      intro p hp
      simp only [List.mem_cons, List.not_mem_nil, or_false] at hp
      rcases hp with rfl | rfl | rfl | rfl | rfl
      · exact hfa.lt
      · exact hfb.lt
      · exact hfc.lt
      · exact hfs.lt
      · exact hfp.lt, Nat.le_refl _, Nat.le_refl _⟩
    refine wp_region_flow3 (items3 (Okb W6 [(w0.heap.size, fa), (w0.heap.size + 1, fb), (w0.heap.size + 1 + 1, fc), (Bs, fs), (Bp, fp)]) [.any, .any, .any, .any, .any, .any, .any, .any, .any, .any, .any, .any, .any, .any, .any, .any, .any, .any, .any, .any, .any, .any, .any, .any, .any, .any, .any, .val (fs.v), .val (fb.v), .val (fa.v), .val ((Fe.addF fb fa).v), .val (.bool true), .val (.bool false), .val (.bool false), .val (fp.v), .val (fb.v), .val (fa.v), .val ((Fe.mulF fb fa).v), .val (.bool true), .val (.bool false), .val (.bool false), .val (.bool false), .val (fs.v), .val (fc.v), .val ((Fe.addF fs fc).v), .val (fa.v), .val (fb.v), .val (fc.v), .val ((Fe.addF fb fc).v), .val ((Fe.addF fa (Fe.addF fb fc)).v), .val (.bool true), .val (.bool false), .val (.bool false), .val (.bool false), .val (fp.v), .val (fc.v), .val ((Fe.mulF fp fc).v), .val (fa.v), .val (fb.v), .val (fc.v), .val ((Fe.mulF fb fc).v), .val ((Fe.mulF fa (Fe.mulF fb fc)).v), .val (.bool true), .val (.bool false), .val (.bool false), .any, .any, .any, .any, .any, .any, .any, .any, .any, .any, .any, .any, .any, .any, .any, .any, .any, .any, .any, .any, .any, .any, .any, .any, .any, .any, .any, .any, .any, .any, .any, .any, .any, .any, .any, .any, .any, .any, .any, .any, .any, .any, .any, .any, .any, .any, .any, .any, .any, .any, .any, .any, .any, .any, .any, .any, .any, .any, .any, .any, .any, .any, .any, .any, .any, .any, .any, .any, .any, .any, .any, .any, .any, .any, .any, .any, .any, .any, .any, .any, .any, .any, .any, .any, .any, .any, .any, .any, .any, .any, .any, .any, .any]) (fun j =>  0) (Stored3 (Okb W6 [(w0.heap.size, fa), (w0.heap.size + 1, fb), (w0.heap.size + 1 + 1, fc), (Bs, fs), (Bp, fp)]) (fun j =>  Fe.zeroF)) (EnvB W6 W6.heap.size [(w0.heap.size, fa), (w0.heap.size + 1, fb), (w0.heap.size + 1 + 1, fc), (Bs, fs), (Bp, fp)] []) [] (by kernel_rfl) (by kernel_rfl) (by kernel_rfl) (hB6.grown (gb_drewn _)) (fun s hs => by cases hs) (by kernel_rfl) ?_ ?_
    · refine ⟨fe3_value rfl (by decide) fun a w h => ?_, ?_⟩
      · have e7 : a.tmps.getD 7 undef = .pointer (some ⟨Bs, 0, none⟩) := h.rest 7 (by kernel_rfl)
        have hb := h.base.e (Bs, fs) (by simp)
        have c0 : w.cell? ⟨Bs, 0, none⟩ = some (.int .u64 fs.x0) := hb.cell (i := 0) rfl
        have c1 : w.cell? ⟨Bs, 1, none⟩ = some (.int .u64 fs.x1) := hb.cell (i := 1) rfl
        have c2 : w.cell? ⟨Bs, 2, none⟩ = some (.int .u64 fs.x2) := hb.cell (i := 2) rfl
        have c3 : w.cell? ⟨Bs, 3, none⟩ = some (.int .u64 fs.x3) := hb.cell (i := 3) rfl
        have c4 : w.cell? ⟨Bs, 4, none⟩ = some (.int .u64 fs.x4) := hb.cell (i := 4) rfl
        refine ⟨wants_none rfl, .agg #[.int .u64 fs.x0, .int .u64 fs.x1, .int .u64 fs.x2, .int .u64 fs.x3, .int .u64 fs.x4], w, ?_, gb_refl _ _, rfl⟩
        clear h hb
        simp only [execOp, Act.eval, e7]
        go_simp
      refine ⟨fe3_value rfl (by decide) fun a w h => ?_, ?_⟩
      · have e4 : a.tmps.getD 4 undef = .pointer (some ⟨w0.heap.size + 1, 0, none⟩) := h.rest 4 (by kernel_rfl)
        have hb := h.base.e (w0.heap.size + 1, fb) (by simp)
        have c0 : w.cell? ⟨w0.heap.size + 1, 0, none⟩ = some (.int .u64 fb.x0) := hb.cell (i := 0) rfl
        have c1 : w.cell? ⟨w0.heap.size + 1, 1, none⟩ = some (.int .u64 fb.x1) := hb.cell (i := 1) rfl
        have c2 : w.cell? ⟨w0.heap.size + 1, 2, none⟩ = some (.int .u64 fb.x2) := hb.cell (i := 2) rfl
        have c3 : w.cell? ⟨w0.heap.size + 1, 3, none⟩ = some (.int .u64 fb.x3) := hb.cell (i := 3) rfl
        have c4 : w.cell? ⟨w0.heap.size + 1, 4, none⟩ = some (.int .u64 fb.x4) := hb.cell (i := 4) rfl
        refine ⟨wants_none rfl, .agg #[.int .u64 fb.x0, .int .u64 fb.x1, .int .u64 fb.x2, .int .u64 fb.x3, .int .u64 fb.x4], w, ?_, gb_refl _ _, rfl⟩
        clear h hb
        simp only [execOp, Act.eval, e4]
        go_simp
      refine ⟨fe3_value rfl (by decide) fun a w h => ?_, ?_⟩
      · have e3 : a.tmps.getD 3 undef = .pointer (some ⟨w0.heap.size, 0, none⟩) := h.rest 3 (by kernel_rfl)
        have hb := h.base.e (w0.heap.size, fa) (by simp)
        have c0 : w.cell? ⟨w0.heap.size, 0, none⟩ = some (.int .u64 fa.x0) := hb.cell (i := 0) rfl
        have c1 : w.cell? ⟨w0.heap.size, 1, none⟩ = some (.int .u64 fa.x1) := hb.cell (i := 1) rfl
        have c2 : w.cell? ⟨w0.heap.size, 2, none⟩ = some (.int .u64 fa.x2) := hb.cell (i := 2) rfl
        have c3 : w.cell? ⟨w0.heap.size, 3, none⟩ = some (.int .u64 fa.x3) := hb.cell (i := 3) rfl
        have c4 : w.cell? ⟨w0.heap.size, 4, none⟩ = some (.int .u64 fa.x4) := hb.cell (i := 4) rfl
        refine ⟨wants_none rfl, .agg #[.int .u64 fa.x0, .int .u64 fa.x1, .int .u64 fa.x2, .int .u64 fa.x3, .int .u64 fa.x4], w, ?_, gb_refl _ _, rfl⟩
        clear h hb
        simp only [execOp, Act.eval, e3]
        go_simp
      refine ⟨fe3_call rfl (by decide) fun a w h => ?_, ?_⟩
      · have e28 : a.tmps.getD 28 undef = fb.v := h.dep 28 (by kernel_rfl)
        have e28x : a.tmps[28]?.getD undef = fb.v := by simpa using e28
        have e29 : a.tmps.getD 29 undef = fa.v := h.dep 29 (by kernel_rfl)
        have e29x : a.tmps[29]?.getD undef = fa.v := by simpa using e29
        have hb := h.base
        refine ⟨wants_none rfl, 11, #[fb.v, fa.v], ?_, ?_⟩
        · clear h hb e28 e29
          go_simp
        · refine (add_any fb fa w okfb okfa).mono ?_
          intro e w1 hp
          obtain ⟨rfl, hg⟩ := feOut_is hp
          exact ⟨_, rfl, hg, rfl⟩
      refine ⟨fe3_call rfl (by decide) fun a w h => ?_, ?_⟩
      · have e27 : a.tmps.getD 27 undef = fs.v := h.dep 27 (by kernel_rfl)
        have e27x : a.tmps[27]?.getD undef = fs.v := by simpa using e27
        have e30 : a.tmps.getD 30 undef = (Fe.addF fb fa).v := h.dep 30 (by kernel_rfl)
        have e30x : a.tmps[30]?.getD undef = (Fe.addF fb fa).v := by simpa using e30
        have hb := h.base
        refine ⟨wants_none rfl, 13, #[fs.v, (Fe.addF fb fa).v], ?_, ?_⟩
        · clear h hb e27 e30
          go_simp
        · refine (same_val fs (Fe.addF fb fa) true w okfs (Fe.add_right _ _).ok (H6.out.1)).mono ?_
          intro e w1 hp
          obtain ⟨rfl, hg⟩ := hp
          exact ⟨_, rfl, hg, rfl⟩
      refine ⟨fe3_value rfl (by decide) fun a w h => ?_, ?_⟩
      · have e31 : a.tmps.getD 31 undef = .bool true := h.dep 31 (by kernel_rfl)
        refine ⟨wants_none rfl, .bool false, w, ?_, gb_refl _ _, rfl⟩
        clear h
        simp only [execOp, Act.eval, e31]
        go_simp
      refine ⟨fe3_value rfl (by decide) fun a w h => ?_, ?_⟩
      · have e32 : a.tmps.getD 32 undef = .bool false := h.dep 32 (by kernel_rfl)
        refine ⟨wants_none rfl, .bool false, w, ?_, gb_refl _ _, rfl⟩
        clear h
        simp only [execOp, Act.eval, e32]
        go_simp
      refine ⟨fe3_value rfl (by decide) fun a w h => ?_, ?_⟩
      · have e33 : a.tmps.getD 33 undef = .bool false := h.dep 33 (by kernel_rfl)
        have e8 : a.tmps.getD 8 undef = .pointer (some ⟨Bp, 0, none⟩) := h.rest 8 (by kernel_rfl)
        have hb := h.base.e (Bp, fp) (by simp)
        have c0 : w.cell? ⟨Bp, 0, none⟩ = some (.int .u64 fp.x0) := hb.cell (i := 0) rfl
        have c1 : w.cell? ⟨Bp, 1, none⟩ = some (.int .u64 fp.x1) := hb.cell (i := 1) rfl
        have c2 : w.cell? ⟨Bp, 2, none⟩ = some (.int .u64 fp.x2) := hb.cell (i := 2) rfl
        have c3 : w.cell? ⟨Bp, 3, none⟩ = some (.int .u64 fp.x3) := hb.cell (i := 3) rfl
        have c4 : w.cell? ⟨Bp, 4, none⟩ = some (.int .u64 fp.x4) := hb.cell (i := 4) rfl
        refine ⟨wants_some (d := 33) rfl rfl (by rw [h.size]; show 33 < 158; decide) e33, .agg #[.int .u64 fp.x0, .int .u64 fp.x1, .int .u64 fp.x2, .int .u64 fp.x3, .int .u64 fp.x4], w, ?_, gb_refl _ _, rfl⟩
        clear h hb
        simp only [execOp, Act.eval, e8]
        go_simp
      refine ⟨fe3_value rfl (by decide) fun a w h => ?_, ?_⟩
      · have e33 : a.tmps.getD 33 undef = .bool false := h.dep 33 (by kernel_rfl)
        have e4 : a.tmps.getD 4 undef = .pointer (some ⟨w0.heap.size + 1, 0, none⟩) := h.rest 4 (by kernel_rfl)
        have hb := h.base.e (w0.heap.size + 1, fb) (by simp)
        have c0 : w.cell? ⟨w0.heap.size + 1, 0, none⟩ = some (.int .u64 fb.x0) := hb.cell (i := 0) rfl
        have c1 : w.cell? ⟨w0.heap.size + 1, 1, none⟩ = some (.int .u64 fb.x1) := hb.cell (i := 1) rfl
        have c2 : w.cell? ⟨w0.heap.size + 1, 2, none⟩ = some (.int .u64 fb.x2) := hb.cell (i := 2) rfl
        have c3 : w.cell? ⟨w0.heap.size + 1, 3, none⟩ = some (.int .u64 fb.x3) := hb.cell (i := 3) rfl
        have c4 : w.cell? ⟨w0.heap.size + 1, 4, none⟩ = some (.int .u64 fb.x4) := hb.cell (i := 4) rfl
        refine ⟨wants_some (d := 33) rfl rfl (by rw [h.size]; show 33 < 158; decide) e33, .agg #[.int .u64 fb.x0, .int .u64 fb.x1, .int .u64 fb.x2, .int .u64 fb.x3, .int .u64 fb.x4], w, ?_, gb_refl _ _, rfl⟩
        clear h hb
        simp only [execOp, Act.eval, e4]
        go_simp
      refine ⟨fe3_value rfl (by decide) fun a w h => ?_, ?_⟩
      · have e33 : a.tmps.getD 33 undef = .bool false := h.dep 33 (by kernel_rfl)
        have e3 : a.tmps.getD 3 undef = .pointer (some ⟨w0.heap.size, 0, none⟩) := h.rest 3 (by kernel_rfl)
        have hb := h.base.e (w0.heap.size, fa) (by simp)
        have c0 : w.cell? ⟨w0.heap.size, 0, none⟩ = some (.int .u64 fa.x0) := hb.cell (i := 0) rfl
        have c1 : w.cell? ⟨w0.heap.size, 1, none⟩ = some (.int .u64 fa.x1) := hb.cell (i := 1) rfl
        have c2 : w.cell? ⟨w0.heap.size, 2, none⟩ = some (.int .u64 fa.x2) := hb.cell (i := 2) rfl
        have c3 : w.cell? ⟨w0.heap.size, 3, none⟩ = some (.int .u64 fa.x3) := hb.cell (i := 3) rfl
        have c4 : w.cell? ⟨w0.heap.size, 4, none⟩ = some (.int .u64 fa.x4) := hb.cell (i := 4) rfl
        refine ⟨wants_some (d := 33) rfl rfl (by rw [h.size]; show 33 < 158; decide) e33, .agg #[.int .u64 fa.x0, .int .u64 fa.x1, .int .u64 fa.x2, .int .u64 fa.x3, .int .u64 fa.x4], w, ?_, gb_refl _ _, rfl⟩
        clear h hb
        simp only [execOp, Act.eval, e3]
        go_simp
      refine ⟨fe3_call rfl (by decide) fun a w h => ?_, ?_⟩
      · have e33 : a.tmps.getD 33 undef = .bool false := h.dep 33 (by kernel_rfl)
        have e35 : a.tmps.getD 35 undef = fb.v := h.dep 35 (by kernel_rfl)
        have e35x : a.tmps[35]?.getD undef = fb.v := by simpa using e35
        have e36 : a.tmps.getD 36 undef = fa.v := h.dep 36 (by kernel_rfl)
        have e36x : a.tmps[36]?.getD undef = fa.v := by simpa using e36
        have hb := h.base
        refine ⟨wants_some (d := 33) rfl rfl (by rw [h.size]; show 33 < 158; decide) e33, 10, #[fb.v, fa.v], ?_, ?_⟩
        · clear h hb e35 e36
          go_simp
        · refine (mul_fe fb fa w okfb okfa).mono ?_
          intro e w1 hp
          obtain ⟨rfl, hg⟩ := feOut_is hp
          exact ⟨_, rfl, hg, rfl⟩
      refine ⟨fe3_call rfl (by decide) fun a w h => ?_, ?_⟩
      · have e33 : a.tmps.getD 33 undef = .bool false := h.dep 33 (by kernel_rfl)
        have e34 : a.tmps.getD 34 undef = fp.v := h.dep 34 (by kernel_rfl)
        have e34x : a.tmps[34]?.getD undef = fp.v := by simpa using e34
        have e37 : a.tmps.getD 37 undef = (Fe.mulF fb fa).v := h.dep 37 (by kernel_rfl)
        have e37x : a.tmps[37]?.getD undef = (Fe.mulF fb fa).v := by simpa using e37
        have hb := h.base
        refine ⟨wants_some (d := 33) rfl rfl (by rw [h.size]; show 33 < 158; decide) e33, 13, #[fp.v, (Fe.mulF fb fa).v], ?_, ?_⟩
        · clear h hb e34 e37
          go_simp
        · refine (same_val fp (Fe.mulF fb fa) true w okfp (Fe.mul_right _ _).ok (H6.out.2.1)).mono ?_
          intro e w1 hp
          obtain ⟨rfl, hg⟩ := hp
          exact ⟨_, rfl, hg, rfl⟩
      refine ⟨fe3_value rfl (by decide) fun a w h => ?_, ?_⟩
      · have e33 : a.tmps.getD 33 undef = .bool false := h.dep 33 (by kernel_rfl)
        have e38 : a.tmps.getD 38 undef = .bool true := h.dep 38 (by kernel_rfl)
        refine ⟨wants_some (d := 33) rfl rfl (by rw [h.size]; show 33 < 158; decide) e33, .bool false, w, ?_, gb_refl _ _, rfl⟩
        clear h
        simp only [execOp, Act.eval, e38]
        go_simp
      refine ⟨fe3_value rfl (by decide) fun a w h => ?_, ?_⟩
      · have e33 : a.tmps.getD 33 undef = .bool false := h.dep 33 (by kernel_rfl)
        have e39 : a.tmps.getD 39 undef = .bool false := h.dep 39 (by kernel_rfl)
        refine ⟨wants_none rfl, .bool false, w, ?_, gb_refl _ _, rfl⟩
        clear h
        simp only [execOp, Act.eval, e33, e39]
        go_simp
      refine ⟨fe3_value rfl (by decide) fun a w h => ?_, ?_⟩
      · have e40 : a.tmps.getD 40 undef = .bool false := h.dep 40 (by kernel_rfl)
        refine ⟨wants_none rfl, .bool false, w, ?_, gb_refl _ _, rfl⟩
        clear h
        simp only [execOp, Act.eval, e40]
        go_simp
      refine ⟨fe3_value rfl (by decide) fun a w h => ?_, ?_⟩
      · have e41 : a.tmps.getD 41 undef = .bool false := h.dep 41 (by kernel_rfl)
        have e7 : a.tmps.getD 7 undef = .pointer (some ⟨Bs, 0, none⟩) := h.rest 7 (by kernel_rfl)
        have hb := h.base.e (Bs, fs) (by simp)
        have c0 : w.cell? ⟨Bs, 0, none⟩ = some (.int .u64 fs.x0) := hb.cell (i := 0) rfl
        have c1 : w.cell? ⟨Bs, 1, none⟩ = some (.int .u64 fs.x1) := hb.cell (i := 1) rfl
        have c2 : w.cell? ⟨Bs, 2, none⟩ = some (.int .u64 fs.x2) := hb.cell (i := 2) rfl
        have c3 : w.cell? ⟨Bs, 3, none⟩ = some (.int .u64 fs.x3) := hb.cell (i := 3) rfl
        have c4 : w.cell? ⟨Bs, 4, none⟩ = some (.int .u64 fs.x4) := hb.cell (i := 4) rfl
        refine ⟨wants_some (d := 41) rfl rfl (by rw [h.size]; show 41 < 158; decide) e41, .agg #[.int .u64 fs.x0, .int .u64 fs.x1, .int .u64 fs.x2, .int .u64 fs.x3, .int .u64 fs.x4], w, ?_, gb_refl _ _, rfl⟩
        clear h hb
        simp only [execOp, Act.eval, e7]
        go_simp
      refine ⟨fe3_value rfl (by decide) fun a w h => ?_, ?_⟩
      · have e41 : a.tmps.getD 41 undef = .bool false := h.dep 41 (by kernel_rfl)
        have e5 : a.tmps.getD 5 undef = .pointer (some ⟨w0.heap.size + 1 + 1, 0, none⟩) := h.rest 5 (by kernel_rfl)
        have hb := h.base.e (w0.heap.size + 1 + 1, fc) (by simp)
        have c0 : w.cell? ⟨w0.heap.size + 1 + 1, 0, none⟩ = some (.int .u64 fc.x0) := hb.cell (i := 0) rfl
        have c1 : w.cell? ⟨w0.heap.size + 1 + 1, 1, none⟩ = some (.int .u64 fc.x1) := hb.cell (i := 1) rfl
        have c2 : w.cell? ⟨w0.heap.size + 1 + 1, 2, none⟩ = some (.int .u64 fc.x2) := hb.cell (i := 2) rfl
        have c3 : w.cell? ⟨w0.heap.size + 1 + 1, 3, none⟩ = some (.int .u64 fc.x3) := hb.cell (i := 3) rfl
        have c4 : w.cell? ⟨w0.heap.size + 1 + 1, 4, none⟩ = some (.int .u64 fc.x4) := hb.cell (i := 4) rfl
        refine ⟨wants_some (d := 41) rfl rfl (by rw [h.size]; show 41 < 158; decide) e41, .agg #[.int .u64 fc.x0, .int .u64 fc.x1, .int .u64 fc.x2, .int .u64 fc.x3, .int .u64 fc.x4], w, ?_, gb_refl _ _, rfl⟩
        clear h hb
        simp only [execOp, Act.eval, e5]
        go_simp
      refine ⟨fe3_call rfl (by decide) fun a w h => ?_, ?_⟩
      · have e41 : a.tmps.getD 41 undef = .bool false := h.dep 41 (by kernel_rfl)
        have e42 : a.tmps.getD 42 undef = fs.v := h.dep 42 (by kernel_rfl)
        have e42x : a.tmps[42]?.getD undef = fs.v := by simpa using e42
        have e43 : a.tmps.getD 43 undef = fc.v := h.dep 43 (by kernel_rfl)
        have e43x : a.tmps[43]?.getD undef = fc.v := by simpa using e43
        have hb := h.base
        refine ⟨wants_some (d := 41) rfl rfl (by rw [h.size]; show 41 < 158; decide) e41, 11, #[fs.v, fc.v], ?_, ?_⟩
        · clear h hb e42 e43
          go_simp
        · refine (add_any fs fc w okfs okfc).mono ?_
          intro e w1 hp
          obtain ⟨rfl, hg⟩ := feOut_is hp
          exact ⟨_, rfl, hg, rfl⟩
      refine ⟨fe3_value rfl (by decide) fun a w h => ?_, ?_⟩
      · have e41 : a.tmps.getD 41 undef = .bool false := h.dep 41 (by kernel_rfl)
        have e3 : a.tmps.getD 3 undef = .pointer (some ⟨w0.heap.size, 0, none⟩) := h.rest 3 (by kernel_rfl)
        have hb := h.base.e (w0.heap.size, fa) (by simp)
        have c0 : w.cell? ⟨w0.heap.size, 0, none⟩ = some (.int .u64 fa.x0) := hb.cell (i := 0) rfl
        have c1 : w.cell? ⟨w0.heap.size, 1, none⟩ = some (.int .u64 fa.x1) := hb.cell (i := 1) rfl
        have c2 : w.cell? ⟨w0.heap.size, 2, none⟩ = some (.int .u64 fa.x2) := hb.cell (i := 2) rfl
        have c3 : w.cell? ⟨w0.heap.size, 3, none⟩ = some (.int .u64 fa.x3) := hb.cell (i := 3) rfl
        have c4 : w.cell? ⟨w0.heap.size, 4, none⟩ = some (.int .u64 fa.x4) := hb.cell (i := 4) rfl
        refine ⟨wants_some (d := 41) rfl rfl (by rw [h.size]; show 41 < 158; decide) e41, .agg #[.int .u64 fa.x0, .int .u64 fa.x1, .int .u64 fa.x2, .int .u64 fa.x3, .int .u64 fa.x4], w, ?_, gb_refl _ _, rfl⟩
        clear h hb
        simp only [execOp, Act.eval, e3]
        go_simp
      refine ⟨fe3_value rfl (by decide) fun a w h => ?_, ?_⟩
      · have e41 : a.tmps.getD 41 undef = .bool false := h.dep 41 (by kernel_rfl)
        have e4 : a.tmps.getD 4 undef = .pointer (some ⟨w0.heap.size + 1, 0, none⟩) := h.rest 4 (by kernel_rfl)
        have hb := h.base.e (w0.heap.size + 1, fb) (by simp)
        have c0 : w.cell? ⟨w0.heap.size + 1, 0, none⟩ = some (.int .u64 fb.x0) := hb.cell (i := 0) rfl
        have c1 : w.cell? ⟨w0.heap.size + 1, 1, none⟩ = some (.int .u64 fb.x1) := hb.cell (i := 1) rfl
        have c2 : w.cell? ⟨w0.heap.size + 1, 2, none⟩ = some (.int .u64 fb.x2) := hb.cell (i := 2) rfl
        have c3 : w.cell? ⟨w0.heap.size + 1, 3, none⟩ = some (.int .u64 fb.x3) := hb.cell (i := 3) rfl
        have c4 : w.cell? ⟨w0.heap.size + 1, 4, none⟩ = some (.int .u64 fb.x4) := hb.cell (i := 4) rfl
        refine ⟨wants_some (d := 41) rfl rfl (by rw [h.size]; show 41 < 158; decide) e41, .agg #[.int .u64 fb.x0, .int .u64 fb.x1, .int .u64 fb.x2, .int .u64 fb.x3, .int .u64 fb.x4], w, ?_, gb_refl _ _, rfl⟩
        clear h hb
        simp only [execOp, Act.eval, e4]
        go_simp
      refine ⟨fe3_value rfl (by decide) fun a w h => ?_, ?_⟩
      · have e41 : a.tmps.getD 41 undef = .bool false := h.dep 41 (by kernel_rfl)
        have e5 : a.tmps.getD 5 undef = .pointer (some ⟨w0.heap.size + 1 + 1, 0, none⟩) := h.rest 5 (by kernel_rfl)
        have hb := h.base.e (w0.heap.size + 1 + 1, fc) (by simp)
        have c0 : w.cell? ⟨w0.heap.size + 1 + 1, 0, none⟩ = some (.int .u64 fc.x0) := hb.cell (i := 0) rfl
        have c1 : w.cell? ⟨w0.heap.size + 1 + 1, 1, none⟩ = some (.int .u64 fc.x1) := hb.cell (i := 1) rfl
        have c2 : w.cell? ⟨w0.heap.size + 1 + 1, 2, none⟩ = some (.int .u64 fc.x2) := hb.cell (i := 2) rfl
        have c3 : w.cell? ⟨w0.heap.size + 1 + 1, 3, none⟩ = some (.int .u64 fc.x3) := hb.cell (i := 3) rfl
        have c4 : w.cell? ⟨w0.heap.size + 1 + 1, 4, none⟩ = some (.int .u64 fc.x4) := hb.cell (i := 4) rfl
        refine ⟨wants_some (d := 41) rfl rfl (by rw [h.size]; show 41 < 158; decide) e41, .agg #[.int .u64 fc.x0, .int .u64 fc.x1, .int .u64 fc.x2, .int .u64 fc.x3, .int .u64 fc.x4], w, ?_, gb_refl _ _, rfl⟩
        clear h hb
        simp only [execOp, Act.eval, e5]
        go_simp
      refine ⟨fe3_call rfl (by decide) fun a w h => ?_, ?_⟩
      · have e41 : a.tmps.getD 41 undef = .bool false := h.dep 41 (by kernel_rfl)
        have e46 : a.tmps.getD 46 undef = fb.v := h.dep 46 (by kernel_rfl)
        have e46x : a.tmps[46]?.getD undef = fb.v := by simpa using e46
        have e47 : a.tmps.getD 47 undef = fc.v := h.dep 47 (by kernel_rfl)
        have e47x : a.tmps[47]?.getD undef = fc.v := by simpa using e47
        have hb := h.base
        refine ⟨wants_some (d := 41) rfl rfl (by rw [h.size]; show 41 < 158; decide) e41, 11, #[fb.v, fc.v], ?_, ?_⟩
        · clear h hb e46 e47
          go_simp
        · refine (add_any fb fc w okfb okfc).mono ?_
          intro e w1 hp
          obtain ⟨rfl, hg⟩ := feOut_is hp
          exact ⟨_, rfl, hg, rfl⟩
      refine ⟨fe3_call rfl (by decide) fun a w h => ?_, ?_⟩
      · have e41 : a.tmps.getD 41 undef = .bool false := h.dep 41 (by kernel_rfl)
        have e45 : a.tmps.getD 45 undef = fa.v := h.dep 45 (by kernel_rfl)
        have e45x : a.tmps[45]?.getD undef = fa.v := by simpa using e45
        have e48 : a.tmps.getD 48 undef = (Fe.addF fb fc).v := h.dep 48 (by kernel_rfl)
        have e48x : a.tmps[48]?.getD undef = (Fe.addF fb fc).v := by simpa using e48
        have hb := h.base
        refine ⟨wants_some (d := 41) rfl rfl (by rw [h.size]; show 41 < 158; decide) e41, 11, #[fa.v, (Fe.addF fb fc).v], ?_, ?_⟩
        · clear h hb e45 e48
          go_simp
        · refine (add_any fa (Fe.addF fb fc) w okfa (Fe.add_right _ _).ok).mono ?_
          intro e w1 hp
          obtain ⟨rfl, hg⟩ := feOut_is hp
          exact ⟨_, rfl, hg, rfl⟩
      refine ⟨fe3_call rfl (by decide) fun a w h => ?_, ?_⟩
      · have e41 : a.tmps.getD 41 undef = .bool false := h.dep 41 (by kernel_rfl)
        have e44 : a.tmps.getD 44 undef = (Fe.addF fs fc).v := h.dep 44 (by kernel_rfl)
        have e44x : a.tmps[44]?.getD undef = (Fe.addF fs fc).v := by simpa using e44
        have e49 : a.tmps.getD 49 undef = (Fe.addF fa (Fe.addF fb fc)).v := h.dep 49 (by kernel_rfl)
        have e49x : a.tmps[49]?.getD undef = (Fe.addF fa (Fe.addF fb fc)).v := by simpa using e49
        have hb := h.base
        refine ⟨wants_some (d := 41) rfl rfl (by rw [h.size]; show 41 < 158; decide) e41, 13, #[(Fe.addF fs fc).v, (Fe.addF fa (Fe.addF fb fc)).v], ?_, ?_⟩
        · clear h hb e44 e49
          go_simp
        · refine (same_val (Fe.addF fs fc) (Fe.addF fa (Fe.addF fb fc)) true w (Fe.add_right _ _).ok (Fe.add_right _ _).ok (H6.out.2.2.1)).mono ?_
          intro e w1 hp
          obtain ⟨rfl, hg⟩ := hp
          exact ⟨_, rfl, hg, rfl⟩
      refine ⟨fe3_value rfl (by decide) fun a w h => ?_, ?_⟩
      · have e41 : a.tmps.getD 41 undef = .bool false := h.dep 41 (by kernel_rfl)
        have e50 : a.tmps.getD 50 undef = .bool true := h.dep 50 (by kernel_rfl)
        refine ⟨wants_some (d := 41) rfl rfl (by rw [h.size]; show 41 < 158; decide) e41, .bool false, w, ?_, gb_refl _ _, rfl⟩
        clear h
        simp only [execOp, Act.eval, e50]
        go_simp
      refine ⟨fe3_value rfl (by decide) fun a w h => ?_, ?_⟩
      · have e41 : a.tmps.getD 41 undef = .bool false := h.dep 41 (by kernel_rfl)
        have e51 : a.tmps.getD 51 undef = .bool false := h.dep 51 (by kernel_rfl)
        refine ⟨wants_none rfl, .bool false, w, ?_, gb_refl _ _, rfl⟩
        clear h
        simp only [execOp, Act.eval, e41, e51]
        go_simp
      refine ⟨fe3_value rfl (by decide) fun a w h => ?_, ?_⟩
      · have e52 : a.tmps.getD 52 undef = .bool false := h.dep 52 (by kernel_rfl)
        refine ⟨wants_none rfl, .bool false, w, ?_, gb_refl _ _, rfl⟩
        clear h
        simp only [execOp, Act.eval, e52]
        go_simp
      refine ⟨fe3_value rfl (by decide) fun a w h => ?_, ?_⟩
      · have e53 : a.tmps.getD 53 undef = .bool false := h.dep 53 (by kernel_rfl)
        have e8 : a.tmps.getD 8 undef = .pointer (some ⟨Bp, 0, none⟩) := h.rest 8 (by kernel_rfl)
        have hb := h.base.e (Bp, fp) (by simp)
        have c0 : w.cell? ⟨Bp, 0, none⟩ = some (.int .u64 fp.x0) := hb.cell (i := 0) rfl
        have c1 : w.cell? ⟨Bp, 1, none⟩ = some (.int .u64 fp.x1) := hb.cell (i := 1) rfl
        have c2 : w.cell? ⟨Bp, 2, none⟩ = some (.int .u64 fp.x2) := hb.cell (i := 2) rfl
        have c3 : w.cell? ⟨Bp, 3, none⟩ = some (.int .u64 fp.x3) := hb.cell (i := 3) rfl
        have c4 : w.cell? ⟨Bp, 4, none⟩ = some (.int .u64 fp.x4) := hb.cell (i := 4) rfl
        refine ⟨wants_some (d := 53) rfl rfl (by rw [h.size]; show 53 < 158; decide) e53, .agg #[.int .u64 fp.x0, .int .u64 fp.x1, .int .u64 fp.x2, .int .u64 fp.x3, .int .u64 fp.x4], w, ?_, gb_refl _ _, rfl⟩
        clear h hb
        simp only [execOp, Act.eval, e8]
        go_simp
      refine ⟨fe3_value rfl (by decide) fun a w h => ?_, ?_⟩
      · have e53 : a.tmps.getD 53 undef = .bool false := h.dep 53 (by kernel_rfl)
        have e5 : a.tmps.getD 5 undef = .pointer (some ⟨w0.heap.size + 1 + 1, 0, none⟩) := h.rest 5 (by kernel_rfl)
        have hb := h.base.e (w0.heap.size + 1 + 1, fc) (by simp)
        have c0 : w.cell? ⟨w0.heap.size + 1 + 1, 0, none⟩ = some (.int .u64 fc.x0) := hb.cell (i := 0) rfl
        have c1 : w.cell? ⟨w0.heap.size + 1 + 1, 1, none⟩ = some (.int .u64 fc.x1) := hb.cell (i := 1) rfl
        have c2 : w.cell? ⟨w0.heap.size + 1 + 1, 2, none⟩ = some (.int .u64 fc.x2) := hb.cell (i := 2) rfl
        have c3 : w.cell? ⟨w0.heap.size + 1 + 1, 3, none⟩ = some (.int .u64 fc.x3) := hb.cell (i := 3) rfl
        have c4 : w.cell? ⟨w0.heap.size + 1 + 1, 4, none⟩ = some (.int .u64 fc.x4) := hb.cell (i := 4) rfl
        refine ⟨wants_some (d := 53) rfl rfl (by rw [h.size]; show 53 < 158; decide) e53, .agg #[.int .u64 fc.x0, .int .u64 fc.x1, .int .u64 fc.x2, .int .u64 fc.x3, .int .u64 fc.x4], w, ?_, gb_refl _ _, rfl⟩
        clear h hb
        simp only [execOp, Act.eval, e5]
        go_simp
      refine ⟨fe3_call rfl (by decide) fun a w h => ?_, ?_⟩
      · have e53 : a.tmps.getD 53 undef = .bool false := h.dep 53 (by kernel_rfl)
        have e54 : a.tmps.getD 54 undef = fp.v := h.dep 54 (by kernel_rfl)
        have e54x : a.tmps[54]?.getD undef = fp.v := by simpa using e54
        have e55 : a.tmps.getD 55 undef = fc.v := h.dep 55 (by kernel_rfl)
        have e55x : a.tmps[55]?.getD undef = fc.v := by simpa using e55
        have hb := h.base
        refine ⟨wants_some (d := 53) rfl rfl (by rw [h.size]; show 53 < 158; decide) e53, 10, #[fp.v, fc.v], ?_, ?_⟩
        · clear h hb e54 e55
          go_simp
        · refine (mul_fe fp fc w okfp okfc).mono ?_
          intro e w1 hp
          obtain ⟨rfl, hg⟩ := feOut_is hp
          exact ⟨_, rfl, hg, rfl⟩
      refine ⟨fe3_value rfl (by decide) fun a w h => ?_, ?_⟩
      · have e53 : a.tmps.getD 53 undef = .bool false := h.dep 53 (by kernel_rfl)
        have e3 : a.tmps.getD 3 undef = .pointer (some ⟨w0.heap.size, 0, none⟩) := h.rest 3 (by kernel_rfl)
        have hb := h.base.e (w0.heap.size, fa) (by simp)
        have c0 : w.cell? ⟨w0.heap.size, 0, none⟩ = some (.int .u64 fa.x0) := hb.cell (i := 0) rfl
        have c1 : w.cell? ⟨w0.heap.size, 1, none⟩ = some (.int .u64 fa.x1) := hb.cell (i := 1) rfl
        have c2 : w.cell? ⟨w0.heap.size, 2, none⟩ = some (.int .u64 fa.x2) := hb.cell (i := 2) rfl
        have c3 : w.cell? ⟨w0.heap.size, 3, none⟩ = some (.int .u64 fa.x3) := hb.cell (i := 3) rfl
        have c4 : w.cell? ⟨w0.heap.size, 4, none⟩ = some (.int .u64 fa.x4) := hb.cell (i := 4) rfl
        refine ⟨wants_some (d := 53) rfl rfl (by rw [h.size]; show 53 < 158; decide) e53, .agg #[.int .u64 fa.x0, .int .u64 fa.x1, .int .u64 fa.x2, .int .u64 fa.x3, .int .u64 fa.x4], w, ?_, gb_refl _ _, rfl⟩
        clear h hb
        simp only [execOp, Act.eval, e3]
        go_simp
      refine ⟨fe3_value rfl (by decide) fun a w h => ?_, ?_⟩
      · have e53 : a.tmps.getD 53 undef = .bool false := h.dep 53 (by kernel_rfl)
        have e4 : a.tmps.getD 4 undef = .pointer (some ⟨w0.heap.size + 1, 0, none⟩) := h.rest 4 (by kernel_rfl)
        have hb := h.base.e (w0.heap.size + 1, fb) (by simp)
        have c0 : w.cell? ⟨w0.heap.size + 1, 0, none⟩ = some (.int .u64 fb.x0) := hb.cell (i := 0) rfl
        have c1 : w.cell? ⟨w0.heap.size + 1, 1, none⟩ = some (.int .u64 fb.x1) := hb.cell (i := 1) rfl
        have c2 : w.cell? ⟨w0.heap.size + 1, 2, none⟩ = some (.int .u64 fb.x2) := hb.cell (i := 2) rfl
        have c3 : w.cell? ⟨w0.heap.size + 1, 3, none⟩ = some (.int .u64 fb.x3) := hb.cell (i := 3) rfl
        have c4 : w.cell? ⟨w0.heap.size + 1, 4, none⟩ = some (.int .u64 fb.x4) := hb.cell (i := 4) rfl
        refine ⟨wants_some (d := 53) rfl rfl (by rw [h.size]; show 53 < 158; decide) e53, .agg #[.int .u64 fb.x0, .int .u64 fb.x1, .int .u64 fb.x2, .int .u64 fb.x3, .int .u64 fb.x4], w, ?_, gb_refl _ _, rfl⟩
        clear h hb
        simp only [execOp, Act.eval, e4]
        go_simp
      refine ⟨fe3_value rfl (by decide) fun a w h => ?_, ?_⟩
      · have e53 : a.tmps.getD 53 undef = .bool false := h.dep 53 (by kernel_rfl)
        have e5 : a.tmps.getD 5 undef = .pointer (some ⟨w0.heap.size + 1 + 1, 0, none⟩) := h.rest 5 (by kernel_rfl)
        have hb := h.base.e (w0.heap.size + 1 + 1, fc) (by simp)
        have c0 : w.cell? ⟨w0.heap.size + 1 + 1, 0, none⟩ = some (.int .u64 fc.x0) := hb.cell (i := 0) rfl
        have c1 : w.cell? ⟨w0.heap.size + 1 + 1, 1, none⟩ = some (.int .u64 fc.x1) := hb.cell (i := 1) rfl
        have c2 : w.cell? ⟨w0.heap.size + 1 + 1, 2, none⟩ = some (.int .u64 fc.x2) := hb.cell (i := 2) rfl
        have c3 : w.cell? ⟨w0.heap.size + 1 + 1, 3, none⟩ = some (.int .u64 fc.x3) := hb.cell (i := 3) rfl
        have c4 : w.cell? ⟨w0.heap.size + 1 + 1, 4, none⟩ = some (.int .u64 fc.x4) := hb.cell (i := 4) rfl
        refine ⟨wants_some (d := 53) rfl rfl (by rw [h.size]; show 53 < 158; decide) e53, .agg #[.int .u64 fc.x0, .int .u64 fc.x1, .int .u64 fc.x2, .int .u64 fc.x3, .int .u64 fc.x4], w, ?_, gb_refl _ _, rfl⟩
        clear h hb
        simp only [execOp, Act.eval, e5]
        go_simp
      refine ⟨fe3_call rfl (by decide) fun a w h => ?_, ?_⟩
      · have e53 : a.tmps.getD 53 undef = .bool false := h.dep 53 (by kernel_rfl)
        have e58 : a.tmps.getD 58 undef = fb.v := h.dep 58 (by kernel_rfl)
        have e58x : a.tmps[58]?.getD undef = fb.v := by simpa using e58
        have e59 : a.tmps.getD 59 undef = fc.v := h.dep 59 (by kernel_rfl)
        have e59x : a.tmps[59]?.getD undef = fc.v := by simpa using e59
        have hb := h.base
        refine ⟨wants_some (d := 53) rfl rfl (by rw [h.size]; show 53 < 158; decide) e53, 10, #[fb.v, fc.v], ?_, ?_⟩
        · clear h hb e58 e59
          go_simp
        · refine (mul_fe fb fc w okfb okfc).mono ?_
          intro e w1 hp
          obtain ⟨rfl, hg⟩ := feOut_is hp
          exact ⟨_, rfl, hg, rfl⟩
      refine ⟨fe3_call rfl (by decide) fun a w h => ?_, ?_⟩
      · have e53 : a.tmps.getD 53 undef = .bool false := h.dep 53 (by kernel_rfl)
        have e57 : a.tmps.getD 57 undef = fa.v := h.dep 57 (by kernel_rfl)
        have e57x : a.tmps[57]?.getD undef = fa.v := by simpa using e57
        have e60 : a.tmps.getD 60 undef = (Fe.mulF fb fc).v := h.dep 60 (by kernel_rfl)
        have e60x : a.tmps[60]?.getD undef = (Fe.mulF fb fc).v := by simpa using e60
        have hb := h.base
        refine ⟨wants_some (d := 53) rfl rfl (by rw [h.size]; show 53 < 158; decide) e53, 10, #[fa.v, (Fe.mulF fb fc).v], ?_, ?_⟩
        · clear h hb e57 e60
          go_simp
        · refine (mul_fe fa (Fe.mulF fb fc) w okfa (Fe.mul_right _ _).ok).mono ?_
          intro e w1 hp
          obtain ⟨rfl, hg⟩ := feOut_is hp
          exact ⟨_, rfl, hg, rfl⟩
      refine ⟨fe3_call rfl (by decide) fun a w h => ?_, ?_⟩
      · have e53 : a.tmps.getD 53 undef = .bool false := h.dep 53 (by kernel_rfl)
        have e56 : a.tmps.getD 56 undef = (Fe.mulF fp fc).v := h.dep 56 (by kernel_rfl)
        have e56x : a.tmps[56]?.getD undef = (Fe.mulF fp fc).v := by simpa using e56
        have e61 : a.tmps.getD 61 undef = (Fe.mulF fa (Fe.mulF fb fc)).v := h.dep 61 (by kernel_rfl)
        have e61x : a.tmps[61]?.getD undef = (Fe.mulF fa (Fe.mulF fb fc)).v := by simpa using e61
        have hb := h.base
        refine ⟨wants_some (d := 53) rfl rfl (by rw [h.size]; show 53 < 158; decide) e53, 13, #[(Fe.mulF fp fc).v, (Fe.mulF fa (Fe.mulF fb fc)).v], ?_, ?_⟩
        · clear h hb e56 e61
          go_simp
        · refine (same_val (Fe.mulF fp fc) (Fe.mulF fa (Fe.mulF fb fc)) true w (Fe.mul_right _ _).ok (Fe.mul_right _ _).ok (H6.out.2.2.2)).mono ?_
          intro e w1 hp
          obtain ⟨rfl, hg⟩ := hp
          exact ⟨_, rfl, hg, rfl⟩
      refine ⟨fe3_value rfl (by decide) fun a w h => ?_, ?_⟩
      · have e53 : a.tmps.getD 53 undef = .bool false := h.dep 53 (by kernel_rfl)
        have e62 : a.tmps.getD 62 undef = .bool true := h.dep 62 (by kernel_rfl)
        refine ⟨wants_some (d := 53) rfl rfl (by rw [h.size]; show 53 < 158; decide) e53, .bool false, w, ?_, gb_refl _ _, rfl⟩
        clear h
        simp only [execOp, Act.eval, e62]
        go_simp
      refine ⟨fe3_value rfl (by decide) fun a w h => ?_, ?_⟩
      · have e53 : a.tmps.getD 53 undef = .bool false := h.dep 53 (by kernel_rfl)
        have e63 : a.tmps.getD 63 undef = .bool false := h.dep 63 (by kernel_rfl)
        refine ⟨wants_none rfl, .bool false, w, ?_, gb_refl _ _, rfl⟩
        clear h
        simp only [execOp, Act.eval, e53, e63]
        go_simp
      trivial
    · intro q W8 hB hsz hdf hrest hslots hmems
      obtain rfl := frame_is (a := q) (vs := [Value.agg #[.int .u64 fa.x0, .int .u64 fa.x1, .int .u64 fa.x2, .int .u64 fa.x3, .int .u64 fa.x4], Value.agg #[.int .u64 fb.x0, .int .u64 fb.x1, .int .u64 fb.x2, .int .u64 fb.x3, .int .u64 fb.x4], Value.agg #[.int .u64 fc.x0, .int .u64 fc.x1, .int .u64 fc.x2, .int .u64 fc.x3, .int .u64 fc.x4], Value.pointer (some ⟨w0.heap.size, 0, none⟩), Value.pointer (some ⟨w0.heap.size + 1, 0, none⟩), Value.pointer (some ⟨w0.heap.size + 1 + 1, 0, none⟩), Value.bool false, Value.pointer (some ⟨Bs, 0, none⟩), Value.pointer (some ⟨Bp, 0, none⟩), undef, undef, undef, undef, Value.bool true, Value.bool false, Value.agg #[.int .u64 fa.x0, .int .u64 fa.x1, .int .u64 fa.x2, .int .u64 fa.x3, .int .u64 fa.x4], Value.agg #[.int .u64 fb.x0, .int .u64 fb.x1, .int .u64 fb.x2, .int .u64 fb.x3, .int .u64 fb.x4], Value.agg #[.int .u64 fc.x0, .int .u64 fc.x1, .int .u64 fc.x2, .int .u64 fc.x3, .int .u64 fc.x4], Value.slice (some ⟨v1.heap.size, 0, none⟩) 3 3, Value.bool true, Value.bool false, fa.v, fb.v, (Fe.addF fa fb).v, fa.v, fb.v, (Fe.mulF fa fb).v, fs.v, fb.v, fa.v, (Fe.addF fb fa).v, Value.bool true, Value.bool false, Value.bool false, fp.v, fb.v, fa.v, (Fe.mulF fb fa).v, Value.bool true, Value.bool false, Value.bool false, Value.bool false, fs.v, fc.v, (Fe.addF fs fc).v, fa.v, fb.v, fc.v, (Fe.addF fb fc).v, (Fe.addF fa (Fe.addF fb fc)).v, Value.bool true, Value.bool false, Value.bool false, Value.bool false, fp.v, fc.v, (Fe.mulF fp fc).v, fa.v, fb.v, fc.v, (Fe.mulF fb fc).v, (Fe.mulF fa (Fe.mulF fb fc)).v, Value.bool true, Value.bool false, Value.bool false, undef, undef, undef, undef, undef, undef, undef, undef, undef, undef, undef, undef, undef, undef, undef, undef, undef, undef, undef, undef, undef, undef, undef, undef, undef, undef, undef, undef, undef, undef, undef, undef, undef, undef, undef, undef, undef, undef, undef, undef, undef, undef, undef, undef, undef, undef, undef, undef, undef, undef, undef, undef, undef, undef, undef, undef, undef, undef, undef, undef, undef, undef, undef, undef, undef, undef, undef, undef, undef, undef, undef, undef, undef, undef, undef, undef, undef, undef, undef, undef, undef, undef, undef, undef, undef, undef, undef, undef, undef, undef, undef, undef, undef]) hsz ⟨hrest 0 (by kernel_rfl), hrest 1 (by kernel_rfl), hrest 2 (by kernel_rfl), hrest 3 (by kernel_rfl), hrest 4 (by kernel_rfl), hrest 5 (by kernel_rfl), hrest 6 (by kernel_rfl), hrest 7 (by kernel_rfl), hrest 8 (by kernel_rfl), hrest 9 (by kernel_rfl), hrest 10 (by kernel_rfl), hrest 11 (by kernel_rfl), hrest 12 (by kernel_rfl), hrest 13 (by kernel_rfl), hrest 14 (by kernel_rfl), hrest 15 (by kernel_rfl), hrest 16 (by kernel_rfl), hrest 17 (by kernel_rfl), hrest 18 (by kernel_rfl), hrest 19 (by kernel_rfl), hrest 20 (by kernel_rfl), hrest 21 (by kernel_rfl), hrest 22 (by kernel_rfl), hrest 23 (by kernel_rfl), hrest 24 (by kernel_rfl), hrest 25 (by kernel_rfl), hrest 26 (by kernel_rfl), (show q.tmps.getD 27 undef = fs.v from hslots 27 (by kernel_rfl)), (show q.tmps.getD 28 undef = fb.v from hslots 28 (by kernel_rfl)), (show q.tmps.getD 29 undef = fa.v from hslots 29 (by kernel_rfl)), (show q.tmps.getD 30 undef = (Fe.addF fb fa).v from hslots 30 (by kernel_rfl)), (show q.tmps.getD 31 undef = Value.bool true from hslots 31 (by kernel_rfl)), (show q.tmps.getD 32 undef = Value.bool false from hslots 32 (by kernel_rfl)), (show q.tmps.getD 33 undef = Value.bool false from hslots 33 (by kernel_rfl)), (show q.tmps.getD 34 undef = fp.v from hslots 34 (by kernel_rfl)), (show q.tmps.getD 35 undef = fb.v from hslots 35 (by kernel_rfl)), (show q.tmps.getD 36 undef = fa.v from hslots 36 (by kernel_rfl)), (show q.tmps.getD 37 undef = (Fe.mulF fb fa).v from hslots 37 (by kernel_rfl)), (show q.tmps.getD 38 undef = Value.bool true from hslots 38 (by kernel_rfl)), (show q.tmps.getD 39 undef = Value.bool false from hslots 39 (by kernel_rfl)), (show q.tmps.getD 40 undef = Value.bool false from hslots 40 (by kernel_rfl)), (show q.tmps.getD 41 undef = Value.bool false from hslots 41 (by kernel_rfl)), (show q.tmps.getD 42 undef = fs.v from hslots 42 (by kernel_rfl)), (show q.tmps.getD 43 undef = fc.v from hslots 43 (by kernel_rfl)), (show q.tmps.getD 44 undef = (Fe.addF fs fc).v from hslots 44 (by kernel_rfl)), (show q.tmps.getD 45 undef = fa.v from hslots 45 (by kernel_rfl)), (show q.tmps.getD 46 undef = fb.v from hslots 46 (by kernel_rfl)), (show q.tmps.getD 47 undef = fc.v from hslots 47 (by kernel_rfl)), (show q.tmps.getD 48 undef = (Fe.addF fb fc).v from hslots 48 (by kernel_rfl)), (show q.tmps.getD 49 undef = (Fe.addF fa (Fe.addF fb fc)).v from hslots 49 (by kernel_rfl)), (show q.tmps.getD 50 undef = Value.bool true from hslots 50 (by kernel_rfl)), (show q.tmps.getD 51 undef = Value.bool false from hslots 51 (by kernel_rfl)), (show q.tmps.getD 52 undef = Value.bool false from hslots 52 (by kernel_rfl)), (show q.tmps.getD 53 undef = Value.bool false from hslots 53 (by kernel_rfl)), (show q.tmps.getD 54 undef = fp.v from hslots 54 (by kernel_rfl)), (show q.tmps.getD 55 undef = fc.v from hslots 55 (by kernel_rfl)), (show q.tmps.getD 56 undef = (Fe.mulF fp fc).v from hslots 56 (by kernel_rfl)), (show q.tmps.getD 57 undef = fa.v from hslots 57 (by kernel_rfl)), (show q.tmps.getD 58 undef = fb.v from hslots 58 (by kernel_rfl)), (show q.tmps.getD 59 undef = fc.v from hslots 59 (by kernel_rfl)), (show q.tmps.getD 60 undef = (Fe.mulF fb fc).v from hslots 60 (by kernel_rfl)), (show q.tmps.getD 61 undef = (Fe.mulF fa (Fe.mulF fb fc)).v from hslots 61 (by kernel_rfl)), (show q.tmps.getD 62 undef = Value.bool true from hslots 62 (by kernel_rfl)), (show q.tmps.getD 63 undef = Value.bool false from hslots 63 (by kernel_rfl)), (show q.tmps.getD 64 undef = Value.bool false from hslots 64 (by kernel_rfl)), hrest 65 (by kernel_rfl), hrest 66 (by kernel_rfl), hrest 67 (by kernel_rfl), hrest 68 (by kernel_rfl), hrest 69 (by kernel_rfl), hrest 70 (by kernel_rfl), hrest 71 (by kernel_rfl), hrest 72 (by kernel_rfl), hrest 73 (by kernel_rfl), hrest 74 (by kernel_rfl), hrest 75 (by kernel_rfl), hrest 76 (by kernel_rfl), hrest 77 (by kernel_rfl), hrest 78 (by kernel_rfl), hrest 79 (by kernel_rfl), hrest 80 (by kernel_rfl), hrest 81 (by kernel_rfl), hrest 82 (by kernel_rfl), hrest 83 (by kernel_rfl), hrest 84 (by kernel_rfl), hrest 85 (by kernel_rfl), hrest 86 (by kernel_rfl), hrest 87 (by kernel_rfl), hrest 88 (by kernel_rfl), hrest 89 (by kernel_rfl), hrest 90 (by kernel_rfl), hrest 91 (by kernel_rfl), hrest 92 (by kernel_rfl), hrest 93 (by kernel_rfl), hrest 94 (by kernel_rfl), hrest 95 (by kernel_rfl), hrest 96 (by kernel_rfl), hrest 97 (by kernel_rfl), hrest 98 (by kernel_rfl), hrest 99 (by kernel_rfl), hrest 100 (by kernel_rfl), hrest 101 (by kernel_rfl), hrest 102 (by kernel_rfl), hrest 103 (by kernel_rfl), hrest 104 (by kernel_rfl), hrest 105 (by kernel_rfl), hrest 106 (by kernel_rfl), hrest 107 (by kernel_rfl), hrest 108 (by kernel_rfl), hrest 109 (by kernel_rfl), hrest 110 (by kernel_rfl), hrest 111 (by kernel_rfl), hrest 112 (by kernel_rfl), hrest 113 (by kernel_rfl), hrest 114 (by kernel_rfl), hrest 115 (by kernel_rfl), hrest 116 (by kernel_rfl), hrest 117 (by kernel_rfl), hrest 118 (by kernel_rfl), hrest 119 (by kernel_rfl), hrest 120 (by kernel_rfl), hrest 121 (by kernel_rfl), hrest 122 (by kernel_rfl), hrest 123 (by kernel_rfl), hrest 124 (by kernel_rfl), hrest 125 (by kernel_rfl), hrest 126 (by kernel_rfl), hrest 127 (by kernel_rfl), hrest 128 (by kernel_rfl), hrest 129 (by kernel_rfl), hrest 130 (by kernel_rfl), hrest 131 (by kernel_rfl), hrest 132 (by kernel_rfl), hrest 133 (by kernel_rfl), hrest 134 (by kernel_rfl), hrest 135 (by kernel_rfl), hrest 136 (by kernel_rfl), hrest 137 (by kernel_rfl), hrest 138 (by kernel_rfl), hrest 139 (by kernel_rfl), hrest 140 (by kernel_rfl), hrest 141 (by kernel_rfl), hrest 142 (by kernel_rfl), hrest 143 (by kernel_rfl), hrest 144 (by kernel_rfl), hrest 145 (by kernel_rfl), hrest 146 (by kernel_rfl), hrest 147 (by kernel_rfl), hrest 148 (by kernel_rfl), hrest 149 (by kernel_rfl), hrest 150 (by kernel_rfl), hrest 151 (by kernel_rfl), hrest 152 (by kernel_rfl), hrest 153 (by kernel_rfl), hrest 154 (by kernel_rfl), hrest 155 (by kernel_rfl), hrest 156 (by kernel_rfl), hrest 157 (by kernel_rfl), trivial⟩ hdf
      have hg := hB.g
      clear hsz hdf hrest hslots hmems hB hB6 HT6 H6
      replace hfa := hfa.grown hg (by simp)
      replace hfb := hfb.grown hg (by simp)
      replace hfc := hfc.grown hg (by simp)
      replace hfs := hfs.grown hg (by simp)
      replace hfp := hfp.grown hg (by simp)
      replace G1 := gb_trans G1 hg
      clear hg
      go_wp2_with fail
      have hB8 : EnvB W8 W8.heap.size [(w0.heap.size, fa), (w0.heap.size + 1, fb), (w0.heap.size + 1 + 1, fc), (Bs, fs), (Bp, fp)] [] W8 := ⟨gb_refl _ _, by
        intro p hp
        simp only [List.mem_cons, List.not_mem_nil, or_false] at hp
        rcases hp with rfl | rfl | rfl | rfl | rfl
        · exact hfa
        · exact hfb
        · exact hfc
        · exact hfs
        · exact hfp, by simp, by
        intro p hp
        simp only [List.mem_cons, List.not_mem_nil, or_false] at hp
        rcases hp with rfl | rfl | rfl | rfl | rfl
        · exact hfa.lt
        · exact hfb.lt
        · exact hfc.lt
        · exact hfs.lt
        · exact hfp.lt, Nat.le_refl _, Nat.le_refl _⟩
      refine wp_region_flow3 (items3 (Okb W8 [(w0.heap.size, fa), (w0.heap.size + 1, fb), (w0.heap.size + 1 + 1, fc), (Bs, fs), (Bp, fp)]) [.any, .any, .any, .any, .any, .any, .any, .any, .any, .ptr, .ptr, .any, .any, .any, .any, .any, .any, .any, .any, .any, .any, .any, .any, .any, .any, .any, .any, .any, .any, .any, .any, .any, .any, .any, .any, .any, .any, .any, .any, .any, .any, .any, .any, .any, .any, .any, .any, .any, .any, .any, .any, .any, .any, .any, .any, .any, .any, .any, .any, .any, .any, .any, .any, .any, .any, .val (fc.v), .val (fs.v), .val ((Fe.mulF fc fs).v), .val (fc.v), .val (fa.v), .val ((Fe.mulF fc fa).v), .val (fc.v), .val (fb.v), .val ((Fe.mulF fc fb).v), .val ((Fe.addF (Fe.mulF fc fa) (Fe.mulF fc fb)).v), .any, .any, .any, .any, .any, .any, .any, .any, .any, .any, .any, .any, .any, .any, .any, .any, .any, .any, .any, .any, .any, .any, .any, .any, .any, .any, .any, .any, .any, .any, .any, .any, .any, .any, .any, .any, .any, .any, .any, .any, .any, .any, .any, .any, .any, .any, .any, .any, .any, .any, .any, .any, .any, .any, .any, .any, .any, .any, .any, .any, .any, .any, .any, .any, .any, .any, .any, .any, .any, .any, .any, .any, .any, .any, .any, .any, .any, .any, .any, .any, .any, .any, .any]) (fun j => if j = 12 then 9 else if j = 13 then 10 else 0) (Stored3 (Okb W8 [(w0.heap.size, fa), (w0.heap.size + 1, fb), (w0.heap.size + 1 + 1, fc), (Bs, fs), (Bp, fp)]) (fun j => if j = 12 then Fe.mulF fc fs else if j = 13 then Fe.addF (Fe.mulF fc fa) (Fe.mulF fc fb) else Fe.zeroF)) (EnvB W8 W8.heap.size [(w0.heap.size, fa), (w0.heap.size + 1, fb), (w0.heap.size + 1 + 1, fc), (Bs, fs), (Bp, fp)] []) [9, 10] (by kernel_rfl) (by kernel_rfl) (by kernel_rfl) (hB8.grown (gb_drewn _)) (fun s hs C hC => by simp at hs; rcases hs with rfl | rfl <;> exact absurd hC (by simp [undef])) (by kernel_rfl) ?_ ?_
      · refine ⟨fe3_value rfl (by decide) fun a w h => ?_, ?_⟩
        · have e5 : a.tmps.getD 5 undef = .pointer (some ⟨w0.heap.size + 1 + 1, 0, none⟩) := h.rest 5 (by kernel_rfl)
          have hb := h.base.e (w0.heap.size + 1 + 1, fc) (by simp)
          have c0 : w.cell? ⟨w0.heap.size + 1 + 1, 0, none⟩ = some (.int .u64 fc.x0) := hb.cell (i := 0) rfl
          have c1 : w.cell? ⟨w0.heap.size + 1 + 1, 1, none⟩ = some (.int .u64 fc.x1) := hb.cell (i := 1) rfl
          have c2 : w.cell? ⟨w0.heap.size + 1 + 1, 2, none⟩ = some (.int .u64 fc.x2) := hb.cell (i := 2) rfl
          have c3 : w.cell? ⟨w0.heap.size + 1 + 1, 3, none⟩ = some (.int .u64 fc.x3) := hb.cell (i := 3) rfl
          have c4 : w.cell? ⟨w0.heap.size + 1 + 1, 4, none⟩ = some (.int .u64 fc.x4) := hb.cell (i := 4) rfl
          refine ⟨wants_none rfl, .agg #[.int .u64 fc.x0, .int .u64 fc.x1, .int .u64 fc.x2, .int .u64 fc.x3, .int .u64 fc.x4], w, ?_, gb_refl _ _, rfl⟩
          clear h hb
          simp only [execOp, Act.eval, e5]
          go_simp
        refine ⟨fe3_value rfl (by decide) fun a w h => ?_, ?_⟩
        · have e7 : a.tmps.getD 7 undef = .pointer (some ⟨Bs, 0, none⟩) := h.rest 7 (by kernel_rfl)
          have hb := h.base.e (Bs, fs) (by simp)
          have c0 : w.cell? ⟨Bs, 0, none⟩ = some (.int .u64 fs.x0) := hb.cell (i := 0) rfl
          have c1 : w.cell? ⟨Bs, 1, none⟩ = some (.int .u64 fs.x1) := hb.cell (i := 1) rfl
          have c2 : w.cell? ⟨Bs, 2, none⟩ = some (.int .u64 fs.x2) := hb.cell (i := 2) rfl
          have c3 : w.cell? ⟨Bs, 3, none⟩ = some (.int .u64 fs.x3) := hb.cell (i := 3) rfl
          have c4 : w.cell? ⟨Bs, 4, none⟩ = some (.int .u64 fs.x4) := hb.cell (i := 4) rfl
          refine ⟨wants_none rfl, .agg #[.int .u64 fs.x0, .int .u64 fs.x1, .int .u64 fs.x2, .int .u64 fs.x3, .int .u64 fs.x4], w, ?_, gb_refl _ _, rfl⟩
          clear h hb
          simp only [execOp, Act.eval, e7]
          go_simp
        refine ⟨fe3_call rfl (by decide) fun a w h => ?_, ?_⟩
        · have e65 : a.tmps.getD 65 undef = fc.v := h.dep 65 (by kernel_rfl)
          have e65x : a.tmps[65]?.getD undef = fc.v := by simpa using e65
          have e66 : a.tmps.getD 66 undef = fs.v := h.dep 66 (by kernel_rfl)
          have e66x : a.tmps[66]?.getD undef = fs.v := by simpa using e66
          have hb := h.base
          refine ⟨wants_none rfl, 10, #[fc.v, fs.v], ?_, ?_⟩
          · clear h hb e65 e66
            go_simp
          · refine (mul_fe fc fs w okfc okfs).mono ?_
            intro e w1 hp
            obtain ⟨rfl, hg⟩ := feOut_is hp
            exact ⟨_, rfl, hg, rfl⟩
        refine ⟨fe3_value rfl (by decide) fun a w h => ?_, ?_⟩
        · have e5 : a.tmps.getD 5 undef = .pointer (some ⟨w0.heap.size + 1 + 1, 0, none⟩) := h.rest 5 (by kernel_rfl)
          have hb := h.base.e (w0.heap.size + 1 + 1, fc) (by simp)
          have c0 : w.cell? ⟨w0.heap.size + 1 + 1, 0, none⟩ = some (.int .u64 fc.x0) := hb.cell (i := 0) rfl
          have c1 : w.cell? ⟨w0.heap.size + 1 + 1, 1, none⟩ = some (.int .u64 fc.x1) := hb.cell (i := 1) rfl
          have c2 : w.cell? ⟨w0.heap.size + 1 + 1, 2, none⟩ = some (.int .u64 fc.x2) := hb.cell (i := 2) rfl
          have c3 : w.cell? ⟨w0.heap.size + 1 + 1, 3, none⟩ = some (.int .u64 fc.x3) := hb.cell (i := 3) rfl
          have c4 : w.cell? ⟨w0.heap.size + 1 + 1, 4, none⟩ = some (.int .u64 fc.x4) := hb.cell (i := 4) rfl
          refine ⟨wants_none rfl, .agg #[.int .u64 fc.x0, .int .u64 fc.x1, .int .u64 fc.x2, .int .u64 fc.x3, .int .u64 fc.x4], w, ?_, gb_refl _ _, rfl⟩
          clear h hb
          simp only [execOp, Act.eval, e5]
          go_simp
        refine ⟨fe3_value rfl (by decide) fun a w h => ?_, ?_⟩
        · have e3 : a.tmps.getD 3 undef = .pointer (some ⟨w0.heap.size, 0, none⟩) := h.rest 3 (by kernel_rfl)
          have hb := h.base.e (w0.heap.size, fa) (by simp)
          have c0 : w.cell? ⟨w0.heap.size, 0, none⟩ = some (.int .u64 fa.x0) := hb.cell (i := 0) rfl
          have c1 : w.cell? ⟨w0.heap.size, 1, none⟩ = some (.int .u64 fa.x1) := hb.cell (i := 1) rfl
          have c2 : w.cell? ⟨w0.heap.size, 2, none⟩ = some (.int .u64 fa.x2) := hb.cell (i := 2) rfl
          have c3 : w.cell? ⟨w0.heap.size, 3, none⟩ = some (.int .u64 fa.x3) := hb.cell (i := 3) rfl
          have c4 : w.cell? ⟨w0.heap.size, 4, none⟩ = some (.int .u64 fa.x4) := hb.cell (i := 4) rfl
          refine ⟨wants_none rfl, .agg #[.int .u64 fa.x0, .int .u64 fa.x1, .int .u64 fa.x2, .int .u64 fa.x3, .int .u64 fa.x4], w, ?_, gb_refl _ _, rfl⟩
          clear h hb
          simp only [execOp, Act.eval, e3]
          go_simp
        refine ⟨fe3_call rfl (by decide) fun a w h => ?_, ?_⟩
        · have e68 : a.tmps.getD 68 undef = fc.v := h.dep 68 (by kernel_rfl)
          have e68x : a.tmps[68]?.getD undef = fc.v := by simpa using e68
          have e69 : a.tmps.getD 69 undef = fa.v := h.dep 69 (by kernel_rfl)
          have e69x : a.tmps[69]?.getD undef = fa.v := by simpa using e69
          have hb := h.base
          refine ⟨wants_none rfl, 10, #[fc.v, fa.v], ?_, ?_⟩
          · clear h hb e68 e69
            go_simp
          · refine (mul_fe fc fa w okfc okfa).mono ?_
            intro e w1 hp
            obtain ⟨rfl, hg⟩ := feOut_is hp
            exact ⟨_, rfl, hg, rfl⟩
        refine ⟨fe3_value rfl (by decide) fun a w h => ?_, ?_⟩
        · have e5 : a.tmps.getD 5 undef = .pointer (some ⟨w0.heap.size + 1 + 1, 0, none⟩) := h.rest 5 (by kernel_rfl)
          have hb := h.base.e (w0.heap.size + 1 + 1, fc) (by simp)
          have c0 : w.cell? ⟨w0.heap.size + 1 + 1, 0, none⟩ = some (.int .u64 fc.x0) := hb.cell (i := 0) rfl
          have c1 : w.cell? ⟨w0.heap.size + 1 + 1, 1, none⟩ = some (.int .u64 fc.x1) := hb.cell (i := 1) rfl
          have c2 : w.cell? ⟨w0.heap.size + 1 + 1, 2, none⟩ = some (.int .u64 fc.x2) := hb.cell (i := 2) rfl
          have c3 : w.cell? ⟨w0.heap.size + 1 + 1, 3, none⟩ = some (.int .u64 fc.x3) := hb.cell (i := 3) rfl
          have c4 : w.cell? ⟨w0.heap.size + 1 + 1, 4, none⟩ = some (.int .u64 fc.x4) := hb.cell (i := 4) rfl
          refine ⟨wants_none rfl, .agg #[.int .u64 fc.x0, .int .u64 fc.x1, .int .u64 fc.x2, .int .u64 fc.x3, .int .u64 fc.x4], w, ?_, gb_refl _ _, rfl⟩
          clear h hb
          simp only [execOp, Act.eval, e5]
          go_simp
        refine ⟨fe3_value rfl (by decide) fun a w h => ?_, ?_⟩
        · have e4 : a.tmps.getD 4 undef = .pointer (some ⟨w0.heap.size + 1, 0, none⟩) := h.rest 4 (by kernel_rfl)
          have hb := h.base.e (w0.heap.size + 1, fb) (by simp)
          have c0 : w.cell? ⟨w0.heap.size + 1, 0, none⟩ = some (.int .u64 fb.x0) := hb.cell (i := 0) rfl
          have c1 : w.cell? ⟨w0.heap.size + 1, 1, none⟩ = some (.int .u64 fb.x1) := hb.cell (i := 1) rfl
          have c2 : w.cell? ⟨w0.heap.size + 1, 2, none⟩ = some (.int .u64 fb.x2) := hb.cell (i := 2) rfl
          have c3 : w.cell? ⟨w0.heap.size + 1, 3, none⟩ = some (.int .u64 fb.x3) := hb.cell (i := 3) rfl
          have c4 : w.cell? ⟨w0.heap.size + 1, 4, none⟩ = some (.int .u64 fb.x4) := hb.cell (i := 4) rfl
          refine ⟨wants_none rfl, .agg #[.int .u64 fb.x0, .int .u64 fb.x1, .int .u64 fb.x2, .int .u64 fb.x3, .int .u64 fb.x4], w, ?_, gb_refl _ _, rfl⟩
          clear h hb
          simp only [execOp, Act.eval, e4]
          go_simp
        refine ⟨fe3_call rfl (by decide) fun a w h => ?_, ?_⟩
        · have e71 : a.tmps.getD 71 undef = fc.v := h.dep 71 (by kernel_rfl)
          have e71x : a.tmps[71]?.getD undef = fc.v := by simpa using e71
          have e72 : a.tmps.getD 72 undef = fb.v := h.dep 72 (by kernel_rfl)
          have e72x : a.tmps[72]?.getD undef = fb.v := by simpa using e72
          have hb := h.base
          refine ⟨wants_none rfl, 10, #[fc.v, fb.v], ?_, ?_⟩
          · clear h hb e71 e72
            go_simp
          · refine (mul_fe fc fb w okfc okfb).mono ?_
            intro e w1 hp
            obtain ⟨rfl, hg⟩ := feOut_is hp
            exact ⟨_, rfl, hg, rfl⟩
        refine ⟨fe3_call rfl (by decide) fun a w h => ?_, ?_⟩
        · have e70 : a.tmps.getD 70 undef = (Fe.mulF fc fa).v := h.dep 70 (by kernel_rfl)
          have e70x : a.tmps[70]?.getD undef = (Fe.mulF fc fa).v := by simpa using e70
          have e73 : a.tmps.getD 73 undef = (Fe.mulF fc fb).v := h.dep 73 (by kernel_rfl)
          have e73x : a.tmps[73]?.getD undef = (Fe.mulF fc fb).v := by simpa using e73
          have hb := h.base
          refine ⟨wants_none rfl, 11, #[(Fe.mulF fc fa).v, (Fe.mulF fc fb).v], ?_, ?_⟩
          · clear h hb e70 e73
            go_simp
          · refine (add_any (Fe.mulF fc fa) (Fe.mulF fc fb) w (Fe.mul_right _ _).ok (Fe.mul_right _ _).ok).mono ?_
            intro e w1 hp
            obtain ⟨rfl, hg⟩ := feOut_is hp
            exact ⟨_, rfl, hg, rfl⟩
        refine ⟨fe3_alloc rfl (by show 9 < 158; decide) fun a w h => ?_, ?_⟩
        · refine ⟨wants_none rfl, w.alloc (.cells #[.int .u64 0, .int .u64 0, .int .u64 0, .int .u64 0, .int .u64 0] 24), ?_, World.grownBy_alloc _ _ _, by simp, ⟨w.heap.size, rfl, ⟨_, _, _, _, _, Blk.new w [.int .u64 0, .int .u64 0, .int .u64 0, .int .u64 0, .int .u64 0] _⟩, h.base.fresh⟩⟩
          clear h
          go_simp
        refine ⟨fe3_alloc rfl (by show 10 < 158; decide) fun a w h => ?_, ?_⟩
        · refine ⟨wants_none rfl, w.alloc (.cells #[.int .u64 0, .int .u64 0, .int .u64 0, .int .u64 0, .int .u64 0] 24), ?_, World.grownBy_alloc _ _ _, by simp, ⟨w.heap.size, rfl, ⟨_, _, _, _, _, Blk.new w [.int .u64 0, .int .u64 0, .int .u64 0, .int .u64 0, .int .u64 0] _⟩, h.base.fresh⟩⟩
          clear h
          go_simp
        refine ⟨fe3_store (p := 9) rfl rfl (by rfl) rfl (fun j oj hj hoj hn => two_stores (i := 12) (p := 9) (st := (fun j => if j = 12 then 9 else if j = 13 then 10 else 0)) (ps := [9, 10]) (by kernel_rfl) hj hoj hn) (Or.inl (by simp)) fun a w h => ?_, ?_⟩
        · obtain ⟨Bn, ep, hroom, hK⟩ : ∃ Bn, a.tmps.getD 9 undef = .pointer (some ⟨Bn, 0, none⟩) ∧ Room5 w Bn 24 ∧ (Okb W8 [(w0.heap.size, fa), (w0.heap.size + 1, fb), (w0.heap.size + 1 + 1, fc), (Bs, fs), (Bp, fp)]) Bn := h.dep 9 (by kernel_rfl)
          have e67 : a.tmps.getD 67 undef = .agg #[.int .u64 (Fe.mulF fc fs).x0, .int .u64 (Fe.mulF fc fs).x1, .int .u64 (Fe.mulF fc fs).x2, .int .u64 (Fe.mulF fc fs).x3, .int .u64 (Fe.mulF fc fs).x4] := h.dep 67 (by kernel_rfl)
          refine ⟨wants_none rfl, Bn, ep, hK, hroom, ?_⟩
          obtain ⟨u0, u1, u2, u3, u4, hR⟩ := hroom
          have c0r := hR.cell (i := 0) rfl; have f0r := hR.free 0
          have c1r := hR.cell (i := 1) rfl; have f1r := hR.free 1
          have c2r := hR.cell (i := 2) rfl; have f2r := hR.free 2
          have c3r := hR.cell (i := 3) rfl; have f3r := hR.free 3
          have c4r := hR.cell (i := 4) rfl; have f4r := hR.free 4
          clear h hK hR
          unfold set5W
          simp only [execOp, Act.eval, ep, e67]
          go_simp
        refine ⟨fe3_store (p := 10) rfl rfl (by rfl) rfl (fun j oj hj hoj hn => two_stores (i := 13) (p := 10) (st := (fun j => if j = 12 then 9 else if j = 13 then 10 else 0)) (ps := [9, 10]) (by kernel_rfl) hj hoj hn) (Or.inl (by simp)) fun a w h => ?_, ?_⟩
        · obtain ⟨Bn, ep, hroom, hK⟩ : ∃ Bn, a.tmps.getD 10 undef = .pointer (some ⟨Bn, 0, none⟩) ∧ Room5 w Bn 24 ∧ (Okb W8 [(w0.heap.size, fa), (w0.heap.size + 1, fb), (w0.heap.size + 1 + 1, fc), (Bs, fs), (Bp, fp)]) Bn := h.dep 10 (by kernel_rfl)
          have e74 : a.tmps.getD 74 undef = .agg #[.int .u64 (Fe.addF (Fe.mulF fc fa) (Fe.mulF fc fb)).x0, .int .u64 (Fe.addF (Fe.mulF fc fa) (Fe.mulF fc fb)).x1, .int .u64 (Fe.addF (Fe.mulF fc fa) (Fe.mulF fc fb)).x2, .int .u64 (Fe.addF (Fe.mulF fc fa) (Fe.mulF fc fb)).x3, .int .u64 (Fe.addF (Fe.mulF fc fa) (Fe.mulF fc fb)).x4] := h.dep 74 (by kernel_rfl)
          refine ⟨wants_none rfl, Bn, ep, hK, hroom, ?_⟩
          obtain ⟨u0, u1, u2, u3, u4, hR⟩ := hroom
          have c0r := hR.cell (i := 0) rfl; have f0r := hR.free 0
          have c1r := hR.cell (i := 1) rfl; have f1r := hR.free 1
          have c2r := hR.cell (i := 2) rfl; have f2r := hR.free 2
          have c3r := hR.cell (i := 3) rfl; have f3r := hR.free 3
          have c4r := hR.cell (i := 4) rfl; have f4r := hR.free 4
          clear h hK hR
          unfold set5W
          simp only [execOp, Act.eval, ep, e74]
          go_simp
        trivial
      · intro q W9 hB hsz hdf hrest hslots hmems
        obtain ⟨Bx, hs9, _, hfx⟩ := hmems 12 _ rfl rfl
        obtain ⟨By, hs10, _, hfy⟩ := hmems 13 _ rfl rfl
        replace hs9 : q.tmps.getD 9 undef = .pointer (some ⟨Bx, 0, none⟩) := hs9
        replace hs10 : q.tmps.getD 10 undef = .pointer (some ⟨By, 0, none⟩) := hs10
        replace hfx : Blk W9 Bx 24 (feL (Fe.mulF fc fs)) := hfx
        replace hfy : Blk W9 By 24 (feL (Fe.addF (Fe.mulF fc fa) (Fe.mulF fc fb))) := hfy
        obtain rfl := frame_is (a := q) (vs := [Value.agg #[.int .u64 fa.x0, .int .u64 fa.x1, .int .u64 fa.x2, .int .u64 fa.x3, .int .u64 fa.x4], Value.agg #[.int .u64 fb.x0, .int .u64 fb.x1, .int .u64 fb.x2, .int .u64 fb.x3, .int .u64 fb.x4], Value.agg #[.int .u64 fc.x0, .int .u64 fc.x1, .int .u64 fc.x2, .int .u64 fc.x3, .int .u64 fc.x4], Value.pointer (some ⟨w0.heap.size, 0, none⟩), Value.pointer (some ⟨w0.heap.size + 1, 0, none⟩), Value.pointer (some ⟨w0.heap.size + 1 + 1, 0, none⟩), Value.bool false, Value.pointer (some ⟨Bs, 0, none⟩), Value.pointer (some ⟨Bp, 0, none⟩), Value.pointer (some ⟨Bx, 0, none⟩), Value.pointer (some ⟨By, 0, none⟩), undef, undef, Value.bool true, Value.bool false, Value.agg #[.int .u64 fa.x0, .int .u64 fa.x1, .int .u64 fa.x2, .int .u64 fa.x3, .int .u64 fa.x4], Value.agg #[.int .u64 fb.x0, .int .u64 fb.x1, .int .u64 fb.x2, .int .u64 fb.x3, .int .u64 fb.x4], Value.agg #[.int .u64 fc.x0, .int .u64 fc.x1, .int .u64 fc.x2, .int .u64 fc.x3, .int .u64 fc.x4], Value.slice (some ⟨v1.heap.size, 0, none⟩) 3 3, Value.bool true, Value.bool false, fa.v, fb.v, (Fe.addF fa fb).v, fa.v, fb.v, (Fe.mulF fa fb).v, fs.v, fb.v, fa.v, (Fe.addF fb fa).v, Value.bool true, Value.bool false, Value.bool false, fp.v, fb.v, fa.v, (Fe.mulF fb fa).v, Value.bool true, Value.bool false, Value.bool false, Value.bool false, fs.v, fc.v, (Fe.addF fs fc).v, fa.v, fb.v, fc.v, (Fe.addF fb fc).v, (Fe.addF fa (Fe.addF fb fc)).v, Value.bool true, Value.bool false, Value.bool false, Value.bool false, fp.v, fc.v, (Fe.mulF fp fc).v, fa.v, fb.v, fc.v, (Fe.mulF fb fc).v, (Fe.mulF fa (Fe.mulF fb fc)).v, Value.bool true, Value.bool false, Value.bool false, fc.v, fs.v, (Fe.mulF fc fs).v, fc.v, fa.v, (Fe.mulF fc fa).v, fc.v, fb.v, (Fe.mulF fc fb).v, (Fe.addF (Fe.mulF fc fa) (Fe.mulF fc fb)).v, undef, undef, undef, undef, undef, undef, undef, undef, undef, undef, undef, undef, undef, undef, undef, undef, undef, undef, undef, undef, undef, undef, undef, undef, undef, undef, undef, undef, undef, undef, undef, undef, undef, undef, undef, undef, undef, undef, undef, undef, undef, undef, undef, undef, undef, undef, undef, undef, undef, undef, undef, undef, undef, undef, undef, undef, undef, undef, undef, undef, undef, undef, undef, undef, undef, undef, undef, undef, undef, undef, undef, undef, undef, undef, undef, undef, undef, undef, undef, undef, undef, undef, undef]) hsz ⟨hrest 0 (by kernel_rfl), hrest 1 (by kernel_rfl), hrest 2 (by kernel_rfl), hrest 3 (by kernel_rfl), hrest 4 (by kernel_rfl), hrest 5 (by kernel_rfl), hrest 6 (by kernel_rfl), hrest 7 (by kernel_rfl), hrest 8 (by kernel_rfl), hs9, hs10, hrest 11 (by kernel_rfl), hrest 12 (by kernel_rfl), hrest 13 (by kernel_rfl), hrest 14 (by kernel_rfl), hrest 15 (by kernel_rfl), hrest 16 (by kernel_rfl), hrest 17 (by kernel_rfl), hrest 18 (by kernel_rfl), hrest 19 (by kernel_rfl), hrest 20 (by kernel_rfl), hrest 21 (by kernel_rfl), hrest 22 (by kernel_rfl), hrest 23 (by kernel_rfl), hrest 24 (by kernel_rfl), hrest 25 (by kernel_rfl), hrest 26 (by kernel_rfl), hrest 27 (by kernel_rfl), hrest 28 (by kernel_rfl), hrest 29 (by kernel_rfl), hrest 30 (by kernel_rfl), hrest 31 (by kernel_rfl), hrest 32 (by kernel_rfl), hrest 33 (by kernel_rfl), hrest 34 (by kernel_rfl), hrest 35 (by kernel_rfl), hrest 36 (by kernel_rfl), hrest 37 (by kernel_rfl), hrest 38 (by kernel_rfl), hrest 39 (by kernel_rfl), hrest 40 (by kernel_rfl), hrest 41 (by kernel_rfl), hrest 42 (by kernel_rfl), hrest 43 (by kernel_rfl), hrest 44 (by kernel_rfl), hrest 45 (by kernel_rfl), hrest 46 (by kernel_rfl), hrest 47 (by kernel_rfl), hrest 48 (by kernel_rfl), hrest 49 (by kernel_rfl), hrest 50 (by kernel_rfl), hrest 51 (by kernel_rfl), hrest 52 (by kernel_rfl), hrest 53 (by kernel_rfl), hrest 54 (by kernel_rfl), hrest 55 (by kernel_rfl), hrest 56 (by kernel_rfl), hrest 57 (by kernel_rfl), hrest 58 (by kernel_rfl), hrest 59 (by kernel_rfl), hrest 60 (by kernel_rfl), hrest 61 (by kernel_rfl), hrest 62 (by kernel_rfl), hrest 63 (by kernel_rfl), hrest 64 (by kernel_rfl), (show q.tmps.getD 65 undef = fc.v from hslots 65 (by kernel_rfl)), (show q.tmps.getD 66 undef = fs.v from hslots 66 (by kernel_rfl)), (show q.tmps.getD 67 undef = (Fe.mulF fc fs).v from hslots 67 (by kernel_rfl)), (show q.tmps.getD 68 undef = fc.v from hslots 68 (by kernel_rfl)), (show q.tmps.getD 69 undef = fa.v from hslots 69 (by kernel_rfl)), (show q.tmps.getD 70 undef = (Fe.mulF fc fa).v from hslots 70 (by kernel_rfl)), (show q.tmps.getD 71 undef = fc.v from hslots 71 (by kernel_rfl)), (show q.tmps.getD 72 undef = fb.v from hslots 72 (by kernel_rfl)), (show q.tmps.getD 73 undef = (Fe.mulF fc fb).v from hslots 73 (by kernel_rfl)), (show q.tmps.getD 74 undef = (Fe.addF (Fe.mulF fc fa) (Fe.mulF fc fb)).v from hslots 74 (by kernel_rfl)), hrest 75 (by kernel_rfl), hrest 76 (by kernel_rfl), hrest 77 (by kernel_rfl), hrest 78 (by kernel_rfl), hrest 79 (by kernel_rfl), hrest 80 (by kernel_rfl), hrest 81 (by kernel_rfl), hrest 82 (by kernel_rfl), hrest 83 (by kernel_rfl), hrest 84 (by kernel_rfl), hrest 85 (by kernel_rfl), hrest 86 (by kernel_rfl), hrest 87 (by kernel_rfl), hrest 88 (by kernel_rfl), hrest 89 (by kernel_rfl), hrest 90 (by kernel_rfl), hrest 91 (by kernel_rfl), hrest 92 (by kernel_rfl), hrest 93 (by kernel_rfl), hrest 94 (by kernel_rfl), hrest 95 (by kernel_rfl), hrest 96 (by kernel_rfl), hrest 97 (by kernel_rfl), hrest 98 (by kernel_rfl), hrest 99 (by kernel_rfl), hrest 100 (by kernel_rfl), hrest 101 (by kernel_rfl), hrest 102 (by kernel_rfl), hrest 103 (by kernel_rfl), hrest 104 (by kernel_rfl), hrest 105 (by kernel_rfl), hrest 106 (by kernel_rfl), hrest 107 (by kernel_rfl), hrest 108 (by kernel_rfl), hrest 109 (by kernel_rfl), hrest 110 (by kernel_rfl), hrest 111 (by kernel_rfl), hrest 112 (by kernel_rfl), hrest 113 (by kernel_rfl), hrest 114 (by kernel_rfl), hrest 115 (by kernel_rfl), hrest 116 (by kernel_rfl), hrest 117 (by kernel_rfl), hrest 118 (by kernel_rfl), hrest 119 (by kernel_rfl), hrest 120 (by kernel_rfl), hrest 121 (by kernel_rfl), hrest 122 (by kernel_rfl), hrest 123 (by kernel_rfl), hrest 124 (by kernel_rfl), hrest 125 (by kernel_rfl), hrest 126 (by kernel_rfl), hrest 127 (by kernel_rfl), hrest 128 (by kernel_rfl), hrest 129 (by kernel_rfl), hrest 130 (by kernel_rfl), hrest 131 (by kernel_rfl), hrest 132 (by kernel_rfl), hrest 133 (by kernel_rfl), hrest 134 (by kernel_rfl), hrest 135 (by kernel_rfl), hrest 136 (by kernel_rfl), hrest 137 (by kernel_rfl), hrest 138 (by kernel_rfl), hrest 139 (by kernel_rfl), hrest 140 (by kernel_rfl), hrest 141 (by kernel_rfl), hrest 142 (by kernel_rfl), hrest 143 (by kernel_rfl), hrest 144 (by kernel_rfl), hrest 145 (by kernel_rfl), hrest 146 (by kernel_rfl), hrest 147 (by kernel_rfl), hrest 148 (by kernel_rfl), hrest 149 (by kernel_rfl), hrest 150 (by kernel_rfl), hrest 151 (by kernel_rfl), hrest 152 (by kernel_rfl), hrest 153 (by kernel_rfl), hrest 154 (by kernel_rfl), hrest 155 (by kernel_rfl), hrest 156 (by kernel_rfl), hrest 157 (by kernel_rfl), trivial⟩ hdf
        have hg := hB.g
        clear hs9 hs10 hsz hdf hrest hslots hmems hB hB8
        replace hfa := hfa.grown hg (by simp)
        replace hfb := hfb.grown hg (by simp)
        replace hfc := hfc.grown hg (by simp)
        replace hfs := hfs.grown hg (by simp)
        replace hfp := hfp.grown hg (by simp)
        replace G1 := gb_trans G1 hg
        clear hg
        obtain ⟨fx, hfxe⟩ : ∃ x, x = Fe.mulF fc fs := ⟨_, rfl⟩
        obtain ⟨fy, hfye⟩ : ∃ x, x = Fe.addF (Fe.mulF fc fa) (Fe.mulF fc fb) := ⟨_, rfl⟩
        rw [← hfxe] at hfx; rw [← hfye] at hfy
        have okfx : fx.Ok := by rw [hfxe]; exact (Fe.mul_right _ _).ok
        have okfy : fy.Ok := by rw [hfye]; exact (Fe.add_right _ _).ok
        have EX := Lib.hid hfxe; have EY := Lib.hid hfye; clear hfxe hfye
        have H9 : Hid (decide (Fe.m fx = Fe.m fy) = true ∧ decide (Fe.m (Fe.subF fs fb) = Fe.m fa) = true ∧ decide (Fe.m (Fe.addF fa (Fe.negF fa)) = 0) = true ∧ decide (Fe.m (Fe.sqF fa) = Fe.m (Fe.mulF fa fa)) = true ∧ decide (Fe.m (Fe.mulF fa Fe.oneF) = Fe.m fa) = true) := Lib.hid (by
          rw [EX.out, EY.out, ES.out]
          exact ⟨dt (Fe.ring_dist HRA.out HRB.out HRC.out), dt (Fe.ring_sub HRA.out HRB.out), dt (Fe.ring_neg HRA.out), dt (Fe.ring_sq HRA.out), dt (Fe.ring_one HRA.out)⟩)
        go_wp2_with fail
        have HT9 := Lib.hid (HT.out.grown G1)
        have hB9 : EnvB W9 W9.heap.size [(w0.heap.size, fa), (w0.heap.size + 1, fb), (w0.heap.size + 1 + 1, fc), (Bs, fs), (Bp, fp), (Bx, fx), (By, fy)] [] W9 := ⟨gb_refl _ _, by
          intro p hp
          simp only [List.mem_cons, List.not_mem_nil, or_false] at hp
          rcases hp with rfl | rfl | rfl | rfl | rfl | rfl | rfl
          · exact hfa
          · exact hfb
          · exact hfc
          · exact hfs
          · exact hfp
          · exact hfx
          · exact hfy, by simp, by
          intro p hp
          simp only [List.mem_cons, List.not_mem_nil, or_false] at hp
          rcases hp with rfl | rfl | rfl | rfl | rfl | rfl | rfl
          · exact hfa.lt
          · exact hfb.lt
          · exact hfc.lt
          · exact hfs.lt
          · exact hfp.lt
          · exact hfx.lt
          · exact hfy.lt, Nat.le_refl _, Nat.le_refl _⟩
        refine wp_region_flow3 (items3 (Okb W9 [(w0.heap.size, fa), (w0.heap.size + 1, fb), (w0.heap.size + 1 + 1, fc), (Bs, fs), (Bp, fp), (Bx, fx), (By, fy)]) [.any, .any, .any, .any, .any, .any, .any, .any, .any, .any, .any, .any, .any, .any, .any, .any, .any, .any, .any, .any, .any, .any, .any, .any, .any, .any, .any, .any, .any, .any, .any, .any, .any, .any, .any, .any, .any, .any, .any, .any, .any, .any, .any, .any, .any, .any, .any, .any, .any, .any, .any, .any, .any, .any, .any, .any, .any, .any, .any, .any, .any, .any, .any, .any, .any, .any, .any, .any, .any, .any, .any, .any, .any, .any, .any, .val (fx.v), .val (fy.v), .val (.bool true), .val (.bool false), .val (.bool false), .val (fs.v), .val (fb.v), .val ((Fe.subF fs fb).v), .val (fa.v), .val (.bool true), .val (.bool false), .val (.bool false), .val (.bool false), .val (fa.v), .val (fa.v), .val ((Fe.negF fa).v), .val ((Fe.addF fa (Fe.negF fa)).v), .val (.bool true), .val (.bool false), .val (.bool false), .val (.bool false), .val (fa.v), .val ((Fe.sqF fa).v), .val (fa.v), .val (fa.v), .val ((Fe.mulF fa fa).v), .val (.bool true), .val (.bool false), .val (.bool false), .val (.bool false), .val (fa.v), .val (Fe.oneF.v), .val ((Fe.mulF fa Fe.oneF).v), .val (fa.v), .val (.bool true), .val (.bool false), .val (.bool false), .any, .any, .any, .any, .any, .any, .any, .any, .any, .any, .any, .any, .any, .any, .any, .any, .any, .any, .any, .any, .any, .any, .any, .any, .any, .any, .any, .any, .any, .any, .any, .any, .any, .any, .any, .any, .any, .any, .any, .any, .any, .any, .any, .any, .any, .any]) (fun j =>  0) (Stored3 (Okb W9 [(w0.heap.size, fa), (w0.heap.size + 1, fb), (w0.heap.size + 1 + 1, fc), (Bs, fs), (Bp, fp), (Bx, fx), (By, fy)]) (fun j =>  Fe.zeroF)) (EnvB W9 W9.heap.size [(w0.heap.size, fa), (w0.heap.size + 1, fb), (w0.heap.size + 1 + 1, fc), (Bs, fs), (Bp, fp), (Bx, fx), (By, fy)] []) [] (by kernel_rfl) (by kernel_rfl) (by kernel_rfl) (hB9.grown (gb_drewn _)) (fun s hs => by cases hs) (by kernel_rfl) ?_ ?_
        · refine ⟨fe3_value rfl (by decide) fun a w h => ?_, ?_⟩
          · have e9 : a.tmps.getD 9 undef = .pointer (some ⟨Bx, 0, none⟩) := h.rest 9 (by kernel_rfl)
            have hb := h.base.e (Bx, fx) (by simp)
            have c0 : w.cell? ⟨Bx, 0, none⟩ = some (.int .u64 fx.x0) := hb.cell (i := 0) rfl
            have c1 : w.cell? ⟨Bx, 1, none⟩ = some (.int .u64 fx.x1) := hb.cell (i := 1) rfl
            have c2 : w.cell? ⟨Bx, 2, none⟩ = some (.int .u64 fx.x2) := hb.cell (i := 2) rfl
            have c3 : w.cell? ⟨Bx, 3, none⟩ = some (.int .u64 fx.x3) := hb.cell (i := 3) rfl
            have c4 : w.cell? ⟨Bx, 4, none⟩ = some (.int .u64 fx.x4) := hb.cell (i := 4) rfl
            refine ⟨wants_none rfl, .agg #[.int .u64 fx.x0, .int .u64 fx.x1, .int .u64 fx.x2, .int .u64 fx.x3, .int .u64 fx.x4], w, ?_, gb_refl _ _, rfl⟩
            clear h hb
            simp only [execOp, Act.eval, e9]
            go_simp
          refine ⟨fe3_value rfl (by decide) fun a w h => ?_, ?_⟩
          · have e10 : a.tmps.getD 10 undef = .pointer (some ⟨By, 0, none⟩) := h.rest 10 (by kernel_rfl)
            have hb := h.base.e (By, fy) (by simp)
            have c0 : w.cell? ⟨By, 0, none⟩ = some (.int .u64 fy.x0) := hb.cell (i := 0) rfl
            have c1 : w.cell? ⟨By, 1, none⟩ = some (.int .u64 fy.x1) := hb.cell (i := 1) rfl
            have c2 : w.cell? ⟨By, 2, none⟩ = some (.int .u64 fy.x2) := hb.cell (i := 2) rfl
            have c3 : w.cell? ⟨By, 3, none⟩ = some (.int .u64 fy.x3) := hb.cell (i := 3) rfl
            have c4 : w.cell? ⟨By, 4, none⟩ = some (.int .u64 fy.x4) := hb.cell (i := 4) rfl
            refine ⟨wants_none rfl, .agg #[.int .u64 fy.x0, .int .u64 fy.x1, .int .u64 fy.x2, .int .u64 fy.x3, .int .u64 fy.x4], w, ?_, gb_refl _ _, rfl⟩
            clear h hb
            simp only [execOp, Act.eval, e10]
            go_simp
          refine ⟨fe3_call rfl (by decide) fun a w h => ?_, ?_⟩
          · have e75 : a.tmps.getD 75 undef = fx.v := h.dep 75 (by kernel_rfl)
            have e75x : a.tmps[75]?.getD undef = fx.v := by simpa using e75
            have e76 : a.tmps.getD 76 undef = fy.v := h.dep 76 (by kernel_rfl)
            have e76x : a.tmps[76]?.getD undef = fy.v := by simpa using e76
            have hb := h.base
            refine ⟨wants_none rfl, 13, #[fx.v, fy.v], ?_, ?_⟩
            · clear h hb e75 e76
              go_simp
            · refine (same_val fx fy true w okfx okfy (H9.out.1)).mono ?_
              intro e w1 hp
              obtain ⟨rfl, hg⟩ := hp
              exact ⟨_, rfl, hg, rfl⟩
          refine ⟨fe3_value rfl (by decide) fun a w h => ?_, ?_⟩
          · have e77 : a.tmps.getD 77 undef = .bool true := h.dep 77 (by kernel_rfl)
            refine ⟨wants_none rfl, .bool false, w, ?_, gb_refl _ _, rfl⟩
            clear h
            simp only [execOp, Act.eval, e77]
            go_simp
          refine ⟨fe3_value rfl (by decide) fun a w h => ?_, ?_⟩
          · have e78 : a.tmps.getD 78 undef = .bool false := h.dep 78 (by kernel_rfl)
            refine ⟨wants_none rfl, .bool false, w, ?_, gb_refl _ _, rfl⟩
            clear h
            simp only [execOp, Act.eval, e78]
            go_simp
          refine ⟨fe3_value rfl (by decide) fun a w h => ?_, ?_⟩
          · have e79 : a.tmps.getD 79 undef = .bool false := h.dep 79 (by kernel_rfl)
            have e7 : a.tmps.getD 7 undef = .pointer (some ⟨Bs, 0, none⟩) := h.rest 7 (by kernel_rfl)
            have hb := h.base.e (Bs, fs) (by simp)
            have c0 : w.cell? ⟨Bs, 0, none⟩ = some (.int .u64 fs.x0) := hb.cell (i := 0) rfl
            have c1 : w.cell? ⟨Bs, 1, none⟩ = some (.int .u64 fs.x1) := hb.cell (i := 1) rfl
            have c2 : w.cell? ⟨Bs, 2, none⟩ = some (.int .u64 fs.x2) := hb.cell (i := 2) rfl
            have c3 : w.cell? ⟨Bs, 3, none⟩ = some (.int .u64 fs.x3) := hb.cell (i := 3) rfl
            have c4 : w.cell? ⟨Bs, 4, none⟩ = some (.int .u64 fs.x4) := hb.cell (i := 4) rfl
            refine ⟨wants_some (d := 79) rfl rfl (by rw [h.size]; show 79 < 158; decide) e79, .agg #[.int .u64 fs.x0, .int .u64 fs.x1, .int .u64 fs.x2, .int .u64 fs.x3, .int .u64 fs.x4], w, ?_, gb_refl _ _, rfl⟩
            clear h hb
            simp only [execOp, Act.eval, e7]
            go_simp
          refine ⟨fe3_value rfl (by decide) fun a w h => ?_, ?_⟩
          · have e79 : a.tmps.getD 79 undef = .bool false := h.dep 79 (by kernel_rfl)
            have e4 : a.tmps.getD 4 undef = .pointer (some ⟨w0.heap.size + 1, 0, none⟩) := h.rest 4 (by kernel_rfl)
            have hb := h.base.e (w0.heap.size + 1, fb) (by simp)
            have c0 : w.cell? ⟨w0.heap.size + 1, 0, none⟩ = some (.int .u64 fb.x0) := hb.cell (i := 0) rfl
            have c1 : w.cell? ⟨w0.heap.size + 1, 1, none⟩ = some (.int .u64 fb.x1) := hb.cell (i := 1) rfl
            have c2 : w.cell? ⟨w0.heap.size + 1, 2, none⟩ = some (.int .u64 fb.x2) := hb.cell (i := 2) rfl
            have c3 : w.cell? ⟨w0.heap.size + 1, 3, none⟩ = some (.int .u64 fb.x3) := hb.cell (i := 3) rfl
            have c4 : w.cell? ⟨w0.heap.size + 1, 4, none⟩ = some (.int .u64 fb.x4) := hb.cell (i := 4) rfl
            refine ⟨wants_some (d := 79) rfl rfl (by rw [h.size]; show 79 < 158; decide) e79, .agg #[.int .u64 fb.x0, .int .u64 fb.x1, .int .u64 fb.x2, .int .u64 fb.x3, .int .u64 fb.x4], w, ?_, gb_refl _ _, rfl⟩
            clear h hb
            simp only [execOp, Act.eval, e4]
            go_simp
          refine ⟨fe3_call rfl (by decide) fun a w h => ?_, ?_⟩
          · have e79 : a.tmps.getD 79 undef = .bool false := h.dep 79 (by kernel_rfl)
            have e80 : a.tmps.getD 80 undef = fs.v := h.dep 80 (by kernel_rfl)
            have e80x : a.tmps[80]?.getD undef = fs.v := by simpa using e80
            have e81 : a.tmps.getD 81 undef = fb.v := h.dep 81 (by kernel_rfl)
            have e81x : a.tmps[81]?.getD undef = fb.v := by simpa using e81
            have hb := h.base
            refine ⟨wants_some (d := 79) rfl rfl (by rw [h.size]; show 79 < 158; decide) e79, 12, #[fs.v, fb.v], ?_, ?_⟩
            · clear h hb e80 e81
              go_simp
            · refine (sub_any fs fb w (HT9.out.grown hb.g) okfs okfb).mono ?_
              intro e w1 hp
              obtain ⟨rfl, hg⟩ := feOut_is hp
              exact ⟨_, rfl, hg, rfl⟩
          refine ⟨fe3_value rfl (by decide) fun a w h => ?_, ?_⟩
          · have e79 : a.tmps.getD 79 undef = .bool false := h.dep 79 (by kernel_rfl)
            have e3 : a.tmps.getD 3 undef = .pointer (some ⟨w0.heap.size, 0, none⟩) := h.rest 3 (by kernel_rfl)
            have hb := h.base.e (w0.heap.size, fa) (by simp)
            have c0 : w.cell? ⟨w0.heap.size, 0, none⟩ = some (.int .u64 fa.x0) := hb.cell (i := 0) rfl
            have c1 : w.cell? ⟨w0.heap.size, 1, none⟩ = some (.int .u64 fa.x1) := hb.cell (i := 1) rfl
            have c2 : w.cell? ⟨w0.heap.size, 2, none⟩ = some (.int .u64 fa.x2) := hb.cell (i := 2) rfl
            have c3 : w.cell? ⟨w0.heap.size, 3, none⟩ = some (.int .u64 fa.x3) := hb.cell (i := 3) rfl
            have c4 : w.cell? ⟨w0.heap.size, 4, none⟩ = some (.int .u64 fa.x4) := hb.cell (i := 4) rfl
            refine ⟨wants_some (d := 79) rfl rfl (by rw [h.size]; show 79 < 158; decide) e79, .agg #[.int .u64 fa.x0, .int .u64 fa.x1, .int .u64 fa.x2, .int .u64 fa.x3, .int .u64 fa.x4], w, ?_, gb_refl _ _, rfl⟩
            clear h hb
            simp only [execOp, Act.eval, e3]
            go_simp
          refine ⟨fe3_call rfl (by decide) fun a w h => ?_, ?_⟩
          · have e79 : a.tmps.getD 79 undef = .bool false := h.dep 79 (by kernel_rfl)
            have e82 : a.tmps.getD 82 undef = (Fe.subF fs fb).v := h.dep 82 (by kernel_rfl)
            have e82x : a.tmps[82]?.getD undef = (Fe.subF fs fb).v := by simpa using e82
            have e83 : a.tmps.getD 83 undef = fa.v := h.dep 83 (by kernel_rfl)
            have e83x : a.tmps[83]?.getD undef = fa.v := by simpa using e83
            have hb := h.base
            refine ⟨wants_some (d := 79) rfl rfl (by rw [h.size]; show 79 < 158; decide) e79, 13, #[(Fe.subF fs fb).v, fa.v], ?_, ?_⟩
            · clear h hb e82 e83
              go_simp
            · refine (same_val (Fe.subF fs fb) fa true w (Fe.sub_right _ _).ok okfa (H9.out.2.1)).mono ?_
              intro e w1 hp
              obtain ⟨rfl, hg⟩ := hp
              exact ⟨_, rfl, hg, rfl⟩
          refine ⟨fe3_value rfl (by decide) fun a w h => ?_, ?_⟩
          · have e79 : a.tmps.getD 79 undef = .bool false := h.dep 79 (by kernel_rfl)
            have e84 : a.tmps.getD 84 undef = .bool true := h.dep 84 (by kernel_rfl)
            refine ⟨wants_some (d := 79) rfl rfl (by rw [h.size]; show 79 < 158; decide) e79, .bool false, w, ?_, gb_refl _ _, rfl⟩
            clear h
            simp only [execOp, Act.eval, e84]
            go_simp
          refine ⟨fe3_value rfl (by decide) fun a w h => ?_, ?_⟩
          · have e79 : a.tmps.getD 79 undef = .bool false := h.dep 79 (by kernel_rfl)
            have e85 : a.tmps.getD 85 undef = .bool false := h.dep 85 (by kernel_rfl)
            refine ⟨wants_none rfl, .bool false, w, ?_, gb_refl _ _, rfl⟩
            clear h
            simp only [execOp, Act.eval, e79, e85]
            go_simp
          refine ⟨fe3_value rfl (by decide) fun a w h => ?_, ?_⟩
          · have e86 : a.tmps.getD 86 undef = .bool false := h.dep 86 (by kernel_rfl)
            refine ⟨wants_none rfl, .bool false, w, ?_, gb_refl _ _, rfl⟩
            clear h
            simp only [execOp, Act.eval, e86]
            go_simp
          refine ⟨fe3_value rfl (by decide) fun a w h => ?_, ?_⟩
          · have e87 : a.tmps.getD 87 undef = .bool false := h.dep 87 (by kernel_rfl)
            have e3 : a.tmps.getD 3 undef = .pointer (some ⟨w0.heap.size, 0, none⟩) := h.rest 3 (by kernel_rfl)
            have hb := h.base.e (w0.heap.size, fa) (by simp)
            have c0 : w.cell? ⟨w0.heap.size, 0, none⟩ = some (.int .u64 fa.x0) := hb.cell (i := 0) rfl
            have c1 : w.cell? ⟨w0.heap.size, 1, none⟩ = some (.int .u64 fa.x1) := hb.cell (i := 1) rfl
            have c2 : w.cell? ⟨w0.heap.size, 2, none⟩ = some (.int .u64 fa.x2) := hb.cell (i := 2) rfl
            have c3 : w.cell? ⟨w0.heap.size, 3, none⟩ = some (.int .u64 fa.x3) := hb.cell (i := 3) rfl
            have c4 : w.cell? ⟨w0.heap.size, 4, none⟩ = some (.int .u64 fa.x4) := hb.cell (i := 4) rfl
            refine ⟨wants_some (d := 87) rfl rfl (by rw [h.size]; show 87 < 158; decide) e87, .agg #[.int .u64 fa.x0, .int .u64 fa.x1, .int .u64 fa.x2, .int .u64 fa.x3, .int .u64 fa.x4], w, ?_, gb_refl _ _, rfl⟩
            clear h hb
            simp only [execOp, Act.eval, e3]
            go_simp
          refine ⟨fe3_value rfl (by decide) fun a w h => ?_, ?_⟩
          · have e87 : a.tmps.getD 87 undef = .bool false := h.dep 87 (by kernel_rfl)
            have e3 : a.tmps.getD 3 undef = .pointer (some ⟨w0.heap.size, 0, none⟩) := h.rest 3 (by kernel_rfl)
            have hb := h.base.e (w0.heap.size, fa) (by simp)
            have c0 : w.cell? ⟨w0.heap.size, 0, none⟩ = some (.int .u64 fa.x0) := hb.cell (i := 0) rfl
            have c1 : w.cell? ⟨w0.heap.size, 1, none⟩ = some (.int .u64 fa.x1) := hb.cell (i := 1) rfl
            have c2 : w.cell? ⟨w0.heap.size, 2, none⟩ = some (.int .u64 fa.x2) := hb.cell (i := 2) rfl
            have c3 : w.cell? ⟨w0.heap.size, 3, none⟩ = some (.int .u64 fa.x3) := hb.cell (i := 3) rfl
            have c4 : w.cell? ⟨w0.heap.size, 4, none⟩ = some (.int .u64 fa.x4) := hb.cell (i := 4) rfl
            refine ⟨wants_some (d := 87) rfl rfl (by rw [h.size]; show 87 < 158; decide) e87, .agg #[.int .u64 fa.x0, .int .u64 fa.x1, .int .u64 fa.x2, .int .u64 fa.x3, .int .u64 fa.x4], w, ?_, gb_refl _ _, rfl⟩
            clear h hb
            simp only [execOp, Act.eval, e3]
            go_simp
          refine ⟨fe3_call rfl (by decide) fun a w h => ?_, ?_⟩
          · have e87 : a.tmps.getD 87 undef = .bool false := h.dep 87 (by kernel_rfl)
            have e89 : a.tmps.getD 89 undef = fa.v := h.dep 89 (by kernel_rfl)
            have e89x : a.tmps[89]?.getD undef = fa.v := by simpa using e89
            have hb := h.base
            refine ⟨wants_some (d := 87) rfl rfl (by rw [h.size]; show 87 < 158; decide) e87, 14, #[fa.v], ?_, ?_⟩
            · clear h hb e89
              go_simp
            · refine (neg_any fa w (HT9.out.grown hb.g) okfa).mono ?_
              intro e w1 hp
              obtain ⟨rfl, hg⟩ := feOut_is hp
              exact ⟨_, rfl, hg, rfl⟩
          refine ⟨fe3_call rfl (by decide) fun a w h => ?_, ?_⟩
          · have e87 : a.tmps.getD 87 undef = .bool false := h.dep 87 (by kernel_rfl)
            have e88 : a.tmps.getD 88 undef = fa.v := h.dep 88 (by kernel_rfl)
            have e88x : a.tmps[88]?.getD undef = fa.v := by simpa using e88
            have e90 : a.tmps.getD 90 undef = (Fe.negF fa).v := h.dep 90 (by kernel_rfl)
            have e90x : a.tmps[90]?.getD undef = (Fe.negF fa).v := by simpa using e90
            have hb := h.base
            refine ⟨wants_some (d := 87) rfl rfl (by rw [h.size]; show 87 < 158; decide) e87, 11, #[fa.v, (Fe.negF fa).v], ?_, ?_⟩
            · clear h hb e88 e90
              go_simp
            · refine (add_any fa (Fe.negF fa) w okfa (Fe.neg_right _).ok).mono ?_
              intro e w1 hp
              obtain ⟨rfl, hg⟩ := feOut_is hp
              exact ⟨_, rfl, hg, rfl⟩
          refine ⟨fe3_call rfl (by decide) fun a w h => ?_, ?_⟩
          · have e87 : a.tmps.getD 87 undef = .bool false := h.dep 87 (by kernel_rfl)
            have e91 : a.tmps.getD 91 undef = (Fe.addF fa (Fe.negF fa)).v := h.dep 91 (by kernel_rfl)
            have e91x : a.tmps[91]?.getD undef = (Fe.addF fa (Fe.negF fa)).v := by simpa using e91
            have hb := h.base
            refine ⟨wants_some (d := 87) rfl rfl (by rw [h.size]; show 87 < 158; decide) e87, 24, #[(Fe.addF fa (Fe.negF fa)).v], ?_, ?_⟩
            · clear h hb e91
              go_simp
            · refine (zero_val (Fe.addF fa (Fe.negF fa)) true w (Fe.add_right _ _).ok (H9.out.2.2.1)).mono ?_
              intro e w1 hp
              obtain ⟨rfl, hg⟩ := hp
              exact ⟨_, rfl, hg, rfl⟩
          refine ⟨fe3_value rfl (by decide) fun a w h => ?_, ?_⟩
          · have e87 : a.tmps.getD 87 undef = .bool false := h.dep 87 (by kernel_rfl)
            have e92 : a.tmps.getD 92 undef = .bool true := h.dep 92 (by kernel_rfl)
            refine ⟨wants_some (d := 87) rfl rfl (by rw [h.size]; show 87 < 158; decide) e87, .bool false, w, ?_, gb_refl _ _, rfl⟩
            clear h
            simp only [execOp, Act.eval, e92]
            go_simp
          refine ⟨fe3_value rfl (by decide) fun a w h => ?_, ?_⟩
          · have e87 : a.tmps.getD 87 undef = .bool false := h.dep 87 (by kernel_rfl)
            have e93 : a.tmps.getD 93 undef = .bool false := h.dep 93 (by kernel_rfl)
            refine ⟨wants_none rfl, .bool false, w, ?_, gb_refl _ _, rfl⟩
            clear h
            simp only [execOp, Act.eval, e87, e93]
            go_simp
          refine ⟨fe3_value rfl (by decide) fun a w h => ?_, ?_⟩
          · have e94 : a.tmps.getD 94 undef = .bool false := h.dep 94 (by kernel_rfl)
            refine ⟨wants_none rfl, .bool false, w, ?_, gb_refl _ _, rfl⟩
            clear h
            simp only [execOp, Act.eval, e94]
            go_simp
          refine ⟨fe3_value rfl (by decide) fun a w h => ?_, ?_⟩
          · have e95 : a.tmps.getD 95 undef = .bool false := h.dep 95 (by kernel_rfl)
            have e3 : a.tmps.getD 3 undef = .pointer (some ⟨w0.heap.size, 0, none⟩) := h.rest 3 (by kernel_rfl)
            have hb := h.base.e (w0.heap.size, fa) (by simp)
            have c0 : w.cell? ⟨w0.heap.size, 0, none⟩ = some (.int .u64 fa.x0) := hb.cell (i := 0) rfl
            have c1 : w.cell? ⟨w0.heap.size, 1, none⟩ = some (.int .u64 fa.x1) := hb.cell (i := 1) rfl
            have c2 : w.cell? ⟨w0.heap.size, 2, none⟩ = some (.int .u64 fa.x2) := hb.cell (i := 2) rfl
            have c3 : w.cell? ⟨w0.heap.size, 3, none⟩ = some (.int .u64 fa.x3) := hb.cell (i := 3) rfl
            have c4 : w.cell? ⟨w0.heap.size, 4, none⟩ = some (.int .u64 fa.x4) := hb.cell (i := 4) rfl
            refine ⟨wants_some (d := 95) rfl rfl (by rw [h.size]; show 95 < 158; decide) e95, .agg #[.int .u64 fa.x0, .int .u64 fa.x1, .int .u64 fa.x2, .int .u64 fa.x3, .int .u64 fa.x4], w, ?_, gb_refl _ _, rfl⟩
            clear h hb
            simp only [execOp, Act.eval, e3]
            go_simp
          refine ⟨fe3_call rfl (by decide) fun a w h => ?_, ?_⟩
          · have e95 : a.tmps.getD 95 undef = .bool false := h.dep 95 (by kernel_rfl)
            have e96 : a.tmps.getD 96 undef = fa.v := h.dep 96 (by kernel_rfl)
            have e96x : a.tmps[96]?.getD undef = fa.v := by simpa using e96
            have hb := h.base
            refine ⟨wants_some (d := 95) rfl rfl (by rw [h.size]; show 95 < 158; decide) e95, 15, #[fa.v], ?_, ?_⟩
            · clear h hb e96
              go_simp
            · refine (sq_fe fa w okfa).mono ?_
              intro e w1 hp
              obtain ⟨rfl, hg⟩ := feOut_is hp
              exact ⟨_, rfl, hg, rfl⟩
          refine ⟨fe3_value rfl (by decide) fun a w h => ?_, ?_⟩
          · have e95 : a.tmps.getD 95 undef = .bool false := h.dep 95 (by kernel_rfl)
            have e3 : a.tmps.getD 3 undef = .pointer (some ⟨w0.heap.size, 0, none⟩) := h.rest 3 (by kernel_rfl)
            have hb := h.base.e (w0.heap.size, fa) (by simp)
            have c0 : w.cell? ⟨w0.heap.size, 0, none⟩ = some (.int .u64 fa.x0) := hb.cell (i := 0) rfl
            have c1 : w.cell? ⟨w0.heap.size, 1, none⟩ = some (.int .u64 fa.x1) := hb.cell (i := 1) rfl
            have c2 : w.cell? ⟨w0.heap.size, 2, none⟩ = some (.int .u64 fa.x2) := hb.cell (i := 2) rfl
            have c3 : w.cell? ⟨w0.heap.size, 3, none⟩ = some (.int .u64 fa.x3) := hb.cell (i := 3) rfl
            have c4 : w.cell? ⟨w0.heap.size, 4, none⟩ = some (.int .u64 fa.x4) := hb.cell (i := 4) rfl
            refine ⟨wants_some (d := 95) rfl rfl (by rw [h.size]; show 95 < 158; decide) e95, .agg #[.int .u64 fa.x0, .int .u64 fa.x1, .int .u64 fa.x2, .int .u64 fa.x3, .int .u64 fa.x4], w, ?_, gb_refl _ _, rfl⟩
            clear h hb
            simp only [execOp, Act.eval, e3]
            go_simp
          refine ⟨fe3_value rfl (by decide) fun a w h => ?_, ?_⟩
          · have e95 : a.tmps.getD 95 undef = .bool false := h.dep 95 (by kernel_rfl)
            have e3 : a.tmps.getD 3 undef = .pointer (some ⟨w0.heap.size, 0, none⟩) := h.rest 3 (by kernel_rfl)
            have hb := h.base.e (w0.heap.size, fa) (by simp)
            have c0 : w.cell? ⟨w0.heap.size, 0, none⟩ = some (.int .u64 fa.x0) := hb.cell (i := 0) rfl
            have c1 : w.cell? ⟨w0.heap.size, 1, none⟩ = some (.int .u64 fa.x1) := hb.cell (i := 1) rfl
            have c2 : w.cell? ⟨w0.heap.size, 2, none⟩ = some (.int .u64 fa.x2) := hb.cell (i := 2) rfl
            have c3 : w.cell? ⟨w0.heap.size, 3, none⟩ = some (.int .u64 fa.x3) := hb.cell (i := 3) rfl
            have c4 : w.cell? ⟨w0.heap.size, 4, none⟩ = some (.int .u64 fa.x4) := hb.cell (i := 4) rfl
            refine ⟨wants_some (d := 95) rfl rfl (by rw [h.size]; show 95 < 158; decide) e95, .agg #[.int .u64 fa.x0, .int .u64 fa.x1, .int .u64 fa.x2, .int .u64 fa.x3, .int .u64 fa.x4], w, ?_, gb_refl _ _, rfl⟩
            clear h hb
            simp only [execOp, Act.eval, e3]
            go_simp
          refine ⟨fe3_call rfl (by decide) fun a w h => ?_, ?_⟩
          · have e95 : a.tmps.getD 95 undef = .bool false := h.dep 95 (by kernel_rfl)
            have e98 : a.tmps.getD 98 undef = fa.v := h.dep 98 (by kernel_rfl)
            have e98x : a.tmps[98]?.getD undef = fa.v := by simpa using e98
            have e99 : a.tmps.getD 99 undef = fa.v := h.dep 99 (by kernel_rfl)
            have e99x : a.tmps[99]?.getD undef = fa.v := by simpa using e99
            have hb := h.base
            refine ⟨wants_some (d := 95) rfl rfl (by rw [h.size]; show 95 < 158; decide) e95, 10, #[fa.v, fa.v], ?_, ?_⟩
            · clear h hb e98 e99
              go_simp
            · refine (mul_fe fa fa w okfa okfa).mono ?_
              intro e w1 hp
              obtain ⟨rfl, hg⟩ := feOut_is hp
              exact ⟨_, rfl, hg, rfl⟩
          refine ⟨fe3_call rfl (by decide) fun a w h => ?_, ?_⟩
          · have e95 : a.tmps.getD 95 undef = .bool false := h.dep 95 (by kernel_rfl)
            have e97 : a.tmps.getD 97 undef = (Fe.sqF fa).v := h.dep 97 (by kernel_rfl)
            have e97x : a.tmps[97]?.getD undef = (Fe.sqF fa).v := by simpa using e97
            have e100 : a.tmps.getD 100 undef = (Fe.mulF fa fa).v := h.dep 100 (by kernel_rfl)
            have e100x : a.tmps[100]?.getD undef = (Fe.mulF fa fa).v := by simpa using e100
            have hb := h.base
            refine ⟨wants_some (d := 95) rfl rfl (by rw [h.size]; show 95 < 158; decide) e95, 13, #[(Fe.sqF fa).v, (Fe.mulF fa fa).v], ?_, ?_⟩
            · clear h hb e97 e100
              go_simp
            · refine (same_val (Fe.sqF fa) (Fe.mulF fa fa) true w (Fe.sq_right _).ok (Fe.mul_right _ _).ok (H9.out.2.2.2.1)).mono ?_
              intro e w1 hp
              obtain ⟨rfl, hg⟩ := hp
              exact ⟨_, rfl, hg, rfl⟩
          refine ⟨fe3_value rfl (by decide) fun a w h => ?_, ?_⟩
          · have e95 : a.tmps.getD 95 undef = .bool false := h.dep 95 (by kernel_rfl)
            have e101 : a.tmps.getD 101 undef = .bool true := h.dep 101 (by kernel_rfl)
            refine ⟨wants_some (d := 95) rfl rfl (by rw [h.size]; show 95 < 158; decide) e95, .bool false, w, ?_, gb_refl _ _, rfl⟩
            clear h
            simp only [execOp, Act.eval, e101]
            go_simp
          refine ⟨fe3_value rfl (by decide) fun a w h => ?_, ?_⟩
          · have e95 : a.tmps.getD 95 undef = .bool false := h.dep 95 (by kernel_rfl)
            have e102 : a.tmps.getD 102 undef = .bool false := h.dep 102 (by kernel_rfl)
            refine ⟨wants_none rfl, .bool false, w, ?_, gb_refl _ _, rfl⟩
            clear h
            simp only [execOp, Act.eval, e95, e102]
            go_simp
          refine ⟨fe3_value rfl (by decide) fun a w h => ?_, ?_⟩
          · have e103 : a.tmps.getD 103 undef = .bool false := h.dep 103 (by kernel_rfl)
            refine ⟨wants_none rfl, .bool false, w, ?_, gb_refl _ _, rfl⟩
            clear h
            simp only [execOp, Act.eval, e103]
            go_simp
          refine ⟨fe3_value rfl (by decide) fun a w h => ?_, ?_⟩
          · have e104 : a.tmps.getD 104 undef = .bool false := h.dep 104 (by kernel_rfl)
            have e3 : a.tmps.getD 3 undef = .pointer (some ⟨w0.heap.size, 0, none⟩) := h.rest 3 (by kernel_rfl)
            have hb := h.base.e (w0.heap.size, fa) (by simp)
            have c0 : w.cell? ⟨w0.heap.size, 0, none⟩ = some (.int .u64 fa.x0) := hb.cell (i := 0) rfl
            have c1 : w.cell? ⟨w0.heap.size, 1, none⟩ = some (.int .u64 fa.x1) := hb.cell (i := 1) rfl
            have c2 : w.cell? ⟨w0.heap.size, 2, none⟩ = some (.int .u64 fa.x2) := hb.cell (i := 2) rfl
            have c3 : w.cell? ⟨w0.heap.size, 3, none⟩ = some (.int .u64 fa.x3) := hb.cell (i := 3) rfl
            have c4 : w.cell? ⟨w0.heap.size, 4, none⟩ = some (.int .u64 fa.x4) := hb.cell (i := 4) rfl
            refine ⟨wants_some (d := 104) rfl rfl (by rw [h.size]; show 104 < 158; decide) e104, .agg #[.int .u64 fa.x0, .int .u64 fa.x1, .int .u64 fa.x2, .int .u64 fa.x3, .int .u64 fa.x4], w, ?_, gb_refl _ _, rfl⟩
            clear h hb
            simp only [execOp, Act.eval, e3]
            go_simp
          refine ⟨fe3_call rfl (by decide) fun a w h => ?_, ?_⟩
          · have e104 : a.tmps.getD 104 undef = .bool false := h.dep 104 (by kernel_rfl)
            have hb := h.base
            refine ⟨wants_some (d := 104) rfl rfl (by rw [h.size]; show 104 < 158; decide) e104, 22, #[], ?_, ?_⟩
            · clear h hb
              go_simp
            · refine (one_any w).mono ?_
              intro e w1 hp
              obtain ⟨rfl, hg⟩ := feOut_is hp
              exact ⟨_, rfl, hg, rfl⟩
          refine ⟨fe3_call rfl (by decide) fun a w h => ?_, ?_⟩
          · have e104 : a.tmps.getD 104 undef = .bool false := h.dep 104 (by kernel_rfl)
            have e105 : a.tmps.getD 105 undef = fa.v := h.dep 105 (by kernel_rfl)
            have e105x : a.tmps[105]?.getD undef = fa.v := by simpa using e105
            have e106 : a.tmps.getD 106 undef = Fe.oneF.v := h.dep 106 (by kernel_rfl)
            have e106x : a.tmps[106]?.getD undef = Fe.oneF.v := by simpa using e106
            have hb := h.base
            refine ⟨wants_some (d := 104) rfl rfl (by rw [h.size]; show 104 < 158; decide) e104, 10, #[fa.v, Fe.oneF.v], ?_, ?_⟩
            · clear h hb e105 e106
              go_simp
            · refine (mul_fe fa Fe.oneF w okfa one_right.ok).mono ?_
              intro e w1 hp
              obtain ⟨rfl, hg⟩ := feOut_is hp
              exact ⟨_, rfl, hg, rfl⟩
          refine ⟨fe3_value rfl (by decide) fun a w h => ?_, ?_⟩
          · have e104 : a.tmps.getD 104 undef = .bool false := h.dep 104 (by kernel_rfl)
            have e3 : a.tmps.getD 3 undef = .pointer (some ⟨w0.heap.size, 0, none⟩) := h.rest 3 (by kernel_rfl)
            have hb := h.base.e (w0.heap.size, fa) (by simp)
            have c0 : w.cell? ⟨w0.heap.size, 0, none⟩ = some (.int .u64 fa.x0) := hb.cell (i := 0) rfl
            have c1 : w.cell? ⟨w0.heap.size, 1, none⟩ = some (.int .u64 fa.x1) := hb.cell (i := 1) rfl
            have c2 : w.cell? ⟨w0.heap.size, 2, none⟩ = some (.int .u64 fa.x2) := hb.cell (i := 2) rfl
            have c3 : w.cell? ⟨w0.heap.size, 3, none⟩ = some (.int .u64 fa.x3) := hb.cell (i := 3) rfl
            have c4 : w.cell? ⟨w0.heap.size, 4, none⟩ = some (.int .u64 fa.x4) := hb.cell (i := 4) rfl
            refine ⟨wants_some (d := 104) rfl rfl (by rw [h.size]; show 104 < 158; decide) e104, .agg #[.int .u64 fa.x0, .int .u64 fa.x1, .int .u64 fa.x2, .int .u64 fa.x3, .int .u64 fa.x4], w, ?_, gb_refl _ _, rfl⟩
            clear h hb
            simp only [execOp, Act.eval, e3]
            go_simp
          refine ⟨fe3_call rfl (by decide) fun a w h => ?_, ?_⟩
          · have e104 : a.tmps.getD 104 undef = .bool false := h.dep 104 (by kernel_rfl)
            have e107 : a.tmps.getD 107 undef = (Fe.mulF fa Fe.oneF).v := h.dep 107 (by kernel_rfl)
            have e107x : a.tmps[107]?.getD undef = (Fe.mulF fa Fe.oneF).v := by simpa using e107
            have e108 : a.tmps.getD 108 undef = fa.v := h.dep 108 (by kernel_rfl)
            have e108x : a.tmps[108]?.getD undef = fa.v := by simpa using e108
            have hb := h.base
            refine ⟨wants_some (d := 104) rfl rfl (by rw [h.size]; show 104 < 158; decide) e104, 13, #[(Fe.mulF fa Fe.oneF).v, fa.v], ?_, ?_⟩
            · clear h hb e107 e108
              go_simp
            · refine (same_val (Fe.mulF fa Fe.oneF) fa true w (Fe.mul_right _ _).ok okfa (H9.out.2.2.2.2)).mono ?_
              intro e w1 hp
              obtain ⟨rfl, hg⟩ := hp
              exact ⟨_, rfl, hg, rfl⟩
          refine ⟨fe3_value rfl (by decide) fun a w h => ?_, ?_⟩
          · have e104 : a.tmps.getD 104 undef = .bool false := h.dep 104 (by kernel_rfl)
            have e109 : a.tmps.getD 109 undef = .bool true := h.dep 109 (by kernel_rfl)
            refine ⟨wants_some (d := 104) rfl rfl (by rw [h.size]; show 104 < 158; decide) e104, .bool false, w, ?_, gb_refl _ _, rfl⟩
            clear h
            simp only [execOp, Act.eval, e109]
            go_simp
          refine ⟨fe3_value rfl (by decide) fun a w h => ?_, ?_⟩
          · have e104 : a.tmps.getD 104 undef = .bool false := h.dep 104 (by kernel_rfl)
            have e110 : a.tmps.getD 110 undef = .bool false := h.dep 110 (by kernel_rfl)
            refine ⟨wants_none rfl, .bool false, w, ?_, gb_refl _ _, rfl⟩
            clear h
            simp only [execOp, Act.eval, e104, e110]
            go_simp
          trivial
        · intro q v10 hB hsz hdf hrest hslots hmems
          obtain rfl := frame_is (a := q) (vs := [Value.agg #[.int .u64 fa.x0, .int .u64 fa.x1, .int .u64 fa.x2, .int .u64 fa.x3, .int .u64 fa.x4], Value.agg #[.int .u64 fb.x0, .int .u64 fb.x1, .int .u64 fb.x2, .int .u64 fb.x3, .int .u64 fb.x4], Value.agg #[.int .u64 fc.x0, .int .u64 fc.x1, .int .u64 fc.x2, .int .u64 fc.x3, .int .u64 fc.x4], Value.pointer (some ⟨w0.heap.size, 0, none⟩), Value.pointer (some ⟨w0.heap.size + 1, 0, none⟩), Value.pointer (some ⟨w0.heap.size + 1 + 1, 0, none⟩), Value.bool false, Value.pointer (some ⟨Bs, 0, none⟩), Value.pointer (some ⟨Bp, 0, none⟩), Value.pointer (some ⟨Bx, 0, none⟩), Value.pointer (some ⟨By, 0, none⟩), undef, undef, Value.bool true, Value.bool false, Value.agg #[.int .u64 fa.x0, .int .u64 fa.x1, .int .u64 fa.x2, .int .u64 fa.x3, .int .u64 fa.x4], Value.agg #[.int .u64 fb.x0, .int .u64 fb.x1, .int .u64 fb.x2, .int .u64 fb.x3, .int .u64 fb.x4], Value.agg #[.int .u64 fc.x0, .int .u64 fc.x1, .int .u64 fc.x2, .int .u64 fc.x3, .int .u64 fc.x4], Value.slice (some ⟨v1.heap.size, 0, none⟩) 3 3, Value.bool true, Value.bool false, fa.v, fb.v, (Fe.addF fa fb).v, fa.v, fb.v, (Fe.mulF fa fb).v, fs.v, fb.v, fa.v, (Fe.addF fb fa).v, Value.bool true, Value.bool false, Value.bool false, fp.v, fb.v, fa.v, (Fe.mulF fb fa).v, Value.bool true, Value.bool false, Value.bool false, Value.bool false, fs.v, fc.v, (Fe.addF fs fc).v, fa.v, fb.v, fc.v, (Fe.addF fb fc).v, (Fe.addF fa (Fe.addF fb fc)).v, Value.bool true, Value.bool false, Value.bool false, Value.bool false, fp.v, fc.v, (Fe.mulF fp fc).v, fa.v, fb.v, fc.v, (Fe.mulF fb fc).v, (Fe.mulF fa (Fe.mulF fb fc)).v, Value.bool true, Value.bool false, Value.bool false, fc.v, fs.v, (Fe.mulF fc fs).v, fc.v, fa.v, (Fe.mulF fc fa).v, fc.v, fb.v, (Fe.mulF fc fb).v, (Fe.addF (Fe.mulF fc fa) (Fe.mulF fc fb)).v, fx.v, fy.v, Value.bool true, Value.bool false, Value.bool false, fs.v, fb.v, (Fe.subF fs fb).v, fa.v, Value.bool true, Value.bool false, Value.bool false, Value.bool false, fa.v, fa.v, (Fe.negF fa).v, (Fe.addF fa (Fe.negF fa)).v, Value.bool true, Value.bool false, Value.bool false, Value.bool false, fa.v, (Fe.sqF fa).v, fa.v, fa.v, (Fe.mulF fa fa).v, Value.bool true, Value.bool false, Value.bool false, Value.bool false, fa.v, Fe.oneF.v, (Fe.mulF fa Fe.oneF).v, fa.v, Value.bool true, Value.bool false, Value.bool false, undef, undef, undef, undef, undef, undef, undef, undef, undef, undef, undef, undef, undef, undef, undef, undef, undef, undef, undef, undef, undef, undef, undef, undef, undef, undef, undef, undef, undef, undef, undef, undef, undef, undef, undef, undef, undef, undef, undef, undef, undef, undef, undef, undef, undef, undef]) hsz ⟨hrest 0 (by kernel_rfl), hrest 1 (by kernel_rfl), hrest 2 (by kernel_rfl), hrest 3 (by kernel_rfl), hrest 4 (by kernel_rfl), hrest 5 (by kernel_rfl), hrest 6 (by kernel_rfl), hrest 7 (by kernel_rfl), hrest 8 (by kernel_rfl), hrest 9 (by kernel_rfl), hrest 10 (by kernel_rfl), hrest 11 (by kernel_rfl), hrest 12 (by kernel_rfl), hrest 13 (by kernel_rfl), hrest 14 (by kernel_rfl), hrest 15 (by kernel_rfl), hrest 16 (by kernel_rfl), hrest 17 (by kernel_rfl), hrest 18 (by kernel_rfl), hrest 19 (by kernel_rfl), hrest 20 (by kernel_rfl), hrest 21 (by kernel_rfl), hrest 22 (by kernel_rfl), hrest 23 (by kernel_rfl), hrest 24 (by kernel_rfl), hrest 25 (by kernel_rfl), hrest 26 (by kernel_rfl), hrest 27 (by kernel_rfl), hrest 28 (by kernel_rfl), hrest 29 (by kernel_rfl), hrest 30 (by kernel_rfl), hrest 31 (by kernel_rfl), hrest 32 (by kernel_rfl), hrest 33 (by kernel_rfl), hrest 34 (by kernel_rfl), hrest 35 (by kernel_rfl), hrest 36 (by kernel_rfl), hrest 37 (by kernel_rfl), hrest 38 (by kernel_rfl), hrest 39 (by kernel_rfl), hrest 40 (by kernel_rfl), hrest 41 (by kernel_rfl), hrest 42 (by kernel_rfl), hrest 43 (by kernel_rfl), hrest 44 (by kernel_rfl), hrest 45 (by kernel_rfl), hrest 46 (by kernel_rfl), hrest 47 (by kernel_rfl), hrest 48 (by kernel_rfl), hrest 49 (by kernel_rfl), hrest 50 (by kernel_rfl), hrest 51 (by kernel_rfl), hrest 52 (by kernel_rfl), hrest 53 (by kernel_rfl), hrest 54 (by kernel_rfl), hrest 55 (by kernel_rfl), hrest 56 (by kernel_rfl), hrest 57 (by kernel_rfl), hrest 58 (by kernel_rfl), hrest 59 (by kernel_rfl), hrest 60 (by kernel_rfl), hrest 61 (by kernel_rfl), hrest 62 (by kernel_rfl), hrest 63 (by kernel_rfl), hrest 64 (by kernel_rfl), hrest 65 (by kernel_rfl), hrest 66 (by kernel_rfl), hrest 67 (by kernel_rfl), hrest 68 (by kernel_rfl), hrest 69 (by kernel_rfl), hrest 70 (by kernel_rfl), hrest 71 (by kernel_rfl), hrest 72 (by kernel_rfl), hrest 73 (by kernel_rfl), hrest 74 (by kernel_rfl), (show q.tmps.getD 75 undef = fx.v from hslots 75 (by kernel_rfl)), (show q.tmps.getD 76 undef = fy.v from hslots 76 (by kernel_rfl)), (show q.tmps.getD 77 undef = Value.bool true from hslots 77 (by kernel_rfl)), (show q.tmps.getD 78 undef = Value.bool false from hslots 78 (by kernel_rfl)), (show q.tmps.getD 79 undef = Value.bool false from hslots 79 (by kernel_rfl)), (show q.tmps.getD 80 undef = fs.v from hslots 80 (by kernel_rfl)), (show q.tmps.getD 81 undef = fb.v from hslots 81 (by kernel_rfl)), (show q.tmps.getD 82 undef = (Fe.subF fs fb).v from hslots 82 (by kernel_rfl)), (show q.tmps.getD 83 undef = fa.v from hslots 83 (by kernel_rfl)), (show q.tmps.getD 84 undef = Value.bool true from hslots 84 (by kernel_rfl)), (show q.tmps.getD 85 undef = Value.bool false from hslots 85 (by kernel_rfl)), (show q.tmps.getD 86 undef = Value.bool false from hslots 86 (by kernel_rfl)), (show q.tmps.getD 87 undef = Value.bool false from hslots 87 (by kernel_rfl)), (show q.tmps.getD 88 undef = fa.v from hslots 88 (by kernel_rfl)), (show q.tmps.getD 89 undef = fa.v from hslots 89 (by kernel_rfl)), (show q.tmps.getD 90 undef = (Fe.negF fa).v from hslots 90 (by kernel_rfl)), (show q.tmps.getD 91 undef = (Fe.addF fa (Fe.negF fa)).v from hslots 91 (by kernel_rfl)), (show q.tmps.getD 92 undef = Value.bool true from hslots 92 (by kernel_rfl)), (show q.tmps.getD 93 undef = Value.bool false from hslots 93 (by kernel_rfl)), (show q.tmps.getD 94 undef = Value.bool false from hslots 94 (by kernel_rfl)), (show q.tmps.getD 95 undef = Value.bool false from hslots 95 (by kernel_rfl)), (show q.tmps.getD 96 undef = fa.v from hslots 96 (by kernel_rfl)), (show q.tmps.getD 97 undef = (Fe.sqF fa).v from hslots 97 (by kernel_rfl)), (show q.tmps.getD 98 undef = fa.v from hslots 98 (by kernel_rfl)), (show q.tmps.getD 99 undef = fa.v from hslots 99 (by kernel_rfl)), (show q.tmps.getD 100 undef = (Fe.mulF fa fa).v from hslots 100 (by kernel_rfl)), (show q.tmps.getD 101 undef = Value.bool true from hslots 101 (by kernel_rfl)), (show q.tmps.getD 102 undef = Value.bool false from hslots 102 (by kernel_rfl)), (show q.tmps.getD 103 undef = Value.bool false from hslots 103 (by kernel_rfl)), (show q.tmps.getD 104 undef = Value.bool false from hslots 104 (by kernel_rfl)), (show q.tmps.getD 105 undef = fa.v from hslots 105 (by kernel_rfl)), (show q.tmps.getD 106 undef = Fe.oneF.v from hslots 106 (by kernel_rfl)), (show q.tmps.getD 107 undef = (Fe.mulF fa Fe.oneF).v from hslots 107 (by kernel_rfl)), (show q.tmps.getD 108 undef = fa.v from hslots 108 (by kernel_rfl)), (show q.tmps.getD 109 undef = Value.bool true from hslots 109 (by kernel_rfl)), (show q.tmps.getD 110 undef = Value.bool false from hslots 110 (by kernel_rfl)), (show q.tmps.getD 111 undef = Value.bool false from hslots 111 (by kernel_rfl)), hrest 112 (by kernel_rfl), hrest 113 (by kernel_rfl), hrest 114 (by kernel_rfl), hrest 115 (by kernel_rfl), hrest 116 (by kernel_rfl), hrest 117 (by kernel_rfl), hrest 118 (by kernel_rfl), hrest 119 (by kernel_rfl), hrest 120 (by kernel_rfl), hrest 121 (by kernel_rfl), hrest 122 (by kernel_rfl), hrest 123 (by kernel_rfl), hrest 124 (by kernel_rfl), hrest 125 (by kernel_rfl), hrest 126 (by kernel_rfl), hrest 127 (by kernel_rfl), hrest 128 (by kernel_rfl), hrest 129 (by kernel_rfl), hrest 130 (by kernel_rfl), hrest 131 (by kernel_rfl), hrest 132 (by kernel_rfl), hrest 133 (by kernel_rfl), hrest 134 (by kernel_rfl), hrest 135 (by kernel_rfl), hrest 136 (by kernel_rfl), hrest 137 (by kernel_rfl), hrest 138 (by kernel_rfl), hrest 139 (by kernel_rfl), hrest 140 (by kernel_rfl), hrest 141 (by kernel_rfl), hrest 142 (by kernel_rfl), hrest 143 (by kernel_rfl), hrest 144 (by kernel_rfl), hrest 145 (by kernel_rfl), hrest 146 (by kernel_rfl), hrest 147 (by kernel_rfl), hrest 148 (by kernel_rfl), hrest 149 (by kernel_rfl), hrest 150 (by kernel_rfl), hrest 151 (by kernel_rfl), hrest 152 (by kernel_rfl), hrest 153 (by kernel_rfl), hrest 154 (by kernel_rfl), hrest 155 (by kernel_rfl), hrest 156 (by kernel_rfl), hrest 157 (by kernel_rfl), trivial⟩ hdf
          have hg := hB.g
          clear hsz hdf hrest hslots hmems hB hB9 HT9 H9
          replace hfa := hfa.grown hg (by simp)
          replace hfb := hfb.grown hg (by simp)
          replace hfc := hfc.grown hg (by simp)
          replace hfs := hfs.grown hg (by simp)
          replace hfp := hfp.grown hg (by simp)
          replace hfx := hfx.grown hg (by simp)
          replace hfy := hfy.grown hg (by simp)
          replace G1 := gb_trans G1 hg
          clear hg
          have fac0 := hfa.cell (i := 0) rfl; have fac1 := hfa.cell (i := 1) rfl; have fac2 := hfa.cell (i := 2) rfl; have fac3 := hfa.cell (i := 3) rfl; have fac4 := hfa.cell (i := 4) rfl
          go_wp2_with fail
          clear fac0 fac1 fac2 fac3 fac4
          refine (invert_any fa _ okfa).mono ?_
          rintro e v11 ⟨fi, hfie, rfl, hg⟩
          have okfi : fi.Ok := by rw [hfie.out]; exact (inv_right _).ok
          replace hfa := hfa.grown hg (by simp)
          replace hfb := hfb.grown hg (by simp)
          replace hfc := hfc.grown hg (by simp)
          replace hfs := hfs.grown hg (by simp)
          replace hfp := hfp.grown hg (by simp)
          replace hfx := hfx.grown hg (by simp)
          replace hfy := hfy.grown hg (by simp)
          replace G1 := gb_trans G1 hg
          clear hg
          go_wp2_with fail
          refine (one_any _).mono ?_
          rintro e v12 ⟨fo, hfoe, rfl, hg⟩
          have okfo : fo.Ok := by rw [hfoe.out]; exact one_right.ok
          replace G1 := gb_trans (gb_alloc G1 (.cells (feL fi).toArray 24)) hg
          have hfi := (Blk.new v11 (feL fi) 24).grown hg (by simp)
          replace hfa := (hfa.alloc (.cells (feL fi).toArray 24)).grown hg (by simp)
          replace hfb := (hfb.alloc (.cells (feL fi).toArray 24)).grown hg (by simp)
          replace hfc := (hfc.alloc (.cells (feL fi).toArray 24)).grown hg (by simp)
          replace hfs := (hfs.alloc (.cells (feL fi).toArray 24)).grown hg (by simp)
          replace hfp := (hfp.alloc (.cells (feL fi).toArray 24)).grown hg (by simp)
          replace hfx := (hfx.alloc (.cells (feL fi).toArray 24)).grown hg (by simp)
          replace hfy := (hfy.alloc (.cells (feL fi).toArray 24)).grown hg (by simp)
          clear hg
          go_wp2_with fail
          refine (neg_any fo _ (HT.out.grown G1) okfo).mono ?_
          rintro e v13 ⟨fm, hfme, rfl, hg⟩
          have okfm : fm.Ok := by rw [hfme.out]; exact (Fe.neg_right _).ok
          rw [hfoe.out] at hfme
          replace hfa := hfa.grown hg (by simp)
          replace hfb := hfb.grown hg (by simp)
          replace hfc := hfc.grown hg (by simp)
          replace hfs := hfs.grown hg (by simp)
          replace hfp := hfp.grown hg (by simp)
          replace hfx := hfx.grown hg (by simp)
          replace hfy := hfy.grown hg (by simp)
          replace hfi := hfi.grown hg (by simp)
          replace G1 := gb_alloc (gb_trans G1 hg) (.cells #[.int .u64 fm.x0, .int .u64 fm.x1, .int .u64 fm.x2, .int .u64 fm.x3, .int .u64 fm.x4] 24)
          clear hg
          go_wp2_with fail
          have hfm : Blk (v13.alloc (.cells #[.int .u64 fm.x0, .int .u64 fm.x1, .int .u64 fm.x2, .int .u64 fm.x3, .int .u64 fm.x4] 24)) v13.heap.size 24 (feL fm) := Blk.new v13 (feL fm) 24
          replace hfa := hfa.alloc (.cells #[.int .u64 fm.x0, .int .u64 fm.x1, .int .u64 fm.x2, .int .u64 fm.x3, .int .u64 fm.x4] 24)
          replace hfb := hfb.alloc (.cells #[.int .u64 fm.x0, .int .u64 fm.x1, .int .u64 fm.x2, .int .u64 fm.x3, .int .u64 fm.x4] 24)
          replace hfc := hfc.alloc (.cells #[.int .u64 fm.x0, .int .u64 fm.x1, .int .u64 fm.x2, .int .u64 fm.x3, .int .u64 fm.x4] 24)
          replace hfs := hfs.alloc (.cells #[.int .u64 fm.x0, .int .u64 fm.x1, .int .u64 fm.x2, .int .u64 fm.x3, .int .u64 fm.x4] 24)
          replace hfp := hfp.alloc (.cells #[.int .u64 fm.x0, .int .u64 fm.x1, .int .u64 fm.x2, .int .u64 fm.x3, .int .u64 fm.x4] 24)
          replace hfx := hfx.alloc (.cells #[.int .u64 fm.x0, .int .u64 fm.x1, .int .u64 fm.x2, .int .u64 fm.x3, .int .u64 fm.x4] 24)
          replace hfy := hfy.alloc (.cells #[.int .u64 fm.x0, .int .u64 fm.x1, .int .u64 fm.x2, .int .u64 fm.x3, .int .u64 fm.x4] 24)
          replace hfi := hfi.alloc (.cells #[.int .u64 fm.x0, .int .u64 fm.x1, .int .u64 fm.x2, .int .u64 fm.x3, .int .u64 fm.x4] 24)
          obtain ⟨W13, hW13⟩ : ∃ W, W = v13.alloc (.cells #[.int .u64 fm.x0, .int .u64 fm.x1, .int .u64 fm.x2, .int .u64 fm.x3, .int .u64 fm.x4] 24) := ⟨_, rfl⟩
          rw [← hW13] at G1 hfa hfb hfc hfs hfp hfx hfy hfi hfm ⊢
          clear hW13
          have G13 := G1
          have HT13 := Lib.hid (HT.out.grown G1)
          have hB13 : EnvB W13 W13.heap.size [(w0.heap.size, fa), (w0.heap.size + 1, fb), (w0.heap.size + 1 + 1, fc), (Bs, fs), (Bp, fp), (Bx, fx), (By, fy), (v11.heap.size, fi), (v13.heap.size, fm)] [] W13 := ⟨gb_refl _ _, by
            intro p hp
            simp only [List.mem_cons, List.not_mem_nil, or_false] at hp
            rcases hp with rfl | rfl | rfl | rfl | rfl | rfl | rfl | rfl | rfl
            · exact hfa
            · exact hfb
            · exact hfc
            · exact hfs
            · exact hfp
            · exact hfx
            · exact hfy
            · exact hfi
            · exact hfm, by simp, by
            intro p hp
            simp only [List.mem_cons, List.not_mem_nil, or_false] at hp
            rcases hp with rfl | rfl | rfl | rfl | rfl | rfl | rfl | rfl | rfl
            · exact hfa.lt
            · exact hfb.lt
            · exact hfc.lt
            · exact hfs.lt
            · exact hfp.lt
            · exact hfx.lt
            · exact hfy.lt
            · exact hfi.lt
            · exact hfm.lt, Nat.le_refl _, Nat.le_refl _⟩
          clear hfa hfb hfc hfs hfp hfx hfy hfi hfm G1
          have HRr : Hid ((∀ a ∈ [fs, fp, fx, fy, fi, fm, Fe.subF fa fb], a.Ok) ∧ [fs, fp, fx, fy, fi, fm, Fe.subF fa fb].all rightB = true) := Lib.hid (by
            have r1 : fs.Right := by rw [ES.out]; exact Fe.add_right _ _
            have r2 : fp.Right := by rw [EP.out]; exact Fe.mul_right _ _
            have r3 : fx.Right := by rw [EX.out]; exact Fe.mul_right _ _
            have r4 : fy.Right := by rw [EY.out]; exact Fe.add_right _ _
            have r5 : fi.Right := by rw [hfie.out]; exact inv_right _
            have r6 : fm.Right := by rw [hfme.out]; exact Fe.neg_right _
            have r7 : (Fe.subF fa fb).Right := Fe.sub_right _ _
            simp [okfs, okfp, okfx, okfy, okfi, okfm, r7.ok, (rightB_is okfs).2 r1, (rightB_is okfp).2 r2, (rightB_is okfx).2 r3, (rightB_is okfy).2 r4, (rightB_is okfi).2 r5, (rightB_is okfm).2 r6, (rightB_is r7.ok).2 r7])
          have HM : Hid (decide (Fe.m (Fe.mulF fm fm) = Fe.m Fe.oneF) = true) := Lib.hid (by rw [hfme.out]; exact dt Fe.ring_mm)
          by_cases hza : Fe.m fa = 0
          · have HZa : Hid (decide (Fe.m fa = 0) = true) := Lib.hid (dt hza)
            have HI : Hid (decide (Fe.m (Fe.mulF fa fi) = Fe.m Fe.oneF) = false) := Lib.hid (by rw [hfie.out]; exact df (Fe.ring_inv0 HRA.out hza))
            have HZab : Hid (decide (Fe.m (Fe.mulF fa fb) = 0) = true) := Lib.hid (dt (Fe.ring_zero_l HRA.out HRB.out hza))
            clear hza
            refine wp_region_flow3 (items3 (Okb W13 [(w0.heap.size, fa), (w0.heap.size + 1, fb), (w0.heap.size + 1 + 1, fc), (Bs, fs), (Bp, fp), (Bx, fx), (By, fy), (v11.heap.size, fi), (v13.heap.size, fm)]) [.any, .any, .any, .any, .any, .any, .val (.bool true), .any, .any, .any, .any, .any, .any, .any, .any, .any, .any, .any, .any, .any, .any, .any, .any, .any, .any, .any, .any, .any, .any, .any, .any, .any, .any, .any, .any, .any, .any, .any, .any, .any, .any, .any, .any, .any, .any, .any, .any, .any, .any, .any, .any, .any, .any, .any, .any, .any, .any, .any, .any, .any, .any, .any, .any, .any, .any, .any, .any, .any, .any, .any, .any, .any, .any, .any, .any, .any, .any, .any, .any, .any, .any, .any, .any, .any, .any, .any, .any, .any, .any, .any, .any, .any, .any, .any, .any, .any, .any, .any, .any, .any, .any, .any, .any, .any, .any, .any, .any, .any, .any, .any, .any, .any, .any, .any, .any, .any, .val (fs.v), .val (fp.v), .val (fx.v), .val (fy.v), .val (fi.v), .val (fm.v), .val (fa.v), .val (fb.v), .val ((Fe.subF fa fb).v), .elems 7 [fs, fp, fx, fy, fi, fm, Fe.subF fa fb], .val (.bool true), .val (.bool true), .val (fa.v), .val (fi.v), .val ((Fe.mulF fa fi).v), .val (Fe.oneF.v), .val (.bool false), .val (fa.v), .val (.bool true), .val (.bool false), .val (.bool true), .val (.bool true), .val (.bool true), .val (fm.v), .val (fm.v), .val ((Fe.mulF fm fm).v), .val (Fe.oneF.v), .val (.bool true), .val (.bool true), .val (.bool true), .val (fa.v), .val (fb.v), .val ((Fe.mulF fa fb).v), .val (.bool true), .val (fa.v), .val (.bool true), .val (.bool true), .any, .any, .val (.bool true), .val (.bool true), .val (.bool true)]) (fun j =>  0) (Stored3 (Okb W13 [(w0.heap.size, fa), (w0.heap.size + 1, fb), (w0.heap.size + 1 + 1, fc), (Bs, fs), (Bp, fp), (Bx, fx), (By, fy), (v11.heap.size, fi), (v13.heap.size, fm)]) (fun j =>  Fe.zeroF)) (EnvB W13 W13.heap.size [(w0.heap.size, fa), (w0.heap.size + 1, fb), (w0.heap.size + 1 + 1, fc), (Bs, fs), (Bp, fp), (Bx, fx), (By, fy), (v11.heap.size, fi), (v13.heap.size, fm)] []) [] (by kernel_rfl) (by kernel_rfl) (by kernel_rfl) (hB13.grown (gb_drewn _)) (fun s hs => by cases hs) (by kernel_rfl) ?_ ?_
            · refine ⟨fe3_value rfl (by decide) fun a w h => ?_, ?_⟩
              · have e7 : a.tmps.getD 7 undef = .pointer (some ⟨Bs, 0, none⟩) := h.rest 7 (by kernel_rfl)
                have hb := h.base.e (Bs, fs) (by simp)
                have c0 : w.cell? ⟨Bs, 0, none⟩ = some (.int .u64 fs.x0) := hb.cell (i := 0) rfl
                have c1 : w.cell? ⟨Bs, 1, none⟩ = some (.int .u64 fs.x1) := hb.cell (i := 1) rfl
                have c2 : w.cell? ⟨Bs, 2, none⟩ = some (.int .u64 fs.x2) := hb.cell (i := 2) rfl
                have c3 : w.cell? ⟨Bs, 3, none⟩ = some (.int .u64 fs.x3) := hb.cell (i := 3) rfl
                have c4 : w.cell? ⟨Bs, 4, none⟩ = some (.int .u64 fs.x4) := hb.cell (i := 4) rfl
                refine ⟨wants_none rfl, .agg #[.int .u64 fs.x0, .int .u64 fs.x1, .int .u64 fs.x2, .int .u64 fs.x3, .int .u64 fs.x4], w, ?_, gb_refl _ _, rfl⟩
                clear h hb
                simp only [execOp, Act.eval, e7]
                go_simp
              refine ⟨fe3_value rfl (by decide) fun a w h => ?_, ?_⟩
              · have e8 : a.tmps.getD 8 undef = .pointer (some ⟨Bp, 0, none⟩) := h.rest 8 (by kernel_rfl)
                have hb := h.base.e (Bp, fp) (by simp)
                have c0 : w.cell? ⟨Bp, 0, none⟩ = some (.int .u64 fp.x0) := hb.cell (i := 0) rfl
                have c1 : w.cell? ⟨Bp, 1, none⟩ = some (.int .u64 fp.x1) := hb.cell (i := 1) rfl
                have c2 : w.cell? ⟨Bp, 2, none⟩ = some (.int .u64 fp.x2) := hb.cell (i := 2) rfl
                have c3 : w.cell? ⟨Bp, 3, none⟩ = some (.int .u64 fp.x3) := hb.cell (i := 3) rfl
                have c4 : w.cell? ⟨Bp, 4, none⟩ = some (.int .u64 fp.x4) := hb.cell (i := 4) rfl
                refine ⟨wants_none rfl, .agg #[.int .u64 fp.x0, .int .u64 fp.x1, .int .u64 fp.x2, .int .u64 fp.x3, .int .u64 fp.x4], w, ?_, gb_refl _ _, rfl⟩
                clear h hb
                simp only [execOp, Act.eval, e8]
                go_simp
              refine ⟨fe3_value rfl (by decide) fun a w h => ?_, ?_⟩
              · have e9 : a.tmps.getD 9 undef = .pointer (some ⟨Bx, 0, none⟩) := h.rest 9 (by kernel_rfl)
                have hb := h.base.e (Bx, fx) (by simp)
                have c0 : w.cell? ⟨Bx, 0, none⟩ = some (.int .u64 fx.x0) := hb.cell (i := 0) rfl
                have c1 : w.cell? ⟨Bx, 1, none⟩ = some (.int .u64 fx.x1) := hb.cell (i := 1) rfl
                have c2 : w.cell? ⟨Bx, 2, none⟩ = some (.int .u64 fx.x2) := hb.cell (i := 2) rfl
                have c3 : w.cell? ⟨Bx, 3, none⟩ = some (.int .u64 fx.x3) := hb.cell (i := 3) rfl
                have c4 : w.cell? ⟨Bx, 4, none⟩ = some (.int .u64 fx.x4) := hb.cell (i := 4) rfl
                refine ⟨wants_none rfl, .agg #[.int .u64 fx.x0, .int .u64 fx.x1, .int .u64 fx.x2, .int .u64 fx.x3, .int .u64 fx.x4], w, ?_, gb_refl _ _, rfl⟩
                clear h hb
                simp only [execOp, Act.eval, e9]
                go_simp
              refine ⟨fe3_value rfl (by decide) fun a w h => ?_, ?_⟩
              · have e10 : a.tmps.getD 10 undef = .pointer (some ⟨By, 0, none⟩) := h.rest 10 (by kernel_rfl)
                have hb := h.base.e (By, fy) (by simp)
                have c0 : w.cell? ⟨By, 0, none⟩ = some (.int .u64 fy.x0) := hb.cell (i := 0) rfl
                have c1 : w.cell? ⟨By, 1, none⟩ = some (.int .u64 fy.x1) := hb.cell (i := 1) rfl
                have c2 : w.cell? ⟨By, 2, none⟩ = some (.int .u64 fy.x2) := hb.cell (i := 2) rfl
                have c3 : w.cell? ⟨By, 3, none⟩ = some (.int .u64 fy.x3) := hb.cell (i := 3) rfl
                have c4 : w.cell? ⟨By, 4, none⟩ = some (.int .u64 fy.x4) := hb.cell (i := 4) rfl
                refine ⟨wants_none rfl, .agg #[.int .u64 fy.x0, .int .u64 fy.x1, .int .u64 fy.x2, .int .u64 fy.x3, .int .u64 fy.x4], w, ?_, gb_refl _ _, rfl⟩
                clear h hb
                simp only [execOp, Act.eval, e10]
                go_simp
              refine ⟨fe3_value rfl (by decide) fun a w h => ?_, ?_⟩
              · have e11 : a.tmps.getD 11 undef = .pointer (some ⟨v11.heap.size, 0, none⟩) := h.rest 11 (by kernel_rfl)
                have hb := h.base.e (v11.heap.size, fi) (by simp)
                have c0 : w.cell? ⟨v11.heap.size, 0, none⟩ = some (.int .u64 fi.x0) := hb.cell (i := 0) rfl
                have c1 : w.cell? ⟨v11.heap.size, 1, none⟩ = some (.int .u64 fi.x1) := hb.cell (i := 1) rfl
                have c2 : w.cell? ⟨v11.heap.size, 2, none⟩ = some (.int .u64 fi.x2) := hb.cell (i := 2) rfl
                have c3 : w.cell? ⟨v11.heap.size, 3, none⟩ = some (.int .u64 fi.x3) := hb.cell (i := 3) rfl
                have c4 : w.cell? ⟨v11.heap.size, 4, none⟩ = some (.int .u64 fi.x4) := hb.cell (i := 4) rfl
                refine ⟨wants_none rfl, .agg #[.int .u64 fi.x0, .int .u64 fi.x1, .int .u64 fi.x2, .int .u64 fi.x3, .int .u64 fi.x4], w, ?_, gb_refl _ _, rfl⟩
                clear h hb
                simp only [execOp, Act.eval, e11]
                go_simp
              refine ⟨fe3_value rfl (by decide) fun a w h => ?_, ?_⟩
              · have e12 : a.tmps.getD 12 undef = .pointer (some ⟨v13.heap.size, 0, none⟩) := h.rest 12 (by kernel_rfl)
                have hb := h.base.e (v13.heap.size, fm) (by simp)
                have c0 : w.cell? ⟨v13.heap.size, 0, none⟩ = some (.int .u64 fm.x0) := hb.cell (i := 0) rfl
                have c1 : w.cell? ⟨v13.heap.size, 1, none⟩ = some (.int .u64 fm.x1) := hb.cell (i := 1) rfl
                have c2 : w.cell? ⟨v13.heap.size, 2, none⟩ = some (.int .u64 fm.x2) := hb.cell (i := 2) rfl
                have c3 : w.cell? ⟨v13.heap.size, 3, none⟩ = some (.int .u64 fm.x3) := hb.cell (i := 3) rfl
                have c4 : w.cell? ⟨v13.heap.size, 4, none⟩ = some (.int .u64 fm.x4) := hb.cell (i := 4) rfl
                refine ⟨wants_none rfl, .agg #[.int .u64 fm.x0, .int .u64 fm.x1, .int .u64 fm.x2, .int .u64 fm.x3, .int .u64 fm.x4], w, ?_, gb_refl _ _, rfl⟩
                clear h hb
                simp only [execOp, Act.eval, e12]
                go_simp
              refine ⟨fe3_value rfl (by decide) fun a w h => ?_, ?_⟩
              · have e3 : a.tmps.getD 3 undef = .pointer (some ⟨w0.heap.size, 0, none⟩) := h.rest 3 (by kernel_rfl)
                have hb := h.base.e (w0.heap.size, fa) (by simp)
                have c0 : w.cell? ⟨w0.heap.size, 0, none⟩ = some (.int .u64 fa.x0) := hb.cell (i := 0) rfl
                have c1 : w.cell? ⟨w0.heap.size, 1, none⟩ = some (.int .u64 fa.x1) := hb.cell (i := 1) rfl
                have c2 : w.cell? ⟨w0.heap.size, 2, none⟩ = some (.int .u64 fa.x2) := hb.cell (i := 2) rfl
                have c3 : w.cell? ⟨w0.heap.size, 3, none⟩ = some (.int .u64 fa.x3) := hb.cell (i := 3) rfl
                have c4 : w.cell? ⟨w0.heap.size, 4, none⟩ = some (.int .u64 fa.x4) := hb.cell (i := 4) rfl
                refine ⟨wants_none rfl, .agg #[.int .u64 fa.x0, .int .u64 fa.x1, .int .u64 fa.x2, .int .u64 fa.x3, .int .u64 fa.x4], w, ?_, gb_refl _ _, rfl⟩
                clear h hb
                simp only [execOp, Act.eval, e3]
                go_simp
              refine ⟨fe3_value rfl (by decide) fun a w h => ?_, ?_⟩
              · have e4 : a.tmps.getD 4 undef = .pointer (some ⟨w0.heap.size + 1, 0, none⟩) := h.rest 4 (by kernel_rfl)
                have hb := h.base.e (w0.heap.size + 1, fb) (by simp)
                have c0 : w.cell? ⟨w0.heap.size + 1, 0, none⟩ = some (.int .u64 fb.x0) := hb.cell (i := 0) rfl
                have c1 : w.cell? ⟨w0.heap.size + 1, 1, none⟩ = some (.int .u64 fb.x1) := hb.cell (i := 1) rfl
                have c2 : w.cell? ⟨w0.heap.size + 1, 2, none⟩ = some (.int .u64 fb.x2) := hb.cell (i := 2) rfl
                have c3 : w.cell? ⟨w0.heap.size + 1, 3, none⟩ = some (.int .u64 fb.x3) := hb.cell (i := 3) rfl
                have c4 : w.cell? ⟨w0.heap.size + 1, 4, none⟩ = some (.int .u64 fb.x4) := hb.cell (i := 4) rfl
                refine ⟨wants_none rfl, .agg #[.int .u64 fb.x0, .int .u64 fb.x1, .int .u64 fb.x2, .int .u64 fb.x3, .int .u64 fb.x4], w, ?_, gb_refl _ _, rfl⟩
                clear h hb
                simp only [execOp, Act.eval, e4]
                go_simp
              refine ⟨fe3_call rfl (by decide) fun a w h => ?_, ?_⟩
              · have e122 : a.tmps.getD 122 undef = fa.v := h.dep 122 (by kernel_rfl)
                have e122x : a.tmps[122]?.getD undef = fa.v := by simpa using e122
                have e123 : a.tmps.getD 123 undef = fb.v := h.dep 123 (by kernel_rfl)
                have e123x : a.tmps[123]?.getD undef = fb.v := by simpa using e123
                have hb := h.base
                refine ⟨wants_none rfl, 12, #[fa.v, fb.v], ?_, ?_⟩
                · clear h hb e122 e123
                  go_simp
                · refine (sub_any fa fb w (HT13.out.grown hb.g) okfa okfb).mono ?_
                  intro e w1 hp
                  obtain ⟨rfl, hg⟩ := feOut_is hp
                  exact ⟨_, rfl, hg, rfl⟩
              refine ⟨fe3_value rfl (by decide) fun a w h => ?_, ?_⟩
              · have e116 : a.tmps.getD 116 undef = .agg #[.int .u64 fs.x0, .int .u64 fs.x1, .int .u64 fs.x2, .int .u64 fs.x3, .int .u64 fs.x4] := h.dep 116 (by kernel_rfl)
                have e117 : a.tmps.getD 117 undef = .agg #[.int .u64 fp.x0, .int .u64 fp.x1, .int .u64 fp.x2, .int .u64 fp.x3, .int .u64 fp.x4] := h.dep 117 (by kernel_rfl)
                have e118 : a.tmps.getD 118 undef = .agg #[.int .u64 fx.x0, .int .u64 fx.x1, .int .u64 fx.x2, .int .u64 fx.x3, .int .u64 fx.x4] := h.dep 118 (by kernel_rfl)
                have e119 : a.tmps.getD 119 undef = .agg #[.int .u64 fy.x0, .int .u64 fy.x1, .int .u64 fy.x2, .int .u64 fy.x3, .int .u64 fy.x4] := h.dep 119 (by kernel_rfl)
                have e120 : a.tmps.getD 120 undef = .agg #[.int .u64 fi.x0, .int .u64 fi.x1, .int .u64 fi.x2, .int .u64 fi.x3, .int .u64 fi.x4] := h.dep 120 (by kernel_rfl)
                have e121 : a.tmps.getD 121 undef = .agg #[.int .u64 fm.x0, .int .u64 fm.x1, .int .u64 fm.x2, .int .u64 fm.x3, .int .u64 fm.x4] := h.dep 121 (by kernel_rfl)
                have e124 : a.tmps.getD 124 undef = .agg #[.int .u64 (Fe.subF fa fb).x0, .int .u64 (Fe.subF fa fb).x1, .int .u64 (Fe.subF fa fb).x2, .int .u64 (Fe.subF fa fb).x3, .int .u64 (Fe.subF fa fb).x4] := h.dep 124 (by kernel_rfl)
                refine ⟨wants_none rfl, .slice (some ⟨w.heap.size, 0, none⟩) 7 7, w.alloc (.cells #[Value.int IntKind.u64 fs.x0, Value.int IntKind.u64 fs.x1, Value.int IntKind.u64 fs.x2, Value.int IntKind.u64 fs.x3, Value.int IntKind.u64 fs.x4, Value.int IntKind.u64 fp.x0, Value.int IntKind.u64 fp.x1, Value.int IntKind.u64 fp.x2, Value.int IntKind.u64 fp.x3, Value.int IntKind.u64 fp.x4, Value.int IntKind.u64 fx.x0, Value.int IntKind.u64 fx.x1, Value.int IntKind.u64 fx.x2, Value.int IntKind.u64 fx.x3, Value.int IntKind.u64 fx.x4, Value.int IntKind.u64 fy.x0, Value.int IntKind.u64 fy.x1, Value.int IntKind.u64 fy.x2, Value.int IntKind.u64 fy.x3, Value.int IntKind.u64 fy.x4, Value.int IntKind.u64 fi.x0, Value.int IntKind.u64 fi.x1, Value.int IntKind.u64 fi.x2, Value.int IntKind.u64 fi.x3, Value.int IntKind.u64 fi.x4, Value.int IntKind.u64 fm.x0, Value.int IntKind.u64 fm.x1, Value.int IntKind.u64 fm.x2, Value.int IntKind.u64 fm.x3, Value.int IntKind.u64 fm.x4, Value.int IntKind.u64 (Fe.subF fa fb).x0, Value.int IntKind.u64 (Fe.subF fa fb).x1, Value.int IntKind.u64 (Fe.subF fa fb).x2, Value.int IntKind.u64 (Fe.subF fa fb).x3, Value.int IntKind.u64 (Fe.subF fa fb).x4] 24), ?_, World.grownBy_alloc _ _ _, ⟨w.heap.size, rfl, Blk.new w (fesL [fs, fp, fx, fy, fi, fm, Fe.subF fa fb]) _⟩⟩
                clear h
                simp only [execOp, List.map_toArray, List.map_cons, List.map_nil, Act.eval, e116, e117, e118, e119, e120, e121, e124]
                go_simp
              refine ⟨fe3_call rfl (by decide) fun a w h => ?_, ?_⟩
              · obtain ⟨B125, e125, b125⟩ : ∃ PB, a.tmps.getD 125 undef = .slice (some ⟨PB, 0, none⟩) 7 7 ∧ Blk w PB 24 (fesL [fs, fp, fx, fy, fi, fm, Fe.subF fa fb]) := h.dep 125 (by kernel_rfl)
                have e125x : a.tmps[125]?.getD undef = .slice (some ⟨B125, 0, none⟩) 7 7 := by simpa using e125
                have hb := h.base
                refine ⟨wants_none rfl, 31, #[.slice (some ⟨B125, 0, none⟩) 7 7], ?_, ?_⟩
                · clear h hb e125 b125
                  go_simp
                · refine (right_val _ 7 [fs, fp, fx, fy, fi, fm, Fe.subF fa fb] true w rfl (by decide) (HRr.out) b125).mono ?_
                  intro e w1 hp
                  obtain ⟨rfl, hg⟩ := hp
                  exact ⟨_, rfl, hg, rfl⟩
              refine ⟨fe3_value rfl (by decide) fun a w h => ?_, ?_⟩
              · have e126 : a.tmps.getD 126 undef = .bool true := h.dep 126 (by kernel_rfl)
                refine ⟨wants_none rfl, .bool true, w, ?_, gb_refl _ _, rfl⟩
                clear h
                simp only [execOp, Act.eval, e126]
                go_simp
              refine ⟨fe3_value rfl (by decide) fun a w h => ?_, ?_⟩
              · have e127 : a.tmps.getD 127 undef = .bool true := h.dep 127 (by kernel_rfl)
                have e3 : a.tmps.getD 3 undef = .pointer (some ⟨w0.heap.size, 0, none⟩) := h.rest 3 (by kernel_rfl)
                have hb := h.base.e (w0.heap.size, fa) (by simp)
                have c0 : w.cell? ⟨w0.heap.size, 0, none⟩ = some (.int .u64 fa.x0) := hb.cell (i := 0) rfl
                have c1 : w.cell? ⟨w0.heap.size, 1, none⟩ = some (.int .u64 fa.x1) := hb.cell (i := 1) rfl
                have c2 : w.cell? ⟨w0.heap.size, 2, none⟩ = some (.int .u64 fa.x2) := hb.cell (i := 2) rfl
                have c3 : w.cell? ⟨w0.heap.size, 3, none⟩ = some (.int .u64 fa.x3) := hb.cell (i := 3) rfl
                have c4 : w.cell? ⟨w0.heap.size, 4, none⟩ = some (.int .u64 fa.x4) := hb.cell (i := 4) rfl
                refine ⟨wants_some (d := 127) rfl rfl (by rw [h.size]; show 127 < 158; decide) e127, .agg #[.int .u64 fa.x0, .int .u64 fa.x1, .int .u64 fa.x2, .int .u64 fa.x3, .int .u64 fa.x4], w, ?_, gb_refl _ _, rfl⟩
                clear h hb
                simp only [execOp, Act.eval, e3]
                go_simp
              refine ⟨fe3_value rfl (by decide) fun a w h => ?_, ?_⟩
              · have e127 : a.tmps.getD 127 undef = .bool true := h.dep 127 (by kernel_rfl)
                have e11 : a.tmps.getD 11 undef = .pointer (some ⟨v11.heap.size, 0, none⟩) := h.rest 11 (by kernel_rfl)
                have hb := h.base.e (v11.heap.size, fi) (by simp)
                have c0 : w.cell? ⟨v11.heap.size, 0, none⟩ = some (.int .u64 fi.x0) := hb.cell (i := 0) rfl
                have c1 : w.cell? ⟨v11.heap.size, 1, none⟩ = some (.int .u64 fi.x1) := hb.cell (i := 1) rfl
                have c2 : w.cell? ⟨v11.heap.size, 2, none⟩ = some (.int .u64 fi.x2) := hb.cell (i := 2) rfl
                have c3 : w.cell? ⟨v11.heap.size, 3, none⟩ = some (.int .u64 fi.x3) := hb.cell (i := 3) rfl
                have c4 : w.cell? ⟨v11.heap.size, 4, none⟩ = some (.int .u64 fi.x4) := hb.cell (i := 4) rfl
                refine ⟨wants_some (d := 127) rfl rfl (by rw [h.size]; show 127 < 158; decide) e127, .agg #[.int .u64 fi.x0, .int .u64 fi.x1, .int .u64 fi.x2, .int .u64 fi.x3, .int .u64 fi.x4], w, ?_, gb_refl _ _, rfl⟩
                clear h hb
                simp only [execOp, Act.eval, e11]
                go_simp
              refine ⟨fe3_call rfl (by decide) fun a w h => ?_, ?_⟩
              · have e127 : a.tmps.getD 127 undef = .bool true := h.dep 127 (by kernel_rfl)
                have e128 : a.tmps.getD 128 undef = fa.v := h.dep 128 (by kernel_rfl)
                have e128x : a.tmps[128]?.getD undef = fa.v := by simpa using e128
                have e129 : a.tmps.getD 129 undef = fi.v := h.dep 129 (by kernel_rfl)
                have e129x : a.tmps[129]?.getD undef = fi.v := by simpa using e129
                have hb := h.base
                refine ⟨wants_some (d := 127) rfl rfl (by rw [h.size]; show 127 < 158; decide) e127, 10, #[fa.v, fi.v], ?_, ?_⟩
                · clear h hb e128 e129
                  go_simp
                · refine (mul_fe fa fi w okfa okfi).mono ?_
                  intro e w1 hp
                  obtain ⟨rfl, hg⟩ := feOut_is hp
                  exact ⟨_, rfl, hg, rfl⟩
              refine ⟨fe3_call rfl (by decide) fun a w h => ?_, ?_⟩
              · have e127 : a.tmps.getD 127 undef = .bool true := h.dep 127 (by kernel_rfl)
                have hb := h.base
                refine ⟨wants_some (d := 127) rfl rfl (by rw [h.size]; show 127 < 158; decide) e127, 22, #[], ?_, ?_⟩
                · clear h hb
                  go_simp
                · refine (one_any w).mono ?_
                  intro e w1 hp
                  obtain ⟨rfl, hg⟩ := feOut_is hp
                  exact ⟨_, rfl, hg, rfl⟩
              refine ⟨fe3_call rfl (by decide) fun a w h => ?_, ?_⟩
              · have e127 : a.tmps.getD 127 undef = .bool true := h.dep 127 (by kernel_rfl)
                have e130 : a.tmps.getD 130 undef = (Fe.mulF fa fi).v := h.dep 130 (by kernel_rfl)
                have e130x : a.tmps[130]?.getD undef = (Fe.mulF fa fi).v := by simpa using e130
                have e131 : a.tmps.getD 131 undef = Fe.oneF.v := h.dep 131 (by kernel_rfl)
                have e131x : a.tmps[131]?.getD undef = Fe.oneF.v := by simpa using e131
                have hb := h.base
                refine ⟨wants_some (d := 127) rfl rfl (by rw [h.size]; show 127 < 158; decide) e127, 13, #[(Fe.mulF fa fi).v, Fe.oneF.v], ?_, ?_⟩
                · clear h hb e130 e131
                  go_simp
                · refine (same_val (Fe.mulF fa fi) Fe.oneF false w (Fe.mul_right _ _).ok one_right.ok (HI.out)).mono ?_
                  intro e w1 hp
                  obtain ⟨rfl, hg⟩ := hp
                  exact ⟨_, rfl, hg, rfl⟩
              refine ⟨fe3_value rfl (by decide) fun a w h => ?_, ?_⟩
              · have e127 : a.tmps.getD 127 undef = .bool true := h.dep 127 (by kernel_rfl)
                have e3 : a.tmps.getD 3 undef = .pointer (some ⟨w0.heap.size, 0, none⟩) := h.rest 3 (by kernel_rfl)
                have hb := h.base.e (w0.heap.size, fa) (by simp)
                have c0 : w.cell? ⟨w0.heap.size, 0, none⟩ = some (.int .u64 fa.x0) := hb.cell (i := 0) rfl
                have c1 : w.cell? ⟨w0.heap.size, 1, none⟩ = some (.int .u64 fa.x1) := hb.cell (i := 1) rfl
                have c2 : w.cell? ⟨w0.heap.size, 2, none⟩ = some (.int .u64 fa.x2) := hb.cell (i := 2) rfl
                have c3 : w.cell? ⟨w0.heap.size, 3, none⟩ = some (.int .u64 fa.x3) := hb.cell (i := 3) rfl
                have c4 : w.cell? ⟨w0.heap.size, 4, none⟩ = some (.int .u64 fa.x4) := hb.cell (i := 4) rfl
                refine ⟨wants_some (d := 127) rfl rfl (by rw [h.size]; show 127 < 158; decide) e127, .agg #[.int .u64 fa.x0, .int .u64 fa.x1, .int .u64 fa.x2, .int .u64 fa.x3, .int .u64 fa.x4], w, ?_, gb_refl _ _, rfl⟩
                clear h hb
                simp only [execOp, Act.eval, e3]
                go_simp
              refine ⟨fe3_call rfl (by decide) fun a w h => ?_, ?_⟩
              · have e127 : a.tmps.getD 127 undef = .bool true := h.dep 127 (by kernel_rfl)
                have e133 : a.tmps.getD 133 undef = fa.v := h.dep 133 (by kernel_rfl)
                have e133x : a.tmps[133]?.getD undef = fa.v := by simpa using e133
                have hb := h.base
                refine ⟨wants_some (d := 127) rfl rfl (by rw [h.size]; show 127 < 158; decide) e127, 24, #[fa.v], ?_, ?_⟩
                · clear h hb e133
                  go_simp
                · refine (zero_val fa true w okfa (HZa.out)).mono ?_
                  intro e w1 hp
                  obtain ⟨rfl, hg⟩ := hp
                  exact ⟨_, rfl, hg, rfl⟩
              refine ⟨fe3_value rfl (by decide) fun a w h => ?_, ?_⟩
              · have e127 : a.tmps.getD 127 undef = .bool true := h.dep 127 (by kernel_rfl)
                have e134 : a.tmps.getD 134 undef = .bool true := h.dep 134 (by kernel_rfl)
                refine ⟨wants_some (d := 127) rfl rfl (by rw [h.size]; show 127 < 158; decide) e127, .bool false, w, ?_, gb_refl _ _, rfl⟩
                clear h
                simp only [execOp, Act.eval, e134]
                go_simp
              refine ⟨fe3_value rfl (by decide) fun a w h => ?_, ?_⟩
              · have e127 : a.tmps.getD 127 undef = .bool true := h.dep 127 (by kernel_rfl)
                have e132 : a.tmps.getD 132 undef = .bool false := h.dep 132 (by kernel_rfl)
                have e135 : a.tmps.getD 135 undef = .bool false := h.dep 135 (by kernel_rfl)
                refine ⟨wants_some (d := 127) rfl rfl (by rw [h.size]; show 127 < 158; decide) e127, .bool true, w, ?_, gb_refl _ _, rfl⟩
                clear h
                simp only [execOp, Act.eval, e132, e135]
                go_simp
              refine ⟨fe3_value rfl (by decide) fun a w h => ?_, ?_⟩
              · have e127 : a.tmps.getD 127 undef = .bool true := h.dep 127 (by kernel_rfl)
                have e136 : a.tmps.getD 136 undef = .bool true := h.dep 136 (by kernel_rfl)
                refine ⟨wants_none rfl, .bool true, w, ?_, gb_refl _ _, rfl⟩
                clear h
                simp only [execOp, Act.eval, e127, e136]
                go_simp
              refine ⟨fe3_value rfl (by decide) fun a w h => ?_, ?_⟩
              · have e137 : a.tmps.getD 137 undef = .bool true := h.dep 137 (by kernel_rfl)
                refine ⟨wants_none rfl, .bool true, w, ?_, gb_refl _ _, rfl⟩
                clear h
                simp only [execOp, Act.eval, e137]
                go_simp
              refine ⟨fe3_value rfl (by decide) fun a w h => ?_, ?_⟩
              · have e138 : a.tmps.getD 138 undef = .bool true := h.dep 138 (by kernel_rfl)
                have e12 : a.tmps.getD 12 undef = .pointer (some ⟨v13.heap.size, 0, none⟩) := h.rest 12 (by kernel_rfl)
                have hb := h.base.e (v13.heap.size, fm) (by simp)
                have c0 : w.cell? ⟨v13.heap.size, 0, none⟩ = some (.int .u64 fm.x0) := hb.cell (i := 0) rfl
                have c1 : w.cell? ⟨v13.heap.size, 1, none⟩ = some (.int .u64 fm.x1) := hb.cell (i := 1) rfl
                have c2 : w.cell? ⟨v13.heap.size, 2, none⟩ = some (.int .u64 fm.x2) := hb.cell (i := 2) rfl
                have c3 : w.cell? ⟨v13.heap.size, 3, none⟩ = some (.int .u64 fm.x3) := hb.cell (i := 3) rfl
                have c4 : w.cell? ⟨v13.heap.size, 4, none⟩ = some (.int .u64 fm.x4) := hb.cell (i := 4) rfl
                refine ⟨wants_some (d := 138) rfl rfl (by rw [h.size]; show 138 < 158; decide) e138, .agg #[.int .u64 fm.x0, .int .u64 fm.x1, .int .u64 fm.x2, .int .u64 fm.x3, .int .u64 fm.x4], w, ?_, gb_refl _ _, rfl⟩
                clear h hb
                simp only [execOp, Act.eval, e12]
                go_simp
              refine ⟨fe3_value rfl (by decide) fun a w h => ?_, ?_⟩
              · have e138 : a.tmps.getD 138 undef = .bool true := h.dep 138 (by kernel_rfl)
                have e12 : a.tmps.getD 12 undef = .pointer (some ⟨v13.heap.size, 0, none⟩) := h.rest 12 (by kernel_rfl)
                have hb := h.base.e (v13.heap.size, fm) (by simp)
                have c0 : w.cell? ⟨v13.heap.size, 0, none⟩ = some (.int .u64 fm.x0) := hb.cell (i := 0) rfl
                have c1 : w.cell? ⟨v13.heap.size, 1, none⟩ = some (.int .u64 fm.x1) := hb.cell (i := 1) rfl
                have c2 : w.cell? ⟨v13.heap.size, 2, none⟩ = some (.int .u64 fm.x2) := hb.cell (i := 2) rfl
                have c3 : w.cell? ⟨v13.heap.size, 3, none⟩ = some (.int .u64 fm.x3) := hb.cell (i := 3) rfl
                have c4 : w.cell? ⟨v13.heap.size, 4, none⟩ = some (.int .u64 fm.x4) := hb.cell (i := 4) rfl
                refine ⟨wants_some (d := 138) rfl rfl (by rw [h.size]; show 138 < 158; decide) e138, .agg #[.int .u64 fm.x0, .int .u64 fm.x1, .int .u64 fm.x2, .int .u64 fm.x3, .int .u64 fm.x4], w, ?_, gb_refl _ _, rfl⟩
                clear h hb
                simp only [execOp, Act.eval, e12]
                go_simp
              refine ⟨fe3_call rfl (by decide) fun a w h => ?_, ?_⟩
              · have e138 : a.tmps.getD 138 undef = .bool true := h.dep 138 (by kernel_rfl)
                have e139 : a.tmps.getD 139 undef = fm.v := h.dep 139 (by kernel_rfl)
                have e139x : a.tmps[139]?.getD undef = fm.v := by simpa using e139
                have e140 : a.tmps.getD 140 undef = fm.v := h.dep 140 (by kernel_rfl)
                have e140x : a.tmps[140]?.getD undef = fm.v := by simpa using e140
                have hb := h.base
                refine ⟨wants_some (d := 138) rfl rfl (by rw [h.size]; show 138 < 158; decide) e138, 10, #[fm.v, fm.v], ?_, ?_⟩
                · clear h hb e139 e140
                  go_simp
                · refine (mul_fe fm fm w okfm okfm).mono ?_
                  intro e w1 hp
                  obtain ⟨rfl, hg⟩ := feOut_is hp
                  exact ⟨_, rfl, hg, rfl⟩
              refine ⟨fe3_call rfl (by decide) fun a w h => ?_, ?_⟩
              · have e138 : a.tmps.getD 138 undef = .bool true := h.dep 138 (by kernel_rfl)
                have hb := h.base
                refine ⟨wants_some (d := 138) rfl rfl (by rw [h.size]; show 138 < 158; decide) e138, 22, #[], ?_, ?_⟩
                · clear h hb
                  go_simp
                · refine (one_any w).mono ?_
                  intro e w1 hp
                  obtain ⟨rfl, hg⟩ := feOut_is hp
                  exact ⟨_, rfl, hg, rfl⟩
              refine ⟨fe3_call rfl (by decide) fun a w h => ?_, ?_⟩
              · have e138 : a.tmps.getD 138 undef = .bool true := h.dep 138 (by kernel_rfl)
                have e141 : a.tmps.getD 141 undef = (Fe.mulF fm fm).v := h.dep 141 (by kernel_rfl)
                have e141x : a.tmps[141]?.getD undef = (Fe.mulF fm fm).v := by simpa using e141
                have e142 : a.tmps.getD 142 undef = Fe.oneF.v := h.dep 142 (by kernel_rfl)
                have e142x : a.tmps[142]?.getD undef = Fe.oneF.v := by simpa using e142
                have hb := h.base
                refine ⟨wants_some (d := 138) rfl rfl (by rw [h.size]; show 138 < 158; decide) e138, 13, #[(Fe.mulF fm fm).v, Fe.oneF.v], ?_, ?_⟩
                · clear h hb e141 e142
                  go_simp
                · refine (same_val (Fe.mulF fm fm) Fe.oneF true w (Fe.mul_right _ _).ok one_right.ok (HM.out)).mono ?_
                  intro e w1 hp
                  obtain ⟨rfl, hg⟩ := hp
                  exact ⟨_, rfl, hg, rfl⟩
              refine ⟨fe3_value rfl (by decide) fun a w h => ?_, ?_⟩
              · have e138 : a.tmps.getD 138 undef = .bool true := h.dep 138 (by kernel_rfl)
                have e143 : a.tmps.getD 143 undef = .bool true := h.dep 143 (by kernel_rfl)
                refine ⟨wants_none rfl, .bool true, w, ?_, gb_refl _ _, rfl⟩
                clear h
                simp only [execOp, Act.eval, e138, e143]
                go_simp
              refine ⟨fe3_value rfl (by decide) fun a w h => ?_, ?_⟩
              · have e144 : a.tmps.getD 144 undef = .bool true := h.dep 144 (by kernel_rfl)
                refine ⟨wants_none rfl, .bool true, w, ?_, gb_refl _ _, rfl⟩
                clear h
                simp only [execOp, Act.eval, e144]
                go_simp
              refine ⟨fe3_value rfl (by decide) fun a w h => ?_, ?_⟩
              · have e145 : a.tmps.getD 145 undef = .bool true := h.dep 145 (by kernel_rfl)
                have e3 : a.tmps.getD 3 undef = .pointer (some ⟨w0.heap.size, 0, none⟩) := h.rest 3 (by kernel_rfl)
                have hb := h.base.e (w0.heap.size, fa) (by simp)
                have c0 : w.cell? ⟨w0.heap.size, 0, none⟩ = some (.int .u64 fa.x0) := hb.cell (i := 0) rfl
                have c1 : w.cell? ⟨w0.heap.size, 1, none⟩ = some (.int .u64 fa.x1) := hb.cell (i := 1) rfl
                have c2 : w.cell? ⟨w0.heap.size, 2, none⟩ = some (.int .u64 fa.x2) := hb.cell (i := 2) rfl
                have c3 : w.cell? ⟨w0.heap.size, 3, none⟩ = some (.int .u64 fa.x3) := hb.cell (i := 3) rfl
                have c4 : w.cell? ⟨w0.heap.size, 4, none⟩ = some (.int .u64 fa.x4) := hb.cell (i := 4) rfl
                refine ⟨wants_some (d := 145) rfl rfl (by rw [h.size]; show 145 < 158; decide) e145, .agg #[.int .u64 fa.x0, .int .u64 fa.x1, .int .u64 fa.x2, .int .u64 fa.x3, .int .u64 fa.x4], w, ?_, gb_refl _ _, rfl⟩
                clear h hb
                simp only [execOp, Act.eval, e3]
                go_simp
              refine ⟨fe3_value rfl (by decide) fun a w h => ?_, ?_⟩
              · have e145 : a.tmps.getD 145 undef = .bool true := h.dep 145 (by kernel_rfl)
                have e4 : a.tmps.getD 4 undef = .pointer (some ⟨w0.heap.size + 1, 0, none⟩) := h.rest 4 (by kernel_rfl)
                have hb := h.base.e (w0.heap.size + 1, fb) (by simp)
                have c0 : w.cell? ⟨w0.heap.size + 1, 0, none⟩ = some (.int .u64 fb.x0) := hb.cell (i := 0) rfl
                have c1 : w.cell? ⟨w0.heap.size + 1, 1, none⟩ = some (.int .u64 fb.x1) := hb.cell (i := 1) rfl
                have c2 : w.cell? ⟨w0.heap.size + 1, 2, none⟩ = some (.int .u64 fb.x2) := hb.cell (i := 2) rfl
                have c3 : w.cell? ⟨w0.heap.size + 1, 3, none⟩ = some (.int .u64 fb.x3) := hb.cell (i := 3) rfl
                have c4 : w.cell? ⟨w0.heap.size + 1, 4, none⟩ = some (.int .u64 fb.x4) := hb.cell (i := 4) rfl
                refine ⟨wants_some (d := 145) rfl rfl (by rw [h.size]; show 145 < 158; decide) e145, .agg #[.int .u64 fb.x0, .int .u64 fb.x1, .int .u64 fb.x2, .int .u64 fb.x3, .int .u64 fb.x4], w, ?_, gb_refl _ _, rfl⟩
                clear h hb
                simp only [execOp, Act.eval, e4]
                go_simp
              refine ⟨fe3_call rfl (by decide) fun a w h => ?_, ?_⟩
              · have e145 : a.tmps.getD 145 undef = .bool true := h.dep 145 (by kernel_rfl)
                have e146 : a.tmps.getD 146 undef = fa.v := h.dep 146 (by kernel_rfl)
                have e146x : a.tmps[146]?.getD undef = fa.v := by simpa using e146
                have e147 : a.tmps.getD 147 undef = fb.v := h.dep 147 (by kernel_rfl)
                have e147x : a.tmps[147]?.getD undef = fb.v := by simpa using e147
                have hb := h.base
                refine ⟨wants_some (d := 145) rfl rfl (by rw [h.size]; show 145 < 158; decide) e145, 10, #[fa.v, fb.v], ?_, ?_⟩
                · clear h hb e146 e147
                  go_simp
                · refine (mul_fe fa fb w okfa okfb).mono ?_
                  intro e w1 hp
                  obtain ⟨rfl, hg⟩ := feOut_is hp
                  exact ⟨_, rfl, hg, rfl⟩
              refine ⟨fe3_call rfl (by decide) fun a w h => ?_, ?_⟩
              · have e145 : a.tmps.getD 145 undef = .bool true := h.dep 145 (by kernel_rfl)
                have e148 : a.tmps.getD 148 undef = (Fe.mulF fa fb).v := h.dep 148 (by kernel_rfl)
                have e148x : a.tmps[148]?.getD undef = (Fe.mulF fa fb).v := by simpa using e148
                have hb := h.base
                refine ⟨wants_some (d := 145) rfl rfl (by rw [h.size]; show 145 < 158; decide) e145, 24, #[(Fe.mulF fa fb).v], ?_, ?_⟩
                · clear h hb e148
                  go_simp
                · refine (zero_val (Fe.mulF fa fb) true w (Fe.mul_right _ _).ok (HZab.out)).mono ?_
                  intro e w1 hp
                  obtain ⟨rfl, hg⟩ := hp
                  exact ⟨_, rfl, hg, rfl⟩
              refine ⟨fe3_value rfl (by decide) fun a w h => ?_, ?_⟩
              · have e145 : a.tmps.getD 145 undef = .bool true := h.dep 145 (by kernel_rfl)
                have e3 : a.tmps.getD 3 undef = .pointer (some ⟨w0.heap.size, 0, none⟩) := h.rest 3 (by kernel_rfl)
                have hb := h.base.e (w0.heap.size, fa) (by simp)
                have c0 : w.cell? ⟨w0.heap.size, 0, none⟩ = some (.int .u64 fa.x0) := hb.cell (i := 0) rfl
                have c1 : w.cell? ⟨w0.heap.size, 1, none⟩ = some (.int .u64 fa.x1) := hb.cell (i := 1) rfl
                have c2 : w.cell? ⟨w0.heap.size, 2, none⟩ = some (.int .u64 fa.x2) := hb.cell (i := 2) rfl
                have c3 : w.cell? ⟨w0.heap.size, 3, none⟩ = some (.int .u64 fa.x3) := hb.cell (i := 3) rfl
                have c4 : w.cell? ⟨w0.heap.size, 4, none⟩ = some (.int .u64 fa.x4) := hb.cell (i := 4) rfl
                refine ⟨wants_some (d := 145) rfl rfl (by rw [h.size]; show 145 < 158; decide) e145, .agg #[.int .u64 fa.x0, .int .u64 fa.x1, .int .u64 fa.x2, .int .u64 fa.x3, .int .u64 fa.x4], w, ?_, gb_refl _ _, rfl⟩
                clear h hb
                simp only [execOp, Act.eval, e3]
                go_simp
              refine ⟨fe3_call rfl (by decide) fun a w h => ?_, ?_⟩
              · have e145 : a.tmps.getD 145 undef = .bool true := h.dep 145 (by kernel_rfl)
                have e150 : a.tmps.getD 150 undef = fa.v := h.dep 150 (by kernel_rfl)
                have e150x : a.tmps[150]?.getD undef = fa.v := by simpa using e150
                have hb := h.base
                refine ⟨wants_some (d := 145) rfl rfl (by rw [h.size]; show 145 < 158; decide) e145, 24, #[fa.v], ?_, ?_⟩
                · clear h hb e150
                  go_simp
                · refine (zero_val fa true w okfa (HZa.out)).mono ?_
                  intro e w1 hp
                  obtain ⟨rfl, hg⟩ := hp
                  exact ⟨_, rfl, hg, rfl⟩
              refine ⟨fe3_value rfl (by decide) fun a w h => ?_, ?_⟩
              · have e145 : a.tmps.getD 145 undef = .bool true := h.dep 145 (by kernel_rfl)
                have e151 : a.tmps.getD 151 undef = .bool true := h.dep 151 (by kernel_rfl)
                refine ⟨wants_some (d := 145) rfl rfl (by rw [h.size]; show 145 < 158; decide) e145, .bool true, w, ?_, gb_refl _ _, rfl⟩
                clear h
                simp only [execOp, Act.eval, e151]
                go_simp
              refine ⟨flow3_skipped rfl (by decide) (fun w _ => trivial) fun a w h => ?_, ?_⟩
              · have e152 : a.tmps.getD 152 undef = .bool true := h.dep 152 (by kernel_rfl)
                exact not_wants (d := 152) rfl rfl (by rw [h.size]; show 152 < 158; decide) e152 (by decide)
              refine ⟨flow3_skipped rfl (by decide) (fun w _ => trivial) fun a w h => ?_, ?_⟩
              · have e152 : a.tmps.getD 152 undef = .bool true := h.dep 152 (by kernel_rfl)
                exact not_wants (d := 152) rfl rfl (by rw [h.size]; show 152 < 158; decide) e152 (by decide)
              refine ⟨fe3_value rfl (by decide) fun a w h => ?_, ?_⟩
              · have e145 : a.tmps.getD 145 undef = .bool true := h.dep 145 (by kernel_rfl)
                have e152 : a.tmps.getD 152 undef = .bool true := h.dep 152 (by kernel_rfl)
                refine ⟨wants_some (d := 145) rfl rfl (by rw [h.size]; show 145 < 158; decide) e145, .bool true, w, ?_, gb_refl _ _, rfl⟩
                clear h
                simp only [execOp, Act.eval, e152]
                go_simp
              refine ⟨fe3_value rfl (by decide) fun a w h => ?_, ?_⟩
              · have e145 : a.tmps.getD 145 undef = .bool true := h.dep 145 (by kernel_rfl)
                have e149 : a.tmps.getD 149 undef = .bool true := h.dep 149 (by kernel_rfl)
                have e155 : a.tmps.getD 155 undef = .bool true := h.dep 155 (by kernel_rfl)
                refine ⟨wants_some (d := 145) rfl rfl (by rw [h.size]; show 145 < 158; decide) e145, .bool true, w, ?_, gb_refl _ _, rfl⟩
                clear h
                simp only [execOp, Act.eval, e149, e155]
                go_simp
              refine ⟨fe3_value rfl (by decide) fun a w h => ?_, ?_⟩
              · have e145 : a.tmps.getD 145 undef = .bool true := h.dep 145 (by kernel_rfl)
                have e156 : a.tmps.getD 156 undef = .bool true := h.dep 156 (by kernel_rfl)
                refine ⟨wants_none rfl, .bool true, w, ?_, gb_refl _ _, rfl⟩
                clear h
                simp only [execOp, Act.eval, e145, e156]
                go_simp
              refine ⟨fe3_value rfl (by decide) fun a w h => ?_, ?_⟩
              · have e157 : a.tmps.getD 157 undef = .bool true := h.dep 157 (by kernel_rfl)
                refine ⟨wants_none rfl, .bool true, w, ?_, gb_refl _ _, rfl⟩
                clear h
                simp only [execOp, Act.eval, e157]
                go_simp
              trivial
            · intro q w hB hsz hdf hrest hslots hmems
              have e6 : q.tmps.getD 6 undef = .bool true := hslots 6 (by kernel_rfl)
              have G := gb_trans G13 hB.g
              replace hdf : q.defers = [] := hdf
              clear hB hsz hrest hslots hmems
              have e6x : q.tmps[6]?.getD undef = .bool true := by simpa using e6
              go_wp2_with fail
              refine bodyPost_ret (v := .bool true) ?_ hdf ⟨rfl, G⟩
              simp [results, Tryd.results5, go_sem, e6x]
          · have HZa : Hid (decide (Fe.m fa = 0) = false) := Lib.hid (df hza)
            have HI : Hid (decide (Fe.m (Fe.mulF fa fi) = Fe.m Fe.oneF) = true) := Lib.hid (by rw [hfie.out]; exact dt (Fe.ring_inv HRA.out hza))
            by_cases hzb : Fe.m fb = 0
            · have HZb : Hid (decide (Fe.m fb = 0) = true) := Lib.hid (dt hzb)
              have HZab : Hid (decide (Fe.m (Fe.mulF fa fb) = 0) = true) := Lib.hid (dt (Fe.ring_zero_r HRA.out HRB.out hzb))
              clear hza hzb
              refine wp_region_flow3 (items3 (Okb W13 [(w0.heap.size, fa), (w0.heap.size + 1, fb), (w0.heap.size + 1 + 1, fc), (Bs, fs), (Bp, fp), (Bx, fx), (By, fy), (v11.heap.size, fi), (v13.heap.size, fm)]) [.any, .any, .any, .any, .any, .any, .val (.bool true), .any, .any, .any, .any, .any, .any, .any, .any, .any, .any, .any, .any, .any, .any, .any, .any, .any, .any, .any, .any, .any, .any, .any, .any, .any, .any, .any, .any, .any, .any, .any, .any, .any, .any, .any, .any, .any, .any, .any, .any, .any, .any, .any, .any, .any, .any, .any, .any, .any, .any, .any, .any, .any, .any, .any, .any, .any, .any, .any, .any, .any, .any, .any, .any, .any, .any, .any, .any, .any, .any, .any, .any, .any, .any, .any, .any, .any, .any, .any, .any, .any, .any, .any, .any, .any, .any, .any, .any, .any, .any, .any, .any, .any, .any, .any, .any, .any, .any, .any, .any, .any, .any, .any, .any, .any, .any, .any, .any, .any, .val (fs.v), .val (fp.v), .val (fx.v), .val (fy.v), .val (fi.v), .val (fm.v), .val (fa.v), .val (fb.v), .val ((Fe.subF fa fb).v), .elems 7 [fs, fp, fx, fy, fi, fm, Fe.subF fa fb], .val (.bool true), .val (.bool true), .val (fa.v), .val (fi.v), .val ((Fe.mulF fa fi).v), .val (Fe.oneF.v), .val (.bool true), .val (fa.v), .val (.bool false), .val (.bool true), .val (.bool true), .val (.bool true), .val (.bool true), .val (fm.v), .val (fm.v), .val ((Fe.mulF fm fm).v), .val (Fe.oneF.v), .val (.bool true), .val (.bool true), .val (.bool true), .val (fa.v), .val (fb.v), .val ((Fe.mulF fa fb).v), .val (.bool true), .val (fa.v), .val (.bool false), .val (.bool false), .val (fb.v), .val (.bool true), .val (.bool true), .val (.bool true), .val (.bool true)]) (fun j =>  0) (Stored3 (Okb W13 [(w0.heap.size, fa), (w0.heap.size + 1, fb), (w0.heap.size + 1 + 1, fc), (Bs, fs), (Bp, fp), (Bx, fx), (By, fy), (v11.heap.size, fi), (v13.heap.size, fm)]) (fun j =>  Fe.zeroF)) (EnvB W13 W13.heap.size [(w0.heap.size, fa), (w0.heap.size + 1, fb), (w0.heap.size + 1 + 1, fc), (Bs, fs), (Bp, fp), (Bx, fx), (By, fy), (v11.heap.size, fi), (v13.heap.size, fm)] []) [] (by kernel_rfl) (by kernel_rfl) (by kernel_rfl) (hB13.grown (gb_drewn _)) (fun s hs => by cases hs) (by kernel_rfl) ?_ ?_
              · refine ⟨fe3_value rfl (by decide) fun a w h => ?_, ?_⟩
                · have e7 : a.tmps.getD 7 undef = .pointer (some ⟨Bs, 0, none⟩) := h.rest 7 (by kernel_rfl)
                  have hb := h.base.e (Bs, fs) (by simp)
                  have c0 : w.cell? ⟨Bs, 0, none⟩ = some (.int .u64 fs.x0) := hb.cell (i := 0) rfl
                  have c1 : w.cell? ⟨Bs, 1, none⟩ = some (.int .u64 fs.x1) := hb.cell (i := 1) rfl
                  have c2 : w.cell? ⟨Bs, 2, none⟩ = some (.int .u64 fs.x2) := hb.cell (i := 2) rfl
                  have c3 : w.cell? ⟨Bs, 3, none⟩ = some (.int .u64 fs.x3) := hb.cell (i := 3) rfl
                  have c4 : w.cell? ⟨Bs, 4, none⟩ = some (.int .u64 fs.x4) := hb.cell (i := 4) rfl
                  refine ⟨wants_none rfl, .agg #[.int .u64 fs.x0, .int .u64 fs.x1, .int .u64 fs.x2, .int .u64 fs.x3, .int .u64 fs.x4], w, ?_, gb_refl _ _, rfl⟩
                  clear h hb
                  simp only [execOp, Act.eval, e7]
                  go_simp
                refine ⟨fe3_value rfl (by decide) fun a w h => ?_, ?_⟩
                · have e8 : a.tmps.getD 8 undef = .pointer (some ⟨Bp, 0, none⟩) := h.rest 8 (by kernel_rfl)
                  have hb := h.base.e (Bp, fp) (by simp)
                  have c0 : w.cell? ⟨Bp, 0, none⟩ = some (.int .u64 fp.x0) := hb.cell (i := 0) rfl
                  have c1 : w.cell? ⟨Bp, 1, none⟩ = some (.int .u64 fp.x1) := hb.cell (i := 1) rfl
                  have c2 : w.cell? ⟨Bp, 2, none⟩ = some (.int .u64 fp.x2) := hb.cell (i := 2) rfl
                  have c3 : w.cell? ⟨Bp, 3, none⟩ = some (.int .u64 fp.x3) := hb.cell (i := 3) rfl
                  have c4 : w.cell? ⟨Bp, 4, none⟩ = some (.int .u64 fp.x4) := hb.cell (i := 4) rfl
                  refine ⟨wants_none rfl, .agg #[.int .u64 fp.x0, .int .u64 fp.x1, .int .u64 fp.x2, .int .u64 fp.x3, .int .u64 fp.x4], w, ?_, gb_refl _ _, rfl⟩
                  clear h hb
                  simp only [execOp, Act.eval, e8]
                  go_simp
                refine ⟨fe3_value rfl (by decide) fun a w h => ?_, ?_⟩
                · have e9 : a.tmps.getD 9 undef = .pointer (some ⟨Bx, 0, none⟩) := h.rest 9 (by kernel_rfl)
                  have hb := h.base.e (Bx, fx) (by simp)
                  have c0 : w.cell? ⟨Bx, 0, none⟩ = some (.int .u64 fx.x0) := hb.cell (i := 0) rfl
                  have c1 : w.cell? ⟨Bx, 1, none⟩ = some (.int .u64 fx.x1) := hb.cell (i := 1) rfl
                  have c2 : w.cell? ⟨Bx, 2, none⟩ = some (.int .u64 fx.x2) := hb.cell (i := 2) rfl
                  have c3 : w.cell? ⟨Bx, 3, none⟩ = some (.int .u64 fx.x3) := hb.cell (i := 3) rfl
                  have c4 : w.cell? ⟨Bx, 4, none⟩ = some (.int .u64 fx.x4) := hb.cell (i := 4) rfl
                  refine ⟨wants_none rfl, .agg #[.int .u64 fx.x0, .int .u64 fx.x1, .int .u64 fx.x2, .int .u64 fx.x3, .int .u64 fx.x4], w, ?_, gb_refl _ _, rfl⟩
                  clear h hb
                  simp only [execOp, Act.eval, e9]
                  go_simp
                refine ⟨fe3_value rfl (by decide) fun a w h => ?_, ?_⟩
                · have e10 : a.tmps.getD 10 undef = .pointer (some ⟨By, 0, none⟩) := h.rest 10 (by kernel_rfl)
                  have hb := h.base.e (By, fy) (by simp)
                  have c0 : w.cell? ⟨By, 0, none⟩ = some (.int .u64 fy.x0) := hb.cell (i := 0) rfl
                  have c1 : w.cell? ⟨By, 1, none⟩ = some (.int .u64 fy.x1) := hb.cell (i := 1) rfl
                  have c2 : w.cell? ⟨By, 2, none⟩ = some (.int .u64 fy.x2) := hb.cell (i := 2) rfl
                  have c3 : w.cell? ⟨By, 3, none⟩ = some (.int .u64 fy.x3) := hb.cell (i := 3) rfl
                  have c4 : w.cell? ⟨By, 4, none⟩ = some (.int .u64 fy.x4) := hb.cell (i := 4) rfl
                  refine ⟨wants_none rfl, .agg #[.int .u64 fy.x0, .int .u64 fy.x1, .int .u64 fy.x2, .int .u64 fy.x3, .int .u64 fy.x4], w, ?_, gb_refl _ _, rfl⟩
                  clear h hb
                  simp only [execOp, Act.eval, e10]
                  go_simp
                refine ⟨fe3_value rfl (by decide) fun a w h => ?_, ?_⟩
                · have e11 : a.tmps.getD 11 undef = .pointer (some ⟨v11.heap.size, 0, none⟩) := h.rest 11 (by kernel_rfl)
                  have hb := h.base.e (v11.heap.size, fi) (by simp)
                  have c0 : w.cell? ⟨v11.heap.size, 0, none⟩ = some (.int .u64 fi.x0) := hb.cell (i := 0) rfl
                  have c1 : w.cell? ⟨v11.heap.size, 1, none⟩ = some (.int .u64 fi.x1) := hb.cell (i := 1) rfl
                  have c2 : w.cell? ⟨v11.heap.size, 2, none⟩ = some (.int .u64 fi.x2) := hb.cell (i := 2) rfl
                  have c3 : w.cell? ⟨v11.heap.size, 3, none⟩ = some (.int .u64 fi.x3) := hb.cell (i := 3) rfl
                  have c4 : w.cell? ⟨v11.heap.size, 4, none⟩ = some (.int .u64 fi.x4) := hb.cell (i := 4) rfl
                  refine ⟨wants_none rfl, .agg #[.int .u64 fi.x0, .int .u64 fi.x1, .int .u64 fi.x2, .int .u64 fi.x3, .int .u64 fi.x4], w, ?_, gb_refl _ _, rfl⟩
                  clear h hb
                  simp only [execOp, Act.eval, e11]
                  go_simp
                refine ⟨fe3_value rfl (by decide) fun a w h => ?_, ?_⟩
                · have e12 : a.tmps.getD 12 undef = .pointer (some ⟨v13.heap.size, 0, none⟩) := h.rest 12 (by kernel_rfl)
                  have hb := h.base.e (v13.heap.size, fm) (by simp)
                  have c0 : w.cell? ⟨v13.heap.size, 0, none⟩ = some (.int .u64 fm.x0) := hb.cell (i := 0) rfl
                  have c1 : w.cell? ⟨v13.heap.size, 1, none⟩ = some (.int .u64 fm.x1) := hb.cell (i := 1) rfl
                  have c2 : w.cell? ⟨v13.heap.size, 2, none⟩ = some (.int .u64 fm.x2) := hb.cell (i := 2) rfl
                  have c3 : w.cell? ⟨v13.heap.size, 3, none⟩ = some (.int .u64 fm.x3) := hb.cell (i := 3) rfl
                  have c4 : w.cell? ⟨v13.heap.size, 4, none⟩ = some (.int .u64 fm.x4) := hb.cell (i := 4) rfl
                  refine ⟨wants_none rfl, .agg #[.int .u64 fm.x0, .int .u64 fm.x1, .int .u64 fm.x2, .int .u64 fm.x3, .int .u64 fm.x4], w, ?_, gb_refl _ _, rfl⟩
                  clear h hb
                  simp only [execOp, Act.eval, e12]
                  go_simp
                refine ⟨fe3_value rfl (by decide) fun a w h => ?_, ?_⟩
                · have e3 : a.tmps.getD 3 undef = .pointer (some ⟨w0.heap.size, 0, none⟩) := h.rest 3 (by kernel_rfl)
                  have hb := h.base.e (w0.heap.size, fa) (by simp)
                  have c0 : w.cell? ⟨w0.heap.size, 0, none⟩ = some (.int .u64 fa.x0) := hb.cell (i := 0) rfl
                  have c1 : w.cell? ⟨w0.heap.size, 1, none⟩ = some (.int .u64 fa.x1) := hb.cell (i := 1) rfl
                  have c2 : w.cell? ⟨w0.heap.size, 2, none⟩ = some (.int .u64 fa.x2) := hb.cell (i := 2) rfl
                  have c3 : w.cell? ⟨w0.heap.size, 3, none⟩ = some (.int .u64 fa.x3) := hb.cell (i := 3) rfl
                  have c4 : w.cell? ⟨w0.heap.size, 4, none⟩ = some (.int .u64 fa.x4) := hb.cell (i := 4) rfl
                  refine ⟨wants_none rfl, .agg #[.int .u64 fa.x0, .int .u64 fa.x1, .int .u64 fa.x2, .int .u64 fa.x3, .int .u64 fa.x4], w, ?_, gb_refl _ _, rfl⟩
                  clear h hb
                  simp only [execOp, Act.eval, e3]
                  go_simp
                refine ⟨fe3_value rfl (by decide) fun a w h => ?_, ?_⟩
                · have e4 : a.tmps.getD 4 undef = .pointer (some ⟨w0.heap.size + 1, 0, none⟩) := h.rest 4 (by kernel_rfl)
                  have hb := h.base.e (w0.heap.size + 1, fb) (by simp)
                  have c0 : w.cell? ⟨w0.heap.size + 1, 0, none⟩ = some (.int .u64 fb.x0) := hb.cell (i := 0) rfl
                  have c1 : w.cell? ⟨w0.heap.size + 1, 1, none⟩ = some (.int .u64 fb.x1) := hb.cell (i := 1) rfl
                  have c2 : w.cell? ⟨w0.heap.size + 1, 2, none⟩ = some (.int .u64 fb.x2) := hb.cell (i := 2) rfl
                  have c3 : w.cell? ⟨w0.heap.size + 1, 3, none⟩ = some (.int .u64 fb.x3) := hb.cell (i := 3) rfl
                  have c4 : w.cell? ⟨w0.heap.size + 1, 4, none⟩ = some (.int .u64 fb.x4) := hb.cell (i := 4) rfl
                  refine ⟨wants_none rfl, .agg #[.int .u64 fb.x0, .int .u64 fb.x1, .int .u64 fb.x2, .int .u64 fb.x3, .int .u64 fb.x4], w, ?_, gb_refl _ _, rfl⟩
                  clear h hb
                  simp only [execOp, Act.eval, e4]
                  go_simp
                refine ⟨fe3_call rfl (by decide) fun a w h => ?_, ?_⟩
                · have e122 : a.tmps.getD 122 undef = fa.v := h.dep 122 (by kernel_rfl)
                  have e122x : a.tmps[122]?.getD undef = fa.v := by simpa using e122
                  have e123 : a.tmps.getD 123 undef = fb.v := h.dep 123 (by kernel_rfl)
                  have e123x : a.tmps[123]?.getD undef = fb.v := by simpa using e123
                  have hb := h.base
                  refine ⟨wants_none rfl, 12, #[fa.v, fb.v], ?_, ?_⟩
                  · clear h hb e122 e123
                    go_simp
                  · refine (sub_any fa fb w (HT13.out.grown hb.g) okfa okfb).mono ?_
                    intro e w1 hp
                    obtain ⟨rfl, hg⟩ := feOut_is hp
                    exact ⟨_, rfl, hg, rfl⟩
                refine ⟨fe3_value rfl (by decide) fun a w h => ?_, ?_⟩
                · have e116 : a.tmps.getD 116 undef = .agg #[.int .u64 fs.x0, .int .u64 fs.x1, .int .u64 fs.x2, .int .u64 fs.x3, .int .u64 fs.x4] := h.dep 116 (by kernel_rfl)
                  have e117 : a.tmps.getD 117 undef = .agg #[.int .u64 fp.x0, .int .u64 fp.x1, .int .u64 fp.x2, .int .u64 fp.x3, .int .u64 fp.x4] := h.dep 117 (by kernel_rfl)
                  have e118 : a.tmps.getD 118 undef = .agg #[.int .u64 fx.x0, .int .u64 fx.x1, .int .u64 fx.x2, .int .u64 fx.x3, .int .u64 fx.x4] := h.dep 118 (by kernel_rfl)
                  have e119 : a.tmps.getD 119 undef = .agg #[.int .u64 fy.x0, .int .u64 fy.x1, .int .u64 fy.x2, .int .u64 fy.x3, .int .u64 fy.x4] := h.dep 119 (by kernel_rfl)
                  have e120 : a.tmps.getD 120 undef = .agg #[.int .u64 fi.x0, .int .u64 fi.x1, .int .u64 fi.x2, .int .u64 fi.x3, .int .u64 fi.x4] := h.dep 120 (by kernel_rfl)
                  have e121 : a.tmps.getD 121 undef = .agg #[.int .u64 fm.x0, .int .u64 fm.x1, .int .u64 fm.x2, .int .u64 fm.x3, .int .u64 fm.x4] := h.dep 121 (by kernel_rfl)
                  have e124 : a.tmps.getD 124 undef = .agg #[.int .u64 (Fe.subF fa fb).x0, .int .u64 (Fe.subF fa fb).x1, .int .u64 (Fe.subF fa fb).x2, .int .u64 (Fe.subF fa fb).x3, .int .u64 (Fe.subF fa fb).x4] := h.dep 124 (by kernel_rfl)
                  refine ⟨wants_none rfl, .slice (some ⟨w.heap.size, 0, none⟩) 7 7, w.alloc (.cells #[Value.int IntKind.u64 fs.x0, Value.int IntKind.u64 fs.x1, Value.int IntKind.u64 fs.x2, Value.int IntKind.u64 fs.x3, Value.int IntKind.u64 fs.x4, Value.int IntKind.u64 fp.x0, Value.int IntKind.u64 fp.x1, Value.int IntKind.u64 fp.x2, Value.int IntKind.u64 fp.x3, Value.int IntKind.u64 fp.x4, Value.int IntKind.u64 fx.x0, Value.int IntKind.u64 fx.x1, Value.int IntKind.u64 fx.x2, Value.int IntKind.u64 fx.x3, Value.int IntKind.u64 fx.x4, Value.int IntKind.u64 fy.x0, Value.int IntKind.u64 fy.x1, Value.int IntKind.u64 fy.x2, Value.int IntKind.u64 fy.x3, Value.int IntKind.u64 fy.x4, Value.int IntKind.u64 fi.x0, Value.int IntKind.u64 fi.x1, Value.int IntKind.u64 fi.x2, Value.int IntKind.u64 fi.x3, Value.int IntKind.u64 fi.x4, Value.int IntKind.u64 fm.x0, Value.int IntKind.u64 fm.x1, Value.int IntKind.u64 fm.x2, Value.int IntKind.u64 fm.x3, Value.int IntKind.u64 fm.x4, Value.int IntKind.u64 (Fe.subF fa fb).x0, Value.int IntKind.u64 (Fe.subF fa fb).x1, Value.int IntKind.u64 (Fe.subF fa fb).x2, Value.int IntKind.u64 (Fe.subF fa fb).x3, Value.int IntKind.u64 (Fe.subF fa fb).x4] 24), ?_, World.grownBy_alloc _ _ _, ⟨w.heap.size, rfl, Blk.new w (fesL [fs, fp, fx, fy, fi, fm, Fe.subF fa fb]) _⟩⟩
                  clear h
                  simp only [execOp, List.map_toArray, List.map_cons, List.map_nil, Act.eval, e116, e117, e118, e119, e120, e121, e124]
                  go_simp
                refine ⟨fe3_call rfl (by decide) fun a w h => ?_, ?_⟩
                · obtain ⟨B125, e125, b125⟩ : ∃ PB, a.tmps.getD 125 undef = .slice (some ⟨PB, 0, none⟩) 7 7 ∧ Blk w PB 24 (fesL [fs, fp, fx, fy, fi, fm, Fe.subF fa fb]) := h.dep 125 (by kernel_rfl)
                  have e125x : a.tmps[125]?.getD undef = .slice (some ⟨B125, 0, none⟩) 7 7 := by simpa using e125
                  have hb := h.base
                  refine ⟨wants_none rfl, 31, #[.slice (some ⟨B125, 0, none⟩) 7 7], ?_, ?_⟩
                  · clear h hb e125 b125
                    go_simp
                  · refine (right_val _ 7 [fs, fp, fx, fy, fi, fm, Fe.subF fa fb] true w rfl (by decide) (HRr.out) b125).mono ?_
                    intro e w1 hp
                    obtain ⟨rfl, hg⟩ := hp
                    exact ⟨_, rfl, hg, rfl⟩
                refine ⟨fe3_value rfl (by decide) fun a w h => ?_, ?_⟩
                · have e126 : a.tmps.getD 126 undef = .bool true := h.dep 126 (by kernel_rfl)
                  refine ⟨wants_none rfl, .bool true, w, ?_, gb_refl _ _, rfl⟩
                  clear h
                  simp only [execOp, Act.eval, e126]
                  go_simp
                refine ⟨fe3_value rfl (by decide) fun a w h => ?_, ?_⟩
                · have e127 : a.tmps.getD 127 undef = .bool true := h.dep 127 (by kernel_rfl)
                  have e3 : a.tmps.getD 3 undef = .pointer (some ⟨w0.heap.size, 0, none⟩) := h.rest 3 (by kernel_rfl)
                  have hb := h.base.e (w0.heap.size, fa) (by simp)
                  have c0 : w.cell? ⟨w0.heap.size, 0, none⟩ = some (.int .u64 fa.x0) := hb.cell (i := 0) rfl
                  have c1 : w.cell? ⟨w0.heap.size, 1, none⟩ = some (.int .u64 fa.x1) := hb.cell (i := 1) rfl
                  have c2 : w.cell? ⟨w0.heap.size, 2, none⟩ = some (.int .u64 fa.x2) := hb.cell (i := 2) rfl
                  have c3 : w.cell? ⟨w0.heap.size, 3, none⟩ = some (.int .u64 fa.x3) := hb.cell (i := 3) rfl
                  have c4 : w.cell? ⟨w0.heap.size, 4, none⟩ = some (.int .u64 fa.x4) := hb.cell (i := 4) rfl
                  refine ⟨wants_some (d := 127) rfl rfl (by rw [h.size]; show 127 < 158; decide) e127, .agg #[.int .u64 fa.x0, .int .u64 fa.x1, .int .u64 fa.x2, .int .u64 fa.x3, .int .u64 fa.x4], w, ?_, gb_refl _ _, rfl⟩
                  clear h hb
                  simp only [execOp, Act.eval, e3]
                  go_simp
                refine ⟨fe3_value rfl (by decide) fun a w h => ?_, ?_⟩
                · have e127 : a.tmps.getD 127 undef = .bool true := h.dep 127 (by kernel_rfl)
                  have e11 : a.tmps.getD 11 undef = .pointer (some ⟨v11.heap.size, 0, none⟩) := h.rest 11 (by kernel_rfl)
                  have hb := h.base.e (v11.heap.size, fi) (by simp)
                  have c0 : w.cell? ⟨v11.heap.size, 0, none⟩ = some (.int .u64 fi.x0) := hb.cell (i := 0) rfl
                  have c1 : w.cell? ⟨v11.heap.size, 1, none⟩ = some (.int .u64 fi.x1) := hb.cell (i := 1) rfl
                  have c2 : w.cell? ⟨v11.heap.size, 2, none⟩ = some (.int .u64 fi.x2) := hb.cell (i := 2) rfl
                  have c3 : w.cell? ⟨v11.heap.size, 3, none⟩ = some (.int .u64 fi.x3) := hb.cell (i := 3) rfl
                  have c4 : w.cell? ⟨v11.heap.size, 4, none⟩ = some (.int .u64 fi.x4) := hb.cell (i := 4) rfl
                  refine ⟨wants_some (d := 127) rfl rfl (by rw [h.size]; show 127 < 158; decide) e127, .agg #[.int .u64 fi.x0, .int .u64 fi.x1, .int .u64 fi.x2, .int .u64 fi.x3, .int .u64 fi.x4], w, ?_, gb_refl _ _, rfl⟩
                  clear h hb
                  simp only [execOp, Act.eval, e11]
                  go_simp
                refine ⟨fe3_call rfl (by decide) fun a w h => ?_, ?_⟩
                · have e127 : a.tmps.getD 127 undef = .bool true := h.dep 127 (by kernel_rfl)
                  have e128 : a.tmps.getD 128 undef = fa.v := h.dep 128 (by kernel_rfl)
                  have e128x : a.tmps[128]?.getD undef = fa.v := by simpa using e128
                  have e129 : a.tmps.getD 129 undef = fi.v := h.dep 129 (by kernel_rfl)
                  have e129x : a.tmps[129]?.getD undef = fi.v := by simpa using e129
                  have hb := h.base
                  refine ⟨wants_some (d := 127) rfl rfl (by rw [h.size]; show 127 < 158; decide) e127, 10, #[fa.v, fi.v], ?_, ?_⟩
                  · clear h hb e128 e129
                    go_simp
                  · refine (mul_fe fa fi w okfa okfi).mono ?_
                    intro e w1 hp
                    obtain ⟨rfl, hg⟩ := feOut_is hp
                    exact ⟨_, rfl, hg, rfl⟩
                refine ⟨fe3_call rfl (by decide) fun a w h => ?_, ?_⟩
                · have e127 : a.tmps.getD 127 undef = .bool true := h.dep 127 (by kernel_rfl)
                  have hb := h.base
                  refine ⟨wants_some (d := 127) rfl rfl (by rw [h.size]; show 127 < 158; decide) e127, 22, #[], ?_, ?_⟩
                  · clear h hb
                    go_simp
                  · refine (one_any w).mono ?_
                    intro e w1 hp
                    obtain ⟨rfl, hg⟩ := feOut_is hp
                    exact ⟨_, rfl, hg, rfl⟩
                refine ⟨fe3_call rfl (by decide) fun a w h => ?_, ?_⟩
                · have e127 : a.tmps.getD 127 undef = .bool true := h.dep 127 (by kernel_rfl)
                  have e130 : a.tmps.getD 130 undef = (Fe.mulF fa fi).v := h.dep 130 (by kernel_rfl)
                  have e130x : a.tmps[130]?.getD undef = (Fe.mulF fa fi).v := by simpa using e130
                  have e131 : a.tmps.getD 131 undef = Fe.oneF.v := h.dep 131 (by kernel_rfl)
                  have e131x : a.tmps[131]?.getD undef = Fe.oneF.v := by simpa using e131
                  have hb := h.base
                  refine ⟨wants_some (d := 127) rfl rfl (by rw [h.size]; show 127 < 158; decide) e127, 13, #[(Fe.mulF fa fi).v, Fe.oneF.v], ?_, ?_⟩
                  · clear h hb e130 e131
                    go_simp
                  · refine (same_val (Fe.mulF fa fi) Fe.oneF true w (Fe.mul_right _ _).ok one_right.ok (HI.out)).mono ?_
                    intro e w1 hp
                    obtain ⟨rfl, hg⟩ := hp
                    exact ⟨_, rfl, hg, rfl⟩
                refine ⟨fe3_value rfl (by decide) fun a w h => ?_, ?_⟩
                · have e127 : a.tmps.getD 127 undef = .bool true := h.dep 127 (by kernel_rfl)
                  have e3 : a.tmps.getD 3 undef = .pointer (some ⟨w0.heap.size, 0, none⟩) := h.rest 3 (by kernel_rfl)
                  have hb := h.base.e (w0.heap.size, fa) (by simp)
                  have c0 : w.cell? ⟨w0.heap.size, 0, none⟩ = some (.int .u64 fa.x0) := hb.cell (i := 0) rfl
                  have c1 : w.cell? ⟨w0.heap.size, 1, none⟩ = some (.int .u64 fa.x1) := hb.cell (i := 1) rfl
                  have c2 : w.cell? ⟨w0.heap.size, 2, none⟩ = some (.int .u64 fa.x2) := hb.cell (i := 2) rfl
                  have c3 : w.cell? ⟨w0.heap.size, 3, none⟩ = some (.int .u64 fa.x3) := hb.cell (i := 3) rfl
                  have c4 : w.cell? ⟨w0.heap.size, 4, none⟩ = some (.int .u64 fa.x4) := hb.cell (i := 4) rfl
                  refine ⟨wants_some (d := 127) rfl rfl (by rw [h.size]; show 127 < 158; decide) e127, .agg #[.int .u64 fa.x0, .int .u64 fa.x1, .int .u64 fa.x2, .int .u64 fa.x3, .int .u64 fa.x4], w, ?_, gb_refl _ _, rfl⟩
                  clear h hb
                  simp only [execOp, Act.eval, e3]
                  go_simp
                refine ⟨fe3_call rfl (by decide) fun a w h => ?_, ?_⟩
                · have e127 : a.tmps.getD 127 undef = .bool true := h.dep 127 (by kernel_rfl)
                  have e133 : a.tmps.getD 133 undef = fa.v := h.dep 133 (by kernel_rfl)
                  have e133x : a.tmps[133]?.getD undef = fa.v := by simpa using e133
                  have hb := h.base
                  refine ⟨wants_some (d := 127) rfl rfl (by rw [h.size]; show 127 < 158; decide) e127, 24, #[fa.v], ?_, ?_⟩
                  · clear h hb e133
                    go_simp
                  · refine (zero_val fa false w okfa (HZa.out)).mono ?_
                    intro e w1 hp
                    obtain ⟨rfl, hg⟩ := hp
                    exact ⟨_, rfl, hg, rfl⟩
                refine ⟨fe3_value rfl (by decide) fun a w h => ?_, ?_⟩
                · have e127 : a.tmps.getD 127 undef = .bool true := h.dep 127 (by kernel_rfl)
                  have e134 : a.tmps.getD 134 undef = .bool false := h.dep 134 (by kernel_rfl)
                  refine ⟨wants_some (d := 127) rfl rfl (by rw [h.size]; show 127 < 158; decide) e127, .bool true, w, ?_, gb_refl _ _, rfl⟩
                  clear h
                  simp only [execOp, Act.eval, e134]
                  go_simp
                refine ⟨fe3_value rfl (by decide) fun a w h => ?_, ?_⟩
                · have e127 : a.tmps.getD 127 undef = .bool true := h.dep 127 (by kernel_rfl)
                  have e132 : a.tmps.getD 132 undef = .bool true := h.dep 132 (by kernel_rfl)
                  have e135 : a.tmps.getD 135 undef = .bool true := h.dep 135 (by kernel_rfl)
                  refine ⟨wants_some (d := 127) rfl rfl (by rw [h.size]; show 127 < 158; decide) e127, .bool true, w, ?_, gb_refl _ _, rfl⟩
                  clear h
                  simp only [execOp, Act.eval, e132, e135]
                  go_simp
                refine ⟨fe3_value rfl (by decide) fun a w h => ?_, ?_⟩
                · have e127 : a.tmps.getD 127 undef = .bool true := h.dep 127 (by kernel_rfl)
                  have e136 : a.tmps.getD 136 undef = .bool true := h.dep 136 (by kernel_rfl)
                  refine ⟨wants_none rfl, .bool true, w, ?_, gb_refl _ _, rfl⟩
                  clear h
                  simp only [execOp, Act.eval, e127, e136]
                  go_simp
                refine ⟨fe3_value rfl (by decide) fun a w h => ?_, ?_⟩
                · have e137 : a.tmps.getD 137 undef = .bool true := h.dep 137 (by kernel_rfl)
                  refine ⟨wants_none rfl, .bool true, w, ?_, gb_refl _ _, rfl⟩
                  clear h
                  simp only [execOp, Act.eval, e137]
                  go_simp
                refine ⟨fe3_value rfl (by decide) fun a w h => ?_, ?_⟩
                · have e138 : a.tmps.getD 138 undef = .bool true := h.dep 138 (by kernel_rfl)
                  have e12 : a.tmps.getD 12 undef = .pointer (some ⟨v13.heap.size, 0, none⟩) := h.rest 12 (by kernel_rfl)
                  have hb := h.base.e (v13.heap.size, fm) (by simp)
                  have c0 : w.cell? ⟨v13.heap.size, 0, none⟩ = some (.int .u64 fm.x0) := hb.cell (i := 0) rfl
                  have c1 : w.cell? ⟨v13.heap.size, 1, none⟩ = some (.int .u64 fm.x1) := hb.cell (i := 1) rfl
                  have c2 : w.cell? ⟨v13.heap.size, 2, none⟩ = some (.int .u64 fm.x2) := hb.cell (i := 2) rfl
                  have c3 : w.cell? ⟨v13.heap.size, 3, none⟩ = some (.int .u64 fm.x3) := hb.cell (i := 3) rfl
                  have c4 : w.cell? ⟨v13.heap.size, 4, none⟩ = some (.int .u64 fm.x4) := hb.cell (i := 4) rfl
                  refine ⟨wants_some (d := 138) rfl rfl (by rw [h.size]; show 138 < 158; decide) e138, .agg #[.int .u64 fm.x0, .int .u64 fm.x1, .int .u64 fm.x2, .int .u64 fm.x3, .int .u64 fm.x4], w, ?_, gb_refl _ _, rfl⟩
                  clear h hb
                  simp only [execOp, Act.eval, e12]
                  go_simp
                refine ⟨fe3_value rfl (by decide) fun a w h => ?_, ?_⟩
                · have e138 : a.tmps.getD 138 undef = .bool true := h.dep 138 (by kernel_rfl)
                  have e12 : a.tmps.getD 12 undef = .pointer (some ⟨v13.heap.size, 0, none⟩) := h.rest 12 (by kernel_rfl)
                  have hb := h.base.e (v13.heap.size, fm) (by simp)
                  have c0 : w.cell? ⟨v13.heap.size, 0, none⟩ = some (.int .u64 fm.x0) := hb.cell (i := 0) rfl
                  have c1 : w.cell? ⟨v13.heap.size, 1, none⟩ = some (.int .u64 fm.x1) := hb.cell (i := 1) rfl
                  have c2 : w.cell? ⟨v13.heap.size, 2, none⟩ = some (.int .u64 fm.x2) := hb.cell (i := 2) rfl
                  have c3 : w.cell? ⟨v13.heap.size, 3, none⟩ = some (.int .u64 fm.x3) := hb.cell (i := 3) rfl
                  have c4 : w.cell? ⟨v13.heap.size, 4, none⟩ = some (.int .u64 fm.x4) := hb.cell (i := 4) rfl
                  refine ⟨wants_some (d := 138) rfl rfl (by rw [h.size]; show 138 < 158; decide) e138, .agg #[.int .u64 fm.x0, .int .u64 fm.x1, .int .u64 fm.x2, .int .u64 fm.x3, .int .u64 fm.x4], w, ?_, gb_refl _ _, rfl⟩
                  clear h hb
                  simp only [execOp, Act.eval, e12]
                  go_simp
                refine ⟨fe3_call rfl (by decide) fun a w h => ?_, ?_⟩
                · have e138 : a.tmps.getD 138 undef = .bool true := h.dep 138 (by kernel_rfl)
                  have e139 : a.tmps.getD 139 undef = fm.v := h.dep 139 (by kernel_rfl)
                  have e139x : a.tmps[139]?.getD undef = fm.v := by simpa using e139
                  have e140 : a.tmps.getD 140 undef = fm.v := h.dep 140 (by kernel_rfl)
                  have e140x : a.tmps[140]?.getD undef = fm.v := by simpa using e140
                  have hb := h.base
                  refine ⟨wants_some (d := 138) rfl rfl (by rw [h.size]; show 138 < 158; decide) e138, 10, #[fm.v, fm.v], ?_, ?_⟩
                  · clear h hb e139 e140
                    go_simp
                  · refine (mul_fe fm fm w okfm okfm).mono ?_
                    intro e w1 hp
                    obtain ⟨rfl, hg⟩ := feOut_is hp
                    exact ⟨_, rfl, hg, rfl⟩
                refine ⟨fe3_call rfl (by decide) fun a w h => ?_, ?_⟩
                · have e138 : a.tmps.getD 138 undef = .bool true := h.dep 138 (by kernel_rfl)
                  have hb := h.base
                  refine ⟨wants_some (d := 138) rfl rfl (by rw [h.size]; show 138 < 158; decide) e138, 22, #[], ?_, ?_⟩
                  · clear h hb
                    go_simp
                  · refine (one_any w).mono ?_
                    intro e w1 hp
                    obtain ⟨rfl, hg⟩ := feOut_is hp
                    exact ⟨_, rfl, hg, rfl⟩
                refine ⟨fe3_call rfl (by decide) fun a w h => ?_, ?_⟩
                · have e138 : a.tmps.getD 138 undef = .bool true := h.dep 138 (by kernel_rfl)
                  have e141 : a.tmps.getD 141 undef = (Fe.mulF fm fm).v := h.dep 141 (by kernel_rfl)
                  have e141x : a.tmps[141]?.getD undef = (Fe.mulF fm fm).v := by simpa using e141
                  have e142 : a.tmps.getD 142 undef = Fe.oneF.v := h.dep 142 (by kernel_rfl)
                  have e142x : a.tmps[142]?.getD undef = Fe.oneF.v := by simpa using e142
                  have hb := h.base
                  refine ⟨wants_some (d := 138) rfl rfl (by rw [h.size]; show 138 < 158; decide) e138, 13, #[(Fe.mulF fm fm).v, Fe.oneF.v], ?_, ?_⟩
                  · clear h hb e141 e142
                    go_simp
                  · refine (same_val (Fe.mulF fm fm) Fe.oneF true w (Fe.mul_right _ _).ok one_right.ok (HM.out)).mono ?_
                    intro e w1 hp
                    obtain ⟨rfl, hg⟩ := hp
                    exact ⟨_, rfl, hg, rfl⟩
                refine ⟨fe3_value rfl (by decide) fun a w h => ?_, ?_⟩
                · have e138 : a.tmps.getD 138 undef = .bool true := h.dep 138 (by kernel_rfl)
                  have e143 : a.tmps.getD 143 undef = .bool true := h.dep 143 (by kernel_rfl)
                  refine ⟨wants_none rfl, .bool true, w, ?_, gb_refl _ _, rfl⟩
                  clear h
                  simp only [execOp, Act.eval, e138, e143]
                  go_simp
                refine ⟨fe3_value rfl (by decide) fun a w h => ?_, ?_⟩
                · have e144 : a.tmps.getD 144 undef = .bool true := h.dep 144 (by kernel_rfl)
                  refine ⟨wants_none rfl, .bool true, w, ?_, gb_refl _ _, rfl⟩
                  clear h
                  simp only [execOp, Act.eval, e144]
                  go_simp
                refine ⟨fe3_value rfl (by decide) fun a w h => ?_, ?_⟩
                · have e145 : a.tmps.getD 145 undef = .bool true := h.dep 145 (by kernel_rfl)
                  have e3 : a.tmps.getD 3 undef = .pointer (some ⟨w0.heap.size, 0, none⟩) := h.rest 3 (by kernel_rfl)
                  have hb := h.base.e (w0.heap.size, fa) (by simp)
                  have c0 : w.cell? ⟨w0.heap.size, 0, none⟩ = some (.int .u64 fa.x0) := hb.cell (i := 0) rfl
                  have c1 : w.cell? ⟨w0.heap.size, 1, none⟩ = some (.int .u64 fa.x1) := hb.cell (i := 1) rfl
                  have c2 : w.cell? ⟨w0.heap.size, 2, none⟩ = some (.int .u64 fa.x2) := hb.cell (i := 2) rfl
                  have c3 : w.cell? ⟨w0.heap.size, 3, none⟩ = some (.int .u64 fa.x3) := hb.cell (i := 3) rfl
                  have c4 : w.cell? ⟨w0.heap.size, 4, none⟩ = some (.int .u64 fa.x4) := hb.cell (i := 4) rfl
                  refine ⟨wants_some (d := 145) rfl rfl (by rw [h.size]; show 145 < 158; decide) e145, .agg #[.int .u64 fa.x0, .int .u64 fa.x1, .int .u64 fa.x2, .int .u64 fa.x3, .int .u64 fa.x4], w, ?_, gb_refl _ _, rfl⟩
                  clear h hb
                  simp only [execOp, Act.eval, e3]
                  go_simp
                refine ⟨fe3_value rfl (by decide) fun a w h => ?_, ?_⟩
                · have e145 : a.tmps.getD 145 undef = .bool true := h.dep 145 (by kernel_rfl)
                  have e4 : a.tmps.getD 4 undef = .pointer (some ⟨w0.heap.size + 1, 0, none⟩) := h.rest 4 (by kernel_rfl)
                  have hb := h.base.e (w0.heap.size + 1, fb) (by simp)
                  have c0 : w.cell? ⟨w0.heap.size + 1, 0, none⟩ = some (.int .u64 fb.x0) := hb.cell (i := 0) rfl
                  have c1 : w.cell? ⟨w0.heap.size + 1, 1, none⟩ = some (.int .u64 fb.x1) := hb.cell (i := 1) rfl
                  have c2 : w.cell? ⟨w0.heap.size + 1, 2, none⟩ = some (.int .u64 fb.x2) := hb.cell (i := 2) rfl
                  have c3 : w.cell? ⟨w0.heap.size + 1, 3, none⟩ = some (.int .u64 fb.x3) := hb.cell (i := 3) rfl
                  have c4 : w.cell? ⟨w0.heap.size + 1, 4, none⟩ = some (.int .u64 fb.x4) := hb.cell (i := 4) rfl
                  refine ⟨wants_some (d := 145) rfl rfl (by rw [h.size]; show 145 < 158; decide) e145, .agg #[.int .u64 fb.x0, .int .u64 fb.x1, .int .u64 fb.x2, .int .u64 fb.x3, .int .u64 fb.x4], w, ?_, gb_refl _ _, rfl⟩
                  clear h hb
                  simp only [execOp, Act.eval, e4]
                  go_simp
                refine ⟨fe3_call rfl (by decide) fun a w h => ?_, ?_⟩
                · have e145 : a.tmps.getD 145 undef = .bool true := h.dep 145 (by kernel_rfl)
                  have e146 : a.tmps.getD 146 undef = fa.v := h.dep 146 (by kernel_rfl)
                  have e146x : a.tmps[146]?.getD undef = fa.v := by simpa using e146
                  have e147 : a.tmps.getD 147 undef = fb.v := h.dep 147 (by kernel_rfl)
                  have e147x : a.tmps[147]?.getD undef = fb.v := by simpa using e147
                  have hb := h.base
                  refine ⟨wants_some (d := 145) rfl rfl (by rw [h.size]; show 145 < 158; decide) e145, 10, #[fa.v, fb.v], ?_, ?_⟩
                  · clear h hb e146 e147
                    go_simp
                  · refine (mul_fe fa fb w okfa okfb).mono ?_
                    intro e w1 hp
                    obtain ⟨rfl, hg⟩ := feOut_is hp
                    exact ⟨_, rfl, hg, rfl⟩
                refine ⟨fe3_call rfl (by decide) fun a w h => ?_, ?_⟩
                · have e145 : a.tmps.getD 145 undef = .bool true := h.dep 145 (by kernel_rfl)
                  have e148 : a.tmps.getD 148 undef = (Fe.mulF fa fb).v := h.dep 148 (by kernel_rfl)
                  have e148x : a.tmps[148]?.getD undef = (Fe.mulF fa fb).v := by simpa using e148
                  have hb := h.base
                  refine ⟨wants_some (d := 145) rfl rfl (by rw [h.size]; show 145 < 158; decide) e145, 24, #[(Fe.mulF fa fb).v], ?_, ?_⟩
                  · clear h hb e148
                    go_simp
                  · refine (zero_val (Fe.mulF fa fb) true w (Fe.mul_right _ _).ok (HZab.out)).mono ?_
                    intro e w1 hp
                    obtain ⟨rfl, hg⟩ := hp
                    exact ⟨_, rfl, hg, rfl⟩
                refine ⟨fe3_value rfl (by decide) fun a w h => ?_, ?_⟩
                · have e145 : a.tmps.getD 145 undef = .bool true := h.dep 145 (by kernel_rfl)
                  have e3 : a.tmps.getD 3 undef = .pointer (some ⟨w0.heap.size, 0, none⟩) := h.rest 3 (by kernel_rfl)
                  have hb := h.base.e (w0.heap.size, fa) (by simp)
                  have c0 : w.cell? ⟨w0.heap.size, 0, none⟩ = some (.int .u64 fa.x0) := hb.cell (i := 0) rfl
                  have c1 : w.cell? ⟨w0.heap.size, 1, none⟩ = some (.int .u64 fa.x1) := hb.cell (i := 1) rfl
                  have c2 : w.cell? ⟨w0.heap.size, 2, none⟩ = some (.int .u64 fa.x2) := hb.cell (i := 2) rfl
                  have c3 : w.cell? ⟨w0.heap.size, 3, none⟩ = some (.int .u64 fa.x3) := hb.cell (i := 3) rfl
                  have c4 : w.cell? ⟨w0.heap.size, 4, none⟩ = some (.int .u64 fa.x4) := hb.cell (i := 4) rfl
                  refine ⟨wants_some (d := 145) rfl rfl (by rw [h.size]; show 145 < 158; decide) e145, .agg #[.int .u64 fa.x0, .int .u64 fa.x1, .int .u64 fa.x2, .int .u64 fa.x3, .int .u64 fa.x4], w, ?_, gb_refl _ _, rfl⟩
                  clear h hb
                  simp only [execOp, Act.eval, e3]
                  go_simp
                refine ⟨fe3_call rfl (by decide) fun a w h => ?_, ?_⟩
                · have e145 : a.tmps.getD 145 undef = .bool true := h.dep 145 (by kernel_rfl)
                  have e150 : a.tmps.getD 150 undef = fa.v := h.dep 150 (by kernel_rfl)
                  have e150x : a.tmps[150]?.getD undef = fa.v := by simpa using e150
                  have hb := h.base
                  refine ⟨wants_some (d := 145) rfl rfl (by rw [h.size]; show 145 < 158; decide) e145, 24, #[fa.v], ?_, ?_⟩
                  · clear h hb e150
                    go_simp
                  · refine (zero_val fa false w okfa (HZa.out)).mono ?_
                    intro e w1 hp
                    obtain ⟨rfl, hg⟩ := hp
                    exact ⟨_, rfl, hg, rfl⟩
                refine ⟨fe3_value rfl (by decide) fun a w h => ?_, ?_⟩
                · have e145 : a.tmps.getD 145 undef = .bool true := h.dep 145 (by kernel_rfl)
                  have e151 : a.tmps.getD 151 undef = .bool false := h.dep 151 (by kernel_rfl)
                  refine ⟨wants_some (d := 145) rfl rfl (by rw [h.size]; show 145 < 158; decide) e145, .bool false, w, ?_, gb_refl _ _, rfl⟩
                  clear h
                  simp only [execOp, Act.eval, e151]
                  go_simp
                refine ⟨fe3_value rfl (by decide) fun a w h => ?_, ?_⟩
                · have e152 : a.tmps.getD 152 undef = .bool false := h.dep 152 (by kernel_rfl)
                  have e4 : a.tmps.getD 4 undef = .pointer (some ⟨w0.heap.size + 1, 0, none⟩) := h.rest 4 (by kernel_rfl)
                  have hb := h.base.e (w0.heap.size + 1, fb) (by simp)
                  have c0 : w.cell? ⟨w0.heap.size + 1, 0, none⟩ = some (.int .u64 fb.x0) := hb.cell (i := 0) rfl
                  have c1 : w.cell? ⟨w0.heap.size + 1, 1, none⟩ = some (.int .u64 fb.x1) := hb.cell (i := 1) rfl
                  have c2 : w.cell? ⟨w0.heap.size + 1, 2, none⟩ = some (.int .u64 fb.x2) := hb.cell (i := 2) rfl
                  have c3 : w.cell? ⟨w0.heap.size + 1, 3, none⟩ = some (.int .u64 fb.x3) := hb.cell (i := 3) rfl
                  have c4 : w.cell? ⟨w0.heap.size + 1, 4, none⟩ = some (.int .u64 fb.x4) := hb.cell (i := 4) rfl
                  refine ⟨wants_some (d := 152) rfl rfl (by rw [h.size]; show 152 < 158; decide) e152, .agg #[.int .u64 fb.x0, .int .u64 fb.x1, .int .u64 fb.x2, .int .u64 fb.x3, .int .u64 fb.x4], w, ?_, gb_refl _ _, rfl⟩
                  clear h hb
                  simp only [execOp, Act.eval, e4]
                  go_simp
                refine ⟨fe3_call rfl (by decide) fun a w h => ?_, ?_⟩
                · have e152 : a.tmps.getD 152 undef = .bool false := h.dep 152 (by kernel_rfl)
                  have e153 : a.tmps.getD 153 undef = fb.v := h.dep 153 (by kernel_rfl)
                  have e153x : a.tmps[153]?.getD undef = fb.v := by simpa using e153
                  have hb := h.base
                  refine ⟨wants_some (d := 152) rfl rfl (by rw [h.size]; show 152 < 158; decide) e152, 24, #[fb.v], ?_, ?_⟩
                  · clear h hb e153
                    go_simp
                  · refine (zero_val fb true w okfb (HZb.out)).mono ?_
                    intro e w1 hp
                    obtain ⟨rfl, hg⟩ := hp
                    exact ⟨_, rfl, hg, rfl⟩
                refine ⟨fe3_value rfl (by decide) fun a w h => ?_, ?_⟩
                · have e145 : a.tmps.getD 145 undef = .bool true := h.dep 145 (by kernel_rfl)
                  have e152 : a.tmps.getD 152 undef = .bool false := h.dep 152 (by kernel_rfl)
                  have e154 : a.tmps.getD 154 undef = .bool true := h.dep 154 (by kernel_rfl)
                  refine ⟨wants_some (d := 145) rfl rfl (by rw [h.size]; show 145 < 158; decide) e145, .bool true, w, ?_, gb_refl _ _, rfl⟩
                  clear h
                  simp only [execOp, Act.eval, e152, e154]
                  go_simp
                refine ⟨fe3_value rfl (by decide) fun a w h => ?_, ?_⟩
                · have e145 : a.tmps.getD 145 undef = .bool true := h.dep 145 (by kernel_rfl)
                  have e149 : a.tmps.getD 149 undef = .bool true := h.dep 149 (by kernel_rfl)
                  have e155 : a.tmps.getD 155 undef = .bool true := h.dep 155 (by kernel_rfl)
                  refine ⟨wants_some (d := 145) rfl rfl (by rw [h.size]; show 145 < 158; decide) e145, .bool true, w, ?_, gb_refl _ _, rfl⟩
                  clear h
                  simp only [execOp, Act.eval, e149, e155]
                  go_simp
                refine ⟨fe3_value rfl (by decide) fun a w h => ?_, ?_⟩
                · have e145 : a.tmps.getD 145 undef = .bool true := h.dep 145 (by kernel_rfl)
                  have e156 : a.tmps.getD 156 undef = .bool true := h.dep 156 (by kernel_rfl)
                  refine ⟨wants_none rfl, .bool true, w, ?_, gb_refl _ _, rfl⟩
                  clear h
                  simp only [execOp, Act.eval, e145, e156]
                  go_simp
                refine ⟨fe3_value rfl (by decide) fun a w h => ?_, ?_⟩
                · have e157 : a.tmps.getD 157 undef = .bool true := h.dep 157 (by kernel_rfl)
                  refine ⟨wants_none rfl, .bool true, w, ?_, gb_refl _ _, rfl⟩
                  clear h
                  simp only [execOp, Act.eval, e157]
                  go_simp
                trivial
              · intro q w hB hsz hdf hrest hslots hmems
                have e6 : q.tmps.getD 6 undef = .bool true := hslots 6 (by kernel_rfl)
                have G := gb_trans G13 hB.g
                replace hdf : q.defers = [] := hdf
                clear hB hsz hrest hslots hmems
                have e6x : q.tmps[6]?.getD undef = .bool true := by simpa using e6
                go_wp2_with fail
                refine bodyPost_ret (v := .bool true) ?_ hdf ⟨rfl, G⟩
                simp [results, Tryd.results5, go_sem, e6x]
            · have HZb : Hid (decide (Fe.m fb = 0) = false) := Lib.hid (df hzb)
              have HZab : Hid (decide (Fe.m (Fe.mulF fa fb) = 0) = false) := Lib.hid (df (Fe.ring_ne HRA.out HRB.out hza hzb))
              clear hza hzb
              refine wp_region_flow3 (items3 (Okb W13 [(w0.heap.size, fa), (w0.heap.size + 1, fb), (w0.heap.size + 1 + 1, fc), (Bs, fs), (Bp, fp), (Bx, fx), (By, fy), (v11.heap.size, fi), (v13.heap.size, fm)]) [.any, .any, .any, .any, .any, .any, .val (.bool true), .any, .any, .any, .any, .any, .any, .any, .any, .any, .any, .any, .any, .any, .any, .any, .any, .any, .any, .any, .any, .any, .any, .any, .any, .any, .any, .any, .any, .any, .any, .any, .any, .any, .any, .any, .any, .any, .any, .any, .any, .any, .any, .any, .any, .any, .any, .any, .any, .any, .any, .any, .any, .any, .any, .any, .any, .any, .any, .any, .any, .any, .any, .any, .any, .any, .any, .any, .any, .any, .any, .any, .any, .any, .any, .any, .any, .any, .any, .any, .any, .any, .any, .any, .any, .any, .any, .any, .any, .any, .any, .any, .any, .any, .any, .any, .any, .any, .any, .any, .any, .any, .any, .any, .any, .any, .any, .any, .any, .any, .val (fs.v), .val (fp.v), .val (fx.v), .val (fy.v), .val (fi.v), .val (fm.v), .val (fa.v), .val (fb.v), .val ((Fe.subF fa fb).v), .elems 7 [fs, fp, fx, fy, fi, fm, Fe.subF fa fb], .val (.bool true), .val (.bool true), .val (fa.v), .val (fi.v), .val ((Fe.mulF fa fi).v), .val (Fe.oneF.v), .val (.bool true), .val (fa.v), .val (.bool false), .val (.bool true), .val (.bool true), .val (.bool true), .val (.bool true), .val (fm.v), .val (fm.v), .val ((Fe.mulF fm fm).v), .val (Fe.oneF.v), .val (.bool true), .val (.bool true), .val (.bool true), .val (fa.v), .val (fb.v), .val ((Fe.mulF fa fb).v), .val (.bool false), .val (fa.v), .val (.bool false), .val (.bool false), .val (fb.v), .val (.bool false), .val (.bool false), .val (.bool true), .val (.bool true)]) (fun j =>  0) (Stored3 (Okb W13 [(w0.heap.size, fa), (w0.heap.size + 1, fb), (w0.heap.size + 1 + 1, fc), (Bs, fs), (Bp, fp), (Bx, fx), (By, fy), (v11.heap.size, fi), (v13.heap.size, fm)]) (fun j =>  Fe.zeroF)) (EnvB W13 W13.heap.size [(w0.heap.size, fa), (w0.heap.size + 1, fb), (w0.heap.size + 1 + 1, fc), (Bs, fs), (Bp, fp), (Bx, fx), (By, fy), (v11.heap.size, fi), (v13.heap.size, fm)] []) [] (by kernel_rfl) (by kernel_rfl) (by kernel_rfl) (hB13.grown (gb_drewn _)) (fun s hs => by cases hs) (by kernel_rfl) ?_ ?_
              · refine ⟨fe3_value rfl (by decide) fun a w h => ?_, ?_⟩
                · have e7 : a.tmps.getD 7 undef = .pointer (some ⟨Bs, 0, none⟩) := h.rest 7 (by kernel_rfl)
                  have hb := h.base.e (Bs, fs) (by simp)
                  have c0 : w.cell? ⟨Bs, 0, none⟩ = some (.int .u64 fs.x0) := hb.cell (i := 0) rfl
                  have c1 : w.cell? ⟨Bs, 1, none⟩ = some (.int .u64 fs.x1) := hb.cell (i := 1) rfl
                  have c2 : w.cell? ⟨Bs, 2, none⟩ = some (.int .u64 fs.x2) := hb.cell (i := 2) rfl
                  have c3 : w.cell? ⟨Bs, 3, none⟩ = some (.int .u64 fs.x3) := hb.cell (i := 3) rfl
                  have c4 : w.cell? ⟨Bs, 4, none⟩ = some (.int .u64 fs.x4) := hb.cell (i := 4) rfl
                  refine ⟨wants_none rfl, .agg #[.int .u64 fs.x0, .int .u64 fs.x1, .int .u64 fs.x2, .int .u64 fs.x3, .int .u64 fs.x4], w, ?_, gb_refl _ _, rfl⟩
                  clear h hb
                  simp only [execOp, Act.eval, e7]
                  go_simp
                refine ⟨fe3_value rfl (by decide) fun a w h => ?_, ?_⟩
                · have e8 : a.tmps.getD 8 undef = .pointer (some ⟨Bp, 0, none⟩) := h.rest 8 (by kernel_rfl)
                  have hb := h.base.e (Bp, fp) (by simp)
                  have c0 : w.cell? ⟨Bp, 0, none⟩ = some (.int .u64 fp.x0) := hb.cell (i := 0) rfl
                  have c1 : w.cell? ⟨Bp, 1, none⟩ = some (.int .u64 fp.x1) := hb.cell (i := 1) rfl
                  have c2 : w.cell? ⟨Bp, 2, none⟩ = some (.int .u64 fp.x2) := hb.cell (i := 2) rfl
                  have c3 : w.cell? ⟨Bp, 3, none⟩ = some (.int .u64 fp.x3) := hb.cell (i := 3) rfl
                  have c4 : w.cell? ⟨Bp, 4, none⟩ = some (.int .u64 fp.x4) := hb.cell (i := 4) rfl
                  refine ⟨wants_none rfl, .agg #[.int .u64 fp.x0, .int .u64 fp.x1, .int .u64 fp.x2, .int .u64 fp.x3, .int .u64 fp.x4], w, ?_, gb_refl _ _, rfl⟩
                  clear h hb
                  simp only [execOp, Act.eval, e8]
                  go_simp
                refine ⟨fe3_value rfl (by decide) fun a w h => ?_, ?_⟩
                · have e9 : a.tmps.getD 9 undef = .pointer (some ⟨Bx, 0, none⟩) := h.rest 9 (by kernel_rfl)
                  have hb := h.base.e (Bx, fx) (by simp)
                  have c0 : w.cell? ⟨Bx, 0, none⟩ = some (.int .u64 fx.x0) := hb.cell (i := 0) rfl
                  have c1 : w.cell? ⟨Bx, 1, none⟩ = some (.int .u64 fx.x1) := hb.cell (i := 1) rfl
                  have c2 : w.cell? ⟨Bx, 2, none⟩ = some (.int .u64 fx.x2) := hb.cell (i := 2) rfl
                  have c3 : w.cell? ⟨Bx, 3, none⟩ = some (.int .u64 fx.x3) := hb.cell (i := 3) rfl
                  have c4 : w.cell? ⟨Bx, 4, none⟩ = some (.int .u64 fx.x4) := hb.cell (i := 4) rfl
                  refine ⟨wants_none rfl, .agg #[.int .u64 fx.x0, .int .u64 fx.x1, .int .u64 fx.x2, .int .u64 fx.x3, .int .u64 fx.x4], w, ?_, gb_refl _ _, rfl⟩
                  clear h hb
                  simp only [execOp, Act.eval, e9]
                  go_simp
                refine ⟨fe3_value rfl (by decide) fun a w h => ?_, ?_⟩
                · have e10 : a.tmps.getD 10 undef = .pointer (some ⟨By, 0, none⟩) := h.rest 10 (by kernel_rfl)
                  have hb := h.base.e (By, fy) (by simp)
                  have c0 : w.cell? ⟨By, 0, none⟩ = some (.int .u64 fy.x0) := hb.cell (i := 0) rfl
                  have c1 : w.cell? ⟨By, 1, none⟩ = some (.int .u64 fy.x1) := hb.cell (i := 1) rfl
                  have c2 : w.cell? ⟨By, 2, none⟩ = some (.int .u64 fy.x2) := hb.cell (i := 2) rfl
                  have c3 : w.cell? ⟨By, 3, none⟩ = some (.int .u64 fy.x3) := hb.cell (i := 3) rfl
                  have c4 : w.cell? ⟨By, 4, none⟩ = some (.int .u64 fy.x4) := hb.cell (i := 4) rfl
                  refine ⟨wants_none rfl, .agg #[.int .u64 fy.x0, .int .u64 fy.x1, .int .u64 fy.x2, .int .u64 fy.x3, .int .u64 fy.x4], w, ?_, gb_refl _ _, rfl⟩
                  clear h hb
                  simp only [execOp, Act.eval, e10]
                  go_simp
                refine ⟨fe3_value rfl (by decide) fun a w h => ?_, ?_⟩
                · have e11 : a.tmps.getD 11 undef = .pointer (some ⟨v11.heap.size, 0, none⟩) := h.rest 11 (by kernel_rfl)
                  have hb := h.base.e (v11.heap.size, fi) (by simp)
                  have c0 : w.cell? ⟨v11.heap.size, 0, none⟩ = some (.int .u64 fi.x0) := hb.cell (i := 0) rfl
                  have c1 : w.cell? ⟨v11.heap.size, 1, none⟩ = some (.int .u64 fi.x1) := hb.cell (i := 1) rfl
                  have c2 : w.cell? ⟨v11.heap.size, 2, none⟩ = some (.int .u64 fi.x2) := hb.cell (i := 2) rfl
                  have c3 : w.cell? ⟨v11.heap.size, 3, none⟩ = some (.int .u64 fi.x3) := hb.cell (i := 3) rfl
                  have c4 : w.cell? ⟨v11.heap.size, 4, none⟩ = some (.int .u64 fi.x4) := hb.cell (i := 4) rfl
                  refine ⟨wants_none rfl, .agg #[.int .u64 fi.x0, .int .u64 fi.x1, .int .u64 fi.x2, .int .u64 fi.x3, .int .u64 fi.x4], w, ?_, gb_refl _ _, rfl⟩
                  clear h hb
                  simp only [execOp, Act.eval, e11]
                  go_simp
                refine ⟨fe3_value rfl (by decide) fun a w h => ?_, ?_⟩
                · have e12 : a.tmps.getD 12 undef = .pointer (some ⟨v13.heap.size, 0, none⟩) := h.rest 12 (by kernel_rfl)
                  have hb := h.base.e (v13.heap.size, fm) (by simp)
                  have c0 : w.cell? ⟨v13.heap.size, 0, none⟩ = some (.int .u64 fm.x0) := hb.cell (i := 0) rfl
                  have c1 : w.cell? ⟨v13.heap.size, 1, none⟩ = some (.int .u64 fm.x1) := hb.cell (i := 1) rfl
                  have c2 : w.cell? ⟨v13.heap.size, 2, none⟩ = some (.int .u64 fm.x2) := hb.cell (i := 2) rfl
                  have c3 : w.cell? ⟨v13.heap.size, 3, none⟩ = some (.int .u64 fm.x3) := hb.cell (i := 3) rfl
                  have c4 : w.cell? ⟨v13.heap.size, 4, none⟩ = some (.int .u64 fm.x4) := hb.cell (i := 4) rfl
                  refine ⟨wants_none rfl, .agg #[.int .u64 fm.x0, .int .u64 fm.x1, .int .u64 fm.x2, .int .u64 fm.x3, .int .u64 fm.x4], w, ?_, gb_refl _ _, rfl⟩
                  clear h hb
                  simp only [execOp, Act.eval, e12]
                  go_simp
                refine ⟨fe3_value rfl (by decide) fun a w h => ?_, ?_⟩
                · have e3 : a.tmps.getD 3 undef = .pointer (some ⟨w0.heap.size, 0, none⟩) := h.rest 3 (by kernel_rfl)
                  have hb := h.base.e (w0.heap.size, fa) (by simp)
                  have c0 : w.cell? ⟨w0.heap.size, 0, none⟩ = some (.int .u64 fa.x0) := hb.cell (i := 0) rfl
                  have c1 : w.cell? ⟨w0.heap.size, 1, none⟩ = some (.int .u64 fa.x1) := hb.cell (i := 1) rfl
                  have c2 : w.cell? ⟨w0.heap.size, 2, none⟩ = some (.int .u64 fa.x2) := hb.cell (i := 2) rfl
                  have c3 : w.cell? ⟨w0.heap.size, 3, none⟩ = some (.int .u64 fa.x3) := hb.cell (i := 3) rfl
                  have c4 : w.cell? ⟨w0.heap.size, 4, none⟩ = some (.int .u64 fa.x4) := hb.cell (i := 4) rfl
                  refine ⟨wants_none rfl, .agg #[.int .u64 fa.x0, .int .u64 fa.x1, .int .u64 fa.x2, .int .u64 fa.x3, .int .u64 fa.x4], w, ?_, gb_refl _ _, rfl⟩
                  clear h hb
                  simp only [execOp, Act.eval, e3]
                  go_simp
                refine ⟨fe3_value rfl (by decide) fun a w h => ?_, ?_⟩
                · have e4 : a.tmps.getD 4 undef = .pointer (some ⟨w0.heap.size + 1, 0, none⟩) := h.rest 4 (by kernel_rfl)
                  have hb := h.base.e (w0.heap.size + 1, fb) (by simp)
                  have c0 : w.cell? ⟨w0.heap.size + 1, 0, none⟩ = some (.int .u64 fb.x0) := hb.cell (i := 0) rfl
                  have c1 : w.cell? ⟨w0.heap.size + 1, 1, none⟩ = some (.int .u64 fb.x1) := hb.cell (i := 1) rfl
                  have c2 : w.cell? ⟨w0.heap.size + 1, 2, none⟩ = some (.int .u64 fb.x2) := hb.cell (i := 2) rfl
                  have c3 : w.cell? ⟨w0.heap.size + 1, 3, none⟩ = some (.int .u64 fb.x3) := hb.cell (i := 3) rfl
                  have c4 : w.cell? ⟨w0.heap.size + 1, 4, none⟩ = some (.int .u64 fb.x4) := hb.cell (i := 4) rfl
                  refine ⟨wants_none rfl, .agg #[.int .u64 fb.x0, .int .u64 fb.x1, .int .u64 fb.x2, .int .u64 fb.x3, .int .u64 fb.x4], w, ?_, gb_refl _ _, rfl⟩
                  clear h hb
                  simp only [execOp, Act.eval, e4]
                  go_simp
                refine ⟨fe3_call rfl (by decide) fun a w h => ?_, ?_⟩
                · have e122 : a.tmps.getD 122 undef = fa.v := h.dep 122 (by kernel_rfl)
                  have e122x : a.tmps[122]?.getD undef = fa.v := by simpa using e122
                  have e123 : a.tmps.getD 123 undef = fb.v := h.dep 123 (by kernel_rfl)
                  have e123x : a.tmps[123]?.getD undef = fb.v := by simpa using e123
                  have hb := h.base
                  refine ⟨wants_none rfl, 12, #[fa.v, fb.v], ?_, ?_⟩
                  · clear h hb e122 e123
                    go_simp
                  · refine (sub_any fa fb w (HT13.out.grown hb.g) okfa okfb).mono ?_
                    intro e w1 hp
                    obtain ⟨rfl, hg⟩ := feOut_is hp
                    exact ⟨_, rfl, hg, rfl⟩
                refine ⟨fe3_value rfl (by decide) fun a w h => ?_, ?_⟩
                · have e116 : a.tmps.getD 116 undef = .agg #[.int .u64 fs.x0, .int .u64 fs.x1, .int .u64 fs.x2, .int .u64 fs.x3, .int .u64 fs.x4] := h.dep 116 (by kernel_rfl)
                  have e117 : a.tmps.getD 117 undef = .agg #[.int .u64 fp.x0, .int .u64 fp.x1, .int .u64 fp.x2, .int .u64 fp.x3, .int .u64 fp.x4] := h.dep 117 (by kernel_rfl)
                  have e118 : a.tmps.getD 118 undef = .agg #[.int .u64 fx.x0, .int .u64 fx.x1, .int .u64 fx.x2, .int .u64 fx.x3, .int .u64 fx.x4] := h.dep 118 (by kernel_rfl)
                  have e119 : a.tmps.getD 119 undef = .agg #[.int .u64 fy.x0, .int .u64 fy.x1, .int .u64 fy.x2, .int .u64 fy.x3, .int .u64 fy.x4] := h.dep 119 (by kernel_rfl)
                  have e120 : a.tmps.getD 120 undef = .agg #[.int .u64 fi.x0, .int .u64 fi.x1, .int .u64 fi.x2, .int .u64 fi.x3, .int .u64 fi.x4] := h.dep 120 (by kernel_rfl)
                  have e121 : a.tmps.getD 121 undef = .agg #[.int .u64 fm.x0, .int .u64 fm.x1, .int .u64 fm.x2, .int .u64 fm.x3, .int .u64 fm.x4] := h.dep 121 (by kernel_rfl)
                  have e124 : a.tmps.getD 124 undef = .agg #[.int .u64 (Fe.subF fa fb).x0, .int .u64 (Fe.subF fa fb).x1, .int .u64 (Fe.subF fa fb).x2, .int .u64 (Fe.subF fa fb).x3, .int .u64 (Fe.subF fa fb).x4] := h.dep 124 (by kernel_rfl)
                  refine ⟨wants_none rfl, .slice (some ⟨w.heap.size, 0, none⟩) 7 7, w.alloc (.cells #[Value.int IntKind.u64 fs.x0, Value.int IntKind.u64 fs.x1, Value.int IntKind.u64 fs.x2, Value.int IntKind.u64 fs.x3, Value.int IntKind.u64 fs.x4, Value.int IntKind.u64 fp.x0, Value.int IntKind.u64 fp.x1, Value.int IntKind.u64 fp.x2, Value.int IntKind.u64 fp.x3, Value.int IntKind.u64 fp.x4, Value.int IntKind.u64 fx.x0, Value.int IntKind.u64 fx.x1, Value.int IntKind.u64 fx.x2, Value.int IntKind.u64 fx.x3, Value.int IntKind.u64 fx.x4, Value.int IntKind.u64 fy.x0, Value.int IntKind.u64 fy.x1, Value.int IntKind.u64 fy.x2, Value.int IntKind.u64 fy.x3, Value.int IntKind.u64 fy.x4, Value.int IntKind.u64 fi.x0, Value.int IntKind.u64 fi.x1, Value.int IntKind.u64 fi.x2, Value.int IntKind.u64 fi.x3, Value.int IntKind.u64 fi.x4, Value.int IntKind.u64 fm.x0, Value.int IntKind.u64 fm.x1, Value.int IntKind.u64 fm.x2, Value.int IntKind.u64 fm.x3, Value.int IntKind.u64 fm.x4, Value.int IntKind.u64 (Fe.subF fa fb).x0, Value.int IntKind.u64 (Fe.subF fa fb).x1, Value.int IntKind.u64 (Fe.subF fa fb).x2, Value.int IntKind.u64 (Fe.subF fa fb).x3, Value.int IntKind.u64 (Fe.subF fa fb).x4] 24), ?_, World.grownBy_alloc _ _ _, ⟨w.heap.size, rfl, Blk.new w (fesL [fs, fp, fx, fy, fi, fm, Fe.subF fa fb]) _⟩⟩
                  clear h
                  simp only [execOp, List.map_toArray, List.map_cons, List.map_nil, Act.eval, e116, e117, e118, e119, e120, e121, e124]
                  go_simp
                refine ⟨fe3_call rfl (by decide) fun a w h => ?_, ?_⟩
                · obtain ⟨B125, e125, b125⟩ : ∃ PB, a.tmps.getD 125 undef = .slice (some ⟨PB, 0, none⟩) 7 7 ∧ Blk w PB 24 (fesL [fs, fp, fx, fy, fi, fm, Fe.subF fa fb]) := h.dep 125 (by kernel_rfl)
                  have e125x : a.tmps[125]?.getD undef = .slice (some ⟨B125, 0, none⟩) 7 7 := by simpa using e125
                  have hb := h.base
                  refine ⟨wants_none rfl, 31, #[.slice (some ⟨B125, 0, none⟩) 7 7], ?_, ?_⟩
                  · clear h hb e125 b125
                    go_simp
                  · refine (right_val _ 7 [fs, fp, fx, fy, fi, fm, Fe.subF fa fb] true w rfl (by decide) (HRr.out) b125).mono ?_
                    intro e w1 hp
                    obtain ⟨rfl, hg⟩ := hp
                    exact ⟨_, rfl, hg, rfl⟩
                refine ⟨fe3_value rfl (by decide) fun a w h => ?_, ?_⟩
                · have e126 : a.tmps.getD 126 undef = .bool true := h.dep 126 (by kernel_rfl)
                  refine ⟨wants_none rfl, .bool true, w, ?_, gb_refl _ _, rfl⟩
                  clear h
                  simp only [execOp, Act.eval, e126]
                  go_simp
                refine ⟨fe3_value rfl (by decide) fun a w h => ?_, ?_⟩
                · have e127 : a.tmps.getD 127 undef = .bool true := h.dep 127 (by kernel_rfl)
                  have e3 : a.tmps.getD 3 undef = .pointer (some ⟨w0.heap.size, 0, none⟩) := h.rest 3 (by kernel_rfl)
                  have hb := h.base.e (w0.heap.size, fa) (by simp)
                  have c0 : w.cell? ⟨w0.heap.size, 0, none⟩ = some (.int .u64 fa.x0) := hb.cell (i := 0) rfl
                  have c1 : w.cell? ⟨w0.heap.size, 1, none⟩ = some (.int .u64 fa.x1) := hb.cell (i := 1) rfl
                  have c2 : w.cell? ⟨w0.heap.size, 2, none⟩ = some (.int .u64 fa.x2) := hb.cell (i := 2) rfl
                  have c3 : w.cell? ⟨w0.heap.size, 3, none⟩ = some (.int .u64 fa.x3) := hb.cell (i := 3) rfl
                  have c4 : w.cell? ⟨w0.heap.size, 4, none⟩ = some (.int .u64 fa.x4) := hb.cell (i := 4) rfl
                  refine ⟨wants_some (d := 127) rfl rfl (by rw [h.size]; show 127 < 158; decide) e127, .agg #[.int .u64 fa.x0, .int .u64 fa.x1, .int .u64 fa.x2, .int .u64 fa.x3, .int .u64 fa.x4], w, ?_, gb_refl _ _, rfl⟩
                  clear h hb
                  simp only [execOp, Act.eval, e3]
                  go_simp
                refine ⟨fe3_value rfl (by decide) fun a w h => ?_, ?_⟩
                · have e127 : a.tmps.getD 127 undef = .bool true := h.dep 127 (by kernel_rfl)
                  have e11 : a.tmps.getD 11 undef = .pointer (some ⟨v11.heap.size, 0, none⟩) := h.rest 11 (by kernel_rfl)
                  have hb := h.base.e (v11.heap.size, fi) (by simp)
                  have c0 : w.cell? ⟨v11.heap.size, 0, none⟩ = some (.int .u64 fi.x0) := hb.cell (i := 0) rfl
                  have c1 : w.cell? ⟨v11.heap.size, 1, none⟩ = some (.int .u64 fi.x1) := hb.cell (i := 1) rfl
                  have c2 : w.cell? ⟨v11.heap.size, 2, none⟩ = some (.int .u64 fi.x2) := hb.cell (i := 2) rfl
                  have c3 : w.cell? ⟨v11.heap.size, 3, none⟩ = some (.int .u64 fi.x3) := hb.cell (i := 3) rfl
                  have c4 : w.cell? ⟨v11.heap.size, 4, none⟩ = some (.int .u64 fi.x4) := hb.cell (i := 4) rfl
                  refine ⟨wants_some (d := 127) rfl rfl (by rw [h.size]; show 127 < 158; decide) e127, .agg #[.int .u64 fi.x0, .int .u64 fi.x1, .int .u64 fi.x2, .int .u64 fi.x3, .int .u64 fi.x4], w, ?_, gb_refl _ _, rfl⟩
                  clear h hb
                  simp only [execOp, Act.eval, e11]
                  go_simp
                refine ⟨fe3_call rfl (by decide) fun a w h => ?_, ?_⟩
                · have e127 : a.tmps.getD 127 undef = .bool true := h.dep 127 (by kernel_rfl)
                  have e128 : a.tmps.getD 128 undef = fa.v := h.dep 128 (by kernel_rfl)
                  have e128x : a.tmps[128]?.getD undef = fa.v := by simpa using e128
                  have e129 : a.tmps.getD 129 undef = fi.v := h.dep 129 (by kernel_rfl)
                  have e129x : a.tmps[129]?.getD undef = fi.v := by simpa using e129
                  have hb := h.base
                  refine ⟨wants_some (d := 127) rfl rfl (by rw [h.size]; show 127 < 158; decide) e127, 10, #[fa.v, fi.v], ?_, ?_⟩
                  · clear h hb e128 e129
                    go_simp
                  · refine (mul_fe fa fi w okfa okfi).mono ?_
                    intro e w1 hp
                    obtain ⟨rfl, hg⟩ := feOut_is hp
                    exact ⟨_, rfl, hg, rfl⟩
                refine ⟨fe3_call rfl (by decide) fun a w h => ?_, ?_⟩
                · have e127 : a.tmps.getD 127 undef = .bool true := h.dep 127 (by kernel_rfl)
                  have hb := h.base
                  refine ⟨wants_some (d := 127) rfl rfl (by rw [h.size]; show 127 < 158; decide) e127, 22, #[], ?_, ?_⟩
                  · clear h hb
                    go_simp
                  · refine (one_any w).mono ?_
                    intro e w1 hp
                    obtain ⟨rfl, hg⟩ := feOut_is hp
                    exact ⟨_, rfl, hg, rfl⟩
                refine ⟨fe3_call rfl (by decide) fun a w h => ?_, ?_⟩
                · have e127 : a.tmps.getD 127 undef = .bool true := h.dep 127 (by kernel_rfl)
                  have e130 : a.tmps.getD 130 undef = (Fe.mulF fa fi).v := h.dep 130 (by kernel_rfl)
                  have e130x : a.tmps[130]?.getD undef = (Fe.mulF fa fi).v := by simpa using e130
                  have e131 : a.tmps.getD 131 undef = Fe.oneF.v := h.dep 131 (by kernel_rfl)
                  have e131x : a.tmps[131]?.getD undef = Fe.oneF.v := by simpa using e131
                  have hb := h.base
                  refine ⟨wants_some (d := 127) rfl rfl (by rw [h.size]; show 127 < 158; decide) e127, 13, #[(Fe.mulF fa fi).v, Fe.oneF.v], ?_, ?_⟩
                  · clear h hb e130 e131
                    go_simp
                  · refine (same_val (Fe.mulF fa fi) Fe.oneF true w (Fe.mul_right _ _).ok one_right.ok (HI.out)).mono ?_
                    intro e w1 hp
                    obtain ⟨rfl, hg⟩ := hp
                    exact ⟨_, rfl, hg, rfl⟩
                refine ⟨fe3_value rfl (by decide) fun a w h => ?_, ?_⟩
                · have e127 : a.tmps.getD 127 undef = .bool true := h.dep 127 (by kernel_rfl)
                  have e3 : a.tmps.getD 3 undef = .pointer (some ⟨w0.heap.size, 0, none⟩) := h.rest 3 (by kernel_rfl)
                  have hb := h.base.e (w0.heap.size, fa) (by simp)
                  have c0 : w.cell? ⟨w0.heap.size, 0, none⟩ = some (.int .u64 fa.x0) := hb.cell (i := 0) rfl
                  have c1 : w.cell? ⟨w0.heap.size, 1, none⟩ = some (.int .u64 fa.x1) := hb.cell (i := 1) rfl
                  have c2 : w.cell? ⟨w0.heap.size, 2, none⟩ = some (.int .u64 fa.x2) := hb.cell (i := 2) rfl
                  have c3 : w.cell? ⟨w0.heap.size, 3, none⟩ = some (.int .u64 fa.x3) := hb.cell (i := 3) rfl
                  have c4 : w.cell? ⟨w0.heap.size, 4, none⟩ = some (.int .u64 fa.x4) := hb.cell (i := 4) rfl
                  refine ⟨wants_some (d := 127) rfl rfl (by rw [h.size]; show 127 < 158; decide) e127, .agg #[.int .u64 fa.x0, .int .u64 fa.x1, .int .u64 fa.x2, .int .u64 fa.x3, .int .u64 fa.x4], w, ?_, gb_refl _ _, rfl⟩
                  clear h hb
                  simp only [execOp, Act.eval, e3]
                  go_simp
                refine ⟨fe3_call rfl (by decide) fun a w h => ?_, ?_⟩
                · have e127 : a.tmps.getD 127 undef = .bool true := h.dep 127 (by kernel_rfl)
                  have e133 : a.tmps.getD 133 undef = fa.v := h.dep 133 (by kernel_rfl)
                  have e133x : a.tmps[133]?.getD undef = fa.v := by simpa using e133
                  have hb := h.base
                  refine ⟨wants_some (d := 127) rfl rfl (by rw [h.size]; show 127 < 158; decide) e127, 24, #[fa.v], ?_, ?_⟩
                  · clear h hb e133
                    go_simp
                  · refine (zero_val fa false w okfa (HZa.out)).mono ?_
                    intro e w1 hp
                    obtain ⟨rfl, hg⟩ := hp
                    exact ⟨_, rfl, hg, rfl⟩
                refine ⟨fe3_value rfl (by decide) fun a w h => ?_, ?_⟩
                · have e127 : a.tmps.getD 127 undef = .bool true := h.dep 127 (by kernel_rfl)
                  have e134 : a.tmps.getD 134 undef = .bool false := h.dep 134 (by kernel_rfl)
                  refine ⟨wants_some (d := 127) rfl rfl (by rw [h.size]; show 127 < 158; decide) e127, .bool true, w, ?_, gb_refl _ _, rfl⟩
                  clear h
                  simp only [execOp, Act.eval, e134]
                  go_simp
                refine ⟨fe3_value rfl (by decide) fun a w h => ?_, ?_⟩
                · have e127 : a.tmps.getD 127 undef = .bool true := h.dep 127 (by kernel_rfl)
                  have e132 : a.tmps.getD 132 undef = .bool true := h.dep 132 (by kernel_rfl)
                  have e135 : a.tmps.getD 135 undef = .bool true := h.dep 135 (by kernel_rfl)
                  refine ⟨wants_some (d := 127) rfl rfl (by rw [h.size]; show 127 < 158; decide) e127, .bool true, w, ?_, gb_refl _ _, rfl⟩
                  clear h
                  simp only [execOp, Act.eval, e132, e135]
                  go_simp
                refine ⟨fe3_value rfl (by decide) fun a w h => ?_, ?_⟩
                · have e127 : a.tmps.getD 127 undef = .bool true := h.dep 127 (by kernel_rfl)
                  have e136 : a.tmps.getD 136 undef = .bool true := h.dep 136 (by kernel_rfl)
                  refine ⟨wants_none rfl, .bool true, w, ?_, gb_refl _ _, rfl⟩
                  clear h
                  simp only [execOp, Act.eval, e127, e136]
                  go_simp
                refine ⟨fe3_value rfl (by decide) fun a w h => ?_, ?_⟩
                · have e137 : a.tmps.getD 137 undef = .bool true := h.dep 137 (by kernel_rfl)
                  refine ⟨wants_none rfl, .bool true, w, ?_, gb_refl _ _, rfl⟩
                  clear h
                  simp only [execOp, Act.eval, e137]
                  go_simp
                refine ⟨fe3_value rfl (by decide) fun a w h => ?_, ?_⟩
                · have e138 : a.tmps.getD 138 undef = .bool true := h.dep 138 (by kernel_rfl)
                  have e12 : a.tmps.getD 12 undef = .pointer (some ⟨v13.heap.size, 0, none⟩) := h.rest 12 (by kernel_rfl)
                  have hb := h.base.e (v13.heap.size, fm) (by simp)
                  have c0 : w.cell? ⟨v13.heap.size, 0, none⟩ = some (.int .u64 fm.x0) := hb.cell (i := 0) rfl
                  have c1 : w.cell? ⟨v13.heap.size, 1, none⟩ = some (.int .u64 fm.x1) := hb.cell (i := 1) rfl
                  have c2 : w.cell? ⟨v13.heap.size, 2, none⟩ = some (.int .u64 fm.x2) := hb.cell (i := 2) rfl
                  have c3 : w.cell? ⟨v13.heap.size, 3, none⟩ = some (.int .u64 fm.x3) := hb.cell (i := 3) rfl
                  have c4 : w.cell? ⟨v13.heap.size, 4, none⟩ = some (.int .u64 fm.x4) := hb.cell (i := 4) rfl
                  refine ⟨wants_some (d := 138) rfl rfl (by rw [h.size]; show 138 < 158; decide) e138, .agg #[.int .u64 fm.x0, .int .u64 fm.x1, .int .u64 fm.x2, .int .u64 fm.x3, .int .u64 fm.x4], w, ?_, gb_refl _ _, rfl⟩
                  clear h hb
                  simp only [execOp, Act.eval, e12]
                  go_simp
                refine ⟨fe3_value rfl (by decide) fun a w h => ?_, ?_⟩
                · have e138 : a.tmps.getD 138 undef = .bool true := h.dep 138 (by kernel_rfl)
                  have e12 : a.tmps.getD 12 undef = .pointer (some ⟨v13.heap.size, 0, none⟩) := h.rest 12 (by kernel_rfl)
                  have hb := h.base.e (v13.heap.size, fm) (by simp)
                  have c0 : w.cell? ⟨v13.heap.size, 0, none⟩ = some (.int .u64 fm.x0) := hb.cell (i := 0) rfl
                  have c1 : w.cell? ⟨v13.heap.size, 1, none⟩ = some (.int .u64 fm.x1) := hb.cell (i := 1) rfl
                  have c2 : w.cell? ⟨v13.heap.size, 2, none⟩ = some (.int .u64 fm.x2) := hb.cell (i := 2) rfl
                  have c3 : w.cell? ⟨v13.heap.size, 3, none⟩ = some (.int .u64 fm.x3) := hb.cell (i := 3) rfl
                  have c4 : w.cell? ⟨v13.heap.size, 4, none⟩ = some (.int .u64 fm.x4) := hb.cell (i := 4) rfl
                  refine ⟨wants_some (d := 138) rfl rfl (by rw [h.size]; show 138 < 158; decide) e138, .agg #[.int .u64 fm.x0, .int .u64 fm.x1, .int .u64 fm.x2, .int .u64 fm.x3, .int .u64 fm.x4], w, ?_, gb_refl _ _, rfl⟩
                  clear h hb
                  simp only [execOp, Act.eval, e12]
                  go_simp
                refine ⟨fe3_call rfl (by decide) fun a w h => ?_, ?_⟩
                · have e138 : a.tmps.getD 138 undef = .bool true := h.dep 138 (by kernel_rfl)
                  have e139 : a.tmps.getD 139 undef = fm.v := h.dep 139 (by kernel_rfl)
                  have e139x : a.tmps[139]?.getD undef = fm.v := by simpa using e139
                  have e140 : a.tmps.getD 140 undef = fm.v := h.dep 140 (by kernel_rfl)
                  have e140x : a.tmps[140]?.getD undef = fm.v := by simpa using e140
                  have hb := h.base
                  refine ⟨wants_some (d := 138) rfl rfl (by rw [h.size]; show 138 < 158; decide) e138, 10, #[fm.v, fm.v], ?_, ?_⟩
                  · clear h hb e139 e140
                    go_simp
                  · refine (mul_fe fm fm w okfm okfm).mono ?_
                    intro e w1 hp
                    obtain ⟨rfl, hg⟩ := feOut_is hp
                    exact ⟨_, rfl, hg, rfl⟩
                refine ⟨fe3_call rfl (by decide) fun a w h => ?_, ?_⟩
                · have e138 : a.tmps.getD 138 undef = .bool true := h.dep 138 (by kernel_rfl)
                  have hb := h.base
                  refine ⟨wants_some (d := 138) rfl rfl (by rw [h.size]; show 138 < 158; decide) e138, 22, #[], ?_, ?_⟩
                  · clear h hb
                    go_simp
                  · refine (one_any w).mono ?_
                    intro e w1 hp
                    obtain ⟨rfl, hg⟩ := feOut_is hp
                    exact ⟨_, rfl, hg, rfl⟩
                refine ⟨fe3_call rfl (by decide) fun a w h => ?_, ?_⟩
                · have e138 : a.tmps.getD 138 undef = .bool true := h.dep 138 (by kernel_rfl)
                  have e141 : a.tmps.getD 141 undef = (Fe.mulF fm fm).v := h.dep 141 (by kernel_rfl)
                  have e141x : a.tmps[141]?.getD undef = (Fe.mulF fm fm).v := by simpa using e141
                  have e142 : a.tmps.getD 142 undef = Fe.oneF.v := h.dep 142 (by kernel_rfl)
                  have e142x : a.tmps[142]?.getD undef = Fe.oneF.v := by simpa using e142
                  have hb := h.base
                  refine ⟨wants_some (d := 138) rfl rfl (by rw [h.size]; show 138 < 158; decide) e138, 13, #[(Fe.mulF fm fm).v, Fe.oneF.v], ?_, ?_⟩
                  · clear h hb e141 e142
                    go_simp
                  · refine (same_val (Fe.mulF fm fm) Fe.oneF true w (Fe.mul_right _ _).ok one_right.ok (HM.out)).mono ?_
                    intro e w1 hp
                    obtain ⟨rfl, hg⟩ := hp
                    exact ⟨_, rfl, hg, rfl⟩
                refine ⟨fe3_value rfl (by decide) fun a w h => ?_, ?_⟩
                · have e138 : a.tmps.getD 138 undef = .bool true := h.dep 138 (by kernel_rfl)
                  have e143 : a.tmps.getD 143 undef = .bool true := h.dep 143 (by kernel_rfl)
                  refine ⟨wants_none rfl, .bool true, w, ?_, gb_refl _ _, rfl⟩
                  clear h
                  simp only [execOp, Act.eval, e138, e143]
                  go_simp
                refine ⟨fe3_value rfl (by decide) fun a w h => ?_, ?_⟩
                · have e144 : a.tmps.getD 144 undef = .bool true := h.dep 144 (by kernel_rfl)
                  refine ⟨wants_none rfl, .bool true, w, ?_, gb_refl _ _, rfl⟩
                  clear h
                  simp only [execOp, Act.eval, e144]
                  go_simp
                refine ⟨fe3_value rfl (by decide) fun a w h => ?_, ?_⟩
                · have e145 : a.tmps.getD 145 undef = .bool true := h.dep 145 (by kernel_rfl)
                  have e3 : a.tmps.getD 3 undef = .pointer (some ⟨w0.heap.size, 0, none⟩) := h.rest 3 (by kernel_rfl)
                  have hb := h.base.e (w0.heap.size, fa) (by simp)
                  have c0 : w.cell? ⟨w0.heap.size, 0, none⟩ = some (.int .u64 fa.x0) := hb.cell (i := 0) rfl
                  have c1 : w.cell? ⟨w0.heap.size, 1, none⟩ = some (.int .u64 fa.x1) := hb.cell (i := 1) rfl
                  have c2 : w.cell? ⟨w0.heap.size, 2, none⟩ = some (.int .u64 fa.x2) := hb.cell (i := 2) rfl
                  have c3 : w.cell? ⟨w0.heap.size, 3, none⟩ = some (.int .u64 fa.x3) := hb.cell (i := 3) rfl
                  have c4 : w.cell? ⟨w0.heap.size, 4, none⟩ = some (.int .u64 fa.x4) := hb.cell (i := 4) rfl
                  refine ⟨wants_some (d := 145) rfl rfl (by rw [h.size]; show 145 < 158; decide) e145, .agg #[.int .u64 fa.x0, .int .u64 fa.x1, .int .u64 fa.x2, .int .u64 fa.x3, .int .u64 fa.x4], w, ?_, gb_refl _ _, rfl⟩
                  clear h hb
                  simp only [execOp, Act.eval, e3]
                  go_simp
                refine ⟨fe3_value rfl (by decide) fun a w h => ?_, ?_⟩
                · have e145 : a.tmps.getD 145 undef = .bool true := h.dep 145 (by kernel_rfl)
                  have e4 : a.tmps.getD 4 undef = .pointer (some ⟨w0.heap.size + 1, 0, none⟩) := h.rest 4 (by kernel_rfl)
                  have hb := h.base.e (w0.heap.size + 1, fb) (by simp)
                  have c0 : w.cell? ⟨w0.heap.size + 1, 0, none⟩ = some (.int .u64 fb.x0) := hb.cell (i := 0) rfl
                  have c1 : w.cell? ⟨w0.heap.size + 1, 1, none⟩ = some (.int .u64 fb.x1) := hb.cell (i := 1) rfl
                  have c2 : w.cell? ⟨w0.heap.size + 1, 2, none⟩ = some (.int .u64 fb.x2) := hb.cell (i := 2) rfl
                  have c3 : w.cell? ⟨w0.heap.size + 1, 3, none⟩ = some (.int .u64 fb.x3) := hb.cell (i := 3) rfl
                  have c4 : w.cell? ⟨w0.heap.size + 1, 4, none⟩ = some (.int .u64 fb.x4) := hb.cell (i := 4) rfl
                  refine ⟨wants_some (d := 145) rfl rfl (by rw [h.size]; show 145 < 158; decide) e145, .agg #[.int .u64 fb.x0, .int .u64 fb.x1, .int .u64 fb.x2, .int .u64 fb.x3, .int .u64 fb.x4], w, ?_, gb_refl _ _, rfl⟩
                  clear h hb
                  simp only [execOp, Act.eval, e4]
                  go_simp
                refine ⟨fe3_call rfl (by decide) fun a w h => ?_, ?_⟩
                · have e145 : a.tmps.getD 145 undef = .bool true := h.dep 145 (by kernel_rfl)
                  have e146 : a.tmps.getD 146 undef = fa.v := h.dep 146 (by kernel_rfl)
                  have e146x : a.tmps[146]?.getD undef = fa.v := by simpa using e146
                  have e147 : a.tmps.getD 147 undef = fb.v := h.dep 147 (by kernel_rfl)
                  have e147x : a.tmps[147]?.getD undef = fb.v := by simpa using e147
                  have hb := h.base
                  refine ⟨wants_some (d := 145) rfl rfl (by rw [h.size]; show 145 < 158; decide) e145, 10, #[fa.v, fb.v], ?_, ?_⟩
                  · clear h hb e146 e147
                    go_simp
                  · refine (mul_fe fa fb w okfa okfb).mono ?_
                    intro e w1 hp
                    obtain ⟨rfl, hg⟩ := feOut_is hp
                    exact ⟨_, rfl, hg, rfl⟩
                refine ⟨fe3_call rfl (by decide) fun a w h => ?_, ?_⟩
                · have e145 : a.tmps.getD 145 undef = .bool true := h.dep 145 (by kernel_rfl)
                  have e148 : a.tmps.getD 148 undef = (Fe.mulF fa fb).v := h.dep 148 (by kernel_rfl)
                  have e148x : a.tmps[148]?.getD undef = (Fe.mulF fa fb).v := by simpa using e148
                  have hb := h.base
                  refine ⟨wants_some (d := 145) rfl rfl (by rw [h.size]; show 145 < 158; decide) e145, 24, #[(Fe.mulF fa fb).v], ?_, ?_⟩
                  · clear h hb e148
                    go_simp
                  · refine (zero_val (Fe.mulF fa fb) false w (Fe.mul_right _ _).ok (HZab.out)).mono ?_
                    intro e w1 hp
                    obtain ⟨rfl, hg⟩ := hp
                    exact ⟨_, rfl, hg, rfl⟩
                refine ⟨fe3_value rfl (by decide) fun a w h => ?_, ?_⟩
                · have e145 : a.tmps.getD 145 undef = .bool true := h.dep 145 (by kernel_rfl)
                  have e3 : a.tmps.getD 3 undef = .pointer (some ⟨w0.heap.size, 0, none⟩) := h.rest 3 (by kernel_rfl)
                  have hb := h.base.e (w0.heap.size, fa) (by simp)
                  have c0 : w.cell? ⟨w0.heap.size, 0, none⟩ = some (.int .u64 fa.x0) := hb.cell (i := 0) rfl
                  have c1 : w.cell? ⟨w0.heap.size, 1, none⟩ = some (.int .u64 fa.x1) := hb.cell (i := 1) rfl
                  have c2 : w.cell? ⟨w0.heap.size, 2, none⟩ = some (.int .u64 fa.x2) := hb.cell (i := 2) rfl
                  have c3 : w.cell? ⟨w0.heap.size, 3, none⟩ = some (.int .u64 fa.x3) := hb.cell (i := 3) rfl
                  have c4 : w.cell? ⟨w0.heap.size, 4, none⟩ = some (.int .u64 fa.x4) := hb.cell (i := 4) rfl
                  refine ⟨wants_some (d := 145) rfl rfl (by rw [h.size]; show 145 < 158; decide) e145, .agg #[.int .u64 fa.x0, .int .u64 fa.x1, .int .u64 fa.x2, .int .u64 fa.x3, .int .u64 fa.x4], w, ?_, gb_refl _ _, rfl⟩
                  clear h hb
                  simp only [execOp, Act.eval, e3]
                  go_simp
                refine ⟨fe3_call rfl (by decide) fun a w h => ?_, ?_⟩
                · have e145 : a.tmps.getD 145 undef = .bool true := h.dep 145 (by kernel_rfl)
                  have e150 : a.tmps.getD 150 undef = fa.v := h.dep 150 (by kernel_rfl)
                  have e150x : a.tmps[150]?.getD undef = fa.v := by simpa using e150
                  have hb := h.base
                  refine ⟨wants_some (d := 145) rfl rfl (by rw [h.size]; show 145 < 158; decide) e145, 24, #[fa.v], ?_, ?_⟩
                  · clear h hb e150
                    go_simp
                  · refine (zero_val fa false w okfa (HZa.out)).mono ?_
                    intro e w1 hp
                    obtain ⟨rfl, hg⟩ := hp
                    exact ⟨_, rfl, hg, rfl⟩
                refine ⟨fe3_value rfl (by decide) fun a w h => ?_, ?_⟩
                · have e145 : a.tmps.getD 145 undef = .bool true := h.dep 145 (by kernel_rfl)
                  have e151 : a.tmps.getD 151 undef = .bool false := h.dep 151 (by kernel_rfl)
                  refine ⟨wants_some (d := 145) rfl rfl (by rw [h.size]; show 145 < 158; decide) e145, .bool false, w, ?_, gb_refl _ _, rfl⟩
                  clear h
                  simp only [execOp, Act.eval, e151]
                  go_simp
                refine ⟨fe3_value rfl (by decide) fun a w h => ?_, ?_⟩
                · have e152 : a.tmps.getD 152 undef = .bool false := h.dep 152 (by kernel_rfl)
                  have e4 : a.tmps.getD 4 undef = .pointer (some ⟨w0.heap.size + 1, 0, none⟩) := h.rest 4 (by kernel_rfl)
                  have hb := h.base.e (w0.heap.size + 1, fb) (by simp)
                  have c0 : w.cell? ⟨w0.heap.size + 1, 0, none⟩ = some (.int .u64 fb.x0) := hb.cell (i := 0) rfl
                  have c1 : w.cell? ⟨w0.heap.size + 1, 1, none⟩ = some (.int .u64 fb.x1) := hb.cell (i := 1) rfl
                  have c2 : w.cell? ⟨w0.heap.size + 1, 2, none⟩ = some (.int .u64 fb.x2) := hb.cell (i := 2) rfl
                  have c3 : w.cell? ⟨w0.heap.size + 1, 3, none⟩ = some (.int .u64 fb.x3) := hb.cell (i := 3) rfl
                  have c4 : w.cell? ⟨w0.heap.size + 1, 4, none⟩ = some (.int .u64 fb.x4) := hb.cell (i := 4) rfl
                  refine ⟨wants_some (d := 152) rfl rfl (by rw [h.size]; show 152 < 158; decide) e152, .agg #[.int .u64 fb.x0, .int .u64 fb.x1, .int .u64 fb.x2, .int .u64 fb.x3, .int .u64 fb.x4], w, ?_, gb_refl _ _, rfl⟩
                  clear h hb
                  simp only [execOp, Act.eval, e4]
                  go_simp
                refine ⟨fe3_call rfl (by decide) fun a w h => ?_, ?_⟩
                · have e152 : a.tmps.getD 152 undef = .bool false := h.dep 152 (by kernel_rfl)
                  have e153 : a.tmps.getD 153 undef = fb.v := h.dep 153 (by kernel_rfl)
                  have e153x : a.tmps[153]?.getD undef = fb.v := by simpa using e153
                  have hb := h.base
                  refine ⟨wants_some (d := 152) rfl rfl (by rw [h.size]; show 152 < 158; decide) e152, 24, #[fb.v], ?_, ?_⟩
                  · clear h hb e153
                    go_simp
                  · refine (zero_val fb false w okfb (HZb.out)).mono ?_
                    intro e w1 hp
                    obtain ⟨rfl, hg⟩ := hp
                    exact ⟨_, rfl, hg, rfl⟩
                refine ⟨fe3_value rfl (by decide) fun a w h => ?_, ?_⟩
                · have e145 : a.tmps.getD 145 undef = .bool true := h.dep 145 (by kernel_rfl)
                  have e152 : a.tmps.getD 152 undef = .bool false := h.dep 152 (by kernel_rfl)
                  have e154 : a.tmps.getD 154 undef = .bool false := h.dep 154 (by kernel_rfl)
                  refine ⟨wants_some (d := 145) rfl rfl (by rw [h.size]; show 145 < 158; decide) e145, .bool false, w, ?_, gb_refl _ _, rfl⟩
                  clear h
                  simp only [execOp, Act.eval, e152, e154]
                  go_simp
                refine ⟨fe3_value rfl (by decide) fun a w h => ?_, ?_⟩
                · have e145 : a.tmps.getD 145 undef = .bool true := h.dep 145 (by kernel_rfl)
                  have e149 : a.tmps.getD 149 undef = .bool false := h.dep 149 (by kernel_rfl)
                  have e155 : a.tmps.getD 155 undef = .bool false := h.dep 155 (by kernel_rfl)
                  refine ⟨wants_some (d := 145) rfl rfl (by rw [h.size]; show 145 < 158; decide) e145, .bool true, w, ?_, gb_refl _ _, rfl⟩
                  clear h
                  simp only [execOp, Act.eval, e149, e155]
                  go_simp
                refine ⟨fe3_value rfl (by decide) fun a w h => ?_, ?_⟩
                · have e145 : a.tmps.getD 145 undef = .bool true := h.dep 145 (by kernel_rfl)
                  have e156 : a.tmps.getD 156 undef = .bool true := h.dep 156 (by kernel_rfl)
                  refine ⟨wants_none rfl, .bool true, w, ?_, gb_refl _ _, rfl⟩
                  clear h
                  simp only [execOp, Act.eval, e145, e156]
                  go_simp
                refine ⟨fe3_value rfl (by decide) fun a w h => ?_, ?_⟩
                · have e157 : a.tmps.getD 157 undef = .bool true := h.dep 157 (by kernel_rfl)
                  refine ⟨wants_none rfl, .bool true, w, ?_, gb_refl _ _, rfl⟩
                  clear h
                  simp only [execOp, Act.eval, e157]
                  go_simp
                trivial
              · intro q w hB hsz hdf hrest hslots hmems
                have e6 : q.tmps.getD 6 undef = .bool true := hslots 6 (by kernel_rfl)
                have G := gb_trans G13 hB.g
                replace hdf : q.defers = [] := hdf
                clear hB hsz hrest hslots hmems
                have e6x : q.tmps[6]?.getD undef = .bool true := by simpa using e6
                go_wp2_with fail
                refine bodyPost_ret (v := .bool true) ?_ hdf ⟨rfl, G⟩
                simp [results, Tryd.results5, go_sem, e6x]
end Go.Proofs.YthjakoifbahkcaaDoor
