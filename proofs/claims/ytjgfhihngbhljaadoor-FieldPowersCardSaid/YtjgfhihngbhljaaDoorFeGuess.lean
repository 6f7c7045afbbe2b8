/- field: guessRoot. -/
import Derived.Test.YtjgfhihngbhljaaDoorFeInv
namespace Go.Proofs.YtjgfhihngbhljaaDoor
open Go.RowKit
def guessF (u v : Fe) : Fe := Fe.mulF (Fe.mulF u (Fe.mulF (Fe.sqF v) v)) (stepF 2 (ones10 (Fe.mulF u (Fe.mulF (Fe.sqF (Fe.mulF (Fe.sqF v) v)) v))) (Fe.mulF u (Fe.mulF (Fe.sqF (Fe.mulF (Fe.sqF v) v)) v)))
set_option maxRecDepth 100000 in
set_option maxHeartbeats 1600000 in
theorem guess_any (p q : Fe) (w0 : World) (okp : p.Ok) (okq : q.Ok) :
    Calls Tryd.prog 41 #[.agg #[.int .u64 p.x0, .int .u64 p.x1, .int .u64 p.x2, .int .u64 p.x3, .int .u64 p.x4], .agg #[.int .u64 q.x0, .int .u64 q.x1, .int .u64 q.x2, .int .u64 q.x3, .int .u64 q.x4]] w0 (FeOut (guessF p q) w0) := by
  go_enter Tryd.func41, Tryd.ntmps41
  go_wp2_with fail
  have hA0 : Blk (((w0.alloc (.cells #[.int .u64 p.x0, .int .u64 p.x1, .int .u64 p.x2, .int .u64 p.x3, .int .u64 p.x4] 24)).alloc (.cells #[.int .u64 q.x0, .int .u64 q.x1, .int .u64 q.x2, .int .u64 q.x3, .int .u64 q.x4] 24)).alloc (.cells #[.int .u64 0, .int .u64 0, .int .u64 0, .int .u64 0, .int .u64 0] 24)) w0.heap.size 24 (feL p) := ((Blk.new w0 (feL p) _).alloc _).alloc _
  have hB0 : EnvB w0 (w0.heap.size + 3) [((w0.heap.size + 1), q)] [(w0.heap.size + 1 + 1)] (((w0.alloc (.cells #[.int .u64 p.x0, .int .u64 p.x1, .int .u64 p.x2, .int .u64 p.x3, .int .u64 p.x4] 24)).alloc (.cells #[.int .u64 q.x0, .int .u64 q.x1, .int .u64 q.x2, .int .u64 q.x3, .int .u64 q.x4] 24)).alloc (.cells #[.int .u64 0, .int .u64 0, .int .u64 0, .int .u64 0, .int .u64 0] 24)) :=
    ⟨gb_alloc (gb_alloc (gb_alloc (gb_refl _ _) _) _) _, by
      intro z hz
      simp only [List.mem_cons, List.not_mem_nil, or_false] at hz
      rcases hz with rfl
      · exact (Blk.newAt (w0.alloc _) (feL _) _ (by simp)).alloc _, by
      intro B hB
      simp only [List.mem_cons, List.not_mem_nil, or_false] at hB
      subst hB
      exact ⟨_, _, _, _, _, Blk.newAt _ [.int .u64 0, .int .u64 0, .int .u64 0, .int .u64 0, .int .u64 0] _ (by simp)⟩, by intro z hz; simp only [List.mem_cons, List.not_mem_nil, or_false] at hz; rcases hz with rfl <;> simp only [] <;> omega, by simp, by omega⟩
  have hA1 : ∀ w1, w0.grownBy w1 none → True := fun _ _ => trivial
  clear hA1
  have hB0 : EnvB w0 (w0.heap.size + 3) [(w0.heap.size, p), (w0.heap.size + 1, q), (w0.heap.size + 1 + 1, Fe.zeroF)] [(w0.heap.size + 1 + 1)] (((w0.alloc (.cells #[.int .u64 p.x0, .int .u64 p.x1, .int .u64 p.x2, .int .u64 p.x3, .int .u64 p.x4] 24)).alloc (.cells #[.int .u64 q.x0, .int .u64 q.x1, .int .u64 q.x2, .int .u64 q.x3, .int .u64 q.x4] 24)).alloc (.cells #[.int .u64 0, .int .u64 0, .int .u64 0, .int .u64 0, .int .u64 0] 24)) :=
    ⟨hB0.g, by
      intro z hz
      simp only [List.mem_cons, List.not_mem_nil, or_false] at hz
      rcases hz with rfl | rfl | rfl
      · exact hA0
      · exact hB0.e _ (by simp)
      · exact Blk.newAt _ (feL Fe.zeroF) _ (by simp), hB0.r, by intro z hz; simp only [List.mem_cons, List.not_mem_nil, or_false] at hz; rcases hz with rfl | rfl | rfl <;> simp only [] <;> omega, hB0.l, hB0.m⟩
  clear hA0
  refine wp_region_flow2 (itemsG (Okb w0 [(w0.heap.size, p), ((w0.heap.size + 1), q), ((w0.heap.size + 1 + 1), Fe.zeroF)]) [.any, .any, .any, .any, .any, .ptr, .any, .any, .any, .any, .val q.v, .val (Fe.sqF q).v, .val q.v, .val (Fe.mulF (Fe.sqF q) q).v, .any, .any, .any, .any, .any, .any, .any, .any, .any, .any, .any, .any, .any, .any, .any, .any, .any]) (fun j => if j = 5 then 5 else 0) (Stored (Okb w0 [(w0.heap.size, p), ((w0.heap.size + 1), q), ((w0.heap.size + 1 + 1), Fe.zeroF)]) (Fe.mulF (Fe.sqF q) q)) (EnvB w0 (w0.heap.size + 3) [(w0.heap.size, p), ((w0.heap.size + 1), q), ((w0.heap.size + 1 + 1), Fe.zeroF)] [(w0.heap.size + 1 + 1)]) (Rel5 (Fe.mulF (Fe.sqF q) q)) (by kernel_rfl) (by kernel_rfl) (by kernel_rfl) (hB0.grown (gb_drewn _)) (fun d u w1 w2 hR h => items_stab _ _ _ d u w1 w2 hR h) (fun j u w1 w2 hR h => stored_stab _ _ j u w1 w2 hR h) (by kernel_rfl) ?_ ?_
  · refine ⟨flow2_value rfl rfl fun a w h => ?_, ?_⟩
    · have e3 : a.tmps.getD 3 undef = .pointer (some ⟨(w0.heap.size + 1), 0, none⟩) := h.rest 3 (by kernel_rfl)
      have hb := h.base.e ((w0.heap.size + 1), q) (by simp)
      have c0 : w.cell? ⟨(w0.heap.size + 1), 0, none⟩ = some (.int .u64 q.x0) := hb.cell (i := 0) rfl
      have c1 : w.cell? ⟨(w0.heap.size + 1), 1, none⟩ = some (.int .u64 q.x1) := hb.cell (i := 1) rfl
      have c2 : w.cell? ⟨(w0.heap.size + 1), 2, none⟩ = some (.int .u64 q.x2) := hb.cell (i := 2) rfl
      have c3 : w.cell? ⟨(w0.heap.size + 1), 3, none⟩ = some (.int .u64 q.x3) := hb.cell (i := 3) rfl
      have c4 : w.cell? ⟨(w0.heap.size + 1), 4, none⟩ = some (.int .u64 q.x4) := hb.cell (i := 4) rfl
      refine ⟨.agg #[.int .u64 q.x0, .int .u64 q.x1, .int .u64 q.x2, .int .u64 q.x3, .int .u64 q.x4], w, ?_, h.base, rel5_refl _ _, rfl⟩
      clear h hb
      simp only [execOp, Act.eval, e3]
      go_simp
    refine ⟨flow2_call rfl rfl fun a w h => ?_, ?_⟩
    · have e10 : a.tmps.getD 10 undef = q.v := h.dep 10 (by kernel_rfl)
      have e10x : a.tmps[10]?.getD undef = q.v := by simpa using e10
      have hb := h.base
      refine ⟨12, #[q.v], ?_, ?_⟩
      · clear h hb e10
        go_simp
      · refine (sq_fe q w okq).mono ?_
        intro e w1 hp
        obtain ⟨rfl, hg⟩ := feOut_is hp
        exact ⟨_, rfl, hb.grown hg, Or.inl hg, rfl⟩
    refine ⟨flow2_value rfl rfl fun a w h => ?_, ?_⟩
    · have e3 : a.tmps.getD 3 undef = .pointer (some ⟨(w0.heap.size + 1), 0, none⟩) := h.rest 3 (by kernel_rfl)
      have hb := h.base.e ((w0.heap.size + 1), q) (by simp)
      have c0 : w.cell? ⟨(w0.heap.size + 1), 0, none⟩ = some (.int .u64 q.x0) := hb.cell (i := 0) rfl
      have c1 : w.cell? ⟨(w0.heap.size + 1), 1, none⟩ = some (.int .u64 q.x1) := hb.cell (i := 1) rfl
      have c2 : w.cell? ⟨(w0.heap.size + 1), 2, none⟩ = some (.int .u64 q.x2) := hb.cell (i := 2) rfl
      have c3 : w.cell? ⟨(w0.heap.size + 1), 3, none⟩ = some (.int .u64 q.x3) := hb.cell (i := 3) rfl
      have c4 : w.cell? ⟨(w0.heap.size + 1), 4, none⟩ = some (.int .u64 q.x4) := hb.cell (i := 4) rfl
      refine ⟨.agg #[.int .u64 q.x0, .int .u64 q.x1, .int .u64 q.x2, .int .u64 q.x3, .int .u64 q.x4], w, ?_, h.base, rel5_refl _ _, rfl⟩
      clear h hb
      simp only [execOp, Act.eval, e3]
      go_simp
    refine ⟨flow2_call rfl rfl fun a w h => ?_, ?_⟩
    · have e11 : a.tmps.getD 11 undef = (Fe.sqF q).v := h.dep 11 (by kernel_rfl)
      have e12 : a.tmps.getD 12 undef = q.v := h.dep 12 (by kernel_rfl)
      have e11x : a.tmps[11]?.getD undef = (Fe.sqF q).v := by simpa using e11
      have e12x : a.tmps[12]?.getD undef = q.v := by simpa using e12
      have hb := h.base
      refine ⟨7, #[(Fe.sqF q).v, q.v], ?_, ?_⟩
      · clear h hb e11 e12
        go_simp
      · refine (mul_fe (Fe.sqF q) q w (Fe.sq_right _).ok okq).mono ?_
        intro e w1 hp
        obtain ⟨rfl, hg⟩ := feOut_is hp
        exact ⟨_, rfl, hb.grown hg, Or.inl hg, rfl⟩
    refine ⟨flow2_value rfl rfl fun a w h => ?_, ?_⟩
    · refine ⟨.pointer (some ⟨w.heap.size, 0, none⟩), w.alloc (.cells #[.int .u64 0, .int .u64 0, .int .u64 0, .int .u64 0, .int .u64 0] 24), ?_, h.base.grown (World.grownBy_alloc _ _ _), Or.inl (World.grownBy_alloc _ _ _), ⟨w.heap.size, rfl, ⟨_, _, _, _, _, Blk.new w [.int .u64 0, .int .u64 0, .int .u64 0, .int .u64 0, .int .u64 0] _⟩, h.base.fresh⟩⟩
      clear h
      go_simp
    refine ⟨flow2_skip rfl rfl fun a w h => ?_, ?_⟩
    · obtain ⟨Bn, ep, hroom, hK⟩ : ∃ Bn, a.tmps.getD 5 undef = .pointer (some ⟨Bn, 0, none⟩) ∧ Room5 w Bn 24 ∧ (Okb w0 [(w0.heap.size, p), ((w0.heap.size + 1), q), ((w0.heap.size + 1 + 1), Fe.zeroF)]) Bn := h.dep 5 (by kernel_rfl)
      have e13 : a.tmps.getD 13 undef = .agg #[.int .u64 (Fe.mulF (Fe.sqF q) q).x0, .int .u64 (Fe.mulF (Fe.sqF q) q).x1, .int .u64 (Fe.mulF (Fe.sqF q) q).x2, .int .u64 (Fe.mulF (Fe.sqF q) q).x3, .int .u64 (Fe.mulF (Fe.sqF q) q).x4] := h.dep 13 (by kernel_rfl)
      refine ⟨set5W w Bn (Fe.mulF (Fe.sqF q) q), ?_, h.base.set hK _, Or.inr ⟨Bn, rfl, hroom⟩, ⟨Bn, ep, hK, set5W_same hroom⟩⟩
      obtain ⟨u0, u1, u2, u3, u4, hR⟩ := hroom
      have c0r := hR.cell (i := 0) rfl; have f0r := hR.free 0
      have c1r := hR.cell (i := 1) rfl; have f1r := hR.free 1
      have c2r := hR.cell (i := 2) rfl; have f2r := hR.free 2
      have c3r := hR.cell (i := 3) rfl; have f3r := hR.free 3
      have c4r := hR.cell (i := 4) rfl; have f4r := hR.free 4
      clear h hK hR
      unfold set5W
      simp only [execOp, Act.eval, ep, e13]
      go_simp
    trivial
  · intro a' w1 hB hsz hdf hrest hslots hmems
    obtain ⟨B1, hptr, hK, hb⟩ := hmems 5 _ rfl rfl
    obtain rfl := frame_is (a := a') (vs := [.agg #[.int .u64 p.x0, .int .u64 p.x1, .int .u64 p.x2, .int .u64 p.x3, .int .u64 p.x4], .agg #[.int .u64 q.x0, .int .u64 q.x1, .int .u64 q.x2, .int .u64 q.x3, .int .u64 q.x4], .pointer (some ⟨w0.heap.size, 0, none⟩), .pointer (some ⟨w0.heap.size + 1, 0, none⟩), .pointer (some ⟨w0.heap.size + 1 + 1, 0, none⟩), .pointer (some ⟨B1, 0, none⟩), undef, undef, undef, undef, q.v, (Fe.sqF q).v, q.v, (Fe.mulF (Fe.sqF q) q).v, undef, undef, undef, undef, undef, undef, undef, undef, undef, undef, undef, undef, undef, undef, undef, undef, undef]) hsz ⟨hrest 0 (by kernel_rfl), hrest 1 (by kernel_rfl), hrest 2 (by kernel_rfl), hrest 3 (by kernel_rfl), hrest 4 (by kernel_rfl), hptr, hrest 6 (by kernel_rfl), hrest 7 (by kernel_rfl), hrest 8 (by kernel_rfl), hrest 9 (by kernel_rfl), hslots 10 (by kernel_rfl), hslots 11 (by kernel_rfl), hslots 12 (by kernel_rfl), hslots 13 (by kernel_rfl), hrest 14 (by kernel_rfl), hrest 15 (by kernel_rfl), hrest 16 (by kernel_rfl), hrest 17 (by kernel_rfl), hrest 18 (by kernel_rfl), hrest 19 (by kernel_rfl), hrest 20 (by kernel_rfl), hrest 21 (by kernel_rfl), hrest 22 (by kernel_rfl), hrest 23 (by kernel_rfl), hrest 24 (by kernel_rfl), hrest 25 (by kernel_rfl), hrest 26 (by kernel_rfl), hrest 27 (by kernel_rfl), hrest 28 (by kernel_rfl), hrest 29 (by kernel_rfl), hrest 30 (by kernel_rfl), trivial⟩ hdf
    clear hptr hsz hdf hrest hslots hmems hB0
    obtain ⟨cube, hf⟩ : ∃ f, f = Fe.mulF (Fe.sqF q) q := ⟨_, rfl⟩
    have okcube : cube.Ok := by rw [hf]; exact (Fe.mul_right _ _).ok
    rw [← hf] at hb
    have Hcube := Lib.hid hf; clear hf
    have hltb := hb.lt
    have hK1 := hK.1
    have hKp := hK.2 (w0.heap.size, p) (by simp)
    have hKq := hK.2 (w0.heap.size + 1, q) (by simp)
    have hKr : w0.heap.size + 1 + 1 ≠ B1 := hK.2 (w0.heap.size + 1 + 1, Fe.zeroF) (by simp)
    have hBl := hB.l
    have hB1 : EnvB w0 w1.heap.size [(w0.heap.size, p), (w0.heap.size + 1, q), (B1, cube)] [(w0.heap.size + 1 + 1)] w1 :=
      ⟨hB.g, by
        intro z hz
        simp only [List.mem_cons, List.not_mem_nil, or_false] at hz
        rcases hz with rfl | rfl | rfl
        · exact hB.e _ (by simp)
        · exact hB.e _ (by simp)
        · exact hb, hB.r, by intro z hz; simp only [List.mem_cons, List.not_mem_nil, or_false] at hz; rcases hz with rfl | rfl | rfl <;> simp only [] <;> omega, Nat.le_refl _, hB.g.size⟩
    clear hB hb hK
    go_wp2_with fail
    refine wp_region_flow2 (itemsG (Okb w0 [(w0.heap.size, p), ((w0.heap.size + 1), q), (B1, cube)]) [.any, .any, .any, .any, .any, .any, .ptr, .any, .any, .any, .any, .any, .any, .any, .val cube.v, .val (Fe.sqF cube).v, .val q.v, .val (Fe.mulF (Fe.sqF cube) q).v, .any, .any, .any, .any, .any, .any, .any, .any, .any, .any, .any, .any, .any]) (fun j => if j = 5 then 6 else 0) (Stored (Okb w0 [(w0.heap.size, p), ((w0.heap.size + 1), q), (B1, cube)]) (Fe.mulF (Fe.sqF cube) q)) (EnvB w0 w1.heap.size [(w0.heap.size, p), ((w0.heap.size + 1), q), (B1, cube)] [(w0.heap.size + 1 + 1)]) (Rel5 (Fe.mulF (Fe.sqF cube) q)) (by kernel_rfl) (by kernel_rfl) (by kernel_rfl) (hB1.grown (gb_drewn _)) (fun d u w1 w2 hR h => items_stab _ _ _ d u w1 w2 hR h) (fun j u w1 w2 hR h => stored_stab _ _ j u w1 w2 hR h) (by kernel_rfl) ?_ ?_
    · refine ⟨flow2_value rfl rfl fun a w h => ?_, ?_⟩
      · have e5 : a.tmps.getD 5 undef = .pointer (some ⟨B1, 0, none⟩) := h.rest 5 (by kernel_rfl)
        have hb := h.base.e (B1, cube) (by simp)
        have c0 : w.cell? ⟨B1, 0, none⟩ = some (.int .u64 cube.x0) := hb.cell (i := 0) rfl
        have c1 : w.cell? ⟨B1, 1, none⟩ = some (.int .u64 cube.x1) := hb.cell (i := 1) rfl
        have c2 : w.cell? ⟨B1, 2, none⟩ = some (.int .u64 cube.x2) := hb.cell (i := 2) rfl
        have c3 : w.cell? ⟨B1, 3, none⟩ = some (.int .u64 cube.x3) := hb.cell (i := 3) rfl
        have c4 : w.cell? ⟨B1, 4, none⟩ = some (.int .u64 cube.x4) := hb.cell (i := 4) rfl
        refine ⟨.agg #[.int .u64 cube.x0, .int .u64 cube.x1, .int .u64 cube.x2, .int .u64 cube.x3, .int .u64 cube.x4], w, ?_, h.base, rel5_refl _ _, rfl⟩
        clear h hb
        simp only [execOp, Act.eval, e5]
        go_simp
      refine ⟨flow2_call rfl rfl fun a w h => ?_, ?_⟩
      · have e14 : a.tmps.getD 14 undef = cube.v := h.dep 14 (by kernel_rfl)
        have e14x : a.tmps[14]?.getD undef = cube.v := by simpa using e14
        have hb := h.base
        refine ⟨12, #[cube.v], ?_, ?_⟩
        · clear h hb e14
          go_simp
        · refine (sq_fe cube w okcube).mono ?_
          intro e w1 hp
          obtain ⟨rfl, hg⟩ := feOut_is hp
          exact ⟨_, rfl, hb.grown hg, Or.inl hg, rfl⟩
      refine ⟨flow2_value rfl rfl fun a w h => ?_, ?_⟩
      · have e3 : a.tmps.getD 3 undef = .pointer (some ⟨(w0.heap.size + 1), 0, none⟩) := h.rest 3 (by kernel_rfl)
        have hb := h.base.e ((w0.heap.size + 1), q) (by simp)
        have c0 : w.cell? ⟨(w0.heap.size + 1), 0, none⟩ = some (.int .u64 q.x0) := hb.cell (i := 0) rfl
        have c1 : w.cell? ⟨(w0.heap.size + 1), 1, none⟩ = some (.int .u64 q.x1) := hb.cell (i := 1) rfl
        have c2 : w.cell? ⟨(w0.heap.size + 1), 2, none⟩ = some (.int .u64 q.x2) := hb.cell (i := 2) rfl
        have c3 : w.cell? ⟨(w0.heap.size + 1), 3, none⟩ = some (.int .u64 q.x3) := hb.cell (i := 3) rfl
        have c4 : w.cell? ⟨(w0.heap.size + 1), 4, none⟩ = some (.int .u64 q.x4) := hb.cell (i := 4) rfl
        refine ⟨.agg #[.int .u64 q.x0, .int .u64 q.x1, .int .u64 q.x2, .int .u64 q.x3, .int .u64 q.x4], w, ?_, h.base, rel5_refl _ _, rfl⟩
        clear h hb
        simp only [execOp, Act.eval, e3]
        go_simp
      refine ⟨flow2_call rfl rfl fun a w h => ?_, ?_⟩
      · have e15 : a.tmps.getD 15 undef = (Fe.sqF cube).v := h.dep 15 (by kernel_rfl)
        have e16 : a.tmps.getD 16 undef = q.v := h.dep 16 (by kernel_rfl)
        have e15x : a.tmps[15]?.getD undef = (Fe.sqF cube).v := by simpa using e15
        have e16x : a.tmps[16]?.getD undef = q.v := by simpa using e16
        have hb := h.base
        refine ⟨7, #[(Fe.sqF cube).v, q.v], ?_, ?_⟩
        · clear h hb e15 e16
          go_simp
        · refine (mul_fe (Fe.sqF cube) q w (Fe.sq_right _).ok okq).mono ?_
          intro e w1 hp
          obtain ⟨rfl, hg⟩ := feOut_is hp
          exact ⟨_, rfl, hb.grown hg, Or.inl hg, rfl⟩
      refine ⟨flow2_value rfl rfl fun a w h => ?_, ?_⟩
      · refine ⟨.pointer (some ⟨w.heap.size, 0, none⟩), w.alloc (.cells #[.int .u64 0, .int .u64 0, .int .u64 0, .int .u64 0, .int .u64 0] 24), ?_, h.base.grown (World.grownBy_alloc _ _ _), Or.inl (World.grownBy_alloc _ _ _), ⟨w.heap.size, rfl, ⟨_, _, _, _, _, Blk.new w [.int .u64 0, .int .u64 0, .int .u64 0, .int .u64 0, .int .u64 0] _⟩, h.base.fresh⟩⟩
        clear h
        go_simp
      refine ⟨flow2_skip rfl rfl fun a w h => ?_, ?_⟩
      · obtain ⟨Bn, ep, hroom, hK⟩ : ∃ Bn, a.tmps.getD 6 undef = .pointer (some ⟨Bn, 0, none⟩) ∧ Room5 w Bn 24 ∧ (Okb w0 [(w0.heap.size, p), ((w0.heap.size + 1), q), (B1, cube)]) Bn := h.dep 6 (by kernel_rfl)
        have e17 : a.tmps.getD 17 undef = .agg #[.int .u64 (Fe.mulF (Fe.sqF cube) q).x0, .int .u64 (Fe.mulF (Fe.sqF cube) q).x1, .int .u64 (Fe.mulF (Fe.sqF cube) q).x2, .int .u64 (Fe.mulF (Fe.sqF cube) q).x3, .int .u64 (Fe.mulF (Fe.sqF cube) q).x4] := h.dep 17 (by kernel_rfl)
        refine ⟨set5W w Bn (Fe.mulF (Fe.sqF cube) q), ?_, h.base.set hK _, Or.inr ⟨Bn, rfl, hroom⟩, ⟨Bn, ep, hK, set5W_same hroom⟩⟩
        obtain ⟨u0, u1, u2, u3, u4, hR⟩ := hroom
        have c0r := hR.cell (i := 0) rfl; have f0r := hR.free 0
        have c1r := hR.cell (i := 1) rfl; have f1r := hR.free 1
        have c2r := hR.cell (i := 2) rfl; have f2r := hR.free 2
        have c3r := hR.cell (i := 3) rfl; have f3r := hR.free 3
        have c4r := hR.cell (i := 4) rfl; have f4r := hR.free 4
        clear h hK hR
        unfold set5W
        simp only [execOp, Act.eval, ep, e17]
        go_simp
      trivial
    · intro a' w2 hB hsz hdf hrest hslots hmems
      obtain ⟨B2, hptr, hK, hb⟩ := hmems 5 _ rfl rfl
      obtain rfl := frame_is (a := a') (vs := [.agg #[.int .u64 p.x0, .int .u64 p.x1, .int .u64 p.x2, .int .u64 p.x3, .int .u64 p.x4], .agg #[.int .u64 q.x0, .int .u64 q.x1, .int .u64 q.x2, .int .u64 q.x3, .int .u64 q.x4], .pointer (some ⟨w0.heap.size, 0, none⟩), .pointer (some ⟨w0.heap.size + 1, 0, none⟩), .pointer (some ⟨w0.heap.size + 1 + 1, 0, none⟩), .pointer (some ⟨B1, 0, none⟩), .pointer (some ⟨B2, 0, none⟩), undef, undef, undef, q.v, (Fe.sqF q).v, q.v, (Fe.mulF (Fe.sqF q) q).v, cube.v, (Fe.sqF cube).v, q.v, (Fe.mulF (Fe.sqF cube) q).v, undef, undef, undef, undef, undef, undef, undef, undef, undef, undef, undef, undef, undef]) hsz ⟨hrest 0 (by kernel_rfl), hrest 1 (by kernel_rfl), hrest 2 (by kernel_rfl), hrest 3 (by kernel_rfl), hrest 4 (by kernel_rfl), hrest 5 (by kernel_rfl), hptr, hrest 7 (by kernel_rfl), hrest 8 (by kernel_rfl), hrest 9 (by kernel_rfl), hrest 10 (by kernel_rfl), hrest 11 (by kernel_rfl), hrest 12 (by kernel_rfl), hrest 13 (by kernel_rfl), hslots 14 (by kernel_rfl), hslots 15 (by kernel_rfl), hslots 16 (by kernel_rfl), hslots 17 (by kernel_rfl), hrest 18 (by kernel_rfl), hrest 19 (by kernel_rfl), hrest 20 (by kernel_rfl), hrest 21 (by kernel_rfl), hrest 22 (by kernel_rfl), hrest 23 (by kernel_rfl), hrest 24 (by kernel_rfl), hrest 25 (by kernel_rfl), hrest 26 (by kernel_rfl), hrest 27 (by kernel_rfl), hrest 28 (by kernel_rfl), hrest 29 (by kernel_rfl), hrest 30 (by kernel_rfl), trivial⟩ hdf
      clear hptr hsz hdf hrest hslots hmems hB1
      obtain ⟨sev, hf⟩ : ∃ f, f = Fe.mulF (Fe.sqF cube) q := ⟨_, rfl⟩
      have oksev : sev.Ok := by rw [hf]; exact (Fe.mul_right _ _).ok
      rw [← hf] at hb
      have Hsev := Lib.hid hf; clear hf
      have hAp := hB.e (w0.heap.size, p) (by simp)
      have c0 := hAp.cell (i := 0) rfl
      have c1 := hAp.cell (i := 1) rfl
      have c2 := hAp.cell (i := 2) rfl
      have c3 := hAp.cell (i := 3) rfl
      have c4 := hAp.cell (i := 4) rfl
      have d0 := hb.cell (i := 0) rfl
      have d1 := hb.cell (i := 1) rfl
      have d2 := hb.cell (i := 2) rfl
      have d3 := hb.cell (i := 3) rfl
      have d4 := hb.cell (i := 4) rfl
      go_wp2_with fail
      refine (mul_fe p sev _ okp oksev).mono ?_
      rintro e v3 ⟨base, hbase, rfl, hg3⟩
      have okbase : base.Ok := by rw [hbase.out]; exact (Fe.mul_right _ _).ok
      have hE3 := (hB.grown hg3).grown (World.grownBy_alloc v3 (.cells #[.int .u64 base.x0, .int .u64 base.x1, .int .u64 base.x2, .int .u64 base.x3, .int .u64 base.x4] 24) none)
      have hb7 : Blk (v3.alloc (.cells #[.int .u64 base.x0, .int .u64 base.x1, .int .u64 base.x2, .int .u64 base.x3, .int .u64 base.x4] 24)) v3.heap.size 24 (feL base) := Blk.new v3 (feL base) _
      clear hAp hB hb hK hg3 c0 c1 c2 c3 c4 d0 d1 d2 d3 d4
      go_wp2_with fail
      refine (manyOnes_any base _ okbase).mono ?_
      rintro e v4 ⟨C, on, hon, rfl, hg4, hC, hP⟩
      have okon : on.Ok := by rw [hon.out]; exact stepF_ok _ _ _
      have hb8 := hb7.grown hg4 (by simp)
      have c0 := hb8.cell (i := 0) rfl
      have c1 := hb8.cell (i := 1) rfl
      have c2 := hb8.cell (i := 2) rfl
      have c3 := hb8.cell (i := 3) rfl
      have c4 := hb8.cell (i := 4) rfl
      go_wp2_with fail
      refine (step_any C 2 on base _ (by decide) okon okbase hP).mono ?_
      rintro e v5 ⟨pw, hpw, rfl, hg5, hP5⟩
      have okpw : pw.Ok := by rw [hpw.out]; exact stepF_ok _ _ _
      have hE5 := (hE3.grown (gb_then hg4 hg5 hC)).grown (World.grownBy_alloc v5 (.cells #[.int .u64 pw.x0, .int .u64 pw.x1, .int .u64 pw.x2, .int .u64 pw.x3, .int .u64 pw.x4] 24) none)
      have hsz5 := (hE3.grown (gb_then hg4 hg5 hC)).l
      have hb9 : Blk (v5.alloc (.cells #[.int .u64 pw.x0, .int .u64 pw.x1, .int .u64 pw.x2, .int .u64 pw.x3, .int .u64 pw.x4] 24)) v5.heap.size 24 (feL pw) := Blk.new v5 (feL pw) _
      have hlt1 := (hE5.e (B1, cube) (by simp)).lt
      have hB6 : EnvB w0 (v5.heap.size + 1) [(w0.heap.size, p), (B1, cube), (v5.heap.size, pw)] [(w0.heap.size + 1 + 1)] (v5.alloc (.cells #[.int .u64 pw.x0, .int .u64 pw.x1, .int .u64 pw.x2, .int .u64 pw.x3, .int .u64 pw.x4] 24)) :=
        ⟨hE5.g, by
          intro z hz
          simp only [List.mem_cons, List.not_mem_nil, or_false] at hz
          rcases hz with rfl | rfl | rfl
          · exact hE5.e _ (by simp)
          · exact hE5.e _ (by simp)
          · exact hb9, hE5.r, by
          intro z hz
          have h1 := hE5.n (w0.heap.size, p) (by simp)
          have h2 := hE5.n (B1, cube) (by simp)
          simp only [List.mem_cons, List.not_mem_nil, or_false] at hz
          rcases hz with rfl | rfl | rfl <;> simp only [] at * <;> omega, by simp, by have := hE5.g.size; simp at this; have := hE5.m; omega⟩
      clear hE3 hE5 hb7 hb8 hb9 hg4 hg5 hP hP5 c0 c1 c2 c3 c4
      go_wp2_with fail
      refine wp_region_flow2 (itemsG (Okb w0 [(w0.heap.size, p), (B1, cube), (v5.heap.size, pw)]) [.any, .any, .any, .any, .any, .any, .any, .any, .any, .any, .any, .any, .any, .any, .any, .any, .any, .any, .any, .any, .any, .any, .any, .any, .any, .any, .val p.v, .val cube.v, .val (Fe.mulF p cube).v, .val pw.v, .val (Fe.mulF (Fe.mulF p cube) pw).v]) (fun j => if j = 5 then 4 else 0) (Stored (Okb w0 [(w0.heap.size, p), (B1, cube), (v5.heap.size, pw)]) (Fe.mulF (Fe.mulF p cube) pw)) (EnvB w0 (v5.heap.size + 1) [(w0.heap.size, p), (B1, cube), (v5.heap.size, pw)] [(w0.heap.size + 1 + 1)]) (Rel5 (Fe.mulF (Fe.mulF p cube) pw)) (by kernel_rfl) (by kernel_rfl) (by kernel_rfl) (hB6.grown (gb_drewn _)) (fun d u w1 w2 hR h => items_stab _ _ _ d u w1 w2 hR h) (fun j u w1 w2 hR h => stored_stab _ _ j u w1 w2 hR h) (by kernel_rfl) ?_ ?_
      · refine ⟨flow2_value rfl rfl fun a w h => ?_, ?_⟩
        · have e2 : a.tmps.getD 2 undef = .pointer (some ⟨w0.heap.size, 0, none⟩) := h.rest 2 (by kernel_rfl)
          have hb := h.base.e (w0.heap.size, p) (by simp)
          have c0 : w.cell? ⟨w0.heap.size, 0, none⟩ = some (.int .u64 p.x0) := hb.cell (i := 0) rfl
          have c1 : w.cell? ⟨w0.heap.size, 1, none⟩ = some (.int .u64 p.x1) := hb.cell (i := 1) rfl
          have c2 : w.cell? ⟨w0.heap.size, 2, none⟩ = some (.int .u64 p.x2) := hb.cell (i := 2) rfl
          have c3 : w.cell? ⟨w0.heap.size, 3, none⟩ = some (.int .u64 p.x3) := hb.cell (i := 3) rfl
          have c4 : w.cell? ⟨w0.heap.size, 4, none⟩ = some (.int .u64 p.x4) := hb.cell (i := 4) rfl
          refine ⟨.agg #[.int .u64 p.x0, .int .u64 p.x1, .int .u64 p.x2, .int .u64 p.x3, .int .u64 p.x4], w, ?_, h.base, rel5_refl _ _, rfl⟩
          clear h hb
          simp only [execOp, Act.eval, e2]
          go_simp
        refine ⟨flow2_value rfl rfl fun a w h => ?_, ?_⟩
        · have e5 : a.tmps.getD 5 undef = .pointer (some ⟨B1, 0, none⟩) := h.rest 5 (by kernel_rfl)
          have hb := h.base.e (B1, cube) (by simp)
          have c0 : w.cell? ⟨B1, 0, none⟩ = some (.int .u64 cube.x0) := hb.cell (i := 0) rfl
          have c1 : w.cell? ⟨B1, 1, none⟩ = some (.int .u64 cube.x1) := hb.cell (i := 1) rfl
          have c2 : w.cell? ⟨B1, 2, none⟩ = some (.int .u64 cube.x2) := hb.cell (i := 2) rfl
          have c3 : w.cell? ⟨B1, 3, none⟩ = some (.int .u64 cube.x3) := hb.cell (i := 3) rfl
          have c4 : w.cell? ⟨B1, 4, none⟩ = some (.int .u64 cube.x4) := hb.cell (i := 4) rfl
          refine ⟨.agg #[.int .u64 cube.x0, .int .u64 cube.x1, .int .u64 cube.x2, .int .u64 cube.x3, .int .u64 cube.x4], w, ?_, h.base, rel5_refl _ _, rfl⟩
          clear h hb
          simp only [execOp, Act.eval, e5]
          go_simp
        refine ⟨flow2_call rfl rfl fun a w h => ?_, ?_⟩
        · have e26 : a.tmps.getD 26 undef = p.v := h.dep 26 (by kernel_rfl)
          have e27 : a.tmps.getD 27 undef = cube.v := h.dep 27 (by kernel_rfl)
          have e26x : a.tmps[26]?.getD undef = p.v := by simpa using e26
          have e27x : a.tmps[27]?.getD undef = cube.v := by simpa using e27
          have hb := h.base
          refine ⟨7, #[p.v, cube.v], ?_, ?_⟩
          · clear h hb e26 e27
            go_simp
          · refine (mul_fe p cube w okp okcube).mono ?_
            intro e w1 hp
            obtain ⟨rfl, hg⟩ := feOut_is hp
            exact ⟨_, rfl, hb.grown hg, Or.inl hg, rfl⟩
        refine ⟨flow2_value rfl rfl fun a w h => ?_, ?_⟩
        · have e9 : a.tmps.getD 9 undef = .pointer (some ⟨v5.heap.size, 0, none⟩) := h.rest 9 (by kernel_rfl)
          have hb := h.base.e (v5.heap.size, pw) (by simp)
          have c0 : w.cell? ⟨v5.heap.size, 0, none⟩ = some (.int .u64 pw.x0) := hb.cell (i := 0) rfl
          have c1 : w.cell? ⟨v5.heap.size, 1, none⟩ = some (.int .u64 pw.x1) := hb.cell (i := 1) rfl
          have c2 : w.cell? ⟨v5.heap.size, 2, none⟩ = some (.int .u64 pw.x2) := hb.cell (i := 2) rfl
          have c3 : w.cell? ⟨v5.heap.size, 3, none⟩ = some (.int .u64 pw.x3) := hb.cell (i := 3) rfl
          have c4 : w.cell? ⟨v5.heap.size, 4, none⟩ = some (.int .u64 pw.x4) := hb.cell (i := 4) rfl
          refine ⟨.agg #[.int .u64 pw.x0, .int .u64 pw.x1, .int .u64 pw.x2, .int .u64 pw.x3, .int .u64 pw.x4], w, ?_, h.base, rel5_refl _ _, rfl⟩
          clear h hb
          simp only [execOp, Act.eval, e9]
          go_simp
        refine ⟨flow2_call rfl rfl fun a w h => ?_, ?_⟩
        · have e28 : a.tmps.getD 28 undef = (Fe.mulF p cube).v := h.dep 28 (by kernel_rfl)
          have e29 : a.tmps.getD 29 undef = pw.v := h.dep 29 (by kernel_rfl)
          have e28x : a.tmps[28]?.getD undef = (Fe.mulF p cube).v := by simpa using e28
          have e29x : a.tmps[29]?.getD undef = pw.v := by simpa using e29
          have hb := h.base
          refine ⟨7, #[(Fe.mulF p cube).v, pw.v], ?_, ?_⟩
          · clear h hb e28 e29
            go_simp
          · refine (mul_fe (Fe.mulF p cube) pw w (Fe.mul_right _ _).ok okpw).mono ?_
            intro e w1 hp
            obtain ⟨rfl, hg⟩ := feOut_is hp
            exact ⟨_, rfl, hb.grown hg, Or.inl hg, rfl⟩
        refine ⟨flow2_skip rfl rfl fun a w h => ?_, ?_⟩
        · obtain ⟨Bn, hBn⟩ : ∃ Bn, Bn = (w0.heap.size + 1 + 1) := ⟨_, rfl⟩
          have ep : a.tmps.getD 4 undef = .pointer (some ⟨Bn, 0, none⟩) := by rw [hBn]; exact h.rest 4 (by kernel_rfl)
          have hroom : Room5 w Bn 24 := by rw [hBn]; exact h.base.r _ (by simp)
          have hK : (Okb w0 [(w0.heap.size, p), (B1, cube), (v5.heap.size, pw)]) Bn := by rw [hBn]; exact ⟨by omega, by intro z hz; simp only [List.mem_cons, List.not_mem_nil, or_false] at hz; rcases hz with rfl | rfl | rfl <;> simp only [] <;> omega⟩
          clear hBn
          have e30 : a.tmps.getD 30 undef = .agg #[.int .u64 (Fe.mulF (Fe.mulF p cube) pw).x0, .int .u64 (Fe.mulF (Fe.mulF p cube) pw).x1, .int .u64 (Fe.mulF (Fe.mulF p cube) pw).x2, .int .u64 (Fe.mulF (Fe.mulF p cube) pw).x3, .int .u64 (Fe.mulF (Fe.mulF p cube) pw).x4] := h.dep 30 (by kernel_rfl)
          refine ⟨set5W w Bn (Fe.mulF (Fe.mulF p cube) pw), ?_, h.base.set hK _, Or.inr ⟨Bn, rfl, hroom⟩, ⟨Bn, ep, hK, set5W_same hroom⟩⟩
          obtain ⟨u0, u1, u2, u3, u4, hR⟩ := hroom
          have c0r := hR.cell (i := 0) rfl; have f0r := hR.free 0
          have c1r := hR.cell (i := 1) rfl; have f1r := hR.free 1
          have c2r := hR.cell (i := 2) rfl; have f2r := hR.free 2
          have c3r := hR.cell (i := 3) rfl; have f3r := hR.free 3
          have c4r := hR.cell (i := 4) rfl; have f4r := hR.free 4
          clear h hK hR
          unfold set5W
          simp only [execOp, Act.eval, ep, e30]
          go_simp
        trivial
      · intro a' w6 hB hsz hdf hrest hslots hmems
        obtain ⟨B6, hptr, hK, hb⟩ := hmems 5 _ rfl rfl
        have hR4 : a'.tmps.getD 4 undef = .pointer (some ⟨w0.heap.size + 1 + 1, 0, none⟩) := hrest 4 (by kernel_rfl)
        have hptr2 : a'.tmps.getD 4 undef = .pointer (some ⟨B6, 0, none⟩) := hptr
        rw [hR4] at hptr2
        obtain rfl : w0.heap.size + 1 + 1 = B6 := by simpa using hptr2
        obtain rfl := frame_is (a := a') (vs := [.agg #[.int .u64 p.x0, .int .u64 p.x1, .int .u64 p.x2, .int .u64 p.x3, .int .u64 p.x4], .agg #[.int .u64 q.x0, .int .u64 q.x1, .int .u64 q.x2, .int .u64 q.x3, .int .u64 q.x4], .pointer (some ⟨w0.heap.size, 0, none⟩), .pointer (some ⟨w0.heap.size + 1, 0, none⟩), .pointer (some ⟨w0.heap.size + 1 + 1, 0, none⟩), .pointer (some ⟨B1, 0, none⟩), .pointer (some ⟨B2, 0, none⟩), .pointer (some ⟨v3.heap.size, 0, none⟩), .func (.func 57) #[] #[.pointer (some ⟨C, 0, none⟩)], .pointer (some ⟨v5.heap.size, 0, none⟩), q.v, (Fe.sqF q).v, q.v, (Fe.mulF (Fe.sqF q) q).v, cube.v, (Fe.sqF cube).v, q.v, (Fe.mulF (Fe.sqF cube) q).v, .agg #[.int .u64 p.x0, .int .u64 p.x1, .int .u64 p.x2, .int .u64 p.x3, .int .u64 p.x4], .agg #[.int .u64 sev.x0, .int .u64 sev.x1, .int .u64 sev.x2, .int .u64 sev.x3, .int .u64 sev.x4], .agg #[.int .u64 base.x0, .int .u64 base.x1, .int .u64 base.x2, .int .u64 base.x3, .int .u64 base.x4], .agg #[.int .u64 base.x0, .int .u64 base.x1, .int .u64 base.x2, .int .u64 base.x3, .int .u64 base.x4], .func (.func 57) #[] #[.pointer (some ⟨C, 0, none⟩)], .func (.func 57) #[] #[.pointer (some ⟨C, 0, none⟩)], .agg #[.int .u64 base.x0, .int .u64 base.x1, .int .u64 base.x2, .int .u64 base.x3, .int .u64 base.x4], .agg #[.int .u64 pw.x0, .int .u64 pw.x1, .int .u64 pw.x2, .int .u64 pw.x3, .int .u64 pw.x4], p.v, cube.v, (Fe.mulF p cube).v, pw.v, (Fe.mulF (Fe.mulF p cube) pw).v]) hsz ⟨hrest 0 (by kernel_rfl), hrest 1 (by kernel_rfl), hrest 2 (by kernel_rfl), hrest 3 (by kernel_rfl), hrest 4 (by kernel_rfl), hrest 5 (by kernel_rfl), hrest 6 (by kernel_rfl), hrest 7 (by kernel_rfl), hrest 8 (by kernel_rfl), hrest 9 (by kernel_rfl), hrest 10 (by kernel_rfl), hrest 11 (by kernel_rfl), hrest 12 (by kernel_rfl), hrest 13 (by kernel_rfl), hrest 14 (by kernel_rfl), hrest 15 (by kernel_rfl), hrest 16 (by kernel_rfl), hrest 17 (by kernel_rfl), hrest 18 (by kernel_rfl), hrest 19 (by kernel_rfl), hrest 20 (by kernel_rfl), hrest 21 (by kernel_rfl), hrest 22 (by kernel_rfl), hrest 23 (by kernel_rfl), hrest 24 (by kernel_rfl), hrest 25 (by kernel_rfl), hslots 26 (by kernel_rfl), hslots 27 (by kernel_rfl), hslots 28 (by kernel_rfl), hslots 29 (by kernel_rfl), hslots 30 (by kernel_rfl), trivial⟩ hdf
        have G6 := hB.g
        clear hptr hptr2 hsz hdf hrest hslots hmems hB6 hR4 hB
        obtain ⟨g, hf⟩ : ∃ f, f = Fe.mulF (Fe.mulF p cube) pw := ⟨_, rfl⟩
        rw [← hf] at hb
        have Hg := Lib.hid hf; clear hf
        have c0 := hb.cell (i := 0) rfl
        have c1 := hb.cell (i := 1) rfl
        have c2 := hb.cell (i := 2) rfl
        have c3 := hb.cell (i := 3) rfl
        have c4 := hb.cell (i := 4) rfl
        go_wp2_with fail
        refine bodyPost_ret (v := .agg #[.int .u64 g.x0, .int .u64 g.x1, .int .u64 g.x2, .int .u64 g.x3, .int .u64 g.x4]) ?_ rfl ⟨g, Lib.hid ?_, rfl, G6⟩
        · simp [results, Tryd.results41, go_sem, c0, c1, c2, c3, c4]
        · rw [Hg.out, hpw.out, hon.out, hbase.out, Hsev.out, Hcube.out]; rfl
end Go.Proofs.YtjgfhihngbhljaaDoor
