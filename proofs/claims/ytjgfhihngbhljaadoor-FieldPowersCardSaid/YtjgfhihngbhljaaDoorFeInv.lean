/- field: Invert. -/
import Derived.Test.YtjgfhihngbhljaaDoorFeFits
namespace Go.Proofs.YtjgfhihngbhljaaDoor
open Go.RowKit
def invF (a : Fe) : Fe := stepF 5 (ones10 a) (Fe.mulF (Fe.sqF (Fe.sqF (Fe.sqF a))) (Fe.mulF (Fe.sqF a) a))
set_option maxRecDepth 100000 in
set_option maxHeartbeats 1600000 in
theorem invert_any (p : Fe) (w0 : World) (okp : p.Ok) :
    Calls Tryd.prog 24 #[.agg #[.int .u64 p.x0, .int .u64 p.x1, .int .u64 p.x2, .int .u64 p.x3, .int .u64 p.x4]] w0 (FeOut (invF p) w0) := by
  have hA0 : ∀ o, Blk ((w0.alloc (.cells #[.int .u64 p.x0, .int .u64 p.x1, .int .u64 p.x2, .int .u64 p.x3, .int .u64 p.x4] 24)).alloc o) w0.heap.size 24 (feL p) := fun o => (Blk.new w0 (feL p) _).alloc o
  have hR0 : Room5 ((w0.alloc (.cells #[.int .u64 p.x0, .int .u64 p.x1, .int .u64 p.x2, .int .u64 p.x3, .int .u64 p.x4] 24)).alloc (.cells #[.int .u64 0, .int .u64 0, .int .u64 0, .int .u64 0, .int .u64 0] 24)) (w0.heap.size + 1) 24 := ⟨_, _, _, _, _, Blk.newAt _ [.int .u64 0, .int .u64 0, .int .u64 0, .int .u64 0, .int .u64 0] _ (by simp)⟩
  have hg0 : ∀ c0 c1, w0.grownBy ((w0.alloc c0).alloc c1) none := fun c0 c1 => gb_alloc (gb_alloc (gb_refl _ _) _) _
  go_enter Tryd.func24, Tryd.ntmps24
  go_wp2_with fail
  refine (sq_fe p _ okp).mono ?_
  rintro e v1 ⟨q1, hq1, rfl, hg1⟩
  have ok1 : q1.Ok := by rw [hq1.out]; exact (Fe.sq_right _).ok
  have hA1 := (hA0 _).grown hg1 (by simp)
  have hR1 := hR0.grown hg1 (by simp)
  have G1 := gb_trans (hg0 _ _) hg1
  clear hA0 hR0 hg0 hg1
  go_wp2_with fail
  refine (sq_fe q1 _ ok1).mono ?_
  rintro e v2 ⟨q2, hq2, rfl, hg2⟩
  have ok2 : q2.Ok := by rw [hq2.out]; exact (Fe.sq_right _).ok
  have hA2 := hA1.grown hg2 (by simp)
  have hR2 := hR1.grown hg2 (by simp)
  have G2 := gb_trans G1 hg2
  clear hA1 hR1 G1 hg2
  go_wp2_with fail
  refine (sq_fe q2 _ ok2).mono ?_
  rintro e v3 ⟨q3, hq3, rfl, hg3⟩
  have okq3 : q3.Ok := by rw [hq3.out]; exact (Fe.sq_right _).ok
  have hA3 := hA2.grown hg3 (by simp)
  have hR3 := hR2.grown hg3 (by simp)
  have G3 := gb_trans G2 hg3
  have hlt := hR3
  obtain ⟨_, _, _, _, _, hlt⟩ := hlt
  have hlt := hlt.lt
  clear hA2 hR2 G2 hg3
  have hB0 : EnvB w0 (v3.heap.size + 1) [(w0.heap.size, p), (v3.heap.size, q3)] [(w0.heap.size + 1)] (v3.alloc (.cells #[.int .u64 q3.x0, .int .u64 q3.x1, .int .u64 q3.x2, .int .u64 q3.x3, .int .u64 q3.x4] 24)) :=
    ⟨gb_alloc G3 _, by
      intro z hz
      simp only [List.mem_cons, List.not_mem_nil, or_false] at hz
      rcases hz with rfl | rfl
      · exact hA3.alloc _
      · exact Blk.new v3 (feL _) _, by
      intro B hB
      simp only [List.mem_cons, List.not_mem_nil, or_false] at hB
      subst hB
      exact hR3.grown (World.grownBy_alloc _ _ none) (by simp), by intro z hz; simp only [List.mem_cons, List.not_mem_nil, or_false] at hz; rcases hz with rfl | rfl <;> simp only [] <;> omega, by simp, by omega⟩
  clear hA3 hR3 G3
  go_wp2_with fail
  refine wp_region_flow2 (itemsG (Okb w0 [(w0.heap.size, p), (v3.heap.size, q3)]) [.any, .any, .any, .any, .ptr, .any, .any, .any, .any, .any, .val q3.v, .val p.v, .val (Fe.sqF p).v, .val p.v, .val (Fe.mulF (Fe.sqF p) p).v, .val (Fe.mulF q3 (Fe.mulF (Fe.sqF p) p)).v, .any, .any, .any, .any, .any]) (fun j => if j = 7 then 4 else 0) (Stored (Okb w0 [(w0.heap.size, p), (v3.heap.size, q3)]) (Fe.mulF q3 (Fe.mulF (Fe.sqF p) p))) (EnvB w0 (v3.heap.size + 1) [(w0.heap.size, p), (v3.heap.size, q3)] [(w0.heap.size + 1)]) (Rel5 (Fe.mulF q3 (Fe.mulF (Fe.sqF p) p))) (by kernel_rfl) (by kernel_rfl) (by kernel_rfl) (hB0.grown (gb_drewn _)) (fun d u w1 w2 hR h => items_stab _ _ _ d u w1 w2 hR h) (fun j u w1 w2 hR h => stored_stab _ _ j u w1 w2 hR h) (by kernel_rfl) ?_ ?_
  · refine ⟨flow2_value rfl rfl fun a w h => ?_, ?_⟩
    · have e3 : a.tmps.getD 3 undef = .pointer (some ⟨v3.heap.size, 0, none⟩) := h.rest 3 (by kernel_rfl)
      have hb := h.base.e (v3.heap.size, q3) (by simp)
      have c0 : w.cell? ⟨v3.heap.size, 0, none⟩ = some (.int .u64 q3.x0) := hb.cell (i := 0) rfl
      have c1 : w.cell? ⟨v3.heap.size, 1, none⟩ = some (.int .u64 q3.x1) := hb.cell (i := 1) rfl
      have c2 : w.cell? ⟨v3.heap.size, 2, none⟩ = some (.int .u64 q3.x2) := hb.cell (i := 2) rfl
      have c3 : w.cell? ⟨v3.heap.size, 3, none⟩ = some (.int .u64 q3.x3) := hb.cell (i := 3) rfl
      have c4 : w.cell? ⟨v3.heap.size, 4, none⟩ = some (.int .u64 q3.x4) := hb.cell (i := 4) rfl
      refine ⟨.agg #[.int .u64 q3.x0, .int .u64 q3.x1, .int .u64 q3.x2, .int .u64 q3.x3, .int .u64 q3.x4], w, ?_, h.base, rel5_refl _ _, rfl⟩
      clear h hb
      simp only [execOp, Act.eval, e3]
      go_simp
    refine ⟨flow2_value rfl rfl fun a w h => ?_, ?_⟩
    · have e1 : a.tmps.getD 1 undef = .pointer (some ⟨w0.heap.size, 0, none⟩) := h.rest 1 (by kernel_rfl)
      have hb := h.base.e (w0.heap.size, p) (by simp)
      have c0 : w.cell? ⟨w0.heap.size, 0, none⟩ = some (.int .u64 p.x0) := hb.cell (i := 0) rfl
      have c1 : w.cell? ⟨w0.heap.size, 1, none⟩ = some (.int .u64 p.x1) := hb.cell (i := 1) rfl
      have c2 : w.cell? ⟨w0.heap.size, 2, none⟩ = some (.int .u64 p.x2) := hb.cell (i := 2) rfl
      have c3 : w.cell? ⟨w0.heap.size, 3, none⟩ = some (.int .u64 p.x3) := hb.cell (i := 3) rfl
      have c4 : w.cell? ⟨w0.heap.size, 4, none⟩ = some (.int .u64 p.x4) := hb.cell (i := 4) rfl
      refine ⟨.agg #[.int .u64 p.x0, .int .u64 p.x1, .int .u64 p.x2, .int .u64 p.x3, .int .u64 p.x4], w, ?_, h.base, rel5_refl _ _, rfl⟩
      clear h hb
      simp only [execOp, Act.eval, e1]
      go_simp
    refine ⟨flow2_call rfl rfl fun a w h => ?_, ?_⟩
    · have e11 : a.tmps.getD 11 undef = p.v := h.dep 11 (by kernel_rfl)
      have e11x : a.tmps[11]?.getD undef = p.v := by simpa using e11
      have hb := h.base
      refine ⟨12, #[p.v], ?_, ?_⟩
      · clear h hb e11
        go_simp
      · refine (sq_fe p w okp).mono ?_
        intro e w1 hp
        obtain ⟨rfl, hg⟩ := feOut_is hp
        exact ⟨_, rfl, hb.grown hg, Or.inl hg, rfl⟩
    refine ⟨flow2_value rfl rfl fun a w h => ?_, ?_⟩
    · have e1 : a.tmps.getD 1 undef = .pointer (some ⟨w0.heap.size, 0, none⟩) := h.rest 1 (by kernel_rfl)
      have hb := h.base.e (w0.heap.size, p) (by simp)
      have c0 : w.cell? ⟨w0.heap.size, 0, none⟩ = some (.int .u64 p.x0) := hb.cell (i := 0) rfl
      have c1 : w.cell? ⟨w0.heap.size, 1, none⟩ = some (.int .u64 p.x1) := hb.cell (i := 1) rfl
      have c2 : w.cell? ⟨w0.heap.size, 2, none⟩ = some (.int .u64 p.x2) := hb.cell (i := 2) rfl
      have c3 : w.cell? ⟨w0.heap.size, 3, none⟩ = some (.int .u64 p.x3) := hb.cell (i := 3) rfl
      have c4 : w.cell? ⟨w0.heap.size, 4, none⟩ = some (.int .u64 p.x4) := hb.cell (i := 4) rfl
      refine ⟨.agg #[.int .u64 p.x0, .int .u64 p.x1, .int .u64 p.x2, .int .u64 p.x3, .int .u64 p.x4], w, ?_, h.base, rel5_refl _ _, rfl⟩
      clear h hb
      simp only [execOp, Act.eval, e1]
      go_simp
    refine ⟨flow2_call rfl rfl fun a w h => ?_, ?_⟩
    · have e12 : a.tmps.getD 12 undef = (Fe.sqF p).v := h.dep 12 (by kernel_rfl)
      have e13 : a.tmps.getD 13 undef = p.v := h.dep 13 (by kernel_rfl)
      have e12x : a.tmps[12]?.getD undef = (Fe.sqF p).v := by simpa using e12
      have e13x : a.tmps[13]?.getD undef = p.v := by simpa using e13
      have hb := h.base
      refine ⟨7, #[(Fe.sqF p).v, p.v], ?_, ?_⟩
      · clear h hb e12 e13
        go_simp
      · refine (mul_fe (Fe.sqF p) p w (Fe.sq_right _).ok okp).mono ?_
        intro e w1 hp
        obtain ⟨rfl, hg⟩ := feOut_is hp
        exact ⟨_, rfl, hb.grown hg, Or.inl hg, rfl⟩
    refine ⟨flow2_call rfl rfl fun a w h => ?_, ?_⟩
    · have e10 : a.tmps.getD 10 undef = q3.v := h.dep 10 (by kernel_rfl)
      have e14 : a.tmps.getD 14 undef = (Fe.mulF (Fe.sqF p) p).v := h.dep 14 (by kernel_rfl)
      have e10x : a.tmps[10]?.getD undef = q3.v := by simpa using e10
      have e14x : a.tmps[14]?.getD undef = (Fe.mulF (Fe.sqF p) p).v := by simpa using e14
      have hb := h.base
      refine ⟨7, #[q3.v, (Fe.mulF (Fe.sqF p) p).v], ?_, ?_⟩
      · clear h hb e10 e14
        go_simp
      · refine (mul_fe q3 (Fe.mulF (Fe.sqF p) p) w okq3 (Fe.mul_right _ _).ok).mono ?_
        intro e w1 hp
        obtain ⟨rfl, hg⟩ := feOut_is hp
        exact ⟨_, rfl, hb.grown hg, Or.inl hg, rfl⟩
    refine ⟨flow2_value rfl rfl fun a w h => ?_, ?_⟩
    · refine ⟨.pointer (some ⟨w.heap.size, 0, none⟩), w.alloc (.cells #[.int .u64 0, .int .u64 0, .int .u64 0, .int .u64 0, .int .u64 0] 24), ?_, h.base.grown (World.grownBy_alloc _ _ _), Or.inl (World.grownBy_alloc _ _ _), ⟨w.heap.size, rfl, ⟨_, _, _, _, _, Blk.new w [.int .u64 0, .int .u64 0, .int .u64 0, .int .u64 0, .int .u64 0] _⟩, h.base.fresh⟩⟩
      clear h
      go_simp
    refine ⟨flow2_skip rfl rfl fun a w h => ?_, ?_⟩
    · obtain ⟨Bn, ep, hroom, hK⟩ : ∃ Bn, a.tmps.getD 4 undef = .pointer (some ⟨Bn, 0, none⟩) ∧ Room5 w Bn 24 ∧ (Okb w0 [(w0.heap.size, p), (v3.heap.size, q3)]) Bn := h.dep 4 (by kernel_rfl)
      have e15 : a.tmps.getD 15 undef = .agg #[.int .u64 (Fe.mulF q3 (Fe.mulF (Fe.sqF p) p)).x0, .int .u64 (Fe.mulF q3 (Fe.mulF (Fe.sqF p) p)).x1, .int .u64 (Fe.mulF q3 (Fe.mulF (Fe.sqF p) p)).x2, .int .u64 (Fe.mulF q3 (Fe.mulF (Fe.sqF p) p)).x3, .int .u64 (Fe.mulF q3 (Fe.mulF (Fe.sqF p) p)).x4] := h.dep 15 (by kernel_rfl)
      refine ⟨set5W w Bn (Fe.mulF q3 (Fe.mulF (Fe.sqF p) p)), ?_, h.base.set hK _, Or.inr ⟨Bn, rfl, hroom⟩, ⟨Bn, ep, hK, set5W_same hroom⟩⟩
      obtain ⟨u0, u1, u2, u3, u4, hR⟩ := hroom
      have c0r := hR.cell (i := 0) rfl; have f0r := hR.free 0
      have c1r := hR.cell (i := 1) rfl; have f1r := hR.free 1
      have c2r := hR.cell (i := 2) rfl; have f2r := hR.free 2
      have c3r := hR.cell (i := 3) rfl; have f3r := hR.free 3
      have c4r := hR.cell (i := 4) rfl; have f4r := hR.free 4
      clear h hK hR
      unfold set5W
      simp only [execOp, Act.eval, ep, e15]
      go_simp
    trivial
  · intro a' w1 hB hsz hdf hrest hslots hmems
    obtain ⟨Bn, hptr, hK, hb⟩ := hmems 7 _ rfl rfl
    obtain rfl := frame_is (a := a') (vs := [.agg #[.int .u64 p.x0, .int .u64 p.x1, .int .u64 p.x2, .int .u64 p.x3, .int .u64 p.x4], .pointer (some ⟨w0.heap.size, 0, none⟩), .pointer (some ⟨w0.heap.size + 1, 0, none⟩), .pointer (some ⟨v3.heap.size, 0, none⟩), .pointer (some ⟨Bn, 0, none⟩), undef, .agg #[.int .u64 p.x0, .int .u64 p.x1, .int .u64 p.x2, .int .u64 p.x3, .int .u64 p.x4], .agg #[.int .u64 q1.x0, .int .u64 q1.x1, .int .u64 q1.x2, .int .u64 q1.x3, .int .u64 q1.x4], .agg #[.int .u64 q2.x0, .int .u64 q2.x1, .int .u64 q2.x2, .int .u64 q2.x3, .int .u64 q2.x4], .agg #[.int .u64 q3.x0, .int .u64 q3.x1, .int .u64 q3.x2, .int .u64 q3.x3, .int .u64 q3.x4], q3.v, p.v, (Fe.sqF p).v, p.v, (Fe.mulF (Fe.sqF p) p).v, (Fe.mulF q3 (Fe.mulF (Fe.sqF p) p)).v, undef, undef, undef, undef, undef]) hsz ⟨hrest 0 (by kernel_rfl), hrest 1 (by kernel_rfl), hrest 2 (by kernel_rfl), hrest 3 (by kernel_rfl), hptr, hrest 5 (by kernel_rfl), hrest 6 (by kernel_rfl), hrest 7 (by kernel_rfl), hrest 8 (by kernel_rfl), hrest 9 (by kernel_rfl), hslots 10 (by kernel_rfl), hslots 11 (by kernel_rfl), hslots 12 (by kernel_rfl), hslots 13 (by kernel_rfl), hslots 14 (by kernel_rfl), hslots 15 (by kernel_rfl), hrest 16 (by kernel_rfl), hrest 17 (by kernel_rfl), hrest 18 (by kernel_rfl), hrest 19 (by kernel_rfl), hrest 20 (by kernel_rfl), trivial⟩ hdf
    clear hptr hsz hdf hrest hslots hmems hB0
    obtain ⟨f, hf⟩ : ∃ f, f = Fe.mulF q3 (Fe.mulF (Fe.sqF p) p) := ⟨_, rfl⟩
    have okf : f.Ok := by rw [hf]; exact (Fe.mul_right _ _).ok
    rw [← hf] at hb
    have Hf := Lib.hid hf; clear hf
    have hAx := hB.e (w0.heap.size, p) (by simp)
    have hRx := hB.r _ (List.mem_singleton.2 rfl)
    have G4 := hB.g
    have hltb := hb.lt
    have hKn := hK.1
    have hKa := hK.2 (w0.heap.size, p) (by simp)
    clear hK hB
    have c0 := hAx.cell (i := 0) rfl
    have c1 := hAx.cell (i := 1) rfl
    have c2 := hAx.cell (i := 2) rfl
    have c3 := hAx.cell (i := 3) rfl
    have c4 := hAx.cell (i := 4) rfl
    go_wp2_with fail
    refine (manyOnes_any p _ okp).mono ?_
    rintro e w2 ⟨C, q, hq, rfl, hg5, hC, hP⟩
    have okq : q.Ok := by rw [hq.out]; exact stepF_ok _ _ _
    have hb2 := hb.grown hg5 (by simp)
    have hR5 := hRx.grown hg5 (by simp)
    have G5 := gb_trans G4 hg5
    have hs5 := hg5.size
    clear hAx hRx hb G4 hg5 c0 c1 c2 c3 c4
    have c0 := hb2.cell (i := 0) rfl
    have c1 := hb2.cell (i := 1) rfl
    have c2 := hb2.cell (i := 2) rfl
    have c3 := hb2.cell (i := 3) rfl
    have c4 := hb2.cell (i := 4) rfl
    go_wp2_with fail
    refine (step_any C 5 q f _ (by decide) okq okf hP).mono ?_
    rintro e w3 ⟨g, hgg, rfl, hg6, hP6⟩
    have hR6 := hR5.grown hg6 (some_ne (by omega))
    have G6 := gb_then G5 hg6 (by omega)
    obtain ⟨u0, u1, u2, u3, u4, hR7⟩ := hR6
    clear hR5 hb2 G5 hg6 c0 c1 c2 c3 c4
    have t0 := hR7.cell (i := 0) rfl
    have t1 := hR7.cell (i := 1) rfl
    have t2 := hR7.cell (i := 2) rfl
    have t3 := hR7.cell (i := 3) rfl
    have t4 := hR7.cell (i := 4) rfl
    have y0 := hR7.free 0
    have y1 := hR7.free 1
    have y2 := hR7.free 2
    have y3 := hR7.free 3
    have y4 := hR7.free 4
    go_wp2_with fail
    refine bodyPost_ret (v := .agg #[.int .u64 g.x0, .int .u64 g.x1, .int .u64 g.x2, .int .u64 g.x3, .int .u64 g.x4]) ?_ rfl ⟨g, Lib.hid ?_, rfl, gb_set5 G6 (by omega) _ _ _ _ _⟩
    · simp [results, Tryd.results24, go_sem, t0, t1, t2, t3, t4]
    · rw [hgg.out, hq.out, Hf.out, hq3.out, hq2.out, hq1.out]; rfl
end Go.Proofs.YtjgfhihngbhljaaDoor
