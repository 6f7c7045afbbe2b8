/- field: fits. -/
import Derived.Test.YtjgfhihngbhljaaDoorFeFlow
namespace Go.Proofs.YtjgfhihngbhljaaDoor
open Go.RowKit
set_option maxRecDepth 100000 in
set_option maxHeartbeats 1600000 in
theorem fits_any (p q s : Fe) (w0 : World) (okp : p.Ok) (okq : q.Ok) (oks : s.Ok) :
    Calls Tryd.prog 42 #[.agg #[.int .u64 p.x0, .int .u64 p.x1, .int .u64 p.x2, .int .u64 p.x3, .int .u64 p.x4], .agg #[.int .u64 q.x0, .int .u64 q.x1, .int .u64 q.x2, .int .u64 q.x3, .int .u64 q.x4], .agg #[.int .u64 s.x0, .int .u64 s.x1, .int .u64 s.x2, .int .u64 s.x3, .int .u64 s.x4]] w0 fun e w' => e = .returned (.bool (decide (Fe.m (Fe.mulF (Fe.sqF p) s) = Fe.m q))) ∧ w0.grownBy w' none := by
  go_enter Tryd.func42, Tryd.ntmps42
  go_wp2
  have hB0 : EnvB w0 (w0.heap.size + 3) [(w0.heap.size, p), ((w0.heap.size + 1), q), ((w0.heap.size + 1 + 1), s)] [] (((w0.alloc (.cells #[.int .u64 p.x0, .int .u64 p.x1, .int .u64 p.x2, .int .u64 p.x3, .int .u64 p.x4] 24)).alloc (.cells #[.int .u64 q.x0, .int .u64 q.x1, .int .u64 q.x2, .int .u64 q.x3, .int .u64 q.x4] 24)).alloc (.cells #[.int .u64 s.x0, .int .u64 s.x1, .int .u64 s.x2, .int .u64 s.x3, .int .u64 s.x4] 24)) :=
    ⟨gb_alloc (gb_alloc (gb_alloc (gb_refl _ _) _) _) _, by
      intro p hp
      simp only [List.mem_cons, List.not_mem_nil, or_false] at hp
      rcases hp with rfl | rfl | rfl
      · exact ((Blk.new w0 (feL _) _).alloc _).alloc _
      · exact (Blk.newAt (w0.alloc _) (feL _) _ (by simp)).alloc _
      · exact Blk.newAt _ (feL _) _ (by simp), by simp, by intro p hp; simp only [List.mem_cons, List.not_mem_nil, or_false] at hp; rcases hp with rfl | rfl | rfl <;> simp only [] <;> omega, by simp, by omega⟩
  refine wp_region_flow2 (itemsG (Okb w0 [(w0.heap.size, p), ((w0.heap.size + 1), q), ((w0.heap.size + 1 + 1), s)]) [.any, .any, .any, .any, .any, .any, .val (.bool (decide (Fe.m (Fe.mulF (Fe.sqF p) s) = Fe.m q))), .val p.v, .val (Fe.sqF p).v, .val s.v, .val (Fe.mulF (Fe.sqF p) s).v, .val q.v, .val (.bool (decide (Fe.m (Fe.mulF (Fe.sqF p) s) = Fe.m q)))]) (fun j =>  0) (Stored (Okb w0 [(w0.heap.size, p), ((w0.heap.size + 1), q), ((w0.heap.size + 1 + 1), s)]) (Fe.zeroF)) (EnvB w0 (w0.heap.size + 3) [(w0.heap.size, p), ((w0.heap.size + 1), q), ((w0.heap.size + 1 + 1), s)] []) (Rel5 (Fe.zeroF)) (by kernel_rfl) (by kernel_rfl) (by kernel_rfl) (hB0.grown (gb_drewn _)) (fun d u w1 w2 hR h => items_stab _ _ _ d u w1 w2 hR h) (fun j u w1 w2 hR h => stored_stab _ _ j u w1 w2 hR h) (by kernel_rfl) ?_ ?_
  · refine ⟨flow2_value rfl rfl fun a w h => ?_, ?_⟩
    · have e3 : a.tmps.getD 3 undef = .pointer (some ⟨w0.heap.size, 0, none⟩) := h.rest 3 (by kernel_rfl)
      have hb := h.base.e (w0.heap.size, p) (by simp)
      have c0 : w.cell? ⟨w0.heap.size, 0, none⟩ = some (.int .u64 p.x0) := hb.cell (i := 0) rfl
      have c1 : w.cell? ⟨w0.heap.size, 1, none⟩ = some (.int .u64 p.x1) := hb.cell (i := 1) rfl
      have c2 : w.cell? ⟨w0.heap.size, 2, none⟩ = some (.int .u64 p.x2) := hb.cell (i := 2) rfl
      have c3 : w.cell? ⟨w0.heap.size, 3, none⟩ = some (.int .u64 p.x3) := hb.cell (i := 3) rfl
      have c4 : w.cell? ⟨w0.heap.size, 4, none⟩ = some (.int .u64 p.x4) := hb.cell (i := 4) rfl
      refine ⟨.agg #[.int .u64 p.x0, .int .u64 p.x1, .int .u64 p.x2, .int .u64 p.x3, .int .u64 p.x4], w, ?_, h.base, rel5_refl _ _, rfl⟩
      clear h hb
      simp only [execOp, Act.eval, e3]
      go_simp
    refine ⟨flow2_call rfl rfl fun a w h => ?_, ?_⟩
    · have e7 : a.tmps.getD 7 undef = p.v := h.dep 7 (by kernel_rfl)
      have e7x : a.tmps[7]?.getD undef = p.v := by simpa using e7
      have hb := h.base
      refine ⟨12, #[p.v], ?_, ?_⟩
      · clear h hb e7
        go_simp
      · refine (sq_fe p w okp).mono ?_
        intro e w1 hp
        obtain ⟨rfl, hg⟩ := feOut_is hp
        exact ⟨_, rfl, hb.grown hg, Or.inl hg, rfl⟩
    refine ⟨flow2_value rfl rfl fun a w h => ?_, ?_⟩
    · have e5 : a.tmps.getD 5 undef = .pointer (some ⟨(w0.heap.size + 1 + 1), 0, none⟩) := h.rest 5 (by kernel_rfl)
      have hb := h.base.e ((w0.heap.size + 1 + 1), s) (by simp)
      have c0 : w.cell? ⟨(w0.heap.size + 1 + 1), 0, none⟩ = some (.int .u64 s.x0) := hb.cell (i := 0) rfl
      have c1 : w.cell? ⟨(w0.heap.size + 1 + 1), 1, none⟩ = some (.int .u64 s.x1) := hb.cell (i := 1) rfl
      have c2 : w.cell? ⟨(w0.heap.size + 1 + 1), 2, none⟩ = some (.int .u64 s.x2) := hb.cell (i := 2) rfl
      have c3 : w.cell? ⟨(w0.heap.size + 1 + 1), 3, none⟩ = some (.int .u64 s.x3) := hb.cell (i := 3) rfl
      have c4 : w.cell? ⟨(w0.heap.size + 1 + 1), 4, none⟩ = some (.int .u64 s.x4) := hb.cell (i := 4) rfl
      refine ⟨.agg #[.int .u64 s.x0, .int .u64 s.x1, .int .u64 s.x2, .int .u64 s.x3, .int .u64 s.x4], w, ?_, h.base, rel5_refl _ _, rfl⟩
      clear h hb
      simp only [execOp, Act.eval, e5]
      go_simp
    refine ⟨flow2_call rfl rfl fun a w h => ?_, ?_⟩
    · have e8 : a.tmps.getD 8 undef = (Fe.sqF p).v := h.dep 8 (by kernel_rfl)
      have e9 : a.tmps.getD 9 undef = s.v := h.dep 9 (by kernel_rfl)
      have e8x : a.tmps[8]?.getD undef = (Fe.sqF p).v := by simpa using e8
      have e9x : a.tmps[9]?.getD undef = s.v := by simpa using e9
      have hb := h.base
      refine ⟨7, #[(Fe.sqF p).v, s.v], ?_, ?_⟩
      · clear h hb e8 e9
        go_simp
      · refine (mul_fe (Fe.sqF p) s w (Fe.sq_right _).ok oks).mono ?_
        intro e w1 hp
        obtain ⟨rfl, hg⟩ := feOut_is hp
        exact ⟨_, rfl, hb.grown hg, Or.inl hg, rfl⟩
    refine ⟨flow2_value rfl rfl fun a w h => ?_, ?_⟩
    · have e4 : a.tmps.getD 4 undef = .pointer (some ⟨(w0.heap.size + 1), 0, none⟩) := h.rest 4 (by kernel_rfl)
      have hb := h.base.e ((w0.heap.size + 1), q) (by simp)
      have c0 : w.cell? ⟨(w0.heap.size + 1), 0, none⟩ = some (.int .u64 q.x0) := hb.cell (i := 0) rfl
      have c1 : w.cell? ⟨(w0.heap.size + 1), 1, none⟩ = some (.int .u64 q.x1) := hb.cell (i := 1) rfl
      have c2 : w.cell? ⟨(w0.heap.size + 1), 2, none⟩ = some (.int .u64 q.x2) := hb.cell (i := 2) rfl
      have c3 : w.cell? ⟨(w0.heap.size + 1), 3, none⟩ = some (.int .u64 q.x3) := hb.cell (i := 3) rfl
      have c4 : w.cell? ⟨(w0.heap.size + 1), 4, none⟩ = some (.int .u64 q.x4) := hb.cell (i := 4) rfl
      refine ⟨.agg #[.int .u64 q.x0, .int .u64 q.x1, .int .u64 q.x2, .int .u64 q.x3, .int .u64 q.x4], w, ?_, h.base, rel5_refl _ _, rfl⟩
      clear h hb
      simp only [execOp, Act.eval, e4]
      go_simp
    refine ⟨flow2_call rfl rfl fun a w h => ?_, ?_⟩
    · have e10 : a.tmps.getD 10 undef = (Fe.mulF (Fe.sqF p) s).v := h.dep 10 (by kernel_rfl)
      have e11 : a.tmps.getD 11 undef = q.v := h.dep 11 (by kernel_rfl)
      have e10x : a.tmps[10]?.getD undef = (Fe.mulF (Fe.sqF p) s).v := by simpa using e10
      have e11x : a.tmps[11]?.getD undef = q.v := by simpa using e11
      have hb := h.base
      refine ⟨10, #[(Fe.mulF (Fe.sqF p) s).v, q.v], ?_, ?_⟩
      · clear h hb e10 e11
        go_simp
      · refine (same_any (Fe.mulF (Fe.sqF p) s) q w (Fe.mul_right _ _).ok okq).mono ?_
        intro e w1 hp
        obtain ⟨rfl, hg⟩ := hp
        exact ⟨_, rfl, hb.grown hg, Or.inl hg, rfl⟩
    refine ⟨flow2_value rfl rfl fun a w h => ?_, ?_⟩
    · have e12 : a.tmps.getD 12 undef = .bool (decide (Fe.m (Fe.mulF (Fe.sqF p) s) = Fe.m q)) := h.dep 12 (by kernel_rfl)
      refine ⟨.bool (decide (Fe.m (Fe.mulF (Fe.sqF p) s) = Fe.m q)), w, ?_, h.base, rel5_refl _ _, rfl⟩
      clear h
      simp only [execOp, Act.eval, e12]
      go_simp
    trivial
  · intro a w1 hB hsz hdf hrest hslots hmems
    have hg := hB.g
    obtain rfl := frame_is (a := a) (vs := [.agg #[.int .u64 p.x0, .int .u64 p.x1, .int .u64 p.x2, .int .u64 p.x3, .int .u64 p.x4], .agg #[.int .u64 q.x0, .int .u64 q.x1, .int .u64 q.x2, .int .u64 q.x3, .int .u64 q.x4], .agg #[.int .u64 s.x0, .int .u64 s.x1, .int .u64 s.x2, .int .u64 s.x3, .int .u64 s.x4], .pointer (some ⟨w0.heap.size, 0, none⟩), .pointer (some ⟨w0.heap.size + 1, 0, none⟩), .pointer (some ⟨w0.heap.size + 1 + 1, 0, none⟩), .bool (decide (Fe.m (Fe.mulF (Fe.sqF p) s) = Fe.m q)), p.v, (Fe.sqF p).v, s.v, (Fe.mulF (Fe.sqF p) s).v, q.v, .bool (decide (Fe.m (Fe.mulF (Fe.sqF p) s) = Fe.m q))]) hsz ⟨hrest 0 (by kernel_rfl), hrest 1 (by kernel_rfl), hrest 2 (by kernel_rfl), hrest 3 (by kernel_rfl), hrest 4 (by kernel_rfl), hrest 5 (by kernel_rfl), hslots 6 (by kernel_rfl), hslots 7 (by kernel_rfl), hslots 8 (by kernel_rfl), hslots 9 (by kernel_rfl), hslots 10 (by kernel_rfl), hslots 11 (by kernel_rfl), hslots 12 (by kernel_rfl), trivial⟩ hdf
    clear hB hsz hdf hrest hslots hmems
    go_wp2
    go_ret
    exact ⟨rfl, hg⟩
end Go.Proofs.YtjgfhihngbhljaaDoor
