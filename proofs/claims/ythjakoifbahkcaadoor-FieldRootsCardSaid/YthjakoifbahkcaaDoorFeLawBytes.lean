/- field: FieldBytes, walked. -/
import Derived.Test.YthjakoifbahkcaaDoorFeAwake
namespace Go.Proofs.YthjakoifbahkcaaDoor
open Go.RowKit
theorem odd_neg {a : Fe} (h : Fe.Right a) : (Fe.m a = 0 ∧ decide (Fe.m a = 0) = true ∧ decide (Fe.m a % 2 = 1) = false ∧ decide (Fe.m (Fe.negF a) % 2 = 1) = false) ∨ (decide (Fe.m a = 0) = false ∧ decide (Fe.m a % 2 = 1) = true ∧ decide (Fe.m (Fe.negF a) % 2 = 1) = false) ∨ (decide (Fe.m a = 0) = false ∧ decide (Fe.m a % 2 = 1) = false ∧ decide (Fe.m (Fe.negF a) % 2 = 1) = true) := by
  rw [neg_m h]
  have hl := Fe.m_lt a
  generalize Fe.m a = x at *
  simp only [decide_eq_true_eq, decide_eq_false_iff_not]
  by_cases hz : x = 0
  · subst hz; left; decide +kernel
  · have e : (Fe.P - x) % Fe.P = Fe.P - x := Nat.mod_eq_of_lt (by unfold Fe.P at *; omega)
    rw [e]
    have hp : Fe.P % 2 = 1 := by decide +kernel
    right
    omega

theorem right_two {a b : Fe} (oka : a.Ok) (okb : b.Ok) (h : [a, b].all rightB = true) : a.Right ∧ b.Right := by
  simp only [List.all_cons, List.all_nil, Bool.and_true, Bool.and_eq_true] at h
  exact ⟨(rightB_is oka).1 h.1, (rightB_is okb).1 h.2⟩
set_option maxRecDepth 100000 in
set_option maxHeartbeats 6400000 in
theorem bytes_walk (fa fb : Fe) (w0 : World) (hT : FTab w0) (oka : fa.Ok) (okb : fb.Ok) : Calls Tryd.prog 6 #[.agg #[.int .u64 fa.x0, .int .u64 fa.x1, .int .u64 fa.x2, .int .u64 fa.x3, .int .u64 fa.x4], .agg #[.int .u64 fb.x0, .int .u64 fb.x1, .int .u64 fb.x2, .int .u64 fb.x3, .int .u64 fb.x4]] w0 fun e w' => e = .returned (.bool true) ∧ w0.grownBy w' none := by
  have HT := Lib.hid hT; clear hT
  go_enter Tryd.func6, Tryd.ntmps6
  go_wp2_with fail
  have G0 : w0.grownBy ((w0.alloc (.cells #[.int .u64 fa.x0, .int .u64 fa.x1, .int .u64 fa.x2, .int .u64 fa.x3, .int .u64 fa.x4] 24)).alloc (.cells #[.int .u64 fb.x0, .int .u64 fb.x1, .int .u64 fb.x2, .int .u64 fb.x3, .int .u64 fb.x4] 24)) none := gb_alloc (gb_alloc (gb_refl _ _) _) _
  have ha0 : Blk ((w0.alloc (.cells #[.int .u64 fa.x0, .int .u64 fa.x1, .int .u64 fa.x2, .int .u64 fa.x3, .int .u64 fa.x4] 24)).alloc (.cells #[.int .u64 fb.x0, .int .u64 fb.x1, .int .u64 fb.x2, .int .u64 fb.x3, .int .u64 fb.x4] 24)) w0.heap.size 24 (feL fa) := (Blk.new w0 (feL fa) _).alloc _
  have hb0 : Blk ((w0.alloc (.cells #[.int .u64 fa.x0, .int .u64 fa.x1, .int .u64 fa.x2, .int .u64 fa.x3, .int .u64 fa.x4] 24)).alloc (.cells #[.int .u64 fb.x0, .int .u64 fb.x1, .int .u64 fb.x2, .int .u64 fb.x3, .int .u64 fb.x4] 24)) (w0.heap.size + 1) 24 (feL fb) := Blk.newAt (w0.alloc _) (feL fb) _ (by simp)
  have hl0 : w0.heap.size + 1 < ((w0.alloc (.cells #[.int .u64 fa.x0, .int .u64 fa.x1, .int .u64 fa.x2, .int .u64 fa.x3, .int .u64 fa.x4] 24)).alloc (.cells #[.int .u64 fb.x0, .int .u64 fb.x1, .int .u64 fb.x2, .int .u64 fb.x3, .int .u64 fb.x4] 24)).heap.size := by simp
  refine (awake_any _ (HT.out.grown G0)).mono ?_
  rintro e v1 ⟨rfl, hg1⟩
  have ha1 := ha0.grown hg1 (by simp)
  have hb1 := hb0.grown hg1 (by simp)
  have hl1 := Nat.lt_of_lt_of_le hl0 hg1.size
  have G1 := gb_trans G0 hg1
  clear ha0 hb0 hl0 hg1 G0
  have a0 := ha1.cell (i := 0) rfl; have a1 := ha1.cell (i := 1) rfl; have a2 := ha1.cell (i := 2) rfl; have a3 := ha1.cell (i := 3) rfl; have a4 := ha1.cell (i := 4) rfl
  have b0 := hb1.cell (i := 0) rfl; have b1 := hb1.cell (i := 1) rfl; have b2 := hb1.cell (i := 2) rfl; have b3 := hb1.cell (i := 3) rfl; have b4 := hb1.cell (i := 4) rfl
  go_wp2_with fail
  clear a0 a1 a2 a3 a4 b0 b1 b2 b3 b4
  refine (right_any v1.heap.size 2 [fa, fb] _ rfl (by decide) (by simp [oka, okb]) (Blk.new v1 (fesL [fa, fb]) _)).mono ?_
  rintro e w' ⟨rfl, rfl⟩
  by_cases hR : [fa, fb].all rightB = true
  case neg =>
    rw [Bool.eq_false_iff.2 hR]
    have G2 := gb_alloc G1 (.cells (fesL [fa, fb]).toArray 24)
    go_wp2
    go_ret
    exact ⟨rfl, G2⟩
  rw [hR]
  obtain ⟨ra, rb⟩ := right_two oka okb hR
  have HRA := Lib.hid ra; have HRB := Lib.hid rb; clear ra rb
  clear hR
  have G2 := gb_alloc G1 (.cells (fesL [fa, fb]).toArray 24)
  have ha2 := ha1.alloc (.cells (fesL [fa, fb]).toArray 24)
  have hb2 := hb1.alloc (.cells (fesL [fa, fb]).toArray 24)
  have hl2 : w0.heap.size + 1 < (v1.alloc (.cells (fesL [fa, fb]).toArray 24)).heap.size := by simp; omega
  go_wp2_with fail
  obtain ⟨W5, hW5⟩ : ∃ W, W = v1.alloc (.cells (fesL [fa, fb]).toArray 24) := ⟨_, rfl⟩
  rw [← hW5] at G2 ha2 hb2 hl2 ⊢
  clear hW5 G1 ha1 hb1 hl1
  have hB5 : EnvB W5 W5.heap.size [(w0.heap.size, fa), (w0.heap.size + 1, fb)] [] W5 := ⟨gb_refl _ _, by
      intro p hp
      simp only [List.mem_cons, List.not_mem_nil, or_false] at hp
      rcases hp with rfl | rfl
      · exact ha2
      · exact hb2, by simp, by
      intro p hp
      simp only [List.mem_cons, List.not_mem_nil, or_false] at hp
      rcases hp with rfl | rfl
      · exact Nat.lt_of_succ_lt hl2
      · exact hl2, Nat.le_refl _, Nat.le_refl _⟩
  refine wp_region_flow3 (items3 (Okb W5 [(w0.heap.size, fa), ((w0.heap.size + 1), fb)]) [.any, .any, .any, .any, .any, .bytes ((Fe.m fa : Int)), .bytes ((Fe.m fb : Int)), .any, .any, .any, .any, .any, .any, .any, .any, .any, .val (fa.v), .bytes ((Fe.m fa : Int)), .val (fb.v), .bytes ((Fe.m fb : Int)), .any, .any, .any, .any, .any, .any, .any, .any, .any, .any, .any, .any, .any, .any, .any, .any, .any, .any, .any, .any, .any, .any, .any, .any, .any, .any, .any, .any, .any, .any, .any, .any, .any, .any, .any, .any, .any, .any, .any, .any, .any]) (fun j =>  0) (Stored3 (Okb W5 [(w0.heap.size, fa), ((w0.heap.size + 1), fb)]) (fun j =>  Fe.zeroF)) (EnvB W5 W5.heap.size [(w0.heap.size, fa), ((w0.heap.size + 1), fb)] []) [] (by kernel_rfl) (by kernel_rfl) (by kernel_rfl) (hB5.grown (gb_drewn _)) (fun s hs => by cases hs) (by kernel_rfl) ?_ ?_
  · refine ⟨fe3_value rfl (by decide) fun a w h => ?_, ?_⟩
    · have e2 : a.tmps.getD 2 undef = .pointer (some ⟨w0.heap.size, 0, none⟩) := h.rest 2 (by kernel_rfl)
      have hb := h.base.e (w0.heap.size, fa) (by simp)
      have c0 : w.cell? ⟨w0.heap.size, 0, none⟩ = some (.int .u64 fa.x0) := hb.cell (i := 0) rfl
      have c1 : w.cell? ⟨w0.heap.size, 1, none⟩ = some (.int .u64 fa.x1) := hb.cell (i := 1) rfl
      have c2 : w.cell? ⟨w0.heap.size, 2, none⟩ = some (.int .u64 fa.x2) := hb.cell (i := 2) rfl
      have c3 : w.cell? ⟨w0.heap.size, 3, none⟩ = some (.int .u64 fa.x3) := hb.cell (i := 3) rfl
      have c4 : w.cell? ⟨w0.heap.size, 4, none⟩ = some (.int .u64 fa.x4) := hb.cell (i := 4) rfl
      refine ⟨wants_none rfl, .agg #[.int .u64 fa.x0, .int .u64 fa.x1, .int .u64 fa.x2, .int .u64 fa.x3, .int .u64 fa.x4], w, ?_, gb_refl _ _, rfl⟩
      clear h hb
      simp only [execOp, Act.eval, e2]
      go_simp
    refine ⟨fe3_call rfl (by decide) fun a w h => ?_, ?_⟩
    · have e16 : a.tmps.getD 16 undef = fa.v := h.dep 16 (by kernel_rfl)
      have e16x : a.tmps[16]?.getD undef = fa.v := by simpa using e16
      have hb := h.base
      refine ⟨wants_none rfl, 9, #[fa.v], ?_, ?_⟩
      · clear h hb e16
        go_simp
      · refine (put_any fa w oka).mono ?_
        intro e w1 hp
        obtain ⟨NB, rfl, hg, _, hbb⟩ := hp
        exact ⟨_, rfl, hg, ⟨NB, rfl, _, hbb⟩⟩
    refine ⟨fe3_value rfl (by decide) fun a w h => ?_, ?_⟩
    · have e3 : a.tmps.getD 3 undef = .pointer (some ⟨(w0.heap.size + 1), 0, none⟩) := h.rest 3 (by kernel_rfl)
      have hb := h.base.e ((w0.heap.size + 1), fb) (by simp)
      have c0 : w.cell? ⟨(w0.heap.size + 1), 0, none⟩ = some (.int .u64 fb.x0) := hb.cell (i := 0) rfl
      have c1 : w.cell? ⟨(w0.heap.size + 1), 1, none⟩ = some (.int .u64 fb.x1) := hb.cell (i := 1) rfl
      have c2 : w.cell? ⟨(w0.heap.size + 1), 2, none⟩ = some (.int .u64 fb.x2) := hb.cell (i := 2) rfl
      have c3 : w.cell? ⟨(w0.heap.size + 1), 3, none⟩ = some (.int .u64 fb.x3) := hb.cell (i := 3) rfl
      have c4 : w.cell? ⟨(w0.heap.size + 1), 4, none⟩ = some (.int .u64 fb.x4) := hb.cell (i := 4) rfl
      refine ⟨wants_none rfl, .agg #[.int .u64 fb.x0, .int .u64 fb.x1, .int .u64 fb.x2, .int .u64 fb.x3, .int .u64 fb.x4], w, ?_, gb_refl _ _, rfl⟩
      clear h hb
      simp only [execOp, Act.eval, e3]
      go_simp
    refine ⟨fe3_call rfl (by decide) fun a w h => ?_, ?_⟩
    · have e18 : a.tmps.getD 18 undef = fb.v := h.dep 18 (by kernel_rfl)
      have e18x : a.tmps[18]?.getD undef = fb.v := by simpa using e18
      have hb := h.base
      refine ⟨wants_none rfl, 9, #[fb.v], ?_, ?_⟩
      · clear h hb e18
        go_simp
      · refine (put_any fb w okb).mono ?_
        intro e w1 hp
        obtain ⟨NB, rfl, hg, _, hbb⟩ := hp
        exact ⟨_, rfl, hg, ⟨NB, rfl, _, hbb⟩⟩
    refine ⟨fe3_value rfl (by decide) fun a w h => ?_, ?_⟩
    · obtain ⟨B17, e17, T17, b17⟩ : ∃ NB, a.tmps.getD 17 undef = .slice (some ⟨NB, 0, none⟩) 32 32 ∧ ∃ T, Blk w NB T (bytesV ((Fe.m fa : Int))) := h.dep 17 (by kernel_rfl)
      exact ⟨wants_none rfl, _, w, by simp only [execOp, Act.eval, e17]; rfl, gb_refl _ _, ⟨B17, rfl, T17, b17⟩⟩
    refine ⟨fe3_value rfl (by decide) fun a w h => ?_, ?_⟩
    · obtain ⟨B19, e19, T19, b19⟩ : ∃ NB, a.tmps.getD 19 undef = .slice (some ⟨NB, 0, none⟩) 32 32 ∧ ∃ T, Blk w NB T (bytesV ((Fe.m fb : Int))) := h.dep 19 (by kernel_rfl)
      exact ⟨wants_none rfl, _, w, by simp only [execOp, Act.eval, e19]; rfl, gb_refl _ _, ⟨B19, rfl, T19, b19⟩⟩
    trivial
  · intro q w hB hsz hdf hrest hslots hmems
    obtain ⟨NB5, hs5, T5, hx⟩ : ∃ NB, q.tmps.getD 5 undef = .slice (some ⟨NB, 0, none⟩) 32 32 ∧ ∃ T, Blk w NB T (bytesV (Fe.m fa : Int)) := hslots 5 (by kernel_rfl)
    obtain ⟨NB6, hs6, T6, hy⟩ : ∃ NB, q.tmps.getD 6 undef = .slice (some ⟨NB, 0, none⟩) 32 32 ∧ ∃ T, Blk w NB T (bytesV (Fe.m fb : Int)) := hslots 6 (by kernel_rfl)
    obtain ⟨NB17, hs17, _⟩ : ∃ NB, q.tmps.getD 17 undef = .slice (some ⟨NB, 0, none⟩) 32 32 ∧ ∃ T, Blk w NB T (bytesV (Fe.m fa : Int)) := hslots 17 (by kernel_rfl)
    obtain ⟨NB19, hs19, _⟩ : ∃ NB, q.tmps.getD 19 undef = .slice (some ⟨NB, 0, none⟩) 32 32 ∧ ∃ T, Blk w NB T (bytesV (Fe.m fb : Int)) := hslots 19 (by kernel_rfl)
    obtain rfl := frame_is (a := q) (vs := [.agg #[.int .u64 fa.x0, .int .u64 fa.x1, .int .u64 fa.x2, .int .u64 fa.x3, .int .u64 fa.x4], .agg #[.int .u64 fb.x0, .int .u64 fb.x1, .int .u64 fb.x2, .int .u64 fb.x3, .int .u64 fb.x4], .pointer (some ⟨w0.heap.size, 0, none⟩), .pointer (some ⟨w0.heap.size + 1, 0, none⟩), .bool false, .slice (some ⟨NB5, 0, none⟩) 32 32, .slice (some ⟨NB6, 0, none⟩) 32 32, undef, undef, .bool true, .bool false, .agg #[.int .u64 fa.x0, .int .u64 fa.x1, .int .u64 fa.x2, .int .u64 fa.x3, .int .u64 fa.x4], .agg #[.int .u64 fb.x0, .int .u64 fb.x1, .int .u64 fb.x2, .int .u64 fb.x3, .int .u64 fb.x4], .slice (some ⟨v1.heap.size, 0, none⟩) 2 2, .bool true, .bool false, fa.v, .slice (some ⟨NB17, 0, none⟩) 32 32, fb.v, .slice (some ⟨NB19, 0, none⟩) 32 32, undef, undef, undef, undef, undef, undef, undef, undef, undef, undef, undef, undef, undef, undef, undef, undef, undef, undef, undef, undef, undef, undef, undef, undef, undef, undef, undef, undef, undef, undef, undef, undef, undef, undef, undef, undef, undef, undef, undef, undef, undef]) hsz ⟨hrest 0 (by kernel_rfl), hrest 1 (by kernel_rfl), hrest 2 (by kernel_rfl), hrest 3 (by kernel_rfl), hrest 4 (by kernel_rfl), hs5, hs6, hrest 7 (by kernel_rfl), hrest 8 (by kernel_rfl), hrest 9 (by kernel_rfl), hrest 10 (by kernel_rfl), hrest 11 (by kernel_rfl), hrest 12 (by kernel_rfl), hrest 13 (by kernel_rfl), hrest 14 (by kernel_rfl), hrest 15 (by kernel_rfl), hslots 16 (by kernel_rfl), hs17, hslots 18 (by kernel_rfl), hs19, hrest 20 (by kernel_rfl), hrest 21 (by kernel_rfl), hrest 22 (by kernel_rfl), hrest 23 (by kernel_rfl), hrest 24 (by kernel_rfl), hrest 25 (by kernel_rfl), hrest 26 (by kernel_rfl), hrest 27 (by kernel_rfl), hrest 28 (by kernel_rfl), hrest 29 (by kernel_rfl), hrest 30 (by kernel_rfl), hrest 31 (by kernel_rfl), hrest 32 (by kernel_rfl), hrest 33 (by kernel_rfl), hrest 34 (by kernel_rfl), hrest 35 (by kernel_rfl), hrest 36 (by kernel_rfl), hrest 37 (by kernel_rfl), hrest 38 (by kernel_rfl), hrest 39 (by kernel_rfl), hrest 40 (by kernel_rfl), hrest 41 (by kernel_rfl), hrest 42 (by kernel_rfl), hrest 43 (by kernel_rfl), hrest 44 (by kernel_rfl), hrest 45 (by kernel_rfl), hrest 46 (by kernel_rfl), hrest 47 (by kernel_rfl), hrest 48 (by kernel_rfl), hrest 49 (by kernel_rfl), hrest 50 (by kernel_rfl), hrest 51 (by kernel_rfl), hrest 52 (by kernel_rfl), hrest 53 (by kernel_rfl), hrest 54 (by kernel_rfl), hrest 55 (by kernel_rfl), hrest 56 (by kernel_rfl), hrest 57 (by kernel_rfl), hrest 58 (by kernel_rfl), hrest 59 (by kernel_rfl), hrest 60 (by kernel_rfl), trivial⟩ hdf
    have G3 := gb_trans G2 hB.g
    have ha3 := ha2.grown hB.g (by simp)
    have hb3 := hb2.grown hB.g (by simp)
    have hl3 := Nat.lt_of_lt_of_le hl2 hB.g.size
    clear hs5 hs6 hs17 hs19 hsz hdf hrest hslots hmems hB G2 ha2 hb2 hl2 hB5
    have hlt : (Fe.m fa : Int) < 57896044618658097711785492504343953926634992332820282019728792003956564819949 := by
      have := Fe.m_lt fa; unfold Fe.P at this; omega
    have hgx := get_yes NB5 T5 (Fe.m fa) w (by omega) hlt hx
    go_wp2_with fail
    refine hgx.mono ?_
    rintro e v3 ⟨fc, hc, rfl, hg3⟩
    have hlt2 : (Fe.m fa : Int) < 2 ^ 256 := by
      have e : (2 : Int) ^ 256 = 115792089237316195423570985008687907853269984665640564039457584007913129639936 := by decide
      omega
    have rc : fc.Right := by rw [hc.out]; exact fromN_right (by omega) hlt2
    have okc := rc.ok
    have HS : Hid (decide (Fe.m fa = Fe.m fc) = true) := Lib.hid (by
      have h := fromN_m (x := (Fe.m fa : Int))
      rw [← hc.out] at h
      rw [decide_eq_true_iff]
      omega)
    have HRc : Hid ((∀ x ∈ [fc], x.Ok) ∧ [fc].all rightB = true) := Lib.hid (by simp [okc, (rightB_is okc).2 rc])
    clear hgx hc rc hlt hlt2
    have G4 := gb_alloc (gb_trans G3 hg3) (.cells (feL fc).toArray 24)
    have ha7 := (ha3.grown hg3 (by simp)).alloc (.cells (feL fc).toArray 24)
    have hb7 := (hb3.grown hg3 (by simp)).alloc (.cells (feL fc).toArray 24)
    have hx7 := (hx.grown hg3 (by simp)).alloc (.cells (feL fc).toArray 24)
    have hy7 := (hy.grown hg3 (by simp)).alloc (.cells (feL fc).toArray 24)
    have hc7 : Blk (v3.alloc (.cells (feL fc).toArray 24)) v3.heap.size 24 (feL fc) := Blk.new v3 (feL fc) _
    have hl7 : w0.heap.size + 1 < v3.heap.size := Nat.lt_of_lt_of_le hl3 hg3.size
    have hm7 : v3.heap.size < (v3.alloc (.cells (feL fc).toArray 24)).heap.size := by simp
    clear G3 hg3 ha3 hb3 hx hy hl3
    go_wp2_with fail
    obtain ⟨W7, hW7⟩ : ∃ W, W = v3.alloc (.cells (feL fc).toArray 24) := ⟨_, rfl⟩
    rw [← hW7] at G4 ha7 hb7 hx7 hy7 hc7 hm7
    replace hW7 := hW7.symm
    simp only [feL] at hW7
    rw [hW7]
    clear hW7
    have G7 := G4
    have HT7 := Lib.hid (HT.out.grown G4)
    have hB7 : EnvB W7 W7.heap.size [(w0.heap.size, fa), (w0.heap.size + 1, fb), (v3.heap.size, fc)] [] W7 := ⟨gb_refl _ _, by
      intro p hp
      simp only [List.mem_cons, List.not_mem_nil, or_false] at hp
      rcases hp with rfl | rfl | rfl
      · exact ha7
      · exact hb7
      · exact hc7, by simp, by
      intro p hp
      simp only [List.mem_cons, List.not_mem_nil, or_false] at hp
      rcases hp with rfl | rfl | rfl
      · exact by show w0.heap.size < _; omega
      · exact by show w0.heap.size + 1 < _; omega
      · exact hm7, Nat.le_refl _, Nat.le_refl _⟩
    clear ha7 hb7 hc7 G4
    obtain ⟨eb, HE, HEb⟩ : ∃ eb, Hid (decide (Fe.m fa = Fe.m fb) = eb) ∧ Hid (((0 ≤ (Fe.m fa : Int) ∧ (Fe.m fa : Int) < 2 ^ 256) ∧ 0 ≤ (Fe.m fb : Int) ∧ (Fe.m fb : Int) < 2 ^ 256) ∧ decide ((Fe.m fa : Int) = (Fe.m fb : Int)) = eb) := ⟨_, Lib.hid rfl, Lib.hid ⟨by
      have h1 := Fe.m_lt fa; have h2 := Fe.m_lt fb; unfold Fe.P at h1 h2
      have e : (2 : Int) ^ 256 = 115792089237316195423570985008687907853269984665640564039457584007913129639936 := by decide
      omega, by rw [decide_eq_decide]; omega⟩⟩
    have hc : (decide (Fe.m fa = 0) = true ∧ decide (Fe.m fa % 2 = 1) = false ∧ decide (Fe.m (Fe.negF fa) % 2 = 1) = false) ∨ (decide (Fe.m fa = 0) = false ∧ decide (Fe.m fa % 2 = 1) = true ∧ decide (Fe.m (Fe.negF fa) % 2 = 1) = false) ∨ (decide (Fe.m fa = 0) = false ∧ decide (Fe.m fa % 2 = 1) = false ∧ decide (Fe.m (Fe.negF fa) % 2 = 1) = true) := by
      rcases odd_neg HRA.out with ⟨_, h⟩ | h | h
      · exact Or.inl h
      · exact Or.inr (Or.inl h)
      · exact Or.inr (Or.inr h)
    cases eb
    · rcases hc with hc | hc | hc
      · obtain ⟨hz, ho, hn⟩ := hc
        have HZ := Lib.hid hz; have HO := Lib.hid ho; have HN := Lib.hid hn; clear hz ho hn
        refine wp_region_flow3 (items3 (Okb W7 [(w0.heap.size, fa), ((w0.heap.size + 1), fb), (v3.heap.size, fc)]) [.any, .any, .any, .any, .val (.bool true), .any, .any, .any, .any, .any, .any, .any, .any, .any, .any, .any, .any, .any, .any, .any, .any, .any, .any, .any, .any, .val (.bool true), .val (.bool true), .bytes ((Fe.m fa : Int)), .val (.int .i64 32), .val (.bool true), .val (.bool true), .val (.bool true), .val (fa.v), .val (fc.v), .val (.bool true), .val (.bool true), .val (.bool true), .val (fc.v), .elems 1 [fc], .val (.bool true), .val (.bool true), .val (.bool true), .bytes ((Fe.m fa : Int)), .bytes ((Fe.m fb : Int)), .val (.bool false), .val (fa.v), .val (fb.v), .val (.bool false), .val (.bool true), .val (.bool true), .val (.bool true), .val (fa.v), .val (.bool true), .val (fa.v), .val (.bool false), .val (fa.v), .val ((Fe.negF fa).v), .val (.bool false), .val (.bool true), .val (.bool true), .val (.bool true)]) (fun j =>  0) (Stored3 (Okb W7 [(w0.heap.size, fa), ((w0.heap.size + 1), fb), (v3.heap.size, fc)]) (fun j =>  Fe.zeroF)) (EnvB W7 W7.heap.size [(w0.heap.size, fa), ((w0.heap.size + 1), fb), (v3.heap.size, fc)] []) [] (by kernel_rfl) (by kernel_rfl) (by kernel_rfl) (hB7.grown (gb_drewn _)) (fun s hs => by cases hs) (by kernel_rfl) ?_ ?_
        · refine ⟨fe3_value rfl (by decide) fun a w h => ?_, ?_⟩
          · have e8 : a.tmps.getD 8 undef = .bool true := h.rest 8 (by kernel_rfl)
            refine ⟨wants_none rfl, .bool true, w, ?_, gb_refl _ _, rfl⟩
            clear h
            simp only [execOp, Act.eval, e8]
            go_simp
          refine ⟨fe3_value rfl (by decide) fun a w h => ?_, ?_⟩
          · have e25 : a.tmps.getD 25 undef = .bool true := h.dep 25 (by kernel_rfl)
            refine ⟨wants_none rfl, .bool true, w, ?_, gb_refl _ _, rfl⟩
            clear h
            simp only [execOp, Act.eval, e25]
            go_simp
          refine ⟨fe3_value rfl (by decide) fun a w h => ?_, ?_⟩
          · have e26 : a.tmps.getD 26 undef = .bool true := h.dep 26 (by kernel_rfl)
            have e5 : a.tmps.getD 5 undef = .slice (some ⟨NB5, 0, none⟩) 32 32 := h.rest 5 (by kernel_rfl)
            exact ⟨wants_some (d := 26) rfl rfl (by rw [h.size]; show 26 < 61; decide) e26, _, w, by simp only [execOp, Act.eval, e5]; rfl, gb_refl _ _, ⟨NB5, rfl, _, (hx7.grown h.base.g (by simp))⟩⟩
          refine ⟨fe3_value rfl (by decide) fun a w h => ?_, ?_⟩
          · have e26 : a.tmps.getD 26 undef = .bool true := h.dep 26 (by kernel_rfl)
            obtain ⟨B27, e27, T27, b27⟩ : ∃ NB, a.tmps.getD 27 undef = .slice (some ⟨NB, 0, none⟩) 32 32 ∧ ∃ T, Blk w NB T (bytesV ((Fe.m fa : Int))) := h.dep 27 (by kernel_rfl)
            have e27x : a.tmps[27]?.getD undef = .slice (some ⟨B27, 0, none⟩) 32 32 := by simpa using e27
            refine ⟨wants_some (d := 26) rfl rfl (by rw [h.size]; show 26 < 61; decide) e26, .int .i64 32, w, ?_, gb_refl _ _, rfl⟩
            clear h e27
            go_simp
          refine ⟨fe3_value rfl (by decide) fun a w h => ?_, ?_⟩
          · have e26 : a.tmps.getD 26 undef = .bool true := h.dep 26 (by kernel_rfl)
            have e28 : a.tmps.getD 28 undef = .int .i64 32 := h.dep 28 (by kernel_rfl)
            refine ⟨wants_some (d := 26) rfl rfl (by rw [h.size]; show 26 < 61; decide) e26, .bool true, w, ?_, gb_refl _ _, rfl⟩
            clear h
            simp only [execOp, Act.eval, e28]
            go_simp
          refine ⟨fe3_value rfl (by decide) fun a w h => ?_, ?_⟩
          · have e26 : a.tmps.getD 26 undef = .bool true := h.dep 26 (by kernel_rfl)
            have e29 : a.tmps.getD 29 undef = .bool true := h.dep 29 (by kernel_rfl)
            refine ⟨wants_none rfl, .bool true, w, ?_, gb_refl _ _, rfl⟩
            clear h
            simp only [execOp, Act.eval, e26, e29]
            go_simp
          refine ⟨fe3_value rfl (by decide) fun a w h => ?_, ?_⟩
          · have e30 : a.tmps.getD 30 undef = .bool true := h.dep 30 (by kernel_rfl)
            refine ⟨wants_none rfl, .bool true, w, ?_, gb_refl _ _, rfl⟩
            clear h
            simp only [execOp, Act.eval, e30]
            go_simp
          refine ⟨fe3_value rfl (by decide) fun a w h => ?_, ?_⟩
          · have e31 : a.tmps.getD 31 undef = .bool true := h.dep 31 (by kernel_rfl)
            have e2 : a.tmps.getD 2 undef = .pointer (some ⟨w0.heap.size, 0, none⟩) := h.rest 2 (by kernel_rfl)
            have hb := h.base.e (w0.heap.size, fa) (by simp)
            have c0 : w.cell? ⟨w0.heap.size, 0, none⟩ = some (.int .u64 fa.x0) := hb.cell (i := 0) rfl
            have c1 : w.cell? ⟨w0.heap.size, 1, none⟩ = some (.int .u64 fa.x1) := hb.cell (i := 1) rfl
            have c2 : w.cell? ⟨w0.heap.size, 2, none⟩ = some (.int .u64 fa.x2) := hb.cell (i := 2) rfl
            have c3 : w.cell? ⟨w0.heap.size, 3, none⟩ = some (.int .u64 fa.x3) := hb.cell (i := 3) rfl
            have c4 : w.cell? ⟨w0.heap.size, 4, none⟩ = some (.int .u64 fa.x4) := hb.cell (i := 4) rfl
            refine ⟨wants_some (d := 31) rfl rfl (by rw [h.size]; show 31 < 61; decide) e31, .agg #[.int .u64 fa.x0, .int .u64 fa.x1, .int .u64 fa.x2, .int .u64 fa.x3, .int .u64 fa.x4], w, ?_, gb_refl _ _, rfl⟩
            clear h hb
            simp only [execOp, Act.eval, e2]
            go_simp
          refine ⟨fe3_value rfl (by decide) fun a w h => ?_, ?_⟩
          · have e31 : a.tmps.getD 31 undef = .bool true := h.dep 31 (by kernel_rfl)
            have e7 : a.tmps.getD 7 undef = .pointer (some ⟨v3.heap.size, 0, none⟩) := h.rest 7 (by kernel_rfl)
            have hb := h.base.e (v3.heap.size, fc) (by simp)
            have c0 : w.cell? ⟨v3.heap.size, 0, none⟩ = some (.int .u64 fc.x0) := hb.cell (i := 0) rfl
            have c1 : w.cell? ⟨v3.heap.size, 1, none⟩ = some (.int .u64 fc.x1) := hb.cell (i := 1) rfl
            have c2 : w.cell? ⟨v3.heap.size, 2, none⟩ = some (.int .u64 fc.x2) := hb.cell (i := 2) rfl
            have c3 : w.cell? ⟨v3.heap.size, 3, none⟩ = some (.int .u64 fc.x3) := hb.cell (i := 3) rfl
            have c4 : w.cell? ⟨v3.heap.size, 4, none⟩ = some (.int .u64 fc.x4) := hb.cell (i := 4) rfl
            refine ⟨wants_some (d := 31) rfl rfl (by rw [h.size]; show 31 < 61; decide) e31, .agg #[.int .u64 fc.x0, .int .u64 fc.x1, .int .u64 fc.x2, .int .u64 fc.x3, .int .u64 fc.x4], w, ?_, gb_refl _ _, rfl⟩
            clear h hb
            simp only [execOp, Act.eval, e7]
            go_simp
          refine ⟨fe3_call rfl (by decide) fun a w h => ?_, ?_⟩
          · have e31 : a.tmps.getD 31 undef = .bool true := h.dep 31 (by kernel_rfl)
            have e32 : a.tmps.getD 32 undef = fa.v := h.dep 32 (by kernel_rfl)
            have e32x : a.tmps[32]?.getD undef = fa.v := by simpa using e32
            have e33 : a.tmps.getD 33 undef = fc.v := h.dep 33 (by kernel_rfl)
            have e33x : a.tmps[33]?.getD undef = fc.v := by simpa using e33
            have hb := h.base
            refine ⟨wants_some (d := 31) rfl rfl (by rw [h.size]; show 31 < 61; decide) e31, 13, #[fa.v, fc.v], ?_, ?_⟩
            · clear h hb e32 e33
              go_simp
            · refine (same_val fa fc true w oka okc (HS.out)).mono ?_
              intro e w1 hp
              obtain ⟨rfl, hg⟩ := hp
              exact ⟨_, rfl, hg, rfl⟩
          refine ⟨fe3_value rfl (by decide) fun a w h => ?_, ?_⟩
          · have e31 : a.tmps.getD 31 undef = .bool true := h.dep 31 (by kernel_rfl)
            have e34 : a.tmps.getD 34 undef = .bool true := h.dep 34 (by kernel_rfl)
            refine ⟨wants_none rfl, .bool true, w, ?_, gb_refl _ _, rfl⟩
            clear h
            simp only [execOp, Act.eval, e31, e34]
            go_simp
          refine ⟨fe3_value rfl (by decide) fun a w h => ?_, ?_⟩
          · have e35 : a.tmps.getD 35 undef = .bool true := h.dep 35 (by kernel_rfl)
            refine ⟨wants_none rfl, .bool true, w, ?_, gb_refl _ _, rfl⟩
            clear h
            simp only [execOp, Act.eval, e35]
            go_simp
          refine ⟨fe3_value rfl (by decide) fun a w h => ?_, ?_⟩
          · have e36 : a.tmps.getD 36 undef = .bool true := h.dep 36 (by kernel_rfl)
            have e7 : a.tmps.getD 7 undef = .pointer (some ⟨v3.heap.size, 0, none⟩) := h.rest 7 (by kernel_rfl)
            have hb := h.base.e (v3.heap.size, fc) (by simp)
            have c0 : w.cell? ⟨v3.heap.size, 0, none⟩ = some (.int .u64 fc.x0) := hb.cell (i := 0) rfl
            have c1 : w.cell? ⟨v3.heap.size, 1, none⟩ = some (.int .u64 fc.x1) := hb.cell (i := 1) rfl
            have c2 : w.cell? ⟨v3.heap.size, 2, none⟩ = some (.int .u64 fc.x2) := hb.cell (i := 2) rfl
            have c3 : w.cell? ⟨v3.heap.size, 3, none⟩ = some (.int .u64 fc.x3) := hb.cell (i := 3) rfl
            have c4 : w.cell? ⟨v3.heap.size, 4, none⟩ = some (.int .u64 fc.x4) := hb.cell (i := 4) rfl
            refine ⟨wants_some (d := 36) rfl rfl (by rw [h.size]; show 36 < 61; decide) e36, .agg #[.int .u64 fc.x0, .int .u64 fc.x1, .int .u64 fc.x2, .int .u64 fc.x3, .int .u64 fc.x4], w, ?_, gb_refl _ _, rfl⟩
            clear h hb
            simp only [execOp, Act.eval, e7]
            go_simp
          refine ⟨fe3_value rfl (by decide) fun a w h => ?_, ?_⟩
          · have e36 : a.tmps.getD 36 undef = .bool true := h.dep 36 (by kernel_rfl)
            have e37 : a.tmps.getD 37 undef = .agg #[.int .u64 fc.x0, .int .u64 fc.x1, .int .u64 fc.x2, .int .u64 fc.x3, .int .u64 fc.x4] := h.dep 37 (by kernel_rfl)
            refine ⟨wants_some (d := 36) rfl rfl (by rw [h.size]; show 36 < 61; decide) e36, .slice (some ⟨w.heap.size, 0, none⟩) 1 1, w.alloc (.cells #[.int .u64 fc.x0, .int .u64 fc.x1, .int .u64 fc.x2, .int .u64 fc.x3, .int .u64 fc.x4] 24), ?_, World.grownBy_alloc _ _ _, ⟨w.heap.size, rfl, Blk.new w (fesL [fc]) _⟩⟩
            clear h
            simp only [execOp, List.map_toArray, List.map_cons, List.map_nil, Act.eval, e37]
            go_simp
          refine ⟨fe3_call rfl (by decide) fun a w h => ?_, ?_⟩
          · have e36 : a.tmps.getD 36 undef = .bool true := h.dep 36 (by kernel_rfl)
            obtain ⟨B38, e38, b38⟩ : ∃ PB, a.tmps.getD 38 undef = .slice (some ⟨PB, 0, none⟩) 1 1 ∧ Blk w PB 24 (fesL [fc]) := h.dep 38 (by kernel_rfl)
            have e38x : a.tmps[38]?.getD undef = .slice (some ⟨B38, 0, none⟩) 1 1 := by simpa using e38
            have hb := h.base
            refine ⟨wants_some (d := 36) rfl rfl (by rw [h.size]; show 36 < 61; decide) e36, 31, #[.slice (some ⟨B38, 0, none⟩) 1 1], ?_, ?_⟩
            · clear h hb e38 b38
              go_simp
            · refine (right_val _ 1 [fc] true w rfl (by decide) (HRc.out) b38).mono ?_
              intro e w1 hp
              obtain ⟨rfl, hg⟩ := hp
              exact ⟨_, rfl, hg, rfl⟩
          refine ⟨fe3_value rfl (by decide) fun a w h => ?_, ?_⟩
          · have e36 : a.tmps.getD 36 undef = .bool true := h.dep 36 (by kernel_rfl)
            have e39 : a.tmps.getD 39 undef = .bool true := h.dep 39 (by kernel_rfl)
            refine ⟨wants_none rfl, .bool true, w, ?_, gb_refl _ _, rfl⟩
            clear h
            simp only [execOp, Act.eval, e36, e39]
            go_simp
          refine ⟨fe3_value rfl (by decide) fun a w h => ?_, ?_⟩
          · have e40 : a.tmps.getD 40 undef = .bool true := h.dep 40 (by kernel_rfl)
            refine ⟨wants_none rfl, .bool true, w, ?_, gb_refl _ _, rfl⟩
            clear h
            simp only [execOp, Act.eval, e40]
            go_simp
          refine ⟨fe3_value rfl (by decide) fun a w h => ?_, ?_⟩
          · have e41 : a.tmps.getD 41 undef = .bool true := h.dep 41 (by kernel_rfl)
            have e5 : a.tmps.getD 5 undef = .slice (some ⟨NB5, 0, none⟩) 32 32 := h.rest 5 (by kernel_rfl)
            exact ⟨wants_some (d := 41) rfl rfl (by rw [h.size]; show 41 < 61; decide) e41, _, w, by simp only [execOp, Act.eval, e5]; rfl, gb_refl _ _, ⟨NB5, rfl, _, (hx7.grown h.base.g (by simp))⟩⟩
          refine ⟨fe3_value rfl (by decide) fun a w h => ?_, ?_⟩
          · have e41 : a.tmps.getD 41 undef = .bool true := h.dep 41 (by kernel_rfl)
            have e6 : a.tmps.getD 6 undef = .slice (some ⟨NB6, 0, none⟩) 32 32 := h.rest 6 (by kernel_rfl)
            exact ⟨wants_some (d := 41) rfl rfl (by rw [h.size]; show 41 < 61; decide) e41, _, w, by simp only [execOp, Act.eval, e6]; rfl, gb_refl _ _, ⟨NB6, rfl, _, (hy7.grown h.base.g (by simp))⟩⟩
          refine ⟨fe3_call rfl (by decide) fun a w h => ?_, ?_⟩
          · have e41 : a.tmps.getD 41 undef = .bool true := h.dep 41 (by kernel_rfl)
            obtain ⟨B42, e42, T42, b42⟩ : ∃ NB, a.tmps.getD 42 undef = .slice (some ⟨NB, 0, none⟩) 32 32 ∧ ∃ T, Blk w NB T (bytesV ((Fe.m fa : Int))) := h.dep 42 (by kernel_rfl)
            have e42x : a.tmps[42]?.getD undef = .slice (some ⟨B42, 0, none⟩) 32 32 := by simpa using e42
            obtain ⟨B43, e43, T43, b43⟩ : ∃ NB, a.tmps.getD 43 undef = .slice (some ⟨NB, 0, none⟩) 32 32 ∧ ∃ T, Blk w NB T (bytesV ((Fe.m fb : Int))) := h.dep 43 (by kernel_rfl)
            have e43x : a.tmps[43]?.getD undef = .slice (some ⟨B43, 0, none⟩) 32 32 := by simpa using e43
            have hb := h.base
            refine ⟨wants_some (d := 41) rfl rfl (by rw [h.size]; show 41 < 61; decide) e41, 33, #[.slice (some ⟨B42, 0, none⟩) 32 32, .slice (some ⟨B43, 0, none⟩) 32 32], ?_, ?_⟩
            · clear h hb e42 e43 b42 b43
              go_simp
            · refine (sameBytes_val _ _ _ _ _ _ false w b42 b43 (HEb.out)).mono ?_
              intro e w1 hp
              obtain ⟨rfl, hg⟩ := hp
              exact ⟨_, rfl, hg, rfl⟩
          refine ⟨fe3_value rfl (by decide) fun a w h => ?_, ?_⟩
          · have e41 : a.tmps.getD 41 undef = .bool true := h.dep 41 (by kernel_rfl)
            have e2 : a.tmps.getD 2 undef = .pointer (some ⟨w0.heap.size, 0, none⟩) := h.rest 2 (by kernel_rfl)
            have hb := h.base.e (w0.heap.size, fa) (by simp)
            have c0 : w.cell? ⟨w0.heap.size, 0, none⟩ = some (.int .u64 fa.x0) := hb.cell (i := 0) rfl
            have c1 : w.cell? ⟨w0.heap.size, 1, none⟩ = some (.int .u64 fa.x1) := hb.cell (i := 1) rfl
            have c2 : w.cell? ⟨w0.heap.size, 2, none⟩ = some (.int .u64 fa.x2) := hb.cell (i := 2) rfl
            have c3 : w.cell? ⟨w0.heap.size, 3, none⟩ = some (.int .u64 fa.x3) := hb.cell (i := 3) rfl
            have c4 : w.cell? ⟨w0.heap.size, 4, none⟩ = some (.int .u64 fa.x4) := hb.cell (i := 4) rfl
            refine ⟨wants_some (d := 41) rfl rfl (by rw [h.size]; show 41 < 61; decide) e41, .agg #[.int .u64 fa.x0, .int .u64 fa.x1, .int .u64 fa.x2, .int .u64 fa.x3, .int .u64 fa.x4], w, ?_, gb_refl _ _, rfl⟩
            clear h hb
            simp only [execOp, Act.eval, e2]
            go_simp
          refine ⟨fe3_value rfl (by decide) fun a w h => ?_, ?_⟩
          · have e41 : a.tmps.getD 41 undef = .bool true := h.dep 41 (by kernel_rfl)
            have e3 : a.tmps.getD 3 undef = .pointer (some ⟨(w0.heap.size + 1), 0, none⟩) := h.rest 3 (by kernel_rfl)
            have hb := h.base.e ((w0.heap.size + 1), fb) (by simp)
            have c0 : w.cell? ⟨(w0.heap.size + 1), 0, none⟩ = some (.int .u64 fb.x0) := hb.cell (i := 0) rfl
            have c1 : w.cell? ⟨(w0.heap.size + 1), 1, none⟩ = some (.int .u64 fb.x1) := hb.cell (i := 1) rfl
            have c2 : w.cell? ⟨(w0.heap.size + 1), 2, none⟩ = some (.int .u64 fb.x2) := hb.cell (i := 2) rfl
            have c3 : w.cell? ⟨(w0.heap.size + 1), 3, none⟩ = some (.int .u64 fb.x3) := hb.cell (i := 3) rfl
            have c4 : w.cell? ⟨(w0.heap.size + 1), 4, none⟩ = some (.int .u64 fb.x4) := hb.cell (i := 4) rfl
            refine ⟨wants_some (d := 41) rfl rfl (by rw [h.size]; show 41 < 61; decide) e41, .agg #[.int .u64 fb.x0, .int .u64 fb.x1, .int .u64 fb.x2, .int .u64 fb.x3, .int .u64 fb.x4], w, ?_, gb_refl _ _, rfl⟩
            clear h hb
            simp only [execOp, Act.eval, e3]
            go_simp
          refine ⟨fe3_call rfl (by decide) fun a w h => ?_, ?_⟩
          · have e41 : a.tmps.getD 41 undef = .bool true := h.dep 41 (by kernel_rfl)
            have e45 : a.tmps.getD 45 undef = fa.v := h.dep 45 (by kernel_rfl)
            have e45x : a.tmps[45]?.getD undef = fa.v := by simpa using e45
            have e46 : a.tmps.getD 46 undef = fb.v := h.dep 46 (by kernel_rfl)
            have e46x : a.tmps[46]?.getD undef = fb.v := by simpa using e46
            have hb := h.base
            refine ⟨wants_some (d := 41) rfl rfl (by rw [h.size]; show 41 < 61; decide) e41, 13, #[fa.v, fb.v], ?_, ?_⟩
            · clear h hb e45 e46
              go_simp
            · refine (same_val fa fb false w oka okb (HE.out)).mono ?_
              intro e w1 hp
              obtain ⟨rfl, hg⟩ := hp
              exact ⟨_, rfl, hg, rfl⟩
          refine ⟨fe3_value rfl (by decide) fun a w h => ?_, ?_⟩
          · have e41 : a.tmps.getD 41 undef = .bool true := h.dep 41 (by kernel_rfl)
            have e44 : a.tmps.getD 44 undef = .bool false := h.dep 44 (by kernel_rfl)
            have e47 : a.tmps.getD 47 undef = .bool false := h.dep 47 (by kernel_rfl)
            refine ⟨wants_some (d := 41) rfl rfl (by rw [h.size]; show 41 < 61; decide) e41, .bool true, w, ?_, gb_refl _ _, rfl⟩
            clear h
            simp only [execOp, Act.eval, e44, e47]
            go_simp
          refine ⟨fe3_value rfl (by decide) fun a w h => ?_, ?_⟩
          · have e41 : a.tmps.getD 41 undef = .bool true := h.dep 41 (by kernel_rfl)
            have e48 : a.tmps.getD 48 undef = .bool true := h.dep 48 (by kernel_rfl)
            refine ⟨wants_none rfl, .bool true, w, ?_, gb_refl _ _, rfl⟩
            clear h
            simp only [execOp, Act.eval, e41, e48]
            go_simp
          refine ⟨fe3_value rfl (by decide) fun a w h => ?_, ?_⟩
          · have e49 : a.tmps.getD 49 undef = .bool true := h.dep 49 (by kernel_rfl)
            refine ⟨wants_none rfl, .bool true, w, ?_, gb_refl _ _, rfl⟩
            clear h
            simp only [execOp, Act.eval, e49]
            go_simp
          refine ⟨fe3_value rfl (by decide) fun a w h => ?_, ?_⟩
          · have e50 : a.tmps.getD 50 undef = .bool true := h.dep 50 (by kernel_rfl)
            have e2 : a.tmps.getD 2 undef = .pointer (some ⟨w0.heap.size, 0, none⟩) := h.rest 2 (by kernel_rfl)
            have hb := h.base.e (w0.heap.size, fa) (by simp)
            have c0 : w.cell? ⟨w0.heap.size, 0, none⟩ = some (.int .u64 fa.x0) := hb.cell (i := 0) rfl
            have c1 : w.cell? ⟨w0.heap.size, 1, none⟩ = some (.int .u64 fa.x1) := hb.cell (i := 1) rfl
            have c2 : w.cell? ⟨w0.heap.size, 2, none⟩ = some (.int .u64 fa.x2) := hb.cell (i := 2) rfl
            have c3 : w.cell? ⟨w0.heap.size, 3, none⟩ = some (.int .u64 fa.x3) := hb.cell (i := 3) rfl
            have c4 : w.cell? ⟨w0.heap.size, 4, none⟩ = some (.int .u64 fa.x4) := hb.cell (i := 4) rfl
            refine ⟨wants_some (d := 50) rfl rfl (by rw [h.size]; show 50 < 61; decide) e50, .agg #[.int .u64 fa.x0, .int .u64 fa.x1, .int .u64 fa.x2, .int .u64 fa.x3, .int .u64 fa.x4], w, ?_, gb_refl _ _, rfl⟩
            clear h hb
            simp only [execOp, Act.eval, e2]
            go_simp
          refine ⟨fe3_call rfl (by decide) fun a w h => ?_, ?_⟩
          · have e50 : a.tmps.getD 50 undef = .bool true := h.dep 50 (by kernel_rfl)
            have e51 : a.tmps.getD 51 undef = fa.v := h.dep 51 (by kernel_rfl)
            have e51x : a.tmps[51]?.getD undef = fa.v := by simpa using e51
            have hb := h.base
            refine ⟨wants_some (d := 50) rfl rfl (by rw [h.size]; show 50 < 61; decide) e50, 24, #[fa.v], ?_, ?_⟩
            · clear h hb e51
              go_simp
            · refine (zero_val fa true w oka (HZ.out)).mono ?_
              intro e w1 hp
              obtain ⟨rfl, hg⟩ := hp
              exact ⟨_, rfl, hg, rfl⟩
          refine ⟨fe3_value rfl (by decide) fun a w h => ?_, ?_⟩
          · have e50 : a.tmps.getD 50 undef = .bool true := h.dep 50 (by kernel_rfl)
            have e2 : a.tmps.getD 2 undef = .pointer (some ⟨w0.heap.size, 0, none⟩) := h.rest 2 (by kernel_rfl)
            have hb := h.base.e (w0.heap.size, fa) (by simp)
            have c0 : w.cell? ⟨w0.heap.size, 0, none⟩ = some (.int .u64 fa.x0) := hb.cell (i := 0) rfl
            have c1 : w.cell? ⟨w0.heap.size, 1, none⟩ = some (.int .u64 fa.x1) := hb.cell (i := 1) rfl
            have c2 : w.cell? ⟨w0.heap.size, 2, none⟩ = some (.int .u64 fa.x2) := hb.cell (i := 2) rfl
            have c3 : w.cell? ⟨w0.heap.size, 3, none⟩ = some (.int .u64 fa.x3) := hb.cell (i := 3) rfl
            have c4 : w.cell? ⟨w0.heap.size, 4, none⟩ = some (.int .u64 fa.x4) := hb.cell (i := 4) rfl
            refine ⟨wants_some (d := 50) rfl rfl (by rw [h.size]; show 50 < 61; decide) e50, .agg #[.int .u64 fa.x0, .int .u64 fa.x1, .int .u64 fa.x2, .int .u64 fa.x3, .int .u64 fa.x4], w, ?_, gb_refl _ _, rfl⟩
            clear h hb
            simp only [execOp, Act.eval, e2]
            go_simp
          refine ⟨fe3_call rfl (by decide) fun a w h => ?_, ?_⟩
          · have e50 : a.tmps.getD 50 undef = .bool true := h.dep 50 (by kernel_rfl)
            have e53 : a.tmps.getD 53 undef = fa.v := h.dep 53 (by kernel_rfl)
            have e53x : a.tmps[53]?.getD undef = fa.v := by simpa using e53
            have hb := h.base
            refine ⟨wants_some (d := 50) rfl rfl (by rw [h.size]; show 50 < 61; decide) e50, 25, #[fa.v], ?_, ?_⟩
            · clear h hb e53
              go_simp
            · refine (odd_val fa false w oka (HO.out)).mono ?_
              intro e w1 hp
              obtain ⟨rfl, hg⟩ := hp
              exact ⟨_, rfl, hg, rfl⟩
          refine ⟨fe3_value rfl (by decide) fun a w h => ?_, ?_⟩
          · have e50 : a.tmps.getD 50 undef = .bool true := h.dep 50 (by kernel_rfl)
            have e2 : a.tmps.getD 2 undef = .pointer (some ⟨w0.heap.size, 0, none⟩) := h.rest 2 (by kernel_rfl)
            have hb := h.base.e (w0.heap.size, fa) (by simp)
            have c0 : w.cell? ⟨w0.heap.size, 0, none⟩ = some (.int .u64 fa.x0) := hb.cell (i := 0) rfl
            have c1 : w.cell? ⟨w0.heap.size, 1, none⟩ = some (.int .u64 fa.x1) := hb.cell (i := 1) rfl
            have c2 : w.cell? ⟨w0.heap.size, 2, none⟩ = some (.int .u64 fa.x2) := hb.cell (i := 2) rfl
            have c3 : w.cell? ⟨w0.heap.size, 3, none⟩ = some (.int .u64 fa.x3) := hb.cell (i := 3) rfl
            have c4 : w.cell? ⟨w0.heap.size, 4, none⟩ = some (.int .u64 fa.x4) := hb.cell (i := 4) rfl
            refine ⟨wants_some (d := 50) rfl rfl (by rw [h.size]; show 50 < 61; decide) e50, .agg #[.int .u64 fa.x0, .int .u64 fa.x1, .int .u64 fa.x2, .int .u64 fa.x3, .int .u64 fa.x4], w, ?_, gb_refl _ _, rfl⟩
            clear h hb
            simp only [execOp, Act.eval, e2]
            go_simp
          refine ⟨fe3_call rfl (by decide) fun a w h => ?_, ?_⟩
          · have e50 : a.tmps.getD 50 undef = .bool true := h.dep 50 (by kernel_rfl)
            have e55 : a.tmps.getD 55 undef = fa.v := h.dep 55 (by kernel_rfl)
            have e55x : a.tmps[55]?.getD undef = fa.v := by simpa using e55
            have hb := h.base
            refine ⟨wants_some (d := 50) rfl rfl (by rw [h.size]; show 50 < 61; decide) e50, 14, #[fa.v], ?_, ?_⟩
            · clear h hb e55
              go_simp
            · refine (neg_any fa w (HT7.out.grown hb.g) oka).mono ?_
              intro e w1 hp
              obtain ⟨rfl, hg⟩ := feOut_is hp
              exact ⟨_, rfl, hg, rfl⟩
          refine ⟨fe3_call rfl (by decide) fun a w h => ?_, ?_⟩
          · have e50 : a.tmps.getD 50 undef = .bool true := h.dep 50 (by kernel_rfl)
            have e56 : a.tmps.getD 56 undef = (Fe.negF fa).v := h.dep 56 (by kernel_rfl)
            have e56x : a.tmps[56]?.getD undef = (Fe.negF fa).v := by simpa using e56
            have hb := h.base
            refine ⟨wants_some (d := 50) rfl rfl (by rw [h.size]; show 50 < 61; decide) e50, 25, #[(Fe.negF fa).v], ?_, ?_⟩
            · clear h hb e56
              go_simp
            · refine (odd_val (Fe.negF fa) false w (Fe.neg_right _).ok (HN.out)).mono ?_
              intro e w1 hp
              obtain ⟨rfl, hg⟩ := hp
              exact ⟨_, rfl, hg, rfl⟩
          refine ⟨fe3_value rfl (by decide) fun a w h => ?_, ?_⟩
          · have e50 : a.tmps.getD 50 undef = .bool true := h.dep 50 (by kernel_rfl)
            have e54 : a.tmps.getD 54 undef = .bool false := h.dep 54 (by kernel_rfl)
            have e57 : a.tmps.getD 57 undef = .bool false := h.dep 57 (by kernel_rfl)
            refine ⟨wants_some (d := 50) rfl rfl (by rw [h.size]; show 50 < 61; decide) e50, .bool true, w, ?_, gb_refl _ _, rfl⟩
            clear h
            simp only [execOp, Act.eval, e54, e57]
            go_simp
          refine ⟨fe3_value rfl (by decide) fun a w h => ?_, ?_⟩
          · have e50 : a.tmps.getD 50 undef = .bool true := h.dep 50 (by kernel_rfl)
            have e52 : a.tmps.getD 52 undef = .bool true := h.dep 52 (by kernel_rfl)
            have e58 : a.tmps.getD 58 undef = .bool true := h.dep 58 (by kernel_rfl)
            refine ⟨wants_some (d := 50) rfl rfl (by rw [h.size]; show 50 < 61; decide) e50, .bool true, w, ?_, gb_refl _ _, rfl⟩
            clear h
            simp only [execOp, Act.eval, e52, e58]
            go_simp
          refine ⟨fe3_value rfl (by decide) fun a w h => ?_, ?_⟩
          · have e50 : a.tmps.getD 50 undef = .bool true := h.dep 50 (by kernel_rfl)
            have e59 : a.tmps.getD 59 undef = .bool true := h.dep 59 (by kernel_rfl)
            refine ⟨wants_none rfl, .bool true, w, ?_, gb_refl _ _, rfl⟩
            clear h
            simp only [execOp, Act.eval, e50, e59]
            go_simp
          refine ⟨fe3_value rfl (by decide) fun a w h => ?_, ?_⟩
          · have e60 : a.tmps.getD 60 undef = .bool true := h.dep 60 (by kernel_rfl)
            refine ⟨wants_none rfl, .bool true, w, ?_, gb_refl _ _, rfl⟩
            clear h
            simp only [execOp, Act.eval, e60]
            go_simp
          trivial
        · intro q w hB hsz hdf hrest hslots hmems
          have e4 : q.tmps.getD 4 undef = .bool true := hslots 4 (by kernel_rfl)
          have G := gb_trans G7 hB.g
          replace hdf : q.defers = [] := hdf
          clear hB hsz hrest hslots hmems
          have e4x : q.tmps[4]?.getD undef = .bool true := by simpa using e4
          go_wp2_with fail
          refine bodyPost_ret (v := .bool true) ?_ hdf ⟨rfl, G⟩
          simp [results, Tryd.results6, go_sem, e4x]
      · obtain ⟨hz, ho, hn⟩ := hc
        have HZ := Lib.hid hz; have HO := Lib.hid ho; have HN := Lib.hid hn; clear hz ho hn
        refine wp_region_flow3 (items3 (Okb W7 [(w0.heap.size, fa), ((w0.heap.size + 1), fb), (v3.heap.size, fc)]) [.any, .any, .any, .any, .val (.bool true), .any, .any, .any, .any, .any, .any, .any, .any, .any, .any, .any, .any, .any, .any, .any, .any, .any, .any, .any, .any, .val (.bool true), .val (.bool true), .bytes ((Fe.m fa : Int)), .val (.int .i64 32), .val (.bool true), .val (.bool true), .val (.bool true), .val (fa.v), .val (fc.v), .val (.bool true), .val (.bool true), .val (.bool true), .val (fc.v), .elems 1 [fc], .val (.bool true), .val (.bool true), .val (.bool true), .bytes ((Fe.m fa : Int)), .bytes ((Fe.m fb : Int)), .val (.bool false), .val (fa.v), .val (fb.v), .val (.bool false), .val (.bool true), .val (.bool true), .val (.bool true), .val (fa.v), .val (.bool false), .val (fa.v), .val (.bool true), .val (fa.v), .val ((Fe.negF fa).v), .val (.bool false), .val (.bool false), .val (.bool true), .val (.bool true)]) (fun j =>  0) (Stored3 (Okb W7 [(w0.heap.size, fa), ((w0.heap.size + 1), fb), (v3.heap.size, fc)]) (fun j =>  Fe.zeroF)) (EnvB W7 W7.heap.size [(w0.heap.size, fa), ((w0.heap.size + 1), fb), (v3.heap.size, fc)] []) [] (by kernel_rfl) (by kernel_rfl) (by kernel_rfl) (hB7.grown (gb_drewn _)) (fun s hs => by cases hs) (by kernel_rfl) ?_ ?_
        · refine ⟨fe3_value rfl (by decide) fun a w h => ?_, ?_⟩
          · have e8 : a.tmps.getD 8 undef = .bool true := h.rest 8 (by kernel_rfl)
            refine ⟨wants_none rfl, .bool true, w, ?_, gb_refl _ _, rfl⟩
            clear h
            simp only [execOp, Act.eval, e8]
            go_simp
          refine ⟨fe3_value rfl (by decide) fun a w h => ?_, ?_⟩
          · have e25 : a.tmps.getD 25 undef = .bool true := h.dep 25 (by kernel_rfl)
            refine ⟨wants_none rfl, .bool true, w, ?_, gb_refl _ _, rfl⟩
            clear h
            simp only [execOp, Act.eval, e25]
            go_simp
          refine ⟨fe3_value rfl (by decide) fun a w h => ?_, ?_⟩
          · have e26 : a.tmps.getD 26 undef = .bool true := h.dep 26 (by kernel_rfl)
            have e5 : a.tmps.getD 5 undef = .slice (some ⟨NB5, 0, none⟩) 32 32 := h.rest 5 (by kernel_rfl)
            exact ⟨wants_some (d := 26) rfl rfl (by rw [h.size]; show 26 < 61; decide) e26, _, w, by simp only [execOp, Act.eval, e5]; rfl, gb_refl _ _, ⟨NB5, rfl, _, (hx7.grown h.base.g (by simp))⟩⟩
          refine ⟨fe3_value rfl (by decide) fun a w h => ?_, ?_⟩
          · have e26 : a.tmps.getD 26 undef = .bool true := h.dep 26 (by kernel_rfl)
            obtain ⟨B27, e27, T27, b27⟩ : ∃ NB, a.tmps.getD 27 undef = .slice (some ⟨NB, 0, none⟩) 32 32 ∧ ∃ T, Blk w NB T (bytesV ((Fe.m fa : Int))) := h.dep 27 (by kernel_rfl)
            have e27x : a.tmps[27]?.getD undef = .slice (some ⟨B27, 0, none⟩) 32 32 := by simpa using e27
            refine ⟨wants_some (d := 26) rfl rfl (by rw [h.size]; show 26 < 61; decide) e26, .int .i64 32, w, ?_, gb_refl _ _, rfl⟩
            clear h e27
            go_simp
          refine ⟨fe3_value rfl (by decide) fun a w h => ?_, ?_⟩
          · have e26 : a.tmps.getD 26 undef = .bool true := h.dep 26 (by kernel_rfl)
            have e28 : a.tmps.getD 28 undef = .int .i64 32 := h.dep 28 (by kernel_rfl)
            refine ⟨wants_some (d := 26) rfl rfl (by rw [h.size]; show 26 < 61; decide) e26, .bool true, w, ?_, gb_refl _ _, rfl⟩
            clear h
            simp only [execOp, Act.eval, e28]
            go_simp
          refine ⟨fe3_value rfl (by decide) fun a w h => ?_, ?_⟩
          · have e26 : a.tmps.getD 26 undef = .bool true := h.dep 26 (by kernel_rfl)
            have e29 : a.tmps.getD 29 undef = .bool true := h.dep 29 (by kernel_rfl)
            refine ⟨wants_none rfl, .bool true, w, ?_, gb_refl _ _, rfl⟩
            clear h
            simp only [execOp, Act.eval, e26, e29]
            go_simp
          refine ⟨fe3_value rfl (by decide) fun a w h => ?_, ?_⟩
          · have e30 : a.tmps.getD 30 undef = .bool true := h.dep 30 (by kernel_rfl)
            refine ⟨wants_none rfl, .bool true, w, ?_, gb_refl _ _, rfl⟩
            clear h
            simp only [execOp, Act.eval, e30]
            go_simp
          refine ⟨fe3_value rfl (by decide) fun a w h => ?_, ?_⟩
          · have e31 : a.tmps.getD 31 undef = .bool true := h.dep 31 (by kernel_rfl)
            have e2 : a.tmps.getD 2 undef = .pointer (some ⟨w0.heap.size, 0, none⟩) := h.rest 2 (by kernel_rfl)
            have hb := h.base.e (w0.heap.size, fa) (by simp)
            have c0 : w.cell? ⟨w0.heap.size, 0, none⟩ = some (.int .u64 fa.x0) := hb.cell (i := 0) rfl
            have c1 : w.cell? ⟨w0.heap.size, 1, none⟩ = some (.int .u64 fa.x1) := hb.cell (i := 1) rfl
            have c2 : w.cell? ⟨w0.heap.size, 2, none⟩ = some (.int .u64 fa.x2) := hb.cell (i := 2) rfl
            have c3 : w.cell? ⟨w0.heap.size, 3, none⟩ = some (.int .u64 fa.x3) := hb.cell (i := 3) rfl
            have c4 : w.cell? ⟨w0.heap.size, 4, none⟩ = some (.int .u64 fa.x4) := hb.cell (i := 4) rfl
            refine ⟨wants_some (d := 31) rfl rfl (by rw [h.size]; show 31 < 61; decide) e31, .agg #[.int .u64 fa.x0, .int .u64 fa.x1, .int .u64 fa.x2, .int .u64 fa.x3, .int .u64 fa.x4], w, ?_, gb_refl _ _, rfl⟩
            clear h hb
            simp only [execOp, Act.eval, e2]
            go_simp
          refine ⟨fe3_value rfl (by decide) fun a w h => ?_, ?_⟩
          · have e31 : a.tmps.getD 31 undef = .bool true := h.dep 31 (by kernel_rfl)
            have e7 : a.tmps.getD 7 undef = .pointer (some ⟨v3.heap.size, 0, none⟩) := h.rest 7 (by kernel_rfl)
            have hb := h.base.e (v3.heap.size, fc) (by simp)
            have c0 : w.cell? ⟨v3.heap.size, 0, none⟩ = some (.int .u64 fc.x0) := hb.cell (i := 0) rfl
            have c1 : w.cell? ⟨v3.heap.size, 1, none⟩ = some (.int .u64 fc.x1) := hb.cell (i := 1) rfl
            have c2 : w.cell? ⟨v3.heap.size, 2, none⟩ = some (.int .u64 fc.x2) := hb.cell (i := 2) rfl
            have c3 : w.cell? ⟨v3.heap.size, 3, none⟩ = some (.int .u64 fc.x3) := hb.cell (i := 3) rfl
            have c4 : w.cell? ⟨v3.heap.size, 4, none⟩ = some (.int .u64 fc.x4) := hb.cell (i := 4) rfl
            refine ⟨wants_some (d := 31) rfl rfl (by rw [h.size]; show 31 < 61; decide) e31, .agg #[.int .u64 fc.x0, .int .u64 fc.x1, .int .u64 fc.x2, .int .u64 fc.x3, .int .u64 fc.x4], w, ?_, gb_refl _ _, rfl⟩
            clear h hb
            simp only [execOp, Act.eval, e7]
            go_simp
          refine ⟨fe3_call rfl (by decide) fun a w h => ?_, ?_⟩
          · have e31 : a.tmps.getD 31 undef = .bool true := h.dep 31 (by kernel_rfl)
            have e32 : a.tmps.getD 32 undef = fa.v := h.dep 32 (by kernel_rfl)
            have e32x : a.tmps[32]?.getD undef = fa.v := by simpa using e32
            have e33 : a.tmps.getD 33 undef = fc.v := h.dep 33 (by kernel_rfl)
            have e33x : a.tmps[33]?.getD undef = fc.v := by simpa using e33
            have hb := h.base
            refine ⟨wants_some (d := 31) rfl rfl (by rw [h.size]; show 31 < 61; decide) e31, 13, #[fa.v, fc.v], ?_, ?_⟩
            · clear h hb e32 e33
              go_simp
            · refine (same_val fa fc true w oka okc (HS.out)).mono ?_
              intro e w1 hp
              obtain ⟨rfl, hg⟩ := hp
              exact ⟨_, rfl, hg, rfl⟩
          refine ⟨fe3_value rfl (by decide) fun a w h => ?_, ?_⟩
          · have e31 : a.tmps.getD 31 undef = .bool true := h.dep 31 (by kernel_rfl)
            have e34 : a.tmps.getD 34 undef = .bool true := h.dep 34 (by kernel_rfl)
            refine ⟨wants_none rfl, .bool true, w, ?_, gb_refl _ _, rfl⟩
            clear h
            simp only [execOp, Act.eval, e31, e34]
            go_simp
          refine ⟨fe3_value rfl (by decide) fun a w h => ?_, ?_⟩
          · have e35 : a.tmps.getD 35 undef = .bool true := h.dep 35 (by kernel_rfl)
            refine ⟨wants_none rfl, .bool true, w, ?_, gb_refl _ _, rfl⟩
            clear h
            simp only [execOp, Act.eval, e35]
            go_simp
          refine ⟨fe3_value rfl (by decide) fun a w h => ?_, ?_⟩
          · have e36 : a.tmps.getD 36 undef = .bool true := h.dep 36 (by kernel_rfl)
            have e7 : a.tmps.getD 7 undef = .pointer (some ⟨v3.heap.size, 0, none⟩) := h.rest 7 (by kernel_rfl)
            have hb := h.base.e (v3.heap.size, fc) (by simp)
            have c0 : w.cell? ⟨v3.heap.size, 0, none⟩ = some (.int .u64 fc.x0) := hb.cell (i := 0) rfl
            have c1 : w.cell? ⟨v3.heap.size, 1, none⟩ = some (.int .u64 fc.x1) := hb.cell (i := 1) rfl
            have c2 : w.cell? ⟨v3.heap.size, 2, none⟩ = some (.int .u64 fc.x2) := hb.cell (i := 2) rfl
            have c3 : w.cell? ⟨v3.heap.size, 3, none⟩ = some (.int .u64 fc.x3) := hb.cell (i := 3) rfl
            have c4 : w.cell? ⟨v3.heap.size, 4, none⟩ = some (.int .u64 fc.x4) := hb.cell (i := 4) rfl
            refine ⟨wants_some (d := 36) rfl rfl (by rw [h.size]; show 36 < 61; decide) e36, .agg #[.int .u64 fc.x0, .int .u64 fc.x1, .int .u64 fc.x2, .int .u64 fc.x3, .int .u64 fc.x4], w, ?_, gb_refl _ _, rfl⟩
            clear h hb
            simp only [execOp, Act.eval, e7]
            go_simp
          refine ⟨fe3_value rfl (by decide) fun a w h => ?_, ?_⟩
          · have e36 : a.tmps.getD 36 undef = .bool true := h.dep 36 (by kernel_rfl)
            have e37 : a.tmps.getD 37 undef = .agg #[.int .u64 fc.x0, .int .u64 fc.x1, .int .u64 fc.x2, .int .u64 fc.x3, .int .u64 fc.x4] := h.dep 37 (by kernel_rfl)
            refine ⟨wants_some (d := 36) rfl rfl (by rw [h.size]; show 36 < 61; decide) e36, .slice (some ⟨w.heap.size, 0, none⟩) 1 1, w.alloc (.cells #[.int .u64 fc.x0, .int .u64 fc.x1, .int .u64 fc.x2, .int .u64 fc.x3, .int .u64 fc.x4] 24), ?_, World.grownBy_alloc _ _ _, ⟨w.heap.size, rfl, Blk.new w (fesL [fc]) _⟩⟩
            clear h
            simp only [execOp, List.map_toArray, List.map_cons, List.map_nil, Act.eval, e37]
            go_simp
          refine ⟨fe3_call rfl (by decide) fun a w h => ?_, ?_⟩
          · have e36 : a.tmps.getD 36 undef = .bool true := h.dep 36 (by kernel_rfl)
            obtain ⟨B38, e38, b38⟩ : ∃ PB, a.tmps.getD 38 undef = .slice (some ⟨PB, 0, none⟩) 1 1 ∧ Blk w PB 24 (fesL [fc]) := h.dep 38 (by kernel_rfl)
            have e38x : a.tmps[38]?.getD undef = .slice (some ⟨B38, 0, none⟩) 1 1 := by simpa using e38
            have hb := h.base
            refine ⟨wants_some (d := 36) rfl rfl (by rw [h.size]; show 36 < 61; decide) e36, 31, #[.slice (some ⟨B38, 0, none⟩) 1 1], ?_, ?_⟩
            · clear h hb e38 b38
              go_simp
            · refine (right_val _ 1 [fc] true w rfl (by decide) (HRc.out) b38).mono ?_
              intro e w1 hp
              obtain ⟨rfl, hg⟩ := hp
              exact ⟨_, rfl, hg, rfl⟩
          refine ⟨fe3_value rfl (by decide) fun a w h => ?_, ?_⟩
          · have e36 : a.tmps.getD 36 undef = .bool true := h.dep 36 (by kernel_rfl)
            have e39 : a.tmps.getD 39 undef = .bool true := h.dep 39 (by kernel_rfl)
            refine ⟨wants_none rfl, .bool true, w, ?_, gb_refl _ _, rfl⟩
            clear h
            simp only [execOp, Act.eval, e36, e39]
            go_simp
          refine ⟨fe3_value rfl (by decide) fun a w h => ?_, ?_⟩
          · have e40 : a.tmps.getD 40 undef = .bool true := h.dep 40 (by kernel_rfl)
            refine ⟨wants_none rfl, .bool true, w, ?_, gb_refl _ _, rfl⟩
            clear h
            simp only [execOp, Act.eval, e40]
            go_simp
          refine ⟨fe3_value rfl (by decide) fun a w h => ?_, ?_⟩
          · have e41 : a.tmps.getD 41 undef = .bool true := h.dep 41 (by kernel_rfl)
            have e5 : a.tmps.getD 5 undef = .slice (some ⟨NB5, 0, none⟩) 32 32 := h.rest 5 (by kernel_rfl)
            exact ⟨wants_some (d := 41) rfl rfl (by rw [h.size]; show 41 < 61; decide) e41, _, w, by simp only [execOp, Act.eval, e5]; rfl, gb_refl _ _, ⟨NB5, rfl, _, (hx7.grown h.base.g (by simp))⟩⟩
          refine ⟨fe3_value rfl (by decide) fun a w h => ?_, ?_⟩
          · have e41 : a.tmps.getD 41 undef = .bool true := h.dep 41 (by kernel_rfl)
            have e6 : a.tmps.getD 6 undef = .slice (some ⟨NB6, 0, none⟩) 32 32 := h.rest 6 (by kernel_rfl)
            exact ⟨wants_some (d := 41) rfl rfl (by rw [h.size]; show 41 < 61; decide) e41, _, w, by simp only [execOp, Act.eval, e6]; rfl, gb_refl _ _, ⟨NB6, rfl, _, (hy7.grown h.base.g (by simp))⟩⟩
          refine ⟨fe3_call rfl (by decide) fun a w h => ?_, ?_⟩
          · have e41 : a.tmps.getD 41 undef = .bool true := h.dep 41 (by kernel_rfl)
            obtain ⟨B42, e42, T42, b42⟩ : ∃ NB, a.tmps.getD 42 undef = .slice (some ⟨NB, 0, none⟩) 32 32 ∧ ∃ T, Blk w NB T (bytesV ((Fe.m fa : Int))) := h.dep 42 (by kernel_rfl)
            have e42x : a.tmps[42]?.getD undef = .slice (some ⟨B42, 0, none⟩) 32 32 := by simpa using e42
            obtain ⟨B43, e43, T43, b43⟩ : ∃ NB, a.tmps.getD 43 undef = .slice (some ⟨NB, 0, none⟩) 32 32 ∧ ∃ T, Blk w NB T (bytesV ((Fe.m fb : Int))) := h.dep 43 (by kernel_rfl)
            have e43x : a.tmps[43]?.getD undef = .slice (some ⟨B43, 0, none⟩) 32 32 := by simpa using e43
            have hb := h.base
            refine ⟨wants_some (d := 41) rfl rfl (by rw [h.size]; show 41 < 61; decide) e41, 33, #[.slice (some ⟨B42, 0, none⟩) 32 32, .slice (some ⟨B43, 0, none⟩) 32 32], ?_, ?_⟩
            · clear h hb e42 e43 b42 b43
              go_simp
            · refine (sameBytes_val _ _ _ _ _ _ false w b42 b43 (HEb.out)).mono ?_
              intro e w1 hp
              obtain ⟨rfl, hg⟩ := hp
              exact ⟨_, rfl, hg, rfl⟩
          refine ⟨fe3_value rfl (by decide) fun a w h => ?_, ?_⟩
          · have e41 : a.tmps.getD 41 undef = .bool true := h.dep 41 (by kernel_rfl)
            have e2 : a.tmps.getD 2 undef = .pointer (some ⟨w0.heap.size, 0, none⟩) := h.rest 2 (by kernel_rfl)
            have hb := h.base.e (w0.heap.size, fa) (by simp)
            have c0 : w.cell? ⟨w0.heap.size, 0, none⟩ = some (.int .u64 fa.x0) := hb.cell (i := 0) rfl
            have c1 : w.cell? ⟨w0.heap.size, 1, none⟩ = some (.int .u64 fa.x1) := hb.cell (i := 1) rfl
            have c2 : w.cell? ⟨w0.heap.size, 2, none⟩ = some (.int .u64 fa.x2) := hb.cell (i := 2) rfl
            have c3 : w.cell? ⟨w0.heap.size, 3, none⟩ = some (.int .u64 fa.x3) := hb.cell (i := 3) rfl
            have c4 : w.cell? ⟨w0.heap.size, 4, none⟩ = some (.int .u64 fa.x4) := hb.cell (i := 4) rfl
            refine ⟨wants_some (d := 41) rfl rfl (by rw [h.size]; show 41 < 61; decide) e41, .agg #[.int .u64 fa.x0, .int .u64 fa.x1, .int .u64 fa.x2, .int .u64 fa.x3, .int .u64 fa.x4], w, ?_, gb_refl _ _, rfl⟩
            clear h hb
            simp only [execOp, Act.eval, e2]
            go_simp
          refine ⟨fe3_value rfl (by decide) fun a w h => ?_, ?_⟩
          · have e41 : a.tmps.getD 41 undef = .bool true := h.dep 41 (by kernel_rfl)
            have e3 : a.tmps.getD 3 undef = .pointer (some ⟨(w0.heap.size + 1), 0, none⟩) := h.rest 3 (by kernel_rfl)
            have hb := h.base.e ((w0.heap.size + 1), fb) (by simp)
            have c0 : w.cell? ⟨(w0.heap.size + 1), 0, none⟩ = some (.int .u64 fb.x0) := hb.cell (i := 0) rfl
            have c1 : w.cell? ⟨(w0.heap.size + 1), 1, none⟩ = some (.int .u64 fb.x1) := hb.cell (i := 1) rfl
            have c2 : w.cell? ⟨(w0.heap.size + 1), 2, none⟩ = some (.int .u64 fb.x2) := hb.cell (i := 2) rfl
            have c3 : w.cell? ⟨(w0.heap.size + 1), 3, none⟩ = some (.int .u64 fb.x3) := hb.cell (i := 3) rfl
            have c4 : w.cell? ⟨(w0.heap.size + 1), 4, none⟩ = some (.int .u64 fb.x4) := hb.cell (i := 4) rfl
            refine ⟨wants_some (d := 41) rfl rfl (by rw [h.size]; show 41 < 61; decide) e41, .agg #[.int .u64 fb.x0, .int .u64 fb.x1, .int .u64 fb.x2, .int .u64 fb.x3, .int .u64 fb.x4], w, ?_, gb_refl _ _, rfl⟩
            clear h hb
            simp only [execOp, Act.eval, e3]
            go_simp
          refine ⟨fe3_call rfl (by decide) fun a w h => ?_, ?_⟩
          · have e41 : a.tmps.getD 41 undef = .bool true := h.dep 41 (by kernel_rfl)
            have e45 : a.tmps.getD 45 undef = fa.v := h.dep 45 (by kernel_rfl)
            have e45x : a.tmps[45]?.getD undef = fa.v := by simpa using e45
            have e46 : a.tmps.getD 46 undef = fb.v := h.dep 46 (by kernel_rfl)
            have e46x : a.tmps[46]?.getD undef = fb.v := by simpa using e46
            have hb := h.base
            refine ⟨wants_some (d := 41) rfl rfl (by rw [h.size]; show 41 < 61; decide) e41, 13, #[fa.v, fb.v], ?_, ?_⟩
            · clear h hb e45 e46
              go_simp
            · refine (same_val fa fb false w oka okb (HE.out)).mono ?_
              intro e w1 hp
              obtain ⟨rfl, hg⟩ := hp
              exact ⟨_, rfl, hg, rfl⟩
          refine ⟨fe3_value rfl (by decide) fun a w h => ?_, ?_⟩
          · have e41 : a.tmps.getD 41 undef = .bool true := h.dep 41 (by kernel_rfl)
            have e44 : a.tmps.getD 44 undef = .bool false := h.dep 44 (by kernel_rfl)
            have e47 : a.tmps.getD 47 undef = .bool false := h.dep 47 (by kernel_rfl)
            refine ⟨wants_some (d := 41) rfl rfl (by rw [h.size]; show 41 < 61; decide) e41, .bool true, w, ?_, gb_refl _ _, rfl⟩
            clear h
            simp only [execOp, Act.eval, e44, e47]
            go_simp
          refine ⟨fe3_value rfl (by decide) fun a w h => ?_, ?_⟩
          · have e41 : a.tmps.getD 41 undef = .bool true := h.dep 41 (by kernel_rfl)
            have e48 : a.tmps.getD 48 undef = .bool true := h.dep 48 (by kernel_rfl)
            refine ⟨wants_none rfl, .bool true, w, ?_, gb_refl _ _, rfl⟩
            clear h
            simp only [execOp, Act.eval, e41, e48]
            go_simp
          refine ⟨fe3_value rfl (by decide) fun a w h => ?_, ?_⟩
          · have e49 : a.tmps.getD 49 undef = .bool true := h.dep 49 (by kernel_rfl)
            refine ⟨wants_none rfl, .bool true, w, ?_, gb_refl _ _, rfl⟩
            clear h
            simp only [execOp, Act.eval, e49]
            go_simp
          refine ⟨fe3_value rfl (by decide) fun a w h => ?_, ?_⟩
          · have e50 : a.tmps.getD 50 undef = .bool true := h.dep 50 (by kernel_rfl)
            have e2 : a.tmps.getD 2 undef = .pointer (some ⟨w0.heap.size, 0, none⟩) := h.rest 2 (by kernel_rfl)
            have hb := h.base.e (w0.heap.size, fa) (by simp)
            have c0 : w.cell? ⟨w0.heap.size, 0, none⟩ = some (.int .u64 fa.x0) := hb.cell (i := 0) rfl
            have c1 : w.cell? ⟨w0.heap.size, 1, none⟩ = some (.int .u64 fa.x1) := hb.cell (i := 1) rfl
            have c2 : w.cell? ⟨w0.heap.size, 2, none⟩ = some (.int .u64 fa.x2) := hb.cell (i := 2) rfl
            have c3 : w.cell? ⟨w0.heap.size, 3, none⟩ = some (.int .u64 fa.x3) := hb.cell (i := 3) rfl
            have c4 : w.cell? ⟨w0.heap.size, 4, none⟩ = some (.int .u64 fa.x4) := hb.cell (i := 4) rfl
            refine ⟨wants_some (d := 50) rfl rfl (by rw [h.size]; show 50 < 61; decide) e50, .agg #[.int .u64 fa.x0, .int .u64 fa.x1, .int .u64 fa.x2, .int .u64 fa.x3, .int .u64 fa.x4], w, ?_, gb_refl _ _, rfl⟩
            clear h hb
            simp only [execOp, Act.eval, e2]
            go_simp
          refine ⟨fe3_call rfl (by decide) fun a w h => ?_, ?_⟩
          · have e50 : a.tmps.getD 50 undef = .bool true := h.dep 50 (by kernel_rfl)
            have e51 : a.tmps.getD 51 undef = fa.v := h.dep 51 (by kernel_rfl)
            have e51x : a.tmps[51]?.getD undef = fa.v := by simpa using e51
            have hb := h.base
            refine ⟨wants_some (d := 50) rfl rfl (by rw [h.size]; show 50 < 61; decide) e50, 24, #[fa.v], ?_, ?_⟩
            · clear h hb e51
              go_simp
            · refine (zero_val fa false w oka (HZ.out)).mono ?_
              intro e w1 hp
              obtain ⟨rfl, hg⟩ := hp
              exact ⟨_, rfl, hg, rfl⟩
          refine ⟨fe3_value rfl (by decide) fun a w h => ?_, ?_⟩
          · have e50 : a.tmps.getD 50 undef = .bool true := h.dep 50 (by kernel_rfl)
            have e2 : a.tmps.getD 2 undef = .pointer (some ⟨w0.heap.size, 0, none⟩) := h.rest 2 (by kernel_rfl)
            have hb := h.base.e (w0.heap.size, fa) (by simp)
            have c0 : w.cell? ⟨w0.heap.size, 0, none⟩ = some (.int .u64 fa.x0) := hb.cell (i := 0) rfl
            have c1 : w.cell? ⟨w0.heap.size, 1, none⟩ = some (.int .u64 fa.x1) := hb.cell (i := 1) rfl
            have c2 : w.cell? ⟨w0.heap.size, 2, none⟩ = some (.int .u64 fa.x2) := hb.cell (i := 2) rfl
            have c3 : w.cell? ⟨w0.heap.size, 3, none⟩ = some (.int .u64 fa.x3) := hb.cell (i := 3) rfl
            have c4 : w.cell? ⟨w0.heap.size, 4, none⟩ = some (.int .u64 fa.x4) := hb.cell (i := 4) rfl
            refine ⟨wants_some (d := 50) rfl rfl (by rw [h.size]; show 50 < 61; decide) e50, .agg #[.int .u64 fa.x0, .int .u64 fa.x1, .int .u64 fa.x2, .int .u64 fa.x3, .int .u64 fa.x4], w, ?_, gb_refl _ _, rfl⟩
            clear h hb
            simp only [execOp, Act.eval, e2]
            go_simp
          refine ⟨fe3_call rfl (by decide) fun a w h => ?_, ?_⟩
          · have e50 : a.tmps.getD 50 undef = .bool true := h.dep 50 (by kernel_rfl)
            have e53 : a.tmps.getD 53 undef = fa.v := h.dep 53 (by kernel_rfl)
            have e53x : a.tmps[53]?.getD undef = fa.v := by simpa using e53
            have hb := h.base
            refine ⟨wants_some (d := 50) rfl rfl (by rw [h.size]; show 50 < 61; decide) e50, 25, #[fa.v], ?_, ?_⟩
            · clear h hb e53
              go_simp
            · refine (odd_val fa true w oka (HO.out)).mono ?_
              intro e w1 hp
              obtain ⟨rfl, hg⟩ := hp
              exact ⟨_, rfl, hg, rfl⟩
          refine ⟨fe3_value rfl (by decide) fun a w h => ?_, ?_⟩
          · have e50 : a.tmps.getD 50 undef = .bool true := h.dep 50 (by kernel_rfl)
            have e2 : a.tmps.getD 2 undef = .pointer (some ⟨w0.heap.size, 0, none⟩) := h.rest 2 (by kernel_rfl)
            have hb := h.base.e (w0.heap.size, fa) (by simp)
            have c0 : w.cell? ⟨w0.heap.size, 0, none⟩ = some (.int .u64 fa.x0) := hb.cell (i := 0) rfl
            have c1 : w.cell? ⟨w0.heap.size, 1, none⟩ = some (.int .u64 fa.x1) := hb.cell (i := 1) rfl
            have c2 : w.cell? ⟨w0.heap.size, 2, none⟩ = some (.int .u64 fa.x2) := hb.cell (i := 2) rfl
            have c3 : w.cell? ⟨w0.heap.size, 3, none⟩ = some (.int .u64 fa.x3) := hb.cell (i := 3) rfl
            have c4 : w.cell? ⟨w0.heap.size, 4, none⟩ = some (.int .u64 fa.x4) := hb.cell (i := 4) rfl
            refine ⟨wants_some (d := 50) rfl rfl (by rw [h.size]; show 50 < 61; decide) e50, .agg #[.int .u64 fa.x0, .int .u64 fa.x1, .int .u64 fa.x2, .int .u64 fa.x3, .int .u64 fa.x4], w, ?_, gb_refl _ _, rfl⟩
            clear h hb
            simp only [execOp, Act.eval, e2]
            go_simp
          refine ⟨fe3_call rfl (by decide) fun a w h => ?_, ?_⟩
          · have e50 : a.tmps.getD 50 undef = .bool true := h.dep 50 (by kernel_rfl)
            have e55 : a.tmps.getD 55 undef = fa.v := h.dep 55 (by kernel_rfl)
            have e55x : a.tmps[55]?.getD undef = fa.v := by simpa using e55
            have hb := h.base
            refine ⟨wants_some (d := 50) rfl rfl (by rw [h.size]; show 50 < 61; decide) e50, 14, #[fa.v], ?_, ?_⟩
            · clear h hb e55
              go_simp
            · refine (neg_any fa w (HT7.out.grown hb.g) oka).mono ?_
              intro e w1 hp
              obtain ⟨rfl, hg⟩ := feOut_is hp
              exact ⟨_, rfl, hg, rfl⟩
          refine ⟨fe3_call rfl (by decide) fun a w h => ?_, ?_⟩
          · have e50 : a.tmps.getD 50 undef = .bool true := h.dep 50 (by kernel_rfl)
            have e56 : a.tmps.getD 56 undef = (Fe.negF fa).v := h.dep 56 (by kernel_rfl)
            have e56x : a.tmps[56]?.getD undef = (Fe.negF fa).v := by simpa using e56
            have hb := h.base
            refine ⟨wants_some (d := 50) rfl rfl (by rw [h.size]; show 50 < 61; decide) e50, 25, #[(Fe.negF fa).v], ?_, ?_⟩
            · clear h hb e56
              go_simp
            · refine (odd_val (Fe.negF fa) false w (Fe.neg_right _).ok (HN.out)).mono ?_
              intro e w1 hp
              obtain ⟨rfl, hg⟩ := hp
              exact ⟨_, rfl, hg, rfl⟩
          refine ⟨fe3_value rfl (by decide) fun a w h => ?_, ?_⟩
          · have e50 : a.tmps.getD 50 undef = .bool true := h.dep 50 (by kernel_rfl)
            have e54 : a.tmps.getD 54 undef = .bool true := h.dep 54 (by kernel_rfl)
            have e57 : a.tmps.getD 57 undef = .bool false := h.dep 57 (by kernel_rfl)
            refine ⟨wants_some (d := 50) rfl rfl (by rw [h.size]; show 50 < 61; decide) e50, .bool false, w, ?_, gb_refl _ _, rfl⟩
            clear h
            simp only [execOp, Act.eval, e54, e57]
            go_simp
          refine ⟨fe3_value rfl (by decide) fun a w h => ?_, ?_⟩
          · have e50 : a.tmps.getD 50 undef = .bool true := h.dep 50 (by kernel_rfl)
            have e52 : a.tmps.getD 52 undef = .bool false := h.dep 52 (by kernel_rfl)
            have e58 : a.tmps.getD 58 undef = .bool false := h.dep 58 (by kernel_rfl)
            refine ⟨wants_some (d := 50) rfl rfl (by rw [h.size]; show 50 < 61; decide) e50, .bool true, w, ?_, gb_refl _ _, rfl⟩
            clear h
            simp only [execOp, Act.eval, e52, e58]
            go_simp
          refine ⟨fe3_value rfl (by decide) fun a w h => ?_, ?_⟩
          · have e50 : a.tmps.getD 50 undef = .bool true := h.dep 50 (by kernel_rfl)
            have e59 : a.tmps.getD 59 undef = .bool true := h.dep 59 (by kernel_rfl)
            refine ⟨wants_none rfl, .bool true, w, ?_, gb_refl _ _, rfl⟩
            clear h
            simp only [execOp, Act.eval, e50, e59]
            go_simp
          refine ⟨fe3_value rfl (by decide) fun a w h => ?_, ?_⟩
          · have e60 : a.tmps.getD 60 undef = .bool true := h.dep 60 (by kernel_rfl)
            refine ⟨wants_none rfl, .bool true, w, ?_, gb_refl _ _, rfl⟩
            clear h
            simp only [execOp, Act.eval, e60]
            go_simp
          trivial
        · intro q w hB hsz hdf hrest hslots hmems
          have e4 : q.tmps.getD 4 undef = .bool true := hslots 4 (by kernel_rfl)
          have G := gb_trans G7 hB.g
          replace hdf : q.defers = [] := hdf
          clear hB hsz hrest hslots hmems
          have e4x : q.tmps[4]?.getD undef = .bool true := by simpa using e4
          go_wp2_with fail
          refine bodyPost_ret (v := .bool true) ?_ hdf ⟨rfl, G⟩
          simp [results, Tryd.results6, go_sem, e4x]
      · obtain ⟨hz, ho, hn⟩ := hc
        have HZ := Lib.hid hz; have HO := Lib.hid ho; have HN := Lib.hid hn; clear hz ho hn
        refine wp_region_flow3 (items3 (Okb W7 [(w0.heap.size, fa), ((w0.heap.size + 1), fb), (v3.heap.size, fc)]) [.any, .any, .any, .any, .val (.bool true), .any, .any, .any, .any, .any, .any, .any, .any, .any, .any, .any, .any, .any, .any, .any, .any, .any, .any, .any, .any, .val (.bool true), .val (.bool true), .bytes ((Fe.m fa : Int)), .val (.int .i64 32), .val (.bool true), .val (.bool true), .val (.bool true), .val (fa.v), .val (fc.v), .val (.bool true), .val (.bool true), .val (.bool true), .val (fc.v), .elems 1 [fc], .val (.bool true), .val (.bool true), .val (.bool true), .bytes ((Fe.m fa : Int)), .bytes ((Fe.m fb : Int)), .val (.bool false), .val (fa.v), .val (fb.v), .val (.bool false), .val (.bool true), .val (.bool true), .val (.bool true), .val (fa.v), .val (.bool false), .val (fa.v), .val (.bool false), .val (fa.v), .val ((Fe.negF fa).v), .val (.bool true), .val (.bool false), .val (.bool true), .val (.bool true)]) (fun j =>  0) (Stored3 (Okb W7 [(w0.heap.size, fa), ((w0.heap.size + 1), fb), (v3.heap.size, fc)]) (fun j =>  Fe.zeroF)) (EnvB W7 W7.heap.size [(w0.heap.size, fa), ((w0.heap.size + 1), fb), (v3.heap.size, fc)] []) [] (by kernel_rfl) (by kernel_rfl) (by kernel_rfl) (hB7.grown (gb_drewn _)) (fun s hs => by cases hs) (by kernel_rfl) ?_ ?_
        · refine ⟨fe3_value rfl (by decide) fun a w h => ?_, ?_⟩
          · have e8 : a.tmps.getD 8 undef = .bool true := h.rest 8 (by kernel_rfl)
            refine ⟨wants_none rfl, .bool true, w, ?_, gb_refl _ _, rfl⟩
            clear h
            simp only [execOp, Act.eval, e8]
            go_simp
          refine ⟨fe3_value rfl (by decide) fun a w h => ?_, ?_⟩
          · have e25 : a.tmps.getD 25 undef = .bool true := h.dep 25 (by kernel_rfl)
            refine ⟨wants_none rfl, .bool true, w, ?_, gb_refl _ _, rfl⟩
            clear h
            simp only [execOp, Act.eval, e25]
            go_simp
          refine ⟨fe3_value rfl (by decide) fun a w h => ?_, ?_⟩
          · have e26 : a.tmps.getD 26 undef = .bool true := h.dep 26 (by kernel_rfl)
            have e5 : a.tmps.getD 5 undef = .slice (some ⟨NB5, 0, none⟩) 32 32 := h.rest 5 (by kernel_rfl)
            exact ⟨wants_some (d := 26) rfl rfl (by rw [h.size]; show 26 < 61; decide) e26, _, w, by simp only [execOp, Act.eval, e5]; rfl, gb_refl _ _, ⟨NB5, rfl, _, (hx7.grown h.base.g (by simp))⟩⟩
          refine ⟨fe3_value rfl (by decide) fun a w h => ?_, ?_⟩
          · have e26 : a.tmps.getD 26 undef = .bool true := h.dep 26 (by kernel_rfl)
            obtain ⟨B27, e27, T27, b27⟩ : ∃ NB, a.tmps.getD 27 undef = .slice (some ⟨NB, 0, none⟩) 32 32 ∧ ∃ T, Blk w NB T (bytesV ((Fe.m fa : Int))) := h.dep 27 (by kernel_rfl)
            have e27x : a.tmps[27]?.getD undef = .slice (some ⟨B27, 0, none⟩) 32 32 := by simpa using e27
            refine ⟨wants_some (d := 26) rfl rfl (by rw [h.size]; show 26 < 61; decide) e26, .int .i64 32, w, ?_, gb_refl _ _, rfl⟩
            clear h e27
            go_simp
          refine ⟨fe3_value rfl (by decide) fun a w h => ?_, ?_⟩
          · have e26 : a.tmps.getD 26 undef = .bool true := h.dep 26 (by kernel_rfl)
            have e28 : a.tmps.getD 28 undef = .int .i64 32 := h.dep 28 (by kernel_rfl)
            refine ⟨wants_some (d := 26) rfl rfl (by rw [h.size]; show 26 < 61; decide) e26, .bool true, w, ?_, gb_refl _ _, rfl⟩
            clear h
            simp only [execOp, Act.eval, e28]
            go_simp
          refine ⟨fe3_value rfl (by decide) fun a w h => ?_, ?_⟩
          · have e26 : a.tmps.getD 26 undef = .bool true := h.dep 26 (by kernel_rfl)
            have e29 : a.tmps.getD 29 undef = .bool true := h.dep 29 (by kernel_rfl)
            refine ⟨wants_none rfl, .bool true, w, ?_, gb_refl _ _, rfl⟩
            clear h
            simp only [execOp, Act.eval, e26, e29]
            go_simp
          refine ⟨fe3_value rfl (by decide) fun a w h => ?_, ?_⟩
          · have e30 : a.tmps.getD 30 undef = .bool true := h.dep 30 (by kernel_rfl)
            refine ⟨wants_none rfl, .bool true, w, ?_, gb_refl _ _, rfl⟩
            clear h
            simp only [execOp, Act.eval, e30]
            go_simp
          refine ⟨fe3_value rfl (by decide) fun a w h => ?_, ?_⟩
          · have e31 : a.tmps.getD 31 undef = .bool true := h.dep 31 (by kernel_rfl)
            have e2 : a.tmps.getD 2 undef = .pointer (some ⟨w0.heap.size, 0, none⟩) := h.rest 2 (by kernel_rfl)
            have hb := h.base.e (w0.heap.size, fa) (by simp)
            have c0 : w.cell? ⟨w0.heap.size, 0, none⟩ = some (.int .u64 fa.x0) := hb.cell (i := 0) rfl
            have c1 : w.cell? ⟨w0.heap.size, 1, none⟩ = some (.int .u64 fa.x1) := hb.cell (i := 1) rfl
            have c2 : w.cell? ⟨w0.heap.size, 2, none⟩ = some (.int .u64 fa.x2) := hb.cell (i := 2) rfl
            have c3 : w.cell? ⟨w0.heap.size, 3, none⟩ = some (.int .u64 fa.x3) := hb.cell (i := 3) rfl
            have c4 : w.cell? ⟨w0.heap.size, 4, none⟩ = some (.int .u64 fa.x4) := hb.cell (i := 4) rfl
            refine ⟨wants_some (d := 31) rfl rfl (by rw [h.size]; show 31 < 61; decide) e31, .agg #[.int .u64 fa.x0, .int .u64 fa.x1, .int .u64 fa.x2, .int .u64 fa.x3, .int .u64 fa.x4], w, ?_, gb_refl _ _, rfl⟩
            clear h hb
            simp only [execOp, Act.eval, e2]
            go_simp
          refine ⟨fe3_value rfl (by decide) fun a w h => ?_, ?_⟩
          · have e31 : a.tmps.getD 31 undef = .bool true := h.dep 31 (by kernel_rfl)
            have e7 : a.tmps.getD 7 undef = .pointer (some ⟨v3.heap.size, 0, none⟩) := h.rest 7 (by kernel_rfl)
            have hb := h.base.e (v3.heap.size, fc) (by simp)
            have c0 : w.cell? ⟨v3.heap.size, 0, none⟩ = some (.int .u64 fc.x0) := hb.cell (i := 0) rfl
            have c1 : w.cell? ⟨v3.heap.size, 1, none⟩ = some (.int .u64 fc.x1) := hb.cell (i := 1) rfl
            have c2 : w.cell? ⟨v3.heap.size, 2, none⟩ = some (.int .u64 fc.x2) := hb.cell (i := 2) rfl
            have c3 : w.cell? ⟨v3.heap.size, 3, none⟩ = some (.int .u64 fc.x3) := hb.cell (i := 3) rfl
            have c4 : w.cell? ⟨v3.heap.size, 4, none⟩ = some (.int .u64 fc.x4) := hb.cell (i := 4) rfl
            refine ⟨wants_some (d := 31) rfl rfl (by rw [h.size]; show 31 < 61; decide) e31, .agg #[.int .u64 fc.x0, .int .u64 fc.x1, .int .u64 fc.x2, .int .u64 fc.x3, .int .u64 fc.x4], w, ?_, gb_refl _ _, rfl⟩
            clear h hb
            simp only [execOp, Act.eval, e7]
            go_simp
          refine ⟨fe3_call rfl (by decide) fun a w h => ?_, ?_⟩
          · have e31 : a.tmps.getD 31 undef = .bool true := h.dep 31 (by kernel_rfl)
            have e32 : a.tmps.getD 32 undef = fa.v := h.dep 32 (by kernel_rfl)
            have e32x : a.tmps[32]?.getD undef = fa.v := by simpa using e32
            have e33 : a.tmps.getD 33 undef = fc.v := h.dep 33 (by kernel_rfl)
            have e33x : a.tmps[33]?.getD undef = fc.v := by simpa using e33
            have hb := h.base
            refine ⟨wants_some (d := 31) rfl rfl (by rw [h.size]; show 31 < 61; decide) e31, 13, #[fa.v, fc.v], ?_, ?_⟩
            · clear h hb e32 e33
              go_simp
            · refine (same_val fa fc true w oka okc (HS.out)).mono ?_
              intro e w1 hp
              obtain ⟨rfl, hg⟩ := hp
              exact ⟨_, rfl, hg, rfl⟩
          refine ⟨fe3_value rfl (by decide) fun a w h => ?_, ?_⟩
          · have e31 : a.tmps.getD 31 undef = .bool true := h.dep 31 (by kernel_rfl)
            have e34 : a.tmps.getD 34 undef = .bool true := h.dep 34 (by kernel_rfl)
            refine ⟨wants_none rfl, .bool true, w, ?_, gb_refl _ _, rfl⟩
            clear h
            simp only [execOp, Act.eval, e31, e34]
            go_simp
          refine ⟨fe3_value rfl (by decide) fun a w h => ?_, ?_⟩
          · have e35 : a.tmps.getD 35 undef = .bool true := h.dep 35 (by kernel_rfl)
            refine ⟨wants_none rfl, .bool true, w, ?_, gb_refl _ _, rfl⟩
            clear h
            simp only [execOp, Act.eval, e35]
            go_simp
          refine ⟨fe3_value rfl (by decide) fun a w h => ?_, ?_⟩
          · have e36 : a.tmps.getD 36 undef = .bool true := h.dep 36 (by kernel_rfl)
            have e7 : a.tmps.getD 7 undef = .pointer (some ⟨v3.heap.size, 0, none⟩) := h.rest 7 (by kernel_rfl)
            have hb := h.base.e (v3.heap.size, fc) (by simp)
            have c0 : w.cell? ⟨v3.heap.size, 0, none⟩ = some (.int .u64 fc.x0) := hb.cell (i := 0) rfl
            have c1 : w.cell? ⟨v3.heap.size, 1, none⟩ = some (.int .u64 fc.x1) := hb.cell (i := 1) rfl
            have c2 : w.cell? ⟨v3.heap.size, 2, none⟩ = some (.int .u64 fc.x2) := hb.cell (i := 2) rfl
            have c3 : w.cell? ⟨v3.heap.size, 3, none⟩ = some (.int .u64 fc.x3) := hb.cell (i := 3) rfl
            have c4 : w.cell? ⟨v3.heap.size, 4, none⟩ = some (.int .u64 fc.x4) := hb.cell (i := 4) rfl
            refine ⟨wants_some (d := 36) rfl rfl (by rw [h.size]; show 36 < 61; decide) e36, .agg #[.int .u64 fc.x0, .int .u64 fc.x1, .int .u64 fc.x2, .int .u64 fc.x3, .int .u64 fc.x4], w, ?_, gb_refl _ _, rfl⟩
            clear h hb
            simp only [execOp, Act.eval, e7]
            go_simp
          refine ⟨fe3_value rfl (by decide) fun a w h => ?_, ?_⟩
          · have e36 : a.tmps.getD 36 undef = .bool true := h.dep 36 (by kernel_rfl)
            have e37 : a.tmps.getD 37 undef = .agg #[.int .u64 fc.x0, .int .u64 fc.x1, .int .u64 fc.x2, .int .u64 fc.x3, .int .u64 fc.x4] := h.dep 37 (by kernel_rfl)
            refine ⟨wants_some (d := 36) rfl rfl (by rw [h.size]; show 36 < 61; decide) e36, .slice (some ⟨w.heap.size, 0, none⟩) 1 1, w.alloc (.cells #[.int .u64 fc.x0, .int .u64 fc.x1, .int .u64 fc.x2, .int .u64 fc.x3, .int .u64 fc.x4] 24), ?_, World.grownBy_alloc _ _ _, ⟨w.heap.size, rfl, Blk.new w (fesL [fc]) _⟩⟩
            clear h
            simp only [execOp, List.map_toArray, List.map_cons, List.map_nil, Act.eval, e37]
            go_simp
          refine ⟨fe3_call rfl (by decide) fun a w h => ?_, ?_⟩
          · have e36 : a.tmps.getD 36 undef = .bool true := h.dep 36 (by kernel_rfl)
            obtain ⟨B38, e38, b38⟩ : ∃ PB, a.tmps.getD 38 undef = .slice (some ⟨PB, 0, none⟩) 1 1 ∧ Blk w PB 24 (fesL [fc]) := h.dep 38 (by kernel_rfl)
            have e38x : a.tmps[38]?.getD undef = .slice (some ⟨B38, 0, none⟩) 1 1 := by simpa using e38
            have hb := h.base
            refine ⟨wants_some (d := 36) rfl rfl (by rw [h.size]; show 36 < 61; decide) e36, 31, #[.slice (some ⟨B38, 0, none⟩) 1 1], ?_, ?_⟩
            · clear h hb e38 b38
              go_simp
            · refine (right_val _ 1 [fc] true w rfl (by decide) (HRc.out) b38).mono ?_
              intro e w1 hp
              obtain ⟨rfl, hg⟩ := hp
              exact ⟨_, rfl, hg, rfl⟩
          refine ⟨fe3_value rfl (by decide) fun a w h => ?_, ?_⟩
          · have e36 : a.tmps.getD 36 undef = .bool true := h.dep 36 (by kernel_rfl)
            have e39 : a.tmps.getD 39 undef = .bool true := h.dep 39 (by kernel_rfl)
            refine ⟨wants_none rfl, .bool true, w, ?_, gb_refl _ _, rfl⟩
            clear h
            simp only [execOp, Act.eval, e36, e39]
            go_simp
          refine ⟨fe3_value rfl (by decide) fun a w h => ?_, ?_⟩
          · have e40 : a.tmps.getD 40 undef = .bool true := h.dep 40 (by kernel_rfl)
            refine ⟨wants_none rfl, .bool true, w, ?_, gb_refl _ _, rfl⟩
            clear h
            simp only [execOp, Act.eval, e40]
            go_simp
          refine ⟨fe3_value rfl (by decide) fun a w h => ?_, ?_⟩
          · have e41 : a.tmps.getD 41 undef = .bool true := h.dep 41 (by kernel_rfl)
            have e5 : a.tmps.getD 5 undef = .slice (some ⟨NB5, 0, none⟩) 32 32 := h.rest 5 (by kernel_rfl)
            exact ⟨wants_some (d := 41) rfl rfl (by rw [h.size]; show 41 < 61; decide) e41, _, w, by simp only [execOp, Act.eval, e5]; rfl, gb_refl _ _, ⟨NB5, rfl, _, (hx7.grown h.base.g (by simp))⟩⟩
          refine ⟨fe3_value rfl (by decide) fun a w h => ?_, ?_⟩
          · have e41 : a.tmps.getD 41 undef = .bool true := h.dep 41 (by kernel_rfl)
            have e6 : a.tmps.getD 6 undef = .slice (some ⟨NB6, 0, none⟩) 32 32 := h.rest 6 (by kernel_rfl)
            exact ⟨wants_some (d := 41) rfl rfl (by rw [h.size]; show 41 < 61; decide) e41, _, w, by simp only [execOp, Act.eval, e6]; rfl, gb_refl _ _, ⟨NB6, rfl, _, (hy7.grown h.base.g (by simp))⟩⟩
          refine ⟨fe3_call rfl (by decide) fun a w h => ?_, ?_⟩
          · have e41 : a.tmps.getD 41 undef = .bool true := h.dep 41 (by kernel_rfl)
            obtain ⟨B42, e42, T42, b42⟩ : ∃ NB, a.tmps.getD 42 undef = .slice (some ⟨NB, 0, none⟩) 32 32 ∧ ∃ T, Blk w NB T (bytesV ((Fe.m fa : Int))) := h.dep 42 (by kernel_rfl)
            have e42x : a.tmps[42]?.getD undef = .slice (some ⟨B42, 0, none⟩) 32 32 := by simpa using e42
            obtain ⟨B43, e43, T43, b43⟩ : ∃ NB, a.tmps.getD 43 undef = .slice (some ⟨NB, 0, none⟩) 32 32 ∧ ∃ T, Blk w NB T (bytesV ((Fe.m fb : Int))) := h.dep 43 (by kernel_rfl)
            have e43x : a.tmps[43]?.getD undef = .slice (some ⟨B43, 0, none⟩) 32 32 := by simpa using e43
            have hb := h.base
            refine ⟨wants_some (d := 41) rfl rfl (by rw [h.size]; show 41 < 61; decide) e41, 33, #[.slice (some ⟨B42, 0, none⟩) 32 32, .slice (some ⟨B43, 0, none⟩) 32 32], ?_, ?_⟩
            · clear h hb e42 e43 b42 b43
              go_simp
            · refine (sameBytes_val _ _ _ _ _ _ false w b42 b43 (HEb.out)).mono ?_
              intro e w1 hp
              obtain ⟨rfl, hg⟩ := hp
              exact ⟨_, rfl, hg, rfl⟩
          refine ⟨fe3_value rfl (by decide) fun a w h => ?_, ?_⟩
          · have e41 : a.tmps.getD 41 undef = .bool true := h.dep 41 (by kernel_rfl)
            have e2 : a.tmps.getD 2 undef = .pointer (some ⟨w0.heap.size, 0, none⟩) := h.rest 2 (by kernel_rfl)
            have hb := h.base.e (w0.heap.size, fa) (by simp)
            have c0 : w.cell? ⟨w0.heap.size, 0, none⟩ = some (.int .u64 fa.x0) := hb.cell (i := 0) rfl
            have c1 : w.cell? ⟨w0.heap.size, 1, none⟩ = some (.int .u64 fa.x1) := hb.cell (i := 1) rfl
            have c2 : w.cell? ⟨w0.heap.size, 2, none⟩ = some (.int .u64 fa.x2) := hb.cell (i := 2) rfl
            have c3 : w.cell? ⟨w0.heap.size, 3, none⟩ = some (.int .u64 fa.x3) := hb.cell (i := 3) rfl
            have c4 : w.cell? ⟨w0.heap.size, 4, none⟩ = some (.int .u64 fa.x4) := hb.cell (i := 4) rfl
            refine ⟨wants_some (d := 41) rfl rfl (by rw [h.size]; show 41 < 61; decide) e41, .agg #[.int .u64 fa.x0, .int .u64 fa.x1, .int .u64 fa.x2, .int .u64 fa.x3, .int .u64 fa.x4], w, ?_, gb_refl _ _, rfl⟩
            clear h hb
            simp only [execOp, Act.eval, e2]
            go_simp
          refine ⟨fe3_value rfl (by decide) fun a w h => ?_, ?_⟩
          · have e41 : a.tmps.getD 41 undef = .bool true := h.dep 41 (by kernel_rfl)
            have e3 : a.tmps.getD 3 undef = .pointer (some ⟨(w0.heap.size + 1), 0, none⟩) := h.rest 3 (by kernel_rfl)
            have hb := h.base.e ((w0.heap.size + 1), fb) (by simp)
            have c0 : w.cell? ⟨(w0.heap.size + 1), 0, none⟩ = some (.int .u64 fb.x0) := hb.cell (i := 0) rfl
            have c1 : w.cell? ⟨(w0.heap.size + 1), 1, none⟩ = some (.int .u64 fb.x1) := hb.cell (i := 1) rfl
            have c2 : w.cell? ⟨(w0.heap.size + 1), 2, none⟩ = some (.int .u64 fb.x2) := hb.cell (i := 2) rfl
            have c3 : w.cell? ⟨(w0.heap.size + 1), 3, none⟩ = some (.int .u64 fb.x3) := hb.cell (i := 3) rfl
            have c4 : w.cell? ⟨(w0.heap.size + 1), 4, none⟩ = some (.int .u64 fb.x4) := hb.cell (i := 4) rfl
            refine ⟨wants_some (d := 41) rfl rfl (by rw [h.size]; show 41 < 61; decide) e41, .agg #[.int .u64 fb.x0, .int .u64 fb.x1, .int .u64 fb.x2, .int .u64 fb.x3, .int .u64 fb.x4], w, ?_, gb_refl _ _, rfl⟩
            clear h hb
            simp only [execOp, Act.eval, e3]
            go_simp
          refine ⟨fe3_call rfl (by decide) fun a w h => ?_, ?_⟩
          · have e41 : a.tmps.getD 41 undef = .bool true := h.dep 41 (by kernel_rfl)
            have e45 : a.tmps.getD 45 undef = fa.v := h.dep 45 (by kernel_rfl)
            have e45x : a.tmps[45]?.getD undef = fa.v := by simpa using e45
            have e46 : a.tmps.getD 46 undef = fb.v := h.dep 46 (by kernel_rfl)
            have e46x : a.tmps[46]?.getD undef = fb.v := by simpa using e46
            have hb := h.base
            refine ⟨wants_some (d := 41) rfl rfl (by rw [h.size]; show 41 < 61; decide) e41, 13, #[fa.v, fb.v], ?_, ?_⟩
            · clear h hb e45 e46
              go_simp
            · refine (same_val fa fb false w oka okb (HE.out)).mono ?_
              intro e w1 hp
              obtain ⟨rfl, hg⟩ := hp
              exact ⟨_, rfl, hg, rfl⟩
          refine ⟨fe3_value rfl (by decide) fun a w h => ?_, ?_⟩
          · have e41 : a.tmps.getD 41 undef = .bool true := h.dep 41 (by kernel_rfl)
            have e44 : a.tmps.getD 44 undef = .bool false := h.dep 44 (by kernel_rfl)
            have e47 : a.tmps.getD 47 undef = .bool false := h.dep 47 (by kernel_rfl)
            refine ⟨wants_some (d := 41) rfl rfl (by rw [h.size]; show 41 < 61; decide) e41, .bool true, w, ?_, gb_refl _ _, rfl⟩
            clear h
            simp only [execOp, Act.eval, e44, e47]
            go_simp
          refine ⟨fe3_value rfl (by decide) fun a w h => ?_, ?_⟩
          · have e41 : a.tmps.getD 41 undef = .bool true := h.dep 41 (by kernel_rfl)
            have e48 : a.tmps.getD 48 undef = .bool true := h.dep 48 (by kernel_rfl)
            refine ⟨wants_none rfl, .bool true, w, ?_, gb_refl _ _, rfl⟩
            clear h
            simp only [execOp, Act.eval, e41, e48]
            go_simp
          refine ⟨fe3_value rfl (by decide) fun a w h => ?_, ?_⟩
          · have e49 : a.tmps.getD 49 undef = .bool true := h.dep 49 (by kernel_rfl)
            refine ⟨wants_none rfl, .bool true, w, ?_, gb_refl _ _, rfl⟩
            clear h
            simp only [execOp, Act.eval, e49]
            go_simp
          refine ⟨fe3_value rfl (by decide) fun a w h => ?_, ?_⟩
          · have e50 : a.tmps.getD 50 undef = .bool true := h.dep 50 (by kernel_rfl)
            have e2 : a.tmps.getD 2 undef = .pointer (some ⟨w0.heap.size, 0, none⟩) := h.rest 2 (by kernel_rfl)
            have hb := h.base.e (w0.heap.size, fa) (by simp)
            have c0 : w.cell? ⟨w0.heap.size, 0, none⟩ = some (.int .u64 fa.x0) := hb.cell (i := 0) rfl
            have c1 : w.cell? ⟨w0.heap.size, 1, none⟩ = some (.int .u64 fa.x1) := hb.cell (i := 1) rfl
            have c2 : w.cell? ⟨w0.heap.size, 2, none⟩ = some (.int .u64 fa.x2) := hb.cell (i := 2) rfl
            have c3 : w.cell? ⟨w0.heap.size, 3, none⟩ = some (.int .u64 fa.x3) := hb.cell (i := 3) rfl
            have c4 : w.cell? ⟨w0.heap.size, 4, none⟩ = some (.int .u64 fa.x4) := hb.cell (i := 4) rfl
            refine ⟨wants_some (d := 50) rfl rfl (by rw [h.size]; show 50 < 61; decide) e50, .agg #[.int .u64 fa.x0, .int .u64 fa.x1, .int .u64 fa.x2, .int .u64 fa.x3, .int .u64 fa.x4], w, ?_, gb_refl _ _, rfl⟩
            clear h hb
            simp only [execOp, Act.eval, e2]
            go_simp
          refine ⟨fe3_call rfl (by decide) fun a w h => ?_, ?_⟩
          · have e50 : a.tmps.getD 50 undef = .bool true := h.dep 50 (by kernel_rfl)
            have e51 : a.tmps.getD 51 undef = fa.v := h.dep 51 (by kernel_rfl)
            have e51x : a.tmps[51]?.getD undef = fa.v := by simpa using e51
            have hb := h.base
            refine ⟨wants_some (d := 50) rfl rfl (by rw [h.size]; show 50 < 61; decide) e50, 24, #[fa.v], ?_, ?_⟩
            · clear h hb e51
              go_simp
            · refine (zero_val fa false w oka (HZ.out)).mono ?_
              intro e w1 hp
              obtain ⟨rfl, hg⟩ := hp
              exact ⟨_, rfl, hg, rfl⟩
          refine ⟨fe3_value rfl (by decide) fun a w h => ?_, ?_⟩
          · have e50 : a.tmps.getD 50 undef = .bool true := h.dep 50 (by kernel_rfl)
            have e2 : a.tmps.getD 2 undef = .pointer (some ⟨w0.heap.size, 0, none⟩) := h.rest 2 (by kernel_rfl)
            have hb := h.base.e (w0.heap.size, fa) (by simp)
            have c0 : w.cell? ⟨w0.heap.size, 0, none⟩ = some (.int .u64 fa.x0) := hb.cell (i := 0) rfl
            have c1 : w.cell? ⟨w0.heap.size, 1, none⟩ = some (.int .u64 fa.x1) := hb.cell (i := 1) rfl
            have c2 : w.cell? ⟨w0.heap.size, 2, none⟩ = some (.int .u64 fa.x2) := hb.cell (i := 2) rfl
            have c3 : w.cell? ⟨w0.heap.size, 3, none⟩ = some (.int .u64 fa.x3) := hb.cell (i := 3) rfl
            have c4 : w.cell? ⟨w0.heap.size, 4, none⟩ = some (.int .u64 fa.x4) := hb.cell (i := 4) rfl
            refine ⟨wants_some (d := 50) rfl rfl (by rw [h.size]; show 50 < 61; decide) e50, .agg #[.int .u64 fa.x0, .int .u64 fa.x1, .int .u64 fa.x2, .int .u64 fa.x3, .int .u64 fa.x4], w, ?_, gb_refl _ _, rfl⟩
            clear h hb
            simp only [execOp, Act.eval, e2]
            go_simp
          refine ⟨fe3_call rfl (by decide) fun a w h => ?_, ?_⟩
          · have e50 : a.tmps.getD 50 undef = .bool true := h.dep 50 (by kernel_rfl)
            have e53 : a.tmps.getD 53 undef = fa.v := h.dep 53 (by kernel_rfl)
            have e53x : a.tmps[53]?.getD undef = fa.v := by simpa using e53
            have hb := h.base
            refine ⟨wants_some (d := 50) rfl rfl (by rw [h.size]; show 50 < 61; decide) e50, 25, #[fa.v], ?_, ?_⟩
            · clear h hb e53
              go_simp
            · refine (odd_val fa false w oka (HO.out)).mono ?_
              intro e w1 hp
              obtain ⟨rfl, hg⟩ := hp
              exact ⟨_, rfl, hg, rfl⟩
          refine ⟨fe3_value rfl (by decide) fun a w h => ?_, ?_⟩
          · have e50 : a.tmps.getD 50 undef = .bool true := h.dep 50 (by kernel_rfl)
            have e2 : a.tmps.getD 2 undef = .pointer (some ⟨w0.heap.size, 0, none⟩) := h.rest 2 (by kernel_rfl)
            have hb := h.base.e (w0.heap.size, fa) (by simp)
            have c0 : w.cell? ⟨w0.heap.size, 0, none⟩ = some (.int .u64 fa.x0) := hb.cell (i := 0) rfl
            have c1 : w.cell? ⟨w0.heap.size, 1, none⟩ = some (.int .u64 fa.x1) := hb.cell (i := 1) rfl
            have c2 : w.cell? ⟨w0.heap.size, 2, none⟩ = some (.int .u64 fa.x2) := hb.cell (i := 2) rfl
            have c3 : w.cell? ⟨w0.heap.size, 3, none⟩ = some (.int .u64 fa.x3) := hb.cell (i := 3) rfl
            have c4 : w.cell? ⟨w0.heap.size, 4, none⟩ = some (.int .u64 fa.x4) := hb.cell (i := 4) rfl
            refine ⟨wants_some (d := 50) rfl rfl (by rw [h.size]; show 50 < 61; decide) e50, .agg #[.int .u64 fa.x0, .int .u64 fa.x1, .int .u64 fa.x2, .int .u64 fa.x3, .int .u64 fa.x4], w, ?_, gb_refl _ _, rfl⟩
            clear h hb
            simp only [execOp, Act.eval, e2]
            go_simp
          refine ⟨fe3_call rfl (by decide) fun a w h => ?_, ?_⟩
          · have e50 : a.tmps.getD 50 undef = .bool true := h.dep 50 (by kernel_rfl)
            have e55 : a.tmps.getD 55 undef = fa.v := h.dep 55 (by kernel_rfl)
            have e55x : a.tmps[55]?.getD undef = fa.v := by simpa using e55
            have hb := h.base
            refine ⟨wants_some (d := 50) rfl rfl (by rw [h.size]; show 50 < 61; decide) e50, 14, #[fa.v], ?_, ?_⟩
            · clear h hb e55
              go_simp
            · refine (neg_any fa w (HT7.out.grown hb.g) oka).mono ?_
              intro e w1 hp
              obtain ⟨rfl, hg⟩ := feOut_is hp
              exact ⟨_, rfl, hg, rfl⟩
          refine ⟨fe3_call rfl (by decide) fun a w h => ?_, ?_⟩
          · have e50 : a.tmps.getD 50 undef = .bool true := h.dep 50 (by kernel_rfl)
            have e56 : a.tmps.getD 56 undef = (Fe.negF fa).v := h.dep 56 (by kernel_rfl)
            have e56x : a.tmps[56]?.getD undef = (Fe.negF fa).v := by simpa using e56
            have hb := h.base
            refine ⟨wants_some (d := 50) rfl rfl (by rw [h.size]; show 50 < 61; decide) e50, 25, #[(Fe.negF fa).v], ?_, ?_⟩
            · clear h hb e56
              go_simp
            · refine (odd_val (Fe.negF fa) true w (Fe.neg_right _).ok (HN.out)).mono ?_
              intro e w1 hp
              obtain ⟨rfl, hg⟩ := hp
              exact ⟨_, rfl, hg, rfl⟩
          refine ⟨fe3_value rfl (by decide) fun a w h => ?_, ?_⟩
          · have e50 : a.tmps.getD 50 undef = .bool true := h.dep 50 (by kernel_rfl)
            have e54 : a.tmps.getD 54 undef = .bool false := h.dep 54 (by kernel_rfl)
            have e57 : a.tmps.getD 57 undef = .bool true := h.dep 57 (by kernel_rfl)
            refine ⟨wants_some (d := 50) rfl rfl (by rw [h.size]; show 50 < 61; decide) e50, .bool false, w, ?_, gb_refl _ _, rfl⟩
            clear h
            simp only [execOp, Act.eval, e54, e57]
            go_simp
          refine ⟨fe3_value rfl (by decide) fun a w h => ?_, ?_⟩
          · have e50 : a.tmps.getD 50 undef = .bool true := h.dep 50 (by kernel_rfl)
            have e52 : a.tmps.getD 52 undef = .bool false := h.dep 52 (by kernel_rfl)
            have e58 : a.tmps.getD 58 undef = .bool false := h.dep 58 (by kernel_rfl)
            refine ⟨wants_some (d := 50) rfl rfl (by rw [h.size]; show 50 < 61; decide) e50, .bool true, w, ?_, gb_refl _ _, rfl⟩
            clear h
            simp only [execOp, Act.eval, e52, e58]
            go_simp
          refine ⟨fe3_value rfl (by decide) fun a w h => ?_, ?_⟩
          · have e50 : a.tmps.getD 50 undef = .bool true := h.dep 50 (by kernel_rfl)
            have e59 : a.tmps.getD 59 undef = .bool true := h.dep 59 (by kernel_rfl)
            refine ⟨wants_none rfl, .bool true, w, ?_, gb_refl _ _, rfl⟩
            clear h
            simp only [execOp, Act.eval, e50, e59]
            go_simp
          refine ⟨fe3_value rfl (by decide) fun a w h => ?_, ?_⟩
          · have e60 : a.tmps.getD 60 undef = .bool true := h.dep 60 (by kernel_rfl)
            refine ⟨wants_none rfl, .bool true, w, ?_, gb_refl _ _, rfl⟩
            clear h
            simp only [execOp, Act.eval, e60]
            go_simp
          trivial
        · intro q w hB hsz hdf hrest hslots hmems
          have e4 : q.tmps.getD 4 undef = .bool true := hslots 4 (by kernel_rfl)
          have G := gb_trans G7 hB.g
          replace hdf : q.defers = [] := hdf
          clear hB hsz hrest hslots hmems
          have e4x : q.tmps[4]?.getD undef = .bool true := by simpa using e4
          go_wp2_with fail
          refine bodyPost_ret (v := .bool true) ?_ hdf ⟨rfl, G⟩
          simp [results, Tryd.results6, go_sem, e4x]
    · rcases hc with hc | hc | hc
      · obtain ⟨hz, ho, hn⟩ := hc
        have HZ := Lib.hid hz; have HO := Lib.hid ho; have HN := Lib.hid hn; clear hz ho hn
        refine wp_region_flow3 (items3 (Okb W7 [(w0.heap.size, fa), ((w0.heap.size + 1), fb), (v3.heap.size, fc)]) [.any, .any, .any, .any, .val (.bool true), .any, .any, .any, .any, .any, .any, .any, .any, .any, .any, .any, .any, .any, .any, .any, .any, .any, .any, .any, .any, .val (.bool true), .val (.bool true), .bytes ((Fe.m fa : Int)), .val (.int .i64 32), .val (.bool true), .val (.bool true), .val (.bool true), .val (fa.v), .val (fc.v), .val (.bool true), .val (.bool true), .val (.bool true), .val (fc.v), .elems 1 [fc], .val (.bool true), .val (.bool true), .val (.bool true), .bytes ((Fe.m fa : Int)), .bytes ((Fe.m fb : Int)), .val (.bool true), .val (fa.v), .val (fb.v), .val (.bool true), .val (.bool true), .val (.bool true), .val (.bool true), .val (fa.v), .val (.bool true), .val (fa.v), .val (.bool false), .val (fa.v), .val ((Fe.negF fa).v), .val (.bool false), .val (.bool true), .val (.bool true), .val (.bool true)]) (fun j =>  0) (Stored3 (Okb W7 [(w0.heap.size, fa), ((w0.heap.size + 1), fb), (v3.heap.size, fc)]) (fun j =>  Fe.zeroF)) (EnvB W7 W7.heap.size [(w0.heap.size, fa), ((w0.heap.size + 1), fb), (v3.heap.size, fc)] []) [] (by kernel_rfl) (by kernel_rfl) (by kernel_rfl) (hB7.grown (gb_drewn _)) (fun s hs => by cases hs) (by kernel_rfl) ?_ ?_
        · refine ⟨fe3_value rfl (by decide) fun a w h => ?_, ?_⟩
          · have e8 : a.tmps.getD 8 undef = .bool true := h.rest 8 (by kernel_rfl)
            refine ⟨wants_none rfl, .bool true, w, ?_, gb_refl _ _, rfl⟩
            clear h
            simp only [execOp, Act.eval, e8]
            go_simp
          refine ⟨fe3_value rfl (by decide) fun a w h => ?_, ?_⟩
          · have e25 : a.tmps.getD 25 undef = .bool true := h.dep 25 (by kernel_rfl)
            refine ⟨wants_none rfl, .bool true, w, ?_, gb_refl _ _, rfl⟩
            clear h
            simp only [execOp, Act.eval, e25]
            go_simp
          refine ⟨fe3_value rfl (by decide) fun a w h => ?_, ?_⟩
          · have e26 : a.tmps.getD 26 undef = .bool true := h.dep 26 (by kernel_rfl)
            have e5 : a.tmps.getD 5 undef = .slice (some ⟨NB5, 0, none⟩) 32 32 := h.rest 5 (by kernel_rfl)
            exact ⟨wants_some (d := 26) rfl rfl (by rw [h.size]; show 26 < 61; decide) e26, _, w, by simp only [execOp, Act.eval, e5]; rfl, gb_refl _ _, ⟨NB5, rfl, _, (hx7.grown h.base.g (by simp))⟩⟩
          refine ⟨fe3_value rfl (by decide) fun a w h => ?_, ?_⟩
          · have e26 : a.tmps.getD 26 undef = .bool true := h.dep 26 (by kernel_rfl)
            obtain ⟨B27, e27, T27, b27⟩ : ∃ NB, a.tmps.getD 27 undef = .slice (some ⟨NB, 0, none⟩) 32 32 ∧ ∃ T, Blk w NB T (bytesV ((Fe.m fa : Int))) := h.dep 27 (by kernel_rfl)
            have e27x : a.tmps[27]?.getD undef = .slice (some ⟨B27, 0, none⟩) 32 32 := by simpa using e27
            refine ⟨wants_some (d := 26) rfl rfl (by rw [h.size]; show 26 < 61; decide) e26, .int .i64 32, w, ?_, gb_refl _ _, rfl⟩
            clear h e27
            go_simp
          refine ⟨fe3_value rfl (by decide) fun a w h => ?_, ?_⟩
          · have e26 : a.tmps.getD 26 undef = .bool true := h.dep 26 (by kernel_rfl)
            have e28 : a.tmps.getD 28 undef = .int .i64 32 := h.dep 28 (by kernel_rfl)
            refine ⟨wants_some (d := 26) rfl rfl (by rw [h.size]; show 26 < 61; decide) e26, .bool true, w, ?_, gb_refl _ _, rfl⟩
            clear h
            simp only [execOp, Act.eval, e28]
            go_simp
          refine ⟨fe3_value rfl (by decide) fun a w h => ?_, ?_⟩
          · have e26 : a.tmps.getD 26 undef = .bool true := h.dep 26 (by kernel_rfl)
            have e29 : a.tmps.getD 29 undef = .bool true := h.dep 29 (by kernel_rfl)
            refine ⟨wants_none rfl, .bool true, w, ?_, gb_refl _ _, rfl⟩
            clear h
            simp only [execOp, Act.eval, e26, e29]
            go_simp
          refine ⟨fe3_value rfl (by decide) fun a w h => ?_, ?_⟩
          · have e30 : a.tmps.getD 30 undef = .bool true := h.dep 30 (by kernel_rfl)
            refine ⟨wants_none rfl, .bool true, w, ?_, gb_refl _ _, rfl⟩
            clear h
            simp only [execOp, Act.eval, e30]
            go_simp
          refine ⟨fe3_value rfl (by decide) fun a w h => ?_, ?_⟩
          · have e31 : a.tmps.getD 31 undef = .bool true := h.dep 31 (by kernel_rfl)
            have e2 : a.tmps.getD 2 undef = .pointer (some ⟨w0.heap.size, 0, none⟩) := h.rest 2 (by kernel_rfl)
            have hb := h.base.e (w0.heap.size, fa) (by simp)
            have c0 : w.cell? ⟨w0.heap.size, 0, none⟩ = some (.int .u64 fa.x0) := hb.cell (i := 0) rfl
            have c1 : w.cell? ⟨w0.heap.size, 1, none⟩ = some (.int .u64 fa.x1) := hb.cell (i := 1) rfl
            have c2 : w.cell? ⟨w0.heap.size, 2, none⟩ = some (.int .u64 fa.x2) := hb.cell (i := 2) rfl
            have c3 : w.cell? ⟨w0.heap.size, 3, none⟩ = some (.int .u64 fa.x3) := hb.cell (i := 3) rfl
            have c4 : w.cell? ⟨w0.heap.size, 4, none⟩ = some (.int .u64 fa.x4) := hb.cell (i := 4) rfl
            refine ⟨wants_some (d := 31) rfl rfl (by rw [h.size]; show 31 < 61; decide) e31, .agg #[.int .u64 fa.x0, .int .u64 fa.x1, .int .u64 fa.x2, .int .u64 fa.x3, .int .u64 fa.x4], w, ?_, gb_refl _ _, rfl⟩
            clear h hb
            simp only [execOp, Act.eval, e2]
            go_simp
          refine ⟨fe3_value rfl (by decide) fun a w h => ?_, ?_⟩
          · have e31 : a.tmps.getD 31 undef = .bool true := h.dep 31 (by kernel_rfl)
            have e7 : a.tmps.getD 7 undef = .pointer (some ⟨v3.heap.size, 0, none⟩) := h.rest 7 (by kernel_rfl)
            have hb := h.base.e (v3.heap.size, fc) (by simp)
            have c0 : w.cell? ⟨v3.heap.size, 0, none⟩ = some (.int .u64 fc.x0) := hb.cell (i := 0) rfl
            have c1 : w.cell? ⟨v3.heap.size, 1, none⟩ = some (.int .u64 fc.x1) := hb.cell (i := 1) rfl
            have c2 : w.cell? ⟨v3.heap.size, 2, none⟩ = some (.int .u64 fc.x2) := hb.cell (i := 2) rfl
            have c3 : w.cell? ⟨v3.heap.size, 3, none⟩ = some (.int .u64 fc.x3) := hb.cell (i := 3) rfl
            have c4 : w.cell? ⟨v3.heap.size, 4, none⟩ = some (.int .u64 fc.x4) := hb.cell (i := 4) rfl
            refine ⟨wants_some (d := 31) rfl rfl (by rw [h.size]; show 31 < 61; decide) e31, .agg #[.int .u64 fc.x0, .int .u64 fc.x1, .int .u64 fc.x2, .int .u64 fc.x3, .int .u64 fc.x4], w, ?_, gb_refl _ _, rfl⟩
            clear h hb
            simp only [execOp, Act.eval, e7]
            go_simp
          refine ⟨fe3_call rfl (by decide) fun a w h => ?_, ?_⟩
          · have e31 : a.tmps.getD 31 undef = .bool true := h.dep 31 (by kernel_rfl)
            have e32 : a.tmps.getD 32 undef = fa.v := h.dep 32 (by kernel_rfl)
            have e32x : a.tmps[32]?.getD undef = fa.v := by simpa using e32
            have e33 : a.tmps.getD 33 undef = fc.v := h.dep 33 (by kernel_rfl)
            have e33x : a.tmps[33]?.getD undef = fc.v := by simpa using e33
            have hb := h.base
            refine ⟨wants_some (d := 31) rfl rfl (by rw [h.size]; show 31 < 61; decide) e31, 13, #[fa.v, fc.v], ?_, ?_⟩
            · clear h hb e32 e33
              go_simp
            · refine (same_val fa fc true w oka okc (HS.out)).mono ?_
              intro e w1 hp
              obtain ⟨rfl, hg⟩ := hp
              exact ⟨_, rfl, hg, rfl⟩
          refine ⟨fe3_value rfl (by decide) fun a w h => ?_, ?_⟩
          · have e31 : a.tmps.getD 31 undef = .bool true := h.dep 31 (by kernel_rfl)
            have e34 : a.tmps.getD 34 undef = .bool true := h.dep 34 (by kernel_rfl)
            refine ⟨wants_none rfl, .bool true, w, ?_, gb_refl _ _, rfl⟩
            clear h
            simp only [execOp, Act.eval, e31, e34]
            go_simp
          refine ⟨fe3_value rfl (by decide) fun a w h => ?_, ?_⟩
          · have e35 : a.tmps.getD 35 undef = .bool true := h.dep 35 (by kernel_rfl)
            refine ⟨wants_none rfl, .bool true, w, ?_, gb_refl _ _, rfl⟩
            clear h
            simp only [execOp, Act.eval, e35]
            go_simp
          refine ⟨fe3_value rfl (by decide) fun a w h => ?_, ?_⟩
          · have e36 : a.tmps.getD 36 undef = .bool true := h.dep 36 (by kernel_rfl)
            have e7 : a.tmps.getD 7 undef = .pointer (some ⟨v3.heap.size, 0, none⟩) := h.rest 7 (by kernel_rfl)
            have hb := h.base.e (v3.heap.size, fc) (by simp)
            have c0 : w.cell? ⟨v3.heap.size, 0, none⟩ = some (.int .u64 fc.x0) := hb.cell (i := 0) rfl
            have c1 : w.cell? ⟨v3.heap.size, 1, none⟩ = some (.int .u64 fc.x1) := hb.cell (i := 1) rfl
            have c2 : w.cell? ⟨v3.heap.size, 2, none⟩ = some (.int .u64 fc.x2) := hb.cell (i := 2) rfl
            have c3 : w.cell? ⟨v3.heap.size, 3, none⟩ = some (.int .u64 fc.x3) := hb.cell (i := 3) rfl
            have c4 : w.cell? ⟨v3.heap.size, 4, none⟩ = some (.int .u64 fc.x4) := hb.cell (i := 4) rfl
            refine ⟨wants_some (d := 36) rfl rfl (by rw [h.size]; show 36 < 61; decide) e36, .agg #[.int .u64 fc.x0, .int .u64 fc.x1, .int .u64 fc.x2, .int .u64 fc.x3, .int .u64 fc.x4], w, ?_, gb_refl _ _, rfl⟩
            clear h hb
            simp only [execOp, Act.eval, e7]
            go_simp
          refine ⟨fe3_value rfl (by decide) fun a w h => ?_, ?_⟩
          · have e36 : a.tmps.getD 36 undef = .bool true := h.dep 36 (by kernel_rfl)
            have e37 : a.tmps.getD 37 undef = .agg #[.int .u64 fc.x0, .int .u64 fc.x1, .int .u64 fc.x2, .int .u64 fc.x3, .int .u64 fc.x4] := h.dep 37 (by kernel_rfl)
            refine ⟨wants_some (d := 36) rfl rfl (by rw [h.size]; show 36 < 61; decide) e36, .slice (some ⟨w.heap.size, 0, none⟩) 1 1, w.alloc (.cells #[.int .u64 fc.x0, .int .u64 fc.x1, .int .u64 fc.x2, .int .u64 fc.x3, .int .u64 fc.x4] 24), ?_, World.grownBy_alloc _ _ _, ⟨w.heap.size, rfl, Blk.new w (fesL [fc]) _⟩⟩
            clear h
            simp only [execOp, List.map_toArray, List.map_cons, List.map_nil, Act.eval, e37]
            go_simp
          refine ⟨fe3_call rfl (by decide) fun a w h => ?_, ?_⟩
          · have e36 : a.tmps.getD 36 undef = .bool true := h.dep 36 (by kernel_rfl)
            obtain ⟨B38, e38, b38⟩ : ∃ PB, a.tmps.getD 38 undef = .slice (some ⟨PB, 0, none⟩) 1 1 ∧ Blk w PB 24 (fesL [fc]) := h.dep 38 (by kernel_rfl)
            have e38x : a.tmps[38]?.getD undef = .slice (some ⟨B38, 0, none⟩) 1 1 := by simpa using e38
            have hb := h.base
            refine ⟨wants_some (d := 36) rfl rfl (by rw [h.size]; show 36 < 61; decide) e36, 31, #[.slice (some ⟨B38, 0, none⟩) 1 1], ?_, ?_⟩
            · clear h hb e38 b38
              go_simp
            · refine (right_val _ 1 [fc] true w rfl (by decide) (HRc.out) b38).mono ?_
              intro e w1 hp
              obtain ⟨rfl, hg⟩ := hp
              exact ⟨_, rfl, hg, rfl⟩
          refine ⟨fe3_value rfl (by decide) fun a w h => ?_, ?_⟩
          · have e36 : a.tmps.getD 36 undef = .bool true := h.dep 36 (by kernel_rfl)
            have e39 : a.tmps.getD 39 undef = .bool true := h.dep 39 (by kernel_rfl)
            refine ⟨wants_none rfl, .bool true, w, ?_, gb_refl _ _, rfl⟩
            clear h
            simp only [execOp, Act.eval, e36, e39]
            go_simp
          refine ⟨fe3_value rfl (by decide) fun a w h => ?_, ?_⟩
          · have e40 : a.tmps.getD 40 undef = .bool true := h.dep 40 (by kernel_rfl)
            refine ⟨wants_none rfl, .bool true, w, ?_, gb_refl _ _, rfl⟩
            clear h
            simp only [execOp, Act.eval, e40]
            go_simp
          refine ⟨fe3_value rfl (by decide) fun a w h => ?_, ?_⟩
          · have e41 : a.tmps.getD 41 undef = .bool true := h.dep 41 (by kernel_rfl)
            have e5 : a.tmps.getD 5 undef = .slice (some ⟨NB5, 0, none⟩) 32 32 := h.rest 5 (by kernel_rfl)
            exact ⟨wants_some (d := 41) rfl rfl (by rw [h.size]; show 41 < 61; decide) e41, _, w, by simp only [execOp, Act.eval, e5]; rfl, gb_refl _ _, ⟨NB5, rfl, _, (hx7.grown h.base.g (by simp))⟩⟩
          refine ⟨fe3_value rfl (by decide) fun a w h => ?_, ?_⟩
          · have e41 : a.tmps.getD 41 undef = .bool true := h.dep 41 (by kernel_rfl)
            have e6 : a.tmps.getD 6 undef = .slice (some ⟨NB6, 0, none⟩) 32 32 := h.rest 6 (by kernel_rfl)
            exact ⟨wants_some (d := 41) rfl rfl (by rw [h.size]; show 41 < 61; decide) e41, _, w, by simp only [execOp, Act.eval, e6]; rfl, gb_refl _ _, ⟨NB6, rfl, _, (hy7.grown h.base.g (by simp))⟩⟩
          refine ⟨fe3_call rfl (by decide) fun a w h => ?_, ?_⟩
          · have e41 : a.tmps.getD 41 undef = .bool true := h.dep 41 (by kernel_rfl)
            obtain ⟨B42, e42, T42, b42⟩ : ∃ NB, a.tmps.getD 42 undef = .slice (some ⟨NB, 0, none⟩) 32 32 ∧ ∃ T, Blk w NB T (bytesV ((Fe.m fa : Int))) := h.dep 42 (by kernel_rfl)
            have e42x : a.tmps[42]?.getD undef = .slice (some ⟨B42, 0, none⟩) 32 32 := by simpa using e42
            obtain ⟨B43, e43, T43, b43⟩ : ∃ NB, a.tmps.getD 43 undef = .slice (some ⟨NB, 0, none⟩) 32 32 ∧ ∃ T, Blk w NB T (bytesV ((Fe.m fb : Int))) := h.dep 43 (by kernel_rfl)
            have e43x : a.tmps[43]?.getD undef = .slice (some ⟨B43, 0, none⟩) 32 32 := by simpa using e43
            have hb := h.base
            refine ⟨wants_some (d := 41) rfl rfl (by rw [h.size]; show 41 < 61; decide) e41, 33, #[.slice (some ⟨B42, 0, none⟩) 32 32, .slice (some ⟨B43, 0, none⟩) 32 32], ?_, ?_⟩
            · clear h hb e42 e43 b42 b43
              go_simp
            · refine (sameBytes_val _ _ _ _ _ _ true w b42 b43 (HEb.out)).mono ?_
              intro e w1 hp
              obtain ⟨rfl, hg⟩ := hp
              exact ⟨_, rfl, hg, rfl⟩
          refine ⟨fe3_value rfl (by decide) fun a w h => ?_, ?_⟩
          · have e41 : a.tmps.getD 41 undef = .bool true := h.dep 41 (by kernel_rfl)
            have e2 : a.tmps.getD 2 undef = .pointer (some ⟨w0.heap.size, 0, none⟩) := h.rest 2 (by kernel_rfl)
            have hb := h.base.e (w0.heap.size, fa) (by simp)
            have c0 : w.cell? ⟨w0.heap.size, 0, none⟩ = some (.int .u64 fa.x0) := hb.cell (i := 0) rfl
            have c1 : w.cell? ⟨w0.heap.size, 1, none⟩ = some (.int .u64 fa.x1) := hb.cell (i := 1) rfl
            have c2 : w.cell? ⟨w0.heap.size, 2, none⟩ = some (.int .u64 fa.x2) := hb.cell (i := 2) rfl
            have c3 : w.cell? ⟨w0.heap.size, 3, none⟩ = some (.int .u64 fa.x3) := hb.cell (i := 3) rfl
            have c4 : w.cell? ⟨w0.heap.size, 4, none⟩ = some (.int .u64 fa.x4) := hb.cell (i := 4) rfl
            refine ⟨wants_some (d := 41) rfl rfl (by rw [h.size]; show 41 < 61; decide) e41, .agg #[.int .u64 fa.x0, .int .u64 fa.x1, .int .u64 fa.x2, .int .u64 fa.x3, .int .u64 fa.x4], w, ?_, gb_refl _ _, rfl⟩
            clear h hb
            simp only [execOp, Act.eval, e2]
            go_simp
          refine ⟨fe3_value rfl (by decide) fun a w h => ?_, ?_⟩
          · have e41 : a.tmps.getD 41 undef = .bool true := h.dep 41 (by kernel_rfl)
            have e3 : a.tmps.getD 3 undef = .pointer (some ⟨(w0.heap.size + 1), 0, none⟩) := h.rest 3 (by kernel_rfl)
            have hb := h.base.e ((w0.heap.size + 1), fb) (by simp)
            have c0 : w.cell? ⟨(w0.heap.size + 1), 0, none⟩ = some (.int .u64 fb.x0) := hb.cell (i := 0) rfl
            have c1 : w.cell? ⟨(w0.heap.size + 1), 1, none⟩ = some (.int .u64 fb.x1) := hb.cell (i := 1) rfl
            have c2 : w.cell? ⟨(w0.heap.size + 1), 2, none⟩ = some (.int .u64 fb.x2) := hb.cell (i := 2) rfl
            have c3 : w.cell? ⟨(w0.heap.size + 1), 3, none⟩ = some (.int .u64 fb.x3) := hb.cell (i := 3) rfl
            have c4 : w.cell? ⟨(w0.heap.size + 1), 4, none⟩ = some (.int .u64 fb.x4) := hb.cell (i := 4) rfl
            refine ⟨wants_some (d := 41) rfl rfl (by rw [h.size]; show 41 < 61; decide) e41, .agg #[.int .u64 fb.x0, .int .u64 fb.x1, .int .u64 fb.x2, .int .u64 fb.x3, .int .u64 fb.x4], w, ?_, gb_refl _ _, rfl⟩
            clear h hb
            simp only [execOp, Act.eval, e3]
            go_simp
          refine ⟨fe3_call rfl (by decide) fun a w h => ?_, ?_⟩
          · have e41 : a.tmps.getD 41 undef = .bool true := h.dep 41 (by kernel_rfl)
            have e45 : a.tmps.getD 45 undef = fa.v := h.dep 45 (by kernel_rfl)
            have e45x : a.tmps[45]?.getD undef = fa.v := by simpa using e45
            have e46 : a.tmps.getD 46 undef = fb.v := h.dep 46 (by kernel_rfl)
            have e46x : a.tmps[46]?.getD undef = fb.v := by simpa using e46
            have hb := h.base
            refine ⟨wants_some (d := 41) rfl rfl (by rw [h.size]; show 41 < 61; decide) e41, 13, #[fa.v, fb.v], ?_, ?_⟩
            · clear h hb e45 e46
              go_simp
            · refine (same_val fa fb true w oka okb (HE.out)).mono ?_
              intro e w1 hp
              obtain ⟨rfl, hg⟩ := hp
              exact ⟨_, rfl, hg, rfl⟩
          refine ⟨fe3_value rfl (by decide) fun a w h => ?_, ?_⟩
          · have e41 : a.tmps.getD 41 undef = .bool true := h.dep 41 (by kernel_rfl)
            have e44 : a.tmps.getD 44 undef = .bool true := h.dep 44 (by kernel_rfl)
            have e47 : a.tmps.getD 47 undef = .bool true := h.dep 47 (by kernel_rfl)
            refine ⟨wants_some (d := 41) rfl rfl (by rw [h.size]; show 41 < 61; decide) e41, .bool true, w, ?_, gb_refl _ _, rfl⟩
            clear h
            simp only [execOp, Act.eval, e44, e47]
            go_simp
          refine ⟨fe3_value rfl (by decide) fun a w h => ?_, ?_⟩
          · have e41 : a.tmps.getD 41 undef = .bool true := h.dep 41 (by kernel_rfl)
            have e48 : a.tmps.getD 48 undef = .bool true := h.dep 48 (by kernel_rfl)
            refine ⟨wants_none rfl, .bool true, w, ?_, gb_refl _ _, rfl⟩
            clear h
            simp only [execOp, Act.eval, e41, e48]
            go_simp
          refine ⟨fe3_value rfl (by decide) fun a w h => ?_, ?_⟩
          · have e49 : a.tmps.getD 49 undef = .bool true := h.dep 49 (by kernel_rfl)
            refine ⟨wants_none rfl, .bool true, w, ?_, gb_refl _ _, rfl⟩
            clear h
            simp only [execOp, Act.eval, e49]
            go_simp
          refine ⟨fe3_value rfl (by decide) fun a w h => ?_, ?_⟩
          · have e50 : a.tmps.getD 50 undef = .bool true := h.dep 50 (by kernel_rfl)
            have e2 : a.tmps.getD 2 undef = .pointer (some ⟨w0.heap.size, 0, none⟩) := h.rest 2 (by kernel_rfl)
            have hb := h.base.e (w0.heap.size, fa) (by simp)
            have c0 : w.cell? ⟨w0.heap.size, 0, none⟩ = some (.int .u64 fa.x0) := hb.cell (i := 0) rfl
            have c1 : w.cell? ⟨w0.heap.size, 1, none⟩ = some (.int .u64 fa.x1) := hb.cell (i := 1) rfl
            have c2 : w.cell? ⟨w0.heap.size, 2, none⟩ = some (.int .u64 fa.x2) := hb.cell (i := 2) rfl
            have c3 : w.cell? ⟨w0.heap.size, 3, none⟩ = some (.int .u64 fa.x3) := hb.cell (i := 3) rfl
            have c4 : w.cell? ⟨w0.heap.size, 4, none⟩ = some (.int .u64 fa.x4) := hb.cell (i := 4) rfl
            refine ⟨wants_some (d := 50) rfl rfl (by rw [h.size]; show 50 < 61; decide) e50, .agg #[.int .u64 fa.x0, .int .u64 fa.x1, .int .u64 fa.x2, .int .u64 fa.x3, .int .u64 fa.x4], w, ?_, gb_refl _ _, rfl⟩
            clear h hb
            simp only [execOp, Act.eval, e2]
            go_simp
          refine ⟨fe3_call rfl (by decide) fun a w h => ?_, ?_⟩
          · have e50 : a.tmps.getD 50 undef = .bool true := h.dep 50 (by kernel_rfl)
            have e51 : a.tmps.getD 51 undef = fa.v := h.dep 51 (by kernel_rfl)
            have e51x : a.tmps[51]?.getD undef = fa.v := by simpa using e51
            have hb := h.base
            refine ⟨wants_some (d := 50) rfl rfl (by rw [h.size]; show 50 < 61; decide) e50, 24, #[fa.v], ?_, ?_⟩
            · clear h hb e51
              go_simp
            · refine (zero_val fa true w oka (HZ.out)).mono ?_
              intro e w1 hp
              obtain ⟨rfl, hg⟩ := hp
              exact ⟨_, rfl, hg, rfl⟩
          refine ⟨fe3_value rfl (by decide) fun a w h => ?_, ?_⟩
          · have e50 : a.tmps.getD 50 undef = .bool true := h.dep 50 (by kernel_rfl)
            have e2 : a.tmps.getD 2 undef = .pointer (some ⟨w0.heap.size, 0, none⟩) := h.rest 2 (by kernel_rfl)
            have hb := h.base.e (w0.heap.size, fa) (by simp)
            have c0 : w.cell? ⟨w0.heap.size, 0, none⟩ = some (.int .u64 fa.x0) := hb.cell (i := 0) rfl
            have c1 : w.cell? ⟨w0.heap.size, 1, none⟩ = some (.int .u64 fa.x1) := hb.cell (i := 1) rfl
            have c2 : w.cell? ⟨w0.heap.size, 2, none⟩ = some (.int .u64 fa.x2) := hb.cell (i := 2) rfl
            have c3 : w.cell? ⟨w0.heap.size, 3, none⟩ = some (.int .u64 fa.x3) := hb.cell (i := 3) rfl
            have c4 : w.cell? ⟨w0.heap.size, 4, none⟩ = some (.int .u64 fa.x4) := hb.cell (i := 4) rfl
            refine ⟨wants_some (d := 50) rfl rfl (by rw [h.size]; show 50 < 61; decide) e50, .agg #[.int .u64 fa.x0, .int .u64 fa.x1, .int .u64 fa.x2, .int .u64 fa.x3, .int .u64 fa.x4], w, ?_, gb_refl _ _, rfl⟩
            clear h hb
            simp only [execOp, Act.eval, e2]
            go_simp
          refine ⟨fe3_call rfl (by decide) fun a w h => ?_, ?_⟩
          · have e50 : a.tmps.getD 50 undef = .bool true := h.dep 50 (by kernel_rfl)
            have e53 : a.tmps.getD 53 undef = fa.v := h.dep 53 (by kernel_rfl)
            have e53x : a.tmps[53]?.getD undef = fa.v := by simpa using e53
            have hb := h.base
            refine ⟨wants_some (d := 50) rfl rfl (by rw [h.size]; show 50 < 61; decide) e50, 25, #[fa.v], ?_, ?_⟩
            · clear h hb e53
              go_simp
            · refine (odd_val fa false w oka (HO.out)).mono ?_
              intro e w1 hp
              obtain ⟨rfl, hg⟩ := hp
              exact ⟨_, rfl, hg, rfl⟩
          refine ⟨fe3_value rfl (by decide) fun a w h => ?_, ?_⟩
          · have e50 : a.tmps.getD 50 undef = .bool true := h.dep 50 (by kernel_rfl)
            have e2 : a.tmps.getD 2 undef = .pointer (some ⟨w0.heap.size, 0, none⟩) := h.rest 2 (by kernel_rfl)
            have hb := h.base.e (w0.heap.size, fa) (by simp)
            have c0 : w.cell? ⟨w0.heap.size, 0, none⟩ = some (.int .u64 fa.x0) := hb.cell (i := 0) rfl
            have c1 : w.cell? ⟨w0.heap.size, 1, none⟩ = some (.int .u64 fa.x1) := hb.cell (i := 1) rfl
            have c2 : w.cell? ⟨w0.heap.size, 2, none⟩ = some (.int .u64 fa.x2) := hb.cell (i := 2) rfl
            have c3 : w.cell? ⟨w0.heap.size, 3, none⟩ = some (.int .u64 fa.x3) := hb.cell (i := 3) rfl
            have c4 : w.cell? ⟨w0.heap.size, 4, none⟩ = some (.int .u64 fa.x4) := hb.cell (i := 4) rfl
            refine ⟨wants_some (d := 50) rfl rfl (by rw [h.size]; show 50 < 61; decide) e50, .agg #[.int .u64 fa.x0, .int .u64 fa.x1, .int .u64 fa.x2, .int .u64 fa.x3, .int .u64 fa.x4], w, ?_, gb_refl _ _, rfl⟩
            clear h hb
            simp only [execOp, Act.eval, e2]
            go_simp
          refine ⟨fe3_call rfl (by decide) fun a w h => ?_, ?_⟩
          · have e50 : a.tmps.getD 50 undef = .bool true := h.dep 50 (by kernel_rfl)
            have e55 : a.tmps.getD 55 undef = fa.v := h.dep 55 (by kernel_rfl)
            have e55x : a.tmps[55]?.getD undef = fa.v := by simpa using e55
            have hb := h.base
            refine ⟨wants_some (d := 50) rfl rfl (by rw [h.size]; show 50 < 61; decide) e50, 14, #[fa.v], ?_, ?_⟩
            · clear h hb e55
              go_simp
            · refine (neg_any fa w (HT7.out.grown hb.g) oka).mono ?_
              intro e w1 hp
              obtain ⟨rfl, hg⟩ := feOut_is hp
              exact ⟨_, rfl, hg, rfl⟩
          refine ⟨fe3_call rfl (by decide) fun a w h => ?_, ?_⟩
          · have e50 : a.tmps.getD 50 undef = .bool true := h.dep 50 (by kernel_rfl)
            have e56 : a.tmps.getD 56 undef = (Fe.negF fa).v := h.dep 56 (by kernel_rfl)
            have e56x : a.tmps[56]?.getD undef = (Fe.negF fa).v := by simpa using e56
            have hb := h.base
            refine ⟨wants_some (d := 50) rfl rfl (by rw [h.size]; show 50 < 61; decide) e50, 25, #[(Fe.negF fa).v], ?_, ?_⟩
            · clear h hb e56
              go_simp
            · refine (odd_val (Fe.negF fa) false w (Fe.neg_right _).ok (HN.out)).mono ?_
              intro e w1 hp
              obtain ⟨rfl, hg⟩ := hp
              exact ⟨_, rfl, hg, rfl⟩
          refine ⟨fe3_value rfl (by decide) fun a w h => ?_, ?_⟩
          · have e50 : a.tmps.getD 50 undef = .bool true := h.dep 50 (by kernel_rfl)
            have e54 : a.tmps.getD 54 undef = .bool false := h.dep 54 (by kernel_rfl)
            have e57 : a.tmps.getD 57 undef = .bool false := h.dep 57 (by kernel_rfl)
            refine ⟨wants_some (d := 50) rfl rfl (by rw [h.size]; show 50 < 61; decide) e50, .bool true, w, ?_, gb_refl _ _, rfl⟩
            clear h
            simp only [execOp, Act.eval, e54, e57]
            go_simp
          refine ⟨fe3_value rfl (by decide) fun a w h => ?_, ?_⟩
          · have e50 : a.tmps.getD 50 undef = .bool true := h.dep 50 (by kernel_rfl)
            have e52 : a.tmps.getD 52 undef = .bool true := h.dep 52 (by kernel_rfl)
            have e58 : a.tmps.getD 58 undef = .bool true := h.dep 58 (by kernel_rfl)
            refine ⟨wants_some (d := 50) rfl rfl (by rw [h.size]; show 50 < 61; decide) e50, .bool true, w, ?_, gb_refl _ _, rfl⟩
            clear h
            simp only [execOp, Act.eval, e52, e58]
            go_simp
          refine ⟨fe3_value rfl (by decide) fun a w h => ?_, ?_⟩
          · have e50 : a.tmps.getD 50 undef = .bool true := h.dep 50 (by kernel_rfl)
            have e59 : a.tmps.getD 59 undef = .bool true := h.dep 59 (by kernel_rfl)
            refine ⟨wants_none rfl, .bool true, w, ?_, gb_refl _ _, rfl⟩
            clear h
            simp only [execOp, Act.eval, e50, e59]
            go_simp
          refine ⟨fe3_value rfl (by decide) fun a w h => ?_, ?_⟩
          · have e60 : a.tmps.getD 60 undef = .bool true := h.dep 60 (by kernel_rfl)
            refine ⟨wants_none rfl, .bool true, w, ?_, gb_refl _ _, rfl⟩
            clear h
            simp only [execOp, Act.eval, e60]
            go_simp
          trivial
        · intro q w hB hsz hdf hrest hslots hmems
          have e4 : q.tmps.getD 4 undef = .bool true := hslots 4 (by kernel_rfl)
          have G := gb_trans G7 hB.g
          replace hdf : q.defers = [] := hdf
          clear hB hsz hrest hslots hmems
          have e4x : q.tmps[4]?.getD undef = .bool true := by simpa using e4
          go_wp2_with fail
          refine bodyPost_ret (v := .bool true) ?_ hdf ⟨rfl, G⟩
          simp [results, Tryd.results6, go_sem, e4x]
      · obtain ⟨hz, ho, hn⟩ := hc
        have HZ := Lib.hid hz; have HO := Lib.hid ho; have HN := Lib.hid hn; clear hz ho hn
        refine wp_region_flow3 (items3 (Okb W7 [(w0.heap.size, fa), ((w0.heap.size + 1), fb), (v3.heap.size, fc)]) [.any, .any, .any, .any, .val (.bool true), .any, .any, .any, .any, .any, .any, .any, .any, .any, .any, .any, .any, .any, .any, .any, .any, .any, .any, .any, .any, .val (.bool true), .val (.bool true), .bytes ((Fe.m fa : Int)), .val (.int .i64 32), .val (.bool true), .val (.bool true), .val (.bool true), .val (fa.v), .val (fc.v), .val (.bool true), .val (.bool true), .val (.bool true), .val (fc.v), .elems 1 [fc], .val (.bool true), .val (.bool true), .val (.bool true), .bytes ((Fe.m fa : Int)), .bytes ((Fe.m fb : Int)), .val (.bool true), .val (fa.v), .val (fb.v), .val (.bool true), .val (.bool true), .val (.bool true), .val (.bool true), .val (fa.v), .val (.bool false), .val (fa.v), .val (.bool true), .val (fa.v), .val ((Fe.negF fa).v), .val (.bool false), .val (.bool false), .val (.bool true), .val (.bool true)]) (fun j =>  0) (Stored3 (Okb W7 [(w0.heap.size, fa), ((w0.heap.size + 1), fb), (v3.heap.size, fc)]) (fun j =>  Fe.zeroF)) (EnvB W7 W7.heap.size [(w0.heap.size, fa), ((w0.heap.size + 1), fb), (v3.heap.size, fc)] []) [] (by kernel_rfl) (by kernel_rfl) (by kernel_rfl) (hB7.grown (gb_drewn _)) (fun s hs => by cases hs) (by kernel_rfl) ?_ ?_
        · refine ⟨fe3_value rfl (by decide) fun a w h => ?_, ?_⟩
          · have e8 : a.tmps.getD 8 undef = .bool true := h.rest 8 (by kernel_rfl)
            refine ⟨wants_none rfl, .bool true, w, ?_, gb_refl _ _, rfl⟩
            clear h
            simp only [execOp, Act.eval, e8]
            go_simp
          refine ⟨fe3_value rfl (by decide) fun a w h => ?_, ?_⟩
          · have e25 : a.tmps.getD 25 undef = .bool true := h.dep 25 (by kernel_rfl)
            refine ⟨wants_none rfl, .bool true, w, ?_, gb_refl _ _, rfl⟩
            clear h
            simp only [execOp, Act.eval, e25]
            go_simp
          refine ⟨fe3_value rfl (by decide) fun a w h => ?_, ?_⟩
          · have e26 : a.tmps.getD 26 undef = .bool true := h.dep 26 (by kernel_rfl)
            have e5 : a.tmps.getD 5 undef = .slice (some ⟨NB5, 0, none⟩) 32 32 := h.rest 5 (by kernel_rfl)
            exact ⟨wants_some (d := 26) rfl rfl (by rw [h.size]; show 26 < 61; decide) e26, _, w, by simp only [execOp, Act.eval, e5]; rfl, gb_refl _ _, ⟨NB5, rfl, _, (hx7.grown h.base.g (by simp))⟩⟩
          refine ⟨fe3_value rfl (by decide) fun a w h => ?_, ?_⟩
          · have e26 : a.tmps.getD 26 undef = .bool true := h.dep 26 (by kernel_rfl)
            obtain ⟨B27, e27, T27, b27⟩ : ∃ NB, a.tmps.getD 27 undef = .slice (some ⟨NB, 0, none⟩) 32 32 ∧ ∃ T, Blk w NB T (bytesV ((Fe.m fa : Int))) := h.dep 27 (by kernel_rfl)
            have e27x : a.tmps[27]?.getD undef = .slice (some ⟨B27, 0, none⟩) 32 32 := by simpa using e27
            refine ⟨wants_some (d := 26) rfl rfl (by rw [h.size]; show 26 < 61; decide) e26, .int .i64 32, w, ?_, gb_refl _ _, rfl⟩
            clear h e27
            go_simp
          refine ⟨fe3_value rfl (by decide) fun a w h => ?_, ?_⟩
          · have e26 : a.tmps.getD 26 undef = .bool true := h.dep 26 (by kernel_rfl)
            have e28 : a.tmps.getD 28 undef = .int .i64 32 := h.dep 28 (by kernel_rfl)
            refine ⟨wants_some (d := 26) rfl rfl (by rw [h.size]; show 26 < 61; decide) e26, .bool true, w, ?_, gb_refl _ _, rfl⟩
            clear h
            simp only [execOp, Act.eval, e28]
            go_simp
          refine ⟨fe3_value rfl (by decide) fun a w h => ?_, ?_⟩
          · have e26 : a.tmps.getD 26 undef = .bool true := h.dep 26 (by kernel_rfl)
            have e29 : a.tmps.getD 29 undef = .bool true := h.dep 29 (by kernel_rfl)
            refine ⟨wants_none rfl, .bool true, w, ?_, gb_refl _ _, rfl⟩
            clear h
            simp only [execOp, Act.eval, e26, e29]
            go_simp
          refine ⟨fe3_value rfl (by decide) fun a w h => ?_, ?_⟩
          · have e30 : a.tmps.getD 30 undef = .bool true := h.dep 30 (by kernel_rfl)
            refine ⟨wants_none rfl, .bool true, w, ?_, gb_refl _ _, rfl⟩
            clear h
            simp only [execOp, Act.eval, e30]
            go_simp
          refine ⟨fe3_value rfl (by decide) fun a w h => ?_, ?_⟩
          · have e31 : a.tmps.getD 31 undef = .bool true := h.dep 31 (by kernel_rfl)
            have e2 : a.tmps.getD 2 undef = .pointer (some ⟨w0.heap.size, 0, none⟩) := h.rest 2 (by kernel_rfl)
            have hb := h.base.e (w0.heap.size, fa) (by simp)
            have c0 : w.cell? ⟨w0.heap.size, 0, none⟩ = some (.int .u64 fa.x0) := hb.cell (i := 0) rfl
            have c1 : w.cell? ⟨w0.heap.size, 1, none⟩ = some (.int .u64 fa.x1) := hb.cell (i := 1) rfl
            have c2 : w.cell? ⟨w0.heap.size, 2, none⟩ = some (.int .u64 fa.x2) := hb.cell (i := 2) rfl
            have c3 : w.cell? ⟨w0.heap.size, 3, none⟩ = some (.int .u64 fa.x3) := hb.cell (i := 3) rfl
            have c4 : w.cell? ⟨w0.heap.size, 4, none⟩ = some (.int .u64 fa.x4) := hb.cell (i := 4) rfl
            refine ⟨wants_some (d := 31) rfl rfl (by rw [h.size]; show 31 < 61; decide) e31, .agg #[.int .u64 fa.x0, .int .u64 fa.x1, .int .u64 fa.x2, .int .u64 fa.x3, .int .u64 fa.x4], w, ?_, gb_refl _ _, rfl⟩
            clear h hb
            simp only [execOp, Act.eval, e2]
            go_simp
          refine ⟨fe3_value rfl (by decide) fun a w h => ?_, ?_⟩
          · have e31 : a.tmps.getD 31 undef = .bool true := h.dep 31 (by kernel_rfl)
            have e7 : a.tmps.getD 7 undef = .pointer (some ⟨v3.heap.size, 0, none⟩) := h.rest 7 (by kernel_rfl)
            have hb := h.base.e (v3.heap.size, fc) (by simp)
            have c0 : w.cell? ⟨v3.heap.size, 0, none⟩ = some (.int .u64 fc.x0) := hb.cell (i := 0) rfl
            have c1 : w.cell? ⟨v3.heap.size, 1, none⟩ = some (.int .u64 fc.x1) := hb.cell (i := 1) rfl
            have c2 : w.cell? ⟨v3.heap.size, 2, none⟩ = some (.int .u64 fc.x2) := hb.cell (i := 2) rfl
            have c3 : w.cell? ⟨v3.heap.size, 3, none⟩ = some (.int .u64 fc.x3) := hb.cell (i := 3) rfl
            have c4 : w.cell? ⟨v3.heap.size, 4, none⟩ = some (.int .u64 fc.x4) := hb.cell (i := 4) rfl
            refine ⟨wants_some (d := 31) rfl rfl (by rw [h.size]; show 31 < 61; decide) e31, .agg #[.int .u64 fc.x0, .int .u64 fc.x1, .int .u64 fc.x2, .int .u64 fc.x3, .int .u64 fc.x4], w, ?_, gb_refl _ _, rfl⟩
            clear h hb
            simp only [execOp, Act.eval, e7]
            go_simp
          refine ⟨fe3_call rfl (by decide) fun a w h => ?_, ?_⟩
          · have e31 : a.tmps.getD 31 undef = .bool true := h.dep 31 (by kernel_rfl)
            have e32 : a.tmps.getD 32 undef = fa.v := h.dep 32 (by kernel_rfl)
            have e32x : a.tmps[32]?.getD undef = fa.v := by simpa using e32
            have e33 : a.tmps.getD 33 undef = fc.v := h.dep 33 (by kernel_rfl)
            have e33x : a.tmps[33]?.getD undef = fc.v := by simpa using e33
            have hb := h.base
            refine ⟨wants_some (d := 31) rfl rfl (by rw [h.size]; show 31 < 61; decide) e31, 13, #[fa.v, fc.v], ?_, ?_⟩
            · clear h hb e32 e33
              go_simp
            · refine (same_val fa fc true w oka okc (HS.out)).mono ?_
              intro e w1 hp
              obtain ⟨rfl, hg⟩ := hp
              exact ⟨_, rfl, hg, rfl⟩
          refine ⟨fe3_value rfl (by decide) fun a w h => ?_, ?_⟩
          · have e31 : a.tmps.getD 31 undef = .bool true := h.dep 31 (by kernel_rfl)
            have e34 : a.tmps.getD 34 undef = .bool true := h.dep 34 (by kernel_rfl)
            refine ⟨wants_none rfl, .bool true, w, ?_, gb_refl _ _, rfl⟩
            clear h
            simp only [execOp, Act.eval, e31, e34]
            go_simp
          refine ⟨fe3_value rfl (by decide) fun a w h => ?_, ?_⟩
          · have e35 : a.tmps.getD 35 undef = .bool true := h.dep 35 (by kernel_rfl)
            refine ⟨wants_none rfl, .bool true, w, ?_, gb_refl _ _, rfl⟩
            clear h
            simp only [execOp, Act.eval, e35]
            go_simp
          refine ⟨fe3_value rfl (by decide) fun a w h => ?_, ?_⟩
          · have e36 : a.tmps.getD 36 undef = .bool true := h.dep 36 (by kernel_rfl)
            have e7 : a.tmps.getD 7 undef = .pointer (some ⟨v3.heap.size, 0, none⟩) := h.rest 7 (by kernel_rfl)
            have hb := h.base.e (v3.heap.size, fc) (by simp)
            have c0 : w.cell? ⟨v3.heap.size, 0, none⟩ = some (.int .u64 fc.x0) := hb.cell (i := 0) rfl
            have c1 : w.cell? ⟨v3.heap.size, 1, none⟩ = some (.int .u64 fc.x1) := hb.cell (i := 1) rfl
            have c2 : w.cell? ⟨v3.heap.size, 2, none⟩ = some (.int .u64 fc.x2) := hb.cell (i := 2) rfl
            have c3 : w.cell? ⟨v3.heap.size, 3, none⟩ = some (.int .u64 fc.x3) := hb.cell (i := 3) rfl
            have c4 : w.cell? ⟨v3.heap.size, 4, none⟩ = some (.int .u64 fc.x4) := hb.cell (i := 4) rfl
            refine ⟨wants_some (d := 36) rfl rfl (by rw [h.size]; show 36 < 61; decide) e36, .agg #[.int .u64 fc.x0, .int .u64 fc.x1, .int .u64 fc.x2, .int .u64 fc.x3, .int .u64 fc.x4], w, ?_, gb_refl _ _, rfl⟩
            clear h hb
            simp only [execOp, Act.eval, e7]
            go_simp
          refine ⟨fe3_value rfl (by decide) fun a w h => ?_, ?_⟩
          · have e36 : a.tmps.getD 36 undef = .bool true := h.dep 36 (by kernel_rfl)
            have e37 : a.tmps.getD 37 undef = .agg #[.int .u64 fc.x0, .int .u64 fc.x1, .int .u64 fc.x2, .int .u64 fc.x3, .int .u64 fc.x4] := h.dep 37 (by kernel_rfl)
            refine ⟨wants_some (d := 36) rfl rfl (by rw [h.size]; show 36 < 61; decide) e36, .slice (some ⟨w.heap.size, 0, none⟩) 1 1, w.alloc (.cells #[.int .u64 fc.x0, .int .u64 fc.x1, .int .u64 fc.x2, .int .u64 fc.x3, .int .u64 fc.x4] 24), ?_, World.grownBy_alloc _ _ _, ⟨w.heap.size, rfl, Blk.new w (fesL [fc]) _⟩⟩
            clear h
            simp only [execOp, List.map_toArray, List.map_cons, List.map_nil, Act.eval, e37]
            go_simp
          refine ⟨fe3_call rfl (by decide) fun a w h => ?_, ?_⟩
          · have e36 : a.tmps.getD 36 undef = .bool true := h.dep 36 (by kernel_rfl)
            obtain ⟨B38, e38, b38⟩ : ∃ PB, a.tmps.getD 38 undef = .slice (some ⟨PB, 0, none⟩) 1 1 ∧ Blk w PB 24 (fesL [fc]) := h.dep 38 (by kernel_rfl)
            have e38x : a.tmps[38]?.getD undef = .slice (some ⟨B38, 0, none⟩) 1 1 := by simpa using e38
            have hb := h.base
            refine ⟨wants_some (d := 36) rfl rfl (by rw [h.size]; show 36 < 61; decide) e36, 31, #[.slice (some ⟨B38, 0, none⟩) 1 1], ?_, ?_⟩
            · clear h hb e38 b38
              go_simp
            · refine (right_val _ 1 [fc] true w rfl (by decide) (HRc.out) b38).mono ?_
              intro e w1 hp
              obtain ⟨rfl, hg⟩ := hp
              exact ⟨_, rfl, hg, rfl⟩
          refine ⟨fe3_value rfl (by decide) fun a w h => ?_, ?_⟩
          · have e36 : a.tmps.getD 36 undef = .bool true := h.dep 36 (by kernel_rfl)
            have e39 : a.tmps.getD 39 undef = .bool true := h.dep 39 (by kernel_rfl)
            refine ⟨wants_none rfl, .bool true, w, ?_, gb_refl _ _, rfl⟩
            clear h
            simp only [execOp, Act.eval, e36, e39]
            go_simp
          refine ⟨fe3_value rfl (by decide) fun a w h => ?_, ?_⟩
          · have e40 : a.tmps.getD 40 undef = .bool true := h.dep 40 (by kernel_rfl)
            refine ⟨wants_none rfl, .bool true, w, ?_, gb_refl _ _, rfl⟩
            clear h
            simp only [execOp, Act.eval, e40]
            go_simp
          refine ⟨fe3_value rfl (by decide) fun a w h => ?_, ?_⟩
          · have e41 : a.tmps.getD 41 undef = .bool true := h.dep 41 (by kernel_rfl)
            have e5 : a.tmps.getD 5 undef = .slice (some ⟨NB5, 0, none⟩) 32 32 := h.rest 5 (by kernel_rfl)
            exact ⟨wants_some (d := 41) rfl rfl (by rw [h.size]; show 41 < 61; decide) e41, _, w, by simp only [execOp, Act.eval, e5]; rfl, gb_refl _ _, ⟨NB5, rfl, _, (hx7.grown h.base.g (by simp))⟩⟩
          refine ⟨fe3_value rfl (by decide) fun a w h => ?_, ?_⟩
          · have e41 : a.tmps.getD 41 undef = .bool true := h.dep 41 (by kernel_rfl)
            have e6 : a.tmps.getD 6 undef = .slice (some ⟨NB6, 0, none⟩) 32 32 := h.rest 6 (by kernel_rfl)
            exact ⟨wants_some (d := 41) rfl rfl (by rw [h.size]; show 41 < 61; decide) e41, _, w, by simp only [execOp, Act.eval, e6]; rfl, gb_refl _ _, ⟨NB6, rfl, _, (hy7.grown h.base.g (by simp))⟩⟩
          refine ⟨fe3_call rfl (by decide) fun a w h => ?_, ?_⟩
          · have e41 : a.tmps.getD 41 undef = .bool true := h.dep 41 (by kernel_rfl)
            obtain ⟨B42, e42, T42, b42⟩ : ∃ NB, a.tmps.getD 42 undef = .slice (some ⟨NB, 0, none⟩) 32 32 ∧ ∃ T, Blk w NB T (bytesV ((Fe.m fa : Int))) := h.dep 42 (by kernel_rfl)
            have e42x : a.tmps[42]?.getD undef = .slice (some ⟨B42, 0, none⟩) 32 32 := by simpa using e42
            obtain ⟨B43, e43, T43, b43⟩ : ∃ NB, a.tmps.getD 43 undef = .slice (some ⟨NB, 0, none⟩) 32 32 ∧ ∃ T, Blk w NB T (bytesV ((Fe.m fb : Int))) := h.dep 43 (by kernel_rfl)
            have e43x : a.tmps[43]?.getD undef = .slice (some ⟨B43, 0, none⟩) 32 32 := by simpa using e43
            have hb := h.base
            refine ⟨wants_some (d := 41) rfl rfl (by rw [h.size]; show 41 < 61; decide) e41, 33, #[.slice (some ⟨B42, 0, none⟩) 32 32, .slice (some ⟨B43, 0, none⟩) 32 32], ?_, ?_⟩
            · clear h hb e42 e43 b42 b43
              go_simp
            · refine (sameBytes_val _ _ _ _ _ _ true w b42 b43 (HEb.out)).mono ?_
              intro e w1 hp
              obtain ⟨rfl, hg⟩ := hp
              exact ⟨_, rfl, hg, rfl⟩
          refine ⟨fe3_value rfl (by decide) fun a w h => ?_, ?_⟩
          · have e41 : a.tmps.getD 41 undef = .bool true := h.dep 41 (by kernel_rfl)
            have e2 : a.tmps.getD 2 undef = .pointer (some ⟨w0.heap.size, 0, none⟩) := h.rest 2 (by kernel_rfl)
            have hb := h.base.e (w0.heap.size, fa) (by simp)
            have c0 : w.cell? ⟨w0.heap.size, 0, none⟩ = some (.int .u64 fa.x0) := hb.cell (i := 0) rfl
            have c1 : w.cell? ⟨w0.heap.size, 1, none⟩ = some (.int .u64 fa.x1) := hb.cell (i := 1) rfl
            have c2 : w.cell? ⟨w0.heap.size, 2, none⟩ = some (.int .u64 fa.x2) := hb.cell (i := 2) rfl
            have c3 : w.cell? ⟨w0.heap.size, 3, none⟩ = some (.int .u64 fa.x3) := hb.cell (i := 3) rfl
            have c4 : w.cell? ⟨w0.heap.size, 4, none⟩ = some (.int .u64 fa.x4) := hb.cell (i := 4) rfl
            refine ⟨wants_some (d := 41) rfl rfl (by rw [h.size]; show 41 < 61; decide) e41, .agg #[.int .u64 fa.x0, .int .u64 fa.x1, .int .u64 fa.x2, .int .u64 fa.x3, .int .u64 fa.x4], w, ?_, gb_refl _ _, rfl⟩
            clear h hb
            simp only [execOp, Act.eval, e2]
            go_simp
          refine ⟨fe3_value rfl (by decide) fun a w h => ?_, ?_⟩
          · have e41 : a.tmps.getD 41 undef = .bool true := h.dep 41 (by kernel_rfl)
            have e3 : a.tmps.getD 3 undef = .pointer (some ⟨(w0.heap.size + 1), 0, none⟩) := h.rest 3 (by kernel_rfl)
            have hb := h.base.e ((w0.heap.size + 1), fb) (by simp)
            have c0 : w.cell? ⟨(w0.heap.size + 1), 0, none⟩ = some (.int .u64 fb.x0) := hb.cell (i := 0) rfl
            have c1 : w.cell? ⟨(w0.heap.size + 1), 1, none⟩ = some (.int .u64 fb.x1) := hb.cell (i := 1) rfl
            have c2 : w.cell? ⟨(w0.heap.size + 1), 2, none⟩ = some (.int .u64 fb.x2) := hb.cell (i := 2) rfl
            have c3 : w.cell? ⟨(w0.heap.size + 1), 3, none⟩ = some (.int .u64 fb.x3) := hb.cell (i := 3) rfl
            have c4 : w.cell? ⟨(w0.heap.size + 1), 4, none⟩ = some (.int .u64 fb.x4) := hb.cell (i := 4) rfl
            refine ⟨wants_some (d := 41) rfl rfl (by rw [h.size]; show 41 < 61; decide) e41, .agg #[.int .u64 fb.x0, .int .u64 fb.x1, .int .u64 fb.x2, .int .u64 fb.x3, .int .u64 fb.x4], w, ?_, gb_refl _ _, rfl⟩
            clear h hb
            simp only [execOp, Act.eval, e3]
            go_simp
          refine ⟨fe3_call rfl (by decide) fun a w h => ?_, ?_⟩
          · have e41 : a.tmps.getD 41 undef = .bool true := h.dep 41 (by kernel_rfl)
            have e45 : a.tmps.getD 45 undef = fa.v := h.dep 45 (by kernel_rfl)
            have e45x : a.tmps[45]?.getD undef = fa.v := by simpa using e45
            have e46 : a.tmps.getD 46 undef = fb.v := h.dep 46 (by kernel_rfl)
            have e46x : a.tmps[46]?.getD undef = fb.v := by simpa using e46
            have hb := h.base
            refine ⟨wants_some (d := 41) rfl rfl (by rw [h.size]; show 41 < 61; decide) e41, 13, #[fa.v, fb.v], ?_, ?_⟩
            · clear h hb e45 e46
              go_simp
            · refine (same_val fa fb true w oka okb (HE.out)).mono ?_
              intro e w1 hp
              obtain ⟨rfl, hg⟩ := hp
              exact ⟨_, rfl, hg, rfl⟩
          refine ⟨fe3_value rfl (by decide) fun a w h => ?_, ?_⟩
          · have e41 : a.tmps.getD 41 undef = .bool true := h.dep 41 (by kernel_rfl)
            have e44 : a.tmps.getD 44 undef = .bool true := h.dep 44 (by kernel_rfl)
            have e47 : a.tmps.getD 47 undef = .bool true := h.dep 47 (by kernel_rfl)
            refine ⟨wants_some (d := 41) rfl rfl (by rw [h.size]; show 41 < 61; decide) e41, .bool true, w, ?_, gb_refl _ _, rfl⟩
            clear h
            simp only [execOp, Act.eval, e44, e47]
            go_simp
          refine ⟨fe3_value rfl (by decide) fun a w h => ?_, ?_⟩
          · have e41 : a.tmps.getD 41 undef = .bool true := h.dep 41 (by kernel_rfl)
            have e48 : a.tmps.getD 48 undef = .bool true := h.dep 48 (by kernel_rfl)
            refine ⟨wants_none rfl, .bool true, w, ?_, gb_refl _ _, rfl⟩
            clear h
            simp only [execOp, Act.eval, e41, e48]
            go_simp
          refine ⟨fe3_value rfl (by decide) fun a w h => ?_, ?_⟩
          · have e49 : a.tmps.getD 49 undef = .bool true := h.dep 49 (by kernel_rfl)
            refine ⟨wants_none rfl, .bool true, w, ?_, gb_refl _ _, rfl⟩
            clear h
            simp only [execOp, Act.eval, e49]
            go_simp
          refine ⟨fe3_value rfl (by decide) fun a w h => ?_, ?_⟩
          · have e50 : a.tmps.getD 50 undef = .bool true := h.dep 50 (by kernel_rfl)
            have e2 : a.tmps.getD 2 undef = .pointer (some ⟨w0.heap.size, 0, none⟩) := h.rest 2 (by kernel_rfl)
            have hb := h.base.e (w0.heap.size, fa) (by simp)
            have c0 : w.cell? ⟨w0.heap.size, 0, none⟩ = some (.int .u64 fa.x0) := hb.cell (i := 0) rfl
            have c1 : w.cell? ⟨w0.heap.size, 1, none⟩ = some (.int .u64 fa.x1) := hb.cell (i := 1) rfl
            have c2 : w.cell? ⟨w0.heap.size, 2, none⟩ = some (.int .u64 fa.x2) := hb.cell (i := 2) rfl
            have c3 : w.cell? ⟨w0.heap.size, 3, none⟩ = some (.int .u64 fa.x3) := hb.cell (i := 3) rfl
            have c4 : w.cell? ⟨w0.heap.size, 4, none⟩ = some (.int .u64 fa.x4) := hb.cell (i := 4) rfl
            refine ⟨wants_some (d := 50) rfl rfl (by rw [h.size]; show 50 < 61; decide) e50, .agg #[.int .u64 fa.x0, .int .u64 fa.x1, .int .u64 fa.x2, .int .u64 fa.x3, .int .u64 fa.x4], w, ?_, gb_refl _ _, rfl⟩
            clear h hb
            simp only [execOp, Act.eval, e2]
            go_simp
          refine ⟨fe3_call rfl (by decide) fun a w h => ?_, ?_⟩
          · have e50 : a.tmps.getD 50 undef = .bool true := h.dep 50 (by kernel_rfl)
            have e51 : a.tmps.getD 51 undef = fa.v := h.dep 51 (by kernel_rfl)
            have e51x : a.tmps[51]?.getD undef = fa.v := by simpa using e51
            have hb := h.base
            refine ⟨wants_some (d := 50) rfl rfl (by rw [h.size]; show 50 < 61; decide) e50, 24, #[fa.v], ?_, ?_⟩
            · clear h hb e51
              go_simp
            · refine (zero_val fa false w oka (HZ.out)).mono ?_
              intro e w1 hp
              obtain ⟨rfl, hg⟩ := hp
              exact ⟨_, rfl, hg, rfl⟩
          refine ⟨fe3_value rfl (by decide) fun a w h => ?_, ?_⟩
          · have e50 : a.tmps.getD 50 undef = .bool true := h.dep 50 (by kernel_rfl)
            have e2 : a.tmps.getD 2 undef = .pointer (some ⟨w0.heap.size, 0, none⟩) := h.rest 2 (by kernel_rfl)
            have hb := h.base.e (w0.heap.size, fa) (by simp)
            have c0 : w.cell? ⟨w0.heap.size, 0, none⟩ = some (.int .u64 fa.x0) := hb.cell (i := 0) rfl
            have c1 : w.cell? ⟨w0.heap.size, 1, none⟩ = some (.int .u64 fa.x1) := hb.cell (i := 1) rfl
            have c2 : w.cell? ⟨w0.heap.size, 2, none⟩ = some (.int .u64 fa.x2) := hb.cell (i := 2) rfl
            have c3 : w.cell? ⟨w0.heap.size, 3, none⟩ = some (.int .u64 fa.x3) := hb.cell (i := 3) rfl
            have c4 : w.cell? ⟨w0.heap.size, 4, none⟩ = some (.int .u64 fa.x4) := hb.cell (i := 4) rfl
            refine ⟨wants_some (d := 50) rfl rfl (by rw [h.size]; show 50 < 61; decide) e50, .agg #[.int .u64 fa.x0, .int .u64 fa.x1, .int .u64 fa.x2, .int .u64 fa.x3, .int .u64 fa.x4], w, ?_, gb_refl _ _, rfl⟩
            clear h hb
            simp only [execOp, Act.eval, e2]
            go_simp
          refine ⟨fe3_call rfl (by decide) fun a w h => ?_, ?_⟩
          · have e50 : a.tmps.getD 50 undef = .bool true := h.dep 50 (by kernel_rfl)
            have e53 : a.tmps.getD 53 undef = fa.v := h.dep 53 (by kernel_rfl)
            have e53x : a.tmps[53]?.getD undef = fa.v := by simpa using e53
            have hb := h.base
            refine ⟨wants_some (d := 50) rfl rfl (by rw [h.size]; show 50 < 61; decide) e50, 25, #[fa.v], ?_, ?_⟩
            · clear h hb e53
              go_simp
            · refine (odd_val fa true w oka (HO.out)).mono ?_
              intro e w1 hp
              obtain ⟨rfl, hg⟩ := hp
              exact ⟨_, rfl, hg, rfl⟩
          refine ⟨fe3_value rfl (by decide) fun a w h => ?_, ?_⟩
          · have e50 : a.tmps.getD 50 undef = .bool true := h.dep 50 (by kernel_rfl)
            have e2 : a.tmps.getD 2 undef = .pointer (some ⟨w0.heap.size, 0, none⟩) := h.rest 2 (by kernel_rfl)
            have hb := h.base.e (w0.heap.size, fa) (by simp)
            have c0 : w.cell? ⟨w0.heap.size, 0, none⟩ = some (.int .u64 fa.x0) := hb.cell (i := 0) rfl
            have c1 : w.cell? ⟨w0.heap.size, 1, none⟩ = some (.int .u64 fa.x1) := hb.cell (i := 1) rfl
            have c2 : w.cell? ⟨w0.heap.size, 2, none⟩ = some (.int .u64 fa.x2) := hb.cell (i := 2) rfl
            have c3 : w.cell? ⟨w0.heap.size, 3, none⟩ = some (.int .u64 fa.x3) := hb.cell (i := 3) rfl
            have c4 : w.cell? ⟨w0.heap.size, 4, none⟩ = some (.int .u64 fa.x4) := hb.cell (i := 4) rfl
            refine ⟨wants_some (d := 50) rfl rfl (by rw [h.size]; show 50 < 61; decide) e50, .agg #[.int .u64 fa.x0, .int .u64 fa.x1, .int .u64 fa.x2, .int .u64 fa.x3, .int .u64 fa.x4], w, ?_, gb_refl _ _, rfl⟩
            clear h hb
            simp only [execOp, Act.eval, e2]
            go_simp
          refine ⟨fe3_call rfl (by decide) fun a w h => ?_, ?_⟩
          · have e50 : a.tmps.getD 50 undef = .bool true := h.dep 50 (by kernel_rfl)
            have e55 : a.tmps.getD 55 undef = fa.v := h.dep 55 (by kernel_rfl)
            have e55x : a.tmps[55]?.getD undef = fa.v := by simpa using e55
            have hb := h.base
            refine ⟨wants_some (d := 50) rfl rfl (by rw [h.size]; show 50 < 61; decide) e50, 14, #[fa.v], ?_, ?_⟩
            · clear h hb e55
              go_simp
            · refine (neg_any fa w (HT7.out.grown hb.g) oka).mono ?_
              intro e w1 hp
              obtain ⟨rfl, hg⟩ := feOut_is hp
              exact ⟨_, rfl, hg, rfl⟩
          refine ⟨fe3_call rfl (by decide) fun a w h => ?_, ?_⟩
          · have e50 : a.tmps.getD 50 undef = .bool true := h.dep 50 (by kernel_rfl)
            have e56 : a.tmps.getD 56 undef = (Fe.negF fa).v := h.dep 56 (by kernel_rfl)
            have e56x : a.tmps[56]?.getD undef = (Fe.negF fa).v := by simpa using e56
            have hb := h.base
            refine ⟨wants_some (d := 50) rfl rfl (by rw [h.size]; show 50 < 61; decide) e50, 25, #[(Fe.negF fa).v], ?_, ?_⟩
            · clear h hb e56
              go_simp
            · refine (odd_val (Fe.negF fa) false w (Fe.neg_right _).ok (HN.out)).mono ?_
              intro e w1 hp
              obtain ⟨rfl, hg⟩ := hp
              exact ⟨_, rfl, hg, rfl⟩
          refine ⟨fe3_value rfl (by decide) fun a w h => ?_, ?_⟩
          · have e50 : a.tmps.getD 50 undef = .bool true := h.dep 50 (by kernel_rfl)
            have e54 : a.tmps.getD 54 undef = .bool true := h.dep 54 (by kernel_rfl)
            have e57 : a.tmps.getD 57 undef = .bool false := h.dep 57 (by kernel_rfl)
            refine ⟨wants_some (d := 50) rfl rfl (by rw [h.size]; show 50 < 61; decide) e50, .bool false, w, ?_, gb_refl _ _, rfl⟩
            clear h
            simp only [execOp, Act.eval, e54, e57]
            go_simp
          refine ⟨fe3_value rfl (by decide) fun a w h => ?_, ?_⟩
          · have e50 : a.tmps.getD 50 undef = .bool true := h.dep 50 (by kernel_rfl)
            have e52 : a.tmps.getD 52 undef = .bool false := h.dep 52 (by kernel_rfl)
            have e58 : a.tmps.getD 58 undef = .bool false := h.dep 58 (by kernel_rfl)
            refine ⟨wants_some (d := 50) rfl rfl (by rw [h.size]; show 50 < 61; decide) e50, .bool true, w, ?_, gb_refl _ _, rfl⟩
            clear h
            simp only [execOp, Act.eval, e52, e58]
            go_simp
          refine ⟨fe3_value rfl (by decide) fun a w h => ?_, ?_⟩
          · have e50 : a.tmps.getD 50 undef = .bool true := h.dep 50 (by kernel_rfl)
            have e59 : a.tmps.getD 59 undef = .bool true := h.dep 59 (by kernel_rfl)
            refine ⟨wants_none rfl, .bool true, w, ?_, gb_refl _ _, rfl⟩
            clear h
            simp only [execOp, Act.eval, e50, e59]
            go_simp
          refine ⟨fe3_value rfl (by decide) fun a w h => ?_, ?_⟩
          · have e60 : a.tmps.getD 60 undef = .bool true := h.dep 60 (by kernel_rfl)
            refine ⟨wants_none rfl, .bool true, w, ?_, gb_refl _ _, rfl⟩
            clear h
            simp only [execOp, Act.eval, e60]
            go_simp
          trivial
        · intro q w hB hsz hdf hrest hslots hmems
          have e4 : q.tmps.getD 4 undef = .bool true := hslots 4 (by kernel_rfl)
          have G := gb_trans G7 hB.g
          replace hdf : q.defers = [] := hdf
          clear hB hsz hrest hslots hmems
          have e4x : q.tmps[4]?.getD undef = .bool true := by simpa using e4
          go_wp2_with fail
          refine bodyPost_ret (v := .bool true) ?_ hdf ⟨rfl, G⟩
          simp [results, Tryd.results6, go_sem, e4x]
      · obtain ⟨hz, ho, hn⟩ := hc
        have HZ := Lib.hid hz; have HO := Lib.hid ho; have HN := Lib.hid hn; clear hz ho hn
        refine wp_region_flow3 (items3 (Okb W7 [(w0.heap.size, fa), ((w0.heap.size + 1), fb), (v3.heap.size, fc)]) [.any, .any, .any, .any, .val (.bool true), .any, .any, .any, .any, .any, .any, .any, .any, .any, .any, .any, .any, .any, .any, .any, .any, .any, .any, .any, .any, .val (.bool true), .val (.bool true), .bytes ((Fe.m fa : Int)), .val (.int .i64 32), .val (.bool true), .val (.bool true), .val (.bool true), .val (fa.v), .val (fc.v), .val (.bool true), .val (.bool true), .val (.bool true), .val (fc.v), .elems 1 [fc], .val (.bool true), .val (.bool true), .val (.bool true), .bytes ((Fe.m fa : Int)), .bytes ((Fe.m fb : Int)), .val (.bool true), .val (fa.v), .val (fb.v), .val (.bool true), .val (.bool true), .val (.bool true), .val (.bool true), .val (fa.v), .val (.bool false), .val (fa.v), .val (.bool false), .val (fa.v), .val ((Fe.negF fa).v), .val (.bool true), .val (.bool false), .val (.bool true), .val (.bool true)]) (fun j =>  0) (Stored3 (Okb W7 [(w0.heap.size, fa), ((w0.heap.size + 1), fb), (v3.heap.size, fc)]) (fun j =>  Fe.zeroF)) (EnvB W7 W7.heap.size [(w0.heap.size, fa), ((w0.heap.size + 1), fb), (v3.heap.size, fc)] []) [] (by kernel_rfl) (by kernel_rfl) (by kernel_rfl) (hB7.grown (gb_drewn _)) (fun s hs => by cases hs) (by kernel_rfl) ?_ ?_
        · refine ⟨fe3_value rfl (by decide) fun a w h => ?_, ?_⟩
          · have e8 : a.tmps.getD 8 undef = .bool true := h.rest 8 (by kernel_rfl)
            refine ⟨wants_none rfl, .bool true, w, ?_, gb_refl _ _, rfl⟩
            clear h
            simp only [execOp, Act.eval, e8]
            go_simp
          refine ⟨fe3_value rfl (by decide) fun a w h => ?_, ?_⟩
          · have e25 : a.tmps.getD 25 undef = .bool true := h.dep 25 (by kernel_rfl)
            refine ⟨wants_none rfl, .bool true, w, ?_, gb_refl _ _, rfl⟩
            clear h
            simp only [execOp, Act.eval, e25]
            go_simp
          refine ⟨fe3_value rfl (by decide) fun a w h => ?_, ?_⟩
          · have e26 : a.tmps.getD 26 undef = .bool true := h.dep 26 (by kernel_rfl)
            have e5 : a.tmps.getD 5 undef = .slice (some ⟨NB5, 0, none⟩) 32 32 := h.rest 5 (by kernel_rfl)
            exact ⟨wants_some (d := 26) rfl rfl (by rw [h.size]; show 26 < 61; decide) e26, _, w, by simp only [execOp, Act.eval, e5]; rfl, gb_refl _ _, ⟨NB5, rfl, _, (hx7.grown h.base.g (by simp))⟩⟩
          refine ⟨fe3_value rfl (by decide) fun a w h => ?_, ?_⟩
          · have e26 : a.tmps.getD 26 undef = .bool true := h.dep 26 (by kernel_rfl)
            obtain ⟨B27, e27, T27, b27⟩ : ∃ NB, a.tmps.getD 27 undef = .slice (some ⟨NB, 0, none⟩) 32 32 ∧ ∃ T, Blk w NB T (bytesV ((Fe.m fa : Int))) := h.dep 27 (by kernel_rfl)
            have e27x : a.tmps[27]?.getD undef = .slice (some ⟨B27, 0, none⟩) 32 32 := by simpa using e27
            refine ⟨wants_some (d := 26) rfl rfl (by rw [h.size]; show 26 < 61; decide) e26, .int .i64 32, w, ?_, gb_refl _ _, rfl⟩
            clear h e27
            go_simp
          refine ⟨fe3_value rfl (by decide) fun a w h => ?_, ?_⟩
          · have e26 : a.tmps.getD 26 undef = .bool true := h.dep 26 (by kernel_rfl)
            have e28 : a.tmps.getD 28 undef = .int .i64 32 := h.dep 28 (by kernel_rfl)
            refine ⟨wants_some (d := 26) rfl rfl (by rw [h.size]; show 26 < 61; decide) e26, .bool true, w, ?_, gb_refl _ _, rfl⟩
            clear h
            simp only [execOp, Act.eval, e28]
            go_simp
          refine ⟨fe3_value rfl (by decide) fun a w h => ?_, ?_⟩
          · have e26 : a.tmps.getD 26 undef = .bool true := h.dep 26 (by kernel_rfl)
            have e29 : a.tmps.getD 29 undef = .bool true := h.dep 29 (by kernel_rfl)
            refine ⟨wants_none rfl, .bool true, w, ?_, gb_refl _ _, rfl⟩
            clear h
            simp only [execOp, Act.eval, e26, e29]
            go_simp
          refine ⟨fe3_value rfl (by decide) fun a w h => ?_, ?_⟩
          · have e30 : a.tmps.getD 30 undef = .bool true := h.dep 30 (by kernel_rfl)
            refine ⟨wants_none rfl, .bool true, w, ?_, gb_refl _ _, rfl⟩
            clear h
            simp only [execOp, Act.eval, e30]
            go_simp
          refine ⟨fe3_value rfl (by decide) fun a w h => ?_, ?_⟩
          · have e31 : a.tmps.getD 31 undef = .bool true := h.dep 31 (by kernel_rfl)
            have e2 : a.tmps.getD 2 undef = .pointer (some ⟨w0.heap.size, 0, none⟩) := h.rest 2 (by kernel_rfl)
            have hb := h.base.e (w0.heap.size, fa) (by simp)
            have c0 : w.cell? ⟨w0.heap.size, 0, none⟩ = some (.int .u64 fa.x0) := hb.cell (i := 0) rfl
            have c1 : w.cell? ⟨w0.heap.size, 1, none⟩ = some (.int .u64 fa.x1) := hb.cell (i := 1) rfl
            have c2 : w.cell? ⟨w0.heap.size, 2, none⟩ = some (.int .u64 fa.x2) := hb.cell (i := 2) rfl
            have c3 : w.cell? ⟨w0.heap.size, 3, none⟩ = some (.int .u64 fa.x3) := hb.cell (i := 3) rfl
            have c4 : w.cell? ⟨w0.heap.size, 4, none⟩ = some (.int .u64 fa.x4) := hb.cell (i := 4) rfl
            refine ⟨wants_some (d := 31) rfl rfl (by rw [h.size]; show 31 < 61; decide) e31, .agg #[.int .u64 fa.x0, .int .u64 fa.x1, .int .u64 fa.x2, .int .u64 fa.x3, .int .u64 fa.x4], w, ?_, gb_refl _ _, rfl⟩
            clear h hb
            simp only [execOp, Act.eval, e2]
            go_simp
          refine ⟨fe3_value rfl (by decide) fun a w h => ?_, ?_⟩
          · have e31 : a.tmps.getD 31 undef = .bool true := h.dep 31 (by kernel_rfl)
            have e7 : a.tmps.getD 7 undef = .pointer (some ⟨v3.heap.size, 0, none⟩) := h.rest 7 (by kernel_rfl)
            have hb := h.base.e (v3.heap.size, fc) (by simp)
            have c0 : w.cell? ⟨v3.heap.size, 0, none⟩ = some (.int .u64 fc.x0) := hb.cell (i := 0) rfl
            have c1 : w.cell? ⟨v3.heap.size, 1, none⟩ = some (.int .u64 fc.x1) := hb.cell (i := 1) rfl
            have c2 : w.cell? ⟨v3.heap.size, 2, none⟩ = some (.int .u64 fc.x2) := hb.cell (i := 2) rfl
            have c3 : w.cell? ⟨v3.heap.size, 3, none⟩ = some (.int .u64 fc.x3) := hb.cell (i := 3) rfl
            have c4 : w.cell? ⟨v3.heap.size, 4, none⟩ = some (.int .u64 fc.x4) := hb.cell (i := 4) rfl
            refine ⟨wants_some (d := 31) rfl rfl (by rw [h.size]; show 31 < 61; decide) e31, .agg #[.int .u64 fc.x0, .int .u64 fc.x1, .int .u64 fc.x2, .int .u64 fc.x3, .int .u64 fc.x4], w, ?_, gb_refl _ _, rfl⟩
            clear h hb
            simp only [execOp, Act.eval, e7]
            go_simp
          refine ⟨fe3_call rfl (by decide) fun a w h => ?_, ?_⟩
          · have e31 : a.tmps.getD 31 undef = .bool true := h.dep 31 (by kernel_rfl)
            have e32 : a.tmps.getD 32 undef = fa.v := h.dep 32 (by kernel_rfl)
            have e32x : a.tmps[32]?.getD undef = fa.v := by simpa using e32
            have e33 : a.tmps.getD 33 undef = fc.v := h.dep 33 (by kernel_rfl)
            have e33x : a.tmps[33]?.getD undef = fc.v := by simpa using e33
            have hb := h.base
            refine ⟨wants_some (d := 31) rfl rfl (by rw [h.size]; show 31 < 61; decide) e31, 13, #[fa.v, fc.v], ?_, ?_⟩
            · clear h hb e32 e33
              go_simp
            · refine (same_val fa fc true w oka okc (HS.out)).mono ?_
              intro e w1 hp
              obtain ⟨rfl, hg⟩ := hp
              exact ⟨_, rfl, hg, rfl⟩
          refine ⟨fe3_value rfl (by decide) fun a w h => ?_, ?_⟩
          · have e31 : a.tmps.getD 31 undef = .bool true := h.dep 31 (by kernel_rfl)
            have e34 : a.tmps.getD 34 undef = .bool true := h.dep 34 (by kernel_rfl)
            refine ⟨wants_none rfl, .bool true, w, ?_, gb_refl _ _, rfl⟩
            clear h
            simp only [execOp, Act.eval, e31, e34]
            go_simp
          refine ⟨fe3_value rfl (by decide) fun a w h => ?_, ?_⟩
          · have e35 : a.tmps.getD 35 undef = .bool true := h.dep 35 (by kernel_rfl)
            refine ⟨wants_none rfl, .bool true, w, ?_, gb_refl _ _, rfl⟩
            clear h
            simp only [execOp, Act.eval, e35]
            go_simp
          refine ⟨fe3_value rfl (by decide) fun a w h => ?_, ?_⟩
          · have e36 : a.tmps.getD 36 undef = .bool true := h.dep 36 (by kernel_rfl)
            have e7 : a.tmps.getD 7 undef = .pointer (some ⟨v3.heap.size, 0, none⟩) := h.rest 7 (by kernel_rfl)
            have hb := h.base.e (v3.heap.size, fc) (by simp)
            have c0 : w.cell? ⟨v3.heap.size, 0, none⟩ = some (.int .u64 fc.x0) := hb.cell (i := 0) rfl
            have c1 : w.cell? ⟨v3.heap.size, 1, none⟩ = some (.int .u64 fc.x1) := hb.cell (i := 1) rfl
            have c2 : w.cell? ⟨v3.heap.size, 2, none⟩ = some (.int .u64 fc.x2) := hb.cell (i := 2) rfl
            have c3 : w.cell? ⟨v3.heap.size, 3, none⟩ = some (.int .u64 fc.x3) := hb.cell (i := 3) rfl
            have c4 : w.cell? ⟨v3.heap.size, 4, none⟩ = some (.int .u64 fc.x4) := hb.cell (i := 4) rfl
            refine ⟨wants_some (d := 36) rfl rfl (by rw [h.size]; show 36 < 61; decide) e36, .agg #[.int .u64 fc.x0, .int .u64 fc.x1, .int .u64 fc.x2, .int .u64 fc.x3, .int .u64 fc.x4], w, ?_, gb_refl _ _, rfl⟩
            clear h hb
            simp only [execOp, Act.eval, e7]
            go_simp
          refine ⟨fe3_value rfl (by decide) fun a w h => ?_, ?_⟩
          · have e36 : a.tmps.getD 36 undef = .bool true := h.dep 36 (by kernel_rfl)
            have e37 : a.tmps.getD 37 undef = .agg #[.int .u64 fc.x0, .int .u64 fc.x1, .int .u64 fc.x2, .int .u64 fc.x3, .int .u64 fc.x4] := h.dep 37 (by kernel_rfl)
            refine ⟨wants_some (d := 36) rfl rfl (by rw [h.size]; show 36 < 61; decide) e36, .slice (some ⟨w.heap.size, 0, none⟩) 1 1, w.alloc (.cells #[.int .u64 fc.x0, .int .u64 fc.x1, .int .u64 fc.x2, .int .u64 fc.x3, .int .u64 fc.x4] 24), ?_, World.grownBy_alloc _ _ _, ⟨w.heap.size, rfl, Blk.new w (fesL [fc]) _⟩⟩
            clear h
            simp only [execOp, List.map_toArray, List.map_cons, List.map_nil, Act.eval, e37]
            go_simp
          refine ⟨fe3_call rfl (by decide) fun a w h => ?_, ?_⟩
          · have e36 : a.tmps.getD 36 undef = .bool true := h.dep 36 (by kernel_rfl)
            obtain ⟨B38, e38, b38⟩ : ∃ PB, a.tmps.getD 38 undef = .slice (some ⟨PB, 0, none⟩) 1 1 ∧ Blk w PB 24 (fesL [fc]) := h.dep 38 (by kernel_rfl)
            have e38x : a.tmps[38]?.getD undef = .slice (some ⟨B38, 0, none⟩) 1 1 := by simpa using e38
            have hb := h.base
            refine ⟨wants_some (d := 36) rfl rfl (by rw [h.size]; show 36 < 61; decide) e36, 31, #[.slice (some ⟨B38, 0, none⟩) 1 1], ?_, ?_⟩
            · clear h hb e38 b38
              go_simp
            · refine (right_val _ 1 [fc] true w rfl (by decide) (HRc.out) b38).mono ?_
              intro e w1 hp
              obtain ⟨rfl, hg⟩ := hp
              exact ⟨_, rfl, hg, rfl⟩
          refine ⟨fe3_value rfl (by decide) fun a w h => ?_, ?_⟩
          · have e36 : a.tmps.getD 36 undef = .bool true := h.dep 36 (by kernel_rfl)
            have e39 : a.tmps.getD 39 undef = .bool true := h.dep 39 (by kernel_rfl)
            refine ⟨wants_none rfl, .bool true, w, ?_, gb_refl _ _, rfl⟩
            clear h
            simp only [execOp, Act.eval, e36, e39]
            go_simp
          refine ⟨fe3_value rfl (by decide) fun a w h => ?_, ?_⟩
          · have e40 : a.tmps.getD 40 undef = .bool true := h.dep 40 (by kernel_rfl)
            refine ⟨wants_none rfl, .bool true, w, ?_, gb_refl _ _, rfl⟩
            clear h
            simp only [execOp, Act.eval, e40]
            go_simp
          refine ⟨fe3_value rfl (by decide) fun a w h => ?_, ?_⟩
          · have e41 : a.tmps.getD 41 undef = .bool true := h.dep 41 (by kernel_rfl)
            have e5 : a.tmps.getD 5 undef = .slice (some ⟨NB5, 0, none⟩) 32 32 := h.rest 5 (by kernel_rfl)
            exact ⟨wants_some (d := 41) rfl rfl (by rw [h.size]; show 41 < 61; decide) e41, _, w, by simp only [execOp, Act.eval, e5]; rfl, gb_refl _ _, ⟨NB5, rfl, _, (hx7.grown h.base.g (by simp))⟩⟩
          refine ⟨fe3_value rfl (by decide) fun a w h => ?_, ?_⟩
          · have e41 : a.tmps.getD 41 undef = .bool true := h.dep 41 (by kernel_rfl)
            have e6 : a.tmps.getD 6 undef = .slice (some ⟨NB6, 0, none⟩) 32 32 := h.rest 6 (by kernel_rfl)
            exact ⟨wants_some (d := 41) rfl rfl (by rw [h.size]; show 41 < 61; decide) e41, _, w, by simp only [execOp, Act.eval, e6]; rfl, gb_refl _ _, ⟨NB6, rfl, _, (hy7.grown h.base.g (by simp))⟩⟩
          refine ⟨fe3_call rfl (by decide) fun a w h => ?_, ?_⟩
          · have e41 : a.tmps.getD 41 undef = .bool true := h.dep 41 (by kernel_rfl)
            obtain ⟨B42, e42, T42, b42⟩ : ∃ NB, a.tmps.getD 42 undef = .slice (some ⟨NB, 0, none⟩) 32 32 ∧ ∃ T, Blk w NB T (bytesV ((Fe.m fa : Int))) := h.dep 42 (by kernel_rfl)
            have e42x : a.tmps[42]?.getD undef = .slice (some ⟨B42, 0, none⟩) 32 32 := by simpa using e42
            obtain ⟨B43, e43, T43, b43⟩ : ∃ NB, a.tmps.getD 43 undef = .slice (some ⟨NB, 0, none⟩) 32 32 ∧ ∃ T, Blk w NB T (bytesV ((Fe.m fb : Int))) := h.dep 43 (by kernel_rfl)
            have e43x : a.tmps[43]?.getD undef = .slice (some ⟨B43, 0, none⟩) 32 32 := by simpa using e43
            have hb := h.base
            refine ⟨wants_some (d := 41) rfl rfl (by rw [h.size]; show 41 < 61; decide) e41, 33, #[.slice (some ⟨B42, 0, none⟩) 32 32, .slice (some ⟨B43, 0, none⟩) 32 32], ?_, ?_⟩
            · clear h hb e42 e43 b42 b43
              go_simp
            · refine (sameBytes_val _ _ _ _ _ _ true w b42 b43 (HEb.out)).mono ?_
              intro e w1 hp
              obtain ⟨rfl, hg⟩ := hp
              exact ⟨_, rfl, hg, rfl⟩
          refine ⟨fe3_value rfl (by decide) fun a w h => ?_, ?_⟩
          · have e41 : a.tmps.getD 41 undef = .bool true := h.dep 41 (by kernel_rfl)
            have e2 : a.tmps.getD 2 undef = .pointer (some ⟨w0.heap.size, 0, none⟩) := h.rest 2 (by kernel_rfl)
            have hb := h.base.e (w0.heap.size, fa) (by simp)
            have c0 : w.cell? ⟨w0.heap.size, 0, none⟩ = some (.int .u64 fa.x0) := hb.cell (i := 0) rfl
            have c1 : w.cell? ⟨w0.heap.size, 1, none⟩ = some (.int .u64 fa.x1) := hb.cell (i := 1) rfl
            have c2 : w.cell? ⟨w0.heap.size, 2, none⟩ = some (.int .u64 fa.x2) := hb.cell (i := 2) rfl
            have c3 : w.cell? ⟨w0.heap.size, 3, none⟩ = some (.int .u64 fa.x3) := hb.cell (i := 3) rfl
            have c4 : w.cell? ⟨w0.heap.size, 4, none⟩ = some (.int .u64 fa.x4) := hb.cell (i := 4) rfl
            refine ⟨wants_some (d := 41) rfl rfl (by rw [h.size]; show 41 < 61; decide) e41, .agg #[.int .u64 fa.x0, .int .u64 fa.x1, .int .u64 fa.x2, .int .u64 fa.x3, .int .u64 fa.x4], w, ?_, gb_refl _ _, rfl⟩
            clear h hb
            simp only [execOp, Act.eval, e2]
            go_simp
          refine ⟨fe3_value rfl (by decide) fun a w h => ?_, ?_⟩
          · have e41 : a.tmps.getD 41 undef = .bool true := h.dep 41 (by kernel_rfl)
            have e3 : a.tmps.getD 3 undef = .pointer (some ⟨(w0.heap.size + 1), 0, none⟩) := h.rest 3 (by kernel_rfl)
            have hb := h.base.e ((w0.heap.size + 1), fb) (by simp)
            have c0 : w.cell? ⟨(w0.heap.size + 1), 0, none⟩ = some (.int .u64 fb.x0) := hb.cell (i := 0) rfl
            have c1 : w.cell? ⟨(w0.heap.size + 1), 1, none⟩ = some (.int .u64 fb.x1) := hb.cell (i := 1) rfl
            have c2 : w.cell? ⟨(w0.heap.size + 1), 2, none⟩ = some (.int .u64 fb.x2) := hb.cell (i := 2) rfl
            have c3 : w.cell? ⟨(w0.heap.size + 1), 3, none⟩ = some (.int .u64 fb.x3) := hb.cell (i := 3) rfl
            have c4 : w.cell? ⟨(w0.heap.size + 1), 4, none⟩ = some (.int .u64 fb.x4) := hb.cell (i := 4) rfl
            refine ⟨wants_some (d := 41) rfl rfl (by rw [h.size]; show 41 < 61; decide) e41, .agg #[.int .u64 fb.x0, .int .u64 fb.x1, .int .u64 fb.x2, .int .u64 fb.x3, .int .u64 fb.x4], w, ?_, gb_refl _ _, rfl⟩
            clear h hb
            simp only [execOp, Act.eval, e3]
            go_simp
          refine ⟨fe3_call rfl (by decide) fun a w h => ?_, ?_⟩
          · have e41 : a.tmps.getD 41 undef = .bool true := h.dep 41 (by kernel_rfl)
            have e45 : a.tmps.getD 45 undef = fa.v := h.dep 45 (by kernel_rfl)
            have e45x : a.tmps[45]?.getD undef = fa.v := by simpa using e45
            have e46 : a.tmps.getD 46 undef = fb.v := h.dep 46 (by kernel_rfl)
            have e46x : a.tmps[46]?.getD undef = fb.v := by simpa using e46
            have hb := h.base
            refine ⟨wants_some (d := 41) rfl rfl (by rw [h.size]; show 41 < 61; decide) e41, 13, #[fa.v, fb.v], ?_, ?_⟩
            · clear h hb e45 e46
              go_simp
            · refine (same_val fa fb true w oka okb (HE.out)).mono ?_
              intro e w1 hp
              obtain ⟨rfl, hg⟩ := hp
              exact ⟨_, rfl, hg, rfl⟩
          refine ⟨fe3_value rfl (by decide) fun a w h => ?_, ?_⟩
          · have e41 : a.tmps.getD 41 undef = .bool true := h.dep 41 (by kernel_rfl)
            have e44 : a.tmps.getD 44 undef = .bool true := h.dep 44 (by kernel_rfl)
            have e47 : a.tmps.getD 47 undef = .bool true := h.dep 47 (by kernel_rfl)
            refine ⟨wants_some (d := 41) rfl rfl (by rw [h.size]; show 41 < 61; decide) e41, .bool true, w, ?_, gb_refl _ _, rfl⟩
            clear h
            simp only [execOp, Act.eval, e44, e47]
            go_simp
          refine ⟨fe3_value rfl (by decide) fun a w h => ?_, ?_⟩
          · have e41 : a.tmps.getD 41 undef = .bool true := h.dep 41 (by kernel_rfl)
            have e48 : a.tmps.getD 48 undef = .bool true := h.dep 48 (by kernel_rfl)
            refine ⟨wants_none rfl, .bool true, w, ?_, gb_refl _ _, rfl⟩
            clear h
            simp only [execOp, Act.eval, e41, e48]
            go_simp
          refine ⟨fe3_value rfl (by decide) fun a w h => ?_, ?_⟩
          · have e49 : a.tmps.getD 49 undef = .bool true := h.dep 49 (by kernel_rfl)
            refine ⟨wants_none rfl, .bool true, w, ?_, gb_refl _ _, rfl⟩
            clear h
            simp only [execOp, Act.eval, e49]
            go_simp
          refine ⟨fe3_value rfl (by decide) fun a w h => ?_, ?_⟩
          · have e50 : a.tmps.getD 50 undef = .bool true := h.dep 50 (by kernel_rfl)
            have e2 : a.tmps.getD 2 undef = .pointer (some ⟨w0.heap.size, 0, none⟩) := h.rest 2 (by kernel_rfl)
            have hb := h.base.e (w0.heap.size, fa) (by simp)
            have c0 : w.cell? ⟨w0.heap.size, 0, none⟩ = some (.int .u64 fa.x0) := hb.cell (i := 0) rfl
            have c1 : w.cell? ⟨w0.heap.size, 1, none⟩ = some (.int .u64 fa.x1) := hb.cell (i := 1) rfl
            have c2 : w.cell? ⟨w0.heap.size, 2, none⟩ = some (.int .u64 fa.x2) := hb.cell (i := 2) rfl
            have c3 : w.cell? ⟨w0.heap.size, 3, none⟩ = some (.int .u64 fa.x3) := hb.cell (i := 3) rfl
            have c4 : w.cell? ⟨w0.heap.size, 4, none⟩ = some (.int .u64 fa.x4) := hb.cell (i := 4) rfl
            refine ⟨wants_some (d := 50) rfl rfl (by rw [h.size]; show 50 < 61; decide) e50, .agg #[.int .u64 fa.x0, .int .u64 fa.x1, .int .u64 fa.x2, .int .u64 fa.x3, .int .u64 fa.x4], w, ?_, gb_refl _ _, rfl⟩
            clear h hb
            simp only [execOp, Act.eval, e2]
            go_simp
          refine ⟨fe3_call rfl (by decide) fun a w h => ?_, ?_⟩
          · have e50 : a.tmps.getD 50 undef = .bool true := h.dep 50 (by kernel_rfl)
            have e51 : a.tmps.getD 51 undef = fa.v := h.dep 51 (by kernel_rfl)
            have e51x : a.tmps[51]?.getD undef = fa.v := by simpa using e51
            have hb := h.base
            refine ⟨wants_some (d := 50) rfl rfl (by rw [h.size]; show 50 < 61; decide) e50, 24, #[fa.v], ?_, ?_⟩
            · clear h hb e51
              go_simp
            · refine (zero_val fa false w oka (HZ.out)).mono ?_
              intro e w1 hp
              obtain ⟨rfl, hg⟩ := hp
              exact ⟨_, rfl, hg, rfl⟩
          refine ⟨fe3_value rfl (by decide) fun a w h => ?_, ?_⟩
          · have e50 : a.tmps.getD 50 undef = .bool true := h.dep 50 (by kernel_rfl)
            have e2 : a.tmps.getD 2 undef = .pointer (some ⟨w0.heap.size, 0, none⟩) := h.rest 2 (by kernel_rfl)
            have hb := h.base.e (w0.heap.size, fa) (by simp)
            have c0 : w.cell? ⟨w0.heap.size, 0, none⟩ = some (.int .u64 fa.x0) := hb.cell (i := 0) rfl
            have c1 : w.cell? ⟨w0.heap.size, 1, none⟩ = some (.int .u64 fa.x1) := hb.cell (i := 1) rfl
            have c2 : w.cell? ⟨w0.heap.size, 2, none⟩ = some (.int .u64 fa.x2) := hb.cell (i := 2) rfl
            have c3 : w.cell? ⟨w0.heap.size, 3, none⟩ = some (.int .u64 fa.x3) := hb.cell (i := 3) rfl
            have c4 : w.cell? ⟨w0.heap.size, 4, none⟩ = some (.int .u64 fa.x4) := hb.cell (i := 4) rfl
            refine ⟨wants_some (d := 50) rfl rfl (by rw [h.size]; show 50 < 61; decide) e50, .agg #[.int .u64 fa.x0, .int .u64 fa.x1, .int .u64 fa.x2, .int .u64 fa.x3, .int .u64 fa.x4], w, ?_, gb_refl _ _, rfl⟩
            clear h hb
            simp only [execOp, Act.eval, e2]
            go_simp
          refine ⟨fe3_call rfl (by decide) fun a w h => ?_, ?_⟩
          · have e50 : a.tmps.getD 50 undef = .bool true := h.dep 50 (by kernel_rfl)
            have e53 : a.tmps.getD 53 undef = fa.v := h.dep 53 (by kernel_rfl)
            have e53x : a.tmps[53]?.getD undef = fa.v := by simpa using e53
            have hb := h.base
            refine ⟨wants_some (d := 50) rfl rfl (by rw [h.size]; show 50 < 61; decide) e50, 25, #[fa.v], ?_, ?_⟩
            · clear h hb e53
              go_simp
            · refine (odd_val fa false w oka (HO.out)).mono ?_
              intro e w1 hp
              obtain ⟨rfl, hg⟩ := hp
              exact ⟨_, rfl, hg, rfl⟩
          refine ⟨fe3_value rfl (by decide) fun a w h => ?_, ?_⟩
          · have e50 : a.tmps.getD 50 undef = .bool true := h.dep 50 (by kernel_rfl)
            have e2 : a.tmps.getD 2 undef = .pointer (some ⟨w0.heap.size, 0, none⟩) := h.rest 2 (by kernel_rfl)
            have hb := h.base.e (w0.heap.size, fa) (by simp)
            have c0 : w.cell? ⟨w0.heap.size, 0, none⟩ = some (.int .u64 fa.x0) := hb.cell (i := 0) rfl
            have c1 : w.cell? ⟨w0.heap.size, 1, none⟩ = some (.int .u64 fa.x1) := hb.cell (i := 1) rfl
            have c2 : w.cell? ⟨w0.heap.size, 2, none⟩ = some (.int .u64 fa.x2) := hb.cell (i := 2) rfl
            have c3 : w.cell? ⟨w0.heap.size, 3, none⟩ = some (.int .u64 fa.x3) := hb.cell (i := 3) rfl
            have c4 : w.cell? ⟨w0.heap.size, 4, none⟩ = some (.int .u64 fa.x4) := hb.cell (i := 4) rfl
            refine ⟨wants_some (d := 50) rfl rfl (by rw [h.size]; show 50 < 61; decide) e50, .agg #[.int .u64 fa.x0, .int .u64 fa.x1, .int .u64 fa.x2, .int .u64 fa.x3, .int .u64 fa.x4], w, ?_, gb_refl _ _, rfl⟩
            clear h hb
            simp only [execOp, Act.eval, e2]
            go_simp
          refine ⟨fe3_call rfl (by decide) fun a w h => ?_, ?_⟩
          · have e50 : a.tmps.getD 50 undef = .bool true := h.dep 50 (by kernel_rfl)
            have e55 : a.tmps.getD 55 undef = fa.v := h.dep 55 (by kernel_rfl)
            have e55x : a.tmps[55]?.getD undef = fa.v := by simpa using e55
            have hb := h.base
            refine ⟨wants_some (d := 50) rfl rfl (by rw [h.size]; show 50 < 61; decide) e50, 14, #[fa.v], ?_, ?_⟩
            · clear h hb e55
              go_simp
            · refine (neg_any fa w (HT7.out.grown hb.g) oka).mono ?_
              intro e w1 hp
              obtain ⟨rfl, hg⟩ := feOut_is hp
              exact ⟨_, rfl, hg, rfl⟩
          refine ⟨fe3_call rfl (by decide) fun a w h => ?_, ?_⟩
          · have e50 : a.tmps.getD 50 undef = .bool true := h.dep 50 (by kernel_rfl)
            have e56 : a.tmps.getD 56 undef = (Fe.negF fa).v := h.dep 56 (by kernel_rfl)
            have e56x : a.tmps[56]?.getD undef = (Fe.negF fa).v := by simpa using e56
            have hb := h.base
            refine ⟨wants_some (d := 50) rfl rfl (by rw [h.size]; show 50 < 61; decide) e50, 25, #[(Fe.negF fa).v], ?_, ?_⟩
            · clear h hb e56
              go_simp
            · refine (odd_val (Fe.negF fa) true w (Fe.neg_right _).ok (HN.out)).mono ?_
              intro e w1 hp
              obtain ⟨rfl, hg⟩ := hp
              exact ⟨_, rfl, hg, rfl⟩
          refine ⟨fe3_value rfl (by decide) fun a w h => ?_, ?_⟩
          · have e50 : a.tmps.getD 50 undef = .bool true := h.dep 50 (by kernel_rfl)
            have e54 : a.tmps.getD 54 undef = .bool false := h.dep 54 (by kernel_rfl)
            have e57 : a.tmps.getD 57 undef = .bool true := h.dep 57 (by kernel_rfl)
            refine ⟨wants_some (d := 50) rfl rfl (by rw [h.size]; show 50 < 61; decide) e50, .bool false, w, ?_, gb_refl _ _, rfl⟩
            clear h
            simp only [execOp, Act.eval, e54, e57]
            go_simp
          refine ⟨fe3_value rfl (by decide) fun a w h => ?_, ?_⟩
          · have e50 : a.tmps.getD 50 undef = .bool true := h.dep 50 (by kernel_rfl)
            have e52 : a.tmps.getD 52 undef = .bool false := h.dep 52 (by kernel_rfl)
            have e58 : a.tmps.getD 58 undef = .bool false := h.dep 58 (by kernel_rfl)
            refine ⟨wants_some (d := 50) rfl rfl (by rw [h.size]; show 50 < 61; decide) e50, .bool true, w, ?_, gb_refl _ _, rfl⟩
            clear h
            simp only [execOp, Act.eval, e52, e58]
            go_simp
          refine ⟨fe3_value rfl (by decide) fun a w h => ?_, ?_⟩
          · have e50 : a.tmps.getD 50 undef = .bool true := h.dep 50 (by kernel_rfl)
            have e59 : a.tmps.getD 59 undef = .bool true := h.dep 59 (by kernel_rfl)
            refine ⟨wants_none rfl, .bool true, w, ?_, gb_refl _ _, rfl⟩
            clear h
            simp only [execOp, Act.eval, e50, e59]
            go_simp
          refine ⟨fe3_value rfl (by decide) fun a w h => ?_, ?_⟩
          · have e60 : a.tmps.getD 60 undef = .bool true := h.dep 60 (by kernel_rfl)
            refine ⟨wants_none rfl, .bool true, w, ?_, gb_refl _ _, rfl⟩
            clear h
            simp only [execOp, Act.eval, e60]
            go_simp
          trivial
        · intro q w hB hsz hdf hrest hslots hmems
          have e4 : q.tmps.getD 4 undef = .bool true := hslots 4 (by kernel_rfl)
          have G := gb_trans G7 hB.g
          replace hdf : q.defers = [] := hdf
          clear hB hsz hrest hslots hmems
          have e4x : q.tmps[4]?.getD undef = .bool true := by simpa using e4
          go_wp2_with fail
          refine bodyPost_ret (v := .bool true) ?_ hdf ⟨rfl, G⟩
          simp [results, Tryd.results6, go_sem, e4x]
end Go.Proofs.YthjakoifbahkcaaDoor
