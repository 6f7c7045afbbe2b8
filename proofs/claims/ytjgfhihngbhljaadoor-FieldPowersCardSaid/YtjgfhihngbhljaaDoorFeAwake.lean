/- field: the law's awake. -/
import Derived.Test.YtjgfhihngbhljaaDoorFeMath
import Derived.Test.YtjgfhihngbhljaaDoorFeFlow3
import Derived.Test.YtjgfhihngbhljaaDoorFeKit
import Derived.Test.YtjgfhihngbhljaaDoorFeVals
namespace Go.Proofs.YtjgfhihngbhljaaDoor
open Go.RowKit

theorem sameBytes_val (A B : Nat) (S T : TypeId) (x y : Int) (b : Bool) (w : World) (hA : Blk w A S (bytesV x)) (hB : Blk w B T (bytesV y)) (h : ((0 ≤ x ∧ x < 2 ^ 256) ∧ 0 ≤ y ∧ y < 2 ^ 256) ∧ decide (x = y) = b) :
    Calls Tryd.prog 35 #[.slice (some ⟨A, 0, none⟩) 32 32, .slice (some ⟨B, 0, none⟩) 32 32] w fun e w' => e = .returned (.bool b) ∧ w.grownBy w' none := by
  rw [← h.2]; exact sameBytes_any A B S T x y w h.1.1.1 h.1.2.1 h.1.1.2 h.1.2.2 hA hB
theorem edge_m1 (w : World) : Calls Tryd.prog 33 #[.int .i64 (-1)] w fun e w' => ∃ NB, e = .returned (.slice (some ⟨NB, 0, none⟩) 32 32) ∧ w.grownBy w' none ∧ w.heap.size ≤ NB ∧ Blk w' NB 5 (bytesV 57896044618658097711785492504343953926634992332820282019728792003956564819948) := by
  rw [← edge_p1]; exact edge_any (-1) w (by decide) (by decide)
theorem edge_0 (w : World) : Calls Tryd.prog 33 #[.int .i64 0] w fun e w' => ∃ NB, e = .returned (.slice (some ⟨NB, 0, none⟩) 32 32) ∧ w.grownBy w' none ∧ w.heap.size ≤ NB ∧ Blk w' NB 5 (bytesV 57896044618658097711785492504343953926634992332820282019728792003956564819949) := by
  rw [← edge_p]; exact edge_any 0 w (by decide) (by decide)
theorem small2 (w : World) : Calls Tryd.prog 34 #[.int .u64 2] w (FeOut fe2 w) := small_any 2 w
theorem small4 (w : World) : Calls Tryd.prog 34 #[.int .u64 4] w (FeOut fe4 w) := small_any 4 w
theorem only_store {ops : Array Oper} {i j : Nat} {oj : Oper} (h : ((List.range ops.size).all fun k => k == i || ((ops[k]?).map fun o => o.dst.isSome).getD true) = true) (hj : j ≠ i) (hoj : ops[j]? = some oj) : oj.dst ≠ none := by
  have hlt : j < ops.size := by
    rcases Nat.lt_or_ge j ops.size with h' | h'
    · exact h'
    · rw [Array.getElem?_eq_none h'] at hoj; cases hoj
  have := (List.all_eq_true.1 h) j (List.mem_range.2 hlt)
  rw [hoj] at this
  simp [hj] at this
  intro e; rw [e] at this; simp at this
theorem two_stores {ops : Array Oper} {i j p : Nat} {st : Nat → Nat} {ps : List Nat} {oj : Oper} (h : ((List.range ops.size).all fun k => k == i || ((ops[k]?).map fun o => o.dst.isSome || (ps.contains (st k) && st k != p)).getD true) = true) (hj : j ≠ i) (hoj : ops[j]? = some oj) (hn : oj.dst = none) : st j ∈ ps ∧ st j ≠ p := by
  have hlt : j < ops.size := by
    rcases Nat.lt_or_ge j ops.size with h' | h'
    · exact h'
    · rw [Array.getElem?_eq_none h'] at hoj; cases hoj
  have := (List.all_eq_true.1 h) j (List.mem_range.2 hlt)
  rw [hoj] at this
  simpa [hj, hn] using this
set_option maxRecDepth 100000 in
set_option maxHeartbeats 3200000 in
theorem awake_any (w0 : World) (hT : FTab w0) : Calls Tryd.prog 13 #[] w0 fun e w' => e = .returned (.bool true) ∧ w0.grownBy w' none := by
  have HT := Lib.hid hT; clear hT
  go_enter Tryd.func13, Tryd.ntmps13
  go_wp2_with fail
  refine (edge_0 _).mono ?_
  rintro e v1 ⟨NB, rfl, hg1, hNB, hb⟩
  go_wp2_with fail
  refine (get_no NB _ _ _ (by decide) (by decide) (by decide) hb).mono ?_
  rintro e v2 ⟨z, hz, rfl, hg2⟩
  have G2 := gb_trans hg1 hg2
  go_wp2_with fail
  refine (small4 _).mono ?_
  rintro e v3 ⟨s4, hs4, rfl, hg3⟩
  have G3 := gb_trans (gb_alloc G2 _) hg3
  go_wp2_with fail
  refine (one_any _).mono ?_
  rintro e v4 ⟨o1, ho1, rfl, hg4⟩
  have G4 := gb_trans G3 hg4
  have oks4 : s4.Ok := by rw [hs4.out]; exact fe4_right.ok
  have oko1 : o1.Ok := by rw [ho1.out]; exact one_right.ok
  go_wp2_with fail
  have hr4 := root_all s4 o1 v4 (HT.out.grown G4) oks4 oko1
  rw [hs4.out, ho1.out, root4] at hr4
  rw [hs4.out, ho1.out]
  refine hr4.mono ?_
  rintro e v5 ⟨q4, hq4, rfl, hg5⟩
  have okq4 : q4.Ok := by rw [hq4]; exact (root_says one_right root4).1.ok
  have H4 : Hid (Fe.m q4 = 2) := Lib.hid (by rw [hq4]; exact root4_m)
  clear hr4 hq4 hs4 ho1 hb
  have G5 := gb_trans G4 hg5
  go_wp2_with fail
  refine (small2 _).mono ?_
  rintro e v6 ⟨s2, hs2, rfl, hg6⟩
  have G6 := gb_trans (gb_alloc G5 _) hg6
  go_wp2_with fail
  refine (one_any _).mono ?_
  rintro e v7 ⟨o2, ho2, rfl, hg7⟩
  have G7 := gb_trans G6 hg7
  have oks2 : s2.Ok := by rw [hs2.out]; exact fe2_right.ok
  have oko2 : o2.Ok := by rw [ho2.out]; exact one_right.ok
  have hq := (Blk.new v5 (feL q4) 24).grown (gb_trans hg6 hg7) (by simp)
  go_wp2_with fail
  have hr2 := root_all s2 o2 v7 (HT.out.grown G7) oks2 oko2
  rw [hs2.out, ho2.out, root2] at hr2
  rw [hs2.out, ho2.out]
  refine hr2.mono ?_
  rintro e v8 ⟨q2, _, rfl, hg8⟩
  clear hr2 hs2 ho2
  have G8 := gb_trans G7 hg8
  have hq8 := hq.grown hg8 (by simp)
  go_wp2_with fail
  have hB0 : EnvB w0 (v5.heap.size + 1) [(v5.heap.size, q4)] [] (v8.alloc (.cells #[.int .u64 q2.x0, .int .u64 q2.x1, .int .u64 q2.x2, .int .u64 q2.x3, .int .u64 q2.x4] 24)) :=
    ⟨gb_alloc G8 _, by
      intro p hp
      simp only [List.mem_cons, List.not_mem_nil, or_false] at hp
      rcases hp with rfl
      exact hq8.alloc _, by simp, by intro p hp; simp only [List.mem_cons, List.not_mem_nil, or_false] at hp; rcases hp with rfl; exact Nat.lt_succ_self _, by
      have h1 := (gb_trans (gb_trans hg6 hg7) hg8).size
      simp at h1 ⊢
      omega, by have := G5.size; omega⟩
  clear hq8 hq hg1 hg2 hg3 hg4 hg5 hg6 hg7 hg8 G2 G3 G4 G5 G6 G7 G8 hNB oks2 oko2 oks4 oko1 hz
  refine wp_region_flow3 (items3 (Okb w0 [(v5.heap.size, q4)]) [.val (.bool true), .any, .any, .any, .any, .any, .any, .any, .any, .any, .any, .any, .any, .any, .any, .any, .any, .any, .any, .any, .any, .any, .any, .any, .val (Fe.oneF.v), .val ((Fe.negF Fe.oneF).v), .bytes ((Fe.m (Fe.negF Fe.oneF) : Int)), .bytes ((57896044618658097711785492504343953926634992332820282019728792003956564819948 : Int)), .val (.bool true), .val (.bool true), .val (.bool false), .val (.bool true), .val (.bool true), .val (.bool true), .val (.bool true), .val (.bool true), .val (.bool true), .val (q4.v), .val (fe2.v), .val (.bool true), .val (.bool true), .val (.bool true), .val (.bool false), .val (.bool true), .val (.bool true), .val (.bool true), .val (Fe.zeroF.v), .val ((invF Fe.zeroF).v), .val (.bool true), .val (.bool true)]) (fun j =>  0) (Stored3 (Okb w0 [(v5.heap.size, q4)]) (fun j =>  Fe.zeroF)) (EnvB w0 (v5.heap.size + 1) [(v5.heap.size, q4)] []) [] (by kernel_rfl) (by kernel_rfl) (by kernel_rfl) (hB0.grown (gb_drewn _)) (fun s hs => by cases hs) (by kernel_rfl) ?_ ?_
  · refine ⟨fe3_call rfl (by decide) fun a w h => ?_, ?_⟩
    · have hb := h.base
      refine ⟨wants_none rfl, 19, #[], ?_, ?_⟩
      · clear h hb
        go_simp
      · refine (one_any w).mono ?_
        intro e w1 hp
        obtain ⟨rfl, hg⟩ := feOut_is hp
        exact ⟨_, rfl, hg, rfl⟩
    refine ⟨fe3_call rfl (by decide) fun a w h => ?_, ?_⟩
    · have e24 : a.tmps.getD 24 undef = Fe.oneF.v := h.dep 24 (by kernel_rfl)
      have e24x : a.tmps[24]?.getD undef = Fe.oneF.v := by simpa using e24
      have hb := h.base
      refine ⟨wants_none rfl, 11, #[Fe.oneF.v], ?_, ?_⟩
      · clear h hb e24
        go_simp
      · refine (neg_any Fe.oneF w (HT.out.grown hb.g) one_right.ok).mono ?_
        intro e w1 hp
        obtain ⟨rfl, hg⟩ := feOut_is hp
        exact ⟨_, rfl, hg, rfl⟩
    refine ⟨fe3_call rfl (by decide) fun a w h => ?_, ?_⟩
    · have e25 : a.tmps.getD 25 undef = (Fe.negF Fe.oneF).v := h.dep 25 (by kernel_rfl)
      have e25x : a.tmps[25]?.getD undef = (Fe.negF Fe.oneF).v := by simpa using e25
      have hb := h.base
      refine ⟨wants_none rfl, 6, #[(Fe.negF Fe.oneF).v], ?_, ?_⟩
      · clear h hb e25
        go_simp
      · refine (put_any (Fe.negF Fe.oneF) w (Fe.neg_right _).ok).mono ?_
        intro e w1 hp
        obtain ⟨NB, rfl, hg, _, hbb⟩ := hp
        exact ⟨_, rfl, hg, ⟨NB, rfl, _, hbb⟩⟩
    refine ⟨fe3_call rfl (by decide) fun a w h => ?_, ?_⟩
    · have hb := h.base
      refine ⟨wants_none rfl, 33, #[.int .i64 (-1)], ?_, ?_⟩
      · clear h hb
        go_simp
      · refine (edge_m1 w).mono ?_
        intro e w1 hp
        obtain ⟨NB, rfl, hg, _, hbb⟩ := hp
        exact ⟨_, rfl, hg, ⟨NB, rfl, _, hbb⟩⟩
    refine ⟨fe3_call rfl (by decide) fun a w h => ?_, ?_⟩
    · obtain ⟨B26, e26, T26, b26⟩ : ∃ NB, a.tmps.getD 26 undef = .slice (some ⟨NB, 0, none⟩) 32 32 ∧ ∃ T, Blk w NB T (bytesV ((Fe.m (Fe.negF Fe.oneF) : Int))) := h.dep 26 (by kernel_rfl)
      have e26x : a.tmps[26]?.getD undef = .slice (some ⟨B26, 0, none⟩) 32 32 := by simpa using e26
      obtain ⟨B27, e27, T27, b27⟩ : ∃ NB, a.tmps.getD 27 undef = .slice (some ⟨NB, 0, none⟩) 32 32 ∧ ∃ T, Blk w NB T (bytesV ((57896044618658097711785492504343953926634992332820282019728792003956564819948 : Int))) := h.dep 27 (by kernel_rfl)
      have e27x : a.tmps[27]?.getD undef = .slice (some ⟨B27, 0, none⟩) 32 32 := by simpa using e27
      have hb := h.base
      refine ⟨wants_none rfl, 35, #[.slice (some ⟨B26, 0, none⟩) 32 32, .slice (some ⟨B27, 0, none⟩) 32 32], ?_, ?_⟩
      · clear h hb e26 e27 b26 b27
        go_simp
      · refine (sameBytes_val _ _ _ _ _ _ true w b26 b27 (by rw [negone_m]; decide +kernel)).mono ?_
        intro e w1 hp
        obtain ⟨rfl, hg⟩ := hp
        exact ⟨_, rfl, hg, rfl⟩
    refine ⟨fe3_value rfl (by decide) fun a w h => ?_, ?_⟩
    · have e28 : a.tmps.getD 28 undef = .bool true := h.dep 28 (by kernel_rfl)
      refine ⟨wants_none rfl, .bool true, w, ?_, gb_refl _ _, rfl⟩
      clear h
      simp only [execOp, Act.eval, e28]
      go_simp
    refine ⟨fe3_value rfl (by decide) fun a w h => ?_, ?_⟩
    · have e29 : a.tmps.getD 29 undef = .bool true := h.dep 29 (by kernel_rfl)
      have e2 : a.tmps.getD 2 undef = .bool false := h.rest 2 (by kernel_rfl)
      refine ⟨wants_some (d := 29) rfl rfl (by rw [h.size]; show 29 < 50; decide) e29, .bool false, w, ?_, gb_refl _ _, rfl⟩
      clear h
      simp only [execOp, Act.eval, e2]
      go_simp
    refine ⟨fe3_value rfl (by decide) fun a w h => ?_, ?_⟩
    · have e29 : a.tmps.getD 29 undef = .bool true := h.dep 29 (by kernel_rfl)
      have e30 : a.tmps.getD 30 undef = .bool false := h.dep 30 (by kernel_rfl)
      refine ⟨wants_some (d := 29) rfl rfl (by rw [h.size]; show 29 < 50; decide) e29, .bool true, w, ?_, gb_refl _ _, rfl⟩
      clear h
      simp only [execOp, Act.eval, e30]
      go_simp
    refine ⟨fe3_value rfl (by decide) fun a w h => ?_, ?_⟩
    · have e29 : a.tmps.getD 29 undef = .bool true := h.dep 29 (by kernel_rfl)
      have e31 : a.tmps.getD 31 undef = .bool true := h.dep 31 (by kernel_rfl)
      refine ⟨wants_none rfl, .bool true, w, ?_, gb_refl _ _, rfl⟩
      clear h
      simp only [execOp, Act.eval, e29, e31]
      go_simp
    refine ⟨fe3_value rfl (by decide) fun a w h => ?_, ?_⟩
    · have e32 : a.tmps.getD 32 undef = .bool true := h.dep 32 (by kernel_rfl)
      refine ⟨wants_none rfl, .bool true, w, ?_, gb_refl _ _, rfl⟩
      clear h
      simp only [execOp, Act.eval, e32]
      go_simp
    refine ⟨fe3_value rfl (by decide) fun a w h => ?_, ?_⟩
    · have e33 : a.tmps.getD 33 undef = .bool true := h.dep 33 (by kernel_rfl)
      have e4 : a.tmps.getD 4 undef = .bool true := h.rest 4 (by kernel_rfl)
      refine ⟨wants_some (d := 33) rfl rfl (by rw [h.size]; show 33 < 50; decide) e33, .bool true, w, ?_, gb_refl _ _, rfl⟩
      clear h
      simp only [execOp, Act.eval, e4]
      go_simp
    refine ⟨fe3_value rfl (by decide) fun a w h => ?_, ?_⟩
    · have e33 : a.tmps.getD 33 undef = .bool true := h.dep 33 (by kernel_rfl)
      have e34 : a.tmps.getD 34 undef = .bool true := h.dep 34 (by kernel_rfl)
      refine ⟨wants_none rfl, .bool true, w, ?_, gb_refl _ _, rfl⟩
      clear h
      simp only [execOp, Act.eval, e33, e34]
      go_simp
    refine ⟨fe3_value rfl (by decide) fun a w h => ?_, ?_⟩
    · have e35 : a.tmps.getD 35 undef = .bool true := h.dep 35 (by kernel_rfl)
      refine ⟨wants_none rfl, .bool true, w, ?_, gb_refl _ _, rfl⟩
      clear h
      simp only [execOp, Act.eval, e35]
      go_simp
    refine ⟨fe3_value rfl (by decide) fun a w h => ?_, ?_⟩
    · have e36 : a.tmps.getD 36 undef = .bool true := h.dep 36 (by kernel_rfl)
      have e3 : a.tmps.getD 3 undef = .pointer (some ⟨v5.heap.size, 0, none⟩) := h.rest 3 (by kernel_rfl)
      have hb := h.base.e (v5.heap.size, q4) (by simp)
      have c0 : w.cell? ⟨v5.heap.size, 0, none⟩ = some (.int .u64 q4.x0) := hb.cell (i := 0) rfl
      have c1 : w.cell? ⟨v5.heap.size, 1, none⟩ = some (.int .u64 q4.x1) := hb.cell (i := 1) rfl
      have c2 : w.cell? ⟨v5.heap.size, 2, none⟩ = some (.int .u64 q4.x2) := hb.cell (i := 2) rfl
      have c3 : w.cell? ⟨v5.heap.size, 3, none⟩ = some (.int .u64 q4.x3) := hb.cell (i := 3) rfl
      have c4 : w.cell? ⟨v5.heap.size, 4, none⟩ = some (.int .u64 q4.x4) := hb.cell (i := 4) rfl
      refine ⟨wants_some (d := 36) rfl rfl (by rw [h.size]; show 36 < 50; decide) e36, .agg #[.int .u64 q4.x0, .int .u64 q4.x1, .int .u64 q4.x2, .int .u64 q4.x3, .int .u64 q4.x4], w, ?_, gb_refl _ _, rfl⟩
      clear h hb
      simp only [execOp, Act.eval, e3]
      go_simp
    refine ⟨fe3_call rfl (by decide) fun a w h => ?_, ?_⟩
    · have e36 : a.tmps.getD 36 undef = .bool true := h.dep 36 (by kernel_rfl)
      have hb := h.base
      refine ⟨wants_some (d := 36) rfl rfl (by rw [h.size]; show 36 < 50; decide) e36, 34, #[.int .u64 2], ?_, ?_⟩
      · clear h hb
        go_simp
      · refine (small2 w).mono ?_
        intro e w1 hp
        obtain ⟨rfl, hg⟩ := feOut_is hp
        exact ⟨_, rfl, hg, rfl⟩
    refine ⟨fe3_call rfl (by decide) fun a w h => ?_, ?_⟩
    · have e36 : a.tmps.getD 36 undef = .bool true := h.dep 36 (by kernel_rfl)
      have e37 : a.tmps.getD 37 undef = q4.v := h.dep 37 (by kernel_rfl)
      have e37x : a.tmps[37]?.getD undef = q4.v := by simpa using e37
      have e38 : a.tmps.getD 38 undef = fe2.v := h.dep 38 (by kernel_rfl)
      have e38x : a.tmps[38]?.getD undef = fe2.v := by simpa using e38
      have hb := h.base
      refine ⟨wants_some (d := 36) rfl rfl (by rw [h.size]; show 36 < 50; decide) e36, 10, #[q4.v, fe2.v], ?_, ?_⟩
      · clear h hb e37 e38
        go_simp
      · refine (same_val q4 fe2 true w okq4 fe2_right.ok (by rw [H4.out, fe2_m]; decide)).mono ?_
        intro e w1 hp
        obtain ⟨rfl, hg⟩ := hp
        exact ⟨_, rfl, hg, rfl⟩
    refine ⟨fe3_value rfl (by decide) fun a w h => ?_, ?_⟩
    · have e36 : a.tmps.getD 36 undef = .bool true := h.dep 36 (by kernel_rfl)
      have e39 : a.tmps.getD 39 undef = .bool true := h.dep 39 (by kernel_rfl)
      refine ⟨wants_none rfl, .bool true, w, ?_, gb_refl _ _, rfl⟩
      clear h
      simp only [execOp, Act.eval, e36, e39]
      go_simp
    refine ⟨fe3_value rfl (by decide) fun a w h => ?_, ?_⟩
    · have e40 : a.tmps.getD 40 undef = .bool true := h.dep 40 (by kernel_rfl)
      refine ⟨wants_none rfl, .bool true, w, ?_, gb_refl _ _, rfl⟩
      clear h
      simp only [execOp, Act.eval, e40]
      go_simp
    refine ⟨fe3_value rfl (by decide) fun a w h => ?_, ?_⟩
    · have e41 : a.tmps.getD 41 undef = .bool true := h.dep 41 (by kernel_rfl)
      have e6 : a.tmps.getD 6 undef = .bool false := h.rest 6 (by kernel_rfl)
      refine ⟨wants_some (d := 41) rfl rfl (by rw [h.size]; show 41 < 50; decide) e41, .bool false, w, ?_, gb_refl _ _, rfl⟩
      clear h
      simp only [execOp, Act.eval, e6]
      go_simp
    refine ⟨fe3_value rfl (by decide) fun a w h => ?_, ?_⟩
    · have e41 : a.tmps.getD 41 undef = .bool true := h.dep 41 (by kernel_rfl)
      have e42 : a.tmps.getD 42 undef = .bool false := h.dep 42 (by kernel_rfl)
      refine ⟨wants_some (d := 41) rfl rfl (by rw [h.size]; show 41 < 50; decide) e41, .bool true, w, ?_, gb_refl _ _, rfl⟩
      clear h
      simp only [execOp, Act.eval, e42]
      go_simp
    refine ⟨fe3_value rfl (by decide) fun a w h => ?_, ?_⟩
    · have e41 : a.tmps.getD 41 undef = .bool true := h.dep 41 (by kernel_rfl)
      have e43 : a.tmps.getD 43 undef = .bool true := h.dep 43 (by kernel_rfl)
      refine ⟨wants_none rfl, .bool true, w, ?_, gb_refl _ _, rfl⟩
      clear h
      simp only [execOp, Act.eval, e41, e43]
      go_simp
    refine ⟨fe3_value rfl (by decide) fun a w h => ?_, ?_⟩
    · have e44 : a.tmps.getD 44 undef = .bool true := h.dep 44 (by kernel_rfl)
      refine ⟨wants_none rfl, .bool true, w, ?_, gb_refl _ _, rfl⟩
      clear h
      simp only [execOp, Act.eval, e44]
      go_simp
    refine ⟨fe3_value rfl (by decide) fun a w h => ?_, ?_⟩
    · have e45 : a.tmps.getD 45 undef = .bool true := h.dep 45 (by kernel_rfl)
      refine ⟨wants_some (d := 45) rfl rfl (by rw [h.size]; show 45 < 50; decide) e45, .agg #[.int .u64 0, .int .u64 0, .int .u64 0, .int .u64 0, .int .u64 0], w, ?_, gb_refl _ _, rfl⟩
      clear h
      go_simp
    refine ⟨fe3_call rfl (by decide) fun a w h => ?_, ?_⟩
    · have e45 : a.tmps.getD 45 undef = .bool true := h.dep 45 (by kernel_rfl)
      have e46 : a.tmps.getD 46 undef = Fe.zeroF.v := h.dep 46 (by kernel_rfl)
      have e46x : a.tmps[46]?.getD undef = Fe.zeroF.v := by simpa using e46
      have hb := h.base
      refine ⟨wants_some (d := 45) rfl rfl (by rw [h.size]; show 45 < 50; decide) e45, 24, #[Fe.zeroF.v], ?_, ?_⟩
      · clear h hb e46
        go_simp
      · refine (invert_any Fe.zeroF w zero_right.ok).mono ?_
        intro e w1 hp
        obtain ⟨rfl, hg⟩ := feOut_is hp
        exact ⟨_, rfl, hg, rfl⟩
    refine ⟨fe3_call rfl (by decide) fun a w h => ?_, ?_⟩
    · have e45 : a.tmps.getD 45 undef = .bool true := h.dep 45 (by kernel_rfl)
      have e47 : a.tmps.getD 47 undef = (invF Fe.zeroF).v := h.dep 47 (by kernel_rfl)
      have e47x : a.tmps[47]?.getD undef = (invF Fe.zeroF).v := by simpa using e47
      have hb := h.base
      refine ⟨wants_some (d := 45) rfl rfl (by rw [h.size]; show 45 < 50; decide) e45, 21, #[(invF Fe.zeroF).v], ?_, ?_⟩
      · clear h hb e47
        go_simp
      · refine (zero_val (invF Fe.zeroF) true w (inv_right _).ok (by rw [inv0_m]; decide)).mono ?_
        intro e w1 hp
        obtain ⟨rfl, hg⟩ := hp
        exact ⟨_, rfl, hg, rfl⟩
    refine ⟨fe3_value rfl (by decide) fun a w h => ?_, ?_⟩
    · have e45 : a.tmps.getD 45 undef = .bool true := h.dep 45 (by kernel_rfl)
      have e48 : a.tmps.getD 48 undef = .bool true := h.dep 48 (by kernel_rfl)
      refine ⟨wants_none rfl, .bool true, w, ?_, gb_refl _ _, rfl⟩
      clear h
      simp only [execOp, Act.eval, e45, e48]
      go_simp
    refine ⟨fe3_value rfl (by decide) fun a w h => ?_, ?_⟩
    · have e49 : a.tmps.getD 49 undef = .bool true := h.dep 49 (by kernel_rfl)
      refine ⟨wants_none rfl, .bool true, w, ?_, gb_refl _ _, rfl⟩
      clear h
      simp only [execOp, Act.eval, e49]
      go_simp
    trivial
  · intro a w hB hsz hdf hrest hslots hmems
    have e0 : a.tmps.getD 0 undef = .bool true := hslots 0 (by kernel_rfl)
    have G := hB.g
    replace hdf : a.defers = [] := hdf
    clear hB hsz hrest hslots hmems
    have e0x : a.tmps[0]?.getD undef = .bool true := by simpa using e0
    go_wp2_with fail
    refine bodyPost_ret (v := .bool true) ?_ hdf ⟨rfl, G⟩
    simp [results, Tryd.results13, go_sem, e0x]
end Go.Proofs.YtjgfhihngbhljaaDoor
