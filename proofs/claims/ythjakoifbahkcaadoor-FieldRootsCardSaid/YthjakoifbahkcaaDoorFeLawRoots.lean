/- field: FieldRoots, walked. -/
import Derived.Test.YthjakoifbahkcaaDoorFeLawRing
import Derived.Test.YthjakoifbahkcaaDoorFeLawBytes
import Derived.Test.YthjakoifbahkcaaDoorFeRootsM
namespace Go.Proofs.YthjakoifbahkcaaDoor
open Go.RowKit
theorem rootS_ok (x : Fe) : (rootF x Fe.oneF).1.Ok := by
  by_cases h : (rootF x Fe.oneF).2 = true
  · exact (root_says one_right h).1.ok
  · unfold rootF at h ⊢
    by_cases h1 : fitsF (guessF x Fe.oneF) x Fe.oneF = true
    · rw [if_pos h1] at h; exact absurd rfl h
    · rw [if_neg h1] at h ⊢
      by_cases h2 : fitsF (Fe.mulF (guessF x Fe.oneF) rootI) x Fe.oneF = true
      · rw [if_pos h2] at h; exact absurd rfl h
      · rw [if_neg h2]; exact zero_right.ok
set_option maxRecDepth 100000 in
set_option maxHeartbeats 12800000 in
theorem roots_walk (fa fv : Fe) (w0 : World) (hT : FTab w0) (okfa : fa.Ok) (okfv : fv.Ok) : Calls Tryd.prog 7 #[.agg #[.int .u64 fa.x0, .int .u64 fa.x1, .int .u64 fa.x2, .int .u64 fa.x3, .int .u64 fa.x4], .agg #[.int .u64 fv.x0, .int .u64 fv.x1, .int .u64 fv.x2, .int .u64 fv.x3, .int .u64 fv.x4]] w0 fun e w' => e = .returned (.bool true) ∧ w0.grownBy w' none := by
  have HT := Lib.hid hT; clear hT
  go_enter Tryd.func7, Tryd.ntmps7
  go_wp2_with fail
  have G1 : w0.grownBy ((w0.alloc (.cells #[.int .u64 fa.x0, .int .u64 fa.x1, .int .u64 fa.x2, .int .u64 fa.x3, .int .u64 fa.x4] 24)).alloc (.cells #[.int .u64 fv.x0, .int .u64 fv.x1, .int .u64 fv.x2, .int .u64 fv.x3, .int .u64 fv.x4] 24)) none := gb_alloc (gb_alloc (gb_refl _ _) _) _
  have hfa : Blk ((w0.alloc (.cells #[.int .u64 fa.x0, .int .u64 fa.x1, .int .u64 fa.x2, .int .u64 fa.x3, .int .u64 fa.x4] 24)).alloc (.cells #[.int .u64 fv.x0, .int .u64 fv.x1, .int .u64 fv.x2, .int .u64 fv.x3, .int .u64 fv.x4] 24)) (w0.heap.size) 24 (feL fa) := (Blk.new w0 (feL fa) _).alloc _
  have hfv : Blk ((w0.alloc (.cells #[.int .u64 fa.x0, .int .u64 fa.x1, .int .u64 fa.x2, .int .u64 fa.x3, .int .u64 fa.x4] 24)).alloc (.cells #[.int .u64 fv.x0, .int .u64 fv.x1, .int .u64 fv.x2, .int .u64 fv.x3, .int .u64 fv.x4] 24)) (w0.heap.size + 1) 24 (feL fv) := Blk.newAt (w0.alloc _) (feL fv) _ (by simp)
  refine (awake_any _ (HT.out.grown G1)).mono ?_
  rintro e v1 ⟨rfl, hg1⟩
  replace hfa := hfa.grown hg1 (by simp)
  replace hfv := hfv.grown hg1 (by simp)
  replace G1 := gb_trans G1 hg1
  clear hg1
  have fac0 := hfa.cell (i := 0) rfl; have fac1 := hfa.cell (i := 1) rfl; have fac2 := hfa.cell (i := 2) rfl; have fac3 := hfa.cell (i := 3) rfl; have fac4 := hfa.cell (i := 4) rfl
  have fvc0 := hfv.cell (i := 0) rfl; have fvc1 := hfv.cell (i := 1) rfl; have fvc2 := hfv.cell (i := 2) rfl; have fvc3 := hfv.cell (i := 3) rfl; have fvc4 := hfv.cell (i := 4) rfl
  go_wp2_with fail
  clear fac0 fac1 fac2 fac3 fac4 fvc0 fvc1 fvc2 fvc3 fvc4
  refine (right_any v1.heap.size 2 [fa, fv] _ rfl (by decide) (by simp [okfa, okfv]) (Blk.new v1 (fesL [fa, fv]) _)).mono ?_
  rintro e w' ⟨rfl, rfl⟩
  by_cases hR : [fa, fv].all rightB = true
  case neg =>
    rw [Bool.eq_false_iff.2 hR]
    have G2 := gb_alloc G1 (.cells (fesL [fa, fv]).toArray 24)
    go_wp2
    go_ret
    exact ⟨rfl, G2⟩
  rw [hR]
  obtain ⟨ra, rv⟩ := right_two okfa okfv hR
  have HRA := Lib.hid ra; have HRV := Lib.hid rv; clear ra rv
  clear hR
  replace G1 := gb_alloc G1 (.cells (fesL [fa, fv]).toArray 24)
  replace hfa := hfa.alloc (.cells (fesL [fa, fv]).toArray 24)
  replace hfv := hfv.alloc (.cells (fesL [fa, fv]).toArray 24)
  go_wp2_with fail
  obtain ⟨W5, hW5⟩ : ∃ W, W = v1.alloc (.cells (fesL [fa, fv]).toArray 24) := ⟨_, rfl⟩
  rw [← hW5] at G1 hfa hfv ⊢
  clear hW5
  have hB5 : EnvB W5 W5.heap.size [(w0.heap.size, fa), (w0.heap.size + 1, fv)] [] W5 := ⟨gb_refl _ _, by
      intro p hp
      simp only [List.mem_cons, List.not_mem_nil, or_false] at hp
      rcases hp with rfl | rfl
      · exact hfa
      · exact hfv, by simp, by
      intro p hp
      simp only [List.mem_cons, List.not_mem_nil, or_false] at hp
      rcases hp with rfl | rfl
      · exact hfa.lt
      · exact hfv.lt, Nat.le_refl _, Nat.le_refl _⟩
  refine wp_region_flow3 (items3 (Okb W5 [(w0.heap.size, fa), (w0.heap.size + 1, fv)]) [.any, .any, .any, .any, .any, .ptr, .any, .any, .any, .any, .any, .any, .any, .any, .any, .any, .any, .any, .any, .val (fa.v), .val ((Fe.sqF fa).v), .val (fv.v), .val ((Fe.mulF (Fe.sqF fa) fv).v), .any, .any, .any, .any, .any, .any, .any, .any, .any, .any, .any, .any, .any, .any, .any, .any, .any, .any, .any, .any, .any, .any, .any, .any, .any, .any, .any, .any, .any, .any, .any, .any, .any, .any, .any, .any, .any, .any, .any, .any, .any, .any, .any, .any, .any, .any, .any, .any, .any, .any, .any, .any, .any, .any, .any, .any, .any, .any, .any, .any, .any, .any, .any, .any, .any, .any, .any, .any, .any, .any, .any, .any, .any, .any, .any, .any, .any, .any, .any, .any, .any, .any, .any, .any, .any, .any, .any, .any]) (fun j => if j = 5 then 5 else 0) (Stored3 (Okb W5 [(w0.heap.size, fa), (w0.heap.size + 1, fv)]) (fun j => if j = 5 then Fe.mulF (Fe.sqF fa) fv else Fe.zeroF)) (EnvB W5 W5.heap.size [(w0.heap.size, fa), (w0.heap.size + 1, fv)] []) [5] (by kernel_rfl) (by kernel_rfl) (by kernel_rfl) (hB5.grown (gb_drewn _)) (fun s hs C hC => by simp at hs; rcases hs with rfl <;> exact absurd hC (by simp [undef])) (by kernel_rfl) ?_ ?_
  · refine ⟨fe3_value rfl (by decide) fun a w h => ?_, ?_⟩
    · have e2 : a.tmps.getD 2 undef = .pointer (some ⟨w0.heap.size, 0, none⟩) := h.rest 2 (by kernel_rfl)
      have hb := h.base.e (w0.heap.size, fa) (by simp)
      have c0 : w.cell? ⟨w0.heap.size, 0, none⟩ = some (.int .u64 fa.x0) := hb.cell (i := 0) rfl
      have c1 : w.cell? ⟨w0.heap.size, 1, none⟩ = some (.int .u64 fa.x1) := hb.cell (i := 1) rfl
      have c2 : w.cell? ⟨w0.heap.size, 2, none⟩ = some (.int .u64 fa.x2) := hb.cell (i := 2) rfl
      have c3 : w.cell? ⟨w0.heap.size, 3, none⟩ = some (.int .u64 fa.x3) := hb.cell (i := 3) rfl
      have c4 : w.cell? ⟨w0.heap.size, 4, none⟩ = some (.int .u64 fa.x4) := hb.cell (i := 4) rfl
      refine ⟨wants_none rfl, .agg #[.int .u64 fa.x0, .int .u64 fa.x1, .int .u64 fa.x2, .int .u64 fa.x3, .int .u64 fa.x4], w, ?_, gb_refl _ _, rfl⟩
      clear h hb
      simp only [execOp, Act.eval, e2]
      go_simp
    refine ⟨fe3_call rfl (by decide) fun a w h => ?_, ?_⟩
    · have e19 : a.tmps.getD 19 undef = fa.v := h.dep 19 (by kernel_rfl)
      have e19x : a.tmps[19]?.getD undef = fa.v := by simpa using e19
      have hb := h.base
      refine ⟨wants_none rfl, 15, #[fa.v], ?_, ?_⟩
      · clear h hb e19
        go_simp
      · refine (sq_fe fa w okfa).mono ?_
        intro e w1 hp
        obtain ⟨rfl, hg⟩ := feOut_is hp
        exact ⟨_, rfl, hg, rfl⟩
    refine ⟨fe3_value rfl (by decide) fun a w h => ?_, ?_⟩
    · have e3 : a.tmps.getD 3 undef = .pointer (some ⟨w0.heap.size + 1, 0, none⟩) := h.rest 3 (by kernel_rfl)
      have hb := h.base.e (w0.heap.size + 1, fv) (by simp)
      have c0 : w.cell? ⟨w0.heap.size + 1, 0, none⟩ = some (.int .u64 fv.x0) := hb.cell (i := 0) rfl
      have c1 : w.cell? ⟨w0.heap.size + 1, 1, none⟩ = some (.int .u64 fv.x1) := hb.cell (i := 1) rfl
      have c2 : w.cell? ⟨w0.heap.size + 1, 2, none⟩ = some (.int .u64 fv.x2) := hb.cell (i := 2) rfl
      have c3 : w.cell? ⟨w0.heap.size + 1, 3, none⟩ = some (.int .u64 fv.x3) := hb.cell (i := 3) rfl
      have c4 : w.cell? ⟨w0.heap.size + 1, 4, none⟩ = some (.int .u64 fv.x4) := hb.cell (i := 4) rfl
      refine ⟨wants_none rfl, .agg #[.int .u64 fv.x0, .int .u64 fv.x1, .int .u64 fv.x2, .int .u64 fv.x3, .int .u64 fv.x4], w, ?_, gb_refl _ _, rfl⟩
      clear h hb
      simp only [execOp, Act.eval, e3]
      go_simp
    refine ⟨fe3_call rfl (by decide) fun a w h => ?_, ?_⟩
    · have e20 : a.tmps.getD 20 undef = (Fe.sqF fa).v := h.dep 20 (by kernel_rfl)
      have e20x : a.tmps[20]?.getD undef = (Fe.sqF fa).v := by simpa using e20
      have e21 : a.tmps.getD 21 undef = fv.v := h.dep 21 (by kernel_rfl)
      have e21x : a.tmps[21]?.getD undef = fv.v := by simpa using e21
      have hb := h.base
      refine ⟨wants_none rfl, 10, #[(Fe.sqF fa).v, fv.v], ?_, ?_⟩
      · clear h hb e20 e21
        go_simp
      · refine (mul_fe (Fe.sqF fa) fv w (Fe.sq_right _).ok okfv).mono ?_
        intro e w1 hp
        obtain ⟨rfl, hg⟩ := feOut_is hp
        exact ⟨_, rfl, hg, rfl⟩
    refine ⟨fe3_alloc rfl (by show 5 < 111; decide) fun a w h => ?_, ?_⟩
    · refine ⟨wants_none rfl, w.alloc (.cells #[.int .u64 0, .int .u64 0, .int .u64 0, .int .u64 0, .int .u64 0] 24), ?_, World.grownBy_alloc _ _ _, by simp, ⟨w.heap.size, rfl, ⟨_, _, _, _, _, Blk.new w [.int .u64 0, .int .u64 0, .int .u64 0, .int .u64 0, .int .u64 0] _⟩, h.base.fresh⟩⟩
      clear h
      go_simp
    refine ⟨fe3_store (p := 5) rfl rfl (by rfl) rfl (fun j oj hj hoj hn => absurd hn (only_store (by kernel_rfl) hj hoj)) (Or.inl (by simp)) fun a w h => ?_, ?_⟩
    · obtain ⟨Bn, ep, hroom, hK⟩ : ∃ Bn, a.tmps.getD 5 undef = .pointer (some ⟨Bn, 0, none⟩) ∧ Room5 w Bn 24 ∧ (Okb W5 [(w0.heap.size, fa), (w0.heap.size + 1, fv)]) Bn := h.dep 5 (by kernel_rfl)
      have e22 : a.tmps.getD 22 undef = .agg #[.int .u64 (Fe.mulF (Fe.sqF fa) fv).x0, .int .u64 (Fe.mulF (Fe.sqF fa) fv).x1, .int .u64 (Fe.mulF (Fe.sqF fa) fv).x2, .int .u64 (Fe.mulF (Fe.sqF fa) fv).x3, .int .u64 (Fe.mulF (Fe.sqF fa) fv).x4] := h.dep 22 (by kernel_rfl)
      refine ⟨wants_none rfl, Bn, ep, hK, hroom, ?_⟩
      obtain ⟨u0, u1, u2, u3, u4, hR⟩ := hroom
      have c0r := hR.cell (i := 0) rfl; have f0r := hR.free 0
      have c1r := hR.cell (i := 1) rfl; have f1r := hR.free 1
      have c2r := hR.cell (i := 2) rfl; have f2r := hR.free 2
      have c3r := hR.cell (i := 3) rfl; have f3r := hR.free 3
      have c4r := hR.cell (i := 4) rfl; have f4r := hR.free 4
      clear h hK hR
      unfold set5W
      simp only [execOp, Act.eval, ep, e22]
      go_simp
    trivial
  · intro q w5 hB hsz hdf hrest hslots hmems
    obtain ⟨Bu, hs5, _, hfu⟩ := hmems 5 _ rfl rfl
    replace hs5 : q.tmps.getD 5 undef = .pointer (some ⟨Bu, 0, none⟩) := hs5
    replace hfu : Blk w5 Bu 24 (feL (Fe.mulF (Fe.sqF fa) fv)) := hfu
    obtain rfl := frame_is (a := q) (vs := [Value.agg #[.int .u64 fa.x0, .int .u64 fa.x1, .int .u64 fa.x2, .int .u64 fa.x3, .int .u64 fa.x4], Value.agg #[.int .u64 fv.x0, .int .u64 fv.x1, .int .u64 fv.x2, .int .u64 fv.x3, .int .u64 fv.x4], Value.pointer (some ⟨w0.heap.size, 0, none⟩), Value.pointer (some ⟨w0.heap.size + 1, 0, none⟩), Value.bool false, Value.pointer (some ⟨Bu, 0, none⟩), undef, undef, undef, undef, undef, undef, Value.bool true, Value.bool false, Value.agg #[.int .u64 fa.x0, .int .u64 fa.x1, .int .u64 fa.x2, .int .u64 fa.x3, .int .u64 fa.x4], Value.agg #[.int .u64 fv.x0, .int .u64 fv.x1, .int .u64 fv.x2, .int .u64 fv.x3, .int .u64 fv.x4], Value.slice (some ⟨v1.heap.size, 0, none⟩) 2 2, Value.bool true, Value.bool false, fa.v, (Fe.sqF fa).v, fv.v, (Fe.mulF (Fe.sqF fa) fv).v, undef, undef, undef, undef, undef, undef, undef, undef, undef, undef, undef, undef, undef, undef, undef, undef, undef, undef, undef, undef, undef, undef, undef, undef, undef, undef, undef, undef, undef, undef, undef, undef, undef, undef, undef, undef, undef, undef, undef, undef, undef, undef, undef, undef, undef, undef, undef, undef, undef, undef, undef, undef, undef, undef, undef, undef, undef, undef, undef, undef, undef, undef, undef, undef, undef, undef, undef, undef, undef, undef, undef, undef, undef, undef, undef, undef, undef, undef, undef, undef, undef, undef, undef, undef, undef, undef, undef, undef]) hsz ⟨hrest 0 (by kernel_rfl), hrest 1 (by kernel_rfl), hrest 2 (by kernel_rfl), hrest 3 (by kernel_rfl), hrest 4 (by kernel_rfl), hs5, hrest 6 (by kernel_rfl), hrest 7 (by kernel_rfl), hrest 8 (by kernel_rfl), hrest 9 (by kernel_rfl), hrest 10 (by kernel_rfl), hrest 11 (by kernel_rfl), hrest 12 (by kernel_rfl), hrest 13 (by kernel_rfl), hrest 14 (by kernel_rfl), hrest 15 (by kernel_rfl), hrest 16 (by kernel_rfl), hrest 17 (by kernel_rfl), hrest 18 (by kernel_rfl), (show q.tmps.getD 19 undef = fa.v from hslots 19 (by kernel_rfl)), (show q.tmps.getD 20 undef = (Fe.sqF fa).v from hslots 20 (by kernel_rfl)), (show q.tmps.getD 21 undef = fv.v from hslots 21 (by kernel_rfl)), (show q.tmps.getD 22 undef = (Fe.mulF (Fe.sqF fa) fv).v from hslots 22 (by kernel_rfl)), hrest 23 (by kernel_rfl), hrest 24 (by kernel_rfl), hrest 25 (by kernel_rfl), hrest 26 (by kernel_rfl), hrest 27 (by kernel_rfl), hrest 28 (by kernel_rfl), hrest 29 (by kernel_rfl), hrest 30 (by kernel_rfl), hrest 31 (by kernel_rfl), hrest 32 (by kernel_rfl), hrest 33 (by kernel_rfl), hrest 34 (by kernel_rfl), hrest 35 (by kernel_rfl), hrest 36 (by kernel_rfl), hrest 37 (by kernel_rfl), hrest 38 (by kernel_rfl), hrest 39 (by kernel_rfl), hrest 40 (by kernel_rfl), hrest 41 (by kernel_rfl), hrest 42 (by kernel_rfl), hrest 43 (by kernel_rfl), hrest 44 (by kernel_rfl), hrest 45 (by kernel_rfl), hrest 46 (by kernel_rfl), hrest 47 (by kernel_rfl), hrest 48 (by kernel_rfl), hrest 49 (by kernel_rfl), hrest 50 (by kernel_rfl), hrest 51 (by kernel_rfl), hrest 52 (by kernel_rfl), hrest 53 (by kernel_rfl), hrest 54 (by kernel_rfl), hrest 55 (by kernel_rfl), hrest 56 (by kernel_rfl), hrest 57 (by kernel_rfl), hrest 58 (by kernel_rfl), hrest 59 (by kernel_rfl), hrest 60 (by kernel_rfl), hrest 61 (by kernel_rfl), hrest 62 (by kernel_rfl), hrest 63 (by kernel_rfl), hrest 64 (by kernel_rfl), hrest 65 (by kernel_rfl), hrest 66 (by kernel_rfl), hrest 67 (by kernel_rfl), hrest 68 (by kernel_rfl), hrest 69 (by kernel_rfl), hrest 70 (by kernel_rfl), hrest 71 (by kernel_rfl), hrest 72 (by kernel_rfl), hrest 73 (by kernel_rfl), hrest 74 (by kernel_rfl), hrest 75 (by kernel_rfl), hrest 76 (by kernel_rfl), hrest 77 (by kernel_rfl), hrest 78 (by kernel_rfl), hrest 79 (by kernel_rfl), hrest 80 (by kernel_rfl), hrest 81 (by kernel_rfl), hrest 82 (by kernel_rfl), hrest 83 (by kernel_rfl), hrest 84 (by kernel_rfl), hrest 85 (by kernel_rfl), hrest 86 (by kernel_rfl), hrest 87 (by kernel_rfl), hrest 88 (by kernel_rfl), hrest 89 (by kernel_rfl), hrest 90 (by kernel_rfl), hrest 91 (by kernel_rfl), hrest 92 (by kernel_rfl), hrest 93 (by kernel_rfl), hrest 94 (by kernel_rfl), hrest 95 (by kernel_rfl), hrest 96 (by kernel_rfl), hrest 97 (by kernel_rfl), hrest 98 (by kernel_rfl), hrest 99 (by kernel_rfl), hrest 100 (by kernel_rfl), hrest 101 (by kernel_rfl), hrest 102 (by kernel_rfl), hrest 103 (by kernel_rfl), hrest 104 (by kernel_rfl), hrest 105 (by kernel_rfl), hrest 106 (by kernel_rfl), hrest 107 (by kernel_rfl), hrest 108 (by kernel_rfl), hrest 109 (by kernel_rfl), hrest 110 (by kernel_rfl), trivial⟩ hdf
    have hg := hB.g
    clear hs5 hsz hdf hrest hslots hmems hB hB5
    replace hfa := hfa.grown hg (by simp)
    replace hfv := hfv.grown hg (by simp)
    replace G1 := gb_trans G1 hg
    clear hg
    obtain ⟨fu, hfue⟩ : ∃ x, x = Fe.mulF (Fe.sqF fa) fv := ⟨_, rfl⟩
    rw [← hfue] at hfu
    have okfu : fu.Ok := by rw [hfue]; exact (Fe.mul_right _ _).ok
    have EU := Lib.hid hfue; clear hfue
    have fuc0 := hfu.cell (i := 0) rfl; have fuc1 := hfu.cell (i := 1) rfl; have fuc2 := hfu.cell (i := 2) rfl; have fuc3 := hfu.cell (i := 3) rfl; have fuc4 := hfu.cell (i := 4) rfl
    have fvc0 := hfv.cell (i := 0) rfl; have fvc1 := hfv.cell (i := 1) rfl; have fvc2 := hfv.cell (i := 2) rfl; have fvc3 := hfv.cell (i := 3) rfl; have fvc4 := hfv.cell (i := 4) rfl
    go_wp2_with fail
    refine (root_val fu fv true _ (HT.out.grown G1) okfu okfv (by rw [EU.out]; exact roots_ok HRA.out HRV.out)).mono ?_
    rintro e v6 ⟨fr, hfre, rfl, hg⟩
    clear fuc0 fuc1 fuc2 fuc3 fuc4 fvc0 fvc1 fvc2 fvc3 fvc4
    have ER : Hid (fr = (rootF (Fe.mulF (Fe.sqF fa) fv) fv).1) := Lib.hid (by rw [hfre.out, EU.out])
    clear hfre
    have hback := roots_back HRA.out HRV.out
    rw [← ER.out, ← EU.out] at hback
    have okfr : fr.Ok := hback.1.ok
    have H7 : Hid (decide (Fe.m fr % 2 = 1) = false ∧ ((∀ a ∈ [fr], a.Ok) ∧ [fr].all rightB = true) ∧ decide (Fe.m (Fe.mulF (Fe.sqF fr) fv) = Fe.m fu) = true) := Lib.hid ⟨df (by omega), by simp [okfr, (rightB_is okfr).2 hback.1], dt hback.2.2⟩
    clear hback
    replace hfa := hfa.grown hg (by simp)
    replace hfv := hfv.grown hg (by simp)
    replace hfu := hfu.grown hg (by simp)
    replace G1 := gb_alloc (gb_trans G1 hg) (.cells #[.int .u64 fr.x0, .int .u64 fr.x1, .int .u64 fr.x2, .int .u64 fr.x3, .int .u64 fr.x4] 24)
    have hfr : Blk (v6.alloc (.cells #[.int .u64 fr.x0, .int .u64 fr.x1, .int .u64 fr.x2, .int .u64 fr.x3, .int .u64 fr.x4] 24)) v6.heap.size 24 (feL fr) := Blk.new v6 (feL fr) 24
    replace hfa := hfa.alloc (.cells #[.int .u64 fr.x0, .int .u64 fr.x1, .int .u64 fr.x2, .int .u64 fr.x3, .int .u64 fr.x4] 24)
    replace hfv := hfv.alloc (.cells #[.int .u64 fr.x0, .int .u64 fr.x1, .int .u64 fr.x2, .int .u64 fr.x3, .int .u64 fr.x4] 24)
    replace hfu := hfu.alloc (.cells #[.int .u64 fr.x0, .int .u64 fr.x1, .int .u64 fr.x2, .int .u64 fr.x3, .int .u64 fr.x4] 24)
    clear hg
    go_wp2_with fail
    obtain ⟨W7, hW7⟩ : ∃ W, W = v6.alloc (.cells #[.int .u64 fr.x0, .int .u64 fr.x1, .int .u64 fr.x2, .int .u64 fr.x3, .int .u64 fr.x4] 24) := ⟨_, rfl⟩
    rw [← hW7] at G1 hfa hfv hfu hfr ⊢
    clear hW7
    have HT7 := Lib.hid (HT.out.grown G1)
    have hB7 : EnvB W7 W7.heap.size [(w0.heap.size, fa), (w0.heap.size + 1, fv), (Bu, fu), (v6.heap.size, fr)] [] W7 := ⟨gb_refl _ _, by
      intro p hp
      simp only [List.mem_cons, List.not_mem_nil, or_false] at hp
      rcases hp with rfl | rfl | rfl | rfl
      · exact hfa
      · exact hfv
      · exact hfu
      · exact hfr, by simp, by
      intro p hp
      simp only [List.mem_cons, List.not_mem_nil, or_false] at hp
      rcases hp with rfl | rfl | rfl | rfl
      · exact hfa.lt
      · exact hfv.lt
      · exact hfu.lt
      · exact hfr.lt, Nat.le_refl _, Nat.le_refl _⟩
    refine wp_region_flow3 (items3 (Okb W7 [(w0.heap.size, fa), (w0.heap.size + 1, fv), (Bu, fu), (v6.heap.size, fr)]) [.any, .any, .any, .any, .any, .any, .any, .any, .any, .any, .any, .any, .any, .any, .any, .any, .any, .any, .any, .any, .any, .any, .any, .any, .any, .any, .any, .any, .any, .val (.bool true), .val (.bool false), .val (.bool false), .val undef, .val undef, .val undef, .val (.bool false), .val (.bool false), .val (.bool true), .val (.bool true), .val (fr.v), .val (.bool false), .val (.bool false), .val (fr.v), .elems 1 [fr], .val (.bool true), .val (.bool false), .val (.bool false), .val (.bool false), .val (fr.v), .val ((Fe.sqF fr).v), .val (fv.v), .val ((Fe.mulF (Fe.sqF fr) fv).v), .val (fu.v), .val (.bool true), .val (.bool false), .val (.bool false), .val (.bool false), .val (.bool false), .any, .any, .any, .any, .any, .any, .any, .any, .any, .any, .any, .any, .any, .any, .any, .any, .any, .any, .any, .any, .any, .any, .any, .any, .any, .any, .any, .any, .any, .any, .any, .any, .any, .any, .any, .any, .any, .any, .any, .any, .any, .any, .any, .any, .any, .any, .any, .any, .any, .any, .any, .any, .any]) (fun j =>  0) (Stored3 (Okb W7 [(w0.heap.size, fa), (w0.heap.size + 1, fv), (Bu, fu), (v6.heap.size, fr)]) (fun j =>  Fe.zeroF)) (EnvB W7 W7.heap.size [(w0.heap.size, fa), (w0.heap.size + 1, fv), (Bu, fu), (v6.heap.size, fr)] []) [] (by kernel_rfl) (by kernel_rfl) (by kernel_rfl) (hB7.grown (gb_drewn _)) (fun s hs => by cases hs) (by kernel_rfl) ?_ ?_
    · refine ⟨fe3_value rfl (by decide) fun a w h => ?_, ?_⟩
      · have e7 : a.tmps.getD 7 undef = .bool true := h.rest 7 (by kernel_rfl)
        refine ⟨wants_none rfl, .bool true, w, ?_, gb_refl _ _, rfl⟩
        clear h
        simp only [execOp, Act.eval, e7]
        go_simp
      refine ⟨fe3_value rfl (by decide) fun a w h => ?_, ?_⟩
      · have e29 : a.tmps.getD 29 undef = .bool true := h.dep 29 (by kernel_rfl)
        refine ⟨wants_none rfl, .bool false, w, ?_, gb_refl _ _, rfl⟩
        clear h
        simp only [execOp, Act.eval, e29]
        go_simp
      refine ⟨fe3_value rfl (by decide) fun a w h => ?_, ?_⟩
      · have e30 : a.tmps.getD 30 undef = .bool false := h.dep 30 (by kernel_rfl)
        refine ⟨wants_none rfl, .bool false, w, ?_, gb_refl _ _, rfl⟩
        clear h
        simp only [execOp, Act.eval, e30]
        go_simp
      refine ⟨flow3_skipped rfl (by decide) (fun w _ => rfl) fun a w h => ?_, ?_⟩
      · have e31 : a.tmps.getD 31 undef = .bool false := h.dep 31 (by kernel_rfl)
        exact not_wants (d := 31) rfl rfl (by rw [h.size]; show 31 < 111; decide) e31 (by decide)
      refine ⟨flow3_skipped rfl (by decide) (fun w _ => rfl) fun a w h => ?_, ?_⟩
      · have e31 : a.tmps.getD 31 undef = .bool false := h.dep 31 (by kernel_rfl)
        exact not_wants (d := 31) rfl rfl (by rw [h.size]; show 31 < 111; decide) e31 (by decide)
      refine ⟨flow3_skipped rfl (by decide) (fun w _ => rfl) fun a w h => ?_, ?_⟩
      · have e31 : a.tmps.getD 31 undef = .bool false := h.dep 31 (by kernel_rfl)
        exact not_wants (d := 31) rfl rfl (by rw [h.size]; show 31 < 111; decide) e31 (by decide)
      refine ⟨fe3_value rfl (by decide) fun a w h => ?_, ?_⟩
      · have e31 : a.tmps.getD 31 undef = .bool false := h.dep 31 (by kernel_rfl)
        refine ⟨wants_none rfl, .bool false, w, ?_, gb_refl _ _, rfl⟩
        clear h
        simp only [execOp, Act.eval, e31]
        go_simp
      refine ⟨fe3_value rfl (by decide) fun a w h => ?_, ?_⟩
      · have e35 : a.tmps.getD 35 undef = .bool false := h.dep 35 (by kernel_rfl)
        refine ⟨wants_none rfl, .bool false, w, ?_, gb_refl _ _, rfl⟩
        clear h
        simp only [execOp, Act.eval, e35]
        go_simp
      refine ⟨fe3_value rfl (by decide) fun a w h => ?_, ?_⟩
      · have e36 : a.tmps.getD 36 undef = .bool false := h.dep 36 (by kernel_rfl)
        have e7 : a.tmps.getD 7 undef = .bool true := h.rest 7 (by kernel_rfl)
        refine ⟨wants_some (d := 36) rfl rfl (by rw [h.size]; show 36 < 111; decide) e36, .bool true, w, ?_, gb_refl _ _, rfl⟩
        clear h
        simp only [execOp, Act.eval, e7]
        go_simp
      refine ⟨fe3_value rfl (by decide) fun a w h => ?_, ?_⟩
      · have e36 : a.tmps.getD 36 undef = .bool false := h.dep 36 (by kernel_rfl)
        have e37 : a.tmps.getD 37 undef = .bool true := h.dep 37 (by kernel_rfl)
        refine ⟨wants_some (d := 36) rfl rfl (by rw [h.size]; show 36 < 111; decide) e36, .bool true, w, ?_, gb_refl _ _, rfl⟩
        clear h
        simp only [execOp, Act.eval, e37]
        go_simp
      refine ⟨fe3_value rfl (by decide) fun a w h => ?_, ?_⟩
      · have e38 : a.tmps.getD 38 undef = .bool true := h.dep 38 (by kernel_rfl)
        have e6 : a.tmps.getD 6 undef = .pointer (some ⟨v6.heap.size, 0, none⟩) := h.rest 6 (by kernel_rfl)
        have hb := h.base.e (v6.heap.size, fr) (by simp)
        have c0 : w.cell? ⟨v6.heap.size, 0, none⟩ = some (.int .u64 fr.x0) := hb.cell (i := 0) rfl
        have c1 : w.cell? ⟨v6.heap.size, 1, none⟩ = some (.int .u64 fr.x1) := hb.cell (i := 1) rfl
        have c2 : w.cell? ⟨v6.heap.size, 2, none⟩ = some (.int .u64 fr.x2) := hb.cell (i := 2) rfl
        have c3 : w.cell? ⟨v6.heap.size, 3, none⟩ = some (.int .u64 fr.x3) := hb.cell (i := 3) rfl
        have c4 : w.cell? ⟨v6.heap.size, 4, none⟩ = some (.int .u64 fr.x4) := hb.cell (i := 4) rfl
        refine ⟨wants_some (d := 38) rfl rfl (by rw [h.size]; show 38 < 111; decide) e38, .agg #[.int .u64 fr.x0, .int .u64 fr.x1, .int .u64 fr.x2, .int .u64 fr.x3, .int .u64 fr.x4], w, ?_, gb_refl _ _, rfl⟩
        clear h hb
        simp only [execOp, Act.eval, e6]
        go_simp
      refine ⟨fe3_call rfl (by decide) fun a w h => ?_, ?_⟩
      · have e38 : a.tmps.getD 38 undef = .bool true := h.dep 38 (by kernel_rfl)
        have e39 : a.tmps.getD 39 undef = fr.v := h.dep 39 (by kernel_rfl)
        have e39x : a.tmps[39]?.getD undef = fr.v := by simpa using e39
        have hb := h.base
        refine ⟨wants_some (d := 38) rfl rfl (by rw [h.size]; show 38 < 111; decide) e38, 25, #[fr.v], ?_, ?_⟩
        · clear h hb e39
          go_simp
        · refine (odd_val fr false w okfr (H7.out.1)).mono ?_
          intro e w1 hp
          obtain ⟨rfl, hg⟩ := hp
          exact ⟨_, rfl, hg, rfl⟩
      refine ⟨fe3_value rfl (by decide) fun a w h => ?_, ?_⟩
      · have e38 : a.tmps.getD 38 undef = .bool true := h.dep 38 (by kernel_rfl)
        have e40 : a.tmps.getD 40 undef = .bool false := h.dep 40 (by kernel_rfl)
        refine ⟨wants_some (d := 38) rfl rfl (by rw [h.size]; show 38 < 111; decide) e38, .bool false, w, ?_, gb_refl _ _, rfl⟩
        clear h
        simp only [execOp, Act.eval, e40]
        go_simp
      refine ⟨fe3_value rfl (by decide) fun a w h => ?_, ?_⟩
      · have e41 : a.tmps.getD 41 undef = .bool false := h.dep 41 (by kernel_rfl)
        have e6 : a.tmps.getD 6 undef = .pointer (some ⟨v6.heap.size, 0, none⟩) := h.rest 6 (by kernel_rfl)
        have hb := h.base.e (v6.heap.size, fr) (by simp)
        have c0 : w.cell? ⟨v6.heap.size, 0, none⟩ = some (.int .u64 fr.x0) := hb.cell (i := 0) rfl
        have c1 : w.cell? ⟨v6.heap.size, 1, none⟩ = some (.int .u64 fr.x1) := hb.cell (i := 1) rfl
        have c2 : w.cell? ⟨v6.heap.size, 2, none⟩ = some (.int .u64 fr.x2) := hb.cell (i := 2) rfl
        have c3 : w.cell? ⟨v6.heap.size, 3, none⟩ = some (.int .u64 fr.x3) := hb.cell (i := 3) rfl
        have c4 : w.cell? ⟨v6.heap.size, 4, none⟩ = some (.int .u64 fr.x4) := hb.cell (i := 4) rfl
        refine ⟨wants_some (d := 41) rfl rfl (by rw [h.size]; show 41 < 111; decide) e41, .agg #[.int .u64 fr.x0, .int .u64 fr.x1, .int .u64 fr.x2, .int .u64 fr.x3, .int .u64 fr.x4], w, ?_, gb_refl _ _, rfl⟩
        clear h hb
        simp only [execOp, Act.eval, e6]
        go_simp
      refine ⟨fe3_value rfl (by decide) fun a w h => ?_, ?_⟩
      · have e41 : a.tmps.getD 41 undef = .bool false := h.dep 41 (by kernel_rfl)
        have e42 : a.tmps.getD 42 undef = .agg #[.int .u64 fr.x0, .int .u64 fr.x1, .int .u64 fr.x2, .int .u64 fr.x3, .int .u64 fr.x4] := h.dep 42 (by kernel_rfl)
        refine ⟨wants_some (d := 41) rfl rfl (by rw [h.size]; show 41 < 111; decide) e41, .slice (some ⟨w.heap.size, 0, none⟩) 1 1, w.alloc (.cells #[Value.int IntKind.u64 fr.x0, Value.int IntKind.u64 fr.x1, Value.int IntKind.u64 fr.x2, Value.int IntKind.u64 fr.x3, Value.int IntKind.u64 fr.x4] 24), ?_, World.grownBy_alloc _ _ _, ⟨w.heap.size, rfl, Blk.new w (fesL [fr]) _⟩⟩
        clear h
        simp only [execOp, List.map_toArray, List.map_cons, List.map_nil, Act.eval, e42]
        go_simp
      refine ⟨fe3_call rfl (by decide) fun a w h => ?_, ?_⟩
      · have e41 : a.tmps.getD 41 undef = .bool false := h.dep 41 (by kernel_rfl)
        obtain ⟨B43, e43, b43⟩ : ∃ PB, a.tmps.getD 43 undef = .slice (some ⟨PB, 0, none⟩) 1 1 ∧ Blk w PB 24 (fesL [fr]) := h.dep 43 (by kernel_rfl)
        have e43x : a.tmps[43]?.getD undef = .slice (some ⟨B43, 0, none⟩) 1 1 := by simpa using e43
        have hb := h.base
        refine ⟨wants_some (d := 41) rfl rfl (by rw [h.size]; show 41 < 111; decide) e41, 31, #[.slice (some ⟨B43, 0, none⟩) 1 1], ?_, ?_⟩
        · clear h hb e43 b43
          go_simp
        · refine (right_val _ 1 [fr] true w rfl (by decide) (H7.out.2.1) b43).mono ?_
          intro e w1 hp
          obtain ⟨rfl, hg⟩ := hp
          exact ⟨_, rfl, hg, rfl⟩
      refine ⟨fe3_value rfl (by decide) fun a w h => ?_, ?_⟩
      · have e41 : a.tmps.getD 41 undef = .bool false := h.dep 41 (by kernel_rfl)
        have e44 : a.tmps.getD 44 undef = .bool true := h.dep 44 (by kernel_rfl)
        refine ⟨wants_some (d := 41) rfl rfl (by rw [h.size]; show 41 < 111; decide) e41, .bool false, w, ?_, gb_refl _ _, rfl⟩
        clear h
        simp only [execOp, Act.eval, e44]
        go_simp
      refine ⟨fe3_value rfl (by decide) fun a w h => ?_, ?_⟩
      · have e38 : a.tmps.getD 38 undef = .bool true := h.dep 38 (by kernel_rfl)
        have e41 : a.tmps.getD 41 undef = .bool false := h.dep 41 (by kernel_rfl)
        have e45 : a.tmps.getD 45 undef = .bool false := h.dep 45 (by kernel_rfl)
        refine ⟨wants_some (d := 38) rfl rfl (by rw [h.size]; show 38 < 111; decide) e38, .bool false, w, ?_, gb_refl _ _, rfl⟩
        clear h
        simp only [execOp, Act.eval, e41, e45]
        go_simp
      refine ⟨fe3_value rfl (by decide) fun a w h => ?_, ?_⟩
      · have e38 : a.tmps.getD 38 undef = .bool true := h.dep 38 (by kernel_rfl)
        have e46 : a.tmps.getD 46 undef = .bool false := h.dep 46 (by kernel_rfl)
        refine ⟨wants_some (d := 38) rfl rfl (by rw [h.size]; show 38 < 111; decide) e38, .bool false, w, ?_, gb_refl _ _, rfl⟩
        clear h
        simp only [execOp, Act.eval, e46]
        go_simp
      refine ⟨fe3_value rfl (by decide) fun a w h => ?_, ?_⟩
      · have e47 : a.tmps.getD 47 undef = .bool false := h.dep 47 (by kernel_rfl)
        have e6 : a.tmps.getD 6 undef = .pointer (some ⟨v6.heap.size, 0, none⟩) := h.rest 6 (by kernel_rfl)
        have hb := h.base.e (v6.heap.size, fr) (by simp)
        have c0 : w.cell? ⟨v6.heap.size, 0, none⟩ = some (.int .u64 fr.x0) := hb.cell (i := 0) rfl
        have c1 : w.cell? ⟨v6.heap.size, 1, none⟩ = some (.int .u64 fr.x1) := hb.cell (i := 1) rfl
        have c2 : w.cell? ⟨v6.heap.size, 2, none⟩ = some (.int .u64 fr.x2) := hb.cell (i := 2) rfl
        have c3 : w.cell? ⟨v6.heap.size, 3, none⟩ = some (.int .u64 fr.x3) := hb.cell (i := 3) rfl
        have c4 : w.cell? ⟨v6.heap.size, 4, none⟩ = some (.int .u64 fr.x4) := hb.cell (i := 4) rfl
        refine ⟨wants_some (d := 47) rfl rfl (by rw [h.size]; show 47 < 111; decide) e47, .agg #[.int .u64 fr.x0, .int .u64 fr.x1, .int .u64 fr.x2, .int .u64 fr.x3, .int .u64 fr.x4], w, ?_, gb_refl _ _, rfl⟩
        clear h hb
        simp only [execOp, Act.eval, e6]
        go_simp
      refine ⟨fe3_call rfl (by decide) fun a w h => ?_, ?_⟩
      · have e47 : a.tmps.getD 47 undef = .bool false := h.dep 47 (by kernel_rfl)
        have e48 : a.tmps.getD 48 undef = fr.v := h.dep 48 (by kernel_rfl)
        have e48x : a.tmps[48]?.getD undef = fr.v := by simpa using e48
        have hb := h.base
        refine ⟨wants_some (d := 47) rfl rfl (by rw [h.size]; show 47 < 111; decide) e47, 15, #[fr.v], ?_, ?_⟩
        · clear h hb e48
          go_simp
        · refine (sq_fe fr w okfr).mono ?_
          intro e w1 hp
          obtain ⟨rfl, hg⟩ := feOut_is hp
          exact ⟨_, rfl, hg, rfl⟩
      refine ⟨fe3_value rfl (by decide) fun a w h => ?_, ?_⟩
      · have e47 : a.tmps.getD 47 undef = .bool false := h.dep 47 (by kernel_rfl)
        have e3 : a.tmps.getD 3 undef = .pointer (some ⟨w0.heap.size + 1, 0, none⟩) := h.rest 3 (by kernel_rfl)
        have hb := h.base.e (w0.heap.size + 1, fv) (by simp)
        have c0 : w.cell? ⟨w0.heap.size + 1, 0, none⟩ = some (.int .u64 fv.x0) := hb.cell (i := 0) rfl
        have c1 : w.cell? ⟨w0.heap.size + 1, 1, none⟩ = some (.int .u64 fv.x1) := hb.cell (i := 1) rfl
        have c2 : w.cell? ⟨w0.heap.size + 1, 2, none⟩ = some (.int .u64 fv.x2) := hb.cell (i := 2) rfl
        have c3 : w.cell? ⟨w0.heap.size + 1, 3, none⟩ = some (.int .u64 fv.x3) := hb.cell (i := 3) rfl
        have c4 : w.cell? ⟨w0.heap.size + 1, 4, none⟩ = some (.int .u64 fv.x4) := hb.cell (i := 4) rfl
        refine ⟨wants_some (d := 47) rfl rfl (by rw [h.size]; show 47 < 111; decide) e47, .agg #[.int .u64 fv.x0, .int .u64 fv.x1, .int .u64 fv.x2, .int .u64 fv.x3, .int .u64 fv.x4], w, ?_, gb_refl _ _, rfl⟩
        clear h hb
        simp only [execOp, Act.eval, e3]
        go_simp
      refine ⟨fe3_call rfl (by decide) fun a w h => ?_, ?_⟩
      · have e47 : a.tmps.getD 47 undef = .bool false := h.dep 47 (by kernel_rfl)
        have e49 : a.tmps.getD 49 undef = (Fe.sqF fr).v := h.dep 49 (by kernel_rfl)
        have e49x : a.tmps[49]?.getD undef = (Fe.sqF fr).v := by simpa using e49
        have e50 : a.tmps.getD 50 undef = fv.v := h.dep 50 (by kernel_rfl)
        have e50x : a.tmps[50]?.getD undef = fv.v := by simpa using e50
        have hb := h.base
        refine ⟨wants_some (d := 47) rfl rfl (by rw [h.size]; show 47 < 111; decide) e47, 10, #[(Fe.sqF fr).v, fv.v], ?_, ?_⟩
        · clear h hb e49 e50
          go_simp
        · refine (mul_fe (Fe.sqF fr) fv w (Fe.sq_right _).ok okfv).mono ?_
          intro e w1 hp
          obtain ⟨rfl, hg⟩ := feOut_is hp
          exact ⟨_, rfl, hg, rfl⟩
      refine ⟨fe3_value rfl (by decide) fun a w h => ?_, ?_⟩
      · have e47 : a.tmps.getD 47 undef = .bool false := h.dep 47 (by kernel_rfl)
        have e5 : a.tmps.getD 5 undef = .pointer (some ⟨Bu, 0, none⟩) := h.rest 5 (by kernel_rfl)
        have hb := h.base.e (Bu, fu) (by simp)
        have c0 : w.cell? ⟨Bu, 0, none⟩ = some (.int .u64 fu.x0) := hb.cell (i := 0) rfl
        have c1 : w.cell? ⟨Bu, 1, none⟩ = some (.int .u64 fu.x1) := hb.cell (i := 1) rfl
        have c2 : w.cell? ⟨Bu, 2, none⟩ = some (.int .u64 fu.x2) := hb.cell (i := 2) rfl
        have c3 : w.cell? ⟨Bu, 3, none⟩ = some (.int .u64 fu.x3) := hb.cell (i := 3) rfl
        have c4 : w.cell? ⟨Bu, 4, none⟩ = some (.int .u64 fu.x4) := hb.cell (i := 4) rfl
        refine ⟨wants_some (d := 47) rfl rfl (by rw [h.size]; show 47 < 111; decide) e47, .agg #[.int .u64 fu.x0, .int .u64 fu.x1, .int .u64 fu.x2, .int .u64 fu.x3, .int .u64 fu.x4], w, ?_, gb_refl _ _, rfl⟩
        clear h hb
        simp only [execOp, Act.eval, e5]
        go_simp
      refine ⟨fe3_call rfl (by decide) fun a w h => ?_, ?_⟩
      · have e47 : a.tmps.getD 47 undef = .bool false := h.dep 47 (by kernel_rfl)
        have e51 : a.tmps.getD 51 undef = (Fe.mulF (Fe.sqF fr) fv).v := h.dep 51 (by kernel_rfl)
        have e51x : a.tmps[51]?.getD undef = (Fe.mulF (Fe.sqF fr) fv).v := by simpa using e51
        have e52 : a.tmps.getD 52 undef = fu.v := h.dep 52 (by kernel_rfl)
        have e52x : a.tmps[52]?.getD undef = fu.v := by simpa using e52
        have hb := h.base
        refine ⟨wants_some (d := 47) rfl rfl (by rw [h.size]; show 47 < 111; decide) e47, 13, #[(Fe.mulF (Fe.sqF fr) fv).v, fu.v], ?_, ?_⟩
        · clear h hb e51 e52
          go_simp
        · refine (same_val (Fe.mulF (Fe.sqF fr) fv) fu true w (Fe.mul_right _ _).ok okfu (H7.out.2.2)).mono ?_
          intro e w1 hp
          obtain ⟨rfl, hg⟩ := hp
          exact ⟨_, rfl, hg, rfl⟩
      refine ⟨fe3_value rfl (by decide) fun a w h => ?_, ?_⟩
      · have e47 : a.tmps.getD 47 undef = .bool false := h.dep 47 (by kernel_rfl)
        have e53 : a.tmps.getD 53 undef = .bool true := h.dep 53 (by kernel_rfl)
        refine ⟨wants_some (d := 47) rfl rfl (by rw [h.size]; show 47 < 111; decide) e47, .bool false, w, ?_, gb_refl _ _, rfl⟩
        clear h
        simp only [execOp, Act.eval, e53]
        go_simp
      refine ⟨fe3_value rfl (by decide) fun a w h => ?_, ?_⟩
      · have e38 : a.tmps.getD 38 undef = .bool true := h.dep 38 (by kernel_rfl)
        have e47 : a.tmps.getD 47 undef = .bool false := h.dep 47 (by kernel_rfl)
        have e54 : a.tmps.getD 54 undef = .bool false := h.dep 54 (by kernel_rfl)
        refine ⟨wants_some (d := 38) rfl rfl (by rw [h.size]; show 38 < 111; decide) e38, .bool false, w, ?_, gb_refl _ _, rfl⟩
        clear h
        simp only [execOp, Act.eval, e47, e54]
        go_simp
      refine ⟨fe3_value rfl (by decide) fun a w h => ?_, ?_⟩
      · have e36 : a.tmps.getD 36 undef = .bool false := h.dep 36 (by kernel_rfl)
        have e38 : a.tmps.getD 38 undef = .bool true := h.dep 38 (by kernel_rfl)
        have e55 : a.tmps.getD 55 undef = .bool false := h.dep 55 (by kernel_rfl)
        refine ⟨wants_some (d := 36) rfl rfl (by rw [h.size]; show 36 < 111; decide) e36, .bool false, w, ?_, gb_refl _ _, rfl⟩
        clear h
        simp only [execOp, Act.eval, e38, e55]
        go_simp
      refine ⟨fe3_value rfl (by decide) fun a w h => ?_, ?_⟩
      · have e36 : a.tmps.getD 36 undef = .bool false := h.dep 36 (by kernel_rfl)
        have e56 : a.tmps.getD 56 undef = .bool false := h.dep 56 (by kernel_rfl)
        refine ⟨wants_none rfl, .bool false, w, ?_, gb_refl _ _, rfl⟩
        clear h
        simp only [execOp, Act.eval, e36, e56]
        go_simp
      trivial
    · intro q v8 hB hsz hdf hrest hslots hmems
      obtain ⟨PB43, hs43, _⟩ : ∃ PB, q.tmps.getD 43 undef = .slice (some ⟨PB, 0, none⟩) 1 1 ∧ Blk v8 PB 24 (fesL [fr]) := hslots 43 (by kernel_rfl)
      obtain rfl := frame_is (a := q) (vs := [Value.agg #[.int .u64 fa.x0, .int .u64 fa.x1, .int .u64 fa.x2, .int .u64 fa.x3, .int .u64 fa.x4], Value.agg #[.int .u64 fv.x0, .int .u64 fv.x1, .int .u64 fv.x2, .int .u64 fv.x3, .int .u64 fv.x4], Value.pointer (some ⟨w0.heap.size, 0, none⟩), Value.pointer (some ⟨w0.heap.size + 1, 0, none⟩), Value.bool false, Value.pointer (some ⟨Bu, 0, none⟩), Value.pointer (some ⟨v6.heap.size, 0, none⟩), Value.bool true, undef, undef, undef, undef, Value.bool true, Value.bool false, Value.agg #[.int .u64 fa.x0, .int .u64 fa.x1, .int .u64 fa.x2, .int .u64 fa.x3, .int .u64 fa.x4], Value.agg #[.int .u64 fv.x0, .int .u64 fv.x1, .int .u64 fv.x2, .int .u64 fv.x3, .int .u64 fv.x4], Value.slice (some ⟨v1.heap.size, 0, none⟩) 2 2, Value.bool true, Value.bool false, fa.v, (Fe.sqF fa).v, fv.v, (Fe.mulF (Fe.sqF fa) fv).v, Value.tuple #[.agg #[.int .u64 fr.x0, .int .u64 fr.x1, .int .u64 fr.x2, .int .u64 fr.x3, .int .u64 fr.x4], .bool true], Value.agg #[.int .u64 fu.x0, .int .u64 fu.x1, .int .u64 fu.x2, .int .u64 fu.x3, .int .u64 fu.x4], Value.agg #[.int .u64 fv.x0, .int .u64 fv.x1, .int .u64 fv.x2, .int .u64 fv.x3, .int .u64 fv.x4], Value.tuple #[.agg #[.int .u64 fr.x0, .int .u64 fr.x1, .int .u64 fr.x2, .int .u64 fr.x3, .int .u64 fr.x4], .bool true], Value.agg #[.int .u64 fr.x0, .int .u64 fr.x1, .int .u64 fr.x2, .int .u64 fr.x3, .int .u64 fr.x4], Value.bool true, Value.bool true, Value.bool false, Value.bool false, undef, undef, undef, Value.bool false, Value.bool false, Value.bool true, Value.bool true, fr.v, Value.bool false, Value.bool false, fr.v, Value.slice (some ⟨PB43, 0, none⟩) 1 1, Value.bool true, Value.bool false, Value.bool false, Value.bool false, fr.v, (Fe.sqF fr).v, fv.v, (Fe.mulF (Fe.sqF fr) fv).v, fu.v, Value.bool true, Value.bool false, Value.bool false, Value.bool false, Value.bool false, undef, undef, undef, undef, undef, undef, undef, undef, undef, undef, undef, undef, undef, undef, undef, undef, undef, undef, undef, undef, undef, undef, undef, undef, undef, undef, undef, undef, undef, undef, undef, undef, undef, undef, undef, undef, undef, undef, undef, undef, undef, undef, undef, undef, undef, undef, undef, undef, undef, undef, undef, undef, undef]) hsz ⟨hrest 0 (by kernel_rfl), hrest 1 (by kernel_rfl), hrest 2 (by kernel_rfl), hrest 3 (by kernel_rfl), hrest 4 (by kernel_rfl), hrest 5 (by kernel_rfl), hrest 6 (by kernel_rfl), hrest 7 (by kernel_rfl), hrest 8 (by kernel_rfl), hrest 9 (by kernel_rfl), hrest 10 (by kernel_rfl), hrest 11 (by kernel_rfl), hrest 12 (by kernel_rfl), hrest 13 (by kernel_rfl), hrest 14 (by kernel_rfl), hrest 15 (by kernel_rfl), hrest 16 (by kernel_rfl), hrest 17 (by kernel_rfl), hrest 18 (by kernel_rfl), hrest 19 (by kernel_rfl), hrest 20 (by kernel_rfl), hrest 21 (by kernel_rfl), hrest 22 (by kernel_rfl), hrest 23 (by kernel_rfl), hrest 24 (by kernel_rfl), hrest 25 (by kernel_rfl), hrest 26 (by kernel_rfl), hrest 27 (by kernel_rfl), hrest 28 (by kernel_rfl), (show q.tmps.getD 29 undef = Value.bool true from hslots 29 (by kernel_rfl)), (show q.tmps.getD 30 undef = Value.bool false from hslots 30 (by kernel_rfl)), (show q.tmps.getD 31 undef = Value.bool false from hslots 31 (by kernel_rfl)), (show q.tmps.getD 32 undef = undef from hslots 32 (by kernel_rfl)), (show q.tmps.getD 33 undef = undef from hslots 33 (by kernel_rfl)), (show q.tmps.getD 34 undef = undef from hslots 34 (by kernel_rfl)), (show q.tmps.getD 35 undef = Value.bool false from hslots 35 (by kernel_rfl)), (show q.tmps.getD 36 undef = Value.bool false from hslots 36 (by kernel_rfl)), (show q.tmps.getD 37 undef = Value.bool true from hslots 37 (by kernel_rfl)), (show q.tmps.getD 38 undef = Value.bool true from hslots 38 (by kernel_rfl)), (show q.tmps.getD 39 undef = fr.v from hslots 39 (by kernel_rfl)), (show q.tmps.getD 40 undef = Value.bool false from hslots 40 (by kernel_rfl)), (show q.tmps.getD 41 undef = Value.bool false from hslots 41 (by kernel_rfl)), (show q.tmps.getD 42 undef = fr.v from hslots 42 (by kernel_rfl)), hs43, (show q.tmps.getD 44 undef = Value.bool true from hslots 44 (by kernel_rfl)), (show q.tmps.getD 45 undef = Value.bool false from hslots 45 (by kernel_rfl)), (show q.tmps.getD 46 undef = Value.bool false from hslots 46 (by kernel_rfl)), (show q.tmps.getD 47 undef = Value.bool false from hslots 47 (by kernel_rfl)), (show q.tmps.getD 48 undef = fr.v from hslots 48 (by kernel_rfl)), (show q.tmps.getD 49 undef = (Fe.sqF fr).v from hslots 49 (by kernel_rfl)), (show q.tmps.getD 50 undef = fv.v from hslots 50 (by kernel_rfl)), (show q.tmps.getD 51 undef = (Fe.mulF (Fe.sqF fr) fv).v from hslots 51 (by kernel_rfl)), (show q.tmps.getD 52 undef = fu.v from hslots 52 (by kernel_rfl)), (show q.tmps.getD 53 undef = Value.bool true from hslots 53 (by kernel_rfl)), (show q.tmps.getD 54 undef = Value.bool false from hslots 54 (by kernel_rfl)), (show q.tmps.getD 55 undef = Value.bool false from hslots 55 (by kernel_rfl)), (show q.tmps.getD 56 undef = Value.bool false from hslots 56 (by kernel_rfl)), (show q.tmps.getD 57 undef = Value.bool false from hslots 57 (by kernel_rfl)), hrest 58 (by kernel_rfl), hrest 59 (by kernel_rfl), hrest 60 (by kernel_rfl), hrest 61 (by kernel_rfl), hrest 62 (by kernel_rfl), hrest 63 (by kernel_rfl), hrest 64 (by kernel_rfl), hrest 65 (by kernel_rfl), hrest 66 (by kernel_rfl), hrest 67 (by kernel_rfl), hrest 68 (by kernel_rfl), hrest 69 (by kernel_rfl), hrest 70 (by kernel_rfl), hrest 71 (by kernel_rfl), hrest 72 (by kernel_rfl), hrest 73 (by kernel_rfl), hrest 74 (by kernel_rfl), hrest 75 (by kernel_rfl), hrest 76 (by kernel_rfl), hrest 77 (by kernel_rfl), hrest 78 (by kernel_rfl), hrest 79 (by kernel_rfl), hrest 80 (by kernel_rfl), hrest 81 (by kernel_rfl), hrest 82 (by kernel_rfl), hrest 83 (by kernel_rfl), hrest 84 (by kernel_rfl), hrest 85 (by kernel_rfl), hrest 86 (by kernel_rfl), hrest 87 (by kernel_rfl), hrest 88 (by kernel_rfl), hrest 89 (by kernel_rfl), hrest 90 (by kernel_rfl), hrest 91 (by kernel_rfl), hrest 92 (by kernel_rfl), hrest 93 (by kernel_rfl), hrest 94 (by kernel_rfl), hrest 95 (by kernel_rfl), hrest 96 (by kernel_rfl), hrest 97 (by kernel_rfl), hrest 98 (by kernel_rfl), hrest 99 (by kernel_rfl), hrest 100 (by kernel_rfl), hrest 101 (by kernel_rfl), hrest 102 (by kernel_rfl), hrest 103 (by kernel_rfl), hrest 104 (by kernel_rfl), hrest 105 (by kernel_rfl), hrest 106 (by kernel_rfl), hrest 107 (by kernel_rfl), hrest 108 (by kernel_rfl), hrest 109 (by kernel_rfl), hrest 110 (by kernel_rfl), trivial⟩ hdf
      have hg := hB.g
      clear hs43 hsz hdf hrest hslots hmems hB hB7 HT7 H7
      replace hfa := hfa.grown hg (by simp)
      replace hfv := hfv.grown hg (by simp)
      replace hfu := hfu.grown hg (by simp)
      replace hfr := hfr.grown hg (by simp)
      replace G1 := gb_trans G1 hg
      clear hg
      have fvc0 := hfv.cell (i := 0) rfl; have fvc1 := hfv.cell (i := 1) rfl; have fvc2 := hfv.cell (i := 2) rfl; have fvc3 := hfv.cell (i := 3) rfl; have fvc4 := hfv.cell (i := 4) rfl
      have fac0 := hfa.cell (i := 0) rfl; have fac1 := hfa.cell (i := 1) rfl; have fac2 := hfa.cell (i := 2) rfl; have fac3 := hfa.cell (i := 3) rfl; have fac4 := hfa.cell (i := 4) rfl
      by_cases hzv : Fe.m fv = 0
      · go_wp2_with fail
        refine (zero_val fv true _ okfv (dt hzv)).mono ?_
        rintro e v9 ⟨rfl, hg⟩
        replace G1 := gb_trans G1 hg
        go_wp2
        go_ret
        exact ⟨rfl, G1⟩
      go_wp2_with fail
      refine (zero_val fv false _ okfv (df hzv)).mono ?_
      rintro e v9 ⟨rfl, hg⟩
      clear fvc0 fvc1 fvc2 fvc3 fvc4 fac0 fac1 fac2 fac3 fac4
      replace hfa := hfa.grown hg (by simp)
      replace hfv := hfv.grown hg (by simp)
      replace hfu := hfu.grown hg (by simp)
      replace hfr := hfr.grown hg (by simp)
      replace G1 := gb_trans G1 hg
      clear hg
      have fac0 := hfa.cell (i := 0) rfl; have fac1 := hfa.cell (i := 1) rfl; have fac2 := hfa.cell (i := 2) rfl; have fac3 := hfa.cell (i := 3) rfl; have fac4 := hfa.cell (i := 4) rfl
      by_cases hza : Fe.m fa = 0
      · go_wp2_with fail
        refine (zero_val fa true _ okfa (dt hza)).mono ?_
        rintro e v10 ⟨rfl, hg⟩
        replace G1 := gb_trans G1 hg
        go_wp2
        go_ret
        exact ⟨rfl, G1⟩
      go_wp2_with fail
      refine (zero_val fa false _ okfa (df hza)).mono ?_
      rintro e W11 ⟨rfl, hg⟩
      clear fac0 fac1 fac2 fac3 fac4
      replace hfa := hfa.grown hg (by simp)
      replace hfv := hfv.grown hg (by simp)
      replace hfu := hfu.grown hg (by simp)
      replace hfr := hfr.grown hg (by simp)
      replace G1 := gb_trans G1 hg
      clear hg
      go_wp2_with fail
      by_cases hone : (rootF fa Fe.oneF).2 = true
      · skip
        have HO : Hid ((rootF fa Fe.oneF).2 = true) := Lib.hid hone
        have HO2 : Hid ((rootF (Fe.addF fa fa) Fe.oneF).2 = false) := Lib.hid (by rw [one_two HRA.out hza, hone]; rfl)
        have okS : (rootF fa Fe.oneF).1.Ok := rootS_ok fa
        have HT11 := Lib.hid (HT.out.grown G1)
        have hB11 : EnvB W11 W11.heap.size [(w0.heap.size, fa), (w0.heap.size + 1, fv), (Bu, fu), (v6.heap.size, fr)] [] W11 := ⟨gb_refl _ _, by
          intro p hp
          simp only [List.mem_cons, List.not_mem_nil, or_false] at hp
          rcases hp with rfl | rfl | rfl | rfl
          · exact hfa
          · exact hfv
          · exact hfu
          · exact hfr, by simp, by
          intro p hp
          simp only [List.mem_cons, List.not_mem_nil, or_false] at hp
          rcases hp with rfl | rfl | rfl | rfl
          · exact hfa.lt
          · exact hfv.lt
          · exact hfu.lt
          · exact hfr.lt, Nat.le_refl _, Nat.le_refl _⟩
        refine wp_region_flow3 (items3 (Okb W11 [(w0.heap.size, fa), (w0.heap.size + 1, fv), (Bu, fu), (v6.heap.size, fr)]) [.any, .any, .any, .any, .any, .any, .any, .any, .ptr, .val (.bool true), .any, .any, .any, .any, .any, .any, .any, .any, .any, .any, .any, .any, .any, .any, .any, .any, .any, .any, .any, .any, .any, .any, .any, .any, .any, .any, .any, .any, .any, .any, .any, .any, .any, .any, .any, .any, .any, .any, .any, .any, .any, .any, .any, .any, .any, .any, .any, .any, .any, .any, .any, .any, .any, .any, .any, .val (.tuple #[.agg #[.int .u64 ((rootF fa Fe.oneF).1).x0, .int .u64 ((rootF fa Fe.oneF).1).x1, .int .u64 ((rootF fa Fe.oneF).1).x2, .int .u64 ((rootF fa Fe.oneF).1).x3, .int .u64 ((rootF fa Fe.oneF).1).x4], .bool true]), .val (fa.v), .val (Fe.oneF.v), .val (.tuple #[.agg #[.int .u64 ((rootF fa Fe.oneF).1).x0, .int .u64 ((rootF fa Fe.oneF).1).x1, .int .u64 ((rootF fa Fe.oneF).1).x2, .int .u64 ((rootF fa Fe.oneF).1).x3, .int .u64 ((rootF fa Fe.oneF).1).x4], .bool true]), .val (((rootF fa Fe.oneF).1).v), .val (.bool true), .any, .any, .any, .any, .any, .any, .any, .any, .any, .any, .any, .any, .any, .any, .any, .any, .any, .any, .any, .any, .any, .any, .any, .any, .any, .any, .any, .any, .any, .any, .any, .any, .any, .any, .any, .any, .any, .any, .any, .any]) (fun j => if j = 7 then 8 else 0) (Stored3 (Okb W11 [(w0.heap.size, fa), (w0.heap.size + 1, fv), (Bu, fu), (v6.heap.size, fr)]) (fun j => if j = 7 then (rootF fa Fe.oneF).1 else Fe.zeroF)) (EnvB W11 W11.heap.size [(w0.heap.size, fa), (w0.heap.size + 1, fv), (Bu, fu), (v6.heap.size, fr)] []) [8] (by kernel_rfl) (by kernel_rfl) (by kernel_rfl) (hB11.grown (gb_drewn _)) (fun s hs C hC => by simp at hs; rcases hs with rfl <;> exact absurd hC (by simp [undef])) (by kernel_rfl) ?_ ?_
        · refine ⟨fe3_value rfl (by decide) fun a w h => ?_, ?_⟩
          · have e2 : a.tmps.getD 2 undef = .pointer (some ⟨w0.heap.size, 0, none⟩) := h.rest 2 (by kernel_rfl)
            have hb := h.base.e (w0.heap.size, fa) (by simp)
            have c0 : w.cell? ⟨w0.heap.size, 0, none⟩ = some (.int .u64 fa.x0) := hb.cell (i := 0) rfl
            have c1 : w.cell? ⟨w0.heap.size, 1, none⟩ = some (.int .u64 fa.x1) := hb.cell (i := 1) rfl
            have c2 : w.cell? ⟨w0.heap.size, 2, none⟩ = some (.int .u64 fa.x2) := hb.cell (i := 2) rfl
            have c3 : w.cell? ⟨w0.heap.size, 3, none⟩ = some (.int .u64 fa.x3) := hb.cell (i := 3) rfl
            have c4 : w.cell? ⟨w0.heap.size, 4, none⟩ = some (.int .u64 fa.x4) := hb.cell (i := 4) rfl
            refine ⟨wants_none rfl, .agg #[.int .u64 fa.x0, .int .u64 fa.x1, .int .u64 fa.x2, .int .u64 fa.x3, .int .u64 fa.x4], w, ?_, gb_refl _ _, rfl⟩
            clear h hb
            simp only [execOp, Act.eval, e2]
            go_simp
          refine ⟨fe3_call rfl (by decide) fun a w h => ?_, ?_⟩
          · have hb := h.base
            refine ⟨wants_none rfl, 22, #[], ?_, ?_⟩
            · clear h hb
              go_simp
            · refine (one_any w).mono ?_
              intro e w1 hp
              obtain ⟨rfl, hg⟩ := feOut_is hp
              exact ⟨_, rfl, hg, rfl⟩
          refine ⟨fe3_call rfl (by decide) fun a w h => ?_, ?_⟩
          · have e66 : a.tmps.getD 66 undef = fa.v := h.dep 66 (by kernel_rfl)
            have e66x : a.tmps[66]?.getD undef = fa.v := by simpa using e66
            have e67 : a.tmps.getD 67 undef = Fe.oneF.v := h.dep 67 (by kernel_rfl)
            have e67x : a.tmps[67]?.getD undef = Fe.oneF.v := by simpa using e67
            have hb := h.base
            refine ⟨wants_none rfl, 28, #[fa.v, Fe.oneF.v], ?_, ?_⟩
            · clear h hb e66 e67
              go_simp
            · refine (root_val fa Fe.oneF true w (HT11.out.grown hb.g) okfa one_right.ok (HO.out)).mono ?_
              intro e w1 hp
              obtain ⟨rr, hrr, rfl, hg⟩ := hp
              obtain rfl := hrr.out
              exact ⟨_, rfl, hg, rfl⟩
          refine ⟨fe3_value rfl (by decide) fun a w h => ?_, ?_⟩
          · have e68 : a.tmps.getD 68 undef = .tuple #[.agg #[.int .u64 ((rootF fa Fe.oneF).1).x0, .int .u64 ((rootF fa Fe.oneF).1).x1, .int .u64 ((rootF fa Fe.oneF).1).x2, .int .u64 ((rootF fa Fe.oneF).1).x3, .int .u64 ((rootF fa Fe.oneF).1).x4], .bool true] := h.dep 68 (by kernel_rfl)
            refine ⟨wants_none rfl, .tuple #[.agg #[.int .u64 ((rootF fa Fe.oneF).1).x0, .int .u64 ((rootF fa Fe.oneF).1).x1, .int .u64 ((rootF fa Fe.oneF).1).x2, .int .u64 ((rootF fa Fe.oneF).1).x3, .int .u64 ((rootF fa Fe.oneF).1).x4], .bool true], w, ?_, gb_refl _ _, rfl⟩
            clear h
            simp only [execOp, Act.eval, e68]
            go_simp
          refine ⟨fe3_value rfl (by decide) fun a w h => ?_, ?_⟩
          · have e65 : a.tmps.getD 65 undef = .tuple #[.agg #[.int .u64 ((rootF fa Fe.oneF).1).x0, .int .u64 ((rootF fa Fe.oneF).1).x1, .int .u64 ((rootF fa Fe.oneF).1).x2, .int .u64 ((rootF fa Fe.oneF).1).x3, .int .u64 ((rootF fa Fe.oneF).1).x4], .bool true] := h.dep 65 (by kernel_rfl)
            refine ⟨wants_none rfl, .agg #[.int .u64 ((rootF fa Fe.oneF).1).x0, .int .u64 ((rootF fa Fe.oneF).1).x1, .int .u64 ((rootF fa Fe.oneF).1).x2, .int .u64 ((rootF fa Fe.oneF).1).x3, .int .u64 ((rootF fa Fe.oneF).1).x4], w, ?_, gb_refl _ _, rfl⟩
            clear h
            simp only [execOp, Act.eval, e65]
            go_simp
          refine ⟨fe3_value rfl (by decide) fun a w h => ?_, ?_⟩
          · have e65 : a.tmps.getD 65 undef = .tuple #[.agg #[.int .u64 ((rootF fa Fe.oneF).1).x0, .int .u64 ((rootF fa Fe.oneF).1).x1, .int .u64 ((rootF fa Fe.oneF).1).x2, .int .u64 ((rootF fa Fe.oneF).1).x3, .int .u64 ((rootF fa Fe.oneF).1).x4], .bool true] := h.dep 65 (by kernel_rfl)
            refine ⟨wants_none rfl, .bool true, w, ?_, gb_refl _ _, rfl⟩
            clear h
            simp only [execOp, Act.eval, e65]
            go_simp
          refine ⟨fe3_alloc rfl (by show 8 < 111; decide) fun a w h => ?_, ?_⟩
          · refine ⟨wants_none rfl, w.alloc (.cells #[.int .u64 0, .int .u64 0, .int .u64 0, .int .u64 0, .int .u64 0] 24), ?_, World.grownBy_alloc _ _ _, by simp, ⟨w.heap.size, rfl, ⟨_, _, _, _, _, Blk.new w [.int .u64 0, .int .u64 0, .int .u64 0, .int .u64 0, .int .u64 0] _⟩, h.base.fresh⟩⟩
            clear h
            go_simp
          refine ⟨fe3_store (p := 8) rfl rfl (by rfl) rfl (fun j oj hj hoj hn => absurd hn (only_store (by kernel_rfl) hj hoj)) (Or.inl (by simp)) fun a w h => ?_, ?_⟩
          · obtain ⟨Bn, ep, hroom, hK⟩ : ∃ Bn, a.tmps.getD 8 undef = .pointer (some ⟨Bn, 0, none⟩) ∧ Room5 w Bn 24 ∧ (Okb W11 [(w0.heap.size, fa), (w0.heap.size + 1, fv), (Bu, fu), (v6.heap.size, fr)]) Bn := h.dep 8 (by kernel_rfl)
            have e69 : a.tmps.getD 69 undef = .agg #[.int .u64 ((rootF fa Fe.oneF).1).x0, .int .u64 ((rootF fa Fe.oneF).1).x1, .int .u64 ((rootF fa Fe.oneF).1).x2, .int .u64 ((rootF fa Fe.oneF).1).x3, .int .u64 ((rootF fa Fe.oneF).1).x4] := h.dep 69 (by kernel_rfl)
            refine ⟨wants_none rfl, Bn, ep, hK, hroom, ?_⟩
            obtain ⟨u0, u1, u2, u3, u4, hR⟩ := hroom
            have c0r := hR.cell (i := 0) rfl; have f0r := hR.free 0
            have c1r := hR.cell (i := 1) rfl; have f1r := hR.free 1
            have c2r := hR.cell (i := 2) rfl; have f2r := hR.free 2
            have c3r := hR.cell (i := 3) rfl; have f3r := hR.free 3
            have c4r := hR.cell (i := 4) rfl; have f4r := hR.free 4
            clear h hK hR
            unfold set5W
            simp only [execOp, Act.eval, ep, e69]
            go_simp
          refine ⟨fe3_value rfl (by decide) fun a w h => ?_, ?_⟩
          · have e70 : a.tmps.getD 70 undef = .bool true := h.dep 70 (by kernel_rfl)
            refine ⟨wants_none rfl, .bool true, w, ?_, gb_refl _ _, rfl⟩
            clear h
            simp only [execOp, Act.eval, e70]
            go_simp
          trivial
        · intro q w12 hB hsz hdf hrest hslots hmems
          obtain ⟨Bs, hs8, _, hfs⟩ := hmems 7 _ rfl rfl
          replace hs8 : q.tmps.getD 8 undef = .pointer (some ⟨Bs, 0, none⟩) := hs8
          replace hfs : Blk w12 Bs 24 (feL ((rootF fa Fe.oneF).1)) := hfs
          obtain rfl := frame_is (a := q) (vs := [Value.agg #[.int .u64 fa.x0, .int .u64 fa.x1, .int .u64 fa.x2, .int .u64 fa.x3, .int .u64 fa.x4], Value.agg #[.int .u64 fv.x0, .int .u64 fv.x1, .int .u64 fv.x2, .int .u64 fv.x3, .int .u64 fv.x4], Value.pointer (some ⟨w0.heap.size, 0, none⟩), Value.pointer (some ⟨w0.heap.size + 1, 0, none⟩), Value.bool false, Value.pointer (some ⟨Bu, 0, none⟩), Value.pointer (some ⟨v6.heap.size, 0, none⟩), Value.bool true, Value.pointer (some ⟨Bs, 0, none⟩), Value.bool true, undef, undef, Value.bool true, Value.bool false, Value.agg #[.int .u64 fa.x0, .int .u64 fa.x1, .int .u64 fa.x2, .int .u64 fa.x3, .int .u64 fa.x4], Value.agg #[.int .u64 fv.x0, .int .u64 fv.x1, .int .u64 fv.x2, .int .u64 fv.x3, .int .u64 fv.x4], Value.slice (some ⟨v1.heap.size, 0, none⟩) 2 2, Value.bool true, Value.bool false, fa.v, (Fe.sqF fa).v, fv.v, (Fe.mulF (Fe.sqF fa) fv).v, Value.tuple #[.agg #[.int .u64 fr.x0, .int .u64 fr.x1, .int .u64 fr.x2, .int .u64 fr.x3, .int .u64 fr.x4], .bool true], Value.agg #[.int .u64 fu.x0, .int .u64 fu.x1, .int .u64 fu.x2, .int .u64 fu.x3, .int .u64 fu.x4], Value.agg #[.int .u64 fv.x0, .int .u64 fv.x1, .int .u64 fv.x2, .int .u64 fv.x3, .int .u64 fv.x4], Value.tuple #[.agg #[.int .u64 fr.x0, .int .u64 fr.x1, .int .u64 fr.x2, .int .u64 fr.x3, .int .u64 fr.x4], .bool true], Value.agg #[.int .u64 fr.x0, .int .u64 fr.x1, .int .u64 fr.x2, .int .u64 fr.x3, .int .u64 fr.x4], Value.bool true, Value.bool true, Value.bool false, Value.bool false, undef, undef, undef, Value.bool false, Value.bool false, Value.bool true, Value.bool true, fr.v, Value.bool false, Value.bool false, fr.v, Value.slice (some ⟨PB43, 0, none⟩) 1 1, Value.bool true, Value.bool false, Value.bool false, Value.bool false, fr.v, (Fe.sqF fr).v, fv.v, (Fe.mulF (Fe.sqF fr) fv).v, fu.v, Value.bool true, Value.bool false, Value.bool false, Value.bool false, Value.bool false, Value.agg #[.int .u64 fv.x0, .int .u64 fv.x1, .int .u64 fv.x2, .int .u64 fv.x3, .int .u64 fv.x4], Value.bool false, Value.bool false, Value.agg #[.int .u64 fa.x0, .int .u64 fa.x1, .int .u64 fa.x2, .int .u64 fa.x3, .int .u64 fa.x4], Value.bool false, Value.bool false, undef, Value.tuple #[.agg #[.int .u64 ((rootF fa Fe.oneF).1).x0, .int .u64 ((rootF fa Fe.oneF).1).x1, .int .u64 ((rootF fa Fe.oneF).1).x2, .int .u64 ((rootF fa Fe.oneF).1).x3, .int .u64 ((rootF fa Fe.oneF).1).x4], .bool true], fa.v, Fe.oneF.v, Value.tuple #[.agg #[.int .u64 ((rootF fa Fe.oneF).1).x0, .int .u64 ((rootF fa Fe.oneF).1).x1, .int .u64 ((rootF fa Fe.oneF).1).x2, .int .u64 ((rootF fa Fe.oneF).1).x3, .int .u64 ((rootF fa Fe.oneF).1).x4], .bool true], ((rootF fa Fe.oneF).1).v, Value.bool true, undef, undef, undef, undef, undef, undef, undef, undef, undef, undef, undef, undef, undef, undef, undef, undef, undef, undef, undef, undef, undef, undef, undef, undef, undef, undef, undef, undef, undef, undef, undef, undef, undef, undef, undef, undef, undef, undef, undef, undef]) hsz ⟨hrest 0 (by kernel_rfl), hrest 1 (by kernel_rfl), hrest 2 (by kernel_rfl), hrest 3 (by kernel_rfl), hrest 4 (by kernel_rfl), hrest 5 (by kernel_rfl), hrest 6 (by kernel_rfl), hrest 7 (by kernel_rfl), hs8, (show q.tmps.getD 9 undef = Value.bool true from hslots 9 (by kernel_rfl)), hrest 10 (by kernel_rfl), hrest 11 (by kernel_rfl), hrest 12 (by kernel_rfl), hrest 13 (by kernel_rfl), hrest 14 (by kernel_rfl), hrest 15 (by kernel_rfl), hrest 16 (by kernel_rfl), hrest 17 (by kernel_rfl), hrest 18 (by kernel_rfl), hrest 19 (by kernel_rfl), hrest 20 (by kernel_rfl), hrest 21 (by kernel_rfl), hrest 22 (by kernel_rfl), hrest 23 (by kernel_rfl), hrest 24 (by kernel_rfl), hrest 25 (by kernel_rfl), hrest 26 (by kernel_rfl), hrest 27 (by kernel_rfl), hrest 28 (by kernel_rfl), hrest 29 (by kernel_rfl), hrest 30 (by kernel_rfl), hrest 31 (by kernel_rfl), hrest 32 (by kernel_rfl), hrest 33 (by kernel_rfl), hrest 34 (by kernel_rfl), hrest 35 (by kernel_rfl), hrest 36 (by kernel_rfl), hrest 37 (by kernel_rfl), hrest 38 (by kernel_rfl), hrest 39 (by kernel_rfl), hrest 40 (by kernel_rfl), hrest 41 (by kernel_rfl), hrest 42 (by kernel_rfl), hrest 43 (by kernel_rfl), hrest 44 (by kernel_rfl), hrest 45 (by kernel_rfl), hrest 46 (by kernel_rfl), hrest 47 (by kernel_rfl), hrest 48 (by kernel_rfl), hrest 49 (by kernel_rfl), hrest 50 (by kernel_rfl), hrest 51 (by kernel_rfl), hrest 52 (by kernel_rfl), hrest 53 (by kernel_rfl), hrest 54 (by kernel_rfl), hrest 55 (by kernel_rfl), hrest 56 (by kernel_rfl), hrest 57 (by kernel_rfl), hrest 58 (by kernel_rfl), hrest 59 (by kernel_rfl), hrest 60 (by kernel_rfl), hrest 61 (by kernel_rfl), hrest 62 (by kernel_rfl), hrest 63 (by kernel_rfl), hrest 64 (by kernel_rfl), (show q.tmps.getD 65 undef = Value.tuple #[.agg #[.int .u64 ((rootF fa Fe.oneF).1).x0, .int .u64 ((rootF fa Fe.oneF).1).x1, .int .u64 ((rootF fa Fe.oneF).1).x2, .int .u64 ((rootF fa Fe.oneF).1).x3, .int .u64 ((rootF fa Fe.oneF).1).x4], .bool true] from hslots 65 (by kernel_rfl)), (show q.tmps.getD 66 undef = fa.v from hslots 66 (by kernel_rfl)), (show q.tmps.getD 67 undef = Fe.oneF.v from hslots 67 (by kernel_rfl)), (show q.tmps.getD 68 undef = Value.tuple #[.agg #[.int .u64 ((rootF fa Fe.oneF).1).x0, .int .u64 ((rootF fa Fe.oneF).1).x1, .int .u64 ((rootF fa Fe.oneF).1).x2, .int .u64 ((rootF fa Fe.oneF).1).x3, .int .u64 ((rootF fa Fe.oneF).1).x4], .bool true] from hslots 68 (by kernel_rfl)), (show q.tmps.getD 69 undef = ((rootF fa Fe.oneF).1).v from hslots 69 (by kernel_rfl)), (show q.tmps.getD 70 undef = Value.bool true from hslots 70 (by kernel_rfl)), hrest 71 (by kernel_rfl), hrest 72 (by kernel_rfl), hrest 73 (by kernel_rfl), hrest 74 (by kernel_rfl), hrest 75 (by kernel_rfl), hrest 76 (by kernel_rfl), hrest 77 (by kernel_rfl), hrest 78 (by kernel_rfl), hrest 79 (by kernel_rfl), hrest 80 (by kernel_rfl), hrest 81 (by kernel_rfl), hrest 82 (by kernel_rfl), hrest 83 (by kernel_rfl), hrest 84 (by kernel_rfl), hrest 85 (by kernel_rfl), hrest 86 (by kernel_rfl), hrest 87 (by kernel_rfl), hrest 88 (by kernel_rfl), hrest 89 (by kernel_rfl), hrest 90 (by kernel_rfl), hrest 91 (by kernel_rfl), hrest 92 (by kernel_rfl), hrest 93 (by kernel_rfl), hrest 94 (by kernel_rfl), hrest 95 (by kernel_rfl), hrest 96 (by kernel_rfl), hrest 97 (by kernel_rfl), hrest 98 (by kernel_rfl), hrest 99 (by kernel_rfl), hrest 100 (by kernel_rfl), hrest 101 (by kernel_rfl), hrest 102 (by kernel_rfl), hrest 103 (by kernel_rfl), hrest 104 (by kernel_rfl), hrest 105 (by kernel_rfl), hrest 106 (by kernel_rfl), hrest 107 (by kernel_rfl), hrest 108 (by kernel_rfl), hrest 109 (by kernel_rfl), hrest 110 (by kernel_rfl), trivial⟩ hdf
          have hg := hB.g
          clear hs8 hsz hdf hrest hslots hmems hB hB11 HT11
          replace hfa := hfa.grown hg (by simp)
          replace hfv := hfv.grown hg (by simp)
          replace hfu := hfu.grown hg (by simp)
          replace hfr := hfr.grown hg (by simp)
          replace G1 := gb_trans G1 hg
          clear hg
          obtain ⟨fs, hfse⟩ : ∃ x, x = (rootF fa Fe.oneF).1 := ⟨_, rfl⟩
          rw [← hfse] at hfs
          have okfs : fs.Ok := by rw [hfse]; exact okS
          have ES := Lib.hid hfse; clear hfse
          have fac0 := hfa.cell (i := 0) rfl; have fac1 := hfa.cell (i := 1) rfl; have fac2 := hfa.cell (i := 2) rfl; have fac3 := hfa.cell (i := 3) rfl; have fac4 := hfa.cell (i := 4) rfl
          go_wp2_with fail
          refine (add_any fa fa _ okfa okfa).mono ?_
          rintro e w14 ⟨fd, hfde, rfl, hg⟩
          have okfd : fd.Ok := by rw [hfde.out]; exact (Fe.add_right _ _).ok
          clear fac0 fac1 fac2 fac3 fac4
          replace hfa := hfa.grown hg (by simp)
          replace hfv := hfv.grown hg (by simp)
          replace hfu := hfu.grown hg (by simp)
          replace hfr := hfr.grown hg (by simp)
          replace hfs := hfs.grown hg (by simp)
          replace G1 := gb_trans G1 hg
          clear hg
          go_wp2_with fail
          refine (one_any _).mono ?_
          rintro e w15 ⟨fo, hfoe, rfl, hg⟩
          have okfo : fo.Ok := by rw [hfoe.out]; exact one_right.ok
          replace hfa := hfa.grown hg (by simp)
          replace hfv := hfv.grown hg (by simp)
          replace hfu := hfu.grown hg (by simp)
          replace hfr := hfr.grown hg (by simp)
          replace hfs := hfs.grown hg (by simp)
          replace G1 := gb_trans G1 hg
          clear hg
          go_wp2_with fail
          refine (root_val fd fo false _ (HT.out.grown G1) okfd okfo (by rw [hfde.out, hfoe.out]; exact HO2.out)).mono ?_
          rintro e w16 ⟨fq, _, rfl, hg⟩
          replace hfa := hfa.grown hg (by simp)
          replace hfv := hfv.grown hg (by simp)
          replace hfu := hfu.grown hg (by simp)
          replace hfr := hfr.grown hg (by simp)
          replace hfs := hfs.grown hg (by simp)
          replace G1 := gb_alloc (gb_trans G1 hg) (.cells #[.int .u64 fq.x0, .int .u64 fq.x1, .int .u64 fq.x2, .int .u64 fq.x3, .int .u64 fq.x4] 24)
          replace hfa := hfa.alloc (.cells #[.int .u64 fq.x0, .int .u64 fq.x1, .int .u64 fq.x2, .int .u64 fq.x3, .int .u64 fq.x4] 24)
          replace hfv := hfv.alloc (.cells #[.int .u64 fq.x0, .int .u64 fq.x1, .int .u64 fq.x2, .int .u64 fq.x3, .int .u64 fq.x4] 24)
          replace hfu := hfu.alloc (.cells #[.int .u64 fq.x0, .int .u64 fq.x1, .int .u64 fq.x2, .int .u64 fq.x3, .int .u64 fq.x4] 24)
          replace hfr := hfr.alloc (.cells #[.int .u64 fq.x0, .int .u64 fq.x1, .int .u64 fq.x2, .int .u64 fq.x3, .int .u64 fq.x4] 24)
          replace hfs := hfs.alloc (.cells #[.int .u64 fq.x0, .int .u64 fq.x1, .int .u64 fq.x2, .int .u64 fq.x3, .int .u64 fq.x4] 24)
          clear hg
          go_wp2_with fail
          obtain ⟨W13, hW13⟩ : ∃ W, W = w16.alloc (.cells #[.int .u64 fq.x0, .int .u64 fq.x1, .int .u64 fq.x2, .int .u64 fq.x3, .int .u64 fq.x4] 24) := ⟨_, rfl⟩
          rw [← hW13] at G1 hfa hfv hfu hfr hfs ⊢
          clear hW13
          have G13 := G1
          have HT13 := Lib.hid (HT.out.grown G1)
          have hB13 : EnvB W13 W13.heap.size [(w0.heap.size, fa), (w0.heap.size + 1, fv), (Bu, fu), (v6.heap.size, fr), (Bs, fs)] [] W13 := ⟨gb_refl _ _, by
            intro p hp
            simp only [List.mem_cons, List.not_mem_nil, or_false] at hp
            rcases hp with rfl | rfl | rfl | rfl | rfl
            · exact hfa
            · exact hfv
            · exact hfu
            · exact hfr
            · exact hfs, by simp, by
            intro p hp
            simp only [List.mem_cons, List.not_mem_nil, or_false] at hp
            rcases hp with rfl | rfl | rfl | rfl | rfl
            · exact hfa.lt
            · exact hfv.lt
            · exact hfu.lt
            · exact hfr.lt
            · exact hfs.lt, Nat.le_refl _, Nat.le_refl _⟩
          clear hfa hfv hfu hfr hfs G1
          have HQ : Hid (decide (Fe.m (Fe.sqF fs) = Fe.m fa) = true ∧ decide (Fe.m fs % 2 = 1) = false) := Lib.hid (by
            obtain ⟨h1, h2, h3⟩ := root_says one_right HO.out
            rw [← ES.out] at h1 h2 h3
            rw [one_m, Nat.mul_one] at h3
            exact ⟨dt (by rw [Fe.sq_m h1, h3]), df (by omega)⟩)
          have hsame := roots_same HRA.out HRV.out hzv
          rw [← ER.out] at hsame
          by_cases hsa : Fe.m fr = Fe.m fa
          · have HSa : Hid (decide (Fe.m fr = Fe.m fa) = true) := Lib.hid (dt hsa)
            clear hsa hsame
            refine wp_region_flow3 (items3 (Okb W13 [(w0.heap.size, fa), (w0.heap.size + 1, fv), (Bu, fu), (v6.heap.size, fr), (Bs, fs)]) [.any, .any, .any, .any, .val (.bool true), .any, .any, .any, .any, .any, .any, .any, .any, .any, .any, .any, .any, .any, .any, .any, .any, .any, .any, .any, .any, .any, .any, .any, .any, .any, .any, .any, .any, .any, .any, .any, .any, .any, .any, .any, .any, .any, .any, .any, .any, .any, .any, .any, .any, .any, .any, .any, .any, .any, .any, .any, .any, .any, .any, .any, .any, .any, .any, .any, .any, .any, .any, .any, .any, .any, .any, .any, .any, .any, .any, .any, .any, .any, .any, .val (.bool true), .val (.bool true), .val (fr.v), .val (fa.v), .val (.bool true), .val (.bool true), .val undef, .val undef, .val undef, .val undef, .val (.bool true), .val (.bool true), .val (.bool true), .val (.bool true), .val (.bool false), .val (.bool true), .val (.bool true), .val (.bool true), .val (.bool true), .val (.bool false), .val (.bool false), .val (fs.v), .val ((Fe.sqF fs).v), .val (fa.v), .val (.bool true), .val (.bool true), .val (fs.v), .val (.bool false), .val (.bool true), .val (.bool true), .val (.bool true), .val (.bool true)]) (fun j =>  0) (Stored3 (Okb W13 [(w0.heap.size, fa), (w0.heap.size + 1, fv), (Bu, fu), (v6.heap.size, fr), (Bs, fs)]) (fun j =>  Fe.zeroF)) (EnvB W13 W13.heap.size [(w0.heap.size, fa), (w0.heap.size + 1, fv), (Bu, fu), (v6.heap.size, fr), (Bs, fs)] []) [] (by kernel_rfl) (by kernel_rfl) (by kernel_rfl) (hB13.grown (gb_drewn _)) (fun s hs => by cases hs) (by kernel_rfl) ?_ ?_
            · refine ⟨fe3_value rfl (by decide) fun a w h => ?_, ?_⟩
              · have e7 : a.tmps.getD 7 undef = .bool true := h.rest 7 (by kernel_rfl)
                refine ⟨wants_none rfl, .bool true, w, ?_, gb_refl _ _, rfl⟩
                clear h
                simp only [execOp, Act.eval, e7]
                go_simp
              refine ⟨fe3_value rfl (by decide) fun a w h => ?_, ?_⟩
              · have e79 : a.tmps.getD 79 undef = .bool true := h.dep 79 (by kernel_rfl)
                refine ⟨wants_none rfl, .bool true, w, ?_, gb_refl _ _, rfl⟩
                clear h
                simp only [execOp, Act.eval, e79]
                go_simp
              refine ⟨fe3_value rfl (by decide) fun a w h => ?_, ?_⟩
              · have e80 : a.tmps.getD 80 undef = .bool true := h.dep 80 (by kernel_rfl)
                have e6 : a.tmps.getD 6 undef = .pointer (some ⟨v6.heap.size, 0, none⟩) := h.rest 6 (by kernel_rfl)
                have hb := h.base.e (v6.heap.size, fr) (by simp)
                have c0 : w.cell? ⟨v6.heap.size, 0, none⟩ = some (.int .u64 fr.x0) := hb.cell (i := 0) rfl
                have c1 : w.cell? ⟨v6.heap.size, 1, none⟩ = some (.int .u64 fr.x1) := hb.cell (i := 1) rfl
                have c2 : w.cell? ⟨v6.heap.size, 2, none⟩ = some (.int .u64 fr.x2) := hb.cell (i := 2) rfl
                have c3 : w.cell? ⟨v6.heap.size, 3, none⟩ = some (.int .u64 fr.x3) := hb.cell (i := 3) rfl
                have c4 : w.cell? ⟨v6.heap.size, 4, none⟩ = some (.int .u64 fr.x4) := hb.cell (i := 4) rfl
                refine ⟨wants_some (d := 80) rfl rfl (by rw [h.size]; show 80 < 111; decide) e80, .agg #[.int .u64 fr.x0, .int .u64 fr.x1, .int .u64 fr.x2, .int .u64 fr.x3, .int .u64 fr.x4], w, ?_, gb_refl _ _, rfl⟩
                clear h hb
                simp only [execOp, Act.eval, e6]
                go_simp
              refine ⟨fe3_value rfl (by decide) fun a w h => ?_, ?_⟩
              · have e80 : a.tmps.getD 80 undef = .bool true := h.dep 80 (by kernel_rfl)
                have e2 : a.tmps.getD 2 undef = .pointer (some ⟨w0.heap.size, 0, none⟩) := h.rest 2 (by kernel_rfl)
                have hb := h.base.e (w0.heap.size, fa) (by simp)
                have c0 : w.cell? ⟨w0.heap.size, 0, none⟩ = some (.int .u64 fa.x0) := hb.cell (i := 0) rfl
                have c1 : w.cell? ⟨w0.heap.size, 1, none⟩ = some (.int .u64 fa.x1) := hb.cell (i := 1) rfl
                have c2 : w.cell? ⟨w0.heap.size, 2, none⟩ = some (.int .u64 fa.x2) := hb.cell (i := 2) rfl
                have c3 : w.cell? ⟨w0.heap.size, 3, none⟩ = some (.int .u64 fa.x3) := hb.cell (i := 3) rfl
                have c4 : w.cell? ⟨w0.heap.size, 4, none⟩ = some (.int .u64 fa.x4) := hb.cell (i := 4) rfl
                refine ⟨wants_some (d := 80) rfl rfl (by rw [h.size]; show 80 < 111; decide) e80, .agg #[.int .u64 fa.x0, .int .u64 fa.x1, .int .u64 fa.x2, .int .u64 fa.x3, .int .u64 fa.x4], w, ?_, gb_refl _ _, rfl⟩
                clear h hb
                simp only [execOp, Act.eval, e2]
                go_simp
              refine ⟨fe3_call rfl (by decide) fun a w h => ?_, ?_⟩
              · have e80 : a.tmps.getD 80 undef = .bool true := h.dep 80 (by kernel_rfl)
                have e81 : a.tmps.getD 81 undef = fr.v := h.dep 81 (by kernel_rfl)
                have e81x : a.tmps[81]?.getD undef = fr.v := by simpa using e81
                have e82 : a.tmps.getD 82 undef = fa.v := h.dep 82 (by kernel_rfl)
                have e82x : a.tmps[82]?.getD undef = fa.v := by simpa using e82
                have hb := h.base
                refine ⟨wants_some (d := 80) rfl rfl (by rw [h.size]; show 80 < 111; decide) e80, 13, #[fr.v, fa.v], ?_, ?_⟩
                · clear h hb e81 e82
                  go_simp
                · refine (same_val fr fa true w okfr okfa (HSa.out)).mono ?_
                  intro e w1 hp
                  obtain ⟨rfl, hg⟩ := hp
                  exact ⟨_, rfl, hg, rfl⟩
              refine ⟨fe3_value rfl (by decide) fun a w h => ?_, ?_⟩
              · have e80 : a.tmps.getD 80 undef = .bool true := h.dep 80 (by kernel_rfl)
                have e83 : a.tmps.getD 83 undef = .bool true := h.dep 83 (by kernel_rfl)
                refine ⟨wants_some (d := 80) rfl rfl (by rw [h.size]; show 80 < 111; decide) e80, .bool true, w, ?_, gb_refl _ _, rfl⟩
                clear h
                simp only [execOp, Act.eval, e83]
                go_simp
              refine ⟨flow3_skipped rfl (by decide) (fun w _ => rfl) fun a w h => ?_, ?_⟩
              · have e84 : a.tmps.getD 84 undef = .bool true := h.dep 84 (by kernel_rfl)
                exact not_wants (d := 84) rfl rfl (by rw [h.size]; show 84 < 111; decide) e84 (by decide)
              refine ⟨flow3_skipped rfl (by decide) (fun w _ => rfl) fun a w h => ?_, ?_⟩
              · have e84 : a.tmps.getD 84 undef = .bool true := h.dep 84 (by kernel_rfl)
                exact not_wants (d := 84) rfl rfl (by rw [h.size]; show 84 < 111; decide) e84 (by decide)
              refine ⟨flow3_skipped rfl (by decide) (fun w _ => rfl) fun a w h => ?_, ?_⟩
              · have e84 : a.tmps.getD 84 undef = .bool true := h.dep 84 (by kernel_rfl)
                exact not_wants (d := 84) rfl rfl (by rw [h.size]; show 84 < 111; decide) e84 (by decide)
              refine ⟨flow3_skipped rfl (by decide) (fun w _ => rfl) fun a w h => ?_, ?_⟩
              · have e84 : a.tmps.getD 84 undef = .bool true := h.dep 84 (by kernel_rfl)
                exact not_wants (d := 84) rfl rfl (by rw [h.size]; show 84 < 111; decide) e84 (by decide)
              refine ⟨fe3_value rfl (by decide) fun a w h => ?_, ?_⟩
              · have e80 : a.tmps.getD 80 undef = .bool true := h.dep 80 (by kernel_rfl)
                have e84 : a.tmps.getD 84 undef = .bool true := h.dep 84 (by kernel_rfl)
                refine ⟨wants_some (d := 80) rfl rfl (by rw [h.size]; show 80 < 111; decide) e80, .bool true, w, ?_, gb_refl _ _, rfl⟩
                clear h
                simp only [execOp, Act.eval, e84]
                go_simp
              refine ⟨fe3_value rfl (by decide) fun a w h => ?_, ?_⟩
              · have e80 : a.tmps.getD 80 undef = .bool true := h.dep 80 (by kernel_rfl)
                have e89 : a.tmps.getD 89 undef = .bool true := h.dep 89 (by kernel_rfl)
                refine ⟨wants_none rfl, .bool true, w, ?_, gb_refl _ _, rfl⟩
                clear h
                simp only [execOp, Act.eval, e80, e89]
                go_simp
              refine ⟨fe3_value rfl (by decide) fun a w h => ?_, ?_⟩
              · have e90 : a.tmps.getD 90 undef = .bool true := h.dep 90 (by kernel_rfl)
                refine ⟨wants_none rfl, .bool true, w, ?_, gb_refl _ _, rfl⟩
                clear h
                simp only [execOp, Act.eval, e90]
                go_simp
              refine ⟨fe3_value rfl (by decide) fun a w h => ?_, ?_⟩
              · have e91 : a.tmps.getD 91 undef = .bool true := h.dep 91 (by kernel_rfl)
                have e9 : a.tmps.getD 9 undef = .bool true := h.rest 9 (by kernel_rfl)
                refine ⟨wants_some (d := 91) rfl rfl (by rw [h.size]; show 91 < 111; decide) e91, .bool true, w, ?_, gb_refl _ _, rfl⟩
                clear h
                simp only [execOp, Act.eval, e9]
                go_simp
              refine ⟨fe3_value rfl (by decide) fun a w h => ?_, ?_⟩
              · have e91 : a.tmps.getD 91 undef = .bool true := h.dep 91 (by kernel_rfl)
                have e11 : a.tmps.getD 11 undef = .bool false := h.rest 11 (by kernel_rfl)
                refine ⟨wants_some (d := 91) rfl rfl (by rw [h.size]; show 91 < 111; decide) e91, .bool false, w, ?_, gb_refl _ _, rfl⟩
                clear h
                simp only [execOp, Act.eval, e11]
                go_simp
              refine ⟨fe3_value rfl (by decide) fun a w h => ?_, ?_⟩
              · have e91 : a.tmps.getD 91 undef = .bool true := h.dep 91 (by kernel_rfl)
                have e92 : a.tmps.getD 92 undef = .bool true := h.dep 92 (by kernel_rfl)
                have e93 : a.tmps.getD 93 undef = .bool false := h.dep 93 (by kernel_rfl)
                refine ⟨wants_some (d := 91) rfl rfl (by rw [h.size]; show 91 < 111; decide) e91, .bool true, w, ?_, gb_refl _ _, rfl⟩
                clear h
                simp only [execOp, Act.eval, e92, e93]
                go_simp
              refine ⟨fe3_value rfl (by decide) fun a w h => ?_, ?_⟩
              · have e91 : a.tmps.getD 91 undef = .bool true := h.dep 91 (by kernel_rfl)
                have e94 : a.tmps.getD 94 undef = .bool true := h.dep 94 (by kernel_rfl)
                refine ⟨wants_none rfl, .bool true, w, ?_, gb_refl _ _, rfl⟩
                clear h
                simp only [execOp, Act.eval, e91, e94]
                go_simp
              refine ⟨fe3_value rfl (by decide) fun a w h => ?_, ?_⟩
              · have e95 : a.tmps.getD 95 undef = .bool true := h.dep 95 (by kernel_rfl)
                refine ⟨wants_none rfl, .bool true, w, ?_, gb_refl _ _, rfl⟩
                clear h
                simp only [execOp, Act.eval, e95]
                go_simp
              refine ⟨fe3_value rfl (by decide) fun a w h => ?_, ?_⟩
              · have e96 : a.tmps.getD 96 undef = .bool true := h.dep 96 (by kernel_rfl)
                have e9 : a.tmps.getD 9 undef = .bool true := h.rest 9 (by kernel_rfl)
                refine ⟨wants_some (d := 96) rfl rfl (by rw [h.size]; show 96 < 111; decide) e96, .bool true, w, ?_, gb_refl _ _, rfl⟩
                clear h
                simp only [execOp, Act.eval, e9]
                go_simp
              refine ⟨fe3_value rfl (by decide) fun a w h => ?_, ?_⟩
              · have e96 : a.tmps.getD 96 undef = .bool true := h.dep 96 (by kernel_rfl)
                have e97 : a.tmps.getD 97 undef = .bool true := h.dep 97 (by kernel_rfl)
                refine ⟨wants_some (d := 96) rfl rfl (by rw [h.size]; show 96 < 111; decide) e96, .bool false, w, ?_, gb_refl _ _, rfl⟩
                clear h
                simp only [execOp, Act.eval, e97]
                go_simp
              refine ⟨fe3_value rfl (by decide) fun a w h => ?_, ?_⟩
              · have e96 : a.tmps.getD 96 undef = .bool true := h.dep 96 (by kernel_rfl)
                have e98 : a.tmps.getD 98 undef = .bool false := h.dep 98 (by kernel_rfl)
                refine ⟨wants_some (d := 96) rfl rfl (by rw [h.size]; show 96 < 111; decide) e96, .bool false, w, ?_, gb_refl _ _, rfl⟩
                clear h
                simp only [execOp, Act.eval, e98]
                go_simp
              refine ⟨fe3_value rfl (by decide) fun a w h => ?_, ?_⟩
              · have e99 : a.tmps.getD 99 undef = .bool false := h.dep 99 (by kernel_rfl)
                have e8 : a.tmps.getD 8 undef = .pointer (some ⟨Bs, 0, none⟩) := h.rest 8 (by kernel_rfl)
                have hb := h.base.e (Bs, fs) (by simp)
                have c0 : w.cell? ⟨Bs, 0, none⟩ = some (.int .u64 fs.x0) := hb.cell (i := 0) rfl
                have c1 : w.cell? ⟨Bs, 1, none⟩ = some (.int .u64 fs.x1) := hb.cell (i := 1) rfl
                have c2 : w.cell? ⟨Bs, 2, none⟩ = some (.int .u64 fs.x2) := hb.cell (i := 2) rfl
                have c3 : w.cell? ⟨Bs, 3, none⟩ = some (.int .u64 fs.x3) := hb.cell (i := 3) rfl
                have c4 : w.cell? ⟨Bs, 4, none⟩ = some (.int .u64 fs.x4) := hb.cell (i := 4) rfl
                refine ⟨wants_some (d := 99) rfl rfl (by rw [h.size]; show 99 < 111; decide) e99, .agg #[.int .u64 fs.x0, .int .u64 fs.x1, .int .u64 fs.x2, .int .u64 fs.x3, .int .u64 fs.x4], w, ?_, gb_refl _ _, rfl⟩
                clear h hb
                simp only [execOp, Act.eval, e8]
                go_simp
              refine ⟨fe3_call rfl (by decide) fun a w h => ?_, ?_⟩
              · have e99 : a.tmps.getD 99 undef = .bool false := h.dep 99 (by kernel_rfl)
                have e100 : a.tmps.getD 100 undef = fs.v := h.dep 100 (by kernel_rfl)
                have e100x : a.tmps[100]?.getD undef = fs.v := by simpa using e100
                have hb := h.base
                refine ⟨wants_some (d := 99) rfl rfl (by rw [h.size]; show 99 < 111; decide) e99, 15, #[fs.v], ?_, ?_⟩
                · clear h hb e100
                  go_simp
                · refine (sq_fe fs w okfs).mono ?_
                  intro e w1 hp
                  obtain ⟨rfl, hg⟩ := feOut_is hp
                  exact ⟨_, rfl, hg, rfl⟩
              refine ⟨fe3_value rfl (by decide) fun a w h => ?_, ?_⟩
              · have e99 : a.tmps.getD 99 undef = .bool false := h.dep 99 (by kernel_rfl)
                have e2 : a.tmps.getD 2 undef = .pointer (some ⟨w0.heap.size, 0, none⟩) := h.rest 2 (by kernel_rfl)
                have hb := h.base.e (w0.heap.size, fa) (by simp)
                have c0 : w.cell? ⟨w0.heap.size, 0, none⟩ = some (.int .u64 fa.x0) := hb.cell (i := 0) rfl
                have c1 : w.cell? ⟨w0.heap.size, 1, none⟩ = some (.int .u64 fa.x1) := hb.cell (i := 1) rfl
                have c2 : w.cell? ⟨w0.heap.size, 2, none⟩ = some (.int .u64 fa.x2) := hb.cell (i := 2) rfl
                have c3 : w.cell? ⟨w0.heap.size, 3, none⟩ = some (.int .u64 fa.x3) := hb.cell (i := 3) rfl
                have c4 : w.cell? ⟨w0.heap.size, 4, none⟩ = some (.int .u64 fa.x4) := hb.cell (i := 4) rfl
                refine ⟨wants_some (d := 99) rfl rfl (by rw [h.size]; show 99 < 111; decide) e99, .agg #[.int .u64 fa.x0, .int .u64 fa.x1, .int .u64 fa.x2, .int .u64 fa.x3, .int .u64 fa.x4], w, ?_, gb_refl _ _, rfl⟩
                clear h hb
                simp only [execOp, Act.eval, e2]
                go_simp
              refine ⟨fe3_call rfl (by decide) fun a w h => ?_, ?_⟩
              · have e99 : a.tmps.getD 99 undef = .bool false := h.dep 99 (by kernel_rfl)
                have e101 : a.tmps.getD 101 undef = (Fe.sqF fs).v := h.dep 101 (by kernel_rfl)
                have e101x : a.tmps[101]?.getD undef = (Fe.sqF fs).v := by simpa using e101
                have e102 : a.tmps.getD 102 undef = fa.v := h.dep 102 (by kernel_rfl)
                have e102x : a.tmps[102]?.getD undef = fa.v := by simpa using e102
                have hb := h.base
                refine ⟨wants_some (d := 99) rfl rfl (by rw [h.size]; show 99 < 111; decide) e99, 13, #[(Fe.sqF fs).v, fa.v], ?_, ?_⟩
                · clear h hb e101 e102
                  go_simp
                · refine (same_val (Fe.sqF fs) fa true w (Fe.sq_right _).ok okfa (HQ.out.1)).mono ?_
                  intro e w1 hp
                  obtain ⟨rfl, hg⟩ := hp
                  exact ⟨_, rfl, hg, rfl⟩
              refine ⟨fe3_value rfl (by decide) fun a w h => ?_, ?_⟩
              · have e99 : a.tmps.getD 99 undef = .bool false := h.dep 99 (by kernel_rfl)
                have e103 : a.tmps.getD 103 undef = .bool true := h.dep 103 (by kernel_rfl)
                refine ⟨wants_some (d := 99) rfl rfl (by rw [h.size]; show 99 < 111; decide) e99, .bool true, w, ?_, gb_refl _ _, rfl⟩
                clear h
                simp only [execOp, Act.eval, e103]
                go_simp
              refine ⟨fe3_value rfl (by decide) fun a w h => ?_, ?_⟩
              · have e104 : a.tmps.getD 104 undef = .bool true := h.dep 104 (by kernel_rfl)
                have e8 : a.tmps.getD 8 undef = .pointer (some ⟨Bs, 0, none⟩) := h.rest 8 (by kernel_rfl)
                have hb := h.base.e (Bs, fs) (by simp)
                have c0 : w.cell? ⟨Bs, 0, none⟩ = some (.int .u64 fs.x0) := hb.cell (i := 0) rfl
                have c1 : w.cell? ⟨Bs, 1, none⟩ = some (.int .u64 fs.x1) := hb.cell (i := 1) rfl
                have c2 : w.cell? ⟨Bs, 2, none⟩ = some (.int .u64 fs.x2) := hb.cell (i := 2) rfl
                have c3 : w.cell? ⟨Bs, 3, none⟩ = some (.int .u64 fs.x3) := hb.cell (i := 3) rfl
                have c4 : w.cell? ⟨Bs, 4, none⟩ = some (.int .u64 fs.x4) := hb.cell (i := 4) rfl
                refine ⟨wants_some (d := 104) rfl rfl (by rw [h.size]; show 104 < 111; decide) e104, .agg #[.int .u64 fs.x0, .int .u64 fs.x1, .int .u64 fs.x2, .int .u64 fs.x3, .int .u64 fs.x4], w, ?_, gb_refl _ _, rfl⟩
                clear h hb
                simp only [execOp, Act.eval, e8]
                go_simp
              refine ⟨fe3_call rfl (by decide) fun a w h => ?_, ?_⟩
              · have e104 : a.tmps.getD 104 undef = .bool true := h.dep 104 (by kernel_rfl)
                have e105 : a.tmps.getD 105 undef = fs.v := h.dep 105 (by kernel_rfl)
                have e105x : a.tmps[105]?.getD undef = fs.v := by simpa using e105
                have hb := h.base
                refine ⟨wants_some (d := 104) rfl rfl (by rw [h.size]; show 104 < 111; decide) e104, 25, #[fs.v], ?_, ?_⟩
                · clear h hb e105
                  go_simp
                · refine (odd_val fs false w okfs (HQ.out.2)).mono ?_
                  intro e w1 hp
                  obtain ⟨rfl, hg⟩ := hp
                  exact ⟨_, rfl, hg, rfl⟩
              refine ⟨fe3_value rfl (by decide) fun a w h => ?_, ?_⟩
              · have e104 : a.tmps.getD 104 undef = .bool true := h.dep 104 (by kernel_rfl)
                have e106 : a.tmps.getD 106 undef = .bool false := h.dep 106 (by kernel_rfl)
                refine ⟨wants_some (d := 104) rfl rfl (by rw [h.size]; show 104 < 111; decide) e104, .bool true, w, ?_, gb_refl _ _, rfl⟩
                clear h
                simp only [execOp, Act.eval, e106]
                go_simp
              refine ⟨fe3_value rfl (by decide) fun a w h => ?_, ?_⟩
              · have e99 : a.tmps.getD 99 undef = .bool false := h.dep 99 (by kernel_rfl)
                have e104 : a.tmps.getD 104 undef = .bool true := h.dep 104 (by kernel_rfl)
                have e107 : a.tmps.getD 107 undef = .bool true := h.dep 107 (by kernel_rfl)
                refine ⟨wants_some (d := 99) rfl rfl (by rw [h.size]; show 99 < 111; decide) e99, .bool true, w, ?_, gb_refl _ _, rfl⟩
                clear h
                simp only [execOp, Act.eval, e104, e107]
                go_simp
              refine ⟨fe3_value rfl (by decide) fun a w h => ?_, ?_⟩
              · have e96 : a.tmps.getD 96 undef = .bool true := h.dep 96 (by kernel_rfl)
                have e99 : a.tmps.getD 99 undef = .bool false := h.dep 99 (by kernel_rfl)
                have e108 : a.tmps.getD 108 undef = .bool true := h.dep 108 (by kernel_rfl)
                refine ⟨wants_some (d := 96) rfl rfl (by rw [h.size]; show 96 < 111; decide) e96, .bool true, w, ?_, gb_refl _ _, rfl⟩
                clear h
                simp only [execOp, Act.eval, e99, e108]
                go_simp
              refine ⟨fe3_value rfl (by decide) fun a w h => ?_, ?_⟩
              · have e96 : a.tmps.getD 96 undef = .bool true := h.dep 96 (by kernel_rfl)
                have e109 : a.tmps.getD 109 undef = .bool true := h.dep 109 (by kernel_rfl)
                refine ⟨wants_none rfl, .bool true, w, ?_, gb_refl _ _, rfl⟩
                clear h
                simp only [execOp, Act.eval, e96, e109]
                go_simp
              refine ⟨fe3_value rfl (by decide) fun a w h => ?_, ?_⟩
              · have e110 : a.tmps.getD 110 undef = .bool true := h.dep 110 (by kernel_rfl)
                refine ⟨wants_none rfl, .bool true, w, ?_, gb_refl _ _, rfl⟩
                clear h
                simp only [execOp, Act.eval, e110]
                go_simp
              trivial
            · intro q w hB hsz hdf hrest hslots hmems
              have e4 : q.tmps.getD 4 undef = .bool true := hslots 4 (by kernel_rfl)
              have G := gb_trans G13 hB.g
              replace hdf : q.defers = [] := hdf
              clear hB hsz hrest hslots hmems
              have e4x : q.tmps[4]?.getD undef = .bool true := by simpa using e4
              go_wp2_with fail
              refine bodyPost_ret (v := .bool true) ?_ hdf ⟨rfl, G⟩
              simp [results, Tryd.results7, go_sem, e4x]
          · have HSa : Hid (decide (Fe.m fr = Fe.m fa) = false) := Lib.hid (df hsa)
            have HSn : Hid (decide (Fe.m fr = Fe.m (Fe.negF fa)) = true) := Lib.hid (dt (hsame.resolve_left hsa))
            clear hsa hsame
            refine wp_region_flow3 (items3 (Okb W13 [(w0.heap.size, fa), (w0.heap.size + 1, fv), (Bu, fu), (v6.heap.size, fr), (Bs, fs)]) [.any, .any, .any, .any, .val (.bool true), .any, .any, .any, .any, .any, .any, .any, .any, .any, .any, .any, .any, .any, .any, .any, .any, .any, .any, .any, .any, .any, .any, .any, .any, .any, .any, .any, .any, .any, .any, .any, .any, .any, .any, .any, .any, .any, .any, .any, .any, .any, .any, .any, .any, .any, .any, .any, .any, .any, .any, .any, .any, .any, .any, .any, .any, .any, .any, .any, .any, .any, .any, .any, .any, .any, .any, .any, .any, .any, .any, .any, .any, .any, .any, .val (.bool true), .val (.bool true), .val (fr.v), .val (fa.v), .val (.bool false), .val (.bool false), .val (fr.v), .val (fa.v), .val ((Fe.negF fa).v), .val (.bool true), .val (.bool true), .val (.bool true), .val (.bool true), .val (.bool true), .val (.bool false), .val (.bool true), .val (.bool true), .val (.bool true), .val (.bool true), .val (.bool false), .val (.bool false), .val (fs.v), .val ((Fe.sqF fs).v), .val (fa.v), .val (.bool true), .val (.bool true), .val (fs.v), .val (.bool false), .val (.bool true), .val (.bool true), .val (.bool true), .val (.bool true)]) (fun j =>  0) (Stored3 (Okb W13 [(w0.heap.size, fa), (w0.heap.size + 1, fv), (Bu, fu), (v6.heap.size, fr), (Bs, fs)]) (fun j =>  Fe.zeroF)) (EnvB W13 W13.heap.size [(w0.heap.size, fa), (w0.heap.size + 1, fv), (Bu, fu), (v6.heap.size, fr), (Bs, fs)] []) [] (by kernel_rfl) (by kernel_rfl) (by kernel_rfl) (hB13.grown (gb_drewn _)) (fun s hs => by cases hs) (by kernel_rfl) ?_ ?_
            · refine ⟨fe3_value rfl (by decide) fun a w h => ?_, ?_⟩
              · have e7 : a.tmps.getD 7 undef = .bool true := h.rest 7 (by kernel_rfl)
                refine ⟨wants_none rfl, .bool true, w, ?_, gb_refl _ _, rfl⟩
                clear h
                simp only [execOp, Act.eval, e7]
                go_simp
              refine ⟨fe3_value rfl (by decide) fun a w h => ?_, ?_⟩
              · have e79 : a.tmps.getD 79 undef = .bool true := h.dep 79 (by kernel_rfl)
                refine ⟨wants_none rfl, .bool true, w, ?_, gb_refl _ _, rfl⟩
                clear h
                simp only [execOp, Act.eval, e79]
                go_simp
              refine ⟨fe3_value rfl (by decide) fun a w h => ?_, ?_⟩
              · have e80 : a.tmps.getD 80 undef = .bool true := h.dep 80 (by kernel_rfl)
                have e6 : a.tmps.getD 6 undef = .pointer (some ⟨v6.heap.size, 0, none⟩) := h.rest 6 (by kernel_rfl)
                have hb := h.base.e (v6.heap.size, fr) (by simp)
                have c0 : w.cell? ⟨v6.heap.size, 0, none⟩ = some (.int .u64 fr.x0) := hb.cell (i := 0) rfl
                have c1 : w.cell? ⟨v6.heap.size, 1, none⟩ = some (.int .u64 fr.x1) := hb.cell (i := 1) rfl
                have c2 : w.cell? ⟨v6.heap.size, 2, none⟩ = some (.int .u64 fr.x2) := hb.cell (i := 2) rfl
                have c3 : w.cell? ⟨v6.heap.size, 3, none⟩ = some (.int .u64 fr.x3) := hb.cell (i := 3) rfl
                have c4 : w.cell? ⟨v6.heap.size, 4, none⟩ = some (.int .u64 fr.x4) := hb.cell (i := 4) rfl
                refine ⟨wants_some (d := 80) rfl rfl (by rw [h.size]; show 80 < 111; decide) e80, .agg #[.int .u64 fr.x0, .int .u64 fr.x1, .int .u64 fr.x2, .int .u64 fr.x3, .int .u64 fr.x4], w, ?_, gb_refl _ _, rfl⟩
                clear h hb
                simp only [execOp, Act.eval, e6]
                go_simp
              refine ⟨fe3_value rfl (by decide) fun a w h => ?_, ?_⟩
              · have e80 : a.tmps.getD 80 undef = .bool true := h.dep 80 (by kernel_rfl)
                have e2 : a.tmps.getD 2 undef = .pointer (some ⟨w0.heap.size, 0, none⟩) := h.rest 2 (by kernel_rfl)
                have hb := h.base.e (w0.heap.size, fa) (by simp)
                have c0 : w.cell? ⟨w0.heap.size, 0, none⟩ = some (.int .u64 fa.x0) := hb.cell (i := 0) rfl
                have c1 : w.cell? ⟨w0.heap.size, 1, none⟩ = some (.int .u64 fa.x1) := hb.cell (i := 1) rfl
                have c2 : w.cell? ⟨w0.heap.size, 2, none⟩ = some (.int .u64 fa.x2) := hb.cell (i := 2) rfl
                have c3 : w.cell? ⟨w0.heap.size, 3, none⟩ = some (.int .u64 fa.x3) := hb.cell (i := 3) rfl
                have c4 : w.cell? ⟨w0.heap.size, 4, none⟩ = some (.int .u64 fa.x4) := hb.cell (i := 4) rfl
                refine ⟨wants_some (d := 80) rfl rfl (by rw [h.size]; show 80 < 111; decide) e80, .agg #[.int .u64 fa.x0, .int .u64 fa.x1, .int .u64 fa.x2, .int .u64 fa.x3, .int .u64 fa.x4], w, ?_, gb_refl _ _, rfl⟩
                clear h hb
                simp only [execOp, Act.eval, e2]
                go_simp
              refine ⟨fe3_call rfl (by decide) fun a w h => ?_, ?_⟩
              · have e80 : a.tmps.getD 80 undef = .bool true := h.dep 80 (by kernel_rfl)
                have e81 : a.tmps.getD 81 undef = fr.v := h.dep 81 (by kernel_rfl)
                have e81x : a.tmps[81]?.getD undef = fr.v := by simpa using e81
                have e82 : a.tmps.getD 82 undef = fa.v := h.dep 82 (by kernel_rfl)
                have e82x : a.tmps[82]?.getD undef = fa.v := by simpa using e82
                have hb := h.base
                refine ⟨wants_some (d := 80) rfl rfl (by rw [h.size]; show 80 < 111; decide) e80, 13, #[fr.v, fa.v], ?_, ?_⟩
                · clear h hb e81 e82
                  go_simp
                · refine (same_val fr fa false w okfr okfa (HSa.out)).mono ?_
                  intro e w1 hp
                  obtain ⟨rfl, hg⟩ := hp
                  exact ⟨_, rfl, hg, rfl⟩
              refine ⟨fe3_value rfl (by decide) fun a w h => ?_, ?_⟩
              · have e80 : a.tmps.getD 80 undef = .bool true := h.dep 80 (by kernel_rfl)
                have e83 : a.tmps.getD 83 undef = .bool false := h.dep 83 (by kernel_rfl)
                refine ⟨wants_some (d := 80) rfl rfl (by rw [h.size]; show 80 < 111; decide) e80, .bool false, w, ?_, gb_refl _ _, rfl⟩
                clear h
                simp only [execOp, Act.eval, e83]
                go_simp
              refine ⟨fe3_value rfl (by decide) fun a w h => ?_, ?_⟩
              · have e84 : a.tmps.getD 84 undef = .bool false := h.dep 84 (by kernel_rfl)
                have e6 : a.tmps.getD 6 undef = .pointer (some ⟨v6.heap.size, 0, none⟩) := h.rest 6 (by kernel_rfl)
                have hb := h.base.e (v6.heap.size, fr) (by simp)
                have c0 : w.cell? ⟨v6.heap.size, 0, none⟩ = some (.int .u64 fr.x0) := hb.cell (i := 0) rfl
                have c1 : w.cell? ⟨v6.heap.size, 1, none⟩ = some (.int .u64 fr.x1) := hb.cell (i := 1) rfl
                have c2 : w.cell? ⟨v6.heap.size, 2, none⟩ = some (.int .u64 fr.x2) := hb.cell (i := 2) rfl
                have c3 : w.cell? ⟨v6.heap.size, 3, none⟩ = some (.int .u64 fr.x3) := hb.cell (i := 3) rfl
                have c4 : w.cell? ⟨v6.heap.size, 4, none⟩ = some (.int .u64 fr.x4) := hb.cell (i := 4) rfl
                refine ⟨wants_some (d := 84) rfl rfl (by rw [h.size]; show 84 < 111; decide) e84, .agg #[.int .u64 fr.x0, .int .u64 fr.x1, .int .u64 fr.x2, .int .u64 fr.x3, .int .u64 fr.x4], w, ?_, gb_refl _ _, rfl⟩
                clear h hb
                simp only [execOp, Act.eval, e6]
                go_simp
              refine ⟨fe3_value rfl (by decide) fun a w h => ?_, ?_⟩
              · have e84 : a.tmps.getD 84 undef = .bool false := h.dep 84 (by kernel_rfl)
                have e2 : a.tmps.getD 2 undef = .pointer (some ⟨w0.heap.size, 0, none⟩) := h.rest 2 (by kernel_rfl)
                have hb := h.base.e (w0.heap.size, fa) (by simp)
                have c0 : w.cell? ⟨w0.heap.size, 0, none⟩ = some (.int .u64 fa.x0) := hb.cell (i := 0) rfl
                have c1 : w.cell? ⟨w0.heap.size, 1, none⟩ = some (.int .u64 fa.x1) := hb.cell (i := 1) rfl
                have c2 : w.cell? ⟨w0.heap.size, 2, none⟩ = some (.int .u64 fa.x2) := hb.cell (i := 2) rfl
                have c3 : w.cell? ⟨w0.heap.size, 3, none⟩ = some (.int .u64 fa.x3) := hb.cell (i := 3) rfl
                have c4 : w.cell? ⟨w0.heap.size, 4, none⟩ = some (.int .u64 fa.x4) := hb.cell (i := 4) rfl
                refine ⟨wants_some (d := 84) rfl rfl (by rw [h.size]; show 84 < 111; decide) e84, .agg #[.int .u64 fa.x0, .int .u64 fa.x1, .int .u64 fa.x2, .int .u64 fa.x3, .int .u64 fa.x4], w, ?_, gb_refl _ _, rfl⟩
                clear h hb
                simp only [execOp, Act.eval, e2]
                go_simp
              refine ⟨fe3_call rfl (by decide) fun a w h => ?_, ?_⟩
              · have e84 : a.tmps.getD 84 undef = .bool false := h.dep 84 (by kernel_rfl)
                have e86 : a.tmps.getD 86 undef = fa.v := h.dep 86 (by kernel_rfl)
                have e86x : a.tmps[86]?.getD undef = fa.v := by simpa using e86
                have hb := h.base
                refine ⟨wants_some (d := 84) rfl rfl (by rw [h.size]; show 84 < 111; decide) e84, 14, #[fa.v], ?_, ?_⟩
                · clear h hb e86
                  go_simp
                · refine (neg_any fa w (HT13.out.grown hb.g) okfa).mono ?_
                  intro e w1 hp
                  obtain ⟨rfl, hg⟩ := feOut_is hp
                  exact ⟨_, rfl, hg, rfl⟩
              refine ⟨fe3_call rfl (by decide) fun a w h => ?_, ?_⟩
              · have e84 : a.tmps.getD 84 undef = .bool false := h.dep 84 (by kernel_rfl)
                have e85 : a.tmps.getD 85 undef = fr.v := h.dep 85 (by kernel_rfl)
                have e85x : a.tmps[85]?.getD undef = fr.v := by simpa using e85
                have e87 : a.tmps.getD 87 undef = (Fe.negF fa).v := h.dep 87 (by kernel_rfl)
                have e87x : a.tmps[87]?.getD undef = (Fe.negF fa).v := by simpa using e87
                have hb := h.base
                refine ⟨wants_some (d := 84) rfl rfl (by rw [h.size]; show 84 < 111; decide) e84, 13, #[fr.v, (Fe.negF fa).v], ?_, ?_⟩
                · clear h hb e85 e87
                  go_simp
                · refine (same_val fr (Fe.negF fa) true w okfr (Fe.neg_right _).ok (HSn.out)).mono ?_
                  intro e w1 hp
                  obtain ⟨rfl, hg⟩ := hp
                  exact ⟨_, rfl, hg, rfl⟩
              refine ⟨fe3_value rfl (by decide) fun a w h => ?_, ?_⟩
              · have e80 : a.tmps.getD 80 undef = .bool true := h.dep 80 (by kernel_rfl)
                have e84 : a.tmps.getD 84 undef = .bool false := h.dep 84 (by kernel_rfl)
                have e88 : a.tmps.getD 88 undef = .bool true := h.dep 88 (by kernel_rfl)
                refine ⟨wants_some (d := 80) rfl rfl (by rw [h.size]; show 80 < 111; decide) e80, .bool true, w, ?_, gb_refl _ _, rfl⟩
                clear h
                simp only [execOp, Act.eval, e84, e88]
                go_simp
              refine ⟨fe3_value rfl (by decide) fun a w h => ?_, ?_⟩
              · have e80 : a.tmps.getD 80 undef = .bool true := h.dep 80 (by kernel_rfl)
                have e89 : a.tmps.getD 89 undef = .bool true := h.dep 89 (by kernel_rfl)
                refine ⟨wants_none rfl, .bool true, w, ?_, gb_refl _ _, rfl⟩
                clear h
                simp only [execOp, Act.eval, e80, e89]
                go_simp
              refine ⟨fe3_value rfl (by decide) fun a w h => ?_, ?_⟩
              · have e90 : a.tmps.getD 90 undef = .bool true := h.dep 90 (by kernel_rfl)
                refine ⟨wants_none rfl, .bool true, w, ?_, gb_refl _ _, rfl⟩
                clear h
                simp only [execOp, Act.eval, e90]
                go_simp
              refine ⟨fe3_value rfl (by decide) fun a w h => ?_, ?_⟩
              · have e91 : a.tmps.getD 91 undef = .bool true := h.dep 91 (by kernel_rfl)
                have e9 : a.tmps.getD 9 undef = .bool true := h.rest 9 (by kernel_rfl)
                refine ⟨wants_some (d := 91) rfl rfl (by rw [h.size]; show 91 < 111; decide) e91, .bool true, w, ?_, gb_refl _ _, rfl⟩
                clear h
                simp only [execOp, Act.eval, e9]
                go_simp
              refine ⟨fe3_value rfl (by decide) fun a w h => ?_, ?_⟩
              · have e91 : a.tmps.getD 91 undef = .bool true := h.dep 91 (by kernel_rfl)
                have e11 : a.tmps.getD 11 undef = .bool false := h.rest 11 (by kernel_rfl)
                refine ⟨wants_some (d := 91) rfl rfl (by rw [h.size]; show 91 < 111; decide) e91, .bool false, w, ?_, gb_refl _ _, rfl⟩
                clear h
                simp only [execOp, Act.eval, e11]
                go_simp
              refine ⟨fe3_value rfl (by decide) fun a w h => ?_, ?_⟩
              · have e91 : a.tmps.getD 91 undef = .bool true := h.dep 91 (by kernel_rfl)
                have e92 : a.tmps.getD 92 undef = .bool true := h.dep 92 (by kernel_rfl)
                have e93 : a.tmps.getD 93 undef = .bool false := h.dep 93 (by kernel_rfl)
                refine ⟨wants_some (d := 91) rfl rfl (by rw [h.size]; show 91 < 111; decide) e91, .bool true, w, ?_, gb_refl _ _, rfl⟩
                clear h
                simp only [execOp, Act.eval, e92, e93]
                go_simp
              refine ⟨fe3_value rfl (by decide) fun a w h => ?_, ?_⟩
              · have e91 : a.tmps.getD 91 undef = .bool true := h.dep 91 (by kernel_rfl)
                have e94 : a.tmps.getD 94 undef = .bool true := h.dep 94 (by kernel_rfl)
                refine ⟨wants_none rfl, .bool true, w, ?_, gb_refl _ _, rfl⟩
                clear h
                simp only [execOp, Act.eval, e91, e94]
                go_simp
              refine ⟨fe3_value rfl (by decide) fun a w h => ?_, ?_⟩
              · have e95 : a.tmps.getD 95 undef = .bool true := h.dep 95 (by kernel_rfl)
                refine ⟨wants_none rfl, .bool true, w, ?_, gb_refl _ _, rfl⟩
                clear h
                simp only [execOp, Act.eval, e95]
                go_simp
              refine ⟨fe3_value rfl (by decide) fun a w h => ?_, ?_⟩
              · have e96 : a.tmps.getD 96 undef = .bool true := h.dep 96 (by kernel_rfl)
                have e9 : a.tmps.getD 9 undef = .bool true := h.rest 9 (by kernel_rfl)
                refine ⟨wants_some (d := 96) rfl rfl (by rw [h.size]; show 96 < 111; decide) e96, .bool true, w, ?_, gb_refl _ _, rfl⟩
                clear h
                simp only [execOp, Act.eval, e9]
                go_simp
              refine ⟨fe3_value rfl (by decide) fun a w h => ?_, ?_⟩
              · have e96 : a.tmps.getD 96 undef = .bool true := h.dep 96 (by kernel_rfl)
                have e97 : a.tmps.getD 97 undef = .bool true := h.dep 97 (by kernel_rfl)
                refine ⟨wants_some (d := 96) rfl rfl (by rw [h.size]; show 96 < 111; decide) e96, .bool false, w, ?_, gb_refl _ _, rfl⟩
                clear h
                simp only [execOp, Act.eval, e97]
                go_simp
              refine ⟨fe3_value rfl (by decide) fun a w h => ?_, ?_⟩
              · have e96 : a.tmps.getD 96 undef = .bool true := h.dep 96 (by kernel_rfl)
                have e98 : a.tmps.getD 98 undef = .bool false := h.dep 98 (by kernel_rfl)
                refine ⟨wants_some (d := 96) rfl rfl (by rw [h.size]; show 96 < 111; decide) e96, .bool false, w, ?_, gb_refl _ _, rfl⟩
                clear h
                simp only [execOp, Act.eval, e98]
                go_simp
              refine ⟨fe3_value rfl (by decide) fun a w h => ?_, ?_⟩
              · have e99 : a.tmps.getD 99 undef = .bool false := h.dep 99 (by kernel_rfl)
                have e8 : a.tmps.getD 8 undef = .pointer (some ⟨Bs, 0, none⟩) := h.rest 8 (by kernel_rfl)
                have hb := h.base.e (Bs, fs) (by simp)
                have c0 : w.cell? ⟨Bs, 0, none⟩ = some (.int .u64 fs.x0) := hb.cell (i := 0) rfl
                have c1 : w.cell? ⟨Bs, 1, none⟩ = some (.int .u64 fs.x1) := hb.cell (i := 1) rfl
                have c2 : w.cell? ⟨Bs, 2, none⟩ = some (.int .u64 fs.x2) := hb.cell (i := 2) rfl
                have c3 : w.cell? ⟨Bs, 3, none⟩ = some (.int .u64 fs.x3) := hb.cell (i := 3) rfl
                have c4 : w.cell? ⟨Bs, 4, none⟩ = some (.int .u64 fs.x4) := hb.cell (i := 4) rfl
                refine ⟨wants_some (d := 99) rfl rfl (by rw [h.size]; show 99 < 111; decide) e99, .agg #[.int .u64 fs.x0, .int .u64 fs.x1, .int .u64 fs.x2, .int .u64 fs.x3, .int .u64 fs.x4], w, ?_, gb_refl _ _, rfl⟩
                clear h hb
                simp only [execOp, Act.eval, e8]
                go_simp
              refine ⟨fe3_call rfl (by decide) fun a w h => ?_, ?_⟩
              · have e99 : a.tmps.getD 99 undef = .bool false := h.dep 99 (by kernel_rfl)
                have e100 : a.tmps.getD 100 undef = fs.v := h.dep 100 (by kernel_rfl)
                have e100x : a.tmps[100]?.getD undef = fs.v := by simpa using e100
                have hb := h.base
                refine ⟨wants_some (d := 99) rfl rfl (by rw [h.size]; show 99 < 111; decide) e99, 15, #[fs.v], ?_, ?_⟩
                · clear h hb e100
                  go_simp
                · refine (sq_fe fs w okfs).mono ?_
                  intro e w1 hp
                  obtain ⟨rfl, hg⟩ := feOut_is hp
                  exact ⟨_, rfl, hg, rfl⟩
              refine ⟨fe3_value rfl (by decide) fun a w h => ?_, ?_⟩
              · have e99 : a.tmps.getD 99 undef = .bool false := h.dep 99 (by kernel_rfl)
                have e2 : a.tmps.getD 2 undef = .pointer (some ⟨w0.heap.size, 0, none⟩) := h.rest 2 (by kernel_rfl)
                have hb := h.base.e (w0.heap.size, fa) (by simp)
                have c0 : w.cell? ⟨w0.heap.size, 0, none⟩ = some (.int .u64 fa.x0) := hb.cell (i := 0) rfl
                have c1 : w.cell? ⟨w0.heap.size, 1, none⟩ = some (.int .u64 fa.x1) := hb.cell (i := 1) rfl
                have c2 : w.cell? ⟨w0.heap.size, 2, none⟩ = some (.int .u64 fa.x2) := hb.cell (i := 2) rfl
                have c3 : w.cell? ⟨w0.heap.size, 3, none⟩ = some (.int .u64 fa.x3) := hb.cell (i := 3) rfl
                have c4 : w.cell? ⟨w0.heap.size, 4, none⟩ = some (.int .u64 fa.x4) := hb.cell (i := 4) rfl
                refine ⟨wants_some (d := 99) rfl rfl (by rw [h.size]; show 99 < 111; decide) e99, .agg #[.int .u64 fa.x0, .int .u64 fa.x1, .int .u64 fa.x2, .int .u64 fa.x3, .int .u64 fa.x4], w, ?_, gb_refl _ _, rfl⟩
                clear h hb
                simp only [execOp, Act.eval, e2]
                go_simp
              refine ⟨fe3_call rfl (by decide) fun a w h => ?_, ?_⟩
              · have e99 : a.tmps.getD 99 undef = .bool false := h.dep 99 (by kernel_rfl)
                have e101 : a.tmps.getD 101 undef = (Fe.sqF fs).v := h.dep 101 (by kernel_rfl)
                have e101x : a.tmps[101]?.getD undef = (Fe.sqF fs).v := by simpa using e101
                have e102 : a.tmps.getD 102 undef = fa.v := h.dep 102 (by kernel_rfl)
                have e102x : a.tmps[102]?.getD undef = fa.v := by simpa using e102
                have hb := h.base
                refine ⟨wants_some (d := 99) rfl rfl (by rw [h.size]; show 99 < 111; decide) e99, 13, #[(Fe.sqF fs).v, fa.v], ?_, ?_⟩
                · clear h hb e101 e102
                  go_simp
                · refine (same_val (Fe.sqF fs) fa true w (Fe.sq_right _).ok okfa (HQ.out.1)).mono ?_
                  intro e w1 hp
                  obtain ⟨rfl, hg⟩ := hp
                  exact ⟨_, rfl, hg, rfl⟩
              refine ⟨fe3_value rfl (by decide) fun a w h => ?_, ?_⟩
              · have e99 : a.tmps.getD 99 undef = .bool false := h.dep 99 (by kernel_rfl)
                have e103 : a.tmps.getD 103 undef = .bool true := h.dep 103 (by kernel_rfl)
                refine ⟨wants_some (d := 99) rfl rfl (by rw [h.size]; show 99 < 111; decide) e99, .bool true, w, ?_, gb_refl _ _, rfl⟩
                clear h
                simp only [execOp, Act.eval, e103]
                go_simp
              refine ⟨fe3_value rfl (by decide) fun a w h => ?_, ?_⟩
              · have e104 : a.tmps.getD 104 undef = .bool true := h.dep 104 (by kernel_rfl)
                have e8 : a.tmps.getD 8 undef = .pointer (some ⟨Bs, 0, none⟩) := h.rest 8 (by kernel_rfl)
                have hb := h.base.e (Bs, fs) (by simp)
                have c0 : w.cell? ⟨Bs, 0, none⟩ = some (.int .u64 fs.x0) := hb.cell (i := 0) rfl
                have c1 : w.cell? ⟨Bs, 1, none⟩ = some (.int .u64 fs.x1) := hb.cell (i := 1) rfl
                have c2 : w.cell? ⟨Bs, 2, none⟩ = some (.int .u64 fs.x2) := hb.cell (i := 2) rfl
                have c3 : w.cell? ⟨Bs, 3, none⟩ = some (.int .u64 fs.x3) := hb.cell (i := 3) rfl
                have c4 : w.cell? ⟨Bs, 4, none⟩ = some (.int .u64 fs.x4) := hb.cell (i := 4) rfl
                refine ⟨wants_some (d := 104) rfl rfl (by rw [h.size]; show 104 < 111; decide) e104, .agg #[.int .u64 fs.x0, .int .u64 fs.x1, .int .u64 fs.x2, .int .u64 fs.x3, .int .u64 fs.x4], w, ?_, gb_refl _ _, rfl⟩
                clear h hb
                simp only [execOp, Act.eval, e8]
                go_simp
              refine ⟨fe3_call rfl (by decide) fun a w h => ?_, ?_⟩
              · have e104 : a.tmps.getD 104 undef = .bool true := h.dep 104 (by kernel_rfl)
                have e105 : a.tmps.getD 105 undef = fs.v := h.dep 105 (by kernel_rfl)
                have e105x : a.tmps[105]?.getD undef = fs.v := by simpa using e105
                have hb := h.base
                refine ⟨wants_some (d := 104) rfl rfl (by rw [h.size]; show 104 < 111; decide) e104, 25, #[fs.v], ?_, ?_⟩
                · clear h hb e105
                  go_simp
                · refine (odd_val fs false w okfs (HQ.out.2)).mono ?_
                  intro e w1 hp
                  obtain ⟨rfl, hg⟩ := hp
                  exact ⟨_, rfl, hg, rfl⟩
              refine ⟨fe3_value rfl (by decide) fun a w h => ?_, ?_⟩
              · have e104 : a.tmps.getD 104 undef = .bool true := h.dep 104 (by kernel_rfl)
                have e106 : a.tmps.getD 106 undef = .bool false := h.dep 106 (by kernel_rfl)
                refine ⟨wants_some (d := 104) rfl rfl (by rw [h.size]; show 104 < 111; decide) e104, .bool true, w, ?_, gb_refl _ _, rfl⟩
                clear h
                simp only [execOp, Act.eval, e106]
                go_simp
              refine ⟨fe3_value rfl (by decide) fun a w h => ?_, ?_⟩
              · have e99 : a.tmps.getD 99 undef = .bool false := h.dep 99 (by kernel_rfl)
                have e104 : a.tmps.getD 104 undef = .bool true := h.dep 104 (by kernel_rfl)
                have e107 : a.tmps.getD 107 undef = .bool true := h.dep 107 (by kernel_rfl)
                refine ⟨wants_some (d := 99) rfl rfl (by rw [h.size]; show 99 < 111; decide) e99, .bool true, w, ?_, gb_refl _ _, rfl⟩
                clear h
                simp only [execOp, Act.eval, e104, e107]
                go_simp
              refine ⟨fe3_value rfl (by decide) fun a w h => ?_, ?_⟩
              · have e96 : a.tmps.getD 96 undef = .bool true := h.dep 96 (by kernel_rfl)
                have e99 : a.tmps.getD 99 undef = .bool false := h.dep 99 (by kernel_rfl)
                have e108 : a.tmps.getD 108 undef = .bool true := h.dep 108 (by kernel_rfl)
                refine ⟨wants_some (d := 96) rfl rfl (by rw [h.size]; show 96 < 111; decide) e96, .bool true, w, ?_, gb_refl _ _, rfl⟩
                clear h
                simp only [execOp, Act.eval, e99, e108]
                go_simp
              refine ⟨fe3_value rfl (by decide) fun a w h => ?_, ?_⟩
              · have e96 : a.tmps.getD 96 undef = .bool true := h.dep 96 (by kernel_rfl)
                have e109 : a.tmps.getD 109 undef = .bool true := h.dep 109 (by kernel_rfl)
                refine ⟨wants_none rfl, .bool true, w, ?_, gb_refl _ _, rfl⟩
                clear h
                simp only [execOp, Act.eval, e96, e109]
                go_simp
              refine ⟨fe3_value rfl (by decide) fun a w h => ?_, ?_⟩
              · have e110 : a.tmps.getD 110 undef = .bool true := h.dep 110 (by kernel_rfl)
                refine ⟨wants_none rfl, .bool true, w, ?_, gb_refl _ _, rfl⟩
                clear h
                simp only [execOp, Act.eval, e110]
                go_simp
              trivial
            · intro q w hB hsz hdf hrest hslots hmems
              have e4 : q.tmps.getD 4 undef = .bool true := hslots 4 (by kernel_rfl)
              have G := gb_trans G13 hB.g
              replace hdf : q.defers = [] := hdf
              clear hB hsz hrest hslots hmems
              have e4x : q.tmps[4]?.getD undef = .bool true := by simpa using e4
              go_wp2_with fail
              refine bodyPost_ret (v := .bool true) ?_ hdf ⟨rfl, G⟩
              simp [results, Tryd.results7, go_sem, e4x]
      · replace hone := (Bool.eq_false_iff).2 hone
        have HO : Hid ((rootF fa Fe.oneF).2 = false) := Lib.hid hone
        have HO2 : Hid ((rootF (Fe.addF fa fa) Fe.oneF).2 = true) := Lib.hid (by rw [one_two HRA.out hza, hone]; rfl)
        have okS : (rootF fa Fe.oneF).1.Ok := rootS_ok fa
        have HT11 := Lib.hid (HT.out.grown G1)
        have hB11 : EnvB W11 W11.heap.size [(w0.heap.size, fa), (w0.heap.size + 1, fv), (Bu, fu), (v6.heap.size, fr)] [] W11 := ⟨gb_refl _ _, by
          intro p hp
          simp only [List.mem_cons, List.not_mem_nil, or_false] at hp
          rcases hp with rfl | rfl | rfl | rfl
          · exact hfa
          · exact hfv
          · exact hfu
          · exact hfr, by simp, by
          intro p hp
          simp only [List.mem_cons, List.not_mem_nil, or_false] at hp
          rcases hp with rfl | rfl | rfl | rfl
          · exact hfa.lt
          · exact hfv.lt
          · exact hfu.lt
          · exact hfr.lt, Nat.le_refl _, Nat.le_refl _⟩
        refine wp_region_flow3 (items3 (Okb W11 [(w0.heap.size, fa), (w0.heap.size + 1, fv), (Bu, fu), (v6.heap.size, fr)]) [.any, .any, .any, .any, .any, .any, .any, .any, .ptr, .val (.bool false), .any, .any, .any, .any, .any, .any, .any, .any, .any, .any, .any, .any, .any, .any, .any, .any, .any, .any, .any, .any, .any, .any, .any, .any, .any, .any, .any, .any, .any, .any, .any, .any, .any, .any, .any, .any, .any, .any, .any, .any, .any, .any, .any, .any, .any, .any, .any, .any, .any, .any, .any, .any, .any, .any, .any, .val (.tuple #[.agg #[.int .u64 ((rootF fa Fe.oneF).1).x0, .int .u64 ((rootF fa Fe.oneF).1).x1, .int .u64 ((rootF fa Fe.oneF).1).x2, .int .u64 ((rootF fa Fe.oneF).1).x3, .int .u64 ((rootF fa Fe.oneF).1).x4], .bool false]), .val (fa.v), .val (Fe.oneF.v), .val (.tuple #[.agg #[.int .u64 ((rootF fa Fe.oneF).1).x0, .int .u64 ((rootF fa Fe.oneF).1).x1, .int .u64 ((rootF fa Fe.oneF).1).x2, .int .u64 ((rootF fa Fe.oneF).1).x3, .int .u64 ((rootF fa Fe.oneF).1).x4], .bool false]), .val (((rootF fa Fe.oneF).1).v), .val (.bool false), .any, .any, .any, .any, .any, .any, .any, .any, .any, .any, .any, .any, .any, .any, .any, .any, .any, .any, .any, .any, .any, .any, .any, .any, .any, .any, .any, .any, .any, .any, .any, .any, .any, .any, .any, .any, .any, .any, .any, .any]) (fun j => if j = 7 then 8 else 0) (Stored3 (Okb W11 [(w0.heap.size, fa), (w0.heap.size + 1, fv), (Bu, fu), (v6.heap.size, fr)]) (fun j => if j = 7 then (rootF fa Fe.oneF).1 else Fe.zeroF)) (EnvB W11 W11.heap.size [(w0.heap.size, fa), (w0.heap.size + 1, fv), (Bu, fu), (v6.heap.size, fr)] []) [8] (by kernel_rfl) (by kernel_rfl) (by kernel_rfl) (hB11.grown (gb_drewn _)) (fun s hs C hC => by simp at hs; rcases hs with rfl <;> exact absurd hC (by simp [undef])) (by kernel_rfl) ?_ ?_
        · refine ⟨fe3_value rfl (by decide) fun a w h => ?_, ?_⟩
          · have e2 : a.tmps.getD 2 undef = .pointer (some ⟨w0.heap.size, 0, none⟩) := h.rest 2 (by kernel_rfl)
            have hb := h.base.e (w0.heap.size, fa) (by simp)
            have c0 : w.cell? ⟨w0.heap.size, 0, none⟩ = some (.int .u64 fa.x0) := hb.cell (i := 0) rfl
            have c1 : w.cell? ⟨w0.heap.size, 1, none⟩ = some (.int .u64 fa.x1) := hb.cell (i := 1) rfl
            have c2 : w.cell? ⟨w0.heap.size, 2, none⟩ = some (.int .u64 fa.x2) := hb.cell (i := 2) rfl
            have c3 : w.cell? ⟨w0.heap.size, 3, none⟩ = some (.int .u64 fa.x3) := hb.cell (i := 3) rfl
            have c4 : w.cell? ⟨w0.heap.size, 4, none⟩ = some (.int .u64 fa.x4) := hb.cell (i := 4) rfl
            refine ⟨wants_none rfl, .agg #[.int .u64 fa.x0, .int .u64 fa.x1, .int .u64 fa.x2, .int .u64 fa.x3, .int .u64 fa.x4], w, ?_, gb_refl _ _, rfl⟩
            clear h hb
            simp only [execOp, Act.eval, e2]
            go_simp
          refine ⟨fe3_call rfl (by decide) fun a w h => ?_, ?_⟩
          · have hb := h.base
            refine ⟨wants_none rfl, 22, #[], ?_, ?_⟩
            · clear h hb
              go_simp
            · refine (one_any w).mono ?_
              intro e w1 hp
              obtain ⟨rfl, hg⟩ := feOut_is hp
              exact ⟨_, rfl, hg, rfl⟩
          refine ⟨fe3_call rfl (by decide) fun a w h => ?_, ?_⟩
          · have e66 : a.tmps.getD 66 undef = fa.v := h.dep 66 (by kernel_rfl)
            have e66x : a.tmps[66]?.getD undef = fa.v := by simpa using e66
            have e67 : a.tmps.getD 67 undef = Fe.oneF.v := h.dep 67 (by kernel_rfl)
            have e67x : a.tmps[67]?.getD undef = Fe.oneF.v := by simpa using e67
            have hb := h.base
            refine ⟨wants_none rfl, 28, #[fa.v, Fe.oneF.v], ?_, ?_⟩
            · clear h hb e66 e67
              go_simp
            · refine (root_val fa Fe.oneF false w (HT11.out.grown hb.g) okfa one_right.ok (HO.out)).mono ?_
              intro e w1 hp
              obtain ⟨rr, hrr, rfl, hg⟩ := hp
              obtain rfl := hrr.out
              exact ⟨_, rfl, hg, rfl⟩
          refine ⟨fe3_value rfl (by decide) fun a w h => ?_, ?_⟩
          · have e68 : a.tmps.getD 68 undef = .tuple #[.agg #[.int .u64 ((rootF fa Fe.oneF).1).x0, .int .u64 ((rootF fa Fe.oneF).1).x1, .int .u64 ((rootF fa Fe.oneF).1).x2, .int .u64 ((rootF fa Fe.oneF).1).x3, .int .u64 ((rootF fa Fe.oneF).1).x4], .bool false] := h.dep 68 (by kernel_rfl)
            refine ⟨wants_none rfl, .tuple #[.agg #[.int .u64 ((rootF fa Fe.oneF).1).x0, .int .u64 ((rootF fa Fe.oneF).1).x1, .int .u64 ((rootF fa Fe.oneF).1).x2, .int .u64 ((rootF fa Fe.oneF).1).x3, .int .u64 ((rootF fa Fe.oneF).1).x4], .bool false], w, ?_, gb_refl _ _, rfl⟩
            clear h
            simp only [execOp, Act.eval, e68]
            go_simp
          refine ⟨fe3_value rfl (by decide) fun a w h => ?_, ?_⟩
          · have e65 : a.tmps.getD 65 undef = .tuple #[.agg #[.int .u64 ((rootF fa Fe.oneF).1).x0, .int .u64 ((rootF fa Fe.oneF).1).x1, .int .u64 ((rootF fa Fe.oneF).1).x2, .int .u64 ((rootF fa Fe.oneF).1).x3, .int .u64 ((rootF fa Fe.oneF).1).x4], .bool false] := h.dep 65 (by kernel_rfl)
            refine ⟨wants_none rfl, .agg #[.int .u64 ((rootF fa Fe.oneF).1).x0, .int .u64 ((rootF fa Fe.oneF).1).x1, .int .u64 ((rootF fa Fe.oneF).1).x2, .int .u64 ((rootF fa Fe.oneF).1).x3, .int .u64 ((rootF fa Fe.oneF).1).x4], w, ?_, gb_refl _ _, rfl⟩
            clear h
            simp only [execOp, Act.eval, e65]
            go_simp
          refine ⟨fe3_value rfl (by decide) fun a w h => ?_, ?_⟩
          · have e65 : a.tmps.getD 65 undef = .tuple #[.agg #[.int .u64 ((rootF fa Fe.oneF).1).x0, .int .u64 ((rootF fa Fe.oneF).1).x1, .int .u64 ((rootF fa Fe.oneF).1).x2, .int .u64 ((rootF fa Fe.oneF).1).x3, .int .u64 ((rootF fa Fe.oneF).1).x4], .bool false] := h.dep 65 (by kernel_rfl)
            refine ⟨wants_none rfl, .bool false, w, ?_, gb_refl _ _, rfl⟩
            clear h
            simp only [execOp, Act.eval, e65]
            go_simp
          refine ⟨fe3_alloc rfl (by show 8 < 111; decide) fun a w h => ?_, ?_⟩
          · refine ⟨wants_none rfl, w.alloc (.cells #[.int .u64 0, .int .u64 0, .int .u64 0, .int .u64 0, .int .u64 0] 24), ?_, World.grownBy_alloc _ _ _, by simp, ⟨w.heap.size, rfl, ⟨_, _, _, _, _, Blk.new w [.int .u64 0, .int .u64 0, .int .u64 0, .int .u64 0, .int .u64 0] _⟩, h.base.fresh⟩⟩
            clear h
            go_simp
          refine ⟨fe3_store (p := 8) rfl rfl (by rfl) rfl (fun j oj hj hoj hn => absurd hn (only_store (by kernel_rfl) hj hoj)) (Or.inl (by simp)) fun a w h => ?_, ?_⟩
          · obtain ⟨Bn, ep, hroom, hK⟩ : ∃ Bn, a.tmps.getD 8 undef = .pointer (some ⟨Bn, 0, none⟩) ∧ Room5 w Bn 24 ∧ (Okb W11 [(w0.heap.size, fa), (w0.heap.size + 1, fv), (Bu, fu), (v6.heap.size, fr)]) Bn := h.dep 8 (by kernel_rfl)
            have e69 : a.tmps.getD 69 undef = .agg #[.int .u64 ((rootF fa Fe.oneF).1).x0, .int .u64 ((rootF fa Fe.oneF).1).x1, .int .u64 ((rootF fa Fe.oneF).1).x2, .int .u64 ((rootF fa Fe.oneF).1).x3, .int .u64 ((rootF fa Fe.oneF).1).x4] := h.dep 69 (by kernel_rfl)
            refine ⟨wants_none rfl, Bn, ep, hK, hroom, ?_⟩
            obtain ⟨u0, u1, u2, u3, u4, hR⟩ := hroom
            have c0r := hR.cell (i := 0) rfl; have f0r := hR.free 0
            have c1r := hR.cell (i := 1) rfl; have f1r := hR.free 1
            have c2r := hR.cell (i := 2) rfl; have f2r := hR.free 2
            have c3r := hR.cell (i := 3) rfl; have f3r := hR.free 3
            have c4r := hR.cell (i := 4) rfl; have f4r := hR.free 4
            clear h hK hR
            unfold set5W
            simp only [execOp, Act.eval, ep, e69]
            go_simp
          refine ⟨fe3_value rfl (by decide) fun a w h => ?_, ?_⟩
          · have e70 : a.tmps.getD 70 undef = .bool false := h.dep 70 (by kernel_rfl)
            refine ⟨wants_none rfl, .bool false, w, ?_, gb_refl _ _, rfl⟩
            clear h
            simp only [execOp, Act.eval, e70]
            go_simp
          trivial
        · intro q w12 hB hsz hdf hrest hslots hmems
          obtain ⟨Bs, hs8, _, hfs⟩ := hmems 7 _ rfl rfl
          replace hs8 : q.tmps.getD 8 undef = .pointer (some ⟨Bs, 0, none⟩) := hs8
          replace hfs : Blk w12 Bs 24 (feL ((rootF fa Fe.oneF).1)) := hfs
          obtain rfl := frame_is (a := q) (vs := [Value.agg #[.int .u64 fa.x0, .int .u64 fa.x1, .int .u64 fa.x2, .int .u64 fa.x3, .int .u64 fa.x4], Value.agg #[.int .u64 fv.x0, .int .u64 fv.x1, .int .u64 fv.x2, .int .u64 fv.x3, .int .u64 fv.x4], Value.pointer (some ⟨w0.heap.size, 0, none⟩), Value.pointer (some ⟨w0.heap.size + 1, 0, none⟩), Value.bool false, Value.pointer (some ⟨Bu, 0, none⟩), Value.pointer (some ⟨v6.heap.size, 0, none⟩), Value.bool true, Value.pointer (some ⟨Bs, 0, none⟩), Value.bool false, undef, undef, Value.bool true, Value.bool false, Value.agg #[.int .u64 fa.x0, .int .u64 fa.x1, .int .u64 fa.x2, .int .u64 fa.x3, .int .u64 fa.x4], Value.agg #[.int .u64 fv.x0, .int .u64 fv.x1, .int .u64 fv.x2, .int .u64 fv.x3, .int .u64 fv.x4], Value.slice (some ⟨v1.heap.size, 0, none⟩) 2 2, Value.bool true, Value.bool false, fa.v, (Fe.sqF fa).v, fv.v, (Fe.mulF (Fe.sqF fa) fv).v, Value.tuple #[.agg #[.int .u64 fr.x0, .int .u64 fr.x1, .int .u64 fr.x2, .int .u64 fr.x3, .int .u64 fr.x4], .bool true], Value.agg #[.int .u64 fu.x0, .int .u64 fu.x1, .int .u64 fu.x2, .int .u64 fu.x3, .int .u64 fu.x4], Value.agg #[.int .u64 fv.x0, .int .u64 fv.x1, .int .u64 fv.x2, .int .u64 fv.x3, .int .u64 fv.x4], Value.tuple #[.agg #[.int .u64 fr.x0, .int .u64 fr.x1, .int .u64 fr.x2, .int .u64 fr.x3, .int .u64 fr.x4], .bool true], Value.agg #[.int .u64 fr.x0, .int .u64 fr.x1, .int .u64 fr.x2, .int .u64 fr.x3, .int .u64 fr.x4], Value.bool true, Value.bool true, Value.bool false, Value.bool false, undef, undef, undef, Value.bool false, Value.bool false, Value.bool true, Value.bool true, fr.v, Value.bool false, Value.bool false, fr.v, Value.slice (some ⟨PB43, 0, none⟩) 1 1, Value.bool true, Value.bool false, Value.bool false, Value.bool false, fr.v, (Fe.sqF fr).v, fv.v, (Fe.mulF (Fe.sqF fr) fv).v, fu.v, Value.bool true, Value.bool false, Value.bool false, Value.bool false, Value.bool false, Value.agg #[.int .u64 fv.x0, .int .u64 fv.x1, .int .u64 fv.x2, .int .u64 fv.x3, .int .u64 fv.x4], Value.bool false, Value.bool false, Value.agg #[.int .u64 fa.x0, .int .u64 fa.x1, .int .u64 fa.x2, .int .u64 fa.x3, .int .u64 fa.x4], Value.bool false, Value.bool false, undef, Value.tuple #[.agg #[.int .u64 ((rootF fa Fe.oneF).1).x0, .int .u64 ((rootF fa Fe.oneF).1).x1, .int .u64 ((rootF fa Fe.oneF).1).x2, .int .u64 ((rootF fa Fe.oneF).1).x3, .int .u64 ((rootF fa Fe.oneF).1).x4], .bool false], fa.v, Fe.oneF.v, Value.tuple #[.agg #[.int .u64 ((rootF fa Fe.oneF).1).x0, .int .u64 ((rootF fa Fe.oneF).1).x1, .int .u64 ((rootF fa Fe.oneF).1).x2, .int .u64 ((rootF fa Fe.oneF).1).x3, .int .u64 ((rootF fa Fe.oneF).1).x4], .bool false], ((rootF fa Fe.oneF).1).v, Value.bool false, undef, undef, undef, undef, undef, undef, undef, undef, undef, undef, undef, undef, undef, undef, undef, undef, undef, undef, undef, undef, undef, undef, undef, undef, undef, undef, undef, undef, undef, undef, undef, undef, undef, undef, undef, undef, undef, undef, undef, undef]) hsz ⟨hrest 0 (by kernel_rfl), hrest 1 (by kernel_rfl), hrest 2 (by kernel_rfl), hrest 3 (by kernel_rfl), hrest 4 (by kernel_rfl), hrest 5 (by kernel_rfl), hrest 6 (by kernel_rfl), hrest 7 (by kernel_rfl), hs8, (show q.tmps.getD 9 undef = Value.bool false from hslots 9 (by kernel_rfl)), hrest 10 (by kernel_rfl), hrest 11 (by kernel_rfl), hrest 12 (by kernel_rfl), hrest 13 (by kernel_rfl), hrest 14 (by kernel_rfl), hrest 15 (by kernel_rfl), hrest 16 (by kernel_rfl), hrest 17 (by kernel_rfl), hrest 18 (by kernel_rfl), hrest 19 (by kernel_rfl), hrest 20 (by kernel_rfl), hrest 21 (by kernel_rfl), hrest 22 (by kernel_rfl), hrest 23 (by kernel_rfl), hrest 24 (by kernel_rfl), hrest 25 (by kernel_rfl), hrest 26 (by kernel_rfl), hrest 27 (by kernel_rfl), hrest 28 (by kernel_rfl), hrest 29 (by kernel_rfl), hrest 30 (by kernel_rfl), hrest 31 (by kernel_rfl), hrest 32 (by kernel_rfl), hrest 33 (by kernel_rfl), hrest 34 (by kernel_rfl), hrest 35 (by kernel_rfl), hrest 36 (by kernel_rfl), hrest 37 (by kernel_rfl), hrest 38 (by kernel_rfl), hrest 39 (by kernel_rfl), hrest 40 (by kernel_rfl), hrest 41 (by kernel_rfl), hrest 42 (by kernel_rfl), hrest 43 (by kernel_rfl), hrest 44 (by kernel_rfl), hrest 45 (by kernel_rfl), hrest 46 (by kernel_rfl), hrest 47 (by kernel_rfl), hrest 48 (by kernel_rfl), hrest 49 (by kernel_rfl), hrest 50 (by kernel_rfl), hrest 51 (by kernel_rfl), hrest 52 (by kernel_rfl), hrest 53 (by kernel_rfl), hrest 54 (by kernel_rfl), hrest 55 (by kernel_rfl), hrest 56 (by kernel_rfl), hrest 57 (by kernel_rfl), hrest 58 (by kernel_rfl), hrest 59 (by kernel_rfl), hrest 60 (by kernel_rfl), hrest 61 (by kernel_rfl), hrest 62 (by kernel_rfl), hrest 63 (by kernel_rfl), hrest 64 (by kernel_rfl), (show q.tmps.getD 65 undef = Value.tuple #[.agg #[.int .u64 ((rootF fa Fe.oneF).1).x0, .int .u64 ((rootF fa Fe.oneF).1).x1, .int .u64 ((rootF fa Fe.oneF).1).x2, .int .u64 ((rootF fa Fe.oneF).1).x3, .int .u64 ((rootF fa Fe.oneF).1).x4], .bool false] from hslots 65 (by kernel_rfl)), (show q.tmps.getD 66 undef = fa.v from hslots 66 (by kernel_rfl)), (show q.tmps.getD 67 undef = Fe.oneF.v from hslots 67 (by kernel_rfl)), (show q.tmps.getD 68 undef = Value.tuple #[.agg #[.int .u64 ((rootF fa Fe.oneF).1).x0, .int .u64 ((rootF fa Fe.oneF).1).x1, .int .u64 ((rootF fa Fe.oneF).1).x2, .int .u64 ((rootF fa Fe.oneF).1).x3, .int .u64 ((rootF fa Fe.oneF).1).x4], .bool false] from hslots 68 (by kernel_rfl)), (show q.tmps.getD 69 undef = ((rootF fa Fe.oneF).1).v from hslots 69 (by kernel_rfl)), (show q.tmps.getD 70 undef = Value.bool false from hslots 70 (by kernel_rfl)), hrest 71 (by kernel_rfl), hrest 72 (by kernel_rfl), hrest 73 (by kernel_rfl), hrest 74 (by kernel_rfl), hrest 75 (by kernel_rfl), hrest 76 (by kernel_rfl), hrest 77 (by kernel_rfl), hrest 78 (by kernel_rfl), hrest 79 (by kernel_rfl), hrest 80 (by kernel_rfl), hrest 81 (by kernel_rfl), hrest 82 (by kernel_rfl), hrest 83 (by kernel_rfl), hrest 84 (by kernel_rfl), hrest 85 (by kernel_rfl), hrest 86 (by kernel_rfl), hrest 87 (by kernel_rfl), hrest 88 (by kernel_rfl), hrest 89 (by kernel_rfl), hrest 90 (by kernel_rfl), hrest 91 (by kernel_rfl), hrest 92 (by kernel_rfl), hrest 93 (by kernel_rfl), hrest 94 (by kernel_rfl), hrest 95 (by kernel_rfl), hrest 96 (by kernel_rfl), hrest 97 (by kernel_rfl), hrest 98 (by kernel_rfl), hrest 99 (by kernel_rfl), hrest 100 (by kernel_rfl), hrest 101 (by kernel_rfl), hrest 102 (by kernel_rfl), hrest 103 (by kernel_rfl), hrest 104 (by kernel_rfl), hrest 105 (by kernel_rfl), hrest 106 (by kernel_rfl), hrest 107 (by kernel_rfl), hrest 108 (by kernel_rfl), hrest 109 (by kernel_rfl), hrest 110 (by kernel_rfl), trivial⟩ hdf
          have hg := hB.g
          clear hs8 hsz hdf hrest hslots hmems hB hB11 HT11
          replace hfa := hfa.grown hg (by simp)
          replace hfv := hfv.grown hg (by simp)
          replace hfu := hfu.grown hg (by simp)
          replace hfr := hfr.grown hg (by simp)
          replace G1 := gb_trans G1 hg
          clear hg
          obtain ⟨fs, hfse⟩ : ∃ x, x = (rootF fa Fe.oneF).1 := ⟨_, rfl⟩
          rw [← hfse] at hfs
          have okfs : fs.Ok := by rw [hfse]; exact okS
          have ES := Lib.hid hfse; clear hfse
          have fac0 := hfa.cell (i := 0) rfl; have fac1 := hfa.cell (i := 1) rfl; have fac2 := hfa.cell (i := 2) rfl; have fac3 := hfa.cell (i := 3) rfl; have fac4 := hfa.cell (i := 4) rfl
          go_wp2_with fail
          refine (add_any fa fa _ okfa okfa).mono ?_
          rintro e w14 ⟨fd, hfde, rfl, hg⟩
          have okfd : fd.Ok := by rw [hfde.out]; exact (Fe.add_right _ _).ok
          clear fac0 fac1 fac2 fac3 fac4
          replace hfa := hfa.grown hg (by simp)
          replace hfv := hfv.grown hg (by simp)
          replace hfu := hfu.grown hg (by simp)
          replace hfr := hfr.grown hg (by simp)
          replace hfs := hfs.grown hg (by simp)
          replace G1 := gb_trans G1 hg
          clear hg
          go_wp2_with fail
          refine (one_any _).mono ?_
          rintro e w15 ⟨fo, hfoe, rfl, hg⟩
          have okfo : fo.Ok := by rw [hfoe.out]; exact one_right.ok
          replace hfa := hfa.grown hg (by simp)
          replace hfv := hfv.grown hg (by simp)
          replace hfu := hfu.grown hg (by simp)
          replace hfr := hfr.grown hg (by simp)
          replace hfs := hfs.grown hg (by simp)
          replace G1 := gb_trans G1 hg
          clear hg
          go_wp2_with fail
          refine (root_val fd fo true _ (HT.out.grown G1) okfd okfo (by rw [hfde.out, hfoe.out]; exact HO2.out)).mono ?_
          rintro e w16 ⟨fq, _, rfl, hg⟩
          replace hfa := hfa.grown hg (by simp)
          replace hfv := hfv.grown hg (by simp)
          replace hfu := hfu.grown hg (by simp)
          replace hfr := hfr.grown hg (by simp)
          replace hfs := hfs.grown hg (by simp)
          replace G1 := gb_alloc (gb_trans G1 hg) (.cells #[.int .u64 fq.x0, .int .u64 fq.x1, .int .u64 fq.x2, .int .u64 fq.x3, .int .u64 fq.x4] 24)
          replace hfa := hfa.alloc (.cells #[.int .u64 fq.x0, .int .u64 fq.x1, .int .u64 fq.x2, .int .u64 fq.x3, .int .u64 fq.x4] 24)
          replace hfv := hfv.alloc (.cells #[.int .u64 fq.x0, .int .u64 fq.x1, .int .u64 fq.x2, .int .u64 fq.x3, .int .u64 fq.x4] 24)
          replace hfu := hfu.alloc (.cells #[.int .u64 fq.x0, .int .u64 fq.x1, .int .u64 fq.x2, .int .u64 fq.x3, .int .u64 fq.x4] 24)
          replace hfr := hfr.alloc (.cells #[.int .u64 fq.x0, .int .u64 fq.x1, .int .u64 fq.x2, .int .u64 fq.x3, .int .u64 fq.x4] 24)
          replace hfs := hfs.alloc (.cells #[.int .u64 fq.x0, .int .u64 fq.x1, .int .u64 fq.x2, .int .u64 fq.x3, .int .u64 fq.x4] 24)
          clear hg
          go_wp2_with fail
          obtain ⟨W13, hW13⟩ : ∃ W, W = w16.alloc (.cells #[.int .u64 fq.x0, .int .u64 fq.x1, .int .u64 fq.x2, .int .u64 fq.x3, .int .u64 fq.x4] 24) := ⟨_, rfl⟩
          rw [← hW13] at G1 hfa hfv hfu hfr hfs ⊢
          clear hW13
          have G13 := G1
          have HT13 := Lib.hid (HT.out.grown G1)
          have hB13 : EnvB W13 W13.heap.size [(w0.heap.size, fa), (w0.heap.size + 1, fv), (Bu, fu), (v6.heap.size, fr), (Bs, fs)] [] W13 := ⟨gb_refl _ _, by
            intro p hp
            simp only [List.mem_cons, List.not_mem_nil, or_false] at hp
            rcases hp with rfl | rfl | rfl | rfl | rfl
            · exact hfa
            · exact hfv
            · exact hfu
            · exact hfr
            · exact hfs, by simp, by
            intro p hp
            simp only [List.mem_cons, List.not_mem_nil, or_false] at hp
            rcases hp with rfl | rfl | rfl | rfl | rfl
            · exact hfa.lt
            · exact hfv.lt
            · exact hfu.lt
            · exact hfr.lt
            · exact hfs.lt, Nat.le_refl _, Nat.le_refl _⟩
          clear hfa hfv hfu hfr hfs G1
          have hsame := roots_same HRA.out HRV.out hzv
          rw [← ER.out] at hsame
          by_cases hsa : Fe.m fr = Fe.m fa
          · have HSa : Hid (decide (Fe.m fr = Fe.m fa) = true) := Lib.hid (dt hsa)
            clear hsa hsame
            refine wp_region_flow3 (items3 (Okb W13 [(w0.heap.size, fa), (w0.heap.size + 1, fv), (Bu, fu), (v6.heap.size, fr), (Bs, fs)]) [.any, .any, .any, .any, .val (.bool true), .any, .any, .any, .any, .any, .any, .any, .any, .any, .any, .any, .any, .any, .any, .any, .any, .any, .any, .any, .any, .any, .any, .any, .any, .any, .any, .any, .any, .any, .any, .any, .any, .any, .any, .any, .any, .any, .any, .any, .any, .any, .any, .any, .any, .any, .any, .any, .any, .any, .any, .any, .any, .any, .any, .any, .any, .any, .any, .any, .any, .any, .any, .any, .any, .any, .any, .any, .any, .any, .any, .any, .any, .any, .any, .val (.bool true), .val (.bool true), .val (fr.v), .val (fa.v), .val (.bool true), .val (.bool true), .val undef, .val undef, .val undef, .val undef, .val (.bool true), .val (.bool true), .val (.bool true), .val (.bool false), .val (.bool true), .val (.bool true), .val (.bool true), .val (.bool true), .val (.bool false), .val (.bool true), .val (.bool true), .val undef, .val undef, .val undef, .val undef, .val undef, .val undef, .val undef, .val undef, .val undef, .val (.bool true), .val (.bool true)]) (fun j =>  0) (Stored3 (Okb W13 [(w0.heap.size, fa), (w0.heap.size + 1, fv), (Bu, fu), (v6.heap.size, fr), (Bs, fs)]) (fun j =>  Fe.zeroF)) (EnvB W13 W13.heap.size [(w0.heap.size, fa), (w0.heap.size + 1, fv), (Bu, fu), (v6.heap.size, fr), (Bs, fs)] []) [] (by kernel_rfl) (by kernel_rfl) (by kernel_rfl) (hB13.grown (gb_drewn _)) (fun s hs => by cases hs) (by kernel_rfl) ?_ ?_
            · refine ⟨fe3_value rfl (by decide) fun a w h => ?_, ?_⟩
              · have e7 : a.tmps.getD 7 undef = .bool true := h.rest 7 (by kernel_rfl)
                refine ⟨wants_none rfl, .bool true, w, ?_, gb_refl _ _, rfl⟩
                clear h
                simp only [execOp, Act.eval, e7]
                go_simp
              refine ⟨fe3_value rfl (by decide) fun a w h => ?_, ?_⟩
              · have e79 : a.tmps.getD 79 undef = .bool true := h.dep 79 (by kernel_rfl)
                refine ⟨wants_none rfl, .bool true, w, ?_, gb_refl _ _, rfl⟩
                clear h
                simp only [execOp, Act.eval, e79]
                go_simp
              refine ⟨fe3_value rfl (by decide) fun a w h => ?_, ?_⟩
              · have e80 : a.tmps.getD 80 undef = .bool true := h.dep 80 (by kernel_rfl)
                have e6 : a.tmps.getD 6 undef = .pointer (some ⟨v6.heap.size, 0, none⟩) := h.rest 6 (by kernel_rfl)
                have hb := h.base.e (v6.heap.size, fr) (by simp)
                have c0 : w.cell? ⟨v6.heap.size, 0, none⟩ = some (.int .u64 fr.x0) := hb.cell (i := 0) rfl
                have c1 : w.cell? ⟨v6.heap.size, 1, none⟩ = some (.int .u64 fr.x1) := hb.cell (i := 1) rfl
                have c2 : w.cell? ⟨v6.heap.size, 2, none⟩ = some (.int .u64 fr.x2) := hb.cell (i := 2) rfl
                have c3 : w.cell? ⟨v6.heap.size, 3, none⟩ = some (.int .u64 fr.x3) := hb.cell (i := 3) rfl
                have c4 : w.cell? ⟨v6.heap.size, 4, none⟩ = some (.int .u64 fr.x4) := hb.cell (i := 4) rfl
                refine ⟨wants_some (d := 80) rfl rfl (by rw [h.size]; show 80 < 111; decide) e80, .agg #[.int .u64 fr.x0, .int .u64 fr.x1, .int .u64 fr.x2, .int .u64 fr.x3, .int .u64 fr.x4], w, ?_, gb_refl _ _, rfl⟩
                clear h hb
                simp only [execOp, Act.eval, e6]
                go_simp
              refine ⟨fe3_value rfl (by decide) fun a w h => ?_, ?_⟩
              · have e80 : a.tmps.getD 80 undef = .bool true := h.dep 80 (by kernel_rfl)
                have e2 : a.tmps.getD 2 undef = .pointer (some ⟨w0.heap.size, 0, none⟩) := h.rest 2 (by kernel_rfl)
                have hb := h.base.e (w0.heap.size, fa) (by simp)
                have c0 : w.cell? ⟨w0.heap.size, 0, none⟩ = some (.int .u64 fa.x0) := hb.cell (i := 0) rfl
                have c1 : w.cell? ⟨w0.heap.size, 1, none⟩ = some (.int .u64 fa.x1) := hb.cell (i := 1) rfl
                have c2 : w.cell? ⟨w0.heap.size, 2, none⟩ = some (.int .u64 fa.x2) := hb.cell (i := 2) rfl
                have c3 : w.cell? ⟨w0.heap.size, 3, none⟩ = some (.int .u64 fa.x3) := hb.cell (i := 3) rfl
                have c4 : w.cell? ⟨w0.heap.size, 4, none⟩ = some (.int .u64 fa.x4) := hb.cell (i := 4) rfl
                refine ⟨wants_some (d := 80) rfl rfl (by rw [h.size]; show 80 < 111; decide) e80, .agg #[.int .u64 fa.x0, .int .u64 fa.x1, .int .u64 fa.x2, .int .u64 fa.x3, .int .u64 fa.x4], w, ?_, gb_refl _ _, rfl⟩
                clear h hb
                simp only [execOp, Act.eval, e2]
                go_simp
              refine ⟨fe3_call rfl (by decide) fun a w h => ?_, ?_⟩
              · have e80 : a.tmps.getD 80 undef = .bool true := h.dep 80 (by kernel_rfl)
                have e81 : a.tmps.getD 81 undef = fr.v := h.dep 81 (by kernel_rfl)
                have e81x : a.tmps[81]?.getD undef = fr.v := by simpa using e81
                have e82 : a.tmps.getD 82 undef = fa.v := h.dep 82 (by kernel_rfl)
                have e82x : a.tmps[82]?.getD undef = fa.v := by simpa using e82
                have hb := h.base
                refine ⟨wants_some (d := 80) rfl rfl (by rw [h.size]; show 80 < 111; decide) e80, 13, #[fr.v, fa.v], ?_, ?_⟩
                · clear h hb e81 e82
                  go_simp
                · refine (same_val fr fa true w okfr okfa (HSa.out)).mono ?_
                  intro e w1 hp
                  obtain ⟨rfl, hg⟩ := hp
                  exact ⟨_, rfl, hg, rfl⟩
              refine ⟨fe3_value rfl (by decide) fun a w h => ?_, ?_⟩
              · have e80 : a.tmps.getD 80 undef = .bool true := h.dep 80 (by kernel_rfl)
                have e83 : a.tmps.getD 83 undef = .bool true := h.dep 83 (by kernel_rfl)
                refine ⟨wants_some (d := 80) rfl rfl (by rw [h.size]; show 80 < 111; decide) e80, .bool true, w, ?_, gb_refl _ _, rfl⟩
                clear h
                simp only [execOp, Act.eval, e83]
                go_simp
              refine ⟨flow3_skipped rfl (by decide) (fun w _ => rfl) fun a w h => ?_, ?_⟩
              · have e84 : a.tmps.getD 84 undef = .bool true := h.dep 84 (by kernel_rfl)
                exact not_wants (d := 84) rfl rfl (by rw [h.size]; show 84 < 111; decide) e84 (by decide)
              refine ⟨flow3_skipped rfl (by decide) (fun w _ => rfl) fun a w h => ?_, ?_⟩
              · have e84 : a.tmps.getD 84 undef = .bool true := h.dep 84 (by kernel_rfl)
                exact not_wants (d := 84) rfl rfl (by rw [h.size]; show 84 < 111; decide) e84 (by decide)
              refine ⟨flow3_skipped rfl (by decide) (fun w _ => rfl) fun a w h => ?_, ?_⟩
              · have e84 : a.tmps.getD 84 undef = .bool true := h.dep 84 (by kernel_rfl)
                exact not_wants (d := 84) rfl rfl (by rw [h.size]; show 84 < 111; decide) e84 (by decide)
              refine ⟨flow3_skipped rfl (by decide) (fun w _ => rfl) fun a w h => ?_, ?_⟩
              · have e84 : a.tmps.getD 84 undef = .bool true := h.dep 84 (by kernel_rfl)
                exact not_wants (d := 84) rfl rfl (by rw [h.size]; show 84 < 111; decide) e84 (by decide)
              refine ⟨fe3_value rfl (by decide) fun a w h => ?_, ?_⟩
              · have e80 : a.tmps.getD 80 undef = .bool true := h.dep 80 (by kernel_rfl)
                have e84 : a.tmps.getD 84 undef = .bool true := h.dep 84 (by kernel_rfl)
                refine ⟨wants_some (d := 80) rfl rfl (by rw [h.size]; show 80 < 111; decide) e80, .bool true, w, ?_, gb_refl _ _, rfl⟩
                clear h
                simp only [execOp, Act.eval, e84]
                go_simp
              refine ⟨fe3_value rfl (by decide) fun a w h => ?_, ?_⟩
              · have e80 : a.tmps.getD 80 undef = .bool true := h.dep 80 (by kernel_rfl)
                have e89 : a.tmps.getD 89 undef = .bool true := h.dep 89 (by kernel_rfl)
                refine ⟨wants_none rfl, .bool true, w, ?_, gb_refl _ _, rfl⟩
                clear h
                simp only [execOp, Act.eval, e80, e89]
                go_simp
              refine ⟨fe3_value rfl (by decide) fun a w h => ?_, ?_⟩
              · have e90 : a.tmps.getD 90 undef = .bool true := h.dep 90 (by kernel_rfl)
                refine ⟨wants_none rfl, .bool true, w, ?_, gb_refl _ _, rfl⟩
                clear h
                simp only [execOp, Act.eval, e90]
                go_simp
              refine ⟨fe3_value rfl (by decide) fun a w h => ?_, ?_⟩
              · have e91 : a.tmps.getD 91 undef = .bool true := h.dep 91 (by kernel_rfl)
                have e9 : a.tmps.getD 9 undef = .bool false := h.rest 9 (by kernel_rfl)
                refine ⟨wants_some (d := 91) rfl rfl (by rw [h.size]; show 91 < 111; decide) e91, .bool false, w, ?_, gb_refl _ _, rfl⟩
                clear h
                simp only [execOp, Act.eval, e9]
                go_simp
              refine ⟨fe3_value rfl (by decide) fun a w h => ?_, ?_⟩
              · have e91 : a.tmps.getD 91 undef = .bool true := h.dep 91 (by kernel_rfl)
                have e11 : a.tmps.getD 11 undef = .bool true := h.rest 11 (by kernel_rfl)
                refine ⟨wants_some (d := 91) rfl rfl (by rw [h.size]; show 91 < 111; decide) e91, .bool true, w, ?_, gb_refl _ _, rfl⟩
                clear h
                simp only [execOp, Act.eval, e11]
                go_simp
              refine ⟨fe3_value rfl (by decide) fun a w h => ?_, ?_⟩
              · have e91 : a.tmps.getD 91 undef = .bool true := h.dep 91 (by kernel_rfl)
                have e92 : a.tmps.getD 92 undef = .bool false := h.dep 92 (by kernel_rfl)
                have e93 : a.tmps.getD 93 undef = .bool true := h.dep 93 (by kernel_rfl)
                refine ⟨wants_some (d := 91) rfl rfl (by rw [h.size]; show 91 < 111; decide) e91, .bool true, w, ?_, gb_refl _ _, rfl⟩
                clear h
                simp only [execOp, Act.eval, e92, e93]
                go_simp
              refine ⟨fe3_value rfl (by decide) fun a w h => ?_, ?_⟩
              · have e91 : a.tmps.getD 91 undef = .bool true := h.dep 91 (by kernel_rfl)
                have e94 : a.tmps.getD 94 undef = .bool true := h.dep 94 (by kernel_rfl)
                refine ⟨wants_none rfl, .bool true, w, ?_, gb_refl _ _, rfl⟩
                clear h
                simp only [execOp, Act.eval, e91, e94]
                go_simp
              refine ⟨fe3_value rfl (by decide) fun a w h => ?_, ?_⟩
              · have e95 : a.tmps.getD 95 undef = .bool true := h.dep 95 (by kernel_rfl)
                refine ⟨wants_none rfl, .bool true, w, ?_, gb_refl _ _, rfl⟩
                clear h
                simp only [execOp, Act.eval, e95]
                go_simp
              refine ⟨fe3_value rfl (by decide) fun a w h => ?_, ?_⟩
              · have e96 : a.tmps.getD 96 undef = .bool true := h.dep 96 (by kernel_rfl)
                have e9 : a.tmps.getD 9 undef = .bool false := h.rest 9 (by kernel_rfl)
                refine ⟨wants_some (d := 96) rfl rfl (by rw [h.size]; show 96 < 111; decide) e96, .bool false, w, ?_, gb_refl _ _, rfl⟩
                clear h
                simp only [execOp, Act.eval, e9]
                go_simp
              refine ⟨fe3_value rfl (by decide) fun a w h => ?_, ?_⟩
              · have e96 : a.tmps.getD 96 undef = .bool true := h.dep 96 (by kernel_rfl)
                have e97 : a.tmps.getD 97 undef = .bool false := h.dep 97 (by kernel_rfl)
                refine ⟨wants_some (d := 96) rfl rfl (by rw [h.size]; show 96 < 111; decide) e96, .bool true, w, ?_, gb_refl _ _, rfl⟩
                clear h
                simp only [execOp, Act.eval, e97]
                go_simp
              refine ⟨fe3_value rfl (by decide) fun a w h => ?_, ?_⟩
              · have e96 : a.tmps.getD 96 undef = .bool true := h.dep 96 (by kernel_rfl)
                have e98 : a.tmps.getD 98 undef = .bool true := h.dep 98 (by kernel_rfl)
                refine ⟨wants_some (d := 96) rfl rfl (by rw [h.size]; show 96 < 111; decide) e96, .bool true, w, ?_, gb_refl _ _, rfl⟩
                clear h
                simp only [execOp, Act.eval, e98]
                go_simp
              refine ⟨flow3_skipped rfl (by decide) (fun w _ => rfl) fun a w h => ?_, ?_⟩
              · have e99 : a.tmps.getD 99 undef = .bool true := h.dep 99 (by kernel_rfl)
                exact not_wants (d := 99) rfl rfl (by rw [h.size]; show 99 < 111; decide) e99 (by decide)
              refine ⟨flow3_skipped rfl (by decide) (fun w _ => rfl) fun a w h => ?_, ?_⟩
              · have e99 : a.tmps.getD 99 undef = .bool true := h.dep 99 (by kernel_rfl)
                exact not_wants (d := 99) rfl rfl (by rw [h.size]; show 99 < 111; decide) e99 (by decide)
              refine ⟨flow3_skipped rfl (by decide) (fun w _ => rfl) fun a w h => ?_, ?_⟩
              · have e99 : a.tmps.getD 99 undef = .bool true := h.dep 99 (by kernel_rfl)
                exact not_wants (d := 99) rfl rfl (by rw [h.size]; show 99 < 111; decide) e99 (by decide)
              refine ⟨flow3_skipped rfl (by decide) (fun w _ => rfl) fun a w h => ?_, ?_⟩
              · have e99 : a.tmps.getD 99 undef = .bool true := h.dep 99 (by kernel_rfl)
                exact not_wants (d := 99) rfl rfl (by rw [h.size]; show 99 < 111; decide) e99 (by decide)
              refine ⟨flow3_skipped rfl (by decide) (fun w _ => rfl) fun a w h => ?_, ?_⟩
              · have e99 : a.tmps.getD 99 undef = .bool true := h.dep 99 (by kernel_rfl)
                exact not_wants (d := 99) rfl rfl (by rw [h.size]; show 99 < 111; decide) e99 (by decide)
              refine ⟨flow3_skipped rfl (by decide) (fun w _ => rfl) fun a w h => ?_, ?_⟩
              · have e104 : a.tmps.getD 104 undef = undef := h.dep 104 (by kernel_rfl)
                exact not_wants_undef (d := 104) rfl rfl (by rw [h.size]; show 104 < 111; decide) e104
              refine ⟨flow3_skipped rfl (by decide) (fun w _ => rfl) fun a w h => ?_, ?_⟩
              · have e104 : a.tmps.getD 104 undef = undef := h.dep 104 (by kernel_rfl)
                exact not_wants_undef (d := 104) rfl rfl (by rw [h.size]; show 104 < 111; decide) e104
              refine ⟨flow3_skipped rfl (by decide) (fun w _ => rfl) fun a w h => ?_, ?_⟩
              · have e104 : a.tmps.getD 104 undef = undef := h.dep 104 (by kernel_rfl)
                exact not_wants_undef (d := 104) rfl rfl (by rw [h.size]; show 104 < 111; decide) e104
              refine ⟨flow3_skipped rfl (by decide) (fun w _ => rfl) fun a w h => ?_, ?_⟩
              · have e99 : a.tmps.getD 99 undef = .bool true := h.dep 99 (by kernel_rfl)
                exact not_wants (d := 99) rfl rfl (by rw [h.size]; show 99 < 111; decide) e99 (by decide)
              refine ⟨fe3_value rfl (by decide) fun a w h => ?_, ?_⟩
              · have e96 : a.tmps.getD 96 undef = .bool true := h.dep 96 (by kernel_rfl)
                have e99 : a.tmps.getD 99 undef = .bool true := h.dep 99 (by kernel_rfl)
                refine ⟨wants_some (d := 96) rfl rfl (by rw [h.size]; show 96 < 111; decide) e96, .bool true, w, ?_, gb_refl _ _, rfl⟩
                clear h
                simp only [execOp, Act.eval, e99]
                go_simp
              refine ⟨fe3_value rfl (by decide) fun a w h => ?_, ?_⟩
              · have e96 : a.tmps.getD 96 undef = .bool true := h.dep 96 (by kernel_rfl)
                have e109 : a.tmps.getD 109 undef = .bool true := h.dep 109 (by kernel_rfl)
                refine ⟨wants_none rfl, .bool true, w, ?_, gb_refl _ _, rfl⟩
                clear h
                simp only [execOp, Act.eval, e96, e109]
                go_simp
              refine ⟨fe3_value rfl (by decide) fun a w h => ?_, ?_⟩
              · have e110 : a.tmps.getD 110 undef = .bool true := h.dep 110 (by kernel_rfl)
                refine ⟨wants_none rfl, .bool true, w, ?_, gb_refl _ _, rfl⟩
                clear h
                simp only [execOp, Act.eval, e110]
                go_simp
              trivial
            · intro q w hB hsz hdf hrest hslots hmems
              have e4 : q.tmps.getD 4 undef = .bool true := hslots 4 (by kernel_rfl)
              have G := gb_trans G13 hB.g
              replace hdf : q.defers = [] := hdf
              clear hB hsz hrest hslots hmems
              have e4x : q.tmps[4]?.getD undef = .bool true := by simpa using e4
              go_wp2_with fail
              refine bodyPost_ret (v := .bool true) ?_ hdf ⟨rfl, G⟩
              simp [results, Tryd.results7, go_sem, e4x]
          · have HSa : Hid (decide (Fe.m fr = Fe.m fa) = false) := Lib.hid (df hsa)
            have HSn : Hid (decide (Fe.m fr = Fe.m (Fe.negF fa)) = true) := Lib.hid (dt (hsame.resolve_left hsa))
            clear hsa hsame
            refine wp_region_flow3 (items3 (Okb W13 [(w0.heap.size, fa), (w0.heap.size + 1, fv), (Bu, fu), (v6.heap.size, fr), (Bs, fs)]) [.any, .any, .any, .any, .val (.bool true), .any, .any, .any, .any, .any, .any, .any, .any, .any, .any, .any, .any, .any, .any, .any, .any, .any, .any, .any, .any, .any, .any, .any, .any, .any, .any, .any, .any, .any, .any, .any, .any, .any, .any, .any, .any, .any, .any, .any, .any, .any, .any, .any, .any, .any, .any, .any, .any, .any, .any, .any, .any, .any, .any, .any, .any, .any, .any, .any, .any, .any, .any, .any, .any, .any, .any, .any, .any, .any, .any, .any, .any, .any, .any, .val (.bool true), .val (.bool true), .val (fr.v), .val (fa.v), .val (.bool false), .val (.bool false), .val (fr.v), .val (fa.v), .val ((Fe.negF fa).v), .val (.bool true), .val (.bool true), .val (.bool true), .val (.bool true), .val (.bool false), .val (.bool true), .val (.bool true), .val (.bool true), .val (.bool true), .val (.bool false), .val (.bool true), .val (.bool true), .val undef, .val undef, .val undef, .val undef, .val undef, .val undef, .val undef, .val undef, .val undef, .val (.bool true), .val (.bool true)]) (fun j =>  0) (Stored3 (Okb W13 [(w0.heap.size, fa), (w0.heap.size + 1, fv), (Bu, fu), (v6.heap.size, fr), (Bs, fs)]) (fun j =>  Fe.zeroF)) (EnvB W13 W13.heap.size [(w0.heap.size, fa), (w0.heap.size + 1, fv), (Bu, fu), (v6.heap.size, fr), (Bs, fs)] []) [] (by kernel_rfl) (by kernel_rfl) (by kernel_rfl) (hB13.grown (gb_drewn _)) (fun s hs => by cases hs) (by kernel_rfl) ?_ ?_
            · refine ⟨fe3_value rfl (by decide) fun a w h => ?_, ?_⟩
              · have e7 : a.tmps.getD 7 undef = .bool true := h.rest 7 (by kernel_rfl)
                refine ⟨wants_none rfl, .bool true, w, ?_, gb_refl _ _, rfl⟩
                clear h
                simp only [execOp, Act.eval, e7]
                go_simp
              refine ⟨fe3_value rfl (by decide) fun a w h => ?_, ?_⟩
              · have e79 : a.tmps.getD 79 undef = .bool true := h.dep 79 (by kernel_rfl)
                refine ⟨wants_none rfl, .bool true, w, ?_, gb_refl _ _, rfl⟩
                clear h
                simp only [execOp, Act.eval, e79]
                go_simp
              refine ⟨fe3_value rfl (by decide) fun a w h => ?_, ?_⟩
              · have e80 : a.tmps.getD 80 undef = .bool true := h.dep 80 (by kernel_rfl)
                have e6 : a.tmps.getD 6 undef = .pointer (some ⟨v6.heap.size, 0, none⟩) := h.rest 6 (by kernel_rfl)
                have hb := h.base.e (v6.heap.size, fr) (by simp)
                have c0 : w.cell? ⟨v6.heap.size, 0, none⟩ = some (.int .u64 fr.x0) := hb.cell (i := 0) rfl
                have c1 : w.cell? ⟨v6.heap.size, 1, none⟩ = some (.int .u64 fr.x1) := hb.cell (i := 1) rfl
                have c2 : w.cell? ⟨v6.heap.size, 2, none⟩ = some (.int .u64 fr.x2) := hb.cell (i := 2) rfl
                have c3 : w.cell? ⟨v6.heap.size, 3, none⟩ = some (.int .u64 fr.x3) := hb.cell (i := 3) rfl
                have c4 : w.cell? ⟨v6.heap.size, 4, none⟩ = some (.int .u64 fr.x4) := hb.cell (i := 4) rfl
                refine ⟨wants_some (d := 80) rfl rfl (by rw [h.size]; show 80 < 111; decide) e80, .agg #[.int .u64 fr.x0, .int .u64 fr.x1, .int .u64 fr.x2, .int .u64 fr.x3, .int .u64 fr.x4], w, ?_, gb_refl _ _, rfl⟩
                clear h hb
                simp only [execOp, Act.eval, e6]
                go_simp
              refine ⟨fe3_value rfl (by decide) fun a w h => ?_, ?_⟩
              · have e80 : a.tmps.getD 80 undef = .bool true := h.dep 80 (by kernel_rfl)
                have e2 : a.tmps.getD 2 undef = .pointer (some ⟨w0.heap.size, 0, none⟩) := h.rest 2 (by kernel_rfl)
                have hb := h.base.e (w0.heap.size, fa) (by simp)
                have c0 : w.cell? ⟨w0.heap.size, 0, none⟩ = some (.int .u64 fa.x0) := hb.cell (i := 0) rfl
                have c1 : w.cell? ⟨w0.heap.size, 1, none⟩ = some (.int .u64 fa.x1) := hb.cell (i := 1) rfl
                have c2 : w.cell? ⟨w0.heap.size, 2, none⟩ = some (.int .u64 fa.x2) := hb.cell (i := 2) rfl
                have c3 : w.cell? ⟨w0.heap.size, 3, none⟩ = some (.int .u64 fa.x3) := hb.cell (i := 3) rfl
                have c4 : w.cell? ⟨w0.heap.size, 4, none⟩ = some (.int .u64 fa.x4) := hb.cell (i := 4) rfl
                refine ⟨wants_some (d := 80) rfl rfl (by rw [h.size]; show 80 < 111; decide) e80, .agg #[.int .u64 fa.x0, .int .u64 fa.x1, .int .u64 fa.x2, .int .u64 fa.x3, .int .u64 fa.x4], w, ?_, gb_refl _ _, rfl⟩
                clear h hb
                simp only [execOp, Act.eval, e2]
                go_simp
              refine ⟨fe3_call rfl (by decide) fun a w h => ?_, ?_⟩
              · have e80 : a.tmps.getD 80 undef = .bool true := h.dep 80 (by kernel_rfl)
                have e81 : a.tmps.getD 81 undef = fr.v := h.dep 81 (by kernel_rfl)
                have e81x : a.tmps[81]?.getD undef = fr.v := by simpa using e81
                have e82 : a.tmps.getD 82 undef = fa.v := h.dep 82 (by kernel_rfl)
                have e82x : a.tmps[82]?.getD undef = fa.v := by simpa using e82
                have hb := h.base
                refine ⟨wants_some (d := 80) rfl rfl (by rw [h.size]; show 80 < 111; decide) e80, 13, #[fr.v, fa.v], ?_, ?_⟩
                · clear h hb e81 e82
                  go_simp
                · refine (same_val fr fa false w okfr okfa (HSa.out)).mono ?_
                  intro e w1 hp
                  obtain ⟨rfl, hg⟩ := hp
                  exact ⟨_, rfl, hg, rfl⟩
              refine ⟨fe3_value rfl (by decide) fun a w h => ?_, ?_⟩
              · have e80 : a.tmps.getD 80 undef = .bool true := h.dep 80 (by kernel_rfl)
                have e83 : a.tmps.getD 83 undef = .bool false := h.dep 83 (by kernel_rfl)
                refine ⟨wants_some (d := 80) rfl rfl (by rw [h.size]; show 80 < 111; decide) e80, .bool false, w, ?_, gb_refl _ _, rfl⟩
                clear h
                simp only [execOp, Act.eval, e83]
                go_simp
              refine ⟨fe3_value rfl (by decide) fun a w h => ?_, ?_⟩
              · have e84 : a.tmps.getD 84 undef = .bool false := h.dep 84 (by kernel_rfl)
                have e6 : a.tmps.getD 6 undef = .pointer (some ⟨v6.heap.size, 0, none⟩) := h.rest 6 (by kernel_rfl)
                have hb := h.base.e (v6.heap.size, fr) (by simp)
                have c0 : w.cell? ⟨v6.heap.size, 0, none⟩ = some (.int .u64 fr.x0) := hb.cell (i := 0) rfl
                have c1 : w.cell? ⟨v6.heap.size, 1, none⟩ = some (.int .u64 fr.x1) := hb.cell (i := 1) rfl
                have c2 : w.cell? ⟨v6.heap.size, 2, none⟩ = some (.int .u64 fr.x2) := hb.cell (i := 2) rfl
                have c3 : w.cell? ⟨v6.heap.size, 3, none⟩ = some (.int .u64 fr.x3) := hb.cell (i := 3) rfl
                have c4 : w.cell? ⟨v6.heap.size, 4, none⟩ = some (.int .u64 fr.x4) := hb.cell (i := 4) rfl
                refine ⟨wants_some (d := 84) rfl rfl (by rw [h.size]; show 84 < 111; decide) e84, .agg #[.int .u64 fr.x0, .int .u64 fr.x1, .int .u64 fr.x2, .int .u64 fr.x3, .int .u64 fr.x4], w, ?_, gb_refl _ _, rfl⟩
                clear h hb
                simp only [execOp, Act.eval, e6]
                go_simp
              refine ⟨fe3_value rfl (by decide) fun a w h => ?_, ?_⟩
              · have e84 : a.tmps.getD 84 undef = .bool false := h.dep 84 (by kernel_rfl)
                have e2 : a.tmps.getD 2 undef = .pointer (some ⟨w0.heap.size, 0, none⟩) := h.rest 2 (by kernel_rfl)
                have hb := h.base.e (w0.heap.size, fa) (by simp)
                have c0 : w.cell? ⟨w0.heap.size, 0, none⟩ = some (.int .u64 fa.x0) := hb.cell (i := 0) rfl
                have c1 : w.cell? ⟨w0.heap.size, 1, none⟩ = some (.int .u64 fa.x1) := hb.cell (i := 1) rfl
                have c2 : w.cell? ⟨w0.heap.size, 2, none⟩ = some (.int .u64 fa.x2) := hb.cell (i := 2) rfl
                have c3 : w.cell? ⟨w0.heap.size, 3, none⟩ = some (.int .u64 fa.x3) := hb.cell (i := 3) rfl
                have c4 : w.cell? ⟨w0.heap.size, 4, none⟩ = some (.int .u64 fa.x4) := hb.cell (i := 4) rfl
                refine ⟨wants_some (d := 84) rfl rfl (by rw [h.size]; show 84 < 111; decide) e84, .agg #[.int .u64 fa.x0, .int .u64 fa.x1, .int .u64 fa.x2, .int .u64 fa.x3, .int .u64 fa.x4], w, ?_, gb_refl _ _, rfl⟩
                clear h hb
                simp only [execOp, Act.eval, e2]
                go_simp
              refine ⟨fe3_call rfl (by decide) fun a w h => ?_, ?_⟩
              · have e84 : a.tmps.getD 84 undef = .bool false := h.dep 84 (by kernel_rfl)
                have e86 : a.tmps.getD 86 undef = fa.v := h.dep 86 (by kernel_rfl)
                have e86x : a.tmps[86]?.getD undef = fa.v := by simpa using e86
                have hb := h.base
                refine ⟨wants_some (d := 84) rfl rfl (by rw [h.size]; show 84 < 111; decide) e84, 14, #[fa.v], ?_, ?_⟩
                · clear h hb e86
                  go_simp
                · refine (neg_any fa w (HT13.out.grown hb.g) okfa).mono ?_
                  intro e w1 hp
                  obtain ⟨rfl, hg⟩ := feOut_is hp
                  exact ⟨_, rfl, hg, rfl⟩
              refine ⟨fe3_call rfl (by decide) fun a w h => ?_, ?_⟩
              · have e84 : a.tmps.getD 84 undef = .bool false := h.dep 84 (by kernel_rfl)
                have e85 : a.tmps.getD 85 undef = fr.v := h.dep 85 (by kernel_rfl)
                have e85x : a.tmps[85]?.getD undef = fr.v := by simpa using e85
                have e87 : a.tmps.getD 87 undef = (Fe.negF fa).v := h.dep 87 (by kernel_rfl)
                have e87x : a.tmps[87]?.getD undef = (Fe.negF fa).v := by simpa using e87
                have hb := h.base
                refine ⟨wants_some (d := 84) rfl rfl (by rw [h.size]; show 84 < 111; decide) e84, 13, #[fr.v, (Fe.negF fa).v], ?_, ?_⟩
                · clear h hb e85 e87
                  go_simp
                · refine (same_val fr (Fe.negF fa) true w okfr (Fe.neg_right _).ok (HSn.out)).mono ?_
                  intro e w1 hp
                  obtain ⟨rfl, hg⟩ := hp
                  exact ⟨_, rfl, hg, rfl⟩
              refine ⟨fe3_value rfl (by decide) fun a w h => ?_, ?_⟩
              · have e80 : a.tmps.getD 80 undef = .bool true := h.dep 80 (by kernel_rfl)
                have e84 : a.tmps.getD 84 undef = .bool false := h.dep 84 (by kernel_rfl)
                have e88 : a.tmps.getD 88 undef = .bool true := h.dep 88 (by kernel_rfl)
                refine ⟨wants_some (d := 80) rfl rfl (by rw [h.size]; show 80 < 111; decide) e80, .bool true, w, ?_, gb_refl _ _, rfl⟩
                clear h
                simp only [execOp, Act.eval, e84, e88]
                go_simp
              refine ⟨fe3_value rfl (by decide) fun a w h => ?_, ?_⟩
              · have e80 : a.tmps.getD 80 undef = .bool true := h.dep 80 (by kernel_rfl)
                have e89 : a.tmps.getD 89 undef = .bool true := h.dep 89 (by kernel_rfl)
                refine ⟨wants_none rfl, .bool true, w, ?_, gb_refl _ _, rfl⟩
                clear h
                simp only [execOp, Act.eval, e80, e89]
                go_simp
              refine ⟨fe3_value rfl (by decide) fun a w h => ?_, ?_⟩
              · have e90 : a.tmps.getD 90 undef = .bool true := h.dep 90 (by kernel_rfl)
                refine ⟨wants_none rfl, .bool true, w, ?_, gb_refl _ _, rfl⟩
                clear h
                simp only [execOp, Act.eval, e90]
                go_simp
              refine ⟨fe3_value rfl (by decide) fun a w h => ?_, ?_⟩
              · have e91 : a.tmps.getD 91 undef = .bool true := h.dep 91 (by kernel_rfl)
                have e9 : a.tmps.getD 9 undef = .bool false := h.rest 9 (by kernel_rfl)
                refine ⟨wants_some (d := 91) rfl rfl (by rw [h.size]; show 91 < 111; decide) e91, .bool false, w, ?_, gb_refl _ _, rfl⟩
                clear h
                simp only [execOp, Act.eval, e9]
                go_simp
              refine ⟨fe3_value rfl (by decide) fun a w h => ?_, ?_⟩
              · have e91 : a.tmps.getD 91 undef = .bool true := h.dep 91 (by kernel_rfl)
                have e11 : a.tmps.getD 11 undef = .bool true := h.rest 11 (by kernel_rfl)
                refine ⟨wants_some (d := 91) rfl rfl (by rw [h.size]; show 91 < 111; decide) e91, .bool true, w, ?_, gb_refl _ _, rfl⟩
                clear h
                simp only [execOp, Act.eval, e11]
                go_simp
              refine ⟨fe3_value rfl (by decide) fun a w h => ?_, ?_⟩
              · have e91 : a.tmps.getD 91 undef = .bool true := h.dep 91 (by kernel_rfl)
                have e92 : a.tmps.getD 92 undef = .bool false := h.dep 92 (by kernel_rfl)
                have e93 : a.tmps.getD 93 undef = .bool true := h.dep 93 (by kernel_rfl)
                refine ⟨wants_some (d := 91) rfl rfl (by rw [h.size]; show 91 < 111; decide) e91, .bool true, w, ?_, gb_refl _ _, rfl⟩
                clear h
                simp only [execOp, Act.eval, e92, e93]
                go_simp
              refine ⟨fe3_value rfl (by decide) fun a w h => ?_, ?_⟩
              · have e91 : a.tmps.getD 91 undef = .bool true := h.dep 91 (by kernel_rfl)
                have e94 : a.tmps.getD 94 undef = .bool true := h.dep 94 (by kernel_rfl)
                refine ⟨wants_none rfl, .bool true, w, ?_, gb_refl _ _, rfl⟩
                clear h
                simp only [execOp, Act.eval, e91, e94]
                go_simp
              refine ⟨fe3_value rfl (by decide) fun a w h => ?_, ?_⟩
              · have e95 : a.tmps.getD 95 undef = .bool true := h.dep 95 (by kernel_rfl)
                refine ⟨wants_none rfl, .bool true, w, ?_, gb_refl _ _, rfl⟩
                clear h
                simp only [execOp, Act.eval, e95]
                go_simp
              refine ⟨fe3_value rfl (by decide) fun a w h => ?_, ?_⟩
              · have e96 : a.tmps.getD 96 undef = .bool true := h.dep 96 (by kernel_rfl)
                have e9 : a.tmps.getD 9 undef = .bool false := h.rest 9 (by kernel_rfl)
                refine ⟨wants_some (d := 96) rfl rfl (by rw [h.size]; show 96 < 111; decide) e96, .bool false, w, ?_, gb_refl _ _, rfl⟩
                clear h
                simp only [execOp, Act.eval, e9]
                go_simp
              refine ⟨fe3_value rfl (by decide) fun a w h => ?_, ?_⟩
              · have e96 : a.tmps.getD 96 undef = .bool true := h.dep 96 (by kernel_rfl)
                have e97 : a.tmps.getD 97 undef = .bool false := h.dep 97 (by kernel_rfl)
                refine ⟨wants_some (d := 96) rfl rfl (by rw [h.size]; show 96 < 111; decide) e96, .bool true, w, ?_, gb_refl _ _, rfl⟩
                clear h
                simp only [execOp, Act.eval, e97]
                go_simp
              refine ⟨fe3_value rfl (by decide) fun a w h => ?_, ?_⟩
              · have e96 : a.tmps.getD 96 undef = .bool true := h.dep 96 (by kernel_rfl)
                have e98 : a.tmps.getD 98 undef = .bool true := h.dep 98 (by kernel_rfl)
                refine ⟨wants_some (d := 96) rfl rfl (by rw [h.size]; show 96 < 111; decide) e96, .bool true, w, ?_, gb_refl _ _, rfl⟩
                clear h
                simp only [execOp, Act.eval, e98]
                go_simp
              refine ⟨flow3_skipped rfl (by decide) (fun w _ => rfl) fun a w h => ?_, ?_⟩
              · have e99 : a.tmps.getD 99 undef = .bool true := h.dep 99 (by kernel_rfl)
                exact not_wants (d := 99) rfl rfl (by rw [h.size]; show 99 < 111; decide) e99 (by decide)
              refine ⟨flow3_skipped rfl (by decide) (fun w _ => rfl) fun a w h => ?_, ?_⟩
              · have e99 : a.tmps.getD 99 undef = .bool true := h.dep 99 (by kernel_rfl)
                exact not_wants (d := 99) rfl rfl (by rw [h.size]; show 99 < 111; decide) e99 (by decide)
              refine ⟨flow3_skipped rfl (by decide) (fun w _ => rfl) fun a w h => ?_, ?_⟩
              · have e99 : a.tmps.getD 99 undef = .bool true := h.dep 99 (by kernel_rfl)
                exact not_wants (d := 99) rfl rfl (by rw [h.size]; show 99 < 111; decide) e99 (by decide)
              refine ⟨flow3_skipped rfl (by decide) (fun w _ => rfl) fun a w h => ?_, ?_⟩
              · have e99 : a.tmps.getD 99 undef = .bool true := h.dep 99 (by kernel_rfl)
                exact not_wants (d := 99) rfl rfl (by rw [h.size]; show 99 < 111; decide) e99 (by decide)
              refine ⟨flow3_skipped rfl (by decide) (fun w _ => rfl) fun a w h => ?_, ?_⟩
              · have e99 : a.tmps.getD 99 undef = .bool true := h.dep 99 (by kernel_rfl)
                exact not_wants (d := 99) rfl rfl (by rw [h.size]; show 99 < 111; decide) e99 (by decide)
              refine ⟨flow3_skipped rfl (by decide) (fun w _ => rfl) fun a w h => ?_, ?_⟩
              · have e104 : a.tmps.getD 104 undef = undef := h.dep 104 (by kernel_rfl)
                exact not_wants_undef (d := 104) rfl rfl (by rw [h.size]; show 104 < 111; decide) e104
              refine ⟨flow3_skipped rfl (by decide) (fun w _ => rfl) fun a w h => ?_, ?_⟩
              · have e104 : a.tmps.getD 104 undef = undef := h.dep 104 (by kernel_rfl)
                exact not_wants_undef (d := 104) rfl rfl (by rw [h.size]; show 104 < 111; decide) e104
              refine ⟨flow3_skipped rfl (by decide) (fun w _ => rfl) fun a w h => ?_, ?_⟩
              · have e104 : a.tmps.getD 104 undef = undef := h.dep 104 (by kernel_rfl)
                exact not_wants_undef (d := 104) rfl rfl (by rw [h.size]; show 104 < 111; decide) e104
              refine ⟨flow3_skipped rfl (by decide) (fun w _ => rfl) fun a w h => ?_, ?_⟩
              · have e99 : a.tmps.getD 99 undef = .bool true := h.dep 99 (by kernel_rfl)
                exact not_wants (d := 99) rfl rfl (by rw [h.size]; show 99 < 111; decide) e99 (by decide)
              refine ⟨fe3_value rfl (by decide) fun a w h => ?_, ?_⟩
              · have e96 : a.tmps.getD 96 undef = .bool true := h.dep 96 (by kernel_rfl)
                have e99 : a.tmps.getD 99 undef = .bool true := h.dep 99 (by kernel_rfl)
                refine ⟨wants_some (d := 96) rfl rfl (by rw [h.size]; show 96 < 111; decide) e96, .bool true, w, ?_, gb_refl _ _, rfl⟩
                clear h
                simp only [execOp, Act.eval, e99]
                go_simp
              refine ⟨fe3_value rfl (by decide) fun a w h => ?_, ?_⟩
              · have e96 : a.tmps.getD 96 undef = .bool true := h.dep 96 (by kernel_rfl)
                have e109 : a.tmps.getD 109 undef = .bool true := h.dep 109 (by kernel_rfl)
                refine ⟨wants_none rfl, .bool true, w, ?_, gb_refl _ _, rfl⟩
                clear h
                simp only [execOp, Act.eval, e96, e109]
                go_simp
              refine ⟨fe3_value rfl (by decide) fun a w h => ?_, ?_⟩
              · have e110 : a.tmps.getD 110 undef = .bool true := h.dep 110 (by kernel_rfl)
                refine ⟨wants_none rfl, .bool true, w, ?_, gb_refl _ _, rfl⟩
                clear h
                simp only [execOp, Act.eval, e110]
                go_simp
              trivial
            · intro q w hB hsz hdf hrest hslots hmems
              have e4 : q.tmps.getD 4 undef = .bool true := hslots 4 (by kernel_rfl)
              have G := gb_trans G13 hB.g
              replace hdf : q.defers = [] := hdf
              clear hB hsz hrest hslots hmems
              have e4x : q.tmps[4]?.getD undef = .bool true := by simpa using e4
              go_wp2_with fail
              refine bodyPost_ret (v := .bool true) ?_ hdf ⟨rfl, G⟩
              simp [results, Tryd.results7, go_sem, e4x]
end Go.Proofs.YthjakoifbahkcaaDoor
