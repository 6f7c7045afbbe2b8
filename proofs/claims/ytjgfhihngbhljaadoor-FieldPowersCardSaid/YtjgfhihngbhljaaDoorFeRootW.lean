/- field: Root. -/
import Derived.Test.YtjgfhihngbhljaaDoorFeGuess
namespace Go.Proofs.YtjgfhihngbhljaaDoor
open Go.RowKit
/-- an element and a truth come back -/
def RootOut (F : Fe) (b : Bool) (w : World) (e : Ending) (w' : World) : Prop :=
  ∃ r : Fe, Hid (r = F) ∧ e = .returned (.tuple #[.agg #[.int .u64 r.x0, .int .u64 r.x1, .int .u64 r.x2, .int .u64 r.x3, .int .u64 r.x4], .bool b]) ∧ w.grownBy w' none
theorem rootI_ok : rootI.Ok := by constructor <;> decide
theorem fits_val (p q s : Fe) (b : Bool) (w : World) (okp : p.Ok) (okq : q.Ok) (oks : s.Ok) (hb : decide (Fe.m (Fe.mulF (Fe.sqF p) s) = Fe.m q) = b) :
    Calls Tryd.prog 42 #[.agg #[.int .u64 p.x0, .int .u64 p.x1, .int .u64 p.x2, .int .u64 p.x3, .int .u64 p.x4], .agg #[.int .u64 q.x0, .int .u64 q.x1, .int .u64 q.x2, .int .u64 q.x3, .int .u64 q.x4], .agg #[.int .u64 s.x0, .int .u64 s.x1, .int .u64 s.x2, .int .u64 s.x3, .int .u64 s.x4]] w fun e w' => e = .returned (.bool b) ∧ w.grownBy w' none := by
  rw [← hb]; exact fits_any p q s w okp okq oks
theorem odd_val (p : Fe) (b : Bool) (w : World) (okp : p.Ok) (hb : decide (Fe.m p % 2 = 1) = b) : Calls Tryd.prog 22 #[.agg #[.int .u64 p.x0, .int .u64 p.x1, .int .u64 p.x2, .int .u64 p.x3, .int .u64 p.x4]] w fun e w' => e = .returned (.bool b) ∧ w.grownBy w' none := by
  rw [← hb]; exact odd_any p w okp
theorem root_env (p q : Fe) (w0 : World) : EnvB w0 (w0.heap.size + 3) [(w0.heap.size, p), (w0.heap.size + 1, q)] [w0.heap.size + 1 + 1] (((w0.alloc (.cells #[.int .u64 p.x0, .int .u64 p.x1, .int .u64 p.x2, .int .u64 p.x3, .int .u64 p.x4] 24)).alloc (.cells #[.int .u64 q.x0, .int .u64 q.x1, .int .u64 q.x2, .int .u64 q.x3, .int .u64 q.x4] 24)).alloc (.cells #[.int .u64 0, .int .u64 0, .int .u64 0, .int .u64 0, .int .u64 0] 24)) :=
  ⟨gb_alloc (gb_alloc (gb_alloc (gb_refl _ _) _) _) _, by
    intro z hz
    simp only [List.mem_cons, List.not_mem_nil, or_false] at hz
    rcases hz with rfl | rfl
    · exact ((Blk.new w0 (feL _) _).alloc _).alloc _
    · exact (Blk.newAt (w0.alloc _) (feL _) _ (by simp)).alloc _, by
    intro B hB
    simp only [List.mem_cons, List.not_mem_nil, or_false] at hB
    subst hB
    exact ⟨_, _, _, _, _, Blk.newAt _ [.int .u64 0, .int .u64 0, .int .u64 0, .int .u64 0, .int .u64 0] _ (by simp)⟩, by intro z hz; simp only [List.mem_cons, List.not_mem_nil, or_false] at hz; rcases hz with rfl | rfl <;> simp only [] <;> omega, by simp, by omega⟩
set_option maxRecDepth 100000 in
set_option maxHeartbeats 1600000 in
theorem root_te (p q : Fe) (w0 : World) (hT : FTab w0) (okp : p.Ok) (okq : q.Ok) (h1 : decide (Fe.m (Fe.mulF (Fe.sqF (guessF p q)) q) = Fe.m p) = true) (h3 : decide (Fe.m (guessF p q) % 2 = 1) = false) :
    Calls Tryd.prog 25 #[.agg #[.int .u64 p.x0, .int .u64 p.x1, .int .u64 p.x2, .int .u64 p.x3, .int .u64 p.x4], .agg #[.int .u64 q.x0, .int .u64 q.x1, .int .u64 q.x2, .int .u64 q.x3, .int .u64 q.x4]] w0 (RootOut (guessF p q) true w0) := by
  have HT := Lib.hid hT; clear hT
  have H1 := Lib.hid h1; clear h1
  have H3 := Lib.hid h3; clear h3
  have hE0 : EnvB w0 (w0.heap.size + 3) [(w0.heap.size, p), (w0.heap.size + 1, q)] [w0.heap.size + 1 + 1] (((w0.alloc (.cells #[.int .u64 p.x0, .int .u64 p.x1, .int .u64 p.x2, .int .u64 p.x3, .int .u64 p.x4] 24)).alloc (.cells #[.int .u64 q.x0, .int .u64 q.x1, .int .u64 q.x2, .int .u64 q.x3, .int .u64 q.x4] 24)).alloc (.cells #[.int .u64 0, .int .u64 0, .int .u64 0, .int .u64 0, .int .u64 0] 24)) := root_env p q w0
  go_enter Tryd.func25, Tryd.ntmps25
  go_wp2_with fail
  refine (guess_any p q _ okp okq).mono ?_
  rintro e v1 ⟨g, hg, rfl, hg1⟩
  have okg : g.Ok := by rw [hg.out]; exact (Fe.mul_right _ _).ok
  have hE1 := (hE0.grown hg1).grown (World.grownBy_alloc v1 (.cells #[.int .u64 g.x0, .int .u64 g.x1, .int .u64 g.x2, .int .u64 g.x3, .int .u64 g.x4] 24) none)
  have hl1 := (hE0.grown hg1).l
  have hG1 : Blk (v1.alloc (.cells #[.int .u64 g.x0, .int .u64 g.x1, .int .u64 g.x2, .int .u64 g.x3, .int .u64 g.x4] 24)) v1.heap.size 24 (feL g) := Blk.new v1 (feL g) _
  clear hE0 hg1
  have hAp := hE1.e (w0.heap.size, p) (by simp)
  have hAq := hE1.e (w0.heap.size + 1, q) (by simp)
  have c0 := hAp.cell (i := 0) rfl
  have c1 := hAp.cell (i := 1) rfl
  have c2 := hAp.cell (i := 2) rfl
  have c3 := hAp.cell (i := 3) rfl
  have c4 := hAp.cell (i := 4) rfl
  have d0 := hAq.cell (i := 0) rfl
  have d1 := hAq.cell (i := 1) rfl
  have d2 := hAq.cell (i := 2) rfl
  have d3 := hAq.cell (i := 3) rfl
  have d4 := hAq.cell (i := 4) rfl
  go_wp2_with fail
  refine (fits_val g p q true _ okg okp okq (by rw [hg.out]; exact H1.out)).mono ?_
  rintro e v2 ⟨rfl, hg2⟩
  have hE2 := hE1.grown hg2
  have hG2 := hG1.grown hg2 (by simp)
  clear hE1 hG1 hg2 hAp hAq c0 c1 c2 c3 c4 d0 d1 d2 d3 d4
  have hAp := hE2.e (w0.heap.size, p) (by simp)
  have hAq := hE2.e (w0.heap.size + 1, q) (by simp)
  have c0 := hAp.cell (i := 0) rfl
  have c1 := hAp.cell (i := 1) rfl
  have c2 := hAp.cell (i := 2) rfl
  have c3 := hAp.cell (i := 3) rfl
  have c4 := hAp.cell (i := 4) rfl
  have d0 := hAq.cell (i := 0) rfl
  have d1 := hAq.cell (i := 1) rfl
  have d2 := hAq.cell (i := 2) rfl
  have d3 := hAq.cell (i := 3) rfl
  have d4 := hAq.cell (i := 4) rfl
  have x0 := hG2.cell (i := 0) rfl
  have x1 := hG2.cell (i := 1) rfl
  have x2 := hG2.cell (i := 2) rfl
  have x3 := hG2.cell (i := 3) rfl
  have x4 := hG2.cell (i := 4) rfl
  have y0 := hG2.free 0
  have y1 := hG2.free 1
  have y2 := hG2.free 2
  have y3 := hG2.free 3
  have y4 := hG2.free 4
  go_wp2_with fail
  refine (fits_val g p q true _ okg okp okq (by rw [hg.out]; exact H1.out)).mono ?_
  rintro e v5 ⟨rfl, hg5⟩
  have hE5 := hE2.grown hg5
  have hG5 := hG2.grown hg5 (by simp)
  clear hE2 hG2 hg5 hAp hAq c0 c1 c2 c3 c4 d0 d1 d2 d3 d4 x0 x1 x2 x3 x4 y0 y1 y2 y3 y4
  have x0 := hG5.cell (i := 0) rfl
  have x1 := hG5.cell (i := 1) rfl
  have x2 := hG5.cell (i := 2) rfl
  have x3 := hG5.cell (i := 3) rfl
  have x4 := hG5.cell (i := 4) rfl
  have y0 := hG5.free 0
  have y1 := hG5.free 1
  have y2 := hG5.free 2
  have y3 := hG5.free 3
  have y4 := hG5.free 4
  go_wp2_with fail
  refine (odd_val g false _ okg (by rw [hg.out]; exact H3.out)).mono ?_
  rintro e v6 ⟨rfl, hg6⟩
  have hE6 := hE5.grown hg6
  have hG6 := hG5.grown hg6 (by simp)
  clear hE5 hG5 hg6 x0 x1 x2 x3 x4 y0 y1 y2 y3 y4
  have x0 := hG6.cell (i := 0) rfl
  have x1 := hG6.cell (i := 1) rfl
  have x2 := hG6.cell (i := 2) rfl
  have x3 := hG6.cell (i := 3) rfl
  have x4 := hG6.cell (i := 4) rfl
  have y0 := hG6.free 0
  have y1 := hG6.free 1
  have y2 := hG6.free 2
  have y3 := hG6.free 3
  have y4 := hG6.free 4
  obtain ⟨u0, u1, u2, u3, u4, hR⟩ := hE6.r _ (List.mem_singleton.2 rfl)
  have s0 := hR.cell (i := 0) rfl
  have s1 := hR.cell (i := 1) rfl
  have s2 := hR.cell (i := 2) rfl
  have s3 := hR.cell (i := 3) rfl
  have s4 := hR.cell (i := 4) rfl
  have z0 := hR.free 0
  have z1 := hR.free 1
  have z2 := hR.free 2
  have z3 := hR.free 3
  have z4 := hR.free 4
  go_wp2_with fail
  refine bodyPost_ret (v := .tuple #[.agg #[.int .u64 g.x0, .int .u64 g.x1, .int .u64 g.x2, .int .u64 g.x3, .int .u64 g.x4], .bool true]) ?_ rfl ⟨g, Lib.hid (by rw [hg.out]), rfl, gb_set5 hE6.g (by omega) _ _ _ _ _⟩
  simp [results, Tryd.results25, go_sem, s0, s1, s2, s3, s4]
set_option maxRecDepth 100000 in
set_option maxHeartbeats 1600000 in
theorem root_to (p q : Fe) (w0 : World) (hT : FTab w0) (okp : p.Ok) (okq : q.Ok) (h1 : decide (Fe.m (Fe.mulF (Fe.sqF (guessF p q)) q) = Fe.m p) = true) (h3 : decide (Fe.m (guessF p q) % 2 = 1) = true) :
    Calls Tryd.prog 25 #[.agg #[.int .u64 p.x0, .int .u64 p.x1, .int .u64 p.x2, .int .u64 p.x3, .int .u64 p.x4], .agg #[.int .u64 q.x0, .int .u64 q.x1, .int .u64 q.x2, .int .u64 q.x3, .int .u64 q.x4]] w0 (RootOut (Fe.negF (guessF p q)) true w0) := by
  have HT := Lib.hid hT; clear hT
  have H1 := Lib.hid h1; clear h1
  have H3 := Lib.hid h3; clear h3
  have hE0 : EnvB w0 (w0.heap.size + 3) [(w0.heap.size, p), (w0.heap.size + 1, q)] [w0.heap.size + 1 + 1] (((w0.alloc (.cells #[.int .u64 p.x0, .int .u64 p.x1, .int .u64 p.x2, .int .u64 p.x3, .int .u64 p.x4] 24)).alloc (.cells #[.int .u64 q.x0, .int .u64 q.x1, .int .u64 q.x2, .int .u64 q.x3, .int .u64 q.x4] 24)).alloc (.cells #[.int .u64 0, .int .u64 0, .int .u64 0, .int .u64 0, .int .u64 0] 24)) := root_env p q w0
  go_enter Tryd.func25, Tryd.ntmps25
  go_wp2_with fail
  refine (guess_any p q _ okp okq).mono ?_
  rintro e v1 ⟨g, hg, rfl, hg1⟩
  have okg : g.Ok := by rw [hg.out]; exact (Fe.mul_right _ _).ok
  have hE1 := (hE0.grown hg1).grown (World.grownBy_alloc v1 (.cells #[.int .u64 g.x0, .int .u64 g.x1, .int .u64 g.x2, .int .u64 g.x3, .int .u64 g.x4] 24) none)
  have hl1 := (hE0.grown hg1).l
  have hG1 : Blk (v1.alloc (.cells #[.int .u64 g.x0, .int .u64 g.x1, .int .u64 g.x2, .int .u64 g.x3, .int .u64 g.x4] 24)) v1.heap.size 24 (feL g) := Blk.new v1 (feL g) _
  clear hE0 hg1
  have hAp := hE1.e (w0.heap.size, p) (by simp)
  have hAq := hE1.e (w0.heap.size + 1, q) (by simp)
  have c0 := hAp.cell (i := 0) rfl
  have c1 := hAp.cell (i := 1) rfl
  have c2 := hAp.cell (i := 2) rfl
  have c3 := hAp.cell (i := 3) rfl
  have c4 := hAp.cell (i := 4) rfl
  have d0 := hAq.cell (i := 0) rfl
  have d1 := hAq.cell (i := 1) rfl
  have d2 := hAq.cell (i := 2) rfl
  have d3 := hAq.cell (i := 3) rfl
  have d4 := hAq.cell (i := 4) rfl
  go_wp2_with fail
  refine (fits_val g p q true _ okg okp okq (by rw [hg.out]; exact H1.out)).mono ?_
  rintro e v2 ⟨rfl, hg2⟩
  have hE2 := hE1.grown hg2
  have hG2 := hG1.grown hg2 (by simp)
  clear hE1 hG1 hg2 hAp hAq c0 c1 c2 c3 c4 d0 d1 d2 d3 d4
  have hAp := hE2.e (w0.heap.size, p) (by simp)
  have hAq := hE2.e (w0.heap.size + 1, q) (by simp)
  have c0 := hAp.cell (i := 0) rfl
  have c1 := hAp.cell (i := 1) rfl
  have c2 := hAp.cell (i := 2) rfl
  have c3 := hAp.cell (i := 3) rfl
  have c4 := hAp.cell (i := 4) rfl
  have d0 := hAq.cell (i := 0) rfl
  have d1 := hAq.cell (i := 1) rfl
  have d2 := hAq.cell (i := 2) rfl
  have d3 := hAq.cell (i := 3) rfl
  have d4 := hAq.cell (i := 4) rfl
  have x0 := hG2.cell (i := 0) rfl
  have x1 := hG2.cell (i := 1) rfl
  have x2 := hG2.cell (i := 2) rfl
  have x3 := hG2.cell (i := 3) rfl
  have x4 := hG2.cell (i := 4) rfl
  have y0 := hG2.free 0
  have y1 := hG2.free 1
  have y2 := hG2.free 2
  have y3 := hG2.free 3
  have y4 := hG2.free 4
  go_wp2_with fail
  refine (fits_val g p q true _ okg okp okq (by rw [hg.out]; exact H1.out)).mono ?_
  rintro e v5 ⟨rfl, hg5⟩
  have hE5 := hE2.grown hg5
  have hG5 := hG2.grown hg5 (by simp)
  clear hE2 hG2 hg5 hAp hAq c0 c1 c2 c3 c4 d0 d1 d2 d3 d4 x0 x1 x2 x3 x4 y0 y1 y2 y3 y4
  have x0 := hG5.cell (i := 0) rfl
  have x1 := hG5.cell (i := 1) rfl
  have x2 := hG5.cell (i := 2) rfl
  have x3 := hG5.cell (i := 3) rfl
  have x4 := hG5.cell (i := 4) rfl
  have y0 := hG5.free 0
  have y1 := hG5.free 1
  have y2 := hG5.free 2
  have y3 := hG5.free 3
  have y4 := hG5.free 4
  go_wp2_with fail
  refine (odd_val g true _ okg (by rw [hg.out]; exact H3.out)).mono ?_
  rintro e v6 ⟨rfl, hg6⟩
  have hE6 := hE5.grown hg6
  have hG6 := hG5.grown hg6 (by simp)
  clear hE5 hG5 hg6 x0 x1 x2 x3 x4 y0 y1 y2 y3 y4
  have x0 := hG6.cell (i := 0) rfl
  have x1 := hG6.cell (i := 1) rfl
  have x2 := hG6.cell (i := 2) rfl
  have x3 := hG6.cell (i := 3) rfl
  have x4 := hG6.cell (i := 4) rfl
  have y0 := hG6.free 0
  have y1 := hG6.free 1
  have y2 := hG6.free 2
  have y3 := hG6.free 3
  have y4 := hG6.free 4
  go_wp2_with fail
  refine (neg_any g _ (HT.out.grown hE6.g) okg).mono ?_
  rintro e v7 ⟨n, hn, rfl, hg7⟩
  have hK2 : Okb w0 [(w0.heap.size, p), (w0.heap.size + 1, q)] v1.heap.size := by
    refine ⟨by omega, ?_⟩
    intro z hz
    simp only [List.mem_cons, List.not_mem_nil, or_false] at hz
    rcases hz with rfl | rfl <;> simp only [] <;> omega
  have hE8 := (hE6.grown hg7).set hK2 n
  have hG7 := hG6.grown hg7 (by simp)
  clear hE6 hG6 hg7 x0 x1 x2 x3 x4 y0 y1 y2 y3 y4
  have x0 := hG7.cell (i := 0) rfl
  have x1 := hG7.cell (i := 1) rfl
  have x2 := hG7.cell (i := 2) rfl
  have x3 := hG7.cell (i := 3) rfl
  have x4 := hG7.cell (i := 4) rfl
  have y0 := hG7.free 0
  have y1 := hG7.free 1
  have y2 := hG7.free 2
  have y3 := hG7.free 3
  have y4 := hG7.free 4
  obtain ⟨u0, u1, u2, u3, u4, hR⟩ := hE8.r _ (List.mem_singleton.2 rfl)
  unfold set5W at hE8 hR
  have s0 := hR.cell (i := 0) rfl
  have s1 := hR.cell (i := 1) rfl
  have s2 := hR.cell (i := 2) rfl
  have s3 := hR.cell (i := 3) rfl
  have s4 := hR.cell (i := 4) rfl
  have z0 := hR.free 0
  have z1 := hR.free 1
  have z2 := hR.free 2
  have z3 := hR.free 3
  have z4 := hR.free 4
  go_wp2_with fail
  refine bodyPost_ret (v := .tuple #[.agg #[.int .u64 n.x0, .int .u64 n.x1, .int .u64 n.x2, .int .u64 n.x3, .int .u64 n.x4], .bool true]) ?_ rfl ⟨n, Lib.hid (by rw [hn.out, hg.out]), rfl, gb_set5 hE8.g (by omega) _ _ _ _ _⟩
  simp [results, Tryd.results25, go_sem, s0, s1, s2, s3, s4]
set_option maxRecDepth 100000 in
set_option maxHeartbeats 1600000 in
theorem root_fe (p q : Fe) (w0 : World) (hT : FTab w0) (okp : p.Ok) (okq : q.Ok) (h1 : decide (Fe.m (Fe.mulF (Fe.sqF (guessF p q)) q) = Fe.m p) = false) (h2 : decide (Fe.m (Fe.mulF (Fe.sqF (Fe.mulF (guessF p q) rootI)) q) = Fe.m p) = true) (h3 : decide (Fe.m (Fe.mulF (guessF p q) rootI) % 2 = 1) = false) :
    Calls Tryd.prog 25 #[.agg #[.int .u64 p.x0, .int .u64 p.x1, .int .u64 p.x2, .int .u64 p.x3, .int .u64 p.x4], .agg #[.int .u64 q.x0, .int .u64 q.x1, .int .u64 q.x2, .int .u64 q.x3, .int .u64 q.x4]] w0 (RootOut (Fe.mulF (guessF p q) rootI) true w0) := by
  have HT := Lib.hid hT; clear hT
  have H1 := Lib.hid h1; clear h1
  have H2 := Lib.hid h2; clear h2
  have H3 := Lib.hid h3; clear h3
  have hE0 : EnvB w0 (w0.heap.size + 3) [(w0.heap.size, p), (w0.heap.size + 1, q)] [w0.heap.size + 1 + 1] (((w0.alloc (.cells #[.int .u64 p.x0, .int .u64 p.x1, .int .u64 p.x2, .int .u64 p.x3, .int .u64 p.x4] 24)).alloc (.cells #[.int .u64 q.x0, .int .u64 q.x1, .int .u64 q.x2, .int .u64 q.x3, .int .u64 q.x4] 24)).alloc (.cells #[.int .u64 0, .int .u64 0, .int .u64 0, .int .u64 0, .int .u64 0] 24)) := root_env p q w0
  go_enter Tryd.func25, Tryd.ntmps25
  go_wp2_with fail
  refine (guess_any p q _ okp okq).mono ?_
  rintro e v1 ⟨g, hg, rfl, hg1⟩
  have okg : g.Ok := by rw [hg.out]; exact (Fe.mul_right _ _).ok
  have hE1 := (hE0.grown hg1).grown (World.grownBy_alloc v1 (.cells #[.int .u64 g.x0, .int .u64 g.x1, .int .u64 g.x2, .int .u64 g.x3, .int .u64 g.x4] 24) none)
  have hl1 := (hE0.grown hg1).l
  have hG1 : Blk (v1.alloc (.cells #[.int .u64 g.x0, .int .u64 g.x1, .int .u64 g.x2, .int .u64 g.x3, .int .u64 g.x4] 24)) v1.heap.size 24 (feL g) := Blk.new v1 (feL g) _
  clear hE0 hg1
  have hAp := hE1.e (w0.heap.size, p) (by simp)
  have hAq := hE1.e (w0.heap.size + 1, q) (by simp)
  have c0 := hAp.cell (i := 0) rfl
  have c1 := hAp.cell (i := 1) rfl
  have c2 := hAp.cell (i := 2) rfl
  have c3 := hAp.cell (i := 3) rfl
  have c4 := hAp.cell (i := 4) rfl
  have d0 := hAq.cell (i := 0) rfl
  have d1 := hAq.cell (i := 1) rfl
  have d2 := hAq.cell (i := 2) rfl
  have d3 := hAq.cell (i := 3) rfl
  have d4 := hAq.cell (i := 4) rfl
  go_wp2_with fail
  refine (fits_val g p q false _ okg okp okq (by rw [hg.out]; exact H1.out)).mono ?_
  rintro e v2 ⟨rfl, hg2⟩
  have hE2 := hE1.grown hg2
  have hG2 := hG1.grown hg2 (by simp)
  clear hE1 hG1 hg2 hAp hAq c0 c1 c2 c3 c4 d0 d1 d2 d3 d4
  have hAp := hE2.e (w0.heap.size, p) (by simp)
  have hAq := hE2.e (w0.heap.size + 1, q) (by simp)
  have c0 := hAp.cell (i := 0) rfl
  have c1 := hAp.cell (i := 1) rfl
  have c2 := hAp.cell (i := 2) rfl
  have c3 := hAp.cell (i := 3) rfl
  have c4 := hAp.cell (i := 4) rfl
  have d0 := hAq.cell (i := 0) rfl
  have d1 := hAq.cell (i := 1) rfl
  have d2 := hAq.cell (i := 2) rfl
  have d3 := hAq.cell (i := 3) rfl
  have d4 := hAq.cell (i := 4) rfl
  have x0 := hG2.cell (i := 0) rfl
  have x1 := hG2.cell (i := 1) rfl
  have x2 := hG2.cell (i := 2) rfl
  have x3 := hG2.cell (i := 3) rfl
  have x4 := hG2.cell (i := 4) rfl
  have y0 := hG2.free 0
  have y1 := hG2.free 1
  have y2 := hG2.free 2
  have y3 := hG2.free 3
  have y4 := hG2.free 4
  have HTv := HT.out.grown hE2.g
  have t0 : v2.cell? ⟨1, 0, none⟩ = some (.int .u64 rootI.x0) := HTv.q 0 (by decide)
  have t1 : v2.cell? ⟨1, 1, none⟩ = some (.int .u64 rootI.x1) := HTv.q 1 (by decide)
  have t2 : v2.cell? ⟨1, 2, none⟩ = some (.int .u64 rootI.x2) := HTv.q 2 (by decide)
  have t3 : v2.cell? ⟨1, 3, none⟩ = some (.int .u64 rootI.x3) := HTv.q 3 (by decide)
  have t4 : v2.cell? ⟨1, 4, none⟩ = some (.int .u64 rootI.x4) := HTv.q 4 (by decide)
  clear HTv
  go_wp2_with fail
  refine (mul_fe g rootI _ okg rootI_ok).mono ?_
  rintro e v3 ⟨gi, hgi, rfl, hg3⟩
  have okgi : gi.Ok := by rw [hgi.out]; exact (Fe.mul_right _ _).ok
  have hK : Okb w0 [(w0.heap.size, p), (w0.heap.size + 1, q)] v1.heap.size := by
    refine ⟨by omega, ?_⟩
    intro z hz
    simp only [List.mem_cons, List.not_mem_nil, or_false] at hz
    rcases hz with rfl | rfl <;> simp only [] <;> omega
  have hE4 := (hE2.grown hg3).set hK gi
  have hG4 : Blk (set5W v3 v1.heap.size gi) v1.heap.size 24 (feL gi) := set5W_same ⟨_, _, _, _, _, hG2.grown hg3 (by simp)⟩
  have hG3 := hG2.grown hg3 (by simp)
  clear hE2 hG2 hg3 hAp hAq c0 c1 c2 c3 c4 d0 d1 d2 d3 d4 x0 x1 x2 x3 x4 y0 y1 y2 y3 y4 t0 t1 t2 t3 t4
  have x0 := hG3.cell (i := 0) rfl
  have x1 := hG3.cell (i := 1) rfl
  have x2 := hG3.cell (i := 2) rfl
  have x3 := hG3.cell (i := 3) rfl
  have x4 := hG3.cell (i := 4) rfl
  have y0 := hG3.free 0
  have y1 := hG3.free 1
  have y2 := hG3.free 2
  have y3 := hG3.free 3
  have y4 := hG3.free 4
  have hAp := hE4.e (w0.heap.size, p) (by simp)
  have hAq := hE4.e (w0.heap.size + 1, q) (by simp)
  unfold set5W at hE4 hG4 hAp hAq
  have c0 := hAp.cell (i := 0) rfl
  have c1 := hAp.cell (i := 1) rfl
  have c2 := hAp.cell (i := 2) rfl
  have c3 := hAp.cell (i := 3) rfl
  have c4 := hAp.cell (i := 4) rfl
  have d0 := hAq.cell (i := 0) rfl
  have d1 := hAq.cell (i := 1) rfl
  have d2 := hAq.cell (i := 2) rfl
  have d3 := hAq.cell (i := 3) rfl
  have d4 := hAq.cell (i := 4) rfl
  go_wp2_with fail
  refine (fits_val gi p q true _ okgi okp okq (by rw [hgi.out, hg.out]; exact H2.out)).mono ?_
  rintro e v5 ⟨rfl, hg5⟩
  have hE5 := hE4.grown hg5
  have hG5 := hG4.grown hg5 (by simp)
  clear hE4 hG4 hG3 hg5 hAp hAq c0 c1 c2 c3 c4 d0 d1 d2 d3 d4 x0 x1 x2 x3 x4 y0 y1 y2 y3 y4
  have x0 := hG5.cell (i := 0) rfl
  have x1 := hG5.cell (i := 1) rfl
  have x2 := hG5.cell (i := 2) rfl
  have x3 := hG5.cell (i := 3) rfl
  have x4 := hG5.cell (i := 4) rfl
  have y0 := hG5.free 0
  have y1 := hG5.free 1
  have y2 := hG5.free 2
  have y3 := hG5.free 3
  have y4 := hG5.free 4
  go_wp2_with fail
  refine (odd_val gi false _ okgi (by rw [hgi.out, hg.out]; exact H3.out)).mono ?_
  rintro e v6 ⟨rfl, hg6⟩
  have hE6 := hE5.grown hg6
  have hG6 := hG5.grown hg6 (by simp)
  clear hE5 hG5 hg6 x0 x1 x2 x3 x4 y0 y1 y2 y3 y4
  have x0 := hG6.cell (i := 0) rfl
  have x1 := hG6.cell (i := 1) rfl
  have x2 := hG6.cell (i := 2) rfl
  have x3 := hG6.cell (i := 3) rfl
  have x4 := hG6.cell (i := 4) rfl
  have y0 := hG6.free 0
  have y1 := hG6.free 1
  have y2 := hG6.free 2
  have y3 := hG6.free 3
  have y4 := hG6.free 4
  obtain ⟨u0, u1, u2, u3, u4, hR⟩ := hE6.r _ (List.mem_singleton.2 rfl)
  have s0 := hR.cell (i := 0) rfl
  have s1 := hR.cell (i := 1) rfl
  have s2 := hR.cell (i := 2) rfl
  have s3 := hR.cell (i := 3) rfl
  have s4 := hR.cell (i := 4) rfl
  have z0 := hR.free 0
  have z1 := hR.free 1
  have z2 := hR.free 2
  have z3 := hR.free 3
  have z4 := hR.free 4
  go_wp2_with fail
  refine bodyPost_ret (v := .tuple #[.agg #[.int .u64 gi.x0, .int .u64 gi.x1, .int .u64 gi.x2, .int .u64 gi.x3, .int .u64 gi.x4], .bool true]) ?_ rfl ⟨gi, Lib.hid (by rw [hgi.out, hg.out]), rfl, gb_set5 hE6.g (by omega) _ _ _ _ _⟩
  simp [results, Tryd.results25, go_sem, s0, s1, s2, s3, s4]
set_option maxRecDepth 100000 in
set_option maxHeartbeats 1600000 in
theorem root_fo (p q : Fe) (w0 : World) (hT : FTab w0) (okp : p.Ok) (okq : q.Ok) (h1 : decide (Fe.m (Fe.mulF (Fe.sqF (guessF p q)) q) = Fe.m p) = false) (h2 : decide (Fe.m (Fe.mulF (Fe.sqF (Fe.mulF (guessF p q) rootI)) q) = Fe.m p) = true) (h3 : decide (Fe.m (Fe.mulF (guessF p q) rootI) % 2 = 1) = true) :
    Calls Tryd.prog 25 #[.agg #[.int .u64 p.x0, .int .u64 p.x1, .int .u64 p.x2, .int .u64 p.x3, .int .u64 p.x4], .agg #[.int .u64 q.x0, .int .u64 q.x1, .int .u64 q.x2, .int .u64 q.x3, .int .u64 q.x4]] w0 (RootOut (Fe.negF (Fe.mulF (guessF p q) rootI)) true w0) := by
  have HT := Lib.hid hT; clear hT
  have H1 := Lib.hid h1; clear h1
  have H2 := Lib.hid h2; clear h2
  have H3 := Lib.hid h3; clear h3
  have hE0 : EnvB w0 (w0.heap.size + 3) [(w0.heap.size, p), (w0.heap.size + 1, q)] [w0.heap.size + 1 + 1] (((w0.alloc (.cells #[.int .u64 p.x0, .int .u64 p.x1, .int .u64 p.x2, .int .u64 p.x3, .int .u64 p.x4] 24)).alloc (.cells #[.int .u64 q.x0, .int .u64 q.x1, .int .u64 q.x2, .int .u64 q.x3, .int .u64 q.x4] 24)).alloc (.cells #[.int .u64 0, .int .u64 0, .int .u64 0, .int .u64 0, .int .u64 0] 24)) := root_env p q w0
  go_enter Tryd.func25, Tryd.ntmps25
  go_wp2_with fail
  refine (guess_any p q _ okp okq).mono ?_
  rintro e v1 ⟨g, hg, rfl, hg1⟩
  have okg : g.Ok := by rw [hg.out]; exact (Fe.mul_right _ _).ok
  have hE1 := (hE0.grown hg1).grown (World.grownBy_alloc v1 (.cells #[.int .u64 g.x0, .int .u64 g.x1, .int .u64 g.x2, .int .u64 g.x3, .int .u64 g.x4] 24) none)
  have hl1 := (hE0.grown hg1).l
  have hG1 : Blk (v1.alloc (.cells #[.int .u64 g.x0, .int .u64 g.x1, .int .u64 g.x2, .int .u64 g.x3, .int .u64 g.x4] 24)) v1.heap.size 24 (feL g) := Blk.new v1 (feL g) _
  clear hE0 hg1
  have hAp := hE1.e (w0.heap.size, p) (by simp)
  have hAq := hE1.e (w0.heap.size + 1, q) (by simp)
  have c0 := hAp.cell (i := 0) rfl
  have c1 := hAp.cell (i := 1) rfl
  have c2 := hAp.cell (i := 2) rfl
  have c3 := hAp.cell (i := 3) rfl
  have c4 := hAp.cell (i := 4) rfl
  have d0 := hAq.cell (i := 0) rfl
  have d1 := hAq.cell (i := 1) rfl
  have d2 := hAq.cell (i := 2) rfl
  have d3 := hAq.cell (i := 3) rfl
  have d4 := hAq.cell (i := 4) rfl
  go_wp2_with fail
  refine (fits_val g p q false _ okg okp okq (by rw [hg.out]; exact H1.out)).mono ?_
  rintro e v2 ⟨rfl, hg2⟩
  have hE2 := hE1.grown hg2
  have hG2 := hG1.grown hg2 (by simp)
  clear hE1 hG1 hg2 hAp hAq c0 c1 c2 c3 c4 d0 d1 d2 d3 d4
  have hAp := hE2.e (w0.heap.size, p) (by simp)
  have hAq := hE2.e (w0.heap.size + 1, q) (by simp)
  have c0 := hAp.cell (i := 0) rfl
  have c1 := hAp.cell (i := 1) rfl
  have c2 := hAp.cell (i := 2) rfl
  have c3 := hAp.cell (i := 3) rfl
  have c4 := hAp.cell (i := 4) rfl
  have d0 := hAq.cell (i := 0) rfl
  have d1 := hAq.cell (i := 1) rfl
  have d2 := hAq.cell (i := 2) rfl
  have d3 := hAq.cell (i := 3) rfl
  have d4 := hAq.cell (i := 4) rfl
  have x0 := hG2.cell (i := 0) rfl
  have x1 := hG2.cell (i := 1) rfl
  have x2 := hG2.cell (i := 2) rfl
  have x3 := hG2.cell (i := 3) rfl
  have x4 := hG2.cell (i := 4) rfl
  have y0 := hG2.free 0
  have y1 := hG2.free 1
  have y2 := hG2.free 2
  have y3 := hG2.free 3
  have y4 := hG2.free 4
  have HTv := HT.out.grown hE2.g
  have t0 : v2.cell? ⟨1, 0, none⟩ = some (.int .u64 rootI.x0) := HTv.q 0 (by decide)
  have t1 : v2.cell? ⟨1, 1, none⟩ = some (.int .u64 rootI.x1) := HTv.q 1 (by decide)
  have t2 : v2.cell? ⟨1, 2, none⟩ = some (.int .u64 rootI.x2) := HTv.q 2 (by decide)
  have t3 : v2.cell? ⟨1, 3, none⟩ = some (.int .u64 rootI.x3) := HTv.q 3 (by decide)
  have t4 : v2.cell? ⟨1, 4, none⟩ = some (.int .u64 rootI.x4) := HTv.q 4 (by decide)
  clear HTv
  go_wp2_with fail
  refine (mul_fe g rootI _ okg rootI_ok).mono ?_
  rintro e v3 ⟨gi, hgi, rfl, hg3⟩
  have okgi : gi.Ok := by rw [hgi.out]; exact (Fe.mul_right _ _).ok
  have hK : Okb w0 [(w0.heap.size, p), (w0.heap.size + 1, q)] v1.heap.size := by
    refine ⟨by omega, ?_⟩
    intro z hz
    simp only [List.mem_cons, List.not_mem_nil, or_false] at hz
    rcases hz with rfl | rfl <;> simp only [] <;> omega
  have hE4 := (hE2.grown hg3).set hK gi
  have hG4 : Blk (set5W v3 v1.heap.size gi) v1.heap.size 24 (feL gi) := set5W_same ⟨_, _, _, _, _, hG2.grown hg3 (by simp)⟩
  have hG3 := hG2.grown hg3 (by simp)
  clear hE2 hG2 hg3 hAp hAq c0 c1 c2 c3 c4 d0 d1 d2 d3 d4 x0 x1 x2 x3 x4 y0 y1 y2 y3 y4 t0 t1 t2 t3 t4
  have x0 := hG3.cell (i := 0) rfl
  have x1 := hG3.cell (i := 1) rfl
  have x2 := hG3.cell (i := 2) rfl
  have x3 := hG3.cell (i := 3) rfl
  have x4 := hG3.cell (i := 4) rfl
  have y0 := hG3.free 0
  have y1 := hG3.free 1
  have y2 := hG3.free 2
  have y3 := hG3.free 3
  have y4 := hG3.free 4
  have hAp := hE4.e (w0.heap.size, p) (by simp)
  have hAq := hE4.e (w0.heap.size + 1, q) (by simp)
  unfold set5W at hE4 hG4 hAp hAq
  have c0 := hAp.cell (i := 0) rfl
  have c1 := hAp.cell (i := 1) rfl
  have c2 := hAp.cell (i := 2) rfl
  have c3 := hAp.cell (i := 3) rfl
  have c4 := hAp.cell (i := 4) rfl
  have d0 := hAq.cell (i := 0) rfl
  have d1 := hAq.cell (i := 1) rfl
  have d2 := hAq.cell (i := 2) rfl
  have d3 := hAq.cell (i := 3) rfl
  have d4 := hAq.cell (i := 4) rfl
  go_wp2_with fail
  refine (fits_val gi p q true _ okgi okp okq (by rw [hgi.out, hg.out]; exact H2.out)).mono ?_
  rintro e v5 ⟨rfl, hg5⟩
  have hE5 := hE4.grown hg5
  have hG5 := hG4.grown hg5 (by simp)
  clear hE4 hG4 hG3 hg5 hAp hAq c0 c1 c2 c3 c4 d0 d1 d2 d3 d4 x0 x1 x2 x3 x4 y0 y1 y2 y3 y4
  have x0 := hG5.cell (i := 0) rfl
  have x1 := hG5.cell (i := 1) rfl
  have x2 := hG5.cell (i := 2) rfl
  have x3 := hG5.cell (i := 3) rfl
  have x4 := hG5.cell (i := 4) rfl
  have y0 := hG5.free 0
  have y1 := hG5.free 1
  have y2 := hG5.free 2
  have y3 := hG5.free 3
  have y4 := hG5.free 4
  go_wp2_with fail
  refine (odd_val gi true _ okgi (by rw [hgi.out, hg.out]; exact H3.out)).mono ?_
  rintro e v6 ⟨rfl, hg6⟩
  have hE6 := hE5.grown hg6
  have hG6 := hG5.grown hg6 (by simp)
  clear hE5 hG5 hg6 x0 x1 x2 x3 x4 y0 y1 y2 y3 y4
  have x0 := hG6.cell (i := 0) rfl
  have x1 := hG6.cell (i := 1) rfl
  have x2 := hG6.cell (i := 2) rfl
  have x3 := hG6.cell (i := 3) rfl
  have x4 := hG6.cell (i := 4) rfl
  have y0 := hG6.free 0
  have y1 := hG6.free 1
  have y2 := hG6.free 2
  have y3 := hG6.free 3
  have y4 := hG6.free 4
  go_wp2_with fail
  refine (neg_any gi _ (HT.out.grown hE6.g) okgi).mono ?_
  rintro e v7 ⟨n, hn, rfl, hg7⟩
  have hK2 : Okb w0 [(w0.heap.size, p), (w0.heap.size + 1, q)] v1.heap.size := by
    refine ⟨by omega, ?_⟩
    intro z hz
    simp only [List.mem_cons, List.not_mem_nil, or_false] at hz
    rcases hz with rfl | rfl <;> simp only [] <;> omega
  have hE8 := (hE6.grown hg7).set hK2 n
  have hG7 := hG6.grown hg7 (by simp)
  clear hE6 hG6 hg7 x0 x1 x2 x3 x4 y0 y1 y2 y3 y4
  have x0 := hG7.cell (i := 0) rfl
  have x1 := hG7.cell (i := 1) rfl
  have x2 := hG7.cell (i := 2) rfl
  have x3 := hG7.cell (i := 3) rfl
  have x4 := hG7.cell (i := 4) rfl
  have y0 := hG7.free 0
  have y1 := hG7.free 1
  have y2 := hG7.free 2
  have y3 := hG7.free 3
  have y4 := hG7.free 4
  obtain ⟨u0, u1, u2, u3, u4, hR⟩ := hE8.r _ (List.mem_singleton.2 rfl)
  unfold set5W at hE8 hR
  have s0 := hR.cell (i := 0) rfl
  have s1 := hR.cell (i := 1) rfl
  have s2 := hR.cell (i := 2) rfl
  have s3 := hR.cell (i := 3) rfl
  have s4 := hR.cell (i := 4) rfl
  have z0 := hR.free 0
  have z1 := hR.free 1
  have z2 := hR.free 2
  have z3 := hR.free 3
  have z4 := hR.free 4
  go_wp2_with fail
  refine bodyPost_ret (v := .tuple #[.agg #[.int .u64 n.x0, .int .u64 n.x1, .int .u64 n.x2, .int .u64 n.x3, .int .u64 n.x4], .bool true]) ?_ rfl ⟨n, Lib.hid (by rw [hn.out, hgi.out, hg.out]), rfl, gb_set5 hE8.g (by omega) _ _ _ _ _⟩
  simp [results, Tryd.results25, go_sem, s0, s1, s2, s3, s4]
set_option maxRecDepth 100000 in
set_option maxHeartbeats 1600000 in
theorem root_no (p q : Fe) (w0 : World) (hT : FTab w0) (okp : p.Ok) (okq : q.Ok) (h1 : decide (Fe.m (Fe.mulF (Fe.sqF (guessF p q)) q) = Fe.m p) = false) (h2 : decide (Fe.m (Fe.mulF (Fe.sqF (Fe.mulF (guessF p q) rootI)) q) = Fe.m p) = false) :
    Calls Tryd.prog 25 #[.agg #[.int .u64 p.x0, .int .u64 p.x1, .int .u64 p.x2, .int .u64 p.x3, .int .u64 p.x4], .agg #[.int .u64 q.x0, .int .u64 q.x1, .int .u64 q.x2, .int .u64 q.x3, .int .u64 q.x4]] w0 (RootOut Fe.zeroF false w0) := by
  have HT := Lib.hid hT; clear hT
  have H1 := Lib.hid h1; clear h1
  have H2 := Lib.hid h2; clear h2
  have hE0 : EnvB w0 (w0.heap.size + 3) [(w0.heap.size, p), (w0.heap.size + 1, q)] [w0.heap.size + 1 + 1] (((w0.alloc (.cells #[.int .u64 p.x0, .int .u64 p.x1, .int .u64 p.x2, .int .u64 p.x3, .int .u64 p.x4] 24)).alloc (.cells #[.int .u64 q.x0, .int .u64 q.x1, .int .u64 q.x2, .int .u64 q.x3, .int .u64 q.x4] 24)).alloc (.cells #[.int .u64 0, .int .u64 0, .int .u64 0, .int .u64 0, .int .u64 0] 24)) := root_env p q w0
  go_enter Tryd.func25, Tryd.ntmps25
  go_wp2_with fail
  refine (guess_any p q _ okp okq).mono ?_
  rintro e v1 ⟨g, hg, rfl, hg1⟩
  have okg : g.Ok := by rw [hg.out]; exact (Fe.mul_right _ _).ok
  have hE1 := (hE0.grown hg1).grown (World.grownBy_alloc v1 (.cells #[.int .u64 g.x0, .int .u64 g.x1, .int .u64 g.x2, .int .u64 g.x3, .int .u64 g.x4] 24) none)
  have hl1 := (hE0.grown hg1).l
  have hG1 : Blk (v1.alloc (.cells #[.int .u64 g.x0, .int .u64 g.x1, .int .u64 g.x2, .int .u64 g.x3, .int .u64 g.x4] 24)) v1.heap.size 24 (feL g) := Blk.new v1 (feL g) _
  clear hE0 hg1
  have hAp := hE1.e (w0.heap.size, p) (by simp)
  have hAq := hE1.e (w0.heap.size + 1, q) (by simp)
  have c0 := hAp.cell (i := 0) rfl
  have c1 := hAp.cell (i := 1) rfl
  have c2 := hAp.cell (i := 2) rfl
  have c3 := hAp.cell (i := 3) rfl
  have c4 := hAp.cell (i := 4) rfl
  have d0 := hAq.cell (i := 0) rfl
  have d1 := hAq.cell (i := 1) rfl
  have d2 := hAq.cell (i := 2) rfl
  have d3 := hAq.cell (i := 3) rfl
  have d4 := hAq.cell (i := 4) rfl
  go_wp2_with fail
  refine (fits_val g p q false _ okg okp okq (by rw [hg.out]; exact H1.out)).mono ?_
  rintro e v2 ⟨rfl, hg2⟩
  have hE2 := hE1.grown hg2
  have hG2 := hG1.grown hg2 (by simp)
  clear hE1 hG1 hg2 hAp hAq c0 c1 c2 c3 c4 d0 d1 d2 d3 d4
  have hAp := hE2.e (w0.heap.size, p) (by simp)
  have hAq := hE2.e (w0.heap.size + 1, q) (by simp)
  have c0 := hAp.cell (i := 0) rfl
  have c1 := hAp.cell (i := 1) rfl
  have c2 := hAp.cell (i := 2) rfl
  have c3 := hAp.cell (i := 3) rfl
  have c4 := hAp.cell (i := 4) rfl
  have d0 := hAq.cell (i := 0) rfl
  have d1 := hAq.cell (i := 1) rfl
  have d2 := hAq.cell (i := 2) rfl
  have d3 := hAq.cell (i := 3) rfl
  have d4 := hAq.cell (i := 4) rfl
  have x0 := hG2.cell (i := 0) rfl
  have x1 := hG2.cell (i := 1) rfl
  have x2 := hG2.cell (i := 2) rfl
  have x3 := hG2.cell (i := 3) rfl
  have x4 := hG2.cell (i := 4) rfl
  have y0 := hG2.free 0
  have y1 := hG2.free 1
  have y2 := hG2.free 2
  have y3 := hG2.free 3
  have y4 := hG2.free 4
  have HTv := HT.out.grown hE2.g
  have t0 : v2.cell? ⟨1, 0, none⟩ = some (.int .u64 rootI.x0) := HTv.q 0 (by decide)
  have t1 : v2.cell? ⟨1, 1, none⟩ = some (.int .u64 rootI.x1) := HTv.q 1 (by decide)
  have t2 : v2.cell? ⟨1, 2, none⟩ = some (.int .u64 rootI.x2) := HTv.q 2 (by decide)
  have t3 : v2.cell? ⟨1, 3, none⟩ = some (.int .u64 rootI.x3) := HTv.q 3 (by decide)
  have t4 : v2.cell? ⟨1, 4, none⟩ = some (.int .u64 rootI.x4) := HTv.q 4 (by decide)
  clear HTv
  go_wp2_with fail
  refine (mul_fe g rootI _ okg rootI_ok).mono ?_
  rintro e v3 ⟨gi, hgi, rfl, hg3⟩
  have okgi : gi.Ok := by rw [hgi.out]; exact (Fe.mul_right _ _).ok
  have hK : Okb w0 [(w0.heap.size, p), (w0.heap.size + 1, q)] v1.heap.size := by
    refine ⟨by omega, ?_⟩
    intro z hz
    simp only [List.mem_cons, List.not_mem_nil, or_false] at hz
    rcases hz with rfl | rfl <;> simp only [] <;> omega
  have hE4 := (hE2.grown hg3).set hK gi
  have hG4 : Blk (set5W v3 v1.heap.size gi) v1.heap.size 24 (feL gi) := set5W_same ⟨_, _, _, _, _, hG2.grown hg3 (by simp)⟩
  have hG3 := hG2.grown hg3 (by simp)
  clear hE2 hG2 hg3 hAp hAq c0 c1 c2 c3 c4 d0 d1 d2 d3 d4 x0 x1 x2 x3 x4 y0 y1 y2 y3 y4 t0 t1 t2 t3 t4
  have x0 := hG3.cell (i := 0) rfl
  have x1 := hG3.cell (i := 1) rfl
  have x2 := hG3.cell (i := 2) rfl
  have x3 := hG3.cell (i := 3) rfl
  have x4 := hG3.cell (i := 4) rfl
  have y0 := hG3.free 0
  have y1 := hG3.free 1
  have y2 := hG3.free 2
  have y3 := hG3.free 3
  have y4 := hG3.free 4
  have hAp := hE4.e (w0.heap.size, p) (by simp)
  have hAq := hE4.e (w0.heap.size + 1, q) (by simp)
  unfold set5W at hE4 hG4 hAp hAq
  have c0 := hAp.cell (i := 0) rfl
  have c1 := hAp.cell (i := 1) rfl
  have c2 := hAp.cell (i := 2) rfl
  have c3 := hAp.cell (i := 3) rfl
  have c4 := hAp.cell (i := 4) rfl
  have d0 := hAq.cell (i := 0) rfl
  have d1 := hAq.cell (i := 1) rfl
  have d2 := hAq.cell (i := 2) rfl
  have d3 := hAq.cell (i := 3) rfl
  have d4 := hAq.cell (i := 4) rfl
  go_wp2_with fail
  refine (fits_val gi p q false _ okgi okp okq (by rw [hgi.out, hg.out]; exact H2.out)).mono ?_
  rintro e v5 ⟨rfl, hg5⟩
  have hE5 := hE4.grown hg5
  have hG5 := hG4.grown hg5 (by simp)
  clear hE4 hG4 hG3 hg5 hAp hAq c0 c1 c2 c3 c4 d0 d1 d2 d3 d4 x0 x1 x2 x3 x4 y0 y1 y2 y3 y4
  obtain ⟨u0, u1, u2, u3, u4, hR⟩ := hE5.r _ (List.mem_singleton.2 rfl)
  have s0 := hR.cell (i := 0) rfl
  have s1 := hR.cell (i := 1) rfl
  have s2 := hR.cell (i := 2) rfl
  have s3 := hR.cell (i := 3) rfl
  have s4 := hR.cell (i := 4) rfl
  have z0 := hR.free 0
  have z1 := hR.free 1
  have z2 := hR.free 2
  have z3 := hR.free 3
  have z4 := hR.free 4
  go_wp2_with fail
  refine bodyPost_ret (v := .tuple #[.agg #[.int .u64 0, .int .u64 0, .int .u64 0, .int .u64 0, .int .u64 0], .bool false]) ?_ rfl ⟨Fe.zeroF, Lib.hid rfl, rfl, gb_set5 hE5.g (by omega) _ _ _ _ _⟩
  simp [results, Tryd.results25, go_sem, s0, s1, s2, s3, s4]
end Go.Proofs.YtjgfhihngbhljaaDoor
