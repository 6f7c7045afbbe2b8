/- texts merged, part 3: XFeRootW XFeMath XFeVals XEdCurve XEdPt XEdMem XEdAcross XFeGet XFeOfBytes XFeEq XFeGetAny XPart XEdClone XOwnRows XEdGet -/
import Derived.Test.YtleegbaigedebaaDoorEdB2
import Derived.Test.YtleegbaigedebaaDoorEdB1
import Derived.Deep.Cut
import Derived.Laws.ResultCell
import Derived.Shelf.Bytes.SlEqualAll
import Derived.WalkKit
import Derived.WalkSpells
import Derived.WalkLawsBesides
import Derived.Lib.Hide
import Derived.Lib.SliceRun
/- field: Root. -/
namespace Go.Proofs.YtleegbaigedebaaDoor
open Go.RowKit
def RootOut (F : Fe) (b : Bool) (w : World) (e : Ending) (w' : World) : Prop :=
  ∃ r : Fe, Hid (r = F) ∧ e = .returned (.tuple #[.agg #[.int .u64 r.x0, .int .u64 r.x1, .int .u64 r.x2, .int .u64 r.x3, .int .u64 r.x4], .bool b]) ∧ w.grownBy w' none
theorem rootI_ok : rootI.Ok := by constructor <;> decide
theorem fits_val (p q s : Fe) (b : Bool) (w : World) (okp : p.Ok) (okq : q.Ok) (oks : s.Ok) (hb : decide (Fe.m (Fe.mulF (Fe.sqF p) s) = Fe.m q) = b) :
    Calls Tryd.prog 75 #[.agg #[.int .u64 p.x0, .int .u64 p.x1, .int .u64 p.x2, .int .u64 p.x3, .int .u64 p.x4], .agg #[.int .u64 q.x0, .int .u64 q.x1, .int .u64 q.x2, .int .u64 q.x3, .int .u64 q.x4], .agg #[.int .u64 s.x0, .int .u64 s.x1, .int .u64 s.x2, .int .u64 s.x3, .int .u64 s.x4]] w fun e w' => e = .returned (.bool b) ∧ w.grownBy w' none := by
  rw [← hb]; exact fits_any p q s w okp okq oks
theorem odd_val (p : Fe) (b : Bool) (w : World) (okp : p.Ok) (hb : decide (Fe.m p % 2 = 1) = b) : Calls Tryd.prog 26 #[.agg #[.int .u64 p.x0, .int .u64 p.x1, .int .u64 p.x2, .int .u64 p.x3, .int .u64 p.x4]] w fun e w' => e = .returned (.bool b) ∧ w.grownBy w' none := by
  rw [← hb]; exact odd_any p w okp
theorem root_env (p q : Fe) (w0 : World) : EnvB w0 (w0.heap.size + 3) [(w0.heap.size, p), (w0.heap.size + 1, q)] [w0.heap.size + 1 + 1] (((w0.alloc (.cells #[.int .u64 p.x0, .int .u64 p.x1, .int .u64 p.x2, .int .u64 p.x3, .int .u64 p.x4] 26)).alloc (.cells #[.int .u64 q.x0, .int .u64 q.x1, .int .u64 q.x2, .int .u64 q.x3, .int .u64 q.x4] 26)).alloc (.cells #[.int .u64 0, .int .u64 0, .int .u64 0, .int .u64 0, .int .u64 0] 26)) :=
  ⟨gb_alloc (gb_alloc (gb_alloc (gb_refl _ _) _) _) _, by
    intro z hz
    simp only [List.mem_cons, List.not_mem_nil, or_false] at hz
    rcases hz with rfl | rfl
    · exact ((Blk.new w0 (feL _) _).alloc _).alloc _
    · exact (Blk.newAt (w0.alloc _) (feL _) _ (by simp)).alloc _, by
    intro B hB
    simp only [List.mem_cons, List.not_mem_nil, or_false] at hB
    subst hB
    exact ⟨_, _, _, _, _, Blk.newAt _ [.int .u64 0, .int .u64 0, .int .u64 0, .int .u64 0, .int .u64 0] _ (by simp)⟩, by intro z hz; simp only [List.mem_cons, List.not_mem_nil, or_false] at hz; rcases hz with rfl | rfl <;> simp only [] <;> omega, by simp, by omega⟩
set_option maxRecDepth 100000 in
set_option maxHeartbeats 1600000 in
theorem root_te (p q : Fe) (w0 : World) (hT : FTab w0) (okp : p.Ok) (okq : q.Ok) (h1 : decide (Fe.m (Fe.mulF (Fe.sqF (guessF p q)) q) = Fe.m p) = true) (h3 : decide (Fe.m (guessF p q) % 2 = 1) = false) :
    Calls Tryd.prog 59 #[.agg #[.int .u64 p.x0, .int .u64 p.x1, .int .u64 p.x2, .int .u64 p.x3, .int .u64 p.x4], .agg #[.int .u64 q.x0, .int .u64 q.x1, .int .u64 q.x2, .int .u64 q.x3, .int .u64 q.x4]] w0 (RootOut (guessF p q) true w0) := by
  have HT := Lib.hid hT; clear hT
  have H1 := Lib.hid h1; clear h1
  have H3 := Lib.hid h3; clear h3
  have hE0 : EnvB w0 (w0.heap.size + 3) [(w0.heap.size, p), (w0.heap.size + 1, q)] [w0.heap.size + 1 + 1] (((w0.alloc (.cells #[.int .u64 p.x0, .int .u64 p.x1, .int .u64 p.x2, .int .u64 p.x3, .int .u64 p.x4] 26)).alloc (.cells #[.int .u64 q.x0, .int .u64 q.x1, .int .u64 q.x2, .int .u64 q.x3, .int .u64 q.x4] 26)).alloc (.cells #[.int .u64 0, .int .u64 0, .int .u64 0, .int .u64 0, .int .u64 0] 26)) := root_env p q w0
  go_enter Tryd.func59, Tryd.ntmps59
  go_wp2_with fail
  refine (guess_any p q _ okp okq).mono ?_
  rintro e v1 ⟨g, hg, rfl, hg1⟩
  have okg : g.Ok := by rw [hg.out]; exact (Fe.mul_right _ _).ok
  have hE1 := (hE0.grown hg1).grown (World.grownBy_alloc v1 (.cells #[.int .u64 g.x0, .int .u64 g.x1, .int .u64 g.x2, .int .u64 g.x3, .int .u64 g.x4] 26) none)
  have hl1 := (hE0.grown hg1).l
  have hG1 : Blk (v1.alloc (.cells #[.int .u64 g.x0, .int .u64 g.x1, .int .u64 g.x2, .int .u64 g.x3, .int .u64 g.x4] 26)) v1.heap.size 26 (feL g) := Blk.new v1 (feL g) _
  clear hE0 hg1
  have hAp := hE1.e (w0.heap.size, p) (by simp)
  have hAq := hE1.e (w0.heap.size + 1, q) (by simp)
  have c0 := hAp.cell (i := 0) rfl
  have c1 := hAp.cell (i := 1) rfl
  have c2 := hAp.cell (i := 2) rfl
  have c3 := hAp.cell (i := 3) rfl
  have c4 := hAp.cell (i := 4) rfl
  have d0 := hAq.cell (i := 0) rfl
  have d1 := hAq.cell (i := 1) rfl
  have d2 := hAq.cell (i := 2) rfl
  have d3 := hAq.cell (i := 3) rfl
  have d4 := hAq.cell (i := 4) rfl
  go_wp2_with fail
  refine (fits_val g p q true _ okg okp okq (by rw [hg.out]; exact H1.out)).mono ?_
  rintro e v2 ⟨rfl, hg2⟩
  have hE2 := hE1.grown hg2
  have hG2 := hG1.grown hg2 (by simp)
  clear hE1 hG1 hg2 hAp hAq c0 c1 c2 c3 c4 d0 d1 d2 d3 d4
  have hAp := hE2.e (w0.heap.size, p) (by simp)
  have hAq := hE2.e (w0.heap.size + 1, q) (by simp)
  have c0 := hAp.cell (i := 0) rfl
  have c1 := hAp.cell (i := 1) rfl
  have c2 := hAp.cell (i := 2) rfl
  have c3 := hAp.cell (i := 3) rfl
  have c4 := hAp.cell (i := 4) rfl
  have d0 := hAq.cell (i := 0) rfl
  have d1 := hAq.cell (i := 1) rfl
  have d2 := hAq.cell (i := 2) rfl
  have d3 := hAq.cell (i := 3) rfl
  have d4 := hAq.cell (i := 4) rfl
  have x0 := hG2.cell (i := 0) rfl
  have x1 := hG2.cell (i := 1) rfl
  have x2 := hG2.cell (i := 2) rfl
  have x3 := hG2.cell (i := 3) rfl
  have x4 := hG2.cell (i := 4) rfl
  have y0 := hG2.free 0
  have y1 := hG2.free 1
  have y2 := hG2.free 2
  have y3 := hG2.free 3
  have y4 := hG2.free 4
  go_wp2_with fail
  refine (fits_val g p q true _ okg okp okq (by rw [hg.out]; exact H1.out)).mono ?_
  rintro e v5 ⟨rfl, hg5⟩
  have hE5 := hE2.grown hg5
  have hG5 := hG2.grown hg5 (by simp)
  clear hE2 hG2 hg5 hAp hAq c0 c1 c2 c3 c4 d0 d1 d2 d3 d4 x0 x1 x2 x3 x4 y0 y1 y2 y3 y4
  have x0 := hG5.cell (i := 0) rfl
  have x1 := hG5.cell (i := 1) rfl
  have x2 := hG5.cell (i := 2) rfl
  have x3 := hG5.cell (i := 3) rfl
  have x4 := hG5.cell (i := 4) rfl
  have y0 := hG5.free 0
  have y1 := hG5.free 1
  have y2 := hG5.free 2
  have y3 := hG5.free 3
  have y4 := hG5.free 4
  go_wp2_with fail
  refine (odd_val g false _ okg (by rw [hg.out]; exact H3.out)).mono ?_
  rintro e v6 ⟨rfl, hg6⟩
  have hE6 := hE5.grown hg6
  have hG6 := hG5.grown hg6 (by simp)
  clear hE5 hG5 hg6 x0 x1 x2 x3 x4 y0 y1 y2 y3 y4
  have x0 := hG6.cell (i := 0) rfl
  have x1 := hG6.cell (i := 1) rfl
  have x2 := hG6.cell (i := 2) rfl
  have x3 := hG6.cell (i := 3) rfl
  have x4 := hG6.cell (i := 4) rfl
  have y0 := hG6.free 0
  have y1 := hG6.free 1
  have y2 := hG6.free 2
  have y3 := hG6.free 3
  have y4 := hG6.free 4
  obtain ⟨u0, u1, u2, u3, u4, hR⟩ := hE6.r _ (List.mem_singleton.2 rfl)
  have s0 := hR.cell (i := 0) rfl
  have s1 := hR.cell (i := 1) rfl
  have s2 := hR.cell (i := 2) rfl
  have s3 := hR.cell (i := 3) rfl
  have s4 := hR.cell (i := 4) rfl
  have z0 := hR.free 0
  have z1 := hR.free 1
  have z2 := hR.free 2
  have z3 := hR.free 3
  have z4 := hR.free 4
  go_wp2_with fail
  refine bodyPost_ret (v := .tuple #[.agg #[.int .u64 g.x0, .int .u64 g.x1, .int .u64 g.x2, .int .u64 g.x3, .int .u64 g.x4], .bool true]) ?_ rfl ⟨g, Lib.hid (by rw [hg.out]), rfl, gb_set5 hE6.g (by omega) _ _ _ _ _⟩
  simp [results, Tryd.results59, go_sem, s0, s1, s2, s3, s4]
set_option maxRecDepth 100000 in
set_option maxHeartbeats 1600000 in
theorem root_to (p q : Fe) (w0 : World) (hT : FTab w0) (okp : p.Ok) (okq : q.Ok) (h1 : decide (Fe.m (Fe.mulF (Fe.sqF (guessF p q)) q) = Fe.m p) = true) (h3 : decide (Fe.m (guessF p q) % 2 = 1) = true) :
    Calls Tryd.prog 59 #[.agg #[.int .u64 p.x0, .int .u64 p.x1, .int .u64 p.x2, .int .u64 p.x3, .int .u64 p.x4], .agg #[.int .u64 q.x0, .int .u64 q.x1, .int .u64 q.x2, .int .u64 q.x3, .int .u64 q.x4]] w0 (RootOut (Fe.negF (guessF p q)) true w0) := by
  have HT := Lib.hid hT; clear hT
  have H1 := Lib.hid h1; clear h1
  have H3 := Lib.hid h3; clear h3
  have hE0 : EnvB w0 (w0.heap.size + 3) [(w0.heap.size, p), (w0.heap.size + 1, q)] [w0.heap.size + 1 + 1] (((w0.alloc (.cells #[.int .u64 p.x0, .int .u64 p.x1, .int .u64 p.x2, .int .u64 p.x3, .int .u64 p.x4] 26)).alloc (.cells #[.int .u64 q.x0, .int .u64 q.x1, .int .u64 q.x2, .int .u64 q.x3, .int .u64 q.x4] 26)).alloc (.cells #[.int .u64 0, .int .u64 0, .int .u64 0, .int .u64 0, .int .u64 0] 26)) := root_env p q w0
  go_enter Tryd.func59, Tryd.ntmps59
  go_wp2_with fail
  refine (guess_any p q _ okp okq).mono ?_
  rintro e v1 ⟨g, hg, rfl, hg1⟩
  have okg : g.Ok := by rw [hg.out]; exact (Fe.mul_right _ _).ok
  have hE1 := (hE0.grown hg1).grown (World.grownBy_alloc v1 (.cells #[.int .u64 g.x0, .int .u64 g.x1, .int .u64 g.x2, .int .u64 g.x3, .int .u64 g.x4] 26) none)
  have hl1 := (hE0.grown hg1).l
  have hG1 : Blk (v1.alloc (.cells #[.int .u64 g.x0, .int .u64 g.x1, .int .u64 g.x2, .int .u64 g.x3, .int .u64 g.x4] 26)) v1.heap.size 26 (feL g) := Blk.new v1 (feL g) _
  clear hE0 hg1
  have hAp := hE1.e (w0.heap.size, p) (by simp)
  have hAq := hE1.e (w0.heap.size + 1, q) (by simp)
  have c0 := hAp.cell (i := 0) rfl
  have c1 := hAp.cell (i := 1) rfl
  have c2 := hAp.cell (i := 2) rfl
  have c3 := hAp.cell (i := 3) rfl
  have c4 := hAp.cell (i := 4) rfl
  have d0 := hAq.cell (i := 0) rfl
  have d1 := hAq.cell (i := 1) rfl
  have d2 := hAq.cell (i := 2) rfl
  have d3 := hAq.cell (i := 3) rfl
  have d4 := hAq.cell (i := 4) rfl
  go_wp2_with fail
  refine (fits_val g p q true _ okg okp okq (by rw [hg.out]; exact H1.out)).mono ?_
  rintro e v2 ⟨rfl, hg2⟩
  have hE2 := hE1.grown hg2
  have hG2 := hG1.grown hg2 (by simp)
  clear hE1 hG1 hg2 hAp hAq c0 c1 c2 c3 c4 d0 d1 d2 d3 d4
  have hAp := hE2.e (w0.heap.size, p) (by simp)
  have hAq := hE2.e (w0.heap.size + 1, q) (by simp)
  have c0 := hAp.cell (i := 0) rfl
  have c1 := hAp.cell (i := 1) rfl
  have c2 := hAp.cell (i := 2) rfl
  have c3 := hAp.cell (i := 3) rfl
  have c4 := hAp.cell (i := 4) rfl
  have d0 := hAq.cell (i := 0) rfl
  have d1 := hAq.cell (i := 1) rfl
  have d2 := hAq.cell (i := 2) rfl
  have d3 := hAq.cell (i := 3) rfl
  have d4 := hAq.cell (i := 4) rfl
  have x0 := hG2.cell (i := 0) rfl
  have x1 := hG2.cell (i := 1) rfl
  have x2 := hG2.cell (i := 2) rfl
  have x3 := hG2.cell (i := 3) rfl
  have x4 := hG2.cell (i := 4) rfl
  have y0 := hG2.free 0
  have y1 := hG2.free 1
  have y2 := hG2.free 2
  have y3 := hG2.free 3
  have y4 := hG2.free 4
  go_wp2_with fail
  refine (fits_val g p q true _ okg okp okq (by rw [hg.out]; exact H1.out)).mono ?_
  rintro e v5 ⟨rfl, hg5⟩
  have hE5 := hE2.grown hg5
  have hG5 := hG2.grown hg5 (by simp)
  clear hE2 hG2 hg5 hAp hAq c0 c1 c2 c3 c4 d0 d1 d2 d3 d4 x0 x1 x2 x3 x4 y0 y1 y2 y3 y4
  have x0 := hG5.cell (i := 0) rfl
  have x1 := hG5.cell (i := 1) rfl
  have x2 := hG5.cell (i := 2) rfl
  have x3 := hG5.cell (i := 3) rfl
  have x4 := hG5.cell (i := 4) rfl
  have y0 := hG5.free 0
  have y1 := hG5.free 1
  have y2 := hG5.free 2
  have y3 := hG5.free 3
  have y4 := hG5.free 4
  go_wp2_with fail
  refine (odd_val g true _ okg (by rw [hg.out]; exact H3.out)).mono ?_
  rintro e v6 ⟨rfl, hg6⟩
  have hE6 := hE5.grown hg6
  have hG6 := hG5.grown hg6 (by simp)
  clear hE5 hG5 hg6 x0 x1 x2 x3 x4 y0 y1 y2 y3 y4
  have x0 := hG6.cell (i := 0) rfl
  have x1 := hG6.cell (i := 1) rfl
  have x2 := hG6.cell (i := 2) rfl
  have x3 := hG6.cell (i := 3) rfl
  have x4 := hG6.cell (i := 4) rfl
  have y0 := hG6.free 0
  have y1 := hG6.free 1
  have y2 := hG6.free 2
  have y3 := hG6.free 3
  have y4 := hG6.free 4
  go_wp2_with fail
  refine (neg_any g _ (HT.out.grown hE6.g) okg).mono ?_
  rintro e v7 ⟨n, hn, rfl, hg7⟩
  have hK2 : Okb w0 [(w0.heap.size, p), (w0.heap.size + 1, q)] v1.heap.size := by
    refine ⟨by omega, ?_⟩
    intro z hz
    simp only [List.mem_cons, List.not_mem_nil, or_false] at hz
    rcases hz with rfl | rfl <;> simp only [] <;> omega
  have hE8 := (hE6.grown hg7).set hK2 n
  have hG7 := hG6.grown hg7 (by simp)
  clear hE6 hG6 hg7 x0 x1 x2 x3 x4 y0 y1 y2 y3 y4
  have x0 := hG7.cell (i := 0) rfl
  have x1 := hG7.cell (i := 1) rfl
  have x2 := hG7.cell (i := 2) rfl
  have x3 := hG7.cell (i := 3) rfl
  have x4 := hG7.cell (i := 4) rfl
  have y0 := hG7.free 0
  have y1 := hG7.free 1
  have y2 := hG7.free 2
  have y3 := hG7.free 3
  have y4 := hG7.free 4
  obtain ⟨u0, u1, u2, u3, u4, hR⟩ := hE8.r _ (List.mem_singleton.2 rfl)
  unfold set5W at hE8 hR
  have s0 := hR.cell (i := 0) rfl
  have s1 := hR.cell (i := 1) rfl
  have s2 := hR.cell (i := 2) rfl
  have s3 := hR.cell (i := 3) rfl
  have s4 := hR.cell (i := 4) rfl
  have z0 := hR.free 0
  have z1 := hR.free 1
  have z2 := hR.free 2
  have z3 := hR.free 3
  have z4 := hR.free 4
  go_wp2_with fail
  refine bodyPost_ret (v := .tuple #[.agg #[.int .u64 n.x0, .int .u64 n.x1, .int .u64 n.x2, .int .u64 n.x3, .int .u64 n.x4], .bool true]) ?_ rfl ⟨n, Lib.hid (by rw [hn.out, hg.out]), rfl, gb_set5 hE8.g (by omega) _ _ _ _ _⟩
  simp [results, Tryd.results59, go_sem, s0, s1, s2, s3, s4]
set_option maxRecDepth 100000 in
set_option maxHeartbeats 1600000 in
theorem root_fe (p q : Fe) (w0 : World) (hT : FTab w0) (okp : p.Ok) (okq : q.Ok) (h1 : decide (Fe.m (Fe.mulF (Fe.sqF (guessF p q)) q) = Fe.m p) = false) (h2 : decide (Fe.m (Fe.mulF (Fe.sqF (Fe.mulF (guessF p q) rootI)) q) = Fe.m p) = true) (h3 : decide (Fe.m (Fe.mulF (guessF p q) rootI) % 2 = 1) = false) :
    Calls Tryd.prog 59 #[.agg #[.int .u64 p.x0, .int .u64 p.x1, .int .u64 p.x2, .int .u64 p.x3, .int .u64 p.x4], .agg #[.int .u64 q.x0, .int .u64 q.x1, .int .u64 q.x2, .int .u64 q.x3, .int .u64 q.x4]] w0 (RootOut (Fe.mulF (guessF p q) rootI) true w0) := by
  have HT := Lib.hid hT; clear hT
  have H1 := Lib.hid h1; clear h1
  have H2 := Lib.hid h2; clear h2
  have H3 := Lib.hid h3; clear h3
  have hE0 : EnvB w0 (w0.heap.size + 3) [(w0.heap.size, p), (w0.heap.size + 1, q)] [w0.heap.size + 1 + 1] (((w0.alloc (.cells #[.int .u64 p.x0, .int .u64 p.x1, .int .u64 p.x2, .int .u64 p.x3, .int .u64 p.x4] 26)).alloc (.cells #[.int .u64 q.x0, .int .u64 q.x1, .int .u64 q.x2, .int .u64 q.x3, .int .u64 q.x4] 26)).alloc (.cells #[.int .u64 0, .int .u64 0, .int .u64 0, .int .u64 0, .int .u64 0] 26)) := root_env p q w0
  go_enter Tryd.func59, Tryd.ntmps59
  go_wp2_with fail
  refine (guess_any p q _ okp okq).mono ?_
  rintro e v1 ⟨g, hg, rfl, hg1⟩
  have okg : g.Ok := by rw [hg.out]; exact (Fe.mul_right _ _).ok
  have hE1 := (hE0.grown hg1).grown (World.grownBy_alloc v1 (.cells #[.int .u64 g.x0, .int .u64 g.x1, .int .u64 g.x2, .int .u64 g.x3, .int .u64 g.x4] 26) none)
  have hl1 := (hE0.grown hg1).l
  have hG1 : Blk (v1.alloc (.cells #[.int .u64 g.x0, .int .u64 g.x1, .int .u64 g.x2, .int .u64 g.x3, .int .u64 g.x4] 26)) v1.heap.size 26 (feL g) := Blk.new v1 (feL g) _
  clear hE0 hg1
  have hAp := hE1.e (w0.heap.size, p) (by simp)
  have hAq := hE1.e (w0.heap.size + 1, q) (by simp)
  have c0 := hAp.cell (i := 0) rfl
  have c1 := hAp.cell (i := 1) rfl
  have c2 := hAp.cell (i := 2) rfl
  have c3 := hAp.cell (i := 3) rfl
  have c4 := hAp.cell (i := 4) rfl
  have d0 := hAq.cell (i := 0) rfl
  have d1 := hAq.cell (i := 1) rfl
  have d2 := hAq.cell (i := 2) rfl
  have d3 := hAq.cell (i := 3) rfl
  have d4 := hAq.cell (i := 4) rfl
  go_wp2_with fail
  refine (fits_val g p q false _ okg okp okq (by rw [hg.out]; exact H1.out)).mono ?_
  rintro e v2 ⟨rfl, hg2⟩
  have hE2 := hE1.grown hg2
  have hG2 := hG1.grown hg2 (by simp)
  clear hE1 hG1 hg2 hAp hAq c0 c1 c2 c3 c4 d0 d1 d2 d3 d4
  have hAp := hE2.e (w0.heap.size, p) (by simp)
  have hAq := hE2.e (w0.heap.size + 1, q) (by simp)
  have c0 := hAp.cell (i := 0) rfl
  have c1 := hAp.cell (i := 1) rfl
  have c2 := hAp.cell (i := 2) rfl
  have c3 := hAp.cell (i := 3) rfl
  have c4 := hAp.cell (i := 4) rfl
  have d0 := hAq.cell (i := 0) rfl
  have d1 := hAq.cell (i := 1) rfl
  have d2 := hAq.cell (i := 2) rfl
  have d3 := hAq.cell (i := 3) rfl
  have d4 := hAq.cell (i := 4) rfl
  have x0 := hG2.cell (i := 0) rfl
  have x1 := hG2.cell (i := 1) rfl
  have x2 := hG2.cell (i := 2) rfl
  have x3 := hG2.cell (i := 3) rfl
  have x4 := hG2.cell (i := 4) rfl
  have y0 := hG2.free 0
  have y1 := hG2.free 1
  have y2 := hG2.free 2
  have y3 := hG2.free 3
  have y4 := hG2.free 4
  have HTv := HT.out.grown hE2.g
  have t0 : v2.cell? ⟨3, 0, none⟩ = some (.int .u64 rootI.x0) := HTv.q 0 (by decide)
  have t1 : v2.cell? ⟨3, 1, none⟩ = some (.int .u64 rootI.x1) := HTv.q 1 (by decide)
  have t2 : v2.cell? ⟨3, 2, none⟩ = some (.int .u64 rootI.x2) := HTv.q 2 (by decide)
  have t3 : v2.cell? ⟨3, 3, none⟩ = some (.int .u64 rootI.x3) := HTv.q 3 (by decide)
  have t4 : v2.cell? ⟨3, 4, none⟩ = some (.int .u64 rootI.x4) := HTv.q 4 (by decide)
  clear HTv
  go_wp2_with fail
  refine (mul_fe g rootI _ okg rootI_ok).mono ?_
  rintro e v3 ⟨gi, hgi, rfl, hg3⟩
  have okgi : gi.Ok := by rw [hgi.out]; exact (Fe.mul_right _ _).ok
  have hK : Okb w0 [(w0.heap.size, p), (w0.heap.size + 1, q)] v1.heap.size := by
    refine ⟨by omega, ?_⟩
    intro z hz
    simp only [List.mem_cons, List.not_mem_nil, or_false] at hz
    rcases hz with rfl | rfl <;> simp only [] <;> omega
  have hE4 := (hE2.grown hg3).set hK gi
  have hG4 : Blk (set5W v3 v1.heap.size gi) v1.heap.size 26 (feL gi) := set5W_same ⟨_, _, _, _, _, hG2.grown hg3 (by simp)⟩
  have hG3 := hG2.grown hg3 (by simp)
  clear hE2 hG2 hg3 hAp hAq c0 c1 c2 c3 c4 d0 d1 d2 d3 d4 x0 x1 x2 x3 x4 y0 y1 y2 y3 y4 t0 t1 t2 t3 t4
  have x0 := hG3.cell (i := 0) rfl
  have x1 := hG3.cell (i := 1) rfl
  have x2 := hG3.cell (i := 2) rfl
  have x3 := hG3.cell (i := 3) rfl
  have x4 := hG3.cell (i := 4) rfl
  have y0 := hG3.free 0
  have y1 := hG3.free 1
  have y2 := hG3.free 2
  have y3 := hG3.free 3
  have y4 := hG3.free 4
  have hAp := hE4.e (w0.heap.size, p) (by simp)
  have hAq := hE4.e (w0.heap.size + 1, q) (by simp)
  unfold set5W at hE4 hG4 hAp hAq
  have c0 := hAp.cell (i := 0) rfl
  have c1 := hAp.cell (i := 1) rfl
  have c2 := hAp.cell (i := 2) rfl
  have c3 := hAp.cell (i := 3) rfl
  have c4 := hAp.cell (i := 4) rfl
  have d0 := hAq.cell (i := 0) rfl
  have d1 := hAq.cell (i := 1) rfl
  have d2 := hAq.cell (i := 2) rfl
  have d3 := hAq.cell (i := 3) rfl
  have d4 := hAq.cell (i := 4) rfl
  go_wp2_with fail
  refine (fits_val gi p q true _ okgi okp okq (by rw [hgi.out, hg.out]; exact H2.out)).mono ?_
  rintro e v5 ⟨rfl, hg5⟩
  have hE5 := hE4.grown hg5
  have hG5 := hG4.grown hg5 (by simp)
  clear hE4 hG4 hG3 hg5 hAp hAq c0 c1 c2 c3 c4 d0 d1 d2 d3 d4 x0 x1 x2 x3 x4 y0 y1 y2 y3 y4
  have x0 := hG5.cell (i := 0) rfl
  have x1 := hG5.cell (i := 1) rfl
  have x2 := hG5.cell (i := 2) rfl
  have x3 := hG5.cell (i := 3) rfl
  have x4 := hG5.cell (i := 4) rfl
  have y0 := hG5.free 0
  have y1 := hG5.free 1
  have y2 := hG5.free 2
  have y3 := hG5.free 3
  have y4 := hG5.free 4
  go_wp2_with fail
  refine (odd_val gi false _ okgi (by rw [hgi.out, hg.out]; exact H3.out)).mono ?_
  rintro e v6 ⟨rfl, hg6⟩
  have hE6 := hE5.grown hg6
  have hG6 := hG5.grown hg6 (by simp)
  clear hE5 hG5 hg6 x0 x1 x2 x3 x4 y0 y1 y2 y3 y4
  have x0 := hG6.cell (i := 0) rfl
  have x1 := hG6.cell (i := 1) rfl
  have x2 := hG6.cell (i := 2) rfl
  have x3 := hG6.cell (i := 3) rfl
  have x4 := hG6.cell (i := 4) rfl
  have y0 := hG6.free 0
  have y1 := hG6.free 1
  have y2 := hG6.free 2
  have y3 := hG6.free 3
  have y4 := hG6.free 4
  obtain ⟨u0, u1, u2, u3, u4, hR⟩ := hE6.r _ (List.mem_singleton.2 rfl)
  have s0 := hR.cell (i := 0) rfl
  have s1 := hR.cell (i := 1) rfl
  have s2 := hR.cell (i := 2) rfl
  have s3 := hR.cell (i := 3) rfl
  have s4 := hR.cell (i := 4) rfl
  have z0 := hR.free 0
  have z1 := hR.free 1
  have z2 := hR.free 2
  have z3 := hR.free 3
  have z4 := hR.free 4
  go_wp2_with fail
  refine bodyPost_ret (v := .tuple #[.agg #[.int .u64 gi.x0, .int .u64 gi.x1, .int .u64 gi.x2, .int .u64 gi.x3, .int .u64 gi.x4], .bool true]) ?_ rfl ⟨gi, Lib.hid (by rw [hgi.out, hg.out]), rfl, gb_set5 hE6.g (by omega) _ _ _ _ _⟩
  simp [results, Tryd.results59, go_sem, s0, s1, s2, s3, s4]
set_option maxRecDepth 100000 in
set_option maxHeartbeats 1600000 in
theorem root_fo (p q : Fe) (w0 : World) (hT : FTab w0) (okp : p.Ok) (okq : q.Ok) (h1 : decide (Fe.m (Fe.mulF (Fe.sqF (guessF p q)) q) = Fe.m p) = false) (h2 : decide (Fe.m (Fe.mulF (Fe.sqF (Fe.mulF (guessF p q) rootI)) q) = Fe.m p) = true) (h3 : decide (Fe.m (Fe.mulF (guessF p q) rootI) % 2 = 1) = true) :
    Calls Tryd.prog 59 #[.agg #[.int .u64 p.x0, .int .u64 p.x1, .int .u64 p.x2, .int .u64 p.x3, .int .u64 p.x4], .agg #[.int .u64 q.x0, .int .u64 q.x1, .int .u64 q.x2, .int .u64 q.x3, .int .u64 q.x4]] w0 (RootOut (Fe.negF (Fe.mulF (guessF p q) rootI)) true w0) := by
  have HT := Lib.hid hT; clear hT
  have H1 := Lib.hid h1; clear h1
  have H2 := Lib.hid h2; clear h2
  have H3 := Lib.hid h3; clear h3
  have hE0 : EnvB w0 (w0.heap.size + 3) [(w0.heap.size, p), (w0.heap.size + 1, q)] [w0.heap.size + 1 + 1] (((w0.alloc (.cells #[.int .u64 p.x0, .int .u64 p.x1, .int .u64 p.x2, .int .u64 p.x3, .int .u64 p.x4] 26)).alloc (.cells #[.int .u64 q.x0, .int .u64 q.x1, .int .u64 q.x2, .int .u64 q.x3, .int .u64 q.x4] 26)).alloc (.cells #[.int .u64 0, .int .u64 0, .int .u64 0, .int .u64 0, .int .u64 0] 26)) := root_env p q w0
  go_enter Tryd.func59, Tryd.ntmps59
  go_wp2_with fail
  refine (guess_any p q _ okp okq).mono ?_
  rintro e v1 ⟨g, hg, rfl, hg1⟩
  have okg : g.Ok := by rw [hg.out]; exact (Fe.mul_right _ _).ok
  have hE1 := (hE0.grown hg1).grown (World.grownBy_alloc v1 (.cells #[.int .u64 g.x0, .int .u64 g.x1, .int .u64 g.x2, .int .u64 g.x3, .int .u64 g.x4] 26) none)
  have hl1 := (hE0.grown hg1).l
  have hG1 : Blk (v1.alloc (.cells #[.int .u64 g.x0, .int .u64 g.x1, .int .u64 g.x2, .int .u64 g.x3, .int .u64 g.x4] 26)) v1.heap.size 26 (feL g) := Blk.new v1 (feL g) _
  clear hE0 hg1
  have hAp := hE1.e (w0.heap.size, p) (by simp)
  have hAq := hE1.e (w0.heap.size + 1, q) (by simp)
  have c0 := hAp.cell (i := 0) rfl
  have c1 := hAp.cell (i := 1) rfl
  have c2 := hAp.cell (i := 2) rfl
  have c3 := hAp.cell (i := 3) rfl
  have c4 := hAp.cell (i := 4) rfl
  have d0 := hAq.cell (i := 0) rfl
  have d1 := hAq.cell (i := 1) rfl
  have d2 := hAq.cell (i := 2) rfl
  have d3 := hAq.cell (i := 3) rfl
  have d4 := hAq.cell (i := 4) rfl
  go_wp2_with fail
  refine (fits_val g p q false _ okg okp okq (by rw [hg.out]; exact H1.out)).mono ?_
  rintro e v2 ⟨rfl, hg2⟩
  have hE2 := hE1.grown hg2
  have hG2 := hG1.grown hg2 (by simp)
  clear hE1 hG1 hg2 hAp hAq c0 c1 c2 c3 c4 d0 d1 d2 d3 d4
  have hAp := hE2.e (w0.heap.size, p) (by simp)
  have hAq := hE2.e (w0.heap.size + 1, q) (by simp)
  have c0 := hAp.cell (i := 0) rfl
  have c1 := hAp.cell (i := 1) rfl
  have c2 := hAp.cell (i := 2) rfl
  have c3 := hAp.cell (i := 3) rfl
  have c4 := hAp.cell (i := 4) rfl
  have d0 := hAq.cell (i := 0) rfl
  have d1 := hAq.cell (i := 1) rfl
  have d2 := hAq.cell (i := 2) rfl
  have d3 := hAq.cell (i := 3) rfl
  have d4 := hAq.cell (i := 4) rfl
  have x0 := hG2.cell (i := 0) rfl
  have x1 := hG2.cell (i := 1) rfl
  have x2 := hG2.cell (i := 2) rfl
  have x3 := hG2.cell (i := 3) rfl
  have x4 := hG2.cell (i := 4) rfl
  have y0 := hG2.free 0
  have y1 := hG2.free 1
  have y2 := hG2.free 2
  have y3 := hG2.free 3
  have y4 := hG2.free 4
  have HTv := HT.out.grown hE2.g
  have t0 : v2.cell? ⟨3, 0, none⟩ = some (.int .u64 rootI.x0) := HTv.q 0 (by decide)
  have t1 : v2.cell? ⟨3, 1, none⟩ = some (.int .u64 rootI.x1) := HTv.q 1 (by decide)
  have t2 : v2.cell? ⟨3, 2, none⟩ = some (.int .u64 rootI.x2) := HTv.q 2 (by decide)
  have t3 : v2.cell? ⟨3, 3, none⟩ = some (.int .u64 rootI.x3) := HTv.q 3 (by decide)
  have t4 : v2.cell? ⟨3, 4, none⟩ = some (.int .u64 rootI.x4) := HTv.q 4 (by decide)
  clear HTv
  go_wp2_with fail
  refine (mul_fe g rootI _ okg rootI_ok).mono ?_
  rintro e v3 ⟨gi, hgi, rfl, hg3⟩
  have okgi : gi.Ok := by rw [hgi.out]; exact (Fe.mul_right _ _).ok
  have hK : Okb w0 [(w0.heap.size, p), (w0.heap.size + 1, q)] v1.heap.size := by
    refine ⟨by omega, ?_⟩
    intro z hz
    simp only [List.mem_cons, List.not_mem_nil, or_false] at hz
    rcases hz with rfl | rfl <;> simp only [] <;> omega
  have hE4 := (hE2.grown hg3).set hK gi
  have hG4 : Blk (set5W v3 v1.heap.size gi) v1.heap.size 26 (feL gi) := set5W_same ⟨_, _, _, _, _, hG2.grown hg3 (by simp)⟩
  have hG3 := hG2.grown hg3 (by simp)
  clear hE2 hG2 hg3 hAp hAq c0 c1 c2 c3 c4 d0 d1 d2 d3 d4 x0 x1 x2 x3 x4 y0 y1 y2 y3 y4 t0 t1 t2 t3 t4
  have x0 := hG3.cell (i := 0) rfl
  have x1 := hG3.cell (i := 1) rfl
  have x2 := hG3.cell (i := 2) rfl
  have x3 := hG3.cell (i := 3) rfl
  have x4 := hG3.cell (i := 4) rfl
  have y0 := hG3.free 0
  have y1 := hG3.free 1
  have y2 := hG3.free 2
  have y3 := hG3.free 3
  have y4 := hG3.free 4
  have hAp := hE4.e (w0.heap.size, p) (by simp)
  have hAq := hE4.e (w0.heap.size + 1, q) (by simp)
  unfold set5W at hE4 hG4 hAp hAq
  have c0 := hAp.cell (i := 0) rfl
  have c1 := hAp.cell (i := 1) rfl
  have c2 := hAp.cell (i := 2) rfl
  have c3 := hAp.cell (i := 3) rfl
  have c4 := hAp.cell (i := 4) rfl
  have d0 := hAq.cell (i := 0) rfl
  have d1 := hAq.cell (i := 1) rfl
  have d2 := hAq.cell (i := 2) rfl
  have d3 := hAq.cell (i := 3) rfl
  have d4 := hAq.cell (i := 4) rfl
  go_wp2_with fail
  refine (fits_val gi p q true _ okgi okp okq (by rw [hgi.out, hg.out]; exact H2.out)).mono ?_
  rintro e v5 ⟨rfl, hg5⟩
  have hE5 := hE4.grown hg5
  have hG5 := hG4.grown hg5 (by simp)
  clear hE4 hG4 hG3 hg5 hAp hAq c0 c1 c2 c3 c4 d0 d1 d2 d3 d4 x0 x1 x2 x3 x4 y0 y1 y2 y3 y4
  have x0 := hG5.cell (i := 0) rfl
  have x1 := hG5.cell (i := 1) rfl
  have x2 := hG5.cell (i := 2) rfl
  have x3 := hG5.cell (i := 3) rfl
  have x4 := hG5.cell (i := 4) rfl
  have y0 := hG5.free 0
  have y1 := hG5.free 1
  have y2 := hG5.free 2
  have y3 := hG5.free 3
  have y4 := hG5.free 4
  go_wp2_with fail
  refine (odd_val gi true _ okgi (by rw [hgi.out, hg.out]; exact H3.out)).mono ?_
  rintro e v6 ⟨rfl, hg6⟩
  have hE6 := hE5.grown hg6
  have hG6 := hG5.grown hg6 (by simp)
  clear hE5 hG5 hg6 x0 x1 x2 x3 x4 y0 y1 y2 y3 y4
  have x0 := hG6.cell (i := 0) rfl
  have x1 := hG6.cell (i := 1) rfl
  have x2 := hG6.cell (i := 2) rfl
  have x3 := hG6.cell (i := 3) rfl
  have x4 := hG6.cell (i := 4) rfl
  have y0 := hG6.free 0
  have y1 := hG6.free 1
  have y2 := hG6.free 2
  have y3 := hG6.free 3
  have y4 := hG6.free 4
  go_wp2_with fail
  refine (neg_any gi _ (HT.out.grown hE6.g) okgi).mono ?_
  rintro e v7 ⟨n, hn, rfl, hg7⟩
  have hK2 : Okb w0 [(w0.heap.size, p), (w0.heap.size + 1, q)] v1.heap.size := by
    refine ⟨by omega, ?_⟩
    intro z hz
    simp only [List.mem_cons, List.not_mem_nil, or_false] at hz
    rcases hz with rfl | rfl <;> simp only [] <;> omega
  have hE8 := (hE6.grown hg7).set hK2 n
  have hG7 := hG6.grown hg7 (by simp)
  clear hE6 hG6 hg7 x0 x1 x2 x3 x4 y0 y1 y2 y3 y4
  have x0 := hG7.cell (i := 0) rfl
  have x1 := hG7.cell (i := 1) rfl
  have x2 := hG7.cell (i := 2) rfl
  have x3 := hG7.cell (i := 3) rfl
  have x4 := hG7.cell (i := 4) rfl
  have y0 := hG7.free 0
  have y1 := hG7.free 1
  have y2 := hG7.free 2
  have y3 := hG7.free 3
  have y4 := hG7.free 4
  obtain ⟨u0, u1, u2, u3, u4, hR⟩ := hE8.r _ (List.mem_singleton.2 rfl)
  unfold set5W at hE8 hR
  have s0 := hR.cell (i := 0) rfl
  have s1 := hR.cell (i := 1) rfl
  have s2 := hR.cell (i := 2) rfl
  have s3 := hR.cell (i := 3) rfl
  have s4 := hR.cell (i := 4) rfl
  have z0 := hR.free 0
  have z1 := hR.free 1
  have z2 := hR.free 2
  have z3 := hR.free 3
  have z4 := hR.free 4
  go_wp2_with fail
  refine bodyPost_ret (v := .tuple #[.agg #[.int .u64 n.x0, .int .u64 n.x1, .int .u64 n.x2, .int .u64 n.x3, .int .u64 n.x4], .bool true]) ?_ rfl ⟨n, Lib.hid (by rw [hn.out, hgi.out, hg.out]), rfl, gb_set5 hE8.g (by omega) _ _ _ _ _⟩
  simp [results, Tryd.results59, go_sem, s0, s1, s2, s3, s4]
set_option maxRecDepth 100000 in
set_option maxHeartbeats 1600000 in
theorem root_no (p q : Fe) (w0 : World) (hT : FTab w0) (okp : p.Ok) (okq : q.Ok) (h1 : decide (Fe.m (Fe.mulF (Fe.sqF (guessF p q)) q) = Fe.m p) = false) (h2 : decide (Fe.m (Fe.mulF (Fe.sqF (Fe.mulF (guessF p q) rootI)) q) = Fe.m p) = false) :
    Calls Tryd.prog 59 #[.agg #[.int .u64 p.x0, .int .u64 p.x1, .int .u64 p.x2, .int .u64 p.x3, .int .u64 p.x4], .agg #[.int .u64 q.x0, .int .u64 q.x1, .int .u64 q.x2, .int .u64 q.x3, .int .u64 q.x4]] w0 (RootOut Fe.zeroF false w0) := by
  have HT := Lib.hid hT; clear hT
  have H1 := Lib.hid h1; clear h1
  have H2 := Lib.hid h2; clear h2
  have hE0 : EnvB w0 (w0.heap.size + 3) [(w0.heap.size, p), (w0.heap.size + 1, q)] [w0.heap.size + 1 + 1] (((w0.alloc (.cells #[.int .u64 p.x0, .int .u64 p.x1, .int .u64 p.x2, .int .u64 p.x3, .int .u64 p.x4] 26)).alloc (.cells #[.int .u64 q.x0, .int .u64 q.x1, .int .u64 q.x2, .int .u64 q.x3, .int .u64 q.x4] 26)).alloc (.cells #[.int .u64 0, .int .u64 0, .int .u64 0, .int .u64 0, .int .u64 0] 26)) := root_env p q w0
  go_enter Tryd.func59, Tryd.ntmps59
  go_wp2_with fail
  refine (guess_any p q _ okp okq).mono ?_
  rintro e v1 ⟨g, hg, rfl, hg1⟩
  have okg : g.Ok := by rw [hg.out]; exact (Fe.mul_right _ _).ok
  have hE1 := (hE0.grown hg1).grown (World.grownBy_alloc v1 (.cells #[.int .u64 g.x0, .int .u64 g.x1, .int .u64 g.x2, .int .u64 g.x3, .int .u64 g.x4] 26) none)
  have hl1 := (hE0.grown hg1).l
  have hG1 : Blk (v1.alloc (.cells #[.int .u64 g.x0, .int .u64 g.x1, .int .u64 g.x2, .int .u64 g.x3, .int .u64 g.x4] 26)) v1.heap.size 26 (feL g) := Blk.new v1 (feL g) _
  clear hE0 hg1
  have hAp := hE1.e (w0.heap.size, p) (by simp)
  have hAq := hE1.e (w0.heap.size + 1, q) (by simp)
  have c0 := hAp.cell (i := 0) rfl
  have c1 := hAp.cell (i := 1) rfl
  have c2 := hAp.cell (i := 2) rfl
  have c3 := hAp.cell (i := 3) rfl
  have c4 := hAp.cell (i := 4) rfl
  have d0 := hAq.cell (i := 0) rfl
  have d1 := hAq.cell (i := 1) rfl
  have d2 := hAq.cell (i := 2) rfl
  have d3 := hAq.cell (i := 3) rfl
  have d4 := hAq.cell (i := 4) rfl
  go_wp2_with fail
  refine (fits_val g p q false _ okg okp okq (by rw [hg.out]; exact H1.out)).mono ?_
  rintro e v2 ⟨rfl, hg2⟩
  have hE2 := hE1.grown hg2
  have hG2 := hG1.grown hg2 (by simp)
  clear hE1 hG1 hg2 hAp hAq c0 c1 c2 c3 c4 d0 d1 d2 d3 d4
  have hAp := hE2.e (w0.heap.size, p) (by simp)
  have hAq := hE2.e (w0.heap.size + 1, q) (by simp)
  have c0 := hAp.cell (i := 0) rfl
  have c1 := hAp.cell (i := 1) rfl
  have c2 := hAp.cell (i := 2) rfl
  have c3 := hAp.cell (i := 3) rfl
  have c4 := hAp.cell (i := 4) rfl
  have d0 := hAq.cell (i := 0) rfl
  have d1 := hAq.cell (i := 1) rfl
  have d2 := hAq.cell (i := 2) rfl
  have d3 := hAq.cell (i := 3) rfl
  have d4 := hAq.cell (i := 4) rfl
  have x0 := hG2.cell (i := 0) rfl
  have x1 := hG2.cell (i := 1) rfl
  have x2 := hG2.cell (i := 2) rfl
  have x3 := hG2.cell (i := 3) rfl
  have x4 := hG2.cell (i := 4) rfl
  have y0 := hG2.free 0
  have y1 := hG2.free 1
  have y2 := hG2.free 2
  have y3 := hG2.free 3
  have y4 := hG2.free 4
  have HTv := HT.out.grown hE2.g
  have t0 : v2.cell? ⟨3, 0, none⟩ = some (.int .u64 rootI.x0) := HTv.q 0 (by decide)
  have t1 : v2.cell? ⟨3, 1, none⟩ = some (.int .u64 rootI.x1) := HTv.q 1 (by decide)
  have t2 : v2.cell? ⟨3, 2, none⟩ = some (.int .u64 rootI.x2) := HTv.q 2 (by decide)
  have t3 : v2.cell? ⟨3, 3, none⟩ = some (.int .u64 rootI.x3) := HTv.q 3 (by decide)
  have t4 : v2.cell? ⟨3, 4, none⟩ = some (.int .u64 rootI.x4) := HTv.q 4 (by decide)
  clear HTv
  go_wp2_with fail
  refine (mul_fe g rootI _ okg rootI_ok).mono ?_
  rintro e v3 ⟨gi, hgi, rfl, hg3⟩
  have okgi : gi.Ok := by rw [hgi.out]; exact (Fe.mul_right _ _).ok
  have hK : Okb w0 [(w0.heap.size, p), (w0.heap.size + 1, q)] v1.heap.size := by
    refine ⟨by omega, ?_⟩
    intro z hz
    simp only [List.mem_cons, List.not_mem_nil, or_false] at hz
    rcases hz with rfl | rfl <;> simp only [] <;> omega
  have hE4 := (hE2.grown hg3).set hK gi
  have hG4 : Blk (set5W v3 v1.heap.size gi) v1.heap.size 26 (feL gi) := set5W_same ⟨_, _, _, _, _, hG2.grown hg3 (by simp)⟩
  have hG3 := hG2.grown hg3 (by simp)
  clear hE2 hG2 hg3 hAp hAq c0 c1 c2 c3 c4 d0 d1 d2 d3 d4 x0 x1 x2 x3 x4 y0 y1 y2 y3 y4 t0 t1 t2 t3 t4
  have x0 := hG3.cell (i := 0) rfl
  have x1 := hG3.cell (i := 1) rfl
  have x2 := hG3.cell (i := 2) rfl
  have x3 := hG3.cell (i := 3) rfl
  have x4 := hG3.cell (i := 4) rfl
  have y0 := hG3.free 0
  have y1 := hG3.free 1
  have y2 := hG3.free 2
  have y3 := hG3.free 3
  have y4 := hG3.free 4
  have hAp := hE4.e (w0.heap.size, p) (by simp)
  have hAq := hE4.e (w0.heap.size + 1, q) (by simp)
  unfold set5W at hE4 hG4 hAp hAq
  have c0 := hAp.cell (i := 0) rfl
  have c1 := hAp.cell (i := 1) rfl
  have c2 := hAp.cell (i := 2) rfl
  have c3 := hAp.cell (i := 3) rfl
  have c4 := hAp.cell (i := 4) rfl
  have d0 := hAq.cell (i := 0) rfl
  have d1 := hAq.cell (i := 1) rfl
  have d2 := hAq.cell (i := 2) rfl
  have d3 := hAq.cell (i := 3) rfl
  have d4 := hAq.cell (i := 4) rfl
  go_wp2_with fail
  refine (fits_val gi p q false _ okgi okp okq (by rw [hgi.out, hg.out]; exact H2.out)).mono ?_
  rintro e v5 ⟨rfl, hg5⟩
  have hE5 := hE4.grown hg5
  have hG5 := hG4.grown hg5 (by simp)
  clear hE4 hG4 hG3 hg5 hAp hAq c0 c1 c2 c3 c4 d0 d1 d2 d3 d4 x0 x1 x2 x3 x4 y0 y1 y2 y3 y4
  obtain ⟨u0, u1, u2, u3, u4, hR⟩ := hE5.r _ (List.mem_singleton.2 rfl)
  have s0 := hR.cell (i := 0) rfl
  have s1 := hR.cell (i := 1) rfl
  have s2 := hR.cell (i := 2) rfl
  have s3 := hR.cell (i := 3) rfl
  have s4 := hR.cell (i := 4) rfl
  have z0 := hR.free 0
  have z1 := hR.free 1
  have z2 := hR.free 2
  have z3 := hR.free 3
  have z4 := hR.free 4
  go_wp2_with fail
  refine bodyPost_ret (v := .tuple #[.agg #[.int .u64 0, .int .u64 0, .int .u64 0, .int .u64 0, .int .u64 0], .bool false]) ?_ rfl ⟨Fe.zeroF, Lib.hid rfl, rfl, gb_set5 hE5.g (by omega) _ _ _ _ _⟩
  simp [results, Tryd.results59, go_sem, s0, s1, s2, s3, s4]
end Go.Proofs.YtleegbaigedebaaDoor

/- field: what the program's elements stand for: powers, what is inverted, roots. -/
namespace Go.Proofs.YtleegbaigedebaaDoor
open Fe Num

structure Pw (a r : Fe) (k : Nat) : Prop where
  ri : Right r
  mi : Fe.m r = Fe.m a ^ k % P
theorem Pw.one {a : Fe} (h : Right a) : Pw a a 1 := ⟨h, by rw [Nat.pow_one, Nat.mod_eq_of_lt (m_lt a)]⟩
theorem Pw.mul {a r s : Fe} {k j : Nat} (h : Pw a r k) (g : Pw a s j) : Pw a (mulF r s) (k + j) :=
  ⟨mul_right _ _, by rw [mul_m h.ri g.ri, h.mi, g.mi, ← Nat.mul_mod, Nat.pow_add]⟩
theorem Pw.sq {a r : Fe} {k : Nat} (h : Pw a r k) : Pw a (sqF r) (2 * k) :=
  ⟨sq_right _, by rw [sq_m h.ri, h.mi, ← Nat.mul_mod, ← Nat.pow_add, show k + k = 2 * k by omega]⟩
theorem Pw.sqN {a r : Fe} {k : Nat} (h : Pw a r k) (n : Nat) : Pw a (sqN n r) (2 ^ n * k) := by
  induction n with
  | zero => rw [Nat.pow_zero, Nat.one_mul]; exact h
  | succ n ih => have := ih.sq; rw [← Nat.mul_assoc, ← Nat.pow_succ'] at this; exact this
theorem Pw.step {a r s : Fe} {k j : Nat} (h : Pw a r k) (g : Pw a s j) (n : Nat) : Pw a (stepF n r s) (2 ^ n * k + j) := (h.sqN n).mul g
theorem Pw.to {a r : Fe} {k j : Nat} (h : Pw a r k) (e : k = j) : Pw a r j := e ▸ h
theorem ones_pw {a : Fe} (h : Right a) : Pw a (ones10 a) (2 ^ 250 - 1) := by
  have p1 : Pw a (ones1 a) 3 := ((Pw.one h).step (Pw.one h) 1).to (by decide)
  have p2 : Pw a (ones2 a) 15 := (p1.step p1 2).to (by decide)
  have p3 : Pw a (ones3 a) 31 := (p2.step (Pw.one h) 1).to (by decide)
  have p4 : Pw a (ones4 a) 1023 := (p3.step p3 5).to (by decide)
  have p5 : Pw a (ones5 a) (2 ^ 20 - 1) := (p4.step p4 10).to (by decide)
  have p6 : Pw a (ones6 a) (2 ^ 40 - 1) := (p5.step p5 20).to (by decide)
  have p7 : Pw a (ones7 a) (2 ^ 50 - 1) := (p6.step p4 10).to (by decide)
  have p8 : Pw a (ones8 a) (2 ^ 100 - 1) := (p7.step p7 50).to (by decide)
  have p9 : Pw a (ones9 a) (2 ^ 200 - 1) := (p8.step p8 100).to (by decide)
  exact (p9.step p7 50).to (by decide)
theorem inv_pw {a : Fe} (h : Right a) : Pw a (invF a) eInv := by
  have p := Pw.one h
  have e8 : Pw a (sqF (sqF (sqF a))) 8 := p.sq.sq.sq
  have e11 : Pw a (mulF (sqF (sqF (sqF a))) (mulF (sqF a) a)) 11 := e8.mul (p.sq.mul p)
  exact ((ones_pw h).step e11 5).to (by decide +kernel)
theorem inv_right (a : Fe) : Right (invF a) := mul_right _ _
theorem step_right (n : Nat) (p b : Fe) : Right (stepF n p b) := mul_right _ _
theorem guess_m {u v : Fe} (hu : Right u) (hv : Right v) : Fe.m (guessF u v) = gN (Fe.m u) (Fe.m v) % P := by
  have hc : Fe.m (mulF (sqF v) v) = Fe.m v ^ 3 % P := ((Pw.one hv).sq.mul (Pw.one hv)).mi
  have h7 : Fe.m (mulF (sqF (mulF (sqF v) v)) v) = Fe.m v ^ 7 % P := ((((Pw.one hv).sq.mul (Pw.one hv)).sq).mul (Pw.one hv)).mi
  have hb : Fe.m (mulF u (mulF (sqF (mulF (sqF v) v)) v)) = Fe.m u * Fe.m v ^ 7 % P := by rw [mul_m hu (mul_right _ _), h7, Nat.mul_mod_mod]
  have hr := mul_right u (mulF (sqF (mulF (sqF v) v)) v)
  have hpw : Fe.m (stepF 2 (ones10 (mulF u (mulF (sqF (mulF (sqF v) v)) v))) (mulF u (mulF (sqF (mulF (sqF v) v)) v))) = (Fe.m u * Fe.m v ^ 7) ^ eEighth % P := by
    rw [(((ones_pw hr).step (Pw.one hr) 2).to (show 2 ^ 2 * (2 ^ 250 - 1) + 1 = eEighth by decide +kernel)).mi, hb, ← Nat.pow_mod]
  unfold guessF
  rw [mul_m (mul_right _ _) (step_right _ _ _), mul_m hu (mul_right _ _), hc, hpw]
  unfold gN
  rw [Nat.mul_mod_mod, Nat.mod_mul_mod]
  exact cong_mul (by rw [Nat.mul_mod_mod]) rfl
theorem guess_right (u v : Fe) : Right (guessF u v) := mul_right _ _
theorem rootI_right : Right rootI := by constructor <;> decide
theorem rootI_m : Fe.m rootI = i0 := by decide +kernel
def fitsF (r u v : Fe) : Bool := decide (Fe.m (mulF (sqF r) v) = Fe.m u)
theorem fitsF_is {r u v : Fe} (hr : Right r) (hv : Right v) : fitsF r u v = true ↔ Fe.m r * Fe.m r * Fe.m v % P = Fe.m u := by
  unfold fitsF
  rw [decide_eq_true_iff, mul_m (sq_right _) hv, sq_m hr, Nat.mod_mul_mod]
def evenF (r : Fe) : Fe := if Fe.m r % 2 = 1 then negF r else r
def rootF (u v : Fe) : Fe × Bool :=
  if fitsF (guessF u v) u v = true then (evenF (guessF u v), true)
  else if fitsF (mulF (guessF u v) rootI) u v = true then (evenF (mulF (guessF u v) rootI), true)
  else (zeroF, false)
theorem neg_m {a : Fe} (h : Right a) : Fe.m (negF a) = (P - Fe.m a) % P := by
  have hz : Right zeroF := by constructor <;> decide
  have e : Fe.m zeroF = 0 := by decide +kernel
  unfold negF
  rw [sub_m hz h, e, Nat.zero_add]
theorem even_m {r : Fe} (h : Right r) : Right (evenF r) ∧ Fe.m (evenF r) % 2 = 0 ∧ ∀ v : Nat, Fe.m (evenF r) * Fe.m (evenF r) * v % P = Fe.m r * Fe.m r * v % P := by
  unfold evenF
  have hl := m_lt r
  by_cases ho : Fe.m r % 2 = 1
  · rw [if_pos ho]
    have hm := neg_m h
    rw [Nat.mod_eq_of_lt (by omega)] at hm
    refine ⟨neg_right _, ?_, fun v => ?_⟩
    · rw [hm]; unfold P at *; omega
    · rw [hm]
      obtain ⟨d, hd⟩ : ∃ d, P = Fe.m r + d := ⟨P - Fe.m r, by omega⟩
      have e : (P - Fe.m r) * (P - Fe.m r) * v + P * (2 * Fe.m r * v) = Fe.m r * Fe.m r * v + P * (P * v) := by
        rw [hd, Nat.add_sub_cancel_left]; grind
      have := congrArg (· % P) e
      simpa [Nat.add_mul_mod_self_left] using this
  · rw [if_neg ho]
    exact ⟨h, by omega, fun _ => rfl⟩
theorem root_says {u v : Fe} (hv : Right v) (h : (rootF u v).2 = true) : Right (rootF u v).1 ∧ Fe.m (rootF u v).1 % 2 = 0 ∧ Fe.m (rootF u v).1 * Fe.m (rootF u v).1 * Fe.m v % P = Fe.m u := by
  unfold rootF at *
  by_cases h1 : fitsF (guessF u v) u v = true
  · rw [if_pos h1] at h ⊢
    have := even_m (guess_right u v)
    exact ⟨this.1, this.2.1, (this.2.2 _).trans ((fitsF_is (guess_right u v) hv).1 h1)⟩
  · rw [if_neg h1] at h ⊢
    by_cases h2 : fitsF (mulF (guessF u v) rootI) u v = true
    · rw [if_pos h2] at h ⊢
      have := even_m (mul_right _ _ : Right (mulF (guessF u v) rootI))
      exact ⟨this.1, this.2.1, (this.2.2 _).trans ((fitsF_is (mul_right _ _) hv).1 h2)⟩
    · rw [if_neg h2] at h; cases h
theorem fitsN_mod {r u v : Nat} : FitsN (r % P) u v ↔ FitsN r u v := by
  unfold FitsN
  rw [show r % P * (r % P) * v % P = r * r * v % P from by rw [Nat.mul_mod, ← Nat.mul_mod r r, ← Nat.mul_mod]]
theorem root_true {u v : Fe} (hu : Right u) (hv : Right v) (h : FitsN (gN (Fe.m u) (Fe.m v)) (Fe.m u) (Fe.m v) ∨ FitsN (gN (Fe.m u) (Fe.m v) * i0) (Fe.m u) (Fe.m v)) : (rootF u v).2 = true := by
  have hul := Nat.mod_eq_of_lt (m_lt u)
  unfold rootF
  by_cases h1 : fitsF (guessF u v) u v = true
  · rw [if_pos h1]
  · rw [if_neg h1]
    by_cases h2 : fitsF (mulF (guessF u v) rootI) u v = true
    · rw [if_pos h2]
    · exfalso
      rcases h with h | h
      · apply h1
        rw [fitsF_is (guess_right u v) hv, guess_m hu hv]
        have h2 := fitsN_mod.2 h
        unfold FitsN at h2
        rw [hul] at h2
        exact h2
      · apply h2
        rw [fitsF_is (mul_right _ _) hv, mul_m (guess_right u v) rootI_right, guess_m hu hv, rootI_m, Nat.mod_mul_mod]
        have h3 := fitsN_mod.2 h
        unfold FitsN at h3
        rw [hul] at h3
        exact h3
theorem root_any_true {u v : Fe} {t : Nat} (hu : Right u) (hv : Right v) (h : t * t * Fe.m v % P = Fe.m u) : (rootF u v).2 = true :=
  root_true hu hv (Fe.fits_any (by rw [h, Nat.mod_eq_of_lt (m_lt u)]))
end Go.Proofs.YtleegbaigedebaaDoor

/- field: Root, Same and Zero, with the answer as a letter. -/
namespace Go.Proofs.YtleegbaigedebaaDoor
open Go.RowKit

theorem root_all (p q : Fe) (w0 : World) (hT : FTab w0) (okp : p.Ok) (okq : q.Ok) : Calls Tryd.prog 59 #[.agg #[.int .u64 p.x0, .int .u64 p.x1, .int .u64 p.x2, .int .u64 p.x3, .int .u64 p.x4], .agg #[.int .u64 q.x0, .int .u64 q.x1, .int .u64 q.x2, .int .u64 q.x3, .int .u64 q.x4]] w0 (RootOut (rootF p q).1 (rootF p q).2 w0) := by
  unfold rootF
  by_cases h1 : fitsF (guessF p q) p q = true
  · rw [if_pos h1]
    unfold evenF
    by_cases h3 : Fe.m (guessF p q) % 2 = 1
    · rw [if_pos h3]; exact root_to p q w0 hT okp okq h1 (decide_eq_true h3)
    · rw [if_neg h3]; exact root_te p q w0 hT okp okq h1 (decide_eq_false h3)
  · rw [if_neg h1]
    have h1' := (Bool.eq_false_iff).2 h1
    by_cases h2 : fitsF (Fe.mulF (guessF p q) rootI) p q = true
    · rw [if_pos h2]
      unfold evenF
      by_cases h3 : Fe.m (Fe.mulF (guessF p q) rootI) % 2 = 1
      · rw [if_pos h3]; exact root_fo p q w0 hT okp okq h1' h2 (decide_eq_true h3)
      · rw [if_neg h3]; exact root_fe p q w0 hT okp okq h1' h2 (decide_eq_false h3)
    · rw [if_neg h2]; exact root_no p q w0 hT okp okq h1' ((Bool.eq_false_iff).2 h2)
theorem same_val (p q : Fe) (b : Bool) (w : World) (okp : p.Ok) (okq : q.Ok) (hb : decide (Fe.m p = Fe.m q) = b) : Calls Tryd.prog 24 #[.agg #[.int .u64 p.x0, .int .u64 p.x1, .int .u64 p.x2, .int .u64 p.x3, .int .u64 p.x4], .agg #[.int .u64 q.x0, .int .u64 q.x1, .int .u64 q.x2, .int .u64 q.x3, .int .u64 q.x4]] w fun e w' => e = .returned (.bool b) ∧ w.grownBy w' none := by
  rw [← hb]; exact same_any p q w okp okq
theorem zero_val (p : Fe) (b : Bool) (w : World) (okp : p.Ok) (hb : decide (Fe.m p = 0) = b) : Calls Tryd.prog 32 #[.agg #[.int .u64 p.x0, .int .u64 p.x1, .int .u64 p.x2, .int .u64 p.x3, .int .u64 p.x4]] w fun e w' => e = .returned (.bool b) ∧ w.grownBy w' none := by
  rw [← hb]; exact zero_any p w okp
end Go.Proofs.YtleegbaigedebaaDoor

/- The pairs of the curve y y - x x = 1 + d x x y y, modulo 2^255 - 19, are a group by their sum. No program is named here. -/
namespace Go.Proofs.YtleegbaigedebaaDoor.Ed
open Num

abbrev F := Fin Fe.P
theorem P_ne : Fe.P ≠ 0 := by have := Fe.P_2; omega
instance nzP : NeZero Fe.P := ⟨P_ne⟩

section
variable {n : Nat} [NeZero n] (d x1 y1 x2 y2 x3 y3 i e : Fin n)
theorem id_assocx
    (e1 : y1*y1 - x1*x1 = 1 + d*(x1*x1*(y1*y1))) (e2 : y2*y2 - x2*x2 = 1 + d*(x2*x2*(y2*y2))) (e3 : y3*y3 - x3*x3 = 1 + d*(x3*x3*(y3*y3))) :
    ((x1*y2+x2*y1)*(1-d*(x1*x2*y1*y2))*y3 + (1+d*(x1*x2*y1*y2))*(y1*y2+x1*x2)*x3) * ((1+d*(x3*x2*y3*y2))*(1-d*(x3*x2*y3*y2)) + d*(x3*y2+x2*y3)*(y3*y2+x3*x2)*(x1*y1)) =
    ((x3*y2+x2*y3)*(1-d*(x3*x2*y3*y2))*y1 + (1+d*(x3*x2*y3*y2))*(y3*y2+x3*x2)*x1) * ((1+d*(x1*x2*y1*y2))*(1-d*(x1*x2*y1*y2)) + d*(x1*y2+x2*y1)*(y1*y2+x1*x2)*(x3*y3)) := by
  grind
theorem id_assocy
    (e1 : y1*y1 - x1*x1 = 1 + d*(x1*x1*(y1*y1))) (e2 : y2*y2 - x2*x2 = 1 + d*(x2*x2*(y2*y2))) (e3 : y3*y3 - x3*x3 = 1 + d*(x3*x3*(y3*y3))) :
    ((1+d*(x1*x2*y1*y2))*(y1*y2+x1*x2)*y3 + (x1*y2+x2*y1)*(1-d*(x1*x2*y1*y2))*x3) * ((1+d*(x3*x2*y3*y2))*(1-d*(x3*x2*y3*y2)) - d*(x3*y2+x2*y3)*(y3*y2+x3*x2)*(x1*y1)) =
    ((1+d*(x3*x2*y3*y2))*(y3*y2+x3*x2)*y1 + (x3*y2+x2*y3)*(1-d*(x3*x2*y3*y2))*x1) * ((1+d*(x1*x2*y1*y2))*(1-d*(x1*x2*y1*y2)) - d*(x1*y2+x2*y1)*(y1*y2+x1*x2)*(x3*y3)) := by
  grind
theorem id_on
    (e1 : y1*y1 - x1*x1 = 1 + d*(x1*x1*(y1*y1))) (e2 : y2*y2 - x2*x2 = 1 + d*(x2*x2*(y2*y2))) :
    (y1*y2+x1*x2)*(y1*y2+x1*x2)*((1+d*(x1*x2*y1*y2))*(1+d*(x1*x2*y1*y2))) - (x1*y2+x2*y1)*(x1*y2+x2*y1)*((1-d*(x1*x2*y1*y2))*(1-d*(x1*x2*y1*y2))) = (1-d*(x1*x2*y1*y2))*(1-d*(x1*x2*y1*y2))*((1+d*(x1*x2*y1*y2))*(1+d*(x1*x2*y1*y2))) + d*((x1*y2+x2*y1)*(x1*y2+x2*y1)*((y1*y2+x1*x2)*(y1*y2+x1*x2))) := by
  grind
theorem id_sq1 (hi : i*i = -1) (he : e = d*(x1*x2*y1*y2)) (h1 : e*e = 1)
    (e1 : y1*y1 - x1*x1 = 1 + d*(x1*x1*(y1*y1))) (e2 : y2*y2 - x2*x2 = 1 + d*(x2*x2*(y2*y2))) :
    (i*x1 + e*y1)*(i*x1+e*y1) = d*((x1*y1*(i*x2+y2))*(x1*y1*(i*x2+y2))) := by
  grind
theorem id_sq2 (hi : i*i = -1) (he : e = d*(x1*x2*y1*y2)) (h1 : e*e = 1)
    (e1 : y1*y1 - x1*x1 = 1 + d*(x1*x1*(y1*y1))) (e2 : y2*y2 - x2*x2 = 1 + d*(x2*x2*(y2*y2))) :
    (i*x1 - e*y1)*(i*x1-e*y1) = d*((x1*y1*(i*x2-y2))*(x1*y1*(i*x2-y2))) := by
  grind
end

theorem id1 : ∀ {n : Nat} [NeZero n] (a c : Fin n), (a * c) * (a * c) = a * a * (c * c) := by intros; grind
theorem id2 : ∀ {n : Nat} [NeZero n] (d b c : Fin n), b * c = 1 → d * (b * b) * (c * c) = d := by intros; grind
theorem id3 : ∀ {n : Nat} [NeZero n] (d i a b c e : Fin n), i * i = -1 → a * b * (i * c) = 0 → d * (a * c * b * e) = 0 := by intros; grind
theorem id4 : ∀ {n : Nat} [NeZero n] (e : Fin n), 1 + e = 0 → e * e = 1 := by intros; grind
theorem id5 : ∀ {n : Nat} [NeZero n] (e : Fin n), 1 - e = 0 → e * e = 1 := by intros; grind
theorem id6 : ∀ {n : Nat} [NeZero n] (f g a b x y t : Fin n), g * a = x → f * b = y → y*y*(g*g) - x*x*(f*f) = f*f*(g*g) + t*(x*x*(y*y)) → (f*f*(g*g)) * (b*b - a*a) = (f*f*(g*g)) * (1 + t*(a*a*(b*b))) := by intros; grind
theorem id7 : ∀ {n : Nat} [NeZero n] (d : Fin n), (1 : Fin n)*1 - 0*0 = 1 + d*(0*0*(1*1)) := by intros; grind
theorem id8 : ∀ {n : Nat} [NeZero n] (d x y : Fin n), y*y - x*x = 1 + d*(x*x*(y*y)) → y*y - -x* -x = 1 + d*(-x * -x*(y*y)) := by intros; grind
theorem id9 : ∀ {n : Nat} [NeZero n] (d a b c e : Fin n), d*(a*b*c*e) = d*(b*a*e*c) := by intros; grind
theorem id10 : ∀ {n : Nat} [NeZero n] (a b c e : Fin n), a*b + c*e = c*e + a*b := by intros; grind
theorem id11 : ∀ {n : Nat} [NeZero n] (a b c e : Fin n), a*b + c*e = b*a + e*c := by intros; grind
theorem id12 : ∀ {n : Nat} [NeZero n] (d b c e : Fin n), d*(0*b*c*e) = 0 := by intros; grind
theorem id13 : ∀ {n : Nat} [NeZero n] (a x y : Fin n), (1 + 0) * a = 0 * y + x * 1 → a = x := by intros; grind
theorem id14 : ∀ {n : Nat} [NeZero n] (a x y : Fin n), (1 - 0) * a = 1 * y + 0 * x → a = y := by intros; grind
theorem id15 : ∀ {n : Nat} [NeZero n] (t x y : Fin n), x*y + -x*y = (1 + t) * 0 := by intros; grind
theorem id16 : ∀ {n : Nat} [NeZero n] (d x y : Fin n), y*y - x*x = 1 + d*(x*x*(y*y)) → y*y + x* -x = (1 - d*(x* -x*y*y)) * 1 := by intros; grind

theorem mul_zero {x y : F} (h : x * y = 0) : x = 0 ∨ y = 0 := by
  have h1 : x.val * y.val % Fe.P = 0 := by have := congrArg Fin.val h; rwa [Fin.val_mul] at this
  rcases Fe.P_prime.dvd_mul (Nat.dvd_of_mod_eq_zero h1) with k | k
  · exact Or.inl (Fin.ext (by have := Nat.mod_eq_zero_of_dvd k; rwa [Nat.mod_eq_of_lt x.isLt] at this))
  · exact Or.inr (Fin.ext (by have := Nat.mod_eq_zero_of_dvd k; rwa [Nat.mod_eq_of_lt y.isLt] at this))
theorem mul_ne {x y : F} (hx : x ≠ 0) (hy : y ≠ 0) : x * y ≠ 0 := fun h => (mul_zero h).elim hx hy
theorem cancel_of {n : Nat} [NeZero n] {a x y : Fin n} (h : a * x = a * y) : a * (x - y) = 0 := by grind
theorem sub_zero_of {n : Nat} [NeZero n] {x y : Fin n} (h : x - y = 0) : x = y := by grind
theorem cancel {a x y : F} (ha : a ≠ 0) (h : a * x = a * y) : x = y :=
  sub_zero_of ((mul_zero (cancel_of h)).resolve_left ha)
def inv (x : F) : F := ⟨x.val ^ Fe.eInv % Fe.P, Nat.mod_lt _ (Nat.pos_of_ne_zero P_ne)⟩
theorem inv_mul {x : F} (h : x ≠ 0) : x * inv x = 1 := by
  apply Fin.ext
  rw [Fin.val_mul]
  have h1 := Fe.inv_is x.val
  rw [if_neg (by rw [Nat.mod_eq_of_lt x.isLt]; exact fun e => h (Fin.ext e))] at h1
  exact h1
theorem inv_val (x : F) : (inv x).val = x.val ^ Fe.eInv % Fe.P := rfl
theorem zero_val : (0 : F).val = 0 := by decide +kernel
theorem of_div {x a : F} (hx : x ≠ 0) : x * (a * inv x) = a := by
  have := inv_mul hx
  rw [Fin.mul_comm a, ← Fin.mul_assoc, this, Fin.one_mul]
theorem one_ne : (1 : F) ≠ 0 := fun h => absurd (congrArg Fin.val h) (by decide +kernel)
theorem two_ne : (2 : F) ≠ 0 := fun h => absurd (congrArg Fin.val h) (by decide +kernel)

def dN : Nat := 37095705934669439343138083508754565189542113879843219016388785533085940283555
def d : F := ⟨dN, by decide +kernel⟩
theorem d_is : d * 121666 = -121665 := by decide +kernel
theorem d_half : dN ^ Fe.eHalf % Fe.P = Fe.P - 1 := pow_is 256 (by decide +kernel) (by decide +kernel)
theorem nosq {a b : F} (h : a * a = d * (b * b)) : b = 0 := by
  by_cases hb : b = 0
  · exact hb
  exfalso
  have hc : (a * inv b) * (a * inv b) = d := by
    have h1 := inv_mul hb
    have e : (a * inv b) * (a * inv b) = a * a * (inv b * inv b) := by
      exact id1 a (inv b)
    rw [e, h]
    have g := @id2
    exact g d b (inv b) h1
  have h1 : (a * inv b).val * (a * inv b).val % Fe.P = dN % Fe.P := by
    have := congrArg Fin.val hc
    rw [Fin.val_mul] at this
    rw [this]
    exact (Nat.mod_eq_of_lt d.isLt).symm
  have h2 := Fe.square_half (x := dN) (s := (a * inv b).val) (by decide +kernel) h1
  rw [d_half] at h2
  exact absurd h2 (by decide +kernel)
def im : F := ⟨Fe.i0, by decide +kernel⟩
theorem im_is : im * im = -1 := by decide +kernel

structure Pr where
  x : F
  y : F
def On (p : Pr) : Prop := p.y*p.y - p.x*p.x = 1 + d*(p.x*p.x*(p.y*p.y))
def tt (p q : Pr) : F := d*(p.x*q.x*p.y*q.y)
def add (p q : Pr) : Pr := ⟨(p.x*q.y+q.x*p.y) * inv (1 + tt p q), (p.y*q.y+p.x*q.x) * inv (1 - tt p q)⟩
def zero : Pr := ⟨0, 1⟩
def neg (p : Pr) : Pr := ⟨-p.x, p.y⟩
theorem ext {p q : Pr} (hx : p.x = q.x) (hy : p.y = q.y) : p = q := by cases p; cases q; simp_all

theorem g_b {n : Nat} [NeZero n] {c u v : Fin n} (h1 : c * (u + v) = 0) (h2 : c * (u - v) = 0) : 2 * (c * u) = 0 := by grind
theorem no_unit {p q : Pr} (hp : On p) (hq : On q) (h : tt p q * tt p q = 1) : False := by
  have s1 := nosq (id_sq1 d p.x p.y q.x q.y im (tt p q) im_is rfl h hp hq)
  have s2 := nosq (id_sq2 d p.x p.y q.x q.y im (tt p q) im_is rfl h hp hq)
  have s3 := (mul_zero (g_b s1 s2)).resolve_left two_ne
  have z : tt p q = 0 := by
    have g := @id3
    exact g d im p.x p.y q.x q.y im_is s3
  rw [z, Fin.zero_mul] at h
  exact one_ne h.symm
theorem plus_ne {p q : Pr} (hp : On p) (hq : On q) : 1 + tt p q ≠ 0 := fun h => by
  have g := @id4
  exact no_unit hp hq (g _ h)
theorem minus_ne {p q : Pr} (hp : On p) (hq : On q) : 1 - tt p q ≠ 0 := fun h => by
  have g := @id5
  exact no_unit hp hq (g _ h)
theorem add_x {p q : Pr} (hp : On p) (hq : On q) : (1 + tt p q) * (add p q).x = p.x*q.y+q.x*p.y := of_div (plus_ne hp hq)
theorem add_y {p q : Pr} (hp : On p) (hq : On q) : (1 - tt p q) * (add p q).y = p.y*q.y+p.x*q.x := of_div (minus_ne hp hq)
theorem add_on {p q : Pr} (hp : On p) (hq : On q) : On (add p q) := by
  have h1 := add_x hp hq
  have h2 := add_y hp hq
  have h3 := id_on d p.x p.y q.x q.y hp hq
  have n1 := plus_ne hp hq
  have n2 := minus_ne hp hq
  unfold On
  generalize (add p q).x = a at *
  generalize (add p q).y = b at *
  have g := @id6
  exact cancel (mul_ne (mul_ne n2 n2) (mul_ne n1 n1)) (g (1 - tt p q) (1 + tt p q) a b _ _ d h1 h2 h3)
theorem zero_on : On zero := by
  have g := @id7
  exact g d
theorem neg_on {p : Pr} (hp : On p) : On (neg p) := by
  have g := @id8
  exact g d p.x p.y hp
theorem tt_comm (p q : Pr) : tt p q = tt q p := by
  have g := @id9
  exact g d p.x q.x p.y q.y
theorem add_comm (p q : Pr) : add p q = add q p := by
  have g := @id10
  have g2 := @id11
  apply ext
  · unfold add; dsimp only; rw [tt_comm p q, g]
  · unfold add; dsimp only; rw [tt_comm p q, g2]
theorem tt_zero (p : Pr) : tt zero p = 0 := by
  have g := @id12
  exact g d p.x 1 p.y
theorem zero_add {p : Pr} (hp : On p) : add zero p = p := by
  have h1 := add_x zero_on hp
  have h2 := add_y zero_on hp
  rw [tt_zero] at h1 h2
  have g1 := @id13
  have g2 := @id14
  exact ext (g1 _ _ _ h1) (g2 _ _ _ h2)
theorem add_zero {p : Pr} (hp : On p) : add p zero = p := by rw [add_comm, zero_add hp]
theorem add_neg {p : Pr} (hp : On p) : add p (neg p) = zero := by
  have h1 := add_x hp (neg_on hp)
  have h2 := add_y hp (neg_on hp)
  have n1 := plus_ne hp (neg_on hp)
  have n2 := minus_ne hp (neg_on hp)
  have hp' : p.y*p.y - p.x*p.x = 1 + d*(p.x*p.x*(p.y*p.y)) := hp
  apply ext
  · apply cancel n1
    rw [h1]
    have g := @id15
    exact g _ _ _
  · apply cancel n2
    rw [h2]
    have g := @id16
    exact g d p.x p.y hp'
theorem id_x {n : Nat} [NeZero n] (d f g a b A H x3 y3 u : Fin n) (ha : g * a = A) (hb : f * b = H) (hu : (1 + d*(a*x3*b*y3)) * u = a*y3 + x3*b) : (g*f + d*A*H*(x3*y3)) * u = A*f*y3 + g*H*x3 := by grind
theorem id_y {n : Nat} [NeZero n] (d f g a b A H x3 y3 u : Fin n) (ha : g * a = A) (hb : f * b = H) (hu : (1 - d*(a*x3*b*y3)) * u = b*y3 + a*x3) : (g*f - d*A*H*(x3*y3)) * u = g*H*y3 + A*f*x3 := by grind
theorem id_nx {n : Nat} [NeZero n] (d f g a b A H x3 y3 : Fin n) (ha : g * a = A) (hb : f * b = H) : g*f + d*A*H*(x3*y3) = g * f * (1 + d*(a*x3*b*y3)) := by grind
theorem id_ny {n : Nat} [NeZero n] (d f g a b A H x3 y3 : Fin n) (ha : g * a = A) (hb : f * b = H) : g*f - d*A*H*(x3*y3) = g * f * (1 - d*(a*x3*b*y3)) := by grind
theorem id_end {n : Nat} [NeZero n] {G1 G2 A1 A2 u v : Fin n} (h1 : G1 * u = A1) (h2 : G2 * v = A2) (h : A1 * G2 = A2 * G1) : (G1 * G2) * u = (G1 * G2) * v := by grind
theorem add3 {p q r : Pr} (hp : On p) (hq : On q) (hr : On r) :
    ((1 + tt p q) * (1 - tt p q) + d*(p.x*q.y+q.x*p.y)*(p.y*q.y+p.x*q.x)*(r.x*r.y)) * (add (add p q) r).x = (p.x*q.y+q.x*p.y)*(1 - tt p q)*r.y + (1 + tt p q)*(p.y*q.y+p.x*q.x)*r.x ∧
    ((1 + tt p q) * (1 - tt p q) - d*(p.x*q.y+q.x*p.y)*(p.y*q.y+p.x*q.x)*(r.x*r.y)) * (add (add p q) r).y = (1 + tt p q)*(p.y*q.y+p.x*q.x)*r.y + (p.x*q.y+q.x*p.y)*(1 - tt p q)*r.x ∧
    (1 + tt p q) * (1 - tt p q) + d*(p.x*q.y+q.x*p.y)*(p.y*q.y+p.x*q.x)*(r.x*r.y) ≠ 0 ∧ (1 + tt p q) * (1 - tt p q) - d*(p.x*q.y+q.x*p.y)*(p.y*q.y+p.x*q.x)*(r.x*r.y) ≠ 0 := by
  have hs := add_on hp hq
  have h1 := add_x hp hq
  have h2 := add_y hp hq
  have n1 := plus_ne hp hq
  have n2 := minus_ne hp hq
  refine ⟨id_x d _ _ _ _ _ _ r.x r.y _ h1 h2 (add_x hs hr), id_y d _ _ _ _ _ _ r.x r.y _ h1 h2 (add_y hs hr), ?_, ?_⟩
  · rw [id_nx d _ _ _ _ _ _ r.x r.y h1 h2]
    exact mul_ne (mul_ne n1 n2) (plus_ne hs hr)
  · rw [id_ny d _ _ _ _ _ _ r.x r.y h1 h2]
    exact mul_ne (mul_ne n1 n2) (minus_ne hs hr)
theorem add_assoc {p q r : Pr} (hp : On p) (hq : On q) (hr : On r) : add (add p q) r = add p (add q r) := by
  rw [add_comm p (add q r), add_comm q r]
  obtain ⟨a1, a2, a3, a4⟩ := add3 hp hq hr
  obtain ⟨b1, b2, b3, b4⟩ := add3 hr hq hp
  apply ext
  · exact cancel (mul_ne a3 b3) (id_end a1 b1 (id_assocx d p.x p.y q.x q.y r.x r.y hp hq hr))
  · exact cancel (mul_ne a4 b4) (id_end a2 b2 (id_assocy d p.x p.y q.x q.y r.x r.y hp hq hr))

def nmul : Nat → Pr → Pr
  | 0, _ => zero
  | k + 1, p => add (nmul k p) p
theorem nmul_on {p : Pr} (hp : On p) : ∀ k, On (nmul k p)
  | 0 => zero_on
  | k + 1 => add_on (nmul_on hp k) hp
theorem nmul_one {p : Pr} (hp : On p) : nmul 1 p = p := zero_add hp
theorem nmul_add {p : Pr} (hp : On p) (a : Nat) : ∀ b, nmul (a + b) p = add (nmul a p) (nmul b p)
  | 0 => (add_zero (nmul_on hp a)).symm
  | b + 1 => by
    show add (nmul (a + b) p) p = add (nmul a p) (add (nmul b p) p)
    rw [nmul_add hp a b, add_assoc (nmul_on hp a) (nmul_on hp b) hp]
theorem nmul_two {p : Pr} (hp : On p) : nmul 2 p = add p p := by
  show add (nmul 1 p) p = _
  rw [nmul_one hp]
theorem nmul_mul {p : Pr} (hp : On p) (a : Nat) : ∀ b, nmul (a * b) p = nmul b (nmul a p)
  | 0 => rfl
  | b + 1 => by
    rw [Nat.mul_succ, nmul_add hp, nmul_mul hp a b]
    rfl
theorem nmul_zero : ∀ k, nmul k zero = zero
  | 0 => rfl
  | k + 1 => by
    show add (nmul k zero) zero = _
    rw [nmul_zero k, zero_add zero_on]
theorem add4 {a b c e : Pr} (ha : On a) (hb : On b) (hc : On c) (he : On e) : add (add a b) (add c e) = add (add a c) (add b e) := by
  rw [add_assoc ha hb (add_on hc he), ← add_assoc hb hc he, add_comm b c, add_assoc hc hb he, ← add_assoc ha hc (add_on hb he)]
theorem nmul_sum {p q : Pr} (hp : On p) (hq : On q) : ∀ k, nmul k (add p q) = add (nmul k p) (nmul k q)
  | 0 => (zero_add zero_on).symm
  | k + 1 => by
    show add (nmul k (add p q)) (add p q) = add (add (nmul k p) p) (add (nmul k q) q)
    rw [nmul_sum hp hq k, add4 (nmul_on hp k) (nmul_on hq k) hp hq]
end Go.Proofs.YtleegbaigedebaaDoor.Ed

/- Points of four elements, sums and addends: what they stand for. No program is named here. -/
namespace Go.Proofs.YtleegbaigedebaaDoor.Ed
open Num

def phi (a : Fe) : F := ⟨Fe.m a, Fe.m_lt a⟩
section
variable {a b : Fe}
theorem phi_mul (ha : a.Right) (hb : b.Right) : phi (Fe.mulF a b) = phi a * phi b := Fin.ext (by rw [Fin.val_mul]; exact Fe.mul_m ha hb)
theorem phi_sq (ha : a.Right) : phi (Fe.sqF a) = phi a * phi a := Fin.ext (by rw [Fin.val_mul]; exact Fe.sq_m ha)
theorem phi_add (ha : a.Right) (hb : b.Right) : phi (Fe.addF a b) = phi a + phi b := Fin.ext (by rw [Fin.val_add]; exact Fe.add_m ha hb)
theorem zero_right' : Fe.Right Fe.zeroF := by constructor <;> decide
theorem one_right' : Fe.Right Fe.oneF := by constructor <;> decide
theorem phi_zero : phi Fe.zeroF = 0 := by apply Fin.ext; rw [zero_val]; show Fe.m Fe.zeroF = 0; decide +kernel
theorem phi_one : phi Fe.oneF = 1 := by decide +kernel
theorem sub_of {n : Nat} [NeZero n] {x y z : Fin n} (h : x + y = z) : x = z - y := by grind
theorem phi_sub (ha : a.Right) (hb : b.Right) : phi (Fe.subF a b) = phi a - phi b := by
  apply sub_of
  apply Fin.ext
  rw [Fin.val_add]
  show (Fe.m (Fe.subF a b) + Fe.m b) % Fe.P = Fe.m a
  have h1 := Fe.m_lt a
  have h2 := Fe.m_lt b
  rw [Fe.sub_m ha hb, Nat.add_mod, Nat.mod_mod, ← Nat.add_mod, show Fe.m a + (Fe.P - Fe.m b) + Fe.m b = Fe.m a + Fe.P by omega, Nat.add_mod_right, Nat.mod_eq_of_lt h1]
theorem phi_neg (ha : a.Right) : phi (Fe.negF a) = - phi a := by
  unfold Fe.negF
  rw [phi_sub zero_right' ha, phi_zero]
  exact idneg _
where idneg {n : Nat} [NeZero n] (x : Fin n) : 0 - x = - x := by grind
theorem phi_same : Fe.m a = Fe.m b ↔ phi a = phi b := ⟨fun h => Fin.ext h, fun h => congrArg Fin.val h⟩
end

structure Pt where
  X : Fe
  Y : Fe
  Z : Fe
  T : Fe
structure Sm where
  X : Fe
  Y : Fe
  Z : Fe
  T : Fe
  A : Fe
  B : Fe
structure Ad where
  m : Fe
  l : Fe
  z : Fe
  t : Fe
structure PtIs (s : Pt) (p : Pr) : Prop where
  rX : s.X.Right
  rY : s.Y.Right
  rZ : s.Z.Right
  rT : s.T.Right
  on : On p
  z : phi s.Z ≠ 0
  x : phi s.X = phi s.Z * p.x
  y : phi s.Y = phi s.Z * p.y
  t : phi s.T = phi s.Z * (p.x * p.y)
structure SmIs (s : Sm) (p : Pr) : Prop where
  rX : s.X.Right
  rY : s.Y.Right
  rZ : s.Z.Right
  rT : s.T.Right
  rA : s.A.Right
  rB : s.B.Right
  on : On p
  z : phi s.Z ≠ 0
  x : phi s.X = phi s.Z * p.x
  y : phi s.Y = phi s.Z * p.y
  t : phi s.A * phi s.B = phi s.Z * (p.x * p.y)
structure AdIs (s : Ad) (p : Pr) : Prop where
  rm : s.m.Right
  rl : s.l.Right
  rz : s.z.Right
  rt : s.t.Right
  on : On p
  is : ∃ z : F, z ≠ 0 ∧ phi s.m = z * (p.y + p.x) ∧ phi s.l = z * (p.y - p.x) ∧ phi s.z = z + z ∧ phi s.t = d * (z * (p.x * p.y) + z * (p.x * p.y))
def sumF (s : Pt) : Sm := ⟨s.X, s.Y, s.Z, s.T, s.T, Fe.oneF⟩
def pointF (s : Sm) : Pt := ⟨s.X, s.Y, s.Z, Fe.mulF s.A s.B⟩
def dF : Fe := ⟨0x34dca135978a3, 0x1a8283b156ebd, 0x5e7a26001c029, 0x739c663a03cbb, 0x52036cee2b6ff⟩
theorem dF_right : dF.Right := by constructor <;> decide
theorem phi_d : phi dF = d := by decide +kernel
def adF (s : Pt) : Ad := ⟨Fe.addF s.Y s.X, Fe.subF s.Y s.X, Fe.addF s.Z s.Z, Fe.mulF dF (Fe.addF s.T s.T)⟩
def bF (T a u b v : Fe) : Sm := ⟨Fe.mulF a v, Fe.mulF b u, Fe.mulF u v, T, a, b⟩
def plusF (s : Sm) (q : Ad) : Sm :=
  bF (Fe.mulF s.A s.B) (Fe.subF (Fe.mulF (Fe.addF s.Y s.X) q.m) (Fe.mulF (Fe.subF s.Y s.X) q.l)) (Fe.addF (Fe.mulF s.Z q.z) (Fe.mulF (Fe.mulF s.A s.B) q.t))
    (Fe.addF (Fe.mulF (Fe.addF s.Y s.X) q.m) (Fe.mulF (Fe.subF s.Y s.X) q.l)) (Fe.subF (Fe.mulF s.Z q.z) (Fe.mulF (Fe.mulF s.A s.B) q.t))
def twiceF (s : Sm) : Sm :=
  bF s.T (Fe.addF (Fe.mulF s.X s.Y) (Fe.mulF s.X s.Y)) (Fe.subF (Fe.sqF s.Y) (Fe.sqF s.X)) (Fe.addF (Fe.sqF s.Y) (Fe.sqF s.X)) (Fe.subF (Fe.addF (Fe.sqF s.Z) (Fe.sqF s.Z)) (Fe.subF (Fe.sqF s.Y) (Fe.sqF s.X)))
def negP (s : Pt) : Pt := ⟨Fe.negF s.X, s.Y, s.Z, Fe.negF s.T⟩
def zeroP : Pt := ⟨Fe.zeroF, Fe.oneF, Fe.oneF, Fe.zeroF⟩

section
variable {n : Nat} [NeZero n]
theorem e_t (Z A : Fin n) (x y o : Fin n) (h : A = Z * (x * y)) (ho : o = 1) : A * o = Z * (x * y) := by grind
theorem e_b (a b u v x y : Fin n) (ha : u * x = a) (hb : v * y = b) : a * v = u * v * x ∧ b * u = u * v * y ∧ a * b = u * v * (x * y) := by grind
theorem e_1 (X Y Z T x y m l z' t d x' y' k : Fin n) (hX : X = Z * x) (hY : Y = Z * y) (hT : T = Z * (x * y)) (hm : m = k * (y' + x')) (hl : l = k * (y' - x')) (hz : z' = k + k) (ht : t = d * (k * (x' * y') + k * (x' * y'))) (X3 : Fin n) (h : (1 + d*(x*x'*y*y')) * X3 = x*y' + x'*y) :
    (Z * z' + T * t) * X3 = (Y + X) * m - (Y - X) * l := by grind
theorem e_2 (X Y Z T x y m l z' t d x' y' k : Fin n) (hX : X = Z * x) (hY : Y = Z * y) (hT : T = Z * (x * y)) (hm : m = k * (y' + x')) (hl : l = k * (y' - x')) (hz : z' = k + k) (ht : t = d * (k * (x' * y') + k * (x' * y'))) (Y3 : Fin n) (h : (1 - d*(x*x'*y*y')) * Y3 = y*y' + x*x') :
    (Z * z' - T * t) * Y3 = (Y + X) * m + (Y - X) * l := by grind
theorem e_3 (Z T x y z' t d x' y' k : Fin n) (hT : T = Z * (x * y)) (hz : z' = k + k) (ht : t = d * (k * (x' * y') + k * (x' * y'))) :
    Z * z' + T * t = 2 * (Z * (k * (1 + d*(x*x'*y*y')))) ∧ Z * z' - T * t = 2 * (Z * (k * (1 - d*(x*x'*y*y')))) := by grind
theorem e_4a (X Y Z x y d : Fin n) (hX : X = Z * x) (hY : Y = Z * y) (on : y*y - x*x = 1 + d*(x*x*(y*y))) : Y * Y - X * X = Z * (Z * (1 + d*(x*x*y*y))) ∧ Z * Z + Z * Z - (Y * Y - X * X) = Z * (Z * (1 - d*(x*x*y*y))) := by grind
theorem e_4b (X Y Z x y u X3 : Fin n) (hX : X = Z * x) (hY : Y = Z * y) (h : u * X3 = x*y + x*y) : (Z * (Z * u)) * X3 = X * Y + X * Y := by grind
theorem e_4c (X Y Z x y u X3 : Fin n) (hX : X = Z * x) (hY : Y = Z * y) (h : u * X3 = y*y + x*x) : (Z * (Z * u)) * X3 = Y * Y + X * X := by grind
theorem e_4 (X Y Z x y d X3 Y3 : Fin n) (hX : X = Z * x) (hY : Y = Z * y) (on : y*y - x*x = 1 + d*(x*x*(y*y))) (h : (1 + d*(x*x*y*y)) * X3 = x*y + x*y) (h' : (1 - d*(x*x*y*y)) * Y3 = y*y + x*x) :
    (Y * Y - X * X) * X3 = X * Y + X * Y ∧ (Z * Z + Z * Z - (Y * Y - X * X)) * Y3 = Y * Y + X * X ∧ Y * Y - X * X = Z * (Z * (1 + d*(x*x*y*y))) ∧ Z * Z + Z * Z - (Y * Y - X * X) = Z * (Z * (1 - d*(x*x*y*y))) := by
  obtain ⟨a, b⟩ := e_4a X Y Z x y d hX hY on
  refine ⟨?_, ?_, a, b⟩
  · rw [a]; exact e_4b _ _ _ _ _ _ _ hX hY h
  · rw [b]; exact e_4c _ _ _ _ _ _ _ hX hY h'
theorem e_5 (X Z x : Fin n) (h : X = Z * x) : - X = Z * - x := by grind
theorem e_6 (X Z x y : Fin n) (h : X = Z * (x * y)) : - X = Z * (- x * y) := by grind
theorem e_7 : (0 : Fin n) = 1 * 0 ∧ (1 : Fin n) = 1 * 1 ∧ (0 : Fin n) = 1 * (0 * 1) := by grind
theorem e_8 (Y X z x y : Fin n) (hY : Y = z * y) (hX : X = z * x) : Y + X = z * (y + x) ∧ Y - X = z * (y - x) := by grind
theorem e_9 {X Z x Z' x' X' : Fin n} (hX : X = Z * x) (hX' : X' = Z' * x') : X * Z' = X' * Z ↔ (Z * Z') * x = (Z * Z') * x' := by constructor <;> intro h <;> grind
end
theorem sumIs {s : Pt} {p : Pr} (h : PtIs s p) : SmIs (sumF s) p :=
  ⟨h.rX, h.rY, h.rZ, h.rT, h.rT, one_right', h.on, h.z, h.x, h.y, e_t (phi s.Z) _ _ _ _ h.t phi_one⟩
theorem pointIs {s : Sm} {p : Pr} (h : SmIs s p) : PtIs (pointF s) p :=
  ⟨h.rX, h.rY, h.rZ, Fe.mul_right _ _, h.on, h.z, h.x, h.y, by show phi (Fe.mulF s.A s.B) = _; rw [phi_mul h.rA h.rB]; exact h.t⟩
theorem adIs {s : Pt} {p : Pr} (h : PtIs s p) : AdIs (adF s) p := by
  refine ⟨Fe.add_right _ _, Fe.sub_right _ _, Fe.add_right _ _, Fe.mul_right _ _, h.on, phi s.Z, h.z, ?_, ?_, ?_, ?_⟩
  · show phi (Fe.addF s.Y s.X) = _
    rw [phi_add h.rY h.rX]; exact (e_8 _ _ _ _ _ h.y h.x).1
  · show phi (Fe.subF s.Y s.X) = _
    rw [phi_sub h.rY h.rX]; exact (e_8 _ _ _ _ _ h.y h.x).2
  · show phi (Fe.addF s.Z s.Z) = _
    rw [phi_add h.rZ h.rZ]
  · show phi (Fe.mulF dF (Fe.addF s.T s.T)) = _
    rw [phi_mul dF_right (Fe.add_right _ _), phi_add h.rT h.rT, phi_d, h.t]
theorem bIs {T a u b v : Fe} {p : Pr} (rT : T.Right) (ra : a.Right) (ru : u.Right) (rb : b.Right) (rv : v.Right) (on : On p) (nu : phi u ≠ 0) (nv : phi v ≠ 0) (ha : phi u * p.x = phi a) (hb : phi v * p.y = phi b) : SmIs (bF T a u b v) p := by
  obtain ⟨h1, h2, h3⟩ := e_b _ _ _ _ _ _ ha hb
  refine ⟨Fe.mul_right _ _, Fe.mul_right _ _, Fe.mul_right _ _, rT, ra, rb, on, ?_, ?_, ?_, ?_⟩
  · show phi (Fe.mulF u v) ≠ 0
    rw [phi_mul ru rv]; exact mul_ne nu nv
  · show phi (Fe.mulF a v) = phi (Fe.mulF u v) * _
    rw [phi_mul ru rv, phi_mul ra rv]; exact h1
  · show phi (Fe.mulF b u) = phi (Fe.mulF u v) * _
    rw [phi_mul ru rv, phi_mul rb ru]; exact h2
  · show phi a * phi b = phi (Fe.mulF u v) * _
    rw [phi_mul ru rv]; exact h3
theorem plusIs {s : Sm} {q : Ad} {p r : Pr} (h : SmIs s p) (k : AdIs q r) : SmIs (plusF s q) (add p r) := by
  obtain ⟨z, hz, hm, hl, hzz, ht⟩ := k.is
  have rT := Fe.mul_right s.A s.B
  have hT : phi (Fe.mulF s.A s.B) = phi s.Z * (p.x * p.y) := by rw [phi_mul h.rA h.rB]; exact h.t
  have n3 := e_3 (phi s.Z) _ _ _ _ _ d _ _ _ hT hzz ht
  have pu : phi (Fe.addF (Fe.mulF s.Z q.z) (Fe.mulF (Fe.mulF s.A s.B) q.t)) = phi s.Z * phi q.z + phi (Fe.mulF s.A s.B) * phi q.t := by
    rw [phi_add (Fe.mul_right _ _) (Fe.mul_right _ _), phi_mul h.rZ k.rz, phi_mul rT k.rt]
  have pv : phi (Fe.subF (Fe.mulF s.Z q.z) (Fe.mulF (Fe.mulF s.A s.B) q.t)) = phi s.Z * phi q.z - phi (Fe.mulF s.A s.B) * phi q.t := by
    rw [phi_sub (Fe.mul_right _ _) (Fe.mul_right _ _), phi_mul h.rZ k.rz, phi_mul rT k.rt]
  have pm : phi (Fe.mulF (Fe.addF s.Y s.X) q.m) = (phi s.Y + phi s.X) * phi q.m := by rw [phi_mul (Fe.add_right _ _) k.rm, phi_add h.rY h.rX]
  have pl : phi (Fe.mulF (Fe.subF s.Y s.X) q.l) = (phi s.Y - phi s.X) * phi q.l := by rw [phi_mul (Fe.sub_right _ _) k.rl, phi_sub h.rY h.rX]
  refine bIs rT (Fe.sub_right _ _) (Fe.add_right _ _) (Fe.add_right _ _) (Fe.sub_right _ _) (add_on h.on k.on) ?_ ?_ ?_ ?_
  · rw [pu, n3.1]; exact mul_ne two_ne (mul_ne h.z (mul_ne hz (plus_ne h.on k.on)))
  · rw [pv, n3.2]; exact mul_ne two_ne (mul_ne h.z (mul_ne hz (minus_ne h.on k.on)))
  · rw [pu, phi_sub (Fe.mul_right _ _) (Fe.mul_right _ _), pm, pl]
    exact e_1 _ _ _ _ _ _ _ _ _ _ d _ _ _ h.x h.y hT hm hl hzz ht _ (add_x h.on k.on)
  · rw [pv, phi_add (Fe.mul_right _ _) (Fe.mul_right _ _), pm, pl]
    exact e_2 _ _ _ _ _ _ _ _ _ _ d _ _ _ h.x h.y hT hm hl hzz ht _ (add_y h.on k.on)
theorem twiceIs {s : Sm} {p : Pr} (h : SmIs s p) : SmIs (twiceF s) (add p p) := by
  have a1 : (1 + d*(p.x*p.x*p.y*p.y)) * (add p p).x = p.x*p.y + p.x*p.y := add_x h.on h.on
  have a2 : (1 - d*(p.x*p.x*p.y*p.y)) * (add p p).y = p.y*p.y + p.x*p.x := add_y h.on h.on
  obtain ⟨h1, h2, h3, h4⟩ := e_4 _ _ _ _ _ d _ _ h.x h.y h.on a1 a2
  have pu : phi (Fe.subF (Fe.sqF s.Y) (Fe.sqF s.X)) = phi s.Y * phi s.Y - phi s.X * phi s.X := by
    rw [phi_sub (Fe.sq_right _) (Fe.sq_right _), phi_sq h.rY, phi_sq h.rX]
  have pz : phi (Fe.addF (Fe.sqF s.Z) (Fe.sqF s.Z)) = phi s.Z * phi s.Z + phi s.Z * phi s.Z := by
    rw [phi_add (Fe.sq_right _) (Fe.sq_right _), phi_sq h.rZ]
  refine bIs h.rT (Fe.add_right _ _) (Fe.sub_right _ _) (Fe.add_right _ _) (Fe.sub_right _ _) (add_on h.on h.on) ?_ ?_ ?_ ?_
  · rw [pu, h3]; exact mul_ne h.z (mul_ne h.z (plus_ne h.on h.on))
  · rw [phi_sub (Fe.add_right _ _) (Fe.sub_right _ _), pu, pz, h4]; exact mul_ne h.z (mul_ne h.z (minus_ne h.on h.on))
  · rw [pu, phi_add (Fe.mul_right _ _) (Fe.mul_right _ _), phi_mul h.rX h.rY]; exact h1
  · rw [phi_sub (Fe.add_right _ _) (Fe.sub_right _ _), pu, pz, phi_add (Fe.sq_right _) (Fe.sq_right _), phi_sq h.rY, phi_sq h.rX]; exact h2
theorem negIs {s : Pt} {p : Pr} (h : PtIs s p) : PtIs (negP s) (neg p) :=
  ⟨Fe.neg_right _, h.rY, h.rZ, Fe.neg_right _, neg_on h.on, h.z, by show phi (Fe.negF s.X) = _; rw [phi_neg h.rX]; exact e_5 _ _ _ h.x, h.y, by show phi (Fe.negF s.T) = _; rw [phi_neg h.rT]; exact e_6 _ _ _ _ h.t⟩
theorem zeroIs : PtIs zeroP zero := by
  refine ⟨zero_right', one_right', one_right', zero_right', zero_on, ?_, ?_, ?_, ?_⟩
  · show phi Fe.oneF ≠ 0
    rw [phi_one]; exact one_ne
  · show phi Fe.zeroF = phi Fe.oneF * 0
    rw [phi_one, phi_zero]; exact e_7.1
  · show phi Fe.oneF = phi Fe.oneF * 1
    rw [phi_one]; exact e_7.2.1
  · show phi Fe.zeroF = phi Fe.oneF * (0 * 1)
    rw [phi_one, phi_zero]; exact e_7.2.2
theorem sameIs {s t : Pt} {p q : Pr} (h : PtIs s p) (k : PtIs t q) : (Fe.m (Fe.mulF s.X t.Z) = Fe.m (Fe.mulF t.X s.Z) ∧ Fe.m (Fe.mulF s.Y t.Z) = Fe.m (Fe.mulF t.Y s.Z)) ↔ p = q := by
  rw [phi_same, phi_same, phi_mul h.rX k.rZ, phi_mul k.rX h.rZ, phi_mul h.rY k.rZ, phi_mul k.rY h.rZ, e_9 h.x k.x, e_9 h.y k.y]
  have hz := mul_ne h.z k.z
  exact ⟨fun ⟨h1, h2⟩ => ext (cancel hz h1) (cancel hz h2), fun e => by rw [e]; exact ⟨rfl, rfl⟩⟩
def baseT : Pt := ⟨⟨0x62d608f25d51a, 0x412a4b4f6592a, 0x75b7171a4b31d, 0x1ff60527118fe, 0x216936d3cd6e5⟩, ⟨0x6666666666658, 0x4cccccccccccc, 0x1999999999999, 0x3333333333333, 0x6666666666666⟩, Fe.oneF, ⟨0x68ab3a5b7dda3, 0xeea2a5eadbb, 0x2af8df483c27e, 0x332b375274732, 0x67875f0fd78b7⟩⟩
def baseR : Pr := ⟨phi baseT.X, phi baseT.Y⟩
theorem base_on : On baseR := by
  show baseR.y*baseR.y - baseR.x*baseR.x = 1 + d*(baseR.x*baseR.x*(baseR.y*baseR.y))
  decide +kernel
theorem e_10 {n : Nat} [NeZero n] (o x : Fin n) (h : o = 1) : x = o * x := by grind
theorem baseIs : PtIs baseT baseR := by
  refine ⟨by constructor <;> decide, by constructor <;> decide, one_right', by constructor <;> decide, base_on, ?_, e_10 _ _ phi_one, e_10 _ _ phi_one, ?_⟩
  · show phi Fe.oneF ≠ 0
    rw [phi_one]; exact one_ne
  · show phi baseT.T = phi baseT.Z * (baseR.x * baseR.y)
    decide +kernel
end Go.Proofs.YtleegbaigedebaaDoor.Ed

/- edwards: points, sums and addends in memory. -/
namespace Go.Proofs.YtleegbaigedebaaDoor
open Go Go.RowKit
namespace Ed
def ptL (p : Pt) : List Value := feL p.X ++ feL p.Y ++ feL p.Z ++ feL p.T
def smL (s : Sm) : List Value := feL s.X ++ feL s.Y ++ feL s.Z ++ feL s.T ++ feL s.A ++ feL s.B
def adL (a : Ad) : List Value := feL a.m ++ feL a.l ++ feL a.z ++ feL a.t
def Pt.v (p : Pt) : Value := .agg (ptL p).toArray
def Sm.v (s : Sm) : Value := .agg (smL s).toArray
def Ad.v (a : Ad) : Value := .agg (adL a).toArray
theorem feL_one (a : Fe) : (feL a).all (·.oneCell') = true := rfl
theorem ptL_one (p : Pt) : (ptL p).all (·.oneCell') = true := rfl
theorem smL_one (s : Sm) : (smL s).all (·.oneCell') = true := rfl
theorem adL_one (a : Ad) : (adL a).all (·.oneCell') = true := rfl
def elsL (L : List Fe) : List Value := L.flatMap feL
def ptsL (L : List Pt) : List Value := L.flatMap ptL
def adsL (L : List Ad) : List Value := L.flatMap adL
structure Pt.Ok (p : Pt) : Prop where
  X : p.X.Ok
  Y : p.Y.Ok
  Z : p.Z.Ok
  T : p.T.Ok
structure Sm.Ok (p : Sm) : Prop where
  X : p.X.Ok
  Y : p.Y.Ok
  Z : p.Z.Ok
  T : p.T.Ok
  A : p.A.Ok
  B : p.B.Ok
structure Ad.Ok (p : Ad) : Prop where
  m : p.m.Ok
  l : p.l.Ok
  z : p.z.Ok
  t : p.t.Ok
theorem one_ok : Fe.oneF.Ok := one_right'.ok
theorem zero_ok : Fe.zeroF.Ok := zero_right'.ok
theorem PtIs.ok {s : Pt} {p : Pr} (h : PtIs s p) : s.Ok := ⟨h.rX.ok, h.rY.ok, h.rZ.ok, h.rT.ok⟩
theorem SmIs.ok {s : Sm} {p : Pr} (h : SmIs s p) : s.Ok := ⟨h.rX.ok, h.rY.ok, h.rZ.ok, h.rT.ok, h.rA.ok, h.rB.ok⟩
end Ed
open Ed
theorem info_elem : (Tryd.prog.info? 26).map (·.size) = some 5 := by kernel_rfl
theorem info_point : (Tryd.prog.info? 28).map (·.size) = some 20 := by kernel_rfl
theorem info_sum : (Tryd.prog.info? 53).map (·.size) = some 30 := by kernel_rfl
theorem info_addend : (Tryd.prog.info? 57).map (·.size) = some 20 := by kernel_rfl
theorem rangeAt_grown {w w' : World} {b o : Nat} {cs : List Value} {row : Option Nat} (h : w.rangeAt b o cs) (hg : w.grownBy w' row) (hb : b < w.heap.size) (hr : some b ≠ row) : w'.rangeAt b o cs := fun j v hv => by
  rw [gb_cell hg (p := ⟨b, o + j, none⟩) hb hr]
  exact h j v hv
theorem FlowAt3.d {G : Nat → Value → World → Prop} {st : Nat → Nat} {M : Nat → Value → World → Prop} {B : World → Prop} {ps : List Nat} {a0 : Act} {ops : Array Oper} {o : Oper} {a : Act} {w : World} (h : FlowAt3 G st M B ps a0 ops o a w) (d : Nat) (hd : waits ops o d = true := by kernel_rfl) : G d (a.tmps.getD d undef) w := h.dep d hd
theorem FlowAt3.r {G : Nat → Value → World → Prop} {st : Nat → Nat} {M : Nat → Value → World → Prop} {B : World → Prop} {ps : List Nat} {a0 : Act} {ops : Array Oper} {o : Oper} {a : Act} {w : World} (h : FlowAt3 G st M B ps a0 ops o a w) (d : Nat) (hd : notDst ops d = true := by kernel_rfl) : a.tmps.getD d undef = a0.tmps.getD d undef := h.rest d hd
structure ETab (w : World) : Prop where
  f : FTab w
  ld : 0 < w.heap.size
  lb : 1 < w.heap.size
  d : w.rangeAt 0 0 (feL dF)
  b : w.rangeAt 1 0 (ptL baseT)
theorem ETab.grown {w w' : World} (h : ETab w) (hg : w.grownBy w' none) : ETab w' :=
  ⟨h.f.grown hg, Nat.lt_of_lt_of_le h.ld hg.size, Nat.lt_of_lt_of_le h.lb hg.size, rangeAt_grown h.d hg h.ld (by simp), rangeAt_grown h.b hg h.lb (by simp)⟩
theorem FTab.keep {w w' : World} {S : Nat} (h : FTab w) (hg : w.grownBy w' (some S)) (h1 : 2 ≠ S) (h2 : 3 ≠ S) : FTab w' :=
  ⟨⟨Nat.lt_of_lt_of_le h.lt.1 hg.size, Nat.lt_of_lt_of_le h.lt.2 hg.size⟩, fun i hi => by rw [gb_cell hg (p := ⟨2, i, none⟩) h.lt.1 (some_ne h1)]; exact h.p i hi,
    fun i hi => by rw [gb_cell hg (p := ⟨3, i, none⟩) h.lt.2 (some_ne h2)]; exact h.q i hi⟩
def NoG (S : Nat) : Prop := 2 ≠ S ∧ 3 ≠ S ∧ 0 ≠ S ∧ 1 ≠ S
theorem ETab.keep {w w' : World} {S : Nat} (h : ETab w) (hg : w.grownBy w' (some S)) (hS : NoG S) : ETab w' :=
  ⟨h.f.keep hg hS.1 hS.2.1, Nat.lt_of_lt_of_le h.ld hg.size, Nat.lt_of_lt_of_le h.lb hg.size, rangeAt_grown h.d hg h.ld (some_ne hS.2.2.1), rangeAt_grown h.b hg h.lb (some_ne hS.2.2.2)⟩
theorem ETab.noG {w : World} (h : ETab w) {S : Nat} (hS : w.heap.size ≤ S) : NoG S :=
  ⟨by have := h.f.lt.1; omega, by have := h.f.lt.2; omega, by have := h.ld; omega, by have := h.lb; omega⟩
theorem fa_point0 (b o : Nat) (w : World) : (Instr.fieldAt 28 (.pointer (some ⟨b, o, none⟩)) 0).run Tryd.prog w = .ok (.pointer (some ⟨b, o, none⟩)) w := by go_simp
theorem fa_point1 (b o : Nat) (w : World) : (Instr.fieldAt 28 (.pointer (some ⟨b, o, none⟩)) 1).run Tryd.prog w = .ok (.pointer (some ⟨b, o + 5, none⟩)) w := by go_simp
theorem fa_point2 (b o : Nat) (w : World) : (Instr.fieldAt 28 (.pointer (some ⟨b, o, none⟩)) 2).run Tryd.prog w = .ok (.pointer (some ⟨b, o + 10, none⟩)) w := by go_simp
theorem fa_point3 (b o : Nat) (w : World) : (Instr.fieldAt 28 (.pointer (some ⟨b, o, none⟩)) 3).run Tryd.prog w = .ok (.pointer (some ⟨b, o + 15, none⟩)) w := by go_simp
theorem fa_addend0 (b o : Nat) (w : World) : (Instr.fieldAt 57 (.pointer (some ⟨b, o, none⟩)) 0).run Tryd.prog w = .ok (.pointer (some ⟨b, o, none⟩)) w := by go_simp
theorem fa_addend1 (b o : Nat) (w : World) : (Instr.fieldAt 57 (.pointer (some ⟨b, o, none⟩)) 1).run Tryd.prog w = .ok (.pointer (some ⟨b, o + 5, none⟩)) w := by go_simp
theorem fa_addend2 (b o : Nat) (w : World) : (Instr.fieldAt 57 (.pointer (some ⟨b, o, none⟩)) 2).run Tryd.prog w = .ok (.pointer (some ⟨b, o + 10, none⟩)) w := by go_simp
theorem fa_addend3 (b o : Nat) (w : World) : (Instr.fieldAt 57 (.pointer (some ⟨b, o, none⟩)) 3).run Tryd.prog w = .ok (.pointer (some ⟨b, o + 15, none⟩)) w := by go_simp
theorem fa_sum0 (b o : Nat) (w : World) : (Instr.fieldAt 53 (.pointer (some ⟨b, o, none⟩)) 0).run Tryd.prog w = .ok (.pointer (some ⟨b, o, none⟩)) w := by go_simp
theorem fa_sum1 (b o : Nat) (w : World) : (Instr.fieldAt 53 (.pointer (some ⟨b, o, none⟩)) 1).run Tryd.prog w = .ok (.pointer (some ⟨b, o + 20, none⟩)) w := by go_simp
theorem fa_sum2 (b o : Nat) (w : World) : (Instr.fieldAt 53 (.pointer (some ⟨b, o, none⟩)) 2).run Tryd.prog w = .ok (.pointer (some ⟨b, o + 25, none⟩)) w := by go_simp
section
variable {a b : Fe} {w : World}
abbrev Tells (f : Nat) (args : Array Value) (w : World) (v : Value) : Prop := Calls Tryd.prog f args w fun e w' => e = .returned v ∧ w.grownBy w' none
theorem t_mul (ha : a.Ok) (hb : b.Ok) : Tells 25 #[a.v, b.v] w (Fe.mulF a b).v := (mul_fe a b w ha hb).mono fun _ _ h => feOut_is h
theorem t_sq (ha : a.Ok) : Tells 28 #[a.v] w (Fe.sqF a).v := (sq_fe a w ha).mono fun _ _ h => feOut_is h
theorem t_add (ha : a.Ok) (hb : b.Ok) : Tells 39 #[a.v, b.v] w (Fe.addF a b).v := (add_any a b w ha hb).mono fun _ _ h => feOut_is h
theorem t_sub (hT : FTab w) (ha : a.Ok) (hb : b.Ok) : Tells 29 #[a.v, b.v] w (Fe.subF a b).v := (sub_any a b w hT ha hb).mono fun _ _ h => feOut_is h
theorem t_neg (hT : FTab w) (ha : a.Ok) : Tells 31 #[a.v] w (Fe.negF a).v := (neg_any a w hT ha).mono fun _ _ h => feOut_is h
theorem t_one : Tells 30 #[] w Fe.oneF.v := (one_any w).mono fun _ _ h => feOut_is h
theorem t_inv (ha : a.Ok) : Tells 27 #[a.v] w (invF a).v := (invert_any a w ha).mono fun _ _ h => feOut_is h
theorem t_same (ha : a.Ok) (hb : b.Ok) {x : Bool} (h : decide (Fe.m a = Fe.m b) = x) : Tells 24 #[a.v, b.v] w (.bool x) := same_val a b x w ha hb h
theorem t_zero (ha : a.Ok) {x : Bool} (h : decide (Fe.m a = 0) = x) : Tells 32 #[a.v] w (.bool x) := zero_val a x w ha h
theorem t_odd (ha : a.Ok) {x : Bool} (h : decide (Fe.m a % 2 = 1) = x) : Tells 26 #[a.v] w (.bool x) := odd_val a x w ha h
end
theorem t_root {u v r : Fe} {b : Bool} {w : World} (hT : FTab w) (hu : u.Ok) (hv : v.Ok) (h : rootF u v = (r, b)) : Tells 59 #[u.v, v.v] w (.tuple #[r.v, .bool b]) := (root_all u v w hT hu hv).mono fun e w' h' => by
  obtain ⟨r', hr, he, hg⟩ := h'
  have e1 := hr.out
  subst e1
  rw [h] at he
  exact ⟨he, hg⟩
theorem results_row_tmp {P : Program} {fn : Func} {p u : Tmp} {ty : TypeId} (h : fn.results = #[.cell p ty, .tmp u]) (tmps : Array Value) (w : World) (g : Nat) (t : TypeId) (cs : Array Value) (fr : Nat × Nat) (d : TypeDesc)
    (hp : tmps.getD p undef = .pointer (some ⟨g, 0, none⟩)) (hg : w.heap[g]? = some (.cells cs t fr))
    (hu : P.underlying ty = some d) (hd : (match d with | .struct _ | .array _ _ => true | _ => false) = true) (hi : (P.info? ty).map (·.size) = some cs.size) {v : Value} (hv : tmps.getD u undef = v) :
    (results fn tmps).run P w = .ok (.tuple #[.agg cs, v]) w := by
  rw [results_cell_tmp h, hp, hv]
  simp [asAddr, run_loadVar_row w g t ty cs fr d hg hu hd hi, Result.andThen]
def PtOut (p : Pr) (w : World) (e : Ending) (w' : World) : Prop := ∃ t : Pt, PtIs t p ∧ e = .returned t.v ∧ w.grownBy w' none
end Go.Proofs.YtleegbaigedebaaDoor

/- edwards: across. -/
namespace Go.Proofs.YtleegbaigedebaaDoor
open Go.RowKit Ed
def acrossF (y : Fe) (odd : Bool) : Fe × Bool :=
 if (rootF (Fe.subF (Fe.sqF y) Fe.oneF) (Fe.addF (Fe.mulF dF (Fe.sqF y)) Fe.oneF)).2 = false then ((rootF (Fe.subF (Fe.sqF y) Fe.oneF) (Fe.addF (Fe.mulF dF (Fe.sqF y)) Fe.oneF)).1, false)
 else if odd = false then ((rootF (Fe.subF (Fe.sqF y) Fe.oneF) (Fe.addF (Fe.mulF dF (Fe.sqF y)) Fe.oneF)).1, true)
 else if Fe.m (rootF (Fe.subF (Fe.sqF y) Fe.oneF) (Fe.addF (Fe.mulF dF (Fe.sqF y)) Fe.oneF)).1 = 0 then (Fe.zeroF, false)
 else (Fe.negF (rootF (Fe.subF (Fe.sqF y) Fe.oneF) (Fe.addF (Fe.mulF dF (Fe.sqF y)) Fe.oneF)).1, true)
set_option maxRecDepth 100000 in
set_option maxHeartbeats 3200000 in
theorem across_n (y : Fe) (odd : Bool) (w0 : World) (HT0 : ETab w0) (oky : y.Ok) (r : Fe) (_okr : r.Ok) (hr : rootF (Fe.subF (Fe.sqF y) Fe.oneF) (Fe.addF (Fe.mulF dF (Fe.sqF y)) Fe.oneF) = (r, false)) :
  Calls Tryd.prog 43 #[y.v, .bool odd] w0 fun e w' => e = .returned (.tuple #[(r).v, .bool false]) ∧ w0.grownBy w' none := by
 show Calls Tryd.prog 43 #[.agg (feL y).toArray, .bool odd] w0 _
 go_enter Tryd.func43, Tryd.ntmps43
 go_upto_region 1 with (fail)
 have G : w0.grownBy ((w0.alloc (.cells (feL y).toArray 26)).alloc (.cells zr5.toArray 26)) none := gb_alloc (gb_alloc (gb_refl _ _) _) _
 have HT : ETab ((w0.alloc (.cells (feL y).toArray 26)).alloc (.cells zr5.toArray 26)) := HT0.grown (gb_alloc (gb_alloc (gb_refl _ _) _) _)
 have hY : Blk ((w0.alloc (.cells (feL y).toArray 26)).alloc (.cells zr5.toArray 26)) (w0.heap.size) 26 (feL y) := (Blk.new w0 (feL y) _).alloc _
 have hR : Blk ((w0.alloc (.cells (feL y).toArray 26)).alloc (.cells zr5.toArray 26)) (w0.heap.size + 1) 26 zr5 := Blk.newAt (w0.alloc _) zr5 _ (by simp)
 revert G HT hY hR
 generalize (w0.alloc (.cells (feL y).toArray 26)).alloc (.cells zr5.toArray 26) = W0
 intro G HT hY hR
 have Gs := G.size
 have Gs0 := G.size
 have l1hY := hY.lt
 have l1hR := hR.lt
 refine Fg.rP [6] [.any, .any, .any, .any, .any, .any, .fresh 26 zr5 W0.heap.size, .any, .any, .val (y.v), .val ((Fe.sqF y).v)] 3 ?_ ?_
 ·refine Fg.vS rfl (by decide) (fun ac w h => ?_) ?_
  ·have e2 : _ = Value.pointer (some ⟨w0.heap.size, 0, none⟩) := h.r 2
   exact Fg.vn y.v (Fg.run_load rfl e2 ((hY.gn h.base).range 0 (feL y) rfl) Tryd.underlying26 rfl info_elem)
  refine Fg.cS rfl (by decide) (fun ac w h => ?_) ?_
  ·have e9 : _ = y.v := h.d 9
   refine ⟨wants_none rfl, 28, #[y.v], Fg.run_call rfl rfl (by simp only [List.map_toArray, List.map_cons, List.map_nil, Act.eval, e9]) (Fg.run_enter Tryd.func28 (by kernel_rfl) (by kernel_rfl)), ?_⟩
   exact (t_sq oky).mono fun _ _ ⟨he, hg⟩ => ⟨_, he, hg, rfl⟩
  refine ⟨⟨⟨_, rfl⟩, Fg.allocP (fun _ _ h k => gb_trans h k) rfl (by show 6 < 36; decide) fun ac w h => ?_⟩, ?_⟩
  ·refine ⟨wants_none rfl, w.alloc (.cells zr5.toArray 26), ?_, World.grownBy_alloc _ _ _, by simp, ⟨w.heap.size, rfl, h.base.size, Blk.new w zr5 _⟩⟩
   clear h
   go_simp
  trivial
 ·intro qa V1 g1 hsz hdf hrest hslots hpt
  obtain ⟨N6, hs6, hn6, hb6⟩ : ∃ N, qa.tmps.getD 6 undef = .pointer (some ⟨N, 0, none⟩) ∧ W0.heap.size ≤ N ∧ Blk V1 N 26 zr5 := hslots 6 (by kernel_rfl)
  obtain ⟨u9, hs9⟩ := Fg.slotv qa 9
  obtain ⟨x1, hx1⟩ : ∃ x : Fe, x = Fe.sqF y := ⟨_, rfl⟩
  obtain rfl := Fg.frame_by [6, 9, 10] (vs := [y.v, Value.bool odd, Value.pointer (some ⟨w0.heap.size, 0, none⟩), undef, Value.pointer (some ⟨w0.heap.size + 1, 0, none⟩), Value.bool false, Value.pointer (some ⟨N6, 0, none⟩), undef, undef, u9, x1.v, undef, undef, undef, undef, undef, undef, undef, undef, undef, undef, undef, undef, undef, undef, undef, undef, undef, undef, undef, undef, undef, undef, undef, undef, undef]) hsz hrest (by kernel_rfl) rfl rfl ⟨hs6, hs9, (show qa.tmps.getD 10 undef = x1.v by rw [hx1]; exact hslots 10 (by kernel_rfl)), trivial⟩ hdf
  clear hsz hdf hrest hslots hpt hs6 hs9
  have Hx1 := Lib.hid hx1; clear hx1
  replace hY := hY.gn g1
  replace hR := hR.gn g1
  replace G := gb_trans G g1
  replace HT := HT.grown g1
  have okx1 : x1.Ok := by rw [Hx1.out]; exact (Fe.sq_right _).ok
  have hw6 : w0.heap.size ≤ N6 := Nat.le_trans Gs0 hn6
  clear g1
  refine Fg.wpl_skip rfl rfl (Fg.run_store (cs := feL x1) rfl rfl rfl (hb6.there 0 5 (by show 0 + 5 ≤ 5; decide)) info_elem (feL_one _)) ?_
  replace hY := hY.setCells_other (C := N6) (cs := feL x1) 0 (by omega)
  replace hR := hR.setCells_other (C := N6) (cs := feL x1) 0 (by omega)
  replace hb6 : Blk (V1.setCells N6 0 (feL x1)) N6 26 (feL x1) := hb6.setAll rfl
  replace G := gb_setCells_new (cs := feL x1) G (B := N6) (hw6) 0
  replace HT := HT.keep (gb_setCells (cs := feL x1) (gb_refl _ (some N6)) 0) (HT0.noG (hw6))
  revert hY hR hb6 G HT
  generalize V1.setCells N6 0 (feL x1) = W2
  intro hY hR hb6 G HT
  go_upto_region 2 with (fail)
  have Gs2 := G.size
  have l2hY := hY.lt
  have l2hR := hR.lt
  have l2hb6 := hb6.lt
  have HOV : ∀ it ∈ ([.any, .any, .any, .any, .any, .any, .any, .room 26 5 W2.heap.size, .val (Value.bool false), .any, .any, .val (Value.tuple #[r.v, .bool false]), .val (x1.v), .val (Fe.oneF.v), .val ((Fe.subF x1 Fe.oneF).v), .val (dF.v), .val (x1.v), .val ((Fe.mulF dF x1).v), .val (Fe.oneF.v), .val ((Fe.addF (Fe.mulF dF x1) Fe.oneF).v), .val (Value.tuple #[r.v, .bool false]), .val (r.v), .val (Value.bool false)] : List Fg.It), it.Over := by
   intro it hit
   simp only [List.mem_cons, List.not_mem_nil, or_false] at hit
   rcases hit with rfl | rfl | rfl | rfl | rfl | rfl | rfl | rfl | rfl | rfl | rfl | rfl | rfl | rfl | rfl | rfl | rfl | rfl | rfl | rfl | rfl | rfl | rfl
   all_goals first | exact Fg.any_over | exact Fg.val_over _ | exact Fg.room_over _ _ _
  refine wp_region_flow3 (Fg.its [.any, .any, .any, .any, .any, .any, .any, .room 26 5 W2.heap.size, .val (Value.bool false), .any, .any, .val (Value.tuple #[r.v, .bool false]), .val (x1.v), .val (Fe.oneF.v), .val ((Fe.subF x1 Fe.oneF).v), .val (dF.v), .val (x1.v), .val ((Fe.mulF dF x1).v), .val (Fe.oneF.v), .val ((Fe.addF (Fe.mulF dF x1) Fe.oneF).v), .val (Value.tuple #[r.v, .bool false]), .val (r.v), .val (Value.bool false)]) (fun _ => 7) (Fg.Stored1 26 (feL r)) (fun w => World.grownBy W2 w none) [7] (by kernel_rfl) (by kernel_rfl) (by kernel_rfl) (gb_drew (gb_refl _ _)) (Fg.ptrs_undef (by kernel_rfl)) (by kernel_rfl) ?_ ?_
  ·refine ⟨Fg.valueM rfl (by decide) fun ac w h => ?_, ?_⟩
   ·have e6 : _ = Value.pointer (some ⟨N6, 0, none⟩) := h.r 6
    exact Fg.vn x1.v (Fg.run_load rfl e6 ((hb6.gn h.base).range 0 (feL x1) rfl) Tryd.underlying26 rfl info_elem)
   refine ⟨Fg.callM rfl (by decide) fun ac w h => ?_, ?_⟩
   ·refine ⟨wants_none rfl, 30, #[], Fg.run_call rfl rfl (by simp) (Fg.run_enter Tryd.func30 (by kernel_rfl) (by kernel_rfl)), ?_⟩
    exact (t_one).mono fun _ _ ⟨he, hg⟩ => ⟨_, he, hg, rfl⟩
   refine ⟨Fg.callM rfl (by decide) fun ac w h => ?_, ?_⟩
   ·have e12 : _ = x1.v := h.d 12
    have e13 : _ = Fe.oneF.v := h.d 13
    refine ⟨wants_none rfl, 29, #[x1.v, Fe.oneF.v], Fg.run_call rfl rfl (by simp only [List.map_toArray, List.map_cons, List.map_nil, Act.eval, e12, e13]) (Fg.run_enter Tryd.func29 (by kernel_rfl) (by kernel_rfl)), ?_⟩
    exact (t_sub (HT.f.grown h.base) okx1 one_ok).mono fun _ _ ⟨he, hg⟩ => ⟨_, he, hg, rfl⟩
   refine ⟨Fg.valueM rfl (by decide) fun ac w h => ?_, ?_⟩
   ·exact Fg.vn dF.v (Fg.run_load rfl rfl (HT.grown h.base).d Tryd.underlying26 rfl info_elem)
   refine ⟨Fg.valueM rfl (by decide) fun ac w h => ?_, ?_⟩
   ·have e6 : _ = Value.pointer (some ⟨N6, 0, none⟩) := h.r 6
    exact Fg.vn x1.v (Fg.run_load rfl e6 ((hb6.gn h.base).range 0 (feL x1) rfl) Tryd.underlying26 rfl info_elem)
   refine ⟨Fg.callM rfl (by decide) fun ac w h => ?_, ?_⟩
   ·have e15 : _ = dF.v := h.d 15
    have e16 : _ = x1.v := h.d 16
    refine ⟨wants_none rfl, 25, #[dF.v, x1.v], Fg.run_call rfl rfl (by simp only [List.map_toArray, List.map_cons, List.map_nil, Act.eval, e15, e16]) (Fg.run_enter Tryd.func25 (by kernel_rfl) (by kernel_rfl)), ?_⟩
    exact (t_mul dF_right.ok okx1).mono fun _ _ ⟨he, hg⟩ => ⟨_, he, hg, rfl⟩
   refine ⟨Fg.callM rfl (by decide) fun ac w h => ?_, ?_⟩
   ·refine ⟨wants_none rfl, 30, #[], Fg.run_call rfl rfl (by simp) (Fg.run_enter Tryd.func30 (by kernel_rfl) (by kernel_rfl)), ?_⟩
    exact (t_one).mono fun _ _ ⟨he, hg⟩ => ⟨_, he, hg, rfl⟩
   refine ⟨Fg.callM rfl (by decide) fun ac w h => ?_, ?_⟩
   ·have e17 : _ = (Fe.mulF dF x1).v := h.d 17
    have e18 : _ = Fe.oneF.v := h.d 18
    refine ⟨wants_none rfl, 39, #[(Fe.mulF dF x1).v, Fe.oneF.v], Fg.run_call rfl rfl (by simp only [List.map_toArray, List.map_cons, List.map_nil, Act.eval, e17, e18]) (Fg.run_enter Tryd.func39 (by kernel_rfl) (by kernel_rfl)), ?_⟩
    exact (t_add (Fe.mul_right _ _).ok one_ok).mono fun _ _ ⟨he, hg⟩ => ⟨_, he, hg, rfl⟩
   refine ⟨Fg.callM rfl (by decide) fun ac w h => ?_, ?_⟩
   ·have e14 : _ = (Fe.subF x1 Fe.oneF).v := h.d 14
    have e19 : _ = (Fe.addF (Fe.mulF dF x1) Fe.oneF).v := h.d 19
    refine ⟨wants_none rfl, 59, #[(Fe.subF x1 Fe.oneF).v, (Fe.addF (Fe.mulF dF x1) Fe.oneF).v], Fg.run_call rfl rfl (by simp only [List.map_toArray, List.map_cons, List.map_nil, Act.eval, e14, e19]) (Fg.run_enter Tryd.func59 (by kernel_rfl) (by kernel_rfl)), ?_⟩
    exact (t_root (HT.f.grown h.base) (Fe.sub_right _ _).ok (Fe.add_right _ _).ok (by rw [Hx1.out]; exact hr)).mono fun _ _ ⟨he, hg⟩ => ⟨_, he, hg, rfl⟩
   refine ⟨Fg.valueM rfl (by decide) fun ac w h => ?_, ?_⟩
   ·have e20 : _ = Value.tuple #[r.v, .bool false] := h.d 20
    exact Fg.vn (Value.tuple #[r.v, .bool false]) (Fg.run_move rfl e20)
   refine ⟨Fg.valueM rfl (by decide) fun ac w h => ?_, ?_⟩
   ·have e11 : _ = Value.tuple #[r.v, .bool false] := h.d 11
    exact Fg.vn r.v (Fg.run_extract rfl e11 rfl)
   refine ⟨Fg.valueM rfl (by decide) fun ac w h => ?_, ?_⟩
   ·have e11 : _ = Value.tuple #[r.v, .bool false] := h.d 11
    exact Fg.vn (Value.bool false) (Fg.run_extract rfl e11 rfl)
   refine ⟨Fg.allocM rfl (by show 7 < 36; decide) fun ac w h => ?_, ?_⟩
   ·refine ⟨wants_none rfl, w.alloc (.cells zr5.toArray 26), ?_, World.grownBy_alloc _ _ _, by simp, ⟨w.heap.size, rfl, h.base.size, _, rfl, Blk.new w zr5 _⟩⟩
    clear h
    go_simp
   refine ⟨Fg.storeM rfl rfl HOV info_elem (feL_one r) fun ac w h => ?_, ?_⟩
   ·obtain ⟨N, ep, hn, V, hl, hb⟩ : ∃ N, ac.tmps.getD 7 undef = .pointer (some ⟨N, 0, none⟩) ∧ W2.heap.size ≤ N ∧ ∃ V : List Value, V.length = 5 ∧ Blk w N 26 V := h.dep 7 (by kernel_rfl)
    have e21 : _ = r.v := h.d 21
    exact ⟨wants_none rfl, N, ep, ep, e21, hn, V, hl, hb⟩
   refine ⟨Fg.valueM rfl (by decide) fun ac w h => ?_, ?_⟩
   ·have e22 : _ = Value.bool false := h.d 22
    exact Fg.vn (Value.bool false) (Fg.run_assign rfl e22)
   trivial
  ·intro qa V3 g3 hsz hdf hrest hslots hmems
   obtain ⟨N7, hs7, hb7⟩ : ∃ N, qa.tmps.getD 7 undef = .pointer (some ⟨N, 0, none⟩) ∧ Blk V3 N 26 (feL r) := hmems 13 _ rfl rfl
   have hn7 : W2.heap.size ≤ N7 := by
    obtain ⟨N, e, hn, _⟩ : ∃ N, qa.tmps.getD 7 undef = .pointer (some ⟨N, 0, none⟩) ∧ W2.heap.size ≤ N ∧ ∃ V : List Value, V.length = 5 ∧ Blk V3 N 26 V := hslots 7 (by kernel_rfl)
    rw [hs7] at e; cases e; exact hn
   obtain ⟨u11, hs11⟩ := Fg.slotv qa 11
   obtain ⟨u12, hs12⟩ := Fg.slotv qa 12
   obtain ⟨u13, hs13⟩ := Fg.slotv qa 13
   obtain ⟨u14, hs14⟩ := Fg.slotv qa 14
   obtain ⟨u15, hs15⟩ := Fg.slotv qa 15
   obtain ⟨u16, hs16⟩ := Fg.slotv qa 16
   obtain ⟨u17, hs17⟩ := Fg.slotv qa 17
   obtain ⟨u18, hs18⟩ := Fg.slotv qa 18
   obtain ⟨u19, hs19⟩ := Fg.slotv qa 19
   obtain ⟨u20, hs20⟩ := Fg.slotv qa 20
   obtain rfl := Fg.frame_is (a := qa) (vs := [y.v, Value.bool odd, Value.pointer (some ⟨w0.heap.size, 0, none⟩), undef, Value.pointer (some ⟨w0.heap.size + 1, 0, none⟩), Value.bool false, Value.pointer (some ⟨N6, 0, none⟩), Value.pointer (some ⟨N7, 0, none⟩), Value.bool false, u9, x1.v, u11, u12, u13, u14, u15, u16, u17, u18, u19, u20, r.v, Value.bool false, undef, undef, undef, undef, undef, undef, undef, undef, undef, undef, undef, undef, undef]) hsz ⟨hrest 0 (by kernel_rfl), hrest 1 (by kernel_rfl), hrest 2 (by kernel_rfl), hrest 3 (by kernel_rfl), hrest 4 (by kernel_rfl), hrest 5 (by kernel_rfl), hrest 6 (by kernel_rfl), hs7, (show qa.tmps.getD 8 undef = Value.bool false from hslots 8 (by kernel_rfl)), hrest 9 (by kernel_rfl), hrest 10 (by kernel_rfl), hs11, hs12, hs13, hs14, hs15, hs16, hs17, hs18, hs19, hs20, (show qa.tmps.getD 21 undef = r.v from hslots 21 (by kernel_rfl)), (show qa.tmps.getD 22 undef = Value.bool false from hslots 22 (by kernel_rfl)), hrest 23 (by kernel_rfl), hrest 24 (by kernel_rfl), hrest 25 (by kernel_rfl), hrest 26 (by kernel_rfl), hrest 27 (by kernel_rfl), hrest 28 (by kernel_rfl), hrest 29 (by kernel_rfl), hrest 30 (by kernel_rfl), hrest 31 (by kernel_rfl), hrest 32 (by kernel_rfl), hrest 33 (by kernel_rfl), hrest 34 (by kernel_rfl), hrest 35 (by kernel_rfl), trivial⟩ hdf
   clear hsz hdf hrest hslots hmems hs7 hs11 hs12 hs13 hs14 hs15 hs16 hs17 hs18 hs19 hs20
   replace hY := hY.gn g3
   replace hR := hR.gn g3
   replace hb6 := hb6.gn g3
   replace G := gb_trans G g3
   replace HT := HT.grown g3
   have hw7 : w0.heap.size ≤ N7 := Nat.le_trans Gs2 hn7
   clear g3
   go_upto_region 3 with (fail)
   have Gs3 := G.size
   have l3hY := hY.lt
   have l3hR := hR.lt
   have l3hb6 := hb6.lt
   have l3hb7 := hb7.lt
   refine Fg.rP [] [.any, .any, .any, .any, .any, .any, .any, .any, .any, .any, .any, .any, .any, .any, .any, .any, .any, .any, .any, .any, .any, .any, .any, .val (Value.bool false), .val (Value.bool true), .val (Value.bool true), .val undef, .val undef, .val (Value.bool true)] 6 ?_ ?_
   ·refine Fg.vS rfl (by decide) (fun ac w h => ?_) ?_
    ·have e8 : _ = Value.bool false := h.r 8
     exact Fg.vn (Value.bool false) (Fg.run_move rfl e8)
    refine Fg.vS rfl (by decide) (fun ac w h => ?_) ?_
    ·have e23 : _ = Value.bool false := h.d 23
     refine ⟨wants_none rfl, Value.bool true, w, ?_, gb_refl _ _, rfl⟩
     clear h
     simp only [execOp, Act.eval, e23]
     go_simp
    refine Fg.vS rfl (by decide) (fun ac w h => ?_) ?_
    ·have e24 : _ = Value.bool true := h.d 24
     exact Fg.vn (Value.bool true) (Fg.run_move rfl e24)
    refine ⟨⟨⟨_, rfl⟩, Fg.skippedP rfl (by decide) (fun _ => rfl) fun ac w h => ?_⟩, ?_⟩
    ·have e25 : _ = Value.bool true := h.d 25
     exact not_wants (d := 25) rfl rfl (by rw [h.size]; show 25 < 36; decide) e25 (by decide)
    refine ⟨⟨⟨_, rfl⟩, Fg.skippedP rfl (by decide) (fun _ => rfl) fun ac w h => ?_⟩, ?_⟩
    ·have e25 : _ = Value.bool true := h.d 25
     exact not_wants (d := 25) rfl rfl (by rw [h.size]; show 25 < 36; decide) e25 (by decide)
    refine Fg.vS rfl (by decide) (fun ac w h => ?_) ?_
    ·have e25 : _ = Value.bool true := h.d 25
     refine ⟨wants_none rfl, Value.bool true, w, ?_, gb_refl _ _, rfl⟩
     clear h
     simp only [execOp, Act.eval, e25]
     go_simp
    trivial
   ·intro qa V4 g4 hsz hdf hrest hslots hpt
    obtain ⟨u23, hs23⟩ := Fg.slotv qa 23
    obtain ⟨u24, hs24⟩ := Fg.slotv qa 24
    obtain ⟨u25, hs25⟩ := Fg.slotv qa 25
    obtain ⟨u26, hs26⟩ := Fg.slotv qa 26
    obtain ⟨u27, hs27⟩ := Fg.slotv qa 27
    obtain rfl := Fg.frame_by [23, 24, 25, 26, 27, 28] (vs := [y.v, Value.bool odd, Value.pointer (some ⟨w0.heap.size, 0, none⟩), undef, Value.pointer (some ⟨w0.heap.size + 1, 0, none⟩), Value.bool false, Value.pointer (some ⟨N6, 0, none⟩), Value.pointer (some ⟨N7, 0, none⟩), Value.bool false, u9, x1.v, u11, u12, u13, u14, u15, u16, u17, u18, u19, u20, r.v, Value.bool false, u23, u24, u25, u26, u27, Value.bool true, undef, undef, undef, undef, undef, undef, undef]) hsz hrest (by kernel_rfl) rfl rfl ⟨hs23, hs24, hs25, hs26, hs27, (show qa.tmps.getD 28 undef = Value.bool true from hslots 28 (by kernel_rfl)), trivial⟩ hdf
    clear hsz hdf hrest hslots hpt hs23 hs24 hs25 hs26 hs27
    replace hY := hY.gn g4
    replace hR := hR.gn g4
    replace hb6 := hb6.gn g4
    replace hb7 := hb7.gn g4
    replace G := gb_trans G g4
    replace HT := HT.grown g4
    clear g4
    go_upto_region 4 with (fail)
    have Gs4 := G.size
    have l4hY := hY.lt
    have l4hR := hR.lt
    have l4hb6 := hb6.lt
    have l4hb7 := hb7.lt
    refine Fg.rP [] [.any, .any, .any, .any, .any, .any, .any, .any, .any, .any, .any, .any, .any, .any, .any, .any, .any, .any, .any, .any, .any, .any, .any, .any, .any, .any, .any, .any, .any, .val (r.v), .val (Value.bool false)] 2 ?_ ?_
    ·refine Fg.vS rfl (by decide) (fun ac w h => ?_) ?_
     ·have e7 : _ = Value.pointer (some ⟨N7, 0, none⟩) := h.r 7
      exact Fg.vn r.v (Fg.run_load rfl e7 ((hb7.gn h.base).range 0 (feL r) rfl) Tryd.underlying26 rfl info_elem)
     refine Fg.vS rfl (by decide) (fun ac w h => ?_) ?_
     ·have e8 : _ = Value.bool false := h.r 8
      exact Fg.vn (Value.bool false) (Fg.run_move rfl e8)
     trivial
    ·intro qa V5 g5 hsz hdf hrest hslots hpt
     obtain rfl := Fg.frame_by [29, 30] (vs := [y.v, Value.bool odd, Value.pointer (some ⟨w0.heap.size, 0, none⟩), undef, Value.pointer (some ⟨w0.heap.size + 1, 0, none⟩), Value.bool false, Value.pointer (some ⟨N6, 0, none⟩), Value.pointer (some ⟨N7, 0, none⟩), Value.bool false, u9, x1.v, u11, u12, u13, u14, u15, u16, u17, u18, u19, u20, r.v, Value.bool false, u23, u24, u25, u26, u27, Value.bool true, r.v, Value.bool false, undef, undef, undef, undef, undef]) hsz hrest (by kernel_rfl) rfl rfl ⟨(show qa.tmps.getD 29 undef = r.v from hslots 29 (by kernel_rfl)), (show qa.tmps.getD 30 undef = Value.bool false from hslots 30 (by kernel_rfl)), trivial⟩ hdf
     clear hsz hdf hrest hslots hpt
     replace hY := hY.gn g5
     replace hR := hR.gn g5
     replace hb6 := hb6.gn g5
     replace hb7 := hb7.gn g5
     replace G := gb_trans G g5
     replace HT := HT.grown g5
     clear g5
     refine Fg.wpl_skip rfl rfl (Fg.run_store (cs := feL r) rfl rfl rfl (hR.there 0 5 (by show 0 + 5 ≤ 5; decide)) info_elem (feL_one _)) ?_
     replace hY := hY.setCells_other (C := (w0.heap.size + 1)) (cs := feL r) 0 (by omega)
     replace hR : Blk (V5.setCells (w0.heap.size + 1) 0 (feL r)) (w0.heap.size + 1) 26 (feL r) := hR.setAll rfl
     replace hb6 := hb6.setCells_other (C := (w0.heap.size + 1)) (cs := feL r) 0 (by omega)
     replace hb7 := hb7.setCells_other (C := (w0.heap.size + 1)) (cs := feL r) 0 (by omega)
     replace G := gb_setCells_new (cs := feL r) G (B := (w0.heap.size + 1)) (by omega) 0
     replace HT := HT.keep (gb_setCells (cs := feL r) (gb_refl _ (some (w0.heap.size + 1))) 0) (HT0.noG (by omega))
     revert hY hR hb6 hb7 G HT
     generalize V5.setCells (w0.heap.size + 1) 0 (feL r) = W6
     intro hY hR hb6 hb7 G HT
     go_wp2_with fail
     exact bodyPost_ret (v := .tuple #[r.v, .bool false]) (results_row_tmp Tryd.results43 _ _ (w0.heap.size + 1) 26 (feL r).toArray (0, 0) _ rfl hR Tryd.underlying26 rfl info_elem rfl) rfl ⟨rfl, G⟩
set_option maxRecDepth 100000 in
set_option maxHeartbeats 3200000 in
theorem across_f (y : Fe) (w0 : World) (HT0 : ETab w0) (oky : y.Ok) (r : Fe) (_okr : r.Ok) (hr : rootF (Fe.subF (Fe.sqF y) Fe.oneF) (Fe.addF (Fe.mulF dF (Fe.sqF y)) Fe.oneF) = (r, true)) :
  Calls Tryd.prog 43 #[y.v, .bool false] w0 fun e w' => e = .returned (.tuple #[(r).v, .bool true]) ∧ w0.grownBy w' none := by
 show Calls Tryd.prog 43 #[.agg (feL y).toArray, .bool false] w0 _
 go_enter Tryd.func43, Tryd.ntmps43
 go_upto_region 1 with (fail)
 have G : w0.grownBy ((w0.alloc (.cells (feL y).toArray 26)).alloc (.cells zr5.toArray 26)) none := gb_alloc (gb_alloc (gb_refl _ _) _) _
 have HT : ETab ((w0.alloc (.cells (feL y).toArray 26)).alloc (.cells zr5.toArray 26)) := HT0.grown (gb_alloc (gb_alloc (gb_refl _ _) _) _)
 have hY : Blk ((w0.alloc (.cells (feL y).toArray 26)).alloc (.cells zr5.toArray 26)) (w0.heap.size) 26 (feL y) := (Blk.new w0 (feL y) _).alloc _
 have hR : Blk ((w0.alloc (.cells (feL y).toArray 26)).alloc (.cells zr5.toArray 26)) (w0.heap.size + 1) 26 zr5 := Blk.newAt (w0.alloc _) zr5 _ (by simp)
 revert G HT hY hR
 generalize (w0.alloc (.cells (feL y).toArray 26)).alloc (.cells zr5.toArray 26) = W0
 intro G HT hY hR
 have Gs := G.size
 have Gs0 := G.size
 have l1hY := hY.lt
 have l1hR := hR.lt
 refine Fg.rP [6] [.any, .any, .any, .any, .any, .any, .fresh 26 zr5 W0.heap.size, .any, .any, .val (y.v), .val ((Fe.sqF y).v)] 3 ?_ ?_
 ·refine Fg.vS rfl (by decide) (fun ac w h => ?_) ?_
  ·have e2 : _ = Value.pointer (some ⟨w0.heap.size, 0, none⟩) := h.r 2
   exact Fg.vn y.v (Fg.run_load rfl e2 ((hY.gn h.base).range 0 (feL y) rfl) Tryd.underlying26 rfl info_elem)
  refine Fg.cS rfl (by decide) (fun ac w h => ?_) ?_
  ·have e9 : _ = y.v := h.d 9
   refine ⟨wants_none rfl, 28, #[y.v], Fg.run_call rfl rfl (by simp only [List.map_toArray, List.map_cons, List.map_nil, Act.eval, e9]) (Fg.run_enter Tryd.func28 (by kernel_rfl) (by kernel_rfl)), ?_⟩
   exact (t_sq oky).mono fun _ _ ⟨he, hg⟩ => ⟨_, he, hg, rfl⟩
  refine ⟨⟨⟨_, rfl⟩, Fg.allocP (fun _ _ h k => gb_trans h k) rfl (by show 6 < 36; decide) fun ac w h => ?_⟩, ?_⟩
  ·refine ⟨wants_none rfl, w.alloc (.cells zr5.toArray 26), ?_, World.grownBy_alloc _ _ _, by simp, ⟨w.heap.size, rfl, h.base.size, Blk.new w zr5 _⟩⟩
   clear h
   go_simp
  trivial
 ·intro qa V1 g1 hsz hdf hrest hslots hpt
  obtain ⟨N6, hs6, hn6, hb6⟩ : ∃ N, qa.tmps.getD 6 undef = .pointer (some ⟨N, 0, none⟩) ∧ W0.heap.size ≤ N ∧ Blk V1 N 26 zr5 := hslots 6 (by kernel_rfl)
  obtain ⟨u9, hs9⟩ := Fg.slotv qa 9
  obtain ⟨x1, hx1⟩ : ∃ x : Fe, x = Fe.sqF y := ⟨_, rfl⟩
  obtain rfl := Fg.frame_by [6, 9, 10] (vs := [y.v, Value.bool false, Value.pointer (some ⟨w0.heap.size, 0, none⟩), undef, Value.pointer (some ⟨w0.heap.size + 1, 0, none⟩), Value.bool false, Value.pointer (some ⟨N6, 0, none⟩), undef, undef, u9, x1.v, undef, undef, undef, undef, undef, undef, undef, undef, undef, undef, undef, undef, undef, undef, undef, undef, undef, undef, undef, undef, undef, undef, undef, undef, undef]) hsz hrest (by kernel_rfl) rfl rfl ⟨hs6, hs9, (show qa.tmps.getD 10 undef = x1.v by rw [hx1]; exact hslots 10 (by kernel_rfl)), trivial⟩ hdf
  clear hsz hdf hrest hslots hpt hs6 hs9
  have Hx1 := Lib.hid hx1; clear hx1
  replace hY := hY.gn g1
  replace hR := hR.gn g1
  replace G := gb_trans G g1
  replace HT := HT.grown g1
  have okx1 : x1.Ok := by rw [Hx1.out]; exact (Fe.sq_right _).ok
  have hw6 : w0.heap.size ≤ N6 := Nat.le_trans Gs0 hn6
  clear g1
  refine Fg.wpl_skip rfl rfl (Fg.run_store (cs := feL x1) rfl rfl rfl (hb6.there 0 5 (by show 0 + 5 ≤ 5; decide)) info_elem (feL_one _)) ?_
  replace hY := hY.setCells_other (C := N6) (cs := feL x1) 0 (by omega)
  replace hR := hR.setCells_other (C := N6) (cs := feL x1) 0 (by omega)
  replace hb6 : Blk (V1.setCells N6 0 (feL x1)) N6 26 (feL x1) := hb6.setAll rfl
  replace G := gb_setCells_new (cs := feL x1) G (B := N6) (hw6) 0
  replace HT := HT.keep (gb_setCells (cs := feL x1) (gb_refl _ (some N6)) 0) (HT0.noG (hw6))
  revert hY hR hb6 G HT
  generalize V1.setCells N6 0 (feL x1) = W2
  intro hY hR hb6 G HT
  go_upto_region 2 with (fail)
  have Gs2 := G.size
  have l2hY := hY.lt
  have l2hR := hR.lt
  have l2hb6 := hb6.lt
  have HOV : ∀ it ∈ ([.any, .any, .any, .any, .any, .any, .any, .room 26 5 W2.heap.size, .val (Value.bool true), .any, .any, .val (Value.tuple #[r.v, .bool true]), .val (x1.v), .val (Fe.oneF.v), .val ((Fe.subF x1 Fe.oneF).v), .val (dF.v), .val (x1.v), .val ((Fe.mulF dF x1).v), .val (Fe.oneF.v), .val ((Fe.addF (Fe.mulF dF x1) Fe.oneF).v), .val (Value.tuple #[r.v, .bool true]), .val (r.v), .val (Value.bool true)] : List Fg.It), it.Over := by
   intro it hit
   simp only [List.mem_cons, List.not_mem_nil, or_false] at hit
   rcases hit with rfl | rfl | rfl | rfl | rfl | rfl | rfl | rfl | rfl | rfl | rfl | rfl | rfl | rfl | rfl | rfl | rfl | rfl | rfl | rfl | rfl | rfl | rfl
   all_goals first | exact Fg.any_over | exact Fg.val_over _ | exact Fg.room_over _ _ _
  refine wp_region_flow3 (Fg.its [.any, .any, .any, .any, .any, .any, .any, .room 26 5 W2.heap.size, .val (Value.bool true), .any, .any, .val (Value.tuple #[r.v, .bool true]), .val (x1.v), .val (Fe.oneF.v), .val ((Fe.subF x1 Fe.oneF).v), .val (dF.v), .val (x1.v), .val ((Fe.mulF dF x1).v), .val (Fe.oneF.v), .val ((Fe.addF (Fe.mulF dF x1) Fe.oneF).v), .val (Value.tuple #[r.v, .bool true]), .val (r.v), .val (Value.bool true)]) (fun _ => 7) (Fg.Stored1 26 (feL r)) (fun w => World.grownBy W2 w none) [7] (by kernel_rfl) (by kernel_rfl) (by kernel_rfl) (gb_drew (gb_refl _ _)) (Fg.ptrs_undef (by kernel_rfl)) (by kernel_rfl) ?_ ?_
  ·refine ⟨Fg.valueM rfl (by decide) fun ac w h => ?_, ?_⟩
   ·have e6 : _ = Value.pointer (some ⟨N6, 0, none⟩) := h.r 6
    exact Fg.vn x1.v (Fg.run_load rfl e6 ((hb6.gn h.base).range 0 (feL x1) rfl) Tryd.underlying26 rfl info_elem)
   refine ⟨Fg.callM rfl (by decide) fun ac w h => ?_, ?_⟩
   ·refine ⟨wants_none rfl, 30, #[], Fg.run_call rfl rfl (by simp) (Fg.run_enter Tryd.func30 (by kernel_rfl) (by kernel_rfl)), ?_⟩
    exact (t_one).mono fun _ _ ⟨he, hg⟩ => ⟨_, he, hg, rfl⟩
   refine ⟨Fg.callM rfl (by decide) fun ac w h => ?_, ?_⟩
   ·have e12 : _ = x1.v := h.d 12
    have e13 : _ = Fe.oneF.v := h.d 13
    refine ⟨wants_none rfl, 29, #[x1.v, Fe.oneF.v], Fg.run_call rfl rfl (by simp only [List.map_toArray, List.map_cons, List.map_nil, Act.eval, e12, e13]) (Fg.run_enter Tryd.func29 (by kernel_rfl) (by kernel_rfl)), ?_⟩
    exact (t_sub (HT.f.grown h.base) okx1 one_ok).mono fun _ _ ⟨he, hg⟩ => ⟨_, he, hg, rfl⟩
   refine ⟨Fg.valueM rfl (by decide) fun ac w h => ?_, ?_⟩
   ·exact Fg.vn dF.v (Fg.run_load rfl rfl (HT.grown h.base).d Tryd.underlying26 rfl info_elem)
   refine ⟨Fg.valueM rfl (by decide) fun ac w h => ?_, ?_⟩
   ·have e6 : _ = Value.pointer (some ⟨N6, 0, none⟩) := h.r 6
    exact Fg.vn x1.v (Fg.run_load rfl e6 ((hb6.gn h.base).range 0 (feL x1) rfl) Tryd.underlying26 rfl info_elem)
   refine ⟨Fg.callM rfl (by decide) fun ac w h => ?_, ?_⟩
   ·have e15 : _ = dF.v := h.d 15
    have e16 : _ = x1.v := h.d 16
    refine ⟨wants_none rfl, 25, #[dF.v, x1.v], Fg.run_call rfl rfl (by simp only [List.map_toArray, List.map_cons, List.map_nil, Act.eval, e15, e16]) (Fg.run_enter Tryd.func25 (by kernel_rfl) (by kernel_rfl)), ?_⟩
    exact (t_mul dF_right.ok okx1).mono fun _ _ ⟨he, hg⟩ => ⟨_, he, hg, rfl⟩
   refine ⟨Fg.callM rfl (by decide) fun ac w h => ?_, ?_⟩
   ·refine ⟨wants_none rfl, 30, #[], Fg.run_call rfl rfl (by simp) (Fg.run_enter Tryd.func30 (by kernel_rfl) (by kernel_rfl)), ?_⟩
    exact (t_one).mono fun _ _ ⟨he, hg⟩ => ⟨_, he, hg, rfl⟩
   refine ⟨Fg.callM rfl (by decide) fun ac w h => ?_, ?_⟩
   ·have e17 : _ = (Fe.mulF dF x1).v := h.d 17
    have e18 : _ = Fe.oneF.v := h.d 18
    refine ⟨wants_none rfl, 39, #[(Fe.mulF dF x1).v, Fe.oneF.v], Fg.run_call rfl rfl (by simp only [List.map_toArray, List.map_cons, List.map_nil, Act.eval, e17, e18]) (Fg.run_enter Tryd.func39 (by kernel_rfl) (by kernel_rfl)), ?_⟩
    exact (t_add (Fe.mul_right _ _).ok one_ok).mono fun _ _ ⟨he, hg⟩ => ⟨_, he, hg, rfl⟩
   refine ⟨Fg.callM rfl (by decide) fun ac w h => ?_, ?_⟩
   ·have e14 : _ = (Fe.subF x1 Fe.oneF).v := h.d 14
    have e19 : _ = (Fe.addF (Fe.mulF dF x1) Fe.oneF).v := h.d 19
    refine ⟨wants_none rfl, 59, #[(Fe.subF x1 Fe.oneF).v, (Fe.addF (Fe.mulF dF x1) Fe.oneF).v], Fg.run_call rfl rfl (by simp only [List.map_toArray, List.map_cons, List.map_nil, Act.eval, e14, e19]) (Fg.run_enter Tryd.func59 (by kernel_rfl) (by kernel_rfl)), ?_⟩
    exact (t_root (HT.f.grown h.base) (Fe.sub_right _ _).ok (Fe.add_right _ _).ok (by rw [Hx1.out]; exact hr)).mono fun _ _ ⟨he, hg⟩ => ⟨_, he, hg, rfl⟩
   refine ⟨Fg.valueM rfl (by decide) fun ac w h => ?_, ?_⟩
   ·have e20 : _ = Value.tuple #[r.v, .bool true] := h.d 20
    exact Fg.vn (Value.tuple #[r.v, .bool true]) (Fg.run_move rfl e20)
   refine ⟨Fg.valueM rfl (by decide) fun ac w h => ?_, ?_⟩
   ·have e11 : _ = Value.tuple #[r.v, .bool true] := h.d 11
    exact Fg.vn r.v (Fg.run_extract rfl e11 rfl)
   refine ⟨Fg.valueM rfl (by decide) fun ac w h => ?_, ?_⟩
   ·have e11 : _ = Value.tuple #[r.v, .bool true] := h.d 11
    exact Fg.vn (Value.bool true) (Fg.run_extract rfl e11 rfl)
   refine ⟨Fg.allocM rfl (by show 7 < 36; decide) fun ac w h => ?_, ?_⟩
   ·refine ⟨wants_none rfl, w.alloc (.cells zr5.toArray 26), ?_, World.grownBy_alloc _ _ _, by simp, ⟨w.heap.size, rfl, h.base.size, _, rfl, Blk.new w zr5 _⟩⟩
    clear h
    go_simp
   refine ⟨Fg.storeM rfl rfl HOV info_elem (feL_one r) fun ac w h => ?_, ?_⟩
   ·obtain ⟨N, ep, hn, V, hl, hb⟩ : ∃ N, ac.tmps.getD 7 undef = .pointer (some ⟨N, 0, none⟩) ∧ W2.heap.size ≤ N ∧ ∃ V : List Value, V.length = 5 ∧ Blk w N 26 V := h.dep 7 (by kernel_rfl)
    have e21 : _ = r.v := h.d 21
    exact ⟨wants_none rfl, N, ep, ep, e21, hn, V, hl, hb⟩
   refine ⟨Fg.valueM rfl (by decide) fun ac w h => ?_, ?_⟩
   ·have e22 : _ = Value.bool true := h.d 22
    exact Fg.vn (Value.bool true) (Fg.run_assign rfl e22)
   trivial
  ·intro qa V3 g3 hsz hdf hrest hslots hmems
   obtain ⟨N7, hs7, hb7⟩ : ∃ N, qa.tmps.getD 7 undef = .pointer (some ⟨N, 0, none⟩) ∧ Blk V3 N 26 (feL r) := hmems 13 _ rfl rfl
   have hn7 : W2.heap.size ≤ N7 := by
    obtain ⟨N, e, hn, _⟩ : ∃ N, qa.tmps.getD 7 undef = .pointer (some ⟨N, 0, none⟩) ∧ W2.heap.size ≤ N ∧ ∃ V : List Value, V.length = 5 ∧ Blk V3 N 26 V := hslots 7 (by kernel_rfl)
    rw [hs7] at e; cases e; exact hn
   obtain ⟨u11, hs11⟩ := Fg.slotv qa 11
   obtain ⟨u12, hs12⟩ := Fg.slotv qa 12
   obtain ⟨u13, hs13⟩ := Fg.slotv qa 13
   obtain ⟨u14, hs14⟩ := Fg.slotv qa 14
   obtain ⟨u15, hs15⟩ := Fg.slotv qa 15
   obtain ⟨u16, hs16⟩ := Fg.slotv qa 16
   obtain ⟨u17, hs17⟩ := Fg.slotv qa 17
   obtain ⟨u18, hs18⟩ := Fg.slotv qa 18
   obtain ⟨u19, hs19⟩ := Fg.slotv qa 19
   obtain ⟨u20, hs20⟩ := Fg.slotv qa 20
   obtain rfl := Fg.frame_is (a := qa) (vs := [y.v, Value.bool false, Value.pointer (some ⟨w0.heap.size, 0, none⟩), undef, Value.pointer (some ⟨w0.heap.size + 1, 0, none⟩), Value.bool false, Value.pointer (some ⟨N6, 0, none⟩), Value.pointer (some ⟨N7, 0, none⟩), Value.bool true, u9, x1.v, u11, u12, u13, u14, u15, u16, u17, u18, u19, u20, r.v, Value.bool true, undef, undef, undef, undef, undef, undef, undef, undef, undef, undef, undef, undef, undef]) hsz ⟨hrest 0 (by kernel_rfl), hrest 1 (by kernel_rfl), hrest 2 (by kernel_rfl), hrest 3 (by kernel_rfl), hrest 4 (by kernel_rfl), hrest 5 (by kernel_rfl), hrest 6 (by kernel_rfl), hs7, (show qa.tmps.getD 8 undef = Value.bool true from hslots 8 (by kernel_rfl)), hrest 9 (by kernel_rfl), hrest 10 (by kernel_rfl), hs11, hs12, hs13, hs14, hs15, hs16, hs17, hs18, hs19, hs20, (show qa.tmps.getD 21 undef = r.v from hslots 21 (by kernel_rfl)), (show qa.tmps.getD 22 undef = Value.bool true from hslots 22 (by kernel_rfl)), hrest 23 (by kernel_rfl), hrest 24 (by kernel_rfl), hrest 25 (by kernel_rfl), hrest 26 (by kernel_rfl), hrest 27 (by kernel_rfl), hrest 28 (by kernel_rfl), hrest 29 (by kernel_rfl), hrest 30 (by kernel_rfl), hrest 31 (by kernel_rfl), hrest 32 (by kernel_rfl), hrest 33 (by kernel_rfl), hrest 34 (by kernel_rfl), hrest 35 (by kernel_rfl), trivial⟩ hdf
   clear hsz hdf hrest hslots hmems hs7 hs11 hs12 hs13 hs14 hs15 hs16 hs17 hs18 hs19 hs20
   replace hY := hY.gn g3
   replace hR := hR.gn g3
   replace hb6 := hb6.gn g3
   replace G := gb_trans G g3
   replace HT := HT.grown g3
   have hw7 : w0.heap.size ≤ N7 := Nat.le_trans Gs2 hn7
   clear g3
   go_upto_region 3 with (fail)
   have Gs3 := G.size
   have l3hY := hY.lt
   have l3hR := hR.lt
   have l3hb6 := hb6.lt
   have l3hb7 := hb7.lt
   refine Fg.rP [] [.any, .any, .any, .any, .any, .any, .any, .any, .any, .any, .any, .any, .any, .any, .any, .any, .any, .any, .any, .any, .any, .any, .any, .val (Value.bool true), .val (Value.bool false), .val (Value.bool false), .val (Value.bool false), .val (Value.bool true), .val (Value.bool true)] 6 ?_ ?_
   ·refine Fg.vS rfl (by decide) (fun ac w h => ?_) ?_
    ·have e8 : _ = Value.bool true := h.r 8
     exact Fg.vn (Value.bool true) (Fg.run_move rfl e8)
    refine Fg.vS rfl (by decide) (fun ac w h => ?_) ?_
    ·have e23 : _ = Value.bool true := h.d 23
     refine ⟨wants_none rfl, Value.bool false, w, ?_, gb_refl _ _, rfl⟩
     clear h
     simp only [execOp, Act.eval, e23]
     go_simp
    refine Fg.vS rfl (by decide) (fun ac w h => ?_) ?_
    ·have e24 : _ = Value.bool false := h.d 24
     exact Fg.vn (Value.bool false) (Fg.run_move rfl e24)
    refine Fg.vS rfl (by decide) (fun ac w h => ?_) ?_
    ·have e25 : _ = Value.bool false := h.d 25
     have e1 : _ = Value.bool false := h.r 1
     exact Fg.vx (Value.bool false) (wants_some (d := 25) rfl rfl (by rw [h.size]; show 25 < 36; decide) e25) (Fg.run_move rfl e1)
    refine Fg.vS rfl (by decide) (fun ac w h => ?_) ?_
    ·have e25 : _ = Value.bool false := h.d 25
     have e26 : _ = Value.bool false := h.d 26
     refine ⟨wants_some (d := 25) rfl rfl (by rw [h.size]; show 25 < 36; decide) e25, Value.bool true, w, ?_, gb_refl _ _, rfl⟩
     clear h
     simp only [execOp, Act.eval, e26]
     go_simp
    refine Fg.vS rfl (by decide) (fun ac w h => ?_) ?_
    ·have e25 : _ = Value.bool false := h.d 25
     have e27 : _ = Value.bool true := h.d 27
     refine ⟨wants_none rfl, Value.bool true, w, ?_, gb_refl _ _, rfl⟩
     clear h
     simp only [execOp, Act.eval, e25, e27]
     go_simp
    trivial
   ·intro qa V4 g4 hsz hdf hrest hslots hpt
    obtain ⟨u23, hs23⟩ := Fg.slotv qa 23
    obtain ⟨u24, hs24⟩ := Fg.slotv qa 24
    obtain ⟨u25, hs25⟩ := Fg.slotv qa 25
    obtain ⟨u26, hs26⟩ := Fg.slotv qa 26
    obtain ⟨u27, hs27⟩ := Fg.slotv qa 27
    obtain rfl := Fg.frame_by [23, 24, 25, 26, 27, 28] (vs := [y.v, Value.bool false, Value.pointer (some ⟨w0.heap.size, 0, none⟩), undef, Value.pointer (some ⟨w0.heap.size + 1, 0, none⟩), Value.bool false, Value.pointer (some ⟨N6, 0, none⟩), Value.pointer (some ⟨N7, 0, none⟩), Value.bool true, u9, x1.v, u11, u12, u13, u14, u15, u16, u17, u18, u19, u20, r.v, Value.bool true, u23, u24, u25, u26, u27, Value.bool true, undef, undef, undef, undef, undef, undef, undef]) hsz hrest (by kernel_rfl) rfl rfl ⟨hs23, hs24, hs25, hs26, hs27, (show qa.tmps.getD 28 undef = Value.bool true from hslots 28 (by kernel_rfl)), trivial⟩ hdf
    clear hsz hdf hrest hslots hpt hs23 hs24 hs25 hs26 hs27
    replace hY := hY.gn g4
    replace hR := hR.gn g4
    replace hb6 := hb6.gn g4
    replace hb7 := hb7.gn g4
    replace G := gb_trans G g4
    replace HT := HT.grown g4
    clear g4
    go_upto_region 4 with (fail)
    have Gs4 := G.size
    have l4hY := hY.lt
    have l4hR := hR.lt
    have l4hb6 := hb6.lt
    have l4hb7 := hb7.lt
    refine Fg.rP [] [.any, .any, .any, .any, .any, .any, .any, .any, .any, .any, .any, .any, .any, .any, .any, .any, .any, .any, .any, .any, .any, .any, .any, .any, .any, .any, .any, .any, .any, .val (r.v), .val (Value.bool true)] 2 ?_ ?_
    ·refine Fg.vS rfl (by decide) (fun ac w h => ?_) ?_
     ·have e7 : _ = Value.pointer (some ⟨N7, 0, none⟩) := h.r 7
      exact Fg.vn r.v (Fg.run_load rfl e7 ((hb7.gn h.base).range 0 (feL r) rfl) Tryd.underlying26 rfl info_elem)
     refine Fg.vS rfl (by decide) (fun ac w h => ?_) ?_
     ·have e8 : _ = Value.bool true := h.r 8
      exact Fg.vn (Value.bool true) (Fg.run_move rfl e8)
     trivial
    ·intro qa V5 g5 hsz hdf hrest hslots hpt
     obtain rfl := Fg.frame_by [29, 30] (vs := [y.v, Value.bool false, Value.pointer (some ⟨w0.heap.size, 0, none⟩), undef, Value.pointer (some ⟨w0.heap.size + 1, 0, none⟩), Value.bool false, Value.pointer (some ⟨N6, 0, none⟩), Value.pointer (some ⟨N7, 0, none⟩), Value.bool true, u9, x1.v, u11, u12, u13, u14, u15, u16, u17, u18, u19, u20, r.v, Value.bool true, u23, u24, u25, u26, u27, Value.bool true, r.v, Value.bool true, undef, undef, undef, undef, undef]) hsz hrest (by kernel_rfl) rfl rfl ⟨(show qa.tmps.getD 29 undef = r.v from hslots 29 (by kernel_rfl)), (show qa.tmps.getD 30 undef = Value.bool true from hslots 30 (by kernel_rfl)), trivial⟩ hdf
     clear hsz hdf hrest hslots hpt
     replace hY := hY.gn g5
     replace hR := hR.gn g5
     replace hb6 := hb6.gn g5
     replace hb7 := hb7.gn g5
     replace G := gb_trans G g5
     replace HT := HT.grown g5
     clear g5
     refine Fg.wpl_skip rfl rfl (Fg.run_store (cs := feL r) rfl rfl rfl (hR.there 0 5 (by show 0 + 5 ≤ 5; decide)) info_elem (feL_one _)) ?_
     replace hY := hY.setCells_other (C := (w0.heap.size + 1)) (cs := feL r) 0 (by omega)
     replace hR : Blk (V5.setCells (w0.heap.size + 1) 0 (feL r)) (w0.heap.size + 1) 26 (feL r) := hR.setAll rfl
     replace hb6 := hb6.setCells_other (C := (w0.heap.size + 1)) (cs := feL r) 0 (by omega)
     replace hb7 := hb7.setCells_other (C := (w0.heap.size + 1)) (cs := feL r) 0 (by omega)
     replace G := gb_setCells_new (cs := feL r) G (B := (w0.heap.size + 1)) (by omega) 0
     replace HT := HT.keep (gb_setCells (cs := feL r) (gb_refl _ (some (w0.heap.size + 1))) 0) (HT0.noG (by omega))
     revert hY hR hb6 hb7 G HT
     generalize V5.setCells (w0.heap.size + 1) 0 (feL r) = W6
     intro hY hR hb6 hb7 G HT
     go_wp2_with fail
     exact bodyPost_ret (v := .tuple #[r.v, .bool true]) (results_row_tmp Tryd.results43 _ _ (w0.heap.size + 1) 26 (feL r).toArray (0, 0) _ rfl hR Tryd.underlying26 rfl info_elem rfl) rfl ⟨rfl, G⟩
set_option maxRecDepth 100000 in
set_option maxHeartbeats 3200000 in
theorem across_tz (y : Fe) (w0 : World) (HT0 : ETab w0) (oky : y.Ok) (r : Fe) (okr : r.Ok) (hr : rootF (Fe.subF (Fe.sqF y) Fe.oneF) (Fe.addF (Fe.mulF dF (Fe.sqF y)) Fe.oneF) = (r, true)) (hz : decide (Fe.m r = 0) = true) :
  Calls Tryd.prog 43 #[y.v, .bool true] w0 fun e w' => e = .returned (.tuple #[(Fe.zeroF).v, .bool false]) ∧ w0.grownBy w' none := by
 show Calls Tryd.prog 43 #[.agg (feL y).toArray, .bool true] w0 _
 go_enter Tryd.func43, Tryd.ntmps43
 go_upto_region 1 with (fail)
 have G : w0.grownBy ((w0.alloc (.cells (feL y).toArray 26)).alloc (.cells zr5.toArray 26)) none := gb_alloc (gb_alloc (gb_refl _ _) _) _
 have HT : ETab ((w0.alloc (.cells (feL y).toArray 26)).alloc (.cells zr5.toArray 26)) := HT0.grown (gb_alloc (gb_alloc (gb_refl _ _) _) _)
 have hY : Blk ((w0.alloc (.cells (feL y).toArray 26)).alloc (.cells zr5.toArray 26)) (w0.heap.size) 26 (feL y) := (Blk.new w0 (feL y) _).alloc _
 have hR : Blk ((w0.alloc (.cells (feL y).toArray 26)).alloc (.cells zr5.toArray 26)) (w0.heap.size + 1) 26 zr5 := Blk.newAt (w0.alloc _) zr5 _ (by simp)
 revert G HT hY hR
 generalize (w0.alloc (.cells (feL y).toArray 26)).alloc (.cells zr5.toArray 26) = W0
 intro G HT hY hR
 have Gs := G.size
 have Gs0 := G.size
 have l1hY := hY.lt
 have l1hR := hR.lt
 refine Fg.rP [6] [.any, .any, .any, .any, .any, .any, .fresh 26 zr5 W0.heap.size, .any, .any, .val (y.v), .val ((Fe.sqF y).v)] 3 ?_ ?_
 ·refine Fg.vS rfl (by decide) (fun ac w h => ?_) ?_
  ·have e2 : _ = Value.pointer (some ⟨w0.heap.size, 0, none⟩) := h.r 2
   exact Fg.vn y.v (Fg.run_load rfl e2 ((hY.gn h.base).range 0 (feL y) rfl) Tryd.underlying26 rfl info_elem)
  refine Fg.cS rfl (by decide) (fun ac w h => ?_) ?_
  ·have e9 : _ = y.v := h.d 9
   refine ⟨wants_none rfl, 28, #[y.v], Fg.run_call rfl rfl (by simp only [List.map_toArray, List.map_cons, List.map_nil, Act.eval, e9]) (Fg.run_enter Tryd.func28 (by kernel_rfl) (by kernel_rfl)), ?_⟩
   exact (t_sq oky).mono fun _ _ ⟨he, hg⟩ => ⟨_, he, hg, rfl⟩
  refine ⟨⟨⟨_, rfl⟩, Fg.allocP (fun _ _ h k => gb_trans h k) rfl (by show 6 < 36; decide) fun ac w h => ?_⟩, ?_⟩
  ·refine ⟨wants_none rfl, w.alloc (.cells zr5.toArray 26), ?_, World.grownBy_alloc _ _ _, by simp, ⟨w.heap.size, rfl, h.base.size, Blk.new w zr5 _⟩⟩
   clear h
   go_simp
  trivial
 ·intro qa V1 g1 hsz hdf hrest hslots hpt
  obtain ⟨N6, hs6, hn6, hb6⟩ : ∃ N, qa.tmps.getD 6 undef = .pointer (some ⟨N, 0, none⟩) ∧ W0.heap.size ≤ N ∧ Blk V1 N 26 zr5 := hslots 6 (by kernel_rfl)
  obtain ⟨u9, hs9⟩ := Fg.slotv qa 9
  obtain ⟨x1, hx1⟩ : ∃ x : Fe, x = Fe.sqF y := ⟨_, rfl⟩
  obtain rfl := Fg.frame_by [6, 9, 10] (vs := [y.v, Value.bool true, Value.pointer (some ⟨w0.heap.size, 0, none⟩), undef, Value.pointer (some ⟨w0.heap.size + 1, 0, none⟩), Value.bool false, Value.pointer (some ⟨N6, 0, none⟩), undef, undef, u9, x1.v, undef, undef, undef, undef, undef, undef, undef, undef, undef, undef, undef, undef, undef, undef, undef, undef, undef, undef, undef, undef, undef, undef, undef, undef, undef]) hsz hrest (by kernel_rfl) rfl rfl ⟨hs6, hs9, (show qa.tmps.getD 10 undef = x1.v by rw [hx1]; exact hslots 10 (by kernel_rfl)), trivial⟩ hdf
  clear hsz hdf hrest hslots hpt hs6 hs9
  have Hx1 := Lib.hid hx1; clear hx1
  replace hY := hY.gn g1
  replace hR := hR.gn g1
  replace G := gb_trans G g1
  replace HT := HT.grown g1
  have okx1 : x1.Ok := by rw [Hx1.out]; exact (Fe.sq_right _).ok
  have hw6 : w0.heap.size ≤ N6 := Nat.le_trans Gs0 hn6
  clear g1
  refine Fg.wpl_skip rfl rfl (Fg.run_store (cs := feL x1) rfl rfl rfl (hb6.there 0 5 (by show 0 + 5 ≤ 5; decide)) info_elem (feL_one _)) ?_
  replace hY := hY.setCells_other (C := N6) (cs := feL x1) 0 (by omega)
  replace hR := hR.setCells_other (C := N6) (cs := feL x1) 0 (by omega)
  replace hb6 : Blk (V1.setCells N6 0 (feL x1)) N6 26 (feL x1) := hb6.setAll rfl
  replace G := gb_setCells_new (cs := feL x1) G (B := N6) (hw6) 0
  replace HT := HT.keep (gb_setCells (cs := feL x1) (gb_refl _ (some N6)) 0) (HT0.noG (hw6))
  revert hY hR hb6 G HT
  generalize V1.setCells N6 0 (feL x1) = W2
  intro hY hR hb6 G HT
  go_upto_region 2 with (fail)
  have Gs2 := G.size
  have l2hY := hY.lt
  have l2hR := hR.lt
  have l2hb6 := hb6.lt
  have HOV : ∀ it ∈ ([.any, .any, .any, .any, .any, .any, .any, .room 26 5 W2.heap.size, .val (Value.bool true), .any, .any, .val (Value.tuple #[r.v, .bool true]), .val (x1.v), .val (Fe.oneF.v), .val ((Fe.subF x1 Fe.oneF).v), .val (dF.v), .val (x1.v), .val ((Fe.mulF dF x1).v), .val (Fe.oneF.v), .val ((Fe.addF (Fe.mulF dF x1) Fe.oneF).v), .val (Value.tuple #[r.v, .bool true]), .val (r.v), .val (Value.bool true)] : List Fg.It), it.Over := by
   intro it hit
   simp only [List.mem_cons, List.not_mem_nil, or_false] at hit
   rcases hit with rfl | rfl | rfl | rfl | rfl | rfl | rfl | rfl | rfl | rfl | rfl | rfl | rfl | rfl | rfl | rfl | rfl | rfl | rfl | rfl | rfl | rfl | rfl
   all_goals first | exact Fg.any_over | exact Fg.val_over _ | exact Fg.room_over _ _ _
  refine wp_region_flow3 (Fg.its [.any, .any, .any, .any, .any, .any, .any, .room 26 5 W2.heap.size, .val (Value.bool true), .any, .any, .val (Value.tuple #[r.v, .bool true]), .val (x1.v), .val (Fe.oneF.v), .val ((Fe.subF x1 Fe.oneF).v), .val (dF.v), .val (x1.v), .val ((Fe.mulF dF x1).v), .val (Fe.oneF.v), .val ((Fe.addF (Fe.mulF dF x1) Fe.oneF).v), .val (Value.tuple #[r.v, .bool true]), .val (r.v), .val (Value.bool true)]) (fun _ => 7) (Fg.Stored1 26 (feL r)) (fun w => World.grownBy W2 w none) [7] (by kernel_rfl) (by kernel_rfl) (by kernel_rfl) (gb_drew (gb_refl _ _)) (Fg.ptrs_undef (by kernel_rfl)) (by kernel_rfl) ?_ ?_
  ·refine ⟨Fg.valueM rfl (by decide) fun ac w h => ?_, ?_⟩
   ·have e6 : _ = Value.pointer (some ⟨N6, 0, none⟩) := h.r 6
    exact Fg.vn x1.v (Fg.run_load rfl e6 ((hb6.gn h.base).range 0 (feL x1) rfl) Tryd.underlying26 rfl info_elem)
   refine ⟨Fg.callM rfl (by decide) fun ac w h => ?_, ?_⟩
   ·refine ⟨wants_none rfl, 30, #[], Fg.run_call rfl rfl (by simp) (Fg.run_enter Tryd.func30 (by kernel_rfl) (by kernel_rfl)), ?_⟩
    exact (t_one).mono fun _ _ ⟨he, hg⟩ => ⟨_, he, hg, rfl⟩
   refine ⟨Fg.callM rfl (by decide) fun ac w h => ?_, ?_⟩
   ·have e12 : _ = x1.v := h.d 12
    have e13 : _ = Fe.oneF.v := h.d 13
    refine ⟨wants_none rfl, 29, #[x1.v, Fe.oneF.v], Fg.run_call rfl rfl (by simp only [List.map_toArray, List.map_cons, List.map_nil, Act.eval, e12, e13]) (Fg.run_enter Tryd.func29 (by kernel_rfl) (by kernel_rfl)), ?_⟩
    exact (t_sub (HT.f.grown h.base) okx1 one_ok).mono fun _ _ ⟨he, hg⟩ => ⟨_, he, hg, rfl⟩
   refine ⟨Fg.valueM rfl (by decide) fun ac w h => ?_, ?_⟩
   ·exact Fg.vn dF.v (Fg.run_load rfl rfl (HT.grown h.base).d Tryd.underlying26 rfl info_elem)
   refine ⟨Fg.valueM rfl (by decide) fun ac w h => ?_, ?_⟩
   ·have e6 : _ = Value.pointer (some ⟨N6, 0, none⟩) := h.r 6
    exact Fg.vn x1.v (Fg.run_load rfl e6 ((hb6.gn h.base).range 0 (feL x1) rfl) Tryd.underlying26 rfl info_elem)
   refine ⟨Fg.callM rfl (by decide) fun ac w h => ?_, ?_⟩
   ·have e15 : _ = dF.v := h.d 15
    have e16 : _ = x1.v := h.d 16
    refine ⟨wants_none rfl, 25, #[dF.v, x1.v], Fg.run_call rfl rfl (by simp only [List.map_toArray, List.map_cons, List.map_nil, Act.eval, e15, e16]) (Fg.run_enter Tryd.func25 (by kernel_rfl) (by kernel_rfl)), ?_⟩
    exact (t_mul dF_right.ok okx1).mono fun _ _ ⟨he, hg⟩ => ⟨_, he, hg, rfl⟩
   refine ⟨Fg.callM rfl (by decide) fun ac w h => ?_, ?_⟩
   ·refine ⟨wants_none rfl, 30, #[], Fg.run_call rfl rfl (by simp) (Fg.run_enter Tryd.func30 (by kernel_rfl) (by kernel_rfl)), ?_⟩
    exact (t_one).mono fun _ _ ⟨he, hg⟩ => ⟨_, he, hg, rfl⟩
   refine ⟨Fg.callM rfl (by decide) fun ac w h => ?_, ?_⟩
   ·have e17 : _ = (Fe.mulF dF x1).v := h.d 17
    have e18 : _ = Fe.oneF.v := h.d 18
    refine ⟨wants_none rfl, 39, #[(Fe.mulF dF x1).v, Fe.oneF.v], Fg.run_call rfl rfl (by simp only [List.map_toArray, List.map_cons, List.map_nil, Act.eval, e17, e18]) (Fg.run_enter Tryd.func39 (by kernel_rfl) (by kernel_rfl)), ?_⟩
    exact (t_add (Fe.mul_right _ _).ok one_ok).mono fun _ _ ⟨he, hg⟩ => ⟨_, he, hg, rfl⟩
   refine ⟨Fg.callM rfl (by decide) fun ac w h => ?_, ?_⟩
   ·have e14 : _ = (Fe.subF x1 Fe.oneF).v := h.d 14
    have e19 : _ = (Fe.addF (Fe.mulF dF x1) Fe.oneF).v := h.d 19
    refine ⟨wants_none rfl, 59, #[(Fe.subF x1 Fe.oneF).v, (Fe.addF (Fe.mulF dF x1) Fe.oneF).v], Fg.run_call rfl rfl (by simp only [List.map_toArray, List.map_cons, List.map_nil, Act.eval, e14, e19]) (Fg.run_enter Tryd.func59 (by kernel_rfl) (by kernel_rfl)), ?_⟩
    exact (t_root (HT.f.grown h.base) (Fe.sub_right _ _).ok (Fe.add_right _ _).ok (by rw [Hx1.out]; exact hr)).mono fun _ _ ⟨he, hg⟩ => ⟨_, he, hg, rfl⟩
   refine ⟨Fg.valueM rfl (by decide) fun ac w h => ?_, ?_⟩
   ·have e20 : _ = Value.tuple #[r.v, .bool true] := h.d 20
    exact Fg.vn (Value.tuple #[r.v, .bool true]) (Fg.run_move rfl e20)
   refine ⟨Fg.valueM rfl (by decide) fun ac w h => ?_, ?_⟩
   ·have e11 : _ = Value.tuple #[r.v, .bool true] := h.d 11
    exact Fg.vn r.v (Fg.run_extract rfl e11 rfl)
   refine ⟨Fg.valueM rfl (by decide) fun ac w h => ?_, ?_⟩
   ·have e11 : _ = Value.tuple #[r.v, .bool true] := h.d 11
    exact Fg.vn (Value.bool true) (Fg.run_extract rfl e11 rfl)
   refine ⟨Fg.allocM rfl (by show 7 < 36; decide) fun ac w h => ?_, ?_⟩
   ·refine ⟨wants_none rfl, w.alloc (.cells zr5.toArray 26), ?_, World.grownBy_alloc _ _ _, by simp, ⟨w.heap.size, rfl, h.base.size, _, rfl, Blk.new w zr5 _⟩⟩
    clear h
    go_simp
   refine ⟨Fg.storeM rfl rfl HOV info_elem (feL_one r) fun ac w h => ?_, ?_⟩
   ·obtain ⟨N, ep, hn, V, hl, hb⟩ : ∃ N, ac.tmps.getD 7 undef = .pointer (some ⟨N, 0, none⟩) ∧ W2.heap.size ≤ N ∧ ∃ V : List Value, V.length = 5 ∧ Blk w N 26 V := h.dep 7 (by kernel_rfl)
    have e21 : _ = r.v := h.d 21
    exact ⟨wants_none rfl, N, ep, ep, e21, hn, V, hl, hb⟩
   refine ⟨Fg.valueM rfl (by decide) fun ac w h => ?_, ?_⟩
   ·have e22 : _ = Value.bool true := h.d 22
    exact Fg.vn (Value.bool true) (Fg.run_assign rfl e22)
   trivial
  ·intro qa V3 g3 hsz hdf hrest hslots hmems
   obtain ⟨N7, hs7, hb7⟩ : ∃ N, qa.tmps.getD 7 undef = .pointer (some ⟨N, 0, none⟩) ∧ Blk V3 N 26 (feL r) := hmems 13 _ rfl rfl
   have hn7 : W2.heap.size ≤ N7 := by
    obtain ⟨N, e, hn, _⟩ : ∃ N, qa.tmps.getD 7 undef = .pointer (some ⟨N, 0, none⟩) ∧ W2.heap.size ≤ N ∧ ∃ V : List Value, V.length = 5 ∧ Blk V3 N 26 V := hslots 7 (by kernel_rfl)
    rw [hs7] at e; cases e; exact hn
   obtain ⟨u11, hs11⟩ := Fg.slotv qa 11
   obtain ⟨u12, hs12⟩ := Fg.slotv qa 12
   obtain ⟨u13, hs13⟩ := Fg.slotv qa 13
   obtain ⟨u14, hs14⟩ := Fg.slotv qa 14
   obtain ⟨u15, hs15⟩ := Fg.slotv qa 15
   obtain ⟨u16, hs16⟩ := Fg.slotv qa 16
   obtain ⟨u17, hs17⟩ := Fg.slotv qa 17
   obtain ⟨u18, hs18⟩ := Fg.slotv qa 18
   obtain ⟨u19, hs19⟩ := Fg.slotv qa 19
   obtain ⟨u20, hs20⟩ := Fg.slotv qa 20
   obtain rfl := Fg.frame_is (a := qa) (vs := [y.v, Value.bool true, Value.pointer (some ⟨w0.heap.size, 0, none⟩), undef, Value.pointer (some ⟨w0.heap.size + 1, 0, none⟩), Value.bool false, Value.pointer (some ⟨N6, 0, none⟩), Value.pointer (some ⟨N7, 0, none⟩), Value.bool true, u9, x1.v, u11, u12, u13, u14, u15, u16, u17, u18, u19, u20, r.v, Value.bool true, undef, undef, undef, undef, undef, undef, undef, undef, undef, undef, undef, undef, undef]) hsz ⟨hrest 0 (by kernel_rfl), hrest 1 (by kernel_rfl), hrest 2 (by kernel_rfl), hrest 3 (by kernel_rfl), hrest 4 (by kernel_rfl), hrest 5 (by kernel_rfl), hrest 6 (by kernel_rfl), hs7, (show qa.tmps.getD 8 undef = Value.bool true from hslots 8 (by kernel_rfl)), hrest 9 (by kernel_rfl), hrest 10 (by kernel_rfl), hs11, hs12, hs13, hs14, hs15, hs16, hs17, hs18, hs19, hs20, (show qa.tmps.getD 21 undef = r.v from hslots 21 (by kernel_rfl)), (show qa.tmps.getD 22 undef = Value.bool true from hslots 22 (by kernel_rfl)), hrest 23 (by kernel_rfl), hrest 24 (by kernel_rfl), hrest 25 (by kernel_rfl), hrest 26 (by kernel_rfl), hrest 27 (by kernel_rfl), hrest 28 (by kernel_rfl), hrest 29 (by kernel_rfl), hrest 30 (by kernel_rfl), hrest 31 (by kernel_rfl), hrest 32 (by kernel_rfl), hrest 33 (by kernel_rfl), hrest 34 (by kernel_rfl), hrest 35 (by kernel_rfl), trivial⟩ hdf
   clear hsz hdf hrest hslots hmems hs7 hs11 hs12 hs13 hs14 hs15 hs16 hs17 hs18 hs19 hs20
   replace hY := hY.gn g3
   replace hR := hR.gn g3
   replace hb6 := hb6.gn g3
   replace G := gb_trans G g3
   replace HT := HT.grown g3
   have hw7 : w0.heap.size ≤ N7 := Nat.le_trans Gs2 hn7
   clear g3
   go_upto_region 3 with (fail)
   have Gs3 := G.size
   have l3hY := hY.lt
   have l3hR := hR.lt
   have l3hb6 := hb6.lt
   have l3hb7 := hb7.lt
   refine Fg.rP [] [.any, .any, .any, .any, .any, .any, .any, .any, .any, .any, .any, .any, .any, .any, .any, .any, .any, .any, .any, .any, .any, .any, .any, .val (Value.bool true), .val (Value.bool false), .val (Value.bool false), .val (Value.bool true), .val (Value.bool false), .val (Value.bool false)] 6 ?_ ?_
   ·refine Fg.vS rfl (by decide) (fun ac w h => ?_) ?_
    ·have e8 : _ = Value.bool true := h.r 8
     exact Fg.vn (Value.bool true) (Fg.run_move rfl e8)
    refine Fg.vS rfl (by decide) (fun ac w h => ?_) ?_
    ·have e23 : _ = Value.bool true := h.d 23
     refine ⟨wants_none rfl, Value.bool false, w, ?_, gb_refl _ _, rfl⟩
     clear h
     simp only [execOp, Act.eval, e23]
     go_simp
    refine Fg.vS rfl (by decide) (fun ac w h => ?_) ?_
    ·have e24 : _ = Value.bool false := h.d 24
     exact Fg.vn (Value.bool false) (Fg.run_move rfl e24)
    refine Fg.vS rfl (by decide) (fun ac w h => ?_) ?_
    ·have e25 : _ = Value.bool false := h.d 25
     have e1 : _ = Value.bool true := h.r 1
     exact Fg.vx (Value.bool true) (wants_some (d := 25) rfl rfl (by rw [h.size]; show 25 < 36; decide) e25) (Fg.run_move rfl e1)
    refine Fg.vS rfl (by decide) (fun ac w h => ?_) ?_
    ·have e25 : _ = Value.bool false := h.d 25
     have e26 : _ = Value.bool true := h.d 26
     refine ⟨wants_some (d := 25) rfl rfl (by rw [h.size]; show 25 < 36; decide) e25, Value.bool false, w, ?_, gb_refl _ _, rfl⟩
     clear h
     simp only [execOp, Act.eval, e26]
     go_simp
    refine Fg.vS rfl (by decide) (fun ac w h => ?_) ?_
    ·have e25 : _ = Value.bool false := h.d 25
     have e27 : _ = Value.bool false := h.d 27
     refine ⟨wants_none rfl, Value.bool false, w, ?_, gb_refl _ _, rfl⟩
     clear h
     simp only [execOp, Act.eval, e25, e27]
     go_simp
    trivial
   ·intro qa V4 g4 hsz hdf hrest hslots hpt
    obtain ⟨u23, hs23⟩ := Fg.slotv qa 23
    obtain ⟨u24, hs24⟩ := Fg.slotv qa 24
    obtain ⟨u25, hs25⟩ := Fg.slotv qa 25
    obtain ⟨u26, hs26⟩ := Fg.slotv qa 26
    obtain ⟨u27, hs27⟩ := Fg.slotv qa 27
    obtain rfl := Fg.frame_by [23, 24, 25, 26, 27, 28] (vs := [y.v, Value.bool true, Value.pointer (some ⟨w0.heap.size, 0, none⟩), undef, Value.pointer (some ⟨w0.heap.size + 1, 0, none⟩), Value.bool false, Value.pointer (some ⟨N6, 0, none⟩), Value.pointer (some ⟨N7, 0, none⟩), Value.bool true, u9, x1.v, u11, u12, u13, u14, u15, u16, u17, u18, u19, u20, r.v, Value.bool true, u23, u24, u25, u26, u27, Value.bool false, undef, undef, undef, undef, undef, undef, undef]) hsz hrest (by kernel_rfl) rfl rfl ⟨hs23, hs24, hs25, hs26, hs27, (show qa.tmps.getD 28 undef = Value.bool false from hslots 28 (by kernel_rfl)), trivial⟩ hdf
    clear hsz hdf hrest hslots hpt hs23 hs24 hs25 hs26 hs27
    replace hY := hY.gn g4
    replace hR := hR.gn g4
    replace hb6 := hb6.gn g4
    replace hb7 := hb7.gn g4
    replace G := gb_trans G g4
    replace HT := HT.grown g4
    clear g4
    go_upto_region 5 with (fail)
    have Gs4 := G.size
    have l4hY := hY.lt
    have l4hR := hR.lt
    have l4hb6 := hb6.lt
    have l4hb7 := hb7.lt
    refine Fg.rP [] [.any, .any, .any, .any, .any, .any, .any, .any, .any, .any, .any, .any, .any, .any, .any, .any, .any, .any, .any, .any, .any, .any, .any, .any, .any, .any, .any, .any, .any, .any, .any, .val (r.v), .val (Value.bool true)] 2 ?_ ?_
    ·refine Fg.vS rfl (by decide) (fun ac w h => ?_) ?_
     ·have e7 : _ = Value.pointer (some ⟨N7, 0, none⟩) := h.r 7
      exact Fg.vn r.v (Fg.run_load rfl e7 ((hb7.gn h.base).range 0 (feL r) rfl) Tryd.underlying26 rfl info_elem)
     refine Fg.cS rfl (by decide) (fun ac w h => ?_) ?_
     ·have e31 : _ = r.v := h.d 31
      refine ⟨wants_none rfl, 32, #[r.v], Fg.run_call rfl rfl (by simp only [List.map_toArray, List.map_cons, List.map_nil, Act.eval, e31]) (Fg.run_enter Tryd.func32 (by kernel_rfl) (by kernel_rfl)), ?_⟩
      exact (t_zero okr hz).mono fun _ _ ⟨he, hg⟩ => ⟨_, he, hg, rfl⟩
     trivial
    ·intro qa V5 g5 hsz hdf hrest hslots hpt
     obtain ⟨u31, hs31⟩ := Fg.slotv qa 31
     obtain rfl := Fg.frame_by [31, 32] (vs := [y.v, Value.bool true, Value.pointer (some ⟨w0.heap.size, 0, none⟩), undef, Value.pointer (some ⟨w0.heap.size + 1, 0, none⟩), Value.bool false, Value.pointer (some ⟨N6, 0, none⟩), Value.pointer (some ⟨N7, 0, none⟩), Value.bool true, u9, x1.v, u11, u12, u13, u14, u15, u16, u17, u18, u19, u20, r.v, Value.bool true, u23, u24, u25, u26, u27, Value.bool false, undef, undef, u31, Value.bool true, undef, undef, undef]) hsz hrest (by kernel_rfl) rfl rfl ⟨hs31, (show qa.tmps.getD 32 undef = Value.bool true from hslots 32 (by kernel_rfl)), trivial⟩ hdf
     clear hsz hdf hrest hslots hpt hs31
     replace hY := hY.gn g5
     replace hR := hR.gn g5
     replace hb6 := hb6.gn g5
     replace hb7 := hb7.gn g5
     replace G := gb_trans G g5
     replace HT := HT.grown g5
     clear g5
     go_upto_region 6 with (fail)
     have Gs5 := G.size
     have l5hY := hY.lt
     have l5hR := hR.lt
     have l5hb6 := hb6.lt
     have l5hb7 := hb7.lt
     refine Fg.rP [] [.any, .any, .any, .any, .any, .any, .any, .any, .any, .any, .any, .any, .any, .any, .any, .any, .any, .any, .any, .any, .any, .any, .any, .any, .any, .any, .any, .any, .any, .any, .any, .any, .any, .val (Fe.zeroF.v)] 1 ?_ ?_
     ·refine Fg.vS rfl (by decide) (fun ac w h => ?_) ?_
      ·exact Fg.vn Fe.zeroF.v (Fg.run_build (vs := #[]) rfl (by simp) (by kernel_rfl))
      trivial
     ·intro qa V6 g6 hsz hdf hrest hslots hpt
      obtain rfl := Fg.frame_by [33] (vs := [y.v, Value.bool true, Value.pointer (some ⟨w0.heap.size, 0, none⟩), undef, Value.pointer (some ⟨w0.heap.size + 1, 0, none⟩), Value.bool false, Value.pointer (some ⟨N6, 0, none⟩), Value.pointer (some ⟨N7, 0, none⟩), Value.bool true, u9, x1.v, u11, u12, u13, u14, u15, u16, u17, u18, u19, u20, r.v, Value.bool true, u23, u24, u25, u26, u27, Value.bool false, undef, undef, u31, Value.bool true, Fe.zeroF.v, undef, undef]) hsz hrest (by kernel_rfl) rfl rfl ⟨(show qa.tmps.getD 33 undef = Fe.zeroF.v from hslots 33 (by kernel_rfl)), trivial⟩ hdf
      clear hsz hdf hrest hslots hpt
      replace hY := hY.gn g6
      replace hR := hR.gn g6
      replace hb6 := hb6.gn g6
      replace hb7 := hb7.gn g6
      replace G := gb_trans G g6
      replace HT := HT.grown g6
      clear g6
      refine Fg.wpl_skip rfl rfl (Fg.run_store (cs := feL Fe.zeroF) rfl rfl rfl (hR.there 0 5 (by show 0 + 5 ≤ 5; decide)) info_elem (feL_one _)) ?_
      replace hY := hY.setCells_other (C := (w0.heap.size + 1)) (cs := feL Fe.zeroF) 0 (by omega)
      replace hR : Blk (V6.setCells (w0.heap.size + 1) 0 (feL Fe.zeroF)) (w0.heap.size + 1) 26 (feL Fe.zeroF) := hR.setAll rfl
      replace hb6 := hb6.setCells_other (C := (w0.heap.size + 1)) (cs := feL Fe.zeroF) 0 (by omega)
      replace hb7 := hb7.setCells_other (C := (w0.heap.size + 1)) (cs := feL Fe.zeroF) 0 (by omega)
      replace G := gb_setCells_new (cs := feL Fe.zeroF) G (B := (w0.heap.size + 1)) (by omega) 0
      replace HT := HT.keep (gb_setCells (cs := feL Fe.zeroF) (gb_refl _ (some (w0.heap.size + 1))) 0) (HT0.noG (by omega))
      revert hY hR hb6 hb7 G HT
      generalize V6.setCells (w0.heap.size + 1) 0 (feL Fe.zeroF) = W7
      intro hY hR hb6 hb7 G HT
      go_wp2_with fail
      exact bodyPost_ret (v := .tuple #[Fe.zeroF.v, .bool false]) (results_row_tmp Tryd.results43 _ _ (w0.heap.size + 1) 26 (feL Fe.zeroF).toArray (0, 0) _ rfl hR Tryd.underlying26 rfl info_elem rfl) rfl ⟨rfl, G⟩
set_option maxRecDepth 100000 in
set_option maxHeartbeats 3200000 in
theorem across_tn (y : Fe) (w0 : World) (HT0 : ETab w0) (oky : y.Ok) (r : Fe) (okr : r.Ok) (hr : rootF (Fe.subF (Fe.sqF y) Fe.oneF) (Fe.addF (Fe.mulF dF (Fe.sqF y)) Fe.oneF) = (r, true)) (hz : decide (Fe.m r = 0) = false) :
  Calls Tryd.prog 43 #[y.v, .bool true] w0 fun e w' => e = .returned (.tuple #[(Fe.negF r).v, .bool true]) ∧ w0.grownBy w' none := by
 show Calls Tryd.prog 43 #[.agg (feL y).toArray, .bool true] w0 _
 go_enter Tryd.func43, Tryd.ntmps43
 go_upto_region 1 with (fail)
 have G : w0.grownBy ((w0.alloc (.cells (feL y).toArray 26)).alloc (.cells zr5.toArray 26)) none := gb_alloc (gb_alloc (gb_refl _ _) _) _
 have HT : ETab ((w0.alloc (.cells (feL y).toArray 26)).alloc (.cells zr5.toArray 26)) := HT0.grown (gb_alloc (gb_alloc (gb_refl _ _) _) _)
 have hY : Blk ((w0.alloc (.cells (feL y).toArray 26)).alloc (.cells zr5.toArray 26)) (w0.heap.size) 26 (feL y) := (Blk.new w0 (feL y) _).alloc _
 have hR : Blk ((w0.alloc (.cells (feL y).toArray 26)).alloc (.cells zr5.toArray 26)) (w0.heap.size + 1) 26 zr5 := Blk.newAt (w0.alloc _) zr5 _ (by simp)
 revert G HT hY hR
 generalize (w0.alloc (.cells (feL y).toArray 26)).alloc (.cells zr5.toArray 26) = W0
 intro G HT hY hR
 have Gs := G.size
 have Gs0 := G.size
 have l1hY := hY.lt
 have l1hR := hR.lt
 refine Fg.rP [6] [.any, .any, .any, .any, .any, .any, .fresh 26 zr5 W0.heap.size, .any, .any, .val (y.v), .val ((Fe.sqF y).v)] 3 ?_ ?_
 ·refine Fg.vS rfl (by decide) (fun ac w h => ?_) ?_
  ·have e2 : _ = Value.pointer (some ⟨w0.heap.size, 0, none⟩) := h.r 2
   exact Fg.vn y.v (Fg.run_load rfl e2 ((hY.gn h.base).range 0 (feL y) rfl) Tryd.underlying26 rfl info_elem)
  refine Fg.cS rfl (by decide) (fun ac w h => ?_) ?_
  ·have e9 : _ = y.v := h.d 9
   refine ⟨wants_none rfl, 28, #[y.v], Fg.run_call rfl rfl (by simp only [List.map_toArray, List.map_cons, List.map_nil, Act.eval, e9]) (Fg.run_enter Tryd.func28 (by kernel_rfl) (by kernel_rfl)), ?_⟩
   exact (t_sq oky).mono fun _ _ ⟨he, hg⟩ => ⟨_, he, hg, rfl⟩
  refine ⟨⟨⟨_, rfl⟩, Fg.allocP (fun _ _ h k => gb_trans h k) rfl (by show 6 < 36; decide) fun ac w h => ?_⟩, ?_⟩
  ·refine ⟨wants_none rfl, w.alloc (.cells zr5.toArray 26), ?_, World.grownBy_alloc _ _ _, by simp, ⟨w.heap.size, rfl, h.base.size, Blk.new w zr5 _⟩⟩
   clear h
   go_simp
  trivial
 ·intro qa V1 g1 hsz hdf hrest hslots hpt
  obtain ⟨N6, hs6, hn6, hb6⟩ : ∃ N, qa.tmps.getD 6 undef = .pointer (some ⟨N, 0, none⟩) ∧ W0.heap.size ≤ N ∧ Blk V1 N 26 zr5 := hslots 6 (by kernel_rfl)
  obtain ⟨u9, hs9⟩ := Fg.slotv qa 9
  obtain ⟨x1, hx1⟩ : ∃ x : Fe, x = Fe.sqF y := ⟨_, rfl⟩
  obtain rfl := Fg.frame_by [6, 9, 10] (vs := [y.v, Value.bool true, Value.pointer (some ⟨w0.heap.size, 0, none⟩), undef, Value.pointer (some ⟨w0.heap.size + 1, 0, none⟩), Value.bool false, Value.pointer (some ⟨N6, 0, none⟩), undef, undef, u9, x1.v, undef, undef, undef, undef, undef, undef, undef, undef, undef, undef, undef, undef, undef, undef, undef, undef, undef, undef, undef, undef, undef, undef, undef, undef, undef]) hsz hrest (by kernel_rfl) rfl rfl ⟨hs6, hs9, (show qa.tmps.getD 10 undef = x1.v by rw [hx1]; exact hslots 10 (by kernel_rfl)), trivial⟩ hdf
  clear hsz hdf hrest hslots hpt hs6 hs9
  have Hx1 := Lib.hid hx1; clear hx1
  replace hY := hY.gn g1
  replace hR := hR.gn g1
  replace G := gb_trans G g1
  replace HT := HT.grown g1
  have okx1 : x1.Ok := by rw [Hx1.out]; exact (Fe.sq_right _).ok
  have hw6 : w0.heap.size ≤ N6 := Nat.le_trans Gs0 hn6
  clear g1
  refine Fg.wpl_skip rfl rfl (Fg.run_store (cs := feL x1) rfl rfl rfl (hb6.there 0 5 (by show 0 + 5 ≤ 5; decide)) info_elem (feL_one _)) ?_
  replace hY := hY.setCells_other (C := N6) (cs := feL x1) 0 (by omega)
  replace hR := hR.setCells_other (C := N6) (cs := feL x1) 0 (by omega)
  replace hb6 : Blk (V1.setCells N6 0 (feL x1)) N6 26 (feL x1) := hb6.setAll rfl
  replace G := gb_setCells_new (cs := feL x1) G (B := N6) (hw6) 0
  replace HT := HT.keep (gb_setCells (cs := feL x1) (gb_refl _ (some N6)) 0) (HT0.noG (hw6))
  revert hY hR hb6 G HT
  generalize V1.setCells N6 0 (feL x1) = W2
  intro hY hR hb6 G HT
  go_upto_region 2 with (fail)
  have Gs2 := G.size
  have l2hY := hY.lt
  have l2hR := hR.lt
  have l2hb6 := hb6.lt
  have HOV : ∀ it ∈ ([.any, .any, .any, .any, .any, .any, .any, .room 26 5 W2.heap.size, .val (Value.bool true), .any, .any, .val (Value.tuple #[r.v, .bool true]), .val (x1.v), .val (Fe.oneF.v), .val ((Fe.subF x1 Fe.oneF).v), .val (dF.v), .val (x1.v), .val ((Fe.mulF dF x1).v), .val (Fe.oneF.v), .val ((Fe.addF (Fe.mulF dF x1) Fe.oneF).v), .val (Value.tuple #[r.v, .bool true]), .val (r.v), .val (Value.bool true)] : List Fg.It), it.Over := by
   intro it hit
   simp only [List.mem_cons, List.not_mem_nil, or_false] at hit
   rcases hit with rfl | rfl | rfl | rfl | rfl | rfl | rfl | rfl | rfl | rfl | rfl | rfl | rfl | rfl | rfl | rfl | rfl | rfl | rfl | rfl | rfl | rfl | rfl
   all_goals first | exact Fg.any_over | exact Fg.val_over _ | exact Fg.room_over _ _ _
  refine wp_region_flow3 (Fg.its [.any, .any, .any, .any, .any, .any, .any, .room 26 5 W2.heap.size, .val (Value.bool true), .any, .any, .val (Value.tuple #[r.v, .bool true]), .val (x1.v), .val (Fe.oneF.v), .val ((Fe.subF x1 Fe.oneF).v), .val (dF.v), .val (x1.v), .val ((Fe.mulF dF x1).v), .val (Fe.oneF.v), .val ((Fe.addF (Fe.mulF dF x1) Fe.oneF).v), .val (Value.tuple #[r.v, .bool true]), .val (r.v), .val (Value.bool true)]) (fun _ => 7) (Fg.Stored1 26 (feL r)) (fun w => World.grownBy W2 w none) [7] (by kernel_rfl) (by kernel_rfl) (by kernel_rfl) (gb_drew (gb_refl _ _)) (Fg.ptrs_undef (by kernel_rfl)) (by kernel_rfl) ?_ ?_
  ·refine ⟨Fg.valueM rfl (by decide) fun ac w h => ?_, ?_⟩
   ·have e6 : _ = Value.pointer (some ⟨N6, 0, none⟩) := h.r 6
    exact Fg.vn x1.v (Fg.run_load rfl e6 ((hb6.gn h.base).range 0 (feL x1) rfl) Tryd.underlying26 rfl info_elem)
   refine ⟨Fg.callM rfl (by decide) fun ac w h => ?_, ?_⟩
   ·refine ⟨wants_none rfl, 30, #[], Fg.run_call rfl rfl (by simp) (Fg.run_enter Tryd.func30 (by kernel_rfl) (by kernel_rfl)), ?_⟩
    exact (t_one).mono fun _ _ ⟨he, hg⟩ => ⟨_, he, hg, rfl⟩
   refine ⟨Fg.callM rfl (by decide) fun ac w h => ?_, ?_⟩
   ·have e12 : _ = x1.v := h.d 12
    have e13 : _ = Fe.oneF.v := h.d 13
    refine ⟨wants_none rfl, 29, #[x1.v, Fe.oneF.v], Fg.run_call rfl rfl (by simp only [List.map_toArray, List.map_cons, List.map_nil, Act.eval, e12, e13]) (Fg.run_enter Tryd.func29 (by kernel_rfl) (by kernel_rfl)), ?_⟩
    exact (t_sub (HT.f.grown h.base) okx1 one_ok).mono fun _ _ ⟨he, hg⟩ => ⟨_, he, hg, rfl⟩
   refine ⟨Fg.valueM rfl (by decide) fun ac w h => ?_, ?_⟩
   ·exact Fg.vn dF.v (Fg.run_load rfl rfl (HT.grown h.base).d Tryd.underlying26 rfl info_elem)
   refine ⟨Fg.valueM rfl (by decide) fun ac w h => ?_, ?_⟩
   ·have e6 : _ = Value.pointer (some ⟨N6, 0, none⟩) := h.r 6
    exact Fg.vn x1.v (Fg.run_load rfl e6 ((hb6.gn h.base).range 0 (feL x1) rfl) Tryd.underlying26 rfl info_elem)
   refine ⟨Fg.callM rfl (by decide) fun ac w h => ?_, ?_⟩
   ·have e15 : _ = dF.v := h.d 15
    have e16 : _ = x1.v := h.d 16
    refine ⟨wants_none rfl, 25, #[dF.v, x1.v], Fg.run_call rfl rfl (by simp only [List.map_toArray, List.map_cons, List.map_nil, Act.eval, e15, e16]) (Fg.run_enter Tryd.func25 (by kernel_rfl) (by kernel_rfl)), ?_⟩
    exact (t_mul dF_right.ok okx1).mono fun _ _ ⟨he, hg⟩ => ⟨_, he, hg, rfl⟩
   refine ⟨Fg.callM rfl (by decide) fun ac w h => ?_, ?_⟩
   ·refine ⟨wants_none rfl, 30, #[], Fg.run_call rfl rfl (by simp) (Fg.run_enter Tryd.func30 (by kernel_rfl) (by kernel_rfl)), ?_⟩
    exact (t_one).mono fun _ _ ⟨he, hg⟩ => ⟨_, he, hg, rfl⟩
   refine ⟨Fg.callM rfl (by decide) fun ac w h => ?_, ?_⟩
   ·have e17 : _ = (Fe.mulF dF x1).v := h.d 17
    have e18 : _ = Fe.oneF.v := h.d 18
    refine ⟨wants_none rfl, 39, #[(Fe.mulF dF x1).v, Fe.oneF.v], Fg.run_call rfl rfl (by simp only [List.map_toArray, List.map_cons, List.map_nil, Act.eval, e17, e18]) (Fg.run_enter Tryd.func39 (by kernel_rfl) (by kernel_rfl)), ?_⟩
    exact (t_add (Fe.mul_right _ _).ok one_ok).mono fun _ _ ⟨he, hg⟩ => ⟨_, he, hg, rfl⟩
   refine ⟨Fg.callM rfl (by decide) fun ac w h => ?_, ?_⟩
   ·have e14 : _ = (Fe.subF x1 Fe.oneF).v := h.d 14
    have e19 : _ = (Fe.addF (Fe.mulF dF x1) Fe.oneF).v := h.d 19
    refine ⟨wants_none rfl, 59, #[(Fe.subF x1 Fe.oneF).v, (Fe.addF (Fe.mulF dF x1) Fe.oneF).v], Fg.run_call rfl rfl (by simp only [List.map_toArray, List.map_cons, List.map_nil, Act.eval, e14, e19]) (Fg.run_enter Tryd.func59 (by kernel_rfl) (by kernel_rfl)), ?_⟩
    exact (t_root (HT.f.grown h.base) (Fe.sub_right _ _).ok (Fe.add_right _ _).ok (by rw [Hx1.out]; exact hr)).mono fun _ _ ⟨he, hg⟩ => ⟨_, he, hg, rfl⟩
   refine ⟨Fg.valueM rfl (by decide) fun ac w h => ?_, ?_⟩
   ·have e20 : _ = Value.tuple #[r.v, .bool true] := h.d 20
    exact Fg.vn (Value.tuple #[r.v, .bool true]) (Fg.run_move rfl e20)
   refine ⟨Fg.valueM rfl (by decide) fun ac w h => ?_, ?_⟩
   ·have e11 : _ = Value.tuple #[r.v, .bool true] := h.d 11
    exact Fg.vn r.v (Fg.run_extract rfl e11 rfl)
   refine ⟨Fg.valueM rfl (by decide) fun ac w h => ?_, ?_⟩
   ·have e11 : _ = Value.tuple #[r.v, .bool true] := h.d 11
    exact Fg.vn (Value.bool true) (Fg.run_extract rfl e11 rfl)
   refine ⟨Fg.allocM rfl (by show 7 < 36; decide) fun ac w h => ?_, ?_⟩
   ·refine ⟨wants_none rfl, w.alloc (.cells zr5.toArray 26), ?_, World.grownBy_alloc _ _ _, by simp, ⟨w.heap.size, rfl, h.base.size, _, rfl, Blk.new w zr5 _⟩⟩
    clear h
    go_simp
   refine ⟨Fg.storeM rfl rfl HOV info_elem (feL_one r) fun ac w h => ?_, ?_⟩
   ·obtain ⟨N, ep, hn, V, hl, hb⟩ : ∃ N, ac.tmps.getD 7 undef = .pointer (some ⟨N, 0, none⟩) ∧ W2.heap.size ≤ N ∧ ∃ V : List Value, V.length = 5 ∧ Blk w N 26 V := h.dep 7 (by kernel_rfl)
    have e21 : _ = r.v := h.d 21
    exact ⟨wants_none rfl, N, ep, ep, e21, hn, V, hl, hb⟩
   refine ⟨Fg.valueM rfl (by decide) fun ac w h => ?_, ?_⟩
   ·have e22 : _ = Value.bool true := h.d 22
    exact Fg.vn (Value.bool true) (Fg.run_assign rfl e22)
   trivial
  ·intro qa V3 g3 hsz hdf hrest hslots hmems
   obtain ⟨N7, hs7, hb7⟩ : ∃ N, qa.tmps.getD 7 undef = .pointer (some ⟨N, 0, none⟩) ∧ Blk V3 N 26 (feL r) := hmems 13 _ rfl rfl
   have hn7 : W2.heap.size ≤ N7 := by
    obtain ⟨N, e, hn, _⟩ : ∃ N, qa.tmps.getD 7 undef = .pointer (some ⟨N, 0, none⟩) ∧ W2.heap.size ≤ N ∧ ∃ V : List Value, V.length = 5 ∧ Blk V3 N 26 V := hslots 7 (by kernel_rfl)
    rw [hs7] at e; cases e; exact hn
   obtain ⟨u11, hs11⟩ := Fg.slotv qa 11
   obtain ⟨u12, hs12⟩ := Fg.slotv qa 12
   obtain ⟨u13, hs13⟩ := Fg.slotv qa 13
   obtain ⟨u14, hs14⟩ := Fg.slotv qa 14
   obtain ⟨u15, hs15⟩ := Fg.slotv qa 15
   obtain ⟨u16, hs16⟩ := Fg.slotv qa 16
   obtain ⟨u17, hs17⟩ := Fg.slotv qa 17
   obtain ⟨u18, hs18⟩ := Fg.slotv qa 18
   obtain ⟨u19, hs19⟩ := Fg.slotv qa 19
   obtain ⟨u20, hs20⟩ := Fg.slotv qa 20
   obtain rfl := Fg.frame_is (a := qa) (vs := [y.v, Value.bool true, Value.pointer (some ⟨w0.heap.size, 0, none⟩), undef, Value.pointer (some ⟨w0.heap.size + 1, 0, none⟩), Value.bool false, Value.pointer (some ⟨N6, 0, none⟩), Value.pointer (some ⟨N7, 0, none⟩), Value.bool true, u9, x1.v, u11, u12, u13, u14, u15, u16, u17, u18, u19, u20, r.v, Value.bool true, undef, undef, undef, undef, undef, undef, undef, undef, undef, undef, undef, undef, undef]) hsz ⟨hrest 0 (by kernel_rfl), hrest 1 (by kernel_rfl), hrest 2 (by kernel_rfl), hrest 3 (by kernel_rfl), hrest 4 (by kernel_rfl), hrest 5 (by kernel_rfl), hrest 6 (by kernel_rfl), hs7, (show qa.tmps.getD 8 undef = Value.bool true from hslots 8 (by kernel_rfl)), hrest 9 (by kernel_rfl), hrest 10 (by kernel_rfl), hs11, hs12, hs13, hs14, hs15, hs16, hs17, hs18, hs19, hs20, (show qa.tmps.getD 21 undef = r.v from hslots 21 (by kernel_rfl)), (show qa.tmps.getD 22 undef = Value.bool true from hslots 22 (by kernel_rfl)), hrest 23 (by kernel_rfl), hrest 24 (by kernel_rfl), hrest 25 (by kernel_rfl), hrest 26 (by kernel_rfl), hrest 27 (by kernel_rfl), hrest 28 (by kernel_rfl), hrest 29 (by kernel_rfl), hrest 30 (by kernel_rfl), hrest 31 (by kernel_rfl), hrest 32 (by kernel_rfl), hrest 33 (by kernel_rfl), hrest 34 (by kernel_rfl), hrest 35 (by kernel_rfl), trivial⟩ hdf
   clear hsz hdf hrest hslots hmems hs7 hs11 hs12 hs13 hs14 hs15 hs16 hs17 hs18 hs19 hs20
   replace hY := hY.gn g3
   replace hR := hR.gn g3
   replace hb6 := hb6.gn g3
   replace G := gb_trans G g3
   replace HT := HT.grown g3
   have hw7 : w0.heap.size ≤ N7 := Nat.le_trans Gs2 hn7
   clear g3
   go_upto_region 3 with (fail)
   have Gs3 := G.size
   have l3hY := hY.lt
   have l3hR := hR.lt
   have l3hb6 := hb6.lt
   have l3hb7 := hb7.lt
   refine Fg.rP [] [.any, .any, .any, .any, .any, .any, .any, .any, .any, .any, .any, .any, .any, .any, .any, .any, .any, .any, .any, .any, .any, .any, .any, .val (Value.bool true), .val (Value.bool false), .val (Value.bool false), .val (Value.bool true), .val (Value.bool false), .val (Value.bool false)] 6 ?_ ?_
   ·refine Fg.vS rfl (by decide) (fun ac w h => ?_) ?_
    ·have e8 : _ = Value.bool true := h.r 8
     exact Fg.vn (Value.bool true) (Fg.run_move rfl e8)
    refine Fg.vS rfl (by decide) (fun ac w h => ?_) ?_
    ·have e23 : _ = Value.bool true := h.d 23
     refine ⟨wants_none rfl, Value.bool false, w, ?_, gb_refl _ _, rfl⟩
     clear h
     simp only [execOp, Act.eval, e23]
     go_simp
    refine Fg.vS rfl (by decide) (fun ac w h => ?_) ?_
    ·have e24 : _ = Value.bool false := h.d 24
     exact Fg.vn (Value.bool false) (Fg.run_move rfl e24)
    refine Fg.vS rfl (by decide) (fun ac w h => ?_) ?_
    ·have e25 : _ = Value.bool false := h.d 25
     have e1 : _ = Value.bool true := h.r 1
     exact Fg.vx (Value.bool true) (wants_some (d := 25) rfl rfl (by rw [h.size]; show 25 < 36; decide) e25) (Fg.run_move rfl e1)
    refine Fg.vS rfl (by decide) (fun ac w h => ?_) ?_
    ·have e25 : _ = Value.bool false := h.d 25
     have e26 : _ = Value.bool true := h.d 26
     refine ⟨wants_some (d := 25) rfl rfl (by rw [h.size]; show 25 < 36; decide) e25, Value.bool false, w, ?_, gb_refl _ _, rfl⟩
     clear h
     simp only [execOp, Act.eval, e26]
     go_simp
    refine Fg.vS rfl (by decide) (fun ac w h => ?_) ?_
    ·have e25 : _ = Value.bool false := h.d 25
     have e27 : _ = Value.bool false := h.d 27
     refine ⟨wants_none rfl, Value.bool false, w, ?_, gb_refl _ _, rfl⟩
     clear h
     simp only [execOp, Act.eval, e25, e27]
     go_simp
    trivial
   ·intro qa V4 g4 hsz hdf hrest hslots hpt
    obtain ⟨u23, hs23⟩ := Fg.slotv qa 23
    obtain ⟨u24, hs24⟩ := Fg.slotv qa 24
    obtain ⟨u25, hs25⟩ := Fg.slotv qa 25
    obtain ⟨u26, hs26⟩ := Fg.slotv qa 26
    obtain ⟨u27, hs27⟩ := Fg.slotv qa 27
    obtain rfl := Fg.frame_by [23, 24, 25, 26, 27, 28] (vs := [y.v, Value.bool true, Value.pointer (some ⟨w0.heap.size, 0, none⟩), undef, Value.pointer (some ⟨w0.heap.size + 1, 0, none⟩), Value.bool false, Value.pointer (some ⟨N6, 0, none⟩), Value.pointer (some ⟨N7, 0, none⟩), Value.bool true, u9, x1.v, u11, u12, u13, u14, u15, u16, u17, u18, u19, u20, r.v, Value.bool true, u23, u24, u25, u26, u27, Value.bool false, undef, undef, undef, undef, undef, undef, undef]) hsz hrest (by kernel_rfl) rfl rfl ⟨hs23, hs24, hs25, hs26, hs27, (show qa.tmps.getD 28 undef = Value.bool false from hslots 28 (by kernel_rfl)), trivial⟩ hdf
    clear hsz hdf hrest hslots hpt hs23 hs24 hs25 hs26 hs27
    replace hY := hY.gn g4
    replace hR := hR.gn g4
    replace hb6 := hb6.gn g4
    replace hb7 := hb7.gn g4
    replace G := gb_trans G g4
    replace HT := HT.grown g4
    clear g4
    go_upto_region 5 with (fail)
    have Gs4 := G.size
    have l4hY := hY.lt
    have l4hR := hR.lt
    have l4hb6 := hb6.lt
    have l4hb7 := hb7.lt
    refine Fg.rP [] [.any, .any, .any, .any, .any, .any, .any, .any, .any, .any, .any, .any, .any, .any, .any, .any, .any, .any, .any, .any, .any, .any, .any, .any, .any, .any, .any, .any, .any, .any, .any, .val (r.v), .val (Value.bool false)] 2 ?_ ?_
    ·refine Fg.vS rfl (by decide) (fun ac w h => ?_) ?_
     ·have e7 : _ = Value.pointer (some ⟨N7, 0, none⟩) := h.r 7
      exact Fg.vn r.v (Fg.run_load rfl e7 ((hb7.gn h.base).range 0 (feL r) rfl) Tryd.underlying26 rfl info_elem)
     refine Fg.cS rfl (by decide) (fun ac w h => ?_) ?_
     ·have e31 : _ = r.v := h.d 31
      refine ⟨wants_none rfl, 32, #[r.v], Fg.run_call rfl rfl (by simp only [List.map_toArray, List.map_cons, List.map_nil, Act.eval, e31]) (Fg.run_enter Tryd.func32 (by kernel_rfl) (by kernel_rfl)), ?_⟩
      exact (t_zero okr hz).mono fun _ _ ⟨he, hg⟩ => ⟨_, he, hg, rfl⟩
     trivial
    ·intro qa V5 g5 hsz hdf hrest hslots hpt
     obtain ⟨u31, hs31⟩ := Fg.slotv qa 31
     obtain rfl := Fg.frame_by [31, 32] (vs := [y.v, Value.bool true, Value.pointer (some ⟨w0.heap.size, 0, none⟩), undef, Value.pointer (some ⟨w0.heap.size + 1, 0, none⟩), Value.bool false, Value.pointer (some ⟨N6, 0, none⟩), Value.pointer (some ⟨N7, 0, none⟩), Value.bool true, u9, x1.v, u11, u12, u13, u14, u15, u16, u17, u18, u19, u20, r.v, Value.bool true, u23, u24, u25, u26, u27, Value.bool false, undef, undef, u31, Value.bool false, undef, undef, undef]) hsz hrest (by kernel_rfl) rfl rfl ⟨hs31, (show qa.tmps.getD 32 undef = Value.bool false from hslots 32 (by kernel_rfl)), trivial⟩ hdf
     clear hsz hdf hrest hslots hpt hs31
     replace hY := hY.gn g5
     replace hR := hR.gn g5
     replace hb6 := hb6.gn g5
     replace hb7 := hb7.gn g5
     replace G := gb_trans G g5
     replace HT := HT.grown g5
     clear g5
     go_upto_region 7 with (fail)
     have Gs5 := G.size
     have l5hY := hY.lt
     have l5hR := hR.lt
     have l5hb6 := hb6.lt
     have l5hb7 := hb7.lt
     refine Fg.rP [] [.any, .any, .any, .any, .any, .any, .any, .any, .any, .any, .any, .any, .any, .any, .any, .any, .any, .any, .any, .any, .any, .any, .any, .any, .any, .any, .any, .any, .any, .any, .any, .any, .any, .any, .val (r.v), .val ((Fe.negF r).v)] 2 ?_ ?_
     ·refine Fg.vS rfl (by decide) (fun ac w h => ?_) ?_
      ·have e7 : _ = Value.pointer (some ⟨N7, 0, none⟩) := h.r 7
       exact Fg.vn r.v (Fg.run_load rfl e7 ((hb7.gn h.base).range 0 (feL r) rfl) Tryd.underlying26 rfl info_elem)
      refine Fg.cS rfl (by decide) (fun ac w h => ?_) ?_
      ·have e34 : _ = r.v := h.d 34
       refine ⟨wants_none rfl, 31, #[r.v], Fg.run_call rfl rfl (by simp only [List.map_toArray, List.map_cons, List.map_nil, Act.eval, e34]) (Fg.run_enter Tryd.func31 (by kernel_rfl) (by kernel_rfl)), ?_⟩
       exact (t_neg (HT.f.grown h.base) okr).mono fun _ _ ⟨he, hg⟩ => ⟨_, he, hg, rfl⟩
      trivial
     ·intro qa V6 g6 hsz hdf hrest hslots hpt
      obtain ⟨u34, hs34⟩ := Fg.slotv qa 34
      obtain ⟨x2, hx2⟩ : ∃ x : Fe, x = Fe.negF r := ⟨_, rfl⟩
      obtain rfl := Fg.frame_by [34, 35] (vs := [y.v, Value.bool true, Value.pointer (some ⟨w0.heap.size, 0, none⟩), undef, Value.pointer (some ⟨w0.heap.size + 1, 0, none⟩), Value.bool false, Value.pointer (some ⟨N6, 0, none⟩), Value.pointer (some ⟨N7, 0, none⟩), Value.bool true, u9, x1.v, u11, u12, u13, u14, u15, u16, u17, u18, u19, u20, r.v, Value.bool true, u23, u24, u25, u26, u27, Value.bool false, undef, undef, u31, Value.bool false, undef, u34, x2.v]) hsz hrest (by kernel_rfl) rfl rfl ⟨hs34, (show qa.tmps.getD 35 undef = x2.v by rw [hx2]; exact hslots 35 (by kernel_rfl)), trivial⟩ hdf
      clear hsz hdf hrest hslots hpt hs34
      have Hx2 := Lib.hid hx2; clear hx2
      replace hY := hY.gn g6
      replace hR := hR.gn g6
      replace hb6 := hb6.gn g6
      replace hb7 := hb7.gn g6
      replace G := gb_trans G g6
      replace HT := HT.grown g6
      have okx2 : x2.Ok := by rw [Hx2.out]; exact (Fe.neg_right _).ok
      clear g6
      refine Fg.wpl_skip rfl rfl (Fg.run_store (cs := feL x2) rfl rfl rfl (hR.there 0 5 (by show 0 + 5 ≤ 5; decide)) info_elem (feL_one _)) ?_
      replace hY := hY.setCells_other (C := (w0.heap.size + 1)) (cs := feL x2) 0 (by omega)
      replace hR : Blk (V6.setCells (w0.heap.size + 1) 0 (feL x2)) (w0.heap.size + 1) 26 (feL x2) := hR.setAll rfl
      replace hb6 := hb6.setCells_other (C := (w0.heap.size + 1)) (cs := feL x2) 0 (by omega)
      replace hb7 := hb7.setCells_other (C := (w0.heap.size + 1)) (cs := feL x2) 0 (by omega)
      replace G := gb_setCells_new (cs := feL x2) G (B := (w0.heap.size + 1)) (by omega) 0
      replace HT := HT.keep (gb_setCells (cs := feL x2) (gb_refl _ (some (w0.heap.size + 1))) 0) (HT0.noG (by omega))
      revert hY hR hb6 hb7 G HT
      generalize V6.setCells (w0.heap.size + 1) 0 (feL x2) = W7
      intro hY hR hb6 hb7 G HT
      go_wp2_with fail
      have hx2 := Hx2.out; subst hx2
      exact bodyPost_ret (v := .tuple #[(Fe.negF r).v, .bool true]) (results_row_tmp Tryd.results43 _ _ (w0.heap.size + 1) 26 (feL (Fe.negF r)).toArray (0, 0) _ rfl hR Tryd.underlying26 rfl info_elem rfl) rfl ⟨rfl, G⟩
theorem root_ok (u v : Fe) : (rootF u v).1.Ok := by
 unfold rootF
 have ev : ∀ r : Fe, r.Right → (evenF r).Ok := fun r hr => (even_m hr).1.ok
 split
 ·exact ev _ (Fe.mul_right _ _)
 ·split
  ·exact ev _ (Fe.mul_right _ _)
  ·exact zero_ok
theorem edAcross (y : Fe) (odd : Bool) (w0 : World) (HT0 : ETab w0) (oky : y.Ok) : Tells 43 #[y.v, .bool odd] w0 (.tuple #[(acrossF y odd).1.v, .bool (acrossF y odd).2]) := by
 unfold acrossF
 have okr := root_ok (Fe.subF (Fe.sqF y) Fe.oneF) (Fe.addF (Fe.mulF dF (Fe.sqF y)) Fe.oneF)
 cases h : rootF (Fe.subF (Fe.sqF y) Fe.oneF) (Fe.addF (Fe.mulF dF (Fe.sqF y)) Fe.oneF) with
 | mk r b =>
  rw [h] at okr
  cases b
  ·exact across_n y odd w0 HT0 oky r okr h
  ·cases odd
   ·exact across_f y w0 HT0 oky r okr h
   ·by_cases hz : Fe.m r = 0
    ·simp only [hz, Bool.true_eq_false, if_false, if_true]
     exact across_tz y w0 HT0 oky r okr h (decide_eq_true hz)
    ·simp only [hz, Bool.true_eq_false, if_false]
     exact across_tn y w0 HT0 oky r okr h (decide_eq_false hz)

end Go.Proofs.YtleegbaigedebaaDoor

/- field: ofBytes, Get; and the law's small helpers. -/
namespace Go.Proofs.YtleegbaigedebaaDoor
open Go.RowKit

def fromN (x : Int) : Fe := ⟨x % 2251799813685248, x / 2251799813685248 % 2251799813685248, x / 5070602400912917605986812821504 % 2251799813685248, x / 11417981541647679048466287755595961091061972992 % 2251799813685248, x / 25711008708143844408671393477458601640355247900524685364822016⟩
theorem fromN_V (x : Int) : Fe.V (fromN x) = x := by
  unfold fromN
  simp only [Fe.V]
  have e2 : x / 5070602400912917605986812821504 = x / 2251799813685248 / 2251799813685248 := by rw [Int.ediv_ediv_of_nonneg (by decide)]; rfl
  have e3 : x / 11417981541647679048466287755595961091061972992 = x / 2251799813685248 / 2251799813685248 / 2251799813685248 := by rw [Int.ediv_ediv_of_nonneg (by decide), Int.ediv_ediv_of_nonneg (by decide)]; rfl
  have e4 : x / 25711008708143844408671393477458601640355247900524685364822016 = x / 2251799813685248 / 2251799813685248 / 2251799813685248 / 2251799813685248 := by rw [Int.ediv_ediv_of_nonneg (by decide), Int.ediv_ediv_of_nonneg (by decide), Int.ediv_ediv_of_nonneg (by decide)]; rfl
  rw [e2, e3, e4]
  omega
theorem fromN_right {x : Int} (h0 : 0 ≤ x) (h1 : x < 2 ^ 256) : (fromN x).Right := by
  have e : (2 : Int) ^ 256 = 115792089237316195423570985008687907853269984665640564039457584007913129639936 := by decide
  rw [e] at h1
  unfold fromN
  constructor <;> dsimp only <;> omega
theorem fromN_m {x : Int} : (Fe.m (fromN x) : Int) = x % 57896044618658097711785492504343953926634992332820282019728792003956564819949 := by
  rw [Fe.m_cast, fromN_V]; rfl
theorem wordOf_shift (F : Nat → Int) (s : Nat) : ∀ k, wordOf F (s + k) = wordOf F s + wordOf (fun i => F (s + i)) k * 2 ^ (8 * s) := by
  intro k
  induction k with
  | zero => simp [wordOf]
  | succ k ih =>
    rw [show s + (k + 1) = s + k + 1 by omega, wordOf, ih, wordOf, Int.add_mul, show 8 * (s + k) = 8 * k + 8 * s by omega, Int.pow_add]
    rw [Int.mul_assoc (F (s + k)), ← Int.add_assoc]
theorem word4 (F : Nat → Int) : wordOf F 32 = wordOf F 8 + 18446744073709551616 * wordOf (fun i => F (8 + i)) 8 + 340282366920938463463374607431768211456 * wordOf (fun i => F (16 + i)) 8 + 6277101735386680763835789423207666416102355444464034512896 * wordOf (fun i => F (24 + i)) 8 := by
  have h1 := wordOf_shift F 24 8
  have h2 := wordOf_shift F 16 8
  have h3 := wordOf_shift F 8 8
  have p1 : (2 : Int) ^ (8 * 24) = 6277101735386680763835789423207666416102355444464034512896 := by decide
  have p2 : (2 : Int) ^ (8 * 16) = 340282366920938463463374607431768211456 := by decide
  have p3 : (2 : Int) ^ (8 * 8) = 18446744073709551616 := by decide
  rw [p1] at h1
  rw [p2] at h2
  rw [p3] at h3
  have e1 : wordOf F (24 + 8) = wordOf F 32 := rfl
  have e2 : wordOf F (16 + 8) = wordOf F 24 := rfl
  have e3 : wordOf F (8 + 8) = wordOf F 16 := rfl
  omega
theorem limbs_of (w0 w1 w2 w3 : Int) (a0 : 0 ≤ w0) (a1 : 0 ≤ w1) (a2 : 0 ≤ w2) (b0 : w0 < 18446744073709551616) (b1 : w1 < 18446744073709551616) (b2 : w2 < 18446744073709551616) :
    (⟨bits .and .u64 w0 2251799813685247, bits .and .u64 (bits .or .u64 (w0 / 2251799813685248) (IntKind.u64.wrap (w1 * 8192))) 2251799813685247, bits .and .u64 (bits .or .u64 (w1 / 274877906944) (IntKind.u64.wrap (w2 * 67108864))) 2251799813685247,
      bits .and .u64 (bits .or .u64 (w2 / 33554432) (IntKind.u64.wrap (w3 * 549755813888))) 2251799813685247, w3 / 4096⟩ : Fe) = fromN (w0 + 18446744073709551616 * w1 + 340282366920938463463374607431768211456 * w2 + 6277101735386680763835789423207666416102355444464034512896 * w3) := by
  rw [or_lem (w0 / 2251799813685248) w1 13 8192 2251799813685248 (by decide) (by decide) (by omega) (by omega) (by decide),
    or_lem (w1 / 274877906944) w2 26 67108864 274877906944 (by decide) (by decide) (by omega) (by omega) (by decide),
    or_lem (w2 / 33554432) w3 39 549755813888 33554432 (by decide) (by decide) (by omega) (by omega) (by decide),
    mask51 w0 a0 b0, mask51 _ (by omega) (by omega), mask51 _ (by omega) (by omega), mask51 _ (by omega) (by omega)]
  have hV := fromN_V (w0 + 18446744073709551616 * w1 + 340282366920938463463374607431768211456 * w2 + 6277101735386680763835789423207666416102355444464034512896 * w3)
  generalize hX : w0 + 18446744073709551616 * w1 + 340282366920938463463374607431768211456 * w2 + 6277101735386680763835789423207666416102355444464034512896 * w3 = X at *
  unfold fromN
  have e1 : X / 2251799813685248 = w0 / 2251799813685248 + 8192 * w1 + 151115727451828646838272 * w2 + 2787593149816327892691964784081045188247552 * w3 := by omega
  have e2 : X / 5070602400912917605986812821504 = w1 / 274877906944 + 67108864 * w2 + 1237940039285380274899124224 * w3 := by omega
  have e3 : X / 11417981541647679048466287755595961091061972992 = w2 / 33554432 + 549755813888 * w3 := by omega
  have e4 : X / 25711008708143844408671393477458601640355247900524685364822016 = w3 / 4096 := by omega
  rw [e1, e2, e3, e4]
  congr 1 <;> omega
end Go.Proofs.YtleegbaigedebaaDoor

/- field: ofBytes, of any slice. -/
namespace Go.Proofs.YtleegbaigedebaaDoor
open Go.RowKit Ow Ed
theorem sl_at (B o c k : Nat) (hk : k ≤ 32) (hc : k < c) (w : World) : (Instr.slice 22 (.slice (some ⟨B, o, none⟩) 32 c) (some (.int .i64 (k : Int))) none none).run Tryd.prog w = .ok (.slice (some ⟨B, o + k, none⟩) (32 - k) (c - k)) w := by
 obtain ⟨a', h1, h2⟩ := slice_from (some ⟨B, o, none⟩) 32 c k hk
 rw [h1 w, h2 hc B o rfl]
set_option maxRecDepth 100000 in
set_option maxHeartbeats 1600000 in
theorem ofBytes_at (B o c : Nat) (F : Nat → Int) (w0 : World) (h32 : 32 ≤ c) (hf : ∀ i, 0 ≤ F i ∧ F i < 256) (hc : ∀ i, i < 32 → w0.cell? ⟨B, o + i, none⟩ = some (.int .u8 (F i))) (hB : B < w0.heap.size) :
  Calls Tryd.prog 57 #[.slice (some ⟨B, o, none⟩) 32 c] w0 (FeOut (fromN (wordOf F 32)) w0) := by
 have HC := Lib.hid hc; clear hc
 have HF := Lib.hid hf; clear hf
 have hXb : ∀ s, 0 ≤ wordOf (fun i => F (s + i)) 8 ∧ wordOf (fun i => F (s + i)) 8 < 18446744073709551616 := fun s => by
  have h := wordOf_bd (fun i => F (s + i)) (fun i => HF.out _) 8
  have h64 : (2 : Int) ^ (8 * 8) = 18446744073709551616 := by decide
  rw [h64] at h
  exact h
 have hN := word4 F
 have h0 : wordOf F 8 = wordOf (fun i => F (0 + i)) 8 := by simp
 rw [h0] at hN
 clear h0
 have g0 : ∀ s n c' W, 8 ≤ n → s + 8 ≤ 32 → (∀ i, i < 32 → W.cell? ⟨B, o + i, none⟩ = some (.int .u8 (F i))) → Tells 73 #[.slice (some ⟨B, o + s, none⟩) n c'] W (.int .u64 (wordOf (fun i => F (s + i)) 8)) :=
  fun s n c' W hn hs h => (getWord_any B (o + s) n c' (fun i => F (s + i)) W hn (fun i => HF.out _) (fun i hi => by rw [Nat.add_assoc]; exact h (s + i) (by omega))).mono fun e w' ⟨h1, h2⟩ => ⟨h1, by subst h2; exact gb_refl _ _⟩
 obtain ⟨X, hX⟩ : ∃ X : Nat → Int, ∀ s, X s = wordOf (fun i => F (s + i)) 8 := ⟨_, fun _ => rfl⟩
 simp only [← hX] at hXb hN g0
 clear hX
 have G := Lib.hid g0; clear g0
 have HN := Lib.hid hN; clear hN
 obtain ⟨p0, q0⟩ := hXb 0
 obtain ⟨p1, q1⟩ := hXb 8
 obtain ⟨p2, q2⟩ := hXb 16
 obtain ⟨p3, q3⟩ := hXb 24
 clear hXb
 have HL := Lib.hid (limbs_of (X 0) (X 8) (X 16) (X 24) p0 p1 p2 q0 q1 q2)
 have S0 : Hid (∀ w, (Instr.slice 22 (.slice (some ⟨B, o, none⟩) 32 c) (some (.int .i64 0)) none none).run Tryd.prog w = .ok (.slice (some ⟨B, o + 0, none⟩) 32 (c - 0)) w) := Lib.hid (sl_at B o c 0 (by decide) (by omega))
 have S8 : Hid (∀ w, (Instr.slice 22 (.slice (some ⟨B, o, none⟩) 32 c) (some (.int .i64 8)) none none).run Tryd.prog w = .ok (.slice (some ⟨B, o + 8, none⟩) 24 (c - 8)) w) := Lib.hid (sl_at B o c 8 (by decide) (by omega))
 have S16 : Hid (∀ w, (Instr.slice 22 (.slice (some ⟨B, o, none⟩) 32 c) (some (.int .i64 16)) none none).run Tryd.prog w = .ok (.slice (some ⟨B, o + 16, none⟩) 16 (c - 16)) w) := Lib.hid (sl_at B o c 16 (by decide) (by omega))
 have S24 : Hid (∀ w, (Instr.slice 22 (.slice (some ⟨B, o, none⟩) 32 c) (some (.int .i64 24)) none none).run Tryd.prog w = .ok (.slice (some ⟨B, o + 24, none⟩) 8 (c - 24)) w) := Lib.hid (sl_at B o c 24 (by decide) (by omega))
 have HH := Lib.hid h32; clear h32
 go_enter Tryd.func57, Tryd.ntmps57
 go_upto_region 1 with (fail)
 have GG : w0.grownBy (w0.alloc (.cells zr5.toArray 26)) none := gb_alloc (gb_refl _ _) _
 have hR : Blk (w0.alloc (.cells zr5.toArray 26)) (w0.heap.size) 26 zr5 := Blk.new w0 zr5 _
 revert GG hR
 generalize w0.alloc (.cells zr5.toArray 26) = W0
 intro GG hR
 have Gs := GG.size
 have HG := Lib.hid GG
 have Gs0 := GG.size
 have l1hR := hR.lt
 refine Fg.rT [] [.any, .any, .any, .val (Value.int .u64 (X 0)), .val (Value.int .u64 (X 8)), .val (Value.int .u64 (X 16)), .val (Value.int .u64 (X 24)), .val (Value.slice (some ⟨B, o, none⟩) 32 c), .val (Value.slice (some ⟨B, o + 0, none⟩) 32 (c - 0)), .val (Value.int .u64 (X 0)), .val (Value.slice (some ⟨B, o, none⟩) 32 c), .val (Value.slice (some ⟨B, o + 8, none⟩) 24 (c - 8)), .val (Value.int .u64 (X 8)), .val (Value.slice (some ⟨B, o, none⟩) 32 c), .val (Value.slice (some ⟨B, o + 16, none⟩) 16 (c - 16)), .val (Value.int .u64 (X 16)), .val (Value.slice (some ⟨B, o, none⟩) 32 c), .val (Value.slice (some ⟨B, o + 24, none⟩) 8 (c - 24)), .val (Value.int .u64 (X 24))] 16 ?_ ?_
 ·refine Fg.vS rfl (by decide) (fun ac w h => ?_) ?_
  ·have e0 : _ = Value.slice (some ⟨B, o, none⟩) 32 c := h.r 0
   exact Fg.vn (Value.slice (some ⟨B, o, none⟩) 32 c) (Fg.run_move rfl e0)
  refine Fg.vS rfl (by decide) (fun ac w h => ?_) ?_
  ·have e7 : _ = Value.slice (some ⟨B, o, none⟩) 32 c := h.d 7
   refine ⟨wants_none rfl, Value.slice (some ⟨B, o + 0, none⟩) 32 (c - 0), w, ?_, gb_refl _ _, rfl⟩
   clear h
   have hrun := S0.out w
   simp only [execOp, Act.eval, e7, Option.map_some, Option.map_none]
   go_simp
  refine Fg.cS rfl (by decide) (fun ac w h => ?_) ?_
  ·have e8 : _ = Value.slice (some ⟨B, o + 0, none⟩) 32 (c - 0) := h.d 8
   refine ⟨wants_none rfl, 73, #[Value.slice (some ⟨B, o + 0, none⟩) 32 (c - 0)], Fg.run_call rfl rfl (by simp only [List.map_toArray, List.map_cons, List.map_nil, Act.eval, e8]) (Fg.run_enter Tryd.func73 (by kernel_rfl) (by kernel_rfl)), ?_⟩
   exact (G.out 0 32 (c - 0) _ (by decide) (by decide) (fun i hi => by rw [gb_cell (gb_trans HG.out h.base) (p := ⟨B, o + i, none⟩) hB (by simp)]; exact HC.out i hi)).mono fun _ _ ⟨he, hg⟩ => ⟨_, he, hg, rfl⟩
  refine Fg.vS rfl (by decide) (fun ac w h => ?_) ?_
  ·have e0 : _ = Value.slice (some ⟨B, o, none⟩) 32 c := h.r 0
   exact Fg.vn (Value.slice (some ⟨B, o, none⟩) 32 c) (Fg.run_move rfl e0)
  refine Fg.vS rfl (by decide) (fun ac w h => ?_) ?_
  ·have e10 : _ = Value.slice (some ⟨B, o, none⟩) 32 c := h.d 10
   refine ⟨wants_none rfl, Value.slice (some ⟨B, o + 8, none⟩) 24 (c - 8), w, ?_, gb_refl _ _, rfl⟩
   clear h
   have hrun := S8.out w
   simp only [execOp, Act.eval, e10, Option.map_some, Option.map_none]
   go_simp
  refine Fg.cS rfl (by decide) (fun ac w h => ?_) ?_
  ·have e11 : _ = Value.slice (some ⟨B, o + 8, none⟩) 24 (c - 8) := h.d 11
   refine ⟨wants_none rfl, 73, #[Value.slice (some ⟨B, o + 8, none⟩) 24 (c - 8)], Fg.run_call rfl rfl (by simp only [List.map_toArray, List.map_cons, List.map_nil, Act.eval, e11]) (Fg.run_enter Tryd.func73 (by kernel_rfl) (by kernel_rfl)), ?_⟩
   exact (G.out 8 24 (c - 8) _ (by decide) (by decide) (fun i hi => by rw [gb_cell (gb_trans HG.out h.base) (p := ⟨B, o + i, none⟩) hB (by simp)]; exact HC.out i hi)).mono fun _ _ ⟨he, hg⟩ => ⟨_, he, hg, rfl⟩
  refine Fg.vS rfl (by decide) (fun ac w h => ?_) ?_
  ·have e0 : _ = Value.slice (some ⟨B, o, none⟩) 32 c := h.r 0
   exact Fg.vn (Value.slice (some ⟨B, o, none⟩) 32 c) (Fg.run_move rfl e0)
  refine Fg.vS rfl (by decide) (fun ac w h => ?_) ?_
  ·have e13 : _ = Value.slice (some ⟨B, o, none⟩) 32 c := h.d 13
   refine ⟨wants_none rfl, Value.slice (some ⟨B, o + 16, none⟩) 16 (c - 16), w, ?_, gb_refl _ _, rfl⟩
   clear h
   have hrun := S16.out w
   simp only [execOp, Act.eval, e13, Option.map_some, Option.map_none]
   go_simp
  refine Fg.cS rfl (by decide) (fun ac w h => ?_) ?_
  ·have e14 : _ = Value.slice (some ⟨B, o + 16, none⟩) 16 (c - 16) := h.d 14
   refine ⟨wants_none rfl, 73, #[Value.slice (some ⟨B, o + 16, none⟩) 16 (c - 16)], Fg.run_call rfl rfl (by simp only [List.map_toArray, List.map_cons, List.map_nil, Act.eval, e14]) (Fg.run_enter Tryd.func73 (by kernel_rfl) (by kernel_rfl)), ?_⟩
   exact (G.out 16 16 (c - 16) _ (by decide) (by decide) (fun i hi => by rw [gb_cell (gb_trans HG.out h.base) (p := ⟨B, o + i, none⟩) hB (by simp)]; exact HC.out i hi)).mono fun _ _ ⟨he, hg⟩ => ⟨_, he, hg, rfl⟩
  refine Fg.vS rfl (by decide) (fun ac w h => ?_) ?_
  ·have e0 : _ = Value.slice (some ⟨B, o, none⟩) 32 c := h.r 0
   exact Fg.vn (Value.slice (some ⟨B, o, none⟩) 32 c) (Fg.run_move rfl e0)
  refine Fg.vS rfl (by decide) (fun ac w h => ?_) ?_
  ·have e16 : _ = Value.slice (some ⟨B, o, none⟩) 32 c := h.d 16
   refine ⟨wants_none rfl, Value.slice (some ⟨B, o + 24, none⟩) 8 (c - 24), w, ?_, gb_refl _ _, rfl⟩
   clear h
   have hrun := S24.out w
   simp only [execOp, Act.eval, e16, Option.map_some, Option.map_none]
   go_simp
  refine Fg.cS rfl (by decide) (fun ac w h => ?_) ?_
  ·have e17 : _ = Value.slice (some ⟨B, o + 24, none⟩) 8 (c - 24) := h.d 17
   refine ⟨wants_none rfl, 73, #[Value.slice (some ⟨B, o + 24, none⟩) 8 (c - 24)], Fg.run_call rfl rfl (by simp only [List.map_toArray, List.map_cons, List.map_nil, Act.eval, e17]) (Fg.run_enter Tryd.func73 (by kernel_rfl) (by kernel_rfl)), ?_⟩
   exact (G.out 24 8 (c - 24) _ (by decide) (by decide) (fun i hi => by rw [gb_cell (gb_trans HG.out h.base) (p := ⟨B, o + i, none⟩) hB (by simp)]; exact HC.out i hi)).mono fun _ _ ⟨he, hg⟩ => ⟨_, he, hg, rfl⟩
  refine Fg.vS rfl (by decide) (fun ac w h => ?_) ?_
  ·have e9 : _ = Value.int .u64 (X 0) := h.d 9
   exact Fg.vn (Value.int .u64 (X 0)) (Fg.run_assign rfl e9)
  refine Fg.vS rfl (by decide) (fun ac w h => ?_) ?_
  ·have e12 : _ = Value.int .u64 (X 8) := h.d 12
   exact Fg.vn (Value.int .u64 (X 8)) (Fg.run_assign rfl e12)
  refine Fg.vS rfl (by decide) (fun ac w h => ?_) ?_
  ·have e15 : _ = Value.int .u64 (X 16) := h.d 15
   exact Fg.vn (Value.int .u64 (X 16)) (Fg.run_assign rfl e15)
  refine Fg.vS rfl (by decide) (fun ac w h => ?_) ?_
  ·have e18 : _ = Value.int .u64 (X 24) := h.d 18
   exact Fg.vn (Value.int .u64 (X 24)) (Fg.run_assign rfl e18)
  trivial
 ·intro qa V1 g1 hsz hdf hrest hslots hpt
  obtain ⟨u7, hs7⟩ := Fg.slotv qa 7
  obtain ⟨u8, hs8⟩ := Fg.slotv qa 8
  obtain ⟨u9, hs9⟩ := Fg.slotv qa 9
  obtain ⟨u10, hs10⟩ := Fg.slotv qa 10
  obtain ⟨u11, hs11⟩ := Fg.slotv qa 11
  obtain ⟨u12, hs12⟩ := Fg.slotv qa 12
  obtain ⟨u13, hs13⟩ := Fg.slotv qa 13
  obtain ⟨u14, hs14⟩ := Fg.slotv qa 14
  obtain ⟨u15, hs15⟩ := Fg.slotv qa 15
  obtain ⟨u16, hs16⟩ := Fg.slotv qa 16
  obtain ⟨u17, hs17⟩ := Fg.slotv qa 17
  obtain ⟨u18, hs18⟩ := Fg.slotv qa 18
  obtain rfl := Fg.frame_by [3, 4, 5, 6, 7, 8, 9, 10, 11, 12, 13, 14, 15, 16, 17, 18] (vs := [Value.slice (some ⟨B, o, none⟩) 32 c, undef, Value.pointer (some ⟨w0.heap.size, 0, none⟩), Value.int .u64 (X 0), Value.int .u64 (X 8), Value.int .u64 (X 16), Value.int .u64 (X 24), u7, u8, u9, u10, u11, u12, u13, u14, u15, u16, u17, u18, undef, undef, undef, undef, undef, undef, undef, undef, undef, undef, undef, undef, undef, undef, undef, undef, undef, undef, undef, undef, undef, undef, undef]) hsz hrest (by kernel_rfl) rfl rfl ⟨(show qa.tmps.getD 3 undef = Value.int .u64 (X 0) from hslots 3 (by kernel_rfl)), (show qa.tmps.getD 4 undef = Value.int .u64 (X 8) from hslots 4 (by kernel_rfl)), (show qa.tmps.getD 5 undef = Value.int .u64 (X 16) from hslots 5 (by kernel_rfl)), (show qa.tmps.getD 6 undef = Value.int .u64 (X 24) from hslots 6 (by kernel_rfl)), hs7, hs8, hs9, hs10, hs11, hs12, hs13, hs14, hs15, hs16, hs17, hs18, trivial⟩ hdf
  clear hsz hdf hrest hslots hpt hs7 hs8 hs9 hs10 hs11 hs12 hs13 hs14 hs15 hs16 hs17 hs18
  replace hR := hR.gn g1
  replace GG := gb_trans GG g1
  clear g1
  have z0 := hR.cell (i := 0) rfl
  have z1 := hR.cell (i := 1) rfl
  have z2 := hR.cell (i := 2) rfl
  have z3 := hR.cell (i := 3) rfl
  have z4 := hR.cell (i := 4) rfl
  have y0 := hR.free 0
  have y1 := hR.free 1
  have y2 := hR.free 2
  have y3 := hR.free 3
  have y4 := hR.free 4
  clear hR
  go_wp2
  refine bodyPost_ret (v := (fromN (wordOf F 32)).v) ?_ rfl (feOut_of ⟨rfl, gb_set5 GG (Nat.le_refl _) _ _ _ _ _⟩)
  rw [HN.out, ← HL.out]
  simp [results, Tryd.results57, go_sem, z0, z1, z2, z3, z4, Fe.v]

end Go.Proofs.YtleegbaigedebaaDoor

/- field: bytes.Equal (the shelf's contract), Get. -/
namespace Go.Proofs.YtleegbaigedebaaDoor
open Go.RowKit Go.Shelf

def laysnb115_ren : Go.Shelf.Ren := ⟨fun | 115 => 58 | n => n, fun | 37 => 22 | 4 => 4 | 9 => 9 | 5 => 5 | n => n, fun | n => n⟩
theorem laysnb115 : Go.Proofs.Lays.nb115 Tryd.prog laysnb115_ren := {
  mixed := by kernel_rfl
  f115 := Tryd.func58.trans (congrArg some (by kernel_rfl))
  t4 := Tryd.underlying4
  a4 := Tryd.isAgg4
  z4 := Tryd.sizeOf4
  v4 := Tryd.zeroValue4
  t9 := Tryd.underlying9
  a9 := Tryd.isAgg9
  z9 := Tryd.sizeOf9
  v9 := Tryd.zeroValue9
  t37 := Tryd.underlying22
  a37 := Tryd.isAgg22
  z37 := Tryd.sizeOf22
  v37 := Tryd.zeroValue22
  t5 := Tryd.underlying5
  a5 := Tryd.isAgg5
  z5 := Tryd.sizeOf5
  v5 := Tryd.zeroValue5 }
def intsOf (x : Int) : List Int := (List.range 32).map fun i => x / 2 ^ (8 * i) % 256
theorem intsOf_get (x : Int) (i : Nat) (h : i < 32) : (intsOf x)[i]? = some (x / 2 ^ (8 * i) % 256) := by
  unfold intsOf; rw [List.getElem?_map, List.getElem?_range h]; rfl
theorem bytes_in {w : World} {B : Nat} {T : TypeId} {x : Int} (h : Blk w B T (bytesV x)) : Lib.BytesIn w (some ⟨B, 0, none⟩) 32 (intsOf x) :=
  Lib.BytesIn.of_cells fun i hi => by
    have hadd : (⟨B, 0, none⟩ : Addr).add i = ⟨B, i, none⟩ := by unfold Addr.add; split <;> simp_all
    have hi2 : i < 32 := by simpa [intsOf] using hi
    rw [hadd, h.cell (bytesV_get x i hi2)]
    have := intsOf_get x i hi2
    simp [List.getD, this, bytV]
theorem byte_bd (x : Int) (i : Nat) : 0 ≤ x / 2 ^ (8 * i) % 256 ∧ x / 2 ^ (8 * i) % 256 < 256 := ⟨Int.emod_nonneg _ (by decide), Int.emod_lt_of_pos _ (by decide)⟩
theorem bytesOf_same (x y : Int) (h0 : 0 ≤ x) (k0 : 0 ≤ y) (h1 : x < 2 ^ 256) (k1 : y < 2 ^ 256) : (Lib.bytesOf (intsOf x) == Lib.bytesOf (intsOf y)) = decide (x = y) := by
  rw [Bool.eq_iff_iff, beq_iff_eq, decide_eq_true_iff]
  constructor
  · intro h
    refine digits_same 32 x y h0 k0 h1 k1 fun i hi => ?_
    have e : (Lib.bytesOf (intsOf x))[i]? = (Lib.bytesOf (intsOf y))[i]? := by rw [h]
    unfold Lib.bytesOf at e
    rw [List.getElem?_map, List.getElem?_map, intsOf_get x i hi, intsOf_get y i hi] at e
    simp only [Option.map_some, Option.some.injEq] at e
    have e2 := congrArg UInt8.toNat e
    have bx := byte_bd x i
    have b_y := byte_bd y i
    generalize x / 2 ^ (8 * i) % 256 = p at *
    generalize y / 2 ^ (8 * i) % 256 = q at *
    rw [UInt8.toNat_ofNat', UInt8.toNat_ofNat'] at e2
    omega
  · rintro rfl; rfl
theorem wordOf_bytes (x : Int) : ∀ k, wordOf (fun i => x / 2 ^ (8 * i) % 256) k = x % 2 ^ (8 * k) := by
  intro k
  induction k with
  | zero => simp [wordOf]
  | succ k ih =>
    rw [wordOf, ih]
    have e : (2 : Int) ^ (8 * (k + 1)) = 2 ^ (8 * k) * 256 := by rw [show 8 * (k + 1) = 8 * k + 8 by omega, Int.pow_add]; rfl
    have hp : (0 : Int) < 2 ^ (8 * k) := Int.pow_pos (by decide)
    rw [e]
    generalize (2 : Int) ^ (8 * k) = p at *
    have h1 := Int.mul_ediv_add_emod x p
    have h2 := Int.mul_ediv_add_emod x (p * 256)
    have h3 : x / (p * 256) = x / p / 256 := by rw [Int.ediv_ediv_of_nonneg (by omega)]
    have h4 := Int.mul_ediv_add_emod (x / p) 256
    rw [h3] at h2
    have h5 : p * (x / p) = p * (256 * (x / p / 256) + x / p % 256) := by rw [h4]
    rw [Int.mul_add, ← Int.mul_assoc] at h5
    have h6 : x / p % 256 * p = p * (x / p % 256) := Int.mul_comm ..
    omega
end Go.Proofs.YtleegbaigedebaaDoor

/- field: Get, of any slice. -/
namespace Go.Proofs.YtleegbaigedebaaDoor
open Go.RowKit Go.Shelf Ow Ed
theorem wordOf_digit (F : Nat → Int) (hf : ∀ i, 0 ≤ F i ∧ F i < 256) (n i : Nat) (hi : i < n) : wordOf F n / 2 ^ (8 * i) % 256 = F i := by
 obtain ⟨k, rfl⟩ : ∃ k, n = i + (1 + k) := ⟨n - i - 1, by omega⟩
 rw [wordOf_shift F i (1 + k), wordOf_shift (fun j => F (i + j)) 1 k]
 obtain ⟨b0, b1⟩ := wordOf_bd F hf i
 have hp : (2 : Int) ^ (8 * i) ≠ 0 := Int.ne_of_gt (Int.pow_pos (by decide))
 rw [Int.add_mul_ediv_right _ _ hp, Int.ediv_eq_zero_of_lt b0 b1, Int.zero_add]
 have e1 : wordOf (fun j => F (i + j)) 1 = F i := by simp [wordOf]
 have e2 : (2 : Int) ^ (8 * 1) = 256 := by decide
 rw [e1, e2, Int.add_mul_emod_self_right]
 have := hf i
 omega
theorem ints_word (F : Nat → Int) (hf : ∀ i, 0 ≤ F i ∧ F i < 256) (i : Nat) (hi : i < 32) : (intsOf (wordOf F 32)).getD i 0 = F i := by
 rw [List.getD_eq_getElem?_getD, intsOf_get _ i hi, Option.getD_some, wordOf_digit F hf 32 i hi]
theorem bytes_at (w : World) (pb po : Nat) (F : Nat → Int) (hf : ∀ i, 0 ≤ F i ∧ F i < 256) (hc : ∀ i, i < 32 → w.cell? ⟨pb, po + i, none⟩ = some (.int .u8 (F i))) : Lib.BytesIn w (some ⟨pb, po, none⟩) 32 (intsOf (wordOf F 32)) :=
 Lib.BytesIn.of_cells fun i hi => by
  have hadd : (⟨pb, po, none⟩ : Addr).add i = ⟨pb, po + i, none⟩ := by unfold Addr.add; split <;> simp_all
  have hi2 : i < 32 := by simpa [intsOf] using hi
  rw [hadd, hc i hi2, ints_word F hf i hi2]
theorem t_equal (A pb po c : Nat) (T : TypeId) (x : Int) (F : Nat → Int) (w : World) (hf : ∀ i, 0 ≤ F i ∧ F i < 256) (h0 : 0 ≤ x) (h1 : x < 2 ^ 256) (hA : Blk w A T (bytesV x)) (hc : ∀ i, i < 32 → w.cell? ⟨pb, po + i, none⟩ = some (.int .u8 (F i))) {b : Bool} (hb : decide (x = wordOf F 32) = b) :
  Tells 58 #[.slice (some ⟨A, 0, none⟩) 32 32, .slice (some ⟨pb, po, none⟩) 32 c] w (.bool b) := by
 have hw := wordOf_bd F hf 32
 have h2 : (2 : Int) ^ (8 * 32) = 2 ^ 256 := by decide
 rw [h2] at hw
 refine (Any.bytes_Equal_all laysnb115 _ _ 32 32 32 c (intsOf x) (intsOf (wordOf F 32)) w (by simp [intsOf]) (by simp [intsOf]) (bytes_in hA) (bytes_at w pb po F hf hc)).mono ?_
 rintro e w' ⟨rfl, rfl⟩
 exact ⟨by rw [bytesOf_same x _ h0 hw.1 h1 hw.2, hb], gb_refl _ _⟩
set_option maxRecDepth 100000 in
set_option maxHeartbeats 3200000 in
theorem fget_yes (pb po c : Nat) (F : Nat → Int) (w0 : World) (h32 : 32 ≤ c) (hf : ∀ i, 0 ≤ F i ∧ F i < 256) (hc : ∀ i, i < 32 → w0.cell? ⟨pb, po + i, none⟩ = some (.int .u8 (F i))) (hB : pb < w0.heap.size) (hlt : wordOf F 32 < 57896044618658097711785492504343953926634992332820282019728792003956564819949) :
  Calls Tryd.prog 42 #[.slice (some ⟨pb, po, none⟩) 32 c] w0 fun e w' => e = .returned (.tuple #[(fromN (wordOf F 32)).v, .bool true]) ∧ w0.grownBy w' none := by
 have HC := Lib.hid hc; clear hc
 have HF := Lib.hid hf; clear hf
 have hw := wordOf_bd F HF.out 32
 have h2 : (2 : Int) ^ (8 * 32) = 2 ^ 256 := by decide
 rw [h2] at hw
 have okN : (fromN (wordOf F 32)).Ok := (fromN_right hw.1 hw.2).ok
 have hD : decide ((Fe.m (fromN (wordOf F 32)) : Int) = wordOf F 32) = true := by
  rw [fromN_m, decide_eq_true_iff]
  have := hw.1
  omega
 have HD := Lib.hid hD; clear hD hw h2 hlt
 go_enter Tryd.func42, Tryd.ntmps42
 go_upto_region 1 with (fail)
 have G : w0.grownBy (w0.alloc (.cells zr5.toArray 26)) none := gb_alloc (gb_refl _ _) _
 have hR : Blk (w0.alloc (.cells zr5.toArray 26)) (w0.heap.size) 26 zr5 := Blk.new w0 zr5 _
 revert G hR
 generalize w0.alloc (.cells zr5.toArray 26) = W0
 intro G hR
 have Gs := G.size
 have HCW : Hid (∀ i, i < 32 → W0.cell? ⟨pb, po + i, none⟩ = some (.int .u8 (F i))) := Lib.hid (fun i hi => by rw [gb_cell G (p := ⟨pb, po + i, none⟩) hB (by simp)]; exact HC.out i hi)
 have G0x := G
 go_upto_region 3 with (fail)
 have Gs0 := G.size
 have l1hR := hR.lt
 refine Fg.rP [4] [.any, .any, .any, .any, .fresh 26 zr5 W0.heap.size, .any, .any, .any, .any, .val (Value.slice (some ⟨pb, po, none⟩) 32 c), .val ((fromN (wordOf F 32)).v)] 3 ?_ ?_
 ·refine Fg.vS rfl (by decide) (fun ac w h => ?_) ?_
  ·have e0 : _ = Value.slice (some ⟨pb, po, none⟩) 32 c := h.r 0
   exact Fg.vn (Value.slice (some ⟨pb, po, none⟩) 32 c) (Fg.run_move rfl e0)
  refine Fg.cS rfl (by decide) (fun ac w h => ?_) ?_
  ·have e9 : _ = Value.slice (some ⟨pb, po, none⟩) 32 c := h.d 9
   refine ⟨wants_none rfl, 57, #[Value.slice (some ⟨pb, po, none⟩) 32 c], Fg.run_call rfl rfl (by simp only [List.map_toArray, List.map_cons, List.map_nil, Act.eval, e9]) (Fg.run_enter Tryd.func57 (by kernel_rfl) (by kernel_rfl)), ?_⟩
   exact ((ofBytes_at pb po c F _ h32 HF.out (fun i hi => by rw [gb_cell (gb_trans G0x h.base) (p := ⟨pb, po + i, none⟩) hB (by simp)]; exact HC.out i hi) (Nat.lt_of_lt_of_le hB (gb_trans G0x h.base).size)).mono fun _ _ h => feOut_is h).mono fun _ _ ⟨he, hg⟩ => ⟨_, he, hg, rfl⟩
  refine ⟨⟨⟨_, rfl⟩, Fg.allocP (fun _ _ h k => gb_trans h k) rfl (by show 4 < 18; decide) fun ac w h => ?_⟩, ?_⟩
  ·refine ⟨wants_none rfl, w.alloc (.cells zr5.toArray 26), ?_, World.grownBy_alloc _ _ _, by simp, ⟨w.heap.size, rfl, h.base.size, Blk.new w zr5 _⟩⟩
   clear h
   go_simp
  trivial
 ·intro qa V1 g1 hsz hdf hrest hslots hpt
  obtain ⟨N4, hs4, hn4, hb4⟩ : ∃ N, qa.tmps.getD 4 undef = .pointer (some ⟨N, 0, none⟩) ∧ W0.heap.size ≤ N ∧ Blk V1 N 26 zr5 := hslots 4 (by kernel_rfl)
  obtain ⟨u9, hs9⟩ := Fg.slotv qa 9
  obtain ⟨x1, hx1⟩ : ∃ x : Fe, x = fromN (wordOf F 32) := ⟨_, rfl⟩
  obtain rfl := Fg.frame_by [4, 9, 10] (vs := [Value.slice (some ⟨pb, po, none⟩) 32 c, undef, Value.pointer (some ⟨w0.heap.size, 0, none⟩), Value.bool false, Value.pointer (some ⟨N4, 0, none⟩), Value.slice (some ⟨pb, po, none⟩) 32 c, Value.int .i64 32, Value.bool false, undef, u9, x1.v, undef, undef, undef, undef, undef, undef, undef]) hsz hrest (by kernel_rfl) rfl rfl ⟨hs4, hs9, (show qa.tmps.getD 10 undef = x1.v by rw [hx1]; exact hslots 10 (by kernel_rfl)), trivial⟩ hdf
  clear hsz hdf hrest hslots hpt hs4 hs9
  have Hx1 := Lib.hid hx1; clear hx1
  replace hR := hR.gn g1
  replace G := gb_trans G g1
  have okx1 : x1.Ok := by rw [Hx1.out]; exact okN
  have hw4 : w0.heap.size ≤ N4 := Nat.le_trans Gs0 hn4
  clear g1
  refine Fg.wpl_skip rfl rfl (Fg.run_store (cs := feL x1) rfl rfl rfl (hb4.there 0 5 (by show 0 + 5 ≤ 5; decide)) info_elem (feL_one _)) ?_
  replace hR := hR.setCells_other (C := N4) (cs := feL x1) 0 (by omega)
  replace hb4 : Blk (V1.setCells N4 0 (feL x1)) N4 26 (feL x1) := hb4.setAll rfl
  replace G := gb_setCells_new (cs := feL x1) G (B := N4) (hw4) 0
  revert hR hb4 G
  generalize V1.setCells N4 0 (feL x1) = W2
  intro hR hb4 G
  have G1x := G
  go_upto_region 4 with (fail)
  have Gs2 := G.size
  have l2hR := hR.lt
  have l2hb4 := hb4.lt
  refine Fg.rP [] [.any, .any, .any, .any, .any, .any, .any, .any, .any, .any, .any, .val (x1.v), .row 79 (bytesV (Fe.m (x1))) 32 W2.heap.size, .val (Value.slice (some ⟨pb, po, none⟩) 32 c), .val (Value.bool true), .val (Value.bool false)] 5 ?_ ?_
  ·refine Fg.vS rfl (by decide) (fun ac w h => ?_) ?_
   ·have e4 : _ = Value.pointer (some ⟨N4, 0, none⟩) := h.r 4
    exact Fg.vn x1.v (Fg.run_load rfl e4 ((hb4.gn h.base).range 0 (feL x1) rfl) Tryd.underlying26 rfl info_elem)
   refine Fg.cS rfl (by decide) (fun ac w h => ?_) ?_
   ·have e11 : _ = x1.v := h.d 11
    refine ⟨wants_none rfl, 40, #[x1.v], Fg.run_call rfl rfl (by simp only [List.map_toArray, List.map_cons, List.map_nil, Act.eval, e11]) (Fg.run_enter Tryd.func40 (by kernel_rfl) (by kernel_rfl)), ?_⟩
    exact (put_any _ _ okx1).mono fun _ _ ⟨NB, he, hg, hn, hb⟩ => ⟨_, he, hg, ⟨NB, rfl, Nat.le_trans h.base.size hn, hb⟩⟩
   refine Fg.vS rfl (by decide) (fun ac w h => ?_) ?_
   ·have e0 : _ = Value.slice (some ⟨pb, po, none⟩) 32 c := h.r 0
    exact Fg.vn (Value.slice (some ⟨pb, po, none⟩) 32 c) (Fg.run_move rfl e0)
   refine Fg.cS rfl (by decide) (fun ac w h => ?_) ?_
   ·obtain ⟨B12, e12, hn12, b12⟩ : ∃ N, ac.tmps.getD 12 undef = .slice (some ⟨N, 0, none⟩) 32 32 ∧ W2.heap.size ≤ N ∧ Blk w N 79 (bytesV (Fe.m (x1))) := h.dep 12 (by kernel_rfl)
    have e13 : _ = Value.slice (some ⟨pb, po, none⟩) 32 c := h.d 13
    refine ⟨wants_none rfl, 58, #[Value.slice (some ⟨B12, 0, none⟩) 32 32, Value.slice (some ⟨pb, po, none⟩) 32 c], Fg.run_call rfl rfl (by simp only [List.map_toArray, List.map_cons, List.map_nil, Act.eval, e12, e13]) (Fg.run_enter Tryd.func58 (by kernel_rfl) (by kernel_rfl)), ?_⟩
    exact (t_equal _ pb po c _ _ F _ HF.out (Int.natCast_nonneg _) (m_256 _) b12 (fun i hi => by rw [gb_cell (gb_trans G1x h.base) (p := ⟨pb, po + i, none⟩) hB (by simp)]; exact HC.out i hi) (by rw [Hx1.out]; exact HD.out)).mono fun _ _ ⟨he, hg⟩ => ⟨_, he, hg, rfl⟩
   refine Fg.vS rfl (by decide) (fun ac w h => ?_) ?_
   ·have e14 : _ = Value.bool true := h.d 14
    refine ⟨wants_none rfl, Value.bool false, w, ?_, gb_refl _ _, rfl⟩
    clear h
    simp only [execOp, Act.eval, e14]
    go_simp
   trivial
  ·intro qa V3 g3 hsz hdf hrest hslots hpt
   obtain ⟨u11, hs11⟩ := Fg.slotv qa 11
   obtain ⟨u12, hs12⟩ := Fg.slotv qa 12
   obtain ⟨u13, hs13⟩ := Fg.slotv qa 13
   obtain ⟨u14, hs14⟩ := Fg.slotv qa 14
   obtain rfl := Fg.frame_by [11, 12, 13, 14, 15] (vs := [Value.slice (some ⟨pb, po, none⟩) 32 c, undef, Value.pointer (some ⟨w0.heap.size, 0, none⟩), Value.bool false, Value.pointer (some ⟨N4, 0, none⟩), Value.slice (some ⟨pb, po, none⟩) 32 c, Value.int .i64 32, Value.bool false, undef, u9, x1.v, u11, u12, u13, u14, Value.bool false, undef, undef]) hsz hrest (by kernel_rfl) rfl rfl ⟨hs11, hs12, hs13, hs14, (show qa.tmps.getD 15 undef = Value.bool false from hslots 15 (by kernel_rfl)), trivial⟩ hdf
   clear hsz hdf hrest hslots hpt hs11 hs12 hs13 hs14
   replace hR := hR.gn g3
   replace hb4 := hb4.gn g3
   replace G := gb_trans G g3
   clear g3
   go_upto_region 6 with (fail)
   have Gs3 := G.size
   have l3hR := hR.lt
   have l3hb4 := hb4.lt
   refine Fg.rP [] [.any, .any, .any, .any, .any, .any, .any, .any, .any, .any, .any, .any, .any, .any, .any, .any, .any, .val (x1.v)] 1 ?_ ?_
   ·refine Fg.vS rfl (by decide) (fun ac w h => ?_) ?_
    ·have e4 : _ = Value.pointer (some ⟨N4, 0, none⟩) := h.r 4
     exact Fg.vn x1.v (Fg.run_load rfl e4 ((hb4.gn h.base).range 0 (feL x1) rfl) Tryd.underlying26 rfl info_elem)
    trivial
   ·intro qa V4 g4 hsz hdf hrest hslots hpt
    obtain rfl := Fg.frame_by [17] (vs := [Value.slice (some ⟨pb, po, none⟩) 32 c, undef, Value.pointer (some ⟨w0.heap.size, 0, none⟩), Value.bool false, Value.pointer (some ⟨N4, 0, none⟩), Value.slice (some ⟨pb, po, none⟩) 32 c, Value.int .i64 32, Value.bool false, undef, u9, x1.v, u11, u12, u13, u14, Value.bool false, undef, x1.v]) hsz hrest (by kernel_rfl) rfl rfl ⟨(show qa.tmps.getD 17 undef = x1.v from hslots 17 (by kernel_rfl)), trivial⟩ hdf
    clear hsz hdf hrest hslots hpt
    replace hR := hR.gn g4
    replace hb4 := hb4.gn g4
    replace G := gb_trans G g4
    clear g4
    refine Fg.wpl_skip rfl rfl (Fg.run_store (cs := feL x1) rfl rfl rfl (hR.there 0 5 (by show 0 + 5 ≤ 5; decide)) info_elem (feL_one _)) ?_
    replace hR : Blk (V4.setCells w0.heap.size 0 (feL x1)) w0.heap.size 26 (feL x1) := hR.setAll rfl
    replace hb4 := hb4.setCells_other (C := w0.heap.size) (cs := feL x1) 0 (by omega)
    replace G := gb_setCells_new (cs := feL x1) G (B := w0.heap.size) (by omega) 0
    revert hR hb4 G
    generalize V4.setCells w0.heap.size 0 (feL x1) = W5
    intro hR hb4 G
    go_wp2_with fail
    have hx1 := Hx1.out; subst hx1
    exact bodyPost_ret (v := .tuple #[(fromN (wordOf F 32)).v, .bool true]) (results_row_tmp Tryd.results42 _ _ w0.heap.size 26 (feL (fromN (wordOf F 32))).toArray (0, 0) _ rfl hR Tryd.underlying26 rfl info_elem rfl) rfl ⟨rfl, G⟩
set_option maxRecDepth 100000 in
set_option maxHeartbeats 3200000 in
theorem fget_no (pb po c : Nat) (F : Nat → Int) (w0 : World) (h32 : 32 ≤ c) (hf : ∀ i, 0 ≤ F i ∧ F i < 256) (hc : ∀ i, i < 32 → w0.cell? ⟨pb, po + i, none⟩ = some (.int .u8 (F i))) (hB : pb < w0.heap.size) (hlt : 57896044618658097711785492504343953926634992332820282019728792003956564819949 ≤ wordOf F 32) :
  Calls Tryd.prog 42 #[.slice (some ⟨pb, po, none⟩) 32 c] w0 fun e w' => e = .returned (.tuple #[(Fe.zeroF).v, .bool false]) ∧ w0.grownBy w' none := by
 have HC := Lib.hid hc; clear hc
 have HF := Lib.hid hf; clear hf
 have hw := wordOf_bd F HF.out 32
 have h2 : (2 : Int) ^ (8 * 32) = 2 ^ 256 := by decide
 rw [h2] at hw
 have okN : (fromN (wordOf F 32)).Ok := (fromN_right hw.1 hw.2).ok
 have hD : decide ((Fe.m (fromN (wordOf F 32)) : Int) = wordOf F 32) = false := by
  rw [fromN_m, decide_eq_false_iff_not]
  have := hw.1
  omega
 have HD := Lib.hid hD; clear hD hw h2 hlt
 go_enter Tryd.func42, Tryd.ntmps42
 go_upto_region 1 with (fail)
 have G : w0.grownBy (w0.alloc (.cells zr5.toArray 26)) none := gb_alloc (gb_refl _ _) _
 have hR : Blk (w0.alloc (.cells zr5.toArray 26)) (w0.heap.size) 26 zr5 := Blk.new w0 zr5 _
 revert G hR
 generalize w0.alloc (.cells zr5.toArray 26) = W0
 intro G hR
 have Gs := G.size
 have HCW : Hid (∀ i, i < 32 → W0.cell? ⟨pb, po + i, none⟩ = some (.int .u8 (F i))) := Lib.hid (fun i hi => by rw [gb_cell G (p := ⟨pb, po + i, none⟩) hB (by simp)]; exact HC.out i hi)
 have G0x := G
 go_upto_region 3 with (fail)
 have Gs0 := G.size
 have l1hR := hR.lt
 refine Fg.rP [4] [.any, .any, .any, .any, .fresh 26 zr5 W0.heap.size, .any, .any, .any, .any, .val (Value.slice (some ⟨pb, po, none⟩) 32 c), .val ((fromN (wordOf F 32)).v)] 3 ?_ ?_
 ·refine Fg.vS rfl (by decide) (fun ac w h => ?_) ?_
  ·have e0 : _ = Value.slice (some ⟨pb, po, none⟩) 32 c := h.r 0
   exact Fg.vn (Value.slice (some ⟨pb, po, none⟩) 32 c) (Fg.run_move rfl e0)
  refine Fg.cS rfl (by decide) (fun ac w h => ?_) ?_
  ·have e9 : _ = Value.slice (some ⟨pb, po, none⟩) 32 c := h.d 9
   refine ⟨wants_none rfl, 57, #[Value.slice (some ⟨pb, po, none⟩) 32 c], Fg.run_call rfl rfl (by simp only [List.map_toArray, List.map_cons, List.map_nil, Act.eval, e9]) (Fg.run_enter Tryd.func57 (by kernel_rfl) (by kernel_rfl)), ?_⟩
   exact ((ofBytes_at pb po c F _ h32 HF.out (fun i hi => by rw [gb_cell (gb_trans G0x h.base) (p := ⟨pb, po + i, none⟩) hB (by simp)]; exact HC.out i hi) (Nat.lt_of_lt_of_le hB (gb_trans G0x h.base).size)).mono fun _ _ h => feOut_is h).mono fun _ _ ⟨he, hg⟩ => ⟨_, he, hg, rfl⟩
  refine ⟨⟨⟨_, rfl⟩, Fg.allocP (fun _ _ h k => gb_trans h k) rfl (by show 4 < 18; decide) fun ac w h => ?_⟩, ?_⟩
  ·refine ⟨wants_none rfl, w.alloc (.cells zr5.toArray 26), ?_, World.grownBy_alloc _ _ _, by simp, ⟨w.heap.size, rfl, h.base.size, Blk.new w zr5 _⟩⟩
   clear h
   go_simp
  trivial
 ·intro qa V1 g1 hsz hdf hrest hslots hpt
  obtain ⟨N4, hs4, hn4, hb4⟩ : ∃ N, qa.tmps.getD 4 undef = .pointer (some ⟨N, 0, none⟩) ∧ W0.heap.size ≤ N ∧ Blk V1 N 26 zr5 := hslots 4 (by kernel_rfl)
  obtain ⟨u9, hs9⟩ := Fg.slotv qa 9
  obtain ⟨x1, hx1⟩ : ∃ x : Fe, x = fromN (wordOf F 32) := ⟨_, rfl⟩
  obtain rfl := Fg.frame_by [4, 9, 10] (vs := [Value.slice (some ⟨pb, po, none⟩) 32 c, undef, Value.pointer (some ⟨w0.heap.size, 0, none⟩), Value.bool false, Value.pointer (some ⟨N4, 0, none⟩), Value.slice (some ⟨pb, po, none⟩) 32 c, Value.int .i64 32, Value.bool false, undef, u9, x1.v, undef, undef, undef, undef, undef, undef, undef]) hsz hrest (by kernel_rfl) rfl rfl ⟨hs4, hs9, (show qa.tmps.getD 10 undef = x1.v by rw [hx1]; exact hslots 10 (by kernel_rfl)), trivial⟩ hdf
  clear hsz hdf hrest hslots hpt hs4 hs9
  have Hx1 := Lib.hid hx1; clear hx1
  replace hR := hR.gn g1
  replace G := gb_trans G g1
  have okx1 : x1.Ok := by rw [Hx1.out]; exact okN
  have hw4 : w0.heap.size ≤ N4 := Nat.le_trans Gs0 hn4
  clear g1
  refine Fg.wpl_skip rfl rfl (Fg.run_store (cs := feL x1) rfl rfl rfl (hb4.there 0 5 (by show 0 + 5 ≤ 5; decide)) info_elem (feL_one _)) ?_
  replace hR := hR.setCells_other (C := N4) (cs := feL x1) 0 (by omega)
  replace hb4 : Blk (V1.setCells N4 0 (feL x1)) N4 26 (feL x1) := hb4.setAll rfl
  replace G := gb_setCells_new (cs := feL x1) G (B := N4) (hw4) 0
  revert hR hb4 G
  generalize V1.setCells N4 0 (feL x1) = W2
  intro hR hb4 G
  have G1x := G
  go_upto_region 4 with (fail)
  have Gs2 := G.size
  have l2hR := hR.lt
  have l2hb4 := hb4.lt
  refine Fg.rP [] [.any, .any, .any, .any, .any, .any, .any, .any, .any, .any, .any, .val (x1.v), .row 79 (bytesV (Fe.m (x1))) 32 W2.heap.size, .val (Value.slice (some ⟨pb, po, none⟩) 32 c), .val (Value.bool false), .val (Value.bool true)] 5 ?_ ?_
  ·refine Fg.vS rfl (by decide) (fun ac w h => ?_) ?_
   ·have e4 : _ = Value.pointer (some ⟨N4, 0, none⟩) := h.r 4
    exact Fg.vn x1.v (Fg.run_load rfl e4 ((hb4.gn h.base).range 0 (feL x1) rfl) Tryd.underlying26 rfl info_elem)
   refine Fg.cS rfl (by decide) (fun ac w h => ?_) ?_
   ·have e11 : _ = x1.v := h.d 11
    refine ⟨wants_none rfl, 40, #[x1.v], Fg.run_call rfl rfl (by simp only [List.map_toArray, List.map_cons, List.map_nil, Act.eval, e11]) (Fg.run_enter Tryd.func40 (by kernel_rfl) (by kernel_rfl)), ?_⟩
    exact (put_any _ _ okx1).mono fun _ _ ⟨NB, he, hg, hn, hb⟩ => ⟨_, he, hg, ⟨NB, rfl, Nat.le_trans h.base.size hn, hb⟩⟩
   refine Fg.vS rfl (by decide) (fun ac w h => ?_) ?_
   ·have e0 : _ = Value.slice (some ⟨pb, po, none⟩) 32 c := h.r 0
    exact Fg.vn (Value.slice (some ⟨pb, po, none⟩) 32 c) (Fg.run_move rfl e0)
   refine Fg.cS rfl (by decide) (fun ac w h => ?_) ?_
   ·obtain ⟨B12, e12, hn12, b12⟩ : ∃ N, ac.tmps.getD 12 undef = .slice (some ⟨N, 0, none⟩) 32 32 ∧ W2.heap.size ≤ N ∧ Blk w N 79 (bytesV (Fe.m (x1))) := h.dep 12 (by kernel_rfl)
    have e13 : _ = Value.slice (some ⟨pb, po, none⟩) 32 c := h.d 13
    refine ⟨wants_none rfl, 58, #[Value.slice (some ⟨B12, 0, none⟩) 32 32, Value.slice (some ⟨pb, po, none⟩) 32 c], Fg.run_call rfl rfl (by simp only [List.map_toArray, List.map_cons, List.map_nil, Act.eval, e12, e13]) (Fg.run_enter Tryd.func58 (by kernel_rfl) (by kernel_rfl)), ?_⟩
    exact (t_equal _ pb po c _ _ F _ HF.out (Int.natCast_nonneg _) (m_256 _) b12 (fun i hi => by rw [gb_cell (gb_trans G1x h.base) (p := ⟨pb, po + i, none⟩) hB (by simp)]; exact HC.out i hi) (by rw [Hx1.out]; exact HD.out)).mono fun _ _ ⟨he, hg⟩ => ⟨_, he, hg, rfl⟩
   refine Fg.vS rfl (by decide) (fun ac w h => ?_) ?_
   ·have e14 : _ = Value.bool false := h.d 14
    refine ⟨wants_none rfl, Value.bool true, w, ?_, gb_refl _ _, rfl⟩
    clear h
    simp only [execOp, Act.eval, e14]
    go_simp
   trivial
  ·intro qa V3 g3 hsz hdf hrest hslots hpt
   obtain ⟨u11, hs11⟩ := Fg.slotv qa 11
   obtain ⟨u12, hs12⟩ := Fg.slotv qa 12
   obtain ⟨u13, hs13⟩ := Fg.slotv qa 13
   obtain ⟨u14, hs14⟩ := Fg.slotv qa 14
   obtain rfl := Fg.frame_by [11, 12, 13, 14, 15] (vs := [Value.slice (some ⟨pb, po, none⟩) 32 c, undef, Value.pointer (some ⟨w0.heap.size, 0, none⟩), Value.bool false, Value.pointer (some ⟨N4, 0, none⟩), Value.slice (some ⟨pb, po, none⟩) 32 c, Value.int .i64 32, Value.bool false, undef, u9, x1.v, u11, u12, u13, u14, Value.bool true, undef, undef]) hsz hrest (by kernel_rfl) rfl rfl ⟨hs11, hs12, hs13, hs14, (show qa.tmps.getD 15 undef = Value.bool true from hslots 15 (by kernel_rfl)), trivial⟩ hdf
   clear hsz hdf hrest hslots hpt hs11 hs12 hs13 hs14
   replace hR := hR.gn g3
   replace hb4 := hb4.gn g3
   replace G := gb_trans G g3
   clear g3
   go_upto_region 5 with (fail)
   have Gs3 := G.size
   have l3hR := hR.lt
   have l3hb4 := hb4.lt
   refine Fg.rP [] [.any, .any, .any, .any, .any, .any, .any, .any, .any, .any, .any, .any, .any, .any, .any, .any, .val (Fe.zeroF.v)] 1 ?_ ?_
   ·refine Fg.vS rfl (by decide) (fun ac w h => ?_) ?_
    ·exact Fg.vn Fe.zeroF.v (Fg.run_build (vs := #[]) rfl (by simp) (by kernel_rfl))
    trivial
   ·intro qa V4 g4 hsz hdf hrest hslots hpt
    obtain rfl := Fg.frame_by [16] (vs := [Value.slice (some ⟨pb, po, none⟩) 32 c, undef, Value.pointer (some ⟨w0.heap.size, 0, none⟩), Value.bool false, Value.pointer (some ⟨N4, 0, none⟩), Value.slice (some ⟨pb, po, none⟩) 32 c, Value.int .i64 32, Value.bool false, undef, u9, x1.v, u11, u12, u13, u14, Value.bool true, Fe.zeroF.v, undef]) hsz hrest (by kernel_rfl) rfl rfl ⟨(show qa.tmps.getD 16 undef = Fe.zeroF.v from hslots 16 (by kernel_rfl)), trivial⟩ hdf
    clear hsz hdf hrest hslots hpt
    replace hR := hR.gn g4
    replace hb4 := hb4.gn g4
    replace G := gb_trans G g4
    clear g4
    refine Fg.wpl_skip rfl rfl (Fg.run_store (cs := feL Fe.zeroF) rfl rfl rfl (hR.there 0 5 (by show 0 + 5 ≤ 5; decide)) info_elem (feL_one _)) ?_
    replace hR : Blk (V4.setCells w0.heap.size 0 (feL Fe.zeroF)) w0.heap.size 26 (feL Fe.zeroF) := hR.setAll rfl
    replace hb4 := hb4.setCells_other (C := w0.heap.size) (cs := feL Fe.zeroF) 0 (by omega)
    replace G := gb_setCells_new (cs := feL Fe.zeroF) G (B := w0.heap.size) (by omega) 0
    revert hR hb4 G
    generalize V4.setCells w0.heap.size 0 (feL Fe.zeroF) = W5
    intro hR hb4 G
    go_wp2_with fail
    exact bodyPost_ret (v := .tuple #[Fe.zeroF.v, .bool false]) (results_row_tmp Tryd.results42 _ _ w0.heap.size 26 (feL Fe.zeroF).toArray (0, 0) _ rfl hR Tryd.underlying26 rfl info_elem rfl) rfl ⟨rfl, G⟩

end Go.Proofs.YtleegbaigedebaaDoor

/- Parts of slices of bytes; rows of one's own as bytes. -/
namespace Go.Proofs.YtleegbaigedebaaDoor
open Go.RowKit Ow

theorem own_of_blk {w : World} {g n base e : Nat} {xs : List Value} (h : Blk w g e xs) (hn : xs.length = n) (hb : base ≤ g) (hm : n ≤ 140737488355328) : w.ownsRow base e 1 (.slice (some ⟨g, 0, none⟩) n n) n xs :=
  ⟨by omega, Or.inr ⟨g, n, xs.toArray, rfl, hb, h, Nat.le_refl _, by unfold maxLen; omega, by simp [hn], by simp [← hn]⟩⟩
theorem own_bytesAt {w : World} {base n : Nat} {v : Value} {l : List Nat} (h : w.ownsRow base 5 1 v n (l.map u8N)) (hl : l.length = n) (hn : 0 < n) (hb : ∀ i, l.getD i 0 < 256) :
    ∃ g c, v = .slice (some ⟨g, 0, none⟩) n c ∧ base ≤ g ∧ n ≤ c ∧ BytesAt w w.heap.size (some ⟨g, 0, none⟩) c l := by
  subst hl
  obtain ⟨g, c, rfl, hbg, hnc, hcm, hlt⟩ := own_some h hn
  refine ⟨g, c, rfl, hbg, hnc, Nat.le_refl _, hnc, by unfold maxLen at hcm; omega, hb, Or.inr ⟨g, 0, rfl, hlt, fun i hi => ?_⟩⟩
  rw [Nat.zero_add]
  exact own_cell h (u8_getD hi)
end Go.Proofs.YtleegbaigedebaaDoor

/- edwards: slices.Clone of bytes that are there. -/
namespace Go.Proofs.YtleegbaigedebaaDoor
open Go.RowKit Ow Ed
set_option maxRecDepth 100000 in
set_option maxHeartbeats 1600000 in
theorem clone_bytes (B pb po n c : Nat) (l : List Nat) (w : World) (hn : l.length = n) (hn0 : 0 < n) (hn1 : n ≤ 1000000) (hP : BytesAt w B (some ⟨pb, po, none⟩) c l) :
    Calls Tryd.prog 41 #[.slice (some ⟨pb, po, none⟩) n c] w fun e w' => ∃ g c', e = .returned (.slice (some ⟨g, 0, none⟩) n c') ∧ w'.ownsRow w.heap.size 5 1 (.slice (some ⟨g, 0, none⟩) n c') n (l.map u8N) ∧ w.grownBy w' none := by
  have hb0 := Blk.new w [] 5
  have ho0 := own_of_blk (base := w.heap.size) hb0 rfl (Nat.le_refl _) (by decide)
  have hP1 := hP.kept (World.grownBy_alloc w (.cells #[] 5) none) (by simp)
  obtain ⟨v', w', hap, ho, hg⟩ := append_bytes (w.alloc (.cells #[] 5)) w.heap.size 0 B c n (.slice (some ⟨w.heap.size, 0, none⟩) 0 0) [] (some ⟨pb, po, none⟩) l ho0 hn hP1 (by omega) (by simp)
  have hg1 := gb_then (gb_alloc (gb_refl w none) (.cells #[] 5)) hg (Nat.le_refl _)
  rw [Nat.zero_add, List.nil_append] at ho
  obtain ⟨g, c', rfl, _⟩ := own_some ho hn0
  have H := Lib.hid (And.intro hap (And.intro ho hg1)); clear hap ho hg hg1 hb0 ho0 hP1 hP hn
  have hq := fun wx => Lib.run_eql_slice_nil (P := Tryd.prog) wx 22 5 (some ⟨pb, po, none⟩) n c 0 0 Tryd.underlying22
  go_enter Tryd.func41, Tryd.ntmps41
  go_wp2_with (at_builtin; refine wpList_append_run rfl (.tmp 5) (.tmp 6) 22 rfl rfl _ _ rfl rfl _ _ H.out.1 ?_)
  go_ret
  exact ⟨g, c', rfl, H.out.2.1, H.out.2.2⟩
end Go.Proofs.YtleegbaigedebaaDoor

/- Rows of one's own, several beside each other: what a call may change (Kb S), appends by cases, cells set. -/
namespace Go.Proofs.YtleegbaigedebaaDoor
open Go.RowKit Ow

theorem own_lt {w : World} {base e n g c : Nat} {xs : List Value} (h : w.ownsRow base e 1 (.slice (some ⟨g, 0, none⟩) n c) n xs) : g < w.heap.size ∧ base ≤ g ∧ n ≤ c := by
  rcases h.2 with ⟨h0, _⟩ | ⟨g', c', cur, e1, hb, hg, hnc, _⟩
  · cases h0
  · cases e1
    exact ⟨(Array.getElem?_eq_some_iff.1 hg).1, hb, hnc⟩
theorem own_set {w : World} {base e n g c i : Nat} {xs : List Value} (h : w.ownsRow base e 1 (.slice (some ⟨g, 0, none⟩) n c) n xs) (v : Value) : (w.setCell ⟨g, i, none⟩ v).ownsRow base e 1 (.slice (some ⟨g, 0, none⟩) n c) n (xs.set i v) := by
  refine ⟨by rw [List.length_set]; exact h.1, ?_⟩
  rcases h.2 with ⟨h0, _⟩ | ⟨g', c', cur, e1, hb, hg, hnc, hcm, hs, ht⟩
  · cases h0
  · cases e1
    have hblk : Blk w g e cur.toList := by unfold Blk; rw [hg]
    have h2 := hblk.set i v
    refine Or.inr ⟨g, c, (cur.toList.set i v).toArray, rfl, hb, h2, hnc, hcm, by simpa using hs, ?_⟩
    rw [← ht, List.take_set]
theorem own_free {w : World} {base e n g c : Nat} {xs : List Value} (h : w.ownsRow base e 1 (.slice (some ⟨g, 0, none⟩) n c) n xs) (i : Nat) : w.frozen? ⟨g, i, none⟩ = false := by
  rcases h.2 with ⟨h0, _⟩ | ⟨g', c', cur, e1, hb, hg, hnc, hcm, hs, ht⟩
  · cases h0
  · cases e1
    have hblk : Blk w g e cur.toList := by unfold Blk; rw [hg]
    exact hblk.free i
structure Elt (e st : TypeId) (bt : Nat) (z : Value) : Prop where
  sl : Tryd.prog.underlying st = some (.slice e)
  info : ∃ i, Tryd.prog.info? e = some i ∧ i.zero = some z ∧ i.size = 1 ∧ i.bytes = bt ∧ z.cells.size = 1
theorem append_cases {e st : TypeId} {bt : Nat} {z : Value} (hE : Elt e st bt z) (w : World) (base g n c : Nat) (xs : List Value) (hown : w.ownsRow base e 1 (.slice (some ⟨g, 0, none⟩) n c) n xs)
    (ad : Addr) (m cc : Nat) (news : List Value) (hl : news.length = m) (hnews : ∀ j u, news[j]? = some u → w.cell? (ad.add j) = some u) (h1 : ∀ u ∈ news, u.oneCell' = true) (hb : (n + m) * bt ≤ 140737488355328) (hb2 : n + m ≤ 140737488355328) :
    (n + m ≤ c ∧ ∃ w', (Builtin.append_ #[st, st] st #[.slice (some ⟨g, 0, none⟩) n c, .slice (some ad) m cc]).run Tryd.prog w = .ok (.slice (some ⟨g, 0, none⟩) (n + m) c) w' ∧ w'.ownsRow base e 1 (.slice (some ⟨g, 0, none⟩) (n + m) c) (n + m) (xs ++ news) ∧ w.grownBy w' (some g)) ∨
    (c < n + m ∧ ∃ c' w', (Builtin.append_ #[st, st] st #[.slice (some ⟨g, 0, none⟩) n c, .slice (some ad) m cc]).run Tryd.prog w = .ok (.slice (some ⟨w.heap.size, 0, none⟩) (n + m) c') w' ∧ w'.ownsRow w.heap.size e 1 (.slice (some ⟨w.heap.size, 0, none⟩) (n + m) c') (n + m) (xs ++ news) ∧ w.grownBy w' none) := by
  obtain ⟨i, hi, hz, hs, hby, hzc⟩ := hE.info
  by_cases h : n + m ≤ c
  · obtain ⟨w', hr, ho, hg⟩ := run_append_fits w base st st e i 1 (P := Tryd.prog) hE.sl hi hs g n c xs hown ad m cc news (by omega) hnews h1 h
    exact Or.inl ⟨h, w', hr, ho, hg⟩
  · refine Or.inr ⟨by omega, ?_⟩
    have hxl : xs.length = n := by have := hown.1; omega
    have hold : ∀ j v, xs[j]? = some v → w.cell? ((⟨g, 0, none⟩ : Addr).add j) = some v := fun j v hv => by
      have hadd : (⟨g, 0, none⟩ : Addr).add j = ⟨g, j, none⟩ := by unfold Addr.add; split <;> simp_all
      rw [hadd]; exact own_cell hown hv
    have hnc : Builtin.nextslicecap (n + m) c * i.bytes ≤ 281474976710656 := growslice_fits (by omega) (by rw [hby]; exact hb)
    have hr := run_append_grow (P := Tryd.prog) w st st e i z hE.sl hi hz ⟨g, 0, none⟩ n c xs (by rw [hs]; omega) hold ad m cc news (by rw [hs]; omega) hnews (by omega) (by omega) hnc
    have hge := grownCap_ge w (n + m) c e
    have hcm : grownCap w (n + m) c e ≤ maxLen := grownCap_le_maxLen w (n + m) c e (by unfold maxLen; omega)
    refine ⟨_, _, hr, ⟨by rw [List.length_append]; omega, Or.inr ⟨w.heap.size, _, _, rfl, Nat.le_refl _, heap_alloc_new w.drew _, hge, hcm, ?_, ?_⟩⟩, ⟨rfl, rfl, rfl, by simp, fun k hk _ => heap_alloc_old w.drew _ hk⟩⟩
    · simp only [Array.size_append, List.size_toArray, size_zeroCells, hzc]
      omega
    · simp only [Array.toList_append, List.append_assoc]
      rw [← List.append_assoc, List.take_left' (by rw [List.length_append]; omega)]
end Go.Proofs.YtleegbaigedebaaDoor

/- edwards: Get. -/
namespace Go.Proofs.YtleegbaigedebaaDoor
open Go.RowKit Ow Ed
def lowL (l : List Nat) : List Nat := l.set 31 (l.getD 31 0 % 128)
def lowF (l : List Nat) (i : Nat) : Int := ((lowL l).getD i 0 : Nat)
def topB (l : List Nat) : Bool := decide (128 ≤ l.getD 31 0)
theorem lowF_bd (l : List Nat) (h : ∀ i, l.getD i 0 < 256) (i : Nat) : 0 ≤ lowF l i ∧ lowF l i < 256 := by
 unfold lowF lowL
 refine ⟨Int.natCast_nonneg _, ?_⟩
 have h1 := h i
 have h2 := h 31
 rw [List.getD_eq_getElem?_getD, List.getElem?_set]
 rw [List.getD_eq_getElem?_getD] at h1 h2
 split
 ·split
  ·rw [Option.getD_some]; omega
  ·simp
 ·omega
theorem and_top (x : Nat) (h : x < 256) : (bits .and .u8 (x : Int) 128 != 0) = decide (128 ≤ x) := by
 have all : ∀ j : Fin 256, (bits .and .u8 (j.val : Int) 128 != 0) = decide (128 ≤ j.val) := by decide +kernel
 exact all ⟨x, h⟩
theorem not_top (x : Nat) (h : x < 256) : bits .andNot .u8 (x : Int) 128 = (x : Int) % 128 := by
 have all : ∀ j : Fin 256, bits .andNot .u8 (j.val : Int) 128 = (j.val : Int) % 128 := by decide +kernel
 exact all ⟨x, h⟩
theorem low_map (l : List Nat) : (l.map u8N).set 31 (.int .u8 (((l.getD 31 0 : Nat) : Int) % 128)) = (lowL l).map u8N := by
 unfold lowL
 rw [List.map_set]
 have e : (((l.getD 31 0 % 128 : Nat) : Int)) = ((l.getD 31 0 : Nat) : Int) % 128 := by omega
 unfold u8N
 rw [e]
theorem low_cell {w : World} {base g c : Nat} {l : List Nat} (hl : l.length = 32) (h : w.ownsRow base 5 1 (.slice (some ⟨g, 0, none⟩) 32 c) 32 ((lowL l).map u8N)) (i : Nat) (hi : i < 32) : w.cell? ⟨g, 0 + i, none⟩ = some (.int .u8 (lowF l i)) := by
 rw [Nat.zero_add]
 have hlen : (lowL l).length = 32 := by unfold lowL; rw [List.length_set, hl]
 refine own_cell h (j := i) ?_
 rw [List.getElem?_map, List.getElem?_eq_getElem (by omega)]
 unfold lowF
 rw [List.getD_eq_getElem?_getD, List.getElem?_eq_getElem (by omega)]
 rfl
def zeroP0 : Pt := ⟨Fe.zeroF, Fe.zeroF, Fe.zeroF, Fe.zeroF⟩
theorem across_ok (y : Fe) (odd : Bool) : (acrossF y odd).1.Ok := by
 unfold acrossF
 split
 ·exact root_ok _ _
 ·split
  ·exact root_ok _ _
  ·split
   ·exact zero_ok
   ·exact (Fe.neg_right _).ok
set_option maxRecDepth 100000 in
set_option maxHeartbeats 3200000 in
theorem get_B (B : Nat) (a : Option Addr) (c : Nat) (l : List Nat) (w0 : World) (HT0 : ETab w0) (hl : l.length = 32) (hP : BytesAt w0 B a c l) (hyp : 57896044618658097711785492504343953926634992332820282019728792003956564819949 ≤ wordOf (lowF l) 32) :
  Calls Tryd.prog 16 #[.slice a 32 c] w0 fun e w' => e = .returned (.tuple #[(zeroP0).v, .bool false]) ∧ w0.grownBy w' none := by
 have hc32 := hP.fits
 have hP0 := hP
 obtain ⟨pb, po, rfl, hpb, hcells⟩ := hP.cells.resolve_left (by omega)
 have hx := hP.byte 31
 have c31 : w0.cell? ⟨pb, po + 31, none⟩ = some (.int .u8 ((l.getD 31 0 : Nat) : Int)) := hcells 31 (by omega)
 have hBl := hP.lim
 have hand := and_top _ hx
 have hnot := not_top _ hx
 have HD := Lib.hid (And.intro hP (And.intro hl hc32)); clear hP hP0 hcells hl hc32
 obtain ⟨x, hxe⟩ : ∃ x, x = l.getD 31 0 := ⟨_, rfl⟩
 rw [← hxe] at hx c31 hand hnot
 have hodd : topB l = decide (128 ≤ x) := by unfold topB; rw [hxe]
 obtain ⟨odd, hoe⟩ : ∃ b, b = decide (128 ≤ x) := ⟨_, rfl⟩
 rw [← hoe] at hand hodd
 have HX := Lib.hid hxe; clear hxe
 have HO := Lib.hid hodd; clear hodd hoe
 go_enter Tryd.func16, Tryd.ntmps16
 have c31r := c31
 replace c31 : (w0.alloc (.cells zr20.toArray 28)).cell? ⟨pb, po + 31, none⟩ = some (.int .u8 (x : Int)) := by rw [gb_cell (gb_alloc (gb_refl w0 none) _) (p := ⟨pb, po + 31, none⟩) (by show pb < _; omega) (by simp)]; exact c31r
 go_upto_region 4 with (fail)
 clear c31 c31r
 have G : w0.grownBy (w0.alloc (.cells zr20.toArray 28)) none := gb_alloc (gb_refl _ _) _
 have HT : ETab (w0.alloc (.cells zr20.toArray 28)) := HT0.grown (gb_alloc (gb_refl _ _) _)
 have hR : Blk (w0.alloc (.cells zr20.toArray 28)) (w0.heap.size) 28 zr20 := Blk.new w0 zr20 _
 have hPW := HD.out.1.kept G (by simp)
 revert G HT hR hPW
 generalize w0.alloc (.cells zr20.toArray 28) = W0
 intro G HT hR hPW
 have lR := hR.lt
 go_wp2_with fail
 refine (clone_bytes B pb po 32 c l _ HD.out.2.1 (by decide) (by decide) hPW).mono ?_
 rintro e W1 ⟨g, c', rfl, ho, hg⟩
 obtain ⟨gl, gb_, hc'⟩ := own_lt ho
 have hlen : (l.map u8N).length = 32 := by rw [List.length_map]; exact HD.out.2.1
 have k31 : W1.cell? ⟨g, 31, none⟩ = some (.int .u8 (x : Int)) := own_cell ho (j := 31) (by rw [List.getElem?_map, List.getElem?_eq_getElem (by have := HD.out.2.1; omega), HX.out, List.getD_eq_getElem?_getD, List.getElem?_eq_getElem (by have := HD.out.2.1; omega)]; rfl)
 have f31 := own_free ho 31
 have ho5 := own_set (i := 31) ho (.int .u8 ((x : Int) % 128))
 rw [HX.out, low_map, ← HX.out] at ho5
 replace G := gb_set_new (gb_trans G hg) (p := ⟨g, 31, none⟩) (by show _ ≤ g; have := G.size; omega) (.int .u8 ((x : Int) % 128))
 replace hR := (hR.gn hg).other (a := ⟨g, 31, none⟩) (by show g ≠ _; omega) (.int .u8 ((x : Int) % 128))
 replace HT := (HT.grown hg).keep (gb_set (gb_refl _ (some g)) 31 (.int .u8 ((x : Int) % 128))) (HT0.noG (by omega))
 have HS := Lib.hid (And.intro ho5 (And.intro G (And.intro hR HT))); clear ho ho5 G hR HT hg hPW hlen
 go_upto_region 6 with (fail)
 obtain ⟨ho5, G, hR, HT⟩ := HS.out
 clear HS k31 f31 hand hnot
 revert ho5 G hR HT
 generalize W1.setCell ⟨g, 31, none⟩ (.int .u8 ((x : Int) % 128)) = W5
 intro ho5 G hR HT
 have hcg : ∀ i, i < 32 → W5.cell? ⟨g, 0 + i, none⟩ = some (.int .u8 (lowF l i)) := fun i hi => low_cell HD.out.2.1 ho5 i hi
 have hgl : g < W5.heap.size := (own_lt ho5).1
 have HCG := Lib.hid (And.intro hcg hgl); clear hcg ho5 hgl
 have GX := G
 have Gs0 := G.size
 have l1hR := hR.lt
 refine Fg.rP [6] [.any, .any, .any, .any, .any, .any, .fresh 26 zr5 W5.heap.size, .any, .any, .any, .any, .any, .any, .any, .any, .any, .any, .any, .any, .any, .any, .any, .any, .any, .any, .val (Value.tuple #[Fe.zeroF.v, .bool false]), .val (Value.slice (some ⟨g, 0, none⟩) 32 c'), .val (Value.tuple #[Fe.zeroF.v, .bool false]), .val (Fe.zeroF.v), .val (Value.bool false)] 6 ?_ ?_
 ·refine Fg.vS rfl (by decide) (fun ac w h => ?_) ?_
  ·have e5 : _ = Value.slice (some ⟨g, 0, none⟩) 32 c' := h.r 5
   exact Fg.vn (Value.slice (some ⟨g, 0, none⟩) 32 c') (Fg.run_move rfl e5)
  refine Fg.cS rfl (by decide) (fun ac w h => ?_) ?_
  ·have e26 : _ = Value.slice (some ⟨g, 0, none⟩) 32 c' := h.d 26
   refine ⟨wants_none rfl, 42, #[Value.slice (some ⟨g, 0, none⟩) 32 c'], Fg.run_call rfl rfl (by simp only [List.map_toArray, List.map_cons, List.map_nil, Act.eval, e26]) (Fg.run_enter Tryd.func42 (by kernel_rfl) (by kernel_rfl)), ?_⟩
   exact (fget_no g 0 c' (lowF l) _ hc' (lowF_bd l HD.out.1.byte) (fun i hi => by rw [gb_cell h.base (p := ⟨g, 0 + i, none⟩) HCG.out.2 (by simp)]; exact HCG.out.1 i hi) (Nat.lt_of_lt_of_le HCG.out.2 h.base.size) hyp).mono fun _ _ ⟨he, hg⟩ => ⟨_, he, hg, rfl⟩
  refine Fg.vS rfl (by decide) (fun ac w h => ?_) ?_
  ·have e27 : _ = Value.tuple #[Fe.zeroF.v, .bool false] := h.d 27
   exact Fg.vn (Value.tuple #[Fe.zeroF.v, .bool false]) (Fg.run_move rfl e27)
  refine Fg.vS rfl (by decide) (fun ac w h => ?_) ?_
  ·have e25 : _ = Value.tuple #[Fe.zeroF.v, .bool false] := h.d 25
   exact Fg.vn Fe.zeroF.v (Fg.run_extract rfl e25 rfl)
  refine Fg.vS rfl (by decide) (fun ac w h => ?_) ?_
  ·have e25 : _ = Value.tuple #[Fe.zeroF.v, .bool false] := h.d 25
   exact Fg.vn (Value.bool false) (Fg.run_extract rfl e25 rfl)
  refine ⟨⟨⟨_, rfl⟩, Fg.allocP (fun _ _ h k => gb_trans h k) rfl (by show 6 < 49; decide) fun ac w h => ?_⟩, ?_⟩
  ·refine ⟨wants_none rfl, w.alloc (.cells zr5.toArray 26), ?_, World.grownBy_alloc _ _ _, by simp, ⟨w.heap.size, rfl, h.base.size, Blk.new w zr5 _⟩⟩
   clear h
   go_simp
  trivial
 ·intro qa V1 g1 hsz hdf hrest hslots hpt
  obtain ⟨u0, hs0⟩ := Fg.slotv qa 0
  obtain ⟨u1, hs1⟩ := Fg.slotv qa 1
  obtain ⟨N6, hs6, hn6, hb6⟩ : ∃ N, qa.tmps.getD 6 undef = .pointer (some ⟨N, 0, none⟩) ∧ W5.heap.size ≤ N ∧ Blk V1 N 26 zr5 := hslots 6 (by kernel_rfl)
  obtain ⟨u7, hs7⟩ := Fg.slotv qa 7
  obtain ⟨u9, hs9⟩ := Fg.slotv qa 9
  obtain ⟨u10, hs10⟩ := Fg.slotv qa 10
  obtain ⟨u11, hs11⟩ := Fg.slotv qa 11
  obtain ⟨u12, hs12⟩ := Fg.slotv qa 12
  obtain ⟨u13, hs13⟩ := Fg.slotv qa 13
  obtain ⟨u14, hs14⟩ := Fg.slotv qa 14
  obtain ⟨u15, hs15⟩ := Fg.slotv qa 15
  obtain ⟨u16, hs16⟩ := Fg.slotv qa 16
  obtain ⟨u17, hs17⟩ := Fg.slotv qa 17
  obtain ⟨u18, hs18⟩ := Fg.slotv qa 18
  obtain ⟨u19, hs19⟩ := Fg.slotv qa 19
  obtain ⟨u20, hs20⟩ := Fg.slotv qa 20
  obtain ⟨u21, hs21⟩ := Fg.slotv qa 21
  obtain ⟨u22, hs22⟩ := Fg.slotv qa 22
  obtain ⟨u23, hs23⟩ := Fg.slotv qa 23
  obtain ⟨u24, hs24⟩ := Fg.slotv qa 24
  obtain ⟨u25, hs25⟩ := Fg.slotv qa 25
  obtain ⟨u26, hs26⟩ := Fg.slotv qa 26
  obtain ⟨u27, hs27⟩ := Fg.slotv qa 27
  obtain ⟨u30, hs30⟩ := Fg.slotv qa 30
  obtain ⟨u31, hs31⟩ := Fg.slotv qa 31
  obtain ⟨u32, hs32⟩ := Fg.slotv qa 32
  obtain ⟨u33, hs33⟩ := Fg.slotv qa 33
  obtain ⟨u34, hs34⟩ := Fg.slotv qa 34
  obtain ⟨u35, hs35⟩ := Fg.slotv qa 35
  obtain ⟨u36, hs36⟩ := Fg.slotv qa 36
  obtain ⟨u37, hs37⟩ := Fg.slotv qa 37
  obtain ⟨u38, hs38⟩ := Fg.slotv qa 38
  obtain ⟨u39, hs39⟩ := Fg.slotv qa 39
  obtain ⟨u40, hs40⟩ := Fg.slotv qa 40
  obtain ⟨u41, hs41⟩ := Fg.slotv qa 41
  obtain ⟨u42, hs42⟩ := Fg.slotv qa 42
  obtain ⟨u43, hs43⟩ := Fg.slotv qa 43
  obtain ⟨u44, hs44⟩ := Fg.slotv qa 44
  obtain ⟨u45, hs45⟩ := Fg.slotv qa 45
  obtain ⟨u46, hs46⟩ := Fg.slotv qa 46
  obtain ⟨u47, hs47⟩ := Fg.slotv qa 47
  obtain ⟨u48, hs48⟩ := Fg.slotv qa 48
  obtain rfl := Fg.frame_by [0, 1, 6, 7, 9, 10, 11, 12, 13, 14, 15, 16, 17, 18, 19, 20, 21, 22, 23, 24, 25, 26, 27, 28, 29, 30, 31, 32, 33, 34, 35, 36, 37, 38, 39, 40, 41, 42, 43, 44, 45, 46, 47, 48] (vs := [u0, u1, Value.pointer (some ⟨w0.heap.size, 0, none⟩), Value.bool false, Value.bool odd, Value.slice (some ⟨g, 0, none⟩) 32 c', Value.pointer (some ⟨N6, 0, none⟩), u7, undef, u9, u10, u11, u12, u13, u14, u15, u16, u17, u18, u19, u20, u21, u22, u23, u24, u25, u26, u27, Fe.zeroF.v, Value.bool false, u30, u31, u32, u33, u34, u35, u36, u37, u38, u39, u40, u41, u42, u43, u44, u45, u46, u47, u48]) hsz hrest (by kernel_rfl) rfl rfl ⟨hs0, hs1, hs6, hs7, hs9, hs10, hs11, hs12, hs13, hs14, hs15, hs16, hs17, hs18, hs19, hs20, hs21, hs22, hs23, hs24, hs25, hs26, hs27, (show qa.tmps.getD 28 undef = Fe.zeroF.v from hslots 28 (by kernel_rfl)), (show qa.tmps.getD 29 undef = Value.bool false from hslots 29 (by kernel_rfl)), hs30, hs31, hs32, hs33, hs34, hs35, hs36, hs37, hs38, hs39, hs40, hs41, hs42, hs43, hs44, hs45, hs46, hs47, hs48, trivial⟩ hdf
  clear hsz hdf hrest hslots hpt hs0 hs1 hs6 hs7 hs9 hs10 hs11 hs12 hs13 hs14 hs15 hs16 hs17 hs18 hs19 hs20 hs21 hs22 hs23 hs24 hs25 hs26 hs27 hs30 hs31 hs32 hs33 hs34 hs35 hs36 hs37 hs38 hs39 hs40 hs41 hs42 hs43 hs44 hs45 hs46 hs47 hs48
  replace hR := hR.gn g1
  replace G := gb_trans G g1
  replace HT := HT.grown g1
  have hw6 : w0.heap.size ≤ N6 := Nat.le_trans Gs0 hn6
  clear g1
  refine Fg.wpl_skip rfl rfl (Fg.run_store (cs := feL Fe.zeroF) rfl rfl rfl (hb6.there 0 5 (by show 0 + 5 ≤ 5; decide)) info_elem (feL_one _)) ?_
  replace hR := hR.setCells_other (C := N6) (cs := feL Fe.zeroF) 0 (by omega)
  replace hb6 : Blk (V1.setCells N6 0 (feL Fe.zeroF)) N6 26 (feL Fe.zeroF) := hb6.setAll rfl
  replace G := gb_setCells_new (cs := feL Fe.zeroF) G (B := N6) (hw6) 0
  replace HT := HT.keep (gb_setCells (cs := feL Fe.zeroF) (gb_refl _ (some N6)) 0) (HT0.noG (hw6))
  revert hR hb6 G HT
  generalize V1.setCells N6 0 (feL Fe.zeroF) = W2
  intro hR hb6 G HT
  go_upto_region 8 with (fail)
  have Gs2 := G.size
  have l2hR := hR.lt
  have l2hb6 := hb6.lt
  refine Fg.rP [] [.any, .any, .any, .any, .any, .any, .any, .any, .any, .any, .any, .any, .any, .any, .any, .any, .any, .any, .any, .any, .any, .any, .any, .any, .any, .any, .any, .any, .any, .any, .any, .any, .val (zeroP0.v)] 1 ?_ ?_
  ·refine Fg.vS rfl (by decide) (fun ac w h => ?_) ?_
   ·exact Fg.vn zeroP0.v (Fg.run_build (vs := #[]) rfl (by simp) (by kernel_rfl))
   trivial
  ·intro qa V3 g3 hsz hdf hrest hslots hpt
   obtain ⟨u30, hs30⟩ := Fg.slotv qa 30
   obtain ⟨u31, hs31⟩ := Fg.slotv qa 31
   obtain rfl := Fg.frame_by [30, 31, 32] (vs := [u0, u1, Value.pointer (some ⟨w0.heap.size, 0, none⟩), Value.bool false, Value.bool odd, Value.slice (some ⟨g, 0, none⟩) 32 c', Value.pointer (some ⟨N6, 0, none⟩), Value.bool false, undef, u9, u10, u11, u12, u13, u14, u15, u16, u17, u18, u19, u20, u21, u22, u23, u24, u25, u26, u27, Fe.zeroF.v, Value.bool false, u30, u31, zeroP0.v, u33, u34, u35, u36, u37, u38, u39, u40, u41, u42, u43, u44, u45, u46, u47, u48]) hsz hrest (by kernel_rfl) rfl rfl ⟨hs30, hs31, (show qa.tmps.getD 32 undef = zeroP0.v from hslots 32 (by kernel_rfl)), trivial⟩ hdf
   clear hsz hdf hrest hslots hpt hs30 hs31
   replace hR := hR.gn g3
   replace hb6 := hb6.gn g3
   replace G := gb_trans G g3
   replace HT := HT.grown g3
   clear g3
   refine Fg.wpl_skip rfl rfl (Fg.run_store (cs := ptL zeroP0) rfl rfl rfl (hR.there 0 20 (by show 0 + 20 ≤ 20; decide)) info_point (ptL_one _)) ?_
   replace hR : Blk (V3.setCells w0.heap.size 0 (ptL zeroP0)) w0.heap.size 28 (ptL zeroP0) := hR.setAll rfl
   replace hb6 := hb6.setCells_other (C := w0.heap.size) (cs := ptL zeroP0) 0 (by omega)
   replace G := gb_setCells_new (cs := ptL zeroP0) G (B := w0.heap.size) (by omega) 0
   replace HT := HT.keep (gb_setCells (cs := ptL zeroP0) (gb_refl _ (some w0.heap.size)) 0) (HT0.noG (by omega))
   revert hR hb6 G HT
   generalize V3.setCells w0.heap.size 0 (ptL zeroP0) = W4
   intro hR hb6 G HT
   go_wp2_with fail
   exact bodyPost_ret (v := .tuple #[zeroP0.v, .bool false]) (results_row_tmp Tryd.results16 _ _ w0.heap.size 28 (ptL zeroP0).toArray (0, 0) _ rfl hR Tryd.underlying28 rfl info_point rfl) rfl ⟨rfl, G⟩
set_option maxRecDepth 100000 in
set_option maxHeartbeats 3200000 in
theorem get_C (B : Nat) (a : Option Addr) (c : Nat) (l : List Nat) (w0 : World) (HT0 : ETab w0) (hl : l.length = 32) (hP : BytesAt w0 B a c l) (hyp : wordOf (lowF l) 32 < 57896044618658097711785492504343953926634992332820282019728792003956564819949) (xa : Fe) (hacr : acrossF (fromN (wordOf (lowF l) 32)) (topB l) = (xa, false)) :
  Calls Tryd.prog 16 #[.slice a 32 c] w0 fun e w' => e = .returned (.tuple #[(zeroP0).v, .bool false]) ∧ w0.grownBy w' none := by
 have hc32 := hP.fits
 have hP0 := hP
 obtain ⟨pb, po, rfl, hpb, hcells⟩ := hP.cells.resolve_left (by omega)
 have hx := hP.byte 31
 have c31 : w0.cell? ⟨pb, po + 31, none⟩ = some (.int .u8 ((l.getD 31 0 : Nat) : Int)) := hcells 31 (by omega)
 have hBl := hP.lim
 have hand := and_top _ hx
 have hnot := not_top _ hx
 have HD := Lib.hid (And.intro hP (And.intro hl hc32)); clear hP hP0 hcells hl hc32
 obtain ⟨x, hxe⟩ : ∃ x, x = l.getD 31 0 := ⟨_, rfl⟩
 rw [← hxe] at hx c31 hand hnot
 have hodd : topB l = decide (128 ≤ x) := by unfold topB; rw [hxe]
 obtain ⟨odd, hoe⟩ : ∃ b, b = decide (128 ≤ x) := ⟨_, rfl⟩
 rw [← hoe] at hand hodd
 have HX := Lib.hid hxe; clear hxe
 have HO := Lib.hid hodd; clear hodd hoe
 go_enter Tryd.func16, Tryd.ntmps16
 have c31r := c31
 replace c31 : (w0.alloc (.cells zr20.toArray 28)).cell? ⟨pb, po + 31, none⟩ = some (.int .u8 (x : Int)) := by rw [gb_cell (gb_alloc (gb_refl w0 none) _) (p := ⟨pb, po + 31, none⟩) (by show pb < _; omega) (by simp)]; exact c31r
 go_upto_region 4 with (fail)
 clear c31 c31r
 have G : w0.grownBy (w0.alloc (.cells zr20.toArray 28)) none := gb_alloc (gb_refl _ _) _
 have HT : ETab (w0.alloc (.cells zr20.toArray 28)) := HT0.grown (gb_alloc (gb_refl _ _) _)
 have hR : Blk (w0.alloc (.cells zr20.toArray 28)) (w0.heap.size) 28 zr20 := Blk.new w0 zr20 _
 have hPW := HD.out.1.kept G (by simp)
 revert G HT hR hPW
 generalize w0.alloc (.cells zr20.toArray 28) = W0
 intro G HT hR hPW
 have lR := hR.lt
 go_wp2_with fail
 refine (clone_bytes B pb po 32 c l _ HD.out.2.1 (by decide) (by decide) hPW).mono ?_
 rintro e W1 ⟨g, c', rfl, ho, hg⟩
 obtain ⟨gl, gb_, hc'⟩ := own_lt ho
 have hlen : (l.map u8N).length = 32 := by rw [List.length_map]; exact HD.out.2.1
 have k31 : W1.cell? ⟨g, 31, none⟩ = some (.int .u8 (x : Int)) := own_cell ho (j := 31) (by rw [List.getElem?_map, List.getElem?_eq_getElem (by have := HD.out.2.1; omega), HX.out, List.getD_eq_getElem?_getD, List.getElem?_eq_getElem (by have := HD.out.2.1; omega)]; rfl)
 have f31 := own_free ho 31
 have ho5 := own_set (i := 31) ho (.int .u8 ((x : Int) % 128))
 rw [HX.out, low_map, ← HX.out] at ho5
 replace G := gb_set_new (gb_trans G hg) (p := ⟨g, 31, none⟩) (by show _ ≤ g; have := G.size; omega) (.int .u8 ((x : Int) % 128))
 replace hR := (hR.gn hg).other (a := ⟨g, 31, none⟩) (by show g ≠ _; omega) (.int .u8 ((x : Int) % 128))
 replace HT := (HT.grown hg).keep (gb_set (gb_refl _ (some g)) 31 (.int .u8 ((x : Int) % 128))) (HT0.noG (by omega))
 have HS := Lib.hid (And.intro ho5 (And.intro G (And.intro hR HT))); clear ho ho5 G hR HT hg hPW hlen
 go_upto_region 6 with (fail)
 obtain ⟨ho5, G, hR, HT⟩ := HS.out
 clear HS k31 f31 hand hnot
 revert ho5 G hR HT
 generalize W1.setCell ⟨g, 31, none⟩ (.int .u8 ((x : Int) % 128)) = W5
 intro ho5 G hR HT
 have hcg : ∀ i, i < 32 → W5.cell? ⟨g, 0 + i, none⟩ = some (.int .u8 (lowF l i)) := fun i hi => low_cell HD.out.2.1 ho5 i hi
 have hgl : g < W5.heap.size := (own_lt ho5).1
 have HCG := Lib.hid (And.intro hcg hgl); clear hcg ho5 hgl
 have GX := G
 have Gs0 := G.size
 have l1hR := hR.lt
 refine Fg.rP [6] [.any, .any, .any, .any, .any, .any, .fresh 26 zr5 W5.heap.size, .any, .any, .any, .any, .any, .any, .any, .any, .any, .any, .any, .any, .any, .any, .any, .any, .any, .any, .val (Value.tuple #[(fromN (wordOf (lowF l) 32)).v, .bool true]), .val (Value.slice (some ⟨g, 0, none⟩) 32 c'), .val (Value.tuple #[(fromN (wordOf (lowF l) 32)).v, .bool true]), .val ((fromN (wordOf (lowF l) 32)).v), .val (Value.bool true)] 6 ?_ ?_
 ·refine Fg.vS rfl (by decide) (fun ac w h => ?_) ?_
  ·have e5 : _ = Value.slice (some ⟨g, 0, none⟩) 32 c' := h.r 5
   exact Fg.vn (Value.slice (some ⟨g, 0, none⟩) 32 c') (Fg.run_move rfl e5)
  refine Fg.cS rfl (by decide) (fun ac w h => ?_) ?_
  ·have e26 : _ = Value.slice (some ⟨g, 0, none⟩) 32 c' := h.d 26
   refine ⟨wants_none rfl, 42, #[Value.slice (some ⟨g, 0, none⟩) 32 c'], Fg.run_call rfl rfl (by simp only [List.map_toArray, List.map_cons, List.map_nil, Act.eval, e26]) (Fg.run_enter Tryd.func42 (by kernel_rfl) (by kernel_rfl)), ?_⟩
   exact (fget_yes g 0 c' (lowF l) _ hc' (lowF_bd l HD.out.1.byte) (fun i hi => by rw [gb_cell h.base (p := ⟨g, 0 + i, none⟩) HCG.out.2 (by simp)]; exact HCG.out.1 i hi) (Nat.lt_of_lt_of_le HCG.out.2 h.base.size) hyp).mono fun _ _ ⟨he, hg⟩ => ⟨_, he, hg, rfl⟩
  refine Fg.vS rfl (by decide) (fun ac w h => ?_) ?_
  ·have e27 : _ = Value.tuple #[(fromN (wordOf (lowF l) 32)).v, .bool true] := h.d 27
   exact Fg.vn (Value.tuple #[(fromN (wordOf (lowF l) 32)).v, .bool true]) (Fg.run_move rfl e27)
  refine Fg.vS rfl (by decide) (fun ac w h => ?_) ?_
  ·have e25 : _ = Value.tuple #[(fromN (wordOf (lowF l) 32)).v, .bool true] := h.d 25
   exact Fg.vn ((fromN (wordOf (lowF l) 32)).v) (Fg.run_extract rfl e25 rfl)
  refine Fg.vS rfl (by decide) (fun ac w h => ?_) ?_
  ·have e25 : _ = Value.tuple #[(fromN (wordOf (lowF l) 32)).v, .bool true] := h.d 25
   exact Fg.vn (Value.bool true) (Fg.run_extract rfl e25 rfl)
  refine ⟨⟨⟨_, rfl⟩, Fg.allocP (fun _ _ h k => gb_trans h k) rfl (by show 6 < 49; decide) fun ac w h => ?_⟩, ?_⟩
  ·refine ⟨wants_none rfl, w.alloc (.cells zr5.toArray 26), ?_, World.grownBy_alloc _ _ _, by simp, ⟨w.heap.size, rfl, h.base.size, Blk.new w zr5 _⟩⟩
   clear h
   go_simp
  trivial
 ·intro qa V1 g1 hsz hdf hrest hslots hpt
  obtain ⟨u0, hs0⟩ := Fg.slotv qa 0
  obtain ⟨u1, hs1⟩ := Fg.slotv qa 1
  obtain ⟨N6, hs6, hn6, hb6⟩ : ∃ N, qa.tmps.getD 6 undef = .pointer (some ⟨N, 0, none⟩) ∧ W5.heap.size ≤ N ∧ Blk V1 N 26 zr5 := hslots 6 (by kernel_rfl)
  obtain ⟨u7, hs7⟩ := Fg.slotv qa 7
  obtain ⟨u9, hs9⟩ := Fg.slotv qa 9
  obtain ⟨u10, hs10⟩ := Fg.slotv qa 10
  obtain ⟨u11, hs11⟩ := Fg.slotv qa 11
  obtain ⟨u12, hs12⟩ := Fg.slotv qa 12
  obtain ⟨u13, hs13⟩ := Fg.slotv qa 13
  obtain ⟨u14, hs14⟩ := Fg.slotv qa 14
  obtain ⟨u15, hs15⟩ := Fg.slotv qa 15
  obtain ⟨u16, hs16⟩ := Fg.slotv qa 16
  obtain ⟨u17, hs17⟩ := Fg.slotv qa 17
  obtain ⟨u18, hs18⟩ := Fg.slotv qa 18
  obtain ⟨u19, hs19⟩ := Fg.slotv qa 19
  obtain ⟨u20, hs20⟩ := Fg.slotv qa 20
  obtain ⟨u21, hs21⟩ := Fg.slotv qa 21
  obtain ⟨u22, hs22⟩ := Fg.slotv qa 22
  obtain ⟨u23, hs23⟩ := Fg.slotv qa 23
  obtain ⟨u24, hs24⟩ := Fg.slotv qa 24
  obtain ⟨u25, hs25⟩ := Fg.slotv qa 25
  obtain ⟨u26, hs26⟩ := Fg.slotv qa 26
  obtain ⟨u27, hs27⟩ := Fg.slotv qa 27
  obtain ⟨x1, hx1⟩ : ∃ x : Fe, x = fromN (wordOf (lowF l) 32) := ⟨_, rfl⟩
  obtain ⟨u30, hs30⟩ := Fg.slotv qa 30
  obtain ⟨u31, hs31⟩ := Fg.slotv qa 31
  obtain ⟨u32, hs32⟩ := Fg.slotv qa 32
  obtain ⟨u33, hs33⟩ := Fg.slotv qa 33
  obtain ⟨u34, hs34⟩ := Fg.slotv qa 34
  obtain ⟨u35, hs35⟩ := Fg.slotv qa 35
  obtain ⟨u36, hs36⟩ := Fg.slotv qa 36
  obtain ⟨u37, hs37⟩ := Fg.slotv qa 37
  obtain ⟨u38, hs38⟩ := Fg.slotv qa 38
  obtain ⟨u39, hs39⟩ := Fg.slotv qa 39
  obtain ⟨u40, hs40⟩ := Fg.slotv qa 40
  obtain ⟨u41, hs41⟩ := Fg.slotv qa 41
  obtain ⟨u42, hs42⟩ := Fg.slotv qa 42
  obtain ⟨u43, hs43⟩ := Fg.slotv qa 43
  obtain ⟨u44, hs44⟩ := Fg.slotv qa 44
  obtain ⟨u45, hs45⟩ := Fg.slotv qa 45
  obtain ⟨u46, hs46⟩ := Fg.slotv qa 46
  obtain ⟨u47, hs47⟩ := Fg.slotv qa 47
  obtain ⟨u48, hs48⟩ := Fg.slotv qa 48
  obtain rfl := Fg.frame_by [0, 1, 6, 7, 9, 10, 11, 12, 13, 14, 15, 16, 17, 18, 19, 20, 21, 22, 23, 24, 25, 26, 27, 28, 29, 30, 31, 32, 33, 34, 35, 36, 37, 38, 39, 40, 41, 42, 43, 44, 45, 46, 47, 48] (vs := [u0, u1, Value.pointer (some ⟨w0.heap.size, 0, none⟩), Value.bool false, Value.bool odd, Value.slice (some ⟨g, 0, none⟩) 32 c', Value.pointer (some ⟨N6, 0, none⟩), u7, undef, u9, u10, u11, u12, u13, u14, u15, u16, u17, u18, u19, u20, u21, u22, u23, u24, u25, u26, u27, x1.v, Value.bool true, u30, u31, u32, u33, u34, u35, u36, u37, u38, u39, u40, u41, u42, u43, u44, u45, u46, u47, u48]) hsz hrest (by kernel_rfl) rfl rfl ⟨hs0, hs1, hs6, hs7, hs9, hs10, hs11, hs12, hs13, hs14, hs15, hs16, hs17, hs18, hs19, hs20, hs21, hs22, hs23, hs24, hs25, hs26, hs27, (show qa.tmps.getD 28 undef = x1.v by rw [hx1]; exact hslots 28 (by kernel_rfl)), (show qa.tmps.getD 29 undef = Value.bool true from hslots 29 (by kernel_rfl)), hs30, hs31, hs32, hs33, hs34, hs35, hs36, hs37, hs38, hs39, hs40, hs41, hs42, hs43, hs44, hs45, hs46, hs47, hs48, trivial⟩ hdf
  clear hsz hdf hrest hslots hpt hs0 hs1 hs6 hs7 hs9 hs10 hs11 hs12 hs13 hs14 hs15 hs16 hs17 hs18 hs19 hs20 hs21 hs22 hs23 hs24 hs25 hs26 hs27 hs30 hs31 hs32 hs33 hs34 hs35 hs36 hs37 hs38 hs39 hs40 hs41 hs42 hs43 hs44 hs45 hs46 hs47 hs48
  have Hx1 := Lib.hid hx1; clear hx1
  replace hR := hR.gn g1
  replace G := gb_trans G g1
  replace HT := HT.grown g1
  have okx1 : x1.Ok := by rw [Hx1.out]; exact (fromN_right (wordOf_bd (lowF l) (lowF_bd l HD.out.1.byte) 32).1 (wordOf_bd (lowF l) (lowF_bd l HD.out.1.byte) 32).2).ok
  have hw6 : w0.heap.size ≤ N6 := Nat.le_trans Gs0 hn6
  clear g1
  refine Fg.wpl_skip rfl rfl (Fg.run_store (cs := feL x1) rfl rfl rfl (hb6.there 0 5 (by show 0 + 5 ≤ 5; decide)) info_elem (feL_one _)) ?_
  replace hR := hR.setCells_other (C := N6) (cs := feL x1) 0 (by omega)
  replace hb6 : Blk (V1.setCells N6 0 (feL x1)) N6 26 (feL x1) := hb6.setAll rfl
  replace G := gb_setCells_new (cs := feL x1) G (B := N6) (hw6) 0
  replace HT := HT.keep (gb_setCells (cs := feL x1) (gb_refl _ (some N6)) 0) (HT0.noG (hw6))
  revert hR hb6 G HT
  generalize V1.setCells N6 0 (feL x1) = W2
  intro hR hb6 G HT
  have hac : acrossF x1 odd = (xa, false) := by rw [Hx1.out, ← HO.out]; exact hacr
  have hxa : xa.Ok := by have := across_ok x1 odd; rw [hac] at this; exact this
  have HAC := Lib.hid hac; clear hac
  go_upto_region 9 with (fail)
  have Gs2 := G.size
  have l2hR := hR.lt
  have l2hb6 := hb6.lt
  refine Fg.rP [8] [.any, .any, .any, .any, .any, .any, .any, .any, .fresh 26 zr5 W2.heap.size, .any, .any, .any, .any, .any, .any, .any, .any, .any, .any, .any, .any, .any, .any, .any, .any, .any, .any, .any, .any, .any, .any, .any, .any, .val (Value.tuple #[xa.v, .bool false]), .val (x1.v), .val (Value.bool odd), .val (Value.tuple #[xa.v, .bool false]), .val (xa.v), .val (Value.bool false)] 7 ?_ ?_
  ·refine Fg.vS rfl (by decide) (fun ac w h => ?_) ?_
   ·have e6 : _ = Value.pointer (some ⟨N6, 0, none⟩) := h.r 6
    exact Fg.vn x1.v (Fg.run_load rfl e6 ((hb6.gn h.base).range 0 (feL x1) rfl) Tryd.underlying26 rfl info_elem)
   refine Fg.vS rfl (by decide) (fun ac w h => ?_) ?_
   ·have e4 : _ = Value.bool odd := h.r 4
    exact Fg.vn (Value.bool odd) (Fg.run_move rfl e4)
   refine Fg.cS rfl (by decide) (fun ac w h => ?_) ?_
   ·have e34 : _ = x1.v := h.d 34
    have e35 : _ = Value.bool odd := h.d 35
    refine ⟨wants_none rfl, 43, #[x1.v, Value.bool odd], Fg.run_call rfl rfl (by simp only [List.map_toArray, List.map_cons, List.map_nil, Act.eval, e34, e35]) (Fg.run_enter Tryd.func43 (by kernel_rfl) (by kernel_rfl)), ?_⟩
    exact ((show Tells 43 #[x1.v, .bool odd] w (.tuple #[xa.v, .bool false]) from by have hh := edAcross x1 odd w (HT.grown h.base) okx1; rw [HAC.out] at hh; exact hh)).mono fun _ _ ⟨he, hg⟩ => ⟨_, he, hg, rfl⟩
   refine Fg.vS rfl (by decide) (fun ac w h => ?_) ?_
   ·have e36 : _ = Value.tuple #[xa.v, .bool false] := h.d 36
    exact Fg.vn (Value.tuple #[xa.v, .bool false]) (Fg.run_move rfl e36)
   refine Fg.vS rfl (by decide) (fun ac w h => ?_) ?_
   ·have e33 : _ = Value.tuple #[xa.v, .bool false] := h.d 33
    exact Fg.vn xa.v (Fg.run_extract rfl e33 rfl)
   refine Fg.vS rfl (by decide) (fun ac w h => ?_) ?_
   ·have e33 : _ = Value.tuple #[xa.v, .bool false] := h.d 33
    exact Fg.vn (Value.bool false) (Fg.run_extract rfl e33 rfl)
   refine ⟨⟨⟨_, rfl⟩, Fg.allocP (fun _ _ h k => gb_trans h k) rfl (by show 8 < 49; decide) fun ac w h => ?_⟩, ?_⟩
   ·refine ⟨wants_none rfl, w.alloc (.cells zr5.toArray 26), ?_, World.grownBy_alloc _ _ _, by simp, ⟨w.heap.size, rfl, h.base.size, Blk.new w zr5 _⟩⟩
    clear h
    go_simp
   trivial
  ·intro qa V3 g3 hsz hdf hrest hslots hpt
   obtain ⟨N8, hs8, hn8, hb8⟩ : ∃ N, qa.tmps.getD 8 undef = .pointer (some ⟨N, 0, none⟩) ∧ W2.heap.size ≤ N ∧ Blk V3 N 26 zr5 := hslots 8 (by kernel_rfl)
   obtain ⟨u30, hs30⟩ := Fg.slotv qa 30
   obtain ⟨u31, hs31⟩ := Fg.slotv qa 31
   obtain ⟨u33, hs33⟩ := Fg.slotv qa 33
   obtain ⟨u34, hs34⟩ := Fg.slotv qa 34
   obtain ⟨u35, hs35⟩ := Fg.slotv qa 35
   obtain ⟨u36, hs36⟩ := Fg.slotv qa 36
   obtain rfl := Fg.frame_by [8, 30, 31, 33, 34, 35, 36, 37, 38] (vs := [u0, u1, Value.pointer (some ⟨w0.heap.size, 0, none⟩), Value.bool false, Value.bool odd, Value.slice (some ⟨g, 0, none⟩) 32 c', Value.pointer (some ⟨N6, 0, none⟩), Value.bool true, Value.pointer (some ⟨N8, 0, none⟩), u9, u10, u11, u12, u13, u14, u15, u16, u17, u18, u19, u20, u21, u22, u23, u24, u25, u26, u27, x1.v, Value.bool true, u30, u31, u32, u33, u34, u35, u36, xa.v, Value.bool false, u39, u40, u41, u42, u43, u44, u45, u46, u47, u48]) hsz hrest (by kernel_rfl) rfl rfl ⟨hs8, hs30, hs31, hs33, hs34, hs35, hs36, (show qa.tmps.getD 37 undef = xa.v from hslots 37 (by kernel_rfl)), (show qa.tmps.getD 38 undef = Value.bool false from hslots 38 (by kernel_rfl)), trivial⟩ hdf
   clear hsz hdf hrest hslots hpt hs8 hs30 hs31 hs33 hs34 hs35 hs36
   replace hR := hR.gn g3
   replace hb6 := hb6.gn g3
   replace G := gb_trans G g3
   replace HT := HT.grown g3
   have hw8 : w0.heap.size ≤ N8 := Nat.le_trans Gs2 hn8
   clear g3
   refine Fg.wpl_skip rfl rfl (Fg.run_store (cs := feL xa) rfl rfl rfl (hb8.there 0 5 (by show 0 + 5 ≤ 5; decide)) info_elem (feL_one _)) ?_
   replace hR := hR.setCells_other (C := N8) (cs := feL xa) 0 (by omega)
   replace hb6 := hb6.setCells_other (C := N8) (cs := feL xa) 0 (by omega)
   replace hb8 : Blk (V3.setCells N8 0 (feL xa)) N8 26 (feL xa) := hb8.setAll rfl
   replace G := gb_setCells_new (cs := feL xa) G (B := N8) (hw8) 0
   replace HT := HT.keep (gb_setCells (cs := feL xa) (gb_refl _ (some N8)) 0) (HT0.noG (hw8))
   revert hR hb6 hb8 G HT
   generalize V3.setCells N8 0 (feL xa) = W4
   intro hR hb6 hb8 G HT
   go_upto_region 11 with (fail)
   have Gs4 := G.size
   have l3hR := hR.lt
   have l3hb6 := hb6.lt
   have l3hb8 := hb8.lt
   refine Fg.rP [] [.any, .any, .any, .any, .any, .any, .any, .any, .any, .any, .any, .any, .any, .any, .any, .any, .any, .any, .any, .any, .any, .any, .any, .any, .any, .any, .any, .any, .any, .any, .any, .any, .any, .any, .any, .any, .any, .any, .any, .any, .any, .val (zeroP0.v)] 1 ?_ ?_
   ·refine Fg.vS rfl (by decide) (fun ac w h => ?_) ?_
    ·exact Fg.vn zeroP0.v (Fg.run_build (vs := #[]) rfl (by simp) (by kernel_rfl))
    trivial
   ·intro qa V5 g5 hsz hdf hrest hslots hpt
    obtain ⟨u39, hs39⟩ := Fg.slotv qa 39
    obtain ⟨u40, hs40⟩ := Fg.slotv qa 40
    obtain rfl := Fg.frame_by [39, 40, 41] (vs := [u0, u1, Value.pointer (some ⟨w0.heap.size, 0, none⟩), Value.bool false, Value.bool odd, Value.slice (some ⟨g, 0, none⟩) 32 c', Value.pointer (some ⟨N6, 0, none⟩), Value.bool false, Value.pointer (some ⟨N8, 0, none⟩), u9, u10, u11, u12, u13, u14, u15, u16, u17, u18, u19, u20, u21, u22, u23, u24, u25, u26, u27, x1.v, Value.bool true, u30, u31, u32, u33, u34, u35, u36, xa.v, Value.bool false, u39, u40, zeroP0.v, u42, u43, u44, u45, u46, u47, u48]) hsz hrest (by kernel_rfl) rfl rfl ⟨hs39, hs40, (show qa.tmps.getD 41 undef = zeroP0.v from hslots 41 (by kernel_rfl)), trivial⟩ hdf
    clear hsz hdf hrest hslots hpt hs39 hs40
    replace hR := hR.gn g5
    replace hb6 := hb6.gn g5
    replace hb8 := hb8.gn g5
    replace G := gb_trans G g5
    replace HT := HT.grown g5
    clear g5
    refine Fg.wpl_skip rfl rfl (Fg.run_store (cs := ptL zeroP0) rfl rfl rfl (hR.there 0 20 (by show 0 + 20 ≤ 20; decide)) info_point (ptL_one _)) ?_
    replace hR : Blk (V5.setCells w0.heap.size 0 (ptL zeroP0)) w0.heap.size 28 (ptL zeroP0) := hR.setAll rfl
    replace hb6 := hb6.setCells_other (C := w0.heap.size) (cs := ptL zeroP0) 0 (by omega)
    replace hb8 := hb8.setCells_other (C := w0.heap.size) (cs := ptL zeroP0) 0 (by omega)
    replace G := gb_setCells_new (cs := ptL zeroP0) G (B := w0.heap.size) (by omega) 0
    replace HT := HT.keep (gb_setCells (cs := ptL zeroP0) (gb_refl _ (some w0.heap.size)) 0) (HT0.noG (by omega))
    revert hR hb6 hb8 G HT
    generalize V5.setCells w0.heap.size 0 (ptL zeroP0) = W6
    intro hR hb6 hb8 G HT
    go_wp2_with fail
    exact bodyPost_ret (v := .tuple #[zeroP0.v, .bool false]) (results_row_tmp Tryd.results16 _ _ w0.heap.size 28 (ptL zeroP0).toArray (0, 0) _ rfl hR Tryd.underlying28 rfl info_point rfl) rfl ⟨rfl, G⟩
set_option maxRecDepth 100000 in
set_option maxHeartbeats 3200000 in
theorem get_D (B : Nat) (a : Option Addr) (c : Nat) (l : List Nat) (w0 : World) (HT0 : ETab w0) (hl : l.length = 32) (hP : BytesAt w0 B a c l) (hyp : wordOf (lowF l) 32 < 57896044618658097711785492504343953926634992332820282019728792003956564819949) (xa : Fe) (hacr : acrossF (fromN (wordOf (lowF l) 32)) (topB l) = (xa, true)) :
  Calls Tryd.prog 16 #[.slice a 32 c] w0 fun e w' => e = .returned (.tuple #[((Pt.mk xa (fromN (wordOf (lowF l) 32)) Fe.oneF (Fe.mulF xa (fromN (wordOf (lowF l) 32))))).v, .bool true]) ∧ w0.grownBy w' none := by
 have hc32 := hP.fits
 have hP0 := hP
 obtain ⟨pb, po, rfl, hpb, hcells⟩ := hP.cells.resolve_left (by omega)
 have hx := hP.byte 31
 have c31 : w0.cell? ⟨pb, po + 31, none⟩ = some (.int .u8 ((l.getD 31 0 : Nat) : Int)) := hcells 31 (by omega)
 have hBl := hP.lim
 have hand := and_top _ hx
 have hnot := not_top _ hx
 have HD := Lib.hid (And.intro hP (And.intro hl hc32)); clear hP hP0 hcells hl hc32
 obtain ⟨x, hxe⟩ : ∃ x, x = l.getD 31 0 := ⟨_, rfl⟩
 rw [← hxe] at hx c31 hand hnot
 have hodd : topB l = decide (128 ≤ x) := by unfold topB; rw [hxe]
 obtain ⟨odd, hoe⟩ : ∃ b, b = decide (128 ≤ x) := ⟨_, rfl⟩
 rw [← hoe] at hand hodd
 have HX := Lib.hid hxe; clear hxe
 have HO := Lib.hid hodd; clear hodd hoe
 go_enter Tryd.func16, Tryd.ntmps16
 have c31r := c31
 replace c31 : (w0.alloc (.cells zr20.toArray 28)).cell? ⟨pb, po + 31, none⟩ = some (.int .u8 (x : Int)) := by rw [gb_cell (gb_alloc (gb_refl w0 none) _) (p := ⟨pb, po + 31, none⟩) (by show pb < _; omega) (by simp)]; exact c31r
 go_upto_region 4 with (fail)
 clear c31 c31r
 have G : w0.grownBy (w0.alloc (.cells zr20.toArray 28)) none := gb_alloc (gb_refl _ _) _
 have HT : ETab (w0.alloc (.cells zr20.toArray 28)) := HT0.grown (gb_alloc (gb_refl _ _) _)
 have hR : Blk (w0.alloc (.cells zr20.toArray 28)) (w0.heap.size) 28 zr20 := Blk.new w0 zr20 _
 have hPW := HD.out.1.kept G (by simp)
 revert G HT hR hPW
 generalize w0.alloc (.cells zr20.toArray 28) = W0
 intro G HT hR hPW
 have lR := hR.lt
 go_wp2_with fail
 refine (clone_bytes B pb po 32 c l _ HD.out.2.1 (by decide) (by decide) hPW).mono ?_
 rintro e W1 ⟨g, c', rfl, ho, hg⟩
 obtain ⟨gl, gb_, hc'⟩ := own_lt ho
 have hlen : (l.map u8N).length = 32 := by rw [List.length_map]; exact HD.out.2.1
 have k31 : W1.cell? ⟨g, 31, none⟩ = some (.int .u8 (x : Int)) := own_cell ho (j := 31) (by rw [List.getElem?_map, List.getElem?_eq_getElem (by have := HD.out.2.1; omega), HX.out, List.getD_eq_getElem?_getD, List.getElem?_eq_getElem (by have := HD.out.2.1; omega)]; rfl)
 have f31 := own_free ho 31
 have ho5 := own_set (i := 31) ho (.int .u8 ((x : Int) % 128))
 rw [HX.out, low_map, ← HX.out] at ho5
 replace G := gb_set_new (gb_trans G hg) (p := ⟨g, 31, none⟩) (by show _ ≤ g; have := G.size; omega) (.int .u8 ((x : Int) % 128))
 replace hR := (hR.gn hg).other (a := ⟨g, 31, none⟩) (by show g ≠ _; omega) (.int .u8 ((x : Int) % 128))
 replace HT := (HT.grown hg).keep (gb_set (gb_refl _ (some g)) 31 (.int .u8 ((x : Int) % 128))) (HT0.noG (by omega))
 have HS := Lib.hid (And.intro ho5 (And.intro G (And.intro hR HT))); clear ho ho5 G hR HT hg hPW hlen
 go_upto_region 6 with (fail)
 obtain ⟨ho5, G, hR, HT⟩ := HS.out
 clear HS k31 f31 hand hnot
 revert ho5 G hR HT
 generalize W1.setCell ⟨g, 31, none⟩ (.int .u8 ((x : Int) % 128)) = W5
 intro ho5 G hR HT
 have hcg : ∀ i, i < 32 → W5.cell? ⟨g, 0 + i, none⟩ = some (.int .u8 (lowF l i)) := fun i hi => low_cell HD.out.2.1 ho5 i hi
 have hgl : g < W5.heap.size := (own_lt ho5).1
 have HCG := Lib.hid (And.intro hcg hgl); clear hcg ho5 hgl
 have GX := G
 have Gs0 := G.size
 have l1hR := hR.lt
 refine Fg.rP [6] [.any, .any, .any, .any, .any, .any, .fresh 26 zr5 W5.heap.size, .any, .any, .any, .any, .any, .any, .any, .any, .any, .any, .any, .any, .any, .any, .any, .any, .any, .any, .val (Value.tuple #[(fromN (wordOf (lowF l) 32)).v, .bool true]), .val (Value.slice (some ⟨g, 0, none⟩) 32 c'), .val (Value.tuple #[(fromN (wordOf (lowF l) 32)).v, .bool true]), .val ((fromN (wordOf (lowF l) 32)).v), .val (Value.bool true)] 6 ?_ ?_
 ·refine Fg.vS rfl (by decide) (fun ac w h => ?_) ?_
  ·have e5 : _ = Value.slice (some ⟨g, 0, none⟩) 32 c' := h.r 5
   exact Fg.vn (Value.slice (some ⟨g, 0, none⟩) 32 c') (Fg.run_move rfl e5)
  refine Fg.cS rfl (by decide) (fun ac w h => ?_) ?_
  ·have e26 : _ = Value.slice (some ⟨g, 0, none⟩) 32 c' := h.d 26
   refine ⟨wants_none rfl, 42, #[Value.slice (some ⟨g, 0, none⟩) 32 c'], Fg.run_call rfl rfl (by simp only [List.map_toArray, List.map_cons, List.map_nil, Act.eval, e26]) (Fg.run_enter Tryd.func42 (by kernel_rfl) (by kernel_rfl)), ?_⟩
   exact (fget_yes g 0 c' (lowF l) _ hc' (lowF_bd l HD.out.1.byte) (fun i hi => by rw [gb_cell h.base (p := ⟨g, 0 + i, none⟩) HCG.out.2 (by simp)]; exact HCG.out.1 i hi) (Nat.lt_of_lt_of_le HCG.out.2 h.base.size) hyp).mono fun _ _ ⟨he, hg⟩ => ⟨_, he, hg, rfl⟩
  refine Fg.vS rfl (by decide) (fun ac w h => ?_) ?_
  ·have e27 : _ = Value.tuple #[(fromN (wordOf (lowF l) 32)).v, .bool true] := h.d 27
   exact Fg.vn (Value.tuple #[(fromN (wordOf (lowF l) 32)).v, .bool true]) (Fg.run_move rfl e27)
  refine Fg.vS rfl (by decide) (fun ac w h => ?_) ?_
  ·have e25 : _ = Value.tuple #[(fromN (wordOf (lowF l) 32)).v, .bool true] := h.d 25
   exact Fg.vn ((fromN (wordOf (lowF l) 32)).v) (Fg.run_extract rfl e25 rfl)
  refine Fg.vS rfl (by decide) (fun ac w h => ?_) ?_
  ·have e25 : _ = Value.tuple #[(fromN (wordOf (lowF l) 32)).v, .bool true] := h.d 25
   exact Fg.vn (Value.bool true) (Fg.run_extract rfl e25 rfl)
  refine ⟨⟨⟨_, rfl⟩, Fg.allocP (fun _ _ h k => gb_trans h k) rfl (by show 6 < 49; decide) fun ac w h => ?_⟩, ?_⟩
  ·refine ⟨wants_none rfl, w.alloc (.cells zr5.toArray 26), ?_, World.grownBy_alloc _ _ _, by simp, ⟨w.heap.size, rfl, h.base.size, Blk.new w zr5 _⟩⟩
   clear h
   go_simp
  trivial
 ·intro qa V1 g1 hsz hdf hrest hslots hpt
  obtain ⟨u0, hs0⟩ := Fg.slotv qa 0
  obtain ⟨u1, hs1⟩ := Fg.slotv qa 1
  obtain ⟨N6, hs6, hn6, hb6⟩ : ∃ N, qa.tmps.getD 6 undef = .pointer (some ⟨N, 0, none⟩) ∧ W5.heap.size ≤ N ∧ Blk V1 N 26 zr5 := hslots 6 (by kernel_rfl)
  obtain ⟨u7, hs7⟩ := Fg.slotv qa 7
  obtain ⟨u9, hs9⟩ := Fg.slotv qa 9
  obtain ⟨u10, hs10⟩ := Fg.slotv qa 10
  obtain ⟨u11, hs11⟩ := Fg.slotv qa 11
  obtain ⟨u12, hs12⟩ := Fg.slotv qa 12
  obtain ⟨u13, hs13⟩ := Fg.slotv qa 13
  obtain ⟨u14, hs14⟩ := Fg.slotv qa 14
  obtain ⟨u15, hs15⟩ := Fg.slotv qa 15
  obtain ⟨u16, hs16⟩ := Fg.slotv qa 16
  obtain ⟨u17, hs17⟩ := Fg.slotv qa 17
  obtain ⟨u18, hs18⟩ := Fg.slotv qa 18
  obtain ⟨u19, hs19⟩ := Fg.slotv qa 19
  obtain ⟨u20, hs20⟩ := Fg.slotv qa 20
  obtain ⟨u21, hs21⟩ := Fg.slotv qa 21
  obtain ⟨u22, hs22⟩ := Fg.slotv qa 22
  obtain ⟨u23, hs23⟩ := Fg.slotv qa 23
  obtain ⟨u24, hs24⟩ := Fg.slotv qa 24
  obtain ⟨u25, hs25⟩ := Fg.slotv qa 25
  obtain ⟨u26, hs26⟩ := Fg.slotv qa 26
  obtain ⟨u27, hs27⟩ := Fg.slotv qa 27
  obtain ⟨x1, hx1⟩ : ∃ x : Fe, x = fromN (wordOf (lowF l) 32) := ⟨_, rfl⟩
  obtain ⟨u30, hs30⟩ := Fg.slotv qa 30
  obtain ⟨u31, hs31⟩ := Fg.slotv qa 31
  obtain ⟨u32, hs32⟩ := Fg.slotv qa 32
  obtain ⟨u33, hs33⟩ := Fg.slotv qa 33
  obtain ⟨u34, hs34⟩ := Fg.slotv qa 34
  obtain ⟨u35, hs35⟩ := Fg.slotv qa 35
  obtain ⟨u36, hs36⟩ := Fg.slotv qa 36
  obtain ⟨u37, hs37⟩ := Fg.slotv qa 37
  obtain ⟨u38, hs38⟩ := Fg.slotv qa 38
  obtain ⟨u39, hs39⟩ := Fg.slotv qa 39
  obtain ⟨u40, hs40⟩ := Fg.slotv qa 40
  obtain ⟨u41, hs41⟩ := Fg.slotv qa 41
  obtain ⟨u42, hs42⟩ := Fg.slotv qa 42
  obtain ⟨u43, hs43⟩ := Fg.slotv qa 43
  obtain ⟨u44, hs44⟩ := Fg.slotv qa 44
  obtain ⟨u45, hs45⟩ := Fg.slotv qa 45
  obtain ⟨u46, hs46⟩ := Fg.slotv qa 46
  obtain ⟨u47, hs47⟩ := Fg.slotv qa 47
  obtain ⟨u48, hs48⟩ := Fg.slotv qa 48
  obtain rfl := Fg.frame_by [0, 1, 6, 7, 9, 10, 11, 12, 13, 14, 15, 16, 17, 18, 19, 20, 21, 22, 23, 24, 25, 26, 27, 28, 29, 30, 31, 32, 33, 34, 35, 36, 37, 38, 39, 40, 41, 42, 43, 44, 45, 46, 47, 48] (vs := [u0, u1, Value.pointer (some ⟨w0.heap.size, 0, none⟩), Value.bool false, Value.bool odd, Value.slice (some ⟨g, 0, none⟩) 32 c', Value.pointer (some ⟨N6, 0, none⟩), u7, undef, u9, u10, u11, u12, u13, u14, u15, u16, u17, u18, u19, u20, u21, u22, u23, u24, u25, u26, u27, x1.v, Value.bool true, u30, u31, u32, u33, u34, u35, u36, u37, u38, u39, u40, u41, u42, u43, u44, u45, u46, u47, u48]) hsz hrest (by kernel_rfl) rfl rfl ⟨hs0, hs1, hs6, hs7, hs9, hs10, hs11, hs12, hs13, hs14, hs15, hs16, hs17, hs18, hs19, hs20, hs21, hs22, hs23, hs24, hs25, hs26, hs27, (show qa.tmps.getD 28 undef = x1.v by rw [hx1]; exact hslots 28 (by kernel_rfl)), (show qa.tmps.getD 29 undef = Value.bool true from hslots 29 (by kernel_rfl)), hs30, hs31, hs32, hs33, hs34, hs35, hs36, hs37, hs38, hs39, hs40, hs41, hs42, hs43, hs44, hs45, hs46, hs47, hs48, trivial⟩ hdf
  clear hsz hdf hrest hslots hpt hs0 hs1 hs6 hs7 hs9 hs10 hs11 hs12 hs13 hs14 hs15 hs16 hs17 hs18 hs19 hs20 hs21 hs22 hs23 hs24 hs25 hs26 hs27 hs30 hs31 hs32 hs33 hs34 hs35 hs36 hs37 hs38 hs39 hs40 hs41 hs42 hs43 hs44 hs45 hs46 hs47 hs48
  have Hx1 := Lib.hid hx1; clear hx1
  replace hR := hR.gn g1
  replace G := gb_trans G g1
  replace HT := HT.grown g1
  have okx1 : x1.Ok := by rw [Hx1.out]; exact (fromN_right (wordOf_bd (lowF l) (lowF_bd l HD.out.1.byte) 32).1 (wordOf_bd (lowF l) (lowF_bd l HD.out.1.byte) 32).2).ok
  have hw6 : w0.heap.size ≤ N6 := Nat.le_trans Gs0 hn6
  clear g1
  refine Fg.wpl_skip rfl rfl (Fg.run_store (cs := feL x1) rfl rfl rfl (hb6.there 0 5 (by show 0 + 5 ≤ 5; decide)) info_elem (feL_one _)) ?_
  replace hR := hR.setCells_other (C := N6) (cs := feL x1) 0 (by omega)
  replace hb6 : Blk (V1.setCells N6 0 (feL x1)) N6 26 (feL x1) := hb6.setAll rfl
  replace G := gb_setCells_new (cs := feL x1) G (B := N6) (hw6) 0
  replace HT := HT.keep (gb_setCells (cs := feL x1) (gb_refl _ (some N6)) 0) (HT0.noG (hw6))
  revert hR hb6 G HT
  generalize V1.setCells N6 0 (feL x1) = W2
  intro hR hb6 G HT
  have hac : acrossF x1 odd = (xa, true) := by rw [Hx1.out, ← HO.out]; exact hacr
  have hxa : xa.Ok := by have := across_ok x1 odd; rw [hac] at this; exact this
  have HAC := Lib.hid hac; clear hac
  go_upto_region 9 with (fail)
  have Gs2 := G.size
  have l2hR := hR.lt
  have l2hb6 := hb6.lt
  refine Fg.rP [8] [.any, .any, .any, .any, .any, .any, .any, .any, .fresh 26 zr5 W2.heap.size, .any, .any, .any, .any, .any, .any, .any, .any, .any, .any, .any, .any, .any, .any, .any, .any, .any, .any, .any, .any, .any, .any, .any, .any, .val (Value.tuple #[xa.v, .bool true]), .val (x1.v), .val (Value.bool odd), .val (Value.tuple #[xa.v, .bool true]), .val (xa.v), .val (Value.bool true)] 7 ?_ ?_
  ·refine Fg.vS rfl (by decide) (fun ac w h => ?_) ?_
   ·have e6 : _ = Value.pointer (some ⟨N6, 0, none⟩) := h.r 6
    exact Fg.vn x1.v (Fg.run_load rfl e6 ((hb6.gn h.base).range 0 (feL x1) rfl) Tryd.underlying26 rfl info_elem)
   refine Fg.vS rfl (by decide) (fun ac w h => ?_) ?_
   ·have e4 : _ = Value.bool odd := h.r 4
    exact Fg.vn (Value.bool odd) (Fg.run_move rfl e4)
   refine Fg.cS rfl (by decide) (fun ac w h => ?_) ?_
   ·have e34 : _ = x1.v := h.d 34
    have e35 : _ = Value.bool odd := h.d 35
    refine ⟨wants_none rfl, 43, #[x1.v, Value.bool odd], Fg.run_call rfl rfl (by simp only [List.map_toArray, List.map_cons, List.map_nil, Act.eval, e34, e35]) (Fg.run_enter Tryd.func43 (by kernel_rfl) (by kernel_rfl)), ?_⟩
    exact ((show Tells 43 #[x1.v, .bool odd] w (.tuple #[xa.v, .bool true]) from by have hh := edAcross x1 odd w (HT.grown h.base) okx1; rw [HAC.out] at hh; exact hh)).mono fun _ _ ⟨he, hg⟩ => ⟨_, he, hg, rfl⟩
   refine Fg.vS rfl (by decide) (fun ac w h => ?_) ?_
   ·have e36 : _ = Value.tuple #[xa.v, .bool true] := h.d 36
    exact Fg.vn (Value.tuple #[xa.v, .bool true]) (Fg.run_move rfl e36)
   refine Fg.vS rfl (by decide) (fun ac w h => ?_) ?_
   ·have e33 : _ = Value.tuple #[xa.v, .bool true] := h.d 33
    exact Fg.vn xa.v (Fg.run_extract rfl e33 rfl)
   refine Fg.vS rfl (by decide) (fun ac w h => ?_) ?_
   ·have e33 : _ = Value.tuple #[xa.v, .bool true] := h.d 33
    exact Fg.vn (Value.bool true) (Fg.run_extract rfl e33 rfl)
   refine ⟨⟨⟨_, rfl⟩, Fg.allocP (fun _ _ h k => gb_trans h k) rfl (by show 8 < 49; decide) fun ac w h => ?_⟩, ?_⟩
   ·refine ⟨wants_none rfl, w.alloc (.cells zr5.toArray 26), ?_, World.grownBy_alloc _ _ _, by simp, ⟨w.heap.size, rfl, h.base.size, Blk.new w zr5 _⟩⟩
    clear h
    go_simp
   trivial
  ·intro qa V3 g3 hsz hdf hrest hslots hpt
   obtain ⟨N8, hs8, hn8, hb8⟩ : ∃ N, qa.tmps.getD 8 undef = .pointer (some ⟨N, 0, none⟩) ∧ W2.heap.size ≤ N ∧ Blk V3 N 26 zr5 := hslots 8 (by kernel_rfl)
   obtain ⟨u30, hs30⟩ := Fg.slotv qa 30
   obtain ⟨u31, hs31⟩ := Fg.slotv qa 31
   obtain ⟨u33, hs33⟩ := Fg.slotv qa 33
   obtain ⟨u34, hs34⟩ := Fg.slotv qa 34
   obtain ⟨u35, hs35⟩ := Fg.slotv qa 35
   obtain ⟨u36, hs36⟩ := Fg.slotv qa 36
   obtain rfl := Fg.frame_by [8, 30, 31, 33, 34, 35, 36, 37, 38] (vs := [u0, u1, Value.pointer (some ⟨w0.heap.size, 0, none⟩), Value.bool false, Value.bool odd, Value.slice (some ⟨g, 0, none⟩) 32 c', Value.pointer (some ⟨N6, 0, none⟩), Value.bool true, Value.pointer (some ⟨N8, 0, none⟩), u9, u10, u11, u12, u13, u14, u15, u16, u17, u18, u19, u20, u21, u22, u23, u24, u25, u26, u27, x1.v, Value.bool true, u30, u31, u32, u33, u34, u35, u36, xa.v, Value.bool true, u39, u40, u41, u42, u43, u44, u45, u46, u47, u48]) hsz hrest (by kernel_rfl) rfl rfl ⟨hs8, hs30, hs31, hs33, hs34, hs35, hs36, (show qa.tmps.getD 37 undef = xa.v from hslots 37 (by kernel_rfl)), (show qa.tmps.getD 38 undef = Value.bool true from hslots 38 (by kernel_rfl)), trivial⟩ hdf
   clear hsz hdf hrest hslots hpt hs8 hs30 hs31 hs33 hs34 hs35 hs36
   replace hR := hR.gn g3
   replace hb6 := hb6.gn g3
   replace G := gb_trans G g3
   replace HT := HT.grown g3
   have hw8 : w0.heap.size ≤ N8 := Nat.le_trans Gs2 hn8
   clear g3
   refine Fg.wpl_skip rfl rfl (Fg.run_store (cs := feL xa) rfl rfl rfl (hb8.there 0 5 (by show 0 + 5 ≤ 5; decide)) info_elem (feL_one _)) ?_
   replace hR := hR.setCells_other (C := N8) (cs := feL xa) 0 (by omega)
   replace hb6 := hb6.setCells_other (C := N8) (cs := feL xa) 0 (by omega)
   replace hb8 : Blk (V3.setCells N8 0 (feL xa)) N8 26 (feL xa) := hb8.setAll rfl
   replace G := gb_setCells_new (cs := feL xa) G (B := N8) (hw8) 0
   replace HT := HT.keep (gb_setCells (cs := feL xa) (gb_refl _ (some N8)) 0) (HT0.noG (hw8))
   revert hR hb6 hb8 G HT
   generalize V3.setCells N8 0 (feL xa) = W4
   intro hR hb6 hb8 G HT
   go_upto_region 12 with (fail)
   have Gs4 := G.size
   have l3hR := hR.lt
   have l3hb6 := hb6.lt
   have l3hb8 := hb8.lt
   refine Fg.rT [] [.any, .any, .any, .any, .any, .any, .any, .any, .any, .any, .any, .any, .any, .any, .any, .any, .any, .any, .any, .any, .any, .any, .any, .any, .any, .any, .any, .any, .any, .any, .any, .any, .any, .any, .any, .any, .any, .any, .any, .any, .any, .any, .val (xa.v), .val (x1.v), .val (Fe.oneF.v), .val (xa.v), .val (x1.v), .val ((Fe.mulF xa x1).v), .val (((Pt.mk xa x1 Fe.oneF (Fe.mulF xa x1))).v)] 7 ?_ ?_
   ·refine Fg.vS rfl (by decide) (fun ac w h => ?_) ?_
    ·have e8 : _ = Value.pointer (some ⟨N8, 0, none⟩) := h.r 8
     exact Fg.vn xa.v (Fg.run_load rfl e8 ((hb8.gn h.base).range 0 (feL xa) rfl) Tryd.underlying26 rfl info_elem)
    refine Fg.vS rfl (by decide) (fun ac w h => ?_) ?_
    ·have e6 : _ = Value.pointer (some ⟨N6, 0, none⟩) := h.r 6
     exact Fg.vn x1.v (Fg.run_load rfl e6 ((hb6.gn h.base).range 0 (feL x1) rfl) Tryd.underlying26 rfl info_elem)
    refine Fg.cS rfl (by decide) (fun ac w h => ?_) ?_
    ·refine ⟨wants_none rfl, 30, #[], Fg.run_call rfl rfl (by simp) (Fg.run_enter Tryd.func30 (by kernel_rfl) (by kernel_rfl)), ?_⟩
     exact (t_one).mono fun _ _ ⟨he, hg⟩ => ⟨_, he, hg, rfl⟩
    refine Fg.vS rfl (by decide) (fun ac w h => ?_) ?_
    ·have e8 : _ = Value.pointer (some ⟨N8, 0, none⟩) := h.r 8
     exact Fg.vn xa.v (Fg.run_load rfl e8 ((hb8.gn h.base).range 0 (feL xa) rfl) Tryd.underlying26 rfl info_elem)
    refine Fg.vS rfl (by decide) (fun ac w h => ?_) ?_
    ·have e6 : _ = Value.pointer (some ⟨N6, 0, none⟩) := h.r 6
     exact Fg.vn x1.v (Fg.run_load rfl e6 ((hb6.gn h.base).range 0 (feL x1) rfl) Tryd.underlying26 rfl info_elem)
    refine Fg.cS rfl (by decide) (fun ac w h => ?_) ?_
    ·have e45 : _ = xa.v := h.d 45
     have e46 : _ = x1.v := h.d 46
     refine ⟨wants_none rfl, 25, #[xa.v, x1.v], Fg.run_call rfl rfl (by simp only [List.map_toArray, List.map_cons, List.map_nil, Act.eval, e45, e46]) (Fg.run_enter Tryd.func25 (by kernel_rfl) (by kernel_rfl)), ?_⟩
     exact (t_mul hxa okx1).mono fun _ _ ⟨he, hg⟩ => ⟨_, he, hg, rfl⟩
    refine Fg.vS rfl (by decide) (fun ac w h => ?_) ?_
    ·have e42 : _ = xa.v := h.d 42
     have e43 : _ = x1.v := h.d 43
     have e44 : _ = Fe.oneF.v := h.d 44
     have e47 : _ = (Fe.mulF xa x1).v := h.d 47
     exact Fg.vn (((Pt.mk xa x1 Fe.oneF (Fe.mulF xa x1))).v) (Fg.run_build (vs := #[(0, xa.v), (1, x1.v), (2, Fe.oneF.v), (3, (Fe.mulF xa x1).v)]) rfl (by simp only [List.map_toArray, List.map_cons, List.map_nil, Act.eval, e42, e43, e44, e47]) (by kernel_rfl))
    trivial
   ·intro qa V5 g5 hsz hdf hrest hslots hpt
    obtain ⟨u39, hs39⟩ := Fg.slotv qa 39
    obtain ⟨u40, hs40⟩ := Fg.slotv qa 40
    obtain ⟨u42, hs42⟩ := Fg.slotv qa 42
    obtain ⟨u43, hs43⟩ := Fg.slotv qa 43
    obtain ⟨u44, hs44⟩ := Fg.slotv qa 44
    obtain ⟨u45, hs45⟩ := Fg.slotv qa 45
    obtain ⟨u46, hs46⟩ := Fg.slotv qa 46
    obtain ⟨u47, hs47⟩ := Fg.slotv qa 47
    obtain ⟨x2, hx2⟩ : ∃ x : Pt, x = (Pt.mk xa x1 Fe.oneF (Fe.mulF xa x1)) := ⟨_, rfl⟩
    obtain rfl := Fg.frame_by [39, 40, 42, 43, 44, 45, 46, 47, 48] (vs := [u0, u1, Value.pointer (some ⟨w0.heap.size, 0, none⟩), Value.bool false, Value.bool odd, Value.slice (some ⟨g, 0, none⟩) 32 c', Value.pointer (some ⟨N6, 0, none⟩), Value.bool true, Value.pointer (some ⟨N8, 0, none⟩), u9, u10, u11, u12, u13, u14, u15, u16, u17, u18, u19, u20, u21, u22, u23, u24, u25, u26, u27, x1.v, Value.bool true, u30, u31, u32, u33, u34, u35, u36, xa.v, Value.bool true, u39, u40, u41, u42, u43, u44, u45, u46, u47, x2.v]) hsz hrest (by kernel_rfl) rfl rfl ⟨hs39, hs40, hs42, hs43, hs44, hs45, hs46, hs47, (show qa.tmps.getD 48 undef = x2.v by rw [hx2]; exact hslots 48 (by kernel_rfl)), trivial⟩ hdf
    clear hsz hdf hrest hslots hpt hs39 hs40 hs42 hs43 hs44 hs45 hs46 hs47
    have Hx2 := Lib.hid hx2; clear hx2
    replace hR := hR.gn g5
    replace hb6 := hb6.gn g5
    replace hb8 := hb8.gn g5
    replace G := gb_trans G g5
    replace HT := HT.grown g5
    clear g5
    refine Fg.wpl_skip rfl rfl (Fg.run_store (cs := ptL x2) rfl rfl rfl (hR.there 0 20 (by show 0 + 20 ≤ 20; decide)) info_point (ptL_one _)) ?_
    replace hR : Blk (V5.setCells w0.heap.size 0 (ptL x2)) w0.heap.size 28 (ptL x2) := hR.setAll rfl
    replace hb6 := hb6.setCells_other (C := w0.heap.size) (cs := ptL x2) 0 (by omega)
    replace hb8 := hb8.setCells_other (C := w0.heap.size) (cs := ptL x2) 0 (by omega)
    replace G := gb_setCells_new (cs := ptL x2) G (B := w0.heap.size) (by omega) 0
    replace HT := HT.keep (gb_setCells (cs := ptL x2) (gb_refl _ (some w0.heap.size)) 0) (HT0.noG (by omega))
    revert hR hb6 hb8 G HT
    generalize V5.setCells w0.heap.size 0 (ptL x2) = W6
    intro hR hb6 hb8 G HT
    go_wp2_with fail
    have hx2 := Hx2.out; subst hx2
    have hx1 := Hx1.out; subst hx1
    exact bodyPost_ret (v := .tuple #[((Pt.mk xa (fromN (wordOf (lowF l) 32)) Fe.oneF (Fe.mulF xa (fromN (wordOf (lowF l) 32))))).v, .bool true]) (results_row_tmp Tryd.results16 _ _ w0.heap.size 28 (ptL ((Pt.mk xa (fromN (wordOf (lowF l) 32)) Fe.oneF (Fe.mulF xa (fromN (wordOf (lowF l) 32)))))).toArray (0, 0) _ rfl hR Tryd.underlying28 rfl info_point rfl) rfl ⟨rfl, G⟩
set_option maxRecDepth 100000 in
set_option maxHeartbeats 3200000 in
theorem get_len (a : Option Addr) (n c : Nat) (w0 : World) (h2 : ((n : Int) != 32) = true) :
  Calls Tryd.prog 16 #[.slice a n c] w0 fun e w' => e = .returned (.tuple #[zeroP0.v, .bool false]) ∧ w0.grownBy w' none := by
 go_enter Tryd.func16, Tryd.ntmps16
 go_upto_region 1 with (fail)
 have G : w0.grownBy (w0.alloc (.cells zr20.toArray 28)) none := gb_alloc (gb_refl _ _) _
 have hR : Blk (w0.alloc (.cells zr20.toArray 28)) (w0.heap.size) 28 zr20 := Blk.new w0 zr20 _
 revert G hR
 generalize w0.alloc (.cells zr20.toArray 28) = W0
 intro G hR
 have Gs := G.size
 go_upto_region 2 with (fail)
 have Gs0 := G.size
 have l1hR := hR.lt
 refine Fg.rP [] [.any, .any, .any, .any, .any, .any, .any, .any, .any, .any, .any, .any, .val (zeroP0.v)] 1 ?_ ?_
 ·refine Fg.vS rfl (by decide) (fun ac w h => ?_) ?_
  ·exact Fg.vn zeroP0.v (Fg.run_build (vs := #[]) rfl (by simp) (by kernel_rfl))
  trivial
 ·intro qa V1 g1 hsz hdf hrest hslots hpt
  obtain rfl := Fg.frame_by [12] (vs := [Value.slice a n c, undef, Value.pointer (some ⟨w0.heap.size, 0, none⟩), Value.bool false, undef, undef, undef, undef, undef, Value.slice a n c, Value.int .i64 (n : Int), Value.bool true, zeroP0.v, undef, undef, undef, undef, undef, undef, undef, undef, undef, undef, undef, undef, undef, undef, undef, undef, undef, undef, undef, undef, undef, undef, undef, undef, undef, undef, undef, undef, undef, undef, undef, undef, undef, undef, undef, undef]) hsz hrest (by kernel_rfl) rfl rfl ⟨(show qa.tmps.getD 12 undef = zeroP0.v from hslots 12 (by kernel_rfl)), trivial⟩ hdf
  clear hsz hdf hrest hslots hpt
  replace hR := hR.gn g1
  replace G := gb_trans G g1
  clear g1
  refine Fg.wpl_skip rfl rfl (Fg.run_store (cs := ptL zeroP0) rfl rfl rfl (hR.there 0 20 (by show 0 + 20 ≤ 20; decide)) info_point (ptL_one _)) ?_
  replace hR : Blk (V1.setCells w0.heap.size 0 (ptL zeroP0)) w0.heap.size 28 (ptL zeroP0) := hR.setAll rfl
  replace G := gb_setCells_new (cs := ptL zeroP0) G (B := w0.heap.size) (by omega) 0
  revert hR G
  generalize V1.setCells w0.heap.size 0 (ptL zeroP0) = W2
  intro hR G
  go_wp2_with fail
  exact bodyPost_ret (v := .tuple #[zeroP0.v, .bool false]) (results_row_tmp Tryd.results16 _ _ w0.heap.size 28 (ptL zeroP0).toArray (0, 0) _ rfl hR Tryd.underlying28 rfl info_point rfl) rfl ⟨rfl, G⟩

end Go.Proofs.YtleegbaigedebaaDoor
