/- field: manyOnes: a step that stands at a to the power 2^250 - 1. -/
import Derived.Test.YtjgfhihngbhljaaDoorFePow
namespace Go.Proofs.YtjgfhihngbhljaaDoor
open Go.RowKit
def ones1 (a : Fe) : Fe := stepF 1 a a
def ones2 (a : Fe) : Fe := stepF 2 (ones1 a) (ones1 a)
def ones3 (a : Fe) : Fe := stepF 1 (ones2 a) a
def ones4 (a : Fe) : Fe := stepF 5 (ones3 a) (ones3 a)
def ones5 (a : Fe) : Fe := stepF 10 (ones4 a) (ones4 a)
def ones6 (a : Fe) : Fe := stepF 20 (ones5 a) (ones5 a)
def ones7 (a : Fe) : Fe := stepF 10 (ones6 a) (ones4 a)
def ones8 (a : Fe) : Fe := stepF 50 (ones7 a) (ones7 a)
def ones9 (a : Fe) : Fe := stepF 100 (ones8 a) (ones8 a)
def ones10 (a : Fe) : Fe := stepF 50 (ones9 a) (ones7 a)
theorem stepF_ok (n : Nat) (p b : Fe) : (stepF n p b).Ok := (Fe.mul_right _ _).ok

set_option maxRecDepth 100000 in
set_option maxHeartbeats 1600000 in
theorem manyOnes_any (a : Fe) (w : World) (ha : a.Ok) :
    Calls Tryd.prog 40 #[.agg #[.int .u64 a.x0, .int .u64 a.x1, .int .u64 a.x2, .int .u64 a.x3, .int .u64 a.x4]] w fun e w' => ∃ (C : Nat) (r : Fe), Hid (r = ones10 a) ∧ e = .returned (.func (.func 57) #[] #[.pointer (some ⟨C, 0, none⟩)]) ∧ w.grownBy w' none ∧ w.heap.size ≤ C ∧ Blk w' C 24 (feL r) := by
  go_enter Tryd.func40, Tryd.ntmps40
  have hA0 : Blk (w.alloc (.cells #[.int .u64 a.x0, .int .u64 a.x1, .int .u64 a.x2, .int .u64 a.x3, .int .u64 a.x4] 24)) w.heap.size 24 (feL a) := Blk.new w (feL a) _
  go_wp2_with fail
  refine (powers_any a _).mono ?_
  rintro e v0 ⟨rfl, hg0, hP0⟩
  have hsz : (w.alloc (.cells #[.int .u64 a.x0, .int .u64 a.x1, .int .u64 a.x2, .int .u64 a.x3, .int .u64 a.x4] 24)).heap.size = w.heap.size + 1 := by simp
  rw [hsz] at hP0
  clear hsz
  have G0 := gb_trans (gb_alloc (gb_refl w none) _) hg0
  have hAv0 := hA0.grown hg0 (by simp)
  have lt0 := hP0.lt
  clear hA0 hg0
  have cA0 := hAv0.cell (i := 0) rfl
  have cA1 := hAv0.cell (i := 1) rfl
  have cA2 := hAv0.cell (i := 2) rfl
  have cA3 := hAv0.cell (i := 3) rfl
  have cA4 := hAv0.cell (i := 4) rfl
  go_wp2_with fail
  refine (step_any (w.heap.size + 1 + 1) 1 a a _ (by decide) ha ha hP0).mono ?_
  rintro e v1 ⟨r1, hr1, rfl, hg1, hP1⟩
  have G1 := gb_then G0 hg1 (by omega)
  have lt1 := hP1.lt
  have ok1 : r1.Ok := by rw [hr1.out]; exact stepF_ok _ _ _
  have h_a_1 := hAv0.grown hg1 (some_ne (by omega))
  clear hg1 G0 hP0 hAv0
  clear cA0 cA1 cA2 cA3 cA4
  have h_two_n : Blk (v1.alloc (.cells #[.int .u64 r1.x0, .int .u64 r1.x1, .int .u64 r1.x2, .int .u64 r1.x3, .int .u64 r1.x4] 24)) v1.heap.size 24 (feL r1) := Blk.new v1 (feL r1) _
  go_wp2_with fail
  refine (step_any (w.heap.size + 1 + 1) 2 r1 r1 _ (by decide) ok1 ok1 (hP1.alloc _)).mono ?_
  rintro e v2 ⟨r2, hr2, rfl, hg2, hP2⟩
  have G2 := gb_then (gb_alloc G1 _) hg2 (by omega)
  have lt2 := hP2.lt
  have ok2 : r2.Ok := by rw [hr2.out]; exact stepF_ok _ _ _
  have h_a_2 := (h_a_1.alloc _).grown hg2 (some_ne (by omega))
  clear hg2 G1 hP1 h_a_1 h_two_n
  skip
  have c2_0 := h_a_2.cell (i := 0) rfl
  have c2_1 := h_a_2.cell (i := 1) rfl
  have c2_2 := h_a_2.cell (i := 2) rfl
  have c2_3 := h_a_2.cell (i := 3) rfl
  have c2_4 := h_a_2.cell (i := 4) rfl
  go_wp2_with fail
  refine (step_any (w.heap.size + 1 + 1) 1 r2 a _ (by decide) ok2 ha hP2).mono ?_
  rintro e v3 ⟨r3, hr3, rfl, hg3, hP3⟩
  have G3 := gb_then G2 hg3 (by omega)
  have lt3 := hP3.lt
  have ok3 : r3.Ok := by rw [hr3.out]; exact stepF_ok _ _ _
  clear hg3 G2 hP2 h_a_2
  clear c2_0 c2_1 c2_2 c2_3 c2_4
  have h_five_n : Blk (v3.alloc (.cells #[.int .u64 r3.x0, .int .u64 r3.x1, .int .u64 r3.x2, .int .u64 r3.x3, .int .u64 r3.x4] 24)) v3.heap.size 24 (feL r3) := Blk.new v3 (feL r3) _
  go_wp2_with fail
  refine (step_any (w.heap.size + 1 + 1) 5 r3 r3 _ (by decide) ok3 ok3 (hP3.alloc _)).mono ?_
  rintro e v4 ⟨r4, hr4, rfl, hg4, hP4⟩
  have G4 := gb_then (gb_alloc G3 _) hg4 (by omega)
  have lt4 := hP4.lt
  have ok4 : r4.Ok := by rw [hr4.out]; exact stepF_ok _ _ _
  clear hg4 G3 hP3 h_five_n
  skip
  have h_ten_n : Blk (v4.alloc (.cells #[.int .u64 r4.x0, .int .u64 r4.x1, .int .u64 r4.x2, .int .u64 r4.x3, .int .u64 r4.x4] 24)) v4.heap.size 24 (feL r4) := Blk.new v4 (feL r4) _
  go_wp2_with fail
  refine (step_any (w.heap.size + 1 + 1) 10 r4 r4 _ (by decide) ok4 ok4 (hP4.alloc _)).mono ?_
  rintro e v5 ⟨r5, hr5, rfl, hg5, hP5⟩
  have G5 := gb_then (gb_alloc G4 _) hg5 (by omega)
  have lt5 := hP5.lt
  have ok5 : r5.Ok := by rw [hr5.out]; exact stepF_ok _ _ _
  have h_ten_5 := h_ten_n.grown hg5 (some_ne (by omega))
  clear hg5 G4 hP4 h_ten_n
  skip
  have h_twenty_n : Blk (v5.alloc (.cells #[.int .u64 r5.x0, .int .u64 r5.x1, .int .u64 r5.x2, .int .u64 r5.x3, .int .u64 r5.x4] 24)) v5.heap.size 24 (feL r5) := Blk.new v5 (feL r5) _
  go_wp2_with fail
  refine (step_any (w.heap.size + 1 + 1) 20 r5 r5 _ (by decide) ok5 ok5 (hP5.alloc _)).mono ?_
  rintro e v6 ⟨r6, hr6, rfl, hg6, hP6⟩
  have G6 := gb_then (gb_alloc G5 _) hg6 (by omega)
  have lt6 := hP6.lt
  have ok6 : r6.Ok := by rw [hr6.out]; exact stepF_ok _ _ _
  have h_ten_6 := (h_ten_5.alloc _).grown hg6 (some_ne (by omega))
  clear hg6 G5 hP5 h_ten_5 h_twenty_n
  skip
  have c6_0 := h_ten_6.cell (i := 0) rfl
  have c6_1 := h_ten_6.cell (i := 1) rfl
  have c6_2 := h_ten_6.cell (i := 2) rfl
  have c6_3 := h_ten_6.cell (i := 3) rfl
  have c6_4 := h_ten_6.cell (i := 4) rfl
  go_wp2_with fail
  refine (step_any (w.heap.size + 1 + 1) 10 r6 r4 _ (by decide) ok6 ok4 hP6).mono ?_
  rintro e v7 ⟨r7, hr7, rfl, hg7, hP7⟩
  have G7 := gb_then G6 hg7 (by omega)
  have lt7 := hP7.lt
  have ok7 : r7.Ok := by rw [hr7.out]; exact stepF_ok _ _ _
  clear hg7 G6 hP6 h_ten_6
  clear c6_0 c6_1 c6_2 c6_3 c6_4
  have h_fifty_n : Blk (v7.alloc (.cells #[.int .u64 r7.x0, .int .u64 r7.x1, .int .u64 r7.x2, .int .u64 r7.x3, .int .u64 r7.x4] 24)) v7.heap.size 24 (feL r7) := Blk.new v7 (feL r7) _
  go_wp2_with fail
  refine (step_any (w.heap.size + 1 + 1) 50 r7 r7 _ (by decide) ok7 ok7 (hP7.alloc _)).mono ?_
  rintro e v8 ⟨r8, hr8, rfl, hg8, hP8⟩
  have G8 := gb_then (gb_alloc G7 _) hg8 (by omega)
  have lt8 := hP8.lt
  have ok8 : r8.Ok := by rw [hr8.out]; exact stepF_ok _ _ _
  have h_fifty_8 := h_fifty_n.grown hg8 (some_ne (by omega))
  clear hg8 G7 hP7 h_fifty_n
  skip
  have h_hundred_n : Blk (v8.alloc (.cells #[.int .u64 r8.x0, .int .u64 r8.x1, .int .u64 r8.x2, .int .u64 r8.x3, .int .u64 r8.x4] 24)) v8.heap.size 24 (feL r8) := Blk.new v8 (feL r8) _
  go_wp2_with fail
  refine (step_any (w.heap.size + 1 + 1) 100 r8 r8 _ (by decide) ok8 ok8 (hP8.alloc _)).mono ?_
  rintro e v9 ⟨r9, hr9, rfl, hg9, hP9⟩
  have G9 := gb_then (gb_alloc G8 _) hg9 (by omega)
  have lt9 := hP9.lt
  have ok9 : r9.Ok := by rw [hr9.out]; exact stepF_ok _ _ _
  have h_fifty_9 := (h_fifty_8.alloc _).grown hg9 (some_ne (by omega))
  clear hg9 G8 hP8 h_fifty_8 h_hundred_n
  skip
  have c9_0 := h_fifty_9.cell (i := 0) rfl
  have c9_1 := h_fifty_9.cell (i := 1) rfl
  have c9_2 := h_fifty_9.cell (i := 2) rfl
  have c9_3 := h_fifty_9.cell (i := 3) rfl
  have c9_4 := h_fifty_9.cell (i := 4) rfl
  go_wp2_with fail
  refine (step_any (w.heap.size + 1 + 1) 50 r9 r7 _ (by decide) ok9 ok7 hP9).mono ?_
  rintro e v10 ⟨r10, hr10, rfl, hg10, hP10⟩
  have G10 := gb_then G9 hg10 (by omega)
  have lt10 := hP10.lt
  have ok10 : r10.Ok := by rw [hr10.out]; exact stepF_ok _ _ _
  clear hg10 G9 hP9 h_fifty_9
  clear c9_0 c9_1 c9_2 c9_3 c9_4
  go_wp2_with fail
  skip
  go_ret
  have e1 : r1 = ones1 a := hr1.out
  have e2 : r2 = ones2 a := by rw [hr2.out, e1]; rfl
  have e3 : r3 = ones3 a := by rw [hr3.out, e2]; rfl
  have e4 : r4 = ones4 a := by rw [hr4.out, e3]; rfl
  have e5 : r5 = ones5 a := by rw [hr5.out, e4]; rfl
  have e6 : r6 = ones6 a := by rw [hr6.out, e5]; rfl
  have e7 : r7 = ones7 a := by rw [hr7.out, e6, e4]; rfl
  have e8 : r8 = ones8 a := by rw [hr8.out, e7]; rfl
  have e9 : r9 = ones9 a := by rw [hr9.out, e8]; rfl
  have e10 : r10 = ones10 a := by rw [hr10.out, e9, e7]; rfl
  exact ⟨_, r10, Lib.hid e10, rfl, G10, by omega, hP10⟩
end Go.Proofs.YtjgfhihngbhljaaDoor
