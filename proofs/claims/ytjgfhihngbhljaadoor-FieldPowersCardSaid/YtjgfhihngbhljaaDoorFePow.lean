/- field: powers: the step that goes on from a power. -/
import Derived.Test.YtjgfhihngbhljaaDoorFeSame
namespace Go.Proofs.YtjgfhihngbhljaaDoor
open Go.RowKit

theorem mul_fe (a b : Fe) (w : World) (ha : a.Ok) (hb : b.Ok) : Calls Tryd.prog 7 #[.agg #[.int .u64 a.x0, .int .u64 a.x1, .int .u64 a.x2, .int .u64 a.x3, .int .u64 a.x4], .agg #[.int .u64 b.x0, .int .u64 b.x1, .int .u64 b.x2, .int .u64 b.x3, .int .u64 b.x4]] w (FeOut (Fe.mulF a b) w) :=
  mul_any a.x0 a.x1 a.x2 a.x3 a.x4 b.x0 b.x1 b.x2 b.x3 b.x4 w ha.n0 ha.l0 ha.n1 ha.l1 ha.n2 ha.l2 ha.n3 ha.l3 ha.n4 ha.l4 hb.n0 hb.l0 hb.n1 hb.l1 hb.n2 hb.l2 hb.n3 hb.l3 hb.n4 hb.l4
theorem sq_fe (a : Fe) (w : World) (ha : a.Ok) : Calls Tryd.prog 12 #[.agg #[.int .u64 a.x0, .int .u64 a.x1, .int .u64 a.x2, .int .u64 a.x3, .int .u64 a.x4]] w (FeOut (Fe.sqF a) w) :=
  sq_any a.x0 a.x1 a.x2 a.x3 a.x4 w ha.n0 ha.l0 ha.n1 ha.l1 ha.n2 ha.l2 ha.n3 ha.l3 ha.n4 ha.l4
/-- squared n times -/
def sqN : Nat → Fe → Fe
  | 0, p => p
  | n + 1, p => Fe.sqF (sqN n p)
theorem sqN_ok {p : Fe} (h : p.Ok) (n : Nat) : (sqN n p).Ok := by
  cases n with
  | zero => exact h
  | succ n => exact (Fe.sq_right _).ok
def stepF (n : Nat) (p b : Fe) : Fe := Fe.mulF (sqN n p) b
def feL (a : Fe) : List Value := [.int .u64 a.x0, .int .u64 a.x1, .int .u64 a.x2, .int .u64 a.x3, .int .u64 a.x4]

set_option maxHeartbeats 400000 in
theorem powers_any (a : Fe) (w : World) :
    Calls Tryd.prog 53 #[.agg #[.int .u64 a.x0, .int .u64 a.x1, .int .u64 a.x2, .int .u64 a.x3, .int .u64 a.x4]] w fun e w' => e = .returned (.func (.func 57) #[] #[.pointer (some ⟨w.heap.size + 1, 0, none⟩)]) ∧ w.grownBy w' none ∧ Blk w' (w.heap.size + 1) 24 (feL a) := by
  have hmf : ∀ (fn : Fn) (first cap : Array Value) (w : World), (Instr.makeFunc fn first cap).run Tryd.prog w = .ok (.func fn first cap) w := fun _ _ _ _ => rfl
  go_enter Tryd.func53, Tryd.ntmps53
  go_wp2
  go_ret
  exact ⟨rfl, gb_alloc (gb_alloc (gb_refl _ _) _) _, Blk.newAt (w.alloc _) (feL a) _ (by simp)⟩
set_option maxHeartbeats 1600000 in
theorem step_any (C n : Nat) (p b : Fe) (w : World) (hn : n ≤ 1000) (hp : p.Ok) (hb : b.Ok) (hC : Blk w C 24 (feL p)) :
    Calls Tryd.prog 57 #[.int .i64 n, .agg #[.int .u64 b.x0, .int .u64 b.x1, .int .u64 b.x2, .int .u64 b.x3, .int .u64 b.x4], .pointer (some ⟨C, 0, none⟩)] w fun e w' => ∃ r : Fe, Hid (r = stepF n p b) ∧ e = .returned (.agg #[.int .u64 r.x0, .int .u64 r.x1, .int .u64 r.x2, .int .u64 r.x3, .int .u64 r.x4]) ∧ w.grownBy w' (some C) ∧ Blk w' C 24 (feL r) := by
  have hlt := hC.lt
  go_enter Tryd.func57, Tryd.ntmps57
  go_wp2
  go_loopw [7] (fun i wr => ∃ k : Nat, k ≤ n ∧ i = .int .i64 k ∧ w.grownBy wr (some C) ∧ Blk wr C 24 (feL (sqN k p)) ∧ Blk wr w.heap.size 24 (feL b) ∧ Room5 wr (w.heap.size + 1) 24) (fun i _ => n - (intOf i).toNat)
  case atStart => exact ⟨0, by omega, rfl, gb_alloc (gb_alloc (gb_refl _ _) _) _, (hC.alloc _).alloc _, (Blk.new w (feL b) _).alloc _, ⟨_, _, _, _, _, Blk.newAt _ [.int .u64 0, .int .u64 0, .int .u64 0, .int .u64 0, .int .u64 0] _ (by simp)⟩⟩
  case round =>
    obtain ⟨k, hk, rfl, hg, hP, hB, hR⟩ := hrel
    have hok := sqN_ok hp k
    by_cases hlt2 : k < n
    · have hs : Hid (sqN (k + 1) p = Fe.sqF (sqN k p)) := Lib.hid rfl
      obtain ⟨q, hq⟩ : ∃ q, q = sqN k p := ⟨_, rfl⟩
      rw [← hq] at hP hok
      have HQ := Lib.hid hq; clear hq
      have z0 := hP.cell (i := 0) rfl; have z1 := hP.cell (i := 1) rfl; have z2 := hP.cell (i := 2) rfl; have z3 := hP.cell (i := 3) rfl; have z4 := hP.cell (i := 4) rfl
      go_wp2_with (go_at_call 12; refine (sq_fe q _ hok).mono ?_; rintro e w1 ⟨r, hr, rfl, hg1⟩; have hP1 := hP.grown hg1 (by simp); have y0 := hP1.cell (i := 0) rfl; have y1 := hP1.cell (i := 1) rfl; have y2 := hP1.cell (i := 2) rfl; have y3 := hP1.cell (i := 3) rfl; have y4 := hP1.cell (i := 4) rfl; have f0 := hP1.free 0; have f1 := hP1.free 1; have f2 := hP1.free 2; have f3 := hP1.free 3; have f4 := hP1.free 4)
      go_roundw
      case rel =>
        refine ⟨k + 1, by omega, by go_num, gb_set (gb_set (gb_set (gb_set (gb_set (gb_trans hg (gb_row hg1 _)) _ _) _ _) _ _) _ _) _ _, ?_, ?_, ?_⟩
        · have := Room5.set5 ⟨_, _, _, _, _, hP1⟩ (.int .u64 r.x0) (.int .u64 r.x1) (.int .u64 r.x2) (.int .u64 r.x3) (.int .u64 r.x4)
          rw [hs.out, ← HQ.out, ← hr.out]
          exact this
        · exact (((((hB.grown hg1 (by simp)).other (by simp; omega) _).other (by simp; omega) _).other (by simp; omega) _).other (by simp; omega) _).other (by simp; omega) _
        · exact room5_set (room5_set (room5_set (room5_set (room5_set (hR.grown hg1 (by simp)) (by simp; omega) _) (by simp; omega) _) (by simp; omega) _) (by simp; omega) _) (by simp; omega) _
      case measure => simp [intOf]; omega
    · obtain rfl : k = n := by omega
      obtain ⟨q, hq⟩ : ∃ q, q = sqN k p := ⟨_, rfl⟩
      rw [← hq] at hP hok
      have HQ := Lib.hid hq; clear hq
      have z0 := hP.cell (i := 0) rfl; have z1 := hP.cell (i := 1) rfl; have z2 := hP.cell (i := 2) rfl; have z3 := hP.cell (i := 3) rfl; have z4 := hP.cell (i := 4) rfl
      have v0 := hB.cell (i := 0) rfl; have v1 := hB.cell (i := 1) rfl; have v2 := hB.cell (i := 2) rfl; have v3 := hB.cell (i := 3) rfl; have v4 := hB.cell (i := 4) rfl
      go_wp2_with (go_at_call 7; refine (mul_fe q b _ hok hb).mono ?_; rintro e w1 ⟨r, hr, rfl, hg1⟩; have hP1 := hP.grown hg1 (by simp); have y0 := hP1.cell (i := 0) rfl; have y1 := hP1.cell (i := 1) rfl; have y2 := hP1.cell (i := 2) rfl; have y3 := hP1.cell (i := 3) rfl; have y4 := hP1.cell (i := 4) rfl; have f0 := hP1.free 0; have f1 := hP1.free 1; have f2 := hP1.free 2; have f3 := hP1.free 3; have f4 := hP1.free 4; obtain ⟨u0, u1, u2, u3, u4, hR1⟩ := hR.grown hg1 (by simp); have t0 := hR1.cell (i := 0) rfl; have t1 := hR1.cell (i := 1) rfl; have t2 := hR1.cell (i := 2) rfl; have t3 := hR1.cell (i := 3) rfl; have t4 := hR1.cell (i := 4) rfl; have g0 := hR1.free 0; have g1 := hR1.free 1; have g2 := hR1.free 2; have g3 := hR1.free 3; have g4 := hR1.free 4)
      refine bodyPost_ret (v := .agg #[.int .u64 r.x0, .int .u64 r.x1, .int .u64 r.x2, .int .u64 r.x3, .int .u64 r.x4]) ?_ rfl ⟨r, ?_, rfl, ?_, ?_⟩
      · simp [results, Tryd.results57, go_sem, t0, t1, t2, t3, t4]
      · have e := hr.out
        rw [HQ.out] at e
        exact e
      · exact gb_set_new (gb_set_new (gb_set_new (gb_set_new (gb_set_new (gb_set (gb_set (gb_set (gb_set (gb_set (gb_trans hg (gb_row hg1 _)) _ _) _ _) _ _) _ _) _ _) (by simp) _) (by simp) _) (by simp) _) (by simp) _) (by simp) _
      · exact (((((Room5.set5 ⟨_, _, _, _, _, hP1⟩ (.int .u64 r.x0) (.int .u64 r.x1) (.int .u64 r.x2) (.int .u64 r.x3) (.int .u64 r.x4)).other (by simp; omega) _).other (by simp; omega) _).other (by simp; omega) _).other (by simp; omega) _).other (by simp; omega) _
end Go.Proofs.YtjgfhihngbhljaaDoor
