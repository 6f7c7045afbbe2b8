/- field: least: the limbs of the number from 0 to p - 1. -/
import Derived.Test.YtjgfhihngbhljaaDoorFeAdd
namespace Go.Proofs.YtjgfhihngbhljaaDoor
open Go.RowKit

def ov (c : Fe) : Nat → Int
  | 0 => 19
  | 1 => Fe.over1 c
  | 2 => Fe.over2 c
  | 3 => Fe.over3 c
  | 4 => Fe.over4 c
  | _ => Fe.over5 c
theorem ov_bd {c : Fe} (h : Fe.Low c) (k : Nat) : 0 ≤ ov c k ∧ ov c k ≤ 19 := by
  obtain ⟨n0, n1, n2, n3, n4, l0, l1, l2, l3, l4⟩ := h
  match k with
  | 0 => simp [ov]
  | 1 => simp only [ov, Fe.over1]; omega
  | 2 => simp only [ov, Fe.over2, Fe.over1]; omega
  | 3 => simp only [ov, Fe.over3, Fe.over2, Fe.over1]; omega
  | 4 => simp only [ov, Fe.over4, Fe.over3, Fe.over2, Fe.over1]; omega
  | n + 5 => simp only [ov, Fe.over5, Fe.over4, Fe.over3, Fe.over2, Fe.over1]; omega
def leastL (l0 l1 l2 l3 l4 x1 x2 x3 x4 : Int) : Nat → List Value
  | 0 => [.int .u64 l0, .int .u64 x1, .int .u64 x2, .int .u64 x3, .int .u64 x4]
  | 1 => [.int .u64 (l0 % 2251799813685248), .int .u64 l1, .int .u64 x2, .int .u64 x3, .int .u64 x4]
  | 2 => [.int .u64 (l0 % 2251799813685248), .int .u64 (l1 % 2251799813685248), .int .u64 l2, .int .u64 x3, .int .u64 x4]
  | 3 => [.int .u64 (l0 % 2251799813685248), .int .u64 (l1 % 2251799813685248), .int .u64 (l2 % 2251799813685248), .int .u64 l3, .int .u64 x4]
  | _ => [.int .u64 (l0 % 2251799813685248), .int .u64 (l1 % 2251799813685248), .int .u64 (l2 % 2251799813685248), .int .u64 (l3 % 2251799813685248), .int .u64 l4]

set_option maxHeartbeats 1600000 in
theorem least_any (a : Fe) (w : World) (ha : a.Ok) :
    Calls Tryd.prog 45 #[.agg #[.int .u64 a.x0, .int .u64 a.x1, .int .u64 a.x2, .int .u64 a.x3, .int .u64 a.x4]] w (FeOut (Fe.leastF a) w) := by
  have hg0 : ∀ c0 c1, w.grownBy ((w.alloc c0).alloc c1) none := fun c0 c1 => gb_alloc (gb_alloc (gb_refl _ _) _) _
  go_enter Tryd.func45, Tryd.ntmps45
  go_wp2_with (go_at_call 31; refine ((carry_fe a _ ha).mono fun _ _ => feOut_of).mono ?_; rintro e w1 ⟨c, hc, rfl, hg1⟩; have hg2 := gb_trans (hg0 _ _) hg1; have hR1 : Room5 w1 (w.heap.size + 1) 24 := Room5.grown ⟨_, _, _, _, _, Blk.newAt _ [.int .u64 0, .int .u64 0, .int .u64 0, .int .u64 0, .int .u64 0] _ (by simp)⟩ hg1 (by simp); have hA1 := Blk.grown (Blk.alloc (Blk.new w [.int .u64 a.x0, .int .u64 a.x1, .int .u64 a.x2, .int .u64 a.x3, .int .u64 a.x4] 24) _) hg1 (by simp); have z0 := hA1.cell (i := 0) rfl; have z1 := hA1.cell (i := 1) rfl; have z2 := hA1.cell (i := 2) rfl; have z3 := hA1.cell (i := 3) rfl; have z4 := hA1.cell (i := 4) rfl; have y0 := hA1.free 0; have y1 := hA1.free 1; have y2 := hA1.free 2; have y3 := hA1.free 3; have y4 := hA1.free 4)
  have hA2 : Blk (((((w1.setCell ⟨w.heap.size, 0, none⟩ (.int .u64 c.x0)).setCell ⟨w.heap.size, 1, none⟩ (.int .u64 c.x1)).setCell ⟨w.heap.size, 2, none⟩ (.int .u64 c.x2)).setCell ⟨w.heap.size, 3, none⟩ (.int .u64 c.x3)).setCell ⟨w.heap.size, 4, none⟩ (.int .u64 c.x4)) w.heap.size 24 [.int .u64 c.x0, .int .u64 c.x1, .int .u64 c.x2, .int .u64 c.x3, .int .u64 c.x4] := Room5.set5 ⟨_, _, _, _, _, hA1⟩ _ _ _ _ _
  have hR2 : Room5 (((((w1.setCell ⟨w.heap.size, 0, none⟩ (.int .u64 c.x0)).setCell ⟨w.heap.size, 1, none⟩ (.int .u64 c.x1)).setCell ⟨w.heap.size, 2, none⟩ (.int .u64 c.x2)).setCell ⟨w.heap.size, 3, none⟩ (.int .u64 c.x3)).setCell ⟨w.heap.size, 4, none⟩ (.int .u64 c.x4)) (w.heap.size + 1) 24 := room5_set (room5_set (room5_set (room5_set (room5_set hR1 (by simp) _) (by simp) _) (by simp) _) (by simp) _) (by simp) _
  have hg3 : w.grownBy (((((w1.setCell ⟨w.heap.size, 0, none⟩ (.int .u64 c.x0)).setCell ⟨w.heap.size, 1, none⟩ (.int .u64 c.x1)).setCell ⟨w.heap.size, 2, none⟩ (.int .u64 c.x2)).setCell ⟨w.heap.size, 3, none⟩ (.int .u64 c.x3)).setCell ⟨w.heap.size, 4, none⟩ (.int .u64 c.x4)) none := gb_set5 hg2 (Nat.le_refl _) _ _ _ _ _
  revert hA2 hR2 hg3
  clear hR1 hA1 z0 z1 z2 z3 z4 y0 y1 y2 y3 y4 hg1 hg2
  generalize (((((w1.setCell ⟨w.heap.size, 0, none⟩ (.int .u64 c.x0)).setCell ⟨w.heap.size, 1, none⟩ (.int .u64 c.x1)).setCell ⟨w.heap.size, 2, none⟩ (.int .u64 c.x2)).setCell ⟨w.heap.size, 3, none⟩ (.int .u64 c.x3)).setCell ⟨w.heap.size, 4, none⟩ (.int .u64 c.x4)) = W2
  intro hA2 hR2 hg3
  have hlow : Fe.Low c := by have e := hc.out; rw [e]; exact Fe.carry_low ha
  have hcr : Fe.Low c := hlow
  obtain ⟨n0, n1, n2, n3, n4, m0, m1, m2, m3, m4⟩ := hcr
  go_loop [10, 3] (fun i o => ∃ k : Nat, k ≤ 5 ∧ i = .int .i64 k ∧ o = .int .u64 (ov c k)) (fun i _ => 5 - (intOf i).toNat)
  case atStart => exact ⟨0, by omega, rfl, rfl⟩
  case round =>
    obtain ⟨k, hk, rfl, rfl⟩ := hrel
    rcases (show k = 0 ∨ k = 1 ∨ k = 2 ∨ k = 3 ∨ k = 4 ∨ k = 5 by omega) with rfl | rfl | rfl | rfl | rfl | rfl
    · have b0 := (ov_bd hlow 0).1
      have b1 := (ov_bd hlow 0).2
      have e0 := Lib.hid (show ov c 1 = (c.x0 + ov c 0) / 2251799813685248 from rfl)
      generalize ov c 0 = o at *
      have i0 : ∀ w, (Instr.index 24 (.agg #[.int .u64 c.x0, .int .u64 c.x1, .int .u64 c.x2, .int .u64 c.x3, .int .u64 c.x4]) (.int .i64 0)).run Tryd.prog w = .ok (.int .u64 c.x0) w := fun _ => by kernel_rfl
      go_wp2
      go_round
      case rel => exact ⟨1, by omega, rfl, by rw [e0.out]⟩
      case measure => simp [intOf]
    · have b0 := (ov_bd hlow 1).1
      have b1 := (ov_bd hlow 1).2
      have e0 := Lib.hid (show ov c 2 = (c.x1 + ov c 1) / 2251799813685248 from rfl)
      generalize ov c 1 = o at *
      have i0 : ∀ w, (Instr.index 24 (.agg #[.int .u64 c.x0, .int .u64 c.x1, .int .u64 c.x2, .int .u64 c.x3, .int .u64 c.x4]) (.int .i64 1)).run Tryd.prog w = .ok (.int .u64 c.x1) w := fun _ => by kernel_rfl
      go_wp2
      go_round
      case rel => exact ⟨2, by omega, rfl, by rw [e0.out]⟩
      case measure => simp [intOf]
    · have b0 := (ov_bd hlow 2).1
      have b1 := (ov_bd hlow 2).2
      have e0 := Lib.hid (show ov c 3 = (c.x2 + ov c 2) / 2251799813685248 from rfl)
      generalize ov c 2 = o at *
      have i0 : ∀ w, (Instr.index 24 (.agg #[.int .u64 c.x0, .int .u64 c.x1, .int .u64 c.x2, .int .u64 c.x3, .int .u64 c.x4]) (.int .i64 2)).run Tryd.prog w = .ok (.int .u64 c.x2) w := fun _ => by kernel_rfl
      go_wp2
      go_round
      case rel => exact ⟨3, by omega, rfl, by rw [e0.out]⟩
      case measure => simp [intOf]
    · have b0 := (ov_bd hlow 3).1
      have b1 := (ov_bd hlow 3).2
      have e0 := Lib.hid (show ov c 4 = (c.x3 + ov c 3) / 2251799813685248 from rfl)
      generalize ov c 3 = o at *
      have i0 : ∀ w, (Instr.index 24 (.agg #[.int .u64 c.x0, .int .u64 c.x1, .int .u64 c.x2, .int .u64 c.x3, .int .u64 c.x4]) (.int .i64 3)).run Tryd.prog w = .ok (.int .u64 c.x3) w := fun _ => by kernel_rfl
      go_wp2
      go_round
      case rel => exact ⟨4, by omega, rfl, by rw [e0.out]⟩
      case measure => simp [intOf]
    · have b0 := (ov_bd hlow 4).1
      have b1 := (ov_bd hlow 4).2
      have e0 := Lib.hid (show ov c 5 = (c.x4 + ov c 4) / 2251799813685248 from rfl)
      generalize ov c 4 = o at *
      have i0 : ∀ w, (Instr.index 24 (.agg #[.int .u64 c.x0, .int .u64 c.x1, .int .u64 c.x2, .int .u64 c.x3, .int .u64 c.x4]) (.int .i64 4)).run Tryd.prog w = .ok (.int .u64 c.x4) w := fun _ => by kernel_rfl
      go_wp2
      go_round
      case rel => exact ⟨5, by omega, rfl, by rw [e0.out]⟩
      case measure => simp [intOf]
    · have b0 := (ov_bd hlow 5).1
      have b1 := (ov_bd hlow 5).2
      have HO : Hid (ov c 5 = Fe.over5 c) := Lib.hid rfl
      generalize ov c 5 = o at *
      have z0 := hA2.cell (i := 0) rfl
      have y0 := hA2.free 0
      go_wp2
      have hA3 := hA2.set 0 (.int .u64 (c.x0 + 19 * o))
      have hR3 := room5_set hR2 (p := ⟨w.heap.size, 0, none⟩) (by simp) (.int .u64 (c.x0 + 19 * o))
      have hg4 := gb_set_new hg3 (p := ⟨w.heap.size, 0, none⟩) (Nat.le_refl _) (.int .u64 (c.x0 + 19 * o))
      have q0 : 0 ≤ c.x0 + 19 * o ∧ c.x0 + 19 * o < 4503599627370496 := by omega
      have HL0 : Hid (Fe.low0 c = c.x0 + 19 * o) := Lib.hid (by unfold Fe.low0; rw [← HO.out])
      clear hA2 hR2 hg3 z0 y0
      revert hA3 hR3 hg4
      generalize W2.setCell ⟨w.heap.size, 0, none⟩ (.int .u64 (c.x0 + 19 * o)) = W3
      generalize c.x0 + 19 * o = l0 at *
      obtain ⟨q00, q01⟩ := q0
      intro hA3 hR3 hg4
      obtain ⟨l1, h1⟩ : ∃ l, c.x1 + l0 / 2251799813685248 = l := ⟨_, rfl⟩
      have q10 : 0 ≤ l1 := by omega
      have q11 : l1 < 4503599627370496 := by omega
      have H1 := Lib.hid h1; clear h1
      obtain ⟨l2, h2⟩ : ∃ l, c.x2 + l1 / 2251799813685248 = l := ⟨_, rfl⟩
      have q20 : 0 ≤ l2 := by omega
      have q21 : l2 < 4503599627370496 := by omega
      have H2 := Lib.hid h2; clear h2
      obtain ⟨l3, h3⟩ : ∃ l, c.x3 + l2 / 2251799813685248 = l := ⟨_, rfl⟩
      have q30 : 0 ≤ l3 := by omega
      have q31 : l3 < 4503599627370496 := by omega
      have H3 := Lib.hid h3; clear h3
      obtain ⟨l4, h4⟩ : ∃ l, c.x4 + l3 / 2251799813685248 = l := ⟨_, rfl⟩
      have q40 : 0 ≤ l4 := by omega
      have q41 : l4 < 4503599627370496 := by omega
      have H4 := Lib.hid h4; clear h4
      go_loopw [24] (fun i wr => ∃ k : Nat, k ≤ 4 ∧ i = .int .i64 k ∧ w.grownBy wr none ∧ Blk wr w.heap.size 24 (leastL l0 l1 l2 l3 l4 c.x1 c.x2 c.x3 c.x4 k) ∧ Room5 wr (w.heap.size + 1) 24) (fun i _ => 4 - (intOf i).toNat)
      case atStart => exact ⟨0, by omega, rfl, hg4, hA3, hR3⟩
      case round =>
        obtain ⟨k, hk, rfl, hg, hA, hR⟩ := hrel
        clear hA3 hR3 hg4
        rcases (show k = 0 ∨ k = 1 ∨ k = 2 ∨ k = 3 ∨ k = 4 by omega) with rfl | rfl | rfl | rfl | rfl
        · have hB := hA
          unfold leastL at hB
          have z0 := hB.cell (i := 0) rfl
          have z1 := hB.cell (i := 1) rfl
          have f0 := hB.free 0
          have f1 := hB.free 1
          go_wp2
          go_region
          go_wp2
          rw [mask51 l0 (by omega) (by omega), H1.out]
          go_roundw
          case rel => exact ⟨1, by omega, rfl, gb_set_new (gb_set_new (gb_drew hg) (Nat.le_refl _) _) (Nat.le_refl _) _, ((hB.drew).set 1 (.int .u64 l1)).set 0 (.int .u64 (l0 % 2251799813685248)), room5_set (room5_set (hR.grown (gb_drew (gb_refl _ none)) (by simp)) (by simp) _) (by simp) _⟩
          case measure => simp [intOf]
        · have hB := hA
          unfold leastL at hB
          have z0 := hB.cell (i := 1) rfl
          have z1 := hB.cell (i := 2) rfl
          have f0 := hB.free 1
          have f1 := hB.free 2
          go_wp2
          go_region
          go_wp2
          rw [mask51 l1 (by omega) (by omega), H2.out]
          go_roundw
          case rel => exact ⟨2, by omega, rfl, gb_set_new (gb_set_new (gb_drew hg) (Nat.le_refl _) _) (Nat.le_refl _) _, ((hB.drew).set 2 (.int .u64 l2)).set 1 (.int .u64 (l1 % 2251799813685248)), room5_set (room5_set (hR.grown (gb_drew (gb_refl _ none)) (by simp)) (by simp) _) (by simp) _⟩
          case measure => simp [intOf]
        · have hB := hA
          unfold leastL at hB
          have z0 := hB.cell (i := 2) rfl
          have z1 := hB.cell (i := 3) rfl
          have f0 := hB.free 2
          have f1 := hB.free 3
          go_wp2
          go_region
          go_wp2
          rw [mask51 l2 (by omega) (by omega), H3.out]
          go_roundw
          case rel => exact ⟨3, by omega, rfl, gb_set_new (gb_set_new (gb_drew hg) (Nat.le_refl _) _) (Nat.le_refl _) _, ((hB.drew).set 3 (.int .u64 l3)).set 2 (.int .u64 (l2 % 2251799813685248)), room5_set (room5_set (hR.grown (gb_drew (gb_refl _ none)) (by simp)) (by simp) _) (by simp) _⟩
          case measure => simp [intOf]
        · have hB := hA
          unfold leastL at hB
          have z0 := hB.cell (i := 3) rfl
          have z1 := hB.cell (i := 4) rfl
          have f0 := hB.free 3
          have f1 := hB.free 4
          go_wp2
          go_region
          go_wp2
          rw [mask51 l3 (by omega) (by omega), H4.out]
          go_roundw
          case rel => exact ⟨4, by omega, rfl, gb_set_new (gb_set_new (gb_drew hg) (Nat.le_refl _) _) (Nat.le_refl _) _, ((hB.drew).set 4 (.int .u64 l4)).set 3 (.int .u64 (l3 % 2251799813685248)), room5_set (room5_set (hR.grown (gb_drew (gb_refl _ none)) (by simp)) (by simp) _) (by simp) _⟩
          case measure => simp [intOf]
        · have hB := hA
          unfold leastL at hB
          have z0 := hB.cell (i := 0) rfl
          have z1 := hB.cell (i := 1) rfl
          have z2 := hB.cell (i := 2) rfl
          have z3 := hB.cell (i := 3) rfl
          have z4 := hB.cell (i := 4) rfl
          have y4 := hB.free 4
          obtain ⟨u0, u1, u2, u3, u4, hR1⟩ := hR
          have t0 := hR1.cell (i := 0) rfl
          have t1 := hR1.cell (i := 1) rfl
          have t2 := hR1.cell (i := 2) rfl
          have t3 := hR1.cell (i := 3) rfl
          have t4 := hR1.cell (i := 4) rfl
          have v0 := hR1.free 0
          have v1 := hR1.free 1
          have v2 := hR1.free 2
          have v3 := hR1.free 3
          have v4 := hR1.free 4
          go_wp2
          rw [mask51 l4 (by omega) (by omega)]
          refine bodyPost_ret (v := .agg #[.int .u64 (l0 % 2251799813685248), .int .u64 (l1 % 2251799813685248), .int .u64 (l2 % 2251799813685248), .int .u64 (l3 % 2251799813685248), .int .u64 (l4 % 2251799813685248)]) ?_ rfl ⟨⟨l0 % 2251799813685248, l1 % 2251799813685248, l2 % 2251799813685248, l3 % 2251799813685248, l4 % 2251799813685248⟩, Lib.hid ?_, rfl, gb_set5 (gb_set_new hg (Nat.le_refl _) _) (by omega) _ _ _ _ _⟩
          · simp [results, Tryd.results45, go_sem, t0, t1, t2, t3, t4]
          · have e := hc.out
            have e1 : Fe.low1 c = l1 := by unfold Fe.low1; rw [HL0.out, H1.out]
            have e2 : Fe.low2 c = l2 := by unfold Fe.low2; rw [e1, H2.out]
            have e3 : Fe.low3 c = l3 := by unfold Fe.low3; rw [e2, H3.out]
            have e4 : Fe.low4 c = l4 := by unfold Fe.low4; rw [e3, H4.out]
            rw [← Fe.least_carry, ← e, Fe.least_is hlow, HL0.out, e1, e2, e3, e4]
end Go.Proofs.YtjgfhihngbhljaaDoor
