/- field: ofBytes, Get; and the law's small helpers. -/
import Derived.Test.YtjgfhihngbhljaaDoorFeRootW
namespace Go.Proofs.YtjgfhihngbhljaaDoor
open Go.RowKit

/-- an element of any number below 2^256: limbs of 51 bits, the highest one has the rest -/
def fromN (x : Int) : Fe := ⟨x % 2251799813685248, x / 2251799813685248 % 2251799813685248, x / 5070602400912917605986812821504 % 2251799813685248, x / 11417981541647679048466287755595961091061972992 % 2251799813685248, x / 25711008708143844408671393477458601640355247900524685364822016⟩
theorem fromN_V (x : Int) : Fe.V (fromN x) = x := by
  unfold fromN
  simp only [Fe.V]
  have e2 : x / 5070602400912917605986812821504 = x / 2251799813685248 / 2251799813685248 := by rw [Int.ediv_ediv_of_nonneg (by decide)]; rfl
  have e3 : x / 11417981541647679048466287755595961091061972992 = x / 2251799813685248 / 2251799813685248 / 2251799813685248 := by rw [Int.ediv_ediv_of_nonneg (by decide), Int.ediv_ediv_of_nonneg (by decide)]; rfl
  have e4 : x / 25711008708143844408671393477458601640355247900524685364822016 = x / 2251799813685248 / 2251799813685248 / 2251799813685248 / 2251799813685248 := by rw [Int.ediv_ediv_of_nonneg (by decide), Int.ediv_ediv_of_nonneg (by decide), Int.ediv_ediv_of_nonneg (by decide)]; rfl
  rw [e2, e3, e4]
  omega
theorem fromN_right {x : Int} (h0 : 0 ≤ x) (h1 : x < 2 ^ 256) : (fromN x).Right := by
  have e : (2 : Int) ^ 256 = 115792089237316195423570985008687907853269984665640564039457584007913129639936 := by decide
  rw [e] at h1
  unfold fromN
  constructor <;> dsimp only <;> omega
theorem fromN_m {x : Int} : (Fe.m (fromN x) : Int) = x % 57896044618658097711785492504343953926634992332820282019728792003956564819949 := by
  rw [Fe.m_cast, fromN_V]; rfl
theorem wordOf_shift (F : Nat → Int) (s : Nat) : ∀ k, wordOf F (s + k) = wordOf F s + wordOf (fun i => F (s + i)) k * 2 ^ (8 * s) := by
  intro k
  induction k with
  | zero => simp [wordOf]
  | succ k ih =>
    rw [show s + (k + 1) = s + k + 1 by omega, wordOf, ih, wordOf, Int.add_mul, show 8 * (s + k) = 8 * k + 8 * s by omega, Int.pow_add]
    rw [Int.mul_assoc (F (s + k)), ← Int.add_assoc]
theorem word4 (F : Nat → Int) : wordOf F 32 = wordOf F 8 + 18446744073709551616 * wordOf (fun i => F (8 + i)) 8 + 340282366920938463463374607431768211456 * wordOf (fun i => F (16 + i)) 8 + 6277101735386680763835789423207666416102355444464034512896 * wordOf (fun i => F (24 + i)) 8 := by
  have h1 := wordOf_shift F 24 8
  have h2 := wordOf_shift F 16 8
  have h3 := wordOf_shift F 8 8
  have p1 : (2 : Int) ^ (8 * 24) = 6277101735386680763835789423207666416102355444464034512896 := by decide
  have p2 : (2 : Int) ^ (8 * 16) = 340282366920938463463374607431768211456 := by decide
  have p3 : (2 : Int) ^ (8 * 8) = 18446744073709551616 := by decide
  rw [p1] at h1
  rw [p2] at h2
  rw [p3] at h3
  have e1 : wordOf F (24 + 8) = wordOf F 32 := rfl
  have e2 : wordOf F (16 + 8) = wordOf F 24 := rfl
  have e3 : wordOf F (8 + 8) = wordOf F 16 := rfl
  omega
/-- the limbs out of four words -/
theorem limbs_of (w0 w1 w2 w3 : Int) (a0 : 0 ≤ w0) (a1 : 0 ≤ w1) (a2 : 0 ≤ w2) (b0 : w0 < 18446744073709551616) (b1 : w1 < 18446744073709551616) (b2 : w2 < 18446744073709551616) :
    (⟨bits .and .u64 w0 2251799813685247, bits .and .u64 (bits .or .u64 (w0 / 2251799813685248) (IntKind.u64.wrap (w1 * 8192))) 2251799813685247, bits .and .u64 (bits .or .u64 (w1 / 274877906944) (IntKind.u64.wrap (w2 * 67108864))) 2251799813685247,
      bits .and .u64 (bits .or .u64 (w2 / 33554432) (IntKind.u64.wrap (w3 * 549755813888))) 2251799813685247, w3 / 4096⟩ : Fe) = fromN (w0 + 18446744073709551616 * w1 + 340282366920938463463374607431768211456 * w2 + 6277101735386680763835789423207666416102355444464034512896 * w3) := by
  rw [or_lem (w0 / 2251799813685248) w1 13 8192 2251799813685248 (by decide) (by decide) (by omega) (by omega) (by decide),
    or_lem (w1 / 274877906944) w2 26 67108864 274877906944 (by decide) (by decide) (by omega) (by omega) (by decide),
    or_lem (w2 / 33554432) w3 39 549755813888 33554432 (by decide) (by decide) (by omega) (by omega) (by decide),
    mask51 w0 a0 b0, mask51 _ (by omega) (by omega), mask51 _ (by omega) (by omega), mask51 _ (by omega) (by omega)]
  have hV := fromN_V (w0 + 18446744073709551616 * w1 + 340282366920938463463374607431768211456 * w2 + 6277101735386680763835789423207666416102355444464034512896 * w3)
  generalize hX : w0 + 18446744073709551616 * w1 + 340282366920938463463374607431768211456 * w2 + 6277101735386680763835789423207666416102355444464034512896 * w3 = X at *
  unfold fromN
  have e1 : X / 2251799813685248 = w0 / 2251799813685248 + 8192 * w1 + 151115727451828646838272 * w2 + 2787593149816327892691964784081045188247552 * w3 := by omega
  have e2 : X / 5070602400912917605986812821504 = w1 / 274877906944 + 67108864 * w2 + 1237940039285380274899124224 * w3 := by omega
  have e3 : X / 11417981541647679048466287755595961091061972992 = w2 / 33554432 + 549755813888 * w3 := by omega
  have e4 : X / 25711008708143844408671393477458601640355247900524685364822016 = w3 / 4096 := by omega
  rw [e1, e2, e3, e4]
  congr 1 <;> omega
set_option maxRecDepth 100000 in
set_option maxHeartbeats 1600000 in
theorem ofBytes_any (B : Nat) (F : Nat → Int) (w : World) (hf : ∀ i, 0 ≤ F i ∧ F i < 256) (hc : ∀ i, i < 32 → w.cell? ⟨B, i, none⟩ = some (.int .u8 (F i))) (hB : B < w.heap.size) :
    Calls Tryd.prog 50 #[.slice (some ⟨B, 0, none⟩) 32 32] w (FeOut (fromN (wordOf F 32)) w) := by
  have HC := Lib.hid hc; clear hc
  have HF := Lib.hid hf; clear hf
  have hXb : ∀ s, 0 ≤ wordOf (fun i => F (s + i)) 8 ∧ wordOf (fun i => F (s + i)) 8 < 18446744073709551616 := fun s => by
    have h := wordOf_bd (fun i => F (s + i)) (fun i => HF.out _) 8
    have h64 : (2 : Int) ^ (8 * 8) = 18446744073709551616 := by decide
    rw [h64] at h
    exact h
  have hN := word4 F
  have h0 : wordOf F 8 = wordOf (fun i => F (0 + i)) 8 := by simp
  rw [h0] at hN
  clear h0
  have g0 : ∀ s n W, 8 ≤ n → s + 8 ≤ 32 → (∀ i, i < 32 → W.cell? ⟨B, i, none⟩ = some (.int .u8 (F i))) → Calls Tryd.prog 56 #[.slice (some ⟨B, s, none⟩) n n] W fun e w' => e = .returned (.int .u64 (wordOf (fun i => F (s + i)) 8)) ∧ W = w' :=
    fun s n W hn hs h => getWord_any B s n n (fun i => F (s + i)) W hn (fun i => HF.out _) (fun i hi => h (s + i) (by omega))
  obtain ⟨X, hX⟩ : ∃ X : Nat → Int, ∀ s, X s = wordOf (fun i => F (s + i)) 8 := ⟨_, fun _ => rfl⟩
  simp only [← hX] at hXb hN g0
  clear hX
  have G := Lib.hid g0; clear g0
  have HN := Lib.hid hN; clear hN
  obtain ⟨p0, q0⟩ := hXb 0
  obtain ⟨p1, q1⟩ := hXb 8
  obtain ⟨p2, q2⟩ := hXb 16
  obtain ⟨p3, q3⟩ := hXb 24
  clear hXb
  have HL := Lib.hid (limbs_of (X 0) (X 8) (X 16) (X 24) p0 p1 p2 q0 q1 q2)
  go_enter Tryd.func50, Tryd.ntmps50
  go_wp2
  have hcell : ∀ i, i < 32 → (w.alloc (.cells #[.int .u64 0, .int .u64 0, .int .u64 0, .int .u64 0, .int .u64 0] 24)).drew.cell? ⟨B, i, none⟩ = some (.int .u8 (F i)) := fun i hi => by
    rw [gb_cell (gb_drew (gb_alloc (gb_refl w none) _)) (p := ⟨B, i, none⟩) hB (by simp)]; exact HC.out i hi
  have hR0 : Blk (w.alloc (.cells #[.int .u64 0, .int .u64 0, .int .u64 0, .int .u64 0, .int .u64 0] 24)).drew w.heap.size 24 [.int .u64 0, .int .u64 0, .int .u64 0, .int .u64 0, .int .u64 0] := (Blk.new w [.int .u64 0, .int .u64 0, .int .u64 0, .int .u64 0, .int .u64 0] _).drew
  have hg0 : w.grownBy (w.alloc (.cells #[.int .u64 0, .int .u64 0, .int .u64 0, .int .u64 0, .int .u64 0] 24)).drew none := gb_drew (gb_alloc (gb_refl w none) _)
  have HCE := Lib.hid hcell
  clear hcell
  revert HCE hR0 hg0
  generalize w.alloc (.cells #[.int .u64 0, .int .u64 0, .int .u64 0, .int .u64 0, .int .u64 0] 24) = W0
  intro hR0 hg0 HCE
  have HQ : ∀ n i, i < 32 → (W0.drewN n).cell? ⟨B, i, none⟩ = some (.int .u8 (F i)) := fun n i hi => HCE.out i hi
  have HQ2 := Lib.hid HQ; clear HQ
  go_quiet ((go_at_call 56; exact Calls.quiet_of_same ((G.out _ _ _ (by decide) (by decide) (HQ2.out _)).mono fun e w' h => ⟨h.1, h.2.symm⟩)))
  have hg1 : w.grownBy (W0.drewN nq) none := ⟨hg0.os, hg0.tape, hg0.output, hg0.size, hg0.block⟩
  have hR1 : Blk (W0.drewN nq) w.heap.size 24 [.int .u64 0, .int .u64 0, .int .u64 0, .int .u64 0, .int .u64 0] := hR0
  clear hR0 hg0
  have z0 := hR1.cell (i := 0) rfl
  have z1 := hR1.cell (i := 1) rfl
  have z2 := hR1.cell (i := 2) rfl
  have z3 := hR1.cell (i := 3) rfl
  have z4 := hR1.cell (i := 4) rfl
  have y0 := hR1.free 0
  have y1 := hR1.free 1
  have y2 := hR1.free 2
  have y3 := hR1.free 3
  have y4 := hR1.free 4
  go_wp2
  refine bodyPost_ret (v := (fromN (wordOf F 32)).v) ?_ rfl (feOut_of ⟨rfl, gb_set5 hg1 (Nat.le_refl _) _ _ _ _ _⟩)
  rw [HN.out, ← HL.out]
  simp [results, Tryd.results50, go_sem, z0, z1, z2, z3, z4, Fe.v]
end Go.Proofs.YtjgfhihngbhljaaDoor
