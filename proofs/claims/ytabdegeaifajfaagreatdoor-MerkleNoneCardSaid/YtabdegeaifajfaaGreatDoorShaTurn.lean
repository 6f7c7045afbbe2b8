/- sha's words.turn: a block turns the eight words. -/
import Derived.Test.YtabdegeaifajfaaGreatDoorShaSpread
namespace Go.Proofs.YtabdegeaifajfaaGreatDoor
open Go.RowKit

/-- the eight words' bounds -/
structure SB (s : Sha.S) : Prop where
  a : s.a < 18446744073709551616
  b : s.b < 18446744073709551616
  c : s.c < 18446744073709551616
  d : s.d < 18446744073709551616
  e : s.e < 18446744073709551616
  f : s.f < 18446744073709551616
  g : s.g < 18446744073709551616
  h : s.h < 18446744073709551616
theorem SB.rnd {s : Sha.S} (h : SB s) (k w : Nat) : SB (Sha.rnd k w s) :=
  ⟨Nat.mod_lt _ (by decide), h.a, h.b, h.c, Nat.mod_lt _ (by decide), h.e, h.f, h.g⟩
theorem SB.rnds {s : Sha.S} (h : SB s) (ws : List Nat) (t : Nat) : SB (Sha.rnds ws s t) := by
  induction t with
  | zero => exact h
  | succ t ih => exact ih.rnd _ _
theorem SB.plus (s t : Sha.S) : SB (Sha.plus s t) :=
  ⟨Nat.mod_lt _ (by decide), Nat.mod_lt _ (by decide), Nat.mod_lt _ (by decide), Nat.mod_lt _ (by decide), Nat.mod_lt _ (by decide), Nat.mod_lt _ (by decide), Nat.mod_lt _ (by decide), Nat.mod_lt _ (by decide)⟩
theorem SB.turn (s : Sha.S) (l : List Nat) : SB (Sha.turn s l) := SB.plus _ _
theorem SB.first : SB Sha.first := ⟨by decide, by decide, by decide, by decide, by decide, by decide, by decide, by decide⟩
theorem K_lt (t : Nat) : Sha.K.getD t 0 < 18446744073709551616 := by
  have all : ∀ x ∈ Sha.K, x < 18446744073709551616 := by decide +kernel
  by_cases h : t < Sha.K.length
  · rw [List.getD_eq_getElem?_getD, List.getElem?_eq_getElem h]; exact all _ (List.getElem_mem h)
  · rw [List.getD_eq_getElem?_getD, List.getElem?_eq_none (by omega)]; decide

/-- The package's two tables, in memory. -/
structure Tables (w : World) : Prop where
  k : ∀ t, t < 80 → w.cell? ⟨3, t, none⟩ = some (u64V (Sha.K.getD t 0))
  h : ∀ t, t < 8 → w.cell? ⟨0, t, none⟩ = some (u64V (Sha.H0.getD t 0))
theorem Tables.lt {w : World} (h : Tables w) : 0 + 3 < w.heap.size := block_lt_of_cell (h.k 0 (by decide))
theorem Tables.kept {w w' : World} {row : Option Nat} (h : Tables w) (hg : w.grownBy w' row) (hr : ∀ b, row = some b → 0 + 3 + 1 ≤ b) : Tables w' := by
  have hl := h.lt
  refine ⟨fun t ht => ?_, fun t ht => ?_⟩
  · rw [gb_cell hg (p := ⟨3, t, none⟩) hl (by intro e; have := hr 3 e.symm; omega)]; exact h.k t ht
  · rw [gb_cell hg (p := ⟨0, t, none⟩) (by show 0 < _; omega) (by intro e; have := hr 0 e.symm; omega)]; exact h.h t ht

theorem Tables.drew {w : World} (h : Tables w) : Tables w.drew := ⟨h.k, h.h⟩
/-- the words in a hash's block -/
def wordsV (s : Sha.S) : List Value := [u64V s.a, u64V s.b, u64V s.c, u64V s.d, u64V s.e, u64V s.f, u64V s.g, u64V s.h]

theorem t1_is (h e f g k w : Nat) :
    IntKind.u64.wrap (IntKind.u64.wrap (IntKind.u64.wrap (IntKind.u64.wrap ((h : Int) + bs1I (e : Int)) + chI (e : Int) (f : Int) (g : Int)) + (k : Int)) + (w : Int)) = (((h + Sha.bs1 e + Sha.ch e f g + k + w) % 18446744073709551616 : Nat) : Int) := by
  unfold bs1I chI
  simp only [IntKind.wrap_u64, Int.toNat_natCast]
  generalize Sha.bs1 e = x
  generalize Sha.ch e f g = y
  omega
theorem t2_is (a b c : Nat) :
    IntKind.u64.wrap (bs0I (a : Int) + mjI (a : Int) (b : Int) (c : Int)) = (((Sha.bs0 a + Sha.mj a b c) % 18446744073709551616 : Nat) : Int) := by
  unfold bs0I mjI
  simp only [IntKind.wrap_u64, Int.toNat_natCast]
  omega
theorem add_is (a b : Nat) : IntKind.u64.wrap ((a : Int) + (b : Int)) = (((a + b) % 18446744073709551616 : Nat) : Int) := by
  simp only [IntKind.wrap_u64]
  omega

structure Next (ws : List Nat) (s : Sha.S) (k kk ww : Nat) (r : Sha.S) : Prop where
  h : Sha.rnds ws s (k + 1) = Sha.rnd kk ww r
theorem rnds_next (ws : List Nat) (s : Sha.S) (k : Nat) : Next ws s k (Sha.K.getD k 0) (ws.getD k 0) (Sha.rnds ws s k) := ⟨rfl⟩
/-- what the rounds keep -/
structure TInv (w wr : World) (NB B T : Nat) (l : List Nat) (s : Sha.S) (R : List Value) : Prop where
  g : w.grownBy wr none
  row : Blk wr NB 205 (rowCells l 80)
  b : Blk wr B T (wordsV s ++ R)

set_option maxRecDepth 100000 in
set_option maxHeartbeats 1000000 in
theorem turn_any (B T b off c : Nat) (s : Sha.S) (R : List Value) (l : List Nat) (w : World) (hT : Tables w) (hs : SB s) (hcap : 128 ≤ c) (hl : ∀ i, l.getD i 0 < 256)
    (hb : Blk w B T (wordsV s ++ R))
    (hc : ∀ i, i < 128 → w.cell? ⟨b, off + i, none⟩ = some (.int .u8 ((l.getD i 0 : Nat) : Int))) :
    Calls Tryz.prog 139 #[.pointer (some ⟨B, 0, none⟩), .slice (some ⟨b, off, none⟩) 128 c] w fun e w' => e = .returned (.tuple #[]) ∧ w.grownBy w' (some B) ∧ Blk w' B T (wordsV (Sha.turn s l) ++ R) := by
  have hz := z67
  have HT := Lib.hid hT; clear hT
  have HS := Lib.hid hs; clear hs
  go_enter Tryz.func139, Tryz.ntmps139
  go_wp2_with fail
  refine (spread_any b off c l w hcap hl hc).mono ?_
  rintro e w1 ⟨rfl, hg1⟩
  have hb1 := hb.grown hg1 (by simp)
  have HG1 := Lib.hid hg1; clear hg1 hb hc
  have HL := Lib.hid hl; clear hl
  go_wp2_with (refine wpList_store_row rfl 205 _ _ rfl w1.heap.size (rowCells l 80).toArray rfl rfl 205 zeros.toArray (Blk.new w1 zeros 205) (by rw [List.size_toArray, rowCells_length l 80 (by omega)]; kernel_rfl) (by rw [List.size_toArray, List.size_toArray, rowCells_length l 80 (by omega)]; rfl) (rowCells_one l 80) ?_)
  clear hz
  obtain ⟨wq, hwq⟩ : ∃ wq, wq = (w1.alloc (.cells zero80 205)).setRow w1.heap.size (rowCells l 80).toArray := ⟨_, rfl⟩
  have hgq : w.grownBy wq none := by rw [hwq]; exact gb_setRow (gb_alloc HG1.out _) HG1.out.size _
  have hrq : Blk wq w1.heap.size 205 (rowCells l 80) := by rw [hwq]; exact (Blk.new w1 zeros 205).row _
  have hbq : Blk wq B T (wordsV s ++ R) := by rw [hwq]; exact (hb1.alloc _).rowOther (by have := hb1.lt; omega) _
  have hne : w1.heap.size ≠ B := by have := hb1.lt; omega
  have e : (w1.alloc (.cells zero80 205)).setRow w1.heap.size (rowCells l 80).toArray = wq := hwq.symm
  rw [e]
  clear e hwq hb1
  generalize w1.heap.size = NB at *
  have k0 := hbq.cell (i := 0) (v := u64V s.a) rfl
  have k1 := hbq.cell (i := 1) (v := u64V s.b) rfl
  have k2 := hbq.cell (i := 2) (v := u64V s.c) rfl
  have k3 := hbq.cell (i := 3) (v := u64V s.d) rfl
  have k4 := hbq.cell (i := 4) (v := u64V s.e) rfl
  have k5 := hbq.cell (i := 5) (v := u64V s.f) rfl
  have k6 := hbq.cell (i := 6) (v := u64V s.g) rfl
  have k7 := hbq.cell (i := 7) (v := u64V s.h) rfl
  unfold u64V at k0 k1 k2 k3 k4 k5 k6 k7
  have HQ := Lib.hid (And.intro hgq (And.intro hrq hbq)); clear hgq hrq hbq
  go_quiet (fail)
  clear k0 k1 k2 k3 k4 k5 k6 k7
  go_wp2
  go_loopw [5, 6, 7, 8, 9, 10, 11, 12, 50] (fun a b' c' d e f g h i wr => ∃ k : Nat, k ≤ 80 ∧ i = .int .i64 k ∧ a = .int .u64 (((Sha.rnds (Sha.row l 80) s k).a : Nat) : Int) ∧ b' = .int .u64 (((Sha.rnds (Sha.row l 80) s k).b : Nat) : Int) ∧ c' = .int .u64 (((Sha.rnds (Sha.row l 80) s k).c : Nat) : Int) ∧ d = .int .u64 (((Sha.rnds (Sha.row l 80) s k).d : Nat) : Int) ∧ e = .int .u64 (((Sha.rnds (Sha.row l 80) s k).e : Nat) : Int) ∧ f = .int .u64 (((Sha.rnds (Sha.row l 80) s k).f : Nat) : Int) ∧ g = .int .u64 (((Sha.rnds (Sha.row l 80) s k).g : Nat) : Int) ∧ h = .int .u64 (((Sha.rnds (Sha.row l 80) s k).h : Nat) : Int) ∧ TInv w wr NB B T l s R) (fun _ _ _ _ _ _ _ _ i _ => 80 - (intOf i).toNat)
  case atStart => exact ⟨0, by omega, rfl, rfl, rfl, rfl, rfl, rfl, rfl, rfl, rfl, ⟨gb_drewN HQ.out.1 _, HQ.out.2.1.drewN _, HQ.out.2.2.drewN _⟩⟩
  case round =>
    obtain ⟨k, hk, rfl, rfl, rfl, rfl, rfl, rfl, rfl, rfl, rfl, hI⟩ := hrel
    have HSB := Lib.hid (HS.out.rnds (Sha.row l 80) k)
    by_cases hlt : k < 80
    · have kK := ((HT.out.kept hI.g (by simp)).k k hlt)
      have kW := hI.row.cell (rowCells_get l 80 k hlt)
      unfold u64V at kK kW
      have HI := Lib.hid hI; clear hI
      have HN := rnds_next (Sha.row l 80) s k
      generalize Sha.rnds (Sha.row l 80) s k = r at *
      generalize Sha.K.getD k 0 = kk at *
      generalize (Sha.row l 80).getD k 0 = ww at *
      have p0 : 0 ≤ (k : Int) := by omega
      have q0 : (k : Int) < 80 := by omega
      have ea := i_bd _ HSB.out.a
      have eb := i_bd _ HSB.out.b
      have ec := i_bd _ HSB.out.c
      have ee := i_bd _ HSB.out.e
      have ef := i_bd _ HSB.out.f
      have eg := i_bd _ HSB.out.g
      go_wp2_with fail
      go_quiet ((first | (go_at_call 155; exact Calls.quiet_of_same ((bigOne_any _ _ ee.1 ee.2).mono fun e w' h => ⟨h.1, h.2.symm⟩)) | (go_at_call 156; exact Calls.quiet_of_same ((choose_any _ _ _ _ ee.1 ee.2 ef.1 ef.2 eg.1 eg.2).mono fun e w' h => ⟨h.1, h.2.symm⟩))))
      go_wp2_with (first | (go_at_call 157; refine (bigZero_any _ _ ea.1 ea.2).mono ?_; rintro e w' ⟨rfl, rfl⟩) | (go_at_call 158; refine (majority_any _ _ _ _ ea.1 ea.2 eb.1 eb.2 ec.1 ec.2).mono ?_; rintro e w' ⟨rfl, rfl⟩))
      rw [t1_is, t2_is, add_is, add_is]
      go_roundw
      case rel => exact ⟨k + 1, by omega, by go_num, by rw [HN.h]; rfl, by rw [HN.h]; rfl, by rw [HN.h]; rfl, by rw [HN.h]; rfl, by rw [HN.h]; rfl, by rw [HN.h]; rfl, by rw [HN.h]; rfl, by rw [HN.h]; rfl, ⟨gb_drewN HI.out.g _, HI.out.row.drewN _, HI.out.b.drewN _⟩⟩
      case measure => simp [intOf]; omega
    · obtain rfl : k = 80 := by omega
      clear hlt hk HSB
      have hb0 := hI.b
      have hg0 := gb_row hI.g (some B)
      clear hI
      generalize hr : Sha.rnds (Sha.row l 80) s 80 = r at *
      have HR := Lib.hid hr; clear hr
      have c0 := hb0.cell (i := 0) (v := u64V s.a) rfl
      have f0 := hb0.free 0
      unfold u64V at c0
      have HB0 := Lib.hid (And.intro hg0 hb0); clear hb0 hg0
      go_wp2_with fail
      refine wp_region_still_tail 8 (by kernel_rfl) (by kernel_rfl) ?_
      change wpStill _ _ (World.drew wr) _ _ _
      simp only [List.take_succ_cons, List.take_zero, List.drop_succ_cons, List.drop_zero]
      repeat still_step
      refine wpStill_nil ?_
      go_wp2_with fail
      rw [add_is]
      obtain ⟨v1, hv1⟩ : ∃ v, v = World.drew (World.setCell wr ⟨B, 0, none⟩ (.int .u64 (((s.a + r.a) % 18446744073709551616 : Nat) : Int))) := ⟨_, rfl⟩
      have hg1 : w.grownBy v1 (some B) := by rw [hv1]; exact gb_drew (gb_set HB0.out.1 _ _)
      have hb1 : Blk v1 B T ([u64V ((s.a + r.a) % 18446744073709551616), u64V s.b, u64V s.c, u64V s.d, u64V s.e, u64V s.f, u64V s.g, u64V s.h] ++ R) := by rw [hv1]; exact (HB0.out.2.set 0 (u64V _)).drew
      rw [← hv1]
      clear hv1 c0 f0
      have c1 := hb1.cell (i := 1) (v := u64V s.b) rfl
      have f1 := hb1.free 1
      unfold u64V at c1
      have HB1 := Lib.hid (And.intro hg1 hb1); clear hb1 hg1
      go_wp2_with fail
      refine wp_region_still_tail 8 (by kernel_rfl) (by kernel_rfl) ?_
      change wpStill _ _ (World.drew v1) _ _ _
      simp only [List.take_succ_cons, List.take_zero, List.drop_succ_cons, List.drop_zero]
      repeat still_step
      refine wpStill_nil ?_
      go_wp2_with fail
      rw [add_is]
      obtain ⟨v2, hv2⟩ : ∃ v, v = World.drew (World.setCell v1 ⟨B, 1, none⟩ (.int .u64 (((s.b + r.b) % 18446744073709551616 : Nat) : Int))) := ⟨_, rfl⟩
      have hg2 : w.grownBy v2 (some B) := by rw [hv2]; exact gb_drew (gb_set HB1.out.1 _ _)
      have hb2 : Blk v2 B T ([u64V ((s.a + r.a) % 18446744073709551616), u64V ((s.b + r.b) % 18446744073709551616), u64V s.c, u64V s.d, u64V s.e, u64V s.f, u64V s.g, u64V s.h] ++ R) := by rw [hv2]; exact (HB1.out.2.set 1 (u64V _)).drew
      rw [← hv2]
      clear hv2 c1 f1
      have c2 := hb2.cell (i := 2) (v := u64V s.c) rfl
      have f2 := hb2.free 2
      unfold u64V at c2
      have HB2 := Lib.hid (And.intro hg2 hb2); clear hb2 hg2
      go_wp2_with fail
      refine wp_region_still_tail 8 (by kernel_rfl) (by kernel_rfl) ?_
      change wpStill _ _ (World.drew v2) _ _ _
      simp only [List.take_succ_cons, List.take_zero, List.drop_succ_cons, List.drop_zero]
      repeat still_step
      refine wpStill_nil ?_
      go_wp2_with fail
      rw [add_is]
      obtain ⟨v3, hv3⟩ : ∃ v, v = World.drew (World.setCell v2 ⟨B, 2, none⟩ (.int .u64 (((s.c + r.c) % 18446744073709551616 : Nat) : Int))) := ⟨_, rfl⟩
      have hg3 : w.grownBy v3 (some B) := by rw [hv3]; exact gb_drew (gb_set HB2.out.1 _ _)
      have hb3 : Blk v3 B T ([u64V ((s.a + r.a) % 18446744073709551616), u64V ((s.b + r.b) % 18446744073709551616), u64V ((s.c + r.c) % 18446744073709551616), u64V s.d, u64V s.e, u64V s.f, u64V s.g, u64V s.h] ++ R) := by rw [hv3]; exact (HB2.out.2.set 2 (u64V _)).drew
      rw [← hv3]
      clear hv3 c2 f2
      have c3 := hb3.cell (i := 3) (v := u64V s.d) rfl
      have f3 := hb3.free 3
      unfold u64V at c3
      have HB3 := Lib.hid (And.intro hg3 hb3); clear hb3 hg3
      go_wp2_with fail
      refine wp_region_still_tail 8 (by kernel_rfl) (by kernel_rfl) ?_
      change wpStill _ _ (World.drew v3) _ _ _
      simp only [List.take_succ_cons, List.take_zero, List.drop_succ_cons, List.drop_zero]
      repeat still_step
      refine wpStill_nil ?_
      go_wp2_with fail
      rw [add_is]
      obtain ⟨v4, hv4⟩ : ∃ v, v = World.drew (World.setCell v3 ⟨B, 3, none⟩ (.int .u64 (((s.d + r.d) % 18446744073709551616 : Nat) : Int))) := ⟨_, rfl⟩
      have hg4 : w.grownBy v4 (some B) := by rw [hv4]; exact gb_drew (gb_set HB3.out.1 _ _)
      have hb4 : Blk v4 B T ([u64V ((s.a + r.a) % 18446744073709551616), u64V ((s.b + r.b) % 18446744073709551616), u64V ((s.c + r.c) % 18446744073709551616), u64V ((s.d + r.d) % 18446744073709551616), u64V s.e, u64V s.f, u64V s.g, u64V s.h] ++ R) := by rw [hv4]; exact (HB3.out.2.set 3 (u64V _)).drew
      rw [← hv4]
      clear hv4 c3 f3
      have c4 := hb4.cell (i := 4) (v := u64V s.e) rfl
      have f4 := hb4.free 4
      unfold u64V at c4
      have HB4 := Lib.hid (And.intro hg4 hb4); clear hb4 hg4
      go_wp2_with fail
      refine wp_region_still_tail 8 (by kernel_rfl) (by kernel_rfl) ?_
      change wpStill _ _ (World.drew v4) _ _ _
      simp only [List.take_succ_cons, List.take_zero, List.drop_succ_cons, List.drop_zero]
      repeat still_step
      refine wpStill_nil ?_
      go_wp2_with fail
      rw [add_is]
      obtain ⟨v5, hv5⟩ : ∃ v, v = World.drew (World.setCell v4 ⟨B, 4, none⟩ (.int .u64 (((s.e + r.e) % 18446744073709551616 : Nat) : Int))) := ⟨_, rfl⟩
      have hg5 : w.grownBy v5 (some B) := by rw [hv5]; exact gb_drew (gb_set HB4.out.1 _ _)
      have hb5 : Blk v5 B T ([u64V ((s.a + r.a) % 18446744073709551616), u64V ((s.b + r.b) % 18446744073709551616), u64V ((s.c + r.c) % 18446744073709551616), u64V ((s.d + r.d) % 18446744073709551616), u64V ((s.e + r.e) % 18446744073709551616), u64V s.f, u64V s.g, u64V s.h] ++ R) := by rw [hv5]; exact (HB4.out.2.set 4 (u64V _)).drew
      rw [← hv5]
      clear hv5 c4 f4
      have c5 := hb5.cell (i := 5) (v := u64V s.f) rfl
      have f5 := hb5.free 5
      unfold u64V at c5
      have HB5 := Lib.hid (And.intro hg5 hb5); clear hb5 hg5
      go_wp2_with fail
      refine wp_region_still_tail 8 (by kernel_rfl) (by kernel_rfl) ?_
      change wpStill _ _ (World.drew v5) _ _ _
      simp only [List.take_succ_cons, List.take_zero, List.drop_succ_cons, List.drop_zero]
      repeat still_step
      refine wpStill_nil ?_
      go_wp2_with fail
      rw [add_is]
      obtain ⟨v6, hv6⟩ : ∃ v, v = World.drew (World.setCell v5 ⟨B, 5, none⟩ (.int .u64 (((s.f + r.f) % 18446744073709551616 : Nat) : Int))) := ⟨_, rfl⟩
      have hg6 : w.grownBy v6 (some B) := by rw [hv6]; exact gb_drew (gb_set HB5.out.1 _ _)
      have hb6 : Blk v6 B T ([u64V ((s.a + r.a) % 18446744073709551616), u64V ((s.b + r.b) % 18446744073709551616), u64V ((s.c + r.c) % 18446744073709551616), u64V ((s.d + r.d) % 18446744073709551616), u64V ((s.e + r.e) % 18446744073709551616), u64V ((s.f + r.f) % 18446744073709551616), u64V s.g, u64V s.h] ++ R) := by rw [hv6]; exact (HB5.out.2.set 5 (u64V _)).drew
      rw [← hv6]
      clear hv6 c5 f5
      have c6 := hb6.cell (i := 6) (v := u64V s.g) rfl
      have f6 := hb6.free 6
      unfold u64V at c6
      have HB6 := Lib.hid (And.intro hg6 hb6); clear hb6 hg6
      go_wp2_with fail
      refine wp_region_still_tail 8 (by kernel_rfl) (by kernel_rfl) ?_
      change wpStill _ _ (World.drew v6) _ _ _
      simp only [List.take_succ_cons, List.take_zero, List.drop_succ_cons, List.drop_zero]
      repeat still_step
      refine wpStill_nil ?_
      go_wp2_with fail
      rw [add_is]
      obtain ⟨v7, hv7⟩ : ∃ v, v = World.drew (World.setCell v6 ⟨B, 6, none⟩ (.int .u64 (((s.g + r.g) % 18446744073709551616 : Nat) : Int))) := ⟨_, rfl⟩
      have hg7 : w.grownBy v7 (some B) := by rw [hv7]; exact gb_drew (gb_set HB6.out.1 _ _)
      have hb7 : Blk v7 B T ([u64V ((s.a + r.a) % 18446744073709551616), u64V ((s.b + r.b) % 18446744073709551616), u64V ((s.c + r.c) % 18446744073709551616), u64V ((s.d + r.d) % 18446744073709551616), u64V ((s.e + r.e) % 18446744073709551616), u64V ((s.f + r.f) % 18446744073709551616), u64V ((s.g + r.g) % 18446744073709551616), u64V s.h] ++ R) := by rw [hv7]; exact (HB6.out.2.set 6 (u64V _)).drew
      rw [← hv7]
      clear hv7 c6 f6
      have c7 := hb7.cell (i := 7) (v := u64V s.h) rfl
      have f7 := hb7.free 7
      unfold u64V at c7
      have HB7 := Lib.hid (And.intro hg7 hb7); clear hb7 hg7
      go_wp2_with fail
      refine wp_region_still_tail 8 (by kernel_rfl) (by kernel_rfl) ?_
      change wpStill _ _ (World.drew v7) _ _ _
      simp only [List.take_succ_cons, List.take_zero, List.drop_succ_cons, List.drop_zero]
      repeat still_step
      refine wpStill_nil ?_
      go_wp2_with fail
      rw [add_is]
      obtain ⟨v8, hv8⟩ : ∃ v, v = World.drew (World.setCell v7 ⟨B, 7, none⟩ (.int .u64 (((s.h + r.h) % 18446744073709551616 : Nat) : Int))) := ⟨_, rfl⟩
      have hg8 : w.grownBy v8 (some B) := by rw [hv8]; exact gb_drew (gb_set HB7.out.1 _ _)
      have hb8 : Blk v8 B T ([u64V ((s.a + r.a) % 18446744073709551616), u64V ((s.b + r.b) % 18446744073709551616), u64V ((s.c + r.c) % 18446744073709551616), u64V ((s.d + r.d) % 18446744073709551616), u64V ((s.e + r.e) % 18446744073709551616), u64V ((s.f + r.f) % 18446744073709551616), u64V ((s.g + r.g) % 18446744073709551616), u64V ((s.h + r.h) % 18446744073709551616)] ++ R) := by rw [hv8]; exact (HB7.out.2.set 7 (u64V _)).drew
      rw [← hv8]
      clear hv8 c7 f7
      go_end0
      refine ⟨rfl, hg8, ?_⟩
      show Blk v8 B T (wordsV (Sha.plus s (Sha.rnds (Sha.row l 80) s 80)) ++ R)
      rw [HR.out]
      exact hb8
end Go.Proofs.YtabdegeaifajfaaGreatDoor
