/- sha.spread: a block's eighty words. -/
import Derived.Test.YtabdegeaifajfaaGreatDoorShaWord
import Derived.Laws.Rows
import Derived.Deep.MidRow
import Derived.Deep.RegionWith
import Derived.StillTailTactics
import Derived.Deep.LoopGhost
namespace Go.Proofs.YtabdegeaifajfaaGreatDoor
open Go.RowKit

def u64V (n : Nat) : Value := .int .u64 (n : Int)
/-- the row's cells when t words are there -/
def rowCells (l : List Nat) (t : Nat) : List Value := (Sha.row l t).map u64V ++ List.replicate (80 - t) (u64V 0)
theorem row_length (l : List Nat) (t : Nat) : (Sha.row l t).length = t := by
  induction t with
  | zero => rfl
  | succ t ih => simp [Sha.row, ih]
theorem rowCells_length (l : List Nat) (t : Nat) (h : t ≤ 80) : (rowCells l t).length = 80 := by simp [rowCells, row_length]; omega
theorem rowCells_set (l : List Nat) (t : Nat) (h : t < 80) : (rowCells l t).set t (u64V (if t < 16 then Sha.wordAt l (8 * t) else Sha.more (Sha.row l t) t)) = rowCells l (t + 1) := by
  have hl : ((Sha.row l t).map u64V).length = t := by simp [row_length]
  unfold rowCells
  rw [List.set_append_right _ _ (by omega), hl, Nat.sub_self, show 80 - t = (80 - (t + 1)) + 1 by omega, List.replicate_succ, List.set_cons_zero, Sha.row]
  simp
theorem rowCells_get (l : List Nat) (t i : Nat) (h : i < t) : (rowCells l t)[i]? = some (u64V ((Sha.row l t).getD i 0)) := by
  unfold rowCells
  rw [List.getElem?_append_left (by simp [row_length]; exact h), List.getElem?_map]
  have hr := row_length l t
  rw [List.getElem?_eq_getElem (by omega)]
  simp [List.getElem?_eq_getElem (show i < (Sha.row l t).length by omega)]

def zeros : List Value := List.replicate 80 (u64V 0)
def zero80 : Array Value := zeros.toArray
theorem rowCells_zero (l : List Nat) : rowCells l 0 = zeros := rfl
theorem z67 (w : World) : (zeroValue 205).run Tryz.prog w = .ok (.agg zero80) w := by kernel_rfl
theorem rowCells_one (l : List Nat) (t : Nat) : (rowCells l t).toArray.all (·.oneCell') = true := by
  rw [Array.all_eq_true_iff_forall_mem]
  intro v hv
  unfold rowCells at hv
  rw [List.mem_toArray, List.mem_append] at hv
  rcases hv with hv | hv
  · obtain ⟨x, _, rfl⟩ := List.mem_map.1 hv; rfl
  · rw [(List.mem_replicate.1 hv).2]; rfl
theorem rowCells_80 (l : List Nat) : rowCells l 80 = (Sha.row l 80).map u64V := by simp [rowCells]
theorem getWord_at (b off n c j : Nat) (l : List Nat) (w : World) (hn : 8 ≤ n) (hl : ∀ i, l.getD i 0 < 256)
    (hc : ∀ i, i < 8 → w.cell? ⟨b, off + i, none⟩ = some (.int .u8 ((l.getD (j + i) 0 : Nat) : Int))) :
    Calls Tryz.prog 168 #[.slice (some ⟨b, off, none⟩) n c] w fun e w' => e = .returned (.int .u64 ((Sha.wordAt l j : Nat) : Int)) ∧ ∃ k, w' = w.drewN k := by
  have bd : ∀ i, 0 ≤ ((l.getD i 0 : Nat) : Int) ∧ ((l.getD i 0 : Nat) : Int) < 256 := fun i => by have := hl i; omega
  refine (shaGetWord_any b off n c ((l.getD j 0 : Nat) : Int) ((l.getD (j + 1) 0 : Nat) : Int) ((l.getD (j + 2) 0 : Nat) : Int) ((l.getD (j + 3) 0 : Nat) : Int) ((l.getD (j + 4) 0 : Nat) : Int) ((l.getD (j + 5) 0 : Nat) : Int) ((l.getD (j + 6) 0 : Nat) : Int) ((l.getD (j + 7) 0 : Nat) : Int) w hn (bd j).1 (bd j).2 (bd (j + 1)).1 (bd (j + 1)).2 (bd (j + 2)).1 (bd (j + 2)).2 (bd (j + 3)).1 (bd (j + 3)).2
    (bd (j + 4)).1 (bd (j + 4)).2 (bd (j + 5)).1 (bd (j + 5)).2 (bd (j + 6)).1 (bd (j + 6)).2 (bd (j + 7)).1 (bd (j + 7)).2
    (hc 0 (by decide)) (hc 1 (by decide)) (hc 2 (by decide)) (hc 3 (by decide)) (hc 4 (by decide)) (hc 5 (by decide)) (hc 6 (by decide)) (hc 7 (by decide))).mono fun e w' h => ⟨h.1.trans (ret64 ?_), h.2⟩
  unfold wordI Sha.wordAt
  simp only [Int.toNat_natCast]
theorem wordAt_lt (l : List Nat) (j : Nat) (hl : ∀ i, l.getD i 0 < 256) : Sha.wordAt l j < 18446744073709551616 :=
  word_lt _ _ _ _ _ _ _ _ (hl _) (hl _) (hl _) (hl _) (hl _) (hl _) (hl _) (hl _)
theorem row_lt (l : List Nat) (hl : ∀ i, l.getD i 0 < 256) (t : Nat) : ∀ i, (Sha.row l t).getD i 0 < 18446744073709551616 := by
  induction t with
  | zero => intro i; simp [Sha.row]
  | succ t ih =>
    intro i
    have hr := row_length l t
    rw [List.getD_eq_getElem?_getD] at *
    by_cases h : i < t
    · rw [Sha.row, List.getElem?_append_left (by omega), ← List.getD_eq_getElem?_getD]; exact ih i
    · rw [Sha.row, List.getElem?_append_right (by omega), hr]
      by_cases h2 : i = t
      · subst h2
        rw [Nat.sub_self]
        simp only [List.getElem?_cons_zero, Option.getD_some]
        split
        · exact wordAt_lt _ _ hl
        · exact Nat.mod_lt _ (by decide)
      · obtain ⟨m, hm⟩ : ∃ m, i - t = m + 1 := ⟨i - t - 1, by omega⟩
        rw [hm]; simp

/-- what the loops keep -/
def SpRel (w wr : World) (l : List Nat) (k : Nat) : Prop :=
  w.grownBy wr none ∧ Blk wr (w.heap.size + 1) 205 (rowCells l k) ∧ Blk wr w.heap.size 205 zeros

theorem SpRel.step1 {w wr : World} {l : List Nat} {k : Nat} (h : SpRel w wr l k) (n : Nat) (hk : k < 16) :
    SpRel w ((wr.drewN n).setCell ⟨w.heap.size + 1, k, none⟩ (.int .u64 ((Sha.wordAt l (8 * k) : Nat) : Int))) l (k + 1) := by
  obtain ⟨h1, h2, h3⟩ := h
  refine ⟨gb_set_new (gb_drewN h1 n) (by simp) _, ?_, (h3.drewN n).other (by simp) _⟩
  have := (h2.drewN n).set k (u64V (Sha.wordAt l (8 * k)))
  rw [← rowCells_set l k (by omega), if_pos hk]; exact this
theorem more_is (l : List Nat) (k : Nat) (x2 x7 x15 x16 : Int) (h2 : x2 = (((Sha.row l k).getD (k - 2) 0 : Nat) : Int)) (h7 : x7 = (((Sha.row l k).getD (k - 7) 0 : Nat) : Int))
    (h15 : x15 = (((Sha.row l k).getD (k - 15) 0 : Nat) : Int)) (h16 : x16 = (((Sha.row l k).getD (k - 16) 0 : Nat) : Int)) :
    IntKind.u64.wrap (IntKind.u64.wrap (IntKind.u64.wrap (ss1I x2 + x7) + ss0I x15) + x16) = ((Sha.more (Sha.row l k) k : Nat) : Int) := by
  subst h2 h7 h15 h16
  unfold ss1I ss0I Sha.more
  simp only [IntKind.wrap_u64, Int.toNat_natCast]
  generalize Sha.ss1 ((Sha.row l k).getD (k - 2) 0) = a
  generalize (Sha.row l k).getD (k - 7) 0 = b
  generalize Sha.ss0 ((Sha.row l k).getD (k - 15) 0) = c
  generalize (Sha.row l k).getD (k - 16) 0 = d
  omega
theorem SpRel.step2 {w wr : World} {l : List Nat} {k : Nat} (h : SpRel w wr l k) (hk : 16 ≤ k) (hk2 : k < 80) (x : Int) (hx : x = ((Sha.more (Sha.row l k) k : Nat) : Int)) :
    SpRel w ((wr.drew).setCell ⟨w.heap.size + 1, k, none⟩ (.int .u64 x)) l (k + 1) := by
  subst hx
  obtain ⟨h1, h2, h3⟩ := h
  refine ⟨gb_set_new (gb_drew h1) (by simp) _, ?_, (h3.drew).other (by simp) _⟩
  have := (h2.drew).set k (u64V (Sha.more (Sha.row l k) k))
  rw [← rowCells_set l k hk2, if_neg (by omega)]; exact this

set_option maxRecDepth 10000 in
set_option maxHeartbeats 1600000 in
theorem spread_any (b off c : Nat) (l : List Nat) (w : World) (hcap : 128 ≤ c) (hl : ∀ i, l.getD i 0 < 256)
    (hc : ∀ i, i < 128 → w.cell? ⟨b, off + i, none⟩ = some (.int .u8 ((l.getD i 0 : Nat) : Int))) :
    Calls Tryz.prog 154 #[.slice (some ⟨b, off, none⟩) 128 c] w fun e w' => e = .returned (.agg (rowCells l 80).toArray) ∧ w.grownBy w' none := by
  have hz := z67
  have hbw : b < w.heap.size := block_lt_of_cell (hc 0 (by decide))
  have HC := Lib.hid hc; clear hc
  have HL := Lib.hid hl; clear hl
  go_enter Tryz.func154, Tryz.ntmps154
  go_wp2
  clear hz
  go_loopw [6] (fun i wr => ∃ k : Nat, k ≤ 16 ∧ i = .int .i64 k ∧ SpRel w wr l k) (fun i _ => 16 - (intOf i).toNat)
  case atStart => exact ⟨0, by omega, rfl, gb_alloc (gb_alloc (gb_refl _ _) _) _, by
      have h2 := Blk.new (w.alloc (.cells zero80 205)) zeros 205
      rw [World.size_alloc] at h2; exact h2, (Blk.new w zeros 205).alloc _⟩
  case round =>
    obtain ⟨k, hk, rfl, hR⟩ := hrel
    by_cases hlt : k < 16
    · have h8 : 8 * (k : Int) ≤ 128 := by omega
      have h8c : 8 * (k : Int) < (c : Int) := by omega
      have hB := hR.2.1
      have hfr := hB.free k
      obtain ⟨v0, hv0⟩ : ∃ v, wr.cell? ⟨w.heap.size + 1, k, none⟩ = some v := ⟨_, hB.cell (List.getElem?_eq_getElem (by rw [rowCells_length l k (by omega)]; omega))⟩
      have HR := Lib.hid hR; clear hR hB
      have hcw : ∀ i, i < 8 → wr.cell? ⟨b, off + 8 * k + i, none⟩ = some (.int .u8 ((l.getD (8 * k + i) 0 : Nat) : Int)) := fun i hi => by
        rw [gb_cell HR.out.1 (p := ⟨b, off + 8 * k + i, none⟩) hbw (by simp), Nat.add_assoc]; exact HC.out _ (by omega)
      have HCW := Lib.hid hcw; clear hcw
      go_wp2_with fail
      refine (getWord_at b (off + 8 * k) _ _ (8 * k) l wr (by omega) HL.out HCW.out).mono ?_
      rintro e w' ⟨rfl, n1, rfl⟩
      go_wp2
      go_roundw
      case rel => exact ⟨k + 1, by omega, by go_num, SpRel.step1 HR.out n1 hlt⟩
      case measure => simp [intOf]; omega
    · obtain rfl : k = 16 := by omega
      clear hlt hk
      go_wp2
      go_loopw [5] (fun i ws => ∃ k : Nat, 16 ≤ k ∧ k ≤ 80 ∧ i = .int .i64 k ∧ SpRel w ws l k) (fun i _ => 80 - (intOf i).toNat)
      case atStart => exact ⟨16, by omega, by omega, rfl, hR⟩
      case round =>
        obtain ⟨k, hk1, hk2, rfl, hS⟩ := hrel
        clear hR
        by_cases hlt : k < 80
        · have hB := hS.2.1
          have hfr := hB.free k
          obtain ⟨v0, hv0⟩ : ∃ v, wr.cell? ⟨w.heap.size + 1, k, none⟩ = some v := ⟨_, hB.cell (List.getElem?_eq_getElem (by rw [rowCells_length l k (by omega)]; omega))⟩
          have c2 := hB.cell (rowCells_get l k (k - 2) (by omega))
          have c7 := hB.cell (rowCells_get l k (k - 7) (by omega))
          have c15 := hB.cell (rowCells_get l k (k - 15) (by omega))
          have c16 := hB.cell (rowCells_get l k (k - 16) (by omega))
          obtain ⟨x2, h2⟩ : ∃ x : Int, x = (((Sha.row l k).getD (k - 2) 0 : Nat) : Int) := ⟨_, rfl⟩
          obtain ⟨x7, h7⟩ : ∃ x : Int, x = (((Sha.row l k).getD (k - 7) 0 : Nat) : Int) := ⟨_, rfl⟩
          obtain ⟨x15, h15⟩ : ∃ x : Int, x = (((Sha.row l k).getD (k - 15) 0 : Nat) : Int) := ⟨_, rfl⟩
          obtain ⟨x16, h16⟩ : ∃ x : Int, x = (((Sha.row l k).getD (k - 16) 0 : Nat) : Int) := ⟨_, rfl⟩
          unfold u64V at c2 c7 c15 c16
          rw [← h2] at c2; rw [← h7] at c7; rw [← h15] at c15; rw [← h16] at c16
          have b2 : 0 ≤ x2 ∧ x2 < 18446744073709551616 := by have := row_lt l HL.out k (k - 2); omega
          have b7 : 0 ≤ x7 ∧ x7 < 18446744073709551616 := by have := row_lt l HL.out k (k - 7); omega
          have b15 : 0 ≤ x15 ∧ x15 < 18446744073709551616 := by have := row_lt l HL.out k (k - 15); omega
          have b16 : 0 ≤ x16 ∧ x16 < 18446744073709551616 := by have := row_lt l HL.out k (k - 16); omega
          obtain ⟨b2, b2'⟩ := b2; obtain ⟨b7, b7'⟩ := b7; obtain ⟨b15, b15'⟩ := b15; obtain ⟨b16, b16'⟩ := b16
          have HS := Lib.hid hS; clear hS hB
          have H2 := Lib.hid h2; clear h2
          have H7 := Lib.hid h7; clear h7
          have H15 := Lib.hid h15; clear h15
          have H16 := Lib.hid h16; clear h16
          have w2 : IntKind.i64.wrap ((k : Int) - 2) = (k : Int) - 2 := IntWalk.i64_in _ (by omega)
          have p2 : (2 : Int) ≤ (k : Int) := by omega
          have q2 : (k : Int) - 2 < 80 := by omega
          have t2 : ((k : Int) - 2).toNat = k - 2 := by omega
          have w7 : IntKind.i64.wrap ((k : Int) - 7) = (k : Int) - 7 := IntWalk.i64_in _ (by omega)
          have p7 : (7 : Int) ≤ (k : Int) := by omega
          have q7 : (k : Int) - 7 < 80 := by omega
          have t7 : ((k : Int) - 7).toNat = k - 7 := by omega
          have w15 : IntKind.i64.wrap ((k : Int) - 15) = (k : Int) - 15 := IntWalk.i64_in _ (by omega)
          have p15 : (15 : Int) ≤ (k : Int) := by omega
          have q15 : (k : Int) - 15 < 80 := by omega
          have t15 : ((k : Int) - 15).toNat = k - 15 := by omega
          have w16 : IntKind.i64.wrap ((k : Int) - 16) = (k : Int) - 16 := IntWalk.i64_in _ (by omega)
          have p16 : (16 : Int) ≤ (k : Int) := by omega
          have q16 : (k : Int) - 16 < 80 := by omega
          have t16 : ((k : Int) - 16).toNat = k - 16 := by omega
          have p0 : 0 ≤ (k : Int) := by omega
          have q0 : (k : Int) < 80 := by omega
          go_wp2_with fail
          refine wp_region_still_tail 23 (by kernel_rfl) (by kernel_rfl) ?_
          change wpStill _ _ wr.drew _ _ _
          simp only [List.take_succ_cons, List.take_zero, List.drop_succ_cons, List.drop_zero]
          iterate 5 still_step
          still_call ((smallOne_any x2 _ b2 b2').mono fun e w' h => ⟨h.1, h.2.symm⟩)
          iterate 9 still_step
          still_call ((smallZero_any x15 _ b15 b15').mono fun e w' h => ⟨h.1, h.2.symm⟩)
          repeat still_step
          refine wpStill_nil ?_
          go_wp2
          go_roundw
          case rel => (repeat apply Exists.intro); exact ⟨⟨k + 1, by omega, by omega, by go_num, SpRel.step2 HS.out (by omega) hlt _ (more_is l k _ _ _ _ H2.out H7.out H15.out H16.out)⟩, rfl⟩
          case measure => simp [intOf]; omega
        · obtain rfl : k = 80 := by omega
          clear hlt hk1 hk2
          have HS := Lib.hid hS; clear hS
          go_wp2_with (first | (refine wpList_load_row rfl 205 _ rfl (w.heap.size + 1) rfl 205 (rowCells l 80).toArray (0, 0) _ HS.out.2.1 Tryz.underlying205 rfl (by rw [List.size_toArray, rowCells_length l 80 (by omega)]; kernel_rfl) ?_) | (refine wpList_store_row rfl 205 _ _ rfl w.heap.size (rowCells l 80).toArray rfl rfl 205 zeros.toArray HS.out.2.2 (by rw [List.size_toArray, rowCells_length l 80 (by omega)]; kernel_rfl) (by rw [List.size_toArray, List.size_toArray, rowCells_length l 80 (by omega)]; rfl) (rowCells_one l 80) ?_))
          refine bodyPost_ret (v := .agg (rowCells l 80).toArray) (results_cell_row Tryz.results154 _ _ w.heap.size 205 (rowCells l 80).toArray (0, 0) _ rfl (HS.out.2.2.row (rowCells l 80)) Tryz.underlying205 rfl (by rw [List.size_toArray, rowCells_length l 80 (by omega)]; kernel_rfl)) rfl ⟨rfl, gb_setRow HS.out.1 (Nat.le_refl _) _⟩
end Go.Proofs.YtabdegeaifajfaaGreatDoor
