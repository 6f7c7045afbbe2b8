/- The kit's lent bytes: a copy with marks behind it; whether they were kept. -/
import Derived.Test.YtmnlidfalhjghaaGreatDoorOwn
import Derived.Test.YtmnlidfalhjghaaGreatDoorPart
import Derived.BigQuiet
import Derived.Deep.QuietTactic
import Derived.BigGuardPart
namespace Go.Proofs.YtmnlidfalhjghaaGreatDoor
open Go.RowKit Ow

/-- the mark of a place in a list of bytes -/
def mkB (k i : Nat) : Nat := (1000003 * (k + 7) + i) * 11400714819323198485 % 18446744073709551616 / 72057594037927936
theorem mkB_lt (k i : Nat) : mkB k i < 256 := by unfold mkB; omega
theorem mkB_is (k i : Nat) : IntKind.u64.wrap ((1000003 * ((k : Int) + 7) + (i : Int)) * 11400714819323198485) / 72057594037927936 % 256 = ((mkB k i : Nat) : Int) := by
  have e : (1000003 * ((k : Int) + 7) + (i : Int)) * 11400714819323198485 = (((1000003 * (k + 7) + i) * 11400714819323198485 : Nat) : Int) := by omega
  rw [e, IntKind.wrap_u64]
  unfold mkB
  generalize (1000003 * (k + 7) + i) * 11400714819323198485 = x
  omega
set_option maxHeartbeats 400000 in
theorem mkByte_any (k i : Nat) (w : World) (hk : k ≤ 1000000) (hi : i ≤ 1000000) :
    Calls Tryz.prog 23 #[.int .i64 k, .int .i64 i] w fun e w' => e = .returned (.int .u8 (mkB k i)) ∧ w' = w := by
  go_enter Tryz.func23, Tryz.ntmps23
  go_wp2
  go_ret
  refine ⟨?_, rfl⟩
  rw [← mkB_is]; rfl
/-- marks, by whatever function; Marks f: the kit's -/
structure Marks (f : Nat → Nat → Nat) : Prop where
  lt : ∀ k i, f k i < 256
  run : ∀ (k i : Nat) (x y : Int) (w : World), x = k → y = i → k ≤ 1000000 → i ≤ 1000000 → Calls Tryz.prog 23 #[.int .i64 x, .int .i64 y] w fun e w' => e = .returned (.int .u8 (f k i)) ∧ w' = w
theorem marks_kit : Marks mkB := ⟨mkB_lt, fun k i x y w hx hy hk hi => by subst hx; subst hy; exact mkByte_any k i w hk hi⟩
theorem marks_are : ∃ f, Marks f := ⟨mkB, marks_kit⟩
def marksOf (f : Nat → Nat → Nat) (k j : Nat) : List Nat := (List.range j).map (f k)
theorem marksOf_length (f : Nat → Nat → Nat) (k j : Nat) : (marksOf f k j).length = j := by simp [marksOf]
theorem marksOf_next (f : Nat → Nat → Nat) (k j : Nat) : (marksOf f k (j + 1)).map u8N = (marksOf f k j).map u8N ++ [u8N (f k j)] := by simp [marksOf, List.range_succ]
theorem marksOf_get (f : Nat → Nat → Nat) (k j i : Nat) (h : i < j) : (marksOf f k j).getD i 0 = f k i := by
  unfold marksOf; rw [List.getD_eq_getElem?_getD, List.getElem?_map, List.getElem?_range h]; rfl
theorem marksOf_lt {f : Nat → Nat → Nat} (hf : Marks f) (k j i : Nat) : (marksOf f k j).getD i 0 < 256 := by
  by_cases h : i < j
  · rw [marksOf_get f k j i h]; exact hf.lt _ _
  · rw [List.getD_eq_getElem?_getD, List.getElem?_eq_none (by rw [marksOf_length]; omega)]; decide
set_option maxHeartbeats 1000000 in
theorem lentB_any {f : Nat → Nat → Nat} (hf : Marks f) (n cap B : Nat) (p : List Nat) (a : Option Addr) (w : World) (hn : p.length = n) (hP : BytesAt w B a cap p) (hlen : n ≤ 30000) :
    Calls Tryz.prog 7 #[.slice a n cap] w fun e w' => ∃ g, e = .returned (.slice (some ⟨g, 0, none⟩) n (n + 12)) ∧ w.grownBy w' none ∧ w.heap.size ≤ g ∧ Blk w' g 5 ((p ++ marksOf f 1 12).map u8N) := by
  have HF := Lib.hid hf; clear hf
  obtain ⟨w1, hmk, hg1, hs1, hb1⟩ := make_bytes 0 (n + 12) w (by omega) (by omega)
  have ho1 : w1.ownsRow w.heap.size 5 1 (.slice (some ⟨w.heap.size, 0, none⟩) 0 (n + 12)) 0 [] :=
    ⟨rfl, Or.inr ⟨w.heap.size, n + 12, _, rfl, Nat.le_refl _, hb1, by omega, by unfold maxLen; omega, by simp, by simp⟩⟩
  obtain ⟨w2, hap, ho2, hg2⟩ := append_bytes_fits w1 w.heap.size w.heap.size 0 (n + 12) B cap n [] a p ho1 hn (hP.stay hg1) (by omega)
  have hg02 := gb_then hg1 hg2 (Nat.le_refl _)
  rw [Nat.zero_add, List.nil_append] at ho2
  have hmk' : (Instr.makeSlice 22 (.int .i64 0) (.int .i64 ((n : Int) + 12))).run Tryz.prog w = .ok (.slice (some ⟨w.heap.size, 0, none⟩) 0 (n + 12)) w1 := hmk
  rw [Nat.zero_add] at hap
  have H2 := Lib.hid (And.intro hap (And.intro ho2 hg02)); clear hap ho2 hg02 hg1 hg2 ho1 hmk hs1 hb1 hP
  go_enter Tryz.func7, Tryz.ntmps7
  go_wp2_with (at_builtin; refine wpList_append_run rfl (.tmp 9) (.tmp 10) 22 rfl rfl _ _ rfl rfl _ _ H2.out.1 ?_)
  go_loopw [3, 4] (fun v i wr => ∃ j m : Nat, j ≤ 12 ∧ m = n + j ∧ i = .int .i64 j ∧ v = .slice (some ⟨w.heap.size, 0, none⟩) m (n + 12) ∧ wr.ownsRow w.heap.size 5 1 (.slice (some ⟨w.heap.size, 0, none⟩) m (n + 12)) m (p.map u8N ++ (marksOf f 1 j).map u8N) ∧ w.grownBy wr none) (fun _ i _ => 12 - (intOf i).toNat)
  case atStart => exact ⟨0, n, by omega, rfl, rfl, rfl, by simpa [marksOf] using H2.out.2.1, H2.out.2.2⟩
  case round =>
    obtain ⟨j, m, hj, hm, rfl, rfl, hown, hg⟩ := hrel
    by_cases hlt : j < 12
    · obtain ⟨y, hy⟩ : ∃ y, y = f 1 j := ⟨_, rfl⟩
      obtain ⟨w3, hap, ho3, hg3⟩ := append_byte_fits wr w.heap.size w.heap.size m (n + 12) y _ (by rw [hy]; exact HF.out.lt _ _) hown (by omega)
      have hg4 := gb_then hg hg3 (Nat.le_refl _)
      rw [List.append_assoc, hy, ← marksOf_next] at ho3
      unfold u8N at hap
      have hmb := fun W => HF.out.run 1 j 1 j W rfl rfl (by decide) (by omega)
      rw [← hy] at hmb
      have HI := Lib.hid (And.intro hap (And.intro ho3 (And.intro hg4 (And.intro hm hmb)))); clear hap ho3 hg4 hg3 hm hown hg hy hmb
      have i0 : (j : Int) < 12 := by omega
      go_wp2_with fail
      refine (HI.out.2.2.2.2 wr).mono ?_
      rintro e w4 ⟨rfl, rfl⟩
      go_wp2_with (at_builtin; refine wpList_append_run rfl (.tmp 16) (.tmp 19) 22 rfl rfl _ _ rfl rfl _ _ HI.out.1 ?_)
      go_roundw
      case rel => exact ⟨j + 1, m + 1, by omega, by have := HI.out.2.2.2.1; omega, by go_num, rfl, HI.out.2.1, HI.out.2.2.1⟩
      case measure => simp [intOf]; omega
    · obtain rfl : j = 12 := by omega
      have e : m = n + 12 := hm
      subst e
      rw [← List.map_append] at hown
      rcases hown.2 with ⟨h0, _⟩ | ⟨g', c', cur, e1, hbg, hgh, _, _, hs, ht⟩
      · cases h0
      · cases e1
        have hcur : cur.toList = (p ++ marksOf f 1 12).map u8N := by rw [← ht, List.take_of_length_le]; rw [Array.length_toList]; omega
        have hblk : Blk wr w.heap.size 5 ((p ++ marksOf f 1 12).map u8N) := by unfold Blk; rw [hgh, ← hcur, Array.toArray_toList]
        have HI := Lib.hid (And.intro hblk hg); clear hown hg hm hgh hcur hblk ht hs
        go_wp2
        go_ret
        exact ⟨w.heap.size, rfl, HI.out.2, Nat.le_refl _, HI.out.1⟩
end Go.Proofs.YtmnlidfalhjghaaGreatDoor
