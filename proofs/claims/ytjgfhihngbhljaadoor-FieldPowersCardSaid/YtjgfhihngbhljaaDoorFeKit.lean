/- field: the laws' small helpers: edge, small, SameBytes. -/
import Derived.Test.YtjgfhihngbhljaaDoorFeEq
namespace Go.Proofs.YtjgfhihngbhljaaDoor
open Go.RowKit

theorem mk32 (w : World) : (Instr.makeSlice 26 (.int .i64 32) (.int .i64 32)).run Tryd.prog w = .ok (.slice (some ⟨w.heap.size, 0, none⟩) 32 32) (w.alloc (.cells zeros32.toArray 5)) := by kernel_rfl
def ffs (k : Nat) : List Value := List.replicate k (.int .u8 255) ++ List.replicate (32 - k) (.int .u8 0)
theorem ffs_length (k : Nat) (h : k ≤ 32) : (ffs k).length = 32 := by simp [ffs]; omega
theorem ffs_get (k i : Nat) (h : k ≤ 32) (hi : i < 32) : (ffs k)[i]? = some (.int .u8 (if i < k then 255 else 0)) := by
  unfold ffs
  by_cases h1 : i < k
  · rw [List.getElem?_append_left (by simpa using h1), List.getElem?_replicate, if_pos h1, if_pos h1]
  · rw [List.getElem?_append_right (by simp; omega), List.getElem?_replicate, if_pos (by simp; omega), if_neg h1]
theorem ffs_set (k : Nat) (h : k < 32) : (ffs k).set k (.int .u8 255) = ffs (k + 1) := by
  apply List.ext_getElem?
  intro i
  rw [List.getElem?_set, ffs_length k (by omega)]
  by_cases hi : i < 32
  · rw [ffs_get (k + 1) i (by omega) hi]
    by_cases e : k = i
    · subst e; rw [if_pos rfl, if_pos h, if_pos (by omega)]
    · rw [if_neg e, ffs_get k i (by omega) hi]
      by_cases h1 : i < k
      · rw [if_pos h1, if_pos (by omega)]
      · rw [if_neg h1, if_neg (by omega)]
  · rw [if_neg (by omega), List.getElem?_eq_none (by rw [ffs_length k (by omega)]; omega), List.getElem?_eq_none (by rw [ffs_length (k + 1) (by omega)]; omega)]
def edgeL (n : Int) : List Value := ((ffs 32).set 0 (.int .u8 (237 + n))).set 31 (.int .u8 127)
theorem edge_p : edgeL 0 = bytesV 57896044618658097711785492504343953926634992332820282019728792003956564819949 := by kernel_rfl
theorem edge_p1 : edgeL (-1) = bytesV 57896044618658097711785492504343953926634992332820282019728792003956564819948 := by kernel_rfl
set_option maxHeartbeats 800000 in
theorem edge_any (n : Int) (w : World) (h0 : -20 ≤ n) (h1 : n ≤ 18) :
    Calls Tryd.prog 33 #[.int .i64 n] w fun e w' => ∃ NB, e = .returned (.slice (some ⟨NB, 0, none⟩) 32 32) ∧ w.grownBy w' none ∧ w.heap.size ≤ NB ∧ Blk w' NB 5 (edgeL n) := by
  have hmk := mk32
  go_enter Tryd.func33, Tryd.ntmps33
  go_wp2
  clear hmk
  go_loopw [4] (fun i wr => ∃ k : Nat, k ≤ 32 ∧ i = .int .i64 k ∧ w.grownBy wr none ∧ Blk wr w.heap.size 5 (ffs k)) (fun i _ => 32 - (intOf i).toNat)
  case atStart => exact ⟨0, by omega, rfl, gb_alloc (gb_refl _ _) _, Blk.new w (ffs 0) 5⟩
  case round =>
    obtain ⟨k, hk, rfl, hg, hB⟩ := hrel
    have hl : (ffs k).length = 32 := by simp [ffs]; omega
    by_cases hk2 : k < 32
    · have hi : (k : Int) < 32 := by omega
      obtain ⟨v0, hv0⟩ : ∃ v, wr.cell? ⟨w.heap.size, k, none⟩ = some v := ⟨_, hB.cell (List.getElem?_eq_getElem (by omega))⟩
      have f0 := hB.free k
      have hs := hB.set k (.int .u8 255)
      have Hs := Lib.hid (ffs_set k hk2)
      clear hl
      go_wp2
      go_roundw
      case rel => exact ⟨k + 1, by omega, by go_num, gb_set_new hg (Nat.le_refl _) _, Hs.out ▸ hs⟩
      case measure => simp [intOf]; omega
    · obtain rfl : k = 32 := by omega
      have c0 := hB.cell (i := 0) rfl
      have c1 := hB.cell (i := 31) rfl
      have f0 := hB.free 0
      have f1 := hB.free 31
      have hs := (hB.set 0 (.int .u8 (237 + n))).set 31 (.int .u8 127)
      clear hl
      go_wp2
      go_ret
      exact ⟨w.heap.size, rfl, gb_set_new (gb_set_new hg (Nat.le_refl _) _) (Nat.le_refl _) _, Nat.le_refl _, hs⟩
set_option maxHeartbeats 400000 in
theorem small_any (x : Int) (w : World) : Calls Tryd.prog 34 #[.int .u64 x] w (FeOut ⟨x, 0, 0, 0, 0⟩ w) := by
  go_enter Tryd.func34, Tryd.ntmps34
  go_wp2
  refine bodyPost_ret (v := .agg #[.int .u64 x, .int .u64 0, .int .u64 0, .int .u64 0, .int .u64 0]) ?_ rfl (feOut_of ⟨rfl, gb_alloc (gb_refl _ _) _⟩)
  simp [results, Tryd.results34, go_sem]
set_option maxHeartbeats 800000 in
theorem sameBytes_any (A B : Nat) (S T : TypeId) (x y : Int) (w : World) (h0 : 0 ≤ x) (k0 : 0 ≤ y) (h1 : x < 2 ^ 256) (k1 : y < 2 ^ 256) (hA : Blk w A S (bytesV x)) (hB : Blk w B T (bytesV y)) :
    Calls Tryd.prog 35 #[.slice (some ⟨A, 0, none⟩) 32 32, .slice (some ⟨B, 0, none⟩) 32 32] w fun e w' => e = .returned (.bool (decide (x = y))) ∧ w.grownBy w' none := by
  have HXY := Lib.hid (And.intro (And.intro h0 h1) (And.intro k0 k1)); clear h0 h1 k0 k1
  go_enter Tryd.func35, Tryd.ntmps35
  go_wp2
  go_loopw [5] (fun i wr => ∃ k : Nat, k ≤ 32 ∧ i = .int .i64 k ∧ w.grownBy wr none ∧ Hid (∀ t, t < k → x / 2 ^ (8 * t) % 256 = y / 2 ^ (8 * t) % 256)) (fun i _ => 32 - (intOf i).toNat)
  case atStart => exact ⟨0, by omega, rfl, gb_refl _ _, Lib.hid fun t ht => by omega⟩
  case round =>
    obtain ⟨k, hk, rfl, hg, HS⟩ := hrel
    by_cases hk2 : k < 32
    · have hi : (k : Int) < 32 := by omega
      have c0 := (hA.grown hg (by simp)).cell (bytesV_get x k hk2)
      have c1 := (hB.grown hg (by simp)).cell (bytesV_get y k hk2)
      unfold bytV at c0 c1
      by_cases he : x / 2 ^ (8 * k) % 256 = y / 2 ^ (8 * k) % 256
      · have HS2 : Hid (∀ t, t < k + 1 → x / 2 ^ (8 * t) % 256 = y / 2 ^ (8 * t) % 256) := Lib.hid fun t ht => by
          by_cases e : t = k
          · subst e; exact he
          · exact HS.out t (by omega)
        rw [he] at c0
        clear he
        generalize y / 2 ^ (8 * k) % 256 = v at *
        go_wp2
        go_quiet (fail)
        go_wp2
        go_roundw
        case rel => exact ⟨k + 1, by omega, by go_num, gb_drewN hg _, HS2⟩
        case measure => simp [intOf]; omega
      · have HF : Hid (decide (x = y) = false) := Lib.hid (by rw [decide_eq_false_iff_not]; rintro rfl; exact he rfl)
        generalize x / 2 ^ (8 * k) % 256 = u at *
        generalize y / 2 ^ (8 * k) % 256 = v at *
        have hb1 : (u == v) = false := by simpa using he
        have hb2 : (u != v) = true := by simpa using he
        go_wp2
        go_quiet (fail)
        go_wp2
        go_ret
        exact ⟨by rw [HF.out]; rfl, gb_drewN hg _⟩
    · obtain rfl : k = 32 := by omega
      have HF : Hid (decide (x = y) = true) := Lib.hid (by rw [decide_eq_true_iff]; exact digits_same 32 x y HXY.out.1.1 HXY.out.2.1 HXY.out.1.2 HXY.out.2.2 HS.out)
      go_wp2
      go_ret
      exact ⟨by rw [HF.out]; rfl, hg⟩
end Go.Proofs.YtjgfhihngbhljaaDoor
