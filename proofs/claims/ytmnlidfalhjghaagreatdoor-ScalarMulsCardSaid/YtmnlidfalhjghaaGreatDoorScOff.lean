/- scalar: takeOff, putBack: orders are taken from the rest, one is put back. -/
import Derived.Test.YtmnlidfalhjghaaGreatDoorScWord
import Derived.BigQuiet
import Derived.Deep.QuietTactic
import Derived.BigRegion
import Derived.RegionTactic
import Derived.Deep.RegionWith
namespace Go.Proofs.YtmnlidfalhjghaaGreatDoor
open Go.RowKit

def u64N (n : Nat) : Value := .int .u64 (n : Int)
def wV (n j : Nat) : Value := u64N (Sc.wrd n j)
/-- the order's four words -/
structure OTab (w : World) : Prop where
  lt : 0 < w.heap.size
  cel : ∀ i, i < 4 → w.cell? ⟨0, i, none⟩ = some (u64N (Sc.lw i))
theorem OTab.kept {w w' : World} (h : OTab w) {row : Option Nat} (hg : w.grownBy w' row) (hr : ∀ r, row = some r → 0 < r) : OTab w' :=
  ⟨Nat.lt_of_lt_of_le h.lt hg.size, fun i hi => by rw [gb_cell hg (p := ⟨0, i, none⟩) h.lt (fun e => by have := hr _ e.symm; simp at this)]; exact h.cel i hi⟩
/-- eight cells, and the rest's four -/
def recL (X : List Value) (n : Nat) : List Value := X ++ [wV n 0, wV n 1, wV n 2, wV n 3]
/-- eight cells, and a rest's four, of which the first k are turned -/
def mixL (X : List Value) (f g : Nat → Nat) (k : Nat) : List Value := X ++ (List.range 4).map fun j => u64N (if j < k then f j else g j)
theorem mixL_set (X : List Value) (hX : X.length = 8) (f g : Nat → Nat) (k : Nat) (hk : k < 4) : (mixL X f g k).set (8 + k) (u64N (f k)) = mixL X f g (k + 1) := by
  unfold mixL
  rw [List.set_append_right _ _ (by omega), show 8 + k - X.length = k by omega]
  congr 1
  apply List.ext_getElem?
  intro i
  rw [List.getElem?_set, List.length_map, List.length_range]
  by_cases hi : i < 4
  · rw [List.getElem?_map, List.getElem?_map, List.getElem?_range hi]
    by_cases h : k = i
    · subst h; simp [hk]
    · simp [h, show i < k + 1 ↔ i < k by omega]
  · rw [if_neg (by omega), List.getElem?_eq_none (by simp; omega), List.getElem?_eq_none (by simp; omega)]
theorem mixL_get (X : List Value) (hX : X.length = 8) (f g : Nat → Nat) (k : Nat) (hk : k < 4) : (mixL X f g k)[8 + k]? = some (u64N (g k)) := by
  unfold mixL
  rw [List.getElem?_append_right (by omega), show 8 + k - X.length = k by omega, List.getElem?_map, List.getElem?_range hk]
  simp
theorem mixL_start (X : List Value) (f : Nat → Nat) (n : Nat) : mixL X f (Sc.wrd n) 0 = recL X n := by
  simp [mixL, recL, List.range, List.range.loop, wV]
theorem mixL_end (X : List Value) (f g : Nat → Nat) (n : Nat) (h0 : Sc.wrd n 0 = f 0) (h1 : Sc.wrd n 1 = f 1) (h2 : Sc.wrd n 2 = f 2) (h3 : Sc.wrd n 3 = f 3) : mixL X f g 4 = recL X n := by
  simp [mixL, recL, List.range, List.range.loop, wV, h0, h1, h2, h3]
theorem off_end (X : List Value) (n q : Nat) : mixL X (Sc.rs n q) (Sc.wrd n) 4 = recL X (Sc.offN n q) := by
  obtain ⟨h0, h1, h2, h3, _⟩ := Sc.off_words n q
  exact mixL_end X _ _ _ h0 h1 h2 h3
theorem back_end (X : List Value) (n : Nat) : mixL X (Sc.ps n) (Sc.wrd n) 4 = recL X (Sc.backN n) := by
  obtain ⟨h0, h1, h2, h3, _⟩ := Sc.back_words n
  exact mixL_end X _ _ _ h0 h1 h2 h3
theorem sub_step (n q k : Nat) : (Sc.wrd n k + 18446744073709551616 - Sc.lo q k - Sc.bl n q k) % 18446744073709551616 = Sc.rs n q k ∧ (if Sc.wrd n k < Sc.lo q k + Sc.bl n q k then 1 else 0) = Sc.bl n q (k + 1) := by
  have h1 := Sc.wrd_lt n k
  have h2 := Sc.lo_lt q k
  have h3 := Sc.bl_le n q k
  refine ⟨?_, rfl⟩
  unfold Sc.rs
  omega

theorem order_index (k : Nat) (hk : k < 4) : ∀ w, (Instr.index 44 (.agg #[.int .u64 6346243789798364141, .int .u64 1503914060200516822, .int .u64 0, .int .u64 1152921504606846976]) (.int .i64 k)).run Tryz.prog w = .ok (.int .u64 (Sc.lw k : Int)) w := by
  intro w
  obtain rfl | rfl | rfl | rfl : k = 0 ∨ k = 1 ∨ k = 2 ∨ k = 3 := by omega
  all_goals kernel_rfl
theorem offO_bd (n q : Nat) (hn : n < 2 ^ 256) (hq : q < 18446744073709551616) : (Sc.ov q 4 : Int) + (Sc.bl n q 4 : Int) ≤ 18446744073709551615 := by
  have h := Sc.off_eq n q hn
  have h2 := (Sc.off_words n q).2.2.2.2
  have e : (2 : Nat) ^ 256 = 115792089237316195423570985008687907853269984665640564039457584007913129639936 := by decide
  rw [e] at h2
  have hE : Sc.offO n q = Sc.ov q 4 + Sc.bl n q 4 := rfl
  rw [hE] at h
  unfold Sc.L at h
  generalize Sc.ov q 4 = o4 at *
  generalize Sc.bl n q 4 = b4 at *
  generalize Sc.offN n q = r at *
  clear e hn hE
  omega
set_option maxHeartbeats 1600000 in
theorem takeOff_any (R n q : Nat) (T : TypeId) (X : List Value) (w : World) (hX : X.length = 8) (hn : n < 2 ^ 256) (hq : q < 18446744073709551616) (hT : OTab w) (hb : Blk w R T (recL X n)) :
    Calls Tryz.prog 70 #[.pointer (some ⟨R, 0, none⟩), .int .u64 q] w fun e w' => e = .returned (.int .u64 (Sc.offO n q : Int)) ∧ w.grownBy w' (some R) ∧ Blk w' R T (recL X (Sc.offN n q)) := by
  have t0 := hT.cel 0 (by decide)
  have t1 := hT.cel 1 (by decide)
  have t2 := hT.cel 2 (by decide)
  have t3 := hT.cel 3 (by decide)
  have HT := Lib.hid hT; clear hT
  have HX := Lib.hid hX; clear hX
  rw [← mixL_start X (Sc.rs n q) n] at hb
  have HB := Lib.hid hb; clear hb
  unfold u64N at t0 t1 t2 t3
  simp only [Sc.lw] at t0 t1 t2 t3
  go_enter Tryz.func70, Tryz.ntmps70
  go_wp2
  go_loopw [5, 6, 11] (fun o b i wr => ∃ k : Nat, k ≤ 4 ∧ i = .int .i64 k ∧ o = .int .u64 (Sc.ov q k : Int) ∧ b = .int .u64 (Sc.bl n q k : Int) ∧ w.grownBy wr (some R) ∧ Blk wr R T (mixL X (Sc.rs n q) (Sc.wrd n) k)) (fun _ _ i _ => 4 - (intOf i).toNat)
  case atStart => exact ⟨0, by omega, rfl, rfl, rfl, gb_refl _ _, HB.out⟩
  case round =>
    obtain ⟨k, hk, rfl, rfl, rfl, hg, hb⟩ := hrel
    by_cases hlt : k < 4
    · have hs := sub_step n q k
      have hset := mixL_set X HX.out (Sc.rs n q) (Sc.wrd n) k hlt
      have c0 := hb.cell (mixL_get X HX.out (Sc.rs n q) (Sc.wrd n) k hlt)
      have f0 := hb.free (8 + k)
      have hi := order_index k hlt
      have b1 := Sc.bl_le n q k
      have l1 := Sc.lw_lt k
      have o1 := Sc.ov_lt q k hq
      have hm := maw_any q (Sc.lw k) (Sc.ov q k) 0
      have he : (q * Sc.lw k + Sc.ov q k + 0) / 18446744073709551616 = Sc.ov q (k + 1) := rfl
      have hl : (q * Sc.lw k + Sc.ov q k + 0) % 18446744073709551616 = Sc.lo q k := rfl
      rw [he, hl] at hm
      clear he hl
      have HM := Lib.hid (fun W => hm W hq l1 o1 (by decide)); clear hm
      have hsub := sub64c (Sc.wrd n k) (Sc.lo q k) (Sc.bl n q k) b1
      rw [hs.1, hs.2] at hsub
      have HS := Lib.hid hset; clear hset hs l1 o1 b1
      have HB1 := Lib.hid hb; clear hb
      have HG := Lib.hid hg; clear hg
      unfold u64N at c0
      generalize Sc.lw k = lk at *
      go_wp2_with (go_at_call 68; refine (HM.out _).mono ?_; rintro e w' ⟨rfl, rfl⟩)
      go_region_with (simp only [hsub])
      all_goals go_wp2
      go_roundw
      case rel =>
        exact ⟨k + 1, by omega, by go_num, rfl, rfl, gb_drew (gb_set HG.out _ _), by
          have h := HB1.out.set (8 + k) (u64N (Sc.rs n q k))
          rw [HS.out] at h
          exact h.drew⟩
      case measure => simp [intOf]; omega
    · obtain rfl : k = 4 := by omega
      have hO := offO_bd n q hn hq
      rw [off_end] at hb
      have HB1 := Lib.hid hb; clear hb
      have HG := Lib.hid hg; clear hg
      have hE : Hid (Sc.offO n q = Sc.ov q 4 + Sc.bl n q 4) := rfl
      generalize Sc.ov q 4 = o4 at *
      generalize Sc.bl n q 4 = b4 at *
      go_wp2
      go_ret
      exact ⟨by rw [hE.out]; simp, HG.out, HB1.out⟩
theorem back_step (n k : Nat) : ((Sc.wrd n k : Int) + (Sc.lw k : Int) + (Sc.ca n k : Int)) % 18446744073709551616 = (Sc.ps n k : Int) ∧ ((Sc.wrd n k : Int) + (Sc.lw k : Int) + (Sc.ca n k : Int)) / 18446744073709551616 = (Sc.ca n (k + 1) : Int) := by
  have e : Sc.ca n (k + 1) = (Sc.wrd n k + Sc.lw k + Sc.ca n k) / 18446744073709551616 := rfl
  rw [e]
  unfold Sc.ps
  omega
set_option maxHeartbeats 1600000 in
theorem putBack_any (R n : Nat) (T : TypeId) (X : List Value) (w : World) (hX : X.length = 8) (hT : OTab w) (hb : Blk w R T (recL X n)) :
    Calls Tryz.prog 72 #[.pointer (some ⟨R, 0, none⟩)] w fun e w' => e = .returned (.tuple #[]) ∧ w.grownBy w' (some R) ∧ Blk w' R T (recL X (Sc.backN n)) := by
  have t0 := hT.cel 0 (by decide)
  have t1 := hT.cel 1 (by decide)
  have t2 := hT.cel 2 (by decide)
  have t3 := hT.cel 3 (by decide)
  have HT := Lib.hid hT; clear hT
  have HX := Lib.hid hX; clear hX
  rw [← mixL_start X (Sc.ps n) n] at hb
  have HB := Lib.hid hb; clear hb
  unfold u64N at t0 t1 t2 t3
  simp only [Sc.lw] at t0 t1 t2 t3
  go_enter Tryz.func72, Tryz.ntmps72
  go_wp2
  go_loopw [2, 6] (fun o i wr => ∃ k : Nat, k ≤ 4 ∧ i = .int .i64 k ∧ o = .int .u64 (Sc.ca n k : Int) ∧ w.grownBy wr (some R) ∧ Blk wr R T (mixL X (Sc.ps n) (Sc.wrd n) k)) (fun _ i _ => 4 - (intOf i).toNat)
  case atStart => exact ⟨0, by omega, rfl, rfl, gb_refl _ _, HB.out⟩
  case round =>
    obtain ⟨k, hk, rfl, rfl, hg, hb⟩ := hrel
    by_cases hlt : k < 4
    · have hs := back_step n k
      have hset := mixL_set X HX.out (Sc.ps n) (Sc.wrd n) k hlt
      have c0 := hb.cell (mixL_get X HX.out (Sc.ps n) (Sc.wrd n) k hlt)
      have f0 := hb.free (8 + k)
      have hi := order_index k hlt
      have b1 := Sc.ca_le n k
      have hsub := add64c (Sc.wrd n k) (Sc.lw k) (Sc.ca n k) (by omega) (by omega) (by omega) (by omega)
      rw [hs.1, hs.2] at hsub
      have HS := Lib.hid hset; clear hset hs b1
      have HB1 := Lib.hid hb; clear hb
      have HG := Lib.hid hg; clear hg
      unfold u64N at c0
      generalize Sc.lw k = lk at *
      go_wp2
      go_region_with (simp only [hsub])
      all_goals go_wp2
      go_roundw
      case rel =>
        exact ⟨k + 1, by omega, by go_num, rfl, gb_drew (gb_set HG.out _ _), by
          have h := HB1.out.set (8 + k) (u64N (Sc.ps n k))
          rw [HS.out] at h
          exact h.drew⟩
      case measure => simp [intOf]; omega
    · obtain rfl : k = 4 := by omega
      rw [back_end] at hb
      have HB1 := Lib.hid hb; clear hb
      have HG := Lib.hid hg; clear hg
      go_wp2
      go_end0
      exact ⟨rfl, HG.out, HB1.out⟩
end Go.Proofs.YtmnlidfalhjghaaGreatDoor
