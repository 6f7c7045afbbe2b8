/- sha's words.digest: the eight words as 64 bytes. -/
import Derived.Test.YtabdegeaifajfaaGreatDoorShaTurn
namespace Go.Proofs.YtabdegeaifajfaaGreatDoor
open Go.RowKit

def u8V (n : Nat) : Value := .int .u8 (n : Int)
def zeros64 : List Value := List.replicate 64 (u8V 0)
def zero64 : Array Value := zeros64.toArray
theorem mk64 (w : World) : (Instr.makeSlice 34 (.int .i64 64) (.int .i64 64)).run Tryz.prog w = .ok (.slice (some ⟨w.heap.size, 0, none⟩) 64 64) (w.alloc (.cells zero64 5)) := by kernel_rfl

def wbV (x : Nat) : List Value := (Sha.wbytes x).map u8V
theorem wbV_length (x : Nat) : (wbV x).length = 8 := rfl
theorem wbV_is (x : Nat) : (List.range 8).map (byteV (x : Int)) = wbV x := by
  simp [List.range_succ, wbV, Sha.wbytes, byteV, byteI, u8V]
/-- the bytes of the first words, behind them zeros -/
def digCells (l : List Nat) (k : Nat) : List Value := (l.take k).flatMap wbV ++ List.replicate (64 - 8 * k) (u8V 0)
theorem flat_length (l : List Nat) : (l.flatMap wbV).length = 8 * l.length := by
  induction l with
  | nil => rfl
  | cons x xs ih => rw [List.flatMap_cons, List.length_append, ih, wbV_length, List.length_cons]; omega
theorem digCells_length (l : List Nat) (k : Nat) (hk : k ≤ 8) (hl : l.length = 8) : (digCells l k).length = 64 := by
  unfold digCells; rw [List.length_append, flat_length, List.length_replicate, List.length_take]; omega
theorem digCells_next (l : List Nat) (k : Nat) (hk : k < 8) (hl : l.length = 8) : putN (digCells l k) (8 * k) (byteV ((l.getD k 0 : Nat) : Int)) 8 = digCells l (k + 1) := by
  have ha : ((l.take k).flatMap wbV).length = 8 * k := by rw [flat_length, List.length_take]; omega
  have hx : l.take (k + 1) = l.take k ++ [l.getD k 0] := by
    rw [List.take_succ_eq_append_getElem (by omega)]; simp [List.getElem?_eq_getElem (show k < l.length by omega)]
  rw [putN_is _ _ _ _ (by rw [digCells_length l k (by omega) hl]; omega), wbV_is]
  unfold digCells
  rw [hx, List.flatMap_append, List.take_append_of_le_length (by omega), List.take_of_length_le (by omega), List.drop_append, List.drop_of_length_le (by omega), ha]
  rw [List.nil_append, List.drop_replicate, show 64 - 8 * k - (8 * k + 8 - 8 * k) = 64 - 8 * (k + 1) by omega]
  simp

set_option maxRecDepth 100000 in
set_option maxHeartbeats 1000000 in
theorem digest_any (B T : Nat) (s : Sha.S) (R : List Value) (w : World) (hs : SB s) (hb : Blk w B T (wordsV s ++ R)) :
    Calls Tryz.prog 126 #[.pointer (some ⟨B, 0, none⟩)] w fun e w' => ∃ NB, e = .returned (.slice (some ⟨NB, 0, none⟩) 64 64) ∧ w.grownBy w' none ∧ w.heap.size ≤ NB ∧ Blk w' NB 5 (s.bytes.map u8V) := by
  have hmk := mk64
  have HS := Lib.hid hs; clear hs
  have hlt := hb.lt
  go_enter Tryz.func126, Tryz.ntmps126
  go_wp2
  clear hmk
  go_loopw [8] (fun i wr => ∃ k : Nat, k ≤ 8 ∧ i = .int .i64 k ∧ w.grownBy wr none ∧ Blk wr w.heap.size 5 (digCells s.list k)) (fun i _ => 8 - (intOf i).toNat)
  case atStart => exact ⟨0, by omega, rfl, gb_alloc (gb_refl _ _) _, Blk.new w zeros64 5⟩
  case round =>
    obtain ⟨k, hk, rfl, hg, hd⟩ := hrel
    by_cases hlt : k < 8
    · have hw : (wordsV s ++ R)[k]? = some (u64V (s.list.getD k 0)) := by
        obtain rfl | rfl | rfl | rfl | rfl | rfl | rfl | rfl : k = 0 ∨ k = 1 ∨ k = 2 ∨ k = 3 ∨ k = 4 ∨ k = 5 ∨ k = 6 ∨ k = 7 := by omega
        all_goals rfl
      have hx : s.list.getD k 0 < 18446744073709551616 := by
        have h := HS.out
        obtain rfl | rfl | rfl | rfl | rfl | rfl | rfl | rfl : k = 0 ∨ k = 1 ∨ k = 2 ∨ k = 3 ∨ k = 4 ∨ k = 5 ∨ k = 6 ∨ k = 7 := by omega
        · exact h.a
        · exact h.b
        · exact h.c
        · exact h.d
        · exact h.e
        · exact h.f
        · exact h.g
        · exact h.h
      have kc := (hb.grown hg (by simp)).cell hw
      have hN := digCells_next s.list k hlt rfl
      unfold u64V at kc
      clear hw
      generalize s.list.getD k 0 = x at *
      have p0 : 0 ≤ (k : Int) := by omega
      have q0 : (k : Int) < 8 := by omega
      have h8 : 8 * (k : Int) ≤ 64 := by omega
      have h8c : 8 * (k : Int) < 64 := by omega
      have HD := Lib.hid (And.intro hg (And.intro hd hN)); clear hg hd hN
      have hdl := digCells_length s.list k (by omega) rfl
      have HDL := Lib.hid hdl; clear hdl
      go_wp2_with fail
      go_quiet (fail)
      go_wp2_with fail
      refine (shaPutWord_any w.heap.size 5 _ _ _ (digCells s.list k) x _ (by omega) (by omega) (by rw [HDL.out]; omega) (HD.out.2.1.drewN _)).mono ?_
      rintro e w2 ⟨rfl, hg2, hd2⟩
      have hg3 := gb_then (gb_drewN HD.out.1 _) hg2 (Nat.le_refl _)
      clear hg2
      rw [HD.out.2.2] at hd2
      go_wp2
      go_roundw
      case rel => exact ⟨k + 1, by omega, by go_num, hg3, hd2⟩
      case measure => simp [intOf]; omega
    · obtain rfl : k = 8 := by omega
      go_wp2
      go_ret
      refine ⟨w.heap.size, rfl, hg, Nat.le_refl _, ?_⟩
      have : digCells s.list 8 = s.bytes.map u8V := by unfold digCells Sha.S.bytes; rw [List.map_flatMap]; rfl
      rw [← this]; exact hd
end Go.Proofs.YtabdegeaifajfaaGreatDoor
