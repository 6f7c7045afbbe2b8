/- scalar: Bits: the bits of 32 bytes, one by one (eachBit). -/
import Derived.Test.YtmnlidfalhjghaaGreatDoorScModulo
import Derived.Test.YtmnlidfalhjghaaGreatDoorScOut
namespace Go.Proofs.YtmnlidfalhjghaaGreatDoor
open Go.RowKit Ow Go.Shelf
attribute [local go_sem] Oper.semAt_some

/-- bit j of bytes -/
def bitAt (f : Nat → Nat) (j : Nat) : Bool := decide (f (j / 8) / 2 ^ (j % 8) % 2 = 1)
def bitsTo (f : Nat → Nat) (k : Nat) : List Bool := (List.range k).map (bitAt f)
theorem bitsTo_succ (f : Nat → Nat) (k : Nat) : bitsTo f (k + 1) = bitsTo f k ++ [bitAt f k] := by simp [bitsTo, List.range_succ]
theorem bitsTo_length (f : Nat → Nat) (k : Nat) : (bitsTo f k).length = k := by simp [bitsTo]
theorem bit_is (x j : Nat) (hx : x < 256) : (bits .and .u8 ((x : Int) / 2 ^ j) 1 == 1) = decide (x / 2 ^ j % 2 = 1) := by
  have all : ∀ j : Fin 256, (bits .and .u8 (j.val : Int) 1 == 1) = decide (j.val % 2 = 1) := by decide +kernel
  have hl : x / 2 ^ j < 256 := Nat.lt_of_le_of_lt (Nat.div_le_self _ _) hx
  have e : (x : Int) / 2 ^ j = ((x / 2 ^ j : Nat) : Int) := by rw [Int.natCast_ediv, Int.natCast_pow]; rfl
  rw [e]
  exact all ⟨x / 2 ^ j, hl⟩
def KeepsB (pb po Bs : Nat) (W W' : World) : Prop := (∀ j, j < 32 → W'.cell? ⟨pb, po + j, none⟩ = W.cell? ⟨pb, po + j, none⟩) ∧ W'.cell? ⟨Bs, 0, none⟩ = W.cell? ⟨Bs, 0, none⟩
theorem keepsB_t {pb po Bs : Nat} {A B C : World} (h : KeepsB pb po Bs A B) (k : KeepsB pb po Bs B C) : KeepsB pb po Bs A C := ⟨fun j hj => (k.1 j hj).trans (h.1 j hj), k.2.trans h.2⟩
theorem keepsB_b {pb po Bs n : Nat} (hR : pb < n) (hB : Bs < n) (W : World) (l : Nat) (o o' : Obj) (hl : n ≤ l) (h : W.heap[l]? = some o) : KeepsB pb po Bs W (W.putObj l o') := by
  have hlt : l < W.heap.size := (Array.getElem?_eq_some_iff.1 h).1
  exact ⟨fun j _ => gb_cell (grownBy_putObj' W l o') (p := ⟨pb, po + j, none⟩) (show pb < _ by omega) (some_ne' (by show pb ≠ l; omega)), gb_cell (grownBy_putObj' W l o') (p := ⟨Bs, 0, none⟩) (show Bs < _ by omega) (some_ne' (by show Bs ≠ l; omega))⟩
set_option maxHeartbeats 1000000 in
theorem eachBit_in (F : Fence) (n : Nat) (hf : F.fn 27) (hro : F.round = none) (a : Option Addr) (len cap : Nat) (w : World) :
    CallsIn F n Tryz.prog 27 #[.slice a len cap] w fun e w' => e = .returned (.func (.func 41) #[] #[.pointer (some ⟨w.heap.size, 0, none⟩)]) ∧ w' = w.alloc (.cells #[.slice a len cap] 22) := by
  refine callsIn_of_wp Tryz.func27 rfl hf ?_ hro
  simp only [Tryz.ntmps27, List.size_toArray, List.length_cons, List.length_nil, Nat.reduceAdd, Nat.reduceSub, Array.replicate_succ, Array.replicate_zero, List.push_toArray, List.append_toArray, List.nil_append, List.cons_append]
  gi_wp2
  go_ret
  exact ⟨rfl, rfl⟩
set_option maxRecDepth 100000 in
set_option maxHeartbeats 2000000 in
theorem eachBit1_in (F : Fence) (n : Nat) (hf : F.fn 41) (hro : F.round = none) (hn : 1 ≤ n) (l Bs pb po cap : Nat) (f : Nat → Nat) (hfb : ∀ i, f i < 256) (J Jx : List Bool → World → Prop)
    (hY : ∀ pre x W, J pre W → pre.length < 256 → YieldAt F (n - 1) Tryz.prog l #[.bool x] W fun e W' =>
      (e = .returned (.bool true) ∧ J (pre ++ [x]) W' ∧ KeepsB pb po Bs W W') ∨ (e = .returned (.bool false) ∧ Jx (pre ++ [x]) W'))
    (W : World) (hBs : W.cell? ⟨Bs, 0, none⟩ = some (.slice (some ⟨pb, po, none⟩) 32 cap)) (hc : ∀ j, j < 32 → W.cell? ⟨pb, po + j, none⟩ = some (.int .u8 (f j : Int))) (h0 : J [] W) :
    CallsIn F n Tryz.prog 41 #[.func (.yield l) #[] #[], .pointer (some ⟨Bs, 0, none⟩)] W fun e W' => (∃ v, e = .returned v) ∧
      ((∃ ys, ys = bitsTo f 256 ∧ J ys W') ∨ (∃ pre, True ∧ Jx pre W')) := by
  have HC := Lib.hid hc; clear hc
  have HF := Lib.hid hfb; clear hfb
  refine callsIn_of_wp Tryz.func41 rfl hf ?_ hro
  simp only [Tryz.ntmps41, List.size_toArray, List.length_cons, List.length_nil, Nat.reduceAdd, Nat.reduceSub, Array.replicate_succ, Array.replicate_zero, List.push_toArray, List.append_toArray, List.nil_append, List.cons_append]
  gi_wp2
  clear hBs
  gi_loopw [8] (fun i wr => ∃ k : Nat, k ≤ 32 ∧ i = .int .i64 k ∧ J (bitsTo f (8 * k)) wr ∧ KeepsB pb po Bs W wr) (fun i _ => 32 - (intOf i).toNat)
  case atStart => exact ⟨0, by omega, rfl, h0, ⟨fun _ _ => rfl, rfl⟩⟩
  case round =>
    obtain ⟨k, hk, rfl, hJs, hnx⟩ := hrel
    by_cases hkl : k < 32
    · have hcx : wr.cell? ⟨pb, po + k, none⟩ = some (.int .u8 (f k : Int)) := (hnx.1 k hkl).trans (HC.out k hkl)
      obtain ⟨x, hx⟩ : ∃ x, x = f k := ⟨_, rfl⟩
      have hxl : x < 256 := by rw [hx]; exact HF.out k
      rw [← hx] at hcx
      have HX := Lib.hid hx; clear hx
      have i0 : (k : Int) < 32 := by omega
      gi_wp2
      clear hcx
      gi_loopw [12] (fun t wr' => ∃ j : Nat, j ≤ 8 ∧ t = .int .i64 j ∧ J (bitsTo f (8 * k + j)) wr' ∧ KeepsB pb po Bs W wr') (fun t _ => 8 - (intOf t).toNat)
      case atStart => exact ⟨0, by omega, rfl, hJs, hnx⟩
      case round =>
        clear hJs hnx
        obtain ⟨j, hj, rfl, hJs, hnx⟩ := hrel
        by_cases hjl : j < 8
        · obtain ⟨fn, tmps, assign, body, hy, hR⟩ := hY _ (bitAt f (8 * k + j)) wr hJs (by rw [bitsTo_length]; omega)
          have hb : bitAt f (8 * k + j) = (bits .and .u8 ((x : Int) / 2 ^ j) 1 == 1) := by
            rw [bit_is x j hxl, HX.out]
            unfold bitAt
            rw [show (8 * k + j) / 8 = k by omega, show (8 * k + j) % 8 = j by omega]
          rw [hb] at hy
          have HBI := Lib.hid hb; clear hb
          gi_wp2
          refine hR.mono ?_
          rintro e W3 (⟨rfl, hJ3, hk3⟩ | ⟨rfl, hJx3⟩)
          · rw [← bitsTo_succ] at hJ3
            gi_wp2
            go_roundw
            case rel => exact ⟨j + 1, by omega, by go_num, hJ3, keepsB_t hnx hk3⟩
            case measure => simp [intOf]; omega
          · gi_wp2
            refine bodyPost_ret (results_none rfl _ _ _) rfl ?_
            exact ⟨⟨_, rfl⟩, .inr ⟨_, trivial, hJx3⟩⟩
        · obtain rfl : j = 8 := by omega
          gi_wp2
          go_roundw
          case rel => exact ⟨k + 1, by omega, by go_num, by rw [show 8 * (k + 1) = 8 * k + 8 by omega]; exact hJs, hnx⟩
          case measure => simp [intOf]; omega
    · obtain rfl : k = 32 := by omega
      gi_wp2
      go_end0
      exact ⟨⟨_, rfl⟩, .inl ⟨_, rfl, hJs⟩⟩
theorem eachBit_stops (F : Fence) (n : Nat) (hf : F.fn 41) (hro : F.round = none) (hn : 1 ≤ n) (Bs pb po cap : Nat) (f : Nat → Nat) (hfb : ∀ i, f i < 256) (w : World) (hBs : Bs < w.heap.size) (hR : pb < w.heap.size)
    (hb : w.cell? ⟨Bs, 0, none⟩ = some (.slice (some ⟨pb, po, none⟩) 32 cap)) (hc : ∀ j, j < 32 → w.cell? ⟨pb, po + j, none⟩ = some (.int .u8 (f j : Int))) :
    SeqStopsK F n Tryz.prog 41 #[.pointer (some ⟨Bs, 0, none⟩)] (fun x => #[.bool x]) (KeepsB pb po Bs) (fun ys => ys = bitsTo f 256) (fun _ => True) 256 w := fun l J Jx W hW _ _ hY h0 =>
  eachBit1_in F n hf hro hn l Bs pb po cap f hfb J Jx hY W ((hW.cell (p := ⟨Bs, 0, none⟩) hBs).trans hb) (fun j hj => (hW.cell (p := ⟨pb, po + j, none⟩) hR).trans (hc j hj)) h0
end Go.Proofs.YtmnlidfalhjghaaGreatDoor
