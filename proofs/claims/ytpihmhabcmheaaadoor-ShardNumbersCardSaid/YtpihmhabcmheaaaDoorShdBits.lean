/- shard: octets.bits: the bits of a digest, told one by one. -/
import Derived.Test.YtpihmhabcmheaaaDoorShdM
import Derived.RangeFuncNested
import Derived.RangeFuncBound
import Derived.RangeFuncCalls
import Derived.RangeFuncLeaves
import Derived.RangeFuncBox
import Derived.Shelf.Abstract
import Derived.Shelf.RegionOpen
import Derived.OwnWalkIn
import Derived.TacticsInMore
import Derived.LoopNIn
import Derived.LoopIn
namespace Go.Proofs.YtpihmhabcmheaaaDoor
open Go.RowKit Ow Go.Shelf
attribute [local go_sem] Oper.semAt_some

/-- what the loop's body leaves as it was -/
def KeepsB (Bo Bt : Nat) (W W' : World) : Prop := (∀ j, j < 64 → W'.cell? ⟨Bo, j, none⟩ = W.cell? ⟨Bo, j, none⟩) ∧ W'.cell? ⟨Bt, 0, none⟩ = W.cell? ⟨Bt, 0, none⟩
theorem keepsB_t {Bo Bt : Nat} {A B C : World} (h : KeepsB Bo Bt A B) (k : KeepsB Bo Bt B C) : KeepsB Bo Bt A C := ⟨fun j hj => (k.1 j hj).trans (h.1 j hj), k.2.trans h.2⟩
theorem keepsB_b {Bo Bt n : Nat} (hR : Bo < n) (hB : Bt < n) (W : World) (l : Nat) (o o' : Obj) (hl : n ≤ l) (h : W.heap[l]? = some o) : KeepsB Bo Bt W (W.putObj l o') := by
  have hlt : l < W.heap.size := (Array.getElem?_eq_some_iff.1 h).1
  exact ⟨fun j _ => gb_cell (grownBy_putObj' W l o') (p := ⟨Bo, j, none⟩) (show Bo < _ by omega) (fun e => by have := Option.some.inj e; simp at this; omega), gb_cell (grownBy_putObj' W l o') (p := ⟨Bt, 0, none⟩) (show Bt < _ by omega) (fun e => by have := Option.some.inj e; simp at this; omega)⟩
set_option maxRecDepth 100000 in
set_option maxHeartbeats 2000000 in
theorem bits1_in (F : Fence) (n : Nat) (hf : F.fn 26) (hro : F.round = none) (hn : 1 ≤ n) (l Bf Bt Bo a b k : Nat) (D : List Nat) (hD : ∀ i, D.getD i 0 < 256) (hb : Hid (b = a + k)) (hk : b ≤ 512) (J Jx : List Go.Proofs.YtpihmhabcmheaaaDoor.Bt → World → Prop)
    (hY : ∀ pre x W, J pre W → pre.length < k → YieldAt F (n - 1) Tryd.prog l (btE x) W fun e W' =>
      (e = .returned (.bool true) ∧ J (pre ++ [x]) W' ∧ KeepsB Bo Bt W W') ∨ (e = .returned (.bool false) ∧ Jx (pre ++ [x]) W'))
    (W : World) (hF : W.cell? ⟨Bf, 0, none⟩ = some (.int .i64 (a : Int))) (hT : W.cell? ⟨Bt, 0, none⟩ = some (.int .i64 (b : Int))) (hc : ∀ j, j < 64 → W.cell? ⟨Bo, j, none⟩ = some (u8N (D.getD j 0))) (h0 : J [] W) :
    CallsIn F n Tryd.prog 26 #[.func (.yield l) #[] #[], .pointer (some ⟨Bf, 0, none⟩), .pointer (some ⟨Bt, 0, none⟩), .pointer (some ⟨Bo, 0, none⟩)] W fun e W' => (∃ v, e = .returned v) ∧
      ((∃ ys, ys = bitsV D a k ∧ J ys W') ∨ (∃ pre, True ∧ Jx pre W')) := by
  refine callsIn_of_wp Tryd.func26 rfl hf ?_ hro
  simp only [Tryd.ntmps26, List.size_toArray, List.length_cons, List.length_nil, Nat.reduceAdd, Nat.reduceSub, Array.replicate_succ, Array.replicate_zero, List.push_toArray, List.append_toArray, List.nil_append, List.cons_append]
  gi_wp2
  gi_loopw [5] (fun i wr => (∃ m t : Nat, m ≤ k ∧ Hid (t = a + m) ∧ i = .int .i64 (t : Int) ∧ J (bitsV D a m) wr) ∧ KeepsB Bo Bt W wr)
    (fun i _ => b - (intOf i).toNat)
  case atStart => exact ⟨⟨0, a, Nat.zero_le _, Lib.hid rfl, rfl, h0⟩, ⟨fun _ _ => rfl, rfl⟩⟩
  case round =>
    obtain ⟨⟨m, t, hm, ht, rfl, hJs⟩, hnx⟩ := hrel
    have hb1 : wr.cell? ⟨Bt, 0, none⟩ = some (.int .i64 (b : Int)) := hnx.2.trans hT
    rcases Nat.lt_or_ge m k with h | h
    · have hcx : wr.cell? ⟨Bo, t / 8, none⟩ = some (u8N (D.getD (t / 8) 0)) := (hnx.1 _ (by have := ht.out; have := hb.out; omega)).trans (hc _ (by have := ht.out; have := hb.out; omega))
      obtain ⟨fn, tmps, assign, body, hy, hR⟩ := hY _ ⟨bitA D (a + m), bitA_lt _ _⟩ wr hJs (by rw [bitsV_len]; omega)
      unfold btE at hy
      dsimp only at hy
      have i0 : (t : Int) < (b : Int) := by have := ht.out; have := hb.out; omega
      have i1 : (t : Int) < 512 := by omega
      have h8 : t / 8 < 64 := by omega
      have hx := hD (t / 8)
      have he : bitA D (a + m) = D.getD (t / 8) 0 / 2 ^ (7 - t % 8) % 2 := by rw [← ht.out]; rfl
      generalize D.getD (t / 8) 0 = x at hcx hx he
      have hbit := bit_at x (7 - t % 8) hx
      rw [← he] at hbit
      unfold u8N at hcx
      have HJ := Lib.hid (And.intro hnx (And.intro ht hR)); clear hnx ht hR hJs he
      gi_wp2
      refine HJ.out.2.2.mono ?_
      rintro e W3 (⟨rfl, hJ3, hk3⟩ | ⟨rfl, hJx3⟩)
      · have HK := Lib.hid (And.intro hJ3 hk3); clear hJ3 hk3
        gi_wp2
        go_roundw
        case rel =>
          refine ⟨⟨m + 1, t + 1, h, Lib.hid (by have := HJ.out.2.1.out; omega), by go_num, by rw [bitsV_succ]; exact HK.out.1⟩, keepsB_t HJ.out.1 HK.out.2⟩
        case measure => simp [intOf]; omega
      · gi_wp2
        refine bodyPost_ret (results_none rfl _ _ _) rfl ?_
        exact ⟨⟨_, rfl⟩, .inr ⟨_, trivial, hJx3⟩⟩
    · obtain rfl : m = k := by omega
      have i0 : ¬ (t : Int) < (b : Int) := by have := ht.out; have := hb.out; omega
      gi_wp2
      go_end0
      exact ⟨⟨_, rfl⟩, .inl hJs⟩
theorem bits_stops (F : Fence) (n : Nat) (hf : F.fn 26) (hro : F.round = none) (hn : 1 ≤ n) (Bf Bt Bo a b k : Nat) (D : List Nat) (hD : ∀ i, D.getD i 0 < 256) (hb : b = a + k) (hk : b ≤ 512) (w : World) (hBf : Bf < w.heap.size) (hBt : Bt < w.heap.size) (hBo : Bo < w.heap.size)
    (hF : w.cell? ⟨Bf, 0, none⟩ = some (.int .i64 (a : Int))) (hT : w.cell? ⟨Bt, 0, none⟩ = some (.int .i64 (b : Int))) (hc : ∀ j, j < 64 → w.cell? ⟨Bo, j, none⟩ = some (u8N (D.getD j 0))) :
    SeqStopsK F n Tryd.prog 26 #[.pointer (some ⟨Bf, 0, none⟩), .pointer (some ⟨Bt, 0, none⟩), .pointer (some ⟨Bo, 0, none⟩)] btE (KeepsB Bo Bt) (fun ys => ys = bitsV D a k) (fun _ => True) k w := fun l J Jx W hW _ _ hY h0 =>
  bits1_in F n hf hro hn l Bf Bt Bo a b k D hD (Lib.hid hb) hk J Jx hY W ((hW.cell (p := ⟨Bf, 0, none⟩) hBf).trans hF) ((hW.cell (p := ⟨Bt, 0, none⟩) hBt).trans hT) (fun j hj => (hW.cell (p := ⟨Bo, j, none⟩) hBo).trans (hc j hj)) h0
set_option maxHeartbeats 1000000 in
theorem bits_in (F : Fence) (n : Nat) (hf : F.fn 19) (hro : F.round = none) (V : List Value) (a b : Int) (w : World) :
    CallsIn F n Tryd.prog 19 #[.agg V.toArray, .int .i64 a, .int .i64 b] w fun e w' =>
      e = .returned (.func (.func 26) #[] #[.pointer (some ⟨w.heap.size + 1, 0, none⟩), .pointer (some ⟨w.heap.size + 2, 0, none⟩), .pointer (some ⟨w.heap.size, 0, none⟩)]) ∧
      w' = ((w.alloc (.cells V.toArray 30)).alloc (.cells [.int .i64 a].toArray 3)).alloc (.cells [.int .i64 b].toArray 3) := by
  refine callsIn_of_wp Tryd.func19 rfl hf ?_ hro
  simp only [Tryd.ntmps19, List.size_toArray, List.length_cons, List.length_nil, Nat.reduceAdd, Nat.reduceSub, Array.replicate_succ, Array.replicate_zero, List.push_toArray, List.append_toArray, List.nil_append, List.cons_append]
  gi_wp2
  go_ret
  exact ⟨rfl, rfl⟩
end Go.Proofs.YtpihmhabcmheaaaDoor
