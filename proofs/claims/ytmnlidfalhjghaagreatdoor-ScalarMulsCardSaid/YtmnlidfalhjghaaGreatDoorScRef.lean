/- scalar's document: the order's bytes; numbers of 33 bytes compared, doubled, less one another. -/
import Derived.Test.YtmnlidfalhjghaaGreatDoorScRefM
import Derived.Test.YtmnlidfalhjghaaGreatDoorScOut
import Derived.Test.YtmnlidfalhjghaaGreatDoorScLawKit
namespace Go.Proofs.YtmnlidfalhjghaaGreatDoor
open Go.RowKit Ow
namespace Sr
theorem rorder_any (w : World) : Calls Tryz.prog 31 #[] w (OutB (ordB 237) w) := by
  have hb := Blk.new w ((ordB 237).map u8N) 5
  have HB : Hid (Blk (w.alloc (.cells #[.int .u8 237, .int .u8 211, .int .u8 245, .int .u8 92, .int .u8 26, .int .u8 99, .int .u8 18, .int .u8 88, .int .u8 214, .int .u8 156, .int .u8 247, .int .u8 162, .int .u8 222, .int .u8 249, .int .u8 222, .int .u8 20, .int .u8 0, .int .u8 0, .int .u8 0, .int .u8 0, .int .u8 0, .int .u8 0, .int .u8 0, .int .u8 0, .int .u8 0, .int .u8 0, .int .u8 0, .int .u8 0, .int .u8 0, .int .u8 0, .int .u8 0, .int .u8 16] 5)) w.heap.size 5 ((ordB 237).map u8N)) := hb
  clear hb
  go_enter Tryz.func31, Tryz.ntmps31
  go_wp2
  go_ret
  exact ⟨w.heap.size, by rw [show (ordB 237).length = 32 from rfl]; rfl, gb_alloc (gb_refl w none) _, Nat.le_refl _, HB.out⟩
/-- the cell of byte i -/
theorem byte_cell {w : World} {B cap : Nat} {a : Option Addr} {l : List Nat} (h : BytesAt w B a cap l) (h0 : 0 < l.length) : ∃ pb po, a = some ⟨pb, po, none⟩ ∧ pb < B ∧ ∀ i, i < l.length → w.cell? ⟨pb, po + i, none⟩ = some (.int .u8 ((l.getD i 0 : Nat) : Int)) := by
  rcases h.cells with h1 | h1
  · omega
  · exact h1
set_option maxRecDepth 100000 in
set_option maxHeartbeats 1000000 in
theorem rless_any (ca cb Ba Bb : Nat) (a b : Option Addr) (x y : List Nat) (w : World) (hx : x.length = 33) (hy : y.length = 33) (hA : BytesAt w Ba a ca x) (hB : BytesAt w Bb b cb y) :
    Calls Tryz.prog 30 #[.slice a 33 ca, .slice b 33 cb] w fun e w' => e = .returned (.bool (decide (num x < num y))) ∧ w.grownBy w' none := by
  obtain ⟨pa, oa, rfl, hpa, hca⟩ := byte_cell hA (by omega)
  obtain ⟨pb, ob, rfl, hpb, hcb⟩ := byte_cell hB (by omega)
  have HX := Lib.hid (And.intro (And.intro hx hy) (And.intro (And.intro hA.byte hB.byte) (And.intro hca hcb))); clear hx hy hA hB hca hcb hpa hpb
  go_enter Tryz.func30, Tryz.ntmps30
  go_wp2_with fail
  go_loopw [5] (fun i wr => ∃ (k : Nat) (z : Int), k ≤ 33 ∧ z + 1 = k ∧ i = .int .i64 z ∧ w.grownBy wr none ∧ (∀ j, j < 33 → wr.cell? ⟨pa, oa + j, none⟩ = some (.int .u8 ((x.getD j 0 : Nat) : Int))) ∧ (∀ j, j < 33 → wr.cell? ⟨pb, ob + j, none⟩ = some (.int .u8 ((y.getD j 0 : Nat) : Int))) ∧ ∀ j, k ≤ j → j < 33 → x.getD j 0 = y.getD j 0) (fun i _ => (intOf i + 1).toNat)
  case atStart => exact ⟨33, 32, by omega, by omega, rfl, gb_refl _ _, fun j hj => HX.out.2.2.1 j (by rw [HX.out.1.1]; exact hj), fun j hj => HX.out.2.2.2 j (by rw [HX.out.1.2]; exact hj), fun j h1 h2 => by omega⟩
  case round =>
    obtain ⟨k, z, hk, hz, rfl, hg, hca, hcb, he⟩ := hrel
    rcases Nat.eq_zero_or_pos k with h0 | h0
    · subst h0
      obtain rfl : z = -1 := by omega
      have hr := less_none x y 33 HX.out.1.1 HX.out.1.2 (fun j hj => he j (Nat.zero_le _) hj)
      have HI := Lib.hid (And.intro hg hr); clear hg hr hca hcb he hz
      go_wp2
      go_ret
      refine ⟨?_, HI.out.1⟩
      rw [HI.out.2]; rfl
    · obtain ⟨d, rfl⟩ : ∃ d, k = d + 1 := ⟨k - 1, by omega⟩
      obtain rfl : z = (d : Int) := by omega
      have c1 := hca d (by omega)
      have c2 := hcb d (by omega)
      by_cases hne : x.getD d 0 = y.getD d 0
      · rw [hne] at c1
        have HI := Lib.hid (And.intro hg (And.intro hca (And.intro hcb he))); clear hg hca hcb he
        have HE := Lib.hid hne; clear hne
        generalize hyd : y.getD d 0 = yd at *
        have HY := Lib.hid hyd; clear hyd
        have h33 : (d : Int) < 33 := by omega
        go_wp2_with fail
        go_region
        go_wp2
        go_roundw
        case rel => exact ⟨d, (d : Int) - 1, by omega, by omega, rfl, gb_drew HI.out.1, HI.out.2.1, HI.out.2.2.1, fun j h1 h2 => by
          rcases Nat.eq_or_lt_of_le h1 with h3 | h3
          · subst h3; exact HE.out.trans HY.out.symm
          · exact HI.out.2.2.2 j h3 h2⟩
        case measure => simp [intOf]
      · have hr := less_at x y 33 d HX.out.1.1 HX.out.1.2 HX.out.2.1.1 HX.out.2.1.2 (by omega) (fun j h1 h2 => he j h1 h2) hne
        have HI := Lib.hid (And.intro hg hr); clear hg hr hca hcb he
        have hne2 : ¬ ((x.getD d 0 : Nat) : Int) = ((y.getD d 0 : Nat) : Int) := by omega
        have hd : decide (((x.getD d 0 : Nat) : Int) < ((y.getD d 0 : Nat) : Int)) = decide (x.getD d 0 < y.getD d 0) := by rw [Bool.eq_iff_iff, decide_eq_true_iff, decide_eq_true_iff]; omega
        clear hne
        generalize x.getD d 0 = xd at *
        generalize y.getD d 0 = yd at *
        have HD := Lib.hid hd; clear hd
        have h33 : (d : Int) < 33 := by omega
        go_wp2_with fail
        go_region
        go_wp2_with fail
        go_region
        go_wp2
        go_ret
        refine ⟨?_, gb_drew (gb_drew HI.out.1)⟩
        rw [HI.out.2, ← HD.out]; rfl
/-- the first bytes of a row of n, zeros behind -/
def fillB (f : List Nat) (n : Nat) : List Value := f.map u8N ++ List.replicate (n - f.length) (u8N 0)
theorem fillB_nil (n : Nat) : fillB [] n = List.replicate n (u8N 0) := by simp [fillB]
theorem fillB_cell (f : List Nat) (n k : Nat) (hk : f.length = k) (h : k < n) : (fillB f n)[k]? = some (.int .u8 0) := by
  unfold fillB
  rw [List.getElem?_append_right (by simp; omega), List.length_map, hk, Nat.sub_self, List.getElem?_replicate, if_pos (by omega)]; rfl
theorem fillB_set (f : List Nat) (n k x : Nat) (hk : f.length = k) (h : k < n) : (fillB f n).set k (u8N x) = fillB (f ++ [x]) n := by
  unfold fillB
  rw [List.set_append_right _ _ (by simp; omega), List.length_map, hk, Nat.sub_self, List.map_append, List.append_assoc, List.length_append, show n - k = (n - (k + 1)) + 1 by omega, List.replicate_succ]
  rw [hk]
  rfl
theorem fillB_full (f : List Nat) (n : Nat) (hk : f.length = n) : fillB f n = f.map u8N := by unfold fillB; rw [hk, Nat.sub_self]; simp
theorem dbl_or' : ∀ v : Fin 256, ∀ c : Fin 2, bits .or .u8 ((v.val : Int) * 2 % 256) ((c.val : Nat) : Int) = ((2 * v.val % 256 + c.val : Nat) : Int) := by decide +kernel
theorem dbl_or (v c : Nat) (hv : v < 256) (hc : c ≤ 1) : bits .or .u8 ((v : Int) * 2 % 256) (c : Int) = ((2 * v % 256 + c : Nat) : Int) := dbl_or' ⟨v, hv⟩ ⟨c, by omega⟩
set_option maxRecDepth 100000 in
set_option maxHeartbeats 1000000 in
theorem rdouble_any (ca Ba bit : Nat) (a : Option Addr) (x : List Nat) (w : World) (hbit : bit ≤ 1) (hx : x.length = 33) (hA : BytesAt w Ba a ca x) :
    Calls Tryz.prog 42 #[.slice a 33 ca, .int .u8 (bit : Int)] w (OutB (bytesN (2 * num x + bit) 33) w) := by
  have hlim := hA.lim
  obtain ⟨pa, oa, rfl, hpa, hca⟩ := byte_cell hA (by omega)
  obtain ⟨w1, hmk, hg1, hs1, hb1⟩ := make_bytes 33 33 w (by omega) (by omega)
  have hmk' : (Instr.makeSlice 22 (.int .i64 33) (.int .i64 33)).run Tryz.prog w = .ok (.slice (some ⟨w.heap.size, 0, none⟩) 33 33) w1 := hmk
  rw [← fillB_nil 33] at hb1
  obtain ⟨D, hD⟩ : ∃ D, D = 2 * num x + bit := ⟨_, rfl⟩
  have HX := Lib.hid (And.intro hx (And.intro hA.byte (And.intro (fun j hj => hca j (by rw [hx]; exact hj) : ∀ j, j < 33 → w.cell? ⟨pa, oa + j, none⟩ = some (.int .u8 ((x.getD j 0 : Nat) : Int))) (And.intro hg1 (And.intro hb1 hD))))); clear hA hca hmk hg1 hb1 hs1
  have hpn : pa < w.heap.size := by omega
  have hne : pa ≠ w.heap.size := by omega
  clear hpa hlim
  rw [← hD]
  clear hD hx
  go_enter Tryz.func42, Tryz.ntmps42
  go_wp2_with fail
  go_loopw [6, 7] (fun c i wr => ∃ k : Nat, k ≤ 33 ∧ c = .int .u8 ((cry x bit k : Nat) : Int) ∧ i = .int .i64 k ∧ w.grownBy wr none ∧ Blk wr w.heap.size 5 (fillB (bytesN D k) 33)) (fun _ i _ => 33 - (intOf i).toNat)
  case atStart => exact ⟨0, by omega, rfl, rfl, HX.out.2.2.2.1, HX.out.2.2.2.2.1⟩
  case round =>
    obtain ⟨k, hk, rfl, rfl, hg, hb⟩ := hrel
    by_cases hlt : k < 33
    · have i1 : (k : Int) < 33 := by omega
      have hl := bytesN_length D k
      have c0 := hb.cell (fillB_cell _ 33 k hl hlt)
      have f0 := hb.free k
      have hv := HX.out.2.1 k
      have hc1 := cry_le x bit HX.out.2.1 hbit k
      have ho := dbl_or (x.getD k 0) (cry x bit k) hv hc1
      rw [← dbl_byt x bit HX.out.2.1 hbit k (by rw [HX.out.1]; exact hlt), ← HX.out.2.2.2.2.2] at ho
      have hset := hb.set k (u8N (Sc.byt D k))
      rw [fillB_set _ 33 k _ hl hlt, ← bytesN_succ] at hset
      have hgs := gb_set_new hg (p := ⟨w.heap.size, k, none⟩) (Nat.le_refl _) (u8N (Sc.byt D k))
      have ca := (gb_cell hg (p := ⟨pa, oa + k, none⟩) hpn (by simp)).trans (HX.out.2.2.1 k hlt)
      have cb := (gb_cell hgs (p := ⟨pa, oa + k, none⟩) hpn (by simp)).trans (HX.out.2.2.1 k hlt)
      have hcn : ((cry x bit (k + 1) : Nat) : Int) = ((x.getD k 0 : Nat) : Int) / 128 := by show ((x.getD k 0 / 128 : Nat) : Int) = _; omega
      have HI := Lib.hid (And.intro hset (And.intro hgs hcn)); clear hset hgs hcn hg hb hl hv hc1
      unfold u8N at cb HI
      generalize x.getD k 0 = xk at *
      generalize cry x bit k = ck at *
      go_wp2
      go_roundw
      case rel => exact ⟨k + 1, by omega, by rw [HI.out.2.2], by go_num, HI.out.2.1, HI.out.1⟩
      case measure => simp [intOf]; omega
    · obtain rfl : k = 33 := by omega
      rw [fillB_full _ 33 (bytesN_length D 33)] at hb
      have HI := Lib.hid (And.intro hg hb); clear hg hb
      go_wp2
      go_ret
      exact ⟨w.heap.size, by rw [bytesN_length]; rfl, HI.out.1, Nat.le_refl _, HI.out.2⟩
end Sr
end Go.Proofs.YtmnlidfalhjghaaGreatDoor
