/- scalar: a number's 32 bytes. -/
import Derived.Test.YtmnlidfalhjghaaGreatDoorScFill
namespace Go.Proofs.YtmnlidfalhjghaaGreatDoor
open Go.RowKit Ow

/-- the first k bytes of a number -/
def bytesN (n k : Nat) : List Nat := (List.range k).map (Sc.byt n)
theorem bytesN_length (n k : Nat) : (bytesN n k).length = k := by simp [bytesN]
theorem bytesN_succ (n k : Nat) : bytesN n (k + 1) = bytesN n k ++ [Sc.byt n k] := by simp [bytesN, List.range_succ]
theorem bytesN_get (n k i : Nat) (h : i < k) : (bytesN n k).getD i 0 = Sc.byt n i := by
  unfold bytesN; rw [List.getD_eq_getElem?_getD, List.getElem?_map, List.getElem?_range h]; rfl
theorem bytesN_lt (n k i : Nat) : (bytesN n k).getD i 0 < 256 := by
  by_cases h : i < k
  · rw [bytesN_get n k i h]; exact Sc.byt_lt _ _
  · rw [List.getD_eq_getElem?_getD, List.getElem?_eq_none (by rw [bytesN_length]; omega)]; decide
theorem num_bytesN (n k : Nat) : num (bytesN n k) = n % 2 ^ (8 * k) := by
  unfold num
  rw [bytesN_length, ← Sc.leN_byt n k]
  exact Sc.leN_congr _ _ _ fun i hi => bytesN_get n k i hi
theorem word_byte (n j i : Nat) (hi : i < 8) : Sc.wrd n j / 2 ^ (8 * i) % 256 = Sc.byt n (8 * j + i) := by
  have e : (18446744073709551616 : Nat) = 2 ^ (8 * i) * (256 * 2 ^ (56 - 8 * i)) := by
    rw [show (256 : Nat) = 2 ^ 8 by rfl, ← Nat.pow_add, ← Nat.pow_add, show (18446744073709551616 : Nat) = 2 ^ 64 by rfl]; congr 1; omega
  unfold Sc.wrd Sc.byt
  rw [e, Nat.mod_mul_right_div_self, Nat.mod_mul_right_mod, Nat.div_div_eq_div_mul, ← Nat.pow_add]
  congr 3; omega
theorem info_u8' : ∃ i z, Tryz.prog.info? 5 = some i ∧ i.zero = some z ∧ i.size = 1 ∧ i.bytes = 1 ∧ z.cells.size = 1 := Ow.info_u8
set_option maxRecDepth 100000 in
set_option maxHeartbeats 1600000 in
theorem nbytes_any (n : Nat) (w : World) :
    Calls Tryz.prog 26 #[narrowV n] w fun e w' => ∃ g, e = .returned (.slice (some ⟨g, 0, none⟩) 32 32) ∧ w.grownBy w' none ∧ w'.ownsRow w.heap.size 5 1 (.slice (some ⟨g, 0, none⟩) 32 32) 32 ((bytesN n 32).map u8N) := by
  obtain ⟨i, z, hi, hz, hs, hb, hc⟩ := Ow.info_u8
  obtain ⟨w1, hmk, ho1, hg1⟩ := run_make_own (w.alloc (.cells #[wV n 0, wV n 1, wV n 2, wV n 3] 44)) w.heap.size 22 5 i z 1 (P := Tryz.prog) Tryz.underlying22 hi hz hs .i64 .i64 32 (by rw [hb]; omega) (by unfold maxLen; omega) (by simp)
  have hsz : (w.alloc (.cells #[wV n 0, wV n 1, wV n 2, wV n 3] 44)).heap.size = w.heap.size + 1 := by simp
  rw [hsz] at hmk ho1
  have hmk' : (Instr.makeSlice 22 (.int .i64 0) (.int .i64 32)).run Tryz.prog (w.alloc (.cells #[wV n 0, wV n 1, wV n 2, wV n 3] 44)) = .ok (.slice (some ⟨w.heap.size + 1, 0, none⟩) 0 32) w1 := hmk
  clear hmk
  have hg01 := gb_trans (gb_alloc (gb_refl w none) _) hg1
  have hbx := (Blk.new w [wV n 0, wV n 1, wV n 2, wV n 3] 44).grown hg1 (by simp)
  have HO := Lib.hid (And.intro ho1 hg01); clear ho1 hg01 hg1 hi hz hs hb hc hsz
  have hidx : ∀ j : Nat, j < 4 → ∀ w, (Instr.index 44 (.agg #[wV n 0, wV n 1, wV n 2, wV n 3]) (.int .i64 j)).run Tryz.prog w = .ok (.int .u64 (Sc.wrd n j : Int)) w := by
    intro j hj w
    obtain rfl | rfl | rfl | rfl : j = 0 ∨ j = 1 ∨ j = 2 ∨ j = 3 := by omega
    all_goals kernel_rfl
  unfold wV u64N at hmk' hidx hbx
  have c0 := hbx.cell (i := 0) rfl
  have c1 := hbx.cell (i := 1) rfl
  have c2 := hbx.cell (i := 2) rfl
  have c3 := hbx.cell (i := 3) rfl
  have HIX := Lib.hid hidx; clear hidx hbx
  unfold narrowV wV u64N
  go_enter Tryz.func26, Tryz.ntmps26
  go_wp2
  go_loopw [3, 8] (fun v i wr => ∃ j m : Nat, j ≤ 4 ∧ m = 8 * j ∧ i = .int .i64 j ∧ v = .slice (some ⟨w.heap.size + 1, 0, none⟩) m 32 ∧ wr.ownsRow w.heap.size 5 1 (.slice (some ⟨w.heap.size + 1, 0, none⟩) m 32) m ((bytesN n m).map u8N) ∧ w.grownBy wr none) (fun _ i _ => 4 - (intOf i).toNat)
  case atStart => exact ⟨0, 0, by omega, rfl, rfl, rfl, HO.out.1, HO.out.2⟩
  case round =>
    obtain ⟨j, m, hj, hm, rfl, rfl, hown, hg⟩ := hrel
    by_cases hlt : j < 4
    · have hix := HIX.out j hlt
      have HI := Lib.hid (And.intro hown (And.intro hg hm)); clear hown hg hm
      obtain ⟨y, hy⟩ : ∃ y, y = Sc.wrd n j := ⟨_, rfl⟩
      have hyl : y < 18446744073709551616 := by rw [hy]; exact Sc.wrd_lt n j
      rw [← hy] at hix
      have HY := Lib.hid hy; clear hy
      have i0 : (j : Int) < 4 := by omega
      go_wp2
      go_loopw [3, 5, 11] (fun v y i wr => ∃ k m' x : Nat, k ≤ 8 ∧ m' = 8 * j + k ∧ x = Sc.wrd n j / 2 ^ (8 * k) ∧ i = .int .i64 k ∧ y = .int .u64 x ∧ v = .slice (some ⟨w.heap.size + 1, 0, none⟩) m' 32 ∧ wr.ownsRow w.heap.size 5 1 (.slice (some ⟨w.heap.size + 1, 0, none⟩) m' 32) m' ((bytesN n m').map u8N) ∧ w.grownBy wr none) (fun _ _ i _ => 8 - (intOf i).toNat)
      case atStart => exact ⟨0, m, y, by omega, by rw [HI.out.2.2]; rfl, by rw [HY.out]; simp, rfl, rfl, rfl, HI.out.1, HI.out.2.1⟩
      case round =>
        clear HI hix HY hyl
        obtain ⟨k, m', x, hk, hm', hx, rfl, rfl, rfl, hown, hg⟩ := hrel
        by_cases hkl : k < 8
        · obtain ⟨b, hb⟩ : ∃ b, b = Sc.byt n m' := ⟨_, rfl⟩
          have hbl : b < 256 := by rw [hb]; exact Sc.byt_lt _ _
          have he : (x : Int) % 256 = (b : Int) := by
            have := word_byte n j k hkl
            rw [← hm', ← hx, ← hb] at this
            omega
          have hxl : x < 18446744073709551616 := by rw [hx]; exact Nat.lt_of_le_of_lt (Nat.div_le_self _ _) (Sc.wrd_lt n j)
          obtain ⟨w3, hap, ho3, hg3⟩ := append_byte_fits wr w.heap.size (w.heap.size + 1) m' 32 b _ hbl hown (by omega)
          have hg4 := gb_then hg hg3 (by omega)
          have hq : ((bytesN n m').map u8N) ++ [u8N b] = (bytesN n (m' + 1)).map u8N := by rw [bytesN_succ, hb, List.map_append]; rfl
          rw [hq] at ho3
          have hx2 : ((x / 256 : Nat) : Int) = (x : Int) / 256 := by omega
          have hx3 : x / 256 = Sc.wrd n j / 2 ^ (8 * (k + 1)) := by
            rw [hx, Nat.div_div_eq_div_mul, show 8 * (k + 1) = 8 * k + 8 by omega, Nat.pow_add]
          unfold u8N at hap
          have HI := Lib.hid (And.intro hap (And.intro ho3 (And.intro hg4 (And.intro hm' (And.intro hx2 hx3))))); clear hap ho3 hg4 hg3 hm' hx2 hx3 hx hb hown hg hq
          have i0 : (k : Int) < 8 := by omega
          go_wp2_with (at_builtin; refine wpList_append_run rfl (.tmp 13) (.tmp 16) 22 rfl rfl _ _ rfl rfl _ _ HI.out.1 ?_)
          go_roundw
          case rel => exact ⟨k + 1, m' + 1, x / 256, by omega, by have := HI.out.2.2.2.1; omega, HI.out.2.2.2.2.2, by go_num, by rw [HI.out.2.2.2.2.1], rfl, HI.out.2.1, HI.out.2.2.1⟩
          case measure => simp [intOf]; omega
        · obtain rfl : k = 8 := by omega
          have HI := Lib.hid (And.intro hown (And.intro hg hm')); clear hown hg hm' hx
          go_wp2
          go_roundw
          case rel => exact ⟨j + 1, m', by omega, by have := HI.out.2.2; omega, by go_num, rfl, HI.out.1, HI.out.2.1⟩
          case measure => simp [intOf]; omega
    · obtain rfl : j = 4 := by omega
      obtain rfl : m = 32 := by omega
      have HI := Lib.hid (And.intro hown hg); clear hown hg hm
      go_wp2
      go_ret
      exact ⟨_, rfl, HI.out.2, HI.out.1⟩
end Go.Proofs.YtmnlidfalhjghaaGreatDoor
