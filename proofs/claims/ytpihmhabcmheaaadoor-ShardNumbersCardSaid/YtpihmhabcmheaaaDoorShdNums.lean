/- The law ShardNumbers' walk. -/
import Derived.Test.YtpihmhabcmheaaaDoorShdTells
import Derived.Test.YtpihmhabcmheaaaDoorShdRefOf
namespace Go.Proofs.YtpihmhabcmheaaaDoor
open Go.RowKit Ow
/-- string(b) of a byte that was just laid -/
theorem byte_str (w : World) (x : Nat) (hx : x < 256) : (convert 26 9 (.slice (some ⟨w.heap.size, 0, none⟩) 1 1)).run Tryd.prog (w.alloc (.cells #[.int .u8 (x : Int)] 5)) = .ok (.string (ofL [x])) (w.alloc (.cells #[.int .u8 (x : Int)] 5)) :=
  bytes_str (n := 1) rfl (blk_bytes (l := [x]) (n := 1) (cap := 1) (tl := []) (blk_at w (B := w.heap.size) [u8N x] 5 rfl) rfl (by omega) (by omega) (fun i => small_byte [x] (by intro y hy; simp at hy; omega) i) (Nat.lt_succ_self _) (by simp))
set_option maxRecDepth 100000 in
set_option maxHeartbeats 2000000 in
theorem shardNumbers_any (w : World) (hT : Tables w) :
    Calls Tryd.prog 4 #[] w fun e w' => e = .returned (.bool true) ∧ w.grownBy w' none := by
  have HT := Lib.hid hT; clear hT
  go_enter Tryd.func4, Tryd.ntmps4
  go_wp2
  go_loopw [1, 2] (fun v i wr => ∃ (k : Nat) (S : ByteArray), k ≤ 300 ∧ i = .int .i64 k ∧ v = .string S ∧ S.size = k ∧ w.grownBy wr none) (fun _ i _ => 300 - (intOf i).toNat)
  case atStart => exact ⟨0, ⟨#[]⟩, by omega, rfl, rfl, rfl, gb_refl _ _⟩
  case round =>
    obtain ⟨k, S, hk, rfl, rfl, hS, hg⟩ := hrel
    by_cases hlt : k < 300
    · have i0 : (k : Int) < 300 := by omega
      have HS := Lib.hid (And.intro hS hg); clear hS hg
      go_wp2_with fail
      refine (shardTells_any S wr (HT.out.kept HS.out.2 (by simp))).mono ?_
      rintro e w1 ⟨rfl, hg1⟩
      have H1 := Lib.hid (gb_trans HS.out.2 hg1); clear hg1
      have hcv := byte_str w1 (k % 256) (by omega)
      rw [show ((k % 256 : Nat) : Int) = (k : Int) % 256 by omega] at hcv
      have g1 := gb_alloc H1.out (.cells #[.int .u8 ((k : Int) % 256)] 5)
      have htl := shardTells_any (ofL [k % 256]) _ (HT.out.kept g1 (by simp))
      obtain ⟨c1, hc1⟩ : ∃ c1, c1 = ofL [k % 256] := ⟨_, rfl⟩
      rw [← hc1] at hcv htl
      have HU := Lib.hid (And.intro htl g1); clear htl g1 hc1
      go_wp2_with fail
      refine HU.out.1.mono ?_
      rintro e w2 ⟨rfl, hg2⟩
      have H2 := Lib.hid (gb_trans HU.out.2 hg2); clear hg2 hcv
      have hcv := byte_str w2 (97 + k % 26) (by omega)
      rw [show ((97 + k % 26 : Nat) : Int) = 97 + (k : Int) % 26 by omega] at hcv
      have g2 := gb_alloc H2.out (.cells #[.int .u8 (97 + (k : Int) % 26)] 5)
      obtain ⟨c2, hc2⟩ : ∃ c2, c2 = ofL [97 + k % 26] := ⟨_, rfl⟩
      have hz2 : c2.size = 1 := by rw [hc2, ofL_size]; rfl
      rw [← hc2] at hcv
      have hSz := HS.out.1
      have hsz : ¬ 9223372036854775807 < S.size + c2.size := by omega
      have hs3 : (S ++ c2).size = k + 1 := by rw [ByteArray.size_append, hz2, hSz]
      have HV := Lib.hid (And.intro hs3 (And.intro g2 hSz)); clear hs3 g2 hSz hc2 hz2
      go_wp2_with fail
      exact ⟨⟨k + 1, S ++ c2, by omega, by go_num, rfl, HV.out.1, HV.out.2.1⟩, by simp [intOf]; omega⟩
    · obtain rfl : k = 300 := by omega
      have HS := Lib.hid (And.intro hS hg); clear hS hg
      go_wp2_with fail
      refine (awake11_any wr (HT.out.kept HS.out.2 (by simp))).mono ?_
      rintro e w5 ⟨rfl, hg5⟩
      have H5 := Lib.hid (gb_trans HS.out.2 hg5); clear hg5
      go_wp2
      go_ret
      exact ⟨rfl, H5.out⟩
end Go.Proofs.YtpihmhabcmheaaaDoor
