/- shard: the document's own Of and Bits. -/
import Derived.Test.YtpihmhabcmheaaaDoorShdRef
import Derived.Test.YtpihmhabcmheaaaDoorShdWay
namespace Go.Proofs.YtpihmhabcmheaaaDoor
open Go.RowKit Ow
theorem bitsF_get (D : List Nat) (a k i : Nat) (h : i < k) : (bitsF D a k).getD i 0 = bitA D (a + i) := by
  unfold bitsF
  rw [List.getD_eq_getElem?_getD, List.getElem?_map, List.getElem?_range h]
  rfl
theorem ofL_size (l : List Nat) : (ofL l).size = l.length := by simp [ofL, ByteArray.size]
theorem ofL_snoc (l : List Nat) (x : Nat) : ofL l ++ ⟨#[UInt8.ofNat x]⟩ = ofL (l ++ [x]) := by
  apply ByteArray.ext
  simp [ofL]
set_option maxRecDepth 100000 in
set_option maxHeartbeats 1000000 in
theorem refOf_any (s : ByteArray) (w : World) (hs : s.size < 2147480000) :
    Calls Tryd.prog 7 #[.string s] w fun e w' => e = .returned (.int .i64 (shardN (keyD s) : Int)) ∧ w.grownBy w' none := by
  go_enter Tryd.func7, Tryd.ntmps7
  go_wp2_with fail
  refine (refBits_any s w hs).mono ?_
  rintro e w1 ⟨g, c, rfl, hg, ho⟩
  have k0 : w1.cell? ⟨g, 0, none⟩ = some (u8N (bitA (keyD s) 0)) := by
    have := own_cell ho (u8_getD (l := bitsF (keyD s) 0 512) (i := 0) (by rw [bitsF_len]; decide))
    rwa [bitsF_get _ _ _ _ (by decide)] at this
  have k1 : w1.cell? ⟨g, 1, none⟩ = some (u8N (bitA (keyD s) 1)) := by
    have := own_cell ho (u8_getD (l := bitsF (keyD s) 0 512) (i := 1) (by rw [bitsF_len]; decide))
    rwa [bitsF_get _ _ _ _ (by decide)] at this
  have l0 := bitA_lt (keyD s) 0
  have l1 := bitA_lt (keyD s) 1
  have hx : shardN (keyD s) = 2 * bitA (keyD s) 0 + bitA (keyD s) 1 := rfl
  generalize bitA (keyD s) 0 = x0 at *
  generalize bitA (keyD s) 1 = x1 at *
  have HX := Lib.hid (And.intro hx hg); clear hx hg ho
  unfold u8N at k0 k1
  go_wp2
  go_quiet (fail)
  go_wp2
  go_ret
  refine ⟨?_, gb_drewN HX.out.2 _⟩
  rw [HX.out.1]
  simp
set_option maxRecDepth 100000 in
set_option maxHeartbeats 1000000 in
theorem refWay_any (s : ByteArray) (w : World) (hs : s.size < 2147480000) :
    Calls Tryd.prog 9 #[.string s] w fun e w' => e = .returned (.string (ofL (wayL (keyD s)))) ∧ w.grownBy w' none := by
  go_enter Tryd.func9, Tryd.ntmps9
  go_wp2_with fail
  refine (refBits_any s w hs).mono ?_
  rintro e w1 ⟨g, c, rfl, hg, ho⟩
  have kk : ∀ i, i < 512 → w1.cell? ⟨g, i, none⟩ = some (u8N (bitA (keyD s) i)) := fun i hi => by
    have := own_cell ho (u8_getD (l := bitsF (keyD s) 0 512) (i := i) (by rw [bitsF_len]; exact hi))
    rwa [bitsF_get _ _ _ _ hi, Nat.zero_add] at this
  have HX := Lib.hid (And.intro kk hg); clear kk hg ho
  go_wp2
  go_loopw [4, 5] (fun v i wr => ∃ k : Nat, k ≤ 510 ∧ i = .int .i64 ((k + 2 : Nat) : Int) ∧ v = .string (ofL (signsL (bitsF (keyD s) 2 k))) ∧ wr = w1) (fun _ i _ => 512 - (intOf i).toNat)
  case atStart => exact ⟨0, by omega, rfl, rfl, rfl⟩
  case round =>
    obtain ⟨k, hk, rfl, rfl, rfl⟩ := hrel
    by_cases hlt : k < 510
    · obtain ⟨i, hi⟩ : ∃ i, i = k + 2 := ⟨_, rfl⟩
      rw [← hi]
      have hx := HX.out.1 i (by omega)
      have hxl := bitA_lt (keyD s) i
      have hnext := bitsF_succ (keyD s) 2 k
      rw [Nat.add_comm 2 k, ← hi] at hnext
      generalize bitA (keyD s) i = y at *
      have i0 : (i : Int) < 512 := by omega
      have HN := Lib.hid (And.intro hi hnext); clear hi hnext
      have hsz : ¬ 9223372036854775807 < (ofL (signsL (bitsF (keyD s) 2 k))).size + 1 := by rw [ofL_size, signsL_len, bitsF_len]; omega
      unfold u8N at hx
      obtain rfl | rfl : y = 0 ∨ y = 1 := by omega
      · change wr.cell? _ = some (.int .u8 0) at hx
        go_wp2
        exact ⟨⟨k + 1, by omega, by have := HN.out.1; congr 1; omega, by rw [HN.out.2, signsL_snoc, ← ofL_snoc]; rfl, trivial⟩, by simp [intOf]; omega⟩
      · change wr.cell? _ = some (.int .u8 1) at hx
        go_wp2
        exact ⟨⟨k + 1, by omega, by have := HN.out.1; congr 1; omega, by rw [HN.out.2, signsL_snoc, ← ofL_snoc]; rfl, trivial⟩, by simp [intOf]; omega⟩
    · obtain rfl : k = 510 := by omega
      rw [show ((510 + 2 : Nat) : Int) = 512 from rfl]
      go_wp2
      go_ret
      exact ⟨rfl, HX.out.2⟩
end Go.Proofs.YtpihmhabcmheaaaDoor
