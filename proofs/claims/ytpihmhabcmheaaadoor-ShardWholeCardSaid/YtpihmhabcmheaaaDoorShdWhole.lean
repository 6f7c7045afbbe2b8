/- The law ShardWhole's walk. -/
import Derived.Test.YtpihmhabcmheaaaDoorShdAwake
import Derived.Sort.CutIn
namespace Go.Proofs.YtpihmhabcmheaaaDoor
open Go.RowKit Ow
/-- the signs of all bits -/
def allL (D : List Nat) : List Nat := [48 + shardN D / 2, 48 + shardN D % 2] ++ wayL D
theorem allL_len (D : List Nat) : (allL D).length = 512 := by unfold allL; rw [List.length_append, wayL_len]; rfl
theorem allL_get (D : List Nat) (i : Nat) (h : i < 512) : (allL D).getD i 0 = 48 + bitA D i := by
  have l0 := bitA_lt D 0
  have l1 := bitA_lt D 1
  rcases i with _ | _ | i
  · show 48 + shardN D / 2 = _; unfold shardN; omega
  · show 48 + shardN D % 2 = 48 + bitA D 1; unfold shardN; omega
  · have e : (allL D).getD (i + 1 + 1) 0 = (wayL D).getD i 0 := by
      unfold allL
      rw [List.getD_eq_getElem?_getD, List.getElem?_append_right (by simp), List.getD_eq_getElem?_getD]
      rfl
    rw [e, wayL_get D i (by omega)]
theorem allL_byte (D : List Nat) (i : Nat) : (allL D).getD i 0 < 256 := by
  rcases Nat.lt_or_ge i 512 with h | h
  · rw [allL_get D i h]; have := bitA_lt D i; omega
  · rw [List.getD_eq_getElem?_getD, List.getElem?_eq_none (by rw [allL_len]; exact h)]; decide
theorem ofL_append (a b : List Nat) : ofL a ++ ofL b = ofL (a ++ b) := by
  apply ByteArray.ext
  simp [ofL]
theorem shardN_lt (D : List Nat) : shardN D < 4 := by have := bitA_lt D 0; have := bitA_lt D 1; unfold shardN; omega
theorem strL_get (s : ByteArray) (i : Nat) (h : i < s.size) : (strL s).getD i 0 = (s[i]'h).toNat := by
  unfold strL
  have h2 : i < s.data.toList.length := h
  simp only [List.getD_eq_getElem?_getD, List.getElem?_map, List.getElem?_eq_getElem h2, Option.map_some, Option.getD_some]
  rfl
/-- a string's byte -/
theorem index_str {l : List Nat} (s : ByteArray) (hs : strL s = l) (i : Nat) (h : i < l.length) (w : World) : (Instr.index 9 (.string s) (.int .i64 (i : Int))).run Tryd.prog w = .ok (.int .u8 ((l.getD i 0 : Nat) : Int)) w := by
  have hz : i < s.size := by rw [← hs, strL_len] at h; exact h
  rw [run_index_string (h := Tryd.underlying9), dif_pos ⟨by omega, by omega⟩, ← hs, strL_get s i hz]
  simp only [Int.toNat_natCast]
set_option maxRecDepth 100000 in
set_option maxHeartbeats 4000000 in
theorem shardWhole_any (s : ByteArray) (w : World) (hT : Tables w) :
    Calls Tryd.prog 5 #[.string s] w fun e w' => e = .returned (.bool true) ∧ w.grownBy w' none := by
  have HT := Lib.hid hT; clear hT
  go_enter Tryd.func5, Tryd.ntmps5
  go_wp2_with fail
  refine (awake11_any w HT.out).mono ?_
  rintro e w1 ⟨rfl, hg1⟩
  have H1 := Lib.hid hg1; clear hg1
  by_cases hlen : s.size ≤ 2000
  · have i0 : (s.size : Int) ≤ 2000 := by omega
    have i1 : ¬ (2000 : Int) < (s.size : Int) := by omega
    go_wp2_with fail
    refine (bits_any s w1 (HT.out.kept H1.out (by simp)) (by omega)).mono ?_
    rintro e w2 ⟨rfl, hg2⟩
    have H2 := Lib.hid (gb_trans H1.out hg2); clear hg2
    go_wp2_with fail
    refine (of_any s w2 (HT.out.kept H2.out (by simp)) (by omega)).mono ?_
    rintro e w3 ⟨rfl, hg3⟩
    have H3 := Lib.hid (gb_trans H2.out hg3); clear hg3
    have hz1 : (ofL (wayL (keyD s))).size = 510 := by rw [ofL_size, wayL_len]
    have hk4 := shardN_lt (keyD s)
    obtain ⟨k, hk⟩ : ∃ k, k = shardN (keyD s) := ⟨_, rfl⟩
    rw [← hk] at hk4 ⊢
    have HK := Lib.hid hk; clear hk
    have hb2 := (blk_bytes (l := [48 + k / 2, 48 + k % 2]) (n := 2) (cap := 2) (tl := []) (blk_at w3 (B := w3.heap.size) [u8N (48 + k / 2), u8N (48 + k % 2)] 5 rfl) rfl (by omega) (by omega) (fun i => small_byte _ (by intro x hx; simp at hx; omega) i) (Nat.lt_succ_self _) (by simp))
    have hcv := bytes_str (n := 2) rfl hb2
    unfold u8N at hcv
    have e1 : ((48 + k / 2 : Nat) : Int) = 48 + (k : Int) / 2 := by omega
    have e2 : ((48 + k % 2 : Nat) : Int) = 48 + (k : Int) % 2 := by omega
    rw [e1, e2] at hcv
    have g4 := gb_alloc H3.out (.cells #[.int .u8 (48 + (k : Int) / 2), .int .u8 (48 + (k : Int) % 2)] 5)
    obtain ⟨hd, hhd⟩ : ∃ hd, hd = ofL [48 + k / 2, 48 + k % 2] := ⟨_, rfl⟩
    obtain ⟨wy, hwy⟩ : ∃ wy, wy = ofL (wayL (keyD s)) := ⟨_, rfl⟩
    rw [← hhd] at hcv
    rw [← hwy] at hz1 ⊢
    have hz2 : hd.size = 2 := by rw [hhd, ofL_size]; rfl
    obtain ⟨S, hS⟩ : ∃ S, hd ++ wy = S := ⟨_, rfl⟩
    have hSe : S = ofL (allL (keyD s)) := by rw [← hS, hhd, hwy, ofL_append, HK.out]; rfl
    have hSz : S.size = 512 := by rw [hSe, ofL_size, allL_len]
    have HSe := Lib.hid (And.intro hSe g4); clear hSe hhd hwy hb2 e1 e2 g4
    have hcv : (convert 26 9 (.slice (some ⟨w3.heap.size, 0, none⟩) 2 2)).run Tryd.prog (w3.alloc (.cells #[.int .u8 (48 + (k : Int) / 2), .int .u8 (48 + (k : Int) % 2)] 5)) = .ok (.string hd) (w3.alloc (.cells #[.int .u8 (48 + (k : Int) / 2), .int .u8 (48 + (k : Int) % 2)] 5)) := hcv
    go_upto_region 10 with (fail)
    have g4 := HSe.out.2
    have HQ := Lib.hid HSe.out.1
    clear hcv HSe HK hS hz1 hz2
    revert g4
    generalize w3.alloc (.cells #[.int .u8 (48 + (k : Int) / 2), .int .u8 (48 + (k : Int) % 2)] 5) = w4
    intro g4
    have hA := blk_bytes (l := [6]) (n := 1) (cap := 1) (tl := []) (blk_at w4 (B := w4.heap.size) [u8N 6] 5 rfl) rfl (by omega) (by omega) (fun i => small_byte [6] (by decide) i) (Nat.lt_succ_self _) (by simp)
    obtain ⟨c, w5, hcv, hg5, hC⟩ := str_bytes s (w4.alloc (.cells #[u8N 6] 5)) (by omega)
    have s2 : (w4.alloc (.cells #[u8N 6] 5)).heap.size = w4.heap.size + 1 := by simp
    rw [s2] at hcv hC
    have hA5 := (hA.stay hg5).up (B' := w5.heap.size) (by have := hg5.size; rw [s2] at this; exact this) (Nat.le_refl _)
    have g5 := gb_trans (gb_trans g4 (gb_alloc (gb_refl w4 none) (.cells #[u8N 6] 5))) hg5
    have hsum := key_sum w4.heap.size (w4.heap.size + 1) c s.size s w5 rfl (HT.out.kept g5 (by simp)) (by omega) hA5 hC
    have hcv : (convert 9 26 (.string s)).run Tryd.prog (w4.alloc (.cells #[.int .u8 6] 5)) = .ok (.slice (some ⟨w4.heap.size + 1, 0, none⟩) s.size c) w5 := hcv
    have HU := Lib.hid (And.intro hsum g5)
    clear hsum g5 hA5 hA hg5 hC s2 g4 H1 H2 H3
    go_wp2_with fail
    refine HU.out.1.mono ?_
    rintro e w6 ⟨NB, rfl, hg6, _, hD⟩
    have hl : (keyD s).length = 64 := keyD_len s
    have hcell : ∀ i, i < 64 → w6.cell? ⟨NB, i, none⟩ = some (u8N ((keyD s).getD i 0)) := fun i hi => hD.cell (u8_getD (by omega))
    have hdb := keyD_byte s
    have HV := Lib.hid (And.intro hcell (And.intro (gb_trans HU.out.2 hg6) hdb)); clear hcell hdb hg6 hD hl HU hcv
    go_wp2
    go_loopw [6] (fun i wr => ∃ k j : Nat, k ≤ 512 ∧ i = .int .i64 k ∧ wr = w6.drewN j) (fun i _ => 512 - (intOf i).toNat)
    case atStart => exact ⟨0, 0, by omega, rfl, rfl⟩
    case round =>
      obtain ⟨i, j, hi, rfl, rfl⟩ := hrel
      by_cases hlt : i < 512
      · have hx : w6.cell? ⟨NB, i / 8, none⟩ = some (u8N ((keyD s).getD (i / 8) 0)) := HV.out.1 _ (by omega)
        have hxl := HV.out.2.2 (i / 8)
        have hget : (allL (keyD s)).getD i 0 = 48 + bitA (keyD s) i := allL_get _ i hlt
        have hbl := bitA_lt (keyD s) i
        have hbe : bitA (keyD s) i = (keyD s).getD (i / 8) 0 / 2 ^ (7 - i % 8) % 2 := rfl
        generalize (keyD s).getD (i / 8) 0 = x at hx hxl hbe
        have hbit := bit_at x (7 - i % 8) hxl
        rw [← hbe] at hbit
        clear hbe
        generalize bitA (keyD s) i = y at hget hbl hbit
        have hidx : ∀ w, (Instr.index 9 (.string S) (.int .i64 (i : Int))).run Tryd.prog w = .ok (.int .u8 (48 + (y : Int))) w := by
          intro w
          have h := index_str (l := allL (keyD s)) S (by rw [HQ.out]; exact strL_ofL (allL_byte (keyD s))) i (by rw [allL_len]; exact hlt) w
          rw [hget] at h
          exact h
        have i3 : (i : Int) < 512 := by omega
        have i4 : i / 8 < 64 := by omega
        unfold u8N at hx
        go_wp2
        go_quiet (fail)
        go_wp2
        exact ⟨⟨i + 1, _, by omega, by go_num, rfl⟩, by simp [intOf]; omega⟩
      · obtain rfl : i = 512 := by omega
        go_wp2
        go_ret
        exact ⟨rfl, gb_drewN HV.out.2.1 _⟩
  · have i0 : (2000 : Int) < (s.size : Int) := by omega
    go_wp2
    go_ret
    exact ⟨rfl, H1.out⟩
end Go.Proofs.YtpihmhabcmheaaaDoor
