/- The law ScalarBits, walked. -/
import Derived.Test.YtffjkabgaiijdaaDoorScHalves
namespace Go.Proofs.YtffjkabgaiijdaaDoor
open Go.RowKit Ow

set_option maxHeartbeats 400000 in
theorem bits_none (len cap : Nat) (a : Option Addr) (w : World) (h : len ≠ 32) :
    Calls Tryd.prog 19 #[.slice a len cap] w fun e w' => e = .returned (.slice none 0 0) ∧ w.grownBy w' none := by
  have i0 : ¬ (len : Int) = 32 := by omega
  clear h
  go_enter Tryd.func19, Tryd.ntmps19
  go_wp2
  go_ret
  exact ⟨rfl, gb_refl _ _⟩
theorem bit_num (l : List Nat) (hl : l.length = 32) (hb : ∀ i, l.getD i 0 < 256) (m : Nat) (hm : m < 256) : bitAt (fun i => l.getD i 0) m = decide (num l / 2 ^ m % 2 = 1) := by
  have h := Sc.byt_leN (fun i => l.getD i 0) hb 32 (m / 8) (by omega)
  have hn : num l = Sc.leN (fun i => l.getD i 0) 32 := by unfold num; rw [hl]
  unfold bitAt
  have e : (fun i => l.getD i 0) (m / 8) / 2 ^ (m % 8) % 2 = num l / 2 ^ m % 2 := by
    show l.getD (m / 8) 0 / 2 ^ (m % 8) % 2 = _
    rw [← h, ← hn]
    unfold Sc.byt
    have e1 : (2 : Nat) ^ m = 2 ^ (8 * (m / 8)) * 2 ^ (m % 8) := by rw [← Nat.pow_add]; congr 1; omega
    rw [e1, ← Nat.div_div_eq_div_mul]
    generalize num l / 2 ^ (8 * (m / 8)) = x
    have e2 : (256 : Nat) = 2 ^ (m % 8) * (2 * 2 ^ (7 - m % 8)) := by
      rw [show (2 : Nat) * 2 ^ (7 - m % 8) = 2 ^ (7 - m % 8 + 1) by rw [Nat.pow_succ, Nat.mul_comm], ← Nat.pow_add, show m % 8 + (7 - m % 8 + 1) = 8 by omega]
    rw [e2, Nat.mod_mul_right_div_self, Nat.mod_mul_right_mod]
  rw [e]
theorem bit_step (n m : Nat) : n / 2 ^ m = n / 2 ^ (m + 1) * 2 + n / 2 ^ m % 2 := by
  rw [Nat.pow_succ, ← Nat.div_div_eq_div_mul]; omega
theorem scB_step (n m d : Nat) (h : n / 2 ^ m % 2 = d) : scB (num (scB (n / 2 ^ (m + 1))) * num (oneB 2) + num (oneB d)) = scB (n / 2 ^ m) := by
  rw [scB_num, num_oneB, num_oneB]
  apply scB_congr
  rw [bit_step n m, h]
  conv => lhs; rw [Nat.add_mod, Nat.mul_mod, Nat.mod_mod, ← Nat.mul_mod, ← Nat.add_mod]
theorem oneV (n : Nat) (hn : n < 256) (w : World) : Calls Tryd.prog 17 #[.int .u8 (n : Int)] w fun e w' => ∃ g, e = .returned (.slice (some ⟨g, 0, none⟩) 32 32) ∧ w.grownBy w' none ∧ BytesAt w' w'.heap.size (some ⟨g, 0, none⟩) 32 (oneB n) :=
  (one_any n w).mono fun _ _ h => h.bytes (oneB_length n) (oneB_lt n hn)
set_option maxRecDepth 100000 in
set_option maxHeartbeats 4000000 in
theorem bitsLaw_other (len cap : Nat) (a : Option Addr) (w : World) (hT : OTab w) (h : len ≠ 32) :
    Calls Tryd.prog 4 #[.slice a len cap] w fun e w' => e = .returned (.bool true) ∧ w.grownBy w' none := by
  have HT := Lib.hid hT; clear hT
  have i0 : ¬ (len : Int) = 32 := by omega
  have HN := Lib.hid h; clear h
  go_enter Tryd.func4, Tryd.ntmps4
  go_wp2_with fail
  refine (awake_any w HT.out).mono ?_
  rintro e w1 ⟨rfl, hg1⟩
  have S1 := Lib.hid hg1; clear hg1
  go_wp2_with fail
  refine (bits_none len cap a w1 HN.out).mono ?_
  rintro e w2 ⟨rfl, hg2⟩
  have S2 := Lib.hid hg2; clear hg2
  go_wp2
  go_ret
  exact ⟨rfl, gb_trans S1.out S2.out⟩
set_option maxRecDepth 100000 in
set_option maxHeartbeats 4000000 in
theorem bitsLaw_walk (cap B : Nat) (a : Option Addr) (l : List Nat) (w : World) (hT : OTab w) (hl : l.length = 32) (hP : BytesAt w B a cap l) :
    Calls Tryd.prog 4 #[.slice a 32 cap] w fun e w' => e = .returned (.bool true) ∧ w.grownBy w' none := by
  have HT := Lib.hid hT; clear hT
  have HP := Lib.hid hP; clear hP
  have HL := Lib.hid hl; clear hl
  go_enter Tryd.func4, Tryd.ntmps4
  go_wp2_with fail
  refine (awake_any w HT.out).mono ?_
  rintro e w1 ⟨rfl, hg1⟩
  have S1 := Lib.hid hg1; clear hg1
  go_wp2_with fail
  refine (bits_any cap B a l w1 HL.out (HP.out.stay S1.out)).mono ?_
  rintro e w2 ⟨gt, rfl, hg2, _, hbt⟩
  rw [bitsTo_length]
  have S2 := Lib.hid (gb_trans S1.out hg2); clear hg2
  have HB := Lib.hid hbt; clear hbt
  go_wp2_with fail
  refine (oneV 0 (by decide) w2).mono ?_
  rintro e w3 ⟨g0, rfl, hg3, hb3⟩
  have S3 := Lib.hid (gb_trans S2.out hg3)
  have HB3 := Lib.hid (HB.out.grown hg3 (by simp)); clear hg3
  have h256 : num l / 2 ^ 256 = 0 := Nat.div_eq_of_lt (num_256 l HP.out.byte (by rw [HL.out]; omega))
  have hb3' : BytesAt w3 w3.heap.size (some ⟨g0, 0, none⟩) 32 (scB (num l / 2 ^ 256)) := by rw [h256, scB_small 0 (by decide)]; exact hb3
  have H3 := Lib.hid hb3'; clear hb3 hb3' h256
  go_wp2
  go_loopw [4, 5] (fun av iv wr => ∃ (m g : Nat) (iz : Int), m ≤ 256 ∧ iz + 1 = m ∧ iv = .int .i64 iz ∧ av = .slice (some ⟨g, 0, none⟩) 32 32 ∧ w.grownBy wr none ∧ BytesAt wr wr.heap.size (some ⟨g, 0, none⟩) 32 (scB (num l / 2 ^ m)) ∧ Blk wr gt 4 ((bitsTo (fun i => l.getD i 0) 256).map Value.bool)) (fun _ iv _ => (intOf iv + 1).toNat)
  case atStart => exact ⟨256, g0, 255, by omega, rfl, rfl, rfl, S3.out, H3.out, HB3.out⟩
  case round =>
    clear S1 S2 S3 H3 HB HB3
    obtain ⟨m, g, iz, hm, hiz, rfl, rfl, hg, hbv, hbt⟩ := hrel
    rcases Nat.eq_zero_or_pos m with h0 | h0
    · have e1 : iz = -1 := by omega
      subst e1
      subst h0
      have H := Lib.hid (And.intro hg (And.intro hbv hbt)); clear hg hbv hbt hiz
      go_wp2_with fail
      refine (reduceV 32 cap B a l _ HL.out (by decide) (HP.out.stay H.out.1) (HT.out.stay H.out.1)).mono ?_
      rintro e w5 ⟨g5, rfl, hg5, hb5⟩
      have H5 := Lib.hid (And.intro hg5 hb5); clear hg5 hb5
      have heq : scB (num l / 2 ^ 0) = scB (num l) := by rw [Nat.pow_zero, Nat.div_one]
      have HE := Lib.hid heq; clear heq
      go_wp2_with fail
      refine (sameBytes_yes _ _ 32 32 _ _ _ _ w5 HE.out (scB_length _) (H.out.2.1.stay H5.out.1) H5.out.2).mono ?_
      rintro e w6 ⟨rfl, hg6⟩
      have H6 := Lib.hid hg6; clear hg6
      go_wp2
      go_ret
      exact ⟨rfl, gb_trans (gb_trans H.out.1 H5.out.1) H6.out⟩
    · obtain ⟨d, rfl⟩ : ∃ d, m = d + 1 := ⟨m - 1, by omega⟩
      have e1 : iz = (d : Int) := by omega
      subst e1
      have d256 : d < 256 := by omega
      have hbit := hbt.cell (one_get (fun i => l.getD i 0) d d256)
      rw [bit_num l HL.out HP.out.byte d d256] at hbit
      have HD := Lib.hid (And.intro d256 hm)
      have H := Lib.hid (And.intro hg (And.intro hbv hbt)); clear hg hbv hbt hiz h0 hm
      by_cases hx : num l / 2 ^ d % 2 = 1
      · rw [decide_eq_true hx] at hbit
        have HS := Lib.hid (scB_step (num l) d 1 hx); clear hx
        go_wp2_with fail
        refine (oneV 0 (by decide) _).mono ?_
        rintro e w5 ⟨g5, rfl, hg5, hb5⟩
        have hbit5 := (gb_cell hg5 (p := ⟨gt, d, none⟩) H.out.2.2.lt (by simp)).trans hbit
        have H5 := Lib.hid (And.intro hg5 hb5); clear hg5 hb5 hbit
        go_wp2_with fail
        refine (oneV 1 (by decide) _).mono ?_
        rintro e w6 ⟨g6, rfl, hg6, hb6⟩
        have H6 := Lib.hid (And.intro (gb_trans H5.out.1 hg6) hb6); clear hg6 hb6 hbit5
        go_wp2_with fail
        refine (oneV 2 (by decide) _).mono ?_
        rintro e w7 ⟨g7, rfl, hg7, hb7⟩
        have H7 := Lib.hid (And.intro hg7 (And.intro (gb_trans H6.out.1 hg7) hb7)); clear hg7 hb7
        go_wp2_with fail
        refine (mulV 32 32 32 _ _ _ _ _ _ _ (oneB 2) (oneB 1) w7 (scB_length _) (oneB_length 2) (oneB_length 1) (H.out.2.1.stay H7.out.2.1) H7.out.2.2 (H6.out.2.stay H7.out.1) (HT.out.stay (gb_trans H.out.1 H7.out.2.1))).mono ?_
        rintro e w8 ⟨g8, rfl, hg8, hb8⟩
        rw [HS.out] at hb8
        have H8 := Lib.hid (And.intro (gb_trans H7.out.2.1 hg8) hb8); clear hg8 hb8
        go_wp2
        go_roundw
        case rel => exact ⟨d, g8, (d : Int) - 1, by have := HD.out.1; omega, by omega, rfl, rfl, gb_trans H.out.1 H8.out.1, H8.out.2, H.out.2.2.grown H8.out.1 (by simp)⟩
        case measure => simp [intOf]
      · rw [decide_eq_false hx] at hbit
        have HS := Lib.hid (scB_step (num l) d 0 (by omega)); clear hx
        go_wp2_with fail
        refine (oneV 0 (by decide) _).mono ?_
        rintro e w5 ⟨g5, rfl, hg5, hb5⟩
        have hbit5 := (gb_cell hg5 (p := ⟨gt, d, none⟩) H.out.2.2.lt (by simp)).trans hbit
        have H5 := Lib.hid (And.intro hg5 hb5); clear hg5 hb5 hbit
        go_wp2_with fail
        refine (oneV 2 (by decide) _).mono ?_
        rintro e w7 ⟨g7, rfl, hg7, hb7⟩
        have H7 := Lib.hid (And.intro hg7 (And.intro (gb_trans H5.out.1 hg7) hb7)); clear hg7 hb7 hbit5
        go_wp2_with fail
        refine (mulV 32 32 32 _ _ _ _ _ _ _ (oneB 2) (oneB 0) w7 (scB_length _) (oneB_length 2) (oneB_length 0) (H.out.2.1.stay H7.out.2.1) H7.out.2.2 (H5.out.2.stay H7.out.1) (HT.out.stay (gb_trans H.out.1 H7.out.2.1))).mono ?_
        rintro e w8 ⟨g8, rfl, hg8, hb8⟩
        rw [HS.out] at hb8
        have H8 := Lib.hid (And.intro (gb_trans H7.out.2.1 hg8) hb8); clear hg8 hb8
        go_wp2
        go_roundw
        case rel => exact ⟨d, g8, (d : Int) - 1, by have := HD.out.1; omega, by omega, rfl, rfl, gb_trans H.out.1 H8.out.1, H8.out.2, H.out.2.2.grown H8.out.1 (by simp)⟩
        case measure => simp [intOf]
end Go.Proofs.YtffjkabgaiijdaaDoor
