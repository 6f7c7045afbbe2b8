/- scalar's laws: the chapter's examples. -/
import Derived.Test.YtmnlidfalhjghaaGreatDoorScLawKit
namespace Go.Proofs.YtmnlidfalhjghaaGreatDoor
open Go.RowKit Ow

theorem sameBytes_yes (B1 B2 c1 c2 : Nat) (a1 a2 : Option Addr) (p q : List Nat) (w : World) (h : p = q) (hn : p.length = 32) (h1 : BytesAt w B1 a1 c1 p) (h2 : BytesAt w B2 a2 c2 q) :
    Calls Tryz.prog 10 #[.slice a1 32 c1, .slice a2 32 c2] w fun e w' => e = .returned (.bool true) ∧ w.grownBy w' none := by
  subst h
  refine (sameBytes_any B1 B2 32 32 c1 c2 a1 a2 p p w hn hn h1 h2).mono ?_
  rintro e w' ⟨rfl, hg⟩
  exact ⟨by rw [decide_eq_true rfl], hg⟩
theorem byt_small (n i : Nat) (hn : n < 256) (hi : 1 ≤ i) : Sc.byt n i = 0 := by
  have h : (2 : Nat) ^ 8 ≤ 2 ^ (8 * i) := Nat.pow_le_pow_right (by decide) (by omega)
  unfold Sc.byt
  rw [Nat.div_eq_of_lt (by omega)]
theorem bytesN_small (n : Nat) (hn : n < 256) : bytesN n 32 = oneB n := by
  refine list_same (by rw [bytesN_length, oneB_length]) fun i hi => ?_
  rw [bytesN_length] at hi
  rw [bytesN_get n 32 i hi]
  cases i with
  | zero => show Sc.byt n 0 = n; unfold Sc.byt; rw [Nat.mul_zero, Nat.pow_zero, Nat.div_one, Nat.mod_eq_of_lt hn]
  | succ i => rw [byt_small n (i + 1) hn (by omega)]; exact (rep0 31 i).symm
theorem scB_small (n : Nat) (hn : n < 256) : scB n = oneB n := by
  have h : (256 : Nat) ≤ Sc.L := by decide
  unfold scB
  rw [Nat.mod_eq_of_lt (by omega), bytesN_small n hn]
theorem num_one1 : num [1] = 1 := by simp [num, Sc.leN]
theorem scB_one1 : scB (num [1]) = oneB 1 := by rw [num_one1]; exact scB_small 1 (by decide)
theorem num_ord : num (ordB 237) = Sc.L := by have := num_ordB 237; omega
theorem num_ord1 : num (ordB 236) + 1 = Sc.L := by have := num_ordB 236; omega
theorem scB_ord : scB (num (ordB 237)) = oneB 0 := by
  rw [num_ord, ← scB_small 0 (by decide)]
  unfold scB
  rw [Nat.mod_self, Nat.zero_mod]
theorem scB_ten : scB (num (oneB 2) * num (oneB 3) + num (oneB 4)) = oneB 10 := by
  rw [num_oneB, num_oneB, num_oneB]; exact scB_small 10 (by decide)
theorem right_no : decide (num (ordB 237) < Sc.L) = false := by rw [num_ord]; exact decide_eq_false (Nat.lt_irrefl _)
theorem right_yes : decide (num (ordB 236) < Sc.L) = true := by have := num_ord1; exact decide_eq_true (by omega)
theorem one_get (f : Nat → Nat) (k : Nat) (h : k < 256) : ((bitsTo f 256).map Value.bool)[k]? = some (.bool (bitAt f k)) := by
  unfold bitsTo; rw [List.getElem?_map, List.getElem?_map, List.getElem?_range h]; rfl
theorem OTab.stay {w w' : World} (h : OTab w) (hg : w.grownBy w' none) : OTab w' := h.kept hg (fun r e => by cases e)
set_option maxRecDepth 100000 in
set_option maxHeartbeats 4000000 in
theorem awake_any (w : World) (hT : OTab w) : Calls Tryz.prog 6 #[] w fun e w' => e = .returned (.bool true) ∧ w.grownBy w' none := by
  have HT := Lib.hid hT; clear hT
  go_enter Tryz.func6, Tryz.ntmps6
  go_wp2_with fail
  refine ((sone_any 1 w).mono fun e w' h => h.bytes (oneB_length 1) (oneB_lt 1 (by decide))).mono ?_
  rintro e w1 ⟨ga, rfl, hg, hb⟩
  have S0 := Lib.hid hg; clear hg
  have Ha := Lib.hid hb; clear hb
  go_wp2_with fail
  refine (bits_any 32 _ _ (oneB 1) w1 (oneB_length 1) Ha.out).mono ?_
  rintro e w2 ⟨gt, rfl, hg, _, hb⟩
  rw [bitsTo_length]
  have S1 := Lib.hid hg; clear hg
  have HB := Lib.hid hb; clear hb
  go_wp2_with fail
  have hn : BytesAt (w2.alloc (.cells #[.int .u8 1] 5)) (w2.heap.size + 1) (some ⟨w2.heap.size, 0, none⟩) 1 [1] := blk_bytes (l := [1]) (n := 1) (tl := []) (Blk.new w2 [.int .u8 1] 5) rfl (by decide) (by decide) (fun i => by cases i <;> simp) (by omega) (by simp)
  have hgn := gb_alloc (gb_refl w2 none) (.cells #[.int .u8 1] 5)
  refine ((reduce_any 1 1 _ _ [1] _ rfl (by decide) hn ((HT.out.stay (gb_trans S0.out S1.out)).stay hgn)).mono fun e w' h => h.bytes (scB_length _) (scB_lt _)).mono ?_
  rintro e w3 ⟨gr, rfl, hg, hb⟩
  have S2 := Lib.hid (gb_trans hgn hg); clear hg hgn hn
  have Hr := Lib.hid hb; clear hb
  go_wp2_with fail
  refine ((sone_any 1 w3).mono fun e w' h => h.bytes (oneB_length 1) (oneB_lt 1 (by decide))).mono ?_
  rintro e w4 ⟨gb, rfl, hg, hb⟩
  have S3 := Lib.hid hg; clear hg
  have Hb := Lib.hid hb; clear hb
  go_wp2_with fail
  refine (sameBytes_yes _ _ 32 32 _ _ _ _ w4 scB_one1 (scB_length _) (Hr.out.stay S3.out) Hb.out).mono ?_
  rintro e w5 ⟨rfl, hg⟩
  have S4 := Lib.hid hg; clear hg
  go_wp2_with fail
  refine ((l_any (0) 237 w5 (by decide) (by decide)).mono fun e w' h => h.bytes (rfl) (ordB_lt 237 (by decide))).mono ?_
  rintro e w6 ⟨gc, rfl, hg, hb⟩
  have S5 := Lib.hid hg; clear hg
  have Hc := Lib.hid hb; clear hb
  go_wp2_with fail
  refine ((reduce_any 32 32 _ _ (ordB 237) w6 (rfl) (by decide) Hc.out (HT.out.stay (gb_trans (gb_trans (gb_trans (gb_trans (gb_trans S0.out S1.out) S2.out) S3.out) S4.out) S5.out))).mono fun e w' h => h.bytes (scB_length _) (scB_lt _)).mono ?_
  rintro e w7 ⟨gd, rfl, hg, hb⟩
  have S6 := Lib.hid hg; clear hg
  have Hd := Lib.hid hb; clear hb
  go_wp2_with fail
  refine ((sone_any 0 w7).mono fun e w' h => h.bytes (oneB_length 0) (oneB_lt 0 (by decide))).mono ?_
  rintro e w8 ⟨ge0, rfl, hg, hb⟩
  have S7 := Lib.hid hg; clear hg
  have He0 := Lib.hid hb; clear hb
  go_wp2_with fail
  refine (sameBytes_yes _ _ 32 32 _ _ _ _ w8 scB_ord (scB_length _) (Hd.out.stay S7.out) He0.out).mono ?_
  rintro e w9 ⟨rfl, hg⟩
  have S8 := Lib.hid hg; clear hg
  go_wp2_with fail
  refine ((sone_any 2 w9).mono fun e w' h => h.bytes (oneB_length 2) (oneB_lt 2 (by decide))).mono ?_
  rintro e w10 ⟨gf, rfl, hg, hb⟩
  have S9 := Lib.hid hg; clear hg
  have Hf := Lib.hid hb; clear hb
  go_wp2_with fail
  refine ((sone_any 3 w10).mono fun e w' h => h.bytes (oneB_length 3) (oneB_lt 3 (by decide))).mono ?_
  rintro e w11 ⟨gh, rfl, hg, hb⟩
  have S10 := Lib.hid hg; clear hg
  have Hh := Lib.hid hb; clear hb
  go_wp2_with fail
  refine ((sone_any 4 w11).mono fun e w' h => h.bytes (oneB_length 4) (oneB_lt 4 (by decide))).mono ?_
  rintro e w12 ⟨gi, rfl, hg, hb⟩
  have S11 := Lib.hid hg; clear hg
  have Hi := Lib.hid hb; clear hb
  go_wp2_with fail
  refine ((mulAddB_any 32 32 32 _ _ _ _ _ _ (oneB 2) (oneB 3) (oneB 4) w12 (oneB_length _) (oneB_length _) (oneB_length _) (Hf.out.stay (gb_trans S10.out S11.out)) (Hh.out.stay S11.out) Hi.out (HT.out.stay (gb_trans (gb_trans (gb_trans (gb_trans (gb_trans (gb_trans (gb_trans (gb_trans (gb_trans (gb_trans (gb_trans S0.out S1.out) S2.out) S3.out) S4.out) S5.out) S6.out) S7.out) S8.out) S9.out) S10.out) S11.out))).mono fun e w' h => h.bytes (scB_length _) (scB_lt _)).mono ?_
  rintro e w13 ⟨gj, rfl, hg, hb⟩
  have S12 := Lib.hid hg; clear hg
  have Hj := Lib.hid hb; clear hb
  go_wp2_with fail
  refine ((sone_any 10 w13).mono fun e w' h => h.bytes (oneB_length 10) (oneB_lt 10 (by decide))).mono ?_
  rintro e w14 ⟨gk, rfl, hg, hb⟩
  have S13 := Lib.hid hg; clear hg
  have Hk := Lib.hid hb; clear hb
  go_wp2_with fail
  refine (sameBytes_yes _ _ 32 32 _ _ _ _ w14 scB_ten (scB_length _) (Hj.out.stay S13.out) Hk.out).mono ?_
  rintro e w15 ⟨rfl, hg⟩
  have S14 := Lib.hid hg; clear hg
  go_wp2_with fail
  refine ((l_any (0) 237 w15 (by decide) (by decide)).mono fun e w' h => h.bytes (rfl) (ordB_lt 237 (by decide))).mono ?_
  rintro e w16 ⟨gm, rfl, hg, hb⟩
  have S15 := Lib.hid hg; clear hg
  have Hm := Lib.hid hb; clear hb
  go_wp2_with fail
  refine (sright_any 32 _ _ (ordB 237) w16 rfl Hm.out (HT.out.stay (gb_trans (gb_trans (gb_trans (gb_trans (gb_trans (gb_trans (gb_trans (gb_trans (gb_trans (gb_trans (gb_trans (gb_trans (gb_trans (gb_trans (gb_trans S0.out S1.out) S2.out) S3.out) S4.out) S5.out) S6.out) S7.out) S8.out) S9.out) S10.out) S11.out) S12.out) S13.out) S14.out) S15.out))).mono ?_
  rw [right_no]
  rintro e w17 ⟨rfl, hg⟩
  have S16 := Lib.hid hg; clear hg
  go_wp2_with fail
  refine ((l_any (-1) 236 w17 (by decide) (by decide)).mono fun e w' h => h.bytes (rfl) (ordB_lt 236 (by decide))).mono ?_
  rintro e w18 ⟨gn, rfl, hg, hb⟩
  have S17 := Lib.hid hg; clear hg
  have Hn := Lib.hid hb; clear hb
  go_wp2_with fail
  refine (sright_any 32 _ _ (ordB 236) w18 rfl Hn.out (HT.out.stay (gb_trans (gb_trans (gb_trans (gb_trans (gb_trans (gb_trans (gb_trans (gb_trans (gb_trans (gb_trans (gb_trans (gb_trans (gb_trans (gb_trans (gb_trans (gb_trans (gb_trans S0.out S1.out) S2.out) S3.out) S4.out) S5.out) S6.out) S7.out) S8.out) S9.out) S10.out) S11.out) S12.out) S13.out) S14.out) S15.out) S16.out) S17.out))).mono ?_
  rw [right_yes]
  rintro e w19 ⟨rfl, hg⟩
  have S18 := Lib.hid hg; clear hg
  have hbb := HB.out.grown (gb_trans (gb_trans (gb_trans (gb_trans (gb_trans (gb_trans (gb_trans (gb_trans (gb_trans (gb_trans (gb_trans (gb_trans (gb_trans (gb_trans (gb_trans (gb_trans S2.out S3.out) S4.out) S5.out) S6.out) S7.out) S8.out) S9.out) S10.out) S11.out) S12.out) S13.out) S14.out) S15.out) S16.out) S17.out) S18.out) (by simp)
  have c0 := hbb.cell (one_get _ 0 (by decide))
  have c1 := hbb.cell (one_get _ 1 (by decide))
  have e0 : bitAt (fun i => (oneB 1).getD i 0) 0 = true := by decide
  have e1 : bitAt (fun i => (oneB 1).getD i 0) 1 = false := by decide
  rw [e0] at c0
  rw [e1] at c1
  clear hbb e0 e1
  go_wp2
  go_ret
  exact ⟨rfl, (gb_trans (gb_trans (gb_trans (gb_trans (gb_trans (gb_trans (gb_trans (gb_trans (gb_trans (gb_trans (gb_trans (gb_trans (gb_trans (gb_trans (gb_trans (gb_trans (gb_trans (gb_trans S0.out S1.out) S2.out) S3.out) S4.out) S5.out) S6.out) S7.out) S8.out) S9.out) S10.out) S11.out) S12.out) S13.out) S14.out) S15.out) S16.out) S17.out) S18.out)⟩
end Go.Proofs.YtmnlidfalhjghaaGreatDoor
