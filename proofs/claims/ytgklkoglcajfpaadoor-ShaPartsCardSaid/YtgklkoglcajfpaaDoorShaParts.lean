/- The law ShaParts's walk. -/
import Derived.Test.YtgklkoglcajfpaaDoorShaLawKit
namespace Go.Proofs.YtgklkoglcajfpaaDoor
open Go.RowKit

/-- what the law's loops keep -/
structure PInv (w wr : World) (ND H1 : Nat) (p q : List Nat) : Prop where
  g : w.grownBy wr none
  d : Blk wr ND 5 ((Sha.sum p).map u8V)
  h : IsHash wr H1 H1 q
theorem part_cut {w : World} {B cap : Nat} {a a' : Option Addr} {p : List Nat} (h : PartAt w B a cap p) (lo k : Nat) (hk : lo + k ≤ p.length) (ha : lo < cap → ∀ pb po, a = some ⟨pb, po, none⟩ → a' = some ⟨pb, po + lo, none⟩) :
    PartAt w B a' (cap - lo) ((p.drop lo).take k) ∧ ((p.drop lo).take k).length = k := by
  have hc := h.cap
  refine ⟨(h.from (by omega) (fun hl => ha (by omega))).take k, ?_⟩
  rw [List.length_take, List.length_drop]; omega

set_option maxRecDepth 100000 in
set_option maxHeartbeats 2000000 in
theorem shaParts_any (a0 a1 : Option Addr) (len0 cap0 len1 cap1 : Nat) (p : List Nat) (zs : List Int) (w : World) (hT : Tables w) (hp : p.length = len0) (hP : PartAt w w.heap.size a0 cap0 p) (hc0 : cap0 < 9223372036854775808)
    (hI : IntsAt w a1 len1 zs) (h3 : len0 ≤ 3000) (h4 : len1 ≤ 40) :
    Calls Tryd.prog 7 #[.slice a0 len0 cap0, .slice a1 len1 cap1] w fun e w' => e = .returned (.bool true) ∧ Below w.heap.size w w' := by
  have HT := Lib.hid hT
  have hw2 := hT.lt
  have hpc := hP.cap
  have HP := Lib.hid (And.intro hp hP); clear hP
  have HI := Lib.hid hI; clear hI hT
  rw [hp] at hpc
  clear hp
  go_enter Tryd.func7, Tryd.ntmps7
  go_wp2_with fail
  refine (awake_any w HT.out).mono ?_
  rintro e w1 ⟨rfl, hg1⟩
  have G1 := Lib.hid hg1; clear hg1
  have n3 : ¬ (3000 : Int) < (len0 : Int) := by omega
  have n4 : decide ((40 : Int) < (len1 : Int)) = false := by simp; omega
  go_wp2_with fail
  refine (sum_one (w1.heap.size + 1) cap0 len0 p a0 w1 HP.out.1 (HT.out.kept G1.out (by simp)) (by omega) (HP.out.2.grown G1.out (by have := G1.out.size; omega)) hc0 (by rw [HP.out.1]; omega)).mono ?_
  rintro e w2 ⟨ND, rfl, hg2, hN2, hb2⟩
  have G2 := Lib.hid (And.intro (gb_trans G1.out hg2) (And.intro hb2 (Nat.le_trans G1.out.size hN2))); clear hg2 hN2 hb2
  go_wp2_with fail
  refine (new_any w2 (HT.out.kept G2.out.1 (by simp))).mono ?_
  rintro e w3 ⟨rfl, hg3, hH3⟩
  have G3 := Lib.hid (And.intro (PInv.mk (gb_trans G2.out.1 hg3) (G2.out.2.1.grown hg3 (by simp)) hH3) (And.intro G2.out.2.1.lt (And.intro G2.out.1.size G2.out.2.2))); clear hg3 hH3 G1 G2
  have hH1 := G3.out.2.2.1
  have hND2 := G3.out.2.2.2
  have hND := G3.out.2.1
  generalize w2.heap.size = H1 at *
  go_wp2
  go_loopw [7, 8] (fun v i wr => ∃ k at' : Nat, k ≤ len1 ∧ at' ≤ len0 ∧ i = .int .i64 k ∧ v = .int .i64 at' ∧ PInv w wr ND H1 p (p.take at')) (fun _ i _ => len1 - (intOf i).toNat)
  case atStart => exact ⟨0, 0, by omega, by omega, rfl, rfl, G3.out.1⟩
  case round =>
    obtain ⟨k, at', hk, hat, rfl, rfl, hI⟩ := hrel
    by_cases hlt : k < len1
    · obtain ⟨qb, qo, rfl, hql, hqc⟩ := HI.out.cells.resolve_left (by omega)
      have kq : wr.cell? ⟨qb, qo + k, none⟩ = some (.int .i64 (zs.getD k 0)) := by rw [gb_cell hI.g (p := ⟨qb, qo + k, none⟩) hql (by simp)]; exact hqc k hlt
      have hwf := HI.out.wf k
      clear hqc
      generalize zs.getD k 0 = x at *
      have HX := Lib.hid (And.intro hwf hI); clear hwf hI
      have i0 : (k : Int) < (len1 : Int) := by omega
      have i1 : (at' : Int) ≤ (len0 : Int) := by omega
      go_wp2_with fail
      refine (pick_any x _ wr (by omega) (by omega) HX.out.1.1 HX.out.1.2).mono ?_
      rintro e w4 ⟨r, hr, rfl, rfl⟩
      have hr2 : at' + r ≤ len0 := by omega
      obtain ⟨a', hsl, ha'⟩ := slice_run a0 len0 cap0 at' r (by omega)
      obtain ⟨hcut, hcl⟩ := part_cut (a' := a') HP.out.2 at' r (by rw [HP.out.1]; exact hr2) ha'
      have HC := Lib.hid (And.intro hcut hcl); clear hcut hcl ha' hr
      go_wp2_with fail
      refine (write_one H1 (cap0 - at') r (p.take at') ((p.drop at').take r) a' wr HC.out.2 (HT.out.kept HX.out.2.g (by simp)) (by omega) HX.out.2.h (HC.out.1.grown HX.out.2.g (by omega)) (by omega) (by rw [HC.out.2, List.length_take]; omega)).mono ?_
      rintro e w5 ⟨rfl, hg5, hH5⟩
      rw [show p.take at' ++ (p.drop at').take r = p.take (at' + r) by rw [List.take_add]] at hH5
      have H5 := Lib.hid (PInv.mk (gb_then HX.out.2.g hg5 hH1) (HX.out.2.d.grown hg5 (by intro e; cases e; omega)) hH5); clear hg5 hH5 hsl
      go_wp2
      go_roundw
      case rel => exact ⟨k + 1, at' + r, by omega, hr2, by go_num, by go_num, H5.out⟩
      case measure => simp [intOf]; omega
    · obtain rfl : k = len1 := by omega
      clear hlt hk
      have HX := Lib.hid hI; clear hI
      have i1 : (at' : Int) ≤ (len0 : Int) := by omega
      obtain ⟨a', hsl, ha'⟩ := slice_from a0 len0 cap0 at' hat
      have hcut : PartAt w w.heap.size a' (cap0 - at') (p.drop at') := HP.out.2.from (by rw [HP.out.1]; exact hat) (fun hl => ha' (by have := HP.out.1; omega))
      have hcl : (p.drop at').length = len0 - at' := by rw [List.length_drop, HP.out.1]
      have HC := Lib.hid (And.intro hcut hcl); clear hcut hcl ha'
      go_wp2_with fail
      refine (write_one H1 (cap0 - at') (len0 - at') (p.take at') (p.drop at') a' wr HC.out.2 (HT.out.kept HX.out.g (by simp)) (by omega) HX.out.h (HC.out.1.grown HX.out.g (by omega)) (by omega) (by rw [HC.out.2, List.length_take]; omega)).mono ?_
      rintro e w5 ⟨rfl, hg5, hH5⟩
      rw [List.take_append_drop] at hH5
      have H5 := Lib.hid (PInv.mk (gb_then HX.out.g hg5 hH1) (HX.out.d.grown hg5 (by intro e; cases e; omega)) hH5); clear hg5 hH5 hsl HX HC
      go_wp2_with fail
      refine (new_any w5 (HT.out.kept H5.out.g (by simp))).mono ?_
      rintro e w6 ⟨rfl, hg6, hH6⟩
      have hI6 : PInv w w6 ND H1 p p := ⟨gb_trans H5.out.g hg6, H5.out.d.grown hg6 (by simp), H5.out.h.kept hg6⟩
      have hH12 := H5.out.h.lt
      have G6 := Lib.hid (And.intro hI6 hH6); clear hI6 hH6 hg6 H5
      generalize w5.heap.size = H2 at *
      go_wp2
      go_loopw [11] (fun v wr => ∃ i : Nat, i ≤ len0 ∧ v = .int .i64 i ∧ PInv w wr ND H1 p p ∧ IsHash wr H2 H2 (p.take i)) (fun v _ => len0 - (intOf v).toNat)
      case atStart => exact ⟨0, by omega, rfl, G6.out⟩
      case round =>
        obtain ⟨i, hi, rfl, hI, hS⟩ := hrel
        by_cases hlt : i < len0
        · have i2 : (i : Int) < (len0 : Int) := by omega
          obtain ⟨a', hsl, ha'⟩ := slice_run a0 len0 cap0 i 1 (by omega)
          rw [show ((1 : Nat) : Int) = 1 from rfl] at hsl
          obtain ⟨hcut, hcl⟩ := part_cut (a' := a') HP.out.2 i 1 (by rw [HP.out.1]; omega) ha'
          have HC := Lib.hid (And.intro hcut (And.intro hcl (And.intro hI hS))); clear hcut hcl ha' hI hS
          go_wp2_with fail
          refine (write_one H2 (cap0 - i) 1 (p.take i) ((p.drop i).take 1) a' wr HC.out.2.1 (HT.out.kept HC.out.2.2.1.g (by simp)) (by omega) HC.out.2.2.2 (HC.out.1.grown HC.out.2.2.1.g (by omega)) (by omega) (by rw [HC.out.2.1, List.length_take]; omega)).mono ?_
          rintro e w7 ⟨rfl, hg7, hH7⟩
          rw [show p.take i ++ (p.drop i).take 1 = p.take (i + 1) by rw [List.take_add]] at hH7
          have hI7 : PInv w w7 ND H1 p p := ⟨gb_then HC.out.2.2.1.g hg7 (by omega), HC.out.2.2.1.d.grown hg7 (by intro e; cases e; omega), HC.out.2.2.1.h.grown hg7 (by omega)⟩
          have H7 := Lib.hid (And.intro hI7 hH7); clear hg7 hH7 hI7 hsl
          go_wp2
          go_roundw
          case rel => exact ⟨i + 1, by omega, by go_num, H7.out⟩
          case measure => simp [intOf]; omega
        · obtain rfl : i = len0 := by omega
          clear hlt hi
          rw [← HP.out.1, List.take_length] at hS
          have HZ := Lib.hid (And.intro hI hS); clear hI hS
          go_wp2_with fail
          refine (sum_hash H1 p wr (HT.out.kept HZ.out.1.g (by simp)) (by rw [HP.out.1]; omega) HZ.out.1.h).mono ?_
          rintro e w8 ⟨N8, rfl, hg8, hN8, hb8⟩
          have hlt8 := HZ.out.1.g.size
          have H8 := Lib.hid (And.intro (gb_trans HZ.out.1.g hg8) (And.intro (HZ.out.1.d.grown hg8 (by simp)) (And.intro (HZ.out.2.kept hg8) (And.intro (HT.out.kept (gb_trans HZ.out.1.g hg8) (by simp)) (And.intro hb8 hN8))))); clear hg8 hb8 hN8 HZ
          go_wp2_with fail
          refine (same_yes 0 0 64 64 64 64 _ _ (Sha.sum p) w8 rfl rfl (H8.out.2.2.2.2.1.part (by have := H8.out.2.2.2.2.2; omega) (sum_byte _)) (H8.out.2.1.part (by omega) (sum_byte _)) (by decide)).mono ?_
          rintro e w9 ⟨rfl, k9, rfl⟩
          have hg9 := gb_drewN H8.out.1 k9
          have hd9 := H8.out.2.1.drewN k9
          have hs9 : IsHash (w8.drewN k9) H2 H2 p := H8.out.2.2.1.kept (gb_drewN (gb_refl _ _) k9)
          have ht9 : Tables (w8.drewN k9) := ⟨H8.out.2.2.2.1.k, H8.out.2.2.2.1.h⟩
          have H9 := Lib.hid (And.intro hg9 (And.intro hd9 (And.intro hs9 ht9))); clear hg9 hd9 hs9 ht9 H8
          generalize w8.drewN k9 = w9 at *
          go_wp2_with fail
          refine (sum_hash H2 p w9 H9.out.2.2.2 (by rw [HP.out.1]; omega) H9.out.2.2.1).mono ?_
          rintro e w10 ⟨N10, rfl, hg10, hN10, hb10⟩
          have hlt10 := H9.out.1.size
          have H10 := Lib.hid (And.intro (gb_trans H9.out.1 hg10) (And.intro (H9.out.2.1.grown hg10 (by simp)) (And.intro hb10 hN10))); clear hg10 hb10 hN10 H9
          go_wp2_with fail
          refine (same_yes 0 0 64 64 64 64 _ _ (Sha.sum p) w10 rfl rfl (H10.out.2.2.1.part (by have := H10.out.2.2.2; omega) (sum_byte _)) (H10.out.2.1.part (by omega) (sum_byte _)) (by decide)).mono ?_
          rintro e w11 ⟨rfl, k11, rfl⟩
          have hfin := gb_below (gb_drewN H10.out.1 k11)
          clear H10
          go_wp2
          go_ret
          exact ⟨rfl, hfin⟩

set_option maxHeartbeats 400000 in
/-- too long: true at once -/
theorem shaParts_long (a0 a1 : Option Addr) (len0 cap0 len1 cap1 : Nat) (w : World) (hT : Tables w) (h : 3000 < len0 ∨ 40 < len1) :
    Calls Tryd.prog 7 #[.slice a0 len0 cap0, .slice a1 len1 cap1] w fun e w' => e = .returned (.bool true) ∧ Below w.heap.size w w' := by
  by_cases h0 : 3000 < len0
  · have n3 : (3000 : Int) < (len0 : Int) := by omega
    clear h
    go_enter Tryd.func7, Tryd.ntmps7
    go_wp2_with fail
    refine (awake_any w hT).mono ?_
    rintro e w1 ⟨rfl, hg1⟩
    have hfin := gb_below hg1
    clear hg1 hT
    go_wp2
    go_ret
    exact ⟨rfl, hfin⟩
  · have n3 : ¬ (3000 : Int) < (len0 : Int) := by omega
    have n4 : decide ((40 : Int) < (len1 : Int)) = true := by simp; omega
    clear h
    go_enter Tryd.func7, Tryd.ntmps7
    go_wp2_with fail
    refine (awake_any w hT).mono ?_
    rintro e w1 ⟨rfl, hg1⟩
    have hfin := gb_below hg1
    clear hg1 hT
    go_wp2
    go_ret
    exact ⟨rfl, hfin⟩
end Go.Proofs.YtgklkoglcajfpaaDoor
