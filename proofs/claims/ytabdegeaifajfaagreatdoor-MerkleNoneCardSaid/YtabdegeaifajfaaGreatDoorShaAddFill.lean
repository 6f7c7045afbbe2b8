/- sha's Hash.add: the bytes make a block whole that waited, and go on. -/
import Derived.Test.YtabdegeaifajfaaGreatDoorShaAddZero
namespace Go.Proofs.YtabdegeaifajfaaGreatDoor
open Go.RowKit

set_option maxRecDepth 100000 in
set_option maxHeartbeats 2000000 in
theorem add_fill_less (B M : Nat) (l r p : List Nat) (pb po : Nat) (cap : Nat) (w : World) (hT : Tables w) (hH : HashAt w B M l r) (hP : PartAt w B (some ⟨pb, po, none⟩) cap p) (hB2 : 0 + 3 + 1 ≤ B)
    (hlen : l.length + p.length < 2147483648) (hcap : cap < 9223372036854775808) (hw : 0 < l.length % 128) (hs : 128 ≤ l.length % 128 + p.length) (hd : 128 - l.length % 128 < cap) :
    Calls Tryz.prog 124 #[.pointer (some ⟨B, 0, none⟩), .slice (some ⟨pb, po, none⟩) p.length cap] w fun e w' => e = .returned (.tuple #[]) ∧ w.grownBy w' (some B) ∧ ∃ r', HashAt w' B M (l ++ p) r' := by
  have kz := hH.blk.cell (hashV_size _ _ _ _ hH.len)
  have fz := hH.blk.free 136
  unfold u64V at kz
  have hb1 := hH.blk.set 136 (u64V (l.length + p.length))
  rw [hashV_setSize _ _ _ _ _ hH.len] at hb1
  have hg1 := gb_set (gb_refl w (some B)) 136 (u64V (l.length + p.length))
  obtain ⟨w2, hcp, hg2, hb2⟩ := copy_any B M (l.length % 128) (l.length + p.length) cap _ r p _ _ hH.len (by omega) hb1 (hP.kept hg1)
  have hg3 := gb_trans hg1 hg2
  have hpc := hP.cap
  rw [Nat.min_eq_right (by omega)] at hcp
  unfold u64V at hcp
  have hcells : ∀ i, i < 128 → w2.cell? ⟨B, 8 + i, none⟩ = some (.int .u8 (((laidIn r p (l.length % 128)).getD i 0 : Nat) : Int)) := fun i hi =>
    hb2.cell (hashV_rest _ _ _ _ _ (laidIn_length _ _ _ hH.len (by omega)) hi)
  have hbytes := laidIn_byte r p (l.length % 128) hH.byte hP.byte
  have HA := Lib.hid (And.intro hH hP); clear hH hP
  have HT2 := Lib.hid (And.intro hT (hT.kept hg3 (fun b e => by cases e; exact hB2))); clear hT
  have HC := Lib.hid (And.intro hg3 (And.intro hb2 (And.intro hcells hbytes))); clear hg3 hb2 hcells hbytes hg1 hg2 hb1
  obtain ⟨u, hu⟩ : ∃ u : Nat, u = l.length % 128 := ⟨_, rfl⟩
  have eu : (l.length : Int) % 128 = (u : Int) := by omega
  obtain ⟨d, hd⟩ : ∃ d : Nat, d = 128 - u := ⟨_, rfl⟩
  rw [← hu] at hcp hw hs HC
  rw [← hd] at hcp
  have ec : ((l.length + p.length : Nat) : Int) = (l.length : Int) + (p.length : Int) := by omega
  rw [ec] at hcp
  clear ec
  have u0 : (0 : Int) < (u : Int) := by omega
  have u1 : (u : Int) ≤ 128 := by omega
  have u2 : ¬ 128 = u := by omega
  have u3 : ¬ (u : Int) + (d : Int) < 128 := by omega
  have u4 : (u : Int) + (d : Int) ≤ 128 := by omega
  have d1 : (d : Int) ≤ (p.length : Int) := by omega
  have d3 : (p.length : Int) ≤ (cap : Int) := by omega
  have d2 : (d : Int) < (cap : Int) := by omega
  have d4 : d < cap := by omega
  have HU := Lib.hid (And.intro hu hd)
  have hd' : 128 - u = d := hd.symm
  clear hu hd
  go_enter Tryz.func124, Tryz.ntmps124
  go_wp2_with fail
  refine wp_region_still_tail 7 (by kernel_rfl) (by kernel_rfl) ?_
  change wpStill _ _ (World.drew w2) _ _ _
  simp only [List.take_succ_cons, List.take_zero, List.drop_succ_cons, List.drop_zero]
  repeat still_step
  refine wpStill_nil ?_
  go_wp2_with fail
  refine (turn_any B _ B 8 _ (Sha.blocks l (l.length / 128)) _ (laidIn r p u) _ (by exact HT2.out.2.drew) (SB.blocks _ _) (by omega) HC.out.2.2.2 (HC.out.2.1.drew) (by exact HC.out.2.2.1)).mono ?_
  rintro e w3 ⟨rfl, hg3, hb3⟩
  have hN := AInv.fill (a' := some ⟨pb, po + d, none⟩) HA.out.1 HA.out.2 (by rw [← HU.out.1]; exact hs) HC.out.1 (gb_trans (gb_drew (gb_refl _ _)) hg3) (by rw [← HU.out.1]; exact hb3) (fun _ pb' po' e => by cases e; rw [HU.out.2, HU.out.1])
  rw [← HU.out.1, ← HU.out.2] at hN
  have HS := Lib.hid hN; clear hN hb3 hg3
  have HT := Lib.hid HT2.out.1; clear HT2
  have HPL : Hid ((p.drop d).length = p.length - d) := List.length_drop
  clear kz fz eu hcp
  go_wp2
  go_loopw [1] (fun v wr => ∃ k cap' a' q r', v = .slice a' q.length cap' ∧ cap' < 9223372036854775808 ∧ AInv w wr B M (l ++ p) k a' cap' q r') (fun v _ => lenOf v)
  case atStart => exact ⟨_, cap - d, some ⟨pb, po + d, none⟩, p.drop d, laidIn r p u, by rw [HPL.out], by omega, HS.out⟩
  case round =>
    obtain ⟨k, cap', a', q, r', rfl, hcp', hI⟩ := hrel
    have hqc := hI.part.cap
    by_cases hlt : 128 ≤ q.length
    · obtain ⟨pb, po, rfl, hne, hpl, hc⟩ := hI.part.cells.resolve_left (by omega)
      have hc1 : ∀ i, i < 128 → wr.cell? ⟨pb, po + i, none⟩ = some (.int .u8 (((q.take 128).getD i 0 : Nat) : Int)) := fun i hi => by rw [shaGetD_take _ _ _ hi]; exact hc i (by omega)
      have HT2 := Lib.hid (HT.out.kept hI.g (fun b e => by cases e; exact hB2))
      have HC := Lib.hid hc1; clear hc hc1
      have HI := Lib.hid hI; clear hI
      have i1 : (128 : Int) ≤ (q.length : Int) := by omega
      have i2 : (128 : Int) ≤ (cap' : Int) := by omega
      have i3 : (q.length : Int) ≤ (cap' : Int) := by omega
      by_cases hce : cap' = 128
      · have hq128 : q.length = 128 := by omega
        subst hce
        rw [hq128] at i1 i3 hqc ⊢
        have HQL := Lib.hid hq128; clear hq128 hlt
        go_wp2_with fail
        refine wp_region_still_tail 5 (by kernel_rfl) (by kernel_rfl) ?_
        change wpStill _ _ (World.drew wr) _ _ _
        simp only [List.take_succ_cons, List.take_zero, List.drop_succ_cons, List.drop_zero]
        repeat still_step
        refine wpStill_nil ?_
        go_wp2_with fail
        refine (turn_any B _ pb po _ (Sha.blocks (l ++ p) k) _ (q.take 128) _ (by exact HT2.out.drew) (SB.blocks _ _) (by omega) (shaGetD_take_lt _ _ HI.out.part.byte) (HI.out.blk.drew) (by exact HC.out)).mono ?_
        rintro e w3 ⟨rfl, hg3, hb3⟩
        have hN := HI.out.next (a' := some ⟨pb, po, none⟩) (by rw [HQL.out]; omega) (gb_trans (gb_drew (gb_refl _ _)) hg3) hb3 (fun h => by rw [HQL.out] at h; omega)
        have HN := Lib.hid hN; clear hN hb3 hg3
        go_wp2
        go_roundw
        case rel => exact ⟨k + 1, 0, some ⟨pb, po, none⟩, q.drop 128, r', by rw [List.length_drop, HQL.out], by omega, HN.out⟩
        case measure => simp [lenOf]
      · have i4 : (128 : Int) < (cap' : Int) := by omega
        go_wp2_with fail
        refine wp_region_still_tail 5 (by kernel_rfl) (by kernel_rfl) ?_
        change wpStill _ _ (World.drew wr) _ _ _
        simp only [List.take_succ_cons, List.take_zero, List.drop_succ_cons, List.drop_zero]
        repeat still_step
        refine wpStill_nil ?_
        go_wp2_with fail
        refine (turn_any B _ pb po _ (Sha.blocks (l ++ p) k) _ (q.take 128) _ (by exact HT2.out.drew) (SB.blocks _ _) (by omega) (shaGetD_take_lt _ _ HI.out.part.byte) (HI.out.blk.drew) (by exact HC.out)).mono ?_
        rintro e w3 ⟨rfl, hg3, hb3⟩
        have hN := HI.out.next (a' := some ⟨pb, po + 128, none⟩) hlt (gb_trans (gb_drew (gb_refl _ _)) hg3) hb3 (fun _ pb' po' e => by cases e; rfl)
        have HN := Lib.hid hN; clear hN hb3 hg3
        go_wp2
        go_roundw
        case rel => exact ⟨k + 1, cap' - 128, some ⟨pb, po + 128, none⟩, q.drop 128, r', by rw [List.length_drop], by omega, HN.out⟩
        case measure => simp [lenOf]; omega
    · obtain ⟨w4, hcp, hg4, hb4⟩ := copy_any B M 0 (l ++ p).length cap' _ r' q a' wr hI.len (by omega) hI.blk hI.part
      have Hfin := Lib.hid (hI.last (by omega) hg4 hb4)
      rw [Nat.min_eq_left (by omega)] at hcp
      simp only [Nat.add_zero, Nat.sub_zero] at hcp
      clear hg4 hb4 hI
      have i1 : ¬ (128 : Int) ≤ (q.length : Int) := by omega
      go_wp2
      go_end0
      exact ⟨rfl, Hfin.out.1, _, Hfin.out.2⟩

set_option maxRecDepth 100000 in
set_option maxHeartbeats 2000000 in
theorem add_fill_just (B M : Nat) (l r p : List Nat) (pb po : Nat) (w : World) (hT : Tables w) (hH : HashAt w B M l r) (hP : PartAt w B (some ⟨pb, po, none⟩) p.length p) (hB2 : 0 + 3 + 1 ≤ B)
    (hlen : l.length + p.length < 2147483648) (hw : 0 < l.length % 128) (hs : 128 ≤ l.length % 128 + p.length) (hd : 128 - l.length % 128 = p.length) :
    Calls Tryz.prog 124 #[.pointer (some ⟨B, 0, none⟩), .slice (some ⟨pb, po, none⟩) p.length p.length] w fun e w' => e = .returned (.tuple #[]) ∧ w.grownBy w' (some B) ∧ ∃ r', HashAt w' B M (l ++ p) r' := by
  have kz := hH.blk.cell (hashV_size _ _ _ _ hH.len)
  have fz := hH.blk.free 136
  unfold u64V at kz
  have hb1 := hH.blk.set 136 (u64V (l.length + p.length))
  rw [hashV_setSize _ _ _ _ _ hH.len] at hb1
  have hg1 := gb_set (gb_refl w (some B)) 136 (u64V (l.length + p.length))
  obtain ⟨w2, hcp, hg2, hb2⟩ := copy_any B M (l.length % 128) (l.length + p.length) p.length _ r p _ _ hH.len (by omega) hb1 (hP.kept hg1)
  have hg3 := gb_trans hg1 hg2
  rw [Nat.min_eq_right (by omega)] at hcp
  unfold u64V at hcp
  have hcells : ∀ i, i < 128 → w2.cell? ⟨B, 8 + i, none⟩ = some (.int .u8 (((laidIn r p (l.length % 128)).getD i 0 : Nat) : Int)) := fun i hi =>
    hb2.cell (hashV_rest _ _ _ _ _ (laidIn_length _ _ _ hH.len (by omega)) hi)
  have hbytes := laidIn_byte r p (l.length % 128) hH.byte hP.byte
  have HA := Lib.hid (And.intro hH hP); clear hH hP
  have HT2 := Lib.hid (And.intro hT (hT.kept hg3 (fun b e => by cases e; exact hB2))); clear hT
  have HC := Lib.hid (And.intro hg3 (And.intro hb2 (And.intro hcells hbytes))); clear hg3 hb2 hcells hbytes hg1 hg2 hb1
  obtain ⟨u, hu⟩ : ∃ u : Nat, u = l.length % 128 := ⟨_, rfl⟩
  have eu : (l.length : Int) % 128 = (u : Int) := by omega
  have hd : p.length = 128 - u := by omega
  rw [← hu] at hcp hw hs HC
  rw [← hd] at hcp
  have ec : ((l.length + p.length : Nat) : Int) = (l.length : Int) + (p.length : Int) := by omega
  rw [ec] at hcp
  clear ec
  have u0 : (0 : Int) < (u : Int) := by omega
  have u1 : (u : Int) ≤ 128 := by omega
  have u2 : ¬ 128 = u := by omega
  have u3 : ¬ (u : Int) + (p.length : Int) < 128 := by omega
  have u4 : (u : Int) + (p.length : Int) ≤ 128 := by omega
  have HU := Lib.hid (And.intro hu hd)
  have hd' : 128 - u = p.length := hd.symm
  clear hu hd
  go_enter Tryz.func124, Tryz.ntmps124
  go_wp2_with fail
  refine wp_region_still_tail 7 (by kernel_rfl) (by kernel_rfl) ?_
  change wpStill _ _ (World.drew w2) _ _ _
  simp only [List.take_succ_cons, List.take_zero, List.drop_succ_cons, List.drop_zero]
  repeat still_step
  refine wpStill_nil ?_
  go_wp2_with fail
  refine (turn_any B _ B 8 _ (Sha.blocks l (l.length / 128)) _ (laidIn r p u) _ (by exact HT2.out.2.drew) (SB.blocks _ _) (by omega) HC.out.2.2.2 (HC.out.2.1.drew) (by exact HC.out.2.2.1)).mono ?_
  rintro e w3 ⟨rfl, hg3, hb3⟩
  have hN := AInv.fill (a' := some ⟨pb, po, none⟩) HA.out.1 HA.out.2 (by rw [← HU.out.1]; exact hs) HC.out.1 (gb_trans (gb_drew (gb_refl _ _)) hg3) (by rw [← HU.out.1]; exact hb3) (fun h => absurd h (by rw [← HU.out.1, ← HU.out.2]; omega))
  rw [← HU.out.1, ← HU.out.2] at hN
  have HS := Lib.hid hN; clear hN hb3 hg3
  have HT := Lib.hid HT2.out.1; clear HT2
  have HPL : Hid ((p.drop p.length).length = 0) := by show (p.drop p.length).length = 0; rw [List.length_drop, Nat.sub_self]
  clear kz fz eu hcp
  go_wp2
  go_loopw [1] (fun v wr => ∃ k cap' a' q r', v = .slice a' q.length cap' ∧ cap' < 9223372036854775808 ∧ AInv w wr B M (l ++ p) k a' cap' q r') (fun v _ => lenOf v)
  case atStart => exact ⟨_, 0, some ⟨pb, po, none⟩, p.drop p.length, laidIn r p u, by rw [HPL.out], by omega, by have h := HS.out; rw [Nat.sub_self] at h; exact h⟩
  case round =>
    obtain ⟨k, cap', a', q, r', rfl, hcp', hI⟩ := hrel
    have hqc := hI.part.cap
    by_cases hlt : 128 ≤ q.length
    · obtain ⟨pb, po, rfl, hne, hpl, hc⟩ := hI.part.cells.resolve_left (by omega)
      have hc1 : ∀ i, i < 128 → wr.cell? ⟨pb, po + i, none⟩ = some (.int .u8 (((q.take 128).getD i 0 : Nat) : Int)) := fun i hi => by rw [shaGetD_take _ _ _ hi]; exact hc i (by omega)
      have HT2 := Lib.hid (HT.out.kept hI.g (fun b e => by cases e; exact hB2))
      have HC := Lib.hid hc1; clear hc hc1
      have HI := Lib.hid hI; clear hI
      have i1 : (128 : Int) ≤ (q.length : Int) := by omega
      have i2 : (128 : Int) ≤ (cap' : Int) := by omega
      have i3 : (q.length : Int) ≤ (cap' : Int) := by omega
      by_cases hce : cap' = 128
      · have hq128 : q.length = 128 := by omega
        subst hce
        rw [hq128] at i1 i3 hqc ⊢
        have HQL := Lib.hid hq128; clear hq128 hlt
        go_wp2_with fail
        refine wp_region_still_tail 5 (by kernel_rfl) (by kernel_rfl) ?_
        change wpStill _ _ (World.drew wr) _ _ _
        simp only [List.take_succ_cons, List.take_zero, List.drop_succ_cons, List.drop_zero]
        repeat still_step
        refine wpStill_nil ?_
        go_wp2_with fail
        refine (turn_any B _ pb po _ (Sha.blocks (l ++ p) k) _ (q.take 128) _ (by exact HT2.out.drew) (SB.blocks _ _) (by omega) (shaGetD_take_lt _ _ HI.out.part.byte) (HI.out.blk.drew) (by exact HC.out)).mono ?_
        rintro e w3 ⟨rfl, hg3, hb3⟩
        have hN := HI.out.next (a' := some ⟨pb, po, none⟩) (by rw [HQL.out]; omega) (gb_trans (gb_drew (gb_refl _ _)) hg3) hb3 (fun h => by rw [HQL.out] at h; omega)
        have HN := Lib.hid hN; clear hN hb3 hg3
        go_wp2
        go_roundw
        case rel => exact ⟨k + 1, 0, some ⟨pb, po, none⟩, q.drop 128, r', by rw [List.length_drop, HQL.out], by omega, HN.out⟩
        case measure => simp [lenOf]
      · have i4 : (128 : Int) < (cap' : Int) := by omega
        go_wp2_with fail
        refine wp_region_still_tail 5 (by kernel_rfl) (by kernel_rfl) ?_
        change wpStill _ _ (World.drew wr) _ _ _
        simp only [List.take_succ_cons, List.take_zero, List.drop_succ_cons, List.drop_zero]
        repeat still_step
        refine wpStill_nil ?_
        go_wp2_with fail
        refine (turn_any B _ pb po _ (Sha.blocks (l ++ p) k) _ (q.take 128) _ (by exact HT2.out.drew) (SB.blocks _ _) (by omega) (shaGetD_take_lt _ _ HI.out.part.byte) (HI.out.blk.drew) (by exact HC.out)).mono ?_
        rintro e w3 ⟨rfl, hg3, hb3⟩
        have hN := HI.out.next (a' := some ⟨pb, po + 128, none⟩) hlt (gb_trans (gb_drew (gb_refl _ _)) hg3) hb3 (fun _ pb' po' e => by cases e; rfl)
        have HN := Lib.hid hN; clear hN hb3 hg3
        go_wp2
        go_roundw
        case rel => exact ⟨k + 1, cap' - 128, some ⟨pb, po + 128, none⟩, q.drop 128, r', by rw [List.length_drop], by omega, HN.out⟩
        case measure => simp [lenOf]; omega
    · obtain ⟨w4, hcp, hg4, hb4⟩ := copy_any B M 0 (l ++ p).length cap' _ r' q a' wr hI.len (by omega) hI.blk hI.part
      have Hfin := Lib.hid (hI.last (by omega) hg4 hb4)
      rw [Nat.min_eq_left (by omega)] at hcp
      simp only [Nat.add_zero, Nat.sub_zero] at hcp
      clear hg4 hb4 hI
      have i1 : ¬ (128 : Int) ≤ (q.length : Int) := by omega
      go_wp2
      go_end0
      exact ⟨rfl, Hfin.out.1, _, Hfin.out.2⟩
end Go.Proofs.YtabdegeaifajfaaGreatDoor
