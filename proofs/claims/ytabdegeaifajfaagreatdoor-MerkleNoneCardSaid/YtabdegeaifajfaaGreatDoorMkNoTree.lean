/- merkle: what is asked of a tree that is none. -/
import Derived.Test.YtabdegeaifajfaaGreatDoorMkPath
import Derived.Test.YtabdegeaifajfaaGreatDoorSame
namespace Go.Proofs.YtabdegeaifajfaaGreatDoor
open Go.RowKit Ow
namespace Mk
set_option maxHeartbeats 1000000 in
theorem no_node (v : Value) (p : ByteArray) (w : World) (h : NoTree w v) : Calls Tryz.prog 7 #[v, .string p] w fun e w' => e = .returned (.tuple #[.agg nodeZ.toArray, .int .i64 1]) ∧ w.grownBy w' none := by
  have HN := Lib.hid h; clear h
  go_enter Tryz.func7, Tryz.ntmps7
  go_upto_region 1 with (fail)
  show Code.wp _ _ _ _ (w.alloc (.cells nodeZ.toArray 36))
  have b1 := Blk.new w nodeZ 36
  have g1 := gb_alloc (gb_refl w none) (.cells nodeZ.toArray 36)
  revert g1; revert b1
  generalize w.alloc (.cells nodeZ.toArray 36) = w1
  intro b1 g1
  have H1 := Lib.hid (And.intro g1 b1); clear g1
  have k0 := b1.cell (i := 0) rfl
  have k1 := b1.cell (i := 1) rfl
  have k2 := b1.cell (i := 2) rfl
  have k3 := b1.cell (i := 3) rfl
  have f0 := b1.free 0
  have f1 := b1.free 1
  have f2 := b1.free 2
  have f3 := b1.free 3
  have b5 := (((b1.set 0 (.int .u8 0)).set 1 (.slice none 0 0)).set 2 (.slice none 0 0)).set 3 (.slice none 0 0)
  have g5 := gb_set_new (gb_set_new (gb_set_new (gb_set_new H1.out.1 (p := ⟨w.heap.size, 0, none⟩) (Nat.le_refl _) (.int .u8 0)) (p := ⟨w.heap.size, 1, none⟩) (Nat.le_refl _) (.slice none 0 0)) (p := ⟨w.heap.size, 2, none⟩) (Nat.le_refl _) (.slice none 0 0)) (p := ⟨w.heap.size, 3, none⟩) (Nat.le_refl _) (.slice none 0 0)
  have H5 := Lib.hid (And.intro g5 b5); clear g5 b5 b1
  go_wp2_with fail
  refine (good_no v w1 (HN.out.stay H1.out.1)).mono ?_
  rintro e w' ⟨rfl, hw⟩
  have hw := hw.symm
  subst hw
  go_wp2
  exact bodyPost_ret (v := .tuple #[.agg nodeZ.toArray, .int .i64 1]) (res_row_tmp Tryz.results7 _ _ w.heap.size 36 nodeZ.toArray (0, 0) _ rfl H5.out.2 Tryz.underlying36 rfl info_node rfl) rfl ⟨rfl, H5.out.1⟩
theorem no_put (v l : Value) (w : World) (h : NoTree w v) : Calls Tryz.prog 8 #[v, l] w fun e w' => e = .returned (.int .i64 1) ∧ w = w' := by
  go_enter Tryz.func8, Tryz.ntmps8
  go_wp2_with fail
  refine (good_no v w h).mono ?_
  rintro e w' ⟨rfl, hw⟩
  have hw := hw.symm
  subst hw
  go_wp2
  go_ret
  exact ⟨rfl, rfl⟩
theorem no_get (v l : Value) (w : World) (h : NoTree w v) : Calls Tryz.prog 9 #[v, l] w fun e w' => e = .returned (.slice none 0 0) ∧ w = w' := by
  go_enter Tryz.func9, Tryz.ntmps9
  go_wp2_with fail
  refine (good_no v w h).mono ?_
  rintro e w' ⟨rfl, hw⟩
  have hw := hw.symm
  subst hw
  go_wp2
  go_ret
  exact ⟨rfl, rfl⟩
theorem no_shard (v : Value) (w : World) (h : NoTree w v) : Calls Tryz.prog 10 #[v] w fun e w' => e = .returned (.int .i64 (-1)) ∧ w = w' := by
  go_enter Tryz.func10, Tryz.ntmps10
  go_wp2_with fail
  refine (good_no v w h).mono ?_
  rintro e w' ⟨rfl, hw⟩
  have hw := hw.symm
  subst hw
  go_wp2
  go_ret
  exact ⟨rfl, rfl⟩
theorem no_sum (v l : Value) (w : World) (h : NoTree w v) : Calls Tryz.prog 12 #[v, l] w fun e w' => e = .returned (.slice none 0 0) ∧ w = w' := by
  go_enter Tryz.func12, Tryz.ntmps12
  go_wp2_with fail
  refine (good_no v w h).mono ?_
  rintro e w' ⟨rfl, hw⟩
  have hw := hw.symm
  subst hw
  go_wp2
  go_ret
  exact ⟨rfl, rfl⟩
theorem no_leaves (v : Value) (w : World) (h : NoTree w v) : Calls Tryz.prog 14 #[v] w fun e w' => e = .returned (.slice none 0 0) ∧ w.grownBy w' none := by
  go_enter Tryz.func14, Tryz.ntmps14
  go_wp2_with fail
  refine (good_no v w h).mono ?_
  rintro e w' ⟨rfl, hw⟩
  have hw := hw.symm
  subst hw
  go_wp2
  go_ret
  exact ⟨rfl, gb_refl _ _⟩
theorem no_copy (v : Value) (w : World) (h : NoTree w v) : Calls Tryz.prog 15 #[v] w fun e w' => e = .returned (.pointer none) ∧ w = w' := by
  go_enter Tryz.func15, Tryz.ntmps15
  go_wp2_with fail
  refine (good_no v w h).mono ?_
  rintro e w' ⟨rfl, hw⟩
  have hw := hw.symm
  subst hw
  go_wp2
  go_ret
  exact ⟨rfl, rfl⟩
theorem topsum_no (w : World) : Calls Tryz.prog 18 #[.int .i64 (-1), .slice none 0 0] w fun e w' => e = .returned (.slice none 0 0) ∧ w = w' := by
  go_enter Tryz.func18, Tryz.ntmps18
  go_wp2_with fail
  refine (shard_no (-1) w (Or.inl (by decide))).mono ?_
  rintro e w' ⟨rfl, hw⟩
  have hw := hw.symm
  subst hw
  go_wp2
  go_ret
  exact ⟨rfl, rfl⟩
theorem no_top (v : Value) (w : World) (h : NoTree w v) : Calls Tryz.prog 11 #[v] w fun e w' => e = .returned (.slice none 0 0) ∧ w = w' := by
  go_enter Tryz.func11, Tryz.ntmps11
  go_wp2_with fail
  refine (no_shard v w h).mono ?_
  rintro e w' ⟨rfl, rfl⟩
  go_wp2_with fail
  refine (no_sum v _ w h).mono ?_
  rintro e w' ⟨rfl, rfl⟩
  go_wp2_with fail
  refine (topsum_no w).mono ?_
  rintro e w' ⟨rfl, rfl⟩
  go_wp2
  go_ret
  exact ⟨rfl, rfl⟩
theorem same_nil (w : World) : Calls Tryz.prog 17 #[.slice none 0 0, .slice none 0 0] w fun e w' => e = .returned (.bool true) ∧ w.grownBy w' none := by
  have hb : BytesAt w w.heap.size none 0 [] := ⟨Nat.le_refl _, Nat.le_refl _, by decide, fun i => by show (0 : Nat) < 256; decide, Or.inl rfl⟩
  have := sameBytes_any w.heap.size w.heap.size 0 0 0 0 none none [] [] w rfl rfl hb hb
  rwa [decide_eq_true rfl] at this
theorem same_leaves_nil (w : World) : Calls Tryz.prog 32 #[.slice none 0 0, .slice none 0 0] w fun e w' => e = .returned (.bool true) ∧ w.grownBy w' none := by
  go_enter Tryz.func32, Tryz.ntmps32
  go_wp2
  go_loopw [5] (fun i wr => i = .int .i64 0 ∧ wr = w) (fun _ _ => 0)
  case atStart => exact ⟨rfl, rfl⟩
  case round =>
    obtain ⟨rfl, rfl⟩ := hrel
    go_wp2
    go_ret
    exact ⟨rfl, gb_refl _ _⟩
set_option maxHeartbeats 1000000 in
theorem same_node_zero (w : World) : Calls Tryz.prog 13 #[.agg #[.int .u8 0, .slice none 0 0, .slice none 0 0, .slice none 0 0], .agg #[.int .u8 0, .slice none 0 0, .slice none 0 0, .slice none 0 0]] w fun e w' => e = .returned (.bool true) ∧ w.grownBy w' none := by
  go_enter Tryz.func13, Tryz.ntmps13
  go_upto_region 1 with (fail)
  show Code.wp _ _ _ _ ((w.alloc (.cells nodeZ.toArray 36)).alloc (.cells nodeZ.toArray 36))
  have b1 := (Blk.new w nodeZ 36).alloc (.cells nodeZ.toArray 36)
  have b2 := blk_at (w.alloc (.cells nodeZ.toArray 36)) (B := w.heap.size + 1) nodeZ 36 (by simp)
  have g2 := gb_alloc (gb_alloc (gb_refl w none) (.cells nodeZ.toArray 36)) (.cells nodeZ.toArray 36)
  revert g2; revert b2; revert b1
  generalize (w.alloc (.cells nodeZ.toArray 36)).alloc (.cells nodeZ.toArray 36) = w2
  intro b1 b2 g2
  have H2 := Lib.hid (And.intro g2 (And.intro b1 b2))
  have a0 := b1.cell (i := 0) rfl
  have a1 := b1.cell (i := 1) rfl
  have c0 := b2.cell (i := 0) rfl
  have c1 := b2.cell (i := 1) rfl
  clear b1 b2 g2
  go_wp2_with fail
  refine (same_nil w2).mono ?_
  rintro e w3 ⟨rfl, g3⟩
  have a2 := (H2.out.2.1.grown g3 (by simp)).cell (i := 2) rfl
  have c2 := (H2.out.2.2.grown g3 (by simp)).cell (i := 2) rfl
  have G3 := Lib.hid g3; clear g3 a0 a1 c0 c1
  go_wp2_with fail
  refine (same_nil w3).mono ?_
  rintro e w4 ⟨rfl, g4⟩
  have G4 := Lib.hid (gb_trans G3.out g4); clear g4 a2 c2
  have a3 := (H2.out.2.1.grown G4.out (by simp)).cell (i := 3) rfl
  have c3 := (H2.out.2.2.grown G4.out (by simp)).cell (i := 3) rfl
  go_wp2_with fail
  refine (same_leaves_nil w4).mono ?_
  rintro e w5 ⟨rfl, g5⟩
  have G5 := Lib.hid (gb_trans H2.out.1 (gb_trans G4.out g5)); clear g5 a3 c3
  go_wp2
  go_ret
  exact ⟨rfl, G5.out⟩
end Mk
end Go.Proofs.YtabdegeaifajfaaGreatDoor
