/- merkle's laws: awake. -/
import Derived.Test.YtabdegeaifajfaaGreatDoorMkPath
import Derived.Test.YtabdegeaifajfaaGreatDoorShaLengths
import Derived.Test.YtabdegeaifajfaaGreatDoorSame
namespace Go.Proofs.YtabdegeaifajfaaGreatDoor
open Go.RowKit Ow
namespace Mk
set_option maxHeartbeats 1000000 in
theorem nodeCall_E (B : Nat) (s : Int) (w : World) (hTr : TreeAt w B s) : Calls Tryz.prog 7 #[.pointer (some ⟨B, 0, none⟩), .string ⟨#[]⟩] w fun e w' => e = .returned (.tuple #[.agg nodeL.toArray, .int .i64 0]) ∧ w.grownBy w' none := by
  have HTr := Lib.hid hTr; clear hTr
  go_enter Tryz.func7, Tryz.ntmps7
  go_upto_region 1 with (fail)
  show Code.wp _ _ _ _ (w.alloc (.cells nodeZ.toArray 36))
  have b1 := Blk.new w nodeZ 36
  have g1 := gb_alloc (gb_refl w none) (.cells nodeZ.toArray 36)
  revert g1; revert b1
  generalize w.alloc (.cells nodeZ.toArray 36) = w1
  intro b1 g1
  have H1 := Lib.hid (And.intro g1 b1); clear g1 b1
  go_wp2_with fail
  refine (good_yes B s w1 (HTr.out.grown H1.out.1)).mono ?_
  rintro e w' ⟨rfl, hw⟩
  have hw := hw.symm
  subst hw
  go_wp2_with fail
  refine (path_E w1).mono ?_
  rintro e w2 ⟨rfl, g2⟩
  obtain ⟨M, hM⟩ := HTr.out.grown (gb_trans H1.out.1 g2)
  have c0 := hM.cell (i := 0) rfl
  have H2 := Lib.hid (And.intro (gb_trans H1.out.1 g2) (H1.out.2.grown g2 (by simp))); clear g2 hM
  go_wp2_with fail
  refine (at_none _ w2).mono ?_
  rintro e w3 ⟨rfl, g3⟩
  have H3 := Lib.hid (And.intro (gb_trans H2.out.1 g3) (H2.out.2.grown g3 (by simp))); clear g3
  go_wp2_with fail
  refine (node_none _ _ w3).mono ?_
  rintro e w4 ⟨rfl, g4⟩
  have b4 := H3.out.2.grown g4 (by simp)
  have g04 := gb_trans H3.out.1 g4
  have k0 := b4.cell (i := 0) rfl
  have k1 := b4.cell (i := 1) rfl
  have k2 := b4.cell (i := 2) rfl
  have k3 := b4.cell (i := 3) rfl
  have f0 := b4.free 0
  have f1 := b4.free 1
  have f2 := b4.free 2
  have f3 := b4.free 3
  have b5 := (((b4.set 0 (.int .u8 1)).set 1 (.slice none 0 0)).set 2 (.slice none 0 0)).set 3 (.slice none 0 0)
  have g5 := gb_set_new (gb_set_new (gb_set_new (gb_set_new g04 (p := ⟨w.heap.size, 0, none⟩) (Nat.le_refl _) (.int .u8 1)) (p := ⟨w.heap.size, 1, none⟩) (Nat.le_refl _) (.slice none 0 0)) (p := ⟨w.heap.size, 2, none⟩) (Nat.le_refl _) (.slice none 0 0)) (p := ⟨w.heap.size, 3, none⟩) (Nat.le_refl _) (.slice none 0 0)
  have H5 := Lib.hid (And.intro g5 b5); clear g5 b5 g04 b4 g4
  unfold nodeL
  go_wp2
  exact bodyPost_ret (v := .tuple #[.agg nodeL.toArray, .int .i64 0]) (res_row_tmp Tryz.results7 _ _ w.heap.size 36 nodeL.toArray (0, 0) _ rfl H5.out.2 Tryz.underlying36 rfl info_node rfl) rfl ⟨rfl, H5.out.1⟩
theorem sum0_len : sum0.length = 64 := rfl
theorem sum0_lt (i : Nat) : sum0.getD i 0 < 256 := sum_byte _ i
theorem sum_at {w : World} {g : Nat} {D : List Nat} (hD : D.length = 64) (hb : ∀ i, D.getD i 0 < 256) (h : Blk w g 5 (D.map u8N)) : BytesAt w w.heap.size (some ⟨g, 0, none⟩) 64 D :=
  blk_bytes (n := 64) (tl := []) (by rw [List.append_nil]; exact h) hD (Nat.le_refl _) (by decide) hb h.lt (Nat.le_refl _)
/-- bytes that are that digest -/
def SumOut (w : World) (D : List Nat) (e : Ending) (w' : World) : Prop := ∃ g c, e = .returned (.slice (some ⟨g, 0, none⟩) 64 c) ∧ w.grownBy w' none ∧ BytesAt w' w'.heap.size (some ⟨g, 0, none⟩) c D
set_option maxHeartbeats 1000000 in
theorem sumCall (B : Nat) (s : Int) (t : ByteArray) (w : World) (hT : Tables w) (hTr : TreeAt w B s) (hp : ∀ w, Calls Tryz.prog 21 #[.string t] w fun e w' => e = .returned (.bool true) ∧ w.grownBy w' none) :
    Calls Tryz.prog 12 #[.pointer (some ⟨B, 0, none⟩), .string t] w (SumOut w sum0) := by
  have HTr := Lib.hid (And.intro hTr (And.intro hT hp)); clear hTr hT hp
  go_enter Tryz.func12, Tryz.ntmps12
  go_wp2_with fail
  refine (good_yes B s w HTr.out.1).mono ?_
  rintro e w' ⟨rfl, hw⟩
  have hw := hw.symm
  subst hw
  go_wp2_with fail
  refine (HTr.out.2.2 w).mono ?_
  rintro e w2 ⟨rfl, g2⟩
  obtain ⟨M, hM⟩ := HTr.out.1.grown g2
  have c0 := hM.cell (i := 0) rfl
  have H2 := Lib.hid g2; clear g2 hM
  go_wp2_with fail
  refine (at_none _ w2).mono ?_
  rintro e w3 ⟨rfl, g3⟩
  have H3 := Lib.hid (gb_trans H2.out g3); clear g3
  go_wp2_with fail
  refine (sum_none _ _ w3 (HTr.out.2.1.kept H3.out (by simp))).mono ?_
  rintro e w4 ⟨g, rfl, g4, hb⟩
  have hB := sum_at sum0_len sum0_lt hb
  have hcl := clone_bytes w4.heap.size g 0 64 64 sum0 w4 rfl (by decide) (by decide) hB
  have H4 := Lib.hid (gb_trans H3.out g4); clear g4 hb hB
  have HC := Lib.hid hcl; clear hcl
  go_wp2_with fail
  refine HC.out.mono ?_
  rintro e w5 ⟨g', c', rfl, ho, g5⟩
  have H5 := Lib.hid (And.intro (gb_trans H4.out g5) ho); clear g5 ho HC
  go_wp2
  go_ret
  obtain ⟨g2, c2, e2, _, _, hP⟩ := own_bytesAt H5.out.2 sum0_len (by decide) sum0_lt
  obtain ⟨h1, _, h3⟩ := Value.slice.inj e2
  cases h1
  subst h3
  exact ⟨g', c', rfl, H5.out.1, hP⟩
theorem shardCall (B : Nat) (s : Int) (w : World) (hTr : TreeAt w B s) : Calls Tryz.prog 10 #[.pointer (some ⟨B, 0, none⟩)] w fun e w' => e = .returned (.int .i64 s) ∧ w' = w := by
  have HTr := Lib.hid hTr; clear hTr
  go_enter Tryz.func10, Tryz.ntmps10
  go_wp2_with fail
  refine (good_yes B s w HTr.out).mono ?_
  rintro e w' ⟨rfl, hw⟩
  subst hw
  obtain ⟨M, hM⟩ := HTr.out
  have c1 := hM.cell (i := 1) rfl
  clear hM
  go_wp2
  go_ret
  exact ⟨rfl, rfl⟩
/-- the digest of a tree without leaves -/
def top0 : List Nat := Sha.sum (4 :: 0 :: sum0)
set_option maxHeartbeats 1000000 in
theorem topSum (g c : Nat) (w : World) (hT : Tables w) (hB : BytesAt w w.heap.size (some ⟨g, 0, none⟩) c sum0) : Calls Tryz.prog 18 #[.int .i64 0, .slice (some ⟨g, 0, none⟩) 64 c] w (SumOut w top0) := by
  have HT := Lib.hid (And.intro hT hB); clear hT hB
  go_enter Tryz.func18, Tryz.ntmps18
  go_wp2_with fail
  refine (shard_yes 0 w (by decide) (by decide)).mono ?_
  rintro e w' ⟨rfl, hw⟩
  have hw := hw.symm
  subst hw
  obtain ⟨w1, hw1⟩ : ∃ w1, w1 = w.alloc (.cells #[.int .u8 0] 5) := ⟨_, rfl⟩
  obtain ⟨w2, hw2⟩ : ∃ w2, w2 = w1.alloc (.cells #[.slice (some ⟨w.heap.size, 0, none⟩) 1 1, .slice (some ⟨g, 0, none⟩) 64 c] 34) := ⟨_, rfl⟩
  have g1 : w.grownBy w1 none := hw1 ▸ gb_alloc (gb_refl w none) _
  have g2 : w1.grownBy w2 none := hw2 ▸ gb_alloc (gb_refl w1 none) _
  have b1 : Blk w1 w.heap.size 5 [.int .u8 0] := hw1 ▸ Blk.new w _ _
  have b2 : Blk w2 w1.heap.size 34 [.slice (some ⟨w.heap.size, 0, none⟩) 1 1, .slice (some ⟨g, 0, none⟩) 64 c] := hw2 ▸ Blk.new w1 _ _
  have b1' := b1.grown g2 (by simp)
  have hB2 := HT.out.2.stay (gb_trans g1 g2)
  have hlim := hB2.lim
  have hPs : PartsAt w2 w2.heap.size (some ⟨w1.heap.size, 0, none⟩) 2 [⟨some ⟨w.heap.size, 0, none⟩, 1, [0]⟩, ⟨some ⟨g, 0, none⟩, c, sum0⟩] := by
    refine ⟨Nat.le_refl _, fun p hp => ?_, Or.inr ⟨w1.heap.size, 0, rfl, by have := b2.lt; omega, b2.lt, fun i hi => ?_⟩⟩
    · rcases List.mem_cons.1 hp with rfl | hp
      · exact ⟨⟨Nat.le_refl _, one_byte (by decide), Or.inr ⟨w.heap.size, 0, rfl, by have := b1'.lt; omega, b1'.lt, fun i hi => by
          obtain rfl : i = 0 := by simpa using hi
          exact b1'.cell rfl⟩⟩, by show (1 : Nat) < _; decide⟩
      · rw [List.mem_singleton.1 hp]
        refine ⟨⟨hB2.fits, hB2.byte, ?_⟩, hB2.top⟩
        rcases hB2.cells with h0 | ⟨pb, po, e, hl, hc⟩
        · exact Or.inl h0
        · exact Or.inr ⟨pb, po, e, by omega, by omega, fun i hi => hc i hi⟩
    · have hi2 : i < 2 := by simpa using hi
      rcases (by omega : i = 0 ∨ i = 1) with rfl | rfl
      · exact b2.cell rfl
      · exact b2.cell rfl
  have hdg := digest_any 4 2 2 _ _ w2 (by decide) rfl (HT.out.1.kept (gb_trans g1 g2) (by simp)) hPs (fun e => by cases e) (by simp [joined, sum0_len]) (by decide)
  have HD := Lib.hid (And.intro hdg (gb_trans g1 g2)); clear hdg hPs hB2 hlim b1 b2 b1' g1 g2
  go_upto_region 3 with (fail)
  refine wp_region_lit ?_
  refine Fg.wpl_value (v := .int .i64 0) (w' := w) rfl (Fg.run_move rfl rfl) ?_
  simp only [Act.put, List.setIfInBounds_toArray, List.set_cons_succ, List.set_cons_zero]
  refine Fg.wpl_value (v := .int .u8 0) (w' := w) rfl (by go_simp <;> rfl) ?_
  simp only [Act.put, List.setIfInBounds_toArray, List.set_cons_succ, List.set_cons_zero]
  refine Fg.wpl_value (v := .slice (some ⟨w.heap.size, 0, none⟩) 1 1) (w' := w.alloc (.cells #[.int .u8 0] 5)) rfl (by go_simp) ?_
  simp only [Act.put, List.setIfInBounds_toArray, List.set_cons_succ, List.set_cons_zero]
  rw [← hw1]
  refine Fg.wpl_value (v := .slice (some ⟨g, 0, none⟩) 64 c) (w' := w1) rfl (Fg.run_move rfl rfl) ?_
  simp only [Act.put, List.setIfInBounds_toArray, List.set_cons_succ, List.set_cons_zero]
  refine Fg.wpl_value (v := .slice (some ⟨w1.heap.size, 0, none⟩) 2 2) (w' := w1.alloc (.cells #[.slice (some ⟨w.heap.size, 0, none⟩) 1 1, .slice (some ⟨g, 0, none⟩) 64 c] 34)) rfl (by go_simp) ?_
  simp only [Act.put, List.setIfInBounds_toArray, List.set_cons_succ, List.set_cons_zero]
  rw [← hw2]
  refine Fg.wpl_call rfl (Fg.run_call (vs := #[.int .u8 4, .slice (some ⟨w1.heap.size, 0, none⟩) 2 2]) rfl rfl (by simp only [List.map_toArray, List.map_cons, List.map_nil, Act.eval] <;> rfl) (Fg.run_enter Tryz.func41 (by kernel_rfl) (by kernel_rfl))) ?_
  refine HD.out.1.mono ?_
  rintro e w5 ⟨NB, rfl, g5, _, hD⟩
  refine ⟨_, rfl, ?_⟩
  simp only [Act.put, List.setIfInBounds_toArray, List.set_cons_succ, List.set_cons_zero]
  refine Fg.wpl_value (v := .slice (some ⟨NB, 0, none⟩) 64 64) (w' := w5) rfl (Fg.run_assign rfl rfl) ?_
  simp only [Act.put, List.setIfInBounds_toArray, List.set_cons_succ, List.set_cons_zero]
  refine wpList_nil ?_
  have HF := Lib.hid (And.intro (gb_trans HD.out.2 g5) hD); clear g5 hD HD
  go_wp2
  go_ret
  exact ⟨NB, 64, rfl, HF.out.1, sum_at rfl (fun i => sum_byte _ i) HF.out.2⟩
set_option maxHeartbeats 1000000 in
theorem topCall (B : Nat) (w : World) (hT : Tables w) (hTr : TreeAt w B 0) : Calls Tryz.prog 11 #[.pointer (some ⟨B, 0, none⟩)] w (SumOut w top0) := by
  have HT := Lib.hid (And.intro hT hTr); clear hT hTr
  go_enter Tryz.func11, Tryz.ntmps11
  go_wp2_with fail
  refine (shardCall B 0 w HT.out.2).mono ?_
  rintro e w' ⟨rfl, hw⟩
  have hw := hw.symm
  subst hw
  go_wp2_with fail
  refine (sumCall B 0 _ w HT.out.1 HT.out.2 path_E).mono ?_
  rintro e w2 ⟨g, c, rfl, g2, hP⟩
  have H2 := Lib.hid (And.intro g2 hP); clear g2 hP
  go_wp2_with fail
  refine (topSum g c w2 (HT.out.1.kept H2.out.1 (by simp)) H2.out.2).mono ?_
  rintro e w3 ⟨g3, c3, rfl, hg3, hP3⟩
  have H3 := Lib.hid (And.intro (gb_trans H2.out.1 hg3) hP3); clear hg3 hP3
  go_wp2
  go_ret
  exact ⟨g3, c3, rfl, H3.out.1, H3.out.2⟩
set_option maxRecDepth 100000 in
set_option maxHeartbeats 1000000 in
theorem awake12_any (w : World) (hT : Tables w) : Calls Tryz.prog 4 #[] w fun e w' => e = .returned (.bool true) ∧ w.grownBy w' none := by
  have HT := Lib.hid hT; clear hT
  go_enter Tryz.func4, Tryz.ntmps4
  go_wp2_with fail
  refine (new_zero w).mono ?_
  rintro e w1 ⟨B, rfl, g1, hTr⟩
  have H1 := Lib.hid (And.intro g1 hTr); clear g1 hTr
  go_upto_region 2 with (fail)
  refine wp_region_lit ?_
  refine Fg.wpl_value (v := .pointer (some ⟨B, 0, none⟩)) (w' := w1) rfl (Fg.run_move rfl rfl) ?_
  simp only [Act.put, List.setIfInBounds_toArray, List.set_cons_succ, List.set_cons_zero]
  refine Fg.wpl_call rfl (Fg.run_call (vs := #[.pointer (some ⟨B, 0, none⟩), .string ⟨#[]⟩]) rfl rfl (by simp only [List.map_toArray, List.map_cons, List.map_nil, Act.eval] <;> rfl) (Fg.run_enter Tryz.func7 (by kernel_rfl) (by kernel_rfl))) ?_
  refine (nodeCall_E B 0 w1 H1.out.2).mono ?_
  rintro e w2 ⟨rfl, gw2⟩
  refine ⟨_, rfl, ?_⟩
  simp only [Act.put, List.setIfInBounds_toArray, List.set_cons_succ, List.set_cons_zero]
  refine Fg.wpl_value (v := .tuple #[.agg nodeL.toArray, .int .i64 0]) (w' := w2) rfl (Fg.run_move rfl rfl) ?_
  simp only [Act.put, List.setIfInBounds_toArray, List.set_cons_succ, List.set_cons_zero]
  refine Fg.wpl_value (v := .agg nodeL.toArray) (w' := w2) rfl (by go_simp <;> rfl) ?_
  simp only [Act.put, List.setIfInBounds_toArray, List.set_cons_succ, List.set_cons_zero]
  refine Fg.wpl_value (v := .int .i64 0) (w' := w2) rfl (by go_simp <;> rfl) ?_
  simp only [Act.put, List.setIfInBounds_toArray, List.set_cons_succ, List.set_cons_zero]
  refine Fg.wpl_value (v := .pointer (some ⟨w2.heap.size, 0, none⟩)) (w' := w2.alloc (.cells nodeZ.toArray 36)) rfl (by go_simp; rfl) ?_
  simp only [Act.put, List.setIfInBounds_toArray, List.set_cons_succ, List.set_cons_zero]
  refine Fg.wpl_skip rfl rfl (Fg.run_store (cs := nodeL) rfl rfl rfl ((Blk.new w2 nodeZ 36).there 0 4 (by decide)) info_node rfl) ?_
  refine Fg.wpl_value (v := .int .i64 0) (w' := _) rfl (Fg.run_assign rfl rfl) ?_
  simp only [Act.put, List.setIfInBounds_toArray, List.set_cons_succ, List.set_cons_zero]
  refine wpList_nil ?_
  have b3 : Blk ((w2.alloc (.cells nodeZ.toArray 36)).setCells w2.heap.size 0 nodeL) w2.heap.size 36 nodeL := (Blk.new w2 nodeZ 36).setAll rfl
  have g3 := gb_setCells_new (cs := nodeL) (gb_alloc (gb_refl w2 none) (.cells nodeZ.toArray 36)) (B := w2.heap.size) (Nat.le_refl _) 0
  obtain ⟨N2, hN2⟩ : ∃ N2, N2 = w2.heap.size := ⟨_, rfl⟩
  rw [← hN2] at b3 g3 ⊢
  clear hN2
  revert g3; revert b3
  generalize World.setCells _ _ _ _ = w3
  intro b3 g3
  have H3 := Lib.hid (And.intro (gb_trans H1.out.1 (gb_trans gw2 g3)) (And.intro (H1.out.2.grown (gb_trans gw2 g3)) b3)); clear gw2 g3 b3
  have hb4 := Blk.new w3 [.int .u8 0] 5
  have hg4 : w3.grownBy (w3.alloc (.cells #[.int .u8 0] 5)) none := gb_alloc (gb_refl w3 none) _
  have hPt : PartAt (w3.alloc (.cells #[.int .u8 0] 5)) (w3.heap.size + 1) (some ⟨w3.heap.size, 0, none⟩) 1 [0] := ⟨Nat.le_refl _, one_byte (by decide), Or.inr ⟨w3.heap.size, 0, rfl, by omega, hb4.lt, fun i hi => by
    obtain rfl : i = 0 := by simpa using hi
    exact hb4.cell rfl⟩⟩
  have hrs := refSum_any 1 1 (w3.heap.size + 1) [0] (some ⟨w3.heap.size, 0, none⟩) _ rfl hPt (by decide)
  have HR := Lib.hid (And.intro hrs hg4); clear hrs hg4 hPt hb4
  go_wp2_with fail
  refine HR.out.1.mono ?_
  rintro e w4 ⟨gn, cn, rfl, g4, ho⟩
  obtain ⟨g2', c2', e2, _, _, hPn⟩ := own_bytesAt ho sum0_len (by decide) sum0_lt
  obtain ⟨h1, _, h3⟩ := Value.slice.inj e2
  cases h1
  subst h3
  have g34 := gb_trans HR.out.2 g4
  have H4 := Lib.hid (And.intro (gb_trans H3.out.1 g34) (And.intro (H3.out.2.1.grown g34) (And.intro (H3.out.2.2.grown g34 (by simp)) hPn))); clear g4 ho hPn g34 HR H3 e2
  have c0 := H4.out.2.2.1.cell (i := 0) rfl
  go_wp2_with fail
  refine (topCall B w4 (HT.out.kept H4.out.1 (by simp)) H4.out.2.1).mono ?_
  rintro e w5 ⟨g5, c5, rfl, hg5, hP5⟩
  have H5 := Lib.hid (And.intro (gb_trans H4.out.1 hg5) (And.intro (H4.out.2.1.grown hg5) (And.intro (H4.out.2.2.2.stay hg5) hP5))); clear hg5 hP5 c0
  go_wp2_with fail
  refine (topSum gn cn w5 (HT.out.kept H5.out.1 (by simp)) (H5.out.2.2.1.up H5.out.2.2.1.lim (Nat.le_refl _))).mono ?_
  rintro e w6 ⟨g6, c6, rfl, hg6, hP6⟩
  have hsm := sameBytes_any w5.heap.size w6.heap.size 64 64 c5 c6 (some ⟨g5, 0, none⟩) (some ⟨g6, 0, none⟩) top0 top0 w6 rfl rfl (H5.out.2.2.2.stay hg6) hP6
  rw [decide_eq_true rfl] at hsm
  have H6 := Lib.hid (And.intro (gb_trans H5.out.1 hg6) (And.intro (H5.out.2.1.grown hg6) (And.intro (H5.out.2.2.1.stay hg6) hsm))); clear hg6 hP6 hsm
  go_wp2_with fail
  refine H6.out.2.2.2.mono ?_
  rintro e w7 ⟨rfl, hg7⟩
  have H7 := Lib.hid (And.intro (gb_trans H6.out.1 hg7) (And.intro (H6.out.2.1.grown hg7) (H6.out.2.2.1.stay hg7))); clear hg7
  go_wp2_with fail
  refine (topCall B w7 (HT.out.kept H7.out.1 (by simp)) H7.out.2.1).mono ?_
  rintro e w8 ⟨g8, c8, rfl, hg8, _⟩
  have H8 := Lib.hid (And.intro (gb_trans H7.out.1 hg8) (And.intro (H7.out.2.1.grown hg8) (H7.out.2.2.stay hg8))); clear hg8
  go_wp2_with fail
  refine (sumCall B 0 _ w8 (HT.out.kept H8.out.1 (by simp)) H8.out.2.1 path_01).mono ?_
  rintro e w9 ⟨g9, c9, rfl, hg9, hP9⟩
  have hsm := sameBytes_any w9.heap.size _ 64 64 c9 cn (some ⟨g9, 0, none⟩) (some ⟨gn, 0, none⟩) sum0 sum0 w9 rfl rfl hP9 (H8.out.2.2.stay hg9)
  rw [decide_eq_true rfl] at hsm
  have H9 := Lib.hid (And.intro (gb_trans H8.out.1 hg9) hsm); clear hg9 hP9 hsm
  go_wp2_with fail
  refine H9.out.2.mono ?_
  rintro e w10 ⟨rfl, hg10⟩
  have H10 := Lib.hid (gb_trans H9.out.1 hg10); clear hg10
  go_wp2_with fail
  refine (new_no 4 w10 (Or.inr (by decide))).mono ?_
  rintro e w11 ⟨rfl, hg11⟩
  have H11 := Lib.hid (gb_trans H10.out hg11); clear hg11
  go_wp2
  go_ret
  exact ⟨rfl, H11.out⟩
end Mk
end Go.Proofs.YtabdegeaifajfaaGreatDoor
