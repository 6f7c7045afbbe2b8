/- merkle: a tree without leaves, and one that is none. -/
import Derived.Test.YtabdegeaifajfaaGreatDoorMkDigest
import Derived.Test.YtabdegeaifajfaaGreatDoorMkClone
import Derived.Test.YtabdegeaifajfaaGreatDoorFlowTB
namespace Go.Proofs.YtabdegeaifajfaaGreatDoor
open Go.RowKit Ow
namespace Mk
theorem info_tree : ∃ j, Tryz.prog.info? 31 = some j := Option.isSome_iff_exists.1 (by kernel_rfl)
theorem eqlT_same (a : Addr) (w : World) : (binOp .eql 25 (.pointer (some a)) (.pointer (some a))).run Tryz.prog w = .ok (.bool true) w := by
  obtain ⟨j, hj⟩ := info_tree
  exact run_eql_ptr_same w a Tryz.underlying25 hj
theorem eqlT_none (a : Addr) (w : World) : (binOp .eql 25 (.pointer none) (.pointer (some a))).run Tryz.prog w = .ok (.bool false) w := by
  have h : ∀ d : Nat, (Op.equalIn (d + 1) 25 (.pointer none) (.pointer (some a))).run Tryz.prog w = .ok false w := fun d => by
    simp [Op.equalIn, run_underlying Tryz.underlying25]
  simp only [binOp]
  simp [Op.equal, Op.maxDepth, h 9999]
theorem info_spot : (Tryz.prog.info? 62).map (·.size) = some 2 := by kernel_rfl
theorem info_node : (Tryz.prog.info? 36).map (·.size) = some 4 := by kernel_rfl
theorem shard_yes (n : Int) (w : World) (h0 : 0 ≤ n) (h1 : n < 4) : Calls Tryz.prog 19 #[.int .i64 n] w fun e w' => e = .returned (.bool true) ∧ w' = w := by
  go_enter Tryz.func19, Tryz.ntmps19
  go_wp2
  go_ret
  exact ⟨rfl, rfl⟩
theorem shard_no (n : Int) (w : World) (h : n < 0 ∨ 3 < n) : Calls Tryz.prog 19 #[.int .i64 n] w fun e w' => e = .returned (.bool false) ∧ w' = w := by
  rcases h with h | h
  · have i0 : ¬ 0 ≤ n := by omega
    go_enter Tryz.func19, Tryz.ntmps19
    go_wp2
    go_ret
    exact ⟨rfl, rfl⟩
  · have i0 : 0 ≤ n := by omega
    have i1 : ¬ n < 4 := by omega
    clear h
    go_enter Tryz.func19, Tryz.ntmps19
    go_wp2
    go_ret
    exact ⟨rfl, rfl⟩
/-- the cells of a tree without leaves -/
def treeL (s : Int) (M B : Nat) : List Value := [.slice none 0 0, .int .i64 s, .map (some M), .pointer (some ⟨B, 0, none⟩)]
def TreeAt (w : World) (B : Nat) (s : Int) : Prop := ∃ M, Blk w B 31 (treeL s M B)
theorem TreeAt.grown {w w' : World} {B : Nat} {s : Int} (h : TreeAt w B s) (hg : w.grownBy w' none) : TreeAt w' B s := h.elim fun M h => ⟨M, h.grown hg (by simp)⟩
theorem new_zero (w : World) : Calls Tryz.prog 6 #[.int .i64 0] w fun e w' => ∃ B, e = .returned (.pointer (some ⟨B, 0, none⟩)) ∧ w.grownBy w' none ∧ TreeAt w' B 0 := by
  go_enter Tryz.func6, Tryz.ntmps6
  go_wp2_with fail
  refine (shard_yes 0 w (by decide) (by decide)).mono ?_
  rintro e w' ⟨rfl, hw⟩
  have hw := hw.symm
  subst hw
  go_upto_region 3 with (fail)
  refine wp_region_lit ?_
  refine Fg.wpl_value (v := .int .i64 0) (w' := w) rfl (Fg.run_move rfl rfl) ?_
  simp only [Act.put, List.setIfInBounds_toArray, List.set_cons_succ, List.set_cons_zero]
  refine Fg.wpl_value (v := .map (some w.heap.size)) (w' := w.alloc (.map #[] 0)) rfl (rfl) ?_
  simp only [Act.put, List.setIfInBounds_toArray, List.set_cons_succ, List.set_cons_zero]
  have g1 := gb_alloc (gb_refl w none) (.map #[] 0)
  obtain ⟨M, hM⟩ : ∃ M, M = w.heap.size := ⟨_, rfl⟩
  rw [← hM]
  clear hM
  revert g1
  generalize w.alloc (.map #[] 0) = w1
  intro g1
  refine Fg.wpl_value (v := .agg #[.slice none 0 0, .int .i64 0, .map (some M), .pointer none]) (w' := w1) rfl (by go_simp) ?_
  simp only [Act.put, List.setIfInBounds_toArray, List.set_cons_succ, List.set_cons_zero]
  refine Fg.wpl_value (v := .pointer (some ⟨w1.heap.size, 0, none⟩)) (w' := w1.alloc (.cells #[.slice none 0 0, .int .i64 0, .map (some M), .pointer none] 31)) rfl (by go_simp) ?_
  simp only [Act.put, List.setIfInBounds_toArray, List.set_cons_succ, List.set_cons_zero]
  refine Fg.wpl_value (v := .pointer (some ⟨w1.heap.size, 0, none⟩)) (w' := w1.alloc (.cells #[.slice none 0 0, .int .i64 0, .map (some M), .pointer none] 31)) rfl (Fg.run_assign rfl rfl) ?_
  simp only [Act.put, List.setIfInBounds_toArray, List.set_cons_succ, List.set_cons_zero]
  refine wpList_nil ?_
  have b2 := Blk.new w1 [.slice none 0 0, .int .i64 0, .map (some M), .pointer none] 31
  have g2 := gb_trans g1 (gb_alloc (gb_refl w1 none) (.cells #[.slice none 0 0, .int .i64 0, .map (some M), .pointer none] 31))
  have s1 := g1.size
  obtain ⟨B, hB⟩ : ∃ B, B = w1.heap.size := ⟨_, rfl⟩
  rw [← hB] at b2 ⊢
  have hBw : w.heap.size ≤ B := by omega
  clear hB
  revert b2 g2
  generalize w1.alloc (.cells [.slice none 0 0, .int .i64 0, .map (some M), .pointer none].toArray 31) = w2
  intro g2 b2
  have b3 := b2.set 3 (.pointer (some ⟨B, 0, none⟩))
  have g3 := gb_set_new g2 (p := ⟨B, 3, none⟩) hBw (.pointer (some ⟨B, 0, none⟩))
  have c3 := b2.cell (i := 3) rfl
  have f3 := b2.free 3
  have H3 := Lib.hid (And.intro g3 b3); clear g3 b3 b2 g2 g1 s1
  go_wp2
  go_ret
  exact ⟨B, rfl, H3.out.1, ⟨M, H3.out.2⟩⟩
theorem new_no (n : Int) (w : World) (h : n < 0 ∨ 3 < n) : Calls Tryz.prog 6 #[.int .i64 n] w fun e w' => e = .returned (.pointer none) ∧ w.grownBy w' none := by
  have HS := Lib.hid (shard_no n w h); clear h
  go_enter Tryz.func6, Tryz.ntmps6
  go_wp2_with fail
  refine HS.out.mono ?_
  rintro e w' ⟨rfl, rfl⟩
  go_wp2
  go_ret
  exact ⟨rfl, gb_refl _ _⟩
theorem good_yes (B : Nat) (s : Int) (w : World) (h : TreeAt w B s) : Calls Tryz.prog 20 #[.pointer (some ⟨B, 0, none⟩)] w fun e w' => e = .returned (.bool true) ∧ w' = w := by
  obtain ⟨M, hb⟩ := h
  have c3 := hb.cell (i := 3) rfl
  have he := fun wx => eqlT_same ⟨B, 0, none⟩ wx
  clear hb
  go_enter Tryz.func20, Tryz.ntmps20
  go_wp2
  go_ret
  exact ⟨rfl, rfl⟩
/-- none, or a zero tree -/
def NoTree (w : World) (v : Value) : Prop := v = .pointer none ∨ ∃ B, v = .pointer (some ⟨B, 0, none⟩) ∧ w.cell? ⟨B, 3, none⟩ = some (.pointer none) ∧ B < w.heap.size
theorem NoTree.stay {w w' : World} {v : Value} (h : NoTree w v) (hg : w.grownBy w' none) : NoTree w' v := by
  rcases h with h | ⟨B, e, hc, hl⟩
  · exact Or.inl h
  · exact Or.inr ⟨B, e, by rw [gb_cell hg (p := ⟨B, 3, none⟩) hl (by simp)]; exact hc, Nat.lt_of_lt_of_le hl hg.size⟩
theorem good_no (v : Value) (w : World) (h : NoTree w v) : Calls Tryz.prog 20 #[v] w fun e w' => e = .returned (.bool false) ∧ w' = w := by
  rcases h with rfl | ⟨B, rfl, c3, _⟩
  · go_enter Tryz.func20, Tryz.ntmps20
    go_wp2
    go_ret
    exact ⟨rfl, rfl⟩
  · have he := fun wx => eqlT_none ⟨B, 0, none⟩ wx
    go_enter Tryz.func20, Tryz.ntmps20
    go_wp2
    go_ret
    exact ⟨rfl, rfl⟩
theorem begins_one (w : World) : Calls Tryz.prog 61 #[.int .u8 1] w fun e w' => e = .returned (.int .u8 0) ∧ w.grownBy w' none := by
  go_enter Tryz.func61, Tryz.ntmps61
  go_wp2
  go_ret
  exact ⟨rfl, gb_refl _ _⟩
theorem kind_none (d : Int) (w : World) : Calls Tryz.prog 43 #[.agg #[.slice none 0 0, .int .i64 d]] w fun e w' => e = .returned (.int .u8 1) ∧ w.grownBy w' none := by
  go_enter Tryz.func43, Tryz.ntmps43
  have b := Blk.new w [.slice none 0 0, .int .i64 d] 62
  have c0 := b.cell (i := 0) rfl
  go_wp2
  go_ret
  exact ⟨rfl, gb_alloc (gb_refl _ _) _⟩
theorem stubs_none (w : World) : Calls Tryz.prog 62 #[.slice none 0 0] w fun e w' => e = .returned (.slice none 0 0) ∧ w.grownBy w' none := by
  go_enter Tryz.func62, Tryz.ntmps62
  go_wp2
  go_loopw [3, 8] (fun v i wr => v = .slice none 0 0 ∧ i = .int .i64 0 ∧ wr = w) (fun _ _ _ => 0)
  case atStart => exact ⟨rfl, rfl, rfl⟩
  case round =>
    obtain ⟨rfl, rfl, rfl⟩ := hrel
    go_wp2
    go_ret
    exact ⟨rfl, gb_refl _ _⟩
theorem told_none (w : World) : Calls Tryz.prog 37 #[.slice none 0 0] w fun e w' => e = .returned (.slice none 0 0) ∧ w.grownBy w' none := by
  go_enter Tryz.func37, Tryz.ntmps37
  go_wp2
  go_loopw [3, 8] (fun v i wr => v = .slice none 0 0 ∧ i = .int .i64 0 ∧ wr = w) (fun _ _ _ => 0)
  case atStart => exact ⟨rfl, rfl, rfl⟩
  case round =>
    obtain ⟨rfl, rfl, rfl⟩ := hrel
    go_wp2
    go_ret
    exact ⟨rfl, gb_refl _ _⟩
theorem search_none (f : Value) (w : World) : Calls Tryz.prog 45 #[.int .i64 0, f] w fun e w' => e = .returned (.int .i64 0) ∧ w' = w := by
  go_enter Tryz.func45, Tryz.ntmps45
  go_wp2
  go_loopw [5, 6] (fun i j wr => i = .int .i64 0 ∧ j = .int .i64 0 ∧ wr = w) (fun _ _ _ => 0)
  case atStart => exact ⟨rfl, rfl, rfl⟩
  case round =>
    obtain ⟨rfl, rfl, rfl⟩ := hrel
    go_wp2
    go_ret
    exact ⟨rfl, rfl⟩
set_option maxHeartbeats 1000000 in
theorem at_none (s : ByteArray) (w : World) : Calls Tryz.prog 23 #[.slice none 0 0, .string s] w fun e w' => e = .returned (.agg #[.slice none 0 0, .int .i64 s.size]) ∧ w.grownBy w' none := by
  go_enter Tryz.func23, Tryz.ntmps23
  have b1 := (((Blk.new w [.slice none 0 0] 28).alloc (.cells [.string s].toArray 9)).alloc (.cells [.slice none 0 0, .int .i64 0].toArray 62))
  have b2 := (blk_at (w.alloc (.cells [.slice none 0 0].toArray 28)) (B := w.heap.size + 1) [.string s] 9 (by simp)).alloc (.cells [.slice none 0 0, .int .i64 0].toArray 62)
  have b3 := blk_at ((w.alloc (.cells [.slice none 0 0].toArray 28)).alloc (.cells [.string s].toArray 9)) (B := w.heap.size + 1 + 1) [.slice none 0 0, .int .i64 0] 62 (by simp)
  have g3 := gb_alloc (gb_alloc (gb_alloc (gb_refl w none) (.cells [.slice none 0 0].toArray 28)) (.cells [.string s].toArray 9)) (.cells [.slice none 0 0, .int .i64 0].toArray 62)
  go_upto_region 1 with (fail)
  show Code.wp _ _ _ _ (((w.alloc (.cells [.slice none 0 0].toArray 28)).alloc (.cells [.string s].toArray 9)).alloc (.cells [.slice none 0 0, .int .i64 0].toArray 62))
  revert g3; revert b3; revert b2; revert b1
  generalize (((w.alloc (.cells [.slice none 0 0].toArray 28)).alloc (.cells [.string s].toArray 9)).alloc (.cells [.slice none 0 0, .int .i64 0].toArray 62)) = w3
  intro b1 b2 b3 g3
  have z3 := b3.lt
  have H3 := Lib.hid (And.intro g3 (And.intro b1 (And.intro b2 b3)))
  have c0 := b1.cell (i := 0) rfl
  clear b1 b2 b3 g3
  go_wp2_with fail
  refine (search_none _ w3).mono ?_
  rintro e w4 ⟨rfl, hw⟩
  subst hw
  have b4 : Blk (w4.alloc (.cells #[.slice none 0 0] 28)) w4.heap.size 28 [.slice none 0 0] := Blk.new w4 [.slice none 0 0] 28
  have g4 := gb_alloc (gb_refl w4 none) (.cells #[.slice none 0 0] 28)
  go_wp2_with fail
  refine (search_none _ (w4.alloc (.cells #[.slice none 0 0] 28))).mono ?_
  rintro e w5 ⟨rfl, hw⟩
  subst hw
  have b2 := H3.out.2.2.1.grown g4 (by simp)
  have b3 := H3.out.2.2.2.grown g4 (by simp)
  have k0 := b2.cell (i := 0) rfl
  have k1 := b4.cell (i := 0) rfl
  have k2 := b3.cell (i := 0) rfl
  have k3 := b3.cell (i := 1) rfl
  have k4 := b3.free 0
  have k5 := b3.free 1
  have k6 := H3.out.2.2.2.cell (i := 0) rfl
  have k7 := H3.out.2.2.2.cell (i := 1) rfl
  have k8 := H3.out.2.2.2.free 0
  have k9 := H3.out.2.2.2.free 1
  have e3 := (H3.out.2.2.2.set 0 (.slice none 0 0)).set 1 (.int .i64 s.size)
  have e4 := gb_set_new (gb_set_new H3.out.1 (p := ⟨w.heap.size + 1 + 1, 0, none⟩) (by show w.heap.size ≤ w.heap.size + 1 + 1; omega) (.slice none 0 0)) (p := ⟨w.heap.size + 1 + 1, 1, none⟩) (by show w.heap.size ≤ w.heap.size + 1 + 1; omega) (.int .i64 s.size)
  have e5 := gb_alloc e4 (.cells #[.slice none 0 0] 28)
  have e6 := e3.alloc (.cells #[.slice none 0 0] 28)
  have H5 := Lib.hid (And.intro (gb_drew e5) (e6.grown (gb_drew (gb_refl _ none)) (by simp))); clear b2 b3 b4 g4 e3 e4 e5 e6
  go_wp2_with fail
  go_region
  have c0 := H5.out.2.cell (i := 0) rfl
  have c1 := H5.out.2.cell (i := 1) rfl
  go_wp2
  exact bodyPost_ret (v := .agg #[.slice none 0 0, .int .i64 s.size]) (results_cell_row Tryz.results23 _ _ (w.heap.size + 1 + 1) 62 #[.slice none 0 0, .int .i64 s.size] (0, 0) _ rfl H5.out.2 Tryz.underlying62 rfl info_spot) rfl ⟨rfl, H5.out.1⟩
theorem nilcheck_ok : True := trivial
/-- a node that is none -/
def nodeZ : List Value := [.int .u8 0, .slice none 0 0, .slice none 0 0, .slice none 0 0]
def nodeL : List Value := [.int .u8 1, .slice none 0 0, .slice none 0 0, .slice none 0 0]
set_option maxHeartbeats 1000000 in
theorem node_none (v : Value) (d : Int) (w : World) : Calls Tryz.prog 22 #[v, .agg #[.slice none 0 0, .int .i64 d]] w fun e w' => e = .returned (.agg nodeL.toArray) ∧ w.grownBy w' none := by
  go_enter Tryz.func22, Tryz.ntmps22
  go_upto_region 1 with (fail)
  show Code.wp _ _ _ _ ((w.alloc (.cells [.slice none 0 0, .int .i64 d].toArray 62)).alloc (.cells nodeZ.toArray 36))
  have b1 := (Blk.new w [.slice none 0 0, .int .i64 d] 62).alloc (.cells nodeZ.toArray 36)
  have b2 := blk_at (w.alloc (.cells [.slice none 0 0, .int .i64 d].toArray 62)) (B := w.heap.size + 1) nodeZ 36 (by simp)
  have g2 := gb_alloc (gb_alloc (gb_refl w none) (.cells [.slice none 0 0, .int .i64 d].toArray 62)) (.cells nodeZ.toArray 36)
  revert g2; revert b2; revert b1
  generalize (w.alloc (.cells [.slice none 0 0, .int .i64 d].toArray 62)).alloc (.cells nodeZ.toArray 36) = w2
  intro b1 b2 g2
  have z2 := b2.lt
  refine wp_region_lit ?_
  refine Fg.wpl_value (v := .agg #[.slice none 0 0, .int .i64 d]) (w' := w2) rfl (Fg.run_load rfl rfl (b1.range 0 [.slice none 0 0, .int .i64 d] rfl) Tryz.underlying62 rfl info_spot) ?_
  simp only [Act.put, List.setIfInBounds_toArray, List.set_cons_succ, List.set_cons_zero]
  refine Fg.wpl_call rfl (Fg.run_call (vs := #[.agg #[.slice none 0 0, .int .i64 d]]) rfl rfl (by simp only [List.map_toArray, List.map_cons, List.map_nil, Act.eval] <;> rfl) (Fg.run_enter Tryz.func43 (by kernel_rfl) (by kernel_rfl))) ?_
  refine (kind_none d w2).mono ?_
  rintro e w3 ⟨rfl, gw3⟩
  refine ⟨_, rfl, ?_⟩
  simp only [Act.put, List.setIfInBounds_toArray, List.set_cons_succ, List.set_cons_zero]
  refine Fg.wpl_value (v := .agg nodeL.toArray) (w' := w3) rfl (by go_simp; rfl) ?_
  simp only [Act.put, List.setIfInBounds_toArray, List.set_cons_succ, List.set_cons_zero]
  refine Fg.wpl_value (v := .pointer (some ⟨w3.heap.size, 0, none⟩)) (w' := w3.alloc (.cells nodeZ.toArray 36)) rfl (by go_simp; rfl) ?_
  simp only [Act.put, List.setIfInBounds_toArray, List.set_cons_succ, List.set_cons_zero]
  refine Fg.wpl_skip rfl rfl (Fg.run_store (cs := nodeL) rfl rfl rfl ((Blk.new w3 nodeZ 36).there 0 4 (by decide)) info_node rfl) ?_
  refine wpList_nil ?_
  have b3 : Blk ((w3.alloc (.cells nodeZ.toArray 36)).setCells w3.heap.size 0 nodeL) w3.heap.size 36 nodeL := (Blk.new w3 nodeZ 36).setAll rfl
  have g3 := gb_setCells_new (cs := nodeL) (gb_alloc (gb_refl w3 none) (.cells nodeZ.toArray 36)) (B := w3.heap.size) (Nat.le_refl _) 0
  have z3 := gw3.size
  obtain ⟨N5, hN5⟩ : ∃ N5, N5 = w3.heap.size := ⟨_, rfl⟩
  rw [← hN5] at b3 g3 ⊢
  have hNw : w.heap.size + 1 < N5 := by omega
  revert g3; revert b3
  generalize World.setCells _ _ _ _ = w4
  intro b3 g3
  have g24 := gb_trans gw3 g3
  have H4 := Lib.hid (And.intro (gb_trans g2 g24) (And.intro (b1.grown g24 (by simp)) (And.intro (b2.grown g24 (by simp)) b3))); clear b1 b2 g2 gw3 g3 b3 g24 hN5 z3
  have c0 := H4.out.2.2.2.cell (i := 0) rfl
  have c1 := H4.out.2.1.cell (i := 0) rfl
  go_wp2_with fail
  refine (told_none w4).mono ?_
  rintro e w5 ⟨rfl, g5⟩
  have c2 := (H4.out.2.2.2.grown g5 (by simp)).cell (i := 3) rfl
  have f2 := (H4.out.2.2.2.grown g5 (by simp)).free 3
  have H5 := Lib.hid (And.intro (gb_set_new (gb_trans H4.out.1 g5) (p := ⟨N5, 3, none⟩) (by show w.heap.size ≤ N5; omega) (.slice none 0 0)) (And.intro ((H4.out.2.2.2.grown g5 (by simp)).set 3 (.slice none 0 0)) ((H4.out.2.2.1.grown g5 (by simp)).other (a := ⟨N5, 3, none⟩) (by show N5 ≠ w.heap.size + 1; omega) (.slice none 0 0))))
  clear g5 c0 c1
  go_upto_region 4 with (fail)
  revert H5
  generalize w5.setCell ⟨N5, 3, none⟩ (.slice none 0 0) = w6
  intro H5
  refine wp_region_lit ?_
  refine Fg.wpl_value (v := .agg nodeL.toArray) (w' := w6) rfl (Fg.run_load rfl rfl (H5.out.2.1.range 0 nodeL rfl) Tryz.underlying36 rfl info_node) ?_
  simp only [Act.put, List.setIfInBounds_toArray, List.set_cons_succ, List.set_cons_zero]
  refine Fg.wpl_skip rfl rfl (Fg.run_store (cs := nodeL) rfl rfl rfl (H5.out.2.2.there 0 4 (by decide)) info_node rfl) ?_
  refine wpList_nil ?_
  have b7 : Blk (w6.setCells (w.heap.size + 1) 0 nodeL) (w.heap.size + 1) 36 nodeL := H5.out.2.2.setAll rfl
  have g7 := gb_setCells_new (cs := nodeL) H5.out.1 (B := w.heap.size + 1) (by omega) 0
  revert g7; revert b7
  generalize World.setCells _ _ _ _ = w7
  intro b7 g7
  go_wp2_with fail
  exact bodyPost_ret (v := .agg nodeL.toArray) (results_cell_row Tryz.results22 _ _ (w.heap.size + 1) 36 nodeL.toArray (0, 0) _ rfl b7 Tryz.underlying36 rfl info_node) rfl ⟨rfl, g7⟩
/-- a slice of n bytes, in a block of its own -/
def itB (n : Nat) (l : List Nat) : Fg.It := ⟨fun v w => ∃ g, v = .slice (some ⟨g, 0, none⟩) n n ∧ Blk w g 5 (l.map u8N), fun _ _ _ ⟨g, e, h⟩ hg => ⟨g, e, h.grown hg (by simp)⟩⟩
/-- the digest of what is not there -/
def sum0 : List Nat := Sha.sum [0]
theorem digest_zero (w : World) (hT : Tables w) : Calls Tryz.prog 41 #[.int .u8 0, .slice none 0 0] w fun e w' => ∃ v, e = .returned v ∧ w.grownBy w' none ∧ ∃ g, v = .slice (some ⟨g, 0, none⟩) 64 64 ∧ Blk w' g 5 (sum0.map u8N) :=
  (digest_any 0 0 0 [] none w (by decide) rfl hT ⟨Nat.le_refl _, fun p hp => (by cases hp), Or.inl rfl⟩ (fun _ => rfl) (by decide) (by decide)).mono fun _ _ ⟨NB, he, hg, _, hb⟩ => ⟨_, he, hg, NB, rfl, hb⟩
set_option maxHeartbeats 1000000 in
theorem sum_none (v : Value) (d : Int) (w0 : World) (hT : Tables w0) : Calls Tryz.prog 31 #[v, .agg #[.slice none 0 0, .int .i64 d]] w0 fun e w' => ∃ g, e = .returned (.slice (some ⟨g, 0, none⟩) 64 64) ∧ w0.grownBy w' none ∧ Blk w' g 5 (sum0.map u8N) := by
  have HT := Lib.hid hT; clear hT
  go_enter Tryz.func31, Tryz.ntmps31
  go_upto_region 1 with (fail)
  show Code.wp _ _ _ _ (w0.alloc (.cells [.slice none 0 0, .int .i64 d].toArray 62))
  have b1 := Blk.new w0 [.slice none 0 0, .int .i64 d] 62
  have g1 := gb_alloc (gb_refl w0 none) (.cells [.slice none 0 0, .int .i64 d].toArray 62)
  revert g1; revert b1
  generalize w0.alloc (.cells [.slice none 0 0, .int .i64 d].toArray 62) = w1
  intro b1 g1
  refine wp_region_lit ?_
  refine Fg.wpl_value (v := .agg #[.slice none 0 0, .int .i64 d]) (w' := w1) rfl (Fg.run_load rfl rfl (b1.range 0 [.slice none 0 0, .int .i64 d] rfl) Tryz.underlying62 rfl info_spot) ?_
  simp only [Act.put, List.setIfInBounds_toArray, List.set_cons_succ, List.set_cons_zero]
  refine Fg.wpl_call rfl (Fg.run_call (vs := #[.agg #[.slice none 0 0, .int .i64 d]]) rfl rfl (by simp only [List.map_toArray, List.map_cons, List.map_nil, Act.eval] <;> rfl) (Fg.run_enter Tryz.func43 (by kernel_rfl) (by kernel_rfl))) ?_
  refine (kind_none d w1).mono ?_
  rintro e w2 ⟨rfl, gw2⟩
  refine ⟨_, rfl, ?_⟩
  simp only [Act.put, List.setIfInBounds_toArray, List.set_cons_succ, List.set_cons_zero]
  refine Fg.wpl_value (v := .int .u8 1) (w' := w2) rfl (Fg.run_assign rfl rfl) ?_
  simp only [Act.put, List.setIfInBounds_toArray, List.set_cons_succ, List.set_cons_zero]
  refine wpList_nil ?_
  have H2 := Lib.hid (And.intro (gb_trans g1 gw2) (b1.grown gw2 (by simp))); clear b1 g1 gw2
  go_upto_region 3 with (fail)
  refine Fg.region_t [] [.any, .any, .any, .any, .any, .any, .any, .any, .any, .any, .any, .any, .any, .val (Value.int .u8 1), .val (Value.int .u8 0), .val (Value.pointer (some ⟨w0.heap.size, 0, none⟩)), .val (Value.slice none 0 0), .val (Value.slice none 0 0), itB 64 sum0] w2 6 (gb_refl _ _) (by kernel_rfl) (by kernel_rfl) (by kernel_rfl) (by kernel_rfl) (by decide) (by kernel_rfl) ?_ ?_
  · refine ⟨Fg.vT rfl (by decide) fun ac w h => ?_, ?_⟩
    · have e5 : ac.tmps.getD 5 undef = Value.int .u8 1 := h.rest 5 (by kernel_rfl)
      exact ⟨_, w, wants_none rfl, Fg.run_move rfl e5, gb_refl _ _, rfl⟩
    refine ⟨Fg.cT rfl (by decide) fun ac w h => ?_, ?_⟩
    · have e13 : ac.tmps.getD 13 undef = Value.int .u8 1 := h.dep 13 (by kernel_rfl)
      refine ⟨61, #[Value.int .u8 1], wants_none rfl, Fg.run_call rfl rfl (by simp only [List.map_toArray, List.map_cons, List.map_nil, Act.eval, e13]) (Fg.run_enter Tryz.func61 (by kernel_rfl) (by kernel_rfl)), ?_⟩
      exact (begins_one w).mono fun _ _ ⟨he, hg⟩ => ⟨_, he, hg, rfl⟩
    refine ⟨Fg.vT rfl (by decide) fun ac w h => ?_, ?_⟩
    · have e3 : ac.tmps.getD 3 undef = Value.pointer (some ⟨w0.heap.size, 0, none⟩) := h.rest 3 (by kernel_rfl)
      refine ⟨Value.pointer (some ⟨w0.heap.size, 0, none⟩), w, wants_none rfl, ?_, gb_refl _ _, rfl⟩
      clear h
      simp only [execOp, Act.eval, e3]
      go_simp
    refine ⟨Fg.vT rfl (by decide) fun ac w h => ?_, ?_⟩
    · have e15 : ac.tmps.getD 15 undef = Value.pointer (some ⟨w0.heap.size, 0, none⟩) := h.dep 15 (by kernel_rfl)
      have m0 := ((H2.out.2).grown h.base (by simp)).cell (i := 0) rfl
      refine ⟨Value.slice none 0 0, w, wants_none rfl, ?_, gb_refl _ _, rfl⟩
      clear h
      simp only [execOp, Act.eval, e15]
      go_simp
    refine ⟨Fg.cT rfl (by decide) fun ac w h => ?_, ?_⟩
    · have e16 : ac.tmps.getD 16 undef = Value.slice none 0 0 := h.dep 16 (by kernel_rfl)
      refine ⟨62, #[Value.slice none 0 0], wants_none rfl, Fg.run_call rfl rfl (by simp only [List.map_toArray, List.map_cons, List.map_nil, Act.eval, e16]) (Fg.run_enter Tryz.func62 (by kernel_rfl) (by kernel_rfl)), ?_⟩
      exact (stubs_none w).mono fun _ _ ⟨he, hg⟩ => ⟨_, he, hg, rfl⟩
    refine ⟨Fg.cT rfl (by decide) fun ac w h => ?_, ?_⟩
    · have e14 : ac.tmps.getD 14 undef = Value.int .u8 0 := h.dep 14 (by kernel_rfl)
      have e17 : ac.tmps.getD 17 undef = Value.slice none 0 0 := h.dep 17 (by kernel_rfl)
      refine ⟨41, #[Value.int .u8 0, Value.slice none 0 0], wants_none rfl, Fg.run_call rfl rfl (by simp only [List.map_toArray, List.map_cons, List.map_nil, Act.eval, e14, e17]) (Fg.run_enter Tryz.func41 (by kernel_rfl) (by kernel_rfl)), ?_⟩
      exact (digest_zero w (HT.out.kept (gb_trans H2.out.1 h.base) (by simp))).mono fun _ _ ⟨v, he, hg, hb⟩ => ⟨v, he, hg, hb⟩
    trivial
  · intro aq wq hB hsz hdf hrest hslots hpt
    obtain ⟨u13, e13⟩ : ∃ u, aq.tmps.getD 13 undef = u := ⟨_, rfl⟩
    obtain ⟨u14, e14⟩ : ∃ u, aq.tmps.getD 14 undef = u := ⟨_, rfl⟩
    obtain ⟨u15, e15⟩ : ∃ u, aq.tmps.getD 15 undef = u := ⟨_, rfl⟩
    obtain ⟨u16, e16⟩ : ∃ u, aq.tmps.getD 16 undef = u := ⟨_, rfl⟩
    obtain ⟨u17, e17⟩ : ∃ u, aq.tmps.getD 17 undef = u := ⟨_, rfl⟩
    obtain ⟨g18, e18, b18⟩ : ∃ g, aq.tmps.getD 18 undef = .slice (some ⟨g, 0, none⟩) 64 64 ∧ Blk wq g 5 (sum0.map u8N) := hslots 18 (by kernel_rfl)
    obtain rfl := Fg.frame_is (a := aq) (vs := [v, Value.agg #[Value.slice none 0 0, Value.int .i64 d], undef, Value.pointer (some ⟨w0.heap.size, 0, none⟩), Value.slice none 0 0, Value.int .u8 1, undef, undef, undef, Value.agg #[Value.slice none 0 0, Value.int .i64 d], Value.int .u8 1, Value.int .u8 1, Value.bool true, u13, u14, u15, u16, u17, Value.slice (some ⟨g18, 0, none⟩) 64 64, undef, undef, undef, undef, undef, undef, undef, undef, undef, undef, undef, undef, undef, undef, undef, undef, undef, undef, undef, undef, undef, undef, undef, undef, undef, undef, undef, undef, undef, undef, undef, undef]) hsz ⟨hrest 0 (by kernel_rfl), hrest 1 (by kernel_rfl), hrest 2 (by kernel_rfl), hrest 3 (by kernel_rfl), hrest 4 (by kernel_rfl), hrest 5 (by kernel_rfl), hrest 6 (by kernel_rfl), hrest 7 (by kernel_rfl), hrest 8 (by kernel_rfl), hrest 9 (by kernel_rfl), hrest 10 (by kernel_rfl), hrest 11 (by kernel_rfl), hrest 12 (by kernel_rfl), e13, e14, e15, e16, e17, e18, hrest 19 (by kernel_rfl), hrest 20 (by kernel_rfl), hrest 21 (by kernel_rfl), hrest 22 (by kernel_rfl), hrest 23 (by kernel_rfl), hrest 24 (by kernel_rfl), hrest 25 (by kernel_rfl), hrest 26 (by kernel_rfl), hrest 27 (by kernel_rfl), hrest 28 (by kernel_rfl), hrest 29 (by kernel_rfl), hrest 30 (by kernel_rfl), hrest 31 (by kernel_rfl), hrest 32 (by kernel_rfl), hrest 33 (by kernel_rfl), hrest 34 (by kernel_rfl), hrest 35 (by kernel_rfl), hrest 36 (by kernel_rfl), hrest 37 (by kernel_rfl), hrest 38 (by kernel_rfl), hrest 39 (by kernel_rfl), hrest 40 (by kernel_rfl), hrest 41 (by kernel_rfl), hrest 42 (by kernel_rfl), hrest 43 (by kernel_rfl), hrest 44 (by kernel_rfl), hrest 45 (by kernel_rfl), hrest 46 (by kernel_rfl), hrest 47 (by kernel_rfl), hrest 48 (by kernel_rfl), hrest 49 (by kernel_rfl), hrest 50 (by kernel_rfl), trivial⟩ hdf
    clear hsz hdf hrest hslots hpt e13 e14 e15 e16 e17 e18
    refine Fg.wpl_value (v := .slice (some ⟨g18, 0, none⟩) 64 64) (w' := wq) rfl (Fg.run_assign rfl rfl) ?_
    simp only [Act.put, List.setIfInBounds_toArray, List.set_cons_succ, List.set_cons_zero]
    refine wpList_nil ?_
    have H3 := Lib.hid (And.intro (gb_trans H2.out.1 hB) b18); clear hB b18
    go_wp2
    go_ret
    exact ⟨g18, rfl, H3.out.1, H3.out.2⟩
end Mk
end Go.Proofs.YtabdegeaifajfaaGreatDoor
