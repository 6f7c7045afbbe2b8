/- merkle: which texts are paths: the empty one, and 01. -/
import Derived.Test.YtabdegeaifajfaaGreatDoorMkTree
namespace Go.Proofs.YtabdegeaifajfaaGreatDoor
open Go.RowKit Ow
namespace Mk
def s01 : ByteArray := ⟨#[48, 49]⟩
def s0 : ByteArray := ⟨#[48]⟩
def sE : ByteArray := ⟨#[]⟩
def asZ : List Value := List.replicate 256 (.bool false)
def asO : List Value := asZ.set 48 (.bool true)
def asT : List Value := asO.set 49 (.bool true)
theorem info_as : (Tryz.prog.info? 124).map (·.size) = some 256 := by kernel_rfl
theorem res_row_tmp {P : Program} {fn : Func} {p u : Tmp} {ty : TypeId} (h : fn.results = #[.cell p ty, .tmp u]) (tmps : Array Value) (w : World) (g : Nat) (t : TypeId) (cs : Array Value) (fr : Nat × Nat) (d : TypeDesc)
    (hp : tmps.getD p undef = .pointer (some ⟨g, 0, none⟩)) (hg : w.heap[g]? = some (.cells cs t fr))
    (hu : P.underlying ty = some d) (hd : (match d with | .struct _ | .array _ _ => true | _ => false) = true) (hi : (P.info? ty).map (·.size) = some cs.size) {v : Value} (hv : tmps.getD u undef = v) :
    (results fn tmps).run P w = .ok (.tuple #[.agg cs, v]) w := by
  rw [results_cell_tmp h, hp, hv]
  simp [asAddr, run_loadVar_row w g t ty cs fr d hg hu hd hi, Result.andThen]
set_option maxRecDepth 100000 in
set_option maxHeartbeats 2000000 in
theorem ascii_01 (w : World) : Calls Tryz.prog 75 #[.string s01] w fun e w' => e = .returned (.tuple #[.agg asT.toArray, .bool true]) ∧ w.grownBy w' none := by
  obtain ⟨t, ht⟩ : ∃ t, t = s01 := ⟨_, rfl⟩
  have hz : t.size = 2 := by rw [ht]; rfl
  have q0 : ∀ w, (Instr.index 9 (.string t) (.int .i64 0)).run Tryz.prog w = .ok (.int .u8 48) w := fun w => by rw [ht]; kernel_rfl
  have q1 : ∀ w, (Instr.index 9 (.string t) (.int .i64 1)).run Tryz.prog w = .ok (.int .u8 49) w := fun w => by rw [ht]; kernel_rfl
  rw [← ht]
  clear ht
  go_enter Tryz.func75, Tryz.ntmps75
  go_upto_region 1 with (fail)
  show Code.wp _ _ _ _ (w.alloc (.cells asZ.toArray 124))
  have b1 := Blk.new w asZ 124
  have g1 := gb_alloc (gb_refl w none) (.cells asZ.toArray 124)
  revert g1; revert b1
  generalize w.alloc (.cells asZ.toArray 124) = w1
  intro b1 g1
  have H1 := Lib.hid (And.intro g1 b1); clear g1 b1
  go_wp2
  go_loopw [4, 5] (fun i _c wr => (i = .int .i64 0 ∧ w.grownBy wr none ∧ Blk wr w.heap.size 124 asZ) ∨ (i = .int .i64 1 ∧ w.grownBy wr none ∧ Blk wr w.heap.size 124 asO) ∨ (i = .int .i64 2 ∧ w.grownBy wr none ∧ Blk wr w.heap.size 124 asT)) (fun i _ _ => 2 - (intOf i).toNat)
  case atStart => exact Or.inl ⟨rfl, H1.out⟩
  case round =>
    rcases hrel with ⟨rfl, hg, hb⟩ | ⟨rfl, hg, hb⟩ | ⟨rfl, hg, hb⟩
    · have c0 := hb.cell (i := 48) (v := .bool false) rfl
      have f0 := hb.free 48
      have HI : Hid (_ ∧ Blk _ _ _ asO) := Lib.hid (And.intro (gb_set_new hg (p := ⟨w.heap.size, 48, none⟩) (Nat.le_refl _) (.bool true)) (hb.set 48 (.bool true))); clear hg hb
      go_wp2
      exact ⟨Or.inr (Or.inl ⟨rfl, HI.out⟩), by decide⟩
    · have c0 := hb.cell (i := 49) (v := .bool false) rfl
      have f0 := hb.free 49
      have HI : Hid (_ ∧ Blk _ _ _ asT) := Lib.hid (And.intro (gb_set_new hg (p := ⟨w.heap.size, 49, none⟩) (Nat.le_refl _) (.bool true)) (hb.set 49 (.bool true))); clear hg hb
      go_wp2
      exact ⟨Or.inr (Or.inr ⟨rfl, HI.out⟩), by decide⟩
    · go_upto_region 8 with (fail)
      refine wp_region_lit ?_
      refine Fg.wpl_value (v := .agg asT.toArray) (w' := wr) rfl (Fg.run_load rfl rfl (hb.range 0 asT rfl) Tryz.underlying124 rfl info_as) ?_
      simp only [Act.put, List.setIfInBounds_toArray, List.set_cons_succ, List.set_cons_zero]
      refine Fg.wpl_skip rfl rfl (Fg.run_store (cs := asT) rfl rfl rfl (hb.there 0 256 (by decide)) info_as rfl) ?_
      refine Fg.wpl_value (v := .bool true) (w' := _) rfl (Fg.run_assign rfl rfl) ?_
      simp only [Act.put, List.setIfInBounds_toArray, List.set_cons_succ, List.set_cons_zero]
      refine wpList_nil ?_
      have b7 : Blk (wr.setCells w.heap.size 0 asT) w.heap.size 124 asT := hb.setAll rfl
      have g7 := gb_setCells_new (cs := asT) hg (B := w.heap.size) (Nat.le_refl _) 0
      revert g7; revert b7
      generalize World.setCells _ _ _ _ = w7
      intro b7 g7
      go_wp2_with fail
      exact bodyPost_ret (v := .tuple #[.agg asT.toArray, .bool true]) (res_row_tmp Tryz.results75 _ _ w.heap.size 124 asT.toArray (0, 0) _ rfl b7 Tryz.underlying124 rfl info_as rfl) rfl ⟨rfl, g7⟩
theorem has_48 (B : Nat) (w : World) (h : Blk w B 124 asT) : Calls Tryz.prog 107 #[.pointer (some ⟨B, 0, none⟩), .int .u8 48] w fun e w' => e = .returned (.bool true) ∧ w = w' := by
  have c0 := h.cell (i := 48) (v := .bool true) rfl
  go_enter Tryz.func107, Tryz.ntmps107
  go_wp2
  go_ret
  exact ⟨rfl, rfl⟩
theorem has_49 (B : Nat) (w : World) (h : Blk w B 124 asT) : Calls Tryz.prog 107 #[.pointer (some ⟨B, 0, none⟩), .int .u8 49] w fun e w' => e = .returned (.bool true) ∧ w = w' := by
  have c0 := h.cell (i := 49) (v := .bool true) rfl
  go_enter Tryz.func107, Tryz.ntmps107
  go_wp2
  go_ret
  exact ⟨rfl, rfl⟩
set_option maxHeartbeats 1000000 in
theorem right_01 (B : Nat) (w : World) (h : Blk w B 124 asT) : Calls Tryz.prog 77 #[.string s01, .pointer (some ⟨B, 0, none⟩)] w fun e w' => e = .returned (.string sE) ∧ w = w' := by
  have HB := Lib.hid h; clear h
  obtain ⟨t, ht⟩ : ∃ t, t = s01 := ⟨_, rfl⟩
  obtain ⟨u, hu⟩ : ∃ u, u = s0 := ⟨_, rfl⟩
  obtain ⟨z, hzz⟩ : ∃ z, z = sE := ⟨_, rfl⟩
  have z2 : t.size = 2 := by rw [ht]; rfl
  have z1 : u.size = 1 := by rw [hu]; rfl
  have z0 : z.size = 0 := by rw [hzz]; rfl
  have q1 : ∀ w, (Instr.index 9 (.string t) (.int .i64 1)).run Tryz.prog w = .ok (.int .u8 49) w := fun w => by rw [ht]; kernel_rfl
  have q0 : ∀ w, (Instr.index 9 (.string u) (.int .i64 0)).run Tryz.prog w = .ok (.int .u8 48) w := fun w => by rw [hu]; kernel_rfl
  have e1 : ∀ w, (Instr.slice 9 (.string t) none (some (.int .i64 1)) none).run Tryz.prog w = .ok (.string u) w := fun w => by rw [ht, hu]; kernel_rfl
  have e0 : ∀ w, (Instr.slice 9 (.string u) none (some (.int .i64 0)) none).run Tryz.prog w = .ok (.string z) w := fun w => by rw [hu, hzz]; kernel_rfl
  rw [← ht, ← hzz]
  clear ht hu hzz
  go_enter Tryz.func77, Tryz.ntmps77
  go_wp2
  go_loopw [0] (fun s wr => wr = w ∧ (s = .string t ∨ s = .string u ∨ s = .string z)) (fun s _ => match s with | .string s => s.size | _ => 0)
  case atStart => exact ⟨rfl, Or.inl rfl⟩
  case round =>
    obtain ⟨rfl, rfl | rfl | rfl⟩ := hrel
    · go_wp2_with fail
      refine (has_49 B wr HB.out).mono ?_
      rintro e w' ⟨rfl, rfl⟩
      go_wp2
      exact ⟨⟨trivial, Or.inr (Or.inl rfl)⟩, by show u.size < t.size; omega⟩
    · go_wp2_with fail
      refine (has_48 B wr HB.out).mono ?_
      rintro e w' ⟨rfl, rfl⟩
      go_wp2
      exact ⟨⟨trivial, Or.inr (Or.inr rfl)⟩, by show z.size < u.size; omega⟩
    · go_wp2
      go_ret
      exact ⟨rfl, rfl⟩
theorem left_E (v : Value) (w : World) : Calls Tryz.prog 76 #[.string sE, v] w fun e w' => e = .returned (.string sE) ∧ w = w' := by
  unfold sE
  go_enter Tryz.func76, Tryz.ntmps76
  go_wp2
  go_loopw [0] (fun s wr => wr = w ∧ s = .string ⟨#[]⟩) (fun _ _ => 0)
  case atStart => exact ⟨rfl, rfl⟩
  case round =>
    obtain ⟨rfl, rfl⟩ := hrel
    go_wp2
    go_ret
    exact ⟨rfl, rfl⟩
set_option maxRecDepth 100000 in
set_option maxHeartbeats 1000000 in
theorem trim_01 (w : World) : Calls Tryz.prog 42 #[.string s01, .string s01] w fun e w' => e = .returned (.string sE) ∧ w.grownBy w' none := by
  have hA := Lib.hid (ascii_01 w)
  have hR := Lib.hid (fun B w h => right_01 B w h)
  have hL := Lib.hid (fun v w => left_E v w)
  obtain ⟨t, ht⟩ : ∃ t, t = s01 := ⟨_, rfl⟩
  have hz : t.size = 2 := by rw [ht]; rfl
  have hne : (t.toList == ([] : List UInt8)) = false := by rw [ht]; decide +kernel
  rw [← ht] at hA hR ⊢
  clear ht
  go_enter Tryz.func42, Tryz.ntmps42
  go_upto_region 5 with (fail)
  refine wp_region_lit ?_
  refine Fg.wpl_value (v := .string t) (w' := w) rfl (Fg.run_move rfl rfl) ?_
  simp only [Act.put, List.setIfInBounds_toArray, List.set_cons_succ, List.set_cons_zero]
  refine Fg.wpl_call rfl (Fg.run_call (vs := #[.string t]) rfl rfl (by simp only [List.map_toArray, List.map_cons, List.map_nil, Act.eval] <;> rfl) (Fg.run_enter Tryz.func75 (by kernel_rfl) (by kernel_rfl))) ?_
  refine (hA.out).mono ?_
  rintro e w1 ⟨rfl, gw1⟩
  refine ⟨_, rfl, ?_⟩
  simp only [Act.put, List.setIfInBounds_toArray, List.set_cons_succ, List.set_cons_zero]
  refine Fg.wpl_value (v := .tuple #[.agg asT.toArray, .bool true]) (w' := w1) rfl (Fg.run_move rfl rfl) ?_
  simp only [Act.put, List.setIfInBounds_toArray, List.set_cons_succ, List.set_cons_zero]
  refine Fg.wpl_value (v := .agg asT.toArray) (w' := w1) rfl (by go_simp <;> rfl) ?_
  simp only [Act.put, List.setIfInBounds_toArray, List.set_cons_succ, List.set_cons_zero]
  refine Fg.wpl_value (v := .bool true) (w' := w1) rfl (by go_simp <;> rfl) ?_
  simp only [Act.put, List.setIfInBounds_toArray, List.set_cons_succ, List.set_cons_zero]
  refine Fg.wpl_value (v := .pointer (some ⟨w1.heap.size, 0, none⟩)) (w' := w1.alloc (.cells asZ.toArray 124)) rfl (by go_simp; rfl) ?_
  simp only [Act.put, List.setIfInBounds_toArray, List.set_cons_succ, List.set_cons_zero]
  refine Fg.wpl_skip rfl rfl (Fg.run_store (cs := asT) rfl rfl rfl ((Blk.new w1 asZ 124).there 0 256 (by decide)) info_as rfl) ?_
  refine Fg.wpl_value (v := .bool true) (w' := _) rfl (Fg.run_assign rfl rfl) ?_
  simp only [Act.put, List.setIfInBounds_toArray, List.set_cons_succ, List.set_cons_zero]
  refine wpList_nil ?_
  have b3 : Blk ((w1.alloc (.cells asZ.toArray 124)).setCells w1.heap.size 0 asT) w1.heap.size 124 asT := (Blk.new w1 asZ 124).setAll rfl
  have g3 := gb_setCells_new (cs := asT) (gb_alloc (gb_refl w1 none) (.cells asZ.toArray 124)) (B := w1.heap.size) (Nat.le_refl _) 0
  obtain ⟨N5, hN5⟩ : ∃ N5, N5 = w1.heap.size := ⟨_, rfl⟩
  rw [← hN5] at b3 g3 ⊢
  clear hN5
  revert g3; revert b3
  generalize World.setCells _ _ _ _ = w4
  intro b3 g3
  have H4 := Lib.hid (And.intro (gb_trans gw1 g3) b3); clear gw1 g3 b3
  go_wp2_with fail
  refine (hR.out N5 w4 H4.out.2).mono ?_
  rintro e w5 ⟨rfl, rfl⟩
  go_wp2_with fail
  refine (hL.out _ w4).mono ?_
  rintro e w5 ⟨rfl, rfl⟩
  go_wp2
  go_ret
  exact ⟨rfl, H4.out.1⟩
theorem trim_E (w : World) : Calls Tryz.prog 42 #[.string ⟨#[]⟩, .string ⟨#[48, 49]⟩] w fun e w' => e = .returned (.string ⟨#[]⟩) ∧ w = w' := by
  go_enter Tryz.func42, Tryz.ntmps42
  go_wp2
  go_ret
  exact ⟨rfl, rfl⟩
theorem path_E (w : World) : Calls Tryz.prog 21 #[.string ⟨#[]⟩] w fun e w' => e = .returned (.bool true) ∧ w.grownBy w' none := by
  go_enter Tryz.func21, Tryz.ntmps21
  go_wp2_with fail
  refine (trim_E w).mono ?_
  rintro e w' ⟨rfl, rfl⟩
  go_wp2
  go_ret
  exact ⟨rfl, gb_refl _ _⟩
theorem path_01 (w : World) : Calls Tryz.prog 21 #[.string ⟨#[48, 49]⟩] w fun e w' => e = .returned (.bool true) ∧ w.grownBy w' none := by
  have hT := Lib.hid (trim_01 w)
  go_enter Tryz.func21, Tryz.ntmps21
  go_wp2_with fail
  refine hT.out.mono ?_
  rintro e w' ⟨rfl, hg⟩
  have HG := Lib.hid hg; clear hg
  unfold sE
  go_wp2
  go_ret
  exact ⟨rfl, HG.out⟩
end Mk
end Go.Proofs.YtabdegeaifajfaaGreatDoor
